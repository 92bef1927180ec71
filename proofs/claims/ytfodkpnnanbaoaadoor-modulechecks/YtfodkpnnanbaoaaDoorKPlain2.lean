/-
  The contracts of provisoplain.Classes and SameClasses. Conditions: the table fits.
-/
import Derived.Test.YtfodkpnnanbaoaaDoorKPlain
namespace Go.Proofs.YtfodkpnnanbaoaaDoor
open Go.RowKit
set_option maxRecDepth 20000

theorem ccells_at (w : World) (y : Cl) (t : TypeId) : ∀ (j : Nat) u, (ccells y)[j]? = some u → (w.alloc (.cells #[.string y.nm, .int .i64 y.par, .slice y.fo y.fs.length y.fc] t)).cell? ((⟨w.heap.size, 0, none⟩ : Addr).add j) = some u := by
  intro j u hj
  have hrow := heap_alloc_new w (.cells #[.string y.nm, .int .i64 y.par, .slice y.fo y.fs.length y.fc] t)
  rw [Addr.add_lit, cell_of_row _ _ _ _ _ _ hrow, Nat.zero_add]
  unfold ccells at hj
  match j, hj with
  | 0, hj => exact hj
  | 1, hj => exact hj
  | 2, hj => exact hj
theorem ccells_one (y : Cl) : ∀ u ∈ ccells y, u.oneCell' = true := by
  intro u hu
  simp [ccells] at hu
  rcases hu with rfl | rfl | rfl <;> rfl

theorem grownBy_set (W : World) (b o : Nat) (v : Value) : W.grownBy (W.setCell ⟨b, o, none⟩ v) (some b) :=
  ⟨rfl, rfl, rfl, by simp [World.setCell], fun k _ hk => Below.heap_setCell _ _ _ _ (fun e => hk (by rw [e]))⟩

set_option maxHeartbeats 2000000 in
theorem Classes_any (ao : Option Addr) (cap : Nat) (T : List Cl) (w : World) (h : TabAt w ao T) (hz : T.length * 48 ≤ 140737488351232) :
    Calls Tryd.prog 15 #[.slice ao T.length cap] w fun e w' => ∃ ga gc G, e = .returned (.slice ga (G : List Cl).length gc) ∧ TabAt w' ga G ∧ SameT T G ∧ Below w.heap.size w w' := by
  obtain ⟨i0, hi, hz0, hz1, hz2⟩ := info_parts infoC
  have H := hide h
  have HZ := hide hz
  have hT2 : T.length < 9223372036854775000 := by omega
  clear h hz
  go_enter Tryd.func15, Tryd.ntmps15
  go_wp2
  go_loopw [3, 8] (fun v i wr => ∃ (k : Nat) (G : List Cl), k ≤ T.length ∧ i = .int .i64 (k : Int) ∧ Hid (G.length = k) ∧ Hid (OwnC wr w.heap.size v G) ∧ Hid (∀ (i : Nat) x y, T[i]? = some x → G[i]? = some y → CopyC wr w.heap.size x y) ∧ Hid (Below w.heap.size w wr)) (fun _ i _ => T.length - (intOf i).toNat)
  case atStart => exact ⟨0, [], by omega, rfl, hide rfl, hide (World.ownsRow_nil _ _ _ _), hide (fun i x y _ hy => by simp at hy), hide (Below.refl _ _)⟩
  case round =>
    obtain ⟨k, G, hk, rfl, HL, HO, HC, HB⟩ := hrel
    by_cases hlt : k < T.length
    · have i1 : ((k : Nat) : Int) < ((T.length : Nat) : Int) := by omega
      have hx := List.getElem?_eq_getElem hlt
      obtain ⟨b, off, rfl, hxa⟩ := (unhide H).below (unhide HB) k _ hx
      have c0 := hxa.c0
      have c1 := hxa.c1
      have c2 := hxa.c2
      have HX := hide hx
      have HXA := hide hxa
      generalize T[k] = x at HX HXA c0 c1 c2
      clear hx hxa
      go_wp2_with fail
      obtain ⟨FB, HFB⟩ : ∃ FB, Hid (wr.heap.size = FB) := ⟨_, hide rfl⟩
      obtain ⟨wa, HWa⟩ : ∃ wa, Hid (wr.alloc (Obj.cells #[Value.string x.nm, Value.int IntKind.i64 x.par, Value.slice x.fo x.fs.length x.fc] 66) = wa) := ⟨_, hide rfl⟩
      have hBa : Below wr.heap.size wr wa := by rw [← unhide HWa]; exact (Below.refl _ _).alloc (Nat.le_refl _) _
      have hrow : wa.heap[FB]? = some (.cells #[Value.string x.nm, Value.int IntKind.i64 x.par, Value.slice x.fo x.fs.length x.fc] 66) := by rw [← unhide HWa, ← unhide HFB]; exact heap_alloc_new wr _
      rw [unhide HWa, unhide HFB]
      have hfb : FB < wa.heap.size := (Array.getElem?_eq_some_iff.1 hrow).1
      clear c0 c1 c2 HWa
      refine (cloneF_any x.fo x.fc x.fs _ ((unhide HXA).flds.below hBa) (fun e => ((unhide HXA).nil e).1) (unhide HXA).fit).mono ?_
      rintro e wb ⟨v1, rfl, hO1, hBb⟩
      have hrowb : wb.heap[FB]? = some (.cells #[Value.string x.nm, Value.int IntKind.i64 x.par, Value.slice x.fo x.fs.length x.fc] 66) := (hBb.block FB hfb).trans hrow
      have hok : ∀ f ∈ x.fs, FlOk f := fun f hf => by
        obtain ⟨j, hj, rfl⟩ := List.getElem_of_mem hf
        obtain ⟨_, _, _, hfl⟩ := (unhide HXA).flds j _ (List.getElem?_eq_getElem hj)
        exact ⟨hfl.name, hfl.ty⟩
      obtain ⟨fa, fc', rfl, _, _, _⟩ := hO1.at hok
      have b0 : wb.cell? ⟨FB, 0, none⟩ = some (.string x.nm) := by rw [cell_of_row _ _ _ _ _ _ hrowb]; rfl
      have b1 : wb.cell? ⟨FB, 1, none⟩ = some (.int .i64 x.par) := by rw [cell_of_row _ _ _ _ _ _ hrowb]; rfl
      have b2 : wb.cell? ⟨FB, 2, none⟩ = some (.slice x.fo x.fs.length x.fc) := by rw [cell_of_row _ _ _ _ _ _ hrowb]; rfl
      have bf : wb.frozen? ⟨FB, 2, none⟩ = false := frozen_of_row _ _ _ _ _ hrowb
      have hBb' : Below wr.heap.size wr wb := hBa.trans (hBb.mono hBa.size)
      have hBc : Below wr.heap.size wr (wb.setCell ⟨FB, 2, none⟩ (.slice fa x.fs.length fc')) := hBb'.setCell (p := ⟨FB, 2, none⟩) (by rw [unhide HFB]; exact Nat.le_refl _) _
      have hOc : OwnF (wb.setCell ⟨FB, 2, none⟩ (.slice fa x.fs.length fc')) w.heap.size (.slice fa x.fs.length fc') x.fs := by
        refine rowMono (World.ownsRow.kept hO1 (grownBy_set wb FB 2 _) ?_) (Nat.le_trans (unhide HB).size hBa.size)
        cases hb : (Value.slice fa x.fs.length fc').ownBlock with
        | none => exact .inl rfl
        | some q =>
          right
          intro e
          injection e with e
          have := (World.ownsRow.lt hO1 q hb).1
          omega
      have hsz : (wb.setCell ⟨FB, 2, none⟩ (.slice fa x.fs.length fc')).heap.size = wb.heap.size := by simp [World.setCell]
      have hsrc := ccells_at (wb.setCell ⟨FB, 2, none⟩ (.slice fa x.fs.length fc')) ⟨x.nm, x.par, fa, fc', x.fs⟩ 66
      rw [hsz] at hsrc
      have HSr := hide hsrc
      have hBd : Below wr.heap.size wr ((wb.setCell ⟨FB, 2, none⟩ (.slice fa x.fs.length fc')).alloc (.cells #[.string x.nm, .int .i64 x.par, .slice fa x.fs.length fc'] 66)) := hBc.alloc hBc.size _
      have HBd := hide hBd
      have HOd : Hid (OwnC ((wb.setCell ⟨FB, 2, none⟩ (.slice fa x.fs.length fc')).alloc (.cells #[.string x.nm, .int .i64 x.par, .slice fa x.fs.length fc'] 66)) w.heap.size _ G) := hide (rowBelow (unhide HO) hBd)
      have HOf : Hid (OwnF ((wb.setCell ⟨FB, 2, none⟩ (.slice fa x.fs.length fc')).alloc (.cells #[.string x.nm, .int .i64 x.par, .slice fa x.fs.length fc'] 66)) w.heap.size (.slice fa x.fs.length fc') x.fs) := hide (World.ownsRow.alloc hOc _)
      have hbase : w.heap.size ≤ (wb.setCell ⟨FB, 2, none⟩ (.slice fa x.fs.length fc')).heap.size := Nat.le_trans (unhide HB).size hBc.size
      have hgk := unhide HL
      have hkz := unhide HZ
      have HGk : Hid (G.length + 1 ≤ maxLen ∧ (G.length + 1) * 48 ≤ 140737488355328) := hide (by unfold maxLen; omega)
      clear hBa hBb hBb' hBc hOc hrow hrowb hO1 hsz hfb hsrc hBd hgk hkz
      go_wp2_with (at_builtin; refine wpList_append_own _ rfl _ _ 22 rfl w.heap.size 66 i0 (.agg #[.string ⟨#[]⟩, .int .i64 0, .slice none 0 0]) 3 48 Tryd.underlying22 hi hz0 hz1 hz2 rfl (by decide) _ G.length (cvals G) rfl (unhide HOd) ⟨wb.heap.size, 0, none⟩ 1 1 (ccells ⟨x.nm, x.par, fa, fc', x.fs⟩) rfl rfl (unhide HSr) (ccells_one _) (unhide HGk).1 (unhide HGk).2 ?a5 ?_)
      case a5 => rw [World.size_alloc]; omega
      intro v' w2 hO' hG' _
      have HO2 : Hid (OwnC w2 w.heap.size v' (G ++ [⟨x.nm, x.par, fa, fc', x.fs⟩])) := hide (by unfold OwnC; rw [cvals_snoc, List.length_append]; exact hO')
      have HL2 : Hid ((G ++ [(⟨x.nm, x.par, fa, fc', x.fs⟩ : Cl)]).length = k + 1) := hide (by rw [List.length_append, unhide HL]; rfl)
      have HC2 : Hid (∀ (i : Nat) x' y', T[i]? = some x' → (G ++ [(⟨x.nm, x.par, fa, fc', x.fs⟩ : Cl)])[i]? = some y' → CopyC w2 w.heap.size x' y') := hide (fun i x' y' hx' hy' => by
        have hl := unhide HL
        by_cases e : i < G.length
        · rw [List.getElem?_append_left e] at hy'
          exact ((unhide HC i x' y' hx' hy').below (unhide HBd)).grown (unhide HOd) hG'
        · rw [List.getElem?_append_right (by omega)] at hy'
          have e2 : i - G.length = 0 := by
            have := (List.getElem?_eq_some_iff.1 hy').1
            simp at this
            omega
          rw [e2] at hy'
          simp at hy'
          subst hy'
          have e3 : i = k := by omega
          subst e3
          rw [unhide HX] at hx'
          injection hx' with hx'
          subst hx'
          have hcc : CopyC ((wb.setCell ⟨FB, 2, none⟩ (.slice fa x.fs.length fc')).alloc (.cells #[.string x.nm, .int .i64 x.par, .slice fa x.fs.length fc'] 66)) w.heap.size x ⟨x.nm, x.par, fa, fc', x.fs⟩ := ⟨⟨rfl, rfl, rfl⟩, unhide HOf⟩
          exact hcc.grown (unhide HOd) hG')
      have HB2 := hide (((unhide HB).trans ((unhide HBd).mono (unhide HB).size)).grown hG' (by rw [World.size_alloc]; omega) (fun q e => ((unhide HOd).lt q e).1))
      clear hO' hG' HO HC HB HSr HOd HOf HBd hbase HGk HL b0 b1 b2 bf
      go_wp2
      go_roundw
      case rel => exact ⟨k + 1, _, by omega, by go_num, HL2, HO2, HC2, HB2⟩
      case measure => simp [intOf]; omega
    · have i1 : ¬ ((k : Nat) : Int) < ((T.length : Nat) : Int) := by omega
      have ek : k = T.length := by omega
      obtain ⟨ga, gc, rfl, hTab, hS⟩ := copy_tab (unhide H) (unhide HO) (by rw [unhide HL]; exact ek) (unhide HC)
      have HR := hide (And.intro hTab hS)
      clear ek hTab hS
      go_wp2
      go_ret
      exact ⟨ga, gc, G, rfl, (unhide HR).1, (unhide HR).2, unhide HB⟩

set_option maxHeartbeats 4000000 in
theorem Same_yes (ga ao : Option Addr) (gc cap : Nat) (T G : List Cl) (w : World) (hG : TabAt w ga G) (hT : TabAt w ao T) (hs : SameT T G) (hz : T.length * 48 ≤ 140737488351232) :
    Calls Tryd.prog 25 #[.slice ga G.length gc, .slice ao T.length cap] w fun e w' => e = .returned (.bool true) ∧ ∃ k, w' = w.drewN k := by
  have hl := hs.1
  rw [hl]
  have e0 : (((T.length : Nat) : Int) != ((T.length : Nat) : Int)) = false := by simp
  have HG := hide hG
  have HT := hide hT
  have HS := hide hs
  have HLn := hide hl
  have hT2 : T.length < 9223372036854775000 := by omega
  clear hG hT hs hl hz
  go_enter Tryd.func25, Tryd.ntmps25
  go_wp2
  go_loopw [13] (fun i wr => ∃ k : Nat, k ≤ T.length ∧ i = .int .i64 (k : Int) ∧ ∃ q, wr = w.drewN q) (fun i _ => T.length - (intOf i).toNat)
  case atStart => exact ⟨0, by omega, rfl, 0, rfl⟩
  case round =>
    obtain ⟨k, hk, rfl, q, rfl⟩ := hrel
    by_cases hlt : k < T.length
    · have i1 : ((k : Nat) : Int) < ((T.length : Nat) : Int) := by omega
      have hx := List.getElem?_eq_getElem hlt
      have hkG : k < G.length := by have := unhide HLn; omega
      have hy := List.getElem?_eq_getElem hkG
      have hsc := (unhide HS).2 k _ _ hx hy
      obtain ⟨b, off, rfl, hxa⟩ := unhide HT k _ hx
      obtain ⟨b', off', rfl, hya⟩ := unhide HG k _ hy
      have c0 := hxa.c0
      have c1 := hxa.c1
      have c2 := hxa.c2
      have d0 := hya.c0
      have d1 := hya.c1
      have d2 := hya.c2
      rw [hsc.nm] at d0
      rw [hsc.par] at d1
      rw [hsc.fs] at d2
      obtain ⟨W, HW⟩ : ∃ W, Hid (w.drewN q = W) := ⟨_, hide rfl⟩
      have hbW : Below w.heap.size w W := by rw [← unhide HW]; exact below_drew _ _
      have HE : Hid (∀ n, Calls Tryd.prog 45 #[.slice G[k].fo T[k].fs.length G[k].fc, .slice T[k].fo T[k].fs.length T[k].fc] (W.drewN n) fun e w' => e = .returned (.bool true) ∧ ∃ j, w' = (W.drewN n).drewN j) := hide (fun n => equalF_yes _ _ _ _ _ _ (by have := hya.flds; rw [hsc.fs] at this; exact (this.below hbW).below (below_drew _ _)) ((hxa.flds.below hbW).below (below_drew _ _)) hxa.fit)
      have lb := World.block_lt_of_cell? w _ c0
      have lb' := World.block_lt_of_cell? w _ d0
      have c0 := (hbW.cell (p := ⟨b, off + k * 3, none⟩) lb).trans c0
      have c1 := (hbW.cell (p := ⟨b, off + k * 3 + 1, none⟩) lb).trans c1
      have c2 := (hbW.cell (p := ⟨b, off + k * 3 + 2, none⟩) lb).trans c2
      have d0 := (hbW.cell (p := ⟨b', off' + k * 3, none⟩) lb').trans d0
      have d1 := (hbW.cell (p := ⟨b', off' + k * 3 + 1, none⟩) lb').trans d1
      have d2 := (hbW.cell (p := ⟨b', off' + k * 3 + 2, none⟩) lb').trans d2
      rw [unhide HW]
      generalize G[k].fo = gfo at d2 HE
      generalize G[k].fc = gfc at d2 HE
      generalize T[k] = x at c0 c1 c2 d0 d1 d2 HE
      have e1 : (x.nm.toList != x.nm.toList) = false := by simp
      have e2 : (x.par != x.par) = false := by simp
      clear hx hy hsc hxa hya lb lb' hbW
      go_wp2
      go_quiet ((go_at_call 45; exact Calls.quiet_of (unhide HE _)))
      go_wp2
      go_roundw
      case rel => exact ⟨k + 1, by omega, by go_num, q + nq, by rw [← unhide HW, drew2]⟩
      case measure => simp [intOf]; omega
    · have i1 : ¬ ((k : Nat) : Int) < ((T.length : Nat) : Int) := by omega
      go_wp2
      go_ret
      exact ⟨rfl, _, rfl⟩
end Go.Proofs.YtfodkpnnanbaoaaDoor
