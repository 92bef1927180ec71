/-
  provisoplain.Classes once more, with the copy's room; and that a table and its copy have the same faults.
-/
import Derived.Test.YtfodkpnnanbaoaaDoorKSameT
import Derived.Test.YtfodkpnnanbaoaaDoorKChkA
namespace Go.Proofs.YtfodkpnnanbaoaaDoor
open Go.RowKit
set_option maxRecDepth 20000

theorem own_cap {w : World} {base : Nat} {v : Value} {G : List Cl} {ga : Option Addr} {gc : Nat} (hO : OwnC w base v G) (e : v = .slice ga G.length gc) : G.length ≤ gc := by
  rcases hO.2 with ⟨h1, h2⟩ | ⟨g, cap, cur, rfl, hb, hh, hn, hm, hsz, ht⟩
  · omega
  · injection e with _ _ e2
    omega

set_option maxHeartbeats 2000000 in
theorem Classes_cap (ao : Option Addr) (cap : Nat) (T : List Cl) (w : World) (h : TabAt w ao T) (hz : T.length * 48 ≤ 140737488351232) :
    Calls Tryd.prog 15 #[.slice ao T.length cap] w fun e w' => ∃ ga gc G, e = .returned (.slice ga (G : List Cl).length gc) ∧ TabAt w' ga G ∧ SameT T G ∧ Below w.heap.size w w' ∧ G.length ≤ gc := by
  obtain ⟨i0, hi, hz0, hz1, hz2⟩ := info_parts infoC
  have H := hide h
  have HZ := hide hz
  have hT2 : T.length < 9223372036854775000 := by omega
  clear h hz
  go_enter Tryd.func15, Tryd.ntmps15
  go_wp2
  go_loopw [3, 8] (fun v i wr => ∃ (k : Nat) (G : List Cl), k ≤ T.length ∧ i = .int .i64 (k : Int) ∧ Hid (G.length = k) ∧ Hid (OwnC wr w.heap.size v G) ∧ Hid (∀ (i : Nat) x y, T[i]? = some x → G[i]? = some y → CopyC wr w.heap.size x y) ∧ Hid (Below w.heap.size w wr)) (fun _ i _ => T.length - (intOf i).toNat)
  case atStart => exact ⟨0, [], by omega, rfl, hide rfl, hide (World.ownsRow_nil _ _ _ _), hide (fun i x y _ hy => by simp at hy), hide (Below.refl _ _)⟩
  case round =>
    obtain ⟨k, G, hk, rfl, HL, HO, HC, HB⟩ := hrel
    by_cases hlt : k < T.length
    · have i1 : ((k : Nat) : Int) < ((T.length : Nat) : Int) := by omega
      have hx := List.getElem?_eq_getElem hlt
      obtain ⟨b, off, rfl, hxa⟩ := (unhide H).below (unhide HB) k _ hx
      have c0 := hxa.c0
      have c1 := hxa.c1
      have c2 := hxa.c2
      have HX := hide hx
      have HXA := hide hxa
      generalize T[k] = x at HX HXA c0 c1 c2
      clear hx hxa
      go_wp2_with fail
      obtain ⟨FB, HFB⟩ : ∃ FB, Hid (wr.heap.size = FB) := ⟨_, hide rfl⟩
      obtain ⟨wa, HWa⟩ : ∃ wa, Hid (wr.alloc (Obj.cells #[Value.string x.nm, Value.int IntKind.i64 x.par, Value.slice x.fo x.fs.length x.fc] 66) = wa) := ⟨_, hide rfl⟩
      have hBa : Below wr.heap.size wr wa := by rw [← unhide HWa]; exact (Below.refl _ _).alloc (Nat.le_refl _) _
      have hrow : wa.heap[FB]? = some (.cells #[Value.string x.nm, Value.int IntKind.i64 x.par, Value.slice x.fo x.fs.length x.fc] 66) := by rw [← unhide HWa, ← unhide HFB]; exact heap_alloc_new wr _
      rw [unhide HWa, unhide HFB]
      have hfb : FB < wa.heap.size := (Array.getElem?_eq_some_iff.1 hrow).1
      clear c0 c1 c2 HWa
      refine (cloneF_any x.fo x.fc x.fs _ ((unhide HXA).flds.below hBa) (fun e => ((unhide HXA).nil e).1) (unhide HXA).fit).mono ?_
      rintro e wb ⟨v1, rfl, hO1, hBb⟩
      have hrowb : wb.heap[FB]? = some (.cells #[Value.string x.nm, Value.int IntKind.i64 x.par, Value.slice x.fo x.fs.length x.fc] 66) := (hBb.block FB hfb).trans hrow
      have hok : ∀ f ∈ x.fs, FlOk f := fun f hf => by
        obtain ⟨j, hj, rfl⟩ := List.getElem_of_mem hf
        obtain ⟨_, _, _, hfl⟩ := (unhide HXA).flds j _ (List.getElem?_eq_getElem hj)
        exact ⟨hfl.name, hfl.ty⟩
      obtain ⟨fa, fc', rfl, _, _, _⟩ := hO1.at hok
      have b0 : wb.cell? ⟨FB, 0, none⟩ = some (.string x.nm) := by rw [cell_of_row _ _ _ _ _ _ hrowb]; rfl
      have b1 : wb.cell? ⟨FB, 1, none⟩ = some (.int .i64 x.par) := by rw [cell_of_row _ _ _ _ _ _ hrowb]; rfl
      have b2 : wb.cell? ⟨FB, 2, none⟩ = some (.slice x.fo x.fs.length x.fc) := by rw [cell_of_row _ _ _ _ _ _ hrowb]; rfl
      have bf : wb.frozen? ⟨FB, 2, none⟩ = false := frozen_of_row _ _ _ _ _ hrowb
      have hBb' : Below wr.heap.size wr wb := hBa.trans (hBb.mono hBa.size)
      have hBc : Below wr.heap.size wr (wb.setCell ⟨FB, 2, none⟩ (.slice fa x.fs.length fc')) := hBb'.setCell (p := ⟨FB, 2, none⟩) (by rw [unhide HFB]; exact Nat.le_refl _) _
      have hOc : OwnF (wb.setCell ⟨FB, 2, none⟩ (.slice fa x.fs.length fc')) w.heap.size (.slice fa x.fs.length fc') x.fs := by
        refine rowMono (World.ownsRow.kept hO1 (grownBy_set wb FB 2 _) ?_) (Nat.le_trans (unhide HB).size hBa.size)
        cases hb : (Value.slice fa x.fs.length fc').ownBlock with
        | none => exact .inl rfl
        | some q =>
          right
          intro e
          injection e with e
          have := (World.ownsRow.lt hO1 q hb).1
          omega
      have hsz : (wb.setCell ⟨FB, 2, none⟩ (.slice fa x.fs.length fc')).heap.size = wb.heap.size := by simp [World.setCell]
      have hsrc := ccells_at (wb.setCell ⟨FB, 2, none⟩ (.slice fa x.fs.length fc')) ⟨x.nm, x.par, fa, fc', x.fs⟩ 66
      rw [hsz] at hsrc
      have HSr := hide hsrc
      have hBd : Below wr.heap.size wr ((wb.setCell ⟨FB, 2, none⟩ (.slice fa x.fs.length fc')).alloc (.cells #[.string x.nm, .int .i64 x.par, .slice fa x.fs.length fc'] 66)) := hBc.alloc hBc.size _
      have HBd := hide hBd
      have HOd : Hid (OwnC ((wb.setCell ⟨FB, 2, none⟩ (.slice fa x.fs.length fc')).alloc (.cells #[.string x.nm, .int .i64 x.par, .slice fa x.fs.length fc'] 66)) w.heap.size _ G) := hide (rowBelow (unhide HO) hBd)
      have HOf : Hid (OwnF ((wb.setCell ⟨FB, 2, none⟩ (.slice fa x.fs.length fc')).alloc (.cells #[.string x.nm, .int .i64 x.par, .slice fa x.fs.length fc'] 66)) w.heap.size (.slice fa x.fs.length fc') x.fs) := hide (World.ownsRow.alloc hOc _)
      have hbase : w.heap.size ≤ (wb.setCell ⟨FB, 2, none⟩ (.slice fa x.fs.length fc')).heap.size := Nat.le_trans (unhide HB).size hBc.size
      have hgk := unhide HL
      have hkz := unhide HZ
      have HGk : Hid (G.length + 1 ≤ maxLen ∧ (G.length + 1) * 48 ≤ 140737488355328) := hide (by unfold maxLen; omega)
      clear hBa hBb hBb' hBc hOc hrow hrowb hO1 hsz hfb hsrc hBd hgk hkz
      go_wp2_with (at_builtin; refine wpList_append_own _ rfl _ _ 22 rfl w.heap.size 66 i0 (.agg #[.string ⟨#[]⟩, .int .i64 0, .slice none 0 0]) 3 48 Tryd.underlying22 hi hz0 hz1 hz2 rfl (by decide) _ G.length (cvals G) rfl (unhide HOd) ⟨wb.heap.size, 0, none⟩ 1 1 (ccells ⟨x.nm, x.par, fa, fc', x.fs⟩) rfl rfl (unhide HSr) (ccells_one _) (unhide HGk).1 (unhide HGk).2 ?a5 ?_)
      case a5 => rw [World.size_alloc]; omega
      intro v' w2 hO' hG' _
      have HO2 : Hid (OwnC w2 w.heap.size v' (G ++ [⟨x.nm, x.par, fa, fc', x.fs⟩])) := hide (by unfold OwnC; rw [cvals_snoc, List.length_append]; exact hO')
      have HL2 : Hid ((G ++ [(⟨x.nm, x.par, fa, fc', x.fs⟩ : Cl)]).length = k + 1) := hide (by rw [List.length_append, unhide HL]; rfl)
      have HC2 : Hid (∀ (i : Nat) x' y', T[i]? = some x' → (G ++ [(⟨x.nm, x.par, fa, fc', x.fs⟩ : Cl)])[i]? = some y' → CopyC w2 w.heap.size x' y') := hide (fun i x' y' hx' hy' => by
        have hl := unhide HL
        by_cases e : i < G.length
        · rw [List.getElem?_append_left e] at hy'
          exact ((unhide HC i x' y' hx' hy').below (unhide HBd)).grown (unhide HOd) hG'
        · rw [List.getElem?_append_right (by omega)] at hy'
          have e2 : i - G.length = 0 := by
            have := (List.getElem?_eq_some_iff.1 hy').1
            simp at this
            omega
          rw [e2] at hy'
          simp at hy'
          subst hy'
          have e3 : i = k := by omega
          subst e3
          rw [unhide HX] at hx'
          injection hx' with hx'
          subst hx'
          have hcc : CopyC ((wb.setCell ⟨FB, 2, none⟩ (.slice fa x.fs.length fc')).alloc (.cells #[.string x.nm, .int .i64 x.par, .slice fa x.fs.length fc'] 66)) w.heap.size x ⟨x.nm, x.par, fa, fc', x.fs⟩ := ⟨⟨rfl, rfl, rfl⟩, unhide HOf⟩
          exact hcc.grown (unhide HOd) hG')
      have HB2 := hide (((unhide HB).trans ((unhide HBd).mono (unhide HB).size)).grown hG' (by rw [World.size_alloc]; omega) (fun q e => ((unhide HOd).lt q e).1))
      clear hO' hG' HO HC HB HSr HOd HOf HBd hbase HGk HL b0 b1 b2 bf
      go_wp2
      go_roundw
      case rel => exact ⟨k + 1, _, by omega, by go_num, HL2, HO2, HC2, HB2⟩
      case measure => simp [intOf]; omega
    · have i1 : ¬ ((k : Nat) : Int) < ((T.length : Nat) : Int) := by omega
      have ek : k = T.length := by omega
      have hcp := fun ga gc e => own_cap (ga := ga) (gc := gc) (unhide HO) e
      obtain ⟨ga, gc, rfl, hTab, hS⟩ := copy_tab (unhide H) (unhide HO) (by rw [unhide HL]; exact ek) (unhide HC)
      have HCP := hide (hcp ga gc rfl)
      clear hcp
      have HR := hide (And.intro hTab hS)
      clear ek hTab hS
      go_wp2
      go_ret
      exact ⟨ga, gc, G, rfl, (unhide HR).1, (unhide HR).2, unhide HB, unhide HCP⟩


theorem lineR_congr {T G : List Cl} (h : ∀ c, parD G c = parD T c) (hl : G.length = T.length) : ∀ (k : Nat) (c : Int), lineR G k c = lineR T k c
  | 0, c => rfl
  | k + 1, c => by
    unfold lineR
    rw [hl, h, lineR_congr h hl k]
theorem SameT.fieldsD {T G : List Cl} (h : SameT T G) (c : Int) : fieldsD G c = fieldsD T c := by
  unfold Proofs.YtfodkpnnanbaoaaDoor.fieldsD lineD
  rw [h.1, lineR_congr h.par h.1]
  congr 1
  funext k
  exact h.fsd k
theorem SameT.twice {T G : List Cl} (h : SameT T G) (c : Nat) (s : ByteArray) : twiceD G c s = twiceD T c s := by
  have e : ∀ L : List Cl, twiceD L c s = ((L.map Cl.nm).take c).any (fun y => y.toList == s.toList) := fun L => by
    unfold twiceD
    rw [← List.map_take, List.any_map]
    rfl
  rw [e, e, h.names]
theorem SameT.fault {T G : List Cl} (h : SameT T G) (c : Nat) : faultD G c = faultD T c := by
  unfold faultD
  by_cases hc : c < T.length
  · have hx := List.getElem?_eq_getElem hc
    have hy := List.getElem?_eq_getElem (show c < G.length by have := h.1; omega)
    have hs := h.2 c _ _ hx hy
    rw [hx, hy]
    simp only
    rw [hs.nm, hs.par, hs.fs, h.twice, h.fieldsD, h.1]
  · rw [List.getElem?_eq_none (show T.length ≤ c by omega), List.getElem?_eq_none (show G.length ≤ c by have := h.1; omega)]

/-- The first fault is one, in a table and its copy. -/
theorem first_one {T G : List Cl} (h : SameT T G) {n m : Nat} {e why : Int} (h1 : (n = 0 ∧ e = 0 ∧ madeD G = true) ∨ IsFirst G n e) (h2 : (m = 0 ∧ why = 0 ∧ madeD T = true) ∨ IsFirst T m why) : n = m ∧ e = why := by
  have hl := h.1
  rcases h1 with ⟨a1, a2, a3⟩ | ⟨a1, a2, a3, a4⟩ <;> rcases h2 with ⟨b1, b2, b3⟩ | ⟨b1, b2, b3, b4⟩
  · omega
  · have := madeD_all a3 m (by omega)
    rw [h.fault] at this
    omega
  · have := madeD_all b3 n (by omega)
    rw [← h.fault] at this
    omega
  · have hnm : n = m := by
      rcases Nat.lt_trichotomy n m with g | g | g
      · have := b1 n g
        rw [← h.fault] at this
        omega
      · exact g
      · have := a1 m g
        rw [h.fault] at this
        omega
    refine ⟨hnm, ?_⟩
    rw [h.fault, hnm] at a4
    omega
end Go.Proofs.YtfodkpnnanbaoaaDoor
