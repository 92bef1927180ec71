/-
  provisoplain.Classes with what its copy owns; the copy while it is spoilt; pair.act, whatever the kind.
-/
import Derived.Test.YtbbfnampjbdnbaaDoorJCH
import Derived.Test.YtbbfnampjbdnbaaDoorJHE
import Derived.Test.YtbbfnampjbdnbaaDoorKHs5
import Derived.Test.YtbbfnampjbdnbaaDoorKHs6
import Derived.Test.YtbbfnampjbdnbaaDoorKHs8
namespace Go.Proofs.YtbbfnampjbdnbaaDoor
open Go.RowKit
set_option maxRecDepth 20000
set_option linter.unusedVariables false
set_option linter.unusedSimpArgs false

set_option maxHeartbeats 2000000 in
theorem ClassesO_any (ao : Option Addr) (cap : Nat) (T : List Cl) (w : World) (h : TabAt w ao T) (hz : T.length * 48 ≤ 140737488351232) :
    Calls Tryd.prog 4 #[.slice ao T.length cap] w fun e w' => ∃ ga gc G, e = .returned (.slice ga (G : List Cl).length gc) ∧ TabAt w' ga G ∧ SameT T G ∧ Below w.heap.size w w' ∧ G.length ≤ gc ∧ OwnC w' w.heap.size (.slice ga G.length gc) G ∧ (∀ y ∈ G, OwnF w' w.heap.size (.slice y.fo y.fs.length y.fc) y.fs) := by
  obtain ⟨i0, hi, hz0, hz1, hz2⟩ := info_parts infoC
  have H := hide h
  have HZ := hide hz
  have hT2 : T.length < 9223372036854775000 := by omega
  clear h hz
  go_enter Tryd.func4, Tryd.ntmps4
  go_wp2
  go_loopw [3, 8] (fun v i wr => ∃ (k : Nat) (G : List Cl), k ≤ T.length ∧ i = .int .i64 (k : Int) ∧ Hid (G.length = k) ∧ Hid (OwnC wr w.heap.size v G) ∧ Hid (∀ (i : Nat) x y, T[i]? = some x → G[i]? = some y → CopyC wr w.heap.size x y) ∧ Hid (Below w.heap.size w wr)) (fun _ i _ => T.length - (intOf i).toNat)
  case atStart => exact ⟨0, [], by omega, rfl, hide rfl, hide (World.ownsRow_nil _ _ _ _), hide (fun i x y _ hy => by simp at hy), hide (Below.refl _ _)⟩
  case round =>
    obtain ⟨k, G, hk, rfl, HL, HO, HC, HB⟩ := hrel
    by_cases hlt : k < T.length
    · have i1 : ((k : Nat) : Int) < ((T.length : Nat) : Int) := by omega
      have hx := List.getElem?_eq_getElem hlt
      obtain ⟨b, off, rfl, hxa⟩ := (unhide H).below (unhide HB) k _ hx
      have c0 := hxa.c0
      have c1 := hxa.c1
      have c2 := hxa.c2
      have HX := hide hx
      have HXA := hide hxa
      generalize T[k] = x at HX HXA c0 c1 c2
      clear hx hxa
      go_wp2_with fail
      obtain ⟨FB, HFB⟩ : ∃ FB, Hid (wr.heap.size = FB) := ⟨_, hide rfl⟩
      obtain ⟨wa, HWa⟩ : ∃ wa, Hid (wr.alloc (Obj.cells #[Value.string x.nm, Value.int IntKind.i64 x.par, Value.slice x.fo x.fs.length x.fc] 38) = wa) := ⟨_, hide rfl⟩
      have hBa : Below wr.heap.size wr wa := by rw [← unhide HWa]; exact (Below.refl _ _).alloc (Nat.le_refl _) _
      have hrow : wa.heap[FB]? = some (.cells #[Value.string x.nm, Value.int IntKind.i64 x.par, Value.slice x.fo x.fs.length x.fc] 38) := by rw [← unhide HWa, ← unhide HFB]; exact heap_alloc_new wr _
      rw [unhide HWa, unhide HFB]
      have hfb : FB < wa.heap.size := (Array.getElem?_eq_some_iff.1 hrow).1
      clear c0 c1 c2 HWa
      refine (cloneF_any x.fo x.fc x.fs _ ((unhide HXA).flds.below hBa) (fun e => ((unhide HXA).nil e).1) (unhide HXA).fit).mono ?_
      rintro e wb ⟨v1, rfl, hO1, hBb⟩
      have hrowb : wb.heap[FB]? = some (.cells #[Value.string x.nm, Value.int IntKind.i64 x.par, Value.slice x.fo x.fs.length x.fc] 38) := (hBb.block FB hfb).trans hrow
      have hok : ∀ f ∈ x.fs, FlOk f := fun f hf => by
        obtain ⟨j, hj, rfl⟩ := List.getElem_of_mem hf
        obtain ⟨_, _, _, hfl⟩ := (unhide HXA).flds j _ (List.getElem?_eq_getElem hj)
        exact ⟨hfl.name, hfl.ty⟩
      obtain ⟨fa, fc', rfl, _, _, _⟩ := hO1.at hok
      have b0 : wb.cell? ⟨FB, 0, none⟩ = some (.string x.nm) := by rw [cell_of_row _ _ _ _ _ _ hrowb]; rfl
      have b1 : wb.cell? ⟨FB, 1, none⟩ = some (.int .i64 x.par) := by rw [cell_of_row _ _ _ _ _ _ hrowb]; rfl
      have b2 : wb.cell? ⟨FB, 2, none⟩ = some (.slice x.fo x.fs.length x.fc) := by rw [cell_of_row _ _ _ _ _ _ hrowb]; rfl
      have bf : wb.frozen? ⟨FB, 2, none⟩ = false := frozen_of_row _ _ _ _ _ hrowb
      have hBb' : Below wr.heap.size wr wb := hBa.trans (hBb.mono hBa.size)
      have hBc : Below wr.heap.size wr (wb.setCell ⟨FB, 2, none⟩ (.slice fa x.fs.length fc')) := hBb'.setCell (p := ⟨FB, 2, none⟩) (by rw [unhide HFB]; exact Nat.le_refl _) _
      have hOc : OwnF (wb.setCell ⟨FB, 2, none⟩ (.slice fa x.fs.length fc')) w.heap.size (.slice fa x.fs.length fc') x.fs := by
        refine rowMono (World.ownsRow.kept hO1 (grownBy_set wb FB 2 _) ?_) (Nat.le_trans (unhide HB).size hBa.size)
        cases hb : (Value.slice fa x.fs.length fc').ownBlock with
        | none => exact .inl rfl
        | some q =>
          right
          intro e
          injection e with e
          have := (World.ownsRow.lt hO1 q hb).1
          omega
      have hsz : (wb.setCell ⟨FB, 2, none⟩ (.slice fa x.fs.length fc')).heap.size = wb.heap.size := by simp [World.setCell]
      have hsrc := ccells_at (wb.setCell ⟨FB, 2, none⟩ (.slice fa x.fs.length fc')) ⟨x.nm, x.par, fa, fc', x.fs⟩ 38
      rw [hsz] at hsrc
      have HSr := hide hsrc
      have hBd : Below wr.heap.size wr ((wb.setCell ⟨FB, 2, none⟩ (.slice fa x.fs.length fc')).alloc (.cells #[.string x.nm, .int .i64 x.par, .slice fa x.fs.length fc'] 38)) := hBc.alloc hBc.size _
      have HBd := hide hBd
      have HOd : Hid (OwnC ((wb.setCell ⟨FB, 2, none⟩ (.slice fa x.fs.length fc')).alloc (.cells #[.string x.nm, .int .i64 x.par, .slice fa x.fs.length fc'] 38)) w.heap.size _ G) := hide (rowBelow (unhide HO) hBd)
      have HOf : Hid (OwnF ((wb.setCell ⟨FB, 2, none⟩ (.slice fa x.fs.length fc')).alloc (.cells #[.string x.nm, .int .i64 x.par, .slice fa x.fs.length fc'] 38)) w.heap.size (.slice fa x.fs.length fc') x.fs) := hide (World.ownsRow.alloc hOc _)
      have hbase : w.heap.size ≤ (wb.setCell ⟨FB, 2, none⟩ (.slice fa x.fs.length fc')).heap.size := Nat.le_trans (unhide HB).size hBc.size
      have hgk := unhide HL
      have hkz := unhide HZ
      have HGk : Hid (G.length + 1 ≤ maxLen ∧ (G.length + 1) * 48 ≤ 140737488355328) := hide (by unfold maxLen; omega)
      clear hBa hBb hBb' hBc hOc hrow hrowb hO1 hsz hfb hsrc hBd hgk hkz
      go_wp2_with (at_builtin; refine wpList_append_own _ rfl _ _ 22 rfl w.heap.size 38 i0 (.agg #[.string ⟨#[]⟩, .int .i64 0, .slice none 0 0]) 3 48 Tryd.underlying22 hi hz0 hz1 hz2 rfl (by decide) _ G.length (cvals G) rfl (unhide HOd) ⟨wb.heap.size, 0, none⟩ 1 1 (ccells ⟨x.nm, x.par, fa, fc', x.fs⟩) rfl rfl (unhide HSr) (ccells_one _) (unhide HGk).1 (unhide HGk).2 ?a5 ?_)
      case a5 => rw [World.size_alloc]; omega
      intro v' w2 hO' hG' _
      have HO2 : Hid (OwnC w2 w.heap.size v' (G ++ [⟨x.nm, x.par, fa, fc', x.fs⟩])) := hide (by unfold OwnC; rw [cvals_snoc, List.length_append]; exact hO')
      have HL2 : Hid ((G ++ [(⟨x.nm, x.par, fa, fc', x.fs⟩ : Cl)]).length = k + 1) := hide (by rw [List.length_append, unhide HL]; rfl)
      have HC2 : Hid (∀ (i : Nat) x' y', T[i]? = some x' → (G ++ [(⟨x.nm, x.par, fa, fc', x.fs⟩ : Cl)])[i]? = some y' → CopyC w2 w.heap.size x' y') := hide (fun i x' y' hx' hy' => by
        have hl := unhide HL
        by_cases e : i < G.length
        · rw [List.getElem?_append_left e] at hy'
          exact ((unhide HC i x' y' hx' hy').below (unhide HBd)).grown (unhide HOd) hG'
        · rw [List.getElem?_append_right (by omega)] at hy'
          have e2 : i - G.length = 0 := by
            have := (List.getElem?_eq_some_iff.1 hy').1
            simp at this
            omega
          rw [e2] at hy'
          simp at hy'
          subst hy'
          have e3 : i = k := by omega
          subst e3
          rw [unhide HX] at hx'
          injection hx' with hx'
          subst hx'
          have hcc : CopyC ((wb.setCell ⟨FB, 2, none⟩ (.slice fa x.fs.length fc')).alloc (.cells #[.string x.nm, .int .i64 x.par, .slice fa x.fs.length fc'] 38)) w.heap.size x ⟨x.nm, x.par, fa, fc', x.fs⟩ := ⟨⟨rfl, rfl, rfl⟩, unhide HOf⟩
          exact hcc.grown (unhide HOd) hG')
      have HB2 := hide (((unhide HB).trans ((unhide HBd).mono (unhide HB).size)).grown hG' (by rw [World.size_alloc]; omega) (fun q e => ((unhide HOd).lt q e).1))
      clear hO' hG' HO HC HB HSr HOd HOf HBd hbase HGk HL b0 b1 b2 bf
      go_wp2
      go_roundw
      case rel => exact ⟨k + 1, _, by omega, by go_num, HL2, HO2, HC2, HB2⟩
      case measure => simp [intOf]; omega
    · have i1 : ¬ ((k : Nat) : Int) < ((T.length : Nat) : Int) := by omega
      have ek : k = T.length := by omega
      have hcp := fun ga gc e => own_cap (ga := ga) (gc := gc) (unhide HO) e
      obtain ⟨ga, gc, rfl, hTab, hS⟩ := copy_tab (unhide H) (unhide HO) (by rw [unhide HL]; exact ek) (unhide HC)
      have HCP := hide (hcp ga gc rfl)
      have HOO := HO
      have HFF : Hid (∀ y ∈ G, OwnF wr w.heap.size (.slice y.fo y.fs.length y.fc) y.fs) := hide (fun y hy => by
        obtain ⟨i, hi, e⟩ := List.mem_iff_getElem.1 hy
        have hgl := unhide HL
        exact (unhide HC i _ y (List.getElem?_eq_getElem (show i < T.length by omega)) (by rw [← e]; exact List.getElem?_eq_getElem hi)).own)
      clear hcp
      have HR := hide (And.intro hTab hS)
      clear ek hTab hS
      go_wp2
      go_ret
      exact ⟨ga, gc, G, rfl, (unhide HR).1, (unhide HR).2, unhide HB, unhide HCP, unhide HOO, unhide HFF⟩



/-- The copy while it is spoilt: where its classes' fields lie, and that those may be written. -/
structure SpAt (B : Nat) (W : World) (G : List Cl) (gb : Nat) : Prop where
  lo : B ≤ gb
  cls : ∃ cur, W.heap[gb]? = some (.cells cur 38 (0, 0)) ∧ G.length * 3 ≤ cur.size ∧ ∀ (i : Nat) (y : Cl), G[i]? = some y → cur[i * 3 + 2]? = some (.slice y.fo y.fs.length y.fc)
  fld : ∀ y ∈ G, y.fs.length = 0 ∨ ∃ fb, y.fo = some ⟨fb, 0, none⟩ ∧ B ≤ fb ∧ ∃ cur, W.heap[fb]? = some (.cells cur 41 (0, 0)) ∧ y.fs.length * 2 ≤ cur.size
theorem cvals_get2 : ∀ {G : List Cl} {i : Nat} {y : Cl}, G[i]? = some y → (cvals G)[i * 3 + 2]? = some (.slice y.fo y.fs.length y.fc)
  | [], i, y, h => by simp at h
  | z :: G, 0, y, h => by
    have e : z = y := by simpa using h
    subst e
    rfl
  | z :: G, i + 1, y, h => by
    have ih := cvals_get2 (G := G) (i := i) (y := y) (by simpa using h)
    have e : (i + 1) * 3 + 2 = (i * 3 + 2) + 1 + 1 + 1 := by omega
    show (.string z.nm :: .int .i64 z.par :: .slice z.fo z.fs.length z.fc :: cvals G)[(i + 1) * 3 + 2]? = _
    rw [e, List.getElem?_cons_succ, List.getElem?_cons_succ, List.getElem?_cons_succ]
    exact ih
theorem SpAt.new {B : Nat} {W : World} {G : List Cl} {ga : Option Addr} {gc : Nat} (hO : OwnC W B (.slice ga G.length gc) G) (hF : ∀ y ∈ G, OwnF W B (.slice y.fo y.fs.length y.fc) y.fs) (h0 : 0 < G.length) : ∃ gb, ga = some ⟨gb, 0, none⟩ ∧ SpAt B W G gb := by
  rcases hO.2 with ⟨_, h2⟩ | ⟨gb, cap, cur, e, hb, hh, hn, _, hsz, ht⟩
  · omega
  · obtain ⟨rfl, rfl⟩ : ga = some ⟨gb, 0, none⟩ ∧ gc = cap := by injection e with e1 _ e3; exact ⟨e1, e3⟩
    refine ⟨gb, rfl, hb, ⟨cur, hh, by rw [hsz]; omega, fun i y hy => ?_⟩, fun y hy => ?_⟩
    · have hi := (List.getElem?_eq_some_iff.1 hy).1
      rw [← cvals_get2 hy, ← ht, List.getElem?_take_of_lt (by omega), Array.getElem?_toList]
    · rcases (hF y hy).2 with ⟨_, h2⟩ | ⟨fb, fcap, fcur, e2, hb2, hh2, hn2, _, hsz2, _⟩
      · exact Or.inl h2
      · refine Or.inr ⟨fb, by injection e2, hb2, fcur, hh2, by rw [hsz2]; omega⟩
theorem SpAt.below {B : Nat} {W W' : World} {G : List Cl} {gb : Nat} (h : SpAt B W G gb) (hb : Below W.heap.size W W') : SpAt B W' G gb := by
  obtain ⟨cur, h1, h2⟩ := h.cls
  refine ⟨h.lo, ⟨cur, (hb.block gb (Array.getElem?_eq_some_iff.1 h1).1).trans h1, h2⟩, fun y hy => ?_⟩
  rcases h.fld y hy with h3 | ⟨fb, h3, h4, cur, h5, h6⟩
  · exact Or.inl h3
  · exact Or.inr ⟨fb, h3, h4, cur, (hb.block fb (Array.getElem?_eq_some_iff.1 h5).1).trans h5, h6⟩
theorem heap_set_same {W : World} {g i : Nat} {cur : Array Value} {t : TypeId} {v : Value} (h : W.heap[g]? = some (.cells cur t (0, 0))) : (W.setCell ⟨g, i, none⟩ v).heap[g]? = some (.cells (cur.setIfInBounds i v) t (0, 0)) := (Bx.set (W := W) (g := g) (t := t) (cs := cur) h i v rfl)
theorem SpAt.name {B : Nat} {W : World} {G : List Cl} {gb : Nat} (h : SpAt B W G gb) {i : Nat} (hi : i < G.length) (v : Value) : SpAt B (W.setCell ⟨gb, i * 3, none⟩ v) G gb ∧ Kp B [38, 41] W (W.setCell ⟨gb, i * 3, none⟩ v) ∧ W.frozen? ⟨gb, i * 3, none⟩ = false ∧ (∃ u, W.cell? ⟨gb, i * 3, none⟩ = some u) := by
  obtain ⟨cur, h1, h2, h3⟩ := h.cls
  have hk : Kp B [38, 41] W (W.setCell ⟨gb, i * 3, none⟩ v) := Kp.set (t := 38) (cs := cur) h1 h.lo (by simp) _ _
  have hk2 : Kp B [38] W (W.setCell ⟨gb, i * 3, none⟩ v) := Kp.set (t := 38) (cs := cur) h1 h.lo (by simp) _ _
  refine ⟨⟨h.lo, ⟨_, heap_set_same h1, by simp; omega, fun j y hy => ?_⟩, fun y hy => ?_⟩, hk, Bx.f (t := 38) (cs := cur) h1 _, ⟨cur[i * 3]'(by omega), Bx.c (t := 38) (cs := cur) h1 (i * 3) (Array.getElem?_eq_getElem (by omega))⟩⟩
  · rw [Array.getElem?_setIfInBounds_ne (by omega)]
    exact h3 j y hy
  · rcases h.fld y hy with h4 | ⟨fb, h4, h5, c, h6, h7⟩
    · exact Or.inl h4
    · exact Or.inr ⟨fb, h4, h5, c, hk2.blk fb c _ _ h6 (by decide), h7⟩
theorem SpAt.field {B : Nat} {W : World} {G : List Cl} {gb : Nat} (h : SpAt B W G gb) {i : Nat} {y : Cl} (hy : G[i]? = some y) {j : Nat} (hj : j < y.fs.length) (v : Value) : ∃ fb, y.fo = some ⟨fb, 0, none⟩ ∧ SpAt B (W.setCell ⟨fb, j * 2 + 1, none⟩ v) G gb ∧ Kp B [38, 41] W (W.setCell ⟨fb, j * 2 + 1, none⟩ v) ∧ W.frozen? ⟨fb, j * 2 + 1, none⟩ = false ∧ (∃ u, W.cell? ⟨fb, j * 2 + 1, none⟩ = some u) := by
  rcases h.fld y (List.mem_of_getElem? hy) with h4 | ⟨fb, h4, h5, c, h6, h7⟩
  · omega
  · have hk : Kp B [38, 41] W (W.setCell ⟨fb, j * 2 + 1, none⟩ v) := Kp.set (t := 41) (cs := c) h6 h5 (by simp) _ _
    have hk2 : Kp B [41] W (W.setCell ⟨fb, j * 2 + 1, none⟩ v) := Kp.set (t := 41) (cs := c) h6 h5 (by simp) _ _
    refine ⟨fb, h4, ⟨h.lo, ?_, fun z hz => ?_⟩, hk, Bx.f (t := 41) (cs := c) h6 _, ⟨c[j * 2 + 1]'(by omega), Bx.c (t := 41) (cs := c) h6 (j * 2 + 1) (Array.getElem?_eq_getElem (by omega))⟩⟩
    · obtain ⟨cur, h1, h2⟩ := h.cls
      exact ⟨cur, hk2.blk gb cur _ _ h1 (by decide), h2⟩
    · rcases h.fld z hz with h8 | ⟨fb2, h8, h9, c2, h10, h11⟩
      · exact Or.inl h8
      · by_cases e : fb2 = fb
        · subst e
          rw [h6] at h10
          injection h10 with h10
          injection h10 with h10
          subst h10
          exact Or.inr ⟨fb2, h8, h9, _, heap_set_same h6, by simp; omega⟩
        · refine Or.inr ⟨fb2, h8, h9, c2, ?_, h11⟩
          exact (Below.heap_setCell W ⟨fb, j * 2 + 1, none⟩ v fb2 (fun e2 => e e2)).trans h10
theorem SpAt.at2 {B : Nat} {W : World} {G : List Cl} {gb : Nat} (h : SpAt B W G gb) {i : Nat} {y : Cl} (hy : G[i]? = some y) : W.cell? ⟨gb, i * 3 + 2, none⟩ = some (.slice y.fo y.fs.length y.fc) := by
  obtain ⟨cur, h1, _, h3⟩ := h.cls
  exact Bx.c (t := 38) (cs := cur) h1 _ (h3 i y hy)
theorem act_any {T : List Cl} {ao : Option Addr} {cap : Nat} (w0 : World) (g d : Nat) (h : Hm) (p : Rp) (kd a b c : Int) (ro : Option Addr) (rc : Nat) (R : List Int) (w : World) (H : Pr T (.slice ao T.length cap) w0.heap.size w g d h p) (hb0 : Below w0.heap.size w0 w) (hT : TabAt w0 ao T) (hz : T.length * 48 ≤ 140737488351232) (hm : madeD T = true) (hl : p.R.length ≤ 2999999999999) (hR : JsAt w0 ro R) (hRl : R.length * 8 ≤ 140737488351232) (ha : a < 9223372036854775808) :
    Calls Tryd.prog 7 #[.agg #[.pointer (some ⟨g, 0, none⟩), .pointer (some ⟨d, 0, none⟩)], .agg #[.int .i64 kd, .int .i64 a, .int .i64 b, .int .i64 c, .slice ro R.length rc]] w fun e w' => ActIs T (.slice ao T.length cap) w0 w g d p.R.length w' e := by
  by_cases e0 : kd = 0
  · subst e0; exact act_0 w0 g d h p a b c ro rc R w H hb0 hT hz hm hl hR hRl ha
  by_cases e1 : kd = 1
  · subst e1; exact act_1 w0 g d h p a b c ro rc R w H hb0 hT hz hm hl hR hRl ha
  by_cases e2 : kd = 2
  · subst e2; exact act_2 w0 g d h p a b c ro rc R w H hb0 hT hz hm hl hR hRl ha
  by_cases e3 : kd = 3
  · subst e3; exact act_3 w0 g d h p a b c ro rc R w H hb0 hT hz hm hl hR hRl ha
  by_cases e4 : kd = 4
  · subst e4; exact act_4 w0 g d h p a b c ro rc R w H hb0 hT hz hm hl hR hRl ha
  by_cases e5 : kd = 5
  · subst e5; exact act_5 w0 g d h p a b c ro rc R w H hb0 hT hz hm hl hR hRl ha
  by_cases e6 : kd = 6
  · subst e6; exact act_6 w0 g d h p a b c ro rc R w H hb0 hT hz hm hl hR hRl ha
  exact act_e w0 g d h p kd a b c ro rc R w H hb0 hT hz hm hl hR hRl ha e0 e1 e2 e3 e4 e5 e6
end Go.Proofs.YtbbfnampjbdnbaaDoor
