/-
  Contracts of types.lineHas, lineSize and of what they call: whether a field of a name stands along a class's line, and how many fields stand there. All that lay lies unturned.
-/
import Derived.Test.YtnkhkppddlpcmaaDoorKHas
import Derived.Test.YtnkhkppddlpcmaaDoorKFieldsT
namespace Go.Proofs.YtnkhkppddlpcmaaDoor
open Go.RowKit Go.Shelf
set_option maxRecDepth 20000
attribute [local go_sem] Oper.semAt_some

theorem hasD_app (A L : List Fl) (s : ByteArray) : hasD (A ++ L) s = (hasD A s || hasD L s) := by unfold hasD; rw [List.any_append]
theorem hasD_take {O : List Fl} {k : Nat} (s : ByteArray) (hk : k < O.length) : hasD (O.take (k + 1)) s = (hasD (O.take k) s || (O[k].nm.toList == s.toList)) := by
  rw [← List.take_append_getElem hk, hasD_app]
  simp [hasD]
theorem keeps_below {W W' : World} (h : Below W.heap.size W W') : KeepsOthers W W' := ⟨h.size, fun k _ hk _ => (h.block k (Array.getElem?_eq_some_iff.1 hk).1).trans hk⟩
theorem hasD_found2 {O : List Fl} {k : Nat} (s : ByteArray) (hk : k < O.length) (h : (O[k].nm.toList == s.toList) = true) : hasD O s = true := by
  unfold hasD
  rw [List.any_eq_true]
  exact ⟨O[k], List.getElem_mem hk, h⟩

theorem lineHas1_any (y : Fl) (s : ByteArray) (B : Nat) (w : World) (hB : w.cell? ⟨B, 0, none⟩ = some (.string s)) :
    Calls Tryd.prog 100 #[.agg #[.string y.nm, .int .u8 (y.ty : Int)], .pointer (some ⟨B, 0, none⟩)] w fun e w' => e = .returned (.bool (y.nm.toList == s.toList)) ∧ Below w.heap.size w w' := by
  have hBl := World.block_lt_of_cell? w _ hB
  go_enter Tryd.func100, Tryd.ntmps100
  go_wp2
  go_ret
  exact ⟨rfl, (Below.refl _ _).alloc (Nat.le_refl _) _⟩

theorem IndexFuncF_any (oa : Option Addr) (oc : Nat) (O : List Fl) (s : ByteArray) (B : Nat) (w : World) (hO : FsAt w oa O) (hz : O.length * 24 ≤ 140737488351232) (hB : w.cell? ⟨B, 0, none⟩ = some (.string s)) :
    Calls Tryd.prog 102 #[.slice oa O.length oc, .func (.func 100) #[] #[.pointer (some ⟨B, 0, none⟩)]] w fun e w' => ∃ i : Int, e = .returned (.int .i64 i) ∧ decide (i ≥ 0) = hasD O s ∧ Below w.heap.size w w' := by
  have HT := hide hO
  have HB := hide hB
  have hOl : O.length ≤ 5864062014634 := by omega
  clear hO hB hz
  go_enter Tryd.func102, Tryd.ntmps102
  go_wp2
  go_loopw [5, 8] (fun _ i wr => ∃ k : Nat, k ≤ O.length ∧ i = .int .i64 (k : Int) ∧ Hid (hasD (O.take k) s = false) ∧ Hid (Below w.heap.size w wr)) (fun _ i _ => O.length - (intOf i).toNat)
  case atStart => exact ⟨0, by omega, rfl, hide rfl, hide (Below.refl _ _)⟩
  case round =>
    obtain ⟨k, hk, rfl, HK, HBW⟩ := hrel
    by_cases hlt : k < O.length
    · have i1 : ((k : Nat) : Int) < ((O.length : Nat) : Int) := by omega
      obtain ⟨y, HY⟩ : ∃ y, Hid (O[k] = y) := ⟨_, hide rfl⟩
      obtain ⟨b, off, e0, hcl⟩ := (unhide HT).below (unhide HBW) k y (by rw [List.getElem?_eq_getElem hlt, unhide HY])
      have c0 := hcl.c0
      have c1 := hcl.c1
      have hblt := World.block_lt_of_cell? wr _ c0
      clear hcl
      subst e0
      have HB2 : Hid (wr.cell? ⟨B, 0, none⟩ = some (.string s)) := hide (((unhide HBW).cell (p := ⟨B, 0, none⟩) (World.block_lt_of_cell? w _ (unhide HB))).trans (unhide HB))
      cases hq : (y.nm.toList == s.toList)
      · have HK2 : Hid (hasD (O.take (k + 1)) s = false) := hide (by rw [hasD_take s hlt, unhide HK, unhide HY, hq]; rfl)
        have HQ := hide hq
        clear hq
        go_wp2_with fail
        refine (lineHas1_any y s B wr (unhide HB2)).mono ?_
        rintro e w2 ⟨rfl, hb2⟩
        rw [unhide HQ]
        have HB3 := hide ((unhide HBW).trans (hb2.mono (unhide HBW).size))
        clear hb2
        go_wp2
        go_roundw
        case rel => exact ⟨k + 1, by omega, by go_num, HK2, HB3⟩
        case measure => simp [intOf]; omega
      · have HR : Hid (hasD O s = true) := hide (hasD_found2 s hlt (by rw [unhide HY]; exact hq))
        have HQ := hide hq
        clear hq
        go_wp2_with fail
        refine (lineHas1_any y s B wr (unhide HB2)).mono ?_
        rintro e w2 ⟨rfl, hb2⟩
        rw [unhide HQ]
        have HB3 := hide ((unhide HBW).trans (hb2.mono (unhide HBW).size))
        clear hb2
        go_wp2
        go_ret
        exact ⟨_, rfl, by rw [unhide HR]; exact decide_eq_true (by omega), unhide HB3⟩
    · have i1 : ¬ ((k : Nat) : Int) < ((O.length : Nat) : Int) := by omega
      have HR : Hid (hasD O s = false) := hide (by have := unhide HK; rwa [List.take_of_length_le (by omega)] at this)
      go_wp2
      go_ret
      exact ⟨_, rfl, by rw [unhide HR]; rfl, unhide HBW⟩

theorem ContainsFuncF_any (oa : Option Addr) (oc : Nat) (O : List Fl) (s : ByteArray) (B : Nat) (w : World) (hO : FsAt w oa O) (hz : O.length * 24 ≤ 140737488351232) (hB : w.cell? ⟨B, 0, none⟩ = some (.string s)) :
    Calls Tryd.prog 99 #[.slice oa O.length oc, .func (.func 100) #[] #[.pointer (some ⟨B, 0, none⟩)]] w fun e w' => e = .returned (.bool (hasD O s)) ∧ Below w.heap.size w w' := by
  go_enter Tryd.func99, Tryd.ntmps99
  go_wp2_with fail
  refine (IndexFuncF_any oa oc O s B w hO hz hB).mono ?_
  rintro e w2 ⟨i, rfl, hi, hb⟩
  have HI := hide hi
  clear hi hB hO
  go_wp2
  all_goals go_ret
  all_goals exact ⟨ret_bool (unhide HI), hb⟩

/-- Whether a field of that name stands along a line; how many stand there. -/
def lineHasD (T : List Cl) (c : Int) (s : ByteArray) : Bool := (lineB T T.length c).any fun k => hasD (fsD T k) s
theorem lineHas_fields (T : List Cl) (c : Int) (s : ByteArray) : hasD (fieldsB T c) s = lineHasD T c s := by
  unfold fieldsB lineHasD hasD
  rw [List.any_flatMap, List.any_reverse]
theorem lineHasD_yes {T : List Cl} {c : Int} {s : ByteArray} {pre : List Nat} {x : Nat} (hp : pre <+: lineB T T.length c) (hx : x ∈ pre) (e : hasD (fsD T x) s = true) : lineHasD T c s = true := by
  unfold lineHasD
  rw [List.any_eq_true]
  exact ⟨x, hp.subset hx, e⟩
theorem lineHasD_no {T : List Cl} {c : Int} {s : ByteArray} (h : ∀ x ∈ lineB T T.length c, hasD (fsD T x) s = false) : lineHasD T c s = false := by
  unfold lineHasD
  rw [List.any_eq_false]
  intro x hx
  rw [h x hx]
  simp

set_option maxRecDepth 100000 in
set_option maxHeartbeats 4000000 in
theorem lineHas_any (ao : Option Addr) (cap : Nat) (T : List Cl) (c : Int) (s : ByteArray) (w : World) (hT : TabAt w ao T) :
    Calls Tryd.prog 92 #[.slice ao T.length cap, .int .i64 c, .string s] w fun e w' => e = .returned (.bool (lineHasD T c s)) ∧ Below w.heap.size w w' := by
  refine (callsIn_wide (n := 3)).1 ?_
  refine callsIn_of_wp_marks Tryd.func92 rfl trivial ?_ rfl
  simp only [Tryd.ntmps92, List.size_toArray, List.length_cons, List.length_nil, Nat.reduceAdd, Nat.reduceSub, Array.replicate_succ, Array.replicate_zero, List.push_toArray, List.append_toArray, List.nil_append, List.cons_append]
  gi_wp2
  refine ⟨trivial, ?_⟩
  refine (lineMake_in _ _ _ _ _ _).mono ?_
  rintro e w' ⟨rfl, rfl⟩
  gi_wp2
  have c0 := cellNew w (.slice ao T.length cap) 22
  have c1 := cellNew (w.alloc (.cells #[.slice ao T.length cap] 22)) (.string s) 9
  have c2 := cellNew ((w.alloc (.cells #[.slice ao T.length cap] 22)).alloc (.cells #[.string s] 9)) (.bool false) 4
  have c3 := cellNew (((w.alloc (.cells #[.slice ao T.length cap] 22)).alloc (.cells #[.string s] 9)).alloc (.cells #[.bool false] 4)) (.slice ao T.length cap) 22
  have c4 := cellNew ((((w.alloc (.cells #[.slice ao T.length cap] 22)).alloc (.cells #[.string s] 9)).alloc (.cells #[.bool false] 4)).alloc (.cells #[.slice ao T.length cap] 22)) (.int .i64 c) 3
  simp only [World.size_alloc] at c1 c2 c3 c4
  have hB0 : Below w.heap.size w (((((w.alloc (.cells #[.slice ao T.length cap] 22)).alloc (.cells #[.string s] 9)).alloc (.cells #[.bool false] 4)).alloc (.cells #[.slice ao T.length cap] 22)).alloc (.cells #[.int .i64 c] 3)) := (((((Below.refl _ w).alloc (Nat.le_refl _) _).alloc (by simp) _).alloc (by simp; omega) _).alloc (by simp; omega) _).alloc (by simp; omega) _
  have h1 : 1 ≤ 3 := by omega
  refine wpIn_rangeFunc_ownF rfl h1 (gf := 79) (lb := #[.pointer (some ⟨w.heap.size + 1 + 1 + 1 + 1, 0, none⟩), .pointer (some ⟨w.heap.size + 1 + 1 + 1, 0, none⟩)]) rfl trivial (enters_of Tryd.func79 (by kernel_rfl) rfl)
    (line_stopsF (3 - 1) (by omega) (w.heap.size + 1 + 1 + 1 + 1) (w.heap.size + 1 + 1 + 1) ao cap T c w _ hT hB0 c4.1 (cellAlloc _ c3.1)) keepsL_t (keepsL_b (by simp; omega) (by simp)) (Below.refl _ _) (fun _ => rfl)
    (fun pre W => ((∀ y ∈ pre, hasD (fsD T y.1) s = false) ∧ W.cell? ⟨w.heap.size, 0, none⟩ = some (.slice ao T.length cap) ∧ W.cell? ⟨w.heap.size + 1, 0, none⟩ = some (.string s) ∧ W.cell? ⟨w.heap.size + 1 + 1, 0, none⟩ = some (.bool false) ∧ W.frozen? ⟨w.heap.size + 1 + 1, 0, none⟩ = false ∧ W.cell? ⟨w.heap.size + 1 + 1 + 1, 0, none⟩ = some (.slice ao T.length cap)) ∧ Below w.heap.size w W)
    (fun c pre W => (c = .ret ∧ (∃ y ∈ pre, hasD (fsD T y.1) s = true) ∧ W.cell? ⟨w.heap.size + 1 + 1, 0, none⟩ = some (.bool true)) ∧ Below w.heap.size w W)
    (OwnFrom.and (Own.from (fun s A B row hs hg hr => ⟨hs.1, cell_kept hs.2.1 hg hr, cell_kept hs.2.2.1 hg hr, cell_kept hs.2.2.2.1 hg hr, (frozen_kept hs.2.2.2.1 hg hr).trans hs.2.2.2.2.1, cell_kept hs.2.2.2.2.2 hg hr⟩) _) (ownFrom_below (Nat.le_refl _) (by simp; omega)))
    (fun c => OwnFrom.and (Own.from (fun s A B row hs hg hr => ⟨hs.1, hs.2.1, cell_kept hs.2.2 hg hr⟩) _) (ownFrom_below (Nat.le_refl _) (by simp; omega)))
    ⟨⟨by simp, cellAlloc _ (cellAlloc _ (cellAlloc _ (cellAlloc _ c0.1))), cellAlloc _ (cellAlloc _ (cellAlloc _ c1.1)), cellAlloc _ (cellAlloc _ c2.1), frozenAlloc _ (cellAlloc _ c2.1) (frozenAlloc _ c2.1 c2.2), cellAlloc _ c3.1⟩, hB0⟩
    (fun x => { tmps := #[.slice ao T.length cap, .int .i64 c, .string s, .pointer (some ⟨w.heap.size, 0, none⟩), undef, .pointer (some ⟨w.heap.size + 1, 0, none⟩), .pointer (some ⟨w.heap.size + 1 + 1, 0, none⟩), .int .i64 (x.1 : Int), .slice ao T.length cap, .int .i64 c, .func (.func 79) #[] #[.pointer (some ⟨w.heap.size + 1 + 1 + 1 + 1, 0, none⟩), .pointer (some ⟨w.heap.size + 1 + 1 + 1, 0, none⟩)], .int .i64 (x.1 : Int), undef, undef, undef, undef, undef, undef, undef], defers := [] }) ?assign ?body ?done ?stop
  case assign =>
    intro l x W K hK
    gi_wp2
    exact hK
  case body =>
    rintro l pre x W ⟨⟨hp, hcl, hcw, hcr, hfr, hc3⟩, hB⟩ hlen
    obtain ⟨b, off, rfl, hx⟩ := (hT.below hB) x.1 _ (List.getElem?_eq_getElem x.2)
    have d2 := hx.c2
    have HFS := hide hx.flds
    have HFT := hide hx.fit
    have HFD := hide (fsD_at (List.getElem?_eq_getElem x.2))
    have i2 : ((x.1 : Nat) : Int) < ((T.length : Nat) : Int) := by have := x.2; omega
    have hbl : w.heap.size + 1 + 1 + 1 < W.heap.size := World.block_lt_of_cell? W _ hc3
    gi_wp2
    refine ⟨trivial, ?_⟩
    refine (CallsIn.inRound l (callsIn_wide.2 (ContainsFuncF_any T[x.1].fo T[x.1].fc T[x.1].fs s (w.heap.size + 1) W (unhide HFS) (unhide HFT) hcw))).mono ?_
    rintro e W2 ⟨rfl, hB2⟩
    have hcr2 := (hB2.cell (p := ⟨w.heap.size + 1 + 1, 0, none⟩) (World.block_lt_of_cell? W _ hcr)).trans hcr
    have hfr2 : W2.frozen? ⟨w.heap.size + 1 + 1, 0, none⟩ = false := by
      unfold World.frozen? at hfr ⊢
      rw [hB2.block (w.heap.size + 1 + 1) (by omega)]
      exact hfr
    have hBW : Below w.heap.size w W2 := hB.trans (hB2.mono hB.size)
    cases hq : hasD T[x.1].fs s
    · gi_wp2
      refine ⟨keeps_below hB2, ⟨hB2.mono hB.size, hB2.block _ hbl⟩, ⟨fun y hy => ?_, (hB2.cell (p := ⟨w.heap.size, 0, none⟩) (World.block_lt_of_cell? W _ hcl)).trans hcl, (hB2.cell (p := ⟨w.heap.size + 1, 0, none⟩) (World.block_lt_of_cell? W _ hcw)).trans hcw, hcr2, hfr2, (hB2.cell (p := ⟨w.heap.size + 1 + 1 + 1, 0, none⟩) hbl).trans hc3⟩, hBW⟩
      rcases List.mem_append.1 hy with h | h
      · exact hp y h
      · obtain rfl : y = x := by simpa using h
        rw [unhide HFD]
        exact hq
    · gi_wp2
      exact ⟨(keeps_below hB2).trans (KeepsOthers.setCell _ _ _), ⟨rfl, ⟨x, by simp, by rw [unhide HFD]; exact hq⟩, World.cell?_setCell_same' _ _ _ (by rw [hcr2]; rfl)⟩, hBW.setCell (p := ⟨w.heap.size + 1 + 1, 0, none⟩) (by simp; omega) _⟩
  case done =>
    rintro D ys W hD hys ⟨⟨hne, _, _, hcr, hfr, _⟩, hB⟩ hK
    replace hne : ∀ y ∈ lineB T T.length c, hasD (fsD T y) s = false := fun y hy => by
      rw [← hys] at hy
      obtain ⟨z, hz, rfl⟩ := List.mem_map.1 hy
      exact hne z hz
    gi_wp2
    have hK' := (KeepsOthers.setCell W ⟨w.heap.size + 1 + 1, 0, none⟩ (.bool false)).same D _ hK rfl
    refine ⟨by simp, .inl ⟨_, _, rfl, run_takeDeferred hK', ?_⟩⟩
    have hc5 := cell_kept (World.cell?_setCell_same' W ⟨w.heap.size + 1 + 1, 0, none⟩ (.bool false) (by rw [hcr]; rfl)) (grownBy_putObj' _ D (.deferred none)) (fun r e => by cases e; exact ⟨_, hK', rfl⟩)
    refine ⟨.bool false, ?_, by rw [lineHasD_no hne], (hB.setCell (p := ⟨w.heap.size + 1 + 1, 0, none⟩) (by simp; omega) _).trans (belowK_b (w := w) (Nat.le_refl _) _ D _ _ (by simp at hD; omega) hK' rfl rfl)⟩
    simp [results, Tryd.f92, go_sem, hc5]
  case stop =>
    rintro D c' pre W hD hpre ⟨⟨rfl, ⟨y, hy, ey⟩, hcr⟩, hB⟩ hK
    gi_wp2
    refine ⟨by simp, .inl ⟨_, _, rfl, run_takeDeferred hK, ?_⟩⟩
    have hc5 := cell_kept hcr (grownBy_putObj' _ D (.deferred none)) (fun r e => by cases e; exact ⟨_, hK, rfl⟩)
    refine ⟨.bool true, ?_, by rw [lineHasD_yes hpre (List.mem_map.2 ⟨y, hy, rfl⟩) ey], hB.trans (belowK_b (w := w) (Nat.le_refl _) W D _ _ (by simp at hD; omega) hK rfl rfl)⟩
    simp [results, Tryd.f92, go_sem, hc5]
end Go.Proofs.YtnkhkppddlpcmaaDoor
