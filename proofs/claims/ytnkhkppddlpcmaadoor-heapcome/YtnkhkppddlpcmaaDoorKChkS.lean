/-
  The contract of types.lineSize: how many fields stand along a class's line. All that lay lies unturned. Conditions: the table fits, and there are at most a million.
-/
import Derived.Test.YtnkhkppddlpcmaaDoorKChkL
namespace Go.Proofs.YtnkhkppddlpcmaaDoor
open Go.RowKit Go.Shelf
set_option maxRecDepth 20000
attribute [local go_sem] Oper.semAt_some

theorem wpIn_relB {F : Fence} {n : Nat} {P : Program} {c : Code} {Q : Exit → Act → World → Prop} {a : Act} {w : World} {A : Act} (R : World → Prop)
    (h : c.wpIn F n P (Exit.then (fun a' w' => a' = A ∧ R w') (fun _ _ _ => False)) a w) (rest : ∀ W, R W → Q .normal A W) : c.wpIn F n P Q a w := by
  refine wpIn_mono h ?_
  intro e a' w' hq
  cases e with
  | normal =>
    obtain ⟨rfl, h2⟩ := hq
    exact rest _ h2
  | _ => exact hq.elim

def szD (T : List Cl) (pre : List {x : Nat // x < T.length}) : Int := ((pre.map fun x => (fsD T x.1).length).sum : Nat)
/-- That number, or what is left of it, if it is too great. -/
def zD (T : List Cl) (pre : List {x : Nat // x < T.length}) : Int := pre.foldl (fun z x => IntKind.wrap .i64 (z + (fsD T x.1).length)) 0
theorem zD_snoc (T : List Cl) (pre : List {x : Nat // x < T.length}) (x : {x : Nat // x < T.length}) : zD T (pre ++ [x]) = IntKind.wrap .i64 (zD T pre + (fsD T x.1).length) := by
  unfold zD
  rw [List.foldl_append]
  rfl
theorem szD_snoc (T : List Cl) (pre : List {x : Nat // x < T.length}) (x : {x : Nat // x < T.length}) : szD T (pre ++ [x]) = szD T pre + (fsD T x.1).length := by
  unfold szD
  rw [List.map_append, List.sum_append]
  simp
theorem szD_nonneg (T : List Cl) (pre : List {x : Nat // x < T.length}) : 0 ≤ szD T pre := by unfold szD; omega
theorem zD_from {T : List Cl} : ∀ (pre : List {x : Nat // x < T.length}) (z : Int), 0 ≤ z → z + szD T pre ≤ 1000000 → pre.foldl (fun z x => IntKind.wrap .i64 (z + (fsD T x.1).length)) z = z + szD T pre
  | [], z, _, _ => by simp [szD]
  | x :: pre, z, h0, h => by
    have e : szD T (x :: pre) = (fsD T x.1).length + szD T pre := by unfold szD; simp
    have h1 := szD_nonneg T pre
    rw [e] at h ⊢
    rw [List.foldl_cons, IntWalk.i64_in _ (by omega), zD_from pre _ (by omega) (by omega)]
    omega
theorem zD_small {T : List Cl} {pre : List {x : Nat // x < T.length}} (h : szD T pre ≤ 1000000) : zD T pre = szD T pre := by
  unfold zD
  rw [zD_from pre 0 (by omega) (by omega)]
  omega
theorem szD_le {T : List Cl} {c : Int} {pre : List {x : Nat // x < T.length}} (h : pre.map Subtype.val <+: lineB T T.length c) : szD T pre ≤ (fieldsB T c).length := by
  obtain ⟨r, hr⟩ := h
  have e : (fieldsB T c).length = ((lineB T T.length c).map fun k => (fsD T k).length).sum := by
    unfold fieldsB
    rw [List.length_flatMap, List.map_reverse, List.sum_reverse]
  rw [e, ← hr, List.map_append, List.sum_append, List.map_map]
  unfold szD
  simp only [Function.comp_def]
  omega
theorem szD_all {T : List Cl} {c : Int} {ys : List {x : Nat // x < T.length}} (h : ys.map Subtype.val = lineB T T.length c) : szD T ys = (fieldsB T c).length := by
  unfold fieldsB szD
  rw [List.length_flatMap, List.map_reverse, List.sum_reverse, ← h, List.map_map]
  rfl

set_option maxRecDepth 100000 in
set_option maxHeartbeats 4000000 in
theorem lineSize_any (ao : Option Addr) (cap : Nat) (T : List Cl) (c : Int) (w : World) (hT : TabAt w ao T) (hfit : (fieldsB T c).length ≤ 1000000) :
    Calls Tryd.prog 94 #[.slice ao T.length cap, .int .i64 c] w fun e w' => e = .returned (.int .i64 ((fieldsB T c).length : Int)) ∧ Below w.heap.size w w' := by
  refine (callsIn_wide (n := 3)).1 ?_
  refine callsIn_of_wp_marks Tryd.func94 rfl trivial ?_ rfl
  simp only [Tryd.ntmps94, List.size_toArray, List.length_cons, List.length_nil, Nat.reduceAdd, Nat.reduceSub, Array.replicate_succ, Array.replicate_zero, List.push_toArray, List.append_toArray, List.nil_append, List.cons_append]
  gi_wp2
  refine ⟨trivial, ?_⟩
  refine (lineMake_in _ _ _ _ _ _).mono ?_
  rintro e w' ⟨rfl, rfl⟩
  gi_wp2
  have c0 := cellNew w (.slice ao T.length cap) 22
  have c1 := cellNew (w.alloc (.cells #[.slice ao T.length cap] 22)) (.int .i64 0) 3
  have c2 := cellNew ((w.alloc (.cells #[.slice ao T.length cap] 22)).alloc (.cells #[.int .i64 0] 3)) (.slice ao T.length cap) 22
  have c3 := cellNew (((w.alloc (.cells #[.slice ao T.length cap] 22)).alloc (.cells #[.int .i64 0] 3)).alloc (.cells #[.slice ao T.length cap] 22)) (.int .i64 c) 3
  simp only [World.size_alloc] at c1 c2 c3
  have hB0 : Below w.heap.size w ((((w.alloc (.cells #[.slice ao T.length cap] 22)).alloc (.cells #[.int .i64 0] 3)).alloc (.cells #[.slice ao T.length cap] 22)).alloc (.cells #[.int .i64 c] 3)) := ((((Below.refl _ w).alloc (Nat.le_refl _) _).alloc (by simp) _).alloc (by simp; omega) _).alloc (by simp; omega) _
  have h1 : 1 ≤ 3 := by omega
  refine wpIn_rangeFunc_ownF rfl h1 (gf := 79) (lb := #[.pointer (some ⟨w.heap.size + 1 + 1 + 1, 0, none⟩), .pointer (some ⟨w.heap.size + 1 + 1, 0, none⟩)]) rfl trivial (enters_of Tryd.func79 (by kernel_rfl) rfl)
    (line_stopsF (3 - 1) (by omega) (w.heap.size + 1 + 1 + 1) (w.heap.size + 1 + 1) ao cap T c w _ hT hB0 c3.1 (cellAlloc _ c2.1)) keepsL_t (keepsL_b (by simp; omega) (by simp)) (Below.refl _ _) (fun _ => rfl)
    (fun pre W => (W.cell? ⟨w.heap.size, 0, none⟩ = some (.slice ao T.length cap) ∧ W.cell? ⟨w.heap.size + 1, 0, none⟩ = some (.int .i64 (zD T pre)) ∧ W.frozen? ⟨w.heap.size + 1, 0, none⟩ = false ∧ W.cell? ⟨w.heap.size + 1 + 1, 0, none⟩ = some (.slice ao T.length cap)) ∧ Below w.heap.size w W)
    (fun _ _ _ => False)
    (OwnFrom.and (Own.from (fun s A B row hs hg hr => ⟨cell_kept hs.1 hg hr, cell_kept hs.2.1 hg hr, (frozen_kept hs.2.1 hg hr).trans hs.2.2.1, cell_kept hs.2.2.2 hg hr⟩) _) (ownFrom_below (Nat.le_refl _) (by simp; omega)))
    (fun _ _ _ _ _ hs _ _ => hs)
    ⟨⟨cellAlloc _ (cellAlloc _ (cellAlloc _ c0.1)), cellAlloc _ (cellAlloc _ c1.1), frozenAlloc _ (cellAlloc _ c1.1) (frozenAlloc _ c1.1 c1.2), cellAlloc _ c2.1⟩, hB0⟩
    (fun x => { tmps := #[.slice ao T.length cap, .int .i64 c, .pointer (some ⟨w.heap.size, 0, none⟩), undef, .int .i64 0, .pointer (some ⟨w.heap.size + 1, 0, none⟩), .int .i64 (x.1 : Int), .slice ao T.length cap, .int .i64 c, .func (.func 79) #[] #[.pointer (some ⟨w.heap.size + 1 + 1 + 1, 0, none⟩), .pointer (some ⟨w.heap.size + 1 + 1, 0, none⟩)], .int .i64 (x.1 : Int), undef, undef, undef, undef, undef, undef, undef, undef, undef], defers := [] }) ?assign ?body ?done ?stop
  case assign =>
    intro l x W K hK
    gi_wp2
    exact hK
  case body =>
    rintro l pre x W ⟨⟨hcl, hcn, hfn, hc3⟩, hB⟩ hlen
    obtain ⟨b, off, rfl, hx⟩ := (hT.below hB) x.1 _ (List.getElem?_eq_getElem x.2)
    have d2 := hx.c2
    have HFD := hide (fsD_at (List.getElem?_eq_getElem x.2))
    have i2 : ((x.1 : Nat) : Int) < ((T.length : Nat) : Int) := by have := x.2; omega
    have hbl : w.heap.size + 1 + 1 < W.heap.size := World.block_lt_of_cell? W _ hc3
    obtain ⟨z, HZ⟩ : ∃ z, Hid (zD T pre = z) := ⟨_, hide rfl⟩
    rw [unhide HZ] at hcn
    gi_wp2
    apply wpIn_relB (fun W' => W' = W.drew.setCell ⟨w.heap.size + 1, 0, none⟩ (.int .i64 (IntKind.wrap .i64 (z + T[x.1].fs.length))))
    case h =>
      gi_region_with (fail)
      all_goals exact ⟨rfl, rfl⟩
    rintro W8 rfl
    have hs1 : W.drew.cell? ⟨w.heap.size + 1, 0, none⟩ = some (.int .i64 z) := hcn
    have HN : Hid (zD T (pre ++ [x]) = IntKind.wrap .i64 (z + (T[x.1].fs.length : Int))) := hide (by rw [zD_snoc, unhide HZ, unhide HFD])
    have hot : ∀ k, k ≠ w.heap.size + 1 → (W.drew.setCell ⟨w.heap.size + 1, 0, none⟩ (.int .i64 (IntKind.wrap .i64 (z + (T[x.1].fs.length : Int))))).heap[k]? = W.heap[k]? := fun k hk => Below.heap_setCell W.drew ⟨w.heap.size + 1, 0, none⟩ _ k hk
    gi_wp2
    refine ⟨(KeepsOthers.drew W).trans (KeepsOthers.setCell _ _ _), ⟨((Below.refl _ W).drew).setCell (p := ⟨w.heap.size + 1, 0, none⟩) (by simp) _, hot _ (by omega)⟩, ⟨(World.cell?_of_block (hot w.heap.size (by omega))).trans hcl, ?_, ?_, (World.cell?_of_block (hot (w.heap.size + 1 + 1) (by omega))).trans hc3⟩, (hB.drew).setCell (p := ⟨w.heap.size + 1, 0, none⟩) (by simp) _⟩
    · rw [unhide HN]
      exact World.cell?_setCell_same' _ _ _ (by rw [hs1]; rfl)
    · rw [World.frozen?_setCell]
      exact hfn
  case done =>
    rintro D ys W hD hys ⟨⟨_, hcn, hfn, _⟩, hB⟩ hK
    have HZ := hide ((zD_small (by rw [szD_all hys]; omega)).trans (szD_all hys))
    gi_wp2
    refine ⟨by simp, .inl ⟨_, _, rfl, run_takeDeferred hK, ?_⟩⟩
    exact ⟨_, results_tmp rfl _ _ _, (by rw [← unhide HZ]; rfl), hB.trans (belowK_b (w := w) (Nat.le_refl _) W D _ _ (by simp at hD; omega) hK rfl rfl)⟩
  case stop =>
    rintro D c pre W _ _ h _
    exact h.elim
end Go.Proofs.YtnkhkppddlpcmaaDoor
