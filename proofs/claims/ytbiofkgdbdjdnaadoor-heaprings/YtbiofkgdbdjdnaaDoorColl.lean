/-
  Contracts of slices.AppendSeq and slices.Collect at the sequence that types.line makes: the line, in new memory. Conditions: the table fits.
-/
import Derived.Test.YtbiofkgdbdjdnaaDoorRank
import Derived.Maps.AppendAt
namespace Go.Proofs.YtbiofkgdbdjdnaaDoor
open Go.RowKit Go.Shelf
set_option maxRecDepth 20000
attribute [local go_sem] Oper.semAt_some

theorem ivals_append (l m : List Nat) : ivals (l ++ m) = ivals l ++ ivals m := by unfold ivals; simp
theorem ivals_length (l : List Nat) : (ivals l).length = l.length := by unfold ivals; simp

set_option maxRecDepth 100000 in
set_option maxHeartbeats 4000000 in
theorem AppendSeq_line (ao : Option Addr) (cap : Nat) (T : List Cl) (c : Int) (w0 w : World) (hT : TabAt w0 ao T) (hz : T.length * 48 ≤ 140737488351232) (hB : Below w0.heap.size w0 w) (Bc Bl : Nat) (hBc : w.cell? ⟨Bc, 0, none⟩ = some (.int .i64 c)) (hBl : w.cell? ⟨Bl, 0, none⟩ = some (.slice ao T.length cap)) :
    Calls Tryd.prog 92 #[.slice none 0 0, .func (.func 93) #[] #[.pointer (some ⟨Bc, 0, none⟩), .pointer (some ⟨Bl, 0, none⟩)]] w fun e w' => ∃ v, e = .returned v ∧ OwnI w' w.heap.size v (lineB T T.length c) ∧ Below w.heap.size w w' := by
  obtain ⟨i0, hi, hz0, hz1, hz2⟩ := info_parts infoI
  have HLn : Hid ((lineB T T.length c).length ≤ 4000000000000) := hide (by have := lineB_length T _ T.length c (Nat.le_refl _); omega)
  have hbl := World.block_lt_of_cell? w _ hBl
  have hbc := World.block_lt_of_cell? w _ hBc
  clear hz
  refine (callsIn_wide (n := 4)).1 ?_
  refine callsIn_of_wp_marks Tryd.func92 rfl trivial ?_ rfl
  simp only [Tryd.ntmps92, List.size_toArray, List.length_cons, List.length_nil, Nat.reduceAdd, Nat.reduceSub, Array.replicate_succ, Array.replicate_zero, List.push_toArray, List.append_toArray, List.nil_append, List.cons_append]
  gi_wp2
  have bO := Boxed.new w 42 (.slice none 0 0)
  have hB0 : Below w.heap.size w (w.alloc (.cells #[.slice none 0 0] 42)) := (Below.refl _ w).alloc (Nat.le_refl _) _
  have h1 : 1 ≤ 4 := by omega
  refine wpIn_rangeFunc_ownF rfl h1 (gf := 93) (lb := #[.pointer (some ⟨Bc, 0, none⟩), .pointer (some ⟨Bl, 0, none⟩)]) rfl trivial (enters_of Tryd.func93 (by kernel_rfl) rfl)
    (line_stops (4 - 1) (by omega) Bc Bl ao cap T c w0 _ hT (hB.trans (hB0.mono hB.size)) (cellAlloc _ hBc) (cellAlloc _ hBl)) keepsL_t (keepsL_b (by have := hB.size; simp; omega) (by simp; omega)) (Below.refl _ _) (fun _ => rfl)
    (fun pre W => (∃ v, Boxed W w.heap.size 42 v ∧ W.ownsRow w.heap.size 3 1 v pre.length (ivals pre) ∧ True) ∧ Below w.heap.size w W)
    (fun _ _ _ => False)
    (OwnFrom.and (Own.from (holdsRow_own w.heap.size w.heap.size 42 3 1 (fun pre => pre.length) (fun pre => ivals pre) (fun _ _ => True)) _) (ownFrom_below (Nat.le_refl _) (by simp)))
    (fun _ _ _ _ _ hs _ _ => hs)
    ⟨⟨_, bO, World.ownsRow_nil _ _ _ _, trivial⟩, hB0⟩
    (fun x => { tmps := #[.slice none 0 0, .func (.func 93) #[] #[.pointer (some ⟨Bc, 0, none⟩), .pointer (some ⟨Bl, 0, none⟩)], .pointer (some ⟨w.heap.size, 0, none⟩), undef, .slice none 0 0, .int .i64 (x : Int), .func (.func 93) #[] #[.pointer (some ⟨Bc, 0, none⟩), .pointer (some ⟨Bl, 0, none⟩)], .int .i64 (x : Int), undef, undef, undef, undef, undef], defers := [] }) ?assign ?body ?done ?stop
  case assign =>
    intro l x W K hK
    gi_wp2
    exact hK
  case body =>
    rintro l pre x W ⟨⟨v, hv, hrow, _⟩, hBW⟩ hlt
    have hc := hv.cell
    have hlen := unhide HLn
    have hpre : pre.length < 4000000000000 := by omega
    clear hlen hlt
    gi_wp2_with (gi_at_builtin; refine wpListIn_append_own _ rfl _ _ 42 rfl w.heap.size 3 i0 (.int .i64 0) 1 8 Tryd.underlying42 hi hz0 hz1 hz2 rfl (by decide) _ _ _ rfl (hrow.alloc _) ⟨W.heap.size, 0, none⟩ 1 1 [.int .i64 (x : Int)] rfl rfl (cell_one_new _ _ _) (by simp [Value.oneCell']) (by unfold maxLen; omega) (by omega) (by have := hBW.size; simp; omega) ?_; intro v' w1 hown' hgrow _; obtain ⟨g', cap', rfl⟩ := ownsRow_succ hown'; obtain ⟨hv1, hv2, hr2, hk2, hb2⟩ := hv.appended (by decide) hrow hBW.size (Nat.le_refl _) hown' hgrow; have hc1 := hv1.cell; have hf1 := hv1.frozen)
    exact ⟨hk2, ⟨hb2.mono (by have := hB.size; omega), hb2.block Bl (by omega)⟩, ⟨_, hv2, by rw [ivals_append, List.length_append]; exact hr2, trivial⟩, hBW.trans hb2⟩
  case done =>
    rintro D ys W hD rfl ⟨⟨v, hv, hrow, _⟩, hBW⟩ hK
    have hc := hv.cell
    gi_wp2
    refine ⟨by simp, .inl ⟨_, _, rfl, run_takeDeferred hK, ?_⟩⟩
    exact ⟨_, results_tmp rfl _ _ _, v, rfl, ownsRow_putObj hrow _ hK rfl, hBW.trans (belowK_b (w := w) (Nat.le_refl _) W D _ _ (by simp at hD; omega) hK rfl rfl)⟩
  case stop =>
    rintro D c pre W _ _ h _
    exact h.elim

theorem Collect_line (ao : Option Addr) (cap : Nat) (T : List Cl) (c : Int) (w0 w : World) (hT : TabAt w0 ao T) (hz : T.length * 48 ≤ 140737488351232) (hB : Below w0.heap.size w0 w) (Bc Bl : Nat) (hBc : w.cell? ⟨Bc, 0, none⟩ = some (.int .i64 c)) (hBl : w.cell? ⟨Bl, 0, none⟩ = some (.slice ao T.length cap)) :
    Calls Tryd.prog 67 #[.func (.func 93) #[] #[.pointer (some ⟨Bc, 0, none⟩), .pointer (some ⟨Bl, 0, none⟩)]] w fun e w' => ∃ v, e = .returned v ∧ OwnI w' w.heap.size v (lineB T T.length c) ∧ Below w.heap.size w w' := by
  go_enter Tryd.func67, Tryd.ntmps67
  go_wp2_with fail
  refine (AppendSeq_line ao cap T c w0 _ hT hz hB Bc Bl hBc hBl).mono ?_
  rintro e w1 ⟨v, rfl, hO, hB1⟩
  go_wp2
  go_ret
  exact ⟨v, rfl, hO, hB1⟩
end Go.Proofs.YtbiofkgdbdjdnaaDoor
