/-
  A heap that no call made: what its calls answer; nothing old is turned.
-/
import Derived.Test.YtbbfnampjbdnbaaDoorJCH
import Derived.Deep.Cut
import Derived.Test.YtbbfnampjbdnbaaDoorShell
namespace Go.Proofs.YtbbfnampjbdnbaaDoor
open Go.RowKit
set_option maxRecDepth 20000

/-- A pointer to a heap that no call made. -/
def NM (w : World) (v : Value) : Prop := v = .pointer none ∨ ∃ g, v = .pointer (some ⟨g, 0, none⟩) ∧ w.cell? ⟨g, 5, none⟩ = some (.bool false)
theorem NM.below {w w' : World} {v : Value} (h : NM w v) (hb : Below w.heap.size w w') : NM w' v := by
  rcases h with h | ⟨g, h, hc⟩
  · exact Or.inl h
  · exact Or.inr ⟨g, h, (hb.cell (p := ⟨g, 5, none⟩) (World.block_lt_of_cell? w _ hc)).trans hc⟩
theorem below_row {B : Nat} {w W : World} (h : Below B w W) {g : Nat} (hg : B ≤ g) (cs : Array Value) : Below B w (W.setRow g cs) := h.trans ⟨rfl, rfl, rfl, by simp, fun k hk => setRow_other W g k cs (by omega)⟩
theorem isMade_no (v : Value) (w : World) (h : NM w v) : Calls Tryd.prog 42 #[v] w fun e w' => e = .returned (.bool false) ∧ w' = w := by
  rcases h with rfl | ⟨g, rfl, hc⟩
  · go_enter Tryd.func42, Tryd.ntmps42
    go_wp2
    go_ret
    exact ⟨rfl, rfl⟩
  · go_enter Tryd.func42, Tryd.ntmps42
    go_wp2
    go_ret
    exact ⟨rfl, rfl⟩
def OBx (W : World) (g : Nat) : Prop := W.heap[g]? = some (.cells #[.int .i64 0, .int .i64 0, .slice none 0 0] 83 (0, 0))
theorem run_addrH (g : Nat) (w : World) : (asAddr (.pointer (some ⟨g, 0, none⟩))).run Tryd.prog w = .ok ⟨g, 0, none⟩ w := rfl
theorem results_ob {fn : Func} {q u : Tmp} (h : fn.results = #[.cell q 83, .tmp u]) (tmps : Array Value) (W : World) (g : Nat) (v : Value) (hp : tmps.getD q undef = .pointer (some ⟨g, 0, none⟩)) (hu : tmps.getD u undef = v) (hg : OBx W g) :
    (results fn tmps).run Tryd.prog W = .ok (.tuple #[.agg #[.int .i64 0, .int .i64 0, .slice none 0 0], v]) W := by
  rw [results_cell_tmp h, hp, hu, run_addrH, Result.andThen_ok, run_loadVar_row W g 83 83 #[.int .i64 0, .int .i64 0, .slice none 0 0] (0, 0) _ hg Tryd.underlying83 rfl (by kernel_rfl), Result.andThen_ok]

theorem Record_no (v : Value) (a : Int) (w : World) (h : NM w v) : Calls Tryd.prog 16 #[v, .int .i64 a] w fun e w' => e = .returned (.tuple #[.int .i64 0, .int .i64 8]) ∧ w' = w := by
  have HM := hide (isMade_no v w h)
  clear h
  go_enter Tryd.func16, Tryd.ntmps16
  go_wp2_with fail
  refine (unhide HM).mono ?_
  rintro e W ⟨rfl, hw⟩
  rw [hw]
  clear hw W
  go_wp2
  go_ret2
  exact ⟨rfl, rfl⟩

theorem Row_no (v : Value) (a : Int) (w : World) (h : NM w v) : Calls Tryd.prog 18 #[v, .int .i64 a] w fun e w' => e = .returned (.tuple #[.int .i64 0, .int .i64 8]) ∧ w' = w := by
  have HM := hide (isMade_no v w h)
  clear h
  go_enter Tryd.func18, Tryd.ntmps18
  go_wp2_with fail
  refine (unhide HM).mono ?_
  rintro e W ⟨rfl, hw⟩
  rw [hw]
  clear hw W
  go_wp2
  go_ret2
  exact ⟨rfl, rfl⟩

theorem Used_no (v : Value) (w : World) (h : NM w v) : Calls Tryd.prog 31 #[v] w fun e w' => e = .returned (.int .i64 0) ∧ Below w.heap.size w w' := by
  have HB := hide (Below.refl w.heap.size w)
  have HM := hide (isMade_no v w h)
  clear h
  go_enter Tryd.func31, Tryd.ntmps31
  go_wp2_with fail
  refine (unhide HM).mono ?_
  rintro e W ⟨rfl, hw⟩
  rw [hw]
  clear hw W
  go_wp2
  go_ret
  exact ⟨rfl, unhide HB⟩

theorem Live_no (v : Value) (w : World) (h : NM w v) : Calls Tryd.prog 33 #[v] w fun e w' => e = .returned (.slice none 0 0) ∧ Below w.heap.size w w' := by
  have HB := hide (Below.refl w.heap.size w)
  have HM := hide (isMade_no v w h)
  clear h
  go_enter Tryd.func33, Tryd.ntmps33
  go_wp2_with fail
  refine (unhide HM).mono ?_
  rintro e W ⟨rfl, hw⟩
  rw [hw]
  clear hw W
  go_wp2
  go_ret
  exact ⟨rfl, unhide HB⟩

theorem object_no (v : Value) (a : Int) (w : World) (h : NM w v) : Calls Tryd.prog 47 #[v, .int .i64 a] w fun e w' => e = .returned (.tuple #[.agg #[.int .i64 0, .int .i64 0, .slice none 0 0], .int .i64 8]) ∧ Below w.heap.size w w' := by
  have al := (Below.refl w.heap.size w).alloc (Nat.le_refl _) (.cells #[.int .i64 0, .int .i64 0, .slice none 0 0] 83)
  have HB := hide al
  have HO : Hid (OBx (w.alloc (.cells #[.int .i64 0, .int .i64 0, .slice none 0 0] 83)) w.heap.size) := hide (heap_alloc_new w _)
  have HM := hide (isMade_no v _ (h.below al))
  clear h al
  go_enter Tryd.func47, Tryd.ntmps47
  go_upto_region 1 with fail
  generalize (w.alloc (.cells #[.int .i64 0, .int .i64 0, .slice none 0 0] 83)) = W1 at HB HO HM ⊢
  go_wp2_with fail
  refine (unhide HM).mono ?_
  rintro e W ⟨rfl, hw⟩
  rw [hw]
  clear hw W
  have HO2 : Hid (OBx (W1.setRow w.heap.size #[.int .i64 0, .int .i64 0, .slice none 0 0]) w.heap.size) := hide (setRow_heap _ _ _ _ _ _ (unhide HO))
  have HB2 : Hid (Below w.heap.size w (W1.setRow w.heap.size #[.int .i64 0, .int .i64 0, .slice none 0 0])) := hide (below_row (unhide HB) (Nat.le_refl _) _)
  go_wp2_with (refine wpList_store_row rfl 83 _ _ rfl w.heap.size #[.int .i64 0, .int .i64 0, .slice none 0 0] rfl rfl 83 #[.int .i64 0, .int .i64 0, .slice none 0 0] (unhide HO) (by kernel_rfl) rfl (by simp [Value.oneCell']) ?_)
  exact bodyPost_ret (v := .tuple #[.agg #[.int .i64 0, .int .i64 0, .slice none 0 0], .int .i64 8]) (results_ob rfl _ _ w.heap.size _ rfl rfl (unhide HO2)) rfl ⟨rfl, unhide HB2⟩

theorem OBx.c0 {W : World} {g : Nat} (h : OBx W g) : W.cell? ⟨g, 0, none⟩ = some (.int .i64 0) := cell_of_row _ _ 0 _ _ _ h
theorem OBx.c1 {W : World} {g : Nat} (h : OBx W g) : W.cell? ⟨g, 1, none⟩ = some (.int .i64 0) := cell_of_row _ _ 1 _ _ _ h
theorem OBx.c2 {W : World} {g : Nat} (h : OBx W g) : W.cell? ⟨g, 2, none⟩ = some (.slice none 0 0) := cell_of_row _ _ 2 _ _ _ h
theorem OBx.lt {W : World} {g : Nat} (h : OBx W g) : g < W.heap.size := (Array.getElem?_eq_some_iff.1 h).1
theorem OBx.below {W W' : World} {g : Nat} {B : Nat} (h : OBx W g) (hb : Below B W W') (hg : g < B) : OBx W' g := (hb.block g hg).trans h
set_option maxHeartbeats 1000000 in
theorem at_no (v : Value) (a i : Int) (w : World) (h : NM w v) : Calls Tryd.prog 46 #[v, .int .i64 a, .int .i64 i] w fun e w' => e = .returned (.tuple #[.agg #[.int .i64 0, .int .i64 0, .slice none 0 0], .int .i64 8]) ∧ Below w.heap.size w w' := by
  have al := (Below.refl w.heap.size w).alloc (Nat.le_refl _) (.cells #[.int .i64 0, .int .i64 0, .slice none 0 0] 83)
  have HB := hide al
  have HO : Hid (OBx (w.alloc (.cells #[.int .i64 0, .int .i64 0, .slice none 0 0] 83)) w.heap.size) := hide (heap_alloc_new w _)
  have HM := hide (object_no v a _ (h.below al))
  clear h al
  go_enter Tryd.func46, Tryd.ntmps46
  go_upto_region 1 with fail
  generalize (w.alloc (.cells #[.int .i64 0, .int .i64 0, .slice none 0 0] 83)) = W1 at HB HO HM ⊢
  go_wp2_with fail
  refine (unhide HM).mono ?_
  rintro e W2 ⟨rfl, hB2⟩
  have al2 := (Below.refl W2.heap.size W2).alloc (Nat.le_refl _) (.cells #[.int .i64 0, .int .i64 0, .slice none 0 0] 83)
  have hB3 := hB2.trans (al2.mono hB2.size)
  have HB3 := hide ((unhide HB).trans (hB3.mono (unhide HB).size))
  have HO3 := hide ((unhide HO).below hB3 (unhide HO).lt)
  have HN : Hid (OBx (W2.alloc (.cells #[.int .i64 0, .int .i64 0, .slice none 0 0] 83)) W2.heap.size) := hide (heap_alloc_new W2 _)
  clear al2 hB3 hB2 HB HO HM
  go_upto_region 2 with fail
  generalize (W2.alloc (.cells #[.int .i64 0, .int .i64 0, .slice none 0 0] 83)) = W3 at HB3 HO3 HN ⊢
  generalize W2.heap.size = g at HN ⊢
  have HO4 : Hid (OBx (W3.setRow w.heap.size #[.int .i64 0, .int .i64 0, .slice none 0 0]) w.heap.size) := hide (setRow_heap _ _ _ _ _ _ (unhide HO3))
  have HB4 : Hid (Below w.heap.size w (W3.setRow w.heap.size #[.int .i64 0, .int .i64 0, .slice none 0 0])) := hide (below_row (unhide HB3) (Nat.le_refl _) _)
  have c0 := (unhide HN).c0
  have c1 := (unhide HN).c1
  have c2 := (unhide HN).c2
  go_wp2_with (refine wpList_store_row rfl 83 (.tmp 6) (.tmp 30) rfl w.heap.size #[.int .i64 0, .int .i64 0, .slice none 0 0] rfl rfl 83 #[.int .i64 0, .int .i64 0, .slice none 0 0] (unhide HO3) (by kernel_rfl) rfl (by simp [Value.oneCell']) ?_)
  exact bodyPost_ret (v := .tuple #[.agg #[.int .i64 0, .int .i64 0, .slice none 0 0], .int .i64 8]) (results_ob rfl _ _ w.heap.size _ rfl rfl (unhide HO4)) rfl ⟨rfl, unhide HB4⟩

theorem Get_no (v : Value) (a i : Int) (w : World) (h : NM w v) : Calls Tryd.prog 20 #[v, .int .i64 a, .int .i64 i] w fun e w' => e = .returned (.tuple #[.int .i64 0, .int .i64 8]) ∧ Below w.heap.size w w' := by
  have HM := hide (at_no v a i w h)
  clear h
  go_enter Tryd.func20, Tryd.ntmps20
  go_wp2_with fail
  refine (unhide HM).mono ?_
  rintro e W2 ⟨rfl, hB2⟩
  have al2 := (Below.refl W2.heap.size W2).alloc (Nat.le_refl _) (.cells #[.int .i64 0, .int .i64 0, .slice none 0 0] 83)
  have HB3 := hide (hB2.trans (al2.mono hB2.size))
  have HN : Hid (OBx (W2.alloc (.cells #[.int .i64 0, .int .i64 0, .slice none 0 0] 83)) W2.heap.size) := hide (heap_alloc_new W2 _)
  clear al2 hB2 HM
  go_upto_region 2 with fail
  generalize (W2.alloc (.cells #[.int .i64 0, .int .i64 0, .slice none 0 0] 83)) = W3 at HB3 HN ⊢
  have c2 := (unhide HN).c2
  go_wp2
  go_ret2
  exact ⟨rfl, unhide HB3⟩

theorem Len_no (v : Value) (a : Int) (w : World) (h : NM w v) : Calls Tryd.prog 24 #[v, .int .i64 a] w fun e w' => e = .returned (.tuple #[.int .i64 0, .int .i64 8]) ∧ Below w.heap.size w w' := by
  have HM := hide (object_no v a w h)
  clear h
  go_enter Tryd.func24, Tryd.ntmps24
  go_wp2_with fail
  refine (unhide HM).mono ?_
  rintro e W2 ⟨rfl, hB2⟩
  have al2 := (Below.refl W2.heap.size W2).alloc (Nat.le_refl _) (.cells #[.int .i64 0, .int .i64 0, .slice none 0 0] 83)
  have HB3 := hide (hB2.trans (al2.mono hB2.size))
  have HN : Hid (OBx (W2.alloc (.cells #[.int .i64 0, .int .i64 0, .slice none 0 0] 83)) W2.heap.size) := hide (heap_alloc_new W2 _)
  clear al2 hB2 HM
  go_upto_region 2 with fail
  generalize (W2.alloc (.cells #[.int .i64 0, .int .i64 0, .slice none 0 0] 83)) = W3 at HB3 HN ⊢
  have c2 := (unhide HN).c2
  go_wp2
  go_ret2
  exact ⟨rfl, unhide HB3⟩

theorem Class_no (v : Value) (a : Int) (w : World) (h : NM w v) : Calls Tryd.prog 34 #[v, .int .i64 a] w fun e w' => e = .returned (.tuple #[.int .i64 0, .bool false]) ∧ Below w.heap.size w w' := by
  have HM := hide (object_no v a w h)
  clear h
  go_enter Tryd.func34, Tryd.ntmps34
  go_wp2_with fail
  refine (unhide HM).mono ?_
  rintro e W2 ⟨rfl, hB2⟩
  have al2 := (Below.refl W2.heap.size W2).alloc (Nat.le_refl _) (.cells #[.int .i64 0, .int .i64 0, .slice none 0 0] 83)
  have HB3 := hide (hB2.trans (al2.mono hB2.size))
  have HN : Hid (OBx (W2.alloc (.cells #[.int .i64 0, .int .i64 0, .slice none 0 0] 83)) W2.heap.size) := hide (heap_alloc_new W2 _)
  clear al2 hB2 HM
  go_upto_region 2 with fail
  generalize (W2.alloc (.cells #[.int .i64 0, .int .i64 0, .slice none 0 0] 83)) = W3 at HB3 HN ⊢
  have c2 := (unhide HN).c2
  go_wp2
  go_ret2
  exact ⟨rfl, unhide HB3⟩

theorem Put_no (v : Value) (a i u : Int) (w : World) (h : NM w v) : Calls Tryd.prog 22 #[v, .int .i64 a, .int .i64 i, .int .i64 u] w fun e w' => e = .returned (.int .i64 8) ∧ Below w.heap.size w w' := by
  have HM := hide (at_no v a i w h)
  clear h
  go_enter Tryd.func22, Tryd.ntmps22
  go_wp2_with fail
  refine (unhide HM).mono ?_
  rintro e W2 ⟨rfl, hB2⟩
  have al2 := (Below.refl W2.heap.size W2).alloc (Nat.le_refl _) (.cells #[.int .i64 0, .int .i64 0, .slice none 0 0] 83)
  have HB3 := hide (hB2.trans (al2.mono hB2.size))
  have HN : Hid (OBx (W2.alloc (.cells #[.int .i64 0, .int .i64 0, .slice none 0 0] 83)) W2.heap.size) := hide (heap_alloc_new W2 _)
  clear al2 hB2 HM
  go_upto_region 2 with fail
  generalize (W2.alloc (.cells #[.int .i64 0, .int .i64 0, .slice none 0 0] 83)) = W3 at HB3 HN ⊢
  have c2 := (unhide HN).c2
  go_wp2
  go_ret
  exact ⟨rfl, unhide HB3⟩

theorem come_no (v s : Value) (w : World) (h : NM w v) : Calls Tryd.prog 49 #[v, s] w fun e w' => e = .returned (.tuple #[.slice none 0 0, .int .i64 8]) ∧ Below w.heap.size w w' := by
  have al := (Below.refl w.heap.size w).alloc (Nat.le_refl _) (.cells #[v] 27)
  have HB := hide al
  have c0 := (cellNew w v 27).1
  have HM := hide (isMade_no v _ (h.below al))
  have hv : v.oneCell' = true := by rcases h with rfl | ⟨g, rfl, -⟩ <;> rfl
  rcases h with rfl | ⟨g, rfl, -⟩
  all_goals (
    clear al hv
    go_enter Tryd.func49, Tryd.ntmps49
    go_upto_region 1 with fail
    generalize (w.alloc _) = W1 at HB HM c0 ⊢
    go_wp2_with fail
    refine (unhide HM).mono ?_
    rintro e W ⟨rfl, hw⟩
    rw [hw]
    clear hw W
    go_wp2
    go_ret2
    exact ⟨rfl, unhide HB⟩)
theorem Collect_no (v s : Value) (w : World) (h : NM w v) : Calls Tryd.prog 29 #[v, s] w fun e w' => e = .returned (.tuple #[.int .i64 0, .int .i64 8]) ∧ Below w.heap.size w w' := by
  have HM := hide (come_no v s w h)
  clear h
  go_enter Tryd.func29, Tryd.ntmps29
  go_wp2_with fail
  refine (unhide HM).mono ?_
  rintro e W2 ⟨rfl, hB2⟩
  have HB := hide hB2
  clear hB2
  go_wp2
  go_ret2
  exact ⟨rfl, unhide HB⟩
theorem Reach_no (v s : Value) (w : World) (h : NM w v) : Calls Tryd.prog 26 #[v, s] w fun e w' => e = .returned (.tuple #[.slice none 0 0, .int .i64 8]) ∧ Below w.heap.size w w' := by
  have HM := hide (come_no v s w h)
  clear h
  go_enter Tryd.func26, Tryd.ntmps26
  go_wp2_with fail
  refine (unhide HM).mono ?_
  rintro e W2 ⟨rfl, hB2⟩
  have HB := hide (hB2.alloc hB2.size (.cells #[.slice none 0 0] 56))
  clear hB2
  go_wp2
  go_ret2
  exact ⟨rfl, unhide HB⟩
theorem New_empty (w : World) (hW : WordsAt w) : Calls Tryd.prog 5 #[.slice none 0 0, .int .i64 3] w fun e w' => (∃ g, e = .returned (.tuple #[.pointer (some g), .int .i64 0])) ∧ Below w.heap.size w w' := by
  have HC := hide (Check_any none 0 [] w (fun i x hx => by simp at hx) (by simp) hW (by simp))
  clear hW
  go_enter Tryd.func5, Tryd.ntmps5
  go_wp2_with fail
  refine (unhide HC).mono ?_
  rintro e W2 ⟨⟨n, er, rfl, h1⟩, hB2⟩
  rcases h1 with ⟨rfl, rfl, -⟩ | hf
  · have HB := hide hB2
    clear hB2 HC
    obtain ⟨A, HA⟩ : ∃ A, Hid (Below w.heap.size w (W2.alloc (.cells A 55)) ∧ A = #[.slice none 0 0, .int .i64 3, .int .i64 0, .int .i64 0, .slice none 0 0, .bool true]) := ⟨_, hide ⟨(unhide HB).alloc (unhide HB).size _, rfl⟩⟩
    go_wp2_with fail
    go_loopw [32] (fun i wr => i = .int .i64 0 ∧ Hid (Below w.heap.size w wr)) (fun _ _ => 0)
    case atStart => exact ⟨rfl, hide ((unhide HB).alloc (unhide HB).size _)⟩
    case round =>
      obtain ⟨rfl, HB2⟩ := hrel
      go_wp2
      go_ret2
      exact ⟨⟨_, rfl⟩, unhide HB2⟩
  · exact absurd hf.one.1 (by simp)

end Go.Proofs.YtbbfnampjbdnbaaDoor
