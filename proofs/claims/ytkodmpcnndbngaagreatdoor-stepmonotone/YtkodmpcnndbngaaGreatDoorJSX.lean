/-
  Texts of contracts and plain lemmas, one behind another; each says at its head what it holds.
-/
import Derived.Test.YtkodmpcnndbngaaGreatDoorJSU
import Derived.Test.YtkodmpcnndbngaaGreatDoorKSt25
/-
  The document's Gives: its row is a new one.
-/
namespace Go.Proofs.YtkodmpcnndbngaaGreatDoor
open Go.RowKit
set_option maxRecDepth 20000

/-- A row of types is answered, and it is new. -/
def RowN (w : World) (l : List Nat) (e : Ending) (w' : World) : Prop := (∃ ga gc, e = .returned (.slice ga l.length gc) ∧ PAt w' ga l ∧ (l ≠ [] → ∀ b o, ga = some ⟨b, o, none⟩ → w.heap.size ≤ b)) ∧ Below w.heap.size w w'
theorem at_new {n g o b q : Nat} (e : some (⟨g, o, none⟩ : Addr) = some ⟨b, q, none⟩) (h : n ≤ g) : n ≤ b := by
  injection e with e
  injection e with e
  omega
theorem someN_any (rt : Nat) (w : World) : Calls Tryz.prog 65 #[.int .u8 (rt : Int)] w (RowN w (rtD rt)) := by
  by_cases h0 : rt = 0
  · have b1 : (((rt : Nat) : Int) == 0) = true := beq_t (by omega)
    have HE : Hid (rtD rt = []) := hide (by unfold rtD; rw [if_pos h0])
    clear h0
    go_enter Tryz.func65, Tryz.ntmps65
    go_wp2
    go_ret
    rw [unhide HE]
    exact ⟨⟨_, _, rfl, pAt_nil _ _, fun h => absurd rfl h⟩, Below.refl _ _⟩
  · have b1 : (((rt : Nat) : Int) == 0) = false := beq_f (by omega)
    have HE : Hid (rtD rt = [rt]) := hide (by unfold rtD; rw [if_neg h0])
    clear h0
    go_enter Tryz.func65, Tryz.ntmps65
    go_wp2
    go_ret
    rw [unhide HE]
    exact ⟨⟨_, _, rfl, pAt_lit w [rt] _, fun _ b o e => at_new e (Nat.le_refl _)⟩, (Below.refl _ _).alloc (Nat.le_refl _) _⟩
theorem rgvN_0 (s : Sp) (w : World) : Calls Tryz.prog 44 #[.agg #[.slice s.ao s.T.length s.cap, .slice s.so s.L.length s.sc, .int .i64 s.fn], .agg #[.int .i64 s.p, .int .u8 0, .int .i64 s.a, .int .i64 s.b]] w (RowN w (gvR s 0)) := by
    have HX := hide (Bxs.new w s 0)
    go_enter Tryz.func44, Tryz.ntmps44
    go_upto_region 1 with fail
    generalize ((w.alloc (.cells #[.slice s.ao s.T.length s.cap, .slice s.so s.L.length s.sc, .int .i64 s.fn] 25)).alloc (.cells #[.int .i64 s.p, .int .u8 0, .int .i64 s.a, .int .i64 s.b] 31)) = W1 at HX ⊢
    have k0 := (unhide HX).i1
    go_wp2
    go_ret
    exact ⟨⟨_, _, rfl, pAt_nil _ _, fun h => absurd rfl h⟩, (unhide HX).bel⟩
theorem rgvN_1 (s : Sp) (w : World) : Calls Tryz.prog 44 #[.agg #[.slice s.ao s.T.length s.cap, .slice s.so s.L.length s.sc, .int .i64 s.fn], .agg #[.int .i64 s.p, .int .u8 1, .int .i64 s.a, .int .i64 s.b]] w (RowN w (gvR s 1)) := by
    have HX := hide (Bxs.new w s 1)
    go_enter Tryz.func44, Tryz.ntmps44
    go_upto_region 1 with fail
    generalize ((w.alloc (.cells #[.slice s.ao s.T.length s.cap, .slice s.so s.L.length s.sc, .int .i64 s.fn] 25)).alloc (.cells #[.int .i64 s.p, .int .u8 1, .int .i64 s.a, .int .i64 s.b] 31)) = W1 at HX ⊢
    have k0 := (unhide HX).i1
    go_wp2
    go_ret
    exact ⟨⟨_, _, rfl, pAt_lit W1 [1] _, fun _ b o e => at_new e ((unhide HX).bel.size)⟩, (unhide HX).bel.alloc (unhide HX).bel.size _⟩
theorem rgvN_2 (s : Sp) (w : World) : Calls Tryz.prog 44 #[.agg #[.slice s.ao s.T.length s.cap, .slice s.so s.L.length s.sc, .int .i64 s.fn], .agg #[.int .i64 s.p, .int .u8 2, .int .i64 s.a, .int .i64 s.b]] w (RowN w (gvR s 2)) := by
    have HX := hide (Bxs.new w s 2)
    go_enter Tryz.func44, Tryz.ntmps44
    go_upto_region 1 with fail
    generalize ((w.alloc (.cells #[.slice s.ao s.T.length s.cap, .slice s.so s.L.length s.sc, .int .i64 s.fn] 25)).alloc (.cells #[.int .i64 s.p, .int .u8 2, .int .i64 s.a, .int .i64 s.b] 31)) = W1 at HX ⊢
    have k0 := (unhide HX).i1
    go_wp2
    go_ret
    exact ⟨⟨_, _, rfl, pAt_lit W1 [2] _, fun _ b o e => at_new e ((unhide HX).bel.size)⟩, (unhide HX).bel.alloc (unhide HX).bel.size _⟩
theorem rgvN_3 (s : Sp) (w : World) : Calls Tryz.prog 44 #[.agg #[.slice s.ao s.T.length s.cap, .slice s.so s.L.length s.sc, .int .i64 s.fn], .agg #[.int .i64 s.p, .int .u8 3, .int .i64 s.a, .int .i64 s.b]] w (RowN w (gvR s 3)) := by
    have HX := hide (Bxs.new w s 3)
    go_enter Tryz.func44, Tryz.ntmps44
    go_upto_region 1 with fail
    generalize ((w.alloc (.cells #[.slice s.ao s.T.length s.cap, .slice s.so s.L.length s.sc, .int .i64 s.fn] 25)).alloc (.cells #[.int .i64 s.p, .int .u8 3, .int .i64 s.a, .int .i64 s.b] 31)) = W1 at HX ⊢
    have k0 := (unhide HX).i1
    go_wp2
    go_ret
    exact ⟨⟨_, _, rfl, pAt_lit W1 [3] _, fun _ b o e => at_new e ((unhide HX).bel.size)⟩, (unhide HX).bel.alloc (unhide HX).bel.size _⟩
theorem rgvN_4 (s : Sp) (w : World) : Calls Tryz.prog 44 #[.agg #[.slice s.ao s.T.length s.cap, .slice s.so s.L.length s.sc, .int .i64 s.fn], .agg #[.int .i64 s.p, .int .u8 4, .int .i64 s.a, .int .i64 s.b]] w (RowN w (gvR s 4)) := by
    have HX := hide (Bxs.new w s 4)
    go_enter Tryz.func44, Tryz.ntmps44
    go_upto_region 1 with fail
    generalize ((w.alloc (.cells #[.slice s.ao s.T.length s.cap, .slice s.so s.L.length s.sc, .int .i64 s.fn] 25)).alloc (.cells #[.int .i64 s.p, .int .u8 4, .int .i64 s.a, .int .i64 s.b] 31)) = W1 at HX ⊢
    have k0 := (unhide HX).i1
    go_wp2
    go_ret
    exact ⟨⟨_, _, rfl, pAt_lit W1 [255] _, fun _ b o e => at_new e ((unhide HX).bel.size)⟩, (unhide HX).bel.alloc (unhide HX).bel.size _⟩
theorem rgvN_5 (s : Sp) (w : World) : Calls Tryz.prog 44 #[.agg #[.slice s.ao s.T.length s.cap, .slice s.so s.L.length s.sc, .int .i64 s.fn], .agg #[.int .i64 s.p, .int .u8 5, .int .i64 s.a, .int .i64 s.b]] w (RowN w (gvR s 5)) := by
    have HX := hide (Bxs.new w s 5)
    go_enter Tryz.func44, Tryz.ntmps44
    go_upto_region 1 with fail
    generalize ((w.alloc (.cells #[.slice s.ao s.T.length s.cap, .slice s.so s.L.length s.sc, .int .i64 s.fn] 25)).alloc (.cells #[.int .i64 s.p, .int .u8 5, .int .i64 s.a, .int .i64 s.b] 31)) = W1 at HX ⊢
    have k0 := (unhide HX).i1
    go_wp2
    go_ret
    exact ⟨⟨_, _, rfl, pAt_nil _ _, fun h => absurd rfl h⟩, (unhide HX).bel⟩
theorem rgvN_6 (s : Sp) (w : World) : Calls Tryz.prog 44 #[.agg #[.slice s.ao s.T.length s.cap, .slice s.so s.L.length s.sc, .int .i64 s.fn], .agg #[.int .i64 s.p, .int .u8 6, .int .i64 s.a, .int .i64 s.b]] w (RowN w (gvR s 6)) := by
    have HX := hide (Bxs.new w s 6)
    go_enter Tryz.func44, Tryz.ntmps44
    go_upto_region 1 with fail
    generalize ((w.alloc (.cells #[.slice s.ao s.T.length s.cap, .slice s.so s.L.length s.sc, .int .i64 s.fn] 25)).alloc (.cells #[.int .i64 s.p, .int .u8 6, .int .i64 s.a, .int .i64 s.b] 31)) = W1 at HX ⊢
    have k0 := (unhide HX).i1
    go_wp2
    go_ret
    exact ⟨⟨_, _, rfl, pAt_nil _ _, fun h => absurd rfl h⟩, (unhide HX).bel⟩
theorem rgvN_7 (s : Sp) (w : World) : Calls Tryz.prog 44 #[.agg #[.slice s.ao s.T.length s.cap, .slice s.so s.L.length s.sc, .int .i64 s.fn], .agg #[.int .i64 s.p, .int .u8 7, .int .i64 s.a, .int .i64 s.b]] w (RowN w (gvR s 7)) := by
    have HX := hide (Bxs.new w s 7)
    go_enter Tryz.func44, Tryz.ntmps44
    go_upto_region 1 with fail
    generalize ((w.alloc (.cells #[.slice s.ao s.T.length s.cap, .slice s.so s.L.length s.sc, .int .i64 s.fn] 25)).alloc (.cells #[.int .i64 s.p, .int .u8 7, .int .i64 s.a, .int .i64 s.b] 31)) = W1 at HX ⊢
    have k0 := (unhide HX).i1
    go_wp2
    go_ret
    exact ⟨⟨_, _, rfl, pAt_lit W1 [255, 255] _, fun _ b o e => at_new e ((unhide HX).bel.size)⟩, (unhide HX).bel.alloc (unhide HX).bel.size _⟩
theorem rgvN_8 (s : Sp) (w : World) : Calls Tryz.prog 44 #[.agg #[.slice s.ao s.T.length s.cap, .slice s.so s.L.length s.sc, .int .i64 s.fn], .agg #[.int .i64 s.p, .int .u8 8, .int .i64 s.a, .int .i64 s.b]] w (RowN w (gvR s 8)) := by
    have HX := hide (Bxs.new w s 8)
    go_enter Tryz.func44, Tryz.ntmps44
    go_upto_region 1 with fail
    generalize ((w.alloc (.cells #[.slice s.ao s.T.length s.cap, .slice s.so s.L.length s.sc, .int .i64 s.fn] 25)).alloc (.cells #[.int .i64 s.p, .int .u8 8, .int .i64 s.a, .int .i64 s.b] 31)) = W1 at HX ⊢
    have k0 := (unhide HX).i1
    go_wp2
    go_ret
    exact ⟨⟨_, _, rfl, pAt_lit W1 [255, 255] _, fun _ b o e => at_new e ((unhide HX).bel.size)⟩, (unhide HX).bel.alloc (unhide HX).bel.size _⟩
theorem rgvN_9 (s : Sp) (w : World) : Calls Tryz.prog 44 #[.agg #[.slice s.ao s.T.length s.cap, .slice s.so s.L.length s.sc, .int .i64 s.fn], .agg #[.int .i64 s.p, .int .u8 9, .int .i64 s.a, .int .i64 s.b]] w (RowN w (gvR s 9)) := by
    have HX := hide (Bxs.new w s 9)
    go_enter Tryz.func44, Tryz.ntmps44
    go_upto_region 1 with fail
    generalize ((w.alloc (.cells #[.slice s.ao s.T.length s.cap, .slice s.so s.L.length s.sc, .int .i64 s.fn] 25)).alloc (.cells #[.int .i64 s.p, .int .u8 9, .int .i64 s.a, .int .i64 s.b] 31)) = W1 at HX ⊢
    have k0 := (unhide HX).i1
    go_wp2
    go_ret
    exact ⟨⟨_, _, rfl, pAt_lit W1 [1] _, fun _ b o e => at_new e ((unhide HX).bel.size)⟩, (unhide HX).bel.alloc (unhide HX).bel.size _⟩
theorem rgvN_10 (s : Sp) (w : World) : Calls Tryz.prog 44 #[.agg #[.slice s.ao s.T.length s.cap, .slice s.so s.L.length s.sc, .int .i64 s.fn], .agg #[.int .i64 s.p, .int .u8 10, .int .i64 s.a, .int .i64 s.b]] w (RowN w (gvR s 10)) := by
    have HX := hide (Bxs.new w s 10)
    go_enter Tryz.func44, Tryz.ntmps44
    go_upto_region 1 with fail
    generalize ((w.alloc (.cells #[.slice s.ao s.T.length s.cap, .slice s.so s.L.length s.sc, .int .i64 s.fn] 25)).alloc (.cells #[.int .i64 s.p, .int .u8 10, .int .i64 s.a, .int .i64 s.b] 31)) = W1 at HX ⊢
    have k0 := (unhide HX).i1
    go_wp2
    go_ret
    exact ⟨⟨_, _, rfl, pAt_lit W1 [1] _, fun _ b o e => at_new e ((unhide HX).bel.size)⟩, (unhide HX).bel.alloc (unhide HX).bel.size _⟩
theorem rgvN_11 (s : Sp) (w : World) : Calls Tryz.prog 44 #[.agg #[.slice s.ao s.T.length s.cap, .slice s.so s.L.length s.sc, .int .i64 s.fn], .agg #[.int .i64 s.p, .int .u8 11, .int .i64 s.a, .int .i64 s.b]] w (RowN w (gvR s 11)) := by
    have HX := hide (Bxs.new w s 11)
    go_enter Tryz.func44, Tryz.ntmps44
    go_upto_region 1 with fail
    generalize ((w.alloc (.cells #[.slice s.ao s.T.length s.cap, .slice s.so s.L.length s.sc, .int .i64 s.fn] 25)).alloc (.cells #[.int .i64 s.p, .int .u8 11, .int .i64 s.a, .int .i64 s.b] 31)) = W1 at HX ⊢
    have k0 := (unhide HX).i1
    go_wp2
    go_ret
    exact ⟨⟨_, _, rfl, pAt_lit W1 [1] _, fun _ b o e => at_new e ((unhide HX).bel.size)⟩, (unhide HX).bel.alloc (unhide HX).bel.size _⟩
theorem rgvN_12 (s : Sp) (w : World) : Calls Tryz.prog 44 #[.agg #[.slice s.ao s.T.length s.cap, .slice s.so s.L.length s.sc, .int .i64 s.fn], .agg #[.int .i64 s.p, .int .u8 12, .int .i64 s.a, .int .i64 s.b]] w (RowN w (gvR s 12)) := by
    have HX := hide (Bxs.new w s 12)
    go_enter Tryz.func44, Tryz.ntmps44
    go_upto_region 1 with fail
    generalize ((w.alloc (.cells #[.slice s.ao s.T.length s.cap, .slice s.so s.L.length s.sc, .int .i64 s.fn] 25)).alloc (.cells #[.int .i64 s.p, .int .u8 12, .int .i64 s.a, .int .i64 s.b] 31)) = W1 at HX ⊢
    have k0 := (unhide HX).i1
    go_wp2
    go_ret
    exact ⟨⟨_, _, rfl, pAt_lit W1 [1] _, fun _ b o e => at_new e ((unhide HX).bel.size)⟩, (unhide HX).bel.alloc (unhide HX).bel.size _⟩
theorem rgvN_13 (s : Sp) (w : World) : Calls Tryz.prog 44 #[.agg #[.slice s.ao s.T.length s.cap, .slice s.so s.L.length s.sc, .int .i64 s.fn], .agg #[.int .i64 s.p, .int .u8 13, .int .i64 s.a, .int .i64 s.b]] w (RowN w (gvR s 13)) := by
    have HX := hide (Bxs.new w s 13)
    go_enter Tryz.func44, Tryz.ntmps44
    go_upto_region 1 with fail
    generalize ((w.alloc (.cells #[.slice s.ao s.T.length s.cap, .slice s.so s.L.length s.sc, .int .i64 s.fn] 25)).alloc (.cells #[.int .i64 s.p, .int .u8 13, .int .i64 s.a, .int .i64 s.b] 31)) = W1 at HX ⊢
    have k0 := (unhide HX).i1
    go_wp2
    go_ret
    exact ⟨⟨_, _, rfl, pAt_lit W1 [1] _, fun _ b o e => at_new e ((unhide HX).bel.size)⟩, (unhide HX).bel.alloc (unhide HX).bel.size _⟩
theorem rgvN_14 (s : Sp) (w : World) : Calls Tryz.prog 44 #[.agg #[.slice s.ao s.T.length s.cap, .slice s.so s.L.length s.sc, .int .i64 s.fn], .agg #[.int .i64 s.p, .int .u8 14, .int .i64 s.a, .int .i64 s.b]] w (RowN w (gvR s 14)) := by
    have HX := hide (Bxs.new w s 14)
    go_enter Tryz.func44, Tryz.ntmps44
    go_upto_region 1 with fail
    generalize ((w.alloc (.cells #[.slice s.ao s.T.length s.cap, .slice s.so s.L.length s.sc, .int .i64 s.fn] 25)).alloc (.cells #[.int .i64 s.p, .int .u8 14, .int .i64 s.a, .int .i64 s.b] 31)) = W1 at HX ⊢
    have k0 := (unhide HX).i1
    go_wp2
    go_ret
    exact ⟨⟨_, _, rfl, pAt_lit W1 [1] _, fun _ b o e => at_new e ((unhide HX).bel.size)⟩, (unhide HX).bel.alloc (unhide HX).bel.size _⟩
theorem rgvN_15 (s : Sp) (w : World) : Calls Tryz.prog 44 #[.agg #[.slice s.ao s.T.length s.cap, .slice s.so s.L.length s.sc, .int .i64 s.fn], .agg #[.int .i64 s.p, .int .u8 15, .int .i64 s.a, .int .i64 s.b]] w (RowN w (gvR s 15)) := by
    have HX := hide (Bxs.new w s 15)
    go_enter Tryz.func44, Tryz.ntmps44
    go_upto_region 1 with fail
    generalize ((w.alloc (.cells #[.slice s.ao s.T.length s.cap, .slice s.so s.L.length s.sc, .int .i64 s.fn] 25)).alloc (.cells #[.int .i64 s.p, .int .u8 15, .int .i64 s.a, .int .i64 s.b] 31)) = W1 at HX ⊢
    have k0 := (unhide HX).i1
    go_wp2
    go_ret
    exact ⟨⟨_, _, rfl, pAt_lit W1 [2] _, fun _ b o e => at_new e ((unhide HX).bel.size)⟩, (unhide HX).bel.alloc (unhide HX).bel.size _⟩
theorem rgvN_16 (s : Sp) (w : World) : Calls Tryz.prog 44 #[.agg #[.slice s.ao s.T.length s.cap, .slice s.so s.L.length s.sc, .int .i64 s.fn], .agg #[.int .i64 s.p, .int .u8 16, .int .i64 s.a, .int .i64 s.b]] w (RowN w (gvR s 16)) := by
    have HX := hide (Bxs.new w s 16)
    go_enter Tryz.func44, Tryz.ntmps44
    go_upto_region 1 with fail
    generalize ((w.alloc (.cells #[.slice s.ao s.T.length s.cap, .slice s.so s.L.length s.sc, .int .i64 s.fn] 25)).alloc (.cells #[.int .i64 s.p, .int .u8 16, .int .i64 s.a, .int .i64 s.b] 31)) = W1 at HX ⊢
    have k0 := (unhide HX).i1
    go_wp2
    go_ret
    exact ⟨⟨_, _, rfl, pAt_lit W1 [2] _, fun _ b o e => at_new e ((unhide HX).bel.size)⟩, (unhide HX).bel.alloc (unhide HX).bel.size _⟩
theorem rgvN_17 (s : Sp) (w : World) : Calls Tryz.prog 44 #[.agg #[.slice s.ao s.T.length s.cap, .slice s.so s.L.length s.sc, .int .i64 s.fn], .agg #[.int .i64 s.p, .int .u8 17, .int .i64 s.a, .int .i64 s.b]] w (RowN w (gvR s 17)) := by
    have HX := hide (Bxs.new w s 17)
    go_enter Tryz.func44, Tryz.ntmps44
    go_upto_region 1 with fail
    generalize ((w.alloc (.cells #[.slice s.ao s.T.length s.cap, .slice s.so s.L.length s.sc, .int .i64 s.fn] 25)).alloc (.cells #[.int .i64 s.p, .int .u8 17, .int .i64 s.a, .int .i64 s.b] 31)) = W1 at HX ⊢
    have k0 := (unhide HX).i1
    go_wp2
    go_ret
    exact ⟨⟨_, _, rfl, pAt_lit W1 [2] _, fun _ b o e => at_new e ((unhide HX).bel.size)⟩, (unhide HX).bel.alloc (unhide HX).bel.size _⟩
theorem rgvN_18 (s : Sp) (w : World) : Calls Tryz.prog 44 #[.agg #[.slice s.ao s.T.length s.cap, .slice s.so s.L.length s.sc, .int .i64 s.fn], .agg #[.int .i64 s.p, .int .u8 18, .int .i64 s.a, .int .i64 s.b]] w (RowN w (gvR s 18)) := by
    have HX := hide (Bxs.new w s 18)
    go_enter Tryz.func44, Tryz.ntmps44
    go_upto_region 1 with fail
    generalize ((w.alloc (.cells #[.slice s.ao s.T.length s.cap, .slice s.so s.L.length s.sc, .int .i64 s.fn] 25)).alloc (.cells #[.int .i64 s.p, .int .u8 18, .int .i64 s.a, .int .i64 s.b] 31)) = W1 at HX ⊢
    have k0 := (unhide HX).i1
    go_wp2
    go_ret
    exact ⟨⟨_, _, rfl, pAt_lit W1 [2] _, fun _ b o e => at_new e ((unhide HX).bel.size)⟩, (unhide HX).bel.alloc (unhide HX).bel.size _⟩
theorem rgvN_19 (s : Sp) (w : World) : Calls Tryz.prog 44 #[.agg #[.slice s.ao s.T.length s.cap, .slice s.so s.L.length s.sc, .int .i64 s.fn], .agg #[.int .i64 s.p, .int .u8 19, .int .i64 s.a, .int .i64 s.b]] w (RowN w (gvR s 19)) := by
    have HX := hide (Bxs.new w s 19)
    go_enter Tryz.func44, Tryz.ntmps44
    go_upto_region 1 with fail
    generalize ((w.alloc (.cells #[.slice s.ao s.T.length s.cap, .slice s.so s.L.length s.sc, .int .i64 s.fn] 25)).alloc (.cells #[.int .i64 s.p, .int .u8 19, .int .i64 s.a, .int .i64 s.b] 31)) = W1 at HX ⊢
    have k0 := (unhide HX).i1
    go_wp2
    go_ret
    exact ⟨⟨_, _, rfl, pAt_nil _ _, fun h => absurd rfl h⟩, (unhide HX).bel⟩
theorem rgvN_20 (s : Sp) (w : World) : Calls Tryz.prog 44 #[.agg #[.slice s.ao s.T.length s.cap, .slice s.so s.L.length s.sc, .int .i64 s.fn], .agg #[.int .i64 s.p, .int .u8 20, .int .i64 s.a, .int .i64 s.b]] w (RowN w (gvR s 20)) := by
    have HX := hide (Bxs.new w s 20)
    go_enter Tryz.func44, Tryz.ntmps44
    go_upto_region 1 with fail
    generalize ((w.alloc (.cells #[.slice s.ao s.T.length s.cap, .slice s.so s.L.length s.sc, .int .i64 s.fn] 25)).alloc (.cells #[.int .i64 s.p, .int .u8 20, .int .i64 s.a, .int .i64 s.b] 31)) = W1 at HX ⊢
    have k0 := (unhide HX).i1
    go_wp2
    go_ret
    exact ⟨⟨_, _, rfl, pAt_nil _ _, fun h => absurd rfl h⟩, (unhide HX).bel⟩
theorem rgvN_22 (s : Sp) (w : World) : Calls Tryz.prog 44 #[.agg #[.slice s.ao s.T.length s.cap, .slice s.so s.L.length s.sc, .int .i64 s.fn], .agg #[.int .i64 s.p, .int .u8 22, .int .i64 s.a, .int .i64 s.b]] w (RowN w (gvR s 22)) := by
    have HX := hide (Bxs.new w s 22)
    go_enter Tryz.func44, Tryz.ntmps44
    go_upto_region 1 with fail
    generalize ((w.alloc (.cells #[.slice s.ao s.T.length s.cap, .slice s.so s.L.length s.sc, .int .i64 s.fn] 25)).alloc (.cells #[.int .i64 s.p, .int .u8 22, .int .i64 s.a, .int .i64 s.b] 31)) = W1 at HX ⊢
    have k0 := (unhide HX).i1
    go_wp2
    go_ret
    exact ⟨⟨_, _, rfl, pAt_nil _ _, fun h => absurd rfl h⟩, (unhide HX).bel⟩
theorem rgvN_25 (s : Sp) (w : World) : Calls Tryz.prog 44 #[.agg #[.slice s.ao s.T.length s.cap, .slice s.so s.L.length s.sc, .int .i64 s.fn], .agg #[.int .i64 s.p, .int .u8 25, .int .i64 s.a, .int .i64 s.b]] w (RowN w (gvR s 25)) := by
    have HX := hide (Bxs.new w s 25)
    go_enter Tryz.func44, Tryz.ntmps44
    go_upto_region 1 with fail
    generalize ((w.alloc (.cells #[.slice s.ao s.T.length s.cap, .slice s.so s.L.length s.sc, .int .i64 s.fn] 25)).alloc (.cells #[.int .i64 s.p, .int .u8 25, .int .i64 s.a, .int .i64 s.b] 31)) = W1 at HX ⊢
    have k0 := (unhide HX).i1
    go_wp2
    go_ret
    exact ⟨⟨_, _, rfl, pAt_nil _ _, fun h => absurd rfl h⟩, (unhide HX).bel⟩
theorem rgvN_26 (s : Sp) (w : World) : Calls Tryz.prog 44 #[.agg #[.slice s.ao s.T.length s.cap, .slice s.so s.L.length s.sc, .int .i64 s.fn], .agg #[.int .i64 s.p, .int .u8 26, .int .i64 s.a, .int .i64 s.b]] w (RowN w (gvR s 26)) := by
    have HX := hide (Bxs.new w s 26)
    go_enter Tryz.func44, Tryz.ntmps44
    go_upto_region 1 with fail
    generalize ((w.alloc (.cells #[.slice s.ao s.T.length s.cap, .slice s.so s.L.length s.sc, .int .i64 s.fn] 25)).alloc (.cells #[.int .i64 s.p, .int .u8 26, .int .i64 s.a, .int .i64 s.b] 31)) = W1 at HX ⊢
    have k0 := (unhide HX).i1
    go_wp2
    go_ret
    exact ⟨⟨_, _, rfl, pAt_lit W1 [4] _, fun _ b o e => at_new e ((unhide HX).bel.size)⟩, (unhide HX).bel.alloc (unhide HX).bel.size _⟩
theorem rgvN_27 (s : Sp) (w : World) : Calls Tryz.prog 44 #[.agg #[.slice s.ao s.T.length s.cap, .slice s.so s.L.length s.sc, .int .i64 s.fn], .agg #[.int .i64 s.p, .int .u8 27, .int .i64 s.a, .int .i64 s.b]] w (RowN w (gvR s 27)) := by
    have HX := hide (Bxs.new w s 27)
    go_enter Tryz.func44, Tryz.ntmps44
    go_upto_region 1 with fail
    generalize ((w.alloc (.cells #[.slice s.ao s.T.length s.cap, .slice s.so s.L.length s.sc, .int .i64 s.fn] 25)).alloc (.cells #[.int .i64 s.p, .int .u8 27, .int .i64 s.a, .int .i64 s.b] 31)) = W1 at HX ⊢
    have k0 := (unhide HX).i1
    go_wp2
    go_ret
    exact ⟨⟨_, _, rfl, pAt_lit W1 [1] _, fun _ b o e => at_new e ((unhide HX).bel.size)⟩, (unhide HX).bel.alloc (unhide HX).bel.size _⟩
theorem rgvN_28 (s : Sp) (w : World) : Calls Tryz.prog 44 #[.agg #[.slice s.ao s.T.length s.cap, .slice s.so s.L.length s.sc, .int .i64 s.fn], .agg #[.int .i64 s.p, .int .u8 28, .int .i64 s.a, .int .i64 s.b]] w (RowN w (gvR s 28)) := by
    have HX := hide (Bxs.new w s 28)
    go_enter Tryz.func44, Tryz.ntmps44
    go_upto_region 1 with fail
    generalize ((w.alloc (.cells #[.slice s.ao s.T.length s.cap, .slice s.so s.L.length s.sc, .int .i64 s.fn] 25)).alloc (.cells #[.int .i64 s.p, .int .u8 28, .int .i64 s.a, .int .i64 s.b] 31)) = W1 at HX ⊢
    have k0 := (unhide HX).i1
    go_wp2
    go_ret
    exact ⟨⟨_, _, rfl, pAt_lit W1 [1] _, fun _ b o e => at_new e ((unhide HX).bel.size)⟩, (unhide HX).bel.alloc (unhide HX).bel.size _⟩
theorem rgvN_29 (s : Sp) (w : World) : Calls Tryz.prog 44 #[.agg #[.slice s.ao s.T.length s.cap, .slice s.so s.L.length s.sc, .int .i64 s.fn], .agg #[.int .i64 s.p, .int .u8 29, .int .i64 s.a, .int .i64 s.b]] w (RowN w (gvR s 29)) := by
    have HX := hide (Bxs.new w s 29)
    go_enter Tryz.func44, Tryz.ntmps44
    go_upto_region 1 with fail
    generalize ((w.alloc (.cells #[.slice s.ao s.T.length s.cap, .slice s.so s.L.length s.sc, .int .i64 s.fn] 25)).alloc (.cells #[.int .i64 s.p, .int .u8 29, .int .i64 s.a, .int .i64 s.b] 31)) = W1 at HX ⊢
    have k0 := (unhide HX).i1
    go_wp2
    go_ret
    exact ⟨⟨_, _, rfl, pAt_nil _ _, fun h => absurd rfl h⟩, (unhide HX).bel⟩
theorem rgvN_31 (s : Sp) (w : World) : Calls Tryz.prog 44 #[.agg #[.slice s.ao s.T.length s.cap, .slice s.so s.L.length s.sc, .int .i64 s.fn], .agg #[.int .i64 s.p, .int .u8 31, .int .i64 s.a, .int .i64 s.b]] w (RowN w (gvR s 31)) := by
    have HX := hide (Bxs.new w s 31)
    go_enter Tryz.func44, Tryz.ntmps44
    go_upto_region 1 with fail
    generalize ((w.alloc (.cells #[.slice s.ao s.T.length s.cap, .slice s.so s.L.length s.sc, .int .i64 s.fn] 25)).alloc (.cells #[.int .i64 s.p, .int .u8 31, .int .i64 s.a, .int .i64 s.b] 31)) = W1 at HX ⊢
    have k0 := (unhide HX).i1
    go_wp2
    go_ret
    exact ⟨⟨_, _, rfl, pAt_lit W1 [2] _, fun _ b o e => at_new e ((unhide HX).bel.size)⟩, (unhide HX).bel.alloc (unhide HX).bel.size _⟩
theorem rgvN_32 (s : Sp) (w : World) : Calls Tryz.prog 44 #[.agg #[.slice s.ao s.T.length s.cap, .slice s.so s.L.length s.sc, .int .i64 s.fn], .agg #[.int .i64 s.p, .int .u8 32, .int .i64 s.a, .int .i64 s.b]] w (RowN w (gvR s 32)) := by
    have HX := hide (Bxs.new w s 32)
    go_enter Tryz.func44, Tryz.ntmps44
    go_upto_region 1 with fail
    generalize ((w.alloc (.cells #[.slice s.ao s.T.length s.cap, .slice s.so s.L.length s.sc, .int .i64 s.fn] 25)).alloc (.cells #[.int .i64 s.p, .int .u8 32, .int .i64 s.a, .int .i64 s.b] 31)) = W1 at HX ⊢
    have k0 := (unhide HX).i1
    go_wp2
    go_ret
    exact ⟨⟨_, _, rfl, pAt_nil _ _, fun h => absurd rfl h⟩, (unhide HX).bel⟩
theorem rgvN_33 (s : Sp) (w : World) : Calls Tryz.prog 44 #[.agg #[.slice s.ao s.T.length s.cap, .slice s.so s.L.length s.sc, .int .i64 s.fn], .agg #[.int .i64 s.p, .int .u8 33, .int .i64 s.a, .int .i64 s.b]] w (RowN w (gvR s 33)) := by
    have HX := hide (Bxs.new w s 33)
    go_enter Tryz.func44, Tryz.ntmps44
    go_upto_region 1 with fail
    generalize ((w.alloc (.cells #[.slice s.ao s.T.length s.cap, .slice s.so s.L.length s.sc, .int .i64 s.fn] 25)).alloc (.cells #[.int .i64 s.p, .int .u8 33, .int .i64 s.a, .int .i64 s.b] 31)) = W1 at HX ⊢
    have k0 := (unhide HX).i1
    go_wp2
    go_ret
    exact ⟨⟨_, _, rfl, pAt_nil _ _, fun h => absurd rfl h⟩, (unhide HX).bel⟩
theorem rgvN_21x (s : Sp) (w : World) (hok : SpOk w s) (x : Sg) (c : Nat) (hc : s.a = (c : Int)) (hx : s.L[c]? = some x) : Calls Tryz.prog 44 #[.agg #[.slice s.ao s.T.length s.cap, .slice s.so s.L.length s.sc, .int .i64 s.fn], .agg #[.int .i64 s.p, .int .u8 21, .int .i64 s.a, .int .i64 s.b]] w (RowN w (rtD x.rt)) := by
  have HCQ := hide hc
  clear hc
  have HX := hide (Bxs.new w s 21)
  have HOK := hide (hok.below (Bxs.new w s 21).bel)
  clear hok
  go_enter Tryz.func44, Tryz.ntmps44
  go_upto_region 1 with fail
  generalize ((w.alloc (.cells #[.slice s.ao s.T.length s.cap, .slice s.so s.L.length s.sc, .int .i64 s.fn] 25)).alloc (.cells #[.int .i64 s.p, .int .u8 21, .int .i64 s.a, .int .i64 s.b] 31)) = W1 at HX HOK ⊢
  have k0 := (unhide HX).i1
  obtain ⟨b, off, ep, hxa⟩ := (unhide HOK).sgs c x hx
  have hlt := (List.getElem?_eq_some_iff.1 hx).1
  have hzl := (unhide HOK).hzl
  have c0 := hxa.c0
  have c1 := hxa.c1
  have HPA := hide hxa.ok.prm
  have k1 := (unhide HX).e1
  rw [ep] at k1
  have j1 : (0 : Int) ≤ ((c : Nat) : Int) := by omega
  have j2 : ((c : Nat) : Int) < ((s.L.length : Nat) : Int) := by omega
  have k2 := (unhide HX).i2
  rw [unhide HCQ] at k2
  clear ep hx hxa
  go_wp2_with fail
  refine (someN_any x.rt _).mono ?_
  rintro e W2 ⟨⟨ga, gc, rfl, hP⟩, hB2⟩
  have HB2 := hide ((unhide HX).bel.trans (hB2.mono (unhide HX).bel.size))
  have HP := hide hP
  clear hB2 hP k1 k2 c0 c1
  go_wp2
  go_ret
  exact ⟨⟨_, _, rfl, (unhide HP).1, fun h b o e => Nat.le_trans (unhide HX).bel.size ((unhide HP).2 h b o e)⟩, unhide HB2⟩
theorem rgvN_23x (s : Sp) (w : World) (hok : SpOk w s) (c : Nat) (hc : s.a = (c : Int)) (hlt : c < 240) (q : Nat) (hq : q = 16 + c) : Calls Tryz.prog 44 #[.agg #[.slice s.ao s.T.length s.cap, .slice s.so s.L.length s.sc, .int .i64 s.fn], .agg #[.int .i64 s.p, .int .u8 23, .int .i64 s.a, .int .i64 s.b]] w (RowN w [q]) := by
  have HCQ := hide hc
  clear hc
  have HX := hide (Bxs.new w s 23)
  have HOK := hide (hok.below (Bxs.new w s 23).bel)
  clear hok
  go_enter Tryz.func44, Tryz.ntmps44
  go_upto_region 1 with fail
  generalize ((w.alloc (.cells #[.slice s.ao s.T.length s.cap, .slice s.so s.L.length s.sc, .int .i64 s.fn] 25)).alloc (.cells #[.int .i64 s.p, .int .u8 23, .int .i64 s.a, .int .i64 s.b] 31)) = W1 at HX HOK ⊢
  have k0 := (unhide HX).i1
  have k2 := (unhide HX).i2
  rw [unhide HCQ] at k2
  have HCL := hide (rclass_any c q hlt hq W1)
  clear hq
  go_wp2_with fail
  refine (unhide HCL).mono ?_
  rintro e W2 ⟨rfl, hw2⟩
  rw [hw2]
  clear hw2 W2
  go_wp2
  go_ret
  exact ⟨⟨_, _, rfl, pAt_lit W1 [q] _, fun _ b o e => at_new e ((unhide HX).bel.size)⟩, (unhide HX).bel.alloc (unhide HX).bel.size _⟩
theorem rgvN_30x (s : Sp) (w : World) (hok : SpOk w s) (c : Nat) (hc : s.a = (c : Int)) (hlt : c < 240) (q : Nat) (hq : q = 16 + c) : Calls Tryz.prog 44 #[.agg #[.slice s.ao s.T.length s.cap, .slice s.so s.L.length s.sc, .int .i64 s.fn], .agg #[.int .i64 s.p, .int .u8 30, .int .i64 s.a, .int .i64 s.b]] w (RowN w [q]) := by
  have HCQ := hide hc
  clear hc
  have HX := hide (Bxs.new w s 30)
  have HOK := hide (hok.below (Bxs.new w s 30).bel)
  clear hok
  go_enter Tryz.func44, Tryz.ntmps44
  go_upto_region 1 with fail
  generalize ((w.alloc (.cells #[.slice s.ao s.T.length s.cap, .slice s.so s.L.length s.sc, .int .i64 s.fn] 25)).alloc (.cells #[.int .i64 s.p, .int .u8 30, .int .i64 s.a, .int .i64 s.b] 31)) = W1 at HX HOK ⊢
  have k0 := (unhide HX).i1
  have k2 := (unhide HX).i2
  rw [unhide HCQ] at k2
  have HCL := hide (rclass_any c q hlt hq W1)
  clear hq
  go_wp2_with fail
  refine (unhide HCL).mono ?_
  rintro e W2 ⟨rfl, hw2⟩
  rw [hw2]
  clear hw2 W2
  go_wp2
  go_ret
  exact ⟨⟨_, _, rfl, pAt_lit W1 [q] _, fun _ b o e => at_new e ((unhide HX).bel.size)⟩, (unhide HX).bel.alloc (unhide HX).bel.size _⟩
set_option maxHeartbeats 2000000 in
theorem rgvN_24x (s : Sp) (w : World) (hok : SpOk w s) (d : Nat) (f : Fl) (hd : s.b = (d : Int)) (hf : (fieldsB s.T s.a)[d]? = some f) : Calls Tryz.prog 44 #[.agg #[.slice s.ao s.T.length s.cap, .slice s.so s.L.length s.sc, .int .i64 s.fn], .agg #[.int .i64 s.p, .int .u8 24, .int .i64 s.a, .int .i64 s.b]] w (RowN w (rtD f.ty)) := by
  have HDQ := hide hd
  clear hd
  have HX := hide (Bxs.new w s 24)
  have HOK := hide (hok.below (Bxs.new w s 24).bel)
  clear hok
  go_enter Tryz.func44, Tryz.ntmps44
  go_upto_region 1 with fail
  generalize ((w.alloc (.cells #[.slice s.ao s.T.length s.cap, .slice s.so s.L.length s.sc, .int .i64 s.fn] 25)).alloc (.cells #[.int .i64 s.p, .int .u8 24, .int .i64 s.a, .int .i64 s.b] 31)) = W1 at HX HOK ⊢
  have k0 := (unhide HX).i1
  have HFD := hide (refFieldsF (s := s) (W := W1.drew) ((unhide HOK).tab.below (belowD (Below.refl _ _) 1)) (unhide HOK).hz (unhide HOK).can.made)
  have HXd : Hid (Bxs w W1.drew s 24) := hide ((unhide HX).below (belowD (Below.refl _ _) 1))
  have hln := fields_len (unhide HOK).can.made s.a
  have hlt2 := (List.getElem?_eq_some_iff.1 hf).1
  go_upto_region 32 with fail
  refine wp_region_held_drew (S := (fun w' => w'.cell? ⟨w.heap.size, 0, none⟩ = some (.slice s.ao s.T.length s.cap) ∧ w'.cell? ⟨w.heap.size + 1, 2, none⟩ = some (.int .i64 s.a) ∧ w'.cell? ⟨w.heap.size + 1, 3, none⟩ = some (.int .i64 (d : Int)))) (by kernel_rfl) ⟨(unhide HX).e0, (unhide HX).i2, by rw [← unhide HDQ]; exact (unhide HX).i3⟩ (fun hS => ?_)
  clear HX k0
  generalize W1.drew = Wd at HFD HXd hS ⊢
  refine wpAnyH_take (i := 0) (v := .pointer (some ⟨w.heap.size, 0, none⟩)) rfl (by kernel_rfl) (by kernel_rfl) (by kernel_rfl) (fun _ _ _ h => h) (Or.inl ⟨by rfl, fun W h => by obtain ⟨h0, h1, h2⟩ := h; go_simp⟩) hS ?_
  refine wpAnyH_take (i := 1) (v := .slice s.ao s.T.length s.cap) rfl (by kernel_rfl) (by kernel_rfl) (by kernel_rfl) (fun _ _ _ h => h) (Or.inl ⟨by rfl, fun W h => by obtain ⟨h0, h1, h2⟩ := h; go_simp⟩) hS ?_
  refine wpAnyH_take (i := 2) (v := .pointer (some ⟨w.heap.size + 1, 2, none⟩)) rfl (by kernel_rfl) (by kernel_rfl) (by kernel_rfl) (fun _ _ _ h => h) (Or.inl ⟨by rfl, fun W h => by obtain ⟨h0, h1, h2⟩ := h; go_simp⟩) hS ?_
  refine wpAnyH_take (i := 3) (v := .int .i64 s.a) rfl (by kernel_rfl) (by kernel_rfl) (by kernel_rfl) (fun _ _ _ h => h) (Or.inl ⟨by rfl, fun W h => by obtain ⟨h0, h1, h2⟩ := h; go_simp⟩) hS ?_
  refine wpAnyH_take (i := 5) (v := .pointer (some ⟨w.heap.size + 1, 3, none⟩)) rfl (by kernel_rfl) (by kernel_rfl) (by kernel_rfl) (fun _ _ _ h => h) (Or.inl ⟨by rfl, fun W h => by obtain ⟨h0, h1, h2⟩ := h; go_simp⟩) hS ?_
  refine wpAnyH_take (i := 6) (v := .int .i64 (d : Int)) rfl (by kernel_rfl) (by kernel_rfl) (by kernel_rfl) (fun _ _ _ h => h) (Or.inl ⟨by rfl, fun W h => by obtain ⟨h0, h1, h2⟩ := h; go_simp⟩) hS ?_
  refine wpAnyH_ready (rs := [4]) (by kernel_rfl) (by simp) ?_
  refine AllReadyH.cons rfl (fun K hK => ?_) AllReadyH.nil
  go_simp
  go_wp2_with (go_at_call 41; refine (unhide HFD).mono ?_; rintro e W2 ⟨fa, fc, rfl, hF, hB2⟩)
  have HX2 := hide ((unhide HXd).below hB2)
  refine hK.out _ _ ⟨(unhide HX2).e0, (unhide HX2).i2, by rw [← unhide HDQ]; exact (unhide HX2).i3⟩ (fun hS2 => ?_)
  clear hK K hS hB2 HXd HFD
  obtain ⟨b, off, rfl, hfa⟩ := hF d f hf
  have c1 := hfa.c1
  generalize (fieldsB s.T s.a).length = nl at hlt2 hln ⊢
  have j1 : (0 : Int) ≤ ((d : Nat) : Int) := by omega
  have j2 : ((d : Nat) : Int) < ((nl : Nat) : Int) := by omega
  clear hf hF hfa
  refine wpAnyH_ready (rs := [7]) (by kernel_rfl) (by simp) ?_
  refine AllReadyH.cons rfl (fun K hK => ?_) AllReadyH.nil
  go_simp
  refine hK.out _ _ hS2 (fun hS2 => ?_)
  clear hK K
  refine wpAnyH_ready (rs := [8]) (by kernel_rfl) (by simp) ?_
  refine AllReadyH.cons rfl (fun K hK => ?_) AllReadyH.nil
  go_simp
  refine hK.out _ _ hS2 (fun hS2 => ?_)
  clear hK K
  refine wpAnyH_ready (rs := [9]) (by kernel_rfl) (by simp) ?_
  refine AllReadyH.cons rfl (fun K hK => ?_) AllReadyH.nil
  go_simp
  refine hK.out _ _ hS2 (fun hS2 => ?_)
  clear hK K
  have hs2 := someN_any f.ty W2
  refine wpAnyH_ready (rs := [10]) (by kernel_rfl) (by simp) ?_
  refine AllReadyH.cons rfl (fun K hK => ?_) AllReadyH.nil
  go_simp
  go_wp2_with (go_at_call 65; refine (someN_any f.ty W2).mono ?_; rintro e W3 ⟨⟨ga, gc, rfl, hP⟩, hB3⟩)
  have HX3 := hide ((unhide HX2).below hB3)
  have HP := hide hP
  refine hK.out _ _ ⟨(unhide HX3).e0, (unhide HX3).i2, (hB3.cell (p := ⟨w.heap.size + 1, 3, none⟩) (unhide HX2).lt).trans hS2.2.2⟩ (fun hS3 => ?_)
  clear hK K hS2 hB3 hP hs2
  refine wpAnyH_ready (rs := [11]) (by kernel_rfl) (by simp) ?_
  refine AllReadyH.cons rfl (fun K hK => ?_) AllReadyH.nil
  go_simp
  refine hK.out _ _ hS3 (fun hS3 => ?_)
  clear hK K
  refine wpAnyH_done (by kernel_rfl) ?_ _
  go_wp2
  go_ret
  exact ⟨⟨_, _, rfl, (unhide HP).1, fun h b o e => Nat.le_trans (unhide HX2).bel.size ((unhide HP).2 h b o e)⟩, (unhide HX3).bel⟩
theorem rgvN_all (s : Sp) (w : World) (hok : SpOk w s) : ∀ op, op < 34 → unkO s op = 0 → Calls Tryz.prog 44 #[.agg #[.slice s.ao s.T.length s.cap, .slice s.so s.L.length s.sc, .int .i64 s.fn], .agg #[.int .i64 s.p, .int .u8 (op : Int), .int .i64 s.a, .int .i64 s.b]] w (RowN w (gvR s op)) :=
  cases34 (p := fun op => unkO s op = 0 → Calls Tryz.prog 44 #[.agg #[.slice s.ao s.T.length s.cap, .slice s.so s.L.length s.sc, .int .i64 s.fn], .agg #[.int .i64 s.p, .int .u8 (op : Int), .int .i64 s.a, .int .i64 s.b]] w (RowN w (gvR s op))) (fun _ => rgvN_0 s w) (fun _ => rgvN_1 s w) (fun _ => rgvN_2 s w) (fun _ => rgvN_3 s w) (fun _ => rgvN_4 s w) (fun _ => rgvN_5 s w) (fun _ => rgvN_6 s w) (fun _ => rgvN_7 s w) (fun _ => rgvN_8 s w) (fun _ => rgvN_9 s w) (fun _ => rgvN_10 s w) (fun _ => rgvN_11 s w) (fun _ => rgvN_12 s w) (fun _ => rgvN_13 s w) (fun _ => rgvN_14 s w) (fun _ => rgvN_15 s w) (fun _ => rgvN_16 s w) (fun _ => rgvN_17 s w) (fun _ => rgvN_18 s w) (fun _ => rgvN_19 s w) (fun _ => rgvN_20 s w) (fun hu => by obtain ⟨x, hx, ha, -, e⟩ := sg_in (unk_sig (s := s) rfl hu); show Calls _ _ _ _ (RowN w (rtD (sgRt s.L s.a))); rw [e]; exact rgvN_21x s w hok x _ ha hx) (fun _ => rgvN_22 s w) (fun hu => by obtain ⟨ha, hl⟩ := cls_ok hok (unk_cls (s := s) (op := 23) (by decide) hu); exact rgvN_23x s w hok _ ha hl _ rfl) (fun hu => by obtain ⟨f, hf, hb, e⟩ := fld_in (unk_fld (s := s) (op := 24) (Or.inl rfl) hu); show Calls _ _ _ _ (RowN w (rtD (fldT s.T s.a s.b))); rw [e]; exact rgvN_24x s w hok _ f hb hf) (fun _ => rgvN_25 s w) (fun _ => rgvN_26 s w) (fun _ => rgvN_27 s w) (fun _ => rgvN_28 s w) (fun _ => rgvN_29 s w) (fun hu => by obtain ⟨ha, hl⟩ := cls_ok hok (unk_cls (s := s) (op := 30) (by decide) hu); exact rgvN_30x s w hok _ ha hl _ rfl) (fun _ => rgvN_31 s w) (fun _ => rgvN_32 s w) (fun _ => rgvN_33 s w)
end Go.Proofs.YtkodmpcnndbngaaGreatDoor

/-
  What the document's apply keeps behind the row that is given: plain lemmas.
-/
namespace Go.Proofs.YtkodmpcnndbngaaGreatDoor
open Go.RowKit
set_option maxRecDepth 20000

/-- The boxes, the frame's own among them, and the two rows: what is given, what was taken. -/
structure Tl (w W : World) (s : Sp) (f : Fr) (G H : Option Addr) (gl tk : List Nat) : Prop where
  e : EBx W w.heap.size (.slice s.ao s.T.length s.cap) (.slice s.so s.L.length s.sc) s.fn
  f : FAt W (w.heap.size + 1) f
  i : IBx W (w.heap.size + 2) s
  r : FAt W (w.heap.size + 3) frZ
  n : FAt W (w.heap.size + 4) frZ
  bel : Below w.heap.size w W
  gv : PAt W G gl
  hd : PAt W H tk
  gn : ∀ b o, gl ≠ [] → G = some ⟨b, o, none⟩ → w.heap.size + 4 < b
  hn : ∀ b o, tk ≠ [] → H = some ⟨b, o, none⟩ → w.heap.size + 4 < b
theorem PAt.ne {l : List Nat} {i : Nat} (h : i < l.length) : l ≠ [] := fun e => by rw [e] at h; simp at h
theorem Tl.below {w W W' : World} {s : Sp} {f : Fr} {G H : Option Addr} {gl tk : List Nat} (h : Tl w W s f G H gl tk) (hb : Below W.heap.size W W') : Tl w W' s f G H gl tk :=
  ⟨(hb.block _ h.e.lt).trans h.e, h.f.below hb h.f.lt, (hb.block _ h.i.lt).trans h.i, h.r.below hb h.r.lt, h.n.below hb h.n.lt, h.bel.trans (hb.mono h.bel.size), h.gv.below hb, h.hd.below hb, h.gn, h.hn⟩
theorem cell_setRow_other (W : World) (g b o : Nat) (cs : Array Value) (h : b ≠ g) : (W.setRow g cs).cell? ⟨b, o, none⟩ = W.cell? ⟨b, o, none⟩ := by
  have := setRow_other W g b cs h
  simp only [World.cell?, this]
theorem Tl.row {w W : World} {s : Sp} {f : Fr} {G H : Option Addr} {gl tk : List Nat} (h : Tl w W s f G H gl tk) (f' : Fr) : Tl w (W.setRow (w.heap.size + 1) (frA f')) s f' G H gl tk :=
  ⟨(setRow_other _ _ _ _ (by omega)).trans h.e, h.f.row f', (setRow_other _ _ _ _ (by omega)).trans h.i, h.r.rowOther f' (by omega), h.n.rowOther f' (by omega), below_setRow' h.bel (by omega) _,
    h.gv.other (fun b o e i hi => cell_setRow_other _ _ _ _ _ (by have := h.gn b o (PAt.ne hi) e; omega)), h.hd.other (fun b o e i hi => cell_setRow_other _ _ _ _ _ (by have := h.hn b o (PAt.ne hi) e; omega)), h.gn, h.hn⟩
theorem cell_setCell_other (W : World) (a : Addr) (b o : Nat) (v : Value) (h : b ≠ a.block) : (W.setCell a v).cell? ⟨b, o, none⟩ = W.cell? ⟨b, o, none⟩ := by
  have := heap_setCell_other W a b v h
  simp only [World.cell?, this]
theorem Tl.cell {w W : World} {s : Sp} {f : Fr} {G H : Option Addr} {gl tk : List Nat} (h : Tl w W s f G H gl tk) (i t : Nat) : Tl w (W.setCell ⟨w.heap.size + 1, 2 + i, none⟩ (.int .u8 (t : Int))) s ⟨f.lo, f.he, f.sl.set i t⟩ G H gl tk :=
  ⟨(heap_setCell_other _ _ _ _ (by simp)).trans h.e, h.f.set i t, (heap_setCell_other _ _ _ _ (by simp)).trans h.i, h.r.cellOther _ _ (by simp), h.n.cellOther _ _ (by simp), h.bel.setCell (by simp) _,
    h.gv.other (fun b o e i hi => cell_setCell_other _ _ _ _ _ (by have := h.gn b o (PAt.ne hi) e; simp; omega)), h.hd.other (fun b o e i hi => cell_setCell_other _ _ _ _ _ (by have := h.hn b o (PAt.ne hi) e; simp; omega)), h.gn, h.hn⟩
/-- A new row is given in place of the old one. -/
theorem Tl.give {w W : World} {s : Sp} {f : Fr} {G H : Option Addr} {gl tk : List Nat} (h : Tl w W s f G H gl tk) (W' : World) (hb : Below W.heap.size W W') (G' : Option Addr) (gl' : List Nat) (hg : PAt W' G' gl') (hn : ∀ b o, G' = some ⟨b, o, none⟩ → W.heap.size ≤ b) : Tl w W' s f G' H gl' tk :=
  have h2 := h.below hb
  ⟨h2.e, h2.f, h2.i, h2.r, h2.n, h2.bel, hg, h2.hd, fun b o _ e => by have := hn b o e; have := h.n.lt; omega, h2.hn⟩
theorem OwnT.kept {w w' : World} {base : Nat} {v : Value} {l : List Nat} (h : OwnT w base v l) (hb : Below w.heap.size w w') : OwnT w' base v l := by
  refine ⟨h.1, ?_⟩
  rcases h.2 with h1 | ⟨g, cap, cur, hv, hbg, hh, r⟩
  · exact Or.inl h1
  · exact Or.inr ⟨g, cap, cur, hv, hbg, by rw [hb.block g (Array.getElem?_eq_some_iff.1 hh).1]; exact hh, r⟩
theorem OwnT.pAt {W : World} {base : Nat} {ha : Option Addr} {hcap n : Nat} {tk : List Nat} (h : OwnT W base (.slice ha n hcap) tk) : PAt W ha tk ∧ ∀ b o, tk ≠ [] → ha = some ⟨b, o, none⟩ → base ≤ b := by
  refine ⟨fun i t ht => ?_, fun b o hne e => ?_⟩
  · obtain ⟨ao, cap, hv, hc⟩ := h.slice
    injection hv with h1 h2 h3
    obtain ⟨g, hg, hx⟩ := hc i t ht
    exact ⟨g, 0, h1.trans hg, by rw [Nat.zero_add]; exact hx⟩
  · rcases h.2 with ⟨h1, h2⟩ | ⟨g, cap, cur, hv, hbg, _⟩
    · exact absurd (List.eq_nil_of_length_eq_zero h2) hne
    · injection hv with h1 h2 h3
      rw [h1] at e
      injection e with e
      injection e with e1 e2
      omega
theorem Tl.of {w W Wd : World} {s : Sp} {base n : Nat} {G ha : Option Addr} {hcap : Nat} {gl tk : List Nat} (hx : Ba w W s) (ho : OwnT W base (.slice ha n hcap) tk) (hb : w.heap.size + 4 < base) (hg : PAt W G gl) (hd : w.heap.size + 4 < Wd.heap.size) (hn : gl ≠ [] → ∀ b o, G = some ⟨b, o, none⟩ → Wd.heap.size ≤ b) : Tl w W s s.f G ha gl tk :=
  ⟨hx.e, hx.f, hx.i, hx.r, hx.n, hx.bel, hg, ho.pAt.1, fun b o h e => by have := hn h b o e; omega, fun b o h e => by have := ho.pAt.2 b o h e; omega⟩
theorem rowA_one (W : World) (t : Nat) : PAt (W.alloc (.cells #[.int .u8 (t : Int)] 26)) (some ⟨W.heap.size, 0, none⟩) [t] := fun i x hx => by
  match i, hx with
  | 0, hx =>
    injection hx with hx
    subst hx
    exact ⟨_, 0, rfl, cell_of_row _ _ 0 _ _ _ (heap_alloc_new W _)⟩
theorem rowA_two (W : World) (t u : Nat) : PAt (W.alloc (.cells #[.int .u8 (t : Int), .int .u8 (u : Int)] 26)) (some ⟨W.heap.size, 0, none⟩) [t, u] := fun i x hx => by
  match i, hx with
  | 0, hx =>
    injection hx with hx
    subst hx
    exact ⟨_, 0, rfl, cell_of_row _ _ 0 _ _ _ (heap_alloc_new W _)⟩
  | 1, hx =>
    injection hx with hx
    subst hx
    exact ⟨_, 0, rfl, cell_of_row _ _ 1 _ _ _ (heap_alloc_new W _)⟩
theorem some_new {n b o : Nat} (e : some (⟨n, 0, none⟩ : Addr) = some ⟨b, o, none⟩) : n ≤ b := by
  injection e with e
  injection e with e
  omega
theorem alR_yes {s : Sp} {tk : List Nat} (h4 : s.op ≠ 4) (h16 : s.op ≠ 16) : alR s tk s.op = true := by
  unfold alR
  by_cases h5 : s.op = 5
  · rw [if_pos h5]
  · rw [if_neg h5]
    unfold alO
    split <;> first | rfl | omega
theorem alR_four {s : Sp} {tk : List Nat} (h4 : s.op = 4) : alR s tk s.op = decide ((loadD s.f s.a).1 ≠ 0) := by
  rw [h4]; rfl
/-- The slot of a load. -/
theorem load_at {n : Nat} {s : Sp} (h4 : s.op = 4 ∨ s.op = 5) (hf : FrIs n s.f) (hm : missD s = 0) : 0 ≤ s.a ∧ s.a < s.f.lo ∧ s.a < 24 ∧ ∃ t, s.f.sl[s.a.toNat]? = some t ∧ t < 256 ∧ (loadD s.f s.a).1 = t := by
  have h1 := nF_shape hf.shape
  have h2 := miss_slot h4 hf.shape
  have h3 : ¬ (s.a < 0 ∨ s.f.lo ≤ s.a) := fun h => by rw [if_pos h, hm] at h2; exact absurd h2 (by decide)
  have hl : s.a.toNat < s.f.sl.length := by rw [hf.ok.len]; omega
  have he := List.getElem?_eq_getElem hl
  refine ⟨by omega, by omega, by omega, _, he, hf.ok.byte _ (List.mem_of_getElem? he), ?_⟩
  unfold loadD
  rw [hf.shape, if_neg (by decide), if_neg h3, List.getD_eq_getElem?_getD, he]
  rfl
end Go.Proofs.YtkodmpcnndbngaaGreatDoor
