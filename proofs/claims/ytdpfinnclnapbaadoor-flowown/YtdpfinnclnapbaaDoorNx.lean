/-
  Where an instruction goes on: the contracts of flow.Next and provisoref05.Next, in new memory. Conditions: the widths lie there.
-/
import Derived.Test.YtdpfinnclnapbaaDoorSo
import Derived.Test.YtdpfinnclnapbaaDoorIn3
namespace Go.Proofs.YtdpfinnclnapbaaDoor
open Go.RowKit
set_option maxRecDepth 20000

def jmpD (op : Nat) : Bool := decide (op = 19) || decide (op = 20)
def endD (op : Nat) : Bool := decide (op = 19) || decide (op = 22) || decide (op = 32)
/-- An address of code. -/
def inC (p : Int) : Bool := decide (0 ≤ p) && decide (p < 4096)
/-- Where an instruction goes on. -/
def nextD (p : Int) (op : Nat) (a : Int) : List Int :=
  if sizeD op = 0 ∨ inC p = false then [] else
    (fun l => if jmpD op then putJ l a else l) (if endD op then [] else putJ [] (p + sizeD op))
theorem sizeD_le (op : Nat) : sizeD op ≤ 6 := by
  unfold sizeD
  split
  · have := wA_le op ‹_›
    have := wB_le op ‹_›
    omega
  · omega
theorem nextD_asc (p : Int) (op : Nat) (a : Int) : AscJ (nextD p op a) := by
  unfold nextD
  split
  · exact List.Pairwise.nil
  · have h0 : AscJ (if endD op then [] else putJ [] (p + sizeD op)) := by
      split
      · exact List.Pairwise.nil
      · exact asc_putJ List.Pairwise.nil
    simp only
    split
    · exact asc_putJ h0
    · exact h0
theorem nextD_len (p : Int) (op : Nat) (a : Int) : (nextD p op a).length ≤ 2 := by
  unfold nextD
  split
  · simp
  · have h0 : (if endD op then [] else putJ [] (p + sizeD op)).length ≤ 1 := by split <;> simp [putJ]
    simp only
    split
    · have := putJ_len a (if endD op then [] else putJ [] (p + sizeD op)); omega
    · omega
/-- The ways as the program lists them. -/
def rawN (p : Int) (op : Nat) (a : Int) : List Int := (if endD op then [] else [p + sizeD op]) ++ (if jmpD op then [a] else [])
theorem next_raw {p : Int} {op : Nat} {a : Int} (h1 : sizeD op ≠ 0) (h2 : inC p = true) : onceJ (rawN p op a) = nextD p op a := by
  refine asc_ext (onceJ_asc _) (nextD_asc _ _ _) (fun x => ?_)
  have e : nextD p op a = (fun l => if jmpD op then putJ l a else l) (if endD op then [] else putJ [] (p + sizeD op)) := by
    unfold nextD
    exact if_neg (by rintro (h | h); exact h1 h; rw [h2] at h; cases h)
  rw [mem_onceJ, e]
  unfold rawN
  cases endD op <;> cases jmpD op <;> simp [mem_putJ]
  all_goals omega

theorem inCode_any (p : Int) (w : World) : Calls Tryd.prog 30 #[.int .i64 p] w fun e w' => e = .returned (.bool (inC p)) ∧ w' = w := by
  unfold inC
  go_enter Tryd.func30, Tryd.ntmps30
  by_cases h1 : 0 ≤ p
  · have j1 : p ≥ 0 := h1
    by_cases h2 : p < 4096
    · go_wp2
      go_ret
      simp [h1, h2]
    · go_wp2
      go_ret
      exact ⟨by simp [h2], rfl⟩
  · have j1 : ¬ p ≥ 0 := h1
    go_wp2
    go_ret
    exact ⟨by simp; omega, rfl⟩

theorem inC_iff {p : Int} : inC p = true ↔ 0 ≤ p ∧ p < 4096 := by unfold inC; simp
theorem IAt.new' (w : World) (p : Int) (op : Nat) (a b : Int) : IAt (w.alloc (.cells #[.int .i64 p, .int .u8 (op : Int), .int .i64 a, .int .i64 b] 31)) w.heap.size p op a b := by
  unfold IAt World.alloc
  simp
theorem IAt.drewN {W : World} {g : Nat} {p : Int} {op : Nat} {a b : Int} (h : IAt W g p op a b) (k : Nat) : IAt (W.drewN k) g p op a b := h
theorem belowD' {w w' : World} {B : Nat} (h : Below B w w') (q : Nat) : Below B w (w'.drewN q) := h.trans ⟨rfl, rfl, rfl, Nat.le_refl _, fun _ _ => rfl⟩
set_option maxHeartbeats 1000000 in
theorem behind_any (p : Int) (op : Nat) (a b : Int) (w : World) (hW : WidAt w) (ho : op < 256) (hp : 0 ≤ p ∧ p ≤ 4096) :
    Calls Tryd.prog 32 #[.agg #[.int .i64 p, .int .u8 (op : Int), .int .i64 a, .int .i64 b]] w fun e w' => e = .returned (.int .i64 (p + sizeD op)) ∧ Below w.heap.size w w' := by
  have hal := ((Below.refl w.heap.size w).alloc (Nat.le_refl _) (.cells #[.int .i64 p, .int .u8 (op : Int), .int .i64 a, .int .i64 b] 31))
  have HW := hide (hW.below hal)
  have HI := hide (IAt.new' w p op a b)
  have HB := hide hal
  have hs := sizeD_le op
  obtain ⟨s, hS⟩ : ∃ s, Hid (sizeD op = s) := ⟨_, hide rfl⟩
  rw [unhide hS] at hs ⊢
  clear hW hal
  go_enter Tryd.func32, Tryd.ntmps32
  go_wp2_with fail
  generalize (w.alloc (.cells #[.int .i64 p, .int .u8 (op : Int), .int .i64 a, .int .i64 b] 31)) = W at HW HI HB ⊢
  have c0 := (unhide HI).c0
  have c1 := (unhide HI).c.1
  have hC : Hid (∀ k, Calls Tryd.prog 29 #[.int .u8 (op : Int)] (W.drewN k) fun e w' => e = .returned (.int .i64 (s : Int)) ∧ ∃ k', w' = (W.drewN k).drewN k') := hide (fun k => by have := Size_any op (W.drewN k) ((unhide HW).drewN k) ho; rw [unhide hS] at this; exact this)
  go_quiet ((go_at_call 29; exact Calls.quiet_of (unhide hC _)))
  go_wp2
  go_ret
  exact ⟨rfl, belowD' (unhide HB) _⟩
/-- In W0 a box was laid behind w. -/
theorem OwnJ.weak {w : World} {b c : Nat} {v : Value} {l : List Int} (h : OwnJ w c v l) (hb : b ≤ c) : OwnJ w b v l := by
  refine ⟨h.1, ?_⟩
  rcases h.2 with h1 | ⟨g, cap, cur, hv, hbg, r⟩
  · exact Or.inl h1
  · exact Or.inr ⟨g, cap, cur, hv, Nat.le_trans hb hbg, r⟩

set_option maxHeartbeats 4000000 in
theorem Next_any (p : Int) (op : Nat) (a b : Int) (w : World) (hW : WidAt w) (ho : op < 256) :
    Calls Tryd.prog 8 #[.agg #[.int .i64 p, .int .u8 (op : Int), .int .i64 a, .int .i64 b]] w fun e w' => ∃ v, e = .returned v ∧ OwnJ w' w.heap.size v (nextD p op a) ∧ Below w.heap.size w w' := by
  obtain ⟨i0, hi, hz0, hz1, hz2⟩ := info_parts infoJ
  have I0 := hide (IAt.new' w p op a b)
  have hal := ((Below.refl w.heap.size w).alloc (Nat.le_refl _) (.cells #[.int .i64 p, .int .u8 (op : Int), .int .i64 a, .int .i64 b] 31))
  have B0 := hide hal
  have D0 := hide (hW.below hal)
  clear hW
  clear hal
  obtain ⟨s, hS⟩ : ∃ s, Hid (sizeD op = s) := ⟨_, hide rfl⟩
  have hs6 : s ≤ 6 := by rw [← unhide hS]; exact sizeD_le op
  go_enter Tryd.func8, Tryd.ntmps8
  go_wp2_with fail
  generalize (w.alloc (.cells #[.int .i64 p, .int .u8 (op : Int), .int .i64 a, .int .i64 b] 31)) = W0 at I0 D0 B0 ⊢
  refine (Size_any op _ (unhide D0) ho).mono ?_
  rintro e W1 ⟨rfl, k1, rfl⟩
  have K1 : Hid (Below W0.heap.size W0 (W0.drewN k1)) := hide (belowD' (Below.refl _ _) _)
  generalize W0.drewN k1 = W1 at K1 ⊢
  rw [unhide hS]
  have c0 := ((unhide I0).below (unhide K1)).c0
  have c1 := ((unhide I0).below (unhide K1)).c.1
  have c2 := ((unhide I0).below (unhide K1)).c.2.1
  have c3 := ((unhide I0).below (unhide K1)).c.2.2
  by_cases h0 : s = 0
  · have HN : Hid (nextD p op a = []) := hide (by unfold nextD; exact if_pos (Or.inl ((unhide hS).trans h0)))
    rw [h0]
    clear h0
    go_wp2
    go_ret
    exact ⟨_, rfl, by rw [unhide HN]; exact OwnJ.nil _ _, (unhide B0).trans ((unhide K1).mono (unhide B0).size)⟩
  have b1 : (((s : Nat) : Int) == 0) = false := beq_f (by omega)
  go_wp2_with fail
  refine (inCode_any p _).mono ?_
  rintro e W1 ⟨rfl, rfl⟩
  cases hin : inC p
  · have HN : Hid (nextD p op a = []) := hide (by unfold nextD; exact if_pos (Or.inr hin))
    clear hin h0
    go_wp2
    go_ret
    exact ⟨_, rfl, by rw [unhide HN]; exact OwnJ.nil _ _, (unhide B0).trans ((unhide K1).mono (unhide B0).size)⟩
  have hp := inC_iff.1 hin
  have HN := hide (next_raw (a := a) (show sizeD op ≠ 0 by rw [unhide hS]; exact h0) hin)
  clear hin h0 b1
  go_wp2_with fail
  refine (Ends_any op _).mono ?_
  rintro e W1 ⟨rfl, rfl⟩
  rw [show (decide (op = 19) || decide (op = 22) || decide (op = 32)) = endD op from rfl]
  have hJ : Hid (∀ W, Calls Tryd.prog 33 #[.int .u8 (op : Int)] W fun e w' => e = .returned (.bool (jmpD op)) ∧ w' = W) := hide (fun W => Jumps_any op W)
  cases he : endD op
  · cases hj : jmpD op
    · have HR : Hid (rawN p op a = [p + (s : Int)]) := hide (by unfold rawN; rw [he, hj, unhide hS]; rfl)
      go_wp2_with fail
      refine (behind_any p op a b _ ((unhide D0).below (unhide K1)) ho ⟨hp.1, by omega⟩).mono ?_
      rintro e W2 ⟨rfl, hB2⟩
      rw [unhide hS]
      have K2 := hide ((unhide K1).trans (hB2.mono (unhide K1).size))
      clear hB2 c0 c1 c2 c3 K1
      obtain ⟨q, HQ⟩ : ∃ q, Hid (p + (s : Int) = q) := ⟨_, hide rfl⟩
      rw [unhide HQ] at HR ⊢
      have O2 : Hid (OwnJ W2 W0.heap.size (.slice none 0 0) []) := hide (OwnJ.nil _ _)
      have HR3 := hide ((unhide O2).alloc (.cells #[.int .i64 q] 3))
      go_wp2_with (at_builtin; refine wpList_append_own _ rfl _ _ 32 rfl (W0.heap.size) 3 i0 (.int .i64 0) 1 8 Tryd.underlying32 hi hz0 hz1 hz2 rfl (by decide) _ (([] : List Int)).length (jvals (([] : List Int))) rfl (unhide HR3) ⟨(W2).heap.size, 0, none⟩ 1 1 [.int .i64 q] rfl rfl (cell_one_newJ _ _ _) (by simp [Value.oneCell']) ?a3 ?a4 ?a5 ?_)
      case a3 => first | (unfold maxLen; omega) | (unfold maxLen; simp)
      case a4 => first | omega | simp
      case a5 => have := (unhide K2).size; simp; omega
      intro v3 w3 hO3 hG3 _
      have HO3 : Hid (OwnJ w3 (W0.heap.size) v3 ((([] : List Int)) ++ [q])) := hide (by unfold OwnJ jvals; rw [List.map_append, List.length_append]; exact hO3)
      have HB3 := hide (((unhide K2).alloc (unhide K2).size _).grown hG3 (by have := (unhide K2).size; simp; omega) (fun q e => ((unhide O2).lt q e).1))
      clear hO3 hG3 O2 K2 HR3
      obtain ⟨l1, E1⟩ : ∃ l, Hid (([] : List Int) ++ [q] = l) := ⟨_, hide rfl⟩
      rw [unhide E1] at HO3
      have hl1 : l1.length ≤ 1 := by rw [← unhide E1]; simp
      have HR2 : Hid (∀ m, rawN p op a = [q] ++ m → rawN p op a = l1 ++ m) := hide (fun m h => by rw [h, ← unhide E1]; rfl)
      obtain ⟨oa, oc, rfl, _⟩ := (unhide HO3).at
      have c0 := ((unhide I0).below (unhide HB3)).c0
      have c1 := ((unhide I0).below (unhide HB3)).c.1
      have c2 := ((unhide I0).below (unhide HB3)).c.2.1
      have c3 := ((unhide I0).below (unhide HB3)).c.2.2
      go_wp2_with fail
      refine (unhide hJ _).mono ?_
      rintro e w3 ⟨rfl, rfl⟩
      rw [hj]
      go_wp2_with fail
      refine (Sort_own (unhide HO3) (by omega)).mono ?_
      rintro e W8 ⟨rfl, hO8, hB8⟩
      have O8 := hide hO8
      have K8 := hide ((unhide HB3).trans hB8)
      clear hO8 hB8 HO3 HB3
      go_wp2_with fail
      refine (Compact_own (unhide O8) (by rw [srtJ_len]; omega)).mono ?_
      rintro e W9 ⟨v9, rfl, hO9, hB9⟩
      have O9 : Hid (OwnJ W9 w.heap.size v9 (nextD p op a)) := hide (by rw [← unhide HN, show rawN p op a = l1 by have := unhide HR2 [] (unhide HR); rw [List.append_nil] at this; exact this]; exact hO9.weak (unhide B0).size)
      have K9 := hide ((unhide K8).trans hB9)
      clear hO9 hB9 O8 K8
      go_wp2
      go_ret
      exact ⟨_, rfl, unhide O9, (unhide B0).trans ((unhide K9).mono (unhide B0).size)⟩
    · have HR : Hid (rawN p op a = [p + (s : Int), a]) := hide (by unfold rawN; rw [he, hj, unhide hS]; rfl)
      go_wp2_with fail
      refine (behind_any p op a b _ ((unhide D0).below (unhide K1)) ho ⟨hp.1, by omega⟩).mono ?_
      rintro e W2 ⟨rfl, hB2⟩
      rw [unhide hS]
      have K2 := hide ((unhide K1).trans (hB2.mono (unhide K1).size))
      clear hB2 c0 c1 c2 c3 K1
      obtain ⟨q, HQ⟩ : ∃ q, Hid (p + (s : Int) = q) := ⟨_, hide rfl⟩
      rw [unhide HQ] at HR ⊢
      have O2 : Hid (OwnJ W2 W0.heap.size (.slice none 0 0) []) := hide (OwnJ.nil _ _)
      have HR3 := hide ((unhide O2).alloc (.cells #[.int .i64 q] 3))
      go_wp2_with (at_builtin; refine wpList_append_own _ rfl _ _ 32 rfl (W0.heap.size) 3 i0 (.int .i64 0) 1 8 Tryd.underlying32 hi hz0 hz1 hz2 rfl (by decide) _ (([] : List Int)).length (jvals (([] : List Int))) rfl (unhide HR3) ⟨(W2).heap.size, 0, none⟩ 1 1 [.int .i64 q] rfl rfl (cell_one_newJ _ _ _) (by simp [Value.oneCell']) ?a3 ?a4 ?a5 ?_)
      case a3 => first | (unfold maxLen; omega) | (unfold maxLen; simp)
      case a4 => first | omega | simp
      case a5 => have := (unhide K2).size; simp; omega
      intro v3 w3 hO3 hG3 _
      have HO3 : Hid (OwnJ w3 (W0.heap.size) v3 ((([] : List Int)) ++ [q])) := hide (by unfold OwnJ jvals; rw [List.map_append, List.length_append]; exact hO3)
      have HB3 := hide (((unhide K2).alloc (unhide K2).size _).grown hG3 (by have := (unhide K2).size; simp; omega) (fun q e => ((unhide O2).lt q e).1))
      clear hO3 hG3 O2 K2 HR3
      obtain ⟨l1, E1⟩ : ∃ l, Hid (([] : List Int) ++ [q] = l) := ⟨_, hide rfl⟩
      rw [unhide E1] at HO3
      have hl1 : l1.length ≤ 1 := by rw [← unhide E1]; simp
      have HR2 : Hid (∀ m, rawN p op a = [q] ++ m → rawN p op a = l1 ++ m) := hide (fun m h => by rw [h, ← unhide E1]; rfl)
      obtain ⟨oa, oc, rfl, _⟩ := (unhide HO3).at
      have c0 := ((unhide I0).below (unhide HB3)).c0
      have c1 := ((unhide I0).below (unhide HB3)).c.1
      have c2 := ((unhide I0).below (unhide HB3)).c.2.1
      have c3 := ((unhide I0).below (unhide HB3)).c.2.2
      go_wp2_with fail
      refine (unhide hJ _).mono ?_
      rintro e w3 ⟨rfl, rfl⟩
      rw [hj]
      have HR4 := hide ((unhide HO3).alloc (.cells #[.int .i64 a] 3))
      go_wp2_with (at_builtin; refine wpList_append_own _ rfl _ _ 32 rfl (W0.heap.size) 3 i0 (.int .i64 0) 1 8 Tryd.underlying32 hi hz0 hz1 hz2 rfl (by decide) _ (l1).length (jvals (l1)) rfl (unhide HR4) ⟨(w3).heap.size, 0, none⟩ 1 1 [.int .i64 a] rfl rfl (cell_one_newJ _ _ _) (by simp [Value.oneCell']) ?a3 ?a4 ?a5 ?_)
      case a3 => first | (unfold maxLen; omega) | (unfold maxLen; simp)
      case a4 => first | omega | simp
      case a5 => have := (unhide HB3).size; simp; omega
      intro v4 w4 hO4 hG4 _
      have HO4 : Hid (OwnJ w4 (W0.heap.size) v4 ((l1) ++ [a])) := hide (by unfold OwnJ jvals; rw [List.map_append, List.length_append]; exact hO4)
      have HB4 := hide (((unhide HB3).alloc (unhide HB3).size _).grown hG4 (by have := (unhide HB3).size; simp; omega) (fun q e => ((unhide HO3).lt q e).1))
      clear hO4 hG4 HO3 HB3 HR4
      go_wp2_with fail
      refine (Sort_own (unhide HO4) (by simp; omega)).mono ?_
      rintro e W8 ⟨rfl, hO8, hB8⟩
      have O8 := hide hO8
      have K8 := hide ((unhide HB4).trans hB8)
      clear hO8 hB8 HO4 HB4
      go_wp2_with fail
      refine (Compact_own (unhide O8) (by rw [srtJ_len]; simp; omega)).mono ?_
      rintro e W9 ⟨v9, rfl, hO9, hB9⟩
      have O9 : Hid (OwnJ W9 w.heap.size v9 (nextD p op a)) := hide (by rw [← unhide HN, show rawN p op a = l1 ++ [a] from unhide HR2 [a] (unhide HR)]; exact hO9.weak (unhide B0).size)
      have K9 := hide ((unhide K8).trans hB9)
      clear hO9 hB9 O8 K8
      go_wp2
      go_ret
      exact ⟨_, rfl, unhide O9, (unhide B0).trans ((unhide K9).mono (unhide B0).size)⟩
  · cases hj : jmpD op
    · have HR : Hid (rawN p op a = []) := hide (by unfold rawN; rw [he, hj]; rfl)
      go_wp2_with fail
      refine (unhide hJ _).mono ?_
      rintro e W1 ⟨rfl, rfl⟩
      rw [hj]
      have O2 : Hid (OwnJ W1 W0.heap.size (.slice none 0 0) []) := hide (OwnJ.nil _ _)
      go_wp2_with fail
      refine (Sort_own (unhide O2) (by simp)).mono ?_
      rintro e W8 ⟨rfl, hO8, hB8⟩
      have O8 := hide hO8
      have K8 := hide ((unhide K1).trans hB8)
      clear hO8 hB8 O2 K1
      go_wp2_with fail
      refine (Compact_own (unhide O8) (by rw [srtJ_len]; simp)).mono ?_
      rintro e W9 ⟨v9, rfl, hO9, hB9⟩
      have O9 : Hid (OwnJ W9 w.heap.size v9 (nextD p op a)) := hide (by rw [← unhide HN, unhide HR]; exact hO9.weak (unhide B0).size)
      have K9 := hide ((unhide K8).trans hB9)
      clear hO9 hB9 O8 K8
      go_wp2
      go_ret
      exact ⟨_, rfl, unhide O9, (unhide B0).trans ((unhide K9).mono (unhide B0).size)⟩
    · have HR : Hid (rawN p op a = [a]) := hide (by unfold rawN; rw [he, hj]; rfl)
      go_wp2_with fail
      refine (unhide hJ _).mono ?_
      rintro e W1 ⟨rfl, rfl⟩
      rw [hj]
      have O2 : Hid (OwnJ W1 W0.heap.size (.slice none 0 0) []) := hide (OwnJ.nil _ _)
      have HR3 := hide ((unhide O2).alloc (.cells #[.int .i64 a] 3))
      go_wp2_with (at_builtin; refine wpList_append_own _ rfl _ _ 32 rfl (W0.heap.size) 3 i0 (.int .i64 0) 1 8 Tryd.underlying32 hi hz0 hz1 hz2 rfl (by decide) _ (([] : List Int)).length (jvals (([] : List Int))) rfl (unhide HR3) ⟨(W1).heap.size, 0, none⟩ 1 1 [.int .i64 a] rfl rfl (cell_one_newJ _ _ _) (by simp [Value.oneCell']) ?a3 ?a4 ?a5 ?_)
      case a3 => first | (unfold maxLen; omega) | (unfold maxLen; simp)
      case a4 => first | omega | simp
      case a5 => have := (unhide K1).size; simp; omega
      intro v3 w3 hO3 hG3 _
      have HO3 : Hid (OwnJ w3 (W0.heap.size) v3 ((([] : List Int)) ++ [a])) := hide (by unfold OwnJ jvals; rw [List.map_append, List.length_append]; exact hO3)
      have HB3 := hide (((unhide K1).alloc (unhide K1).size _).grown hG3 (by have := (unhide K1).size; simp; omega) (fun q e => ((unhide O2).lt q e).1))
      clear hO3 hG3 O2 K1 HR3
      go_wp2_with fail
      refine (Sort_own (unhide HO3) (by simp)).mono ?_
      rintro e W8 ⟨rfl, hO8, hB8⟩
      have O8 := hide hO8
      have K8 := hide ((unhide HB3).trans hB8)
      clear hO8 hB8 HO3 HB3
      go_wp2_with fail
      refine (Compact_own (unhide O8) (by rw [srtJ_len]; simp)).mono ?_
      rintro e W9 ⟨v9, rfl, hO9, hB9⟩
      have O9 : Hid (OwnJ W9 w.heap.size v9 (nextD p op a)) := hide (by rw [← unhide HN, unhide HR]; exact hO9.weak (unhide B0).size)
      have K9 := hide ((unhide K8).trans hB9)
      clear hO9 hB9 O8 K8
      go_wp2
      go_ret
      exact ⟨_, rfl, unhide O9, (unhide B0).trans ((unhide K9).mono (unhide B0).size)⟩
end Go.Proofs.YtdpfinnclnapbaaDoor
