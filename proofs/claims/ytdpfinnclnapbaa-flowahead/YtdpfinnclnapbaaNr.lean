/-
  The contract of provisoref05.Next; slices.Equal of numbers that are alike; the walk of the law FlowNexts. Conditions: the widths lie there.
-/
import Derived.Test.YtdpfinnclnapbaaNx
import Derived.Test.YtdpfinnclnapbaaLayEq
namespace Go.Proofs.Ytdpfinnclnapbaa
open Go.RowKit

theorem placed_any (p : Int) (op : Nat) (a b : Int) (w : World) :
    Calls Try.prog 32 #[.agg #[.int .i64 p, .int .u8 (op : Int), .int .i64 a, .int .i64 b]] w fun e w' => e = .returned (.bool (inC p)) ∧ Below w.heap.size w w' := by
  have I0 := hide (IAt.new' w p op a b)
  have B0 := hide ((Below.refl w.heap.size w).alloc (Nat.le_refl _) (.cells #[.int .i64 p, .int .u8 (op : Int), .int .i64 a, .int .i64 b] 47))
  unfold inC
  go_enter Try.func32, Try.ntmps32
  by_cases h1 : 0 ≤ p
  · have j1 : p ≥ 0 := h1
    by_cases h2 : p < 4096
    · go_wp2
      go_ret
      exact ⟨by simp [h1, h2], unhide B0⟩
    · go_wp2
      go_ret
      exact ⟨by simp [h2], unhide B0⟩
  · have j1 : ¬ p ≥ 0 := h1
    go_wp2
    go_ret
    exact ⟨by simp; omega, unhide B0⟩
set_option maxHeartbeats 4000000 in
theorem refNext_any (p : Int) (op : Nat) (a b : Int) (w : World) :
    Calls Try.prog 24 #[.agg #[.int .i64 p, .int .u8 (op : Int), .int .i64 a, .int .i64 b]] w fun e w' => ∃ v, e = .returned v ∧ OwnJ w' w.heap.size v (nextD p op a) ∧ Below w.heap.size w w' := by
  have I0 := hide (IAt.new' w p op a b)
  have B0 := hide ((Below.refl w.heap.size w).alloc (Nat.le_refl _) (.cells #[.int .i64 p, .int .u8 (op : Int), .int .i64 a, .int .i64 b] 47))
  obtain ⟨s, hS⟩ : ∃ s, Hid (sizeD op = s) := ⟨_, hide rfl⟩
  have hs6 : s ≤ 6 := by rw [← unhide hS]; exact sizeD_le op
  have hJ : Hid (∀ W, Calls Try.prog 21 #[.int .u8 (op : Int)] W fun e w' => e = .returned (.bool (jmpD op)) ∧ w' = W) := hide (fun W => refJumps_any op W)
  have hE : Hid (∀ W, Calls Try.prog 22 #[.int .u8 (op : Int)] W fun e w' => e = .returned (.bool (endD op)) ∧ w' = W) := hide (fun W => refEnds_any op W)
  go_enter Try.func24, Try.ntmps24
  go_wp2_with fail
  have K0 := hide (Below.refl (w.alloc (.cells #[.int .i64 p, .int .u8 (op : Int), .int .i64 a, .int .i64 b] 47)).heap.size (w.alloc (.cells #[.int .i64 p, .int .u8 (op : Int), .int .i64 a, .int .i64 b] 47)))
  generalize hW0 : (w.alloc (.cells #[.int .i64 p, .int .u8 (op : Int), .int .i64 a, .int .i64 b] 47)) = W0 at I0 B0 K0 ⊢
  clear hW0
  have c0 := ((unhide I0).below (unhide K0)).c0
  have c1 := ((unhide I0).below (unhide K0)).c.1
  have c2 := ((unhide I0).below (unhide K0)).c.2.1
  have c3 := ((unhide I0).below (unhide K0)).c.2.2
  refine (refSize_any op _).mono ?_
  rintro e W0' ⟨rfl, hq⟩
  rw [hq, unhide hS]
  clear hq W0'
  by_cases h0 : s = 0
  · have HN : Hid (nextD p op a = []) := hide (by unfold nextD; exact if_pos (Or.inl ((unhide hS).trans h0)))
    rw [h0]
    clear h0
    go_wp2
    go_ret
    exact ⟨_, rfl, by rw [unhide HN]; exact OwnJ.nil _ _, unhide B0⟩
  have b1 : (((s : Nat) : Int) == 0) = false := beq_f (by omega)
  go_wp2_with fail
  refine (placed_any p op a b _).mono ?_
  rintro e W1 ⟨rfl, hB1⟩
  have K1 := hide ((unhide K0).trans (hB1.mono (unhide K0).size))
  clear hB1 K0 c0 c1 c2 c3
  have c0 := ((unhide I0).below (unhide K1)).c0
  have c1 := ((unhide I0).below (unhide K1)).c.1
  have c2 := ((unhide I0).below (unhide K1)).c.2.1
  have c3 := ((unhide I0).below (unhide K1)).c.2.2
  cases hin : inC p
  · have HN : Hid (nextD p op a = []) := hide (by unfold nextD; exact if_pos (Or.inr hin))
    clear hin h0
    go_wp2
    go_ret
    exact ⟨_, rfl, by rw [unhide HN]; exact OwnJ.nil _ _, (unhide B0).trans ((unhide K1).mono (unhide B0).size)⟩
  have hp := inC_iff.1 hin
  have HN : Hid (nextD p op a = (fun l => if jmpD op then putJ l a else l) (if endD op then [] else putJ [] (p + (s : Int)))) := hide (by
    unfold nextD
    rw [unhide hS]
    exact if_neg (by rintro (h | h); exact h0 h; rw [hin] at h; cases h))
  clear hin h0 b1
  go_wp2_with fail
  refine (unhide hE _).mono ?_
  rintro e W1 ⟨rfl, rfl⟩
  cases he : endD op
  · go_wp2_with fail
    refine (refPut_int none 0 [] (p + (s : Int)) _ (fun i x hx => by simp at hx) (by simp)).mono ?_
    rintro e W2 ⟨v2, rfl, hO2, hB2⟩
    obtain ⟨l1, E1⟩ : ∃ l, Hid (putJ [] (p + (s : Int)) = l) := ⟨_, hide rfl⟩
    have hl1 : l1.length ≤ 1 := by rw [← unhide E1]; simp [putJ]
    rw [unhide E1] at hO2
    have O2 := hide (hO2.weak (unhide K1).size)
    have K2 := hide ((unhide K1).trans (hB2.mono (unhide K1).size))
    clear hO2 hB2 K1 c0 c1 c2 c3
    obtain ⟨oa, oc, rfl, hJ2, _⟩ := (unhide O2).at
    have J2 := hide hJ2
    clear hJ2
    have c0 := ((unhide I0).below (unhide K2)).c0
    have c1 := ((unhide I0).below (unhide K2)).c.1
    have c2 := ((unhide I0).below (unhide K2)).c.2.1
    have c3 := ((unhide I0).below (unhide K2)).c.2.2
    go_wp2_with fail
    refine (unhide hJ _).mono ?_
    rintro e W2 ⟨rfl, rfl⟩
    cases hj : jmpD op
    · have HN2 : Hid (nextD p op a = l1) := hide (by rw [unhide HN, he, hj, ← unhide E1]; rfl)
      go_wp2
      go_ret
      exact ⟨_, rfl, by rw [unhide HN2]; exact (unhide O2).weak (unhide B0).size, (unhide B0).trans ((unhide K2).mono (unhide B0).size)⟩
    · have HN2 : Hid (nextD p op a = putJ l1 a) := hide (by rw [unhide HN, he, hj, ← unhide E1]; rfl)
      go_wp2_with fail
      refine (refPut_int oa oc l1 a _ (unhide J2) (by omega)).mono ?_
      rintro e W3 ⟨v3, rfl, hO3, hB3⟩
      have O3 := hide (hO3.weak (Nat.le_trans (unhide B0).size (unhide K2).size))
      have K3 := hide ((unhide K2).trans (hB3.mono (unhide K2).size))
      clear hO3 hB3 K2
      go_wp2
      go_ret
      exact ⟨_, rfl, by rw [unhide HN2]; exact unhide O3, (unhide B0).trans ((unhide K3).mono (unhide B0).size)⟩
  · go_wp2_with fail
    refine (unhide hJ _).mono ?_
    rintro e W2 ⟨rfl, rfl⟩
    cases hj : jmpD op
    · have HN2 : Hid (nextD p op a = []) := hide (by rw [unhide HN, he, hj]; rfl)
      go_wp2
      go_ret
      exact ⟨_, rfl, by rw [unhide HN2]; exact OwnJ.nil _ _, (unhide B0).trans ((unhide K1).mono (unhide B0).size)⟩
    · have HN2 : Hid (nextD p op a = putJ [] a) := hide (by rw [unhide HN, he, hj]; rfl)
      go_wp2_with fail
      refine (refPut_int none 0 [] a _ (fun i x hx => by simp at hx) (by simp)).mono ?_
      rintro e W3 ⟨v3, rfl, hO3, hB3⟩
      have O3 := hide (hO3.weak (Nat.le_trans (unhide B0).size (unhide K1).size))
      have K3 := hide ((unhide K1).trans (hB3.mono (unhide K1).size))
      clear hO3 hB3 K1
      go_wp2
      go_ret
      exact ⟨_, rfl, by rw [unhide HN2]; exact unhide O3, (unhide B0).trans ((unhide K3).mono (unhide B0).size)⟩
theorem EqualJ_same {w : World} {a1 a2 : Option Addr} {c d : Nat} {l : List Int} (h1 : JsAt w a1 l) (h2 : JsAt w a2 l) (hl : l.length ≤ 17592186044416) :
    Calls Try.prog 6 #[.slice a1 l.length c, .slice a2 l.length d] w fun e w' => e = .returned (.bool true) ∧ ∃ q, w' = w.drewN q := by
  cases l with
  | nil =>
    refine (Any.slices_Equal_int_empty Try.laysEq a1 a2 c 0 d w (by omega)).mono ?_
    rintro e w' ⟨rfl, rfl⟩
    exact ⟨rfl, 0, rfl⟩
  | cons x l =>
    obtain ⟨b1, o1, rfl, _⟩ := h1 0 x rfl
    obtain ⟨b2, o2, rfl, _⟩ := h2 0 x rfl
    refine (Any.slices_Equal_int Try.laysEq b1 o1 (x :: l).length c b2 o2 (x :: l).length d (x :: l) (x :: l) w (Nat.le_refl _) (Nat.le_refl _) (by omega) (by omega) (fun j hj => ?_) (fun j hj => ?_)).mono ?_
    · obtain ⟨b, off, e, hc⟩ := h1 j _ (List.getElem?_eq_getElem hj)
      injection e with e
      injection e with e1 e2
      subst e1 e2
      rw [hc, List.getD_eq_getElem?_getD, List.getElem?_eq_getElem hj]
      rfl
    · obtain ⟨b, off, e, hc⟩ := h2 j _ (List.getElem?_eq_getElem hj)
      injection e with e
      injection e with e1 e2
      subst e1 e2
      rw [hc, List.getD_eq_getElem?_getD, List.getElem?_eq_getElem hj]
      rfl
    · rintro e w' ⟨rfl, q, rfl⟩
      exact ⟨by simp, q, rfl⟩
end Go.Proofs.Ytdpfinnclnapbaa
