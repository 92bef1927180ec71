/-
  A reader or writer that no call made (nil, or a plain one): each of its calls answers ErrNil and zero values, in the same world. No conditions.
-/
import Derived.Test.YtggaecmjadkopabMem
namespace Go.Proofs.Ytggaecmjadkopab
open Go.RowKit

/-- No reader, no writer: nil, or one whose mark 'made' is not set. -/
def NoR (w : World) (r : Value) : Prop := r = .pointer none ∨ ∃ p, r = .pointer (some ⟨p, 0, none⟩) ∧ w.cell? ⟨p, 2, none⟩ = some (.bool false)
def NoW (w : World) (r : Value) : Prop := r = .pointer none ∨ ∃ p, r = .pointer (some ⟨p, 0, none⟩) ∧ w.cell? ⟨p, 1, none⟩ = some (.bool false)

theorem rMade_no {w : World} {r : Value} (h : NoR w r) : Calls Try.prog 50 #[r] w fun e w' => e = .returned (.bool false) ∧ w' = w := by
  rcases h with rfl | ⟨p, rfl, hc⟩
  · go_enter Try.func50, Try.ntmps50
    go_wp2
    go_ret
    exact ⟨rfl, rfl⟩
  · go_enter Try.func50, Try.ntmps50
    go_wp2
    go_ret
    exact ⟨rfl, rfl⟩

theorem wMade_no {w : World} {r : Value} (h : NoW w r) : Calls Try.prog 28 #[r] w fun e w' => e = .returned (.bool false) ∧ w' = w := by
  rcases h with rfl | ⟨p, rfl, hc⟩
  · go_enter Try.func28, Try.ntmps28
    go_wp2
    go_ret
    exact ⟨rfl, rfl⟩
  · go_enter Try.func28, Try.ntmps28
    go_wp2
    go_ret
    exact ⟨rfl, rfl⟩

theorem rAt_no {w : World} {r : Value} (h : NoR w r) : Calls Try.prog 38 #[r] w fun e w' => e = .returned (.int .i64 0) ∧ w' = w := by
  go_enter Try.func38, Try.ntmps38
  go_wp2_with (first | (go_at_call 50; refine (rMade_no h).mono ?_; rintro e w' ⟨rfl, rfl⟩))
  go_ret
  exact ⟨rfl, rfl⟩

theorem rLeft_no {w : World} {r : Value} (h : NoR w r) : Calls Try.prog 39 #[r] w fun e w' => e = .returned (.int .i64 0) ∧ w' = w := by
  go_enter Try.func39, Try.ntmps39
  go_wp2_with (first | (go_at_call 50; refine (rMade_no h).mono ?_; rintro e w' ⟨rfl, rfl⟩))
  go_ret
  exact ⟨rfl, rfl⟩

theorem rEnd_no {w : World} {r : Value} (h : NoR w r) : Calls Try.prog 37 #[r] w fun e w' => e = .returned (.int .i64 8) ∧ w' = w := by
  go_enter Try.func37, Try.ntmps37
  go_wp2_with (first | (go_at_call 50; refine (rMade_no h).mono ?_; rintro e w' ⟨rfl, rfl⟩))
  go_ret
  exact ⟨rfl, rfl⟩

theorem rnext_no {w : World} {r : Value} (h : NoR w r) (n : Int) : Calls Try.prog 26 #[r, .int .i64 n] w fun e w' => e = .returned (.tuple #[.slice none 0 0, .int .i64 8]) ∧ w' = w := by
  go_enter Try.func26, Try.ntmps26
  go_wp2_with (first | (go_at_call 50; refine (rMade_no h).mono ?_; rintro e w' ⟨rfl, rfl⟩))
  go_ret2
  exact ⟨rfl, rfl⟩

theorem rnumber_no {w : World} {r : Value} (h : NoR w r) (n : Int) : Calls Try.prog 52 #[r, .int .i64 n] w fun e w' => e = .returned (.tuple #[.int .u32 0, .int .i64 8]) ∧ w' = w := by
  go_enter Try.func52, Try.ntmps52
  go_wp2_with (go_at_call 26; refine (rnext_no h n).mono ?_; rintro e w' ⟨rfl, rfl⟩)
  refine wp_loop_rounds 1 ?_
  rw [rounds_succ]
  go_wp2
  go_ret2
  exact ⟨rfl, rfl⟩

theorem rByte_no {w : World} {r : Value} (h : NoR w r) : Calls Try.prog 32 #[r] w fun e w' => e = .returned (.tuple #[.int .i64 0, .int .i64 8]) ∧ w' = w := by
  go_enter Try.func32, Try.ntmps32
  go_wp2_with (first | (go_at_call 52; refine (rnumber_no h 1).mono ?_; rintro e w' ⟨rfl, rfl⟩))
  go_ret2
  exact ⟨rfl, rfl⟩

theorem rWord_no {w : World} {r : Value} (h : NoR w r) : Calls Try.prog 33 #[r] w fun e w' => e = .returned (.tuple #[.int .i64 0, .int .i64 8]) ∧ w' = w := by
  go_enter Try.func33, Try.ntmps33
  go_wp2_with (first | (go_at_call 52; refine (rnumber_no h 2).mono ?_; rintro e w' ⟨rfl, rfl⟩))
  go_ret2
  exact ⟨rfl, rfl⟩

theorem rLong_no {w : World} {r : Value} (h : NoR w r) : Calls Try.prog 34 #[r] w fun e w' => e = .returned (.tuple #[.int .i64 0, .int .i64 8]) ∧ w' = w := by
  go_enter Try.func34, Try.ntmps34
  go_wp2_with (first | (go_at_call 52; refine (rnumber_no h 4).mono ?_; rintro e w' ⟨rfl, rfl⟩))
  go_ret2
  exact ⟨rfl, rfl⟩

theorem rTake_no {w : World} {r : Value} (h : NoR w r) (n : Int) : Calls Try.prog 10 #[r, .int .i64 n] w fun e w' => e = .returned (.tuple #[.slice none 0 0, .int .i64 8]) ∧ w' = w := by
  go_enter Try.func10, Try.ntmps10
  go_wp2_with (first | (go_at_call 26; refine (rnext_no h n).mono ?_; rintro e w' ⟨rfl, rfl⟩))
  go_ret2
  exact ⟨rfl, rfl⟩

theorem rWithin_no {w : World} {r : Value} (h : NoR w r) (n : Int) : Calls Try.prog 36 #[r, .int .i64 n] w fun e w' => e = .returned (.tuple #[.pointer none, .int .i64 8]) ∧ w' = w := by
  go_enter Try.func36, Try.ntmps36
  go_wp2_with (first | (go_at_call 26; refine (rnext_no h n).mono ?_; rintro e w' ⟨rfl, rfl⟩))
  go_ret2
  exact ⟨rfl, rfl⟩

theorem rName_no {w : World} {r : Value} (h : NoR w r) : Calls Try.prog 35 #[r] w fun e w' => e = .returned (.tuple #[.string ⟨#[]⟩, .int .i64 8]) ∧ w' = w := by
  go_enter Try.func35, Try.ntmps35
  go_wp2_with (first | (go_at_call 50; refine (rMade_no h).mono ?_; rintro e w' ⟨rfl, rfl⟩))
  go_ret2
  exact ⟨rfl, rfl⟩

theorem wLen_no {w : World} {r : Value} (h : NoW w r) : Calls Try.prog 44 #[r] w fun e w' => e = .returned (.int .i64 0) ∧ w' = w := by
  go_enter Try.func44, Try.ntmps44
  go_wp2_with (first | (go_at_call 28; refine (wMade_no h).mono ?_; rintro e w' ⟨rfl, rfl⟩))
  go_ret
  exact ⟨rfl, rfl⟩

theorem wBytes_no {w : World} {r : Value} (h : NoW w r) : Calls Try.prog 16 #[r] w fun e w' => e = .returned (.slice none 0 0) ∧ w' = w := by
  go_enter Try.func16, Try.ntmps16
  go_wp2_with (first | (go_at_call 28; refine (wMade_no h).mono ?_; rintro e w' ⟨rfl, rfl⟩))
  go_ret
  exact ⟨rfl, rfl⟩

theorem wnumber_no {w : World} {r : Value} (h : NoW w r) (n s a b : Int) : Calls Try.prog 31 #[r, .int .i64 n, .int .i64 s, .int .i64 a, .int .i64 b] w fun e w' => e = .returned (.int .i64 8) ∧ w' = w := by
  go_enter Try.func31, Try.ntmps31
  go_wp2_with (first | (go_at_call 28; refine (wMade_no h).mono ?_; rintro e w' ⟨rfl, rfl⟩))
  go_ret
  exact ⟨rfl, rfl⟩

theorem wByte_no {w : World} {r : Value} (h : NoW w r) (n : Int) : Calls Try.prog 18 #[r, .int .i64 n] w fun e w' => e = .returned (.int .i64 8) ∧ w' = w := by
  go_enter Try.func18, Try.ntmps18
  go_wp2_with (first | (go_at_call 31; refine (wnumber_no h n _ _ _).mono ?_; rintro e w' ⟨rfl, rfl⟩))
  go_ret
  exact ⟨rfl, rfl⟩

theorem wWord_no {w : World} {r : Value} (h : NoW w r) (n : Int) : Calls Try.prog 40 #[r, .int .i64 n] w fun e w' => e = .returned (.int .i64 8) ∧ w' = w := by
  go_enter Try.func40, Try.ntmps40
  go_wp2_with (first | (go_at_call 31; refine (wnumber_no h n _ _ _).mono ?_; rintro e w' ⟨rfl, rfl⟩))
  go_ret
  exact ⟨rfl, rfl⟩

theorem wLong_no {w : World} {r : Value} (h : NoW w r) (n : Int) : Calls Try.prog 41 #[r, .int .i64 n] w fun e w' => e = .returned (.int .i64 8) ∧ w' = w := by
  go_enter Try.func41, Try.ntmps41
  go_wp2_with (first | (go_at_call 31; refine (wnumber_no h n _ _ _).mono ?_; rintro e w' ⟨rfl, rfl⟩))
  go_ret
  exact ⟨rfl, rfl⟩

theorem wPut_no {w : World} {r : Value} (h : NoW w r) (b : Value) : Calls Try.prog 14 #[r, b] w fun e w' => e = .returned (.int .i64 8) ∧ w' = w := by
  go_enter Try.func14, Try.ntmps14
  go_wp2_with (first | (go_at_call 28; refine (wMade_no h).mono ?_; rintro e w' ⟨rfl, rfl⟩))
  go_ret
  exact ⟨rfl, rfl⟩

theorem wName_no {w : World} {r : Value} (h : NoW w r) (s : ByteArray) : Calls Try.prog 42 #[r, .string s] w fun e w' => e = .returned (.int .i64 8) ∧ w' = w := by
  go_enter Try.func42, Try.ntmps42
  go_wp2_with (first | (go_at_call 28; refine (wMade_no h).mono ?_; rintro e w' ⟨rfl, rfl⟩))
  go_ret
  exact ⟨rfl, rfl⟩

theorem wPatch_no {w : World} {r : Value} (h : NoW w r) (a n : Int) : Calls Try.prog 43 #[r, .int .i64 a, .int .i64 n] w fun e w' => e = .returned (.int .i64 8) ∧ w' = w := by
  go_enter Try.func43, Try.ntmps43
  go_wp2_with (first | (go_at_call 28; refine (wMade_no h).mono ?_; rintro e w' ⟨rfl, rfl⟩))
  go_ret
  exact ⟨rfl, rfl⟩

set_option maxHeartbeats 1000000 in
theorem nobody_yes {w : World} {r z : Value} (hr : NoR w r) (hz : NoW w z) (n : Int) (s : ByteArray) (b : Value) :
    Calls Try.prog 20 #[r, z, .int .i64 n, .string s, b] w fun e w' => e = .returned (.bool true) ∧ w' = w := by
  go_enter Try.func20, Try.ntmps20
  go_wp2_with (first | (go_at_call 32; refine (rByte_no hr).mono ?_; rintro e w' ⟨rfl, rfl⟩) | (go_at_call 33; refine (rWord_no hr).mono ?_; rintro e w' ⟨rfl, rfl⟩) | (go_at_call 34; refine (rLong_no hr).mono ?_; rintro e w' ⟨rfl, rfl⟩) | (go_at_call 10; refine (rTake_no hr n).mono ?_; rintro e w' ⟨rfl, rfl⟩) | (go_at_call 35; refine (rName_no hr).mono ?_; rintro e w' ⟨rfl, rfl⟩) | (go_at_call 36; refine (rWithin_no hr n).mono ?_; rintro e w' ⟨rfl, rfl⟩) | (go_at_call 37; refine (rEnd_no hr).mono ?_; rintro e w' ⟨rfl, rfl⟩) | (go_at_call 38; refine (rAt_no hr).mono ?_; rintro e w' ⟨rfl, rfl⟩) | (go_at_call 39; refine (rLeft_no hr).mono ?_; rintro e w' ⟨rfl, rfl⟩) | (go_at_call 18; refine (wByte_no hz n).mono ?_; rintro e w' ⟨rfl, rfl⟩) | (go_at_call 40; refine (wWord_no hz n).mono ?_; rintro e w' ⟨rfl, rfl⟩) | (go_at_call 41; refine (wLong_no hz n).mono ?_; rintro e w' ⟨rfl, rfl⟩) | (go_at_call 14; refine (wPut_no hz b).mono ?_; rintro e w' ⟨rfl, rfl⟩) | (go_at_call 42; refine (wName_no hz s).mono ?_; rintro e w' ⟨rfl, rfl⟩) | (go_at_call 43; refine (wPatch_no hz n n).mono ?_; rintro e w' ⟨rfl, rfl⟩) | (go_at_call 44; refine (wLen_no hz).mono ?_; rintro e w' ⟨rfl, rfl⟩) | (go_at_call 16; refine (wBytes_no hz).mono ?_; rintro e w' ⟨rfl, rfl⟩))
  go_ret
  exact ⟨rfl, rfl⟩
end Go.Proofs.Ytggaecmjadkopab
