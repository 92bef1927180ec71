/-
  Tokens: the contracts of lex.number, lex.word and lex.token.
-/
import Derived.Test.YtgnipgcligmpiaaDoorLx5
namespace Go.Proofs.YtgnipgcligmpiaaDoor
open Go.RowKit
set_option maxRecDepth 20000

def nmE (s : ByteArray) (p : Nat) : Int := if nuB (s.extract p (enD dgC s p)) = true ∧ enD ltC s (enD dgC s p) = enD dgC s p then 0 else 101
def nmT (s : ByteArray) (p : Nat) : Tk := if nuB (s.extract p (enD dgC s p)) = true ∧ enD ltC s (enD dgC s p) = enD dgC s p then ⟨2, p, (enD dgC s p : Nat), nuV (s.extract p (enD dgC s p)), ⟨#[]⟩⟩ else tkZ

set_option maxRecDepth 20000 in
set_option maxHeartbeats 4000000 in
theorem lexNumber_any (s : ByteArray) (p : Nat) (w : World) (hp : p ≤ s.size) (hs : s.size ≤ 65536) :
    Calls Tryd.prog 28 #[.string s, .int .i64 (p : Int)] w fun e w' => e = .returned (.tuple #[.agg (tkA (nmT s p)), .int .i64 (nmE s p)]) ∧ Below w.heap.size w w' := by
  have n1 : Hid (TkAt (w.alloc (.cells (tkA tkZ) 34)) w.heap.size tkZ) := hide (heap_alloc_new w _)
  have HB : Hid (Below w.heap.size w (w.alloc (.cells (tkA tkZ) 34))) := hide ((Below.refl _ _).alloc (Nat.le_refl _) _)
  unfold tkA tkZ at n1 HB
  simp only at n1 HB
  have HE := hide (enD_end (p := dgC) (s := s) (i := p) hp)
  have HZ : Hid (nmE s p = (if nuB (s.extract p (enD dgC s p)) = true ∧ enD ltC s (enD dgC s p) = enD dgC s p then 0 else 101) ∧ nmT s p = if nuB (s.extract p (enD dgC s p)) = true ∧ enD ltC s (enD dgC s p) = enD dgC s p then ⟨2, p, (enD dgC s p : Nat), nuV (s.extract p (enD dgC s p)), ⟨#[]⟩⟩ else tkZ) := hide ⟨rfl, rfl⟩
  go_enter Tryd.func28, Tryd.ntmps28
  go_upto_region 1 with fail
  generalize (w.alloc (.cells #[.int .i64 0, .int .i64 0, .int .i64 0, .int .i64 0, .string ⟨#[]⟩] 34)) = W1 at n1 HB ⊢
  have HRun := hide (runEndD_any s p W1 hp (by omega))
  generalize enD dgC s p = en at HE HZ HRun
  have hen1 := (unhide HE).ge
  have hen2 := (unhide HE).le
  have hts := ext_sz (s := s) hen1 hen2
  have HBt := hide (fun j (hj : p + j < en) => ext_bt (s := s) (i := p) (e := en) hen2 hj)
  go_wp2_with fail
  refine (unhide HRun).mono ?_
  rintro e W2 ⟨rfl, hB2⟩
  have H4 := hide ((unhide n1).below hB2)
  have HB2 := hide ((unhide HB).trans (hB2.mono (unhide HB).size))
  clear hB2 HRun n1 HB
  have jpe : ((p : Nat) : Int) ≤ ((en : Nat) : Int) := by omega
  have jes : ((en : Nat) : Int) ≤ ((s.size : Nat) : Int) := by omega
  go_upto_region 4 with fail
  generalize hT : s.extract p en = T at HBt hts HZ ⊢
  clear hT
  have HDg : Hid (∀ j, j < T.size → 48 ≤ bt T j ∧ bt T j ≤ 57) := hide (fun j hj => by
    rw [unhide HBt j (by omega)]
    have := (unhide HE).all (p + j) (by omega) (by omega)
    unfold dgC at this
    simp at this
    omega)
  go_loopw [7] (fun n wr => ∃ pos : Nat, pos ≤ T.size ∧ n = .int .i64 ((min (nvD T pos) 2147483649 : Nat) : Int) ∧ Hid (wr = W2.iter T pos)) (fun _ wr => T.size - wr.iterPos W2.heap.size)
  case atStart => exact ⟨0, by omega, rfl, hide rfl⟩
  case round =>
    obtain ⟨pos, hpo, rfl, HW⟩ := hrel
    have hwr := unhide HW
    subst hwr
    by_cases hp2 : pos < T.size
    · obtain ⟨h48, h57⟩ := unhide HDg pos hp2
      have hnx := fun ty => run_next_any (P := Tryd.prog) W2 T pos ty hp2
      rw [(dec_spec T pos hp2).1 (by omega)] at hnx
      simp only at hnx
      have HN : Hid (nvD T (pos + 1) = 10 * nvD T pos + (bt T pos - 48)) := hide rfl
      obtain ⟨d, hdd⟩ : ∃ d, bt T pos = 48 + d := ⟨bt T pos - 48, by omega⟩
      rw [hdd] at hnx HN
      have hd9 : d ≤ 9 := by omega
      generalize nvD T pos = v at HN
      obtain ⟨m, HMm⟩ : ∃ m : Nat, Hid (min v 2147483649 = m) := ⟨_, hide rfl⟩
      have hm : m ≤ 2147483649 := by have := unhide HMm; omega
      have HV : Hid (((min (nvD T (pos + 1)) 2147483649 : Nat) : Int) = min (10 * (m : Int) + (d : Int)) 2147483649) := hide (by have := unhide HMm; rw [unhide HN]; omega)
      rw [unhide HMm]
      have ju : ((48 + d : Nat) : Int) - 48 = (d : Int) := by omega
      clear hdd h48 h57
      go_wp2
      go_roundw
      case rel => exact ⟨pos + 1, by omega, by rw [unhide HV]; congr 2; omega, hide rfl⟩
      case measure => simp; omega
    · obtain rfl : pos = T.size := by omega
      have hnx := fun ty => run_next_end (P := Tryd.prog) W2 T T.size ty hp2
      have hal : Below W2.heap.size W2 (W2.iter T T.size) := (Below.refl _ _).alloc (Nat.le_refl _) _
      have H4i := hide ((unhide H4).below hal)
      have HBi := hide ((unhide HB2).trans (hal.mono (unhide HB2).size))
      have HRl := hide (runEndL_any s en (W2.iter T T.size) hen2 (by omega))
      have HEl := hide (enD_end (p := ltC) (s := s) (i := en) hen2)
      have HNu : Hid (nuB T = decide (nvD T T.size ≤ 2147483648) ∧ (nvD T T.size ≤ 2147483648 → nuV T = nvD T T.size)) := hide ⟨rfl, fun h => by unfold nuV; rw [if_pos h]⟩
      generalize nvD T T.size = v at HNu
      clear hal hts HBt HDg
      by_cases hv : v ≤ 2147483648
      · have HV : Hid (((min v 2147483649 : Nat) : Int) = (v : Int)) := hide (by omega)
        rw [unhide HV]
        have jv : ¬ ((v : Nat) : Int) > 2147483648 := by omega
        rw [(unhide HNu).2 hv, (unhide HNu).1, decide_eq_true hv] at HZ
        generalize enD ltC s en = el at HZ HRl HEl
        have hel := (unhide HEl).ge
        go_upto_region 7 with fail
        clear hnx
        generalize W2.iter T T.size = W3 at H4i HBi HRl ⊢
        go_wp2_with fail
        refine (unhide HRl).mono ?_
        rintro e W4 ⟨rfl, hB4⟩
        have H4j := hide ((unhide H4i).below hB4)
        have HBj := hide ((unhide HBi).trans (hB4.mono (unhide HBi).size))
        clear hB4 HRl
        by_cases hle : el = en
        · have jl : ¬ ((el : Nat) : Int) > ((en : Nat) : Int) := by omega
          simp only [hle, and_self, if_true] at HZ
          clear hle
          obtain ⟨x, HX⟩ : ∃ x : Tk, Hid ((⟨2, p, (en : Nat), (v : Nat), ⟨#[]⟩⟩ : Tk) = x) := ⟨_, hide rfl⟩
          have HXA : Hid (tkA x = #[.int .i64 2, .int .i64 ((p : Nat) : Int), .int .i64 ((en : Nat) : Int), .int .i64 ((v : Nat) : Int), .string ⟨#[]⟩]) := hide (by rw [← unhide HX]; rfl)
          rw [unhide HX] at HZ
          go_wp2_with (refine wpList_store_row rfl 34 (.tmp 4) (.tmp 41) rfl w.heap.size #[.int .i64 2, .int .i64 ((p : Nat) : Int), .int .i64 ((en : Nat) : Int), .int .i64 ((v : Nat) : Int), .string ⟨#[]⟩] rfl rfl 34 (tkA tkZ) (unhide H4j) (by kernel_rfl) rfl (by simp [Value.oneCell']) ?_)
          refine bodyPost_ret (v := .tuple #[.agg (tkA (nmT s p)), .int .i64 (nmE s p)]) ?_ rfl ⟨rfl, below_row (unhide HBj) (Nat.le_refl _) _⟩
          rw [(unhide HZ).1, (unhide HZ).2]
          exact results_tk2 rfl _ _ w.heap.size x 0 rfl rfl (by have := (unhide H4j).row x; rw [unhide HXA] at this; exact this)
        · have jl : ((el : Nat) : Int) > ((en : Nat) : Int) := by omega
          rw [if_neg (fun h => hle h.2), if_neg (fun h => hle h.2)] at HZ
          clear hle
          go_wp2_with (refine wpList_store_row rfl 34 (.tmp 4) (.tmp 37) rfl w.heap.size (tkA tkZ) rfl rfl 34 (tkA tkZ) (unhide H4j) (by kernel_rfl) rfl (by simp [tkA, tkZ, Value.oneCell']) ?_)
          refine bodyPost_ret (v := .tuple #[.agg (tkA (nmT s p)), .int .i64 (nmE s p)]) ?_ rfl ⟨rfl, below_row (unhide HBj) (Nat.le_refl _) _⟩
          rw [(unhide HZ).1, (unhide HZ).2]
          exact results_tk2 rfl _ _ w.heap.size tkZ 101 rfl rfl ((unhide H4j).row tkZ)
      · have HV : Hid (((min v 2147483649 : Nat) : Int) = 2147483649) := hide (by omega)
        rw [unhide HV]
        rw [(unhide HNu).1, decide_eq_false hv, if_neg (fun h => by cases h.1), if_neg (fun h => by cases h.1)] at HZ
        clear hv
        go_upto_region 7 with fail
        clear hnx
        generalize W2.iter T T.size = W3 at H4i HBi ⊢
        go_wp2_with (refine wpList_store_row rfl 34 (.tmp 4) (.tmp 37) rfl w.heap.size (tkA tkZ) rfl rfl 34 (tkA tkZ) (unhide H4i) (by kernel_rfl) rfl (by simp [tkA, tkZ, Value.oneCell']) ?_)
        refine bodyPost_ret (v := .tuple #[.agg (tkA (nmT s p)), .int .i64 (nmE s p)]) ?_ rfl ⟨rfl, below_row (unhide HBi) (Nat.le_refl _) _⟩
        rw [(unhide HZ).1, (unhide HZ).2]
        exact results_tk2 rfl _ _ w.heap.size tkZ 101 rfl rfl ((unhide H4i).row tkZ)
end Go.Proofs.YtgnipgcligmpiaaDoor
