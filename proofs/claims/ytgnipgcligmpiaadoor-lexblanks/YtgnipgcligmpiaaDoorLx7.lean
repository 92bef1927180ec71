/-
  Tokens: the contracts of lex.word and lex.token.
-/
import Derived.Test.YtgnipgcligmpiaaDoorLx6
namespace Go.Proofs.YtgnipgcligmpiaaDoor
open Go.RowKit
set_option maxRecDepth 20000

def woE (s : ByteArray) (p : Nat) : Int := if (kdD (s.extract p (enD wdC s p))).2 = true then 0 else if nameB (s.extract p (enD wdC s p)) = true then 0 else 6
def woT (s : ByteArray) (p : Nat) : Tk := if (kdD (s.extract p (enD wdC s p))).2 = true then ⟨(kdD (s.extract p (enD wdC s p))).1, p, (enD wdC s p : Nat), 0, ⟨#[]⟩⟩ else if nameB (s.extract p (enD wdC s p)) = true then ⟨1, p, (enD wdC s p : Nat), 0, s.extract p (enD wdC s p)⟩ else tkZ
theorem Clone_str (s : ByteArray) (w : World) (hs : s.size ≤ 65536) : Calls Tryd.prog 42 #[.string s] w fun e w' => e = .returned (.string s) ∧ Below w.heap.size w w' := by
  have HC := hide (Any.stringslite_Clone Tryd.laysCln s w (by omega))
  go_enter Tryd.func42, Tryd.ntmps42
  go_wp2_with fail
  refine (unhide HC).mono ?_
  rintro e w1 ⟨rfl, hB⟩
  go_wp2
  go_ret
  exact ⟨rfl, hB⟩

set_option maxRecDepth 20000 in
set_option maxHeartbeats 4000000 in
theorem lexWd_any (s : ByteArray) (p : Nat) (w : World) (hW : SpAt w) (hp : p ≤ s.size) (hs : s.size ≤ 65536) :
    Calls Tryd.prog 26 #[.string s, .int .i64 (p : Int)] w fun e w' => e = .returned (.tuple #[.agg (tkA (woT s p)), .int .i64 (woE s p)]) ∧ Below w.heap.size w w' := by
  have n1 : Hid (TkAt (w.alloc (.cells (tkA tkZ) 34)) w.heap.size tkZ) := hide (heap_alloc_new w _)
  have HB : Hid (Below w.heap.size w (w.alloc (.cells (tkA tkZ) 34))) := hide ((Below.refl _ _).alloc (Nat.le_refl _) _)
  unfold tkA tkZ at n1 HB
  simp only at n1 HB
  have HW := hide hW
  clear hW
  have HE := hide (enD_end (p := wdC) (s := s) (i := p) hp)
  have HZ : Hid (woE s p = (if (kdD (s.extract p (enD wdC s p))).2 = true then 0 else if nameB (s.extract p (enD wdC s p)) = true then 0 else 6) ∧ woT s p = if (kdD (s.extract p (enD wdC s p))).2 = true then ⟨(kdD (s.extract p (enD wdC s p))).1, p, (enD wdC s p : Nat), 0, ⟨#[]⟩⟩ else if nameB (s.extract p (enD wdC s p)) = true then ⟨1, p, (enD wdC s p : Nat), 0, s.extract p (enD wdC s p)⟩ else tkZ) := hide ⟨rfl, rfl⟩
  go_enter Tryd.func26, Tryd.ntmps26
  go_upto_region 1 with fail
  generalize (w.alloc (.cells #[.int .i64 0, .int .i64 0, .int .i64 0, .int .i64 0, .string ⟨#[]⟩] 34)) = W1 at n1 HB ⊢
  have HRun := hide (runEndW_any s p W1 hp (by omega))
  generalize enD wdC s p = en at HE HZ HRun
  have hen1 := (unhide HE).ge
  have hen2 := (unhide HE).le
  have HTs := hide (ext_sz (s := s) hen1 hen2)
  go_wp2_with fail
  refine (unhide HRun).mono ?_
  rintro e W2 ⟨rfl, hB2⟩
  have H4 := hide ((unhide n1).below hB2)
  have HB2 := hide ((unhide HB).trans (hB2.mono (unhide HB).size))
  have HW2 := hide ((unhide HW).below (unhide HB2))
  clear hB2 HRun n1 HB HW
  have jpe : ((p : Nat) : Int) ≤ ((en : Nat) : Int) := by omega
  have jes : ((en : Nat) : Int) ≤ ((s.size : Nat) : Int) := by omega
  go_upto_region 3 with fail
  generalize s.extract p en = T at HTs HZ ⊢
  have hTl : T.size ≤ 65536 := by have := unhide HTs; omega
  have HK := hide (Kind_any T W2 (unhide HW2))
  have HNm := hide (IsName_any T W2 (by unfold maxLen; omega))
  generalize kdD T = kd at HK HZ
  obtain ⟨kk, kb⟩ := kd
  simp only at HK HZ
  go_wp2_with fail
  refine (unhide HK).mono ?_
  rintro e w3 ⟨rfl, rfl⟩
  cases kb
  · simp only [Bool.false_eq_true, if_false] at HZ
    cases hn : nameB T
    · rw [hn] at HNm
      rw [hn] at HZ
      simp only [Bool.false_eq_true, if_false] at HZ
      clear hn
      go_wp2_with fail
      refine (unhide HNm).mono ?_
      rintro e w3 ⟨rfl, rfl⟩
      go_wp2_with (refine wpList_store_row rfl 34 (.tmp 4) (.tmp 30) rfl w.heap.size (tkA tkZ) rfl rfl 34 (tkA tkZ) (unhide H4) (by kernel_rfl) rfl (by simp [tkA, tkZ, Value.oneCell']) ?_)
      refine bodyPost_ret (v := .tuple #[.agg (tkA (woT s p)), .int .i64 (woE s p)]) ?_ rfl ⟨rfl, below_row (unhide HB2) (Nat.le_refl _) _⟩
      rw [(unhide HZ).1, (unhide HZ).2]
      exact results_tk2 rfl _ _ w.heap.size tkZ 6 rfl rfl ((unhide H4).row tkZ)
    · rw [hn] at HNm
      rw [hn] at HZ
      simp only [if_true] at HZ
      clear hn
      go_wp2_with fail
      refine (unhide HNm).mono ?_
      rintro e w3 ⟨rfl, rfl⟩
      have HCl := hide (Clone_str T w3 hTl)
      go_wp2_with fail
      refine (unhide HCl).mono ?_
      rintro e W5 ⟨rfl, hB5⟩
      have H5 := hide ((unhide H4).below hB5)
      have HB5 := hide ((unhide HB2).trans (hB5.mono (unhide HB2).size))
      clear hB5
      obtain ⟨x, HX⟩ : ∃ x : Tk, Hid ((⟨1, p, (en : Nat), 0, T⟩ : Tk) = x) := ⟨_, hide rfl⟩
      have HXA : Hid (tkA x = #[.int .i64 1, .int .i64 ((p : Nat) : Int), .int .i64 ((en : Nat) : Int), .int .i64 0, .string T]) := hide (by rw [← unhide HX]; rfl)
      rw [unhide HX] at HZ
      go_wp2_with (refine wpList_store_row rfl 34 (.tmp 4) (.tmp 35) rfl w.heap.size #[.int .i64 1, .int .i64 ((p : Nat) : Int), .int .i64 ((en : Nat) : Int), .int .i64 0, .string T] rfl rfl 34 (tkA tkZ) (unhide H5) (by kernel_rfl) rfl (by simp [Value.oneCell']) ?_)
      refine bodyPost_ret (v := .tuple #[.agg (tkA (woT s p)), .int .i64 (woE s p)]) ?_ rfl ⟨rfl, below_row (unhide HB5) (Nat.le_refl _) _⟩
      rw [(unhide HZ).1, (unhide HZ).2]
      exact results_tk2 rfl _ _ w.heap.size x 0 rfl rfl (by have := (unhide H5).row x; rw [unhide HXA] at this; exact this)
  · simp only [if_true] at HZ
    obtain ⟨x, HX⟩ : ∃ x : Tk, Hid ((⟨(kk : Nat), p, (en : Nat), 0, ⟨#[]⟩⟩ : Tk) = x) := ⟨_, hide rfl⟩
    have HXA : Hid (tkA x = #[.int .i64 ((kk : Nat) : Int), .int .i64 ((p : Nat) : Int), .int .i64 ((en : Nat) : Int), .int .i64 0, .string ⟨#[]⟩]) := hide (by rw [← unhide HX]; rfl)
    rw [unhide HX] at HZ
    go_wp2_with (refine wpList_store_row rfl 34 (.tmp 4) (.tmp 26) rfl w.heap.size #[.int .i64 ((kk : Nat) : Int), .int .i64 ((p : Nat) : Int), .int .i64 ((en : Nat) : Int), .int .i64 0, .string ⟨#[]⟩] rfl rfl 34 (tkA tkZ) (unhide H4) (by kernel_rfl) rfl (by simp [Value.oneCell']) ?_)
    refine bodyPost_ret (v := .tuple #[.agg (tkA (woT s p)), .int .i64 (woE s p)]) ?_ rfl ⟨rfl, below_row (unhide HB2) (Nat.le_refl _) _⟩
    rw [(unhide HZ).1, (unhide HZ).2]
    exact results_tk2 rfl _ _ w.heap.size x 0 rfl rfl (by have := (unhide H4).row x; rw [unhide HXA] at this; exact this)

/-- The token at a place. -/
def onE (s : ByteArray) (p : Nat) : Int := if ltC (bt s p) = true then woE s p else if dgC (bt s p) = true then nmE s p else mkE s p
def onT (s : ByteArray) (p : Nat) : Tk := if ltC (bt s p) = true then woT s p else if dgC (bt s p) = true then nmT s p else mkT s p
set_option maxRecDepth 20000 in
set_option maxHeartbeats 4000000 in
theorem token_any (s : ByteArray) (p : Nat) (c : Int) (w : World) (hW : SpAt w) (hp : p < s.size) (hs : s.size ≤ 65536) (hl : ltC c = ltC (bt s p)) (hd : dgC c = dgC (bt s p)) :
    Calls Tryd.prog 19 #[.string s, .int .i64 (p : Int), .int .i32 c] w fun e w' => e = .returned (.tuple #[.agg (tkA (onT s p)), .int .i64 (onE s p)]) ∧ Below w.heap.size w w' := by
  have n1 : Hid (TkAt (w.alloc (.cells (tkA tkZ) 34)) w.heap.size tkZ) := hide (heap_alloc_new w _)
  have hal : Below w.heap.size w (w.alloc (.cells (tkA tkZ) 34)) := (Below.refl _ _).alloc (Nat.le_refl _) _
  have HW := hide (hW.below hal)
  have HB := hide hal
  clear hal hW
  unfold tkA tkZ at n1 HB HW
  simp only at n1 HB HW
  have HZ : Hid (onE s p = (if ltC (bt s p) = true then woE s p else if dgC (bt s p) = true then nmE s p else mkE s p) ∧ onT s p = if ltC (bt s p) = true then woT s p else if dgC (bt s p) = true then nmT s p else mkT s p) := hide ⟨rfl, rfl⟩
  go_enter Tryd.func19, Tryd.ntmps19
  go_upto_region 1 with fail
  generalize (w.alloc (.cells #[.int .i64 0, .int .i64 0, .int .i64 0, .int .i64 0, .string ⟨#[]⟩] 34)) = W1 at n1 HB HW ⊢
  have HL := hide (lexLetter_any c W1)
  have HD := hide (lexDigit_any c W1)
  rw [hl] at HL
  rw [hd] at HD
  clear hl hd
  go_wp2_with fail
  refine (unhide HL).mono ?_
  rintro e w1 ⟨rfl, rfl⟩
  cases hlt : ltC (bt s p : Int)
  · rw [hlt] at HZ
    simp only [Bool.false_eq_true, if_false] at HZ
    clear hlt
    go_wp2_with fail
    refine (unhide HD).mono ?_
    rintro e w1 ⟨rfl, rfl⟩
    cases hdg : dgC (bt s p : Int)
    · rw [hdg] at HZ
      simp only [Bool.false_eq_true, if_false] at HZ
      clear hdg
      have HC := hide (lexMark_any s p w1 (unhide HW) (by omega) (by omega))
      rw [← (unhide HZ).1, ← (unhide HZ).2] at HC
      go_wp2_with fail
      refine (unhide HC).mono ?_
      rintro e w2 ⟨rfl, hB2⟩
      have H2 := hide ((unhide n1).below hB2)
      have HB2 := hide ((unhide HB).trans (hB2.mono (unhide HB).size))
      clear hB2 HC
      go_wp2_with (refine wpList_store_row rfl 34 (.tmp 6) (.tmp 27) rfl w.heap.size (tkA (onT s p)) rfl rfl 34 (tkA tkZ) (unhide H2) (by kernel_rfl) rfl (by simp [tkA, Value.oneCell']) ?_)
      refine bodyPost_ret (results_tk2 rfl _ _ w.heap.size (onT s p) (onE s p) rfl rfl ((unhide H2).row _)) rfl ⟨rfl, below_row (unhide HB2) (Nat.le_refl _) _⟩
    · rw [hdg] at HZ
      simp only [if_true] at HZ
      clear hdg
      have HC := hide (lexNumber_any s p w1 (by omega) (by omega))
      rw [← (unhide HZ).1, ← (unhide HZ).2] at HC
      go_wp2_with fail
      refine (unhide HC).mono ?_
      rintro e w2 ⟨rfl, hB2⟩
      have H2 := hide ((unhide n1).below hB2)
      have HB2 := hide ((unhide HB).trans (hB2.mono (unhide HB).size))
      clear hB2 HC
      go_wp2_with (refine wpList_store_row rfl 34 (.tmp 6) (.tmp 22) rfl w.heap.size (tkA (onT s p)) rfl rfl 34 (tkA tkZ) (unhide H2) (by kernel_rfl) rfl (by simp [tkA, Value.oneCell']) ?_)
      refine bodyPost_ret (results_tk2 rfl _ _ w.heap.size (onT s p) (onE s p) rfl rfl ((unhide H2).row _)) rfl ⟨rfl, below_row (unhide HB2) (Nat.le_refl _) _⟩
  · rw [hlt] at HZ
    simp only [if_true] at HZ
    clear hlt
    have HC := hide (lexWd_any s p w1 (unhide HW) (by omega) (by omega))
    rw [← (unhide HZ).1, ← (unhide HZ).2] at HC
    go_wp2_with fail
    refine (unhide HC).mono ?_
    rintro e w2 ⟨rfl, hB2⟩
    have H2 := hide ((unhide n1).below hB2)
    have HB2 := hide ((unhide HB).trans (hB2.mono (unhide HB).size))
    clear hB2 HC
    go_wp2_with (refine wpList_store_row rfl 34 (.tmp 6) (.tmp 14) rfl w.heap.size (tkA (onT s p)) rfl rfl 34 (tkA tkZ) (unhide H2) (by kernel_rfl) rfl (by simp [tkA, Value.oneCell']) ?_)
    refine bodyPost_ret (results_tk2 rfl _ _ w.heap.size (onT s p) (onE s p) rfl rfl ((unhide H2).row _)) rfl ⟨rfl, below_row (unhide HB2) (Nat.le_refl _) _⟩
end Go.Proofs.YtgnipgcligmpiaaDoor
