/-
  Tokens: the contract of the reference's one.
-/
import Derived.Test.YtgnipgcligmpiaaDoorLx7
namespace Go.Proofs.YtgnipgcligmpiaaDoor
open Go.RowKit
set_option maxRecDepth 20000

theorem en_stay {p : Int → Bool} {s : ByteArray} {q : Nat} (hq : q ≤ s.size) : enD p s q = q ↔ ¬ (q < s.size ∧ p (bt s q) = true) := by
  have he := enD_end (p := p) (s := s) (i := q) hq
  constructor
  · intro e h
    rw [e] at he
    have := he.no h.1
    rw [this] at h
    cases h.2
  · intro h
    rcases Nat.eq_or_lt_of_le he.ge with e | e
    · exact e.symm
    · exact absurd ⟨by have := he.le; omega, he.all q (Nat.le_refl _) e⟩ h

set_option maxRecDepth 20000 in
set_option maxHeartbeats 8000000 in
theorem refOne_any (s : ByteArray) (p : Nat) (w : World) (hp : p < s.size) (hs : s.size ≤ 65536) :
    Calls Tryd.prog 21 #[.string s, .int .i64 (p : Int)] w fun e w' => e = .returned (.tuple #[.agg (tkA (onT s p)), .int .i64 (onE s p)]) ∧ Below w.heap.size w w' := by
  have n1 : Hid (TkAt ((w.alloc (.cells (tkA tkZ) 34)).alloc (.cells (tkA tkZ) 34)) w.heap.size tkZ) := hide ((((Below.refl _ _).alloc (Nat.le_refl _) _).block w.heap.size (by simp)).trans (heap_alloc_new w _))
  have n2 : Hid (TkAt ((w.alloc (.cells (tkA tkZ) 34)).alloc (.cells (tkA tkZ) 34)) (w.heap.size + 1) tkZ) := hide (by
    have := heap_alloc_new (w.alloc (.cells (tkA tkZ) 34)) (.cells (tkA tkZ) 34)
    rw [World.size_alloc] at this
    exact this)
  have HB : Hid (Below w.heap.size w ((w.alloc (.cells (tkA tkZ) 34)).alloc (.cells (tkA tkZ) 34))) := hide (((Below.refl _ _).alloc (Nat.le_refl _) _).alloc (by simp) _)
  unfold tkA tkZ at n1 n2 HB
  simp only at n1 n2 HB
  have HZ : Hid (onE s p = (if ltC (bt s p) = true then woE s p else if dgC (bt s p) = true then nmE s p else mkE s p) ∧ onT s p = if ltC (bt s p) = true then woT s p else if dgC (bt s p) = true then nmT s p else mkT s p) := hide ⟨rfl, rfl⟩
  have hbt := bt_at hp
  have jp : ((p : Nat) : Int) < ((s.size : Nat) : Int) := by omega
  have hp' : p ≤ s.size := by omega
  go_enter Tryd.func21, Tryd.ntmps21
  go_upto_region 2 with fail
  generalize ((w.alloc (.cells #[.int .i64 0, .int .i64 0, .int .i64 0, .int .i64 0, .string ⟨#[]⟩] 34)).alloc (.cells #[.int .i64 0, .int .i64 0, .int .i64 0, .int .i64 0, .string ⟨#[]⟩] 34)) = W1 at n1 n2 HB ⊢
  have HL := hide (refLetter_any ((bt s p : Nat) : Int) W1)
  have HD := hide (refDigit_any ((bt s p : Nat) : Int) W1)
  go_wp2_with fail
  refine (unhide HL).mono ?_
  rintro e W2 ⟨rfl, rfl⟩
  cases hlt : ltC (bt s p : Int)
  · rw [hlt] at HZ
    simp only [Bool.false_eq_true, if_false] at HZ
    clear hlt
    go_wp2_with fail
    refine (unhide HD).mono ?_
    rintro e W2 ⟨rfl, rfl⟩
    cases hdg : dgC (bt s p : Int)
    · rw [hdg] at HZ
      simp only [Bool.false_eq_true, if_false] at HZ
      have HC := hide (refMark_any s p W2 hp' (by omega))
      unfold mkE mkT at HZ
      clear hdg
      go_wp2_with fail
      refine (unhide HC).mono ?_
      rintro e W3 ⟨rfl, hB3⟩
      have H4 := hide ((unhide n1).below hB3)
      have H6 := hide ((unhide n2).below hB3)
      have HB3 := hide ((unhide HB).trans (hB3.mono (unhide HB).size))
      have h8 := (mkS_le s p 25).1
      generalize mkS s p 25 = mk at HZ h8
      obtain ⟨mb, mz⟩ := mk
      simp only at HZ h8
      clear hB3 HC hbt
      by_cases hz : mz = 0
      · have b0 : (((mz : Nat) : Int) == 0) = true := by rw [hz]; rfl
        rw [if_pos hz, if_pos hz] at HZ
        clear hz
        go_wp2_with (first | (refine wpList_load_row rfl 34 (.tmp 6) rfl (w.heap.size + 1) rfl 34 (tkA tkZ) (0, 0) _ (unhide H6) Tryd.underlying34 rfl (by kernel_rfl) ?_) | (refine wpList_store_row rfl 34 (.tmp 4) (.tmp 97) rfl w.heap.size (tkA tkZ) rfl rfl 34 (tkA tkZ) (unhide H4) (by kernel_rfl) rfl (by simp [tkA, tkZ, Value.oneCell']) ?_))
        refine bodyPost_ret (v := .tuple #[.agg (tkA (onT s p)), .int .i64 (onE s p)]) ?_ rfl ⟨rfl, below_row (unhide HB3) (Nat.le_refl _) _⟩
        rw [(unhide HZ).1, (unhide HZ).2]
        exact results_tk2 rfl _ _ w.heap.size tkZ 100 rfl rfl ((unhide H4).row tkZ)
      · have b0 : (((mz : Nat) : Int) == 0) = false := by simp; omega
        rw [if_neg hz, if_neg hz] at HZ
        clear hz
        obtain ⟨x, HX⟩ : ∃ x : Tk, Hid ((⟨(mb : Nat), p, (p + mz : Nat), 0, ⟨#[]⟩⟩ : Tk) = x) := ⟨_, hide rfl⟩
        have HXA : Hid (tkA x = #[.int .i64 ((mb : Nat) : Int), .int .i64 ((p : Nat) : Int), .int .i64 (((p : Nat) : Int) + ((mz : Nat) : Int)), .int .i64 0, .string ⟨#[]⟩]) := hide (by rw [← unhide HX]; unfold tkA; simp)
        rw [unhide HX] at HZ
        go_wp2_with (refine wpList_store_row rfl 34 (.tmp 4) (.tmp 103) rfl w.heap.size #[.int .i64 ((mb : Nat) : Int), .int .i64 ((p : Nat) : Int), .int .i64 (((p : Nat) : Int) + ((mz : Nat) : Int)), .int .i64 0, .string ⟨#[]⟩] rfl rfl 34 (tkA tkZ) (unhide H4) (by kernel_rfl) rfl (by simp [Value.oneCell']) ?_)
        refine bodyPost_ret (v := .tuple #[.agg (tkA (onT s p)), .int .i64 (onE s p)]) ?_ rfl ⟨rfl, below_row (unhide HB3) (Nat.le_refl _) _⟩
        rw [(unhide HZ).1, (unhide HZ).2]
        exact results_tk2 rfl _ _ w.heap.size x 0 rfl rfl (by have := (unhide H4).row x; rw [unhide HXA] at this; exact this)
    · rw [hdg] at HZ
      simp only [if_true] at HZ
      unfold nmE nmT at HZ
      clear hdg
      go_wp2
      have HE := hide (enD_end (p := dgC) (s := s) (i := p) hp')
      generalize enD dgC s p = en at HE HZ
      have hen1 := (unhide HE).ge
      have hen2 := (unhide HE).le
      clear hbt
      go_loopw [11] (fun v wr => ∃ m : Nat, p ≤ m ∧ m ≤ en ∧ v = .int .i64 (m : Int) ∧ wr = W2) (fun v _ => s.size - (intOf v).toNat)
      case atStart => exact ⟨p, Nat.le_refl _, hen1, rfl, rfl⟩
      case round =>
        obtain ⟨m, hm1, hm2, rfl, rfl⟩ := hrel
        by_cases hme : m < en
        · have jm : ((m : Nat) : Int) < ((s.size : Nat) : Int) := by omega
          have hbm := bt_at (show m < s.size by omega)
          have HDm := hide (refDigit_any ((bt s m : Nat) : Int) wr)
          rw [(unhide HE).all m hm1 hme] at HDm
          go_wp2_with fail
          refine (unhide HDm).mono ?_
          rintro e W3 ⟨rfl, rfl⟩
          go_wp2
          go_roundw
          case rel => exact ⟨m + 1, by omega, by omega, by go_num, trivial⟩
          case measure => simp [intOf]; omega
        · obtain rfl : m = en := by omega
          have hts := hide (ext_sz (s := s) hen1 hen2)
          have HBt := hide (fun j (hj : p + j < m) => ext_bt (s := s) (i := p) (e := m) hen2 hj)
          have jpe : ((p : Nat) : Int) ≤ ((m : Nat) : Int) := by omega
          have jes : ((m : Nat) : Int) ≤ ((s.size : Nat) : Int) := by omega
          obtain ⟨T, HTe⟩ : ∃ T, Hid (s.extract p m = T) := ⟨_, hide rfl⟩
          rw [unhide HTe] at hts HBt HZ
          have HNu := hide (refNumber_any T wr (fun j hj => by
            have := unhide hts
            rw [unhide HBt j (by omega)]
            have := (unhide HE).all (p + j) (by omega) (by omega)
            unfold dgC at this
            simp at this
            omega) (by have := unhide hts; omega))
          have HSt := hide (en_stay (p := ltC) (s := s) (q := m) hen2)
          by_cases hms : m < s.size
          · have jm : ((m : Nat) : Int) < ((s.size : Nat) : Int) := by omega
            have hbm := bt_at hms
            have HDm := hide (refDigit_any ((bt s m : Nat) : Int) wr)
            rw [(unhide HE).no hms] at HDm
            have HLm := hide (refLetter_any ((bt s m : Nat) : Int) wr)
            go_wp2_with fail
            refine (unhide HDm).mono ?_
            rintro e W3 ⟨rfl, rfl⟩
            clear HDm
            go_wp2_with fail
            rw [unhide HTe]
            refine (unhide HNu).mono ?_
            rintro e W3 ⟨rfl, rfl⟩
            cases hnu : nuB T
            · rw [if_neg (fun h => by rw [hnu] at h; cases h.1), if_neg (fun h => by rw [hnu] at h; cases h.1)] at HZ
              clear hnu
              go_wp2_with (first | (refine wpList_load_row rfl 34 (.tmp 6) rfl (w.heap.size + 1) rfl 34 (tkA tkZ) (0, 0) _ (unhide n2) Tryd.underlying34 rfl (by kernel_rfl) ?_) | (refine wpList_store_row rfl 34 (.tmp 4) (.tmp 84) rfl w.heap.size (tkA tkZ) rfl rfl 34 (tkA tkZ) (unhide n1) (by kernel_rfl) rfl (by simp [tkA, tkZ, Value.oneCell']) ?_))
              refine bodyPost_ret (v := .tuple #[.agg (tkA (onT s p)), .int .i64 (onE s p)]) ?_ rfl ⟨rfl, below_row (unhide HB) (Nat.le_refl _) _⟩
              rw [(unhide HZ).1, (unhide HZ).2]
              exact results_tk2 rfl _ _ w.heap.size tkZ 101 rfl rfl ((unhide n1).row tkZ)
            · cases hll : ltC (bt s m : Int)
              · rw [hll] at HLm
                have HS2 : Hid (nuB T = true ∧ enD ltC s m = m) := hide ⟨hnu, (unhide HSt).2 (fun h => by rw [hll] at h; cases h.2)⟩
                rw [if_pos (unhide HS2), if_pos (unhide HS2)] at HZ
                clear hnu hll
                go_wp2_with fail
                refine (unhide HLm).mono ?_
                rintro e W3 ⟨rfl, rfl⟩
                obtain ⟨x, HX⟩ : ∃ x : Tk, Hid ((⟨2, p, (m : Nat), (nuV T : Nat), ⟨#[]⟩⟩ : Tk) = x) := ⟨_, hide rfl⟩
                have HXA : Hid (tkA x = #[.int .i64 2, .int .i64 ((p : Nat) : Int), .int .i64 ((m : Nat) : Int), .int .i64 ((nuV T : Nat) : Int), .string ⟨#[]⟩]) := hide (by rw [← unhide HX]; rfl)
                rw [unhide HX] at HZ
                go_wp2_with (refine wpList_store_row rfl 34 (.tmp 4) (.tmp 88) rfl w.heap.size #[.int .i64 2, .int .i64 ((p : Nat) : Int), .int .i64 ((m : Nat) : Int), .int .i64 ((nuV T : Nat) : Int), .string ⟨#[]⟩] rfl rfl 34 (tkA tkZ) (unhide n1) (by kernel_rfl) rfl (by simp [Value.oneCell']) ?_)
                refine bodyPost_ret (v := .tuple #[.agg (tkA (onT s p)), .int .i64 (onE s p)]) ?_ rfl ⟨rfl, below_row (unhide HB) (Nat.le_refl _) _⟩
                rw [(unhide HZ).1, (unhide HZ).2]
                exact results_tk2 rfl _ _ w.heap.size x 0 rfl rfl (by have := (unhide n1).row x; rw [unhide HXA] at this; exact this)
              · rw [hll] at HLm
                have HS2 : Hid (¬ (nuB T = true ∧ enD ltC s m = m)) := hide (fun h => (unhide HSt).1 h.2 ⟨hms, hll⟩)
                rw [if_neg (unhide HS2), if_neg (unhide HS2)] at HZ
                clear hnu hll
                go_wp2_with fail
                refine (unhide HLm).mono ?_
                rintro e W3 ⟨rfl, rfl⟩
                go_wp2_with (first | (refine wpList_load_row rfl 34 (.tmp 6) rfl (w.heap.size + 1) rfl 34 (tkA tkZ) (0, 0) _ (unhide n2) Tryd.underlying34 rfl (by kernel_rfl) ?_) | (refine wpList_store_row rfl 34 (.tmp 4) (.tmp 84) rfl w.heap.size (tkA tkZ) rfl rfl 34 (tkA tkZ) (unhide n1) (by kernel_rfl) rfl (by simp [tkA, tkZ, Value.oneCell']) ?_))
                refine bodyPost_ret (v := .tuple #[.agg (tkA (onT s p)), .int .i64 (onE s p)]) ?_ rfl ⟨rfl, below_row (unhide HB) (Nat.le_refl _) _⟩
                rw [(unhide HZ).1, (unhide HZ).2]
                exact results_tk2 rfl _ _ w.heap.size tkZ 101 rfl rfl ((unhide n1).row tkZ)
          · have jm : ¬ ((m : Nat) : Int) < ((s.size : Nat) : Int) := by omega
            go_wp2_with fail
            rw [unhide HTe]
            refine (unhide HNu).mono ?_
            rintro e W3 ⟨rfl, rfl⟩
            cases hnu : nuB T
            · rw [if_neg (fun h => by rw [hnu] at h; cases h.1), if_neg (fun h => by rw [hnu] at h; cases h.1)] at HZ
              clear hnu
              go_wp2_with (first | (refine wpList_load_row rfl 34 (.tmp 6) rfl (w.heap.size + 1) rfl 34 (tkA tkZ) (0, 0) _ (unhide n2) Tryd.underlying34 rfl (by kernel_rfl) ?_) | (refine wpList_store_row rfl 34 (.tmp 4) (.tmp 84) rfl w.heap.size (tkA tkZ) rfl rfl 34 (tkA tkZ) (unhide n1) (by kernel_rfl) rfl (by simp [tkA, tkZ, Value.oneCell']) ?_))
              refine bodyPost_ret (v := .tuple #[.agg (tkA (onT s p)), .int .i64 (onE s p)]) ?_ rfl ⟨rfl, below_row (unhide HB) (Nat.le_refl _) _⟩
              rw [(unhide HZ).1, (unhide HZ).2]
              exact results_tk2 rfl _ _ w.heap.size tkZ 101 rfl rfl ((unhide n1).row tkZ)
            · have HS2 : Hid (nuB T = true ∧ enD ltC s m = m) := hide ⟨hnu, (unhide HSt).2 (fun h => hms h.1)⟩
              rw [if_pos (unhide HS2), if_pos (unhide HS2)] at HZ
              clear hnu
              obtain ⟨x, HX⟩ : ∃ x : Tk, Hid ((⟨2, p, (m : Nat), (nuV T : Nat), ⟨#[]⟩⟩ : Tk) = x) := ⟨_, hide rfl⟩
              have HXA : Hid (tkA x = #[.int .i64 2, .int .i64 ((p : Nat) : Int), .int .i64 ((m : Nat) : Int), .int .i64 ((nuV T : Nat) : Int), .string ⟨#[]⟩]) := hide (by rw [← unhide HX]; rfl)
              rw [unhide HX] at HZ
              go_wp2_with (refine wpList_store_row rfl 34 (.tmp 4) (.tmp 88) rfl w.heap.size #[.int .i64 2, .int .i64 ((p : Nat) : Int), .int .i64 ((m : Nat) : Int), .int .i64 ((nuV T : Nat) : Int), .string ⟨#[]⟩] rfl rfl 34 (tkA tkZ) (unhide n1) (by kernel_rfl) rfl (by simp [Value.oneCell']) ?_)
              refine bodyPost_ret (v := .tuple #[.agg (tkA (onT s p)), .int .i64 (onE s p)]) ?_ rfl ⟨rfl, below_row (unhide HB) (Nat.le_refl _) _⟩
              rw [(unhide HZ).1, (unhide HZ).2]
              exact results_tk2 rfl _ _ w.heap.size x 0 rfl rfl (by have := (unhide n1).row x; rw [unhide HXA] at this; exact this)
  · rw [hlt] at HZ
    simp only [if_true] at HZ
    unfold woE woT at HZ
    clear hlt
    have HRun := hide (refRun_any s p W2 hp' (by omega))
    have HE := hide (enD_end (p := wdC) (s := s) (i := p) hp')
    generalize enD wdC s p = en at HE HZ HRun
    have hen1 := (unhide HE).ge
    have hen2 := (unhide HE).le
    have jpe : ((p : Nat) : Int) ≤ ((en : Nat) : Int) := by omega
    have jes : ((en : Nat) : Int) ≤ ((s.size : Nat) : Int) := by omega
    have hts := hide (ext_sz (s := s) hen1 hen2)
    clear hbt
    go_wp2_with fail
    refine (unhide HRun).mono ?_
    rintro e W3 ⟨rfl, rfl⟩
    go_upto_region 5 with fail
    generalize s.extract p en = T at hts HZ ⊢
    have hTl : T.size ≤ 65536 := by have := unhide hts; omega
    have HK := hide (refKind_any T W3)
    generalize kdD T = kd at HK HZ
    obtain ⟨kk, kb⟩ := kd
    simp only at HK HZ
    go_wp2_with fail
    refine (unhide HK).mono ?_
    rintro e W4 ⟨rfl, hB4⟩
    have m1 := hide ((unhide n1).below hB4)
    have m2 := hide ((unhide n2).below hB4)
    have HB4 := hide ((unhide HB).trans (hB4.mono (unhide HB).size))
    have HNm := hide (refName_any T W4 (by unfold maxLen; omega))
    clear hB4 HK
    cases kb
    · simp only [Bool.false_eq_true, if_false] at HZ
      cases hn : nameB T
      · rw [hn] at HNm
        rw [hn] at HZ
        simp only [Bool.false_eq_true, if_false] at HZ
        clear hn
        go_wp2_with fail
        refine (unhide HNm).mono ?_
        rintro e w3 ⟨rfl, rfl⟩
        go_wp2_with (first | (refine wpList_load_row rfl 34 (.tmp 6) rfl (w.heap.size + 1) rfl 34 (tkA tkZ) (0, 0) _ (unhide m2) Tryd.underlying34 rfl (by kernel_rfl) ?_) | (refine wpList_store_row rfl 34 (.tmp 4) (.tmp 40) rfl w.heap.size (tkA tkZ) rfl rfl 34 (tkA tkZ) (unhide m1) (by kernel_rfl) rfl (by simp [tkA, tkZ, Value.oneCell']) ?_))
        refine bodyPost_ret (v := .tuple #[.agg (tkA (onT s p)), .int .i64 (onE s p)]) ?_ rfl ⟨rfl, below_row (unhide HB4) (Nat.le_refl _) _⟩
        rw [(unhide HZ).1, (unhide HZ).2]
        exact results_tk2 rfl _ _ w.heap.size tkZ 6 rfl rfl ((unhide m1).row tkZ)
      · rw [hn] at HNm
        rw [hn] at HZ
        simp only [if_true] at HZ
        clear hn
        go_wp2_with fail
        refine (unhide HNm).mono ?_
        rintro e w3 ⟨rfl, rfl⟩
        obtain ⟨x, HX⟩ : ∃ x : Tk, Hid ((⟨1, p, (en : Nat), 0, T⟩ : Tk) = x) := ⟨_, hide rfl⟩
        have HXA : Hid (tkA x = #[.int .i64 1, .int .i64 ((p : Nat) : Int), .int .i64 ((en : Nat) : Int), .int .i64 0, .string T]) := hide (by rw [← unhide HX]; rfl)
        rw [unhide HX] at HZ
        go_wp2_with (refine wpList_store_row rfl 34 (.tmp 4) (.tmp 44) rfl w.heap.size #[.int .i64 1, .int .i64 ((p : Nat) : Int), .int .i64 ((en : Nat) : Int), .int .i64 0, .string T] rfl rfl 34 (tkA tkZ) (unhide m1) (by kernel_rfl) rfl (by simp [Value.oneCell']) ?_)
        refine bodyPost_ret (v := .tuple #[.agg (tkA (onT s p)), .int .i64 (onE s p)]) ?_ rfl ⟨rfl, below_row (unhide HB4) (Nat.le_refl _) _⟩
        rw [(unhide HZ).1, (unhide HZ).2]
        exact results_tk2 rfl _ _ w.heap.size x 0 rfl rfl (by have := (unhide m1).row x; rw [unhide HXA] at this; exact this)
    · simp only [if_true] at HZ
      obtain ⟨x, HX⟩ : ∃ x : Tk, Hid ((⟨(kk : Nat), p, (en : Nat), 0, ⟨#[]⟩⟩ : Tk) = x) := ⟨_, hide rfl⟩
      have HXA : Hid (tkA x = #[.int .i64 ((kk : Nat) : Int), .int .i64 ((p : Nat) : Int), .int .i64 ((en : Nat) : Int), .int .i64 0, .string ⟨#[]⟩]) := hide (by rw [← unhide HX]; rfl)
      rw [unhide HX] at HZ
      go_wp2_with (refine wpList_store_row rfl 34 (.tmp 4) (.tmp 36) rfl w.heap.size #[.int .i64 ((kk : Nat) : Int), .int .i64 ((p : Nat) : Int), .int .i64 ((en : Nat) : Int), .int .i64 0, .string ⟨#[]⟩] rfl rfl 34 (tkA tkZ) (unhide m1) (by kernel_rfl) rfl (by simp [Value.oneCell']) ?_)
      refine bodyPost_ret (v := .tuple #[.agg (tkA (onT s p)), .int .i64 (onE s p)]) ?_ rfl ⟨rfl, below_row (unhide HB4) (Nat.le_refl _) _⟩
      rw [(unhide HZ).1, (unhide HZ).2]
      exact results_tk2 rfl _ _ w.heap.size x 0 rfl rfl (by have := (unhide m1).row x; rw [unhide HXA] at this; exact this)
end Go.Proofs.YtgnipgcligmpiaaDoor
