/-
  The walk of the law AsmNames: it returns true for all bytes and every number, and writes nothing that was there.
-/
import Derived.Test.YthdgbdjagjagpaaDoorJRC
import Derived.Test.YthdgbdjagjagpaaDoorJRB
import Derived.Test.YthdgbdjagjagpaaDoorKOpenedAn
namespace Go.Proofs.YthdgbdjagjagpaaDoor
open Go.RowKit
set_option maxRecDepth 20000
set_option linter.unusedVariables false
set_option linter.unusedSimpArgs false

theorem parS_nop : parS ⟨#[110, 111, 112]⟩ = ([0], 0, 0) := by decide +kernel
def pfQ (k : Nat) : List UInt8 := [81, 95] ++ Lib.itoa (k : Int) ++ [120]
theorem pfQ_ok : ∀ k, k < 3 → PfOk (pfQ k) := by
  intro k hk
  have e : pfQ k = [81, 95, UInt8.ofNat (48 + k), 120] := by
    rcases (by omega : k = 0 ∨ k = 1 ∨ k = 2) with rfl | rfl | rfl
    · unfold pfQ Lib.itoa; rw [if_neg (by decide)]; show _ ++ Lib.decDigits 0 ++ _ = _; rw [Lib.decDigits, dif_pos (by decide)]; rfl
    · unfold pfQ Lib.itoa; rw [if_neg (by decide)]; show _ ++ Lib.decDigits 1 ++ _ = _; rw [Lib.decDigits, dif_pos (by decide)]; rfl
    · unfold pfQ Lib.itoa; rw [if_neg (by decide)]; show _ ++ Lib.decDigits 2 ++ _ = _; rw [Lib.decDigits, dif_pos (by decide)]; rfl
  rw [e]
  rcases (by omega : k = 0 ∨ k = 1 ∨ k = 2) with rfl | rfl | rfl <;> exact ⟨by decide, by decide, by decide⟩
theorem parS_ren {L : List UInt8} {k : Nat} (hk : k < 3) (h : (prR L).2.2 = 0) {s : ByteArray} (hs : s = ⟨(renT (pfQ k) k (pts (tgs (scR L).1)) (scR L).1).toArray⟩) (hz : s.size ≤ 65536) : parS s = (L, 0, 0) := by
  obtain ⟨h1, h2⟩ := prX_ok h
  have hf := sc_fit h1
  refine parS_back (ts := pts (tgs (scR L).1)) (l := (scR L).1) (pfQ_ok k hk) (exR k) (cd_of h1 h2 hf) ?_ hz
  rw [hs]
  have := renT_lines (pfQ_ok k hk) k (pts (tgs (scR L).1)) (scR L).1 0 (fun x hx => (hf x hx).op)
  simpa [renT] using this
theorem nil_eq (L : List UInt8) (h : L.length = 0) : L = [] := List.eq_nil_of_length_eq_zero h
theorem ap_q (k : Nat) : (⟨#[81, 95]⟩ : ByteArray) ++ (⟨(Lib.itoa (k : Int)).toArray⟩ : ByteArray) ++ (⟨#[120]⟩ : ByteArray) = ⟨(pfQ k).toArray⟩ := by
  have := ba_app [81, 95] (Lib.itoa (k : Int))
  unfold pfQ
  rw [← ba_app ([81, 95] ++ Lib.itoa (k : Int)) [120], ← this]
theorem tx_size (l : List UInt8) : (⟨l.toArray⟩ : ByteArray).size = l.length := by simp [ByteArray.size]
theorem mod3 (k : Int) : ∃ kk : Nat, kk < 3 ∧ wrap64 ((IntKind.u64.wrap k).tmod 3) = (kk : Int) := by
  have hb := bounds_u64 (wf_wrap .u64 k)
  generalize IntKind.u64.wrap k = m at hb
  have h0 : 0 ≤ m := hb.1
  refine ⟨(m % 3).toNat, by omega, ?_⟩
  rw [Int.tmod_eq_emod_of_nonneg h0]
  rcases (by omega : m % 3 = 0 ∨ m % 3 = 1 ∨ m % 3 = 2) with h | h | h <;> rw [h] <;> decide +kernel
set_option maxHeartbeats 4000000 in
theorem walkAsmNames {w : World} (hW : LdN w) (ao : Option Addr) (c : Nat) (l : List UInt8) (hl : BAt w ao l) (hn : ao = none → l = []) (hb : l.length ≤ 140737488351232) (hc : l.length ≤ c) (k : Int) (hk : (Lit.int .i64 k).wf = true) :
    Calls Tryd.prog 4 #[.slice ao l.length c, .int .i64 k] w fun e w' => e = .returned (.bool true) ∧ Below w.heap.size w w' := by
  have hkb := bounds_i64 hk
  have HL := hide hl
  have HW := hide hW
  have HG := hide hW.g
  obtain ⟨r, HR⟩ : ∃ r, Hid (prR l = r) := ⟨_, hide rfl⟩
  have HP1 := hide (refPrint_any ao c l w hl hW.a.p (by omega) hc)
  rw [unhide HR] at HP1
  obtain ⟨t, p, e⟩ := r
  clear hl hW hk
  go_enter Tryd.func4, Tryd.ntmps4
  go_wp2_with fail
  with_reducible refine (unhide HP1).mono ?_
  rintro e' w1 ⟨rfl, hb1⟩
  have HB1 := hide hb1
  have HL1 := hide ((unhide HL).below' hb1)
  have HW1 := hide ((unhide HW).below hb1)
  clear hb1 HL HW HP1
  by_cases he : e = 0
  · subst he
    go_upto_region 6 with fail
    obtain ⟨kk, hk3, HK⟩ := mod3 k
    rw [HK]
    have HKH := hide HK
    clear HK
    have hi : (Lib.itoa (kk : Int)).length ≤ 21 := itoa_len _ (by omega) (by omega)
    have hpl : (pfQ kk).length = 3 + (Lib.itoa (kk : Int)).length := by unfold pfQ; simp; omega
    obtain ⟨s1, s2⟩ := prX_ok (L := l) (by rw [unhide HR])
    have hcd := scR_back s1
    have HI := hide (Itoa_any (kk : Int) (by omega) (by omega) w1 (unhide HW1).a.p)
    have i1 : ¬ 9223372036854775807 < 2 + (Lib.itoa (kk : Int)).length := by omega
    have i2 : ¬ 9223372036854775807 < 2 + (Lib.itoa (kk : Int)).length + 1 := by omega
    have HRE := hide (fun (W : World) (h1 : BAt W ao l) (h2 : PwT W) => renamed_any ao c l (pfQ kk) kk W h1 h2 (by omega) hc (by omega) (by omega) s1 s2)
    obtain ⟨rt, HRT⟩ : ∃ rt, Hid (renT (pfQ kk) kk (pts (tgs (scR l).1)) (scR l).1 = rt) := ⟨_, hide rfl⟩
    rw [unhide HRT] at HRE
    have HRL : Hid (rt.length ≤ 10000000) := hide (by
      rw [← unhide HRT]
      have h1 := scR_len l
      have h2 := renT_len (pf := pfQ kk) (kk := kk) (ts := pts (tgs (scR l).1)) (by omega) _ (scR l).1 rfl h1 (sc_fit s1)
      omega)
    obtain ⟨S, HS⟩ : ∃ S : ByteArray, Hid ((⟨rt.toArray⟩ : ByteArray) = S) := ⟨_, hide rfl⟩
    have HSZ : Hid (S.size ≤ 10000000) := hide (by rw [← unhide HS, ← ba_size]; simpa using unhide HRL)
    have HPS : Hid (S.size ≤ 65536 → parS S = (l, 0, 0)) := hide (fun hz => parS_ren (k := kk) hk3 (by rw [unhide HR]) (by rw [unhide HRT]; exact (unhide HS).symm) hz)
    clear s1 s2 hcd hi hpl
    go_wp2_with fail
    refine (unhide HI).mono ?_
    rintro e' w2 ⟨rfl, hb2⟩
    have HB2 := hide ((unhide HB1).trans (hb2.mono (unhide HB1).size))
    have HL2 := hide ((unhide HL1).below' hb2)
    have HW2 := hide ((unhide HW1).below hb2)
    clear hb2 HI HB1 HL1 HW1
    have HRE2 := hide (unhide HRE w2 (unhide HL2) (unhide HW2).a.p)
    clear HRE
    go_wp2_with fail
    rw [ap_q]
    refine (unhide HRE2).mono ?_
    rintro e' w3 ⟨rfl, hb3⟩
    have HB3 := hide ((unhide HB2).trans (hb3.mono (unhide HB2).size))
    have HL3 := hide ((unhide HL2).below' hb3)
    have HW3 := hide ((unhide HW2).below hb3)
    have e1 : tx rt = .string S := by unfold tx; rw [unhide HS]
    rw [e1]
    clear e1 hb3 HRE2 HB2 HL2 HW2 HRT HS HRL i1 i2
    by_cases hz : 65536 < S.size
    · have j1 : (S.size : Int) > 65536 := by omega
      have hp : parS S = ([], 0, 4) := parS_long hz
      have HPA := hide (parse_as hp w3 (unhide HW3).a.w (unhide HW3).a.c (unhide HW3).r (unhide HW3).m (by have := (unhide HB3).size; have := unhide HG; omega) (by have := unhide HSZ; omega))
      clear hz hp
      go_wp2_with fail
      refine (unhide HPA).mono ?_
      rintro e' w4 ⟨bo, bc, rfl, hbc, hba, _, hb4⟩
      have HB4 := hide ((unhide HB3).trans (hb4.mono (unhide HB3).size))
      clear hba hb4 HPA HB3 HL3 HW3
      go_wp2
      go_ret
      exact ⟨ret_bool (by simp), unhide HB4⟩
    · have j1 : ¬ (S.size : Int) > 65536 := by omega
      have hp : parS S = (l, 0, 0) := unhide HPS (by omega)
      have HPA := hide (parse_as hp w3 (unhide HW3).a.w (unhide HW3).a.c (unhide HW3).r (unhide HW3).m (by have := (unhide HB3).size; have := unhide HG; omega) (by omega))
      clear hz hp
      go_wp2_with fail
      refine (unhide HPA).mono ?_
      rintro e' w4 ⟨bo, bc, rfl, hbc, hba, _, hb4⟩
      have HB4 := hide ((unhide HB3).trans (hb4.mono (unhide HB3).size))
      have HE := hide (Equal_any bo ao bc c l l w4 hba ((unhide HL3).below' hb4) (by unfold maxLen; omega) (by unfold maxLen; omega))
      clear hba hb4 HPA HB3 HL3 HW3
      go_wp2_with (go_at_call 10; refine (unhide HE).mono ?_; rintro e w7 ⟨rfl, k, rfl⟩)
      go_ret
      exact ⟨ret_bool (by simp), belowD (unhide HB4) _⟩
  · have t0 : (e != 0) = true := bne_t he
    have HPA := hide (parse_as parS_nop w1 (unhide HW1).a.w (unhide HW1).a.c (unhide HW1).r (unhide HW1).m (by have := (unhide HB1).size; have := unhide HG; omega) (by decide))
    clear he
    go_wp2_with fail
    refine (unhide HPA).mono ?_
    rintro e' w2 ⟨bo, bc, rfl, hbc, hba, _, hb2⟩
    have al : Below w2.heap.size w2 (w2.alloc (.cells #[.int .u8 0] 5)) := (Below.refl _ _).alloc (Nat.le_refl _) _
    have hn1 : BAt (w2.alloc (.cells #[.int .u8 0] 5)) (some ⟨w2.heap.size, 0, none⟩) [0] := fun i hi => by
      obtain rfl : i = 0 := by simp at hi; omega
      exact ⟨_, _, rfl, (cell_of_row _ _ _ _ _ _ (heap_alloc_new w2 _)).trans rfl⟩
    have HE := hide (Equal_any bo (some ⟨w2.heap.size, 0, none⟩) bc 1 [0] [0] _ (hba.below' al) hn1 (by decide) (by decide))
    have HB2 := hide (((unhide HB1).trans (hb2.mono (unhide HB1).size)).trans (al.mono (Nat.le_trans (unhide HB1).size hb2.size)))
    clear hba hb2 HPA HB1 HL1 HW1 al hn1
    go_wp2_with (go_at_call 10; refine (unhide HE).mono ?_; rintro e w7 ⟨rfl, k, rfl⟩)
    go_ret
    exact ⟨ret_bool (by decide), belowD (unhide HB2) _⟩
end Go.Proofs.YthdgbdjagjagpaaDoor
