/-
  asm.Print: the text of code, or the fault. Conditions: lengths fit, the tables are laid.
-/
import Derived.Test.YthdgbdjagjagpaaDoorAs4
import Derived.Deep.DeepCutAuto
namespace Go.Proofs.YthdgbdjagjagpaaDoor
open Go.RowKit
set_option maxRecDepth 20000
set_option linter.unusedVariables false
set_option linter.unusedSimpArgs false

/-- What Print tells: the text, the place and the error. -/
def prR (L : List UInt8) : List UInt8 × Int × Int := if (ckR L).2 ≠ 0 ∧ (ckR L).2 ≠ 51 then ([], ckR L) else (txtT (pts (tgs (scR L).1)) (scR L).1, 0, 0)
theorem ck_sc {L : List UInt8} (h : ¬ ((ckR L).2 ≠ 0 ∧ (ckR L).2 ≠ 51)) : (scR L).2.2 = 0 := by
  unfold ckR at h
  by_cases h0 : (scR L).2.2 = 0
  · exact h0
  · rw [if_neg h0] at h
    have h1 : (scR L).2.2 = 51 := by
      by_cases h1 : (scR L).2.2 = 51
      · exact h1
      · exact absurd ⟨h0, h1⟩ h
    exfalso
    unfold scR at h1
    split at h1
    · have h1 : (4 : Int) = 51 := h1
      omega
    · split at h1
      · have h1 : (0 : Int) = 51 := h1
        omega
      · exact sc_51 L _ _ h1
theorem keep_i {w w' : World} {b gi : Nat} {p a c : Int} {op : Nat} (h : IAt w gi p op a c) (hk : Lib.OthersKept 5 (some b) w w') (hb : gi ≠ b) : IAt w' gi p op a c :=
  hk gi _ h (fun e => hb (by injection e)) (fun cs fz e => by injection e with _ e; exact absurd e (by decide))
theorem WriteString_s (b : Nat) (l m : List UInt8) (s : ByteArray) (w : World) (h : BdA w b l) (hb : b < w.heap.size) (hl : l.length + m.length ≤ 140737488355328) (hs : s = ⟨m.toArray⟩) :
    Calls Tryd.prog 18 #[.pointer (some ⟨b, 0, none⟩), .string s] w fun e w' => (∃ v, e = .returned v) ∧ BdA w' b (l ++ m) ∧ Below b w w' ∧ Lib.OthersKept 5 (some b) w w' := by
  subst hs
  exact WriteString_any b l m w h hb hl
set_option maxHeartbeats 8000000 in
theorem asmPrint_any (ao : Option Addr) (c : Nat) (L : List UInt8) (w : World) (hb : BAt w ao L) (hW : WidAt w) (hC : WordsC w) (hP : PwT w) (hl : L.length ≤ 140737488355328) (hc : L.length ≤ c) :
    Calls Tryd.prog 6 #[.slice ao L.length c] w fun e w' => e = .returned (.tuple #[tx (prR L).1, .int .i64 (prR L).2.1, .int .i64 (prR L).2.2]) ∧ Below w.heap.size w w' := by
  have HCK := hide (Check_any ao c L w hb hW hl hc)
  have HL := hide hb
  have HW := hide hW
  have HC := hide hC
  have HP := hide hP
  unfold prR
  by_cases hbad : (ckR L).2 ≠ 0 ∧ (ckR L).2 ≠ 51
  · rw [if_pos hbad]
    have t0 : ((ckR L).2 != 0) = true := bne_t hbad.1
    have t1 : ((ckR L).2 != 51) = true := bne_t hbad.2
    generalize ckR L = ck at HCK t0 t1 ⊢
    clear hb hW hC hP hbad
    go_enter Tryd.func6, Tryd.ntmps6
    go_wp2_with fail
    refine (unhide HCK).mono ?_
    rintro e W ⟨rfl, hB⟩
    have HB := hide hB
    clear hB HCK
    go_wp2
    go_ret3
    exact ⟨rfl, unhide HB⟩
  rw [if_neg hbad]
  have hsc := ck_sc hbad
  have hq : ((ckR L).2 == 0) = true ∨ ((ckR L).2 == 0) = false ∧ ((ckR L).2 == 51) = true := by
    by_cases h0 : (ckR L).2 = 0
    · exact Or.inl (beq_t h0)
    · refine Or.inr ⟨beq_f h0, beq_t ?_⟩
      by_cases h1 : (ckR L).2 = 51
      · exact h1
      · exact absurd ⟨h0, h1⟩ hbad
  have HSC := hide (fun W (h : Below w.heap.size w W) => Scan_any ao c L W (hb.below' h) (hW.below h) hl hc)
  have HLEN := hide (scR_len L)
  have HFIT := hide (fun h => fit_of (L := L) h)
  generalize ckR L = ck at HCK hq hbad
  generalize scR L = R at HSC HLEN HFIT hsc ⊢
  obtain ⟨l, pl, el⟩ := R
  replace HSC : Hid (∀ W, Below w.heap.size w W → Calls Tryd.prog 15 #[.slice ao L.length c] W fun e w' => ∃ v, e = .returned (.tuple #[v, .int .i64 (pl : Int), .int .i64 el]) ∧ OwnX w' W.heap.size v l ∧ xok l ∧ Below W.heap.size W w') := HSC
  replace HLEN : Hid (l.length ≤ 4097) := HLEN
  replace HFIT : Hid (xok l → ∀ x ∈ l, FitX x) := HFIT
  show Calls _ _ _ _ (fun e w' => e = .returned (.tuple #[tx (txtT (pts (tgs l)) l), .int .i64 0, .int .i64 0]) ∧ Below w.heap.size w w')
  obtain ⟨ts, HTE⟩ : ∃ ts, Hid (pts (tgs l) = ts) := ⟨_, hide rfl⟩
  rw [unhide HTE]
  clear hb hW hC hP hsc hbad
  go_enter Tryd.func6, Tryd.ntmps6
  go_wp2_with fail
  refine (unhide HCK).mono ?_
  rintro e W1 ⟨rfl, hB⟩
  have HB1 := hide hB
  have HS1 := hide (unhide HSC W1 hB)
  clear hB HCK HSC
  go_upto_region 2 with fail
  go_cut [26] (fun cc wx => cc = .bool false ∧ Hid (wx = W1))
  case first =>
    obtain ⟨c1, c2⟩ := ck
    rcases hq with hq | ⟨hq, hq2⟩
    · have t0 : (c2 != 0) = false := bne_f (by simpa using hq)
      clear hq
      go_wp2
      go_meet
      exact ⟨rfl, hide rfl⟩
    · have t0 : (c2 != 0) = true := bne_t (by simpa using hq)
      have t1 : (c2 != 51) = false := bne_f (by simpa using hq2)
      clear hq hq2
      go_wp2
      go_meet
      exact ⟨rfl, hide rfl⟩
  case rest =>
  obtain ⟨rfl, HWX⟩ := hcut
  rw [unhide HWX]
  clear HWX hq
  go_wp2_with fail
  refine (unhide HS1).mono ?_
  rintro e W2 ⟨v, rfl, hO, hK, hB⟩
  have HF := hide (unhide HFIT hK)
  have HB2 := hide ((unhide HB1).trans (hB.mono (unhide HB1).size))
  obtain ⟨av, cv, rfl, hX⟩ := hO.at (fun f hf => by have := (hK f hf).1; omega)
  have HX := hide hX
  have HT := hide (Targets_any av cv l W2 hX (by have := unhide HLEN; omega) (fun x hx => ⟨(unhide HF x hx).a0, (unhide HF x hx).a1⟩))
  clear hO hK hB hX HS1 HB1
  go_wp2_with fail
  refine (unhide HT).mono ?_
  rintro e W3 ⟨vt, rfl, hJ, hB3⟩
  have HX3 := hide ((unhide HX).below hB3)
  have HJ3 := hide hJ
  have HB3 := hide ((unhide HB2).trans (hB3.mono (unhide HB2).size))
  have hts : (pts (tgs l)).length ≤ 4097 := by
    have h1 := pts_len (tgs l)
    have h2 := tgs_len l
    have h3 := unhide HLEN
    omega
  have HASC : Hid (AscJ (pts (tgs l))) := hide (pts_both (tgs l) [] List.Pairwise.nil).1
  have HTS := hide hts
  rw [unhide HTE] at HJ3 HASC HTS
  clear HTE
  have HLL := hide (unhide HLEN)
  have HBD := hide (BdA.new W3)
  have HBL : Hid (Below W3.heap.size W3 (W3.alloc (.cells #[.pointer none, .slice none 0 0] 46))) := hide ((Below.refl _ _).alloc (Nat.le_refl _) _)
  have HLT : Hid (W3.heap.size < (W3.alloc (.cells #[.pointer none, .slice none 0 0] 46)).heap.size) := hide (by simp)
  clear hJ hB3 hts HT HX HB2 HLEN
  have HWB := hide (fun W (h : Below W3.heap.size W3 W) => (⟨(unhide HW).below ((unhide HB3).trans (h.mono (unhide HB3).size)), (unhide HC).below ((unhide HB3).trans (h.mono (unhide HB3).size)), (unhide HP).below ((unhide HB3).trans (h.mono (unhide HB3).size))⟩ : WidAt W ∧ WordsC W ∧ PwT W))
  clear HW HC HP HL
  go_upto_region 7 with fail
  generalize (W3.alloc (.cells #[.pointer none, .slice none 0 0] 46)) = W4 at HBD HBL HLT ⊢
  go_wp2_with fail
  go_loopw [39] (fun i wr => ∃ k : Nat, k ≤ l.length ∧ i = .int .i64 (k : Int) ∧ Hid (BdA wr W3.heap.size (txtT ts (l.take k))) ∧ Hid (Below W3.heap.size W3 wr) ∧ Hid (W3.heap.size < wr.heap.size)) (fun i _ => l.length - (intOf i).toNat)
  case atStart => exact ⟨0, by omega, rfl, HBD, HBL, HLT⟩
  case round =>
    clear HBD HBL HLT
    obtain ⟨k, hk, rfl, HBD, HBL, HLT⟩ := hrel
    by_cases hkl : k < l.length
    · have j1 : ((k : Nat) : Int) < ((l.length : Nat) : Int) := by omega
      have hx := List.getElem?_eq_getElem hkl
      generalize l[k] = x at hx
      have HFX := hide (unhide HF x (List.mem_of_getElem? hx))
      have HT : Hid (txtT ts (l.take (k + 1)) = txtT ts (l.take k) ++ stepT ts x) := hide (by rw [take_snoc hx, txt_snoc])
      have HTL : Hid ((txtT ts (l.take k)).length ≤ 409700) := hide (by
        have h1 := txt_len (ts := ts) (l := l.take k) (fun y hy => unhide HF y (List.mem_of_mem_take hy))
        have h2 := unhide HLL
        rw [List.length_take] at h1
        omega)
      obtain ⟨b', off, rfl, hc⟩ := ((unhide HX3).below (unhide HBL)) k x hx
      obtain ⟨c0, c1, c2, c3, ho⟩ := hc
      have hal : Below wr.heap.size wr (wr.alloc (.cells #[.int .i64 x.p, .int .u8 (x.op : Int), .int .i64 x.a, .int .i64 x.b] 48)) := (Below.refl _ _).alloc (Nat.le_refl _) _
      have I1 : Hid (IAt (wr.alloc (.cells #[.int .i64 x.p, .int .u8 (x.op : Int), .int .i64 x.a, .int .i64 x.b] 48)) wr.heap.size x.p x.op x.a x.b) := hide (heap_alloc_new wr _)
      have HBD1 := hide ((unhide HBD).belowA (unhide HLT) hal)
      have HBL1 := hide ((unhide HBL).trans (hal.mono (unhide HBL).size))
      have HLT1 := hide (Nat.lt_of_lt_of_le (unhide HLT) hal.size)
      have HNE : Hid (wr.heap.size ≠ W3.heap.size) := hide (by have := unhide HLT; omega)
      clear hx hal
      go_upto_region 10 with fail
      generalize (wr.alloc (.cells #[.int .i64 x.p, .int .u8 (x.op : Int), .int .i64 x.a, .int .i64 x.b] 48)) = w1 at I1 HBD1 HBL1 HLT1 ⊢
      generalize wr.heap.size = gi at I1 HNE ⊢
      clear c0 c1 c2 c3 HBD HBL HLT
      have d0 := (unhide I1).c0
      have HSE := hide (search_anyA vt ts x.p _ w1 ((unhide HJ3).below (unhide HBL1)) (unhide HASC) (by have := unhide HTS; omega))
      go_wp2_with fail
      refine (unhide HSE).mono ?_
      rintro e w2 ⟨⟨n, rfl⟩, hb2⟩
      have I2 := hide ((unhide I1).below hb2)
      have HBD2 := hide ((unhide HBD1).belowA (unhide HLT1) hb2)
      have HBL2 := hide ((unhide HBL1).trans (hb2.mono (unhide HBL1).size))
      have HLT2 := hide (Nat.lt_of_lt_of_le (unhide HLT1) hb2.size)
      clear hb2 HSE I1 HBD1 HBL1 HLT1 d0
      obtain ⟨q, HQ⟩ : ∃ q, Hid (decide (x.p ∈ ts) = q) := ⟨_, hide rfl⟩
      rw [unhide HQ]
      go_upto_if 50 with fail
      go_cut [] (fun wx => Hid (BdA wx W3.heap.size (txtT ts (l.take k) ++ (if x.p ∈ ts then labT x.p else []))) ∧ Hid (Below W3.heap.size W3 wx) ∧ Hid (W3.heap.size < wx.heap.size) ∧ Hid (IAt wx gi x.p x.op x.a x.b))
      case first =>
        cases q with
        | true =>
          have hm : x.p ∈ ts := of_decide_eq_true (unhide HQ)
          have HM : Hid ((if x.p ∈ ts then labT x.p else []) = labT x.p) := hide (if_pos hm)
          clear hm HQ
          have d0 := (unhide I2).c0
          have HLB := hide (label_any x.p (by have := (unhide HFX).p0; omega) (by have := (unhide HFX).p1; omega) w2 (unhide HWB _ (unhide HBL2)).2.2)
          go_wp2_with fail
          refine (unhide HLB).mono ?_
          rintro e w3 ⟨rfl, hb3⟩
          have I3 := hide ((unhide I2).below hb3)
          have HBD3 := hide ((unhide HBD2).belowA (unhide HLT2) hb3)
          have HBL3 := hide ((unhide HBL2).trans (hb3.mono (unhide HBL2).size))
          have HLT3 := hide (Nat.lt_of_lt_of_le (unhide HLT2) hb3.size)
          have hln : (labL x.p).length ≤ 28 := by
            have := lab_len (unhide HFX)
            unfold labT at this
            rw [List.length_append] at this
            simp at this
            omega
          have hln2 : ¬ 9223372036854775807 < (labL x.p).length + 2 := by omega
          have HSL : Hid ((txtT ts (l.take k)).length + (labT x.p).length ≤ 140737488355328) := hide (by
            have h1 := lab_len (unhide HFX)
            have h2 := unhide HTL
            omega)
          have HWS := hide (fun s (hs : s = ⟨(labT x.p).toArray⟩) => WriteString_s _ _ (labT x.p) s w3 (unhide HBD3) (unhide HLT3) (unhide HSL) hs)
          clear hb3 HLB I2 HBD2 HBL2 HLT2 d0 hln
          go_wp2_with fail
          refine (unhide HWS _ (ba_app _ _)).mono ?_
          rintro e w4 ⟨⟨v4, rfl⟩, hd4, hb4, hk4⟩
          have I4 := hide (keep_i (unhide I3) hk4 (unhide HNE))
          have HBL4 := hide ((unhide HBL3).trans hb4)
          have HBD4 : Hid (BdA w4 W3.heap.size (txtT ts (l.take k) ++ (if x.p ∈ ts then labT x.p else []))) := hide (by rw [unhide HM]; exact hd4)
          have HLT4 := hide (Nat.lt_of_lt_of_le (unhide HLT3) hb4.size)
          clear hd4 hb4 hk4 HWS HSL HM
          go_wp2_with fail
          go_meet
          exact ⟨HBD4, HBL4, HLT4, I4⟩
        | false =>
          have hm : x.p ∉ ts := of_decide_eq_false (unhide HQ)
          have HBD4 : Hid (BdA w2 W3.heap.size (txtT ts (l.take k) ++ (if x.p ∈ ts then labT x.p else []))) := hide (by rw [if_neg hm, List.append_nil]; exact unhide HBD2)
          clear hm HQ
          go_wp2_with fail
          go_meet
          exact ⟨HBD4, HBL2, HLT2, I2⟩
      case rest =>
      clear HBD2 HBL2 HLT2 I2 HQ
      obtain ⟨HBD2, HBL2, HLT2, I2⟩ := hcut
      have HSL : Hid ((txtT ts (l.take k) ++ (if x.p ∈ ts then labT x.p else [])).length ≤ 409800) := hide (by
        have h1 := lab_len (unhide HFX)
        have h2 := unhide HTL
        rw [List.length_append]
        split
        · omega
        · simp; omega)
      have HST : Hid (txtT ts (l.take (k + 1)) = (txtT ts (l.take k) ++ (if x.p ∈ ts then labT x.p else [])) ++ lineT x) := hide (by rw [unhide HT, stepT, List.append_assoc])
      obtain ⟨pre, HPRE⟩ : ∃ pre, Hid ((txtT ts (l.take k) ++ (if x.p ∈ ts then labT x.p else [])) = pre) := ⟨_, hide rfl⟩
      rw [unhide HPRE] at HBD2 HSL HST
      clear HPRE HT HTL
      have HIN := hide (instruction_any x.p x.op x.a x.b wc ho (unhide HFX).a0 (unhide HFX).a1 (by have := (unhide HFX).b0; omega) (by have := (unhide HFX).b1; omega) (unhide HWB _ (unhide HBL2)).1 (unhide HWB _ (unhide HBL2)).2.1 (unhide HWB _ (unhide HBL2)).2.2)
      have d0 := (unhide I2).c0
      obtain ⟨d1, d2, d3⟩ := (unhide I2).c
      go_wp2_with fail
      refine (unhide HIN).mono ?_
      rintro e w5 ⟨vi, rfl, ho5, hb5⟩
      have HBD5 := hide ((unhide HBD2).belowA (unhide HLT2) hb5)
      have HBL5 := hide ((unhide HBL2).trans (hb5.mono (unhide HBL2).size))
      have HLT5 := hide (Nat.lt_of_lt_of_le (unhide HLT2) hb5.size)
      have hln : (insT x.op x.a x.b).length ≤ 67 := by
        have := line_len (unhide HFX)
        unfold lineT at this
        simp at this
        omega
      have HJO := hide (join_any vi x.op x.a x.b _ w5 ho5 (by omega))
      clear ho5 hb5 HIN HBD2 HBL2 HLT2 I2 d0 d1 d2 d3
      go_wp2_with fail
      refine (unhide HJO).mono ?_
      rintro e w6 ⟨rfl, hb6⟩
      have HBD6 := hide ((unhide HBD5).belowA (unhide HLT5) hb6)
      have HBL6 := hide ((unhide HBL5).trans (hb6.mono (unhide HBL5).size))
      have HLT6 := hide (Nat.lt_of_lt_of_le (unhide HLT5) hb6.size)
      have hl1 : ¬ 9223372036854775807 < 2 + (insT x.op x.a x.b).length := by omega
      have hl2 : ¬ 9223372036854775807 < 2 + (insT x.op x.a x.b).length + 1 := by omega
      have HWL : Hid (pre.length + (lineT x).length ≤ 140737488355328) := hide (by
        have h1 := line_len (unhide HFX)
        have h2 := unhide HSL
        omega)
      have HWS := hide (fun s (hs : s = ⟨(lineT x).toArray⟩) => WriteString_s _ pre (lineT x) s w6 (unhide HBD6) (unhide HLT6) (unhide HWL) hs)
      clear hb6 HJO HBD5 HBL5 HLT5 hln
      go_wp2_with fail
      refine (unhide HWS _ (by rw [ba_app, ba_app]; rfl)).mono ?_
      rintro e w7 ⟨⟨v7, rfl⟩, hd7, hb7, hk7⟩
      have HBD7 : Hid (BdA w7 W3.heap.size (txtT ts (l.take (k + 1)))) := hide (by rw [unhide HST]; exact hd7)
      have HBL7 := hide ((unhide HBL6).trans hb7)
      have HLT7 := hide (Nat.lt_of_lt_of_le (unhide HLT6) hb7.size)
      clear hd7 hb7 hk7 HWS HWL hl1 hl2 HST HSL HBD6 HBL6 HLT6
      have hlen := unhide HLL
      go_wp2_with fail
      go_roundw
      case rel => exact ⟨k + 1, by omega, by go_num, HBD7, HBL7, HLT7⟩
      case measure => simp [intOf]; omega
    · obtain rfl : k = l.length := by omega
      rw [List.take_length] at HBD
      have HS := hide (BString_any _ _ _ (unhide HBD) (unhide HLT))
      go_wp2_with fail
      refine (unhide HS).mono ?_
      rintro e w5 ⟨rfl, hb5⟩
      have HE := hide ((unhide HB3).trans (((unhide HBL).trans hb5).mono (unhide HB3).size))
      clear hb5 HS HBD HBL HLT
      go_wp2
      go_ret3
      exact ⟨rfl, unhide HE⟩
end Go.Proofs.YthdgbdjagjagpaaDoor
