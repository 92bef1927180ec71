/-
  The walk of the law FlowInside: it returns true for all bytes, and writes nothing that was there.
-/
import Derived.Test.YtlanmcmhgohooaaDoorCn1
namespace Go.Proofs.YtlanmcmhgohooaaDoor
open Go.RowKit
set_option maxRecDepth 20000

theorem OwnB.sl {w : World} {base : Nat} {v : Value} {l : List UInt8} (h : OwnB w base v l) : ∃ ba bc, v = .slice ba l.length bc ∧ BAt w ba l ∧ l.length ≤ bc := by
  rcases h.shape with ⟨h1, h2⟩ | ⟨g', cap', h1, _, _, h4, _, h6⟩
  · subst h2; exact ⟨none, 0, h1, fun i h => absurd h (by simp), by simp⟩
  · exact ⟨_, cap', h1, h6, h4⟩
theorem ck_parts {L : List UInt8} (h : (ckR L).2 = 0) : (scR L).2.2 = 0 ∧ (ckL (scR L).1).2 = 0 ∧ Chn L.length 0 (scR L).1 := by
  unfold ckR at h
  by_cases he : (scR L).2.2 = 0
  · rw [if_pos he] at h
    refine ⟨he, h, ?_⟩
    unfold scR at he ⊢
    by_cases h4 : 4096 < L.length
    · rw [if_pos h4] at he; simp at he
    · rw [if_neg h4] at he ⊢
      by_cases h5 : (scD L (L.length + 1) 0).2.2 = 0
      · rw [if_pos h5]; exact sc_chn L _ _ h5 (Nat.zero_le _) (by omega)
      · rw [if_neg h5] at he; exact absurd he h5
  · rw [if_neg he] at h
    exact absurd h he

set_option maxRecDepth 20000 in
set_option maxHeartbeats 4000000 in
theorem walkFlowInside {w : World} (hW : WidAt w) (ao : Option Addr) (c : Nat) (L : List UInt8) (hl : BAt w ao L) (hn : ao = none → L = []) (hb : L.length ≤ 140737488351232) (hc : L.length ≤ c) :
    Calls Tryd.prog 7 #[.slice ao L.length c] w fun e w' => e = .returned (.bool true) ∧ Below w.heap.size w w' := by
  have HL := hide hl
  have HW := hide hW
  have HC := hide (refCheck_any ao c L w hl (by omega) hc)
  have HCl := hide (fun W h => Clone_any ao c L W h hn (by omega))
  clear hl hW
  go_enter Tryd.func7, Tryd.ntmps7
  go_wp2_with fail
  with_reducible refine (unhide HC).mono ?_
  rintro e w1 ⟨rfl, hB1⟩
  have HL1 := hide ((unhide HL).below' hB1)
  have HW1 := hide ((unhide HW).below hB1)
  have HB1 := hide hB1
  clear hB1 HL HW HC
  by_cases hk : (ckR L).2 = 0
  · have HK := hide hk
    rw [hk]
    clear hk
    go_wp2_with fail
    with_reducible refine (unhide HCl w1 (unhide HL1)).mono ?_
    rintro e w2 ⟨v, rfl, hO, hB2, _⟩
    obtain ⟨ba, bc, rfl, hba, hbc⟩ := hO.sl
    have HB2 := hide ((unhide HB1).trans (hB2.mono (unhide HB1).size))
    have HS := hide (Scan_any ba bc L w2 hba ((unhide HW1).below hB2) (by omega) hbc)
    have HW2 := hide ((unhide HW1).below hB2)
    clear hO hB2 hba HCl HB1 HL1 HW1
    obtain ⟨h0, hck, hch⟩ := ck_parts (unhide HK)
    have hlen := scR_len L
    have hbd := scR_bd L
    generalize ckR L = C at HK
    generalize scR L = R at HS h0 hck hch hlen hbd
    obtain ⟨l, p, er⟩ := R
    simp only [] at HS h0 hck hch hlen hbd
    subst h0
    have HCK := hide hck
    have HCH := hide hch
    obtain ⟨_, xl, hxl, _⟩ := ckL_ok hck
    have hl1 : 1 ≤ l.length := by cases l with
      | nil => cases hxl
      | cons _ _ => simp
    clear hxl hck hch
    go_wp2_with fail
    with_reducible refine (unhide HS).mono ?_
    rintro e w3 ⟨v, rfl, hO, hK3, hB3⟩
    obtain ⟨oa, oc, rfl, hX⟩ := hO.at (fun f hf => by have := (hK3 f hf).1; omega)
    have HX := hide hX
    have HW3 := hide ((unhide HW2).below hB3)
    have HB3 := hide ((unhide HB2).trans (hB3.mono (unhide HB2).size))
    have HRc := hide (Reach_any oa oc l 0 w3 hX (unhide HW3) (by omega) (fun x hx => by have := (hK3 x hx).2; omega) hbd (by omega))
    clear hO hK3 hX hB3 HS HW2 HB2 hbd
    have hl0 : (((l.length : Nat) : Int) == 0) = false := beq_eq_false_iff_ne.2 (by omega)
    go_wp2_with fail
    with_reducible refine (unhide HRc).mono ?_
    rintro e w4 ⟨v, js, rfl, hO, hA, hm, hjl, hB4⟩
    obtain ⟨jt, hjt⟩ := asc_zero (unhide HCH) hA hm (rch_zero (unhide HCH) (unhide HCK))
    have hj1 : 1 ≤ js.length := by rw [hjt]; simp
    obtain ⟨ja, jc, rfl, hja, _⟩ := hO.at
    obtain ⟨jb, jo, rfl, hj0⟩ := hja 0 0 (by rw [hjt]; rfl)
    rw [Nat.add_zero] at hj0
    have HM := hide hm
    have HX4 := hide ((unhide HX).below hB4)
    have HJ4 := hide hja
    have HW4 := hide ((unhide HW3).below hB4)
    have HB4 := hide ((unhide HB3).trans (hB4.mono (unhide HB3).size))
    have hjl0 : (((js.length : Nat) : Int) == 0) = false := beq_eq_false_iff_ne.2 (by omega)
    have hjz : (0 : Int) < ((js.length : Nat) : Int) := by omega
    clear hO hA hm hja hjt hB4 HRc HX HW3 HB3
    go_wp2_with fail
    clear hj0
    go_loopw [55] (fun i wr => ∃ k : Nat, k ≤ l.length ∧ i = .int .i64 (k : Int) ∧ Hid (Below w4.heap.size w4 wr)) (fun i _ => l.length - (intOf i).toNat)
    case atStart => exact ⟨0, by omega, rfl, hide (Below.refl _ _)⟩
    case round =>
      obtain ⟨k, hk, rfl, HB0⟩ := hrel
      by_cases hkl : k < l.length
      · have j1 : ((k : Nat) : Int) < ((l.length : Nat) : Int) := by omega
        have hx := List.getElem?_eq_getElem hkl
        generalize l[k] = x at hx
        obtain ⟨b, off, rfl, hcx⟩ := ((unhide HX4).below (unhide HB0)) k x hx
        obtain ⟨c0, c1, c2, c3, ho⟩ := hcx
        have hal : Below wr.heap.size wr (wr.alloc (.cells #[.int .i64 x.p, .int .u8 (x.op : Int), .int .i64 x.a, .int .i64 x.b] 31)) := (Below.refl _ _).alloc (Nat.le_refl _) _
        have I1 : Hid (IAt (wr.alloc (.cells #[.int .i64 x.p, .int .u8 (x.op : Int), .int .i64 x.a, .int .i64 x.b] 31)) wr.heap.size x.p x.op x.a x.b) := hide (heap_alloc_new wr _)
        have HBa := hide ((unhide HB0).trans (hal.mono (unhide HB0).size))
        have HXM := hide (List.mem_of_getElem? hx)
        clear hx hal
        go_upto_region 14 with fail
        generalize (wr.alloc (.cells #[.int .i64 x.p, .int .u8 (x.op : Int), .int .i64 x.a, .int .i64 x.b] 31)) = w5 at I1 HBa ⊢
        generalize wr.heap.size = gi at I1 ⊢
        clear c0 c1 c2 c3 HB0
        have d0 := (unhide I1).c0
        have HCo := hide (ContainsJ_any (some ⟨jb, jo, none⟩) jc js x.p w5 ((unhide HJ4).below (unhide HBa)) (by omega))
        by_cases hin : x.p ∈ js
        · rw [decide_eq_true hin] at HCo
          have HNx := hide (Next_any x.p x.op x.a x.b w5 ((unhide HW4).below (unhide HBa)) ho)
          have HIn : Hid (∀ y ∈ nextD x.p x.op x.a, y ∈ js) := hide (fun y hy => (unhide HM y).2 (rch_on (unhide HCH) (unhide HCK) (unhide HXM) ((unhide HM x.p).1 hin) hy))
          have hnl := nextD_len x.p x.op x.a
          clear hin
          go_upto_region 15 with (go_at_call 27; refine (unhide HCo).mono ?_; rintro e w5' ⟨rfl, hw5⟩; rw [hw5]; clear hw5 w5')
          go_wp2_with (refine wpList_load_row rfl 31 (.tmp 10) rfl gi rfl 31 #[.int .i64 x.p, .int .u8 (x.op : Int), .int .i64 x.a, .int .i64 x.b] (0, 0) _ (unhide I1) Tryd.underlying31 rfl (by kernel_rfl) ?_)
          with_reducible refine (unhide HNx).mono ?_
          rintro e w6 ⟨v6, rfl, hO6, hB6⟩
          obtain ⟨na, nc, rfl, hna, _⟩ := hO6.at
          have HN6 := hide hna
          have HB6 := hide ((unhide HBa).trans (hB6.mono (unhide HBa).size))
          clear hO6 hna hB6 HNx HCo I1 HBa d0
          generalize nextD x.p x.op x.a = ns at HIn hnl HN6 ⊢
          go_wp2_with fail
          go_loopw [67] (fun j wr => ∃ m : Nat, m ≤ ns.length ∧ j = .int .i64 (m : Int) ∧ Hid (Below w6.heap.size w6 wr)) (fun j _ => ns.length - (intOf j).toNat)
          case atStart => exact ⟨0, by omega, rfl, hide (Below.refl _ _)⟩
          case round =>
            obtain ⟨m, hm, rfl, HBi⟩ := hrel
            by_cases hml : m < ns.length
            · have j2 : ((m : Nat) : Int) < ((ns.length : Nat) : Int) := by omega
              have hy := List.getElem?_eq_getElem hml
              generalize ns[m] = y at hy
              obtain ⟨nb, no, rfl, hyc⟩ := ((unhide HN6).below (unhide HBi)) m y hy
              have hyj := unhide HIn y (List.mem_of_getElem? hy)
              have HBt := hide ((unhide HB6).trans ((unhide HBi).mono (unhide HB6).size))
              have HCo := hide (ContainsJ_any (some ⟨jb, jo, none⟩) jc js y wr ((unhide HJ4).below (unhide HBt)) (by omega))
              rw [decide_eq_true hyj] at HCo
              clear hy hyj
              go_wp2_with (go_at_call 27; refine (unhide HCo).mono ?_; rintro e w7 ⟨rfl, hw7⟩; rw [hw7]; clear hw7 w7)
              go_roundw
              case rel => exact ⟨m + 1, by omega, by go_num, HBi⟩
              case measure => simp [intOf]; omega
            · obtain rfl : m = ns.length := by omega
              go_wp2
              go_roundw
              case rel => exact ⟨k + 1, by omega, by go_num, hide ((unhide HB6).trans ((unhide HBi).mono (unhide HB6).size))⟩
              case measure => simp [intOf]; omega
        · rw [decide_eq_false hin] at HCo
          clear hin
          go_wp2_with (go_at_call 27; refine (unhide HCo).mono ?_; rintro e w5' ⟨rfl, hw5⟩; rw [hw5]; clear hw5 w5')
          go_roundw
          case rel => exact ⟨k + 1, by omega, by go_num, HBa⟩
          case measure => simp [intOf]; omega
      · go_wp2
        go_ret
        exact ⟨ret_bool (by simp), (unhide HB4).trans ((unhide HB0).mono (unhide HB4).size)⟩
  · have hk' : ((ckR L).2 != 0) = true := bne_iff_ne.2 hk
    clear hk
    go_wp2_with fail
    with_reducible refine (unhide HCl w1 (unhide HL1)).mono ?_
    rintro e w2 ⟨v, rfl, hO, hB2, _⟩
    obtain ⟨ba, bc, rfl, hba, hbc⟩ := hO.sl
    have HB2 := hide ((unhide HB1).trans (hB2.mono (unhide HB1).size))
    have HC2 := hide (Check_any ba bc L w2 hba ((unhide HW1).below hB2) (by omega) hbc)
    clear hO hB2 hba HCl HB1 HL1 HW1
    go_wp2_with fail
    with_reducible refine (unhide HC2).mono ?_
    rintro e w3 ⟨rfl, hB3⟩
    go_wp2_with fail
    go_ret
    exact ⟨ret_bool (by simp), (unhide HB2).trans (hB3.mono (unhide HB2).size)⟩
end Go.Proofs.YtlanmcmhgohooaaDoor
