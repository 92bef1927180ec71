/-
  The walk of the law FlowParts: it returns true for all bytes, and writes nothing that was there.
-/
import Derived.Test.YtdpfinnclnapbaaDoorFp1
import Derived.Test.YtdpfinnclnapbaaDoorBk5
import Derived.OpenShut
namespace Go.Proofs.YtdpfinnclnapbaaDoor
open Go.RowKit
set_option maxRecDepth 20000

def KB (W : World) (g : Nat) (y : Bx) : Prop := W.heap[g]? = some (.cells #[.int .i64 y.fr, .int .i64 y.la, .slice y.no y.nx.length y.nc] 34 (0, 0))
theorem KB.c0 {W : World} {g : Nat} {y : Bx} (h : KB W g y) : W.cell? ⟨g, 0, none⟩ = some (.int .i64 y.fr) := by rw [cell_of_row _ _ _ _ _ _ h]; rfl
theorem KB.c1 {W : World} {g : Nat} {y : Bx} (h : KB W g y) : W.cell? ⟨g, 1, none⟩ = some (.int .i64 y.la) := by rw [cell_of_row _ _ _ _ _ _ h]; rfl
theorem KB.c2 {W : World} {g : Nat} {y : Bx} (h : KB W g y) : W.cell? ⟨g, 2, none⟩ = some (.slice y.no y.nx.length y.nc) := by rw [cell_of_row _ _ _ _ _ _ h]; rfl
theorem KB.below {W w : World} {g : Nat} {y : Bx} (h : KB W g y) (hb : Below W.heap.size W w) : KB w g y := by
  unfold KB
  rw [hb.block g (Array.getElem?_eq_some_iff.1 h).1]
  exact h
theorem noneBlocks {M : List Bx} (h : M.map Bx.pl = bkD []) : M = [] := by
  have : bkD [] = [] := rfl
  rw [this] at h
  exact List.map_eq_nil_iff.1 h

set_option maxRecDepth 20000 in
set_option maxHeartbeats 8000000 in
theorem walkFlowParts {w : World} (hW : WidAt w) (ao : Option Addr) (c : Nat) (L : List UInt8) (hl : BAt w ao L) (_hn : ao = none → L = []) (hb : L.length ≤ 140737488351232) (hc : L.length ≤ c) :
    Calls Tryd.prog 3 #[.slice ao L.length c] w fun e w' => e = .returned (.bool true) ∧ Below w.heap.size w w' := by
  have HC := hide (refScan_any ao c L w hl (by omega) hc)
  have HW := hide hW
  have hlen := scR_len L
  have hbd := scR_bd L
  have HPA := hide (fun h => sc_parts (L := L) h)
  clear hl hW hc
  generalize scR L = R at HC hlen hbd HPA
  obtain ⟨l, p, er⟩ := R
  simp only [] at HC hlen hbd HPA
  have HBD := hide hbd
  clear hbd
  go_enter Tryd.func3, Tryd.ntmps3
  go_wp2_with fail
  with_reducible refine (unhide HC).mono ?_
  rintro e w1 ⟨v, rfl, hO, hK, hB1⟩
  obtain ⟨oa, oc, rfl, hX⟩ := hO.at (fun f hf => by have := (hK f hf).1; omega)
  have HX := hide hX
  have HB1 := hide hB1
  have HW1 := hide ((unhide HW).below hB1)
  clear hO hX hB1 HW HC
  by_cases hok : er = 0 ∧ 1 ≤ l.length
  · obtain ⟨he, hl1⟩ := hok
    subst he
    obtain ⟨h4096, hch⟩ := unhide HPA rfl
    have HCH := hide hch
    have hl0 : (((l.length : Nat) : Int) == 0) = false := beq_eq_false_iff_ne.2 (by omega)
    have hll : l.length ≤ 4097 := by omega
    have HCl := hide (CloneX_any oa oc l w1 (unhide HX) (fun e => by
      cases l with
      | nil => rfl
      | cons x t =>
        obtain ⟨b, off, e2, _⟩ := unhide HX 0 x rfl
        rw [e] at e2; cases e2) (by omega))
    have HKO := hide hK
    clear hch HPA hK
    go_wp2_with fail
    with_reducible refine (unhide HCl).mono ?_
    rintro e w2 ⟨v, rfl, hO, hB2⟩
    obtain ⟨ga, gc, rfl, hgx⟩ := hO.at (unhide HX).ok
    have HB2 := hide ((unhide HB1).trans (hB2.mono (unhide HB1).size))
    have HX2 := hide ((unhide HX).below hB2)
    have HW2 := hide ((unhide HW1).below hB2)
    have HBl := hide (Blocks_any ga gc l w2 hgx (by omega) (unhide HW2) (fun x h => ⟨unhide HBD x h, by have := (unhide HKO x h).2; omega⟩))
    clear hO hgx hB2 HCl HX HW1 HB1
    go_wp2_with fail
    with_reducible refine (unhide HBl).mono ?_
    rintro e w3 ⟨v3, M, rfl, hO3, hN3, hP3, hB3⟩
    obtain ⟨a3, c3, rfl, hK3⟩ := hO3.at hN3
    have hMl : M.length ≤ l.length := by have h1 := congrArg List.length hP3; have := bk_len2 l; simp at h1; omega
    have HB3 := hide ((unhide HB2).trans (hB3.mono (unhide HB2).size))
    have HX3 := hide ((unhide HX2).below hB3)
    have HW3 := hide ((unhide HW2).below hB3)
    have HK3 := hide hK3
    have HBK := hide (fun k y h => blk_of (unhide HCH) h4096 hP3 (k := k) (y := y) h)
    have HE := hide (blk_ends (unhide HCH) hP3)
    have HZ := hide (begN_zero hl1).1
    have HRS := hide (unhide HCH).rises
    generalize hls : ldN l l.length = ls at HBK HE HZ
    clear hls hO3 hN3 hP3 hB3 hK3 HBl HX2 HW2 HB2 HCH hl0
    go_wp2_with fail
    go_loopw [7, 34] (fun vi vk wr => ∃ k : Nat, k ≤ M.length ∧ vk = .int .i64 (k : Int) ∧ vi = .int .i64 ((begN l ls k : Nat) : Int) ∧ Hid (Below w3.heap.size w3 wr)) (fun _ vk _ => M.length - (intOf vk).toNat)
    case atStart => exact ⟨0, by omega, rfl, by rw [unhide HZ]; rfl, hide (Below.refl _ _)⟩
    case round =>
      obtain ⟨k, hk, rfl, rfl, HB0⟩ := hrel
      by_cases hkl : k < M.length
      · have j1 : ((k : Nat) : Int) < ((M.length : Nat) : Int) := by omega
        have hy := List.getElem?_eq_getElem hkl
        generalize M[k] = y at hy
        obtain ⟨b, off, hao, hyb⟩ := (unhide HK3).below (unhide HB0) k y hy
        have HAO := hide hao
        have HYN := hide hyb.nxt
        obtain ⟨q0, q1, q2, _⟩ := hyb
        have hbk := unhide HBK k y hy
        have HKN : Hid (begN l ls (k + 1) = begN l ls (k + 1)) := hide rfl
        generalize hi0 : begN l ls k = i0 at hbk
        generalize hen : begN l ls (k + 1) = en at hbk
        have HEN := hide hen
        clear hi0 hen hy
        have hlo := hbk.lo
        have hhi := hbk.hi
        have hx := List.getElem?_eq_getElem (show i0 < l.length by omega)
        generalize l[i0]'(by omega) = x at hx
        obtain ⟨xb, xoff, hoa, hcx⟩ := ((unhide HX3).below (unhide HB0)) i0 x hx
        subst hoa
        subst hao
        have HFX := hide (hbk.frm x hx)
        have hal : Below wr.heap.size wr (wr.alloc (.cells #[.int .i64 y.fr, .int .i64 y.la, .slice y.no y.nx.length y.nc] 34)) := (Below.refl _ _).alloc (Nat.le_refl _) _
        have I1 : Hid (KB (wr.alloc (.cells #[.int .i64 y.fr, .int .i64 y.la, .slice y.no y.nx.length y.nc] 34)) wr.heap.size y) := hide (heap_alloc_new wr _)
        have HBa := hide ((unhide HB0).trans (hal.mono (unhide HB0).size))
        have HYN5 := hide ((unhide HYN).below hal)
        have HBKK := hide hbk
        have HXI := hide hx
        clear hx hal hbk hcx
        go_upto_region 9 with fail
        generalize (wr.alloc (.cells #[.int .i64 y.fr, .int .i64 y.la, .slice y.no y.nx.length y.nc] 34)) = w5 at I1 HBa HYN5 ⊢
        generalize wr.heap.size = gi at I1 ⊢
        clear q0 q1 q2 HB0 HYN
        have d0 := (unhide I1).c0
        have ji1 : ¬ l.length ≤ i0 := by omega
        have ji2 : ((i0 : Nat) : Int) < ((l.length : Nat) : Int) := by omega
        have HXX := hide ((unhide HX3).below (unhide HBa))
        obtain ⟨xb2, xo2, e2, hcx⟩ := unhide HXX i0 x (unhide HXI)
        injection e2 with e2
        injection e2 with e2 e3
        subst e2 e3
        have x0 := hcx.c0
        rw [← unhide HFX] at x0
        have en0 : (y.fr != y.fr) = false := by simp
        clear hcx
        go_wp2
        go_quiet (fail)
        have HBa2 := hide (belowD (unhide HBa) nq)
        have I2 : Hid (KB (w5.drewN nq) gi y) := hide (unhide I1)
        have HYN6 : Hid (JsAt (w5.drewN nq) y.no y.nx) := hide ((unhide HYN5).below (belowD (Below.refl _ _) nq))
        clear d0 x0 HBa I1 HYN5 HXX en0 ji1 ji2
        generalize w5.drewN nq = w6 at HBa2 I2 HYN6 ⊢
        go_wp2
        go_loopw [7] (fun vi wr => ∃ i : Nat, i0 ≤ i ∧ i < en ∧ vi = .int .i64 (i : Int) ∧ Hid (Below w6.heap.size w6 wr)) (fun vi _ => en - (intOf vi).toNat)
        case atStart => exact ⟨i0, Nat.le_refl _, hlo, rfl, hide (Below.refl _ _)⟩
        case round =>
          obtain ⟨i, hi1, hi2, rfl, HBi⟩ := hrel
          have hx := List.getElem?_eq_getElem (show i < l.length by omega)
          generalize l[i]'(by omega) = z at hx
          have ji2 : ((i : Nat) : Int) < ((l.length : Nat) : Int) := by omega
          have HBt := hide ((unhide HBa2).trans ((unhide HBi).mono (unhide HBa2).size))
          obtain ⟨xb2, xo2, e2, hcx⟩ := ((unhide HX3).below (unhide HBt)) i z hx
          injection e2 with e2
          injection e2 with e2 e3
          subst e2 e3
          have d1 := ((unhide I2).below (unhide HBi)).c1
          have x0 := hcx.c0
          by_cases hlast : i + 1 = en
          · have hla := (unhide HBKK).lst z (by rw [← hlast, Nat.add_sub_cancel]; exact hx)
            rw [hla] at d1
            have en0 : (z.p != z.p) = false := by simp
            clear hla hx hcx
            go_wp2
            go_quiet (fail)
            have HBi2 := hide (belowD (unhide HBi) nq)
            clear d1 x0 HBi HBt
            generalize wr.drewN nq = w7 at HBi2 ⊢
            have d2 := ((unhide I2).below (unhide HBi2)).c2
            have HYN7 := hide ((unhide HYN6).below (unhide HBi2))
            have HBt7 := hide ((unhide HBa2).trans ((unhide HBi2).mono (unhide HBa2).size))
            have HFEW := hide (unhide HBKK).few
            have HWY := hide (unhide HBKK).ways
            subst hlast
            obtain ⟨yf, yl, yo, yc, yn⟩ := y
            simp only at d2 HYN7 HFEW HWY
            have hyl := unhide HFEW
            go_wp2
            clear d2
            go_loopw [94] (fun j wr => ∃ m : Nat, m ≤ yn.length ∧ j = .int .i64 (m : Int) ∧ Hid (Below w7.heap.size w7 wr)) (fun j _ => yn.length - (intOf j).toNat)
            case atStart => exact ⟨0, by omega, rfl, hide (Below.refl _ _)⟩
            case round =>
              obtain ⟨m, hm, rfl, HBm⟩ := hrel
              by_cases hml : m < yn.length
              · have j2 : ((m : Nat) : Int) < ((yn.length : Nat) : Int) := by omega
                have ha := List.getElem?_eq_getElem hml
                generalize yn[m] = a at ha
                obtain ⟨nb, no, rfl, hac⟩ := ((unhide HYN7).below (unhide HBm)) m a ha
                obtain ⟨jf, hjf⟩ := unhide HWY a (List.mem_of_getElem? ha)
                have HBmt := hide ((unhide HBt7).trans ((unhide HBm).mono (unhide HBt7).size))
                have HFr := hide (lawFrom_any (some ⟨b, off, none⟩) c3 M a wr ((unhide HK3).below (unhide HBmt)) (by omega))
                rw [frZ_at hjf] at HFr
                have jn0 : ¬ ((jf : Nat) : Int) < 0 := by omega
                clear ha hjf
                go_wp2_with fail
                refine (unhide HFr).mono ?_
                rintro e w8 ⟨rfl, hB8⟩
                have HB8 := hide ((unhide HBm).trans (hB8.mono (unhide HBm).size))
                clear hB8 hac
                go_wp2
                go_roundw
                case rel => exact ⟨m + 1, by omega, by go_num, HB8⟩
                case measure => simp [intOf]; omega
              · obtain rfl : m = yn.length := by omega
                have HBmt := hide ((unhide HBt7).trans ((unhide HBm).mono (unhide HBt7).size))
                go_wp2
                go_roundw
                case rel => exact ⟨k + 1, by omega, by go_num, by rw [unhide HEN]; go_num, HBmt⟩
                case measure => simp [intOf]; omega
          · have hnx := List.getElem?_eq_getElem (show i + 1 < l.length by omega)
            generalize l[i + 1]'(by omega) = z2 at hnx
            have HNX := hide ((unhide HBKK).gap i z z2 hi1 (by omega) hx hnx)
            have hla := (unhide HBKK).lst
            have hpp : z.p ≠ y.la := by
              intro e
              have h1 := List.getElem?_eq_getElem (show en - 1 < l.length by omega)
              have h2 := hla _ h1
              have := rs_inj (unhide HRS) hx h1 (by rw [e, h2])
              omega
            have en0 : (z.p != y.la) = true := by simpa using hpp
            obtain ⟨c0, c1, c2, c3', ho⟩ := hcx
            have HNXX := hide hnx
            clear hla hpp hx x0 hnx
            go_wp2
            go_quiet (fail)
            have e0 : (wr.drewN nq).cell? ⟨xb, xoff + i * 4, none⟩ = some (.int .i64 z.p) := c0
            have e1 : (wr.drewN nq).cell? ⟨xb, xoff + i * 4 + 1, none⟩ = some (.int .u8 (z.op : Int)) := c1
            have e2 : (wr.drewN nq).cell? ⟨xb, xoff + i * 4 + 2, none⟩ = some (.int .i64 z.a) := c2
            have e3 : (wr.drewN nq).cell? ⟨xb, xoff + i * 4 + 3, none⟩ = some (.int .i64 z.b) := c3'
            have HBi2 := hide (belowD (unhide HBi) nq)
            clear d1 HBi HBt c0 c1 c2 c3' en0
            generalize wr.drewN nq = w7 at HBi2 e0 e1 e2 e3 ⊢
            have HBt7 := hide ((unhide HBa2).trans ((unhide HBi2).mono (unhide HBa2).size))
            have HNc := hide (Next_any z.p z.op z.a z.b w7 ((unhide HW3).below (unhide HBt7)) ho)
            rw [unhide HNX] at HNc
            go_wp2_with fail
            refine (unhide HNc).mono ?_
            rintro e w8 ⟨v8, rfl, hO8, hB8⟩
            obtain ⟨na, nc, rfl, hna, _⟩ := hO8.at
            obtain ⟨nb, no, rfl, hn0⟩ := hna 0 z2.p rfl
            rw [Nat.add_zero] at hn0
            have HB8 := hide ((unhide HBi2).trans (hB8.mono (unhide HBi2).size))
            have HB8t := hide ((unhide HBa2).trans ((unhide HB8).mono (unhide HBa2).size))
            obtain ⟨xb2, xo2, e4, hcx⟩ := ((unhide HX3).below (unhide HB8t)) (i + 1) z2 (unhide HNXX)
            injection e4 with e4
            injection e4 with e4 e5
            subst e4 e5
            have x1 := hcx.c0
            have jn1 : ¬ ((i : Nat) : Int) + 1 = ((l.length : Nat) : Int) := by omega
            have jn2 : ((i : Nat) : Int) + 1 < ((l.length : Nat) : Int) := by omega
            have jn3 : (((i : Nat) : Int) + 1 == ((l.length : Nat) : Int)) = false := by simpa using jn1
            have en1 : (z2.p != z2.p) = false := by simp
            clear hO8 hB8 hna hcx e0 e1 e2 e3 HNc HBi2 HBt7
            go_wp2
            go_quiet (fail)
            have HB9 := hide (belowD (unhide HB8) nq)
            go_wp2
            go_roundw
            case rel => exact ⟨i + 1, by omega, by omega, by go_num, HB9⟩
            case measure => simp [intOf]; omega
      · obtain rfl : k = M.length := by omega
        rw [unhide HE]
        go_wp2
        go_ret
        exact ⟨ret_bool (by simp), (unhide HB3).trans ((unhide HB0).mono (unhide HB3).size)⟩
  · have HBn := hide (Blocks_any none 0 [] w1 (fun i x hx => by simp at hx) (by simp) (unhide HW1) (fun x h => by cases h))
    by_cases he : er = 0
    · subst he
      have hl0 : l.length = 0 := by
        rcases Nat.eq_zero_or_pos l.length with h | h
        · exact h
        · exact absurd ⟨rfl, h⟩ hok
      have hl1 : (((l.length : Nat) : Int) == 0) = true := by rw [hl0]; rfl
      clear hok HPA hK
      go_wp2_with fail
      refine (unhide HBn).mono ?_
      rintro e w2 ⟨v2, M, rfl, hO2, hN2, hP2, hB2⟩
      obtain rfl := noneBlocks hP2
      obtain ⟨a3, c3, rfl, hK3⟩ := hO2.at hN2
      go_wp2
      go_ret
      exact ⟨ret_bool (by simp), (unhide HB1).trans (hB2.mono (unhide HB1).size)⟩
    · have hk' : (er != 0) = true := bne_iff_ne.2 he
      clear hok HPA hK he
      go_wp2_with fail
      refine (unhide HBn).mono ?_
      rintro e w2 ⟨v2, M, rfl, hO2, hN2, hP2, hB2⟩
      obtain rfl := noneBlocks hP2
      obtain ⟨a3, c3, rfl, hK3⟩ := hO2.at hN2
      go_wp2
      go_ret
      exact ⟨ret_bool (by simp), (unhide HB1).trans (hB2.mono (unhide HB1).size)⟩
end Go.Proofs.YtdpfinnclnapbaaDoor
