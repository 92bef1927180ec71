/-
  The walk of the law LexLost: it returns true for every text, and writes nothing that was there.
-/
import Derived.Test.YtgnipgcligmpiaaDoorWalkLexBegins
namespace Go.Proofs.YtgnipgcligmpiaaDoor
open Go.RowKit
set_option maxRecDepth 20000

set_option maxRecDepth 20000 in
set_option maxHeartbeats 4000000 in
theorem walkLexLost {w : World} (hW : SpAt w) (s : ByteArray) (_hs : s.size ≤ maxLen) (hz : s.size ≤ 140737488351232) :
    Calls Tryd.prog 4 #[.string s] w fun e w' => e = .returned (.bool true) ∧ Below w.heap.size w w' := by
  have HW := hide hW
  have HA := hide (awake_any w hW)
  clear hW _hs
  go_enter Tryd.func4, Tryd.ntmps4
  go_wp2_with fail
  refine (unhide HA).mono ?_
  rintro e w1 ⟨rfl, hB1⟩
  have HW1 := hide ((unhide HW).below hB1)
  have HB1 := hide hB1
  clear hB1 HA HW
  have HS := hide (ScanT_any s w1 (unhide HW1) hz)
  have hlen := scD_len s
  by_cases h0 : (scD s).2.2 = 0
  · have HC := hide (scD_chn h0)
    have h00 := scD_z s h0
    rw [h00, h0, show ftV 0 0 = .nilIface from if_pos rfl] at HS
    generalize (scD s).1 = l at HS HC hlen
    clear h0 h00
    go_wp2_with fail
    refine (unhide HS).mono ?_
    rintro e w2 ⟨v, rfl, hO, hB2⟩
    obtain ⟨ao, ac, rfl, hT⟩ := hO.at
    have HT := hide hT
    have HB2 := hide ((unhide HB1).trans (hB2.mono (unhide HB1).size))
    clear hO hB2 hT HS HB1 HW1
    go_wp2
    go_loopw [5, 22] (fun at_ i wr => ∃ (k p : Nat), k ≤ l.length ∧ p ≤ s.size ∧ at_ = .int .i64 (p : Int) ∧ i = .int .i64 (k : Int) ∧ Hid (Chn s p (l.drop k)) ∧ Hid (TsAt wr ao l) ∧ Hid (Below w.heap.size w wr)) (fun _ i _ => l.length - (intOf i).toNat)
    case atStart => exact ⟨0, 0, Nat.zero_le _, Nat.zero_le _, rfl, rfl, hide (unhide HC), HT, HB2⟩
    case round =>
      obtain ⟨k, p, hk, hp, rfl, rfl, HC2, HT2, HB3⟩ := hrel
      by_cases hkl : k < l.length
      · obtain ⟨x, hx⟩ : ∃ x, l[k]? = some x := ⟨_, List.getElem?_eq_getElem hkl⟩
        have hd : l.drop k = x :: l.drop (k + 1) := by
          rw [List.drop_eq_getElem_cons hkl]
          rw [List.getElem?_eq_getElem hkl] at hx
          rw [Option.some.inj hx]
        have hch := unhide HC2
        rw [hd] at hch
        obtain ⟨q, e, hq, hqs, _, _, hxa, hxe, hqe, hes, hch2⟩ := hch
        have HC3 := hide hch2
        obtain ⟨b, off, rfl, hcc⟩ := unhide HT2 k x hx
        have hg := blD_ge s p
        have hpq : p ≤ q := by omega
        have z := ext_sz (s := s) (i := p) (e := q) hpq (by omega)
        have hb := bl_ext (s := s) (a := p) (E := q) (q := q) (by omega) (Nat.le_refl _) _ p (Nat.le_refl _) (Nat.le_refl _) hq
        rw [Nat.sub_self, ← z] at hb
        have HBk := hide (fun W => lawBlank_any (s.extract p q) W (by omega) hb)
        obtain ⟨c0, c1, c2, c3, c4⟩ := hcc
        obtain ⟨xk, xa, xe, xn, xt⟩ := x
        simp only at hxa hxe c0 c1 c2 c3 c4
        subst hxa hxe
        have HX : Hid (TkAt (wr.alloc (.cells #[.int .i64 xk, .int .i64 (q : Int), .int .i64 (e : Int), .int .i64 xn, .string xt] 34)) wr.heap.size ⟨xk, q, e, xn, xt⟩) := hide (heap_alloc_new wr _)
        have hal : Below wr.heap.size wr (wr.alloc (.cells #[.int .i64 xk, .int .i64 (q : Int), .int .i64 (e : Int), .int .i64 xn, .string xt] 34)) := (Below.refl _ _).alloc (Nat.le_refl _) _
        have HB4 := hide ((unhide HB3).trans (hal.mono (unhide HB3).size))
        have HT4 := hide ((unhide HT2).below hal)
        have j3 : decide (q < p) = false := decide_eq_false (by omega)
        have j4 : decide (e ≤ q) = false := decide_eq_false (by omega)
        have j5 : decide (s.size < e) = false := decide_eq_false (by omega)
        have hqs2 : q ≤ s.size := by omega
        have i1 : ((k : Nat) : Int) < ((l.length : Nat) : Int) := by omega
        clear hx hd hch2 hq hg hb z hal HC2 HT2 HB3
        go_upto_region 10 with fail
        generalize (wr.alloc (.cells #[.int .i64 xk, .int .i64 (q : Int), .int .i64 (e : Int), .int .i64 xn, .string xt] 34)) = W3 at HX HB4 HT4 ⊢
        generalize wr.heap.size = gx at HX ⊢
        have d1 := (unhide HX).c1
        have d2 := (unhide HX).c2
        simp only at d1 d2
        clear c0 c1 c2 c3 c4 i1
        go_wp2_with (first | (refine (unhide HBk _).mono ?_; rintro e9 w9 ⟨rfl, rfl⟩))
        go_roundw
        case rel => exact ⟨k + 1, e, by omega, hes, rfl, by go_num, HC3, HT4, HB4⟩
        case measure => simp [intOf]; omega
      · have hkk : l.drop k = [] := List.drop_eq_nil_of_le (by omega)
        have hch := unhide HC2
        rw [hkk] at hch
        have hch' : blD s p = s.size := hch
        have z := ext_sz (s := s) (i := p) (e := s.size) hp (Nat.le_refl _)
        have hb := bl_ext (s := s) (a := p) (E := s.size) (q := s.size) (Nat.le_refl _) (Nat.le_refl _) _ p (Nat.le_refl _) (Nat.le_refl _) hch'
        rw [Nat.sub_self, ← z] at hb
        have HBk := hide (fun W => lawBlank_any (s.extract p s.size) W (by omega) hb)
        clear hkk hch hch' z hb HC2
        go_wp2_with (first | (refine (unhide HBk _).mono ?_; rintro e9 w9 ⟨rfl, rfl⟩))
        go_ret
        exact ⟨rfl, unhide HB3⟩
  · have HF := show ftV (scD s).2.1 (scD s).2.2 = .iface 44 (.agg #[.int .i64 ((scD s).2.1 : Int), .int .i64 (scD s).2.2]) from if_neg h0
    have he := scD_err h0
    rw [HF, he] at HS
    generalize (scD s).2 = R at HS
    obtain ⟨a, ee⟩ := R
    simp only at HS
    clear HF h0 hlen he
    go_wp2_with fail
    refine (unhide HS).mono ?_
    rintro e w2 ⟨v, rfl, hO, hB2⟩
    obtain ⟨ao, ac, rfl⟩ := hO.slice
    have HB2 := hide ((unhide HB1).trans (hB2.mono (unhide HB1).size))
    clear hO hB2 HS HB1 HW1
    go_wp2
    go_ret
    exact ⟨rfl, unhide HB2⟩
end Go.Proofs.YtgnipgcligmpiaaDoor
