/-
  The walk of the law LexAlone: it returns true for every text and number, and writes nothing that was there.
-/
import Derived.Test.YtgnipgcligmpiaaDoorWalkLexBegins
namespace Go.Proofs.YtgnipgcligmpiaaDoor
open Go.RowKit
set_option maxRecDepth 20000

theorem TkAt.set1 {W : World} {g : Nat} {x : Tk} (h : TkAt W g x) (v : Int) : TkAt (W.setCell ⟨g, 1, none⟩ (.int .i64 v)) g { x with a := v } := by
  unfold TkAt at h ⊢
  simp only [World.setCell, Array.getElem?_modify, if_true, h]
  rfl
theorem OwnT.setCell {w : World} {base : Nat} {v : Value} {l : List Tk} (h : OwnT w base v l) {k : Nat} (hk : k < base) (i : Nat) (u : Value) : OwnT (w.setCell ⟨k, i, none⟩ u) base v l := by
  refine ⟨h.1, ?_⟩
  rcases h.2 with h1 | ⟨g, cap, cur, hv, hbg, hh, r⟩
  · exact Or.inl h1
  · exact Or.inr ⟨g, cap, cur, hv, hbg, by rw [Below.heap_setCell _ _ _ _ (fun e => by simp only at e; omega)]; exact hh, r⟩

set_option maxRecDepth 20000 in
set_option maxHeartbeats 4000000 in
theorem walkLexAlone {w : World} (hW : SpAt w) (s : ByteArray) (_hs : s.size ≤ maxLen) (hz : s.size ≤ 140737488351232) (u : Int) (hu : (Lit.int .u64 u).wf = true) :
    Calls Tryd.prog 5 #[.string s, .int .u64 u] w fun e w' => e = .returned (.bool true) ∧ Below w.heap.size w w' := by
  have hu' := bounds_u64 hu
  have HW := hide hW
  have HA := hide (awake_any w hW)
  clear hW _hs hu
  go_enter Tryd.func5, Tryd.ntmps5
  go_wp2_with fail
  refine (unhide HA).mono ?_
  rintro e w1 ⟨rfl, hB1⟩
  have HW1 := hide ((unhide HW).below hB1)
  have HB1 := hide hB1
  clear hB1 HA HW
  have HS := hide (ScanT_any s w1 (unhide HW1) hz)
  have hlen := scD_len s
  by_cases h0 : (scD s).2.2 = 0
  · have hsz : s.size ≤ 65536 := by
      rcases Nat.lt_or_ge 65536 s.size with g | g
      · unfold scD at h0; rw [if_pos g] at h0; cases h0
      · exact g
    have HC := hide (scD_chn h0)
    have h00 := scD_z s h0
    rw [h00, h0, show ftV 0 0 = .nilIface from if_pos rfl] at HS
    generalize (scD s).1 = l at HS HC hlen
    clear h0 h00
    go_wp2_with fail
    refine (unhide HS).mono ?_
    rintro e w2 ⟨v, rfl, hO, hB2⟩
    obtain ⟨ao, ac, rfl, hT, hcap⟩ := hO.at2
    have HT := hide hT
    have HB2 := hide ((unhide HB1).trans (hB2.mono (unhide HB1).size))
    have HW2 := hide ((unhide HW1).below hB2)
    clear hO hB2 hT HS HB1 HW1
    by_cases hl0 : l.length = 0
    · have b0 : (((l.length : Nat) : Int) == 0) = true := by rw [hl0]; rfl
      clear hl0
      go_wp2
      go_ret
      exact ⟨rfl, unhide HB2⟩
    · have b0 : (((l.length : Nat) : Int) == 0) = false := by rw [beq_eq_false_iff_ne]; omega
      obtain ⟨k, hk, hkl⟩ := rem_pick (u := u) hl0 hlen
      obtain ⟨x, hx⟩ : ∃ x, l[k]? = some x := ⟨_, List.getElem?_eq_getElem hkl⟩
      obtain ⟨q, E, hpq, hbq, hqs, hoe, hox, hxa, hxe, hqe, hes⟩ := chn_at l 0 k x (unhide HC) hx
      obtain ⟨b, off, rfl, hcc⟩ := unhide HT k x hx
      have z := ext_sz (s := s) (i := q) (e := E) (by omega) hes
      have HD := hide (one_alone hbq hqs hoe hox hxa hxe hqe hes hsz)
      have HS2 := hide (fun W h => ScanT_any (s.extract q E) W h (by omega))
      rw [unhide HD] at HS2
      rw [show ftV 0 0 = .nilIface from if_pos rfl] at HS2
      obtain ⟨c0, c1, c2, c3, c4⟩ := hcc
      obtain ⟨xk, xa, xe, xn, xt⟩ := x
      simp only at hxa hxe HS2 c0 c1 c2 c3 c4
      subst hxa hxe
      have j1 : ¬ ((q : Nat) : Int) < 0 := by omega
      have j2 : ¬ s.size < E := by omega
      have j5 : ¬ E < q := by omega
      have j3 : decide (((q : Nat) : Int) < 0) = false := decide_eq_false j1
      have j4 : decide (s.size < E) = false := decide_eq_false j2
      have j6 : decide (E < q) = false := decide_eq_false j5
      have hkb : k + 1 ≤ 16384 := by omega
      clear hl0 hx hpq hbq hqs hoe hox HC HT HD z j1 j2 j5
      go_upto_region 7 with fail
      have HX : Hid (TkAt (w2.alloc (.cells #[.int .i64 xk, .int .i64 (q : Int), .int .i64 (E : Int), .int .i64 xn, .string xt] 34)) w2.heap.size ⟨xk, q, E, xn, xt⟩) := hide (heap_alloc_new w2 _)
      have hal : Below w2.heap.size w2 (w2.alloc (.cells #[.int .i64 xk, .int .i64 (q : Int), .int .i64 (E : Int), .int .i64 xn, .string xt] 34)) := (Below.refl _ _).alloc (Nat.le_refl _) _
      have HB3 := hide ((unhide HB2).trans (hal.mono (unhide HB2).size))
      have HW3 := hide ((unhide HW2).below hal)
      have HG : Hid (w.heap.size ≤ w2.heap.size) := hide (unhide HB2).size
      have HG2 : Hid (w2.heap.size < (w2.alloc (.cells #[.int .i64 xk, .int .i64 (q : Int), .int .i64 (E : Int), .int .i64 xn, .string xt] 34)).heap.size) := hide (by simp)
      clear hal HB2 HW2 hk hu' hlen b0 c0 c1 c2 c3 c4
      generalize (w2.alloc (.cells #[.int .i64 xk, .int .i64 (q : Int), .int .i64 (E : Int), .int .i64 xn, .string xt] 34)) = W3 at HX HB3 HW3 HG2 ⊢
      generalize w2.heap.size = gx at HX HG HG2 ⊢
      have d1 := (unhide HX).c1
      have d2 := (unhide HX).c2
      simp only at d1 d2
      go_upto_region 9 with fail
      clear j3 j4 j6
      go_wp2_with fail
      refine (unhide HS2 W3 (unhide HW3)).mono ?_
      rintro e w4 ⟨v3, rfl, hO3, hB4⟩
      have HX4 := hide ((unhide HX).below hB4)
      have HB4 := hide ((unhide HB3).trans (hB4.mono (unhide HB3).size))
      obtain ⟨bo, bc, rfl⟩ := hO3.slice
      have HO4 := hide hO3
      clear hO3 hB4 HX HB3 HW3 HS2 d1 d2
      have d1 := (unhide HX4).c1
      have d2 := (unhide HX4).c2
      have f1 := (unhide HX4).f 1
      have f2 := (unhide HX4).f 2
      simp only at d1 d2
      go_upto_region 11 with fail
      have HX5 := hide (((unhide HX4).set1 0).set2 ((E : Int) - (q : Int)))
      have HO5 := hide (((unhide HO4).setCell (unhide HG2) 1 (.int .i64 0)).setCell (unhide HG2) 2 (.int .i64 ((E : Int) - (q : Int))))
      have HB5 := hide (((unhide HB4).setCell (p := ⟨gx, 1, none⟩) (unhide HG) (.int .i64 0)).setCell (p := ⟨gx, 2, none⟩) (unhide HG) (.int .i64 ((E : Int) - (q : Int))))
      clear HX4 HO4 HB4 d1 d2 f1 f2
      generalize ((w4.setCell ⟨gx, 1, none⟩ (.int .i64 0)).setCell ⟨gx, 2, none⟩ (.int .i64 ((E : Int) - (q : Int)))) = W5 at HX5 HO5 HB5 ⊢
      obtain ⟨bo', bc', e1, hT5⟩ := (unhide HO5).at
      injection e1 with e1 _ _
      subst e1
      obtain ⟨b', off', rfl, hc5⟩ := hT5 0 _ rfl
      obtain ⟨c0, c1, c2, c3, c4⟩ := hc5
      have g0 := (unhide HX5).c0
      have g1 := (unhide HX5).c1
      have g2 := (unhide HX5).c2
      have g3 := (unhide HX5).c3
      have g4 := (unhide HX5).c4
      simp only [Nat.zero_mul, Nat.add_zero] at c0 c1 c2 c3 c4 g0 g1 g2 g3 g4
      clear hT5 HO5 HX5
      go_wp2
      go_quiet (fail)
      go_wp2
      go_ret
      exact ⟨rfl, belowD (unhide HB5) _⟩
  · have HF := show ftV (scD s).2.1 (scD s).2.2 = .iface 44 (.agg #[.int .i64 ((scD s).2.1 : Int), .int .i64 (scD s).2.2]) from if_neg h0
    rw [HF] at HS
    generalize scD s = R at HS
    obtain ⟨l, a, ee⟩ := R
    simp only at HS
    clear HF h0 hlen hu'
    go_wp2_with fail
    refine (unhide HS).mono ?_
    rintro e w2 ⟨v, rfl, hO, hB2⟩
    obtain ⟨ao, ac, rfl⟩ := hO.slice
    have HB2 := hide ((unhide HB1).trans (hB2.mono (unhide HB1).size))
    clear hO hB2 HS HB1 HW1
    go_wp2
    go_ret
    exact ⟨rfl, unhide HB2⟩
end Go.Proofs.YtgnipgcligmpiaaDoor
