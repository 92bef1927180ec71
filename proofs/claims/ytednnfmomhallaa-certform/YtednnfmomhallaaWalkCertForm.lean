/-
  The walk of the law CertForm: it returns true for all bytes, and writes nothing that was there.
-/
import Derived.Test.YtednnfmomhallaaCx2
import Derived.Test.YtednnfmomhallaaCe5
namespace Go.Proofs.Ytednnfmomhallaa
open Go.RowKit

theorem six_at (w : World) (t : TypeId) : BAt (w.alloc (.cells #[.int .u8 112, .int .u8 118, .int .u8 1, .int .u8 2, .int .u8 0, .int .u8 0] t)) (some ⟨w.heap.size, 0, none⟩) [112, 118, 1, 2, 0, 0] := by
  have hr := heap_alloc_new w (.cells #[.int .u8 112, .int .u8 118, .int .u8 1, .int .u8 2, .int .u8 0, .int .u8 0] t)
  intro i hi
  refine ⟨w.heap.size, 0, rfl, ?_⟩
  rw [cell_of_row _ _ _ _ _ _ hr]
  match i, hi with
  | 0, _ => rfl
  | 1, _ => rfl
  | 2, _ => rfl
  | 3, _ => rfl
  | 4, _ => rfl
  | 5, _ => rfl

set_option maxRecDepth 20000 in
set_option maxHeartbeats 2000000 in
theorem walkCertForm {w : World} (ao : Option Addr) (c : Nat) (L : List UInt8) (hl : BAt w ao L) (_hn : ao = none → L = []) (hb : L.length ≤ 140737488351232) :
    Calls Try.prog 6 #[.slice ao L.length c] w fun e w' => e = .returned (.bool true) ∧ Below w.heap.size w w' := by
  obtain ⟨lo, hlo⟩ : ∃ lo : Nat, at8 L 3 = lo := ⟨(at8 L 3).toNat, by unfold at8; omega⟩
  obtain ⟨n, hn4⟩ : ∃ n : Nat, wdD L 4 = n := ⟨(wdD L 4).toNat, by have := wdD_bounds L 4; omega⟩
  have HL := hide hl
  have HN := hide (certEncode_any 2 none 0 [] w (fun i x hx => by simp at hx) (fun x hx => by simp at hx) (by simp))
  rw [show (ckC 2 []).2 = 0 from rfl, if_pos rfl, show encC 2 [] = [112, 118, 1, 2, 0, 0] from by decide] at HN
  clear hl
  go_enter Try.func6, Try.ntmps6
  go_wp2_with fail
  refine (unhide HN).mono ?_
  rintro e W1 ⟨va, rfl, hO, hB⟩
  obtain ⟨oa, oc, rfl, hA⟩ := hO.at
  have al := (Below.refl W1.heap.size W1).alloc (Nat.le_refl _) (.cells #[.int .u8 112, .int .u8 118, .int .u8 1, .int .u8 2, .int .u8 0, .int .u8 0] 5)
  have HEq := hide (Equal_any oa (some ⟨W1.heap.size, 0, none⟩) oc 6 [112, 118, 1, 2, 0, 0] [112, 118, 1, 2, 0, 0] _ (hA.below' al) (six_at W1 5) (by decide) (by decide))
  have HB1 := hide (hB.trans (al.mono hB.size))
  clear hO hB hA al HN
  go_wp2_with fail
  refine (unhide HEq).mono ?_
  rintro e W2 ⟨rfl, q, rfl⟩
  rw [show (([112, 118, 1, 2, 0, 0] : List UInt8) == [112, 118, 1, 2, 0, 0]) = true from by decide]
  have HB2 := hide (belowD (unhide HB1) q)
  generalize (W1.alloc (.cells #[.int .u8 112, .int .u8 118, .int .u8 1, .int .u8 2, .int .u8 0, .int .u8 0] 5)).drewN q = W2 at HB2 ⊢
  clear HB1 HEq
  have HDc := hide (Decode_any ao c L lo n W2 ((unhide HL).below' (unhide HB2)) (by omega) hlo hn4)
  have HES := hide (cdS_okay (n := n) hlo)
  have hln := cdS_len (lo := lo) hn4
  have HF := hide (fun h => cd_form (L := L) (lo := lo) (n := n) hlo hn4 h)
  clear hlo hn4
  generalize cdS L lo n = es at HDc HES hln HF
  generalize cdE L lo n = ce at HDc HF
  obtain ⟨cp, cr⟩ := ce
  generalize cdL L lo n = cl at HDc HF
  simp only at HDc HF
  go_wp2_with fail
  refine (unhide HDc).mono ?_
  rintro e W3 ⟨v, rfl, hO3, hB3⟩
  obtain ⟨o1, p1, rfl, hE3⟩ := hO3.at (unhide HES)
  have al3 := (Below.refl W3.heap.size W3).alloc (Nat.le_refl _) (.cells #[.int .i64 cl, .slice o1 es.length p1] 24)
  have HC3 : Hid (CAt (W3.alloc (.cells #[.int .i64 cl, .slice o1 es.length p1] 24)) W3.heap.size cl (.slice o1 es.length p1)) := hide (heap_alloc_new W3 _)
  have HE3 := hide (hE3.below rfl al3)
  have HB3 := hide (((unhide HB2).trans (hB3.mono (unhide HB2).size)).trans (al3.mono (Nat.le_trans (unhide HB2).size hB3.size)))
  clear hO3 hE3 hB3 al3 HDc
  by_cases hr : cr = 0
  · obtain ⟨f1, f2⟩ := unhide HF hr
    have HX := hide (certEncode_any cl o1 p1 es _ (unhide HE3) (unhide HES) (by omega))
    rw [f1, if_pos rfl, f2] at HX
    clear f1 f2 HF
    subst hr
    go_upto_region 5 with fail
    generalize (W3.alloc (.cells #[.int .i64 cl, .slice o1 es.length p1] 24)) = W4 at HC3 HB3 HX ⊢
    generalize W3.heap.size = g at HC3 ⊢
    clear HE3
    go_wp2_with (first | (refine wpList_load_rowG (by kernel_rfl) 24 (.tmp 5) rfl g rfl 24 #[.int .i64 cl, .slice o1 es.length p1] (0, 0) _ (unhide HC3) Try.underlying24 rfl (by kernel_rfl) ?_) | fail)
    refine (unhide HX).mono ?_
    rintro e W5 ⟨vb, rfl, hO5, hB5⟩
    obtain ⟨o5, p5, rfl, hA5⟩ := hO5.at
    have HB5 := hide ((unhide HB3).trans (hB5.mono (unhide HB3).size))
    have HEq := hide (Equal_any o5 ao p5 c L L W5 hA5 ((unhide HL).below' (unhide HB5)) (by unfold maxLen; omega) (by unfold maxLen; omega))
    rw [show (L == L) = true from beq_iff_eq.2 rfl] at HEq
    clear hO5 hA5 hB5 HX
    go_wp2_with fail
    refine (unhide HEq).mono ?_
    rintro e W6 ⟨rfl, q6, rfl⟩
    have HB6 := hide (belowD (unhide HB5) q6)
    go_wp2
    go_ret
    exact ⟨rfl, unhide HB6⟩
  · have b1 : (cr != 0) = true := bne_t hr
    go_wp2
    go_ret
    exact ⟨rfl, unhide HB3⟩
end Go.Proofs.Ytednnfmomhallaa
