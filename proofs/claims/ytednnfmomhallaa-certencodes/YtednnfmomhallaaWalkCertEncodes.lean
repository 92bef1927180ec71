/-
  The walk of the law CertEncodes: it returns true for every certificate, and writes nothing that was there.
-/
import Derived.Test.YtednnfmomhallaaCy3
import Derived.Test.YtednnfmomhallaaCz5
namespace Go.Proofs.Ytednnfmomhallaa
open Go.RowKit

set_option maxRecDepth 20000 in
set_option maxHeartbeats 2000000 in
theorem walkCertEncodes {w : World} (lo : Int) (ao : Option Addr) (cap : Nat) (es : List En) (_hb : -9223372036854775808 ≤ lo ∧ lo ≤ 9223372036854775807) (hE : EsAt w ao es) (ho : EsOk es) (hn : ao = none → es = []) (hz : es.length * 56 ≤ 140737488351232) :
    Calls Try.prog 4 #[.agg #[.int .i64 lo, .slice ao es.length cap]] w fun e w' => e = .returned (.bool true) ∧ Below w.heap.size w w' := by
  have hl42 : es.length ≤ 4398046511104 := by omega
  have al := (Below.refl w.heap.size w).alloc (Nat.le_refl _) (.cells #[.int .i64 lo, .slice ao es.length cap] 24)
  have HB := hide al
  have HC : Hid (CAt (w.alloc (.cells #[.int .i64 lo, .slice ao es.length cap] 24)) w.heap.size lo (.slice ao es.length cap)) := hide (heap_alloc_new w _)
  have HE := hide (hE.below rfl al)
  have hsz : (w.alloc (.cells #[.int .i64 lo, .slice ao es.length cap] 24)).heap.size = w.heap.size + 1 := by simp
  clear al hE
  go_enter Try.func4, Try.ntmps4
  go_upto_region 1 with fail
  generalize (w.alloc (.cells #[.int .i64 lo, .slice ao es.length cap] 24)) = W1 at HB HC HE hsz ⊢
  go_wp2_with (first | (refine wpList_load_rowG (by kernel_rfl) 24 (.tmp 1) rfl w.heap.size rfl 24 #[.int .i64 lo, .slice ao es.length cap] (0, 0) _ (unhide HC) Try.underlying24 rfl (by kernel_rfl) ?_) | fail)
  refine (copiedC_any lo ao cap es W1 (unhide HE) ho hn (by omega)).mono ?_
  rintro e W2 ⟨v, rfl, hO, hB2⟩
  obtain ⟨va, vc, rfl, hVE⟩ := hO.at ho
  have B2 := hide ((unhide HB).trans (hB2.mono (unhide HB).size))
  have HC2 : Hid (CAt W2 w.heap.size lo (.slice ao es.length cap)) := hide ((hB2.block _ (by omega)).trans (unhide HC))
  have al2 := (Below.refl W2.heap.size W2).alloc (Nat.le_refl _) (.cells #[.int .i64 lo, .slice va es.length vc] 24)
  have B3 := hide ((unhide B2).trans (al2.mono (unhide B2).size))
  have HC3 : Hid (CAt (W2.alloc (.cells #[.int .i64 lo, .slice va es.length vc] 24)) w.heap.size lo (.slice ao es.length cap)) := hide ((al2.block _ (unhide HC2).lt).trans (unhide HC2))
  have HG3 : Hid (CAt (W2.alloc (.cells #[.int .i64 lo, .slice va es.length vc] 24)) W2.heap.size lo (.slice va es.length vc)) := hide (heap_alloc_new W2 _)
  have E3 := hide ((((unhide HE).below rfl hB2).below rfl al2))
  have F3 := hide (hVE.below rfl al2)
  have s2 : W2.heap.size < (W2.alloc (.cells #[.int .i64 lo, .slice va es.length vc] 24)).heap.size := by simp
  clear hO hVE hB2 al2 HC2 HC HE HB B2 hsz
  go_upto_region 2 with fail
  generalize (W2.alloc (.cells #[.int .i64 lo, .slice va es.length vc] 24)) = W3 at B3 HC3 HG3 E3 F3 s2 ⊢
  generalize W2.heap.size = g at HG3 s2 ⊢
  clear W1 W2
  obtain ⟨R, HR⟩ : ∃ R, Hid ((ckC lo es).2 = R) := ⟨_, hide rfl⟩
  have hfl : (if (ckC lo es).2 = 0 then encC lo es else []).length ≤ 200000 := by
    split
    · rename_i h
      have h1 := flatE_len (es := es) (ck_en h ho)
      have h2 := (ckC_good h).2.1
      unfold encC
      simp only [List.length_append, be_length, List.length_cons, List.length_nil]
      omega
    · simp
  obtain ⟨Y, HY⟩ : ∃ Y, Hid ((if (ckC lo es).2 = 0 then encC lo es else []) = Y) := ⟨_, hide rfl⟩
  rw [unhide HY] at hfl
  have HK := hide (certEncode_any lo va vc es W3 (unhide F3) ho hl42)
  rw [unhide HY, unhide HR] at HK
  go_wp2_with (first | (refine wpList_load_rowG (by kernel_rfl) 24 (.tmp 3) rfl g rfl 24 #[.int .i64 lo, .slice va es.length vc] (0, 0) _ (unhide HG3) Try.underlying24 rfl (by kernel_rfl) ?_) | fail)
  refine (unhide HK).mono ?_
  rintro e W4 ⟨vb, rfl, hO4, hB4⟩
  obtain ⟨ob, cb, rfl, hA4⟩ := hO4.at
  have B4 := hide ((unhide B3).trans (hB4.mono (unhide B3).size))
  have HC4 : Hid (CAt W4 w.heap.size lo (.slice ao es.length cap)) := hide ((hB4.block _ (unhide HC3).lt).trans (unhide HC3))
  have HG4 : Hid (CAt W4 g lo (.slice va es.length vc)) := hide ((hB4.block _ s2).trans (unhide HG3))
  have E4 := hide ((unhide E3).below rfl hB4)
  have F4 := hide ((unhide F3).below rfl hB4)
  have A4 := hide hA4
  have s4 : g < W4.heap.size := (unhide HG4).lt
  have HK := hide (refEncode_any lo ao cap es W4 (unhide E4) ho hl42)
  rw [unhide HY, unhide HR] at HK
  clear hO4 hA4 hB4 HC3 HG3 E3 F3 s2 B3
  go_wp2_with (first | (refine wpList_load_rowG (by kernel_rfl) 24 (.tmp 1) rfl w.heap.size rfl 24 #[.int .i64 lo, .slice ao es.length cap] (0, 0) _ (unhide HC4) Try.underlying24 rfl (by kernel_rfl) ?_) | fail)
  refine (unhide HK).mono ?_
  rintro e W5 ⟨vd, rfl, hO5, hB5⟩
  obtain ⟨od, cd, rfl, hA5⟩ := hO5.at
  have B5 := hide ((unhide B4).trans (hB5.mono (unhide B4).size))
  have HC5 : Hid (CAt W5 w.heap.size lo (.slice ao es.length cap)) := hide ((hB5.block _ (unhide HC4).lt).trans (unhide HC4))
  have HG5 : Hid (CAt W5 g lo (.slice va es.length vc)) := hide ((hB5.block _ s4).trans (unhide HG4))
  have E5 := hide ((unhide E4).below rfl hB5)
  have F5 := hide ((unhide F4).below rfl hB5)
  have HEq := hide (Equal_any ob od cb cd Y Y W5 ((unhide A4).below' hB5) hA5 (by unfold maxLen; omega) (by unfold maxLen; omega))
  rw [show (Y == Y) = true from beq_iff_eq.2 rfl] at HEq
  have b2 : (R == R) = true := beq_iff_eq.2 rfl
  clear hO5 hA5 hB5 HC4 HG4 E4 F4 s4 B4 HK HR HY
  go_wp2_with fail
  refine (unhide HEq).mono ?_
  rintro e W6 ⟨rfl, q6, hw6⟩
  have B6 : Hid (Below w.heap.size w W6) := hide (by rw [hw6]; exact belowD (unhide B5) q6)
  have HC6 : Hid (CAt W6 w.heap.size lo (.slice ao es.length cap)) := hide (by rw [hw6]; exact unhide HC5)
  have HG6 : Hid (CAt W6 g lo (.slice va es.length vc)) := hide (by rw [hw6]; exact unhide HG5)
  have E6 : Hid (EsAt W6 ao es) := hide (by rw [hw6]; exact unhide E5)
  have F6 : Hid (EsAt W6 va es) := hide (by rw [hw6]; exact unhide F5)
  have HS := hide (SameE_at lo va ao vc cap es W6 (unhide F6) (unhide E6) ho hl42)
  clear hw6 HC5 HG5 E5 F5 HEq
  go_wp2_with (first | (refine wpList_load_rowG (by kernel_rfl) 24 (.tmp 3) rfl g rfl 24 #[.int .i64 lo, .slice va es.length vc] (0, 0) _ (unhide HG6) Try.underlying24 rfl (by kernel_rfl) ?_) | (refine wpList_load_rowG (by kernel_rfl) 24 (.tmp 1) rfl w.heap.size rfl 24 #[.int .i64 lo, .slice ao es.length cap] (0, 0) _ (unhide HC6) Try.underlying24 rfl (by kernel_rfl) ?_) | fail)
  refine (unhide HS).mono ?_
  rintro e W7 ⟨rfl, hB7⟩
  have B7 := hide ((unhide B6).trans (hB7.mono (unhide B6).size))
  clear hB7
  go_wp2
  go_ret
  exact ⟨rfl, unhide B7⟩
end Go.Proofs.Ytednnfmomhallaa
