/-
  The walk of the law CertChecks: it returns true for every certificate, and writes nothing that was there.
-/
import Derived.Test.YtednnfmomhallaaCz4
import Derived.Test.YtednnfmomhallaaCz5
namespace Go.Proofs.Ytednnfmomhallaa
open Go.RowKit

set_option maxRecDepth 20000 in
set_option maxHeartbeats 2000000 in
theorem walkCertChecks {w : World} (lo : Int) (ao : Option Addr) (cap : Nat) (es : List En) (_hb : -9223372036854775808 ≤ lo ∧ lo ≤ 9223372036854775807) (hE : EsAt w ao es) (ho : EsOk es) (hn : ao = none → es = []) (hz : es.length * 56 ≤ 140737488351232) :
    Calls Try.prog 3 #[.agg #[.int .i64 lo, .slice ao es.length cap]] w fun e w' => e = .returned (.bool true) ∧ Below w.heap.size w w' := by
  have hl42 : es.length ≤ 4398046511104 := by omega
  have al := (Below.refl w.heap.size w).alloc (Nat.le_refl _) (.cells #[.int .i64 lo, .slice ao es.length cap] 24)
  have HB := hide al
  have HC : Hid (CAt (w.alloc (.cells #[.int .i64 lo, .slice ao es.length cap] 24)) w.heap.size lo (.slice ao es.length cap)) := hide (heap_alloc_new w _)
  have HE := hide (hE.below rfl al)
  have hsz : (w.alloc (.cells #[.int .i64 lo, .slice ao es.length cap] 24)).heap.size = w.heap.size + 1 := by simp
  clear al hE
  go_enter Try.func3, Try.ntmps3
  go_upto_region 1 with fail
  generalize (w.alloc (.cells #[.int .i64 lo, .slice ao es.length cap] 24)) = W1 at HB HC HE hsz ⊢
  go_wp2_with (first | (refine wpList_load_rowG (by kernel_rfl) 24 (.tmp 1) rfl w.heap.size rfl 24 #[.int .i64 lo, .slice ao es.length cap] (0, 0) _ (unhide HC) Try.underlying24 rfl (by kernel_rfl) ?_) | fail)
  refine (copiedC_any lo ao cap es W1 (unhide HE) ho hn (by omega)).mono ?_
  rintro e W2 ⟨v, rfl, hO, hB2⟩
  obtain ⟨va, vc, rfl, hVE⟩ := hO.at ho
  have B2 := hide ((unhide HB).trans (hB2.mono (unhide HB).size))
  have HC2 : Hid (CAt W2 w.heap.size lo (.slice ao es.length cap)) := hide ((hB2.block _ (by omega)).trans (unhide HC))
  have al2 := (Below.refl W2.heap.size W2).alloc (Nat.le_refl _) (.cells #[.int .i64 lo, .slice va es.length vc] 24)
  have B3 := hide ((unhide B2).trans (al2.mono (unhide B2).size))
  have HC3 : Hid (CAt (W2.alloc (.cells #[.int .i64 lo, .slice va es.length vc] 24)) w.heap.size lo (.slice ao es.length cap)) := hide ((al2.block _ (unhide HC2).lt).trans (unhide HC2))
  have HG3 : Hid (CAt (W2.alloc (.cells #[.int .i64 lo, .slice va es.length vc] 24)) W2.heap.size lo (.slice va es.length vc)) := hide (heap_alloc_new W2 _)
  have E3 := hide ((((unhide HE).below rfl hB2).below rfl al2))
  have F3 := hide (hVE.below rfl al2)
  have s2 : W2.heap.size < (W2.alloc (.cells #[.int .i64 lo, .slice va es.length vc] 24)).heap.size := by simp
  clear hO hVE hB2 al2 HC2 HC HE HB B2 hsz
  go_upto_region 2 with fail
  generalize (W2.alloc (.cells #[.int .i64 lo, .slice va es.length vc] 24)) = W3 at B3 HC3 HG3 E3 F3 s2 ⊢
  generalize W2.heap.size = g at HG3 s2 ⊢
  clear W1 W2
  obtain ⟨R, HR⟩ : ∃ R, Hid (ckC lo es = R) := ⟨_, hide rfl⟩
  have HK := hide (certCheck_any lo va vc es W3 (unhide F3) ho hl42)
  rw [unhide HR] at HK
  go_wp2_with (first | (refine wpList_load_rowG (by kernel_rfl) 24 (.tmp 3) rfl g rfl 24 #[.int .i64 lo, .slice va es.length vc] (0, 0) _ (unhide HG3) Try.underlying24 rfl (by kernel_rfl) ?_) | fail)
  refine (unhide HK).mono ?_
  rintro e W4 ⟨rfl, hB4⟩
  have B4 := hide ((unhide B3).trans (hB4.mono (unhide B3).size))
  have HC4 : Hid (CAt W4 w.heap.size lo (.slice ao es.length cap)) := hide ((hB4.block _ (unhide HC3).lt).trans (unhide HC3))
  have HG4 : Hid (CAt W4 g lo (.slice va es.length vc)) := hide ((hB4.block _ s2).trans (unhide HG3))
  have E4 := hide ((unhide E3).below rfl hB4)
  have F4 := hide ((unhide F3).below rfl hB4)
  have s4 : g < W4.heap.size := (unhide HG4).lt
  have HK := hide (refCheckC_any lo ao cap es W4 (unhide E4) ho hl42)
  rw [unhide HR] at HK
  clear hB4 HC3 HG3 E3 F3 s2 B3 HR
  go_wp2_with (first | (refine wpList_load_rowG (by kernel_rfl) 24 (.tmp 1) rfl w.heap.size rfl 24 #[.int .i64 lo, .slice ao es.length cap] (0, 0) _ (unhide HC4) Try.underlying24 rfl (by kernel_rfl) ?_) | fail)
  refine (unhide HK).mono ?_
  rintro e W5 ⟨rfl, hB5⟩
  have B5 := hide ((unhide B4).trans (hB5.mono (unhide B4).size))
  have HC5 : Hid (CAt W5 w.heap.size lo (.slice ao es.length cap)) := hide ((hB5.block _ (unhide HC4).lt).trans (unhide HC4))
  have HG5 : Hid (CAt W5 g lo (.slice va es.length vc)) := hide ((hB5.block _ s4).trans (unhide HG4))
  have E5 := hide ((unhide E4).below rfl hB5)
  have F5 := hide ((unhide F4).below rfl hB5)
  have HS := hide (SameE_at lo va ao vc cap es W5 (unhide F5) (unhide E5) ho hl42)
  have b1 : (((R.1 : Nat) : Int) == ((R.1 : Nat) : Int)) = true := beq_iff_eq.2 rfl
  have b2 : (R.2 == R.2) = true := beq_iff_eq.2 rfl
  generalize ((R.1 : Nat) : Int) = r1 at b1 ⊢
  generalize R.2 = r2 at b2 ⊢
  clear hB5 HC4 HG4 E4 F4 s4 B4 E5 F5
  go_wp2_with (first | (refine wpList_load_rowG (by kernel_rfl) 24 (.tmp 3) rfl g rfl 24 #[.int .i64 lo, .slice va es.length vc] (0, 0) _ (unhide HG5) Try.underlying24 rfl (by kernel_rfl) ?_) | (refine wpList_load_rowG (by kernel_rfl) 24 (.tmp 1) rfl w.heap.size rfl 24 #[.int .i64 lo, .slice ao es.length cap] (0, 0) _ (unhide HC5) Try.underlying24 rfl (by kernel_rfl) ?_) | fail)
  refine (unhide HS).mono ?_
  rintro e W6 ⟨rfl, hB6⟩
  have B6 := hide ((unhide B5).trans (hB6.mono (unhide B5).size))
  clear hB6
  go_wp2
  go_ret
  exact ⟨rfl, unhide B6⟩
end Go.Proofs.Ytednnfmomhallaa
