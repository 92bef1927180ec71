/-
  The walk of the law CertBegins: it returns true for every certificate, place and bytes behind, and writes nothing that was there.
-/
import Derived.Test.YtednnfmomhallaaCz6
import Derived.Test.YtednnfmomhallaaCx3
import Derived.Test.YtednnfmomhallaaCe5
import Derived.Deep.DeepAppendWide
import Derived.OpenShut
namespace Go.Proofs.Ytednnfmomhallaa
open Go.RowKit

set_option maxRecDepth 20000 in
set_option maxHeartbeats 4000000 in
theorem walkCertBegins {w : World} (lo : Int) (ao : Option Addr) (cap : Nat) (es : List En) (_hb : -9223372036854775808 ≤ lo ∧ lo ≤ 9223372036854775807) (hE : EsAt w ao es) (ho : EsOk es) (_hn : ao = none → es = []) (hz : es.length * 56 ≤ 140737488351232)
    (cut : Int) (hcut : (Lit.int .u64 cut).wf = true) (mo : Option Addr) (mc : Nat) (M : List UInt8) (hM : BAt w mo M) (hMn : mo = none → M = []) (hMz : M.length ≤ 140737488351232) :
    Calls Try.prog 7 #[.agg #[.int .i64 lo, .slice ao es.length cap], .int .u64 cut, .slice mo M.length mc] w fun e w' => e = .returned (.bool true) ∧ Below w.heap.size w w' := by
  obtain ⟨i0, hi, hz0, hz1, hz2⟩ := info_parts info8
  have hl42 : es.length ≤ 4398046511104 := by omega
  have al := (Below.refl w.heap.size w).alloc (Nat.le_refl _) (.cells #[.int .i64 lo, .slice ao es.length cap] 24)
  have HB := hide al
  have HC : Hid (CAt (w.alloc (.cells #[.int .i64 lo, .slice ao es.length cap] 24)) w.heap.size lo (.slice ao es.length cap)) := hide (heap_alloc_new w _)
  have HE := hide (hE.below rfl al)
  have HM0 := hide (hM.below' al)
  have hsz : (w.alloc (.cells #[.int .i64 lo, .slice ao es.length cap] 24)).heap.size = w.heap.size + 1 := by simp
  clear al hE hM
  go_enter Try.func7, Try.ntmps7
  go_upto_region 1 with fail
  generalize (w.alloc (.cells #[.int .i64 lo, .slice ao es.length cap] 24)) = W1 at HB HC HE HM0 hsz ⊢
  have HM := hide (may_any lo ao cap es W1 (unhide HE) ho hl42)
  by_cases hck : (ckC lo es).2 = 0
  · obtain ⟨⟨hl0, hl16⟩, hn4, hkl⟩ := ckC_good hck
    obtain ⟨ln, rfl⟩ : ∃ ln : Nat, lo = (ln : Int) := ⟨lo.toNat, by omega⟩
    have HG := hide (ck_en hck ho)
    rw [hck, show ((0 : Int) == 0) = true from rfl] at HM
    have HEn := hide (fun W (h : EsAt W ao es) => certEncode_any (ln : Int) ao cap es W h ho hl42)
    rw [hck, if_pos rfl] at HEn
    have HSz : Hid ((encC (ln : Int) es).length = 6 + (es.flatMap encE).length) := hide (by unfold encC; simp [be_length]; omega)
    have HFl := hide (flatE_len (es := es) (unhide HG))
    have hY6 : 6 ≤ (encC (ln : Int) es).length ∧ (encC (ln : Int) es).length ≤ 120000 := by have := unhide HSz; have := unhide HFl; omega
    have HP := hide (fun (k : Nat) (h : k < (encC (ln : Int) es).length) (lo' n' : Nat) h1 h2 => cd_part (lo := ln) ho hck h (lo' := lo') (n' := n') h1 h2)
    have HT := hide (cd_back (lo := ln) ho hck M)
    generalize encC (ln : Int) es = Y at HEn HP HT hY6
    clear hck hkl HSz HFl
    go_wp2_with (first | (refine wpList_load_rowG (by kernel_rfl) 24 (.tmp 3) rfl w.heap.size rfl 24 #[.int .i64 (ln : Int), .slice ao es.length cap] (0, 0) _ (unhide HC) Try.underlying24 rfl (by kernel_rfl) ?_) | fail)
    refine (unhide HM).mono ?_
    rintro e W2 ⟨rfl, hB2⟩
    have HB2 := hide ((unhide HB).trans (hB2.mono (unhide HB).size))
    have HC2 : Hid (CAt W2 w.heap.size (ln : Int) (.slice ao es.length cap)) := hide ((hB2.block _ (by omega)).trans (unhide HC))
    have HE2 := hide ((unhide HE).below rfl hB2)
    have HM2 := hide ((unhide HM0).below' hB2)
    clear hB2 HM HC HE HB hsz HM0
    go_wp2_with (first | (refine wpList_load_rowG (by kernel_rfl) 24 (.tmp 3) rfl w.heap.size rfl 24 #[.int .i64 (ln : Int), .slice ao es.length cap] (0, 0) _ (unhide HC2) Try.underlying24 rfl (by kernel_rfl) ?_) | fail)
    refine (unhide HEn W2 (unhide HE2)).mono ?_
    rintro e W3 ⟨vb, rfl, hO3, hB3⟩
    obtain ⟨ob, cb, rfl, hA3⟩ := hO3.at
    have hcb : Y.length ≤ cb := by
      rcases hO3.shape with ⟨h1, h2⟩ | ⟨g', cap', h1, _, _, h4, _, _⟩
      · rw [h2] at hY6; simp at hY6
      · injection h1 with _ _ h3
        rw [h3]; exact h4
    have HB3 := hide ((unhide HB2).trans (hB3.mono (unhide HB2).size))
    have HM3 := hide ((unhide HM2).below' hB3)
    have HA3 := hide hA3
    obtain ⟨hY6a, hY6b⟩ := hY6
    have i6 : ¬ ((Y.length : Nat) : Int) < 6 := by omega
    clear hO3 hA3 hB3 HC2 HE2 HB2 HEn
    go_upto_region 6 with fail
    have hp' := bounds_u64 hcut
    have h0 : (((Y.length : Nat) : Int) == 0) = false := beq_f (by omega)
    go_upto_region 7 with fail
    obtain ⟨k, hk, hkl⟩ : ∃ k : Nat, wrap64 (cut % ((Y.length : Nat) : Int)) = (k : Int) ∧ k < Y.length := by
      have h1 : 0 ≤ cut % ((Y.length : Nat) : Int) := Int.emod_nonneg _ (by omega)
      have h2 : cut % ((Y.length : Nat) : Int) < ((Y.length : Nat) : Int) := Int.emod_lt_of_pos _ (by omega)
      generalize cut % ((Y.length : Nat) : Int) = z at h1 h2
      refine ⟨z.toNat, ?_, by omega⟩
      simp only [wrap64]
      omega
    rw [hk]
    clear hk hp' h0 hcut
    obtain ⟨lo', hlo'⟩ : ∃ lo' : Nat, at8 (Y.take k) 3 = lo' := ⟨(at8 (Y.take k) 3).toNat, by unfold at8; omega⟩
    obtain ⟨n', hn'⟩ : ∃ n' : Nat, wdD (Y.take k) 4 = n' := ⟨(wdD (Y.take k) 4).toNat, by have := wdD_bounds (Y.take k) 4; omega⟩
    have htl : (Y.take k).length = k := by rw [List.length_take]; omega
    have HD1 := hide (Decode_any ob cb (Y.take k) lo' n' W3 (BAt.take (m := Y.drop k) (by rw [List.take_append_drop]; exact unhide HA3)) (by omega) hlo' hn')
    rw [htl, unhide HP k hkl lo' n' hlo' hn'] at HD1
    generalize cdL (Y.take k) lo' n' = cl1 at HD1
    generalize cdS (Y.take k) lo' n' = es1 at HD1
    have k1 : ((k : Nat) : Int) ≤ ((cb : Nat) : Int) := by omega
    have k2 : (((k : Nat) : Int) != ((k : Nat) : Int)) = false := bne_f rfl
    clear hlo' hn' HP htl
    go_wp2_with fail
    refine (unhide HD1).mono ?_
    rintro e W4 ⟨v4, rfl, hO4, hB4⟩
    obtain ⟨o4, p4, rfl⟩ := hO4.slice
    have al4 := (Below.refl W4.heap.size W4).alloc (Nat.le_refl _) (.cells #[.int .i64 cl1, .slice o4 es1.length p4] 24)
    have hbb := hB4.trans (al4.mono hB4.size)
    have HB5 := hide ((unhide HB3).trans (hbb.mono (unhide HB3).size))
    have HA5 := hide ((unhide HA3).below' hbb)
    have HM5 := hide ((unhide HM3).below' hbb)
    clear hO4 hB4 al4 hbb HD1 HA3 HM3 HB3
    go_upto_region 8 with fail
    generalize (W4.alloc (.cells #[.int .i64 cl1, .slice o4 es1.length p4] 24)) = W5 at HB5 HA5 HM5 ⊢
    by_cases hM0 : M.length = 0
    · have m0 : (((M.length : Nat) : Int) == 0) = true := by rw [hM0]; rfl
      clear hM0
      go_wp2
      go_ret
      exact ⟨rfl, unhide HB5⟩
    · have m0 : (((M.length : Nat) : Int) == 0) = false := beq_f (by omega)
      obtain ⟨d1, d2, d3, _⟩ := unhide HT
      rw [if_pos (by omega)] at d3
      obtain ⟨mx, hmx⟩ : ∃ mx, mo = some mx := by
        cases mo with
        | none => exact absurd (by rw [hMn rfl]; rfl) hM0
        | some mx => exact ⟨mx, rfl⟩
      subst hmx
      have HCl := hide (Clone_any ob cb Y W5 (unhide HA5) (fun e => by
        have h1 := unhide HA5 0 (by omega)
        obtain ⟨b, off, e2, _⟩ := h1
        rw [e] at e2
        cases e2) (by omega))
      clear hM0
      go_wp2_with fail
      refine (unhide HCl).mono ?_
      rintro e W6 ⟨v6, rfl, hO6, hB6, _⟩
      have HO6 := hide hO6
      have HM6 := hide ((unhide HM5).below' hB6)
      have HB6 := hide ((unhide HB5).trans (hB6.mono (unhide HB5).size))
      have hs6 := hB6.size
      obtain ⟨o6, p6, rfl, _⟩ := hO6.at
      have HDk := hide (fun (oa : Option Addr) (oc : Nat) (W : World) (h : BAt W oa (Y ++ M)) => Decode_any oa oc (Y ++ M) ln es.length W h (by rw [List.length_append]; omega) d1 d2)
      rw [d3] at HDk
      generalize cdL (Y ++ M) ln es.length = cl2 at HDk
      generalize cdS (Y ++ M) ln es.length = es2 at HDk
      clear hO6 hB6 HCl HM5 d1 d2 d3
      go_wp2_with (first | (at_builtin; refine wpList_append_own_wide _ rfl _ _ 31 rfl W5.heap.size 5 i0 (.int .u8 0) 1 1 Try.underlying31 hi hz0 hz1 hz2 rfl (by decide) _ Y.length (bvals Y) rfl (unhide HO6) mx M.length mc (bvals M) rfl (by rw [bvals_length]; omega) (unhide HM6).cells (bvals_one M) (by unfold maxLen; omega) (by omega) hs6 ?_; intro v7 w7 hO7 hG7 _) | fail)
      have hO7' : OwnB w7 W5.heap.size v7 (Y ++ M) := by unfold OwnB; rw [List.length_append]; rw [bvals_append] at hO7; exact hO7
      obtain ⟨o7, p7, rfl, hA7⟩ := hO7'.at
      have HB7 : Hid (Below w.heap.size w w7) := hide ((unhide HB6).grown hG7 (unhide HB6).size (fun q e => Nat.le_trans (unhide HB5).size ((unhide HO6).lt q e).1))
      have HDw := hide (unhide HDk o7 p7 w7 hA7)
      clear hO7 hG7 hO7' hA7 HDk HO6 HM6
      refine (unhide HDw).mono ?_
      rintro e W8 ⟨v8, rfl, hO8, hB8⟩
      obtain ⟨o8, p8, rfl⟩ := hO8.slice
      have HB8 := hide ((unhide HB7).trans (hB8.mono (unhide HB7).size))
      have b8 : (((Y.length : Nat) : Int) == ((Y.length : Nat) : Int)) = true := beq_iff_eq.2 rfl
      clear hO8 hB8
      go_wp2
      go_ret
      exact ⟨rfl, unhide HB8⟩
  · rw [show ((ckC lo es).2 == 0) = false from beq_f hck] at HM
    go_wp2_with (first | (refine wpList_load_rowG (by kernel_rfl) 24 (.tmp 3) rfl w.heap.size rfl 24 #[.int .i64 lo, .slice ao es.length cap] (0, 0) _ (unhide HC) Try.underlying24 rfl (by kernel_rfl) ?_) | fail)
    refine (unhide HM).mono ?_
    rintro e W2 ⟨rfl, hB2⟩
    have HB2 := hide ((unhide HB).trans (hB2.mono (unhide HB).size))
    clear hB2
    go_wp2
    go_ret
    exact ⟨rfl, unhide HB2⟩
end Go.Proofs.Ytednnfmomhallaa
