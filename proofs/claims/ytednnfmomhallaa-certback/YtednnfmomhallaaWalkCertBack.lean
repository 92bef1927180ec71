/-
  The walk of the law CertBack: it returns true for every certificate, and writes nothing that was there.
-/
import Derived.Test.YtednnfmomhallaaCz6
import Derived.Test.YtednnfmomhallaaCz5
import Derived.Test.YtednnfmomhallaaCx2
namespace Go.Proofs.Ytednnfmomhallaa
open Go.RowKit

theorem encE_size {lo : Nat} {x : En} (hx : EnGood x) (hb : bodD lo x = 0) : ((encE x).length : Int) = if x.dead = true then 3 else 4 + (lo : Int) + x.fr.he := by
  cases hd : x.dead
  · obtain ⟨e1, e2, e3, _⟩ := bod_good hb hd
    obtain ⟨h1, h2, h3⟩ := hx.fit hd
    rw [encE_live hd, if_neg (by simp)]
    have := hx.ok.len
    simp only [List.length_cons, List.length_map, List.length_take]
    omega
  · rw [encE_dead hd, if_pos rfl]
    rfl

set_option maxRecDepth 20000 in
set_option maxHeartbeats 4000000 in
theorem walkCertBack {w : World} (lo : Int) (ao : Option Addr) (cap : Nat) (es : List En) (_hb : -9223372036854775808 ≤ lo ∧ lo ≤ 9223372036854775807) (hE : EsAt w ao es) (ho : EsOk es) (_hn : ao = none → es = []) (hz : es.length * 56 ≤ 140737488351232) :
    Calls Try.prog 5 #[.agg #[.int .i64 lo, .slice ao es.length cap]] w fun e w' => e = .returned (.bool true) ∧ Below w.heap.size w w' := by
  have hl42 : es.length ≤ 4398046511104 := by omega
  have al := (Below.refl w.heap.size w).alloc (Nat.le_refl _) (.cells #[.int .i64 lo, .slice ao es.length cap] 24)
  have HB := hide al
  have HC : Hid (CAt (w.alloc (.cells #[.int .i64 lo, .slice ao es.length cap] 24)) w.heap.size lo (.slice ao es.length cap)) := hide (heap_alloc_new w _)
  have HE := hide (hE.below rfl al)
  have hsz : (w.alloc (.cells #[.int .i64 lo, .slice ao es.length cap] 24)).heap.size = w.heap.size + 1 := by simp
  clear al hE
  go_enter Try.func5, Try.ntmps5
  go_upto_region 1 with fail
  generalize (w.alloc (.cells #[.int .i64 lo, .slice ao es.length cap] 24)) = W1 at HB HC HE hsz ⊢
  have HM := hide (may_any lo ao cap es W1 (unhide HE) ho hl42)
  by_cases hck : (ckC lo es).2 = 0
  · obtain ⟨⟨hl0, hl16⟩, hn4, hkl⟩ := ckC_good hck
    obtain ⟨ln, rfl⟩ : ∃ ln : Nat, lo = (ln : Int) := ⟨lo.toNat, by omega⟩
    have HG := hide (ck_en hck ho)
    have HGb := hide (fun x hx => (ckL_good hkl x hx).2)
    obtain ⟨d1, d2, d3, d4⟩ := cd_back (lo := ln) ho hck []
    rw [List.append_nil] at d1 d2 d3 d4
    rw [if_neg (by simp)] at d3
    obtain ⟨d5, d6⟩ := d4 rfl
    rw [hck, show ((0 : Int) == 0) = true from rfl] at HM
    have HEn := hide (fun W (h : EsAt W ao es) => certEncode_any (ln : Int) ao cap es W h ho hl42)
    rw [hck, if_pos rfl] at HEn
    have HSz : Hid ((encC (ln : Int) es).length = 6 + (es.flatMap encE).length) := hide (by unfold encC; simp [be_length]; omega)
    have HFl := hide (flatE_len (es := es) (unhide HG))
    have HDc := hide (fun (oa : Option Addr) (oc : Nat) (W : World) (h : BAt W oa (encC (ln : Int) es)) => Decode_any oa oc (encC (ln : Int) es) ln es.length W h (by have := unhide HSz; have := unhide HFl; omega) d1 d2)
    rw [d3, d5, d6] at HDc
    generalize encC (ln : Int) es = B at HEn HSz HDc
    clear d1 d2 d3 d4 d5 d6 hck hkl
    go_wp2_with (first | (refine wpList_load_rowG (by kernel_rfl) 24 (.tmp 1) rfl w.heap.size rfl 24 #[.int .i64 (ln : Int), .slice ao es.length cap] (0, 0) _ (unhide HC) Try.underlying24 rfl (by kernel_rfl) ?_) | fail)
    refine (unhide HM).mono ?_
    rintro e W2 ⟨rfl, hB2⟩
    have HB2 := hide ((unhide HB).trans (hB2.mono (unhide HB).size))
    have HC2 : Hid (CAt W2 w.heap.size (ln : Int) (.slice ao es.length cap)) := hide ((hB2.block _ (by omega)).trans (unhide HC))
    have HE2 := hide ((unhide HE).below rfl hB2)
    have s2 := (unhide HC2).lt
    clear hB2 HM HC HE HB hsz
    go_wp2_with (first | (refine wpList_load_rowG (by kernel_rfl) 24 (.tmp 1) rfl w.heap.size rfl 24 #[.int .i64 (ln : Int), .slice ao es.length cap] (0, 0) _ (unhide HC2) Try.underlying24 rfl (by kernel_rfl) ?_) | fail)
    refine (unhide HEn W2 (unhide HE2)).mono ?_
    rintro e W3 ⟨vb, rfl, hO3, hB3⟩
    obtain ⟨ob, cb, rfl, hA3⟩ := hO3.at
    have HB3 := hide ((unhide HB2).trans (hB3.mono (unhide HB2).size))
    have HC3 : Hid (CAt W3 w.heap.size (ln : Int) (.slice ao es.length cap)) := hide ((hB3.block _ s2).trans (unhide HC2))
    have HE3 := hide ((unhide HE2).below rfl hB3)
    have HDw := hide (unhide HDc ob cb W3 hA3)
    clear hO3 hA3 hB3 HC2 HE2 HB2 HDc s2
    go_wp2_with fail
    refine (unhide HDw).mono ?_
    rintro e W4 ⟨v4, rfl, hO4, hB4⟩
    obtain ⟨o4, p4, rfl, hE4⟩ := hO4.at ho
    have al4 := (Below.refl W4.heap.size W4).alloc (Nat.le_refl _) (.cells #[.int .i64 (ln : Int), .slice o4 es.length p4] 24)
    have HG5 : Hid (CAt (W4.alloc (.cells #[.int .i64 (ln : Int), .slice o4 es.length p4] 24)) W4.heap.size (ln : Int) (.slice o4 es.length p4)) := hide (heap_alloc_new W4 _)
    have hbb := hB4.trans (al4.mono hB4.size)
    have HB5 := hide ((unhide HB3).trans (hbb.mono (unhide HB3).size))
    have HC5 : Hid (CAt _ w.heap.size (ln : Int) (.slice ao es.length cap)) := hide ((hbb.block _ (unhide HC3).lt).trans (unhide HC3))
    have HE5 := hide ((unhide HE3).below rfl hbb)
    have HF5 := hide (hE4.below rfl al4)
    clear hO4 hE4 hB4 al4 hbb HC3 HE3 HB3 HDw
    go_upto_region 5 with fail
    generalize (W4.alloc (.cells #[.int .i64 (ln : Int), .slice o4 es.length p4] 24)) = W5 at HG5 HB5 HC5 HE5 HF5 ⊢
    generalize W4.heap.size = g at HG5 ⊢
    clear W4
    have c5 := (unhide HC5).c1
    have hlt5 := (unhide HC5).lt
    have hgt5 := (unhide HG5).lt
    go_wp2
    go_loopw [8, 28] (fun z i wr => ∃ k : Nat, k ≤ es.length ∧ i = .int .i64 (k : Int) ∧ z = .int .i64 (6 + ((((es.take k).flatMap encE).length : Nat) : Int)) ∧ Hid (Below W5.heap.size W5 wr)) (fun _ i _ => es.length - (intOf i).toNat)
    case atStart => exact ⟨0, by omega, rfl, by simp, hide (Below.refl _ _)⟩
    case round =>
      clear c5
      obtain ⟨k, hk, rfl, rfl, HBr⟩ := hrel
      have HCr : Hid (CAt wr w.heap.size (ln : Int) (.slice ao es.length cap)) := hide (((unhide HBr).block _ hlt5).trans (unhide HC5))
      have HGr : Hid (CAt wr g (ln : Int) (.slice o4 es.length p4)) := hide (((unhide HBr).block _ hgt5).trans (unhide HG5))
      have HEr := hide ((unhide HE5).below rfl (unhide HBr))
      have HFr := hide ((unhide HF5).below rfl (unhide HBr))
      have HBw : Hid (Below w.heap.size w wr) := hide ((unhide HB5).trans ((unhide HBr).mono (unhide HB5).size))
      by_cases hkl : k < es.length
      · have j1 : ((k : Nat) : Int) < ((es.length : Nat) : Int) := by omega
        obtain ⟨x, hx⟩ : ∃ x, es[k]? = some x := ⟨_, List.getElem?_eq_getElem hkl⟩
        have hxo : FrOk x.fr := ho x (List.mem_of_getElem? hx)
        have hxg := unhide HG x (List.mem_of_getElem? hx)
        have HSx := hide (encE_size hxg (unhide HGb x (List.mem_of_getElem? hx)))
        have hfit := hxg.fit
        obtain ⟨b, off, rfl, hrg⟩ := (unhide HEr) k x hx
        have hll := enL_len hxo
        have HRG := hide hrg
        have HFL : Hid (((((es.take (k + 1)).flatMap encE).length : Nat) : Int) = (((es.take k).flatMap encE).length : Nat) + ((encE x).length : Nat)) := hide (by rw [List.take_add_one, hx, List.flatMap_append, List.length_append]; simp)
        have hF : ((es.take k).flatMap encE).length ≤ 114688 := by
          have h1 := flatE_len (es := es.take k) (fun y hy => unhide HG y (List.mem_of_mem_take hy))
          rw [List.length_take] at h1
          omega
        obtain ⟨F, HF⟩ : ∃ F : Nat, Hid (((es.take k).flatMap encE).length = F) := ⟨_, hide rfl⟩
        rw [unhide HF] at hF HFL ⊢
        have HN : Hid (EAt (wr.alloc (.cells (enA enZ) 42)) wr.heap.size enZ) := hide (EAt.new wr enZ)
        have HN2 := hide ((unhide HN).row x)
        have hbV := below_setRow' ((Below.refl wr.heap.size wr).alloc (Nat.le_refl _) (.cells (enA enZ) 42)) (Nat.le_refl _) (enA x)
        have HBV : Hid (Below W5.heap.size W5 ((wr.alloc (.cells (enA enZ) 42)).setRow wr.heap.size (enA x))) := hide ((unhide HBr).trans (hbV.mono (unhide HBr).size))
        have HCV : Hid (CAt ((wr.alloc (.cells (enA enZ) 42)).setRow wr.heap.size (enA x)) w.heap.size (ln : Int) (.slice (some ⟨b, off, none⟩) es.length cap)) := hide ((hbV.block _ (unhide HCr).lt).trans (unhide HCr))
        clear hrg hbV HEr HFr HGr
        go_upto_region 9 with (first | (refine wpList_load_mid rfl 42 (.tmp 30) rfl b (off + k * 28) rfl (enL x) _ (unhide HRG) Try.underlying42 rfl (by rw [hll]; kernel_rfl) ?_) | (refine wpList_store_row rfl 42 (.tmp 10) (.tmp 31) rfl wr.heap.size (enA x) rfl rfl 42 (enA enZ) (unhide HN) (sizeEn hxo) (sizeEqEn enZ_ok hxo) (enA_one _) ?_))
        rw [enZ_eq]
        generalize (wr.alloc (.cells (enA enZ) 42)).setRow wr.heap.size (enA x) = V at HN2 HBV HCV ⊢
        generalize wr.heap.size = q at HN2 ⊢
        have e1 := (unhide HN2).c1
        clear HN HRG HCr
        cases hd : x.dead
        · rw [hd] at e1
          obtain ⟨g1, g2, g3⟩ := hfit hd
          have k0 := (unhide HCV).c0
          have k3 := (unhide HN2).he
          rw [hd, if_neg (by simp)] at HSx
          obtain ⟨he, hhe⟩ : ∃ he : Nat, x.fr.he = (he : Int) := ⟨x.fr.he.toNat, by omega⟩
          have hhe24 : he ≤ 24 := by omega
          rw [hhe] at k3 HSx
          clear g1 g2 g3 hhe hd hfit
          go_wp2
          go_roundw
          case rel => exact ⟨k + 1, by omega, by go_num, val_int (by rw [unhide HFL, unhide HSx]; omega), HBV⟩
          case measure => simp [intOf]; omega
        · rw [hd] at e1
          rw [hd, if_pos rfl] at HSx
          clear hd hfit
          go_wp2
          go_roundw
          case rel => exact ⟨k + 1, by omega, by go_num, val_int (by rw [unhide HFL, unhide HSx]; omega), HBV⟩
          case measure => simp [intOf]; omega
      · have i1 : ¬ ((k : Nat) : Int) < ((es.length : Nat) : Int) := by omega
        have HT : Hid ((6 + ((((es.take k).flatMap encE).length : Nat) : Int)) = ((B.length : Nat) : Int)) := hide (by rw [unhide HSz, List.take_of_length_le (by omega)]; omega)
        rw [unhide HT]
        have b1 : (((B.length : Nat) : Int) == ((B.length : Nat) : Int)) = true := beq_iff_eq.2 rfl
        have HS := hide (SameE_at (ln : Int) o4 ao p4 cap es wr (unhide HFr) (unhide HEr) ho hl42)
        go_wp2_with (first | (refine wpList_load_rowG (by kernel_rfl) 24 (.tmp 5) rfl g rfl 24 #[.int .i64 (ln : Int), .slice o4 es.length p4] (0, 0) _ (unhide HGr) Try.underlying24 rfl (by kernel_rfl) ?_) | (refine wpList_load_rowG (by kernel_rfl) 24 (.tmp 1) rfl w.heap.size rfl 24 #[.int .i64 (ln : Int), .slice ao es.length cap] (0, 0) _ (unhide HCr) Try.underlying24 rfl (by kernel_rfl) ?_) | fail)
        refine (unhide HS).mono ?_
        rintro e W6 ⟨rfl, hB6⟩
        have HB6 := hide ((unhide HBw).trans (hB6.mono (unhide HBw).size))
        clear hB6
        go_wp2
        go_ret
        exact ⟨rfl, unhide HB6⟩
  · rw [show ((ckC lo es).2 == 0) = false from beq_f hck] at HM
    go_wp2_with (first | (refine wpList_load_rowG (by kernel_rfl) 24 (.tmp 1) rfl w.heap.size rfl 24 #[.int .i64 lo, .slice ao es.length cap] (0, 0) _ (unhide HC) Try.underlying24 rfl (by kernel_rfl) ?_) | fail)
    refine (unhide HM).mono ?_
    rintro e W2 ⟨rfl, hB2⟩
    have HB2 := hide ((unhide HB).trans (hB2.mono (unhide HB).size))
    clear hB2
    go_wp2
    go_ret
    exact ⟨rfl, unhide HB2⟩
end Go.Proofs.Ytednnfmomhallaa
