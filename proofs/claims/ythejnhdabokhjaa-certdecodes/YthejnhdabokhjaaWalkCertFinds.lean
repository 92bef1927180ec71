/-
  The walk of the law CertFinds: it returns true for all bytes and every address, and writes nothing that was there.
-/
import Derived.Test.YthejnhdabokhjaaCf2
import Derived.Test.YthejnhdabokhjaaRoom
namespace Go.Proofs.Ythejnhdabokhjaa
open Go.RowKit

theorem tol_ok {L : List UInt8} {lo : Nat} (hlo : lo ≤ 16) : ∀ (n p : Nat) (ahead : Int), ∀ a ∈ (tolD L lo n p ahead).1, FrOk a.1.fr
  | 0, p, ahead => by rw [tol_end]; exact fun a ha => by cases ha
  | n + 1, p, ahead => by
    by_cases he : (oneE L lo p ahead).2 = 0
    · rw [tol_good he]
      intro a ha
      rcases List.mem_cons.1 ha with rfl | ha
      · exact (one_ok he hlo).1
      · exact tol_ok hlo n _ _ a ha
    · rw [tol_bad he]
      exact fun a ha => by cases ha
theorem cdS_ok {L : List UInt8} {lo n : Nat} (hlo : at8 L 3 = lo) : EsOk (cdS L lo n) := by
  unfold cdS
  split
  · rename_i h
    have h1 := (mkE_good 3 0 (cd_head h)).2.1
    intro x hx
    obtain ⟨a, ha, rfl⟩ := List.mem_map.1 hx
    exact tol_ok (by omega) _ _ _ a ha
  · exact fun x hx => by cases hx

set_option maxRecDepth 20000 in
set_option maxHeartbeats 4000000 in
theorem walkCertFinds {w : World} (ao : Option Addr) (c : Nat) (L : List UInt8) (hl : BAt w ao L) (hn : ao = none → L = []) (hb : L.length ≤ 140737488351232) (at_ : Int) (_ : (Lit.int .i64 at_).wf = true) :
    Calls Try.prog 6 #[.slice ao L.length c, .int .i64 at_] w fun e w' => e = .returned (.bool true) ∧ Below w.heap.size w w' := by
  obtain ⟨lo, hlo⟩ : ∃ lo : Nat, at8 L 3 = lo := ⟨(at8 L 3).toNat, by unfold at8; omega⟩
  obtain ⟨n, hn4⟩ : ∃ n : Nat, wdD L 4 = n := ⟨(wdD L 4).toNat, by have := wdD_bounds L 4; omega⟩
  have HL := hide hl
  clear hl
  go_enter Try.func6, Try.ntmps6
  go_wp2_with fail
  with_reducible refine (Roomy_any ao c L _ (unhide HL) hn hb).mono ?_
  rintro e w1 ⟨g, cap, rfl, hg, hO, hB⟩
  have HB := hide hB
  have HL1 := hide ((unhide HL).below' hB)
  obtain ⟨hcap, HR⟩ : L.length + 4 ≤ cap ∧ Hid (BAt w1 (some ⟨g, 0, none⟩) (roomy L)) := by
    rcases hO.shape with ⟨h1, _⟩ | ⟨g', cap', h1, _, _, h4, _, h6⟩
    · injection h1 with h1
      cases h1
    · injection h1 with h1 h2 h3
      injection h1 with h1
      injection h1 with h1
      subst h1 h3
      rw [roomy_length] at h4
      exact ⟨h4, hide h6⟩
  clear hO hB HL
  have HFn := hide (Find_any (some ⟨g, 0, none⟩) cap L lo n at_ w1 (BAt.take (m := [165, 90, 195, 60]) (unhide HR)) (by omega) hlo hn4)
  have HRf := hide (fun W (h : Below w1.heap.size w1 W) => refFind_any ao c L lo n at_ W ((unhide HL1).below' h) (by omega) hlo hn4)
  have HU := hide (fun W (h : Below w1.heap.size w1 W) => Untouched_yes g cap ao c L W ((unhide HR).below' h) ((unhide HL1).below' h) hcap (by omega))
  have HFO : Hid (∃ x b, FrOk x.fr ∧ fndR L lo n at_ = ((x, b), (cdE L lo n).2)) := hide (by
    refine ⟨(fstD (cdS L lo n) at_).1, (fstD (cdS L lo n) at_).2, ?_, fnd_same L lo n at_⟩
    exact fst_ok (cdS_ok hlo))
  clear HR HL1 hlo hn4 hn
  obtain ⟨x, b, hxo, hfr⟩ := unhide HFO
  rw [hfr] at HFn
  have HFR := hide hfr
  clear HFO hfr
  generalize (cdE L lo n).2 = er at HFn HRf HFR
  go_wp2_with fail
  unfold fndV at HFn
  refine (unhide HFn).mono ?_
  rintro e W2 ⟨rfl, hB2⟩
  have E1 : Hid (EAt (W2.alloc (.cells (enA enZ) 44)) W2.heap.size enZ) := hide (EAt.new W2 enZ)
  have E2 := hide ((unhide E1).row x)
  have bl : Below W2.heap.size W2 ((W2.alloc (.cells (enA enZ) 44)).setRow W2.heap.size (enA x)) := below_setRow' ((Below.refl _ _).alloc (Nat.le_refl _) _) (Nat.le_refl _) _
  have HB3 := hide (hB2.trans (bl.mono hB2.size))
  clear bl hB2 HFn
  go_wp2_with (refine wpList_store_row rfl 44 (.tmp 7) (.tmp 22) rfl W2.heap.size (enA x) rfl rfl 44 (enA enZ) (unhide E1) (sizeEn hxo) (sizeEqEn enZ_ok hxo) (enA_one _) ?_)
  rw [enZ_eq]
  generalize ((W2.alloc (.cells (enA enZ) 44)).setRow W2.heap.size (enA x)) = W3 at E2 HB3 ⊢
  clear E1
  generalize W2.heap.size = g7 at E2 ⊢
  clear W2
  refine (unhide HRf W3 (unhide HB3)).mono ?_
  rintro e W4 ⟨⟨x', b', _, hfr', rfl⟩, hB4⟩
  obtain ⟨rfl, rfl⟩ : x = x' ∧ b = b' := by
    have := (unhide HFR).symm.trans hfr'
    injection this with h1 h2
    injection h1 with h3 h4
    exact ⟨h3, h4⟩
  have E4 := hide ((unhide E2).below hB4 (unhide E2).lt)
  have X1 : Hid (EAt (W4.alloc (.cells (enA enZ) 44)) W4.heap.size enZ) := hide (EAt.new W4 enZ)
  have X2 := hide ((unhide X1).row x)
  have bl : Below W4.heap.size W4 ((W4.alloc (.cells (enA enZ) 44)).setRow W4.heap.size (enA x)) := below_setRow' ((Below.refl _ _).alloc (Nat.le_refl _) _) (Nat.le_refl _) _
  have E5 := hide ((unhide E4).below bl (unhide E4).lt)
  have HB5 := hide ((unhide HB3).trans ((hB4.trans (bl.mono hB4.size)).mono (unhide HB3).size))
  have hq := fun W => run_eqlEn W hxo hxo
  rw [enEq_refl] at hq
  clear bl hB4 hfr' E2 E4
  go_wp2_with (first | (refine wpList_store_row rfl 44 (.tmp 10) (.tmp 29) rfl W4.heap.size (enA x) rfl rfl 44 (enA enZ) (unhide X1) (sizeEn hxo) (sizeEqEn enZ_ok hxo) (enA_one _) ?_) | (refine wpList_load_row rfl 44 (.tmp 7) rfl g7 rfl 44 (enA x) (0, 0) _ (unhide E5) Try.underlying44 rfl (sizeEn hxo) ?_) | (refine wpList_load_row rfl 44 (.tmp 10) rfl W4.heap.size rfl 44 (enA x) (0, 0) _ (unhide X2) Try.underlying44 rfl (sizeEn hxo) ?_))
  rw [enZ_eq]
  generalize ((W4.alloc (.cells (enA enZ) 44)).setRow W4.heap.size (enA x)) = W5 at HB5 ⊢
  refine (unhide HU W5 (unhide HB5)).mono ?_
  rintro e W9 ⟨rfl, kk, rfl⟩
  go_wp2
  go_ret
  exact ⟨rfl, (unhide HB).trans ((belowD (unhide HB5) kk).mono (unhide HB).size)⟩
end Go.Proofs.Ythejnhdabokhjaa
