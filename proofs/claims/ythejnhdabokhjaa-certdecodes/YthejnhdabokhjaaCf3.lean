/-
  The reference's Same, of two certificates that say the same: true. Conditions: both entries' rows lie there.
-/
import Derived.Test.YthejnhdabokhjaaCf1
namespace Go.Proofs.Ythejnhdabokhjaa
open Go.RowKit

set_option maxRecDepth 20000 in
set_option maxHeartbeats 4000000 in
theorem Same_same (l : Int) (v1 v2 : Value) (es : List En) (w : World) {b1 b2 : Nat} (h1 : OwnE w b1 v1 es) (h2 : OwnE w b2 v2 es) (ho : EsOk es) (hl : es.length ≤ 4096) :
    Calls Try.prog 12 #[.agg #[.int .i64 l, v1], .agg #[.int .i64 l, v2]] w fun e w' => e = .returned (.bool true) ∧ Below w.heap.size w w' := by
  obtain ⟨oa, oc, rfl⟩ := h1.slice
  obtain ⟨pa, pc, rfl⟩ := h2.slice
  have al := ((Below.refl w.heap.size w).alloc (Nat.le_refl _) (.cells #[.int .i64 l, .slice oa es.length oc] 24)).alloc (by simp) (.cells #[.int .i64 l, .slice pa es.length pc] 24)
  have HB := hide al
  have HO1 := hide (h1.below al)
  have HO2 := hide (h2.below al)
  have n1 := heap_alloc_new w (.cells #[.int .i64 l, .slice oa es.length oc] 24)
  have n2 := heap_alloc_new (w.alloc (.cells #[.int .i64 l, .slice oa es.length oc] 24)) (.cells #[.int .i64 l, .slice pa es.length pc] 24)
  rw [World.size_alloc] at n2
  have HC1 : Hid (CAt ((w.alloc (.cells #[.int .i64 l, .slice oa es.length oc] 24)).alloc (.cells #[.int .i64 l, .slice pa es.length pc] 24)) w.heap.size l (.slice oa es.length oc)) := hide ((((Below.refl _ _).alloc (Nat.le_refl _) _).block w.heap.size (by simp)).trans n1)
  have HC2 : Hid (CAt ((w.alloc (.cells #[.int .i64 l, .slice oa es.length oc] 24)).alloc (.cells #[.int .i64 l, .slice pa es.length pc] 24)) (w.heap.size + 1) l (.slice pa es.length pc)) := hide n2
  clear al h1 h2 n1 n2
  go_enter Try.func12, Try.ntmps12
  go_wp2_with fail
  generalize ((w.alloc (.cells #[.int .i64 l, .slice oa es.length oc] 24)).alloc (.cells #[.int .i64 l, .slice pa es.length pc] 24)) = W1 at HB HO1 HO2 HC1 HC2 ⊢
  go_loopw [5] (fun i wr => ∃ k d : Nat, k ≤ es.length ∧ i = .int .i64 (k : Int) ∧ wr = W1.drewN d) (fun i _ => es.length - (intOf i).toNat)
  case atStart => exact ⟨0, 0, by omega, rfl, rfl⟩
  case round =>
    obtain ⟨k, d, hk, rfl, hw⟩ := hrel
    have D1 : Hid (CAt wr w.heap.size l (.slice oa es.length oc)) := hide (by rw [hw]; exact unhide HC1)
    have D2 : Hid (CAt wr (w.heap.size + 1) l (.slice pa es.length pc)) := hide (by rw [hw]; exact unhide HC2)
    have R1 : Hid (OwnE wr b1 (.slice oa es.length oc) es) := hide (by rw [hw]; exact unhide HO1)
    have R2 : Hid (OwnE wr b2 (.slice pa es.length pc) es) := hide (by rw [hw]; exact unhide HO2)
    have BW : Hid (Below w.heap.size w wr) := hide (by rw [hw]; exact belowD (unhide HB) _)
    have HW := hide hw
    clear hw
    have c1 := (unhide D1).c1
    by_cases hkl : k < es.length
    · have j1 : ((k : Nat) : Int) < ((es.length : Nat) : Int) := by omega
      obtain ⟨x, hx⟩ : ∃ x, es[k]? = some x := ⟨_, List.getElem?_eq_getElem hkl⟩
      have hxo : FrOk x.fr := ho x (List.mem_of_getElem? hx)
      obtain ⟨g, cp, hv, hrg⟩ := (unhide R1).range ho hx
      injection hv with hv1 _ hv3
      subst hv1 hv3
      obtain ⟨g2, cp2, hv2, hrg2⟩ := (unhide R2).range ho hx
      injection hv2 with hv1 _ hv3
      subst hv1 hv3
      have hll := enL_len hxo
      have HS : Hid (CAt wr.drew w.heap.size l (.slice (some ⟨g, 0, none⟩) es.length oc) ∧ CAt wr.drew (w.heap.size + 1) l (.slice (some ⟨g2, 0, none⟩) es.length pc) ∧ wr.drew.rangeAt g (k * 28) (enL x) ∧ wr.drew.rangeAt g2 (k * 28) (enL x)) := hide ⟨unhide D1, unhide D2, (World.rangeAt_drew _ _ _ _).2 hrg, (World.rangeAt_drew _ _ _ _).2 hrg2⟩
      have hq := fun W => run_neqEn W hxo hxo
      rw [enEq_refl] at hq
      clear hrg hrg2 hx D1 D2 R1 R2
      go_upto_region 6 with fail
      refine wp_region_held_drew (S := fun w' => CAt w' w.heap.size l (.slice (some ⟨g, 0, none⟩) es.length oc) ∧ CAt w' (w.heap.size + 1) l (.slice (some ⟨g2, 0, none⟩) es.length pc) ∧ w'.rangeAt g (k * 28) (enL x) ∧ w'.rangeAt g2 (k * 28) (enL x)) (by kernel_rfl) (unhide HS) (fun hS => ?_)
      have HW2 : Hid (wr.drew = W1.drewN (d + 1)) := hide (by rw [unhide HW]; rfl)
      generalize wr.drew = V at hS HW2 ⊢
      clear HS HW c1 BW
      refine wpAnyH_take (i := 0) (v := .pointer (some ⟨w.heap.size, 1, none⟩)) rfl (by kernel_rfl) (by kernel_rfl) (by kernel_rfl) (fun _ _ _ h => h) (Or.inl ⟨by rfl, fun w _ => by go_simp⟩) hS ?_
      refine wpAnyH_take (i := 1) (v := .slice (some ⟨g, 0, none⟩) es.length oc) rfl (by kernel_rfl) (by kernel_rfl) (by kernel_rfl) (fun _ _ _ h => h) (Or.inl ⟨by rfl, fun w hS => by have h0 := hS.1.c1; go_simp⟩) hS ?_
      refine wpAnyH_take (i := 2) (v := .int .i64 (k : Int)) rfl (by kernel_rfl) (by kernel_rfl) (by kernel_rfl) (fun _ _ _ h => h) (Or.inl ⟨by rfl, fun w _ => by go_simp⟩) hS ?_
      refine wpAnyH_take (i := 3) (v := .pointer (some ⟨g, k * 28, none⟩)) rfl (by kernel_rfl) (by kernel_rfl) (by kernel_rfl) (fun _ _ _ h => h) (Or.inl ⟨by rfl, fun w _ => by go_simp⟩) hS ?_
      refine wpAnyH_take (i := 4) (v := .agg (enA x)) rfl (by kernel_rfl) (by kernel_rfl) (by kernel_rfl) (fun _ _ _ h => h) (yieldsIf_load_mid (by rfl) 44 _ rfl g (k * 28) rfl (enL x) _ (fun _ h => h.2.2.1) Try.underlying44 rfl (by rw [hll]; kernel_rfl)) hS ?_
      refine wpAnyH_take (i := 5) (v := .pointer (some ⟨w.heap.size + 1, 1, none⟩)) rfl (by kernel_rfl) (by kernel_rfl) (by kernel_rfl) (fun _ _ _ h => h) (Or.inl ⟨by rfl, fun w _ => by go_simp⟩) hS ?_
      go_simp
      refine wpAnyH_take (i := 6) (v := .slice (some ⟨g2, 0, none⟩) es.length pc) rfl (by kernel_rfl) (by kernel_rfl) (by kernel_rfl) (fun _ _ _ h => h) (Or.inl ⟨by rfl, fun w hS => by have h0 := hS.2.1.c1; go_simp⟩) hS ?_
      refine wpAnyH_take (i := 7) (v := .int .i64 (k : Int)) rfl (by kernel_rfl) (by kernel_rfl) (by kernel_rfl) (fun _ _ _ h => h) (Or.inl ⟨by rfl, fun w _ => by go_simp⟩) hS ?_
      refine wpAnyH_take (i := 8) (v := .pointer (some ⟨g2, k * 28, none⟩)) rfl (by kernel_rfl) (by kernel_rfl) (by kernel_rfl) (fun _ _ _ h => h) (Or.inl ⟨by rfl, fun w _ => by go_simp⟩) hS ?_
      refine wpAnyH_take (i := 9) (v := .agg (enA x)) rfl (by kernel_rfl) (by kernel_rfl) (by kernel_rfl) (fun _ _ _ h => h) (yieldsIf_load_mid (by rfl) 44 _ rfl g2 (k * 28) rfl (enL x) _ (fun _ h => h.2.2.2) Try.underlying44 rfl (by rw [hll]; kernel_rfl)) hS ?_
      refine wpAnyH_take (i := 10) (v := .bool false) rfl (by kernel_rfl) (by kernel_rfl) (by kernel_rfl) (fun _ _ _ h => h) (Or.inl ⟨by rfl, fun w _ => by have := hq w; go_simp⟩) hS ?_
      refine wpAnyH_done (by kernel_rfl) ?_ _
      clear hS hq hll
      go_wp2
      go_roundw
      case rel => exact ⟨k + 1, d + 1, by omega, by go_num, unhide HW2⟩
      case measure => simp [intOf]; omega
    · obtain rfl : k = es.length := by omega
      go_wp2
      go_ret
      exact ⟨rfl, unhide BW⟩
end Go.Proofs.Ythejnhdabokhjaa
