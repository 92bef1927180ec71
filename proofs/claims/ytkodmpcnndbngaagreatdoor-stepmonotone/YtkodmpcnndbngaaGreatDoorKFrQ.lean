/-
  The contract of provisoref03.Sub: what the plain function 'subF' says; nothing old is turned. Conditions: the table may be.
-/
import Derived.Test.YtkodmpcnndbngaaGreatDoorKFrN
import Derived.Test.YtkodmpcnndbngaaGreatDoorJRF
namespace Go.Proofs.YtkodmpcnndbngaaGreatDoor
open Go.RowKit
set_option maxRecDepth 20000

theorem getD_some {l : List Nat} {i x : Nat} (h : l[i]? = some x) : l.getD i 0 = x := by rw [List.getD_eq_getElem?_getD, h]; rfl
theorem good_valid {n : Nat} {f : Fr} (hf : FrOk f) (h : chkF n f = 0) {i x : Nat} (hi : i < nF f) (hx : f.sl[i]? = some x) : validD n x = true := by
  obtain ⟨hs, _, hv⟩ := check_good h
  exact (all_iff (by rw [hf.len]; exact shape_n hs)).1 hv i x hi hx
theorem good_zero {n : Nat} {f : Fr} (hf : FrOk f) (h : chkF n f = 0) {i : Nat} (hi : nF f ≤ i) (h24 : i < 24) : f.sl[i]? = some 0 := by
  obtain ⟨hs, hq, _⟩ := check_good h
  exact (trim_iff hf hs).1 hq i hi h24
theorem subF_no1 {T : List Cl} {a b : Fr} (h : chkF T.length a ≠ 0) : subF T a b = false := by
  unfold subF mergeF
  rw [if_pos h, beq_eq_false_iff_ne.2 h]
  rfl
theorem subF_no2 {T : List Cl} {a b : Fr} (h0 : chkF T.length a = 0) (h : chkF T.length b ≠ 0) : subF T a b = false := by
  unfold subF mergeF
  rw [if_neg (by rw [h0]; simp), if_pos h, beq_eq_false_iff_ne.2 h]
  rfl
theorem subF_no3 {T : List Cl} {a b : Fr} (h0 : chkF T.length a = 0) (h1 : chkF T.length b = 0) (h : a.lo ≠ b.lo ∨ a.he ≠ b.he) : subF T a b = false := by
  unfold subF mergeF
  rw [if_neg (by rw [h0]; simp), if_neg (by rw [h1]; simp), if_pos h]
  rfl
theorem subF_iff {T : List Cl} {a b : Fr} (ha : FrOk a) (hb : FrOk b) (h0 : chkF T.length a = 0) (h1 : chkF T.length b = 0) (h2 : a.lo = b.lo) (h3 : a.he = b.he) :
    subF T a b = true ↔ ∀ i x y, i < nF a → a.sl[i]? = some x → b.sl[i]? = some y → subD T x y = true := by
  have hn : nF a = nF b := by unfold nF; rw [h2, h3]
  have hm : mergeF T a b = (⟨a.lo, a.he, mergeTo T a.sl b.sl (nF a)⟩, 0) := by
    unfold mergeF
    rw [if_neg (by rw [h0]; simp), if_neg (by rw [h1]; simp), if_neg (by simp [h2, h3])]
  have h24 : nF a ≤ 24 := shape_n (check_good h0).1
  unfold subF
  rw [hm]
  simp only [beq_self_eq_true, Bool.true_and]
  rw [frEq_iff]
  constructor
  · intro h i x y hi hx hy
    have hs : mergeTo T a.sl b.sl (nF a) = b.sl := congrArg Fr.sl h
    have hg := mergeTo_get T a.sl b.sl (nF a) i hi (by rw [ha.len]; omega)
    rw [hs, hy, getD_some hx, getD_some hy] at hg
    injection hg with hg
    rw [merge_sub (good_valid ha h0 hi hx) (good_valid hb h1 (by omega) hy)]
    exact decide_eq_true hg.symm
  · intro h
    have hs : mergeTo T a.sl b.sl (nF a) = b.sl := by
      apply List.ext_getElem?
      intro i
      by_cases hi : i < nF a
      · have la : i < a.sl.length := by rw [ha.len]; omega
        have lb : i < b.sl.length := by rw [hb.len]; omega
        have hx := List.getElem?_eq_getElem la
        have hy := List.getElem?_eq_getElem lb
        rw [mergeTo_get T a.sl b.sl (nF a) i hi la, getD_some hx, getD_some hy, hy]
        have := h i _ _ hi hx hy
        rw [merge_sub (good_valid ha h0 hi hx) (good_valid hb h1 (by omega) hy)] at this
        rw [of_decide_eq_true this]
      · rw [mergeTo_same T a.sl b.sl (nF a) i (by omega)]
        by_cases h24' : i < 24
        · rw [good_zero ha h0 (by omega) h24', good_zero hb h1 (by omega) h24']
        · rw [List.getElem?_eq_none (by rw [ha.len]; omega), List.getElem?_eq_none (by rw [hb.len]; omega)]
    rw [hs, h2, h3]

set_option maxHeartbeats 4000000 in
theorem refSubF_any (ao : Option Addr) (cap : Nat) (T : List Cl) (a b : Fr) (w : World) (hT : TabAt w ao T) (hz : T.length * 48 ≤ 140737488351232) (hmd : madeD T = true) (ha : FrOk a) (hb : FrOk b) :
    Calls Tryz.prog 10 #[.slice ao T.length cap, .agg (frA a), .agg (frA b)] w fun e w' => e = .returned (.bool (subF T a b)) ∧ Below w.heap.size w w' := by
  have HA := hide ha
  have HB := hide hb
  have hal1 : Below w.heap.size w (w.alloc (.cells (frA a) 29)) := (Below.refl _ _).alloc (Nat.le_refl _) _
  have fa1 := FAt.new w a
  have fb1 : FAt ((w.alloc (.cells (frA a) 29)).alloc (.cells (frA b) 29)) (w.heap.size + 1) b := by
    have := FAt.new (w.alloc (.cells (frA a) 29)) b
    rw [World.size_alloc] at this
    exact this
  have fa2 : FAt ((w.alloc (.cells (frA a) 29)).alloc (.cells (frA b) 29)) w.heap.size a := fa1.below ((Below.refl _ _).alloc (Nat.le_refl _) _) (by simp)
  have hal2 : Below w.heap.size w ((w.alloc (.cells (frA a) 29)).alloc (.cells (frA b) 29)) := hal1.alloc (by simp) _
  have F1 := hide fa2
  have F2 := hide fb1
  have HB0 := hide hal2
  have HT := hide hT
  have HZ := hide hz
  have HMD := hide hmd
  clear hT hal1 hal2 fa1 fa2 fb1 ha hb hz hmd
  go_enter Tryz.func10, Tryz.ntmps10
  go_wp2_with (refine wpList_load_row rfl 29 _ rfl w.heap.size rfl 29 (frA a) (0, 0) _ (unhide F1) Tryz.underlying29 rfl (sizeFr (unhide HA)) ?_)
  generalize ((w.alloc (.cells (frA a) 29)).alloc (.cells (frA b) 29)) = W at F1 F2 HB0 ⊢
  refine (refCheckF_any ao cap T.length a _ (unhide HA)).mono ?_
  rintro e W21 ⟨rfl, hB22⟩
  have F23 := hide ((unhide F1).below hB22 (unhide F1).lt)
  have F24 := hide ((unhide F2).below hB22 (unhide F2).lt)
  have HB25 := hide ((unhide HB0).trans (hB22.mono (unhide HB0).size))
  clear hB22 F1 F2 HB0 W
  by_cases ea : chkF T.length a = 0
  rotate_left
  · have HR := hide (subF_no1 (b := b) ea)
    generalize chkF T.length a = er at ea ⊢
    have b1 := bne_t ea
    clear ea
    go_wp2
    go_ret
    exact ⟨ret_bool (unhide HR).symm, unhide HB25⟩
  have EA := hide ea
  rw [ea]
  clear ea
  go_wp2_with (refine wpList_load_rowG rfl 29 _ rfl (w.heap.size + 1) rfl 29 (frA b) (0, 0) _ (unhide F24) Tryz.underlying29 rfl (sizeFr (unhide HB)) ?_)
  refine (refCheckF_any ao cap T.length b _ (unhide HB)).mono ?_
  rintro e W26 ⟨rfl, hB27⟩
  have F28 := hide ((unhide F23).below hB27 (unhide F23).lt)
  have F29 := hide ((unhide F24).below hB27 (unhide F24).lt)
  have HB30 := hide ((unhide HB25).trans (hB27.mono (unhide HB25).size))
  clear hB27 F23 F24 HB25 W21
  by_cases eb : chkF T.length b = 0
  rotate_left
  · have HR := hide (subF_no2 (unhide EA) eb)
    generalize chkF T.length b = er at eb ⊢
    have b1 := bne_t eb
    clear eb
    go_wp2
    go_ret
    exact ⟨ret_bool (unhide HR).symm, unhide HB30⟩
  have EB := hide eb
  rw [eb]
  clear eb
  have c0a := (unhide F28).lo
  have c1a := (unhide F28).he
  have c0b := (unhide F29).lo
  have c1b := (unhide F29).he
  by_cases sl : a.lo = b.lo
  rotate_left
  · have HR := hide (subF_no3 (unhide EA) (unhide EB) (Or.inl sl))
    have b1 := bne_t sl
    clear sl
    go_wp2
    go_ret
    exact ⟨ret_bool (unhide HR).symm, unhide HB30⟩
  by_cases sh : a.he = b.he
  rotate_left
  · have HR := hide (subF_no3 (unhide EA) (unhide EB) (Or.inr sh))
    have b1 := bne_f sl
    have b2 := bne_t sh
    clear sl sh
    go_wp2
    go_ret
    exact ⟨ret_bool (unhide HR).symm, unhide HB30⟩
  have HI := hide (subF_iff (unhide HA) (unhide HB) (unhide EA) (unhide EB) sl sh)
  have b1 := bne_f sl
  have b2 := bne_f sh
  clear sl sh
  have HS := hide (check_good (unhide EA)).1
  obtain ⟨h0, h1, h2, h3⟩ := shapeD_iff.1 (unhide HS)
  obtain ⟨m, hm⟩ : ∃ m : Nat, a.lo + a.he = (m : Int) := ⟨nF a, by unfold nF; omega⟩
  have hm24 : m ≤ 24 := by omega
  have HN : Hid (nF a = m) := hide (by unfold nF; omega)
  have HM0 := hide hm
  clear hm
  go_wp2
  clear c0a c1a c0b c1b b1 b2
  go_loopw [7] (fun i wr => ∃ k : Nat, k ≤ m ∧ i = .int .i64 (k : Int) ∧ Hid (∀ j x y, j < k → a.sl[j]? = some x → b.sl[j]? = some y → subD T x y = true) ∧ Hid (FAt wr w.heap.size a) ∧ Hid (FAt wr (w.heap.size + 1) b) ∧ Hid (Below w.heap.size w wr)) (fun i _ => m - (intOf i).toNat)
  case atStart => exact ⟨0, by omega, rfl, hide (fun j x y h => by omega), F28, F29, HB30⟩
  case round =>
    clear F28 F29 HB30 W26
    obtain ⟨k, hk, rfl, HK, FA, FB, HW⟩ := hrel
    have c0 : wr.cell? ⟨w.heap.size, 0, none⟩ = some (.int .i64 a.lo) := (unhide FA).lo
    have c1 : wr.cell? ⟨w.heap.size, 1, none⟩ = some (.int .i64 a.he) := (unhide FA).he
    by_cases hlt : k < m
    · have j1 : ((k : Nat) : Int) < a.lo + a.he := by rw [unhide HM0]; omega
      have j2 : ((k : Nat) : Int) < 24 := by omega
      have la : k < a.sl.length := by rw [(unhide HA).len]; omega
      have lb : k < b.sl.length := by rw [(unhide HB).len]; omega
      have hxa := List.getElem?_eq_getElem la
      have hxb := List.getElem?_eq_getElem lb
      have xa := (unhide FA).slot hxa
      have xb := (unhide FB).slot hxb
      have a256 := (unhide HA).byte _ (List.getElem_mem la)
      have b256 := (unhide HB).byte _ (List.getElem_mem lb)
      generalize a.sl[k] = x at xa a256 hxa
      generalize b.sl[k] = y at xb b256 hxb
      have HXA := hide hxa
      have HXB := hide hxb
      have oa := (unhide FA).lt
      have ob := (unhide FB).lt
      clear la lb hxa hxb
      go_wp2
      clear c0 c1
      have TD : Hid (TabAt wr.drew ao T) := hide ((unhide HT).below ((unhide HW).trans ⟨rfl, rfl, rfl, Nat.le_refl _, fun _ _ => rfl⟩))
      refine wp_region_held_drew (S := fun w' => w'.cell? ⟨w.heap.size, 2 + k, none⟩ = some (.int .u8 (x : Int)) ∧ w'.cell? ⟨w.heap.size + 1, 2 + k, none⟩ = some (.int .u8 (y : Int))) (by kernel_rfl) ⟨xa, xb⟩ (fun hS => ?_)
      refine wpAnyH_take (i := 0) (v := .slice ao T.length cap) rfl (by kernel_rfl) (by kernel_rfl) (by kernel_rfl) (fun _ _ _ h => h) (Or.inl ⟨by rfl, fun w _ => by go_simp⟩) hS ?_
      refine wpAnyH_take (i := 1) (v := .int .i64 (k : Int)) rfl (by kernel_rfl) (by kernel_rfl) (by kernel_rfl) (fun _ _ _ h => h) (Or.inl ⟨by rfl, fun w _ => by go_simp⟩) hS ?_
      refine wpAnyH_take (i := 2) (v := .pointer (some ⟨w.heap.size, 2, none⟩)) rfl (by kernel_rfl) (by kernel_rfl) (by kernel_rfl) (fun _ _ _ h => h) (Or.inl ⟨by rfl, fun w _ => by go_simp⟩) hS ?_
      refine wpAnyH_take (i := 3) (v := .pointer (some ⟨w.heap.size, 2 + k, none⟩)) rfl (by kernel_rfl) (by kernel_rfl) (by kernel_rfl) (fun _ _ _ h => h) (Or.inl ⟨by rfl, fun w _ => by go_simp⟩) hS ?_
      refine wpAnyH_take (i := 4) (v := .int .u8 (x : Int)) rfl (by kernel_rfl) (by kernel_rfl) (by kernel_rfl) (fun _ _ _ h => h) (Or.inl ⟨by rfl, fun w hS => by obtain ⟨_, _⟩ := hS; go_simp⟩) hS ?_
      refine wpAnyH_take (i := 5) (v := .int .i64 (k : Int)) rfl (by kernel_rfl) (by kernel_rfl) (by kernel_rfl) (fun _ _ _ h => h) (Or.inl ⟨by rfl, fun w _ => by go_simp⟩) hS ?_
      refine wpAnyH_take (i := 6) (v := .pointer (some ⟨w.heap.size + 1, 2, none⟩)) rfl (by kernel_rfl) (by kernel_rfl) (by kernel_rfl) (fun _ _ _ h => h) (Or.inl ⟨by rfl, fun w _ => by go_simp⟩) hS ?_
      refine wpAnyH_take (i := 7) (v := .pointer (some ⟨w.heap.size + 1, 2 + k, none⟩)) rfl (by kernel_rfl) (by kernel_rfl) (by kernel_rfl) (fun _ _ _ h => h) (Or.inl ⟨by rfl, fun w _ => by go_simp⟩) hS ?_
      refine wpAnyH_take (i := 8) (v := .int .u8 (y : Int)) rfl (by kernel_rfl) (by kernel_rfl) (by kernel_rfl) (fun _ _ _ h => h) (Or.inl ⟨by rfl, fun w hS => by obtain ⟨_, _⟩ := hS; go_simp⟩) hS ?_
      refine wpAnyH_ready (rs := [9]) (by kernel_rfl) (by simp) ?_
      refine AllReadyH.cons rfl (fun K hK => ?_) AllReadyH.nil
      go_simp
      go_wp2_with (go_at_call 24; refine (refSub_any ao cap T x y _ (unhide TD) (unhide HZ) (unhide HMD) a256 b256).mono ?_; rintro e W2 ⟨rfl, hB2'⟩)
      have hB2 : Below wr.heap.size wr W2 := (show Below wr.heap.size wr wr.drew from ⟨rfl, rfl, rfl, Nat.le_refl _, fun _ _ => rfl⟩).trans hB2'
      clear hB2'
      have FA2 := hide ((unhide FA).below hB2 oa)
      have FB2 := hide ((unhide FB).below hB2 ob)
      have HW2 := hide ((unhide HW).trans (hB2.mono (unhide HW).size))
      have xa2 : W2.cell? ⟨w.heap.size, 2 + k, none⟩ = some (.int .u8 (x : Int)) := (hB2.cell (p := ⟨w.heap.size, 2 + k, none⟩) oa).trans xa
      have xb2 : W2.cell? ⟨w.heap.size + 1, 2 + k, none⟩ = some (.int .u8 (y : Int)) := (hB2.cell (p := ⟨w.heap.size + 1, 2 + k, none⟩) ob).trans xb
      refine hK.out _ _ ⟨xa2, xb2⟩ (fun hS2 => ?_)
      clear hK K
      cases hsub : subD T x y
      · refine wpAnyH_take (i := 10) (v := .bool true) rfl (by kernel_rfl) (by kernel_rfl) (by kernel_rfl) (fun _ _ _ h => h) (Or.inl ⟨by rfl, fun w _ => by go_simp⟩) hS2 ?_
        refine wpAnyH_done (by kernel_rfl) ?_ _
        have HR : Hid (subF T a b = false) := hide (by
          cases hq : subF T a b
          · rfl
          · exfalso
            have := (unhide HI).1 hq k x y (by rw [unhide HN]; exact hlt) (unhide HXA) (unhide HXB)
            rw [hsub] at this
            cases this)
        clear hS hS2 xa2 xb2 xa xb FA FB HW TD hB2 oa ob hsub
        go_wp2
        go_ret
        exact ⟨ret_bool (unhide HR).symm, unhide HW2⟩
      · refine wpAnyH_take (i := 10) (v := .bool false) rfl (by kernel_rfl) (by kernel_rfl) (by kernel_rfl) (fun _ _ _ h => h) (Or.inl ⟨by rfl, fun w _ => by go_simp⟩) hS2 ?_
        refine wpAnyH_done (by kernel_rfl) ?_ _
        have HK2 : Hid (∀ j x y, j < k + 1 → a.sl[j]? = some x → b.sl[j]? = some y → subD T x y = true) := hide (fun j u v h1 h2 h3 => by
          by_cases e : j = k
          · rw [e, unhide HXA] at h2
            rw [e, unhide HXB] at h3
            injection h2 with h2
            injection h3 with h3
            rw [← h2, ← h3]; exact hsub
          · exact unhide HK j u v (by omega) h2 h3)
        clear hS hS2 xa2 xb2 xa xb FA FB HW TD hB2 oa ob hsub HK
        go_wp2
        go_roundw
        case rel => exact ⟨k + 1, by omega, by go_num, HK2, FA2, FB2, HW2⟩
        case measure => simp [intOf]; omega
    · have j1 : ¬ ((k : Nat) : Int) < a.lo + a.he := by rw [unhide HM0]; omega
      have HR : Hid (subF T a b = true) := hide ((unhide HI).2 (fun i x y hi hx hy => unhide HK i x y (by rw [unhide HN] at hi; omega) hx hy))
      go_wp2
      go_ret
      exact ⟨ret_bool (unhide HR).symm, unhide HW⟩
end Go.Proofs.YtkodmpcnndbngaaGreatDoor
