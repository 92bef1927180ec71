/-
  The contract of frames.Check: what the plain function 'chkF' says; nothing old is turned.
-/
import Derived.Test.YtkodmpcnndbngaaGreatDoorKFrK
import Derived.Test.YtkodmpcnndbngaaGreatDoorJTY
import Derived.Deep.RegionHeld3
import Derived.Deep.RegionWith
namespace Go.Proofs.YtkodmpcnndbngaaGreatDoor
open Go.RowKit
set_option maxRecDepth 20000

theorem FAt.range {W : World} {g : Nat} {f : Fr} (h : FAt W g f) : W.rangeAt g 0 (frL f) := fun j v hv => by
  rw [Nat.zero_add, cell_of_row _ _ _ _ _ _ h]
  simpa [frA] using hv
theorem frL_len {f : Fr} (h : FrOk f) : (frL f).length = 26 := by simp [frL, slV_length, h.len]
theorem frL_one (f : Fr) : ∀ v ∈ frL f, v.oneCell' = true := by
  intro v hv
  simp only [frL, slV, List.mem_cons, List.mem_map] at hv
  rcases hv with rfl | rfl | ⟨t, _, rfl⟩ <;> rfl
theorem sizeFrL {f : Fr} (h : FrOk f) : (Tryz.prog.info? 29).map (·.size) = some (frL f).length := by
  rw [frL_len h]
  kernel_rfl

theorem yieldsIf_load_fr {ops : Array Oper} {S : World → Prop} {op : Oper} {a : Act} (hw : Region.wanted op (yielded ops a.tmps) = true) (x : Operand) (ho : op.op = .load 29 x)
    (g : Nat) (hx : a.eval x = .pointer (some ⟨g, 0, none⟩)) (f : Fr) (hf : FrOk f) (hS : ∀ w, S w → FAt w g f) : YieldsIf Tryz.prog ops S op (.agg (frA f)) a :=
  .inl ⟨hw, fun w hw' => by
    unfold execOp
    simp only [ho, hx, Instr.loadAt, Instr.sureAddr, Sem.run_bind, Sem.run_pure, Result.andThen_ok, run_loadVar_row w g 29 29 (frA f) (0, 0) _ (hS w hw') Tryz.underlying29 rfl (sizeFr hf)]⟩

set_option maxHeartbeats 2000000 in
theorem CheckF_any (ao : Option Addr) (c n : Nat) (f : Fr) (w : World) (hf : FrOk f) :
    Calls Tryz.prog 31 #[.slice ao n c, .agg (frA f)] w fun e w' => e = .returned (.int .i64 (chkF n f)) ∧ Below w.heap.size w w' := by
  have HF := hide hf
  have H1 := hide (FAt.new w f)
  have HB : Hid (Below w.heap.size w (w.alloc (.cells (frA f) 29))) := hide ((Below.refl _ _).alloc (Nat.le_refl _) _)
  by_cases hs : shapeD f = true
  · have HS := hide hs
    have hq : ∀ W, (binOp .neq 29 (.agg (frA f)) (.agg (frA (trimD f)))).run Tryz.prog W = .ok (.bool (!frEq f (trimD f))) W := fun W => run_neqFr W hf (trim_ok hf hs)
    clear hf
    go_enter Tryz.func31, Tryz.ntmps31
    go_wp2
    generalize (w.alloc (.cells (frA f) 29)) = W at H1 HB ⊢
    have HBd : Hid (Below w.heap.size w W.drew) := hide ((unhide HB).trans ⟨rfl, rfl, rfl, Nat.le_refl _, fun _ _ => rfl⟩)
    refine wp_region_held_drew (S := fun w' => FAt w' w.heap.size f) (by kernel_rfl) (unhide H1) (fun hS => ?_)
    refine wpAnyH_take (i := 0) (v := .agg (frA f)) rfl (by kernel_rfl) (by kernel_rfl) (by kernel_rfl) (fun _ _ _ h => h) (yieldsIf_load_fr (by rfl) _ rfl w.heap.size rfl f (unhide HF) (fun _ h => h)) hS ?_
    refine wpAnyH_ready (rs := [1]) (by kernel_rfl) (by simp) ?_
    refine AllReadyH.cons rfl (fun K hK => ?_) AllReadyH.nil
    go_simp
    go_wp2_with (go_at_call 55; refine (shapeCanBe_any f _ (unhide HF)).mono ?_; rintro e W1 ⟨rfl, hB1⟩)
    refine hK.out _ _ (hS.below hB1 hS.lt) (fun hS1 => ?_)
    clear hK K
    have HB1 := hide ((unhide HBd).trans (hB1.mono (unhide HBd).size))
    clear hB1 hS HBd HB H1 hs W
    refine wpAnyH_take (i := 2) (v := .bool false) rfl (by kernel_rfl) (by kernel_rfl) (by kernel_rfl) (fun _ _ _ h => h) (Or.inl ⟨by rfl, fun w _ => by go_simp⟩) hS1 ?_
    refine wpAnyH_take (i := 3) (v := .bool false) rfl (by kernel_rfl) (by kernel_rfl) (by kernel_rfl) (fun _ _ _ h => h) (Or.inl ⟨by rfl, fun w _ => by go_simp⟩) hS1 ?_
    refine wpAnyH_take (i := 4) (v := .agg (frA f)) rfl (by kernel_rfl) (by kernel_rfl) (by kernel_rfl) (fun _ _ _ h => h) (yieldsIf_load_fr (by rfl) _ rfl w.heap.size rfl f (unhide HF) (fun _ h => h)) hS1 ?_
    refine wpAnyH_take (i := 5) (v := .agg (frA f)) rfl (by kernel_rfl) (by kernel_rfl) (by kernel_rfl) (fun _ _ _ h => h) (yieldsIf_load_fr (by rfl) _ rfl w.heap.size rfl f (unhide HF) (fun _ h => h)) hS1 ?_
    refine wpAnyH_ready (rs := [6]) (by kernel_rfl) (by simp) ?_
    refine AllReadyH.cons rfl (fun K hK => ?_) AllReadyH.nil
    go_simp
    go_wp2_with (go_at_call 56; refine (trimmed_any f _ (unhide HF) (unhide HS)).mono ?_; rintro e W2 ⟨rfl, hB2⟩)
    refine hK.out _ _ (hS1.below hB2 hS1.lt) (fun hS2 => ?_)
    clear hK K
    have HB2 := hide ((unhide HB1).trans (hB2.mono (unhide HB1).size))
    clear hB2 hS1 HB1 W1
    have F2 := hide hS2
    cases hqq : frEq f (trimD f)
    · rw [hqq] at hq
      have HR : Hid (chkF n f = 32) := hide (by unfold chkF; rw [if_neg (by rw [unhide HS]; simp), if_pos hqq])
      clear hqq
      refine wpAnyH_take (i := 7) (v := .bool true) rfl (by kernel_rfl) (by kernel_rfl) (by kernel_rfl) (fun _ _ _ h => h) (Or.inl ⟨by rfl, fun w _ => by go_simp⟩) hS2 ?_
      refine wpAnyH_take (i := 8) (v := .bool true) rfl (by kernel_rfl) (by kernel_rfl) (by kernel_rfl) (fun _ _ _ h => h) (Or.inl ⟨by rfl, fun w _ => by go_simp⟩) hS2 ?_
      refine wpAnyH_done (by kernel_rfl) ?_ _
      go_wp2
      go_ret
      exact ⟨ret_int (unhide HR).symm, unhide HB2⟩
    · rw [hqq] at hq
      have HQ := hide hqq
      clear hqq
      refine wpAnyH_take (i := 7) (v := .bool false) rfl (by kernel_rfl) (by kernel_rfl) (by kernel_rfl) (fun _ _ _ h => h) (Or.inl ⟨by rfl, fun w _ => by go_simp⟩) hS2 ?_
      refine wpAnyH_take (i := 8) (v := .bool false) rfl (by kernel_rfl) (by kernel_rfl) (by kernel_rfl) (fun _ _ _ h => h) (Or.inl ⟨by rfl, fun w _ => by go_simp⟩) hS2 ?_
      refine wpAnyH_done (by kernel_rfl) ?_ _
      clear hq hS2
      go_wp2_with (refine wpList_load_row rfl 29 _ rfl w.heap.size rfl 29 (frA f) (0, 0) _ (unhide F2) Tryz.underlying29 rfl (sizeFr (unhide HF)) ?_)
      refine (size_any f _ (unhide HS)).mono ?_
      rintro e W3 ⟨rfl, hB3⟩
      have F3 := hide ((unhide F2).below hB3 (unhide F2).lt)
      have HB3 := hide ((unhide HB2).trans (hB3.mono (unhide HB2).size))
      clear hB3 F2 HB2 W2
      obtain ⟨h0, h1, h2, h3⟩ := shapeD_iff.1 (unhide HS)
      obtain ⟨m, hm⟩ : ∃ m : Nat, f.lo + f.he = (m : Int) := ⟨nF f, by unfold nF; omega⟩
      have hm24 : m ≤ 24 := by omega
      have HN : Hid (nF f = m) := hide (by unfold nF; omega)
      rw [hm]
      clear hm h0 h1 h2 h3
      go_wp2
      go_loopw [17] (fun i wq => (∃ k : Nat, k ≤ m ∧ i = .int .i64 (k : Int) ∧ Hid (∀ j t, j < k → f.sl[j]? = some t → validD n t = true)) ∧ wq = W3) (fun i _ => m - (intOf i).toNat)
      case atStart => exact ⟨⟨0, by omega, rfl, hide (fun j t h => by omega)⟩, rfl⟩
      case round =>
        obtain ⟨⟨k, hk, rfl, HV⟩, rfl⟩ := hrel
        by_cases hlt : k < m
        · have j1 : ((k : Nat) : Int) < ((m : Nat) : Int) := by omega
          have j2 : ((k : Nat) : Int) < 24 := by omega
          have hlen : k < f.sl.length := by rw [(unhide HF).len]; omega
          have hx := List.getElem?_eq_getElem hlen
          have d1 := (unhide F3).slot hx
          have hx256 := (unhide HF).byte _ (List.getElem_mem hlen)
          generalize f.sl[k] = x at hx d1 hx256
          have HX := hide hx
          clear hx hlen
          go_wp2_with fail
          refine (Valid_any ao n c x _ hx256).mono ?_
          rintro e W4 ⟨rfl, rfl⟩
          cases hv : validD n x
          · have HR : Hid (chkF n f = 22) := hide (by
              unfold chkF
              rw [if_neg (by rw [unhide HS]; simp), if_neg (by rw [unhide HQ]; simp), if_neg]
              intro h
              have := (all_iff (by rw [(unhide HF).len, unhide HN]; exact hm24)).1 h k x (by rw [unhide HN]; exact hlt) (unhide HX)
              rw [hv] at this
              cases this)
            go_wp2
            go_ret
            exact ⟨ret_int (unhide HR).symm, unhide HB3⟩
          · have HV2 : Hid (∀ j t, j < k + 1 → f.sl[j]? = some t → validD n t = true) := hide (fun j t h1 h2 => by
              by_cases e : j = k
              · rw [e, unhide HX] at h2
                injection h2 with h2
                rw [← h2]; exact hv
              · exact unhide HV j t (by omega) h2)
            clear HV HX hv
            go_wp2
            go_roundw
            case rel => exact ⟨⟨k + 1, by omega, by go_num, HV2⟩, by trivial⟩
            case measure => simp [intOf]; omega
        · have j1 : ¬ ((k : Nat) : Int) < ((m : Nat) : Int) := by omega
          have HR : Hid (chkF n f = 0) := hide (by
            unfold chkF
            rw [if_neg (by rw [unhide HS]; simp), if_neg (by rw [unhide HQ]; simp), if_pos]
            exact (all_iff (by rw [(unhide HF).len, unhide HN]; exact hm24)).2 (fun j t h1 h2 => unhide HV j t (by rw [unhide HN] at h1; omega) h2))
          go_wp2
          go_ret
          exact ⟨ret_int (unhide HR).symm, unhide HB3⟩
  · have hs' : shapeD f = false := by simpa using hs
    have HR : Hid (chkF n f = 32) := hide (by unfold chkF; rw [if_pos hs'])
    clear hf hs
    go_enter Tryz.func31, Tryz.ntmps31
    go_wp2
    generalize (w.alloc (.cells (frA f) 29)) = W at H1 HB ⊢
    have HBd : Hid (Below w.heap.size w W.drew) := hide ((unhide HB).trans ⟨rfl, rfl, rfl, Nat.le_refl _, fun _ _ => rfl⟩)
    refine wp_region_held_drew (S := fun w' => FAt w' w.heap.size f) (by kernel_rfl) (unhide H1) (fun hS => ?_)
    refine wpAnyH_take (i := 0) (v := .agg (frA f)) rfl (by kernel_rfl) (by kernel_rfl) (by kernel_rfl) (fun _ _ _ h => h) (yieldsIf_load_fr (by rfl) _ rfl w.heap.size rfl f (unhide HF) (fun _ h => h)) hS ?_
    refine wpAnyH_ready (rs := [1]) (by kernel_rfl) (by simp) ?_
    refine AllReadyH.cons rfl (fun K hK => ?_) AllReadyH.nil
    go_simp
    go_wp2_with (go_at_call 55; refine (shapeCanBe_any f _ (unhide HF)).mono ?_; rintro e W1 ⟨rfl, hB1⟩)
    refine hK.out _ _ (hS.below hB1 hS.lt) (fun hS1 => ?_)
    clear hK K
    have HB1 := hide ((unhide HBd).trans (hB1.mono (unhide HBd).size))
    clear hB1 hS HBd HB H1 hs' W
    refine wpAnyH_take (i := 2) (v := .bool true) rfl (by kernel_rfl) (by kernel_rfl) (by kernel_rfl) (fun _ _ _ h => h) (Or.inl ⟨by rfl, fun w _ => by go_simp⟩) hS1 ?_
    refine wpAnyH_take (i := 3) (v := .bool true) rfl (by kernel_rfl) (by kernel_rfl) (by kernel_rfl) (fun _ _ _ h => h) (Or.inl ⟨by rfl, fun w _ => by go_simp⟩) hS1 ?_
    refine wpAnyH_take (i := 4) (v := undef) rfl (by kernel_rfl) (by kernel_rfl) (by kernel_rfl) (fun _ _ _ h => h) (Or.inr ⟨by rfl, rfl⟩) hS1 ?_
    refine wpAnyH_take (i := 5) (v := undef) rfl (by kernel_rfl) (by kernel_rfl) (by kernel_rfl) (fun _ _ _ h => h) (Or.inr ⟨by rfl, rfl⟩) hS1 ?_
    refine wpAnyH_take (i := 6) (v := undef) rfl (by kernel_rfl) (by kernel_rfl) (by kernel_rfl) (fun _ _ _ h => h) (Or.inr ⟨by rfl, rfl⟩) hS1 ?_
    refine wpAnyH_take (i := 7) (v := undef) rfl (by kernel_rfl) (by kernel_rfl) (by kernel_rfl) (fun _ _ _ h => h) (Or.inr ⟨by rfl, rfl⟩) hS1 ?_
    refine wpAnyH_take (i := 8) (v := .bool true) rfl (by kernel_rfl) (by kernel_rfl) (by kernel_rfl) (fun _ _ _ h => h) (Or.inl ⟨by rfl, fun w _ => by go_simp⟩) hS1 ?_
    refine wpAnyH_done (by kernel_rfl) ?_ _
    go_wp2
    go_ret
    exact ⟨ret_int (unhide HR).symm, unhide HB1⟩
end Go.Proofs.YtkodmpcnndbngaaGreatDoor
