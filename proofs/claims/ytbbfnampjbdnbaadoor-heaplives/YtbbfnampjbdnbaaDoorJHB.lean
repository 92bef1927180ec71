/-
  Texts of contracts and plain lemmas, one behind another; each says at its head what it holds.
-/
import Derived.Test.YtbbfnampjbdnbaaDoorJHA
import Derived.Test.YtbbfnampjbdnbaaDoorKHq4
import Derived.Test.YtbbfnampjbdnbaaDoorJTZ
import Derived.Deep.RegionHeld
import Derived.Deep.MidRow
import Derived.Deep.DeepCutAuto
import Derived.Test.YtbbfnampjbdnbaaDoorJCH
/-
  The document's heap: made, Record, MakeRow. Conditions: lengths fit.
-/
namespace Go.Proofs.YtbbfnampjbdnbaaDoor
open Go.RowKit
set_option maxRecDepth 20000
set_option linter.unusedVariables false
set_option linter.unusedSimpArgs false

theorem infoRb : (Tryd.prog.info? 87).map (fun i => (i.zero, i.size, i.bytes)) = some (some (.agg #[.bool false, .int .i64 0, .slice none 0 0]), 3, 40) := by kernel_rfl
theorem make_iR {N : Nat} (hN : N ≤ 4097) (W : World) : (Instr.makeSlice 42 (.int .i64 (N : Int)) (.int .i64 (N : Int))).run Tryd.prog W = .ok (.slice (some ⟨W.heap.size, 0, none⟩) N N) (W.alloc (.cells (Array.replicate N (Value.int .i64 0)) 3)) := by
  obtain ⟨i, hi, hz0, hz1, hz2⟩ := info_parts infoJ
  have h := run_makeSlice (P := Tryd.prog) (w := W) 42 3 i (.int .i64 0) Tryd.underlying42 hi hz0 .i64 .i64 (N : Int) (N : Int) (by omega) (by omega) (by rw [hz1]; simp; omega) (by rw [hz2]; omega) (by omega)
  rw [hz1, show ((N : Nat) : Int).toNat = N from by simp, Nat.mul_one] at h
  rw [h]
  show Result.ok _ (W.alloc (.cells (madeCells #[.int .i64 0] N) _)) = _
  rw [made_oneH]
  simp
theorem own_made {N : Nat} (hN : N ≤ 4097) {W : World} {B : Nat} (hB : B ≤ W.heap.size) : OwnJ (W.alloc (.cells (Array.replicate N (Value.int .i64 0)) 3)) B (.slice (some ⟨W.heap.size, 0, none⟩) N N) (List.replicate N 0) := by
  unfold OwnJ
  rw [List.length_replicate]
  refine ⟨by simp [jvals], Or.inr ⟨W.heap.size, N, Array.replicate N (Value.int .i64 0), rfl, hB, heap_alloc_new W _, Nat.le_refl _, by unfold maxLen; omega, by simp, ?_⟩⟩
  simp [jvals]
/-- One more object. -/
theorem RpAt.app {B : Nat} {W w3 : World} {g : Nat} {p : Rp} (H : RpAt B W g p) (x : Rb) (g3 cap3 : Nat) (hx : OwnJ W B x.pv x.ps) (hn : ∀ y ∈ p.R, ∀ k, y.pv.ownBlock = some k → x.pv.ownBlock ≠ some k) (hBW : B ≤ W.heap.size)
    (hown : w3.ownsRow B 87 3 (.slice (some ⟨g3, 0, none⟩) (p.R.length + 1) cap3) (p.R.length + 1) (rbvals p.R ++ rbC x)) (hg : W.grownBy w3 p.ov.ownBlock) :
    RpAt B (w3.setCell ⟨g, 2, none⟩ (.slice (some ⟨g3, 0, none⟩) (p.R.length + 1) cap3)) g { p with ov := .slice (some ⟨g3, 0, none⟩) (p.R.length + 1) cap3, R := p.R ++ [x] } ∧ Kp B [61, 87] W (w3.setCell ⟨g, 2, none⟩ (.slice (some ⟨g3, 0, none⟩) (p.R.length + 1) cap3)) ∧ Bx w3 g 61 (rpC p) := by
  have k1 : Kp B [87] W w3 := Kp.of_grown hg hBW (own_block H.own)
  have b3 : Bx w3 g 61 (rpC p) := H.box.kp k1 (by decide)
  have k2 : Kp B [61] w3 (w3.setCell ⟨g, 2, none⟩ (.slice (some ⟨g3, 0, none⟩) (p.R.length + 1) cap3)) := Kp.set b3 H.lo (by simp) 2 _
  refine ⟨⟨H.lo, b3.set 2 _ rfl, ?_, ?_, ?_⟩, (k1.mono (Nat.le_refl _) (by simp)).trans (k2.mono (Nat.le_refl _) (by simp)), b3⟩
  · show World.ownsRow _ B 87 3 _ (p.R ++ [x]).length (rbvals (p.R ++ [x]))
    have e : rbvals (p.R ++ [x]) = rbvals p.R ++ rbC x := by unfold rbvals; simp
    rw [e, List.length_append]
    exact own_kp hown k2 (by decide)
  · intro y hy
    have hy : y ∈ p.R ++ [x] := hy
    rcases List.mem_append.1 hy with hy | hy
    · exact own_kp (own_kp (H.pls y hy) k1 (by decide)) k2 (by decide)
    · rw [List.mem_singleton] at hy
      subst hy
      exact own_kp (own_kp hx k1 (by decide)) k2 (by decide)
  · show (p.R ++ [x]).Pairwise _
    rw [List.pairwise_append]
    refine ⟨H.nd, by simp, fun a ha b hb => ?_⟩
    rw [List.mem_singleton] at hb
    subst hb
    exact hn a ha
/-- The heap behind made. -/
def RMadeIs (p : Rp) (c : Int) (n : Nat) (p' : Rp) (r er : Int) : Prop :=
  (p.room - (usedR p.R : Int) ≤ (n : Int) ∧ r = 0 ∧ er = 7 ∧ p' = p) ∨ ((n : Int) < p.room - (usedR p.R : Int) ∧ r = (p.R.length : Int) + 1 ∧ er = 0 ∧ ∃ ov pv, p' = { p with ov := ov, R := p.R ++ [⟨true, c, pv, List.replicate n 0⟩] })
set_option maxRecDepth 20000 in
set_option maxHeartbeats 4000000 in
theorem refMade_any (B g : Nat) (p : Rp) (c : Int) (n : Nat) (w : World) (H : RpAt B w g p) (hr : 0 ≤ p.room ∧ p.room ≤ 4096) (hu : (usedR p.R : Int) ≤ p.room) (hl : p.R.length ≤ 3000000000000) (hnn : n < 9223372036854775808) :
    Calls Tryd.prog 44 #[.pointer (some ⟨g, 0, none⟩), .int .i64 c, .int .i64 (n : Int)] w fun e w' => ∃ p' r er, e = .returned (.tuple #[.int .i64 r, .int .i64 er]) ∧ RMadeIs p c n p' r er ∧ RpAt B w' g p' ∧ Kp B [61, 87] w w' := by
  obtain ⟨i0, hi0, hz0, hz1, hz2⟩ := info_parts infoRb
  have HH := hide H
  have HBB := hide H.size_le
  have c1 := H.box.c 1 (v := .int .i64 p.room) rfl
  obtain ⟨u, HU⟩ : ∃ u, Hid (usedR p.R = u) := ⟨_, hide rfl⟩
  have HUS := hide (fun j => refUsed_any B g p (w.drewN j) (H.below (belowD (Below.refl _ _) j)) (by omega) (by omega))
  rw [unhide HU] at hu HUS
  have HIS : Hid (∀ p' r er, RMadeIs p c n p' r er ↔ (p.room - (u : Int) ≤ (n : Int) ∧ r = 0 ∧ er = 7 ∧ p' = p) ∨ ((n : Int) < p.room - (u : Int) ∧ r = (p.R.length : Int) + 1 ∧ er = 0 ∧ ∃ ov pv, p' = { p with ov := ov, R := p.R ++ [⟨true, c, pv, List.replicate n 0⟩] })) := hide (fun p' r er => by unfold RMadeIs; rw [unhide HU])
  clear H
  go_enter Tryd.func44, Tryd.ntmps44
  by_cases hf : p.room - (u : Int) ≤ (n : Int)
  · have HF := hide hf
    by_cases hn1 : (n : Int) > p.room
    · go_wp2_with fail
      go_quiet ((go_at_call 32; with_reducible exact Calls.quiet_of_same (unhide HUS _)))
      go_wp2
      go_ret2
      exact ⟨p, 0, 7, rfl, (unhide HIS _ _ _).2 (Or.inl ⟨unhide HF, rfl, rfl, rfl⟩), (unhide HH).below (belowD (Below.refl _ _) nq), Kp.of_below (belowD (Below.refl _ _) nq) (unhide HBB)⟩
    · have hr1 := hr.1
      have hr2 := hr.2
      have hw1 : IntKind.i64.wrap (1 + (n : Int)) = 1 + (n : Int) := by simp [IntKind.wrap, IntKind.bits, IntKind.signed]; omega
      have hw2 : IntKind.i64.wrap (p.room - (u : Int)) = p.room - (u : Int) := by simp [IntKind.wrap, IntKind.bits, IntKind.signed]; omega
      have hn2 : 1 + (n : Int) > p.room - (u : Int) := by omega
      go_wp2_with fail
      go_quiet ((go_at_call 32; with_reducible exact Calls.quiet_of_same (unhide HUS _)))
      go_wp2
      go_ret2
      exact ⟨p, 0, 7, rfl, (unhide HIS _ _ _).2 (Or.inl ⟨unhide HF, rfl, rfl, rfl⟩), (unhide HH).below (belowD (Below.refl _ _) nq), Kp.of_below (belowD (Below.refl _ _) nq) (unhide HBB)⟩
  · have HF : Hid ((n : Int) < p.room - (u : Int)) := hide (by omega)
    have hn6 : n ≤ 4096 := by omega
    have hn1 : ¬ (n : Int) > p.room := by omega
    have hr1 := hr.1
    have hr2 := hr.2
    have hw1 : IntKind.i64.wrap (1 + (n : Int)) = 1 + (n : Int) := by simp [IntKind.wrap, IntKind.bits, IntKind.signed]; omega
    have hw2 : IntKind.i64.wrap (p.room - (u : Int)) = p.room - (u : Int) := by simp [IntKind.wrap, IntKind.bits, IntKind.signed]; omega
    have hn2 : ¬ 1 + (n : Int) > p.room - (u : Int) := by omega
    go_wp2_with fail
    go_quiet ((go_at_call 32; with_reducible exact Calls.quiet_of_same (unhide HUS _)))
    have HH1 := hide ((unhide HH).below (belowD (Below.refl _ _) nq))
    have HK1 : Hid (Kp B [61, 87] w (w.drewN nq)) := hide (Kp.of_below (belowD (Below.refl _ _) nq) (unhide HBB))
    clear c1 HH HUS
    generalize w.drewN nq = W1 at HH1 HK1 ⊢
    go_upto_region 3 with fail
    go_cut [] (fun wx => ∃ ov pv, Hid (RpAt B wx g { p with ov := ov, R := p.R ++ [⟨true, c, pv, List.replicate n 0⟩] } ∧ Kp B [61, 87] w wx))
    case first =>
      have hS0 : True := trivial
      refine wp_region_held_drew (S := fun w' => True) (by kernel_rfl) hS0 (fun hS => ?_)
      have HD : Hid (Below W1.heap.size W1 W1.drew) := hide (belowD (Below.refl _ _) 1)
      have HHd := hide ((unhide HH1).below (unhide HD))
      have HKd := hide ((unhide HK1).trans (Kp.of_below (unhide HD) (unhide HH1).size_le))
      clear hS0 HH1 HK1 HD
      generalize W1.drew = Wd at hS HHd HKd ⊢
      obtain ⟨oa, oc, hov⟩ := (unhide HHd).ovs
      have HOV : Hid (p.ov = .slice oa p.R.length oc) := hide hov
      have HPD := hide ((unhide HHd).below ((Below.refl Wd.heap.size Wd).alloc (Nat.le_refl _) (.cells (Array.replicate n (Value.int .i64 0)) 3)))
      have HOB0 := hide (own_made (N := n) (by omega) (W := Wd) (unhide HHd).size_le)
      have HNP : Hid (∀ y ∈ p.R, ∀ k, y.pv.ownBlock = some k → (Value.slice (some ⟨Wd.heap.size, 0, none⟩) n n).ownBlock ≠ some k) := hide (fun y hy k hk e => by
        have h1 := ((unhide HHd).pls y hy).lt k hk
        have e : Wd.heap.size = k := by injection e
        have := h1.2
        omega)
      have c2 := (unhide HHd).box.c 2 (v := p.ov) rfl
      have c2a := (unhide HPD).box.c 2 (v := p.ov) rfl
      rw [hov] at c2 c2a
      clear hov
      refine wpAnyH_take (i := 0) (v := .pointer (some ⟨g, 0, none⟩)) rfl (by kernel_rfl) (by kernel_rfl) (by kernel_rfl) (fun _ _ _ h => h) (Or.inl ⟨by rfl, fun w _ => by go_simp⟩) hS ?_
      refine wpAnyH_take (i := 1) (v := .pointer (some ⟨g, 0, none⟩)) rfl (by kernel_rfl) (by kernel_rfl) (by kernel_rfl) (fun _ _ _ h => h) (Or.inl ⟨by rfl, fun w _ => by go_simp⟩) hS ?_
      go_simp
      refine wpAnyH_take (i := 2) (v := .pointer (some ⟨g, 0, none⟩)) rfl (by kernel_rfl) (by kernel_rfl) (by kernel_rfl) (fun _ _ _ h => h) (Or.inl ⟨by rfl, fun w _ => by go_simp⟩) hS ?_
      refine wpAnyH_take (i := 3) (v := .pointer (some ⟨g, 2, none⟩)) rfl (by kernel_rfl) (by kernel_rfl) (by kernel_rfl) (fun _ _ _ h => h) (Or.inl ⟨by rfl, fun w _ => by go_simp⟩) hS ?_
      go_simp
      refine wpAnyH_take (i := 5) (v := .int .i64 c) rfl (by kernel_rfl) (by kernel_rfl) (by kernel_rfl) (fun _ _ _ h => h) (Or.inl ⟨by rfl, fun w _ => by go_simp⟩) hS ?_
      refine wpAnyH_take (i := 6) (v := .int .i64 (n : Int)) rfl (by kernel_rfl) (by kernel_rfl) (by kernel_rfl) (fun _ _ _ h => h) (Or.inl ⟨by rfl, fun w _ => by go_simp⟩) hS ?_
      go_simp
      refine wpAnyH_ready (rs := [4, 7]) (by kernel_rfl) (by simp) ?_
      refine (AllReadyH.cons rfl (fun K hK => ?_) (AllReadyH.cons rfl (fun K hK => ?_) AllReadyH.nil))
      · go_simp
        refine hK.out _ _ trivial (fun hS1 => ?_)
        clear hK K
        refine wpAnyH_ready (rs := [7]) (by kernel_rfl) (by simp) ?_
        refine (AllReadyH.cons rfl (fun K hK => ?_) AllReadyH.nil)
        have hmk := make_iR (N := n) (by omega) Wd
        go_simp
        refine hK.out _ _ trivial (fun hS1 => ?_)
        clear hK K
        clear hmk
        refine wpAnyH_take (i := 8) (v := .agg #[.bool true, .int .i64 c, .slice (some ⟨Wd.heap.size, 0, none⟩) n n]) rfl (by kernel_rfl) (by kernel_rfl) (by kernel_rfl) (fun _ _ _ h => h) (Or.inl ⟨by rfl, fun w _ => by go_simp⟩) hS ?_
        refine wpAnyH_ready (rs := [9]) (by kernel_rfl) (by simp) ?_
        refine (AllReadyH.cons rfl (fun K hK => ?_) AllReadyH.nil)
        go_simp
        refine hK.out _ _ trivial (fun hS1 => ?_)
        clear hK K
        refine wpAnyH_ready (rs := [10]) (by kernel_rfl) (by simp) ?_
        refine (AllReadyH.cons rfl (fun K hK => ?_) AllReadyH.nil)
        rw [if_pos (by rfl)]
        have HP2 := hide ((unhide HPD).below ((Below.refl (Wd.alloc (.cells (Array.replicate n (Value.int .i64 0)) 3)).heap.size (Wd.alloc (.cells (Array.replicate n (Value.int .i64 0)) 3))).alloc (Nat.le_refl _) (.cells #[.bool true, .int .i64 c, .slice (some ⟨Wd.heap.size, 0, none⟩) n n] 87)))
        have HO2 := hide (OwnJ.below (unhide HOB0) ((Below.refl (Wd.alloc (.cells (Array.replicate n (Value.int .i64 0)) 3)).heap.size (Wd.alloc (.cells (Array.replicate n (Value.int .i64 0)) 3))).alloc (Nat.le_refl _) (.cells #[.bool true, .int .i64 c, .slice (some ⟨Wd.heap.size, 0, none⟩) n n] 87)))
        have HOd : Hid (World.ownsRow ((Wd.alloc (.cells (Array.replicate n (Value.int .i64 0)) 3)).alloc (.cells #[.bool true, .int .i64 c, .slice (some ⟨Wd.heap.size, 0, none⟩) n n] 87)) B 87 3 (.slice oa p.R.length oc) p.R.length (rbvals p.R)) := hide (by rw [← unhide HOV]; exact (unhide HP2).own)
        have hB2 := (unhide HP2).size_le
        have hNB := heap_alloc_new (Wd.alloc (.cells (Array.replicate n (Value.int .i64 0)) 3)) (.cells #[.bool true, .int .i64 c, .slice (some ⟨Wd.heap.size, 0, none⟩) n n] 87)
        rw [World.size_alloc] at hNB
        refine wp_append_lies (w := ((Wd.alloc (.cells (Array.replicate n (Value.int .i64 0)) 3)).alloc (.cells #[.bool true, .int .i64 c, .slice (some ⟨Wd.heap.size, 0, none⟩) n n] 87))) _ _ 59 (by rfl) B 87 i0 _ 3 40 Tryd.underlying59 hi0 hz0 hz1 hz2 rfl (by omega) (.slice oa p.R.length oc) p.R.length (rbvals p.R) (by rfl) (unhide HOd) ⟨Wd.heap.size + 1, 0, none⟩ 1 1 (rbC ⟨true, c, .slice (some ⟨Wd.heap.size, 0, none⟩) n n, List.replicate n 0⟩) (by rfl) (by rfl) (World.news_of_block (cs := (rbC ⟨true, c, .slice (some ⟨Wd.heap.size, 0, none⟩) n n, List.replicate n 0⟩).toArray) (t := 87) (fr := (0, 0)) hNB) (by intro u hu; simp [rbC] at hu; rcases hu with rfl | rfl | rfl <;> rfl) (by omega) (by unfold maxLen; omega) (by omega) hB2 ((Wd.alloc (.cells (Array.replicate n (Value.int .i64 0)) 3)).alloc (.cells #[.bool true, .int .i64 c, .slice (some ⟨Wd.heap.size, 0, none⟩) n n] 87)).heap.size rfl ?_
        intro g3 cap3 w3 hown hgrow hat hlt3
        rw [← unhide HOV] at hgrow
        have HF2 := hide ((unhide HP2).app ⟨true, c, .slice (some ⟨Wd.heap.size, 0, none⟩) n n, List.replicate n 0⟩ g3 cap3 (unhide HO2) (unhide HNP) hB2 hown hgrow)
        have HK2 : Hid (Kp B [61, 87] Wd ((Wd.alloc (.cells (Array.replicate n (Value.int .i64 0)) 3)).alloc (.cells #[.bool true, .int .i64 c, .slice (some ⟨Wd.heap.size, 0, none⟩) n n] 87))) := hide (Kp.of_below (((Below.refl Wd.heap.size Wd).alloc (Nat.le_refl _) _).alloc (by rw [World.size_alloc]; omega) _) (unhide HHd).size_le)
        have k4 := (unhide HF2).2.2.c 2 (v := p.ov) rfl
        have f4 := (unhide HF2).2.2.f 2
        clear hown hgrow hat hlt3 hNB
        refine hK.out _ _ trivial (fun hS1 => ?_)
        clear hK K
        refine wpAnyH_take (i := 11) (v := .pointer (some ⟨g, 0, none⟩)) rfl (by kernel_rfl) (by kernel_rfl) (by kernel_rfl) (fun _ _ _ h => h) (Or.inl ⟨by rfl, fun w _ => by go_simp⟩) hS ?_
        refine wpAnyH_take (i := 12) (v := .pointer (some ⟨g, 2, none⟩)) rfl (by kernel_rfl) (by kernel_rfl) (by kernel_rfl) (fun _ _ _ h => h) (Or.inl ⟨by rfl, fun w _ => by go_simp⟩) hS ?_
        refine wpAnyH_ready (rs := [13]) (by kernel_rfl) (by simp) ?_
        refine (AllReadyH.cons rfl (fun K hK => ?_) AllReadyH.nil)
        go_simp
        refine hK.out _ _ trivial (fun hS1 => ?_)
        clear hK K
        refine wpAnyH_done (by kernel_rfl) ?_ _
        go_wp2_with fail
        go_meet
        exact ⟨_, _, hide ⟨(unhide HF2).1, ((unhide HKd).trans (unhide HK2)).trans (unhide HF2).2.1⟩⟩
      · have hmk := make_iR (N := n) (by omega) Wd
        go_simp
        refine hK.out _ _ trivial (fun hS1 => ?_)
        clear hK K
        clear hmk
        refine wpAnyH_take (i := 8) (v := .agg #[.bool true, .int .i64 c, .slice (some ⟨Wd.heap.size, 0, none⟩) n n]) rfl (by kernel_rfl) (by kernel_rfl) (by kernel_rfl) (fun _ _ _ h => h) (Or.inl ⟨by rfl, fun w _ => by go_simp⟩) hS ?_
        refine wpAnyH_ready (rs := [4, 9]) (by kernel_rfl) (by simp) ?_
        refine (AllReadyH.cons rfl (fun K hK => ?_) (AllReadyH.cons rfl (fun K hK => ?_) AllReadyH.nil))
        · go_simp
          refine hK.out _ _ trivial (fun hS1 => ?_)
          clear hK K
          refine wpAnyH_ready (rs := [9]) (by kernel_rfl) (by simp) ?_
          refine (AllReadyH.cons rfl (fun K hK => ?_) AllReadyH.nil)
          go_simp
          refine hK.out _ _ trivial (fun hS1 => ?_)
          clear hK K
          refine wpAnyH_ready (rs := [10]) (by kernel_rfl) (by simp) ?_
          refine (AllReadyH.cons rfl (fun K hK => ?_) AllReadyH.nil)
          rw [if_pos (by rfl)]
          have HP2 := hide ((unhide HPD).below ((Below.refl (Wd.alloc (.cells (Array.replicate n (Value.int .i64 0)) 3)).heap.size (Wd.alloc (.cells (Array.replicate n (Value.int .i64 0)) 3))).alloc (Nat.le_refl _) (.cells #[.bool true, .int .i64 c, .slice (some ⟨Wd.heap.size, 0, none⟩) n n] 87)))
          have HO2 := hide (OwnJ.below (unhide HOB0) ((Below.refl (Wd.alloc (.cells (Array.replicate n (Value.int .i64 0)) 3)).heap.size (Wd.alloc (.cells (Array.replicate n (Value.int .i64 0)) 3))).alloc (Nat.le_refl _) (.cells #[.bool true, .int .i64 c, .slice (some ⟨Wd.heap.size, 0, none⟩) n n] 87)))
          have HOd : Hid (World.ownsRow ((Wd.alloc (.cells (Array.replicate n (Value.int .i64 0)) 3)).alloc (.cells #[.bool true, .int .i64 c, .slice (some ⟨Wd.heap.size, 0, none⟩) n n] 87)) B 87 3 (.slice oa p.R.length oc) p.R.length (rbvals p.R)) := hide (by rw [← unhide HOV]; exact (unhide HP2).own)
          have hB2 := (unhide HP2).size_le
          have hNB := heap_alloc_new (Wd.alloc (.cells (Array.replicate n (Value.int .i64 0)) 3)) (.cells #[.bool true, .int .i64 c, .slice (some ⟨Wd.heap.size, 0, none⟩) n n] 87)
          rw [World.size_alloc] at hNB
          refine wp_append_lies (w := ((Wd.alloc (.cells (Array.replicate n (Value.int .i64 0)) 3)).alloc (.cells #[.bool true, .int .i64 c, .slice (some ⟨Wd.heap.size, 0, none⟩) n n] 87))) _ _ 59 (by rfl) B 87 i0 _ 3 40 Tryd.underlying59 hi0 hz0 hz1 hz2 rfl (by omega) (.slice oa p.R.length oc) p.R.length (rbvals p.R) (by rfl) (unhide HOd) ⟨Wd.heap.size + 1, 0, none⟩ 1 1 (rbC ⟨true, c, .slice (some ⟨Wd.heap.size, 0, none⟩) n n, List.replicate n 0⟩) (by rfl) (by rfl) (World.news_of_block (cs := (rbC ⟨true, c, .slice (some ⟨Wd.heap.size, 0, none⟩) n n, List.replicate n 0⟩).toArray) (t := 87) (fr := (0, 0)) hNB) (by intro u hu; simp [rbC] at hu; rcases hu with rfl | rfl | rfl <;> rfl) (by omega) (by unfold maxLen; omega) (by omega) hB2 ((Wd.alloc (.cells (Array.replicate n (Value.int .i64 0)) 3)).alloc (.cells #[.bool true, .int .i64 c, .slice (some ⟨Wd.heap.size, 0, none⟩) n n] 87)).heap.size rfl ?_
          intro g3 cap3 w3 hown hgrow hat hlt3
          rw [← unhide HOV] at hgrow
          have HF2 := hide ((unhide HP2).app ⟨true, c, .slice (some ⟨Wd.heap.size, 0, none⟩) n n, List.replicate n 0⟩ g3 cap3 (unhide HO2) (unhide HNP) hB2 hown hgrow)
          have HK2 : Hid (Kp B [61, 87] Wd ((Wd.alloc (.cells (Array.replicate n (Value.int .i64 0)) 3)).alloc (.cells #[.bool true, .int .i64 c, .slice (some ⟨Wd.heap.size, 0, none⟩) n n] 87))) := hide (Kp.of_below (((Below.refl Wd.heap.size Wd).alloc (Nat.le_refl _) _).alloc (by rw [World.size_alloc]; omega) _) (unhide HHd).size_le)
          have k4 := (unhide HF2).2.2.c 2 (v := p.ov) rfl
          have f4 := (unhide HF2).2.2.f 2
          clear hown hgrow hat hlt3 hNB
          refine hK.out _ _ trivial (fun hS1 => ?_)
          clear hK K
          refine wpAnyH_take (i := 11) (v := .pointer (some ⟨g, 0, none⟩)) rfl (by kernel_rfl) (by kernel_rfl) (by kernel_rfl) (fun _ _ _ h => h) (Or.inl ⟨by rfl, fun w _ => by go_simp⟩) hS ?_
          refine wpAnyH_take (i := 12) (v := .pointer (some ⟨g, 2, none⟩)) rfl (by kernel_rfl) (by kernel_rfl) (by kernel_rfl) (fun _ _ _ h => h) (Or.inl ⟨by rfl, fun w _ => by go_simp⟩) hS ?_
          refine wpAnyH_ready (rs := [13]) (by kernel_rfl) (by simp) ?_
          refine (AllReadyH.cons rfl (fun K hK => ?_) AllReadyH.nil)
          go_simp
          refine hK.out _ _ trivial (fun hS1 => ?_)
          clear hK K
          refine wpAnyH_done (by kernel_rfl) ?_ _
          go_wp2_with fail
          go_meet
          exact ⟨_, _, hide ⟨(unhide HF2).1, ((unhide HKd).trans (unhide HK2)).trans (unhide HF2).2.1⟩⟩
        · have c2b := ((unhide HPD).below ((Below.refl (Wd.alloc (.cells (Array.replicate n (Value.int .i64 0)) 3)).heap.size (Wd.alloc (.cells (Array.replicate n (Value.int .i64 0)) 3))).alloc (Nat.le_refl _) (.cells #[.bool true, .int .i64 c, .slice (some ⟨Wd.heap.size, 0, none⟩) n n] 87))).box.c 2 (v := p.ov) rfl
          rw [unhide HOV] at c2b
          go_simp
          refine hK.out _ _ trivial (fun hS1 => ?_)
          clear hK K
          refine wpAnyH_ready (rs := [4]) (by kernel_rfl) (by simp) ?_
          refine (AllReadyH.cons rfl (fun K hK => ?_) AllReadyH.nil)
          go_simp
          refine hK.out _ _ trivial (fun hS1 => ?_)
          clear hK K
          refine wpAnyH_ready (rs := [10]) (by kernel_rfl) (by simp) ?_
          refine (AllReadyH.cons rfl (fun K hK => ?_) AllReadyH.nil)
          rw [if_pos (by rfl)]
          have HP2 := hide ((unhide HPD).below ((Below.refl (Wd.alloc (.cells (Array.replicate n (Value.int .i64 0)) 3)).heap.size (Wd.alloc (.cells (Array.replicate n (Value.int .i64 0)) 3))).alloc (Nat.le_refl _) (.cells #[.bool true, .int .i64 c, .slice (some ⟨Wd.heap.size, 0, none⟩) n n] 87)))
          have HO2 := hide (OwnJ.below (unhide HOB0) ((Below.refl (Wd.alloc (.cells (Array.replicate n (Value.int .i64 0)) 3)).heap.size (Wd.alloc (.cells (Array.replicate n (Value.int .i64 0)) 3))).alloc (Nat.le_refl _) (.cells #[.bool true, .int .i64 c, .slice (some ⟨Wd.heap.size, 0, none⟩) n n] 87)))
          have HOd : Hid (World.ownsRow ((Wd.alloc (.cells (Array.replicate n (Value.int .i64 0)) 3)).alloc (.cells #[.bool true, .int .i64 c, .slice (some ⟨Wd.heap.size, 0, none⟩) n n] 87)) B 87 3 (.slice oa p.R.length oc) p.R.length (rbvals p.R)) := hide (by rw [← unhide HOV]; exact (unhide HP2).own)
          have hB2 := (unhide HP2).size_le
          have hNB := heap_alloc_new (Wd.alloc (.cells (Array.replicate n (Value.int .i64 0)) 3)) (.cells #[.bool true, .int .i64 c, .slice (some ⟨Wd.heap.size, 0, none⟩) n n] 87)
          rw [World.size_alloc] at hNB
          refine wp_append_lies (w := ((Wd.alloc (.cells (Array.replicate n (Value.int .i64 0)) 3)).alloc (.cells #[.bool true, .int .i64 c, .slice (some ⟨Wd.heap.size, 0, none⟩) n n] 87))) _ _ 59 (by rfl) B 87 i0 _ 3 40 Tryd.underlying59 hi0 hz0 hz1 hz2 rfl (by omega) (.slice oa p.R.length oc) p.R.length (rbvals p.R) (by rfl) (unhide HOd) ⟨Wd.heap.size + 1, 0, none⟩ 1 1 (rbC ⟨true, c, .slice (some ⟨Wd.heap.size, 0, none⟩) n n, List.replicate n 0⟩) (by rfl) (by rfl) (World.news_of_block (cs := (rbC ⟨true, c, .slice (some ⟨Wd.heap.size, 0, none⟩) n n, List.replicate n 0⟩).toArray) (t := 87) (fr := (0, 0)) hNB) (by intro u hu; simp [rbC] at hu; rcases hu with rfl | rfl | rfl <;> rfl) (by omega) (by unfold maxLen; omega) (by omega) hB2 ((Wd.alloc (.cells (Array.replicate n (Value.int .i64 0)) 3)).alloc (.cells #[.bool true, .int .i64 c, .slice (some ⟨Wd.heap.size, 0, none⟩) n n] 87)).heap.size rfl ?_
          intro g3 cap3 w3 hown hgrow hat hlt3
          rw [← unhide HOV] at hgrow
          have HF2 := hide ((unhide HP2).app ⟨true, c, .slice (some ⟨Wd.heap.size, 0, none⟩) n n, List.replicate n 0⟩ g3 cap3 (unhide HO2) (unhide HNP) hB2 hown hgrow)
          have HK2 : Hid (Kp B [61, 87] Wd ((Wd.alloc (.cells (Array.replicate n (Value.int .i64 0)) 3)).alloc (.cells #[.bool true, .int .i64 c, .slice (some ⟨Wd.heap.size, 0, none⟩) n n] 87))) := hide (Kp.of_below (((Below.refl Wd.heap.size Wd).alloc (Nat.le_refl _) _).alloc (by rw [World.size_alloc]; omega) _) (unhide HHd).size_le)
          have k4 := (unhide HF2).2.2.c 2 (v := p.ov) rfl
          have f4 := (unhide HF2).2.2.f 2
          clear hown hgrow hat hlt3 hNB
          refine hK.out _ _ trivial (fun hS1 => ?_)
          clear hK K
          refine wpAnyH_take (i := 11) (v := .pointer (some ⟨g, 0, none⟩)) rfl (by kernel_rfl) (by kernel_rfl) (by kernel_rfl) (fun _ _ _ h => h) (Or.inl ⟨by rfl, fun w _ => by go_simp⟩) hS ?_
          refine wpAnyH_take (i := 12) (v := .pointer (some ⟨g, 2, none⟩)) rfl (by kernel_rfl) (by kernel_rfl) (by kernel_rfl) (fun _ _ _ h => h) (Or.inl ⟨by rfl, fun w _ => by go_simp⟩) hS ?_
          refine wpAnyH_ready (rs := [13]) (by kernel_rfl) (by simp) ?_
          refine (AllReadyH.cons rfl (fun K hK => ?_) AllReadyH.nil)
          go_simp
          refine hK.out _ _ trivial (fun hS1 => ?_)
          clear hK K
          refine wpAnyH_done (by kernel_rfl) ?_ _
          go_wp2_with fail
          go_meet
          exact ⟨_, _, hide ⟨(unhide HF2).1, ((unhide HKd).trans (unhide HK2)).trans (unhide HF2).2.1⟩⟩
    case rest =>
      obtain ⟨ov, pv, HR⟩ := hcut
      have HLN : Hid ((p.R ++ [(⟨true, c, pv, List.replicate n 0⟩ : Rb)]).length = p.R.length + 1) := hide (by simp)
      have HOV := hide (unhide HR).1.ovs
      obtain ⟨oa, oc, hov⟩ := unhide HOV
      have c2 := (unhide HR).1.box.c 2 (v := ov) rfl
      have hov : ov = .slice oa (p.R ++ [(⟨true, c, pv, List.replicate n 0⟩ : Rb)]).length oc := hov
      rw [hov, unhide HLN] at c2
      clear hov HOV
      go_wp2
      go_ret2
      exact ⟨_, (p.R.length : Int) + 1, 0, by go_num, (unhide HIS _ _ _).2 (Or.inr ⟨unhide HF, rfl, rfl, ov, pv, rfl⟩), (unhide HR).1, (unhide HR).2⟩
end Go.Proofs.YtbbfnampjbdnbaaDoor

/-
  The document's heap: Record, MakeRow. Conditions: lengths fit; the table may be.
-/
namespace Go.Proofs.YtbbfnampjbdnbaaDoor
open Go.RowKit
set_option maxRecDepth 20000
set_option linter.unusedVariables false
set_option linter.unusedSimpArgs false

theorem refFieldsR {W : World} {ao : Option Addr} {T : List Cl} (cap : Nat) (hT : TabAt W ao T) (hz : T.length * 48 ≤ 140737488351232) (hm : madeD T = true) {c : Nat} (hc : c < T.length) :
    Calls Tryd.prog 45 #[.slice ao T.length cap, .int .i64 (c : Int)] W fun e w' => ∃ fa fc, e = .returned (.slice fa (fieldsB T (c : Int)).length fc) ∧ FsAt w' fa (fieldsB T (c : Int)) ∧ Below W.heap.size W w' := by
  have he : fieldsD T (c : Int) = fieldsB T (c : Int) := fields_same2 (n := T.length) (Nat.le_refl _) (fun k hk => of_decide_eq_true (List.all_eq_true.1 hm k (List.mem_range.2 hk))) (by omega)
  have hl := fieldsB_le hm (c := (c : Int)) (by omega)
  refine (refFields_any ao cap T (c : Int) W hT hz (by rw [he]; omega)).mono ?_
  rintro e W2 ⟨v, rfl, hO, hB2⟩
  rw [he] at hO
  obtain ⟨fa, fc, rfl, hF, -, -⟩ := hO.at (fieldsB_ok hT (c : Int))
  exact ⟨fa, fc, rfl, hF, hB2⟩
/-- What the document's Record answers. -/
def RRecIs (T : List Cl) (p : Rp) (c : Int) (p' : Rp) (r er : Int) : Prop := ((c < 0 ∨ (T.length : Int) ≤ c) ∧ r = 0 ∧ er = 1 ∧ p' = p) ∨ ∃ k : Nat, c = (k : Int) ∧ k < T.length ∧ RMadeIs p c (fieldsB T (k : Int)).length p' r er
/-- What the document's MakeRow answers. -/
def RRowIs (p : Rp) (n : Int) (p' : Rp) (r er : Int) : Prop := (n < 0 ∧ r = 0 ∧ er = 5 ∧ p' = p) ∨ ∃ k : Nat, n = (k : Int) ∧ RMadeIs p (-1) k p' r er
set_option maxHeartbeats 2000000 in
theorem refRecord_any (B g : Nat) (p : Rp) (c : Int) (ao : Option Addr) (cap : Nat) (T : List Cl) (w : World) (H : RpAt B w g p) (hlv : p.lv = .slice ao T.length cap) (hT : TabAt w ao T) (hz : T.length * 48 ≤ 140737488351232) (hm : madeD T = true) (hr : 0 ≤ p.room ∧ p.room ≤ 4096) (hu : (usedR p.R : Int) ≤ p.room) (hl : p.R.length ≤ 3000000000000) :
    Calls Tryd.prog 17 #[.pointer (some ⟨g, 0, none⟩), .int .i64 c] w fun e w' => ∃ p' r er, e = .returned (.tuple #[.int .i64 r, .int .i64 er]) ∧ RRecIs T p c p' r er ∧ RpAt B w' g p' ∧ Kp B [61, 87] w w' := by
  have c0 := H.box.c 0 (v := p.lv) rfl
  rw [hlv] at c0
  by_cases h1 : c < 0
  · have HH := hide H
    have HC := hide h1
    clear H hT
    go_enter Tryd.func17, Tryd.ntmps17
    go_wp2
    go_ret2
    exact ⟨p, 0, 1, rfl, Or.inl ⟨Or.inl (unhide HC), rfl, rfl, rfl⟩, unhide HH, Kp.refl _ _ _⟩
  · by_cases h2 : (T.length : Int) ≤ c
    · have HH := hide H
      have HC := hide h2
      clear H hT
      go_enter Tryd.func17, Tryd.ntmps17
      go_wp2
      go_ret2
      exact ⟨p, 0, 1, rfl, Or.inl ⟨Or.inr (unhide HC), rfl, rfl, rfl⟩, unhide HH, Kp.refl _ _ _⟩
    · obtain ⟨k, rfl⟩ : ∃ k : Nat, c = (k : Int) := ⟨c.toNat, by omega⟩
      have hk : k < T.length := by omega
      have HF := hide (refFieldsR cap hT hz hm hk)
      have HK : Hid (k < T.length) := hide hk
      have h2' : ((k : Nat) : Int) < ((T.length : Nat) : Int) := by omega
      have hfl := fieldsB_le hm (c := (k : Int)) (by omega)
      have HH := hide H
      have HBB := hide H.size_le
      have HM := hide (fun (W : World) (hw : RpAt B W g p) => refMade_any B g p (k : Int) (fieldsB T (k : Int)).length W hw hr hu hl (by omega))
      obtain ⟨F, HFB⟩ : ∃ F, Hid (fieldsB T (k : Int) = F) := ⟨_, hide rfl⟩
      rw [unhide HFB] at HF HM hfl
      clear H hT hm hr hu hl hz hk h2
      go_enter Tryd.func17, Tryd.ntmps17
      go_wp2_with (go_at_call 45; refine (unhide HF).mono ?_; rintro e W2 ⟨fa, fc, rfl, hF, hB2⟩)
      have HH2 := hide ((unhide HH).below hB2)
      have HK2 : Hid (Kp B [61, 87] w W2) := hide (Kp.of_below hB2 (unhide HBB))
      clear hF hB2 HF c0
      go_wp2_with (go_at_call 44; refine (unhide HM W2 (unhide HH2)).mono ?_; rintro e W3 ⟨p', r, er, rfl, hI, hp, hK⟩)
      have HI := hide hI
      have HP := hide hp
      have HKK := hide hK
      clear hI hp hK
      go_wp2
      go_ret2
      exact ⟨p', r, er, rfl, Or.inr ⟨k, rfl, unhide HK, by rw [unhide HFB]; exact unhide HI⟩, unhide HP, (unhide HK2).trans (unhide HKK)⟩
set_option maxHeartbeats 2000000 in
theorem refMakeRow_any (B g : Nat) (p : Rp) (n : Int) (w : World) (H : RpAt B w g p) (hr : 0 ≤ p.room ∧ p.room ≤ 4096) (hu : (usedR p.R : Int) ≤ p.room) (hl : p.R.length ≤ 3000000000000) (hn : n < 9223372036854775808) :
    Calls Tryd.prog 19 #[.pointer (some ⟨g, 0, none⟩), .int .i64 n] w fun e w' => ∃ p' r er, e = .returned (.tuple #[.int .i64 r, .int .i64 er]) ∧ RRowIs p n p' r er ∧ RpAt B w' g p' ∧ Kp B [61, 87] w w' := by
  by_cases h1 : n < 0
  · have HH := hide H
    have HC := hide h1
    clear H
    go_enter Tryd.func19, Tryd.ntmps19
    go_wp2
    go_ret2
    exact ⟨p, 0, 5, rfl, Or.inl ⟨unhide HC, rfl, rfl, rfl⟩, unhide HH, Kp.refl _ _ _⟩
  · obtain ⟨k, rfl⟩ : ∃ k : Nat, n = (k : Int) := ⟨n.toNat, by omega⟩
    have HM := hide (refMade_any B g p (-1) k w H hr hu hl (by omega))
    clear H hr hu hl
    go_enter Tryd.func19, Tryd.ntmps19
    go_wp2_with (go_at_call 44; refine (unhide HM).mono ?_; rintro e W3 ⟨p', r, er, rfl, hI, hp, hK⟩)
    have HI := hide hI
    have HP := hide hp
    have HKK := hide hK
    clear hI hp hK
    go_wp2
    go_ret2
    exact ⟨p', r, er, rfl, Or.inr ⟨k, rfl, unhide HI⟩, unhide HP, unhide HKK⟩
end Go.Proofs.YtbbfnampjbdnbaaDoor
