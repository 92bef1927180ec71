/-
  provisolaw14.pair.act: Put.
-/
import Derived.Test.YtbbfnampjbdnbaaDoorJHC
import Derived.Deep.RegionHeld
namespace Go.Proofs.YtbbfnampjbdnbaaDoor
open Go.RowKit
set_option maxRecDepth 20000
set_option linter.unusedVariables false
set_option linter.unusedSimpArgs false

set_option maxRecDepth 20000 in
set_option maxHeartbeats 8000000 in
theorem act_3 {T : List Cl} {ao : Option Addr} {cap : Nat} (w0 : World) (g d : Nat) (h : Hm) (p : Rp) (a b c : Int) (ro : Option Addr) (rc : Nat) (R : List Int) (w : World) (H : Pr T (.slice ao T.length cap) w0.heap.size w g d h p) (hb0 : Below w0.heap.size w0 w) (hT : TabAt w0 ao T) (hz : T.length * 48 ≤ 140737488351232) (hm : madeD T = true) (hl : p.R.length ≤ 2999999999999) (hR : JsAt w0 ro R) (hRl : R.length * 8 ≤ 140737488351232) (ha : a < 9223372036854775808) :
    Calls Tryd.prog 7 #[.agg #[.pointer (some ⟨g, 0, none⟩), .pointer (some ⟨d, 0, none⟩)], .agg #[.int .i64 3, .int .i64 a, .int .i64 b, .int .i64 c, .slice ro R.length rc]] w fun e w' => ActIs T (.slice ao T.length cap) w0 w g d p.R.length w' e := by
  have hws : w0.heap.size ≤ w.heap.size := hb0.size
  have hbw : Below w.heap.size w ((w.alloc (.cells #[.pointer (some ⟨g, 0, none⟩), .pointer (some ⟨d, 0, none⟩)] 35)).alloc (.cells #[.int .i64 3, .int .i64 a, .int .i64 b, .int .i64 c, .slice ro R.length rc] 44)) := ((Below.refl _ _).alloc (Nat.le_refl _) _).alloc (by rw [World.size_alloc]; omega) _
  have HB1 : Hid (Below w.heap.size w ((w.alloc (.cells #[.pointer (some ⟨g, 0, none⟩), .pointer (some ⟨d, 0, none⟩)] 35)).alloc (.cells #[.int .i64 3, .int .i64 a, .int .i64 b, .int .i64 c, .slice ro R.length rc] 44))) := hide hbw
  have HW1 : Hid (Below w0.heap.size w0 ((w.alloc (.cells #[.pointer (some ⟨g, 0, none⟩), .pointer (some ⟨d, 0, none⟩)] 35)).alloc (.cells #[.int .i64 3, .int .i64 a, .int .i64 b, .int .i64 c, .slice ro R.length rc] 44))) := hide (hb0.trans (hbw.mono hws))
  have HQ1 : Hid (Bx ((w.alloc (.cells #[.pointer (some ⟨g, 0, none⟩), .pointer (some ⟨d, 0, none⟩)] 35)).alloc (.cells #[.int .i64 3, .int .i64 a, .int .i64 b, .int .i64 c, .slice ro R.length rc] 44)) w.heap.size 35 #[.pointer (some ⟨g, 0, none⟩), .pointer (some ⟨d, 0, none⟩)]) := hide ((show Bx (w.alloc (.cells #[.pointer (some ⟨g, 0, none⟩), .pointer (some ⟨d, 0, none⟩)] 35)) w.heap.size 35 #[.pointer (some ⟨g, 0, none⟩), .pointer (some ⟨d, 0, none⟩)] from heap_alloc_new w _).below ((Below.refl _ _).alloc (Nat.le_refl _) _))
  have HA1 : Hid (Bx ((w.alloc (.cells #[.pointer (some ⟨g, 0, none⟩), .pointer (some ⟨d, 0, none⟩)] 35)).alloc (.cells #[.int .i64 3, .int .i64 a, .int .i64 b, .int .i64 c, .slice ro R.length rc] 44)) (w.heap.size + 1) 44 #[.int .i64 3, .int .i64 a, .int .i64 b, .int .i64 c, .slice ro R.length rc]) := hide (by have := heap_alloc_new (w.alloc (.cells #[.pointer (some ⟨g, 0, none⟩), .pointer (some ⟨d, 0, none⟩)] 35)) (.cells #[.int .i64 3, .int .i64 a, .int .i64 b, .int .i64 c, .slice ro R.length rc] 44); rw [World.size_alloc] at this; exact this)
  have HP0 := hide H
  have HRR := hide (fun (W : World) (hb : Below w0.heap.size w0 W) => hR.below hb)
  have HTT := hide (fun (W : World) (hb : Below w0.heap.size w0 W) => hT.below hb)
  have HFX : Hid (T.length * 48 ≤ 140737488351232 ∧ madeD T = true ∧ p.R.length ≤ 2999999999999 ∧ R.length * 8 ≤ 140737488351232 ∧ a < 9223372036854775808) := hide ⟨hz, hm, hl, hRl, ha⟩
  have HCL := hide (CloneH_any ro rc R _ (hR.below (unhide HW1)) (fun e => by
    cases R with
    | nil => rfl
    | cons y R => obtain ⟨b', o', h1, _⟩ := hR 0 y rfl; rw [e] at h1; cases h1) (by omega))
  have HWS := hide hws
  clear H hR hT hz hm hl hRl ha hbw hb0 hws
  go_enter Tryd.func7, Tryd.ntmps7
  go_upto_region 1 with fail
  generalize ((w.alloc (.cells #[.pointer (some ⟨g, 0, none⟩), .pointer (some ⟨d, 0, none⟩)] 35)).alloc (.cells #[.int .i64 3, .int .i64 a, .int .i64 b, .int .i64 c, .slice ro R.length rc] 44)) = W1 at HB1 HW1 HQ1 HA1 HCL ⊢
  obtain ⟨q, HQE⟩ : ∃ q, q = w.heap.size := ⟨_, rfl⟩
  rw [← HQE] at HQ1 HA1 ⊢
  clear HQE
  have k4 := (unhide HA1).c 4 (v := .slice ro R.length rc) rfl
  go_wp2_with fail
  refine (unhide HCL).mono ?_
  rintro e W2 ⟨v, rfl, hO, hb2⟩
  obtain ⟨va, vc, rfl, hjv, _⟩ := hO.at
  have HB2 := hide ((unhide HB1).trans (hb2.mono (unhide HB1).size))
  have HW2 := hide ((unhide HW1).trans (hb2.mono (unhide HW1).size))
  have HZ2 : Hid (Kp w0.heap.size tsA w W2) := hide (Kp.of_below (unhide HB2) (unhide HWS))
  have HQ2 := hide ((unhide HQ1).below hb2)
  have HA2 := hide ((unhide HA1).below hb2)
  have HV2 := hide hjv
  have HP2 := hide ((unhide HP0).below (unhide HB2))
  clear k4 hO hjv hb2 HCL HB1 HW1 HQ1 HA1 HP0
  have k0 := (unhide HA2).c 0 (v := .int .i64 3) rfl
  have k1 := (unhide HA2).c 1 (v := .int .i64 a) rfl
  have k2 := (unhide HA2).c 2 (v := .int .i64 b) rfl
  have k3 := (unhide HA2).c 3 (v := .int .i64 c) rfl
  have k4 := (unhide HA2).c 4 (v := .slice ro R.length rc) rfl
  have q0 := (unhide HQ2).c 0 (v := .pointer (some ⟨g, 0, none⟩)) rfl
  have q1 := (unhide HQ2).c 1 (v := .pointer (some ⟨d, 0, none⟩)) rfl
  go_wp2_with fail
  clear k0 k1 k2 k3 k4 q0 q1
  have HD : Hid (Below W2.heap.size W2 W2.drew) := hide (belowD (Below.refl _ _) 1)
  have HSd := hide (And.intro ((unhide HQ2).below (unhide HD)) ((unhide HA2).below (unhide HD)))
  have HPd := hide ((unhide HP2).below (unhide HD))
  have HWd := hide ((unhide HW2).trans ((unhide HD).mono (unhide HW2).size))
  have HZd := hide ((unhide HZ2).trans (Kp.of_below (unhide HD) (unhide HW2).size))
  refine wp_region_held_drew (S := fun w' => Bx w' q 35 #[.pointer (some ⟨g, 0, none⟩), .pointer (some ⟨d, 0, none⟩)] ∧ Bx w' (q + 1) 44 #[.int .i64 3, .int .i64 a, .int .i64 b, .int .i64 c, .slice ro R.length rc]) (by kernel_rfl) (unhide HSd) (fun hS => ?_)
  clear HD HP2 HW2 HQ2 HA2
  clear HZ2
  generalize W2.drew = Wd at hS HSd HPd HWd HZd ⊢
  refine wpAnyH_take (i := 0) (v := .pointer (some ⟨q, 0, none⟩)) rfl (by kernel_rfl) (by kernel_rfl) (by kernel_rfl) (fun _ _ _ h => h) (Or.inl ⟨by rfl, fun w _ => by go_simp⟩) hS ?_
  go_simp
  refine wpAnyH_take (i := 1) (v := .pointer (some ⟨g, 0, none⟩)) rfl (by kernel_rfl) (by kernel_rfl) (by kernel_rfl) (fun _ _ _ h => h) (Or.inl ⟨by rfl, fun W h => by have h0 := Bx.c h.1 0 (v := .pointer (some ⟨g, 0, none⟩)) rfl; go_simp⟩) hS ?_
  go_simp
  refine wpAnyH_take (i := 2) (v := .pointer (some ⟨q + 1, 1, none⟩)) rfl (by kernel_rfl) (by kernel_rfl) (by kernel_rfl) (fun _ _ _ h => h) (Or.inl ⟨by rfl, fun w _ => by go_simp⟩) hS ?_
  go_simp
  refine wpAnyH_take (i := 3) (v := .int .i64 a) rfl (by kernel_rfl) (by kernel_rfl) (by kernel_rfl) (fun _ _ _ h => h) (Or.inl ⟨by rfl, fun W h => by have h0 := Bx.c h.2 1 (v := .int .i64 a) rfl; go_simp⟩) hS ?_
  go_simp
  refine wpAnyH_take (i := 4) (v := .pointer (some ⟨q + 1, 2, none⟩)) rfl (by kernel_rfl) (by kernel_rfl) (by kernel_rfl) (fun _ _ _ h => h) (Or.inl ⟨by rfl, fun w _ => by go_simp⟩) hS ?_
  go_simp
  refine wpAnyH_take (i := 5) (v := .int .i64 b) rfl (by kernel_rfl) (by kernel_rfl) (by kernel_rfl) (fun _ _ _ h => h) (Or.inl ⟨by rfl, fun W h => by have h0 := Bx.c h.2 2 (v := .int .i64 b) rfl; go_simp⟩) hS ?_
  go_simp
  refine wpAnyH_take (i := 6) (v := .pointer (some ⟨q + 1, 3, none⟩)) rfl (by kernel_rfl) (by kernel_rfl) (by kernel_rfl) (fun _ _ _ h => h) (Or.inl ⟨by rfl, fun w _ => by go_simp⟩) hS ?_
  go_simp
  refine wpAnyH_take (i := 7) (v := .int .i64 c) rfl (by kernel_rfl) (by kernel_rfl) (by kernel_rfl) (fun _ _ _ h => h) (Or.inl ⟨by rfl, fun W h => by have h0 := Bx.c h.2 3 (v := .int .i64 c) rfl; go_simp⟩) hS ?_
  go_simp
  refine wpAnyH_take (i := 9) (v := .pointer (some ⟨q, 1, none⟩)) rfl (by kernel_rfl) (by kernel_rfl) (by kernel_rfl) (fun _ _ _ h => h) (Or.inl ⟨by rfl, fun w _ => by go_simp⟩) hS ?_
  go_simp
  refine wpAnyH_take (i := 10) (v := .pointer (some ⟨d, 0, none⟩)) rfl (by kernel_rfl) (by kernel_rfl) (by kernel_rfl) (fun _ _ _ h => h) (Or.inl ⟨by rfl, fun W h => by have h0 := Bx.c h.1 1 (v := .pointer (some ⟨d, 0, none⟩)) rfl; go_simp⟩) hS ?_
  go_simp
  refine wpAnyH_take (i := 11) (v := .pointer (some ⟨q + 1, 1, none⟩)) rfl (by kernel_rfl) (by kernel_rfl) (by kernel_rfl) (fun _ _ _ h => h) (Or.inl ⟨by rfl, fun w _ => by go_simp⟩) hS ?_
  go_simp
  refine wpAnyH_take (i := 12) (v := .int .i64 a) rfl (by kernel_rfl) (by kernel_rfl) (by kernel_rfl) (fun _ _ _ h => h) (Or.inl ⟨by rfl, fun W h => by have h0 := Bx.c h.2 1 (v := .int .i64 a) rfl; go_simp⟩) hS ?_
  go_simp
  refine wpAnyH_take (i := 13) (v := .pointer (some ⟨q + 1, 2, none⟩)) rfl (by kernel_rfl) (by kernel_rfl) (by kernel_rfl) (fun _ _ _ h => h) (Or.inl ⟨by rfl, fun w _ => by go_simp⟩) hS ?_
  go_simp
  refine wpAnyH_take (i := 14) (v := .int .i64 b) rfl (by kernel_rfl) (by kernel_rfl) (by kernel_rfl) (fun _ _ _ h => h) (Or.inl ⟨by rfl, fun W h => by have h0 := Bx.c h.2 2 (v := .int .i64 b) rfl; go_simp⟩) hS ?_
  go_simp
  refine wpAnyH_take (i := 15) (v := .pointer (some ⟨q + 1, 3, none⟩)) rfl (by kernel_rfl) (by kernel_rfl) (by kernel_rfl) (fun _ _ _ h => h) (Or.inl ⟨by rfl, fun w _ => by go_simp⟩) hS ?_
  go_simp
  refine wpAnyH_take (i := 16) (v := .int .i64 c) rfl (by kernel_rfl) (by kernel_rfl) (by kernel_rfl) (fun _ _ _ h => h) (Or.inl ⟨by rfl, fun W h => by have h0 := Bx.c h.2 3 (v := .int .i64 c) rfl; go_simp⟩) hS ?_
  go_simp
  obtain ⟨pe, Hpe⟩ : ∃ pe, Hid (putEr p.R a b c = pe) := ⟨_, hide rfl⟩
  have HPA := hide (Put_any w0.heap.size g h a b c Wd (unhide HPd).hp (unhide HPd).bo.ok (unhide HWd).size)
  have HPU := hide ((unhide HPd).bo.put a b c)
  rw [← (unhide HPU).1, unhide Hpe] at HPA
  refine wpAnyH_ready (rs := [8]) (by kernel_rfl) (by simp) ?_
  refine AllReadyH.cons rfl (fun K hK => ?_) AllReadyH.nil
  go_simp
  go_wp2_with (go_at_call 22; refine (unhide HPA).mono ?_; rintro e W3 ⟨rfl, hH3, hK3⟩)
  have HS3 := hide (And.intro ((unhide HSd).1.kp hK3 (by decide)) ((unhide HSd).2.kp hK3 (by decide)))
  have HR3 := hide ((unhide HPd).rp.kp hK3 (by decide))
  have HH3 := hide hH3
  have HW3 := hide ((unhide HWd).trans hK3.bel)
  have HZ3 := hide ((unhide HZd).trans (hK3.mono (Nat.le_refl _) (by decide)))
  refine hK.out _ _ (unhide HS3) (fun hS2 => ?_)
  clear hK K hS hH3 hK3 HPA
  have HPB := hide (refPut_any w0.heap.size d p a b c W3 (unhide HR3) (by have := (unhide HFX).2.2.1; omega))
  rw [unhide Hpe] at HPB
  refine wpAnyH_ready (rs := [17]) (by kernel_rfl) (by simp) ?_
  refine AllReadyH.cons rfl (fun K hK => ?_) AllReadyH.nil
  go_simp
  go_wp2_with (go_at_call 23; refine (unhide HPB).mono ?_; rintro e W4 ⟨rfl, hP4, hK4⟩)
  have HS4 := hide (And.intro ((unhide HS3).1.kp hK4 (by decide)) ((unhide HS3).2.kp hK4 (by decide)))
  have HPr := hide (show Pr T (.slice ao T.length cap) w0.heap.size W4 g d (putD h a b c) { p with R := putR p.R a b c } from ⟨(unhide HH3).kp hK4 (by decide), hP4, (unhide HPU).2, by show p.room = (putD h a b c).room; rw [(unhide HPd).rm]; unfold putD; split <;> rfl, (unhide HPd).lv⟩)
  have HW4 := hide ((unhide HW3).trans hK4.bel)
  have HZ4 := hide ((unhide HZ3).trans (hK4.mono (Nat.le_refl _) (by decide)))
  refine hK.out _ _ (unhide HS4) (fun hS3 => ?_)
  clear hK K hS2 hP4 hK4 HPB
  refine wpAnyH_take (i := 18) (v := .bool true) rfl (by kernel_rfl) (by kernel_rfl) (by kernel_rfl) (fun _ _ _ h => h) (Or.inl ⟨by rfl, fun w _ => by go_simp⟩) hS3 ?_
  go_simp
  refine wpAnyH_take (i := 19) (v := .bool true) rfl (by kernel_rfl) (by kernel_rfl) (by kernel_rfl) (fun _ _ _ h => h) (Or.inl ⟨by rfl, fun w _ => by go_simp⟩) hS3 ?_
  go_simp
  refine wpAnyH_done (by kernel_rfl) ?_ _
  go_wp2
  go_ret
  exact ⟨rfl, unhide HZ4, _, _, unhide HPr, by show (putR p.R a b c).length ≤ _; rw [put_len]; exact Nat.le_succ _⟩
end Go.Proofs.YtbbfnampjbdnbaaDoor
