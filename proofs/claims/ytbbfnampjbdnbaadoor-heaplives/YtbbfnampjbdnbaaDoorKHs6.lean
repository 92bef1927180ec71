/-
  provisolaw14.pair.act: Reach.
-/
import Derived.Test.YtbbfnampjbdnbaaDoorJHC
import Derived.Test.YtbbfnampjbdnbaaDoorKHr5
namespace Go.Proofs.YtbbfnampjbdnbaaDoor
open Go.RowKit
set_option maxRecDepth 20000
set_option linter.unusedVariables false
set_option linter.unusedSimpArgs false

set_option maxRecDepth 20000 in
set_option maxHeartbeats 8000000 in
theorem act_5 {T : List Cl} {ao : Option Addr} {cap : Nat} (w0 : World) (g d : Nat) (h : Hm) (p : Rp) (a b c : Int) (ro : Option Addr) (rc : Nat) (R : List Int) (w : World) (H : Pr T (.slice ao T.length cap) w0.heap.size w g d h p) (hb0 : Below w0.heap.size w0 w) (hT : TabAt w0 ao T) (hz : T.length * 48 ≤ 140737488351232) (hm : madeD T = true) (hl : p.R.length ≤ 2999999999999) (hR : JsAt w0 ro R) (hRl : R.length * 8 ≤ 140737488351232) (ha : a < 9223372036854775808) :
    Calls Tryd.prog 7 #[.agg #[.pointer (some ⟨g, 0, none⟩), .pointer (some ⟨d, 0, none⟩)], .agg #[.int .i64 5, .int .i64 a, .int .i64 b, .int .i64 c, .slice ro R.length rc]] w fun e w' => ActIs T (.slice ao T.length cap) w0 w g d p.R.length w' e := by
  have hws : w0.heap.size ≤ w.heap.size := hb0.size
  have hbw : Below w.heap.size w ((w.alloc (.cells #[.pointer (some ⟨g, 0, none⟩), .pointer (some ⟨d, 0, none⟩)] 35)).alloc (.cells #[.int .i64 5, .int .i64 a, .int .i64 b, .int .i64 c, .slice ro R.length rc] 44)) := ((Below.refl _ _).alloc (Nat.le_refl _) _).alloc (by rw [World.size_alloc]; omega) _
  have HB1 : Hid (Below w.heap.size w ((w.alloc (.cells #[.pointer (some ⟨g, 0, none⟩), .pointer (some ⟨d, 0, none⟩)] 35)).alloc (.cells #[.int .i64 5, .int .i64 a, .int .i64 b, .int .i64 c, .slice ro R.length rc] 44))) := hide hbw
  have HW1 : Hid (Below w0.heap.size w0 ((w.alloc (.cells #[.pointer (some ⟨g, 0, none⟩), .pointer (some ⟨d, 0, none⟩)] 35)).alloc (.cells #[.int .i64 5, .int .i64 a, .int .i64 b, .int .i64 c, .slice ro R.length rc] 44))) := hide (hb0.trans (hbw.mono hws))
  have HQ1 : Hid (Bx ((w.alloc (.cells #[.pointer (some ⟨g, 0, none⟩), .pointer (some ⟨d, 0, none⟩)] 35)).alloc (.cells #[.int .i64 5, .int .i64 a, .int .i64 b, .int .i64 c, .slice ro R.length rc] 44)) w.heap.size 35 #[.pointer (some ⟨g, 0, none⟩), .pointer (some ⟨d, 0, none⟩)]) := hide ((show Bx (w.alloc (.cells #[.pointer (some ⟨g, 0, none⟩), .pointer (some ⟨d, 0, none⟩)] 35)) w.heap.size 35 #[.pointer (some ⟨g, 0, none⟩), .pointer (some ⟨d, 0, none⟩)] from heap_alloc_new w _).below ((Below.refl _ _).alloc (Nat.le_refl _) _))
  have HA1 : Hid (Bx ((w.alloc (.cells #[.pointer (some ⟨g, 0, none⟩), .pointer (some ⟨d, 0, none⟩)] 35)).alloc (.cells #[.int .i64 5, .int .i64 a, .int .i64 b, .int .i64 c, .slice ro R.length rc] 44)) (w.heap.size + 1) 44 #[.int .i64 5, .int .i64 a, .int .i64 b, .int .i64 c, .slice ro R.length rc]) := hide (by have := heap_alloc_new (w.alloc (.cells #[.pointer (some ⟨g, 0, none⟩), .pointer (some ⟨d, 0, none⟩)] 35)) (.cells #[.int .i64 5, .int .i64 a, .int .i64 b, .int .i64 c, .slice ro R.length rc] 44); rw [World.size_alloc] at this; exact this)
  have HP0 := hide H
  have HRR := hide (fun (W : World) (hb : Below w0.heap.size w0 W) => hR.below hb)
  have HTT := hide (fun (W : World) (hb : Below w0.heap.size w0 W) => hT.below hb)
  have HFX : Hid (T.length * 48 ≤ 140737488351232 ∧ madeD T = true ∧ p.R.length ≤ 2999999999999 ∧ R.length * 8 ≤ 140737488351232 ∧ a < 9223372036854775808) := hide ⟨hz, hm, hl, hRl, ha⟩
  have HCL := hide (CloneH_any ro rc R _ (hR.below (unhide HW1)) (fun e => by
    cases R with
    | nil => rfl
    | cons y R => obtain ⟨b', o', h1, _⟩ := hR 0 y rfl; rw [e] at h1; cases h1) (by omega))
  have HWS := hide hws
  clear H hR hT hz hm hl hRl ha hbw hb0 hws
  go_enter Tryd.func7, Tryd.ntmps7
  go_upto_region 1 with fail
  generalize ((w.alloc (.cells #[.pointer (some ⟨g, 0, none⟩), .pointer (some ⟨d, 0, none⟩)] 35)).alloc (.cells #[.int .i64 5, .int .i64 a, .int .i64 b, .int .i64 c, .slice ro R.length rc] 44)) = W1 at HB1 HW1 HQ1 HA1 HCL ⊢
  obtain ⟨q, HQE⟩ : ∃ q, q = w.heap.size := ⟨_, rfl⟩
  rw [← HQE] at HQ1 HA1 ⊢
  clear HQE
  have k4 := (unhide HA1).c 4 (v := .slice ro R.length rc) rfl
  go_wp2_with fail
  refine (unhide HCL).mono ?_
  rintro e W2 ⟨v, rfl, hO, hb2⟩
  obtain ⟨va, vc, rfl, hjv, _⟩ := hO.at
  have HB2 := hide ((unhide HB1).trans (hb2.mono (unhide HB1).size))
  have HW2 := hide ((unhide HW1).trans (hb2.mono (unhide HW1).size))
  have HZ2 : Hid (Kp w0.heap.size tsA w W2) := hide (Kp.of_below (unhide HB2) (unhide HWS))
  have HQ2 := hide ((unhide HQ1).below hb2)
  have HA2 := hide ((unhide HA1).below hb2)
  have HV2 := hide hjv
  have HP2 := hide ((unhide HP0).below (unhide HB2))
  clear k4 hO hjv hb2 HCL HB1 HW1 HQ1 HA1 HP0
  have k0 := (unhide HA2).c 0 (v := .int .i64 5) rfl
  have k1 := (unhide HA2).c 1 (v := .int .i64 a) rfl
  have k2 := (unhide HA2).c 2 (v := .int .i64 b) rfl
  have k3 := (unhide HA2).c 3 (v := .int .i64 c) rfl
  have k4 := (unhide HA2).c 4 (v := .slice ro R.length rc) rfl
  have q0 := (unhide HQ2).c 0 (v := .pointer (some ⟨g, 0, none⟩)) rfl
  have q1 := (unhide HQ2).c 1 (v := .pointer (some ⟨d, 0, none⟩)) rfl
  go_wp2_with fail
  refine (Reach_any w0.heap.size g h va vc R W2 (unhide HP2).hp (unhide HP2).bo.ok (unhide HV2) (unhide HFX).2.2.2.1).mono ?_
  rintro e W3 ⟨hr, hb3⟩
  clear k0 k1 k2 k3 k4 q0 q1
  have HB3 := hide hb3
  have HQ3 := hide ((unhide HQ2).below hb3)
  have HA3 := hide ((unhide HA2).below hb3)
  have HW3 := hide ((unhide HW2).trans (hb3.mono (unhide HW2).size))
  have HP3 := hide ((unhide HP2).below hb3)
  have HRF := hide (refReach_any w0.heap.size d p ro rc R ao cap T W3 (unhide HP3).rp (unhide HP2).lv (unhide HTT W3 (unhide HW3)) (unhide HFX).1 (unhide HFX).2.1 (unhide HP2).bo.cls (by have := (unhide HFX).2.2.1; omega) (unhide HRR W3 (unhide HW3)) (unhide HFX).2.2.2.1)
  rcases hr with ⟨rfl, hbad⟩ | ⟨hnb, v1, C, rfl, hC, hO1⟩
  · have HBD := hide (((unhide HP2).bo.bad R).1 hbad)
    clear hbad hb3
    have k4 := (unhide HA3).c 4 (v := .slice ro R.length rc) rfl
    have q1 := (unhide HQ3).c 1 (v := .pointer (some ⟨d, 0, none⟩)) rfl
    go_wp2_with fail
    refine (unhide HRF).mono ?_
    rintro e W4 ⟨hr2, hb4⟩
    clear k4 q1
    rcases hr2 with ⟨rfl, _⟩ | ⟨hnb2, _⟩
    · have HB4 := hide ((unhide HB3).trans (hb4.mono (unhide HB3).size))
      have HEN := hide (EqualH_same (w := W4) (a1 := none) (a2 := none) (c := 0) (d := 0) (l := []) (fun i x h => by simp at h) (fun i x h => by simp at h) (by simp))
      clear hb4
      go_wp2_with fail
      refine (unhide HEN).mono ?_
      rintro e W5 ⟨rfl, qq, rfl⟩
      have HB5 := hide (belowD (unhide HB4) qq)
      have HW5 := hide ((unhide HW2).trans ((unhide HB5).mono (unhide HW2).size))
      have k4 := ((unhide HA2).below (unhide HB5)).c 4 (v := .slice ro R.length rc) rfl
      have HE5 := hide (EqualH_same (c := vc) (d := rc) ((unhide HV2).below (unhide HB5)) (unhide HRR _ (unhide HW5)) (by have := (unhide HFX).2.2.2.1; omega))
      generalize W4.drewN qq = W5 at k4 HB5 HW5 HE5 ⊢
      go_wp2_with fail
      go_loopw [188] (fun i wr => i = .int .i64 0 ∧ Hid (wr = W5)) (fun i _ => 0)
      case atStart => exact ⟨rfl, hide rfl⟩
      case round =>
        obtain ⟨rfl, hwr⟩ := hrel
        rw [unhide hwr]
        clear hwr
        go_wp2_with fail
        refine (unhide HE5).mono ?_
        rintro e W6 ⟨rfl, qq, rfl⟩
        have HB6 := hide (belowD (unhide HB5) qq)
        have HW6 := hide (belowD (unhide HW5) qq)
        clear k4
        go_wp2
        go_ret
        exact ⟨rfl, (unhide HZ2).trans (Kp.of_below (unhide HB6) (unhide HW2).size), h, p, (unhide HP2).below (unhide HB6), Nat.le_succ _⟩
    · exact absurd (unhide HBD) hnb2
  · have HNB := hide hnb
    have HCC := hide hC
    obtain ⟨a1, c1, rfl, hj1, _⟩ := hO1.at
    have HO1 := hide hO1
    clear hnb hC hb3 hO1 hj1
    have k4 := (unhide HA3).c 4 (v := .slice ro R.length rc) rfl
    have q1 := (unhide HQ3).c 1 (v := .pointer (some ⟨d, 0, none⟩)) rfl
    go_wp2_with fail
    refine (unhide HRF).mono ?_
    rintro e W4 ⟨hr2, hb4⟩
    clear k4 q1
    rcases hr2 with ⟨_, hbad⟩ | ⟨_, v2, D, rfl, hD, hO2⟩
    · exact absurd (((unhide HP2).bo.bad R).2 hbad) (unhide HNB)
    · have he := (unhide HP2).bo.out (unhide HCC) hD
      obtain ⟨LL, HLL⟩ : ∃ LL, Hid (outT D (p.R.length + 1) = LL) := ⟨_, hide rfl⟩
      rw [unhide HLL] at he hO2
      rw [he] at HO1 ⊢
      obtain ⟨a2, c2, rfl, hj2, _⟩ := hO2.at
      have HB4 := hide ((unhide HB3).trans (hb4.mono (unhide HB3).size))
      have hll : LL.length ≤ 3000000000001 := by rw [← unhide HLL]; have := outT_len D (p.R.length + 1); have := (unhide HFX).2.2.1; omega
      have HEN := hide (EqualH_same (c := c1) (d := c2) ((own_js2 (unhide HO1)).below hb4) hj2 (by omega))
      have HO4 := hide (OwnJ.below (unhide HO1) hb4)
      clear hb4 hj2 hO2 he
      go_wp2_with fail
      refine (unhide HEN).mono ?_
      rintro e W5 ⟨rfl, qq, rfl⟩
      have HB5 := hide (belowD (unhide HB4) qq)
      have HO5 := hide (OwnJ.below (unhide HO4) (belowD (Below.refl _ _) qq))
      generalize W4.drewN qq = W5 at HB5 HO5 ⊢
      obtain ⟨n, HN⟩ : ∃ n, Hid (LL.length = n) := ⟨_, hide rfl⟩
      obtain ⟨wb, HWB⟩ : ∃ wb, Hid (W2.heap.size = wb) := ⟨_, hide rfl⟩
      rw [unhide HN] at HO5 hll ⊢
      go_wp2_with fail
      go_loopw [188] (fun i wr => ∃ (k : Nat) (X : List Int), k ≤ n ∧ i = .int .i64 (k : Int) ∧ Hid (X.length = n) ∧ Hid (OwnJ wr W2.heap.size (.slice a1 n c1) X) ∧ Hid (Below W2.heap.size W2 wr)) (fun i _ => n - (intOf i).toNat)
      case atStart => exact ⟨0, LL, by omega, rfl, HN, HO5, HB5⟩
      case round =>
        clear HO5 HB5 HO4 HB4 HO1
        obtain ⟨k, X, hk, rfl, HXL, HO, HB⟩ := hrel
        by_cases hkn : k < n
        · have i1 : ((k : Nat) : Int) < ((n : Nat) : Int) := by omega
          rcases (unhide HO).2 with ⟨_, h2⟩ | ⟨gx, cap', cur, e, hge, hh, _⟩
          · rw [unhide HXL] at h2; omega
          · rw [unhide HXL] at e
            obtain ⟨rfl, rfl⟩ : a1 = some ⟨gx, 0, none⟩ ∧ c1 = cap' := by injection e with e1 _ e3; exact ⟨e1, e3⟩
            obtain ⟨y, hx⟩ : ∃ y, X[k]? = some y := ⟨_, List.getElem?_eq_getElem (show k < X.length by rw [unhide HXL]; exact hkn)⟩
            obtain ⟨b', o', e', hc⟩ := own_js2 (unhide HO) k y hx
            injection e' with e'
            injection e' with e1 e2
            subst e1 e2
            rw [Nat.zero_add] at hc
            have hf : wr.frozen? ⟨gx, k, none⟩ = false := Bx.f (t := 3) (cs := cur) hh k
            have HO2 := hide (own_storeJ (unhide HO) (unhide HXL) k (-7))
            have HB2 := hide ((unhide HB).setCell (p := ⟨gx, k, none⟩) hge (.int .i64 (-7)))
            have HXL2 : Hid ((X.set k (-7)).length = n) := hide (by rw [List.length_set]; exact unhide HXL)
            clear hx hh hge e
            go_wp2
            go_roundw
            case rel => exact ⟨k + 1, _, by omega, by go_num, HXL2, HO2, HB2⟩
            case measure => simp [intOf]; omega
        · have i1 : ¬ ((k : Nat) : Int) < ((n : Nat) : Int) := by omega
          have HW5 := hide ((unhide HW2).trans ((unhide HB).mono (unhide HW2).size))
          have k4 := ((unhide HA2).below (unhide HB)).c 4 (v := .slice ro R.length rc) rfl
          have HE5 := hide (EqualH_same (c := vc) (d := rc) ((unhide HV2).below (unhide HB)) (unhide HRR _ (unhide HW5)) (by have := (unhide HFX).2.2.2.1; omega))
          go_wp2_with fail
          refine (unhide HE5).mono ?_
          rintro e W6 ⟨rfl, qq, rfl⟩
          have HB6 := hide (belowD (unhide HB) qq)
          have HW6 := hide (belowD (unhide HW5) qq)
          clear k4
          go_wp2
          go_ret
          exact ⟨rfl, (unhide HZ2).trans (Kp.of_below (unhide HB6) (unhide HW2).size), h, p, (unhide HP2).below (unhide HB6), Nat.le_succ _⟩
end Go.Proofs.YtbbfnampjbdnbaaDoor
