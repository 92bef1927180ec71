/-
  Texts of contracts and plain lemmas, one behind another; each says at its head what it holds.
-/
import Derived.Test.YtbbfnampjbdnbaaDoorJHC
/-
  provisolaw14.pair.act: Record and Row.
-/
namespace Go.Proofs.YtbbfnampjbdnbaaDoor
open Go.RowKit
set_option maxRecDepth 20000
set_option linter.unusedVariables false
set_option linter.unusedSimpArgs false

set_option maxRecDepth 20000 in
set_option maxHeartbeats 8000000 in
theorem act_0 {T : List Cl} {ao : Option Addr} {cap : Nat} (w0 : World) (g d : Nat) (h : Hm) (p : Rp) (a b c : Int) (ro : Option Addr) (rc : Nat) (R : List Int) (w : World) (H : Pr T (.slice ao T.length cap) w0.heap.size w g d h p) (hb0 : Below w0.heap.size w0 w) (hT : TabAt w0 ao T) (hz : T.length * 48 ≤ 140737488351232) (hm : madeD T = true) (hl : p.R.length ≤ 2999999999999) (hR : JsAt w0 ro R) (hRl : R.length * 8 ≤ 140737488351232) (ha : a < 9223372036854775808) :
    Calls Tryd.prog 7 #[.agg #[.pointer (some ⟨g, 0, none⟩), .pointer (some ⟨d, 0, none⟩)], .agg #[.int .i64 0, .int .i64 a, .int .i64 b, .int .i64 c, .slice ro R.length rc]] w fun e w' => ActIs T (.slice ao T.length cap) w0 w g d p.R.length w' e := by
  have hws : w0.heap.size ≤ w.heap.size := hb0.size
  have hbw : Below w.heap.size w ((w.alloc (.cells #[.pointer (some ⟨g, 0, none⟩), .pointer (some ⟨d, 0, none⟩)] 35)).alloc (.cells #[.int .i64 0, .int .i64 a, .int .i64 b, .int .i64 c, .slice ro R.length rc] 44)) := ((Below.refl _ _).alloc (Nat.le_refl _) _).alloc (by rw [World.size_alloc]; omega) _
  have HB1 : Hid (Below w.heap.size w ((w.alloc (.cells #[.pointer (some ⟨g, 0, none⟩), .pointer (some ⟨d, 0, none⟩)] 35)).alloc (.cells #[.int .i64 0, .int .i64 a, .int .i64 b, .int .i64 c, .slice ro R.length rc] 44))) := hide hbw
  have HW1 : Hid (Below w0.heap.size w0 ((w.alloc (.cells #[.pointer (some ⟨g, 0, none⟩), .pointer (some ⟨d, 0, none⟩)] 35)).alloc (.cells #[.int .i64 0, .int .i64 a, .int .i64 b, .int .i64 c, .slice ro R.length rc] 44))) := hide (hb0.trans (hbw.mono hws))
  have HQ1 : Hid (Bx ((w.alloc (.cells #[.pointer (some ⟨g, 0, none⟩), .pointer (some ⟨d, 0, none⟩)] 35)).alloc (.cells #[.int .i64 0, .int .i64 a, .int .i64 b, .int .i64 c, .slice ro R.length rc] 44)) w.heap.size 35 #[.pointer (some ⟨g, 0, none⟩), .pointer (some ⟨d, 0, none⟩)]) := hide ((show Bx (w.alloc (.cells #[.pointer (some ⟨g, 0, none⟩), .pointer (some ⟨d, 0, none⟩)] 35)) w.heap.size 35 #[.pointer (some ⟨g, 0, none⟩), .pointer (some ⟨d, 0, none⟩)] from heap_alloc_new w _).below ((Below.refl _ _).alloc (Nat.le_refl _) _))
  have HA1 : Hid (Bx ((w.alloc (.cells #[.pointer (some ⟨g, 0, none⟩), .pointer (some ⟨d, 0, none⟩)] 35)).alloc (.cells #[.int .i64 0, .int .i64 a, .int .i64 b, .int .i64 c, .slice ro R.length rc] 44)) (w.heap.size + 1) 44 #[.int .i64 0, .int .i64 a, .int .i64 b, .int .i64 c, .slice ro R.length rc]) := hide (by have := heap_alloc_new (w.alloc (.cells #[.pointer (some ⟨g, 0, none⟩), .pointer (some ⟨d, 0, none⟩)] 35)) (.cells #[.int .i64 0, .int .i64 a, .int .i64 b, .int .i64 c, .slice ro R.length rc] 44); rw [World.size_alloc] at this; exact this)
  have HP0 := hide H
  have HRR := hide (fun (W : World) (hb : Below w0.heap.size w0 W) => hR.below hb)
  have HTT := hide (fun (W : World) (hb : Below w0.heap.size w0 W) => hT.below hb)
  have HFX : Hid (T.length * 48 ≤ 140737488351232 ∧ madeD T = true ∧ p.R.length ≤ 2999999999999 ∧ R.length * 8 ≤ 140737488351232 ∧ a < 9223372036854775808) := hide ⟨hz, hm, hl, hRl, ha⟩
  have HCL := hide (CloneH_any ro rc R _ (hR.below (unhide HW1)) (fun e => by
    cases R with
    | nil => rfl
    | cons y R => obtain ⟨b', o', h1, _⟩ := hR 0 y rfl; rw [e] at h1; cases h1) (by omega))
  have HWS := hide hws
  clear H hR hT hz hm hl hRl ha hbw hb0 hws
  go_enter Tryd.func7, Tryd.ntmps7
  go_upto_region 1 with fail
  generalize ((w.alloc (.cells #[.pointer (some ⟨g, 0, none⟩), .pointer (some ⟨d, 0, none⟩)] 35)).alloc (.cells #[.int .i64 0, .int .i64 a, .int .i64 b, .int .i64 c, .slice ro R.length rc] 44)) = W1 at HB1 HW1 HQ1 HA1 HCL ⊢
  obtain ⟨q, HQE⟩ : ∃ q, q = w.heap.size := ⟨_, rfl⟩
  rw [← HQE] at HQ1 HA1 ⊢
  clear HQE
  have k4 := (unhide HA1).c 4 (v := .slice ro R.length rc) rfl
  go_wp2_with fail
  refine (unhide HCL).mono ?_
  rintro e W2 ⟨v, rfl, hO, hb2⟩
  obtain ⟨va, vc, rfl, hjv, _⟩ := hO.at
  have HB2 := hide ((unhide HB1).trans (hb2.mono (unhide HB1).size))
  have HW2 := hide ((unhide HW1).trans (hb2.mono (unhide HW1).size))
  have HZ2 : Hid (Kp w0.heap.size tsA w W2) := hide (Kp.of_below (unhide HB2) (unhide HWS))
  have HQ2 := hide ((unhide HQ1).below hb2)
  have HA2 := hide ((unhide HA1).below hb2)
  have HV2 := hide hjv
  have HP2 := hide ((unhide HP0).below (unhide HB2))
  clear k4 hO hjv hb2 HCL HB1 HW1 HQ1 HA1 HP0
  have k0 := (unhide HA2).c 0 (v := .int .i64 0) rfl
  have k1 := (unhide HA2).c 1 (v := .int .i64 a) rfl
  have k2 := (unhide HA2).c 2 (v := .int .i64 b) rfl
  have k3 := (unhide HA2).c 3 (v := .int .i64 c) rfl
  have k4 := (unhide HA2).c 4 (v := .slice ro R.length rc) rfl
  have q0 := (unhide HQ2).c 0 (v := .pointer (some ⟨g, 0, none⟩)) rfl
  have q1 := (unhide HQ2).c 1 (v := .pointer (some ⟨d, 0, none⟩)) rfl
  go_wp2_with fail
  refine (Record_any w0.heap.size g h a W2 (unhide HP2).hp (unhide HP2).bo.ok (unhide HW2).size (by rw [(unhide HP2).bo.tw.last]; have := (unhide HFX).2.2.1; omega)).mono ?_
  rintro e W3 ⟨h', r, er, rfl, hI, hH3, hK3⟩
  clear k0 k1 k2 k3 k4 q0 q1
  have HQ3 := hide ((unhide HQ2).kp hK3 (by decide))
  have HA3 := hide ((unhide HA2).kp hK3 (by decide))
  have HW3 := hide ((unhide HW2).trans hK3.bel)
  have HZ3 := hide ((unhide HZ2).trans (hK3.mono (Nat.le_refl _) (by decide)))
  have HR3 := hide ((unhide HP2).rp.kp hK3 (by decide))
  have HI3 := hide hI
  have HH3 := hide hH3
  clear hK3 hI hH3
  have k1 := (unhide HA3).c 1 (v := .int .i64 a) rfl
  have k2 := (unhide HA3).c 2 (v := .int .i64 b) rfl
  have k3 := (unhide HA3).c 3 (v := .int .i64 c) rfl
  have k4 := (unhide HA3).c 4 (v := .slice ro R.length rc) rfl
  have q1 := (unhide HQ3).c 1 (v := .pointer (some ⟨d, 0, none⟩)) rfl
  go_wp2_with fail
  refine (refRecord_any w0.heap.size d p a ao cap T W3 (unhide HR3) (unhide HP2).lv (unhide HTT W3 (unhide HW3)) (unhide HFX).1 (unhide HFX).2.1 (unhide HP2).room (unhide HP2).ule (by have := (unhide HFX).2.2.1; omega)).mono ?_
  rintro e W4 ⟨p', r2, er2, rfl, hI2, hP4, hK4⟩
  clear k1 k2 k3 k4 q1
  have hI1 : BRecIs h a h' r er := by
    rcases unhide HI3 with ⟨a1, a2, a3, a4⟩ | ⟨k, x, a1, a2, a3⟩
    · exact Or.inl ⟨a4, a1, a2, a3⟩
    · exact Or.inr ⟨k, x, a1, a2, by rw [← a1]; exact a3⟩
  obtain ⟨rfl, rfl, hbo, hrm, hlv2, hlen⟩ := (unhide HP2).bo.rec_ (unhide HP2).rm hI1 hI2
  have HPr := hide (show Pr T (.slice ao T.length cap) w0.heap.size W4 g d h' p' from ⟨(unhide HH3).kp hK4 (by decide), hP4, hbo, hrm, hlv2.trans (unhide HP2).lv⟩)
  have HLN := hide hlen
  have HW4 := hide ((unhide HW3).trans hK4.bel)
  have HZ4 := hide ((unhide HZ3).trans (hK4.mono (Nat.le_refl _) (by decide)))
  clear hI1 hI2 hP4 hK4 hbo hrm hlv2 hlen
  go_wp2
  go_ret
  exact ⟨rfl, unhide HZ4, h', p', unhide HPr, unhide HLN⟩
set_option maxRecDepth 20000 in
set_option maxHeartbeats 8000000 in
theorem act_1 {T : List Cl} {ao : Option Addr} {cap : Nat} (w0 : World) (g d : Nat) (h : Hm) (p : Rp) (a b c : Int) (ro : Option Addr) (rc : Nat) (R : List Int) (w : World) (H : Pr T (.slice ao T.length cap) w0.heap.size w g d h p) (hb0 : Below w0.heap.size w0 w) (hT : TabAt w0 ao T) (hz : T.length * 48 ≤ 140737488351232) (hm : madeD T = true) (hl : p.R.length ≤ 2999999999999) (hR : JsAt w0 ro R) (hRl : R.length * 8 ≤ 140737488351232) (ha : a < 9223372036854775808) :
    Calls Tryd.prog 7 #[.agg #[.pointer (some ⟨g, 0, none⟩), .pointer (some ⟨d, 0, none⟩)], .agg #[.int .i64 1, .int .i64 a, .int .i64 b, .int .i64 c, .slice ro R.length rc]] w fun e w' => ActIs T (.slice ao T.length cap) w0 w g d p.R.length w' e := by
  have hws : w0.heap.size ≤ w.heap.size := hb0.size
  have hbw : Below w.heap.size w ((w.alloc (.cells #[.pointer (some ⟨g, 0, none⟩), .pointer (some ⟨d, 0, none⟩)] 35)).alloc (.cells #[.int .i64 1, .int .i64 a, .int .i64 b, .int .i64 c, .slice ro R.length rc] 44)) := ((Below.refl _ _).alloc (Nat.le_refl _) _).alloc (by rw [World.size_alloc]; omega) _
  have HB1 : Hid (Below w.heap.size w ((w.alloc (.cells #[.pointer (some ⟨g, 0, none⟩), .pointer (some ⟨d, 0, none⟩)] 35)).alloc (.cells #[.int .i64 1, .int .i64 a, .int .i64 b, .int .i64 c, .slice ro R.length rc] 44))) := hide hbw
  have HW1 : Hid (Below w0.heap.size w0 ((w.alloc (.cells #[.pointer (some ⟨g, 0, none⟩), .pointer (some ⟨d, 0, none⟩)] 35)).alloc (.cells #[.int .i64 1, .int .i64 a, .int .i64 b, .int .i64 c, .slice ro R.length rc] 44))) := hide (hb0.trans (hbw.mono hws))
  have HQ1 : Hid (Bx ((w.alloc (.cells #[.pointer (some ⟨g, 0, none⟩), .pointer (some ⟨d, 0, none⟩)] 35)).alloc (.cells #[.int .i64 1, .int .i64 a, .int .i64 b, .int .i64 c, .slice ro R.length rc] 44)) w.heap.size 35 #[.pointer (some ⟨g, 0, none⟩), .pointer (some ⟨d, 0, none⟩)]) := hide ((show Bx (w.alloc (.cells #[.pointer (some ⟨g, 0, none⟩), .pointer (some ⟨d, 0, none⟩)] 35)) w.heap.size 35 #[.pointer (some ⟨g, 0, none⟩), .pointer (some ⟨d, 0, none⟩)] from heap_alloc_new w _).below ((Below.refl _ _).alloc (Nat.le_refl _) _))
  have HA1 : Hid (Bx ((w.alloc (.cells #[.pointer (some ⟨g, 0, none⟩), .pointer (some ⟨d, 0, none⟩)] 35)).alloc (.cells #[.int .i64 1, .int .i64 a, .int .i64 b, .int .i64 c, .slice ro R.length rc] 44)) (w.heap.size + 1) 44 #[.int .i64 1, .int .i64 a, .int .i64 b, .int .i64 c, .slice ro R.length rc]) := hide (by have := heap_alloc_new (w.alloc (.cells #[.pointer (some ⟨g, 0, none⟩), .pointer (some ⟨d, 0, none⟩)] 35)) (.cells #[.int .i64 1, .int .i64 a, .int .i64 b, .int .i64 c, .slice ro R.length rc] 44); rw [World.size_alloc] at this; exact this)
  have HP0 := hide H
  have HRR := hide (fun (W : World) (hb : Below w0.heap.size w0 W) => hR.below hb)
  have HTT := hide (fun (W : World) (hb : Below w0.heap.size w0 W) => hT.below hb)
  have HFX : Hid (T.length * 48 ≤ 140737488351232 ∧ madeD T = true ∧ p.R.length ≤ 2999999999999 ∧ R.length * 8 ≤ 140737488351232 ∧ a < 9223372036854775808) := hide ⟨hz, hm, hl, hRl, ha⟩
  have HCL := hide (CloneH_any ro rc R _ (hR.below (unhide HW1)) (fun e => by
    cases R with
    | nil => rfl
    | cons y R => obtain ⟨b', o', h1, _⟩ := hR 0 y rfl; rw [e] at h1; cases h1) (by omega))
  have HWS := hide hws
  clear H hR hT hz hm hl hRl ha hbw hb0 hws
  go_enter Tryd.func7, Tryd.ntmps7
  go_upto_region 1 with fail
  generalize ((w.alloc (.cells #[.pointer (some ⟨g, 0, none⟩), .pointer (some ⟨d, 0, none⟩)] 35)).alloc (.cells #[.int .i64 1, .int .i64 a, .int .i64 b, .int .i64 c, .slice ro R.length rc] 44)) = W1 at HB1 HW1 HQ1 HA1 HCL ⊢
  obtain ⟨q, HQE⟩ : ∃ q, q = w.heap.size := ⟨_, rfl⟩
  rw [← HQE] at HQ1 HA1 ⊢
  clear HQE
  have k4 := (unhide HA1).c 4 (v := .slice ro R.length rc) rfl
  go_wp2_with fail
  refine (unhide HCL).mono ?_
  rintro e W2 ⟨v, rfl, hO, hb2⟩
  obtain ⟨va, vc, rfl, hjv, _⟩ := hO.at
  have HB2 := hide ((unhide HB1).trans (hb2.mono (unhide HB1).size))
  have HW2 := hide ((unhide HW1).trans (hb2.mono (unhide HW1).size))
  have HZ2 : Hid (Kp w0.heap.size tsA w W2) := hide (Kp.of_below (unhide HB2) (unhide HWS))
  have HQ2 := hide ((unhide HQ1).below hb2)
  have HA2 := hide ((unhide HA1).below hb2)
  have HV2 := hide hjv
  have HP2 := hide ((unhide HP0).below (unhide HB2))
  clear k4 hO hjv hb2 HCL HB1 HW1 HQ1 HA1 HP0
  have k0 := (unhide HA2).c 0 (v := .int .i64 1) rfl
  have k1 := (unhide HA2).c 1 (v := .int .i64 a) rfl
  have k2 := (unhide HA2).c 2 (v := .int .i64 b) rfl
  have k3 := (unhide HA2).c 3 (v := .int .i64 c) rfl
  have k4 := (unhide HA2).c 4 (v := .slice ro R.length rc) rfl
  have q0 := (unhide HQ2).c 0 (v := .pointer (some ⟨g, 0, none⟩)) rfl
  have q1 := (unhide HQ2).c 1 (v := .pointer (some ⟨d, 0, none⟩)) rfl
  go_wp2_with fail
  refine (Row_any w0.heap.size g h a W2 (unhide HP2).hp (unhide HP2).bo.ok (unhide HW2).size (by rw [(unhide HP2).bo.tw.last]; have := (unhide HFX).2.2.1; omega) (unhide HFX).2.2.2.2).mono ?_
  rintro e W3 ⟨h', r, er, rfl, hI, hH3, hK3⟩
  clear k0 k1 k2 k3 k4 q0 q1
  have HQ3 := hide ((unhide HQ2).kp hK3 (by decide))
  have HA3 := hide ((unhide HA2).kp hK3 (by decide))
  have HW3 := hide ((unhide HW2).trans hK3.bel)
  have HZ3 := hide ((unhide HZ2).trans (hK3.mono (Nat.le_refl _) (by decide)))
  have HR3 := hide ((unhide HP2).rp.kp hK3 (by decide))
  have HI3 := hide hI
  have HH3 := hide hH3
  clear hK3 hI hH3
  have k1 := (unhide HA3).c 1 (v := .int .i64 a) rfl
  have k2 := (unhide HA3).c 2 (v := .int .i64 b) rfl
  have k3 := (unhide HA3).c 3 (v := .int .i64 c) rfl
  have k4 := (unhide HA3).c 4 (v := .slice ro R.length rc) rfl
  have q1 := (unhide HQ3).c 1 (v := .pointer (some ⟨d, 0, none⟩)) rfl
  go_wp2_with fail
  refine (refMakeRow_any w0.heap.size d p a W3 (unhide HR3) (unhide HP2).room (unhide HP2).ule (by have := (unhide HFX).2.2.1; omega) (unhide HFX).2.2.2.2).mono ?_
  rintro e W4 ⟨p', r2, er2, rfl, hI2, hP4, hK4⟩
  clear k1 k2 k3 k4 q1
  obtain ⟨rfl, rfl, hbo, hrm, hlv2, hlen⟩ := (unhide HP2).bo.row (unhide HP2).rm (unhide HI3) hI2
  have HPr := hide (show Pr T (.slice ao T.length cap) w0.heap.size W4 g d h' p' from ⟨(unhide HH3).kp hK4 (by decide), hP4, hbo, hrm, hlv2.trans (unhide HP2).lv⟩)
  have HLN := hide hlen
  have HW4 := hide ((unhide HW3).trans hK4.bel)
  have HZ4 := hide ((unhide HZ3).trans (hK4.mono (Nat.le_refl _) (by decide)))
  clear hI2 hP4 hK4 hbo hrm hlv2 hlen
  go_wp2
  go_ret
  exact ⟨rfl, unhide HZ4, h', p', unhide HPr, unhide HLN⟩
end Go.Proofs.YtbbfnampjbdnbaaDoor

/-
  provisolaw14.pair.act: Get and Len.
-/
namespace Go.Proofs.YtbbfnampjbdnbaaDoor
open Go.RowKit
set_option maxRecDepth 20000
set_option linter.unusedVariables false
set_option linter.unusedSimpArgs false

set_option maxRecDepth 20000 in
set_option maxHeartbeats 8000000 in
theorem act_2 {T : List Cl} {ao : Option Addr} {cap : Nat} (w0 : World) (g d : Nat) (h : Hm) (p : Rp) (a b c : Int) (ro : Option Addr) (rc : Nat) (R : List Int) (w : World) (H : Pr T (.slice ao T.length cap) w0.heap.size w g d h p) (hb0 : Below w0.heap.size w0 w) (hT : TabAt w0 ao T) (hz : T.length * 48 ≤ 140737488351232) (hm : madeD T = true) (hl : p.R.length ≤ 2999999999999) (hR : JsAt w0 ro R) (hRl : R.length * 8 ≤ 140737488351232) (ha : a < 9223372036854775808) :
    Calls Tryd.prog 7 #[.agg #[.pointer (some ⟨g, 0, none⟩), .pointer (some ⟨d, 0, none⟩)], .agg #[.int .i64 2, .int .i64 a, .int .i64 b, .int .i64 c, .slice ro R.length rc]] w fun e w' => ActIs T (.slice ao T.length cap) w0 w g d p.R.length w' e := by
  have hws : w0.heap.size ≤ w.heap.size := hb0.size
  have hbw : Below w.heap.size w ((w.alloc (.cells #[.pointer (some ⟨g, 0, none⟩), .pointer (some ⟨d, 0, none⟩)] 35)).alloc (.cells #[.int .i64 2, .int .i64 a, .int .i64 b, .int .i64 c, .slice ro R.length rc] 44)) := ((Below.refl _ _).alloc (Nat.le_refl _) _).alloc (by rw [World.size_alloc]; omega) _
  have HB1 : Hid (Below w.heap.size w ((w.alloc (.cells #[.pointer (some ⟨g, 0, none⟩), .pointer (some ⟨d, 0, none⟩)] 35)).alloc (.cells #[.int .i64 2, .int .i64 a, .int .i64 b, .int .i64 c, .slice ro R.length rc] 44))) := hide hbw
  have HW1 : Hid (Below w0.heap.size w0 ((w.alloc (.cells #[.pointer (some ⟨g, 0, none⟩), .pointer (some ⟨d, 0, none⟩)] 35)).alloc (.cells #[.int .i64 2, .int .i64 a, .int .i64 b, .int .i64 c, .slice ro R.length rc] 44))) := hide (hb0.trans (hbw.mono hws))
  have HQ1 : Hid (Bx ((w.alloc (.cells #[.pointer (some ⟨g, 0, none⟩), .pointer (some ⟨d, 0, none⟩)] 35)).alloc (.cells #[.int .i64 2, .int .i64 a, .int .i64 b, .int .i64 c, .slice ro R.length rc] 44)) w.heap.size 35 #[.pointer (some ⟨g, 0, none⟩), .pointer (some ⟨d, 0, none⟩)]) := hide ((show Bx (w.alloc (.cells #[.pointer (some ⟨g, 0, none⟩), .pointer (some ⟨d, 0, none⟩)] 35)) w.heap.size 35 #[.pointer (some ⟨g, 0, none⟩), .pointer (some ⟨d, 0, none⟩)] from heap_alloc_new w _).below ((Below.refl _ _).alloc (Nat.le_refl _) _))
  have HA1 : Hid (Bx ((w.alloc (.cells #[.pointer (some ⟨g, 0, none⟩), .pointer (some ⟨d, 0, none⟩)] 35)).alloc (.cells #[.int .i64 2, .int .i64 a, .int .i64 b, .int .i64 c, .slice ro R.length rc] 44)) (w.heap.size + 1) 44 #[.int .i64 2, .int .i64 a, .int .i64 b, .int .i64 c, .slice ro R.length rc]) := hide (by have := heap_alloc_new (w.alloc (.cells #[.pointer (some ⟨g, 0, none⟩), .pointer (some ⟨d, 0, none⟩)] 35)) (.cells #[.int .i64 2, .int .i64 a, .int .i64 b, .int .i64 c, .slice ro R.length rc] 44); rw [World.size_alloc] at this; exact this)
  have HP0 := hide H
  have HRR := hide (fun (W : World) (hb : Below w0.heap.size w0 W) => hR.below hb)
  have HTT := hide (fun (W : World) (hb : Below w0.heap.size w0 W) => hT.below hb)
  have HFX : Hid (T.length * 48 ≤ 140737488351232 ∧ madeD T = true ∧ p.R.length ≤ 2999999999999 ∧ R.length * 8 ≤ 140737488351232 ∧ a < 9223372036854775808) := hide ⟨hz, hm, hl, hRl, ha⟩
  have HCL := hide (CloneH_any ro rc R _ (hR.below (unhide HW1)) (fun e => by
    cases R with
    | nil => rfl
    | cons y R => obtain ⟨b', o', h1, _⟩ := hR 0 y rfl; rw [e] at h1; cases h1) (by omega))
  have HWS := hide hws
  clear H hR hT hz hm hl hRl ha hbw hb0 hws
  go_enter Tryd.func7, Tryd.ntmps7
  go_upto_region 1 with fail
  generalize ((w.alloc (.cells #[.pointer (some ⟨g, 0, none⟩), .pointer (some ⟨d, 0, none⟩)] 35)).alloc (.cells #[.int .i64 2, .int .i64 a, .int .i64 b, .int .i64 c, .slice ro R.length rc] 44)) = W1 at HB1 HW1 HQ1 HA1 HCL ⊢
  obtain ⟨q, HQE⟩ : ∃ q, q = w.heap.size := ⟨_, rfl⟩
  rw [← HQE] at HQ1 HA1 ⊢
  clear HQE
  have k4 := (unhide HA1).c 4 (v := .slice ro R.length rc) rfl
  go_wp2_with fail
  refine (unhide HCL).mono ?_
  rintro e W2 ⟨v, rfl, hO, hb2⟩
  obtain ⟨va, vc, rfl, hjv, _⟩ := hO.at
  have HB2 := hide ((unhide HB1).trans (hb2.mono (unhide HB1).size))
  have HW2 := hide ((unhide HW1).trans (hb2.mono (unhide HW1).size))
  have HZ2 : Hid (Kp w0.heap.size tsA w W2) := hide (Kp.of_below (unhide HB2) (unhide HWS))
  have HQ2 := hide ((unhide HQ1).below hb2)
  have HA2 := hide ((unhide HA1).below hb2)
  have HV2 := hide hjv
  have HP2 := hide ((unhide HP0).below (unhide HB2))
  clear k4 hO hjv hb2 HCL HB1 HW1 HQ1 HA1 HP0
  have k0 := (unhide HA2).c 0 (v := .int .i64 2) rfl
  have k1 := (unhide HA2).c 1 (v := .int .i64 a) rfl
  have k2 := (unhide HA2).c 2 (v := .int .i64 b) rfl
  have k3 := (unhide HA2).c 3 (v := .int .i64 c) rfl
  have k4 := (unhide HA2).c 4 (v := .slice ro R.length rc) rfl
  have q0 := (unhide HQ2).c 0 (v := .pointer (some ⟨g, 0, none⟩)) rfl
  have q1 := (unhide HQ2).c 1 (v := .pointer (some ⟨d, 0, none⟩)) rfl
  obtain ⟨gw, Hgw⟩ : ∃ gw, Hid (getW p.R a b = gw) := ⟨_, hide rfl⟩
  obtain ⟨ge, Hge⟩ : ∃ ge, Hid (getE p.R a b = ge) := ⟨_, hide rfl⟩
  go_wp2_with fail
  refine (Get_ex a b (unhide HP2).hp (unhide HP2).bo).mono ?_
  rintro e W3 ⟨rfl, hb3⟩
  rw [unhide Hgw, unhide Hge]
  clear k0 k1 k2 k3 k4 q0 q1
  have HQ3 := hide ((unhide HQ2).below hb3)
  have HA3 := hide ((unhide HA2).below hb3)
  have HW3 := hide ((unhide HW2).trans (hb3.mono (unhide HW2).size))
  have HP3 := hide ((unhide HP2).below hb3)
  have HZ3 := hide ((unhide HZ2).trans (Kp.of_below hb3 (unhide HW2).size))
  clear hb3
  have k1 := (unhide HA3).c 1 (v := .int .i64 a) rfl
  have k2 := (unhide HA3).c 2 (v := .int .i64 b) rfl
  have k3 := (unhide HA3).c 3 (v := .int .i64 c) rfl
  have k4 := (unhide HA3).c 4 (v := .slice ro R.length rc) rfl
  have q1 := (unhide HQ3).c 1 (v := .pointer (some ⟨d, 0, none⟩)) rfl
  go_wp2_with fail
  refine (refGet_any w0.heap.size d p a b W3 (unhide HP3).rp (by have := (unhide HFX).2.2.1; omega)).mono ?_
  rintro e w9 ⟨rfl, hw⟩
  rw [hw, unhide Hgw, unhide Hge]
  clear hw k1 k2 k3 k4 q1
  go_wp2
  go_ret
  exact ⟨rfl, unhide HZ3, h, p, unhide HP3, Nat.le_succ _⟩
set_option maxRecDepth 20000 in
set_option maxHeartbeats 8000000 in
theorem act_4 {T : List Cl} {ao : Option Addr} {cap : Nat} (w0 : World) (g d : Nat) (h : Hm) (p : Rp) (a b c : Int) (ro : Option Addr) (rc : Nat) (R : List Int) (w : World) (H : Pr T (.slice ao T.length cap) w0.heap.size w g d h p) (hb0 : Below w0.heap.size w0 w) (hT : TabAt w0 ao T) (hz : T.length * 48 ≤ 140737488351232) (hm : madeD T = true) (hl : p.R.length ≤ 2999999999999) (hR : JsAt w0 ro R) (hRl : R.length * 8 ≤ 140737488351232) (ha : a < 9223372036854775808) :
    Calls Tryd.prog 7 #[.agg #[.pointer (some ⟨g, 0, none⟩), .pointer (some ⟨d, 0, none⟩)], .agg #[.int .i64 4, .int .i64 a, .int .i64 b, .int .i64 c, .slice ro R.length rc]] w fun e w' => ActIs T (.slice ao T.length cap) w0 w g d p.R.length w' e := by
  have hws : w0.heap.size ≤ w.heap.size := hb0.size
  have hbw : Below w.heap.size w ((w.alloc (.cells #[.pointer (some ⟨g, 0, none⟩), .pointer (some ⟨d, 0, none⟩)] 35)).alloc (.cells #[.int .i64 4, .int .i64 a, .int .i64 b, .int .i64 c, .slice ro R.length rc] 44)) := ((Below.refl _ _).alloc (Nat.le_refl _) _).alloc (by rw [World.size_alloc]; omega) _
  have HB1 : Hid (Below w.heap.size w ((w.alloc (.cells #[.pointer (some ⟨g, 0, none⟩), .pointer (some ⟨d, 0, none⟩)] 35)).alloc (.cells #[.int .i64 4, .int .i64 a, .int .i64 b, .int .i64 c, .slice ro R.length rc] 44))) := hide hbw
  have HW1 : Hid (Below w0.heap.size w0 ((w.alloc (.cells #[.pointer (some ⟨g, 0, none⟩), .pointer (some ⟨d, 0, none⟩)] 35)).alloc (.cells #[.int .i64 4, .int .i64 a, .int .i64 b, .int .i64 c, .slice ro R.length rc] 44))) := hide (hb0.trans (hbw.mono hws))
  have HQ1 : Hid (Bx ((w.alloc (.cells #[.pointer (some ⟨g, 0, none⟩), .pointer (some ⟨d, 0, none⟩)] 35)).alloc (.cells #[.int .i64 4, .int .i64 a, .int .i64 b, .int .i64 c, .slice ro R.length rc] 44)) w.heap.size 35 #[.pointer (some ⟨g, 0, none⟩), .pointer (some ⟨d, 0, none⟩)]) := hide ((show Bx (w.alloc (.cells #[.pointer (some ⟨g, 0, none⟩), .pointer (some ⟨d, 0, none⟩)] 35)) w.heap.size 35 #[.pointer (some ⟨g, 0, none⟩), .pointer (some ⟨d, 0, none⟩)] from heap_alloc_new w _).below ((Below.refl _ _).alloc (Nat.le_refl _) _))
  have HA1 : Hid (Bx ((w.alloc (.cells #[.pointer (some ⟨g, 0, none⟩), .pointer (some ⟨d, 0, none⟩)] 35)).alloc (.cells #[.int .i64 4, .int .i64 a, .int .i64 b, .int .i64 c, .slice ro R.length rc] 44)) (w.heap.size + 1) 44 #[.int .i64 4, .int .i64 a, .int .i64 b, .int .i64 c, .slice ro R.length rc]) := hide (by have := heap_alloc_new (w.alloc (.cells #[.pointer (some ⟨g, 0, none⟩), .pointer (some ⟨d, 0, none⟩)] 35)) (.cells #[.int .i64 4, .int .i64 a, .int .i64 b, .int .i64 c, .slice ro R.length rc] 44); rw [World.size_alloc] at this; exact this)
  have HP0 := hide H
  have HRR := hide (fun (W : World) (hb : Below w0.heap.size w0 W) => hR.below hb)
  have HTT := hide (fun (W : World) (hb : Below w0.heap.size w0 W) => hT.below hb)
  have HFX : Hid (T.length * 48 ≤ 140737488351232 ∧ madeD T = true ∧ p.R.length ≤ 2999999999999 ∧ R.length * 8 ≤ 140737488351232 ∧ a < 9223372036854775808) := hide ⟨hz, hm, hl, hRl, ha⟩
  have HCL := hide (CloneH_any ro rc R _ (hR.below (unhide HW1)) (fun e => by
    cases R with
    | nil => rfl
    | cons y R => obtain ⟨b', o', h1, _⟩ := hR 0 y rfl; rw [e] at h1; cases h1) (by omega))
  have HWS := hide hws
  clear H hR hT hz hm hl hRl ha hbw hb0 hws
  go_enter Tryd.func7, Tryd.ntmps7
  go_upto_region 1 with fail
  generalize ((w.alloc (.cells #[.pointer (some ⟨g, 0, none⟩), .pointer (some ⟨d, 0, none⟩)] 35)).alloc (.cells #[.int .i64 4, .int .i64 a, .int .i64 b, .int .i64 c, .slice ro R.length rc] 44)) = W1 at HB1 HW1 HQ1 HA1 HCL ⊢
  obtain ⟨q, HQE⟩ : ∃ q, q = w.heap.size := ⟨_, rfl⟩
  rw [← HQE] at HQ1 HA1 ⊢
  clear HQE
  have k4 := (unhide HA1).c 4 (v := .slice ro R.length rc) rfl
  go_wp2_with fail
  refine (unhide HCL).mono ?_
  rintro e W2 ⟨v, rfl, hO, hb2⟩
  obtain ⟨va, vc, rfl, hjv, _⟩ := hO.at
  have HB2 := hide ((unhide HB1).trans (hb2.mono (unhide HB1).size))
  have HW2 := hide ((unhide HW1).trans (hb2.mono (unhide HW1).size))
  have HZ2 : Hid (Kp w0.heap.size tsA w W2) := hide (Kp.of_below (unhide HB2) (unhide HWS))
  have HQ2 := hide ((unhide HQ1).below hb2)
  have HA2 := hide ((unhide HA1).below hb2)
  have HV2 := hide hjv
  have HP2 := hide ((unhide HP0).below (unhide HB2))
  clear k4 hO hjv hb2 HCL HB1 HW1 HQ1 HA1 HP0
  have k0 := (unhide HA2).c 0 (v := .int .i64 4) rfl
  have k1 := (unhide HA2).c 1 (v := .int .i64 a) rfl
  have k2 := (unhide HA2).c 2 (v := .int .i64 b) rfl
  have k3 := (unhide HA2).c 3 (v := .int .i64 c) rfl
  have k4 := (unhide HA2).c 4 (v := .slice ro R.length rc) rfl
  have q0 := (unhide HQ2).c 0 (v := .pointer (some ⟨g, 0, none⟩)) rfl
  have q1 := (unhide HQ2).c 1 (v := .pointer (some ⟨d, 0, none⟩)) rfl
  obtain ⟨gw, Hgw⟩ : ∃ gw, Hid (lenR p.R a = gw) := ⟨_, hide rfl⟩
  obtain ⟨ge, Hge⟩ : ∃ ge, Hid (fltR p.R a = ge) := ⟨_, hide rfl⟩
  go_wp2_with fail
  refine (Len_ex a (unhide HP2).hp (unhide HP2).bo).mono ?_
  rintro e W3 ⟨rfl, hb3⟩
  rw [unhide Hgw, unhide Hge]
  clear k0 k1 k2 k3 k4 q0 q1
  have HQ3 := hide ((unhide HQ2).below hb3)
  have HA3 := hide ((unhide HA2).below hb3)
  have HW3 := hide ((unhide HW2).trans (hb3.mono (unhide HW2).size))
  have HP3 := hide ((unhide HP2).below hb3)
  have HZ3 := hide ((unhide HZ2).trans (Kp.of_below hb3 (unhide HW2).size))
  clear hb3
  have k1 := (unhide HA3).c 1 (v := .int .i64 a) rfl
  have k2 := (unhide HA3).c 2 (v := .int .i64 b) rfl
  have k3 := (unhide HA3).c 3 (v := .int .i64 c) rfl
  have k4 := (unhide HA3).c 4 (v := .slice ro R.length rc) rfl
  have q1 := (unhide HQ3).c 1 (v := .pointer (some ⟨d, 0, none⟩)) rfl
  go_wp2_with fail
  refine (refLen_any w0.heap.size d p a W3 (unhide HP3).rp (by have := (unhide HFX).2.2.1; omega)).mono ?_
  rintro e w9 ⟨rfl, hw⟩
  rw [hw, unhide Hgw, unhide Hge]
  clear hw k1 k2 k3 k4 q1
  go_wp2
  go_ret
  exact ⟨rfl, unhide HZ3, h, p, unhide HP3, Nat.le_succ _⟩
end Go.Proofs.YtbbfnampjbdnbaaDoor

/-
  provisolaw14.pair.act: Collect.
-/
namespace Go.Proofs.YtbbfnampjbdnbaaDoor
open Go.RowKit
set_option maxRecDepth 20000
set_option linter.unusedVariables false
set_option linter.unusedSimpArgs false

set_option maxRecDepth 20000 in
set_option maxHeartbeats 8000000 in
theorem act_6 {T : List Cl} {ao : Option Addr} {cap : Nat} (w0 : World) (g d : Nat) (h : Hm) (p : Rp) (a b c : Int) (ro : Option Addr) (rc : Nat) (R : List Int) (w : World) (H : Pr T (.slice ao T.length cap) w0.heap.size w g d h p) (hb0 : Below w0.heap.size w0 w) (hT : TabAt w0 ao T) (hz : T.length * 48 ≤ 140737488351232) (hm : madeD T = true) (hl : p.R.length ≤ 2999999999999) (hR : JsAt w0 ro R) (hRl : R.length * 8 ≤ 140737488351232) (ha : a < 9223372036854775808) :
    Calls Tryd.prog 7 #[.agg #[.pointer (some ⟨g, 0, none⟩), .pointer (some ⟨d, 0, none⟩)], .agg #[.int .i64 6, .int .i64 a, .int .i64 b, .int .i64 c, .slice ro R.length rc]] w fun e w' => ActIs T (.slice ao T.length cap) w0 w g d p.R.length w' e := by
  have hws : w0.heap.size ≤ w.heap.size := hb0.size
  have hbw : Below w.heap.size w ((w.alloc (.cells #[.pointer (some ⟨g, 0, none⟩), .pointer (some ⟨d, 0, none⟩)] 35)).alloc (.cells #[.int .i64 6, .int .i64 a, .int .i64 b, .int .i64 c, .slice ro R.length rc] 44)) := ((Below.refl _ _).alloc (Nat.le_refl _) _).alloc (by rw [World.size_alloc]; omega) _
  have HB1 : Hid (Below w.heap.size w ((w.alloc (.cells #[.pointer (some ⟨g, 0, none⟩), .pointer (some ⟨d, 0, none⟩)] 35)).alloc (.cells #[.int .i64 6, .int .i64 a, .int .i64 b, .int .i64 c, .slice ro R.length rc] 44))) := hide hbw
  have HW1 : Hid (Below w0.heap.size w0 ((w.alloc (.cells #[.pointer (some ⟨g, 0, none⟩), .pointer (some ⟨d, 0, none⟩)] 35)).alloc (.cells #[.int .i64 6, .int .i64 a, .int .i64 b, .int .i64 c, .slice ro R.length rc] 44))) := hide (hb0.trans (hbw.mono hws))
  have HQ1 : Hid (Bx ((w.alloc (.cells #[.pointer (some ⟨g, 0, none⟩), .pointer (some ⟨d, 0, none⟩)] 35)).alloc (.cells #[.int .i64 6, .int .i64 a, .int .i64 b, .int .i64 c, .slice ro R.length rc] 44)) w.heap.size 35 #[.pointer (some ⟨g, 0, none⟩), .pointer (some ⟨d, 0, none⟩)]) := hide ((show Bx (w.alloc (.cells #[.pointer (some ⟨g, 0, none⟩), .pointer (some ⟨d, 0, none⟩)] 35)) w.heap.size 35 #[.pointer (some ⟨g, 0, none⟩), .pointer (some ⟨d, 0, none⟩)] from heap_alloc_new w _).below ((Below.refl _ _).alloc (Nat.le_refl _) _))
  have HA1 : Hid (Bx ((w.alloc (.cells #[.pointer (some ⟨g, 0, none⟩), .pointer (some ⟨d, 0, none⟩)] 35)).alloc (.cells #[.int .i64 6, .int .i64 a, .int .i64 b, .int .i64 c, .slice ro R.length rc] 44)) (w.heap.size + 1) 44 #[.int .i64 6, .int .i64 a, .int .i64 b, .int .i64 c, .slice ro R.length rc]) := hide (by have := heap_alloc_new (w.alloc (.cells #[.pointer (some ⟨g, 0, none⟩), .pointer (some ⟨d, 0, none⟩)] 35)) (.cells #[.int .i64 6, .int .i64 a, .int .i64 b, .int .i64 c, .slice ro R.length rc] 44); rw [World.size_alloc] at this; exact this)
  have HP0 := hide H
  have HRR := hide (fun (W : World) (hb : Below w0.heap.size w0 W) => hR.below hb)
  have HTT := hide (fun (W : World) (hb : Below w0.heap.size w0 W) => hT.below hb)
  have HFX : Hid (T.length * 48 ≤ 140737488351232 ∧ madeD T = true ∧ p.R.length ≤ 2999999999999 ∧ R.length * 8 ≤ 140737488351232 ∧ a < 9223372036854775808) := hide ⟨hz, hm, hl, hRl, ha⟩
  have HCL := hide (CloneH_any ro rc R _ (hR.below (unhide HW1)) (fun e => by
    cases R with
    | nil => rfl
    | cons y R => obtain ⟨b', o', h1, _⟩ := hR 0 y rfl; rw [e] at h1; cases h1) (by omega))
  have HWS := hide hws
  clear H hR hT hz hm hl hRl ha hbw hb0 hws
  go_enter Tryd.func7, Tryd.ntmps7
  go_upto_region 1 with fail
  generalize ((w.alloc (.cells #[.pointer (some ⟨g, 0, none⟩), .pointer (some ⟨d, 0, none⟩)] 35)).alloc (.cells #[.int .i64 6, .int .i64 a, .int .i64 b, .int .i64 c, .slice ro R.length rc] 44)) = W1 at HB1 HW1 HQ1 HA1 HCL ⊢
  obtain ⟨q, HQE⟩ : ∃ q, q = w.heap.size := ⟨_, rfl⟩
  rw [← HQE] at HQ1 HA1 ⊢
  clear HQE
  have k4 := (unhide HA1).c 4 (v := .slice ro R.length rc) rfl
  go_wp2_with fail
  refine (unhide HCL).mono ?_
  rintro e W2 ⟨v, rfl, hO, hb2⟩
  obtain ⟨va, vc, rfl, hjv, _⟩ := hO.at
  have HB2 := hide ((unhide HB1).trans (hb2.mono (unhide HB1).size))
  have HW2 := hide ((unhide HW1).trans (hb2.mono (unhide HW1).size))
  have HZ2 : Hid (Kp w0.heap.size tsA w W2) := hide (Kp.of_below (unhide HB2) (unhide HWS))
  have HQ2 := hide ((unhide HQ1).below hb2)
  have HA2 := hide ((unhide HA1).below hb2)
  have HV2 := hide hjv
  have HO2 := hide hO
  have HP2 := hide ((unhide HP0).below (unhide HB2))
  clear k4 hO hjv hb2 HCL HB1 HW1 HQ1 HA1 HP0
  have k0 := (unhide HA2).c 0 (v := .int .i64 6) rfl
  have k1 := (unhide HA2).c 1 (v := .int .i64 a) rfl
  have k2 := (unhide HA2).c 2 (v := .int .i64 b) rfl
  have k3 := (unhide HA2).c 3 (v := .int .i64 c) rfl
  have k4 := (unhide HA2).c 4 (v := .slice ro R.length rc) rfl
  have q0 := (unhide HQ2).c 0 (v := .pointer (some ⟨g, 0, none⟩)) rfl
  have q1 := (unhide HQ2).c 1 (v := .pointer (some ⟨d, 0, none⟩)) rfl
  go_wp2_with fail
  refine (Collect_any w0.heap.size g h va vc R W2 (unhide HP2).hp (unhide HP2).bo.ok (unhide HW2).size (unhide HV2) (unhide HFX).2.2.2.1).mono ?_
  rintro e W3 ⟨h', r, er, rfl, hI, hH3, hK3⟩
  clear k0 k1 k2 k3 k4 q0 q1
  have HQ3 := hide ((unhide HQ2).kp hK3 (by decide))
  have HA3 := hide ((unhide HA2).kp hK3 (by decide))
  have HW3 := hide ((unhide HW2).trans hK3.bel)
  have HZ3 := hide ((unhide HZ2).trans (hK3.mono (Nat.le_refl _) (by decide)))
  have HR3 := hide ((unhide HP2).rp.kp hK3 (by decide))
  have HI3 := hide hI
  have HO3 := hide (own_kp (unhide HO2) hK3 (by decide))
  have HH3 := hide hH3
  clear hK3 hI hH3
  have k1 := (unhide HA3).c 1 (v := .int .i64 a) rfl
  have k2 := (unhide HA3).c 2 (v := .int .i64 b) rfl
  have k3 := (unhide HA3).c 3 (v := .int .i64 c) rfl
  have k4 := (unhide HA3).c 4 (v := .slice ro R.length rc) rfl
  have q1 := (unhide HQ3).c 1 (v := .pointer (some ⟨d, 0, none⟩)) rfl
  go_wp2_with fail
  refine (refCollect_any w0.heap.size d p ro rc R ao cap T W3 (unhide HR3) (unhide HP2).lv (unhide HTT W3 (unhide HW3)) (unhide HFX).1 (unhide HFX).2.1 (unhide HP2).bo.cls (unhide HP2).u4 (by have := (unhide HFX).2.2.1; omega) (unhide HRR W3 (unhide HW3)) (unhide HFX).2.2.2.1).mono ?_
  rintro e W4 ⟨p', r2, er2, rfl, hI2, hP4, hK4⟩
  clear k1 k2 k3 k4 q1
  obtain ⟨rfl, rfl, hbo, hrm, hlv2, hlen⟩ := col_both (unhide HP2).bo (unhide HP2).rm (unhide HI3) hI2
  have HPr := hide (show Pr T (.slice ao T.length cap) w0.heap.size W4 g d h' p' from ⟨(unhide HH3).kp hK4 (by decide), hP4, hbo, hrm, hlv2.trans (unhide HP2).lv⟩)
  have HLN := hide hlen
  have HW4 := hide ((unhide HW3).trans hK4.bel)
  have HV4 := hide (own_js2 (own_kp (unhide HO3) hK4 (by decide)))
  have HZ4 := hide ((unhide HZ3).trans (hK4.mono (Nat.le_refl _) (by decide)))
  have HE4 := hide (EqualH_same (c := vc) (d := rc) (unhide HV4) (unhide HRR W4 (unhide HW4)) (by have := (unhide HFX).2.2.2.1; omega))
  have k4 := ((unhide HA3).kp hK4 (by decide)).c 4 (v := .slice ro R.length rc) rfl
  clear hI2 hP4 hK4 hbo hrm hlv2 hlen
  go_wp2_with fail
  refine (unhide HE4).mono ?_
  rintro e Wq ⟨rfl, qq, rfl⟩
  go_wp2
  go_ret
  exact ⟨rfl, (unhide HZ4).trans (Kp.of_below (belowD (Below.refl _ _) qq) (unhide HW4).size), h', p', (unhide HPr).below (belowD (Below.refl _ _) qq), unhide HLN⟩
end Go.Proofs.YtbbfnampjbdnbaaDoor
