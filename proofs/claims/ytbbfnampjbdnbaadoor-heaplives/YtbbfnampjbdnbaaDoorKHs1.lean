/-
  provisolaw14.pair.look: both heaps answer alike for whatever references.
-/
import Derived.Test.YtbbfnampjbdnbaaDoorJHC
import Derived.Test.YtbbfnampjbdnbaaDoorKHl1
namespace Go.Proofs.YtbbfnampjbdnbaaDoor
open Go.RowKit
set_option maxRecDepth 20000
set_option linter.unusedVariables false
set_option linter.unusedSimpArgs false

theorem len_nn (R : List Rb) (r : Int) : 0 ≤ lenR R r := by
  unfold lenR
  split
  · omega
  · omega
set_option maxRecDepth 20000 in
set_option maxHeartbeats 8000000 in
theorem look_any {T : List Cl} {lv : Value} (B g d : Nat) (h : Hm) (p : Rp) (xo : Option Addr) (xc : Nat) (X : List Int) (w : World) (H : Pr T lv B w g d h p) (hl : p.R.length ≤ 3000000000000) (hX : JsAt w xo X) (hXl : X.length ≤ 4611686018427387904) :
    Calls Tryd.prog 8 #[.agg #[.pointer (some ⟨g, 0, none⟩), .pointer (some ⟨d, 0, none⟩)], .slice xo X.length xc] w fun e w' => e = .returned (.bool true) ∧ Below w.heap.size w w' := by
  have HP := hide (fun (W : World) (hb : Below w.heap.size w W) => H.below hb)
  have HX := hide (fun (W : World) (hb : Below w.heap.size w W) => hX.below hb)
  obtain ⟨u, HU⟩ : ∃ u, Hid (usedR p.R = u) := ⟨_, hide rfl⟩
  have HUB := hide (fun (W : World) (hb : Below w.heap.size w W) => show Calls Tryd.prog 31 #[.pointer (some ⟨g, 0, none⟩)] W fun e w' => e = .returned (.int .i64 (u : Int)) ∧ w' = W from by
    have := Used_any B g h W (H.below hb).hp
    rw [H.used, unhide HU] at this
    exact this)
  have HUR := hide (fun (W : World) (hb : Below w.heap.size w W) => show Calls Tryd.prog 32 #[.pointer (some ⟨d, 0, none⟩)] W fun e w' => e = .returned (.int .i64 (u : Int)) ∧ w' = W from by
    have := refUsed_any B d p W (H.below hb).rp H.u4 (by omega)
    rw [unhide HU] at this
    exact this)
  have HLB := hide (fun (W : World) (hb : Below w.heap.size w W) => show Calls Tryd.prog 33 #[.pointer (some ⟨g, 0, none⟩)] W fun e w' => ∃ v, e = .returned v ∧ OwnJ w' W.heap.size v (livR p.R) ∧ Below W.heap.size W w' from by
    have := Live_any B g h W (H.below hb).hp H.bo.ok.len
    rw [H.bo.live] at this
    exact this)
  have HLR := hide (fun (W : World) (hb : Below w.heap.size w W) => refLive_any B d p W (H.below hb).rp H.u4 (by omega))
  have hlv : Hid ((livR p.R).length ≤ 4096) := hide (by have := livR_len p.R p.R.length; rw [List.take_of_length_le (Nat.le_refl _)] at this; have := H.u4; omega)
  have HCB := hide (fun (r : Int) (W : World) (hb : Below w.heap.size w W) => Class_ex r (H.below hb).hp H.bo)
  have HCR := hide (fun (r : Int) (W : World) (hb : Below w.heap.size w W) => refClass_any B d p r W (H.below hb).rp (by omega))
  have HNB := hide (fun (r : Int) (W : World) (hb : Below w.heap.size w W) => Len_ex r (H.below hb).hp H.bo)
  have HNR := hide (fun (r : Int) (W : World) (hb : Below w.heap.size w W) => refLen_any B d p r W (H.below hb).rp (by omega))
  have HGB := hide (fun (r i : Int) (W : World) (hb : Below w.heap.size w W) => Get_ex r i (H.below hb).hp H.bo)
  have HGR := hide (fun (r i : Int) (W : World) (hb : Below w.heap.size w W) => refGet_any B d p r i W (H.below hb).rp (by omega))
  have HNN := hide (fun r => len_nn p.R r)
  have HB1 : Hid (Below w.heap.size w (w.alloc (.cells #[.pointer (some ⟨g, 0, none⟩), .pointer (some ⟨d, 0, none⟩)] 35))) := hide ((Below.refl _ _).alloc (Nat.le_refl _) _)
  have HBX : Hid (Bx (w.alloc (.cells #[.pointer (some ⟨g, 0, none⟩), .pointer (some ⟨d, 0, none⟩)] 35)) w.heap.size 35 #[.pointer (some ⟨g, 0, none⟩), .pointer (some ⟨d, 0, none⟩)]) := hide (heap_alloc_new w _)
  clear H hX hl
  go_enter Tryd.func8, Tryd.ntmps8
  go_upto_region 1 with fail
  generalize w.alloc (.cells #[.pointer (some ⟨g, 0, none⟩), .pointer (some ⟨d, 0, none⟩)] 35) = W1 at HB1 HBX ⊢
  obtain ⟨q, HQ⟩ : ∃ q, q = w.heap.size := ⟨_, rfl⟩
  rw [← HQ] at HBX ⊢
  clear HQ
  have HS := hide (fun (W : World) (hb : Below W1.heap.size W1 W) => (unhide HBX).below hb)
  go_cut [36] (fun s wx => s = .bool false ∧ Hid (Below W1.heap.size W1 wx))
  case first =>
    have HD : Hid (Below W1.heap.size W1 W1.drew) := hide (belowD (Below.refl _ _) 1)
    refine wp_region_held_drew (S := fun w' => Bx w' q 35 #[.pointer (some ⟨g, 0, none⟩), .pointer (some ⟨d, 0, none⟩)]) (by kernel_rfl) (unhide HS _ (unhide HD)) (fun hS => ?_)
    generalize W1.drew = Wd at hS HD ⊢
    refine wpAnyH_take (i := 0) (v := .pointer (some ⟨q, 0, none⟩)) rfl (by kernel_rfl) (by kernel_rfl) (by kernel_rfl) (fun _ _ _ h => h) (Or.inl ⟨by rfl, fun w _ => by go_simp⟩) hS ?_
    go_simp
    refine wpAnyH_take (i := 1) (v := .pointer (some ⟨g, 0, none⟩)) rfl (by kernel_rfl) (by kernel_rfl) (by kernel_rfl) (fun _ _ _ h => h) (Or.inl ⟨by rfl, fun W h => by have h0 := Bx.c h 0 (v := .pointer (some ⟨g, 0, none⟩)) rfl; go_simp⟩) hS ?_
    go_simp
    refine wpAnyH_take (i := 3) (v := .pointer (some ⟨q, 1, none⟩)) rfl (by kernel_rfl) (by kernel_rfl) (by kernel_rfl) (fun _ _ _ h => h) (Or.inl ⟨by rfl, fun w _ => by go_simp⟩) hS ?_
    go_simp
    refine wpAnyH_take (i := 4) (v := .pointer (some ⟨d, 0, none⟩)) rfl (by kernel_rfl) (by kernel_rfl) (by kernel_rfl) (fun _ _ _ h => h) (Or.inl ⟨by rfl, fun W h => by have h0 := Bx.c h 1 (v := .pointer (some ⟨d, 0, none⟩)) rfl; go_simp⟩) hS ?_
    go_simp
    have HBd := hide ((unhide HB1).trans ((unhide HD).mono (unhide HB1).size))
    refine wpAnyH_ready (rs := [2]) (by kernel_rfl) (by simp) ?_
    refine AllReadyH.cons rfl (fun K hK => ?_) AllReadyH.nil
    go_simp
    go_wp2_with (go_at_call 31; refine (unhide HUB Wd (unhide HBd)).mono ?_; rintro e w9 ⟨rfl, hw⟩; rw [hw]; clear hw)
    refine hK.out _ _ hS (fun hS2 => ?_)
    clear hK K
    refine wpAnyH_ready (rs := [5]) (by kernel_rfl) (by simp) ?_
    refine AllReadyH.cons rfl (fun K hK => ?_) AllReadyH.nil
    go_simp
    go_wp2_with (go_at_call 32; refine (unhide HUR Wd (unhide HBd)).mono ?_; rintro e w9 ⟨rfl, hw⟩; rw [hw]; clear hw)
    refine hK.out _ _ hS (fun hS3 => ?_)
    clear hK K hS2
    refine wpAnyH_take (i := 6) (v := .bool false) rfl (by kernel_rfl) (by kernel_rfl) (by kernel_rfl) (fun _ _ _ h => h) (Or.inl ⟨by rfl, fun w _ => by go_simp⟩) hS ?_
    go_simp
    refine wpAnyH_take (i := 7) (v := .bool false) rfl (by kernel_rfl) (by kernel_rfl) (by kernel_rfl) (fun _ _ _ h => h) (Or.inl ⟨by rfl, fun w _ => by go_simp⟩) hS ?_
    go_simp
    refine wpAnyH_take (i := 8) (v := .pointer (some ⟨q, 0, none⟩)) rfl (by kernel_rfl) (by kernel_rfl) (by kernel_rfl) (fun _ _ _ h => h) (Or.inl ⟨by rfl, fun w _ => by go_simp⟩) hS ?_
    go_simp
    refine wpAnyH_take (i := 9) (v := .pointer (some ⟨g, 0, none⟩)) rfl (by kernel_rfl) (by kernel_rfl) (by kernel_rfl) (fun _ _ _ h => h) (Or.inl ⟨by rfl, fun W h => by have h0 := Bx.c h 0 (v := .pointer (some ⟨g, 0, none⟩)) rfl; go_simp⟩) hS ?_
    go_simp
    refine wpAnyH_take (i := 11) (v := .pointer (some ⟨q, 1, none⟩)) rfl (by kernel_rfl) (by kernel_rfl) (by kernel_rfl) (fun _ _ _ h => h) (Or.inl ⟨by rfl, fun w _ => by go_simp⟩) hS ?_
    go_simp
    refine wpAnyH_take (i := 12) (v := .pointer (some ⟨d, 0, none⟩)) rfl (by kernel_rfl) (by kernel_rfl) (by kernel_rfl) (fun _ _ _ h => h) (Or.inl ⟨by rfl, fun W h => by have h0 := Bx.c h 1 (v := .pointer (some ⟨d, 0, none⟩)) rfl; go_simp⟩) hS ?_
    go_simp
    refine wpAnyH_ready (rs := [10]) (by kernel_rfl) (by simp) ?_
    refine AllReadyH.cons rfl (fun K hK => ?_) AllReadyH.nil
    go_simp
    go_wp2_with (go_at_call 33; refine (unhide HLB Wd (unhide HBd)).mono ?_; rintro e Wx ⟨v1, rfl, hO1, hb1⟩)
    have HD1 := hide ((unhide HD).trans (hb1.mono (unhide HD).size))
    have HBd1 := hide ((unhide HB1).trans ((unhide HD1).mono (unhide HB1).size))
    obtain ⟨a1, c1, rfl, hj1, _⟩ := hO1.at
    have HJ1 := hide hj1
    refine hK.out _ _ (unhide HS _ (unhide HD1)) (fun hS4 => ?_)
    clear hK K hS hS3 hO1 hb1 hj1
    refine wpAnyH_ready (rs := [13]) (by kernel_rfl) (by simp) ?_
    refine AllReadyH.cons rfl (fun K hK => ?_) AllReadyH.nil
    go_simp
    go_wp2_with (go_at_call 9; refine (unhide HLR Wx (unhide HBd1)).mono ?_; rintro e Wy ⟨v2, rfl, hO2, hb2⟩)
    have HD2 := hide ((unhide HD1).trans (hb2.mono (unhide HD1).size))
    obtain ⟨a2, c2, rfl, hj2, _⟩ := hO2.at
    have HE := hide (EqualH_same (c := c1) (d := c2) ((unhide HJ1).below hb2) hj2 (by have := unhide hlv; omega))
    refine hK.out _ _ (unhide HS _ (unhide HD2)) (fun hS5 => ?_)
    clear hK K hS4 hO2 hb2 hj2
    refine wpAnyH_ready (rs := [14]) (by kernel_rfl) (by simp) ?_
    refine AllReadyH.cons rfl (fun K hK => ?_) AllReadyH.nil
    go_simp
    go_wp2_with (go_at_call 28; refine (unhide HE).mono ?_; rintro e Wq ⟨rfl, qq, rfl⟩)
    have HD3 := hide (belowD (unhide HD2) qq)
    refine hK.out _ _ (unhide HS _ (unhide HD3)) (fun hS6 => ?_)
    clear hK K hS5 HE
    refine wpAnyH_take (i := 15) (v := .bool false) rfl (by kernel_rfl) (by kernel_rfl) (by kernel_rfl) (fun _ _ _ h => h) (Or.inl ⟨by rfl, fun w _ => by go_simp⟩) hS6 ?_
    go_simp
    refine wpAnyH_take (i := 16) (v := .bool false) rfl (by kernel_rfl) (by kernel_rfl) (by kernel_rfl) (fun _ _ _ h => h) (Or.inl ⟨by rfl, fun w _ => by go_simp⟩) hS6 ?_
    go_simp
    refine wpAnyH_done (by kernel_rfl) ?_ _
    go_wp2_with fail
    go_meet
    exact ⟨rfl, HD3⟩
  case rest =>
    obtain ⟨rfl, HBc⟩ := hcut
    clear HUB HUR HLB HLR hlv
    go_wp2_with fail
    go_loopw [39] (fun i wr => ∃ k : Nat, k ≤ X.length ∧ i = .int .i64 (k : Int) ∧ Hid (Below W1.heap.size W1 wr)) (fun i _ => X.length - (intOf i).toNat)
    case atStart => exact ⟨0, by omega, rfl, HBc⟩
    case round =>
      obtain ⟨k, hk, rfl, HBr⟩ := hrel
      clear HBc
      by_cases hkl : k < X.length
      · have i1 : ((k : Nat) : Int) < ((X.length : Nat) : Int) := by omega
        have HBw := hide ((unhide HB1).trans ((unhide HBr).mono (unhide HB1).size))
        have hx := List.getElem?_eq_getElem hkl
        generalize X[k] = r at hx
        obtain ⟨xb, xf, rfl, hcx⟩ := unhide HX wr (unhide HBw) k r hx
        have b0 := (unhide HS wr (unhide HBr)).c 0 (v := .pointer (some ⟨g, 0, none⟩)) rfl
        have hnn := unhide HNN r
        obtain ⟨cc, hcc⟩ : ∃ cc, Hid (clsC p.R r = cc) := ⟨_, hide rfl⟩
        obtain ⟨cb, hcb⟩ : ∃ cb, Hid (clsB p.R r = cb) := ⟨_, hide rfl⟩
        obtain ⟨ln, hln⟩ : ∃ ln, Hid (lenR p.R r = ln) := ⟨_, hide rfl⟩
        obtain ⟨fl, hfl⟩ : ∃ fl, Hid (fltR p.R r = fl) := ⟨_, hide rfl⟩
        rw [unhide hln] at hnn
        clear hx
        go_wp2_with fail
        refine (unhide HCB r wr (unhide HBw)).mono ?_
        rintro e Wa ⟨rfl, hba⟩
        rw [unhide hcc, unhide hcb]
        have HBa := hide ((unhide HBr).trans (hba.mono (unhide HBr).size))
        have HBaw := hide ((unhide HB1).trans ((unhide HBa).mono (unhide HB1).size))
        clear hba b0 hcx
        have b1 := (unhide HS Wa (unhide HBa)).c 1 (v := .pointer (some ⟨d, 0, none⟩)) rfl
        go_wp2_with fail
        refine (unhide HCR r Wa (unhide HBaw)).mono ?_
        rintro e w9 ⟨rfl, hw⟩
        rw [hw, unhide hcc, unhide hcb]
        clear hw b1
        have b0 := (unhide HS Wa (unhide HBa)).c 0 (v := .pointer (some ⟨g, 0, none⟩)) rfl
        go_wp2_with fail
        refine (unhide HNB r Wa (unhide HBaw)).mono ?_
        rintro e Wb ⟨rfl, hbb⟩
        rw [unhide hln, unhide hfl]
        have HBb := hide ((unhide HBa).trans (hbb.mono (unhide HBa).size))
        have HBbw := hide ((unhide HB1).trans ((unhide HBb).mono (unhide HB1).size))
        clear hbb b0
        have b1 := (unhide HS Wb (unhide HBb)).c 1 (v := .pointer (some ⟨d, 0, none⟩)) rfl
        go_wp2_with fail
        refine (unhide HNR r Wb (unhide HBbw)).mono ?_
        rintro e w9 ⟨rfl, hw⟩
        rw [hw, unhide hln, unhide hfl]
        clear hw b1
        go_wp2_with fail
        by_cases h8 : 8 < ln
        · have h8' := h8
          go_loopw [15] (fun i wr => ∃ j : Int, -1 ≤ j ∧ j ≤ 9 ∧ i = .int .i64 j ∧ Hid (Below W1.heap.size W1 wr)) (fun i _ => (10 - intOf i).toNat)
          case atStart => exact ⟨-1, by omega, by omega, rfl, HBb⟩
          case round =>
            obtain ⟨j, hj1, hj2, rfl, HBe⟩ := hrel
            have HBew := hide ((unhide HB1).trans ((unhide HBe).mono (unhide HB1).size))
            by_cases hjm : j ≤ 8
            · have b0 := (unhide HS wr (unhide HBe)).c 0 (v := .pointer (some ⟨g, 0, none⟩)) rfl
              obtain ⟨gw, hgw⟩ : ∃ gw, Hid (getW p.R r j = gw) := ⟨_, hide rfl⟩
              obtain ⟨ge, hge⟩ : ∃ ge, Hid (getE p.R r j = ge) := ⟨_, hide rfl⟩
              go_wp2_with fail
              refine (unhide HGB r j wr (unhide HBew)).mono ?_
              rintro e Wf ⟨rfl, hbf⟩
              rw [unhide hgw, unhide hge]
              have HBf := hide ((unhide HBe).trans (hbf.mono (unhide HBe).size))
              have HBfw := hide ((unhide HB1).trans ((unhide HBf).mono (unhide HB1).size))
              clear hbf b0
              have b1 := (unhide HS Wf (unhide HBf)).c 1 (v := .pointer (some ⟨d, 0, none⟩)) rfl
              go_wp2_with fail
              refine (unhide HGR r j Wf (unhide HBfw)).mono ?_
              rintro e w9 ⟨rfl, hw⟩
              rw [hw, unhide hgw, unhide hge]
              clear hw b1
              go_wp2
              go_roundw
              case rel => exact ⟨j + 1, by omega, by omega, by go_num, HBf⟩
              case measure => simp [intOf]; omega
            · go_wp2
              go_roundw
              case rel => exact ⟨k + 1, by omega, by go_num, HBe⟩
              case measure => simp [intOf]; omega
        · have h8' : ln ≤ 8 := by omega
          go_loopw [15] (fun i wr => ∃ j : Int, -1 ≤ j ∧ j ≤ 9 ∧ i = .int .i64 j ∧ Hid (Below W1.heap.size W1 wr)) (fun i _ => (10 - intOf i).toNat)
          case atStart => exact ⟨-1, by omega, by omega, rfl, HBb⟩
          case round =>
            obtain ⟨j, hj1, hj2, rfl, HBe⟩ := hrel
            have HBew := hide ((unhide HB1).trans ((unhide HBe).mono (unhide HB1).size))
            by_cases hjm : j ≤ ln
            · have b0 := (unhide HS wr (unhide HBe)).c 0 (v := .pointer (some ⟨g, 0, none⟩)) rfl
              obtain ⟨gw, hgw⟩ : ∃ gw, Hid (getW p.R r j = gw) := ⟨_, hide rfl⟩
              obtain ⟨ge, hge⟩ : ∃ ge, Hid (getE p.R r j = ge) := ⟨_, hide rfl⟩
              go_wp2_with fail
              refine (unhide HGB r j wr (unhide HBew)).mono ?_
              rintro e Wf ⟨rfl, hbf⟩
              rw [unhide hgw, unhide hge]
              have HBf := hide ((unhide HBe).trans (hbf.mono (unhide HBe).size))
              have HBfw := hide ((unhide HB1).trans ((unhide HBf).mono (unhide HB1).size))
              clear hbf b0
              have b1 := (unhide HS Wf (unhide HBf)).c 1 (v := .pointer (some ⟨d, 0, none⟩)) rfl
              go_wp2_with fail
              refine (unhide HGR r j Wf (unhide HBfw)).mono ?_
              rintro e w9 ⟨rfl, hw⟩
              rw [hw, unhide hgw, unhide hge]
              clear hw b1
              go_wp2
              go_roundw
              case rel => exact ⟨j + 1, by omega, by omega, by go_num, HBf⟩
              case measure => simp [intOf]; omega
            · go_wp2
              go_roundw
              case rel => exact ⟨k + 1, by omega, by go_num, HBe⟩
              case measure => simp [intOf]; omega
      · have i1 : ¬ ((k : Nat) : Int) < ((X.length : Nat) : Int) := by omega
        have HBw := hide ((unhide HB1).trans ((unhide HBr).mono (unhide HB1).size))
        go_wp2
        go_ret
        exact ⟨rfl, unhide HBw⟩
end Go.Proofs.YtbbfnampjbdnbaaDoor
