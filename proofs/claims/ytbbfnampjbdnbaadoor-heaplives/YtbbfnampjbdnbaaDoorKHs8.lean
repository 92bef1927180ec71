/-
  provisolaw14.pair.act: Look, and whatever else.
-/
import Derived.Test.YtbbfnampjbdnbaaDoorJHC
import Derived.Test.YtbbfnampjbdnbaaDoorKHs1
import Derived.Deep.RegionHeld
import Derived.Deep.MidRow
namespace Go.Proofs.YtbbfnampjbdnbaaDoor
open Go.RowKit
set_option maxRecDepth 20000
set_option linter.unusedVariables false
set_option linter.unusedSimpArgs false

set_option maxRecDepth 20000 in
set_option maxHeartbeats 8000000 in
theorem act_e {T : List Cl} {ao : Option Addr} {cap : Nat} (w0 : World) (g d : Nat) (h : Hm) (p : Rp) (kd a b c : Int) (ro : Option Addr) (rc : Nat) (R : List Int) (w : World) (H : Pr T (.slice ao T.length cap) w0.heap.size w g d h p) (hb0 : Below w0.heap.size w0 w) (hT : TabAt w0 ao T) (hz : T.length * 48 ≤ 140737488351232) (hm : madeD T = true) (hl : p.R.length ≤ 2999999999999) (hR : JsAt w0 ro R) (hRl : R.length * 8 ≤ 140737488351232) (ha : a < 9223372036854775808) (n0 : kd ≠ 0) (n1 : kd ≠ 1) (n2 : kd ≠ 2) (n3 : kd ≠ 3) (n4 : kd ≠ 4) (n5 : kd ≠ 5) (n6 : kd ≠ 6) :
    Calls Tryd.prog 7 #[.agg #[.pointer (some ⟨g, 0, none⟩), .pointer (some ⟨d, 0, none⟩)], .agg #[.int .i64 kd, .int .i64 a, .int .i64 b, .int .i64 c, .slice ro R.length rc]] w fun e w' => ActIs T (.slice ao T.length cap) w0 w g d p.R.length w' e := by
  have hws : w0.heap.size ≤ w.heap.size := hb0.size
  have hbw : Below w.heap.size w ((w.alloc (.cells #[.pointer (some ⟨g, 0, none⟩), .pointer (some ⟨d, 0, none⟩)] 35)).alloc (.cells #[.int .i64 kd, .int .i64 a, .int .i64 b, .int .i64 c, .slice ro R.length rc] 44)) := ((Below.refl _ _).alloc (Nat.le_refl _) _).alloc (by rw [World.size_alloc]; omega) _
  have HB1 : Hid (Below w.heap.size w ((w.alloc (.cells #[.pointer (some ⟨g, 0, none⟩), .pointer (some ⟨d, 0, none⟩)] 35)).alloc (.cells #[.int .i64 kd, .int .i64 a, .int .i64 b, .int .i64 c, .slice ro R.length rc] 44))) := hide hbw
  have HW1 : Hid (Below w0.heap.size w0 ((w.alloc (.cells #[.pointer (some ⟨g, 0, none⟩), .pointer (some ⟨d, 0, none⟩)] 35)).alloc (.cells #[.int .i64 kd, .int .i64 a, .int .i64 b, .int .i64 c, .slice ro R.length rc] 44))) := hide (hb0.trans (hbw.mono hws))
  have HQ1 : Hid (Bx ((w.alloc (.cells #[.pointer (some ⟨g, 0, none⟩), .pointer (some ⟨d, 0, none⟩)] 35)).alloc (.cells #[.int .i64 kd, .int .i64 a, .int .i64 b, .int .i64 c, .slice ro R.length rc] 44)) w.heap.size 35 #[.pointer (some ⟨g, 0, none⟩), .pointer (some ⟨d, 0, none⟩)]) := hide ((show Bx (w.alloc (.cells #[.pointer (some ⟨g, 0, none⟩), .pointer (some ⟨d, 0, none⟩)] 35)) w.heap.size 35 #[.pointer (some ⟨g, 0, none⟩), .pointer (some ⟨d, 0, none⟩)] from heap_alloc_new w _).below ((Below.refl _ _).alloc (Nat.le_refl _) _))
  have HA1 : Hid (Bx ((w.alloc (.cells #[.pointer (some ⟨g, 0, none⟩), .pointer (some ⟨d, 0, none⟩)] 35)).alloc (.cells #[.int .i64 kd, .int .i64 a, .int .i64 b, .int .i64 c, .slice ro R.length rc] 44)) (w.heap.size + 1) 44 #[.int .i64 kd, .int .i64 a, .int .i64 b, .int .i64 c, .slice ro R.length rc]) := hide (by have := heap_alloc_new (w.alloc (.cells #[.pointer (some ⟨g, 0, none⟩), .pointer (some ⟨d, 0, none⟩)] 35)) (.cells #[.int .i64 kd, .int .i64 a, .int .i64 b, .int .i64 c, .slice ro R.length rc] 44); rw [World.size_alloc] at this; exact this)
  have HP0 := hide H
  have HRR := hide (fun (W : World) (hb : Below w0.heap.size w0 W) => hR.below hb)
  have HTT := hide (fun (W : World) (hb : Below w0.heap.size w0 W) => hT.below hb)
  have HFX : Hid (T.length * 48 ≤ 140737488351232 ∧ madeD T = true ∧ p.R.length ≤ 2999999999999 ∧ R.length * 8 ≤ 140737488351232 ∧ a < 9223372036854775808) := hide ⟨hz, hm, hl, hRl, ha⟩
  have HCL := hide (CloneH_any ro rc R _ (hR.below (unhide HW1)) (fun e => by
    cases R with
    | nil => rfl
    | cons y R => obtain ⟨b', o', h1, _⟩ := hR 0 y rfl; rw [e] at h1; cases h1) (by omega))
  have HWS := hide hws
  clear H hR hT hz hm hl hRl ha hbw hb0 hws
  go_enter Tryd.func7, Tryd.ntmps7
  go_upto_region 1 with fail
  generalize ((w.alloc (.cells #[.pointer (some ⟨g, 0, none⟩), .pointer (some ⟨d, 0, none⟩)] 35)).alloc (.cells #[.int .i64 kd, .int .i64 a, .int .i64 b, .int .i64 c, .slice ro R.length rc] 44)) = W1 at HB1 HW1 HQ1 HA1 HCL ⊢
  obtain ⟨q, HQE⟩ : ∃ q, q = w.heap.size := ⟨_, rfl⟩
  rw [← HQE] at HQ1 HA1 ⊢
  clear HQE
  have k4 := (unhide HA1).c 4 (v := .slice ro R.length rc) rfl
  go_wp2_with fail
  refine (unhide HCL).mono ?_
  rintro e W2 ⟨v, rfl, hO, hb2⟩
  obtain ⟨va, vc, rfl, hjv, _⟩ := hO.at
  have HB2 := hide ((unhide HB1).trans (hb2.mono (unhide HB1).size))
  have HW2 := hide ((unhide HW1).trans (hb2.mono (unhide HW1).size))
  have HZ2 : Hid (Kp w0.heap.size tsA w W2) := hide (Kp.of_below (unhide HB2) (unhide HWS))
  have HQ2 := hide ((unhide HQ1).below hb2)
  have HA2 := hide ((unhide HA1).below hb2)
  have HV2 := hide hjv
  have HP2 := hide ((unhide HP0).below (unhide HB2))
  clear k4 hO hjv hb2 HCL HB1 HW1 HQ1 HA1 HP0
  have k0 := (unhide HA2).c 0 (v := .int .i64 kd) rfl
  have k1 := (unhide HA2).c 1 (v := .int .i64 a) rfl
  have k2 := (unhide HA2).c 2 (v := .int .i64 b) rfl
  have k3 := (unhide HA2).c 3 (v := .int .i64 c) rfl
  have k4 := (unhide HA2).c 4 (v := .slice ro R.length rc) rfl
  have q0 := (unhide HQ2).c 0 (v := .pointer (some ⟨g, 0, none⟩)) rfl
  have q1 := (unhide HQ2).c 1 (v := .pointer (some ⟨d, 0, none⟩)) rfl
  have t0 : (kd == 0) = false := beq_f n0
  have t1 : (kd == 1) = false := beq_f n1
  have t2 : (kd == 2) = false := beq_f n2
  have t3 : (kd == 3) = false := beq_f n3
  have t4 : (kd == 4) = false := beq_f n4
  have t5 : (kd == 5) = false := beq_f n5
  have t6 : (kd == 6) = false := beq_f n6
  clear n0 n1 n2 n3 n4 n5 n6
  go_wp2_with fail
  clear k0 k1 k2 k3 k4 q0 q1
  clear t0 t1 t2 t3 t4 t5 t6
  have HS := hide (fun (W : World) (hb : Below W2.heap.size W2 W) => show Bx W q 35 #[.pointer (some ⟨g, 0, none⟩), .pointer (some ⟨d, 0, none⟩)] ∧ Bx W (q + 1) 44 #[.int .i64 kd, .int .i64 a, .int .i64 b, .int .i64 c, .slice ro R.length rc] ∧ Bx W d 61 (rpC p) from ⟨(unhide HQ2).below hb, (unhide HA2).below hb, (unhide HP2).rp.box.below hb⟩)
  have HPP := hide (fun (W : World) (hb : Below W2.heap.size W2 W) => (unhide HP2).below hb)
  have HLV := hide (fun (W : World) (hb : Below W2.heap.size W2 W) => refLive_any w0.heap.size d p W ((unhide HP2).below hb).rp (unhide HP2).u4 (by have := (unhide HFX).2.2.1; omega))
  have hll : (livR p.R).length ≤ 4096 := by have := livR_len p.R p.R.length; rw [List.take_of_length_le (Nat.le_refl _)] at this; have := (unhide HP2).u4; omega
  obtain ⟨oa, oc, hov⟩ := (unhide HP2).rp.ovs
  have HOV := hide hov
  obtain ⟨n, HN⟩ : ∃ n, Hid (p.R.length = n) := ⟨_, hide rfl⟩
  have hn : n ≤ 2999999999999 := by rw [← unhide HN]; exact (unhide HFX).2.2.1
  obtain ⟨i0, hi0, hz0, hz1, hz2⟩ := info_parts infoJ
  obtain ⟨LL, HLL⟩ : ∃ LL, Hid (livR p.R = LL) := ⟨_, hide rfl⟩
  rw [unhide HLL] at HLV hll
  have hw1 : IntKind.i64.wrap ((n : Int) + 1) = (n : Int) + 1 := by simp [IntKind.wrap, IntKind.bits, IntKind.signed]; omega
  clear hov
  have HD : Hid (Below W2.heap.size W2 W2.drew) := hide (belowD (Below.refl _ _) 1)
  refine wp_region_held_drew (S := fun w' => Bx w' q 35 #[.pointer (some ⟨g, 0, none⟩), .pointer (some ⟨d, 0, none⟩)] ∧ Bx w' (q + 1) 44 #[.int .i64 kd, .int .i64 a, .int .i64 b, .int .i64 c, .slice ro R.length rc] ∧ Bx w' d 61 (rpC p)) (by kernel_rfl) (unhide HS _ (unhide HD)) (fun hS => ?_)
  generalize W2.drew = Wd at hS HD ⊢
  obtain ⟨wb, HWB⟩ : ∃ wb, Hid (W2.heap.size = wb) := ⟨_, hide rfl⟩
  refine wpAnyH_take (i := 0) (v := .agg #[.pointer (some ⟨g, 0, none⟩), .pointer (some ⟨d, 0, none⟩)]) rfl (by kernel_rfl) (by kernel_rfl) (by kernel_rfl) (fun _ _ _ h => h) (yieldsIf_load_mid (by rfl) 35 _ rfl q 0 rfl _ _ (fun _ h => box_rangeH h.1) Tryd.underlying35 rfl (by kernel_rfl)) hS ?_
  go_simp
  refine wpAnyH_take (i := 1) (v := .pointer (some ⟨q, 1, none⟩)) rfl (by kernel_rfl) (by kernel_rfl) (by kernel_rfl) (fun _ _ _ h => h) (Or.inl ⟨by rfl, fun w _ => by go_simp⟩) hS ?_
  go_simp
  refine wpAnyH_take (i := 2) (v := .pointer (some ⟨d, 0, none⟩)) rfl (by kernel_rfl) (by kernel_rfl) (by kernel_rfl) (fun _ _ _ h => h) (Or.inl ⟨by rfl, fun W h => by have h0 := Bx.c h.1 1 (v := .pointer (some ⟨d, 0, none⟩)) rfl; go_simp⟩) hS ?_
  go_simp
  refine wpAnyH_take (i := 4) (v := .pointer (some ⟨q, 1, none⟩)) rfl (by kernel_rfl) (by kernel_rfl) (by kernel_rfl) (fun _ _ _ h => h) (Or.inl ⟨by rfl, fun w _ => by go_simp⟩) hS ?_
  go_simp
  refine wpAnyH_take (i := 5) (v := .pointer (some ⟨d, 0, none⟩)) rfl (by kernel_rfl) (by kernel_rfl) (by kernel_rfl) (fun _ _ _ h => h) (Or.inl ⟨by rfl, fun W h => by have h0 := Bx.c h.1 1 (v := .pointer (some ⟨d, 0, none⟩)) rfl; go_simp⟩) hS ?_
  go_simp
  refine wpAnyH_take (i := 6) (v := .pointer (some ⟨d, 0, none⟩)) rfl (by kernel_rfl) (by kernel_rfl) (by kernel_rfl) (fun _ _ _ h => h) (Or.inl ⟨by rfl, fun w _ => by go_simp⟩) hS ?_
  go_simp
  refine wpAnyH_take (i := 7) (v := .pointer (some ⟨d, 2, none⟩)) rfl (by kernel_rfl) (by kernel_rfl) (by kernel_rfl) (fun _ _ _ h => h) (Or.inl ⟨by rfl, fun w _ => by go_simp⟩) hS ?_
  go_simp
  refine wpAnyH_take (i := 8) (v := .slice oa n oc) rfl (by kernel_rfl) (by kernel_rfl) (by kernel_rfl) (fun _ _ _ h => h) (Or.inl ⟨by rfl, fun W h => by have h0 := Bx.c h.2.2 2 (v := p.ov) rfl; rw [unhide HOV, unhide HN] at h0; go_simp⟩) hS ?_
  go_simp
  refine wpAnyH_take (i := 9) (v := .int .i64 (n : Int)) rfl (by kernel_rfl) (by kernel_rfl) (by kernel_rfl) (fun _ _ _ h => h) (Or.inl ⟨by rfl, fun w _ => by go_simp⟩) hS ?_
  go_simp
  refine wpAnyH_take (i := 10) (v := .int .i64 ((n : Int) + 1)) rfl (by kernel_rfl) (by kernel_rfl) (by kernel_rfl) (fun _ _ _ h => h) (Or.inl ⟨by rfl, fun w _ => by go_simp⟩) hS ?_
  go_simp
  refine wpAnyH_take (i := 11) (v := .pointer (some ⟨q + 1, 1, none⟩)) rfl (by kernel_rfl) (by kernel_rfl) (by kernel_rfl) (fun _ _ _ h => h) (Or.inl ⟨by rfl, fun w _ => by go_simp⟩) hS ?_
  go_simp
  refine wpAnyH_take (i := 12) (v := .int .i64 a) rfl (by kernel_rfl) (by kernel_rfl) (by kernel_rfl) (fun _ _ _ h => h) (Or.inl ⟨by rfl, fun W h => by have h0 := Bx.c h.2.1 1 (v := .int .i64 a) rfl; go_simp⟩) hS ?_
  go_simp
  refine wpAnyH_ready (rs := [3, 13]) (by kernel_rfl) (by simp) ?_
  refine (AllReadyH.cons rfl (fun K hK => ?_) (AllReadyH.cons rfl (fun K hK => ?_) AllReadyH.nil))
  · go_simp
    go_wp2_with (go_at_call 9; refine (unhide HLV Wd (unhide HD)).mono ?_; rintro e Wx ⟨v1, rfl, hO1, hb1⟩)
    have HDx := hide ((unhide HD).trans (hb1.mono (unhide HD).size))
    obtain ⟨a1, c1, rfl, hj1, _⟩ := hO1.at
    have HOx : Hid (OwnJ Wx W2.heap.size (.slice a1 LL.length c1) LL) := hide (rowMono hO1 (unhide HD).size)
    refine hK.out _ _ (unhide HS _ (unhide HDx)) (fun hS2 => ?_)
    clear hK K hO1 hb1 hj1
    refine wpAnyH_ready (rs := [13]) (by kernel_rfl) (by simp) ?_
    refine AllReadyH.cons rfl (fun K hK => ?_) AllReadyH.nil
    go_simp
    have HDy : Hid (Below W2.heap.size W2 (Wx.alloc (.cells #[.int .i64 0, .int .i64 (-1), .int .i64 ((n : Int) + 1), .int .i64 a] 3))) := hide ((unhide HDx).alloc (unhide HDx).size _)
    have HOy : Hid (OwnJ (Wx.alloc (.cells #[.int .i64 0, .int .i64 (-1), .int .i64 ((n : Int) + 1), .int .i64 a] 3)) W2.heap.size (.slice a1 LL.length c1) LL) := hide (OwnJ.below (unhide HOx) ((Below.refl _ _).alloc (Nat.le_refl _) _))
    have HNW : Hid ((Wx.alloc (.cells #[.int .i64 0, .int .i64 (-1), .int .i64 ((n : Int) + 1), .int .i64 a] 3)).heap[Wx.heap.size]? = some (.cells #[.int .i64 0, .int .i64 (-1), .int .i64 ((n : Int) + 1), .int .i64 a] 3 (0, 0))) := hide (heap_alloc_new Wx _)
    refine hK.out _ _ (unhide HS _ (unhide HDy)) (fun hS3 => ?_)
    clear hK K hS2 HDx HOx
    generalize Wx.alloc (.cells #[.int .i64 0, .int .i64 (-1), .int .i64 ((n : Int) + 1), .int .i64 a] 3) = Wy at hS3 HDy HOy HNW ⊢
    generalize Wx.heap.size = bq at HNW ⊢
    refine wpAnyH_ready (rs := [14]) (by kernel_rfl) (by simp) ?_
    refine AllReadyH.cons rfl (fun K hK => ?_) AllReadyH.nil
    rw [if_pos (by rfl)]
    have hsz := (unhide HDy).size
    refine wp_append_lies (w := Wy) _ _ 42 (by rfl) W2.heap.size 3 i0 (.int .i64 0) 1 8 Tryd.underlying42 hi0 hz0 hz1 hz2 rfl (by omega) (.slice a1 LL.length c1) LL.length (jvals LL) (by rfl) (unhide HOy) ⟨bq, 0, none⟩ 4 4 [.int .i64 0, .int .i64 (-1), .int .i64 ((n : Int) + 1), .int .i64 a] (by rfl) (by rfl) (World.news_of_block (cs := #[.int .i64 0, .int .i64 (-1), .int .i64 ((n : Int) + 1), .int .i64 a]) (t := 3) (fr := (0, 0)) (unhide HNW)) (by intro u hu; simp at hu; rcases hu with rfl | rfl | rfl | rfl <;> rfl) (by omega) (by unfold maxLen; omega) (by omega) hsz Wy.heap.size rfl ?_
    intro g3 cap3 w3 hown hgrow hat hlt3
    have HDz : Hid (Below W2.heap.size W2 w3) := hide ((unhide HDy).grown hgrow hsz (fun k e => ((unhide HOy).lt k e).1))
    have HOz : Hid (OwnJ w3 W2.heap.size (.slice (some ⟨g3, 0, none⟩) (LL.length + 4) cap3) (LL ++ [0, -1, (n : Int) + 1, a])) := hide (by unfold OwnJ jvals; rw [List.map_append, List.length_append]; exact hown)
    have HLK := hide (look_any w0.heap.size g d h p (some ⟨g3, 0, none⟩) cap3 (LL ++ [0, -1, (n : Int) + 1, a]) w3 (unhide HPP w3 (unhide HDz)) (by rw [unhide HN]; omega) (own_js2 (unhide HOz)) (by simp; omega))
    rw [List.length_append] at HLK
    refine hK.out _ _ (unhide HS _ (unhide HDz)) (fun hS5 => ?_)
    clear hK K hown hgrow hat hlt3 HOz
    refine wpAnyH_ready (rs := [15]) (by kernel_rfl) (by simp) ?_
    refine AllReadyH.cons rfl (fun K hK => ?_) AllReadyH.nil
    go_simp
    go_wp2_with (go_at_call 8; refine (unhide HLK).mono ?_; rintro e Wz ⟨rfl, hbz⟩)
    have HDw := hide ((unhide HDz).trans (hbz.mono (unhide HDz).size))
    have HWw := hide ((unhide HW2).trans ((unhide HDw).mono (unhide HW2).size))
    refine hK.out _ _ (unhide HS _ (unhide HDw)) (fun hS6 => ?_)
    clear hK K hbz
    refine wpAnyH_take (i := 16) (v := .bool true) rfl (by kernel_rfl) (by kernel_rfl) (by kernel_rfl) (fun _ _ _ h => h) (Or.inl ⟨by rfl, fun w _ => by go_simp⟩) hS6 ?_
    go_simp
    refine wpAnyH_done (by kernel_rfl) ?_ _
    go_wp2
    go_ret
    exact ⟨rfl, (unhide HZ2).trans (Kp.of_below (unhide HDw) (unhide HW2).size), h, p, unhide HPP _ (unhide HDw), by rw [unhide HN]; exact Nat.le_succ _⟩
  · go_simp
    have HDx : Hid (Below W2.heap.size W2 (Wd.alloc (.cells #[.int .i64 0, .int .i64 (-1), .int .i64 ((n : Int) + 1), .int .i64 a] 3))) := hide ((unhide HD).alloc (unhide HD).size _)
    have HNX : Hid ((Wd.alloc (.cells #[.int .i64 0, .int .i64 (-1), .int .i64 ((n : Int) + 1), .int .i64 a] 3)).heap[Wd.heap.size]? = some (.cells #[.int .i64 0, .int .i64 (-1), .int .i64 ((n : Int) + 1), .int .i64 a] 3 (0, 0))) := hide (heap_alloc_new Wd _)
    refine hK.out _ _ (unhide HS _ (unhide HDx)) (fun hS2 => ?_)
    clear hK K
    generalize Wd.alloc (.cells #[.int .i64 0, .int .i64 (-1), .int .i64 ((n : Int) + 1), .int .i64 a] 3) = Wx at hS2 HDx HNX ⊢
    generalize Wd.heap.size = bq at HNX ⊢
    refine wpAnyH_ready (rs := [3]) (by kernel_rfl) (by simp) ?_
    refine AllReadyH.cons rfl (fun K hK => ?_) AllReadyH.nil
    go_simp
    go_wp2_with (go_at_call 9; refine (unhide HLV Wx (unhide HDx)).mono ?_; rintro e Wy ⟨v1, rfl, hO1, hb1⟩)
    have HDy := hide ((unhide HDx).trans (hb1.mono (unhide HDx).size))
    obtain ⟨a1, c1, rfl, hj1, _⟩ := hO1.at
    have HOy : Hid (OwnJ Wy W2.heap.size (.slice a1 LL.length c1) LL) := hide (rowMono hO1 (unhide HDx).size)
    have HNW : Hid (Wy.heap[bq]? = some (.cells #[.int .i64 0, .int .i64 (-1), .int .i64 ((n : Int) + 1), .int .i64 a] 3 (0, 0))) := hide ((hb1.block bq (Array.getElem?_eq_some_iff.1 (unhide HNX)).1).trans (unhide HNX))
    refine hK.out _ _ (unhide HS _ (unhide HDy)) (fun hS3 => ?_)
    clear hK K hO1 hb1 hj1
    refine wpAnyH_ready (rs := [14]) (by kernel_rfl) (by simp) ?_
    refine AllReadyH.cons rfl (fun K hK => ?_) AllReadyH.nil
    rw [if_pos (by rfl)]
    have hsz := (unhide HDy).size
    refine wp_append_lies (w := Wy) _ _ 42 (by rfl) W2.heap.size 3 i0 (.int .i64 0) 1 8 Tryd.underlying42 hi0 hz0 hz1 hz2 rfl (by omega) (.slice a1 LL.length c1) LL.length (jvals LL) (by rfl) (unhide HOy) ⟨bq, 0, none⟩ 4 4 [.int .i64 0, .int .i64 (-1), .int .i64 ((n : Int) + 1), .int .i64 a] (by rfl) (by rfl) (World.news_of_block (cs := #[.int .i64 0, .int .i64 (-1), .int .i64 ((n : Int) + 1), .int .i64 a]) (t := 3) (fr := (0, 0)) (unhide HNW)) (by intro u hu; simp at hu; rcases hu with rfl | rfl | rfl | rfl <;> rfl) (by omega) (by unfold maxLen; omega) (by omega) hsz Wy.heap.size rfl ?_
    intro g3 cap3 w3 hown hgrow hat hlt3
    have HDz : Hid (Below W2.heap.size W2 w3) := hide ((unhide HDy).grown hgrow hsz (fun k e => ((unhide HOy).lt k e).1))
    have HOz : Hid (OwnJ w3 W2.heap.size (.slice (some ⟨g3, 0, none⟩) (LL.length + 4) cap3) (LL ++ [0, -1, (n : Int) + 1, a])) := hide (by unfold OwnJ jvals; rw [List.map_append, List.length_append]; exact hown)
    have HLK := hide (look_any w0.heap.size g d h p (some ⟨g3, 0, none⟩) cap3 (LL ++ [0, -1, (n : Int) + 1, a]) w3 (unhide HPP w3 (unhide HDz)) (by rw [unhide HN]; omega) (own_js2 (unhide HOz)) (by simp; omega))
    rw [List.length_append] at HLK
    refine hK.out _ _ (unhide HS _ (unhide HDz)) (fun hS5 => ?_)
    clear hK K hown hgrow hat hlt3 HOz
    refine wpAnyH_ready (rs := [15]) (by kernel_rfl) (by simp) ?_
    refine AllReadyH.cons rfl (fun K hK => ?_) AllReadyH.nil
    go_simp
    go_wp2_with (go_at_call 8; refine (unhide HLK).mono ?_; rintro e Wz ⟨rfl, hbz⟩)
    have HDw := hide ((unhide HDz).trans (hbz.mono (unhide HDz).size))
    have HWw := hide ((unhide HW2).trans ((unhide HDw).mono (unhide HW2).size))
    refine hK.out _ _ (unhide HS _ (unhide HDw)) (fun hS6 => ?_)
    clear hK K hbz
    refine wpAnyH_take (i := 16) (v := .bool true) rfl (by kernel_rfl) (by kernel_rfl) (by kernel_rfl) (fun _ _ _ h => h) (Or.inl ⟨by rfl, fun w _ => by go_simp⟩) hS6 ?_
    go_simp
    refine wpAnyH_done (by kernel_rfl) ?_ _
    go_wp2
    go_ret
    exact ⟨rfl, (unhide HZ2).trans (Kp.of_below (unhide HDw) (unhide HW2).size), h, p, unhide HPP _ (unhide HDw), by rw [unhide HN]; exact Nat.le_succ _⟩
end Go.Proofs.YtbbfnampjbdnbaaDoor
