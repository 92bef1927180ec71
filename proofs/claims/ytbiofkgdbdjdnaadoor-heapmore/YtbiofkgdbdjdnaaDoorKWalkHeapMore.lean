/-
  The walk of the law HeapMore: it returns true for every life, roots and cut, and writes nothing that was there.
-/
import Derived.Test.YtbiofkgdbdjdnaaDoorKHl1
import Derived.Test.YtbiofkgdbdjdnaaDoorSo
import Derived.Deep.Upon
namespace Go.Proofs.YtbiofkgdbdjdnaaDoor
open Go.RowKit
set_option maxRecDepth 20000

theorem good_roots {h : Hm} {R R' : List Int} (hs : ∀ r ∈ R, ∃ o ∈ h.O, o.ref = r) (hsub : ∀ r ∈ R', r ∈ R) : ¬ badR h R' := by
  rintro ⟨r, hr, _, hn⟩
  obtain ⟨o, ho, e⟩ := hs r (hsub r hr)
  exact hn o ho e
theorem Rch.sub {h : Hm} {R R' : List Int} (hs : ∀ r ∈ R, r ∈ R') {k : Nat} (H : Rch h R k) : Rch h R' k := by
  induction H with
  | root h1 h2 => exact .root h1 (hs _ h2)
  | step _ h1 h2 h3 h4 h5 ih => exact .step ih h1 h2 h3 h4 h5
theorem Rch.parts {h : Hm} {R A B : List Int} (hs : ∀ r ∈ R, r ∈ A ∨ r ∈ B) {k : Nat} (H : Rch h R k) : Rch h A k ∨ Rch h B k := by
  induction H with
  | root h1 h2 => exact (hs _ h2).imp (fun h => .root h1 h) (fun h => .root h1 h)
  | step _ h1 h2 h3 h4 h5 ih => exact ih.imp (fun h => .step h h1 h2 h3 h4 h5) (fun h => .step h h1 h2 h3 h4 h5)
theorem sel_union {h : Hm} (hok : HmOk h) {R : List Int} {k : Nat} {C1 C2 C3 : List Bool} (h1 : ComIs h R C1) (h2 : ComIs h (R.take k) C2) (h3 : ComIs h (R.drop k) C3) : onceJ (sel h.O C2 ++ sel h.O C3) = sel h.O C1 := by
  refine asc_ext (onceJ_asc _) (sel_asc hok.asc C1) (fun x => ?_)
  rw [mem_onceJ, List.mem_append, mem_sel, mem_sel, mem_sel]
  constructor
  · rintro (⟨i, o, ho, hc, e⟩ | ⟨i, o, ho, hc, e⟩)
    · exact ⟨i, o, ho, (h1.2 i).2 (((h2.2 i).1 hc).sub (fun r hr => List.mem_of_mem_take hr)), e⟩
    · exact ⟨i, o, ho, (h1.2 i).2 (((h3.2 i).1 hc).sub (fun r hr => List.mem_of_mem_drop hr)), e⟩
  · rintro ⟨i, o, ho, hc, e⟩
    rcases ((h1.2 i).1 hc).parts (A := R.take k) (B := R.drop k) (fun r hr => by rw [← List.mem_append, List.take_append_drop]; exact hr) with hr | hr
    · exact Or.inl ⟨i, o, ho, (h2.2 i).2 hr, e⟩
    · exact Or.inr ⟨i, o, ho, (h3.2 i).2 hr, e⟩
theorem take_getJ {l : List Int} {k i : Nat} {x : Int} (h : (l.take k)[i]? = some x) : l[i]? = some x := by
  rw [List.getElem?_take] at h
  split at h
  · exact h
  · cases h
theorem own_cap {W : World} {B : Nat} {a : Option Addr} {l : List Int} {c : Nat} (h : OwnJ W B (.slice a l.length c) l) : l.length ≤ c := by
  rcases h.2 with ⟨h1, h2⟩ | ⟨g, cap, cur, h1, _, _, h4, _⟩
  · omega
  · injection h1 with _ _ h1
    omega
theorem app_nil (a : Option Addr) (n c : Nat) (w : World) (h : n ≤ c) : (Builtin.append_ #[42, 42] 42 #[.slice a n c, .slice none 0 0]).run Tryd.prog w = .ok (.slice a n c) w := by
  obtain ⟨i0, hi, hz0, hz1, hz2⟩ := info_parts infoJ
  cases a <;> simp [Builtin.append_, run_underlying Tryd.underlying42, sizeOf, typeInfo, hi, Builtin.lenOf, h, Builtin.firstCells, storeCells]
set_option maxRecDepth 20000 in
set_option maxHeartbeats 4000000 in
theorem walkHeapMore {w : World} (hW : WordsAt w) (ao : Option Addr) (cap : Nat) (T : List Cl) (room : Int) (xo : Option Addr) (xc : Nat) (X : List Ac) (hT : TabAt w ao T) (hcap : T.length ≤ cap) (hz : T.length * 48 ≤ 140737488351232) (hX : AcsAt w xo X) (hXl : X.length * 56 ≤ 140737488351232) (ro : Option Addr) (rc : Nat) (R : List Int) (hR : JsAt w ro R) (hRl : R.length * 8 ≤ 140737488351232) (cut : Int) (hcut : (Lit.int .u64 cut).wf = true) :
    Calls Tryd.prog 8 #[.agg #[.slice ao T.length cap, .int .i64 room, .slice xo X.length xc], .slice ro R.length rc, .int .u64 cut] w fun e w' => e = .returned (.bool true) ∧ Below w.heap.size w w' := by
  obtain ⟨i0, hi, hz0, hz1, hz2⟩ := info_parts infoJ
  have hc0 : 0 ≤ cut := (bounds_u64 hcut).1
  clear hcut
  have hal : Below w.heap.size w (w.alloc (.cells #[.slice ao T.length cap, .int .i64 room, .slice xo X.length xc] 25)) := (Below.refl _ _).alloc (Nat.le_refl _) _
  have HBX : Hid (Bx (w.alloc (.cells #[.slice ao T.length cap, .int .i64 room, .slice xo X.length xc] 25)) w.heap.size 25 #[.slice ao T.length cap, .int .i64 room, .slice xo X.length xc]) := hide (heap_alloc_new w _)
  have HB := hide hal
  have HA := hide (awake_any _ (hW.below hal))
  have HT := hide hT
  have HX := hide hX
  have HW := hide hW
  have HRR := hide hR
  have HZ := hide (And.intro hcap (And.intro hz (And.intro hXl hRl)))
  clear hal hT hX hW hz hcap hXl hR hRl
  go_enter Tryd.func8, Tryd.ntmps8
  go_upto_region 1 with fail
  generalize w.alloc (.cells #[.slice ao T.length cap, .int .i64 room, .slice xo X.length xc] 25) = W1 at HBX HB HA ⊢
  go_wp2_with fail
  refine (unhide HA).mono ?_
  rintro e W2 ⟨rfl, hb2⟩
  have HB2 := hide ((unhide HB).trans (hb2.mono (unhide HB).size))
  have HBX2 := hide ((unhide HBX).below hb2)
  clear hb2 HA HB HBX
  have HL := hide (lived_any ao cap T room xo xc X W2 ((unhide HT).below (unhide HB2)) (unhide HZ).1 ((unhide HW).below (unhide HB2)) (unhide HZ).2.1 ((unhide HX).below (unhide HB2)) (unhide HZ).2.2.1)
  have k0 := (unhide HBX2).c 0 rfl
  have k1 := (unhide HBX2).c 1 rfl
  have k2 := (unhide HBX2).c 2 rfl
  go_wp2_with fail
  refine (unhide HL).mono ?_
  rintro e W3 ⟨hI, hb3⟩
  have HB3 := hide ((unhide HB2).trans (hb3.mono (unhide HB2).size))
  have HBX3 := hide ((unhide HBX2).below hb3)
  clear hb3 HL k0 k1 k2 HBX2
  rcases hI with rfl | ⟨_, hr1, _, g, h, rfl, hH, hLv⟩
  · go_wp2
    go_ret
    exact ⟨rfl, unhide HB3⟩
  · have HOK := hide hLv.ok
    have hlen := hLv.ok.len
    have HLi := hide (live_any W2.heap.size g h ro rc R W3 hH hlen ((unhide HRR).below (unhide HB3)) (unhide HZ).2.2.2)
    have HH := hide hH
    clear hH hLv
    go_wp2_with fail
    refine (unhide HLi).mono ?_
    rintro e W4 ⟨v, rfl, hO, hb4⟩
    have HH4 := hide ((unhide HH).below hb4)
    have HB4 := hide ((unhide HB3).trans (hb4.mono (unhide HB3).size))
    have HBX4 := hide ((unhide HBX3).below hb4)
    have hRn : (liveD h R).length ≤ 17592186043904 := Nat.le_trans (List.length_filter_le _ _) (by have := (unhide HZ).2.2.2; omega)
    have HRS : Hid (∀ r ∈ liveD h R, ∃ o ∈ h.O, o.ref = r) := hide (fun r hr => by
      have := (List.mem_filter.1 hr).2
      obtain ⟨o, ho, e⟩ := List.mem_map.1 (of_decide_eq_true this)
      exact ⟨o, ho, e⟩)
    have HO := hide hO
    clear hb4 HLi HH HB3 HBX3 hO
    generalize liveD h R = R1 at hRn HRS HO
    obtain ⟨k, hk1, hk2⟩ : ∃ k : Nat, Int.tmod cut (((R1.length : Nat) : Int) + 1) = (k : Int) ∧ k ≤ R1.length := ⟨(cut % (((R1.length : Nat) : Int) + 1)).toNat, by
      rw [Int.tmod_eq_emod_of_nonneg hc0, Int.toNat_of_nonneg (Int.emod_nonneg _ (by omega))], by
      have := Int.emod_lt_of_pos cut (show (0 : Int) < ((R1.length : Nat) : Int) + 1 by omega)
      have := Int.emod_nonneg cut (show ((R1.length : Nat) : Int) + 1 ≠ 0 by omega)
      omega⟩
    have hnz : ¬ ((R1.length : Nat) : Int) + 1 = 0 := by omega
    rcases (unhide HO).shape with ⟨rfl, hnil⟩ | ⟨vb, vc, rfl, hvb, hvl, hvc, hcell, hfr⟩
    · subst hnil
      have hk0 : k = 0 := by simp at hk2; omega
      subst hk0
      have HJ : Hid (∀ (W : World) (a : Option Addr), JsAt W a ([] : List Int)) := hide (fun W a i x hx => by simp at hx)
      go_upto_region 8 with fail
      clear hk1 hnz hc0
      have HRq := hide (Reach_any W2.heap.size g h none 0 [] W4 ((unhide HH4)) (unhide HOK) (unhide HJ _ _) (by simp))
      go_wp2_with fail
      refine (unhide HRq).mono ?_
      rintro e W5 ⟨hc, hb5⟩
      rcases hc with ⟨rfl, hbad⟩ | ⟨_, v1, C1, rfl, hci1, hO1⟩
      · exact absurd hbad (good_roots (unhide HRS) (fun r h => h))
      · clear HRq
        have HRq := hide (Reach_any W2.heap.size g h none 0 [] W5 (((unhide HH4).below hb5)) (unhide HOK) (unhide HJ _ _) (by simp))
        go_wp2_with fail
        refine (unhide HRq).mono ?_
        rintro e W6 ⟨hc, hb6⟩
        rcases hc with ⟨rfl, hbad⟩ | ⟨_, v2, C2, rfl, hci2, hO2⟩
        · exact absurd hbad (good_roots (unhide HRS) (fun r h => h))
        · clear HRq
          have HRq := hide (Reach_any W2.heap.size g h none 0 [] W6 ((((unhide HH4).below hb5).below hb6)) (unhide HOK) (unhide HJ _ _) (by simp))
          go_wp2_with fail
          refine (unhide HRq).mono ?_
          rintro e W7 ⟨hc, hb7⟩
          rcases hc with ⟨rfl, hbad⟩ | ⟨_, v3, C3, rfl, hci3, hO3⟩
          · exact absurd hbad (good_roots (unhide HRS) (fun r h => h))
          · clear HRq
            obtain ⟨a1, c1, rfl, hj1, _⟩ := hO1.at
            obtain ⟨a2, c2, rfl, hj2, hn2⟩ := hO2.at
            have HJ1 := hide ((hj1.below hb6).below hb7)
            have HJ2 := hide (hj2.below hb7)
            have HN2 := hide hn2
            have HO3 := hide hO3
            have HU : Hid (onceJ (sel h.O C2 ++ sel h.O C3) = sel h.O C1) := hide (sel_union (R := []) (k := 0) (unhide HOK) hci1 hci2 hci3)
            have l1 : (sel h.O C1).length ≤ 4096 := Nat.le_trans (sel_len _ _) hlen
            have l2 : (sel h.O C2).length ≤ 4096 := Nat.le_trans (sel_len _ _) hlen
            have l3 : (sel h.O C3).length ≤ 4096 := Nat.le_trans (sel_len _ _) hlen
            have HB7 := hide ((((unhide HB4).trans (hb5.mono (unhide HB4).size)).trans (hb6.mono (Nat.le_trans (unhide HB4).size hb5.size))).trans (hb7.mono (Nat.le_trans (Nat.le_trans (unhide HB4).size hb5.size) hb6.size)))
            clear hj1 hj2 hn2 hO1 hO2 hO3 hci1 hci2 hci3 hb5 hb6 hb7
            generalize sel h.O C1 = S1 at HJ1 HU l1 ⊢
            generalize sel h.O C2 = S2 at HJ2 HN2 HU l2 ⊢
            generalize sel h.O C3 = S3 at HO3 HU l3
            have HCl := hide (CloneH_any a2 c2 S2 W7 (unhide HJ2) (unhide HN2) (by omega))
            obtain ⟨v3, HV3⟩ : ∃ q, q = v3 := ⟨_, rfl⟩
            subst HV3
            rcases (unhide HO3).shape with ⟨rfl, hS3⟩ | ⟨v3b, v3c, rfl, h3b, h3l, h3c, h3cell, _⟩
            · go_wp2_with fail
              refine (unhide HCl).mono ?_
              rintro e W8 ⟨v4, rfl, hO4, hb8⟩
              obtain ⟨a4, c4, rfl, hj4, _⟩ := hO4.at
              have h4c : S2.length ≤ c4 := own_cap hO4
              have HRUN := hide (app_nil a4 S2.length c4 W8 h4c)
              have HO5 : Hid (OwnJ W8 W7.heap.size (.slice a4 S2.length c4) (S2 ++ S3)) := hide (by rw [hS3, List.append_nil]; exact hO4)
              have HB8 := hide hb8
              clear hO4 hb8 hj4 h4c HCl
              go_wp2_with (at_builtin; refine Lib.wpList_append_run _ rfl _ _ 42 42 rfl _ _ rfl rfl _ _ (unhide HRUN) ?_)
              have HST := hide (Sort_own (unhide HO5) (by simp; omega))
              go_wp2_with fail
              refine (unhide HST).mono ?_
              rintro e W10 ⟨rfl, hO6, hb10⟩
              have HB10 := hide ((unhide HB8).trans hb10)
              have HCM := hide (Compact_own hO6 (by rw [srtJ_len]; simp; omega))
              clear hO6 hb10 HST
              go_wp2_with fail
              refine (unhide HCM).mono ?_
              rintro e W11 ⟨v6, rfl, hO7, hb11⟩
              have hO7 : OwnJ W11 W7.heap.size v6 (onceJ (S2 ++ S3)) := hO7
              rw [unhide HU] at hO7
              obtain ⟨a6, c6, rfl, hj6, _⟩ := hO7.at
              have HB11 := hide ((unhide HB10).trans hb11)
              have HEQ := hide (EqualH_same (c := c6) (d := c1) hj6 ((unhide HJ1).below (unhide HB11)) (by omega))
              clear hO7 hb11 hj6 HCM
              go_wp2_with fail
              refine (unhide HEQ).mono ?_
              rintro e W12 ⟨rfl, q, rfl⟩
              have HB12 := hide (((unhide HB7).trans ((unhide HB11).mono (unhide HB7).size)).trans (belowD (Below.refl w.heap.size W11) q))
              go_wp2
              go_ret
              exact ⟨rfl, unhide HB12⟩
            · have h3at : ∀ j u, (jvals S3)[j]? = some u → W7.cell? ((⟨v3b, 0, none⟩ : Addr).add j) = some u := fun j u hj => by
                unfold jvals at hj
                rw [List.getElem?_map] at hj
                obtain ⟨a, ha, rfl⟩ := Option.map_eq_some_iff.1 hj
                rw [Addr.add_lit, Nat.zero_add]
                exact h3cell j a ha
              have H3AT := hide h3at
              clear h3at h3cell
              go_wp2_with fail
              refine (unhide HCl).mono ?_
              rintro e W8 ⟨v4, rfl, hO4, hb8⟩
              have HB8 := hide hb8
              have HO4 := hide hO4
              have hs8 := hb8.size
              clear hO4 hb8 HCl
              go_wp2_with (at_builtin; refine wpList_append_own _ rfl _ _ 42 rfl (W7.heap.size) 3 i0 (.int .i64 0) 1 8 Tryd.underlying42 hi hz0 hz1 hz2 rfl (by decide) _ S2.length (jvals S2) rfl (unhide HO4) ⟨v3b, 0, none⟩ S3.length v3c (jvals S3) rfl ?q03 ?q13 (jvals_oneH _) ?q33 ?q43 ?q53 ?_)
              case q03 => simp [jvals]
              case q13 =>
                intro j u hj
                have := unhide H3AT j u hj
                rw [Addr.add_lit] at this ⊢
                exact ((unhide HB8).cell (p := ⟨v3b, 0 + j, none⟩) (World.block_lt_of_cell? W7 _ this)).trans this
              case q33 => unfold maxLen; omega
              case q43 => omega
              case q53 => exact hs8
              intro v5 W9 hO5 hG5 _
              have HO5 : Hid (OwnJ W9 W7.heap.size v5 (S2 ++ S3)) := hide (by unfold OwnJ; rw [List.length_append]; unfold jvals at hO5 ⊢; rw [List.map_append]; exact hO5)
              have HB9 := hide ((unhide HB8).grown hG5 (unhide HB8).size (fun q e => (World.ownsRow.lt (unhide HO4) q e).1))
              clear hO5 hG5
              have HST := hide (Sort_own (unhide HO5) (by simp; omega))
              go_wp2_with fail
              refine (unhide HST).mono ?_
              rintro e W10 ⟨rfl, hO6, hb10⟩
              have HB10 := hide ((unhide HB9).trans hb10)
              have HCM := hide (Compact_own hO6 (by rw [srtJ_len]; simp; omega))
              clear hO6 hb10 HST
              go_wp2_with fail
              refine (unhide HCM).mono ?_
              rintro e W11 ⟨v6, rfl, hO7, hb11⟩
              have hO7 : OwnJ W11 W7.heap.size v6 (onceJ (S2 ++ S3)) := hO7
              rw [unhide HU] at hO7
              obtain ⟨a6, c6, rfl, hj6, _⟩ := hO7.at
              have HB11 := hide ((unhide HB10).trans hb11)
              have HEQ := hide (EqualH_same (c := c6) (d := c1) hj6 ((unhide HJ1).below (unhide HB11)) (by omega))
              clear hO7 hb11 hj6 HCM
              go_wp2_with fail
              refine (unhide HEQ).mono ?_
              rintro e W12 ⟨rfl, q, rfl⟩
              have HB12 := hide (((unhide HB7).trans ((unhide HB11).mono (unhide HB7).size)).trans (belowD (Below.refl w.heap.size W11) q))
              go_wp2
              go_ret
              exact ⟨rfl, unhide HB12⟩
    · have HJ : Hid (JsAt W4 (some ⟨vb, 0, none⟩) R1) := hide (fun i x hx => ⟨vb, 0, rfl, by rw [Nat.zero_add]; exact hcell i x hx⟩)
      have hkI : ((k : Nat) : Int) ≤ ((R1.length : Nat) : Int) := by omega
      clear hcell hfr hvb hvl
      go_upto_region 8 with fail
      clear hk1 hnz hc0
      have HRq := hide (Reach_any W2.heap.size g h (some ⟨vb, 0, none⟩) vc R1 W4 ((unhide HH4)) (unhide HOK) (unhide HJ) (by omega))
      go_wp2_with fail
      refine (unhide HRq).mono ?_
      rintro e W5 ⟨hc, hb5⟩
      rcases hc with ⟨rfl, hbad⟩ | ⟨_, v1, C1, rfl, hci1, hO1⟩
      · exact absurd hbad (good_roots (unhide HRS) (fun r h => h))
      · clear HRq
        have hkc : k ≤ vc := by omega
        have HRq := hide (Reach_any W2.heap.size g h (some ⟨vb, 0, none⟩) vc (R1.take k) W5 (((unhide HH4).below hb5)) (unhide HOK) (fun i x hx => (unhide HJ).below hb5 i x (take_getJ hx)) (by simp; omega))
        rw [show (R1.take k).length = k by simp; omega] at HRq
        go_wp2_with fail
        refine (unhide HRq).mono ?_
        rintro e W6 ⟨hc, hb6⟩
        rcases hc with ⟨rfl, hbad⟩ | ⟨_, v2, C2, rfl, hci2, hO2⟩
        · exact absurd hbad (good_roots (unhide HRS) (fun r h => List.mem_of_mem_take h))
        · clear HRq
          by_cases hkn : k < R1.length
          · have hne : ¬ k = vc := by omega
            have HRq := hide (Reach_any W2.heap.size g h (some ⟨vb, k, none⟩) (vc - k) (R1.drop k) W6 ((((unhide HH4).below hb5).below hb6)) (unhide HOK) (fun i x hx => by
                obtain ⟨b, off, e, hcc⟩ := ((unhide HJ).below hb5).below hb6 (k + i) x (by rw [List.getElem?_drop] at hx; exact hx)
                injection e with e
                injection e with e1 e2
                subst e1 e2
                exact ⟨vb, k, rfl, by rw [Nat.zero_add] at hcc; exact hcc⟩) (by simp; omega))
            rw [List.length_drop] at HRq
            go_wp2_with fail
            refine (unhide HRq).mono ?_
            rintro e W7 ⟨hc, hb7⟩
            rcases hc with ⟨rfl, hbad⟩ | ⟨_, v3, C3, rfl, hci3, hO3⟩
            · exact absurd hbad (good_roots (unhide HRS) (fun r h => List.mem_of_mem_drop h))
            · clear HRq
              obtain ⟨a1, c1, rfl, hj1, _⟩ := hO1.at
              obtain ⟨a2, c2, rfl, hj2, hn2⟩ := hO2.at
              have HJ1 := hide ((hj1.below hb6).below hb7)
              have HJ2 := hide (hj2.below hb7)
              have HN2 := hide hn2
              have HO3 := hide hO3
              have HU : Hid (onceJ (sel h.O C2 ++ sel h.O C3) = sel h.O C1) := hide (sel_union (unhide HOK) hci1 hci2 hci3)
              have l1 : (sel h.O C1).length ≤ 4096 := Nat.le_trans (sel_len _ _) hlen
              have l2 : (sel h.O C2).length ≤ 4096 := Nat.le_trans (sel_len _ _) hlen
              have l3 : (sel h.O C3).length ≤ 4096 := Nat.le_trans (sel_len _ _) hlen
              have HB7 := hide ((((unhide HB4).trans (hb5.mono (unhide HB4).size)).trans (hb6.mono (Nat.le_trans (unhide HB4).size hb5.size))).trans (hb7.mono (Nat.le_trans (Nat.le_trans (unhide HB4).size hb5.size) hb6.size)))
              clear hj1 hj2 hn2 hO1 hO2 hO3 hci1 hci2 hci3 hb5 hb6 hb7
              generalize sel h.O C1 = S1 at HJ1 HU l1 ⊢
              generalize sel h.O C2 = S2 at HJ2 HN2 HU l2 ⊢
              generalize sel h.O C3 = S3 at HO3 HU l3
              have HCl := hide (CloneH_any a2 c2 S2 W7 (unhide HJ2) (unhide HN2) (by omega))
              obtain ⟨v3, HV3⟩ : ∃ q, q = v3 := ⟨_, rfl⟩
              subst HV3
              rcases (unhide HO3).shape with ⟨rfl, hS3⟩ | ⟨v3b, v3c, rfl, h3b, h3l, h3c, h3cell, _⟩
              · go_wp2_with fail
                refine (unhide HCl).mono ?_
                rintro e W8 ⟨v4, rfl, hO4, hb8⟩
                obtain ⟨a4, c4, rfl, hj4, _⟩ := hO4.at
                have h4c : S2.length ≤ c4 := own_cap hO4
                have HRUN := hide (app_nil a4 S2.length c4 W8 h4c)
                have HO5 : Hid (OwnJ W8 W7.heap.size (.slice a4 S2.length c4) (S2 ++ S3)) := hide (by rw [hS3, List.append_nil]; exact hO4)
                have HB8 := hide hb8
                clear hO4 hb8 hj4 h4c HCl
                go_wp2_with (at_builtin; refine Lib.wpList_append_run _ rfl _ _ 42 42 rfl _ _ rfl rfl _ _ (unhide HRUN) ?_)
                have HST := hide (Sort_own (unhide HO5) (by simp; omega))
                go_wp2_with fail
                refine (unhide HST).mono ?_
                rintro e W10 ⟨rfl, hO6, hb10⟩
                have HB10 := hide ((unhide HB8).trans hb10)
                have HCM := hide (Compact_own hO6 (by rw [srtJ_len]; simp; omega))
                clear hO6 hb10 HST
                go_wp2_with fail
                refine (unhide HCM).mono ?_
                rintro e W11 ⟨v6, rfl, hO7, hb11⟩
                have hO7 : OwnJ W11 W7.heap.size v6 (onceJ (S2 ++ S3)) := hO7
                rw [unhide HU] at hO7
                obtain ⟨a6, c6, rfl, hj6, _⟩ := hO7.at
                have HB11 := hide ((unhide HB10).trans hb11)
                have HEQ := hide (EqualH_same (c := c6) (d := c1) hj6 ((unhide HJ1).below (unhide HB11)) (by omega))
                clear hO7 hb11 hj6 HCM
                go_wp2_with fail
                refine (unhide HEQ).mono ?_
                rintro e W12 ⟨rfl, q, rfl⟩
                have HB12 := hide (((unhide HB7).trans ((unhide HB11).mono (unhide HB7).size)).trans (belowD (Below.refl w.heap.size W11) q))
                go_wp2
                go_ret
                exact ⟨rfl, unhide HB12⟩
              · have h3at : ∀ j u, (jvals S3)[j]? = some u → W7.cell? ((⟨v3b, 0, none⟩ : Addr).add j) = some u := fun j u hj => by
                  unfold jvals at hj
                  rw [List.getElem?_map] at hj
                  obtain ⟨a, ha, rfl⟩ := Option.map_eq_some_iff.1 hj
                  rw [Addr.add_lit, Nat.zero_add]
                  exact h3cell j a ha
                have H3AT := hide h3at
                clear h3at h3cell
                go_wp2_with fail
                refine (unhide HCl).mono ?_
                rintro e W8 ⟨v4, rfl, hO4, hb8⟩
                have HB8 := hide hb8
                have HO4 := hide hO4
                have hs8 := hb8.size
                clear hO4 hb8 HCl
                go_wp2_with (at_builtin; refine wpList_append_own _ rfl _ _ 42 rfl (W7.heap.size) 3 i0 (.int .i64 0) 1 8 Tryd.underlying42 hi hz0 hz1 hz2 rfl (by decide) _ S2.length (jvals S2) rfl (unhide HO4) ⟨v3b, 0, none⟩ S3.length v3c (jvals S3) rfl ?q01 ?q11 (jvals_oneH _) ?q31 ?q41 ?q51 ?_)
                case q01 => simp [jvals]
                case q11 =>
                  intro j u hj
                  have := unhide H3AT j u hj
                  rw [Addr.add_lit] at this ⊢
                  exact ((unhide HB8).cell (p := ⟨v3b, 0 + j, none⟩) (World.block_lt_of_cell? W7 _ this)).trans this
                case q31 => unfold maxLen; omega
                case q41 => omega
                case q51 => exact hs8
                intro v5 W9 hO5 hG5 _
                have HO5 : Hid (OwnJ W9 W7.heap.size v5 (S2 ++ S3)) := hide (by unfold OwnJ; rw [List.length_append]; unfold jvals at hO5 ⊢; rw [List.map_append]; exact hO5)
                have HB9 := hide ((unhide HB8).grown hG5 (unhide HB8).size (fun q e => (World.ownsRow.lt (unhide HO4) q e).1))
                clear hO5 hG5
                have HST := hide (Sort_own (unhide HO5) (by simp; omega))
                go_wp2_with fail
                refine (unhide HST).mono ?_
                rintro e W10 ⟨rfl, hO6, hb10⟩
                have HB10 := hide ((unhide HB9).trans hb10)
                have HCM := hide (Compact_own hO6 (by rw [srtJ_len]; simp; omega))
                clear hO6 hb10 HST
                go_wp2_with fail
                refine (unhide HCM).mono ?_
                rintro e W11 ⟨v6, rfl, hO7, hb11⟩
                have hO7 : OwnJ W11 W7.heap.size v6 (onceJ (S2 ++ S3)) := hO7
                rw [unhide HU] at hO7
                obtain ⟨a6, c6, rfl, hj6, _⟩ := hO7.at
                have HB11 := hide ((unhide HB10).trans hb11)
                have HEQ := hide (EqualH_same (c := c6) (d := c1) hj6 ((unhide HJ1).below (unhide HB11)) (by omega))
                clear hO7 hb11 hj6 HCM
                go_wp2_with fail
                refine (unhide HEQ).mono ?_
                rintro e W12 ⟨rfl, q, rfl⟩
                have HB12 := hide (((unhide HB7).trans ((unhide HB11).mono (unhide HB7).size)).trans (belowD (Below.refl w.heap.size W11) q))
                go_wp2
                go_ret
                exact ⟨rfl, unhide HB12⟩
          · have hkn2 : R1.length ≤ k := by omega
            have hzz : R1.length - k = 0 := by omega
            by_cases hvk : k = vc
            · subst hvk
              have HRq := fun aX cX => hide (Reach_any W2.heap.size g h aX cX [] W6 ((((unhide HH4).below hb5).below hb6)) (unhide HOK) (fun i x hx => by simp at hx) (by simp))
              simp only [List.length_nil] at HRq
              go_wp2_with fail
              with_reducible refine (unhide (HRq _ _)).mono ?_
              rintro e W7 ⟨hc, hb7⟩
              rcases hc with ⟨rfl, hbad⟩ | ⟨_, v3, C3, rfl, hci3, hO3⟩
              · exact absurd hbad (good_roots (unhide HRS) (fun r h => by cases h))
              · clear HRq
                have hci3 : ComIs h (R1.drop k) C3 := by rw [List.drop_eq_nil_of_le hkn2]; exact hci3
                obtain ⟨a1, c1, rfl, hj1, _⟩ := hO1.at
                obtain ⟨a2, c2, rfl, hj2, hn2⟩ := hO2.at
                have HJ1 := hide ((hj1.below hb6).below hb7)
                have HJ2 := hide (hj2.below hb7)
                have HN2 := hide hn2
                have HO3 := hide hO3
                have HU : Hid (onceJ (sel h.O C2 ++ sel h.O C3) = sel h.O C1) := hide (sel_union (unhide HOK) hci1 hci2 hci3)
                have l1 : (sel h.O C1).length ≤ 4096 := Nat.le_trans (sel_len _ _) hlen
                have l2 : (sel h.O C2).length ≤ 4096 := Nat.le_trans (sel_len _ _) hlen
                have l3 : (sel h.O C3).length ≤ 4096 := Nat.le_trans (sel_len _ _) hlen
                have HB7 := hide ((((unhide HB4).trans (hb5.mono (unhide HB4).size)).trans (hb6.mono (Nat.le_trans (unhide HB4).size hb5.size))).trans (hb7.mono (Nat.le_trans (Nat.le_trans (unhide HB4).size hb5.size) hb6.size)))
                clear hj1 hj2 hn2 hO1 hO2 hO3 hci1 hci2 hci3 hb5 hb6 hb7
                generalize sel h.O C1 = S1 at HJ1 HU l1 ⊢
                generalize sel h.O C2 = S2 at HJ2 HN2 HU l2 ⊢
                generalize sel h.O C3 = S3 at HO3 HU l3
                have HCl := hide (CloneH_any a2 c2 S2 W7 (unhide HJ2) (unhide HN2) (by omega))
                obtain ⟨v3, HV3⟩ : ∃ q, q = v3 := ⟨_, rfl⟩
                subst HV3
                rcases (unhide HO3).shape with ⟨rfl, hS3⟩ | ⟨v3b, v3c, rfl, h3b, h3l, h3c, h3cell, _⟩
                · go_wp2_with fail
                  refine (unhide HCl).mono ?_
                  rintro e W8 ⟨v4, rfl, hO4, hb8⟩
                  obtain ⟨a4, c4, rfl, hj4, _⟩ := hO4.at
                  have h4c : S2.length ≤ c4 := own_cap hO4
                  have HRUN := hide (app_nil a4 S2.length c4 W8 h4c)
                  have HO5 : Hid (OwnJ W8 W7.heap.size (.slice a4 S2.length c4) (S2 ++ S3)) := hide (by rw [hS3, List.append_nil]; exact hO4)
                  have HB8 := hide hb8
                  clear hO4 hb8 hj4 h4c HCl
                  go_wp2_with (at_builtin; refine Lib.wpList_append_run _ rfl _ _ 42 42 rfl _ _ rfl rfl _ _ (unhide HRUN) ?_)
                  have HST := hide (Sort_own (unhide HO5) (by simp; omega))
                  go_wp2_with fail
                  refine (unhide HST).mono ?_
                  rintro e W10 ⟨rfl, hO6, hb10⟩
                  have HB10 := hide ((unhide HB8).trans hb10)
                  have HCM := hide (Compact_own hO6 (by rw [srtJ_len]; simp; omega))
                  clear hO6 hb10 HST
                  go_wp2_with fail
                  refine (unhide HCM).mono ?_
                  rintro e W11 ⟨v6, rfl, hO7, hb11⟩
                  have hO7 : OwnJ W11 W7.heap.size v6 (onceJ (S2 ++ S3)) := hO7
                  rw [unhide HU] at hO7
                  obtain ⟨a6, c6, rfl, hj6, _⟩ := hO7.at
                  have HB11 := hide ((unhide HB10).trans hb11)
                  have HEQ := hide (EqualH_same (c := c6) (d := c1) hj6 ((unhide HJ1).below (unhide HB11)) (by omega))
                  clear hO7 hb11 hj6 HCM
                  go_wp2_with fail
                  refine (unhide HEQ).mono ?_
                  rintro e W12 ⟨rfl, q, rfl⟩
                  have HB12 := hide (((unhide HB7).trans ((unhide HB11).mono (unhide HB7).size)).trans (belowD (Below.refl w.heap.size W11) q))
                  go_wp2
                  go_ret
                  exact ⟨rfl, unhide HB12⟩
                · have h3at : ∀ j u, (jvals S3)[j]? = some u → W7.cell? ((⟨v3b, 0, none⟩ : Addr).add j) = some u := fun j u hj => by
                    unfold jvals at hj
                    rw [List.getElem?_map] at hj
                    obtain ⟨a, ha, rfl⟩ := Option.map_eq_some_iff.1 hj
                    rw [Addr.add_lit, Nat.zero_add]
                    exact h3cell j a ha
                  have H3AT := hide h3at
                  clear h3at h3cell
                  go_wp2_with fail
                  refine (unhide HCl).mono ?_
                  rintro e W8 ⟨v4, rfl, hO4, hb8⟩
                  have HB8 := hide hb8
                  have HO4 := hide hO4
                  have hs8 := hb8.size
                  clear hO4 hb8 HCl
                  go_wp2_with (at_builtin; refine wpList_append_own _ rfl _ _ 42 rfl (W7.heap.size) 3 i0 (.int .i64 0) 1 8 Tryd.underlying42 hi hz0 hz1 hz2 rfl (by decide) _ S2.length (jvals S2) rfl (unhide HO4) ⟨v3b, 0, none⟩ S3.length v3c (jvals S3) rfl ?q02 ?q12 (jvals_oneH _) ?q32 ?q42 ?q52 ?_)
                  case q02 => simp [jvals]
                  case q12 =>
                    intro j u hj
                    have := unhide H3AT j u hj
                    rw [Addr.add_lit] at this ⊢
                    exact ((unhide HB8).cell (p := ⟨v3b, 0 + j, none⟩) (World.block_lt_of_cell? W7 _ this)).trans this
                  case q32 => unfold maxLen; omega
                  case q42 => omega
                  case q52 => exact hs8
                  intro v5 W9 hO5 hG5 _
                  have HO5 : Hid (OwnJ W9 W7.heap.size v5 (S2 ++ S3)) := hide (by unfold OwnJ; rw [List.length_append]; unfold jvals at hO5 ⊢; rw [List.map_append]; exact hO5)
                  have HB9 := hide ((unhide HB8).grown hG5 (unhide HB8).size (fun q e => (World.ownsRow.lt (unhide HO4) q e).1))
                  clear hO5 hG5
                  have HST := hide (Sort_own (unhide HO5) (by simp; omega))
                  go_wp2_with fail
                  refine (unhide HST).mono ?_
                  rintro e W10 ⟨rfl, hO6, hb10⟩
                  have HB10 := hide ((unhide HB9).trans hb10)
                  have HCM := hide (Compact_own hO6 (by rw [srtJ_len]; simp; omega))
                  clear hO6 hb10 HST
                  go_wp2_with fail
                  refine (unhide HCM).mono ?_
                  rintro e W11 ⟨v6, rfl, hO7, hb11⟩
                  have hO7 : OwnJ W11 W7.heap.size v6 (onceJ (S2 ++ S3)) := hO7
                  rw [unhide HU] at hO7
                  obtain ⟨a6, c6, rfl, hj6, _⟩ := hO7.at
                  have HB11 := hide ((unhide HB10).trans hb11)
                  have HEQ := hide (EqualH_same (c := c6) (d := c1) hj6 ((unhide HJ1).below (unhide HB11)) (by omega))
                  clear hO7 hb11 hj6 HCM
                  go_wp2_with fail
                  refine (unhide HEQ).mono ?_
                  rintro e W12 ⟨rfl, q, rfl⟩
                  have HB12 := hide (((unhide HB7).trans ((unhide HB11).mono (unhide HB7).size)).trans (belowD (Below.refl w.heap.size W11) q))
                  go_wp2
                  go_ret
                  exact ⟨rfl, unhide HB12⟩
            · have HRq := fun aX cX => hide (Reach_any W2.heap.size g h aX cX [] W6 ((((unhide HH4).below hb5).below hb6)) (unhide HOK) (fun i x hx => by simp at hx) (by simp))
              simp only [List.length_nil] at HRq
              go_wp2_with fail
              with_reducible refine (unhide (HRq _ _)).mono ?_
              rintro e W7 ⟨hc, hb7⟩
              rcases hc with ⟨rfl, hbad⟩ | ⟨_, v3, C3, rfl, hci3, hO3⟩
              · exact absurd hbad (good_roots (unhide HRS) (fun r h => by cases h))
              · clear HRq
                have hci3 : ComIs h (R1.drop k) C3 := by rw [List.drop_eq_nil_of_le hkn2]; exact hci3
                obtain ⟨a1, c1, rfl, hj1, _⟩ := hO1.at
                obtain ⟨a2, c2, rfl, hj2, hn2⟩ := hO2.at
                have HJ1 := hide ((hj1.below hb6).below hb7)
                have HJ2 := hide (hj2.below hb7)
                have HN2 := hide hn2
                have HO3 := hide hO3
                have HU : Hid (onceJ (sel h.O C2 ++ sel h.O C3) = sel h.O C1) := hide (sel_union (unhide HOK) hci1 hci2 hci3)
                have l1 : (sel h.O C1).length ≤ 4096 := Nat.le_trans (sel_len _ _) hlen
                have l2 : (sel h.O C2).length ≤ 4096 := Nat.le_trans (sel_len _ _) hlen
                have l3 : (sel h.O C3).length ≤ 4096 := Nat.le_trans (sel_len _ _) hlen
                have HB7 := hide ((((unhide HB4).trans (hb5.mono (unhide HB4).size)).trans (hb6.mono (Nat.le_trans (unhide HB4).size hb5.size))).trans (hb7.mono (Nat.le_trans (Nat.le_trans (unhide HB4).size hb5.size) hb6.size)))
                clear hj1 hj2 hn2 hO1 hO2 hO3 hci1 hci2 hci3 hb5 hb6 hb7
                generalize sel h.O C1 = S1 at HJ1 HU l1 ⊢
                generalize sel h.O C2 = S2 at HJ2 HN2 HU l2 ⊢
                generalize sel h.O C3 = S3 at HO3 HU l3
                have HCl := hide (CloneH_any a2 c2 S2 W7 (unhide HJ2) (unhide HN2) (by omega))
                obtain ⟨v3, HV3⟩ : ∃ q, q = v3 := ⟨_, rfl⟩
                subst HV3
                rcases (unhide HO3).shape with ⟨rfl, hS3⟩ | ⟨v3b, v3c, rfl, h3b, h3l, h3c, h3cell, _⟩
                · go_wp2_with fail
                  refine (unhide HCl).mono ?_
                  rintro e W8 ⟨v4, rfl, hO4, hb8⟩
                  obtain ⟨a4, c4, rfl, hj4, _⟩ := hO4.at
                  have h4c : S2.length ≤ c4 := own_cap hO4
                  have HRUN := hide (app_nil a4 S2.length c4 W8 h4c)
                  have HO5 : Hid (OwnJ W8 W7.heap.size (.slice a4 S2.length c4) (S2 ++ S3)) := hide (by rw [hS3, List.append_nil]; exact hO4)
                  have HB8 := hide hb8
                  clear hO4 hb8 hj4 h4c HCl
                  go_wp2_with (at_builtin; refine Lib.wpList_append_run _ rfl _ _ 42 42 rfl _ _ rfl rfl _ _ (unhide HRUN) ?_)
                  have HST := hide (Sort_own (unhide HO5) (by simp; omega))
                  go_wp2_with fail
                  refine (unhide HST).mono ?_
                  rintro e W10 ⟨rfl, hO6, hb10⟩
                  have HB10 := hide ((unhide HB8).trans hb10)
                  have HCM := hide (Compact_own hO6 (by rw [srtJ_len]; simp; omega))
                  clear hO6 hb10 HST
                  go_wp2_with fail
                  refine (unhide HCM).mono ?_
                  rintro e W11 ⟨v6, rfl, hO7, hb11⟩
                  have hO7 : OwnJ W11 W7.heap.size v6 (onceJ (S2 ++ S3)) := hO7
                  rw [unhide HU] at hO7
                  obtain ⟨a6, c6, rfl, hj6, _⟩ := hO7.at
                  have HB11 := hide ((unhide HB10).trans hb11)
                  have HEQ := hide (EqualH_same (c := c6) (d := c1) hj6 ((unhide HJ1).below (unhide HB11)) (by omega))
                  clear hO7 hb11 hj6 HCM
                  go_wp2_with fail
                  refine (unhide HEQ).mono ?_
                  rintro e W12 ⟨rfl, q, rfl⟩
                  have HB12 := hide (((unhide HB7).trans ((unhide HB11).mono (unhide HB7).size)).trans (belowD (Below.refl w.heap.size W11) q))
                  go_wp2
                  go_ret
                  exact ⟨rfl, unhide HB12⟩
                · have h3at : ∀ j u, (jvals S3)[j]? = some u → W7.cell? ((⟨v3b, 0, none⟩ : Addr).add j) = some u := fun j u hj => by
                    unfold jvals at hj
                    rw [List.getElem?_map] at hj
                    obtain ⟨a, ha, rfl⟩ := Option.map_eq_some_iff.1 hj
                    rw [Addr.add_lit, Nat.zero_add]
                    exact h3cell j a ha
                  have H3AT := hide h3at
                  clear h3at h3cell
                  go_wp2_with fail
                  refine (unhide HCl).mono ?_
                  rintro e W8 ⟨v4, rfl, hO4, hb8⟩
                  have HB8 := hide hb8
                  have HO4 := hide hO4
                  have hs8 := hb8.size
                  clear hO4 hb8 HCl
                  go_wp2_with (at_builtin; refine wpList_append_own _ rfl _ _ 42 rfl (W7.heap.size) 3 i0 (.int .i64 0) 1 8 Tryd.underlying42 hi hz0 hz1 hz2 rfl (by decide) _ S2.length (jvals S2) rfl (unhide HO4) ⟨v3b, 0, none⟩ S3.length v3c (jvals S3) rfl ?q04 ?q14 (jvals_oneH _) ?q34 ?q44 ?q54 ?_)
                  case q04 => simp [jvals]
                  case q14 =>
                    intro j u hj
                    have := unhide H3AT j u hj
                    rw [Addr.add_lit] at this ⊢
                    exact ((unhide HB8).cell (p := ⟨v3b, 0 + j, none⟩) (World.block_lt_of_cell? W7 _ this)).trans this
                  case q34 => unfold maxLen; omega
                  case q44 => omega
                  case q54 => exact hs8
                  intro v5 W9 hO5 hG5 _
                  have HO5 : Hid (OwnJ W9 W7.heap.size v5 (S2 ++ S3)) := hide (by unfold OwnJ; rw [List.length_append]; unfold jvals at hO5 ⊢; rw [List.map_append]; exact hO5)
                  have HB9 := hide ((unhide HB8).grown hG5 (unhide HB8).size (fun q e => (World.ownsRow.lt (unhide HO4) q e).1))
                  clear hO5 hG5
                  have HST := hide (Sort_own (unhide HO5) (by simp; omega))
                  go_wp2_with fail
                  refine (unhide HST).mono ?_
                  rintro e W10 ⟨rfl, hO6, hb10⟩
                  have HB10 := hide ((unhide HB9).trans hb10)
                  have HCM := hide (Compact_own hO6 (by rw [srtJ_len]; simp; omega))
                  clear hO6 hb10 HST
                  go_wp2_with fail
                  refine (unhide HCM).mono ?_
                  rintro e W11 ⟨v6, rfl, hO7, hb11⟩
                  have hO7 : OwnJ W11 W7.heap.size v6 (onceJ (S2 ++ S3)) := hO7
                  rw [unhide HU] at hO7
                  obtain ⟨a6, c6, rfl, hj6, _⟩ := hO7.at
                  have HB11 := hide ((unhide HB10).trans hb11)
                  have HEQ := hide (EqualH_same (c := c6) (d := c1) hj6 ((unhide HJ1).below (unhide HB11)) (by omega))
                  clear hO7 hb11 hj6 HCM
                  go_wp2_with fail
                  refine (unhide HEQ).mono ?_
                  rintro e W12 ⟨rfl, q, rfl⟩
                  have HB12 := hide (((unhide HB7).trans ((unhide HB11).mono (unhide HB7).size)).trans (belowD (Below.refl w.heap.size W11) q))
                  go_wp2
                  go_ret
                  exact ⟨rfl, unhide HB12⟩
end Go.Proofs.YtbiofkgdbdjdnaaDoor
