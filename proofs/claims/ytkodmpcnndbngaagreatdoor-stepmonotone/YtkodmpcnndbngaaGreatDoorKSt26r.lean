/-
  provisoref07.apply: as the plain function says; nothing old is turned.
-/
import Derived.Test.YtkodmpcnndbngaaGreatDoorJSX
import Derived.Deep.QuietTactic
import Derived.BigQuiet
namespace Go.Proofs.YtkodmpcnndbngaaGreatDoor
open Go.RowKit
set_option maxRecDepth 20000

set_option maxRecDepth 20000 in
set_option maxHeartbeats 8000000 in
theorem refApply_r (s : Sp) (hop : s.op = 22) : RefA s := by
  have HOP := hide hop
  clear hop
  intro w hok hfi hm
  have HX4 := hide (B4.new w s)
  have hf := hok.fr
  have hu := miss_unk hm
  have h34 := unk_op hu
  obtain ⟨ws, HWS⟩ : ∃ ws, Hid (tkR s s.op = ws) := ⟨_, hide rfl⟩
  have HRF := hide (applyS_ref s hok.can hfi hm (tn := ws.length) (by rw [unhide HWS]))
  have HWB : Hid (∀ t ∈ ws, t < 256) := hide (by rw [← unhide HWS]; exact tkR_byte s hok.can s.op h34 hu)
  have hwl : ws.length ≤ 8 := by rw [← unhide HWS, tkR_len s s.op h34]; exact tk_len s hok.can s.op h34
  have HTK : Hid (∀ W, Below w.heap.size w W → Calls Tryz.prog 42 #[.agg #[.slice s.ao s.T.length s.cap, .slice s.so s.L.length s.sc, .int .i64 s.fn], .agg #[.int .i64 s.p, .int .u8 (s.op : Int), .int .i64 s.a, .int .i64 s.b]] W (Row W ws)) := hide (fun W hB => by
    have h := rtk_all s W (hok.below hB) s.op h34 hu
    rw [unhide HWS] at h
    exact h)
  have HGV : Hid (∀ W, Below w.heap.size w W → Calls Tryz.prog 44 #[.agg #[.slice s.ao s.T.length s.cap, .slice s.so s.L.length s.sc, .int .i64 s.fn], .agg #[.int .i64 s.p, .int .u8 (s.op : Int), .int .i64 s.a, .int .i64 s.b]] W (RowN W (gvR s s.op))) := hide (fun W hB => rgvN_all s W (hok.below hB) s.op h34 hu)
  have HOK := hide hok
  have HFI := hide hfi
  have HM := hide hm
  have HU := hide hu
  have H34 := hide h34
  have hbz := run_buildZ
  have HE : Hid (∀ (X : Fr × Int) (W : World), applyS s = X → Below w.heap.size w W → (Ending.returned (frTwo X) = .returned (frTwo (applyS s)) ∧ Below w.heap.size w W)) := hide (fun X W h hB => ⟨by rw [h], hB⟩)
  have hsh := nF_shape hfi.shape
  rw [unhide HWS] at HRF
  clear hok hfi hm hu h34
  go_enter Tryz.func21, Tryz.ntmps21
  go_upto_region 1 with fail
  rw [frZ_eq]
  generalize ((((w.alloc (.cells #[.slice s.ao s.T.length s.cap, .slice s.so s.L.length s.sc, .int .i64 s.fn] 25)).alloc (.cells (frA s.f) 29)).alloc (.cells #[.int .i64 s.p, .int .u8 (s.op : Int), .int .i64 s.a, .int .i64 s.b] 31)).alloc (.cells (frA frZ) 29)) = W0 at HX4 ⊢
  have HZ0 := hide (FAt.new W0 frZ)
  go_upto_region 2 with (refine wpList_store_rowN rfl 29 (.tmp 8) (.tmp 20) rfl W0.heap.size (frA frZ) rfl rfl 29 (frA frZ) (unhide HZ0) (sizeFr frZ_ok) rfl (frA_one _) (fun W1 hW1 => ?_))
  have HX := hide ((unhide HX4).five hW1)
  rw [(unhide HX4).sz]
  clear hW1 HX4 HZ0 W0
  have k0 := (unhide HX).e.c0
  have k1 := (unhide HX).e.c1
  have k2 := (unhide HX).e.c2
  have k3 : W1.cell? ⟨w.heap.size + 2, 0, none⟩ = some (.int .i64 s.p) := (unhide HX).i.c 0
  have k4 : W1.cell? ⟨w.heap.size + 2, 1, none⟩ = some (.int .u8 (s.op : Int)) := (unhide HX).i.c 1
  have k5 : W1.cell? ⟨w.heap.size + 2, 2, none⟩ = some (.int .i64 s.a) := (unhide HX).i.c 2
  have k6 : W1.cell? ⟨w.heap.size + 2, 3, none⟩ = some (.int .i64 s.b) := (unhide HX).i.c 3
  go_wp2_with fail
  refine (unhide HTK W1 (unhide HX).bel).mono ?_
  rintro e W2 ⟨⟨ga, gc, rfl, hP⟩, hB2⟩
  have HX2 := hide ((unhide HX).below hB2)
  have HP := hide hP
  clear hB2 HX k0 k1 k2 k3 k4 k5 k6 HTK hP W1
  have kl := (unhide HX2).f.lo
  have kh := (unhide HX2).f.he
  by_cases hh : s.f.he < ((ws.length : Nat) : Int)
  · have HR : Hid (applyS s = (frZ, 30)) := hide (by rw [unhide HRF, if_pos hh])
    clear HRF hsh
    go_upto_region 4 with fail
    go_wp2_with (first | (refine wpList_load_row rfl 29 (.tmp 8) rfl (w.heap.size + 4) rfl 29 (frA frZ) (0, 0) _ (unhide HX2).n Tryz.underlying29 rfl (sizeFr frZ_ok) ?_) | (refine wpList_store_row rfl 29 (.tmp 6) (.tmp 29) rfl (w.heap.size + 3) (frA frZ) rfl rfl 29 (frA frZ) (unhide HX2).r (sizeFr frZ_ok) rfl (frA_one _) ?_))
    exact bodyPost_ret (v := frTwo (frZ, 30)) (results_fr2 rfl _ _ (w.heap.size + 3) frZ 30 frZ_ok rfl rfl ((unhide HX2).r.row _)) rfl (unhide HE _ _ (unhide HR) (below_setRow' (unhide HX2).bel (by omega) _))
  rw [if_neg hh] at HRF
  have HLE : Hid (((ws.length : Nat) : Int) ≤ s.f.he) := hide (by omega)
  obtain ⟨bN, HBN⟩ : ∃ bN : Nat, Hid (s.f.lo + s.f.he - ((ws.length : Nat) : Int) = (bN : Int) ∧ bN = nF s.f - ws.length) := ⟨nF s.f - ws.length, hide ⟨by omega, rfl⟩⟩
  have hbn : bN + ws.length ≤ 24 := by have := (unhide HBN).2; have := (unhide HBN).1; omega
  have HSH := hide hsh
  go_upto_region 6 with fail
  rw [(unhide HBN).1]
  clear hh hsh kl kh
  obtain ⟨i0, hi, hz0, hz1, hz2⟩ := info_parts infoT
  obtain ⟨tk, HTKN⟩ : ∃ tk, Hid (takenD s.f ws.length = tk) := ⟨_, hide rfl⟩
  have HTL : Hid (tk.length = ws.length) := hide (by rw [← unhide HTKN]; exact taken_len (unhide HFI) (unhide HLE))
  have HTG : Hid (∀ j : Nat, j < ws.length → ∃ t, tk[j]? = some t ∧ s.f.sl[bN + j]? = some t ∧ t < 256) := hide (fun j hj => by
    have hl := unhide HTL
    obtain ⟨t, hx⟩ : ∃ t, tk[j]? = some t := ⟨_, List.getElem?_eq_getElem (show j < tk.length by omega)⟩
    have h2 := hx
    rw [← unhide HTKN] at h2
    have h3 := (taken_valid (unhide HFI) (unhide HLE) h2).2
    rw [taken_get hj] at h2
    exact ⟨t, hx, by rw [(unhide HBN).2]; exact h2, h3⟩)
  rw [unhide HTKN] at HRF
  have HTKV : Hid (∀ t ∈ tk, validD s.T.length t = true) := hide (fun t ht => by
    obtain ⟨i, hi⟩ := List.mem_iff_getElem?.1 ht
    rw [← unhide HTKN] at hi
    exact (taken_valid (unhide HFI) (unhide HLE) hi).1)
  obtain ⟨gl, HGD⟩ : ∃ gl, Hid (gvD s tk = gl) := ⟨_, hide rfl⟩
  have HGB : Hid (∀ t ∈ gl, t < 256) := hide (fun t ht => by
    rw [← unhide HGD] at ht
    exact valid_byte (unhide HOK).can.made (gv_valid s (unhide HOK).can (unhide HFI) (unhide HTKV) s.op (unhide H34) (unhide HU) t ht))
  have hgl : gl.length ≤ 8 := by rw [← unhide HGD]; exact gv_len s tk s.op (unhide H34)
  have HFS : Hid (frS s = if s.op = 5 then (storeD (popK s.f ws.length) s.a (tk.getD 0 0)).1 else popK s.f ws.length) := hide (by
    have hl : (tkD s).length = ws.length := by rw [← unhide HWS]; exact (tkR_len s s.op (unhide H34)).symm
    unfold frS
    rw [hl, unhide HTKN])
  have HPD : Hid (∀ j : Nat, j < ws.length → popD (popK s.f j) = (popK s.f (j + 1), s.f.sl.getD (nF s.f - 1 - j) 0, 0)) := hide (fun j hj => popD_popK (unhide HFI) (by have := unhide HLE; omega))
  have HOKJ : Hid (∀ j : Nat, j ≤ ws.length → FrOk (popK s.f j)) := hide (fun j hj => popK_ok (unhide HFI) (by have := unhide HLE; omega))
  rw [unhide HGD] at HRF
  go_upto_region 7 with fail
  go_wp2_with fail
  go_loopw [11, 40] (fun v i wr => ∃ j : Nat, j ≤ ws.length ∧ i = .int .i64 (j : Int) ∧ Hid (OwnT wr W2.heap.size v (tk.take j)) ∧ Hid (∀ (i a b : Nat), i < j → tk[i]? = some a → ws[i]? = some b → wantD s.T a b = true) ∧ Hid (Below W2.heap.size W2 wr)) (fun _ i _ => ws.length - (intOf i).toNat)
  case atStart => exact ⟨0, by omega, rfl, hide (by rw [List.take_zero]; exact World.ownsRow_nil _ _ _ _), hide (fun i a b h => by omega), hide (Below.refl _ _)⟩
  case round =>
    obtain ⟨j, hj, rfl, HO, HA, HB⟩ := hrel
    by_cases hlt : j < ws.length
    · have j1 : ((j : Nat) : Int) < ((ws.length : Nat) : Int) := by omega
      have j0 : (0 : Int) ≤ ((j : Nat) : Int) := by omega
      have hy := List.getElem?_eq_getElem hlt
      obtain ⟨b2, off2, ep2, hc2⟩ := unhide HP j _ hy
      have hc2 := ((unhide HB).cell (p := ⟨b2, off2 + j, none⟩) (World.block_lt_of_cell? W2 _ hc2)).trans hc2
      have hub := unhide HWB _ (List.mem_of_getElem? hy)
      generalize ws[j] = u at hy hc2 hub
      obtain ⟨t, hx, hsl, htb⟩ := unhide HTG j hlt
      have HXr := hide ((unhide HX2).below (unhide HB))
      have kt := (unhide HXr).f.slot hsl
      have k0 := (unhide HXr).e.c0
      have HX := hide hx
      have HY := hide hy
      have HSB := hide (wanted_any s.ao s.cap s.T t u wr (((unhide HOK).below (unhide HXr).bel).tab) (unhide HOK).hz (unhide HOK).can.made htb hub)
      have j3 : (0 : Int) ≤ ((bN : Nat) : Int) + ((j : Nat) : Int) := by omega
      have j4 : ((bN : Nat) : Int) + ((j : Nat) : Int) < 24 := by omega
      have e2 : (((bN : Nat) : Int) + ((j : Nat) : Int)).toNat = bN + j := by omega
      rw [ep2]
      clear hx hy ep2 hsl
      go_upto_region 10 with fail
      go_upto_region 11 with fail
      go_wp2_with fail
      refine (unhide HSB).mono ?_
      rintro e w2 ⟨rfl, hB2⟩
      have HB2 := hide ((unhide HB).trans (hB2.mono (unhide HB).size))
      have HO2 := hide ((unhide HO).kept hB2)
      have HXw := hide ((unhide HX2).below (unhide HB2))
      clear hB2 HSB HB HO hc2 kt k0 HXr
      cases hq : wantD s.T t u
      · have HR : Hid (applyS s = (frZ, 70)) := hide (by rw [unhide HRF, allR_no (unhide HX) (unhide HY) hq, Bool.false_and, if_pos rfl])
        clear hq HRF HA
        go_upto_region 12 with fail
        go_wp2_with (first | (refine wpList_load_row rfl 29 (.tmp 8) rfl (w.heap.size + 4) rfl 29 (frA frZ) (0, 0) _ (unhide HXw).n Tryz.underlying29 rfl (sizeFr frZ_ok) ?_) | (refine wpList_store_row rfl 29 (.tmp 6) (.tmp 57) rfl (w.heap.size + 3) (frA frZ) rfl rfl 29 (frA frZ) (unhide HXw).r (sizeFr frZ_ok) rfl (frA_one _) ?_))
        exact bodyPost_ret (v := frTwo (frZ, 70)) (results_fr2 rfl _ _ (w.heap.size + 3) frZ 70 frZ_ok rfl rfl ((unhide HXw).r.row _)) rfl (unhide HE _ _ (unhide HR) (below_setRow' (unhide HXw).bel (by omega) _))
      · have HA2 : Hid (∀ (i a b : Nat), i < j + 1 → tk[i]? = some a → ws[i]? = some b → wantD s.T a b = true) := hide (fun i a b h h1 h2 => by
          by_cases e : i = j
          · rw [e, unhide HX] at h1
            rw [e, unhide HY] at h2
            injection h1 with h1
            injection h2 with h2
            rw [← h1, ← h2]; exact hq
          · exact unhide HA i a b (by omega) h1 h2)
        have HTS : Hid (tk.take (j + 1) = tk.take j ++ [t]) := hide (by rw [List.take_add_one, unhide HX]; rfl)
        have hlen : (tk.take j).length = j := by rw [List.length_take]; have := unhide HTL; omega
        have HR := hide ((unhide HO2).alloc (.cells #[.int .u8 (t : Int)] 26))
        obtain ⟨L, HLL⟩ : ∃ L, Hid (tk.take j = L) := ⟨_, hide rfl⟩
        rw [unhide HLL] at HO2 HR HTS hlen
        have HLN := hide hlen
        have hlb : L.length ≤ 8 := by omega
        clear hq HA HLL hlen
        go_wp2_with (at_builtin; refine wpList_append_own _ rfl _ _ 44 rfl W2.heap.size 26 i0 (.int .u8 0) 1 1 Tryz.underlying44 hi hz0 hz1 hz2 rfl (by decide) _ L.length (tvals L) rfl (unhide HR) ⟨w2.heap.size, 0, none⟩ 1 1 [.int .u8 (t : Int)] rfl rfl (cell_one_newI _ _ _) (by simp [Value.oneCell']) ?a3 ?a4 ?a5 ?_)
        case a3 => unfold maxLen; omega
        case a4 => omega
        case a5 => have := (unhide HB2).size; simp; omega
        intro v' w3 hO' hG' _
        have HO3 : Hid (OwnT w3 W2.heap.size v' (tk.take (j + 1))) := hide (by rw [unhide HTS]; unfold OwnT tvals; rw [List.map_append, List.length_append]; exact hO')
        have HB3 := hide (((unhide HB2).alloc (unhide HB2).size _).grown hG' (by have := (unhide HB2).size; simp; omega) (fun q e => ((unhide HO2).lt q e).1))
        clear hO' hG' HO2 HB2 HR HTS hlb HLN
        go_wp2
        go_roundw
        case rel => exact ⟨j + 1, by omega, by go_num, HO3, HA2, HB3⟩
        case measure => simp [intOf]; omega
    · have j1 : ¬ ((j : Nat) : Int) < ((ws.length : Nat) : Int) := by omega
      have ej : j = ws.length := by omega
      have HAL : Hid (allR s.T tk ws = true) := hide (allR_yes (fun i a b h1 h2 => unhide HA i a b (by have := (List.getElem?_eq_some_iff.1 h2).1; omega) h1 h2))
      have HOA : Hid (OwnT wr W2.heap.size _ tk) := hide (by
        have h := unhide HO
        rw [List.take_of_length_le (by have := unhide HTL; omega)] at h
        exact h)
      have HXr := hide ((unhide HX2).below (unhide HB))
      rw [unhide HAL, Bool.true_and] at HRF
      clear HA HO ej HAL
      go_upto_region 15 with fail
      obtain ⟨ha, hcap, rfl, hcells⟩ := (unhide HOA).slice
      have HCE := hide hcells
      clear hcells
      have ko : wr.cell? ⟨w.heap.size + 2, 1, none⟩ = some (.int .u8 (s.op : Int)) := (unhide HXr).i.c 1
      · have h16 : s.op ≠ 16 := by have := unhide HOP; omega
        have t16 : (((s.op : Nat) : Int) == 16) = false := beq_f (by omega)
        have HN16 := hide h16
        clear h16
        go_quiet (fail)
        generalize hWd : wr.drewN _ = Wd
        have HXd : Hid (Ba w Wd s) := hide (by rw [← hWd]; exact (unhide HXr).below (below_drew wr _))
        have HOd : Hid (OwnT Wd W2.heap.size (.slice ha tk.length hcap) tk) := hide (by rw [← hWd]; exact (unhide HOA).kept (below_drew wr _))
        have HBd : Hid (Below W2.heap.size W2 Wd) := hide (by rw [← hWd]; exact (unhide HB).trans ((below_drew wr _).mono (unhide HB).size))
        clear hWd HXr HOA HB ko HCE
        go_upto_region 17 with fail
        have k0 := (unhide HXd).e.c0
        have k1 := (unhide HXd).e.c1
        have k2 := (unhide HXd).e.c2
        have k3 : Wd.cell? ⟨w.heap.size + 2, 0, none⟩ = some (.int .i64 s.p) := (unhide HXd).i.c 0
        have k4 : Wd.cell? ⟨w.heap.size + 2, 1, none⟩ = some (.int .u8 (s.op : Int)) := (unhide HXd).i.c 1
        have k5 : Wd.cell? ⟨w.heap.size + 2, 2, none⟩ = some (.int .i64 s.a) := (unhide HXd).i.c 2
        have k6 : Wd.cell? ⟨w.heap.size + 2, 3, none⟩ = some (.int .i64 s.b) := (unhide HXd).i.c 3
        go_wp2_with fail
        refine (unhide HGV Wd (unhide HXd).bel).mono ?_
        rintro e W5 ⟨⟨G, gcc, rfl, hG, hNew⟩, hB5⟩
        have HT : Hid (Tl w W5 s s.f G ha (gvR s s.op) tk) := hide (Tl.of (Wd := Wd) ((unhide HXd).below hB5) ((unhide HOd).kept hB5) (unhide HX2).n.lt hG (unhide HXd).n.lt hNew)
        clear hG hNew hB5 k0 k1 k2 k3 k4 k5 k6 HXd HOd HBd Wd HGV
        have ko : W5.cell? ⟨w.heap.size + 2, 1, none⟩ = some (.int .u8 (s.op : Int)) := (unhide HT).i.c 1
        have ka : W5.cell? ⟨w.heap.size + 2, 2, none⟩ = some (.int .i64 s.a) := (unhide HT).i.c 2
        have HN4 : Hid (s.op ≠ 4 ∧ s.op ≠ 7 ∧ s.op ≠ 8) := hide (by have := unhide HOP; omega)
        rw [alR_yes (unhide HN4).1 (by have := unhide HOP; omega), if_neg (by decide)] at HRF
        have t4 : (((s.op : Nat) : Int) == 4) = false := beq_f (by have := unhide HN4; omega)
        have t7 : (((s.op : Nat) : Int) == 7) = false := beq_f (by have := unhide HN4; omega)
        have t8 : (((s.op : Nat) : Int) == 8) = false := beq_f (by have := unhide HN4; omega)
        have HGG : Hid (gvR s s.op = gl) := hide ((gv_same s (unhide HOK).can.made tk s.op (unhide H34) (unhide HU) (unhide HN4).1 (unhide HN4).2.1 (unhide HN4).2.2).trans (unhide HGD))
        rw [unhide HGG] at HT ⊢
        clear HGG HGD
        go_upto_region 27 with fail
        clear ko ka t4 t7 t8
        go_wp2_with fail
        have HT0 : Hid (Tl w W5 s (popK s.f 0) G ha gl tk) := hide (by rw [popK_zero (unhide HFI)]; exact unhide HT)
        clear HT
        go_loopw [128] (fun i wr => ∃ (j : Nat), j ≤ ws.length ∧ i = .int .i64 (j : Int) ∧ Hid (Tl w wr s (popK s.f j) G ha gl tk)) (fun i _ => ws.length - (intOf i).toNat)
        case atStart => exact ⟨0, by omega, rfl, HT0⟩
        case round =>
          clear HT0
          obtain ⟨j, hj, rfl, HT⟩ := hrel
          by_cases hlt : j < ws.length
          · have j1 : ((j : Nat) : Int) < ((ws.length : Nat) : Int) := by omega
            have HO1 := hide (unhide HOKJ j hj)
            have HO2 := hide (unhide HOKJ (j + 1) (by omega))
            have HPP := hide (refPop_any (popK s.f j) wr (unhide HO1))
            rw [unhide HPD j hlt] at HPP
            have HE3 : Hid (frThree (popK s.f (j + 1), s.f.sl.getD (nF s.f - 1 - j) 0, 0) = .tuple #[.agg (frA (popK s.f (j + 1))), .int .u8 (s.f.sl.getD (nF s.f - 1 - j) 0 : Int), .int .i64 0]) := hide rfl
            rw [unhide HE3] at HPP
            clear hlt HE3
            go_wp2_with (refine wpList_load_row rfl 29 (.tmp 4) rfl (w.heap.size + 1) rfl 29 (frA (popK s.f j)) (0, 0) _ (unhide HT).f Tryz.underlying29 rfl (sizeFr (unhide HO1)) ?_)
            refine (unhide HPP).mono ?_
            rintro e w2 ⟨rfl, hB2⟩
            have HT2 := hide ((unhide HT).below hB2)
            clear hB2 HT HPP
            generalize s.f.sl.getD (nF s.f - 1 - j) 0 = tt
            go_wp2_with (first | (refine wpList_store_rowN rfl 29 (.tmp 4) (.tmp 133) rfl (w.heap.size + 1) (frA (popK s.f (j + 1))) rfl rfl 29 (frA (popK s.f j)) (unhide HT2).f (sizeFr (unhide HO2)) (sizeEq (unhide HO1) (unhide HO2)) (frA_one _) (fun W3 hW3 => ?_); have HT3 : Hid (Tl w W3 s (popK s.f (j + 1)) G ha gl tk) := (hide (by rw [← hW3]; exact (unhide HT2).row (popK s.f (j + 1)))); clear hW3) | fail)
            go_roundw
            case rel => exact ⟨j + 1, by omega, by go_num, HT3⟩
            case measure => simp [intOf]; omega
          · have j1 : ¬ ((j : Nat) : Int) < ((ws.length : Nat) : Int) := by omega
            have HTE : Hid (Tl w wr s (popK s.f ws.length) G ha gl tk) := hide (by
              have e : j = ws.length := by omega
              rw [← e]; exact unhide HT)
            have HOX := hide (unhide HOKJ ws.length (Nat.le_refl _))
            obtain ⟨X, HX⟩ : ∃ X, Hid (popK s.f ws.length = X) := ⟨_, hide rfl⟩
            rw [unhide HX] at HTE HRF HFS HOX
            clear HT hlt hj HPD HOKJ
            go_upto_region 31 with fail
            have ko := (unhide HTE).i.c 1
            have kx := (unhide HTE).f.he
            have t22 : (((s.op : Nat) : Int) == 22) = true := beq_t (by have := unhide HOP; omega)
            have t5 : (((s.op : Nat) : Int) == 5) = false := beq_f (by have := unhide HOP; omega)
            by_cases hx : 0 < X.he
            · have HR : Hid (applyS s = (frZ, 73)) := hide (by rw [unhide HRF, if_pos ⟨unhide HOP, hx⟩])
              have hx2 : X.he > 0 := hx
              clear hx HRF HFS
              go_upto_region 32 with fail
              go_wp2_with (first | (refine wpList_load_row rfl 29 (.tmp 8) rfl (w.heap.size + 4) rfl 29 (frA frZ) (0, 0) _ (unhide HTE).n Tryz.underlying29 rfl (sizeFr frZ_ok) ?_) | (refine wpList_store_row rfl 29 (.tmp 6) (.tmp 145) rfl (w.heap.size + 3) (frA frZ) rfl rfl 29 (frA frZ) (unhide HTE).r (sizeFr frZ_ok) rfl (frA_one _) ?_))
              exact bodyPost_ret (v := frTwo (frZ, 73)) (results_fr2 rfl _ _ (w.heap.size + 3) frZ 73 frZ_ok rfl rfl ((unhide HTE).r.row _)) rfl (unhide HE _ _ (unhide HR) (below_setRow' (unhide HTE).bel (by omega) _))
            · have HQ0 : Hid (applyS s = pushA X (gl.drop 0)) := hide (by rw [unhide HRF, if_neg (fun h => hx h.2), unhide HFS, if_neg (by have := unhide HOP; omega)]; rfl)
              have hx2 : ¬ X.he > 0 := hx
              have HG0 := HOX
              have HT0 := HTE
              clear HTE HOX HFS HRF HX hx
              go_upto_region 35 with fail
              clear ko kx
              go_wp2_with fail
              go_loopw [158] (fun i wr => ∃ (j : Nat) (g : Fr), j ≤ gl.length ∧ i = .int .i64 (j : Int) ∧ Hid (applyS s = pushA g (gl.drop j)) ∧ Hid (FrOk g) ∧ Hid (Tl w wr s g G ha gl tk)) (fun i _ => gl.length - (intOf i).toNat)
              case atStart => exact ⟨0, _, by omega, rfl, HQ0, HG0, HT0⟩
              case round =>
                clear HQ0 HG0 HT0
                obtain ⟨j, g, hj, rfl, HQ, HG, HT⟩ := hrel
                by_cases hlt : j < gl.length
                · have j1 : ((j : Nat) : Int) < ((gl.length : Nat) : Int) := by omega
                  have j0 : (0 : Int) ≤ ((j : Nat) : Int) := by omega
                  have hx := List.getElem?_eq_getElem hlt
                  obtain ⟨b, off, ep, hc⟩ := (unhide HT).gv j _ hx
                  have ht := unhide HGB _ (List.mem_of_getElem? hx)
                  generalize gl[j] = t at hx hc ht
                  have HDR := hide (drop_at hx)
                  have HPU := hide (refPush_any g t wr (unhide HG) ht)
                  have HTW : Hid (frTwo (pushD g t) = .tuple #[.agg (frA (pushD g t).1), .int .i64 (pushD g t).2]) := hide rfl
                  rw [unhide HTW] at HPU
                  have HTB := hide ht
                  subst ep
                  clear hx HTW ht
                  go_wp2_with (refine wpList_load_row rfl 29 (.tmp 4) rfl (w.heap.size + 1) rfl 29 (frA g) (0, 0) _ (unhide HT).f Tryz.underlying29 rfl (sizeFr (unhide HG)) ?_)
                  refine (unhide HPU).mono ?_
                  rintro e w2 ⟨rfl, hB2⟩
                  have HT2 := hide ((unhide HT).below hB2)
                  have HZ2 := hide (FAt.new w2 frZ)
                  clear hB2 HT HPU hc
                  by_cases h0 : (pushD g t).2 = 0
                  · have HG2 := hide (push_ok (unhide HG) (unhide HTB) h0)
                    have HQ2 : Hid (applyS s = pushA (pushD g t).1 (gl.drop (j + 1))) := hide (by
                      rw [unhide HQ, unhide HDR]
                      show (if (pushD g t).2 = 0 then pushA (pushD g t).1 (gl.drop (j + 1)) else (frZ, (pushD g t).2)) = _
                      rw [if_pos h0])
                    rw [h0]
                    clear h0 HQ HDR HTB
                    generalize (pushD g t).1 = g2 at HG2 HQ2 ⊢
                    go_upto_region 39 with (refine wpList_store_rowN rfl 29 (.tmp 18) (.tmp 166) rfl w2.heap.size (frA g2) rfl rfl 29 (frA frZ) (unhide HZ2) (sizeFr (unhide HG2)) (sizeEq frZ_ok (unhide HG2)) (frA_one _) (fun W3 hW3 => ?_))
                    have hBs : Below w2.heap.size w2 W3 := by rw [← hW3]; exact below_setRow' ((Below.refl w2.heap.size w2).alloc (Nat.le_refl _) _) (Nat.le_refl _) _
                    have HF3 : Hid (FAt W3 w2.heap.size g2) := hide (by rw [← hW3]; exact (unhide HZ2).row g2)
                    have HT3 := hide ((unhide HT2).below hBs)
                    clear hW3 hBs HT2 HZ2
                    generalize w2.heap.size = gB at HF3 ⊢
                    clear w2
                    go_wp2_with (first | (refine wpList_load_row rfl 29 (.tmp 18) rfl (gB) rfl 29 (frA g2) (0, 0) _ (unhide HF3) Tryz.underlying29 rfl (sizeFr (unhide HG2)) ?_) | (refine wpList_store_rowN rfl 29 (.tmp 4) (.tmp 172) rfl (w.heap.size + 1) (frA g2) rfl rfl 29 (frA g) (unhide HT3).f (sizeFr (unhide HG2)) (sizeEq (unhide HG) (unhide HG2)) (frA_one _) (fun W4 hW4 => ?_); have HT4 : Hid (Tl w W4 s g2 (some ⟨b, off, none⟩) ha gl tk) := (hide (by rw [← hW4]; exact (unhide HT3).row g2)); clear hW4))
                    go_roundw
                    case rel => exact ⟨j + 1, g2, by omega, by go_num, HQ2, HG2, HT4⟩
                    case measure => simp [intOf]; omega
                  · have hz : (pushD g t).1 = frZ := by
                      unfold pushD at h0 ⊢
                      by_cases h1 : shapeD g = false
                      · rw [if_pos h1]
                      rw [if_neg h1] at h0 ⊢
                      by_cases h2 : nF g = 24
                      · rw [if_pos h2]
                      rw [if_neg h2] at h0
                      exact absurd rfl h0
                    have HR : Hid (applyS s = (frZ, (pushD g t).2)) := hide (by
                      rw [unhide HQ, unhide HDR]
                      show (if (pushD g t).2 = 0 then pushA (pushD g t).1 (gl.drop (j + 1)) else (frZ, (pushD g t).2)) = _
                      rw [if_neg h0])
                    have b1 : ((pushD g t).2 != 0) = true := bne_t h0
                    rw [hz]
                    clear hz h0 HQ HDR HTB
                    generalize (pushD g t).2 = er at b1 HR ⊢
                    go_upto_region 39 with (refine wpList_store_rowN rfl 29 (.tmp 18) (.tmp 166) rfl w2.heap.size (frA frZ) rfl rfl 29 (frA frZ) (unhide HZ2) (sizeFr frZ_ok) rfl (frA_one _) (fun W3 hW3 => ?_))
                    have hBs : Below w2.heap.size w2 W3 := by rw [← hW3]; exact below_setRow' ((Below.refl w2.heap.size w2).alloc (Nat.le_refl _) _) (Nat.le_refl _) _
                    have HT3 := hide ((unhide HT2).below hBs)
                    clear hW3 hBs HT2 HZ2
                    generalize w2.heap.size = gB
                    clear w2
                    go_wp2_with (first | (refine wpList_load_row rfl 29 (.tmp 8) rfl (w.heap.size + 4) rfl 29 (frA frZ) (0, 0) _ (unhide HT3).n Tryz.underlying29 rfl (sizeFr frZ_ok) ?_) | (refine wpList_store_row rfl 29 (.tmp 6) (.tmp 170) rfl (w.heap.size + 3) (frA frZ) rfl rfl 29 (frA frZ) (unhide HT3).r (sizeFr frZ_ok) rfl (frA_one _) ?_))
                    exact bodyPost_ret (v := frTwo (frZ, er)) (results_fr2 rfl _ _ (w.heap.size + 3) frZ er frZ_ok rfl rfl ((unhide HT3).r.row _)) rfl (unhide HE _ _ (unhide HR) (below_setRow' (unhide HT3).bel (by omega) _))
                · have j1 : ¬ ((j : Nat) : Int) < ((gl.length : Nat) : Int) := by omega
                  have HQ2 : Hid (applyS s = (g, 0)) := hide (by rw [unhide HQ, List.drop_eq_nil_of_le (by omega)]; rfl)
                  clear HQ
                  go_wp2_with (first | (refine wpList_load_row rfl 29 (.tmp 4) rfl (w.heap.size + 1) rfl 29 (frA g) (0, 0) _ (unhide HT).f Tryz.underlying29 rfl (sizeFr (unhide HG)) ?_) | (refine wpList_store_row rfl 29 (.tmp 6) (.tmp 174) rfl (w.heap.size + 3) (frA g) rfl rfl 29 (frA frZ) (unhide HT).r (sizeFr (unhide HG)) (sizeEq frZ_ok (unhide HG)) (frA_one _) ?_))
                  exact bodyPost_ret (v := frTwo (g, 0)) (results_fr2 rfl _ _ (w.heap.size + 3) g 0 (unhide HG) rfl rfl ((unhide HT).r.row _)) rfl (unhide HE _ _ (unhide HQ2) (below_setRow' (unhide HT).bel (by omega) _))
end Go.Proofs.YtkodmpcnndbngaaGreatDoor
