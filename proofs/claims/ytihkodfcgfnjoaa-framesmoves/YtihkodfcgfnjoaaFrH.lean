/-
  Contracts of provisoref03's Top, Load, Push, Pop and Store: what the plain functions say; nothing old is turned.
-/
import Derived.Test.YtihkodfcgfnjoaaFrF
import Derived.Test.YtihkodfcgfnjoaaFrG
import Derived.Test.YtihkodfcgfnjoaaFrS
namespace Go.Proofs.Ytihkodfcgfnjoaa
open Go.RowKit

set_option maxHeartbeats 400000 in
theorem refLoad_any (f : Fr) (s : Int) (w : World) (hf : FrOk f) (hw : -9223372036854775808 ≤ s ∧ s ≤ 9223372036854775807) :
    Calls Try.prog 28 #[.agg (frA f), .int .i64 s] w fun e w' => e = .returned (twoV (loadD f s)) ∧ Below w.heap.size w w' := by
  have HF := hide hf
  have H1 := hide (FAt.new w f)
  have HB : Hid (Below w.heap.size w (w.alloc (.cells (frA f) 27))) := hide ((Below.refl _ _).alloc (Nat.le_refl _) _)
  clear hf
  go_enter Try.func28, Try.ntmps28
  go_wp2_with (refine wpList_load_row rfl 27 _ rfl w.heap.size rfl 27 (frA f) (0, 0) _ (unhide H1) Try.underlying27 rfl (sizeFr (unhide HF)) ?_)
  generalize (w.alloc (.cells (frA f) 27)) = W at H1 HB ⊢
  refine (refShape_any f _ (unhide HF)).mono ?_
  rintro e W1 ⟨rfl, hB1⟩
  have K1 := hide ((unhide H1).below hB1 (unhide H1).lt)
  have HB1 := hide ((unhide HB).trans (hB1.mono (unhide HB).size))
  clear hB1 H1 HB W
  by_cases hs : shapeD f = true
  · obtain ⟨h0, h1, h2, h3⟩ := shapeD_iff.1 hs
    have c0 := (unhide K1).lo
    have c1 := (unhide K1).he
    by_cases s1 : s < 0
    · have HR : Hid (loadD f s = (0, 33)) := hide (by unfold loadD; rw [if_neg (by rw [hs]; simp), if_pos (Or.inl s1)])
      rw [hs]
      clear hs
      go_wp2
      go_ret2
      exact ⟨by rw [unhide HR]; rfl, unhide HB1⟩
    · by_cases s2 : s ≥ f.lo
      · have HR : Hid (loadD f s = (0, 33)) := hide (by unfold loadD; rw [if_neg (by rw [hs]; simp), if_pos (Or.inr s2)])
        rw [hs]
        clear hs
        go_wp2
        go_ret2
        exact ⟨by rw [unhide HR]; rfl, unhide HB1⟩
      · have HR : Hid (loadD f s = (f.sl.getD s.toNat 0, 0)) := hide (by unfold loadD; rw [if_neg (by rw [hs]; simp), if_neg (by omega)])
        have hlt : s.toNat < f.sl.length := by rw [(unhide HF).len]; omega
        have ct := (unhide K1).slot (List.getElem?_eq_getElem hlt)
        have HG : Hid (f.sl.getD s.toNat 0 = f.sl[s.toNat]) := hide (by rw [List.getD_eq_getElem?_getD, List.getElem?_eq_getElem hlt]; rfl)
        rw [unhide HG] at HR
        generalize f.sl[s.toNat] = t at ct HR
        rw [hs]
        clear hs hlt HG
        go_wp2
        go_ret2
        exact ⟨by rw [unhide HR]; rfl, unhide HB1⟩
  · have hs' : shapeD f = false := by simpa using hs
    have HR : Hid (loadD f s = (0, 32)) := hide (by unfold loadD; rw [if_pos hs'])
    rw [hs']
    clear hs hs'
    go_wp2
    go_ret2
    exact ⟨by rw [unhide HR]; rfl, unhide HB1⟩

set_option maxHeartbeats 400000 in
theorem refTop_any (f : Fr) (n : Int) (w : World) (hf : FrOk f) (hw : -9223372036854775808 ≤ n ∧ n ≤ 9223372036854775807) :
    Calls Try.prog 26 #[.agg (frA f), .int .i64 n] w fun e w' => e = .returned (twoV (topD f n)) ∧ Below w.heap.size w w' := by
  have HF := hide hf
  have H1 := hide (FAt.new w f)
  have HB : Hid (Below w.heap.size w (w.alloc (.cells (frA f) 27))) := hide ((Below.refl _ _).alloc (Nat.le_refl _) _)
  clear hf
  go_enter Try.func26, Try.ntmps26
  go_wp2_with (refine wpList_load_row rfl 27 _ rfl w.heap.size rfl 27 (frA f) (0, 0) _ (unhide H1) Try.underlying27 rfl (sizeFr (unhide HF)) ?_)
  generalize (w.alloc (.cells (frA f) 27)) = W at H1 HB ⊢
  refine (refShape_any f _ (unhide HF)).mono ?_
  rintro e W1 ⟨rfl, hB1⟩
  have K1 := hide ((unhide H1).below hB1 (unhide H1).lt)
  have HB1 := hide ((unhide HB).trans (hB1.mono (unhide HB).size))
  clear hB1 H1 HB W
  by_cases hs : shapeD f = true
  · have HS := hide hs
    obtain ⟨h0, h1, h2, h3⟩ := shapeD_iff.1 hs
    have c0 := (unhide K1).lo
    have c1 := (unhide K1).he
    by_cases s1 : n < 0
    · have HR : Hid (topD f n = (0, 1)) := hide (by unfold topD; rw [if_neg (by rw [hs]; simp), if_pos s1])
      rw [hs]
      clear hs
      go_wp2
      go_ret2
      exact ⟨by rw [unhide HR]; rfl, unhide HB1⟩
    · by_cases s2 : n ≥ f.he
      · have HR : Hid (topD f n = (0, 30)) := hide (by unfold topD; rw [if_neg (by rw [hs]; simp), if_neg s1, if_pos s2])
        rw [hs]
        clear hs
        go_wp2
        go_ret2
        exact ⟨by rw [unhide HR]; rfl, unhide HB1⟩
      · have HR : Hid (topD f n = (f.sl.getD (nF f - 1 - n.toNat) 0, 0)) := hide (by unfold topD; rw [if_neg (by rw [hs]; simp), if_neg s1, if_neg s2])
        have hlt : (f.lo + f.he - 1 - n).toNat < f.sl.length := by rw [(unhide HF).len]; omega
        have ei : nF f - 1 - n.toNat = (f.lo + f.he - 1 - n).toNat := by unfold nF; omega
        rw [ei] at HR
        have HG : Hid (f.sl.getD (f.lo + f.he - 1 - n).toNat 0 = f.sl[(f.lo + f.he - 1 - n).toNat]) := hide (by rw [List.getD_eq_getElem?_getD, List.getElem?_eq_getElem hlt]; rfl)
        have ht := List.getElem?_eq_getElem hlt
        rw [unhide HG] at HR
        generalize f.sl[(f.lo + f.he - 1 - n).toNat] = t at ht HR
        rw [hs]
        have HT := hide ht
        clear hs hlt HG ei ht
        have ct := (unhide K1).slot (unhide HT)
        go_wp2
        go_ret2
        exact ⟨by rw [unhide HR]; rfl, unhide HB1⟩
  · have hs' : shapeD f = false := by simpa using hs
    have HR : Hid (topD f n = (0, 32)) := hide (by unfold topD; rw [if_pos hs'])
    rw [hs']
    clear hs hs'
    go_wp2
    go_ret2
    exact ⟨by rw [unhide HR]; rfl, unhide HB1⟩
set_option maxHeartbeats 2000000 in
theorem refPush_any (f : Fr) (t : Nat) (w : World) (hf : FrOk f) (ht : t < 256) :
    Calls Try.prog 22 #[.agg (frA f), .int .u8 (t : Int)] w fun e w' => e = .returned (frTwo (pushD f t)) ∧ Below w.heap.size w w' := by
  have HF := hide hf
  have h1 : FAt ((w.alloc (.cells (frA f) 27)).alloc (.cells (frA frZ) 27)) w.heap.size f := (FAt.new w f).below ((Below.refl _ _).alloc (Nat.le_refl _) _) (by simp)
  have h2 : FAt ((w.alloc (.cells (frA f) 27)).alloc (.cells (frA frZ) 27)) (w.heap.size + 1) frZ := by
    have := FAt.new (w.alloc (.cells (frA f) 27)) frZ
    rw [World.size_alloc] at this
    exact this
  have hB : Below w.heap.size w ((w.alloc (.cells (frA f) 27)).alloc (.cells (frA frZ) 27)) := ((Below.refl _ _).alloc (Nat.le_refl _) _).alloc (by simp) _
  have H1 := hide h1
  have H2 := hide h2
  have HB := hide hB
  have hbz := run_buildZ
  clear hf h1 h2 hB
  go_enter Try.func22, Try.ntmps22
  go_wp2_with (refine wpList_load_row rfl 27 _ rfl w.heap.size rfl 27 (frA f) (0, 0) _ (unhide H1) Try.underlying27 rfl (sizeFr (unhide HF)) ?_)
  rw [frZ_eq]
  generalize ((w.alloc (.cells (frA f) 27)).alloc (.cells (frA frZ) 27)) = W at H1 H2 HB ⊢
  refine (refShape_any f _ (unhide HF)).mono ?_
  rintro e W1 ⟨rfl, hB1⟩
  have K1 := hide ((unhide H1).below hB1 (unhide H1).lt)
  have K2 := hide ((unhide H2).below hB1 (unhide H2).lt)
  have HB1 := hide ((unhide HB).trans (hB1.mono (unhide HB).size))
  clear hB1 H1 H2 HB W
  by_cases hs : shapeD f = true
  · have HS := hide hs
    obtain ⟨h0, h1, h2, h3⟩ := shapeD_iff.1 hs
    have d0 := (unhide K1).lo
    have d1 := (unhide K1).he
    rw [hs]
    clear hs
    by_cases hn : nF f = 24
    · have HR : Hid (pushD f t = (frZ, 31)) := hide (by unfold pushD; rw [if_neg (by rw [unhide HS]; simp), if_pos hn])
      have b1 : ((f.lo + f.he : Int) == 24) = true := beq_t (by unfold nF at hn; omega)
      clear hn
      go_wp2_with (refine wpList_store_row rfl 27 _ _ rfl (w.heap.size + 1) (frA frZ) rfl rfl 27 (frA frZ) (unhide K2) (sizeFr frZ_ok) (sizeEq frZ_ok frZ_ok) (frA_one _) ?_)
      exact bodyPost_ret (v := frTwo (frZ, 31)) (results_fr2 rfl _ _ (w.heap.size + 1) frZ 31 frZ_ok rfl rfl ((unhide K2).row _)) rfl ⟨by rw [unhide HR], below_setRow' (unhide HB1) (by omega) _⟩
    · have HN24 : Hid (nF f < 24) := hide (by have := shape_n (unhide HS); omega)
      have HR : Hid (pushD f t = (⟨f.lo, f.he + 1, (trimL (nF f) f.sl).set (nF f) t⟩, 0)) := hide (by unfold pushD; rw [if_neg (by rw [unhide HS]; simp), if_neg hn])
      have b1 : ((f.lo + f.he : Int) == 24) = false := beq_f (by unfold nF at hn; omega)
      have b2 : f.lo + f.he < 24 := by have := unhide HN24; unfold nF at this; omega
      clear hn
      go_wp2_with (refine wpList_load_row rfl 27 _ rfl w.heap.size rfl 27 (frA f) (0, 0) _ (unhide K1) Try.underlying27 rfl (sizeFr (unhide HF)) ?_)
      refine (bare_any f _ (unhide HF) (unhide HS)).mono ?_
      rintro e W3 ⟨rfl, hB3⟩
      have M1 := hide ((unhide K1).below hB3 (unhide K1).lt)
      have M2 := hide ((unhide K2).below hB3 (unhide K2).lt)
      have HB3 := hide ((unhide HB1).trans (hB3.mono (unhide HB1).size))
      clear hB3 K1 K2 HB1 d0 d1 W1
      have HO := hide (trim_ok (unhide HF) (unhide HS))
      have N1 := hide ((unhide M1).row (trimD f))
      have N2 := hide ((unhide M2).rowOther (g := w.heap.size) (trimD f) (by omega))
      have HB4 := hide (below_setRow' (unhide HB3) (Nat.le_refl _) (frA (trimD f)))
      obtain ⟨n, hn⟩ : ∃ n : Nat, f.lo + f.he = (n : Int) := ⟨nF f, by unfold nF; omega⟩
      have hn24 : n < 24 := by omega
      have HN : Hid (nF f = n) := hide (by unfold nF; omega)
      rw [hn]
      rw [hn] at b1
      clear hn b2
      have hlen : n < (trimD f).sl.length := by rw [(unhide HO).len]; exact hn24
      have c1 := (unhide N1).slot (List.getElem?_eq_getElem hlen)
      generalize (trimD f).sl[n] = old at c1
      have z1 := (unhide N1).frozen (2 + n)
      have i1 : ((n : Nat) : Int) < 24 := by omega
      have Q1 := hide ((unhide N1).set n t)
      have Q2 := hide ((unhide N2).cellOther ⟨w.heap.size, 2 + n, none⟩ (.int .u8 (t : Int)) (by simp))
      have HB6 : Hid (Below w.heap.size w ((W3.setRow w.heap.size (frA (trimD f))).setCell ⟨w.heap.size, 2 + n, none⟩ (.int .u8 (t : Int)))) := hide ((unhide HB4).setCell (p := ⟨w.heap.size, 2 + n, none⟩) (Nat.le_refl _) _)
      have c2 : ((W3.setRow w.heap.size (frA (trimD f))).setCell ⟨w.heap.size, 2 + n, none⟩ (.int .u8 (t : Int))).cell? ⟨w.heap.size, 1, none⟩ = some (.int .i64 f.he) := (unhide Q1).he
      have z2 : ((W3.setRow w.heap.size (frA (trimD f))).setCell ⟨w.heap.size, 2 + n, none⟩ (.int .u8 (t : Int))).frozen? ⟨w.heap.size, 1, none⟩ = false := (unhide Q1).frozen 1
      clear hlen
      have R1 : Hid (FAt (((W3.setRow w.heap.size (frA (trimD f))).setCell ⟨w.heap.size, 2 + n, none⟩ (.int .u8 (t : Int))).setCell ⟨w.heap.size, 1, none⟩ (.int .i64 (f.he + 1))) w.heap.size ⟨f.lo, f.he + 1, (trimL (nF f) f.sl).set n t⟩) := hide ((unhide Q1).setHe (f.he + 1))
      have R2 := hide ((unhide Q2).cellOther ⟨w.heap.size, 1, none⟩ (.int .i64 (f.he + 1)) (by simp))
      have HB7 := hide ((unhide HB6).setCell (p := ⟨w.heap.size, 1, none⟩) (Nat.le_refl _) (.int .i64 (f.he + 1)))
      have HOK : Hid (FrOk ⟨f.lo, f.he + 1, (trimL (nF f) f.sl).set n t⟩) := hide (by
        have h := set_ok (unhide HO) (i := n) ht
        exact ⟨h.len, h.byte, h.lo, by constructor <;> show _ ≤ _ <;> simp only <;> omega⟩)
      rw [unhide HN] at R1 HOK HR
      generalize (Fr.mk f.lo (f.he + 1) ((trimL n f.sl).set n t)) = F at R1 HOK HR
      go_wp2_with (first | (refine wpList_load_row rfl 27 _ rfl w.heap.size rfl 27 (frA F) (0, 0) _ (unhide R1) Try.underlying27 rfl (sizeFr (unhide HOK)) ?_) | (refine wpList_store_row rfl 27 _ _ rfl w.heap.size (frA (trimD f)) rfl rfl 27 (frA f) (unhide M1) (sizeFr (unhide HO)) (sizeEq (unhide HF) (unhide HO)) (frA_one _) ?_) | (refine wpList_store_row rfl 27 _ _ rfl (w.heap.size + 1) (frA F) rfl rfl 27 (frA frZ) (unhide R2) (sizeFr (unhide HOK)) (sizeEq frZ_ok (unhide HOK)) (frA_one _) ?_))
      exact bodyPost_ret (v := frTwo (F, 0)) (results_fr2 rfl _ _ (w.heap.size + 1) F 0 (unhide HOK) rfl rfl ((unhide R2).row _)) rfl ⟨by rw [unhide HR], below_setRow' (unhide HB7) (by omega) _⟩
  · have hs' : shapeD f = false := by simpa using hs
    have HR : Hid (pushD f t = (frZ, 32)) := hide (by unfold pushD; rw [if_pos hs'])
    rw [hs']
    clear hs hs'
    go_wp2_with (refine wpList_store_row rfl 27 _ _ rfl (w.heap.size + 1) (frA frZ) rfl rfl 27 (frA frZ) (unhide K2) (sizeFr frZ_ok) (sizeEq frZ_ok frZ_ok) (frA_one _) ?_)
    exact bodyPost_ret (v := frTwo (frZ, 32)) (results_fr2 rfl _ _ (w.heap.size + 1) frZ 32 frZ_ok rfl rfl ((unhide K2).row _)) rfl ⟨by rw [unhide HR], below_setRow' (unhide HB1) (by omega) _⟩

set_option maxHeartbeats 400000 in
theorem refStore_any (f : Fr) (s : Int) (t : Nat) (w : World) (hf : FrOk f) (hw : -9223372036854775808 ≤ s ∧ s ≤ 9223372036854775807) (ht : t < 256) :
    Calls Try.prog 30 #[.agg (frA f), .int .i64 s, .int .u8 (t : Int)] w fun e w' => e = .returned (frTwo (storeD f s t)) ∧ Below w.heap.size w w' := by
  have HF := hide hf
  have h1 : FAt ((w.alloc (.cells (frA f) 27)).alloc (.cells (frA frZ) 27)) w.heap.size f := (FAt.new w f).below ((Below.refl _ _).alloc (Nat.le_refl _) _) (by simp)
  have h2 : FAt ((w.alloc (.cells (frA f) 27)).alloc (.cells (frA frZ) 27)) (w.heap.size + 1) frZ := by
    have := FAt.new (w.alloc (.cells (frA f) 27)) frZ
    rw [World.size_alloc] at this
    exact this
  have hB : Below w.heap.size w ((w.alloc (.cells (frA f) 27)).alloc (.cells (frA frZ) 27)) := ((Below.refl _ _).alloc (Nat.le_refl _) _).alloc (by simp) _
  have H1 := hide h1
  have H2 := hide h2
  have HB := hide hB
  have hbz := run_buildZ
  clear hf h1 h2 hB
  go_enter Try.func30, Try.ntmps30
  go_wp2_with (refine wpList_load_row rfl 27 _ rfl w.heap.size rfl 27 (frA f) (0, 0) _ (unhide H1) Try.underlying27 rfl (sizeFr (unhide HF)) ?_)
  rw [frZ_eq]
  generalize ((w.alloc (.cells (frA f) 27)).alloc (.cells (frA frZ) 27)) = W at H1 H2 HB ⊢
  refine (refShape_any f _ (unhide HF)).mono ?_
  rintro e W1 ⟨rfl, hB1⟩
  have K1 := hide ((unhide H1).below hB1 (unhide H1).lt)
  have K2 := hide ((unhide H2).below hB1 (unhide H2).lt)
  have HB1 := hide ((unhide HB).trans (hB1.mono (unhide HB).size))
  clear hB1 H1 H2 HB W
  by_cases hs : shapeD f = true
  · have HS := hide hs
    obtain ⟨h0, h1, h2, h3⟩ := shapeD_iff.1 hs
    have d0 := (unhide K1).lo
    by_cases s1 : s < 0
    · have HR : Hid (storeD f s t = (frZ, 33)) := hide (by have hl : loadD f s = (0, 33) := (by unfold loadD; rw [if_neg (by rw [hs]; simp), if_pos (Or.inl s1)]); unfold storeD; rw [hl]; rfl)
      rw [hs]
      clear hs
      go_wp2_with (refine wpList_store_row rfl 27 _ _ rfl (w.heap.size + 1) (frA frZ) rfl rfl 27 (frA frZ) (unhide K2) (sizeFr frZ_ok) (sizeEq frZ_ok frZ_ok) (frA_one _) ?_)
      exact bodyPost_ret (v := frTwo (frZ, 33)) (results_fr2 rfl _ _ (w.heap.size + 1) frZ 33 frZ_ok rfl rfl ((unhide K2).row _)) rfl ⟨by rw [unhide HR], below_setRow' (unhide HB1) (by omega) _⟩
    · by_cases s2 : s ≥ f.lo
      · have HR : Hid (storeD f s t = (frZ, 33)) := hide (by have hl : loadD f s = (0, 33) := (by unfold loadD; rw [if_neg (by rw [hs]; simp), if_pos (Or.inr s2)]); unfold storeD; rw [hl]; rfl)
        rw [hs]
        clear hs
        go_wp2_with (refine wpList_store_row rfl 27 _ _ rfl (w.heap.size + 1) (frA frZ) rfl rfl 27 (frA frZ) (unhide K2) (sizeFr frZ_ok) (sizeEq frZ_ok frZ_ok) (frA_one _) ?_)
        exact bodyPost_ret (v := frTwo (frZ, 33)) (results_fr2 rfl _ _ (w.heap.size + 1) frZ 33 frZ_ok rfl rfl ((unhide K2).row _)) rfl ⟨by rw [unhide HR], below_setRow' (unhide HB1) (by omega) _⟩
      · have HR : Hid (storeD f s t = (⟨f.lo, f.he, (trimL (nF f) f.sl).set s.toNat t⟩, 0)) := hide (by have hl : loadD f s = (f.sl.getD s.toNat 0, 0) := (by unfold loadD; rw [if_neg (by rw [hs]; simp), if_neg (by omega)]); unfold storeD; rw [hl, if_neg (by simp)])
        rw [hs]
        clear hs
        go_wp2_with (refine wpList_load_row rfl 27 _ rfl w.heap.size rfl 27 (frA f) (0, 0) _ (unhide K1) Try.underlying27 rfl (sizeFr (unhide HF)) ?_)
        refine (bare_any f _ (unhide HF) (unhide HS)).mono ?_
        rintro e W3 ⟨rfl, hB3⟩
        have M1 := hide ((unhide K1).below hB3 (unhide K1).lt)
        have M2 := hide ((unhide K2).below hB3 (unhide K2).lt)
        have HB3 := hide ((unhide HB1).trans (hB3.mono (unhide HB1).size))
        clear hB3 K1 K2 HB1 d0 W1
        have HO := hide (trim_ok (unhide HF) (unhide HS))
        have N1 := hide ((unhide M1).row (trimD f))
        have N2 := hide ((unhide M2).rowOther (g := w.heap.size) (trimD f) (by omega))
        have HB4 := hide (below_setRow' (unhide HB3) (Nat.le_refl _) (frA (trimD f)))
        obtain ⟨n, rfl⟩ : ∃ n : Nat, s = (n : Int) := ⟨s.toNat, by omega⟩
        rw [Int.toNat_natCast] at HR
        have hlen : n < (trimD f).sl.length := by rw [(unhide HO).len]; omega
        have c1 := (unhide N1).slot (List.getElem?_eq_getElem hlen)
        generalize (trimD f).sl[n] = old at c1
        have z1 := (unhide N1).frozen (2 + n)
        have i1 : ((n : Nat) : Int) < 24 := by omega
        have R1 : Hid (FAt ((W3.setRow w.heap.size (frA (trimD f))).setCell ⟨w.heap.size, 2 + n, none⟩ (.int .u8 (t : Int))) w.heap.size ⟨f.lo, f.he, (trimL (nF f) f.sl).set n t⟩) := hide ((unhide N1).set n t)
        have R2 := hide ((unhide N2).cellOther ⟨w.heap.size, 2 + n, none⟩ (.int .u8 (t : Int)) (by simp))
        have HB7 := hide ((unhide HB4).setCell (p := ⟨w.heap.size, 2 + n, none⟩) (Nat.le_refl _) (.int .u8 (t : Int)))
        have HOK : Hid (FrOk ⟨f.lo, f.he, (trimL (nF f) f.sl).set n t⟩) := hide (set_ok (unhide HO) (i := n) ht)
        generalize (Fr.mk f.lo f.he ((trimL (nF f) f.sl).set n t)) = F at R1 HOK HR
        clear hlen
        go_wp2_with (first | (refine wpList_load_row rfl 27 _ rfl w.heap.size rfl 27 (frA F) (0, 0) _ (unhide R1) Try.underlying27 rfl (sizeFr (unhide HOK)) ?_) | (refine wpList_store_row rfl 27 _ _ rfl w.heap.size (frA (trimD f)) rfl rfl 27 (frA f) (unhide M1) (sizeFr (unhide HO)) (sizeEq (unhide HF) (unhide HO)) (frA_one _) ?_) | (refine wpList_store_row rfl 27 _ _ rfl (w.heap.size + 1) (frA F) rfl rfl 27 (frA frZ) (unhide R2) (sizeFr (unhide HOK)) (sizeEq frZ_ok (unhide HOK)) (frA_one _) ?_))
        exact bodyPost_ret (v := frTwo (F, 0)) (results_fr2 rfl _ _ (w.heap.size + 1) F 0 (unhide HOK) rfl rfl ((unhide R2).row _)) rfl ⟨by rw [unhide HR], below_setRow' (unhide HB7) (by omega) _⟩
  · have hs' : shapeD f = false := by simpa using hs
    have HR : Hid (storeD f s t = (frZ, 32)) := hide (by have hl : loadD f s = (0, 32) := (by unfold loadD; rw [if_pos hs']); unfold storeD; rw [hl]; rfl)
    rw [hs']
    clear hs hs'
    go_wp2_with (refine wpList_store_row rfl 27 _ _ rfl (w.heap.size + 1) (frA frZ) rfl rfl 27 (frA frZ) (unhide K2) (sizeFr frZ_ok) (sizeEq frZ_ok frZ_ok) (frA_one _) ?_)
    exact bodyPost_ret (v := frTwo (frZ, 32)) (results_fr2 rfl _ _ (w.heap.size + 1) frZ 32 frZ_ok rfl rfl ((unhide K2).row _)) rfl ⟨by rw [unhide HR], below_setRow' (unhide HB1) (by omega) _⟩

set_option maxHeartbeats 400000 in
theorem refPop_any (f : Fr) (w : World) (hf : FrOk f) :
    Calls Try.prog 24 #[.agg (frA f)] w fun e w' => e = .returned (frThree (popD f)) ∧ Below w.heap.size w w' := by
  have HF := hide hf
  have h1 : FAt ((w.alloc (.cells (frA f) 27)).alloc (.cells (frA frZ) 27)) w.heap.size f := (FAt.new w f).below ((Below.refl _ _).alloc (Nat.le_refl _) _) (by simp)
  have h2 : FAt ((w.alloc (.cells (frA f) 27)).alloc (.cells (frA frZ) 27)) (w.heap.size + 1) frZ := by
    have := FAt.new (w.alloc (.cells (frA f) 27)) frZ
    rw [World.size_alloc] at this
    exact this
  have hB : Below w.heap.size w ((w.alloc (.cells (frA f) 27)).alloc (.cells (frA frZ) 27)) := ((Below.refl _ _).alloc (Nat.le_refl _) _).alloc (by simp) _
  have H1 := hide h1
  have H2 := hide h2
  have HB := hide hB
  have hbz := run_buildZ
  clear hf h1 h2 hB
  go_enter Try.func24, Try.ntmps24
  go_wp2_with (refine wpList_load_row rfl 27 _ rfl w.heap.size rfl 27 (frA f) (0, 0) _ (unhide H1) Try.underlying27 rfl (sizeFr (unhide HF)) ?_)
  rw [frZ_eq]
  generalize ((w.alloc (.cells (frA f) 27)).alloc (.cells (frA frZ) 27)) = W at H1 H2 HB ⊢
  refine (refShape_any f _ (unhide HF)).mono ?_
  rintro e W1 ⟨rfl, hB1⟩
  have K1 := hide ((unhide H1).below hB1 (unhide H1).lt)
  have K2 := hide ((unhide H2).below hB1 (unhide H2).lt)
  have HB1 := hide ((unhide HB).trans (hB1.mono (unhide HB).size))
  clear hB1 H1 H2 HB W
  by_cases hs : shapeD f = true
  · have HS := hide hs
    obtain ⟨h0, h1, h2, h3⟩ := shapeD_iff.1 hs
    have d0 := (unhide K1).lo
    have d1 := (unhide K1).he
    by_cases s1 : f.he = 0
    · have HR : Hid (popD f = (frZ, 0, 30)) := hide (by have hl : topD f 0 = (0, 30) := (by unfold topD; rw [if_neg (by rw [hs]; simp), if_neg (by omega), if_pos (by omega)]); unfold popD; rw [hl]; rfl)
      have b1 : (f.he == 0) = true := beq_t s1
      rw [hs]
      clear hs s1
      go_wp2_with (refine wpList_store_row rfl 27 _ _ rfl (w.heap.size + 1) (frA frZ) rfl rfl 27 (frA frZ) (unhide K2) (sizeFr frZ_ok) (sizeEq frZ_ok frZ_ok) (frA_one _) ?_)
      exact bodyPost_ret (v := frThree (frZ, 0, 30)) (results_fr3 rfl _ _ (w.heap.size + 1) frZ 0 30 frZ_ok rfl rfl rfl ((unhide K2).row _)) rfl ⟨by rw [unhide HR], below_setRow' (unhide HB1) (by omega) _⟩
    · have HR : Hid (popD f = (⟨f.lo, f.he - 1, trimL (nF f - 1) f.sl⟩, f.sl.getD (nF f - 1) 0, 0)) := hide (by have hl : topD f 0 = (f.sl.getD (nF f - 1) 0, 0) := (by unfold topD; rw [if_neg (by rw [hs]; simp), if_neg (by omega), if_neg (by omega)]; simp); unfold popD; rw [hl, if_neg (by simp)])
      have b1 : (f.he == 0) = false := beq_f s1
      have hlt : (f.lo + f.he).toNat - 1 < f.sl.length := by rw [(unhide HF).len]; omega
      have HG : Hid (f.sl.getD (nF f - 1) 0 = f.sl[(f.lo + f.he).toNat - 1]) := hide (by unfold nF; rw [List.getD_eq_getElem?_getD, List.getElem?_eq_getElem hlt]; rfl)
      have ct := (unhide K1).slot (List.getElem?_eq_getElem hlt)
      rw [unhide HG] at HR
      generalize f.sl[(f.lo + f.he).toNat - 1] = x at ct HR
      have h2' : 1 ≤ f.he := by omega
      rw [hs]
      clear hs s1 hlt HG
      have z1 := (unhide K1).frozen 1
      have N1 : Hid (FAt (W1.setCell ⟨w.heap.size, 1, none⟩ (.int .i64 (f.he - 1))) w.heap.size ⟨f.lo, f.he - 1, f.sl⟩) := hide ((unhide K1).setHe (f.he - 1))
      have N2 := hide ((unhide K2).cellOther ⟨w.heap.size, 1, none⟩ (.int .i64 (f.he - 1)) (by simp))
      have HB4 := hide ((unhide HB1).setCell (p := ⟨w.heap.size, 1, none⟩) (Nat.le_refl _) (.int .i64 (f.he - 1)))
      have HO : Hid (FrOk ⟨f.lo, f.he - 1, f.sl⟩) := hide ⟨(unhide HF).len, (unhide HF).byte, (unhide HF).lo, by constructor <;> show _ ≤ _ <;> simp only <;> omega⟩
      have HS2 : Hid (shapeD ⟨f.lo, f.he - 1, f.sl⟩ = true) := hide (shapeD_iff.2 (by simp only; omega))
      have HT : Hid (trimD ⟨f.lo, f.he - 1, f.sl⟩ = ⟨f.lo, f.he - 1, trimL (nF f - 1) f.sl⟩) := hide (by
        unfold trimD
        have : nF ⟨f.lo, f.he - 1, f.sl⟩ = nF f - 1 := by unfold nF; simp only; omega
        rw [this])
      generalize (Fr.mk f.lo (f.he - 1) f.sl) = F0 at N1 HO HS2 HT
      go_wp2_with (refine wpList_load_row rfl 27 _ rfl w.heap.size rfl 27 (frA F0) (0, 0) _ (unhide N1) Try.underlying27 rfl (sizeFr (unhide HO)) ?_)
      generalize (W1.setCell ⟨w.heap.size, 1, none⟩ (.int .i64 (f.he - 1))) = W2 at N1 N2 HB4 ⊢
      refine (bare_any F0 _ (unhide HO) (unhide HS2)).mono ?_
      rintro e W3 ⟨rfl, hB3⟩
      have M1 := hide ((unhide N1).below hB3 (unhide N1).lt)
      have M2 := hide ((unhide N2).below hB3 (unhide N2).lt)
      have HB3 := hide ((unhide HB4).trans (hB3.mono (unhide HB4).size))
      clear hB3 N1 N2 HB4 W2
      have HOK := hide (trim_ok (unhide HO) (unhide HS2))
      rw [← unhide HT] at HR
      generalize trimD F0 = F at HOK HR ⊢
      go_wp2_with (refine wpList_store_row rfl 27 _ _ rfl (w.heap.size + 1) (frA F) rfl rfl 27 (frA frZ) (unhide M2) (sizeFr (unhide HOK)) (sizeEq frZ_ok (unhide HOK)) (frA_one _) ?_)
      exact bodyPost_ret (v := frThree (F, x, 0)) (results_fr3 rfl _ _ (w.heap.size + 1) F x 0 (unhide HOK) rfl rfl rfl ((unhide M2).row _)) rfl ⟨by rw [unhide HR], below_setRow' (unhide HB3) (by omega) _⟩
  · have hs' : shapeD f = false := by simpa using hs
    have HR : Hid (popD f = (frZ, 0, 32)) := hide (by have hl : topD f 0 = (0, 32) := (by unfold topD; rw [if_pos hs']); unfold popD; rw [hl]; rfl)
    rw [hs']
    clear hs hs'
    go_wp2_with (refine wpList_store_row rfl 27 _ _ rfl (w.heap.size + 1) (frA frZ) rfl rfl 27 (frA frZ) (unhide K2) (sizeFr frZ_ok) (sizeEq frZ_ok frZ_ok) (frA_one _) ?_)
    exact bodyPost_ret (v := frThree (frZ, 0, 32)) (results_fr3 rfl _ _ (w.heap.size + 1) frZ 0 32 frZ_ok rfl rfl rfl ((unhide K2).row _)) rfl ⟨by rw [unhide HR], below_setRow' (unhide HB1) (by omega) _⟩
end Go.Proofs.Ytihkodfcgfnjoaa
