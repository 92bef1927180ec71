/-
  Contracts of frames.Store and frames.Pop: what the plain functions say; nothing old is turned.
-/
import Derived.Test.YtihkodfcgfnjoaaFrE
namespace Go.Proofs.Ytihkodfcgfnjoaa
open Go.RowKit

def storeD (f : Fr) (s : Int) (t : Nat) : Fr × Int :=
  if (loadD f s).2 ≠ 0 then (frZ, (loadD f s).2) else (⟨f.lo, f.he, (trimL (nF f) f.sl).set s.toNat t⟩, 0)
def popD (f : Fr) : Fr × Nat × Int :=
  if (topD f 0).2 ≠ 0 then (frZ, 0, (topD f 0).2) else (⟨f.lo, f.he - 1, trimL (nF f - 1) f.sl⟩, (topD f 0).1, 0)
theorem load_good {f : Fr} {s : Int} (h : (loadD f s).2 = 0) : shapeD f = true ∧ 0 ≤ s ∧ s < f.lo := by
  unfold loadD at h
  by_cases h1 : shapeD f = false
  · rw [if_pos h1] at h; cases h
  · rw [if_neg h1] at h
    by_cases h2 : s < 0 ∨ f.lo ≤ s
    · rw [if_pos h2] at h; cases h
    · exact ⟨by simpa using h1, by omega, by omega⟩
theorem top_good {f : Fr} {n : Int} (h : (topD f n).2 = 0) : shapeD f = true ∧ 0 ≤ n ∧ n < f.he := by
  unfold topD at h
  by_cases h1 : shapeD f = false
  · rw [if_pos h1] at h; cases h
  · rw [if_neg h1] at h
    by_cases h2 : n < 0
    · rw [if_pos h2] at h; cases h
    · rw [if_neg h2] at h
      by_cases h3 : f.he ≤ n
      · rw [if_pos h3] at h; cases h
      · exact ⟨by simpa using h1, by omega, by omega⟩

set_option maxHeartbeats 400000 in
theorem Store_any (f : Fr) (s : Int) (t : Nat) (w : World) (hf : FrOk f) (hw : -9223372036854775808 ≤ s ∧ s ≤ 9223372036854775807) (ht : t < 256) :
    Calls Try.prog 29 #[.agg (frA f), .int .i64 s, .int .u8 (t : Int)] w fun e w' => e = .returned (frTwo (storeD f s t)) ∧ Below w.heap.size w w' := by
  have HF := hide hf
  have h1 : FAt ((w.alloc (.cells (frA f) 27)).alloc (.cells (frA frZ) 27)) w.heap.size f := (FAt.new w f).below ((Below.refl _ _).alloc (Nat.le_refl _) _) (by simp)
  have h2 : FAt ((w.alloc (.cells (frA f) 27)).alloc (.cells (frA frZ) 27)) (w.heap.size + 1) frZ := by
    have := FAt.new (w.alloc (.cells (frA f) 27)) frZ
    rw [World.size_alloc] at this
    exact this
  have hB : Below w.heap.size w ((w.alloc (.cells (frA f) 27)).alloc (.cells (frA frZ) 27)) := ((Below.refl _ _).alloc (Nat.le_refl _) _).alloc (by simp) _
  have H1 := hide h1
  have H2 := hide h2
  have HB := hide hB
  have hbz := run_buildZ
  clear hf h1 h2 hB
  go_enter Try.func29, Try.ntmps29
  go_wp2_with (refine wpList_load_row rfl 27 _ rfl w.heap.size rfl 27 (frA f) (0, 0) _ (unhide H1) Try.underlying27 rfl (sizeFr (unhide HF)) ?_)
  rw [frZ_eq]
  generalize ((w.alloc (.cells (frA f) 27)).alloc (.cells (frA frZ) 27)) = W at H1 H2 HB ⊢
  refine (Load_any f s _ (unhide HF) hw).mono ?_
  rintro e W1 ⟨rfl, hB1⟩
  have K1 := hide ((unhide H1).below hB1 (unhide H1).lt)
  have K2 := hide ((unhide H2).below hB1 (unhide H2).lt)
  have HB1 := hide ((unhide HB).trans (hB1.mono (unhide HB).size))
  clear hB1 H1 H2 HB W
  unfold twoV
  by_cases he : (loadD f s).2 = 0
  · obtain ⟨hs, s1, s2⟩ := load_good he
    have HS := hide hs
    obtain ⟨h0, h1, h2, h3⟩ := shapeD_iff.1 hs
    have HR : Hid (storeD f s t = (⟨f.lo, f.he, (trimL (nF f) f.sl).set s.toNat t⟩, 0)) := hide (by unfold storeD; rw [if_neg (by rw [he]; simp)])
    have HE := hide he
    rw [he]
    clear he hs
    generalize (loadD f s).1 = x
    go_wp2_with (refine wpList_load_row rfl 27 _ rfl w.heap.size rfl 27 (frA f) (0, 0) _ (unhide K1) Try.underlying27 rfl (sizeFr (unhide HF)) ?_)
    refine (trimmed_any f _ (unhide HF) (unhide HS)).mono ?_
    rintro e W3 ⟨rfl, hB3⟩
    have M1 := hide ((unhide K1).below hB3 (unhide K1).lt)
    have M2 := hide ((unhide K2).below hB3 (unhide K2).lt)
    have HB3 := hide ((unhide HB1).trans (hB3.mono (unhide HB1).size))
    clear hB3 K1 K2 HB1 W1
    have HO := hide (trim_ok (unhide HF) (unhide HS))
    have N1 := hide ((unhide M1).row (trimD f))
    have N2 := hide ((unhide M2).rowOther (g := w.heap.size) (trimD f) (by omega))
    have HB4 := hide (below_setRow' (unhide HB3) (Nat.le_refl _) (frA (trimD f)))
    obtain ⟨n, rfl⟩ : ∃ n : Nat, s = (n : Int) := ⟨s.toNat, by omega⟩
    rw [Int.toNat_natCast] at HR
    have hlen : n < (trimD f).sl.length := by rw [(unhide HO).len]; omega
    have c1 := (unhide N1).slot (List.getElem?_eq_getElem hlen)
    generalize (trimD f).sl[n] = old at c1
    have z1 := (unhide N1).frozen (2 + n)
    have i1 : ((n : Nat) : Int) < 24 := by omega
    have R1 : Hid (FAt ((W3.setRow w.heap.size (frA (trimD f))).setCell ⟨w.heap.size, 2 + n, none⟩ (.int .u8 (t : Int))) w.heap.size ⟨f.lo, f.he, (trimL (nF f) f.sl).set n t⟩) := hide ((unhide N1).set n t)
    have R2 := hide ((unhide N2).cellOther ⟨w.heap.size, 2 + n, none⟩ (.int .u8 (t : Int)) (by simp))
    have HB7 := hide ((unhide HB4).setCell (p := ⟨w.heap.size, 2 + n, none⟩) (Nat.le_refl _) (.int .u8 (t : Int)))
    have HOK : Hid (FrOk ⟨f.lo, f.he, (trimL (nF f) f.sl).set n t⟩) := hide (set_ok (unhide HO) (i := n) ht)
    generalize (Fr.mk f.lo f.he ((trimL (nF f) f.sl).set n t)) = F at R1 HOK HR
    clear hlen
    go_wp2_with (first | (refine wpList_load_row rfl 27 _ rfl w.heap.size rfl 27 (frA F) (0, 0) _ (unhide R1) Try.underlying27 rfl (sizeFr (unhide HOK)) ?_) | (refine wpList_store_row rfl 27 _ _ rfl w.heap.size (frA (trimD f)) rfl rfl 27 (frA f) (unhide M1) (sizeFr (unhide HO)) (sizeEq (unhide HF) (unhide HO)) (frA_one _) ?_) | (refine wpList_store_row rfl 27 _ _ rfl (w.heap.size + 1) (frA F) rfl rfl 27 (frA frZ) (unhide R2) (sizeFr (unhide HOK)) (sizeEq frZ_ok (unhide HOK)) (frA_one _) ?_))
    exact bodyPost_ret (v := frTwo (F, 0)) (results_fr2 rfl _ _ (w.heap.size + 1) F 0 (unhide HOK) rfl rfl ((unhide R2).row _)) rfl ⟨by rw [unhide HR], below_setRow' (unhide HB7) (by omega) _⟩
  · have HR : Hid (storeD f s t = (frZ, (loadD f s).2)) := hide (by unfold storeD; rw [if_pos he])
    generalize (loadD f s).2 = er at he HR ⊢
    generalize (loadD f s).1 = x
    have b1 := bne_t he
    clear he
    go_wp2_with (refine wpList_store_row rfl 27 _ _ rfl (w.heap.size + 1) (frA frZ) rfl rfl 27 (frA frZ) (unhide K2) (sizeFr frZ_ok) (sizeEq frZ_ok frZ_ok) (frA_one _) ?_)
    exact bodyPost_ret (v := frTwo (frZ, er)) (results_fr2 rfl _ _ (w.heap.size + 1) frZ er frZ_ok rfl rfl ((unhide K2).row _)) rfl ⟨by rw [unhide HR], below_setRow' (unhide HB1) (by omega) _⟩

set_option maxHeartbeats 400000 in
theorem Pop_any (f : Fr) (w : World) (hf : FrOk f) :
    Calls Try.prog 23 #[.agg (frA f)] w fun e w' => e = .returned (frThree (popD f)) ∧ Below w.heap.size w w' := by
  have HF := hide hf
  have h1 : FAt ((w.alloc (.cells (frA f) 27)).alloc (.cells (frA frZ) 27)) w.heap.size f := (FAt.new w f).below ((Below.refl _ _).alloc (Nat.le_refl _) _) (by simp)
  have h2 : FAt ((w.alloc (.cells (frA f) 27)).alloc (.cells (frA frZ) 27)) (w.heap.size + 1) frZ := by
    have := FAt.new (w.alloc (.cells (frA f) 27)) frZ
    rw [World.size_alloc] at this
    exact this
  have hB : Below w.heap.size w ((w.alloc (.cells (frA f) 27)).alloc (.cells (frA frZ) 27)) := ((Below.refl _ _).alloc (Nat.le_refl _) _).alloc (by simp) _
  have H1 := hide h1
  have H2 := hide h2
  have HB := hide hB
  have hbz := run_buildZ
  clear hf h1 h2 hB
  go_enter Try.func23, Try.ntmps23
  go_wp2_with (refine wpList_load_row rfl 27 _ rfl w.heap.size rfl 27 (frA f) (0, 0) _ (unhide H1) Try.underlying27 rfl (sizeFr (unhide HF)) ?_)
  rw [frZ_eq]
  generalize ((w.alloc (.cells (frA f) 27)).alloc (.cells (frA frZ) 27)) = W at H1 H2 HB ⊢
  refine (Top_any f 0 _ (unhide HF) (by omega)).mono ?_
  rintro e W1 ⟨rfl, hB1⟩
  have K1 := hide ((unhide H1).below hB1 (unhide H1).lt)
  have K2 := hide ((unhide H2).below hB1 (unhide H2).lt)
  have HB1 := hide ((unhide HB).trans (hB1.mono (unhide HB).size))
  clear hB1 H1 H2 HB W
  unfold twoV
  by_cases he : (topD f 0).2 = 0
  · obtain ⟨hs, s1, s2⟩ := top_good he
    have HS := hide hs
    obtain ⟨h0, h1, h2, h3⟩ := shapeD_iff.1 hs
    have HR : Hid (popD f = (⟨f.lo, f.he - 1, trimL (nF f - 1) f.sl⟩, (topD f 0).1, 0)) := hide (by unfold popD; rw [if_neg (by rw [he]; simp)])
    rw [he]
    clear he hs
    generalize (topD f 0).1 = x at HR ⊢
    have c1 := (unhide K1).he
    have z1 := (unhide K1).frozen 1
    have N1 : Hid (FAt (W1.setCell ⟨w.heap.size, 1, none⟩ (.int .i64 (f.he - 1))) w.heap.size ⟨f.lo, f.he - 1, f.sl⟩) := hide ((unhide K1).setHe (f.he - 1))
    have N2 := hide ((unhide K2).cellOther ⟨w.heap.size, 1, none⟩ (.int .i64 (f.he - 1)) (by simp))
    have HB4 := hide ((unhide HB1).setCell (p := ⟨w.heap.size, 1, none⟩) (Nat.le_refl _) (.int .i64 (f.he - 1)))
    have HO : Hid (FrOk ⟨f.lo, f.he - 1, f.sl⟩) := hide ⟨(unhide HF).len, (unhide HF).byte, (unhide HF).lo, by constructor <;> show _ ≤ _ <;> simp only <;> omega⟩
    have HS2 : Hid (shapeD ⟨f.lo, f.he - 1, f.sl⟩ = true) := hide (shapeD_iff.2 (by simp only; omega))
    have HT : Hid (trimD ⟨f.lo, f.he - 1, f.sl⟩ = ⟨f.lo, f.he - 1, trimL (nF f - 1) f.sl⟩) := hide (by
      unfold trimD
      have : nF ⟨f.lo, f.he - 1, f.sl⟩ = nF f - 1 := by unfold nF; simp only; omega
      rw [this])
    generalize (Fr.mk f.lo (f.he - 1) f.sl) = F0 at N1 HO HS2 HT
    go_wp2_with (refine wpList_load_row rfl 27 _ rfl w.heap.size rfl 27 (frA F0) (0, 0) _ (unhide N1) Try.underlying27 rfl (sizeFr (unhide HO)) ?_)
    generalize (W1.setCell ⟨w.heap.size, 1, none⟩ (.int .i64 (f.he - 1))) = W2 at N1 N2 HB4 ⊢
    refine (trimmed_any F0 _ (unhide HO) (unhide HS2)).mono ?_
    rintro e W3 ⟨rfl, hB3⟩
    have M1 := hide ((unhide N1).below hB3 (unhide N1).lt)
    have M2 := hide ((unhide N2).below hB3 (unhide N2).lt)
    have HB3 := hide ((unhide HB4).trans (hB3.mono (unhide HB4).size))
    clear hB3 N1 N2 HB4 W2
    have HOK := hide (trim_ok (unhide HO) (unhide HS2))
    rw [← unhide HT] at HR
    generalize trimD F0 = F at HOK HR ⊢
    go_wp2_with (refine wpList_store_row rfl 27 _ _ rfl (w.heap.size + 1) (frA F) rfl rfl 27 (frA frZ) (unhide M2) (sizeFr (unhide HOK)) (sizeEq frZ_ok (unhide HOK)) (frA_one _) ?_)
    exact bodyPost_ret (v := frThree (F, x, 0)) (results_fr3 rfl _ _ (w.heap.size + 1) F x 0 (unhide HOK) rfl rfl rfl ((unhide M2).row _)) rfl ⟨by rw [unhide HR], below_setRow' (unhide HB3) (by omega) _⟩
  · have HR : Hid (popD f = (frZ, 0, (topD f 0).2)) := hide (by unfold popD; rw [if_pos he])
    generalize (topD f 0).2 = er at he HR ⊢
    generalize (topD f 0).1 = x
    have b1 := bne_t he
    clear he
    go_wp2_with (refine wpList_store_row rfl 27 _ _ rfl (w.heap.size + 1) (frA frZ) rfl rfl 27 (frA frZ) (unhide K2) (sizeFr frZ_ok) (sizeEq frZ_ok frZ_ok) (frA_one _) ?_)
    exact bodyPost_ret (v := frThree (frZ, 0, er)) (results_fr3 rfl _ _ (w.heap.size + 1) frZ 0 er frZ_ok rfl rfl rfl ((unhide K2).row _)) rfl ⟨by rw [unhide HR], below_setRow' (unhide HB1) (by omega) _⟩
end Go.Proofs.Ytihkodfcgfnjoaa
