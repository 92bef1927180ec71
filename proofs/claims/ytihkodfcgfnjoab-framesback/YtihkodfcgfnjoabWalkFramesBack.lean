/-
  The walk of the law FramesBack: it returns true for every frame, type and number, and writes nothing that was there.
-/
import Derived.Test.YtihkodfcgfnjoabFrF
import Derived.Test.YtihkodfcgfnjoabFrG0
import Derived.Test.YtihkodfcgfnjoabPickN
import Derived.Test.YtihkodfcgfnjoabShell
namespace Go.Proofs.Ytihkodfcgfnjoab
open Go.RowKit

theorem trimL_get {n : Nat} {l : List Nat} (hl : l.length = 24) (hn : n ≤ 24) (i : Nat) : (trimL n l)[i]? = if i < n then l[i]? else if i < 24 then some 0 else none := by
  unfold trimL
  rw [List.getElem?_append, List.length_take, hl, List.getElem?_take, List.getElem?_replicate]
  by_cases h1 : i < n
  · rw [if_pos (by omega), if_pos h1, if_pos h1]
  · rw [if_neg (by omega), if_neg h1]
    by_cases h2 : i < 24
    · rw [if_pos (by omega), if_pos h2]
    · rw [if_neg (by omega), if_neg h2]
theorem trimL_idem {n : Nat} {l : List Nat} (hl : l.length = 24) (hn : n ≤ 24) : trimL n (trimL n l) = trimL n l := by
  apply List.ext_getElem?
  intro i
  rw [trimL_get (trimL_length hl hn) hn, trimL_get hl hn]
  by_cases h1 : i < n
  · rw [if_pos h1, if_pos h1]
  · rw [if_neg h1, if_neg h1]
theorem trimL_hi {n t : Nat} {l : List Nat} (hl : l.length = 24) (hn : n < 24) : trimL n ((trimL n l).set n t) = trimL n l := by
  apply List.ext_getElem?
  intro i
  rw [trimL_get (by rw [List.length_set]; exact trimL_length hl (by omega)) (by omega), List.getElem?_set, trimL_get hl (by omega)]
  by_cases h1 : i < n
  · rw [if_pos h1, if_neg (by omega), if_pos h1]
  · rw [if_neg h1, if_neg h1]
theorem trimL_lo {n s t : Nat} {l : List Nat} (hl : l.length = 24) (hn : n ≤ 24) (hs : s < n) : trimL n ((trimL n l).set s t) = (trimL n l).set s t := by
  apply List.ext_getElem?
  intro i
  rw [trimL_get (by rw [List.length_set]; exact trimL_length hl hn) hn, List.getElem?_set]
  by_cases h1 : i < n
  · rw [if_pos h1]
  · rw [if_neg h1, if_neg (show ¬ s = i by omega), trimL_get hl hn, if_neg h1]

/-- What the law looks at, plainly. -/
structure BackD (x : Fr) (t : Nat) (G : Fr) : Prop where
  push : pushD x t = (G, 0)
  he : G.he = x.he + 1
  top : topD G 0 = (t, 0)
  pop : popD G = (x, t, 0)
theorem backD {f : Fr} (hf : FrOk f) (hs : shapeD f = true) (hn : nF f < 24) (t : Nat) : BackD (trimD f) t ⟨f.lo, f.he + 1, (trimL (nF f) f.sl).set (nF f) t⟩ := by
  have hd := shapeD_iff.1 hs
  have hst : shapeD (trimD f) = true := hs
  have hnt : nF (trimD f) = nF f := rfl
  have hsG : shapeD ⟨f.lo, f.he + 1, (trimL (nF f) f.sl).set (nF f) t⟩ = true := shapeD_iff.2 (by simp only; unfold nF at hn; omega)
  have hnG : nF ⟨f.lo, f.he + 1, (trimL (nF f) f.sl).set (nF f) t⟩ = nF f + 1 := by unfold nF; simp only; omega
  have htop : topD ⟨f.lo, f.he + 1, (trimL (nF f) f.sl).set (nF f) t⟩ 0 = (t, 0) := by
    unfold topD
    rw [if_neg (by rw [hsG]; simp), if_neg (by omega), if_neg (by simp only; omega), hnG]
    have : ((trimL (nF f) f.sl).set (nF f) t).getD (nF f + 1 - 1 - (0 : Int).toNat) 0 = t := by
      rw [show nF f + 1 - 1 - (0 : Int).toNat = nF f from by simp, List.getD_eq_getElem?_getD, List.getElem?_set_self (by rw [trimL_length hf.len (by omega)]; exact hn)]
      rfl
    simp only [this]
  refine ⟨?_, rfl, htop, ?_⟩
  · unfold pushD
    rw [if_neg (by rw [hst]; simp), hnt, if_neg (by omega)]
    show ((⟨f.lo, f.he + 1, (trimL (nF f) (trimL (nF f) f.sl)).set (nF f) t⟩ : Fr), (0 : Int)) = _
    rw [trimL_idem hf.len (by omega)]
  · unfold popD
    rw [htop, if_neg (by simp), hnG]
    simp only [Nat.add_sub_cancel]
    rw [trimL_hi hf.len hn, show f.he + 1 - 1 = f.he from by omega]
    rfl
structure BackS (x : Fr) (s : Int) (t old : Nat) (G : Fr) : Prop where
  load : loadD x s = (old, 0)
  store : storeD x s t = (G, 0)
  again : loadD G s = (t, 0)
  back : storeD G s old = (x, 0)
theorem backS {f : Fr} (hf : FrOk f) (hs : shapeD f = true) (s : Nat) (hlo : (s : Int) < f.lo) (t : Nat) : BackS (trimD f) (s : Int) t ((trimL (nF f) f.sl).getD s 0) ⟨f.lo, f.he, (trimL (nF f) f.sl).set s t⟩ := by
  have hd := shapeD_iff.1 hs
  have hst : shapeD (trimD f) = true := hs
  have hn : nF f ≤ 24 := shape_n hs
  have hsn : s < nF f := by unfold nF; omega
  have hnt : nF (trimD f) = nF f := rfl
  have hsG : shapeD ⟨f.lo, f.he, (trimL (nF f) f.sl).set s t⟩ = true := hs
  have hnG : nF ⟨f.lo, f.he, (trimL (nF f) f.sl).set s t⟩ = nF f := rfl
  have hlen : s < (trimL (nF f) f.sl).length := by rw [trimL_length hf.len hn]; omega
  have hl1 : loadD (trimD f) (s : Int) = ((trimL (nF f) f.sl).getD s 0, 0) := by
    unfold loadD
    rw [if_neg (by rw [hst]; simp), if_neg (by show ¬ ((s : Int) < 0 ∨ f.lo ≤ (s : Int)); omega), Int.toNat_natCast]
    rfl
  have hl2 : loadD ⟨f.lo, f.he, (trimL (nF f) f.sl).set s t⟩ (s : Int) = (t, 0) := by
    unfold loadD
    rw [if_neg (by rw [hsG]; simp), if_neg (by show ¬ ((s : Int) < 0 ∨ f.lo ≤ (s : Int)); omega), Int.toNat_natCast]
    simp only
    rw [List.getD_eq_getElem?_getD, List.getElem?_set_self hlen]
    rfl
  refine ⟨hl1, ?_, hl2, ?_⟩
  · unfold storeD
    rw [hl1, if_neg (by simp), hnt, Int.toNat_natCast]
    show ((⟨f.lo, f.he, (trimL (nF f) (trimL (nF f) f.sl)).set s t⟩ : Fr), (0 : Int)) = _
    rw [trimL_idem hf.len hn]
  · unfold storeD
    rw [hl2, if_neg (by simp), hnG, Int.toNat_natCast]
    simp only
    rw [trimL_lo hf.len hn hsn, List.set_set]
    have : (trimL (nF f) f.sl).set s ((trimL (nF f) f.sl).getD s 0) = trimL (nF f) f.sl := by
      rw [List.getD_eq_getElem?_getD, List.getElem?_eq_getElem hlen]
      simp
    rw [this]
    rfl
theorem frEq_refl (f : Fr) : frEq f f = true := frEq_iff.2 rfl
theorem neq_self {f : Fr} (hf : FrOk f) (w : World) : (binOp .neq 26 (.agg (frA f)) (.agg (frA f))).run Try.prog w = .ok (.bool false) w := by rw [run_neqFr w hf hf, frEq_refl]; rfl
theorem eql_self {f : Fr} (hf : FrOk f) (w : World) : (binOp .eql 26 (.agg (frA f)) (.agg (frA f))).run Try.prog w = .ok (.bool true) w := by rw [run_eqlFr w hf hf, frEq_refl]
theorem G_ok {f : Fr} (hf : FrOk f) (hs : shapeD f = true) {i t : Nat} (ht : t < 256) {h : Int} (h0 : 0 ≤ h) (h1 : h ≤ 100) : FrOk ⟨f.lo, h, (trimL (nF f) f.sl).set i t⟩ := by
  have k := set_ok (trim_ok hf hs) (i := i) ht
  exact ⟨k.len, k.byte, k.lo, by constructor <;> show _ ≤ _ <;> simp only <;> omega⟩

set_option maxRecDepth 100000 in
set_option maxHeartbeats 4000000 in
theorem walkFramesBack {w : World} (f : Fr) (hf : FrOk f) (t : Nat) (ht : t < 256) (slot : Int) (_hw : (Lit.int .i64 slot).wf = true) :
    Calls Try.prog 4 #[.agg (frA f), .int .u8 (t : Int), .int .i64 slot] w fun e w' => e = .returned (.bool true) ∧ Below w.heap.size w w' := by
  have HF := hide hf
  have e0 := frA_lo f
  have e1 := frA_he f
  have F0 := hide (FAt.new w f)
  have HB0 : Hid (Below w.heap.size w (w.alloc (.cells (frA f) 26))) := hide ((Below.refl _ _).alloc (Nat.le_refl _) _)
  by_cases c1 : f.lo < 0
  · go_enter Try.func4, Try.ntmps4
    go_wp2
    go_ret
    exact ⟨rfl, unhide HB0⟩
  by_cases c2 : f.lo > 16
  · go_enter Try.func4, Try.ntmps4
    go_wp2
    go_ret
    exact ⟨rfl, unhide HB0⟩
  by_cases c3 : f.he < 0
  · go_enter Try.func4, Try.ntmps4
    go_wp2
    go_ret
    exact ⟨rfl, unhide HB0⟩
  by_cases c4 : f.he > 24
  · go_enter Try.func4, Try.ntmps4
    go_wp2
    go_ret
    exact ⟨rfl, unhide HB0⟩
  by_cases c5 : f.lo + f.he ≥ 24
  · go_enter Try.func4, Try.ntmps4
    go_wp2
    go_ret
    exact ⟨rfl, unhide HB0⟩
  have hs : shapeD f = true := shapeD_iff.2 (by omega)
  have HS := hide hs
  have HO := hide (trim_ok hf hs)
  have hN : nF f < 24 := by unfold nF; omega
  have HD := hide (backD hf hs hN t)
  have hq1 := fun W => neq_self (unhide HO) W
  have hq2 := fun W => eql_self (unhide HO) W
  have HG := hide (G_ok hf hs (i := nF f) (h := f.he + 1) ht (by omega) (by omega))
  clear hs hf hN
  go_enter Try.func4, Try.ntmps4
  go_wp2
  generalize (w.alloc (.cells (frA f) 26)) = W at F0 HB0 ⊢
  obtain ⟨n, hn⟩ : ∃ n : Nat, f.lo + f.he = (n : Int) := ⟨nF f, by unfold nF; omega⟩
  have hn24 : n < 24 := by omega
  have HN : Hid (nF f = n) := hide (by unfold nF; omega)
  rw [hn]
  rw [hn] at c5
  clear hn e0 e1
  go_loopw [8] (fun i wr => ∃ k : Nat, n ≤ k ∧ k ≤ 24 ∧ i = .int .i64 (k : Int) ∧ Hid (FAt wr w.heap.size { f with sl := zeroTo f.sl n k }) ∧ Hid (Below w.heap.size w wr)) (fun i _ => 24 - (intOf i).toNat)
  case atStart => exact ⟨n, by omega, by omega, rfl, by unfold zeroTo; rw [Nat.sub_self]; exact F0, HB0⟩
  case round =>
    clear F0 HB0
    obtain ⟨k, hnk, hk, rfl, F0, HB0⟩ := hrel
    by_cases hlt : k < 24
    · have i1 : ((k : Nat) : Int) < 24 := by omega
      have hlen : k < (zeroTo f.sl n k).length := by unfold zeroTo; rw [zeroFrom_length, (unhide HF).len]; exact hlt
      have d1 := (unhide F0).slot (List.getElem?_eq_getElem hlen)
      generalize (zeroTo f.sl n k)[k] = old at d1
      have z1 := (unhide F0).frozen (2 + k)
      have R1 : Hid (FAt (wr.setCell ⟨w.heap.size, 2 + k, none⟩ (.int .u8 0)) w.heap.size { f with sl := zeroTo f.sl n (k + 1) }) := hide (by
        have := (unhide F0).set k 0
        rw [show ({ f with sl := zeroTo f.sl n k } : Fr).sl = zeroTo f.sl n k from rfl, zeroTo_succ _ hnk] at this
        exact this)
      have HB2 := hide ((unhide HB0).setCell (p := ⟨w.heap.size, 2 + k, none⟩) (Nat.le_refl _) (.int .u8 0))
      clear hlen F0 HB0
      go_wp2
      go_roundw
      case rel => exact ⟨k + 1, by omega, by omega, by go_num, R1, HB2⟩
      case measure => simp [intOf]; omega
    have i1 : ¬ ((k : Nat) : Int) < 24 := by omega
    have HT : Hid (({ f with sl := zeroTo f.sl n k } : Fr) = trimD f) := hide (by
      unfold trimD zeroTo
      rw [show k - n = 24 - n from by omega, zeroFrom_trim (unhide HF).len (by omega), unhide HN])
    rw [unhide HT] at F0
    have hlo : (trimD f).lo = f.lo := rfl
    have hhe : (trimD f).he = f.he := rfl
    obtain ⟨x, HX⟩ : ∃ x, Hid (trimD f = x) := ⟨_, hide rfl⟩
    obtain ⟨G, HGE⟩ : ∃ G, Hid (Fr.mk f.lo (f.he + 1) ((trimL (nF f) f.sl).set (nF f) t) = G) := ⟨_, hide rfl⟩
    rw [unhide HX] at F0 HO HD hq1 hq2 hlo hhe
    rw [unhide HGE] at HG HD
    clear HT hlt
    have HLO := hide hlo
    have HHE := hide hhe
    clear hlo hhe
    go_wp2_with (refine wpList_load_row rfl 26 _ rfl w.heap.size rfl 26 (frA x) (0, 0) _ (unhide F0) Try.underlying26 rfl (sizeFr (unhide HO)) ?_)
    refine (Push_any x t _ (unhide HO) ht).mono ?_
    rintro e W1 ⟨rfl, hB2⟩
    have F3 := hide ((unhide F0).below hB2 (unhide F0).lt)
    have HB4 := hide ((unhide HB0).trans (hB2.mono (unhide HB0).size))
    clear hB2 F0 HB0 wr
    rw [(unhide HD).push]
    unfold frTwo
    simp only
    have o_f_a : w.heap.size < W1.heap.size := (unhide F3).lt
    have Z5 : Hid (FAt (W1.alloc (.cells (frA frZ) 26)) W1.heap.size frZ) := hide (FAt.new W1 frZ)
    have hal : Below W1.heap.size W1 (W1.alloc (.cells (frA frZ) 26)) := (Below.refl _ _).alloc (Nat.le_refl _) _
    have F6 : Hid (FAt ((W1.alloc (.cells (frA frZ) 26)).setRow W1.heap.size (frA G)) w.heap.size x) := hide (((unhide F3).below hal (unhide F3).lt).rowOther G (Nat.ne_of_lt (unhide F3).lt))
    have F7 : Hid (FAt ((W1.alloc (.cells (frA frZ) 26)).setRow W1.heap.size (frA G)) W1.heap.size G) := hide ((unhide Z5).row G)
    have HB8 : Hid (Below w.heap.size w ((W1.alloc (.cells (frA frZ) 26)).setRow W1.heap.size (frA G))) := hide (below_setRow' ((unhide HB4).trans (hal.mono (unhide HB4).size)) (unhide HB4).size _)
    have y1 : ((W1.alloc (.cells #[.int .i64 0, .int .i64 0, .int .u8 0, .int .u8 0, .int .u8 0, .int .u8 0, .int .u8 0, .int .u8 0, .int .u8 0, .int .u8 0, .int .u8 0, .int .u8 0, .int .u8 0, .int .u8 0, .int .u8 0, .int .u8 0, .int .u8 0, .int .u8 0, .int .u8 0, .int .u8 0, .int .u8 0, .int .u8 0, .int .u8 0, .int .u8 0, .int .u8 0, .int .u8 0] 26)).setRow W1.heap.size (frA G)).cell? ⟨W1.heap.size, 1, none⟩ = some (.int .i64 (f.he + 1)) := (unhide F7).he.trans (by rw [(unhide HD).he, unhide HHE])
    have y2 : ((W1.alloc (.cells #[.int .i64 0, .int .i64 0, .int .u8 0, .int .u8 0, .int .u8 0, .int .u8 0, .int .u8 0, .int .u8 0, .int .u8 0, .int .u8 0, .int .u8 0, .int .u8 0, .int .u8 0, .int .u8 0, .int .u8 0, .int .u8 0, .int .u8 0, .int .u8 0, .int .u8 0, .int .u8 0, .int .u8 0, .int .u8 0, .int .u8 0, .int .u8 0, .int .u8 0, .int .u8 0] 26)).setRow W1.heap.size (frA G)).cell? ⟨w.heap.size, 1, none⟩ = some (.int .i64 f.he) := (unhide F6).he.trans (by rw [unhide HHE])
    go_wp2_with (first | (refine wpList_store_row rfl 26 _ _ rfl W1.heap.size (frA G) rfl rfl 26 (frA frZ) (unhide Z5) (sizeFr (unhide HG)) (sizeEq frZ_ok (unhide HG)) (frA_one _) ?_) | (refine wpList_load_row rfl 26 _ rfl W1.heap.size rfl 26 (frA G) (0, 0) _ (unhide F7) Try.underlying26 rfl (sizeFr (unhide HG)) ?_))
    clear y1 y2
    rw [frZ_eq]
    generalize ((W1.alloc (.cells (frA frZ) 26)).setRow W1.heap.size (frA G)) = W9 at F6 F7 HB8 ⊢
    clear F3 Z5 HB4 hal
    generalize W1.heap.size = g_a at F7 o_f_a ⊢
    clear W1
    refine (Top_any G 0 _ (unhide HG) (by omega)).mono ?_
    rintro e W10 ⟨rfl, hB11⟩
    have F12 := hide ((unhide F6).below hB11 (unhide F6).lt)
    have F13 := hide ((unhide F7).below hB11 (unhide F7).lt)
    have HB14 := hide ((unhide HB8).trans (hB11.mono (unhide HB8).size))
    clear hB11 F6 F7 HB8 W9
    rw [(unhide HD).top]
    unfold twoV
    simp only
    go_wp2_with (refine wpList_load_row rfl 26 _ rfl g_a rfl 26 (frA G) (0, 0) _ (unhide F13) Try.underlying26 rfl (sizeFr (unhide HG)) ?_)
    refine (Pop_any G _ (unhide HG)).mono ?_
    rintro e W15 ⟨rfl, hB16⟩
    have F17 := hide ((unhide F12).below hB16 (unhide F12).lt)
    have F18 := hide ((unhide F13).below hB16 (unhide F13).lt)
    have HB19 := hide ((unhide HB14).trans (hB16.mono (unhide HB14).size))
    clear hB16 F12 F13 HB14 W10
    rw [(unhide HD).pop]
    unfold frThree
    simp only
    have o_f_c : w.heap.size < W15.heap.size := (unhide F17).lt
    have o_a_c : g_a < W15.heap.size := (unhide F18).lt
    have Z20 : Hid (FAt (W15.alloc (.cells (frA frZ) 26)) W15.heap.size frZ) := hide (FAt.new W15 frZ)
    have hal : Below W15.heap.size W15 (W15.alloc (.cells (frA frZ) 26)) := (Below.refl _ _).alloc (Nat.le_refl _) _
    have F21 : Hid (FAt ((W15.alloc (.cells (frA frZ) 26)).setRow W15.heap.size (frA x)) w.heap.size x) := hide (((unhide F17).below hal (unhide F17).lt).rowOther x (Nat.ne_of_lt (unhide F17).lt))
    have F22 : Hid (FAt ((W15.alloc (.cells (frA frZ) 26)).setRow W15.heap.size (frA x)) g_a G) := hide (((unhide F18).below hal (unhide F18).lt).rowOther x (Nat.ne_of_lt (unhide F18).lt))
    have F23 : Hid (FAt ((W15.alloc (.cells (frA frZ) 26)).setRow W15.heap.size (frA x)) W15.heap.size x) := hide ((unhide Z20).row x)
    have HB24 : Hid (Below w.heap.size w ((W15.alloc (.cells (frA frZ) 26)).setRow W15.heap.size (frA x))) := hide (below_setRow' ((unhide HB19).trans (hal.mono (unhide HB19).size)) (unhide HB19).size _)
    have y1 : ((W15.alloc (.cells #[.int .i64 0, .int .i64 0, .int .u8 0, .int .u8 0, .int .u8 0, .int .u8 0, .int .u8 0, .int .u8 0, .int .u8 0, .int .u8 0, .int .u8 0, .int .u8 0, .int .u8 0, .int .u8 0, .int .u8 0, .int .u8 0, .int .u8 0, .int .u8 0, .int .u8 0, .int .u8 0, .int .u8 0, .int .u8 0, .int .u8 0, .int .u8 0, .int .u8 0, .int .u8 0] 26)).setRow W15.heap.size (frA x)).cell? ⟨w.heap.size, 0, none⟩ = some (.int .i64 f.lo) := (unhide F21).lo.trans (by rw [unhide HLO])
    by_cases l0 : f.lo = 0
    · have b0 : (f.lo == 0) = true := beq_t l0
      clear l0
      go_wp2_with (first | (refine wpList_store_row rfl 26 _ _ rfl W15.heap.size (frA x) rfl rfl 26 (frA frZ) (unhide Z20) (sizeFr (unhide HO)) (sizeEq frZ_ok (unhide HO)) (frA_one _) ?_) | (refine wpList_load_rowG rfl 26 _ rfl W15.heap.size rfl 26 (frA x) (0, 0) _ (unhide F23) Try.underlying26 rfl (sizeFr (unhide HO)) ?_) | (refine wpList_load_rowG rfl 26 _ rfl w.heap.size rfl 26 (frA x) (0, 0) _ (unhide F21) Try.underlying26 rfl (sizeFr (unhide HO)) ?_) | (refine wpList_load_row rfl 26 _ rfl w.heap.size rfl 26 (frA x) (0, 0) _ (unhide F21) Try.underlying26 rfl (sizeFr (unhide HO)) ?_))
      go_ret
      exact ⟨rfl, unhide HB24⟩
    have b0 : (f.lo == 0) = false := beq_f l0
    obtain ⟨m, hm⟩ : ∃ m : Nat, f.lo = (m : Int) := ⟨f.lo.toNat, by omega⟩
    have hm0 : 0 < m := by omega
    have hm16 : m ≤ 16 := by omega
    have hu : IntKind.u64.wrap (m : Int) = (m : Int) := by simp [IntKind.wrap, IntKind.bits, IntKind.signed]; omega
    have hpw := pick_wrap slot m hm0 (by omega)
    have hpl := pickN_lt slot m hm0
    have HSB := hide (fun h => backS (unhide HF) (unhide HS) (pickN slot m) h t)
    rw [unhide HX] at HSB
    have HU := hide hu
    have HPW := hide hpw
    rw [hm] at y1 b0
    have HSB2 := hide (unhide HSB (by omega))
    clear HSB hu hpw l0
    obtain ⟨G2, HGE2⟩ : ∃ G, Hid (Fr.mk f.lo f.he ((trimL (nF f) f.sl).set (pickN slot m) t) = G) := ⟨_, hide rfl⟩
    obtain ⟨old, HOLD⟩ : ∃ old, Hid ((trimL (nF f) f.sl).getD (pickN slot m) 0 = old) := ⟨_, hide rfl⟩
    have HG2 := hide (G_ok (unhide HF) (unhide HS) (i := pickN slot m) (h := f.he) ht (by omega) (by omega))
    have holdlt : old < 256 := by
      rw [← unhide HOLD, List.getD_eq_getElem?_getD]
      have hl : pickN slot m < (trimL (nF f) f.sl).length := by rw [trimL_length (unhide HF).len (shape_n (unhide HS))]; omega
      rw [List.getElem?_eq_getElem hl]
      have h := (trim_ok (unhide HF) (unhide HS)).byte
      exact h _ (List.getElem_mem hl)
    rw [unhide HGE2] at HG2 HSB2
    rw [unhide HOLD] at HSB2
    have hu := unhide HU
    have hpw := unhide HPW
    generalize pickN slot m = s at hpw hpl HSB2
    go_wp2_with (first | (refine wpList_store_row rfl 26 _ _ rfl W15.heap.size (frA x) rfl rfl 26 (frA frZ) (unhide Z20) (sizeFr (unhide HO)) (sizeEq frZ_ok (unhide HO)) (frA_one _) ?_) | (refine wpList_load_rowG rfl 26 _ rfl W15.heap.size rfl 26 (frA x) (0, 0) _ (unhide F23) Try.underlying26 rfl (sizeFr (unhide HO)) ?_) | (refine wpList_load_rowG rfl 26 _ rfl w.heap.size rfl 26 (frA x) (0, 0) _ (unhide F21) Try.underlying26 rfl (sizeFr (unhide HO)) ?_) | (refine wpList_load_row rfl 26 _ rfl w.heap.size rfl 26 (frA x) (0, 0) _ (unhide F21) Try.underlying26 rfl (sizeFr (unhide HO)) ?_))
    clear y1
    rw [frZ_eq]
    generalize ((W15.alloc (.cells (frA frZ) 26)).setRow W15.heap.size (frA x)) = W25 at F21 F22 F23 HB24 ⊢
    clear F17 F18 Z20 HB19 hal
    generalize W15.heap.size = g_c at F23 o_f_c o_a_c ⊢
    clear W15
    clear hu hpw HU HPW
    refine (Load_any x (s : Int) _ (unhide HO) (by omega)).mono ?_
    rintro e W26 ⟨rfl, hB27⟩
    have F28 := hide ((unhide F21).below hB27 (unhide F21).lt)
    have F29 := hide ((unhide F22).below hB27 (unhide F22).lt)
    have F30 := hide ((unhide F23).below hB27 (unhide F23).lt)
    have HB31 := hide ((unhide HB24).trans (hB27.mono (unhide HB24).size))
    clear hB27 F21 F22 F23 HB24 W25
    rw [(unhide HSB2).load]
    unfold twoV
    simp only
    go_wp2_with (refine wpList_load_row rfl 26 _ rfl w.heap.size rfl 26 (frA x) (0, 0) _ (unhide F28) Try.underlying26 rfl (sizeFr (unhide HO)) ?_)
    refine (Store_any x (s : Int) t _ (unhide HO) (by omega) ht).mono ?_
    rintro e W32 ⟨rfl, hB33⟩
    have F34 := hide ((unhide F28).below hB33 (unhide F28).lt)
    have F35 := hide ((unhide F29).below hB33 (unhide F29).lt)
    have F36 := hide ((unhide F30).below hB33 (unhide F30).lt)
    have HB37 := hide ((unhide HB31).trans (hB33.mono (unhide HB31).size))
    clear hB33 F28 F29 F30 HB31 W26
    rw [(unhide HSB2).store]
    unfold frTwo
    simp only
    have F38 : Hid (FAt (W32.setRow g_a (frA G2)) w.heap.size x) := hide ((unhide F34).rowOther G2 (by omega))
    have F39 : Hid (FAt (W32.setRow g_a (frA G2)) g_a G2) := hide ((unhide F35).row G2)
    have F40 : Hid (FAt (W32.setRow g_a (frA G2)) g_c x) := hide ((unhide F36).rowOther G2 (by omega))
    have HB41 : Hid (Below w.heap.size w (W32.setRow g_a (frA G2))) := hide (below_setRow' (unhide HB37) (by omega) _)
    go_wp2_with (first | (refine wpList_store_row rfl 26 _ _ rfl g_a (frA G2) rfl rfl 26 (frA G) (unhide F35) (sizeFr (unhide HG2)) (sizeEq (unhide HG) (unhide HG2)) (frA_one _) ?_) | (refine wpList_load_row rfl 26 _ rfl g_a rfl 26 (frA G2) (0, 0) _ (unhide F39) Try.underlying26 rfl (sizeFr (unhide HG2)) ?_))
    generalize (W32.setRow g_a (frA G2)) = W42 at F38 F39 F40 HB41 ⊢
    clear F34 F35 F36 HB37
    clear W32
    refine (Load_any G2 (s : Int) _ (unhide HG2) (by omega)).mono ?_
    rintro e W43 ⟨rfl, hB44⟩
    have F45 := hide ((unhide F38).below hB44 (unhide F38).lt)
    have F46 := hide ((unhide F39).below hB44 (unhide F39).lt)
    have F47 := hide ((unhide F40).below hB44 (unhide F40).lt)
    have HB48 := hide ((unhide HB41).trans (hB44.mono (unhide HB41).size))
    clear hB44 F38 F39 F40 HB41 W42
    rw [(unhide HSB2).again]
    unfold twoV
    simp only
    go_wp2_with (refine wpList_load_row rfl 26 _ rfl g_a rfl 26 (frA G2) (0, 0) _ (unhide F46) Try.underlying26 rfl (sizeFr (unhide HG2)) ?_)
    refine (Store_any G2 (s : Int) old _ (unhide HG2) (by omega) holdlt).mono ?_
    rintro e W49 ⟨rfl, hB50⟩
    have F51 := hide ((unhide F45).below hB50 (unhide F45).lt)
    have F52 := hide ((unhide F46).below hB50 (unhide F46).lt)
    have F53 := hide ((unhide F47).below hB50 (unhide F47).lt)
    have HB54 := hide ((unhide HB48).trans (hB50.mono (unhide HB48).size))
    clear hB50 F45 F46 F47 HB48 W43
    rw [(unhide HSB2).back]
    unfold frTwo
    simp only
    have F55 : Hid (FAt (W49.setRow g_a (frA x)) w.heap.size x) := hide ((unhide F51).rowOther x (by omega))
    have F56 : Hid (FAt (W49.setRow g_a (frA x)) g_a x) := hide ((unhide F52).row x)
    have F57 : Hid (FAt (W49.setRow g_a (frA x)) g_c x) := hide ((unhide F53).rowOther x (by omega))
    have HB58 : Hid (Below w.heap.size w (W49.setRow g_a (frA x))) := hide (below_setRow' (unhide HB54) (by omega) _)
    go_wp2_with (first | (refine wpList_store_row rfl 26 _ _ rfl g_a (frA x) rfl rfl 26 (frA G2) (unhide F52) (sizeFr (unhide HO)) (sizeEq (unhide HG2) (unhide HO)) (frA_one _) ?_) | (refine wpList_load_rowG rfl 26 _ rfl g_a rfl 26 (frA x) (0, 0) _ (unhide F56) Try.underlying26 rfl (sizeFr (unhide HO)) ?_) | (refine wpList_load_rowG rfl 26 _ rfl w.heap.size rfl 26 (frA x) (0, 0) _ (unhide F55) Try.underlying26 rfl (sizeFr (unhide HO)) ?_))
    go_ret
    exact ⟨by simp, unhide HB58⟩
end Go.Proofs.Ytihkodfcgfnjoab
