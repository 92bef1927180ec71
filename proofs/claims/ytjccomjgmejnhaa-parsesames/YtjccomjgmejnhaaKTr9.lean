/-
  provisoplain.SameExpr tells that an expression and its copy are the same. Conditions: lengths fit.
-/
import Derived.Test.YtjccomjgmejnhaaKTr2
import Derived.Deep.RegionHeld
namespace Go.Proofs.Ytjccomjgmejnhaa
open Go.RowKit

set_option maxRecDepth 20000 in
set_option maxHeartbeats 8000000 in
theorem SameExpr_in (n : Nat) (IH : ∀ (x c : Ex) (w : World), (exN n).ok w x → (exN n).ok w c → sameX n x c → Calls Try.prog 23 #[.agg #[.int .i64 c.r.op, .int .i64 c.r.pl, .string c.r.nm, .int .i64 c.r.num, .slice c.r.ka c.ks.length c.r.kc, .int .u8 (c.r.ty : Int), .int .i64 c.r.cl, .int .i64 c.r.rf], .agg #[.int .i64 x.r.op, .int .i64 x.r.pl, .string x.r.nm, .int .i64 x.r.num, .slice x.r.ka x.ks.length x.r.kc, .int .u8 (x.r.ty : Int), .int .i64 x.r.cl, .int .i64 x.r.rf]] w fun e w' => e = .returned (.bool true) ∧ Below w.heap.size w w') (x c : Ex) (w : World) (hx : (exN (n + 1)).ok w x) (hc : (exN (n + 1)).ok w c) (hs : sameX (n + 1) x c) :
    Calls Try.prog 23 #[.agg #[.int .i64 c.r.op, .int .i64 c.r.pl, .string c.r.nm, .int .i64 c.r.num, .slice c.r.ka c.ks.length c.r.kc, .int .u8 (c.r.ty : Int), .int .i64 c.r.cl, .int .i64 c.r.rf], .agg #[.int .i64 x.r.op, .int .i64 x.r.pl, .string x.r.nm, .int .i64 x.r.num, .slice x.r.ka x.ks.length x.r.kc, .int .u8 (x.r.ty : Int), .int .i64 x.r.cl, .int .i64 x.r.rf]] w fun e w' => e = .returned (.bool true) ∧ Below w.heap.size w w' := by
  obtain ⟨e1, e2, e3, e4, e5, e6, e7, hks⟩ := hs
  rw [e1, e2, e3, e4, e5, e6, e7, hks.1]
  have al1 := (Below.refl w.heap.size w).alloc (Nat.le_refl _) (.cells #[.int .i64 x.r.op, .int .i64 x.r.pl, .string x.r.nm, .int .i64 x.r.num, .slice c.r.ka x.ks.length c.r.kc, .int .u8 (x.r.ty : Int), .int .i64 x.r.cl, .int .i64 x.r.rf] 49)
  have al := al1.alloc (by simp) (.cells #[.int .i64 x.r.op, .int .i64 x.r.pl, .string x.r.nm, .int .i64 x.r.num, .slice x.r.ka x.ks.length x.r.kc, .int .u8 (x.r.ty : Int), .int .i64 x.r.cl, .int .i64 x.r.rf] 49)
  have HB := hide al
  have n1 := heap_alloc_new w (.cells #[.int .i64 x.r.op, .int .i64 x.r.pl, .string x.r.nm, .int .i64 x.r.num, .slice c.r.ka x.ks.length c.r.kc, .int .u8 (x.r.ty : Int), .int .i64 x.r.cl, .int .i64 x.r.rf] 49)
  have n2 := heap_alloc_new (w.alloc (.cells #[.int .i64 x.r.op, .int .i64 x.r.pl, .string x.r.nm, .int .i64 x.r.num, .slice c.r.ka x.ks.length c.r.kc, .int .u8 (x.r.ty : Int), .int .i64 x.r.cl, .int .i64 x.r.rf] 49)) (.cells #[.int .i64 x.r.op, .int .i64 x.r.pl, .string x.r.nm, .int .i64 x.r.num, .slice x.r.ka x.ks.length x.r.kc, .int .u8 (x.r.ty : Int), .int .i64 x.r.cl, .int .i64 x.r.rf] 49)
  rw [World.size_alloc] at n2
  have HC1 : Hid (Bx ((w.alloc (.cells #[.int .i64 x.r.op, .int .i64 x.r.pl, .string x.r.nm, .int .i64 x.r.num, .slice c.r.ka x.ks.length c.r.kc, .int .u8 (x.r.ty : Int), .int .i64 x.r.cl, .int .i64 x.r.rf] 49)).alloc (.cells #[.int .i64 x.r.op, .int .i64 x.r.pl, .string x.r.nm, .int .i64 x.r.num, .slice x.r.ka x.ks.length x.r.kc, .int .u8 (x.r.ty : Int), .int .i64 x.r.cl, .int .i64 x.r.rf] 49)) w.heap.size 49 #[.int .i64 x.r.op, .int .i64 x.r.pl, .string x.r.nm, .int .i64 x.r.num, .slice c.r.ka x.ks.length c.r.kc, .int .u8 (x.r.ty : Int), .int .i64 x.r.cl, .int .i64 x.r.rf]) := hide ((((Below.refl _ _).alloc (Nat.le_refl _) _).block w.heap.size (by simp)).trans n1)
  have HC2 : Hid (Bx ((w.alloc (.cells #[.int .i64 x.r.op, .int .i64 x.r.pl, .string x.r.nm, .int .i64 x.r.num, .slice c.r.ka x.ks.length c.r.kc, .int .u8 (x.r.ty : Int), .int .i64 x.r.cl, .int .i64 x.r.rf] 49)).alloc (.cells #[.int .i64 x.r.op, .int .i64 x.r.pl, .string x.r.nm, .int .i64 x.r.num, .slice x.r.ka x.ks.length x.r.kc, .int .u8 (x.r.ty : Int), .int .i64 x.r.cl, .int .i64 x.r.rf] 49)) (w.heap.size + 1) 49 #[.int .i64 x.r.op, .int .i64 x.r.pl, .string x.r.nm, .int .i64 x.r.num, .slice x.r.ka x.ks.length x.r.kc, .int .u8 (x.r.ty : Int), .int .i64 x.r.cl, .int .i64 x.r.rf]) := hide n2
  have HX3 := hide (show RowAt (exN n) _ x.r.ka x.ks from ((exN (n + 1)).below hx al).2)
  have HY3 := hide (show RowAt (exN n) _ c.r.ka c.ks from ((exN (n + 1)).below hc al).2)
  have HKS := hide hks
  have HIH := hide IH
  have hl : x.ks.length < 9223372036854775000 := by have := hx.1.fit; omega
  have b1 : (x.r.op != x.r.op) = false := by simp
  have b2 : (x.r.pl != x.r.pl) = false := by simp
  have b3 : (x.r.nm.toList == x.r.nm.toList) = true := by simp
  have b4 : (x.r.num != x.r.num) = false := by simp
  have b5 : (((x.r.ty : Nat) : Int) != ((x.r.ty : Nat) : Int)) = false := by simp
  have b6 : (x.r.cl != x.r.cl) = false := by simp
  have b7 : (x.r.rf != x.r.rf) = false := by simp
  have b8 : (((x.ks.length : Nat) : Int) != ((x.ks.length : Nat) : Int)) = false := by simp
  clear al1 al n1 n2 hx hc hks e1 e2 e3 e4 e5 e6 e7 IH
  go_enter Try.func23, Try.ntmps23
  go_upto_region 1 with fail
  generalize ((w.alloc (.cells #[.int .i64 x.r.op, .int .i64 x.r.pl, .string x.r.nm, .int .i64 x.r.num, .slice c.r.ka x.ks.length c.r.kc, .int .u8 (x.r.ty : Int), .int .i64 x.r.cl, .int .i64 x.r.rf] 49)).alloc (.cells #[.int .i64 x.r.op, .int .i64 x.r.pl, .string x.r.nm, .int .i64 x.r.num, .slice x.r.ka x.ks.length x.r.kc, .int .u8 (x.r.ty : Int), .int .i64 x.r.cl, .int .i64 x.r.rf] 49)) = W3 at HB HC1 HC2 HX3 HY3 ⊢
  have k0 := (unhide HC1).c 0 rfl
  have m0 := (unhide HC2).c 0 rfl
  have k1 := (unhide HC1).c 1 rfl
  have m1 := (unhide HC2).c 1 rfl
  have k2 := (unhide HC1).c 2 rfl
  have m2 := (unhide HC2).c 2 rfl
  have k3 := (unhide HC1).c 3 rfl
  have m3 := (unhide HC2).c 3 rfl
  have k4 := (unhide HC1).c 4 rfl
  have m4 := (unhide HC2).c 4 rfl
  have k5 := (unhide HC1).c 5 rfl
  have m5 := (unhide HC2).c 5 rfl
  have k6 := (unhide HC1).c 6 rfl
  have m6 := (unhide HC2).c 6 rfl
  have k7 := (unhide HC1).c 7 rfl
  have m7 := (unhide HC2).c 7 rfl
  go_wp2_with fail
  clear k0 k1 k2 k3 k4 k5 k6 k7 m0 m1 m2 m3 m4 m5 m6 m7
  go_loopw [65] (fun i wr => ∃ k : Nat, k ≤ x.ks.length ∧ i = .int .i64 (k : Int) ∧ Hid (Below W3.heap.size W3 wr)) (fun i _ => x.ks.length - (intOf i).toNat)
  case atStart => exact ⟨0, by omega, rfl, hide (Below.refl _ _)⟩
  case round =>
    obtain ⟨k, hk, rfl, HBr⟩ := hrel
    by_cases hlt : k < x.ks.length
    rotate_left
    · have i1 : ¬ ((k : Nat) : Int) < ((x.ks.length : Nat) : Int) := by omega
      go_wp2
      go_ret
      exact ⟨rfl, (unhide HB).trans ((unhide HBr).mono (unhide HB).size)⟩
    have i1 : ((k : Nat) : Int) < ((x.ks.length : Nat) : Int) := by omega
    have hkT : k < c.ks.length := by rw [(unhide HKS).1]; exact hlt
    have i0 : (0 : Int) ≤ ((k : Nat) : Int) := by omega
    have hx := List.getElem?_eq_getElem hlt
    have hy := List.getElem?_eq_getElem hkT
    obtain ⟨b, off, ebx, hra, hxa⟩ := (unhide HX3).below (unhide HBr) k _ hx
    obtain ⟨b', off', eby, hrb, hya⟩ := (unhide HY3).below (unhide HBr) k _ hy
    have hsk := (unhide HKS).2 k _ _ hx hy
    generalize x.ks[k] = y at hxa hx hra hsk
    generalize c.ks[k]'hkT = z at hya hy hrb hsk
    have hra : wr.rangeAt b (off + k * 8) (exC y) := hra
    have hrb : wr.rangeAt b' (off' + k * 8) (exC z) := hrb
    have HEX := hide ebx
    have HEY := hide eby
    have HP1 := hide ((unhide HC1).below (unhide HBr))
    have HP2 := hide ((unhide HC2).below (unhide HBr))
    have HXA := hide hxa
    have HYA := hide hya
    have HSK := hide hsk
    clear hx hy hxa hya ebx eby hsk
    go_upto_region 6 with fail
    have HS0 := hide (show Bx wr.drew w.heap.size 49 #[.int .i64 x.r.op, .int .i64 x.r.pl, .string x.r.nm, .int .i64 x.r.num, .slice c.r.ka x.ks.length c.r.kc, .int .u8 (x.r.ty : Int), .int .i64 x.r.cl, .int .i64 x.r.rf] ∧ Bx wr.drew (w.heap.size + 1) 49 #[.int .i64 x.r.op, .int .i64 x.r.pl, .string x.r.nm, .int .i64 x.r.num, .slice x.r.ka x.ks.length x.r.kc, .int .u8 (x.r.ty : Int), .int .i64 x.r.cl, .int .i64 x.r.rf] ∧ wr.drew.rangeAt b (off + k * 8) (exC y) ∧ wr.drew.rangeAt b' (off' + k * 8) (exC z) from ⟨unhide HP1, unhide HP2, hra, hrb⟩)
    refine wp_region_held_drew (S := fun w' => Bx w' w.heap.size 49 #[.int .i64 x.r.op, .int .i64 x.r.pl, .string x.r.nm, .int .i64 x.r.num, .slice c.r.ka x.ks.length c.r.kc, .int .u8 (x.r.ty : Int), .int .i64 x.r.cl, .int .i64 x.r.rf] ∧ Bx w' (w.heap.size + 1) 49 #[.int .i64 x.r.op, .int .i64 x.r.pl, .string x.r.nm, .int .i64 x.r.num, .slice x.r.ka x.ks.length x.r.kc, .int .u8 (x.r.ty : Int), .int .i64 x.r.cl, .int .i64 x.r.rf] ∧ w'.rangeAt b (off + k * 8) (exC y) ∧ w'.rangeAt b' (off' + k * 8) (exC z)) (by kernel_rfl) (unhide HS0) (fun hS => ?_)
    have hD : Below wr.heap.size wr wr.drew := belowD (Below.refl _ _) 1
    have hdz : wr.heap.size ≤ wr.drew.heap.size := Nat.le_refl _
    have HOK := hide (And.intro ((exN n).below (unhide HXA) hD) ((exN n).below (unhide HYA) hD))
    generalize wr.drew = Wd at hS hD hdz HOK ⊢
    refine wpAnyH_take (i := 0) (v := .pointer (some ⟨w.heap.size, 4, none⟩)) rfl (by kernel_rfl) (by kernel_rfl) (by kernel_rfl) (fun _ _ _ h => h) (Or.inl ⟨by rfl, fun w _ => by go_simp⟩) hS ?_
    refine wpAnyH_take (i := 1) (v := .slice (some ⟨b', off', none⟩) x.ks.length c.r.kc) rfl (by kernel_rfl) (by kernel_rfl) (by kernel_rfl) (fun _ _ _ h => h) (Or.inl ⟨by rfl, fun W h => by have h0 := h.1.c 4 rfl; rw [unhide HEY] at h0; go_simp⟩) hS ?_
    go_simp
    refine wpAnyH_take (i := 2) (v := .int .i64 (k : Int)) rfl (by kernel_rfl) (by kernel_rfl) (by kernel_rfl) (fun _ _ _ h => h) (Or.inl ⟨by rfl, fun w _ => by go_simp⟩) hS ?_
    refine wpAnyH_take (i := 3) (v := .pointer (some ⟨b', off' + k * 8, none⟩)) rfl (by kernel_rfl) (by kernel_rfl) (by kernel_rfl) (fun _ _ _ h => h) (Or.inl ⟨by rfl, fun w _ => by go_simp⟩) hS ?_
    go_simp
    refine wpAnyH_take (i := 4) (v := .agg #[.int .i64 z.r.op, .int .i64 z.r.pl, .string z.r.nm, .int .i64 z.r.num, .slice z.r.ka z.ks.length z.r.kc, .int .u8 (z.r.ty : Int), .int .i64 z.r.cl, .int .i64 z.r.rf]) rfl (by kernel_rfl) (by kernel_rfl) (by kernel_rfl) (fun _ _ _ h => h) (yieldsIf_load_mid (by rfl) 49 _ rfl b' (off' + k * 8) rfl (exC z) _ (fun _ h => h.2.2.2) Try.underlying49 rfl (by kernel_rfl)) hS ?_
    refine wpAnyH_take (i := 5) (v := .pointer (some ⟨w.heap.size + 1, 4, none⟩)) rfl (by kernel_rfl) (by kernel_rfl) (by kernel_rfl) (fun _ _ _ h => h) (Or.inl ⟨by rfl, fun w _ => by go_simp⟩) hS ?_
    refine wpAnyH_take (i := 6) (v := .slice (some ⟨b, off, none⟩) x.ks.length x.r.kc) rfl (by kernel_rfl) (by kernel_rfl) (by kernel_rfl) (fun _ _ _ h => h) (Or.inl ⟨by rfl, fun W h => by have h0 := h.2.1.c 4 rfl; rw [unhide HEX] at h0; go_simp⟩) hS ?_
    go_simp
    refine wpAnyH_take (i := 7) (v := .int .i64 (k : Int)) rfl (by kernel_rfl) (by kernel_rfl) (by kernel_rfl) (fun _ _ _ h => h) (Or.inl ⟨by rfl, fun w _ => by go_simp⟩) hS ?_
    refine wpAnyH_take (i := 8) (v := .pointer (some ⟨b, off + k * 8, none⟩)) rfl (by kernel_rfl) (by kernel_rfl) (by kernel_rfl) (fun _ _ _ h => h) (Or.inl ⟨by rfl, fun w _ => by go_simp⟩) hS ?_
    go_simp
    refine wpAnyH_take (i := 9) (v := .agg #[.int .i64 y.r.op, .int .i64 y.r.pl, .string y.r.nm, .int .i64 y.r.num, .slice y.r.ka y.ks.length y.r.kc, .int .u8 (y.r.ty : Int), .int .i64 y.r.cl, .int .i64 y.r.rf]) rfl (by kernel_rfl) (by kernel_rfl) (by kernel_rfl) (fun _ _ _ h => h) (yieldsIf_load_mid (by rfl) 49 _ rfl b (off + k * 8) rfl (exC y) _ (fun _ h => h.2.2.1) Try.underlying49 rfl (by kernel_rfl)) hS ?_
    refine wpAnyH_ready (rs := [10]) (by kernel_rfl) (by simp) ?_
    refine AllReadyH.cons rfl (fun K hK => ?_) AllReadyH.nil
    go_simp
    go_wp2_with (go_at_call 23; refine (unhide HIH y z Wd (unhide HOK).1 (unhide HOK).2 (unhide HSK)).mono ?_; rintro e W2 ⟨rfl, hb2⟩)
    have hb3 : Below wr.heap.size wr W2 := hD.trans (hb2.mono hdz)
    refine hK.out _ _ (And.intro ((unhide HP1).below hb3) (And.intro ((unhide HP2).below hb3) (And.intro (range_below hra hb3) (range_below hrb hb3)))) (fun hS2 => ?_)
    have HB2 := hide ((unhide HBr).trans (hb3.mono (unhide HBr).size))
    refine wpAnyH_ready (rs := [11]) (by kernel_rfl) (by simp) ?_
    clear hK K
    refine AllReadyH.cons rfl (fun K hK => ?_) AllReadyH.nil
    go_simp
    refine hK.out _ _ hS2 (fun hS3 => ?_)
    clear hK K hS2 hS3 hra hrb hb2 hb3 hD hS
    refine wpAnyH_done (by kernel_rfl) ?_ _
    go_wp2
    go_roundw
    case rel => exact ⟨k + 1, by omega, by go_num, HB2⟩
    case measure => simp [intOf]; omega
theorem SameExpr_yes : ∀ (n : Nat) (x c : Ex) (w : World), (exN n).ok w x → (exN n).ok w c → sameX n x c → Calls Try.prog 23 #[.agg #[.int .i64 c.r.op, .int .i64 c.r.pl, .string c.r.nm, .int .i64 c.r.num, .slice c.r.ka c.ks.length c.r.kc, .int .u8 (c.r.ty : Int), .int .i64 c.r.cl, .int .i64 c.r.rf], .agg #[.int .i64 x.r.op, .int .i64 x.r.pl, .string x.r.nm, .int .i64 x.r.num, .slice x.r.ka x.ks.length x.r.kc, .int .u8 (x.r.ty : Int), .int .i64 x.r.cl, .int .i64 x.r.rf]] w fun e w' => e = .returned (.bool true) ∧ Below w.heap.size w w'
  | 0, _, _, _, h, _, _ => (exN_no h).elim
  | n + 1, x, c, w, h1, h2, h3 => SameExpr_in n (SameExpr_yes n) x c w h1 h2 h3
end Go.Proofs.Ytjccomjgmejnhaa
