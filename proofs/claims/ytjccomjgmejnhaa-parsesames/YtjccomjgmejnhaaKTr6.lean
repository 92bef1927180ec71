/-
  provisoref11.sameExpr, sameExprs, sameParams, sameStmts: whether two trees are the same, by the document. Conditions: lengths fit.
-/
import Derived.Test.YtjccomjgmejnhaaKTr2
import Derived.Deep.RegionHeld
namespace Go.Proofs.Ytjccomjgmejnhaa
open Go.RowKit

set_option maxRecDepth 20000 in
set_option maxHeartbeats 8000000 in
theorem refSameExprs_of (n : Nat) (IH : ∀ (x y : Ex) (w : World), (exN n).ok w x → (exN n).ok w y → Calls Try.prog 26 #[.agg #[.int .i64 x.r.op, .int .i64 x.r.pl, .string x.r.nm, .int .i64 x.r.num, .slice x.r.ka x.ks.length x.r.kc, .int .u8 (x.r.ty : Int), .int .i64 x.r.cl, .int .i64 x.r.rf], .agg #[.int .i64 y.r.op, .int .i64 y.r.pl, .string y.r.nm, .int .i64 y.r.num, .slice y.r.ka y.ks.length y.r.kc, .int .u8 (y.r.ty : Int), .int .i64 y.r.cl, .int .i64 y.r.rf]] w fun e w' => e = .returned (.bool (eqX n x y)) ∧ Below w.heap.size w w') (go ao : Option Addr) (gc cap : Nat) (G T : List Ex) (w : World) (hG : RowAt (exN n) w go G) (hT : RowAt (exN n) w ao T) (hz : G.length < 9223372036854775000) :
    Calls Try.prog 22 #[.slice go G.length gc, .slice ao T.length cap] w fun e w' => e = .returned (.bool (twoB (eqX n) G T)) ∧ Below w.heap.size w w' := by
  by_cases hl : G.length = T.length
  rotate_left
  · have HR : Hid (twoB (eqX n) G T = false) := hide (twoB_len hl)
    have e0 : (((G.length : Nat) : Int) != ((T.length : Nat) : Int)) = true := bne_t (by omega)
    clear hl
    go_enter Try.func22, Try.ntmps22
    go_wp2
    go_ret
    exact ⟨ret_bool (unhide HR).symm, Below.refl _ _⟩
  have e0 : (((G.length : Nat) : Int) != ((T.length : Nat) : Int)) = false := bne_f (by omega)
  have HG := hide hG
  have HT := hide hT
  have HLn := hide hl
  clear hG hT hl
  go_enter Try.func22, Try.ntmps22
  go_wp2
  go_loopw [13] (fun i wr => ∃ k : Nat, k ≤ G.length ∧ i = .int .i64 (k : Int) ∧ Hid (∀ (j : Nat) x y, j < k → G[j]? = some x → T[j]? = some y → (eqX n) x y = true) ∧ Hid (Below w.heap.size w wr)) (fun i _ => G.length - (intOf i).toNat)
  case atStart => exact ⟨0, by omega, rfl, hide (fun j x y h => by omega), hide (Below.refl _ _)⟩
  case round =>
    obtain ⟨k, hk, rfl, HK, HBr⟩ := hrel
    by_cases hlt : k < G.length
    rotate_left
    · have i1 : ¬ ((k : Nat) : Int) < ((G.length : Nat) : Int) := by omega
      have HR : Hid (twoB (eqX n) G T = true) := hide (twoB_yes (unhide HLn) (fun i x y h1 h2 => unhide HK i x y (by have := (List.getElem?_eq_some_iff.1 h1).1; omega) h1 h2))
      go_wp2
      go_ret
      exact ⟨ret_bool (unhide HR).symm, unhide HBr⟩
    have i1 : ((k : Nat) : Int) < ((G.length : Nat) : Int) := by omega
    have hkT : k < T.length := by have := unhide HLn; omega
    have i2 : ((k : Nat) : Int) < ((T.length : Nat) : Int) := by omega
    have i0 : (0 : Int) ≤ ((k : Nat) : Int) := by omega
    have hx := List.getElem?_eq_getElem hlt
    have hy := List.getElem?_eq_getElem hkT
    obtain ⟨b, off, rfl, hra, hxa⟩ := (unhide HG).below (unhide HBr) k _ hx
    obtain ⟨b', off', rfl, hrb, hya⟩ := (unhide HT).below (unhide HBr) k _ hy
    generalize G[k] = x at hxa hx hra
    generalize T[k] = y at hya hy hrb
    have hra : wr.rangeAt b (off + k * 8) (exC x) := hra
    have hrb : wr.rangeAt b' (off' + k * 8) (exC y) := hrb
    have HNO : Hid ((eqX n) x y = false → twoB (eqX n) G T = false) := hide (fun e => twoB_no hx hy e)
    have HK2 : Hid ((eqX n) x y = true → ∀ (j : Nat) a b, j < k + 1 → G[j]? = some a → T[j]? = some b → (eqX n) a b = true) := hide (fun e j a b h1 h2 h3 => by
      by_cases e' : j = k
      · rw [e', hx] at h2
        rw [e', hy] at h3
        injection h2 with h2
        injection h3 with h3
        rw [← h2, ← h3]; exact e
      · exact unhide HK j a b (by omega) h2 h3)
    have HXA := hide hxa
    have HYA := hide hya
    clear hx hy hxa hya HK
    go_upto_region 6 with fail
    refine wp_region_held_drew (S := fun w' => w'.rangeAt b (off + k * 8) (exC x) ∧ w'.rangeAt b' (off' + k * 8) (exC y)) (by kernel_rfl) ⟨hra, hrb⟩ (fun hS => ?_)
    refine wpAnyH_take (i := 0) (v := .slice (some ⟨b, off, none⟩) G.length gc) rfl (by kernel_rfl) (by kernel_rfl) (by kernel_rfl) (fun _ _ _ h => h) (Or.inl ⟨by rfl, fun w _ => by go_simp⟩) hS ?_
    refine wpAnyH_take (i := 1) (v := .int .i64 (k : Int)) rfl (by kernel_rfl) (by kernel_rfl) (by kernel_rfl) (fun _ _ _ h => h) (Or.inl ⟨by rfl, fun w _ => by go_simp⟩) hS ?_
    refine wpAnyH_take (i := 2) (v := .pointer (some ⟨b, off + k * 8, none⟩)) rfl (by kernel_rfl) (by kernel_rfl) (by kernel_rfl) (fun _ _ _ h => h) (Or.inl ⟨by rfl, fun w _ => by go_simp⟩) hS ?_
    refine wpAnyH_take (i := 3) (v := .agg #[.int .i64 x.r.op, .int .i64 x.r.pl, .string x.r.nm, .int .i64 x.r.num, .slice x.r.ka x.ks.length x.r.kc, .int .u8 (x.r.ty : Int), .int .i64 x.r.cl, .int .i64 x.r.rf]) rfl (by kernel_rfl) (by kernel_rfl) (by kernel_rfl) (fun _ _ _ h => h) (yieldsIf_load_mid (by rfl) 49 _ rfl b (off + k * 8) rfl (exC x) _ (fun _ h => h.1) Try.underlying49 rfl (by kernel_rfl)) hS ?_
    refine wpAnyH_take (i := 4) (v := .slice (some ⟨b', off', none⟩) T.length cap) rfl (by kernel_rfl) (by kernel_rfl) (by kernel_rfl) (fun _ _ _ h => h) (Or.inl ⟨by rfl, fun w _ => by go_simp⟩) hS ?_
    refine wpAnyH_take (i := 5) (v := .int .i64 (k : Int)) rfl (by kernel_rfl) (by kernel_rfl) (by kernel_rfl) (fun _ _ _ h => h) (Or.inl ⟨by rfl, fun w _ => by go_simp⟩) hS ?_
    refine wpAnyH_take (i := 6) (v := .pointer (some ⟨b', off' + k * 8, none⟩)) rfl (by kernel_rfl) (by kernel_rfl) (by kernel_rfl) (fun _ _ _ h => h) (Or.inl ⟨by rfl, fun w _ => by go_simp⟩) hS ?_
    refine wpAnyH_take (i := 7) (v := .agg #[.int .i64 y.r.op, .int .i64 y.r.pl, .string y.r.nm, .int .i64 y.r.num, .slice y.r.ka y.ks.length y.r.kc, .int .u8 (y.r.ty : Int), .int .i64 y.r.cl, .int .i64 y.r.rf]) rfl (by kernel_rfl) (by kernel_rfl) (by kernel_rfl) (fun _ _ _ h => h) (yieldsIf_load_mid (by rfl) 49 _ rfl b' (off' + k * 8) rfl (exC y) _ (fun _ h => h.2) Try.underlying49 rfl (by kernel_rfl)) hS ?_
    refine wpAnyH_ready (rs := [8]) (by kernel_rfl) (by simp) ?_
    refine AllReadyH.cons rfl (fun K hK => ?_) AllReadyH.nil
    have hD : Below wr.heap.size wr wr.drew := belowD (Below.refl _ _) 1
    go_simp
    go_wp2_with (go_at_call 26; refine (IH x y wr.drew ((exN n).below (unhide HXA) hD) ((exN n).below (unhide HYA) hD)).mono ?_; rintro e W2 ⟨rfl, hb2⟩)
    have hb3 : Below wr.heap.size wr W2 := hD.trans hb2
    refine hK.out _ _ ⟨range_below hra hb3, range_below hrb hb3⟩ (fun hS2 => ?_)
    clear hK K hS
    have HB2 := hide ((unhide HBr).trans (hb3.mono (unhide HBr).size))
    refine wpAnyH_ready (rs := [9]) (by kernel_rfl) (by simp) ?_
    refine AllReadyH.cons rfl (fun K hK => ?_) AllReadyH.nil
    go_simp
    refine hK.out _ _ hS2 (fun hS3 => ?_)
    clear hK K hS2 hS3 hra hrb hb2 hb3 hD
    refine wpAnyH_done (by kernel_rfl) ?_ _
    cases hd : (eqX n) x y
    · have HE := hide (unhide HNO hd)
      clear hd
      go_wp2
      go_ret
      exact ⟨ret_bool (unhide HE).symm, unhide HB2⟩
    · have HE := hide (unhide HK2 hd)
      clear hd
      go_wp2
      go_roundw
      case rel => exact ⟨k + 1, by omega, by go_num, HE, HB2⟩
      case measure => simp [intOf]; omega

set_option maxRecDepth 20000 in
set_option maxHeartbeats 8000000 in
theorem refSameExpr_in (n : Nat) (IH : ∀ (x y : Ex) (w : World), (exN n).ok w x → (exN n).ok w y → Calls Try.prog 26 #[.agg #[.int .i64 x.r.op, .int .i64 x.r.pl, .string x.r.nm, .int .i64 x.r.num, .slice x.r.ka x.ks.length x.r.kc, .int .u8 (x.r.ty : Int), .int .i64 x.r.cl, .int .i64 x.r.rf], .agg #[.int .i64 y.r.op, .int .i64 y.r.pl, .string y.r.nm, .int .i64 y.r.num, .slice y.r.ka y.ks.length y.r.kc, .int .u8 (y.r.ty : Int), .int .i64 y.r.cl, .int .i64 y.r.rf]] w fun e w' => e = .returned (.bool (eqX n x y)) ∧ Below w.heap.size w w') (x y : Ex) (w : World) (hx : (exN (n + 1)).ok w x) (hy : (exN (n + 1)).ok w y) :
    Calls Try.prog 26 #[.agg #[.int .i64 x.r.op, .int .i64 x.r.pl, .string x.r.nm, .int .i64 x.r.num, .slice x.r.ka x.ks.length x.r.kc, .int .u8 (x.r.ty : Int), .int .i64 x.r.cl, .int .i64 x.r.rf], .agg #[.int .i64 y.r.op, .int .i64 y.r.pl, .string y.r.nm, .int .i64 y.r.num, .slice y.r.ka y.ks.length y.r.kc, .int .u8 (y.r.ty : Int), .int .i64 y.r.cl, .int .i64 y.r.rf]] w fun e w' => e = .returned (.bool (eqX (n + 1) x y)) ∧ Below w.heap.size w w' := by
  have al1 := (Below.refl w.heap.size w).alloc (Nat.le_refl _) (.cells #[.int .i64 x.r.op, .int .i64 x.r.pl, .string x.r.nm, .int .i64 x.r.num, .slice x.r.ka x.ks.length x.r.kc, .int .u8 (x.r.ty : Int), .int .i64 x.r.cl, .int .i64 x.r.rf] 49)
  have al := al1.alloc (by simp) (.cells #[.int .i64 y.r.op, .int .i64 y.r.pl, .string y.r.nm, .int .i64 y.r.num, .slice y.r.ka y.ks.length y.r.kc, .int .u8 (y.r.ty : Int), .int .i64 y.r.cl, .int .i64 y.r.rf] 49)
  have HB := hide al
  have n1 := heap_alloc_new w (.cells #[.int .i64 x.r.op, .int .i64 x.r.pl, .string x.r.nm, .int .i64 x.r.num, .slice x.r.ka x.ks.length x.r.kc, .int .u8 (x.r.ty : Int), .int .i64 x.r.cl, .int .i64 x.r.rf] 49)
  have n2 := heap_alloc_new (w.alloc (.cells #[.int .i64 x.r.op, .int .i64 x.r.pl, .string x.r.nm, .int .i64 x.r.num, .slice x.r.ka x.ks.length x.r.kc, .int .u8 (x.r.ty : Int), .int .i64 x.r.cl, .int .i64 x.r.rf] 49)) (.cells #[.int .i64 y.r.op, .int .i64 y.r.pl, .string y.r.nm, .int .i64 y.r.num, .slice y.r.ka y.ks.length y.r.kc, .int .u8 (y.r.ty : Int), .int .i64 y.r.cl, .int .i64 y.r.rf] 49)
  rw [World.size_alloc] at n2
  have HC1 : Hid (Bx ((w.alloc (.cells #[.int .i64 x.r.op, .int .i64 x.r.pl, .string x.r.nm, .int .i64 x.r.num, .slice x.r.ka x.ks.length x.r.kc, .int .u8 (x.r.ty : Int), .int .i64 x.r.cl, .int .i64 x.r.rf] 49)).alloc (.cells #[.int .i64 y.r.op, .int .i64 y.r.pl, .string y.r.nm, .int .i64 y.r.num, .slice y.r.ka y.ks.length y.r.kc, .int .u8 (y.r.ty : Int), .int .i64 y.r.cl, .int .i64 y.r.rf] 49)) w.heap.size 49 #[.int .i64 x.r.op, .int .i64 x.r.pl, .string x.r.nm, .int .i64 x.r.num, .slice x.r.ka x.ks.length x.r.kc, .int .u8 (x.r.ty : Int), .int .i64 x.r.cl, .int .i64 x.r.rf]) := hide ((((Below.refl _ _).alloc (Nat.le_refl _) _).block w.heap.size (by simp)).trans n1)
  have HC2 : Hid (Bx ((w.alloc (.cells #[.int .i64 x.r.op, .int .i64 x.r.pl, .string x.r.nm, .int .i64 x.r.num, .slice x.r.ka x.ks.length x.r.kc, .int .u8 (x.r.ty : Int), .int .i64 x.r.cl, .int .i64 x.r.rf] 49)).alloc (.cells #[.int .i64 y.r.op, .int .i64 y.r.pl, .string y.r.nm, .int .i64 y.r.num, .slice y.r.ka y.ks.length y.r.kc, .int .u8 (y.r.ty : Int), .int .i64 y.r.cl, .int .i64 y.r.rf] 49)) (w.heap.size + 1) 49 #[.int .i64 y.r.op, .int .i64 y.r.pl, .string y.r.nm, .int .i64 y.r.num, .slice y.r.ka y.ks.length y.r.kc, .int .u8 (y.r.ty : Int), .int .i64 y.r.cl, .int .i64 y.r.rf]) := hide n2
  have HX := hide ((exN (n + 1)).below hx al)
  have HY := hide ((exN (n + 1)).below hy al)
  have HQ : Hid (eqX (n + 1) x y = ((x.r.op == y.r.op) && (x.r.nm.toList == y.r.nm.toList) && (x.r.num == y.r.num) && twoB (eqX n) x.ks y.ks)) := hide (by rfl)
  clear al1 al n1 n2 hx hy
  go_enter Try.func26, Try.ntmps26
  go_upto_region 1 with fail
  generalize ((w.alloc (.cells #[.int .i64 x.r.op, .int .i64 x.r.pl, .string x.r.nm, .int .i64 x.r.num, .slice x.r.ka x.ks.length x.r.kc, .int .u8 (x.r.ty : Int), .int .i64 x.r.cl, .int .i64 x.r.rf] 49)).alloc (.cells #[.int .i64 y.r.op, .int .i64 y.r.pl, .string y.r.nm, .int .i64 y.r.num, .slice y.r.ka y.ks.length y.r.kc, .int .u8 (y.r.ty : Int), .int .i64 y.r.cl, .int .i64 y.r.rf] 49)) = W1 at HB HC1 HC2 HX HY ⊢
  have k0 := (unhide HC1).c 0 rfl
  have m0 := (unhide HC2).c 0 rfl
  have k2 := (unhide HC1).c 2 rfl
  have m2 := (unhide HC2).c 2 rfl
  have k3 := (unhide HC1).c 3 rfl
  have m3 := (unhide HC2).c 3 rfl
  have k4 := (unhide HC1).c 4 rfl
  have m4 := (unhide HC2).c 4 rfl
  by_cases h0 : x.r.op = y.r.op
  rotate_left
  · have b0 : (x.r.op == y.r.op) = false := beq_f h0
    have HR : Hid (eqX (n + 1) x y = false) := hide (by rw [unhide HQ]; simp [h0])
    clear h0
    go_wp2
    go_ret
    exact ⟨ret_bool (unhide HR).symm, unhide HB⟩
  have b0 : (x.r.op == y.r.op) = true := beq_t h0
  have HI0 := hide h0
  clear h0
  cases h1 : (x.r.nm.toList == y.r.nm.toList)
  · have HR : Hid (eqX (n + 1) x y = false) := hide (by rw [unhide HQ]; simp [unhide HI0, h1])
    go_wp2
    go_ret
    exact ⟨ret_bool (unhide HR).symm, unhide HB⟩
  by_cases h2 : x.r.num = y.r.num
  rotate_left
  · have b2 : (x.r.num == y.r.num) = false := beq_f h2
    have HR : Hid (eqX (n + 1) x y = false) := hide (by rw [unhide HQ]; simp [unhide HI0, h1, h2])
    clear h2
    go_wp2
    go_ret
    exact ⟨ret_bool (unhide HR).symm, unhide HB⟩
  have b2 : (x.r.num == y.r.num) = true := beq_t h2
  have HI2 := hide h2
  clear h2
  have HE0 := hide (refSameExprs_of n IH x.r.ka y.r.ka x.r.kc y.r.kc x.ks y.ks W1 (unhide HX).2 (unhide HY).2 (by have := (unhide HX).1.fit; omega))
  go_wp2_with fail
  refine (unhide HE0).mono ?_
  rintro e V0 ⟨rfl, hb0⟩
  have HB1 := hide ((unhide HB).trans (hb0.mono (unhide HB).size))
  have HCa1 := hide ((unhide HC1).below hb0)
  have HCb1 := hide ((unhide HC2).below hb0)
  have HX1 := hide ((exN (n + 1)).below (unhide HX) hb0)
  have HY1 := hide ((exN (n + 1)).below (unhide HY) hb0)
  clear k0 m0 k2 m2 k3 m3 k4 m4 HB HC1 HC2 HX HY HE0 hb0
  have HR : Hid (eqX (n + 1) x y = twoB (eqX n) x.ks y.ks) := hide (by rw [unhide HQ]; simp [unhide HI0, h1, unhide HI2])
  go_wp2
  go_ret
  exact ⟨ret_bool (unhide HR).symm, unhide HB1⟩

theorem refSameExpr_any : ∀ (n : Nat) (x y : Ex) (w : World), (exN n).ok w x → (exN n).ok w y → Calls Try.prog 26 #[.agg #[.int .i64 x.r.op, .int .i64 x.r.pl, .string x.r.nm, .int .i64 x.r.num, .slice x.r.ka x.ks.length x.r.kc, .int .u8 (x.r.ty : Int), .int .i64 x.r.cl, .int .i64 x.r.rf], .agg #[.int .i64 y.r.op, .int .i64 y.r.pl, .string y.r.nm, .int .i64 y.r.num, .slice y.r.ka y.ks.length y.r.kc, .int .u8 (y.r.ty : Int), .int .i64 y.r.cl, .int .i64 y.r.rf]] w fun e w' => e = .returned (.bool (eqX n x y)) ∧ Below w.heap.size w w'
  | 0, _, _, _, h, _ => (exN_no h).elim
  | n + 1, x, y, w, h1, h2 => refSameExpr_in n (refSameExpr_any n) x y w h1 h2

set_option maxRecDepth 20000 in
set_option maxHeartbeats 8000000 in
theorem refSameParams_any (go ao : Option Addr) (gc cap : Nat) (G T : List Pm) (w : World) (hG : RowAt pmN w go G) (hT : RowAt pmN w ao T) (hz : G.length < 9223372036854775000) :
    Calls Try.prog 14 #[.slice go G.length gc, .slice ao T.length cap] w fun e w' => e = .returned (.bool (twoB eqP G T)) ∧ Below w.heap.size w w' := by
  by_cases hl : G.length = T.length
  rotate_left
  · have HR : Hid (twoB eqP G T = false) := hide (twoB_len hl)
    have e0 : (((G.length : Nat) : Int) != ((T.length : Nat) : Int)) = true := bne_t (by omega)
    clear hl
    go_enter Try.func14, Try.ntmps14
    go_wp2
    go_ret
    exact ⟨ret_bool (unhide HR).symm, Below.refl _ _⟩
  have e0 : (((G.length : Nat) : Int) != ((T.length : Nat) : Int)) = false := bne_f (by omega)
  have HG := hide hG
  have HT := hide hT
  have HLn := hide hl
  clear hG hT hl
  go_enter Try.func14, Try.ntmps14
  go_wp2
  go_loopw [13] (fun i wr => ∃ k : Nat, k ≤ G.length ∧ i = .int .i64 (k : Int) ∧ Hid (∀ (j : Nat) x y, j < k → G[j]? = some x → T[j]? = some y → eqP x y = true) ∧ Hid (Below w.heap.size w wr)) (fun i _ => G.length - (intOf i).toNat)
  case atStart => exact ⟨0, by omega, rfl, hide (fun j x y h => by omega), hide (Below.refl _ _)⟩
  case round =>
    obtain ⟨k, hk, rfl, HK, HBr⟩ := hrel
    by_cases hlt : k < G.length
    rotate_left
    · have i1 : ¬ ((k : Nat) : Int) < ((G.length : Nat) : Int) := by omega
      have HR : Hid (twoB eqP G T = true) := hide (twoB_yes (unhide HLn) (fun i x y h1 h2 => unhide HK i x y (by have := (List.getElem?_eq_some_iff.1 h1).1; omega) h1 h2))
      go_wp2
      go_ret
      exact ⟨ret_bool (unhide HR).symm, unhide HBr⟩
    have i1 : ((k : Nat) : Int) < ((G.length : Nat) : Int) := by omega
    have hkT : k < T.length := by have := unhide HLn; omega
    have i2 : ((k : Nat) : Int) < ((T.length : Nat) : Int) := by omega
    have i0 : (0 : Int) ≤ ((k : Nat) : Int) := by omega
    have hx := List.getElem?_eq_getElem hlt
    have hy := List.getElem?_eq_getElem hkT
    obtain ⟨b, off, rfl, hra, hxa⟩ := (unhide HG).below (unhide HBr) k _ hx
    obtain ⟨b', off', rfl, hrb, hya⟩ := (unhide HT).below (unhide HBr) k _ hy
    generalize G[k] = x at hxa hx hra
    generalize T[k] = y at hya hy hrb
    have hra : wr.rangeAt b (off + k * 4) (pmC x) := hra
    have hrb : wr.rangeAt b' (off' + k * 4) (pmC y) := hrb
    have HNO : Hid (eqP x y = false → twoB eqP G T = false) := hide (fun e => twoB_no hx hy e)
    have HK2 : Hid (eqP x y = true → ∀ (j : Nat) a b, j < k + 1 → G[j]? = some a → T[j]? = some b → eqP a b = true) := hide (fun e j a b h1 h2 h3 => by
      by_cases e' : j = k
      · rw [e', hx] at h2
        rw [e', hy] at h3
        injection h2 with h2
        injection h3 with h3
        rw [← h2, ← h3]; exact e
      · exact unhide HK j a b (by omega) h2 h3)
    have HXA := hide hxa
    have HYA := hide hya
    clear hx hy hxa hya HK
    have c1 := hra 1 _ rfl
    have c2 := hra 2 _ rfl
    have d1 := hrb 1 _ rfl
    have d2 := hrb 2 _ rfl
    have HQ : Hid (eqP x y = ((x.nm.toList == y.nm.toList) && (x.of.toList == y.of.toList))) := hide rfl
    clear hra hrb
    cases hn : (x.nm.toList == y.nm.toList)
    · have HE := hide (unhide HNO (by rw [unhide HQ, hn]; rfl))
      go_wp2
      go_quiet (fail)
      go_wp2
      go_ret
      exact ⟨ret_bool (unhide HE).symm, belowD (unhide HBr) _⟩
    cases ho : (x.of.toList == y.of.toList)
    · have HE := hide (unhide HNO (by rw [unhide HQ, hn, ho]; rfl))
      go_wp2
      go_quiet (fail)
      go_wp2
      go_ret
      exact ⟨ret_bool (unhide HE).symm, belowD (unhide HBr) _⟩
    · have HE := hide (unhide HK2 (by rw [unhide HQ, hn, ho]; rfl))
      go_wp2
      go_quiet (fail)
      go_wp2
      go_roundw
      case rel => exact ⟨k + 1, by omega, by go_num, HE, hide (belowD (unhide HBr) _)⟩
      case measure => simp [intOf]; omega

set_option maxRecDepth 20000 in
set_option maxHeartbeats 8000000 in
theorem refSameStmts_in (n : Nat) (IH : ∀ (go ao : Option Addr) (gc cap : Nat) (G T : List Stm) (w : World), RowAt (stN n) w go G → RowAt (stN n) w ao T → G.length < 9223372036854775000 → Calls Try.prog 15 #[.slice go G.length gc, .slice ao T.length cap] w fun e w' => e = .returned (.bool (twoB (eqS n) G T)) ∧ Below w.heap.size w w') (go ao : Option Addr) (gc cap : Nat) (G T : List Stm) (w : World) (hG : RowAt (stN (n + 1)) w go G) (hT : RowAt (stN (n + 1)) w ao T) (hz : G.length < 9223372036854775000) :
    Calls Try.prog 15 #[.slice go G.length gc, .slice ao T.length cap] w fun e w' => e = .returned (.bool (twoB (eqS (n + 1)) G T)) ∧ Below w.heap.size w w' := by
  by_cases hl : G.length = T.length
  rotate_left
  · have HR : Hid (twoB (eqS (n + 1)) G T = false) := hide (twoB_len hl)
    have e0 : (((G.length : Nat) : Int) != ((T.length : Nat) : Int)) = true := bne_t (by omega)
    clear hl
    go_enter Try.func15, Try.ntmps15
    go_wp2
    go_ret
    exact ⟨ret_bool (unhide HR).symm, Below.refl _ _⟩
  have e0 : (((G.length : Nat) : Int) != ((T.length : Nat) : Int)) = false := bne_f (by omega)
  have HG := hide hG
  have HT := hide hT
  have HLn := hide hl
  clear hG hT hl
  go_enter Try.func15, Try.ntmps15
  go_wp2
  go_loopw [15] (fun i wr => ∃ k : Nat, k ≤ G.length ∧ i = .int .i64 (k : Int) ∧ Hid (∀ (j : Nat) x y, j < k → G[j]? = some x → T[j]? = some y → (eqS (n + 1)) x y = true) ∧ Hid (Below w.heap.size w wr)) (fun i _ => G.length - (intOf i).toNat)
  case atStart => exact ⟨0, by omega, rfl, hide (fun j x y h => by omega), hide (Below.refl _ _)⟩
  case round =>
    obtain ⟨k, hk, rfl, HK, HBr⟩ := hrel
    by_cases hlt : k < G.length
    rotate_left
    · have i1 : ¬ ((k : Nat) : Int) < ((G.length : Nat) : Int) := by omega
      have HR : Hid (twoB (eqS (n + 1)) G T = true) := hide (twoB_yes (unhide HLn) (fun i x y h1 h2 => unhide HK i x y (by have := (List.getElem?_eq_some_iff.1 h1).1; omega) h1 h2))
      go_wp2
      go_ret
      exact ⟨ret_bool (unhide HR).symm, unhide HBr⟩
    have i1 : ((k : Nat) : Int) < ((G.length : Nat) : Int) := by omega
    have hkT : k < T.length := by have := unhide HLn; omega
    have i2 : ((k : Nat) : Int) < ((T.length : Nat) : Int) := by omega
    have i0 : (0 : Int) ≤ ((k : Nat) : Int) := by omega
    have hx := List.getElem?_eq_getElem hlt
    have hy := List.getElem?_eq_getElem hkT
    obtain ⟨b, off, rfl, hra, hxa⟩ := (unhide HG).below (unhide HBr) k _ hx
    obtain ⟨b', off', rfl, hrb, hya⟩ := (unhide HT).below (unhide HBr) k _ hy
    generalize G[k] = x at hxa hx hra
    generalize T[k] = y at hya hy hrb
    have hra : wr.rangeAt b (off + k * 10) (stC x) := hra
    have hrb : wr.rangeAt b' (off' + k * 10) (stC y) := hrb
    have HNO : Hid ((eqS (n + 1)) x y = false → twoB (eqS (n + 1)) G T = false) := hide (fun e => twoB_no hx hy e)
    have HK2 : Hid ((eqS (n + 1)) x y = true → ∀ (j : Nat) a b, j < k + 1 → G[j]? = some a → T[j]? = some b → (eqS (n + 1)) a b = true) := hide (fun e j a b h1 h2 h3 => by
      by_cases e' : j = k
      · rw [e', hx] at h2
        rw [e', hy] at h3
        injection h2 with h2
        injection h3 with h3
        rw [← h2, ← h3]; exact e
      · exact unhide HK j a b (by omega) h2 h3)
    have HXA := hide hxa
    have HYA := hide hya
    clear hx hy hxa hya HK
    go_upto_region 6 with fail
    go_cut [6, 7] (fun s1 s2 wx => ∃ g1 g2, s1 = .pointer (some ⟨g1, 0, none⟩) ∧ s2 = .pointer (some ⟨g2, 0, none⟩) ∧ Hid (Bx wx g1 47 #[.int .i64 x.r.op, .int .i64 x.r.pl, .string x.r.nm, .string x.r.of, .int .i64 x.r.num, .slice x.r.ea x.es.length x.r.ec, .slice x.r.ba x.bs.length x.r.bc, .slice x.r.la x.ls.length x.r.lc, .int .u8 (x.r.ty : Int), .int .i64 x.r.rf]) ∧ Hid (Bx wx g2 47 #[.int .i64 y.r.op, .int .i64 y.r.pl, .string y.r.nm, .string y.r.of, .int .i64 y.r.num, .slice y.r.ea y.es.length y.r.ec, .slice y.r.ba y.bs.length y.r.bc, .slice y.r.la y.ls.length y.r.lc, .int .u8 (y.r.ty : Int), .int .i64 y.r.rf]) ∧ Hid (Below wr.heap.size wr wx))
    case first =>
      have HS0 := hide ((show wr.drew.rangeAt b (off + k * 10) (stC x) ∧ wr.drew.rangeAt b' (off' + k * 10) (stC y) from ⟨hra, hrb⟩))
      refine wp_region_held_drew (S := fun w' => w'.rangeAt b (off + k * 10) (stC x) ∧ w'.rangeAt b' (off' + k * 10) (stC y)) (by kernel_rfl) (unhide HS0) (fun hS => ?_)
      have hD : Below wr.heap.size wr wr.drew := belowD (Below.refl _ _) 1
      have hdz : wr.heap.size ≤ wr.drew.heap.size := Nat.le_refl _
      generalize wr.drew = Wd at hS hD hdz ⊢
      refine wpAnyH_take (i := 0) (v := .slice (some ⟨b, off, none⟩) G.length gc) rfl (by kernel_rfl) (by kernel_rfl) (by kernel_rfl) (fun _ _ _ h => h) (Or.inl ⟨by rfl, fun w _ => by go_simp⟩) hS ?_
      refine wpAnyH_take (i := 1) (v := .int .i64 (k : Int)) rfl (by kernel_rfl) (by kernel_rfl) (by kernel_rfl) (fun _ _ _ h => h) (Or.inl ⟨by rfl, fun w _ => by go_simp⟩) hS ?_
      refine wpAnyH_take (i := 2) (v := .pointer (some ⟨b, off + k * 10, none⟩)) rfl (by kernel_rfl) (by kernel_rfl) (by kernel_rfl) (fun _ _ _ h => h) (Or.inl ⟨by rfl, fun w _ => by go_simp⟩) hS ?_
      refine wpAnyH_take (i := 3) (v := .agg #[.int .i64 x.r.op, .int .i64 x.r.pl, .string x.r.nm, .string x.r.of, .int .i64 x.r.num, .slice x.r.ea x.es.length x.r.ec, .slice x.r.ba x.bs.length x.r.bc, .slice x.r.la x.ls.length x.r.lc, .int .u8 (x.r.ty : Int), .int .i64 x.r.rf]) rfl (by kernel_rfl) (by kernel_rfl) (by kernel_rfl) (fun _ _ _ h => h) (yieldsIf_load_mid (by rfl) 47 _ rfl b (off + k * 10) rfl (stC x) _ (fun _ h => h.1) Try.underlying47 rfl (by kernel_rfl)) hS ?_
      refine wpAnyH_take (i := 4) (v := .slice (some ⟨b', off', none⟩) T.length cap) rfl (by kernel_rfl) (by kernel_rfl) (by kernel_rfl) (fun _ _ _ h => h) (Or.inl ⟨by rfl, fun w _ => by go_simp⟩) hS ?_
      refine wpAnyH_take (i := 5) (v := .int .i64 (k : Int)) rfl (by kernel_rfl) (by kernel_rfl) (by kernel_rfl) (fun _ _ _ h => h) (Or.inl ⟨by rfl, fun w _ => by go_simp⟩) hS ?_
      refine wpAnyH_take (i := 6) (v := .pointer (some ⟨b', off' + k * 10, none⟩)) rfl (by kernel_rfl) (by kernel_rfl) (by kernel_rfl) (fun _ _ _ h => h) (Or.inl ⟨by rfl, fun w _ => by go_simp⟩) hS ?_
      refine wpAnyH_take (i := 7) (v := .agg #[.int .i64 y.r.op, .int .i64 y.r.pl, .string y.r.nm, .string y.r.of, .int .i64 y.r.num, .slice y.r.ea y.es.length y.r.ec, .slice y.r.ba y.bs.length y.r.bc, .slice y.r.la y.ls.length y.r.lc, .int .u8 (y.r.ty : Int), .int .i64 y.r.rf]) rfl (by kernel_rfl) (by kernel_rfl) (by kernel_rfl) (fun _ _ _ h => h) (yieldsIf_load_mid (by rfl) 47 _ rfl b' (off' + k * 10) rfl (stC y) _ (fun _ h => h.2) Try.underlying47 rfl (by kernel_rfl)) hS ?_
      have HSB := hide (fun W (hW : Below wr.heap.size wr W) => (And.intro (range_below hra hW) (range_below hrb hW)))
      refine wpAnyH_ready (rs := [8, 9]) (by kernel_rfl) (by simp) ?_
      refine AllReadyH.cons rfl (fun K hK => ?_) (AllReadyH.cons rfl (fun K hK => ?_) AllReadyH.nil)
      · go_simp
        have b1 : Below wr.heap.size wr (Wd.alloc (.cells #[.int .i64 0, .int .i64 0, .string ⟨#[]⟩, .string ⟨#[]⟩, .int .i64 0, .slice none 0 0, .slice none 0 0, .slice none 0 0, .int .u8 0, .int .i64 0] 47)) := hD.alloc hdz _
        refine hK.out _ _ (unhide HSB _ b1) (fun hS2 => ?_)
        clear hK K
        refine wpAnyH_ready (rs := [9]) (by kernel_rfl) (by simp) ?_
        refine AllReadyH.cons rfl (fun K hK => ?_) AllReadyH.nil
        go_simp
        have b2 : Below wr.heap.size wr ((Wd.alloc (.cells #[.int .i64 0, .int .i64 0, .string ⟨#[]⟩, .string ⟨#[]⟩, .int .i64 0, .slice none 0 0, .slice none 0 0, .slice none 0 0, .int .u8 0, .int .i64 0] 47)).alloc (.cells #[.int .i64 0, .int .i64 0, .string ⟨#[]⟩, .string ⟨#[]⟩, .int .i64 0, .slice none 0 0, .slice none 0 0, .slice none 0 0, .int .u8 0, .int .i64 0] 47)) := b1.alloc (by simp; omega) _
        refine hK.out _ _ (unhide HSB _ b2) (fun hS3 => ?_)
        clear hK K
        have z1 : Bx ((Wd.alloc (.cells #[.int .i64 0, .int .i64 0, .string ⟨#[]⟩, .string ⟨#[]⟩, .int .i64 0, .slice none 0 0, .slice none 0 0, .slice none 0 0, .int .u8 0, .int .i64 0] 47)).alloc (.cells #[.int .i64 0, .int .i64 0, .string ⟨#[]⟩, .string ⟨#[]⟩, .int .i64 0, .slice none 0 0, .slice none 0 0, .slice none 0 0, .int .u8 0, .int .i64 0] 47)) Wd.heap.size 47 #[.int .i64 0, .int .i64 0, .string ⟨#[]⟩, .string ⟨#[]⟩, .int .i64 0, .slice none 0 0, .slice none 0 0, .slice none 0 0, .int .u8 0, .int .i64 0] := (((Below.refl _ _).alloc (Nat.le_refl _) _).block Wd.heap.size (by simp)).trans (heap_alloc_new Wd _)
        have z2 : Bx ((Wd.alloc (.cells #[.int .i64 0, .int .i64 0, .string ⟨#[]⟩, .string ⟨#[]⟩, .int .i64 0, .slice none 0 0, .slice none 0 0, .slice none 0 0, .int .u8 0, .int .i64 0] 47)).alloc (.cells #[.int .i64 0, .int .i64 0, .string ⟨#[]⟩, .string ⟨#[]⟩, .int .i64 0, .slice none 0 0, .slice none 0 0, .slice none 0 0, .int .u8 0, .int .i64 0] 47)) (Wd.heap.size + 1) 47 #[.int .i64 0, .int .i64 0, .string ⟨#[]⟩, .string ⟨#[]⟩, .int .i64 0, .slice none 0 0, .slice none 0 0, .slice none 0 0, .int .u8 0, .int .i64 0] := by have := heap_alloc_new (Wd.alloc (.cells #[.int .i64 0, .int .i64 0, .string ⟨#[]⟩, .string ⟨#[]⟩, .int .i64 0, .slice none 0 0, .slice none 0 0, .slice none 0 0, .int .u8 0, .int .i64 0] 47)) (.cells #[.int .i64 0, .int .i64 0, .string ⟨#[]⟩, .string ⟨#[]⟩, .int .i64 0, .slice none 0 0, .slice none 0 0, .slice none 0 0, .int .u8 0, .int .i64 0] 47); rw [World.size_alloc] at this; exact this
        generalize ((Wd.alloc (.cells #[.int .i64 0, .int .i64 0, .string ⟨#[]⟩, .string ⟨#[]⟩, .int .i64 0, .slice none 0 0, .slice none 0 0, .slice none 0 0, .int .u8 0, .int .i64 0] 47)).alloc (.cells #[.int .i64 0, .int .i64 0, .string ⟨#[]⟩, .string ⟨#[]⟩, .int .i64 0, .slice none 0 0, .slice none 0 0, .slice none 0 0, .int .u8 0, .int .i64 0] 47)) = W2 at b2 z1 z2 hS3 ⊢
        generalize hgg : Wd.heap.size = g at z1 z2 ⊢
        have hge : wr.heap.size ≤ g := by omega
        clear hgg
        refine wpAnyH_ready (rs := [10]) (by kernel_rfl) (by simp) ?_
        refine AllReadyH.cons rfl (fun K hK => ?_) AllReadyH.nil
        rw [if_pos (by rfl)]
        refine wp_store_row 47 _ _ rfl g #[.int .i64 x.r.op, .int .i64 x.r.pl, .string x.r.nm, .string x.r.of, .int .i64 x.r.num, .slice x.r.ea x.es.length x.r.ec, .slice x.r.ba x.bs.length x.r.bc, .slice x.r.la x.ls.length x.r.lc, .int .u8 (x.r.ty : Int), .int .i64 x.r.rf] rfl rfl 47 #[.int .i64 0, .int .i64 0, .string ⟨#[]⟩, .string ⟨#[]⟩, .int .i64 0, .slice none 0 0, .slice none 0 0, .slice none 0 0, .int .u8 0, .int .i64 0] z1 (by kernel_rfl) rfl (by simp [Value.oneCell']) ?_
        have b3 : Below wr.heap.size wr (W2.setRow g #[.int .i64 x.r.op, .int .i64 x.r.pl, .string x.r.nm, .string x.r.of, .int .i64 x.r.num, .slice x.r.ea x.es.length x.r.ec, .slice x.r.ba x.bs.length x.r.bc, .slice x.r.la x.ls.length x.r.lc, .int .u8 (x.r.ty : Int), .int .i64 x.r.rf]) := below_setRow' b2 (by omega) _
        refine hK.out _ _ (unhide HSB _ b3) (fun hS4 => ?_)
        clear hK K
        have y1 : Bx (W2.setRow g #[.int .i64 x.r.op, .int .i64 x.r.pl, .string x.r.nm, .string x.r.of, .int .i64 x.r.num, .slice x.r.ea x.es.length x.r.ec, .slice x.r.ba x.bs.length x.r.bc, .slice x.r.la x.ls.length x.r.lc, .int .u8 (x.r.ty : Int), .int .i64 x.r.rf]) g 47 #[.int .i64 x.r.op, .int .i64 x.r.pl, .string x.r.nm, .string x.r.of, .int .i64 x.r.num, .slice x.r.ea x.es.length x.r.ec, .slice x.r.ba x.bs.length x.r.bc, .slice x.r.la x.ls.length x.r.lc, .int .u8 (x.r.ty : Int), .int .i64 x.r.rf] := setRow_heap _ _ _ _ _ _ z1
        have y2 : Bx (W2.setRow g #[.int .i64 x.r.op, .int .i64 x.r.pl, .string x.r.nm, .string x.r.of, .int .i64 x.r.num, .slice x.r.ea x.es.length x.r.ec, .slice x.r.ba x.bs.length x.r.bc, .slice x.r.la x.ls.length x.r.lc, .int .u8 (x.r.ty : Int), .int .i64 x.r.rf]) (g + 1) 47 #[.int .i64 0, .int .i64 0, .string ⟨#[]⟩, .string ⟨#[]⟩, .int .i64 0, .slice none 0 0, .slice none 0 0, .slice none 0 0, .int .u8 0, .int .i64 0] := (setRow_other W2 g (g + 1) _ (by omega)).trans z2
        generalize W2.setRow g #[.int .i64 x.r.op, .int .i64 x.r.pl, .string x.r.nm, .string x.r.of, .int .i64 x.r.num, .slice x.r.ea x.es.length x.r.ec, .slice x.r.ba x.bs.length x.r.bc, .slice x.r.la x.ls.length x.r.lc, .int .u8 (x.r.ty : Int), .int .i64 x.r.rf] = W3 at b3 y1 y2 hS4 ⊢
        refine wpAnyH_ready (rs := [11]) (by kernel_rfl) (by simp) ?_
        refine AllReadyH.cons rfl (fun K hK => ?_) AllReadyH.nil
        rw [if_pos (by rfl)]
        refine wp_store_row 47 _ _ rfl (g + 1) #[.int .i64 y.r.op, .int .i64 y.r.pl, .string y.r.nm, .string y.r.of, .int .i64 y.r.num, .slice y.r.ea y.es.length y.r.ec, .slice y.r.ba y.bs.length y.r.bc, .slice y.r.la y.ls.length y.r.lc, .int .u8 (y.r.ty : Int), .int .i64 y.r.rf] rfl rfl 47 #[.int .i64 0, .int .i64 0, .string ⟨#[]⟩, .string ⟨#[]⟩, .int .i64 0, .slice none 0 0, .slice none 0 0, .slice none 0 0, .int .u8 0, .int .i64 0] y2 (by kernel_rfl) rfl (by simp [Value.oneCell']) ?_
        have b4 : Below wr.heap.size wr (W3.setRow (g + 1) #[.int .i64 y.r.op, .int .i64 y.r.pl, .string y.r.nm, .string y.r.of, .int .i64 y.r.num, .slice y.r.ea y.es.length y.r.ec, .slice y.r.ba y.bs.length y.r.bc, .slice y.r.la y.ls.length y.r.lc, .int .u8 (y.r.ty : Int), .int .i64 y.r.rf]) := below_setRow' b3 (by omega) _
        refine hK.out _ _ (unhide HSB _ b4) (fun hS5 => ?_)
        clear hK K
        refine wpAnyH_done (by kernel_rfl) ?_ _
        go_wp2_with fail
        go_meet
        exact ⟨g, (g + 1), rfl, rfl, hide ((setRow_other W3 (g + 1) g _ (by omega)).trans y1), hide (setRow_heap _ _ _ _ _ _ y2), hide b4⟩
      · go_simp
        have b1 : Below wr.heap.size wr (Wd.alloc (.cells #[.int .i64 0, .int .i64 0, .string ⟨#[]⟩, .string ⟨#[]⟩, .int .i64 0, .slice none 0 0, .slice none 0 0, .slice none 0 0, .int .u8 0, .int .i64 0] 47)) := hD.alloc hdz _
        refine hK.out _ _ (unhide HSB _ b1) (fun hS2 => ?_)
        clear hK K
        refine wpAnyH_ready (rs := [8]) (by kernel_rfl) (by simp) ?_
        refine AllReadyH.cons rfl (fun K hK => ?_) AllReadyH.nil
        go_simp
        have b2 : Below wr.heap.size wr ((Wd.alloc (.cells #[.int .i64 0, .int .i64 0, .string ⟨#[]⟩, .string ⟨#[]⟩, .int .i64 0, .slice none 0 0, .slice none 0 0, .slice none 0 0, .int .u8 0, .int .i64 0] 47)).alloc (.cells #[.int .i64 0, .int .i64 0, .string ⟨#[]⟩, .string ⟨#[]⟩, .int .i64 0, .slice none 0 0, .slice none 0 0, .slice none 0 0, .int .u8 0, .int .i64 0] 47)) := b1.alloc (by simp; omega) _
        refine hK.out _ _ (unhide HSB _ b2) (fun hS3 => ?_)
        clear hK K
        have z1 : Bx ((Wd.alloc (.cells #[.int .i64 0, .int .i64 0, .string ⟨#[]⟩, .string ⟨#[]⟩, .int .i64 0, .slice none 0 0, .slice none 0 0, .slice none 0 0, .int .u8 0, .int .i64 0] 47)).alloc (.cells #[.int .i64 0, .int .i64 0, .string ⟨#[]⟩, .string ⟨#[]⟩, .int .i64 0, .slice none 0 0, .slice none 0 0, .slice none 0 0, .int .u8 0, .int .i64 0] 47)) Wd.heap.size 47 #[.int .i64 0, .int .i64 0, .string ⟨#[]⟩, .string ⟨#[]⟩, .int .i64 0, .slice none 0 0, .slice none 0 0, .slice none 0 0, .int .u8 0, .int .i64 0] := (((Below.refl _ _).alloc (Nat.le_refl _) _).block Wd.heap.size (by simp)).trans (heap_alloc_new Wd _)
        have z2 : Bx ((Wd.alloc (.cells #[.int .i64 0, .int .i64 0, .string ⟨#[]⟩, .string ⟨#[]⟩, .int .i64 0, .slice none 0 0, .slice none 0 0, .slice none 0 0, .int .u8 0, .int .i64 0] 47)).alloc (.cells #[.int .i64 0, .int .i64 0, .string ⟨#[]⟩, .string ⟨#[]⟩, .int .i64 0, .slice none 0 0, .slice none 0 0, .slice none 0 0, .int .u8 0, .int .i64 0] 47)) (Wd.heap.size + 1) 47 #[.int .i64 0, .int .i64 0, .string ⟨#[]⟩, .string ⟨#[]⟩, .int .i64 0, .slice none 0 0, .slice none 0 0, .slice none 0 0, .int .u8 0, .int .i64 0] := by have := heap_alloc_new (Wd.alloc (.cells #[.int .i64 0, .int .i64 0, .string ⟨#[]⟩, .string ⟨#[]⟩, .int .i64 0, .slice none 0 0, .slice none 0 0, .slice none 0 0, .int .u8 0, .int .i64 0] 47)) (.cells #[.int .i64 0, .int .i64 0, .string ⟨#[]⟩, .string ⟨#[]⟩, .int .i64 0, .slice none 0 0, .slice none 0 0, .slice none 0 0, .int .u8 0, .int .i64 0] 47); rw [World.size_alloc] at this; exact this
        generalize ((Wd.alloc (.cells #[.int .i64 0, .int .i64 0, .string ⟨#[]⟩, .string ⟨#[]⟩, .int .i64 0, .slice none 0 0, .slice none 0 0, .slice none 0 0, .int .u8 0, .int .i64 0] 47)).alloc (.cells #[.int .i64 0, .int .i64 0, .string ⟨#[]⟩, .string ⟨#[]⟩, .int .i64 0, .slice none 0 0, .slice none 0 0, .slice none 0 0, .int .u8 0, .int .i64 0] 47)) = W2 at b2 z1 z2 hS3 ⊢
        generalize hgg : Wd.heap.size = g at z1 z2 ⊢
        have hge : wr.heap.size ≤ g := by omega
        clear hgg
        refine wpAnyH_ready (rs := [10]) (by kernel_rfl) (by simp) ?_
        refine AllReadyH.cons rfl (fun K hK => ?_) AllReadyH.nil
        rw [if_pos (by rfl)]
        refine wp_store_row 47 _ _ rfl (g + 1) #[.int .i64 x.r.op, .int .i64 x.r.pl, .string x.r.nm, .string x.r.of, .int .i64 x.r.num, .slice x.r.ea x.es.length x.r.ec, .slice x.r.ba x.bs.length x.r.bc, .slice x.r.la x.ls.length x.r.lc, .int .u8 (x.r.ty : Int), .int .i64 x.r.rf] rfl rfl 47 #[.int .i64 0, .int .i64 0, .string ⟨#[]⟩, .string ⟨#[]⟩, .int .i64 0, .slice none 0 0, .slice none 0 0, .slice none 0 0, .int .u8 0, .int .i64 0] z2 (by kernel_rfl) rfl (by simp [Value.oneCell']) ?_
        have b3 : Below wr.heap.size wr (W2.setRow (g + 1) #[.int .i64 x.r.op, .int .i64 x.r.pl, .string x.r.nm, .string x.r.of, .int .i64 x.r.num, .slice x.r.ea x.es.length x.r.ec, .slice x.r.ba x.bs.length x.r.bc, .slice x.r.la x.ls.length x.r.lc, .int .u8 (x.r.ty : Int), .int .i64 x.r.rf]) := below_setRow' b2 (by omega) _
        refine hK.out _ _ (unhide HSB _ b3) (fun hS4 => ?_)
        clear hK K
        have y1 : Bx (W2.setRow (g + 1) #[.int .i64 x.r.op, .int .i64 x.r.pl, .string x.r.nm, .string x.r.of, .int .i64 x.r.num, .slice x.r.ea x.es.length x.r.ec, .slice x.r.ba x.bs.length x.r.bc, .slice x.r.la x.ls.length x.r.lc, .int .u8 (x.r.ty : Int), .int .i64 x.r.rf]) (g + 1) 47 #[.int .i64 x.r.op, .int .i64 x.r.pl, .string x.r.nm, .string x.r.of, .int .i64 x.r.num, .slice x.r.ea x.es.length x.r.ec, .slice x.r.ba x.bs.length x.r.bc, .slice x.r.la x.ls.length x.r.lc, .int .u8 (x.r.ty : Int), .int .i64 x.r.rf] := setRow_heap _ _ _ _ _ _ z2
        have y2 : Bx (W2.setRow (g + 1) #[.int .i64 x.r.op, .int .i64 x.r.pl, .string x.r.nm, .string x.r.of, .int .i64 x.r.num, .slice x.r.ea x.es.length x.r.ec, .slice x.r.ba x.bs.length x.r.bc, .slice x.r.la x.ls.length x.r.lc, .int .u8 (x.r.ty : Int), .int .i64 x.r.rf]) g 47 #[.int .i64 0, .int .i64 0, .string ⟨#[]⟩, .string ⟨#[]⟩, .int .i64 0, .slice none 0 0, .slice none 0 0, .slice none 0 0, .int .u8 0, .int .i64 0] := (setRow_other W2 (g + 1) g _ (by omega)).trans z1
        generalize W2.setRow (g + 1) #[.int .i64 x.r.op, .int .i64 x.r.pl, .string x.r.nm, .string x.r.of, .int .i64 x.r.num, .slice x.r.ea x.es.length x.r.ec, .slice x.r.ba x.bs.length x.r.bc, .slice x.r.la x.ls.length x.r.lc, .int .u8 (x.r.ty : Int), .int .i64 x.r.rf] = W3 at b3 y1 y2 hS4 ⊢
        refine wpAnyH_ready (rs := [11]) (by kernel_rfl) (by simp) ?_
        refine AllReadyH.cons rfl (fun K hK => ?_) AllReadyH.nil
        rw [if_pos (by rfl)]
        refine wp_store_row 47 _ _ rfl g #[.int .i64 y.r.op, .int .i64 y.r.pl, .string y.r.nm, .string y.r.of, .int .i64 y.r.num, .slice y.r.ea y.es.length y.r.ec, .slice y.r.ba y.bs.length y.r.bc, .slice y.r.la y.ls.length y.r.lc, .int .u8 (y.r.ty : Int), .int .i64 y.r.rf] rfl rfl 47 #[.int .i64 0, .int .i64 0, .string ⟨#[]⟩, .string ⟨#[]⟩, .int .i64 0, .slice none 0 0, .slice none 0 0, .slice none 0 0, .int .u8 0, .int .i64 0] y2 (by kernel_rfl) rfl (by simp [Value.oneCell']) ?_
        have b4 : Below wr.heap.size wr (W3.setRow g #[.int .i64 y.r.op, .int .i64 y.r.pl, .string y.r.nm, .string y.r.of, .int .i64 y.r.num, .slice y.r.ea y.es.length y.r.ec, .slice y.r.ba y.bs.length y.r.bc, .slice y.r.la y.ls.length y.r.lc, .int .u8 (y.r.ty : Int), .int .i64 y.r.rf]) := below_setRow' b3 (by omega) _
        refine hK.out _ _ (unhide HSB _ b4) (fun hS5 => ?_)
        clear hK K
        refine wpAnyH_done (by kernel_rfl) ?_ _
        go_wp2_with fail
        go_meet
        exact ⟨(g + 1), g, rfl, rfl, hide ((setRow_other W3 g (g + 1) _ (by omega)).trans y1), hide (setRow_heap _ _ _ _ _ _ y2), hide b4⟩
    case rest =>
      obtain ⟨g1, g2, rfl, rfl, HG1, HG2, HBx⟩ := hcut
      clear hra hrb
      have HXX := hide ((stN (n + 1)).below (unhide HXA) (unhide HBx))
      have HYY := hide ((stN (n + 1)).below (unhide HYA) (unhide HBx))
      have HQq1 : Hid (eqS (n + 1) x y = ((x.r.op == y.r.op) && (x.r.nm.toList == y.r.nm.toList) && (x.r.of.toList == y.r.of.toList) && (x.r.num == y.r.num) && twoB (eqX n) x.es y.es && twoB (eqS n) x.bs y.bs && twoB (eqS n) x.ls y.ls)) := hide (by rfl)
      have k0q1 := (unhide HG1).c 0 rfl
      have m0q1 := (unhide HG2).c 0 rfl
      have k2q1 := (unhide HG1).c 2 rfl
      have m2q1 := (unhide HG2).c 2 rfl
      have k3q1 := (unhide HG1).c 3 rfl
      have m3q1 := (unhide HG2).c 3 rfl
      have k4q1 := (unhide HG1).c 4 rfl
      have m4q1 := (unhide HG2).c 4 rfl
      have k5q1 := (unhide HG1).c 5 rfl
      have m5q1 := (unhide HG2).c 5 rfl
      by_cases h0q1 : x.r.op = y.r.op
      rotate_left
      · have HF : Hid (eqS (n + 1) x y = false) := hide (by rw [unhide HQq1]; simp [h0q1])
        have b0q1 : (x.r.op != y.r.op) = true := bne_t h0q1
        clear h0q1
        have HE := hide (unhide HNO (unhide HF))
        go_wp2
        go_ret
        exact ⟨ret_bool (unhide HE).symm, (unhide HBr).trans ((unhide HBx).mono (unhide HBr).size)⟩
      have b0q1 : (x.r.op != y.r.op) = false := bne_f h0q1
      have HI0q1 := hide h0q1
      clear h0q1
      cases h1q1 : (x.r.nm.toList == y.r.nm.toList)
      · have HF : Hid (eqS (n + 1) x y = false) := hide (by rw [unhide HQq1]; simp [unhide HI0q1, h1q1])
        have HE := hide (unhide HNO (unhide HF))
        go_wp2
        go_ret
        exact ⟨ret_bool (unhide HE).symm, (unhide HBr).trans ((unhide HBx).mono (unhide HBr).size)⟩
      cases h2q1 : (x.r.of.toList == y.r.of.toList)
      · have HF : Hid (eqS (n + 1) x y = false) := hide (by rw [unhide HQq1]; simp [unhide HI0q1, h1q1, h2q1])
        have HE := hide (unhide HNO (unhide HF))
        go_wp2
        go_ret
        exact ⟨ret_bool (unhide HE).symm, (unhide HBr).trans ((unhide HBx).mono (unhide HBr).size)⟩
      by_cases h3q1 : x.r.num = y.r.num
      rotate_left
      · have HF : Hid (eqS (n + 1) x y = false) := hide (by rw [unhide HQq1]; simp [unhide HI0q1, h1q1, h2q1, h3q1])
        have b3q1 : (x.r.num != y.r.num) = true := bne_t h3q1
        clear h3q1
        have HE := hide (unhide HNO (unhide HF))
        go_wp2
        go_ret
        exact ⟨ret_bool (unhide HE).symm, (unhide HBr).trans ((unhide HBx).mono (unhide HBr).size)⟩
      have b3q1 : (x.r.num != y.r.num) = false := bne_f h3q1
      have HI3q1 := hide h3q1
      clear h3q1
      have HE0q1 := hide (refSameExprs_of n (refSameExpr_any n) x.r.ea y.r.ea x.r.ec y.r.ec x.es y.es wc (unhide HXX).2.1 (unhide HYY).2.1 (by have := (unhide HXX).1.fitE; omega))
      go_wp2_with fail
      refine (unhide HE0q1).mono ?_
      rintro e V0q1 ⟨rfl, hb0q1⟩
      have HBq1q1 := hide ((unhide HBx).trans (hb0q1.mono (unhide HBx).size))
      have HCa1q1 := hide ((unhide HG1).below hb0q1)
      have HCb1q1 := hide ((unhide HG2).below hb0q1)
      have HXq1q1 := hide ((stN (n + 1)).below (unhide HXX) hb0q1)
      have HYq1q1 := hide ((stN (n + 1)).below (unhide HYY) hb0q1)
      clear k0q1 m0q1 k2q1 m2q1 k3q1 m3q1 k4q1 m4q1 k5q1 m5q1 HBx HG1 HG2 HXX HYY HE0q1 hb0q1
      cases hs0q1 : twoB (eqX n) x.es y.es
      · have HF : Hid (eqS (n + 1) x y = false) := hide (by rw [unhide HQq1]; simp [unhide HI0q1, h1q1, h2q1, unhide HI3q1, hs0q1])
        clear hs0q1
        have HE := hide (unhide HNO (unhide HF))
        go_wp2
        go_ret
        exact ⟨ret_bool (unhide HE).symm, (unhide HBr).trans ((unhide HBq1q1).mono (unhide HBr).size)⟩
      have HS0q1 := hide hs0q1
      clear hs0q1
      have k6q1 := (unhide HCa1q1).c 6 rfl
      have m6q1 := (unhide HCb1q1).c 6 rfl
      have HE1q1 := hide (IH x.r.ba y.r.ba x.r.bc y.r.bc x.bs y.bs V0q1 (unhide HXq1q1).2.2.1 (unhide HYq1q1).2.2.1 (by have := (unhide HXq1q1).1.fitB; omega))
      go_wp2_with fail
      refine (unhide HE1q1).mono ?_
      rintro e V1q1 ⟨rfl, hb1q1⟩
      have HBq2q1 := hide ((unhide HBq1q1).trans (hb1q1.mono (unhide HBq1q1).size))
      have HCa2q1 := hide ((unhide HCa1q1).below hb1q1)
      have HCb2q1 := hide ((unhide HCb1q1).below hb1q1)
      have HXq2q1 := hide ((stN (n + 1)).below (unhide HXq1q1) hb1q1)
      have HYq2q1 := hide ((stN (n + 1)).below (unhide HYq1q1) hb1q1)
      clear k6q1 m6q1 HBq1q1 HCa1q1 HCb1q1 HXq1q1 HYq1q1 HE1q1 hb1q1
      cases hs1q1 : twoB (eqS n) x.bs y.bs
      · have HF : Hid (eqS (n + 1) x y = false) := hide (by rw [unhide HQq1]; simp [unhide HI0q1, h1q1, h2q1, unhide HI3q1, unhide HS0q1, hs1q1])
        clear hs1q1
        have HE := hide (unhide HNO (unhide HF))
        go_wp2
        go_ret
        exact ⟨ret_bool (unhide HE).symm, (unhide HBr).trans ((unhide HBq2q1).mono (unhide HBr).size)⟩
      have HS1q1 := hide hs1q1
      clear hs1q1
      have k7q1 := (unhide HCa2q1).c 7 rfl
      have m7q1 := (unhide HCb2q1).c 7 rfl
      have HE2q1 := hide (IH x.r.la y.r.la x.r.lc y.r.lc x.ls y.ls V1q1 (unhide HXq2q1).2.2.2 (unhide HYq2q1).2.2.2 (by have := (unhide HXq2q1).1.fitL; omega))
      go_wp2_with fail
      refine (unhide HE2q1).mono ?_
      rintro e V2q1 ⟨rfl, hb2q1⟩
      have HBq3q1 := hide ((unhide HBq2q1).trans (hb2q1.mono (unhide HBq2q1).size))
      have HCa3q1 := hide ((unhide HCa2q1).below hb2q1)
      have HCb3q1 := hide ((unhide HCb2q1).below hb2q1)
      have HXq3q1 := hide ((stN (n + 1)).below (unhide HXq2q1) hb2q1)
      have HYq3q1 := hide ((stN (n + 1)).below (unhide HYq2q1) hb2q1)
      clear k7q1 m7q1 HBq2q1 HCa2q1 HCb2q1 HXq2q1 HYq2q1 HE2q1 hb2q1
      cases hs2q1 : twoB (eqS n) x.ls y.ls
      · have HF : Hid (eqS (n + 1) x y = false) := hide (by rw [unhide HQq1]; simp [unhide HI0q1, h1q1, h2q1, unhide HI3q1, unhide HS0q1, unhide HS1q1, hs2q1])
        clear hs2q1
        have HE := hide (unhide HNO (unhide HF))
        go_wp2
        go_ret
        exact ⟨ret_bool (unhide HE).symm, (unhide HBr).trans ((unhide HBq3q1).mono (unhide HBr).size)⟩
      have HS2q1 := hide hs2q1
      clear hs2q1
      have HT : Hid (eqS (n + 1) x y = true) := hide (by rw [unhide HQq1]; simp [unhide HI0q1, h1q1, h2q1, unhide HI3q1, unhide HS0q1, unhide HS1q1, unhide HS2q1])
      have HE := hide (unhide HK2 (unhide HT))
      have HBe := hide ((unhide HBr).trans ((unhide HBq3q1).mono (unhide HBr).size))
      go_wp2
      go_roundw
      case rel => exact ⟨k + 1, by omega, by go_num, HE, HBe⟩
      case measure => simp [intOf]; omega
end Go.Proofs.Ytjccomjgmejnhaa
