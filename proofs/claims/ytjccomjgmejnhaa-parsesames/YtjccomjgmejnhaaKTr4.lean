/-
  parse.sameExpr and slices.EqualFunc over it: whether two expressions are the same. Conditions: lengths fit.
-/
import Derived.Test.YtjccomjgmejnhaaKTr2
namespace Go.Proofs.Ytjccomjgmejnhaa
open Go.RowKit

set_option maxRecDepth 20000 in
set_option maxHeartbeats 4000000 in
theorem EqualFuncX_of (n : Nat) (IH : ∀ (x y : Ex) (w : World), (exN n).ok w x → (exN n).ok w y → Calls Try.prog 28 #[.agg #[.int .i64 x.r.op, .int .i64 x.r.pl, .string x.r.nm, .int .i64 x.r.num, .slice x.r.ka x.ks.length x.r.kc, .int .u8 (x.r.ty : Int), .int .i64 x.r.cl, .int .i64 x.r.rf], .agg #[.int .i64 y.r.op, .int .i64 y.r.pl, .string y.r.nm, .int .i64 y.r.num, .slice y.r.ka y.ks.length y.r.kc, .int .u8 (y.r.ty : Int), .int .i64 y.r.cl, .int .i64 y.r.rf]] w fun e w' => e = .returned (.bool (eqX n x y)) ∧ Below w.heap.size w w') (go ao : Option Addr) (gc cap : Nat) (G T : List Ex) (w : World) (hG : RowAt (exN n) w go G) (hT : RowAt (exN n) w ao T) (hz : G.length < 9223372036854775000) :
    Calls Try.prog 27 #[.slice go G.length gc, .slice ao T.length cap, .func (.func 28) #[] #[]] w fun e w' => e = .returned (.bool (twoB (eqX n) G T)) ∧ Below w.heap.size w w' := by
  by_cases hl : G.length = T.length
  rotate_left
  · have HR : Hid (twoB (eqX n) G T = false) := hide (twoB_len hl)
    have e0 : (((G.length : Nat) : Int) != ((T.length : Nat) : Int)) = true := bne_t (by omega)
    clear hl
    go_enter Try.func27, Try.ntmps27
    go_wp2
    go_ret
    exact ⟨ret_bool (unhide HR).symm, Below.refl _ _⟩
  have e0 : (((G.length : Nat) : Int) != ((T.length : Nat) : Int)) = false := bne_f (by omega)
  have HG := hide hG
  have HT := hide hT
  have HLn := hide hl
  clear hG hT hl
  go_enter Try.func27, Try.ntmps27
  go_wp2
  go_loopw [17] (fun i wr => ∃ k : Nat, k ≤ G.length ∧ i = .int .i64 (k : Int) ∧ Hid (∀ (j : Nat) x y, j < k → G[j]? = some x → T[j]? = some y → (eqX n) x y = true) ∧ Hid (Below w.heap.size w wr)) (fun i _ => G.length - (intOf i).toNat)
  case atStart => exact ⟨0, by omega, rfl, hide (fun j x y h => by omega), hide (Below.refl _ _)⟩
  case round =>
    obtain ⟨k, hk, rfl, HK, HBr⟩ := hrel
    by_cases hlt : k < G.length
    · have i1 : ((k : Nat) : Int) < ((G.length : Nat) : Int) := by omega
      have hkT : k < T.length := by have := unhide HLn; omega
      have i2 : ((k : Nat) : Int) < ((T.length : Nat) : Int) := by omega
      have i0 : (0 : Int) ≤ ((k : Nat) : Int) := by omega
      have hx := List.getElem?_eq_getElem hlt
      have hy := List.getElem?_eq_getElem hkT
      obtain ⟨b, off, rfl, hra, hxa⟩ := (unhide HG).below (unhide HBr) k _ hx
      obtain ⟨b', off', rfl, hrb, hya⟩ := (unhide HT).below (unhide HBr) k _ hy
      generalize G[k] = x at hxa hx hra
      generalize T[k] = y at hya hy hrb
      have hra : wr.rangeAt b (off + k * 8) (exC x) := hra
      have hrb : wr.rangeAt b' (off' + k * 8) (exC y) := hrb
      have c0 := hra 0 _ rfl
      have d0 := hrb 0 _ rfl
      have c1 := hra 1 _ rfl
      have d1 := hrb 1 _ rfl
      have c2 := hra 2 _ rfl
      have d2 := hrb 2 _ rfl
      have c3 := hra 3 _ rfl
      have d3 := hrb 3 _ rfl
      have c4 := hra 4 _ rfl
      have d4 := hrb 4 _ rfl
      have c5 := hra 5 _ rfl
      have d5 := hrb 5 _ rfl
      have c6 := hra 6 _ rfl
      have d6 := hrb 6 _ rfl
      have c7 := hra 7 _ rfl
      have d7 := hrb 7 _ rfl
      rw [Nat.add_zero] at c0 d0
      have HNO : Hid ((eqX n) x y = false → twoB (eqX n) G T = false) := hide (fun e => twoB_no hx hy e)
      have HK2 : Hid ((eqX n) x y = true → ∀ (j : Nat) a b, j < k + 1 → G[j]? = some a → T[j]? = some b → (eqX n) a b = true) := hide (fun e j a b h1 h2 h3 => by
        by_cases e' : j = k
        · rw [e', hx] at h2
          rw [e', hy] at h3
          injection h2 with h2
          injection h3 with h3
          rw [← h2, ← h3]; exact e
        · exact unhide HK j a b (by omega) h2 h3)
      have HXA := hide hxa
      have HYA := hide hya
      have l1 := World.block_lt_of_cell? wr _ c0
      have l2 := World.block_lt_of_cell? wr _ d0
      clear hx hy hxa hya HK hra hrb
      go_wp2_with fail
      have hal : Below wr.heap.size wr ((wr.alloc (.cells #[.int .i64 x.r.op, .int .i64 x.r.pl, .string x.r.nm, .int .i64 x.r.num, .slice x.r.ka x.ks.length x.r.kc, .int .u8 (x.r.ty : Int), .int .i64 x.r.cl, .int .i64 x.r.rf] 49)).alloc (.cells #[.int .i64 y.r.op, .int .i64 y.r.pl, .string y.r.nm, .int .i64 y.r.num, .slice y.r.ka y.ks.length y.r.kc, .int .u8 (y.r.ty : Int), .int .i64 y.r.cl, .int .i64 y.r.rf] 49)) := ((Below.refl wr.heap.size wr).alloc (Nat.le_refl _) _).alloc (by simp) _
      refine (IH x y _ ((exN n).below (unhide HXA) hal) ((exN n).below (unhide HYA) hal)).mono ?_
      rintro e w2 ⟨rfl, hb2⟩
      have HB2 := hide ((unhide HBr).trans ((hal.trans (hb2.mono hal.size)).mono (unhide HBr).size))
      clear hb2 hal
      cases hd : (eqX n) x y
      · have HE := hide (unhide HNO hd)
        clear hd
        go_wp2
        go_ret
        exact ⟨ret_bool (unhide HE).symm, unhide HB2⟩
      · have HE := hide (unhide HK2 hd)
        clear hd
        go_wp2
        go_roundw
        case rel => exact ⟨k + 1, by omega, by go_num, HE, HB2⟩
        case measure => simp [intOf]; omega
    · have i1 : ¬ ((k : Nat) : Int) < ((G.length : Nat) : Int) := by omega
      have HR : Hid (twoB (eqX n) G T = true) := hide (twoB_yes (unhide HLn) (fun i x y h1 h2 => unhide HK i x y (by have := (List.getElem?_eq_some_iff.1 h1).1; omega) h1 h2))
      go_wp2
      go_ret
      exact ⟨ret_bool (unhide HR).symm, unhide HBr⟩

set_option maxRecDepth 20000 in
set_option maxHeartbeats 8000000 in
theorem sameExpr_in (n : Nat) (IH : ∀ (x y : Ex) (w : World), (exN n).ok w x → (exN n).ok w y → Calls Try.prog 28 #[.agg #[.int .i64 x.r.op, .int .i64 x.r.pl, .string x.r.nm, .int .i64 x.r.num, .slice x.r.ka x.ks.length x.r.kc, .int .u8 (x.r.ty : Int), .int .i64 x.r.cl, .int .i64 x.r.rf], .agg #[.int .i64 y.r.op, .int .i64 y.r.pl, .string y.r.nm, .int .i64 y.r.num, .slice y.r.ka y.ks.length y.r.kc, .int .u8 (y.r.ty : Int), .int .i64 y.r.cl, .int .i64 y.r.rf]] w fun e w' => e = .returned (.bool (eqX n x y)) ∧ Below w.heap.size w w') (x y : Ex) (w : World) (hx : (exN (n + 1)).ok w x) (hy : (exN (n + 1)).ok w y) :
    Calls Try.prog 28 #[.agg #[.int .i64 x.r.op, .int .i64 x.r.pl, .string x.r.nm, .int .i64 x.r.num, .slice x.r.ka x.ks.length x.r.kc, .int .u8 (x.r.ty : Int), .int .i64 x.r.cl, .int .i64 x.r.rf], .agg #[.int .i64 y.r.op, .int .i64 y.r.pl, .string y.r.nm, .int .i64 y.r.num, .slice y.r.ka y.ks.length y.r.kc, .int .u8 (y.r.ty : Int), .int .i64 y.r.cl, .int .i64 y.r.rf]] w fun e w' => e = .returned (.bool (eqX (n + 1) x y)) ∧ Below w.heap.size w w' := by
  have al1 := (Below.refl w.heap.size w).alloc (Nat.le_refl _) (.cells #[.int .i64 x.r.op, .int .i64 x.r.pl, .string x.r.nm, .int .i64 x.r.num, .slice x.r.ka x.ks.length x.r.kc, .int .u8 (x.r.ty : Int), .int .i64 x.r.cl, .int .i64 x.r.rf] 49)
  have al := al1.alloc (by simp) (.cells #[.int .i64 y.r.op, .int .i64 y.r.pl, .string y.r.nm, .int .i64 y.r.num, .slice y.r.ka y.ks.length y.r.kc, .int .u8 (y.r.ty : Int), .int .i64 y.r.cl, .int .i64 y.r.rf] 49)
  have HB := hide al
  have n1 := heap_alloc_new w (.cells #[.int .i64 x.r.op, .int .i64 x.r.pl, .string x.r.nm, .int .i64 x.r.num, .slice x.r.ka x.ks.length x.r.kc, .int .u8 (x.r.ty : Int), .int .i64 x.r.cl, .int .i64 x.r.rf] 49)
  have n2 := heap_alloc_new (w.alloc (.cells #[.int .i64 x.r.op, .int .i64 x.r.pl, .string x.r.nm, .int .i64 x.r.num, .slice x.r.ka x.ks.length x.r.kc, .int .u8 (x.r.ty : Int), .int .i64 x.r.cl, .int .i64 x.r.rf] 49)) (.cells #[.int .i64 y.r.op, .int .i64 y.r.pl, .string y.r.nm, .int .i64 y.r.num, .slice y.r.ka y.ks.length y.r.kc, .int .u8 (y.r.ty : Int), .int .i64 y.r.cl, .int .i64 y.r.rf] 49)
  rw [World.size_alloc] at n2
  have HC1 : Hid (Bx ((w.alloc (.cells #[.int .i64 x.r.op, .int .i64 x.r.pl, .string x.r.nm, .int .i64 x.r.num, .slice x.r.ka x.ks.length x.r.kc, .int .u8 (x.r.ty : Int), .int .i64 x.r.cl, .int .i64 x.r.rf] 49)).alloc (.cells #[.int .i64 y.r.op, .int .i64 y.r.pl, .string y.r.nm, .int .i64 y.r.num, .slice y.r.ka y.ks.length y.r.kc, .int .u8 (y.r.ty : Int), .int .i64 y.r.cl, .int .i64 y.r.rf] 49)) w.heap.size 49 #[.int .i64 x.r.op, .int .i64 x.r.pl, .string x.r.nm, .int .i64 x.r.num, .slice x.r.ka x.ks.length x.r.kc, .int .u8 (x.r.ty : Int), .int .i64 x.r.cl, .int .i64 x.r.rf]) := hide ((((Below.refl _ _).alloc (Nat.le_refl _) _).block w.heap.size (by simp)).trans n1)
  have HC2 : Hid (Bx ((w.alloc (.cells #[.int .i64 x.r.op, .int .i64 x.r.pl, .string x.r.nm, .int .i64 x.r.num, .slice x.r.ka x.ks.length x.r.kc, .int .u8 (x.r.ty : Int), .int .i64 x.r.cl, .int .i64 x.r.rf] 49)).alloc (.cells #[.int .i64 y.r.op, .int .i64 y.r.pl, .string y.r.nm, .int .i64 y.r.num, .slice y.r.ka y.ks.length y.r.kc, .int .u8 (y.r.ty : Int), .int .i64 y.r.cl, .int .i64 y.r.rf] 49)) (w.heap.size + 1) 49 #[.int .i64 y.r.op, .int .i64 y.r.pl, .string y.r.nm, .int .i64 y.r.num, .slice y.r.ka y.ks.length y.r.kc, .int .u8 (y.r.ty : Int), .int .i64 y.r.cl, .int .i64 y.r.rf]) := hide n2
  have HX := hide ((exN (n + 1)).below hx al)
  have HY := hide ((exN (n + 1)).below hy al)
  have HQ : Hid (eqX (n + 1) x y = ((x.r.op == y.r.op) && (x.r.nm.toList == y.r.nm.toList) && (x.r.num == y.r.num) && twoB (eqX n) x.ks y.ks)) := hide (by rfl)
  clear al1 al n1 n2 hx hy
  go_enter Try.func28, Try.ntmps28
  go_upto_region 1 with fail
  generalize ((w.alloc (.cells #[.int .i64 x.r.op, .int .i64 x.r.pl, .string x.r.nm, .int .i64 x.r.num, .slice x.r.ka x.ks.length x.r.kc, .int .u8 (x.r.ty : Int), .int .i64 x.r.cl, .int .i64 x.r.rf] 49)).alloc (.cells #[.int .i64 y.r.op, .int .i64 y.r.pl, .string y.r.nm, .int .i64 y.r.num, .slice y.r.ka y.ks.length y.r.kc, .int .u8 (y.r.ty : Int), .int .i64 y.r.cl, .int .i64 y.r.rf] 49)) = W1 at HB HC1 HC2 HX HY ⊢
  have k0 := (unhide HC1).c 0 rfl
  have m0 := (unhide HC2).c 0 rfl
  have k2 := (unhide HC1).c 2 rfl
  have m2 := (unhide HC2).c 2 rfl
  have k3 := (unhide HC1).c 3 rfl
  have m3 := (unhide HC2).c 3 rfl
  have k4 := (unhide HC1).c 4 rfl
  have m4 := (unhide HC2).c 4 rfl
  by_cases h0 : x.r.op = y.r.op
  rotate_left
  · have b0 : (x.r.op == y.r.op) = false := beq_f h0
    have HR : Hid (eqX (n + 1) x y = false) := hide (by rw [unhide HQ]; simp [h0])
    clear h0
    go_wp2
    go_ret
    exact ⟨ret_bool (unhide HR).symm, unhide HB⟩
  have b0 : (x.r.op == y.r.op) = true := beq_t h0
  have HI0 := hide h0
  clear h0
  cases h1 : (x.r.nm.toList == y.r.nm.toList)
  · have HR : Hid (eqX (n + 1) x y = false) := hide (by rw [unhide HQ]; simp [unhide HI0, h1])
    go_wp2
    go_ret
    exact ⟨ret_bool (unhide HR).symm, unhide HB⟩
  by_cases h2 : x.r.num = y.r.num
  rotate_left
  · have b2 : (x.r.num == y.r.num) = false := beq_f h2
    have HR : Hid (eqX (n + 1) x y = false) := hide (by rw [unhide HQ]; simp [unhide HI0, h1, h2])
    clear h2
    go_wp2
    go_ret
    exact ⟨ret_bool (unhide HR).symm, unhide HB⟩
  have b2 : (x.r.num == y.r.num) = true := beq_t h2
  have HI2 := hide h2
  clear h2
  have HE0 := hide (EqualFuncX_of n IH x.r.ka y.r.ka x.r.kc y.r.kc x.ks y.ks W1 (unhide HX).2 (unhide HY).2 (by have := (unhide HX).1.fit; omega))
  go_wp2_with fail
  refine (unhide HE0).mono ?_
  rintro e V0 ⟨rfl, hb0⟩
  have HB1 := hide ((unhide HB).trans (hb0.mono (unhide HB).size))
  have HCa1 := hide ((unhide HC1).below hb0)
  have HCb1 := hide ((unhide HC2).below hb0)
  have HX1 := hide ((exN (n + 1)).below (unhide HX) hb0)
  have HY1 := hide ((exN (n + 1)).below (unhide HY) hb0)
  clear k0 m0 k2 m2 k3 m3 k4 m4 HB HC1 HC2 HX HY HE0 hb0
  have HR : Hid (eqX (n + 1) x y = twoB (eqX n) x.ks y.ks) := hide (by rw [unhide HQ]; simp [unhide HI0, h1, unhide HI2])
  go_wp2
  go_ret
  exact ⟨ret_bool (unhide HR).symm, unhide HB1⟩

theorem sameExpr_any : ∀ (n : Nat) (x y : Ex) (w : World), (exN n).ok w x → (exN n).ok w y → Calls Try.prog 28 #[.agg #[.int .i64 x.r.op, .int .i64 x.r.pl, .string x.r.nm, .int .i64 x.r.num, .slice x.r.ka x.ks.length x.r.kc, .int .u8 (x.r.ty : Int), .int .i64 x.r.cl, .int .i64 x.r.rf], .agg #[.int .i64 y.r.op, .int .i64 y.r.pl, .string y.r.nm, .int .i64 y.r.num, .slice y.r.ka y.ks.length y.r.kc, .int .u8 (y.r.ty : Int), .int .i64 y.r.cl, .int .i64 y.r.rf]] w fun e w' => e = .returned (.bool (eqX n x y)) ∧ Below w.heap.size w w'
  | 0, _, _, _, h, _ => (exN_no h).elim
  | n + 1, x, y, w, h1, h2 => sameExpr_in n (sameExpr_any n) x y w h1 h2
end Go.Proofs.Ytjccomjgmejnhaa
