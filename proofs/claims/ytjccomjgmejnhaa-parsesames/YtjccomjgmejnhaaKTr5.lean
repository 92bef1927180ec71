/-
  parse.Same and all that it calls: whether two programs are the same. Conditions: lengths fit.
-/
import Derived.Test.YtjccomjgmejnhaaKTr4
namespace Go.Proofs.Ytjccomjgmejnhaa
open Go.RowKit

set_option maxRecDepth 20000 in
set_option maxHeartbeats 8000000 in
theorem sameParam_any (x y : Pm) (w : World) (hx : pmN.ok w x) (hy : pmN.ok w y) :
    Calls Try.prog 20 #[.agg #[.int .i64 x.pl, .string x.nm, .string x.of, .int .u8 (x.ty : Int)], .agg #[.int .i64 y.pl, .string y.nm, .string y.of, .int .u8 (y.ty : Int)]] w fun e w' => e = .returned (.bool (eqP x y)) ∧ Below w.heap.size w w' := by
  have al1 := (Below.refl w.heap.size w).alloc (Nat.le_refl _) (.cells #[.int .i64 x.pl, .string x.nm, .string x.of, .int .u8 (x.ty : Int)] 34)
  have al := al1.alloc (by simp) (.cells #[.int .i64 y.pl, .string y.nm, .string y.of, .int .u8 (y.ty : Int)] 34)
  have HB := hide al
  have n1 := heap_alloc_new w (.cells #[.int .i64 x.pl, .string x.nm, .string x.of, .int .u8 (x.ty : Int)] 34)
  have n2 := heap_alloc_new (w.alloc (.cells #[.int .i64 x.pl, .string x.nm, .string x.of, .int .u8 (x.ty : Int)] 34)) (.cells #[.int .i64 y.pl, .string y.nm, .string y.of, .int .u8 (y.ty : Int)] 34)
  rw [World.size_alloc] at n2
  have HC1 : Hid (Bx ((w.alloc (.cells #[.int .i64 x.pl, .string x.nm, .string x.of, .int .u8 (x.ty : Int)] 34)).alloc (.cells #[.int .i64 y.pl, .string y.nm, .string y.of, .int .u8 (y.ty : Int)] 34)) w.heap.size 34 #[.int .i64 x.pl, .string x.nm, .string x.of, .int .u8 (x.ty : Int)]) := hide ((((Below.refl _ _).alloc (Nat.le_refl _) _).block w.heap.size (by simp)).trans n1)
  have HC2 : Hid (Bx ((w.alloc (.cells #[.int .i64 x.pl, .string x.nm, .string x.of, .int .u8 (x.ty : Int)] 34)).alloc (.cells #[.int .i64 y.pl, .string y.nm, .string y.of, .int .u8 (y.ty : Int)] 34)) (w.heap.size + 1) 34 #[.int .i64 y.pl, .string y.nm, .string y.of, .int .u8 (y.ty : Int)]) := hide n2
  have HX := hide (pmN.below hx al)
  have HY := hide (pmN.below hy al)
  have HQ : Hid (eqP x y = ((x.nm.toList == y.nm.toList) && (x.of.toList == y.of.toList))) := hide (by rfl)
  clear al1 al n1 n2 hx hy
  go_enter Try.func20, Try.ntmps20
  go_upto_region 1 with fail
  generalize ((w.alloc (.cells #[.int .i64 x.pl, .string x.nm, .string x.of, .int .u8 (x.ty : Int)] 34)).alloc (.cells #[.int .i64 y.pl, .string y.nm, .string y.of, .int .u8 (y.ty : Int)] 34)) = W1 at HB HC1 HC2 HX HY ⊢
  have k1 := (unhide HC1).c 1 rfl
  have m1 := (unhide HC2).c 1 rfl
  have k2 := (unhide HC1).c 2 rfl
  have m2 := (unhide HC2).c 2 rfl
  cases h0 : (x.nm.toList == y.nm.toList)
  · have HR : Hid (eqP x y = false) := hide (by rw [unhide HQ]; simp [h0])
    go_wp2
    go_ret
    exact ⟨ret_bool (unhide HR).symm, unhide HB⟩
  cases h1 : (x.of.toList == y.of.toList)
  · have HR : Hid (eqP x y = false) := hide (by rw [unhide HQ]; simp [h0, h1])
    go_wp2
    go_ret
    exact ⟨ret_bool (unhide HR).symm, unhide HB⟩
  have HR : Hid (eqP x y = true) := hide (by rw [unhide HQ]; simp [h0, h1])
  go_wp2
  go_ret
  exact ⟨ret_bool (unhide HR).symm, unhide HB⟩

set_option maxRecDepth 20000 in
set_option maxHeartbeats 4000000 in
theorem EqualFuncP_any (go ao : Option Addr) (gc cap : Nat) (G T : List Pm) (w : World) (hG : RowAt pmN w go G) (hT : RowAt pmN w ao T) (hz : G.length < 9223372036854775000) :
    Calls Try.prog 19 #[.slice go G.length gc, .slice ao T.length cap, .func (.func 20) #[] #[]] w fun e w' => e = .returned (.bool (twoB eqP G T)) ∧ Below w.heap.size w w' := by
  by_cases hl : G.length = T.length
  rotate_left
  · have HR : Hid (twoB eqP G T = false) := hide (twoB_len hl)
    have e0 : (((G.length : Nat) : Int) != ((T.length : Nat) : Int)) = true := bne_t (by omega)
    clear hl
    go_enter Try.func19, Try.ntmps19
    go_wp2
    go_ret
    exact ⟨ret_bool (unhide HR).symm, Below.refl _ _⟩
  have e0 : (((G.length : Nat) : Int) != ((T.length : Nat) : Int)) = false := bne_f (by omega)
  have HG := hide hG
  have HT := hide hT
  have HLn := hide hl
  clear hG hT hl
  go_enter Try.func19, Try.ntmps19
  go_wp2
  go_loopw [17] (fun i wr => ∃ k : Nat, k ≤ G.length ∧ i = .int .i64 (k : Int) ∧ Hid (∀ (j : Nat) x y, j < k → G[j]? = some x → T[j]? = some y → eqP x y = true) ∧ Hid (Below w.heap.size w wr)) (fun i _ => G.length - (intOf i).toNat)
  case atStart => exact ⟨0, by omega, rfl, hide (fun j x y h => by omega), hide (Below.refl _ _)⟩
  case round =>
    obtain ⟨k, hk, rfl, HK, HBr⟩ := hrel
    by_cases hlt : k < G.length
    · have i1 : ((k : Nat) : Int) < ((G.length : Nat) : Int) := by omega
      have hkT : k < T.length := by have := unhide HLn; omega
      have i2 : ((k : Nat) : Int) < ((T.length : Nat) : Int) := by omega
      have i0 : (0 : Int) ≤ ((k : Nat) : Int) := by omega
      have hx := List.getElem?_eq_getElem hlt
      have hy := List.getElem?_eq_getElem hkT
      obtain ⟨b, off, rfl, hra, hxa⟩ := (unhide HG).below (unhide HBr) k _ hx
      obtain ⟨b', off', rfl, hrb, hya⟩ := (unhide HT).below (unhide HBr) k _ hy
      generalize G[k] = x at hxa hx hra
      generalize T[k] = y at hya hy hrb
      have hra : wr.rangeAt b (off + k * 4) (pmC x) := hra
      have hrb : wr.rangeAt b' (off' + k * 4) (pmC y) := hrb
      have c0 := hra 0 _ rfl
      have d0 := hrb 0 _ rfl
      have c1 := hra 1 _ rfl
      have d1 := hrb 1 _ rfl
      have c2 := hra 2 _ rfl
      have d2 := hrb 2 _ rfl
      have c3 := hra 3 _ rfl
      have d3 := hrb 3 _ rfl
      rw [Nat.add_zero] at c0 d0
      have HNO : Hid (eqP x y = false → twoB eqP G T = false) := hide (fun e => twoB_no hx hy e)
      have HK2 : Hid (eqP x y = true → ∀ (j : Nat) a b, j < k + 1 → G[j]? = some a → T[j]? = some b → eqP a b = true) := hide (fun e j a b h1 h2 h3 => by
        by_cases e' : j = k
        · rw [e', hx] at h2
          rw [e', hy] at h3
          injection h2 with h2
          injection h3 with h3
          rw [← h2, ← h3]; exact e
        · exact unhide HK j a b (by omega) h2 h3)
      have HXA := hide hxa
      have HYA := hide hya
      have l1 := World.block_lt_of_cell? wr _ c0
      have l2 := World.block_lt_of_cell? wr _ d0
      clear hx hy hxa hya HK hra hrb
      go_wp2_with fail
      have hal : Below wr.heap.size wr ((wr.alloc (.cells #[.int .i64 x.pl, .string x.nm, .string x.of, .int .u8 (x.ty : Int)] 34)).alloc (.cells #[.int .i64 y.pl, .string y.nm, .string y.of, .int .u8 (y.ty : Int)] 34)) := ((Below.refl wr.heap.size wr).alloc (Nat.le_refl _) _).alloc (by simp) _
      refine (sameParam_any x y _ (pmN.below (unhide HXA) hal) (pmN.below (unhide HYA) hal)).mono ?_
      rintro e w2 ⟨rfl, hb2⟩
      have HB2 := hide ((unhide HBr).trans ((hal.trans (hb2.mono hal.size)).mono (unhide HBr).size))
      clear hb2 hal
      cases hd : eqP x y
      · have HE := hide (unhide HNO hd)
        clear hd
        go_wp2
        go_ret
        exact ⟨ret_bool (unhide HE).symm, unhide HB2⟩
      · have HE := hide (unhide HK2 hd)
        clear hd
        go_wp2
        go_roundw
        case rel => exact ⟨k + 1, by omega, by go_num, HE, HB2⟩
        case measure => simp [intOf]; omega
    · have i1 : ¬ ((k : Nat) : Int) < ((G.length : Nat) : Int) := by omega
      have HR : Hid (twoB eqP G T = true) := hide (twoB_yes (unhide HLn) (fun i x y h1 h2 => unhide HK i x y (by have := (List.getElem?_eq_some_iff.1 h1).1; omega) h1 h2))
      go_wp2
      go_ret
      exact ⟨ret_bool (unhide HR).symm, unhide HBr⟩

set_option maxRecDepth 20000 in
set_option maxHeartbeats 4000000 in
theorem EqualFuncS_of (n : Nat) (IH : ∀ (x y : Stm) (w : World), (stN n).ok w x → (stN n).ok w y → Calls Try.prog 25 #[.agg #[.int .i64 x.r.op, .int .i64 x.r.pl, .string x.r.nm, .string x.r.of, .int .i64 x.r.num, .slice x.r.ea x.es.length x.r.ec, .slice x.r.ba x.bs.length x.r.bc, .slice x.r.la x.ls.length x.r.lc, .int .u8 (x.r.ty : Int), .int .i64 x.r.rf], .agg #[.int .i64 y.r.op, .int .i64 y.r.pl, .string y.r.nm, .string y.r.of, .int .i64 y.r.num, .slice y.r.ea y.es.length y.r.ec, .slice y.r.ba y.bs.length y.r.bc, .slice y.r.la y.ls.length y.r.lc, .int .u8 (y.r.ty : Int), .int .i64 y.r.rf]] w fun e w' => e = .returned (.bool (eqS n x y)) ∧ Below w.heap.size w w') (go ao : Option Addr) (gc cap : Nat) (G T : List Stm) (w : World) (hG : RowAt (stN n) w go G) (hT : RowAt (stN n) w ao T) (hz : G.length < 9223372036854775000) :
    Calls Try.prog 24 #[.slice go G.length gc, .slice ao T.length cap, .func (.func 25) #[] #[]] w fun e w' => e = .returned (.bool (twoB (eqS n) G T)) ∧ Below w.heap.size w w' := by
  by_cases hl : G.length = T.length
  rotate_left
  · have HR : Hid (twoB (eqS n) G T = false) := hide (twoB_len hl)
    have e0 : (((G.length : Nat) : Int) != ((T.length : Nat) : Int)) = true := bne_t (by omega)
    clear hl
    go_enter Try.func24, Try.ntmps24
    go_wp2
    go_ret
    exact ⟨ret_bool (unhide HR).symm, Below.refl _ _⟩
  have e0 : (((G.length : Nat) : Int) != ((T.length : Nat) : Int)) = false := bne_f (by omega)
  have HG := hide hG
  have HT := hide hT
  have HLn := hide hl
  clear hG hT hl
  go_enter Try.func24, Try.ntmps24
  go_wp2
  go_loopw [17] (fun i wr => ∃ k : Nat, k ≤ G.length ∧ i = .int .i64 (k : Int) ∧ Hid (∀ (j : Nat) x y, j < k → G[j]? = some x → T[j]? = some y → (eqS n) x y = true) ∧ Hid (Below w.heap.size w wr)) (fun i _ => G.length - (intOf i).toNat)
  case atStart => exact ⟨0, by omega, rfl, hide (fun j x y h => by omega), hide (Below.refl _ _)⟩
  case round =>
    obtain ⟨k, hk, rfl, HK, HBr⟩ := hrel
    by_cases hlt : k < G.length
    · have i1 : ((k : Nat) : Int) < ((G.length : Nat) : Int) := by omega
      have hkT : k < T.length := by have := unhide HLn; omega
      have i2 : ((k : Nat) : Int) < ((T.length : Nat) : Int) := by omega
      have i0 : (0 : Int) ≤ ((k : Nat) : Int) := by omega
      have hx := List.getElem?_eq_getElem hlt
      have hy := List.getElem?_eq_getElem hkT
      obtain ⟨b, off, rfl, hra, hxa⟩ := (unhide HG).below (unhide HBr) k _ hx
      obtain ⟨b', off', rfl, hrb, hya⟩ := (unhide HT).below (unhide HBr) k _ hy
      generalize G[k] = x at hxa hx hra
      generalize T[k] = y at hya hy hrb
      have hra : wr.rangeAt b (off + k * 10) (stC x) := hra
      have hrb : wr.rangeAt b' (off' + k * 10) (stC y) := hrb
      have c0 := hra 0 _ rfl
      have d0 := hrb 0 _ rfl
      have c1 := hra 1 _ rfl
      have d1 := hrb 1 _ rfl
      have c2 := hra 2 _ rfl
      have d2 := hrb 2 _ rfl
      have c3 := hra 3 _ rfl
      have d3 := hrb 3 _ rfl
      have c4 := hra 4 _ rfl
      have d4 := hrb 4 _ rfl
      have c5 := hra 5 _ rfl
      have d5 := hrb 5 _ rfl
      have c6 := hra 6 _ rfl
      have d6 := hrb 6 _ rfl
      have c7 := hra 7 _ rfl
      have d7 := hrb 7 _ rfl
      have c8 := hra 8 _ rfl
      have d8 := hrb 8 _ rfl
      have c9 := hra 9 _ rfl
      have d9 := hrb 9 _ rfl
      rw [Nat.add_zero] at c0 d0
      have HNO : Hid ((eqS n) x y = false → twoB (eqS n) G T = false) := hide (fun e => twoB_no hx hy e)
      have HK2 : Hid ((eqS n) x y = true → ∀ (j : Nat) a b, j < k + 1 → G[j]? = some a → T[j]? = some b → (eqS n) a b = true) := hide (fun e j a b h1 h2 h3 => by
        by_cases e' : j = k
        · rw [e', hx] at h2
          rw [e', hy] at h3
          injection h2 with h2
          injection h3 with h3
          rw [← h2, ← h3]; exact e
        · exact unhide HK j a b (by omega) h2 h3)
      have HXA := hide hxa
      have HYA := hide hya
      have l1 := World.block_lt_of_cell? wr _ c0
      have l2 := World.block_lt_of_cell? wr _ d0
      clear hx hy hxa hya HK hra hrb
      go_wp2_with fail
      have hal : Below wr.heap.size wr ((wr.alloc (.cells #[.int .i64 x.r.op, .int .i64 x.r.pl, .string x.r.nm, .string x.r.of, .int .i64 x.r.num, .slice x.r.ea x.es.length x.r.ec, .slice x.r.ba x.bs.length x.r.bc, .slice x.r.la x.ls.length x.r.lc, .int .u8 (x.r.ty : Int), .int .i64 x.r.rf] 47)).alloc (.cells #[.int .i64 y.r.op, .int .i64 y.r.pl, .string y.r.nm, .string y.r.of, .int .i64 y.r.num, .slice y.r.ea y.es.length y.r.ec, .slice y.r.ba y.bs.length y.r.bc, .slice y.r.la y.ls.length y.r.lc, .int .u8 (y.r.ty : Int), .int .i64 y.r.rf] 47)) := ((Below.refl wr.heap.size wr).alloc (Nat.le_refl _) _).alloc (by simp) _
      refine (IH x y _ ((stN n).below (unhide HXA) hal) ((stN n).below (unhide HYA) hal)).mono ?_
      rintro e w2 ⟨rfl, hb2⟩
      have HB2 := hide ((unhide HBr).trans ((hal.trans (hb2.mono hal.size)).mono (unhide HBr).size))
      clear hb2 hal
      cases hd : (eqS n) x y
      · have HE := hide (unhide HNO hd)
        clear hd
        go_wp2
        go_ret
        exact ⟨ret_bool (unhide HE).symm, unhide HB2⟩
      · have HE := hide (unhide HK2 hd)
        clear hd
        go_wp2
        go_roundw
        case rel => exact ⟨k + 1, by omega, by go_num, HE, HB2⟩
        case measure => simp [intOf]; omega
    · have i1 : ¬ ((k : Nat) : Int) < ((G.length : Nat) : Int) := by omega
      have HR : Hid (twoB (eqS n) G T = true) := hide (twoB_yes (unhide HLn) (fun i x y h1 h2 => unhide HK i x y (by have := (List.getElem?_eq_some_iff.1 h1).1; omega) h1 h2))
      go_wp2
      go_ret
      exact ⟨ret_bool (unhide HR).symm, unhide HBr⟩

set_option maxHeartbeats 2000000 in
theorem sameStmts_of (n : Nat) (IH : ∀ (x y : Stm) (w : World), (stN n).ok w x → (stN n).ok w y → Calls Try.prog 25 #[.agg #[.int .i64 x.r.op, .int .i64 x.r.pl, .string x.r.nm, .string x.r.of, .int .i64 x.r.num, .slice x.r.ea x.es.length x.r.ec, .slice x.r.ba x.bs.length x.r.bc, .slice x.r.la x.ls.length x.r.lc, .int .u8 (x.r.ty : Int), .int .i64 x.r.rf], .agg #[.int .i64 y.r.op, .int .i64 y.r.pl, .string y.r.nm, .string y.r.of, .int .i64 y.r.num, .slice y.r.ea y.es.length y.r.ec, .slice y.r.ba y.bs.length y.r.bc, .slice y.r.la y.ls.length y.r.lc, .int .u8 (y.r.ty : Int), .int .i64 y.r.rf]] w fun e w' => e = .returned (.bool (eqS n x y)) ∧ Below w.heap.size w w') (go ao : Option Addr) (gc cap : Nat) (G T : List Stm) (w : World) (hG : RowAt (stN n) w go G) (hT : RowAt (stN n) w ao T) (hz : G.length < 9223372036854775000) :
    Calls Try.prog 21 #[.slice go G.length gc, .slice ao T.length cap] w fun e w' => e = .returned (.bool (twoB (eqS n) G T)) ∧ Below w.heap.size w w' := by
  have HE := hide (EqualFuncS_of n IH go ao gc cap G T w hG hT hz)
  clear hG hT hz IH
  go_enter Try.func21, Try.ntmps21
  go_wp2_with fail
  refine (unhide HE).mono ?_
  rintro e W2 ⟨rfl, hb⟩
  have HB := hide hb
  clear hb
  go_wp2
  go_ret
  exact ⟨rfl, unhide HB⟩

set_option maxRecDepth 20000 in
set_option maxHeartbeats 8000000 in
theorem sameStmt_in (n : Nat) (IH : ∀ (x y : Stm) (w : World), (stN n).ok w x → (stN n).ok w y → Calls Try.prog 25 #[.agg #[.int .i64 x.r.op, .int .i64 x.r.pl, .string x.r.nm, .string x.r.of, .int .i64 x.r.num, .slice x.r.ea x.es.length x.r.ec, .slice x.r.ba x.bs.length x.r.bc, .slice x.r.la x.ls.length x.r.lc, .int .u8 (x.r.ty : Int), .int .i64 x.r.rf], .agg #[.int .i64 y.r.op, .int .i64 y.r.pl, .string y.r.nm, .string y.r.of, .int .i64 y.r.num, .slice y.r.ea y.es.length y.r.ec, .slice y.r.ba y.bs.length y.r.bc, .slice y.r.la y.ls.length y.r.lc, .int .u8 (y.r.ty : Int), .int .i64 y.r.rf]] w fun e w' => e = .returned (.bool (eqS n x y)) ∧ Below w.heap.size w w') (x y : Stm) (w : World) (hx : (stN (n + 1)).ok w x) (hy : (stN (n + 1)).ok w y) :
    Calls Try.prog 25 #[.agg #[.int .i64 x.r.op, .int .i64 x.r.pl, .string x.r.nm, .string x.r.of, .int .i64 x.r.num, .slice x.r.ea x.es.length x.r.ec, .slice x.r.ba x.bs.length x.r.bc, .slice x.r.la x.ls.length x.r.lc, .int .u8 (x.r.ty : Int), .int .i64 x.r.rf], .agg #[.int .i64 y.r.op, .int .i64 y.r.pl, .string y.r.nm, .string y.r.of, .int .i64 y.r.num, .slice y.r.ea y.es.length y.r.ec, .slice y.r.ba y.bs.length y.r.bc, .slice y.r.la y.ls.length y.r.lc, .int .u8 (y.r.ty : Int), .int .i64 y.r.rf]] w fun e w' => e = .returned (.bool (eqS (n + 1) x y)) ∧ Below w.heap.size w w' := by
  have al1 := (Below.refl w.heap.size w).alloc (Nat.le_refl _) (.cells #[.int .i64 x.r.op, .int .i64 x.r.pl, .string x.r.nm, .string x.r.of, .int .i64 x.r.num, .slice x.r.ea x.es.length x.r.ec, .slice x.r.ba x.bs.length x.r.bc, .slice x.r.la x.ls.length x.r.lc, .int .u8 (x.r.ty : Int), .int .i64 x.r.rf] 47)
  have al := al1.alloc (by simp) (.cells #[.int .i64 y.r.op, .int .i64 y.r.pl, .string y.r.nm, .string y.r.of, .int .i64 y.r.num, .slice y.r.ea y.es.length y.r.ec, .slice y.r.ba y.bs.length y.r.bc, .slice y.r.la y.ls.length y.r.lc, .int .u8 (y.r.ty : Int), .int .i64 y.r.rf] 47)
  have HB := hide al
  have n1 := heap_alloc_new w (.cells #[.int .i64 x.r.op, .int .i64 x.r.pl, .string x.r.nm, .string x.r.of, .int .i64 x.r.num, .slice x.r.ea x.es.length x.r.ec, .slice x.r.ba x.bs.length x.r.bc, .slice x.r.la x.ls.length x.r.lc, .int .u8 (x.r.ty : Int), .int .i64 x.r.rf] 47)
  have n2 := heap_alloc_new (w.alloc (.cells #[.int .i64 x.r.op, .int .i64 x.r.pl, .string x.r.nm, .string x.r.of, .int .i64 x.r.num, .slice x.r.ea x.es.length x.r.ec, .slice x.r.ba x.bs.length x.r.bc, .slice x.r.la x.ls.length x.r.lc, .int .u8 (x.r.ty : Int), .int .i64 x.r.rf] 47)) (.cells #[.int .i64 y.r.op, .int .i64 y.r.pl, .string y.r.nm, .string y.r.of, .int .i64 y.r.num, .slice y.r.ea y.es.length y.r.ec, .slice y.r.ba y.bs.length y.r.bc, .slice y.r.la y.ls.length y.r.lc, .int .u8 (y.r.ty : Int), .int .i64 y.r.rf] 47)
  rw [World.size_alloc] at n2
  have HC1 : Hid (Bx ((w.alloc (.cells #[.int .i64 x.r.op, .int .i64 x.r.pl, .string x.r.nm, .string x.r.of, .int .i64 x.r.num, .slice x.r.ea x.es.length x.r.ec, .slice x.r.ba x.bs.length x.r.bc, .slice x.r.la x.ls.length x.r.lc, .int .u8 (x.r.ty : Int), .int .i64 x.r.rf] 47)).alloc (.cells #[.int .i64 y.r.op, .int .i64 y.r.pl, .string y.r.nm, .string y.r.of, .int .i64 y.r.num, .slice y.r.ea y.es.length y.r.ec, .slice y.r.ba y.bs.length y.r.bc, .slice y.r.la y.ls.length y.r.lc, .int .u8 (y.r.ty : Int), .int .i64 y.r.rf] 47)) w.heap.size 47 #[.int .i64 x.r.op, .int .i64 x.r.pl, .string x.r.nm, .string x.r.of, .int .i64 x.r.num, .slice x.r.ea x.es.length x.r.ec, .slice x.r.ba x.bs.length x.r.bc, .slice x.r.la x.ls.length x.r.lc, .int .u8 (x.r.ty : Int), .int .i64 x.r.rf]) := hide ((((Below.refl _ _).alloc (Nat.le_refl _) _).block w.heap.size (by simp)).trans n1)
  have HC2 : Hid (Bx ((w.alloc (.cells #[.int .i64 x.r.op, .int .i64 x.r.pl, .string x.r.nm, .string x.r.of, .int .i64 x.r.num, .slice x.r.ea x.es.length x.r.ec, .slice x.r.ba x.bs.length x.r.bc, .slice x.r.la x.ls.length x.r.lc, .int .u8 (x.r.ty : Int), .int .i64 x.r.rf] 47)).alloc (.cells #[.int .i64 y.r.op, .int .i64 y.r.pl, .string y.r.nm, .string y.r.of, .int .i64 y.r.num, .slice y.r.ea y.es.length y.r.ec, .slice y.r.ba y.bs.length y.r.bc, .slice y.r.la y.ls.length y.r.lc, .int .u8 (y.r.ty : Int), .int .i64 y.r.rf] 47)) (w.heap.size + 1) 47 #[.int .i64 y.r.op, .int .i64 y.r.pl, .string y.r.nm, .string y.r.of, .int .i64 y.r.num, .slice y.r.ea y.es.length y.r.ec, .slice y.r.ba y.bs.length y.r.bc, .slice y.r.la y.ls.length y.r.lc, .int .u8 (y.r.ty : Int), .int .i64 y.r.rf]) := hide n2
  have HX := hide ((stN (n + 1)).below hx al)
  have HY := hide ((stN (n + 1)).below hy al)
  have HQ : Hid (eqS (n + 1) x y = ((x.r.op == y.r.op) && (x.r.nm.toList == y.r.nm.toList) && (x.r.of.toList == y.r.of.toList) && (x.r.num == y.r.num) && twoB (eqX n) x.es y.es && twoB (eqS n) x.bs y.bs && twoB (eqS n) x.ls y.ls)) := hide (by rfl)
  clear al1 al n1 n2 hx hy
  go_enter Try.func25, Try.ntmps25
  go_upto_region 1 with fail
  generalize ((w.alloc (.cells #[.int .i64 x.r.op, .int .i64 x.r.pl, .string x.r.nm, .string x.r.of, .int .i64 x.r.num, .slice x.r.ea x.es.length x.r.ec, .slice x.r.ba x.bs.length x.r.bc, .slice x.r.la x.ls.length x.r.lc, .int .u8 (x.r.ty : Int), .int .i64 x.r.rf] 47)).alloc (.cells #[.int .i64 y.r.op, .int .i64 y.r.pl, .string y.r.nm, .string y.r.of, .int .i64 y.r.num, .slice y.r.ea y.es.length y.r.ec, .slice y.r.ba y.bs.length y.r.bc, .slice y.r.la y.ls.length y.r.lc, .int .u8 (y.r.ty : Int), .int .i64 y.r.rf] 47)) = W1 at HB HC1 HC2 HX HY ⊢
  have k0 := (unhide HC1).c 0 rfl
  have m0 := (unhide HC2).c 0 rfl
  have k2 := (unhide HC1).c 2 rfl
  have m2 := (unhide HC2).c 2 rfl
  have k3 := (unhide HC1).c 3 rfl
  have m3 := (unhide HC2).c 3 rfl
  have k4 := (unhide HC1).c 4 rfl
  have m4 := (unhide HC2).c 4 rfl
  have k5 := (unhide HC1).c 5 rfl
  have m5 := (unhide HC2).c 5 rfl
  by_cases h0 : x.r.op = y.r.op
  rotate_left
  · have b0 : (x.r.op == y.r.op) = false := beq_f h0
    have HR : Hid (eqS (n + 1) x y = false) := hide (by rw [unhide HQ]; simp [h0])
    clear h0
    go_wp2
    go_ret
    exact ⟨ret_bool (unhide HR).symm, unhide HB⟩
  have b0 : (x.r.op == y.r.op) = true := beq_t h0
  have HI0 := hide h0
  clear h0
  cases h1 : (x.r.nm.toList == y.r.nm.toList)
  · have HR : Hid (eqS (n + 1) x y = false) := hide (by rw [unhide HQ]; simp [unhide HI0, h1])
    go_wp2
    go_ret
    exact ⟨ret_bool (unhide HR).symm, unhide HB⟩
  cases h2 : (x.r.of.toList == y.r.of.toList)
  · have HR : Hid (eqS (n + 1) x y = false) := hide (by rw [unhide HQ]; simp [unhide HI0, h1, h2])
    go_wp2
    go_ret
    exact ⟨ret_bool (unhide HR).symm, unhide HB⟩
  by_cases h3 : x.r.num = y.r.num
  rotate_left
  · have b3 : (x.r.num == y.r.num) = false := beq_f h3
    have HR : Hid (eqS (n + 1) x y = false) := hide (by rw [unhide HQ]; simp [unhide HI0, h1, h2, h3])
    clear h3
    go_wp2
    go_ret
    exact ⟨ret_bool (unhide HR).symm, unhide HB⟩
  have b3 : (x.r.num == y.r.num) = true := beq_t h3
  have HI3 := hide h3
  clear h3
  have HE0 := hide (EqualFuncX_of n (sameExpr_any n) x.r.ea y.r.ea x.r.ec y.r.ec x.es y.es W1 (unhide HX).2.1 (unhide HY).2.1 (by have := (unhide HX).1.fitE; omega))
  go_wp2_with fail
  refine (unhide HE0).mono ?_
  rintro e V0 ⟨rfl, hb0⟩
  have HB1 := hide ((unhide HB).trans (hb0.mono (unhide HB).size))
  have HCa1 := hide ((unhide HC1).below hb0)
  have HCb1 := hide ((unhide HC2).below hb0)
  have HX1 := hide ((stN (n + 1)).below (unhide HX) hb0)
  have HY1 := hide ((stN (n + 1)).below (unhide HY) hb0)
  clear k0 m0 k2 m2 k3 m3 k4 m4 k5 m5 HB HC1 HC2 HX HY HE0 hb0
  cases hs0 : twoB (eqX n) x.es y.es
  · have HR : Hid (eqS (n + 1) x y = false) := hide (by rw [unhide HQ]; simp [unhide HI0, h1, h2, unhide HI3, hs0])
    clear hs0
    go_wp2
    go_ret
    exact ⟨ret_bool (unhide HR).symm, unhide HB1⟩
  have HS0 := hide hs0
  clear hs0
  have k6 := (unhide HCa1).c 6 rfl
  have m6 := (unhide HCb1).c 6 rfl
  have HE1 := hide (sameStmts_of n IH x.r.ba y.r.ba x.r.bc y.r.bc x.bs y.bs V0 (unhide HX1).2.2.1 (unhide HY1).2.2.1 (by have := (unhide HX1).1.fitB; omega))
  go_wp2_with fail
  refine (unhide HE1).mono ?_
  rintro e V1 ⟨rfl, hb1⟩
  have HB2 := hide ((unhide HB1).trans (hb1.mono (unhide HB1).size))
  have HCa2 := hide ((unhide HCa1).below hb1)
  have HCb2 := hide ((unhide HCb1).below hb1)
  have HX2 := hide ((stN (n + 1)).below (unhide HX1) hb1)
  have HY2 := hide ((stN (n + 1)).below (unhide HY1) hb1)
  clear k6 m6 HB1 HCa1 HCb1 HX1 HY1 HE1 hb1
  cases hs1 : twoB (eqS n) x.bs y.bs
  · have HR : Hid (eqS (n + 1) x y = false) := hide (by rw [unhide HQ]; simp [unhide HI0, h1, h2, unhide HI3, unhide HS0, hs1])
    clear hs1
    go_wp2
    go_ret
    exact ⟨ret_bool (unhide HR).symm, unhide HB2⟩
  have HS1 := hide hs1
  clear hs1
  have k7 := (unhide HCa2).c 7 rfl
  have m7 := (unhide HCb2).c 7 rfl
  have HE2 := hide (sameStmts_of n IH x.r.la y.r.la x.r.lc y.r.lc x.ls y.ls V1 (unhide HX2).2.2.2 (unhide HY2).2.2.2 (by have := (unhide HX2).1.fitL; omega))
  go_wp2_with fail
  refine (unhide HE2).mono ?_
  rintro e V2 ⟨rfl, hb2⟩
  have HB3 := hide ((unhide HB2).trans (hb2.mono (unhide HB2).size))
  have HCa3 := hide ((unhide HCa2).below hb2)
  have HCb3 := hide ((unhide HCb2).below hb2)
  have HX3 := hide ((stN (n + 1)).below (unhide HX2) hb2)
  have HY3 := hide ((stN (n + 1)).below (unhide HY2) hb2)
  clear k7 m7 HB2 HCa2 HCb2 HX2 HY2 HE2 hb2
  have HR : Hid (eqS (n + 1) x y = twoB (eqS n) x.ls y.ls) := hide (by rw [unhide HQ]; simp [unhide HI0, h1, h2, unhide HI3, unhide HS0, unhide HS1])
  go_wp2
  go_ret
  exact ⟨ret_bool (unhide HR).symm, unhide HB3⟩

theorem sameStmt_any : ∀ (n : Nat) (x y : Stm) (w : World), (stN n).ok w x → (stN n).ok w y → Calls Try.prog 25 #[.agg #[.int .i64 x.r.op, .int .i64 x.r.pl, .string x.r.nm, .string x.r.of, .int .i64 x.r.num, .slice x.r.ea x.es.length x.r.ec, .slice x.r.ba x.bs.length x.r.bc, .slice x.r.la x.ls.length x.r.lc, .int .u8 (x.r.ty : Int), .int .i64 x.r.rf], .agg #[.int .i64 y.r.op, .int .i64 y.r.pl, .string y.r.nm, .string y.r.of, .int .i64 y.r.num, .slice y.r.ea y.es.length y.r.ec, .slice y.r.ba y.bs.length y.r.bc, .slice y.r.la y.ls.length y.r.lc, .int .u8 (y.r.ty : Int), .int .i64 y.r.rf]] w fun e w' => e = .returned (.bool (eqS n x y)) ∧ Below w.heap.size w w'
  | 0, _, _, _, h, _ => (show False from h).elim
  | n + 1, x, y, w, h1, h2 => sameStmt_in n (sameStmt_any n) x y w h1 h2

set_option maxRecDepth 20000 in
set_option maxHeartbeats 8000000 in
theorem sameRecord_any (x y : Rcd) (w : World) (hx : rcN.ok w x) (hy : rcN.ok w y) :
    Calls Try.prog 11 #[.agg #[.int .i64 x.pl, .string x.nm, .string x.par, .slice x.fa x.fs.length x.fc], .agg #[.int .i64 y.pl, .string y.nm, .string y.par, .slice y.fa y.fs.length y.fc]] w fun e w' => e = .returned (.bool (eqR x y)) ∧ Below w.heap.size w w' := by
  have al1 := (Below.refl w.heap.size w).alloc (Nat.le_refl _) (.cells #[.int .i64 x.pl, .string x.nm, .string x.par, .slice x.fa x.fs.length x.fc] 30)
  have al := al1.alloc (by simp) (.cells #[.int .i64 y.pl, .string y.nm, .string y.par, .slice y.fa y.fs.length y.fc] 30)
  have HB := hide al
  have n1 := heap_alloc_new w (.cells #[.int .i64 x.pl, .string x.nm, .string x.par, .slice x.fa x.fs.length x.fc] 30)
  have n2 := heap_alloc_new (w.alloc (.cells #[.int .i64 x.pl, .string x.nm, .string x.par, .slice x.fa x.fs.length x.fc] 30)) (.cells #[.int .i64 y.pl, .string y.nm, .string y.par, .slice y.fa y.fs.length y.fc] 30)
  rw [World.size_alloc] at n2
  have HC1 : Hid (Bx ((w.alloc (.cells #[.int .i64 x.pl, .string x.nm, .string x.par, .slice x.fa x.fs.length x.fc] 30)).alloc (.cells #[.int .i64 y.pl, .string y.nm, .string y.par, .slice y.fa y.fs.length y.fc] 30)) w.heap.size 30 #[.int .i64 x.pl, .string x.nm, .string x.par, .slice x.fa x.fs.length x.fc]) := hide ((((Below.refl _ _).alloc (Nat.le_refl _) _).block w.heap.size (by simp)).trans n1)
  have HC2 : Hid (Bx ((w.alloc (.cells #[.int .i64 x.pl, .string x.nm, .string x.par, .slice x.fa x.fs.length x.fc] 30)).alloc (.cells #[.int .i64 y.pl, .string y.nm, .string y.par, .slice y.fa y.fs.length y.fc] 30)) (w.heap.size + 1) 30 #[.int .i64 y.pl, .string y.nm, .string y.par, .slice y.fa y.fs.length y.fc]) := hide n2
  have HX := hide (rcN.below hx al)
  have HY := hide (rcN.below hy al)
  have HQ : Hid (eqR x y = ((x.nm.toList == y.nm.toList) && (x.par.toList == y.par.toList) && twoB eqP x.fs y.fs)) := hide (by rfl)
  clear al1 al n1 n2 hx hy
  go_enter Try.func11, Try.ntmps11
  go_upto_region 1 with fail
  generalize ((w.alloc (.cells #[.int .i64 x.pl, .string x.nm, .string x.par, .slice x.fa x.fs.length x.fc] 30)).alloc (.cells #[.int .i64 y.pl, .string y.nm, .string y.par, .slice y.fa y.fs.length y.fc] 30)) = W1 at HB HC1 HC2 HX HY ⊢
  have k1 := (unhide HC1).c 1 rfl
  have m1 := (unhide HC2).c 1 rfl
  have k2 := (unhide HC1).c 2 rfl
  have m2 := (unhide HC2).c 2 rfl
  have k3 := (unhide HC1).c 3 rfl
  have m3 := (unhide HC2).c 3 rfl
  cases h0 : (x.nm.toList == y.nm.toList)
  · have HR : Hid (eqR x y = false) := hide (by rw [unhide HQ]; simp [h0])
    go_wp2
    go_ret
    exact ⟨ret_bool (unhide HR).symm, unhide HB⟩
  cases h1 : (x.par.toList == y.par.toList)
  · have HR : Hid (eqR x y = false) := hide (by rw [unhide HQ]; simp [h0, h1])
    go_wp2
    go_ret
    exact ⟨ret_bool (unhide HR).symm, unhide HB⟩
  have HE0 := hide (EqualFuncP_any x.fa y.fa x.fc y.fc x.fs y.fs W1 (unhide HX).2 (unhide HY).2 (by have := (unhide HX).1.fit; omega))
  go_wp2_with fail
  refine (unhide HE0).mono ?_
  rintro e V0 ⟨rfl, hb0⟩
  have HB1 := hide ((unhide HB).trans (hb0.mono (unhide HB).size))
  have HCa1 := hide ((unhide HC1).below hb0)
  have HCb1 := hide ((unhide HC2).below hb0)
  have HX1 := hide (rcN.below (unhide HX) hb0)
  have HY1 := hide (rcN.below (unhide HY) hb0)
  clear k1 m1 k2 m2 k3 m3 HB HC1 HC2 HX HY HE0 hb0
  have HR : Hid (eqR x y = twoB eqP x.fs y.fs) := hide (by rw [unhide HQ]; simp [h0, h1])
  go_wp2
  go_ret
  exact ⟨ret_bool (unhide HR).symm, unhide HB1⟩

set_option maxRecDepth 20000 in
set_option maxHeartbeats 4000000 in
theorem EqualFuncR_any (go ao : Option Addr) (gc cap : Nat) (G T : List Rcd) (w : World) (hG : RowAt rcN w go G) (hT : RowAt rcN w ao T) (hz : G.length < 9223372036854775000) :
    Calls Try.prog 10 #[.slice go G.length gc, .slice ao T.length cap, .func (.func 11) #[] #[]] w fun e w' => e = .returned (.bool (twoB eqR G T)) ∧ Below w.heap.size w w' := by
  by_cases hl : G.length = T.length
  rotate_left
  · have HR : Hid (twoB eqR G T = false) := hide (twoB_len hl)
    have e0 : (((G.length : Nat) : Int) != ((T.length : Nat) : Int)) = true := bne_t (by omega)
    clear hl
    go_enter Try.func10, Try.ntmps10
    go_wp2
    go_ret
    exact ⟨ret_bool (unhide HR).symm, Below.refl _ _⟩
  have e0 : (((G.length : Nat) : Int) != ((T.length : Nat) : Int)) = false := bne_f (by omega)
  have HG := hide hG
  have HT := hide hT
  have HLn := hide hl
  clear hG hT hl
  go_enter Try.func10, Try.ntmps10
  go_wp2
  go_loopw [17] (fun i wr => ∃ k : Nat, k ≤ G.length ∧ i = .int .i64 (k : Int) ∧ Hid (∀ (j : Nat) x y, j < k → G[j]? = some x → T[j]? = some y → eqR x y = true) ∧ Hid (Below w.heap.size w wr)) (fun i _ => G.length - (intOf i).toNat)
  case atStart => exact ⟨0, by omega, rfl, hide (fun j x y h => by omega), hide (Below.refl _ _)⟩
  case round =>
    obtain ⟨k, hk, rfl, HK, HBr⟩ := hrel
    by_cases hlt : k < G.length
    · have i1 : ((k : Nat) : Int) < ((G.length : Nat) : Int) := by omega
      have hkT : k < T.length := by have := unhide HLn; omega
      have i2 : ((k : Nat) : Int) < ((T.length : Nat) : Int) := by omega
      have i0 : (0 : Int) ≤ ((k : Nat) : Int) := by omega
      have hx := List.getElem?_eq_getElem hlt
      have hy := List.getElem?_eq_getElem hkT
      obtain ⟨b, off, rfl, hra, hxa⟩ := (unhide HG).below (unhide HBr) k _ hx
      obtain ⟨b', off', rfl, hrb, hya⟩ := (unhide HT).below (unhide HBr) k _ hy
      generalize G[k] = x at hxa hx hra
      generalize T[k] = y at hya hy hrb
      have hra : wr.rangeAt b (off + k * 4) (rcC x) := hra
      have hrb : wr.rangeAt b' (off' + k * 4) (rcC y) := hrb
      have c0 := hra 0 _ rfl
      have d0 := hrb 0 _ rfl
      have c1 := hra 1 _ rfl
      have d1 := hrb 1 _ rfl
      have c2 := hra 2 _ rfl
      have d2 := hrb 2 _ rfl
      have c3 := hra 3 _ rfl
      have d3 := hrb 3 _ rfl
      rw [Nat.add_zero] at c0 d0
      have HNO : Hid (eqR x y = false → twoB eqR G T = false) := hide (fun e => twoB_no hx hy e)
      have HK2 : Hid (eqR x y = true → ∀ (j : Nat) a b, j < k + 1 → G[j]? = some a → T[j]? = some b → eqR a b = true) := hide (fun e j a b h1 h2 h3 => by
        by_cases e' : j = k
        · rw [e', hx] at h2
          rw [e', hy] at h3
          injection h2 with h2
          injection h3 with h3
          rw [← h2, ← h3]; exact e
        · exact unhide HK j a b (by omega) h2 h3)
      have HXA := hide hxa
      have HYA := hide hya
      have l1 := World.block_lt_of_cell? wr _ c0
      have l2 := World.block_lt_of_cell? wr _ d0
      clear hx hy hxa hya HK hra hrb
      go_wp2_with fail
      have hal : Below wr.heap.size wr ((wr.alloc (.cells #[.int .i64 x.pl, .string x.nm, .string x.par, .slice x.fa x.fs.length x.fc] 30)).alloc (.cells #[.int .i64 y.pl, .string y.nm, .string y.par, .slice y.fa y.fs.length y.fc] 30)) := ((Below.refl wr.heap.size wr).alloc (Nat.le_refl _) _).alloc (by simp) _
      refine (sameRecord_any x y _ (rcN.below (unhide HXA) hal) (rcN.below (unhide HYA) hal)).mono ?_
      rintro e w2 ⟨rfl, hb2⟩
      have HB2 := hide ((unhide HBr).trans ((hal.trans (hb2.mono hal.size)).mono (unhide HBr).size))
      clear hb2 hal
      cases hd : eqR x y
      · have HE := hide (unhide HNO hd)
        clear hd
        go_wp2
        go_ret
        exact ⟨ret_bool (unhide HE).symm, unhide HB2⟩
      · have HE := hide (unhide HK2 hd)
        clear hd
        go_wp2
        go_roundw
        case rel => exact ⟨k + 1, by omega, by go_num, HE, HB2⟩
        case measure => simp [intOf]; omega
    · have i1 : ¬ ((k : Nat) : Int) < ((G.length : Nat) : Int) := by omega
      have HR : Hid (twoB eqR G T = true) := hide (twoB_yes (unhide HLn) (fun i x y h1 h2 => unhide HK i x y (by have := (List.getElem?_eq_some_iff.1 h1).1; omega) h1 h2))
      go_wp2
      go_ret
      exact ⟨ret_bool (unhide HR).symm, unhide HBr⟩

set_option maxRecDepth 20000 in
set_option maxHeartbeats 8000000 in
theorem sameFun_any (n : Nat) (x y : Fu) (w : World) (hx : (fuN n).ok w x) (hy : (fuN n).ok w y) :
    Calls Try.prog 13 #[.agg #[.int .i64 x.pl, .string x.nm, .string x.of, .slice x.pa x.ps.length x.pc, .slice x.ba x.bs.length x.bc, .int .u8 (x.res : Int), .int .i64 x.lo], .agg #[.int .i64 y.pl, .string y.nm, .string y.of, .slice y.pa y.ps.length y.pc, .slice y.ba y.bs.length y.bc, .int .u8 (y.res : Int), .int .i64 y.lo]] w fun e w' => e = .returned (.bool (eqU n x y)) ∧ Below w.heap.size w w' := by
  have al1 := (Below.refl w.heap.size w).alloc (Nat.le_refl _) (.cells #[.int .i64 x.pl, .string x.nm, .string x.of, .slice x.pa x.ps.length x.pc, .slice x.ba x.bs.length x.bc, .int .u8 (x.res : Int), .int .i64 x.lo] 37)
  have al := al1.alloc (by simp) (.cells #[.int .i64 y.pl, .string y.nm, .string y.of, .slice y.pa y.ps.length y.pc, .slice y.ba y.bs.length y.bc, .int .u8 (y.res : Int), .int .i64 y.lo] 37)
  have HB := hide al
  have n1 := heap_alloc_new w (.cells #[.int .i64 x.pl, .string x.nm, .string x.of, .slice x.pa x.ps.length x.pc, .slice x.ba x.bs.length x.bc, .int .u8 (x.res : Int), .int .i64 x.lo] 37)
  have n2 := heap_alloc_new (w.alloc (.cells #[.int .i64 x.pl, .string x.nm, .string x.of, .slice x.pa x.ps.length x.pc, .slice x.ba x.bs.length x.bc, .int .u8 (x.res : Int), .int .i64 x.lo] 37)) (.cells #[.int .i64 y.pl, .string y.nm, .string y.of, .slice y.pa y.ps.length y.pc, .slice y.ba y.bs.length y.bc, .int .u8 (y.res : Int), .int .i64 y.lo] 37)
  rw [World.size_alloc] at n2
  have HC1 : Hid (Bx ((w.alloc (.cells #[.int .i64 x.pl, .string x.nm, .string x.of, .slice x.pa x.ps.length x.pc, .slice x.ba x.bs.length x.bc, .int .u8 (x.res : Int), .int .i64 x.lo] 37)).alloc (.cells #[.int .i64 y.pl, .string y.nm, .string y.of, .slice y.pa y.ps.length y.pc, .slice y.ba y.bs.length y.bc, .int .u8 (y.res : Int), .int .i64 y.lo] 37)) w.heap.size 37 #[.int .i64 x.pl, .string x.nm, .string x.of, .slice x.pa x.ps.length x.pc, .slice x.ba x.bs.length x.bc, .int .u8 (x.res : Int), .int .i64 x.lo]) := hide ((((Below.refl _ _).alloc (Nat.le_refl _) _).block w.heap.size (by simp)).trans n1)
  have HC2 : Hid (Bx ((w.alloc (.cells #[.int .i64 x.pl, .string x.nm, .string x.of, .slice x.pa x.ps.length x.pc, .slice x.ba x.bs.length x.bc, .int .u8 (x.res : Int), .int .i64 x.lo] 37)).alloc (.cells #[.int .i64 y.pl, .string y.nm, .string y.of, .slice y.pa y.ps.length y.pc, .slice y.ba y.bs.length y.bc, .int .u8 (y.res : Int), .int .i64 y.lo] 37)) (w.heap.size + 1) 37 #[.int .i64 y.pl, .string y.nm, .string y.of, .slice y.pa y.ps.length y.pc, .slice y.ba y.bs.length y.bc, .int .u8 (y.res : Int), .int .i64 y.lo]) := hide n2
  have HX := hide ((fuN n).below hx al)
  have HY := hide ((fuN n).below hy al)
  have HQ : Hid (eqU n x y = ((x.nm.toList == y.nm.toList) && (x.of.toList == y.of.toList) && twoB eqP x.ps y.ps && twoB (eqS n) x.bs y.bs)) := hide (by rfl)
  clear al1 al n1 n2 hx hy
  go_enter Try.func13, Try.ntmps13
  go_upto_region 1 with fail
  generalize ((w.alloc (.cells #[.int .i64 x.pl, .string x.nm, .string x.of, .slice x.pa x.ps.length x.pc, .slice x.ba x.bs.length x.bc, .int .u8 (x.res : Int), .int .i64 x.lo] 37)).alloc (.cells #[.int .i64 y.pl, .string y.nm, .string y.of, .slice y.pa y.ps.length y.pc, .slice y.ba y.bs.length y.bc, .int .u8 (y.res : Int), .int .i64 y.lo] 37)) = W1 at HB HC1 HC2 HX HY ⊢
  have k1 := (unhide HC1).c 1 rfl
  have m1 := (unhide HC2).c 1 rfl
  have k2 := (unhide HC1).c 2 rfl
  have m2 := (unhide HC2).c 2 rfl
  have k3 := (unhide HC1).c 3 rfl
  have m3 := (unhide HC2).c 3 rfl
  cases h0 : (x.nm.toList == y.nm.toList)
  · have HR : Hid (eqU n x y = false) := hide (by rw [unhide HQ]; simp [h0])
    go_wp2
    go_ret
    exact ⟨ret_bool (unhide HR).symm, unhide HB⟩
  cases h1 : (x.of.toList == y.of.toList)
  · have HR : Hid (eqU n x y = false) := hide (by rw [unhide HQ]; simp [h0, h1])
    go_wp2
    go_ret
    exact ⟨ret_bool (unhide HR).symm, unhide HB⟩
  have HE0 := hide (EqualFuncP_any x.pa y.pa x.pc y.pc x.ps y.ps W1 (unhide HX).2.1 (unhide HY).2.1 (by have := (unhide HX).1.fitP; omega))
  go_wp2_with fail
  refine (unhide HE0).mono ?_
  rintro e V0 ⟨rfl, hb0⟩
  have HB1 := hide ((unhide HB).trans (hb0.mono (unhide HB).size))
  have HCa1 := hide ((unhide HC1).below hb0)
  have HCb1 := hide ((unhide HC2).below hb0)
  have HX1 := hide ((fuN n).below (unhide HX) hb0)
  have HY1 := hide ((fuN n).below (unhide HY) hb0)
  clear k1 m1 k2 m2 k3 m3 HB HC1 HC2 HX HY HE0 hb0
  cases hs0 : twoB eqP x.ps y.ps
  · have HR : Hid (eqU n x y = false) := hide (by rw [unhide HQ]; simp [h0, h1, hs0])
    clear hs0
    go_wp2
    go_ret
    exact ⟨ret_bool (unhide HR).symm, unhide HB1⟩
  have HS0 := hide hs0
  clear hs0
  have k4 := (unhide HCa1).c 4 rfl
  have m4 := (unhide HCb1).c 4 rfl
  have HE1 := hide (sameStmts_of n (sameStmt_any n) x.ba y.ba x.bc y.bc x.bs y.bs V0 (unhide HX1).2.2 (unhide HY1).2.2 (by have := (unhide HX1).1.fitB; omega))
  go_wp2_with fail
  refine (unhide HE1).mono ?_
  rintro e V1 ⟨rfl, hb1⟩
  have HB2 := hide ((unhide HB1).trans (hb1.mono (unhide HB1).size))
  have HCa2 := hide ((unhide HCa1).below hb1)
  have HCb2 := hide ((unhide HCb1).below hb1)
  have HX2 := hide ((fuN n).below (unhide HX1) hb1)
  have HY2 := hide ((fuN n).below (unhide HY1) hb1)
  clear k4 m4 HB1 HCa1 HCb1 HX1 HY1 HE1 hb1
  have HR : Hid (eqU n x y = twoB (eqS n) x.bs y.bs) := hide (by rw [unhide HQ]; simp [h0, h1, unhide HS0])
  go_wp2
  go_ret
  exact ⟨ret_bool (unhide HR).symm, unhide HB2⟩

set_option maxRecDepth 20000 in
set_option maxHeartbeats 4000000 in
theorem EqualFuncU_any (n : Nat) (go ao : Option Addr) (gc cap : Nat) (G T : List Fu) (w : World) (hG : RowAt (fuN n) w go G) (hT : RowAt (fuN n) w ao T) (hz : G.length < 9223372036854775000) :
    Calls Try.prog 12 #[.slice go G.length gc, .slice ao T.length cap, .func (.func 13) #[] #[]] w fun e w' => e = .returned (.bool (twoB (eqU n) G T)) ∧ Below w.heap.size w w' := by
  by_cases hl : G.length = T.length
  rotate_left
  · have HR : Hid (twoB (eqU n) G T = false) := hide (twoB_len hl)
    have e0 : (((G.length : Nat) : Int) != ((T.length : Nat) : Int)) = true := bne_t (by omega)
    clear hl
    go_enter Try.func12, Try.ntmps12
    go_wp2
    go_ret
    exact ⟨ret_bool (unhide HR).symm, Below.refl _ _⟩
  have e0 : (((G.length : Nat) : Int) != ((T.length : Nat) : Int)) = false := bne_f (by omega)
  have HG := hide hG
  have HT := hide hT
  have HLn := hide hl
  clear hG hT hl
  go_enter Try.func12, Try.ntmps12
  go_wp2
  go_loopw [17] (fun i wr => ∃ k : Nat, k ≤ G.length ∧ i = .int .i64 (k : Int) ∧ Hid (∀ (j : Nat) x y, j < k → G[j]? = some x → T[j]? = some y → (eqU n) x y = true) ∧ Hid (Below w.heap.size w wr)) (fun i _ => G.length - (intOf i).toNat)
  case atStart => exact ⟨0, by omega, rfl, hide (fun j x y h => by omega), hide (Below.refl _ _)⟩
  case round =>
    obtain ⟨k, hk, rfl, HK, HBr⟩ := hrel
    by_cases hlt : k < G.length
    · have i1 : ((k : Nat) : Int) < ((G.length : Nat) : Int) := by omega
      have hkT : k < T.length := by have := unhide HLn; omega
      have i2 : ((k : Nat) : Int) < ((T.length : Nat) : Int) := by omega
      have i0 : (0 : Int) ≤ ((k : Nat) : Int) := by omega
      have hx := List.getElem?_eq_getElem hlt
      have hy := List.getElem?_eq_getElem hkT
      obtain ⟨b, off, rfl, hra, hxa⟩ := (unhide HG).below (unhide HBr) k _ hx
      obtain ⟨b', off', rfl, hrb, hya⟩ := (unhide HT).below (unhide HBr) k _ hy
      generalize G[k] = x at hxa hx hra
      generalize T[k] = y at hya hy hrb
      have hra : wr.rangeAt b (off + k * 7) (fuC x) := hra
      have hrb : wr.rangeAt b' (off' + k * 7) (fuC y) := hrb
      have c0 := hra 0 _ rfl
      have d0 := hrb 0 _ rfl
      have c1 := hra 1 _ rfl
      have d1 := hrb 1 _ rfl
      have c2 := hra 2 _ rfl
      have d2 := hrb 2 _ rfl
      have c3 := hra 3 _ rfl
      have d3 := hrb 3 _ rfl
      have c4 := hra 4 _ rfl
      have d4 := hrb 4 _ rfl
      have c5 := hra 5 _ rfl
      have d5 := hrb 5 _ rfl
      have c6 := hra 6 _ rfl
      have d6 := hrb 6 _ rfl
      rw [Nat.add_zero] at c0 d0
      have HNO : Hid ((eqU n) x y = false → twoB (eqU n) G T = false) := hide (fun e => twoB_no hx hy e)
      have HK2 : Hid ((eqU n) x y = true → ∀ (j : Nat) a b, j < k + 1 → G[j]? = some a → T[j]? = some b → (eqU n) a b = true) := hide (fun e j a b h1 h2 h3 => by
        by_cases e' : j = k
        · rw [e', hx] at h2
          rw [e', hy] at h3
          injection h2 with h2
          injection h3 with h3
          rw [← h2, ← h3]; exact e
        · exact unhide HK j a b (by omega) h2 h3)
      have HXA := hide hxa
      have HYA := hide hya
      have l1 := World.block_lt_of_cell? wr _ c0
      have l2 := World.block_lt_of_cell? wr _ d0
      clear hx hy hxa hya HK hra hrb
      go_wp2_with fail
      have hal : Below wr.heap.size wr ((wr.alloc (.cells #[.int .i64 x.pl, .string x.nm, .string x.of, .slice x.pa x.ps.length x.pc, .slice x.ba x.bs.length x.bc, .int .u8 (x.res : Int), .int .i64 x.lo] 37)).alloc (.cells #[.int .i64 y.pl, .string y.nm, .string y.of, .slice y.pa y.ps.length y.pc, .slice y.ba y.bs.length y.bc, .int .u8 (y.res : Int), .int .i64 y.lo] 37)) := ((Below.refl wr.heap.size wr).alloc (Nat.le_refl _) _).alloc (by simp) _
      refine (sameFun_any n x y _ ((fuN n).below (unhide HXA) hal) ((fuN n).below (unhide HYA) hal)).mono ?_
      rintro e w2 ⟨rfl, hb2⟩
      have HB2 := hide ((unhide HBr).trans ((hal.trans (hb2.mono hal.size)).mono (unhide HBr).size))
      clear hb2 hal
      cases hd : (eqU n) x y
      · have HE := hide (unhide HNO hd)
        clear hd
        go_wp2
        go_ret
        exact ⟨ret_bool (unhide HE).symm, unhide HB2⟩
      · have HE := hide (unhide HK2 hd)
        clear hd
        go_wp2
        go_roundw
        case rel => exact ⟨k + 1, by omega, by go_num, HE, HB2⟩
        case measure => simp [intOf]; omega
    · have i1 : ¬ ((k : Nat) : Int) < ((G.length : Nat) : Int) := by omega
      have HR : Hid (twoB (eqU n) G T = true) := hide (twoB_yes (unhide HLn) (fun i x y h1 h2 => unhide HK i x y (by have := (List.getElem?_eq_some_iff.1 h1).1; omega) h1 h2))
      go_wp2
      go_ret
      exact ⟨ret_bool (unhide HR).symm, unhide HBr⟩

set_option maxRecDepth 20000 in
set_option maxHeartbeats 8000000 in
theorem parseSame_any (n : Nat) (x y : Pg) (w : World) (hx : PgOk n w x) (hy : PgOk n w y) :
    Calls Try.prog 5 #[.agg #[.slice x.ra x.R.length x.rc, .slice x.ua x.U.length x.uc], .agg #[.slice y.ra y.R.length y.rc, .slice y.ua y.U.length y.uc]] w fun e w' => e = .returned (.bool (eqG n x y)) ∧ Below w.heap.size w w' := by
  have al1 := (Below.refl w.heap.size w).alloc (Nat.le_refl _) (.cells #[.slice x.ra x.R.length x.rc, .slice x.ua x.U.length x.uc] 25)
  have al := al1.alloc (by simp) (.cells #[.slice y.ra y.R.length y.rc, .slice y.ua y.U.length y.uc] 25)
  have HB := hide al
  have n1 := heap_alloc_new w (.cells #[.slice x.ra x.R.length x.rc, .slice x.ua x.U.length x.uc] 25)
  have n2 := heap_alloc_new (w.alloc (.cells #[.slice x.ra x.R.length x.rc, .slice x.ua x.U.length x.uc] 25)) (.cells #[.slice y.ra y.R.length y.rc, .slice y.ua y.U.length y.uc] 25)
  rw [World.size_alloc] at n2
  have HC1 : Hid (Bx ((w.alloc (.cells #[.slice x.ra x.R.length x.rc, .slice x.ua x.U.length x.uc] 25)).alloc (.cells #[.slice y.ra y.R.length y.rc, .slice y.ua y.U.length y.uc] 25)) w.heap.size 25 #[.slice x.ra x.R.length x.rc, .slice x.ua x.U.length x.uc]) := hide ((((Below.refl _ _).alloc (Nat.le_refl _) _).block w.heap.size (by simp)).trans n1)
  have HC2 : Hid (Bx ((w.alloc (.cells #[.slice x.ra x.R.length x.rc, .slice x.ua x.U.length x.uc] 25)).alloc (.cells #[.slice y.ra y.R.length y.rc, .slice y.ua y.U.length y.uc] 25)) (w.heap.size + 1) 25 #[.slice y.ra y.R.length y.rc, .slice y.ua y.U.length y.uc]) := hide n2
  have HX := hide (hx.below al)
  have HY := hide (hy.below al)
  have HQ : Hid (eqG n x y = (twoB eqR x.R y.R && twoB (eqU n) x.U y.U)) := hide (by rfl)
  clear al1 al n1 n2 hx hy
  go_enter Try.func5, Try.ntmps5
  go_upto_region 1 with fail
  generalize ((w.alloc (.cells #[.slice x.ra x.R.length x.rc, .slice x.ua x.U.length x.uc] 25)).alloc (.cells #[.slice y.ra y.R.length y.rc, .slice y.ua y.U.length y.uc] 25)) = W1 at HB HC1 HC2 HX HY ⊢
  have k0 := (unhide HC1).c 0 rfl
  have m0 := (unhide HC2).c 0 rfl
  have HE0 := hide (EqualFuncR_any x.ra y.ra x.rc y.rc x.R y.R W1 (unhide HX).recs (unhide HY).recs (by have := (unhide HX).fitR; omega))
  go_wp2_with fail
  refine (unhide HE0).mono ?_
  rintro e V0 ⟨rfl, hb0⟩
  have HB1 := hide ((unhide HB).trans (hb0.mono (unhide HB).size))
  have HCa1 := hide ((unhide HC1).below hb0)
  have HCb1 := hide ((unhide HC2).below hb0)
  have HX1 := hide ((unhide HX).below hb0)
  have HY1 := hide ((unhide HY).below hb0)
  clear k0 m0 HB HC1 HC2 HX HY HE0 hb0
  cases hs0 : twoB eqR x.R y.R
  · have HR : Hid (eqG n x y = false) := hide (by rw [unhide HQ]; simp [hs0])
    clear hs0
    go_wp2
    go_ret
    exact ⟨ret_bool (unhide HR).symm, unhide HB1⟩
  have HS0 := hide hs0
  clear hs0
  have k1 := (unhide HCa1).c 1 rfl
  have m1 := (unhide HCb1).c 1 rfl
  have HE1 := hide (EqualFuncU_any n x.ua y.ua x.uc y.uc x.U y.U V0 (unhide HX1).funs (unhide HY1).funs (by have := (unhide HX1).fitU; omega))
  go_wp2_with fail
  refine (unhide HE1).mono ?_
  rintro e V1 ⟨rfl, hb1⟩
  have HB2 := hide ((unhide HB1).trans (hb1.mono (unhide HB1).size))
  have HCa2 := hide ((unhide HCa1).below hb1)
  have HCb2 := hide ((unhide HCb1).below hb1)
  have HX2 := hide ((unhide HX1).below hb1)
  have HY2 := hide ((unhide HY1).below hb1)
  clear k1 m1 HB1 HCa1 HCb1 HX1 HY1 HE1 hb1
  have HR : Hid (eqG n x y = twoB (eqU n) x.U y.U) := hide (by rw [unhide HQ]; simp [unhide HS0])
  go_wp2
  go_ret
  exact ⟨ret_bool (unhide HR).symm, unhide HB2⟩
end Go.Proofs.Ytjccomjgmejnhaa
