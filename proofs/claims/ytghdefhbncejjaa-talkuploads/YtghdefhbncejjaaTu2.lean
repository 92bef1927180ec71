/-
  What Upload tells, plainly; a row of requests whose bytes lie each in memory of its own. No Go in it.
-/
import Derived.Test.YtghdefhbncejjaaTu1
namespace Go.Proofs.Ytghdefhbncejjaa
open Go.RowKit
set_option linter.unusedVariables false

def qP (x : Rq) : Int × Int × List UInt8 := (x.cm, x.nu, x.bs)
def qV (x : Rq) : Value := .slice x.ba x.bs.length x.bc
def upP (l : List UInt8) (C : Nat) : Nat → List (Int × Int × List UInt8)
  | 0 => [(4, (l.length : Int), [])]
  | n + 1 => upP l C n ++ [(5, ((n * C : Nat) : Int), (l.drop (n * C)).take C)]
def upN (l : List UInt8) (C : Nat) : Nat := (l.length + C - 1) / C
def upA (l : List UInt8) (C : Nat) : List (Int × Int × List UInt8) := upP l C (upN l C) ++ [(6, 0, [])]
def upE (l : List UInt8) (ch : Int) : Int := if ch < 1 ∨ 255 < ch then 1 else if l.length = 0 ∨ 4096 < l.length then 4 else 0
def upR (l : List UInt8) (ch : Int) : List (Int × Int × List UInt8) := if upE l ch = 0 then upA l ch.toNat else []
theorem upP_len (l : List UInt8) (C n : Nat) : (upP l C n).length = n + 1 := by
  induction n with
  | zero => rfl
  | succ n ih => unfold upP; rw [List.length_append, ih]; rfl
theorem upN_more {l : List UInt8} {C n : Nat} (hC : 1 ≤ C) (h : n * C < l.length) : n + 1 ≤ upN l C := by
  unfold upN
  rw [Nat.le_div_iff_mul_le (by omega), Nat.succ_mul]
  omega
theorem upN_end {l : List UInt8} {C n : Nat} (hC : 1 ≤ C) (hn : n ≤ upN l C) (h : l.length ≤ n * C) : n = upN l C := by
  refine Nat.le_antisymm hn ?_
  unfold upN
  apply Nat.le_of_lt_succ
  rw [Nat.div_lt_iff_lt_mul (by omega), Nat.succ_mul]
  omega
theorem upN_le {l : List UInt8} {C : Nat} (hC : 1 ≤ C) (hl : l.length ≤ 4096) : upN l C ≤ 4096 := by
  unfold upN
  apply Nat.le_of_lt_succ
  rw [Nat.div_lt_iff_lt_mul (by omega)]
  have := Nat.mul_le_mul_left 4097 hC
  omega

/-- A row of requests, each one's bytes in memory of its own. -/
structure Ups (w : World) (B : Nat) (v : Value) (Q : List Rq) (P : List (Int × Int × List UInt8)) : Prop where
  own : OwnQ w B v Q
  pl : Q.map qP = P
  dat : ∀ (i : Nat) x, Q[i]? = some x → OwnB w B (qV x) x.bs
  apt : ∀ (i j : Nat) x y, Q[i]? = some x → Q[j]? = some y → i ≠ j → ∀ k, (qV x).ownBlock = some k → (qV y).ownBlock ≠ some k
theorem Ups.below {w w' : World} {B : Nat} {v : Value} {Q : List Rq} {P : List (Int × Int × List UInt8)} (h : Ups w B v Q P) (hb : Below w.heap.size w w') : Ups w' B v Q P :=
  ⟨h.own.below hb, h.pl, fun i x hx => (h.dat i x hx).below hb, h.apt⟩
theorem rqByte {w : World} {B B' : Nat} {v : Value} {Q : List Rq} {u : Value} {l : List UInt8} (h : OwnQ w B v Q) (h' : OwnB w B' u l) : ∀ k, v.ownBlock = some k → u.ownBlock ≠ some k := by
  intro k e e'
  rcases h.2 with ⟨h1, _⟩ | ⟨g, cap, cur, hv, _, hh, _⟩
  · rw [h1] at e; cases e
  · rw [hv] at e
    injection e with e
    rcases h'.2 with ⟨h2, _⟩ | ⟨g', cap', cur', hv', _, hh', _⟩
    · rw [h2] at e'; cases e'
    · rw [hv'] at e'
      injection e' with e'
      have e1 : g = k := e
      have e2 : g' = k := e'
      rw [e1] at hh
      rw [e2, hh] at hh'
      injection hh' with hh'
      injection hh' with _ ht _
      exact absurd ht (by decide)
theorem Ups.nil (w : World) (B : Nat) : Ups w B (.slice none 0 0) [] [] :=
  ⟨World.ownsRow_nil _ _ _ _, rfl, fun i x h => by simp at h, fun i j x y h => by simp at h⟩
theorem Ups.step {w wa w' : World} {B : Nat} {v v' : Value} {Q : List Rq} {P : List (Int × Int × List UInt8)} {x : Rq} (h : Ups w B v Q P) (hB : B ≤ w.heap.size) (ha : Below w.heap.size w wa) (hx : OwnB wa w.heap.size (qV x) x.bs)
    (ho : OwnQ w' B v' (Q ++ [x])) (hg : wa.grownBy w' v.ownBlock) : Ups w' B v' (Q ++ [x]) (P ++ [qP x]) := by
  have hk : ∀ {u : Value} {l : List UInt8} {B' : Nat}, OwnB wa B' u l → OwnB w' B' u l := fun {u l B'} hu => hu.keep (Kept.of_grown hg) (fun k e e2 => rqByte (h.own.below ha) hu k e2.symm e)
  have hlt : ∀ (i : Nat) y, Q[i]? = some y → ∀ k, (qV y).ownBlock = some k → k < w.heap.size := fun i y hy k e => (World.ownsRow.lt (h.dat i y hy) k e).2
  have hge : ∀ k, (qV x).ownBlock = some k → w.heap.size ≤ k := fun k e => (World.ownsRow.lt hx k e).1
  refine ⟨ho, by rw [List.map_append, h.pl]; rfl, fun i y hy => ?_, fun i j y z hy hz hij k e e' => ?_⟩
  · by_cases hi : i < Q.length
    · rw [List.getElem?_append_left hi] at hy
      exact hk ((h.dat i y hy).below ha)
    · rw [List.getElem?_append_right (by omega)] at hy
      have : i - Q.length = 0 := by
        have := (List.getElem?_eq_some_iff.1 hy).1
        simp at this
        omega
      rw [this] at hy
      simp at hy
      subst hy
      exact hk (hx.mono hB)
  · by_cases hi : i < Q.length
    · rw [List.getElem?_append_left hi] at hy
      by_cases hj : j < Q.length
      · rw [List.getElem?_append_left hj] at hz
        exact h.apt i j y z hy hz hij k e e'
      · rw [List.getElem?_append_right (by omega)] at hz
        have : j - Q.length = 0 := by
          have := (List.getElem?_eq_some_iff.1 hz).1
          simp at this
          omega
        rw [this] at hz
        simp at hz
        subst hz
        have h1 := hlt i y hy k e
        have h2 := hge k e'
        omega
    · rw [List.getElem?_append_right (by omega)] at hy
      have h0 : i - Q.length = 0 := by
        have := (List.getElem?_eq_some_iff.1 hy).1
        simp at this
        omega
      rw [h0] at hy
      simp at hy
      subst hy
      by_cases hj : j < Q.length
      · rw [List.getElem?_append_left hj] at hz
        have h1 := hlt j z hz k e'
        have h2 := hge k e
        omega
      · have : j - Q.length = 0 := by
          rw [List.getElem?_append_right (by omega)] at hz
          have := (List.getElem?_eq_some_iff.1 hz).1
          simp at this
          omega
        omega
/-- What Upload answers. -/
def UpPost (w : World) (code : Int) (P : List (Int × Int × List UInt8)) (e : Ending) (w' : World) : Prop := ∃ v Q, e = .returned (.tuple #[v, .int .i64 code]) ∧ Ups w' w.heap.size v Q P ∧ Below w.heap.size w w'
theorem Ups.eq {w : World} {B : Nat} {v : Value} {Q : List Rq} {P P' : List (Int × Int × List UInt8)} (h : Ups w B v Q P) (e : P' = P) : Ups w B v Q P' := by rw [e]; exact h
theorem src_one {w : World} (x : Rq) : SrcQ (w.alloc (.cells #[.int .i64 x.cm, .int .i64 x.nu, .slice x.ba x.bs.length x.bc] 24)) (.slice (some ⟨w.heap.size, 0, none⟩) 1 1) [x] :=
  Or.inr ⟨_, _, rfl, fun j u hu => by
    have hb : Bx (w.alloc (.cells #[.int .i64 x.cm, .int .i64 x.nu, .slice x.ba x.bs.length x.bc] 24)) w.heap.size 24 #[.int .i64 x.cm, .int .i64 x.nu, .slice x.ba x.bs.length x.bc] := heap_alloc_new w _
    rw [Addr.add_lit, Nat.zero_add]
    refine hb.c j ?_
    have : rqV [x] = [.int .i64 x.cm, .int .i64 x.nu, .slice x.ba x.bs.length x.bc] := by simp [rqV, rqC]
    rw [this] at hu
    simpa using hu⟩
end Go.Proofs.Ytghdefhbncejjaa
