/-
  The contracts of code.Decode and provisoref04.Decode at any place: the same plain answer. Conditions: the widths lie there, lengths fit.
-/
import Derived.Test.YtdpfinnclnapbaaDoorIn12
namespace Go.Proofs.YtdpfinnclnapbaaDoor
open Go.RowKit
set_option maxRecDepth 20000

/-- Decode's error and its instruction, at any place. -/
def dcE (L : List UInt8) (p : Int) : Int := if p < 0 ∨ (L.length : Int) < p then 1 else dE (L.drop p.toNat)
def dcV (L : List UInt8) (p : Int) : Array Value := if p < 0 ∨ (L.length : Int) < p then #[.int .i64 0, .int .u8 0, .int .i64 0, .int .i64 0] else dV p (L.drop p.toNat)
theorem dV_shape (p : Int) (l : List UInt8) : ∃ (q : Int) (op : Nat) (a b : Int), op < 256 ∧ dV p l = #[.int .i64 q, .int .u8 (op : Int), .int .i64 a, .int .i64 b] := by
  unfold dV
  cases l with
  | nil => exact ⟨0, 0, 0, 0, by omega, rfl⟩
  | cons x t =>
    simp only []
    split
    · exact ⟨p, x.toNat, _, _, x.toNat_lt, rfl⟩
    · exact ⟨0, 0, 0, 0, by omega, rfl⟩
theorem dcV_shape (L : List UInt8) (p : Int) : ∃ (q : Int) (op : Nat) (a b : Int), op < 256 ∧ dcV L p = #[.int .i64 q, .int .u8 (op : Int), .int .i64 a, .int .i64 b] := by
  unfold dcV
  split
  · exact ⟨0, 0, 0, 0, by omega, rfl⟩
  · exact dV_shape _ _
theorem BAt.dropAt {w : World} {b off : Nat} {L : List UInt8} (h : BAt w (some ⟨b, off, none⟩) L) (k : Nat) : BAt w (some ⟨b, off + k, none⟩) (L.drop k) := by
  intro i hi
  rw [List.length_drop] at hi
  obtain ⟨b', off', e, hc⟩ := h (k + i) (by omega)
  injection e with e
  injection e with e1 e2
  subst e1 e2
  refine ⟨b, off + k, rfl, ?_⟩
  rw [show off + k + i = off + (k + i) by omega, hc]
  unfold at8
  rw [List.getD_eq_getElem?_getD, List.getD_eq_getElem?_getD, List.getElem?_drop]

theorem refDecode_any (ao : Option Addr) (c : Nat) (L : List UInt8) (p : Int) (w : World) (hb : BAt w ao L) (hl : L.length ≤ 140737488355328) (hc : L.length ≤ c) :
    Calls Tryd.prog 22 #[.slice ao L.length c, .int .i64 p] w fun e w' => e = .returned (.tuple #[.agg (dcV L p), .int .i64 (dcE L p)]) ∧ Below w.heap.size w w' := by
  by_cases h : p < 0 ∨ (L.length : Int) < p
  · have e1 : dcE L p = 1 := by unfold dcE; rw [if_pos h]
    have e2 : dcV L p = #[.int .i64 0, .int .u8 0, .int .i64 0, .int .i64 0] := by unfold dcV; rw [if_pos h]
    rw [e1, e2]
    exact refDecode_out ao c L p w h
  obtain ⟨k, rfl⟩ : ∃ k : Nat, p = (k : Int) := ⟨p.toNat, by omega⟩
  have e1 : dcE L (k : Int) = dE (L.drop k) := by unfold dcE; rw [if_neg h]; simp
  have e2 : dcV L (k : Int) = dV (k : Int) (L.drop k) := by unfold dcV; rw [if_neg h]; simp
  rw [e1, e2]
  by_cases hk : k = L.length
  · subst hk
    rw [List.drop_length]
    exact refDecode_end ao c L w
  · obtain ⟨b, off, rfl, _⟩ := hb.head (by omega)
    have hd := hb.dropAt k
    cases hx : L.drop k with
    | nil => exact absurd (List.drop_eq_nil_iff.1 hx) (by omega)
    | cons x t =>
      rw [hx] at hd
      exact refDecode_in b off c L k w x t hx hd hl hc
end Go.Proofs.YtdpfinnclnapbaaDoor
