/-
  Numbers of a row (without a sign), the four gaps in a row; how long what is written may be.
-/
import Derived.Test.YtgnipgcligmpiaaDoorLx20
import Derived.Test.YtgnipgcligmpiaaDoorWalkLexBegins
namespace Go.Proofs.YtgnipgcligmpiaaDoor
open Go.RowKit
set_option maxRecDepth 20000

def UsAt (w : World) (ao : Option Addr) (l : List Int) : Prop := ∀ (i : Nat) (x : Int), l[i]? = some x → ∃ b off, ao = some ⟨b, off, none⟩ ∧ w.cell? ⟨b, off + i, none⟩ = some (.int .u64 x) ∧ 0 ≤ x ∧ x ≤ 18446744073709551615
theorem UsAt.below {w w' : World} {ao : Option Addr} {l : List Int} (h : UsAt w ao l) (hb : Below w.heap.size w w') : UsAt w' ao l := fun i x hx => by
  obtain ⟨b, off, e, hc, hr⟩ := h i x hx
  exact ⟨b, off, e, (hb.cell (p := ⟨b, off + i, none⟩) (World.block_lt_of_cell? w _ hc)).trans hc, hr⟩
def gapA : Array Value := #[.string ⟨#[32]⟩, .string ⟨#[10]⟩, .string ⟨#[32, 47, 47, 32, 120, 32, 121, 10]⟩, .string ⟨#[9, 32, 13]⟩]
def KAt (w : World) (g : Nat) : Prop := w.heap[g]? = some (.cells gapA 9 (0, 0))
theorem KAt.below {w w' : World} {g : Nat} (h : KAt w g) (hb : Below w.heap.size w w') : KAt w' g := (hb.block g (Array.getElem?_eq_some_iff.1 h).1).trans h
theorem KAt.cell {w : World} {g : Nat} (h : KAt w g) {r : Nat} (hr : r < 4) : ∃ s, s ∈ gapL ∧ w.cell? ⟨g, r, none⟩ = some (.string s) := by
  rcases (show r = 0 ∨ r = 1 ∨ r = 2 ∨ r = 3 by omega) with rfl | rfl | rfl | rfl
  · exact ⟨⟨#[32]⟩, by simp [gapL], cell_of_row _ _ 0 _ _ _ h⟩
  · exact ⟨⟨#[10]⟩, by simp [gapL], cell_of_row _ _ 1 _ _ _ h⟩
  · exact ⟨⟨#[32, 47, 47, 32, 120, 32, 121, 10]⟩, by simp [gapL], cell_of_row _ _ 2 _ _ _ h⟩
  · exact ⟨⟨#[9, 32, 13]⟩, by simp [gapL], cell_of_row _ _ 3 _ _ _ h⟩
theorem gap_size : ∀ g ∈ gapL, g.size ≤ 8 := by
  intro g hg
  unfold gapL at hg
  simp only [List.mem_cons, List.mem_nil_iff, or_false] at hg
  rcases hg with rfl | rfl | rfl | rfl <;> decide
theorem num_len (n : Nat) : (numT n).size ≤ n + 1 := by
  induction n using Nat.strongRecOn with
  | _ n ih =>
    unfold numT
    rw [Lib.decDigits]
    by_cases h : n < 10
    · rw [dif_pos h]; show 1 ≤ n + 1; omega
    · rw [dif_neg h]
      have := ih (n / 10) (by omega)
      unfold numT at this
      have h1 : (⟨(Lib.decDigits (n / 10)).toArray⟩ : ByteArray).size = (Lib.decDigits (n / 10)).length := by show (Lib.decDigits (n / 10)).toArray.size = _; simp
      have h2 : (⟨(Lib.decDigits (n / 10) ++ [UInt8.ofNat (48 + n % 10)]).toArray⟩ : ByteArray).size = (Lib.decDigits (n / 10)).length + 1 := by show (Lib.decDigits (n / 10) ++ [UInt8.ofNat (48 + n % 10)]).toArray.size = _; simp
      omega
theorem on_bounds {s : ByteArray} {q : Nat} (hs : s.size ≤ 65536) : 0 ≤ (onT s q).n ∧ (onT s q).n ≤ 2147483648 ∧ (onT s q).t.size ≤ 65536 := by
  have z0 : (⟨#[]⟩ : ByteArray).size = 0 := rfl
  unfold onT
  split
  · unfold woT
    split
    · exact ⟨by simp, by simp, by simp only [z0]; omega⟩
    · split
      · refine ⟨by simp, by simp, ?_⟩
        simp only [ByteArray.size_extract]; omega
      · unfold tkZ; exact ⟨by simp, by simp, by simp only [z0]; omega⟩
  · split
    · unfold nmT
      split
      · refine ⟨by simp, ?_, by simp only [z0]; omega⟩
        simp only
        have : nuV (s.extract q (enD dgC s q)) ≤ 2147483648 := by unfold nuV; split <;> omega
        omega
      · unfold tkZ; exact ⟨by simp, by simp, by simp only [z0]; omega⟩
    · unfold mkT
      split
      · unfold tkZ; exact ⟨by simp, by simp, by simp only [z0]; omega⟩
      · exact ⟨by simp, by simp, by simp only [z0]; omega⟩
theorem wr_size {x : Tk} (h0 : 0 ≤ x.n) (h1 : x.n ≤ 2147483648) (h2 : x.t.size ≤ 65536) : (wrT x).size ≤ 2147483649 := by
  unfold wrT
  split
  · omega
  · split
    · have := num_len x.n.toNat; omega
    · unfold wdK
      split
      · have := wK_size x.k.toNat; omega
      · show 0 ≤ _; omega
end Go.Proofs.YtgnipgcligmpiaaDoor
