/-
  flow.Scan and provisoref05.Scan: the same plain answer, in new memory. Conditions: the widths lie there, lengths fit.
-/
import Derived.Test.YtdpfinnclnapbaaDoorIn13
import Derived.Test.YtdpfinnclnapbaaDoorFb3
import Derived.Maps.AppendAt
namespace Go.Proofs.YtdpfinnclnapbaaDoor
open Go.RowKit
set_option maxRecDepth 20000

def ixD (k : Nat) (l : List UInt8) : Ix := match l with | [] => ⟨0, 0, 0, 0⟩ | x :: t => ⟨k, x.toNat, dA x.toNat t, dB x.toNat t⟩
theorem ixD_dV {k : Nat} {l : List UInt8} (h : dE l = 0) : dV (k : Int) l = #[.int .i64 (ixD k l).p, .int .u8 ((ixD k l).op : Int), .int .i64 (ixD k l).a, .int .i64 (ixD k l).b] := by
  cases l with
  | nil => rfl
  | cons x t => unfold dV; simp only []; rw [if_pos h]; rfl
theorem ixD_ok {k : Nat} {l : List UInt8} (h : dE l = 0) : (ixD k l).op < 34 ∧ (ixD k l).p = k ∧ 1 ≤ sizeD (ixD k l).op ∧ sizeD (ixD k l).op ≤ l.length := by
  cases l with
  | nil => simp [dE] at h
  | cons x t =>
    unfold dE at h
    simp only [] at h
    by_cases h34 : x.toNat < 34
    · rw [if_pos h34] at h
      by_cases hs : (x :: t).length < sizeD x.toNat
      · rw [if_pos hs] at h; omega
      · refine ⟨h34, rfl, ?_, by show sizeD x.toNat ≤ _; omega⟩
        show 1 ≤ sizeD x.toNat
        unfold sizeD
        rw [if_pos h34]
        omega
    · rw [if_neg h34] at h; omega
/-- The instructions from an address on, up to the first that can't be; that one's place and error. -/
def scD (L : List UInt8) : Nat → Nat → List Ix × Nat × Int
  | 0, _ => ([], 0, 0)
  | f + 1, k => if k < L.length then (if dE (L.drop k) = 0 then (ixD k (L.drop k) :: (scD L f (k + sizeD (ixD k (L.drop k)).op)).1, (scD L f (k + sizeD (ixD k (L.drop k)).op)).2) else ([], k, dE (L.drop k))) else ([], 0, 0)
theorem sc_end {L : List UInt8} {f k : Nat} (h : ¬ k < L.length) : scD L (f + 1) k = ([], 0, 0) := if_neg h
theorem sc_bad {L : List UInt8} {f k : Nat} (h : k < L.length) (he : dE (L.drop k) ≠ 0) : scD L (f + 1) k = ([], k, dE (L.drop k)) := (if_pos h).trans (if_neg he)
theorem sc_good {L : List UInt8} {f k : Nat} (h : k < L.length) (he : dE (L.drop k) = 0) : scD L (f + 1) k = (ixD k (L.drop k) :: (scD L f (k + sizeD (ixD k (L.drop k)).op)).1, (scD L f (k + sizeD (ixD k (L.drop k)).op)).2) := (if_pos h).trans (if_pos he)
/-- What Scan tells. -/
def scR (L : List UInt8) : List Ix × Nat × Int := if 4096 < L.length then ([], 0, 4) else if (scD L (L.length + 1) 0).2.2 = 0 then ((scD L (L.length + 1) 0).1, 0, 0) else ([], (scD L (L.length + 1) 0).2)
def xok (l : List Ix) : Prop := ∀ x ∈ l, x.op < 34 ∧ 0 ≤ x.p ∧ x.p ≤ 4096
theorem OwnX.nil (w : World) (base : Nat) : OwnX w base (.slice none 0 0) [] := World.ownsRow_nil _ _ _ _
theorem OwnX.slice {w : World} {base : Nat} {v : Value} {l : List Ix} (h : OwnX w base v l) : ∃ ao cap, v = .slice ao l.length cap := by
  rcases h.2 with ⟨h1, h2⟩ | ⟨g, cap, cur, hv, _⟩
  · exact ⟨none, 0, by rw [h1, h2]⟩
  · exact ⟨_, cap, hv⟩
theorem OwnX.below {w w' : World} {base : Nat} {v : Value} {l : List Ix} (h : OwnX w base v l) (hb : Below w.heap.size w w') : OwnX w' base v l := rowBelowJ h hb
theorem cell_new_ix (w : World) (x : Ix) : ∀ (j : Nat) u, (xcells x)[j]? = some u → (w.alloc (.cells #[.int .i64 x.p, .int .u8 (x.op : Int), .int .i64 x.a, .int .i64 x.b] 31)).cell? ((⟨w.heap.size, 0, none⟩ : Addr).add j) = some u := by
  intro j u hj
  rw [Addr.add_lit]
  have hn := heap_alloc_new w (.cells #[.int .i64 x.p, .int .u8 (x.op : Int), .int .i64 x.a, .int .i64 x.b] 31)
  rw [cell_of_row _ _ _ _ _ _ hn]
  simpa [xcells] using hj

end Go.Proofs.YtdpfinnclnapbaaDoor
