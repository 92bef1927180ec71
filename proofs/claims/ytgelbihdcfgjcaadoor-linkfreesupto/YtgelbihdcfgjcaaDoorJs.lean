/-
  Rows of numbers of either sign, of one's own; the contract of provisoref05.put: rising numbers with one more. Conditions: lengths fit.
-/
import Derived.Test.YtgelbihdcfgjcaaDoorMem
import Derived.Laws.AppendOwnNone
namespace Go.Proofs.YtgelbihdcfgjcaaDoor
open Go.RowKit
set_option maxRecDepth 20000

def jvals (l : List Int) : List Value := l.map fun (x : Int) => Value.int .i64 x
def OwnJ (w : World) (base : Nat) (v : Value) (l : List Int) : Prop := w.ownsRow base 3 1 v l.length (jvals l)
theorem infoJ : (Tryd.prog.info? 3).map (fun i => (i.zero, i.size, i.bytes)) = some (some (.int .i64 0), 1, 8) := by kernel_rfl
theorem OwnJ.nil (w : World) (base : Nat) : OwnJ w base (.slice none 0 0) [] := World.ownsRow_nil _ _ _ _
theorem OwnJ.shape {w : World} {base : Nat} {v : Value} {l : List Int} (h : OwnJ w base v l) :
    (v = .slice none 0 0 ∧ l = []) ∨ ∃ g cap, v = .slice (some ⟨g, 0, none⟩) l.length cap ∧ base ≤ g ∧ g < w.heap.size ∧ l.length ≤ cap ∧ (∀ (i : Nat) (x : Int), l[i]? = some x → w.cell? ⟨g, i, none⟩ = some (.int .i64 x)) ∧ ∀ i, w.frozen? ⟨g, i, none⟩ = false := by
  rcases h.2 with ⟨h1, h2⟩ | ⟨g, cap, cur, hv, hb, hh, hn, hm, hs, ht⟩
  · exact Or.inl ⟨h1, List.eq_nil_of_length_eq_zero h2⟩
  · have h' : w.ownsRow base 3 1 (.slice (some ⟨g, 0, none⟩) l.length cap) l.length (jvals l) := hv ▸ h
    refine Or.inr ⟨g, cap, hv, hb, (Array.getElem?_eq_some_iff.1 hh).1, hn, fun i x hx => ?_, fun i => World.ownsRow.frozenAt h' i⟩
    have hi := (List.getElem?_eq_some_iff.1 hx).1
    rw [h'.cellAt i (by omega)]
    unfold jvals
    rw [List.getElem?_map, hx]
    rfl
/-- A slice of numbers that reads so. -/
def JsAt (w : World) (ao : Option Addr) (l : List Int) : Prop := ∀ (i : Nat) (x : Int), l[i]? = some x → ∃ b off, ao = some ⟨b, off, none⟩ ∧ w.cell? ⟨b, off + i, none⟩ = some (.int .i64 x)
theorem JsAt.below {w w' : World} {ao : Option Addr} {l : List Int} (h : JsAt w ao l) (hb : Below w.heap.size w w') : JsAt w' ao l := fun i x hx => by
  obtain ⟨b, off, e, hc⟩ := h i x hx
  exact ⟨b, off, e, (hb.cell (p := ⟨b, off + i, none⟩) (World.block_lt_of_cell? w _ hc)).trans hc⟩
theorem OwnJ.at {w : World} {base : Nat} {v : Value} {l : List Int} (h : OwnJ w base v l) : ∃ ao cap, v = .slice ao l.length cap ∧ JsAt w ao l ∧ (ao = none → l = []) := by
  rcases h.shape with ⟨rfl, rfl⟩ | ⟨g, cap, rfl, _, _, _, hc, _⟩
  · exact ⟨none, 0, rfl, fun i x hx => by simp at hx, fun _ => rfl⟩
  · exact ⟨_, cap, rfl, fun i x hx => ⟨g, 0, rfl, by rw [Nat.zero_add]; exact hc i x hx⟩, fun e => by cases e⟩
theorem rowBelowJ {w w' : World} {base : Nat} {t : TypeId} {s : Nat} {v : Value} {n : Nat} {cs : List Value} (h : w.ownsRow base t s v n cs) (hb : Below w.heap.size w w') : w'.ownsRow base t s v n cs := by
  refine ⟨h.1, ?_⟩
  rcases h.2 with h1 | ⟨g, cap, cur, hv, hbg, hh, r⟩
  · exact Or.inl h1
  · exact Or.inr ⟨g, cap, cur, hv, hbg, by rw [hb.block g (Array.getElem?_eq_some_iff.1 hh).1]; exact hh, r⟩
theorem OwnJ.below {w w' : World} {base : Nat} {v : Value} {l : List Int} (h : OwnJ w base v l) (hb : Below w.heap.size w w') : OwnJ w' base v l := rowBelowJ h hb
theorem cell_one_newJ (w : World) (x : Value) (t : TypeId) : ∀ (j : Nat) u, [x][j]? = some u → (w.alloc (.cells #[x] t)).cell? ((⟨w.heap.size, 0, none⟩ : Addr).add j) = some u := by
  intro j u hj
  match j, hj with
  | 0, hj =>
    simp at hj
    subst hj
    simp [Addr.add]

/-- Rising numbers with one more. -/
def putJ : List Int → Int → List Int
  | [], n => [n]
  | x :: l, n => if n ≤ x then (if n < x then n :: x :: l else x :: l) else x :: putJ l n
theorem putJ_len (n : Int) : ∀ l : List Int, (putJ l n).length ≤ l.length + 1
  | [] => by simp [putJ]
  | x :: l => by
    have := putJ_len n l
    unfold putJ
    split
    · split <;> simp
    · simp; omega
/-- What the loop has made of the first ones. -/
def PutI (l : List Int) (n : Int) (i : Nat) (done : Bool) (out : List Int) : Prop := (∀ rest, putJ (l.take i ++ rest) n = out ++ (if done then rest else putJ rest n)) ∧ out.length ≤ i + 1 ∧ (done = false → out.length ≤ i)

theorem take_step {α : Type} {l : List α} {x : α} {k : Nat} (hx : l[k]? = some x) : l.take (k + 1) = l.take k ++ [x] := by
  rw [List.take_add_one, hx]
  rfl
theorem put_done {l : List Int} {n x : Int} {k : Nat} {out : List Int} (hx : l[k]? = some x) (h : PutI l n k true out) : PutI l n (k + 1) true (out ++ [x]) := by
  refine ⟨fun rest => ?_, by have := h.2.1; simp; omega, fun e => by cases e⟩
  rw [take_step hx, List.append_assoc, h.1]
  simp
theorem put_less {l : List Int} {n x : Int} {k : Nat} {out : List Int} (hx : l[k]? = some x) (h : PutI l n k false out) (hn : n < x) : PutI l n (k + 1) true (out ++ [n] ++ [x]) := by
  refine ⟨fun rest => ?_, by have := h.2.2 rfl; simp; omega, fun e => by cases e⟩
  rw [take_step hx, List.append_assoc, h.1]
  simp [putJ, Int.le_of_lt hn, hn]
theorem put_same {l : List Int} {n x : Int} {k : Nat} {out : List Int} (hx : l[k]? = some x) (h : PutI l n k false out) (hn : n = x) : PutI l n (k + 1) true (out ++ [x]) := by
  refine ⟨fun rest => ?_, by have := h.2.2 rfl; simp; omega, fun e => by cases e⟩
  rw [take_step hx, List.append_assoc, h.1]
  simp [putJ, hn]
theorem put_more {l : List Int} {n x : Int} {k : Nat} {out : List Int} (hx : l[k]? = some x) (h : PutI l n k false out) (hn : x < n) : PutI l n (k + 1) false (out ++ [x]) := by
  refine ⟨fun rest => ?_, by have := h.2.2 rfl; simp; omega, fun _ => by have := h.2.2 rfl; simp; omega⟩
  rw [take_step hx, List.append_assoc, h.1]
  have : ¬ n ≤ x := by omega
  simp [putJ, this]
theorem put_end {l : List Int} {n : Int} {k : Nat} {dn : Bool} {out : List Int} (h : PutI l n k dn out) (hk : l.length ≤ k) : putJ l n = out ++ (if dn then [] else [n]) := by
  have := h.1 []
  rw [List.take_of_length_le hk, List.append_nil] at this
  rw [this]
  cases dn <;> rfl

end Go.Proofs.YtgelbihdcfgjcaaDoor
