/-
  Rows of entries of one's own; what provisoref06.Told tells, as a plain function. Conditions: frames have 24 slots.
-/
import Derived.Test.YtednnfmomhallaaCra
import Derived.Test.YtednnfmomhallaaJs
import Derived.Maps.AppendAt
namespace Go.Proofs.Ytednnfmomhallaa
open Go.RowKit

def evals (l : List En) : List Value := l.flatMap enL
def EsOk (l : List En) : Prop := ∀ x ∈ l, FrOk x.fr
theorem enL_len {x : En} (h : FrOk x.fr) : (enL x).length = 28 := by
  have := frL_len h
  simp [enL, this]
theorem evals_length : ∀ {l : List En}, EsOk l → (evals l).length = l.length * 28
  | [], _ => rfl
  | x :: l, h => by
    have h1 := evals_length (l := l) (fun y hy => h y (List.mem_cons_of_mem _ hy))
    unfold evals at h1 ⊢
    rw [List.flatMap_cons, List.length_append, h1, enL_len (h x (List.mem_cons_self ..)), List.length_cons]
    omega
theorem evals_append (l m : List En) : evals (l ++ m) = evals l ++ evals m := by unfold evals; simp
theorem evals_one (l : List En) : ∀ u ∈ evals l, u.oneCell' = true := by
  intro u hu
  unfold evals at hu
  obtain ⟨x, _, hx⟩ := List.mem_flatMap.1 hu
  simp only [enL, frL, slV, List.mem_cons, List.mem_map] at hx
  rcases hx with rfl | rfl | rfl | rfl | ⟨t, _, rfl⟩ <;> rfl
theorem evals_get : ∀ {l : List En} {i : Nat} {x : En}, EsOk l → l[i]? = some x → ∀ j, j < 28 → (evals l)[i * 28 + j]? = (enL x)[j]?
  | [], i, x, _, h => by simp at h
  | y :: l, 0, x, ho, h => by
    intro j hj
    simp at h
    subst h
    unfold evals
    rw [List.flatMap_cons, Nat.zero_mul, Nat.zero_add, List.getElem?_append_left (by rw [enL_len (ho y (List.mem_cons_self ..))]; exact hj)]
  | y :: l, i + 1, x, ho, h => by
    intro j hj
    have h' : l[i]? = some x := by simpa using h
    have := evals_get (l := l) (fun z hz => ho z (List.mem_cons_of_mem _ hz)) h' j hj
    unfold evals at this ⊢
    have hl := enL_len (ho y (List.mem_cons_self ..))
    rw [List.flatMap_cons, List.getElem?_append_right (by rw [hl]; omega), hl, ← this]
    congr 1
    omega
def OwnE (w : World) (base : Nat) (v : Value) (l : List En) : Prop := w.ownsRow base 42 28 v l.length (evals l)
theorem infoE : (Try.prog.info? 42).map (fun i => (i.zero, i.size, i.bytes)) = some (some (.agg #[.int .i64 0, .bool false, .int .i64 0, .int .i64 0, .int .u8 0, .int .u8 0, .int .u8 0, .int .u8 0, .int .u8 0, .int .u8 0, .int .u8 0, .int .u8 0, .int .u8 0, .int .u8 0, .int .u8 0, .int .u8 0, .int .u8 0, .int .u8 0, .int .u8 0, .int .u8 0, .int .u8 0, .int .u8 0, .int .u8 0, .int .u8 0, .int .u8 0, .int .u8 0, .int .u8 0, .int .u8 0]), 28, 56) := by kernel_rfl
theorem OwnE.nil (w : World) (base : Nat) : OwnE w base (.slice none 0 0) [] := World.ownsRow_nil _ _ _ _
theorem cell_new_en (w : World) (x : En) : ∀ (j : Nat) u, (enL x)[j]? = some u → (w.alloc (.cells (enA x) 42)).cell? ((⟨w.heap.size, 0, none⟩ : Addr).add j) = some u := by
  intro j u hj
  rw [Addr.add_lit]
  have : (w.alloc (.cells (enA x) 42)).cell? ⟨w.heap.size, 0 + j, none⟩ = (enA x)[0 + j]? := cell_of_row _ _ _ _ _ _ (EAt.new w x)
  rw [this, Nat.zero_add]
  unfold enA
  rw [List.getElem?_toArray]
  exact hj
/-- The entries from a place on, each with the place behind it; the fault's place and error. -/
def tolD (L : List UInt8) (lo : Nat) : Nat → Nat → Int → List (En × Nat) × Nat × Int
  | 0, p, _ => ([], if p < L.length then (p, 3) else (0, 0))
  | n + 1, p, ahead => if (oneE L lo p ahead).2 = 0 then ((oneX L lo p, oneN L lo p) :: (tolD L lo n (oneN L lo p) (oneX L lo p).at_).1, (tolD L lo n (oneN L lo p) (oneX L lo p).at_).2) else ([], oneE L lo p ahead)
end Go.Proofs.Ytednnfmomhallaa
