/-
  Contracts of provisoref02's Line and Fields: what the plain functions 'lineD' and 'fieldsD' say, in new memory. Conditions: the table fits; of Fields, that there are at most a million of them.
-/
import Derived.Test.YtplfpcbheijdlaaCls
import Derived.Laws.AppendOwnNone
namespace Go.Proofs.Ytplfpcbheijdlaa
open Go.RowKit

/-! ### Rows of numbers, rows of fields, of one's own -/
def ivals (l : List Nat) : List Value := l.map fun (x : Nat) => Value.int .i64 (x : Int)
def OwnI (w : World) (base : Nat) (v : Value) (l : List Nat) : Prop := w.ownsRow base 3 1 v l.length (ivals l)
theorem infoI : (Try.prog.info? 3).map (fun i => (i.zero, i.size, i.bytes)) = some (some (.int .i64 0), 1, 8) := by kernel_rfl
theorem OwnI.shape {w : World} {base : Nat} {v : Value} {l : List Nat} (h : OwnI w base v l) :
    (v = .slice none 0 0 ∧ l = []) ∨ ∃ g cap, v = .slice (some ⟨g, 0, none⟩) l.length cap ∧ base ≤ g ∧ g < w.heap.size ∧ ∀ (i x : Nat), l[i]? = some x → w.cell? ⟨g, i, none⟩ = some (.int .i64 (x : Int)) := by
  rcases h.2 with ⟨h1, h2⟩ | ⟨g, cap, cur, hv, hb, hh, hn, hm, hs, ht⟩
  · exact Or.inl ⟨h1, List.eq_nil_of_length_eq_zero h2⟩
  · refine Or.inr ⟨g, cap, hv, hb, (Array.getElem?_eq_some_iff.1 hh).1, fun i x hx => ?_⟩
    have h' : w.ownsRow base 3 1 (.slice (some ⟨g, 0, none⟩) l.length cap) l.length (ivals l) := hv ▸ h
    have hi := (List.getElem?_eq_some_iff.1 hx).1
    rw [h'.cellAt i (by omega)]
    unfold ivals
    rw [List.getElem?_map, hx]
    rfl
theorem OwnI.slice {w : World} {base : Nat} {v : Value} {l : List Nat} (h : OwnI w base v l) : ∃ ao cap, v = .slice ao l.length cap ∧ ∀ (i x : Nat), l[i]? = some x → ∃ g, ao = some ⟨g, 0, none⟩ ∧ w.cell? ⟨g, i, none⟩ = some (.int .i64 (x : Int)) := by
  rcases h.shape with ⟨rfl, rfl⟩ | ⟨g, cap, rfl, _, _, hc⟩
  · exact ⟨none, 0, rfl, fun i x hx => by simp at hx⟩
  · exact ⟨_, cap, rfl, fun i x hx => ⟨g, rfl, hc i x hx⟩⟩
theorem rowBelow {w w' : World} {base : Nat} {t : TypeId} {s : Nat} {v : Value} {n : Nat} {cs : List Value} (h : w.ownsRow base t s v n cs) (hb : Below w.heap.size w w') : w'.ownsRow base t s v n cs := by
  refine ⟨h.1, ?_⟩
  rcases h.2 with h1 | ⟨g, cap, cur, hv, hbg, hh, r⟩
  · exact Or.inl h1
  · exact Or.inr ⟨g, cap, cur, hv, hbg, by rw [hb.block g (Array.getElem?_eq_some_iff.1 hh).1]; exact hh, r⟩

def fcells (f : Fl) : List Value := [.string f.nm, .int .u8 (f.ty : Int)]
def fvals (l : List Fl) : List Value := l.flatMap fcells
theorem fvals_length (l : List Fl) : (fvals l).length = l.length * 2 := by
  unfold fvals
  induction l with
  | nil => rfl
  | cons f l ih => rw [List.flatMap_cons, List.length_append, ih]; simp [fcells]; omega
theorem fvals_append (l m : List Fl) : fvals (l ++ m) = fvals l ++ fvals m := by unfold fvals; simp
theorem fvals_one (l : List Fl) : ∀ u ∈ fvals l, u.oneCell' = true := by
  intro u hu
  unfold fvals at hu
  obtain ⟨f, _, hf⟩ := List.mem_flatMap.1 hu
  simp [fcells] at hf
  rcases hf with rfl | rfl <;> rfl
theorem fvals_get : ∀ {l : List Fl} {i : Nat} {f : Fl}, l[i]? = some f → (fvals l)[i * 2]? = some (.string f.nm) ∧ (fvals l)[i * 2 + 1]? = some (.int .u8 (f.ty : Int))
  | [], i, f, h => by simp at h
  | g :: l, 0, f, h => by
    simp at h
    subst h
    unfold fvals
    rw [List.flatMap_cons]
    exact ⟨rfl, rfl⟩
  | g :: l, i + 1, f, h => by
    have h' : l[i]? = some f := by simpa using h
    obtain ⟨h1, h2⟩ := fvals_get h'
    unfold fvals at h1 h2 ⊢
    rw [List.flatMap_cons]
    constructor
    · rw [List.getElem?_append_right (by simp [fcells]; omega)]
      rw [← h1]; congr 1; simp [fcells]; omega
    · rw [List.getElem?_append_right (by simp [fcells]; omega)]
      rw [← h2]; congr 1; simp [fcells]; omega
theorem fcells_at {w : World} {b : Nat} : ∀ (fs : List Fl) (off : Nat), (∀ (i : Nat) f, fs[i]? = some f → FlAt w b (off + i * 2) f) → ∀ (j : Nat) u, (fvals fs)[j]? = some u → w.cell? ⟨b, off + j, none⟩ = some u
  | [], off, h, j, u, hu => by simp [fvals] at hu
  | f :: fs, off, h, j, u, hu => by
    have h0 := h 0 f rfl
    unfold fvals at hu
    rw [List.flatMap_cons] at hu
    match j with
    | 0 =>
      simp [fcells] at hu
      subst hu
      simpa using h0.c0
    | 1 =>
      simp [fcells] at hu
      subst hu
      simpa using h0.c1
    | j + 2 =>
      rw [List.getElem?_append_right (by simp [fcells])] at hu
      have := fcells_at fs (off + 2) (fun i g hg => by
        have := h (i + 1) g (by simpa using hg)
        rw [show off + (i + 1) * 2 = off + 2 + i * 2 from by omega] at this
        exact this) j u (by simpa [fcells, fvals] using hu)
      rw [show off + (j + 2) = off + 2 + j from by omega]
      exact this

/-- What a field must keep to. -/
def FlOk (f : Fl) : Prop := f.nm.size ≤ 140737488351232 ∧ f.ty < 256
/-! ### Lines -/
theorem lineR_lt (T : List Cl) : ∀ (k : Nat) (c : Int), ∀ x ∈ lineR T k c, x < T.length
  | 0, c, x, h => by simp [lineR] at h
  | k + 1, c, x, h => by
    unfold lineR at h
    by_cases hc : 0 ≤ c ∧ c < (T.length : Int)
    · rw [if_pos hc, List.mem_cons] at h
      rcases h with h | h
      · omega
      · exact lineR_lt T k _ x h
    · rw [if_neg hc] at h
      simp at h
theorem lineR_out {T : List Cl} {c : Int} (k : Nat) (h : ¬ (0 ≤ c ∧ c < (T.length : Int))) : lineR T k c = [] := by
  cases k with
  | zero => rfl
  | succ k => unfold lineR; rw [if_neg h]
theorem lineR_in {T : List Cl} {c : Nat} (k : Nat) (h : c < T.length) : lineR T (k + 1) (c : Int) = c :: lineR T k (parD T c) := by
  rw [lineR, if_pos (by omega)]
  simp
theorem parD_at {T : List Cl} {c : Nat} {x : Cl} (h : T[c]? = some x) : parD T c = x.par := by unfold parD; rw [h]
theorem fsD_at {T : List Cl} {c : Nat} {x : Cl} (h : T[c]? = some x) : fsD T c = x.fs := by unfold fsD; rw [h]

theorem cell_one_newI (w : World) (x : Value) (t : TypeId) : ∀ (j : Nat) u, [x][j]? = some u → (w.alloc (.cells #[x] t)).cell? ((⟨w.heap.size, 0, none⟩ : Addr).add j) = some u := by
  intro j u hj
  match j, hj with
  | 0, hj =>
    simp at hj
    subst hj
    simp [Addr.add]

end Go.Proofs.Ytplfpcbheijdlaa
