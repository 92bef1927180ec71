/-
  Rows of blocks; flow.Blocks.
-/
import Derived.Test.YtdpfinnclnapbaaDoorBk3
import Derived.Deep.RegionHeld3
import Derived.Deep.Cut
namespace Go.Proofs.YtdpfinnclnapbaaDoor
open Go.RowKit Go.Maps
set_option maxRecDepth 20000

structure Bx where
  fr : Int
  la : Int
  no : Option Addr
  nc : Nat
  nx : List Int
def Bx.pl (y : Bx) : Int × Int × List Int := (y.fr, y.la, y.nx)
def kcells (y : Bx) : List Value := [.int .i64 y.fr, .int .i64 y.la, .slice y.no y.nx.length y.nc]
def kvals (G : List Bx) : List Value := G.flatMap kcells
theorem kvals_length (l : List Bx) : (kvals l).length = l.length * 3 := by
  unfold kvals
  induction l with
  | nil => rfl
  | cons f l ih => rw [List.flatMap_cons, List.length_append, ih]; simp [kcells]; omega
theorem kvals_snoc (l : List Bx) (y : Bx) : kvals (l ++ [y]) = kvals l ++ kcells y := by unfold kvals; simp
theorem kvals_get : ∀ {l : List Bx} {i : Nat} {f : Bx}, l[i]? = some f → (kvals l)[i * 3]? = some (.int .i64 f.fr) ∧ (kvals l)[i * 3 + 1]? = some (.int .i64 f.la) ∧ (kvals l)[i * 3 + 2]? = some (.slice f.no f.nx.length f.nc)
  | [], i, f, h => by simp at h
  | g :: l, 0, f, h => by
    simp at h
    subst h
    unfold kvals
    rw [List.flatMap_cons]
    exact ⟨rfl, rfl, rfl⟩
  | g :: l, i + 1, f, h => by
    have h' : l[i]? = some f := by simpa using h
    obtain ⟨h1, h2, h3⟩ := kvals_get h'
    unfold kvals at h1 h2 h3 ⊢
    rw [List.flatMap_cons]
    refine ⟨?_, ?_, ?_⟩
    · rw [List.getElem?_append_right (by simp [kcells]; omega)]
      rw [← h1]; congr 1; simp [kcells]; omega
    · rw [List.getElem?_append_right (by simp [kcells]; omega)]
      rw [← h2]; congr 1; simp [kcells]; omega
    · rw [List.getElem?_append_right (by simp [kcells]; omega)]
      rw [← h3]; congr 1; simp [kcells]; omega
theorem kcells_one (y : Bx) : ∀ u ∈ kcells y, u.oneCell' = true := by
  intro u hu
  simp only [kcells, List.mem_cons, List.mem_nil_iff, or_false] at hu
  rcases hu with rfl | rfl | rfl <;> rfl
theorem infoBk : (Tryd.prog.info? 34).map (fun i => (i.zero, i.size, i.bytes)) = some (some (.agg #[.int .i64 0, .int .i64 0, .slice none 0 0]), 3, 40) := by kernel_rfl
def OwnK (w : World) (base : Nat) (v : Value) (G : List Bx) : Prop := w.ownsRow base 34 3 v G.length (kvals G)
def NxOwn (w : World) (base : Nat) (y : Bx) : Prop := OwnJ w base (.slice y.no y.nx.length y.nc) y.nx
theorem rowTyB {w : World} {B : Nat} {t : TypeId} {s : Nat} {v : Value} {n : Nat} {cs : List Value} (h : w.ownsRow B t s v n cs) : ∀ k, v.ownBlock = some k → ∃ cur, w.heap[k]? = some (.cells cur t (0, 0)) := by
  intro k hk
  rcases h.2 with ⟨rfl, _⟩ | ⟨g, cap, cur, rfl, _, hh, _⟩
  · cases hk
  · cases hk; exact ⟨cur, hh⟩
theorem rows_grownB {w w' : World} {base : Nat} {t : TypeId} {s : Nat} {v : Value} {n : Nat} {cs : List Value} {row : Option Nat} (h : w.ownsRow base t s v n cs) (hg : w.grownBy w' row) (hne : ∀ g, v.ownBlock = some g → row ≠ some g) : w'.ownsRow base t s v n cs := by
  refine ⟨h.1, ?_⟩
  rcases h.2 with h1 | ⟨g, cap, cur, hv, hbg, hh, r⟩
  · exact Or.inl h1
  · refine Or.inr ⟨g, cap, cur, hv, hbg, ?_, r⟩
    rw [hg.block g (Array.getElem?_eq_some_iff.1 hh).1 (fun e => hne g (by rw [hv]; rfl) e.symm)]
    exact hh
theorem NxOwn.grown {w w' : World} {base b2 : Nat} {y : Bx} {v : Value} {n : Nat} {cs : List Value} (h : NxOwn w base y) (hv : w.ownsRow b2 34 3 v n cs) (hg : w.grownBy w' v.ownBlock) : NxOwn w' base y := by
  refine rows_grownB h hg ?_
  intro g hb e
  obtain ⟨c1, g1⟩ := rowTyB h g hb
  obtain ⟨c2, g2⟩ := rowTyB hv g e
  rw [g1] at g2
  simp at g2
theorem NxOwn.below {w w' : World} {base : Nat} {y : Bx} (h : NxOwn w base y) (hb : Below w.heap.size w w') : NxOwn w' base y := rowBelowJ h hb

/-! ### What Blocks tells -/
def pD (l : List Ix) (i : Nat) : Int := match l[i]? with | some x => x.p | none => 0
def nxD (l : List Ix) (i : Nat) : List Int := match l[i]? with | some x => (nextD x.p x.op x.a).filter (hasP l) | none => []
def endN (l : List Ix) (ls : List Nat) (k : Nat) : Nat := if k + 1 < ls.length then ls.getD (k + 1) 0 else l.length
def blkN (l : List Ix) (ls : List Nat) (k : Nat) : Int × Int × List Int := (pD l (ls.getD k 0), pD l (endN l ls k - 1), nxD l (endN l ls k - 1))
def bkD (l : List Ix) : List (Int × Int × List Int) := if rsB l = true then (List.range (ldN l l.length).length).map (blkN l (ldN l l.length)) else []
theorem ldN_mem {l : List Ix} {k x : Nat} (h : x ∈ ldN l k) : x < k := by
  unfold ldN at h
  have := (List.mem_filter.1 h).1
  simpa using this
theorem ldN_pair (l : List Ix) (k : Nat) : (ldN l k).Pairwise (· < ·) := List.Pairwise.filter _ List.pairwise_lt_range
theorem endN_in {l : List Ix} {k : Nat} (h : k < (ldN l l.length).length) : (ldN l l.length)[k] < endN l (ldN l l.length) k ∧ endN l (ldN l l.length) k ≤ l.length := by
  unfold endN
  have hm := ldN_mem (List.getElem_mem h)
  split
  · rename_i h2
    rw [List.getD_eq_getElem?_getD, List.getElem?_eq_getElem h2]
    have h3 := ldN_mem (List.getElem_mem h2)
    have h4 := List.pairwise_iff_getElem.1 (ldN_pair l l.length) k (k + 1) h h2 (by omega)
    simp only [Option.getD_some]
    omega
  · omega
end Go.Proofs.YtdpfinnclnapbaaDoor
