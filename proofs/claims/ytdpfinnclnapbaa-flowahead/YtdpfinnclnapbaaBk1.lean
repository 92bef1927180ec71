/-
  flow.rises and parts: what the plain functions say.
  flow.leading: where blocks begin.
  flow.among: those of a row of numbers at which an instruction stands; slices.IndexFunc and DeleteFunc with its closure.
  Rows of blocks; flow.Blocks.
-/
import Derived.Test.YtdpfinnclnapbaaSc1
import Derived.Lib.SliceRun
import Derived.Deep.AppendLies
import Derived.Deep.RegionHeld3
import Derived.Deep.Cut
namespace Go.Proofs.Ytdpfinnclnapbaa
open Go.RowKit Go.Maps

/-- Each instruction stands behind the one ahead of it. -/
def rsP (l : List Ix) : Prop := ∀ (i : Nat) (x y : Ix), l[i]? = some x → l[i + 1]? = some y → x.p < y.p
/-- So it is up to an instruction. -/
def rsK (l : List Ix) (k : Nat) : Prop := ∀ (i : Nat) (x y : Ix), i + 1 < k → l[i]? = some x → l[i + 1]? = some y → x.p < y.p
def rsB : List Ix → Bool
  | [] => true
  | [_] => true
  | x :: y :: l => decide (x.p < y.p) && rsB (y :: l)
theorem rsB_iff : ∀ l, rsB l = true ↔ rsP l
  | [] => ⟨fun _ i x y hx => by simp at hx, fun _ => rfl⟩
  | [a] => ⟨fun _ i x y hx hy => by simp at hy, fun _ => rfl⟩
  | a :: b :: l => by
    unfold rsB
    rw [Bool.and_eq_true, decide_eq_true_eq, rsB_iff (b :: l)]
    constructor
    · rintro ⟨h1, h2⟩ i x y hx hy
      cases i with
      | zero => simp at hx hy; subst hx hy; exact h1
      | succ i => exact h2 i x y (by simpa using hx) (by simpa using hy)
    · intro h
      exact ⟨h 0 a b rfl rfl, fun i x y hx hy => h (i + 1) x y (by simpa using hx) (by simpa using hy)⟩
def prtD (op : Nat) : Bool := jmpD op || endD op

/-- Does a block begin with an instruction? -/
def ldB (l : List Ix) (i : Nat) : Bool := match l[i]? with
  | none => false
  | some x => decide (x.p ∈ tgs l) || decide (i = 0) || (match l[i - 1]? with | some y => prtD y.op | none => false)
def ldN (l : List Ix) (k : Nat) : List Nat := (List.range k).filter (ldB l)
def jn (q : List Nat) : List Int := q.map (fun n => Int.ofNat n)
theorem ldN_yes {l : List Ix} {k : Nat} (h : ldB l k = true) : ldN l (k + 1) = ldN l k ++ [k] := by
  unfold ldN
  rw [List.range_succ, List.filter_append]
  simp [h]
theorem ldN_no {l : List Ix} {k : Nat} (h : ldB l k = false) : ldN l (k + 1) = ldN l k := by
  unfold ldN
  rw [List.range_succ, List.filter_append]
  simp [h]
theorem ldN_len (l : List Ix) (k : Nat) : (ldN l k).length ≤ k := by
  unfold ldN
  have := List.length_filter_le (ldB l) (List.range k)
  simpa using this

theorem ownJ_mono {w : World} {b b' : Nat} {v : Value} {l : List Int} (h : OwnJ w b v l) (hb : b' ≤ b) : OwnJ w b' v l := by
  rcases h with ⟨h1, h2 | ⟨g, cap, cur, a, h3, rest⟩⟩
  · exact ⟨h1, .inl h2⟩
  · exact ⟨h1, .inr ⟨g, cap, cur, a, Nat.le_trans hb h3, rest⟩⟩
/-- The closure's box, and the map that it names. -/
structure Std (W : World) (B m : Nat) (l : List Ix) : Prop where
  box : W.cell? ⟨B, 0, none⟩ = some (.map (some m))
  map : MapAt W m l.length (bks l)
theorem Std.grown {W w : World} {B m : Nat} {row : Option Nat} {l : List Ix} (h : Std W B m l) (hg : W.grownBy w row) (hB : some B ≠ row) (hm : some m ≠ row) : Std w B m l :=
  ⟨(hg.cell_far ⟨B, 0, none⟩ (World.block_lt_of_cell? W _ h.box) hB).trans h.box, World.ownsMap.kept h.map hg hm⟩
theorem grown_two {a b c : World} {row : Option Nat} (h1 : a.grownBy b row) (h2 : b.grownBy c row) : a.grownBy c row :=
  ⟨h2.os.trans h1.os, h2.tape.trans h1.tape, h2.output.trans h1.output, Nat.le_trans h1.size h2.size, fun k hk hn => (h2.block k (Nat.lt_of_lt_of_le hk h1.size) hn).trans (h1.block k hk hn)⟩
theorem grown_same (a : World) (row : Option Nat) : a.grownBy a row := ⟨rfl, rfl, rfl, Nat.le_refl _, fun _ _ _ => rfl⟩

/-! ### A row cut short -/
theorem own_cut {w : World} {base g n cap i : Nat} {xs : List Value} (h : w.ownsRow base 3 1 (.slice (some ⟨g, 0, none⟩) n cap) n xs) (hi : i ≤ n) : w.ownsRow base 3 1 (.slice (some ⟨g, 0, none⟩) i cap) i (xs.take i) := by
  rcases h with ⟨hl, ⟨h1, _⟩ | ⟨g', cap', cur, hv, hb, hh, hn, hm, hs, ht⟩⟩
  · simp at h1
  · injection hv with e1 _ e2
    injection e1 with e1
    injection e1 with e1
    subst e1 e2
    refine ⟨by simp; omega, Or.inr ⟨g, cap, cur, rfl, hb, hh, by omega, hm, hs, ?_⟩⟩
    rw [← ht, List.take_take, Nat.mul_one, Nat.mul_one, Nat.min_eq_left hi]
theorem own_clear {base g n cap : Nat} {z : Value} : ∀ (m i : Nat) (w : World) (xs : List Value), w.ownsRow base 3 1 (.slice (some ⟨g, 0, none⟩) n cap) n xs → ∃ ys, (w.setCells g i (List.replicate m z)).ownsRow base 3 1 (.slice (some ⟨g, 0, none⟩) n cap) n ys ∧ ys.take i = xs.take i ∧ w.grownBy (w.setCells g i (List.replicate m z)) (some g)
  | 0, i, w, xs, h => ⟨xs, h, rfl, ⟨rfl, rfl, rfl, Nat.le_refl _, fun _ _ _ => rfl⟩⟩
  | m + 1, i, w, xs, h => by
    obtain ⟨h1, h2⟩ := h.stored i z
    obtain ⟨ys, h3, h4, h5⟩ := own_clear m (i + 1) _ _ h1
    refine ⟨ys, h3, ?_, ⟨h5.os.trans h2.os, h5.tape.trans h2.tape, h5.output.trans h2.output, Nat.le_trans h2.size h5.size, fun k hk hn => (h5.block k (Nat.lt_of_lt_of_le hk h2.size) hn).trans (h2.block k hk hn)⟩⟩
    have := congrArg (List.take i) h4
    rw [List.take_take, List.take_take, Nat.min_eq_left (by omega)] at this
    rw [this]
    exact List.take_set_of_le (by omega)

/-- While a row is thinned out: the first i of C are what is kept of the first j of L, the rest is as it was. -/
structure Thn (L C : List Int) (p : Int → Bool) (i j : Nat) : Prop where
  len : C.length = L.length
  le : i < j
  ahead : C.take i = (L.take j).filter p
  rest : C.drop j = L.drop j
theorem Thn.skip {L C : List Int} {p : Int → Bool} {i j : Nat} {a : Int} (h : Thn L C p i j) (ha : L[j]? = some a) (hp : p a = false) : Thn L C p i (j + 1) := by
  have hj := (List.getElem?_eq_some_iff.1 ha).1
  refine ⟨h.len, by have := h.le; omega, ?_, ?_⟩
  · rw [← List.take_append_getElem hj, List.filter_append, h.ahead]
    have : L[j] = a := by rw [List.getElem?_eq_getElem hj] at ha; injection ha
    simp [this, hp]
  · have := congrArg (List.drop 1) h.rest
    rwa [List.drop_drop, List.drop_drop] at this
theorem Thn.keep {L C : List Int} {p : Int → Bool} {i j : Nat} {a : Int} (h : Thn L C p i j) (ha : L[j]? = some a) (hp : p a = true) : Thn L (C.set i a) p (i + 1) (j + 1) := by
  have hj := (List.getElem?_eq_some_iff.1 ha).1
  have hl := h.len
  have hle := h.le
  refine ⟨by simp [h.len], by omega, ?_, ?_⟩
  · rw [← List.take_append_getElem hj, List.filter_append, ← h.ahead]
    have : L[j] = a := by rw [List.getElem?_eq_getElem hj] at ha; injection ha
    have hi : i < (C.set i a).length := by simp; omega
    rw [← List.take_append_getElem hi]
    simp [this, hp]
    exact List.take_set_of_le (Nat.le_refl _)
  · rw [List.drop_set_of_lt (by omega)]
    have := congrArg (List.drop 1) h.rest
    rwa [List.drop_drop, List.drop_drop] at this
theorem Thn.at {L C : List Int} {p : Int → Bool} {i j : Nat} (h : Thn L C p i j) {a : Int} (ha : L[j]? = some a) : C[j]? = some a := by
  have h1 : (C.drop j)[0]? = (L.drop j)[0]? := by rw [h.rest]
  rw [List.getElem?_drop, List.getElem?_drop] at h1
  simpa [ha] using h1

theorem jvals_set (C : List Int) (i : Nat) (a : Int) : jvals (C.set i a) = (jvals C).set i (.int .i64 a) := by unfold jvals; rw [List.map_set]
structure Bx where
  fr : Int
  la : Int
  no : Option Addr
  nc : Nat
  nx : List Int
def Bx.pl (y : Bx) : Int × Int × List Int := (y.fr, y.la, y.nx)
def kcells (y : Bx) : List Value := [.int .i64 y.fr, .int .i64 y.la, .slice y.no y.nx.length y.nc]
def kvals (G : List Bx) : List Value := G.flatMap kcells
theorem kvals_length (l : List Bx) : (kvals l).length = l.length * 3 := by
  unfold kvals
  induction l with
  | nil => rfl
  | cons f l ih => rw [List.flatMap_cons, List.length_append, ih]; simp [kcells]; omega
theorem kvals_snoc (l : List Bx) (y : Bx) : kvals (l ++ [y]) = kvals l ++ kcells y := by unfold kvals; simp
theorem kvals_get : ∀ {l : List Bx} {i : Nat} {f : Bx}, l[i]? = some f → (kvals l)[i * 3]? = some (.int .i64 f.fr) ∧ (kvals l)[i * 3 + 1]? = some (.int .i64 f.la) ∧ (kvals l)[i * 3 + 2]? = some (.slice f.no f.nx.length f.nc)
  | [], i, f, h => by simp at h
  | g :: l, 0, f, h => by
    simp at h
    subst h
    unfold kvals
    rw [List.flatMap_cons]
    exact ⟨rfl, rfl, rfl⟩
  | g :: l, i + 1, f, h => by
    have h' : l[i]? = some f := by simpa using h
    obtain ⟨h1, h2, h3⟩ := kvals_get h'
    unfold kvals at h1 h2 h3 ⊢
    rw [List.flatMap_cons]
    refine ⟨?_, ?_, ?_⟩
    · rw [List.getElem?_append_right (by simp [kcells]; omega)]
      rw [← h1]; congr 1; simp [kcells]; omega
    · rw [List.getElem?_append_right (by simp [kcells]; omega)]
      rw [← h2]; congr 1; simp [kcells]; omega
    · rw [List.getElem?_append_right (by simp [kcells]; omega)]
      rw [← h3]; congr 1; simp [kcells]; omega
theorem kcells_one (y : Bx) : ∀ u ∈ kcells y, u.oneCell' = true := by
  intro u hu
  simp only [kcells, List.mem_cons, List.mem_nil_iff, or_false] at hu
  rcases hu with rfl | rfl | rfl <;> rfl
theorem infoBk : (Try.prog.info? 25).map (fun i => (i.zero, i.size, i.bytes)) = some (some (.agg #[.int .i64 0, .int .i64 0, .slice none 0 0]), 3, 40) := by kernel_rfl
def OwnK (w : World) (base : Nat) (v : Value) (G : List Bx) : Prop := w.ownsRow base 25 3 v G.length (kvals G)
def NxOwn (w : World) (base : Nat) (y : Bx) : Prop := OwnJ w base (.slice y.no y.nx.length y.nc) y.nx
theorem rowTyB {w : World} {B : Nat} {t : TypeId} {s : Nat} {v : Value} {n : Nat} {cs : List Value} (h : w.ownsRow B t s v n cs) : ∀ k, v.ownBlock = some k → ∃ cur, w.heap[k]? = some (.cells cur t (0, 0)) := by
  intro k hk
  rcases h.2 with ⟨rfl, _⟩ | ⟨g, cap, cur, rfl, _, hh, _⟩
  · cases hk
  · cases hk; exact ⟨cur, hh⟩
theorem rows_grownB {w w' : World} {base : Nat} {t : TypeId} {s : Nat} {v : Value} {n : Nat} {cs : List Value} {row : Option Nat} (h : w.ownsRow base t s v n cs) (hg : w.grownBy w' row) (hne : ∀ g, v.ownBlock = some g → row ≠ some g) : w'.ownsRow base t s v n cs := by
  refine ⟨h.1, ?_⟩
  rcases h.2 with h1 | ⟨g, cap, cur, hv, hbg, hh, r⟩
  · exact Or.inl h1
  · refine Or.inr ⟨g, cap, cur, hv, hbg, ?_, r⟩
    rw [hg.block g (Array.getElem?_eq_some_iff.1 hh).1 (fun e => hne g (by rw [hv]; rfl) e.symm)]
    exact hh
theorem NxOwn.grown {w w' : World} {base b2 : Nat} {y : Bx} {v : Value} {n : Nat} {cs : List Value} (h : NxOwn w base y) (hv : w.ownsRow b2 25 3 v n cs) (hg : w.grownBy w' v.ownBlock) : NxOwn w' base y := by
  refine rows_grownB h hg ?_
  intro g hb e
  obtain ⟨c1, g1⟩ := rowTyB h g hb
  obtain ⟨c2, g2⟩ := rowTyB hv g e
  rw [g1] at g2
  simp at g2
theorem NxOwn.below {w w' : World} {base : Nat} {y : Bx} (h : NxOwn w base y) (hb : Below w.heap.size w w') : NxOwn w' base y := rowBelowJ h hb

/-! ### What Blocks tells -/
def pD (l : List Ix) (i : Nat) : Int := match l[i]? with | some x => x.p | none => 0
def nxD (l : List Ix) (i : Nat) : List Int := match l[i]? with | some x => (nextD x.p x.op x.a).filter (hasP l) | none => []
def endN (l : List Ix) (ls : List Nat) (k : Nat) : Nat := if k + 1 < ls.length then ls.getD (k + 1) 0 else l.length
def blkN (l : List Ix) (ls : List Nat) (k : Nat) : Int × Int × List Int := (pD l (ls.getD k 0), pD l (endN l ls k - 1), nxD l (endN l ls k - 1))
def bkD (l : List Ix) : List (Int × Int × List Int) := if rsB l = true then (List.range (ldN l l.length).length).map (blkN l (ldN l l.length)) else []
theorem ldN_mem {l : List Ix} {k x : Nat} (h : x ∈ ldN l k) : x < k := by
  unfold ldN at h
  have := (List.mem_filter.1 h).1
  simpa using this
theorem ldN_pair (l : List Ix) (k : Nat) : (ldN l k).Pairwise (· < ·) := List.Pairwise.filter _ List.pairwise_lt_range
theorem endN_in {l : List Ix} {k : Nat} (h : k < (ldN l l.length).length) : (ldN l l.length)[k] < endN l (ldN l l.length) k ∧ endN l (ldN l l.length) k ≤ l.length := by
  unfold endN
  have hm := ldN_mem (List.getElem_mem h)
  split
  · rename_i h2
    rw [List.getD_eq_getElem?_getD, List.getElem?_eq_getElem h2]
    have h3 := ldN_mem (List.getElem_mem h2)
    have h4 := List.pairwise_iff_getElem.1 (ldN_pair l l.length) k (k + 1) h h2 (by omega)
    simp only [Option.getD_some]
    omega
  · omega
end Go.Proofs.Ytdpfinnclnapbaa
