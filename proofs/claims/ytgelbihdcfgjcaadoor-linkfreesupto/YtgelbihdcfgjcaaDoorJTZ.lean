/-
  Texts of contracts and plain lemmas, one behind another; each says at its head what it holds.
-/
import Derived.Test.YtgelbihdcfgjcaaDoorJTY
import Derived.Test.YtgelbihdcfgjcaaDoorNm
/-
  The contract of provisoref02's Fields: what the plain function 'fieldsD' says, in new memory. Conditions: the table fits, and there are at most a million fields.
-/
namespace Go.Proofs.YtgelbihdcfgjcaaDoor
open Go.RowKit
set_option maxRecDepth 20000

theorem rowMono {w : World} {base base' : Nat} {t : TypeId} {s : Nat} {v : Value} {n : Nat} {cs : List Value} (h : w.ownsRow base t s v n cs) (hb : base' ≤ base) : w.ownsRow base' t s v n cs := by
  refine ⟨h.1, ?_⟩
  rcases h.2 with h1 | ⟨g, cap, cur, hv, hbg, r⟩
  · exact Or.inl h1
  · exact Or.inr ⟨g, cap, cur, hv, by omega, r⟩

theorem lineR_length (T : List Cl) : ∀ (k : Nat) (c : Int), (lineR T k c).length ≤ k
  | 0, c => by simp [lineR]
  | k + 1, c => by
    unfold lineR
    split
    · rw [List.length_cons]; have := lineR_length T k (parD T c.toNat); omega
    · simp

theorem flat_step {α : Type} (f : Nat → List α) (L : List Nat) (j : Nat) (hj : j < L.length) : (L.drop j).reverse.flatMap f = (L.drop (j + 1)).reverse.flatMap f ++ f L[j] := by
  rw [List.drop_eq_getElem_cons hj, List.reverse_cons, List.flatMap_append]
  simp
theorem flat_le {α : Type} (f : Nat → List α) (L : List Nat) (j : Nat) : ((L.drop j).reverse.flatMap f).length ≤ (L.reverse.flatMap f).length := by
  have : L.reverse = (L.drop j).reverse ++ (L.take j).reverse := by rw [← List.reverse_append, List.take_append_drop]
  rw [this, List.flatMap_append, List.length_append]
  omega

end Go.Proofs.YtgelbihdcfgjcaaDoor

/-
  Contracts of types.Fields and Find: the fields along the line, the parents' ahead, in new memory; the first one of a name. Conditions: the table fits, and there are at most a million fields.
-/
namespace Go.Proofs.YtgelbihdcfgjcaaDoor
open Go.RowKit Go.Shelf
set_option maxRecDepth 20000

def fieldsB (T : List Cl) (c : Int) : List Fl := (lineB T T.length c).reverse.flatMap (fsD T)

theorem flat_take {α : Type} (f : Nat → List α) (R : List Nat) (j : Nat) (hj : j < R.length) : (R.take (j + 1)).flatMap f = (R.take j).flatMap f ++ f R[j] := by
  rw [← List.take_append_getElem hj, List.flatMap_append]
  simp
theorem flat_take_le {α : Type} (f : Nat → List α) (R : List Nat) (j : Nat) : ((R.take j).flatMap f).length ≤ (R.flatMap f).length := by
  conv => rhs; rw [← List.take_append_drop j R]
  rw [List.flatMap_append, List.length_append]
  omega

theorem fieldsB_ok {W : World} {ao : Option Addr} {T : List Cl} (h : TabAt W ao T) (c : Int) : ∀ f ∈ fieldsB T c, FlOk f := by
  intro f hf
  unfold fieldsB at hf
  obtain ⟨k, _, hk⟩ := List.mem_flatMap.1 hf
  unfold fsD at hk
  cases hT : T[k]? with
  | none => rw [hT] at hk; simp at hk
  | some x =>
    rw [hT] at hk
    obtain ⟨b, off, _, hx⟩ := h k x hT
    obtain ⟨j, hj, rfl⟩ := List.getElem_of_mem hk
    obtain ⟨_, _, _, hfl⟩ := hx.flds j _ (List.getElem?_eq_getElem hj)
    exact ⟨hfl.name, hfl.ty⟩

/-- The first field of a name. -/
def findD : List Fl → ByteArray → Nat → Option (Nat × Nat)
  | [], _, _ => none
  | f :: fs, s, i => if (f.nm.toList == s.toList) = true then some (i, f.ty) else findD fs s (i + 1)
def findV : Option (Nat × Nat) → Value
  | some (i, t) => .tuple #[.int .i64 (i : Int), .int .u8 (t : Int), .bool true]
  | none => .tuple #[.int .i64 0, .int .u8 0, .bool false]

end Go.Proofs.YtgelbihdcfgjcaaDoor

/-
  Contracts of provisoref02's fault, Check and Made: what the plain functions 'faultD' and 'madeD' say; nothing old is turned. Conditions: the table fits; of fault, that the classes ahead are right.
-/
namespace Go.Proofs.YtgelbihdcfgjcaaDoor
open Go.RowKit
set_option maxRecDepth 20000

def scanD (n : Nat) (all : List Fl) : List Fl → List Fl → Int
  | pre, [] => if 32 - (all.length : Int) < (pre.length : Int) then 4 else 0
  | pre, f :: rest => if nameB f.nm = false then 6 else if (hasD all f.nm || hasD pre f.nm) = true then 20 else if storedD n f.ty = false then 22 else scanD n all (pre ++ [f]) rest

def twiceD (T : List Cl) (c : Nat) (s : ByteArray) : Bool := (T.take c).any fun y => y.nm.toList == s.toList
def faultD (T : List Cl) (c : Nat) : Int := match T[c]? with
  | none => 0
  | some x => if 32 ≤ c then 4 else if (!nameB x.nm || isWordD x.nm) = true then 6 else if twiceD T c x.nm = true then 20 else if x.par < -1 ∨ (c : Int) ≤ x.par then 21 else scanD T.length (fieldsD T x.par) [] x.fs

theorem scanD_le (n : Nat) (all : List Fl) : ∀ (rest pre : List Fl), scanD n all pre rest = 0 → all.length + pre.length + rest.length ≤ 32
  | [], pre, h => by
    unfold scanD at h
    by_cases e : 32 - (all.length : Int) < (pre.length : Int)
    · rw [if_pos e] at h; omega
    · simp; omega
  | f :: rest, pre, h => by
    unfold scanD at h
    by_cases e1 : nameB f.nm = false
    · rw [if_pos e1] at h; omega
    · rw [if_neg e1] at h
      by_cases e2 : (hasD all f.nm || hasD pre f.nm) = true
      · rw [if_pos e2] at h; omega
      · rw [if_neg e2] at h
        by_cases e3 : storedD n f.ty = false
        · rw [if_pos e3] at h; omega
        · rw [if_neg e3] at h
          have := scanD_le n all rest (pre ++ [f]) h
          simp at this ⊢
          omega

structure GoodC (T : List Cl) (c : Nat) (x : Cl) : Prop where
  lt : c < 32
  name : nameB x.nm = true
  word : isWordD x.nm = false
  once : twiceD T c x.nm = false
  lo : -1 ≤ x.par
  hi : x.par < (c : Int)
  scan : scanD T.length (fieldsD T x.par) [] x.fs = 0
theorem faultD_zero {T : List Cl} {c : Nat} {x : Cl} (hx : T[c]? = some x) (h : faultD T c = 0) : GoodC T c x := by
  unfold faultD at h
  rw [hx] at h
  simp only at h
  by_cases e1 : 32 ≤ c
  · rw [if_pos e1] at h; omega
  · rw [if_neg e1] at h
    by_cases e2 : (!nameB x.nm || isWordD x.nm) = true
    · rw [if_pos e2] at h; omega
    · rw [if_neg e2] at h
      by_cases e3 : twiceD T c x.nm = true
      · rw [if_pos e3] at h; omega
      · rw [if_neg e3] at h
        by_cases e4 : x.par < -1 ∨ (c : Int) ≤ x.par
        · rw [if_pos e4] at h; omega
        · rw [if_neg e4] at h
          simp at e2
          exact ⟨by omega, e2.1, e2.2, by simpa using e3, by omega, by omega, h⟩

/-- How long a line is let be does not matter where parents stand ahead. -/
theorem lineR_fuel {T : List Cl} {n : Nat} (hn : ∀ k, k < n → parD T k < (k : Int)) : ∀ (m : Nat) (q : Int), q < (n : Int) → q.toNat ≤ m → ∀ k k' : Nat, q + 1 ≤ (k : Int) → q + 1 ≤ (k' : Int) → 0 < k → 0 < k' → lineR T k q = lineR T k' q := by
  intro m
  induction m with
  | zero =>
    intro q hq hm k k' h1 h2 p1 p2
    obtain ⟨a, rfl⟩ : ∃ a, k = a + 1 := ⟨k - 1, by omega⟩
    obtain ⟨b, rfl⟩ : ∃ b, k' = b + 1 := ⟨k' - 1, by omega⟩
    by_cases hc : 0 ≤ q ∧ q < (T.length : Int)
    · rw [lineR, if_pos hc, lineR, if_pos hc]
      congr 1
      have := hn q.toNat (by omega)
      rw [lineR_out _ (by omega), lineR_out _ (by omega)]
    · rw [lineR_out _ hc, lineR_out _ hc]
  | succ m ih =>
    intro q hq hm k k' h1 h2 p1 p2
    obtain ⟨a, rfl⟩ : ∃ a, k = a + 1 := ⟨k - 1, by omega⟩
    obtain ⟨b, rfl⟩ : ∃ b, k' = b + 1 := ⟨k' - 1, by omega⟩
    by_cases hc : 0 ≤ q ∧ q < (T.length : Int)
    · rw [lineR, if_pos hc, lineR, if_pos hc]
      congr 1
      have h3 := hn q.toNat (by omega)
      by_cases h4 : 0 ≤ parD T q.toNat
      · exact ih _ (by omega) (by omega) a b (by omega) (by omega) (by omega) (by omega)
      · rw [lineR_out _ (by omega), lineR_out _ (by omega)]
    · rw [lineR_out _ hc, lineR_out _ hc]

/-- The line of a class whose parents stand ahead. -/
theorem lineD_step {T : List Cl} {n : Nat} (hn : ∀ k, k < n → parD T k < (k : Int)) {p : Nat} (hp : p < n) (hl : p < T.length) : lineD T (p : Int) = p :: lineD T (parD T p) := by
  unfold lineD
  rw [lineR_in _ hl]
  congr 1
  have h3 := hn p hp
  by_cases h4 : 0 ≤ parD T p
  · exact lineR_fuel hn (parD T p).toNat _ (by omega) (Nat.le_refl _) _ _ (by omega) (by omega) (by omega) (by omega)
  · rw [lineR_out _ (by omega), lineR_out _ (by omega)]
theorem fieldsD_step {T : List Cl} {n : Nat} (hn : ∀ k, k < n → parD T k < (k : Int)) {p : Nat} (hp : p < n) (hl : p < T.length) : fieldsD T (p : Int) = fieldsD T (parD T p) ++ fsD T p := by
  unfold fieldsD
  rw [lineD_step hn hp hl, List.reverse_cons, List.flatMap_append]
  simp
theorem fieldsD_out {T : List Cl} {c : Int} (h : c < 0) : fieldsD T c = [] := by
  unfold fieldsD lineD
  rw [lineR_out _ (by omega)]
  rfl
theorem prev_par {T : List Cl} {c : Nat} (hc : c ≤ T.length) (h : ∀ k, k < c → faultD T k = 0) : ∀ k, k < c → parD T k < (k : Int) := by
  intro k hk
  have hx := List.getElem?_eq_getElem (show k < T.length by omega)
  rw [parD_at hx]
  exact (faultD_zero hx (h k hk)).hi
theorem fieldsD_le {T : List Cl} {c : Nat} (hc : c ≤ T.length) (h : ∀ k, k < c → faultD T k = 0) (p : Int) (hp : p < (c : Int)) : (fieldsD T p).length ≤ 32 := by
  by_cases h0 : p < 0
  · rw [fieldsD_out h0]; simp
  · obtain ⟨q, rfl⟩ : ∃ q : Nat, p = (q : Int) := ⟨p.toNat, by omega⟩
    have hx := List.getElem?_eq_getElem (show q < T.length by omega)
    have hg := faultD_zero hx (h q (by omega))
    rw [fieldsD_step (prev_par hc h) (by omega) (by omega), List.length_append, parD_at hx, fsD_at hx]
    have := scanD_le _ _ _ _ hg.scan
    simp at this
    exact this

theorem fieldsD_ok {W : World} {ao : Option Addr} {T : List Cl} (h : TabAt W ao T) (c : Int) : ∀ f ∈ fieldsD T c, FlOk f := by
  intro f hf
  unfold fieldsD at hf
  obtain ⟨k, _, hk⟩ := List.mem_flatMap.1 hf
  unfold fsD at hk
  cases hT : T[k]? with
  | none => rw [hT] at hk; simp at hk
  | some x =>
    rw [hT] at hk
    obtain ⟨b, off, _, hx⟩ := h k x hT
    obtain ⟨j, hj, rfl⟩ := List.getElem_of_mem hk
    obtain ⟨_, _, _, hfl⟩ := hx.flds j _ (List.getElem?_eq_getElem hj)
    exact ⟨hfl.name, hfl.ty⟩

theorem twiceD_snoc {T : List Cl} {k : Nat} (s : ByteArray) (h : k < T.length) : twiceD T (k + 1) s = (twiceD T k s || (T[k].nm.toList == s.toList)) := by
  unfold twiceD
  rw [← List.take_append_getElem h, List.any_append]
  simp
theorem twiceD_found {T : List Cl} {k c : Nat} {s : ByteArray} (hk : k < c) (h : k < T.length) (hb : (T[k].nm.toList == s.toList) = true) : twiceD T c s = true := by
  unfold twiceD
  rw [List.any_eq_true]
  exact ⟨T[k], by rw [List.mem_take_iff_getElem]; exact ⟨k, by omega, rfl⟩, hb⟩
theorem FsAt.take {W : World} {fo : Option Addr} {fs : List Fl} (h : FsAt W fo fs) (k : Nat) : FsAt W fo (fs.take k) := fun i f hf => by
  rw [List.getElem?_take] at hf
  by_cases e : i < k
  · rw [if_pos e] at hf; exact h i f hf
  · rw [if_neg e] at hf; simp at hf
theorem scanD_step (n : Nat) (all fs : List Fl) (k : Nat) (hk : k < fs.length) : scanD n all (fs.take k) (fs.drop k) = if nameB fs[k].nm = false then 6 else if (hasD all fs[k].nm || hasD (fs.take k) fs[k].nm) = true then 20 else if storedD n fs[k].ty = false then 22 else scanD n all (fs.take (k + 1)) (fs.drop (k + 1)) := by
  rw [List.drop_eq_getElem_cons hk, scanD, List.take_append_getElem hk]

theorem faultD_6 {T : List Cl} {c : Nat} {x : Cl} (hx : T[c]? = some x) (h : ¬ 32 ≤ c) (h2 : (!nameB x.nm || isWordD x.nm) = true) : faultD T c = 6 := by
  unfold faultD; rw [hx]; simp only; rw [if_neg h, if_pos h2]
theorem faultD_20 {T : List Cl} {c : Nat} {x : Cl} (hx : T[c]? = some x) (h : ¬ 32 ≤ c) (h2 : ¬ (!nameB x.nm || isWordD x.nm) = true) (h3 : twiceD T c x.nm = true) : faultD T c = 20 := by
  unfold faultD; rw [hx]; simp only; rw [if_neg h, if_neg h2, if_pos h3]
theorem faultD_21 {T : List Cl} {c : Nat} {x : Cl} (hx : T[c]? = some x) (h : ¬ 32 ≤ c) (h2 : ¬ (!nameB x.nm || isWordD x.nm) = true) (h3 : ¬ twiceD T c x.nm = true) (h4 : x.par < -1 ∨ (c : Int) ≤ x.par) : faultD T c = 21 := by
  unfold faultD; rw [hx]; simp only; rw [if_neg h, if_neg h2, if_neg h3, if_pos h4]
theorem faultD_scan {T : List Cl} {c : Nat} {x : Cl} (hx : T[c]? = some x) (h : ¬ 32 ≤ c) (h2 : ¬ (!nameB x.nm || isWordD x.nm) = true) (h3 : ¬ twiceD T c x.nm = true) (h4 : ¬ (x.par < -1 ∨ (c : Int) ≤ x.par)) : faultD T c = scanD T.length (fieldsD T x.par) [] x.fs := by
  unfold faultD; rw [hx]; simp only; rw [if_neg h, if_neg h2, if_neg h3, if_neg h4]

def checkD (T : List Cl) : Nat → Nat → Nat × Int
  | 0, _ => (0, 0)
  | k + 1, c => if faultD T c = 0 then checkD T k (c + 1) else (c, faultD T c)
/-- May the table be? -/
def madeD (T : List Cl) : Bool := (List.range T.length).all fun c => decide (faultD T c = 0)
theorem madeD_yes {T : List Cl} (h : ∀ k, k < T.length → faultD T k = 0) : madeD T = true := by
  unfold madeD
  rw [List.all_eq_true]
  intro c hc
  exact decide_eq_true (h c (List.mem_range.1 hc))
theorem madeD_no {T : List Cl} {k : Nat} (hk : k < T.length) (h : faultD T k ≠ 0) : madeD T = false := by
  unfold madeD
  rw [List.all_eq_false]
  exact ⟨k, List.mem_range.2 hk, by simpa using h⟩
theorem madeD_all {T : List Cl} (h : madeD T = true) : ∀ k, k < T.length → faultD T k = 0 := by
  intro k hk
  unfold madeD at h
  rw [List.all_eq_true] at h
  exact of_decide_eq_true (h k (List.mem_range.2 hk))

/-- Where the first fault is. -/
structure IsFirst (T : List Cl) (n : Nat) (e : Int) : Prop where
  ahead : ∀ k, k < n → faultD T k = 0
  one : (n < T.length ∧ e ≠ 0 ∧ faultD T n = e)
end Go.Proofs.YtgelbihdcfgjcaaDoor

/-
  What holds of the fields of a table that may be: a parent's are the beginning of its children's, and no name stands twice. No Go in it.
-/
namespace Go.Proofs.YtgelbihdcfgjcaaDoor
open Go.RowKit
set_option maxRecDepth 20000

theorem lineB_bel {T : List Cl} {b b' : Nat} {c : Int} (h : c < (b : Int)) (h' : c < (b' : Int)) : lineB T b c = lineB T b' c := by
  by_cases h0 : 0 ≤ c
  · obtain ⟨k, rfl⟩ : ∃ k : Nat, c = (k : Int) := ⟨c.toNat, by omega⟩
    rw [lineB_in (by omega), lineB_in (by omega)]
  · rw [lineB_out (by omega), lineB_out (by omega)]

theorem made_par {T : List Cl} (h : madeD T = true) : ∀ k, k < T.length → parD T k < (k : Int) := prev_par (Nat.le_refl _) (madeD_all h)
theorem lineB_step {T : List Cl} (h : madeD T = true) {c : Nat} (hc : c < T.length) : lineB T T.length (c : Int) = c :: lineB T T.length (parD T c) := by
  rw [lineB_in hc]
  congr 1
  have := made_par h c hc
  exact lineB_bel this (by omega)
theorem line_same {T : List Cl} (h : madeD T = true) : ∀ (n : Nat) (c : Int), c < (T.length : Int) → c.toNat ≤ n → lineD T c = lineB T T.length c := by
  intro n
  induction n with
  | zero =>
    intro c hc hn
    by_cases h0 : 0 ≤ c
    · obtain ⟨k, rfl⟩ : ∃ k : Nat, c = (k : Int) := ⟨c.toNat, by omega⟩
      have := made_par h k (by omega)
      rw [lineD_step (made_par h) (by omega) (by omega), lineB_step h (by omega)]
      congr 1
      unfold lineD
      rw [lineR_out _ (by omega), lineB_out (by omega)]
    · unfold lineD
      rw [lineR_out _ (by omega), lineB_out (by omega)]
  | succ n ih =>
    intro c hc hn
    by_cases h0 : 0 ≤ c
    · obtain ⟨k, rfl⟩ : ∃ k : Nat, c = (k : Int) := ⟨c.toNat, by omega⟩
      have := made_par h k (by omega)
      rw [lineD_step (made_par h) (by omega) (by omega), lineB_step h (by omega), ih _ (by omega) (by omega)]
    · unfold lineD
      rw [lineR_out _ (by omega), lineB_out (by omega)]
theorem fields_same {T : List Cl} (h : madeD T = true) {c : Int} (hc : c < (T.length : Int)) : fieldsD T c = fieldsB T c := by
  unfold fieldsD fieldsB
  rw [line_same h _ c hc (Nat.le_refl _)]
theorem fieldsB_le {T : List Cl} (h : madeD T = true) {c : Int} (hc : c < (T.length : Int)) : (fieldsB T c).length ≤ 32 := by
  rw [← fields_same h hc]
  exact fieldsD_le (Nat.le_refl _) (madeD_all h) c hc
theorem fieldsB_step {T : List Cl} (h : madeD T = true) {c : Nat} (hc : c < T.length) : fieldsB T (c : Int) = fieldsB T (parD T c) ++ fsD T c := by
  unfold fieldsB
  rw [lineB_step h hc, List.reverse_cons, List.flatMap_append]
  simp

/-- No name stands twice. -/
def Names (l : List Fl) : Prop := ∀ (i j : Nat) f g, l[i]? = some f → l[j]? = some g → i < j → (f.nm.toList == g.nm.toList) = false
theorem Names.snoc {l : List Fl} {f : Fl} (h : Names l) (hf : hasD l f.nm = false) : Names (l ++ [f]) := by
  intro i j a b ha hb hij
  have hj := (List.getElem?_eq_some_iff.1 hb).1
  simp at hj
  rw [List.getElem?_append_left (by omega)] at ha
  by_cases e : j < l.length
  · rw [List.getElem?_append_left e] at hb
    exact h i j a b ha hb hij
  · rw [List.getElem?_append_right (by omega)] at hb
    have e2 : j - l.length = 0 := by omega
    rw [e2] at hb
    simp at hb
    subst hb
    unfold hasD at hf
    rw [List.any_eq_false] at hf
    simpa using hf a (List.mem_of_getElem? ha)
theorem hasD_append (l m : List Fl) (s : ByteArray) : hasD (l ++ m) s = (hasD l s || hasD m s) := by unfold hasD; rw [List.any_append]
theorem scan_names (n : Nat) (all : List Fl) : ∀ (rest pre : List Fl), scanD n all pre rest = 0 → Names (all ++ pre) → Names (all ++ pre ++ rest)
  | [], pre, _, h => by rw [List.append_nil]; exact h
  | f :: rest, pre, hs, h => by
    unfold scanD at hs
    by_cases e1 : nameB f.nm = false
    · rw [if_pos e1] at hs; omega
    · rw [if_neg e1] at hs
      by_cases e2 : (hasD all f.nm || hasD pre f.nm) = true
      · rw [if_pos e2] at hs; omega
      · rw [if_neg e2] at hs
        by_cases e3 : storedD n f.ty = false
        · rw [if_pos e3] at hs; omega
        · rw [if_neg e3] at hs
          have := scan_names n all rest (pre ++ [f]) hs (by rw [← List.append_assoc]; exact h.snoc (by rw [hasD_append]; simpa using e2))
          simpa using this
theorem names_nil : Names [] := fun i j f g h => by simp at h
theorem made_names {T : List Cl} (h : madeD T = true) : ∀ (n : Nat) (c : Int), c < (T.length : Int) → c.toNat ≤ n → Names (fieldsB T c) := by
  intro n
  have neg : ∀ c : Int, c < 0 → Names (fieldsB T c) := fun c hc => by
    unfold fieldsB
    rw [lineB_out (by omega)]
    exact names_nil
  have one : ∀ k : Nat, k < T.length → Names (fieldsB T (parD T k)) → Names (fieldsB T (k : Int)) := fun k hk hn => by
    have hx := List.getElem?_eq_getElem hk
    have hg := faultD_zero hx (madeD_all h k hk)
    rw [fieldsB_step h hk, fsD_at hx]
    have hs := hg.scan
    rw [fields_same h (by have := hg.hi; omega), ← parD_at hx] at hs
    have := scan_names _ _ _ _ hs (by rw [List.append_nil]; exact hn)
    rw [List.append_nil] at this
    exact this
  induction n with
  | zero =>
    intro c hc hn
    by_cases h0 : 0 ≤ c
    · obtain ⟨k, rfl⟩ : ∃ k : Nat, c = (k : Int) := ⟨c.toNat, by omega⟩
      have := made_par h k (by omega)
      exact one k (by omega) (neg _ (by omega))
    · exact neg c (by omega)
  | succ n ih =>
    intro c hc hn
    by_cases h0 : 0 ≤ c
    · obtain ⟨k, rfl⟩ : ∃ k : Nat, c = (k : Int) := ⟨c.toNat, by omega⟩
      have := made_par h k (by omega)
      exact one k (by omega) (ih _ (by omega) (by omega))
    · exact neg c (by omega)
theorem findD_at : ∀ (fs : List Fl) (i k : Nat) (x : Fl), fs[i]? = some x → (∀ j, j < i → ∀ g, fs[j]? = some g → (g.nm.toList == x.nm.toList) = false) → findD fs x.nm k = some (k + i, x.ty)
  | [], i, k, x, h, _ => by simp at h
  | f :: fs, 0, k, x, h, _ => by
    simp at h
    subst h
    unfold findD
    rw [if_pos (by simp)]
    rfl
  | f :: fs, i + 1, k, x, h, hn => by
    unfold findD
    have h0 := hn 0 (by omega) f rfl
    rw [if_neg (by rw [h0]; simp)]
    have := findD_at fs i (k + 1) x (by simpa using h) (fun j hj g hg => hn (j + 1) (by omega) g (by simpa using hg))
    rw [this]
    congr 2
    omega
theorem fields_prefix {T : List Cl} {p c : Nat} (h : p ∈ lineB T T.length (c : Int)) : ∃ rest, fieldsB T (c : Int) = fieldsB T (p : Int) ++ rest := by
  have hp : p < T.length := lineB_lt T _ _ _ (Nat.le_refl _) p h
  obtain ⟨pre, hpre⟩ := lineB_tail T _ _ _ (Nat.le_refl _) p h
  rw [← lineB_in hp] at hpre
  refine ⟨pre.reverse.flatMap (fsD T), ?_⟩
  unfold fieldsB
  rw [← hpre, List.reverse_append, List.flatMap_append]

end Go.Proofs.YtgelbihdcfgjcaaDoor
