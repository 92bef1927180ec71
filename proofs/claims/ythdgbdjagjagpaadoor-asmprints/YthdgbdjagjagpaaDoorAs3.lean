/-
  Code as text, plain: the text of instructions with labels; the targets met in their order; lengths. No Go in it.
-/
import Derived.Test.YthdgbdjagjagpaaDoorAs2
import Derived.Test.YthdgbdjagjagpaaDoorSc1
namespace Go.Proofs.YthdgbdjagjagpaaDoor
open Go.RowKit
set_option maxRecDepth 20000
set_option linter.unusedVariables false

def insT (op : Nat) (a b : Int) : List UInt8 := Lib.join (insW op a b) [32]
def lineT (x : Ix) : List UInt8 := [32, 32] ++ insT x.op x.a x.b ++ [10]
def labT (p : Int) : List UInt8 := labL p ++ [58, 10]
def stepT (ts : List Int) (x : Ix) : List UInt8 := (if x.p ∈ ts then labT x.p else []) ++ lineT x
def txtT (ts : List Int) (l : List Ix) : List UInt8 := l.flatMap (stepT ts)
/-- The operands, as the document adds them. -/
def opsT (op : Nat) (a b : Int) : List UInt8 := (if jmpN op then [32, 108] ++ Lib.itoa a else if 0 < opnN op then [32] ++ Lib.itoa a else []) ++ (if opnN op = 2 then [32] ++ Lib.itoa b else [])
theorem jmp_opn {op : Nat} (h : jmpN op = true) : opnN op = 1 := by
  unfold jmpN at h
  rcases (show op = 19 ∨ op = 20 by simpa using h) with rfl | rfl <;> decide
theorem opn_le (op : Nat) : opnN op ≤ 2 := by unfold opnN; split; omega; split <;> omega
theorem ins_ops (op : Nat) (a b : Int) : insT op a b = nmL op ++ opsT op a b := by
  unfold insT insW opsT
  cases hj : jmpN op with
  | true =>
    have := jmp_opn hj
    rw [this]
    simp [Lib.join, labL]
  | false =>
    have := opn_le op
    rcases (show opnN op = 0 ∨ opnN op = 1 ∨ opnN op = 2 by omega) with h | h | h <;> rw [h] <;> simp [Lib.join]
theorem nm_len (op : Nat) : (nmL op).length ≤ 10 := by
  unfold nmL nmD
  split
  · rename_i h
    have hall : ∀ o, o < 34 → (wC o).data.toList.length ≤ 10 := by decide
    exact hall op h
  · simp
structure FitX (x : Ix) : Prop where
  p0 : 0 ≤ x.p
  p1 : x.p ≤ 4096
  op : x.op < 34
  a0 : -9223372036854775808 ≤ x.a
  a1 : x.a ≤ 9223372036854775807
  b0 : 0 ≤ x.b
  b1 : x.b ≤ 4294967296
theorem ops_len {op : Nat} {a b : Int} (a0 : -9223372036854775808 ≤ a) (a1 : a ≤ 9223372036854775807) (b0 : -9223372036854775808 ≤ b) (b1 : b ≤ 9223372036854775807) : (opsT op a b).length ≤ 50 := by
  have h1 := itoa_len a a0 a1
  have h2 := itoa_len b b0 b1
  unfold opsT
  rw [List.length_append]
  split <;> split <;> (try split) <;> simp <;> omega
theorem line_len {x : Ix} (h : FitX x) : (lineT x).length ≤ 70 := by
  have h1 := ops_len (op := x.op) h.a0 h.a1 (b := x.b) (by have := h.b0; omega) (by have := h.b1; omega)
  have h2 := nm_len x.op
  unfold lineT
  rw [ins_ops]
  simp
  omega
theorem lab_len {x : Ix} (h : FitX x) : (labT x.p).length ≤ 30 := by
  have h1 := itoa_len x.p (by have := h.p0; omega) (by have := h.p1; omega)
  unfold labT labL
  simp
  omega
theorem step_len {ts : List Int} {x : Ix} (h : FitX x) : (stepT ts x).length ≤ 100 := by
  have h1 := line_len h
  have h2 := lab_len h
  unfold stepT
  rw [List.length_append]
  split
  · omega
  · simp; omega
theorem txt_len {ts : List Int} : ∀ {l : List Ix}, (∀ x ∈ l, FitX x) → (txtT ts l).length ≤ 100 * l.length
  | [], _ => by simp [txtT]
  | x :: t, h => by
    have h1 := step_len (ts := ts) (h x List.mem_cons_self)
    have h2 := txt_len (ts := ts) (l := t) (fun y hy => h y (List.mem_cons_of_mem _ hy))
    have e : txtT ts (x :: t) = stepT ts x ++ txtT ts t := by unfold txtT; rw [List.flatMap_cons]
    rw [e, List.length_append, List.length_cons]
    omega
theorem txt_snoc (ts : List Int) (l : List Ix) (x : Ix) : txtT ts (l ++ [x]) = txtT ts l ++ stepT ts x := by unfold txtT; simp
theorem dB_bd (op : Nat) (t : List UInt8) (h : op < 34) : 0 ≤ dB op t ∧ dB op t ≤ 4294967296 := by
  have h1 := beNI_lt ((t.drop (wA op)).take (wB op))
  have h2 : wB op ≤ 4 := by
    have hall : ∀ o, o < 34 → wB o ≤ 4 := by decide
    exact hall op h
  have h3 : ((t.drop (wA op)).take (wB op)).length ≤ 4 := by rw [List.length_take]; omega
  have h4 : 256 ^ ((t.drop (wA op)).take (wB op)).length ≤ 256 ^ 4 := Nat.pow_le_pow_right (by omega) h3
  have h5 : beNI ((t.drop (wA op)).take (wB op)) < 4294967296 := Nat.lt_of_lt_of_le h1 h4
  unfold dB
  omega
theorem ixD_bdB {k : Nat} {l : List UInt8} (h : dE l = 0) : 0 ≤ (ixD k l).b ∧ (ixD k l).b ≤ 4294967296 := by
  have ho := (ixD_ok (k := k) h).1
  cases l with
  | nil => simp [dE] at h
  | cons x t => exact dB_bd _ _ ho
theorem sc_bdB (L : List UInt8) : ∀ f k, ∀ x ∈ (scD L f k).1, 0 ≤ x.b ∧ x.b ≤ 4294967296 := by
  intro f
  induction f with
  | zero => intro k x hx; cases hx
  | succ f ih =>
    intro k x hx
    by_cases h : k < L.length
    · by_cases he : dE (L.drop k) = 0
      · rw [sc_good h he] at hx
        rcases List.mem_cons.1 hx with hx | hx
        · rw [hx]; exact ixD_bdB he
        · exact ih _ x hx
      · rw [sc_bad h he] at hx; cases hx
    · rw [sc_end h] at hx; cases hx
theorem scR_bdB (L : List UInt8) : ∀ x ∈ (scR L).1, 0 ≤ x.b ∧ x.b ≤ 4294967296 := by
  intro x hx
  unfold scR at hx
  by_cases h : 4096 < L.length
  · rw [if_pos h] at hx; cases hx
  · rw [if_neg h] at hx
    split at hx
    · exact sc_bdB L _ _ x hx
    · cases hx
theorem fit_of {L : List UInt8} (h : xok (scR L).1) : ∀ x ∈ (scR L).1, FitX x := fun x hx =>
  ⟨(h x hx).2.1, (h x hx).2.2, (h x hx).1, (scR_bd L x hx).1, (scR_bd L x hx).2, (scR_bdB L x hx).1, (scR_bdB L x hx).2⟩
/-- Instructions one behind the other. -/
def UpA : List Ix → Prop
  | [] => True
  | x :: t => (∀ y ∈ t, x.p < y.p) ∧ UpA t
theorem sc_up (L : List UInt8) : ∀ f k, UpA (scD L f k).1 ∧ ∀ x ∈ (scD L f k).1, (k : Int) ≤ x.p := by
  intro f
  induction f with
  | zero => intro k; exact ⟨trivial, fun x hx => by cases hx⟩
  | succ f ih =>
    intro k
    by_cases h : k < L.length
    · by_cases he : dE (L.drop k) = 0
      · rw [sc_good h he]
        obtain ⟨_, hp, hs1, hs2⟩ := ixD_ok (k := k) he
        have hi := ih (k + sizeD (ixD k (L.drop k)).op)
        refine ⟨⟨fun y hy => ?_, hi.1⟩, fun x hx => ?_⟩
        · have := hi.2 y hy; omega
        · rcases List.mem_cons.1 hx with hx | hx
          · rw [hx]; omega
          · have := hi.2 x hx; omega
      · rw [sc_bad h he]; exact ⟨trivial, fun x hx => by cases hx⟩
    · rw [sc_end h]; exact ⟨trivial, fun x hx => by cases hx⟩
theorem scR_up (L : List UInt8) : UpA (scR L).1 := by
  unfold scR
  split
  · exact trivial
  · split
    · exact (sc_up L _ _).1
    · exact trivial
theorem UpA.split {r : List Ix} {x : Ix} : ∀ (A : List Ix), UpA (A ++ x :: r) → (∀ y ∈ A, y.p < x.p) ∧ (∀ y ∈ r, x.p < y.p)
  | [], h => ⟨fun y hy => (by cases hy), h.1⟩
  | z :: A, h => by
    have := UpA.split (r := r) (x := x) A h.2
    refine ⟨fun y hy => ?_, this.2⟩
    rcases List.mem_cons.1 hy with hy | hy
    · rw [hy]; exact h.1 x (by simp)
    · exact this.1 y hy
/-- The targets that were not met yet. -/
def remT (ts : List Int) (A : List Ix) : List Int := ts.filter fun t => !hasP A t
theorem hasP_mem {l : List Ix} {t : Int} : hasP l t = true ↔ ∃ y ∈ l, y.p = t := by unfold hasP; simp
theorem hasP_snoc (A : List Ix) (x : Ix) (t : Int) : hasP (A ++ [x]) t = (hasP A t || decide (x.p = t)) := by unfold hasP; simp
theorem filt_head {P : Int → Bool} {x : Int} : ∀ {ts : List Int}, AscJ ts → (∀ t ∈ ts, P t = true → x ≤ t) → P x = true → x ∈ ts → ts.filter P = x :: ts.filter (fun t => P t && !decide (x = t))
  | [], _, _, _, h => by cases h
  | t :: r, ha, hm, hp, hx => by
    have hr := (List.pairwise_cons.1 ha).1
    have har : AscJ r := (List.pairwise_cons.1 ha).2
    by_cases e : x = t
    · subst e
      rw [List.filter_cons_of_pos hp, List.filter_cons_of_neg (by simp)]
      congr 1
      apply List.filter_congr
      intro y hy
      have := hr y hy
      have : ¬ x = y := by omega
      simp [this]
    · have hxr : x ∈ r := by
        rcases List.mem_cons.1 hx with h | h
        · exact absurd h e
        · exact h
      have hlt := hr x hxr
      have hpt : P t = false := by
        cases h : P t with
        | false => rfl
        | true => have := hm t List.mem_cons_self h; omega
      rw [List.filter_cons_of_neg (by rw [hpt]; simp), List.filter_cons_of_neg (by rw [hpt]; simp)]
      exact filt_head har (fun y hy => hm y (List.mem_cons_of_mem _ hy)) hp hxr
theorem rem_hit {l A r : List Ix} {x : Ix} {ts : List Int} (hl : l = A ++ x :: r) (hu : UpA l) (ha : AscJ ts) (hh : ∀ t ∈ ts, hasP l t = true) (hx : x.p ∈ ts) : remT ts A = x.p :: remT ts (A ++ [x]) := by
  subst hl
  obtain ⟨h1, h2⟩ := UpA.split (r := r) (x := x) A hu
  have hpx : (!hasP A x.p) = true := by
    cases h : hasP A x.p with
    | false => rfl
    | true => obtain ⟨y, hy, e⟩ := hasP_mem.1 h; have := h1 y hy; omega
  have e : remT ts (A ++ [x]) = ts.filter (fun t => (!hasP A t) && !decide (x.p = t)) := by
    unfold remT
    apply List.filter_congr
    intro t _
    rw [hasP_snoc, Bool.not_or]
  rw [e]
  refine filt_head ha (fun t ht hp => ?_) hpx hx
  obtain ⟨y, hy, e2⟩ := hasP_mem.1 (hh t ht)
  rcases List.mem_append.1 hy with hy | hy
  · have : hasP A t = true := hasP_mem.2 ⟨y, hy, e2⟩
    rw [this] at hp; cases hp
  · rcases List.mem_cons.1 hy with hy | hy
    · rw [← e2, hy]; exact Int.le_refl _
    · have := h2 y hy; omega
theorem rem_miss {A : List Ix} {x : Ix} {ts : List Int} (hx : x.p ∉ ts) : remT ts A = remT ts (A ++ [x]) ∧ ∀ t r, remT ts A = t :: r → t ≠ x.p := by
  refine ⟨?_, fun t r e h => ?_⟩
  · unfold remT
    apply List.filter_congr
    intro t ht
    have : ¬ x.p = t := fun e => hx (by rw [e]; exact ht)
    rw [hasP_snoc]
    simp [this]
  · have : t ∈ remT ts A := by rw [e]; exact List.mem_cons_self
    exact hx (by rw [← h]; exact (List.mem_filter.1 this).1)
theorem dE_51 (l : List UInt8) : dE l ≠ 51 := by
  unfold dE
  split
  · decide
  · split
    · split
      · decide
      · split <;> decide
    · decide
theorem sc_51 (L : List UInt8) : ∀ f k, (scD L f k).2.2 ≠ 51 := by
  intro f
  induction f with
  | zero => intro k; show (0 : Int) ≠ 51; decide
  | succ f ih =>
    intro k
    by_cases h : k < L.length
    · by_cases he : dE (L.drop k) = 0
      · rw [sc_good h he]; exact ih _
      · rw [sc_bad h he]; exact dE_51 _
    · rw [sc_end h]; show (0 : Int) ≠ 51; decide
theorem remT_nil (ts : List Int) : remT ts [] = ts := by
  unfold remT
  rw [List.filter_eq_self]
  intro t _
  rfl
end Go.Proofs.YthdgbdjagjagpaaDoor
