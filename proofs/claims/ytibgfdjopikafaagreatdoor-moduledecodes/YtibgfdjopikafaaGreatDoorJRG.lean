/-
  Texts of contracts and plain lemmas, one behind another; each says at its head what it holds.
-/
import Derived.Test.YtibgfdjopikafaaGreatDoorKMp1
import Derived.Test.YtibgfdjopikafaaGreatDoorJDB
import Derived.Test.YtibgfdjopikafaaGreatDoorJTK
/-
  The document's cursor over a module's file, plain: what each of its calls tells, and how it stands then; beside the reader's parsers. No Go in it.
-/
namespace Go.Proofs.YtibgfdjopikafaaGreatDoor
open Go.RowKit
set_option maxRecDepth 20000
set_option linter.unusedVariables false

/-- How a cursor stands: where it is, the place of the first fault and the fault. -/
structure Cs where
  at_ : Nat
  bad : Nat
  why : Int
def Cs.ok (k : Nat) : Cs := ⟨k, 0, 0⟩
def failS (s : Cs) (a : Nat) (e : Int) : Cs := if s.why = 0 then ⟨s.at_, a, e⟩ else s
def byS (L : List UInt8) (s : Cs) : Nat × Cs := if s.why ≠ 0 then (0, s) else if L.length ≤ s.at_ then (0, failS s L.length 2) else (nmN L s.at_, ⟨s.at_ + 1, s.bad, s.why⟩)
def coS (most : Nat) (L : List UInt8) (s : Cs) : Nat × Cs := if most < (byS L s).1 then (0, failS (byS L s).2 s.at_ 4) else byS L s
def biS (n : Nat) (L : List UInt8) (s : Cs) : List UInt8 × Cs := if s.why ≠ 0 then ([], s) else if L.length - s.at_ < n then ([], failS s L.length 2) else ((L.drop s.at_).take n, ⟨s.at_ + n, s.bad, s.why⟩)
def n2S (n : Nat) (a : Nat) (s : Cs) : Cs := if s.why = 0 ∧ (n = 0 ∨ 24 < n) then failS s a 6 else s
def n4S (l : List UInt8) (a : Nat) (s : Cs) : Cs := if s.why = 0 ∧ nameB ⟨l.toArray⟩ = false then failS s a 6 else s
def naS (L : List UInt8) (s : Cs) : List UInt8 × Cs := ((biS (byS L s).1 L (n2S (byS L s).1 s.at_ (byS L s).2)).1, n4S (biS (byS L s).1 L (n2S (byS L s).1 s.at_ (byS L s).2)).1 s.at_ (biS (byS L s).1 L (n2S (byS L s).1 s.at_ (byS L s).2)).2)
def loS (L : List UInt8) (s : Cs) : List UInt8 × Cs := biS (256 * (byS L s).1 + (byS L (byS L s).2).1) L (byS L (byS L s).2).2
def repS {α : Type} (f : List UInt8 → Cs → α × Cs) : Nat → List UInt8 → Cs → List α × Cs
  | 0, _, s => ([], s)
  | n + 1, L, s => if s.why ≠ 0 then ([], s) else ((f L s).1 :: (repS f n L (f L s).2).1, (repS f n L (f L s).2).2)
def fdS (L : List UInt8) (s : Cs) : FlC × Cs := (((naS L s).1, (byS L (naS L s).2).1), (byS L (naS L s).2).2)
def clS (L : List UInt8) (s : Cs) : ClC × Cs :=
  let a := naS L s
  let b := byS L a.2
  let n := coS 32 L b.2
  let fs := repS fdS n.1 L n.2
  ((a.1, parI b.1, fs.1), fs.2)
def fnS (L : List UInt8) (s : Cs) : FnC × Cs :=
  let a := naS L s
  let n := coS 8 L a.2
  let ps := repS byS n.1 L n.2
  let rt := byS L ps.2
  let lo := byS L rt.2
  let cd := loS L lo.2
  ((a.1, (ps.1, rt.1), (lo.1 : Int), cd.1), cd.2)
def c1S (c n : Nat) (a : Nat) (s : Cs) : Cs := if s.why = 0 ∧ (1 < c ∨ (c = 1 ∧ n = 0)) then failS s a 162 else s
def e1S (L : List UInt8) (s : Cs) : Cs := if s.why = 0 ∧ s.at_ < L.length then failS s s.at_ 3 else s
/-! ### Where there is a fault all stays -/
theorem failS_no {s : Cs} (h : s.why ≠ 0) (a : Nat) (e : Int) : failS s a e = s := by unfold failS; rw [if_neg h]
def Stays {α : Type} (f : List UInt8 → Cs → α × Cs) : Prop := ∀ L s, s.why ≠ 0 → (f L s).2 = s
theorem stays_by : Stays byS := fun L s h => by unfold byS; rw [if_pos h]
theorem by_bad {L : List UInt8} {s : Cs} (h : s.why ≠ 0) : byS L s = (0, s) := by unfold byS; rw [if_pos h]
theorem bi_bad {n : Nat} {L : List UInt8} {s : Cs} (h : s.why ≠ 0) : biS n L s = ([], s) := by unfold biS; rw [if_pos h]
theorem stays_co (most : Nat) : Stays (coS most) := fun L s h => by
  unfold coS
  rw [by_bad h]
  show (if most < 0 then _ else _ : Nat × Cs).2 = s
  rw [if_neg (by omega)]
theorem n2S_no {s : Cs} (h : s.why ≠ 0) (n a : Nat) : n2S n a s = s := by unfold n2S; rw [if_neg (fun x => h x.1)]
theorem n4S_no {s : Cs} (h : s.why ≠ 0) (l : List UInt8) (a : Nat) : n4S l a s = s := by unfold n4S; rw [if_neg (fun x => h x.1)]
theorem stays_na : Stays naS := fun L s h => by
  unfold naS
  rw [by_bad h]
  show n4S (biS 0 L (n2S 0 s.at_ s)).1 s.at_ (biS 0 L (n2S 0 s.at_ s)).2 = s
  rw [n2S_no h, bi_bad h]
  exact n4S_no h _ _
theorem stays_lo : Stays loS := fun L s h => by
  unfold loS
  rw [by_bad h]
  show (biS (256 * 0 + (byS L s).1) L (byS L s).2).2 = s
  rw [by_bad h, bi_bad h]
theorem stays_rep {α : Type} (f : List UInt8 → Cs → α × Cs) (n : Nat) : Stays (repS f n) := fun L s h => by
  cases n with
  | zero => rfl
  | succ n => unfold repS; rw [if_pos h]
theorem stays_fd : Stays fdS := fun L s h => by
  show (byS L (naS L s).2).2 = s
  rw [stays_na L s h]
  exact stays_by L s h
theorem stays_cl : Stays clS := fun L s h => by
  show (repS fdS (coS 32 L (byS L (naS L s).2).2).1 L (coS 32 L (byS L (naS L s).2).2).2).2 = s
  rw [stays_na L s h, stays_by L s h, stays_co 32 L s h]
  exact stays_rep _ _ L s h
theorem stays_fn : Stays fnS := fun L s h => by
  show (loS L (byS L (byS L (repS byS (coS 8 L (naS L s).2).1 L (coS 8 L (naS L s).2).2).2).2).2).2 = s
  rw [stays_na L s h, stays_co 8 L s h, stays_rep _ _ L s h, stays_by L s h, stays_by L s h]
  exact stays_lo L s h

/-! ### Beside the parsers -/
def Sim {α : Type} (p : List UInt8 → Nat → PR α) (f : List UInt8 → Cs → α × Cs) : Prop := ∀ L k, k ≤ L.length →
  (∀ x k', p L k = .ok (x, k') → f L (Cs.ok k) = (x, Cs.ok k') ∧ k' ≤ L.length) ∧ (∀ a e, p L k = .error (a, e) → e ≠ 0 ∧ (f L (Cs.ok k)).2.bad = a ∧ (f L (Cs.ok k)).2.why = e)
theorem Sim.by : Sim byP byS := fun L k hk => by
  unfold byP byS
  constructor
  · intro x k' h
    by_cases h1 : L.length - k < 1
    · rw [if_pos h1] at h; cases h
    · rw [if_neg h1] at h
      injection h with h
      injection h with h2 h3
      subst h2 h3
      rw [if_neg (by show ¬ (0 : Int) ≠ 0; omega), if_neg (by show ¬ L.length ≤ k; omega)]
      exact ⟨rfl, by omega⟩
  · intro a e h
    by_cases h1 : L.length - k < 1
    · rw [if_pos h1] at h
      injection h with h
      injection h with h2 h3
      subst h2 h3
      rw [if_neg (by show ¬ (0 : Int) ≠ 0; omega), if_pos (by show L.length ≤ k; omega)]
      exact ⟨by decide, rfl, rfl⟩
    · rw [if_neg h1] at h; cases h
theorem Sim.co (most : Nat) : Sim (coP most) (coS most) := fun L k hk => by
  have hb := Sim.by L k hk
  unfold coP coS
  cases hp : byP L k with
  | error er =>
    obtain ⟨a0, e0⟩ := er
    obtain ⟨h1, h2, h3⟩ := hb.2 a0 e0 hp
    have hz : (byS L (Cs.ok k)).1 = 0 := by
      unfold byP at hp
      unfold byS
      by_cases h1 : L.length - k < 1
      · rw [if_neg (by show ¬ (0 : Int) ≠ 0; omega), if_pos (by show L.length ≤ k; omega)]
      · rw [if_neg h1] at hp; cases hp
    constructor
    · intro x k' h; cases h
    · intro a e h
      injection h with h
      injection h with h4 h5
      subst h4 h5
      rw [hz, if_neg (by omega)]
      exact ⟨h1, h2, h3⟩
  | ok y =>
    obtain ⟨n, k1⟩ := y
    obtain ⟨h1, h2⟩ := hb.1 n k1 hp
    rw [h1]
    constructor
    · intro x k' h
      have h : (if most < n then .error (k, 4) else .ok (n, k1) : PR Nat) = .ok (x, k') := h
      by_cases hm : most < n
      · rw [if_pos hm] at h; cases h
      · rw [if_neg hm] at h
        injection h with h
        injection h with h3 h4
        subst h3 h4
        rw [if_neg hm]
        exact ⟨rfl, h2⟩
    · intro a e h
      have h : (if most < n then .error (k, 4) else .ok (n, k1) : PR Nat) = .error (a, e) := h
      by_cases hm : most < n
      · rw [if_pos hm] at h
        injection h with h
        injection h with h3 h4
        subst h3 h4
        rw [if_pos hm]
        exact ⟨by decide, rfl, rfl⟩
      · rw [if_neg hm] at h; cases h
theorem by_ok {L : List UInt8} {k : Nat} (h : ¬ L.length - k < 1) : byS L (Cs.ok k) = (nmN L k, Cs.ok (k + 1)) := by
  unfold byS
  rw [if_neg (by show ¬ (0 : Int) ≠ 0; omega), if_neg (by show ¬ L.length ≤ k; omega)]
  rfl
theorem by_end {L : List UInt8} {k : Nat} (h : L.length - k < 1) : byS L (Cs.ok k) = (0, ⟨k, L.length, 2⟩) := by
  unfold byS
  rw [if_neg (by show ¬ (0 : Int) ≠ 0; omega), if_pos (by show L.length ≤ k; omega)]
  rfl
theorem bi_ok {n : Nat} {L : List UInt8} {k : Nat} (h : ¬ L.length - k < n) : biS n L (Cs.ok k) = ((L.drop k).take n, Cs.ok (k + n)) := by
  unfold biS
  rw [if_neg (by show ¬ (0 : Int) ≠ 0; omega), if_neg (by show ¬ L.length - k < n; exact h)]
  rfl
theorem bi_end {n : Nat} {L : List UInt8} {k : Nat} (h : L.length - k < n) : biS n L (Cs.ok k) = ([], ⟨k, L.length, 2⟩) := by
  unfold biS
  rw [if_neg (by show ¬ (0 : Int) ≠ 0; omega), if_pos (by show L.length - k < n; exact h)]
  rfl
theorem Sim.bi (n : Nat) : Sim (biP n) (biS n) := fun L k hk => by
  unfold biP
  by_cases h1 : L.length - k < n
  · rw [if_pos h1, bi_end h1]
    refine ⟨fun x k' h => (by cases h), fun a e h => ?_⟩
    injection h with h
    injection h with h2 h3
    subst h2 h3
    exact ⟨by decide, rfl, rfl⟩
  · rw [if_neg h1, bi_ok h1]
    refine ⟨fun x k' h => ?_, fun a e h => (by cases h)⟩
    injection h with h
    injection h with h2 h3
    subst h2 h3
    by_cases h0 : n = 0
    · exact ⟨rfl, by omega⟩
    · exact ⟨rfl, by omega⟩
theorem Sim.nm : Sim nmP naS := fun L k hk => by
  have hnm : (nmE L k = 0 → naS L (Cs.ok k) = (nmS L k, Cs.ok (k + 1 + nmN L k)) ∧ k + 1 + nmN L k ≤ L.length) ∧ (nmE L k ≠ 0 → (naS L (Cs.ok k)).2.bad = (if nmE L k = 2 then L.length else k) ∧ (naS L (Cs.ok k)).2.why = nmE L k) := by
    by_cases h1 : L.length - k < 1
    · have e : nmE L k = 2 := by unfold nmE; rw [if_pos h1]
      have hn : naS L (Cs.ok k) = ([], ⟨k, L.length, 2⟩) := by
        unfold naS
        rw [by_end h1]
        show ((biS 0 L (n2S 0 k ⟨k, L.length, 2⟩)).1, n4S (biS 0 L (n2S 0 k ⟨k, L.length, 2⟩)).1 k (biS 0 L (n2S 0 k ⟨k, L.length, 2⟩)).2) = _
        rw [n2S_no (by show (2 : Int) ≠ 0; decide), bi_bad (by show (2 : Int) ≠ 0; decide)]
        show ([], n4S [] k ⟨k, L.length, 2⟩) = _
        rw [n4S_no (by show (2 : Int) ≠ 0; decide)]
      rw [e, hn]
      exact ⟨fun h => absurd h (by decide), fun _ => ⟨rfl, rfl⟩⟩
    by_cases h2 : nmN L k = 0 ∨ 24 < nmN L k
    · have e : nmE L k = 6 := by unfold nmE; rw [if_neg h1, if_pos h2]
      have e2 : n2S (nmN L k) k (Cs.ok (k + 1)) = ⟨k + 1, k, 6⟩ := by
        unfold n2S
        rw [if_pos ⟨rfl, h2⟩]
        rfl
      have hn : naS L (Cs.ok k) = ([], ⟨k + 1, k, 6⟩) := by
        unfold naS
        rw [by_ok h1]
        show ((biS (nmN L k) L (n2S (nmN L k) k (Cs.ok (k + 1)))).1, n4S (biS (nmN L k) L (n2S (nmN L k) k (Cs.ok (k + 1)))).1 k (biS (nmN L k) L (n2S (nmN L k) k (Cs.ok (k + 1)))).2) = _
        rw [e2, bi_bad (by show (6 : Int) ≠ 0; decide)]
        show ([], n4S [] k ⟨k + 1, k, 6⟩) = _
        rw [n4S_no (by show (6 : Int) ≠ 0; decide)]
      rw [e, hn]
      exact ⟨fun h => absurd h (by decide), fun _ => ⟨rfl, rfl⟩⟩
    have e2 : n2S (nmN L k) k (Cs.ok (k + 1)) = Cs.ok (k + 1) := by
      unfold n2S
      rw [if_neg (fun h => h2 h.2)]
    by_cases h3 : L.length - (k + 1) < nmN L k
    · have e : nmE L k = 2 := by unfold nmE; rw [if_neg h1, if_neg h2, if_pos h3]
      have hn : naS L (Cs.ok k) = ([], ⟨k + 1, L.length, 2⟩) := by
        unfold naS
        rw [by_ok h1]
        show ((biS (nmN L k) L (n2S (nmN L k) k (Cs.ok (k + 1)))).1, n4S (biS (nmN L k) L (n2S (nmN L k) k (Cs.ok (k + 1)))).1 k (biS (nmN L k) L (n2S (nmN L k) k (Cs.ok (k + 1)))).2) = _
        rw [e2, bi_end h3]
        show ([], n4S [] k ⟨k + 1, L.length, 2⟩) = _
        rw [n4S_no (by show (2 : Int) ≠ 0; decide)]
      rw [e, hn]
      exact ⟨fun h => absurd h (by decide), fun _ => ⟨rfl, rfl⟩⟩
    have hb : naS L (Cs.ok k) = (nmS L k, n4S (nmS L k) k (Cs.ok (k + 1 + nmN L k))) := by
      unfold naS
      rw [by_ok h1]
      show ((biS (nmN L k) L (n2S (nmN L k) k (Cs.ok (k + 1)))).1, n4S (biS (nmN L k) L (n2S (nmN L k) k (Cs.ok (k + 1)))).1 k (biS (nmN L k) L (n2S (nmN L k) k (Cs.ok (k + 1)))).2) = _
      rw [e2, bi_ok h3]
      rfl
    cases h4 : nameB ⟨(nmS L k).toArray⟩ with
    | true =>
      have e : nmE L k = 0 := by unfold nmE; rw [if_neg h1, if_neg h2, if_neg h3]; exact if_pos h4
      rw [e, hb]
      refine ⟨fun _ => ⟨?_, by omega⟩, fun h => absurd rfl h⟩
      unfold n4S
      rw [if_neg (fun h => by rw [h4] at h; cases h.2)]
    | false =>
      have e : nmE L k = 6 := by unfold nmE; rw [if_neg h1, if_neg h2, if_neg h3]; exact if_neg (by rw [h4]; decide)
      rw [e, hb]
      refine ⟨fun h => absurd h (by decide), fun _ => ?_⟩
      unfold n4S
      rw [if_pos ⟨rfl, h4⟩]
      exact ⟨rfl, rfl⟩
  unfold nmP
  by_cases h0 : nmE L k = 0
  · rw [if_pos h0]
    constructor
    · intro x k' h
      injection h with h
      injection h with h2 h3
      subst h2 h3
      exact hnm.1 h0
    · intro a e h; cases h
  · rw [if_neg h0]
    constructor
    · intro x k' h; cases h
    · intro a e h
      injection h with h
      injection h with h2 h3
      subst h2 h3
      exact ⟨h0, hnm.2 h0⟩
theorem Sim.lo : Sim loP loS := fun L k hk => by
  unfold loP loS
  by_cases h1 : L.length - k < 1
  · rw [if_pos (by omega), by_end h1]
    constructor
    · intro x k' h; cases h
    · intro a e h
      injection h with h
      injection h with h2 h3
      subst h2 h3
      show (2 : Int) ≠ 0 ∧ (biS (256 * 0 + (byS L ⟨k, L.length, 2⟩).1) L (byS L ⟨k, L.length, 2⟩).2).2.bad = _ ∧ (biS (256 * 0 + (byS L ⟨k, L.length, 2⟩).1) L (byS L ⟨k, L.length, 2⟩).2).2.why = _
      rw [by_bad (by show (2 : Int) ≠ 0; decide), bi_bad (by show (2 : Int) ≠ 0; decide)]
      exact ⟨by decide, rfl, rfl⟩
  rw [by_ok h1]
  show (∀ x k', _ → biS (256 * nmN L k + (byS L (Cs.ok (k + 1))).1) L (byS L (Cs.ok (k + 1))).2 = _ ∧ _) ∧ ∀ a e, _ → _ ∧ (biS (256 * nmN L k + (byS L (Cs.ok (k + 1))).1) L (byS L (Cs.ok (k + 1))).2).2.bad = _ ∧ (biS (256 * nmN L k + (byS L (Cs.ok (k + 1))).1) L (byS L (Cs.ok (k + 1))).2).2.why = _
  by_cases h2 : L.length - (k + 1) < 1
  · rw [if_pos (by omega), by_end h2]
    constructor
    · intro x k' h; cases h
    · intro a e h
      injection h with h
      injection h with h2 h3
      subst h2 h3
      rw [bi_bad (by show (2 : Int) ≠ 0; decide)]
      exact ⟨by decide, rfl, rfl⟩
  · rw [if_neg (by omega), by_ok h2]
    exact Sim.bi (woN L k) L (k + 2) (by omega)
/-- One behind another. -/
theorem Sim.bnd {α β : Type} {p : List UInt8 → Nat → PR α} {f : List UInt8 → Cs → α × Cs} (h : Sim p f) {q : α → List UInt8 → Nat → PR β} {r : α → List UInt8 → Cs → β × Cs} (hq : ∀ x, Sim (q x) (r x)) (hs : ∀ x, Stays (r x)) :
    Sim (fun L k => bndP (p L k) fun x k1 => q x L k1) (fun L s => r (f L s).1 L (f L s).2) := fun L k hk => by
  constructor
  · intro z k' hh
    have hh : bndP (p L k) (fun x k1 => q x L k1) = .ok (z, k') := hh
    cases hp : p L k with
    | error er => rw [hp] at hh; cases hh
    | ok y =>
      obtain ⟨x, k1⟩ := y
      rw [hp] at hh
      obtain ⟨h1, h2⟩ := (h L k hk).1 x k1 hp
      show r (f L (Cs.ok k)).1 L (f L (Cs.ok k)).2 = _ ∧ _
      rw [h1]
      exact (hq x L k1 h2).1 z k' hh
  · intro a e hh
    have hh : bndP (p L k) (fun x k1 => q x L k1) = .error (a, e) := hh
    show e ≠ 0 ∧ (r (f L (Cs.ok k)).1 L (f L (Cs.ok k)).2).2.bad = a ∧ (r (f L (Cs.ok k)).1 L (f L (Cs.ok k)).2).2.why = e
    cases hp : p L k with
    | error er =>
      obtain ⟨a0, e0⟩ := er
      rw [hp] at hh
      injection hh with hh
      injection hh with h4 h5
      subst h4 h5
      obtain ⟨h1, h2, h3⟩ := (h L k hk).2 _ _ hp
      rw [hs _ L (f L (Cs.ok k)).2 (by rw [h3]; exact h1)]
      exact ⟨h1, h2, h3⟩
    | ok y =>
      obtain ⟨x, k1⟩ := y
      rw [hp] at hh
      obtain ⟨h1, h2⟩ := (h L k hk).1 x k1 hp
      rw [h1]
      exact (hq x L k1 h2).2 a e hh
theorem Sim.ret {α : Type} (z : α) : Sim (fun _ k => .ok (z, k)) (fun _ s => (z, s)) := fun L k hk => ⟨fun x k' h => by injection h with h; injection h with h1 h2; subst h1 h2; exact ⟨rfl, hk⟩, fun a e h => by cases h⟩
theorem stays_ret {α : Type} (z : α) : Stays (fun _ s => (z, s)) := fun _ _ _ => rfl
theorem Sim.rep {α : Type} {p : List UInt8 → Nat → PR α} {f : List UInt8 → Cs → α × Cs} (h : Sim p f) : ∀ n, Sim (repP p n) (repS f n)
  | 0 => fun L k hk => ⟨fun x k' hh => by injection hh with hh; injection hh with h1 h2; subst h1 h2; exact ⟨rfl, hk⟩, fun a e hh => by cases hh⟩
  | n + 1 => fun L k hk => by
    have := (h.bnd (q := fun x L k1 => bndP (repP p n L k1) fun xs k2 => .ok (x :: xs, k2)) (r := fun x L s => (x :: (repS f n L s).1, (repS f n L s).2)) (fun x => (Sim.rep h n).bnd (q := fun xs _ k2 => .ok (x :: xs, k2)) (r := fun xs _ s => (x :: xs, s)) (fun xs => Sim.ret (x :: xs)) (fun xs => stays_ret _)) (fun x L s hs => stays_rep f n L s hs)) L k hk
    have e : repS f (n + 1) L (Cs.ok k) = ((f L (Cs.ok k)).1 :: (repS f n L (f L (Cs.ok k)).2).1, (repS f n L (f L (Cs.ok k)).2).2) := by
      show (if (0 : Int) ≠ 0 then _ else _) = _
      rw [if_neg (by omega)]
    rw [e]
    exact this
theorem Sim.fd : Sim fdP fdS := Sim.nm.bnd (q := fun s L k1 => bndP (byP L k1) fun t k2 => .ok (((s, t) : FlC), k2)) (r := fun x L s => (((x, (byS L s).1) : FlC), (byS L s).2)) (fun x => Sim.by.bnd (q := fun t _ k2 => .ok (((x, t) : FlC), k2)) (r := fun t _ s => (((x, t) : FlC), s)) (fun t => Sim.ret _) (fun t => stays_ret _)) (fun x L s hs => stays_by L s hs)
theorem Sim.cl : Sim clP clS := by
  have h4 := fun (s : List UInt8) (b n : Nat) => (Sim.fd.rep n).bnd (q := fun fs _ k4 => .ok (((s, parI b, fs) : ClC), k4)) (r := fun fs _ c => (((s, parI b, fs) : ClC), c)) (fun fs => Sim.ret _) (fun fs => stays_ret _)
  have h3 := fun (s : List UInt8) (b : Nat) => (Sim.co 32).bnd (q := fun n L k3 => bndP (repP fdP n L k3) fun fs k4 => .ok (((s, parI b, fs) : ClC), k4)) (r := fun n L c => (((s, parI b, (repS fdS n L c).1) : ClC), (repS fdS n L c).2)) (fun n => h4 s b n) (fun n L c hs => stays_rep _ _ L c hs)
  have h2 := fun (s : List UInt8) => Sim.by.bnd (q := fun b L k2 => bndP (coP 32 L k2) fun n k3 => bndP (repP fdP n L k3) fun fs k4 => .ok (((s, parI b, fs) : ClC), k4)) (r := fun b L c => (((s, parI b, (repS fdS (coS 32 L c).1 L (coS 32 L c).2).1) : ClC), (repS fdS (coS 32 L c).1 L (coS 32 L c).2).2)) (fun b => h3 s b) (fun b L c hs => by
    show (repS fdS (coS 32 L c).1 L (coS 32 L c).2).2 = c
    rw [stays_co 32 L c hs]
    exact stays_rep _ _ L c hs)
  exact Sim.nm.bnd (q := fun s L k1 => bndP (byP L k1) fun b k2 => bndP (coP 32 L k2) fun n k3 => bndP (repP fdP n L k3) fun fs k4 => .ok (((s, parI b, fs) : ClC), k4)) (r := fun x L c => (((x, parI (byS L c).1, (repS fdS (coS 32 L (byS L c).2).1 L (coS 32 L (byS L c).2).2).1) : ClC), (repS fdS (coS 32 L (byS L c).2).1 L (coS 32 L (byS L c).2).2).2)) (fun s => h2 s) (fun s L c hs => by
    show (repS fdS (coS 32 L (byS L c).2).1 L (coS 32 L (byS L c).2).2).2 = c
    rw [stays_by L c hs, stays_co 32 L c hs]
    exact stays_rep _ _ L c hs)
theorem Sim.fn : Sim fnP fnS := by
  have h6 := fun (s : List UInt8) (ps : List Nat) (rt lo : Nat) => Sim.lo.bnd (q := fun cd _ k6 => .ok (((s, (ps, rt), (lo : Int), cd) : FnC), k6)) (r := fun cd _ c => (((s, (ps, rt), (lo : Int), cd) : FnC), c)) (fun cd => Sim.ret _) (fun cd => stays_ret _)
  have h5 := fun (s : List UInt8) (ps : List Nat) (rt : Nat) => Sim.by.bnd (q := fun lo L k5 => bndP (loP L k5) fun cd k6 => .ok (((s, (ps, rt), (lo : Int), cd) : FnC), k6)) (r := fun lo L c => (((s, (ps, rt), (lo : Int), (loS L c).1) : FnC), (loS L c).2)) (fun lo => h6 s ps rt lo) (fun lo L c hs => stays_lo L c hs)
  have h4 := fun (s : List UInt8) (ps : List Nat) => Sim.by.bnd (q := fun rt L k4 => bndP (byP L k4) fun lo k5 => bndP (loP L k5) fun cd k6 => .ok (((s, (ps, rt), (lo : Int), cd) : FnC), k6)) (r := fun rt L c => (((s, (ps, rt), ((byS L c).1 : Int), (loS L (byS L c).2).1) : FnC), (loS L (byS L c).2).2)) (fun rt => h5 s ps rt) (fun rt L c hs => by
    show (loS L (byS L c).2).2 = c
    rw [stays_by L c hs]; exact stays_lo L c hs)
  have h3 := fun (s : List UInt8) (n : Nat) => (Sim.by.rep n).bnd (q := fun ps L k3 => bndP (byP L k3) fun rt k4 => bndP (byP L k4) fun lo k5 => bndP (loP L k5) fun cd k6 => .ok (((s, (ps, rt), (lo : Int), cd) : FnC), k6)) (r := fun ps L c => (((s, (ps, (byS L c).1), ((byS L (byS L c).2).1 : Int), (loS L (byS L (byS L c).2).2).1) : FnC), (loS L (byS L (byS L c).2).2).2)) (fun ps => h4 s ps) (fun ps L c hs => by
    show (loS L (byS L (byS L c).2).2).2 = c
    rw [stays_by L c hs, stays_by L c hs]; exact stays_lo L c hs)
  have h2 := fun (s : List UInt8) => (Sim.co 8).bnd (q := fun n L k2 => bndP (repP byP n L k2) fun ps k3 => bndP (byP L k3) fun rt k4 => bndP (byP L k4) fun lo k5 => bndP (loP L k5) fun cd k6 => .ok (((s, (ps, rt), (lo : Int), cd) : FnC), k6)) (r := fun n L c => (((s, ((repS byS n L c).1, (byS L (repS byS n L c).2).1), ((byS L (byS L (repS byS n L c).2).2).1 : Int), (loS L (byS L (byS L (repS byS n L c).2).2).2).1) : FnC), (loS L (byS L (byS L (repS byS n L c).2).2).2).2)) (fun n => h3 s n) (fun n L c hs => by
    show (loS L (byS L (byS L (repS byS n L c).2).2).2).2 = c
    rw [stays_rep _ _ L c hs, stays_by L c hs, stays_by L c hs]; exact stays_lo L c hs)
  exact Sim.nm.bnd (q := fun s L k1 => bndP (coP 8 L k1) fun n k2 => bndP (repP byP n L k2) fun ps k3 => bndP (byP L k3) fun rt k4 => bndP (byP L k4) fun lo k5 => bndP (loP L k5) fun cd k6 => .ok (((s, (ps, rt), (lo : Int), cd) : FnC), k6)) (r := fun s L c => (((s, ((repS byS (coS 8 L c).1 L (coS 8 L c).2).1, (byS L (repS byS (coS 8 L c).1 L (coS 8 L c).2).2).1), ((byS L (byS L (repS byS (coS 8 L c).1 L (coS 8 L c).2).2).2).1 : Int), (loS L (byS L (byS L (repS byS (coS 8 L c).1 L (coS 8 L c).2).2).2).2).1) : FnC), (loS L (byS L (byS L (repS byS (coS 8 L c).1 L (coS 8 L c).2).2).2).2).2)) (fun s => h2 s) (fun s L c hs => by
    show (loS L (byS L (byS L (repS byS (coS 8 L c).1 L (coS 8 L c).2).2).2).2).2 = c
    rw [stays_co 8 L c hs, stays_rep _ _ L c hs, stays_by L c hs, stays_by L c hs]; exact stays_lo L c hs)
/-- Certificates, behind so many functions, the place of the byte told. -/
def ctS (n : Nat) (L : List UInt8) (s : Cs) : List (List UInt8) × Cs := repS loS (if (byS L s).1 = 1 then n else 0) L (c1S (byS L s).1 n s.at_ (byS L s).2)
theorem c1S_no {s : Cs} (h : s.why ≠ 0) (c n a : Nat) : c1S c n a s = s := by unfold c1S; rw [if_neg (fun x => h x.1)]
theorem stays_ct (n : Nat) : Stays (ctS n) := fun L s h => by
  unfold ctS
  rw [stays_by L s h, c1S_no h]
  exact stays_rep _ _ L s h
theorem Sim.ct (n : Nat) : Sim (ctP n) (ctS n) := fun L k hk => by
  have hb := Sim.by L k hk
  unfold ctP ctS
  cases hp : byP L k with
  | error er =>
    obtain ⟨a0, e0⟩ := er
    obtain ⟨h1, h2, h3⟩ := hb.2 a0 e0 hp
    constructor
    · intro x k' h; cases h
    · intro a e h
      injection h with h
      injection h with h4 h5
      subst h4 h5
      rw [c1S_no (by rw [h3]; exact h1), stays_rep _ _ L _ (by rw [h3]; exact h1)]
      exact ⟨h1, h2, h3⟩
  | ok y =>
    obtain ⟨c, k1⟩ := y
    obtain ⟨h1, h2⟩ := hb.1 c k1 hp
    rw [h1]
    show (∀ x k', (if 1 < c ∨ (c = 1 ∧ n = 0) then .error (k, 162) else repP loP (if c = 1 then n else 0) L k1 : PR (List (List UInt8))) = .ok (x, k') → repS loS (if c = 1 then n else 0) L (c1S c n k (Cs.ok k1)) = _ ∧ _) ∧ (∀ a e, (if 1 < c ∨ (c = 1 ∧ n = 0) then .error (k, 162) else repP loP (if c = 1 then n else 0) L k1 : PR (List (List UInt8))) = .error (a, e) → e ≠ 0 ∧ (repS loS (if c = 1 then n else 0) L (c1S c n k (Cs.ok k1))).2.bad = _ ∧ (repS loS (if c = 1 then n else 0) L (c1S c n k (Cs.ok k1))).2.why = _)
    by_cases hc : 1 < c ∨ (c = 1 ∧ n = 0)
    · have e1 : c1S c n k (Cs.ok k1) = ⟨k1, k, 162⟩ := by unfold c1S; rw [if_pos ⟨rfl, hc⟩]; rfl
      rw [if_pos hc, e1]
      constructor
      · intro x k' h; cases h
      · intro a e h
        injection h with h
        injection h with h4 h5
        subst h4 h5
        rw [stays_rep _ _ L _ (by show (162 : Int) ≠ 0; decide)]
        exact ⟨by decide, rfl, rfl⟩
    · have e1 : c1S c n k (Cs.ok k1) = Cs.ok k1 := by unfold c1S; rw [if_neg (fun h => hc h.2)]
      rw [if_neg hc, e1]
      exact Sim.lo.rep _ L k1 h2
/-- All but the look at the end. -/
def mF (s : List UInt8) (T : List ClC) (m : Nat) (F : List FnC) (L : List UInt8) (c : Cs) : Mc × Cs := (⟨s, T, F, (ctS m L c).1⟩, (ctS m L c).2)
def mM (s : List UInt8) (T : List ClC) (m : Nat) (L : List UInt8) (c : Cs) : Mc × Cs := mF s T m (repS fnS m L c).1 L (repS fnS m L c).2
def mT (s : List UInt8) (T : List ClC) (L : List UInt8) (c : Cs) : Mc × Cs := mM s T (coS 64 L c).1 L (coS 64 L c).2
def mN (s : List UInt8) (n : Nat) (L : List UInt8) (c : Cs) : Mc × Cs := mT s (repS clS n L c).1 L (repS clS n L c).2
def mS (s : List UInt8) (L : List UInt8) (c : Cs) : Mc × Cs := mN s (coS 32 L c).1 L (coS 32 L c).2
def m0S (L : List UInt8) (c : Cs) : Mc × Cs := mS (naS L c).1 L (naS L c).2
def mdS (L : List UInt8) (s : Cs) : Mc × Cs := ((m0S L s).1, e1S L (m0S L s).2)
theorem mdS_eq (L : List UInt8) (s : Cs) : mdS L s = ((m0S L s).1, e1S L (m0S L s).2) := rfl
theorem Stays.seq {α β : Type} {f : List UInt8 → Cs → α × Cs} {r : α → List UInt8 → Cs → β × Cs} (h : Stays f) (hr : ∀ x, Stays (r x)) : Stays (fun L c => r (f L c).1 L (f L c).2) := fun L c hs => by
  show (r (f L c).1 L (f L c).2).2 = c
  rw [h L c hs]
  exact hr _ L c hs
theorem stays_mF (s : List UInt8) (T : List ClC) (m : Nat) (F : List FnC) : Stays (mF s T m F) := fun L c hs => stays_ct m L c hs
theorem stays_mM (s : List UInt8) (T : List ClC) (m : Nat) : Stays (mM s T m) := Stays.seq (stays_rep _ _) (fun F => stays_mF s T m F)
theorem stays_mT (s : List UInt8) (T : List ClC) : Stays (mT s T) := Stays.seq (stays_co 64) (fun m => stays_mM s T m)
theorem stays_mN (s : List UInt8) (n : Nat) : Stays (mN s n) := Stays.seq (stays_rep _ _) (fun T => stays_mT s T)
theorem stays_mS (s : List UInt8) : Stays (mS s) := Stays.seq (stays_co 32) (fun n => stays_mN s n)
theorem Sim.mF (s : List UInt8) (T : List ClC) (m : Nat) (F : List FnC) : Sim (fun L k5 => bndP (ctP m L k5) fun C k6 => .ok ((⟨s, T, F, C⟩ : Mc), k6)) (mF s T m F) := (Sim.ct m).bnd (q := fun C _ k6 => .ok ((⟨s, T, F, C⟩ : Mc), k6)) (r := fun C _ c => ((⟨s, T, F, C⟩ : Mc), c)) (fun C => Sim.ret _) (fun C => stays_ret _)
theorem Sim.mM (s : List UInt8) (T : List ClC) (m : Nat) : Sim (fun L k4 => bndP (repP fnP m L k4) fun F k5 => bndP (ctP m L k5) fun C k6 => .ok ((⟨s, T, F, C⟩ : Mc), k6)) (mM s T m) := (Sim.fn.rep m).bnd (q := fun F L k5 => bndP (ctP m L k5) fun C k6 => .ok ((⟨s, T, F, C⟩ : Mc), k6)) (r := fun F => Go.Proofs.YtibgfdjopikafaaGreatDoor.mF s T m F) (fun F => Sim.mF s T m F) (fun F => stays_mF s T m F)
theorem Sim.mT (s : List UInt8) (T : List ClC) : Sim (fun L k3 => bndP (coP 64 L k3) fun m k4 => bndP (repP fnP m L k4) fun F k5 => bndP (ctP m L k5) fun C k6 => .ok ((⟨s, T, F, C⟩ : Mc), k6)) (mT s T) := (Sim.co 64).bnd (q := fun m L k4 => bndP (repP fnP m L k4) fun F k5 => bndP (ctP m L k5) fun C k6 => .ok ((⟨s, T, F, C⟩ : Mc), k6)) (r := fun m => Go.Proofs.YtibgfdjopikafaaGreatDoor.mM s T m) (fun m => Sim.mM s T m) (fun m => stays_mM s T m)
theorem Sim.mN (s : List UInt8) (n : Nat) : Sim (fun L k2 => bndP (repP clP n L k2) fun T k3 => bndP (coP 64 L k3) fun m k4 => bndP (repP fnP m L k4) fun F k5 => bndP (ctP m L k5) fun C k6 => .ok ((⟨s, T, F, C⟩ : Mc), k6)) (mN s n) := (Sim.cl.rep n).bnd (q := fun T L k3 => bndP (coP 64 L k3) fun m k4 => bndP (repP fnP m L k4) fun F k5 => bndP (ctP m L k5) fun C k6 => .ok ((⟨s, T, F, C⟩ : Mc), k6)) (r := fun T => Go.Proofs.YtibgfdjopikafaaGreatDoor.mT s T) (fun T => Sim.mT s T) (fun T => stays_mT s T)
theorem Sim.mS (s : List UInt8) : Sim (fun L k1 => bndP (coP 32 L k1) fun n k2 => bndP (repP clP n L k2) fun T k3 => bndP (coP 64 L k3) fun m k4 => bndP (repP fnP m L k4) fun F k5 => bndP (ctP m L k5) fun C k6 => .ok ((⟨s, T, F, C⟩ : Mc), k6)) (mS s) := (Sim.co 32).bnd (q := fun n L k2 => bndP (repP clP n L k2) fun T k3 => bndP (coP 64 L k3) fun m k4 => bndP (repP fnP m L k4) fun F k5 => bndP (ctP m L k5) fun C k6 => .ok ((⟨s, T, F, C⟩ : Mc), k6)) (r := fun n => Go.Proofs.YtibgfdjopikafaaGreatDoor.mN s n) (fun n => Sim.mN s n) (fun n => stays_mN s n)
theorem Sim.md : Sim mdP m0S := Sim.nm.bnd (q := fun s L k1 => bndP (coP 32 L k1) fun n k2 => bndP (repP clP n L k2) fun T k3 => bndP (coP 64 L k3) fun m k4 => bndP (repP fnP m L k4) fun F k5 => bndP (ctP m L k5) fun C k6 => .ok ((⟨s, T, F, C⟩ : Mc), k6)) (r := fun s => Go.Proofs.YtibgfdjopikafaaGreatDoor.mS s) (fun s => Sim.mS s) (fun s => stays_mS s)
/-- The document's module, beside bodP. -/
theorem bod_sim {L : List UInt8} (hL : 4 ≤ L.length) : ((∃ m, bodP L = .ok m ∧ (mdS L (Cs.ok 4)).1 = m ∧ (mdS L (Cs.ok 4)).2.why = 0) ∨ (∃ a e, bodP L = .error (a, e) ∧ e ≠ 0 ∧ (mdS L (Cs.ok 4)).2.bad = a ∧ (mdS L (Cs.ok 4)).2.why = e)) := by
  have h := Sim.md L 4 hL
  rw [mdS_eq]
  unfold bodP
  cases hp : mdP L 4 with
  | error er =>
    obtain ⟨a, e⟩ := er
    obtain ⟨h1, h2, h3⟩ := h.2 a e hp
    refine Or.inr ⟨a, e, rfl, h1, ?_⟩
    have : e1S L (m0S L (Cs.ok 4)).2 = (m0S L (Cs.ok 4)).2 := by unfold e1S; rw [if_neg (fun x => by rw [h3] at x; exact h1 x.1)]
    show (e1S L (m0S L (Cs.ok 4)).2).bad = a ∧ (e1S L (m0S L (Cs.ok 4)).2).why = e
    rw [this]
    exact ⟨h2, h3⟩
  | ok y =>
    obtain ⟨m, k⟩ := y
    obtain ⟨h1, h2⟩ := h.1 m k hp
    rw [h1]
    show (∃ m', (if k < L.length then .error (k, 3) else .ok m : Except (Nat × Int) Mc) = .ok m' ∧ m = m' ∧ (e1S L (Cs.ok k)).why = 0) ∨ (∃ a e, (if k < L.length then .error (k, 3) else .ok m : Except (Nat × Int) Mc) = .error (a, e) ∧ e ≠ 0 ∧ (e1S L (Cs.ok k)).bad = a ∧ (e1S L (Cs.ok k)).why = e)
    by_cases hk : k < L.length
    · rw [if_pos hk]
      have : e1S L (Cs.ok k) = ⟨k, k, 3⟩ := by unfold e1S; rw [if_pos ⟨rfl, hk⟩]; rfl
      rw [this]
      exact Or.inr ⟨k, 3, rfl, by decide, rfl, rfl⟩
    · rw [if_neg hk]
      have : e1S L (Cs.ok k) = Cs.ok k := by unfold e1S; rw [if_neg (fun x => hk x.2)]
      rw [this]
      exact Or.inl ⟨m, rfl, rfl, rfl⟩
end Go.Proofs.YtibgfdjopikafaaGreatDoor

/-
  The document's cursor over a module's file: fail, byte, count: as the plain ones. Conditions: none but that the cursor is one.
-/
namespace Go.Proofs.YtibgfdjopikafaaGreatDoor
open Go.RowKit
set_option maxRecDepth 20000
set_option linter.unusedVariables false
set_option linter.unusedSimpArgs false

/-- A cursor over these bytes lies in block g, and stands so. -/
structure Cu (W : World) (g : Nat) (ao : Option Addr) (cap : Nat) (l : List UInt8) (s : Cs) : Prop where
  bx : Bx W g 76 #[.slice ao l.length cap, .int .i64 (s.at_ : Int), .int .i64 (s.bad : Int), .int .i64 s.why]
  bts : BAt W ao l
  ne : BlkOf (fun b => b ≠ g) ao l.length
  le : s.at_ ≤ l.length
  lim : l.length ≤ 1048576
  cp : l.length ≤ cap
  hd : ∃ b off, ao = some ⟨b, off, none⟩
theorem Cu.below {W W' : World} {g : Nat} {ao : Option Addr} {cap : Nat} {l : List UInt8} {s : Cs} (h : Cu W g ao cap l s) (hb : Below W.heap.size W W') : Cu W' g ao cap l s :=
  ⟨h.bx.below hb, h.bts.below' hb, h.ne, h.le, h.lim, h.cp, h.hd⟩
theorem Cu.far {W W' : World} {g k : Nat} {ao : Option Addr} {cap : Nat} {l : List UInt8} {s : Cs} (h : Cu W g ao cap l s) (hg : W.grownBy W' (some k)) (hk : k ≠ g) (hn : BlkOf (fun b => b ≠ k) ao l.length) : Cu W' g ao cap l s :=
  ⟨h.bx.grown hg (fun e => hk (by injection e)), bat_far h.bts hg hn, h.ne, h.le, h.lim, h.cp, h.hd⟩
theorem Cu.lt {W : World} {g : Nat} {ao : Option Addr} {cap : Nat} {l : List UInt8} {s : Cs} (h : Cu W g ao cap l s) : g < W.heap.size := h.bx.lt
/-- The place set. -/
theorem Cu.at {W : World} {g : Nat} {ao : Option Addr} {cap : Nat} {l : List UInt8} {s : Cs} (h : Cu W g ao cap l s) (k : Nat) (hk : k ≤ l.length) : Cu (W.setCell ⟨g, 1, none⟩ (.int .i64 (k : Int))) g ao cap l ⟨k, s.bad, s.why⟩ :=
  ⟨h.bx.set 1 _ rfl, bat_far h.bts (grownBy_set W g 1 _) h.ne, h.ne, hk, h.lim, h.cp, h.hd⟩
theorem Cu.fault {W : World} {g : Nat} {ao : Option Addr} {cap : Nat} {l : List UInt8} {s : Cs} (h : Cu W g ao cap l s) (a : Nat) (e : Int) : Cu ((W.setCell ⟨g, 2, none⟩ (.int .i64 (a : Int))).setCell ⟨g, 3, none⟩ (.int .i64 e)) g ao cap l ⟨s.at_, a, e⟩ :=
  ⟨(h.bx.set 2 (.int .i64 (a : Int)) rfl).set 3 _ rfl, bat_far (bat_far h.bts (grownBy_set W g 2 _) h.ne) (grownBy_set _ g 3 _) h.ne, h.ne, h.le, h.lim, h.cp, h.hd⟩
/-- What a call of the cursor comes to. -/
def CuP (W : World) (g : Nat) (ao : Option Addr) (cap : Nat) (l : List UInt8) (v : Value) (s : Cs) (e : Ending) (W' : World) : Prop := e = .returned v ∧ Cu W' g ao cap l s ∧ W.grownBy W' (some g)
theorem cu_fail {W : World} {g : Nat} {ao : Option Addr} {cap : Nat} {l : List UInt8} {s : Cs} (h : Cu W g ao cap l s) (a : Nat) (e : Int) :
    Calls Tryz.prog 83 #[.pointer (some ⟨g, 0, none⟩), .int .i64 (a : Int), .int .i64 e] W (CuP W g ao cap l (.tuple #[]) (failS s a e)) := by
  have HC := hide h
  have k3 := h.bx.c 3 rfl
  have k2 := h.bx.c 2 rfl
  have f2 := h.bx.f 2
  have f3 := h.bx.f 3
  by_cases hw : s.why = 0
  · have e1 : failS s a e = ⟨s.at_, a, e⟩ := by unfold failS; rw [if_pos hw]
    have t0 : (s.why == 0) = true := beq_t hw
    rw [e1]
    have HZ := hide (h.fault a e)
    have HG := hide (grown_trans (grownBy_set W g 2 (.int .i64 (a : Int))) (grownBy_set (W.setCell ⟨g, 2, none⟩ (.int .i64 (a : Int))) g 3 (.int .i64 e)))
    have c3 := ((h.bx.set 2 (.int .i64 (a : Int)) rfl).c 3 rfl)
    have d3 := ((h.bx.set 2 (.int .i64 (a : Int)) rfl).f 3)
    clear h hw e1
    go_enter Tryz.func83, Tryz.ntmps83
    go_wp2
    go_end0
    exact ⟨rfl, unhide HZ, unhide HG⟩
  · have t0 : (s.why == 0) = false := beq_f hw
    rw [failS_no hw]
    clear h hw
    go_enter Tryz.func83, Tryz.ntmps83
    go_wp2
    go_end0
    exact ⟨rfl, unhide HC, World.grownBy.refl _ _⟩
set_option maxHeartbeats 4000000 in
theorem cu_byte {W : World} {g : Nat} {ao : Option Addr} {cap : Nat} {l : List UInt8} {s : Cs} (h : Cu W g ao cap l s) :
    Calls Tryz.prog 82 #[.pointer (some ⟨g, 0, none⟩)] W (CuP W g ao cap l (.int .i64 ((byS l s).1 : Int)) (byS l s).2) := by
  have HC := hide h
  have k0 := h.bx.c 0 rfl
  have k1 := h.bx.c 1 rfl
  have k3 := h.bx.c 3 rfl
  have f1 := h.bx.f 1
  by_cases hw : s.why = 0
  · have t0 : (s.why != 0) = false := bne_f hw
    by_cases hl : l.length ≤ s.at_
    · have e1 : byS l s = (0, failS s l.length 2) := by unfold byS; rw [if_neg (by simp [hw]), if_pos hl]
      have i1 : (s.at_ : Int) ≥ ((l.length : Nat) : Int) := by omega
      rw [e1]
      clear h hw e1 f1 hl
      have HF := hide (fun n => cu_fail ((unhide HC).below (below_drew W n)) l.length 2)
      go_enter Tryz.func82, Tryz.ntmps82
      go_wp2
      go_quiet (fail)
      go_wp2_with fail
      refine (unhide HF _).mono ?_
      rintro e W2 ⟨rfl, hc, hg⟩
      have HZ := hide hc
      have HG := hide (grown_trans (grown_of_below (below_drew W _) (some g)) hg)
      clear hc hg HF k0 k1 k3
      go_wp2
      go_ret
      exact ⟨rfl, unhide HZ, unhide HG⟩
    · have hk : s.at_ < l.length := by omega
      have e1 : byS l s = (nmN l s.at_, ⟨s.at_ + 1, s.bad, s.why⟩) := by unfold byS; rw [if_neg (by simp [hw]), if_neg hl]
      have i1 : ¬ (s.at_ : Int) ≥ ((l.length : Nat) : Int) := by omega
      have hlt := nmN_lt l s.at_
      obtain ⟨n, HN⟩ : ∃ n, Hid (nmN l s.at_ = n) := ⟨_, hide rfl⟩
      rw [e1, unhide HN]
      rw [unhide HN] at hlt
      clear h hw e1
      have HS := hide (fun n => ((unhide HC).below (below_drew W n)).at (s.at_ + 1) (by omega))
      have HG := hide (fun n => grown_trans (grown_of_below (below_drew W n) (some g)) (grownBy_set (W.drewN n) g 1 (.int .i64 ((s.at_ + 1 : Nat) : Int))))
      have hlim := (unhide HC).lim
      have ek : ((s.at_ + 1 : Nat) : Int) = (s.at_ : Int) + 1 := by omega
      have hw1 : IntKind.i64.wrap ((s.at_ : Int) + 1) = (s.at_ : Int) + 1 := by simp [IntKind.wrap, IntKind.bits, IntKind.signed]; omega
      rw [ek] at HG HS
      go_enter Tryz.func82, Tryz.ntmps82
      go_wp2
      go_quiet (fail)
      go_upto_region 7 with fail
      have HS1 := hide (unhide HS nq)
      have HG1 := hide (unhide HG nq)
      clear HS HG k0 k1 k3 f1
      generalize (W.drewN nq).setCell ⟨g, 1, none⟩ (.int .i64 ((s.at_ : Int) + 1)) = W1 at HS1 HG1 ⊢
      obtain ⟨bk, off, rfl, hc⟩ := (unhide HS1).bts s.at_ hk
      have k0 := (unhide HS1).bx.c 0 rfl
      have k1 : W1.cell? ⟨g, 1, none⟩ = some (.int .i64 ((s.at_ : Int) + 1)) := (unhide HS1).bx.c 1 rfl
      have hcc : W1.cell? ⟨bk, off + s.at_, none⟩ = some (.int .u8 (n : Int)) := by rw [← unhide HN]; exact hc
      have e0 : (s.at_ : Int) + 1 - 1 = (s.at_ : Int) := by omega
      have j1 : (s.at_ : Int) < ((l.length : Nat) : Int) := by omega
      have hw2 : IntKind.i64.wrap ((s.at_ : Int)) = (s.at_ : Int) := by simp [IntKind.wrap, IntKind.bits, IntKind.signed]; omega
      clear hc
      have hw3 : IntKind.i64.wrap (n : Int) = (n : Int) := by simp [IntKind.wrap, IntKind.bits, IntKind.signed]; omega
      go_quiet (fail)
      have HZ := hide ((unhide HS1).below (below_drew W1 nq))
      have HG := hide (grown_below_trans (unhide HG1) (below_drew W1 nq))
      generalize W1.drewN nq = W2 at HZ HG ⊢
      go_wp2
      go_ret
      exact ⟨rfl, unhide HZ, unhide HG⟩
  · have t0 : (s.why != 0) = true := bne_t hw
    have e1 := by_bad (L := l) hw
    rw [e1]
    clear h hw e1
    go_enter Tryz.func82, Tryz.ntmps82
    go_wp2
    go_ret
    exact ⟨rfl, unhide HC, World.grownBy.refl _ _⟩
theorem byS_lt (l : List UInt8) (s : Cs) : (byS l s).1 < 256 := by
  unfold byS
  split
  · exact Nat.zero_lt_succ _
  · split
    · exact Nat.zero_lt_succ _
    · exact nmN_lt _ _
theorem coS_lt (most : Nat) (l : List UInt8) (s : Cs) : (coS most l s).1 < 256 ∧ (coS most l s).1 ≤ most := by
  have := byS_lt l s
  unfold coS
  split
  · exact ⟨Nat.zero_lt_succ _, Nat.zero_le _⟩
  · exact ⟨this, by omega⟩
theorem biS_len (n : Nat) (l : List UInt8) (s : Cs) : (biS n l s).1.length ≤ n := by
  unfold biS
  split
  · simp
  · split
    · simp
    · rw [List.length_take]; omega
theorem naS_len (l : List UInt8) (s : Cs) : (naS l s).1.length ≤ 255 := by
  have := byS_lt l s
  have := biS_len (byS l s).1 l (n2S (byS l s).1 s.at_ (byS l s).2)
  show (biS (byS l s).1 l (n2S (byS l s).1 s.at_ (byS l s).2)).1.length ≤ 255
  omega
theorem loS_len (l : List UInt8) (s : Cs) : (loS l s).1.length < 65536 := by
  have h1 := byS_lt l s
  have h2 := byS_lt l (byS l s).2
  have := biS_len (256 * (byS l s).1 + (byS l (byS l s).2).1) l (byS l (byS l s).2).2
  show (biS _ l _).1.length < 65536
  omega
theorem cu_count {W : World} {g : Nat} {ao : Option Addr} {cap : Nat} {l : List UInt8} {s : Cs} (h : Cu W g ao cap l s) (most : Nat) :
    Calls Tryz.prog 79 #[.pointer (some ⟨g, 0, none⟩), .int .i64 (most : Int)] W (CuP W g ao cap l (.int .i64 ((coS most l s).1 : Int)) (coS most l s).2) := by
  have k1 := h.bx.c 1 rfl
  have HK := hide (cu_byte h)
  have hlt := byS_lt l s
  unfold coS
  obtain ⟨⟨n, s2⟩, hb⟩ : ∃ r, byS l s = r := ⟨_, rfl⟩
  rw [hb] at HK hlt ⊢
  replace HK : Hid (Calls Tryz.prog 82 #[.pointer (some ⟨g, 0, none⟩)] W (CuP W g ao cap l (.int .i64 (n : Int)) s2)) := HK
  clear h hb
  by_cases hm : most < n
  · have i1 : (n : Int) > (most : Int) := by omega
    rw [if_pos hm]
    clear hm hlt
    go_enter Tryz.func79, Tryz.ntmps79
    go_wp2_with fail
    refine (unhide HK).mono ?_
    rintro e W2 ⟨rfl, hc, hg⟩
    have HF := hide (cu_fail hc s.at_ 4)
    have HG2 := hide hg
    clear hc hg HK k1
    go_wp2_with fail
    refine (unhide HF).mono ?_
    rintro e W3 ⟨rfl, hc, hg⟩
    have HZ := hide hc
    have HG := hide (grown_trans (unhide HG2) hg)
    clear hc hg HF
    go_wp2
    go_ret
    exact ⟨rfl, unhide HZ, unhide HG⟩
  · have i1 : ¬ (n : Int) > (most : Int) := by omega
    rw [if_neg hm]
    clear hm
    go_enter Tryz.func79, Tryz.ntmps79
    go_wp2_with fail
    refine (unhide HK).mono ?_
    rintro e W2 ⟨rfl, hc, hg⟩
    have HZ := hide hc
    have HG := hide hg
    clear hc hg HK k1
    go_wp2
    go_ret
    exact ⟨rfl, unhide HZ, unhide HG⟩
end Go.Proofs.YtibgfdjopikafaaGreatDoor

/-
  The document's cursor over a module's file: bytes, name, piece: as the plain ones. Conditions: none but that the cursor is one.
-/
namespace Go.Proofs.YtibgfdjopikafaaGreatDoor
open Go.RowKit
set_option maxRecDepth 20000
set_option linter.unusedVariables false
set_option linter.unusedSimpArgs false

theorem wp_appendBR {w : World} {o : Oper} {a : Act} {K : Act → World → Prop} {Q : Exit → Act → World → Prop} (s x : Operand)
    (ho : o.op = .call { callee := .builtin .append, args := #[s, x], argTypes := #[28, 28] })
    (base : Nat) (v : Value) (l : List UInt8) (hs : a.eval s = v) (hown : OwnB w base v l) (b : Value) (m : List UInt8) (hx : a.eval x = b) (hb : SrcB w b m) (hfit : l.length + m.length ≤ 140737488355328) (hbase : base ≤ w.heap.size)
    (h : ∀ v' w', OwnB w' base v' (l ++ m) → w.grownBy w' v.ownBlock → K (a.put o.dst v') w') : o.wp Tryz.prog a w K Q := by
  obtain ⟨i0, hi, hz0, hz1, hz2⟩ := info_parts info8
  rcases hb with ⟨rfl, rfl⟩ | ⟨y, c, rfl, hb⟩
  · have hrun := run_append_owned_none (P := Tryz.prog) (w := w) base 28 o.type 5 i0 1 Tryz.underlying28 hi v l.length (bvals l) hown
    unfold Oper.wp
    simp [execOp, ho, resolve, invoke, builtin, hs, hx, hrun, Result.andThen]
    exact h v w (by rw [List.append_nil]; exact hown) (World.grownBy.refl _ _)
  · refine wp_append_own w s x 28 ho base 5 i0 (.int .u8 0) 1 1 Tryz.underlying28 hi hz0 hz1 hz2 rfl (by decide) v l.length (bvals l) hs hown y m.length c (bvals m) hx (by rw [bvals_length]; omega) hb.cells (bvals_one m) (by unfold maxLen; omega) (by omega) hbase ?_
    intro v' w' h1 h2 _
    refine h v' w' ?_ h2
    unfold OwnB
    rw [bvals_append, List.length_append] at *
    exact h1
/-- What a call of the cursor that gives bytes comes to. -/
def CuB (W : World) (g : Nat) (ao : Option Addr) (cap : Nat) (l : List UInt8) (x : List UInt8) (s : Cs) (e : Ending) (W' : World) : Prop := ∃ v, e = .returned v ∧ OwnB W' W.heap.size v x ∧ Cu W' g ao cap l s ∧ W.grownBy W' (some g)
theorem cut_at {W : World} {ao : Option Addr} {l : List UInt8} (h : BAt W ao l) {k n : Nat} (hk : k + n ≤ l.length) {b off : Nat} (e : ao = some ⟨b, off, none⟩) : BAt W (some ⟨b, off + k, none⟩) ((l.drop k).take n) := fun i hi => by
  rw [List.length_take, List.length_drop] at hi
  obtain ⟨b', o', e', hc⟩ := h (k + i) (by omega)
  rw [e] at e'
  injection e' with e'
  injection e' with e1 e2
  subst e1 e2
  refine ⟨b, off + k, rfl, ?_⟩
  rw [Nat.add_assoc, hc]
  unfold at8
  rw [List.getD_eq_getElem?_getD, List.getD_eq_getElem?_getD, List.getElem?_take_of_lt (by omega), List.getElem?_drop]
theorem OwnB.grown_own {W W' : World} {B k : Nat} {v : Value} {l : List UInt8} (h : OwnB W B v l) (hg : W.grownBy W' (some k)) (hn : ∀ q, v.ownBlock = some q → q ≠ k) : OwnB W' B v l := by
  exact rows_grownG h hg (fun q e e2 => hn q e (by injection e2 with e2; exact e2.symm))
set_option maxHeartbeats 8000000 in
theorem cu_bytes {W : World} {g : Nat} {ao : Option Addr} {cap : Nat} {l : List UInt8} {s : Cs} (h : Cu W g ao cap l s) (n : Nat) (hn : n < 65536) :
    Calls Tryz.prog 114 #[.pointer (some ⟨g, 0, none⟩), .int .i64 (n : Int)] W (CuB W g ao cap l (biS n l s).1 (biS n l s).2) := by
  have HC := hide h
  have k0 := h.bx.c 0 rfl
  have k1 := h.bx.c 1 rfl
  have k3 := h.bx.c 3 rfl
  have f1 := h.bx.f 1
  have hle := h.le
  have hlim := h.lim
  have hcp := h.cp
  by_cases hw : s.why = 0
  · have t0 : (s.why != 0) = false := bne_f hw
    by_cases hl : l.length - s.at_ < n
    · have e1 : biS n l s = ([], failS s l.length 2) := by unfold biS; rw [if_neg (by simp [hw]), if_pos hl]
      have i1 : (n : Int) > ((l.length : Nat) : Int) - (s.at_ : Int) := by omega
      rw [e1]
      have HF := hide (fun q => cu_fail ((unhide HC).below (below_drew W q)) l.length 2)
      clear h hw e1 f1 hl
      go_enter Tryz.func114, Tryz.ntmps114
      go_wp2
      go_quiet (fail)
      go_wp2_with fail
      refine (unhide HF _).mono ?_
      rintro e W2 ⟨rfl, hc, hg⟩
      have HZ := hide hc
      have HG := hide (grown_trans (grown_of_below (below_drew W _) (some g)) hg)
      clear hc hg HF k0 k1 k3
      go_wp2
      go_ret
      exact ⟨_, rfl, World.ownsRow_nil _ _ _ _, unhide HZ, unhide HG⟩
    · have e1 : biS n l s = ((l.drop s.at_).take n, ⟨s.at_ + n, s.bad, s.why⟩) := by unfold biS; rw [if_neg (by simp [hw]), if_neg hl]
      have i1 : ¬ (n : Int) > ((l.length : Nat) : Int) - (s.at_ : Int) := by omega
      have mixed := mixedT
      rw [e1]
      clear h hw e1
      go_enter Tryz.func114, Tryz.ntmps114
      go_wp2
      go_quiet (fail)
      go_upto_region 6 with fail
      have HC1 := hide ((unhide HC).below (below_drew W nq))
      have HG1 := hide (grown_of_below (below_drew W nq) (some g))
      generalize W.drewN nq = W1 at HC1 HG1 ⊢
      refine wp_region_held_drew (S := fun w' => Bx w' g 76 #[.slice ao l.length cap, .int .i64 (s.at_ : Int), .int .i64 (s.bad : Int), .int .i64 s.why]) mixed ((unhide HC1).below (Below.drew (Below.refl _ _))).bx (fun hS => ?_)
      have HC2 := hide ((unhide HC1).below (Below.drew (Below.refl _ _)))
      have HG2 := hide (grown_below_trans (unhide HG1) (Below.drew (Below.refl W1.heap.size W1)))
      clear HC1 HG1 k0 k1 k3 f1
      generalize W1.drew = Wd at hS HC2 HG2 ⊢
      obtain ⟨b0, off, rfl⟩ := (unhide HC2).hd
      have j1 : (s.at_ : Int) ≤ (s.at_ : Int) + (n : Int) := by omega
      have j2 : (s.at_ : Int) + (n : Int) ≤ ((cap : Nat) : Int) := by omega
      have j3 : IntKind.i64.wrap ((s.at_ : Int) + (n : Int)) = (s.at_ : Int) + (n : Int) := by simp [IntKind.wrap, IntKind.bits, IntKind.signed]; omega
      have j4 : (((s.at_ : Int) + (n : Int)).toNat - s.at_) = n := by omega
      refine wpAnyH_take (i := 0) (v := .pointer (some ⟨g, 0, none⟩)) rfl (by kernel_rfl) (by kernel_rfl) (by kernel_rfl) (fun _ _ _ h => h) (Or.inl ⟨by rfl, fun W _ => by go_simp⟩) hS ?_
      go_simp
      refine wpAnyH_take (i := 1) (v := .pointer (some ⟨g, 0, none⟩)) rfl (by kernel_rfl) (by kernel_rfl) (by kernel_rfl) (fun _ _ _ h => h) (Or.inl ⟨by rfl, fun W _ => by go_simp⟩) hS ?_
      go_simp
      refine wpAnyH_take (i := 2) (v := .pointer (some ⟨g, 0, none⟩)) rfl (by kernel_rfl) (by kernel_rfl) (by kernel_rfl) (fun _ _ _ h => h) (Or.inl ⟨by rfl, fun W _ => by go_simp⟩) hS ?_
      go_simp
      refine wpAnyH_take (i := 3) (v := .slice (some ⟨b0, off, none⟩) l.length cap) rfl (by kernel_rfl) (by kernel_rfl) (by kernel_rfl) (fun _ _ _ h => h) (Or.inl ⟨by rfl, fun W h => by have h0 := h.c 0 rfl; go_simp⟩) hS ?_
      go_simp
      refine wpAnyH_take (i := 4) (v := .pointer (some ⟨g, 0, none⟩)) rfl (by kernel_rfl) (by kernel_rfl) (by kernel_rfl) (fun _ _ _ h => h) (Or.inl ⟨by rfl, fun W _ => by go_simp⟩) hS ?_
      go_simp
      refine wpAnyH_take (i := 5) (v := .pointer (some ⟨g, 0, none⟩)) rfl (by kernel_rfl) (by kernel_rfl) (by kernel_rfl) (fun _ _ _ h => h) (Or.inl ⟨by rfl, fun W _ => by go_simp⟩) hS ?_
      go_simp
      refine wpAnyH_take (i := 6) (v := .pointer (some ⟨g, 1, none⟩)) rfl (by kernel_rfl) (by kernel_rfl) (by kernel_rfl) (fun _ _ _ h => h) (Or.inl ⟨by rfl, fun W _ => by go_simp⟩) hS ?_
      go_simp
      refine wpAnyH_take (i := 7) (v := .int .i64 (s.at_ : Int)) rfl (by kernel_rfl) (by kernel_rfl) (by kernel_rfl) (fun _ _ _ h => h) (Or.inl ⟨by rfl, fun W h => by have h0 := h.c 1 rfl; go_simp⟩) hS ?_
      go_simp
      refine wpAnyH_take (i := 8) (v := .pointer (some ⟨g, 0, none⟩)) rfl (by kernel_rfl) (by kernel_rfl) (by kernel_rfl) (fun _ _ _ h => h) (Or.inl ⟨by rfl, fun W _ => by go_simp⟩) hS ?_
      go_simp
      refine wpAnyH_take (i := 9) (v := .pointer (some ⟨g, 0, none⟩)) rfl (by kernel_rfl) (by kernel_rfl) (by kernel_rfl) (fun _ _ _ h => h) (Or.inl ⟨by rfl, fun W _ => by go_simp⟩) hS ?_
      go_simp
      refine wpAnyH_take (i := 10) (v := .pointer (some ⟨g, 1, none⟩)) rfl (by kernel_rfl) (by kernel_rfl) (by kernel_rfl) (fun _ _ _ h => h) (Or.inl ⟨by rfl, fun W _ => by go_simp⟩) hS ?_
      go_simp
      refine wpAnyH_take (i := 11) (v := .int .i64 (s.at_ : Int)) rfl (by kernel_rfl) (by kernel_rfl) (by kernel_rfl) (fun _ _ _ h => h) (Or.inl ⟨by rfl, fun W h => by have h0 := h.c 1 rfl; go_simp⟩) hS ?_
      go_simp
      refine wpAnyH_take (i := 12) (v := .int .i64 (n : Int)) rfl (by kernel_rfl) (by kernel_rfl) (by kernel_rfl) (fun _ _ _ h => h) (Or.inl ⟨by rfl, fun W _ => by go_simp⟩) hS ?_
      go_simp
      refine wpAnyH_take (i := 13) (v := .int .i64 ((s.at_ : Int) + (n : Int))) rfl (by kernel_rfl) (by kernel_rfl) (by kernel_rfl) (fun _ _ _ h => h) (Or.inl ⟨by rfl, fun W _ => by go_simp⟩) hS ?_
      go_simp
      obtain ⟨P, HP⟩ : ∃ P, Hid (P = if cap = s.at_ then off else off + s.at_) := ⟨_, hide rfl⟩
      refine wpAnyH_take (i := 14) (v := .slice (some ⟨b0, P, none⟩) n (cap - s.at_)) rfl (by kernel_rfl) (by kernel_rfl) (by kernel_rfl) (fun _ _ _ h => h) (Or.inl ⟨by rfl, fun W _ => by go_simp; rw [unhide HP]; split <;> rfl⟩) hS ?_
      go_simp
      have hml : ((l.drop s.at_).take n).length = n := by rw [List.length_take, List.length_drop]; omega
      have HSr : Hid (SrcB Wd (.slice (some ⟨b0, P, none⟩) n (cap - s.at_)) ((l.drop s.at_).take n)) := hide (Or.inr ⟨_, _, by rw [hml], by
        by_cases hz : cap = s.at_
        · have : n = 0 := by omega
          subst this
          rw [List.take_zero]
          exact BAt.nil _ _
        · rw [unhide HP, if_neg hz]
          exact cut_at (unhide HC2).bts (by omega) rfl⟩)
      have HON : Hid (OwnB Wd Wd.heap.size (.slice none 0 0) []) := hide (World.ownsRow_nil _ _ _ _)
      have hWs : W.heap.size ≤ Wd.heap.size := (unhide HG2).size
      refine wpAnyH_ready (rs := [15]) (by kernel_rfl) (by simp) ?_
      refine AllReadyH.cons rfl (fun K hK => ?_) AllReadyH.nil
      rw [if_pos (by rfl)]
      refine wp_appendBR (.const (.slice none 0 0)) (.tmp 44) rfl Wd.heap.size (.slice none 0 0) [] rfl (unhide HON) (.slice (some ⟨b0, P, none⟩) n (cap - s.at_)) ((l.drop s.at_).take n) rfl (unhide HSr) (by rw [hml]; simp; omega) (Nat.le_refl _) ?_
      intro v4 W4 hO4 hG4
      rw [List.nil_append] at hO4
      have hb4 : Below Wd.heap.size Wd W4 := below_grown hG4 (Nat.le_refl _) (fun k e => by cases e)
      have HC4 := hide ((unhide HC2).below hb4)
      have HG4 := hide (grown_below_trans (unhide HG2) hb4)
      have HV4 : Hid (∀ k, v4.ownBlock = some k → k ≠ g) := hide (fun k e => by have h1 := (World.ownsRow.lt hO4 k e).1; have h2 := (unhide HC2).lt; omega)
      have HO4 := hide (hO4.mono hWs)
      refine hK.out _ _ (unhide HC4).bx (fun hS4 => ?_)
      clear hK K hS hO4 hG4 hb4 HSr HON HP hml HC2 HG2
      refine wpAnyH_ready (rs := [16]) (by kernel_rfl) (by simp) ?_
      refine AllReadyH.cons rfl (fun K hK => ?_) AllReadyH.nil
      go_simp
      refine hK.out _ _ (unhide HC4).bx (fun hS5 => ?_)
      clear hK K hS4
      refine wpAnyH_done (by kernel_rfl) ?_ _
      clear hS5
      have k0 := (unhide HC4).bx.c 0 rfl
      have k1 := (unhide HC4).bx.c 1 rfl
      have f1 := (unhide HC4).bx.f 1
      have HS := hide ((unhide HC4).at (s.at_ + n) (by omega))
      have ek : ((s.at_ + n : Nat) : Int) = (s.at_ : Int) + n := by omega
      have hgs := grownBy_set W4 g 1 (.int .i64 ((s.at_ + n : Nat) : Int))
      have HO5 := hide ((unhide HO4).grown_own hgs (unhide HV4))
      have HG5 := hide (grown_trans (unhide HG4) hgs)
      rw [ek] at HS HO5 HG5
      clear hgs HC HC4 HG4
      go_wp2
      go_ret
      exact ⟨_, rfl, unhide HO5, unhide HS, unhide HG5⟩
  · have t0 : (s.why != 0) = true := bne_t hw
    have e1 := bi_bad (n := n) (L := l) hw
    rw [e1]
    clear h hw e1
    go_enter Tryz.func114, Tryz.ntmps114
    go_wp2
    go_ret
    exact ⟨_, rfl, World.ownsRow_nil _ _ _ _, unhide HC, World.grownBy.refl _ _⟩
end Go.Proofs.YtibgfdjopikafaaGreatDoor

/-
  The document's cursor over a module's file: name, piece: as the plain ones. Conditions: none but that the cursor is one.
-/
namespace Go.Proofs.YtibgfdjopikafaaGreatDoor
open Go.RowKit
set_option maxRecDepth 20000
set_option linter.unusedVariables false
set_option linter.unusedSimpArgs false

theorem OwnB.nil_of {w : World} {base : Nat} {v : Value} {l : List UInt8} (h : OwnB w base v l) : ∃ a c, v = .slice a l.length c ∧ BAt w a l ∧ (a = none → l = []) := by
  rcases h.shape with ⟨rfl, rfl⟩ | ⟨g, cap, rfl, hg1, hg2, hg3, hg4, hg5⟩
  · exact ⟨none, 0, rfl, BAt.nil _ _, fun _ => rfl⟩
  · exact ⟨_, cap, rfl, hg5, fun e => by cases e⟩
set_option maxHeartbeats 8000000 in
theorem cu_name {W : World} {g : Nat} {ao : Option Addr} {cap : Nat} {l : List UInt8} {s : Cs} (h : Cu W g ao cap l s) :
    Calls Tryz.prog 78 #[.pointer (some ⟨g, 0, none⟩)] W (CuP W g ao cap l (.string ⟨(naS l s).1.toArray⟩) (naS l s).2) := by
  have k1 := h.bx.c 1 rfl
  have HK := hide (cu_byte h)
  have hlt := byS_lt l s
  unfold naS
  obtain ⟨⟨n, s1⟩, hb⟩ : ∃ r, byS l s = r := ⟨_, rfl⟩
  rw [hb] at HK hlt ⊢
  replace HK : Hid (Calls Tryz.prog 82 #[.pointer (some ⟨g, 0, none⟩)] W (CuP W g ao cap l (.int .i64 (n : Int)) s1)) := HK
  have hn : n < 256 := hlt
  show Calls _ _ _ _ (CuP W g ao cap l (.string ⟨(biS n l (n2S n s.at_ s1)).1.toArray⟩) (n4S (biS n l (n2S n s.at_ s1)).1 s.at_ (biS n l (n2S n s.at_ s1)).2))
  generalize s.at_ = k at k1 ⊢
  obtain ⟨s2, hs2⟩ : ∃ x, n2S n k s1 = x := ⟨_, rfl⟩
  rw [hs2]
  have HN2 := hide hs2
  have hxl := biS_len n l s2
  obtain ⟨⟨x, s3⟩, hb3⟩ : ∃ r, biS n l s2 = r := ⟨_, rfl⟩
  rw [hb3] at hxl ⊢
  show Calls _ _ _ _ (CuP W g ao cap l (.string ⟨x.toArray⟩) (n4S x k s3))
  have HB3 := hide hb3
  have hxl' : x.length ≤ n := hxl
  have HXL : Hid (x.length < 256) := hide (by omega)
  have HN := hide hn
  obtain ⟨s4, hs4⟩ : ∃ y, n4S x k s3 = y := ⟨_, rfl⟩
  rw [hs4]
  have HN4 := hide hs4
  clear h hb hlt hn hs2 hxl hxl' hb3 hs4
  go_enter Tryz.func78, Tryz.ntmps78
  go_wp2_with fail
  refine (unhide HK).mono ?_
  rintro e W1 ⟨rfl, hc, hg⟩
  have HC1 := hide hc
  have HG1 := hide hg
  have c3 := hc.bx.c 3 rfl
  clear hc hg HK k1
  go_upto_region 3 with fail
  go_cut [24] (fun c wx => ∃ p : Bool, c = .bool p ∧ Hid (p = decide (s1.why = 0 ∧ (n = 0 ∨ 24 < n))) ∧ Hid (Cu wx g ao cap l s1) ∧ Hid (W.grownBy wx (some g)))
  case first =>
    by_cases h0 : s1.why = 0
    · have t0 : (s1.why == 0) = true := beq_t h0
      by_cases h1 : n = 0
      · have t1 : ((n : Int) == 0) = true := beq_t (by omega)
        have HP : Hid (true = decide (s1.why = 0 ∧ (n = 0 ∨ 24 < n))) := hide (by symm; rw [decide_eq_true_iff]; exact ⟨h0, Or.inl h1⟩)
        clear h0 h1
        go_wp2
        go_meet
        exact ⟨true, rfl, HP, HC1, HG1⟩
      · have t1 : ((n : Int) == 0) = false := beq_f (by omega)
        by_cases h2 : 24 < n
        · have i2 : (n : Int) > 24 := by omega
          have HP : Hid (true = decide (s1.why = 0 ∧ (n = 0 ∨ 24 < n))) := hide (by symm; rw [decide_eq_true_iff]; exact ⟨h0, Or.inr h2⟩)
          clear h0 h1 h2
          go_wp2
          go_meet
          exact ⟨true, rfl, HP, HC1, HG1⟩
        · have i2 : ¬ (n : Int) > 24 := by omega
          have HP : Hid (false = decide (s1.why = 0 ∧ (n = 0 ∨ 24 < n))) := hide (by symm; rw [decide_eq_false_iff_not]; rintro ⟨_, h | h⟩ <;> omega)
          clear h0 h1 h2
          go_wp2
          go_meet
          exact ⟨false, rfl, HP, HC1, HG1⟩
    · have t0 : (s1.why == 0) = false := beq_f h0
      have HP : Hid (false = decide (s1.why = 0 ∧ (n = 0 ∨ 24 < n))) := hide (by symm; rw [decide_eq_false_iff_not]; rintro ⟨h, _⟩; exact h0 h)
      clear h0
      go_wp2
      go_meet
      exact ⟨false, rfl, HP, HC1, HG1⟩
  case rest =>
  clear HC1 HG1 c3
  obtain ⟨p, rfl, HP, HC1, HG1⟩ := hcut
  go_upto_if 24 with fail
  go_cut [] (fun wx => Hid (Cu wx g ao cap l s2) ∧ Hid (W.grownBy wx (some g)))
  case first =>
    cases p with
    | true =>
      have h := of_decide_eq_true (unhide HP).symm
      have e2 : s2 = failS s1 k 6 := by rw [← unhide HN2, n2S, if_pos h]
      have HE2 := hide e2
      have HF := hide (cu_fail (unhide HC1) k 6)
      clear e2 h HP
      go_wp2_with fail
      refine (unhide HF).mono ?_
      rintro e W2 ⟨rfl, hc, hg⟩
      have HZ : Hid (Cu W2 g ao cap l s2) := hide (by rw [unhide HE2]; exact hc)
      have HG := hide (grown_trans (unhide HG1) hg)
      clear hc hg HF HE2
      go_wp2_with fail
      go_meet
      exact ⟨HZ, HG⟩
    | false =>
      have h := of_decide_eq_false (unhide HP).symm
      have e2 : s2 = s1 := by rw [← unhide HN2, n2S, if_neg h]
      have HZ : Hid (Cu wc g ao cap l s2) := hide (by rw [e2]; exact unhide HC1)
      clear e2 h HP
      go_wp2_with fail
      go_meet
      exact ⟨HZ, HG1⟩
  case rest =>
  clear HC1 HG1 HP
  obtain ⟨HC2, HG2⟩ := hcut
  rename World => wq
  have HK : Hid (Calls Tryz.prog 114 #[.pointer (some ⟨g, 0, none⟩), .int .i64 (n : Int)] wq (CuB wq g ao cap l x s3)) := hide (by
    have h := cu_bytes (unhide HC2) n (by have := unhide HN; omega)
    rw [unhide HB3] at h
    exact h)
  go_wp2_with fail
  refine (unhide HK).mono ?_
  rintro e W3 ⟨v, rfl, ho, hc, hg⟩
  obtain ⟨va, vc, rfl, hva, hvn⟩ := ho.nil_of
  have hcv := conv_bytesT hva hvn vc
  have HC3 := hide hc
  have HG3 := hide (grown_trans (unhide HG2) hg)
  clear ho hva hvn hc hg HK HC2 HG2 HB3 HN2 HN
  go_upto_region 6 with fail
  clear hcv
  have c3 := (unhide HC3).bx.c 3 rfl
  have HIN := hide (refName_any ⟨x.toArray⟩ W3 (by have := unhide HXL; show x.toArray.size ≤ maxLen; unfold maxLen; simp; omega))
  go_cut [41] (fun c wx => ∃ p : Bool, c = .bool p ∧ Hid (p = decide (s3.why = 0 ∧ nameB ⟨x.toArray⟩ = false)) ∧ Hid (Cu wx g ao cap l s3) ∧ Hid (W.grownBy wx (some g)))
  case first =>
    by_cases h0 : s3.why = 0
    · have t0 : (s3.why == 0) = true := beq_t h0
      have HP : Hid ((!nameB ⟨x.toArray⟩) = decide (s3.why = 0 ∧ nameB ⟨x.toArray⟩ = false)) := hide (by
        cases hx : nameB ⟨x.toArray⟩ with
        | true => symm; show _ = false; rw [decide_eq_false_iff_not]; rintro ⟨_, h⟩; cases h
        | false => symm; show _ = true; rw [decide_eq_true_iff]; exact ⟨h0, rfl⟩)
      clear h0
      go_wp2_with fail
      refine (unhide HIN).mono ?_
      rintro e W4 ⟨rfl, hw⟩
      rw [hw]
      clear hw W4 HIN
      go_wp2_with fail
      go_meet
      exact ⟨_, rfl, HP, HC3, HG3⟩
    · have t0 : (s3.why == 0) = false := beq_f h0
      have HP : Hid (false = decide (s3.why = 0 ∧ nameB ⟨x.toArray⟩ = false)) := hide (by symm; rw [decide_eq_false_iff_not]; rintro ⟨h, _⟩; exact h0 h)
      clear h0 HIN
      go_wp2_with fail
      go_meet
      exact ⟨false, rfl, HP, HC3, HG3⟩
  case rest =>
  clear HC3 HG3 c3 HIN
  obtain ⟨p, rfl, HP, HC4, HG4⟩ := hcut
  rename World => wz
  cases p with
  | true =>
    have h := of_decide_eq_true (unhide HP).symm
    have e2 : s4 = failS s3 k 6 := by rw [← unhide HN4, n4S, if_pos h]
    have HE2 := hide e2
    have HF := hide (cu_fail (unhide HC4) k 6)
    clear e2 h HP HN4
    go_wp2_with fail
    refine (unhide HF).mono ?_
    rintro e W5 ⟨rfl, hc, hg⟩
    have HZ : Hid (Cu W5 g ao cap l s4) := hide (by rw [unhide HE2]; exact hc)
    have HG := hide (grown_trans (unhide HG4) hg)
    clear hc hg HF HE2
    go_wp2
    go_ret
    exact ⟨rfl, unhide HZ, unhide HG⟩
  | false =>
    have h := of_decide_eq_false (unhide HP).symm
    have e2 : s4 = s3 := by rw [← unhide HN4, n4S, if_neg h]
    have HZ : Hid (Cu wz g ao cap l s4) := hide (by rw [e2]; exact unhide HC4)
    clear e2 h HP HN4
    go_wp2
    go_ret
    exact ⟨rfl, unhide HZ, unhide HG4⟩
set_option maxHeartbeats 8000000 in
theorem cu_piece {W : World} {g : Nat} {ao : Option Addr} {cap : Nat} {l : List UInt8} {s : Cs} (h : Cu W g ao cap l s) :
    Calls Tryz.prog 84 #[.pointer (some ⟨g, 0, none⟩)] W (CuB W g ao cap l (loS l s).1 (loS l s).2) := by
  have HK := hide (cu_byte h)
  have hlt := byS_lt l s
  unfold loS
  obtain ⟨⟨n, s1⟩, hb⟩ : ∃ r, byS l s = r := ⟨_, rfl⟩
  rw [hb] at HK hlt ⊢
  replace HK : Hid (Calls Tryz.prog 82 #[.pointer (some ⟨g, 0, none⟩)] W (CuP W g ao cap l (.int .i64 (n : Int)) s1)) := HK
  have hn : n < 256 := hlt
  show Calls _ _ _ _ (CuB W g ao cap l (biS (256 * n + (byS l s1).1) l (byS l s1).2).1 (biS (256 * n + (byS l s1).1) l (byS l s1).2).2)
  have hlt2 := byS_lt l s1
  obtain ⟨⟨m, s2⟩, hb2⟩ : ∃ r, byS l s1 = r := ⟨_, rfl⟩
  rw [hb2] at hlt2 ⊢
  have HB2 := hide hb2
  have hm : m < 256 := hlt2
  show Calls _ _ _ _ (CuB W g ao cap l (biS (256 * n + m) l s2).1 (biS (256 * n + m) l s2).2)
  obtain ⟨⟨x, s3⟩, hb3⟩ : ∃ r, biS (256 * n + m) l s2 = r := ⟨_, rfl⟩
  rw [hb3]
  have HB3 := hide hb3
  clear h hb hlt hlt2 hb2 hb3
  have hw1 : IntKind.i64.wrap (256 * (n : Int)) = 256 * (n : Int) := by simp [IntKind.wrap, IntKind.bits, IntKind.signed]; omega
  have hw2 : IntKind.i64.wrap (256 * (n : Int) + (m : Int)) = 256 * (n : Int) + (m : Int) := by simp [IntKind.wrap, IntKind.bits, IntKind.signed]; omega
  go_enter Tryz.func84, Tryz.ntmps84
  go_wp2_with fail
  refine (unhide HK).mono ?_
  rintro e W1 ⟨rfl, hc, hg⟩
  have HG1 := hide hg
  have HK2 : Hid (Calls Tryz.prog 82 #[.pointer (some ⟨g, 0, none⟩)] W1 (CuP W1 g ao cap l (.int .i64 (m : Int)) s2)) := hide (by
    have h := cu_byte hc
    rw [unhide HB2] at h
    exact h)
  clear hc hg HK HB2
  go_wp2_with fail
  refine (unhide HK2).mono ?_
  rintro e W2 ⟨rfl, hc, hg⟩
  have HG2 := hide (grown_trans (unhide HG1) hg)
  have HS2 := hide (Nat.le_trans (unhide HG1).size hg.size)
  have HK3 : Hid (Calls Tryz.prog 114 #[.pointer (some ⟨g, 0, none⟩), .int .i64 (256 * (n : Int) + (m : Int))] W2 (CuB W2 g ao cap l x s3)) := hide (by
    have h := cu_bytes hc (256 * n + m) (by omega)
    rw [unhide HB3] at h
    have e : ((256 * n + m : Nat) : Int) = 256 * (n : Int) + (m : Int) := by omega
    rw [e] at h
    exact h)
  clear hc hg HK2 HB3 HG1
  go_wp2_with fail
  refine (unhide HK3).mono ?_
  rintro e W3 ⟨v, rfl, ho, hc, hg⟩
  have HO := hide (ho.mono (unhide HS2))
  have HC3 := hide hc
  have HG3 := hide (grown_trans (unhide HG2) hg)
  clear ho hc hg HK3
  go_wp2
  go_ret
  exact ⟨_, rfl, unhide HO, unhide HC3, unhide HG3⟩
end Go.Proofs.YtibgfdjopikafaaGreatDoor
