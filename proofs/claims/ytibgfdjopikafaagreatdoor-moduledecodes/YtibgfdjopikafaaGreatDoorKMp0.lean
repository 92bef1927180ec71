/-
  A module's file, piece by piece, plain: what is read from a place on, what is written; what is written is what is read, and the other way round. No Go in it.
-/
import Derived.Test.YtibgfdjopikafaaGreatDoorJWR
namespace Go.Proofs.YtibgfdjopikafaaGreatDoor
open Go.RowKit
set_option maxRecDepth 20000
set_option linter.unusedVariables false

/-- What a piece of a file is read as from a place on: it, and the place behind; else the place and the error. -/
abbrev PR (α : Type) := Except (Nat × Int) (α × Nat)
def bndP {α β : Type} (p : PR α) (f : α → Nat → PR β) : PR β := match p with
  | .error e => .error e
  | .ok (x, k) => f x k
def byP (L : List UInt8) (k : Nat) : PR Nat := if L.length - k < 1 then .error (L.length, 2) else .ok (nmN L k, k + 1)
def nmP (L : List UInt8) (k : Nat) : PR (List UInt8) := if nmE L k = 0 then .ok (nmS L k, k + 1 + nmN L k) else .error (if nmE L k = 2 then L.length else k, nmE L k)
def coP (most : Nat) (L : List UInt8) (k : Nat) : PR Nat := bndP (byP L k) fun n k' => if most < n then .error (k, 4) else .ok (n, k')
def biP (n : Nat) (L : List UInt8) (k : Nat) : PR (List UInt8) := if L.length - k < n then .error (L.length, 2) else .ok ((L.drop k).take n, k + n)
def woN (L : List UInt8) (k : Nat) : Nat := 256 * nmN L k + nmN L (k + 1)
def loP (L : List UInt8) (k : Nat) : PR (List UInt8) := if L.length - k < 2 then .error (L.length, 2) else biP (woN L k) L (k + 2)
def repP {α : Type} (p : List UInt8 → Nat → PR α) : Nat → List UInt8 → Nat → PR (List α)
  | 0, _, k => .ok ([], k)
  | n + 1, L, k => bndP (p L k) fun x k1 => bndP (repP p n L k1) fun xs k2 => .ok (x :: xs, k2)
abbrev FlC := List UInt8 × Nat
abbrev ClC := List UInt8 × Int × List FlC
abbrev FnC := List UInt8 × (List Nat × Nat) × Int × List UInt8
def fdP (L : List UInt8) (k : Nat) : PR FlC := bndP (nmP L k) fun s k1 => bndP (byP L k1) fun t k2 => .ok ((s, t), k2)
def parI (b : Nat) : Int := if b = 255 then -1 else (b : Int)
def clP (L : List UInt8) (k : Nat) : PR ClC := bndP (nmP L k) fun s k1 => bndP (byP L k1) fun b k2 => bndP (coP 32 L k2) fun n k3 => bndP (repP fdP n L k3) fun fs k4 => .ok ((s, parI b, fs), k4)
def fnP (L : List UInt8) (k : Nat) : PR FnC := bndP (nmP L k) fun s k1 => bndP (coP 8 L k1) fun n k2 => bndP (repP byP n L k2) fun ps k3 => bndP (byP L k3) fun rt k4 => bndP (byP L k4) fun lo k5 => bndP (loP L k5) fun cd k6 => .ok ((s, (ps, rt), (lo : Int), cd), k6)
/-- What stands in a module. -/
structure Mc where
  nm : List UInt8
  T : List ClC
  F : List FnC
  C : List (List UInt8)
def ctP (n : Nat) (L : List UInt8) (k : Nat) : PR (List (List UInt8)) := bndP (byP L k) fun c k1 => if 1 < c ∨ (c = 1 ∧ n = 0) then .error (k, 162) else repP loP (if c = 1 then n else 0) L k1
def mdP (L : List UInt8) (k : Nat) : PR Mc := bndP (nmP L k) fun s k1 => bndP (coP 32 L k1) fun n k2 => bndP (repP clP n L k2) fun T k3 => bndP (coP 64 L k3) fun m k4 => bndP (repP fnP m L k4) fun F k5 => bndP (ctP m L k5) fun C k6 => .ok (⟨s, T, F, C⟩, k6)

/-! ### As bytes -/
def nbL (s : List UInt8) : List UInt8 := UInt8.ofNat s.length :: s
def oneB (n : Nat) : List UInt8 := [UInt8.ofNat n]
def loB (l : List UInt8) : List UInt8 := be (l.length : Int) 2 ++ l
def fdB (x : FlC) : List UInt8 := nbL x.1 ++ oneB x.2
def parN (p : Int) : Nat := if p < 0 then 255 else p.toNat
def clB (x : ClC) : List UInt8 := nbL x.1 ++ (oneB (parN x.2.1) ++ (oneB x.2.2.length ++ x.2.2.flatMap fdB))
def fnB (x : FnC) : List UInt8 := nbL x.1 ++ (oneB x.2.1.1.length ++ (x.2.1.1.flatMap oneB ++ (oneB x.2.1.2 ++ (oneB x.2.2.1.toNat ++ loB x.2.2.2))))
def ctB (C : List (List UInt8)) : List UInt8 := if C = [] then oneB 0 else oneB 1 ++ C.flatMap loB
def mdB (m : Mc) : List UInt8 := nbL m.nm ++ (oneB m.T.length ++ (m.T.flatMap clB ++ (oneB m.F.length ++ (m.F.flatMap fnB ++ ctB m.C))))

/-! ### There and back: p reads just what e writes, of things that are V -/
def Co {α : Type} (p : List UInt8 → Nat → PR α) (e : α → List UInt8) (V : α → Prop) : Prop :=
  ∀ (L : List UInt8) (k : Nat) (x : α) (k' : Nat), k ≤ L.length → (p L k = .ok (x, k') ↔ V x ∧ k' = k + (e x).length ∧ ∃ r, L.drop k = e x ++ r)
theorem Co.le {α : Type} {p : List UInt8 → Nat → PR α} {e : α → List UInt8} {V : α → Prop} (h : Co p e V) {L : List UInt8} {k : Nat} {x : α} {k' : Nat} (hk : k ≤ L.length) (hp : p L k = .ok (x, k')) : k ≤ k' ∧ k' ≤ L.length := by
  obtain ⟨_, rfl, r, hr⟩ := (h L k x k' hk).1 hp
  have := congrArg List.length hr
  rw [List.length_drop, List.length_append] at this
  omega
theorem drop_behind {L A r : List UInt8} {k : Nat} (h : L.drop k = A ++ r) : L.drop (k + A.length) = r := by
  rw [← List.drop_drop, h, List.drop_left]
theorem Co.ret {α : Type} (z : α) : Co (fun _ k => .ok (z, k)) (fun _ => []) (fun x => x = z) := by
  intro L k x k' _
  constructor
  · intro h
    injection h with h
    injection h with h1 h2
    exact ⟨h1.symm, by simp [h2], L.drop k, rfl⟩
  · rintro ⟨rfl, rfl, _⟩
    rfl
/-- One behind another. -/
theorem Co.bnd {α β : Type} {p : List UInt8 → Nat → PR α} {e : α → List UInt8} {V : α → Prop} (h : Co p e V) {q : α → List UInt8 → Nat → PR β} {e2 : α → β → List UInt8} {V2 : α → β → Prop} (hq : ∀ x, V x → Co (q x) (e2 x) (V2 x)) (g : β → α) (hg : ∀ x z, V x → V2 x z → g z = x) :
    Co (fun L k => bndP (p L k) fun x k1 => q x L k1) (fun z => e (g z) ++ e2 (g z) z) (fun z => V (g z) ∧ V2 (g z) z) := by
  intro L k z k' hk
  show bndP (p L k) (fun x k1 => q x L k1) = _ ↔ _
  constructor
  · intro hh
    cases hp : p L k with
    | error er => rw [hp] at hh; cases hh
    | ok y =>
      obtain ⟨x, k1⟩ := y
      rw [hp] at hh
      have hh : q x L k1 = .ok (z, k') := hh
      have hle := h.le hk hp
      obtain ⟨v1, rfl, r1, hr1⟩ := (h L k x k1 hk).1 hp
      obtain ⟨v2, rfl, r2, hr2⟩ := (hq x v1 L _ z k' hle.2).1 hh
      obtain rfl := hg x z v1 v2
      refine ⟨⟨v1, v2⟩, by rw [List.length_append]; omega, r2, ?_⟩
      rw [drop_behind hr1] at hr2
      rw [hr1, hr2, List.append_assoc]
  · rintro ⟨⟨v1, v2⟩, rfl, r, hr⟩
    rw [List.append_assoc] at hr
    have h1 := (h L k (g z) (k + (e (g z)).length) hk).2 ⟨v1, rfl, _, hr⟩
    have hle := h.le hk h1
    rw [h1]
    show q (g z) L _ = _
    refine (hq (g z) v1 L _ z _ hle.2).2 ⟨v2, by rw [List.length_append]; omega, r, drop_behind hr⟩
theorem Co.congr {α : Type} {p : List UInt8 → Nat → PR α} {e e' : α → List UInt8} {V V' : α → Prop} (h : Co p e V) (hV : ∀ x, V x ↔ V' x) (he : ∀ x, V' x → e x = e' x) : Co p e' V' := by
  intro L k x k' hk
  rw [h L k x k' hk]
  constructor
  · rintro ⟨v, a, b⟩
    have v' := (hV x).1 v
    rw [he x v'] at a b
    exact ⟨v', a, b⟩
  · rintro ⟨v, a, b⟩
    rw [← he x v] at a b
    exact ⟨(hV x).2 v, a, b⟩
theorem Co.rep {α : Type} {p : List UInt8 → Nat → PR α} {e : α → List UInt8} {V : α → Prop} (h : Co p e V) : ∀ n, Co (repP p n) (fun xs => xs.flatMap e) (fun xs => xs.length = n ∧ ∀ x ∈ xs, V x)
  | 0 => by
    intro L k xs k' _
    constructor
    · intro hh
      injection hh with hh
      injection hh with h1 h2
      subst h1 h2
      exact ⟨⟨rfl, fun x hx => by simp at hx⟩, by simp, L.drop k, by simp⟩
    · rintro ⟨⟨h1, _⟩, rfl, _⟩
      have : xs = [] := List.eq_nil_of_length_eq_zero h1
      subst this
      rfl
  | n + 1 => by
    intro L k xs k' hk
    show bndP (p L k) (fun x k1 => bndP (repP p n L k1) fun ys k2 => .ok (x :: ys, k2)) = _ ↔ _
    constructor
    · intro hh
      cases hp : p L k with
      | error er => rw [hp] at hh; cases hh
      | ok y =>
        obtain ⟨x, k1⟩ := y
        rw [hp] at hh
        have hh : bndP (repP p n L k1) (fun ys k2 => .ok (x :: ys, k2)) = .ok (xs, k') := hh
        cases hp2 : repP p n L k1 with
        | error er => rw [hp2] at hh; cases hh
        | ok y2 =>
          obtain ⟨ys, k2⟩ := y2
          rw [hp2] at hh
          injection hh with hh
          injection hh with h1 h2
          subst h1 h2
          have hle := h.le hk hp
          obtain ⟨v1, rfl, r1, hr1⟩ := (h L k x k1 hk).1 hp
          obtain ⟨⟨l2, v2⟩, rfl, r2, hr2⟩ := (Co.rep h n L _ ys k2 hle.2).1 hp2
          refine ⟨⟨by simp [l2], fun u hu => ?_⟩, by simp; omega, r2, ?_⟩
          · rcases List.mem_cons.1 hu with rfl | hu
            · exact v1
            · exact v2 u hu
          · rw [drop_behind hr1] at hr2
            rw [hr1, hr2]
            simp
    · rintro ⟨⟨l1, v1⟩, rfl, r, hr⟩
      cases xs with
      | nil => simp at l1
      | cons x ys =>
        have hr : L.drop k = e x ++ (ys.flatMap e ++ r) := by rw [hr]; simp
        have h1 := (h L k x (k + (e x).length) hk).2 ⟨v1 x List.mem_cons_self, rfl, _, hr⟩
        have hle := h.le hk h1
        rw [h1]
        show bndP (repP p n L _) (fun ys k2 => .ok (x :: ys, k2)) = _
        have h2 := (Co.rep h n L _ ys (k + (e x).length + (ys.flatMap e).length) hle.2).2 ⟨⟨by simpa using l1, fun u hu => v1 u (List.mem_cons_of_mem _ hu)⟩, rfl, r, drop_behind hr⟩
        rw [h2]
        show Except.ok _ = Except.ok _
        simp
        omega
theorem getD_drop {L : List UInt8} {k : Nat} {x : UInt8} {r : List UInt8} (h : L.drop k = x :: r) : L.getD k 0 = x := by
  rw [List.getD_eq_getElem?_getD]
  have : (L.drop k)[0]? = some x := by rw [h]; rfl
  rw [List.getElem?_drop] at this
  simp at this
  rw [this]; rfl
theorem drop_cons {L : List UInt8} {k : Nat} (h : 1 ≤ L.length - k) : L.drop k = L.getD k 0 :: L.drop (k + 1) := by
  rw [List.getD_eq_getElem?_getD, List.getElem?_eq_getElem (by omega), Option.getD_some, List.getElem_cons_drop]
theorem ofNat_nat {n : Nat} (h : n < 256) : (UInt8.ofNat n).toNat = n := by rw [UInt8.toNat_ofNat']; omega
theorem Co.by : Co byP oneB (fun n => n < 256) := by
  intro L k x k' hk
  unfold byP oneB
  constructor
  · intro h
    by_cases h1 : L.length - k < 1
    · rw [if_pos h1] at h; cases h
    · rw [if_neg h1] at h
      injection h with h
      injection h with h2 h3
      subst h2 h3
      refine ⟨(L.getD k 0).toNat_lt, rfl, L.drop (k + 1), ?_⟩
      rw [drop_cons (by omega)]
      show _ = UInt8.ofNat (L.getD k 0).toNat :: _
      rw [UInt8.ofNat_toNat]
      rfl
  · rintro ⟨h1, rfl, r, hr⟩
    have hl := congrArg List.length hr
    rw [List.length_drop] at hl
    simp at hl
    rw [if_neg (by omega)]
    unfold nmN
    rw [getD_drop hr, ofNat_nat h1]
    rfl
theorem Co.co (most : Nat) (hm : most < 256) : Co (coP most) oneB (fun n => n ≤ most) := by
  intro L k x k' hk
  have hb := Co.by L k
  constructor
  · intro h
    unfold coP at h
    cases hp : byP L k with
    | error er => rw [hp] at h; cases h
    | ok y =>
      obtain ⟨n, k1⟩ := y
      rw [hp] at h
      have h : (if most < n then .error (k, 4) else .ok (n, k1) : PR Nat) = .ok (x, k') := h
      by_cases h1 : most < n
      · rw [if_pos h1] at h; cases h
      · rw [if_neg h1] at h
        injection h with h
        injection h with h2 h3
        subst h2 h3
        obtain ⟨_, a, b⟩ := (hb n k1 hk).1 hp
        exact ⟨by omega, a, b⟩
  · rintro ⟨h1, a, b⟩
    have := (hb x k' hk).2 ⟨by omega, a, b⟩
    unfold coP
    rw [this]
    show (if most < x then .error (k, 4) else .ok (x, k') : PR Nat) = _
    rw [if_neg (by omega)]
/-- A name that may be. -/
def NmV (s : List UInt8) : Prop := nameB ⟨s.toArray⟩ = true
theorem NmV.len {s : List UInt8} (h : NmV s) : 1 ≤ s.length ∧ s.length ≤ 24 := by
  have := name_size h
  simpa [ByteArray.size] using this
theorem Co.nm : Co nmP nbL NmV := by
  intro L k x k' hk
  unfold nmP nbL
  constructor
  · intro h
    by_cases h0 : nmE L k = 0
    · rw [if_pos h0] at h
      injection h with h
      injection h with h2 h3
      subst h2 h3
      unfold nmE at h0
      by_cases h1 : L.length - k < 1
      · rw [if_pos h1] at h0; exact absurd h0 (by decide)
      rw [if_neg h1] at h0
      by_cases h2 : nmN L k = 0 ∨ 24 < nmN L k
      · rw [if_pos h2] at h0; exact absurd h0 (by decide)
      rw [if_neg h2] at h0
      by_cases h3 : L.length - (k + 1) < nmN L k
      · rw [if_pos h3] at h0; exact absurd h0 (by decide)
      rw [if_neg h3] at h0
      have h4 : nameB ⟨(nmS L k).toArray⟩ = true := by
        cases hn : nameB ⟨(nmS L k).toArray⟩ with
        | true => rfl
        | false => rw [hn] at h0; exact absurd h0 (by decide)
      have hl : (nmS L k).length = nmN L k := by unfold nmS; rw [List.length_take, List.length_drop]; omega
      refine ⟨h4, by rw [List.length_cons, hl]; omega, (L.drop (k + 1)).drop (nmN L k), ?_⟩
      rw [drop_cons (by omega), hl]
      show _ = UInt8.ofNat (nmN L k) :: (nmS L k ++ _)
      unfold nmS
      rw [List.take_append_drop]
      congr 1
      unfold nmN
      rw [UInt8.ofNat_toNat]
    · rw [if_neg h0] at h; cases h
  · rintro ⟨h1, rfl, r, hr⟩
    have hl := h1.len
    have e0 : nmN L k = x.length := by
      unfold nmN
      rw [getD_drop hr, ofNat_nat (by omega)]
    have hd : L.drop (k + 1) = x ++ r := by
      rw [← List.drop_drop, hr]; rfl
    have hlen := congrArg List.length hr
    rw [List.length_drop] at hlen
    simp at hlen
    have e1 : nmS L k = x := by
      unfold nmS
      rw [e0, hd, List.take_left]
    have e2 : nmE L k = 0 := by
      unfold nmE
      rw [if_neg (by omega), if_neg (by omega), if_neg (by omega), e1]
      exact if_pos h1
    rw [if_pos e2, e0, e1]
    show Except.ok _ = Except.ok _
    rw [List.length_cons]
    congr 2
    omega
theorem be_two {n : Nat} (h : n < 65536) : be (n : Int) 2 = [UInt8.ofNat (n / 256), UInt8.ofNat (n % 256)] := by
  show [byteOf n 1, byteOf n 0] = _
  have h1 := byteOf_eq (n : Int) 1
  have h0 := byteOf_eq (n : Int) 0
  have e1 : byteOf n 1 = UInt8.ofNat (n / 256) := by
    apply UInt8.toNat_inj.1
    rw [ofNat_nat (by omega)]
    omega
  have e0 : byteOf n 0 = UInt8.ofNat (n % 256) := by
    apply UInt8.toNat_inj.1
    rw [ofNat_nat (by omega)]
    omega
  rw [e1, e0]
theorem Co.lo : Co loP loB (fun l => l.length < 65536) := by
  intro L k x k' hk
  unfold loP loB biP
  constructor
  · intro h
    by_cases h1 : L.length - k < 2
    · rw [if_pos h1] at h; cases h
    rw [if_neg h1] at h
    by_cases h2 : L.length - (k + 2) < woN L k
    · rw [if_pos h2] at h; cases h
    rw [if_neg h2] at h
    injection h with h
    injection h with h3 h4
    subst h3 h4
    have hl : ((L.drop (k + 2)).take (woN L k)).length = woN L k := by rw [List.length_take, List.length_drop]; omega
    have a1 := (L.getD k 0).toNat_lt
    have a2 := (L.getD (k + 1) 0).toNat_lt
    have hw : woN L k < 65536 := by unfold woN nmN; omega
    rw [hl]
    refine ⟨by show _ < 65536; rw [hl]; exact hw, by rw [List.length_append, be_length, hl]; omega, (L.drop (k + 2)).drop (woN L k), ?_⟩
    rw [List.append_assoc, List.take_append_drop, be_two hw, drop_cons (by omega), drop_cons (L := L) (k := k + 1) (by omega)]
    have q1 : woN L k / 256 = (L.getD k 0).toNat := by unfold woN nmN; omega
    have q2 : woN L k % 256 = (L.getD (k + 1) 0).toNat := by unfold woN nmN; omega
    rw [q1, q2, UInt8.ofNat_toNat, UInt8.ofNat_toNat]
    rfl
  · rintro ⟨h1, rfl, r, hr⟩
    rw [be_two h1] at hr ⊢
    have hd1 : L.drop (k + 1) = UInt8.ofNat (x.length % 256) :: (x ++ r) := by rw [← List.drop_drop, hr]; rfl
    have hd2 : L.drop (k + 2) = x ++ r := by rw [← List.drop_drop, hr]; rfl
    have hlen := congrArg List.length hr
    rw [List.length_drop] at hlen
    simp at hlen
    have e0 : woN L k = x.length := by
      unfold woN nmN
      rw [getD_drop hr, getD_drop hd1, ofNat_nat (by omega), ofNat_nat (by omega)]
      omega
    rw [if_neg (by omega), e0, if_neg (by omega), hd2, List.take_left]
    show Except.ok _ = Except.ok _
    rw [List.length_append]
    congr 2
    simp; omega
def FdV (x : FlC) : Prop := NmV x.1 ∧ x.2 < 256
theorem Co.fd : Co fdP fdB FdV := by
  have h := Co.nm.bnd (q := fun s L k => bndP (byP L k) fun t k2 => .ok ((s, t), k2)) (e2 := fun _ z => oneB z.2 ++ []) (V2 := fun s z => z.2 < 256 ∧ z = (s, z.2)) (fun s _ => Co.by.bnd (q := fun t _ k2 => .ok ((s, t), k2)) (e2 := fun _ _ => []) (V2 := fun t z => z = (s, t)) (fun t _ => Co.ret (s, t)) (fun z => z.2) (fun t z _ hz => by rw [hz])) (fun z => z.1) (fun s z _ hz => by rw [hz.2])
  exact h.congr (fun x => ⟨fun ⟨a, b, _⟩ => ⟨a, b⟩, fun ⟨a, b⟩ => ⟨a, b, rfl⟩⟩) (fun x _ => by rw [List.append_nil]; rfl)
def ParV (p : Int) : Prop := p = -1 ∨ (0 ≤ p ∧ p < 255)
theorem par_back {b : Nat} (h : b < 256) : parN (parI b) = b ∧ ParV (parI b) := by
  unfold parN parI ParV
  by_cases e : b = 255
  · rw [if_pos e]; simp [e]
  · rw [if_neg e]; refine ⟨by rw [if_neg (by omega)]; omega, Or.inr ⟨by omega, by omega⟩⟩
theorem par_there {p : Int} (h : ParV p) : parI (parN p) = p ∧ parN p < 256 := by
  unfold parN parI
  rcases h with rfl | ⟨h1, h2⟩
  · decide
  · have h3 : ¬ p < 0 := by omega
    have h4 : ¬ p.toNat = 255 := by omega
    rw [if_neg h3, if_neg h4]
    omega
def ClV (x : ClC) : Prop := NmV x.1 ∧ ParV x.2.1 ∧ x.2.2.length ≤ 32 ∧ ∀ f ∈ x.2.2, FdV f
theorem Co.cl : Co clP clB ClV := by
  have h4 := fun (s : List UInt8) (b n : Nat) => (Co.fd.rep n).bnd (q := fun fs _ k4 => .ok (((s, parI b, fs) : ClC), k4)) (e2 := fun _ _ => []) (V2 := fun fs z => z = (s, parI b, fs)) (fun fs _ => Co.ret ((s, parI b, fs) : ClC)) (fun z => z.2.2) (fun fs z _ hz => by rw [hz])
  have h3 := fun (s : List UInt8) (b : Nat) => (Co.co 32 (by decide)).bnd (q := fun n L k3 => bndP (repP fdP n L k3) fun fs k4 => .ok (((s, parI b, fs) : ClC), k4)) (fun n _ => h4 s b n) (fun z => z.2.2.length) (fun n z _ hz => hz.1.1)
  have h2 := fun (s : List UInt8) => Co.by.bnd (q := fun b L k2 => bndP (coP 32 L k2) fun n k3 => bndP (repP fdP n L k3) fun fs k4 => .ok (((s, parI b, fs) : ClC), k4)) (fun b _ => h3 s b) (fun z => parN z.2.1) (fun b z hb hz => by rw [hz.2.2]; exact (par_back hb).1)
  have h1 := Co.nm.bnd (q := fun s L k1 => bndP (byP L k1) fun b k2 => bndP (coP 32 L k2) fun n k3 => bndP (repP fdP n L k3) fun fs k4 => .ok (((s, parI b, fs) : ClC), k4)) (fun s _ => h2 s) (fun z => z.1) (fun s z _ hz => by rw [hz.2.2.2])
  refine h1.congr (fun x => ⟨?_, ?_⟩) (fun x _ => by simp [clB])
  · rintro ⟨a, b, c, ⟨d, e⟩, g⟩
    refine ⟨a, ?_, c, e⟩
    have := (par_back b).2
    rw [g]
    exact this
  · rintro ⟨a, b, c, d⟩
    have hb := par_there b
    exact ⟨a, hb.2, c, ⟨rfl, d⟩, by rw [hb.1]⟩
def FnV (x : FnC) : Prop := NmV x.1 ∧ x.2.1.1.length ≤ 8 ∧ (∀ t ∈ x.2.1.1, t < 256) ∧ x.2.1.2 < 256 ∧ (0 ≤ x.2.2.1 ∧ x.2.2.1 < 256) ∧ x.2.2.2.length < 65536
theorem Co.fn : Co fnP fnB FnV := by
  have h6 := fun (s : List UInt8) (ps : List Nat) (rt lo : Nat) => Co.lo.bnd (q := fun cd _ k6 => .ok (((s, (ps, rt), (lo : Int), cd) : FnC), k6)) (e2 := fun _ _ => []) (V2 := fun cd z => z = (s, (ps, rt), (lo : Int), cd)) (fun cd _ => Co.ret ((s, (ps, rt), (lo : Int), cd) : FnC)) (fun z => z.2.2.2) (fun cd z _ hz => by rw [hz])
  have h5 := fun (s : List UInt8) (ps : List Nat) (rt : Nat) => Co.by.bnd (q := fun lo L k5 => bndP (loP L k5) fun cd k6 => .ok (((s, (ps, rt), (lo : Int), cd) : FnC), k6)) (fun lo _ => h6 s ps rt lo) (fun z => z.2.2.1.toNat) (fun lo z _ hz => by rw [hz.2]; simp)
  have h4 := fun (s : List UInt8) (ps : List Nat) => Co.by.bnd (q := fun rt L k4 => bndP (byP L k4) fun lo k5 => bndP (loP L k5) fun cd k6 => .ok (((s, (ps, rt), (lo : Int), cd) : FnC), k6)) (fun rt _ => h5 s ps rt) (fun z => z.2.1.2) (fun rt z _ hz => by rw [hz.2.2])
  have h3 := fun (s : List UInt8) (n : Nat) => (Co.by.rep n).bnd (q := fun ps L k3 => bndP (byP L k3) fun rt k4 => bndP (byP L k4) fun lo k5 => bndP (loP L k5) fun cd k6 => .ok (((s, (ps, rt), (lo : Int), cd) : FnC), k6)) (fun ps _ => h4 s ps) (fun z => z.2.1.1) (fun ps z _ hz => by rw [hz.2.2.2])
  have h2 := fun (s : List UInt8) => (Co.co 8 (by decide)).bnd (q := fun n L k2 => bndP (repP byP n L k2) fun ps k3 => bndP (byP L k3) fun rt k4 => bndP (byP L k4) fun lo k5 => bndP (loP L k5) fun cd k6 => .ok (((s, (ps, rt), (lo : Int), cd) : FnC), k6)) (fun n _ => h3 s n) (fun z => z.2.1.1.length) (fun n z _ hz => hz.1.1)
  have h1 := Co.nm.bnd (q := fun s L k1 => bndP (coP 8 L k1) fun n k2 => bndP (repP byP n L k2) fun ps k3 => bndP (byP L k3) fun rt k4 => bndP (byP L k4) fun lo k5 => bndP (loP L k5) fun cd k6 => .ok (((s, (ps, rt), (lo : Int), cd) : FnC), k6)) (fun s _ => h2 s) (fun z => z.1) (fun s z _ hz => by rw [hz.2.2.2.2.2])
  refine h1.congr (fun x => ⟨?_, ?_⟩) (fun x _ => by simp [fnB])
  · rintro ⟨a, b, ⟨_, c⟩, d, e, f, g⟩
    have h0 : 0 ≤ x.2.2.1 := by rw [g]; exact Int.natCast_nonneg _
    exact ⟨a, b, c, d, ⟨h0, by omega⟩, f⟩
  · rintro ⟨a, b, c, d, ⟨e1, e2⟩, f⟩
    refine ⟨a, b, ⟨rfl, c⟩, d, by omega, f, ?_⟩
    rw [Int.toNat_of_nonneg e1]
def CtV (n : Nat) (C : List (List UInt8)) : Prop := (C = [] ∨ (C.length = n ∧ n ≠ 0)) ∧ ∀ c ∈ C, c.length < 65536
theorem Co.ct (n : Nat) : Co (ctP n) ctB (CtV n) := by
  have h1 : ∀ c : Nat, c < 256 → Co (fun L k => if 1 < c ∨ (c = 1 ∧ n = 0) then .error (k - 1, 162) else repP loP (if c = 1 then n else 0) L k) (fun C => C.flatMap loB) (fun C => ¬ (1 < c ∨ (c = 1 ∧ n = 0)) ∧ C.length = (if c = 1 then n else 0) ∧ ∀ x ∈ C, x.length < 65536) := fun c _ L k x k' hk => by
    by_cases h : 1 < c ∨ (c = 1 ∧ n = 0)
    · simp only [if_pos h]
      exact ⟨fun h => (by cases h), fun ⟨⟨a, _⟩, _⟩ => absurd h a⟩
    · simp only [if_neg h]
      rw [(Co.lo.rep (if c = 1 then n else 0)) L k x k' hk]
      exact ⟨fun ⟨a, b⟩ => ⟨⟨h, a⟩, b⟩, fun ⟨⟨_, a⟩, b⟩ => ⟨a, b⟩⟩
  have h2 := Co.by.bnd (fun c hc => h1 c hc) (fun C => if C = [] then 0 else 1) (fun c C _ hz => by
    obtain ⟨z1, z2, _⟩ := hz
    by_cases hc : c = 1
    · subst hc
      rw [if_pos rfl] at z2
      rw [if_neg]
      intro e
      subst e
      exact z1 (Or.inr ⟨rfl, z2.symm⟩)
    · rw [if_neg hc] at z2
      rw [if_pos (List.eq_nil_of_length_eq_zero z2)]
      omega)
  have h3 : ctP n = fun L k => bndP (byP L k) fun x k1 => if 1 < x ∨ (x = 1 ∧ n = 0) then .error (k1 - 1, 162) else repP loP (if x = 1 then n else 0) L k1 := by
    funext L k
    unfold ctP byP
    by_cases h : L.length - k < 1
    · rw [if_pos h]; rfl
    · rw [if_neg h]
      show (if _ then _ else _) = (if _ then _ else _)
      rw [show k + 1 - 1 = k from rfl]
  rw [h3]
  refine h2.congr (fun C => ⟨?_, ?_⟩) (fun C _ => ?_)
  · rintro ⟨_, a, b, c⟩
    refine ⟨?_, c⟩
    by_cases e : C = []
    · exact Or.inl e
    · rw [if_neg e] at a b
      rw [if_pos rfl] at b
      exact Or.inr ⟨b, fun h => a (Or.inr ⟨rfl, h⟩)⟩
  · rintro ⟨a, b⟩
    by_cases e : C = []
    · rw [if_pos e]
      exact ⟨by omega, by omega, by rw [e]; rfl, b⟩
    · rw [if_neg e, if_pos rfl]
      rcases a with a | ⟨a, a2⟩
      · exact absurd a e
      · exact ⟨by omega, by omega, a, b⟩
  · unfold ctB
    by_cases e : C = []
    · rw [if_pos e, if_pos e, e]; simp
    · rw [if_neg e, if_neg e]
def McV (m : Mc) : Prop := NmV m.nm ∧ m.T.length ≤ 32 ∧ (∀ x ∈ m.T, ClV x) ∧ m.F.length ≤ 64 ∧ (∀ x ∈ m.F, FnV x) ∧ CtV m.F.length m.C
theorem Co.md : Co mdP mdB McV := by
  have h6 := fun (s : List UInt8) (T : List ClC) (n : Nat) (F : List FnC) => (Co.ct n).bnd (q := fun C _ k6 => .ok ((⟨s, T, F, C⟩ : Mc), k6)) (e2 := fun _ _ => []) (V2 := fun C z => z = ⟨s, T, F, C⟩) (fun C _ => Co.ret (⟨s, T, F, C⟩ : Mc)) (fun z => z.C) (fun C z _ hz => by rw [hz])
  have h5 := fun (s : List UInt8) (T : List ClC) (m : Nat) => (Co.fn.rep m).bnd (q := fun F L k5 => bndP (ctP m L k5) fun C k6 => .ok ((⟨s, T, F, C⟩ : Mc), k6)) (fun F _ => h6 s T m F) (fun z => z.F) (fun F z _ hz => by rw [hz.2])
  have h4 := fun (s : List UInt8) (T : List ClC) => (Co.co 64 (by decide)).bnd (q := fun m L k4 => bndP (repP fnP m L k4) fun F k5 => bndP (ctP m L k5) fun C k6 => .ok ((⟨s, T, F, C⟩ : Mc), k6)) (fun m _ => h5 s T m) (fun z => z.F.length) (fun m z _ hz => hz.1.1)
  have h3 := fun (s : List UInt8) (n : Nat) => (Co.cl.rep n).bnd (q := fun T L k3 => bndP (coP 64 L k3) fun m k4 => bndP (repP fnP m L k4) fun F k5 => bndP (ctP m L k5) fun C k6 => .ok ((⟨s, T, F, C⟩ : Mc), k6)) (fun T _ => h4 s T) (fun z => z.T) (fun T z _ hz => by rw [hz.2.2.2])
  have h2 := fun (s : List UInt8) => (Co.co 32 (by decide)).bnd (q := fun n L k2 => bndP (repP clP n L k2) fun T k3 => bndP (coP 64 L k3) fun m k4 => bndP (repP fnP m L k4) fun F k5 => bndP (ctP m L k5) fun C k6 => .ok ((⟨s, T, F, C⟩ : Mc), k6)) (fun n _ => h3 s n) (fun z => z.T.length) (fun n z _ hz => hz.1.1)
  have h1 := Co.nm.bnd (q := fun s L k1 => bndP (coP 32 L k1) fun n k2 => bndP (repP clP n L k2) fun T k3 => bndP (coP 64 L k3) fun m k4 => bndP (repP fnP m L k4) fun F k5 => bndP (ctP m L k5) fun C k6 => .ok ((⟨s, T, F, C⟩ : Mc), k6)) (fun s _ => h2 s) (fun z => z.nm) (fun s z _ hz => by rw [hz.2.2.2.2.2])
  refine h1.congr (fun x => ⟨?_, ?_⟩) (fun x _ => by simp [mdB])
  · rintro ⟨a, b, ⟨_, c⟩, d, ⟨_, e⟩, f, _⟩
    exact ⟨a, b, c, d, e, f⟩
  · rintro ⟨a, b, c, d, e, f⟩
    exact ⟨a, b, ⟨rfl, c⟩, d, ⟨rfl, e⟩, f, rfl⟩
end Go.Proofs.YtibgfdjopikafaaGreatDoor
