/-
  Texts of contracts and plain lemmas, one behind another; each says at its head what it holds.
-/
import Derived.Test.YtbbfnampjbdnbaaDoorKHq9
/-
  The document's heap: how it lies in memory, and how it stands to the program's. No Go in it.
-/
namespace Go.Proofs.YtbbfnampjbdnbaaDoor
open Go.RowKit
set_option maxRecDepth 20000
set_option linter.unusedVariables false
set_option linter.unusedSimpArgs false

/-- An object, if it is there. -/
structure Rb where
  t : Bool
  c : Int
  pv : Value
  ps : List Int
def rbC (x : Rb) : List Value := [.bool x.t, .int .i64 x.c, x.pv]
def rbvals (R : List Rb) : List Value := R.flatMap rbC
structure Rp where
  lv : Value
  room : Int
  ov : Value
  R : List Rb
def rpC (p : Rp) : Array Value := #[p.lv, .int .i64 p.room, p.ov]
theorem rbvals_len (R : List Rb) : (rbvals R).length = R.length * 3 := by
  unfold rbvals
  induction R with
  | nil => rfl
  | cons x R ih => rw [List.flatMap_cons, List.length_append, ih]; simp [rbC]; omega
theorem rbvals_get : ∀ {R : List Rb} {i : Nat} {x : Rb}, R[i]? = some x → ∀ j, j < 3 → (rbvals R)[i * 3 + j]? = (rbC x)[j]?
  | [], i, x, h, _, _ => by simp at h
  | y :: R, 0, x, h, j, hj => by
    have e : y = x := by simpa using h
    subst e
    unfold rbvals
    rw [List.flatMap_cons, List.getElem?_append_left (by simp [rbC]; omega)]
    congr 1; omega
  | y :: R, i + 1, x, h, j, hj => by
    have ih := rbvals_get (R := R) (by simpa using h) j hj
    unfold rbvals at ih ⊢
    rw [List.flatMap_cons, List.getElem?_append_right (by simp [rbC]; omega), ← ih]
    congr 1; simp [rbC]; omega
structure RpAt (B : Nat) (W : World) (g : Nat) (p : Rp) : Prop where
  lo : B ≤ g
  box : Bx W g 61 (rpC p)
  own : W.ownsRow B 87 3 p.ov p.R.length (rbvals p.R)
  pls : ∀ x ∈ p.R, OwnJ W B x.pv x.ps
  nd : p.R.Pairwise (fun a b => ∀ k, a.pv.ownBlock = some k → b.pv.ownBlock ≠ some k)
def rpT : List TypeId := [61, 87, 3]
theorem RpAt.kp {B B' : Nat} {ts : List TypeId} {W W' : World} {g : Nat} {p : Rp} (H : RpAt B W g p) (hk : Kp B' ts W W') (ht : ∀ t, t ∈ rpT → t ∉ ts) : RpAt B W' g p :=
  ⟨H.lo, H.box.kp hk (ht _ (by simp [rpT])), own_kp H.own hk (ht _ (by simp [rpT])), fun x hx => own_kp (H.pls x hx) hk (ht _ (by simp [rpT])), H.nd⟩
theorem RpAt.below {B : Nat} {W W' : World} {g : Nat} {p : Rp} (H : RpAt B W g p) (hb : Below W.heap.size W W') : RpAt B W' g p := H.kp (B' := 0) (ts := []) (Kp.of_below hb (Nat.zero_le _)) (by simp)
theorem RpAt.size_le {B : Nat} {W : World} {g : Nat} {p : Rp} (H : RpAt B W g p) : B ≤ W.heap.size := by have := H.box.lt; have := H.lo; omega
theorem RpAt.ovs {B : Nat} {W : World} {g : Nat} {p : Rp} (H : RpAt B W g p) : ∃ a cap, p.ov = .slice a p.R.length cap := by
  rcases H.own.2 with ⟨h1, h2⟩ | ⟨g, cap, cur, hv, _⟩
  · exact ⟨none, 0, by rw [h1, h2]⟩
  · exact ⟨_, cap, hv⟩
theorem OwnJ.sl {w : World} {base : Nat} {v : Value} {l : List Int} (h : OwnJ w base v l) : ∃ ao cap, v = .slice ao l.length cap := by
  rcases h.2 with ⟨h1, h2⟩ | ⟨g, cap, cur, hv, _⟩
  · exact ⟨none, 0, by rw [h1, h2]⟩
  · exact ⟨_, cap, hv⟩
/-- An object's cells. -/
theorem RpAt.ob {B : Nat} {W : World} {g : Nat} {p : Rp} (H : RpAt B W g p) {i : Nat} {x : Rb} (hx : p.R[i]? = some x) : ∃ b cap, p.ov = .slice (some ⟨b, 0, none⟩) p.R.length cap ∧ W.cell? ⟨b, i * 3, none⟩ = some (.bool x.t) ∧ W.cell? ⟨b, i * 3 + 1, none⟩ = some (.int .i64 x.c) ∧ W.cell? ⟨b, i * 3 + 2, none⟩ = some x.pv := by
  have hi : i < p.R.length := (List.getElem?_eq_some_iff.1 hx).1
  rcases H.own.2 with ⟨h1, h2⟩ | ⟨b, cap, cur, hv, hb, hh, hc1, hc2, hsz, ht⟩
  · omega
  · have hc : ∀ j, j < 3 → W.cell? ⟨b, i * 3 + j, none⟩ = (rbC x)[j]? := fun j hj => by
      rw [cell_of_row _ _ _ _ _ _ hh, ← rbvals_get hx j hj, ← ht, List.getElem?_take_of_lt (by omega), Array.getElem?_toList]
    exact ⟨b, cap, hv, hc 0 (by omega), hc 1 (by omega), hc 2 (by omega)⟩

/-! ### Both heaps -/
def liv : List Rb → Nat → List (Int × Int × List Int)
  | [], _ => []
  | x :: r, k => (if x.t then [((k : Int) + 1, x.c, x.ps)] else []) ++ liv r (k + 1)
def keyO (o : Ob) : Int × Int × List Int := (o.ref, o.cls, o.ps)
theorem liv_mem : ∀ {R : List Rb} {k : Nat} {q : Int × Int × List Int}, q ∈ liv R k ↔ ∃ (i : Nat) (x : Rb), R[i]? = some x ∧ x.t = true ∧ q = ((k : Int) + (i : Int) + 1, x.c, x.ps)
  | [], k, q => by simp [liv]
  | y :: R, k, q => by
    rw [liv, List.mem_append, liv_mem (R := R)]
    constructor
    · rintro (h | ⟨i, x, h1, h2, h3⟩)
      · cases ht : y.t with
        | false => rw [ht] at h; simp at h
        | true =>
          rw [ht] at h
          have e : q = ((k : Int) + 1, y.c, y.ps) := by simpa using h
          exact ⟨0, y, rfl, ht, by rw [e]; simp⟩
      · refine ⟨i + 1, x, by simpa using h1, h2, ?_⟩
        rw [h3]; congr 1; push_cast; omega
    · rintro ⟨i, x, h1, h2, h3⟩
      cases i with
      | zero =>
        have e : y = x := by simpa using h1
        subst e
        left
        rw [h2, h3]; simp
      | succ i =>
        right
        refine ⟨i, x, by simpa using h1, h2, ?_⟩
        rw [h3]; congr 1; push_cast; omega
theorem liv_app : ∀ (R S : List Rb) (k : Nat), liv (R ++ S) k = liv R k ++ liv S (k + R.length)
  | [], S, k => by simp [liv]
  | x :: R, S, k => by rw [List.cons_append, liv, liv_app R S (k + 1), liv, List.append_assoc, List.length_cons]; congr 3; omega
structure Twn (h : Hm) (R : List Rb) : Prop where
  last : h.last = (R.length : Int)
  obs : h.O.map keyO = liv R 0
/-- The object of a reference. -/
def thrD (R : List Rb) (r : Int) : Option Rb := if 1 ≤ r then (match R[(r - 1).toNat]? with | some x => if x.t then some x else none | none => none) else none
theorem thr_some {R : List Rb} {r : Int} {x : Rb} : thrD R r = some x ↔ 1 ≤ r ∧ R[(r - 1).toNat]? = some x ∧ x.t = true := by
  unfold thrD
  by_cases h : 1 ≤ r
  · rw [if_pos h]
    cases hx : R[(r - 1).toNat]? with
    | none => simp
    | some y =>
      cases ht : y.t with
      | false =>
        constructor
        · intro e; simp [ht] at e
        · rintro ⟨_, e, h2⟩; injection e with e; subst e; rw [ht] at h2; cases h2
      | true =>
        constructor
        · intro e
          have e : y = x := by simpa [ht] using e
          subst e
          exact ⟨h, rfl, ht⟩
        · rintro ⟨_, e, h2⟩
          injection e with e
          subst e
          simp [ht]
  · rw [if_neg h]
    constructor
    · intro e; cases e
    · rintro ⟨h1, _⟩; exact absurd h1 h
theorem Twn.obj {h : Hm} {R : List Rb} (H : Twn h R) (hok : HmOk h) (r : Int) : (∀ x, thrD R r = some x → ∃ o, objD h.O r = some o ∧ o.cls = x.c ∧ o.ps = x.ps) ∧ (thrD R r = none → objD h.O r = none) := by
  have key : ∀ o ∈ h.O, ∃ x, thrD R o.ref = some x ∧ o.cls = x.c ∧ o.ps = x.ps := fun o ho => by
    have h1 : keyO o ∈ liv R 0 := by rw [← H.obs]; exact List.mem_map_of_mem ho
    obtain ⟨i, x, h2, h3, h4⟩ := liv_mem.1 h1
    unfold keyO at h4
    injection h4 with e1 e2
    injection e2 with e2 e3
    refine ⟨x, thr_some.2 ⟨by omega, ?_, h3⟩, e2, e3⟩
    rw [e1]
    have : ((((0 : Nat) : Int) + (i : Int) + 1) - 1).toNat = i := by omega
    rw [this]; exact h2
  refine ⟨fun x hx => ?_, fun hn => ?_⟩
  · obtain ⟨h1, h2, h3⟩ := thr_some.1 hx
    have hm : (r, x.c, x.ps) ∈ h.O.map keyO := by
      rw [H.obs]
      exact liv_mem.2 ⟨(r - 1).toNat, x, h2, h3, by congr 1; omega⟩
    obtain ⟨o, ho, e⟩ := List.mem_map.1 hm
    unfold keyO at e
    injection e with e1 e2
    injection e2 with e2 e3
    obtain ⟨i, hi, rfl⟩ := List.mem_iff_getElem.1 ho
    have := obj_at hok.asc (List.getElem?_eq_getElem hi)
    rw [e1] at this
    exact ⟨_, this, e2, e3⟩
  · cases ho : objD h.O r with
    | none => rfl
    | some o =>
      obtain ⟨h1, h2⟩ := obj_mem ho
      obtain ⟨x, h3, _⟩ := key o h1
      rw [h2, hn] at h3
      cases h3
/-- What all objects that are there take. -/
def usedR : List Rb → Nat
  | [] => 0
  | x :: r => (if x.t then 1 + x.ps.length else 0) + usedR r
theorem used_liv : ∀ (R : List Rb) (k : Nat), ((liv R k).map (fun q => 1 + q.2.2.length)).sum = usedR R
  | [], k => rfl
  | x :: R, k => by
    rw [liv, List.map_append, List.sum_append, used_liv R, usedR]
    cases x.t <;> simp
theorem Twn.used {h : Hm} {R : List Rb} (H : Twn h R) (hok : HmOk h) : h.used = (usedR R : Int) := by
  rw [hok.used]
  congr 1
  rw [← used_liv R 0, ← H.obs, List.map_map]
  rfl
theorem used_take (R : List Rb) (k : Nat) : usedR (R.take k) ≤ usedR R := by
  induction R generalizing k with
  | nil => simp [usedR]
  | cons x R ih =>
    cases k with
    | zero => simp [usedR]
    | succ k => rw [List.take_succ_cons, usedR, usedR]; have := ih k; omega
theorem used_snoc (A : List Rb) (x : Rb) : usedR (A ++ [x]) = usedR A + (if x.t then 1 + x.ps.length else 0) := by
  induction A with
  | nil => simp [usedR]
  | cons y A ih => rw [List.cons_append, usedR, ih, usedR]; omega
theorem Twn.add {h : Hm} {R : List Rb} (H : Twn h R) (c : Int) (n gp : Nat) (ov pv : Value) : Twn (addH h c n gp ov) (R ++ [⟨true, c, pv, List.replicate n 0⟩]) := by
  refine ⟨?_, ?_⟩
  · show h.last + 1 = _
    rw [H.last]; simp
  · show (h.O ++ [_]).map keyO = _
    rw [List.map_append, H.obs, liv_app]
    simp [keyO, liv, H.last]
theorem liv_set : ∀ (R : List Rb) (i k : Nat) (x : Rb) (ps : List Int), R[i]? = some x → x.t = true → liv (R.set i { x with ps := ps }) k = (liv R k).map (fun q => if q.1 == (k : Int) + (i : Int) + 1 then (q.1, q.2.1, ps) else q)
  | [], i, k, x, ps, h, _ => by simp at h
  | y :: R, 0, k, x, ps, h, ht => by
    have e : y = x := by simpa using h
    subst e
    rw [List.set_cons_zero, liv, liv, List.map_append, ht]
    have hrest : (liv R (k + 1)).map (fun q => if q.1 == (k : Int) + ((0 : Nat) : Int) + 1 then (q.1, q.2.1, ps) else q) = liv R (k + 1) := by
      conv => rhs; rw [← List.map_id (liv R (k + 1))]
      apply List.map_congr_left
      intro q hq
      obtain ⟨i, z, _, _, e⟩ := liv_mem.1 hq
      rw [if_neg]
      · rfl
      · rw [e]; simp; omega
    rw [hrest]
    simp
  | y :: R, i + 1, k, x, ps, h, ht => by
    rw [List.set_cons_succ, liv, liv, liv_set R i (k + 1) x ps (by simpa using h) ht, List.map_append]
    congr 1
    · cases y.t with
      | false => rfl
      | true =>
        simp only [if_true, List.map_cons, List.map_nil]
        rw [if_neg (by simp; omega)]
    · apply List.map_congr_left
      intro q _
      have : ((k + 1 : Nat) : Int) + (i : Int) + 1 = (k : Int) + ((i + 1 : Nat) : Int) + 1 := by push_cast; omega
      rw [this]
theorem Twn.put {h : Hm} {R : List Rb} (H : Twn h R) {ref i v : Int} {x : Rb} (hx : thrD R ref = some x) : Twn (putH h ref i v) (R.set (ref - 1).toNat { x with ps := x.ps.set i.toNat v }) := by
  obtain ⟨h1, h2, h3⟩ := thr_some.1 hx
  refine ⟨by show h.last = _; rw [List.length_set]; exact H.last, ?_⟩
  rw [liv_set R _ 0 x _ h2 h3, ← H.obs]
  show (putO h.O ref i.toNat v).map keyO = _
  unfold putO
  rw [List.map_map, List.map_map]
  apply List.map_congr_left
  intro o ho
  have hr : ((0 : Nat) : Int) + (((ref - 1).toNat : Nat) : Int) + 1 = ref := by omega
  show keyO (if o.ref == ref then _ else o) = (if (keyO o).1 == _ then _ else keyO o)
  rw [hr]
  by_cases e : o.ref = ref
  · have hm : keyO o ∈ liv R 0 := by rw [← H.obs]; exact List.mem_map_of_mem ho
    obtain ⟨j, y, y1, y2, y3⟩ := liv_mem.1 hm
    unfold keyO at y3
    injection y3 with e1 e2
    injection e2 with e2 e3
    have hj : j = (ref - 1).toNat := by omega
    rw [hj, h2] at y1
    injection y1 with y1
    subst y1
    rw [if_pos (by simpa using e), if_pos (by simpa [keyO] using e)]
    unfold keyO
    simp [e3]
  · rw [if_neg (by simpa using e), if_neg (by simpa [keyO] using e)]
end Go.Proofs.YtbbfnampjbdnbaaDoor

/-
  The document's heap: There, fault, Len.
-/
namespace Go.Proofs.YtbbfnampjbdnbaaDoor
open Go.RowKit
set_option maxRecDepth 20000
set_option linter.unusedVariables false
set_option linter.unusedSimpArgs false

theorem take_snocO {l : List Rb} {k : Nat} {x : Rb} (h : l[k]? = some x) : l.take (k + 1) = l.take k ++ [x] := by
  rw [List.take_add_one, h]; rfl
theorem thr_low {R : List Rb} {r : Int} (h : ¬ 1 ≤ r) : thrD R r = none := by unfold thrD; rw [if_neg h]
theorem thr_high {R : List Rb} {r : Int} (h : (R.length : Int) < r) : thrD R r = none := by
  unfold thrD
  split
  · rw [List.getElem?_eq_none (by omega)]
  · rfl
theorem thr_at {R : List Rb} {i : Nat} {x : Rb} (h : R[i]? = some x) : thrD R ((i : Int) + 1) = if x.t then some x else none := by
  unfold thrD
  rw [if_pos (by omega), show ((i : Int) + 1 - 1).toNat = i by omega, h]
set_option maxHeartbeats 1000000 in
theorem refThere_any (B g : Nat) (p : Rp) (ref : Int) (w : World) (H : RpAt B w g p) (hl : p.R.length ≤ 4611686018427387904) : Calls Tryd.prog 36 #[.pointer (some ⟨g, 0, none⟩), .int .i64 ref] w fun e w' => e = .returned (.bool (thrD p.R ref).isSome) ∧ w' = w := by
  obtain ⟨a, cap, hov⟩ := H.ovs
  have c2 := H.box.c 2 (v := p.ov) rfl
  rw [hov] at c2
  by_cases h1 : 1 ≤ ref
  · by_cases h2 : ref ≤ (p.R.length : Int)
    · obtain ⟨i, rfl⟩ : ∃ i : Nat, ref = (i : Int) + 1 := ⟨(ref - 1).toNat, by omega⟩
      have hi : i < p.R.length := by omega
      have hx := List.getElem?_eq_getElem hi
      generalize p.R[i] = x at hx
      obtain ⟨b, cap', hov', q0, q1, q2⟩ := H.ob hx
      rw [hov] at hov'
      obtain rfl : a = some ⟨b, 0, none⟩ := by injection hov'
      have HT : Hid ((thrD p.R ((i : Int) + 1)).isSome = x.t) := hide (by rw [thr_at hx]; cases x.t <;> rfl)
      have j1 : (i : Int) + 1 ≥ 1 := by omega
      have hl2 : ((p.R.length : Nat) : Int) ≤ 4611686018427387904 := by omega
      generalize p.R.length = n at *
      clear H hov hov' hx q1 q2 h1
      go_enter Tryd.func36, Tryd.ntmps36
      go_wp2
      go_ret
      exact ⟨ret_bool (unhide HT).symm, rfl⟩
    · have HT : Hid ((thrD p.R ref).isSome = false) := hide (by rw [thr_high (by omega)]; rfl)
      have j1 : ref ≥ 1 := h1
      generalize p.R.length = n at *
      clear H hov h1
      go_enter Tryd.func36, Tryd.ntmps36
      go_wp2
      go_ret
      exact ⟨ret_bool (unhide HT).symm, rfl⟩
  · have HT : Hid ((thrD p.R ref).isSome = false) := hide (by rw [thr_low h1]; rfl)
    have j1 : ¬ ref ≥ 1 := h1
    clear H hov h1 c2
    go_enter Tryd.func36, Tryd.ntmps36
    go_wp2
    go_ret
    exact ⟨ret_bool (unhide HT).symm, rfl⟩
def fltR (R : List Rb) (ref : Int) : Int := if ref = 0 then 140 else if (thrD R ref).isSome = true then 0 else 141
set_option maxHeartbeats 1000000 in
theorem refFault_any (B g : Nat) (p : Rp) (ref : Int) (w : World) (H : RpAt B w g p) (hl : p.R.length ≤ 4611686018427387904) : Calls Tryd.prog 48 #[.pointer (some ⟨g, 0, none⟩), .int .i64 ref] w fun e w' => e = .returned (.int .i64 (fltR p.R ref)) ∧ w' = w := by
  have HT := hide (refThere_any B g p ref w H hl)
  by_cases h0 : ref = 0
  · have t0 : (ref == 0) = true := beq_t h0
    have HF : Hid (fltR p.R ref = 140) := hide (by unfold fltR; rw [if_pos h0])
    clear H h0
    go_enter Tryd.func48, Tryd.ntmps48
    go_wp2
    go_ret
    rw [unhide HF]
    exact ⟨rfl, rfl⟩
  · have t0 : (ref == 0) = false := beq_f h0
    have HF : Hid (fltR p.R ref = if (thrD p.R ref).isSome = true then 0 else 141) := hide (by unfold fltR; rw [if_neg h0])
    obtain ⟨q, HQ⟩ : ∃ q, Hid ((thrD p.R ref).isSome = q) := ⟨_, hide rfl⟩
    rw [unhide HQ] at HT HF
    clear H h0
    go_enter Tryd.func48, Tryd.ntmps48
    cases q with
    | true =>
      go_wp2_with (go_at_call 36; refine (unhide HT).mono ?_; rintro e w9 ⟨rfl, hw⟩; rw [hw]; clear hw)
      go_ret
      rw [unhide HF]
      exact ⟨rfl, rfl⟩
    | false =>
      go_wp2_with (go_at_call 36; refine (unhide HT).mono ?_; rintro e w9 ⟨rfl, hw⟩; rw [hw]; clear hw)
      go_ret
      rw [unhide HF]
      exact ⟨rfl, rfl⟩
def lenR (R : List Rb) (ref : Int) : Int := match thrD R ref with | some x => (x.ps.length : Int) | none => 0
theorem flt_cases (R : List Rb) (ref : Int) : (fltR R ref ≠ 0 ∧ thrD R ref = none) ∨ (fltR R ref = 0 ∧ ∃ (i : Nat) (x : Rb), ref = (i : Int) + 1 ∧ R[i]? = some x ∧ x.t = true ∧ thrD R ref = some x) := by
  unfold fltR
  by_cases h0 : ref = 0
  · rw [if_pos h0]
    exact Or.inl ⟨by decide, thr_low (by omega)⟩
  · rw [if_neg h0]
    cases h : thrD R ref with
    | none => exact Or.inl ⟨by decide, rfl⟩
    | some x =>
      obtain ⟨h1, h2, h3⟩ := thr_some.1 h
      exact Or.inr ⟨rfl, (ref - 1).toNat, x, by omega, h2, h3, rfl⟩
/-- An object that is there: its row of places. -/
theorem RpAt.there {B : Nat} {W : World} {g : Nat} {p : Rp} (H : RpAt B W g p) {i : Nat} {x : Rb} (hx : p.R[i]? = some x) : ∃ b cap pa pc, p.ov = .slice (some ⟨b, 0, none⟩) p.R.length cap ∧ W.cell? ⟨b, i * 3, none⟩ = some (.bool x.t) ∧ W.cell? ⟨b, i * 3 + 1, none⟩ = some (.int .i64 x.c) ∧ W.cell? ⟨b, i * 3 + 2, none⟩ = some (.slice pa x.ps.length pc) ∧ x.pv = .slice pa x.ps.length pc := by
  obtain ⟨b, cap, h1, h2, h3, h4⟩ := H.ob hx
  obtain ⟨pa, pc, h5⟩ := OwnJ.sl (H.pls x (List.mem_of_getElem? hx))
  rw [h5] at h4
  exact ⟨b, cap, pa, pc, h1, h2, h3, h4, h5⟩
set_option maxHeartbeats 1000000 in
theorem refLen_any (B g : Nat) (p : Rp) (ref : Int) (w : World) (H : RpAt B w g p) (hl : p.R.length ≤ 4611686018427387904) : Calls Tryd.prog 25 #[.pointer (some ⟨g, 0, none⟩), .int .i64 ref] w fun e w' => e = .returned (.tuple #[.int .i64 (lenR p.R ref), .int .i64 (fltR p.R ref)]) ∧ w' = w := by
  have HT := hide (refFault_any B g p ref w H hl)
  rcases flt_cases p.R ref with ⟨h1, h2⟩ | ⟨h1, i, x, h2, h3, h4, h5⟩
  · have t0 : (fltR p.R ref != 0) = true := bne_t h1
    have HL : Hid (lenR p.R ref = 0) := hide (by unfold lenR; rw [h2])
    clear H h1 h2
    go_enter Tryd.func25, Tryd.ntmps25
    go_wp2_with (go_at_call 48; refine (unhide HT).mono ?_; rintro e w9 ⟨rfl, hw⟩; rw [hw]; clear hw)
    go_ret2
    rw [unhide HL]
    exact ⟨rfl, rfl⟩
  · have HL : Hid (lenR p.R ref = (x.ps.length : Int)) := hide (by unfold lenR; rw [h5])
    rw [h1] at HT ⊢
    rw [unhide HL]
    subst h2
    obtain ⟨b, cap, pa, pc, hov, q0, q1, q2, _⟩ := H.there h3
    have c2 := H.box.c 2 (v := p.ov) rfl
    rw [hov] at c2
    have hi : i < p.R.length := (List.getElem?_eq_some_iff.1 h3).1
    have hi2 : ((i : Nat) : Int) < ((p.R.length : Nat) : Int) := by omega
    generalize p.R.length = n at *
    clear H hov h1 h3 h4 h5 HL q0 q1
    go_enter Tryd.func25, Tryd.ntmps25
    go_wp2_with (go_at_call 48; refine (unhide HT).mono ?_; rintro e w9 ⟨rfl, hw⟩; rw [hw]; clear hw)
    go_ret2
    exact ⟨rfl, rfl⟩
end Go.Proofs.YtbbfnampjbdnbaaDoor

/-
  The document's heap: Class.
-/
namespace Go.Proofs.YtbbfnampjbdnbaaDoor
open Go.RowKit
set_option maxRecDepth 20000
set_option linter.unusedVariables false
set_option linter.unusedSimpArgs false

def clsC (R : List Rb) (ref : Int) : Int := match thrD R ref with | some x => if x.c = -1 then 0 else x.c | none => 0
def clsB (R : List Rb) (ref : Int) : Bool := match thrD R ref with | some x => decide (x.c ≠ -1) | none => false
set_option maxHeartbeats 1000000 in
theorem refClass_any (B g : Nat) (p : Rp) (ref : Int) (w : World) (H : RpAt B w g p) (hl : p.R.length ≤ 4611686018427387904) : Calls Tryd.prog 35 #[.pointer (some ⟨g, 0, none⟩), .int .i64 ref] w fun e w' => e = .returned (.tuple #[.int .i64 (clsC p.R ref), .bool (clsB p.R ref)]) ∧ w' = w := by
  have HT := hide (refThere_any B g p ref w H hl)
  cases h : thrD p.R ref with
  | none =>
    have HL : Hid (clsC p.R ref = 0 ∧ clsB p.R ref = false) := hide (by unfold clsC clsB; rw [h]; exact ⟨rfl, rfl⟩)
    rw [h] at HT
    rw [(unhide HL).1, (unhide HL).2]
    clear H h HL
    go_enter Tryd.func35, Tryd.ntmps35
    go_wp2_with (go_at_call 36; refine (unhide HT).mono ?_; rintro e w9 ⟨rfl, hw⟩; rw [hw]; clear hw)
    go_ret2
    exact ⟨rfl, rfl⟩
  | some x =>
    have HL : Hid (clsC p.R ref = (if x.c = -1 then 0 else x.c) ∧ clsB p.R ref = decide (x.c ≠ -1)) := hide (by unfold clsC clsB; rw [h]; exact ⟨rfl, rfl⟩)
    obtain ⟨h1, h2, h3⟩ := thr_some.1 h
    rw [h] at HT
    obtain ⟨i, hi⟩ : ∃ i : Nat, ref = (i : Int) + 1 := ⟨(ref - 1).toNat, by omega⟩
    have hii : (ref - 1).toNat = i := by omega
    rw [hii] at h2
    subst hi
    obtain ⟨b, cap, pa, pc, hov, q0, q1, q2, _⟩ := H.there h2
    have c2 := H.box.c 2 (v := p.ov) rfl
    rw [hov] at c2
    have hil : i < p.R.length := (List.getElem?_eq_some_iff.1 h2).1
    have hi2 : ((i : Nat) : Int) < ((p.R.length : Nat) : Int) := by omega
    by_cases hc : x.c = -1
    · have t0 : (x.c == -1) = true := beq_t hc
      rw [if_pos hc, decide_eq_false (by simp [hc])] at HL
      rw [(unhide HL).1, (unhide HL).2]
      generalize p.R.length = n at *
      clear H h h1 h2 h3 HL hov q0 q2 hc hii
      go_enter Tryd.func35, Tryd.ntmps35
      go_wp2_with (go_at_call 36; refine (unhide HT).mono ?_; rintro e w9 ⟨rfl, hw⟩; rw [hw]; clear hw)
      go_ret2
      exact ⟨rfl, rfl⟩
    · have t0 : (x.c == -1) = false := beq_f hc
      rw [if_neg hc, decide_eq_true hc] at HL
      rw [(unhide HL).1, (unhide HL).2]
      generalize p.R.length = n at *
      clear H h h1 h2 h3 HL hov q0 q2 hc hii
      go_enter Tryd.func35, Tryd.ntmps35
      go_wp2_with (go_at_call 36; refine (unhide HT).mono ?_; rintro e w9 ⟨rfl, hw⟩; rw [hw]; clear hw)
      go_ret2
      exact ⟨rfl, rfl⟩
end Go.Proofs.YtbbfnampjbdnbaaDoor

/-
  The document's heap: Used.
-/
namespace Go.Proofs.YtbbfnampjbdnbaaDoor
open Go.RowKit
set_option maxRecDepth 20000
set_option linter.unusedVariables false
set_option linter.unusedSimpArgs false

set_option maxHeartbeats 1000000 in
theorem refUsed_any (B g : Nat) (p : Rp) (w : World) (H : RpAt B w g p) (hu : usedR p.R ≤ 4096) (hl : p.R.length ≤ 4611686018427387904) : Calls Tryd.prog 32 #[.pointer (some ⟨g, 0, none⟩)] w fun e w' => e = .returned (.int .i64 (usedR p.R : Int)) ∧ w' = w := by
  obtain ⟨a, cap, hov⟩ := H.ovs
  have c2 := H.box.c 2 (v := p.ov) rfl
  rw [hov] at c2
  have HH := hide H
  have HO := hide hov
  have HU := hide (fun k => used_take p.R k)
  obtain ⟨n, HN⟩ : ∃ n, Hid (p.R.length = n) := ⟨_, hide rfl⟩
  rw [unhide HN] at c2 hl
  clear H hov
  go_enter Tryd.func32, Tryd.ntmps32
  go_wp2
  go_loopw [3, 4] (fun s i wr => ∃ (k m : Nat), k ≤ n ∧ i = .int .i64 (k : Int) ∧ s = .int .i64 (m : Int) ∧ m ≤ 4096 ∧ Hid (m = usedR (p.R.take k)) ∧ wr = w) (fun _ i _ => n - (intOf i).toNat)
  case atStart => exact ⟨0, 0, by omega, rfl, rfl, by omega, hide rfl, rfl⟩
  case round =>
    obtain ⟨k, m, hk, rfl, rfl, hm, HM, rfl⟩ := hrel
    by_cases hkl : k < n
    · have j1 : ((k : Nat) : Int) < ((n : Nat) : Int) := by omega
      obtain ⟨x, hx⟩ : ∃ x, p.R[k]? = some x := ⟨_, List.getElem?_eq_getElem (show k < p.R.length by rw [unhide HN]; exact hkl)⟩
      obtain ⟨b, cap', pa, pc, hov, q0, q1, q2, _⟩ := (unhide HH).there hx
      rw [unhide HO] at hov
      obtain rfl : a = some ⟨b, 0, none⟩ := by injection hov
      have HTK : Hid (usedR (p.R.take (k + 1)) = m + (if x.t then 1 + x.ps.length else 0)) := hide (by rw [take_snocO hx, used_snoc, ← unhide HM])
      have hu2 := unhide HU (k + 1)
      rw [unhide HTK] at hu2
      clear hov hx q1 HM
      cases ht : x.t with
      | true =>
        rw [ht] at q0 HTK hu2
        rw [if_pos rfl] at HTK hu2
        have hm2 : m + (1 + x.ps.length) ≤ 4096 := by omega
        clear hu2 ht
        go_wp2
        go_roundw
        case rel => exact ⟨k + 1, m + (1 + x.ps.length), by omega, by go_num, by congr 1; push_cast; omega, hm2, hide (unhide HTK).symm, trivial⟩
        case measure => simp [intOf]; omega
      | false =>
        rw [ht] at q0 HTK hu2
        rw [if_neg (by decide)] at HTK hu2
        clear hu2 ht
        go_wp2
        go_roundw
        case rel => exact ⟨k + 1, m, by omega, by go_num, rfl, hm, hide (unhide HTK).symm, trivial⟩
        case measure => simp [intOf]; omega
    · obtain rfl : k = n := by omega
      have hM : m = usedR p.R := by rw [unhide HM, List.take_of_length_le (by rw [unhide HN]; exact Nat.le_refl _)]
      have HMM := hide hM
      clear HM hM
      go_wp2
      go_ret
      rw [← unhide HMM]
      exact ⟨rfl, rfl⟩
end Go.Proofs.YtbbfnampjbdnbaaDoor

/-
  The document's heap: Get.
-/
namespace Go.Proofs.YtbbfnampjbdnbaaDoor
open Go.RowKit
set_option maxRecDepth 20000
set_option linter.unusedVariables false
set_option linter.unusedSimpArgs false

def getE (R : List Rb) (ref i : Int) : Int := match thrD R ref with | some x => if 0 ≤ i ∧ i < (x.ps.length : Int) then 0 else 142 | none => fltR R ref
def getW (R : List Rb) (ref i : Int) : Int := match thrD R ref with | some x => if 0 ≤ i ∧ i < (x.ps.length : Int) then (x.ps[i.toNat]?).getD 0 else 0 | none => 0
set_option maxHeartbeats 1000000 in
theorem refGet_any (B g : Nat) (p : Rp) (ref i : Int) (w : World) (H : RpAt B w g p) (hl : p.R.length ≤ 4611686018427387904) : Calls Tryd.prog 21 #[.pointer (some ⟨g, 0, none⟩), .int .i64 ref, .int .i64 i] w fun e w' => e = .returned (.tuple #[.int .i64 (getW p.R ref i), .int .i64 (getE p.R ref i)]) ∧ w' = w := by
  have HT := hide (refLen_any B g p ref w H hl)
  rcases flt_cases p.R ref with ⟨h1, h2⟩ | ⟨h1, k, x, h2, h3, h4, h5⟩
  · have t0 : (fltR p.R ref != 0) = true := bne_t h1
    have HL : Hid (getW p.R ref i = 0 ∧ getE p.R ref i = fltR p.R ref) := hide (by unfold getW getE; rw [h2]; exact ⟨rfl, rfl⟩)
    clear H h1 h2
    go_enter Tryd.func21, Tryd.ntmps21
    go_wp2_with (go_at_call 25; refine (unhide HT).mono ?_; rintro e w9 ⟨rfl, hw⟩; rw [hw]; clear hw)
    go_ret2
    rw [(unhide HL).1, (unhide HL).2]
    exact ⟨rfl, rfl⟩
  · have HL : Hid (lenR p.R ref = (x.ps.length : Int)) := hide (by unfold lenR; rw [h5])
    rw [h1, unhide HL] at HT
    have HG : Hid (getW p.R ref i = (if 0 ≤ i ∧ i < (x.ps.length : Int) then (x.ps[i.toNat]?).getD 0 else 0) ∧ getE p.R ref i = if 0 ≤ i ∧ i < (x.ps.length : Int) then 0 else 142) := hide (by unfold getW getE; rw [h5]; exact ⟨rfl, rfl⟩)
    by_cases hin : 0 ≤ i ∧ i < (x.ps.length : Int)
    · rw [if_pos hin, if_pos hin] at HG
      obtain ⟨j, rfl⟩ : ∃ j : Nat, i = (j : Int) := ⟨i.toNat, by omega⟩
      have hj : j < x.ps.length := by omega
      have hv : x.ps[j]? = some x.ps[j] := List.getElem?_eq_getElem hj
      generalize x.ps[j] = v at hv
      rw [show ((j : Int)).toNat = j from rfl, hv, Option.getD_some] at HG
      rw [(unhide HG).1, (unhide HG).2]
      subst h2
      obtain ⟨b, cap, pa, pc, hov, q0, q1, q2, hpv⟩ := H.there h3
      have c2 := H.box.c 2 (v := p.ov) rfl
      rw [hov] at c2
      have hpl := H.pls x (List.mem_of_getElem? h3)
      rw [hpv] at hpl
      obtain ⟨pa', pc', hpe, hja, _⟩ := hpl.at
      obtain rfl : pa = pa' := by injection hpe
      obtain ⟨pb, po, rfl, hc⟩ := hja j v hv
      have hi : k < p.R.length := (List.getElem?_eq_some_iff.1 h3).1
      have hi2 : ((k : Nat) : Int) < ((p.R.length : Nat) : Int) := by omega
      have hj2 : ((j : Nat) : Int) < ((x.ps.length : Nat) : Int) := by omega
      have hj3 : ¬ ((j : Nat) : Int) ≥ ((x.ps.length : Nat) : Int) := by omega
      generalize p.R.length = n at *
      clear H hov h1 h3 h4 h5 HL q0 q1 hpl hja hv hpv HG hin hpe
      go_enter Tryd.func21, Tryd.ntmps21
      go_wp2_with (go_at_call 25; refine (unhide HT).mono ?_; rintro e w9 ⟨rfl, hw⟩; rw [hw]; clear hw)
      go_ret2
      exact ⟨rfl, rfl⟩
    · rw [if_neg hin, if_neg hin] at HG
      rw [(unhide HG).1, (unhide HG).2]
      have hb : (i < 0) ∨ (¬ i < 0 ∧ i ≥ (x.ps.length : Int)) := by omega
      subst h2
      clear H h1 h3 h4 h5 HL HG hin
      generalize x.ps.length = n at *
      rcases hb with b1 | ⟨b1, b2⟩
      · go_enter Tryd.func21, Tryd.ntmps21
        go_wp2_with (go_at_call 25; refine (unhide HT).mono ?_; rintro e w9 ⟨rfl, hw⟩; rw [hw]; clear hw)
        go_ret2
        exact ⟨rfl, rfl⟩
      · go_enter Tryd.func21, Tryd.ntmps21
        go_wp2_with (go_at_call 25; refine (unhide HT).mono ?_; rintro e w9 ⟨rfl, hw⟩; rw [hw]; clear hw)
        go_ret2
        exact ⟨rfl, rfl⟩
end Go.Proofs.YtbbfnampjbdnbaaDoor

/-
  The document's heap: Live. Conditions: what lives takes at most 4096 cells.
-/
namespace Go.Proofs.YtbbfnampjbdnbaaDoor
open Go.RowKit
set_option maxRecDepth 20000
set_option linter.unusedVariables false
set_option linter.unusedSimpArgs false

def livR (R : List Rb) : List Int := (liv R 0).map (fun q => q.1)
theorem livR_snoc {R : List Rb} {k : Nat} {x : Rb} (h : R[k]? = some x) : livR (R.take (k + 1)) = livR (R.take k) ++ (if x.t then [(k : Int) + 1] else []) := by
  have hk := (List.getElem?_eq_some_iff.1 h).1
  unfold livR
  rw [take_snocO h, liv_app, List.map_append]
  congr 1
  have : (R.take k).length = k := by simp; omega
  rw [this]
  cases ht : x.t <;> simp [liv, ht]
theorem liv_len : ∀ (R : List Rb) (k : Nat), (liv R k).length ≤ usedR R
  | [], k => by simp [liv]
  | x :: R, k => by
    have ih := liv_len R (k + 1)
    rw [liv, usedR, List.length_append]
    cases x.t <;> simp <;> omega
theorem livR_len (R : List Rb) (k : Nat) : (livR (R.take k)).length ≤ usedR R := by
  unfold livR
  rw [List.length_map]
  exact Nat.le_trans (liv_len _ _) (used_take R k)
set_option maxHeartbeats 2000000 in
theorem refLive_any (B g : Nat) (p : Rp) (w : World) (H : RpAt B w g p) (hu : usedR p.R ≤ 4096) (hl : p.R.length ≤ 4611686018427387900) :
    Calls Tryd.prog 9 #[.pointer (some ⟨g, 0, none⟩)] w fun e w' => ∃ v, e = .returned v ∧ OwnJ w' w.heap.size v (livR p.R) ∧ Below w.heap.size w w' := by
  obtain ⟨i0, hi, hz0, hz1, hz2⟩ := info_parts infoJ
  obtain ⟨a, cap, hov⟩ := H.ovs
  have HOV := hide hov
  have HH := hide H
  have HLEN := hide (fun k => livR_len p.R k)
  obtain ⟨n, HN⟩ : ∃ n, Hid (p.R.length = n) := ⟨_, hide rfl⟩
  have hl2 : n ≤ 4611686018427387900 := by rw [← unhide HN]; exact hl
  clear H hov hl
  go_enter Tryd.func9, Tryd.ntmps9
  go_wp2_with fail
  go_loopw [3, 4] (fun v i wr => ∃ (k : Nat) (X : List Int), k ≤ n ∧ i = .int .i64 ((k : Int) + 1) ∧ X.length ≤ 4096 ∧ Hid (X = livR (p.R.take k)) ∧ Hid (OwnJ wr w.heap.size v X) ∧ Hid (Below w.heap.size w wr)) (fun _ i _ => n + 1 - (intOf i).toNat)
  case atStart => exact ⟨0, [], by omega, rfl, by simp, hide rfl, hide (OwnJ.nil _ _), hide (Below.refl _ _)⟩
  case round =>
    obtain ⟨k, X, hk, rfl, hX4, HXE, HO, HB⟩ := hrel
    obtain ⟨va, vc, rfl, _⟩ := (unhide HO).at
    have HHr := hide ((unhide HH).below (unhide HB))
    have c2 := (unhide HHr).box.c 2 (v := p.ov) rfl
    rw [unhide HOV, unhide HN] at c2
    by_cases hkl : k < n
    · have j1 : ((k : Nat) : Int) + 1 ≤ ((n : Nat) : Int) := by omega
      obtain ⟨x, hx⟩ : ∃ x, p.R[k]? = some x := ⟨_, List.getElem?_eq_getElem (show k < p.R.length by rw [unhide HN]; exact hkl)⟩
      have HT := hide (refThere_any B g p ((k : Int) + 1) wr (unhide HHr) (by rw [unhide HN]; omega))
      have HST := hide (livR_snoc hx)
      rw [thr_at hx] at HT
      have HLX := hide (unhide HLEN (k + 1))
      rw [unhide HST] at HLX
      clear hx
      cases ht : x.t with
      | true =>
        rw [ht] at HT HST HLX
        have HR1 := hide ((unhide HO).alloc (.cells #[.int .i64 ((k : Int) + 1)] 3))
        go_wp2_with (first | (go_at_call 36; refine (unhide HT).mono ?_; rintro e w9 ⟨rfl, hw⟩; rw [hw]; clear hw) | (at_builtin; refine wpList_append_own _ rfl _ _ 42 rfl (w.heap.size) 3 i0 (.int .i64 0) 1 8 Tryd.underlying42 hi hz0 hz1 hz2 rfl (by decide) _ X.length (jvals X) rfl (unhide HR1) ⟨wr.heap.size, 0, none⟩ 1 1 [.int .i64 ((k : Int) + 1)] rfl rfl (cell_one_newJ _ _ _) (by simp [Value.oneCell']) ?a3 ?a4 ?a5 ?_))
        case a3 => unfold maxLen; omega
        case a4 => omega
        case a5 => have := (unhide HB).size; simp; omega
        intro v1 w1 hO1 hG1 _
        have HX1 : Hid (X ++ [(k : Int) + 1] = livR (p.R.take (k + 1))) := hide (by rw [unhide HST, ← unhide HXE]; rfl)
        have hx1 : (X ++ [(k : Int) + 1]).length ≤ 4096 := by rw [unhide HX1]; exact Nat.le_trans (unhide HLEN (k + 1)) hu
        have HO1 : Hid (OwnJ w1 (w.heap.size) v1 (X ++ [(k : Int) + 1])) := hide (by unfold OwnJ jvals; rw [List.map_append, List.length_append]; exact hO1)
        have HB1 := hide (((unhide HB).alloc (unhide HB).size _).grown hG1 (by have := (unhide HB).size; simp; omega) (fun q e => ((unhide HO).lt q e).1))
        clear hO1 hG1
        go_wp2
        go_roundw
        case rel => exact ⟨k + 1, X ++ [(k : Int) + 1], by omega, by go_num, hx1, HX1, HO1, HB1⟩
        case measure => simp [intOf]; omega
      | false =>
        rw [ht] at HT HST HLX
        have HX1 : Hid (X = livR (p.R.take (k + 1))) := hide (by rw [unhide HST, ← unhide HXE]; simp)
        go_wp2_with (go_at_call 36; refine (unhide HT).mono ?_; rintro e w9 ⟨rfl, hw⟩; rw [hw]; clear hw)
        go_roundw
        case rel => exact ⟨k + 1, X, by omega, by go_num, hX4, HX1, HO, HB⟩
        case measure => simp [intOf]; omega
    · obtain rfl : k = n := by omega
      have HE : Hid (livR (p.R.take k) = livR p.R) := hide (by rw [List.take_of_length_le (by rw [unhide HN]; exact Nat.le_refl _)])
      have j1 : ¬ ((k : Nat) : Int) + 1 ≤ ((k : Nat) : Int) := by omega
      go_wp2
      go_ret
      exact ⟨_, rfl, by rw [← unhide HE, ← unhide HXE]; exact unhide HO, unhide HB⟩
end Go.Proofs.YtbbfnampjbdnbaaDoor
