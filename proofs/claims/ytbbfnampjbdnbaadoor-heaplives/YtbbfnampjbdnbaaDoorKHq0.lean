/-
  A heap in memory: its struct, its rows, its objects' places; what a write to blocks of other types leaves as it is. No Go in it.
-/
import Derived.Test.YtbbfnampjbdnbaaDoorKHp1
import Derived.Test.YtbbfnampjbdnbaaDoorBx1
import Derived.Deep.AppendLies
import Derived.Deep.WholeRow
namespace Go.Proofs.YtbbfnampjbdnbaaDoor
open Go.RowKit
set_option maxRecDepth 20000

/-- All below B stay, and all blocks of types that are not listed. -/
structure Kp (B : Nat) (ts : List TypeId) (W W' : World) : Prop where
  bel : Below B W W'
  blk : ∀ (k : Nat) (cs : Array Value) (t : TypeId) (fr : Nat × Nat), W.heap[k]? = some (.cells cs t fr) → t ∉ ts → W'.heap[k]? = some (.cells cs t fr)
theorem Kp.refl (B : Nat) (ts : List TypeId) (W : World) : Kp B ts W W := ⟨Below.refl _ _, fun _ _ _ _ h _ => h⟩
theorem Kp.trans {B : Nat} {ts : List TypeId} {W W1 W2 : World} (h : Kp B ts W W1) (k : Kp B ts W1 W2) : Kp B ts W W2 := ⟨h.bel.trans k.bel, fun i cs t fr hi ht => k.blk i cs t fr (h.blk i cs t fr hi ht) ht⟩
theorem Kp.mono {B B' : Nat} {ts ts' : List TypeId} {W W1 : World} (h : Kp B ts W W1) (hB : B' ≤ B) (hs : ∀ t, t ∈ ts → t ∈ ts') : Kp B' ts' W W1 := ⟨h.bel.mono hB, fun i cs t fr hi ht => h.blk i cs t fr hi (fun hh => ht (hs t hh))⟩
theorem Kp.size {B : Nat} {ts : List TypeId} {W W1 : World} (h : Kp B ts W W1) : W.heap.size ≤ W1.heap.size := h.bel.size
theorem Kp.of_below {B : Nat} {ts : List TypeId} {W W' : World} (h : Below W.heap.size W W') (hB : B ≤ W.heap.size) : Kp B ts W W' := ⟨h.mono hB, fun k _ _ _ hk _ => (h.block k (Array.getElem?_eq_some_iff.1 hk).1).trans hk⟩
theorem Kp.of_grown {B : Nat} {ts : List TypeId} {W W' : World} {row : Option Nat} (hg : W.grownBy W' row) (hB : B ≤ W.heap.size) (hr : ∀ k, row = some k → B ≤ k ∧ ∃ (cs : Array Value) (t : TypeId) (fr : Nat × Nat), W.heap[k]? = some (.cells cs t fr) ∧ t ∈ ts) : Kp B ts W W' := by
  refine ⟨⟨hg.os, hg.tape, hg.output, hg.size, fun k hk => hg.block k (by omega) (fun e => by have := (hr k e.symm).1; omega)⟩, fun k cs t fr hk ht => ?_⟩
  refine (hg.block k (Array.getElem?_eq_some_iff.1 hk).1 (fun e => ?_)).trans hk
  obtain ⟨_, cs', t', fr', h', ht'⟩ := hr k e.symm
  rw [hk] at h'
  injection h' with h'
  injection h' with _ h2
  subst h2
  exact ht ht'
theorem Kp.set {B : Nat} {ts : List TypeId} {W : World} {g : Nat} {t : TypeId} {cs : Array Value} (h : Bx W g t cs) (hB : B ≤ g) (ht : t ∈ ts) (i : Nat) (v : Value) : Kp B ts W (W.setCell ⟨g, i, none⟩ v) := by
  refine ⟨(Below.refl B W).setCell (p := ⟨g, i, none⟩) hB v, fun k cs' t' fr hk ht' => ?_⟩
  refine (Below.heap_setCell W ⟨g, i, none⟩ v k (fun e => ?_)).trans hk
  have e : k = g := e
  subst e
  rw [h] at hk
  injection hk with hk
  injection hk with _ h2
  subst h2
  exact ht' ht
theorem Bx.kp {B : Nat} {ts : List TypeId} {W W' : World} {g : Nat} {t : TypeId} {cs : Array Value} (h : Bx W g t cs) (hk : Kp B ts W W') (ht : t ∉ ts) : Bx W' g t cs := hk.blk g cs t (0, 0) h ht
theorem Bx.inj {W : World} {g : Nat} {t t' : TypeId} {cs cs' : Array Value} (h : Bx W g t cs) (h' : Bx W g t' cs') : t = t' ∧ cs = cs' := by
  unfold Bx at h h'
  rw [h] at h'
  injection h' with h'
  injection h' with h1 h2
  exact ⟨h2, h1⟩
theorem own_kp {B base : Nat} {ts : List TypeId} {W W' : World} {e : TypeId} {size n : Nat} {v : Value} {xs : List Value} (h : W.ownsRow base e size v n xs) (hk : Kp B ts W W') (ht : e ∉ ts) : W'.ownsRow base e size v n xs := by
  refine ⟨h.1, ?_⟩
  rcases h.2 with h' | ⟨g, cap, cur, h1, h2, h3, h4⟩
  · exact Or.inl h'
  · exact Or.inr ⟨g, cap, cur, h1, h2, hk.blk g cur e (0, 0) h3 ht, h4⟩
theorem own_block {base : Nat} {W : World} {e : TypeId} {size n : Nat} {v : Value} {xs : List Value} (h : W.ownsRow base e size v n xs) : ∀ k, v.ownBlock = some k → base ≤ k ∧ ∃ (cs : Array Value) (t : TypeId) (fr : Nat × Nat), W.heap[k]? = some (.cells cs t fr) ∧ t ∈ [e] := by
  intro k hk
  rcases h.2 with ⟨rfl, _⟩ | ⟨g, cap, cur, rfl, h2, h3, h4⟩
  · cases hk
  · have e' : g = k := by injection hk
    subst e'
    exact ⟨h2, cur, e, (0, 0), h3, by simp⟩

theorem wpList_load_rowH {P : Program} {ops : Array Oper} {rest : List Oper} {o : Oper} {a : Act} {w : World} {Q : Exit → Act → World → Prop} (hw : Region.wanted o (yielded ops a.tmps) = true) (ty : TypeId) (x : Operand) (ho : o.op = .load ty x)
    (g : Nat) (hx : a.eval x = .pointer (some ⟨g, 0, none⟩)) (t : TypeId) (cs : Array Value) (fr : Nat × Nat) (d : TypeDesc) (hg : w.heap[g]? = some (.cells cs t fr))
    (hu : P.underlying ty = some d) (hd : (match d with | .struct _ | .array _ _ => true | _ => false) = true) (hi : (P.info? ty).map (·.size) = some cs.size)
    (h : wpList P ops Q rest (a.put o.dst (.agg cs)) w) : wpList P ops Q (o :: rest) a w :=
  wpList_step fun _ hK => by rw [if_pos hw]; exact wp_load_row ty x ho g hx t cs fr d hg hu hd hi (hK _ _ h)
/-! ### The heap -/
structure Ob where
  ref : Int
  cls : Int
  pb : Nat
  ps : List Int
def obC (o : Ob) : List Value := [.int .i64 o.ref, .int .i64 o.cls, .slice (some ⟨o.pb, 0, none⟩) o.ps.length o.ps.length]
def obvals (O : List Ob) : List Value := O.flatMap obC
def plC (l : List Int) : Array Value := (l.map (fun x => Value.int .i32 x)).toArray
theorem obvals_len (O : List Ob) : (obvals O).length = O.length * 3 := by
  unfold obvals
  induction O with
  | nil => simp
  | cons x l ih => rw [List.flatMap_cons, List.length_append, ih, List.length_cons]; simp [obC]; omega
theorem obvals_snoc (O : List Ob) (o : Ob) : obvals (O ++ [o]) = obvals O ++ obC o := by unfold obvals; simp
theorem obvals_get : ∀ {O : List Ob} {i : Nat} {o : Ob}, O[i]? = some o → ∀ j, j < 3 → (obvals O)[i * 3 + j]? = (obC o)[j]?
  | [], i, x, h, _, _ => by simp at h
  | g :: l, 0, x, h, j, hj => by
    simp at h
    subst h
    unfold obvals
    rw [List.flatMap_cons, List.getElem?_append_left (by simp [obC]; omega)]
    simp
  | g :: l, i + 1, x, h, j, hj => by
    have h' : l[i]? = some x := by simpa using h
    have h1 := obvals_get h' j hj
    unfold obvals at h1 ⊢
    rw [List.flatMap_cons, List.getElem?_append_right (by simp [obC]; omega), ← h1]
    congr 1; simp [obC]; omega
/-- Which places of a class's records may lead on. -/
structure Ld where
  a : Option Addr
  c : Nat
  bs : List Bool
def Ld.v (x : Ld) : Value := .slice x.a x.bs.length x.c
structure Hm where
  lv : Value
  L : List Ld
  room : Int
  used : Int
  last : Int
  ov : Value
  O : List Ob
def hpC (h : Hm) : Array Value := #[h.lv, .int .i64 h.room, .int .i64 h.used, .int .i64 h.last, h.ov, .bool true]
structure HpAt (B : Nat) (W : World) (g : Nat) (h : Hm) : Prop where
  lo : B ≤ g
  box : Bx W g 55 (hpC h)
  lds : W.ownsRow B 56 1 h.lv h.L.length (h.L.map Ld.v)
  each : ∀ x ∈ h.L, W.ownsRow B 4 1 x.v x.bs.length (x.bs.map (fun b => .bool b))
  own : W.ownsRow B 83 3 h.ov h.O.length (obvals h.O)
  pls : ∀ o ∈ h.O, B ≤ o.pb ∧ Bx W o.pb 21 (plC o.ps)
  nd : (h.O.map Ob.pb).Nodup
/-- The types of a heap's blocks. -/
def hpT : List TypeId := [55, 56, 4, 83, 21]
theorem HpAt.kp {B B' : Nat} {ts : List TypeId} {W W' : World} {g : Nat} {h : Hm} (H : HpAt B W g h) (hk : Kp B' ts W W') (ht : ∀ t, t ∈ hpT → t ∉ ts) : HpAt B W' g h :=
  ⟨H.lo, H.box.kp hk (ht _ (by simp [hpT])), own_kp H.lds hk (ht _ (by simp [hpT])), fun x hx => own_kp (H.each x hx) hk (ht _ (by simp [hpT])), own_kp H.own hk (ht _ (by simp [hpT])), fun o ho => ⟨(H.pls o ho).1, (H.pls o ho).2.kp hk (ht _ (by simp [hpT]))⟩, H.nd⟩
theorem HpAt.below {B : Nat} {W W' : World} {g : Nat} {h : Hm} (H : HpAt B W g h) (hb : Below W.heap.size W W') : HpAt B W' g h := H.kp (B' := 0) (ts := []) (Kp.of_below hb (Nat.zero_le _)) (fun t _ => by simp)
theorem HpAt.cell {B : Nat} {W : World} {g : Nat} {h : Hm} (H : HpAt B W g h) {i : Nat} {v : Value} (e : (hpC h)[i]? = some v) : W.cell? ⟨g, i, none⟩ = some v := H.box.c i e
theorem HpAt.mono {B B' : Nat} {W : World} {g : Nat} {h : Hm} (H : HpAt B W g h) (hB : B' ≤ B) : HpAt B' W g h := ⟨Nat.le_trans hB H.lo, H.box, rowMono H.lds hB, fun x hx => rowMono (H.each x hx) hB, rowMono H.own hB, fun o ho => ⟨Nat.le_trans hB (H.pls o ho).1, (H.pls o ho).2⟩, H.nd⟩
theorem HpAt.c0 {B : Nat} {W : World} {g : Nat} {h : Hm} (H : HpAt B W g h) : W.cell? ⟨g, 0, none⟩ = some h.lv := H.box.c 0 rfl
theorem HpAt.c1 {B : Nat} {W : World} {g : Nat} {h : Hm} (H : HpAt B W g h) : W.cell? ⟨g, 1, none⟩ = some (.int .i64 h.room) := H.box.c 1 rfl
theorem HpAt.c2 {B : Nat} {W : World} {g : Nat} {h : Hm} (H : HpAt B W g h) : W.cell? ⟨g, 2, none⟩ = some (.int .i64 h.used) := H.box.c 2 rfl
theorem HpAt.c3 {B : Nat} {W : World} {g : Nat} {h : Hm} (H : HpAt B W g h) : W.cell? ⟨g, 3, none⟩ = some (.int .i64 h.last) := H.box.c 3 rfl
theorem HpAt.c4 {B : Nat} {W : World} {g : Nat} {h : Hm} (H : HpAt B W g h) : W.cell? ⟨g, 4, none⟩ = some h.ov := H.box.c 4 rfl
theorem HpAt.c5 {B : Nat} {W : World} {g : Nat} {h : Hm} (H : HpAt B W g h) : W.cell? ⟨g, 5, none⟩ = some (.bool true) := H.box.c 5 rfl
/-- The cells of an object among the objects. -/
theorem HpAt.ob {B : Nat} {W : World} {g : Nat} {h : Hm} (H : HpAt B W g h) {i : Nat} {o : Ob} (ho : h.O[i]? = some o) : ∃ b cap, h.ov = .slice (some ⟨b, 0, none⟩) h.O.length cap ∧ B ≤ b ∧ W.cell? ⟨b, i * 3, none⟩ = some (.int .i64 o.ref) ∧ W.cell? ⟨b, i * 3 + 1, none⟩ = some (.int .i64 o.cls) ∧ W.cell? ⟨b, i * 3 + 2, none⟩ = some (.slice (some ⟨o.pb, 0, none⟩) o.ps.length o.ps.length) := by
  have hi := (List.getElem?_eq_some_iff.1 ho).1
  rcases H.own.2 with ⟨_, h2⟩ | ⟨b, cap, cur, e, hB, _⟩
  · omega
  · have own := H.own
    rw [e] at own
    refine ⟨b, cap, e, hB, ?_, ?_, ?_⟩
    · exact (World.ownsRow.cellAt own (i * 3) (by omega)).trans (obvals_get ho 0 (by omega))
    · exact (World.ownsRow.cellAt own (i * 3 + 1) (by omega)).trans (obvals_get ho 1 (by omega))
    · exact (World.ownsRow.cellAt own (i * 3 + 2) (by omega)).trans (obvals_get ho 2 (by omega))
theorem HpAt.ovs {B : Nat} {W : World} {g : Nat} {h : Hm} (H : HpAt B W g h) : ∃ a cap, h.ov = .slice a h.O.length cap := by
  rcases H.own.2 with ⟨h1, h2⟩ | ⟨b, cap, cur, e, _⟩
  · exact ⟨none, 0, by rw [h1, h2]⟩
  · exact ⟨_, _, e⟩

/-! ### What a heap keeps, plainly -/
def cellsO (O : List Ob) : Nat := (O.map (fun o => 1 + o.ps.length)).sum
structure HmOk (h : Hm) : Prop where
  room : 0 ≤ h.room ∧ h.room ≤ 4096
  used : h.used = (cellsO h.O : Int)
  fits : h.used ≤ h.room
  last : 0 ≤ h.last
  asc : h.O.Pairwise (fun a b => a.ref < b.ref)
  refs : ∀ o ∈ h.O, 1 ≤ o.ref ∧ o.ref ≤ h.last
  cls : ∀ o ∈ h.O, o.cls = -1 ∨ ∃ c : Nat, o.cls = (c : Int) ∧ ∃ x, h.L[c]? = some x ∧ x.bs.length = o.ps.length
  i32 : ∀ o ∈ h.O, ∀ x ∈ o.ps, -2147483648 ≤ x ∧ x ≤ 2147483647
  lds : h.L.length ≤ 4096
theorem cells_ge (O : List Ob) : O.length ≤ cellsO O := by
  unfold cellsO
  induction O with
  | nil => simp
  | cons x l ih => simp; omega
theorem cells_mem {O : List Ob} {o : Ob} (h : o ∈ O) : o.ps.length + 1 ≤ cellsO O := by
  unfold cellsO
  induction O with
  | nil => cases h
  | cons x l ih =>
    simp
    rcases List.mem_cons.1 h with rfl | h
    · omega
    · have := ih h; omega
theorem HmOk.len {h : Hm} (H : HmOk h) : h.O.length ≤ 4096 := by have := cells_ge h.O; have := H.used; have := H.fits; have := H.room.2; omega
theorem HmOk.plen {h : Hm} (H : HmOk h) {o : Ob} (ho : o ∈ h.O) : o.ps.length ≤ 4096 := by have := cells_mem ho; have := H.used; have := H.fits; have := H.room.2; omega
/-- The object of a reference. -/
def objD (O : List Ob) (r : Int) : Option Ob := O.find? (fun o => o.ref == r)
theorem obj_at {O : List Ob} (h : O.Pairwise (fun a b => a.ref < b.ref)) {i : Nat} {o : Ob} (ho : O[i]? = some o) : objD O o.ref = some o := by
  unfold objD
  induction O generalizing i with
  | nil => simp at ho
  | cons x l ih =>
    cases i with
    | zero => simp at ho; subst ho; simp
    | succ i =>
      have ho' : l[i]? = some o := by simpa using ho
      have hx := (List.pairwise_cons.1 h).1 o (List.mem_of_getElem? ho')
      rw [List.find?_cons_of_neg (by simp; omega)]
      exact ih (List.pairwise_cons.1 h).2 ho'
theorem obj_none {O : List Ob} {r : Int} (h : ∀ o ∈ O, o.ref ≠ r) : objD O r = none := by
  unfold objD
  rw [List.find?_eq_none]
  intro o ho
  simp [h o ho]
theorem obj_mem {O : List Ob} {r : Int} {o : Ob} (h : objD O r = some o) : o ∈ O ∧ o.ref = r := by
  unfold objD at h
  exact ⟨List.mem_of_find?_eq_some h, by have := List.find?_some h; simpa using this⟩
end Go.Proofs.YtbbfnampjbdnbaaDoor
