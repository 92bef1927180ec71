/-
  Texts of contracts and plain lemmas, one behind another; each says at its head what it holds.
-/
import Derived.Test.YtgelbihdcfgjcaaDoorJMD
import Derived.Test.YtgelbihdcfgjcaaDoorJRF
/-
  slices.Clone of rows of classes, of fields and of functions: the same cells in memory of their own. Conditions: lengths fit.
-/
namespace Go.Proofs.YtgelbihdcfgjcaaDoor
open Go.RowKit
set_option maxRecDepth 20000
set_option linter.unusedVariables false

theorem infoClL : (Tryd.prog.info? 53).map (fun i => (i.zero, i.size, i.bytes)) = some (some (.agg #[.string ⟨#[]⟩, .int .i64 0, .slice none 0 0]), 3, 48) := by kernel_rfl
theorem infoFlL : (Tryd.prog.info? 56).map (fun i => (i.zero, i.size, i.bytes)) = some (some (.agg #[.string ⟨#[]⟩, .int .u8 0]), 2, 24) := by kernel_rfl
/-- The cells of a row lie there. -/
def VsAt (W : World) (ao : Option Addr) (vs : List Value) : Prop := ∀ j u, vs[j]? = some u → ∃ b off, ao = some ⟨b, off, none⟩ ∧ W.cell? ⟨b, off + j, none⟩ = some u
theorem VsAt.below {W w : World} {ao : Option Addr} {vs : List Value} (h : VsAt W ao vs) (hb : Below W.heap.size W w) : VsAt w ao vs := fun j u hu => by
  obtain ⟨b, off, e, h1⟩ := h j u hu
  exact ⟨b, off, e, (hb.cell (p := ⟨b, off + j, none⟩) (World.block_lt_of_cell? W _ h1)).trans h1⟩

set_option maxHeartbeats 2000000 in
theorem clone_clsL (fo : Option Addr) (n fc : Nat) (vs : List Value) (w : World) (h : VsAt w fo vs) (hl : vs.length = n * 3) (hn : fo = none → n = 0) (hone : ∀ u ∈ vs, u.oneCell' = true) (hb : n * 48 ≤ 140737488351232) :
    Calls Tryd.prog 12 #[.slice fo n fc] w fun e w' => ∃ v, e = .returned v ∧ w'.ownsRow w.heap.size 53 3 v n vs ∧ Below w.heap.size w w' := by
  have q36 : ∀ (w : World) (a : Option Addr) (n c n' c' : Nat), (binOp .eql 22 (.slice a n c) (.slice none n' c')).run Tryd.prog w = .ok (.bool a.isNone) w := fun w a n c n' c' => Lib.run_eql_slice_nil w _ _ a n c n' c' Tryd.underlying22
  obtain ⟨i0, hi, hz0, hz1, hz2⟩ := info_parts infoClL
  cases fo with
  | none =>
    have hl0 := hn rfl
    subst hl0
    have hv : vs = [] := List.eq_nil_of_length_eq_zero (by omega)
    subst hv
    go_enter Tryd.func12, Tryd.ntmps12
    go_wp2
    go_ret
    exact ⟨_, rfl, World.ownsRow_nil _ _ _ _, Below.refl _ _⟩
  | some x =>
    have hsrc : ∀ (i : Nat) u, vs[i]? = some u → (w.alloc (.cells #[] 53)).cell? (x.add i) = some u := by
      intro i u hu
      obtain ⟨b2, off2, e2, hr⟩ := h i u hu
      injection e2 with e2
      subst e2
      rw [Addr.add_lit]
      exact (((Below.refl w.heap.size w).alloc (Nat.le_refl _) _).cell (p := ⟨b2, off2 + i, none⟩) (World.block_lt_of_cell? w _ hr)).trans hr
    have HSr := hide hsrc
    clear hsrc h hn
    go_enter Tryd.func12, Tryd.ntmps12
    go_wp2_with (at_builtin; refine wpList_append_own _ rfl _ _ 22 rfl w.heap.size 53 i0 (.agg #[.string ⟨#[]⟩, .int .i64 0, .slice none 0 0]) 3 48 Tryd.underlying22 hi hz0 hz1 hz2 rfl (by decide) _ 0 [] rfl (World.ownsRow_made w #[] 0 (Nat.le_refl _) (by decide) rfl) x n fc vs rfl hl (unhide HSr) hone ?c3 ?c4 ?c5 ?_)
    case c3 => unfold maxLen; omega
    case c4 => omega
    case c5 => simp
    · intro v' w1 hown hgrow hnil
      go_wp2
      go_ret
      refine ⟨_, rfl, ?_, ((Below.refl w.heap.size w).alloc (Nat.le_refl _) _).trans (below_grown hgrow (by simp) (fun k e => by simp [Value.ownBlock] at e; omega))⟩
      simpa using hown

set_option maxHeartbeats 2000000 in
theorem clone_fldL (fo : Option Addr) (n fc : Nat) (vs : List Value) (w : World) (h : VsAt w fo vs) (hl : vs.length = n * 2) (hn : fo = none → n = 0) (hone : ∀ u ∈ vs, u.oneCell' = true) (hb : n * 24 ≤ 140737488351232) :
    Calls Tryd.prog 13 #[.slice fo n fc] w fun e w' => ∃ v, e = .returned v ∧ w'.ownsRow w.heap.size 56 2 v n vs ∧ Below w.heap.size w w' := by
  have q36 : ∀ (w : World) (a : Option Addr) (n c n' c' : Nat), (binOp .eql 51 (.slice a n c) (.slice none n' c')).run Tryd.prog w = .ok (.bool a.isNone) w := fun w a n c n' c' => Lib.run_eql_slice_nil w _ _ a n c n' c' Tryd.underlying51
  obtain ⟨i0, hi, hz0, hz1, hz2⟩ := info_parts infoFlL
  cases fo with
  | none =>
    have hl0 := hn rfl
    subst hl0
    have hv : vs = [] := List.eq_nil_of_length_eq_zero (by omega)
    subst hv
    go_enter Tryd.func13, Tryd.ntmps13
    go_wp2
    go_ret
    exact ⟨_, rfl, World.ownsRow_nil _ _ _ _, Below.refl _ _⟩
  | some x =>
    have hsrc : ∀ (i : Nat) u, vs[i]? = some u → (w.alloc (.cells #[] 56)).cell? (x.add i) = some u := by
      intro i u hu
      obtain ⟨b2, off2, e2, hr⟩ := h i u hu
      injection e2 with e2
      subst e2
      rw [Addr.add_lit]
      exact (((Below.refl w.heap.size w).alloc (Nat.le_refl _) _).cell (p := ⟨b2, off2 + i, none⟩) (World.block_lt_of_cell? w _ hr)).trans hr
    have HSr := hide hsrc
    clear hsrc h hn
    go_enter Tryd.func13, Tryd.ntmps13
    go_wp2_with (at_builtin; refine wpList_append_own _ rfl _ _ 51 rfl w.heap.size 56 i0 (.agg #[.string ⟨#[]⟩, .int .u8 0]) 2 24 Tryd.underlying51 hi hz0 hz1 hz2 rfl (by decide) _ 0 [] rfl (World.ownsRow_made w #[] 0 (Nat.le_refl _) (by decide) rfl) x n fc vs rfl hl (unhide HSr) hone ?c3 ?c4 ?c5 ?_)
    case c3 => unfold maxLen; omega
    case c4 => omega
    case c5 => simp
    · intro v' w1 hown hgrow hnil
      go_wp2
      go_ret
      refine ⟨_, rfl, ?_, ((Below.refl w.heap.size w).alloc (Nat.le_refl _) _).trans (below_grown hgrow (by simp) (fun k e => by simp [Value.ownBlock] at e; omega))⟩
      simpa using hown

set_option maxHeartbeats 2000000 in
theorem clone_fnsL (fo : Option Addr) (n fc : Nat) (vs : List Value) (w : World) (h : VsAt w fo vs) (hl : vs.length = n * 5) (hn : fo = none → n = 0) (hone : ∀ u ∈ vs, u.oneCell' = true) (hb : n * 80 ≤ 140737488351232) :
    Calls Tryd.prog 14 #[.slice fo n fc] w fun e w' => ∃ v, e = .returned v ∧ w'.ownsRow w.heap.size 40 5 v n vs ∧ Below w.heap.size w w' := by
  have q36 : ∀ (w : World) (a : Option Addr) (n c n' c' : Nat), (binOp .eql 23 (.slice a n c) (.slice none n' c')).run Tryd.prog w = .ok (.bool a.isNone) w := fun w a n c n' c' => Lib.run_eql_slice_nil w _ _ a n c n' c' Tryd.underlying23
  obtain ⟨i0, hi, hz0, hz1, hz2⟩ := info_parts infoFn
  cases fo with
  | none =>
    have hl0 := hn rfl
    subst hl0
    have hv : vs = [] := List.eq_nil_of_length_eq_zero (by omega)
    subst hv
    go_enter Tryd.func14, Tryd.ntmps14
    go_wp2
    go_ret
    exact ⟨_, rfl, World.ownsRow_nil _ _ _ _, Below.refl _ _⟩
  | some x =>
    have hsrc : ∀ (i : Nat) u, vs[i]? = some u → (w.alloc (.cells #[] 40)).cell? (x.add i) = some u := by
      intro i u hu
      obtain ⟨b2, off2, e2, hr⟩ := h i u hu
      injection e2 with e2
      subst e2
      rw [Addr.add_lit]
      exact (((Below.refl w.heap.size w).alloc (Nat.le_refl _) _).cell (p := ⟨b2, off2 + i, none⟩) (World.block_lt_of_cell? w _ hr)).trans hr
    have HSr := hide hsrc
    clear hsrc h hn
    go_enter Tryd.func14, Tryd.ntmps14
    go_wp2_with (at_builtin; refine wpList_append_own _ rfl _ _ 23 rfl w.heap.size 40 i0 (.agg #[.string ⟨#[]⟩, .slice none 0 0, .int .u8 0, .int .i64 0, .slice none 0 0]) 5 80 Tryd.underlying23 hi hz0 hz1 hz2 rfl (by decide) _ 0 [] rfl (World.ownsRow_made w #[] 0 (Nat.le_refl _) (by decide) rfl) x n fc vs rfl hl (unhide HSr) hone ?c3 ?c4 ?c5 ?_)
    case c3 => unfold maxLen; omega
    case c4 => omega
    case c5 => simp
    · intro v' w1 hown hgrow hnil
      go_wp2
      go_ret
      refine ⟨_, rfl, ?_, ((Below.refl w.heap.size w).alloc (Nat.le_refl _) _).trans (below_grown hgrow (by simp) (fun k e => by simp [Value.ownBlock] at e; omega))⟩
      simpa using hown

end Go.Proofs.YtgelbihdcfgjcaaDoor

/-
  A row in memory of its own whose things are changed in place; link.Alone: a module's copy that calls nobody else. Conditions: lengths fit.
-/
namespace Go.Proofs.YtgelbihdcfgjcaaDoor
open Go.RowKit
set_option maxRecDepth 20000
set_option linter.unusedVariables false

theorem vals_set {α : Type} (N : Nd α) : ∀ {M : List α} {k : Nat} {x y : α} {j : Nat} {u : Value}, M[k]? = some x → j < N.s → N.cells y = (N.cells x).set j u → vals N (M.set k y) = (vals N M).set (k * N.s + j) u
  | [], k, x, y, j, u, h, _, _ => by simp at h
  | a :: l, 0, x, y, j, u, h, hj, e => by
    have : a = x := by simpa using h
    subst this
    unfold vals
    rw [List.set_cons_zero, List.flatMap_cons, List.flatMap_cons, e, Nat.zero_mul, Nat.zero_add, List.set_append_left _ _ (by rw [N.len]; exact hj)]
  | a :: l, k + 1, x, y, j, u, h, hj, e => by
    have ih := vals_set N (M := l) (k := k) (x := x) (y := y) (j := j) (u := u) (by simpa using h) hj e
    unfold vals at ih ⊢
    rw [List.set_cons_succ, List.flatMap_cons, List.flatMap_cons, ih, List.set_append_right _ _ (by rw [N.len, Nat.add_mul]; omega), N.len]
    congr 2
    rw [Nat.add_mul]; omega
/-- A row in memory of its own; its things' rows are not it. -/
structure RowIn {α : Type} (N : Nd α) (W : World) (base : Nat) (v : Value) (M : List α) : Prop where
  own : W.ownsRow base N.t N.s v M.length (vals N M)
  ok : ∀ y ∈ M, N.ok W y
  ne : ∀ g, v.ownBlock = some g → ∀ y ∈ M, N.all (fun b => b ≠ g) y
theorem RowIn.below {α : Type} {N : Nd α} {W W' : World} {base : Nat} {v : Value} {M : List α} (h : RowIn N W base v M) (hb : Below W.heap.size W W') : RowIn N W' base v M := ⟨rowBelow h.own hb, fun y hy => N.below (h.ok y hy) hb, h.ne⟩
theorem RowIn.slice {α : Type} {N : Nd α} {W : World} {base : Nat} {v : Value} {M : List α} (h : RowIn N W base v M) : ∃ va vc, v = .slice va M.length vc := by
  rcases h.own.2 with ⟨h1, h2⟩ | ⟨g, cap, cur, rfl, _⟩
  · exact ⟨none, 0, by rw [h1, h2]⟩
  · exact ⟨_, _, rfl⟩
theorem RowIn.at {α : Type} {N : Nd α} {W : World} {base : Nat} {v : Value} {M : List α} (h : RowIn N W base v M) (hp : 0 < M.length) : ∃ g cap, v = .slice (some ⟨g, 0, none⟩) M.length cap ∧ base ≤ g ∧ g < W.heap.size := by
  rcases h.own.2 with ⟨h1, h2⟩ | ⟨g, cap, cur, e, hb, hh, _⟩
  · omega
  · exact ⟨g, cap, e, hb, (Array.getElem?_eq_some_iff.1 hh).1⟩
theorem RowIn.cell {α : Type} {N : Nd α} {W : World} {base g n cap : Nat} {M : List α} (h : RowIn N W base (.slice (some ⟨g, 0, none⟩) n cap) M) {k : Nat} {x : α} (hx : M[k]? = some x) {j : Nat} (hj : j < N.s) : W.cell? ⟨g, k * N.s + j, none⟩ = (N.cells x)[j]? := by
  have hn : M.length = n := by
    obtain ⟨_, _, e⟩ := h.slice
    injection e with _ e2
    exact e2.symm
  subst hn
  have hi := (List.getElem?_eq_some_iff.1 hx).1
  have hmul : (k + 1) * N.s ≤ M.length * N.s := Nat.mul_le_mul_right _ hi
  rw [Nat.add_mul] at hmul
  rw [World.ownsRow.cellAt h.own (k * N.s + j) (by omega), vals_get N hx j hj]
theorem RowIn.frz {α : Type} {N : Nd α} {W : World} {base g n cap : Nat} {M : List α} (h : RowIn N W base (.slice (some ⟨g, 0, none⟩) n cap) M) (j : Nat) : W.frozen? ⟨g, j, none⟩ = false := by
  rcases h.own.2 with ⟨h1, _⟩ | ⟨g', cap', cur, e, _, hh, _⟩
  · simp at h1
  · simp only [Value.slice.injEq, Option.some.injEq, Addr.mk.injEq, and_true] at e
    obtain ⟨rfl, _⟩ := e
    exact frozen_of_row _ _ _ _ _ hh
theorem RowIn.put {α : Type} {N : Nd α} {W : World} {base g n cap : Nat} {M : List α} (h : RowIn N W base (.slice (some ⟨g, 0, none⟩) n cap) M) {k j : Nat} {x y : α} {u : Value} (hx : M[k]? = some x) (hj : j < N.s) (hu : N.cells y = (N.cells x).set j u) (hy : N.ok W y) (hne : N.all (fun b => b ≠ g) y) : RowIn N (W.setCell ⟨g, k * N.s + j, none⟩ u) base (.slice (some ⟨g, 0, none⟩) n cap) (M.set k y) ∧ W.grownBy (W.setCell ⟨g, k * N.s + j, none⟩ u) (some g) := by
  have hn : M.length = n := by
    obtain ⟨_, _, e⟩ := h.slice
    injection e with _ e2
    exact e2.symm
  subst hn
  obtain ⟨h1, hg⟩ := World.ownsRow.stored h.own (k * N.s + j) u
  refine ⟨⟨?_, fun z hz => ?_, fun q e z hz => ?_⟩, hg⟩
  · rw [vals_set N hx hj hu, List.length_set]; exact h1
  · rcases List.mem_or_eq_of_mem_set hz with hz | rfl
    · exact N.far (h.ok z hz) hg (h.ne g rfl z hz)
    · exact N.far hy hg hne
  · have e' : g = q := by injection e
    subst e'
    rcases List.mem_or_eq_of_mem_set hz with hz | rfl
    · exact h.ne g rfl z hz
    · exact hne
theorem RowIn.row {α : Type} {N : Nd α} {W : World} {base : Nat} {va : Option Addr} {n vc : Nat} {M : List α} (h : RowIn N W base (.slice va n vc) M) : RowAt N W va M := fun i y hy => by
  have hi := (List.getElem?_eq_some_iff.1 hy).1
  obtain ⟨g, cap, e, _, _⟩ := h.at (by omega)
  injection e with e1 e2 e3
  subst e1 e2
  refine ⟨g, 0, rfl, fun j u hu => ?_, h.ok y (List.mem_of_getElem? hy)⟩
  have hj := (List.getElem?_eq_some_iff.1 hu).1
  rw [N.len] at hj
  rw [Nat.zero_add]
  exact (h.cell hy hj).trans hu
theorem vs_of_row {α : Type} {N : Nd α} {W : World} {ao : Option Addr} {L : List α} (h : RowAt N W ao L) : VsAt W ao (vals N L) := fun j u hu => by
  have hj := (List.getElem?_eq_some_iff.1 hu).1
  rw [vals_length] at hj
  have hpos := N.pos
  have hi : j / N.s < L.length := (Nat.div_lt_iff_lt_mul hpos).2 hj
  obtain ⟨b2, off2, e2, hr, _⟩ := h (j / N.s) _ (List.getElem?_eq_getElem hi)
  have hm := Nat.mod_lt j hpos
  have hd := Nat.div_add_mod j N.s
  rw [Nat.mul_comm] at hd
  have := vals_get N (List.getElem?_eq_getElem hi) (j % N.s) hm
  rw [hd, hu] at this
  have := hr (j % N.s) u this.symm
  rw [Nat.add_assoc, hd] at this
  exact ⟨b2, off2, e2, this⟩
/-- Where the row was cloned of things whose rows were there: it is none of theirs. -/
theorem rowIn_clone {α : Type} {N : Nd α} {W W' : World} {ao : Option Addr} {v : Value} {L : List α} (h : RowAt N W ao L) (ho : W'.ownsRow W.heap.size N.t N.s v L.length (vals N L)) (hb : Below W.heap.size W W') : RowIn N W' W.heap.size v L :=
  ⟨ho, fun y hy => by
    obtain ⟨i, hi, e⟩ := List.mem_iff_getElem.1 hy
    obtain ⟨_, _, _, _, h2⟩ := h i y (by rw [← e]; exact List.getElem?_eq_getElem hi)
    exact N.below h2 hb, fun g e y hy => by
    obtain ⟨i, hi, e2⟩ := List.mem_iff_getElem.1 hy
    obtain ⟨_, _, _, _, h2⟩ := h i y (by rw [← e2]; exact List.getElem?_eq_getElem hi)
    exact N.mono (fun b hb2 => by have := (World.ownsRow.lt ho g e).1; omega) (N.lt h2)⟩

/-- A function as a thing in a row. -/
def fnM : Nd Fn where
  t := 40
  s := 5
  cells := fun x => [.string x.nm, .slice x.sg.po x.sg.ps.length x.sg.pc, .int .u8 (x.sg.rt : Int), .int .i64 x.lo, .slice x.ca x.cd.length x.cc]
  ok := fun W x => FnOk W x
  all := fun P x => BlkOf P x.sg.po x.sg.ps.length ∧ BlkOf P x.ca x.cd.length
  pos := by decide
  len := fun _ => rfl
  below := fun h hb => h.below hb
  far := fun h hg hn => ⟨⟨pat_far h.sg.prm hg hn.1, h.sg.nil, h.sg.bts, h.sg.fit, h.sg.res⟩, bat_far h.code hg hn.2, h.nil, h.fit, h.name, h.loc⟩
  lt := fun h => ⟨pat_lt h.sg.prm, bat_lt h.code⟩
  mono := fun hq h => ⟨h.1.mono hq, h.2.mono hq⟩
theorem fnM_row {W : World} {ao : Option Addr} {L : List Fn} (h : FnsAt W ao L) : RowAt fnM W ao L := fun i x hx => by
  obtain ⟨b, off, e, hc⟩ := h i x hx
  refine ⟨b, off, e, fun j u hu => ?_, hc.ok⟩
  match j, hu with
  | 0, hu => injection hu with hu; subst hu; exact hc.c0
  | 1, hu => injection hu with hu; subst hu; exact hc.c1
  | 2, hu => injection hu with hu; subst hu; exact hc.c2
  | 3, hu => injection hu with hu; subst hu; exact hc.c3
  | 4, hu => injection hu with hu; subst hu; exact hc.c4
  | j + 5, hu => simp [fnM] at hu
theorem fnM_fns {W : World} {ao : Option Addr} {L : List Fn} (h : RowAt fnM W ao L) : FnsAt W ao L := fun i x hx => by
  obtain ⟨b, off, e, h1, h2⟩ := h i x hx
  exact ⟨b, off, e, h1 0 _ rfl, h1 1 _ rfl, h1 2 _ rfl, h1 3 _ rfl, h1 4 _ rfl, h2⟩
theorem clN_row {W : World} {ao : Option Addr} {T : List Cl} (h : TabAt W ao T) : RowAt clN W ao T := fun i x hx => by
  obtain ⟨b, off, e, hc⟩ := h i x hx
  refine ⟨b, off, e, fun j u hu => ?_, ⟨hc.nil, hc.cap, hc.fit, hc.name, hc.par⟩, fun k f hf => ?_⟩
  · match j, hu with
    | 0, hu => injection hu with hu; subst hu; exact hc.c0
    | 1, hu => injection hu with hu; subst hu; exact hc.c1
    | 2, hu => injection hu with hu; subst hu; exact hc.c2
    | j + 3, hu => simp [clN] at hu
  · obtain ⟨b', off', e', hfl⟩ := hc.flds k f hf
    refine ⟨b', off', e', fun j u hu => ?_, hfl.name, hfl.ty⟩
    match j, hu with
    | 0, hu => injection hu with hu; subst hu; exact hfl.c0
    | 1, hu => injection hu with hu; subst hu; exact hfl.c1
    | j + 2, hu => simp [flN] at hu
theorem clN_one (T : List Cl) : ∀ u ∈ vals clN T, u.oneCell' = true := by
  intro u hu
  obtain ⟨x, _, hx⟩ := List.mem_flatMap.1 hu
  simp only [clN, List.mem_cons, List.mem_nil_iff, or_false] at hx
  rcases hx with rfl | rfl | rfl <;> rfl
theorem flN_one (T : List Fl) : ∀ u ∈ vals flN T, u.oneCell' = true := by
  intro u hu
  obtain ⟨x, _, hx⟩ := List.mem_flatMap.1 hu
  simp only [flN, List.mem_cons, List.mem_nil_iff, or_false] at hx
  rcases hx with rfl | rfl <;> rfl
theorem fnM_one (T : List Fn) : ∀ u ∈ vals fnM T, u.oneCell' = true := by
  intro u hu
  obtain ⟨x, _, hx⟩ := List.mem_flatMap.1 hu
  simp only [fnM, List.mem_cons, List.mem_nil_iff, or_false] at hx
  rcases hx with rfl | rfl | rfl | rfl | rfl <;> rfl
end Go.Proofs.YtgelbihdcfgjcaaDoor

/-
  link.Alone: a module's copy in memory of its own, without certificates. Conditions: lengths fit.
-/
namespace Go.Proofs.YtgelbihdcfgjcaaDoor
open Go.RowKit
set_option maxRecDepth 20000
set_option linter.unusedVariables false

structure AloneR (w W : World) (m y : Md) : Prop where
  nm : y.nm = m.nm
  tab : TabAt W y.ao y.T
  same : SameT m.T y.T
  row : RowIn fnM W w.heap.size (.slice y.fo y.F.length y.fc) y.F
  fns : SameFns m.F y.F
  pl : ∀ x ∈ y.F, Pl W x.ca x.cd.length ∧ BlkOf (fun b => w.heap.size ≤ b) x.ca x.cd.length
  co : y.co = none ∧ y.cc = 0 ∧ y.C = []
  bel : Below w.heap.size w W
/-- While classes are given fields of their own. -/
structure ACl (w W : World) (m : Md) (v : Value) (G : List Cl) : Prop where
  box : Bx W w.heap.size 26 #[.string m.nm, v, .slice m.fo m.F.length m.fc, .slice none 0 0]
  out : Bx W (w.heap.size + 1) 29 #[.string ⟨#[]⟩, .slice none 0 0, .slice none 0 0, .slice none 0 0, .slice none 0 0]
  row : RowIn clN W (w.heap.size + 2) v G
  same : SameT m.T G
  bel : Below w.heap.size w W
/-- While functions are. -/
structure AFn (w W : World) (m : Md) (ga : Option Addr) (gc : Nat) (G : List Cl) (v : Value) (F : List Fn) (k : Nat) : Prop where
  box : Bx W w.heap.size 26 #[.string m.nm, .slice ga G.length gc, v, .slice none 0 0]
  out : Bx W (w.heap.size + 1) 29 #[.string ⟨#[]⟩, .slice none 0 0, .slice none 0 0, .slice none 0 0, .slice none 0 0]
  tab : TabAt W ga G
  same : SameT m.T G
  tnf : ∀ g, v.ownBlock = some g → RowAll clN (fun b => b ≠ g) ga G
  row : RowIn fnM W (w.heap.size + 2) v F
  fns : SameFns m.F F
  pl : ∀ i x, i < k → F[i]? = some x → Pl W x.ca x.cd.length ∧ BlkOf (fun b => w.heap.size + 2 ≤ b) x.ca x.cd.length
  bel : Below w.heap.size w W

theorem own_row {α : Type} {N : Nd α} {W : World} {base : Nat} {va : Option Addr} {n vc : Nat} {L : List α} (ho : W.ownsRow base N.t N.s (.slice va n vc) L.length (vals N L)) (hok : ∀ y ∈ L, N.ok W y) : RowAt N W va L ∧ (va = none → L = [] ∧ vc = 0) ∧ L.length ≤ vc ∧ (∀ b off, va = some ⟨b, off, none⟩ → base ≤ b) := by
  rcases ho.2 with ⟨h1, h2⟩ | ⟨g, cap, cur, e, hb, hh, hn, _⟩
  · have := List.eq_nil_of_length_eq_zero h2
    subst this
    injection h1 with h1 h3 h4
    subst h1 h4
    exact ⟨fun i y h => by simp at h, fun _ => ⟨rfl, rfl⟩, by simp, fun b off e => by cases e⟩
  · injection e with e1 e2 e3
    subst e1 e2 e3
    refine ⟨fun i y hy => ⟨g, 0, rfl, fun j u hu => ?_, hok y (List.mem_of_getElem? hy)⟩, fun e => (by cases e), hn, fun b off e => ?_⟩
    · have hi := (List.getElem?_eq_some_iff.1 hy).1
      have hj := (List.getElem?_eq_some_iff.1 hu).1
      rw [N.len] at hj
      have hmul : (i + 1) * N.s ≤ L.length * N.s := Nat.mul_le_mul_right _ hi
      rw [Nat.add_mul] at hmul
      rw [show 0 + i * N.s + j = i * N.s + j by omega, World.ownsRow.cellAt ho (i * N.s + j) (by omega), vals_get N hy j hj]
      exact hu
    · injection e with e
      injection e with e _
      omega
theorem ACl.step {w wr w2 : World} {m : Md} {G : List Cl} {g n cap k b2 fcap : Nat} {fa : Option Addr} {x : Cl} (h : ACl w wr m (.slice (some ⟨g, 0, none⟩) n cap) G) (hB : Below wr.heap.size wr w2) (hx : G[k]? = some x) (hO : w2.ownsRow b2 56 2 (.slice fa x.fs.length fcap) x.fs.length (vals flN x.fs)) (hb2 : wr.heap.size ≤ b2) : ACl w (w2.setCell ⟨g, k * 3 + 2, none⟩ (.slice fa x.fs.length fcap)) m (.slice (some ⟨g, 0, none⟩) n cap) (G.set k { x with fo := fa, fc := fcap }) := by
  have hgb := (World.ownsRow.lt h.row.own g rfl)
  have hok : COk x ∧ RowAt flN wr x.fo x.fs := h.row.ok x (List.mem_of_getElem? hx)
  obtain ⟨hr, hnil, hcap, hge⟩ := own_row (N := flN) hO (fun y hy => by
    obtain ⟨i, hi, e⟩ := List.mem_iff_getElem.1 hy
    obtain ⟨_, _, _, _, h2⟩ := hok.2 i y (by rw [← e]; exact List.getElem?_eq_getElem hi)
    exact h2)
  have hy : clN.ok w2 { x with fo := fa, fc := fcap } := ⟨⟨hnil, hcap, hok.1.fit, hok.1.name, hok.1.par⟩, hr⟩
  have hne : clN.all (fun b => b ≠ g) { x with fo := fa, fc := fcap } := ⟨fun b off e hl => by have := hge b off e; omega, fun _ _ => trivial⟩
  obtain ⟨h1, h2⟩ := (h.row.below hB).put hx (j := 2) (by decide) (u := .slice fa x.fs.length fcap) rfl hy hne
  refine ⟨(h.box.below hB).other _ _ (by show w.heap.size ≠ g; omega), (h.out.below hB).other _ _ (by show w.heap.size + 1 ≠ g; omega), h1, ⟨by rw [List.length_set]; exact h.same.1, fun i a b ha hb => ?_⟩, (h.bel.trans (hB.mono h.bel.size)).setCell (p := ⟨g, k * 3 + 2, none⟩) (by show w.heap.size ≤ g; omega) _⟩
  rw [List.getElem?_set] at hb
  by_cases e : k = i
  · subst e
    rw [if_pos rfl] at hb
    split at hb
    · injection hb with hb
      subst hb
      have hc := h.same.2 k a x ha hx
      exact ⟨hc.nm, hc.par, hc.fs⟩
    · cases hb
  · rw [if_neg e] at hb
    exact h.same.2 i a b ha hb

theorem byt_ge {W : World} {base : Nat} {ao : Option Addr} {n c : Nat} {l : List UInt8} (h : OwnB W base (.slice ao n c) l) : BlkOf (fun b => base ≤ b) ao l.length := fun b off e hn => by
  rcases h.2 with ⟨h1, h2⟩ | ⟨g, cap, cur, hv, hb, _⟩
  · omega
  · injection hv with hv _
    rw [e] at hv
    injection hv with hv
    injection hv with hv _
    omega
theorem typ_ge {W : World} {base : Nat} {ao : Option Addr} {n c : Nat} {l : List Nat} (h : OwnP W base (.slice ao n c) l) : BlkOf (fun b => base ≤ b) ao l.length := fun b off e hn => by
  rcases h.2 with ⟨h1, h2⟩ | ⟨g, cap, cur, hv, hb, _⟩
  · omega
  · injection hv with hv _
    rw [e] at hv
    injection hv with hv
    injection hv with hv _
    omega
theorem AFn.step {w wr w2 : World} {m : Md} {ga : Option Addr} {gc : Nat} {G : List Cl} {F : List Fn} {g n cap k bP bB pcap bcap : Nat} {pa ba : Option Addr} {x : Fn} (h : AFn w wr m ga gc G (.slice (some ⟨g, 0, none⟩) n cap) F k) (hB : Below wr.heap.size wr w2) (hx : F[k]? = some x) (hP : OwnP w2 bP (.slice pa x.sg.ps.length pcap) x.sg.ps) (hbP : wr.heap.size ≤ bP) (hC : OwnB w2 bB (.slice ba x.cd.length bcap) x.cd) (hbB : wr.heap.size ≤ bB) : AFn w ((w2.setCell ⟨g, k * 5 + 1, none⟩ (.slice pa x.sg.ps.length pcap)).setCell ⟨g, k * 5 + 4, none⟩ (.slice ba x.cd.length bcap)) m ga gc G (.slice (some ⟨g, 0, none⟩) n cap) (F.set k { x with sg := { x.sg with po := pa, pc := pcap }, ca := ba, cc := bcap }) (k + 1) := by
  have hgb := (World.ownsRow.lt h.row.own g rfl)
  have hok : FnOk wr x := h.row.ok x (List.mem_of_getElem? hx)
  have hne0 : fnM.all (fun b => b ≠ g) x := h.row.ne g rfl x (List.mem_of_getElem? hx)
  obtain ⟨p1, p2⟩ := nil_of_P hP
  obtain ⟨b1, b2⟩ := nil_of_B hC
  have hok2 := hok.below hB
  obtain ⟨h1, hg1⟩ := (h.row.below hB).put hx (j := 1) (by decide) (y := { x with sg := { x.sg with po := pa, pc := pcap } }) (u := .slice pa x.sg.ps.length pcap) rfl ⟨⟨p1, p2, hok.sg.bts, hok.sg.fit, hok.sg.res⟩, hok2.code, hok.nil, hok.fit, hok.name, hok.loc⟩ ⟨(typ_ge hP).mono (fun b hb => by omega), hne0.2⟩
  have hk := (List.getElem?_eq_some_iff.1 hx).1
  have hx1 : (F.set k { x with sg := { x.sg with po := pa, pc := pcap } })[k]? = some { x with sg := { x.sg with po := pa, pc := pcap } } := by rw [List.getElem?_set_self hk]
  have p1' := pat_far p1 hg1 ((typ_ge hP).mono (fun b hb => by omega))
  have b1' := bat_far b1 hg1 ((byt_ge hC).mono (fun b hb => by omega))
  obtain ⟨h2, hg2⟩ := h1.put hx1 (j := 4) (by decide) (y := { x with sg := { x.sg with po := pa, pc := pcap }, ca := ba, cc := bcap }) (u := .slice ba x.cd.length bcap) rfl ⟨⟨p1', p2, hok.sg.bts, hok.sg.fit, hok.sg.res⟩, b1', b2, hok.fit, hok.name, hok.loc⟩ ⟨(typ_ge hP).mono (fun b hb => by omega), (byt_ge hC).mono (fun b hb => by omega)⟩
  rw [List.set_set] at h2
  have hg : w2.grownBy _ (some g) := grownBy_more hg1 hg2 (fun q e => .inr (by injection e with e; exact e.symm))
  have hbw : w.heap.size + 2 ≤ g := hgb.1
  refine ⟨((h.box.below hB).grown hg1 (fun e => by injection e with e; omega)).grown hg2 (fun e => by injection e with e; omega), ((h.out.below hB).grown hg1 (fun e => by injection e with e; omega)).grown hg2 (fun e => by injection e with e; omega), tab_of_row ((clN_row (h.tab.below hB)).far hg (h.tnf g rfl)), h.same, h.tnf, h2, ⟨by rw [List.length_set]; exact h.fns.1, fun i a b ha hb => ?_⟩, fun i a hi ha => ?_, ((h.bel.trans (hB.mono h.bel.size)).grown hg1 (by have := hB.size; have := h.bel.size; omega) (fun q e => by injection e with e; omega)).grown hg2 (by have := hg1.size; have := hB.size; have := h.bel.size; omega) (fun q e => by injection e with e; omega)⟩
  · rw [List.getElem?_set] at hb
    by_cases e : k = i
    · subst e
      rw [if_pos rfl] at hb
      rw [if_pos hk] at hb
      injection hb with hb
      subst hb
      have hc := h.fns.2 k a x ha hx
      exact ⟨hc.nm, ⟨hc.sg.ps, hc.sg.rt⟩, hc.lo, hc.cd⟩
    · rw [if_neg e] at hb
      exact h.fns.2 i a b ha hb
  · rw [List.getElem?_set] at ha
    by_cases e : k = i
    · subst e
      rw [if_pos rfl] at ha
      rw [if_pos hk] at ha
      injection ha with ha
      subst ha
      exact ⟨(own_pl hC).far hg ((byt_ge hC).mono (fun b hb => by omega)), (byt_ge hC).mono (fun b hb => by have := h.out.lt; omega)⟩
    · rw [if_neg e] at ha
      obtain ⟨q1, q2⟩ := h.pl i a (by omega) ha
      exact ⟨(q1.below hB).far hg (h.row.ne g rfl a (List.mem_of_getElem? ha)).2, q2⟩

set_option maxRecDepth 20000 in
set_option maxHeartbeats 8000000 in
theorem Alone_any (m : Md) (w : World) (h : MdOk w m) :
    Calls Tryd.prog 5 #[.agg #[.string m.nm, .slice m.ao m.T.length m.cap, .slice m.fo m.F.length m.fc, .slice m.co m.C.length m.cc]] w fun e w' => ∃ y : Md, e = .returned (.agg #[.string y.nm, .slice y.ao y.T.length y.cap, .slice y.fo y.F.length y.fc, .slice none 0 0, .slice none 0 0]) ∧ AloneR w w' m y := by
  have al1 := (Below.refl w.heap.size w).alloc (Nat.le_refl _) (.cells #[.string m.nm, .slice m.ao m.T.length m.cap, .slice m.fo m.F.length m.fc, .slice m.co m.C.length m.cc] 26)
  have al := al1.alloc (by simp) (.cells #[.string ⟨#[]⟩, .slice none 0 0, .slice none 0 0, .slice none 0 0, .slice none 0 0] 29)
  have HB := hide al
  have n1 := heap_alloc_new w (.cells #[.string m.nm, .slice m.ao m.T.length m.cap, .slice m.fo m.F.length m.fc, .slice m.co m.C.length m.cc] 26)
  have n2 := heap_alloc_new (w.alloc (.cells #[.string m.nm, .slice m.ao m.T.length m.cap, .slice m.fo m.F.length m.fc, .slice m.co m.C.length m.cc] 26)) (.cells #[.string ⟨#[]⟩, .slice none 0 0, .slice none 0 0, .slice none 0 0, .slice none 0 0] 29)
  rw [World.size_alloc] at n2
  have HC1 : Hid (Bx ((w.alloc (.cells #[.string m.nm, .slice m.ao m.T.length m.cap, .slice m.fo m.F.length m.fc, .slice m.co m.C.length m.cc] 26)).alloc (.cells #[.string ⟨#[]⟩, .slice none 0 0, .slice none 0 0, .slice none 0 0, .slice none 0 0] 29)) w.heap.size 26 #[.string m.nm, .slice m.ao m.T.length m.cap, .slice m.fo m.F.length m.fc, .slice m.co m.C.length m.cc]) := hide ((((Below.refl _ _).alloc (Nat.le_refl _) _).block w.heap.size (by simp)).trans n1)
  have HC2 : Hid (Bx ((w.alloc (.cells #[.string m.nm, .slice m.ao m.T.length m.cap, .slice m.fo m.F.length m.fc, .slice m.co m.C.length m.cc] 26)).alloc (.cells #[.string ⟨#[]⟩, .slice none 0 0, .slice none 0 0, .slice none 0 0, .slice none 0 0] 29)) (w.heap.size + 1) 29 #[.string ⟨#[]⟩, .slice none 0 0, .slice none 0 0, .slice none 0 0, .slice none 0 0]) := hide n2
  have hsz : ((w.alloc (.cells #[.string m.nm, .slice m.ao m.T.length m.cap, .slice m.fo m.F.length m.fc, .slice m.co m.C.length m.cc] 26)).alloc (.cells #[.string ⟨#[]⟩, .slice none 0 0, .slice none 0 0, .slice none 0 0, .slice none 0 0] 29)).heap.size = w.heap.size + 2 := by simp
  have H := hide h
  have hlT : m.T.length < 9223372036854775000 := by have := h.tz; omega
  have hlF : m.F.length < 9223372036854775000 := by have := h.fz; omega
  clear al1 al n1 n2 h
  go_enter Tryd.func5, Tryd.ntmps5
  go_upto_region 1 with fail
  generalize ((w.alloc (.cells #[.string m.nm, .slice m.ao m.T.length m.cap, .slice m.fo m.F.length m.fc, .slice m.co m.C.length m.cc] 26)).alloc (.cells #[.string ⟨#[]⟩, .slice none 0 0, .slice none 0 0, .slice none 0 0, .slice none 0 0] 29)) = W1 at HB HC1 HC2 hsz ⊢
  have k1 := (unhide HC1).c 3 rfl
  have f1 := (unhide HC1).f 3
  go_upto_region 2 with fail
  have HD1 : Hid (Bx (W1.setCell ⟨w.heap.size, 3, none⟩ (.slice none 0 0)) w.heap.size 26 #[.string m.nm, .slice m.ao m.T.length m.cap, .slice m.fo m.F.length m.fc, .slice none 0 0]) := hide ((unhide HC1).set 3 _ rfl)
  have HD2 := hide ((unhide HC2).other ⟨w.heap.size, 3, none⟩ (.slice none 0 0) (by simp))
  have HB2 := hide ((unhide HB).setCell (p := ⟨w.heap.size, 3, none⟩) (Nat.le_refl _) (.slice none 0 0))
  have hs2 : (W1.setCell ⟨w.heap.size, 3, none⟩ (.slice none 0 0)).heap.size = w.heap.size + 2 := by simpa [World.setCell] using hsz
  clear k1 f1 HC1 HC2 HB hsz
  generalize W1.setCell ⟨w.heap.size, 3, none⟩ (.slice none 0 0) = W2 at HD1 HD2 HB2 hs2 ⊢
  have HRT := hide (clN_row ((unhide H).tab.below (unhide HB2)))
  have k1 := (unhide HD1).c 1 rfl
  go_wp2_with fail
  refine (clone_clsL m.ao m.T.length m.cap (vals clN m.T) W2 (vs_of_row (unhide HRT)) (vals_length clN m.T) (fun e => ?_) (clN_one _) (by have := (unhide H).tz; omega)).mono ?_
  · cases hT : m.T with
    | nil => rfl
    | cons a l =>
      obtain ⟨b, off, e2, _⟩ := (unhide H).tab 0 a (by rw [hT]; rfl)
      rw [e] at e2
      cases e2
  rintro e W3 ⟨v1, rfl, hO, hB3⟩
  have HR3 := hide (rowIn_clone (unhide HRT) hO hB3)
  obtain ⟨ca1, cc1, rfl⟩ := (unhide HR3).slice
  have HE1 := hide ((unhide HD1).below hB3)
  have HE2 := hide ((unhide HD2).below hB3)
  have HB3 := hide ((unhide HB2).trans (hB3.mono (unhide HB2).size))
  have hs3 : w.heap.size + 2 ≤ W3.heap.size := by have := hB3.size; omega
  clear k1 hO hB3 HD1 HD2 HB2 HRT
  have k1 := (unhide HE1).c 1 rfl
  have f1 := (unhide HE1).f 1
  go_upto_region 3 with fail
  have hset := grownBy_set W3 w.heap.size 1 (.slice ca1 m.T.length cc1)
  have HA : Hid (ACl w (W3.setCell ⟨w.heap.size, 1, none⟩ (.slice ca1 m.T.length cc1)) m (.slice ca1 m.T.length cc1) m.T) := hide ⟨(unhide HE1).set 1 _ rfl, (unhide HE2).other _ _ (by simp), by
    have hR := unhide HR3
    rw [hs2] at hR
    exact ⟨rows_grownG hR.own hset (fun q e e2 => by have := (World.ownsRow.lt hR.own q e).1; injection e2 with e2; omega), fun y hy => by
      obtain ⟨i, hi, e⟩ := List.mem_iff_getElem.1 hy
      have h0 := clN_row (unhide H).tab i y (by rw [← e]; exact List.getElem?_eq_getElem hi)
      obtain ⟨_, _, _, _, h2⟩ := h0
      exact clN.below h2 ((unhide HB3).setCell (p := ⟨w.heap.size, 1, none⟩) (Nat.le_refl _) _), hR.ne⟩, ⟨rfl, fun i x y hx hy => by rw [hx] at hy; injection hy with hy; subst hy; exact ⟨rfl, rfl, rfl⟩⟩, (unhide HB3).setCell (p := ⟨w.heap.size, 1, none⟩) (Nat.le_refl _) _⟩
  clear k1 f1 hset HE1 HE2 HB3 HR3 hs2 hs3
  generalize W3.setCell ⟨w.heap.size, 1, none⟩ (.slice ca1 m.T.length cc1) = W4 at HA ⊢
  have k1 := (unhide HA).box.c 1 rfl
  go_wp2_with fail
  clear k1
  go_loopw [14] (fun i wr => ∃ (k : Nat) (G : List Cl), k ≤ m.T.length ∧ i = .int .i64 (k : Int) ∧ Hid (G.length = m.T.length) ∧ Hid (ACl w wr m (.slice ca1 m.T.length cc1) G)) (fun i _ => m.T.length - (intOf i).toNat)
  case atStart => exact ⟨0, m.T, by omega, rfl, hide rfl, HA⟩
  case round =>
    obtain ⟨k, G, hk, rfl, HL, HG⟩ := hrel
    by_cases hlt : k < m.T.length
    · have j1 : ((k : Nat) : Int) < ((m.T.length : Nat) : Int) := by omega
      have hx := List.getElem?_eq_getElem (show k < G.length by rw [unhide HL]; exact hlt)
      obtain ⟨g, cap, e, hgb, hgl⟩ := (unhide HG).row.at (by rw [unhide HL]; omega)
      injection e with e1 e3 e2
      subst e1 e2
      clear e3
      generalize G[k]'(by rw [unhide HL]; exact hlt) = x at hx
      have c2 := (unhide HG).row.cell hx (show 2 < clN.s by decide)
      have c2 : wr.cell? ⟨g, k * 3 + 2, none⟩ = some (.slice x.fo x.fs.length x.fc) := c2
      have hok : COk x ∧ RowAt flN wr x.fo x.fs := (unhide HG).row.ok x (List.mem_of_getElem? hx)
      have HOK := hide hok
      have HX := hide hx
      have f2 := (unhide HG).row.frz (k * 3 + 2)
      have a1 := (unhide HG).box.c 1 rfl
      clear hok hx
      go_upto_region 6 with fail
      have hgw : g < wr.heap.size := hgl
      have hw2 : w.heap.size < wr.heap.size := (unhide HG).box.lt
      go_region_law (first | (go_simp; go_at_call 13; refine (clone_fldL x.fo x.fs.length x.fc (vals flN x.fs) wr.drew (vs_of_row ((unhide HOK).2.below (belowD (Below.refl _ _) 1))) (vals_length flN x.fs) (fun e => by rw [((unhide HOK).1.nil e).1]; rfl) (flN_one _) (unhide HOK).1.fit).mono ?_; rintro e w2 ⟨v4, rfl, hO, hB2⟩; obtain ⟨fa, fcap, rfl⟩ := ownSlice hO; have hB3 : Below wr.heap.size wr w2 := (show Below wr.heap.size wr wr.drew from belowD (Below.refl _ _) 1).trans hB2; have q1 : w2.cell? ⟨w.heap.size, 1, none⟩ = some (.slice (some ⟨g, 0, none⟩) m.T.length cc1) := (hB3.cell (p := ⟨w.heap.size, 1, none⟩) hw2).trans a1; have q2 := (hB3.cell (p := ⟨g, k * 3 + 2, none⟩) hgw).trans c2; have q3 : w2.frozen? ⟨g, k * 3 + 2, none⟩ = false := ((unhide HG).row.below hB3).frz _; have HG2 := hide ((unhide HG).step hB3 (unhide HX) hO (Nat.le_refl _)); clear hO hB2 hB3))
      all_goals (
        go_wp2
        go_roundw
        case rel => exact ⟨k + 1, _, by omega, by go_num, hide (by rw [List.length_set]; exact unhide HL), HG2⟩
        case measure => simp [intOf]; omega)
    · have j1 : ¬ ((k : Nat) : Int) < ((m.T.length : Nat) : Int) := by omega
      have HRF := hide (fnM_row ((unhide H).fns.below (unhide HG).bel))
      have k2 := (unhide HG).box.c 2 rfl
      go_wp2_with fail
      refine (clone_fnsL m.fo m.F.length m.fc (vals fnM m.F) wr (vs_of_row (unhide HRF)) (vals_length fnM m.F) (fun e => ?_) (fnM_one _) (by have := (unhide H).fz; omega)).mono ?_
      · cases hT : m.F with
        | nil => rfl
        | cons a l =>
          obtain ⟨b, off, e2, _⟩ := (unhide H).fns 0 a (by rw [hT]; rfl)
          rw [e] at e2
          cases e2
      rintro e W5 ⟨v1, rfl, hO, hB5⟩
      have HR5 := hide (rowIn_clone (unhide HRF) hO hB5)
      obtain ⟨fa1, fc1, rfl⟩ := (unhide HR5).slice
      have HE1 := hide ((unhide HG).box.below hB5)
      have HE2 := hide ((unhide HG).out.below hB5)
      have HE3 := hide (((unhide HG).row.below hB5).row)
      have HTN : Hid (∀ g, (Value.slice fa1 m.F.length fc1).ownBlock = some g → RowAll clN (fun b => b ≠ g) ca1 G) := hide (fun g e => RowAll.mono (fun b hb => by have := (World.ownsRow.lt (unhide HR5).own g e).1; omega) (unhide HG).row.row.lt)
      have HSM := hide (unhide HG).same
      have hw2 : w.heap.size + 2 ≤ wr.heap.size := (unhide HG).out.lt
      have HB5 := hide ((unhide HG).bel.trans (hB5.mono (unhide HG).bel.size))
      clear k2 hO hB5 HG HRF
      have k2 := (unhide HE1).c 2 rfl
      have f2 := (unhide HE1).f 2
      go_upto_region 9 with fail
      have hset := grownBy_set W5 w.heap.size 2 (.slice fa1 m.F.length fc1)
      have HA2 : Hid (AFn w (W5.setCell ⟨w.heap.size, 2, none⟩ (.slice fa1 m.F.length fc1)) m ca1 cc1 G (.slice fa1 m.F.length fc1) m.F 0) := hide ⟨by rw [unhide HL]; exact (unhide HE1).set 2 _ rfl, (unhide HE2).other _ _ (by simp), TabAt.noNum (tab_of_row (unhide HE3)) hset (NoNum.of4 (unhide HE1)), unhide HSM, unhide HTN, by
        have hR := unhide HR5
        exact ⟨rowMono (rows_grownG hR.own hset (fun q e e2 => by have := (World.ownsRow.lt hR.own q e).1; injection e2 with e2; omega)) hw2, fun y hy => by
          obtain ⟨i, hi, e⟩ := List.mem_iff_getElem.1 hy
          obtain ⟨_, _, _, h2⟩ := (unhide H).fns i y (by rw [← e]; exact List.getElem?_eq_getElem hi)
          exact h2.ok.below ((unhide HB5).setCell (p := ⟨w.heap.size, 2, none⟩) (Nat.le_refl _) _), hR.ne⟩, ⟨rfl, fun i x y hx hy => by rw [hx] at hy; injection hy with hy; subst hy; exact ⟨rfl, ⟨rfl, rfl⟩, rfl, rfl⟩⟩, fun i x hi => absurd hi (Nat.not_lt_zero _), (unhide HB5).setCell (p := ⟨w.heap.size, 2, none⟩) (Nat.le_refl _) _⟩
      clear k2 f2 hset HE1 HE2 HE3 HTN HB5 HR5 HSM
      generalize W5.setCell ⟨w.heap.size, 2, none⟩ (.slice fa1 m.F.length fc1) = W6 at HA2 ⊢
      have k2 := (unhide HA2).box.c 2 rfl
      go_wp2_with fail
      clear k2 j1 hlt hk
      go_loopw [37] (fun i wr => ∃ (k : Nat) (F : List Fn), k ≤ m.F.length ∧ i = .int .i64 (k : Int) ∧ Hid (F.length = m.F.length) ∧ Hid (AFn w wr m ca1 cc1 G (.slice fa1 m.F.length fc1) F k)) (fun i _ => m.F.length - (intOf i).toNat)
      case atStart => exact ⟨0, m.F, by omega, rfl, hide rfl, HA2⟩
      case round =>
        obtain ⟨k, F, hk, rfl, HLF, HG⟩ := hrel
        by_cases hlt : k < m.F.length
        · have j1 : ((k : Nat) : Int) < ((m.F.length : Nat) : Int) := by omega
          have hx := List.getElem?_eq_getElem (show k < F.length by rw [unhide HLF]; exact hlt)
          obtain ⟨g, cap, e, hgb, hgl⟩ := (unhide HG).row.at (by rw [unhide HLF]; omega)
          injection e with e1 e3 e2
          subst e1 e2
          clear e3
          generalize F[k]'(by rw [unhide HLF]; exact hlt) = x at hx
          have c1 := (unhide HG).row.cell hx (show 1 < fnM.s by decide)
          have c1 : wr.cell? ⟨g, k * 5 + 1, none⟩ = some (.slice x.sg.po x.sg.ps.length x.sg.pc) := c1
          have c4 := (unhide HG).row.cell hx (show 4 < fnM.s by decide)
          have c4 : wr.cell? ⟨g, k * 5 + 4, none⟩ = some (.slice x.ca x.cd.length x.cc) := c4
          have hok : FnOk wr x := (unhide HG).row.ok x (List.mem_of_getElem? hx)
          have HOK := hide hok
          have HX := hide hx
          have a2 := (unhide HG).box.c 2 rfl
          clear hok hx
          go_upto_region 13 with fail
          have hgw : g < wr.heap.size := hgl
          have hw2 : w.heap.size < wr.heap.size := (unhide HG).box.lt
          have HD : Hid (Below wr.heap.size wr wr.drew) := hide (belowD (Below.refl _ _) 1)
          go_region_law (first | (go_simp; go_at_call 15; refine (cloneP_own x.sg.po x.sg.pc x.sg.ps wr.drew ((unhide HOK).sg.prm.below (unhide HD)) (unhide HOK).sg.nil (unhide HOK).sg.fit).mono ?_; rintro e w2 ⟨v4, rfl, hO, hB2⟩; obtain ⟨pa, pcap, rfl⟩ := ownSlice hO; have hD2 := (unhide HD).trans hB2; have q1 := (hD2.cell (p := ⟨w.heap.size, 2, none⟩) hw2).trans a2; have q2 := (hD2.cell (p := ⟨g, k * 5 + 1, none⟩) hgw).trans c1; have q3 := (hD2.cell (p := ⟨g, k * 5 + 4, none⟩) hgw).trans c4; have HD2 := hide hD2; have HO := hide hO; clear hD2 hO hB2) | (go_simp; go_at_call 16; refine (Clone_any x.ca x.cc x.cd w2 ((unhide HOK).code.below' (unhide HD2)) (unhide HOK).nil (by have := (unhide HOK).fit; omega)).mono ?_; rintro e w3 ⟨v5, rfl, hO5, hB3, _⟩; obtain ⟨ba, bcap, rfl, _⟩ := hO5.at; have hD3 := (unhide HD2).trans (hB3.mono (unhide HD2).size); have z2 := (hD3.cell (p := ⟨g, k * 5 + 1, none⟩) hgw).trans c1; have z3 := (hD3.cell (p := ⟨g, k * 5 + 4, none⟩) hgw).trans c4; have y2 : w3.frozen? ⟨g, k * 5 + 1, none⟩ = false := ((unhide HG).row.below hD3).frz _; have y3 : w3.frozen? ⟨g, k * 5 + 4, none⟩ = false := ((unhide HG).row.below hD3).frz _; have HG2 := hide ((unhide HG).step hD3 (unhide HX) (rowBelow (unhide HO) hB3) (Nat.le_refl _) hO5 (unhide HD2).size); clear hO5 hD3 hB3 q1 q2 q3))
          all_goals (
            go_wp2
            go_roundw
            case rel => exact ⟨k + 1, _, by omega, by go_num, hide (by rw [List.length_set]; exact unhide HLF), HG2⟩
            case measure => simp [intOf]; omega)
        · have j1 : ¬ ((k : Nat) : Int) < ((m.F.length : Nat) : Int) := by omega
          have ek : k = m.F.length := by omega
          have HY : Hid (AloneR w (wr.setRow (w.heap.size + 1) #[.string m.nm, .slice ca1 G.length cc1, .slice fa1 m.F.length fc1, .slice none 0 0, .slice none 0 0]) m ⟨m.nm, ca1, cc1, G, fa1, fc1, F, none, 0, []⟩) := hide (by
            have hG := unhide HG
            have hgw := grown_row (W := wr) (w.heap.size + 1) #[.string m.nm, .slice ca1 G.length cc1, .slice fa1 m.F.length fc1, .slice none 0 0, .slice none 0 0]
            have hnn : NoNum wr (w.heap.size + 1) := by
              intro o ik n e
              rw [cell_of_row _ _ _ _ _ _ hG.out] at e
              match o, e with
              | 0, e => simp at e
              | 1, e => simp at e
              | 2, e => simp at e
              | 3, e => simp at e
              | 4, e => simp at e
              | o + 5, e => simp at e
            have hfn := FnsAt.noNum (fnM_fns hG.row.row) hgw hnn
            refine ⟨rfl, TabAt.noNum hG.tab hgw hnn, hG.same, ⟨?_, fun y hy => ?_, ?_⟩, hG.fns, fun x hx => ?_, ⟨rfl, rfl, rfl⟩, below_setRow' hG.bel (by omega) _⟩
            · show World.ownsRow _ _ _ _ (.slice fa1 F.length fc1) _ _
              rw [unhide HLF]
              have := hG.row.own
              rw [unhide HLF] at this
              exact rowMono (rows_grownG this hgw (fun q e e2 => by have := (World.ownsRow.lt this q e).1; injection e2 with e2; omega)) (by omega)
            · obtain ⟨i, hi, e⟩ := List.mem_iff_getElem.1 hy
              obtain ⟨_, _, _, h2⟩ := hfn i y (by rw [← e]; exact List.getElem?_eq_getElem hi)
              exact h2.ok
            · intro g e
              have e' : (Value.slice fa1 F.length fc1).ownBlock = some g := e
              rw [unhide HLF] at e'
              exact hG.row.ne g e'
            · obtain ⟨i, hi, e⟩ := List.mem_iff_getElem.1 hx
              obtain ⟨q1, q2⟩ := hG.pl i x (by have := unhide HLF; have hi : i < F.length := hi; omega) (by rw [← e]; exact List.getElem?_eq_getElem hi)
              exact ⟨q1.far hgw (q2.mono (fun b hb => by omega)), q2.mono (fun b hb => by omega)⟩)
          go_wp2_with (first | (refine wpList_load_rowG (by kernel_rfl) 26 (.tmp 1) rfl w.heap.size rfl 26 #[.string m.nm, .slice ca1 G.length cc1, .slice fa1 m.F.length fc1, .slice none 0 0] (0, 0) _ (unhide HG).box Tryd.underlying26 rfl (by kernel_rfl) ?_) | (refine wpList_store_row rfl 29 (.tmp 2) (.tmp 64) rfl (w.heap.size + 1) #[.string m.nm, .slice ca1 G.length cc1, .slice fa1 m.F.length fc1, .slice none 0 0, .slice none 0 0] rfl rfl 29 #[.string ⟨#[]⟩, .slice none 0 0, .slice none 0 0, .slice none 0 0, .slice none 0 0] (unhide HG).out (by kernel_rfl) rfl (by simp [Value.oneCell']) ?_))
          refine bodyPost_ret (results_bx rfl _ _ (w.heap.size + 1) _ rfl (run_loadVar_row _ _ 29 29 _ (0, 0) _ (setRow_heap _ _ _ _ _ _ (unhide HG).out) Tryd.underlying29 rfl (by kernel_rfl))) rfl ⟨⟨m.nm, ca1, cc1, G, fa1, fc1, F, none, 0, []⟩, ?_, unhide HY⟩
          show _ = Ending.returned (.agg #[.string m.nm, .slice ca1 G.length cc1, .slice fa1 F.length fc1, .slice none 0 0, .slice none 0 0])
          rw [unhide HLF]
end Go.Proofs.YtgelbihdcfgjcaaDoor
