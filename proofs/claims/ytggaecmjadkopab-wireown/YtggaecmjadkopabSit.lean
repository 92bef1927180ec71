/-
  Where a shelf and a writer stand beside one another: what holds of both, and how it goes on. No Go in it, but for the contracts of fresh and full.
-/
import Derived.Test.YtggaecmjadkopabOwn
import Derived.Test.YtggaecmjadkopabWPut
namespace Go.Proofs.Ytggaecmjadkopab
open Go.RowKit

structure Sit (W w : World) (sp : Nat) (sv : Value) (its : List Value) (p : Nat) (v : Value) (l : List UInt8) : Prop where
  sh : Sh w sp sv its
  it : Its w its 0
  ap : Apart its
  wr : IsWriter w p v l
  wi : ∀ k, v.ownBlock = some k → ¬ InIts its k
  osp : W.heap.size ≤ sp
  osv : ∀ k, sv.ownBlock = some k → W.heap.size ≤ k
  oit : ∀ k, InIts its k → W.heap.size ≤ k
  op : W.heap.size ≤ p
  ov : ∀ k, v.ownBlock = some k → W.heap.size ≤ k
  bel : Below W.heap.size W w

theorem Sit.lt {W w : World} {sp p : Nat} {sv v : Value} {its : List Value} {l : List UInt8} (h : Sit W w sp sv its p v l) : ∀ k, InIts its k → k < w.heap.size := by
  rintro k ⟨u, hu, e⟩
  obtain ⟨j, hj, rfl⟩ := List.getElem_of_mem hu
  obtain ⟨m, ho, _⟩ := h.it j _ (List.getElem?_eq_getElem hj)
  exact ho.block_lt e
theorem Sit.vlt {W w : World} {sp p : Nat} {sv v : Value} {its : List Value} {l : List UInt8} (h : Sit W w sp sv its p v l) : ∀ k, v.ownBlock = some k → k < w.heap.size := fun _ e => h.wr.own.block_lt e
theorem Sit.nwp {W w : World} {sp p : Nat} {sv v : Value} {its : List Value} {l : List UInt8} (h : Sit W w sp sv its p v l) : sv.ownBlock ≠ some p ∧ p ≠ sp := by
  refine ⟨fun e => ?_, fun e => ?_⟩
  · obtain ⟨c, hc⟩ := rowType h.sh.row p e
    rw [h.wr.row] at hc
    simp at hc
  · have := h.wr.row
    rw [e, h.sh.box] at this
    simp at this
theorem OwnB.nwp {w : World} {p B : Nat} {v u : Value} {l m : List UInt8} (hw : IsWriter w p v l) (h : OwnB w B u m) : u.ownBlock ≠ some p := by
  intro e
  obtain ⟨c, hc⟩ := rowType h p e
  rw [hw.row] at hc
  simp at hc
theorem Sit.below {W w w' : World} {sp p : Nat} {sv v : Value} {its : List Value} {l : List UInt8} (h : Sit W w sp sv its p v l) (hb : Below w.heap.size w w') : Sit W w' sp sv its p v l :=
  ⟨h.sh.below hb, h.it.keep (Kept.of_below hb (fun _ => False)) (fun _ _ _ _ _ h => h), h.ap, h.wr.below hb, h.wi, h.osp, h.osv, h.oit, h.op, h.ov, h.bel.trans (hb.mono h.bel.size)⟩

/-- A list more on the shelf. -/
theorem Sit.push {W w w' : World} {sp p : Nat} {sv sv' v u : Value} {its : List Value} {l m : List UInt8} (h : Sit W w sp sv its p v l) (hk : Kept (fun k => k = sp ∨ sv.ownBlock = some k) w w') (hs : Sh w' sp sv' (its ++ [u]))
    (hf : ∀ k, sv'.ownBlock = some k → sv.ownBlock = some k ∨ w.heap.size ≤ k) (ho : OwnB w 0 u m) (hm : m.length ≤ 140737488351232) (hu : ∀ k, u.ownBlock = some k → ¬ InIts its k ∧ v.ownBlock ≠ some k ∧ W.heap.size ≤ k) : Sit W w' sp sv' (its ++ [u]) p v l := by
  have hb : ∀ {B : Nat} {u : Value} {m : List UInt8}, OwnB w B u m → OwnB w' B u m := fun ho => ho.keep hk (fun k hk' e => by
    rcases e with e | e
    · exact (h.sh.bytes ho).1 (by rw [hk', e])
    · exact (h.sh.bytes ho).2 k hk' e)
  have hin : ∀ k, InIts (its ++ [u]) k → InIts its k ∨ u.ownBlock = some k := by
    rintro k ⟨x, hx, e⟩
    rw [List.mem_append] at hx
    rcases hx with hx | hx
    · exact .inl ⟨x, hx, e⟩
    · simp at hx; subst hx; exact .inr e
  refine ⟨hs, ?_, ?_, ⟨?_, hb h.wr.own, h.wr.ne, h.wr.len⟩, ?_, h.osp, ?_, ?_, h.op, h.ov, hk.below h.bel h.bel.size ?_⟩
  · intro j x hx
    by_cases e : j < its.length
    · rw [List.getElem?_append_left e] at hx
      obtain ⟨l', h1, h2, _⟩ := h.it j x hx
      exact ⟨l', hb h1, h2, fun h => by omega⟩
    · rw [List.getElem?_append_right (by omega)] at hx
      have e2 : j - its.length = 0 := by
        have := (List.getElem?_eq_some_iff.1 hx).1
        simp at this
        omega
      rw [e2] at hx
      simp at hx
      subst hx
      exact ⟨m, hb ho, hm, fun h => by omega⟩
  · have hget : ∀ (j : Nat) x, (its ++ [u])[j]? = some x → its[j]? = some x ∨ (j = its.length ∧ x = u) := by
      intro j x hx
      by_cases e : j < its.length
      · rw [List.getElem?_append_left e] at hx; exact .inl hx
      · rw [List.getElem?_append_right (by omega)] at hx
        have e2 : j - its.length = 0 := by
          have := (List.getElem?_eq_some_iff.1 hx).1
          simp at this
          omega
        rw [e2] at hx
        simp at hx
        exact .inr ⟨by omega, hx.symm⟩
    intro i j a b ha hb' hne k hka hkb
    rcases hget i a ha with ha2 | ⟨ha2, ha3⟩
    · rcases hget j b hb' with hb2 | ⟨hb2, hb3⟩
      · exact h.ap i j a b ha2 hb2 hne k hka hkb
      · exact (hu k (hb3 ▸ hkb)).1 (mem_inits ha2 hka)
    · rcases hget j b hb' with hb2 | ⟨hb2, hb3⟩
      · exact (hu k (ha3 ▸ hka)).1 (mem_inits hb2 hkb)
      · omega
  · rw [hk.block p h.wr.pl (fun e => by
      rcases e with e | e
      · exact h.nwp.2 e
      · exact h.nwp.1 e)]
    exact h.wr.row
  · intro k hv hi
    rcases hin k hi with hi | hi
    · exact h.wi k hv hi
    · exact (hu k hi).2.1 hv
  · intro k hv
    rcases hf k hv with e | e
    · exact h.osv k e
    · have := h.bel.size; omega
  · intro k hi
    rcases hin k hi with hi | hi
    · exact h.oit k hi
    · exact (hu k hi).2.2
  · intro k e
    rcases e with e | e
    · rw [e]; exact h.osp
    · exact h.osv k e
/-- Other bytes stay meanwhile. -/
theorem Sit.pend {W w w' : World} {sp p : Nat} {sv v : Value} {its : List Value} {l : List UInt8} (h : Sit W w sp sv its p v l) (hk : Kept (fun k => k = sp ∨ sv.ownBlock = some k) w w') {B : Nat} {u : Value} {m : List UInt8} (ho : OwnB w B u m) : OwnB w' B u m :=
  ho.keep hk (fun k hk' e => by
    rcases e with e | e
    · exact (h.sh.bytes ho).1 (by rw [hk', e])
    · exact (h.sh.bytes ho).2 k hk' e)

/-- Bytes are put. -/
theorem Sit.put {W w w' : World} {sp p : Nat} {sv v v' : Value} {its : List Value} {l l' : List UInt8} (h : Sit W w sp sv its p v l) (hw : IsWriter w' p v' l') (hk : Kept (WT p v) w w') (hf : ∀ k, v'.ownBlock = some k → v.ownBlock = some k ∨ w.heap.size ≤ k) : Sit W w' sp sv its p v' l' := by
  refine ⟨h.sh.keep hk ?_ ?_, h.it.keep hk ?_, h.ap, hw, ?_, h.osp, h.osv, h.oit, h.op, ?_, hk.below h.bel h.bel.size ?_⟩
  · rintro (e | e)
    · exact h.nwp.2 e.symm
    · exact (h.sh.bytes h.wr.own).1 e
  · rintro k hk' (e | e)
    · exact h.nwp.1 (e ▸ hk')
    · exact (h.sh.bytes h.wr.own).2 k e hk'
  · rintro i x hx k hk' (e | e)
    · obtain ⟨m, ho, _⟩ := h.it i x hx
      exact OwnB.nwp h.wr ho (e ▸ hk')
    · exact h.wi k e (mem_inits hx hk')
  · intro k hv hi
    rcases hf k hv with e | e
    · exact h.wi k e hi
    · have := h.lt k hi; omega
  · intro k hv
    rcases hf k hv with e | e
    · exact h.ov k e
    · have := h.bel.size; omega
  · rintro k (e | e)
    · rw [e]; exact h.op
    · exact h.ov k e

theorem jE_le (l : List UInt8) : jE [] l = if 1048576 < l.length then 7 else 0 := by unfold jE; simp
theorem fresh_any (ao : Option Addr) (c : Nat) (l : List UInt8) (w : World) (hb : l.length ≤ 140737488355328) :
    Calls Try.prog 15 #[.slice ao l.length c] w fun e w' => e = .returned (.int .i64 (jE [] l)) ∧ w' = w := by
  have HE := hide (jE_le l)
  have HB := hide hb
  by_cases h : 1048576 < l.length
  · have h' : ((l.length : Nat) : Int) > 1048576 := by omega
    have HE2 : Hid (jE [] l = 7) := hide (by rw [unhide HE, if_pos h])
    clear hb h HE
    go_enter Try.func15, Try.ntmps15
    go_wp2
    go_ret
    exact ⟨ret_int (unhide HE2).symm, rfl⟩
  · have h' : ¬ ((l.length : Nat) : Int) > 1048576 := by omega
    have HE2 : Hid (jE [] l = 0) := hide (by rw [unhide HE, if_neg h])
    clear hb h HE
    go_enter Try.func15, Try.ntmps15
    go_wp2
    go_ret
    exact ⟨ret_int (unhide HE2).symm, rfl⟩
theorem full_any (l : List UInt8) (w : World) (hb : l.length ≤ 1048576) :
    Calls Try.prog 19 #[.int .i64 (l.length : Int)] w fun e w' => e = .returned (.int .i64 (wE l 1 1)) ∧ w' = w := by
  by_cases h : l.length = 1048576
  · have HE2 : Hid (wE l 1 1 = 7) := hide (by unfold wE loN hiN; rw [h]; decide)
    have h' : (((l.length : Nat) : Int) == 1048576) = true := beq_t (by omega)
    clear hb h
    go_enter Try.func19, Try.ntmps19
    go_wp2
    go_ret
    exact ⟨ret_int (unhide HE2).symm, rfl⟩
  · have HE2 : Hid (wE l 1 1 = 0) := hide (by
      unfold wE loN hiN
      rw [if_neg (by decide), if_neg (by omega)])
    have h' : (((l.length : Nat) : Int) == 1048576) = false := beq_f (by omega)
    clear hb h
    go_enter Try.func19, Try.ntmps19
    go_wp2
    go_ret
    exact ⟨ret_int (unhide HE2).symm, rfl⟩
theorem below_drewN (w : World) (n : Nat) : Below w.heap.size w (w.drewN n) := ⟨rfl, rfl, rfl, Nat.le_refl _, fun _ _ => rfl⟩
theorem OwnB.put {w w' : World} {p B : Nat} {v u : Value} {l m : List UInt8} (hw : IsWriter w p v l) (h : OwnB w B u m) (hk : Kept (WT p v) w w') (hn : ∀ k, u.ownBlock = some k → v.ownBlock ≠ some k) : OwnB w' B u m :=
  h.keep hk (fun k hk' e => by
    rcases e with e | e
    · exact OwnB.nwp hw h (e ▸ hk')
    · exact hn k hk' e)
end Go.Proofs.Ytggaecmjadkopab
