/-
  What a reader is in memory ('IsReader'), and the contracts of wire.Over and of a reader's calls: each answers what the bytes behind its place say, and goes on. Conditions: lengths fit.
-/
import Derived.Test.YtkiijdcpfbnacaaGreatDoorCopied
namespace Go.Proofs.YtkiijdcpfbnacaaGreatDoor
open Go.RowKit
set_option maxRecDepth 20000

/-- At block p a reader over the bytes l (they lie in block g), of which k were read. -/
structure IsReader (w : World) (p g cap : Nat) (l : List UInt8) (k : Nat) : Prop where
  row : w.heap[p]? = some (.cells #[.slice (some ⟨g, 0, none⟩) l.length cap, .int .i64 (k : Int), .bool true] 183 (0, 0))
  bytes : BAt w (some ⟨g, 0, none⟩) l
  gl : g < w.heap.size
  ne : p ≠ g
  le : k ≤ l.length
  cap_ : l.length ≤ cap
  fit : l.length ≤ 140737488355328

theorem IsReader.pl {w : World} {p g cap : Nat} {l : List UInt8} {k : Nat} (h : IsReader w p g cap l k) : p < w.heap.size := (Array.getElem?_eq_some_iff.1 h.row).1
theorem IsReader.c0 {w : World} {p g cap : Nat} {l : List UInt8} {k : Nat} (h : IsReader w p g cap l k) : w.cell? ⟨p, 0, none⟩ = some (.slice (some ⟨g, 0, none⟩) l.length cap) := by
  rw [cell_of_row _ _ _ _ _ _ h.row]; rfl
theorem IsReader.c1 {w : World} {p g cap : Nat} {l : List UInt8} {k : Nat} (h : IsReader w p g cap l k) : w.cell? ⟨p, 1, none⟩ = some (.int .i64 (k : Int)) := by
  rw [cell_of_row _ _ _ _ _ _ h.row]; rfl
theorem IsReader.c2 {w : World} {p g cap : Nat} {l : List UInt8} {k : Nat} (h : IsReader w p g cap l k) : w.cell? ⟨p, 2, none⟩ = some (.bool true) := by
  rw [cell_of_row _ _ _ _ _ _ h.row]; rfl
theorem IsReader.f1 {w : World} {p g cap : Nat} {l : List UInt8} {k : Nat} (h : IsReader w p g cap l k) : w.frozen? ⟨p, 1, none⟩ = false := by
  simp [World.frozen?, h.row]

theorem IsReader.drewN {w : World} {p g cap : Nat} {l : List UInt8} {k : Nat} (h : IsReader w p g cap l k) (n : Nat) : IsReader (w.drewN n) p g cap l k := ⟨h.row, h.bytes, h.gl, h.ne, h.le, h.cap_, h.fit⟩

theorem IsReader.kept {w w' : World} {p g cap : Nat} {l : List UInt8} {k : Nat} {row : Option Nat} (h : IsReader w p g cap l k) (hg : w.grownBy w' row) (h1 : some p ≠ row) (h2 : some g ≠ row) : IsReader w' p g cap l k := by
  refine ⟨(hg.block p h.pl h1).trans h.row, ?_, Nat.lt_of_lt_of_le h.gl hg.size, h.ne, h.le, h.cap_, h.fit⟩
  intro i hi
  obtain ⟨b, off, e, hc⟩ := h.bytes i hi
  injection e with e
  injection e with e1 e2
  subst e1 e2
  exact ⟨g, 0, rfl, hg.cell hc h2⟩
theorem grown_of_below {w w' : World} (h : Below w.heap.size w w') (row : Option Nat) : w.grownBy w' row := ⟨h.os, h.tape, h.output, h.size, fun k hk _ => h.block k hk⟩
theorem IsReader.below {w w' : World} {p g cap : Nat} {l : List UInt8} {k : Nat} (h : IsReader w p g cap l k) (hb : Below w.heap.size w w') : IsReader w' p g cap l k :=
  h.kept (grown_of_below hb none) (by simp) (by simp)

theorem grown_refl (w : World) (row : Option Nat) : w.grownBy w row := ⟨rfl, rfl, rfl, Nat.le_refl _, fun _ _ _ => rfl⟩
theorem grown_drewN (w : World) (n : Nat) (row : Option Nat) : w.grownBy (w.drewN n) row := ⟨rfl, rfl, rfl, Nat.le_refl _, fun _ _ _ => rfl⟩
theorem grown_setCell (w : World) (p : Addr) (u : Value) : w.grownBy (w.setCell p u) (some p.block) :=
  ⟨rfl, rfl, rfl, by simp [World.setCell], fun k _ hk => Below.heap_setCell _ _ _ _ (fun e => hk (by rw [e]))⟩
theorem grown_trans {a b c : World} {row : Option Nat} (h1 : a.grownBy b row) (h2 : b.grownBy c row) : a.grownBy c row :=
  ⟨h2.os.trans h1.os, h2.tape.trans h1.tape, h2.output.trans h1.output, Nat.le_trans h1.size h2.size, fun k hk hne => (h2.block k (Nat.lt_of_lt_of_le hk h1.size) hne).trans (h1.block k hk hne)⟩

/-- The reader goes on: its place is stored. -/
theorem IsReader.go {w : World} {p g cap : Nat} {l : List UInt8} {k m : Nat} (h : IsReader w p g cap l k) (hm : m ≤ l.length) (z : Int) (hz : z = (m : Int)) : IsReader (w.setCell ⟨p, 1, none⟩ (.int .i64 z)) p g cap l m := by
  refine ⟨?_, h.bytes.other _ _ ?_, ?_, h.ne, hm, h.cap_, h.fit⟩
  · subst hz
    rw [heap_setCell_same _ _ _ _ _ _ h.row]
    rfl
  · intro b off e _
    injection e with e
    injection e with e1
    subst e1
    exact fun e => h.ne e.symm
  · simp [World.setCell]; exact h.gl

theorem Over_any (ao : Option Addr) (c : Nat) (l : List UInt8) (w : World) (hl : BAt w ao l) (hb : l.length ≤ 140737488355328) :
    Calls Tryz.prog 51 #[.slice ao l.length c] w fun e w' => ∃ p g, e = .returned (.pointer (some ⟨p, 0, none⟩)) ∧ w.heap.size ≤ p ∧ w.heap.size ≤ g ∧ IsReader w' p g l.length l 0 ∧ Below w.heap.size w w' := by
  go_enter Tryz.func51, Tryz.ntmps51
  go_wp2_with fail
  refine (copied_any ao c l _ hl hb).mono ?_
  rintro e w1 ⟨rfl, hown, hb1⟩
  go_wp2
  go_ret
  refine ⟨w1.heap.size, w.heap.size, rfl, hb1.size, Nat.le_refl _, ?_, hb1.alloc hb1.size _⟩
  rcases hown.shape with ⟨h, _⟩ | ⟨g, cap, hv, h1, h2, h3, h4, h5⟩
  · cases h
  · injection hv with hv hv2 hv3
    injection hv with hv
    injection hv with hv
    subst hv
    refine ⟨heap_alloc_new w1 _, h5.below' ((Below.refl _ w1).alloc (Nat.le_refl _) _), by simp; omega, by omega, Nat.zero_le _, Nat.le_refl _, hb⟩

theorem isMade_yes {w : World} {p g cap : Nat} {l : List UInt8} {k : Nat} (h : IsReader w p g cap l k) :
    Calls Tryz.prog 92 #[.pointer (some ⟨p, 0, none⟩)] w fun e w' => e = .returned (.bool true) ∧ w' = w := by
  have c2 := h.c2
  go_enter Tryz.func92, Tryz.ntmps92
  go_wp2
  go_ret
  exact ⟨rfl, rfl⟩

theorem At_any {w : World} {p g cap : Nat} {l : List UInt8} {k : Nat} (h : IsReader w p g cap l k) :
    Calls Tryz.prog 55 #[.pointer (some ⟨p, 0, none⟩)] w fun e w' => e = .returned (.int .i64 (k : Int)) ∧ w' = w := by
  have c1 := h.c1
  go_enter Tryz.func55, Tryz.ntmps55
  go_wp2_with (go_at_call 92; refine (isMade_yes h).mono ?_; rintro e w' ⟨rfl, rfl⟩)
  go_ret
  exact ⟨rfl, rfl⟩

theorem Left_any {w : World} {p g cap : Nat} {l : List UInt8} {k : Nat} (h : IsReader w p g cap l k) :
    Calls Tryz.prog 68 #[.pointer (some ⟨p, 0, none⟩)] w fun e w' => e = .returned (.int .i64 ((l.length - k : Nat) : Int)) ∧ ∃ n, w' = w.drewN n := by
  have c0 := h.c0
  have c1 := h.c1
  have hle := h.le
  have hfit := h.fit
  go_enter Tryz.func68, Tryz.ntmps68
  go_wp2_with (go_at_call 92; refine (isMade_yes h).mono ?_; rintro e w' ⟨rfl, rfl⟩)
  go_quiet (fail)
  go_wp2
  go_ret
  exact ⟨ret_int (by omega), _, rfl⟩

theorem End_any {w : World} {p g cap : Nat} {l : List UInt8} {k : Nat} (h : IsReader w p g cap l k) :
    Calls Tryz.prog 54 #[.pointer (some ⟨p, 0, none⟩)] w fun e w' => e = .returned (.int .i64 (if k < l.length then 3 else 0)) ∧ ∃ n, w' = w.drewN n := by
  have hle := h.le
  have hfit := h.fit
  by_cases hk : k < l.length
  · rw [if_pos hk]
    have hp : (0 : Int) < ((l.length - k : Nat) : Int) := by omega
    go_enter Tryz.func54, Tryz.ntmps54
    go_wp2_with (first | (go_at_call 92; refine (isMade_yes h).mono ?_; rintro e w' ⟨rfl, rfl⟩) | (go_at_call 68; refine (Left_any h).mono ?_; rintro e w' ⟨rfl, n, rfl⟩))
    go_ret
    exact ⟨rfl, _, rfl⟩
  · rw [if_neg hk]
    have hp : ¬ (0 : Int) < ((l.length - k : Nat) : Int) := by omega
    go_enter Tryz.func54, Tryz.ntmps54
    go_wp2_with (first | (go_at_call 92; refine (isMade_yes h).mono ?_; rintro e w' ⟨rfl, rfl⟩) | (go_at_call 68; refine (Left_any h).mono ?_; rintro e w' ⟨rfl, n, rfl⟩))
    go_ret
    exact ⟨rfl, _, rfl⟩
end Go.Proofs.YtkiijdcpfbnacaaGreatDoor
