/-
  Texts of contracts and plain lemmas, one behind another; each says at its head what it holds.
-/
import Derived.Test.YtibgfdjopikafaaGreatDoorMem
import Derived.Laws.CopyOwn
import Derived.Laws.AppendOwnNone
import Derived.Test.YtibgfdjopikafaaGreatDoorWn
import Derived.Laws.IdiomStrings
import Derived.Deep.AppendSrc
/-
  The contract of wire.copied: a row of its own with the same bytes, never nil. Conditions: the length fits.
-/
namespace Go.Proofs.YtibgfdjopikafaaGreatDoor
open Go.RowKit
set_option maxRecDepth 20000

theorem size8 : (Tryz.prog.info? 5).map (·.size) = some 1 := by kernel_rfl

theorem splice_all {α : Type} (L cs : List α) (h : L.length = cs.length) : splice L 0 cs = cs := by
  unfold splice
  rw [List.take_zero, List.nil_append, List.drop_eq_nil_of_le (by omega), List.append_nil]

set_option maxHeartbeats 400000 in
theorem copied_any (ao : Option Addr) (c : Nat) (l : List UInt8) (w : World) (hl : BAt w ao l) (hb : l.length ≤ 140737488355328) :
    Calls Tryz.prog 57 #[.slice ao l.length c] w fun e w' => e = .returned (.slice (some ⟨w.heap.size, 0, none⟩) l.length l.length) ∧
      OwnB w' w.heap.size (.slice (some ⟨w.heap.size, 0, none⟩) l.length l.length) l ∧ Below w.heap.size w w' := by
  obtain ⟨i0, hi, hz0, hz1, hz2⟩ := info_parts info8
  go_enter Tryz.func57, Tryz.ntmps57
  go_wp2_with (refine wpList_make_full _ rfl _ _ 28 rfl w.heap.size 5 i0 (.int .u8 0) 1 Tryz.underlying28 hi hz0 hz1 .i64 .i64 _ _ l.length rfl rfl rfl rfl (by rw [hz2]; omega) (by unfold maxLen; omega) (Nat.le_refl _) ?_)
  intro w1 hown1 hgrow1
  have hbel1 : Below w.heap.size w w1 := below_grown hgrow1 (Nat.le_refl _) (fun k e => by cases e)
  have hrow : ∃ cur : Array Value, w1.heap[w.heap.size]? = some (.cells cur 5 (0, 0)) ∧ cur.size = l.length := by
    rcases hown1.2 with ⟨h, _⟩ | ⟨g, cap, cur, hv, _, hh, _, _, hs, _⟩
    · cases h
    · injection hv with hv hv2 hv3
      injection hv with hv
      injection hv with hv
      subst hv hv3
      exact ⟨cur, hh, by omega⟩
  obtain ⟨cur, hcur, hcs⟩ := hrow
  have hcl : cur.toList.length = l.length := by simpa using hcs
  have hl1 : BAt w1 ao l := hl.below' hbel1
  have HC : Hid (w1.heap[w.heap.size]? = some (.cells cur.toList.toArray 5 (0, 0))) := hide (by simpa using hcur)
  clear hown1 hgrow1 hcur
  go_wp2_with (refine wpList_copy_splice rfl _ _ 28 28 rfl 5 Tryz.underlying28 size8 (some ⟨w.heap.size, 0, none⟩) ao l.length l.length l.length c rfl rfl w.heap.size 0 cur.toList 5 (unhide HC) (bvals l) ?d1 ?d2 ?d3 (bvals_one l) w.heap.size w hbel1 (Nat.le_refl _) ?_)
  case d1 => rw [bvals_length]; exact (Nat.min_self _).symm
  case d2 =>
    intro hpos
    rw [bvals_length] at hpos
    obtain ⟨b, off, rfl, hc⟩ := hl1.head hpos
    refine ⟨_, rfl, fun j v hj => ?_⟩
    have hjl : j < l.length := by
      have := (List.getElem?_eq_some_iff.1 hj).1
      rw [bvals_length] at this; exact this
    rw [bvals_get hjl] at hj
    injection hj with hj
    subst hj
    rw [Addr.add_lit]
    exact hc j hjl
  case d3 => rw [bvals_length]; omega
  · intro w2 H2 hbel2
    rw [splice_all _ _ (by rw [hcl, bvals_length])] at H2
    clear HC hl1
    have HO : Hid (OwnB w2 w.heap.size (.slice (some ⟨w.heap.size, 0, none⟩) l.length l.length) l) := hide ⟨by rw [bvals_length]; omega, .inr ⟨w.heap.size, l.length, _, rfl, Nat.le_refl _, unhide H2, Nat.le_refl _, by unfold maxLen; omega, by simp [bvals_length], by rw [List.take_of_length_le (by simp [bvals_length])]⟩⟩
    clear H2
    go_wp2
    go_ret
    exact ⟨rfl, unhide HO, hbel2⟩
end Go.Proofs.YtibgfdjopikafaaGreatDoor

/-
  What a reader is in memory ('IsReader'), and the contracts of wire.Over and of a reader's calls: each answers what the bytes behind its place say, and goes on. Conditions: lengths fit.
-/
namespace Go.Proofs.YtibgfdjopikafaaGreatDoor
open Go.RowKit
set_option maxRecDepth 20000

/-- At block p a reader over the bytes l (they lie in block g), of which k were read. -/
structure IsReader (w : World) (p g cap : Nat) (l : List UInt8) (k : Nat) : Prop where
  row : w.heap[p]? = some (.cells #[.slice (some ⟨g, 0, none⟩) l.length cap, .int .i64 (k : Int), .bool true] 147 (0, 0))
  bytes : BAt w (some ⟨g, 0, none⟩) l
  gl : g < w.heap.size
  ne : p ≠ g
  le : k ≤ l.length
  cap_ : l.length ≤ cap
  fit : l.length ≤ 140737488355328

theorem IsReader.pl {w : World} {p g cap : Nat} {l : List UInt8} {k : Nat} (h : IsReader w p g cap l k) : p < w.heap.size := (Array.getElem?_eq_some_iff.1 h.row).1
theorem IsReader.c0 {w : World} {p g cap : Nat} {l : List UInt8} {k : Nat} (h : IsReader w p g cap l k) : w.cell? ⟨p, 0, none⟩ = some (.slice (some ⟨g, 0, none⟩) l.length cap) := by
  rw [cell_of_row _ _ _ _ _ _ h.row]; rfl
theorem IsReader.c1 {w : World} {p g cap : Nat} {l : List UInt8} {k : Nat} (h : IsReader w p g cap l k) : w.cell? ⟨p, 1, none⟩ = some (.int .i64 (k : Int)) := by
  rw [cell_of_row _ _ _ _ _ _ h.row]; rfl
theorem IsReader.c2 {w : World} {p g cap : Nat} {l : List UInt8} {k : Nat} (h : IsReader w p g cap l k) : w.cell? ⟨p, 2, none⟩ = some (.bool true) := by
  rw [cell_of_row _ _ _ _ _ _ h.row]; rfl
theorem IsReader.f1 {w : World} {p g cap : Nat} {l : List UInt8} {k : Nat} (h : IsReader w p g cap l k) : w.frozen? ⟨p, 1, none⟩ = false := by
  simp [World.frozen?, h.row]

theorem IsReader.drewN {w : World} {p g cap : Nat} {l : List UInt8} {k : Nat} (h : IsReader w p g cap l k) (n : Nat) : IsReader (w.drewN n) p g cap l k := ⟨h.row, h.bytes, h.gl, h.ne, h.le, h.cap_, h.fit⟩

theorem IsReader.kept {w w' : World} {p g cap : Nat} {l : List UInt8} {k : Nat} {row : Option Nat} (h : IsReader w p g cap l k) (hg : w.grownBy w' row) (h1 : some p ≠ row) (h2 : some g ≠ row) : IsReader w' p g cap l k := by
  refine ⟨(hg.block p h.pl h1).trans h.row, ?_, Nat.lt_of_lt_of_le h.gl hg.size, h.ne, h.le, h.cap_, h.fit⟩
  intro i hi
  obtain ⟨b, off, e, hc⟩ := h.bytes i hi
  injection e with e
  injection e with e1 e2
  subst e1 e2
  exact ⟨g, 0, rfl, hg.cell hc h2⟩
theorem grown_of_below {w w' : World} (h : Below w.heap.size w w') (row : Option Nat) : w.grownBy w' row := ⟨h.os, h.tape, h.output, h.size, fun k hk _ => h.block k hk⟩
theorem IsReader.below {w w' : World} {p g cap : Nat} {l : List UInt8} {k : Nat} (h : IsReader w p g cap l k) (hb : Below w.heap.size w w') : IsReader w' p g cap l k :=
  h.kept (grown_of_below hb none) (by simp) (by simp)

theorem grown_refl (w : World) (row : Option Nat) : w.grownBy w row := ⟨rfl, rfl, rfl, Nat.le_refl _, fun _ _ _ => rfl⟩
theorem grown_drewN (w : World) (n : Nat) (row : Option Nat) : w.grownBy (w.drewN n) row := ⟨rfl, rfl, rfl, Nat.le_refl _, fun _ _ _ => rfl⟩
theorem grown_setCell (w : World) (p : Addr) (u : Value) : w.grownBy (w.setCell p u) (some p.block) :=
  ⟨rfl, rfl, rfl, by simp [World.setCell], fun k _ hk => Below.heap_setCell _ _ _ _ (fun e => hk (by rw [e]))⟩
theorem grown_trans {a b c : World} {row : Option Nat} (h1 : a.grownBy b row) (h2 : b.grownBy c row) : a.grownBy c row :=
  ⟨h2.os.trans h1.os, h2.tape.trans h1.tape, h2.output.trans h1.output, Nat.le_trans h1.size h2.size, fun k hk hne => (h2.block k (Nat.lt_of_lt_of_le hk h1.size) hne).trans (h1.block k hk hne)⟩

/-- The reader goes on: its place is stored. -/
theorem IsReader.go {w : World} {p g cap : Nat} {l : List UInt8} {k m : Nat} (h : IsReader w p g cap l k) (hm : m ≤ l.length) (z : Int) (hz : z = (m : Int)) : IsReader (w.setCell ⟨p, 1, none⟩ (.int .i64 z)) p g cap l m := by
  refine ⟨?_, h.bytes.other _ _ ?_, ?_, h.ne, hm, h.cap_, h.fit⟩
  · subst hz
    rw [heap_setCell_same _ _ _ _ _ _ h.row]
    rfl
  · intro b off e _
    injection e with e
    injection e with e1
    subst e1
    exact fun e => h.ne e.symm
  · simp [World.setCell]; exact h.gl

theorem Over_any (ao : Option Addr) (c : Nat) (l : List UInt8) (w : World) (hl : BAt w ao l) (hb : l.length ≤ 140737488355328) :
    Calls Tryz.prog 69 #[.slice ao l.length c] w fun e w' => ∃ p g, e = .returned (.pointer (some ⟨p, 0, none⟩)) ∧ w.heap.size ≤ p ∧ w.heap.size ≤ g ∧ IsReader w' p g l.length l 0 ∧ Below w.heap.size w w' := by
  go_enter Tryz.func69, Tryz.ntmps69
  go_wp2_with fail
  refine (copied_any ao c l _ hl hb).mono ?_
  rintro e w1 ⟨rfl, hown, hb1⟩
  go_wp2
  go_ret
  refine ⟨w1.heap.size, w.heap.size, rfl, hb1.size, Nat.le_refl _, ?_, hb1.alloc hb1.size _⟩
  rcases hown.shape with ⟨h, _⟩ | ⟨g, cap, hv, h1, h2, h3, h4, h5⟩
  · cases h
  · injection hv with hv hv2 hv3
    injection hv with hv
    injection hv with hv
    subst hv
    refine ⟨heap_alloc_new w1 _, h5.below' ((Below.refl _ w1).alloc (Nat.le_refl _) _), by simp; omega, by omega, Nat.zero_le _, Nat.le_refl _, hb⟩

theorem isMade_yes {w : World} {p g cap : Nat} {l : List UInt8} {k : Nat} (h : IsReader w p g cap l k) :
    Calls Tryz.prog 109 #[.pointer (some ⟨p, 0, none⟩)] w fun e w' => e = .returned (.bool true) ∧ w' = w := by
  have c2 := h.c2
  go_enter Tryz.func109, Tryz.ntmps109
  go_wp2
  go_ret
  exact ⟨rfl, rfl⟩

theorem At_any {w : World} {p g cap : Nat} {l : List UInt8} {k : Nat} (h : IsReader w p g cap l k) :
    Calls Tryz.prog 73 #[.pointer (some ⟨p, 0, none⟩)] w fun e w' => e = .returned (.int .i64 (k : Int)) ∧ w' = w := by
  have c1 := h.c1
  go_enter Tryz.func73, Tryz.ntmps73
  go_wp2_with (go_at_call 109; refine (isMade_yes h).mono ?_; rintro e w' ⟨rfl, rfl⟩)
  go_ret
  exact ⟨rfl, rfl⟩

theorem Left_any {w : World} {p g cap : Nat} {l : List UInt8} {k : Nat} (h : IsReader w p g cap l k) :
    Calls Tryz.prog 110 #[.pointer (some ⟨p, 0, none⟩)] w fun e w' => e = .returned (.int .i64 ((l.length - k : Nat) : Int)) ∧ ∃ n, w' = w.drewN n := by
  have c0 := h.c0
  have c1 := h.c1
  have hle := h.le
  have hfit := h.fit
  go_enter Tryz.func110, Tryz.ntmps110
  go_wp2_with (go_at_call 109; refine (isMade_yes h).mono ?_; rintro e w' ⟨rfl, rfl⟩)
  go_quiet (fail)
  go_wp2
  go_ret
  exact ⟨ret_int (by omega), _, rfl⟩

theorem End_any {w : World} {p g cap : Nat} {l : List UInt8} {k : Nat} (h : IsReader w p g cap l k) :
    Calls Tryz.prog 72 #[.pointer (some ⟨p, 0, none⟩)] w fun e w' => e = .returned (.int .i64 (if k < l.length then 3 else 0)) ∧ ∃ n, w' = w.drewN n := by
  have hle := h.le
  have hfit := h.fit
  by_cases hk : k < l.length
  · rw [if_pos hk]
    have hp : (0 : Int) < ((l.length - k : Nat) : Int) := by omega
    go_enter Tryz.func72, Tryz.ntmps72
    go_wp2_with (first | (go_at_call 109; refine (isMade_yes h).mono ?_; rintro e w' ⟨rfl, rfl⟩) | (go_at_call 110; refine (Left_any h).mono ?_; rintro e w' ⟨rfl, n, rfl⟩))
    go_ret
    exact ⟨rfl, _, rfl⟩
  · rw [if_neg hk]
    have hp : ¬ (0 : Int) < ((l.length - k : Nat) : Int) := by omega
    go_enter Tryz.func72, Tryz.ntmps72
    go_wp2_with (first | (go_at_call 109; refine (isMade_yes h).mono ?_; rintro e w' ⟨rfl, rfl⟩) | (go_at_call 110; refine (Left_any h).mono ?_; rintro e w' ⟨rfl, n, rfl⟩))
    go_ret
    exact ⟨rfl, _, rfl⟩
end Go.Proofs.YtibgfdjopikafaaGreatDoor

/-
  Contracts of a reader's next and number: the next n bytes of it, or the error that the document names. Conditions: lengths fit.
-/
namespace Go.Proofs.YtibgfdjopikafaaGreatDoor
open Go.RowKit
set_option maxRecDepth 20000

theorem BAt.sub {w : World} {g : Nat} {l : List UInt8} (h : BAt w (some ⟨g, 0, none⟩) l) (k n : Nat) : BAt w (some ⟨g, k, none⟩) ((l.drop k).take n) := by
  intro i hi
  have hi' : i < n ∧ k + i < l.length := by simp at hi; omega
  obtain ⟨b, off, e, hc⟩ := h (k + i) hi'.2
  injection e with e
  injection e with e1 e2
  subst e1 e2
  refine ⟨g, k, rfl, ?_⟩
  rw [Nat.zero_add] at hc
  rw [hc]
  unfold at8
  rw [List.getD_eq_getElem?_getD, List.getD_eq_getElem?_getD, List.getElem?_take_of_lt hi'.1, List.getElem?_drop]

theorem ret_next {ao : Option Addr} {m n c : Nat} (h : m = n) : Ending.returned (.tuple #[.slice ao m c, .int .i64 0]) = .returned (.tuple #[.slice ao n c, .int .i64 0]) := by rw [h]

theorem next_arg {w : World} {p g cap : Nat} {l : List UInt8} {k : Nat} (h : IsReader w p g cap l k) (n : Int) (hn : n < 0) :
    Calls Tryz.prog 127 #[.pointer (some ⟨p, 0, none⟩), .int .i64 n] w fun e w' => e = .returned (.tuple #[.slice none 0 0, .int .i64 1]) ∧ w' = w := by
  go_enter Tryz.func127, Tryz.ntmps127
  go_wp2_with (go_at_call 109; refine (isMade_yes h).mono ?_; rintro e w' ⟨rfl, rfl⟩)
  go_ret2
  exact ⟨rfl, rfl⟩

theorem next_short {w : World} {p g cap : Nat} {l : List UInt8} {k : Nat} (h : IsReader w p g cap l k) (n : Int) (hn : ((l.length - k : Nat) : Int) < n) :
    Calls Tryz.prog 127 #[.pointer (some ⟨p, 0, none⟩), .int .i64 n] w fun e w' => e = .returned (.tuple #[.slice none 0 0, .int .i64 2]) ∧ ∃ j, w' = w.drewN j := by
  have hn0 : ¬ n < 0 := by omega
  go_enter Tryz.func127, Tryz.ntmps127
  go_wp2_with (first | (go_at_call 109; refine (isMade_yes h).mono ?_; rintro e w' ⟨rfl, rfl⟩) | (go_at_call 110; refine (Left_any h).mono ?_; rintro e w' ⟨rfl, j, rfl⟩))
  go_ret2
  exact ⟨rfl, _, rfl⟩

theorem next_ok {w : World} {p g cap : Nat} {l : List UInt8} {k : Nat} (h : IsReader w p g cap l k) (n : Nat) (hn : n ≤ l.length - k) :
    Calls Tryz.prog 127 #[.pointer (some ⟨p, 0, none⟩), .int .i64 (n : Int)] w fun e w' => ∃ ao c, e = .returned (.tuple #[.slice ao n c, .int .i64 0]) ∧
      BAt w' ao ((l.drop k).take n) ∧ IsReader w' p g cap l (k + n) ∧ w.grownBy w' (some p) := by
  have hle := h.le
  have hfit := h.fit
  have hcap := h.cap_
  have hn0 : ¬ (n : Int) < 0 := by omega
  have hn1 : ¬ ((l.length - k : Nat) : Int) < (n : Int) := by omega
  have c0 := h.c0
  have c1 := h.c1
  have f1 := h.f1
  go_enter Tryz.func127, Tryz.ntmps127
  go_wp2_with (first | (go_at_call 109; refine (isMade_yes h).mono ?_; rintro e w' ⟨rfl, rfl⟩) | (go_at_call 110; refine (Left_any h).mono ?_; rintro e w' ⟨rfl, j, rfl⟩))
  have hR := (h.drewN j).go (m := k + n) (by omega) ((k : Int) + (n : Int)) (by omega)
  have hG : World.grownBy w' (World.setCell (World.drewN w' j) ⟨p, 1, none⟩ (.int .i64 ((k : Int) + (n : Int)))) (some p) := grown_trans (grown_drewN _ j _) (grown_setCell _ ⟨p, 1, none⟩ (.int .i64 ((k : Int) + (n : Int))))
  generalize World.setCell (World.drewN w' j) ⟨p, 1, none⟩ (.int .i64 ((k : Int) + (n : Int))) = W at hR hG ⊢
  have d0 := hR.c0
  have d1 := hR.c1
  rw [show (((k + n : Nat) : Int)) = (k : Int) + (n : Int) from by omega] at d1
  have b1 : (k : Int) ≤ (k : Int) + (n : Int) := by omega
  have b2 : (k : Int) + (n : Int) ≤ (cap : Int) := by omega
  clear c0 c1 f1 h
  have HR := hide hR
  have HG := hide hG
  clear hR hG
  by_cases hck : cap = k
  · have hn' : n = 0 := by omega
    have HL : Hid ((l.drop k).take n = []) := hide (by rw [hn']; rfl)
    clear hn'
    have hle2 : k ≤ cap := by omega
    go_quiet (fail)
    go_wp2
    all_goals go_ret2
    all_goals refine ⟨some ⟨g, 0, none⟩, 0, ret_next (by omega), ?_, (unhide HR).drewN _, grown_trans (unhide HG) (grown_drewN _ _ _)⟩
    all_goals (rw [unhide HL]; exact BAt.nil _ _)
  · have hck' : k < cap := by omega
    go_quiet (fail)
    go_wp2
    all_goals go_ret2
    all_goals refine ⟨some ⟨g, k, none⟩, cap - k, ret_next (by omega), ?_, (unhide HR).drewN _, grown_trans (unhide HG) (grown_drewN _ _ _)⟩
    all_goals exact BAt.drewN ((unhide HR).bytes.sub k n) _

/-- The number of some bytes, high byte first. -/
def beN (l : List UInt8) : Nat := l.foldl (fun a x => a * 256 + x.toNat) 0
theorem beN_snoc (l : List UInt8) (x : UInt8) : beN (l ++ [x]) = beN l * 256 + x.toNat := by simp [beN]
theorem beN_take (l : List UInt8) (k : Nat) (h : k < l.length) : beN (l.take (k + 1)) = beN (l.take k) * 256 + (l.getD k 0).toNat := by
  rw [List.take_succ_eq_append_getElem h, beN_snoc, List.getD_eq_getElem?_getD, List.getElem?_eq_getElem h]; rfl
theorem beN_lt (l : List UInt8) : beN l < 256 ^ l.length := by
  suffices ∀ n, n ≤ l.length → beN (l.take n) < 256 ^ n from by simpa using this l.length (Nat.le_refl _)
  intro n
  induction n with
  | zero => intro _; simp [beN]
  | succ n ih =>
    intro h
    rw [beN_take l n (by omega)]
    have h1 := ih (by omega)
    have h2 := (l.getD n 0).toNat_lt
    rw [Nat.pow_succ]
    omega

theorem bits_o32 (a b : Nat) (ha : a < 4294967296) (hb : b < 4294967296) : bits .or .u32 (a : Int) (b : Int) = ((a ||| b : Nat) : Int) := by
  have hx : a ||| b < 2 ^ 32 := Nat.or_lt_two_pow (by omega) (by omega)
  have h1 : (BitVec.ofInt 32 (a : Int)).toNat = a := by
    rw [BitVec.ofInt_natCast, BitVec.toNat_ofNat]; exact Nat.mod_eq_of_lt (by omega)
  have h2 : (BitVec.ofInt 32 (b : Int)).toNat = b := by
    rw [BitVec.ofInt_natCast, BitVec.toNat_ofNat]; exact Nat.mod_eq_of_lt (by omega)
  have hw : ∀ n : Int, IntKind.u32.wrap n = n % 4294967296 := fun n => by simp [IntKind.wrap, IntKind.bits, IntKind.signed]
  show IntKind.u32.wrap ((BitVec.ofInt 32 (a : Int) ||| BitVec.ofInt 32 (b : Int)).toNat : Int) = _
  rw [BitVec.toNat_or, h1, h2, hw]
  omega
theorem or_byte (C m : Nat) (L : List UInt8) (hC : C < 256 ^ m) (hm : m < 4) : bits .or .u32 ((C : Int) * 256 % 4294967296) (at8 L m) = ((C * 256 + (L.getD m 0).toNat : Nat) : Int) := by
  have h1 : 256 ^ m ≤ 256 ^ 3 := Nat.pow_le_pow_right (by omega) (by omega)
  have h2 : C < 16777216 := by omega
  have h3 : (C : Int) * 256 % 4294967296 = ((C * 256 : Nat) : Int) := by omega
  have h4 := (L.getD m 0).toNat_lt
  have h5 := Nat.two_pow_add_eq_or_of_lt (i := 8) (b := (L.getD m 0).toNat) (by omega) C
  rw [h3]
  unfold at8
  rw [bits_o32 _ _ (by omega) (by omega)]
  rw [show C * 256 = 2 ^ 8 * C from by omega, ← h5]

theorem ret_num {k : IntKind} {a b e : Int} (h : a = b) : Ending.returned (.tuple #[.int k a, .int .i64 e]) = .returned (.tuple #[.int k b, .int .i64 e]) := by rw [h]
theorem number_err {w : World} {p g cap : Nat} {l : List UInt8} {k : Nat} (h : IsReader w p g cap l k) (n : Int) (hn : ((l.length - k : Nat) : Int) < n) :
    Calls Tryz.prog 126 #[.pointer (some ⟨p, 0, none⟩), .int .i64 n] w fun e w' => e = .returned (.tuple #[.int .u32 0, .int .i64 2]) ∧ ∃ j, w' = w.drewN j := by
  go_enter Tryz.func126, Tryz.ntmps126
  go_wp2_with (go_at_call 127; refine (next_short h n hn).mono ?_; rintro e w' ⟨rfl, j, rfl⟩)
  refine wp_loop_rounds 1 ?_
  rw [rounds_succ]
  go_wp2
  go_ret2
  exact ⟨rfl, _, rfl⟩

theorem number_ok {w : World} {p g cap : Nat} {l : List UInt8} {k : Nat} (h : IsReader w p g cap l k) (n : Nat) (hn : n ≤ l.length - k) (hn4 : n ≤ 4) :
    Calls Tryz.prog 126 #[.pointer (some ⟨p, 0, none⟩), .int .i64 (n : Int)] w fun e w' => e = .returned (.tuple #[.int .u32 ((beN ((l.drop k).take n) : Nat) : Int), .int .i64 0]) ∧
      IsReader w' p g cap l (k + n) ∧ w.grownBy w' (some p) := by
  have hlen : ((l.drop k).take n).length = n := by simp; omega
  go_enter Tryz.func126, Tryz.ntmps126
  go_wp2_with fail
  refine (next_ok h n hn).mono ?_
  rintro e w1 ⟨ao, c, rfl, hb, hR, hG⟩
  generalize hL : (l.drop k).take n = L at hlen hb ⊢
  subst hlen
  have HL := hide hL
  have HR := hide hR
  have HG := hide hG
  clear hL hR hG
  go_wp2
  go_loop [8, 19] (fun v i => ∃ m C : Nat, m ≤ L.length ∧ i = .int .i64 m ∧ v = .int .u32 (C : Int) ∧ C < 256 ^ m ∧ Hid (C = beN (L.take m))) (fun _ i => L.length - (intOf i).toNat)
  case atStart => exact ⟨0, 0, by omega, rfl, rfl, by decide, hide rfl⟩
  case round =>
    obtain ⟨m, C, hm, rfl, rfl, hC, HC⟩ := hrel
    by_cases hlt : m < L.length
    · obtain ⟨b, off, rfl, hc⟩ := hb.head (by omega)
      have c1 := hc m hlt
      have lo := at8_lo L m
      have hi := at8_hi L m
      have i1 : ((m : Nat) : Int) < ((L.length : Nat) : Int) := by omega
      clear hc hb
      have HO := hide (or_byte C m L hC (by omega))
      have HN := hide (beN_take L m hlt)
      have hC' : C * 256 + (L.getD m 0).toNat < 256 ^ (m + 1) := by
        have h4 := (L.getD m 0).toNat_lt
        rw [Nat.pow_succ]
        omega
      have HC' := hide hC'
      clear hC'
      go_wp2
      go_round
      case rel => exact ⟨m + 1, C * 256 + (L.getD m 0).toNat, by omega, by go_num, val_int (unhide HO), unhide HC', hide (by rw [unhide HN, ← unhide HC])⟩
      case measure => simp [intOf]; omega
    · have HE : Hid (C = beN ((l.drop k).take L.length)) := hide (by rw [unhide HL, unhide HC, List.take_of_length_le (by omega)])
      go_wp2
      go_ret2
      exact ⟨ret_num (by rw [unhide HE]), unhide HR, unhide HG⟩

/-- What a number of two's complement in 32 bits is. -/
def s32 (n : Nat) : Int := if n < 2147483648 then (n : Int) else (n : Int) - 4294967296

theorem Byte_err {w : World} {p g cap : Nat} {l : List UInt8} {k : Nat} (h : IsReader w p g cap l k) (hn : l.length - k < 1) :
    Calls Tryz.prog 142 #[.pointer (some ⟨p, 0, none⟩)] w fun e w' => e = .returned (.tuple #[.int .i64 0, .int .i64 2]) ∧ ∃ j, w' = w.drewN j := by
  go_enter Tryz.func142, Tryz.ntmps142
  go_wp2_with (go_at_call 126; refine (number_err h 1 (by omega)).mono ?_; rintro e w' ⟨rfl, j, rfl⟩)
  go_ret2
  exact ⟨rfl, _, rfl⟩
theorem Byte_ok {w : World} {p g cap : Nat} {l : List UInt8} {k : Nat} (h : IsReader w p g cap l k) (hn : 1 ≤ l.length - k) :
    Calls Tryz.prog 142 #[.pointer (some ⟨p, 0, none⟩)] w fun e w' => e = .returned (.tuple #[.int .i64 (at8 l k), .int .i64 0]) ∧ IsReader w' p g cap l (k + 1) ∧ w.grownBy w' (some p) := by
  have e1 : ((beN ((l.drop k).take 1) : Nat) : Int) = at8 l k := by
    have hk : k < l.length := by omega
    have e : (l.drop k).take 1 = [l[k]] := by rw [List.drop_eq_getElem_cons hk]; rfl
    rw [e]
    unfold at8
    rw [List.getD_eq_getElem?_getD, List.getElem?_eq_getElem hk]
    simp [beN]
  have lo := at8_lo l k
  have hi := at8_hi l k
  have HE := hide e1
  clear e1
  go_enter Tryz.func142, Tryz.ntmps142
  go_wp2_with fail
  refine (number_ok h 1 hn (by omega)).mono ?_
  rintro e w1 ⟨rfl, hR, hG⟩
  rw [unhide HE]
  go_wp2
  go_ret2
  exact ⟨rfl, hR, hG⟩
end Go.Proofs.YtibgfdjopikafaaGreatDoor

/-
  Contracts of a reader's Within: a reader of its own over the next n bytes, and this one behind them; or the error. Conditions: lengths fit.
-/
namespace Go.Proofs.YtibgfdjopikafaaGreatDoor
open Go.RowKit
set_option maxRecDepth 20000

theorem grown_below_trans {a b c : World} {row : Option Nat} (h1 : a.grownBy b row) (h2 : Below b.heap.size b c) : a.grownBy c row := grown_trans h1 (grown_of_below h2 row)
end Go.Proofs.YtibgfdjopikafaaGreatDoor

/-
  Contracts of a reader's Byte, Word, Long, Take in one form each: value, error and place as plain functions of the bytes and the place. Conditions: lengths fit.
-/
namespace Go.Proofs.YtibgfdjopikafaaGreatDoor
open Go.RowKit
set_option maxRecDepth 20000

/-- The error, the value and the place behind of a number of n bytes. -/
def numE (l : List UInt8) (k n : Nat) : Int := if l.length - k < n then 2 else 0
def numV (l : List UInt8) (k n : Nat) : Int := if l.length - k < n then 0 else if n = 4 then s32 (beN ((l.drop k).take n)) else (beN ((l.drop k).take n) : Int)
def numK (l : List UInt8) (k n : Nat) : Nat := if l.length - k < n then k else k + n

/-- The error, the bytes and the place behind of n bytes. -/
def takeE (l : List UInt8) (k : Nat) (n : Int) : Int := if n < 0 then 1 else if ((l.length - k : Nat) : Int) < n then 2 else 0
def takeL (l : List UInt8) (k : Nat) (n : Int) : List UInt8 := if n < 0 then [] else if ((l.length - k : Nat) : Int) < n then [] else (l.drop k).take n.toNat
def takeK (l : List UInt8) (k : Nat) (n : Int) : Nat := if n < 0 then k else if ((l.length - k : Nat) : Int) < n then k else k + n.toNat

theorem s32_wrap (C : Nat) (h : C < 4294967296) : wrap64 (wrap32 (C : Int)) = s32 C := by
  unfold wrap64 wrap32 s32
  split <;> omega

theorem Byte_u {w : World} {p g cap : Nat} {l : List UInt8} {k : Nat} (h : IsReader w p g cap l k) :
    Calls Tryz.prog 142 #[.pointer (some ⟨p, 0, none⟩)] w fun e w' => e = .returned (.tuple #[.int .i64 (numV l k 1), .int .i64 (numE l k 1)]) ∧ IsReader w' p g cap l (numK l k 1) ∧ w.grownBy w' (some p) := by
  by_cases hs : l.length - k < 1
  · refine (Byte_err h hs).mono ?_
    rintro e w' ⟨rfl, j, rfl⟩
    exact ⟨by simp [numV, numE, hs], by rw [numK, if_pos hs]; exact h.drewN j, grown_drewN _ _ _⟩
  · refine (Byte_ok h (by omega)).mono ?_
    rintro e w' ⟨rfl, h1, h2⟩
    refine ⟨?_, by rw [numK, if_neg hs]; exact h1, h2⟩
    have e1 : ((beN ((l.drop k).take 1) : Nat) : Int) = at8 l k := by
      have hk : k < l.length := by omega
      have e : (l.drop k).take 1 = [l[k]] := by rw [List.drop_eq_getElem_cons hk]; rfl
      rw [e]
      unfold at8
      rw [List.getD_eq_getElem?_getD, List.getElem?_eq_getElem hk]
      simp [beN]
    rw [numV, if_neg hs, if_neg (by omega), e1, numE, if_neg hs]

theorem Word_u {w : World} {p g cap : Nat} {l : List UInt8} {k : Nat} (h : IsReader w p g cap l k) :
    Calls Tryz.prog 131 #[.pointer (some ⟨p, 0, none⟩)] w fun e w' => e = .returned (.tuple #[.int .i64 (numV l k 2), .int .i64 (numE l k 2)]) ∧ IsReader w' p g cap l (numK l k 2) ∧ w.grownBy w' (some p) := by
  by_cases hs : l.length - k < 2
  · rw [numV, numE, numK, if_pos hs, if_pos hs, if_pos hs]
    go_enter Tryz.func131, Tryz.ntmps131
    go_wp2_with fail
    refine (number_err h 2 (by omega)).mono ?_
    rintro e w' ⟨rfl, j, rfl⟩
    go_wp2
    go_ret2
    exact ⟨rfl, h.drewN _, grown_drewN _ _ _⟩
  · rw [numV, numE, numK, if_neg hs, if_neg hs, if_neg hs, if_neg (by omega)]
    have hb := beN_lt ((l.drop k).take 2)
    have hl : ((l.drop k).take 2).length = 2 := by simp; omega
    rw [hl] at hb
    go_enter Tryz.func131, Tryz.ntmps131
    go_wp2_with fail
    refine (number_ok h 2 (by omega) (by omega)).mono ?_
    rintro e w1 ⟨rfl, hR, hG⟩
    have HR := hide hR
    have HG := hide hG
    obtain ⟨C, HC⟩ : ∃ C, Hid (beN ((l.drop k).take 2) = C) := ⟨_, hide rfl⟩
    rw [unhide HC] at hb ⊢
    have hb' : (C : Int) < 65536 := by omega
    clear hR hG
    go_wp2
    go_ret2
    exact ⟨ret_num (by rw [unhide HC]), unhide HR, unhide HG⟩

theorem Long_u {w : World} {p g cap : Nat} {l : List UInt8} {k : Nat} (h : IsReader w p g cap l k) :
    Calls Tryz.prog 100 #[.pointer (some ⟨p, 0, none⟩)] w fun e w' => e = .returned (.tuple #[.int .i64 (numV l k 4), .int .i64 (numE l k 4)]) ∧ IsReader w' p g cap l (numK l k 4) ∧ w.grownBy w' (some p) := by
  by_cases hs : l.length - k < 4
  · rw [numV, numE, numK, if_pos hs, if_pos hs, if_pos hs]
    go_enter Tryz.func100, Tryz.ntmps100
    go_wp2_with fail
    refine (number_err h 4 (by omega)).mono ?_
    rintro e w' ⟨rfl, j, rfl⟩
    go_wp2
    go_ret2
    exact ⟨rfl, h.drewN _, grown_drewN _ _ _⟩
  · rw [numV, numE, numK, if_neg hs, if_neg hs, if_neg hs, if_pos rfl]
    have hb := beN_lt ((l.drop k).take 4)
    have hl : ((l.drop k).take 4).length = 4 := by simp; omega
    rw [hl] at hb
    go_enter Tryz.func100, Tryz.ntmps100
    go_wp2_with fail
    refine (number_ok h 4 (by omega) (by omega)).mono ?_
    rintro e w1 ⟨rfl, hR, hG⟩
    have HR := hide hR
    have HG := hide hG
    obtain ⟨C, HC⟩ : ∃ C, Hid (beN ((l.drop k).take 4) = C) := ⟨_, hide rfl⟩
    rw [unhide HC] at hb ⊢
    have hb' : (C : Int) < 4294967296 := by omega
    clear hR hG
    go_wp2
    go_ret2
    exact ⟨ret_num (by rw [unhide HC]; exact s32_wrap C (by omega)), unhide HR, unhide HG⟩

theorem Take_u {w : World} {p g cap : Nat} {l : List UInt8} {k : Nat} (h : IsReader w p g cap l k) (n : Int) :
    Calls Tryz.prog 101 #[.pointer (some ⟨p, 0, none⟩), .int .i64 n] w fun e w' => ∃ v, e = .returned (.tuple #[v, .int .i64 (takeE l k n)]) ∧ OwnB w' w.heap.size v (takeL l k n) ∧
      IsReader w' p g cap l (takeK l k n) ∧ w.grownBy w' (some p) := by
  by_cases h0 : n < 0
  · rw [takeE, takeL, takeK, if_pos h0, if_pos h0, if_pos h0]
    go_enter Tryz.func101, Tryz.ntmps101
    go_wp2_with (go_at_call 127; refine (next_arg h n h0).mono ?_; rintro e w' ⟨rfl, rfl⟩)
    go_ret2
    exact ⟨_, rfl, World.ownsRow_nil _ _ _ _, h, grown_refl _ _⟩
  by_cases h1 : ((l.length - k : Nat) : Int) < n
  · rw [takeE, takeL, takeK, if_neg h0, if_neg h0, if_neg h0, if_pos h1, if_pos h1, if_pos h1]
    go_enter Tryz.func101, Tryz.ntmps101
    go_wp2_with (go_at_call 127; refine (next_short h n h1).mono ?_; rintro e w' ⟨rfl, j, rfl⟩)
    go_ret2
    exact ⟨_, rfl, World.ownsRow_nil _ _ _ _, h.drewN _, grown_drewN _ _ _⟩
  · rw [takeE, takeL, takeK, if_neg h0, if_neg h0, if_neg h0, if_neg h1, if_neg h1, if_neg h1]
    obtain ⟨m, rfl⟩ := Int.eq_ofNat_of_zero_le (show 0 ≤ n by omega)
    rw [Int.toNat_natCast]
    have hm : m ≤ l.length - k := by omega
    have hlen : ((l.drop k).take m).length = m := by simp; omega
    have hfit := h.fit
    go_enter Tryz.func101, Tryz.ntmps101
    go_wp2_with fail
    refine (next_ok h m hm).mono ?_
    rintro e w1 ⟨ao, c, rfl, hb, hR, hG⟩
    generalize hL : (l.drop k).take m = L at hlen hb ⊢
    subst hlen
    have HL := hide hL
    clear hL
    go_wp2_with fail
    refine (copied_any ao c L _ hb (by omega)).mono ?_
    rintro e w2 ⟨rfl, hO, hB⟩
    go_wp2
    go_ret2
    exact ⟨_, rfl, by rw [unhide HL]; exact hO.mono hG.size, hR.below hB, grown_below_trans hG hB⟩
end Go.Proofs.YtibgfdjopikafaaGreatDoor

/-
  The law of 'append(v, b...)' for a row of bytes of one's own: it owns both, in its own block or a new one. Conditions: the sum of the lengths fits.
-/
namespace Go.Proofs.YtibgfdjopikafaaGreatDoor
open Go.RowKit
set_option maxRecDepth 20000

/-- What is put: nil, or a slice of these bytes. -/
def SrcB (w : World) (b : Value) (m : List UInt8) : Prop := (b = .slice none 0 0 ∧ m = []) ∨ ∃ x c, b = .slice (some x) m.length c ∧ BAt w (some x) m
theorem OwnB.src {w : World} {base : Nat} {v : Value} {l : List UInt8} (h : OwnB w base v l) : SrcB w v l := by
  rcases h.shape with h | ⟨g, cap, rfl, _, _, _, _, hb⟩
  · exact .inl h
  · exact .inr ⟨_, _, rfl, hb⟩
theorem BAt.cells {w : World} {x : Addr} {m : List UInt8} (h : BAt w (some x) m) : ∀ j u, (bvals m)[j]? = some u → w.cell? (x.add j) = some u := by
  intro j u hj
  have hjl : j < m.length := by
    have := (List.getElem?_eq_some_iff.1 hj).1
    rw [bvals_length] at this; exact this
  obtain ⟨b, off, e, hc⟩ := h j hjl
  injection e with e
  subst e
  rw [bvals_get hjl] at hj
  injection hj with hj
  subst hj
  rw [Addr.add_lit]
  exact hc

theorem wpList_appendB {w : World} {ops : Array Oper} {rest : List Oper} {o : Oper} {a : Act} {Q : Exit → Act → World → Prop} (hgd : o.guard = none) (s x : Operand)
    (ho : o.op = .call { callee := .builtin .append, args := #[s, x], argTypes := #[28, 28] })
    (base : Nat) (v : Value) (l : List UInt8) (hs : a.eval s = v) (hown : OwnB w base v l) (b : Value) (m : List UInt8) (hx : a.eval x = b) (hb : SrcB w b m) (hfit : l.length + m.length ≤ 140737488355328) (hbase : base ≤ w.heap.size)
    (h : ∀ v' w', OwnB w' base v' (l ++ m) → w.grownBy w' v.ownBlock → (∀ k, v'.ownBlock = some k → v.ownBlock = some k ∨ w.heap.size ≤ k) → (v' = .slice none 0 0 ↔ v = .slice none 0 0 ∧ m = []) → wpList Tryz.prog ops Q rest (a.put o.dst v') w') :
    wpList Tryz.prog ops Q (o :: rest) a w := by
  obtain ⟨i0, hi, hz0, hz1, hz2⟩ := info_parts info8
  rcases hb with ⟨rfl, rfl⟩ | ⟨y, c, rfl, hb⟩
  · refine wpList_append_own_none hgd s x 28 ho base 5 i0 1 Tryz.underlying28 hi v l.length (bvals l) hs hown hx ?_
    refine h v w (by rw [List.append_nil]; exact hown) (World.grownBy.refl _ _) (fun k hk => .inl hk) (by simp)
  · have hmm : (bvals l ++ bvals m) = bvals (l ++ m) := bvals_append l m
    have hll : l.length + m.length = (l ++ m).length := by simp
    rcases hown.shape with ⟨rfl, rfl⟩ | ⟨g, cap, rfl, hg1, hg2, hg3, hg4, hg5⟩
    · by_cases hm0 : m = []
      · subst hm0
        refine wpList_append_own w hgd s x 28 ho base 5 i0 (.int .u8 0) 1 1 Tryz.underlying28 hi hz0 hz1 hz2 rfl (by decide) _ 0 [] hs hown y 0 c [] hx rfl (by simp) (by simp) (by decide) (by decide) hbase ?_
        intro v' w' h1 h2 h3
        obtain rfl := h3.2 ⟨rfl, rfl⟩
        exact h _ w' h1 h2 (fun k hk => by cases hk) (by simp)
      · refine wpList_append_grows w hgd s x 28 ho 5 i0 (.int .u8 0) 1 1 Tryz.underlying28 hi hz0 hz1 hz2 rfl (by decide) none 0 0 [] hs (fun _ => ⟨rfl, rfl⟩) rfl (fun b e => by cases e) y m.length c (bvals m) hx (by rw [bvals_length]; omega) hb.cells (bvals_one m) (by have := List.length_pos_iff.2 hm0; omega) (by unfold maxLen; omega) (by omega) ?_
        intro v' w' h1 h2
        rw [Nat.zero_add, List.nil_append] at h1
        have hO : OwnB w' w.heap.size v' m := h1
        refine h v' w' (hO.mono hbase) ⟨h2.os, h2.tape, h2.output, h2.size, fun k hk _ => h2.block k hk (by simp)⟩ (fun k hk => .inr (h1.lt k hk).1) ?_
        constructor
        · rintro rfl
          rcases h1.2 with ⟨_, h⟩ | ⟨_, _, _, h, _⟩
          · exact absurd (List.eq_nil_of_length_eq_zero h) hm0
          · cases h
        · rintro ⟨_, h⟩; exact absurd h hm0
    · by_cases hroom : l.length + m.length ≤ cap
      · refine wpList_append_fits w hgd s x 28 ho base 5 i0 1 Tryz.underlying28 hi hz1 g l.length cap (bvals l) hs hown y m.length c (bvals m) hx (by rw [bvals_length]; omega) hb.cells (bvals_one m) hroom ?_
        intro w' h1 h2
        rw [hmm] at h1
        refine h _ w' (by unfold OwnB; rw [← hll]; exact h1) h2 (fun k hk => .inl hk) (by simp)
      · refine wpList_append_grows w hgd s x 28 ho 5 i0 (.int .u8 0) 1 1 Tryz.underlying28 hi hz0 hz1 hz2 rfl (by decide) (some ⟨g, 0, none⟩) l.length cap (bvals l) hs (fun e => by cases e) (by rw [bvals_length]; omega) (fun b e => by cases e; exact hg5.cells) y m.length c (bvals m) hx (by rw [bvals_length]; omega) hb.cells (bvals_one m) (by omega) (by unfold maxLen; omega) (by omega) ?_
        intro v' w' h1 h2
        rw [hmm] at h1
        have hO : OwnB w' w.heap.size v' (l ++ m) := by unfold OwnB; rw [← hll]; exact h1
        refine h v' w' (hO.mono hbase) ⟨h2.os, h2.tape, h2.output, h2.size, fun k hk _ => h2.block k hk (by simp)⟩ (fun k hk => .inr (h1.lt k hk).1) ?_
        constructor
        · rintro rfl
          rcases h1.2 with ⟨_, h⟩ | ⟨_, _, _, h, _⟩
          · omega
          · cases h
        · rintro ⟨h, _⟩; cases h
end Go.Proofs.YtibgfdjopikafaaGreatDoor

/-
  Contracts of provisoref01.Number and provisoref01.Take: value, place and error as the same plain functions of the bytes and the place. Conditions: lengths fit.
-/
namespace Go.Proofs.YtibgfdjopikafaaGreatDoor
open Go.RowKit
set_option maxRecDepth 20000

theorem ret_three {a b c d : Int} {e f : Int} (h1 : a = b) (h2 : c = d) (h3 : e = f) : Ending.returned (.tuple #[.int .i64 a, .int .i64 c, .int .i64 e]) = .returned (.tuple #[.int .i64 b, .int .i64 d, .int .i64 f]) := by rw [h1, h2, h3]

theorem ret_take {v : Value} {a b c : Int} (h : a = b) : Ending.returned (.tuple #[v, .int .i64 a, .int .i64 c]) = .returned (.tuple #[v, .int .i64 b, .int .i64 c]) := by rw [h]

end Go.Proofs.YtibgfdjopikafaaGreatDoor

/-
  Contracts of a reader's Name and of provisoref01.Name: text, place and error as the same plain functions of the bytes and the place. Conditions: lengths fit.
-/
namespace Go.Proofs.YtibgfdjopikafaaGreatDoor
open Go.RowKit
set_option maxRecDepth 20000

/-- How long the next name says it is. -/
def nmN (l : List UInt8) (k : Nat) : Nat := (l.getD k 0).toNat
/-- Its bytes. -/
def nmS (l : List UInt8) (k : Nat) : List UInt8 := (l.drop (k + 1)).take (nmN l k)
/-- Which way the next name goes: 0 it is one, else the error. -/
def nmE (l : List UInt8) (k : Nat) : Int :=
  if l.length - k < 1 then 2 else if nmN l k = 0 ∨ 24 < nmN l k then 6 else if l.length - (k + 1) < nmN l k then 2 else if nameB ⟨(nmS l k).toArray⟩ then 0 else 6
def nmL (l : List UInt8) (k : Nat) : List UInt8 := if nmE l k = 0 then nmS l k else []
def nmK (l : List UInt8) (k : Nat) : Nat := if nmE l k = 0 then k + 1 + nmN l k else k

theorem at8_nm (l : List UInt8) (k : Nat) : at8 l k = (nmN l k : Int) := rfl
theorem conv_str {w : World} {x : Addr} {m : List UInt8} (h : BAt w (some x) m) (c : Nat) : (convert 28 9 (.slice (some x) m.length c)).run Tryz.prog w = .ok (.string ⟨m.toArray⟩) w := by
  refine run_convert_bytes_back w 28 9 5 x c m Tryz.underlying28 Tryz.underlying5 Tryz.underlying9 (fun j hj => ?_)
  have := h.cells j (.int .u8 (m[j].toNat : Int)) (by unfold bvals; rw [List.getElem?_map, List.getElem?_eq_getElem hj]; rfl)
  exact this

/-- A copy of a reader, in a block of its own. -/
theorem IsReader.copy {w : World} {p g cap : Nat} {l : List UInt8} {k : Nat} (h : IsReader w p g cap l k) :
    IsReader (w.alloc (.cells #[.slice (some ⟨g, 0, none⟩) l.length cap, .int .i64 (k : Int), .bool true] 147)) w.heap.size g cap l k := by
  refine ⟨heap_alloc_new w _, h.bytes.below' ((Below.refl _ w).alloc (Nat.le_refl _) _), by simp; have := h.gl; omega, Nat.ne_of_gt h.gl, h.le, h.cap_, h.fit⟩

theorem below_copy {w w1 : World} {o : Obj} (hG : (w.alloc o).grownBy w1 (some w.heap.size)) : Below w.heap.size w w1 :=
  ((Below.refl _ w).alloc (Nat.le_refl _) _).grown hG (by simp) (fun k e => by cases e; exact Nat.le_refl _)

set_option maxHeartbeats 1000000 in
theorem Name_u {w : World} {p g cap : Nat} {l : List UInt8} {k : Nat} (h : IsReader w p g cap l k) :
    Calls Tryz.prog 128 #[.pointer (some ⟨p, 0, none⟩)] w fun e w' => e = .returned (.tuple #[.string ⟨(nmL l k).toArray⟩, .int .i64 (nmE l k)]) ∧ IsReader w' p g cap l (nmK l k) ∧ w.grownBy w' (some p) := by
  have hl := h.fit
  have hk := h.le
  have hpl := h.pl
  by_cases h1 : l.length - k < 1
  · have e1 : nmE l k = 2 := by unfold nmE; rw [if_pos h1]
    have e2 : nmL l k = [] := by unfold nmL; rw [e1]; rfl
    have e3 : nmK l k = k := by unfold nmK; rw [e1]; rfl
    rw [e1, e2, e3]
    have n1 : numE l k 1 = 2 := by unfold numE; rw [if_pos h1]
    have HN := hide n1
    clear n1 e1 e2 e3
    have c0 := h.c0
    have c1 := h.c1
    have c2 := h.c2
    have HM := hide (isMade_yes h)
    go_enter Tryz.func128, Tryz.ntmps128
    go_wp2_with (first | (go_at_call 109; refine (unhide HM).mono ?_; rintro e w' ⟨rfl, rfl⟩) | fail)
    refine (Byte_u h.copy).mono ?_
    rintro e w1 ⟨rfl, hR1, hG1⟩
    have hB1 := below_copy hG1
    rw [unhide HN]
    go_wp2
    go_ret2
    exact ⟨rfl, h.below hB1, grown_of_below hB1 _⟩
  have n1 : numE l k 1 = 0 := by unfold numE; rw [if_neg h1]
  have n2 : numV l k 1 = (nmN l k : Int) := by
    have hkl : k < l.length := by omega
    have e : (l.drop k).take 1 = [l[k]] := by rw [List.drop_eq_getElem_cons hkl]; rfl
    unfold numV nmN
    rw [if_neg h1, if_neg (by omega), e, List.getD_eq_getElem?_getD, List.getElem?_eq_getElem hkl]
    simp [beN]
  have n3 : numK l k 1 = k + 1 := by unfold numK; rw [if_neg h1]
  have hlt : nmN l k < 256 := (l.getD k 0).toNat_lt
  by_cases h2 : nmN l k = 0 ∨ 24 < nmN l k
  · have e1 : nmE l k = 6 := by unfold nmE; rw [if_neg h1, if_pos h2]
    have e2 : nmL l k = [] := by unfold nmL; rw [e1]; rfl
    have e3 : nmK l k = k := by unfold nmK; rw [e1]; rfl
    rw [e1, e2, e3]
    have HN := hide n1
    have HV := hide n2
    clear n1 n2 n3 e1 e2 e3
    generalize nmN l k = N at h2 hlt HV
    have hz : ((N : Int) == 0) = decide (N = 0) := by
      by_cases e : N = 0
      · subst e; rfl
      · rw [beq_f (by omega), decide_eq_false e]
    by_cases h4 : N = 0
    · subst h4
      have c0 := h.c0
      have c1 := h.c1
      have c2 := h.c2
      have HM := hide (isMade_yes h)
      go_enter Tryz.func128, Tryz.ntmps128
      go_wp2_with (first | (go_at_call 109; refine (unhide HM).mono ?_; rintro e w' ⟨rfl, rfl⟩) | fail)
      refine (Byte_u h.copy).mono ?_
      rintro e w1 ⟨rfl, hR1, hG1⟩
      have hB1 := below_copy hG1
      rw [unhide HN, unhide HV]
      go_wp2
      go_ret2
      exact ⟨rfl, h.below hB1, grown_of_below hB1 _⟩
    · have hz' : ((N : Int) == 0) = false := beq_f (by omega)
      have hg : (24 : Int) < (N : Int) := by omega
      clear hz
      have c0 := h.c0
      have c1 := h.c1
      have c2 := h.c2
      have HM := hide (isMade_yes h)
      go_enter Tryz.func128, Tryz.ntmps128
      go_wp2_with (first | (go_at_call 109; refine (unhide HM).mono ?_; rintro e w' ⟨rfl, rfl⟩) | fail)
      refine (Byte_u h.copy).mono ?_
      rintro e w1 ⟨rfl, hR1, hG1⟩
      have hB1 := below_copy hG1
      rw [unhide HN, unhide HV]
      go_wp2
      go_ret2
      exact ⟨rfl, h.below hB1, grown_of_below hB1 _⟩
  obtain ⟨N, hN⟩ : ∃ N, nmN l k = N := ⟨_, rfl⟩
  rw [hN] at n2 hlt h2
  have hz : ((N : Int) == 0) = false := beq_f (by omega)
  have hg : ¬ (24 : Int) < (N : Int) := by omega
  by_cases h3 : l.length - (k + 1) < N
  · have e1 : nmE l k = 2 := by unfold nmE; rw [hN, if_neg h1, if_neg h2, if_pos h3]
    have e2 : nmL l k = [] := by unfold nmL; rw [e1]; rfl
    have e3 : nmK l k = k := by unfold nmK; rw [e1]; rfl
    rw [e1, e2, e3]
    have HN := hide n1
    have HV := hide n2
    have HK := hide n3
    clear n1 n2 n3 e1 e2 e3 hN
    have c0 := h.c0
    have c1 := h.c1
    have c2 := h.c2
    have HM := hide (isMade_yes h)
    go_enter Tryz.func128, Tryz.ntmps128
    go_wp2_with (first | (go_at_call 109; refine (unhide HM).mono ?_; rintro e w' ⟨rfl, rfl⟩) | fail)
    refine (Byte_u h.copy).mono ?_
    rintro e w1 ⟨rfl, hR1, hG1⟩
    have hB1 := below_copy hG1
    rw [unhide HK] at hR1
    rw [unhide HN, unhide HV]
    go_wp2_with fail
    refine (next_short hR1 N (by omega)).mono ?_
    rintro e w2 ⟨rfl, j, rfl⟩
    go_wp2
    go_ret2
    exact ⟨rfl, (h.below hB1).drewN _, grown_trans (grown_of_below hB1 _) (grown_drewN _ _ _)⟩
  obtain ⟨Sx, hS⟩ : ∃ Sx, nmS l k = Sx := ⟨_, rfl⟩
  have hlen : Sx.length = N := by rw [← hS, ← hN]; unfold nmS; rw [hN]; simp; omega
  have t2 : (l.drop (k + 1)).take N = Sx := by rw [← hS, ← hN]; rfl
  cases hnb : nameB ⟨Sx.toArray⟩
  all_goals
    have e1 : nmE l k = (if nameB ⟨Sx.toArray⟩ then 0 else 6) := by unfold nmE; rw [hN, hS, if_neg h1, if_neg h2, if_neg h3]
    rw [hnb] at e1
    have q2 : nmL l k = (if nmE l k = 0 then Sx else []) := by unfold nmL; rw [hS]
    have q3 : nmK l k = (if nmE l k = 0 then k + 1 + N else k) := by unfold nmK; rw [hN]
    rw [e1] at q2 q3
    simp at e1 q2 q3
    rw [e1, q2, q3]
    have HB := hide hnb
    have HT2 := hide t2
    have HN := hide n1
    have HV := hide n2
    have HK := hide n3
    clear n1 n2 n3 e1 q2 q3 t2 hnb hN hS
    subst hlen
    have c0 := h.c0
    have c1 := h.c1
    have c2 := h.c2
    have HM := hide (isMade_yes h)
    go_enter Tryz.func128, Tryz.ntmps128
    go_wp2_with (first | (go_at_call 109; refine (unhide HM).mono ?_; rintro e w' ⟨rfl, rfl⟩) | fail)
    refine (Byte_u h.copy).mono ?_
    rintro e w1 ⟨rfl, hR1, hG1⟩
    have hB1 := below_copy hG1
    rw [unhide HK] at hR1
    rw [unhide HN, unhide HV]
    go_wp2_with fail
    refine (next_ok hR1 Sx.length (by omega)).mono ?_
    rintro e w2 ⟨ao, c, rfl, hb, hR2, hG2⟩
    rw [unhide HT2] at hb
    obtain ⟨b, off, rfl, _⟩ := hb.head (by omega)
    have hcv := conv_str hb c
    have hG12 := grown_trans hG1 hG2
    have hB2 := below_copy hG12
    have d1 := hR2.c1
    have hP2 := h.below hB2
    have e1 := hP2.f1
    have e2 := hP2.c1
    clear hb hG1 hG2 hB1 hR1 c0 c1 c2
    go_wp2_with fail
    refine (IsName_any _ _ (by show Sx.toArray.size ≤ _; unfold maxLen; simp; omega)).mono ?_
    rintro e w3 ⟨rfl, rfl⟩
    rw [unhide HB]
    go_wp2
    go_ret2
    first | exact ⟨rfl, hP2, grown_of_below hB2 _⟩ | exact ⟨rfl, hP2.go (by omega) _ rfl, grown_trans (grown_of_below hB2 _) (grown_setCell _ ⟨p, 1, none⟩ _)⟩
end Go.Proofs.YtibgfdjopikafaaGreatDoor

/-
  What a writer is in memory ('IsWriter'), and the contracts of wire.New and of a writer's Len, Bytes, Put. Conditions: lengths fit.
-/
namespace Go.Proofs.YtibgfdjopikafaaGreatDoor
open Go.RowKit
set_option maxRecDepth 20000

/-- What may have turned: the blocks of S, and nothing else that was there. -/
structure Kept (S : Nat → Prop) (w w' : World) : Prop where
  os : w'.os = w.os
  tape : w'.tape = w.tape
  output : w'.output = w.output
  size : w.heap.size ≤ w'.heap.size
  block : ∀ k, k < w.heap.size → ¬ S k → w'.heap[k]? = w.heap[k]?
theorem Kept.refl (S : Nat → Prop) (w : World) : Kept S w w := ⟨rfl, rfl, rfl, Nat.le_refl _, fun _ _ _ => rfl⟩
theorem Kept.trans {S T U : Nat → Prop} {a b c : World} (h : Kept S a b) (k : Kept T b c) (h1 : ∀ x, x < a.heap.size → S x → U x) (h2 : ∀ x, x < a.heap.size → T x → U x) : Kept U a c :=
  ⟨k.os.trans h.os, k.tape.trans h.tape, k.output.trans h.output, Nat.le_trans h.size k.size, fun i hi hu => (k.block i (Nat.lt_of_lt_of_le hi h.size) (fun ht => hu (h2 i hi ht))).trans (h.block i hi (fun hs => hu (h1 i hi hs)))⟩
theorem Kept.mono {S T : Nat → Prop} {a b : World} (h : Kept S a b) (h1 : ∀ x, x < a.heap.size → S x → T x) : Kept T a b :=
  ⟨h.os, h.tape, h.output, h.size, fun k hk ht => h.block k hk (fun hs => ht (h1 k hk hs))⟩
theorem Kept.of_below {w w' : World} (h : Below w.heap.size w w') (S : Nat → Prop) : Kept S w w' := ⟨h.os, h.tape, h.output, h.size, fun k hk _ => h.block k hk⟩
theorem Kept.of_grown {w w' : World} {row : Option Nat} (h : w.grownBy w' row) : Kept (fun k => some k = row) w w' := ⟨h.os, h.tape, h.output, h.size, h.block⟩
theorem Kept.below {S : Nat → Prop} {B : Nat} {w0 w w' : World} (h : Kept S w w') (hb : Below B w0 w) (hB : B ≤ w.heap.size) (hs : ∀ k, S k → B ≤ k) : Below B w0 w' :=
  hb.trans ⟨h.os, h.tape, h.output, h.size, fun k hk => h.block k (by omega) (fun hk' => by have := hs k hk'; omega)⟩
theorem BAt.keep {S : Nat → Prop} {w w' : World} {ao : Option Addr} {l : List UInt8} (h : BAt w ao l) (hk : Kept S w w') (hs : ∀ b off, ao = some ⟨b, off, none⟩ → 0 < l.length → ¬ S b) : BAt w' ao l := by
  intro i hi
  obtain ⟨b, off, e, hc⟩ := h i hi
  exact ⟨b, off, e, (World.cell?_of_block (hk.block b (World.block_lt_of_cell? w _ hc) (hs b off e (by omega)))).trans hc⟩

/-- At block p a writer that has the bytes l, in the slice v. -/
structure IsWriter (w : World) (p : Nat) (v : Value) (l : List UInt8) : Prop where
  row : w.heap[p]? = some (.cells #[v, .bool true] 89 (0, 0))
  own : OwnB w 0 v l
  ne : v.ownBlock ≠ some p
  len : l.length ≤ 1048576

/-- What a writer's calls may turn. -/
def WT (p : Nat) (v : Value) (k : Nat) : Prop := k = p ∨ v.ownBlock = some k

theorem IsWriter.pl {w : World} {p : Nat} {v : Value} {l : List UInt8} (h : IsWriter w p v l) : p < w.heap.size := (Array.getElem?_eq_some_iff.1 h.row).1
theorem IsWriter.c0 {w : World} {p : Nat} {v : Value} {l : List UInt8} (h : IsWriter w p v l) : w.cell? ⟨p, 0, none⟩ = some v := by
  rw [cell_of_row _ _ _ _ _ _ h.row]; rfl
theorem IsWriter.c1 {w : World} {p : Nat} {v : Value} {l : List UInt8} (h : IsWriter w p v l) : w.cell? ⟨p, 1, none⟩ = some (.bool true) := by
  rw [cell_of_row _ _ _ _ _ _ h.row]; rfl
theorem IsWriter.f0 {w : World} {p : Nat} {v : Value} {l : List UInt8} (h : IsWriter w p v l) : w.frozen? ⟨p, 0, none⟩ = false := by
  simp [World.frozen?, h.row]
theorem OwnB.keep {S : Nat → Prop} {w w' : World} {base : Nat} {v : Value} {l : List UInt8} (h : OwnB w base v l) (hk : Kept S w w') (hs : ∀ k, v.ownBlock = some k → ¬ S k) : OwnB w' base v l := by
  refine ⟨h.1, ?_⟩
  rcases h.2 with h1 | ⟨g, cap, cur, hv, hbg, hh, r⟩
  · exact Or.inl h1
  · exact Or.inr ⟨g, cap, cur, hv, hbg, by rw [hk.block g (Array.getElem?_eq_some_iff.1 hh).1 (hs g (by rw [hv]; rfl))]; exact hh, r⟩
theorem IsWriter.keep {S : Nat → Prop} {w w' : World} {p : Nat} {v : Value} {l : List UInt8} (h : IsWriter w p v l) (hk : Kept S w w') (hs : ∀ k, WT p v k → ¬ S k) : IsWriter w' p v l :=
  ⟨(hk.block p h.pl (hs p (.inl rfl))).trans h.row, h.own.keep hk (fun k hk => hs k (.inr hk)), h.ne, h.len⟩
theorem IsWriter.below {w w' : World} {p : Nat} {v : Value} {l : List UInt8} (h : IsWriter w p v l) (hb : Below w.heap.size w w') : IsWriter w' p v l :=
  h.keep (Kept.of_below hb (fun _ => False)) (fun _ _ h => h)

theorem New_any (w : World) : Calls Tryz.prog 23 #[] w fun e w' => e = .returned (.pointer (some ⟨w.heap.size, 0, none⟩)) ∧ IsWriter w' w.heap.size (.slice none 0 0) [] ∧ Below w.heap.size w w' := by
  go_enter Tryz.func23, Tryz.ntmps23
  go_wp2
  go_ret
  exact ⟨rfl, ⟨heap_alloc_new w _, World.ownsRow_nil _ _ _ _, by simp [Value.ownBlock], by simp⟩, (Below.refl _ w).alloc (Nat.le_refl _) _⟩

theorem wMade_yes {w : World} {p : Nat} {v : Value} {l : List UInt8} (h : IsWriter w p v l) :
    Calls Tryz.prog 56 #[.pointer (some ⟨p, 0, none⟩)] w fun e w' => e = .returned (.bool true) ∧ w' = w := by
  have c1 := h.c1
  go_enter Tryz.func56, Tryz.ntmps56
  go_wp2
  go_ret
  exact ⟨rfl, rfl⟩

theorem Len_any {w : World} {p : Nat} {v : Value} {l : List UInt8} (h : IsWriter w p v l) :
    Calls Tryz.prog 91 #[.pointer (some ⟨p, 0, none⟩)] w fun e w' => e = .returned (.int .i64 (l.length : Int)) ∧ w' = w := by
  obtain ⟨ao, cap, rfl, hb⟩ := h.own.at
  have c0 := h.c0
  have hm := wMade_yes h
  have HM := hide hm
  clear h hm hb
  go_enter Tryz.func91, Tryz.ntmps91
  go_wp2_with (go_at_call 56; refine (unhide HM).mono ?_; rintro e w' ⟨rfl, rfl⟩)
  go_ret
  exact ⟨rfl, rfl⟩

theorem Bytes_any {w : World} {p : Nat} {v : Value} {l : List UInt8} (h : IsWriter w p v l) :
    Calls Tryz.prog 27 #[.pointer (some ⟨p, 0, none⟩)] w fun e w' => e = .returned (.slice (some ⟨w.heap.size, 0, none⟩) l.length l.length) ∧
      OwnB w' w.heap.size (.slice (some ⟨w.heap.size, 0, none⟩) l.length l.length) l ∧ Below w.heap.size w w' := by
  obtain ⟨ao, cap, rfl, hb⟩ := h.own.at
  have c0 := h.c0
  have hlen := h.len
  have HM := hide (wMade_yes h)
  clear h
  go_enter Tryz.func27, Tryz.ntmps27
  go_wp2_with (first | (go_at_call 56; refine (unhide HM).mono ?_; rintro e w' ⟨rfl, rfl⟩) | fail)
  refine (copied_any ao cap l _ hb (by omega)).mono ?_
  rintro e w1 ⟨rfl, ho, hb1⟩
  go_wp2
  go_ret
  exact ⟨rfl, ho, hb1⟩

theorem IsWriter.store {w : World} {p : Nat} {v v' : Value} {l : List UInt8} (hrow : w.heap[p]? = some (.cells #[v, .bool true] 89 (0, 0))) (ho : OwnB w 0 v' l) (hne : v'.ownBlock ≠ some p) (hl : l.length ≤ 1048576) : IsWriter (w.setCell ⟨p, 0, none⟩ v') p v' l := by
  refine ⟨by rw [heap_setCell_same _ _ _ _ _ _ hrow]; rfl, ?_, hne, hl⟩
  have hg : w.grownBy (w.setCell ⟨p, 0, none⟩ v') (some p) := ⟨rfl, rfl, rfl, by simp [World.setCell], fun k _ hk => Below.heap_setCell _ _ _ _ (fun e => hk (by rw [e]))⟩
  exact ho.keep (Kept.of_grown hg) (fun k hk e => hne (by rw [hk, e]))
theorem kept_setCell (w : World) (p : Addr) (u : Value) : Kept (fun k => k = p.block) w (w.setCell p u) :=
  ⟨rfl, rfl, rfl, by simp [World.setCell], fun k _ hk => Below.heap_setCell _ _ _ _ hk⟩

theorem Put_full {w : World} {p : Nat} {v : Value} {l : List UInt8} (h : IsWriter w p v l) (b : Value) (m : List UInt8) (hb : SrcB w b m) (hm : m.length ≤ 140737488355328) (hf : 1048576 < l.length + m.length) :
    Calls Tryz.prog 47 #[.pointer (some ⟨p, 0, none⟩), b] w fun e w' => e = .returned (.int .i64 7) ∧ w' = w := by
  obtain ⟨ao, cap, rfl, _⟩ := h.own.at
  have c0 := h.c0
  have hlen := h.len
  have HM := hide (wMade_yes h)
  have hx : (1048576 : Int) - (l.length : Int) < (m.length : Int) := by omega
  rcases hb with ⟨rfl, rfl⟩ | ⟨x, c, rfl, hb⟩
  · simp at hf; omega
  · clear h hb
    go_enter Tryz.func47, Tryz.ntmps47
    go_wp2_with (go_at_call 56; refine (unhide HM).mono ?_; rintro e w' ⟨rfl, rfl⟩)
    go_ret
    exact ⟨rfl, rfl⟩

set_option maxHeartbeats 400000 in
theorem Put_ok {w : World} {p : Nat} {v : Value} {l : List UInt8} (h : IsWriter w p v l) (b : Value) (m : List UInt8) (hb : SrcB w b m) (hf : l.length + m.length ≤ 1048576) :
    Calls Tryz.prog 47 #[.pointer (some ⟨p, 0, none⟩), b] w fun e w' => e = .returned (.int .i64 0) ∧
      ∃ v', IsWriter w' p v' (l ++ m) ∧ Kept (WT p v) w w' ∧ (∀ k, v'.ownBlock = some k → v.ownBlock = some k ∨ w.heap.size ≤ k) := by
  obtain ⟨ao, cap, hv, _⟩ := h.own.at
  obtain ⟨bo, bc, hbv⟩ : ∃ bo bc, b = .slice bo m.length bc := by
    rcases hb with ⟨rfl, rfl⟩ | ⟨x, c, rfl, hb⟩
    · exact ⟨none, 0, rfl⟩
    · exact ⟨_, _, rfl⟩
  have c0 := h.c0
  have f0 := h.f0
  have hlen := h.len
  have HM := hide (wMade_yes h)
  have hx : ¬ (1048576 : Int) - (l.length : Int) < (m.length : Int) := by omega
  have HH := hide h
  have HB := hide hb
  subst hv hbv
  clear h hb
  go_enter Tryz.func47, Tryz.ntmps47
  go_wp2_with (first | (go_at_call 56; refine (unhide HM).mono ?_; rintro e w' ⟨rfl, rfl⟩) | (at_builtin; refine wpList_appendB rfl _ _ rfl 0 _ l rfl (unhide HH).own _ m rfl (unhide HB) (by omega) (Nat.zero_le _) ?_))
  intro v1 w1 ho hg hfr hnil
  obtain ⟨ao1, cap1, hv1, _⟩ := ho.at
  rw [List.length_append] at hv1
  subst hv1
  have hrow1 := (hg.block p (unhide HH).pl (fun e => (unhide HH).ne e.symm)).trans (unhide HH).row
  have hne1 : (Value.slice ao1 (l.length + m.length) cap1).ownBlock ≠ some p := by
    intro e
    rcases hfr p e with e' | e'
    · exact (unhide HH).ne e'
    · have := (unhide HH).pl; omega
  have HR := hide (IsWriter.store hrow1 ho hne1 (by simp; omega))
  have HK := hide ((Kept.of_grown hg).trans (kept_setCell w1 ⟨p, 0, none⟩ (.slice ao1 (l.length + m.length) cap1)) (U := WT p (.slice ao l.length cap)) (fun x _ hx => .inr hx.symm) (fun x _ hx => .inl hx))
  have HF := hide hfr
  have d0 : w1.cell? ⟨p, 0, none⟩ = some (.slice ao l.length cap) := by rw [cell_of_row _ _ _ _ _ _ hrow1]; rfl
  have d1 : w1.frozen? ⟨p, 0, none⟩ = false := by simp [World.frozen?, hrow1]
  clear ho hg hfr hnil hrow1 hne1 c0 f0
  go_wp2
  go_ret
  exact ⟨rfl, _, unhide HR, unhide HK, unhide HF⟩
end Go.Proofs.YtibgfdjopikafaaGreatDoor

/-
  Contracts of wire.spread and of a writer's number, Byte, Word, Long: a number in so many bytes, the high one first, is put behind; or the error. Conditions: lengths fit.
-/
namespace Go.Proofs.YtibgfdjopikafaaGreatDoor
open Go.RowKit
set_option maxRecDepth 20000

/-- The byte of a number at a place from its end. -/
def byteOf (n : Int) (j : Nat) : UInt8 := UInt8.ofNat (n / (256 : Int) ^ j % 256).toNat
theorem byteOf_eq (n : Int) (j : Nat) : ((byteOf n j).toNat : Int) = n / (256 : Int) ^ j % 256 := by
  unfold byteOf
  have h0 : 0 ≤ n / (256 : Int) ^ j % 256 := by omega
  have h1 : n / (256 : Int) ^ j % 256 < 256 := by omega
  rw [UInt8.toNat_ofNat_of_lt' (by show _ < 256; omega)]
  omega
/-- A number in so many bytes, the high one first. -/
def be (n : Int) (s : Nat) : List UInt8 := (List.range s).map fun i => byteOf n (s - 1 - i)
theorem be_length (n : Int) (s : Nat) : (be n s).length = s := by simp [be]

/-- The bytes from i on are the number's. -/
def laid (L : List UInt8) (off s : Nat) (n : Int) (i : Nat) : List UInt8 := L.take (off + i) ++ ((be n s).drop i ++ L.drop (off + s))

theorem be_get (n : Int) (s m : Nat) (h : m < s) : (be n s)[m]? = some (byteOf n (s - 1 - m)) := by
  unfold be
  rw [List.getElem?_map, List.getElem?_range h]
  rfl
theorem laid_step (L : List UInt8) (off s : Nat) (n : Int) (m : Nat) (hm : m < s) (hs : off + s ≤ L.length) :
    (laid L off s n (m + 1)).set (off + m) (byteOf n (s - 1 - m)) = laid L off s n m := by
  have h1 : off + m < L.length := by omega
  have h2 : m < (be n s).length := by rw [be_length]; exact hm
  have e1 : L.take (off + (m + 1)) = L.take (off + m) ++ [L[off + m]] := List.take_succ_eq_append_getElem h1
  have e2 : (be n s).drop m = byteOf n (s - 1 - m) :: (be n s).drop (m + 1) := by
    have := be_get n s m hm
    rw [List.getElem?_eq_getElem h2] at this
    injection this with this
    rw [List.drop_eq_getElem_cons h2, this]
  have hl : (L.take (off + m)).length = off + m := by simp; omega
  unfold laid
  rw [e1, e2, List.append_assoc, List.set_append_right _ _ (by omega), hl, Nat.sub_self]
  simp
theorem laid_length (L : List UInt8) (off s : Nat) (n : Int) (i : Nat) (hi : i ≤ s) (hs : off + s ≤ L.length) : (laid L off s n i).length = L.length := by
  unfold laid
  simp [be_length]
  omega
theorem bvals_set (L : List UInt8) (j : Nat) (x : UInt8) : (bvals L).set j (.int .u8 (x.toNat : Int)) = bvals (L.set j x) := by
  unfold bvals
  rw [List.map_set]
theorem div_step (n : Int) (s m : Nat) (h : m < s) : n / 256 ^ (s - (m + 1)) / 256 = n / (256 : Int) ^ (s - m) := by
  rw [show s - m = (s - (m + 1)) + 1 from by omega, Int.pow_succ, Int.ediv_ediv_of_nonneg (Int.pow_nonneg (by omega))]

set_option maxHeartbeats 400000 in
theorem spread_any {w : World} {base g N cap off s c : Nat} {L : List UInt8} (n : Int) (h : OwnB w base (.slice (some ⟨g, 0, none⟩) N cap) L) (hN : N = L.length) (hs : off + s ≤ L.length) (hs8 : s ≤ 8) :
    Calls Tryz.prog 120 #[.slice (some ⟨g, off, none⟩) s c, .int .i64 n] w fun e w' => e = .returned (.tuple #[]) ∧ OwnB w' base (.slice (some ⟨g, 0, none⟩) N cap) (laid L off s n 0) ∧ w.grownBy w' (some g) := by
  go_enter Tryz.func120, Tryz.ntmps120
  go_wp2
  go_loopw [1, 4] (fun z i wr => ∃ k : Nat, k ≤ s ∧ i = .int .i64 ((k : Int) - 1) ∧ z = .int .i64 (n / 256 ^ (s - k)) ∧ OwnB wr base (.slice (some ⟨g, 0, none⟩) N cap) (laid L off s n k) ∧ w.grownBy wr (some g)) (fun _ i _ => (intOf i + 1).toNat)
  case atStart =>
    refine ⟨s, Nat.le_refl _, rfl, by simp, ?_, World.grownBy.refl _ _⟩
    have : laid L off s n s = L := by
      unfold laid
      rw [List.drop_eq_nil_of_le (by rw [be_length]; omega), List.nil_append, List.take_append_drop]
    rw [this]; exact h
  case round =>
    obtain ⟨k, hk, rfl, rfl, hO, hG⟩ := hrel
    cases k with
    | zero =>
      go_wp2
      go_end0
      exact ⟨rfl, hO, hG⟩
    | succ m =>
      have hll := laid_length L off s n (m + 1) hk hs
      have hO' : wr.ownsRow base 5 1 (.slice (some ⟨g, 0, none⟩) N cap) N (bvals (laid L off s n (m + 1))) := by
        have := hO; unfold OwnB at this; rw [hll, ← hN] at this; exact this
      have c1 : ∃ u, wr.cell? ⟨g, off + m, none⟩ = some u := by
        have := hO'.cellAt (off + m) (by omega)
        rw [this, bvals_get (by omega)]
        exact ⟨_, rfl⟩
      obtain ⟨u, c1⟩ := c1
      have f1 := hO'.frozenAt (off + m)
      have hst := hO'.stored (off + m) (.int .u8 (n / 256 ^ (s - (m + 1)) % 256))
      have hb := byteOf_eq n (s - (m + 1))
      have HO : Hid (OwnB (wr.setCell ⟨g, off + m, none⟩ (.int .u8 (n / 256 ^ (s - (m + 1)) % 256))) base (.slice (some ⟨g, 0, none⟩) N cap) (laid L off s n m)) := hide (by
        have h1 := hst.1
        rw [← hb, bvals_set, show s - (m + 1) = s - 1 - m from by omega, laid_step L off s n m (by omega) hs] at h1
        unfold OwnB
        rw [laid_length L off s n m (by omega) hs, ← hN]
        rw [← hb, show s - (m + 1) = s - 1 - m from by omega]
        exact h1)
      have HG : Hid (w.grownBy (wr.setCell ⟨g, off + m, none⟩ (.int .u8 (n / 256 ^ (s - (m + 1)) % 256))) (some g)) := hide ⟨hst.2.os.trans hG.os, hst.2.tape.trans hG.tape, hst.2.output.trans hG.output, Nat.le_trans hG.size hst.2.size, fun k hk hne => (hst.2.block k (Nat.lt_of_lt_of_le hk hG.size) hne).trans (hG.block k hk hne)⟩
      have HD := hide (div_step n s m (by omega))
      clear hst hb hO hO' hG
      rw [show (((m + 1 : Nat) : Int) - 1) = (m : Int) from by omega]
      have i1 : (m : Int) < (s : Int) := by omega
      go_wp2
      go_roundw
      case rel => exact ⟨m, by omega, rfl, val_int (unhide HD), unhide HO, unhide HG⟩
      case measure => simp [intOf]

theorem laid_all (L : List UInt8) (s : Nat) (n : Int) (h : L.length = s) : laid L 0 s n 0 = be n s := by
  unfold laid
  rw [List.drop_zero, List.take_zero, List.nil_append, List.drop_eq_nil_of_le (by omega), List.append_nil]

theorem wnumber_range {w : World} {p : Nat} {v : Value} {l : List UInt8} (h : IsWriter w p v l) (n s a b : Int) (hr : n < a ∨ b < n) :
    Calls Tryz.prog 95 #[.pointer (some ⟨p, 0, none⟩), .int .i64 n, .int .i64 s, .int .i64 a, .int .i64 b] w fun e w' => e = .returned (.int .i64 5) ∧ w' = w := by
  have HM := hide (wMade_yes h)
  by_cases h1 : n < a
  · go_enter Tryz.func95, Tryz.ntmps95
    go_wp2_with (go_at_call 56; refine (unhide HM).mono ?_; rintro e w' ⟨rfl, rfl⟩)
    go_ret
    exact ⟨rfl, rfl⟩
  · have h2 : b < n := by omega
    go_enter Tryz.func95, Tryz.ntmps95
    go_wp2_with (go_at_call 56; refine (unhide HM).mono ?_; rintro e w' ⟨rfl, rfl⟩)
    go_ret
    exact ⟨rfl, rfl⟩

set_option maxHeartbeats 400000 in
theorem wnumber_any {w : World} {p : Nat} {v : Value} {l : List UInt8} (h : IsWriter w p v l) (n a b : Int) (s : Nat) (h1 : ¬ n < a) (h2 : ¬ b < n) (hs : s ≤ 8) :
    Calls Tryz.prog 95 #[.pointer (some ⟨p, 0, none⟩), .int .i64 n, .int .i64 (s : Int), .int .i64 a, .int .i64 b] w fun e w' =>
      (l.length + s ≤ 1048576 → e = .returned (.int .i64 0) ∧ ∃ v', IsWriter w' p v' (l ++ be n s) ∧ Kept (WT p v) w w' ∧ (∀ k, v'.ownBlock = some k → v.ownBlock = some k ∨ w.heap.size ≤ k)) ∧
      (1048576 < l.length + s → e = .returned (.int .i64 7) ∧ IsWriter w' p v l ∧ Below w.heap.size w w') := by
  obtain ⟨i0, hi, hz0, hz1, hz2⟩ := info_parts info8
  have HM := hide (wMade_yes h)
  go_enter Tryz.func95, Tryz.ntmps95
  go_wp2_with (first | (go_at_call 56; refine (unhide HM).mono ?_; rintro e w' ⟨rfl, rfl⟩) | (refine wpList_make_full _ rfl _ _ 28 rfl _ 5 i0 (.int .u8 0) 1 Tryz.underlying28 hi hz0 hz1 .i64 .i64 _ _ s rfl rfl rfl rfl (by rw [hz2]; omega) (by unfold maxLen; omega) (Nat.le_refl _) ?_))
  intro w1 hown hgr
  have hz : (madeCells #[Value.int .u8 0] s).toList = bvals (List.replicate s 0) := by rw [toList_madeCells_one]; simp [bvals]
  rw [hz] at hown
  have hO1 : OwnB w1 w'.heap.size (.slice (some ⟨w'.heap.size, 0, none⟩) s s) (List.replicate s 0) := by unfold OwnB; rw [List.length_replicate]; exact hown
  have hB1 : Below w'.heap.size w' w1 := below_grown hgr (Nat.le_refl _) (fun k e => by cases e)
  clear hown hgr hz
  go_wp2_with fail
  refine (spread_any (off := 0) (s := s) (c := s) n hO1 (by rw [List.length_replicate]) (by rw [List.length_replicate]; omega) hs).mono ?_
  rintro e w2 ⟨rfl, hO2, hG2⟩
  rw [laid_all _ _ _ (by rw [List.length_replicate])] at hO2
  have hB2 : Below w'.heap.size w' w2 := hB1.grown hG2 hB1.size (fun k e => by cases e; exact Nat.le_refl _)
  have hW2 : IsWriter w2 p v l := h.below hB2
  have hsrc : SrcB w2 (.slice (some ⟨w'.heap.size, 0, none⟩) s s) (be n s) := hO2.src
  clear hO1 hO2 hG2 hB1
  go_wp2_with fail
  by_cases hf : l.length + s ≤ 1048576
  · refine (Put_ok hW2 _ (be n s) hsrc (by rw [be_length]; exact hf)).mono ?_
    rintro e w3 ⟨rfl, v', hW3, hK3, hF3⟩
    have HK : Hid (Kept (WT p v) w' w3) := hide ((Kept.of_below hB2 (fun _ => False)).trans hK3 (fun _ _ h => h.elim) (fun _ _ h => h))
    have HF : Hid (∀ k, v'.ownBlock = some k → v.ownBlock = some k ∨ w'.heap.size ≤ k) := hide (fun k hk => Or.elim (hF3 k hk) Or.inl (fun h => Or.inr (Nat.le_trans hB2.size h)))
    have HW := hide hW3
    clear hW3 hK3 hF3
    go_wp2
    go_ret
    exact ⟨fun _ => ⟨rfl, v', unhide HW, unhide HK, unhide HF⟩, fun h => absurd h (by omega)⟩
  · refine (Put_full hW2 _ (be n s) hsrc (by rw [be_length]; omega) (by rw [be_length]; omega)).mono ?_
    rintro e w3 ⟨rfl, rfl⟩
    go_wp2
    go_ret
    exact ⟨fun h => absurd h hf, fun _ => ⟨rfl, hW2, hB2⟩⟩
end Go.Proofs.YtibgfdjopikafaaGreatDoor

/-
  Contracts of a writer's Byte, Word, Long, Put, Name, Patch in one form each: the error and the bytes behind as plain functions. Conditions: lengths fit.
-/
namespace Go.Proofs.YtibgfdjopikafaaGreatDoor
open Go.RowKit
set_option maxRecDepth 20000

/-- What holds behind a writer's call: the error, the bytes, and that nothing but the writer's own has turned. -/
def WPost (w : World) (p : Nat) (v : Value) (code : Int) (l' : List UInt8) (e : Ending) (w' : World) : Prop :=
  e = .returned (.int .i64 code) ∧ ∃ v', IsWriter w' p v' l' ∧ Kept (WT p v) w w' ∧ (∀ k, v'.ownBlock = some k → v.ownBlock = some k ∨ w.heap.size ≤ k)

theorem WPost.same {w w' : World} {p : Nat} {v : Value} {l : List UInt8} {code : Int} (h : IsWriter w p v l) (hb : Below w.heap.size w w') : WPost w p v code l (.returned (.int .i64 code)) w' :=
  ⟨rfl, v, h.below hb, Kept.of_below hb _, fun _ hk => .inl hk⟩

/-- A number of s bytes. -/
def loN (s : Nat) : Int := if s = 4 then -2147483648 else 0
def hiN (s : Nat) : Int := if s = 1 then 255 else if s = 2 then 65535 else 2147483647
def wE (l : List UInt8) (n : Int) (s : Nat) : Int := if n < loN s ∨ hiN s < n then 5 else if 1048576 < l.length + s then 7 else 0
def wL (l : List UInt8) (n : Int) (s : Nat) : List UInt8 := if wE l n s = 0 then l ++ be n s else l
/-- Bytes. -/
def jE (l m : List UInt8) : Int := if 1048576 < l.length + m.length then 7 else 0
def jL (l m : List UInt8) : List UInt8 := if jE l m = 0 then l ++ m else l
/-- A name's bytes. -/
def nb (s : ByteArray) : List UInt8 := UInt8.ofNat s.size :: s.data.toList
def nE (l : List UInt8) (s : ByteArray) : Int := if nameB s then jE l (nb s) else 6
def nL (l : List UInt8) (s : ByteArray) : List UInt8 := if nE l s = 0 then l ++ nb s else l
/-- A word in the place of two bytes. -/
def pE (l : List UInt8) (at_ n : Int) : Int := if n < 0 ∨ 65535 < n then 5 else if at_ < 0 ∨ (l.length : Int) - 2 < at_ then 1 else 0
def pL (l : List UInt8) (at_ n : Int) : List UInt8 := if pE l at_ n = 0 then laid l at_.toNat 2 n 0 else l

theorem wnumber_u {w : World} {p : Nat} {v : Value} {l : List UInt8} (h : IsWriter w p v l) (n : Int) (s : Nat) (hs : s = 1 ∨ s = 2 ∨ s = 4) :
    Calls Tryz.prog 95 #[.pointer (some ⟨p, 0, none⟩), .int .i64 n, .int .i64 (s : Int), .int .i64 (loN s), .int .i64 (hiN s)] w (WPost w p v (wE l n s) (wL l n s)) := by
  by_cases hr : n < loN s ∨ hiN s < n
  · have e1 : wE l n s = 5 := by unfold wE; rw [if_pos hr]
    have e2 : wL l n s = l := by unfold wL; rw [e1]; rfl
    rw [e1, e2]
    refine (wnumber_range h n s _ _ hr).mono ?_
    rintro e w' ⟨rfl, rfl⟩
    exact WPost.same h (Below.refl _ _)
  · refine (wnumber_any h n _ _ s (by omega) (by omega) (by omega)).mono ?_
    rintro e w' ⟨ha, hb⟩
    by_cases hf : 1048576 < l.length + s
    · have e1 : wE l n s = 7 := by unfold wE; rw [if_neg hr, if_pos hf]
      have e2 : wL l n s = l := by unfold wL; rw [e1]; rfl
      rw [e1, e2]
      obtain ⟨rfl, _, h2⟩ := hb hf
      exact WPost.same h h2
    · have e1 : wE l n s = 0 := by unfold wE; rw [if_neg hr, if_neg hf]
      have e2 : wL l n s = l ++ be n s := by unfold wL; rw [e1]; rfl
      rw [e1, e2]
      exact ha (by omega)

theorem Put_u {w : World} {p : Nat} {v : Value} {l : List UInt8} (h : IsWriter w p v l) (b : Value) (m : List UInt8) (hb : SrcB w b m) (hm : m.length ≤ 140737488355328) :
    Calls Tryz.prog 47 #[.pointer (some ⟨p, 0, none⟩), b] w (WPost w p v (jE l m) (jL l m)) := by
  by_cases hf : 1048576 < l.length + m.length
  · have e1 : jE l m = 7 := by unfold jE; rw [if_pos hf]
    have e2 : jL l m = l := by unfold jL; rw [e1]; rfl
    rw [e1, e2]
    refine (Put_full h b m hb hm hf).mono ?_
    rintro e w' ⟨rfl, rfl⟩
    exact WPost.same h (Below.refl _ _)
  · have e1 : jE l m = 0 := by unfold jE; rw [if_neg hf]
    have e2 : jL l m = l ++ m := by unfold jL; rw [e1]; rfl
    rw [e1, e2]
    refine (Put_ok h b m hb (by omega)).mono ?_
    rintro e w' ⟨rfl, h2⟩
    exact ⟨rfl, h2⟩

theorem wByte_u {w : World} {p : Nat} {v : Value} {l : List UInt8} (h : IsWriter w p v l) (n : Int) :
    Calls Tryz.prog 93 #[.pointer (some ⟨p, 0, none⟩), .int .i64 n] w (WPost w p v (wE l n 1) (wL l n 1)) := by
  go_enter Tryz.func93, Tryz.ntmps93
  go_wp2_with fail
  refine (wnumber_u h n 1 (by omega)).mono ?_
  rintro e w' ⟨rfl, hP⟩
  go_wp2
  go_ret
  exact ⟨rfl, hP⟩
theorem wWord_u {w : World} {p : Nat} {v : Value} {l : List UInt8} (h : IsWriter w p v l) (n : Int) :
    Calls Tryz.prog 119 #[.pointer (some ⟨p, 0, none⟩), .int .i64 n] w (WPost w p v (wE l n 2) (wL l n 2)) := by
  go_enter Tryz.func119, Tryz.ntmps119
  go_wp2_with fail
  refine (wnumber_u h n 2 (by omega)).mono ?_
  rintro e w' ⟨rfl, hP⟩
  go_wp2
  go_ret
  exact ⟨rfl, hP⟩
theorem wLong_u {w : World} {p : Nat} {v : Value} {l : List UInt8} (h : IsWriter w p v l) (n : Int) :
    Calls Tryz.prog 53 #[.pointer (some ⟨p, 0, none⟩), .int .i64 n] w (WPost w p v (wE l n 4) (wL l n 4)) := by
  go_enter Tryz.func53, Tryz.ntmps53
  go_wp2_with fail
  refine (wnumber_u h n 4 (by omega)).mono ?_
  rintro e w' ⟨rfl, hP⟩
  go_wp2
  go_ret
  exact ⟨rfl, hP⟩

/-- 'append([]byte{x}, s...)', s a text that is not empty: a row of its own. -/
theorem run_append_str (w : World) (x : UInt8) (z : Int) (hz : z = (x.toNat : Int)) (s : ByteArray) (h0 : 0 < s.size) (h1 : s.size ≤ 24) (ty : TypeId) :
    ∃ v' w', (Builtin.append_ #[28, 9] ty #[.slice (some ⟨w.heap.size, 0, none⟩) 1 1, .string s]).run Tryz.prog (w.alloc (.cells #[.int .u8 z] 5)) = .ok v' w' ∧
      OwnB w' w.heap.size v' (x :: s.data.toList) ∧ Below w.heap.size w w' := by
  obtain ⟨i0, hi, hz0, hz1, hz2⟩ := info_parts info8
  have hb := BAt.one w x z hz 5
  have hsz : (w.alloc (.cells #[.int .u8 z] 5)).heap.size = w.heap.size + 1 := by simp
  have hfc := run_firstCells_some (P := Tryz.prog) (w.alloc (.cells #[.int .u8 z] 5)).drew i0.size 1 ⟨w.heap.size, 0, none⟩ 1 1 (bvals [x]) (by rw [hz1]; rfl) hb.cells
  have hr := run_append_grow_src (P := Tryz.prog) (w.alloc (.cells #[.int .u8 z] 5)) 28 9 ty 5 i0 (.int .u8 0) Tryz.underlying28 hi hz0 (some ⟨w.heap.size, 0, none⟩) 1 1 (bvals [x]) hfc (.string s) s.size (byteCells s)
    (by rw [hz1]; exact Src.ofString _ Tryz.underlying9 s) (by omega) (by omega) (growslice_fits (by omega) (by rw [hz2]; omega))
  refine ⟨_, _, hr, ?_, ?_⟩
  · have hbc : bvals [x] ++ byteCells s = bvals (x :: s.data.toList) := by simp [bvals, byteCells]
    have hll : (x :: s.data.toList).length = 1 + s.size := by simp; omega
    have hge := grownCap_ge (w.alloc (.cells #[.int .u8 z] 5)) (1 + s.size) 1 5
    have hcm := grownCap_le_maxLen (w.alloc (.cells #[.int .u8 z] 5)) (1 + s.size) 1 5 (by unfold maxLen; omega)
    refine ⟨by rw [bvals_length]; omega, .inr ⟨_, _, _, by rw [hll]; rfl, by show w.heap.size ≤ (w.alloc _).heap.size; rw [hsz]; omega, heap_alloc_new _ _, by rw [hll]; exact hge, hcm, ?_, ?_⟩⟩
    · rw [hbc]
      simp only [Array.size_append, List.size_toArray, size_zeroCells, bvals_length, hll]
      have : (Value.int IntKind.u8 0).cells.size = 1 := rfl
      rw [this]
      omega
    · rw [hbc, Array.toList_append, hll]
      rw [show (1 + s.size) * 1 = (bvals (x :: s.data.toList)).length from by rw [bvals_length, hll]; omega]
      exact List.take_left
  · exact (((Below.refl _ w).alloc (Nat.le_refl _) _).drew).alloc (by show w.heap.size ≤ (w.alloc _).heap.size; rw [hsz]; omega) _

theorem wpList_appendStr {w : World} {ops : Array Oper} {rest : List Oper} {o : Oper} {a : Act} {Q : Exit → Act → World → Prop} (hgd : o.guard = none) (s x : Operand)
    (ho : o.op = .call { callee := .builtin .append, args := #[s, x], argTypes := #[28, 9] }) (y : UInt8) (z : Int) (hz : z = (y.toNat : Int)) (t : ByteArray) (h0 : 0 < t.size) (h1 : t.size ≤ 24)
    (hs : a.eval s = .slice (some ⟨w.heap.size, 0, none⟩) 1 1) (hx : a.eval x = .string t)
    (h : ∀ v' w', OwnB w' w.heap.size v' (y :: t.data.toList) → Below w.heap.size w w' → wpList Tryz.prog ops Q rest (a.put o.dst v') w') :
    wpList Tryz.prog ops Q (o :: rest) a (w.alloc (.cells #[.int .u8 z] 5)) := by
  refine wpList_plain hgd fun K hK => ?_
  obtain ⟨v', w', hrun, h2, h3⟩ := run_append_str w y z hz t h0 h1 o.type
  unfold Oper.wp
  simp [execOp, ho, resolve, invoke, builtin, hs, hx, hrun, Result.andThen]
  exact hK _ _ (h v' w' h2 h3)

theorem name_size {s : ByteArray} (h : nameB s = true) : 1 ≤ s.size ∧ s.size ≤ 24 := by
  unfold nameB at h
  simp only [Bool.and_eq_true, decide_eq_true_eq] at h
  exact ⟨h.1.1.1, h.1.1.2⟩

set_option maxHeartbeats 400000 in
theorem wName_u {w : World} {p : Nat} {v : Value} {l : List UInt8} (h : IsWriter w p v l) (s : ByteArray) (hs : s.size ≤ maxLen) :
    Calls Tryz.prog 92 #[.pointer (some ⟨p, 0, none⟩), .string s] w (WPost w p v (nE l s) (nL l s)) := by
  have HM := hide (wMade_yes h)
  cases hn : nameB s
  · have e1 : nE l s = 6 := by unfold nE; rw [hn]; rfl
    have e2 : nL l s = l := by unfold nL; rw [e1]; rfl
    rw [e1, e2]
    have HN := hide hn
    clear hn e1 e2
    go_enter Tryz.func92, Tryz.ntmps92
    go_wp2_with (first | (go_at_call 56; refine (unhide HM).mono ?_; rintro e w' ⟨rfl, rfl⟩) | (go_at_call 40; refine (IsName_any s _ hs).mono ?_; rintro e w' ⟨rfl, rfl⟩; rw [unhide HN]))
    go_ret
    exact WPost.same h (Below.refl _ _)
  · have e1 : nE l s = jE l (nb s) := by unfold nE; rw [hn]; rfl
    have e2 : nL l s = jL l (nb s) := by unfold nL jL; rw [e1]
    rw [e1, e2]
    obtain ⟨hs1, hs24⟩ := name_size hn
    have HN := hide hn
    have hsz : (s.size : Int) % 256 = (s.size : Int) := by omega
    have hx : ((s.size : Nat) : Int) = ((UInt8.ofNat s.size).toNat : Int) := by rw [UInt8.toNat_ofNat_of_lt' (by show _ < 256; omega)]
    have HX := hide hx
    have HH := hide h
    clear hn e1 e2 h hx
    go_enter Tryz.func92, Tryz.ntmps92
    go_wp2_with (first | (go_at_call 56; refine (unhide HM).mono ?_; rintro e w' ⟨rfl, rfl⟩) | (go_at_call 40; refine (IsName_any s _ hs).mono ?_; rintro e w' ⟨rfl, rfl⟩; rw [unhide HN]) | (at_builtin; refine wpList_appendStr rfl _ _ rfl (UInt8.ofNat s.size) _ (unhide HX) s (by omega) hs24 rfl rfl ?_))
    intro v1 w1 hO hB
    have hO' : OwnB w1 _ v1 (nb s) := hO
    have hW1 := (unhide HH).below hB
    have HO := hide hO'
    have HB := hide hB
    clear hO hO' hB
    go_wp2_with fail
    refine (Put_u hW1 v1 (nb s) (unhide HO).src (by simp [nb]; omega)).mono ?_
    rintro e w2 ⟨rfl, v2, hW2, hK2, hF2⟩
    have HK := hide (Kept.trans (U := WT p v) (Kept.of_below (unhide HB) (fun _ => False)) hK2 (fun _ _ h => h.elim) (fun _ _ h => h))
    have HF := hide (fun k hk => Or.elim (hF2 k hk) Or.inl (fun h => Or.inr (Nat.le_trans (unhide HB).size h)))
    have HW := hide hW2
    clear hK2 hF2 hW2
    go_wp2
    go_ret
    exact ⟨rfl, v2, unhide HW, unhide HK, unhide HF⟩

end Go.Proofs.YtibgfdjopikafaaGreatDoor
