/-
  Texts of contracts and plain lemmas, one behind another; each says at its head what it holds.
-/
import Derived.Test.YthdgbdjagjagpaaGreatDoorApp
import Derived.Test.YthdgbdjagjagpaaGreatDoorMem
import Derived.Laws.CopyOwn
import Derived.Maps.AppendAt
/-
  The law of 'append(v, b...)' for a row of bytes of one's own, as in the text on append, and besides: what comes is in the same block, and nothing but that block has turned; or it is in a new block, and nothing old has turned. Conditions: the sum of the lengths fits.
-/
namespace Go.Proofs.YthdgbdjagjagpaaGreatDoor
open Go.RowKit
set_option maxRecDepth 20000

theorem wpList_appendB2 {w : World} {ops : Array Oper} {rest : List Oper} {o : Oper} {a : Act} {Q : Exit → Act → World → Prop} (hgd : o.guard = none) (s x : Operand)
    (ho : o.op = .call { callee := .builtin .append, args := #[s, x], argTypes := #[22, 22] })
    (base : Nat) (v : Value) (l : List UInt8) (hs : a.eval s = v) (hown : OwnB w base v l) (b : Value) (m : List UInt8) (hx : a.eval x = b) (hb : SrcB w b m) (hfit : l.length + m.length ≤ 140737488355328) (hbase : base ≤ w.heap.size)
    (h : ∀ v' w', OwnB w' base v' (l ++ m) → ((w.grownBy w' v.ownBlock ∧ ∃ ao n n' c, v = .slice ao n c ∧ v' = .slice ao n' c) ∨ (Below w.heap.size w w' ∧ ∀ k, v'.ownBlock = some k → w.heap.size ≤ k)) → wpList Tryz.prog ops Q rest (a.put o.dst v') w') :
    wpList Tryz.prog ops Q (o :: rest) a w := by
  obtain ⟨i0, hi, hz0, hz1, hz2⟩ := info_parts info8
  rcases hb with ⟨rfl, rfl⟩ | ⟨y, c, rfl, hb⟩
  · refine wpList_append_own_none hgd s x 22 ho base 5 i0 1 Tryz.underlying22 hi v l.length (bvals l) hs hown hx ?_
    exact h v w (by rw [List.append_nil]; exact hown) (.inl ⟨World.grownBy.refl _ _, by obtain ⟨ao, c, e, _⟩ := hown.at; exact ⟨ao, _, _, c, e, e⟩⟩)
  · have hmm : (bvals l ++ bvals m) = bvals (l ++ m) := bvals_append l m
    have hll : l.length + m.length = (l ++ m).length := by simp
    rcases hown.shape with ⟨rfl, rfl⟩ | ⟨g, cap, rfl, hg1, hg2, hg3, hg4, hg5⟩
    · by_cases hm0 : m = []
      · subst hm0
        refine wpList_append_own w hgd s x 22 ho base 5 i0 (.int .u8 0) 1 1 Tryz.underlying22 hi hz0 hz1 hz2 rfl (by decide) _ 0 [] hs hown y 0 c [] hx rfl (by simp) (by simp) (by decide) (by decide) hbase ?_
        intro v' w' h1 h2 h3
        obtain rfl := h3.2 ⟨rfl, rfl⟩
        exact h _ w' h1 (.inl ⟨h2, _, _, _, _, rfl, rfl⟩)
      · refine wpList_append_grows w hgd s x 22 ho 5 i0 (.int .u8 0) 1 1 Tryz.underlying22 hi hz0 hz1 hz2 rfl (by decide) none 0 0 [] hs (fun _ => ⟨rfl, rfl⟩) rfl (fun b e => by cases e) y m.length c (bvals m) hx (by rw [bvals_length]; omega) hb.cells (bvals_one m) (by have := List.length_pos_iff.2 hm0; omega) (by unfold maxLen; omega) (by omega) ?_
        intro v' w' h1 h2
        rw [Nat.zero_add, List.nil_append] at h1
        have hO : OwnB w' w.heap.size v' m := h1
        exact h v' w' (hO.mono hbase) (.inr ⟨below_grown h2 (Nat.le_refl _) (fun k e => by cases e), fun k hk => (h1.lt k hk).1⟩)
    · by_cases hroom : l.length + m.length ≤ cap
      · refine wpList_append_fits w hgd s x 22 ho base 5 i0 1 Tryz.underlying22 hi hz1 g l.length cap (bvals l) hs hown y m.length c (bvals m) hx (by rw [bvals_length]; omega) hb.cells (bvals_one m) hroom ?_
        intro w' h1 h2
        rw [hmm] at h1
        exact h _ w' (by unfold OwnB; rw [← hll]; exact h1) (.inl ⟨h2, _, _, _, _, rfl, rfl⟩)
      · refine wpList_append_grows w hgd s x 22 ho 5 i0 (.int .u8 0) 1 1 Tryz.underlying22 hi hz0 hz1 hz2 rfl (by decide) (some ⟨g, 0, none⟩) l.length cap (bvals l) hs (fun e => by cases e) (by rw [bvals_length]; omega) (fun b e => by cases e; exact hg5.cells) y m.length c (bvals m) hx (by rw [bvals_length]; omega) hb.cells (bvals_one m) (by omega) (by unfold maxLen; omega) (by omega) ?_
        intro v' w' h1 h2
        rw [hmm] at h1
        have hO : OwnB w' w.heap.size v' (l ++ m) := by unfold OwnB; rw [← hll]; exact h1
        exact h v' w' (hO.mono hbase) (.inr ⟨below_grown h2 (Nat.le_refl _) (fun k e => by cases e), fun k hk => (h1.lt k hk).1⟩)
end Go.Proofs.YthdgbdjagjagpaaGreatDoor

/-
  The contract of wire.copied: a row of its own with the same bytes, never nil. Conditions: the length fits.
-/
namespace Go.Proofs.YthdgbdjagjagpaaGreatDoor
open Go.RowKit
set_option maxRecDepth 20000

theorem size8 : (Tryz.prog.info? 5).map (·.size) = some 1 := by kernel_rfl

theorem splice_all {α : Type} (L cs : List α) (h : L.length = cs.length) : splice L 0 cs = cs := by
  unfold splice
  rw [List.take_zero, List.nil_append, List.drop_eq_nil_of_le (by omega), List.append_nil]

end Go.Proofs.YthdgbdjagjagpaaGreatDoor

/-
  What a writer is in memory ('IsWriter'), and the contracts of wire.New and of a writer's Len, Bytes, Put. Conditions: lengths fit.
-/
namespace Go.Proofs.YthdgbdjagjagpaaGreatDoor
open Go.RowKit
set_option maxRecDepth 20000

/-- What may have turned: the blocks of S, and nothing else that was there. -/
structure Kept (S : Nat → Prop) (w w' : World) : Prop where
  os : w'.os = w.os
  tape : w'.tape = w.tape
  output : w'.output = w.output
  size : w.heap.size ≤ w'.heap.size
  block : ∀ k, k < w.heap.size → ¬ S k → w'.heap[k]? = w.heap[k]?
theorem Kept.refl (S : Nat → Prop) (w : World) : Kept S w w := ⟨rfl, rfl, rfl, Nat.le_refl _, fun _ _ _ => rfl⟩
theorem Kept.trans {S T U : Nat → Prop} {a b c : World} (h : Kept S a b) (k : Kept T b c) (h1 : ∀ x, x < a.heap.size → S x → U x) (h2 : ∀ x, x < a.heap.size → T x → U x) : Kept U a c :=
  ⟨k.os.trans h.os, k.tape.trans h.tape, k.output.trans h.output, Nat.le_trans h.size k.size, fun i hi hu => (k.block i (Nat.lt_of_lt_of_le hi h.size) (fun ht => hu (h2 i hi ht))).trans (h.block i hi (fun hs => hu (h1 i hi hs)))⟩
theorem Kept.mono {S T : Nat → Prop} {a b : World} (h : Kept S a b) (h1 : ∀ x, x < a.heap.size → S x → T x) : Kept T a b :=
  ⟨h.os, h.tape, h.output, h.size, fun k hk ht => h.block k hk (fun hs => ht (h1 k hk hs))⟩
theorem Kept.of_below {w w' : World} (h : Below w.heap.size w w') (S : Nat → Prop) : Kept S w w' := ⟨h.os, h.tape, h.output, h.size, fun k hk _ => h.block k hk⟩
theorem Kept.of_grown {w w' : World} {row : Option Nat} (h : w.grownBy w' row) : Kept (fun k => some k = row) w w' := ⟨h.os, h.tape, h.output, h.size, h.block⟩
theorem Kept.below {S : Nat → Prop} {B : Nat} {w0 w w' : World} (h : Kept S w w') (hb : Below B w0 w) (hB : B ≤ w.heap.size) (hs : ∀ k, S k → B ≤ k) : Below B w0 w' :=
  hb.trans ⟨h.os, h.tape, h.output, h.size, fun k hk => h.block k (by omega) (fun hk' => by have := hs k hk'; omega)⟩
theorem BAt.keep {S : Nat → Prop} {w w' : World} {ao : Option Addr} {l : List UInt8} (h : BAt w ao l) (hk : Kept S w w') (hs : ∀ b off, ao = some ⟨b, off, none⟩ → 0 < l.length → ¬ S b) : BAt w' ao l := by
  intro i hi
  obtain ⟨b, off, e, hc⟩ := h i hi
  exact ⟨b, off, e, (World.cell?_of_block (hk.block b (World.block_lt_of_cell? w _ hc) (hs b off e (by omega)))).trans hc⟩

/-- What a writer's calls may turn. -/
def WT (p : Nat) (v : Value) (k : Nat) : Prop := k = p ∨ v.ownBlock = some k

theorem OwnB.keep {S : Nat → Prop} {w w' : World} {base : Nat} {v : Value} {l : List UInt8} (h : OwnB w base v l) (hk : Kept S w w') (hs : ∀ k, v.ownBlock = some k → ¬ S k) : OwnB w' base v l := by
  refine ⟨h.1, ?_⟩
  rcases h.2 with h1 | ⟨g, cap, cur, hv, hbg, hh, r⟩
  · exact Or.inl h1
  · exact Or.inr ⟨g, cap, cur, hv, hbg, by rw [hk.block g (Array.getElem?_eq_some_iff.1 hh).1 (hs g (by rw [hv]; rfl))]; exact hh, r⟩
theorem kept_setCell (w : World) (p : Addr) (u : Value) : Kept (fun k => k = p.block) w (w.setCell p u) :=
  ⟨rfl, rfl, rfl, by simp [World.setCell], fun k _ hk => Below.heap_setCell _ _ _ _ hk⟩

end Go.Proofs.YthdgbdjagjagpaaGreatDoor

/-
  The shelf of the laws: what it holds, contracts of its Bytes, of mark and of marked. Conditions: at most a million lists.
-/
namespace Go.Proofs.YthdgbdjagjagpaaGreatDoor
open Go.RowKit
set_option maxRecDepth 20000

theorem rowKeep {S : Nat → Prop} {w w' : World} {B : Nat} {t : TypeId} {v : Value} {n : Nat} {cs : List Value} (h : w.ownsRow B t 1 v n cs) (hk : Kept S w w') (hs : ∀ k, v.ownBlock = some k → ¬ S k) : w'.ownsRow B t 1 v n cs := by
  refine ⟨h.1, ?_⟩
  rcases h.2 with h1 | ⟨g, cap, cur, hv, hbg, hh, r⟩
  · exact Or.inl h1
  · exact Or.inr ⟨g, cap, cur, hv, hbg, by rw [hk.block g (Array.getElem?_eq_some_iff.1 hh).1 (hs g (by rw [hv]; rfl))]; exact hh, r⟩
theorem rowType {w : World} {B : Nat} {t : TypeId} {v : Value} {n : Nat} {cs : List Value} (h : w.ownsRow B t 1 v n cs) : ∀ k, v.ownBlock = some k → ∃ cur, w.heap[k]? = some (.cells cur t (0, 0)) := by
  intro k hk
  rcases h.2 with ⟨rfl, _⟩ | ⟨g, cap, cur, rfl, _, hh, _⟩
  · cases hk
  · cases hk; exact ⟨cur, hh⟩
/-- Rows of different types of elements lie in different blocks. -/
theorem rowApart {w : World} {B B' : Nat} {t t' : TypeId} {v v' : Value} {n n' : Nat} {cs cs' : List Value} (h : w.ownsRow B t 1 v n cs) (h' : w.ownsRow B' t' 1 v' n' cs') (hne : t ≠ t') : ∀ k, v.ownBlock = some k → v'.ownBlock ≠ some k := by
  intro k e1 e2
  obtain ⟨c1, g1⟩ := rowType h k e1
  obtain ⟨c2, g2⟩ := rowType h' k e2
  rw [g1] at g2
  simp at g2
  exact hne g2.2

/-- The mark of the list of a number. -/
def mk8 (i : Nat) : UInt8 := UInt8.ofNat (i % 250 + 1)
theorem mk8_toNat (i : Nat) : (mk8 i).toNat = i % 250 + 1 := by
  unfold mk8
  have : i % 250 < 250 := Nat.mod_lt _ (by decide)
  simp
  omega
theorem mark_any (i : Nat) (w : World) (hi : i ≤ 1000000) :
    Calls Tryz.prog 41 #[.int .i64 (i : Int)] w fun e w' => e = .returned (.int .i64 ((mk8 i).toNat : Int)) ∧ w' = w := by
  have hm := hide (mk8_toNat i)
  have hr : ((i : Int).tmod 250) = ((i % 250 : Nat) : Int) := by rw [Int.tmod_eq_emod_of_nonneg (by omega)]; omega
  go_enter Tryz.func41, Tryz.ntmps41
  go_wp2
  go_ret
  refine ⟨ret_int ?_, rfl⟩
  have := unhide hm
  omega

structure Sh (w : World) (sp : Nat) (sv : Value) (its : List Value) : Prop where
  box : w.heap[sp]? = some (.cells #[sv, .slice none 0 0] 36 (0, 0))
  row : w.ownsRow 0 22 1 sv its.length its

theorem Sh.c0 {w : World} {sp : Nat} {sv : Value} {its : List Value} (h : Sh w sp sv its) : w.cell? ⟨sp, 0, none⟩ = some sv := by
  rw [cell_of_row _ _ _ _ _ _ h.box]; rfl
theorem Sh.c1 {w : World} {sp : Nat} {sv : Value} {its : List Value} (h : Sh w sp sv its) : w.cell? ⟨sp, 1, none⟩ = some (.slice none 0 0) := by
  rw [cell_of_row _ _ _ _ _ _ h.box]; rfl
theorem Sh.f0 {w : World} {sp : Nat} {sv : Value} {its : List Value} (h : Sh w sp sv its) : w.frozen? ⟨sp, 0, none⟩ = false := frozen_of_row _ _ _ _ _ h.box
theorem Sh.pl {w : World} {sp : Nat} {sv : Value} {its : List Value} (h : Sh w sp sv its) : sp < w.heap.size := (Array.getElem?_eq_some_iff.1 h.box).1
theorem Sh.ne {w : World} {sp : Nat} {sv : Value} {its : List Value} (h : Sh w sp sv its) : sv.ownBlock ≠ some sp := by
  intro e
  obtain ⟨c, hc⟩ := rowType h.row sp e
  rw [h.box] at hc
  simp at hc
/-- No row of bytes lies in the shelf. -/
theorem Sh.bytes {w : World} {sp : Nat} {sv : Value} {its : List Value} (h : Sh w sp sv its) {B : Nat} {v : Value} {l : List UInt8} (ho : OwnB w B v l) : v.ownBlock ≠ some sp ∧ ∀ k, v.ownBlock = some k → sv.ownBlock ≠ some k := by
  refine ⟨fun e => ?_, rowApart ho h.row (by decide)⟩
  obtain ⟨c, hc⟩ := rowType ho sp e
  rw [h.box] at hc
  simp at hc
theorem Sh.keep {S : Nat → Prop} {w w' : World} {sp : Nat} {sv : Value} {its : List Value} (h : Sh w sp sv its) (hk : Kept S w w') (h1 : ¬ S sp) (h2 : ∀ k, sv.ownBlock = some k → ¬ S k) : Sh w' sp sv its :=
  ⟨by rw [hk.block sp h.pl h1]; exact h.box, rowKeep h.row hk h2⟩
theorem Sh.below {w w' : World} {sp : Nat} {sv : Value} {its : List Value} (h : Sh w sp sv its) (hb : Below w.heap.size w w') : Sh w' sp sv its :=
  h.keep (Kept.of_below hb (fun _ => False)) (fun h => h) (fun _ _ h => h)

theorem info22 : (Tryz.prog.info? 22).map (fun i => (i.zero, i.size, i.bytes)) = some (some (.slice none 0 0), 1, 24) := by kernel_rfl

set_option maxHeartbeats 1000000 in
theorem ShBytes {w : World} {sp : Nat} {sv : Value} {its : List Value} (h : Sh w sp sv its) (ao : Option Addr) (n c : Nat) (hn : its.length ≤ 1000000) :
    Calls Tryz.prog 13 #[.pointer (some ⟨sp, 0, none⟩), .slice ao n c] w fun e w' => e = .returned (.tuple #[]) ∧ ∃ sv', Sh w' sp sv' (its ++ [.slice ao n c]) ∧ Kept (fun k => k = sp ∨ sv.ownBlock = some k) w w' ∧ (∀ k, sv'.ownBlock = some k → sv.ownBlock = some k ∨ w.heap.size ≤ k) := by
  obtain ⟨i0, hi, hz0, hz1, hz2⟩ := info_parts info22
  have c0 := h.c0
  have f0 := h.f0
  have hpl := h.pl
  have hne := h.ne
  have HR := hide (h.row.alloc (.cells #[.slice ao n c] 22))
  have HB := hide h.box
  clear h
  go_enter Tryz.func13, Tryz.ntmps13
  go_wp2_with (at_builtin; refine wpList_append_own_at _ rfl _ _ 33 rfl 0 22 i0 (.slice none 0 0) 1 24 Tryz.underlying33 hi hz0 hz1 hz2 rfl (by decide) _ its.length its rfl (unhide HR) ⟨w.heap.size, 0, none⟩ 1 1 [.slice ao n c] rfl rfl (cell_one_new _ _ _) (by simp [Value.oneCell']) ?a3 ?a4 (Nat.zero_le _) ?_)
  case a3 => unfold maxLen; omega
  case a4 => omega
  intro sv' w2 hO hG _ hF
  have hK : Kept (fun k => sv.ownBlock = some k) w w2 := Kept.trans (Kept.of_below ((Below.refl w.heap.size w).alloc (Nat.le_refl _) (.cells #[.slice ao n c] 22)) (fun k => sv.ownBlock = some k)) (Kept.of_grown hG) (fun _ _ h => h) (fun _ _ h => h.symm)
  have hbx : w2.heap[sp]? = some (.cells #[sv, .slice none 0 0] 36 (0, 0)) := (hK.block sp hpl hne).trans (unhide HB)
  have c0' : w2.cell? ⟨sp, 0, none⟩ = some sv := by rw [cell_of_row _ _ _ _ _ _ hbx]; rfl
  have f0' : w2.frozen? ⟨sp, 0, none⟩ = false := frozen_of_row _ _ _ _ _ hbx
  have hF' : ∀ k, sv'.ownBlock = some k → sv.ownBlock = some k ∨ w.heap.size ≤ k := fun k hk => by
    rcases hF with e | e
    · exact .inl (e ▸ hk)
    · rw [e] at hk; injection hk with hk; exact .inr (by omega)
  obtain ⟨a', n', c', rfl⟩ : ∃ a' n' c', sv' = .slice a' n' c' := by
    rcases hO.2 with ⟨e, _⟩ | ⟨g, cap, cur, e, _⟩
    · exact ⟨_, _, _, e⟩
    · exact ⟨_, _, _, e⟩
  have hO' := hide hO
  have HK := hide hK
  have HBX := hide hbx
  have hne2 : (Value.slice a' n' c').ownBlock ≠ some sp := by
    intro e
    rcases hF' sp e with e | e
    · exact hne e
    · omega
  clear hO hG hF hK hbx c0 f0 HR HB hn hi hz0 hz1 hz2 hpl hne
  go_wp2
  go_end0
  refine ⟨rfl, _, ⟨?_, ?_⟩, (unhide HK).trans (kept_setCell _ _ _) (fun _ _ h => .inr h) (fun _ _ h => .inl h), hF'⟩
  · have := heap_setCell_same w2 sp 0 #[sv, .slice none 0 0] 36 (.slice a' n' c') (unhide HBX)
    exact this
  · have := rowKeep (unhide hO') (kept_setCell w2 ⟨sp, 0, none⟩ (.slice a' n' c')) (fun k hk e => hne2 (by rw [hk, e]))
    simpa using this

/-- A list that bears the mark of a number all over. -/
def ItM (w : World) (v : Value) (i : Nat) : Prop := ∃ l : List UInt8, OwnB w 0 v l ∧ l.length ≤ 140737488355328 ∧ ∀ x ∈ l, x = mk8 i
theorem ItM.at {w : World} {v : Value} {i : Nat} (h : ItM w v i) : ∃ ao n c, v = .slice ao n c ∧ n < 9223372036854775807 ∧ ∀ q, q < n → ∃ b off, ao = some ⟨b, off, none⟩ ∧ w.cell? ⟨b, off + q, none⟩ = some (.int .u8 ((mk8 i).toNat : Int)) := by
  obtain ⟨l, ho, hl, hx⟩ := h
  obtain ⟨ao, c, e, hb⟩ := ho.at
  refine ⟨ao, l.length, c, e, by omega, fun q hq => ?_⟩
  obtain ⟨b, off, e', hc⟩ := hb q hq
  refine ⟨b, off, e', ?_⟩
  rw [hc]
  unfold at8
  rw [List.getD_eq_getElem?_getD, List.getElem?_eq_getElem hq, Option.getD_some, hx _ (List.getElem_mem hq)]

theorem row_at {w : World} {B : Nat} {t : TypeId} {v : Value} {cs : List Value} (h : w.ownsRow B t 1 v cs.length cs) (hp : 0 < cs.length) : ∃ g cap, v = .slice (some ⟨g, 0, none⟩) cs.length cap ∧ ∀ k u, cs[k]? = some u → w.cell? ⟨g, k, none⟩ = some u := by
  rcases h.2 with ⟨_, e⟩ | ⟨g, cap, cur, rfl, _⟩
  · omega
  · refine ⟨g, cap, rfl, fun k u hu => ?_⟩
    have hk := (List.getElem?_eq_some_iff.1 hu).1
    rw [h.cellAt k (by omega)]
    exact hu

set_option maxHeartbeats 2000000 in
theorem marked_yes {w : World} {sp : Nat} {sv mv : Value} {its gs : List Value} {b : Nat} (h : Sh w sp sv its) (hm : w.ownsRow b 22 1 mv gs.length gs) (hl : gs.length = its.length) (hp : 0 < its.length) (hn : its.length ≤ 1000000)
    (h1 : ∀ (i : Nat) v, its[i]? = some v → ItM w v i) (h2 : ∀ (i : Nat) v, gs[i]? = some v → ItM w v i) :
    Calls Tryz.prog 42 #[.pointer (some ⟨sp, 0, none⟩), mv, .slice none 0 0] w fun e w' => e = .returned (.bool true) ∧ w' = w := by
  have c0 := h.c0
  have c1 := h.c1
  obtain ⟨g, cap, rfl, hg⟩ := row_at h.row hp
  obtain ⟨g', cap', rfl, hg'⟩ := row_at hm (by omega)
  have HL := hide hl
  have hl' : its.length ≤ gs.length := by omega
  have H1 := hide h1
  have H2 := hide h2
  have HG := hide hg
  have HG' := hide hg'
  clear h hm hl h1 h2 hg hg'
  go_enter Tryz.func42, Tryz.ntmps42
  go_wp2
  go_loopw [24] (fun i wr => (∃ k : Nat, k ≤ its.length ∧ i = .int .i64 k) ∧ wr = w) (fun i _ => its.length - (intOf i).toNat)
  case atStart => exact ⟨⟨0, by omega, rfl⟩, rfl⟩
  case round =>
    obtain ⟨⟨k, hk, rfl⟩, rfl⟩ := hrel
    by_cases hlt : k < its.length
    · have i1 : ((k : Nat) : Int) < ((its.length : Nat) : Int) := by omega
      have i2 : ((k : Nat) : Int) < ((gs.length : Nat) : Int) := by omega
      have d1 := unhide HG k _ (List.getElem?_eq_getElem hlt)
      have d2 := unhide HG' k _ (List.getElem?_eq_getElem (show k < gs.length by omega))
      obtain ⟨ao, n, c, e1, hn1, hc1⟩ := (unhide H1 k _ (List.getElem?_eq_getElem hlt)).at
      obtain ⟨ao', n', c', e2, hn2, hc2⟩ := (unhide H2 k _ (List.getElem?_eq_getElem (show k < gs.length by omega))).at
      rw [e1] at d1
      rw [e2] at d2
      have hM := hide (mk8_toNat k)
      have hml : (mk8 k).toNat < 256 := (mk8 k).toNat_lt
      have HC1 := hide hc1
      have HC2 := hide hc2
      clear e1 e2 hc1 hc2
      go_wp2
      go_loopw [31] (fun i wr' => (∃ q : Nat, q ≤ n ∧ i = .int .i64 q) ∧ wr' = wr) (fun i _ => n - (intOf i).toNat)
      case atStart => exact ⟨⟨0, by omega, rfl⟩, rfl⟩
      case round =>
        obtain ⟨⟨q, hq, rfl⟩, rfl⟩ := hrel
        by_cases hqn : q < n
        · obtain ⟨x, off, rfl, hcq⟩ := unhide HC1 q hqn
          have j1 : ((q : Nat) : Int) < ((n : Nat) : Int) := by omega
          go_wp2_with fail
          refine (mark_any k _ (by omega)).mono ?_
          rintro e w2 ⟨rfl, rfl⟩
          go_wp2
          go_roundw
          case rel => exact ⟨⟨q + 1, by omega, by go_num⟩, by trivial⟩
          case measure => simp [intOf]; omega
        · go_wp2
          go_loopw [46] (fun i wr' => (∃ q : Nat, q ≤ n' ∧ i = .int .i64 q) ∧ wr' = wr) (fun i _ => n' - (intOf i).toNat)
          case atStart => exact ⟨⟨0, by omega, rfl⟩, rfl⟩
          case round =>
            obtain ⟨⟨q, hq, rfl⟩, rfl⟩ := hrel
            by_cases hqn : q < n'
            · obtain ⟨x, off, rfl, hcq⟩ := unhide HC2 q hqn
              have j1 : ((q : Nat) : Int) < ((n' : Nat) : Int) := by omega
              go_wp2_with fail
              refine (mark_any k _ (by omega)).mono ?_
              rintro e w2 ⟨rfl, rfl⟩
              go_wp2
              go_roundw
              case rel => exact ⟨⟨q + 1, by omega, by go_num⟩, by trivial⟩
              case measure => simp [intOf]; omega
            · go_wp2
              go_roundw
              case rel => exact ⟨⟨k + 1, by omega, by go_num⟩, by trivial⟩
              case measure => simp [intOf]; omega
    · go_wp2
      go_loopw [62] (fun i wr' => i = .int .i64 0 ∧ wr' = wr) (fun _ _ => 0)
      case atStart => exact ⟨rfl, rfl⟩
      case round =>
        obtain ⟨rfl, rfl⟩ := hrel
        go_wp2
        go_ret
        exact ⟨rfl, rfl⟩
end Go.Proofs.YthdgbdjagjagpaaGreatDoor

/-
  The contract of the shelf's Own: of lists that lie apart it tells true, and turns nothing but the blocks that they lie in. Conditions: at least one list, at most a million, the lengths fit.
-/
namespace Go.Proofs.YthdgbdjagjagpaaGreatDoor
open Go.RowKit
set_option maxRecDepth 20000

/-- A list as it lies on the shelf: those ahead of a number bear their marks. -/
def Its (w : World) (its : List Value) (m : Nat) : Prop := ∀ (i : Nat) v, its[i]? = some v → ∃ l : List UInt8, OwnB w 0 v l ∧ l.length ≤ 140737488351232 ∧ (i < m → ∀ x ∈ l, x = mk8 i)
/-- They lie in different blocks. -/
def Apart (its : List Value) : Prop := ∀ (i j : Nat) a b, its[i]? = some a → its[j]? = some b → i ≠ j → ∀ k, a.ownBlock = some k → b.ownBlock ≠ some k
/-- The blocks that they lie in. -/
def InIts (its : List Value) (k : Nat) : Prop := ∃ v ∈ its, v.ownBlock = some k

theorem ob (ao : Option Addr) (n n' c c' : Nat) : (Value.slice ao n c).ownBlock = (Value.slice ao n' c').ownBlock := by cases ao <;> rfl

theorem OwnB.store {w : World} {B g n cap : Nat} {l : List UInt8} (h : OwnB w B (.slice (some ⟨g, 0, none⟩) n cap) l) (hn : l.length = n) (k : Nat) (v : Int) (y : UInt8) (hv : v = (y.toNat : Int)) :
    OwnB (w.setCell ⟨g, k, none⟩ (.int .u8 v)) B (.slice (some ⟨g, 0, none⟩) n cap) (l.set k y) := by
  subst hn
  have := (World.ownsRow.stored h k (.int .u8 v)).1
  unfold OwnB
  rw [List.length_set]
  have e : bvals (l.set k y) = (bvals l).set k (.int .u8 v) := by unfold bvals; rw [List.map_set, hv]
  rw [e]
  exact this
theorem OwnB.shrink {w : World} {B n c : Nat} {ao : Option Addr} {l m : List UInt8} (h : OwnB w B (.slice ao n c) (l ++ m)) : OwnB w B (.slice ao l.length c) l := by
  refine ⟨by simp [bvals_length], ?_⟩
  rcases h.2 with ⟨e, e2⟩ | ⟨g, cap, cur, e, hb, hh, h1, h2, h3, h4⟩
  · injection e with e _ e3
    subst e e3
    have : l.length = 0 := by rw [List.length_append] at e2; omega
    exact .inl ⟨by rw [this], this⟩
  · injection e with e e1 e2
    subst e e2
    refine .inr ⟨g, c, cur, rfl, hb, hh, ?_, h2, h3, ?_⟩
    · simp at h1; omega
    · have := congrArg (List.take l.length) h4
      rw [List.take_take] at this
      simp [bvals] at this ⊢
      rw [← this]

theorem Its.keep {S : Nat → Prop} {w w' : World} {its : List Value} {m : Nat} (h : Its w its m) (hk : Kept S w w') (hs : ∀ (i : Nat) v, its[i]? = some v → ∀ k, v.ownBlock = some k → ¬ S k) : Its w' its m := by
  intro i v hv
  obtain ⟨l, ho, h2⟩ := h i v hv
  exact ⟨l, ho.keep hk (hs i v hv), h2⟩

/-- One list is marked. -/
theorem Its.mark {w w' : World} {its : List Value} {i : Nat} (h : Its w its i) (ha : Apart its) {v : Value} (hv : its[i]? = some v) (hk : Kept (fun k => v.ownBlock = some k) w w') {l : List UInt8} (ho : OwnB w' 0 v l) (hl : l.length ≤ 140737488351232) (hx : ∀ x ∈ l, x = mk8 i) : Its w' its (i + 1) := by
  intro j u hu
  by_cases e : j = i
  · subst e
    rw [hv] at hu
    injection hu with hu
    subst hu
    exact ⟨l, ho, hl, fun _ => hx⟩
  · obtain ⟨l', ho', hl', hx'⟩ := h j u hu
    exact ⟨l', ho'.keep hk (fun k hk' e' => ha j i u v hu hv e k hk' e'), hl', fun hj => hx' (by omega)⟩

theorem mem_inits {its : List Value} {i : Nat} {v : Value} (hv : its[i]? = some v) {k : Nat} (hk : v.ownBlock = some k) : InIts its k := ⟨v, List.mem_of_getElem? hv, hk⟩

/-- What holds while lists are grown: the grown ones so far. -/
structure Grown (W w : World) (its : List Value) (mv : Value) (gs : List Value) : Prop where
  row : w.ownsRow W.heap.size 22 1 mv gs.length gs
  itsk : Its w its its.length
  gsk : ∀ (j : Nat) g, gs[j]? = some g → ItM w g j ∧ ∃ v, its[j]? = some v ∧ ∀ k, g.ownBlock = some k → v.ownBlock = some k ∨ W.heap.size ≤ k
  kept : Kept (InIts its) W w
  old : ∀ (j : Nat) v, its[j]? = some v → ∀ k, v.ownBlock = some k → k < W.heap.size

/-- What holds while one list is grown: it lies in the list's own room, or in a new block. -/
structure Grows (w1 w : World) (i : Nat) (v g : Value) (q : Nat) : Prop where
  kept : Kept (fun k => v.ownBlock = some k) w1 w
  it : (∃ l m ao n n' c, v = .slice ao n c ∧ g = .slice ao n' c ∧ OwnB w 0 g (l ++ m) ∧ n = l.length ∧ n ≤ 140737488351232 ∧ m.length = q ∧ (∀ x ∈ l ++ m, x = mk8 i)) ∨
    (∃ l m, OwnB w 0 v l ∧ l.length ≤ 140737488351232 ∧ (∀ x ∈ l, x = mk8 i) ∧ OwnB w w1.heap.size g m ∧ m.length ≤ 140737488351232 + q ∧ (∀ x ∈ m, x = mk8 i))

theorem Grows.own {w1 w : World} {i q : Nat} {v g : Value} (h : Grows w1 w i v g q) : ∃ m, OwnB w 0 g m ∧ m.length ≤ 140737488351232 + q ∧ (∀ x ∈ m, x = mk8 i) := by
  rcases h.it with ⟨l, m, ao, n, n', c, rfl, rfl, ho, h1, h2, h3, hx⟩ | ⟨l, m, _, _, _, ho, hm, hx⟩
  · exact ⟨_, ho, by simp; omega, hx⟩
  · exact ⟨m, ho.mono (Nat.zero_le _), hm, hx⟩
theorem Grows.item {w1 w : World} {i q : Nat} {v g : Value} (h : Grows w1 w i v g q) : ∃ l, OwnB w 0 v l ∧ l.length ≤ 140737488351232 ∧ (∀ x ∈ l, x = mk8 i) := by
  rcases h.it with ⟨l, m, ao, n, n', c, rfl, rfl, ho, rfl, h2, h3, hx⟩ | ⟨l, m, ho, h1, hx, _⟩
  · exact ⟨l, ho.shrink, h2, fun x hm => hx x (by simp [hm])⟩
  · exact ⟨l, ho, h1, hx⟩
theorem Grows.block {w1 w : World} {i q : Nat} {v g : Value} (h : Grows w1 w i v g q) : ∀ k, g.ownBlock = some k → v.ownBlock = some k ∨ w1.heap.size ≤ k := by
  rcases h.it with ⟨l, m, ao, n, n', c, rfl, rfl, _⟩ | ⟨l, m, _, _, _, ho, _⟩
  · intro k hk; left; exact (ob ao n n' c c).trans hk
  · intro k hk; exact .inr (World.ownsRow.lt ho k hk).1
theorem Grows.start {w1 : World} {i : Nat} {v : Value} {l : List UInt8} (ho : OwnB w1 0 v l) (hl : l.length ≤ 140737488351232) (hx : ∀ x ∈ l, x = mk8 i) : Grows w1 w1 i v v 0 := by
  obtain ⟨ao, c, rfl, _⟩ := ho.at
  exact ⟨Kept.refl _ _, .inl ⟨l, [], ao, _, _, c, rfl, rfl, by rw [List.append_nil]; exact ho, rfl, hl, rfl, by rw [List.append_nil]; exact hx⟩⟩

theorem OwnB.block_lt {w : World} {B : Nat} {v : Value} {l : List UInt8} (h : OwnB w B v l) {k : Nat} (hk : v.ownBlock = some k) : k < w.heap.size := (World.ownsRow.lt h k hk).2

/-- One more byte. -/
theorem Grows.more {w1 w wa w' : World} {i q : Nat} {v g g' : Value} (h : Grows w1 w i v g q) (hlt : ∀ k, v.ownBlock = some k → k < w1.heap.size) (ha : Below w.heap.size w wa) {m0 : List UInt8} (h0 : OwnB w 0 g m0) (hx : ∀ x ∈ m0, x = mk8 i) (ho : OwnB w' 0 g' (m0 ++ [mk8 i]))
    (hc : (wa.grownBy w' g.ownBlock ∧ ∃ ao n n' c, g = .slice ao n c ∧ g' = .slice ao n' c) ∨ (Below wa.heap.size wa w' ∧ ∀ k, g'.ownBlock = some k → wa.heap.size ≤ k)) : Grows w1 w' i v g' (q + 1) := by
  have hsz := ha.size
  have hk1 := h.kept.size
  have hx' : ∀ x ∈ m0 ++ [mk8 i], x = mk8 i := by
    intro x hm
    rw [List.mem_append] at hm
    rcases hm with hm | hm
    · exact hx x hm
    · simpa using hm
  have hmo : ∀ m, OwnB w 0 g m → m = m0 := by
    intro m hm
    have a1 := hm.1
    have a2 := h0.1
    rcases hm.2 with ⟨e, e2⟩ | ⟨b, cap, cur, rfl, _, hh, hn, _, _, ht⟩
    · rcases h0.2 with ⟨_, e4⟩ | ⟨b', cap', cur', e', _⟩
      · rw [List.eq_nil_of_length_eq_zero e2, List.eq_nil_of_length_eq_zero e4]
      · rw [e] at e'; cases e'
    · rcases h0.2 with ⟨e, _⟩ | ⟨b', cap', cur', e, _, hh', _, _, _, ht'⟩
      · cases e
      · injection e with e e1 e2
        injection e with e
        injection e with e
        subst e
        rw [hh] at hh'
        simp at hh'
        subst hh'
        rw [e1] at ht
        exact bvals_inj (ht.symm.trans ht')
  rcases hc with ⟨hg, ao1, n1, n1', c1, rfl, rfl⟩ | ⟨hb, hf⟩
  · -- in its room
    rcases h.it with ⟨l, m, ao, n, n', c, rfl, e2, ho2, rfl, h2, rfl, hxx⟩ | ⟨l, m, hv, h1, h2, ho2, h4, h5⟩
    · injection e2 with e2 _ e3
      subst e2 e3
      have := hmo _ ho2
      subst this
      refine ⟨?_, .inl ⟨l, m ++ [mk8 i], ao1, _, n1', c1, rfl, rfl, by rw [← List.append_assoc]; exact ho, rfl, h2, by simp, by rw [← List.append_assoc]; exact hx'⟩⟩
      refine h.kept.trans ((Kept.of_below ha (fun _ => False)).trans (Kept.of_grown hg) (fun _ _ h => h.elim) (fun x _ e => ?_)) (fun _ _ h => h) (fun _ _ h => h)
      exact (ob _ _ _ _ _).trans e.symm
    · have := hmo _ (ho2.mono (Nat.zero_le _))
      subst this
      have hgw : ∀ k, (Value.slice ao1 n1 c1).ownBlock = some k → w1.heap.size ≤ k := fun k hk => (World.ownsRow.lt ho2 k hk).1
      have hK : Kept (fun k => w1.heap.size ≤ k) w w' := (Kept.of_below ha (fun _ => False)).trans (Kept.of_grown hg) (fun _ _ h => h.elim) (fun x _ e => hgw x e.symm)
      refine ⟨h.kept.trans hK (fun _ _ h => h) (fun x hx e => by omega), .inr ⟨l, m ++ [mk8 i], hv.keep hK (fun k hk e => by have := hlt k hk; omega), h1, h2, ?_, by simp; omega, hx'⟩⟩
      -- where it lies
      refine ⟨ho.1, ?_⟩
      rcases ho.2 with e | ⟨b, cap, cur, e, _, r⟩
      · exact .inl e
      · refine .inr ⟨b, cap, cur, e, ?_, r⟩
        injection e with e
        subst e
        exact hgw b rfl
  · -- in a new block
    obtain ⟨l, hv, h1, h2⟩ := h.item
    obtain ⟨m, ho2, h4, _⟩ := h.own
    have := hmo _ ho2
    subst this
    have hB : Below w.heap.size w w' := ha.trans (hb.mono hsz)
    refine ⟨h.kept.trans (Kept.of_below hB (fun _ => False)) (fun _ _ h => h) (fun _ _ h => h.elim), .inr ⟨l, m ++ [mk8 i], hv.below hB, h1, h2, ?_, by simp; omega, hx'⟩⟩
    refine ⟨ho.1, ?_⟩
    rcases ho.2 with e | ⟨b, cap, cur, e, _, r⟩
    · exact .inl e
    · refine .inr ⟨b, cap, cur, e, ?_, r⟩
      have := hf b (by rw [e]; rfl)
      omega

/-- One list more has grown. -/
theorem Grown.push {W w1 w2 wa w' : World} {its gs : List Value} {mv mv' g v : Value} {q : Nat} (h : Grown W w1 its mv gs) (ha : Apart its) (hv : its[gs.length]? = some v) (hg : Grows w1 w2 gs.length v g q) (hq : q ≤ 80)
    (hal : Below w2.heap.size w2 wa) (ho : w'.ownsRow W.heap.size 22 1 mv' (gs.length + 1) (gs ++ [g])) (hgr : wa.grownBy w' mv.ownBlock) : Grown W w' its mv' (gs ++ [g]) := by
  have hWs := h.kept.size
  have hold := h.old
  have hK : Kept (fun k => some k = mv.ownBlock) w2 w' := (Kept.of_below hal (fun _ => False)).trans (Kept.of_grown hgr) (fun _ _ h => h.elim) (fun _ _ h => h)
  have hmv : w2.ownsRow W.heap.size 22 1 mv gs.length gs := rowKeep h.row hg.kept (fun k hk e => by
    have h1 := hold _ _ hv k e
    have h2 := (World.ownsRow.lt h.row k hk).1
    omega)
  have hb : ∀ {B : Nat} {u : Value} {l : List UInt8}, OwnB w2 B u l → OwnB w' B u l := fun ho => ho.keep hK (fun k hk e => rowApart ho hmv (by decide) k hk e.symm)
  refine ⟨by rw [List.length_append]; exact ho, ?_, ?_, ?_, hold⟩
  · intro j u hu
    by_cases e : j = gs.length
    · subst e
      rw [hv] at hu
      injection hu with hu
      subst hu
      obtain ⟨l, h1, h2, h3⟩ := hg.item
      exact ⟨l, hb h1, h2, fun _ => h3⟩
    · obtain ⟨l, h1, h2, h3⟩ := h.itsk j u hu
      exact ⟨l, hb (h1.keep hg.kept (fun k hk e' => ha j _ u v hu hv e k hk e')), h2, h3⟩
  · intro j u hu
    by_cases e : j < gs.length
    · rw [List.getElem?_append_left e] at hu
      obtain ⟨⟨l, h1, h2, h3⟩, x, hx, hk⟩ := h.gsk j u hu
      refine ⟨⟨l, hb (h1.keep hg.kept (fun k hk' e' => ?_)), h2, h3⟩, x, hx, hk⟩
      rcases hk k hk' with hk2 | hk2
      · exact ha j _ x v hx hv (by omega) k hk2 e'
      · have := hold _ _ hv k e'
        omega
    · have e2 : j = gs.length := by
        have := (List.getElem?_eq_some_iff.1 hu).1
        simp at this
        omega
      subst e2
      rw [List.getElem?_append_right (Nat.le_refl _)] at hu
      simp at hu
      subst hu
      obtain ⟨m, h1, h2, h3⟩ := hg.own
      refine ⟨⟨m, hb h1, by omega, h3⟩, v, hv, fun k hk => ?_⟩
      rcases hg.block k hk with h | h
      · exact .inl h
      · exact .inr (by omega)
  · have h1 : Kept (InIts its) W w2 := h.kept.trans hg.kept (fun _ _ h => h) (fun x _ e => mem_inits hv e)
    refine h1.trans hK (fun _ _ h => h) (fun x hx e => ?_)
    have := (World.ownsRow.lt hmv x e.symm).1
    omega

theorem all_set {l : List UInt8} {k : Nat} {y : UInt8} (h : ∀ j, j < k → l[j]? = some y) (hk : k < l.length) : ∀ j, j < k + 1 → (l.set k y)[j]? = some y := by
  intro j hj
  by_cases e : j = k
  · subst e; rw [List.getElem?_set_self hk]
  · rw [List.getElem?_set_ne (fun h => e h.symm)]; exact h j (by omega)
theorem all_of {l : List UInt8} {y : UInt8} (h : ∀ j, j < l.length → l[j]? = some y) : ∀ x ∈ l, x = y := by
  intro x hx
  obtain ⟨j, hj, rfl⟩ := List.getElem_of_mem hx
  have := h j hj
  rw [List.getElem?_eq_getElem hj] at this
  injection this

set_option maxHeartbeats 4000000 in
set_option maxRecDepth 100000 in
theorem Own_yes {w : World} {sp : Nat} {sv : Value} {its : List Value} (h : Sh w sp sv its) (hI : Its w its 0) (hA : Apart its) (hp : 0 < its.length) (hn : its.length ≤ 1000000) :
    Calls Tryz.prog 14 #[.pointer (some ⟨sp, 0, none⟩)] w fun e w' => e = .returned (.bool true) ∧ Kept (InIts its) w w' := by
  have c0 := h.c0
  have c1 := h.c1
  obtain ⟨g, cap, rfl, hg⟩ := row_at h.row hp
  have hbn : ∀ (j : Nat) v, its[j]? = some v → v.ownBlock ≠ some sp ∧ v.ownBlock ≠ some g := fun j v hv => by
    obtain ⟨l, ho, _⟩ := hI j v hv
    exact ⟨(h.bytes ho).1, fun e => (h.bytes ho).2 _ e rfl⟩
  have HBN := hide hbn
  have HG := hide hg
  have HS := hide h
  have HI := hide hI
  have HA := hide hA
  clear h hI hA hg hbn
  go_enter Tryz.func14, Tryz.ntmps14
  go_wp2
  go_loopw [22] (fun i wr => ∃ k : Nat, k ≤ its.length ∧ i = .int .i64 k ∧ Hid (Its wr its k) ∧ Hid (Kept (InIts its) w wr)) (fun i _ => its.length - (intOf i).toNat)
  case atStart => exact ⟨0, by omega, rfl, HI, hide (Kept.refl _ _)⟩
  case round =>
    clear HI
    obtain ⟨k, hk, rfl, HI, HK⟩ := hrel
    have hS' : Sh wr sp (.slice (some ⟨g, 0, none⟩) its.length cap) its := (unhide HS).keep (unhide HK) (fun ⟨v, hv, e⟩ => by
      obtain ⟨j, hj, rfl⟩ := List.getElem_of_mem hv
      exact (unhide HBN j _ (List.getElem?_eq_getElem hj)).1 e) (fun q hq ⟨v, hv, e⟩ => by
      obtain ⟨j, hj, rfl⟩ := List.getElem_of_mem hv
      cases hq
      exact (unhide HBN j _ (List.getElem?_eq_getElem hj)).2 e)
    obtain ⟨g2, cap2, e2, hg'⟩ := row_at hS'.row hp
    cases e2
    have c0' := hS'.c0
    have c1' := hS'.c1
    by_cases hlt : k < its.length
    · have i1 : ((k : Nat) : Int) < ((its.length : Nat) : Int) := by omega
      have hv := List.getElem?_eq_getElem hlt
      have d1 := hg' k _ hv
      obtain ⟨v, HV⟩ : ∃ v, Hid (its[k]? = some v) ∧ its[k] = v := ⟨_, hide hv, rfl⟩
      obtain ⟨HV, e⟩ := HV
      rw [e] at d1
      clear hv e hg' hS'
      obtain ⟨l, ho, hl, _⟩ := unhide HI k v (unhide HV)
      obtain ⟨n, hln⟩ : ∃ n, l.length = n := ⟨_, rfl⟩
      obtain ⟨ao, c, rfl, _⟩ := ho.at
      rw [hln] at d1 hl HV
      have hml : (mk8 k).toNat < 256 := (mk8 k).toNat_lt
      have HO : Hid (∃ l : List UInt8, OwnB wr 0 (.slice ao n c) l ∧ l.length = n ∧ ∀ j, j < 0 → l[j]? = some (mk8 k)) := hide ⟨l, by rw [← hln]; exact ho, hln, fun j h => by omega⟩
      have HLL := hide hl
      have hl' : n < 9223372036854775807 := by omega
      clear ho hln hl
      go_wp2
      go_loopw [29] (fun i wq => ∃ q : Nat, q ≤ n ∧ i = .int .i64 q ∧ Hid (∃ l : List UInt8, OwnB wq 0 (.slice ao n c) l ∧ l.length = n ∧ ∀ j, j < q → l[j]? = some (mk8 k)) ∧ Hid (Kept (fun k => (Value.slice ao n c).ownBlock = some k) wr wq)) (fun i _ => n - (intOf i).toNat)
      case atStart => exact ⟨0, by omega, rfl, HO, hide (Kept.refl _ _)⟩
      case round =>
        clear HO c0' c1' d1
        obtain ⟨q, hq, rfl, HO, HKq⟩ := hrel
        by_cases hqn : q < n
        · obtain ⟨l, ho, hl, hx⟩ := unhide HO
          rcases ho.shape with ⟨e, _⟩ | ⟨b, cp, e, _, _, _, _, hb⟩
          · cases e; omega
          · injection e with e1 e2 e3
            subst e1
            have hcq : wr.cell? ⟨b, q, none⟩ = some (.int .u8 (at8 l q)) := by
              obtain ⟨b', off', e, hc⟩ := hb q (by omega)
              injection e with e
              injection e with e1 e2
              subst e1 e2
              rw [Nat.zero_add] at hc
              exact hc
            have hfq : wr.frozen? ⟨b, q, none⟩ = false := frozen_own ho hl.symm q
            have j1 : ((q : Nat) : Int) < ((n : Nat) : Int) := by omega
            have HO' := hide (And.intro ho (And.intro hl hx))
            clear ho hl hx hb HO e2 e3
            go_wp2_with fail
            refine (mark_any k _ (by omega)).mono ?_
            rintro e w2 ⟨rfl, rfl⟩
            go_wp2
            go_roundw
            case rel =>
              obtain ⟨ho, hl, hx⟩ := unhide HO'
              exact ⟨q + 1, by omega, by go_num, hide ⟨l.set q (mk8 k), ho.store hl q _ _ rfl, by rw [List.length_set]; exact hl, all_set hx (by omega)⟩, hide ((unhide HKq).trans (kept_setCell _ _ _) (fun _ _ h => h) (fun x _ e => by rw [e]; rfl))⟩
            case measure => simp [intOf]; omega
        · have HI2 : Hid (Its wr its (k + 1)) := hide (by
            obtain ⟨l, ho, hl, hx⟩ := unhide HO
            exact (unhide HI).mark (unhide HA) (unhide HV) (unhide HKq) ho (by rw [hl]; exact unhide HLL) (all_of (fun j hj => hx j (by omega))))
          have HK2 := hide ((unhide HK).trans (unhide HKq) (fun _ _ h => h) (fun x _ e => mem_inits (unhide HV) e))
          clear HO HKq HK HI HLL
          go_wp2
          go_roundw
          case rel => exact ⟨k + 1, by omega, by go_num, HI2, HK2⟩
          case measure => simp [intOf]; omega
    · have ek : k = its.length := by omega
      have HIm : Hid (Its wr its its.length) := hide (by rw [← ek]; exact unhide HI)
      have HS2 := hide hS'
      obtain ⟨W, HW⟩ : ∃ W, W = wr := ⟨_, rfl⟩
      have HGr : Hid (Grown wr wr its (.slice none 0 0) []) := hide ⟨World.ownsRow_nil _ _ _ _, unhide HIm, fun j g h => by simp at h, Kept.refl _ _, fun j v hv q hq => by
        obtain ⟨l, ho, _⟩ := unhide HIm j v hv
        exact ho.block_lt hq⟩
      rw [← HW] at HGr HK HS2
      have HWW := hide HW
      clear ek HI HIm hS' hg' HW
      go_wp2
      go_loopw [45] (fun i wq => i = .int .i64 0 ∧ wq = wr) (fun _ _ => 0)
      case atStart => exact ⟨rfl, rfl⟩
      case round =>
        obtain ⟨rfl, rfl⟩ := hrel
        go_wp2
        go_loopw [9, 67] (fun mv i wq => ∃ (k : Nat) (gs : List Value), k ≤ its.length ∧ i = .int .i64 k ∧ Hid (gs.length = k) ∧ Hid (Grown W wq its mv gs)) (fun _ i _ => its.length - (intOf i).toNat)
        case atStart => exact ⟨0, [], by omega, rfl, hide rfl, by have e := unhide HWW; rw [← e]; exact HGr⟩
        case round =>
          clear HGr c0' c1' HWW
          obtain ⟨k, gs, hk, rfl, HLg, HGr⟩ := hrel
          have hS' : Sh wr sp (.slice (some ⟨g, 0, none⟩) its.length cap) its := (unhide HS2).keep (unhide HGr).kept (fun ⟨v, hv, e⟩ => by
            obtain ⟨j, hj, rfl⟩ := List.getElem_of_mem hv
            exact (unhide HBN j _ (List.getElem?_eq_getElem hj)).1 e) (fun q hq ⟨v, hv, e⟩ => by
            obtain ⟨j, hj, rfl⟩ := List.getElem_of_mem hv
            cases hq
            exact (unhide HBN j _ (List.getElem?_eq_getElem hj)).2 e)
          obtain ⟨g2, cap2, e2, hg'⟩ := row_at hS'.row hp
          cases e2
          have c0' := hS'.c0
          have c1' := hS'.c1
          by_cases hlt : k < its.length
          · have i1 : ((k : Nat) : Int) < ((its.length : Nat) : Int) := by omega
            have hv := List.getElem?_eq_getElem hlt
            have d1 := hg' k _ hv
            obtain ⟨v, HV⟩ : ∃ v, Hid (its[k]? = some v) ∧ its[k] = v := ⟨_, hide hv, rfl⟩
            obtain ⟨HV, e⟩ := HV
            rw [e] at d1
            clear hv e hg' hS'
            obtain ⟨l, ho, hl, hx⟩ := (unhide HGr).itsk k v (unhide HV)
            have HGs : Hid (Grows wr wr k v v 0) := hide (Grows.start ho hl (hx hlt))
            obtain ⟨ao, c, hvv, _⟩ := ho.at
            obtain ⟨n, hnn⟩ : ∃ n, n = l.length := ⟨_, rfl⟩
            rw [← hnn] at hvv
            have hvlt : Hid (∀ q, v.ownBlock = some q → q < wr.heap.size) := hide (fun q hq => ho.block_lt hq)
            obtain ⟨w1, HW1⟩ : ∃ w1, w1 = wr := ⟨_, rfl⟩
            rw [← HW1] at HGr HGs hvlt
            have HGs' : Hid (Grows w1 wr k v v 0) := by rw [← HW1]; exact HGs
            subst hvv
            clear ho hl hx hnn HW1 HGs
            go_wp2
            go_loopw [13, 73] (fun gv i wq => ∃ q : Nat, q ≤ 80 ∧ i = .int .i64 q ∧ Hid (Grows w1 wq k (.slice ao n c) gv q)) (fun _ i _ => 80 - (intOf i).toNat)
            case atStart => exact ⟨0, by omega, rfl, HGs'⟩
            case round =>
              clear HGs' c0' c1' d1
              obtain ⟨q, hq, rfl, HGs⟩ := hrel
              by_cases hq8 : q < 80
              · have j1 : ((q : Nat) : Int) < 80 := by omega
                obtain ⟨m, ho, hm, hx⟩ := (unhide HGs).own
                have HO := hide (And.intro ho (And.intro hm hx))
                have hml : (mk8 k).toNat < 256 := (mk8 k).toNat_lt
                have HO1 := hide (ho.below ((Below.refl wr.heap.size wr).alloc (Nat.le_refl _) (.cells #[.int .u8 ((mk8 k).toNat : Int)] 5)))
                have HSr : Hid (SrcB (wr.alloc (.cells #[.int .u8 ((mk8 k).toNat : Int)] 5)) (.slice (some ⟨wr.heap.size, 0, none⟩) 1 1) [mk8 k]) := hide (.inr ⟨_, 1, rfl, BAt.one wr (mk8 k) _ rfl _⟩)
                clear ho hm hx
                go_wp2_with fail
                refine (mark_any k _ (by omega)).mono ?_
                rintro e w2 ⟨rfl, rfl⟩
                go_wp2_with (at_builtin; refine wpList_appendB2 rfl _ _ rfl 0 _ m rfl (unhide HO1) _ [mk8 k] rfl (unhide HSr) (by have := (unhide HO).2.1; simp; omega) (Nat.zero_le _) ?_)
                intro gv' w3 hO' hC'
                have HG2 := hide ((unhide HGs).more (unhide hvlt) ((Below.refl w2.heap.size w2).alloc (Nat.le_refl _) (.cells #[.int .u8 ((mk8 k).toNat : Int)] 5)) (unhide HO).1 (unhide HO).2.2 hO' (by rw [World.size_alloc]; exact hC'))
                clear hO' hC' HO HO1 HSr HGs
                go_wp2
                go_roundw
                case rel => exact ⟨q + 1, by omega, by go_num, HG2⟩
                case measure => simp [intOf]; omega
              · have eq8 : q = 80 := by omega
                obtain ⟨m, ho, _⟩ := (unhide HGs).own
                obtain ⟨ao', c', hgv, _⟩ := ho.at
                obtain ⟨n', hnn⟩ : ∃ n', n' = m.length := ⟨_, rfl⟩
                rw [← hnn] at hgv
                subst hgv
                have hrow : wr.ownsRow W.heap.size 22 1 _ gs.length gs := rowKeep (unhide HGr).row (unhide HGs).kept (fun x hx e => by
                  have h1 := (unhide HGr).old _ _ (unhide HV) x e
                  have h2 := (World.ownsRow.lt (unhide HGr).row x hx).1
                  omega)
                have hWs : W.heap.size ≤ wr.heap.size := Nat.le_trans (unhide HGr).kept.size (unhide HGs).kept.size
                have HR := hide (hrow.alloc (.cells #[.slice ao' n' c'] 22))
                have hgl : gs.length ≤ 1000000 := by have := unhide HLg; omega
                have HV' : Hid (its[gs.length]? = some (.slice ao n c)) := by rw [unhide HLg]; exact HV
                have HGs' : Hid (Grows w1 wr gs.length (.slice ao n c) (.slice ao' n' c') q) := by rw [unhide HLg]; exact HGs
                obtain ⟨i0, hi, hz0, hz1, hz2⟩ := info_parts info22
                clear hrow ho hnn eq8 HGs HV
                go_wp2_with (at_builtin; refine wpList_append_own_at _ rfl _ _ 33 rfl W.heap.size 22 i0 (.slice none 0 0) 1 24 Tryz.underlying33 hi hz0 hz1 hz2 rfl (by decide) _ gs.length gs rfl (unhide HR) ⟨wr.heap.size, 0, none⟩ 1 1 [.slice ao' n' c'] rfl rfl (cell_one_new _ _ _) (by simp [Value.oneCell']) ?a3 ?a4 ?a5 ?_)
                case a3 => unfold maxLen; omega
                case a4 => omega
                case a5 => rw [World.size_alloc]; omega
                intro mv' w3 hO' hG' _ _
                have HG2 := hide ((unhide HGr).push (unhide HA) (unhide HV') (unhide HGs') hq ((Below.refl wr.heap.size wr).alloc (Nat.le_refl _) _) hO' hG')
                have HL2 : Hid ((gs ++ [Value.slice ao' n' c']).length = k + 1) := hide (by rw [List.length_append, unhide HLg]; rfl)
                clear hO' hG' HR HGr hi hz0 hz1 hz2 HGs' HV' hWs hgl
                go_wp2
                go_roundw
                case rel => exact ⟨k + 1, gs ++ [Value.slice ao' n' c'], by omega, by go_num, HL2, HG2⟩
                case measure => simp [intOf]; omega
          · have ek : k = its.length := by omega
            have HM := hide (marked_yes hS' (unhide HGr).row (by rw [unhide HLg]; exact ek) hp hn (fun i v hv => by
              obtain ⟨l, ho, hl, hx⟩ := (unhide HGr).itsk i v hv
              exact ⟨l, ho, by omega, hx (List.getElem?_eq_some_iff.1 hv).1⟩) (fun i v hv => ((unhide HGr).gsk i v hv).1))
            have HKe := hide ((unhide HK).trans (unhide HGr).kept (fun _ _ h => h) (fun _ _ h => h))
            clear ek hg' hS'
            go_wp2
            go_loopw [10, 92] (fun mi i wq => mi = .slice none 0 0 ∧ i = .int .i64 0 ∧ wq = wr) (fun _ _ _ => 0)
            case atStart => exact ⟨rfl, rfl, rfl⟩
            case round =>
              obtain ⟨rfl, rfl, rfl⟩ := hrel
              go_wp2_with fail
              refine (unhide HM).mono ?_
              rintro e w2 ⟨rfl, rfl⟩
              go_wp2
              go_ret
              exact ⟨rfl, unhide HKe⟩
end Go.Proofs.YthdgbdjagjagpaaGreatDoor
