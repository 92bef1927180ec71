/-
  What a writer is in memory ('IsWriter'), and the contracts of wire.New and of a writer's Len, Bytes, Put. Conditions: lengths fit.
-/
import Derived.Test.YtkiijdcpfbnacaaGreatDoorCopied
import Derived.Test.YtkiijdcpfbnacaaGreatDoorApp
namespace Go.Proofs.YtkiijdcpfbnacaaGreatDoor
open Go.RowKit
set_option maxRecDepth 20000

/-- What may have turned: the blocks of S, and nothing else that was there. -/
structure Kept (S : Nat → Prop) (w w' : World) : Prop where
  os : w'.os = w.os
  tape : w'.tape = w.tape
  output : w'.output = w.output
  size : w.heap.size ≤ w'.heap.size
  block : ∀ k, k < w.heap.size → ¬ S k → w'.heap[k]? = w.heap[k]?
theorem Kept.refl (S : Nat → Prop) (w : World) : Kept S w w := ⟨rfl, rfl, rfl, Nat.le_refl _, fun _ _ _ => rfl⟩
theorem Kept.trans {S T U : Nat → Prop} {a b c : World} (h : Kept S a b) (k : Kept T b c) (h1 : ∀ x, x < a.heap.size → S x → U x) (h2 : ∀ x, x < a.heap.size → T x → U x) : Kept U a c :=
  ⟨k.os.trans h.os, k.tape.trans h.tape, k.output.trans h.output, Nat.le_trans h.size k.size, fun i hi hu => (k.block i (Nat.lt_of_lt_of_le hi h.size) (fun ht => hu (h2 i hi ht))).trans (h.block i hi (fun hs => hu (h1 i hi hs)))⟩
theorem Kept.mono {S T : Nat → Prop} {a b : World} (h : Kept S a b) (h1 : ∀ x, x < a.heap.size → S x → T x) : Kept T a b :=
  ⟨h.os, h.tape, h.output, h.size, fun k hk ht => h.block k hk (fun hs => ht (h1 k hk hs))⟩
theorem Kept.of_below {w w' : World} (h : Below w.heap.size w w') (S : Nat → Prop) : Kept S w w' := ⟨h.os, h.tape, h.output, h.size, fun k hk _ => h.block k hk⟩
theorem Kept.of_grown {w w' : World} {row : Option Nat} (h : w.grownBy w' row) : Kept (fun k => some k = row) w w' := ⟨h.os, h.tape, h.output, h.size, h.block⟩
theorem Kept.below {S : Nat → Prop} {B : Nat} {w0 w w' : World} (h : Kept S w w') (hb : Below B w0 w) (hB : B ≤ w.heap.size) (hs : ∀ k, S k → B ≤ k) : Below B w0 w' :=
  hb.trans ⟨h.os, h.tape, h.output, h.size, fun k hk => h.block k (by omega) (fun hk' => by have := hs k hk'; omega)⟩
theorem BAt.keep {S : Nat → Prop} {w w' : World} {ao : Option Addr} {l : List UInt8} (h : BAt w ao l) (hk : Kept S w w') (hs : ∀ b off, ao = some ⟨b, off, none⟩ → 0 < l.length → ¬ S b) : BAt w' ao l := by
  intro i hi
  obtain ⟨b, off, e, hc⟩ := h i hi
  exact ⟨b, off, e, (World.cell?_of_block (hk.block b (World.block_lt_of_cell? w _ hc) (hs b off e (by omega)))).trans hc⟩

/-- At block p a writer that has the bytes l, in the slice v. -/
structure IsWriter (w : World) (p : Nat) (v : Value) (l : List UInt8) : Prop where
  row : w.heap[p]? = some (.cells #[v, .bool true] 389 (0, 0))
  own : OwnB w 0 v l
  ne : v.ownBlock ≠ some p
  len : l.length ≤ 1048576

/-- What a writer's calls may turn. -/
def WT (p : Nat) (v : Value) (k : Nat) : Prop := k = p ∨ v.ownBlock = some k

theorem IsWriter.pl {w : World} {p : Nat} {v : Value} {l : List UInt8} (h : IsWriter w p v l) : p < w.heap.size := (Array.getElem?_eq_some_iff.1 h.row).1
theorem IsWriter.c0 {w : World} {p : Nat} {v : Value} {l : List UInt8} (h : IsWriter w p v l) : w.cell? ⟨p, 0, none⟩ = some v := by
  rw [cell_of_row _ _ _ _ _ _ h.row]; rfl
theorem IsWriter.c1 {w : World} {p : Nat} {v : Value} {l : List UInt8} (h : IsWriter w p v l) : w.cell? ⟨p, 1, none⟩ = some (.bool true) := by
  rw [cell_of_row _ _ _ _ _ _ h.row]; rfl
theorem IsWriter.f0 {w : World} {p : Nat} {v : Value} {l : List UInt8} (h : IsWriter w p v l) : w.frozen? ⟨p, 0, none⟩ = false := by
  simp [World.frozen?, h.row]
theorem OwnB.keep {S : Nat → Prop} {w w' : World} {base : Nat} {v : Value} {l : List UInt8} (h : OwnB w base v l) (hk : Kept S w w') (hs : ∀ k, v.ownBlock = some k → ¬ S k) : OwnB w' base v l := by
  refine ⟨h.1, ?_⟩
  rcases h.2 with h1 | ⟨g, cap, cur, hv, hbg, hh, r⟩
  · exact Or.inl h1
  · exact Or.inr ⟨g, cap, cur, hv, hbg, by rw [hk.block g (Array.getElem?_eq_some_iff.1 hh).1 (hs g (by rw [hv]; rfl))]; exact hh, r⟩
theorem IsWriter.keep {S : Nat → Prop} {w w' : World} {p : Nat} {v : Value} {l : List UInt8} (h : IsWriter w p v l) (hk : Kept S w w') (hs : ∀ k, WT p v k → ¬ S k) : IsWriter w' p v l :=
  ⟨(hk.block p h.pl (hs p (.inl rfl))).trans h.row, h.own.keep hk (fun k hk => hs k (.inr hk)), h.ne, h.len⟩
theorem IsWriter.below {w w' : World} {p : Nat} {v : Value} {l : List UInt8} (h : IsWriter w p v l) (hb : Below w.heap.size w w') : IsWriter w' p v l :=
  h.keep (Kept.of_below hb (fun _ => False)) (fun _ _ h => h)

theorem New_any (w : World) : Calls Tryz.prog 294 #[] w fun e w' => e = .returned (.pointer (some ⟨w.heap.size, 0, none⟩)) ∧ IsWriter w' w.heap.size (.slice none 0 0) [] ∧ Below w.heap.size w w' := by
  go_enter Tryz.func294, Tryz.ntmps294
  go_wp2
  go_ret
  exact ⟨rfl, ⟨heap_alloc_new w _, World.ownsRow_nil _ _ _ _, by simp [Value.ownBlock], by simp⟩, (Below.refl _ w).alloc (Nat.le_refl _) _⟩

theorem wMade_yes {w : World} {p : Nat} {v : Value} {l : List UInt8} (h : IsWriter w p v l) :
    Calls Tryz.prog 302 #[.pointer (some ⟨p, 0, none⟩)] w fun e w' => e = .returned (.bool true) ∧ w' = w := by
  have c1 := h.c1
  go_enter Tryz.func302, Tryz.ntmps302
  go_wp2
  go_ret
  exact ⟨rfl, rfl⟩

theorem Bytes_any {w : World} {p : Nat} {v : Value} {l : List UInt8} (h : IsWriter w p v l) :
    Calls Tryz.prog 297 #[.pointer (some ⟨p, 0, none⟩)] w fun e w' => e = .returned (.slice (some ⟨w.heap.size, 0, none⟩) l.length l.length) ∧
      OwnB w' w.heap.size (.slice (some ⟨w.heap.size, 0, none⟩) l.length l.length) l ∧ Below w.heap.size w w' := by
  obtain ⟨ao, cap, rfl, hb⟩ := h.own.at
  have c0 := h.c0
  have hlen := h.len
  have HM := hide (wMade_yes h)
  clear h
  go_enter Tryz.func297, Tryz.ntmps297
  go_wp2_with (first | (go_at_call 302; refine (unhide HM).mono ?_; rintro e w' ⟨rfl, rfl⟩) | fail)
  refine (copied_any ao cap l _ hb (by omega)).mono ?_
  rintro e w1 ⟨rfl, ho, hb1⟩
  go_wp2
  go_ret
  exact ⟨rfl, ho, hb1⟩

theorem IsWriter.store {w : World} {p : Nat} {v v' : Value} {l : List UInt8} (hrow : w.heap[p]? = some (.cells #[v, .bool true] 389 (0, 0))) (ho : OwnB w 0 v' l) (hne : v'.ownBlock ≠ some p) (hl : l.length ≤ 1048576) : IsWriter (w.setCell ⟨p, 0, none⟩ v') p v' l := by
  refine ⟨by rw [heap_setCell_same _ _ _ _ _ _ hrow]; rfl, ?_, hne, hl⟩
  have hg : w.grownBy (w.setCell ⟨p, 0, none⟩ v') (some p) := ⟨rfl, rfl, rfl, by simp [World.setCell], fun k _ hk => Below.heap_setCell _ _ _ _ (fun e => hk (by rw [e]))⟩
  exact ho.keep (Kept.of_grown hg) (fun k hk e => hne (by rw [hk, e]))
theorem kept_setCell (w : World) (p : Addr) (u : Value) : Kept (fun k => k = p.block) w (w.setCell p u) :=
  ⟨rfl, rfl, rfl, by simp [World.setCell], fun k _ hk => Below.heap_setCell _ _ _ _ hk⟩

theorem Put_full {w : World} {p : Nat} {v : Value} {l : List UInt8} (h : IsWriter w p v l) (b : Value) (m : List UInt8) (hb : SrcB w b m) (hm : m.length ≤ 140737488355328) (hf : 1048576 < l.length + m.length) :
    Calls Tryz.prog 299 #[.pointer (some ⟨p, 0, none⟩), b] w fun e w' => e = .returned (.int .i64 7) ∧ w' = w := by
  obtain ⟨ao, cap, rfl, _⟩ := h.own.at
  have c0 := h.c0
  have hlen := h.len
  have HM := hide (wMade_yes h)
  have hx : (1048576 : Int) - (l.length : Int) < (m.length : Int) := by omega
  rcases hb with ⟨rfl, rfl⟩ | ⟨x, c, rfl, hb⟩
  · simp at hf; omega
  · clear h hb
    go_enter Tryz.func299, Tryz.ntmps299
    go_wp2_with (go_at_call 302; refine (unhide HM).mono ?_; rintro e w' ⟨rfl, rfl⟩)
    go_ret
    exact ⟨rfl, rfl⟩

set_option maxHeartbeats 400000 in
theorem Put_ok {w : World} {p : Nat} {v : Value} {l : List UInt8} (h : IsWriter w p v l) (b : Value) (m : List UInt8) (hb : SrcB w b m) (hf : l.length + m.length ≤ 1048576) :
    Calls Tryz.prog 299 #[.pointer (some ⟨p, 0, none⟩), b] w fun e w' => e = .returned (.int .i64 0) ∧
      ∃ v', IsWriter w' p v' (l ++ m) ∧ Kept (WT p v) w w' ∧ (∀ k, v'.ownBlock = some k → v.ownBlock = some k ∨ w.heap.size ≤ k) := by
  obtain ⟨ao, cap, hv, _⟩ := h.own.at
  obtain ⟨bo, bc, hbv⟩ : ∃ bo bc, b = .slice bo m.length bc := by
    rcases hb with ⟨rfl, rfl⟩ | ⟨x, c, rfl, hb⟩
    · exact ⟨none, 0, rfl⟩
    · exact ⟨_, _, rfl⟩
  have c0 := h.c0
  have f0 := h.f0
  have hlen := h.len
  have HM := hide (wMade_yes h)
  have hx : ¬ (1048576 : Int) - (l.length : Int) < (m.length : Int) := by omega
  have HH := hide h
  have HB := hide hb
  subst hv hbv
  clear h hb
  go_enter Tryz.func299, Tryz.ntmps299
  go_wp2_with (first | (go_at_call 302; refine (unhide HM).mono ?_; rintro e w' ⟨rfl, rfl⟩) | (at_builtin; refine wpList_appendB rfl _ _ rfl 0 _ l rfl (unhide HH).own _ m rfl (unhide HB) (by omega) (Nat.zero_le _) ?_))
  intro v1 w1 ho hg hfr hnil
  obtain ⟨ao1, cap1, hv1, _⟩ := ho.at
  rw [List.length_append] at hv1
  subst hv1
  have hrow1 := (hg.block p (unhide HH).pl (fun e => (unhide HH).ne e.symm)).trans (unhide HH).row
  have hne1 : (Value.slice ao1 (l.length + m.length) cap1).ownBlock ≠ some p := by
    intro e
    rcases hfr p e with e' | e'
    · exact (unhide HH).ne e'
    · have := (unhide HH).pl; omega
  have HR := hide (IsWriter.store hrow1 ho hne1 (by simp; omega))
  have HK := hide ((Kept.of_grown hg).trans (kept_setCell w1 ⟨p, 0, none⟩ (.slice ao1 (l.length + m.length) cap1)) (U := WT p (.slice ao l.length cap)) (fun x _ hx => .inr hx.symm) (fun x _ hx => .inl hx))
  have HF := hide hfr
  have d0 : w1.cell? ⟨p, 0, none⟩ = some (.slice ao l.length cap) := by rw [cell_of_row _ _ _ _ _ _ hrow1]; rfl
  have d1 : w1.frozen? ⟨p, 0, none⟩ = false := by simp [World.frozen?, hrow1]
  clear ho hg hfr hnil hrow1 hne1 c0 f0
  go_wp2
  go_ret
  exact ⟨rfl, _, unhide HR, unhide HK, unhide HF⟩
end Go.Proofs.YtkiijdcpfbnacaaGreatDoor
