/-
  The law of 'append(v, b...)' for a row of bytes of one's own: it owns both, in its own block or a new one. Conditions: the sum of the lengths fits.
-/
import Derived.Test.YtgelbihdcfgjcaaDoorMem
import Derived.Laws.AppendOwnNone
namespace Go.Proofs.YtgelbihdcfgjcaaDoor
open Go.RowKit
set_option maxRecDepth 20000

/-- What is put: nil, or a slice of these bytes. -/
def SrcB (w : World) (b : Value) (m : List UInt8) : Prop := (b = .slice none 0 0 ∧ m = []) ∨ ∃ x c, b = .slice (some x) m.length c ∧ BAt w (some x) m
theorem OwnB.src {w : World} {base : Nat} {v : Value} {l : List UInt8} (h : OwnB w base v l) : SrcB w v l := by
  rcases h.shape with h | ⟨g, cap, rfl, _, _, _, _, hb⟩
  · exact .inl h
  · exact .inr ⟨_, _, rfl, hb⟩
theorem BAt.cells {w : World} {x : Addr} {m : List UInt8} (h : BAt w (some x) m) : ∀ j u, (bvals m)[j]? = some u → w.cell? (x.add j) = some u := by
  intro j u hj
  have hjl : j < m.length := by
    have := (List.getElem?_eq_some_iff.1 hj).1
    rw [bvals_length] at this; exact this
  obtain ⟨b, off, e, hc⟩ := h j hjl
  injection e with e
  subst e
  rw [bvals_get hjl] at hj
  injection hj with hj
  subst hj
  rw [Addr.add_lit]
  exact hc

theorem wpList_appendB {w : World} {ops : Array Oper} {rest : List Oper} {o : Oper} {a : Act} {Q : Exit → Act → World → Prop} (hgd : o.guard = none) (s x : Operand)
    (ho : o.op = .call { callee := .builtin .append, args := #[s, x], argTypes := #[38, 38] })
    (base : Nat) (v : Value) (l : List UInt8) (hs : a.eval s = v) (hown : OwnB w base v l) (b : Value) (m : List UInt8) (hx : a.eval x = b) (hb : SrcB w b m) (hfit : l.length + m.length ≤ 140737488355328) (hbase : base ≤ w.heap.size)
    (h : ∀ v' w', OwnB w' base v' (l ++ m) → w.grownBy w' v.ownBlock → (∀ k, v'.ownBlock = some k → v.ownBlock = some k ∨ w.heap.size ≤ k) → (v' = .slice none 0 0 ↔ v = .slice none 0 0 ∧ m = []) → wpList Tryd.prog ops Q rest (a.put o.dst v') w') :
    wpList Tryd.prog ops Q (o :: rest) a w := by
  obtain ⟨i0, hi, hz0, hz1, hz2⟩ := info_parts info8
  rcases hb with ⟨rfl, rfl⟩ | ⟨y, c, rfl, hb⟩
  · refine wpList_append_own_none hgd s x 38 ho base 5 i0 1 Tryd.underlying38 hi v l.length (bvals l) hs hown hx ?_
    refine h v w (by rw [List.append_nil]; exact hown) (World.grownBy.refl _ _) (fun k hk => .inl hk) (by simp)
  · have hmm : (bvals l ++ bvals m) = bvals (l ++ m) := bvals_append l m
    have hll : l.length + m.length = (l ++ m).length := by simp
    rcases hown.shape with ⟨rfl, rfl⟩ | ⟨g, cap, rfl, hg1, hg2, hg3, hg4, hg5⟩
    · by_cases hm0 : m = []
      · subst hm0
        refine wpList_append_own w hgd s x 38 ho base 5 i0 (.int .u8 0) 1 1 Tryd.underlying38 hi hz0 hz1 hz2 rfl (by decide) _ 0 [] hs hown y 0 c [] hx rfl (by simp) (by simp) (by decide) (by decide) hbase ?_
        intro v' w' h1 h2 h3
        obtain rfl := h3.2 ⟨rfl, rfl⟩
        exact h _ w' h1 h2 (fun k hk => by cases hk) (by simp)
      · refine wpList_append_grows w hgd s x 38 ho 5 i0 (.int .u8 0) 1 1 Tryd.underlying38 hi hz0 hz1 hz2 rfl (by decide) none 0 0 [] hs (fun _ => ⟨rfl, rfl⟩) rfl (fun b e => by cases e) y m.length c (bvals m) hx (by rw [bvals_length]; omega) hb.cells (bvals_one m) (by have := List.length_pos_iff.2 hm0; omega) (by unfold maxLen; omega) (by omega) ?_
        intro v' w' h1 h2
        rw [Nat.zero_add, List.nil_append] at h1
        have hO : OwnB w' w.heap.size v' m := h1
        refine h v' w' (hO.mono hbase) ⟨h2.os, h2.tape, h2.output, h2.size, fun k hk _ => h2.block k hk (by simp)⟩ (fun k hk => .inr (h1.lt k hk).1) ?_
        constructor
        · rintro rfl
          rcases h1.2 with ⟨_, h⟩ | ⟨_, _, _, h, _⟩
          · exact absurd (List.eq_nil_of_length_eq_zero h) hm0
          · cases h
        · rintro ⟨_, h⟩; exact absurd h hm0
    · by_cases hroom : l.length + m.length ≤ cap
      · refine wpList_append_fits w hgd s x 38 ho base 5 i0 1 Tryd.underlying38 hi hz1 g l.length cap (bvals l) hs hown y m.length c (bvals m) hx (by rw [bvals_length]; omega) hb.cells (bvals_one m) hroom ?_
        intro w' h1 h2
        rw [hmm] at h1
        refine h _ w' (by unfold OwnB; rw [← hll]; exact h1) h2 (fun k hk => .inl hk) (by simp)
      · refine wpList_append_grows w hgd s x 38 ho 5 i0 (.int .u8 0) 1 1 Tryd.underlying38 hi hz0 hz1 hz2 rfl (by decide) (some ⟨g, 0, none⟩) l.length cap (bvals l) hs (fun e => by cases e) (by rw [bvals_length]; omega) (fun b e => by cases e; exact hg5.cells) y m.length c (bvals m) hx (by rw [bvals_length]; omega) hb.cells (bvals_one m) (by omega) (by unfold maxLen; omega) (by omega) ?_
        intro v' w' h1 h2
        rw [hmm] at h1
        have hO : OwnB w' w.heap.size v' (l ++ m) := by unfold OwnB; rw [← hll]; exact h1
        refine h v' w' (hO.mono hbase) ⟨h2.os, h2.tape, h2.output, h2.size, fun k hk _ => h2.block k hk (by simp)⟩ (fun k hk => .inr (h1.lt k hk).1) ?_
        constructor
        · rintro rfl
          rcases h1.2 with ⟨_, h⟩ | ⟨_, _, _, h, _⟩
          · omega
          · cases h
        · rintro ⟨h, _⟩; cases h
end Go.Proofs.YtgelbihdcfgjcaaDoor
