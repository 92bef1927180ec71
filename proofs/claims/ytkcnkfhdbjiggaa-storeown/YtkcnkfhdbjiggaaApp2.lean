/-
  The law of 'append(v, b...)' for a row of bytes of one's own, as in the text on append, and besides: what comes is in the same block, and nothing but that block has turned; or it is in a new block, and nothing old has turned. Conditions: the sum of the lengths fits.
-/
import Derived.Test.YtkcnkfhdbjiggaaApp
namespace Go.Proofs.Ytkcnkfhdbjiggaa
open Go.RowKit
set_option maxRecDepth 20000

theorem wpList_appendB2 {w : World} {ops : Array Oper} {rest : List Oper} {o : Oper} {a : Act} {Q : Exit → Act → World → Prop} (hgd : o.guard = none) (s x : Operand)
    (ho : o.op = .call { callee := .builtin .append, args := #[s, x], argTypes := #[25, 25] })
    (base : Nat) (v : Value) (l : List UInt8) (hs : a.eval s = v) (hown : OwnB w base v l) (b : Value) (m : List UInt8) (hx : a.eval x = b) (hb : SrcB w b m) (hfit : l.length + m.length ≤ 140737488355328) (hbase : base ≤ w.heap.size)
    (h : ∀ v' w', OwnB w' base v' (l ++ m) → ((w.grownBy w' v.ownBlock ∧ ∃ ao n n' c, v = .slice ao n c ∧ v' = .slice ao n' c) ∨ (Below w.heap.size w w' ∧ ∀ k, v'.ownBlock = some k → w.heap.size ≤ k)) → wpList Try.prog ops Q rest (a.put o.dst v') w') :
    wpList Try.prog ops Q (o :: rest) a w := by
  obtain ⟨i0, hi, hz0, hz1, hz2⟩ := info_parts info8
  rcases hb with ⟨rfl, rfl⟩ | ⟨y, c, rfl, hb⟩
  · refine wpList_append_own_none hgd s x 25 ho base 5 i0 1 Try.underlying25 hi v l.length (bvals l) hs hown hx ?_
    exact h v w (by rw [List.append_nil]; exact hown) (.inl ⟨World.grownBy.refl _ _, by obtain ⟨ao, c, e, _⟩ := hown.at; exact ⟨ao, _, _, c, e, e⟩⟩)
  · have hmm : (bvals l ++ bvals m) = bvals (l ++ m) := bvals_append l m
    have hll : l.length + m.length = (l ++ m).length := by simp
    rcases hown.shape with ⟨rfl, rfl⟩ | ⟨g, cap, rfl, hg1, hg2, hg3, hg4, hg5⟩
    · by_cases hm0 : m = []
      · subst hm0
        refine wpList_append_own w hgd s x 25 ho base 5 i0 (.int .u8 0) 1 1 Try.underlying25 hi hz0 hz1 hz2 rfl (by decide) _ 0 [] hs hown y 0 c [] hx rfl (by simp) (by simp) (by decide) (by decide) hbase ?_
        intro v' w' h1 h2 h3
        obtain rfl := h3.2 ⟨rfl, rfl⟩
        exact h _ w' h1 (.inl ⟨h2, _, _, _, _, rfl, rfl⟩)
      · refine wpList_append_grows w hgd s x 25 ho 5 i0 (.int .u8 0) 1 1 Try.underlying25 hi hz0 hz1 hz2 rfl (by decide) none 0 0 [] hs (fun _ => ⟨rfl, rfl⟩) rfl (fun b e => by cases e) y m.length c (bvals m) hx (by rw [bvals_length]; omega) hb.cells (bvals_one m) (by have := List.length_pos_iff.2 hm0; omega) (by unfold maxLen; omega) (by omega) ?_
        intro v' w' h1 h2
        rw [Nat.zero_add, List.nil_append] at h1
        have hO : OwnB w' w.heap.size v' m := h1
        exact h v' w' (hO.mono hbase) (.inr ⟨below_grown h2 (Nat.le_refl _) (fun k e => by cases e), fun k hk => (h1.lt k hk).1⟩)
    · by_cases hroom : l.length + m.length ≤ cap
      · refine wpList_append_fits w hgd s x 25 ho base 5 i0 1 Try.underlying25 hi hz1 g l.length cap (bvals l) hs hown y m.length c (bvals m) hx (by rw [bvals_length]; omega) hb.cells (bvals_one m) hroom ?_
        intro w' h1 h2
        rw [hmm] at h1
        exact h _ w' (by unfold OwnB; rw [← hll]; exact h1) (.inl ⟨h2, _, _, _, _, rfl, rfl⟩)
      · refine wpList_append_grows w hgd s x 25 ho 5 i0 (.int .u8 0) 1 1 Try.underlying25 hi hz0 hz1 hz2 rfl (by decide) (some ⟨g, 0, none⟩) l.length cap (bvals l) hs (fun e => by cases e) (by rw [bvals_length]; omega) (fun b e => by cases e; exact hg5.cells) y m.length c (bvals m) hx (by rw [bvals_length]; omega) hb.cells (bvals_one m) (by omega) (by unfold maxLen; omega) (by omega) ?_
        intro v' w' h1 h2
        rw [hmm] at h1
        have hO : OwnB w' w.heap.size v' (l ++ m) := by unfold OwnB; rw [← hll]; exact h1
        exact h v' w' (hO.mono hbase) (.inr ⟨below_grown h2 (Nat.le_refl _) (fun k e => by cases e), fun k hk => (h1.lt k hk).1⟩)
end Go.Proofs.Ytkcnkfhdbjiggaa
