/-
  Rows of requests: how they lie; append of a request to one.
-/
import Derived.Test.YtghdefhbncejjaaTk7
import Derived.Laws.AppendOwnNone
namespace Go.Proofs.Ytghdefhbncejjaa
open Go.RowKit

/-- A request, and where its bytes lie. -/
structure Rq where
  cm : Int
  nu : Int
  ba : Option Addr
  bc : Nat
  bs : List UInt8
def rqC (x : Rq) : List Value := [.int .i64 x.cm, .int .i64 x.nu, .slice x.ba x.bs.length x.bc]
def rqV (L : List Rq) : List Value := L.flatMap rqC
theorem rqV_len (L : List Rq) : (rqV L).length = L.length * 3 := by
  unfold rqV
  induction L with
  | nil => simp
  | cons x l ih => rw [List.flatMap_cons, List.length_append, ih, List.length_cons]; simp [rqC]; omega
theorem rqV_app (A B : List Rq) : rqV (A ++ B) = rqV A ++ rqV B := by unfold rqV; simp
theorem rqV_get : ∀ {L : List Rq} {i : Nat} {x : Rq}, L[i]? = some x → ∀ j, j < 3 → (rqV L)[i * 3 + j]? = (rqC x)[j]?
  | [], i, x, h, _, _ => by simp at h
  | g :: l, 0, x, h, j, hj => by
    simp at h
    subst h
    unfold rqV
    rw [List.flatMap_cons, List.getElem?_append_left (by simp [rqC]; omega)]
    simp
  | g :: l, i + 1, x, h, j, hj => by
    have h' : l[i]? = some x := by simpa using h
    have h1 := rqV_get h' j hj
    unfold rqV at h1 ⊢
    rw [List.flatMap_cons, List.getElem?_append_right (by simp [rqC]; omega), ← h1]
    congr 1
    simp [rqC]; omega
theorem rqV_take : ∀ (L : List Rq) (i : Nat), rqV (L.take i) = (rqV L).take (i * 3)
  | [], i => by simp [rqV]
  | x :: l, 0 => by simp [rqV]
  | x :: l, i + 1 => by
    have ih := rqV_take l i
    unfold rqV at ih ⊢
    rw [List.take_succ_cons, List.flatMap_cons, List.flatMap_cons, ih, show (i + 1) * 3 = i * 3 + 1 + 1 + 1 by omega]
    simp only [rqC, List.cons_append, List.nil_append, List.take_succ_cons]
theorem rqV_drop : ∀ (L : List Rq) (i : Nat), rqV (L.drop i) = (rqV L).drop (i * 3)
  | [], i => by simp [rqV]
  | x :: l, 0 => by simp [rqV]
  | x :: l, i + 1 => by
    have ih := rqV_drop l i
    unfold rqV at ih ⊢
    rw [List.drop_succ_cons, List.flatMap_cons, ih, show (i + 1) * 3 = i * 3 + 1 + 1 + 1 by omega]
    simp only [rqC, List.cons_append, List.nil_append, List.drop_succ_cons]
theorem rqV_one (L : List Rq) : ∀ v ∈ rqV L, v.oneCell' = true := by
  intro v hv
  unfold rqV at hv
  obtain ⟨x, _, hx⟩ := List.mem_flatMap.1 hv
  simp [rqC] at hx
  rcases hx with rfl | rfl | rfl <;> simp [Value.oneCell']
def OwnQ (w : World) (base : Nat) (v : Value) (L : List Rq) : Prop := w.ownsRow base 24 3 v L.length (rqV L)
theorem OwnQ.keep {S : Nat → Prop} {w w' : World} {base : Nat} {v : Value} {L : List Rq} (h : OwnQ w base v L) (hk : Kept S w w') (hs : ∀ k, v.ownBlock = some k → ¬ S k) : OwnQ w' base v L := by
  refine ⟨h.1, ?_⟩
  rcases h.2 with h1 | ⟨g, cap, cur, hv, hbg, hh, r⟩
  · exact Or.inl h1
  · exact Or.inr ⟨g, cap, cur, hv, hbg, by rw [hk.block g (Array.getElem?_eq_some_iff.1 hh).1 (hs g (by rw [hv]; rfl))]; exact hh, r⟩
theorem OwnQ.below {w w' : World} {base : Nat} {v : Value} {L : List Rq} (h : OwnQ w base v L) (hb : Below w.heap.size w w') : OwnQ w' base v L := h.keep (Kept.of_below hb (fun _ => False)) (fun _ _ h => h)
theorem OwnQ.at {w : World} {base : Nat} {v : Value} {L : List Rq} (h : OwnQ w base v L) : ∃ ao cap, v = .slice ao L.length cap ∧ (ao = none → L = []) ∧ L.length ≤ cap ∧ cap ≤ maxLen ∧ (∀ b, ao = some b → ∃ g, b = ⟨g, 0, none⟩ ∧ ∀ j u, (rqV L)[j]? = some u → w.cell? ⟨g, j, none⟩ = some u) := by
  rcases h.2 with ⟨h1, h2⟩ | ⟨g, cap, cur, rfl, hb, hh, hn, hm, hsz, ht⟩
  · have := List.eq_nil_of_length_eq_zero h2
    subst this
    exact ⟨none, 0, h1, fun _ => rfl, Nat.le_refl _, by decide, fun b e => by cases e⟩
  · refine ⟨_, cap, rfl, (fun e => by cases e), hn, hm, fun b e => ⟨g, by injection e with e; exact e.symm, fun j u hu => ?_⟩⟩
    have hj := (List.getElem?_eq_some_iff.1 hu).1
    rw [rqV_len] at hj
    rw [World.ownsRow.cellAt h j (by omega)]
    exact hu
theorem infoRq : (Try.prog.info? 24).map (fun i => (i.zero, i.size, i.bytes)) = some (some (.agg #[.int .i64 0, .int .i64 0, .slice none 0 0]), 3, 40) := by kernel_rfl
theorem unRq : Try.prog.underlying 42 = some (.slice 24) := Try.underlying42
def SrcQ (w : World) (b : Value) (M : List Rq) : Prop := (b = .slice none 0 0 ∧ M = []) ∨ ∃ x c, b = .slice (some x) M.length c ∧ ∀ j u, (rqV M)[j]? = some u → w.cell? (x.add j) = some u
theorem wpList_appendQ {w : World} {ops : Array Oper} {rest : List Oper} {o : Oper} {a : Act} {Q : Exit → Act → World → Prop} (hgd : o.guard = none) (s x : Operand)
    (ho : o.op = .call { callee := .builtin .append, args := #[s, x], argTypes := #[42, 42] })
    (base : Nat) (v : Value) (L : List Rq) (hs : a.eval s = v) (hown : OwnQ w base v L) (b : Value) (M : List Rq) (hx : a.eval x = b) (hb : SrcQ w b M) (hfit : L.length + M.length ≤ 100000) (hbase : base ≤ w.heap.size)
    (h : ∀ v' w', OwnQ w' base v' (L ++ M) → w.grownBy w' v.ownBlock → wpList Try.prog ops Q rest (a.put o.dst v') w') :
    wpList Try.prog ops Q (o :: rest) a w := by
  obtain ⟨i0, hi, hz0, hz1, hz2⟩ := info_parts infoRq
  rcases hb with ⟨rfl, rfl⟩ | ⟨y, c, rfl, hb⟩
  · refine wpList_append_own_none hgd s x 42 ho base 24 i0 3 unRq hi v L.length (rqV L) hs hown hx ?_
    exact h v w (by rw [List.append_nil]; exact hown) (World.grownBy.refl _ _)
  · refine wpList_append_own w hgd s x 42 ho base 24 i0 _ 3 40 unRq hi hz0 hz1 hz2 rfl (by decide) v L.length (rqV L) hs hown y M.length c (rqV M) hx (rqV_len M) hb (rqV_one M) (by unfold maxLen; omega) (by omega) hbase ?_
    intro v' w' h1 h2 _
    refine h v' w' ?_ h2
    unfold OwnQ
    rw [List.length_append, rqV_app]
    exact h1
end Go.Proofs.Ytghdefhbncejjaa
