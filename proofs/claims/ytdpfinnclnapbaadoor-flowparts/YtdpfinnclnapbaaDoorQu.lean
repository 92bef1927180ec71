/-
  A queue of numbers in memory of its own: a slice that may begin within its block; append of one behind it, its head taken off.
-/
import Derived.Test.YtdpfinnclnapbaaDoorRc2
import Derived.Maps.AppendAt
namespace Go.Proofs.YtdpfinnclnapbaaDoor
open Go.RowKit
set_option maxRecDepth 20000

def QJ (w : World) (base : Nat) (v : Value) (l : List Int) : Prop := ∃ g off cap cur, v = .slice (some ⟨g, off, none⟩) l.length cap ∧ base ≤ g ∧ w.heap[g]? = some (.cells cur 3 (0, 0)) ∧ l.length ≤ cap ∧ cap ≤ maxLen ∧ off + cap ≤ cur.size ∧ (cur.toList.drop off).take l.length = jvals l
theorem QJ.of {w : World} {base : Nat} {v : Value} {l : List Int} (h : OwnJ w base v l) (hn : v ≠ .slice none 0 0) : QJ w base v l := by
  rcases h.2 with ⟨h1, _⟩ | ⟨g, cap, cur, hv, hb, hh, hl, hm, hs, ht⟩
  · exact absurd h1 hn
  · exact ⟨g, 0, cap, cur, hv, hb, hh, hl, hm, by omega, by rw [List.drop_zero]; simpa using ht⟩
theorem QJ.lt {w : World} {base : Nat} {v : Value} {l : List Int} (h : QJ w base v l) : ∀ k, v.ownBlock = some k → base ≤ k ∧ k < w.heap.size := by
  obtain ⟨g, off, cap, cur, rfl, hb, hh, _⟩ := h
  intro k e
  injection e with e
  have e : g = k := e
  subst e
  exact ⟨hb, (Array.getElem?_eq_some_iff.1 hh).1⟩
theorem QJ.kept {w w' : World} {base : Nat} {v : Value} {l : List Int} {row : Option Nat} (h : QJ w base v l) (hg : w.grownBy w' row) (hne : v.ownBlock ≠ row) : QJ w' base v l := by
  have hlt := h.lt
  obtain ⟨g, off, cap, cur, rfl, hb, hh, r⟩ := h
  exact ⟨g, off, cap, cur, rfl, hb, (hg.block g (hlt g rfl).2 hne).trans hh, r⟩
theorem QJ.below {w w' : World} {base : Nat} {v : Value} {l : List Int} (h : QJ w base v l) (hb : Below w.heap.size w w') : QJ w' base v l := h.kept (row := none) (grownX hb) (by obtain ⟨g, off, cap, cur, rfl, _⟩ := h; intro e; cases e)
theorem QJ.setOther {w : World} {base : Nat} {v : Value} {l : List Int} (h : QJ w base v l) {a : Addr} (hne : v.ownBlock ≠ some a.block) (u : Value) : QJ (w.setCell a u) base v l := by
  obtain ⟨g, off, cap, cur, rfl, hb, hh, r⟩ := h
  exact ⟨g, off, cap, cur, rfl, hb, (heap_setCell_other w a g u (fun e => hne (by show some g = some a.block; rw [e]))).trans hh, r⟩
/-- The head, and what is left when it is taken off. -/
theorem QJ.head {w : World} {base : Nat} {v : Value} {l : List Int} {x : Int} (h : QJ w base v (x :: l)) : ∃ g off cap o', v = .slice (some ⟨g, off, none⟩) (l.length + 1) cap ∧ l.length + 1 ≤ cap ∧ w.cell? ⟨g, off, none⟩ = some (.int .i64 x) ∧ (if cap = 1 then some (⟨g, off, none⟩ : Addr) else some ⟨g, off + 1, none⟩) = some ⟨g, o', none⟩ ∧ QJ w base (.slice (some ⟨g, o', none⟩) l.length (cap - 1)) l := by
  obtain ⟨g, off, cap, cur, rfl, hb, hh, hl, hm, hs, ht⟩ := h
  rw [List.length_cons] at hl
  have hc0 : w.cell? ⟨g, off, none⟩ = some (.int .i64 x) := by
    rw [cell_of_row _ _ _ _ _ _ hh]
    have h0 := congrArg (fun z => z[0]?) ht
    simp only [List.getElem?_take, List.getElem?_drop, jvals, List.map_cons, List.getElem?_cons_zero, List.length_cons, Nat.add_zero] at h0
    rw [if_pos (by omega)] at h0
    simpa using h0
  by_cases h1 : cap = 1
  · have hl0 : l = [] := List.eq_nil_of_length_eq_zero (by omega)
    subst hl0
    exact ⟨g, off, cap, off, rfl, hl, hc0, by rw [if_pos h1], g, off, cap - 1, cur, rfl, hb, hh, by simp, by omega, by omega, by simp [jvals]⟩
  · refine ⟨g, off, cap, off + 1, rfl, hl, hc0, by rw [if_neg h1], g, off + 1, cap - 1, cur, rfl, hb, hh, by omega, by omega, by omega, ?_⟩
    have h1 := congrArg List.tail ht
    rw [List.length_cons] at h1
    rw [← List.tail_drop]
    generalize cur.toList.drop off = r at h1 ⊢
    cases r with
    | nil => simp [jvals] at h1 ⊢; exact h1
    | cons a t => simpa [jvals] using h1
theorem run_q {w : World} {base : Nat} {v : Value} {l : List Int} (x : Int) (ty : TypeId) (i : TypeInfo) (hi : Tryd.prog.info? 3 = some i) (hz : i.zero = some (.int .i64 0)) (hsz : i.size = 1) (hby : i.bytes = 8)
    (h : QJ w base v l) (a : Addr) (c : Nat) (hx : ∀ j u, [Value.int .i64 x][j]? = some u → w.cell? (a.add j) = some u) (hl : l.length ≤ 17000000000000) (hb : base ≤ w.heap.size) :
    ∃ v' w', (Builtin.append_ #[32, 32] ty #[v, .slice (some a) 1 c]).run Tryd.prog w = .ok v' w' ∧ QJ w' base v' (l ++ [x]) ∧ w.grownBy w' v.ownBlock ∧ (v'.ownBlock = v.ownBlock ∨ v'.ownBlock = some w.heap.size) := by
  obtain ⟨g, off, cap, cur, rfl, hbg, hg, hnc, hcm, hcs, ht⟩ := h
  by_cases hroom : l.length + 1 ≤ cap
  · have hf := run_firstCells_some (P := Tryd.prog) w i.size 1 a 1 c [.int .i64 x] (by simp [hsz]) hx
    have hst := run_storeCells_at Tryd.prog g (off + l.length) 3 [.int .i64 x] 0 cur w hg (by simp; omega) (by intro u hu; rw [List.mem_singleton.1 hu]; rfl)
    simp only [Nat.add_zero] at hst
    rw [hsz] at hf
    have hrun : (Builtin.append_ #[32, 32] ty #[.slice (some ⟨g, off, none⟩) l.length cap, .slice (some a) 1 c]).run Tryd.prog w = .ok (.slice (some ⟨g, off, none⟩) (l.length + 1) cap) (w.setRow g (cur.toList.take (off + l.length) ++ [Value.int .i64 x] ++ cur.toList.drop (off + l.length + 1)).toArray) := by
      simp [Builtin.append_, run_underlying Tryd.underlying32, sizeOf, typeInfo, hi, Builtin.lenOf, hroom, hf, Addr.add_lit, hsz, hst]
    refine ⟨_, _, hrun, ⟨g, off, cap, _, by simp, hbg, setRow_heap w g cur _ _ _ hg, by simpa using hroom, hcm, ?_, ?_⟩, ⟨rfl, rfl, rfl, by simp, fun k _ hk => setRow_other w g k _ (fun e => hk (by simp [Value.ownBlock, e]))⟩, Or.inl rfl⟩
    · simp; omega
    · have e1 : (cur.toList.take (off + l.length)).drop off = jvals l := by rw [List.drop_take]; rw [show off + l.length - off = l.length by omega]; exact ht
      have e2 : off ≤ (cur.toList.take (off + l.length)).length := by simp; omega
      rw [List.toList_toArray, List.append_assoc, List.drop_append_of_le_length e2, e1, List.length_append, List.length_singleton, ← List.append_assoc]
      have e3 : jvals l ++ [Value.int .i64 x] = jvals (l ++ [x]) := by simp [jvals]
      rw [e3]
      exact List.take_left' (by simp [jvals])
  · have holds : ∀ j u, (jvals l)[j]? = some u → w.cell? ((⟨g, off, none⟩ : Addr).add j) = some u := by
      intro j u hj
      rw [Addr.add_lit, cell_of_row _ _ _ _ _ _ hg]
      rw [← ht, List.getElem?_take] at hj
      split at hj
      · rw [List.getElem?_drop] at hj; simpa using hj
      · cases hj
    have hr := run_append_grow (P := Tryd.prog) w 32 ty 3 i (.int .i64 0) Tryd.underlying32 hi hz ⟨g, off, none⟩ l.length cap (jvals l) (by simp [jvals, hsz]) holds a 1 c [.int .i64 x] (by simp [hsz]) hx (by omega) (by omega) (growslice_fits (by omega) (by rw [hby]; omega))
    have hge := grownCap_ge w (l.length + 1) cap 3
    refine ⟨_, _, hr, ⟨w.heap.size, 0, _, _, by simp, hb, heap_alloc_new w.drew _, by simpa using hge, grownCap_le_maxLen w (l.length + 1) cap 3 (by unfold maxLen; omega), ?_, ?_⟩, ⟨rfl, rfl, rfl, by simp, fun k hk _ => by rw [heap_alloc_old w.drew _ (by exact hk)]; rfl⟩, Or.inr rfl⟩
    · simp only [Array.size_append, List.size_toArray, size_zeroCells]
      simp [jvals, Value.cells]
      omega
    · have e3 : jvals l ++ [Value.int .i64 x] = jvals (l ++ [x]) := by simp [jvals]
      simp only [Array.toList_append, List.drop_zero]
      rw [e3]
      exact List.take_left' (by simp [jvals])
theorem wpList_append_q {w : World} {ops : Array Oper} {rest : List Oper} {o : Oper} {act : Act} {Q : Exit → Act → World → Prop} (hgd : o.guard = none) (s y : Operand)
    (ho : o.op = .call { callee := .builtin .append, args := #[s, y], argTypes := #[32, 32] }) (base : Nat) (i : TypeInfo) (hi : Tryd.prog.info? 3 = some i) (hz : i.zero = some (.int .i64 0)) (hsz : i.size = 1) (hby : i.bytes = 8)
    (v : Value) (l : List Int) (hs : act.eval s = v) (h : QJ w base v l) (x : Int) (a : Addr) (c : Nat) (hy : act.eval y = .slice (some a) 1 c) (hx : ∀ j u, [Value.int .i64 x][j]? = some u → w.cell? (a.add j) = some u) (hl : l.length ≤ 17000000000000) (hb : base ≤ w.heap.size)
    (hK : ∀ v' w', QJ w' base v' (l ++ [x]) → w.grownBy w' v.ownBlock → (v'.ownBlock = v.ownBlock ∨ v'.ownBlock = some w.heap.size) → wpList Tryd.prog ops Q rest (act.put o.dst v') w') :
    wpList Tryd.prog ops Q (o :: rest) act w := by
  refine wpList_plain hgd fun K hK' => ?_
  obtain ⟨v', w', hr, h2, h3, h4⟩ := run_q x o.type i hi hz hsz hby h a c hx hl hb
  unfold Oper.wp execOp
  simp only [ho, resolve, invoke, builtin, Sem.run_bind, Sem.run_pure, Result.andThen_ok, List.map_toArray, List.map_cons, List.map_nil, hs, hy, hr]
  exact hK' _ _ (hK v' w' h2 h3 h4)
end Go.Proofs.YtdpfinnclnapbaaDoor
