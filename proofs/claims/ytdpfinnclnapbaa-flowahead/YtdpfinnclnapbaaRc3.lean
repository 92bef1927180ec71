/-
  A queue of numbers in memory of its own: a slice that may begin within its block; append of one behind it, its head taken off.
  provisoref05.Place, told exactly.
  provisoref05.Reach.
-/
import Derived.Test.YtdpfinnclnapbaaSc1
import Derived.Maps.AppendAt
import Derived.Deep.OwnRows
namespace Go.Proofs.Ytdpfinnclnapbaa
open Go.RowKit Go.Maps

def QJ (w : World) (base : Nat) (v : Value) (l : List Int) : Prop := ∃ g off cap cur, v = .slice (some ⟨g, off, none⟩) l.length cap ∧ base ≤ g ∧ w.heap[g]? = some (.cells cur 3 (0, 0)) ∧ l.length ≤ cap ∧ cap ≤ maxLen ∧ off + cap ≤ cur.size ∧ (cur.toList.drop off).take l.length = jvals l
theorem QJ.of {w : World} {base : Nat} {v : Value} {l : List Int} (h : OwnJ w base v l) (hn : v ≠ .slice none 0 0) : QJ w base v l := by
  rcases h.2 with ⟨h1, _⟩ | ⟨g, cap, cur, hv, hb, hh, hl, hm, hs, ht⟩
  · exact absurd h1 hn
  · exact ⟨g, 0, cap, cur, hv, hb, hh, hl, hm, by omega, by rw [List.drop_zero]; simpa using ht⟩
theorem QJ.lt {w : World} {base : Nat} {v : Value} {l : List Int} (h : QJ w base v l) : ∀ k, v.ownBlock = some k → base ≤ k ∧ k < w.heap.size := by
  obtain ⟨g, off, cap, cur, rfl, hb, hh, _⟩ := h
  intro k e
  injection e with e
  have e : g = k := e
  subst e
  exact ⟨hb, (Array.getElem?_eq_some_iff.1 hh).1⟩
theorem QJ.kept {w w' : World} {base : Nat} {v : Value} {l : List Int} {row : Option Nat} (h : QJ w base v l) (hg : w.grownBy w' row) (hne : v.ownBlock ≠ row) : QJ w' base v l := by
  have hlt := h.lt
  obtain ⟨g, off, cap, cur, rfl, hb, hh, r⟩ := h
  exact ⟨g, off, cap, cur, rfl, hb, (hg.block g (hlt g rfl).2 hne).trans hh, r⟩
theorem QJ.below {w w' : World} {base : Nat} {v : Value} {l : List Int} (h : QJ w base v l) (hb : Below w.heap.size w w') : QJ w' base v l := h.kept (row := none) (grownX hb) (by obtain ⟨g, off, cap, cur, rfl, _⟩ := h; intro e; cases e)
theorem QJ.setOther {w : World} {base : Nat} {v : Value} {l : List Int} (h : QJ w base v l) {a : Addr} (hne : v.ownBlock ≠ some a.block) (u : Value) : QJ (w.setCell a u) base v l := by
  obtain ⟨g, off, cap, cur, rfl, hb, hh, r⟩ := h
  exact ⟨g, off, cap, cur, rfl, hb, (heap_setCell_other w a g u (fun e => hne (by show some g = some a.block; rw [e]))).trans hh, r⟩
/-- The head, and what is left when it is taken off. -/
theorem QJ.head {w : World} {base : Nat} {v : Value} {l : List Int} {x : Int} (h : QJ w base v (x :: l)) : ∃ g off cap o', v = .slice (some ⟨g, off, none⟩) (l.length + 1) cap ∧ l.length + 1 ≤ cap ∧ w.cell? ⟨g, off, none⟩ = some (.int .i64 x) ∧ (if cap = 1 then some (⟨g, off, none⟩ : Addr) else some ⟨g, off + 1, none⟩) = some ⟨g, o', none⟩ ∧ QJ w base (.slice (some ⟨g, o', none⟩) l.length (cap - 1)) l := by
  obtain ⟨g, off, cap, cur, rfl, hb, hh, hl, hm, hs, ht⟩ := h
  rw [List.length_cons] at hl
  have hc0 : w.cell? ⟨g, off, none⟩ = some (.int .i64 x) := by
    rw [cell_of_row _ _ _ _ _ _ hh]
    have h0 := congrArg (fun z => z[0]?) ht
    simp only [List.getElem?_take, List.getElem?_drop, jvals, List.map_cons, List.getElem?_cons_zero, List.length_cons, Nat.add_zero] at h0
    rw [if_pos (by omega)] at h0
    simpa using h0
  by_cases h1 : cap = 1
  · have hl0 : l = [] := List.eq_nil_of_length_eq_zero (by omega)
    subst hl0
    exact ⟨g, off, cap, off, rfl, hl, hc0, by rw [if_pos h1], g, off, cap - 1, cur, rfl, hb, hh, by simp, by omega, by omega, by simp [jvals]⟩
  · refine ⟨g, off, cap, off + 1, rfl, hl, hc0, by rw [if_neg h1], g, off + 1, cap - 1, cur, rfl, hb, hh, by omega, by omega, by omega, ?_⟩
    have h1 := congrArg List.tail ht
    rw [List.length_cons] at h1
    rw [← List.tail_drop]
    generalize cur.toList.drop off = r at h1 ⊢
    cases r with
    | nil => simp [jvals] at h1 ⊢; exact h1
    | cons a t => simpa [jvals] using h1
theorem run_q {w : World} {base : Nat} {v : Value} {l : List Int} (x : Int) (ty : TypeId) (i : TypeInfo) (hi : Try.prog.info? 3 = some i) (hz : i.zero = some (.int .i64 0)) (hsz : i.size = 1) (hby : i.bytes = 8)
    (h : QJ w base v l) (a : Addr) (c : Nat) (hx : ∀ j u, [Value.int .i64 x][j]? = some u → w.cell? (a.add j) = some u) (hl : l.length ≤ 17000000000000) (hb : base ≤ w.heap.size) :
    ∃ v' w', (Builtin.append_ #[23, 23] ty #[v, .slice (some a) 1 c]).run Try.prog w = .ok v' w' ∧ QJ w' base v' (l ++ [x]) ∧ w.grownBy w' v.ownBlock ∧ (v'.ownBlock = v.ownBlock ∨ v'.ownBlock = some w.heap.size) := by
  obtain ⟨g, off, cap, cur, rfl, hbg, hg, hnc, hcm, hcs, ht⟩ := h
  by_cases hroom : l.length + 1 ≤ cap
  · have hf := run_firstCells_some (P := Try.prog) w i.size 1 a 1 c [.int .i64 x] (by simp [hsz]) hx
    have hst := run_storeCells_at Try.prog g (off + l.length) 3 [.int .i64 x] 0 cur w hg (by simp; omega) (by intro u hu; rw [List.mem_singleton.1 hu]; rfl)
    simp only [Nat.add_zero] at hst
    rw [hsz] at hf
    have hrun : (Builtin.append_ #[23, 23] ty #[.slice (some ⟨g, off, none⟩) l.length cap, .slice (some a) 1 c]).run Try.prog w = .ok (.slice (some ⟨g, off, none⟩) (l.length + 1) cap) (w.setRow g (cur.toList.take (off + l.length) ++ [Value.int .i64 x] ++ cur.toList.drop (off + l.length + 1)).toArray) := by
      simp [Builtin.append_, run_underlying Try.underlying23, sizeOf, typeInfo, hi, Builtin.lenOf, hroom, hf, Addr.add_lit, hsz, hst]
    refine ⟨_, _, hrun, ⟨g, off, cap, _, by simp, hbg, setRow_heap w g cur _ _ _ hg, by simpa using hroom, hcm, ?_, ?_⟩, ⟨rfl, rfl, rfl, by simp, fun k _ hk => setRow_other w g k _ (fun e => hk (by simp [Value.ownBlock, e]))⟩, Or.inl rfl⟩
    · simp; omega
    · have e1 : (cur.toList.take (off + l.length)).drop off = jvals l := by rw [List.drop_take]; rw [show off + l.length - off = l.length by omega]; exact ht
      have e2 : off ≤ (cur.toList.take (off + l.length)).length := by simp; omega
      rw [List.toList_toArray, List.append_assoc, List.drop_append_of_le_length e2, e1, List.length_append, List.length_singleton, ← List.append_assoc]
      have e3 : jvals l ++ [Value.int .i64 x] = jvals (l ++ [x]) := by simp [jvals]
      rw [e3]
      exact List.take_left' (by simp [jvals])
  · have holds : ∀ j u, (jvals l)[j]? = some u → w.cell? ((⟨g, off, none⟩ : Addr).add j) = some u := by
      intro j u hj
      rw [Addr.add_lit, cell_of_row _ _ _ _ _ _ hg]
      rw [← ht, List.getElem?_take] at hj
      split at hj
      · rw [List.getElem?_drop] at hj; simpa using hj
      · cases hj
    have hr := run_append_grow (P := Try.prog) w 23 ty 3 i (.int .i64 0) Try.underlying23 hi hz ⟨g, off, none⟩ l.length cap (jvals l) (by simp [jvals, hsz]) holds a 1 c [.int .i64 x] (by simp [hsz]) hx (by omega) (by omega) (growslice_fits (by omega) (by rw [hby]; omega))
    have hge := grownCap_ge w (l.length + 1) cap 3
    refine ⟨_, _, hr, ⟨w.heap.size, 0, _, _, by simp, hb, heap_alloc_new w.drew _, by simpa using hge, grownCap_le_maxLen w (l.length + 1) cap 3 (by unfold maxLen; omega), ?_, ?_⟩, ⟨rfl, rfl, rfl, by simp, fun k hk _ => by rw [heap_alloc_old w.drew _ (by exact hk)]; rfl⟩, Or.inr rfl⟩
    · simp only [Array.size_append, List.size_toArray, size_zeroCells]
      simp [jvals, Value.cells]
      omega
    · have e3 : jvals l ++ [Value.int .i64 x] = jvals (l ++ [x]) := by simp [jvals]
      simp only [Array.toList_append, List.drop_zero]
      rw [e3]
      exact List.take_left' (by simp [jvals])
theorem wpList_append_q {w : World} {ops : Array Oper} {rest : List Oper} {o : Oper} {act : Act} {Q : Exit → Act → World → Prop} (hgd : o.guard = none) (s y : Operand)
    (ho : o.op = .call { callee := .builtin .append, args := #[s, y], argTypes := #[23, 23] }) (base : Nat) (i : TypeInfo) (hi : Try.prog.info? 3 = some i) (hz : i.zero = some (.int .i64 0)) (hsz : i.size = 1) (hby : i.bytes = 8)
    (v : Value) (l : List Int) (hs : act.eval s = v) (h : QJ w base v l) (x : Int) (a : Addr) (c : Nat) (hy : act.eval y = .slice (some a) 1 c) (hx : ∀ j u, [Value.int .i64 x][j]? = some u → w.cell? (a.add j) = some u) (hl : l.length ≤ 17000000000000) (hb : base ≤ w.heap.size)
    (hK : ∀ v' w', QJ w' base v' (l ++ [x]) → w.grownBy w' v.ownBlock → (v'.ownBlock = v.ownBlock ∨ v'.ownBlock = some w.heap.size) → wpList Try.prog ops Q rest (act.put o.dst v') w') :
    wpList Try.prog ops Q (o :: rest) act w := by
  refine wpList_plain hgd fun K hK' => ?_
  obtain ⟨v', w', hr, h2, h3, h4⟩ := run_q x o.type i hi hz hsz hby h a c hx hl hb
  unfold Oper.wp execOp
  simp only [ho, resolve, invoke, builtin, Sem.run_bind, Sem.run_pure, Result.andThen_ok, List.map_toArray, List.map_cons, List.map_nil, hs, hy, hr]
  exact hK' _ _ (hK v' w' h2 h3 h4)
def plD (l : List Ix) (a : Int) : Int := match pI l a with | some i => (i : Int) | none => -1
theorem pI_no {l : List Ix} {a : Int} (h : hasP l a = false) : pI l a = none := by
  rw [pI_has] at h
  cases hp : pI l a with
  | none => rfl
  | some i => rw [hp] at h; cases h
theorem pI_at {l : List Ix} {a : Int} {k : Nat} {x : Ix} (h : hasP (l.take k) a = false) (hx : l[k]? = some x) (hp : x.p = a) : pI l a = some k := by
  obtain ⟨hk, rfl⟩ := List.getElem?_eq_some_iff.1 hx
  refine List.findIdx?_eq_some_iff_getElem.2 ⟨hk, by simpa using hp, fun j hj => ?_⟩
  have hj' : j < l.length := by omega
  intro e
  have hm : l[j]'hj' ∈ l.take k := List.mem_take_iff_getElem.2 ⟨j, by omega, rfl⟩
  have : hasP (l.take k) a = true := by unfold hasP; rw [List.any_eq_true]; exact ⟨_, hm, e⟩
  rw [this] at h
  cases h

set_option maxRecDepth 20000 in
set_option maxHeartbeats 4000000 in
theorem Place2_any (ao : Option Addr) (c : Nat) (l : List Ix) (a : Int) (w : World) (hx : XsAt w ao l) (hz : l.length ≤ 4400000000000) :
    Calls Try.prog 23 #[.slice ao l.length c, .int .i64 a] w fun e w' => e = .returned (.int .i64 (plD l a)) ∧ Below w.heap.size w w' := by
  have HX := hide hx
  clear hx
  go_enter Try.func23, Try.ntmps23
  go_wp2
  go_loopw [9] (fun i wr => ∃ k : Nat, k ≤ l.length ∧ i = .int .i64 (k : Int) ∧ Hid (hasP (l.take k) a = false) ∧ Hid (Below w.heap.size w wr)) (fun i _ => l.length - (intOf i).toNat)
  case atStart => exact ⟨0, by omega, rfl, hide rfl, hide (Below.refl _ _)⟩
  case round =>
    obtain ⟨k, hk, rfl, HN, HB⟩ := hrel
    by_cases hkl : k < l.length
    · have j1 : ((k : Nat) : Int) < ((l.length : Nat) : Int) := by omega
      have hx := List.getElem?_eq_getElem hkl
      generalize l[k] = x at hx
      obtain ⟨b, off, rfl, hc⟩ := ((unhide HX).below (unhide HB)) k x hx
      obtain ⟨c0, c1, c2, c3, ho⟩ := hc
      have hal : Below wr.heap.size wr (wr.alloc (.cells #[.int .i64 x.p, .int .u8 (x.op : Int), .int .i64 x.a, .int .i64 x.b] 47)) := (Below.refl _ _).alloc (Nat.le_refl _) _
      have I1 : Hid (IAt (wr.alloc (.cells #[.int .i64 x.p, .int .u8 (x.op : Int), .int .i64 x.a, .int .i64 x.b] 47)) wr.heap.size x.p x.op x.a x.b) := hide (heap_alloc_new wr _)
      have HB1 := hide ((unhide HB).trans (hal.mono (unhide HB).size))
      have HT := hide (hasP_take a hx)
      have HM : Hid (l[k]? = some x) := hide hx
      clear hx hal
      go_upto_region 4 with fail
      generalize (wr.alloc (.cells #[.int .i64 x.p, .int .u8 (x.op : Int), .int .i64 x.a, .int .i64 x.b] 47)) = w1 at I1 HB1 ⊢
      generalize wr.heap.size = gi at I1 ⊢
      clear c0 c1 c2 c3 HB
      have d0 := (unhide I1).c0
      by_cases hp : x.p = a
      · have hq : (x.p == a) = true := by simpa using hp
        have HF : Hid (plD l a = (k : Int)) := hide (by unfold plD; rw [pI_at (unhide HN) (unhide HM) hp])
        have HP := hide hp
        clear hp
        go_wp2
        go_ret
        exact ⟨by rw [unhide HF]; rfl, unhide HB1⟩
      · have hq : (x.p == a) = false := by simpa using hp
        have HT2 : Hid (hasP (l.take (k + 1)) a = false) := hide (by rw [unhide HT, unhide HN]; simpa using hp)
        clear hp
        go_wp2
        go_roundw
        case rel => exact ⟨k + 1, by omega, by go_num, HT2, HB1⟩
        case measure => simp [intOf]; omega
    · obtain rfl : k = l.length := by omega
      rw [List.take_length] at HN
      go_wp2
      go_ret
      exact ⟨by rw [show plD l a = -1 by unfold plD; rw [pI_no (unhide HN)]]; rfl, unhide HB⟩
/-- A place is marked: some address of a list has it. -/
def mt (l : List Ix) (ds : List Int) (i : Nat) : Bool := ds.any (fun a => decide (plD l a = (i : Int)))
theorem pl_some {l : List Ix} {a : Int} (h : hasP l a = true) : ∃ i : Nat, pI l a = some i ∧ plD l a = (i : Int) ∧ i < l.length := by
  rw [pI_has] at h
  obtain ⟨i, hi⟩ := Option.isSome_iff_exists.1 h
  obtain ⟨x, hx, _⟩ := pI_some hi
  exact ⟨i, hi, by unfold plD; rw [hi], (List.getElem?_eq_some_iff.1 hx).1⟩
theorem pl_none {l : List Ix} {a : Int} (h : hasP l a = false) : plD l a = -1 := by unfold plD; rw [pI_no h]
theorem pI_inj {l : List Ix} {a b : Int} {i : Nat} (ha : pI l a = some i) (hb : pI l b = some i) : a = b := by
  obtain ⟨x, hx, h1⟩ := pI_some ha
  obtain ⟨y, hy, h2⟩ := pI_some hb
  rw [hx] at hy
  injection hy with hy
  rw [← h1, ← h2, hy]
theorem mt_mem {l : List Ix} {ds : List Int} {b : Int} {i : Nat} (hb : pI l b = some i) : mt l ds i = decide (b ∈ ds) := by
  by_cases h : b ∈ ds
  · rw [decide_eq_true h]
    unfold mt
    rw [List.any_eq_true]
    exact ⟨b, h, by unfold plD; rw [hb]; simp⟩
  · rw [decide_eq_false h]
    unfold mt
    rw [List.any_eq_false]
    intro a ha e
    have e : plD l a = (i : Int) := of_decide_eq_true e
    unfold plD at e
    cases hp : pI l a with
    | none => rw [hp] at e; simp at e
    | some j =>
      rw [hp] at e
      have : j = i := by have e : (j : Int) = (i : Int) := e; omega
      subst this
      exact h (pI_inj hp hb ▸ ha)
theorem mt_snoc {l : List Ix} {ds : List Int} {b : Int} {i : Nat} (hb : plD l b = (i : Int)) (j : Nat) : mt l (ds ++ [b]) j = (if j = i then true else mt l ds j) := by
  unfold mt
  rw [List.any_append]
  by_cases h : j = i
  · subst h; simp [hb]
  · have : ¬ (i : Int) = (j : Int) := by omega
    simp [hb, h, this]
theorem Rch.has {l : List Ix} {s a : Int} (h : Rch l s a) : hasP l a = true := by cases h <;> assumption
/-- One way on after another: what lies ahead grows. -/
structure Ways (l : List Ix) (s : Int) (dn oa ns : List Int) : Prop where
  rch : ∀ b ∈ oa, Rch l s b
  all : ∀ b ∈ ns, hasP l b = true → b ∈ dn ∨ b ∈ oa
theorem Ways.skip {l : List Ix} {s : Int} {dn oa ns : List Int} {b : Int} (h : Ways l s dn oa ns) (hb : hasP l b = false ∨ b ∈ dn ∨ b ∈ oa) : Ways l s dn oa (ns ++ [b]) := by
  refine ⟨h.rch, fun y hy hp => ?_⟩
  rcases List.mem_append.1 hy with hy | hy
  · exact h.all y hy hp
  · rw [List.mem_singleton.1 hy] at hp ⊢
    rcases hb with hb | hb
    · rw [hb] at hp; cases hp
    · exact hb
theorem Ways.put {l : List Ix} {s : Int} {dn oa ns : List Int} {b : Int} (h : Ways l s dn oa ns) (hb : Rch l s b) : Ways l s dn (oa ++ [b]) (ns ++ [b]) := by
  refine ⟨fun y hy => ?_, fun y hy hp => ?_⟩
  · rcases List.mem_append.1 hy with hy | hy
    · exact h.rch y hy
    · rw [List.mem_singleton.1 hy]; exact hb
  · rcases List.mem_append.1 hy with hy | hy
    · rcases h.all y hy hp with h1 | h1
      · exact .inl h1
      · exact .inr (List.mem_append_left _ h1)
    · exact .inr (List.mem_append_right _ hy)
/-- The search as the reference has it: each that lies ahead is there. -/
theorem Srch.first {l : List Ix} {s : Int} {dn oa new : List Int} {a : Int} {i : Nat} {x : Ix} (h : Srch l s dn (a :: oa)) (hp : hasP l a = true) (hi : pI l a = some i) (hx : l[i]? = some x) (hw : Ways l s (dn ++ [a]) (oa ++ new) (nextD x.p x.op x.a)) : Srch l s (dn ++ [a]) (oa ++ new) := by
  have hr := h.in2 a (by simp) hp
  have key : ∀ b, b ∈ dn ∨ b ∈ a :: oa → b ∈ dn ++ [a] ∨ b ∈ oa ++ new := by
    intro b hb
    rcases hb with hb | hb
    · exact .inl (List.mem_append_left _ hb)
    · rcases List.mem_cons.1 hb with hb | hb
      · exact .inl (List.mem_append_right _ (List.mem_singleton.2 hb))
      · exact .inr (List.mem_append_left _ hb)
  refine ⟨?_, fun b hb _ => hw.rch b hb, ?_, fun hs => key s (h.st hs)⟩
  · intro b hb
    rcases List.mem_append.1 hb with hb | hb
    · exact h.in1 b hb
    · rw [List.mem_singleton.1 hb]; exact hr
  · intro b hb j y hj hy e he hep
    rcases List.mem_append.1 hb with hb | hb
    · exact key e (h.all b hb j y hj hy e he hep)
    · rw [List.mem_singleton.1 hb, hi] at hj
      injection hj with hj
      subst hj
      rw [hx] at hy
      injection hy with hy
      subst hy
      exact hw.all e he hep

theorem take_snocJ {l : List Int} {k : Nat} {x : Int} (h : l[k]? = some x) : l.take (k + 1) = l.take k ++ [x] := by
  obtain ⟨hk, rfl⟩ := List.getElem?_eq_some_iff.1 h
  rw [List.take_add_one, List.getElem?_eq_getElem hk]; rfl
theorem QJ.own {w : World} {base : Nat} {v : Value} {l : List Int} (h : QJ w base v l) : ∃ q, v.ownBlock = some q := by
  obtain ⟨g, off, cap, cur, rfl, _⟩ := h
  exact ⟨g, rfl⟩
theorem OwnJ.setOther {w : World} {base : Nat} {v : Value} {l : List Int} (h : OwnJ w base v l) {a : Addr} (hb : a.block < base) (u : Value) : OwnJ (w.setCell a u) base v l := by
  rcases h with ⟨h1, h2 | ⟨g, cap, cur, e, h3, hh, rest⟩⟩
  · exact ⟨h1, Or.inl h2⟩
  · exact ⟨h1, Or.inr ⟨g, cap, cur, e, h3, (heap_setCell_other w a g u (by omega)).trans hh, rest⟩⟩
theorem infoBo : (Try.prog.info? 4).map (fun i => (i.zero, i.size, i.bytes)) = some (some (.bool false), 1, 1) := by kernel_rfl
set_option maxRecDepth 20000 in
set_option maxHeartbeats 4000000 in
theorem refReach_any (ao : Option Addr) (c : Nat) (l : List Ix) (s : Int) (w : World) (hx : XsAt w ao l) (hz : l.length ≤ 4400000000000) :
    Calls Try.prog 14 #[.slice ao l.length c, .int .i64 s] w fun e w' => ∃ v js, e = .returned v ∧ OwnJ w' w.heap.size v js ∧ AscJ js ∧ (∀ x, x ∈ js ↔ Rch l s x) ∧ Below w.heap.size w w' := by
  obtain ⟨i0, hi, hz0, hz1, hz2⟩ := info_parts infoJ
  have hmk := run_make_row' (P := Try.prog) 42 4 (.bool false) 1 Try.underlying42 infoBo rfl .i64 .i64 l.length (by omega) (by omega)
  have HX := hide hx
  clear hx
  go_enter Try.func14, Try.ntmps14
  have hal : Below w.heap.size w (w.alloc (.cells (madeCells #[.bool false] l.length) 4)) := (Below.refl _ _).alloc (Nat.le_refl _) _
  have HR : Hid ((w.alloc (.cells (madeCells #[.bool false] l.length) 4)).rowIs w.heap.size 4 l.length (fun i => .bool (mt l [] i))) := hide (World.rowIs_made w (.bool false) l.length 4)
  have HPL := hide (Place2_any ao c l s (w.alloc (.cells (madeCells #[.bool false] l.length) 4)) ((unhide HX).below hal) hz)
  have HB := hide hal
  clear hal
  by_cases hs : hasP l s = true
  · obtain ⟨i, hpi, hpl, hil⟩ := pl_some hs
    rw [hpl] at HPL
    have HPI := hide hpi
    have HPD := hide hpl
    have HS := hide hs
    clear hpi hpl hs
    go_upto_region 6 with (go_at_call 23; refine (unhide HPL).mono ?_; rintro e w1 ⟨rfl, hB1⟩)
    have HR1 := hide (((unhide HR).of_block (hB1.block _ (unhide HR).lt)).alloc (.cells #[.int .i64 (i : Int)] 3))
    have HB1 := hide (((unhide HB).trans (hB1.mono (unhide HB).size)).alloc (Nat.le_trans (unhide HB).size hB1.size) (.cells #[.int .i64 (i : Int)] 3))
    have hsz : w.heap.size + 1 ≤ w1.heap.size := by have := hB1.size; simp at this; omega
    have HQ1 : Hid (QJ (w1.alloc (.cells #[.int .i64 (i : Int)] 3)) (w.heap.size + 1) (.slice (some ⟨w1.heap.size, 0, none⟩) 1 1) [(i : Int)]) := hide (QJ.of (OwnJ.new w1 _ _ hsz) (by intro e; injection e with e; cases e))
    clear hB1 HR HB HPL
    generalize (w1.alloc (.cells #[.int .i64 (i : Int)] 3)) = w2 at HR1 HB1 HQ1 ⊢
    generalize w1.heap.size = gq at HQ1 hsz ⊢
    have hcl := (unhide HR1).cell hil
    have hfz := (unhide HR1).frozen i
    have HR2 : Hid ((w2.setCell ⟨w.heap.size, i, none⟩ (.bool true)).rowIs w.heap.size 4 l.length (fun j => .bool (mt l ([] ++ [s]) j))) := hide (((unhide HR1).set i (.bool true)).congr (fun j hj => by rw [mt_snoc (unhide HPD) j]; split <;> rfl))
    have HB2 : Hid (Below w.heap.size w (w2.setCell ⟨w.heap.size, i, none⟩ (.bool true))) := hide ((unhide HB1).setCell (Nat.le_refl _) _)
    have HQ2 : Hid (QJ (w2.setCell ⟨w.heap.size, i, none⟩ (.bool true)) (w.heap.size + 1) (.slice (some ⟨gq, 0, none⟩) 1 1) ([s].map (plD l))) := hide (by
      have e : [s].map (plD l) = [(i : Int)] := by simp [unhide HPD]
      rw [e]
      exact (unhide HQ1).setOther (a := ⟨w.heap.size, i, none⟩) (fun e => by injection e with e; have e : gq = w.heap.size := e; omega) _)
    clear HR1 HB1 HQ1
    go_upto_region 7 with fail
    generalize w2.setCell ⟨w.heap.size, i, none⟩ (.bool true) = w3 at HR2 HB2 HQ2 ⊢
    clear hcl hfz w2
    have hst : ([] ++ [s] : List Int).length + frN5 l ([] ++ [s]) ≤ l.length := by
      have := frN5_come (l := l) (cm := []) (a := s) (by simp) (unhide HS)
      rw [frN5_nil] at this
      simp at this ⊢
      omega
    have HAP : Hid (∀ q, (Value.slice (some ⟨gq, 0, none⟩) 1 1).ownBlock = some q → (Value.slice none 0 0).ownBlock ≠ some q) := hide (fun q _ e => by cases e)
    have HSr : Hid (Srch l s [] [s]) := hide (Srch.start l s)
    have HAll : Hid (∀ a ∈ [s], hasP l a = true) := hide (fun a ha => by rw [List.mem_singleton.1 ha]; exact unhide HS)
    clear HPI HPD HS hil
    go_wp2_with fail
    go_loopg [7, 8] (l.length + 1) (fun k vq vo wr => ∃ dn oa, Hid (QJ wr (w.heap.size + 1) vq (oa.map (plD l))) ∧ Hid (OwnJ wr (w.heap.size + 1) vo (pts dn)) ∧ Hid (∀ q, vq.ownBlock = some q → vo.ownBlock ≠ some q) ∧ Hid (wr.rowIs w.heap.size 4 l.length (fun j => .bool (mt l (dn ++ oa) j))) ∧ Hid (Below w.heap.size w wr) ∧ Hid (Srch l s dn oa) ∧ Hid (∀ a ∈ oa, hasP l a = true) ∧ (dn ++ oa).length + frN5 l (dn ++ oa) ≤ l.length ∧ oa.length + frN5 l (dn ++ oa) ≤ k)
    case atStart => exact ⟨[], [s], HQ2, hide (OwnJ.nil _ _), HAP, HR2, HB2, HSr, HAll, hst, by simp at hst ⊢; omega⟩
    case round =>
      clear HQ2 HR2 HB2 HAP HSr HAll hst w3
      obtain ⟨dn, oa, HQ, HO, HAP, HR, HB, HSr, HAll, hf1, hf2⟩ := hrel
      cases oa with
      | nil =>
        obtain ⟨qg, qo, qc, _, rfl, _⟩ := unhide HQ
        have HDn := hide (fun y => (unhide HSr).done y)
        clear HQ HAP HR HSr HAll hf1 hf2 hmk
        go_wp2
        go_ret
        exact ⟨_, pts dn, rfl, (unhide HO).mono (Nat.le_succ _), (pts_both dn [] List.Pairwise.nil).1, (fun y => ((pts_both dn [] List.Pairwise.nil).2 y).trans (by rw [← unhide HDn y]; simp)), unhide HB⟩
      | cons a oa =>
        rw [List.map_cons] at HQ
        obtain ⟨i, hpi, hpl, hil⟩ := pl_some (unhide HAll a (List.mem_cons_self ..))
        obtain ⟨x, hx, rfl⟩ := pI_some hpi
        rw [hpl] at HQ
        obtain ⟨qg, qo, qc, qo2, rfl, hqc, hcell, hif, hQ1⟩ := (unhide HQ).head
        have HIF := hide hif
        have HQ1 := hide hQ1
        have HPI := hide hpi
        have HXG := hide hx
        rw [List.length_map] at hqc HQ1
        obtain ⟨va, vc, rfl, hja, _⟩ := (unhide HO).at
        have HAP1 : Hid (∀ q, (Value.slice (some ⟨qg, qo2, none⟩) oa.length (qc - 1)).ownBlock = some q → (Value.slice va (pts dn).length vc).ownBlock ≠ some q) := hide (fun q e => unhide HAP q e)
        obtain ⟨b, off, rfl, hc⟩ := ((unhide HX).below (unhide HB)) i x hx
        obtain ⟨c0, c1, c2, c3, ho⟩ := hc
        have hpd : (pts dn).length ≤ 4400000000000 := by have := pts_len dn; rw [List.length_append] at hf1; omega
        have HPU := hide (refPut_int va vc (pts dn) x.p wr hja hpd)
        have hoal : oa.length ≤ 4400000000000 := by rw [List.length_append, List.length_cons] at hf1; omega
        have hiz : ((i : Nat) : Int) < ((l.length : Nat) : Int) := by omega
        clear hQ1 hpi hpl hx hja HQ HAP hmk hif
        have HF1 := hide hf1
        have HF2 := hide hf2
        clear hf1 hf2
        go_upto_region 12 with (go_at_call 25; refine (unhide HPU).mono ?_; rintro e w1 ⟨v1, rfl, hO1, hB1⟩)
        rw [unhide HIF]
        have hO1' : OwnJ w1 wr.heap.size v1 (pts (dn ++ [x.p])) := by rw [pts_snoc]; exact hO1
        have HO1 := hide (hO1'.mono (show w.heap.size + 1 ≤ wr.heap.size by have := (unhide HR).lt; omega))
        have HAP2 : Hid (∀ q, (Value.slice (some ⟨qg, qo2, none⟩) oa.length (qc - 1)).ownBlock = some q → v1.ownBlock ≠ some q) := hide (fun q e e2 => by
          have h1 := (QJ.lt (unhide HQ1) q e).2
          have h2 := (World.ownsRow.lt hO1' q e2).1
          omega)
        have HQ2 := hide ((unhide HQ1).below hB1)
        have HR2 := hide ((unhide HR).of_block (hB1.block _ (unhide HR).lt))
        have HB2 := hide ((unhide HB).trans (hB1.mono (unhide HB).size))
        clear hO1 hO1' hB1 HQ1 HR HB HO HAP1 HPU c0 c1 c2 c3 hcell HIF
        obtain ⟨b', off', eq, hc⟩ := ((unhide HX).below (unhide HB2)) i x (unhide HXG)
        injection eq with eq
        injection eq with eq1 eq2
        subst eq1 eq2
        obtain ⟨c0, c1, c2, c3, _⟩ := hc
        have HNX := hide (refNext_any x.p x.op x.a x.b w1)
        have hnl := nextD_len x.p x.op x.a
        go_wp2_with fail
        with_reducible refine (unhide HNX).mono ?_
        rintro e w2 ⟨v2, rfl, hO2, hB2⟩
        have HO3 := hide ((unhide HO1).below hB2)
        have HQ3 := hide ((unhide HQ2).below hB2)
        have HR3 := hide ((unhide HR2).of_block (hB2.block _ (unhide HR2).lt))
        have HB3 := hide ((unhide HB2).trans (hB2.mono (unhide HB2).size))
        have HN3 := hide (hO2.mono (show w.heap.size + 1 ≤ w1.heap.size by have := (unhide HR2).lt; omega))
        have HAP3 : Hid (∀ q, (Value.slice (some ⟨qg, qo2, none⟩) oa.length (qc - 1)).ownBlock = some q → v1.ownBlock ≠ some q ∧ v2.ownBlock ≠ some q) := hide (fun q e => ⟨unhide HAP2 q e, fun e2 => by
          have h1 := (QJ.lt (unhide HQ2) q e).2
          have h2 := (World.ownsRow.lt hO2 q e2).1
          omega⟩)
        obtain ⟨na, nc, rfl, _, _⟩ := (unhide HN3).at
        obtain ⟨ns, HNS⟩ : ∃ ns, Hid (nextD x.p x.op x.a = ns) := ⟨_, hide rfl⟩
        rw [unhide HNS] at HN3 HAP3 hnl ⊢
        clear hO2 hB2 HO1 HQ2 HR2 HB2 HAP2 HNX c0 c1 c2 c3
        go_wp2_with fail
        have hap := unhide HAll x.p (List.mem_cons_self ..)
        have HHP := hide hap
        clear hap
        go_loopw [7, 46] (fun vq j wr2 => ∃ (k : Nat) (new : List Int), k ≤ ns.length ∧ j = .int .i64 (k : Int) ∧ Hid (QJ wr2 (w.heap.size + 1) vq ((oa ++ new).map (plD l))) ∧ Hid (OwnJ wr2 (w.heap.size + 1) v1 (pts (dn ++ [x.p]))) ∧ Hid (OwnJ wr2 (w.heap.size + 1) (.slice na ns.length nc) ns) ∧ Hid (∀ q, vq.ownBlock = some q → v1.ownBlock ≠ some q ∧ (Value.slice na ns.length nc).ownBlock ≠ some q) ∧ Hid (wr2.rowIs w.heap.size 4 l.length (fun j => .bool (mt l ((dn ++ [x.p]) ++ (oa ++ new)) j))) ∧ Hid (Below w.heap.size w wr2) ∧ Hid (Ways l s (dn ++ [x.p]) (oa ++ new) (ns.take k)) ∧ ((dn ++ [x.p]) ++ (oa ++ new)).length + frN5 l ((dn ++ [x.p]) ++ (oa ++ new)) ≤ l.length ∧ (oa ++ new).length + frN5 l ((dn ++ [x.p]) ++ (oa ++ new)) + 1 ≤ gk) (fun _ j _ => ns.length - (intOf j).toNat)
        case atStart =>
          have e1 : (dn ++ [x.p]) ++ (oa ++ []) = dn ++ x.p :: oa := by simp
          refine ⟨0, [], by omega, rfl, by rw [List.append_nil]; exact HQ3, HO3, HN3, HAP3, by rw [e1]; exact HR3, HB3, hide ⟨fun b hb => ?_, fun b hb => by cases hb⟩, by rw [e1]; exact unhide HF1, ?_⟩
          · rw [List.append_nil] at hb
            exact (unhide HSr).in2 b (List.mem_cons_of_mem _ hb) (unhide HAll b (List.mem_cons_of_mem _ hb))
          · rw [e1, List.append_nil]; have := unhide HF2; rw [List.length_cons] at this; omega
        case round =>
          clear HQ3 HO3 HN3 HAP3 HR3 HB3 HF1 HF2
          obtain ⟨k, new, hk, rfl, HQ, HO, HN, HAP, HR, HB, HWy, hf1, hf2⟩ := hrel
          by_cases hkl : k < ns.length
          · have j1 : ((k : Nat) : Int) < ((ns.length : Nat) : Int) := by omega
            have hy := List.getElem?_eq_getElem hkl
            generalize ns[k] = y at hy
            have HTk := hide (take_snocJ hy)
            obtain ⟨na', nc', e0, hja, _⟩ := (unhide HN).at
            injection e0 with e0 _ e2
            subst e0 e2
            obtain ⟨nb, no, rfl, hyc⟩ := hja k y hy
            have HYM := hide (List.mem_of_getElem? hy)
            have HPL := hide (Place2_any (some ⟨b, off, none⟩) c l y wr ((unhide HX).below (unhide HB)) hz)
            have HF1 := hide hf1
            have HF2 := hide hf2
            clear hy hja hf1 hf2
            by_cases hys : hasP l y = true
            · obtain ⟨j, hpj, hplj, hjl⟩ := pl_some hys
              rw [hplj] at HPL
              have HPJ := hide hpj
              have HPLJ := hide hplj
              have hjz : ((j : Nat) : Int) < ((l.length : Nat) : Int) := by omega
              have hj0 : decide (((j : Nat) : Int) ≥ 0) = true := by simp
              have hmm := mt_mem (ds := (dn ++ [x.p]) ++ (oa ++ new)) hpj
              clear hpj hplj
              go_upto_region 16 with (go_at_call 23; refine (unhide HPL).mono ?_; rintro e w4 ⟨rfl, hB4⟩)
              have HQ4 := hide ((unhide HQ).below hB4)
              have HO4 := hide ((unhide HO).below hB4)
              have HN4 := hide ((unhide HN).below hB4)
              have HR4 := hide ((unhide HR).of_block (hB4.block _ (unhide HR).lt))
              have HB4 := hide ((unhide HB).trans (hB4.mono (unhide HB).size))
              clear hB4 HQ HO HN HR HB HPL hyc
              have hcl := (unhide HR4).cell hjl
              have hfz := (unhide HR4).frozen j
              simp only [hmm] at hcl
              have HMM := hide hmm
              have HYS := hide hys
              clear hmm hys
              by_cases hin : y ∈ (dn ++ [x.p]) ++ (oa ++ new)
              · rw [decide_eq_true hin] at hcl
                have HW2 : Hid (Ways l s (dn ++ [x.p]) (oa ++ new) (ns.take (k + 1))) := hide (by rw [unhide HTk]; exact (unhide HWy).skip (Or.inr (List.mem_append.1 hin)))
                clear hin HWy
                go_wp2_with fail
                go_roundw
                case rel => exact ⟨k + 1, new, by omega, by go_num, HQ4, HO4, HN4, HAP, HR4, HB4, HW2, unhide HF1, unhide HF2⟩
                case measure => simp [intOf]; omega
              · rw [decide_eq_false hin] at hcl
                have hfc := frN5_come hin (unhide HYS)
                have e1 : ((dn ++ [x.p]) ++ (oa ++ new)) ++ [y] = (dn ++ [x.p]) ++ (oa ++ (new ++ [y])) := by simp
                have e2 : (oa ++ new) ++ [y] = oa ++ (new ++ [y]) := by simp
                have HW2 : Hid (Ways l s (dn ++ [x.p]) (oa ++ (new ++ [y])) (ns.take (k + 1))) := hide (by
                  rw [unhide HTk, ← e2]
                  exact (unhide HWy).put (.next ((unhide HSr).in2 x.p (List.mem_cons_self ..) (unhide HHP)) (unhide HPI) (unhide HXG) (by rw [unhide HNS]; exact unhide HYM) (unhide HYS)))
                have HG1 : Hid (((dn ++ [x.p]) ++ (oa ++ (new ++ [y]))).length + frN5 l ((dn ++ [x.p]) ++ (oa ++ (new ++ [y]))) ≤ l.length) := hide (by
                  have h1 := unhide HF1
                  rw [← e1, List.length_append, List.length_singleton]; omega)
                have HG2 : Hid ((oa ++ (new ++ [y])).length + frN5 l ((dn ++ [x.p]) ++ (oa ++ (new ++ [y]))) + 1 ≤ gk) := hide (by
                  have h1 := unhide HF2
                  rw [← e1, ← e2, List.length_append, List.length_singleton]; omega)
                have hql : ((oa ++ new).map (plD l)).length ≤ 17000000000000 := by
                  have h1 := unhide HF1
                  rw [List.length_append] at h1
                  rw [List.length_map]; omega
                have HR5 : Hid ((w4.setCell ⟨w.heap.size, j, none⟩ (.bool true)).rowIs w.heap.size 4 l.length (fun jj => .bool (mt l ((dn ++ [x.p]) ++ (oa ++ (new ++ [y]))) jj))) := hide (((unhide HR4).set j (.bool true)).congr (fun jj _ => by rw [← e1, mt_snoc (unhide HPLJ) jj]; split <;> rfl))
                have HB5 : Hid (Below w.heap.size w (w4.setCell ⟨w.heap.size, j, none⟩ (.bool true))) := hide ((unhide HB4).setCell (Nat.le_refl _) _)
                obtain ⟨q0, hq0⟩ := (unhide HQ4).own
                have hq1 := (QJ.lt (unhide HQ4) q0 hq0).1
                have HQ5 := hide ((unhide HQ4).setOther (a := ⟨w.heap.size, j, none⟩) (fun e => by rw [hq0] at e; injection e with e; have e : q0 = w.heap.size := e; omega) (.bool true))
                have HO5 := hide ((unhide HO4).setOther (a := ⟨w.heap.size, j, none⟩) (Nat.lt_succ_self _) (.bool true))
                have HN5 := hide ((unhide HN4).setOther (a := ⟨w.heap.size, j, none⟩) (Nat.lt_succ_self _) (.bool true))
                have HQ0 := hide hq0
                clear hin hfc e1 e2 HWy HF1 HF2 HMM HQ4 HO4 HN4 HR4 HB4 hq0
                go_upto_region 18 with fail
                generalize w4.setCell ⟨w.heap.size, j, none⟩ (.bool true) = w5 at HR5 HB5 HQ5 HO5 HN5 ⊢
                clear hcl hfz w4
                have hal : Below w5.heap.size w5 (w5.alloc (.cells #[.int .i64 (j : Int)] 3)) := (Below.refl _ _).alloc (Nat.le_refl _) _
                have HQ6 := hide ((unhide HQ5).below hal)
                have HO6 := hide ((unhide HO5).below hal)
                have HN6 := hide ((unhide HN5).below hal)
                have HR6 := hide ((unhide HR5).alloc (.cells #[.int .i64 (j : Int)] 3))
                have HB6 := hide ((unhide HB5).trans (hal.mono (unhide HB5).size))
                have hb6 : w.heap.size + 1 ≤ w5.heap.size := by have := (unhide HR5).lt; omega
                clear hal HQ5 HO5 HN5 HR5 HB5
                go_wp2_with (at_builtin; refine wpList_append_q rfl _ _ rfl (w.heap.size + 1) i0 hi hz0 hz1 hz2 u7 _ rfl (unhide HQ6) (j : Int) ⟨w5.heap.size, 0, none⟩ 1 rfl (cell_one_newJ _ _ _) hql (by simp; omega) ?_; intro v7 w7 hQ7 hG7 hat7)
                rw [unhide HQ0] at hG7 hat7
                have hap := unhide HAP q0 (unhide HQ0)
                have HO7 : Hid (OwnJ w7 (w.heap.size + 1) v1 (pts (dn ++ [x.p]))) := hide (World.ownsRow.kept (unhide HO6) hG7 (Or.inr hap.1))
                have HN7 : Hid (OwnJ w7 (w.heap.size + 1) (.slice (some ⟨nb, no, none⟩) ns.length nc) ns) := hide (World.ownsRow.kept (unhide HN6) hG7 (Or.inr hap.2))
                have HR7 := hide ((unhide HR6).of_block (hG7.block _ (unhide HR6).lt (fun e => by injection e with e; omega)))
                have HB7 : Hid (Below w.heap.size w w7) := hide ((unhide HB6).trans (below_grown hG7 (unhide HB6).size (fun r e => by injection e with e; omega)))
                have HQ7 : Hid (QJ w7 (w.heap.size + 1) v7 ((oa ++ (new ++ [y])).map (plD l))) := hide (by
                  have e : (oa ++ (new ++ [y])).map (plD l) = (oa ++ new).map (plD l) ++ [(j : Int)] := by simp [unhide HPLJ]
                  rw [e]; exact hQ7)
                have HAP7 : Hid (∀ q, v7.ownBlock = some q → v1.ownBlock ≠ some q ∧ (Value.slice (some ⟨nb, no, none⟩) ns.length nc).ownBlock ≠ some q) := hide (fun q e => by
                  rcases hat7 with h | h
                  · rw [h] at e; injection e with e; rw [← e]; exact hap
                  · rw [h] at e
                    injection e with e
                    refine ⟨fun e2 => ?_, fun e2 => ?_⟩
                    · have := (World.ownsRow.lt (unhide HO6) q e2).2; omega
                    · have := (World.ownsRow.lt (unhide HN6) q e2).2; omega)
                clear hQ7 hG7 hat7 hap HO6 HN6 HR6 HB6 HQ6
                go_roundw
                case rel => exact ⟨k + 1, new ++ [y], by omega, by go_num, HQ7, HO7, HN7, HAP7, HR7, HB7, HW2, unhide HG1, unhide HG2⟩
                case measure => simp [intOf]; omega
            · have hys' : hasP l y = false := by simpa using hys
              rw [pl_none hys'] at HPL
              have HW2 : Hid (Ways l s (dn ++ [x.p]) (oa ++ new) (ns.take (k + 1))) := hide (by rw [unhide HTk]; exact (unhide HWy).skip (Or.inl hys'))
              clear hys hys' HWy
              go_wp2_with (go_at_call 23; refine (unhide HPL).mono ?_; rintro e w4 ⟨rfl, hB4⟩)
              go_roundw
              case rel => exact ⟨k + 1, new, by omega, by go_num, hide ((unhide HQ).below hB4), hide ((unhide HO).below hB4), hide ((unhide HN).below hB4), HAP, hide ((unhide HR).of_block (hB4.block _ (unhide HR).lt)), hide ((unhide HB).trans (hB4.mono (unhide HB).size)), HW2, unhide HF1, unhide HF2⟩
              case measure => simp [intOf]; omega
          · obtain rfl : k = ns.length := by omega
            rw [List.take_length] at HWy
            have HS2 := hide ((unhide HSr).first (unhide HHP) (unhide HPI) (unhide HXG) (by rw [unhide HNS]; exact unhide HWy))
            go_wp2
            go_roundg ((oa ++ new).length + frN5 l ((dn ++ [x.p]) ++ (oa ++ new)))
            case measure => omega
            case rel => exact ⟨dn ++ [x.p], oa ++ new, HQ, HO, hide (fun q e => (unhide HAP q e).1), HR, HB, HS2, hide (fun a ha => ((unhide HWy).rch a ha).has), hf1, Nat.le_refl _⟩
  · have hs' : hasP l s = false := by simpa using hs
    have hno : ∀ x, x ∈ ([] : List Int) ↔ Rch l s x := fun x => ⟨fun h => (by cases h), fun h => by
      exfalso
      have : ∀ y, Rch l s y → hasP l s = true := fun y hy => by induction hy with | here h => exact h | next _ _ _ _ _ ih => exact ih
      exact hs (this x h)⟩
    rw [pl_none hs'] at HPL
    clear hs hs'
    go_wp2_with (go_at_call 23; refine (unhide HPL).mono ?_; rintro e w1 ⟨rfl, hB1⟩)
    go_ret
    exact ⟨_, [], rfl, OwnJ.nil _ _, List.Pairwise.nil, hno, (unhide HB).trans (hB1.mono (unhide HB).size)⟩
end Go.Proofs.Ytdpfinnclnapbaa
