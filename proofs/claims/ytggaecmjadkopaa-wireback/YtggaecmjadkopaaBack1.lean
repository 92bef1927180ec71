/-
  What holds between two steps of the law WireBack: the writer, and the list of what it was told. No conditions.
-/
import Derived.Test.YtggaecmjadkopaaAgain
import Derived.Test.YtggaecmjadkopaaSt
import Derived.Test.YtggaecmjadkopaaRdPut
namespace Go.Proofs.Ytggaecmjadkopaa
open Go.RowKit

def WD.sl (x : WD) : Value := .slice x.so x.bs.length x.sc

structure Wb (W0 w : World) (p : Nat) (v lv : Value) (ws : List WD) (l : List UInt8) : Prop where
  wr : IsWriter w p v l
  el : l = ws.flatMap WD.enc
  row : w.ownsRow W0.heap.size 57 4 lv ws.length (ws.flatMap WD.cells)
  ok : ∀ x ∈ ws, x.ok
  own : ∀ x ∈ ws, OwnB w W0.heap.size x.sl x.bs
  ap : ∀ x ∈ ws, ∀ b, x.sl.ownBlock = some b → v.ownBlock ≠ some b
  pb : W0.heap.size ≤ p
  vb : ∀ k, v.ownBlock = some k → W0.heap.size ≤ k
  bel : Below W0.heap.size W0 w
  pos : 0 < ws.length

theorem row_keep' {S : Nat → Prop} {w w' : World} {B : Nat} {t : TypeId} {s : Nat} {v : Value} {n : Nat} {cs : List Value} (h : w.ownsRow B t s v n cs) (hk : Kept S w w') (hs : ∀ k, v.ownBlock = some k → ¬ S k) : w'.ownsRow B t s v n cs := by
  refine ⟨h.1, ?_⟩
  rcases h.2 with h1 | ⟨g, cap, cur, hv, hbg, hh, r⟩
  · exact Or.inl h1
  · exact Or.inr ⟨g, cap, cur, hv, hbg, by rw [hk.block g (Array.getElem?_eq_some_iff.1 hh).1 (hs g (by rw [hv]; rfl))]; exact hh, r⟩
theorem row_type' {w : World} {B : Nat} {t : TypeId} {s : Nat} {v : Value} {n : Nat} {cs : List Value} (h : w.ownsRow B t s v n cs) : ∀ k, v.ownBlock = some k → ∃ cur, w.heap[k]? = some (.cells cur t (0, 0)) := by
  intro k hk
  rcases h.2 with ⟨rfl, _⟩ | ⟨g, cap, cur, rfl, _, hh, _⟩
  · cases hk
  · cases hk; exact ⟨cur, hh⟩

theorem Wb.below {W0 w w' : World} {p : Nat} {v lv : Value} {ws : List WD} {l : List UInt8} (h : Wb W0 w p v lv ws l) (hb : Below w.heap.size w w') : Wb W0 w' p v lv ws l :=
  ⟨h.wr.below hb, h.el, row_keep' h.row (Kept.of_below hb (fun _ => False)) (fun _ _ h => h), h.ok, fun x hx => (h.own x hx).below hb, h.ap, h.pb, h.vb, h.bel.trans (hb.mono h.bel.size), h.pos⟩

/-- Between: a further thing is at hand, in a block of its own. -/
structure Wx (W0 w : World) (p : Nat) (v lv : Value) (ws : List WD) (l : List UInt8) (q : Nat) (x : WD) : Prop where
  wr : IsWriter w p v l
  row : w.ownsRow W0.heap.size 57 4 lv ws.length (ws.flatMap WD.cells)
  own : ∀ y ∈ x :: ws, OwnB w W0.heap.size y.sl y.bs
  ap : ∀ y ∈ x :: ws, ∀ b, y.sl.ownBlock = some b → v.ownBlock ≠ some b
  pb : W0.heap.size ≤ p
  vb : ∀ k, v.ownBlock = some k → W0.heap.size ≤ k
  bel : Below W0.heap.size W0 w
  box : w.heap[q]? = some (.cells #[.int .i64 (x.op : Int), .int .i64 x.n, .string x.nm, .slice x.so x.bs.length x.sc] 57 (0, 0))

theorem Wx.below {W0 w w' : World} {p : Nat} {v lv : Value} {ws : List WD} {l : List UInt8} {q : Nat} {x : WD} (h : Wx W0 w p v lv ws l q x) (hb : Below w.heap.size w w') : Wx W0 w' p v lv ws l q x :=
  ⟨h.wr.below hb, row_keep' h.row (Kept.of_below hb (fun _ => False)) (fun _ _ h => h), fun y hy => (h.own y hy).below hb, h.ap, h.pb, h.vb, h.bel.trans (hb.mono h.bel.size), (hb.block q (Array.getElem?_eq_some_iff.1 h.box).1).trans h.box⟩

theorem Wx.wrote {W0 w w' : World} {p : Nat} {v v' lv : Value} {ws : List WD} {l l' : List UInt8} {q : Nat} {x : WD} (h : Wx W0 w p v lv ws l q x) (hw : IsWriter w' p v' l') (hk : Kept (WT p v) w w') (hf : ∀ k, v'.ownBlock = some k → v.ownBlock = some k ∨ w.heap.size ≤ k) :
    Wx W0 w' p v' lv ws l' q x := by
  have nt : ∀ k t cur, w.heap[k]? = some (.cells cur t (0, 0)) → t ≠ 82 → k ≠ p := by
    intro k t cur hh hne e
    subst e
    rw [h.wr.row] at hh
    simp at hh
    exact hne hh.2.symm
  have nu : ∀ k t cur, w.heap[k]? = some (.cells cur t (0, 0)) → t ≠ 82 → t ≠ 5 → ¬ WT p v k := by
    intro k t cur hh h1 h2
    rintro (e | e)
    · exact nt k t cur hh h1 e
    · obtain ⟨cur2, hh2⟩ := row_type' h.wr.own k e
      rw [hh] at hh2
      simp at hh2
      exact h2 hh2.2
  refine ⟨hw, row_keep' h.row hk ?_, fun x hx => (h.own x hx).keep hk ?_, fun x hx b hb e => ?_, h.pb, fun k e => ?_, hk.below h.bel h.bel.size ?_, (hk.block q (Array.getElem?_eq_some_iff.1 h.box).1 (nu q _ _ h.box (by decide) (by decide))).trans h.box⟩
  · intro k hk'
    obtain ⟨cur, hh⟩ := row_type' h.row k hk'
    exact nu k _ cur hh (by decide) (by decide)
  · intro k hk'
    obtain ⟨cur, hh⟩ := row_type' (h.own x hx) k hk'
    rintro (e | e)
    · exact nt k _ cur hh (by decide) e
    · exact h.ap x hx k hk' e
  · rcases hf b e with e | e
    · exact h.ap x hx b hb e
    · have := ((h.own x hx).lt b hb).2
      omega
  · rcases hf k e with e | e
    · exact h.vb k e
    · exact Nat.le_trans h.bel.size e
  · rintro k (e | e)
    · rw [e]; exact h.pb
    · exact h.vb k e

/-- The thing is laid into the list. -/
theorem Wx.push {W0 w w' : World} {p : Nat} {v lv lv' : Value} {ws : List WD} {l : List UInt8} {q : Nat} {x : WD} (h : Wx W0 w p v lv ws l q x) (hok : ∀ y ∈ ws, y.ok) (hx : x.ok) (hl : l = ws.flatMap WD.enc ++ x.enc)
    (ho : w'.ownsRow W0.heap.size 57 4 lv' (ws.length + 1) (ws.flatMap WD.cells ++ x.cells)) (hg : w.grownBy w' lv.ownBlock) : Wb W0 w' p v lv' (ws ++ [x]) l := by
  have hk := Kept.of_grown hg
  have nt : ∀ k t cur, w.heap[k]? = some (.cells cur t (0, 0)) → t ≠ 57 → ¬ some k = lv.ownBlock := by
    intro k t cur hh hne e
    obtain ⟨cur2, hh2⟩ := row_type' h.row k e.symm
    rw [hh] at hh2
    simp at hh2
    exact hne hh2.2
  have mem : ∀ y, y ∈ ws ++ [x] → y ∈ x :: ws := by
    intro y hy
    simp at hy
    rcases hy with hy | rfl
    · exact List.mem_cons_of_mem _ hy
    · exact List.mem_cons_self ..
  refine ⟨h.wr.keep hk ?_, by simp [hl], by simpa using ho, ?_, fun y hy => (h.own y (mem y hy)).keep hk ?_, fun y hy => h.ap y (mem y hy), h.pb, h.vb, h.bel.grown hg h.bel.size (fun k e => (h.row.lt k e).1), by simp⟩
  · rintro k (e | e)
    · rw [e]; exact nt p _ _ h.wr.row (by decide)
    · obtain ⟨cur, hh⟩ := row_type' h.wr.own k e
      exact nt k _ cur hh (by decide)
  · intro y hy
    simp at hy
    rcases hy with hy | rfl
    · exact hok y hy
    · exact hx
  · intro k hk'
    obtain ⟨cur, hh⟩ := row_type' (h.own y (mem y hy)) k hk'
    exact nt k _ cur hh (by decide)

/-- The thing is not taken. -/
theorem Wx.drop {W0 w : World} {p : Nat} {v lv : Value} {ws : List WD} {l : List UInt8} {q : Nat} {x : WD} (h : Wx W0 w p v lv ws l q x) (hok : ∀ y ∈ ws, y.ok) (hl : l = ws.flatMap WD.enc) (hp : 0 < ws.length) : Wb W0 w p v lv ws l :=
  ⟨h.wr, hl, h.row, hok, fun y hy => h.own y (List.mem_cons_of_mem _ hy), fun y hy => h.ap y (List.mem_cons_of_mem _ hy), h.pb, h.vb, h.bel, hp⟩

/-- The thing is made. -/
theorem Wb.make {W0 w w' : World} {p : Nat} {v lv : Value} {ws : List WD} {l : List UInt8} {q : Nat} {x : WD} (h : Wb W0 w p v lv ws l) (hb : Below w.heap.size w w') (ho : OwnB w' w.heap.size x.sl x.bs)
    (hq : w'.heap[q]? = some (.cells #[.int .i64 (x.op : Int), .int .i64 x.n, .string x.nm, .slice x.so x.bs.length x.sc] 57 (0, 0))) : Wx W0 w' p v lv ws l q x := by
  have hw := h.below hb
  refine ⟨hw.wr, hw.row, ?_, ?_, hw.pb, hw.vb, hw.bel, hq⟩
  · intro y hy
    rcases List.mem_cons.1 hy with rfl | hy
    · exact ho.mono h.bel.size
    · exact hw.own y hy
  · intro y hy b hb' e
    rcases List.mem_cons.1 hy with rfl | hy
    · have h1 := (ho.lt b hb').1
      have h2 := (h.wr.own.lt b e).2
      omega
    · exact hw.ap y hy b hb' e

theorem flat_get {ws : List WD} : ∀ {k j : Nat} {x : WD}, ws[k]? = some x → j < 4 → (ws.flatMap WD.cells)[k * 4 + j]? = x.cells[j]? := by
  induction ws with
  | nil => intro k j x h _; simp at h
  | cons y ws ih =>
    intro k j x h hj
    rw [List.flatMap_cons]
    cases k with
    | zero =>
      injection h with h
      subst h
      rw [List.getElem?_append_left (by simp [WD.cells]; omega)]
      congr 1
      omega
    | succ k =>
      rw [List.getElem?_append_right (by simp [WD.cells]; omega)]
      rw [show (k + 1) * 4 + j - y.cells.length = k * 4 + j from by simp [WD.cells]; omega]
      exact ih (by simpa using h) hj
theorem flat_drop {ws : List WD} {k : Nat} {x : WD} (h : ws[k]? = some x) : (ws.flatMap WD.enc).drop ((ws.take k).flatMap WD.enc).length = x.enc ++ (ws.drop (k + 1)).flatMap WD.enc := by
  have hk := (List.getElem?_eq_some_iff.1 h).1
  have e : ws = ws.take k ++ (x :: ws.drop (k + 1)) := by
    have := List.take_append_drop k ws
    rw [List.drop_eq_getElem_cons hk] at this
    have hx : ws[k] = x := (List.getElem?_eq_some_iff.1 h).2
    rw [hx] at this
    exact this.symm
  have e2 : ws.flatMap WD.enc = (ws.take k).flatMap WD.enc ++ (x.enc ++ (ws.drop (k + 1)).flatMap WD.enc) := by
    conv => lhs; rw [e]
    simp
  rw [e2]
  simp
theorem flat_take {ws : List WD} {k : Nat} {x : WD} (h : ws[k]? = some x) : ((ws.take (k + 1)).flatMap WD.enc).length = ((ws.take k).flatMap WD.enc).length + x.enc.length := by
  rw [List.take_add_one, h]
  simp

theorem four_cells (w : World) (x : WD) : ∀ (j : Nat) (u : Value), x.cells[j]? = some u → (w.alloc (.cells #[.int .i64 (x.op : Int), .int .i64 x.n, .string x.nm, .slice x.so x.bs.length x.sc] 57)).cell? ((⟨w.heap.size, 0, none⟩ : Addr).add j) = some u := by
  intro j u hj
  match j, hj with
  | 0, hj => simp [WD.cells] at hj; subst hj; simp [Addr.add]
  | 1, hj => simp [WD.cells] at hj; subst hj; simp [Addr.add]
  | 2, hj => simp [WD.cells] at hj; subst hj; simp [Addr.add]
  | 3, hj => simp [WD.cells] at hj; subst hj; simp [Addr.add]
  | j + 4, hj => simp [WD.cells] at hj

theorem info57 : (Try.prog.info? 57).map (fun i => (i.zero, i.size, i.bytes)) = some (some (.agg #[.int .i64 0, .int .i64 0, .string ⟨#[]⟩, .slice none 0 0]), 4, 56) := by kernel_rfl

theorem Wb.len {W0 w : World} {p : Nat} {v lv : Value} {ws : List WD} {l : List UInt8} (h : Wb W0 w p v lv ws l) : ∃ g c, lv = .slice (some ⟨g, 0, none⟩) ws.length c := by
  have := h.pos
  rcases h.row.2 with ⟨_, h0⟩ | ⟨g, cap, cur, hv, _⟩
  · omega
  · exact ⟨g, cap, hv⟩
theorem Wb.cell {W0 w : World} {p g c : Nat} {v : Value} {ws : List WD} {l : List UInt8} (h : Wb W0 w p v (.slice (some ⟨g, 0, none⟩) ws.length c) ws l) {k j : Nat} {x : WD} (hx : ws[k]? = some x) (hj : j < 4) : w.cell? ⟨g, k * 4 + j, none⟩ = x.cells[j]? := by
  have hk := (List.getElem?_eq_some_iff.1 hx).1
  rw [h.row.cellAt (k * 4 + j) (by omega)]
  exact flat_get hx hj
theorem Wb.at {W0 w : World} {p : Nat} {v lv : Value} {ws : List WD} {l : List UInt8} (h : Wb W0 w p v lv ws l) {x : WD} (hx : x ∈ ws) : BAt w x.so x.bs := by
  obtain ⟨ao, c, e, hb⟩ := (h.own x hx).at
  unfold WD.sl at e
  injection e with e1 e2 e3
  rw [e1]
  exact hb

theorem cells57 : (Value.agg #[.int .i64 0, .int .i64 0, .string ⟨#[]⟩, .slice none 0 0]).cells.size = 4 := by rfl
theorem WD.one (x : WD) : ∀ u ∈ x.cells, u.oneCell' = true := by
  intro u hu
  simp [WD.cells] at hu
  rcases hu with rfl | rfl | rfl | rfl <;> rfl
theorem WD.len4 (x : WD) : x.cells.length = 1 * 4 := rfl
theorem ok7 : WD.ok ⟨0, 7, ⟨#[]⟩, none, 0, []⟩ := by
  unfold WD.ok
  simp [loN, hiN]

theorem num_told {l : List UInt8} {x : WD} {s : Nat} (he : x.enc = be x.n s) (hk : loN s ≤ x.n ∧ x.n ≤ hiN s → x.ok) : (wE l x.n s = 0 ∧ wL l x.n s = l ++ x.enc ∧ x.ok) ∨ (wE l x.n s ≠ 0 ∧ wL l x.n s = l) := by
  by_cases h : wE l x.n s = 0
  · refine .inl ⟨h, by unfold wL; rw [if_pos h, he], hk ?_⟩
    unfold wE at h
    split at h
    · cases h
    · omega
  · exact .inr ⟨h, by unfold wL; rw [if_neg h]⟩
theorem put_told {l : List UInt8} {x : WD} (he : x.enc = x.bs) (hk : x.ok) : (jE l x.bs = 0 ∧ jL l x.bs = l ++ x.enc ∧ x.ok) ∨ (jE l x.bs ≠ 0 ∧ jL l x.bs = l) := by
  by_cases h : jE l x.bs = 0
  · exact .inl ⟨h, by unfold jL; rw [if_pos h, he], hk⟩
  · exact .inr ⟨h, by unfold jL; rw [if_neg h]⟩
theorem name_told {l : List UInt8} {x : WD} (he : x.enc = nb x.nm) (hk : nameB x.nm = true → x.ok) : (nE l x.nm = 0 ∧ nL l x.nm = l ++ x.enc ∧ x.ok) ∨ (nE l x.nm ≠ 0 ∧ nL l x.nm = l) := by
  by_cases h : nE l x.nm = 0
  · refine .inl ⟨h, by unfold nL; rw [if_pos h, he], hk ?_⟩
    unfold nE at h
    by_cases hn : nameB x.nm = true
    · exact hn
    · rw [if_neg hn] at h; cases h
  · exact .inr ⟨h, by unfold nL; rw [if_neg h]⟩
end Go.Proofs.Ytggaecmjadkopaa
