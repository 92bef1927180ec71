/-
  Tokens in a row, read; slices.Equal of two rows that are alike; the number and place of a fault.
-/
import Derived.Test.YtgnipgcligmpiaaDoorLx12
namespace Go.Proofs.YtgnipgcligmpiaaDoor
open Go.RowKit
set_option maxRecDepth 20000

/-- A token lies in five cells. -/
structure TcAt (w : World) (b off : Nat) (x : Tk) : Prop where
  c0 : w.cell? ⟨b, off, none⟩ = some (.int .i64 x.k)
  c1 : w.cell? ⟨b, off + 1, none⟩ = some (.int .i64 x.a)
  c2 : w.cell? ⟨b, off + 2, none⟩ = some (.int .i64 x.e)
  c3 : w.cell? ⟨b, off + 3, none⟩ = some (.int .i64 x.n)
  c4 : w.cell? ⟨b, off + 4, none⟩ = some (.string x.t)
def TsAt (w : World) (ao : Option Addr) (l : List Tk) : Prop := ∀ (i : Nat) x, l[i]? = some x → ∃ b off, ao = some ⟨b, off, none⟩ ∧ TcAt w b (off + i * 5) x
theorem TcAt.below {w w' : World} {b off : Nat} {x : Tk} (h : TcAt w b off x) (hb : Below w.heap.size w w') : TcAt w' b off x := by
  have hl := World.block_lt_of_cell? w _ h.c0
  exact ⟨(hb.cell (p := ⟨b, off, none⟩) hl).trans h.c0, (hb.cell (p := ⟨b, off + 1, none⟩) hl).trans h.c1, (hb.cell (p := ⟨b, off + 2, none⟩) hl).trans h.c2, (hb.cell (p := ⟨b, off + 3, none⟩) hl).trans h.c3, (hb.cell (p := ⟨b, off + 4, none⟩) hl).trans h.c4⟩
theorem TsAt.below {w w' : World} {ao : Option Addr} {l : List Tk} (h : TsAt w ao l) (hb : Below w.heap.size w w') : TsAt w' ao l := fun i x hx => by
  obtain ⟨b, off, e, hc⟩ := h i x hx
  exact ⟨b, off, e, hc.below hb⟩
theorem tvals_get {l : List Tk} {i : Nat} {x : Tk} (h : l[i]? = some x) : (tvals l)[i * 5]? = some (.int .i64 x.k) ∧ (tvals l)[i * 5 + 1]? = some (.int .i64 x.a) ∧ (tvals l)[i * 5 + 2]? = some (.int .i64 x.e) ∧ (tvals l)[i * 5 + 3]? = some (.int .i64 x.n) ∧ (tvals l)[i * 5 + 4]? = some (.string x.t) := by
  induction l generalizing i with
  | nil => simp at h
  | cons y l ih =>
    have e : tvals (y :: l) = [.int .i64 y.k, .int .i64 y.a, .int .i64 y.e, .int .i64 y.n, .string y.t] ++ tvals l := by unfold tvals tcells; simp
    rw [e]
    cases i with
    | zero => simp at h; subst h; exact ⟨rfl, rfl, rfl, rfl, rfl⟩
    | succ i =>
      obtain ⟨h0, h1, h2, h3, h4⟩ := ih (i := i) (by simpa using h)
      refine ⟨?_, ?_, ?_, ?_, ?_⟩ <;> (rw [List.getElem?_append_right (by simp; omega)]; simp only [List.length_cons, List.length_nil])
      · rw [show (i + 1) * 5 - (0 + 1 + 1 + 1 + 1 + 1) = i * 5 by omega]; exact h0
      · rw [show (i + 1) * 5 + 1 - (0 + 1 + 1 + 1 + 1 + 1) = i * 5 + 1 by omega]; exact h1
      · rw [show (i + 1) * 5 + 2 - (0 + 1 + 1 + 1 + 1 + 1) = i * 5 + 2 by omega]; exact h2
      · rw [show (i + 1) * 5 + 3 - (0 + 1 + 1 + 1 + 1 + 1) = i * 5 + 3 by omega]; exact h3
      · rw [show (i + 1) * 5 + 4 - (0 + 1 + 1 + 1 + 1 + 1) = i * 5 + 4 by omega]; exact h4
theorem OwnT.at {w : World} {base : Nat} {v : Value} {l : List Tk} (h : OwnT w base v l) : ∃ ao cap, v = .slice ao l.length cap ∧ TsAt w ao l := by
  rcases h.2 with ⟨h1, h2⟩ | ⟨g, cap, cur, rfl, hb, hh, hn, hm, hs, ht⟩
  · obtain rfl := List.eq_nil_of_length_eq_zero h2
    exact ⟨none, 0, h1, fun i f hf => by simp at hf⟩
  · refine ⟨_, cap, rfl, fun i f hf => ⟨g, 0, rfl, ?_⟩⟩
    have hi := (List.getElem?_eq_some_iff.1 hf).1
    obtain ⟨h1, h2, h3, h4, h5⟩ := tvals_get hf
    refine ⟨?_, ?_, ?_, ?_, ?_⟩
    · rw [Nat.zero_add, World.ownsRow.cellAt h (i * 5) (by omega)]; exact h1
    · rw [Nat.zero_add, World.ownsRow.cellAt h (i * 5 + 1) (by omega)]; exact h2
    · rw [Nat.zero_add, World.ownsRow.cellAt h (i * 5 + 2) (by omega)]; exact h3
    · rw [Nat.zero_add, World.ownsRow.cellAt h (i * 5 + 3) (by omega)]; exact h4
    · rw [Nat.zero_add, World.ownsRow.cellAt h (i * 5 + 4) (by omega)]; exact h5

set_option maxHeartbeats 400000 in
theorem EqualTk_same (ao bo : Option Addr) (c c' : Nat) (l : List Tk) (w : World) (hl : TsAt w ao l) (hm : TsAt w bo l) (h1 : l.length ≤ 140737488355328) :
    Calls Tryd.prog 11 #[.slice ao l.length c, .slice bo l.length c'] w fun e w' => e = .returned (.bool true) ∧ ∃ k, w' = w.drewN k := by
  have hb : (((l.length : Nat) : Int) != ((l.length : Nat) : Int)) = false := bne_f rfl
  go_enter Tryd.func11, Tryd.ntmps11
  go_wp2
  go_loopw [13] (fun i wr => ∃ k : Nat, k ≤ l.length ∧ i = .int .i64 k ∧ ∃ q, wr = w.drewN q) (fun i _ => l.length - (intOf i).toNat)
  case atStart => exact ⟨0, by omega, rfl, 0, rfl⟩
  case round =>
    obtain ⟨k, hk, rfl, q, rfl⟩ := hrel
    by_cases hlt : k < l.length
    · obtain ⟨b, off, rfl, hc⟩ := hl k _ (List.getElem?_eq_getElem hlt)
      obtain ⟨b', off', rfl, hc'⟩ := hm k _ (List.getElem?_eq_getElem hlt)
      obtain ⟨x, hx⟩ : ∃ x, l[k] = x := ⟨_, rfl⟩
      rw [hx] at hc hc'
      obtain ⟨c0, c1, c2, c3, c4⟩ := hc
      obtain ⟨d0, d1, d2, d3, d4⟩ := hc'
      have i1 : ((k : Nat) : Int) < ((l.length : Nat) : Int) := by omega
      clear hl hm hx
      go_wp2
      go_quiet (fail)
      go_wp2
      go_roundw
      case rel => exact ⟨k + 1, by omega, by go_num, _, rfl⟩
      case measure => simp [intOf]; omega
    · go_wp2
      go_ret
      exact ⟨rfl, _, rfl⟩

set_option maxHeartbeats 1000000 in
theorem Why_any (a : Nat) (e : Int) (w : World) (h0 : e = 0 → a = 0) :
    Calls Tryd.prog 10 #[ftV a e] w fun r w' => r = .returned (.tuple #[.int .i64 e, .int .i64 (a : Int)]) ∧ Below w.heap.size w w' := by
  by_cases he : e = 0
  · have ha := h0 he
    subst he ha
    rw [show ftV 0 0 = .nilIface from if_pos rfl]
    go_enter Tryd.func10, Tryd.ntmps10
    go_wp2
    go_ret2
    exact ⟨rfl, Below.refl _ _⟩
  · rw [show ftV a e = .iface 44 (.agg #[.int .i64 (a : Int), .int .i64 e]) from if_neg he]
    have hta := fun (W : World) (v : Value) => (show (Instr.typeAssert (.iface 44 v) 24 44 true).run Tryd.prog W = .ok (.tuple #[v, .bool true]) W from by kernel_rfl)
    have HB : Hid (Below w.heap.size w (w.alloc (.cells #[.int .i64 (a : Int), .int .i64 e] 44))) := hide ((Below.refl _ _).alloc (Nat.le_refl _) _)
    have HF : Hid ((w.alloc (.cells #[.int .i64 (a : Int), .int .i64 e] 44)).heap[w.heap.size]? = some (.cells #[.int .i64 (a : Int), .int .i64 e] 44 (0, 0))) := hide (heap_alloc_new w _)
    clear h0
    go_enter Tryd.func10, Tryd.ntmps10
    go_upto_region 6 with fail
    generalize (w.alloc (.cells #[.int .i64 (a : Int), .int .i64 e] 44)) = W1 at HB HF ⊢
    have c0 := cell_of_row _ _ 0 _ _ _ (unhide HF)
    have c1 := cell_of_row _ _ 1 _ _ _ (unhide HF)
    simp at c0 c1
    go_wp2
    go_quiet (fail)
    go_wp2
    go_ret2
    exact ⟨rfl, belowD (unhide HB) _⟩
/-! ### Of what Scan tells -/
theorem scF_z {s : ByteArray} : ∀ (f p : Nat) (l : List Tk), (scF s f p l).2.2 = 0 → (scF s f p l).2.1 = 0
  | 0, _, _, _ => rfl
  | f + 1, p, l, h => by
    unfold scF at h ⊢
    by_cases h1 : blD s p < s.size
    · rw [if_pos h1] at h ⊢
      by_cases h2 : 16384 ≤ l.length
      · rw [if_pos h2] at h; cases h
      · rw [if_neg h2] at h ⊢
        by_cases h3 : onE s (blD s p) = 0
        · rw [if_pos h3] at h ⊢; exact scF_z f _ _ h
        · rw [if_neg h3] at h; exact absurd h h3
    · rw [if_neg h1]
theorem scF_len {s : ByteArray} : ∀ (f p : Nat) (l : List Tk), l.length ≤ 16384 → (scF s f p l).1.length ≤ 16384
  | 0, _, _, h => h
  | f + 1, p, l, h => by
    unfold scF
    by_cases h1 : blD s p < s.size
    · rw [if_pos h1]
      by_cases h2 : 16384 ≤ l.length
      · rw [if_pos h2]; exact Nat.zero_le _
      · rw [if_neg h2]
        by_cases h3 : onE s (blD s p) = 0
        · rw [if_pos h3]; exact scF_len f _ _ (by simp; omega)
        · rw [if_neg h3]; exact Nat.zero_le _
    · rw [if_neg h1]; exact h
theorem scD_z (s : ByteArray) : (scD s).2.2 = 0 → (scD s).2.1 = 0 := by
  unfold scD
  split
  · intro h; cases h
  · exact scF_z _ _ _
theorem scD_len (s : ByteArray) : (scD s).1.length ≤ 16384 := by
  unfold scD
  split
  · exact Nat.zero_le _
  · exact scF_len _ _ _ (Nat.zero_le _)
end Go.Proofs.YtgnipgcligmpiaaDoor
