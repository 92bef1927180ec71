/-
  Rows of numbers of either sign, of one's own; the contract of provisoref05.put: rising numbers with one more. Conditions: lengths fit.
-/
import Derived.Test.YthdgbdjagjagpaaGreatDoorMem
import Derived.Laws.AppendOwnNone
namespace Go.Proofs.YthdgbdjagjagpaaGreatDoor
open Go.RowKit
set_option maxRecDepth 20000

def jvals (l : List Int) : List Value := l.map fun (x : Int) => Value.int .i64 x
def OwnJ (w : World) (base : Nat) (v : Value) (l : List Int) : Prop := w.ownsRow base 3 1 v l.length (jvals l)
theorem infoJ : (Tryz.prog.info? 3).map (fun i => (i.zero, i.size, i.bytes)) = some (some (.int .i64 0), 1, 8) := by kernel_rfl
theorem OwnJ.nil (w : World) (base : Nat) : OwnJ w base (.slice none 0 0) [] := World.ownsRow_nil _ _ _ _
theorem OwnJ.shape {w : World} {base : Nat} {v : Value} {l : List Int} (h : OwnJ w base v l) :
    (v = .slice none 0 0 ∧ l = []) ∨ ∃ g cap, v = .slice (some ⟨g, 0, none⟩) l.length cap ∧ base ≤ g ∧ g < w.heap.size ∧ l.length ≤ cap ∧ (∀ (i : Nat) (x : Int), l[i]? = some x → w.cell? ⟨g, i, none⟩ = some (.int .i64 x)) ∧ ∀ i, w.frozen? ⟨g, i, none⟩ = false := by
  rcases h.2 with ⟨h1, h2⟩ | ⟨g, cap, cur, hv, hb, hh, hn, hm, hs, ht⟩
  · exact Or.inl ⟨h1, List.eq_nil_of_length_eq_zero h2⟩
  · have h' : w.ownsRow base 3 1 (.slice (some ⟨g, 0, none⟩) l.length cap) l.length (jvals l) := hv ▸ h
    refine Or.inr ⟨g, cap, hv, hb, (Array.getElem?_eq_some_iff.1 hh).1, hn, fun i x hx => ?_, fun i => World.ownsRow.frozenAt h' i⟩
    have hi := (List.getElem?_eq_some_iff.1 hx).1
    rw [h'.cellAt i (by omega)]
    unfold jvals
    rw [List.getElem?_map, hx]
    rfl
/-- A slice of numbers that reads so. -/
def JsAt (w : World) (ao : Option Addr) (l : List Int) : Prop := ∀ (i : Nat) (x : Int), l[i]? = some x → ∃ b off, ao = some ⟨b, off, none⟩ ∧ w.cell? ⟨b, off + i, none⟩ = some (.int .i64 x)
theorem JsAt.below {w w' : World} {ao : Option Addr} {l : List Int} (h : JsAt w ao l) (hb : Below w.heap.size w w') : JsAt w' ao l := fun i x hx => by
  obtain ⟨b, off, e, hc⟩ := h i x hx
  exact ⟨b, off, e, (hb.cell (p := ⟨b, off + i, none⟩) (World.block_lt_of_cell? w _ hc)).trans hc⟩
theorem OwnJ.at {w : World} {base : Nat} {v : Value} {l : List Int} (h : OwnJ w base v l) : ∃ ao cap, v = .slice ao l.length cap ∧ JsAt w ao l ∧ (ao = none → l = []) := by
  rcases h.shape with ⟨rfl, rfl⟩ | ⟨g, cap, rfl, _, _, _, hc, _⟩
  · exact ⟨none, 0, rfl, fun i x hx => by simp at hx, fun _ => rfl⟩
  · exact ⟨_, cap, rfl, fun i x hx => ⟨g, 0, rfl, by rw [Nat.zero_add]; exact hc i x hx⟩, fun e => by cases e⟩
theorem rowBelowJ {w w' : World} {base : Nat} {t : TypeId} {s : Nat} {v : Value} {n : Nat} {cs : List Value} (h : w.ownsRow base t s v n cs) (hb : Below w.heap.size w w') : w'.ownsRow base t s v n cs := by
  refine ⟨h.1, ?_⟩
  rcases h.2 with h1 | ⟨g, cap, cur, hv, hbg, hh, r⟩
  · exact Or.inl h1
  · exact Or.inr ⟨g, cap, cur, hv, hbg, by rw [hb.block g (Array.getElem?_eq_some_iff.1 hh).1]; exact hh, r⟩
theorem OwnJ.below {w w' : World} {base : Nat} {v : Value} {l : List Int} (h : OwnJ w base v l) (hb : Below w.heap.size w w') : OwnJ w' base v l := rowBelowJ h hb
theorem cell_one_newJ (w : World) (x : Value) (t : TypeId) : ∀ (j : Nat) u, [x][j]? = some u → (w.alloc (.cells #[x] t)).cell? ((⟨w.heap.size, 0, none⟩ : Addr).add j) = some u := by
  intro j u hj
  match j, hj with
  | 0, hj =>
    simp at hj
    subst hj
    simp [Addr.add]

/-- Rising numbers with one more. -/
def putJ : List Int → Int → List Int
  | [], n => [n]
  | x :: l, n => if n ≤ x then (if n < x then n :: x :: l else x :: l) else x :: putJ l n
theorem putJ_len (n : Int) : ∀ l : List Int, (putJ l n).length ≤ l.length + 1
  | [] => by simp [putJ]
  | x :: l => by
    have := putJ_len n l
    unfold putJ
    split
    · split <;> simp
    · simp; omega
/-- What the loop has made of the first ones. -/
def PutI (l : List Int) (n : Int) (i : Nat) (done : Bool) (out : List Int) : Prop := (∀ rest, putJ (l.take i ++ rest) n = out ++ (if done then rest else putJ rest n)) ∧ out.length ≤ i + 1 ∧ (done = false → out.length ≤ i)

theorem take_step {α : Type} {l : List α} {x : α} {k : Nat} (hx : l[k]? = some x) : l.take (k + 1) = l.take k ++ [x] := by
  rw [List.take_add_one, hx]
  rfl
theorem put_done {l : List Int} {n x : Int} {k : Nat} {out : List Int} (hx : l[k]? = some x) (h : PutI l n k true out) : PutI l n (k + 1) true (out ++ [x]) := by
  refine ⟨fun rest => ?_, by have := h.2.1; simp; omega, fun e => by cases e⟩
  rw [take_step hx, List.append_assoc, h.1]
  simp
theorem put_less {l : List Int} {n x : Int} {k : Nat} {out : List Int} (hx : l[k]? = some x) (h : PutI l n k false out) (hn : n < x) : PutI l n (k + 1) true (out ++ [n] ++ [x]) := by
  refine ⟨fun rest => ?_, by have := h.2.2 rfl; simp; omega, fun e => by cases e⟩
  rw [take_step hx, List.append_assoc, h.1]
  simp [putJ, Int.le_of_lt hn, hn]
theorem put_same {l : List Int} {n x : Int} {k : Nat} {out : List Int} (hx : l[k]? = some x) (h : PutI l n k false out) (hn : n = x) : PutI l n (k + 1) true (out ++ [x]) := by
  refine ⟨fun rest => ?_, by have := h.2.2 rfl; simp; omega, fun e => by cases e⟩
  rw [take_step hx, List.append_assoc, h.1]
  simp [putJ, hn]
theorem put_more {l : List Int} {n x : Int} {k : Nat} {out : List Int} (hx : l[k]? = some x) (h : PutI l n k false out) (hn : x < n) : PutI l n (k + 1) false (out ++ [x]) := by
  refine ⟨fun rest => ?_, by have := h.2.2 rfl; simp; omega, fun _ => by have := h.2.2 rfl; simp; omega⟩
  rw [take_step hx, List.append_assoc, h.1]
  have : ¬ n ≤ x := by omega
  simp [putJ, this]
theorem put_end {l : List Int} {n : Int} {k : Nat} {dn : Bool} {out : List Int} (h : PutI l n k dn out) (hk : l.length ≤ k) : putJ l n = out ++ (if dn then [] else [n]) := by
  have := h.1 []
  rw [List.take_of_length_le hk, List.append_nil] at this
  rw [this]
  cases dn <;> rfl

set_option maxHeartbeats 2000000 in
theorem refPut_int (ao : Option Addr) (cap : Nat) (l : List Int) (n : Int) (w : World) (h : JsAt w ao l) (hl : l.length ≤ 4400000000000) :
    Calls Tryz.prog 72 #[.slice ao l.length cap, .int .i64 n] w fun e w' => ∃ v, e = .returned v ∧ OwnJ w' w.heap.size v (putJ l n) ∧ Below w.heap.size w w' := by
  obtain ⟨i0, hi, hz0, hz1, hz2⟩ := info_parts infoJ
  have HT := hide hl
  have H := hide h
  have hl2 : l.length < 9223372036854775800 := by omega
  clear hl h
  go_enter Tryz.func72, Tryz.ntmps72
  go_wp2
  go_loopw [5, 6, 11] (fun v d i wr => ∃ (k : Nat) (dn : Bool) (out : List Int), k ≤ l.length ∧ i = .int .i64 (k : Int) ∧ d = .bool dn ∧ out.length ≤ k + 1 ∧ Hid (PutI l n k dn out) ∧ Hid (OwnJ wr w.heap.size v out) ∧ Hid (Below w.heap.size w wr)) (fun _ _ i _ => l.length - (intOf i).toNat)
  case atStart => exact ⟨0, false, [], by omega, rfl, rfl, by simp, hide ⟨fun rest => rfl, by simp, fun _ => by simp⟩, hide (OwnJ.nil _ _), hide (Below.refl _ _)⟩
  case round =>
    obtain ⟨k, dn, out, hk, rfl, rfl, hout, HI, HO, HB⟩ := hrel
    obtain ⟨oa, oc, rfl, _⟩ := (unhide HO).at
    have hT := unhide HT
    by_cases hlt : k < l.length
    · have i1 : ((k : Nat) : Int) < ((l.length : Nat) : Int) := by omega
      have hx := List.getElem?_eq_getElem hlt
      obtain ⟨b, off, rfl, hc⟩ := (unhide H).below (unhide HB) k _ hx
      have HX := hide hx
      generalize l[k] = x at hc HX
      clear hx
      cases dn with
      | true =>
        have HI2 : Hid (PutI l n (k + 1) true (out ++ [x])) := hide (put_done (unhide HX) (unhide HI))
        clear HI HX
        have HR1 := hide ((unhide HO).alloc (.cells #[.int .i64 x] 3))
        go_wp2_with (at_builtin; refine wpList_append_own _ rfl _ _ 66 rfl (w.heap.size) 3 i0 (.int .i64 0) 1 8 Tryz.underlying66 hi hz0 hz1 hz2 rfl (by decide) _ (out).length (jvals (out)) rfl (unhide HR1) ⟨(wr).heap.size, 0, none⟩ 1 1 [.int .i64 x] rfl rfl (cell_one_newJ _ _ _) (by simp [Value.oneCell']) ?a3 ?a4 ?a5 ?_)
        case a3 => unfold maxLen; omega
        case a4 => omega
        case a5 => have := (unhide HB).size; simp; omega
        intro v1 w1 hO1 hG1 _
        have HO1 : Hid (OwnJ w1 (w.heap.size) v1 ((out) ++ [x])) := hide (by unfold OwnJ jvals; rw [List.map_append, List.length_append]; exact hO1)
        have HB1 := hide (((unhide HB).alloc (unhide HB).size _).grown hG1 (by have := (unhide HB).size; simp; omega) (fun q e => ((unhide HO).lt q e).1))
        clear hO1 hG1 HO HB HR1
        have hout2 : (out ++ [x]).length ≤ k + 1 + 1 := by simp; omega
        go_wp2
        go_roundw
        case rel => exact ⟨k + 1, true, _, by omega, by go_num, rfl, hout2, HI2, HO1, HB1⟩
        case measure => simp [intOf]; omega
      | false =>
        have hout1 := (unhide HI).2.2 rfl
        by_cases h1 : n ≤ x
        · by_cases h2 : n < x
          · have HI2 : Hid (PutI l n (k + 1) true (out ++ [n] ++ [x])) := hide (put_less (unhide HX) (unhide HI) h2)
            clear HI HX
            have HR1 := hide ((unhide HO).alloc (.cells #[.int .i64 n] 3))
            go_wp2_with (at_builtin; refine wpList_append_own _ rfl _ _ 66 rfl (w.heap.size) 3 i0 (.int .i64 0) 1 8 Tryz.underlying66 hi hz0 hz1 hz2 rfl (by decide) _ (out).length (jvals (out)) rfl (unhide HR1) ⟨(wr).heap.size, 0, none⟩ 1 1 [.int .i64 n] rfl rfl (cell_one_newJ _ _ _) (by simp [Value.oneCell']) ?a3 ?a4 ?a5 ?_)
            case a3 => unfold maxLen; omega
            case a4 => omega
            case a5 => have := (unhide HB).size; simp; omega
            intro v1 w1 hO1 hG1 _
            have HO1 : Hid (OwnJ w1 (w.heap.size) v1 ((out) ++ [n])) := hide (by unfold OwnJ jvals; rw [List.map_append, List.length_append]; exact hO1)
            have HB1 := hide (((unhide HB).alloc (unhide HB).size _).grown hG1 (by have := (unhide HB).size; simp; omega) (fun q e => ((unhide HO).lt q e).1))
            clear hO1 hG1 HO HB HR1
            obtain ⟨o1, HE1⟩ : ∃ m, Hid (out ++ [n] = m) := ⟨_, hide rfl⟩
            rw [unhide HE1] at HO1 HI2
            have hl1 : o1.length ≤ out.length + 1 := by rw [← unhide HE1]; simp
            clear HE1
            obtain ⟨oa2, oc2, rfl, _⟩ := (unhide HO1).at
            have HR2 := hide ((unhide HO1).alloc (.cells #[.int .i64 x] 3))
            go_wp2_with (at_builtin; refine wpList_append_own _ rfl _ _ 66 rfl (w.heap.size) 3 i0 (.int .i64 0) 1 8 Tryz.underlying66 hi hz0 hz1 hz2 rfl (by decide) _ (o1).length (jvals (o1)) rfl (unhide HR2) ⟨(w1).heap.size, 0, none⟩ 1 1 [.int .i64 x] rfl rfl (cell_one_newJ _ _ _) (by simp [Value.oneCell']) ?a3 ?a4 ?a5 ?_)
            case a3 => unfold maxLen; omega
            case a4 => omega
            case a5 => have := (unhide HB1).size; simp; omega
            intro v2 w2 hO2 hG2 _
            have HO2 : Hid (OwnJ w2 (w.heap.size) v2 ((o1) ++ [x])) := hide (by unfold OwnJ jvals; rw [List.map_append, List.length_append]; exact hO2)
            have HB2 := hide (((unhide HB1).alloc (unhide HB1).size _).grown hG2 (by have := (unhide HB1).size; simp; omega) (fun q e => ((unhide HO1).lt q e).1))
            clear hO2 hG2 HO1 HB1 HR2
            have hout2 : (o1 ++ [x]).length ≤ k + 1 + 1 := by simp; omega
            go_wp2
            go_roundw
            case rel => exact ⟨k + 1, true, _, by omega, by go_num, rfl, hout2, HI2, HO2, HB2⟩
            case measure => simp [intOf]; omega
          · have HI2 : Hid (PutI l n (k + 1) true (out ++ [x])) := hide (put_same (unhide HX) (unhide HI) (by omega))
            clear HI HX
            have HR1 := hide ((unhide HO).alloc (.cells #[.int .i64 x] 3))
            go_wp2_with (at_builtin; refine wpList_append_own _ rfl _ _ 66 rfl (w.heap.size) 3 i0 (.int .i64 0) 1 8 Tryz.underlying66 hi hz0 hz1 hz2 rfl (by decide) _ (out).length (jvals (out)) rfl (unhide HR1) ⟨(wr).heap.size, 0, none⟩ 1 1 [.int .i64 x] rfl rfl (cell_one_newJ _ _ _) (by simp [Value.oneCell']) ?a3 ?a4 ?a5 ?_)
            case a3 => unfold maxLen; omega
            case a4 => omega
            case a5 => have := (unhide HB).size; simp; omega
            intro v1 w1 hO1 hG1 _
            have HO1 : Hid (OwnJ w1 (w.heap.size) v1 ((out) ++ [x])) := hide (by unfold OwnJ jvals; rw [List.map_append, List.length_append]; exact hO1)
            have HB1 := hide (((unhide HB).alloc (unhide HB).size _).grown hG1 (by have := (unhide HB).size; simp; omega) (fun q e => ((unhide HO).lt q e).1))
            clear hO1 hG1 HO HB HR1
            have hout2 : (out ++ [x]).length ≤ k + 1 + 1 := by simp; omega
            go_wp2
            go_roundw
            case rel => exact ⟨k + 1, true, _, by omega, by go_num, rfl, hout2, HI2, HO1, HB1⟩
            case measure => simp [intOf]; omega
        · have HI2 : Hid (PutI l n (k + 1) false (out ++ [x])) := hide (put_more (unhide HX) (unhide HI) (by omega))
          clear HI HX
          have HR1 := hide ((unhide HO).alloc (.cells #[.int .i64 x] 3))
          go_wp2_with (at_builtin; refine wpList_append_own _ rfl _ _ 66 rfl (w.heap.size) 3 i0 (.int .i64 0) 1 8 Tryz.underlying66 hi hz0 hz1 hz2 rfl (by decide) _ (out).length (jvals (out)) rfl (unhide HR1) ⟨(wr).heap.size, 0, none⟩ 1 1 [.int .i64 x] rfl rfl (cell_one_newJ _ _ _) (by simp [Value.oneCell']) ?a3 ?a4 ?a5 ?_)
          case a3 => unfold maxLen; omega
          case a4 => omega
          case a5 => have := (unhide HB).size; simp; omega
          intro v1 w1 hO1 hG1 _
          have HO1 : Hid (OwnJ w1 (w.heap.size) v1 ((out) ++ [x])) := hide (by unfold OwnJ jvals; rw [List.map_append, List.length_append]; exact hO1)
          have HB1 := hide (((unhide HB).alloc (unhide HB).size _).grown hG1 (by have := (unhide HB).size; simp; omega) (fun q e => ((unhide HO).lt q e).1))
          clear hO1 hG1 HO HB HR1
          have hout2 : (out ++ [x]).length ≤ k + 1 + 1 := by simp; omega
          go_wp2
          go_roundw
          case rel => exact ⟨k + 1, false, _, by omega, by go_num, rfl, hout2, HI2, HO1, HB1⟩
          case measure => simp [intOf]; omega
    · have i1 : ¬ ((k : Nat) : Int) < ((l.length : Nat) : Int) := by omega
      have HE : Hid (putJ l n = out ++ (if dn then [] else [n])) := hide (put_end (unhide HI) (by omega))
      cases dn with
      | true =>
        clear HI
        go_wp2
        go_ret
        exact ⟨_, rfl, by rw [unhide HE]; simpa using unhide HO, unhide HB⟩
      | false =>
        clear HI
        have HR1 := hide ((unhide HO).alloc (.cells #[.int .i64 n] 3))
        go_wp2_with (at_builtin; refine wpList_append_own _ rfl _ _ 66 rfl (w.heap.size) 3 i0 (.int .i64 0) 1 8 Tryz.underlying66 hi hz0 hz1 hz2 rfl (by decide) _ (out).length (jvals (out)) rfl (unhide HR1) ⟨(wr).heap.size, 0, none⟩ 1 1 [.int .i64 n] rfl rfl (cell_one_newJ _ _ _) (by simp [Value.oneCell']) ?a3 ?a4 ?a5 ?_)
        case a3 => unfold maxLen; omega
        case a4 => omega
        case a5 => have := (unhide HB).size; simp; omega
        intro v1 w1 hO1 hG1 _
        have HO1 : Hid (OwnJ w1 (w.heap.size) v1 ((out) ++ [n])) := hide (by unfold OwnJ jvals; rw [List.map_append, List.length_append]; exact hO1)
        have HB1 := hide (((unhide HB).alloc (unhide HB).size _).grown hG1 (by have := (unhide HB).size; simp; omega) (fun q e => ((unhide HO).lt q e).1))
        clear hO1 hG1 HO HB HR1
        go_wp2
        go_ret
        exact ⟨_, rfl, by rw [unhide HE]; exact unhide HO1, unhide HB1⟩
end Go.Proofs.YthdgbdjagjagpaaGreatDoor
