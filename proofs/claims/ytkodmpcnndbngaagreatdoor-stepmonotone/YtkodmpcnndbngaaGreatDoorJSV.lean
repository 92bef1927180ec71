/-
  Texts of contracts and plain lemmas, one behind another; each says at its head what it holds.
-/
import Derived.Test.YtkodmpcnndbngaaGreatDoorKFrK
import Derived.Test.YtkodmpcnndbngaaGreatDoorKFrL
import Derived.Test.YtkodmpcnndbngaaGreatDoorJFR
import Derived.Test.YtkodmpcnndbngaaGreatDoorKFrM
import Derived.Laws.MakeOwn
import Derived.Test.YtkodmpcnndbngaaGreatDoorJST
import Derived.Test.YtkodmpcnndbngaaGreatDoorJTY
import Derived.Test.YtkodmpcnndbngaaGreatDoorJSU
/-
  Entries taken from a frame's stack and put on it, many at once: plain lemmas.
-/
namespace Go.Proofs.YtkodmpcnndbngaaGreatDoor
open Go.RowKit
set_option maxRecDepth 20000

/-- The last n entries of a frame. -/
def takenD (f : Fr) (n : Nat) : List Nat := (f.sl.drop (nF f - n)).take n
/-- A frame without its last n entries. -/
def popK (f : Fr) (n : Nat) : Fr := ⟨f.lo, f.he - (n : Int), trimL (nF f - n) f.sl⟩
/-- A frame that can be. -/
structure FrIs (n : Nat) (f : Fr) : Prop where
  ok : FrOk f
  shape : shapeD f = true
  trim : trimL (nF f) f.sl = f.sl
  valid : ∀ (j t : Nat), j < nF f → f.sl[j]? = some t → validD n t = true
theorem trimL_get {m : Nat} {l : List Nat} {j : Nat} (h : j < m) (hl : m ≤ l.length) : (trimL m l)[j]? = l[j]? := by
  unfold trimL
  rw [List.getElem?_append_left (by simp; omega), List.getElem?_take_of_lt h]
theorem trimL_get0 {m : Nat} {l : List Nat} {j : Nat} (h : m ≤ j) (hl : m ≤ l.length) (hj : j < 24) : (trimL m l)[j]? = some 0 := by
  unfold trimL
  rw [List.getElem?_append_right (by simp; omega)]
  simp only [List.length_take, Nat.min_eq_left hl, List.getElem?_replicate]
  rw [if_pos (by omega)]
theorem frIs_of {n : Nat} {f : Fr} (hf : FrOk f) (h : chkF n f = 0) : FrIs n f := by
  obtain ⟨h1, h2, h3⟩ := check_good h
  refine ⟨hf, h1, ?_, ?_⟩
  · have := frEq_iff.1 h2
    exact (congrArg Fr.sl this).symm
  · exact (all_iff (by have := shape_n h1; rw [hf.len]; exact this)).1 h3
theorem frIs_chk {n : Nat} {f : Fr} (h : FrIs n f) : chkF n f = 0 := by
  unfold chkF
  have h2 : frEq f (trimD f) = true := frEq_iff.2 (by unfold trimD; rw [h.trim])
  rw [h.shape, h2, if_neg (by decide), if_neg (by decide), if_pos ((all_iff (by have := shape_n h.shape; rw [h.ok.len]; exact this)).2 h.valid)]
theorem trimL_trimL {m k : Nat} {l : List Nat} (h : m ≤ k) (hk : k ≤ 24) (hl : l.length = 24) : trimL m (trimL k l) = trimL m l := by
  apply List.ext_getElem?
  intro j
  have e1 := trimL_length hl hk
  by_cases hj : j < m
  · rw [trimL_get hj (by omega), trimL_get (show j < k by omega) (by omega), trimL_get hj (by omega)]
  · by_cases hj2 : j < 24
    · rw [trimL_get0 (by omega) (by omega) hj2, trimL_get0 (by omega) (by omega) hj2]
    · rw [List.getElem?_eq_none (by rw [trimL_length e1 (by omega)]; omega), List.getElem?_eq_none (by rw [trimL_length hl (by omega)]; omega)]
theorem nF_shape {f : Fr} (h : shapeD f = true) : 0 ≤ f.lo ∧ f.lo ≤ 16 ∧ 0 ≤ f.he ∧ ((nF f : Nat) : Int) = f.lo + f.he ∧ nF f ≤ 24 := by
  have h1 := shapeD_iff.1 h
  have h2 := shape_n h
  unfold nF at *
  omega
theorem popK_zero {n : Nat} {f : Fr} (h : FrIs n f) : popK f 0 = f := by
  unfold popK
  rw [Nat.sub_zero, h.trim]
  cases f
  simp
theorem popK_shape {n : Nat} {f : Fr} (h : FrIs n f) {k : Nat} (hk : (k : Int) ≤ f.he) : shapeD (popK f k) = true ∧ nF (popK f k) = nF f - k := by
  have h1 := nF_shape h.shape
  have e1 : (popK f k).lo = f.lo := rfl
  have e2 : (popK f k).he = f.he - (k : Int) := rfl
  have h3 := shapeD_iff.1 h.shape
  refine ⟨shapeD_iff.2 (by rw [e1, e2]; omega), ?_⟩
  unfold nF at *
  rw [e1, e2]
  omega
theorem popK_ok {n : Nat} {f : Fr} (h : FrIs n f) {k : Nat} (hk : (k : Int) ≤ f.he) : FrOk (popK f k) := by
  have h1 := nF_shape h.shape
  refine ⟨trimL_length h.ok.len (by omega), ?_, h.ok.lo, ?_⟩
  · intro t ht
    obtain ⟨j, hj, rfl⟩ := List.mem_iff_getElem.1 ht
    have hj2 : j < 24 := by rw [← trimL_length h.ok.len (show nF f - k ≤ 24 by omega)]; exact hj
    have e := List.getElem?_eq_getElem hj
    by_cases hjm : j < nF f - k
    · have e2 : (popK f k).sl[j]? = f.sl[j]? := trimL_get hjm (by rw [h.ok.len]; omega)
      rw [e2] at e
      exact h.ok.byte _ (List.mem_of_getElem? e)
    · have e2 : (popK f k).sl[j]? = some 0 := trimL_get0 (by omega) (by rw [h.ok.len]; omega) hj2
      rw [e2] at e
      injection e with e
      rw [← e]; decide
  · have e2 : (popK f k).he = f.he - (k : Int) := rfl
    rw [e2]; omega
theorem popK_is {n : Nat} {f : Fr} (h : FrIs n f) {k : Nat} (hk : (k : Int) ≤ f.he) : FrIs n (popK f k) := by
  have h1 := nF_shape h.shape
  obtain ⟨s1, s2⟩ := popK_shape h hk
  refine ⟨popK_ok h hk, s1, ?_, ?_⟩
  · rw [s2]
    exact trimL_trimL (Nat.le_refl _) (by omega) h.ok.len
  · intro j t hj ht
    rw [s2] at hj
    have e2 : (popK f k).sl[j]? = f.sl[j]? := trimL_get hj (by rw [h.ok.len]; omega)
    rw [e2] at ht
    exact h.valid j t (by omega) ht
theorem popD_popK {n : Nat} {f : Fr} (h : FrIs n f) {k : Nat} (hk : (k : Int) < f.he) : popD (popK f k) = (popK f (k + 1), f.sl.getD (nF f - 1 - k) 0, 0) := by
  have h1 := nF_shape h.shape
  obtain ⟨s1, s2⟩ := popK_shape h (show (k : Int) ≤ f.he by omega)
  have e2 : (popK f k).he = f.he - (k : Int) := rfl
  have et : topD (popK f k) 0 = (f.sl.getD (nF f - 1 - k) 0, 0) := by
    unfold topD
    rw [s1, if_neg (by decide), if_neg (by omega), if_neg (by rw [e2]; omega), s2]
    congr 1
    have e3 : (popK f k).sl[nF f - k - 1 - (0 : Int).toNat]? = f.sl[nF f - k - 1 - (0 : Int).toNat]? := trimL_get (by simp; omega) (by rw [h.ok.len]; omega)
    rw [List.getD_eq_getElem?_getD, e3, ← List.getD_eq_getElem?_getD]
    congr 1
    simp
    omega
  unfold popD
  rw [et, if_neg (by simp)]
  have e4 : trimL (nF (popK f k) - 1) (popK f k).sl = trimL (nF f - (k + 1)) f.sl := by
    rw [s2, show nF f - k - 1 = nF f - (k + 1) by omega]
    exact trimL_trimL (by omega) (by omega) h.ok.len
  rw [e4]
  unfold popK
  simp only [Prod.mk.injEq, Fr.mk.injEq, and_true, true_and]
  omega
theorem taken_len {n : Nat} {f : Fr} (h : FrIs n f) {k : Nat} (hk : (k : Int) ≤ f.he) : (takenD f k).length = k := by
  have h1 := nF_shape h.shape
  unfold takenD
  rw [List.length_take, List.length_drop, h.ok.len]
  omega
theorem taken_get {f : Fr} {k i : Nat} (hi : i < k) : (takenD f k)[i]? = f.sl[nF f - k + i]? := by
  unfold takenD
  rw [List.getElem?_take_of_lt hi, List.getElem?_drop]
theorem taken_valid {n : Nat} {f : Fr} (h : FrIs n f) {k : Nat} (hk : (k : Int) ≤ f.he) {i t : Nat} (ht : (takenD f k)[i]? = some t) : validD n t = true ∧ t < 256 := by
  have h1 := nF_shape h.shape
  have hi : i < k := by
    have := (List.getElem?_eq_some_iff.1 ht).1
    rw [taken_len h hk] at this
    exact this
  rw [taken_get hi] at ht
  exact ⟨h.valid _ _ (by omega) ht, h.ok.byte _ (List.mem_of_getElem? ht)⟩
/-- The row of what was taken, k of n being there. -/
def rowK (f : Fr) (n k : Nat) : List Nat := List.replicate (n - k) 0 ++ (takenD f n).drop (n - k)
theorem rowK_zero {n : Nat} {f : Fr} (h : FrIs n f) {k : Nat} (hk : (k : Int) ≤ f.he) : rowK f k 0 = List.replicate k 0 := by
  unfold rowK
  rw [Nat.sub_zero, List.drop_eq_nil_of_le (by rw [taken_len h hk]; exact Nat.le_refl _), List.append_nil]
theorem rowK_all (f : Fr) (k : Nat) : rowK f k k = takenD f k := by
  unfold rowK
  rw [Nat.sub_self]
  rfl
theorem rowK_len {n : Nat} {f : Fr} (h : FrIs n f) {m k : Nat} (hm : (m : Int) ≤ f.he) : (rowK f m k).length = m := by
  unfold rowK
  rw [List.length_append, List.length_replicate, List.length_drop, taken_len h hm]
  omega
theorem rowK_succ {n : Nat} {f : Fr} (h : FrIs n f) {m k : Nat} (hm : (m : Int) ≤ f.he) (hk : k < m) : (rowK f m k).set (m - 1 - k) (f.sl.getD (nF f - 1 - k) 0) = rowK f m (k + 1) := by
  have h1 := nF_shape h.shape
  apply List.ext_getElem?
  intro j
  by_cases hj : j = m - 1 - k
  · subst hj
    rw [List.getElem?_set_self (by rw [rowK_len h hm]; omega)]
    unfold rowK
    rw [List.getElem?_append_right (by simp; omega)]
    simp only [List.length_replicate]
    rw [List.getElem?_drop, show m - (k + 1) + (m - 1 - k - (m - (k + 1))) = m - 1 - k by omega, taken_get (by omega)]
    rw [show nF f - m + (m - 1 - k) = nF f - 1 - k by omega, List.getD_eq_getElem?_getD]
    have hlt : nF f - 1 - k < f.sl.length := by rw [h.ok.len]; omega
    rw [List.getElem?_eq_getElem hlt]
    rfl
  · rw [List.getElem?_set_ne (by omega)]
    unfold rowK
    by_cases hj2 : j < m - (k + 1)
    · rw [List.getElem?_append_left (by simp; omega), List.getElem?_append_left (by simp; omega), List.getElem?_replicate, List.getElem?_replicate, if_pos (by omega), if_pos hj2]
    · rw [List.getElem?_append_right (by simp; omega), List.getElem?_append_right (by simp; omega)]
      simp only [List.length_replicate]
      rw [List.getElem?_drop, List.getElem?_drop]
      congr 1
      omega
/-- Entries put on a frame one behind another. -/
def pushA : Fr → List Nat → Fr × Int
  | f, [] => (f, 0)
  | f, t :: l => if (pushD f t).2 = 0 then pushA (pushD f t).1 l else (frZ, (pushD f t).2)
theorem push_ok {f : Fr} (hf : FrOk f) {t : Nat} (ht : t < 256) (h : (pushD f t).2 = 0) : FrOk (pushD f t).1 := by
  unfold pushD at h ⊢
  by_cases h1 : shapeD f = false
  · rw [if_pos h1] at h; exact absurd h (by decide)
  rw [if_neg h1] at h ⊢
  by_cases h2 : nF f = 24
  · rw [if_pos h2] at h; exact absurd h (by decide)
  rw [if_neg h2]
  have hs : shapeD f = true := by simpa using h1
  have hn := nF_shape hs
  have := (trim_ok hf hs).byte
  refine ⟨by rw [List.length_set]; exact trimL_length hf.len (by omega), ?_, hf.lo, by have := nF_shape hs; show _ ≤ f.he + 1 ∧ f.he + 1 ≤ _; omega⟩
  intro x hx
  rcases List.mem_or_eq_of_mem_set hx with hx | rfl
  · exact this x hx
  · exact ht
theorem pushA_ok : ∀ (l : List Nat) (f : Fr), FrOk f → (∀ t ∈ l, t < 256) → FrOk (pushA f l).1
  | [], _, hf, _ => hf
  | t :: l, f, hf, hl => by
    unfold pushA
    by_cases h : (pushD f t).2 = 0
    · rw [if_pos h]
      exact pushA_ok l _ (push_ok hf (hl t List.mem_cons_self) h) (fun x hx => hl x (List.mem_cons_of_mem _ hx))
    · rw [if_neg h]; exact frZ_ok
theorem madeCells_zero (n : Nat) : madeCells #[.int .u8 0] (n * 1) = (slV (List.replicate n 0)).toArray := by
  rw [Nat.mul_one]
  apply Array.ext
  · simp [madeCells, slV]
  · intro i h1 h2
    simp [madeCells, slV, tyV, Nat.mod_one]
end Go.Proofs.YtkodmpcnndbngaaGreatDoor

/-
  step.pop, push and allOf: as the plain functions say; nothing old is turned.
-/
namespace Go.Proofs.YtkodmpcnndbngaaGreatDoor
open Go.RowKit
set_option maxRecDepth 20000

/-- A row of types in a block of its own. -/
def TRow (W : World) (g : Nat) (l : List Nat) : Prop := W.heap[g]? = some (.cells (slV l).toArray 26 (0, 0))
theorem TRow.lt {W : World} {g : Nat} {l : List Nat} (h : TRow W g l) : g < W.heap.size := (Array.getElem?_eq_some_iff.1 h).1
theorem TRow.cell {W : World} {g : Nat} {l : List Nat} (h : TRow W g l) {i t : Nat} (ht : l[i]? = some t) : W.cell? ⟨g, i, none⟩ = some (.int .u8 (t : Int)) := by
  rw [cell_of_row _ _ _ _ _ _ h]
  simpa using slV_get ht
theorem TRow.frozen {W : World} {g : Nat} {l : List Nat} (h : TRow W g l) (j : Nat) : W.frozen? ⟨g, j, none⟩ = false := frozen_of_row _ _ _ _ _ h
theorem TRow.set {W : World} {g : Nat} {l : List Nat} (h : TRow W g l) (i t : Nat) : TRow (W.setCell ⟨g, i, none⟩ (.int .u8 (t : Int))) g (l.set i t) := by
  unfold TRow at h ⊢
  simp only [World.setCell, Array.getElem?_modify, if_true, h]
  rw [← slV_set]
  simp
theorem TRow.pAt {W : World} {g : Nat} {l : List Nat} (h : TRow W g l) : PAt W (some ⟨g, 0, none⟩) l := fun i t ht => ⟨g, 0, rfl, by rw [Nat.zero_add]; exact h.cell ht⟩
theorem TRow.below {W W' : World} {g : Nat} {l : List Nat} {B : Nat} (h : TRow W g l) (hb : Below B W W') (hg : g < B) : TRow W' g l := (hb.block g hg).trans h

theorem results_frv {f : Fr} (W : World) (g : Nat) (hf : FrOk f) (hg : FAt W g f) {v : Value} : (((asAddr (.pointer (some ⟨g, 0, none⟩))).run Tryz.prog W).andThen fun a w₁ => ((loadVar 29 a).run Tryz.prog w₁).andThen fun x w₂ => Result.ok (Value.tuple #[x, v]) w₂) = Result.ok (Value.tuple #[.agg (frA f), v]) W := by
  rw [run_addr, Result.andThen_ok, run_loadVar_row W g 29 29 (frA f) (0, 0) _ hg Tryz.underlying29 rfl (sizeFr hf), Result.andThen_ok]
theorem wpList_store_rowN {P : Program} {ops : Array Oper} {rest : List Oper} {o : Oper} {a : Act} {w : World} {Q : Exit → Act → World → Prop} (hgd : o.guard = none) (ty : TypeId) (x y : Operand) (ho : o.op = .store ty x y)
    (g : Nat) (cells : Array Value) (hx : a.eval x = .pointer (some ⟨g, 0, none⟩)) (hy : a.eval y = .agg cells)
    (t : TypeId) (old : Array Value) (hg : w.heap[g]? = some (.cells old t (0, 0))) (hi : (P.info? ty).map (·.size) = some cells.size)
    (hold : old.size = cells.size) (h1 : cells.all (·.oneCell') = true)
    (h : ∀ W', w.setRow g cells = W' → wpList P ops Q rest (a.put o.dst undef) W') : wpList P ops Q (o :: rest) a w :=
  wpList_store_row hgd ty x y ho g cells hx hy t old hg hi hold h1 (h _ rfl)
set_option maxRecDepth 20000 in
set_option maxHeartbeats 4000000 in
theorem pop_any (n : Nat) (f : Fr) (k : Nat) (w : World) (hf : FrIs n f) (hk : (k : Int) ≤ f.he) :
    Calls Tryz.prog 34 #[.agg (frA f), .int .i64 (k : Int)] w fun e w' => (∃ ga, e = .returned (.tuple #[.agg (frA (popK f k)), .slice ga k k]) ∧ PAt w' ga (takenD f k)) ∧ Below w.heap.size w w' := by
  have hk24 : k ≤ 24 := by have := nF_shape hf.shape; omega
  have al1 := (Below.refl w.heap.size w).alloc (Nat.le_refl _) (.cells (frA f) 29)
  have al := al1.alloc (by simp) (.cells (frA frZ) 29)
  have HB := hide al
  have n1 := FAt.new w f
  have n2 := FAt.new (w.alloc (.cells (frA f) 29)) frZ
  rw [World.size_alloc] at n2
  have HF : Hid (FAt ((w.alloc (.cells (frA f) 29)).alloc (.cells (frA frZ) 29)) w.heap.size f) := hide (n1.below ((Below.refl _ _).alloc (Nat.le_refl _) _) (by simp))
  have HZ := hide n2
  clear al1 al n1 n2
  go_enter Tryz.func34, Tryz.ntmps34
  go_upto_region 1 with fail
  rw [frZ_eq]
  generalize ((w.alloc (.cells (frA f) 29)).alloc (.cells (frA frZ) 29)) = W1 at HB HF HZ ⊢
  obtain ⟨i26, hi, hz0, hz1, hz2⟩ : ∃ i, Tryz.prog.info? 26 = some i ∧ i.zero = some (.int .u8 0) ∧ i.size = 1 ∧ i.bytes = 1 := by
    have h := infoTyV
    cases hq : Tryz.prog.info? 26 with
    | none => rw [hq] at h; simp at h
    | some i => rw [hq] at h; simp at h; exact ⟨i, rfl, h.1, h.2.1, h.2.2⟩
  have hmk : (Instr.makeSlice 44 (.int .i64 (k : Int)) (.int .i64 (k : Int))).run Tryz.prog W1 = .ok (.slice (some ⟨W1.heap.size, 0, none⟩) k k) (W1.alloc (.cells (slV (List.replicate k 0)).toArray 26)) := by
    have h := run_makeSlice (P := Tryz.prog) (w := W1) 44 26 i26 (.int .u8 0) Tryz.underlying44 hi hz0 .i64 .i64 (k : Int) (k : Int) (by omega) (by omega) (by rw [hz1]; simp; omega) (by rw [hz2]; omega) (by omega)
    rw [hz1, show ((k : Nat) : Int).toNat = k from by simp, show (Value.int IntKind.u8 0).cells = #[Value.int .u8 0] from rfl, madeCells_zero] at h
    exact h
  clear hi hz0 hz1 hz2 i26
  have HGB : Hid (w.heap.size + 1 < W1.heap.size) := hide (unhide HZ).lt
  have al2 := (Below.refl W1.heap.size W1).alloc (Nat.le_refl _) (.cells (slV (List.replicate k 0)).toArray 26)
  have HT : Hid (TRow (W1.alloc (.cells (slV (List.replicate k 0)).toArray 26)) W1.heap.size (rowK f k 0)) := hide (by rw [rowK_zero hf hk]; exact heap_alloc_new W1 _)
  have HB2 := hide ((unhide HB).trans (al2.mono (unhide HB).size))
  have HF2 := hide ((unhide HF).below al2 (unhide HF).lt)
  have HZ2 := hide ((unhide HZ).below al2 (unhide HZ).lt)
  go_upto_region 2 with fail
  clear al2 HB HF HZ hmk
  generalize (W1.alloc (.cells (slV (List.replicate k 0)).toArray 26)) = W2 at HT HB2 HF2 HZ2 ⊢
  generalize W1.heap.size = gs at HT HGB ⊢
  clear W1
  have HP0 := hide (popK_zero hf)
  rw [← unhide HP0] at HF2
  have HIS := hide hf
  have HK := hide hk
  have HPD : Hid (∀ j : Nat, j < k → popD (popK f j) = (popK f (j + 1), f.sl.getD (nF f - 1 - j) 0, 0)) := hide (fun j hj => popD_popK hf (by omega))
  have HOKJ : Hid (∀ j : Nat, j ≤ k → FrOk (popK f j)) := hide (fun j hj => popK_ok hf (by omega))
  have HBY : Hid (∀ j : Nat, j < k → f.sl.getD (nF f - 1 - j) 0 < 256) := hide (fun j hj => by
    have h1 := nF_shape hf.shape
    have hl : nF f - 1 - j < f.sl.length := by rw [hf.ok.len]; omega
    rw [List.getD_eq_getElem?_getD, List.getElem?_eq_getElem hl]
    exact hf.ok.byte _ (List.getElem_mem hl))
  have HRS : Hid (∀ j : Nat, j < k → (rowK f k j).set (k - 1 - j) (f.sl.getD (nF f - 1 - j) 0) = rowK f k (j + 1)) := hide (fun j hj => rowK_succ hf hk hj)
  have HRL : Hid (∀ j : Nat, (rowK f k j).length = k) := hide (fun j => rowK_len hf hk)
  clear hf hk
  go_wp2_with fail
  go_loopw [7] (fun i wr => ∃ (j : Nat), j ≤ k ∧ i = .int .i64 ((k : Int) - 1 - (j : Int)) ∧ Hid (TRow wr gs (rowK f k j)) ∧ Hid (FAt wr w.heap.size (popK f j)) ∧ Hid (FAt wr (w.heap.size + 1) frZ) ∧ Hid (Below w.heap.size w wr)) (fun i _ => (intOf i + 1).toNat)
  case atStart => exact ⟨0, by omega, by simp, HT, HF2, HZ2, HB2⟩
  case round =>
    clear HT HF2 HZ2 HB2 W2
    obtain ⟨j, hj, rfl, HT, HF, HZ, HB⟩ := hrel
    by_cases hlt : j < k
    · obtain ⟨m, hm, hmn⟩ : ∃ m : Nat, (k : Int) - 1 - (j : Int) = (m : Int) ∧ m = k - 1 - j := ⟨k - 1 - j, by omega, rfl⟩
      have HM := hide hm
      have HMN := hide hmn
      rw [hm]
      have j0 : ((m : Nat) : Int) ≥ 0 := by omega
      have j2 : ((m : Nat) : Int) < ((k : Nat) : Int) := by omega
      have HO1 := hide (unhide HOKJ j hj)
      have HO2 := hide (unhide HOKJ (j + 1) (by omega))
      have HPP := hide (Pop_any (popK f j) wr (unhide HO1))
      rw [unhide HPD j hlt] at HPP
      have HE3 : Hid (frThree (popK f (j + 1), f.sl.getD (nF f - 1 - j) 0, 0) = .tuple #[.agg (frA (popK f (j + 1))), .int .u8 (f.sl.getD (nF f - 1 - j) 0 : Int), .int .i64 0]) := hide rfl
      rw [unhide HE3] at HPP
      have HRS2 := hide (unhide HRS j hlt)
      have HML : Hid (m < (rowK f k j).length) := hide (by rw [unhide HRL j]; omega)
      clear hm hmn hlt HE3
      go_wp2_with (refine wpList_load_row rfl 29 (.tmp 2) rfl w.heap.size rfl 29 (frA (popK f j)) (0, 0) _ (unhide HF) Tryz.underlying29 rfl (sizeFr (unhide HO1)) ?_)
      refine (unhide HPP).mono ?_
      rintro e w2 ⟨rfl, hB2⟩
      have HT2 := hide ((unhide HT).below hB2 (unhide HT).lt)
      have HF2 := hide ((unhide HF).below hB2 (unhide HF).lt)
      have HZ2 := hide ((unhide HZ).below hB2 (unhide HZ).lt)
      have HB2 := hide ((unhide HB).trans (hB2.mono (unhide HB).size))
      clear hB2 HT HF HZ HB HPP
      generalize f.sl.getD (nF f - 1 - j) 0 = tt at HRS2 ⊢
      go_wp2_with (first | (refine wpList_store_rowN rfl 29 (.tmp 2) (.tmp 21) rfl w.heap.size (frA (popK f (j + 1))) rfl rfl 29 (frA (popK f j)) (unhide HF2) (sizeFr (unhide HO2)) (sizeEq (unhide HO1) (unhide HO2)) (frA_one _) (fun W3 hW3 => ?_); have HT3 : Hid (TRow W3 gs (rowK f k j)) := (hide (by rw [← hW3]; exact (setRow_other _ _ _ _ (by have := unhide HGB; omega)).trans (unhide HT2))); have HF3 : Hid (FAt W3 w.heap.size (popK f (j + 1))) := (hide (by rw [← hW3]; exact (unhide HF2).row (popK f (j + 1)))); have HZ3 : Hid (FAt W3 (w.heap.size + 1) frZ) := (hide (by rw [← hW3]; exact (unhide HZ2).rowOther (g := w.heap.size) (popK f (j + 1)) (by omega))); have HB3 : Hid (Below w.heap.size w W3) := (hide (by rw [← hW3]; exact below_setRow' (unhide HB2) (Nat.le_refl _) _)); have c3 := (unhide HT3).cell (List.getElem?_eq_getElem (unhide HML)); have z3 := (unhide HT3).frozen m; clear hW3) | fail)
      go_roundw
      case rel =>
        refine ⟨j + 1, by have := unhide HMN; have := unhide HM; omega, ?_, hide ?_, hide ?_, hide ?_, hide ?_⟩
        · rw [← unhide HM]; simp <;> omega
        · rw [← unhide HRS2, ← unhide HMN]; exact (unhide HT3).set m tt
        · exact (unhide HF3).cellOther _ _ (by have := unhide HGB; simp; omega)
        · exact (unhide HZ3).cellOther _ _ (by have := unhide HGB; simp; omega)
        · exact (unhide HB3).setCell (by have := unhide HGB; simp; omega) _
      case measure => simp [intOf]
    · have HJK : Hid (j = k) := hide (by omega)
      rw [unhide HJK]
      rw [unhide HJK] at HT HF
      have j0 : ¬ ((k : Int) - 1 - (k : Int)) ≥ 0 := by omega
      have HO := hide (unhide HOKJ k (Nat.le_refl _))
      clear hlt
      have HZ4 := hide ((unhide HZ).row (popK f k))
      have HPA : Hid (PAt (wr.setRow (w.heap.size + 1) (frA (popK f k))) (some ⟨gs, 0, none⟩) (takenD f k)) := hide (by
        have h : TRow (wr.setRow (w.heap.size + 1) (frA (popK f k))) gs (rowK f k k) := (setRow_other _ _ _ _ (by have := unhide HGB; omega)).trans (unhide HT)
        rw [rowK_all] at h
        exact h.pAt)
      have HB4 : Hid (Below w.heap.size w (wr.setRow (w.heap.size + 1) (frA (popK f k)))) := hide (below_setRow' (unhide HB) (by omega) _)
      go_wp2_with (first | (refine wpList_load_row rfl 29 (.tmp 2) rfl w.heap.size rfl 29 (frA (popK f k)) (0, 0) _ (unhide HF) Tryz.underlying29 rfl (sizeFr (unhide HO)) ?_) | (refine wpList_store_row rfl 29 (.tmp 4) (.tmp 25) rfl (w.heap.size + 1) (frA (popK f k)) rfl rfl 29 (frA frZ) (unhide HZ) (sizeFr (unhide HO)) (sizeEq frZ_ok (unhide HO)) (frA_one _) ?_))
      refine bodyPost_ret (v := .tuple #[.agg (frA (popK f k)), .slice (some ⟨gs, 0, none⟩) k k]) ?_ rfl ⟨⟨_, rfl, unhide HPA⟩, unhide HB4⟩
      rw [results_cell_tmp rfl]
      exact results_frv _ _ (unhide HO) (unhide HZ4)
end Go.Proofs.YtkodmpcnndbngaaGreatDoor

/-
  step.push and allOf: as the plain functions say; nothing old is turned.
-/
namespace Go.Proofs.YtkodmpcnndbngaaGreatDoor
open Go.RowKit
set_option maxRecDepth 20000

theorem pushA_nil {f g : Fr} {l : List Nat} {j : Nat} (h : pushA f l = pushA g (l.drop j)) (hj : l.length ≤ j) : pushA f l = (g, 0) := by
  rw [h, List.drop_eq_nil_of_le hj]
  rfl
theorem drop_at {l : List Nat} {j t : Nat} (h : l[j]? = some t) : l.drop j = t :: l.drop (j + 1) := by
  obtain ⟨hj, e⟩ := List.getElem?_eq_some_iff.1 h
  rw [← e]
  exact List.drop_eq_getElem_cons hj

set_option maxRecDepth 20000 in
set_option maxHeartbeats 4000000 in
theorem push_any (f : Fr) (l : List Nat) (ga : Option Addr) (gc : Nat) (w : World) (hf : FrOk f) (hl : ∀ t ∈ l, t < 256) (hP : PAt w ga l) (hn : l.length ≤ 1000000) :
    Calls Tryz.prog 37 #[.agg (frA f), .slice ga l.length gc] w fun e w' => e = .returned (frTwo (pushA f l)) ∧ Below w.heap.size w w' := by
  have al1 := (Below.refl w.heap.size w).alloc (Nat.le_refl _) (.cells (frA f) 29)
  have al := al1.alloc (by simp) (.cells (frA frZ) 29)
  have HB := hide al
  have n1 := FAt.new w f
  have n2 := FAt.new (w.alloc (.cells (frA f) 29)) frZ
  rw [World.size_alloc] at n2
  have HF : Hid (FAt ((w.alloc (.cells (frA f) 29)).alloc (.cells (frA frZ) 29)) w.heap.size f) := hide (n1.below ((Below.refl _ _).alloc (Nat.le_refl _) _) (by simp))
  have HZ := hide n2
  have HP := hide hP
  have HL := hide hl
  have HO := hide hf
  have hbz := run_buildZ
  have HE : Hid (∀ (X : Fr × Int) (W : World), pushA f l = X → Below w.heap.size w W → (Ending.returned (frTwo X) = .returned (frTwo (pushA f l)) ∧ Below w.heap.size w W)) := hide (fun X W h hB => ⟨by rw [h], hB⟩)
  clear al1 al n1 n2 hP hl hf
  go_enter Tryz.func37, Tryz.ntmps37
  go_upto_region 1 with fail
  rw [frZ_eq]
  generalize ((w.alloc (.cells (frA f) 29)).alloc (.cells (frA frZ) 29)) = W1 at HB HF HZ ⊢
  go_wp2_with fail
  go_loopw [11] (fun i wr => ∃ (j : Nat) (g : Fr), j ≤ l.length ∧ i = .int .i64 (j : Int) ∧ Hid (pushA f l = pushA g (l.drop j)) ∧ Hid (FrOk g) ∧ Hid (FAt wr w.heap.size g) ∧ Hid (FAt wr (w.heap.size + 1) frZ) ∧ Hid (Below w.heap.size w wr)) (fun i _ => l.length - (intOf i).toNat)
  case atStart => exact ⟨0, f, by omega, rfl, hide rfl, HO, HF, HZ, HB⟩
  case round =>
    clear HF HZ HB W1
    obtain ⟨j, g, hj, rfl, HQ, HG, HF, HZ, HB⟩ := hrel
    by_cases hlt : j < l.length
    · have j1 : ((j : Nat) : Int) < ((l.length : Nat) : Int) := by omega
      have j0 : (0 : Int) ≤ ((j : Nat) : Int) := by omega
      have hx := List.getElem?_eq_getElem hlt
      obtain ⟨b, off, ep, hc⟩ := unhide HP j _ hx
      have hc := ((unhide HB).cell (p := ⟨b, off + j, none⟩) (World.block_lt_of_cell? w _ hc)).trans hc
      have ht := unhide HL _ (List.mem_of_getElem? hx)
      generalize l[j] = t at hx hc ht
      have HDR := hide (drop_at hx)
      have HPU := hide (Push_any g t wr (unhide HG) ht)
      have HTW : Hid (frTwo (pushD g t) = .tuple #[.agg (frA (pushD g t).1), .int .i64 (pushD g t).2]) := hide rfl
      rw [unhide HTW] at HPU
      have HT := hide ht
      rw [ep]
      clear hx ep HTW ht
      go_wp2_with (refine wpList_load_row rfl 29 (.tmp 2) rfl w.heap.size rfl 29 (frA g) (0, 0) _ (unhide HF) Tryz.underlying29 rfl (sizeFr (unhide HG)) ?_)
      refine (unhide HPU).mono ?_
      rintro e w2 ⟨rfl, hB2⟩
      have HF2 := hide ((unhide HF).below hB2 (unhide HF).lt)
      have HZ2 := hide ((unhide HZ).below hB2 (unhide HZ).lt)
      have HB2 := hide ((unhide HB).trans (hB2.mono (unhide HB).size))
      clear hB2 HF HZ HB HPU hc
      by_cases h0 : (pushD g t).2 = 0
      · have HG2 := hide (push_ok (unhide HG) (unhide HT) h0)
        have HQ2 : Hid (pushA f l = pushA (pushD g t).1 (l.drop (j + 1))) := hide (by
          rw [unhide HQ, unhide HDR]
          show (if (pushD g t).2 = 0 then pushA (pushD g t).1 (l.drop (j + 1)) else (frZ, (pushD g t).2)) = _
          rw [if_pos h0])
        rw [h0]
        clear h0 HQ HDR HT
        generalize (pushD g t).1 = g2 at HG2 HQ2 ⊢
        go_wp2_with (first | (refine wpList_store_rowN rfl 29 (.tmp 2) (.tmp 19) rfl w.heap.size (frA g2) rfl rfl 29 (frA g) (unhide HF2) (sizeFr (unhide HG2)) (sizeEq (unhide HG) (unhide HG2)) (frA_one _) (fun W3 hW3 => ?_); have HF3 : Hid (FAt W3 w.heap.size g2) := (hide (by rw [← hW3]; exact (unhide HF2).row g2)); have HZ3 : Hid (FAt W3 (w.heap.size + 1) frZ) := (hide (by rw [← hW3]; exact (unhide HZ2).rowOther (g := w.heap.size) g2 (by omega))); have HB3 : Hid (Below w.heap.size w W3) := (hide (by rw [← hW3]; exact below_setRow' (unhide HB2) (Nat.le_refl _) _)); clear hW3) | fail)
        go_roundw
        case rel => exact ⟨j + 1, g2, by omega, by go_num, HQ2, HG2, HF3, HZ3, HB3⟩
        case measure => simp [intOf]; omega
      · have hz : (pushD g t).1 = frZ := by
          unfold pushD at h0 ⊢
          by_cases h1 : shapeD g = false
          · rw [if_pos h1]
          rw [if_neg h1] at h0 ⊢
          by_cases h2 : nF g = 24
          · rw [if_pos h2]
          rw [if_neg h2] at h0
          exact absurd rfl h0
        have HQ2 : Hid (pushA f l = (frZ, (pushD g t).2)) := hide (by
          rw [unhide HQ, unhide HDR]
          show (if (pushD g t).2 = 0 then pushA (pushD g t).1 (l.drop (j + 1)) else (frZ, (pushD g t).2)) = _
          rw [if_neg h0])
        have b1 : ((pushD g t).2 != 0) = true := bne_t h0
        rw [hz]
        clear hz h0 HQ HDR HT
        generalize (pushD g t).2 = er at b1 HQ2 ⊢
        go_wp2_with (first | (refine wpList_store_rowN rfl 29 (.tmp 2) (.tmp 19) rfl w.heap.size (frA frZ) rfl rfl 29 (frA g) (unhide HF2) (sizeFr frZ_ok) (sizeEq (unhide HG) frZ_ok) (frA_one _) (fun W3 hW3 => ?_); have HZ3 : Hid (FAt W3 (w.heap.size + 1) frZ) := (hide (by rw [← hW3]; exact (unhide HZ2).rowOther (g := w.heap.size) frZ (by omega))); have HB3 : Hid (Below w.heap.size w W3) := (hide (by rw [← hW3]; exact below_setRow' (unhide HB2) (Nat.le_refl _) _)); clear hW3) | (refine wpList_store_row rfl 29 (.tmp 4) (.tmp 23) rfl (w.heap.size + 1) (frA frZ) rfl rfl 29 (frA frZ) (unhide HZ3) (sizeFr frZ_ok) rfl (frA_one _) ?_))
        exact bodyPost_ret (v := frTwo (frZ, er)) (results_fr2 rfl _ _ (w.heap.size + 1) frZ er frZ_ok rfl rfl ((unhide HZ3).row _)) rfl (unhide HE _ _ (unhide HQ2) (below_setRow' (unhide HB3) (by omega) _))
    · have j1 : ¬ ((j : Nat) : Int) < ((l.length : Nat) : Int) := by omega
      have HQ2 : Hid (pushA f l = (g, 0)) := hide (pushA_nil (unhide HQ) (by omega))
      clear HQ
      go_wp2_with (first | (refine wpList_load_row rfl 29 (.tmp 2) rfl w.heap.size rfl 29 (frA g) (0, 0) _ (unhide HF) Tryz.underlying29 rfl (sizeFr (unhide HG)) ?_) | (refine wpList_store_row rfl 29 (.tmp 4) (.tmp 26) rfl (w.heap.size + 1) (frA g) rfl rfl 29 (frA frZ) (unhide HZ) (sizeFr (unhide HG)) (sizeEq frZ_ok (unhide HG)) (frA_one _) ?_))
      exact bodyPost_ret (v := frTwo (g, 0)) (results_fr2 rfl _ _ (w.heap.size + 1) g 0 (unhide HG) rfl rfl ((unhide HZ).row _)) rfl (unhide HE _ _ (unhide HQ2) (below_setRow' (unhide HB) (by omega) _))

/-- Each entry is of the type that is wanted there. -/
def allO (T : List Cl) (tk ws : List Nat) : Bool := (tk.zip ws).all fun x => subD T x.1 x.2
theorem allO_no {T : List Cl} {tk ws : List Nat} {j a b : Nat} (ha : tk[j]? = some a) (hb : ws[j]? = some b) (h : subD T a b = false) : allO T tk ws = false := by
  unfold allO
  rw [List.all_eq_false]
  refine ⟨(a, b), List.mem_of_getElem? (i := j) ?_, by rw [h]; simp⟩
  rw [List.getElem?_zip_eq_some]
  exact ⟨ha, hb⟩
theorem allO_yes {T : List Cl} {tk ws : List Nat} (h : ∀ (j a b : Nat), tk[j]? = some a → ws[j]? = some b → subD T a b = true) : allO T tk ws = true := by
  unfold allO
  rw [List.all_eq_true]
  intro x hx
  obtain ⟨j, hj, e⟩ := List.mem_iff_getElem.1 hx
  have e2 := List.getElem?_eq_getElem hj
  rw [e, List.getElem?_zip_eq_some] at e2
  exact h j x.1 x.2 e2.1 e2.2

set_option maxHeartbeats 2000000 in
theorem allOf_any (ao : Option Addr) (cap : Nat) (T : List Cl) (ga wa : Option Addr) (gc wc : Nat) (tk ws : List Nat) (w : World) (hT : TabAt w ao T) (hP : PAt w ga tk) (hQ : PAt w wa ws) (he : tk.length = ws.length) (htk : ∀ t ∈ tk, t < 256) (hws : ∀ t ∈ ws, t < 256) (hn : tk.length ≤ 1000000) :
    Calls Tryz.prog 35 #[.slice ao T.length cap, .slice ga tk.length gc, .slice wa ws.length wc] w fun e w' => e = .returned (.bool (allO T tk ws)) ∧ Below w.heap.size w w' := by
  have HT := hide hT
  have HP := hide hP
  have HQ := hide hQ
  have HK := hide htk
  have HS := hide hws
  have HEL := hide he
  clear hT hP hQ htk hws he
  go_enter Tryz.func35, Tryz.ntmps35
  go_wp2_with fail
  go_loopw [11] (fun i wr => ∃ (j : Nat), j ≤ tk.length ∧ i = .int .i64 (j : Int) ∧ Hid (∀ (i a b : Nat), i < j → tk[i]? = some a → ws[i]? = some b → subD T a b = true) ∧ Hid (Below w.heap.size w wr)) (fun i _ => tk.length - (intOf i).toNat)
  case atStart => exact ⟨0, by omega, rfl, hide (fun i a b h => by omega), hide (Below.refl _ _)⟩
  case round =>
    obtain ⟨j, hj, rfl, HA, HB⟩ := hrel
    by_cases hlt : j < tk.length
    · have j1 : ((j : Nat) : Int) < ((tk.length : Nat) : Int) := by omega
      have j2 : ((j : Nat) : Int) < ((ws.length : Nat) : Int) := by have := unhide HEL; omega
      have j0 : (0 : Int) ≤ ((j : Nat) : Int) := by omega
      have hx := List.getElem?_eq_getElem hlt
      have hy := List.getElem?_eq_getElem (show j < ws.length by have := unhide HEL; omega)
      obtain ⟨b, off, ep, hc⟩ := unhide HP j _ hx
      obtain ⟨b2, off2, ep2, hc2⟩ := unhide HQ j _ hy
      have hc := ((unhide HB).cell (p := ⟨b, off + j, none⟩) (World.block_lt_of_cell? w _ hc)).trans hc
      have hc2 := ((unhide HB).cell (p := ⟨b2, off2 + j, none⟩) (World.block_lt_of_cell? w _ hc2)).trans hc2
      have ht := unhide HK _ (List.mem_of_getElem? hx)
      have hu := unhide HS _ (List.mem_of_getElem? hy)
      generalize tk[j] = t at hx hc ht
      generalize ws[j] = u at hy hc2 hu
      have HX := hide hx
      have HY := hide hy
      have HSB := hide (Sub_any ao cap T t u wr ((unhide HT).below (unhide HB)) ht hu)
      rw [ep, ep2]
      clear hx hy ep ep2
      go_wp2_with fail
      refine (unhide HSB).mono ?_
      rintro e w2 ⟨rfl, hB2⟩
      have HB2 := hide ((unhide HB).trans (hB2.mono (unhide HB).size))
      clear hB2 HSB HB hc hc2
      cases hq : subD T t u
      · have HE : Hid (allO T tk ws = false) := hide (allO_no (unhide HX) (unhide HY) hq)
        clear hq
        go_wp2
        go_ret
        exact ⟨ret_bool (unhide HE).symm, unhide HB2⟩
      · have HA2 : Hid (∀ (i a b : Nat), i < j + 1 → tk[i]? = some a → ws[i]? = some b → subD T a b = true) := hide (fun i a b h h1 h2 => by
          by_cases e : i = j
          · rw [e, unhide HX] at h1
            rw [e, unhide HY] at h2
            injection h1 with h1
            injection h2 with h2
            rw [← h1, ← h2]; exact hq
          · exact unhide HA i a b (by omega) h1 h2)
        clear hq HA
        go_wp2
        go_roundw
        case rel => exact ⟨j + 1, by omega, by go_num, HA2, HB2⟩
        case measure => simp [intOf]; omega
    · have j1 : ¬ ((j : Nat) : Int) < ((tk.length : Nat) : Int) := by omega
      have HE : Hid (allO T tk ws = true) := hide (allO_yes (fun i a b h1 h2 => unhide HA i a b (by have := (List.getElem?_eq_some_iff.1 h1).1; omega) h1 h2))
      clear HA
      go_wp2
      go_ret
      exact ⟨ret_bool (unhide HE).symm, unhide HB⟩
end Go.Proofs.YtkodmpcnndbngaaGreatDoor

/-
  What an instruction takes and gives are types that can be; what an instruction does to a frame, behind the looks at what is handed in: plain.
-/
namespace Go.Proofs.YtkodmpcnndbngaaGreatDoor
open Go.RowKit
set_option maxRecDepth 20000

theorem small_valid {n : Nat} {l : List Nat} (h : l.all (fun t => decide (t ≤ 5)) = true) : ∀ t ∈ l, validD n t = true := fun t ht => by
  rw [List.all_eq_true] at h
  exact validD_iff.2 (Or.inl (by simpa using h t ht))
theorem class_valid {n : Nat} {a : Int} (h : 0 ≤ a ∧ a < (n : Int)) : validD n (16 + a.toNat) = true := validD_iff.2 (Or.inr ⟨by omega, by omega⟩)
theorem sig_valid {T : List Cl} {L : List Sg} {fn : Int} (hc : Can T L fn) {a : Int} : (∀ t ∈ sgPs L a, validD T.length t = true) ∧ validD T.length (sgRt L a) = true ∧ (sgPs L a).length ≤ 8 := by
  unfold sgPs sgRt
  cases hx : L[a.toNat]? with
  | none => exact ⟨fun t ht => by simp at ht, validD_iff.2 (Or.inl (by show 0 ≤ 5; omega)), by simp⟩
  | some x =>
    have h := hc.sig _ _ hx
    unfold sigD okPs at h
    simp only [Bool.and_eq_true, decide_eq_true_eq, List.all_eq_true, Bool.or_eq_true, beq_iff_eq] at h
    refine ⟨fun t ht => (stored_pos (h.1.2 t ht)).2, ?_, h.1.1⟩
    rcases h.2 with h2 | h2
    · show validD T.length x.rt = true
      rw [h2]; exact validD_iff.2 (Or.inl (by omega))
    · exact (stored_pos h2).2
theorem rt_valid {n t : Nat} (h : validD n t = true) : ∀ u ∈ rtD t, validD n u = true := fun u hu => by
  unfold rtD at hu
  by_cases h0 : t = 0
  · rw [if_pos h0] at hu; simp at hu
  · rw [if_neg h0] at hu; simp at hu; rw [hu]; exact h
theorem one_valid {n t : Nat} (h : validD n t = true) : ∀ u ∈ [t], validD n u = true := fun u hu => by simp at hu; rw [hu]; exact h
theorem two_valid {n t r : Nat} (h : validD n t = true) (h2 : validD n r = true) : ∀ u ∈ [t, r], validD n u = true := fun u hu => by
  simp at hu
  rcases hu with rfl | rfl
  · exact h
  · exact h2
theorem tk_valid (s : Sp) (hc : Can s.T s.L s.fn) : ∀ op, op < 34 → unkO s op = 0 → ∀ t ∈ tkO s op, validD s.T.length t = true :=
  cases34 (p := fun op => unkO s op = 0 → ∀ t ∈ tkO s op, validD s.T.length t = true) (fun _ => small_valid rfl) (fun _ => small_valid rfl) (fun _ => small_valid rfl) (fun _ => small_valid rfl) (fun _ => small_valid rfl) (fun _ => small_valid rfl) (fun _ => small_valid rfl) (fun _ => small_valid rfl) (fun _ => small_valid rfl) (fun _ => small_valid rfl) (fun _ => small_valid rfl) (fun _ => small_valid rfl) (fun _ => small_valid rfl) (fun _ => small_valid rfl) (fun _ => small_valid rfl) (fun _ => small_valid rfl) (fun _ => small_valid rfl) (fun _ => small_valid rfl) (fun _ => small_valid rfl) (fun _ => small_valid rfl) (fun _ => small_valid rfl) (fun _ => (sig_valid hc).1) (fun _ => rt_valid (sig_valid hc).2.1) (fun _ => small_valid rfl)
    (fun hu => one_valid (class_valid (fields_class (by have := unk_fld (s := s) (op := 24) (Or.inl rfl) hu; omega))))
    (fun hu => two_valid (class_valid (fields_class (by have := unk_fld (s := s) (op := 25) (Or.inr rfl) hu; omega))) (stored_pos (fld_stored hc.made (unk_fld (s := s) (op := 25) (Or.inr rfl) hu))).2)
    (fun _ => small_valid rfl) (fun _ => small_valid rfl) (fun _ => small_valid rfl) (fun _ => small_valid rfl) (fun _ => small_valid rfl) (fun _ => small_valid rfl) (fun _ => small_valid rfl) (fun _ => small_valid rfl)
theorem rt_len (t : Nat) : (rtD t).length ≤ 8 := by
  unfold rtD
  by_cases h0 : t = 0
  · rw [if_pos h0]; decide
  · rw [if_neg h0]; simp
theorem len8 {l : List Nat} (h : decide (l.length ≤ 8) = true) : l.length ≤ 8 := of_decide_eq_true h
theorem tk_len (s : Sp) (hc : Can s.T s.L s.fn) : ∀ op, op < 34 → (tkO s op).length ≤ 8 :=
  cases34 (p := fun op => (tkO s op).length ≤ 8) (len8 rfl) (len8 rfl) (len8 rfl) (len8 rfl) (len8 rfl) (len8 rfl) (len8 rfl) (len8 rfl) (len8 rfl) (len8 rfl) (len8 rfl) (len8 rfl) (len8 rfl) (len8 rfl) (len8 rfl) (len8 rfl) (len8 rfl) (len8 rfl) (len8 rfl) (len8 rfl) (len8 rfl) (sig_valid hc).2.2 (rt_len _) (len8 rfl) (len8 rfl) (len8 rfl) (len8 rfl) (len8 rfl) (len8 rfl) (len8 rfl) (len8 rfl) (len8 rfl) (len8 rfl) (len8 rfl)
theorem load_valid {n : Nat} {f : Fr} (hf : FrIs n f) (a : Int) : validD n (loadD f a).1 = true := by
  unfold loadD
  rw [hf.shape, if_neg (by decide)]
  by_cases h : a < 0 ∨ f.lo ≤ a
  · rw [if_pos h]; exact validD_iff.2 (Or.inl (by show 0 ≤ 5; omega))
  · rw [if_neg h]
    have h1 := nF_shape hf.shape
    have hl : a.toNat < f.sl.length := by rw [hf.ok.len]; omega
    show validD n (f.sl.getD a.toNat 0) = true
    rw [List.getD_eq_getElem?_getD, List.getElem?_eq_getElem hl]
    exact hf.valid a.toNat _ (by omega) (List.getElem?_eq_getElem hl)
theorem get_valid {n : Nat} {tk : List Nat} (h : ∀ t ∈ tk, validD n t = true) (i : Nat) : validD n (tk.getD i 0) = true := by
  rw [List.getD_eq_getElem?_getD]
  cases hx : tk[i]? with
  | none => exact validD_iff.2 (Or.inl (by show 0 ≤ 5; omega))
  | some t => exact h t (List.mem_of_getElem? hx)
theorem gv_valid (s : Sp) (hc : Can s.T s.L s.fn) (hf : FrIs s.T.length s.f) {tk : List Nat} (ht : ∀ t ∈ tk, validD s.T.length t = true) : ∀ op, op < 34 → unkO s op = 0 → ∀ t ∈ gvO s tk op, validD s.T.length t = true :=
  cases34 (p := fun op => unkO s op = 0 → ∀ t ∈ gvO s tk op, validD s.T.length t = true) (fun _ => small_valid rfl) (fun _ => small_valid rfl) (fun _ => small_valid rfl) (fun _ => small_valid rfl) (fun _ => one_valid (load_valid hf _)) (fun _ => small_valid rfl) (fun _ => small_valid rfl) (fun _ => two_valid (get_valid ht 0) (get_valid ht 0)) (fun _ => two_valid (get_valid ht 1) (get_valid ht 0)) (fun _ => small_valid rfl) (fun _ => small_valid rfl) (fun _ => small_valid rfl) (fun _ => small_valid rfl) (fun _ => small_valid rfl) (fun _ => small_valid rfl) (fun _ => small_valid rfl) (fun _ => small_valid rfl) (fun _ => small_valid rfl) (fun _ => small_valid rfl) (fun _ => small_valid rfl) (fun _ => small_valid rfl) (fun _ => rt_valid (sig_valid hc).2.1) (fun _ => small_valid rfl)
    (fun hu => one_valid (class_valid (unk_cls (s := s) (op := 23) (by decide) hu)))
    (fun hu => one_valid (stored_pos (fld_stored hc.made (unk_fld (s := s) (op := 24) (Or.inl rfl) hu))).2)
    (fun _ => small_valid rfl) (fun _ => small_valid rfl) (fun _ => small_valid rfl) (fun _ => small_valid rfl) (fun _ => small_valid rfl)
    (fun hu => one_valid (class_valid (unk_cls (s := s) (op := 30) (by decide) hu)))
    (fun _ => small_valid rfl) (fun _ => small_valid rfl) (fun _ => small_valid rfl)
theorem gv_len (s : Sp) (tk : List Nat) : ∀ op, op < 34 → (gvO s tk op).length ≤ 8 :=
  cases34 (p := fun op => (gvO s tk op).length ≤ 8) (len8 rfl) (len8 rfl) (len8 rfl) (len8 rfl) (len8 rfl) (len8 rfl) (len8 rfl) (len8 rfl) (len8 rfl) (len8 rfl) (len8 rfl) (len8 rfl) (len8 rfl) (len8 rfl) (len8 rfl) (len8 rfl) (len8 rfl) (len8 rfl) (len8 rfl) (len8 rfl) (len8 rfl) (rt_len _) (len8 rfl) (len8 rfl) (len8 rfl) (len8 rfl) (len8 rfl) (len8 rfl) (len8 rfl) (len8 rfl) (len8 rfl) (len8 rfl) (len8 rfl) (len8 rfl)
theorem valid_byte {T : List Cl} (hm : madeD T = true) {t : Nat} (h : validD T.length t = true) : t < 256 := by
  have := made_few hm
  rcases validD_iff.1 h with h | h <;> omega
theorem miss_unk {s : Sp} (h : missD s = 0) : unkD s = 0 := by
  unfold missD at h
  by_cases h4 : s.op = 4 ∨ s.op = 5
  · unfold unkD unkO
    rw [if_neg (by omega), if_neg (by omega), if_neg (by omega), if_neg (by omega)]
  · rw [if_neg h4] at h; exact h
/-- The frame behind an instruction, of a frame and in an environment that can be. -/
def frS (s : Sp) : Fr := if s.op = 5 then (storeD (popK s.f (tkD s).length) s.a ((takenD s.f (tkD s).length).getD 0 0)).1 else popK s.f (tkD s).length
def applyS (s : Sp) : Fr × Int :=
  if missD s ≠ 0 then (frZ, missD s) else if s.f.he < ((tkD s).length : Int) then (frZ, 30)
  else if (allO s.T (takenD s.f (tkD s).length) (tkD s) && alD s (takenD s.f (tkD s).length)) = false then (frZ, 70)
  else if s.op = 22 ∧ 0 < (popK s.f (tkD s).length).he then (frZ, 73)
  else pushA (frS s) (gvD s (takenD s.f (tkD s).length))
theorem store_in {n : Nat} {f : Fr} (hf : FrIs n f) {a : Int} (h : 0 ≤ a ∧ a < f.lo) (t : Nat) : storeD f a t = (⟨f.lo, f.he, f.sl.set a.toNat t⟩, 0) := by
  have hl : (loadD f a).2 = 0 := by
    unfold loadD
    rw [hf.shape, if_neg (by decide), if_neg (by omega)]
  unfold storeD
  rw [hl, if_neg (by decide), hf.trim]
theorem store_is {n : Nat} {f : Fr} (hf : FrIs n f) {a : Int} (h : 0 ≤ a ∧ a < f.lo) {t : Nat} (ht : validD n t = true) (hb : t < 256) : FrIs n (storeD f a t).1 := by
  rw [store_in hf h]
  have h1 := nF_shape hf.shape
  have hn : nF (⟨f.lo, f.he, f.sl.set a.toNat t⟩ : Fr) = nF f := rfl
  refine ⟨⟨by rw [List.length_set]; exact hf.ok.len, fun x hx => ?_, hf.ok.lo, hf.ok.he⟩, hf.shape, ?_, ?_⟩
  · rcases List.mem_or_eq_of_mem_set hx with hx | rfl
    · exact hf.ok.byte x hx
    · exact hb
  · rw [hn]
    apply List.ext_getElem?
    intro j
    have hll : (f.sl.set a.toNat t).length = 24 := by rw [List.length_set]; exact hf.ok.len
    by_cases hj : j < nF f
    · exact trimL_get hj (by rw [hll]; omega)
    · by_cases hj2 : j < 24
      · show (trimL (nF f) (f.sl.set a.toNat t))[j]? = (f.sl.set a.toNat t)[j]?
        rw [trimL_get0 (by omega) (by rw [hll]; omega) hj2, List.getElem?_set_ne (by omega)]
        have := trimL_get0 (l := f.sl) (show nF f ≤ j by omega) (by rw [hf.ok.len]; omega) hj2
        rw [hf.trim] at this
        exact this.symm
      · show (trimL (nF f) (f.sl.set a.toNat t))[j]? = (f.sl.set a.toNat t)[j]?
        rw [List.getElem?_eq_none (by rw [trimL_length hll (by omega)]; omega), List.getElem?_eq_none (by rw [hll]; omega)]
  · intro j u hj hu
    rw [hn] at hj
    by_cases e : j = a.toNat
    · have hu2 : (f.sl.set a.toNat t)[j]? = some u := hu
      rw [e, List.getElem?_set_self (by rw [hf.ok.len]; omega)] at hu2
      injection hu2 with hu2
      rw [← hu2]; exact ht
    · have hu2 : (f.sl.set a.toNat t)[j]? = some u := hu
      rw [List.getElem?_set_ne (by omega)] at hu2
      exact hf.valid j u hj hu2
end Go.Proofs.YtkodmpcnndbngaaGreatDoor
