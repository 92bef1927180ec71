/-
  The contract of frames.trimmed: nothing stands behind the entries. Conditions: a frame's shape can be.
-/
import Derived.Test.YtkgnohjmfnignaaDoorFrB
namespace Go.Proofs.YtkgnohjmfnignaaDoor
open Go.RowKit
set_option maxRecDepth 20000

def zeroFrom (l : List Nat) (n : Nat) : Nat → List Nat
  | 0 => l
  | m + 1 => zeroFrom (l.set n 0) (n + 1) m
theorem zeroFrom_eq : ∀ (m n : Nat) (l : List Nat), n + m ≤ l.length → zeroFrom l n m = l.take n ++ List.replicate m 0 ++ l.drop (n + m)
  | 0, n, l, h => by simp [zeroFrom]
  | m + 1, n, l, h => by
    unfold zeroFrom
    rw [zeroFrom_eq m (n + 1) (l.set n 0) (by simp; omega)]
    apply List.ext_getElem?
    intro i
    simp only [List.append_assoc, List.getElem?_append, List.length_take, List.length_set, List.length_replicate, List.getElem?_take, List.getElem?_drop, List.getElem?_replicate, List.getElem?_set]
    have h1 : min (n + 1) l.length = n + 1 := by omega
    have h2 : min n l.length = n := by omega
    rw [h1, h2]
    by_cases c1 : i < n
    · rw [if_pos (by omega), if_pos (by omega), if_neg (by omega), if_pos (by omega), if_pos (by omega)]
    · by_cases c2 : i = n
      · subst c2
        rw [if_pos (by omega), if_pos (by omega), if_pos rfl, if_pos (by omega), if_neg (by omega), if_pos (by omega), if_pos (by omega)]
      · rw [if_neg (show ¬ i < n + 1 by omega)]
        by_cases c3 : i - (n + 1) < m
        · rw [if_pos c3, if_pos c3, if_neg (show ¬ i < n by omega), if_pos (show i - n < m + 1 by omega), if_pos (show i - n < m + 1 by omega)]
        · rw [if_neg c3, if_neg (show ¬ n = n + 1 + m + (i - (n + 1) - m) by omega), if_neg (show ¬ i < n by omega), if_neg (show ¬ i - n < m + 1 by omega)]
          congr 1
          omega
theorem zeroFrom_trim {l : List Nat} {n : Nat} (h : l.length = 24) (hn : n ≤ 24) : zeroFrom l n (24 - n) = trimL n l := by
  rw [zeroFrom_eq _ _ _ (by omega), List.drop_of_length_le (by omega), List.append_nil]
  rfl
theorem FAt.zeros {g : Nat} : ∀ (m n : Nat) (W : World) (f : Fr), FAt W g f → FAt (W.setCells g (2 + n) (List.replicate m (.int .u8 0))) g { f with sl := zeroFrom f.sl n m }
  | 0, n, W, f, h => h
  | m + 1, n, W, f, h => by
    have h1 : FAt (W.setCell ⟨g, 2 + n, none⟩ (.int .u8 0)) g { f with sl := f.sl.set n 0 } := h.set n 0
    exact FAt.zeros m (n + 1) _ _ h1

theorem below_cells {B g : Nat} (hg : B ≤ g) : ∀ (vs : List Value) (o : Nat) {a W : World}, Below B a W → Below B a (W.setCells g o vs)
  | [], _, _, _, h => h
  | v :: vs, o, _, _, h => below_cells hg vs (o + 1) (h.setCell (p := ⟨g, o, none⟩) hg v)

theorem FAt.cellsOther {g k : Nat} {f : Fr} (hne : k ≠ g) : ∀ (vs : List Value) (o : Nat) (W : World), FAt W k f → FAt (W.setCells g o vs) k f
  | [], _, _, h => h
  | v :: vs, o, _, h => FAt.cellsOther hne vs (o + 1) _ (h.cellOther ⟨g, o, none⟩ v hne)

theorem sizeEq {f g : Fr} (hf : FrOk f) (hg : FrOk g) : (frA f).size = (frA g).size := by rw [frA_size hf, frA_size hg]

theorem zeroTy : ∀ w, (zeroValue 33).run Tryd.prog w = .ok (.int .u8 0) w := (zero_of_info (n := 1) (by kernel_rfl)).1

/-- Where the slots from n on lie. -/
def fromA (g n : Nat) : Addr := if n = 24 then ⟨g, 2, none⟩ else ⟨g, 2 + n, none⟩
theorem run_fromFr (W : World) (g n : Nat) (hn : n ≤ 24) :
    (Instr.sliceAt 37 (.pointer (some ⟨g, 2, none⟩)) (some (.int .i64 (n : Int))) none none).run Tryd.prog W = .ok (.slice (some (fromA g n)) (24 - n) (24 - n)) W := by
  have hl : Tryd.prog.arrayLen 37 = 24 := by unfold Program.arrayLen; rw [Tryd.underlying37]
  have hu : Tryd.prog.underlying 37 = some (.array (Tryd.prog.arrayLen 37) (Tryd.prog.elem 37)) := by kernel_rfl
  have hz : ∀ w, (sizeOf (Tryd.prog.elem 37)).run Tryd.prog w = .ok 1 w := fun w => by
    have he : Tryd.prog.elem 37 = 33 := by kernel_rfl
    obtain ⟨i, hi⟩ := infoTy
    rw [he, run_sizeOf w hi, cellsTy]
  rw [run_sliceAt_array_l W _ _ hu .i64 (n : Int) (by omega) (by rw [hl]; omega), hz, hl]
  simp only [Result.andThen_ok, slicedAt, Int.toNat_natCast, Nat.mul_one]
  unfold fromA
  by_cases h : n = 24
  · rw [if_pos h.symm, if_pos h]
  · rw [if_neg (fun e => h e.symm), if_neg h, Addr.add_lit]

theorem run_clearFr {W : World} {g : Nat} {f : Fr} (h : FAt W g f) (hf : FrOk f) (n : Nat) (hn : n ≤ 24) (ty : TypeId) :
    ∃ W', (Builtin.clear_ #[32] ty #[.slice (some (fromA g n)) (24 - n) (24 - n)]).run Tryd.prog W = .ok (.tuple #[]) W' ∧ FAt W' g { f with sl := trimL n f.sl } ∧ (∀ B, B ≤ g → Below B W W') ∧ ∀ k f', FAt W k f' → k ≠ g → FAt W' k f' := by
  by_cases h0 : n = 24
  · subst h0
    refine ⟨W, ?_, ?_, fun B _ => Below.refl _ _, fun _ _ h _ => h⟩
    · simp [Builtin.clear_, run_underlying Tryd.underlying32]
    · have : trimL 24 f.sl = f.sl := by unfold trimL; rw [List.take_of_length_le (by rw [hf.len]; omega)]; simp
      rw [this]; exact h
  · have hc : ∀ j, j < 24 - n → (W.cell? ⟨g, 2 + n + j, none⟩).isSome = true := fun j hj => by
      obtain ⟨t, ht⟩ : ∃ t, f.sl[n + j]? = some t := ⟨_, List.getElem?_eq_getElem (show n + j < f.sl.length by rw [hf.len]; omega)⟩
      rw [Nat.add_assoc, h.slot ht]; rfl
    have ha : fromA g n = ⟨g, 2 + n, none⟩ := by unfold fromA; rw [if_neg h0]
    rw [ha]
    refine ⟨_, Lib.run_clear_slice W 32 33 ty (.int .u8 0) Tryd.underlying32 zeroTy rfl rfl g (2 + n) (24 - n) (24 - n) (by omega) hc (fun j _ => h.frozen _), ?_, fun B hB => below_cells hB _ _ (Below.refl _ _), fun k f' hk hne => FAt.cellsOther hne _ _ _ hk⟩
    rw [← zeroFrom_trim hf.len hn]
    exact FAt.zeros _ _ _ _ h

end Go.Proofs.YtkgnohjmfnignaaDoor
