/-
  Rows of entries: the laws of copy and clear for things of more than one cell, what comes of a row by them. No Go in it.
-/
import Derived.Test.YtkiijdcpfbnacaaGreatDoorSr1
import Derived.Laws.CopyRow
import Derived.ArgAppend
namespace Go.Proofs.YtkiijdcpfbnacaaGreatDoor
open Go.RowKit
set_option maxRecDepth 20000

/-- A row with some cells laid over it. -/
def spl (R : List Value) (o : Nat) (cs : List Value) : List Value := R.take o ++ cs ++ R.drop (o + cs.length)
theorem spl_len {R : List Value} {o : Nat} {cs : List Value} (h : o + cs.length ≤ R.length) : (spl R o cs).length = R.length := by
  unfold spl; rw [List.length_append, List.length_append, List.length_take, List.length_drop]; omega
theorem setCells_row {w : World} {g o : Nat} {vs : List Value} {cur : Array Value} {t : TypeId} (hg : w.heap[g]? = some (.cells cur t (0, 0))) (hfit : o + vs.length ≤ cur.size) (h1 : ∀ v ∈ vs, v.oneCell' = true) :
    w.setCells g o vs = w.setRow g (spl cur.toList o vs).toArray := by
  have a := run_storeCells_at Tryz.prog g o t vs 0 cur w hg (by simpa using hfit) h1
  have b := run_storeCells_cells (P := Tryz.prog) g o vs 0 w (fun j hj => by
      rw [cell_of_row _ _ _ _ _ _ hg, Array.getElem?_eq_getElem (by omega)]; rfl) (fun j hj => frozen_of_row _ _ _ _ _ hg) h1
  simp only [Nat.add_zero] at a b
  rw [a] at b
  injection b with _ b
  exact b.symm
theorem run_copyS {P : Program} (w : World) (dT sT ty elem : TypeId) (g o dLen dCap : Nat) (a : Addr) (sLen sCap s : Nat) (cur : Array Value) (t : TypeId) (cs : List Value)
    (hu : P.underlying dT = some (.slice elem)) (hs : (P.info? elem).map (·.size) = some s)
    (hg : w.heap[g]? = some (.cells cur t (0, 0))) (hn : cs.length = Nat.min sLen dLen * s)
    (hsrc : ∀ j v, cs[j]? = some v → w.cell? (a.add j) = some v) (hfit : o + cs.length ≤ cur.size) (h1 : ∀ v ∈ cs, v.oneCell' = true) :
    (Builtin.copy_ #[dT, sT] ty #[.slice (some ⟨g, o, none⟩) dLen dCap, .slice (some a) sLen sCap]).run P w =
      .ok (goInt (Nat.min sLen dLen)) (w.setRow g (spl cur.toList o cs).toArray) := by
  have hl := run_firstCells_some (P := P) w s (Nat.min sLen dLen) a sLen sCap cs hn hsrc
  have hst := run_storeCells_at P g o t cs 0 cur w hg (by simpa using hfit) h1
  cases hq : P.info? elem with
  | none => simp [hq] at hs
  | some i =>
    have hi : i.size = s := by simpa [hq] using hs
    simp [Builtin.copy_, run_underlying hu, Builtin.lenOf, sizeOf, typeInfo, hq, hi, hl, hst, spl]
theorem run_clearS {P : Program} (w : World) (t e ty : TypeId) (z : Value) (zs : List Value) (ht : P.underlying t = some (.slice e)) (hv : (zeroValue e).run P w = .ok z w) (g o n c : Nat) (hn : 0 < n) (hz : (Builtin.zeroCells z.cells n).toList = zs) (h1 : ∀ v ∈ zs, v.oneCell' = true)
    (cur : Array Value) (t' : TypeId) (hg : w.heap[g]? = some (.cells cur t' (0, 0))) (hfit : o + zs.length ≤ cur.size) :
    (Builtin.clear_ #[t] ty #[.slice (some ⟨g, o, none⟩) n c]).run P w = .ok (.tuple #[]) (w.setRow g (spl cur.toList o zs).toArray) := by
  have hst := run_storeCells_at P g o t' zs 0 cur w hg (by simpa using hfit) h1
  obtain ⟨m, rfl⟩ : ∃ m, n = m + 1 := ⟨n - 1, by omega⟩
  simp [Builtin.clear_, run_underlying ht, hv, hz, hst, spl]
/-! ### what comes of a row -/
theorem tk_l {α : Type} {A B : List α} {n : Nat} (h : A.length = n) : (A ++ B).take n = A := by subst h; exact List.take_left
theorem dr_l {α : Type} {A B : List α} {n : Nat} (h : A.length = n) : (A ++ B).drop n = B := by subst h; exact List.drop_left
theorem spl_at {A X C cs : List Value} {o : Nat} (ha : A.length = o) (hx : X.length = cs.length) : spl (A ++ (X ++ C)) o cs = A ++ (cs ++ C) := by
  unfold spl
  rw [tk_l ha, ← List.drop_drop, dr_l ha, dr_l hx, List.append_assoc]
theorem parts {K : List Ke} {R : List Value} (ht : R.take (K.length * 3) = keV K) (i : Nat) : R = keV (K.take i) ++ (keV (K.drop i) ++ R.drop (K.length * 3)) := by
  rw [← List.append_assoc, ← keV_app, List.take_append_drop, ← ht, List.take_append_drop]
theorem kt_len (K : List Ke) {i : Nat} (h : i ≤ K.length) : (keV (K.take i)).length = i * 3 := by rw [keV_len, List.length_take, Nat.min_eq_left h]
theorem kd_len (K : List Ke) (i : Nat) : (keV (K.drop i)).length = (K.length - i) * 3 := by rw [keV_len, List.length_drop]
/-- One put in, in place. -/
theorem ins_row {K : List Ke} {R : List Value} (e : Ke) {i : Nat} (ht : R.take (K.length * 3) = keV K) (hi : i ≤ K.length) (hl : K.length * 3 + 3 ≤ R.length) :
    (spl (spl R ((i + 1) * 3) (keV (K.drop i))) (i * 3) (keC e)).take ((K.length + 1) * 3) = keV (K.take i ++ e :: K.drop i) := by
  have hR := parts ht i
  have hC : 3 ≤ (R.drop (K.length * 3)).length := by rw [List.length_drop]; omega
  generalize R.drop (K.length * 3) = C at hR hC
  have h3 : (keV (K.drop i) ++ C).length = (K.length - i) * 3 + C.length := by rw [List.length_append, kd_len]
  have hX : ((keV (K.drop i) ++ C).take 3).length = 3 := by rw [List.length_take]; omega
  have hY : (((keV (K.drop i) ++ C).drop 3).take ((K.length - i) * 3)).length = (keV (K.drop i)).length := by
    rw [List.length_take, List.length_drop, kd_len]; omega
  have e1 : R = (keV (K.take i) ++ (keV (K.drop i) ++ C).take 3) ++ (((keV (K.drop i) ++ C).drop 3).take ((K.length - i) * 3) ++ ((keV (K.drop i) ++ C).drop 3).drop ((K.length - i) * 3)) := by
    rw [List.take_append_drop, List.append_assoc, List.take_append_drop]
    exact hR
  rw [e1, spl_at (by rw [List.length_append, kt_len K hi, hX]; omega) hY, List.append_assoc, spl_at (kt_len K hi) (by rw [hX]; rfl), ← List.append_assoc, ← List.append_assoc, tk_l (by
    rw [List.length_append, List.length_append, kt_len K hi, kd_len]
    simp [keC]; omega)]
  rw [keV_app, show keV (e :: K.drop i) = keC e ++ keV (K.drop i) from by unfold keV; rw [List.flatMap_cons], List.append_assoc]
/-- One put in, in a new row. -/
theorem grow_row {K : List Ke} {Z : List Value} (e : Ke) {i : Nat} (hi : i ≤ K.length) (hl : (K.length + 1 - i) * 3 ≤ Z.length) :
    (spl (spl (keV (K.take i) ++ Z) (i * 3) (keC e)) ((i + 1) * 3) (keV (K.drop i))).take ((K.length + 1) * 3) = keV (K.take i ++ e :: K.drop i) := by
  have hX : (Z.take 3).length = (keC e).length := by rw [List.length_take]; simp [keC]; omega
  have hY : ((Z.drop 3).take ((K.length - i) * 3)).length = (keV (K.drop i)).length := by
    rw [List.length_take, List.length_drop, kd_len]; omega
  have e1 : Z = Z.take 3 ++ (Z.drop 3) := (List.take_append_drop 3 Z).symm
  have e2 : Z.drop 3 = (Z.drop 3).take ((K.length - i) * 3) ++ (Z.drop 3).drop ((K.length - i) * 3) := (List.take_append_drop _ _).symm
  rw [e1, spl_at (kt_len K hi) hX]
  rw [e2, ← List.append_assoc, spl_at (by rw [List.length_append, kt_len K hi]; simp [keC]; omega) hY, ← List.append_assoc, tk_l (by
    rw [List.length_append, List.length_append, kt_len K hi, kd_len]
    simp [keC]; omega)]
  rw [keV_app, show keV (e :: K.drop i) = keC e ++ keV (K.drop i) from by unfold keV; rw [List.flatMap_cons], List.append_assoc]
/-- One taken out. -/
theorem del_row {K : List Ke} {R zs : List Value} {i : Nat} (ht : R.take (K.length * 3) = keV K) (hi : i < K.length) :
    (spl (spl R (i * 3) (keV (K.drop (i + 1)))) ((K.length - 1) * 3) zs).take ((K.length - 1) * 3) = keV (cutN i true K) := by
  have hR := parts ht i
  generalize R.drop (K.length * 3) = C at hR
  have hX : ((keV (K.drop i)).take ((K.length - (i + 1)) * 3)).length = (keV (K.drop (i + 1))).length := by
    rw [List.length_take, kd_len, kd_len]; omega
  have e1 : R = keV (K.take i) ++ ((keV (K.drop i)).take ((K.length - (i + 1)) * 3) ++ ((keV (K.drop i)).drop ((K.length - (i + 1)) * 3) ++ C)) := by
    rw [← List.append_assoc (List.take _ _), List.take_append_drop]; exact hR
  rw [e1, spl_at (kt_len K (by omega)) hX, ← List.append_assoc]
  unfold spl
  rw [List.append_assoc, List.take_append_of_le_length (by
    rw [List.length_take, List.length_append, List.length_append, kt_len K (by omega : i ≤ K.length), kd_len]; omega), List.take_take, Nat.min_self, tk_l (by
    rw [List.length_append, kt_len K (by omega : i ≤ K.length), kd_len]; omega)]
  unfold cutN
  rw [keV_app]
  rfl
end Go.Proofs.YtkiijdcpfbnacaaGreatDoor
