/-
  The reference's At and Find of a certificate; what is found first is what is found last, since addresses rise. Conditions: lengths fit.
-/
import Derived.Test.YtednnfmomhallaaCf1
import Derived.Test.YtednnfmomhallaaCe4
namespace Go.Proofs.Ytednnfmomhallaa
open Go.RowKit

def fstD : List En → Int → En × Bool
  | [], _ => (enZ, false)
  | x :: l, a => if x.at_ = a then (x, true) else fstD l a
theorem results_cell_tmp1 {fn : Func} {p u : Tmp} {ty : TypeId} (h : fn.results = #[.cell p ty, .tmp u]) (tmps : Array Value) (P : Program) (w : World) :
    (results fn tmps).run P w = ((asAddr (tmps.getD p undef)).run P w).andThen fun a w₁ => ((loadVar ty a).run P w₁).andThen fun x w₂ => .ok (.tuple #[x, tmps.getD u undef]) w₂ := by
  simp only [results, h]
  simp [Sem.run_bind, Result.andThen]
theorem results_en2 {fn : Func} {p u : Tmp} (h : fn.results = #[.cell p 42, .tmp u]) (tmps : Array Value) (W : World) (g : Nat) (x : En) (hx : FrOk x.fr) (hp : tmps.getD p undef = .pointer (some ⟨g, 0, none⟩)) (hg : EAt W g x) :
    (results fn tmps).run Try.prog W = .ok (.tuple #[.agg (enA x), tmps.getD u undef]) W := by
  rw [results_cell_tmp1 h, hp, run_addr, Result.andThen_ok, run_loadVar_row W g 42 42 (enA x) (0, 0) _ hg Try.underlying42 rfl (sizeEn hx), Result.andThen_ok]

theorem cd_head {L : List UInt8} {lo n : Nat} (h : (cdE L lo n).2 = 0) : (hdE L).2 = 0 := by
  unfold cdE at h
  by_cases hh : (hdE L).2 = 0
  · exact hh
  · rw [if_pos hh] at h
    exact h
theorem cdS_len {L : List UInt8} {lo n : Nat} (hn4 : wdD L 4 = n) : (cdS L lo n).length ≤ 4096 := by
  unfold cdS
  split
  · rename_i h
    have h1 := (mkE_good 3 0 (cd_head h)).2.2
    have h2 := tol_len (L := L) (lo := lo) n 6 (-1)
    unfold enS
    rw [List.length_map]
    omega
  · simp
/-- Addresses rise. -/
theorem tol_rise {L : List UInt8} {lo : Nat} : ∀ (n p : Nat) (ahead : Int), (∀ a ∈ (tolD L lo n p ahead).1, ahead < a.1.at_) ∧ (tolD L lo n p ahead).1.Pairwise (fun a b => a.1.at_ < b.1.at_)
  | 0, p, ahead => by rw [tol_end]; exact ⟨(fun a ha => by cases ha), List.Pairwise.nil⟩
  | n + 1, p, ahead => by
    by_cases he : (oneE L lo p ahead).2 = 0
    · rw [tol_good he]
      obtain ⟨h1, h2⟩ := tol_rise (L := L) (lo := lo) n (oneN L lo p) (oneX L lo p).at_
      have h3 : ahead < (oneX L lo p).at_ := by
        have h4 : aftD (wdD L p) ahead = 0 := by
          refine Decidable.byContradiction fun h4 => ?_
          by_cases hle : L.length < p + 2
          · rw [oneE, if_pos hle] at he
            simp at he
          · rw [oneE, if_neg hle, if_pos h4] at he
            exact h4 he
        have h5 : (oneX L lo p).at_ = wdD L p := by unfold oneX; split <;> rfl
        rw [h5]
        unfold aftD at h4
        split at h4
        · omega
        · split at h4
          · omega
          · split at h4
            · omega
            · omega
      exact ⟨fun a ha => by
        rcases List.mem_cons.1 ha with rfl | ha
        · exact h3
        · exact Int.lt_trans h3 (h1 a ha), List.Pairwise.cons (fun a ha => h1 a ha) h2⟩
    · rw [tol_bad he]
      exact ⟨(fun a ha => by cases ha), List.Pairwise.nil⟩
theorem fold_none {at_ : Int} : ∀ (A : List (En × Nat)) (acc : En × Bool), (∀ a ∈ A, a.1.at_ ≠ at_) → (ysA A).foldl (fun acc y => if y.1.at_ = at_ then (y.1, true) else acc) acc = acc
  | [], _, _ => rfl
  | a :: A, acc, h => by
    show (ysA A).foldl _ (if a.1.at_ = at_ then (a.1, true) else acc) = acc
    rw [if_neg (h a (List.mem_cons_self ..))]
    exact fold_none A acc (fun b hb => h b (List.mem_cons_of_mem _ hb))
theorem fold_first {at_ : Int} : ∀ (A : List (En × Nat)), A.Pairwise (fun a b => a.1.at_ < b.1.at_) → fndY at_ (ysA A) = fstD (enS A) at_
  | [], _ => rfl
  | a :: A, h => by
    obtain ⟨h1, h2⟩ := List.pairwise_cons.1 h
    show (ysA A).foldl _ (if a.1.at_ = at_ then (a.1, true) else (enZ, false)) = (if a.1.at_ = at_ then (a.1, true) else fstD (enS A) at_)
    by_cases hat : a.1.at_ = at_
    · rw [if_pos hat, if_pos hat]
      exact fold_none A _ (fun b hb => by have := h1 b hb; omega)
    · rw [if_neg hat, if_neg hat]
      exact fold_first A h2
theorem fnd_same (L : List UInt8) (lo n : Nat) (at_ : Int) : fndR L lo n at_ = (fstD (cdS L lo n) at_, (cdE L lo n).2) := by
  unfold fndR
  by_cases hh : (hdE L).2 = 0
  · rw [if_neg (by omega)]
    by_cases he : (tolD L lo n 6 (-1)).2.2 = 0
    · have hc : cdE L lo n = (0, 0) := by unfold cdE; rw [if_neg (by omega), if_neg (by omega)]
      rw [if_neg (by omega), hc, fold_first _ (tol_rise n 6 (-1)).2]
      unfold cdS
      rw [hc, if_pos rfl]
    · have hc : cdE L lo n = (tolD L lo n 6 (-1)).2 := by unfold cdE; rw [if_neg (by omega), if_pos he]
      rw [if_pos he, hc]
      unfold cdS
      rw [hc, if_neg he]
      rfl
  · have hc : cdE L lo n = hdE L := by unfold cdE; rw [if_pos hh]
    rw [if_pos hh, hc]
    unfold cdS
    rw [hc, if_neg hh]
    rfl
theorem fst_ok {at_ : Int} : ∀ {l : List En}, EsOk l → FrOk (fstD l at_).1.fr
  | [], _ => enZ_ok
  | x :: l, h => by
    unfold fstD
    split
    · exact h x (List.mem_cons_self ..)
    · exact fst_ok (fun y hy => h y (List.mem_cons_of_mem _ hy))

end Go.Proofs.Ytednnfmomhallaa
