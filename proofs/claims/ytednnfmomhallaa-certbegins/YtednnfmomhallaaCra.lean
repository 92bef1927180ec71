/-
  The contract of provisoref06.One. Conditions: lengths fit.
-/
import Derived.Test.YtednnfmomhallaaCr6
import Derived.Test.YtednnfmomhallaaCr9
import Derived.Deep.Cut
namespace Go.Proofs.Ytednnfmomhallaa
open Go.RowKit

def oneV (L : List UInt8) (lo p : Nat) (ahead : Int) : Value := if (oneE L lo p ahead).2 = 0 then .tuple #[.agg (enA (oneX L lo p)), .int .i64 (oneN L lo p : Int), .int .i64 0] else .tuple #[.agg (enA enZ), .int .i64 ((oneE L lo p ahead).1 : Int), .int .i64 (oneE L lo p ahead).2]
theorem oneV_bad {L : List UInt8} {lo p : Nat} {ahead : Int} {x : Nat} {e : Int} (h : oneE L lo p ahead = (x, e)) (he : e ≠ 0) : oneV L lo p ahead = .tuple #[.agg (enA enZ), .int .i64 (x : Int), .int .i64 e] := by
  unfold oneV
  rw [h, if_neg he]
theorem oneV_good {L : List UInt8} {lo p : Nat} {ahead : Int} (h : (oneE L lo p ahead).2 = 0) : oneV L lo p ahead = .tuple #[.agg (enA (oneX L lo p)), .int .i64 (oneN L lo p : Int), .int .i64 0] := by
  unfold oneV
  rw [if_pos h]
theorem results_en_v3 {fn : Func} {p u v : Tmp} (h : fn.results = #[.cell p 42, .tmp u, .tmp v]) (tmps : Array Value) (W : World) (g : Nat) (x : En) (hx : FrOk x.fr) (a b : Value)
    (hp : tmps.getD p undef = .pointer (some ⟨g, 0, none⟩)) (hu : tmps.getD u undef = a) (hv : tmps.getD v undef = b) (hg : EAt W g x) :
    (results fn tmps).run Try.prog W = .ok (.tuple #[.agg (enA x), a, b]) W := by
  rw [results_cell_tmp2 h, hp, hu, hv, run_addr, Result.andThen_ok, run_loadVar_row W g 42 42 (enA x) (0, 0) _ hg Try.underlying42 rfl (sizeEn hx), Result.andThen_ok]

theorem fold_set : ∀ (vs old pre : List Value) (k : Nat), old.length = vs.length → pre.length = 2 + k → (vs.zipIdx k).foldl (fun cs x => cs.setIfInBounds (2 + x.2) x.1) (pre ++ old).toArray = (pre ++ vs).toArray
  | [], old, pre, k, hl, _ => by
    have : old = [] := List.eq_nil_of_length_eq_zero hl
    subst this
    rfl
  | v :: vs, [], pre, k, hl, _ => by simp at hl
  | v :: vs, u :: old, pre, k, hl, hp => by
    rw [List.zipIdx_cons, List.foldl_cons]
    have e1 : (pre ++ u :: old).toArray.setIfInBounds (2 + k) v = ((pre ++ [v]) ++ old).toArray := by rw [← hp]; simp
    rw [e1, fold_set vs old (pre ++ [v]) (k + 1) (by simpa using hl) (by simp [hp]; omega)]
    simp
theorem build_fold (a : Int) {f : Fr} (hf : FrOk f) : Array.foldl (fun cs (x : Value × Nat) => cs.setIfInBounds (2 + x.snd) x.fst) (#[.int .i64 a, .bool false, .int .i64 0, .int .i64 0, .int .u8 0, .int .u8 0, .int .u8 0, .int .u8 0, .int .u8 0, .int .u8 0, .int .u8 0, .int .u8 0, .int .u8 0, .int .u8 0, .int .u8 0, .int .u8 0, .int .u8 0, .int .u8 0, .int .u8 0, .int .u8 0, .int .u8 0, .int .u8 0, .int .u8 0, .int .u8 0, .int .u8 0, .int .u8 0, .int .u8 0, .int .u8 0] : Array Value) (frA f).zipIdx 0 26 = enA ⟨a, false, f⟩ := by
  have hz : ((frA f).zipIdx).size = 26 := by simp [frA_size hf]
  have h1 : Array.foldl (fun cs (x : Value × Nat) => cs.setIfInBounds (2 + x.snd) x.fst) (#[.int .i64 a, .bool false, .int .i64 0, .int .i64 0, .int .u8 0, .int .u8 0, .int .u8 0, .int .u8 0, .int .u8 0, .int .u8 0, .int .u8 0, .int .u8 0, .int .u8 0, .int .u8 0, .int .u8 0, .int .u8 0, .int .u8 0, .int .u8 0, .int .u8 0, .int .u8 0, .int .u8 0, .int .u8 0, .int .u8 0, .int .u8 0, .int .u8 0, .int .u8 0, .int .u8 0, .int .u8 0] : Array Value) (frA f).zipIdx 0 26 = Array.foldl (fun cs (x : Value × Nat) => cs.setIfInBounds (2 + x.snd) x.fst) (#[.int .i64 a, .bool false, .int .i64 0, .int .i64 0, .int .u8 0, .int .u8 0, .int .u8 0, .int .u8 0, .int .u8 0, .int .u8 0, .int .u8 0, .int .u8 0, .int .u8 0, .int .u8 0, .int .u8 0, .int .u8 0, .int .u8 0, .int .u8 0, .int .u8 0, .int .u8 0, .int .u8 0, .int .u8 0, .int .u8 0, .int .u8 0, .int .u8 0, .int .u8 0, .int .u8 0, .int .u8 0] : Array Value) (frA f).zipIdx := by rw [hz]
  rw [h1, ← Array.foldl_toList, Array.toList_zipIdx]
  exact fold_set (frL f) (frL frZ) [.int .i64 a, .bool false] 0 (by rw [frL_len hf, frL_len frZ_ok]) rfl

end Go.Proofs.Ytednnfmomhallaa
