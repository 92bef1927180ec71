/-
  The contract of provisolaw03.table: whether the table may be; and a table's copy answers alike of frames. Conditions: the table fits.
-/
import Derived.Test.YtelbajcfdecaoaaDoorT02d
import Derived.Test.YtelbajcfdecaoaaDoorFrN
import Derived.Test.YtelbajcfdecaoaaDoorSameT
namespace Go.Proofs.YtelbajcfdecaoaaDoor
open Go.RowKit
set_option maxRecDepth 20000

theorem table_any (ao : Option Addr) (cap : Nat) (T : List Cl) (w : World) (h : TabAt w ao T) (hT : T.length * 48 ≤ 140737488351232) :
    Calls Tryd.prog 9 #[.slice ao T.length cap] w fun e w' => e = .returned (.bool (madeD T)) ∧ Below w.heap.size w w' := by
  go_enter Tryd.func9, Tryd.ntmps9
  go_wp2_with fail
  refine (refCheck_any ao cap T _ h hT).mono ?_
  rintro e w2 ⟨⟨n, er, rfl, hr⟩, hB⟩
  have HR : Hid (madeD T = (er == 0)) := hide (by
    rcases hr with ⟨_, rfl, h⟩ | h
    · rw [h]; rfl
    · rw [madeD_no h.one.1 (by rw [h.one.2.2]; exact h.one.2.1), beq_f h.one.2.1])
  clear hr
  go_wp2
  go_ret
  exact ⟨ret_bool (unhide HR).symm, hB⟩
theorem SameT.mergeTo {T G : List Cl} (h : SameT T G) (l m : List Nat) : ∀ k, mergeTo G l m k = mergeTo T l m k
  | 0 => rfl
  | k + 1 => by unfold Proofs.YtelbajcfdecaoaaDoor.mergeTo; rw [h.mergeTo l m k, h.merge]
theorem SameT.mergeF {T G : List Cl} (h : SameT T G) (a b : Fr) : mergeF G a b = mergeF T a b := by
  unfold Proofs.YtelbajcfdecaoaaDoor.mergeF
  rw [h.1, h.mergeTo]
theorem SameT.subF {T G : List Cl} (h : SameT T G) (a b : Fr) : subF G a b = subF T a b := by
  unfold Proofs.YtelbajcfdecaoaaDoor.subF
  rw [h.mergeF]
theorem frEq_refl (f : Fr) : frEq f f = true := frEq_iff.2 rfl
theorem neq_self {f : Fr} (hf : FrOk f) (w : World) : (binOp .neq 26 (.agg (frA f)) (.agg (frA f))).run Tryd.prog w = .ok (.bool false) w := by rw [run_neqFr w hf hf, frEq_refl]; rfl
theorem eql_self {f : Fr} (hf : FrOk f) (w : World) : (binOp .eql 26 (.agg (frA f)) (.agg (frA f))).run Tryd.prog w = .ok (.bool true) w := by rw [run_eqlFr w hf hf, frEq_refl]
end Go.Proofs.YtelbajcfdecaoaaDoor
