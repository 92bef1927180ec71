/-
  For every input the law StoreTorn returns true, and what was handed in reads as before. Condition: the second form's (what came in holds at most 1048576 values and letters).
-/
import Derived.Deep.CondSized
import Derived.Test.YtkcnkfhdbjiggaaShell
import Derived.Test.YtkcnkfhdbjiggaaKRdCu
import Derived.Test.YtkcnkfhdbjiggaaRdDo
import Derived.Test.YtkcnkfhdbjiggaaKWalkStoreTorn
namespace Go.Proofs.Ytkcnkfhdbjiggaa.storeTornUpto
open Go.ChangeShapes Go.WideShapes Go.ChangeAt Go.RowKit
open Go.ChangeMaps (open_string shut_string)
set_option linter.unusedVariables false

theorem own : ownKnob Try.prog.godebug = none := by kernel_rfl
theorem laidOut : laidOutB Try.prog = true := by kernel_rfl
theorem bytes8 : Try.prog.bytesOf 5 = 1 := by kernel_rfl

set_option maxRecDepth 100000 in
theorem lifted (os : Os) (started : os.Started) (H : Type) (enc : TypeId × Value → H) (F : Stop.Interp) :
    ReturnsInHanded {} Try.checked os 4 .any ((Rows.OpenSpec.upto Rows.storeTornSpec).pre6 enc Try.prog Try.f4 Rows.storeTornUptoRow.domain false) (((Rows.OpenSpec.upto Rows.storeTornSpec).at F).post enc Try.prog Try.f4 false true false false) := by
  refine returnsInHanded_of_cond_sized (C := Try.checked) (s := Rows.OpenSpec.upto Rows.storeTornSpec) (k := Rows.uptoSmall) rfl own started (by kernel_rfl) Try.func4
    (OpenSpec.witness (enc := enc) (C := Try.checked) (s := Rows.OpenSpec.upto Rows.storeTornSpec) (k := Rows.uptoSmall) rfl false ⟨#[], #[.slice none 0 0, .slice none 0 0], []⟩ 8 (by kernel_rfl) (by kernel_rfl) (by kernel_rfl)
      (x := ([.nil, .nil], [], [])) (by kernel_rfl) rfl (by kernel_rfl)) ?_
  intro W base args ds gs before hval0 hW hcnd hk0 hsz0 _
  have key : Calls Try.prog 4 args W fun e W' => ∃ v, e = .returned v ∧ Rows.storeTornSpec.post enc Try.prog Try.f4 false true false false W args v W' := by
    have hsz : (DataW.weightsEach Try.prog (Try.f4.params.toList ++ Rows.storeTornSpec.plain.varTypes Try.prog) (ds ++ gs)).all (· ≤ reachBytes) = true := hsz0
    have hval : ∀ (j : Nat) t v, Try.f4.params[j]? = some t → args[j]? = some v → Value.okWide Try.prog W .any base t v := hval0
    have hW' := hW
    obtain ⟨p, q, hA0, hV, rfl, hfz, hnd⟩ := hW
    have hA : DataW.TrodAll enc Try.prog W 0 (fun _ => true) true Try.f4.params.toList args.toList ds p := hA0
    rw [Try.params4] at hA hval hsz
    obtain ⟨v0, vs0, d0, ds0, p0, q0, hargs, rfl, rfl, h0, r0⟩ := trodAll_cons hA
    obtain ⟨v1, vs1, d1, ds1, p1, q1, rfl, rfl, rfl, h1, r1⟩ := trodAll_cons r0
    obtain ⟨rfl, rfl, rfl⟩ := trodAll_nil r1
    obtain rfl : args = #[v0, v1] := by cases args; simp_all
    obtain ⟨rfl, rfl⟩ := trodVars_none hV
    obtain ⟨a0, len0, cap0, rfl⟩ := okWide_slice Try.underlying22 (hval 0 22 v0 rfl rfl)
    have k0 := h0
    have lt0 : ∀ x ∈ p0, x.block < W.heap.size := by obtain ⟨m, hm⟩ := k0; exact DataW.trod_lt m _ _ _ hm
    have rd0 : Rd W 22 [.slice a0 len0 cap0] := by
      obtain ⟨fuel, hf⟩ := h0
      refine ⟨H, enc, fuel, _, hf, fun n hn => ?_⟩
      have := List.all_eq_true.1 hsz n (DataW.weights_mem_each (j := 0) (t := 22) rfl rfl n hn)
      exact of_decide_eq_true this
    obtain ⟨b0, c0, l0, e0, g0_0, g0_1⟩ := rd0.dos
    simp only [List.cons.injEq, Value.slice.injEq, and_true] at e0
    obtain ⟨rfl, rfl, rfl⟩ := e0
    obtain ⟨a1, len1, cap1, rfl⟩ := okWide_slice Try.underlying46 (hval 1 46 v1 rfl rfl)
    have k1 := h1
    have lt1 : ∀ x ∈ p1, x.block < W.heap.size := by obtain ⟨m, hm⟩ := k1; exact DataW.trod_lt m _ _ _ hm
    have rd1 : Rd W 46 [.slice a1 len1 cap1] := by
      obtain ⟨fuel, hf⟩ := h1
      refine ⟨H, enc, fuel, _, hf, fun n hn => ?_⟩
      have := List.all_eq_true.1 hsz n (DataW.weights_mem_each (j := 1) (t := 46) rfl rfl n hn)
      exact of_decide_eq_true this
    obtain ⟨b1, c1, l1, e1, g1_0, g1_1⟩ := rd1.cuts
    simp only [List.cons.injEq, Value.slice.injEq, and_true] at e1
    obtain ⟨rfl, rfl, rfl⟩ := e1
    clear hA0 hval0
    refine (walkStoreTorn a0 cap0 l0 g0_0 g0_1 a1 cap1 l1 g1_0 g1_1).mono fun e W' ⟨he, bel⟩ => ?_
    subst he
    exact ⟨_, rfl, _, _, _, [], _, [], hW', trodAll_mk1 (shut_bool Try.underlying4 _), (trodAll_cons_mk (Below.trod laidOut (by kernel_rfl) (of_decide_eq_true (by kernel_rfl)) k0 bel lt0) (trodAll_cons_mk (Below.trod laidOut (by kernel_rfl) (of_decide_eq_true (by kernel_rfl)) k1 bel lt1) trodAll_mk0)), rfl, bel.frame _, fun h => by cases h⟩
  exact key

theorem over : Rows.storeTornUptoRow.holds Try.pinned (Rows.OpenSpec.upto Rows.storeTornSpec) :=
  OpenClaim.holds_of_cond 4 Try.f4 rfl rfl rfl rfl rfl rfl rfl ⟨rfl, rfl, rfl, rfl, rfl⟩ rfl rfl rfl rfl rfl (by kernel_rfl) Try.func4 (by kernel_rfl)
    (of_decide_eq_true (by kernel_rfl)) (by unfold Func.isWrapper; first | (rw [if_pos (by decide +kernel)]; kernel_rfl) | (rw [if_neg (by decide +kernel)]; exact ⟨rfl, rfl⟩))
    (fun os started H enc _ F => lifted os started H enc F)
end Go.Proofs.Ytkcnkfhdbjiggaa.storeTornUpto

namespace Go.Proofs.Ytkcnkfhdbjiggaa
theorem storeTornUpto_holds : Rows.StoreTornUptoSaid := storeTornUpto.over
#print axioms storeTornUpto_holds
end Go.Proofs.Ytkcnkfhdbjiggaa
