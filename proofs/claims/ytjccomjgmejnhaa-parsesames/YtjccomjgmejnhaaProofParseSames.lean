/-
  For every input the law ParseSames returns true, and what was handed in reads as before. No condition: the row's own (each slice and string takes at most 2^47 - 4096 bytes) alone.
-/
import Derived.Test.YtjccomjgmejnhaaShell
import Derived.Test.YtjccomjgmejnhaaKWalkParseSames
namespace Go.Proofs.Ytjccomjgmejnhaa.parseSames
open Go.ChangeShapes Go.WideShapes Go.ChangeAt Go.RowKit
open Go.ChangeMaps (open_string shut_string)
set_option linter.unusedVariables false

theorem own : ownKnob Try.prog.godebug = none := by kernel_rfl
theorem laidOut : laidOutB Try.prog = true := by kernel_rfl
theorem bytes8 : Try.prog.bytesOf 5 = 1 := by kernel_rfl

set_option maxRecDepth 100000 in
theorem lifted (os : Os) (started : os.Started) (H : Type) (enc : TypeId × Value → H) :
    ReturnsInHanded {} Try.checked os 3 .any (Rows.parseSamesSpec.pre6 enc Try.prog Try.f3 Rows.parseSamesRow.domain false) (Rows.parseSamesSpec.post enc Try.prog Try.f3 false true false false) := by
  refine returnsInHanded_of_change_sized (C := Try.checked) own started (by kernel_rfl) Try.func3
    (ChangeSpec.witness6 (enc := enc) (C := Try.checked) false ⟨#[], #[.agg #[.slice none 0 0, .slice none 0 0], .agg #[.slice none 0 0, .slice none 0 0]], []⟩ 8 (by kernel_rfl) (by kernel_rfl) (by kernel_rfl) (by kernel_rfl)) ?_
  intro W base args ds gs before hval0 hW hcnd hsz0 _
  have hsz : (DataW.weightsEach Try.prog (Try.f3.params.toList ++ Rows.parseSamesSpec.plain.varTypes Try.prog) (ds ++ gs)).all (· ≤ reachBytes) = true := hsz0
  have hval : ∀ (j : Nat) t v, Try.f3.params[j]? = some t → args[j]? = some v → Value.okWide Try.prog W .any base t v := hval0
  have hW' := hW
  obtain ⟨p, q, hA0, hV, rfl, hfz, hnd⟩ := hW
  have hA : DataW.TrodAll enc Try.prog W 0 (fun _ => true) true Try.f3.params.toList args.toList ds p := hA0
  rw [Try.params3] at hA hval hsz
  obtain ⟨v0, vs0, d0, ds0, p0, q0, hargs, rfl, rfl, h0, r0⟩ := trodAll_cons hA
  obtain ⟨v1, vs1, d1, ds1, p1, q1, rfl, rfl, rfl, h1, r1⟩ := trodAll_cons r0
  obtain ⟨rfl, rfl, rfl⟩ := trodAll_nil r1
  obtain rfl : args = #[v0, v1] := by cases args; simp_all
  obtain ⟨rfl, rfl⟩ := trodVars_none hV
  obtain ⟨cs0, rfl, hcs0⟩ := okWide_struct Try.underlying25 (hval 0 25 v0 rfl rfl)
  have k0 := h0
  have lt0 : ∀ x ∈ p0, x.block < W.heap.size := by obtain ⟨m, hm⟩ := k0; exact DataW.trod_lt m _ _ _ hm
  have rd0 : Rd W 25 cs0.toList := by
    obtain ⟨fuel, hf⟩ := h0
    refine ⟨H, enc, fuel, _, hf, fun n hn => ?_⟩
    have := List.all_eq_true.1 hsz n (DataW.weights_mem_each (j := 0) (t := 25) rfl rfl n hn)
    exact of_decide_eq_true this
  have hl0 : cs0.toList.length = 2 := by
    have hc : Try.prog.cellsOf 25 = 2 := by kernel_rfl
    rw [hc] at hcs0
    simpa using hcs0
  obtain ⟨a, e0, ha⟩ := rd0.program hl0
  obtain rfl : cs0 = #[.slice a.ra a.R.length a.rc, .slice a.ua a.U.length a.uc] := by
    have := congrArg List.toArray e0
    simpa using this
  obtain ⟨cs1, rfl, hcs1⟩ := okWide_struct Try.underlying25 (hval 1 25 v1 rfl rfl)
  have k1 := h1
  have lt1 : ∀ x ∈ p1, x.block < W.heap.size := by obtain ⟨m, hm⟩ := k1; exact DataW.trod_lt m _ _ _ hm
  have rd1 : Rd W 25 cs1.toList := by
    obtain ⟨fuel, hf⟩ := h1
    refine ⟨H, enc, fuel, _, hf, fun n hn => ?_⟩
    have := List.all_eq_true.1 hsz n (DataW.weights_mem_each (j := 1) (t := 25) rfl rfl n hn)
    exact of_decide_eq_true this
  have hl1 : cs1.toList.length = 2 := by
    have hc : Try.prog.cellsOf 25 = 2 := by kernel_rfl
    rw [hc] at hcs1
    simpa using hcs1
  obtain ⟨b, e1, hb⟩ := rd1.program hl1
  obtain rfl : cs1 = #[.slice b.ra b.R.length b.rc, .slice b.ua b.U.length b.uc] := by
    have := congrArg List.toArray e1
    simpa using this
  clear hA0 hval0
  refine (walkParseSames a ha b hb).mono fun e W' ⟨he, bel⟩ => ?_
  subst he
  exact ⟨_, rfl, _, _, _, [], _, [], hW', trodAll_mk1 (shut_bool Try.underlying4 _), (trodAll_cons_mk (Below.trod laidOut (by kernel_rfl) (of_decide_eq_true (by kernel_rfl)) k0 bel lt0) (trodAll_cons_mk (Below.trod laidOut (by kernel_rfl) (of_decide_eq_true (by kernel_rfl)) k1 bel lt1) trodAll_mk0)), rfl, bel.frame _, fun h => by cases h⟩

theorem over : Rows.parseSamesRow.holds Try.pinned (OpenSpec.ofChange Rows.parseSamesSpec) :=
  OpenClaim.holds_of_wide 3 Try.f3 rfl rfl rfl rfl rfl rfl rfl ⟨rfl, rfl, rfl, rfl, rfl⟩ rfl rfl rfl rfl rfl (by kernel_rfl) Try.func3 (by kernel_rfl)
    (of_decide_eq_true (by kernel_rfl)) (by unfold Func.isWrapper; first | (rw [if_pos (by decide +kernel)]; kernel_rfl) | (rw [if_neg (by decide +kernel)]; exact ⟨rfl, rfl⟩))
    (fun os started H enc _ => lifted os started H enc)
end Go.Proofs.Ytjccomjgmejnhaa.parseSames

namespace Go.Proofs.Ytjccomjgmejnhaa
theorem parseSames_holds : Rows.ParseSamesSaid := parseSames.over
#print axioms parseSames_holds
end Go.Proofs.Ytjccomjgmejnhaa
