/-
  For every input the law StepMonotone returns true, and what was handed in reads as before. No condition: the row's own (each slice and string takes at most 2^47 - 4096 bytes) alone.
-/
import Derived.Test.YtkodmpcnndbngaaGreatDoorShell
import Derived.Test.YtkodmpcnndbngaaGreatDoorKRdEv
import Derived.Test.YtkodmpcnndbngaaGreatDoorRdIn
import Derived.Test.YtkodmpcnndbngaaGreatDoorKRdFr
import Derived.Test.YtkodmpcnndbngaaGreatDoorKOpenedTW
import Derived.Test.YtkodmpcnndbngaaGreatDoorCards
import Derived.Test.YtkodmpcnndbngaaGreatDoorTie
import Derived.SevenTiedAt
import Derived.Test.YtkodmpcnndbngaaGreatDoorKWalkStepMonotone
namespace Go.Proofs.YtkodmpcnndbngaaGreatDoor.stepMonotone
open Go.ChangeShapes Go.WideShapes Go.ChangeAt Go.RowKit
open Go.ChangeMaps (open_string shut_string)
set_option linter.unusedVariables false

theorem own : ownKnob Tryz.prog.godebug = none := by kernel_rfl
theorem laidOut : laidOutB Tryz.prog = true := by kernel_rfl
theorem bytes8 : Tryz.prog.bytesOf 5 = 1 := by kernel_rfl

set_option maxRecDepth 100000 in
theorem lifted (os : Os) (started : os.Started) (H : Type) (enc : TypeId × Value → H) :
    ReturnsInHanded {} Tryz.checked os 4 .any (fun w args => (Rows.stepMonotoneSpec.pre enc Tryz.prog Tryz.f4 [] false w args ∧ laidMetH Tryz.prog Rows.stepMonotoneRow.laid w) ∧ sizedMet enc Tryz.prog Tryz.f4 (OpenSpec.ofChange Rows.stepMonotoneSpec) false w args)
      (Rows.stepMonotoneSpec.post enc Tryz.prog Tryz.f4 false true false false) := by
  refine returnsInHanded_of_change_and (C := Tryz.checked) (X := fun w _ => laidMetH Tryz.prog Rows.stepMonotoneRow.laid w) (fun _ _ _ hh h => h.of_heap hh) own started (by kernel_rfl) Tryz.func4
    (ChangeSpec.witness_shaped (enc := enc) (C := Tryz.checked) (os := os) (X := fun w _ => laidMetH Tryz.prog Rows.stepMonotoneRow.laid w) false (World.doorLaid Tryz.prog 400 os) #[.agg #[.slice none 0 0, .slice none 0 0, .int .i64 0], .agg #[.int .i64 0, .int .i64 0, .int .u8 0, .int .u8 0, .int .u8 0, .int .u8 0, .int .u8 0, .int .u8 0, .int .u8 0, .int .u8 0, .int .u8 0, .int .u8 0, .int .u8 0, .int .u8 0, .int .u8 0, .int .u8 0, .int .u8 0, .int .u8 0, .int .u8 0, .int .u8 0, .int .u8 0, .int .u8 0, .int .u8 0, .int .u8 0, .int .u8 0, .int .u8 0], .agg #[.int .i64 0, .int .i64 0, .int .u8 0, .int .u8 0, .int .u8 0, .int .u8 0, .int .u8 0, .int .u8 0, .int .u8 0, .int .u8 0, .int .u8 0, .int .u8 0, .int .u8 0, .int .u8 0, .int .u8 0, .int .u8 0, .int .u8 0, .int .u8 0, .int .u8 0, .int .u8 0, .int .u8 0, .int .u8 0, .int .u8 0, .int .u8 0, .int .u8 0, .int .u8 0], .agg #[.int .i64 0, .int .u8 0, .int .i64 0, .int .i64 0]] 8 rfl (World.shaped_of_RefB (by kernel_rfl) (by kernel_rfl)) (by kernel_rfl) (by kernel_rfl) (by kernel_rfl) (door_metTW os _)) ?_
  intro W base args ds gs before hval0 hW hcnd hsz0 hL _
  have hsz : (DataW.weightsEach Tryz.prog (Tryz.f4.params.toList ++ Rows.stepMonotoneSpec.plain.varTypes Tryz.prog) (ds ++ gs)).all (· ≤ reachBytes) = true := hsz0
  have hval : ∀ (j : Nat) t v, Tryz.f4.params[j]? = some t → args[j]? = some v → Value.okWide Tryz.prog W .any base t v := hval0
  have hW' := hW
  obtain ⟨p, q, hA0, hV, rfl, hfz, hnd⟩ := hW
  have hA : DataW.TrodAll enc Tryz.prog W 0 (fun _ => true) true Tryz.f4.params.toList args.toList ds p := hA0
  rw [Tryz.params4] at hA hval hsz
  obtain ⟨v0, vs0, d0, ds0, p0, q0, hargs, rfl, rfl, h0, r0⟩ := trodAll_cons hA
  obtain ⟨v1, vs1, d1, ds1, p1, q1, rfl, rfl, rfl, h1, r1⟩ := trodAll_cons r0
  obtain ⟨v2, vs2, d2, ds2, p2, q2, rfl, rfl, rfl, h2, r2⟩ := trodAll_cons r1
  obtain ⟨v3, vs3, d3, ds3, p3, q3, rfl, rfl, rfl, h3, r3⟩ := trodAll_cons r2
  obtain ⟨rfl, rfl, rfl⟩ := trodAll_nil r3
  obtain rfl : args = #[v0, v1, v2, v3] := by cases args; simp_all
  obtain ⟨rfl, rfl⟩ := trodVars_none hV
  obtain ⟨cs0, rfl, hcs0⟩ := okWide_struct Tryz.underlying25 (hval 0 25 v0 rfl rfl)
  have k0 := h0
  have lt0 : ∀ x ∈ p0, x.block < W.heap.size := by obtain ⟨m, hm⟩ := k0; exact DataW.trod_lt m _ _ _ hm
  have rd0 : Rd W 25 cs0.toList := by
    obtain ⟨fuel, hf⟩ := h0
    refine ⟨H, enc, fuel, _, hf, fun n hn => ?_⟩
    have := List.all_eq_true.1 hsz n (DataW.weights_mem_each (j := 0) (t := 25) rfl rfl n hn)
    exact of_decide_eq_true this
  have hl0 : cs0.toList.length = 3 := by
    have hc : Tryz.prog.cellsOf 25 = 3 := by kernel_rfl
    rw [hc] at hcs0
    simpa using hcs0
  obtain ⟨ao, cap, T, so, sc, L, fn, e0, gT, gz, gS, gzl⟩ := rd0.env hl0
  obtain rfl : cs0 = #[.slice ao T.length cap, .slice so L.length sc, .int .i64 fn] := by
    have := congrArg List.toArray e0
    simpa using this
  obtain ⟨cs1, rfl, hcs1⟩ := okWide_struct Tryz.underlying29 (hval 1 29 v1 rfl rfl)
  have k1 := h1
  have lt1 : ∀ x ∈ p1, x.block < W.heap.size := by obtain ⟨m, hm⟩ := k1; exact DataW.trod_lt m _ _ _ hm
  have rd1 : Rd W 29 cs1.toList := by
    obtain ⟨fuel, hf⟩ := h1
    refine ⟨H, enc, fuel, _, hf, fun n hn => ?_⟩
    have := List.all_eq_true.1 hsz n (DataW.weights_mem_each (j := 1) (t := 29) rfl rfl n hn)
    exact of_decide_eq_true this
  have hl1 : cs1.toList.length = 26 := by
    have hc : Tryz.prog.cellsOf 29 = 26 := by kernel_rfl
    rw [hc] at hcs1
    simpa using hcs1
  obtain ⟨fr1, e1, of1⟩ := rd1.frame hl1
  obtain rfl : cs1 = frA fr1 := by
    have := congrArg List.toArray e1
    simpa [frA] using this
  obtain ⟨cs2, rfl, hcs2⟩ := okWide_struct Tryz.underlying29 (hval 2 29 v2 rfl rfl)
  have k2 := h2
  have lt2 : ∀ x ∈ p2, x.block < W.heap.size := by obtain ⟨m, hm⟩ := k2; exact DataW.trod_lt m _ _ _ hm
  have rd2 : Rd W 29 cs2.toList := by
    obtain ⟨fuel, hf⟩ := h2
    refine ⟨H, enc, fuel, _, hf, fun n hn => ?_⟩
    have := List.all_eq_true.1 hsz n (DataW.weights_mem_each (j := 2) (t := 29) rfl rfl n hn)
    exact of_decide_eq_true this
  have hl2 : cs2.toList.length = 26 := by
    have hc : Tryz.prog.cellsOf 29 = 26 := by kernel_rfl
    rw [hc] at hcs2
    simpa using hcs2
  obtain ⟨fr2, e2, of2⟩ := rd2.frame hl2
  obtain rfl : cs2 = frA fr2 := by
    have := congrArg List.toArray e2
    simpa [frA] using this
  obtain ⟨cs3, rfl, hcs3⟩ := okWide_struct Tryz.underlying31 (hval 3 31 v3 rfl rfl)
  have k3 := h3
  have lt3 : ∀ x ∈ p3, x.block < W.heap.size := by obtain ⟨m, hm⟩ := k3; exact DataW.trod_lt m _ _ _ hm
  have rd3 : Rd W 31 cs3.toList := by
    obtain ⟨fuel, hf⟩ := h3
    refine ⟨H, enc, fuel, _, hf, fun n hn => ?_⟩
    have := List.all_eq_true.1 hsz n (DataW.weights_mem_each (j := 3) (t := 31) rfl rfl n hn)
    exact of_decide_eq_true this
  have hl3 : cs3.toList.length = 4 := by
    have hc : Tryz.prog.cellsOf 31 = 4 := by kernel_rfl
    rw [hc] at hcs3
    simpa using hcs3
  obtain ⟨p, op, a, b, e3, ho, ga, gb⟩ := rd3.instr hl3
  obtain rfl : cs3 = #[.int .i64 p, .int .u8 (op : Int), .int .i64 a, .int .i64 b] := by
    have := congrArg List.toArray e3
    simpa using this
  clear hA0 hval0
  refine (walkStepMonotone (of_laidTW hL) ao cap T so sc L fn gT gz gS gzl fr1 of1 fr2 of2 p op a b ho ga gb).mono fun e W' ⟨he, bel⟩ => ?_
  subst he
  exact ⟨_, rfl, _, _, _, [], _, [], hW', trodAll_mk1 (shut_bool Tryz.underlying4 _), (trodAll_cons_mk (Below.trod laidOut (by kernel_rfl) (of_decide_eq_true (by kernel_rfl)) k0 bel lt0) (trodAll_cons_mk (Below.trod laidOut (by kernel_rfl) (of_decide_eq_true (by kernel_rfl)) k1 bel lt1) (trodAll_cons_mk (Below.trod laidOut (by kernel_rfl) (of_decide_eq_true (by kernel_rfl)) k2 bel lt2) (trodAll_cons_mk (Below.trod laidOut (by kernel_rfl) (of_decide_eq_true (by kernel_rfl)) k3 bel lt3) trodAll_mk0)))), rfl, bel.frame _, fun h => by cases h⟩

theorem over : Rows.stepMonotoneRow.holds Tryz.pinned (OpenSpec.ofChange Rows.stepMonotoneSpec) :=
  OpenClaim.holds_of_wide 4 Tryz.f4 rfl rfl rfl rfl rfl rfl rfl ⟨rfl, rfl, rfl, rfl, rfl⟩ rfl rfl rfl rfl rfl (by kernel_rfl) Tryz.func4 (by kernel_rfl)
    (of_decide_eq_true (by kernel_rfl)) (by unfold Func.isWrapper; first | (rw [if_pos (by decide +kernel)]; kernel_rfl) | (rw [if_neg (by decide +kernel)]; exact ⟨rfl, rfl⟩))
    (fun os started H enc _ => lifted os started H enc)
end Go.Proofs.YtkodmpcnndbngaaGreatDoor.stepMonotone

namespace Go.Proofs.YtkodmpcnndbngaaGreatDoor
theorem stepMonotone_row : Rows.StepMonotoneSaid := stepMonotone.over
theorem stepMonotone_holds : Rows.StepMonotoneCardSaid :=
  Claim7.holds_tied_plain_at .later [] [.data, .data] true (true, "47ddf1dad8b5cbae8b08a107cec19103a9b72915b7c3ca20dcf6434b8ce82058") false
    stepMonotone_row (fun _ h => by cases h) (by kernel_rfl) (fun _ h => by cases h) stepMonotone_row_tie rfl ⟨rfl, rfl⟩ (by kernel_rfl) rfl
    (fun f fn hf hfn => by
      obtain rfl : f = 4 := Option.some.inj ((show Tryz.prog.funcNamed "proviso/provisolaw07.StepMonotone" = some 4 by kernel_rfl).symm.trans hf) |>.symm
      obtain rfl : fn = Tryz.f4 := (Option.some.inj (Tryz.func4.symm.trans hfn)).symm
      exact ⟨by kernel_rfl, fun j t ht => by
        rw [Tryz.params4] at ht
        have hm : t ∈ [25, 29, 29, 31] := by simpa using Array.mem_of_getElem? ht
        have hall : ([25, 29, 29, 31].all fun u => !Tryz.prog.wantsStandIn u) = true := by kernel_rfl
        exact (show Tryz.prog.wantsStandIn t = false by simpa using List.all_eq_true.1 hall t hm)⟩)
    (by kernel_rfl)
#print axioms stepMonotone_holds
end Go.Proofs.YtkodmpcnndbngaaGreatDoor
