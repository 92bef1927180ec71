/-
  For every input the law LinkFrees returns true, and what was handed in reads as before. Condition: the second form's (what came in holds at most 1048576 values and letters).
-/
import Derived.Test.YtgelbihdcfgjcaaDoorShell
import Derived.Test.YtgelbihdcfgjcaaDoorKRdPt
import Derived.Test.YtgelbihdcfgjcaaDoorKOpenedW
import Derived.Test.YtgelbihdcfgjcaaDoorCards
import Derived.Test.YtgelbihdcfgjcaaDoorTie
import Derived.Test.YtgelbihdcfgjcaaDoorBulk
import Derived.SevenTiedAt
import Derived.Deep.DeepHandedRow
import Derived.Test.YtgelbihdcfgjcaaDoorKWalkLinkFrees
namespace Go.Proofs.YtgelbihdcfgjcaaDoor.linkFrees
open Go.ChangeShapes Go.WideShapes Go.ChangeAt Go.RowKit
open Go.ChangeMaps (open_string shut_string)
set_option linter.unusedVariables false

theorem own : ownKnob Tryd.prog.godebug = none := by kernel_rfl
theorem laidOut : laidOutB Tryd.prog = true := by kernel_rfl
theorem bytes8 : Tryd.prog.bytesOf 5 = 1 := by kernel_rfl

set_option maxRecDepth 100000 in
theorem lifted (os : Os) (started : os.Started) (H : Type) (enc : TypeId × Value → H) (F : Stop.Interp) :
    ReturnsInHanded {} Tryd.checked os 3 .any ((Rows.OpenSpec.upto Rows.linkFreesSpec).preRow enc Tryd.prog Tryd.f3 Rows.linkFreesUptoRow.domain false Rows.linkFreesUptoRow.laid) (((Rows.OpenSpec.upto Rows.linkFreesSpec).at F).post enc Tryd.prog Tryd.f3 false true false false) := by
  obtain ⟨places, hx⟩ : ∃ places, DataW.whole enc Tryd.prog ((World.doorLaid Tryd.prog 400 os).forCall (fun _ _ => 0) ⟨#[], #[.agg #[.string ⟨#[]⟩, .slice none 0 0, .slice none 0 0, .slice none 0 0, .slice none 0 0]], []⟩).memory Tryd.f3.params.toList (Rows.OpenSpec.upto Rows.linkFreesSpec).vars false (#[.agg #[.string ⟨#[]⟩, .slice none 0 0, .slice none 0 0, .slice none 0 0, .slice none 0 0]] : Array Value).toList 8 = some ([.agg [.agg [.lit (.string []), .nil, .nil, .nil], .nil]], [], places) := ⟨[], by kernel_rfl⟩
  refine returnsInHanded_of_row (C := Tryd.checked) (s := Rows.OpenSpec.upto Rows.linkFreesSpec) own started (by kernel_rfl) Tryd.func3
    (witness_row_at (enc := enc) (C := Tryd.checked) false (World.doorLaid Tryd.prog 400 os) #[.agg #[.string ⟨#[]⟩, .slice none 0 0, .slice none 0 0, .slice none 0 0, .slice none 0 0]] rfl (by kernel_rfl) (by kernel_rfl) (by kernel_rfl)
      (OpenSpec.preRow_of_cond 8 hx (by kernel_rfl) (fun k hk => by cases hk; kernel_rfl) (by kernel_rfl) (door_met os _))) ?_
  intro W base args ds gs before hval0 hW hcnd hcond hsz0 hL _ _
  have key : Calls Tryd.prog 3 args W fun e W' => ∃ v, e = .returned v ∧ Rows.linkFreesSpec.post enc Tryd.prog Tryd.f3 false true false false W args v W' := by
    have hsz : (DataW.weightsEach Tryd.prog (Tryd.f3.params.toList ++ Rows.linkFreesSpec.plain.varTypes Tryd.prog) (ds ++ gs)).all (· ≤ reachBytes) = true := hsz0
    have hval : ∀ (j : Nat) t v, Tryd.f3.params[j]? = some t → args[j]? = some v → Value.okWide Tryd.prog W .any base t v := hval0
    have hW' := hW
    obtain ⟨p, q, hA0, hV, rfl, hfz, hnd⟩ := hW
    have hA : DataW.TrodAll enc Tryd.prog W 0 (fun _ => true) true Tryd.f3.params.toList args.toList ds p := hA0
    rw [Tryd.params3] at hA hval hsz
    obtain ⟨v0, vs0, d0, ds0, p0, q0, hargs, rfl, rfl, h0, r0⟩ := trodAll_cons hA
    obtain ⟨rfl, rfl, rfl⟩ := trodAll_nil r0
    obtain rfl : args = #[v0] := by cases args; simp_all
    obtain ⟨rfl, rfl⟩ := trodVars_none hV
    obtain ⟨cs0, rfl, hcs0⟩ := okWide_struct Tryd.underlying29 (hval 0 29 v0 rfl rfl)
    have k0 := h0
    have lt0 : ∀ x ∈ p0, x.block < W.heap.size := by obtain ⟨m, hm⟩ := k0; exact DataW.trod_lt m _ _ _ hm
    have rd0 : RdB (Rows.uptoBulk d0) W 29 cs0.toList := by
      obtain ⟨fuel, hf⟩ := h0
      refine ⟨H, enc, fuel, _, hf, fun n hn => ?_, Nat.le_refl _⟩
      have := List.all_eq_true.1 hsz n (DataW.weights_mem_each (j := 0) (t := 29) rfl rfl n hn)
      exact of_decide_eq_true this
    have hl0 : cs0.toList.length = 5 := by
      have hc : Tryd.prog.cellsOf 29 = 5 := by kernel_rfl
      rw [hc] at hcs0
      simpa using hcs0
    obtain ⟨p, e0, hp, hq, hz⟩ := rd0.part hl0
    obtain rfl : cs0 = #[.string p.m.nm, .slice p.m.ao p.m.T.length p.m.cap, .slice p.m.fo p.m.F.length p.m.fc, .slice p.m.co p.m.C.length p.m.cc, .slice p.io p.I.length p.ic] := by
      have := congrArg List.toArray e0
      simpa using this
    have hbk : Rows.uptoBulkAll ([d0] ++ []) ≤ 1048576 := of_decide_eq_true (hcond _ rfl)
    simp only [List.append_nil, Rows.uptoBulkAll] at hbk
    clear hA0 hval0
    refine (walkLinkFrees (of_laid hL) p hp hq (by omega)).mono fun e W' ⟨he, bel⟩ => ?_
    subst he
    exact ⟨_, rfl, _, _, _, [], _, [], hW', trodAll_mk1 (shut_bool Tryd.underlying4 _), (trodAll_cons_mk (Below.trod laidOut (by kernel_rfl) (of_decide_eq_true (by kernel_rfl)) k0 bel lt0) trodAll_mk0), rfl, bel.frame _, fun h => by cases h⟩
  exact key

theorem over : Rows.linkFreesUptoRow.holds Tryd.pinned (Rows.OpenSpec.upto Rows.linkFreesSpec) :=
  OpenClaim.holds_of_cond 3 Tryd.f3 rfl rfl rfl rfl rfl rfl rfl ⟨rfl, rfl, rfl, rfl, rfl⟩ rfl rfl rfl rfl rfl (by kernel_rfl) Tryd.func3 (by kernel_rfl)
    (of_decide_eq_true (by kernel_rfl)) (by unfold Func.isWrapper; first | (rw [if_pos (by decide +kernel)]; kernel_rfl) | (rw [if_neg (by decide +kernel)]; exact ⟨rfl, rfl⟩))
    (fun os started H enc _ F => by rw [OpenClaim.pre_eq_preRow]; exact lifted os started H enc F)
end Go.Proofs.YtgelbihdcfgjcaaDoor.linkFrees

namespace Go.Proofs.YtgelbihdcfgjcaaDoor
theorem linkFrees_row : Rows.LinkFreesUptoSaid := linkFrees.over
theorem linkFrees_holds : Rows.LinkFreesUptoCardSaid :=
  Claim7.holds_tied_plain_at .later [] [.data] true (true, "ae56dbe4cd640bb2908f32403c55305273c4ec01f295b18870ec0a3cc3c5e20e") false
    linkFrees_row (fun _ h => by cases h) (by kernel_rfl) (fun _ h => by cases h) linkFreesUpto_row_tie rfl ⟨rfl, rfl⟩ (by kernel_rfl) rfl
    (fun f fn hf hfn => by
      obtain rfl : f = 3 := Option.some.inj ((show Tryd.prog.funcNamed "proviso/provisolaw18.LinkFrees" = some 3 by kernel_rfl).symm.trans hf) |>.symm
      obtain rfl : fn = Tryd.f3 := (Option.some.inj (Tryd.func3.symm.trans hfn)).symm
      exact ⟨by kernel_rfl, fun j t ht => by
        rw [Tryd.params3] at ht
        have hm : t ∈ [29] := by simpa using Array.mem_of_getElem? ht
        have hall : ([29].all fun u => !Tryd.prog.wantsStandIn u) = true := by kernel_rfl
        exact (show Tryd.prog.wantsStandIn t = false by simpa using List.all_eq_true.1 hall t hm)⟩)
    (by kernel_rfl)
#print axioms linkFrees_holds
end Go.Proofs.YtgelbihdcfgjcaaDoor
