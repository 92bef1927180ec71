/-
  For every input the law CodeBack returns true, and what was handed in reads as before. Condition: the second form's (what came in holds at most 1048576 values and letters).
-/
import Derived.Test.YtihkodfcgfnjoacDoorShell
import Derived.Test.YtihkodfcgfnjoacDoorRdIn
import Derived.Test.YtihkodfcgfnjoacDoorOpenedW
import Derived.Test.YtihkodfcgfnjoacDoorCards
import Derived.Test.YtihkodfcgfnjoacDoorTie
import Derived.Test.YtihkodfcgfnjoacDoorBulk
import Derived.SevenTiedAt
import Derived.Deep.DeepHandedRow
import Derived.Test.YtihkodfcgfnjoacDoorWalkCodeBack
namespace Go.Proofs.YtihkodfcgfnjoacDoor.codeBack
open Go.ChangeShapes Go.WideShapes Go.ChangeAt Go.RowKit
open Go.ChangeMaps (open_string shut_string)
set_option linter.unusedVariables false

theorem own : ownKnob Tryd.prog.godebug = none := by kernel_rfl
theorem laidOut : laidOutB Tryd.prog = true := by kernel_rfl
theorem bytes8 : Tryd.prog.bytesOf 5 = 1 := by kernel_rfl

set_option maxRecDepth 100000 in
theorem lifted (os : Os) (started : os.Started) (H : Type) (enc : TypeId × Value → H) (F : Stop.Interp) :
    ReturnsInHanded {} Tryd.checked os 4 .any ((Rows.OpenSpec.upto Rows.codeBackSpec).preRow enc Tryd.prog Tryd.f4 Rows.codeBackUptoRow.domain false Rows.codeBackUptoRow.laid) (((Rows.OpenSpec.upto Rows.codeBackSpec).at F).post enc Tryd.prog Tryd.f4 false true false false) := by
  obtain ⟨places, hx⟩ : ∃ places, DataW.whole enc Tryd.prog ((World.doorLaid Tryd.prog 400 os).forCall (fun _ _ => 0) ⟨#[], #[.agg #[.int .i64 0, .int .u8 0, .int .i64 0, .int .i64 0], .slice none 0 0, .slice none 0 0], []⟩).memory Tryd.f4.params.toList (Rows.OpenSpec.upto Rows.codeBackSpec).vars false (#[.agg #[.int .i64 0, .int .u8 0, .int .i64 0, .int .i64 0], .slice none 0 0, .slice none 0 0] : Array Value).toList 8 = some ([.agg [.lit (.int .i64 0), .lit (.int .u8 0), .lit (.int .i64 0), .lit (.int .i64 0)], .nil, .nil], [], places) := ⟨[], by kernel_rfl⟩
  refine returnsInHanded_of_row (C := Tryd.checked) (s := Rows.OpenSpec.upto Rows.codeBackSpec) own started (by kernel_rfl) Tryd.func4
    (witness_row_at (enc := enc) (C := Tryd.checked) false (World.doorLaid Tryd.prog 400 os) #[.agg #[.int .i64 0, .int .u8 0, .int .i64 0, .int .i64 0], .slice none 0 0, .slice none 0 0] rfl (by kernel_rfl) (by kernel_rfl) (by kernel_rfl)
      (OpenSpec.preRow_of_cond 8 hx (by kernel_rfl) (fun k hk => by cases hk; kernel_rfl) (by kernel_rfl) (door_met os _))) ?_
  intro W base args ds gs before hval0 hW hcnd hcond hsz0 hL _ _
  have key : Calls Tryd.prog 4 args W fun e W' => ∃ v, e = .returned v ∧ Rows.codeBackSpec.post enc Tryd.prog Tryd.f4 false true false false W args v W' := by
    have hsz : (DataW.weightsEach Tryd.prog (Tryd.f4.params.toList ++ Rows.codeBackSpec.plain.varTypes Tryd.prog) (ds ++ gs)).all (· ≤ reachBytes) = true := hsz0
    have hval : ∀ (j : Nat) t v, Tryd.f4.params[j]? = some t → args[j]? = some v → Value.okWide Tryd.prog W .any base t v := hval0
    have hW' := hW
    obtain ⟨p, q, hA0, hV, rfl, hfz, hnd⟩ := hW
    have hA : DataW.TrodAll enc Tryd.prog W 0 (fun _ => true) true Tryd.f4.params.toList args.toList ds p := hA0
    rw [Tryd.params4] at hA hval hsz
    obtain ⟨v0, vs0, d0, ds0, p0, q0, hargs, rfl, rfl, h0, r0⟩ := trodAll_cons hA
    obtain ⟨v1, vs1, d1, ds1, p1, q1, rfl, rfl, rfl, h1, r1⟩ := trodAll_cons r0
    obtain ⟨v2, vs2, d2, ds2, p2, q2, rfl, rfl, rfl, h2, r2⟩ := trodAll_cons r1
    obtain ⟨rfl, rfl, rfl⟩ := trodAll_nil r2
    obtain rfl : args = #[v0, v1, v2] := by cases args; simp_all
    obtain ⟨rfl, rfl⟩ := trodVars_none hV
    obtain ⟨cs0, rfl, hcs0⟩ := okWide_struct Tryd.underlying37 (hval 0 37 v0 rfl rfl)
    have k0 := h0
    have lt0 : ∀ x ∈ p0, x.block < W.heap.size := by obtain ⟨m, hm⟩ := k0; exact DataW.trod_lt m _ _ _ hm
    have rd0 : Rd W 37 cs0.toList := by
      obtain ⟨fuel, hf⟩ := h0
      refine ⟨H, enc, fuel, _, hf, fun n hn => ?_⟩
      have := List.all_eq_true.1 hsz n (DataW.weights_mem_each (j := 0) (t := 37) rfl rfl n hn)
      exact of_decide_eq_true this
    have hl0 : cs0.toList.length = 4 := by
      have hc : Tryd.prog.cellsOf 37 = 4 := by kernel_rfl
      rw [hc] at hcs0
      simpa using hcs0
    obtain ⟨p, op, a, b, e0, ho, ga, gb⟩ := rd0.instr hl0
    obtain rfl : cs0 = #[.int .i64 p, .int .u8 (op : Int), .int .i64 a, .int .i64 b] := by
      have := congrArg List.toArray e0
      simpa using this
    obtain ⟨a1, len1, cap1, rfl⟩ := okWide_slice Tryd.underlying22 (hval 1 22 v1 rfl rfl)
    have k1 := h1
    have lt1 : ∀ x ∈ p1, x.block < W.heap.size := by obtain ⟨m, hm⟩ := k1; exact DataW.trod_lt m _ _ _ hm
    obtain ⟨l1, e1, w1, n1, u1⟩ : ∃ l : List UInt8, l.length = len1 ∧ BAt W a1 l ∧ (a1 = none → l = [] ∧ cap1 = 0) ∧ l.length + 1 ≤ Rows.uptoBulk d1 := by
      obtain ⟨fuel, hf⟩ := h1
      rcases open_ints Tryd.underlying22 Tryd.underlying5 (by kernel_rfl) hf with ⟨hcs, _⟩ | ⟨x, l, c, zs, hcs, _, hl, hm, hz, hx, hcell, hwz⟩
      · simp [Value.cells] at hcs
        obtain ⟨rfl, rfl, rfl⟩ := hcs
        exact ⟨[], rfl, BAt.nil _ _, fun _ => ⟨rfl, rfl⟩, bulk_pos _⟩
      · simp [Value.cells] at hcs
        obtain ⟨rfl, rfl, rfl⟩ := hcs
        have hz' : zs.length = cap1 := by simpa using hz
        obtain ⟨l, hll, hb⟩ := bytes_of hl hz' hcell hwz
        simp only [Prod.mk.injEq] at hx
        obtain ⟨rfl, _⟩ := hx
        have h47 := sized_slice hsz (j := 1) (t := 22) (e := 5) rfl rfl Tryd.underlying22
        rw [bytes8] at h47
        simp only [lits, List.length_map, List.length_take, List.length_drop, reachBytes] at h47
        exact ⟨l, hll, hb, fun h => by simp at h, by refine Nat.le_trans ?_ (bulk_row _ _); simp [lits]; omega⟩
    subst e1
    obtain ⟨a2, len2, cap2, rfl⟩ := okWide_slice Tryd.underlying22 (hval 2 22 v2 rfl rfl)
    have k2 := h2
    have lt2 : ∀ x ∈ p2, x.block < W.heap.size := by obtain ⟨m, hm⟩ := k2; exact DataW.trod_lt m _ _ _ hm
    obtain ⟨l2, e2, w2, n2, u2⟩ : ∃ l : List UInt8, l.length = len2 ∧ BAt W a2 l ∧ (a2 = none → l = [] ∧ cap2 = 0) ∧ l.length + 1 ≤ Rows.uptoBulk d2 := by
      obtain ⟨fuel, hf⟩ := h2
      rcases open_ints Tryd.underlying22 Tryd.underlying5 (by kernel_rfl) hf with ⟨hcs, _⟩ | ⟨x, l, c, zs, hcs, _, hl, hm, hz, hx, hcell, hwz⟩
      · simp [Value.cells] at hcs
        obtain ⟨rfl, rfl, rfl⟩ := hcs
        exact ⟨[], rfl, BAt.nil _ _, fun _ => ⟨rfl, rfl⟩, bulk_pos _⟩
      · simp [Value.cells] at hcs
        obtain ⟨rfl, rfl, rfl⟩ := hcs
        have hz' : zs.length = cap2 := by simpa using hz
        obtain ⟨l, hll, hb⟩ := bytes_of hl hz' hcell hwz
        simp only [Prod.mk.injEq] at hx
        obtain ⟨rfl, _⟩ := hx
        have h47 := sized_slice hsz (j := 2) (t := 22) (e := 5) rfl rfl Tryd.underlying22
        rw [bytes8] at h47
        simp only [lits, List.length_map, List.length_take, List.length_drop, reachBytes] at h47
        exact ⟨l, hll, hb, fun h => by simp at h, by refine Nat.le_trans ?_ (bulk_row _ _); simp [lits]; omega⟩
    subst e2
    have hbk : Rows.uptoBulkAll ([d0, d1, d2] ++ []) ≤ 1048576 := of_decide_eq_true (hcond _ rfl)
    simp only [List.append_nil, Rows.uptoBulkAll] at hbk
    clear hA0 hval0
    refine (walkCodeBack (of_laid hL) p op a b ho ga gb a1 cap1 l1 w1 n1 a2 cap2 l2 w2 n2 (by omega)).mono fun e W' ⟨he, bel⟩ => ?_
    subst he
    exact ⟨_, rfl, _, _, _, [], _, [], hW', trodAll_mk1 (shut_bool Tryd.underlying4 _), (trodAll_cons_mk (Below.trod laidOut (by kernel_rfl) (of_decide_eq_true (by kernel_rfl)) k0 bel lt0) (trodAll_cons_mk (Below.trod laidOut (by kernel_rfl) (of_decide_eq_true (by kernel_rfl)) k1 bel lt1) (trodAll_cons_mk (Below.trod laidOut (by kernel_rfl) (of_decide_eq_true (by kernel_rfl)) k2 bel lt2) trodAll_mk0))), rfl, bel.frame _, fun h => by cases h⟩
  exact key

theorem over : Rows.codeBackUptoRow.holds Tryd.pinned (Rows.OpenSpec.upto Rows.codeBackSpec) :=
  OpenClaim.holds_of_cond 4 Tryd.f4 rfl rfl rfl rfl rfl rfl rfl ⟨rfl, rfl, rfl, rfl, rfl⟩ rfl rfl rfl rfl rfl (by kernel_rfl) Tryd.func4 (by kernel_rfl)
    (of_decide_eq_true (by kernel_rfl)) (by unfold Func.isWrapper; first | (rw [if_pos (by decide +kernel)]; kernel_rfl) | (rw [if_neg (by decide +kernel)]; exact ⟨rfl, rfl⟩))
    (fun os started H enc _ F => by rw [OpenClaim.pre_eq_preRow]; exact lifted os started H enc F)
end Go.Proofs.YtihkodfcgfnjoacDoor.codeBack

namespace Go.Proofs.YtihkodfcgfnjoacDoor
theorem codeBack_row : Rows.CodeBackUptoSaid := codeBack.over
theorem codeBack_holds : Rows.CodeBackUptoCardSaid :=
  Claim7.holds_tied_plain_at .later [] [.data] true (true, "0639f325c0d2723311e33b0b6dfbc1e29d6bc759a6284701fbba8173268f7c7f") false
    codeBack_row (fun _ h => by cases h) (by kernel_rfl) (fun _ h => by cases h) codeBackUpto_row_tie rfl ⟨rfl, rfl⟩ (by kernel_rfl) rfl
    (fun f fn hf hfn => by
      obtain rfl : f = 4 := Option.some.inj ((show Tryd.prog.funcNamed "proviso/provisolaw04.CodeBack" = some 4 by kernel_rfl).symm.trans hf) |>.symm
      obtain rfl : fn = Tryd.f4 := (Option.some.inj (Tryd.func4.symm.trans hfn)).symm
      exact ⟨by kernel_rfl, fun j t ht => by
        rw [Tryd.params4] at ht
        have hm : t ∈ [37, 22, 22] := by simpa using Array.mem_of_getElem? ht
        have hall : ([37, 22, 22].all fun u => !Tryd.prog.wantsStandIn u) = true := by kernel_rfl
        exact (show Tryd.prog.wantsStandIn t = false by simpa using List.all_eq_true.1 hall t hm)⟩)
    (by kernel_rfl)
#print axioms codeBack_holds
end Go.Proofs.YtihkodfcgfnjoacDoor
