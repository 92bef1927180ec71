/-
  NARROWER THAN 'FOR EVERY INPUT', by the rows' own cells (each row's printed sentence says how): StepApplies: laid · StepMonotone: laid · StepHeights: laid.
  DERIVED. THE GIVEN ROWS OF THIS SEAT. 3 by the template 'for every input the law returns true; each argument reads behind the call as it read before'; 0 by the template 'total and deterministic' (their statements: YtkodmpcnndbngaaGreatDoorTotals.lean).
  GIVEN WITH THE SEED: the statements are not yours to turn. If you find one false, say at which input.
  Laid BY PROGRAM, IN A SANDBOX (cutbox-rows.mjs): the forced cells as the released guide's own fill.sh prints them over the translation 4eb99c7ea3746f8a… (all of the seat's roots in one cut). By AI agents, Wed Nov 11 2026. No macro, syntax, notation, axiom, sorry.
-/
import Derived.Test.YtkodmpcnndbngaaGreatDoorChecked
import GoSem.Claim
import GoSem.ClaimJoined
import GoSem.ClaimMapViews
import Derived.JoinedTies
import Derived.KernelRfl
namespace Go.Proofs.YtkodmpcnndbngaaGreatDoor
/- THE CELL 'sum', in the pinned program and in every row, IS THE sha256 OF THE DUMP (.gsa) THAT YtkodmpcnndbngaaGreatDoorProg.lean LOADS. Nothing in Lean hashes anything: it is a label: what it is worth is what the hold of that sum in a sandbox is worth. -/
noncomputable def Tryz.pinned : Pinned := { name := "ytkodmpcnndbngaagreatdoor", sum := "4eb99c7ea3746f8a778da69c133603bbbc0fddabe3409f046d891f82dd2a73f2", checked := Tryz.checked }
namespace Rows
def none {H : Type} : Left H := { results := [], args := [] }

/- WHAT THE LISTED PACKAGE-LEVEL VARIABLES READ AS WHEN THE CALL BEGINS. Each datum BY PROGRAM (the guide's laid-datum.mjs) off the statement by which the dump's own 'gosem.cut.vars' lays the variable. In a bare row this is a premise. The card (YtkodmpcnndbngaaGreatDoorCards.lean) ties it to the program's text. -/
def laid_proviso_code_widths {H : Type} : DataW H := .agg [.agg [.lit (.int .i64 0), .lit (.int .i64 0)], .agg [.lit (.int .i64 4), .lit (.int .i64 0)], .agg [.lit (.int .i64 1), .lit (.int .i64 0)], .agg [.lit (.int .i64 0), .lit (.int .i64 0)], .agg [.lit (.int .i64 1), .lit (.int .i64 0)], .agg [.lit (.int .i64 1), .lit (.int .i64 0)], .agg [.lit (.int .i64 0), .lit (.int .i64 0)], .agg [.lit (.int .i64 0), .lit (.int .i64 0)], .agg [.lit (.int .i64 0), .lit (.int .i64 0)], .agg [.lit (.int .i64 0), .lit (.int .i64 0)], .agg [.lit (.int .i64 0), .lit (.int .i64 0)], .agg [.lit (.int .i64 0), .lit (.int .i64 0)], .agg [.lit (.int .i64 0), .lit (.int .i64 0)], .agg [.lit (.int .i64 0), .lit (.int .i64 0)], .agg [.lit (.int .i64 0), .lit (.int .i64 0)], .agg [.lit (.int .i64 0), .lit (.int .i64 0)], .agg [.lit (.int .i64 0), .lit (.int .i64 0)], .agg [.lit (.int .i64 0), .lit (.int .i64 0)], .agg [.lit (.int .i64 0), .lit (.int .i64 0)], .agg [.lit (.int .i64 2), .lit (.int .i64 0)], .agg [.lit (.int .i64 2), .lit (.int .i64 0)], .agg [.lit (.int .i64 1), .lit (.int .i64 0)], .agg [.lit (.int .i64 0), .lit (.int .i64 0)], .agg [.lit (.int .i64 1), .lit (.int .i64 0)], .agg [.lit (.int .i64 1), .lit (.int .i64 1)], .agg [.lit (.int .i64 1), .lit (.int .i64 1)], .agg [.lit (.int .i64 0), .lit (.int .i64 0)], .agg [.lit (.int .i64 0), .lit (.int .i64 0)], .agg [.lit (.int .i64 0), .lit (.int .i64 0)], .agg [.lit (.int .i64 0), .lit (.int .i64 0)], .agg [.lit (.int .i64 1), .lit (.int .i64 0)], .agg [.lit (.int .i64 1), .lit (.int .i64 0)], .agg [.lit (.int .i64 1), .lit (.int .i64 0)], .agg [.lit (.int .i64 0), .lit (.int .i64 0)]]
def laid_proviso_types_words {H : Type} : DataW H := .agg [.lit (.string [116, 111, 112]), .lit (.string [105, 110, 116]), .lit (.string [98, 111, 111, 108]), .lit (.string [110, 117, 108, 108]), .lit (.string [105, 110, 116, 115]), .lit (.string [97, 110, 121])]

/-- 'provisolaw07.StepApplies': WHATEVER THE INPUT: true; the input reads as it did. -/
def stepAppliesSpec : ChangeSpec := { name := "stepApplies", fn := fun _ => fun
  | [d1, d2, d3] => { results := [.lit (.bool true)], args := [d1, d2, d3] }
  | _ => none }
def stepAppliesRow : OpenClaim := { program := "ytkodmpcnndbngaagreatdoor", sum := "4eb99c7ea3746f8a778da69c133603bbbc0fddabe3409f046d891f82dd2a73f2", func := "proviso/provisolaw07.StepApplies", spec := "stepApplies", unfollowed := true, recurses := true, named := ["proviso/types.words", "proviso/code.widths"], apart := false, laid := [("proviso/code.widths", laid_proviso_code_widths), ("proviso/types.words", laid_proviso_types_words)] }
def StepAppliesSaid : Prop := stepAppliesRow.holds Tryz.pinned (OpenSpec.ofChange stepAppliesSpec)

/-- ITS FALSE NEIGHBOUR: 'it returns false'. Refute it at one input. -/
def stepAppliesWrong : ChangeSpec := { name := "stepApplies", fn := fun _ => fun
  | [d1, d2, d3] => { results := [.lit (.bool false)], args := [d1, d2, d3] }
  | _ => none }
def StepAppliesWrongFalsely : Prop := stepAppliesRow.holds Tryz.pinned (OpenSpec.ofChange stepAppliesWrong)

/-- 'provisolaw07.StepMonotone': WHATEVER THE INPUT: true; the input reads as it did. -/
def stepMonotoneSpec : ChangeSpec := { name := "stepMonotone", fn := fun _ => fun
  | [d1, d2, d3, d4] => { results := [.lit (.bool true)], args := [d1, d2, d3, d4] }
  | _ => none }
def stepMonotoneRow : OpenClaim := { program := "ytkodmpcnndbngaagreatdoor", sum := "4eb99c7ea3746f8a778da69c133603bbbc0fddabe3409f046d891f82dd2a73f2", func := "proviso/provisolaw07.StepMonotone", spec := "stepMonotone", unfollowed := true, recurses := true, named := ["proviso/types.words", "proviso/code.widths"], apart := false, laid := [("proviso/code.widths", laid_proviso_code_widths), ("proviso/types.words", laid_proviso_types_words)] }
def StepMonotoneSaid : Prop := stepMonotoneRow.holds Tryz.pinned (OpenSpec.ofChange stepMonotoneSpec)

/-- ITS FALSE NEIGHBOUR: 'it returns false'. Refute it at one input. -/
def stepMonotoneWrong : ChangeSpec := { name := "stepMonotone", fn := fun _ => fun
  | [d1, d2, d3, d4] => { results := [.lit (.bool false)], args := [d1, d2, d3, d4] }
  | _ => none }
def StepMonotoneWrongFalsely : Prop := stepMonotoneRow.holds Tryz.pinned (OpenSpec.ofChange stepMonotoneWrong)

/-- 'provisolaw07.StepHeights': WHATEVER THE INPUT: true; the input reads as it did. -/
def stepHeightsSpec : ChangeSpec := { name := "stepHeights", fn := fun _ => fun
  | [d1, d2, d3] => { results := [.lit (.bool true)], args := [d1, d2, d3] }
  | _ => none }
def stepHeightsRow : OpenClaim := { program := "ytkodmpcnndbngaagreatdoor", sum := "4eb99c7ea3746f8a778da69c133603bbbc0fddabe3409f046d891f82dd2a73f2", func := "proviso/provisolaw07.StepHeights", spec := "stepHeights", unfollowed := true, recurses := true, named := ["proviso/types.words", "proviso/code.widths"], apart := false, laid := [("proviso/code.widths", laid_proviso_code_widths), ("proviso/types.words", laid_proviso_types_words)] }
def StepHeightsSaid : Prop := stepHeightsRow.holds Tryz.pinned (OpenSpec.ofChange stepHeightsSpec)

/-- ITS FALSE NEIGHBOUR: 'it returns false'. Refute it at one input. -/
def stepHeightsWrong : ChangeSpec := { name := "stepHeights", fn := fun _ => fun
  | [d1, d2, d3] => { results := [.lit (.bool false)], args := [d1, d2, d3] }
  | _ => none }
def StepHeightsWrongFalsely : Prop := stepHeightsRow.holds Tryz.pinned (OpenSpec.ofChange stepHeightsWrong)

/- THE SECOND FORM. 'bulk': how many values and letters a reading holds, each counted each time it is reached (what is shared counts as often as it is met; a slice's spare places count too). A statement '..UptoSaid' is the law's where the arguments, and the package variables that the reading takes, are together of bulk at most 1048576: NARROWER than '..Said'. Prove '..Said' where nothing that the law and all that it calls make is longer than what came in: it says more and counts as full. Else prove '..UptoSaid'. A law counts once. -/
mutual
def uptoBulk {H : Type} : DataW H → Nat
  | .lit (.string bytes) => bytes.length + 1
  | .lit _ => 1
  | .nil => 1
  | .ptr d => uptoBulk d + 1
  | .slice elems spare => uptoBulkAll elems + uptoBulkAll spare + 1
  | .agg parts => uptoBulkAll parts + 1
  | .iface _ d => uptoBulk d + 1
  | .map entries => uptoBulkEntries entries + 1
  | .held _ => 1
def uptoBulkAll {H : Type} : List (DataW H) → Nat
  | [] => 0
  | d :: r => uptoBulk d + uptoBulkAll r
def uptoBulkEntries {H : Type} : List (Lit × DataW H) → Nat
  | [] => 0
  | x :: r => uptoBulkEntry x + uptoBulkEntries r
def uptoBulkEntry {H : Type} : Lit × DataW H → Nat
  | (.string bytes, d) => bytes.length + uptoBulk d + 1
  | (_, d) => uptoBulk d + 1
 end
def uptoSmall : (H : Type) → List (DataW H) → Bool := fun _ ds => decide (uptoBulkAll ds ≤ 1048576)
def OpenSpec.upto (s : _root_.Go.ChangeSpec) : _root_.Go.OpenSpec := { _root_.Go.OpenSpec.ofChange s with cond := some uptoSmall }

/-- 'provisolaw07.StepApplies', WHERE WHAT IT READS IS OF BULK AT MOST 1048576: true; the input reads as it did. -/
def stepAppliesUptoRow : OpenClaim := { program := "ytkodmpcnndbngaagreatdoor", sum := "4eb99c7ea3746f8a778da69c133603bbbc0fddabe3409f046d891f82dd2a73f2", func := "proviso/provisolaw07.StepApplies", spec := "stepApplies", unfollowed := true, recurses := true, named := ["proviso/types.words", "proviso/code.widths"], apart := false, laid := [("proviso/code.widths", laid_proviso_code_widths), ("proviso/types.words", laid_proviso_types_words)], narrowed := true }
def StepAppliesUptoSaid : Prop := stepAppliesUptoRow.holds Tryz.pinned (OpenSpec.upto stepAppliesSpec)

/-- 'provisolaw07.StepMonotone', WHERE WHAT IT READS IS OF BULK AT MOST 1048576: true; the input reads as it did. -/
def stepMonotoneUptoRow : OpenClaim := { program := "ytkodmpcnndbngaagreatdoor", sum := "4eb99c7ea3746f8a778da69c133603bbbc0fddabe3409f046d891f82dd2a73f2", func := "proviso/provisolaw07.StepMonotone", spec := "stepMonotone", unfollowed := true, recurses := true, named := ["proviso/types.words", "proviso/code.widths"], apart := false, laid := [("proviso/code.widths", laid_proviso_code_widths), ("proviso/types.words", laid_proviso_types_words)], narrowed := true }
def StepMonotoneUptoSaid : Prop := stepMonotoneUptoRow.holds Tryz.pinned (OpenSpec.upto stepMonotoneSpec)

/-- 'provisolaw07.StepHeights', WHERE WHAT IT READS IS OF BULK AT MOST 1048576: true; the input reads as it did. -/
def stepHeightsUptoRow : OpenClaim := { program := "ytkodmpcnndbngaagreatdoor", sum := "4eb99c7ea3746f8a778da69c133603bbbc0fddabe3409f046d891f82dd2a73f2", func := "proviso/provisolaw07.StepHeights", spec := "stepHeights", unfollowed := true, recurses := true, named := ["proviso/types.words", "proviso/code.widths"], apart := false, laid := [("proviso/code.widths", laid_proviso_code_widths), ("proviso/types.words", laid_proviso_types_words)], narrowed := true }
def StepHeightsUptoSaid : Prop := stepHeightsUptoRow.holds Tryz.pinned (OpenSpec.upto stepHeightsSpec)

end Rows
end Go.Proofs.YtkodmpcnndbngaaGreatDoor
