/-
  NARROWER THAN 'FOR EVERY INPUT', by the rows' own cells (each row's printed sentence says how): FlowScans: laid · FlowLists: laid · FlowReaches: laid · FlowBlocks: laid · FlowInside: laid.
  DERIVED. THE GIVEN ROWS OF THIS SEAT. 5 by the template 'for every input the law returns true; each argument reads behind the call as it read before'; 0 by the template 'total and deterministic' (their statements: YtlanmcmhgohooaaDoorTotals.lean).
  GIVEN WITH THE SEED: the statements are not yours to turn. If you find one false, say at which input.
  Laid BY PROGRAM, IN A SANDBOX (cutbox-rows.mjs): the forced cells as the released guide's own fill.sh prints them over the translation a93d61b65153953f… (all of the seat's roots in one cut). By AI agents, Wed Nov 11 2026. No macro, syntax, notation, axiom, sorry.
-/
import Derived.Test.YtlanmcmhgohooaaDoorChecked
import GoSem.Claim
import GoSem.ClaimJoined
import GoSem.ClaimMapViews
import Derived.JoinedTies
import Derived.KernelRfl
namespace Go.Proofs.YtlanmcmhgohooaaDoor
/- THE CELL 'sum', in the pinned program and in every row, IS THE sha256 OF THE DUMP (.gsa) THAT YtlanmcmhgohooaaDoorProg.lean LOADS. Nothing in Lean hashes anything: it is a label: what it is worth is what the hold of that sum in a sandbox is worth. -/
noncomputable def Tryd.pinned : Pinned := { name := "ytlanmcmhgohooaadoor", sum := "a93d61b65153953f2894b9da5617d2e25fae2a5e174b505a09e3525a3e65033b", checked := Tryd.checked }
namespace Rows
def none {H : Type} : Left H := { results := [], args := [] }

/- WHAT THE LISTED PACKAGE-LEVEL VARIABLES READ AS WHEN THE CALL BEGINS. Each datum BY PROGRAM (the guide's laid-datum.mjs) off the statement by which the dump's own 'gosem.cut.vars' lays the variable. In a bare row this is a premise. The card (YtlanmcmhgohooaaDoorCards.lean) ties it to the program's text. -/
def laid_proviso_code_widths {H : Type} : DataW H := .agg [.agg [.lit (.int .i64 0), .lit (.int .i64 0)], .agg [.lit (.int .i64 4), .lit (.int .i64 0)], .agg [.lit (.int .i64 1), .lit (.int .i64 0)], .agg [.lit (.int .i64 0), .lit (.int .i64 0)], .agg [.lit (.int .i64 1), .lit (.int .i64 0)], .agg [.lit (.int .i64 1), .lit (.int .i64 0)], .agg [.lit (.int .i64 0), .lit (.int .i64 0)], .agg [.lit (.int .i64 0), .lit (.int .i64 0)], .agg [.lit (.int .i64 0), .lit (.int .i64 0)], .agg [.lit (.int .i64 0), .lit (.int .i64 0)], .agg [.lit (.int .i64 0), .lit (.int .i64 0)], .agg [.lit (.int .i64 0), .lit (.int .i64 0)], .agg [.lit (.int .i64 0), .lit (.int .i64 0)], .agg [.lit (.int .i64 0), .lit (.int .i64 0)], .agg [.lit (.int .i64 0), .lit (.int .i64 0)], .agg [.lit (.int .i64 0), .lit (.int .i64 0)], .agg [.lit (.int .i64 0), .lit (.int .i64 0)], .agg [.lit (.int .i64 0), .lit (.int .i64 0)], .agg [.lit (.int .i64 0), .lit (.int .i64 0)], .agg [.lit (.int .i64 2), .lit (.int .i64 0)], .agg [.lit (.int .i64 2), .lit (.int .i64 0)], .agg [.lit (.int .i64 1), .lit (.int .i64 0)], .agg [.lit (.int .i64 0), .lit (.int .i64 0)], .agg [.lit (.int .i64 1), .lit (.int .i64 0)], .agg [.lit (.int .i64 1), .lit (.int .i64 1)], .agg [.lit (.int .i64 1), .lit (.int .i64 1)], .agg [.lit (.int .i64 0), .lit (.int .i64 0)], .agg [.lit (.int .i64 0), .lit (.int .i64 0)], .agg [.lit (.int .i64 0), .lit (.int .i64 0)], .agg [.lit (.int .i64 0), .lit (.int .i64 0)], .agg [.lit (.int .i64 1), .lit (.int .i64 0)], .agg [.lit (.int .i64 1), .lit (.int .i64 0)], .agg [.lit (.int .i64 1), .lit (.int .i64 0)], .agg [.lit (.int .i64 0), .lit (.int .i64 0)]]

/-- 'provisolaw05.FlowScans': WHATEVER THE INPUT: true; the input reads as it did. -/
def flowScansSpec : ChangeSpec := { name := "flowScans", fn := fun _ => fun
  | [d] => { results := [.lit (.bool true)], args := [d] }
  | _ => none }
def flowScansRow : OpenClaim := { program := "ytlanmcmhgohooaadoor", sum := "a93d61b65153953f2894b9da5617d2e25fae2a5e174b505a09e3525a3e65033b", func := "proviso/provisolaw05.FlowScans", spec := "flowScans", unfollowed := true, recurses := true, named := ["proviso/code.widths"], apart := false, laid := [("proviso/code.widths", laid_proviso_code_widths)] }
def FlowScansSaid : Prop := flowScansRow.holds Tryd.pinned (OpenSpec.ofChange flowScansSpec)

/-- ITS FALSE NEIGHBOUR: 'it returns false'. Refute it at one input. -/
def flowScansWrong : ChangeSpec := { name := "flowScans", fn := fun _ => fun
  | [d] => { results := [.lit (.bool false)], args := [d] }
  | _ => none }
def FlowScansWrongFalsely : Prop := flowScansRow.holds Tryd.pinned (OpenSpec.ofChange flowScansWrong)

/-- 'provisolaw05.FlowLists': WHATEVER THE INPUT: true; the input reads as it did. -/
def flowListsSpec : ChangeSpec := { name := "flowLists", fn := fun _ => fun
  | [d] => { results := [.lit (.bool true)], args := [d] }
  | _ => none }
def flowListsRow : OpenClaim := { program := "ytlanmcmhgohooaadoor", sum := "a93d61b65153953f2894b9da5617d2e25fae2a5e174b505a09e3525a3e65033b", func := "proviso/provisolaw05.FlowLists", spec := "flowLists", recurses := true, named := ["proviso/code.widths"], apart := false, laid := [("proviso/code.widths", laid_proviso_code_widths)] }
def FlowListsSaid : Prop := flowListsRow.holds Tryd.pinned (OpenSpec.ofChange flowListsSpec)

/-- ITS FALSE NEIGHBOUR: 'it returns false'. Refute it at one input. -/
def flowListsWrong : ChangeSpec := { name := "flowLists", fn := fun _ => fun
  | [d] => { results := [.lit (.bool false)], args := [d] }
  | _ => none }
def FlowListsWrongFalsely : Prop := flowListsRow.holds Tryd.pinned (OpenSpec.ofChange flowListsWrong)

/-- 'provisolaw05.FlowReaches': WHATEVER THE INPUT: true; the input reads as it did. -/
def flowReachesSpec : ChangeSpec := { name := "flowReaches", fn := fun _ => fun
  | [d1, d2] => { results := [.lit (.bool true)], args := [d1, d2] }
  | _ => none }
def flowReachesRow : OpenClaim := { program := "ytlanmcmhgohooaadoor", sum := "a93d61b65153953f2894b9da5617d2e25fae2a5e174b505a09e3525a3e65033b", func := "proviso/provisolaw05.FlowReaches", spec := "flowReaches", unfollowed := true, recurses := true, named := ["proviso/code.widths"], apart := false, laid := [("proviso/code.widths", laid_proviso_code_widths)] }
def FlowReachesSaid : Prop := flowReachesRow.holds Tryd.pinned (OpenSpec.ofChange flowReachesSpec)

/-- ITS FALSE NEIGHBOUR: 'it returns false'. Refute it at one input. -/
def flowReachesWrong : ChangeSpec := { name := "flowReaches", fn := fun _ => fun
  | [d1, d2] => { results := [.lit (.bool false)], args := [d1, d2] }
  | _ => none }
def FlowReachesWrongFalsely : Prop := flowReachesRow.holds Tryd.pinned (OpenSpec.ofChange flowReachesWrong)

/-- 'provisolaw05.FlowBlocks': WHATEVER THE INPUT: true; the input reads as it did. -/
def flowBlocksSpec : ChangeSpec := { name := "flowBlocks", fn := fun _ => fun
  | [d] => { results := [.lit (.bool true)], args := [d] }
  | _ => none }
def flowBlocksRow : OpenClaim := { program := "ytlanmcmhgohooaadoor", sum := "a93d61b65153953f2894b9da5617d2e25fae2a5e174b505a09e3525a3e65033b", func := "proviso/provisolaw05.FlowBlocks", spec := "flowBlocks", unfollowed := true, recurses := true, named := ["proviso/code.widths"], apart := false, laid := [("proviso/code.widths", laid_proviso_code_widths)] }
def FlowBlocksSaid : Prop := flowBlocksRow.holds Tryd.pinned (OpenSpec.ofChange flowBlocksSpec)

/-- ITS FALSE NEIGHBOUR: 'it returns false'. Refute it at one input. -/
def flowBlocksWrong : ChangeSpec := { name := "flowBlocks", fn := fun _ => fun
  | [d] => { results := [.lit (.bool false)], args := [d] }
  | _ => none }
def FlowBlocksWrongFalsely : Prop := flowBlocksRow.holds Tryd.pinned (OpenSpec.ofChange flowBlocksWrong)

/-- 'provisolaw05.FlowInside': WHATEVER THE INPUT: true; the input reads as it did. -/
def flowInsideSpec : ChangeSpec := { name := "flowInside", fn := fun _ => fun
  | [d] => { results := [.lit (.bool true)], args := [d] }
  | _ => none }
def flowInsideRow : OpenClaim := { program := "ytlanmcmhgohooaadoor", sum := "a93d61b65153953f2894b9da5617d2e25fae2a5e174b505a09e3525a3e65033b", func := "proviso/provisolaw05.FlowInside", spec := "flowInside", unfollowed := true, recurses := true, named := ["proviso/code.widths"], apart := false, laid := [("proviso/code.widths", laid_proviso_code_widths)] }
def FlowInsideSaid : Prop := flowInsideRow.holds Tryd.pinned (OpenSpec.ofChange flowInsideSpec)

/-- ITS FALSE NEIGHBOUR: 'it returns false'. Refute it at one input. -/
def flowInsideWrong : ChangeSpec := { name := "flowInside", fn := fun _ => fun
  | [d] => { results := [.lit (.bool false)], args := [d] }
  | _ => none }
def FlowInsideWrongFalsely : Prop := flowInsideRow.holds Tryd.pinned (OpenSpec.ofChange flowInsideWrong)

/- THE SECOND FORM. 'bulk': how many values and letters a reading holds, each counted each time it is reached (what is shared counts as often as it is met; a slice's spare places count too). A statement '..UptoSaid' is the law's where the arguments, and the package variables that the reading takes, are together of bulk at most 1048576: NARROWER than '..Said'. Prove '..Said' where nothing that the law and all that it calls make is longer than what came in: it says more and counts as full. Else prove '..UptoSaid'. A law counts once. -/
mutual
def uptoBulk {H : Type} : DataW H → Nat
  | .lit (.string bytes) => bytes.length + 1
  | .lit _ => 1
  | .nil => 1
  | .ptr d => uptoBulk d + 1
  | .slice elems spare => uptoBulkAll elems + uptoBulkAll spare + 1
  | .agg parts => uptoBulkAll parts + 1
  | .iface _ d => uptoBulk d + 1
  | .map entries => uptoBulkEntries entries + 1
  | .held _ => 1
def uptoBulkAll {H : Type} : List (DataW H) → Nat
  | [] => 0
  | d :: r => uptoBulk d + uptoBulkAll r
def uptoBulkEntries {H : Type} : List (Lit × DataW H) → Nat
  | [] => 0
  | x :: r => uptoBulkEntry x + uptoBulkEntries r
def uptoBulkEntry {H : Type} : Lit × DataW H → Nat
  | (.string bytes, d) => bytes.length + uptoBulk d + 1
  | (_, d) => uptoBulk d + 1
 end
def uptoSmall : (H : Type) → List (DataW H) → Bool := fun _ ds => decide (uptoBulkAll ds ≤ 1048576)
def OpenSpec.upto (s : _root_.Go.ChangeSpec) : _root_.Go.OpenSpec := { _root_.Go.OpenSpec.ofChange s with cond := some uptoSmall }

/-- 'provisolaw05.FlowScans', WHERE WHAT IT READS IS OF BULK AT MOST 1048576: true; the input reads as it did. -/
def flowScansUptoRow : OpenClaim := { program := "ytlanmcmhgohooaadoor", sum := "a93d61b65153953f2894b9da5617d2e25fae2a5e174b505a09e3525a3e65033b", func := "proviso/provisolaw05.FlowScans", spec := "flowScans", unfollowed := true, recurses := true, named := ["proviso/code.widths"], apart := false, laid := [("proviso/code.widths", laid_proviso_code_widths)], narrowed := true }
def FlowScansUptoSaid : Prop := flowScansUptoRow.holds Tryd.pinned (OpenSpec.upto flowScansSpec)

/-- 'provisolaw05.FlowLists', WHERE WHAT IT READS IS OF BULK AT MOST 1048576: true; the input reads as it did. -/
def flowListsUptoRow : OpenClaim := { program := "ytlanmcmhgohooaadoor", sum := "a93d61b65153953f2894b9da5617d2e25fae2a5e174b505a09e3525a3e65033b", func := "proviso/provisolaw05.FlowLists", spec := "flowLists", recurses := true, named := ["proviso/code.widths"], apart := false, laid := [("proviso/code.widths", laid_proviso_code_widths)], narrowed := true }
def FlowListsUptoSaid : Prop := flowListsUptoRow.holds Tryd.pinned (OpenSpec.upto flowListsSpec)

/-- 'provisolaw05.FlowReaches', WHERE WHAT IT READS IS OF BULK AT MOST 1048576: true; the input reads as it did. -/
def flowReachesUptoRow : OpenClaim := { program := "ytlanmcmhgohooaadoor", sum := "a93d61b65153953f2894b9da5617d2e25fae2a5e174b505a09e3525a3e65033b", func := "proviso/provisolaw05.FlowReaches", spec := "flowReaches", unfollowed := true, recurses := true, named := ["proviso/code.widths"], apart := false, laid := [("proviso/code.widths", laid_proviso_code_widths)], narrowed := true }
def FlowReachesUptoSaid : Prop := flowReachesUptoRow.holds Tryd.pinned (OpenSpec.upto flowReachesSpec)

/-- 'provisolaw05.FlowBlocks', WHERE WHAT IT READS IS OF BULK AT MOST 1048576: true; the input reads as it did. -/
def flowBlocksUptoRow : OpenClaim := { program := "ytlanmcmhgohooaadoor", sum := "a93d61b65153953f2894b9da5617d2e25fae2a5e174b505a09e3525a3e65033b", func := "proviso/provisolaw05.FlowBlocks", spec := "flowBlocks", unfollowed := true, recurses := true, named := ["proviso/code.widths"], apart := false, laid := [("proviso/code.widths", laid_proviso_code_widths)], narrowed := true }
def FlowBlocksUptoSaid : Prop := flowBlocksUptoRow.holds Tryd.pinned (OpenSpec.upto flowBlocksSpec)

/-- 'provisolaw05.FlowInside', WHERE WHAT IT READS IS OF BULK AT MOST 1048576: true; the input reads as it did. -/
def flowInsideUptoRow : OpenClaim := { program := "ytlanmcmhgohooaadoor", sum := "a93d61b65153953f2894b9da5617d2e25fae2a5e174b505a09e3525a3e65033b", func := "proviso/provisolaw05.FlowInside", spec := "flowInside", unfollowed := true, recurses := true, named := ["proviso/code.widths"], apart := false, laid := [("proviso/code.widths", laid_proviso_code_widths)], narrowed := true }
def FlowInsideUptoSaid : Prop := flowInsideUptoRow.holds Tryd.pinned (OpenSpec.upto flowInsideSpec)

end Rows
end Go.Proofs.YtlanmcmhgohooaaDoor
