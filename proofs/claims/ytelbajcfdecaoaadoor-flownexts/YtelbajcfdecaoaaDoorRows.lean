/-
  NARROWER THAN 'FOR EVERY INPUT', by the rows' own cells (each row's printed sentence says how): FramesChecks: laid · FlowScans: laid · FlowNexts: laid · FlowLists: laid · FlowReaches: laid · FlowBlocks: laid.
  DERIVED. THE GIVEN ROWS OF THIS SEAT. 6 by the template 'for every input the law returns true; each argument reads behind the call as it read before'; 0 by the template 'total and deterministic' (their statements: YtelbajcfdecaoaaDoorTotals.lean).
  GIVEN WITH THE SEED: the statements are not yours to turn. If you find one false, say at which input.
  Laid BY PROGRAM, IN A SANDBOX (cutbox-rows.mjs): the forced cells as the released guide's own fill.sh prints them over the translation c8b28848bc85f839… (all of the seat's roots in one cut). By AI agents, Wed Nov 11 2026. No macro, syntax, notation, axiom, sorry.
-/
import Derived.Test.YtelbajcfdecaoaaDoorChecked
import GoSem.Claim
import GoSem.ClaimJoined
import GoSem.ClaimMapViews
import Derived.JoinedTies
import Derived.KernelRfl
namespace Go.Proofs.YtelbajcfdecaoaaDoor
/- THE CELL 'sum', in the pinned program and in every row, IS THE sha256 OF THE DUMP (.gsa) THAT YtelbajcfdecaoaaDoorProg.lean LOADS. Nothing in Lean hashes anything: it is a label: what it is worth is what the hold of that sum in a sandbox is worth. -/
noncomputable def Tryd.pinned : Pinned := { name := "ytelbajcfdecaoaadoor", sum := "c8b28848bc85f83948908c1606beed22a5829157ef78857c14ee82855087c9a4", checked := Tryd.checked }
namespace Rows
def none {H : Type} : Left H := { results := [], args := [] }

/- WHAT THE LISTED PACKAGE-LEVEL VARIABLES READ AS WHEN THE CALL BEGINS. Each datum BY PROGRAM (the guide's laid-datum.mjs) off the statement by which the dump's own 'gosem.cut.vars' lays the variable. In a bare row this is a premise. The card (YtelbajcfdecaoaaDoorCards.lean) ties it to the program's text. -/
def laid_proviso_types_words {H : Type} : DataW H := .agg [.lit (.string [116, 111, 112]), .lit (.string [105, 110, 116]), .lit (.string [98, 111, 111, 108]), .lit (.string [110, 117, 108, 108]), .lit (.string [105, 110, 116, 115]), .lit (.string [97, 110, 121])]
def laid_proviso_code_widths {H : Type} : DataW H := .agg [.agg [.lit (.int .i64 0), .lit (.int .i64 0)], .agg [.lit (.int .i64 4), .lit (.int .i64 0)], .agg [.lit (.int .i64 1), .lit (.int .i64 0)], .agg [.lit (.int .i64 0), .lit (.int .i64 0)], .agg [.lit (.int .i64 1), .lit (.int .i64 0)], .agg [.lit (.int .i64 1), .lit (.int .i64 0)], .agg [.lit (.int .i64 0), .lit (.int .i64 0)], .agg [.lit (.int .i64 0), .lit (.int .i64 0)], .agg [.lit (.int .i64 0), .lit (.int .i64 0)], .agg [.lit (.int .i64 0), .lit (.int .i64 0)], .agg [.lit (.int .i64 0), .lit (.int .i64 0)], .agg [.lit (.int .i64 0), .lit (.int .i64 0)], .agg [.lit (.int .i64 0), .lit (.int .i64 0)], .agg [.lit (.int .i64 0), .lit (.int .i64 0)], .agg [.lit (.int .i64 0), .lit (.int .i64 0)], .agg [.lit (.int .i64 0), .lit (.int .i64 0)], .agg [.lit (.int .i64 0), .lit (.int .i64 0)], .agg [.lit (.int .i64 0), .lit (.int .i64 0)], .agg [.lit (.int .i64 0), .lit (.int .i64 0)], .agg [.lit (.int .i64 2), .lit (.int .i64 0)], .agg [.lit (.int .i64 2), .lit (.int .i64 0)], .agg [.lit (.int .i64 1), .lit (.int .i64 0)], .agg [.lit (.int .i64 0), .lit (.int .i64 0)], .agg [.lit (.int .i64 1), .lit (.int .i64 0)], .agg [.lit (.int .i64 1), .lit (.int .i64 1)], .agg [.lit (.int .i64 1), .lit (.int .i64 1)], .agg [.lit (.int .i64 0), .lit (.int .i64 0)], .agg [.lit (.int .i64 0), .lit (.int .i64 0)], .agg [.lit (.int .i64 0), .lit (.int .i64 0)], .agg [.lit (.int .i64 0), .lit (.int .i64 0)], .agg [.lit (.int .i64 1), .lit (.int .i64 0)], .agg [.lit (.int .i64 1), .lit (.int .i64 0)], .agg [.lit (.int .i64 1), .lit (.int .i64 0)], .agg [.lit (.int .i64 0), .lit (.int .i64 0)]]

/-- 'provisolaw03.FramesChecks': WHATEVER THE INPUT: true; the input reads as it did. -/
def framesChecksSpec : ChangeSpec := { name := "framesChecks", fn := fun _ => fun
  | [d1, d2] => { results := [.lit (.bool true)], args := [d1, d2] }
  | _ => none }
def framesChecksRow : OpenClaim := { program := "ytelbajcfdecaoaadoor", sum := "c8b28848bc85f83948908c1606beed22a5829157ef78857c14ee82855087c9a4", func := "proviso/provisolaw03.FramesChecks", spec := "framesChecks", inPlace := ["internal/abi.NoEscape", "internal/bytealg.MakeNoZero"], unfollowed := true, recurses := true, named := ["proviso/types.words"], apart := false, laid := [("proviso/types.words", laid_proviso_types_words)] }
def FramesChecksSaid : Prop := framesChecksRow.holds Tryd.pinned (OpenSpec.ofChange framesChecksSpec)

/-- ITS FALSE NEIGHBOUR: 'it returns false'. Refute it at one input. -/
def framesChecksWrong : ChangeSpec := { name := "framesChecks", fn := fun _ => fun
  | [d1, d2] => { results := [.lit (.bool false)], args := [d1, d2] }
  | _ => none }
def FramesChecksWrongFalsely : Prop := framesChecksRow.holds Tryd.pinned (OpenSpec.ofChange framesChecksWrong)

/-- 'provisolaw05.FlowScans': WHATEVER THE INPUT: true; the input reads as it did. -/
def flowScansSpec : ChangeSpec := { name := "flowScans", fn := fun _ => fun
  | [d] => { results := [.lit (.bool true)], args := [d] }
  | _ => none }
def flowScansRow : OpenClaim := { program := "ytelbajcfdecaoaadoor", sum := "c8b28848bc85f83948908c1606beed22a5829157ef78857c14ee82855087c9a4", func := "proviso/provisolaw05.FlowScans", spec := "flowScans", unfollowed := true, recurses := true, named := ["proviso/code.widths"], apart := false, laid := [("proviso/code.widths", laid_proviso_code_widths)] }
def FlowScansSaid : Prop := flowScansRow.holds Tryd.pinned (OpenSpec.ofChange flowScansSpec)

/-- ITS FALSE NEIGHBOUR: 'it returns false'. Refute it at one input. -/
def flowScansWrong : ChangeSpec := { name := "flowScans", fn := fun _ => fun
  | [d] => { results := [.lit (.bool false)], args := [d] }
  | _ => none }
def FlowScansWrongFalsely : Prop := flowScansRow.holds Tryd.pinned (OpenSpec.ofChange flowScansWrong)

/-- 'provisolaw05.FlowNexts': WHATEVER THE INPUT: true; the input reads as it did. -/
def flowNextsSpec : ChangeSpec := { name := "flowNexts", fn := fun _ => fun
  | [d] => { results := [.lit (.bool true)], args := [d] }
  | _ => none }
def flowNextsRow : OpenClaim := { program := "ytelbajcfdecaoaadoor", sum := "c8b28848bc85f83948908c1606beed22a5829157ef78857c14ee82855087c9a4", func := "proviso/provisolaw05.FlowNexts", spec := "flowNexts", recurses := true, named := ["proviso/code.widths"], apart := false, laid := [("proviso/code.widths", laid_proviso_code_widths)] }
def FlowNextsSaid : Prop := flowNextsRow.holds Tryd.pinned (OpenSpec.ofChange flowNextsSpec)

/-- ITS FALSE NEIGHBOUR: 'it returns false'. Refute it at one input. -/
def flowNextsWrong : ChangeSpec := { name := "flowNexts", fn := fun _ => fun
  | [d] => { results := [.lit (.bool false)], args := [d] }
  | _ => none }
def FlowNextsWrongFalsely : Prop := flowNextsRow.holds Tryd.pinned (OpenSpec.ofChange flowNextsWrong)

/-- 'provisolaw05.FlowLists': WHATEVER THE INPUT: true; the input reads as it did. -/
def flowListsSpec : ChangeSpec := { name := "flowLists", fn := fun _ => fun
  | [d] => { results := [.lit (.bool true)], args := [d] }
  | _ => none }
def flowListsRow : OpenClaim := { program := "ytelbajcfdecaoaadoor", sum := "c8b28848bc85f83948908c1606beed22a5829157ef78857c14ee82855087c9a4", func := "proviso/provisolaw05.FlowLists", spec := "flowLists", recurses := true, named := ["proviso/code.widths"], apart := false, laid := [("proviso/code.widths", laid_proviso_code_widths)] }
def FlowListsSaid : Prop := flowListsRow.holds Tryd.pinned (OpenSpec.ofChange flowListsSpec)

/-- ITS FALSE NEIGHBOUR: 'it returns false'. Refute it at one input. -/
def flowListsWrong : ChangeSpec := { name := "flowLists", fn := fun _ => fun
  | [d] => { results := [.lit (.bool false)], args := [d] }
  | _ => none }
def FlowListsWrongFalsely : Prop := flowListsRow.holds Tryd.pinned (OpenSpec.ofChange flowListsWrong)

/-- 'provisolaw05.FlowReaches': WHATEVER THE INPUT: true; the input reads as it did. -/
def flowReachesSpec : ChangeSpec := { name := "flowReaches", fn := fun _ => fun
  | [d1, d2] => { results := [.lit (.bool true)], args := [d1, d2] }
  | _ => none }
def flowReachesRow : OpenClaim := { program := "ytelbajcfdecaoaadoor", sum := "c8b28848bc85f83948908c1606beed22a5829157ef78857c14ee82855087c9a4", func := "proviso/provisolaw05.FlowReaches", spec := "flowReaches", unfollowed := true, recurses := true, named := ["proviso/code.widths"], apart := false, laid := [("proviso/code.widths", laid_proviso_code_widths)] }
def FlowReachesSaid : Prop := flowReachesRow.holds Tryd.pinned (OpenSpec.ofChange flowReachesSpec)

/-- ITS FALSE NEIGHBOUR: 'it returns false'. Refute it at one input. -/
def flowReachesWrong : ChangeSpec := { name := "flowReaches", fn := fun _ => fun
  | [d1, d2] => { results := [.lit (.bool false)], args := [d1, d2] }
  | _ => none }
def FlowReachesWrongFalsely : Prop := flowReachesRow.holds Tryd.pinned (OpenSpec.ofChange flowReachesWrong)

/-- 'provisolaw05.FlowBlocks': WHATEVER THE INPUT: true; the input reads as it did. -/
def flowBlocksSpec : ChangeSpec := { name := "flowBlocks", fn := fun _ => fun
  | [d] => { results := [.lit (.bool true)], args := [d] }
  | _ => none }
def flowBlocksRow : OpenClaim := { program := "ytelbajcfdecaoaadoor", sum := "c8b28848bc85f83948908c1606beed22a5829157ef78857c14ee82855087c9a4", func := "proviso/provisolaw05.FlowBlocks", spec := "flowBlocks", unfollowed := true, recurses := true, named := ["proviso/code.widths"], apart := false, laid := [("proviso/code.widths", laid_proviso_code_widths)] }
def FlowBlocksSaid : Prop := flowBlocksRow.holds Tryd.pinned (OpenSpec.ofChange flowBlocksSpec)

/-- ITS FALSE NEIGHBOUR: 'it returns false'. Refute it at one input. -/
def flowBlocksWrong : ChangeSpec := { name := "flowBlocks", fn := fun _ => fun
  | [d] => { results := [.lit (.bool false)], args := [d] }
  | _ => none }
def FlowBlocksWrongFalsely : Prop := flowBlocksRow.holds Tryd.pinned (OpenSpec.ofChange flowBlocksWrong)

/- THE SECOND FORM. 'bulk': how many values and letters a reading holds, each counted each time it is reached (what is shared counts as often as it is met; a slice's spare places count too). A statement '..UptoSaid' is the law's where the arguments, and the package variables that the reading takes, are together of bulk at most 1048576: NARROWER than '..Said'. Prove '..Said' where nothing that the law and all that it calls make is longer than what came in: it says more and counts as full. Else prove '..UptoSaid'. A law counts once. -/
mutual
def uptoBulk {H : Type} : DataW H → Nat
  | .lit (.string bytes) => bytes.length + 1
  | .lit _ => 1
  | .nil => 1
  | .ptr d => uptoBulk d + 1
  | .slice elems spare => uptoBulkAll elems + uptoBulkAll spare + 1
  | .agg parts => uptoBulkAll parts + 1
  | .iface _ d => uptoBulk d + 1
  | .map entries => uptoBulkEntries entries + 1
  | .held _ => 1
def uptoBulkAll {H : Type} : List (DataW H) → Nat
  | [] => 0
  | d :: r => uptoBulk d + uptoBulkAll r
def uptoBulkEntries {H : Type} : List (Lit × DataW H) → Nat
  | [] => 0
  | x :: r => uptoBulkEntry x + uptoBulkEntries r
def uptoBulkEntry {H : Type} : Lit × DataW H → Nat
  | (.string bytes, d) => bytes.length + uptoBulk d + 1
  | (_, d) => uptoBulk d + 1
 end
def uptoSmall : (H : Type) → List (DataW H) → Bool := fun _ ds => decide (uptoBulkAll ds ≤ 1048576)
def OpenSpec.upto (s : _root_.Go.ChangeSpec) : _root_.Go.OpenSpec := { _root_.Go.OpenSpec.ofChange s with cond := some uptoSmall }

/-- 'provisolaw03.FramesChecks', WHERE WHAT IT READS IS OF BULK AT MOST 1048576: true; the input reads as it did. -/
def framesChecksUptoRow : OpenClaim := { program := "ytelbajcfdecaoaadoor", sum := "c8b28848bc85f83948908c1606beed22a5829157ef78857c14ee82855087c9a4", func := "proviso/provisolaw03.FramesChecks", spec := "framesChecks", inPlace := ["internal/abi.NoEscape", "internal/bytealg.MakeNoZero"], unfollowed := true, recurses := true, named := ["proviso/types.words"], apart := false, laid := [("proviso/types.words", laid_proviso_types_words)], narrowed := true }
def FramesChecksUptoSaid : Prop := framesChecksUptoRow.holds Tryd.pinned (OpenSpec.upto framesChecksSpec)

/-- 'provisolaw05.FlowScans', WHERE WHAT IT READS IS OF BULK AT MOST 1048576: true; the input reads as it did. -/
def flowScansUptoRow : OpenClaim := { program := "ytelbajcfdecaoaadoor", sum := "c8b28848bc85f83948908c1606beed22a5829157ef78857c14ee82855087c9a4", func := "proviso/provisolaw05.FlowScans", spec := "flowScans", unfollowed := true, recurses := true, named := ["proviso/code.widths"], apart := false, laid := [("proviso/code.widths", laid_proviso_code_widths)], narrowed := true }
def FlowScansUptoSaid : Prop := flowScansUptoRow.holds Tryd.pinned (OpenSpec.upto flowScansSpec)

/-- 'provisolaw05.FlowNexts', WHERE WHAT IT READS IS OF BULK AT MOST 1048576: true; the input reads as it did. -/
def flowNextsUptoRow : OpenClaim := { program := "ytelbajcfdecaoaadoor", sum := "c8b28848bc85f83948908c1606beed22a5829157ef78857c14ee82855087c9a4", func := "proviso/provisolaw05.FlowNexts", spec := "flowNexts", recurses := true, named := ["proviso/code.widths"], apart := false, laid := [("proviso/code.widths", laid_proviso_code_widths)], narrowed := true }
def FlowNextsUptoSaid : Prop := flowNextsUptoRow.holds Tryd.pinned (OpenSpec.upto flowNextsSpec)

/-- 'provisolaw05.FlowLists', WHERE WHAT IT READS IS OF BULK AT MOST 1048576: true; the input reads as it did. -/
def flowListsUptoRow : OpenClaim := { program := "ytelbajcfdecaoaadoor", sum := "c8b28848bc85f83948908c1606beed22a5829157ef78857c14ee82855087c9a4", func := "proviso/provisolaw05.FlowLists", spec := "flowLists", recurses := true, named := ["proviso/code.widths"], apart := false, laid := [("proviso/code.widths", laid_proviso_code_widths)], narrowed := true }
def FlowListsUptoSaid : Prop := flowListsUptoRow.holds Tryd.pinned (OpenSpec.upto flowListsSpec)

/-- 'provisolaw05.FlowReaches', WHERE WHAT IT READS IS OF BULK AT MOST 1048576: true; the input reads as it did. -/
def flowReachesUptoRow : OpenClaim := { program := "ytelbajcfdecaoaadoor", sum := "c8b28848bc85f83948908c1606beed22a5829157ef78857c14ee82855087c9a4", func := "proviso/provisolaw05.FlowReaches", spec := "flowReaches", unfollowed := true, recurses := true, named := ["proviso/code.widths"], apart := false, laid := [("proviso/code.widths", laid_proviso_code_widths)], narrowed := true }
def FlowReachesUptoSaid : Prop := flowReachesUptoRow.holds Tryd.pinned (OpenSpec.upto flowReachesSpec)

/-- 'provisolaw05.FlowBlocks', WHERE WHAT IT READS IS OF BULK AT MOST 1048576: true; the input reads as it did. -/
def flowBlocksUptoRow : OpenClaim := { program := "ytelbajcfdecaoaadoor", sum := "c8b28848bc85f83948908c1606beed22a5829157ef78857c14ee82855087c9a4", func := "proviso/provisolaw05.FlowBlocks", spec := "flowBlocks", unfollowed := true, recurses := true, named := ["proviso/code.widths"], apart := false, laid := [("proviso/code.widths", laid_proviso_code_widths)], narrowed := true }
def FlowBlocksUptoSaid : Prop := flowBlocksUptoRow.holds Tryd.pinned (OpenSpec.upto flowBlocksSpec)

end Rows
end Go.Proofs.YtelbajcfdecaoaaDoor
