/-
  NARROWER THAN 'FOR EVERY INPUT', by the rows' own cells (each row's printed sentence says how): CodePatches: laid · CodeBack: laid · CodeForm: laid · CodeApart: laid.
  DERIVED. THE GIVEN ROWS OF THIS SEAT. 4 by the template 'for every input the law returns true; each argument reads behind the call as it read before'; 0 by the template 'total and deterministic' (their statements: YtihkodfcgfnjoacDoorTotals.lean).
  GIVEN WITH THE SEED: the statements are not yours to turn. If you find one false, say at which input.
  Laid BY PROGRAM, IN A SANDBOX (cutbox-rows.mjs): the forced cells as the released guide's own fill.sh prints them over the translation f57b3a77cd51bce6… (all of the seat's roots in one cut). By AI agents, Wed Nov 11 2026. No macro, syntax, notation, axiom, sorry.
-/
import Derived.Test.YtihkodfcgfnjoacDoorChecked
import GoSem.Claim
import GoSem.ClaimJoined
import GoSem.ClaimMapViews
import Derived.JoinedTies
import Derived.KernelRfl
namespace Go.Proofs.YtihkodfcgfnjoacDoor
/- THE CELL 'sum', in the pinned program and in every row, IS THE sha256 OF THE DUMP (.gsa) THAT YtihkodfcgfnjoacDoorProg.lean LOADS. Nothing in Lean hashes anything: it is a label: what it is worth is what the hold of that sum in a sandbox is worth. -/
noncomputable def Tryd.pinned : Pinned := { name := "ytihkodfcgfnjoacdoor", sum := "f57b3a77cd51bce6a7160cf0fa90ed4ddfdead79440efc926933a1e7219be70f", checked := Tryd.checked }
namespace Rows
def none {H : Type} : Left H := { results := [], args := [] }

/- WHAT THE LISTED PACKAGE-LEVEL VARIABLES READ AS WHEN THE CALL BEGINS. Each datum BY PROGRAM (the guide's laid-datum.mjs) off the statement by which the dump's own 'gosem.cut.vars' lays the variable. In a bare row this is a premise. The card (YtihkodfcgfnjoacDoorCards.lean) ties it to the program's text. -/
def laid_proviso_code_widths {H : Type} : DataW H := .agg [.agg [.lit (.int .i64 0), .lit (.int .i64 0)], .agg [.lit (.int .i64 4), .lit (.int .i64 0)], .agg [.lit (.int .i64 1), .lit (.int .i64 0)], .agg [.lit (.int .i64 0), .lit (.int .i64 0)], .agg [.lit (.int .i64 1), .lit (.int .i64 0)], .agg [.lit (.int .i64 1), .lit (.int .i64 0)], .agg [.lit (.int .i64 0), .lit (.int .i64 0)], .agg [.lit (.int .i64 0), .lit (.int .i64 0)], .agg [.lit (.int .i64 0), .lit (.int .i64 0)], .agg [.lit (.int .i64 0), .lit (.int .i64 0)], .agg [.lit (.int .i64 0), .lit (.int .i64 0)], .agg [.lit (.int .i64 0), .lit (.int .i64 0)], .agg [.lit (.int .i64 0), .lit (.int .i64 0)], .agg [.lit (.int .i64 0), .lit (.int .i64 0)], .agg [.lit (.int .i64 0), .lit (.int .i64 0)], .agg [.lit (.int .i64 0), .lit (.int .i64 0)], .agg [.lit (.int .i64 0), .lit (.int .i64 0)], .agg [.lit (.int .i64 0), .lit (.int .i64 0)], .agg [.lit (.int .i64 0), .lit (.int .i64 0)], .agg [.lit (.int .i64 2), .lit (.int .i64 0)], .agg [.lit (.int .i64 2), .lit (.int .i64 0)], .agg [.lit (.int .i64 1), .lit (.int .i64 0)], .agg [.lit (.int .i64 0), .lit (.int .i64 0)], .agg [.lit (.int .i64 1), .lit (.int .i64 0)], .agg [.lit (.int .i64 1), .lit (.int .i64 1)], .agg [.lit (.int .i64 1), .lit (.int .i64 1)], .agg [.lit (.int .i64 0), .lit (.int .i64 0)], .agg [.lit (.int .i64 0), .lit (.int .i64 0)], .agg [.lit (.int .i64 0), .lit (.int .i64 0)], .agg [.lit (.int .i64 0), .lit (.int .i64 0)], .agg [.lit (.int .i64 1), .lit (.int .i64 0)], .agg [.lit (.int .i64 1), .lit (.int .i64 0)], .agg [.lit (.int .i64 1), .lit (.int .i64 0)], .agg [.lit (.int .i64 0), .lit (.int .i64 0)]]
def laid_proviso_code_words {H : Type} : DataW H := .agg [.lit (.string [110, 111, 112]), .lit (.string [105, 110, 116]), .lit (.string [98, 111, 111, 108]), .lit (.string [110, 117, 108, 108]), .lit (.string [108, 111, 97, 100]), .lit (.string [115, 116, 111, 114, 101]), .lit (.string [112, 111, 112]), .lit (.string [100, 117, 112]), .lit (.string [115, 119, 97, 112]), .lit (.string [97, 100, 100]), .lit (.string [115, 117, 98]), .lit (.string [109, 117, 108]), .lit (.string [100, 105, 118]), .lit (.string [114, 101, 109]), .lit (.string [110, 101, 103]), .lit (.string [108, 101, 115, 115]), .lit (.string [115, 97, 109, 101]), .lit (.string [110, 111, 116]), .lit (.string [105, 115]), .lit (.string [106, 117, 109, 112]), .lit (.string [117, 110, 108, 101, 115, 115]), .lit (.string [99, 97, 108, 108]), .lit (.string [114, 101, 116, 117, 114, 110]), .lit (.string [110, 101, 119]), .lit (.string [103, 101, 116]), .lit (.string [112, 117, 116]), .lit (.string [109, 97, 107, 101]), .lit (.string [108, 101, 110]), .lit (.string [97, 116]), .lit (.string [115, 101, 116]), .lit (.string [99, 97, 115, 116]), .lit (.string [116, 101, 115, 116]), .lit (.string [116, 114, 97, 112]), .lit (.string [116, 101, 108, 108])]

/-- 'provisolaw04.CodePatches': WHATEVER THE INPUT: true; the input reads as it did. -/
def codePatchesSpec : ChangeSpec := { name := "codePatches", fn := fun _ => fun
  | [d1, d2, d3] => { results := [.lit (.bool true)], args := [d1, d2, d3] }
  | _ => none }
def codePatchesRow : OpenClaim := { program := "ytihkodfcgfnjoacdoor", sum := "f57b3a77cd51bce6a7160cf0fa90ed4ddfdead79440efc926933a1e7219be70f", func := "proviso/provisolaw04.CodePatches", spec := "codePatches", named := ["proviso/code.widths"], apart := false, laid := [("proviso/code.widths", laid_proviso_code_widths)] }
def CodePatchesSaid : Prop := codePatchesRow.holds Tryd.pinned (OpenSpec.ofChange codePatchesSpec)

/-- ITS FALSE NEIGHBOUR: 'it returns false'. Refute it at one input. -/
def codePatchesWrong : ChangeSpec := { name := "codePatches", fn := fun _ => fun
  | [d1, d2, d3] => { results := [.lit (.bool false)], args := [d1, d2, d3] }
  | _ => none }
def CodePatchesWrongFalsely : Prop := codePatchesRow.holds Tryd.pinned (OpenSpec.ofChange codePatchesWrong)

/-- 'provisolaw04.CodeBack': WHATEVER THE INPUT: true; the input reads as it did. -/
def codeBackSpec : ChangeSpec := { name := "codeBack", fn := fun _ => fun
  | [d1, d2, d3] => { results := [.lit (.bool true)], args := [d1, d2, d3] }
  | _ => none }
def codeBackRow : OpenClaim := { program := "ytihkodfcgfnjoacdoor", sum := "f57b3a77cd51bce6a7160cf0fa90ed4ddfdead79440efc926933a1e7219be70f", func := "proviso/provisolaw04.CodeBack", spec := "codeBack", named := ["proviso/code.widths"], apart := false, laid := [("proviso/code.widths", laid_proviso_code_widths)] }
def CodeBackSaid : Prop := codeBackRow.holds Tryd.pinned (OpenSpec.ofChange codeBackSpec)

/-- ITS FALSE NEIGHBOUR: 'it returns false'. Refute it at one input. -/
def codeBackWrong : ChangeSpec := { name := "codeBack", fn := fun _ => fun
  | [d1, d2, d3] => { results := [.lit (.bool false)], args := [d1, d2, d3] }
  | _ => none }
def CodeBackWrongFalsely : Prop := codeBackRow.holds Tryd.pinned (OpenSpec.ofChange codeBackWrong)

/-- 'provisolaw04.CodeForm': WHATEVER THE INPUT: true; the input reads as it did. -/
def codeFormSpec : ChangeSpec := { name := "codeForm", fn := fun _ => fun
  | [d1, d2] => { results := [.lit (.bool true)], args := [d1, d2] }
  | _ => none }
def codeFormRow : OpenClaim := { program := "ytihkodfcgfnjoacdoor", sum := "f57b3a77cd51bce6a7160cf0fa90ed4ddfdead79440efc926933a1e7219be70f", func := "proviso/provisolaw04.CodeForm", spec := "codeForm", named := ["proviso/code.widths"], apart := false, laid := [("proviso/code.widths", laid_proviso_code_widths)] }
def CodeFormSaid : Prop := codeFormRow.holds Tryd.pinned (OpenSpec.ofChange codeFormSpec)

/-- ITS FALSE NEIGHBOUR: 'it returns false'. Refute it at one input. -/
def codeFormWrong : ChangeSpec := { name := "codeForm", fn := fun _ => fun
  | [d1, d2] => { results := [.lit (.bool false)], args := [d1, d2] }
  | _ => none }
def CodeFormWrongFalsely : Prop := codeFormRow.holds Tryd.pinned (OpenSpec.ofChange codeFormWrong)

/-- 'provisolaw04.CodeApart': WHATEVER THE INPUT: true; the input reads as it did. -/
def codeApartSpec : ChangeSpec := { name := "codeApart", fn := fun _ => fun
  | [d1, d2] => { results := [.lit (.bool true)], args := [d1, d2] }
  | _ => none }
def codeApartRow : OpenClaim := { program := "ytihkodfcgfnjoacdoor", sum := "f57b3a77cd51bce6a7160cf0fa90ed4ddfdead79440efc926933a1e7219be70f", func := "proviso/provisolaw04.CodeApart", spec := "codeApart", named := ["proviso/code.widths", "proviso/code.words"], apart := false, laid := [("proviso/code.widths", laid_proviso_code_widths), ("proviso/code.words", laid_proviso_code_words)] }
def CodeApartSaid : Prop := codeApartRow.holds Tryd.pinned (OpenSpec.ofChange codeApartSpec)

/-- ITS FALSE NEIGHBOUR: 'it returns false'. Refute it at one input. -/
def codeApartWrong : ChangeSpec := { name := "codeApart", fn := fun _ => fun
  | [d1, d2] => { results := [.lit (.bool false)], args := [d1, d2] }
  | _ => none }
def CodeApartWrongFalsely : Prop := codeApartRow.holds Tryd.pinned (OpenSpec.ofChange codeApartWrong)

/- THE SECOND FORM. 'bulk': how many values and letters a reading holds, each counted each time it is reached (what is shared counts as often as it is met; a slice's spare places count too). A statement '..UptoSaid' is the law's where the arguments, and the package variables that the reading takes, are together of bulk at most 1048576: NARROWER than '..Said'. Prove '..Said' where nothing that the law and all that it calls make is longer than what came in: it says more and counts as full. Else prove '..UptoSaid'. A law counts once. -/
mutual
def uptoBulk {H : Type} : DataW H → Nat
  | .lit (.string bytes) => bytes.length + 1
  | .lit _ => 1
  | .nil => 1
  | .ptr d => uptoBulk d + 1
  | .slice elems spare => uptoBulkAll elems + uptoBulkAll spare + 1
  | .agg parts => uptoBulkAll parts + 1
  | .iface _ d => uptoBulk d + 1
  | .map entries => uptoBulkEntries entries + 1
  | .held _ => 1
def uptoBulkAll {H : Type} : List (DataW H) → Nat
  | [] => 0
  | d :: r => uptoBulk d + uptoBulkAll r
def uptoBulkEntries {H : Type} : List (Lit × DataW H) → Nat
  | [] => 0
  | x :: r => uptoBulkEntry x + uptoBulkEntries r
def uptoBulkEntry {H : Type} : Lit × DataW H → Nat
  | (.string bytes, d) => bytes.length + uptoBulk d + 1
  | (_, d) => uptoBulk d + 1
 end
def uptoSmall : (H : Type) → List (DataW H) → Bool := fun _ ds => decide (uptoBulkAll ds ≤ 1048576)
def OpenSpec.upto (s : _root_.Go.ChangeSpec) : _root_.Go.OpenSpec := { _root_.Go.OpenSpec.ofChange s with cond := some uptoSmall }

/-- 'provisolaw04.CodePatches', WHERE WHAT IT READS IS OF BULK AT MOST 1048576: true; the input reads as it did. -/
def codePatchesUptoRow : OpenClaim := { program := "ytihkodfcgfnjoacdoor", sum := "f57b3a77cd51bce6a7160cf0fa90ed4ddfdead79440efc926933a1e7219be70f", func := "proviso/provisolaw04.CodePatches", spec := "codePatches", named := ["proviso/code.widths"], apart := false, laid := [("proviso/code.widths", laid_proviso_code_widths)], narrowed := true }
def CodePatchesUptoSaid : Prop := codePatchesUptoRow.holds Tryd.pinned (OpenSpec.upto codePatchesSpec)

/-- 'provisolaw04.CodeBack', WHERE WHAT IT READS IS OF BULK AT MOST 1048576: true; the input reads as it did. -/
def codeBackUptoRow : OpenClaim := { program := "ytihkodfcgfnjoacdoor", sum := "f57b3a77cd51bce6a7160cf0fa90ed4ddfdead79440efc926933a1e7219be70f", func := "proviso/provisolaw04.CodeBack", spec := "codeBack", named := ["proviso/code.widths"], apart := false, laid := [("proviso/code.widths", laid_proviso_code_widths)], narrowed := true }
def CodeBackUptoSaid : Prop := codeBackUptoRow.holds Tryd.pinned (OpenSpec.upto codeBackSpec)

/-- 'provisolaw04.CodeForm', WHERE WHAT IT READS IS OF BULK AT MOST 1048576: true; the input reads as it did. -/
def codeFormUptoRow : OpenClaim := { program := "ytihkodfcgfnjoacdoor", sum := "f57b3a77cd51bce6a7160cf0fa90ed4ddfdead79440efc926933a1e7219be70f", func := "proviso/provisolaw04.CodeForm", spec := "codeForm", named := ["proviso/code.widths"], apart := false, laid := [("proviso/code.widths", laid_proviso_code_widths)], narrowed := true }
def CodeFormUptoSaid : Prop := codeFormUptoRow.holds Tryd.pinned (OpenSpec.upto codeFormSpec)

/-- 'provisolaw04.CodeApart', WHERE WHAT IT READS IS OF BULK AT MOST 1048576: true; the input reads as it did. -/
def codeApartUptoRow : OpenClaim := { program := "ytihkodfcgfnjoacdoor", sum := "f57b3a77cd51bce6a7160cf0fa90ed4ddfdead79440efc926933a1e7219be70f", func := "proviso/provisolaw04.CodeApart", spec := "codeApart", named := ["proviso/code.widths", "proviso/code.words"], apart := false, laid := [("proviso/code.widths", laid_proviso_code_widths), ("proviso/code.words", laid_proviso_code_words)], narrowed := true }
def CodeApartUptoSaid : Prop := codeApartUptoRow.holds Tryd.pinned (OpenSpec.upto codeApartSpec)

end Rows
end Go.Proofs.YtihkodfcgfnjoacDoor
