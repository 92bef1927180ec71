/-
  NARROWER THAN 'FOR EVERY INPUT', by the rows' own cells (each row's printed sentence says how): ModuleEncodes: laid · ModuleDecodes: laid · ModuleBack: laid · ModuleForm: laid · ModuleTurned: laid · ModuleBegins: laid.
  DERIVED. THE GIVEN ROWS OF THIS SEAT. 6 by the template 'for every input the law returns true; each argument reads behind the call as it read before'; 0 by the template 'total and deterministic' (their statements: YtibgfdjopikafaaGreatDoorTotals.lean).
  GIVEN WITH THE SEED: the statements are not yours to turn. If you find one false, say at which input.
  Laid BY PROGRAM, IN A SANDBOX (cutbox-rows.mjs): the forced cells as the released guide's own fill.sh prints them over the translation 37e97d09362e7d7c… (all of the seat's roots in one cut). By AI agents, Wed Nov 11 2026. No macro, syntax, notation, axiom, sorry.
-/
import Derived.Test.YtibgfdjopikafaaGreatDoorChecked
import GoSem.Claim
import GoSem.ClaimJoined
import GoSem.ClaimMapViews
import Derived.JoinedTies
import Derived.KernelRfl
namespace Go.Proofs.YtibgfdjopikafaaGreatDoor
/- THE CELL 'sum', in the pinned program and in every row, IS THE sha256 OF THE DUMP (.gsa) THAT YtibgfdjopikafaaGreatDoorProg.lean LOADS. Nothing in Lean hashes anything: it is a label: what it is worth is what the hold of that sum in a sandbox is worth. -/
noncomputable def Tryz.pinned : Pinned := { name := "ytibgfdjopikafaagreatdoor", sum := "37e97d09362e7d7cdfe82698a77647d3fa113ac0e29a60d0f995b39299bb5b16", checked := Tryz.checked }
namespace Rows
def none {H : Type} : Left H := { results := [], args := [] }

/- WHAT THE LISTED PACKAGE-LEVEL VARIABLES READ AS WHEN THE CALL BEGINS. Each datum BY PROGRAM (the guide's laid-datum.mjs) off the statement by which the dump's own 'gosem.cut.vars' lays the variable. In a bare row this is a premise. The card (YtibgfdjopikafaaGreatDoorCards.lean) ties it to the program's text. -/
def laid_errors_errorType {H : Type} : DataW H := .iface "internal/reflectlite.rtype" (.agg [.ptr (.lit (.string [101, 114, 114, 111, 114]))])
def laid_proviso_types_words {H : Type} : DataW H := .agg [.lit (.string [116, 111, 112]), .lit (.string [105, 110, 116]), .lit (.string [98, 111, 111, 108]), .lit (.string [110, 117, 108, 108]), .lit (.string [105, 110, 116, 115]), .lit (.string [97, 110, 121])]

/-- 'provisolaw16.ModuleEncodes': WHATEVER THE INPUT: true; the input reads as it did. -/
def moduleEncodesSpec : ChangeSpec := { name := "moduleEncodes", fn := fun _ => fun
  | [d] => { results := [.lit (.bool true)], args := [d] }
  | _ => none }
def moduleEncodesRow : OpenClaim := { program := "ytibgfdjopikafaagreatdoor", sum := "37e97d09362e7d7cdfe82698a77647d3fa113ac0e29a60d0f995b39299bb5b16", func := "proviso/provisolaw16.ModuleEncodes", spec := "moduleEncodes", inPlace := ["internal/reflectlite.ValueOf", "(internal/reflectlite.Value).Type", "(internal/reflectlite.Value).IsNil", "internal/reflectlite.TypeOf", "(internal/reflectlite.Value).Elem", "(internal/reflectlite.Value).Set"], unfollowed := true, recurses := true, named := ["proviso/types.words", "errors.errorType"], apart := false, laid := [("errors.errorType", laid_errors_errorType), ("proviso/types.words", laid_proviso_types_words)] }
def ModuleEncodesSaid : Prop := moduleEncodesRow.holds Tryz.pinned (OpenSpec.ofChange moduleEncodesSpec)

/-- ITS FALSE NEIGHBOUR: 'it returns false'. Refute it at one input. -/
def moduleEncodesWrong : ChangeSpec := { name := "moduleEncodes", fn := fun _ => fun
  | [d] => { results := [.lit (.bool false)], args := [d] }
  | _ => none }
def ModuleEncodesWrongFalsely : Prop := moduleEncodesRow.holds Tryz.pinned (OpenSpec.ofChange moduleEncodesWrong)

/-- 'provisolaw16.ModuleDecodes': WHATEVER THE INPUT: true; the input reads as it did. -/
def moduleDecodesSpec : ChangeSpec := { name := "moduleDecodes", fn := fun _ => fun
  | [d] => { results := [.lit (.bool true)], args := [d] }
  | _ => none }
def moduleDecodesRow : OpenClaim := { program := "ytibgfdjopikafaagreatdoor", sum := "37e97d09362e7d7cdfe82698a77647d3fa113ac0e29a60d0f995b39299bb5b16", func := "proviso/provisolaw16.ModuleDecodes", spec := "moduleDecodes", inPlace := ["internal/reflectlite.ValueOf", "(internal/reflectlite.Value).Type", "(internal/reflectlite.Value).IsNil", "internal/reflectlite.TypeOf", "(internal/reflectlite.Value).Elem", "(internal/reflectlite.Value).Set"], unfollowed := true, recurses := true, named := ["proviso/types.words", "errors.errorType"], apart := false, laid := [("errors.errorType", laid_errors_errorType), ("proviso/types.words", laid_proviso_types_words)] }
def ModuleDecodesSaid : Prop := moduleDecodesRow.holds Tryz.pinned (OpenSpec.ofChange moduleDecodesSpec)

/-- ITS FALSE NEIGHBOUR: 'it returns false'. Refute it at one input. -/
def moduleDecodesWrong : ChangeSpec := { name := "moduleDecodes", fn := fun _ => fun
  | [d] => { results := [.lit (.bool false)], args := [d] }
  | _ => none }
def ModuleDecodesWrongFalsely : Prop := moduleDecodesRow.holds Tryz.pinned (OpenSpec.ofChange moduleDecodesWrong)

/-- 'provisolaw16.ModuleBack': WHATEVER THE INPUT: true; the input reads as it did. -/
def moduleBackSpec : ChangeSpec := { name := "moduleBack", fn := fun _ => fun
  | [d] => { results := [.lit (.bool true)], args := [d] }
  | _ => none }
def moduleBackRow : OpenClaim := { program := "ytibgfdjopikafaagreatdoor", sum := "37e97d09362e7d7cdfe82698a77647d3fa113ac0e29a60d0f995b39299bb5b16", func := "proviso/provisolaw16.ModuleBack", spec := "moduleBack", inPlace := ["internal/reflectlite.ValueOf", "(internal/reflectlite.Value).Type", "(internal/reflectlite.Value).IsNil", "internal/reflectlite.TypeOf", "(internal/reflectlite.Value).Elem", "(internal/reflectlite.Value).Set"], unfollowed := true, recurses := true, named := ["proviso/types.words", "errors.errorType"], apart := false, laid := [("errors.errorType", laid_errors_errorType), ("proviso/types.words", laid_proviso_types_words)] }
def ModuleBackSaid : Prop := moduleBackRow.holds Tryz.pinned (OpenSpec.ofChange moduleBackSpec)

/-- ITS FALSE NEIGHBOUR: 'it returns false'. Refute it at one input. -/
def moduleBackWrong : ChangeSpec := { name := "moduleBack", fn := fun _ => fun
  | [d] => { results := [.lit (.bool false)], args := [d] }
  | _ => none }
def ModuleBackWrongFalsely : Prop := moduleBackRow.holds Tryz.pinned (OpenSpec.ofChange moduleBackWrong)

/-- 'provisolaw16.ModuleForm': WHATEVER THE INPUT: true; the input reads as it did. -/
def moduleFormSpec : ChangeSpec := { name := "moduleForm", fn := fun _ => fun
  | [d] => { results := [.lit (.bool true)], args := [d] }
  | _ => none }
def moduleFormRow : OpenClaim := { program := "ytibgfdjopikafaagreatdoor", sum := "37e97d09362e7d7cdfe82698a77647d3fa113ac0e29a60d0f995b39299bb5b16", func := "proviso/provisolaw16.ModuleForm", spec := "moduleForm", inPlace := ["internal/reflectlite.ValueOf", "(internal/reflectlite.Value).Type", "(internal/reflectlite.Value).IsNil", "internal/reflectlite.TypeOf", "(internal/reflectlite.Value).Elem", "(internal/reflectlite.Value).Set"], unfollowed := true, recurses := true, named := ["proviso/types.words", "errors.errorType"], apart := false, laid := [("errors.errorType", laid_errors_errorType), ("proviso/types.words", laid_proviso_types_words)] }
def ModuleFormSaid : Prop := moduleFormRow.holds Tryz.pinned (OpenSpec.ofChange moduleFormSpec)

/-- ITS FALSE NEIGHBOUR: 'it returns false'. Refute it at one input. -/
def moduleFormWrong : ChangeSpec := { name := "moduleForm", fn := fun _ => fun
  | [d] => { results := [.lit (.bool false)], args := [d] }
  | _ => none }
def ModuleFormWrongFalsely : Prop := moduleFormRow.holds Tryz.pinned (OpenSpec.ofChange moduleFormWrong)

/-- 'provisolaw16.ModuleTurned': WHATEVER THE INPUT: true; the input reads as it did. -/
def moduleTurnedSpec : ChangeSpec := { name := "moduleTurned", fn := fun _ => fun
  | [d1, d2, d3] => { results := [.lit (.bool true)], args := [d1, d2, d3] }
  | _ => none }
def moduleTurnedRow : OpenClaim := { program := "ytibgfdjopikafaagreatdoor", sum := "37e97d09362e7d7cdfe82698a77647d3fa113ac0e29a60d0f995b39299bb5b16", func := "proviso/provisolaw16.ModuleTurned", spec := "moduleTurned", inPlace := ["internal/reflectlite.ValueOf", "(internal/reflectlite.Value).Type", "(internal/reflectlite.Value).IsNil", "internal/reflectlite.TypeOf", "(internal/reflectlite.Value).Elem", "(internal/reflectlite.Value).Set"], unfollowed := true, recurses := true, named := ["proviso/types.words", "errors.errorType"], apart := false, laid := [("errors.errorType", laid_errors_errorType), ("proviso/types.words", laid_proviso_types_words)] }
def ModuleTurnedSaid : Prop := moduleTurnedRow.holds Tryz.pinned (OpenSpec.ofChange moduleTurnedSpec)

/-- ITS FALSE NEIGHBOUR: 'it returns false'. Refute it at one input. -/
def moduleTurnedWrong : ChangeSpec := { name := "moduleTurned", fn := fun _ => fun
  | [d1, d2, d3] => { results := [.lit (.bool false)], args := [d1, d2, d3] }
  | _ => none }
def ModuleTurnedWrongFalsely : Prop := moduleTurnedRow.holds Tryz.pinned (OpenSpec.ofChange moduleTurnedWrong)

/-- 'provisolaw16.ModuleBegins': WHATEVER THE INPUT: true; the input reads as it did. -/
def moduleBeginsSpec : ChangeSpec := { name := "moduleBegins", fn := fun _ => fun
  | [d1, d2, d3] => { results := [.lit (.bool true)], args := [d1, d2, d3] }
  | _ => none }
def moduleBeginsRow : OpenClaim := { program := "ytibgfdjopikafaagreatdoor", sum := "37e97d09362e7d7cdfe82698a77647d3fa113ac0e29a60d0f995b39299bb5b16", func := "proviso/provisolaw16.ModuleBegins", spec := "moduleBegins", inPlace := ["internal/reflectlite.ValueOf", "(internal/reflectlite.Value).Type", "(internal/reflectlite.Value).IsNil", "internal/reflectlite.TypeOf", "(internal/reflectlite.Value).Elem", "(internal/reflectlite.Value).Set"], unfollowed := true, recurses := true, named := ["proviso/types.words", "errors.errorType"], apart := false, laid := [("errors.errorType", laid_errors_errorType), ("proviso/types.words", laid_proviso_types_words)] }
def ModuleBeginsSaid : Prop := moduleBeginsRow.holds Tryz.pinned (OpenSpec.ofChange moduleBeginsSpec)

/-- ITS FALSE NEIGHBOUR: 'it returns false'. Refute it at one input. -/
def moduleBeginsWrong : ChangeSpec := { name := "moduleBegins", fn := fun _ => fun
  | [d1, d2, d3] => { results := [.lit (.bool false)], args := [d1, d2, d3] }
  | _ => none }
def ModuleBeginsWrongFalsely : Prop := moduleBeginsRow.holds Tryz.pinned (OpenSpec.ofChange moduleBeginsWrong)

/- THE SECOND FORM. 'bulk': how many values and letters a reading holds, each counted each time it is reached (what is shared counts as often as it is met; a slice's spare places count too). A statement '..UptoSaid' is the law's where the arguments, and the package variables that the reading takes, are together of bulk at most 1048576: NARROWER than '..Said'. Prove '..Said' where nothing that the law and all that it calls make is longer than what came in: it says more and counts as full. Else prove '..UptoSaid'. A law counts once. -/
mutual
def uptoBulk {H : Type} : DataW H → Nat
  | .lit (.string bytes) => bytes.length + 1
  | .lit _ => 1
  | .nil => 1
  | .ptr d => uptoBulk d + 1
  | .slice elems spare => uptoBulkAll elems + uptoBulkAll spare + 1
  | .agg parts => uptoBulkAll parts + 1
  | .iface _ d => uptoBulk d + 1
  | .map entries => uptoBulkEntries entries + 1
  | .held _ => 1
def uptoBulkAll {H : Type} : List (DataW H) → Nat
  | [] => 0
  | d :: r => uptoBulk d + uptoBulkAll r
def uptoBulkEntries {H : Type} : List (Lit × DataW H) → Nat
  | [] => 0
  | x :: r => uptoBulkEntry x + uptoBulkEntries r
def uptoBulkEntry {H : Type} : Lit × DataW H → Nat
  | (.string bytes, d) => bytes.length + uptoBulk d + 1
  | (_, d) => uptoBulk d + 1
 end
def uptoSmall : (H : Type) → List (DataW H) → Bool := fun _ ds => decide (uptoBulkAll ds ≤ 1048576)
def OpenSpec.upto (s : _root_.Go.ChangeSpec) : _root_.Go.OpenSpec := { _root_.Go.OpenSpec.ofChange s with cond := some uptoSmall }

/-- 'provisolaw16.ModuleEncodes', WHERE WHAT IT READS IS OF BULK AT MOST 1048576: true; the input reads as it did. -/
def moduleEncodesUptoRow : OpenClaim := { program := "ytibgfdjopikafaagreatdoor", sum := "37e97d09362e7d7cdfe82698a77647d3fa113ac0e29a60d0f995b39299bb5b16", func := "proviso/provisolaw16.ModuleEncodes", spec := "moduleEncodes", inPlace := ["internal/reflectlite.ValueOf", "(internal/reflectlite.Value).Type", "(internal/reflectlite.Value).IsNil", "internal/reflectlite.TypeOf", "(internal/reflectlite.Value).Elem", "(internal/reflectlite.Value).Set"], unfollowed := true, recurses := true, named := ["proviso/types.words", "errors.errorType"], apart := false, laid := [("errors.errorType", laid_errors_errorType), ("proviso/types.words", laid_proviso_types_words)], narrowed := true }
def ModuleEncodesUptoSaid : Prop := moduleEncodesUptoRow.holds Tryz.pinned (OpenSpec.upto moduleEncodesSpec)

/-- 'provisolaw16.ModuleDecodes', WHERE WHAT IT READS IS OF BULK AT MOST 1048576: true; the input reads as it did. -/
def moduleDecodesUptoRow : OpenClaim := { program := "ytibgfdjopikafaagreatdoor", sum := "37e97d09362e7d7cdfe82698a77647d3fa113ac0e29a60d0f995b39299bb5b16", func := "proviso/provisolaw16.ModuleDecodes", spec := "moduleDecodes", inPlace := ["internal/reflectlite.ValueOf", "(internal/reflectlite.Value).Type", "(internal/reflectlite.Value).IsNil", "internal/reflectlite.TypeOf", "(internal/reflectlite.Value).Elem", "(internal/reflectlite.Value).Set"], unfollowed := true, recurses := true, named := ["proviso/types.words", "errors.errorType"], apart := false, laid := [("errors.errorType", laid_errors_errorType), ("proviso/types.words", laid_proviso_types_words)], narrowed := true }
def ModuleDecodesUptoSaid : Prop := moduleDecodesUptoRow.holds Tryz.pinned (OpenSpec.upto moduleDecodesSpec)

/-- 'provisolaw16.ModuleBack', WHERE WHAT IT READS IS OF BULK AT MOST 1048576: true; the input reads as it did. -/
def moduleBackUptoRow : OpenClaim := { program := "ytibgfdjopikafaagreatdoor", sum := "37e97d09362e7d7cdfe82698a77647d3fa113ac0e29a60d0f995b39299bb5b16", func := "proviso/provisolaw16.ModuleBack", spec := "moduleBack", inPlace := ["internal/reflectlite.ValueOf", "(internal/reflectlite.Value).Type", "(internal/reflectlite.Value).IsNil", "internal/reflectlite.TypeOf", "(internal/reflectlite.Value).Elem", "(internal/reflectlite.Value).Set"], unfollowed := true, recurses := true, named := ["proviso/types.words", "errors.errorType"], apart := false, laid := [("errors.errorType", laid_errors_errorType), ("proviso/types.words", laid_proviso_types_words)], narrowed := true }
def ModuleBackUptoSaid : Prop := moduleBackUptoRow.holds Tryz.pinned (OpenSpec.upto moduleBackSpec)

/-- 'provisolaw16.ModuleForm', WHERE WHAT IT READS IS OF BULK AT MOST 1048576: true; the input reads as it did. -/
def moduleFormUptoRow : OpenClaim := { program := "ytibgfdjopikafaagreatdoor", sum := "37e97d09362e7d7cdfe82698a77647d3fa113ac0e29a60d0f995b39299bb5b16", func := "proviso/provisolaw16.ModuleForm", spec := "moduleForm", inPlace := ["internal/reflectlite.ValueOf", "(internal/reflectlite.Value).Type", "(internal/reflectlite.Value).IsNil", "internal/reflectlite.TypeOf", "(internal/reflectlite.Value).Elem", "(internal/reflectlite.Value).Set"], unfollowed := true, recurses := true, named := ["proviso/types.words", "errors.errorType"], apart := false, laid := [("errors.errorType", laid_errors_errorType), ("proviso/types.words", laid_proviso_types_words)], narrowed := true }
def ModuleFormUptoSaid : Prop := moduleFormUptoRow.holds Tryz.pinned (OpenSpec.upto moduleFormSpec)

/-- 'provisolaw16.ModuleTurned', WHERE WHAT IT READS IS OF BULK AT MOST 1048576: true; the input reads as it did. -/
def moduleTurnedUptoRow : OpenClaim := { program := "ytibgfdjopikafaagreatdoor", sum := "37e97d09362e7d7cdfe82698a77647d3fa113ac0e29a60d0f995b39299bb5b16", func := "proviso/provisolaw16.ModuleTurned", spec := "moduleTurned", inPlace := ["internal/reflectlite.ValueOf", "(internal/reflectlite.Value).Type", "(internal/reflectlite.Value).IsNil", "internal/reflectlite.TypeOf", "(internal/reflectlite.Value).Elem", "(internal/reflectlite.Value).Set"], unfollowed := true, recurses := true, named := ["proviso/types.words", "errors.errorType"], apart := false, laid := [("errors.errorType", laid_errors_errorType), ("proviso/types.words", laid_proviso_types_words)], narrowed := true }
def ModuleTurnedUptoSaid : Prop := moduleTurnedUptoRow.holds Tryz.pinned (OpenSpec.upto moduleTurnedSpec)

/-- 'provisolaw16.ModuleBegins', WHERE WHAT IT READS IS OF BULK AT MOST 1048576: true; the input reads as it did. -/
def moduleBeginsUptoRow : OpenClaim := { program := "ytibgfdjopikafaagreatdoor", sum := "37e97d09362e7d7cdfe82698a77647d3fa113ac0e29a60d0f995b39299bb5b16", func := "proviso/provisolaw16.ModuleBegins", spec := "moduleBegins", inPlace := ["internal/reflectlite.ValueOf", "(internal/reflectlite.Value).Type", "(internal/reflectlite.Value).IsNil", "internal/reflectlite.TypeOf", "(internal/reflectlite.Value).Elem", "(internal/reflectlite.Value).Set"], unfollowed := true, recurses := true, named := ["proviso/types.words", "errors.errorType"], apart := false, laid := [("errors.errorType", laid_errors_errorType), ("proviso/types.words", laid_proviso_types_words)], narrowed := true }
def ModuleBeginsUptoSaid : Prop := moduleBeginsUptoRow.holds Tryz.pinned (OpenSpec.upto moduleBeginsSpec)

end Rows
end Go.Proofs.YtibgfdjopikafaaGreatDoor
