/-
  No cell of these rows narrows 'for every input' (looked for: loops, veiled, ifaces, maps, wideKeys, modest, calm, conditions, laid).
  DERIVED. THE GIVEN ROWS OF THIS SEAT. 3 by the template 'for every input the law returns true; each argument reads behind the call as it read before'; 0 by the template 'total and deterministic' (their statements: YtggaecmjadkopacTotals.lean).
  GIVEN WITH THE SEED: the statements are not yours to turn. If you find one false, say at which input.
  Laid BY PROGRAM, IN A SANDBOX (cutbox-rows.mjs): the forced cells as the released guide's own fill.sh prints them over the translation 42c46691c4d7614a… (all of the seat's roots in one cut). By AI agents, Wed Nov 11 2026. No macro, syntax, notation, axiom, sorry.
-/
import Derived.Test.YtggaecmjadkopacChecked
import GoSem.Claim
import GoSem.ClaimJoined
import GoSem.ClaimMapViews
import Derived.JoinedTies
import Derived.KernelRfl
namespace Go.Proofs.Ytggaecmjadkopac
/- THE CELL 'sum', in the pinned program and in every row, IS THE sha256 OF THE DUMP (.gsa) THAT YtggaecmjadkopacProg.lean LOADS. Nothing in Lean hashes anything: it is a label: what it is worth is what the hold of that sum in a sandbox is worth. -/
noncomputable def Try.pinned : Pinned := { name := "ytggaecmjadkopac", sum := "42c46691c4d7614a2a0244bda97595fa2aeea69e3c5f196e1c89c5f80c05c670", checked := Try.checked }
namespace Rows
def none {H : Type} : Left H := { results := [], args := [] }

/-- 'provisolaw02.TypesLeast': WHATEVER THE INPUT: true; the input reads as it did. -/
def typesLeastSpec : ChangeSpec := { name := "typesLeast", fn := fun _ => fun
  | [d] => { results := [.lit (.bool true)], args := [d] }
  | _ => none }
def typesLeastRow : OpenClaim := { program := "ytggaecmjadkopac", sum := "42c46691c4d7614a2a0244bda97595fa2aeea69e3c5f196e1c89c5f80c05c670", func := "proviso/provisolaw02.TypesLeast", spec := "typesLeast", unfollowed := true, recurses := true, apart := false }
def TypesLeastSaid : Prop := typesLeastRow.holds Try.pinned (OpenSpec.ofChange typesLeastSpec)

/-- ITS FALSE NEIGHBOUR: 'it returns false'. Refute it at one input. -/
def typesLeastWrong : ChangeSpec := { name := "typesLeast", fn := fun _ => fun
  | [d] => { results := [.lit (.bool false)], args := [d] }
  | _ => none }
def TypesLeastWrongFalsely : Prop := typesLeastRow.holds Try.pinned (OpenSpec.ofChange typesLeastWrong)

/-- 'provisolaw02.TypesSteps': WHATEVER THE INPUT: true; the input reads as it did. -/
def typesStepsSpec : ChangeSpec := { name := "typesSteps", fn := fun _ => fun
  | [d1, d2, d3] => { results := [.lit (.bool true)], args := [d1, d2, d3] }
  | _ => none }
def typesStepsRow : OpenClaim := { program := "ytggaecmjadkopac", sum := "42c46691c4d7614a2a0244bda97595fa2aeea69e3c5f196e1c89c5f80c05c670", func := "proviso/provisolaw02.TypesSteps", spec := "typesSteps", unfollowed := true, recurses := true, apart := false }
def TypesStepsSaid : Prop := typesStepsRow.holds Try.pinned (OpenSpec.ofChange typesStepsSpec)

/-- ITS FALSE NEIGHBOUR: 'it returns false'. Refute it at one input. -/
def typesStepsWrong : ChangeSpec := { name := "typesSteps", fn := fun _ => fun
  | [d1, d2, d3] => { results := [.lit (.bool false)], args := [d1, d2, d3] }
  | _ => none }
def TypesStepsWrongFalsely : Prop := typesStepsRow.holds Try.pinned (OpenSpec.ofChange typesStepsWrong)

/-- 'provisolaw02.TypesStays': WHATEVER THE INPUT: true; the input reads as it did. -/
def typesStaysSpec : ChangeSpec := { name := "typesStays", fn := fun _ => fun
  | [d1, d2, d3] => { results := [.lit (.bool true)], args := [d1, d2, d3] }
  | _ => none }
def typesStaysRow : OpenClaim := { program := "ytggaecmjadkopac", sum := "42c46691c4d7614a2a0244bda97595fa2aeea69e3c5f196e1c89c5f80c05c670", func := "proviso/provisolaw02.TypesStays", spec := "typesStays", unfollowed := true, recurses := true, apart := false }
def TypesStaysSaid : Prop := typesStaysRow.holds Try.pinned (OpenSpec.ofChange typesStaysSpec)

/-- ITS FALSE NEIGHBOUR: 'it returns false'. Refute it at one input. -/
def typesStaysWrong : ChangeSpec := { name := "typesStays", fn := fun _ => fun
  | [d1, d2, d3] => { results := [.lit (.bool false)], args := [d1, d2, d3] }
  | _ => none }
def TypesStaysWrongFalsely : Prop := typesStaysRow.holds Try.pinned (OpenSpec.ofChange typesStaysWrong)

/- THE SECOND FORM. 'bulk': how many values and letters a reading holds, each counted each time it is reached (what is shared counts as often as it is met; a slice's spare places count too). A statement '..UptoSaid' is the law's where the arguments, and the package variables that the reading takes, are together of bulk at most 1048576: NARROWER than '..Said'. Prove '..Said' where nothing that the law and all that it calls make is longer than what came in: it says more and counts as full. Else prove '..UptoSaid'. A law counts once. -/
mutual
def uptoBulk {H : Type} : DataW H → Nat
  | .lit (.string bytes) => bytes.length + 1
  | .lit _ => 1
  | .nil => 1
  | .ptr d => uptoBulk d + 1
  | .slice elems spare => uptoBulkAll elems + uptoBulkAll spare + 1
  | .agg parts => uptoBulkAll parts + 1
  | .iface _ d => uptoBulk d + 1
  | .map entries => uptoBulkEntries entries + 1
  | .held _ => 1
def uptoBulkAll {H : Type} : List (DataW H) → Nat
  | [] => 0
  | d :: r => uptoBulk d + uptoBulkAll r
def uptoBulkEntries {H : Type} : List (Lit × DataW H) → Nat
  | [] => 0
  | x :: r => uptoBulkEntry x + uptoBulkEntries r
def uptoBulkEntry {H : Type} : Lit × DataW H → Nat
  | (.string bytes, d) => bytes.length + uptoBulk d + 1
  | (_, d) => uptoBulk d + 1
 end
def uptoSmall : (H : Type) → List (DataW H) → Bool := fun _ ds => decide (uptoBulkAll ds ≤ 1048576)
def OpenSpec.upto (s : _root_.Go.ChangeSpec) : _root_.Go.OpenSpec := { _root_.Go.OpenSpec.ofChange s with cond := some uptoSmall }

/-- 'provisolaw02.TypesLeast', WHERE WHAT IT READS IS OF BULK AT MOST 1048576: true; the input reads as it did. -/
def typesLeastUptoRow : OpenClaim := { program := "ytggaecmjadkopac", sum := "42c46691c4d7614a2a0244bda97595fa2aeea69e3c5f196e1c89c5f80c05c670", func := "proviso/provisolaw02.TypesLeast", spec := "typesLeast", unfollowed := true, recurses := true, apart := false, narrowed := true }
def TypesLeastUptoSaid : Prop := typesLeastUptoRow.holds Try.pinned (OpenSpec.upto typesLeastSpec)

/-- 'provisolaw02.TypesSteps', WHERE WHAT IT READS IS OF BULK AT MOST 1048576: true; the input reads as it did. -/
def typesStepsUptoRow : OpenClaim := { program := "ytggaecmjadkopac", sum := "42c46691c4d7614a2a0244bda97595fa2aeea69e3c5f196e1c89c5f80c05c670", func := "proviso/provisolaw02.TypesSteps", spec := "typesSteps", unfollowed := true, recurses := true, apart := false, narrowed := true }
def TypesStepsUptoSaid : Prop := typesStepsUptoRow.holds Try.pinned (OpenSpec.upto typesStepsSpec)

/-- 'provisolaw02.TypesStays', WHERE WHAT IT READS IS OF BULK AT MOST 1048576: true; the input reads as it did. -/
def typesStaysUptoRow : OpenClaim := { program := "ytggaecmjadkopac", sum := "42c46691c4d7614a2a0244bda97595fa2aeea69e3c5f196e1c89c5f80c05c670", func := "proviso/provisolaw02.TypesStays", spec := "typesStays", unfollowed := true, recurses := true, apart := false, narrowed := true }
def TypesStaysUptoSaid : Prop := typesStaysUptoRow.holds Try.pinned (OpenSpec.upto typesStaysSpec)

end Rows
end Go.Proofs.Ytggaecmjadkopac
