/-
  NARROWER THAN 'FOR EVERY INPUT', by the rows' own cells (each row's printed sentence says how): HeapLives: laid · HeapNone: laid · HeapCells: laid · HeapStays: laid · HeapCome: laid · HeapRings: laid.
  DERIVED. THE GIVEN ROWS OF THIS SEAT. 6 by the template 'for every input the law returns true; each argument reads behind the call as it read before'; 0 by the template 'total and deterministic' (their statements: YtnkhkppddlpcmaaDoorTotals.lean).
  GIVEN WITH THE SEED: the statements are not yours to turn. If you find one false, say at which input.
  Laid BY PROGRAM, IN A SANDBOX (cutbox-rows.mjs): the forced cells as the released guide's own fill.sh prints them over the translation 989aaf13227e1fbf… (all of the seat's roots in one cut). By AI agents, Wed Nov 11 2026. No macro, syntax, notation, axiom, sorry.
-/
import Derived.Test.YtnkhkppddlpcmaaDoorChecked
import GoSem.Claim
import GoSem.ClaimJoined
import GoSem.ClaimMapViews
import Derived.JoinedTies
import Derived.KernelRfl
namespace Go.Proofs.YtnkhkppddlpcmaaDoor
/- THE CELL 'sum', in the pinned program and in every row, IS THE sha256 OF THE DUMP (.gsa) THAT YtnkhkppddlpcmaaDoorProg.lean LOADS. Nothing in Lean hashes anything: it is a label: what it is worth is what the hold of that sum in a sandbox is worth. -/
noncomputable def Tryd.pinned : Pinned := { name := "ytnkhkppddlpcmaadoor", sum := "989aaf13227e1fbfdcecba589c2f5bc6163b533cbc64ef18612704315a15e557", checked := Tryd.checked }
namespace Rows
def none {H : Type} : Left H := { results := [], args := [] }

/- WHAT THE LISTED PACKAGE-LEVEL VARIABLES READ AS WHEN THE CALL BEGINS. Each datum BY PROGRAM (the guide's laid-datum.mjs) off the statement by which the dump's own 'gosem.cut.vars' lays the variable. In a bare row this is a premise. The card (YtnkhkppddlpcmaaDoorCards.lean) ties it to the program's text. -/
def laid_proviso_types_words {H : Type} : DataW H := .agg [.lit (.string [116, 111, 112]), .lit (.string [105, 110, 116]), .lit (.string [98, 111, 111, 108]), .lit (.string [110, 117, 108, 108]), .lit (.string [105, 110, 116, 115]), .lit (.string [97, 110, 121])]

/-- 'provisolaw14.HeapLives': WHATEVER THE INPUT: true; the input reads as it did. -/
def heapLivesSpec : ChangeSpec := { name := "heapLives", fn := fun _ => fun
  | [d] => { results := [.lit (.bool true)], args := [d] }
  | _ => none }
def heapLivesRow : OpenClaim := { program := "ytnkhkppddlpcmaadoor", sum := "989aaf13227e1fbfdcecba589c2f5bc6163b533cbc64ef18612704315a15e557", func := "proviso/provisolaw14.HeapLives", spec := "heapLives", unfollowed := true, recurses := true, named := ["proviso/types.words"], apart := false, laid := [("proviso/types.words", laid_proviso_types_words)] }
def HeapLivesSaid : Prop := heapLivesRow.holds Tryd.pinned (OpenSpec.ofChange heapLivesSpec)

/-- ITS FALSE NEIGHBOUR: 'it returns false'. Refute it at one input. -/
def heapLivesWrong : ChangeSpec := { name := "heapLives", fn := fun _ => fun
  | [d] => { results := [.lit (.bool false)], args := [d] }
  | _ => none }
def HeapLivesWrongFalsely : Prop := heapLivesRow.holds Tryd.pinned (OpenSpec.ofChange heapLivesWrong)

/-- 'provisolaw14.HeapNone': WHATEVER THE INPUT: true; the input reads as it did. -/
def heapNoneSpec : ChangeSpec := { name := "heapNone", fn := fun _ => fun
  | [d1, d2] => { results := [.lit (.bool true)], args := [d1, d2] }
  | _ => none }
def heapNoneRow : OpenClaim := { program := "ytnkhkppddlpcmaadoor", sum := "989aaf13227e1fbfdcecba589c2f5bc6163b533cbc64ef18612704315a15e557", func := "proviso/provisolaw14.HeapNone", spec := "heapNone", unfollowed := true, recurses := true, named := ["proviso/types.words"], apart := false, laid := [("proviso/types.words", laid_proviso_types_words)] }
def HeapNoneSaid : Prop := heapNoneRow.holds Tryd.pinned (OpenSpec.ofChange heapNoneSpec)

/-- ITS FALSE NEIGHBOUR: 'it returns false'. Refute it at one input. -/
def heapNoneWrong : ChangeSpec := { name := "heapNone", fn := fun _ => fun
  | [d1, d2] => { results := [.lit (.bool false)], args := [d1, d2] }
  | _ => none }
def HeapNoneWrongFalsely : Prop := heapNoneRow.holds Tryd.pinned (OpenSpec.ofChange heapNoneWrong)

/-- 'provisolaw14.HeapCells': WHATEVER THE INPUT: true; the input reads as it did. -/
def heapCellsSpec : ChangeSpec := { name := "heapCells", fn := fun _ => fun
  | [d] => { results := [.lit (.bool true)], args := [d] }
  | _ => none }
def heapCellsRow : OpenClaim := { program := "ytnkhkppddlpcmaadoor", sum := "989aaf13227e1fbfdcecba589c2f5bc6163b533cbc64ef18612704315a15e557", func := "proviso/provisolaw14.HeapCells", spec := "heapCells", unfollowed := true, recurses := true, named := ["proviso/types.words"], apart := false, laid := [("proviso/types.words", laid_proviso_types_words)] }
def HeapCellsSaid : Prop := heapCellsRow.holds Tryd.pinned (OpenSpec.ofChange heapCellsSpec)

/-- ITS FALSE NEIGHBOUR: 'it returns false'. Refute it at one input. -/
def heapCellsWrong : ChangeSpec := { name := "heapCells", fn := fun _ => fun
  | [d] => { results := [.lit (.bool false)], args := [d] }
  | _ => none }
def HeapCellsWrongFalsely : Prop := heapCellsRow.holds Tryd.pinned (OpenSpec.ofChange heapCellsWrong)

/-- 'provisolaw14.HeapStays': WHATEVER THE INPUT: true; the input reads as it did. -/
def heapStaysSpec : ChangeSpec := { name := "heapStays", fn := fun _ => fun
  | [d1, d2] => { results := [.lit (.bool true)], args := [d1, d2] }
  | _ => none }
def heapStaysRow : OpenClaim := { program := "ytnkhkppddlpcmaadoor", sum := "989aaf13227e1fbfdcecba589c2f5bc6163b533cbc64ef18612704315a15e557", func := "proviso/provisolaw14.HeapStays", spec := "heapStays", unfollowed := true, recurses := true, named := ["proviso/types.words"], apart := false, laid := [("proviso/types.words", laid_proviso_types_words)] }
def HeapStaysSaid : Prop := heapStaysRow.holds Tryd.pinned (OpenSpec.ofChange heapStaysSpec)

/-- ITS FALSE NEIGHBOUR: 'it returns false'. Refute it at one input. -/
def heapStaysWrong : ChangeSpec := { name := "heapStays", fn := fun _ => fun
  | [d1, d2] => { results := [.lit (.bool false)], args := [d1, d2] }
  | _ => none }
def HeapStaysWrongFalsely : Prop := heapStaysRow.holds Tryd.pinned (OpenSpec.ofChange heapStaysWrong)

/-- 'provisolaw14.HeapCome': WHATEVER THE INPUT: true; the input reads as it did. -/
def heapComeSpec : ChangeSpec := { name := "heapCome", fn := fun _ => fun
  | [d1, d2] => { results := [.lit (.bool true)], args := [d1, d2] }
  | _ => none }
def heapComeRow : OpenClaim := { program := "ytnkhkppddlpcmaadoor", sum := "989aaf13227e1fbfdcecba589c2f5bc6163b533cbc64ef18612704315a15e557", func := "proviso/provisolaw14.HeapCome", spec := "heapCome", unfollowed := true, recurses := true, named := ["proviso/types.words"], apart := false, laid := [("proviso/types.words", laid_proviso_types_words)] }
def HeapComeSaid : Prop := heapComeRow.holds Tryd.pinned (OpenSpec.ofChange heapComeSpec)

/-- ITS FALSE NEIGHBOUR: 'it returns false'. Refute it at one input. -/
def heapComeWrong : ChangeSpec := { name := "heapCome", fn := fun _ => fun
  | [d1, d2] => { results := [.lit (.bool false)], args := [d1, d2] }
  | _ => none }
def HeapComeWrongFalsely : Prop := heapComeRow.holds Tryd.pinned (OpenSpec.ofChange heapComeWrong)

/-- 'provisolaw14.HeapRings': WHATEVER THE INPUT: true; the input reads as it did. -/
def heapRingsSpec : ChangeSpec := { name := "heapRings", fn := fun _ => fun
  | [d1, d2] => { results := [.lit (.bool true)], args := [d1, d2] }
  | _ => none }
def heapRingsRow : OpenClaim := { program := "ytnkhkppddlpcmaadoor", sum := "989aaf13227e1fbfdcecba589c2f5bc6163b533cbc64ef18612704315a15e557", func := "proviso/provisolaw14.HeapRings", spec := "heapRings", unfollowed := true, recurses := true, named := ["proviso/types.words"], apart := false, laid := [("proviso/types.words", laid_proviso_types_words)] }
def HeapRingsSaid : Prop := heapRingsRow.holds Tryd.pinned (OpenSpec.ofChange heapRingsSpec)

/-- ITS FALSE NEIGHBOUR: 'it returns false'. Refute it at one input. -/
def heapRingsWrong : ChangeSpec := { name := "heapRings", fn := fun _ => fun
  | [d1, d2] => { results := [.lit (.bool false)], args := [d1, d2] }
  | _ => none }
def HeapRingsWrongFalsely : Prop := heapRingsRow.holds Tryd.pinned (OpenSpec.ofChange heapRingsWrong)

/- THE SECOND FORM. 'bulk': how many values and letters a reading holds, each counted each time it is reached (what is shared counts as often as it is met; a slice's spare places count too). A statement '..UptoSaid' is the law's where the arguments, and the package variables that the reading takes, are together of bulk at most 1048576: NARROWER than '..Said'. Prove '..Said' where nothing that the law and all that it calls make is longer than what came in: it says more and counts as full. Else prove '..UptoSaid'. A law counts once. -/
mutual
def uptoBulk {H : Type} : DataW H → Nat
  | .lit (.string bytes) => bytes.length + 1
  | .lit _ => 1
  | .nil => 1
  | .ptr d => uptoBulk d + 1
  | .slice elems spare => uptoBulkAll elems + uptoBulkAll spare + 1
  | .agg parts => uptoBulkAll parts + 1
  | .iface _ d => uptoBulk d + 1
  | .map entries => uptoBulkEntries entries + 1
  | .held _ => 1
def uptoBulkAll {H : Type} : List (DataW H) → Nat
  | [] => 0
  | d :: r => uptoBulk d + uptoBulkAll r
def uptoBulkEntries {H : Type} : List (Lit × DataW H) → Nat
  | [] => 0
  | x :: r => uptoBulkEntry x + uptoBulkEntries r
def uptoBulkEntry {H : Type} : Lit × DataW H → Nat
  | (.string bytes, d) => bytes.length + uptoBulk d + 1
  | (_, d) => uptoBulk d + 1
 end
def uptoSmall : (H : Type) → List (DataW H) → Bool := fun _ ds => decide (uptoBulkAll ds ≤ 1048576)
def OpenSpec.upto (s : _root_.Go.ChangeSpec) : _root_.Go.OpenSpec := { _root_.Go.OpenSpec.ofChange s with cond := some uptoSmall }

/-- 'provisolaw14.HeapLives', WHERE WHAT IT READS IS OF BULK AT MOST 1048576: true; the input reads as it did. -/
def heapLivesUptoRow : OpenClaim := { program := "ytnkhkppddlpcmaadoor", sum := "989aaf13227e1fbfdcecba589c2f5bc6163b533cbc64ef18612704315a15e557", func := "proviso/provisolaw14.HeapLives", spec := "heapLives", unfollowed := true, recurses := true, named := ["proviso/types.words"], apart := false, laid := [("proviso/types.words", laid_proviso_types_words)], narrowed := true }
def HeapLivesUptoSaid : Prop := heapLivesUptoRow.holds Tryd.pinned (OpenSpec.upto heapLivesSpec)

/-- 'provisolaw14.HeapNone', WHERE WHAT IT READS IS OF BULK AT MOST 1048576: true; the input reads as it did. -/
def heapNoneUptoRow : OpenClaim := { program := "ytnkhkppddlpcmaadoor", sum := "989aaf13227e1fbfdcecba589c2f5bc6163b533cbc64ef18612704315a15e557", func := "proviso/provisolaw14.HeapNone", spec := "heapNone", unfollowed := true, recurses := true, named := ["proviso/types.words"], apart := false, laid := [("proviso/types.words", laid_proviso_types_words)], narrowed := true }
def HeapNoneUptoSaid : Prop := heapNoneUptoRow.holds Tryd.pinned (OpenSpec.upto heapNoneSpec)

/-- 'provisolaw14.HeapCells', WHERE WHAT IT READS IS OF BULK AT MOST 1048576: true; the input reads as it did. -/
def heapCellsUptoRow : OpenClaim := { program := "ytnkhkppddlpcmaadoor", sum := "989aaf13227e1fbfdcecba589c2f5bc6163b533cbc64ef18612704315a15e557", func := "proviso/provisolaw14.HeapCells", spec := "heapCells", unfollowed := true, recurses := true, named := ["proviso/types.words"], apart := false, laid := [("proviso/types.words", laid_proviso_types_words)], narrowed := true }
def HeapCellsUptoSaid : Prop := heapCellsUptoRow.holds Tryd.pinned (OpenSpec.upto heapCellsSpec)

/-- 'provisolaw14.HeapStays', WHERE WHAT IT READS IS OF BULK AT MOST 1048576: true; the input reads as it did. -/
def heapStaysUptoRow : OpenClaim := { program := "ytnkhkppddlpcmaadoor", sum := "989aaf13227e1fbfdcecba589c2f5bc6163b533cbc64ef18612704315a15e557", func := "proviso/provisolaw14.HeapStays", spec := "heapStays", unfollowed := true, recurses := true, named := ["proviso/types.words"], apart := false, laid := [("proviso/types.words", laid_proviso_types_words)], narrowed := true }
def HeapStaysUptoSaid : Prop := heapStaysUptoRow.holds Tryd.pinned (OpenSpec.upto heapStaysSpec)

/-- 'provisolaw14.HeapCome', WHERE WHAT IT READS IS OF BULK AT MOST 1048576: true; the input reads as it did. -/
def heapComeUptoRow : OpenClaim := { program := "ytnkhkppddlpcmaadoor", sum := "989aaf13227e1fbfdcecba589c2f5bc6163b533cbc64ef18612704315a15e557", func := "proviso/provisolaw14.HeapCome", spec := "heapCome", unfollowed := true, recurses := true, named := ["proviso/types.words"], apart := false, laid := [("proviso/types.words", laid_proviso_types_words)], narrowed := true }
def HeapComeUptoSaid : Prop := heapComeUptoRow.holds Tryd.pinned (OpenSpec.upto heapComeSpec)

/-- 'provisolaw14.HeapRings', WHERE WHAT IT READS IS OF BULK AT MOST 1048576: true; the input reads as it did. -/
def heapRingsUptoRow : OpenClaim := { program := "ytnkhkppddlpcmaadoor", sum := "989aaf13227e1fbfdcecba589c2f5bc6163b533cbc64ef18612704315a15e557", func := "proviso/provisolaw14.HeapRings", spec := "heapRings", unfollowed := true, recurses := true, named := ["proviso/types.words"], apart := false, laid := [("proviso/types.words", laid_proviso_types_words)], narrowed := true }
def HeapRingsUptoSaid : Prop := heapRingsUptoRow.holds Tryd.pinned (OpenSpec.upto heapRingsSpec)

end Rows
end Go.Proofs.YtnkhkppddlpcmaaDoor
