/-
  No cell of these rows narrows 'for every input' (looked for: loops, veiled, ifaces, maps, wideKeys, modest, calm, conditions, laid).
  DERIVED. THE GIVEN ROWS OF THIS SEAT. 5 by the template 'for every input the law returns true; each argument reads behind the call as it read before'; 0 by the template 'total and deterministic' (their statements: YtihkodfcgfnjoaaTotals.lean).
  GIVEN WITH THE SEED: the statements are not yours to turn. If you find one false, say at which input.
  Laid BY PROGRAM, IN A SANDBOX (cutbox-rows.mjs): the forced cells as the released guide's own fill.sh prints them over the translation 117431ed8d2b387d… (all of the seat's roots in one cut). By AI agents, Wed Nov 11 2026. No macro, syntax, notation, axiom, sorry.
-/
import Derived.Test.YtihkodfcgfnjoaaChecked
import GoSem.Claim
import GoSem.ClaimJoined
import GoSem.ClaimMapViews
import Derived.JoinedTies
import Derived.KernelRfl
namespace Go.Proofs.Ytihkodfcgfnjoaa
/- THE CELL 'sum', in the pinned program and in every row, IS THE sha256 OF THE DUMP (.gsa) THAT YtihkodfcgfnjoaaProg.lean LOADS. Nothing in Lean hashes anything: it is a label: what it is worth is what the hold of that sum in a sandbox is worth. -/
noncomputable def Try.pinned : Pinned := { name := "ytihkodfcgfnjoaa", sum := "117431ed8d2b387d124b8e908dd6d1ecf5ef540559ce3d2b1056108320210710", checked := Try.checked }
namespace Rows
def none {H : Type} : Left H := { results := [], args := [] }

/-- 'provisolaw03.FramesStarts': WHATEVER THE INPUT: true; the input reads as it did. -/
def framesStartsSpec : ChangeSpec := { name := "framesStarts", fn := fun _ => fun
  | [d1, d2, d3] => { results := [.lit (.bool true)], args := [d1, d2, d3] }
  | _ => none }
def framesStartsRow : OpenClaim := { program := "ytihkodfcgfnjoaa", sum := "117431ed8d2b387d124b8e908dd6d1ecf5ef540559ce3d2b1056108320210710", func := "proviso/provisolaw03.FramesStarts", spec := "framesStarts", apart := false }
def FramesStartsSaid : Prop := framesStartsRow.holds Try.pinned (OpenSpec.ofChange framesStartsSpec)

/-- ITS FALSE NEIGHBOUR: 'it returns false'. Refute it at one input. -/
def framesStartsWrong : ChangeSpec := { name := "framesStarts", fn := fun _ => fun
  | [d1, d2, d3] => { results := [.lit (.bool false)], args := [d1, d2, d3] }
  | _ => none }
def FramesStartsWrongFalsely : Prop := framesStartsRow.holds Try.pinned (OpenSpec.ofChange framesStartsWrong)

/-- 'provisolaw03.FramesMeets': WHATEVER THE INPUT: true; the input reads as it did. -/
def framesMeetsSpec : ChangeSpec := { name := "framesMeets", fn := fun _ => fun
  | [d1, d2, d3] => { results := [.lit (.bool true)], args := [d1, d2, d3] }
  | _ => none }
def framesMeetsRow : OpenClaim := { program := "ytihkodfcgfnjoaa", sum := "117431ed8d2b387d124b8e908dd6d1ecf5ef540559ce3d2b1056108320210710", func := "proviso/provisolaw03.FramesMeets", spec := "framesMeets", unfollowed := true, recurses := true, apart := false }
def FramesMeetsSaid : Prop := framesMeetsRow.holds Try.pinned (OpenSpec.ofChange framesMeetsSpec)

/-- ITS FALSE NEIGHBOUR: 'it returns false'. Refute it at one input. -/
def framesMeetsWrong : ChangeSpec := { name := "framesMeets", fn := fun _ => fun
  | [d1, d2, d3] => { results := [.lit (.bool false)], args := [d1, d2, d3] }
  | _ => none }
def FramesMeetsWrongFalsely : Prop := framesMeetsRow.holds Try.pinned (OpenSpec.ofChange framesMeetsWrong)

/-- 'provisolaw03.FramesMoves': WHATEVER THE INPUT: true; the input reads as it did. -/
def framesMovesSpec : ChangeSpec := { name := "framesMoves", fn := fun _ => fun
  | [d1, d2, d3] => { results := [.lit (.bool true)], args := [d1, d2, d3] }
  | _ => none }
def framesMovesRow : OpenClaim := { program := "ytihkodfcgfnjoaa", sum := "117431ed8d2b387d124b8e908dd6d1ecf5ef540559ce3d2b1056108320210710", func := "proviso/provisolaw03.FramesMoves", spec := "framesMoves", apart := false }
def FramesMovesSaid : Prop := framesMovesRow.holds Try.pinned (OpenSpec.ofChange framesMovesSpec)

/-- ITS FALSE NEIGHBOUR: 'it returns false'. Refute it at one input. -/
def framesMovesWrong : ChangeSpec := { name := "framesMoves", fn := fun _ => fun
  | [d1, d2, d3] => { results := [.lit (.bool false)], args := [d1, d2, d3] }
  | _ => none }
def FramesMovesWrongFalsely : Prop := framesMovesRow.holds Try.pinned (OpenSpec.ofChange framesMovesWrong)

/-- 'provisolaw03.FramesOrder': WHATEVER THE INPUT: true; the input reads as it did. -/
def framesOrderSpec : ChangeSpec := { name := "framesOrder", fn := fun _ => fun
  | [d1, d2, d3, d4] => { results := [.lit (.bool true)], args := [d1, d2, d3, d4] }
  | _ => none }
def framesOrderRow : OpenClaim := { program := "ytihkodfcgfnjoaa", sum := "117431ed8d2b387d124b8e908dd6d1ecf5ef540559ce3d2b1056108320210710", func := "proviso/provisolaw03.FramesOrder", spec := "framesOrder", unfollowed := true, recurses := true, apart := false }
def FramesOrderSaid : Prop := framesOrderRow.holds Try.pinned (OpenSpec.ofChange framesOrderSpec)

/-- ITS FALSE NEIGHBOUR: 'it returns false'. Refute it at one input. -/
def framesOrderWrong : ChangeSpec := { name := "framesOrder", fn := fun _ => fun
  | [d1, d2, d3, d4] => { results := [.lit (.bool false)], args := [d1, d2, d3, d4] }
  | _ => none }
def FramesOrderWrongFalsely : Prop := framesOrderRow.holds Try.pinned (OpenSpec.ofChange framesOrderWrong)

/-- 'provisolaw03.FramesLeast': WHATEVER THE INPUT: true; the input reads as it did. -/
def framesLeastSpec : ChangeSpec := { name := "framesLeast", fn := fun _ => fun
  | [d1, d2, d3, d4] => { results := [.lit (.bool true)], args := [d1, d2, d3, d4] }
  | _ => none }
def framesLeastRow : OpenClaim := { program := "ytihkodfcgfnjoaa", sum := "117431ed8d2b387d124b8e908dd6d1ecf5ef540559ce3d2b1056108320210710", func := "proviso/provisolaw03.FramesLeast", spec := "framesLeast", unfollowed := true, recurses := true, apart := false }
def FramesLeastSaid : Prop := framesLeastRow.holds Try.pinned (OpenSpec.ofChange framesLeastSpec)

/-- ITS FALSE NEIGHBOUR: 'it returns false'. Refute it at one input. -/
def framesLeastWrong : ChangeSpec := { name := "framesLeast", fn := fun _ => fun
  | [d1, d2, d3, d4] => { results := [.lit (.bool false)], args := [d1, d2, d3, d4] }
  | _ => none }
def FramesLeastWrongFalsely : Prop := framesLeastRow.holds Try.pinned (OpenSpec.ofChange framesLeastWrong)

/- THE SECOND FORM. 'bulk': how many values and letters a reading holds, each counted each time it is reached (what is shared counts as often as it is met; a slice's spare places count too). A statement '..UptoSaid' is the law's where the arguments, and the package variables that the reading takes, are together of bulk at most 1048576: NARROWER than '..Said'. Prove '..Said' where nothing that the law and all that it calls make is longer than what came in: it says more and counts as full. Else prove '..UptoSaid'. A law counts once. -/
mutual
def uptoBulk {H : Type} : DataW H → Nat
  | .lit (.string bytes) => bytes.length + 1
  | .lit _ => 1
  | .nil => 1
  | .ptr d => uptoBulk d + 1
  | .slice elems spare => uptoBulkAll elems + uptoBulkAll spare + 1
  | .agg parts => uptoBulkAll parts + 1
  | .iface _ d => uptoBulk d + 1
  | .map entries => uptoBulkEntries entries + 1
  | .held _ => 1
def uptoBulkAll {H : Type} : List (DataW H) → Nat
  | [] => 0
  | d :: r => uptoBulk d + uptoBulkAll r
def uptoBulkEntries {H : Type} : List (Lit × DataW H) → Nat
  | [] => 0
  | x :: r => uptoBulkEntry x + uptoBulkEntries r
def uptoBulkEntry {H : Type} : Lit × DataW H → Nat
  | (.string bytes, d) => bytes.length + uptoBulk d + 1
  | (_, d) => uptoBulk d + 1
 end
def uptoSmall : (H : Type) → List (DataW H) → Bool := fun _ ds => decide (uptoBulkAll ds ≤ 1048576)
def OpenSpec.upto (s : _root_.Go.ChangeSpec) : _root_.Go.OpenSpec := { _root_.Go.OpenSpec.ofChange s with cond := some uptoSmall }

/-- 'provisolaw03.FramesStarts', WHERE WHAT IT READS IS OF BULK AT MOST 1048576: true; the input reads as it did. -/
def framesStartsUptoRow : OpenClaim := { program := "ytihkodfcgfnjoaa", sum := "117431ed8d2b387d124b8e908dd6d1ecf5ef540559ce3d2b1056108320210710", func := "proviso/provisolaw03.FramesStarts", spec := "framesStarts", apart := false, narrowed := true }
def FramesStartsUptoSaid : Prop := framesStartsUptoRow.holds Try.pinned (OpenSpec.upto framesStartsSpec)

/-- 'provisolaw03.FramesMeets', WHERE WHAT IT READS IS OF BULK AT MOST 1048576: true; the input reads as it did. -/
def framesMeetsUptoRow : OpenClaim := { program := "ytihkodfcgfnjoaa", sum := "117431ed8d2b387d124b8e908dd6d1ecf5ef540559ce3d2b1056108320210710", func := "proviso/provisolaw03.FramesMeets", spec := "framesMeets", unfollowed := true, recurses := true, apart := false, narrowed := true }
def FramesMeetsUptoSaid : Prop := framesMeetsUptoRow.holds Try.pinned (OpenSpec.upto framesMeetsSpec)

/-- 'provisolaw03.FramesMoves', WHERE WHAT IT READS IS OF BULK AT MOST 1048576: true; the input reads as it did. -/
def framesMovesUptoRow : OpenClaim := { program := "ytihkodfcgfnjoaa", sum := "117431ed8d2b387d124b8e908dd6d1ecf5ef540559ce3d2b1056108320210710", func := "proviso/provisolaw03.FramesMoves", spec := "framesMoves", apart := false, narrowed := true }
def FramesMovesUptoSaid : Prop := framesMovesUptoRow.holds Try.pinned (OpenSpec.upto framesMovesSpec)

/-- 'provisolaw03.FramesOrder', WHERE WHAT IT READS IS OF BULK AT MOST 1048576: true; the input reads as it did. -/
def framesOrderUptoRow : OpenClaim := { program := "ytihkodfcgfnjoaa", sum := "117431ed8d2b387d124b8e908dd6d1ecf5ef540559ce3d2b1056108320210710", func := "proviso/provisolaw03.FramesOrder", spec := "framesOrder", unfollowed := true, recurses := true, apart := false, narrowed := true }
def FramesOrderUptoSaid : Prop := framesOrderUptoRow.holds Try.pinned (OpenSpec.upto framesOrderSpec)

/-- 'provisolaw03.FramesLeast', WHERE WHAT IT READS IS OF BULK AT MOST 1048576: true; the input reads as it did. -/
def framesLeastUptoRow : OpenClaim := { program := "ytihkodfcgfnjoaa", sum := "117431ed8d2b387d124b8e908dd6d1ecf5ef540559ce3d2b1056108320210710", func := "proviso/provisolaw03.FramesLeast", spec := "framesLeast", unfollowed := true, recurses := true, apart := false, narrowed := true }
def FramesLeastUptoSaid : Prop := framesLeastUptoRow.holds Try.pinned (OpenSpec.upto framesLeastSpec)

end Rows
end Go.Proofs.Ytihkodfcgfnjoaa
