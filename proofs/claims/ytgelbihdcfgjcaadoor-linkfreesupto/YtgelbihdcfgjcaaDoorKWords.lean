/-
  Contracts of types.classOf, isClass, typeOf, Print and Parse, over six words that the package's variable holds: what the plain functions say, in the same world. Conditions: a type is a byte, the table has at most 32 classes.
-/
import Derived.Test.YtgelbihdcfgjcaaDoorJTZ
namespace Go.Proofs.YtgelbihdcfgjcaaDoor
open Go.RowKit
set_option maxRecDepth 20000

def printD (T : List Cl) (t : Nat) : ByteArray := if t ≤ 5 then wordD t else if 16 ≤ t then (match T[t - 16]? with | some x => x.nm | none => ⟨#[]⟩) else ⟨#[]⟩

/-- The first of some texts that is this one. -/
def findN : List ByteArray → ByteArray → Nat → Option Nat
  | [], _, _ => none
  | x :: l, s, i => if (x.toList == s.toList) = true then some i else findN l s (i + 1)
def parseD (ws : List ByteArray) (T : List Cl) (s : ByteArray) : Nat × Bool :=
  match findN ws s 0 with
  | some i => (i, true)
  | none => match findN (T.map Cl.nm) s 0 with
    | some c => (16 + c, true)
    | none => (0, false)

end Go.Proofs.YtgelbihdcfgjcaaDoor
