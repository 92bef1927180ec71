/-
  Contracts of types.classOf, isClass, typeOf, Print and Parse, over six words that the package's variable holds: what the plain functions say, in the same world. Conditions: a type is a byte, the table has at most 32 classes.
-/
import Derived.Test.YtihkodfcgfnjoaaT02d
namespace Go.Proofs.Ytihkodfcgfnjoaa
open Go.RowKit

theorem clsOf_any (t : Nat) (w : World) (ht : t < 256) :
    Calls Try.prog 54 #[.int .u8 (t : Int)] w fun e w' => e = .returned (.int .i64 ((t : Int) - 16)) ∧ w' = w := by
  go_enter Try.func54, Try.ntmps54
  go_wp2
  go_ret
  exact ⟨ret_int (by first | rfl | omega), rfl⟩
theorem isCls_yes (ao : Option Addr) (n cap : Nat) (c : Int) (w : World) (h1 : 0 ≤ c) (h2 : c < (n : Int)) :
    Calls Try.prog 62 #[.slice ao n cap, .int .i64 c] w fun e w' => e = .returned (.bool true) ∧ w' = w := by
  have h1' : c ≥ 0 := h1
  go_enter Try.func62, Try.ntmps62
  go_wp2
  go_ret
  exact ⟨rfl, rfl⟩
theorem isCls_no (ao : Option Addr) (n cap : Nat) (c : Int) (w : World) (h : ¬ (0 ≤ c ∧ c < (n : Int))) :
    Calls Try.prog 62 #[.slice ao n cap, .int .i64 c] w fun e w' => e = .returned (.bool false) ∧ w' = w := by
  by_cases h1 : 0 ≤ c
  · have h1' : c ≥ 0 := h1
    have h2 : ¬ c < (n : Int) := fun h' => h ⟨h1, h'⟩
    go_enter Try.func62, Try.ntmps62
    go_wp2
    go_ret
    exact ⟨rfl, rfl⟩
  · have h1' : ¬ c ≥ 0 := h1
    go_enter Try.func62, Try.ntmps62
    go_wp2
    go_ret
    exact ⟨rfl, rfl⟩
theorem tyOf_any (c : Nat) (w : World) (hc : c < 240) :
    Calls Try.prog 55 #[.int .i64 (c : Int)] w fun e w' => e = .returned (.int .u8 ((16 + c : Nat) : Int)) ∧ w' = w := by
  go_enter Try.func55, Try.ntmps55
  go_wp2
  go_ret
  exact ⟨ret_int (by first | rfl | omega), rfl⟩

def printD (T : List Cl) (t : Nat) : ByteArray := if t ≤ 5 then wordD t else if 16 ≤ t then (match T[t - 16]? with | some x => x.nm | none => ⟨#[]⟩) else ⟨#[]⟩

/-- The first of some texts that is this one. -/
def findN : List ByteArray → ByteArray → Nat → Option Nat
  | [], _, _ => none
  | x :: l, s, i => if (x.toList == s.toList) = true then some i else findN l s (i + 1)
def parseD (ws : List ByteArray) (T : List Cl) (s : ByteArray) : Nat × Bool :=
  match findN ws s 0 with
  | some i => (i, true)
  | none => match findN (T.map Cl.nm) s 0 with
    | some c => (16 + c, true)
    | none => (0, false)

end Go.Proofs.Ytihkodfcgfnjoaa
