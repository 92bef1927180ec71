/-
  Contracts of types.classOf, isClass, typeOf, Print and Parse, over six words that the package's variable holds: what the plain functions say, in the same world. Conditions: a type is a byte, the table has at most 32 classes.
-/
import Derived.Test.YtelbajcfdecaoaaDoorT02d
namespace Go.Proofs.YtelbajcfdecaoaaDoor
open Go.RowKit
set_option maxRecDepth 20000

theorem clsOf_any (t : Nat) (w : World) (ht : t < 256) :
    Calls Tryd.prog 77 #[.int .u8 (t : Int)] w fun e w' => e = .returned (.int .i64 ((t : Int) - 16)) ∧ w' = w := by
  go_enter Tryd.func77, Tryd.ntmps77
  go_wp2
  go_ret
  exact ⟨ret_int (by first | rfl | omega), rfl⟩
theorem isCls_yes (ao : Option Addr) (n cap : Nat) (c : Int) (w : World) (h1 : 0 ≤ c) (h2 : c < (n : Int)) :
    Calls Tryd.prog 76 #[.slice ao n cap, .int .i64 c] w fun e w' => e = .returned (.bool true) ∧ w' = w := by
  have h1' : c ≥ 0 := h1
  go_enter Tryd.func76, Tryd.ntmps76
  go_wp2
  go_ret
  exact ⟨rfl, rfl⟩
theorem isCls_no (ao : Option Addr) (n cap : Nat) (c : Int) (w : World) (h : ¬ (0 ≤ c ∧ c < (n : Int))) :
    Calls Tryd.prog 76 #[.slice ao n cap, .int .i64 c] w fun e w' => e = .returned (.bool false) ∧ w' = w := by
  by_cases h1 : 0 ≤ c
  · have h1' : c ≥ 0 := h1
    have h2 : ¬ c < (n : Int) := fun h' => h ⟨h1, h'⟩
    go_enter Tryd.func76, Tryd.ntmps76
    go_wp2
    go_ret
    exact ⟨rfl, rfl⟩
  · have h1' : ¬ c ≥ 0 := h1
    go_enter Tryd.func76, Tryd.ntmps76
    go_wp2
    go_ret
    exact ⟨rfl, rfl⟩
theorem tyOf_any (c : Nat) (w : World) (hc : c < 240) :
    Calls Tryd.prog 100 #[.int .i64 (c : Int)] w fun e w' => e = .returned (.int .u8 ((16 + c : Nat) : Int)) ∧ w' = w := by
  go_enter Tryd.func100, Tryd.ntmps100
  go_wp2
  go_ret
  exact ⟨ret_int (by first | rfl | omega), rfl⟩

/-- The package's words lie there. -/
def WordsAt (W : World) : Prop := ∀ j, j < 6 → W.cell? ⟨1, j, none⟩ = some (.string (wordD j))
theorem WordsAt.below {W w : World} (h : WordsAt W) (hb : Below W.heap.size W w) : WordsAt w := fun j hj =>
  (hb.cell (p := ⟨1, j, none⟩) (World.block_lt_of_cell? W _ (h j hj))).trans (h j hj)

def printD (T : List Cl) (t : Nat) : ByteArray := if t ≤ 5 then wordD t else if 16 ≤ t then (match T[t - 16]? with | some x => x.nm | none => ⟨#[]⟩) else ⟨#[]⟩

theorem Print_any (ao : Option Addr) (cap : Nat) (T : List Cl) (t : Nat) (w : World) (hT : TabAt w ao T) (hW : WordsAt w) (ht : t < 256) :
    Calls Tryd.prog 81 #[.slice ao T.length cap, .int .u8 (t : Int)] w fun e w' => e = .returned (.string (printD T t)) ∧ w' = w := by
  obtain ⟨P, HP⟩ : ∃ P, Hid (printD T t = P) := ⟨_, hide rfl⟩
  rw [unhide HP]
  by_cases h5 : t ≤ 5
  · have i1 : ((t : Nat) : Int) ≤ 5 := by omega
    have i2 : ((t : Nat) : Int) < 6 := by omega
    have d := hW t (by omega)
    have HR : Hid (wordD t = P) := hide (by rw [← unhide HP]; unfold printD; rw [if_pos h5])
    generalize wordD t = z at d HR
    clear hW
    go_enter Tryd.func81, Tryd.ntmps81
    go_wp2
    go_ret
    exact ⟨by rw [unhide HR]; rfl, rfl⟩
  · have i1 : ¬ ((t : Nat) : Int) ≤ 5 := by omega
    clear hW
    go_enter Tryd.func81, Tryd.ntmps81
    go_wp2_with fail
    refine (clsOf_any t _ ht).mono ?_
    rintro e w1 ⟨rfl, rfl⟩
    by_cases hc : 16 ≤ t ∧ t - 16 < T.length
    · obtain ⟨k, rfl⟩ : ∃ k, t = 16 + k := ⟨t - 16, by omega⟩
      have hk : k < T.length := by omega
      have ek : ((16 + k : Nat) : Int) - 16 = (k : Int) := by omega
      obtain ⟨b, off, rfl, hx⟩ := hT k _ (List.getElem?_eq_getElem hk)
      have d := hx.c0
      have HR : Hid (T[k].nm = P) := hide (by rw [← unhide HP]; unfold printD; rw [if_neg h5, if_pos (by omega), show 16 + k - 16 = k from by omega, List.getElem?_eq_getElem hk])
      generalize T[k].nm = z at d HR
      have i3 : ((k : Nat) : Int) < ((T.length : Nat) : Int) := by omega
      clear hx hT
      rw [ek]
      go_wp2_with fail
      refine (isCls_yes _ T.length cap (k : Int) _ (by omega) (by omega)).mono ?_
      rintro e w2 ⟨rfl, rfl⟩
      go_wp2
      go_ret
      exact ⟨by rw [unhide HR]; rfl, rfl⟩
    · have HR : Hid (⟨#[]⟩ = P) := hide (by
        rw [← unhide HP]
        unfold printD
        rw [if_neg h5]
        by_cases h : 16 ≤ t
        · rw [if_pos h, List.getElem?_eq_none (by omega)]
        · rw [if_neg h])
      go_wp2_with fail
      refine (isCls_no _ T.length cap ((t : Int) - 16) _ (by omega)).mono ?_
      rintro e w2 ⟨rfl, rfl⟩
      go_wp2
      go_ret
      exact ⟨by rw [← unhide HR]; rfl, rfl⟩

/-- The first of some texts that is this one. -/
def findN : List ByteArray → ByteArray → Nat → Option Nat
  | [], _, _ => none
  | x :: l, s, i => if (x.toList == s.toList) = true then some i else findN l s (i + 1)
def parseD (ws : List ByteArray) (T : List Cl) (s : ByteArray) : Nat × Bool :=
  match findN ws s 0 with
  | some i => (i, true)
  | none => match findN (T.map Cl.nm) s 0 with
    | some c => (16 + c, true)
    | none => (0, false)

end Go.Proofs.YtelbajcfdecaoaaDoor
