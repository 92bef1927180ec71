/-
  Contracts of types.isStored and types.isWord: what the plain functions 'storedD' and 'isWordD' say, in the same world.
-/
import Derived.Test.YtnkhkppddlpcmaaDoorKRefFind
import Derived.Test.YtnkhkppddlpcmaaDoorWnT
namespace Go.Proofs.YtnkhkppddlpcmaaDoor
open Go.RowKit
set_option maxRecDepth 20000

theorem isStored_any (ao : Option Addr) (n cap t : Nat) (w : World) (ht : t < 256) :
    Calls Tryd.prog 93 #[.slice ao n cap, .int .u8 (t : Int)] w fun e w' => e = .returned (.bool (storedD n t)) ∧ w' = w := by
  cases hv : validD n t
  · have HR : Hid (storedD n t = false) := hide (by unfold storedD; rw [hv]; rfl)
    have HV := hide hv
    clear hv
    go_enter Tryd.func93, Tryd.ntmps93
    go_wp2_with fail
    refine (Valid_any ao n cap t _ ht).mono ?_
    rintro e w2 ⟨rfl, rfl⟩
    rw [unhide HV]
    go_wp2
    go_ret
    exact ⟨ret_bool (unhide HR).symm, rfl⟩
  · have HV := hide hv
    by_cases h0 : t = 0
    · have HR : Hid (storedD n t = false) := hide (by unfold storedD; rw [hv, h0]; rfl)
      have b0 : (((t : Nat) : Int) != 0) = false := by simp [h0]
      clear hv h0
      go_enter Tryd.func93, Tryd.ntmps93
      go_wp2_with fail
      refine (Valid_any ao n cap t _ ht).mono ?_
      rintro e w2 ⟨rfl, rfl⟩
      rw [unhide HV]
      go_wp2
      go_ret
      exact ⟨ret_bool (unhide HR).symm, rfl⟩
    · have b0 : (((t : Nat) : Int) != 0) = true := by simp [h0]
      by_cases h3 : t = 3
      · have HR : Hid (storedD n t = false) := hide (by unfold storedD; rw [h3]; simp)
        have b3 : (((t : Nat) : Int) != 3) = false := by simp [h3]
        clear hv h0 h3
        go_enter Tryd.func93, Tryd.ntmps93
        go_wp2_with fail
        refine (Valid_any ao n cap t _ ht).mono ?_
        rintro e w2 ⟨rfl, rfl⟩
        rw [unhide HV]
        go_wp2
        go_ret
        exact ⟨ret_bool (unhide HR).symm, rfl⟩
      · have HR : Hid (storedD n t = true) := hide (by unfold storedD; rw [hv]; simp [h0, h3])
        have b3 : (((t : Nat) : Int) != 3) = true := by simp; omega
        clear hv h0 h3
        go_enter Tryd.func93, Tryd.ntmps93
        go_wp2_with fail
        refine (Valid_any ao n cap t _ ht).mono ?_
        rintro e w2 ⟨rfl, rfl⟩
        rw [unhide HV]
        go_wp2
        go_ret
        exact ⟨ret_bool (unhide HR).symm, rfl⟩

theorem tabNil (w : World) : TabAt w none [] := fun i x hx => by simp at hx

theorem parse_nil (s : ByteArray) : (parseD six [] s).2 = isWordD s := by
  have hr : List.range 6 = [0, 1, 2, 3, 4, 5] := by decide
  unfold parseD six isWordD
  rw [hr]
  cases h0 : ((wordD 0).toList == s.toList) <;> cases h1 : ((wordD 1).toList == s.toList) <;> cases h2 : ((wordD 2).toList == s.toList) <;> cases h3 : ((wordD 3).toList == s.toList) <;> cases h4 : ((wordD 4).toList == s.toList) <;> cases h5 : ((wordD 5).toList == s.toList) <;> simp [findN, h0, h1, h2, h3, h4, h5]

theorem typesWord_any (s : ByteArray) (w : World) (hW : WordsAt w) :
    Calls Tryd.prog 75 #[.string s] w fun e w' => e = .returned (.bool (isWordD s)) ∧ w' = w := by
  have HP := hide (Parse_six (wordD 0) (wordD 1) (wordD 2) (wordD 3) (wordD 4) (wordD 5) none 0 [] s w (tabNil w) (by simp) (hW 0 (by omega)) (hW 1 (by omega)) (hW 2 (by omega)) (hW 3 (by omega)) (hW 4 (by omega)) (hW 5 (by omega)))
  have HR := hide (parse_nil s)
  clear hW
  go_enter Tryd.func75, Tryd.ntmps75
  go_wp2_with fail
  refine (unhide HP).mono ?_
  rintro e w2 ⟨rfl, rfl⟩
  rw [show [wordD 0, wordD 1, wordD 2, wordD 3, wordD 4, wordD 5] = six from rfl, unhide HR]
  go_wp2
  go_ret
  exact ⟨rfl, rfl⟩
end Go.Proofs.YtnkhkppddlpcmaaDoor
