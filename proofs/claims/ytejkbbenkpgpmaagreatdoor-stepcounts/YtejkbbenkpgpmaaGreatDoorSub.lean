/-
  The contract of types.Sub: what the plain function 'subD' says; nothing old is turned. Conditions: types are bytes.
-/
import Derived.Test.YtejkbbenkpgpmaaGreatDoorOrd
namespace Go.Proofs.YtejkbbenkpgpmaaGreatDoor
open Go.RowKit
set_option maxRecDepth 20000

set_option maxHeartbeats 1000000 in
theorem Sub_any (ao : Option Addr) (cap : Nat) (T : List Cl) (a b : Nat) (w : World) (hT : TabAt w ao T) (ha : a < 256) (hb : b < 256) :
    Calls Tryz.prog 66 #[.slice ao T.length cap, .int .u8 (a : Int), .int .u8 (b : Int)] w fun e w' => e = .returned (.bool (subD T a b)) ∧ Below w.heap.size w w' := by
  obtain ⟨R, HR⟩ : ∃ R, Hid (subD T a b = R) := ⟨_, hide rfl⟩
  have HT := hide hT
  rw [unhide HR]
  clear hT
  go_enter Tryz.func66, Tryz.ntmps66
  go_wp2_with fail
  refine (Valid_any ao T.length cap a _ ha).mono ?_
  rintro e w1 ⟨rfl, rfl⟩
  by_cases h1 : validD T.length a = true
  · rw [h1]
    go_wp2_with fail
    refine (Valid_any ao T.length cap b _ hb).mono ?_
    rintro e w2 ⟨rfl, rfl⟩
    by_cases h2 : validD T.length b = true
    · rw [h2]
      have HR1 : Hid ((if a = b ∨ b = 0 then true else if a = 3 then isRefD b else if b = 5 then isRefD a else inLineD T ((a : Int) - 16) ((b : Int) - 16)) = R) := hide (by
        have := unhide HR
        unfold subD at this
        rw [if_neg (by rw [h1, h2]; simp)] at this
        exact this)
      clear HR h1 h2
      by_cases e1 : a = b
      · have b1 : (((a : Nat) : Int) == ((b : Nat) : Int)) = true := beq_t (by omega)
        have HR2 : Hid (true = R) := hide (by rw [← unhide HR1, if_pos (.inl e1)])
        clear e1 HR1
        go_wp2
        go_ret
        exact ⟨ret_bool (unhide HR2), Below.refl _ _⟩
      · have b1 : (((a : Nat) : Int) == ((b : Nat) : Int)) = false := beq_f (by omega)
        by_cases e2 : b = 0
        · have b2 : (((b : Nat) : Int) == 0) = true := beq_t (by omega)
          have HR2 : Hid (true = R) := hide (by rw [← unhide HR1, if_pos (.inr e2)])
          clear e1 e2 HR1
          go_wp2
          go_ret
          exact ⟨ret_bool (unhide HR2), Below.refl _ _⟩
        · have b2 : (((b : Nat) : Int) == 0) = false := beq_f (by omega)
          rw [if_neg (by omega)] at HR1
          by_cases e3 : a = 3
          · have b3 : (((a : Nat) : Int) == 3) = true := beq_t (by omega)
            rw [if_pos e3] at HR1
            clear e1 e2 e3
            go_wp2_with fail
            refine (IsRef_any b _).mono ?_
            rintro e w3 ⟨rfl, rfl⟩
            rw [unhide HR1]
            go_wp2
            go_ret
            exact ⟨rfl, Below.refl _ _⟩
          · have b3 : (((a : Nat) : Int) == 3) = false := beq_f (by omega)
            rw [if_neg e3] at HR1
            by_cases e4 : b = 5
            · have b4 : (((b : Nat) : Int) == 5) = true := beq_t (by omega)
              rw [if_pos e4] at HR1
              clear e1 e2 e3 e4
              go_wp2_with fail
              refine (IsRef_any a _).mono ?_
              rintro e w3 ⟨rfl, rfl⟩
              rw [unhide HR1]
              go_wp2
              go_ret
              exact ⟨rfl, Below.refl _ _⟩
            · have b4 : (((b : Nat) : Int) == 5) = false := beq_f (by omega)
              rw [if_neg e4] at HR1
              clear e1 e2 e3 e4
              go_wp2_with fail
              refine (classOf_any a _ ha).mono ?_
              rintro e w3 ⟨rfl, rfl⟩
              go_wp2_with fail
              refine (classOf_any b _ hb).mono ?_
              rintro e w4 ⟨rfl, rfl⟩
              go_wp2_with fail
              refine (inLine_any ao cap T ((a : Int) - 16) ((b : Int) - 16) _ (unhide HT)).mono ?_
              rintro e w5 ⟨rfl, hB⟩
              rw [unhide HR1]
              go_wp2
              go_ret
              exact ⟨rfl, hB⟩
    · have h2' : validD T.length b = false := by simpa using h2
      have HR2 : Hid (false = R) := hide (by
        have := unhide HR
        unfold subD at this
        rw [if_pos (by rw [h2']; simp)] at this
        exact this)
      rw [h2']
      clear h2 HR
      go_wp2
      go_ret
      exact ⟨ret_bool (unhide HR2), Below.refl _ _⟩
  · have h1' : validD T.length a = false := by simpa using h1
    have HR2 : Hid (false = R) := hide (by
      have := unhide HR
      unfold subD at this
      rw [if_pos (by rw [h1']; simp)] at this
      exact this)
    rw [h1']
    clear h1 HR
    go_wp2
    go_ret
    exact ⟨ret_bool (unhide HR2), Below.refl _ _⟩
end Go.Proofs.YtejkbbenkpgpmaaGreatDoor
