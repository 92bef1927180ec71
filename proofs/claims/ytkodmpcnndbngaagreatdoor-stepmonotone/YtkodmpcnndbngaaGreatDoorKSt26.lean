/-
  provisoref07.apply: as the plain function says, whatever the instruction; nothing old is turned.
-/
import Derived.Test.YtkodmpcnndbngaaGreatDoorKSt26e
import Derived.Test.YtkodmpcnndbngaaGreatDoorKSt26r
import Derived.Test.YtkodmpcnndbngaaGreatDoorKSt26t
import Derived.Test.YtkodmpcnndbngaaGreatDoorKSt26l
import Derived.Test.YtkodmpcnndbngaaGreatDoorKSt26d
import Derived.Test.YtkodmpcnndbngaaGreatDoorKSt26w
import Derived.Test.YtkodmpcnndbngaaGreatDoorKSt26s
namespace Go.Proofs.YtkodmpcnndbngaaGreatDoor
set_option maxRecDepth 20000

theorem refApply_in (s : Sp) : RefA s := by
  by_cases h4 : s.op = 4
  · exact refApply_l s h4
  by_cases h5 : s.op = 5
  · exact refApply_t s h5
  by_cases h7 : s.op = 7
  · exact refApply_d s h7
  by_cases h8 : s.op = 8
  · exact refApply_w s h8
  by_cases h16 : s.op = 16
  · exact refApply_s s h16
  by_cases h22 : s.op = 22
  · exact refApply_r s h22
  exact refApply_e s ⟨h4, h5, h7, h8, h16, h22⟩
end Go.Proofs.YtkodmpcnndbngaaGreatDoor
