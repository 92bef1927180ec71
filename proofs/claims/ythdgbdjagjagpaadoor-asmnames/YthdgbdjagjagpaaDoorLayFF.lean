/-
  Contracts of the library laid at this program, in plain words: the table of numbers and one theorem each, a field a fact of the program or the kernel's comparison. No condition.
-/
import Derived.Ground.NamesProg
import Derived.Shelf.Strings.FieldsFuncGrows
import Derived.Test.YthdgbdjagjagpaaDoorProg
namespace Go.Proofs
open Go.Shelf
def Tryd.laysFF_ren : Go.Shelf.Ren := ⟨fun | 229 => 61 | n => n, fun | 9 => 9 | 40 => 102 | 31 => 56 | 152 => 130 | 3 => 3 | 0 => 0 | 4 => 4 | 21 => 21 | 154 => 132 | n => n, fun | n => n⟩
theorem Tryd.laysFF : Go.Proofs.Lays.n229 Tryd.prog Tryd.laysFF_ren := {
  mixed := by kernel_rfl
  f229 := Tryd.func61.trans (congrArg some (by kernel_rfl))
  t0 := Tryd.underlying0
  a0 := Tryd.isAgg0
  z0 := Tryd.sizeOf0
  v0 := Tryd.zeroValue0
  t3 := Tryd.underlying3
  a3 := Tryd.isAgg3
  z3 := Tryd.sizeOf3
  v3 := Tryd.zeroValue3
  t4 := Tryd.underlying4
  a4 := Tryd.isAgg4
  z4 := Tryd.sizeOf4
  v4 := Tryd.zeroValue4
  t9 := Tryd.underlying9
  a9 := Tryd.isAgg9
  z9 := Tryd.sizeOf9
  v9 := Tryd.zeroValue9
  t21 := Tryd.underlying21
  a21 := Tryd.isAgg21
  z21 := Tryd.sizeOf21
  v21 := Tryd.zeroValue21
  t31 := Tryd.underlying56
  a31 := Tryd.isAgg56
  z31 := Tryd.sizeOf56
  v31 := Tryd.zeroValue56
  t40 := Tryd.underlying102
  a40 := Tryd.isAgg102
  z40 := Tryd.sizeOf102
  v40 := Tryd.zeroValue102
  t152 := Tryd.underlying130
  a152 := Tryd.isAgg130
  z152 := Tryd.sizeOf130
  v152 := Tryd.zeroValue130
  t154 := Tryd.underlying132
  a154 := Tryd.isAgg132
  z154 := Tryd.sizeOf132
  v154 := Tryd.zeroValue132 }
end Go.Proofs
