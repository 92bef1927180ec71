/-
  Contracts of the library laid at this program, in plain words: the table of numbers and one theorem each, a field a fact of the program or the kernel's comparison. No condition.
-/
import Derived.Ground.NamesProg
import Derived.Shelf.Strings.Count
import Derived.Shelf.Strings.LastIndex
import Derived.Test.YtkmfpcfnmnchgaaProg
namespace Go.Proofs
open Go.Shelf
def Try.laysCount_ren : Go.Shelf.Ren := ⟨fun | 138 => 6 | 195 => 8 | 218 => 9 | 143 => 10 | 219 => 13 | 217 => 15 | 225 => 16 | 224 => 17 | 267 => 18 | 266 => 19 | 314 => 20 | n => n, fun | 9 => 9 | 3 => 3 | 4 => 4 | 5 => 5 | 0 => 0 | 46 => 32 | 146 => 29 | 51 => 28 | n => n, fun | 1 => 0 | n => n⟩
theorem Try.laysCount : Go.Proofs.Lays.n138 Try.prog Try.laysCount_ren := {
  mixed := by kernel_rfl
  f138 := Try.func6.trans (congrArg some (by kernel_rfl))
  f143 := Try.func10.trans (congrArg some (by kernel_rfl))
  f195 := Try.func8.trans (congrArg some (by kernel_rfl))
  f217 := Try.func15.trans (congrArg some (by kernel_rfl))
  f218 := Try.func9.trans (congrArg some (by kernel_rfl))
  f219 := Try.func13.trans (congrArg some (by kernel_rfl))
  f224 := Try.func17.trans (congrArg some (by kernel_rfl))
  f225 := Try.func16.trans (congrArg some (by kernel_rfl))
  f266 := Try.func19.trans (congrArg some (by kernel_rfl))
  f267 := Try.func18.trans (congrArg some (by kernel_rfl))
  f314 := Try.func20.trans (congrArg some (by kernel_rfl))
  t0 := Try.underlying0
  a0 := Try.isAgg0
  z0 := Try.sizeOf0
  v0 := Try.zeroValue0
  t3 := Try.underlying3
  a3 := Try.isAgg3
  z3 := Try.sizeOf3
  v3 := Try.zeroValue3
  t4 := Try.underlying4
  a4 := Try.isAgg4
  z4 := Try.sizeOf4
  v4 := Try.zeroValue4
  t5 := Try.underlying5
  a5 := Try.isAgg5
  z5 := Try.sizeOf5
  v5 := Try.zeroValue5
  t9 := Try.underlying9
  a9 := Try.isAgg9
  z9 := Try.sizeOf9
  v9 := Try.zeroValue9
  t46 := Try.underlying32
  a46 := Try.isAgg32
  z46 := Try.sizeOf32
  v46 := Try.zeroValue32
  t51 := Try.underlying28
  a51 := Try.isAgg28
  z51 := Try.sizeOf28
  v51 := Try.zeroValue28
  t146 := Try.underlying29
  a146 := Try.isAgg29
  z146 := Try.sizeOf29
  v146 := Try.zeroValue29
  g1 := by kernel_rfl }
def Try.laysLast_ren : Go.Shelf.Ren := ⟨fun | 148 => 7 | 222 => 11 | 223 => 12 | 269 => 14 | n => n, fun | 9 => 9 | 3 => 3 | 4 => 4 | 5 => 5 | 146 => 29 | 51 => 28 | 46 => 32 | n => n, fun | n => n⟩
theorem Try.laysLast : Go.Proofs.Lays.n148 Try.prog Try.laysLast_ren := {
  mixed := by kernel_rfl
  f148 := Try.func7.trans (congrArg some (by kernel_rfl))
  f222 := Try.func11.trans (congrArg some (by kernel_rfl))
  f223 := Try.func12.trans (congrArg some (by kernel_rfl))
  f269 := Try.func14.trans (congrArg some (by kernel_rfl))
  t3 := Try.underlying3
  a3 := Try.isAgg3
  z3 := Try.sizeOf3
  v3 := Try.zeroValue3
  t4 := Try.underlying4
  a4 := Try.isAgg4
  z4 := Try.sizeOf4
  v4 := Try.zeroValue4
  t5 := Try.underlying5
  a5 := Try.isAgg5
  z5 := Try.sizeOf5
  v5 := Try.zeroValue5
  t9 := Try.underlying9
  a9 := Try.isAgg9
  z9 := Try.sizeOf9
  v9 := Try.zeroValue9
  t46 := Try.underlying32
  a46 := Try.isAgg32
  z46 := Try.sizeOf32
  v46 := Try.zeroValue32
  t51 := Try.underlying28
  a51 := Try.isAgg28
  z51 := Try.sizeOf28
  v51 := Try.zeroValue28
  t146 := Try.underlying29
  a146 := Try.isAgg29
  z146 := Try.sizeOf29
  v146 := Try.zeroValue29 }
end Go.Proofs
