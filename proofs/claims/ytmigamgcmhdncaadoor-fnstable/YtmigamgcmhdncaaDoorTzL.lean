/-
  The library's count of the noughts behind a word's last bit, laid at this program's own numbers.
-/
import Derived.Shelf.Spec.TrailingZeros
import Derived.Test.YtmigamgcmhdncaaDoorProg
namespace Go.Proofs.YtmigamgcmhdncaaDoor
open Go.Proofs Go.Shelf
set_option linter.unusedVariables false

def layTz_ren : Go.Shelf.Ren := ⟨fun | 29 => 109 | n => n, fun | 22 => 64 | 3 => 3 | 4 => 4 | 25 => 105 | 54 => 151 | 0 => 0 | 5 => 5 | n => n, fun | 1 => 0 | n => n⟩
theorem layTz : Go.Proofs.Lays7.n29 Tryd.prog layTz_ren := {
  mixed := by kernel_rfl
  f29 := Tryd.func109.trans (congrArg some (by kernel_rfl))
  t0 := Tryd.underlying0
  a0 := Tryd.isAgg0
  z0 := Tryd.sizeOf0
  v0 := Tryd.zeroValue0
  i0 := by kernel_rfl
  t3 := Tryd.underlying3
  a3 := Tryd.isAgg3
  z3 := Tryd.sizeOf3
  v3 := Tryd.zeroValue3
  i3 := by kernel_rfl
  t4 := Tryd.underlying4
  a4 := Tryd.isAgg4
  z4 := Tryd.sizeOf4
  v4 := Tryd.zeroValue4
  i4 := by kernel_rfl
  t5 := Tryd.underlying5
  a5 := Tryd.isAgg5
  z5 := Tryd.sizeOf5
  v5 := Tryd.zeroValue5
  i5 := by kernel_rfl
  t22 := Tryd.underlying64
  a22 := Tryd.isAgg64
  z22 := Tryd.sizeOf64
  v22 := Tryd.zeroValue64
  i22 := by kernel_rfl
  t25 := Tryd.underlying105
  a25 := Tryd.isAgg105
  z25 := Tryd.sizeOf105
  v25 := Tryd.zeroValue105
  i25 := by kernel_rfl
  t54 := Tryd.underlying151
  a54 := Tryd.isAgg151
  z54 := Tryd.sizeOf151
  g1 := by kernel_rfl }

end Go.Proofs.YtmigamgcmhdncaaDoor
