/-
  What the laws reckon that their arguments weigh.
-/
import Derived.Test.YtnomigomjhhccaaRows
import Derived.Test.YtnomigomjhhccaaKit
import Derived.Test.YtnomigomjhhccaaDatN
import Derived.Test.YtnomigomjhhccaaChecked
import Derived.Test.YtnomigomjhhccaaCDat
namespace Go.Proofs.Ytnomigomjhhccaa
open Go.RowKit
set_option linter.unusedVariables false

set_option maxHeartbeats 400000 in
theorem szCmd_any (cs : List Value) (m : MCmd) (left : Int) (w : World) (g0 : 0 ≤ left) (g1 : left ≤ 1048576) (hr : rCmd w.heap.size w cs m) :
    Calls Try.prog 11 #[.agg cs.toArray, .int .i64 left] w fun e w' => e = .returned (.int .i64 (szRes left (wCmd m))) ∧ Below w.heap.size w w' := by
  obtain ⟨rfl, h0, h1, h2, _⟩ := hr
  have HW : Hid (wCmd m = m.fKey.size + m.fVal.size) := rfl
  have hb0 : Below w.heap.size w (w.alloc (.cells #[.int .i64 m.fKind, .string m.fKey, .string m.fVal] 23)) := (Below.refl _ _).alloc (Nat.le_refl _) _
  go_enter Try.func11, Try.ntmps11
  by_cases hw1 : ((m.fKey.size : Nat) : Int) ≤ left
  rotate_left
  · have HV : Hid (szRes left (wCmd m) = -1) := szRes_no (by have h := HW.out; omega)
    go_wp2_with fail
    go_ret
    exact ⟨by rw [HV.out]; rfl, hb0⟩
  by_cases hw2 : ((m.fVal.size : Nat) : Int) ≤ left - (((m.fKey.size : Nat) : Int))
  rotate_left
  · have HV : Hid (szRes left (wCmd m) = -1) := szRes_no (by have h := HW.out; omega)
    go_wp2_with fail
    go_ret
    exact ⟨by rw [HV.out]; rfl, hb0⟩
  have HV := Hid.mk (szRes_yes (left := left) (t := wCmd m) (by have h := HW.out; omega))
  go_wp2_with fail
  go_ret
  exact ⟨by rw [HV.out, HW.out]; go_num, hb0⟩

end Go.Proofs.Ytnomigomjhhccaa
