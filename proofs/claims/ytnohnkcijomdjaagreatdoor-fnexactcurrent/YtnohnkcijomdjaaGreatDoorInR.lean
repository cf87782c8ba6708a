/-
  The specification's question whether a number lies between two others.
-/
import Derived.Test.YtnohnkcijomdjaaGreatDoorRows
import Derived.Test.YtnohnkcijomdjaaGreatDoorKit
import Derived.Test.YtnohnkcijomdjaaGreatDoorChecked
namespace Go.Proofs.YtnohnkcijomdjaaGreatDoor
open Go.RowKit
set_option linter.unusedVariables false
set_option maxRecDepth 10000

def inRange (x a b : Int) : Bool := decide (a ≤ x ∧ x ≤ b)
theorem inRange_yes {x a b : Int} (h1 : a ≤ x) (h2 : x ≤ b) : inRange x a b = true := decide_eq_true ⟨h1, h2⟩
theorem inRange_no {x a b : Int} (h : ¬ (a ≤ x ∧ x ≤ b)) : inRange x a b = false := decide_eq_false h

set_option maxHeartbeats 400000 in
theorem l1In_any (x a b : Int) (w : World) :
    Calls Tryz.prog 37 #[.int .i64 x, .int .i64 a, .int .i64 b] w fun e w' => e = .returned (.bool (inRange x a b)) ∧ w' = w := by
  by_cases h1 : a ≤ x
  · by_cases h2 : x ≤ b
    · have HV := Hid.mk (inRange_yes h1 h2)
      go_enter Tryz.func37, Tryz.ntmps37
      go_wp2
      go_ret
      exact ⟨by rw [HV.out]; rfl, rfl⟩
    · have HV := Hid.mk (inRange_no (x := x) (a := a) (b := b) (by omega))
      go_enter Tryz.func37, Tryz.ntmps37
      go_wp2
      go_ret
      exact ⟨by rw [HV.out]; rfl, rfl⟩
  · have HV := Hid.mk (inRange_no (x := x) (a := a) (b := b) (by omega))
    go_enter Tryz.func37, Tryz.ntmps37
    go_wp2
    go_ret
    exact ⟨by rw [HV.out]; rfl, rfl⟩

end Go.Proofs.YtnohnkcijomdjaaGreatDoor
