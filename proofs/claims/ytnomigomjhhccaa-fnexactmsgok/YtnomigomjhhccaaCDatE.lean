/-
  The laws compare: two that stand for the same are found the same.
-/
import Derived.Test.YtnomigomjhhccaaCDatZ
import Derived.Deep.RegionWith
namespace Go.Proofs.Ytnomigomjhhccaa
open Go.RowKit
set_option linter.unusedVariables false

set_option maxHeartbeats 1000000 in
theorem eqCmd_yes (cs1 cs2 : List Value) (m : MCmd) (w : World) (hr1 : rCmd w.heap.size w cs1 m) (hr2 : rCmd w.heap.size w cs2 m) (hsz : wCmd m ≤ 1099511627776) :
    Calls Try.prog 98 #[.agg cs1.toArray, .agg cs2.toArray] w fun e w' => e = .returned (.bool true) ∧ Below w.heap.size w w' := by
  obtain ⟨rfl, h0, h1, h2, _⟩ := hr1
  obtain ⟨rfl, g0, g1, g2, _⟩ := hr2
  have hsz' : m.fKey.size + m.fVal.size ≤ 1099511627776 := hsz
  clear hsz
  have hbA : ∀ o1 o2, Below w.heap.size w ((w.alloc o1).alloc o2) := fun o1 o2 => ((Below.refl _ _).alloc (Nat.le_refl _) o1).alloc (by simp) o2
  go_enter Try.func98, Try.ntmps98
  go_wp2_with fail
  go_ret
  exact ⟨rfl, (hbA _ _)⟩

end Go.Proofs.Ytnomigomjhhccaa
