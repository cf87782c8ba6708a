/-
  The exact law of DotOk: at every dot the program and the specification say the same.
-/
import Derived.Test.YtjcfpedljccboaaDots
import Derived.Test.YtjcfpedljccboaaGDatT
namespace Go.Proofs.Ytjcfpedljccboaa
open Go.RowKit
set_option linter.unusedVariables false
set_option linter.unusedSimpArgs false
set_option maxRecDepth 10000

set_option maxHeartbeats 4000000 in
theorem law_FnExactDotOk (cs0 : List Value) (m0 : MDot) (w : World) (hr0 : rDot w.heap.size w cs0 m0) :
    Calls Try.prog 3 #[.agg cs0.toArray] w fun e w' => e = .returned (.bool true) ∧ Below w.heap.size w w' := by
  obtain ⟨rfl, h0, h1, _⟩ := hr0
  have HR : Hid (∀ W : World, rDot W.heap.size W [.int .i64 m0.fR, .int .i64 m0.fN] m0) := fun W => ⟨rfl, h0, h1, trivial⟩
  go_enter Try.func3, Try.ntmps3
  go_wp2_with fail
  obtain ⟨wq, hwq⟩ : ∃ wq, wq = w.alloc (.cells #[.int .i64 m0.fR, .int .i64 m0.fN] 23) := ⟨_, rfl⟩
  have hbW : Below w.heap.size w wq := by rw [hwq]; exact (Below.refl _ _).alloc (Nat.le_refl _) _
  have hbx : Bx wq w.heap.size [.int .i64 m0.fR, .int .i64 m0.fN] := by rw [hwq]; exact Bx.new _ _ _
  rw [← hwq]
  clear hwq
  refine (toDot_any _ m0 wq (HR.out wq) (by unfold wDot; omega)).mono ?_
  rintro e w2 ⟨cs2, F2, rfl, ⟨rfl, _⟩, _, _, hx2⟩
  go_wp2_with fail
  refine (specDotOk_any _ m0 w2 (HR.out w2)).mono ?_
  rintro e w3 ⟨rfl, hx3⟩
  have hb3 := bthen (bthen hbW hx2) hx3
  have hbx3 := (hbx.under hx2).under hx3
  have z0 := hbx3.2 0 _ rfl
  have z1 := hbx3.2 1 _ rfl
  go_wp2_with fail
  refine (toDot_any _ m0 w3 (HR.out w3) (by unfold wDot; omega)).mono ?_
  rintro e w4 ⟨cs4, F4, rfl, ⟨rfl, _⟩, _, _, hx4⟩
  go_wp2_with fail
  refine (implDotOk_any _ m0 w4 (HR.out w4)).mono ?_
  rintro e w5 ⟨rfl, hx5⟩
  have hb5 := bthen (bthen hb3 hx4) hx5
  generalize dotOkP m0 = b
  go_wp2_with fail
  go_ret
  exact ⟨rfl, hb5⟩

end Go.Proofs.Ytjcfpedljccboaa
