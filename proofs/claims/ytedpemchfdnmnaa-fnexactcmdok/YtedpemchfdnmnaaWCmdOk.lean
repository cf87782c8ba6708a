/-
  The exact law of CmdOk: at every command the program and the specification say the same.
-/
import Derived.Test.YtedpemchfdnmnaaCmds
import Derived.Test.YtedpemchfdnmnaaCDatT
namespace Go.Proofs.Ytedpemchfdnmnaa
open Go.RowKit Go.Maps
set_option linter.unusedVariables false
set_option linter.unusedSimpArgs false
set_option maxRecDepth 10000

set_option maxHeartbeats 4000000 in
theorem law_FnExactCmdOk (cs0 : List Value) (m0 : MCmd) (w : World) (hr0 : rCmd w.heap.size w cs0 m0) :
    Calls Try.prog 3 #[.agg cs0.toArray] w fun e w' => e = .returned (.bool true) ∧ Below w.heap.size w w' := by
  obtain ⟨rfl, h0, h1, h2, _⟩ := hr0
  have HR : Hid (∀ W : World, rCmd W.heap.size W [.int .i64 m0.fKind, .string m0.fKey, .string m0.fVal] m0) := fun W => ⟨rfl, h0, h1, h2, trivial⟩
  go_enter Try.func3, Try.ntmps3
  go_wp2_with fail
  obtain ⟨wq, hwq⟩ : ∃ wq, wq = w.alloc (.cells #[.int .i64 m0.fKind, .string m0.fKey, .string m0.fVal] 23) := ⟨_, rfl⟩
  have hbW : Below w.heap.size w wq := by rw [hwq]; exact (Below.refl _ _).alloc (Nat.le_refl _) _
  have hbx : Bx wq w.heap.size [.int .i64 m0.fKind, .string m0.fKey, .string m0.fVal] := by rw [hwq]; exact Bx.new _ _ _
  rw [← hwq]
  clear hwq
  refine (szCmd_any _ m0 1048576 wq (by omega) (by omega) (HR.out wq)).mono ?_
  rintro e w1 ⟨rfl, hx1⟩
  have hb1 := bthen hbW hx1
  have hbx1 := hbx.under hx1
  clear hbx
  by_cases hw : ((wCmd m0 : Nat) : Int) ≤ 1048576
  · rw [szRes_yes hw]
    have y0 := hbx1.2 0 _ rfl
    have y1 := hbx1.2 1 _ rfl
    have y2 := hbx1.2 2 _ rfl
    go_wp2_with fail
    refine (toCmd_any _ m0 w1 (HR.out w1) (by omega)).mono ?_
    rintro e w2 ⟨cs2, F2, rfl, ⟨rfl, _⟩, _, _, hx2⟩
    go_wp2_with fail
    refine (specCmdOk_any _ m0 w2 (HR.out w2) (by omega)).mono ?_
    rintro e w3 ⟨rfl, hx3⟩
    have hb3 := bthen (bthen hb1 hx2) hx3
    have hbx3 := (hbx1.under hx2).under hx3
    have z0 := hbx3.2 0 _ rfl
    have z1 := hbx3.2 1 _ rfl
    have z2 := hbx3.2 2 _ rfl
    clear y0 y1 y2
    go_wp2_with fail
    refine (toCmd_any _ m0 w3 (HR.out w3) (by omega)).mono ?_
    rintro e w4 ⟨cs4, F4, rfl, ⟨rfl, _⟩, _, _, hx4⟩
    go_wp2_with fail
    refine (implCmdOk_any _ m0 w4 (HR.out w4) (by omega)).mono ?_
    rintro e w5 ⟨rfl, hx5⟩
    have hb5 := bthen (bthen hb3 hx4) hx5
    generalize cmdOkP m0 = b
    go_wp2_with fail
    go_ret
    exact ⟨rfl, hb5⟩
  · rw [szRes_no hw]
    go_wp2_with fail
    go_ret
    exact ⟨rfl, hb1⟩

end Go.Proofs.Ytedpemchfdnmnaa
