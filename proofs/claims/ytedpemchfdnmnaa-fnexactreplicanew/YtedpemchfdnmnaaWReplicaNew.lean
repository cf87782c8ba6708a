/-
  The exact law of ReplicaNew: at every two numbers the program and the specification answer the same.
-/
import Derived.Test.YtedpemchfdnmnaaRepN
namespace Go.Proofs.Ytedpemchfdnmnaa
open Go.RowKit Go.Maps
set_option linter.unusedVariables false
set_option linter.unusedSimpArgs false
set_option maxRecDepth 10000

set_option maxHeartbeats 4000000 in
theorem law_FnExactReplicaNew (id n : Int) (w : World) (h0 : (Lit.int .i64 id).wf = true) (h1 : (Lit.int .i64 n).wf = true) :
    Calls Try.prog 5 #[.int .i64 id, .int .i64 n] w fun e w' => e = .returned (.bool true) ∧ Below w.heap.size w w' := by
  go_enter Try.func5, Try.ntmps5
  go_wp2_with fail
  refine (specReplicaNew_any id n w).mono ?_
  rintro e w1 ⟨rfl, hx1⟩
  generalize hA : rnA id n = a
  generalize hB : rnB id n = b
  generalize hC : rnC id n = c
  have HI : Hid (∀ W : World, Calls Try.prog 13 #[.int .i64 id, .int .i64 n] W fun e w' => e = .returned (.agg (repL a b c).toArray) ∧ Below W.heap.size W w') := by
    show ∀ W : World, _
    rw [← hA, ← hB, ← hC]
    exact fun W => implReplicaNew_any id n W
  have HE := Hid.mk (eqReplica_new a b c)
  have HM := Hid.mk (markReplica_new a b c 1)
  have HH := Hid.mk (heldReplica_new a b c 1)
  clear hA hB hC
  unfold repL at HI HE HM HH ⊢
  go_wp2_with fail
  obtain ⟨wq, hwq⟩ : ∃ wq, wq = w1.alloc (.cells #[.int .i64 a, .int .i64 b, .int .i64 c, .slice none 0 0, .slice none 0 0, .slice none 0 0, .slice none 0 0, .slice none 0 0] 37) := ⟨_, rfl⟩
  have hbW : Below w.heap.size w wq := by rw [hwq]; exact hx1.alloc hx1.size _
  have hbx : Bx wq w1.heap.size [.int .i64 a, .int .i64 b, .int .i64 c, .slice none 0 0, .slice none 0 0, .slice none 0 0, .slice none 0 0, .slice none 0 0] := by rw [hwq]; exact Bx.new _ _ _
  rw [← hwq]
  clear hwq
  refine (HI.out wq).mono ?_
  rintro e w2 ⟨rfl, hx2⟩
  replace hbW := bthen hbW hx2
  replace hbx := hbx.under hx2
  clear hx1 hx2
  have y0 := fun o => (hbx.alloc o).2 0 _ rfl
  have y1 := fun o => (hbx.alloc o).2 1 _ rfl
  have y2 := fun o => (hbx.alloc o).2 2 _ rfl
  have y3 := fun o => (hbx.alloc o).2 3 _ rfl
  have y4 := fun o => (hbx.alloc o).2 4 _ rfl
  have y5 := fun o => (hbx.alloc o).2 5 _ rfl
  have y6 := fun o => (hbx.alloc o).2 6 _ rfl
  have y7 := fun o => (hbx.alloc o).2 7 _ rfl
  go_wp2_with fail
  obtain ⟨wr, hwr⟩ : ∃ wr, wr = w2.alloc (.cells #[.int .i64 a, .int .i64 b, .int .i64 c, .slice none 0 0, .slice none 0 0, .slice none 0 0, .slice none 0 0, .slice none 0 0] 37) := ⟨_, rfl⟩
  have hbR : Below w.heap.size w wr := by rw [hwr]; exact hbW.alloc hbW.size _
  have hby : Bx wr w2.heap.size [.int .i64 a, .int .i64 b, .int .i64 c, .slice none 0 0, .slice none 0 0, .slice none 0 0, .slice none 0 0, .slice none 0 0] := by rw [hwr]; exact Bx.new _ _ _
  replace hbx : Bx wr w1.heap.size [.int .i64 a, .int .i64 b, .int .i64 c, .slice none 0 0, .slice none 0 0, .slice none 0 0, .slice none 0 0, .slice none 0 0] := by rw [hwr]; exact hbx.alloc _
  rw [← hwr]
  clear hwr hbW y0 y1 y2 y3 y4 y5 y6 y7
  have y0 := hbx.2 0 _ rfl
  have z0 := hby.2 0 _ rfl
  have y1 := hbx.2 1 _ rfl
  have z1 := hby.2 1 _ rfl
  have y2 := hbx.2 2 _ rfl
  have z2 := hby.2 2 _ rfl
  have y3 := hbx.2 3 _ rfl
  have z3 := hby.2 3 _ rfl
  have y4 := hbx.2 4 _ rfl
  have z4 := hby.2 4 _ rfl
  have y5 := hbx.2 5 _ rfl
  have z5 := hby.2 5 _ rfl
  have y6 := hbx.2 6 _ rfl
  have z6 := hby.2 6 _ rfl
  have y7 := hbx.2 7 _ rfl
  have z7 := hby.2 7 _ rfl
  go_wp2_with fail
  refine (HE.out wr).mono ?_
  rintro e w11 ⟨rfl, hx⟩
  replace hbR := bthen hbR hx
  replace hbx := hbx.under hx
  replace hby := hby.under hx
  clear y0 z0 y1 z1 y2 z2 y3 z3 y4 z4 y5 z5 y6 z6 y7 z7
  clear hx
  have y0 := hbx.2 0 _ rfl
  have z0 := hby.2 0 _ rfl
  have y1 := hbx.2 1 _ rfl
  have z1 := hby.2 1 _ rfl
  have y2 := hbx.2 2 _ rfl
  have z2 := hby.2 2 _ rfl
  have y3 := hbx.2 3 _ rfl
  have z3 := hby.2 3 _ rfl
  have y4 := hbx.2 4 _ rfl
  have z4 := hby.2 4 _ rfl
  have y5 := hbx.2 5 _ rfl
  have z5 := hby.2 5 _ rfl
  have y6 := hbx.2 6 _ rfl
  have z6 := hby.2 6 _ rfl
  have y7 := hbx.2 7 _ rfl
  have z7 := hby.2 7 _ rfl
  go_wp2_with fail
  refine (HM.out w11 (by omega)).mono ?_
  rintro e w12 ⟨rfl, hx⟩
  replace hbR := bthen hbR hx
  replace hbx := hbx.under hx
  replace hby := hby.under hx
  clear y0 z0 y1 z1 y2 z2 y3 z3 y4 z4 y5 z5 y6 z6 y7 z7
  clear hx
  have y0 := hbx.2 0 _ rfl
  have z0 := hby.2 0 _ rfl
  have y1 := hbx.2 1 _ rfl
  have z1 := hby.2 1 _ rfl
  have y2 := hbx.2 2 _ rfl
  have z2 := hby.2 2 _ rfl
  have y3 := hbx.2 3 _ rfl
  have z3 := hby.2 3 _ rfl
  have y4 := hbx.2 4 _ rfl
  have z4 := hby.2 4 _ rfl
  have y5 := hbx.2 5 _ rfl
  have z5 := hby.2 5 _ rfl
  have y6 := hbx.2 6 _ rfl
  have z6 := hby.2 6 _ rfl
  have y7 := hbx.2 7 _ rfl
  have z7 := hby.2 7 _ rfl
  go_wp2_with fail
  refine (HH.out w12 (by omega)).mono ?_
  rintro e w13 ⟨rfl, hx⟩
  replace hbR := bthen hbR hx
  replace hbx := hbx.under hx
  replace hby := hby.under hx
  clear y0 z0 y1 z1 y2 z2 y3 z3 y4 z4 y5 z5 y6 z6 y7 z7
  clear hx
  have y0 := hbx.2 0 _ rfl
  have z0 := hby.2 0 _ rfl
  have y1 := hbx.2 1 _ rfl
  have z1 := hby.2 1 _ rfl
  have y2 := hbx.2 2 _ rfl
  have z2 := hby.2 2 _ rfl
  have y3 := hbx.2 3 _ rfl
  have z3 := hby.2 3 _ rfl
  have y4 := hbx.2 4 _ rfl
  have z4 := hby.2 4 _ rfl
  have y5 := hbx.2 5 _ rfl
  have z5 := hby.2 5 _ rfl
  have y6 := hbx.2 6 _ rfl
  have z6 := hby.2 6 _ rfl
  have y7 := hbx.2 7 _ rfl
  have z7 := hby.2 7 _ rfl
  go_wp2_with fail
  refine (HI.out w13).mono ?_
  rintro e w14 ⟨rfl, hx⟩
  replace hbR := bthen hbR hx
  replace hbx := hbx.under hx
  replace hby := hby.under hx
  clear y0 z0 y1 z1 y2 z2 y3 z3 y4 z4 y5 z5 y6 z6 y7 z7
  clear hx
  have y0 := fun o => (hbx.alloc o).2 0 _ rfl
  have y1 := fun o => (hbx.alloc o).2 1 _ rfl
  have y2 := fun o => (hbx.alloc o).2 2 _ rfl
  have y3 := fun o => (hbx.alloc o).2 3 _ rfl
  have y4 := fun o => (hbx.alloc o).2 4 _ rfl
  have y5 := fun o => (hbx.alloc o).2 5 _ rfl
  have y6 := fun o => (hbx.alloc o).2 6 _ rfl
  have y7 := fun o => (hbx.alloc o).2 7 _ rfl
  go_wp2_with fail
  obtain ⟨wt, hwt⟩ : ∃ wt, wt = w14.alloc (.cells #[.int .i64 a, .int .i64 b, .int .i64 c, .slice none 0 0, .slice none 0 0, .slice none 0 0, .slice none 0 0, .slice none 0 0] 37) := ⟨_, rfl⟩
  replace hbR : Below w.heap.size w wt := by rw [hwt]; exact hbR.alloc hbR.size _
  have hbz : Bx wt w14.heap.size [.int .i64 a, .int .i64 b, .int .i64 c, .slice none 0 0, .slice none 0 0, .slice none 0 0, .slice none 0 0, .slice none 0 0] := by rw [hwt]; exact Bx.new _ _ _
  replace hbx : Bx wt w1.heap.size [.int .i64 a, .int .i64 b, .int .i64 c, .slice none 0 0, .slice none 0 0, .slice none 0 0, .slice none 0 0, .slice none 0 0] := by rw [hwt]; exact hbx.alloc _
  replace hby : Bx wt w2.heap.size [.int .i64 a, .int .i64 b, .int .i64 c, .slice none 0 0, .slice none 0 0, .slice none 0 0, .slice none 0 0, .slice none 0 0] := by rw [hwt]; exact hby.alloc _
  rw [← hwt]
  clear hwt y0 y1 y2 y3 y4 y5 y6 y7
  have x0 := hbz.2 0 _ rfl
  have x1 := hbz.2 1 _ rfl
  have x2 := hbz.2 2 _ rfl
  have x3 := hbz.2 3 _ rfl
  have x4 := hbz.2 4 _ rfl
  have x5 := hbz.2 5 _ rfl
  have x6 := hbz.2 6 _ rfl
  have x7 := hbz.2 7 _ rfl
  have y0 := hbx.2 0 _ rfl
  have z0 := hby.2 0 _ rfl
  have y1 := hbx.2 1 _ rfl
  have z1 := hby.2 1 _ rfl
  have y2 := hbx.2 2 _ rfl
  have z2 := hby.2 2 _ rfl
  have y3 := hbx.2 3 _ rfl
  have z3 := hby.2 3 _ rfl
  have y4 := hbx.2 4 _ rfl
  have z4 := hby.2 4 _ rfl
  have y5 := hbx.2 5 _ rfl
  have z5 := hby.2 5 _ rfl
  have y6 := hbx.2 6 _ rfl
  have z6 := hby.2 6 _ rfl
  have y7 := hbx.2 7 _ rfl
  have z7 := hby.2 7 _ rfl
  go_wp2_with fail
  refine (HE.out wt).mono ?_
  rintro e w16 ⟨rfl, hx⟩
  replace hbR := bthen hbR hx
  replace hbx := hbx.under hx
  replace hby := hby.under hx
  clear y0 z0 y1 z1 y2 z2 y3 z3 y4 z4 y5 z5 y6 z6 y7 z7
  clear hx
  clear hbz x0 x1 x2 x3 x4 x5 x6 x7
  have y0 := hbx.2 0 _ rfl
  have z0 := hby.2 0 _ rfl
  have y1 := hbx.2 1 _ rfl
  have z1 := hby.2 1 _ rfl
  have y2 := hbx.2 2 _ rfl
  have z2 := hby.2 2 _ rfl
  have y3 := hbx.2 3 _ rfl
  have z3 := hby.2 3 _ rfl
  have y4 := hbx.2 4 _ rfl
  have z4 := hby.2 4 _ rfl
  have y5 := hbx.2 5 _ rfl
  have z5 := hby.2 5 _ rfl
  have y6 := hbx.2 6 _ rfl
  have z6 := hby.2 6 _ rfl
  have y7 := hbx.2 7 _ rfl
  have z7 := hby.2 7 _ rfl
  go_wp2_with fail
  refine (HH.out w16 (by omega)).mono ?_
  rintro e w17 ⟨rfl, hx⟩
  replace hbR := bthen hbR hx
  replace hbx := hbx.under hx
  replace hby := hby.under hx
  clear y0 z0 y1 z1 y2 z2 y3 z3 y4 z4 y5 z5 y6 z6 y7 z7
  clear hx
  go_wp2_with fail
  go_ret
  exact ⟨rfl, hbR⟩

end Go.Proofs.Ytedpemchfdnmnaa
