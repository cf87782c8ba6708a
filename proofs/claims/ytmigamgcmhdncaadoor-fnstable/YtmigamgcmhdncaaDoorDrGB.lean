/-
  A drawn Dot.
-/
import Derived.Test.YtmigamgcmhdncaaDoorDrGA
import Derived.Test.YtmigamgcmhdncaaDoorGraW
namespace Go.Proofs.YtmigamgcmhdncaaDoor
open Go.RowKit
set_option linter.unusedVariables false
set_option linter.unusedSimpArgs false
set_option maxRecDepth 10000

theorem CurOk.setCell {w : World} {g : Nat} (h : CurOk w g) {p : Addr} (hp : g < p.block) (u : Value) : CurOk (w.setCell p u) g := by
  obtain ⟨a, n, cap, B, zs, h1, h2, h3, h4, ⟨i, q, h5, h6, h7⟩, h8⟩ := h
  refine ⟨a, n, cap, B, zs, h1, h2, h3, h4.below ((Below.refl _ _).setCell (by omega) u), ⟨i, q, h5, h6, ?_⟩, by simpa [World.setCell] using h8⟩
  rw [Below.heap_setCell _ _ _ _ (by omega)]
  exact h7
theorem CurOk.alloc {w : World} {g : Nat} (h : CurOk w g) (o : Obj) : CurOk (w.alloc o) g := h.below ((Below.refl _ _).alloc (Nat.le_refl _) _)
theorem grown_alloc {w w' : World} {r : Option Nat} (h : w.grownBy w' r) (o : Obj) : w.grownBy (w'.alloc o) r := grown_trans h (World.grownBy_alloc _ _ _)
theorem Bw.grown {w w' : World} {b : Nat} {t : TypeId} {vs : List Value} {r : Option Nat} (h : Bw w b t vs) (hg : w.grownBy w' r) (hr : r ≠ some b) : Bw w' b t vs :=
  (hg.block b h.lt (fun e => hr e.symm)).trans h
theorem grown_setCell {w w' : World} {r : Option Nat} (h : w.grownBy w' r) {p : Addr} (hp : w.heap.size ≤ p.block) (u : Value) : w.grownBy (w'.setCell p u) r :=
  ⟨h.os, h.tape, h.output, by have := h.size; simpa [World.setCell] using this, fun k hk hr => by rw [Below.heap_setCell _ _ _ _ (by omega)]; exact h.block k hk hr⟩

set_option maxHeartbeats 1000000 in
theorem l8Dot_ok {g : Nat} {w : World} (hc : CurOk w g) :
    Calls Tryd.prog 56 #[.pointer (some ⟨g, 0, none⟩)] w fun e w' => DotDrawn w g e w' := by
  have hgl := hc.lt
  obtain ⟨wq, hwq⟩ : ∃ x, x = w.alloc (.cells #[.int .i64 0, .int .i64 0] 40) := ⟨_, rfl⟩
  have hbr : Bw wq w.heap.size 40 [.int .i64 0, .int .i64 0] := by rw [hwq]; exact Bw.new _ _ _
  have hcq : CurOk wq g := by rw [hwq]; exact hc.alloc _
  have hgq : w.grownBy wq (some g) := by rw [hwq]; exact World.grownBy_alloc w _ _
  go_enter Tryd.func56, Tryd.ntmps56
  go_wp2_with (rw [← hwq])
  refine (l1Below_ok _ hcq).mono ?_
  rintro e w1 ⟨x, rfl, hx, hc1, hg1⟩
  go_wp2_with fail
  refine (l1Below_ok _ hc1).mono ?_
  rintro e w2 ⟨y, rfl, hy, hc2, hg2⟩
  have hbr2 := (hbr.grown hg1 (by simp; omega)).grown hg2 (by simp; omega)
  have hgw2 := grown_trans hgq (grown_trans hg1 hg2)
  have hlr := hbr2.lt
  have f0 := hbr2.free 0
  have f1 := hbr2.free 1
  have y0 := hbr2.cell 0 _ rfl
  have y1 := hbr2.cell 1 _ rfl
  clear hwq hcq hgq hbr hg1 hg2 hc1
  go_wp2_with fail
  refine bodyPost_ret (v := .agg #[.int .i64 (1 + x), .int .i64 (1 + y)]) (by simp [results, Tryd.results56, go_sem, *]) rfl (show DotDrawn w g _ _ from ⟨1 + x, 1 + y, ⟨rfl, by omega, by omega, by omega, by omega⟩, ?_, ?_⟩)
  · repeat (first | exact hc2 | refine CurOk.setCell ?_ (by first | (simp; omega) | (show g < _; omega)) _ | refine CurOk.alloc ?_ _)
  · repeat (first | exact hgw2 | refine grown_setCell ?_ (by first | exact Nat.le_refl _ | (simp; omega)) _ | refine grown_alloc ?_ _)

end Go.Proofs.YtmigamgcmhdncaaDoor
