/-
  The exact law of Meet: of every two commands the program and the specification say the same.
-/
import Derived.Test.YtedpemchfdnmnaaRegK
import Derived.Test.YtedpemchfdnmnaaCmds
import Derived.Test.YtedpemchfdnmnaaCDatT
import Derived.Deep.RegionWith
namespace Go.Proofs.Ytedpemchfdnmnaa
open Go.RowKit Go.Maps
set_option linter.unusedVariables false
set_option linter.unusedSimpArgs false
set_option maxRecDepth 10000
abbrev q9b4_4_8_0 : Oper := ⟨some 18, .load 23 (.tmp 2), 23, "exact.go:4555", #[], none⟩
abbrev q9b4_4_8_2 : Oper := ⟨some 20, .load 23 (.tmp 3), 23, "exact.go:4555", #[], none⟩
abbrev q9b4_4_8_1 : Oper := ⟨some 19, .call { callee := .value (.func 8), args := #[.tmp 18], argTypes := #[23] }, 26, "exact.go:4555", #[⟨0, .data⟩], none⟩
abbrev q9b4_4_8_3 : Oper := ⟨some 21, .call { callee := .value (.func 8), args := #[.tmp 20], argTypes := #[23] }, 26, "exact.go:4555", #[⟨2, .data⟩, ⟨1, .chain⟩], none⟩
abbrev q9b4_4_8_4 : Oper := ⟨some 22, .call { callee := .value (.func 10), args := #[.tmp 19, .tmp 21], argTypes := #[26, 26] }, 4, "exact.go:4555", #[⟨1, .data⟩, ⟨3, .data⟩, ⟨3, .chain⟩], none⟩
abbrev q9b4_4_8_5 : Oper := ⟨some 6, .assign (.tmp 22), 4, "exact.go:4555", #[⟨4, .data⟩, ⟨4, .chain⟩, ⟨0, .phase⟩, ⟨1, .phase⟩, ⟨2, .phase⟩, ⟨3, .phase⟩, ⟨4, .phase⟩], none⟩
abbrev q9b4_4_9_0 : Oper := ⟨some 23, .load 23 (.tmp 2), 23, "exact.go:4556", #[], none⟩
abbrev q9b4_4_9_2 : Oper := ⟨some 25, .load 23 (.tmp 3), 23, "exact.go:4556", #[], none⟩
abbrev q9b4_4_9_1 : Oper := ⟨some 24, .call { callee := .value (.func 8), args := #[.tmp 23], argTypes := #[23] }, 26, "exact.go:4556", #[⟨0, .data⟩], none⟩
abbrev q9b4_4_9_3 : Oper := ⟨some 26, .call { callee := .value (.func 8), args := #[.tmp 25], argTypes := #[23] }, 26, "exact.go:4556", #[⟨2, .data⟩, ⟨1, .chain⟩], none⟩
abbrev q9b4_4_9_4 : Oper := ⟨some 27, .call { callee := .value (.func 11), args := #[.tmp 24, .tmp 26], argTypes := #[26, 26] }, 4, "exact.go:4556", #[⟨1, .data⟩, ⟨3, .data⟩, ⟨3, .chain⟩], none⟩
abbrev q9b4_4_9_5 : Oper := ⟨some 7, .assign (.tmp 27), 4, "exact.go:4556", #[⟨4, .data⟩, ⟨4, .chain⟩, ⟨0, .phase⟩, ⟨1, .phase⟩, ⟨2, .phase⟩, ⟨3, .phase⟩, ⟨4, .phase⟩], none⟩

set_option maxHeartbeats 4000000 in
theorem law_FnExactMeet (cs0 : List Value) (m0 : MCmd) (cs1 : List Value) (m1 : MCmd) (w : World) (hr0 : rCmd w.heap.size w cs0 m0) (hr1 : rCmd w.heap.size w cs1 m1) :
    Calls Try.prog 4 #[.agg cs0.toArray, .agg cs1.toArray] w fun e w' => e = .returned (.bool true) ∧ Below w.heap.size w w' := by
  obtain ⟨rfl, h0, h1, h2, _⟩ := hr0
  obtain ⟨rfl, g0, g1, g2, _⟩ := hr1
  have HR : Hid (∀ W : World, rCmd W.heap.size W [.int .i64 m0.fKind, .string m0.fKey, .string m0.fVal] m0) := fun W => ⟨rfl, h0, h1, h2, trivial⟩
  have HS : Hid (∀ W : World, rCmd W.heap.size W [.int .i64 m1.fKind, .string m1.fKey, .string m1.fVal] m1) := fun W => ⟨rfl, g0, g1, g2, trivial⟩
  go_enter Try.func4, Try.ntmps4
  go_wp2_with fail
  obtain ⟨wq, hwq⟩ : ∃ wq, wq = (w.alloc (.cells #[.int .i64 m0.fKind, .string m0.fKey, .string m0.fVal] 23)).alloc (.cells #[.int .i64 m1.fKind, .string m1.fKey, .string m1.fVal] 23) := ⟨_, rfl⟩
  have hbW : Below w.heap.size w wq := by rw [hwq]; exact ((Below.refl _ _).alloc (Nat.le_refl _) _).alloc (by simp) _
  have hbx : Bx wq w.heap.size [.int .i64 m0.fKind, .string m0.fKey, .string m0.fVal] := by rw [hwq]; exact (Bx.new _ _ _).alloc _
  have hby : Bx wq (w.heap.size + 1) [.int .i64 m1.fKind, .string m1.fKey, .string m1.fVal] := by rw [hwq]; have h := Bx.new (w.alloc (.cells #[.int .i64 m0.fKind, .string m0.fKey, .string m0.fVal] 23)) [.int .i64 m1.fKind, .string m1.fKey, .string m1.fVal] 23; simpa using h
  rw [← hwq]
  clear hwq
  refine (szCmd_any _ m0 1048576 wq (by omega) (by omega) (HR.out wq)).mono ?_
  rintro e w1 ⟨rfl, hx1⟩
  replace hbW := bthen hbW hx1
  replace hbx := hbx.under hx1
  replace hby := hby.under hx1
  clear hx1
  by_cases hw : ((wCmd m0 : Nat) : Int) ≤ 1048576
  rotate_left
  · rw [szRes_no hw]
    go_wp2_with fail
    go_ret
    exact ⟨rfl, hbW⟩
  rw [szRes_yes hw]
  have z0 := hby.2 0 _ rfl
  have z1 := hby.2 1 _ rfl
  have z2 := hby.2 2 _ rfl
  obtain ⟨lf, hlf⟩ : ∃ lf : Int, lf = 1048576 - ((wCmd m0 : Nat) : Int) := ⟨_, rfl⟩
  have hl0 : 0 ≤ lf := by omega
  have hl1 : lf ≤ 1048576 := by omega
  rw [← hlf]
  clear hlf
  go_wp2_with fail
  refine (szCmd_any _ m1 lf w1 hl0 hl1 (HS.out w1)).mono ?_
  rintro e w2 ⟨rfl, hx2⟩
  replace hbW := bthen hbW hx2
  replace hbx := hbx.under hx2
  replace hby := hby.under hx2
  clear hx2 z0 z1 z2
  by_cases hv : ((wCmd m1 : Nat) : Int) ≤ lf
  rotate_left
  · rw [szRes_no hv]
    go_wp2_with fail
    go_ret
    exact ⟨rfl, hbW⟩
  rw [szRes_yes hv]
  have HL : Hid (0 ≤ lf - ((wCmd m1 : Nat) : Int)) := by show _ ≤ _; omega
  obtain ⟨lg, hlg⟩ : ∃ lg : Int, lg = lf - ((wCmd m1 : Nat) : Int) := ⟨_, rfl⟩
  rw [← hlg]
  have hg0 : 0 ≤ lg := by rw [hlg]; exact HL.out
  clear hlg HL
  go_wp2_with fail
  have y0 : ∀ W, Below w2.heap.size w2 W → W.cell? ⟨w.heap.size, 0, none⟩ = some (.int .i64 m0.fKind) := fun W h => (hbx.under h).2 0 _ rfl
  have y1 : ∀ W, Below w2.heap.size w2 W → W.cell? ⟨w.heap.size, 1, none⟩ = some (.string m0.fKey) := fun W h => (hbx.under h).2 1 _ rfl
  have y2 : ∀ W, Below w2.heap.size w2 W → W.cell? ⟨w.heap.size, 2, none⟩ = some (.string m0.fVal) := fun W h => (hbx.under h).2 2 _ rfl
  have z0 : ∀ W, Below w2.heap.size w2 W → W.cell? ⟨w.heap.size + 1, 0, none⟩ = some (.int .i64 m1.fKind) := fun W h => (hby.under h).2 0 _ rfl
  have z1 : ∀ W, Below w2.heap.size w2 W → W.cell? ⟨w.heap.size + 1, 1, none⟩ = some (.string m1.fKey) := fun W h => (hby.under h).2 1 _ rfl
  have z2 : ∀ W, Below w2.heap.size w2 W → W.cell? ⟨w.heap.size + 1, 2, none⟩ = some (.string m1.fVal) := fun W h => (hby.under h).2 2 _ rfl
  refine wp_region_held_drew (S := fun W => Below w2.heap.size w2 W) (by kernel_rfl) (Below.drew (Below.refl _ _)) (fun hHeld => ?_)
  refine tk 0 q9b4_4_8_0 (some 18) (v := ?v1) rfl rfl (by kernel_rfl) hHeld (by rfl) (fun _ _ _ x => x) (fun w h => ?y1) ?_; (case y1 => (try dsimp only at h); go_simp; try (with_reducible rfl)); try simp only [Act.put, sa, s0, s1]
  refine tk 2 q9b4_4_8_2 (some 20) (v := ?v2) rfl rfl (by kernel_rfl) hHeld (by rfl) (fun _ _ _ x => x) (fun w h => ?y2) ?_; (case y2 => (try dsimp only at h); go_simp; try (with_reducible rfl)); try simp only [Act.put, sa, s0, s1]
  refine wpAnyH_ready (rs := [1]) (by kernel_rfl) (by simp) ?_
  refine AllReadyH.cons (o := q9b4_4_8_1) rfl (fun K hK => ?_) AllReadyH.nil
  go_simp
  refine Calls.mono (toCmd_any _ m0 _ (HR.out _) (by omega)) ?_
  rintro e wqa ⟨cs2, F2, rfl, ⟨rfl, _⟩, _, _, hx1⟩
  go_wp2_with fail
  refine hK.out _ _ (bthen hHeld hx1) (fun hHeld => ?_)
  clear hK K
  try simp only [Act.put, sa, s0, s1]
  refine wpAnyH_ready (rs := [3]) (by kernel_rfl) (by simp) ?_
  refine AllReadyH.cons (o := q9b4_4_8_3) rfl (fun K hK => ?_) AllReadyH.nil
  go_simp
  refine Calls.mono (toCmd_any _ m1 _ (HS.out _) (by omega)) ?_
  rintro e wqb ⟨cs2, F2, rfl, ⟨rfl, _⟩, _, _, hx2⟩
  go_wp2_with fail
  refine hK.out _ _ (bthen hHeld hx2) (fun hHeld => ?_)
  clear hK K
  try simp only [Act.put, sa, s0, s1]
  refine wpAnyH_ready (rs := [4]) (by kernel_rfl) (by simp) ?_
  refine AllReadyH.cons (o := q9b4_4_8_4) rfl (fun K hK => ?_) AllReadyH.nil
  go_simp
  refine Calls.mono (specMeet_any _ _ m0 m1 _ (HR.out _) (HS.out _)) ?_
  rintro e wqc ⟨rfl, hx3⟩
  go_wp2_with fail
  refine hK.out _ _ (bthen hHeld hx3) (fun hHeld => ?_)
  clear hK K
  try simp only [Act.put, sa, s0, s1]
  refine tk 5 q9b4_4_8_5 (some 6) (v := ?v3) rfl rfl (by kernel_rfl) hHeld (by rfl) (fun _ _ _ x => x) (fun w h => ?y3) ?_; (case y3 => (try dsimp only at h); go_simp; try (with_reducible rfl)); try simp only [Act.put, sa, s0, s1]
  refine wpAnyH_done (by kernel_rfl) ?_ _
  have hb1 := bthen hbW hHeld
  replace hbx := hbx.under hHeld
  replace hby := hby.under hHeld
  clear y0 y1 y2 z0 z1 z2 hHeld
  go_wp2_with fail
  have y0 : ∀ W, Below wqc.heap.size wqc W → W.cell? ⟨w.heap.size, 0, none⟩ = some (.int .i64 m0.fKind) := fun W h => (hbx.under h).2 0 _ rfl
  have y1 : ∀ W, Below wqc.heap.size wqc W → W.cell? ⟨w.heap.size, 1, none⟩ = some (.string m0.fKey) := fun W h => (hbx.under h).2 1 _ rfl
  have y2 : ∀ W, Below wqc.heap.size wqc W → W.cell? ⟨w.heap.size, 2, none⟩ = some (.string m0.fVal) := fun W h => (hbx.under h).2 2 _ rfl
  have z0 : ∀ W, Below wqc.heap.size wqc W → W.cell? ⟨w.heap.size + 1, 0, none⟩ = some (.int .i64 m1.fKind) := fun W h => (hby.under h).2 0 _ rfl
  have z1 : ∀ W, Below wqc.heap.size wqc W → W.cell? ⟨w.heap.size + 1, 1, none⟩ = some (.string m1.fKey) := fun W h => (hby.under h).2 1 _ rfl
  have z2 : ∀ W, Below wqc.heap.size wqc W → W.cell? ⟨w.heap.size + 1, 2, none⟩ = some (.string m1.fVal) := fun W h => (hby.under h).2 2 _ rfl
  refine wp_region_held_drew (S := fun W => Below wqc.heap.size wqc W) (by kernel_rfl) (Below.drew (Below.refl _ _)) (fun hHeld => ?_)
  refine tk 0 q9b4_4_9_0 (some 23) (v := ?v4) rfl rfl (by kernel_rfl) hHeld (by rfl) (fun _ _ _ x => x) (fun w h => ?y4) ?_; (case y4 => (try dsimp only at h); go_simp; try (with_reducible rfl)); try simp only [Act.put, sa, s0, s1]
  refine tk 2 q9b4_4_9_2 (some 25) (v := ?v5) rfl rfl (by kernel_rfl) hHeld (by rfl) (fun _ _ _ x => x) (fun w h => ?y5) ?_; (case y5 => (try dsimp only at h); go_simp; try (with_reducible rfl)); try simp only [Act.put, sa, s0, s1]
  refine wpAnyH_ready (rs := [1]) (by kernel_rfl) (by simp) ?_
  refine AllReadyH.cons (o := q9b4_4_9_1) rfl (fun K hK => ?_) AllReadyH.nil
  go_simp
  refine Calls.mono (toCmd_any _ m0 _ (HR.out _) (by omega)) ?_
  rintro e wqca ⟨cs2, F2, rfl, ⟨rfl, _⟩, _, _, hx1⟩
  go_wp2_with fail
  refine hK.out _ _ (bthen hHeld hx1) (fun hHeld => ?_)
  clear hK K
  try simp only [Act.put, sa, s0, s1]
  refine wpAnyH_ready (rs := [3]) (by kernel_rfl) (by simp) ?_
  refine AllReadyH.cons (o := q9b4_4_9_3) rfl (fun K hK => ?_) AllReadyH.nil
  go_simp
  refine Calls.mono (toCmd_any _ m1 _ (HS.out _) (by omega)) ?_
  rintro e wqcb ⟨cs2, F2, rfl, ⟨rfl, _⟩, _, _, hx2⟩
  go_wp2_with fail
  refine hK.out _ _ (bthen hHeld hx2) (fun hHeld => ?_)
  clear hK K
  try simp only [Act.put, sa, s0, s1]
  refine wpAnyH_ready (rs := [4]) (by kernel_rfl) (by simp) ?_
  refine AllReadyH.cons (o := q9b4_4_9_4) rfl (fun K hK => ?_) AllReadyH.nil
  go_simp
  refine Calls.mono (implMeet_any _ _ m0 m1 _ (HR.out _) (HS.out _)) ?_
  rintro e wqcc ⟨rfl, hx3⟩
  go_wp2_with fail
  refine hK.out _ _ (bthen hHeld hx3) (fun hHeld => ?_)
  clear hK K
  try simp only [Act.put, sa, s0, s1]
  refine tk 5 q9b4_4_9_5 (some 7) (v := ?v6) rfl rfl (by kernel_rfl) hHeld (by rfl) (fun _ _ _ x => x) (fun w h => ?y6) ?_; (case y6 => (try dsimp only at h); go_simp; try (with_reducible rfl)); try simp only [Act.put, sa, s0, s1]
  refine wpAnyH_done (by kernel_rfl) ?_ _
  have hb6 := bthen hb1 hHeld
  generalize meetP m0 m1 = b
  go_wp2_with fail
  go_ret
  exact ⟨rfl, hb6⟩

end Go.Proofs.Ytedpemchfdnmnaa
