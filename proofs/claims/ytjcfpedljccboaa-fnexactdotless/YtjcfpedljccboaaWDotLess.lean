/-
  The exact law of DotLess: of every two dots the program and the specification say the same.
-/
import Derived.Test.YtjcfpedljccboaaRegK
import Derived.Test.YtjcfpedljccboaaDots
import Derived.Test.YtjcfpedljccboaaGDatT
import Derived.Deep.RegionWith
namespace Go.Proofs.Ytjcfpedljccboaa
open Go.RowKit
set_option linter.unusedVariables false
set_option linter.unusedSimpArgs false
set_option maxRecDepth 10000
abbrev q79c_4_1_0 : Oper := ⟨some 7, .load 23 (.tmp 2), 23, "exact.go:4309", #[], none⟩
abbrev q79c_4_1_2 : Oper := ⟨some 9, .load 23 (.tmp 3), 23, "exact.go:4309", #[], none⟩
abbrev q79c_4_1_1 : Oper := ⟨some 8, .call { callee := .value (.func 8), args := #[.tmp 7], argTypes := #[23] }, 25, "exact.go:4309", #[⟨0, .data⟩], none⟩
abbrev q79c_4_1_3 : Oper := ⟨some 10, .call { callee := .value (.func 8), args := #[.tmp 9], argTypes := #[23] }, 25, "exact.go:4309", #[⟨2, .data⟩, ⟨1, .chain⟩], none⟩
abbrev q79c_4_1_4 : Oper := ⟨some 11, .call { callee := .value (.func 10), args := #[.tmp 8, .tmp 10], argTypes := #[25, 25] }, 4, "exact.go:4309", #[⟨1, .data⟩, ⟨3, .data⟩, ⟨3, .chain⟩], none⟩
abbrev q79c_4_1_5 : Oper := ⟨some 5, .assign (.tmp 11), 4, "exact.go:4309", #[⟨4, .data⟩, ⟨4, .chain⟩, ⟨0, .phase⟩, ⟨1, .phase⟩, ⟨2, .phase⟩, ⟨3, .phase⟩, ⟨4, .phase⟩], none⟩
abbrev q79c_4_2_0 : Oper := ⟨some 12, .load 23 (.tmp 2), 23, "exact.go:4310", #[], none⟩
abbrev q79c_4_2_2 : Oper := ⟨some 14, .load 23 (.tmp 3), 23, "exact.go:4310", #[], none⟩
abbrev q79c_4_2_1 : Oper := ⟨some 13, .call { callee := .value (.func 8), args := #[.tmp 12], argTypes := #[23] }, 25, "exact.go:4310", #[⟨0, .data⟩], none⟩
abbrev q79c_4_2_3 : Oper := ⟨some 15, .call { callee := .value (.func 8), args := #[.tmp 14], argTypes := #[23] }, 25, "exact.go:4310", #[⟨2, .data⟩, ⟨1, .chain⟩], none⟩
abbrev q79c_4_2_4 : Oper := ⟨some 16, .call { callee := .value (.func 11), args := #[.tmp 13, .tmp 15], argTypes := #[25, 25] }, 4, "exact.go:4310", #[⟨1, .data⟩, ⟨3, .data⟩, ⟨3, .chain⟩], none⟩
abbrev q79c_4_2_5 : Oper := ⟨some 6, .assign (.tmp 16), 4, "exact.go:4310", #[⟨4, .data⟩, ⟨4, .chain⟩, ⟨0, .phase⟩, ⟨1, .phase⟩, ⟨2, .phase⟩, ⟨3, .phase⟩, ⟨4, .phase⟩], none⟩

set_option maxHeartbeats 4000000 in
theorem law_FnExactDotLess (cs0 : List Value) (m0 : MDot) (cs1 : List Value) (m1 : MDot) (w : World) (hr0 : rDot w.heap.size w cs0 m0) (hr1 : rDot w.heap.size w cs1 m1) :
    Calls Try.prog 4 #[.agg cs0.toArray, .agg cs1.toArray] w fun e w' => e = .returned (.bool true) ∧ Below w.heap.size w w' := by
  obtain ⟨rfl, h0, h1, _⟩ := hr0
  obtain ⟨rfl, g0, g1, _⟩ := hr1
  have HR : Hid (∀ W : World, rDot W.heap.size W [.int .i64 m0.fR, .int .i64 m0.fN] m0) := fun W => ⟨rfl, h0, h1, trivial⟩
  have HS : Hid (∀ W : World, rDot W.heap.size W [.int .i64 m1.fR, .int .i64 m1.fN] m1) := fun W => ⟨rfl, g0, g1, trivial⟩
  go_enter Try.func4, Try.ntmps4
  go_wp2_with fail
  obtain ⟨wq, hwq⟩ : ∃ wq, wq = (w.alloc (.cells #[.int .i64 m0.fR, .int .i64 m0.fN] 23)).alloc (.cells #[.int .i64 m1.fR, .int .i64 m1.fN] 23) := ⟨_, rfl⟩
  have hbW : Below w.heap.size w wq := by rw [hwq]; exact ((Below.refl _ _).alloc (Nat.le_refl _) _).alloc (by simp) _
  have hbx : Bx wq w.heap.size [.int .i64 m0.fR, .int .i64 m0.fN] := by rw [hwq]; exact (Bx.new _ _ _).alloc _
  have hby : Bx wq (w.heap.size + 1) [.int .i64 m1.fR, .int .i64 m1.fN] := by rw [hwq]; have h := Bx.new (w.alloc (.cells #[.int .i64 m0.fR, .int .i64 m0.fN] 23)) [.int .i64 m1.fR, .int .i64 m1.fN] 23; simpa using h
  rw [← hwq]
  clear hwq
  have y0 : ∀ W, Below wq.heap.size wq W → W.cell? ⟨w.heap.size, 0, none⟩ = some (.int .i64 m0.fR) := fun W h => (hbx.under h).2 0 _ rfl
  have y1 : ∀ W, Below wq.heap.size wq W → W.cell? ⟨w.heap.size, 1, none⟩ = some (.int .i64 m0.fN) := fun W h => (hbx.under h).2 1 _ rfl
  have z0 : ∀ W, Below wq.heap.size wq W → W.cell? ⟨w.heap.size + 1, 0, none⟩ = some (.int .i64 m1.fR) := fun W h => (hby.under h).2 0 _ rfl
  have z1 : ∀ W, Below wq.heap.size wq W → W.cell? ⟨w.heap.size + 1, 1, none⟩ = some (.int .i64 m1.fN) := fun W h => (hby.under h).2 1 _ rfl
  refine wp_region_held_drew (S := fun W => Below wq.heap.size wq W) (by kernel_rfl) (Below.drew (Below.refl _ _)) (fun hHeld => ?_)
  refine tk 0 q79c_4_1_0 (some 7) (v := ?v1) rfl rfl (by kernel_rfl) hHeld (by rfl) (fun _ _ _ x => x) (fun w h => ?y1) ?_; (case y1 => (try dsimp only at h); go_simp; try (with_reducible rfl)); try simp only [Act.put, sa, s0, s1]
  refine tk 2 q79c_4_1_2 (some 9) (v := ?v2) rfl rfl (by kernel_rfl) hHeld (by rfl) (fun _ _ _ x => x) (fun w h => ?y2) ?_; (case y2 => (try dsimp only at h); go_simp; try (with_reducible rfl)); try simp only [Act.put, sa, s0, s1]
  refine wpAnyH_ready (rs := [1]) (by kernel_rfl) (by simp) ?_
  refine AllReadyH.cons (o := q79c_4_1_1) rfl (fun K hK => ?_) AllReadyH.nil
  go_simp
  refine Calls.mono (toDot_any _ m0 _ (HR.out _) (by unfold wDot; omega)) ?_
  rintro e wqa ⟨cs2, F2, rfl, ⟨rfl, _⟩, _, _, hx1⟩
  go_wp2_with fail
  refine hK.out _ _ (bthen hHeld hx1) (fun hHeld => ?_)
  clear hK K
  try simp only [Act.put, sa, s0, s1]
  refine wpAnyH_ready (rs := [3]) (by kernel_rfl) (by simp) ?_
  refine AllReadyH.cons (o := q79c_4_1_3) rfl (fun K hK => ?_) AllReadyH.nil
  go_simp
  refine Calls.mono (toDot_any _ m1 _ (HS.out _) (by unfold wDot; omega)) ?_
  rintro e wqb ⟨cs2, F2, rfl, ⟨rfl, _⟩, _, _, hx2⟩
  go_wp2_with fail
  refine hK.out _ _ (bthen hHeld hx2) (fun hHeld => ?_)
  clear hK K
  try simp only [Act.put, sa, s0, s1]
  refine wpAnyH_ready (rs := [4]) (by kernel_rfl) (by simp) ?_
  refine AllReadyH.cons (o := q79c_4_1_4) rfl (fun K hK => ?_) AllReadyH.nil
  go_simp
  refine Calls.mono (specDotLess_any _ _ m0 m1 _ (HR.out _) (HS.out _)) ?_
  rintro e wqc ⟨rfl, hx3⟩
  go_wp2_with fail
  refine hK.out _ _ (bthen hHeld hx3) (fun hHeld => ?_)
  clear hK K
  try simp only [Act.put, sa, s0, s1]
  refine tk 5 q79c_4_1_5 (some 5) (v := ?v3) rfl rfl (by kernel_rfl) hHeld (by rfl) (fun _ _ _ x => x) (fun w h => ?y3) ?_; (case y3 => (try dsimp only at h); go_simp; try (with_reducible rfl)); try simp only [Act.put, sa, s0, s1]
  refine wpAnyH_done (by kernel_rfl) ?_ _
  have hb1 := bthen hbW hHeld
  replace hbx := hbx.under hHeld
  replace hby := hby.under hHeld
  clear y0 y1 z0 z1 hHeld
  go_wp2_with fail
  have y0 : ∀ W, Below wqc.heap.size wqc W → W.cell? ⟨w.heap.size, 0, none⟩ = some (.int .i64 m0.fR) := fun W h => (hbx.under h).2 0 _ rfl
  have y1 : ∀ W, Below wqc.heap.size wqc W → W.cell? ⟨w.heap.size, 1, none⟩ = some (.int .i64 m0.fN) := fun W h => (hbx.under h).2 1 _ rfl
  have z0 : ∀ W, Below wqc.heap.size wqc W → W.cell? ⟨w.heap.size + 1, 0, none⟩ = some (.int .i64 m1.fR) := fun W h => (hby.under h).2 0 _ rfl
  have z1 : ∀ W, Below wqc.heap.size wqc W → W.cell? ⟨w.heap.size + 1, 1, none⟩ = some (.int .i64 m1.fN) := fun W h => (hby.under h).2 1 _ rfl
  refine wp_region_held_drew (S := fun W => Below wqc.heap.size wqc W) (by kernel_rfl) (Below.drew (Below.refl _ _)) (fun hHeld => ?_)
  refine tk 0 q79c_4_2_0 (some 12) (v := ?v4) rfl rfl (by kernel_rfl) hHeld (by rfl) (fun _ _ _ x => x) (fun w h => ?y4) ?_; (case y4 => (try dsimp only at h); go_simp; try (with_reducible rfl)); try simp only [Act.put, sa, s0, s1]
  refine tk 2 q79c_4_2_2 (some 14) (v := ?v5) rfl rfl (by kernel_rfl) hHeld (by rfl) (fun _ _ _ x => x) (fun w h => ?y5) ?_; (case y5 => (try dsimp only at h); go_simp; try (with_reducible rfl)); try simp only [Act.put, sa, s0, s1]
  refine wpAnyH_ready (rs := [1]) (by kernel_rfl) (by simp) ?_
  refine AllReadyH.cons (o := q79c_4_2_1) rfl (fun K hK => ?_) AllReadyH.nil
  go_simp
  refine Calls.mono (toDot_any _ m0 _ (HR.out _) (by unfold wDot; omega)) ?_
  rintro e wqca ⟨cs2, F2, rfl, ⟨rfl, _⟩, _, _, hx1⟩
  go_wp2_with fail
  refine hK.out _ _ (bthen hHeld hx1) (fun hHeld => ?_)
  clear hK K
  try simp only [Act.put, sa, s0, s1]
  refine wpAnyH_ready (rs := [3]) (by kernel_rfl) (by simp) ?_
  refine AllReadyH.cons (o := q79c_4_2_3) rfl (fun K hK => ?_) AllReadyH.nil
  go_simp
  refine Calls.mono (toDot_any _ m1 _ (HS.out _) (by unfold wDot; omega)) ?_
  rintro e wqcb ⟨cs2, F2, rfl, ⟨rfl, _⟩, _, _, hx2⟩
  go_wp2_with fail
  refine hK.out _ _ (bthen hHeld hx2) (fun hHeld => ?_)
  clear hK K
  try simp only [Act.put, sa, s0, s1]
  refine wpAnyH_ready (rs := [4]) (by kernel_rfl) (by simp) ?_
  refine AllReadyH.cons (o := q79c_4_2_4) rfl (fun K hK => ?_) AllReadyH.nil
  go_simp
  refine Calls.mono (implDotLess_any _ _ m0 m1 _ (HR.out _) (HS.out _)) ?_
  rintro e wqcc ⟨rfl, hx3⟩
  go_wp2_with fail
  refine hK.out _ _ (bthen hHeld hx3) (fun hHeld => ?_)
  clear hK K
  try simp only [Act.put, sa, s0, s1]
  refine tk 5 q79c_4_2_5 (some 6) (v := ?v6) rfl rfl (by kernel_rfl) hHeld (by rfl) (fun _ _ _ x => x) (fun w h => ?y6) ?_; (case y6 => (try dsimp only at h); go_simp; try (with_reducible rfl)); try simp only [Act.put, sa, s0, s1]
  refine wpAnyH_done (by kernel_rfl) ?_ _
  have hb6 := bthen hb1 hHeld
  generalize dotLt m0 m1 = b
  go_wp2_with fail
  go_ret
  exact ⟨rfl, hb6⟩

end Go.Proofs.Ytjcfpedljccboaa
