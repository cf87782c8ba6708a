/-
  The exact law of Group: at every graph and dot both answers are the same dots, in memory of their own.
-/
import Derived.Test.YtedjmmaihpfndaaDoorRegK
import Derived.Test.YtedjmmaihpfndaaDoorGDatT
import Derived.Test.YtedjmmaihpfndaaDoorGDatE
import Derived.Test.YtedjmmaihpfndaaDoorGrpC
import Derived.Deep.RegionWith
namespace Go.Proofs.YtedjmmaihpfndaaDoor
open Go.RowKit
set_option linter.unusedVariables false
set_option linter.unusedSimpArgs false
set_option maxRecDepth 10000
abbrev qbf5_4_5_0 : Oper := ⟨some 18, .load 24 (.tmp 2), 24, "exact.go:4444", #[], none⟩
abbrev qbf5_4_5_2 : Oper := ⟨some 20, .load 38 (.tmp 3), 38, "exact.go:4444", #[], none⟩
abbrev qbf5_4_5_1 : Oper := ⟨some 19, .call { callee := .value (.func 11), args := #[.tmp 18], argTypes := #[24] }, 30, "exact.go:4444", #[⟨0, .data⟩], none⟩
abbrev qbf5_4_5_3 : Oper := ⟨some 21, .call { callee := .value (.func 19), args := #[.tmp 20], argTypes := #[38] }, 40, "exact.go:4444", #[⟨2, .data⟩, ⟨1, .chain⟩], none⟩
abbrev qbf5_4_5_4 : Oper := ⟨some 22, .call { callee := .value (.func 18), args := #[.tmp 19, .tmp 21], argTypes := #[30, 40] }, 26, "exact.go:4444", #[⟨1, .data⟩, ⟨3, .data⟩, ⟨3, .chain⟩], none⟩
abbrev qbf5_4_5_5 : Oper := ⟨some 6, .assign (.tmp 22), 26, "exact.go:4444", #[⟨4, .data⟩, ⟨4, .chain⟩, ⟨0, .phase⟩, ⟨1, .phase⟩, ⟨2, .phase⟩, ⟨3, .phase⟩, ⟨4, .phase⟩], none⟩
abbrev qbf5_4_7_0 : Oper := ⟨some 25, .load 30 (.tmp 7), 30, "exact.go:4446", #[], none⟩
abbrev qbf5_4_7_1 : Oper := ⟨some 26, .load 38 (.tmp 3), 38, "exact.go:4446", #[], none⟩
abbrev qbf5_4_7_2 : Oper := ⟨some 27, .call { callee := .value (.func 19), args := #[.tmp 26], argTypes := #[38] }, 40, "exact.go:4446", #[⟨1, .data⟩], none⟩
abbrev qbf5_4_7_3 : Oper := ⟨some 28, .call { callee := .value (.func 20), args := #[.tmp 25, .tmp 27], argTypes := #[30, 40] }, 26, "exact.go:4446", #[⟨0, .data⟩, ⟨2, .data⟩, ⟨2, .chain⟩], none⟩
abbrev qbf5_4_7_4 : Oper := ⟨some 8, .assign (.tmp 28), 26, "exact.go:4446", #[⟨3, .data⟩, ⟨3, .chain⟩, ⟨0, .phase⟩, ⟨1, .phase⟩, ⟨2, .phase⟩, ⟨3, .phase⟩], none⟩
abbrev qbf5_4_10_0 : Oper := ⟨some 33, .load 30 (.tmp 7), 30, "exact.go:4450", #[], none⟩
abbrev qbf5_4_10_1 : Oper := ⟨some 34, .load 24 (.tmp 2), 24, "exact.go:4450", #[], none⟩
abbrev qbf5_4_10_2 : Oper := ⟨some 35, .call { callee := .value (.func 11), args := #[.tmp 34], argTypes := #[24] }, 30, "exact.go:4450", #[⟨1, .data⟩], none⟩
abbrev qbf5_4_10_3 : Oper := ⟨some 36, .call { callee := .value (.func 14), args := #[.tmp 33, .tmp 35], argTypes := #[30, 30] }, 4, "exact.go:4450", #[⟨0, .data⟩, ⟨2, .data⟩, ⟨2, .chain⟩], none⟩
abbrev qbf5_4_10_4 : Oper := ⟨some 37, .unOp .not 4 (.tmp 36), 4, "exact.go:4450", #[⟨3, .data⟩], none⟩
abbrev qbf5_4_24_0 : Oper := ⟨some 60, .load 24 (.tmp 2), 24, "exact.go:4468", #[], none⟩
abbrev qbf5_4_24_2 : Oper := ⟨some 62, .load 38 (.tmp 3), 38, "exact.go:4468", #[], none⟩
abbrev qbf5_4_24_1 : Oper := ⟨some 61, .call { callee := .value (.func 11), args := #[.tmp 60], argTypes := #[24] }, 30, "exact.go:4468", #[⟨0, .data⟩], none⟩
abbrev qbf5_4_24_3 : Oper := ⟨some 63, .call { callee := .value (.func 19), args := #[.tmp 62], argTypes := #[38] }, 40, "exact.go:4468", #[⟨2, .data⟩, ⟨1, .chain⟩], none⟩
abbrev qbf5_4_24_4 : Oper := ⟨some 64, .call { callee := .value (.func 20), args := #[.tmp 61, .tmp 63], argTypes := #[30, 40] }, 26, "exact.go:4468", #[⟨1, .data⟩, ⟨3, .data⟩, ⟨3, .chain⟩], none⟩
abbrev qbf5_4_24_5 : Oper := ⟨some 12, .assign (.tmp 64), 26, "exact.go:4468", #[⟨4, .data⟩, ⟨4, .chain⟩, ⟨0, .phase⟩, ⟨1, .phase⟩, ⟨2, .phase⟩, ⟨3, .phase⟩, ⟨4, .phase⟩], none⟩

set_option maxHeartbeats 4000000 in
theorem law_FnExactGroup (cs0 : List Value) (m0 : MGraph) (cs1 : List Value) (m1 : MDot) (w : World) (hr0 : rGraph w.heap.size w cs0 m0) (hr1 : rDot w.heap.size w cs1 m1) (hT : TzAt w) :
    Calls Tryd.prog 4 #[.agg cs0.toArray, .agg cs1.toArray] w fun e w' => e = .returned (.bool true) ∧ Below w.heap.size w w' := by
  have hq0 := hr0
  obtain ⟨a0_0, c0_0, rfl, _⟩ := hq0
  obtain ⟨rfl, hp1_0, hp1_1, _⟩ := hr1
  have HRP1 : Hid (∀ W : World, rDot W.heap.size W [.int .i64 m1.fR, .int .i64 m1.fN] m1) := fun W => ⟨rfl, hp1_0, hp1_1, trivial⟩
  go_enter Tryd.func4, Tryd.ntmps4
  have hC := fun (W : World) (hb : Below w.heap.size w W) => szGraph_any _ m0 (1048576) W (by omega) (by omega) (rGraph_good.mono (rGraph_good.below hr0 hb) hb.size)
  go_wp2_with fail
  refine Calls.mono (hC _ ?_) ?_
  · repeat (first | with_reducible exact Below.refl _ _ | with_reducible assumption | with_reducible refine Below.drew ?_ | with_reducible refine Below.alloc ?_ (by first | exact Nat.le_refl _ | (simp; done) | (simp; omega)) _ | with_reducible refine Below.setCell ?_ (by simp) _)
  clear hC
  rintro e w1 ⟨rfl, hx1⟩
  have hZ1 : w.heap.size + 2 ≤ w1.heap.size := by have h := hx1.size; first | exact h | (simp at h; omega)
  have hG1 : Below w.heap.size w w1 := bthen (hx := hx1) (h := by repeat (first | with_reducible exact Below.refl _ _ | with_reducible assumption | with_reducible refine Below.drew ?_ | with_reducible refine Below.alloc ?_ (by first | exact Nat.le_refl _ | (simp; done) | (simp; omega)) _ | with_reducible refine Below.setCell ?_ (by simp) _))
  have hbxA0 : Bx w1 (w.heap.size) [.slice a0_0 m0.fItems.length c0_0] := (Bx.alloc (Bx.new _ [.slice a0_0 m0.fItems.length c0_0] _) _).under hx1
  have hbxA1 : Bx w1 (w.heap.size + 1) [.int .i64 m1.fR, .int .i64 m1.fN] := by have h := (Bx.new _ [.int .i64 m1.fR, .int .i64 m1.fN] _).under hx1; first | exact h | simpa using h
  have xbA0_0 : w1.cell? ⟨w.heap.size, 0, none⟩ = some (.slice a0_0 m0.fItems.length c0_0) := hbxA0.2 0 _ rfl
  have hlbA0 : w.heap.size < w1.heap.size := hbxA0.1
  have xbA1_0 : w1.cell? ⟨w.heap.size + 1, 0, none⟩ = some (.int .i64 m1.fR) := hbxA1.2 0 _ rfl
  have xbA1_1 : w1.cell? ⟨w.heap.size + 1, 1, none⟩ = some (.int .i64 m1.fN) := hbxA1.2 1 _ rfl
  have hlbA1 : w.heap.size + 1 < w1.heap.size := hbxA1.1
  have hB1 : Below w.heap.size w w1 := hG1
  clear hx1
  by_cases hw0 : ((wGraph m0 : Nat) : Int) ≤ 1048576
  · rw [szRes_yes hw0]
    have hwn0 : wGraph m0 ≤ 1048576 := by omega
    have hcn0 := tcntGraph_le m0
    obtain ⟨R0, hR0⟩ : ∃ R : List MDot, PickL m0.fItems (InGroup m0 m1) R := PickL.ex _ _
    have hRw0 : wDs R0 ≤ 1099511627776 := boundGroup_0 m0 m1 R0 hR0 hwn0
    have hRc0 := tcntDs_le R0
    have HR0 := Hid.mk hR0
    clear hR0
    go_wp2_with fail
    have yA0_0 : ∀ W, Below w1.heap.size w1 W → W.cell? ⟨w.heap.size, 0, none⟩ = some (.slice a0_0 m0.fItems.length c0_0) := fun W h => (hbxA0.under h).2 0 _ rfl
    have yA1_0 : ∀ W, Below w1.heap.size w1 W → W.cell? ⟨w.heap.size + 1, 0, none⟩ = some (.int .i64 m1.fR) := fun W h => (hbxA1.under h).2 0 _ rfl
    have yA1_1 : ∀ W, Below w1.heap.size w1 W → W.cell? ⟨w.heap.size + 1, 1, none⟩ = some (.int .i64 m1.fN) := fun W h => (hbxA1.under h).2 1 _ rfl
    clear xbA0_0 xbA1_0 xbA1_1
    refine wp_region_held_drew (S := fun W => Below w1.heap.size w1 W) (by kernel_rfl) (Below.drew (Below.refl _ _)) (fun hHeld => ?_)
    refine tk 0 qbf5_4_5_0 (some 18) (v := ?v1) rfl rfl (by kernel_rfl) hHeld (by rfl) (fun _ _ _ x => x) (fun w h => ?y1) ?_; (case y1 => (try dsimp only at h); go_simp; try (with_reducible rfl)); try simp only [Act.put, sa, s0, s1]
    refine tk 2 qbf5_4_5_2 (some 20) (v := ?v2) rfl rfl (by kernel_rfl) hHeld (by rfl) (fun _ _ _ x => x) (fun w h => ?y2) ?_; (case y2 => (try dsimp only at h); go_simp; try (with_reducible rfl)); try simp only [Act.put, sa, s0, s1]
    refine wpAnyH_ready (rs := [1]) (by kernel_rfl) (by simp) ?_
    refine AllReadyH.cons (o := qbf5_4_5_1) rfl (fun K hK => ?_) AllReadyH.nil
    go_simp
    refine Calls.mono (toGraph_any _ m0 _ (rGraph_good.mono (rGraph_good.below hr0 (bthen hB1 hHeld)) (bthen hB1 hHeld).size) hwn0) ?_
    rintro e wc ⟨vp0, Fp0, rfl, hop0, hNp0, hgep0, hx1⟩
    go_wp2_with fail
    refine hK.out _ _ (bthen hHeld hx1) (fun hHeld => ?_)
    clear hK K
    try simp only [Act.put, sa, s0, s1]
    refine wpAnyH_ready (rs := [3]) (by kernel_rfl) (by simp) ?_
    refine AllReadyH.cons (o := qbf5_4_5_3) rfl (fun K hK => ?_) AllReadyH.nil
    go_simp
    refine Calls.mono (toDot_any _ m1 _ (HRP1.out _) (by unfold wDot; omega)) ?_
    rintro e wd ⟨csd, Fd, rfl, ⟨rfl, _⟩, _, _, hx2⟩
    go_wp2_with fail
    refine hK.out _ _ (bthen hHeld hx2) (fun hHeld => ?_)
    clear hK K
    try simp only [Act.put, sa, s0, s1]
    refine wpAnyH_ready (rs := [4]) (by kernel_rfl) (by simp) ?_
    refine AllReadyH.cons (o := qbf5_4_5_4) rfl (fun K hK => ?_) AllReadyH.nil
    go_simp
    have hSz2 := hHeld.size
    refine Calls.mono (specGroup_c R0 _ m0 _ m1 HR0.out _ (rGraph_good.mono (rGraph_good.below (oGraph_good.read hop0) hx2) hx2.size) hwn0 (HRP1.out _)) ?_
    rintro e w2 ⟨vs0, rfl, hrs0, hx3⟩
    go_wp2_with fail
    refine hK.out _ _ (bthen hHeld hx3) (fun hHeld => ?_)
    clear hK K
    try simp only [Act.put, sa, s0, s1]
    refine tk 5 qbf5_4_5_5 (some 6) (v := ?v3) rfl rfl (by kernel_rfl) hHeld (by rfl) (fun _ _ _ x => x) (fun w h => ?y3) ?_; (case y3 => (try dsimp only at h); go_simp; try (with_reducible rfl)); try simp only [Act.put, sa, s0, s1]
    refine wpAnyH_done (by kernel_rfl) ?_ _
    have hG2 : Below w1.heap.size w1 w2 := hHeld
    clear hHeld yA0_0 yA1_0 yA1_1
    clear hop0 hNp0 hgep0
    have hZ2 : w1.heap.size ≤ w2.heap.size := hG2.size
    replace hbxA0 : Bx w2 (w.heap.size) [.slice a0_0 m0.fItems.length c0_0] := hbxA0.under hG2
    replace hbxA1 : Bx w2 (w.heap.size + 1) [.int .i64 m1.fR, .int .i64 m1.fN] := hbxA1.under hG2
    have xbA0_0 : w2.cell? ⟨w.heap.size, 0, none⟩ = some (.slice a0_0 m0.fItems.length c0_0) := hbxA0.2 0 _ rfl
    replace hlbA0 : w.heap.size < w2.heap.size := hbxA0.1
    have xbA1_0 : w2.cell? ⟨w.heap.size + 1, 0, none⟩ = some (.int .i64 m1.fR) := hbxA1.2 0 _ rfl
    have xbA1_1 : w2.cell? ⟨w.heap.size + 1, 1, none⟩ = some (.int .i64 m1.fN) := hbxA1.2 1 _ rfl
    replace hlbA1 : w.heap.size + 1 < w2.heap.size := hbxA1.1
    have hB2 : Below w.heap.size w w2 := bthen hB1 hG2
    obtain ⟨as0, cs0, rfl, _⟩ := id (hrs0)
    have hbs0 : w2.heap.size ≤ w2.heap.size := Nat.le_refl _
    have hC := fun (W : World) (hb : Below w2.heap.size w2 W) => toGraph_any _ m0 W (rGraph_good.mono (rGraph_good.below hr0 (bthen hB2 hb)) (bthen hB2 hb).size) hwn0
    go_wp2_with fail
    refine Calls.mono (hC _ ?_) ?_
    · repeat (first | with_reducible exact Below.refl _ _ | with_reducible assumption | with_reducible refine Below.drew ?_ | with_reducible refine Below.alloc ?_ (by first | exact Nat.le_refl _ | (simp; done) | (simp; omega)) _ | with_reducible refine Below.setCell ?_ (by simp) _)
    clear hC
    rintro e w3 ⟨vx0, Fx0, rfl, hox0, hNx0, hgex0, hx3⟩
    have hZ3 : w2.heap.size ≤ w3.heap.size := by have h := hx3.size; first | exact h | (simp at h; omega)
    have hgex0o : ∀ b, b ∈ Fx0 → w2.heap.size ≤ b := fun b hb => by have h := hgex0 b hb; first | exact h | (simp at h; omega)
    clear hgex0
    have hG3 : Below w2.heap.size w2 w3 := bthen (hx := hx3) (h := by repeat (first | with_reducible exact Below.refl _ _ | with_reducible assumption | with_reducible refine Below.drew ?_ | with_reducible refine Below.alloc ?_ (by first | exact Nat.le_refl _ | (simp; done) | (simp; omega)) _ | with_reducible refine Below.setCell ?_ (by simp) _))
    replace hbxA0 : Bx w3 (w.heap.size) [.slice a0_0 m0.fItems.length c0_0] := hbxA0.under hG3
    replace hbxA1 : Bx w3 (w.heap.size + 1) [.int .i64 m1.fR, .int .i64 m1.fN] := hbxA1.under hG3
    replace hrs0 := (hrs0.below (hG3.mono hbs0))
    replace hbs0 := Nat.le_trans hbs0 hG3.size
    replace xbA0_0 : w3.cell? ⟨w.heap.size, 0, none⟩ = some (.slice a0_0 m0.fItems.length c0_0) := hbxA0.2 0 _ rfl
    replace hlbA0 : w.heap.size < w3.heap.size := hbxA0.1
    replace xbA1_0 : w3.cell? ⟨w.heap.size + 1, 0, none⟩ = some (.int .i64 m1.fR) := hbxA1.2 0 _ rfl
    replace xbA1_1 : w3.cell? ⟨w.heap.size + 1, 1, none⟩ = some (.int .i64 m1.fN) := hbxA1.2 1 _ rfl
    replace hlbA1 : w.heap.size + 1 < w3.heap.size := hbxA1.1
    have hB3 : Below w.heap.size w w3 := bthen hB2 hG3
    clear hx3
    have hltx0 : ∀ b, b ∈ Fx0 → b < w3.heap.size := fun b hb => oGraph_good.lt hox0 b hb
    have hq := (oGraph_good.read hox0)
    obtain ⟨ax0_0, cx0_0, rfl, _⟩ := hq
    go_wp2_with fail
    obtain ⟨w4, hq4⟩ : ∃ x, x = w3.alloc (.cells #[.slice ax0_0 m0.fItems.length cx0_0] 30) := ⟨_, rfl⟩
    rw [← hq4]
    have hG4 : Below w3.heap.size w3 w4 := by rw [hq4]; exact (Below.refl _ _).alloc (Nat.le_refl _) _
    have hZ4 : w3.heap.size + 1 ≤ w4.heap.size := by rw [hq4]; simp
    replace hbxA0 : Bx w4 (w.heap.size) [.slice a0_0 m0.fItems.length c0_0] := hbxA0.under hG4
    replace hbxA1 : Bx w4 (w.heap.size + 1) [.int .i64 m1.fR, .int .i64 m1.fN] := hbxA1.under hG4
    have hoN := (oGraph_good.frame hox0 (fun b hb => hG4.block b (oGraph_good.lt hox0 b hb)))
    clear hox0
    have hox0 := hoN
    clear hoN
    replace hrs0 := (hrs0.below (hG4.mono hbs0))
    replace hbs0 := Nat.le_trans hbs0 hG4.size
    have hbxx0 : Bx w4 (w3.heap.size) [.slice ax0_0 m0.fItems.length cx0_0] := by rw [hq4]; exact Bx.new _ _ _
    clear hq4
    replace xbA0_0 : w4.cell? ⟨w.heap.size, 0, none⟩ = some (.slice a0_0 m0.fItems.length c0_0) := hbxA0.2 0 _ rfl
    replace hlbA0 : w.heap.size < w4.heap.size := hbxA0.1
    replace xbA1_0 : w4.cell? ⟨w.heap.size + 1, 0, none⟩ = some (.int .i64 m1.fR) := hbxA1.2 0 _ rfl
    replace xbA1_1 : w4.cell? ⟨w.heap.size + 1, 1, none⟩ = some (.int .i64 m1.fN) := hbxA1.2 1 _ rfl
    replace hlbA1 : w.heap.size + 1 < w4.heap.size := hbxA1.1
    have xbx0_0 : w4.cell? ⟨w3.heap.size, 0, none⟩ = some (.slice ax0_0 m0.fItems.length cx0_0) := hbxx0.2 0 _ rfl
    have hlbx0 : w3.heap.size < w4.heap.size := hbxx0.1
    have hB4 : Below w.heap.size w w4 := bthen hB3 hG4
    go_wp2_with fail
    have yA0_0 : ∀ W, Below w4.heap.size w4 W → W.cell? ⟨w.heap.size, 0, none⟩ = some (.slice a0_0 m0.fItems.length c0_0) := fun W h => (hbxA0.under h).2 0 _ rfl
    have yA1_0 : ∀ W, Below w4.heap.size w4 W → W.cell? ⟨w.heap.size + 1, 0, none⟩ = some (.int .i64 m1.fR) := fun W h => (hbxA1.under h).2 0 _ rfl
    have yA1_1 : ∀ W, Below w4.heap.size w4 W → W.cell? ⟨w.heap.size + 1, 1, none⟩ = some (.int .i64 m1.fN) := fun W h => (hbxA1.under h).2 1 _ rfl
    have yx0_0 : ∀ W, Below w4.heap.size w4 W → W.cell? ⟨w3.heap.size, 0, none⟩ = some (.slice ax0_0 m0.fItems.length cx0_0) := fun W h => (hbxx0.under h).2 0 _ rfl
    clear xbA0_0 xbA1_0 xbA1_1 xbx0_0
    refine wp_region_held_drew (S := fun W => Below w4.heap.size w4 W) (by kernel_rfl) (Below.drew (Below.refl _ _)) (fun hHeld => ?_)
    refine tk 0 qbf5_4_7_0 (some 25) (v := ?v4) rfl rfl (by kernel_rfl) hHeld (by rfl) (fun _ _ _ x => x) (fun w h => ?y4) ?_; (case y4 => (try dsimp only at h); go_simp; try (with_reducible rfl)); try simp only [Act.put, sa, s0, s1]
    refine tk 1 qbf5_4_7_1 (some 26) (v := ?v5) rfl rfl (by kernel_rfl) hHeld (by rfl) (fun _ _ _ x => x) (fun w h => ?y5) ?_; (case y5 => (try dsimp only at h); go_simp; try (with_reducible rfl)); try simp only [Act.put, sa, s0, s1]
    refine wpAnyH_ready (rs := [2]) (by kernel_rfl) (by simp) ?_
    refine AllReadyH.cons (o := qbf5_4_7_2) rfl (fun K hK => ?_) AllReadyH.nil
    go_simp
    refine Calls.mono (toDot_any _ m1 _ (HRP1.out _) (by unfold wDot; omega)) ?_
    rintro e wd ⟨csd, Fd, rfl, ⟨rfl, _⟩, _, _, hx1⟩
    go_wp2_with fail
    refine hK.out _ _ (bthen hHeld hx1) (fun hHeld => ?_)
    clear hK K
    try simp only [Act.put, sa, s0, s1]
    refine wpAnyH_ready (rs := [3]) (by kernel_rfl) (by simp) ?_
    refine AllReadyH.cons (o := qbf5_4_7_3) rfl (fun K hK => ?_) AllReadyH.nil
    go_simp
    have hSz5 := hHeld.size
    refine Calls.mono (implGroup_c R0 _ m0 _ m1 HR0.out _ (rGraph_good.mono (rGraph_good.below (oGraph_good.read hox0) hHeld) hHeld.size) hwn0 (HRP1.out _) (hT.below (bthen hB4 hHeld))) ?_
    rintro e w5 ⟨vg0, Fg0, rfl, hog0, hNg0, hgeg0, hx2⟩
    go_wp2_with fail
    refine hK.out _ _ (bthen hHeld hx2) (fun hHeld => ?_)
    clear hK K
    try simp only [Act.put, sa, s0, s1]
    refine tk 4 qbf5_4_7_4 (some 8) (v := ?v6) rfl rfl (by kernel_rfl) hHeld (by rfl) (fun _ _ _ x => x) (fun w h => ?y6) ?_; (case y6 => (try dsimp only at h); go_simp; try (with_reducible rfl)); try simp only [Act.put, sa, s0, s1]
    refine wpAnyH_done (by kernel_rfl) ?_ _
    have hG5 : Below w4.heap.size w4 w5 := hHeld
    clear hHeld yA0_0 yA1_0 yA1_1 yx0_0
    have hZ5 : w4.heap.size ≤ w5.heap.size := hG5.size
    replace hbxA0 : Bx w5 (w.heap.size) [.slice a0_0 m0.fItems.length c0_0] := hbxA0.under hG5
    replace hbxA1 : Bx w5 (w.heap.size + 1) [.int .i64 m1.fR, .int .i64 m1.fN] := hbxA1.under hG5
    replace hbxx0 : Bx w5 (w3.heap.size) [.slice ax0_0 m0.fItems.length cx0_0] := hbxx0.under hG5
    have hoN := (oGraph_good.frame hox0 (fun b hb => hG5.block b (oGraph_good.lt hox0 b hb)))
    clear hox0
    have hox0 := hoN
    clear hoN
    replace hrs0 := (hrs0.below (hG5.mono hbs0))
    replace hbs0 := Nat.le_trans hbs0 hG5.size
    have xbA0_0 : w5.cell? ⟨w.heap.size, 0, none⟩ = some (.slice a0_0 m0.fItems.length c0_0) := hbxA0.2 0 _ rfl
    replace hlbA0 : w.heap.size < w5.heap.size := hbxA0.1
    have xbA1_0 : w5.cell? ⟨w.heap.size + 1, 0, none⟩ = some (.int .i64 m1.fR) := hbxA1.2 0 _ rfl
    have xbA1_1 : w5.cell? ⟨w.heap.size + 1, 1, none⟩ = some (.int .i64 m1.fN) := hbxA1.2 1 _ rfl
    replace hlbA1 : w.heap.size + 1 < w5.heap.size := hbxA1.1
    have xbx0_0 : w5.cell? ⟨w3.heap.size, 0, none⟩ = some (.slice ax0_0 m0.fItems.length cx0_0) := hbxx0.2 0 _ rfl
    replace hlbx0 : w3.heap.size < w5.heap.size := hbxx0.1
    have hB5 : Below w.heap.size w w5 := bthen hB4 hG5
    have hgeg0o : ∀ b, b ∈ Fg0 → w4.heap.size ≤ b := fun b hb => by have h := hgeg0 b hb; first | exact h | omega
    clear hgeg0
    have hltg0 : ∀ b, b ∈ Fg0 → b < w5.heap.size := fun b hb => ownS.lt oDot_good hog0 b hb
    obtain ⟨ag0, cg0, rfl, _⟩ := id ((rdDs_own hog0))
    have hC := fun (W : World) (hb : Below w5.heap.size w5 W) => eqDotS_yes_r _ _ R0 W (((rdDs_own hog0).below hb).mono hb.size) ((hrs0.below (hb.mono hbs0)).mono (Nat.le_trans hbs0 hb.size)) (by omega)
    go_wp2_with fail
    refine Calls.mono (hC _ ?_) ?_
    · repeat (first | with_reducible exact Below.refl _ _ | with_reducible assumption | with_reducible refine Below.drew ?_ | with_reducible refine Below.alloc ?_ (by first | exact Nat.le_refl _ | (simp; done) | (simp; omega)) _ | with_reducible refine Below.setCell ?_ (by simp) _)
    clear hC
    rintro e w6 ⟨rfl, hx6⟩
    have hZ6 : w5.heap.size ≤ w6.heap.size := by have h := hx6.size; first | exact h | (simp at h; omega)
    have hG6 : Below w5.heap.size w5 w6 := bthen (hx := hx6) (h := by repeat (first | with_reducible exact Below.refl _ _ | with_reducible assumption | with_reducible refine Below.drew ?_ | with_reducible refine Below.alloc ?_ (by first | exact Nat.le_refl _ | (simp; done) | (simp; omega)) _ | with_reducible refine Below.setCell ?_ (by simp) _))
    replace hbxA0 : Bx w6 (w.heap.size) [.slice a0_0 m0.fItems.length c0_0] := hbxA0.under hG6
    replace hbxA1 : Bx w6 (w.heap.size + 1) [.int .i64 m1.fR, .int .i64 m1.fN] := hbxA1.under hG6
    replace hbxx0 : Bx w6 (w3.heap.size) [.slice ax0_0 m0.fItems.length cx0_0] := hbxx0.under hG6
    have hoN := (oGraph_good.frame hox0 (fun b hb => hG6.block b (oGraph_good.lt hox0 b hb)))
    clear hox0
    have hox0 := hoN
    clear hoN
    have hoN := (ownS.frame oDot_good hog0 (fun b hb => hG6.block b (ownS.lt oDot_good hog0 b hb)))
    clear hog0
    have hog0 := hoN
    clear hoN
    replace hrs0 := (hrs0.below (hG6.mono hbs0))
    replace hbs0 := Nat.le_trans hbs0 hG6.size
    replace xbA0_0 : w6.cell? ⟨w.heap.size, 0, none⟩ = some (.slice a0_0 m0.fItems.length c0_0) := hbxA0.2 0 _ rfl
    replace hlbA0 : w.heap.size < w6.heap.size := hbxA0.1
    replace xbA1_0 : w6.cell? ⟨w.heap.size + 1, 0, none⟩ = some (.int .i64 m1.fR) := hbxA1.2 0 _ rfl
    replace xbA1_1 : w6.cell? ⟨w.heap.size + 1, 1, none⟩ = some (.int .i64 m1.fN) := hbxA1.2 1 _ rfl
    replace hlbA1 : w.heap.size + 1 < w6.heap.size := hbxA1.1
    replace xbx0_0 : w6.cell? ⟨w3.heap.size, 0, none⟩ = some (.slice ax0_0 m0.fItems.length cx0_0) := hbxx0.2 0 _ rfl
    replace hlbx0 : w3.heap.size < w6.heap.size := hbxx0.1
    have hB6 : Below w.heap.size w w6 := bthen hB5 hG6
    clear hx6
    have hC1 := fun (W : World) (hb : Below w6.heap.size w6 W) => toGraph_any _ m0 W (rGraph_good.mono (rGraph_good.below hr0 (bthen hB6 hb)) (bthen hB6 hb).size) hwn0
    have hC2 := fun (W W2 : World) (v2 : List Value) (F2 : List Nat) (hb : Below w6.heap.size w6 W) (hb2 : Below W.heap.size W W2) (ho2 : oGraph W2 v2 m0 F2) => eqGraph_yes _ v2 m0 W2 (rGraph_good.mono (rGraph_good.below (oGraph_good.read hox0) (bthen hb hb2)) (bthen hb hb2).size) (oGraph_good.read ho2) (by omega)
    go_wp2_with fail
    have pp0 : ∀ W, Below w6.heap.size w6 W → W.cell? ⟨w.heap.size, 0, none⟩ = some (.slice a0_0 m0.fItems.length c0_0) := fun W hb => (hbxA0.under hb).2 0 _ rfl
    have pq0 : ∀ W, Below w6.heap.size w6 W → W.cell? ⟨w3.heap.size, 0, none⟩ = some (.slice ax0_0 m0.fItems.length cx0_0) := fun W hb => (hbxx0.under hb).2 0 _ rfl
    refine wp_region_held_drew (S := fun W => Below w6.heap.size w6 W) (by kernel_rfl) (Below.drew (Below.refl _ _)) (fun hHeld => ?_)
    refine tk 0 qbf5_4_10_0 (some 33) (v := ?v7) rfl rfl (by kernel_rfl) hHeld (by rfl) (fun _ _ _ x => x) (fun w h => ?y7) ?_; (case y7 => (try dsimp only at h); go_simp; try (with_reducible rfl)); try simp only [Act.put, sa, s0, s1]
    refine tk 1 qbf5_4_10_1 (some 34) (v := ?v8) rfl rfl (by kernel_rfl) hHeld (by rfl) (fun _ _ _ x => x) (fun w h => ?y8) ?_; (case y8 => (try dsimp only at h); go_simp; try (with_reducible rfl)); try simp only [Act.put, sa, s0, s1]
    refine wpAnyH_ready (rs := [2]) (by kernel_rfl) (by simp) ?_
    refine AllReadyH.cons (o := qbf5_4_10_2) rfl (fun K hK => ?_) AllReadyH.nil
    go_simp
    refine Calls.mono (hC1 _ hHeld) ?_
    rintro e w7 ⟨vt0, Ft0, rfl, hot0, hNt0, hget0, hx7⟩
    have hx1 := hx7
    have hG7 : Below w6.heap.size w6 w7 := bthen hHeld hx7
    obtain ⟨at0_0, ct0_0, rfl, _⟩ := id (oGraph_good.read hot0)
    go_wp2_with fail
    refine hK.out _ _ (bthen hHeld hx1) (fun hHeld => ?_)
    clear hK K
    try simp only [Act.put, sa, s0, s1]
    refine wpAnyH_ready (rs := [3]) (by kernel_rfl) (by simp) ?_
    refine AllReadyH.cons (o := qbf5_4_10_3) rfl (fun K hK => ?_) AllReadyH.nil
    go_simp
    refine Calls.mono (hC2 _ _ _ _ (Below.refl _ _) hG7 hot0) ?_
    rintro e w8 ⟨rfl, hx8⟩
    have hx2 := hx8
    go_wp2_with fail
    refine hK.out _ _ (bthen hHeld hx2) (fun hHeld => ?_)
    clear hK K
    try simp only [Act.put, sa, s0, s1]
    refine tk 4 qbf5_4_10_4 (some 37) (v := ?v9) rfl rfl (by kernel_rfl) hHeld (by rfl) (fun _ _ _ x => x) (fun w h => ?y9) ?_; (case y9 => (try dsimp only at h); go_simp; try (with_reducible rfl)); try simp only [Act.put, sa, s0, s1]
    refine wpAnyH_done (by kernel_rfl) ?_ _
    clear hHeld hx1 hx2 pp0 pq0
    all_goals
      have hZ7 : w6.heap.size ≤ w7.heap.size := by have h := hx7.size; first | exact h | (simp at h; omega)
      have hZ8 : w7.heap.size ≤ w8.heap.size := hx8.size
      have hGG8 : Below w6.heap.size w6 w8 := bthen hG7 hx8
      replace hbxA0 : Bx w8 (w.heap.size) [.slice a0_0 m0.fItems.length c0_0] := hbxA0.under hGG8
      replace hbxA1 : Bx w8 (w.heap.size + 1) [.int .i64 m1.fR, .int .i64 m1.fN] := hbxA1.under hGG8
      replace hbxx0 : Bx w8 (w3.heap.size) [.slice ax0_0 m0.fItems.length cx0_0] := hbxx0.under hGG8
      have hoN := (oGraph_good.frame hox0 (fun b hb => hGG8.block b (oGraph_good.lt hox0 b hb)))
      clear hox0
      have hox0 := hoN
      clear hoN
      have hoN := (ownS.frame oDot_good hog0 (fun b hb => hGG8.block b (ownS.lt oDot_good hog0 b hb)))
      clear hog0
      have hog0 := hoN
      clear hoN
      replace hrs0 := (hrs0.below (hGG8.mono hbs0))
      replace hbs0 := Nat.le_trans hbs0 hGG8.size
      replace xbA0_0 : w8.cell? ⟨w.heap.size, 0, none⟩ = some (.slice a0_0 m0.fItems.length c0_0) := hbxA0.2 0 _ rfl
      replace hlbA0 : w.heap.size < w8.heap.size := hbxA0.1
      replace xbA1_0 : w8.cell? ⟨w.heap.size + 1, 0, none⟩ = some (.int .i64 m1.fR) := hbxA1.2 0 _ rfl
      replace xbA1_1 : w8.cell? ⟨w.heap.size + 1, 1, none⟩ = some (.int .i64 m1.fN) := hbxA1.2 1 _ rfl
      replace hlbA1 : w.heap.size + 1 < w8.heap.size := hbxA1.1
      replace xbx0_0 : w8.cell? ⟨w3.heap.size, 0, none⟩ = some (.slice ax0_0 m0.fItems.length cx0_0) := hbxx0.2 0 _ rfl
      replace hlbx0 : w3.heap.size < w8.heap.size := hbxx0.1
      have hB8 : Below w.heap.size w w8 := bthen hB6 hGG8
      clear hx7 hx8 hC1 hC2 hot0 hNt0 hget0
      have hC := fun (W : World) (hb : Below w8.heap.size w8 W) => markGraph_any _ m0 Fx0 1 W (by omega) (by omega) (oGraph_good.frame hox0 (fun b hb2 => hb.block b (oGraph_good.lt hox0 b hb2))) hNx0
      go_wp2_with fail
      refine Calls.mono (hC _ ?_) ?_
      · repeat (first | with_reducible exact Below.refl _ _ | with_reducible assumption | with_reducible refine Below.drew ?_ | with_reducible refine Below.alloc ?_ (by first | exact Nat.le_refl _ | (simp; done) | (simp; omega)) _ | with_reducible refine Below.setCell ?_ (by simp) _)
      clear hC
      rintro e w9 ⟨mmx0, qx0, rfl, hqax0, hqbx0, homx0, hhx0, hx9⟩
      have hZ9 : w8.heap.size ≤ w9.heap.size := by have h := hx9.size; first | exact h | (simp at h; omega)
      have hG9 : Turn Fx0 w8 w9 := Turn.after (hx := hx9) (h := by repeat (first | with_reducible exact Below.refl _ _ | with_reducible assumption | with_reducible refine Below.drew ?_ | with_reducible refine Below.alloc ?_ (by first | exact Nat.le_refl _ | (simp; done) | (simp; omega)) _ | with_reducible refine Below.setCell ?_ (by simp) _))
      replace hbxA0 : Bx w9 (w.heap.size) [.slice a0_0 m0.fItems.length c0_0] := hbxA0.turn hG9 (fun hm => by have h1 := hgex0o _ hm; have h2 := hltx0 _ hm; omega)
      replace hbxA1 : Bx w9 (w.heap.size + 1) [.int .i64 m1.fR, .int .i64 m1.fN] := hbxA1.turn hG9 (fun hm => by have h1 := hgex0o _ hm; have h2 := hltx0 _ hm; omega)
      replace hbxx0 : Bx w9 (w3.heap.size) [.slice ax0_0 m0.fItems.length cx0_0] := hbxx0.turn hG9 (fun hm => by have h1 := hgex0o _ hm; have h2 := hltx0 _ hm; omega)
      have hoN := (ownS.frame oDot_good hog0 (fun b hb => hG9.block b (ownS.lt oDot_good hog0 b hb) (fun hm => by have h1 := hgex0o _ hm; have h2 := hltx0 _ hm; have h3 := hgeg0o _ hb; have h4 := hltg0 _ hb; omega)))
      clear hog0
      have hog0 := hoN
      clear hoN
      replace hrs0 := (hrs0.below (Turn.below hG9 (fun k hk => by have h1 := hgex0o _ hk; omega) hbs0))
      replace hbs0 := Nat.le_trans hbs0 hG9.size
      replace xbA0_0 : w9.cell? ⟨w.heap.size, 0, none⟩ = some (.slice a0_0 m0.fItems.length c0_0) := hbxA0.2 0 _ rfl
      replace hlbA0 : w.heap.size < w9.heap.size := hbxA0.1
      replace xbA1_0 : w9.cell? ⟨w.heap.size + 1, 0, none⟩ = some (.int .i64 m1.fR) := hbxA1.2 0 _ rfl
      replace xbA1_1 : w9.cell? ⟨w.heap.size + 1, 1, none⟩ = some (.int .i64 m1.fN) := hbxA1.2 1 _ rfl
      replace hlbA1 : w.heap.size + 1 < w9.heap.size := hbxA1.1
      replace xbx0_0 : w9.cell? ⟨w3.heap.size, 0, none⟩ = some (.slice ax0_0 m0.fItems.length cx0_0) := hbxx0.2 0 _ rfl
      replace hlbx0 : w3.heap.size < w9.heap.size := hbxx0.1
      have hB9 : Below w.heap.size w w9 := Turn.under hB8 hG9 (fun k hk => by have h1 := hgex0o _ hk; have h2 := hB8.size; omega)
      clear hx9 hox0
      have hox0 := homx0
      clear homx0
      have hC := fun (W : World) (hb : Below w9.heap.size w9 W) => eqDotS_yes_r _ _ R0 W (((rdDs_own hog0).below hb).mono hb.size) ((hrs0.below (hb.mono hbs0)).mono (Nat.le_trans hbs0 hb.size)) (by omega)
      go_wp2_with fail
      refine Calls.mono (hC _ ?_) ?_
      · repeat (first | with_reducible exact Below.refl _ _ | with_reducible assumption | with_reducible refine Below.drew ?_ | with_reducible refine Below.alloc ?_ (by first | exact Nat.le_refl _ | (simp; done) | (simp; omega)) _ | with_reducible refine Below.setCell ?_ (by simp) _)
      clear hC
      rintro e w10 ⟨rfl, hx10⟩
      have hZ10 : w9.heap.size ≤ w10.heap.size := by have h := hx10.size; first | exact h | (simp at h; omega)
      have hG10 : Below w9.heap.size w9 w10 := bthen (hx := hx10) (h := by repeat (first | with_reducible exact Below.refl _ _ | with_reducible assumption | with_reducible refine Below.drew ?_ | with_reducible refine Below.alloc ?_ (by first | exact Nat.le_refl _ | (simp; done) | (simp; omega)) _ | with_reducible refine Below.setCell ?_ (by simp) _))
      replace hbxA0 : Bx w10 (w.heap.size) [.slice a0_0 m0.fItems.length c0_0] := hbxA0.under hG10
      replace hbxA1 : Bx w10 (w.heap.size + 1) [.int .i64 m1.fR, .int .i64 m1.fN] := hbxA1.under hG10
      replace hbxx0 : Bx w10 (w3.heap.size) [.slice ax0_0 m0.fItems.length cx0_0] := hbxx0.under hG10
      have hoN := (ownS.frame oDot_good hog0 (fun b hb => hG10.block b (ownS.lt oDot_good hog0 b hb)))
      clear hog0
      have hog0 := hoN
      clear hoN
      replace hrs0 := (hrs0.below (hG10.mono hbs0))
      replace hbs0 := Nat.le_trans hbs0 hG10.size
      replace xbA0_0 : w10.cell? ⟨w.heap.size, 0, none⟩ = some (.slice a0_0 m0.fItems.length c0_0) := hbxA0.2 0 _ rfl
      replace hlbA0 : w.heap.size < w10.heap.size := hbxA0.1
      replace xbA1_0 : w10.cell? ⟨w.heap.size + 1, 0, none⟩ = some (.int .i64 m1.fR) := hbxA1.2 0 _ rfl
      replace xbA1_1 : w10.cell? ⟨w.heap.size + 1, 1, none⟩ = some (.int .i64 m1.fN) := hbxA1.2 1 _ rfl
      replace hlbA1 : w.heap.size + 1 < w10.heap.size := hbxA1.1
      replace xbx0_0 : w10.cell? ⟨w3.heap.size, 0, none⟩ = some (.slice ax0_0 m0.fItems.length cx0_0) := hbxx0.2 0 _ rfl
      replace hlbx0 : w3.heap.size < w10.heap.size := hbxx0.1
      have hB10 : Below w.heap.size w w10 := bthen hB9 hG10
      clear hx10
      have hC := fun (W : World) (hb : Below w10.heap.size w10 W) => markDotS_r _ R0 Fg0 1 W (by omega) (by omega) (ownS.frame oDot_good hog0 (fun b hb2 => hb.block b (ownS.lt oDot_good hog0 b hb2))) hNg0
      go_wp2_with fail
      refine Calls.mono (hC _ ?_) ?_
      · repeat (first | with_reducible exact Below.refl _ _ | with_reducible assumption | with_reducible refine Below.drew ?_ | with_reducible refine Below.alloc ?_ (by first | exact Nat.le_refl _ | (simp; done) | (simp; omega)) _ | with_reducible refine Below.setCell ?_ (by simp) _)
      clear hC
      rintro e w11 ⟨mmg0, qg0, rfl, hqag0, hqbg0, homg0, hhg0, hx11⟩
      have hZ11 : w10.heap.size ≤ w11.heap.size := by have h := hx11.size; first | exact h | (simp at h; omega)
      have hG11 : Turn Fg0 w10 w11 := Turn.after (hx := hx11) (h := by repeat (first | with_reducible exact Below.refl _ _ | with_reducible assumption | with_reducible refine Below.drew ?_ | with_reducible refine Below.alloc ?_ (by first | exact Nat.le_refl _ | (simp; done) | (simp; omega)) _ | with_reducible refine Below.setCell ?_ (by simp) _))
      replace hbxA0 : Bx w11 (w.heap.size) [.slice a0_0 m0.fItems.length c0_0] := hbxA0.turn hG11 (fun hm => by have h1 := hgeg0o _ hm; have h2 := hltg0 _ hm; omega)
      replace hbxA1 : Bx w11 (w.heap.size + 1) [.int .i64 m1.fR, .int .i64 m1.fN] := hbxA1.turn hG11 (fun hm => by have h1 := hgeg0o _ hm; have h2 := hltg0 _ hm; omega)
      replace hbxx0 : Bx w11 (w3.heap.size) [.slice ax0_0 m0.fItems.length cx0_0] := hbxx0.turn hG11 (fun hm => by have h1 := hgeg0o _ hm; have h2 := hltg0 _ hm; omega)
      replace hrs0 := (hrs0.below (Turn.below hG11 (fun k hk => by have h1 := hgeg0o _ hk; omega) hbs0))
      replace hbs0 := Nat.le_trans hbs0 hG11.size
      replace xbA0_0 : w11.cell? ⟨w.heap.size, 0, none⟩ = some (.slice a0_0 m0.fItems.length c0_0) := hbxA0.2 0 _ rfl
      replace hlbA0 : w.heap.size < w11.heap.size := hbxA0.1
      replace xbA1_0 : w11.cell? ⟨w.heap.size + 1, 0, none⟩ = some (.int .i64 m1.fR) := hbxA1.2 0 _ rfl
      replace xbA1_1 : w11.cell? ⟨w.heap.size + 1, 1, none⟩ = some (.int .i64 m1.fN) := hbxA1.2 1 _ rfl
      replace hlbA1 : w.heap.size + 1 < w11.heap.size := hbxA1.1
      replace xbx0_0 : w11.cell? ⟨w3.heap.size, 0, none⟩ = some (.slice ax0_0 m0.fItems.length cx0_0) := hbxx0.2 0 _ rfl
      replace hlbx0 : w3.heap.size < w11.heap.size := hbxx0.1
      have hB11 : Below w.heap.size w w11 := Turn.under hB10 hG11 (fun k hk => by have h1 := hgeg0o _ hk; have h2 := hB10.size; omega)
      clear hx11 hog0
      have hog0 := homg0
      clear homg0
      have hC := fun (W : World) (hb : Below w11.heap.size w11 W) => heldDotS_r _ mmg0 1 qg0 W (((rdDs_own hog0).below hb).mono hb.size) hhg0 (by omega) (by omega)
      go_wp2_with fail
      refine Calls.mono (hC _ ?_) ?_
      · repeat (first | with_reducible exact Below.refl _ _ | with_reducible assumption | with_reducible refine Below.drew ?_ | with_reducible refine Below.alloc ?_ (by first | exact Nat.le_refl _ | (simp; done) | (simp; omega)) _ | with_reducible refine Below.setCell ?_ (by simp) _)
      clear hC
      rintro e w12 ⟨rfl, hx12⟩
      have hZ12 : w11.heap.size ≤ w12.heap.size := by have h := hx12.size; first | exact h | (simp at h; omega)
      have hG12 : Below w11.heap.size w11 w12 := bthen (hx := hx12) (h := by repeat (first | with_reducible exact Below.refl _ _ | with_reducible assumption | with_reducible refine Below.drew ?_ | with_reducible refine Below.alloc ?_ (by first | exact Nat.le_refl _ | (simp; done) | (simp; omega)) _ | with_reducible refine Below.setCell ?_ (by simp) _))
      replace hbxA0 : Bx w12 (w.heap.size) [.slice a0_0 m0.fItems.length c0_0] := hbxA0.under hG12
      replace hbxA1 : Bx w12 (w.heap.size + 1) [.int .i64 m1.fR, .int .i64 m1.fN] := hbxA1.under hG12
      replace hbxx0 : Bx w12 (w3.heap.size) [.slice ax0_0 m0.fItems.length cx0_0] := hbxx0.under hG12
      have hoN := (ownS.frame oDot_good hog0 (fun b hb => hG12.block b (ownS.lt oDot_good hog0 b hb)))
      clear hog0
      have hog0 := hoN
      clear hoN
      replace hrs0 := (hrs0.below (hG12.mono hbs0))
      replace hbs0 := Nat.le_trans hbs0 hG12.size
      replace xbA0_0 : w12.cell? ⟨w.heap.size, 0, none⟩ = some (.slice a0_0 m0.fItems.length c0_0) := hbxA0.2 0 _ rfl
      replace hlbA0 : w.heap.size < w12.heap.size := hbxA0.1
      replace xbA1_0 : w12.cell? ⟨w.heap.size + 1, 0, none⟩ = some (.int .i64 m1.fR) := hbxA1.2 0 _ rfl
      replace xbA1_1 : w12.cell? ⟨w.heap.size + 1, 1, none⟩ = some (.int .i64 m1.fN) := hbxA1.2 1 _ rfl
      replace hlbA1 : w.heap.size + 1 < w12.heap.size := hbxA1.1
      replace xbx0_0 : w12.cell? ⟨w3.heap.size, 0, none⟩ = some (.slice ax0_0 m0.fItems.length cx0_0) := hbxx0.2 0 _ rfl
      replace hlbx0 : w3.heap.size < w12.heap.size := hbxx0.1
      have hB12 : Below w.heap.size w w12 := bthen hB11 hG12
      clear hx12
      go_wp2_with fail
      have yA0_0 : ∀ W, Below w12.heap.size w12 W → W.cell? ⟨w.heap.size, 0, none⟩ = some (.slice a0_0 m0.fItems.length c0_0) := fun W h => (hbxA0.under h).2 0 _ rfl
      have yA1_0 : ∀ W, Below w12.heap.size w12 W → W.cell? ⟨w.heap.size + 1, 0, none⟩ = some (.int .i64 m1.fR) := fun W h => (hbxA1.under h).2 0 _ rfl
      have yA1_1 : ∀ W, Below w12.heap.size w12 W → W.cell? ⟨w.heap.size + 1, 1, none⟩ = some (.int .i64 m1.fN) := fun W h => (hbxA1.under h).2 1 _ rfl
      have yx0_0 : ∀ W, Below w12.heap.size w12 W → W.cell? ⟨w3.heap.size, 0, none⟩ = some (.slice ax0_0 m0.fItems.length cx0_0) := fun W h => (hbxx0.under h).2 0 _ rfl
      clear xbA0_0 xbA1_0 xbA1_1 xbx0_0
      refine wp_region_held_drew (S := fun W => Below w12.heap.size w12 W) (by kernel_rfl) (Below.drew (Below.refl _ _)) (fun hHeld => ?_)
      refine tk 0 qbf5_4_24_0 (some 60) (v := ?v10) rfl rfl (by kernel_rfl) hHeld (by rfl) (fun _ _ _ x => x) (fun w h => ?y10) ?_; (case y10 => (try dsimp only at h); go_simp; try (with_reducible rfl)); try simp only [Act.put, sa, s0, s1]
      refine tk 2 qbf5_4_24_2 (some 62) (v := ?v11) rfl rfl (by kernel_rfl) hHeld (by rfl) (fun _ _ _ x => x) (fun w h => ?y11) ?_; (case y11 => (try dsimp only at h); go_simp; try (with_reducible rfl)); try simp only [Act.put, sa, s0, s1]
      refine wpAnyH_ready (rs := [1]) (by kernel_rfl) (by simp) ?_
      refine AllReadyH.cons (o := qbf5_4_24_1) rfl (fun K hK => ?_) AllReadyH.nil
      go_simp
      refine Calls.mono (toGraph_any _ m0 _ (rGraph_good.mono (rGraph_good.below hr0 (bthen hB12 hHeld)) (bthen hB12 hHeld).size) hwn0) ?_
      rintro e wc ⟨vh0, Fh0, rfl, hoh0, hNh0, hgeh0, hx1⟩
      go_wp2_with fail
      refine hK.out _ _ (bthen hHeld hx1) (fun hHeld => ?_)
      clear hK K
      try simp only [Act.put, sa, s0, s1]
      refine wpAnyH_ready (rs := [3]) (by kernel_rfl) (by simp) ?_
      refine AllReadyH.cons (o := qbf5_4_24_3) rfl (fun K hK => ?_) AllReadyH.nil
      go_simp
      refine Calls.mono (toDot_any _ m1 _ (HRP1.out _) (by unfold wDot; omega)) ?_
      rintro e wd ⟨csd, Fd, rfl, ⟨rfl, _⟩, _, _, hx2⟩
      go_wp2_with fail
      refine hK.out _ _ (bthen hHeld hx2) (fun hHeld => ?_)
      clear hK K
      try simp only [Act.put, sa, s0, s1]
      refine wpAnyH_ready (rs := [4]) (by kernel_rfl) (by simp) ?_
      refine AllReadyH.cons (o := qbf5_4_24_4) rfl (fun K hK => ?_) AllReadyH.nil
      go_simp
      have hSz13 := hHeld.size
      refine Calls.mono (implGroup_c R0 _ m0 _ m1 HR0.out _ (rGraph_good.mono (rGraph_good.below (oGraph_good.read hoh0) hx2) hx2.size) hwn0 (HRP1.out _) (hT.below (bthen hB12 hHeld))) ?_
      rintro e w13 ⟨vk0, Fk0, rfl, hok0, hNk0, hgek0, hx3⟩
      go_wp2_with fail
      refine hK.out _ _ (bthen hHeld hx3) (fun hHeld => ?_)
      clear hK K
      try simp only [Act.put, sa, s0, s1]
      refine tk 5 qbf5_4_24_5 (some 12) (v := ?v12) rfl rfl (by kernel_rfl) hHeld (by rfl) (fun _ _ _ x => x) (fun w h => ?y12) ?_; (case y12 => (try dsimp only at h); go_simp; try (with_reducible rfl)); try simp only [Act.put, sa, s0, s1]
      refine wpAnyH_done (by kernel_rfl) ?_ _
      have hG13 : Below w12.heap.size w12 w13 := hHeld
      clear hHeld yA0_0 yA1_0 yA1_1 yx0_0
      clear hoh0 hNh0 hgeh0
      have hZ13 : w12.heap.size ≤ w13.heap.size := hG13.size
      replace hbxA0 : Bx w13 (w.heap.size) [.slice a0_0 m0.fItems.length c0_0] := hbxA0.under hG13
      replace hbxA1 : Bx w13 (w.heap.size + 1) [.int .i64 m1.fR, .int .i64 m1.fN] := hbxA1.under hG13
      replace hbxx0 : Bx w13 (w3.heap.size) [.slice ax0_0 m0.fItems.length cx0_0] := hbxx0.under hG13
      have hoN := (ownS.frame oDot_good hog0 (fun b hb => hG13.block b (ownS.lt oDot_good hog0 b hb)))
      clear hog0
      have hog0 := hoN
      clear hoN
      replace hrs0 := (hrs0.below (hG13.mono hbs0))
      replace hbs0 := Nat.le_trans hbs0 hG13.size
      have xbA0_0 : w13.cell? ⟨w.heap.size, 0, none⟩ = some (.slice a0_0 m0.fItems.length c0_0) := hbxA0.2 0 _ rfl
      replace hlbA0 : w.heap.size < w13.heap.size := hbxA0.1
      have xbA1_0 : w13.cell? ⟨w.heap.size + 1, 0, none⟩ = some (.int .i64 m1.fR) := hbxA1.2 0 _ rfl
      have xbA1_1 : w13.cell? ⟨w.heap.size + 1, 1, none⟩ = some (.int .i64 m1.fN) := hbxA1.2 1 _ rfl
      replace hlbA1 : w.heap.size + 1 < w13.heap.size := hbxA1.1
      have xbx0_0 : w13.cell? ⟨w3.heap.size, 0, none⟩ = some (.slice ax0_0 m0.fItems.length cx0_0) := hbxx0.2 0 _ rfl
      replace hlbx0 : w3.heap.size < w13.heap.size := hbxx0.1
      have hB13 : Below w.heap.size w w13 := bthen hB12 hG13
      have hgek0o : ∀ b, b ∈ Fk0 → w12.heap.size ≤ b := fun b hb => by have h := hgek0 b hb; first | exact h | omega
      clear hgek0
      have hltk0 : ∀ b, b ∈ Fk0 → b < w13.heap.size := fun b hb => ownS.lt oDot_good hok0 b hb
      obtain ⟨ak0, ck0, rfl, _⟩ := id ((rdDs_own hok0))
      have hC := fun (W : World) (hb : Below w13.heap.size w13 W) => eqDotS_yes_r _ _ R0 W (((rdDs_own hok0).below hb).mono hb.size) ((hrs0.below (hb.mono hbs0)).mono (Nat.le_trans hbs0 hb.size)) (by omega)
      go_wp2_with fail
      refine Calls.mono (hC _ ?_) ?_
      · repeat (first | with_reducible exact Below.refl _ _ | with_reducible assumption | with_reducible refine Below.drew ?_ | with_reducible refine Below.alloc ?_ (by first | exact Nat.le_refl _ | (simp; done) | (simp; omega)) _ | with_reducible refine Below.setCell ?_ (by simp) _)
      clear hC
      rintro e w14 ⟨rfl, hx14⟩
      have hZ14 : w13.heap.size ≤ w14.heap.size := by have h := hx14.size; first | exact h | (simp at h; omega)
      have hG14 : Below w13.heap.size w13 w14 := bthen (hx := hx14) (h := by repeat (first | with_reducible exact Below.refl _ _ | with_reducible assumption | with_reducible refine Below.drew ?_ | with_reducible refine Below.alloc ?_ (by first | exact Nat.le_refl _ | (simp; done) | (simp; omega)) _ | with_reducible refine Below.setCell ?_ (by simp) _))
      replace hbxA0 : Bx w14 (w.heap.size) [.slice a0_0 m0.fItems.length c0_0] := hbxA0.under hG14
      replace hbxA1 : Bx w14 (w.heap.size + 1) [.int .i64 m1.fR, .int .i64 m1.fN] := hbxA1.under hG14
      replace hbxx0 : Bx w14 (w3.heap.size) [.slice ax0_0 m0.fItems.length cx0_0] := hbxx0.under hG14
      have hoN := (ownS.frame oDot_good hog0 (fun b hb => hG14.block b (ownS.lt oDot_good hog0 b hb)))
      clear hog0
      have hog0 := hoN
      clear hoN
      have hoN := (ownS.frame oDot_good hok0 (fun b hb => hG14.block b (ownS.lt oDot_good hok0 b hb)))
      clear hok0
      have hok0 := hoN
      clear hoN
      replace hrs0 := (hrs0.below (hG14.mono hbs0))
      replace hbs0 := Nat.le_trans hbs0 hG14.size
      replace xbA0_0 : w14.cell? ⟨w.heap.size, 0, none⟩ = some (.slice a0_0 m0.fItems.length c0_0) := hbxA0.2 0 _ rfl
      replace hlbA0 : w.heap.size < w14.heap.size := hbxA0.1
      replace xbA1_0 : w14.cell? ⟨w.heap.size + 1, 0, none⟩ = some (.int .i64 m1.fR) := hbxA1.2 0 _ rfl
      replace xbA1_1 : w14.cell? ⟨w.heap.size + 1, 1, none⟩ = some (.int .i64 m1.fN) := hbxA1.2 1 _ rfl
      replace hlbA1 : w.heap.size + 1 < w14.heap.size := hbxA1.1
      replace xbx0_0 : w14.cell? ⟨w3.heap.size, 0, none⟩ = some (.slice ax0_0 m0.fItems.length cx0_0) := hbxx0.2 0 _ rfl
      replace hlbx0 : w3.heap.size < w14.heap.size := hbxx0.1
      have hB14 : Below w.heap.size w w14 := bthen hB13 hG14
      clear hx14
      have hC := fun (W : World) (hb : Below w14.heap.size w14 W) => heldDotS_r _ mmg0 1 qg0 W (((rdDs_own hog0).below hb).mono hb.size) hhg0 (by omega) (by omega)
      go_wp2_with fail
      refine Calls.mono (hC _ ?_) ?_
      · repeat (first | with_reducible exact Below.refl _ _ | with_reducible assumption | with_reducible refine Below.drew ?_ | with_reducible refine Below.alloc ?_ (by first | exact Nat.le_refl _ | (simp; done) | (simp; omega)) _ | with_reducible refine Below.setCell ?_ (by simp) _)
      clear hC
      rintro e w15 ⟨rfl, hx15⟩
      have hZ15 : w14.heap.size ≤ w15.heap.size := by have h := hx15.size; first | exact h | (simp at h; omega)
      have hG15 : Below w14.heap.size w14 w15 := bthen (hx := hx15) (h := by repeat (first | with_reducible exact Below.refl _ _ | with_reducible assumption | with_reducible refine Below.drew ?_ | with_reducible refine Below.alloc ?_ (by first | exact Nat.le_refl _ | (simp; done) | (simp; omega)) _ | with_reducible refine Below.setCell ?_ (by simp) _))
      replace hbxA0 : Bx w15 (w.heap.size) [.slice a0_0 m0.fItems.length c0_0] := hbxA0.under hG15
      replace hbxA1 : Bx w15 (w.heap.size + 1) [.int .i64 m1.fR, .int .i64 m1.fN] := hbxA1.under hG15
      replace hbxx0 : Bx w15 (w3.heap.size) [.slice ax0_0 m0.fItems.length cx0_0] := hbxx0.under hG15
      have hoN := (ownS.frame oDot_good hog0 (fun b hb => hG15.block b (ownS.lt oDot_good hog0 b hb)))
      clear hog0
      have hog0 := hoN
      clear hoN
      have hoN := (ownS.frame oDot_good hok0 (fun b hb => hG15.block b (ownS.lt oDot_good hok0 b hb)))
      clear hok0
      have hok0 := hoN
      clear hoN
      replace hrs0 := (hrs0.below (hG15.mono hbs0))
      replace hbs0 := Nat.le_trans hbs0 hG15.size
      replace xbA0_0 : w15.cell? ⟨w.heap.size, 0, none⟩ = some (.slice a0_0 m0.fItems.length c0_0) := hbxA0.2 0 _ rfl
      replace hlbA0 : w.heap.size < w15.heap.size := hbxA0.1
      replace xbA1_0 : w15.cell? ⟨w.heap.size + 1, 0, none⟩ = some (.int .i64 m1.fR) := hbxA1.2 0 _ rfl
      replace xbA1_1 : w15.cell? ⟨w.heap.size + 1, 1, none⟩ = some (.int .i64 m1.fN) := hbxA1.2 1 _ rfl
      replace hlbA1 : w.heap.size + 1 < w15.heap.size := hbxA1.1
      replace xbx0_0 : w15.cell? ⟨w3.heap.size, 0, none⟩ = some (.slice ax0_0 m0.fItems.length cx0_0) := hbxx0.2 0 _ rfl
      replace hlbx0 : w3.heap.size < w15.heap.size := hbxx0.1
      have hB15 : Below w.heap.size w w15 := bthen hB14 hG15
      clear hx15
      go_wp2_with fail
      go_ret
      exact ⟨rfl, by repeat (first | with_reducible exact Below.refl _ _ | with_reducible assumption | with_reducible refine Below.drew ?_ | with_reducible refine Below.alloc ?_ (by first | exact Nat.le_refl _ | (simp; done) | (simp; omega)) _ | with_reducible refine Below.setCell ?_ (by simp) _)⟩
  · rw [szRes_no hw0]
    go_wp2_with fail
    all_goals
      go_ret
      exact ⟨rfl, by repeat (first | with_reducible exact Below.refl _ _ | with_reducible assumption | with_reducible refine Below.drew ?_ | with_reducible refine Below.alloc ?_ (by first | exact Nat.le_refl _ | (simp; done) | (simp; omega)) _ | with_reducible refine Below.setCell ?_ (by simp) _)⟩

end Go.Proofs.YtedjmmaihpfndaaDoor
