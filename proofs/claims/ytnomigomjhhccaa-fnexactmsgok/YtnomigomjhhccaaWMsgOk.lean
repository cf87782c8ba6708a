/-
  The exact law of MsgOk: at every replica and word both sides say the same, and neither writes into what it is handed.
-/
import Derived.Test.YtnomigomjhhccaaRegK
import Derived.Test.YtnomigomjhhccaaRDatT
import Derived.Test.YtnomigomjhhccaaRDatE
import Derived.Test.YtnomigomjhhccaaMsgS
import Derived.Test.YtnomigomjhhccaaMsgI
namespace Go.Proofs.Ytnomigomjhhccaa
open Go.RowKit
set_option linter.unusedVariables false
set_option linter.unusedSimpArgs false
set_option maxRecDepth 10000
abbrev q016_10_8_0 : Oper := ⟨some 20, .load 79 (.tmp 2), 79, "exact.go:4748", #[], none⟩
abbrev q016_10_8_2 : Oper := ⟨some 22, .load 81 (.tmp 3), 81, "exact.go:4748", #[], none⟩
abbrev q016_10_8_1 : Oper := ⟨some 21, .call { callee := .value (.func 43), args := #[.tmp 20], argTypes := #[79] }, 37, "exact.go:4748", #[⟨0, .data⟩], none⟩
abbrev q016_10_8_3 : Oper := ⟨some 23, .call { callee := .value (.func 44), args := #[.tmp 22], argTypes := #[81] }, 87, "exact.go:4748", #[⟨2, .data⟩, ⟨1, .chain⟩], none⟩
abbrev q016_10_8_4 : Oper := ⟨some 24, .call { callee := .value (.func 42), args := #[.tmp 21, .tmp 23], argTypes := #[37, 87] }, 4, "exact.go:4748", #[⟨1, .data⟩, ⟨3, .data⟩, ⟨3, .chain⟩], none⟩
abbrev q016_10_8_5 : Oper := ⟨some 6, .assign (.tmp 24), 4, "exact.go:4748", #[⟨4, .data⟩, ⟨4, .chain⟩, ⟨0, .phase⟩, ⟨1, .phase⟩, ⟨2, .phase⟩, ⟨3, .phase⟩, ⟨4, .phase⟩], none⟩
abbrev q016_10_14_0 : Oper := ⟨some 35, .load 37 (.tmp 7), 37, "exact.go:4755", #[], none⟩
abbrev q016_10_14_1 : Oper := ⟨some 36, .load 79 (.tmp 2), 79, "exact.go:4755", #[], none⟩
abbrev q016_10_14_2 : Oper := ⟨some 37, .call { callee := .value (.func 43), args := #[.tmp 36], argTypes := #[79] }, 37, "exact.go:4755", #[⟨1, .data⟩], none⟩
abbrev q016_10_14_3 : Oper := ⟨some 38, .call { callee := .value (.func 19), args := #[.tmp 35, .tmp 37], argTypes := #[37, 37] }, 4, "exact.go:4755", #[⟨0, .data⟩, ⟨2, .data⟩, ⟨2, .chain⟩], none⟩
abbrev q016_10_14_4 : Oper := ⟨some 39, .unOp .not 4 (.tmp 38), 4, "exact.go:4755", #[⟨3, .data⟩], none⟩
abbrev q016_10_16_0 : Oper := ⟨some 40, .load 87 (.tmp 8), 87, "exact.go:4758", #[], none⟩
abbrev q016_10_16_1 : Oper := ⟨some 41, .load 81 (.tmp 3), 81, "exact.go:4758", #[], none⟩
abbrev q016_10_16_2 : Oper := ⟨some 42, .call { callee := .value (.func 44), args := #[.tmp 41], argTypes := #[81] }, 87, "exact.go:4758", #[⟨1, .data⟩], none⟩
abbrev q016_10_16_3 : Oper := ⟨some 43, .call { callee := .value (.func 46), args := #[.tmp 40, .tmp 42], argTypes := #[87, 87] }, 4, "exact.go:4758", #[⟨0, .data⟩, ⟨2, .data⟩, ⟨2, .chain⟩], none⟩
abbrev q016_10_16_4 : Oper := ⟨some 44, .unOp .not 4 (.tmp 43), 4, "exact.go:4758", #[⟨3, .data⟩], none⟩

set_option maxHeartbeats 8000000 in
theorem law_FnExactMsgOk (cs0 : List Value) (m0 : MReplica) (cs1 : List Value) (m1 : MMsg) (w : World) (hr0 : rReplica w.heap.size w cs0 m0) (hr1 : rMsg w.heap.size w cs1 m1) :
    Calls Try.prog 10 #[.agg cs0.toArray, .agg cs1.toArray] w fun e w' => e = .returned (.bool true) ∧ Below w.heap.size w w' := by
  have hq0 := hr0
  obtain ⟨a3, c3, a4, c4, a5, c5, a6, c6, a7, c7, rfl, _⟩ := hq0
  have hq1 := hr1
  obtain ⟨a8, c8, rfl, _⟩ := hq1
  have HB0 := InBox.new (w := w) (r := m0) (m := m1) hr0 hr1 79 81
  obtain ⟨wq, hwq⟩ : ∃ wq, wq = (w.alloc (.cells #[.int .i64 m0.fId, .int .i64 m0.fN, .int .i64 m0.fNext, .slice a3 m0.fRecs.length c3, .slice a4 m0.fAcks.length c4, .slice a5 m0.fDone.length c5, .slice a6 m0.fMap.length c6, .slice a7 m0.fSaid.length c7] 79)).alloc (.cells #[.int .i64 m1.fKind, .int .i64 m1.fFrom, .int .i64 m1.fTo, .int .i64 m1.fD.fR, .int .i64 m1.fD.fN, .int .i64 m1.fC.fKind, .string m1.fC.fKey, .string m1.fC.fVal, .slice a8 m1.fDeps.length c8] 81) := ⟨_, rfl⟩
  rw [← hwq] at HB0
  have HB := Hid.mk HB0.1
  have hbq := HB0.2
  clear HB0 hr0 hr1
  have x0 := HB.out.rep.2 0 _ rfl
  have x1 := HB.out.rep.2 1 _ rfl
  have x2 := HB.out.rep.2 2 _ rfl
  have x3 := HB.out.rep.2 3 _ rfl
  have x4 := HB.out.rep.2 4 _ rfl
  have x5 := HB.out.rep.2 5 _ rfl
  have x6 := HB.out.rep.2 6 _ rfl
  have x7 := HB.out.rep.2 7 _ rfl
  have y0 := HB.out.msg.2 0 _ rfl
  have y1 := HB.out.msg.2 1 _ rfl
  have y2 := HB.out.msg.2 2 _ rfl
  have y3 := HB.out.msg.2 3 _ rfl
  have y4 := HB.out.msg.2 4 _ rfl
  have y5 := HB.out.msg.2 5 _ rfl
  have y6 := HB.out.msg.2 6 _ rfl
  have y7 := HB.out.msg.2 7 _ rfl
  have y8 := HB.out.msg.2 8 _ rfl
  have hl0 := HB.out.rep.1
  have hl1 := HB.out.msg.1
  go_enter Try.func10, Try.ntmps10
  go_wp2_with (rw [← hwq])
  try rw [← hwq]
  clear hwq
  refine (szReplica_any _ m0 1048576 wq (by omega) (by omega) HB.out.r).mono ?_
  rintro e w1 ⟨rfl, hx1⟩
  have HB1 := Hid.mk (HB.out.under hx1)
  have hb1 := bthen hbq hx1
  clear x0 x1 x2 x3 x4 x5 x6 x7 y0 y1 y2 y3 y4 y5 y6 y7 y8 hl0 hl1
  have x0 := HB1.out.rep.2 0 _ rfl
  have x1 := HB1.out.rep.2 1 _ rfl
  have x2 := HB1.out.rep.2 2 _ rfl
  have x3 := HB1.out.rep.2 3 _ rfl
  have x4 := HB1.out.rep.2 4 _ rfl
  have x5 := HB1.out.rep.2 5 _ rfl
  have x6 := HB1.out.rep.2 6 _ rfl
  have x7 := HB1.out.rep.2 7 _ rfl
  have y0 := HB1.out.msg.2 0 _ rfl
  have y1 := HB1.out.msg.2 1 _ rfl
  have y2 := HB1.out.msg.2 2 _ rfl
  have y3 := HB1.out.msg.2 3 _ rfl
  have y4 := HB1.out.msg.2 4 _ rfl
  have y5 := HB1.out.msg.2 5 _ rfl
  have y6 := HB1.out.msg.2 6 _ rfl
  have y7 := HB1.out.msg.2 7 _ rfl
  have y8 := HB1.out.msg.2 8 _ rfl
  have hl0 := HB1.out.rep.1
  have hl1 := HB1.out.msg.1
  by_cases hw0 : ((wReplica m0 : Nat) : Int) ≤ 1048576
  rotate_left
  · rw [szRes_no hw0]
    go_wp2_with fail
    go_ret
    exact ⟨rfl, hb1⟩
  rw [szRes_yes hw0]
  have hwn0 : wReplica m0 ≤ 1048576 := by omega
  go_wp2_with fail
  refine (szMsg_any _ m1 (1048576 - (wReplica m0 : Nat)) w1 (by omega) (by omega) HB1.out.m).mono ?_
  rintro e w2 ⟨rfl, hx2⟩
  have HB2 := Hid.mk (HB1.out.under hx2)
  have hb2 := bthen hb1 hx2
  clear x0 x1 x2 x3 x4 x5 x6 x7 y0 y1 y2 y3 y4 y5 y6 y7 y8 hl0 hl1
  have x0 := HB2.out.rep.2 0 _ rfl
  have x1 := HB2.out.rep.2 1 _ rfl
  have x2 := HB2.out.rep.2 2 _ rfl
  have x3 := HB2.out.rep.2 3 _ rfl
  have x4 := HB2.out.rep.2 4 _ rfl
  have x5 := HB2.out.rep.2 5 _ rfl
  have x6 := HB2.out.rep.2 6 _ rfl
  have x7 := HB2.out.rep.2 7 _ rfl
  have y0 := HB2.out.msg.2 0 _ rfl
  have y1 := HB2.out.msg.2 1 _ rfl
  have y2 := HB2.out.msg.2 2 _ rfl
  have y3 := HB2.out.msg.2 3 _ rfl
  have y4 := HB2.out.msg.2 4 _ rfl
  have y5 := HB2.out.msg.2 5 _ rfl
  have y6 := HB2.out.msg.2 6 _ rfl
  have y7 := HB2.out.msg.2 7 _ rfl
  have y8 := HB2.out.msg.2 8 _ rfl
  have hl0 := HB2.out.rep.1
  have hl1 := HB2.out.msg.1
  by_cases hw1 : ((wMsg m1 : Nat) : Int) ≤ 1048576 - (wReplica m0 : Nat)
  rotate_left
  · rw [szRes_no hw1]
    go_wp2_with fail
    go_ret
    exact ⟨rfl, hb2⟩
  rw [szRes_yes hw1]
  have hwn1 : wMsg m1 ≤ 1048576 := by omega
  have hwb0 : wReplica m0 ≤ 1099511627776 := by omega
  have hwb1 : wMsg m1 ≤ 1099511627776 := by omega
  obtain ⟨V, HV⟩ : ∃ v, Hid (v = msgP m0 m1) := ⟨_, Hid.mk rfl⟩
  have hnl : ¬ ((1048576 - ((wReplica m0 : Nat) : Int)) - ((wMsg m1 : Nat) : Int)) < 0 := by omega
  generalize (1048576 - ((wReplica m0 : Nat) : Int)) - ((wMsg m1 : Nat) : Int) = left2 at *
  go_wp2_with fail
  clear x0 x1 x2 x3 x4 x5 x6 x7 y0 y1 y2 y3 y4 y5 y6 y7 y8 hl0 hl1
  have x0 : ∀ W, Below w2.heap.size w2 W → W.cell? ⟨w.heap.size, 0, none⟩ = some (.int .i64 m0.fId) := fun W h => (HB2.out.under h).rep.2 0 _ rfl
  have x1 : ∀ W, Below w2.heap.size w2 W → W.cell? ⟨w.heap.size, 1, none⟩ = some (.int .i64 m0.fN) := fun W h => (HB2.out.under h).rep.2 1 _ rfl
  have x2 : ∀ W, Below w2.heap.size w2 W → W.cell? ⟨w.heap.size, 2, none⟩ = some (.int .i64 m0.fNext) := fun W h => (HB2.out.under h).rep.2 2 _ rfl
  have x3 : ∀ W, Below w2.heap.size w2 W → W.cell? ⟨w.heap.size, 3, none⟩ = some (.slice a3 m0.fRecs.length c3) := fun W h => (HB2.out.under h).rep.2 3 _ rfl
  have x4 : ∀ W, Below w2.heap.size w2 W → W.cell? ⟨w.heap.size, 4, none⟩ = some (.slice a4 m0.fAcks.length c4) := fun W h => (HB2.out.under h).rep.2 4 _ rfl
  have x5 : ∀ W, Below w2.heap.size w2 W → W.cell? ⟨w.heap.size, 5, none⟩ = some (.slice a5 m0.fDone.length c5) := fun W h => (HB2.out.under h).rep.2 5 _ rfl
  have x6 : ∀ W, Below w2.heap.size w2 W → W.cell? ⟨w.heap.size, 6, none⟩ = some (.slice a6 m0.fMap.length c6) := fun W h => (HB2.out.under h).rep.2 6 _ rfl
  have x7 : ∀ W, Below w2.heap.size w2 W → W.cell? ⟨w.heap.size, 7, none⟩ = some (.slice a7 m0.fSaid.length c7) := fun W h => (HB2.out.under h).rep.2 7 _ rfl
  have y0 : ∀ W, Below w2.heap.size w2 W → W.cell? ⟨w.heap.size + 1, 0, none⟩ = some (.int .i64 m1.fKind) := fun W h => (HB2.out.under h).msg.2 0 _ rfl
  have y1 : ∀ W, Below w2.heap.size w2 W → W.cell? ⟨w.heap.size + 1, 1, none⟩ = some (.int .i64 m1.fFrom) := fun W h => (HB2.out.under h).msg.2 1 _ rfl
  have y2 : ∀ W, Below w2.heap.size w2 W → W.cell? ⟨w.heap.size + 1, 2, none⟩ = some (.int .i64 m1.fTo) := fun W h => (HB2.out.under h).msg.2 2 _ rfl
  have y3 : ∀ W, Below w2.heap.size w2 W → W.cell? ⟨w.heap.size + 1, 3, none⟩ = some (.int .i64 m1.fD.fR) := fun W h => (HB2.out.under h).msg.2 3 _ rfl
  have y4 : ∀ W, Below w2.heap.size w2 W → W.cell? ⟨w.heap.size + 1, 4, none⟩ = some (.int .i64 m1.fD.fN) := fun W h => (HB2.out.under h).msg.2 4 _ rfl
  have y5 : ∀ W, Below w2.heap.size w2 W → W.cell? ⟨w.heap.size + 1, 5, none⟩ = some (.int .i64 m1.fC.fKind) := fun W h => (HB2.out.under h).msg.2 5 _ rfl
  have y6 : ∀ W, Below w2.heap.size w2 W → W.cell? ⟨w.heap.size + 1, 6, none⟩ = some (.string m1.fC.fKey) := fun W h => (HB2.out.under h).msg.2 6 _ rfl
  have y7 : ∀ W, Below w2.heap.size w2 W → W.cell? ⟨w.heap.size + 1, 7, none⟩ = some (.string m1.fC.fVal) := fun W h => (HB2.out.under h).msg.2 7 _ rfl
  have y8 : ∀ W, Below w2.heap.size w2 W → W.cell? ⟨w.heap.size + 1, 8, none⟩ = some (.slice a8 m1.fDeps.length c8) := fun W h => (HB2.out.under h).msg.2 8 _ rfl
  refine wp_region_held_drew (S := fun W => Below w2.heap.size w2 W) (by kernel_rfl) (Below.drew (Below.refl _ _)) (fun hHeld => ?_)
  refine tk 0 q016_10_8_0 (some 20) (v := ?v1) rfl rfl (by kernel_rfl) hHeld (by rfl) (fun _ _ _ x => x) (fun w h => ?y1) ?_; (case y1 => (try dsimp only at h); go_simp; try (with_reducible rfl)); try simp only [Act.put, sa, s0, s1]
  refine tk 2 q016_10_8_2 (some 22) (v := ?v2) rfl rfl (by kernel_rfl) hHeld (by rfl) (fun _ _ _ x => x) (fun w h => ?y2) ?_; (case y2 => (try dsimp only at h); go_simp; try (with_reducible rfl)); try simp only [Act.put, sa, s0, s1]
  refine wpAnyH_ready (rs := [1]) (by kernel_rfl) (by simp) ?_
  refine AllReadyH.cons (o := q016_10_8_1) rfl (fun K hK => ?_) AllReadyH.nil
  go_simp
  refine Calls.mono (toReplica_any _ m0 _ (HB2.out.under hHeld).r hwn0) ?_
  rintro e v1 ⟨vp0, Fp0, rfl, hop0, _, _, hy1⟩
  go_wp2_with fail
  refine hK.out _ _ (bthen hHeld hy1) (fun hHeld => ?_)
  clear hK K
  try simp only [Act.put, sa, s0, s1]
  refine wpAnyH_ready (rs := [3]) (by kernel_rfl) (by simp) ?_
  refine AllReadyH.cons (o := q016_10_8_3) rfl (fun K hK => ?_) AllReadyH.nil
  go_simp
  refine Calls.mono (toMsg_any _ m1 _ (HB2.out.under hHeld).m hwn1) ?_
  rintro e v2 ⟨vp1, Fp1, rfl, hop1, _, _, hy2⟩
  go_wp2_with fail
  refine hK.out _ _ (bthen hHeld hy2) (fun hHeld => ?_)
  clear hK K
  try simp only [Act.put, sa, s0, s1]
  refine wpAnyH_ready (rs := [4]) (by kernel_rfl) (by simp) ?_
  refine AllReadyH.cons (o := q016_10_8_4) rfl (fun K hK => ?_) AllReadyH.nil
  go_simp
  refine Calls.mono (specMsgOk_any _ m0 _ m1 _ (rReplica_good.mono (rReplica_good.below (oReplica_good.read hop0) hy2) hy2.size) (oMsg_good.read hop1) hwn0 hwn1) ?_
  rintro e v3 ⟨rfl, hy3⟩
  rw [← HV.out]
  go_wp2_with fail
  refine hK.out _ _ (bthen hHeld hy3) (fun hHeld => ?_)
  clear hK K
  try simp only [Act.put, sa, s0, s1]
  refine tk 5 q016_10_8_5 (some 6) (v := ?v3) rfl rfl (by kernel_rfl) hHeld (by rfl) (fun _ _ _ x => x) (fun w h => ?y3) ?_; (case y3 => (try dsimp only at h); go_simp; try (with_reducible rfl)); try simp only [Act.put, sa, s0, s1]
  refine wpAnyH_done (by kernel_rfl) ?_ _
  obtain ⟨w3, hw3⟩ : ∃ z, z = v3 := ⟨_, rfl⟩
  rw [← hw3] at hHeld ⊢
  have HB3 := Hid.mk (HB2.out.under hHeld)
  have hb3 := bthen hb2 hHeld
  clear hw3 hHeld hy1 hy2 hy3 hop0 hop1 x0 x1 x2 x3 x4 x5 x6 x7 y0 y1 y2 y3 y4 y5 y6 y7 y8
  have x0 := HB3.out.rep.2 0 _ rfl
  have x1 := HB3.out.rep.2 1 _ rfl
  have x2 := HB3.out.rep.2 2 _ rfl
  have x3 := HB3.out.rep.2 3 _ rfl
  have x4 := HB3.out.rep.2 4 _ rfl
  have x5 := HB3.out.rep.2 5 _ rfl
  have x6 := HB3.out.rep.2 6 _ rfl
  have x7 := HB3.out.rep.2 7 _ rfl
  have y0 := HB3.out.msg.2 0 _ rfl
  have y1 := HB3.out.msg.2 1 _ rfl
  have y2 := HB3.out.msg.2 2 _ rfl
  have y3 := HB3.out.msg.2 3 _ rfl
  have y4 := HB3.out.msg.2 4 _ rfl
  have y5 := HB3.out.msg.2 5 _ rfl
  have y6 := HB3.out.msg.2 6 _ rfl
  have y7 := HB3.out.msg.2 7 _ rfl
  have y8 := HB3.out.msg.2 8 _ rfl
  have hl0 := HB3.out.rep.1
  have hl1 := HB3.out.msg.1
  go_wp2_with fail
  refine (toReplica_any _ m0 w3 HB3.out.r hwn0).mono ?_
  rintro e w4 ⟨vx0, Fx0, rfl, hox0, _, _, hx4⟩
  obtain ⟨ax3, cx3, ax4, cx4, ax5, cx5, ax6, cx6, ax7, cx7, rfl, _⟩ := id (oReplica_good.read hox0)
  have HB4 := Hid.mk (HB3.out.under hx4)
  have hb4 := bthen hb3 hx4
  obtain ⟨g0, hg0⟩ : ∃ g, g = w4.heap.size := ⟨_, rfl⟩
  obtain ⟨w5, hw5⟩ : ∃ z, z = w4.alloc (.cells #[.int .i64 m0.fId, .int .i64 m0.fN, .int .i64 m0.fNext, .slice ax3 m0.fRecs.length cx3, .slice ax4 m0.fAcks.length cx4, .slice ax5 m0.fDone.length cx5, .slice ax6 m0.fMap.length cx6, .slice ax7 m0.fSaid.length cx7] 37) := ⟨_, rfl⟩
  have hx5 : Below w4.heap.size w4 w5 := by rw [hw5]; exact (Below.refl _ _).alloc (Nat.le_refl _) _
  have hbx0 : Bx w5 g0 [.int .i64 m0.fId, .int .i64 m0.fN, .int .i64 m0.fNext, .slice ax3 m0.fRecs.length cx3, .slice ax4 m0.fAcks.length cx4, .slice ax5 m0.fDone.length cx5, .slice ax6 m0.fMap.length cx6, .slice ax7 m0.fSaid.length cx7] := by rw [hw5, hg0]; exact Bx.new _ _ _
  have HR0 : Hid (∀ W, Below w5.heap.size w5 W → Bx W g0 [.int .i64 m0.fId, .int .i64 m0.fN, .int .i64 m0.fNext, .slice ax3 m0.fRecs.length cx3, .slice ax4 m0.fAcks.length cx4, .slice ax5 m0.fDone.length cx5, .slice ax6 m0.fMap.length cx6, .slice ax7 m0.fSaid.length cx7] ∧ rReplica W.heap.size W [.int .i64 m0.fId, .int .i64 m0.fN, .int .i64 m0.fNext, .slice ax3 m0.fRecs.length cx3, .slice ax4 m0.fAcks.length cx4, .slice ax5 m0.fDone.length cx5, .slice ax6 m0.fMap.length cx6, .slice ax7 m0.fSaid.length cx7] m0) := fun W hb => ⟨hbx0.under hb, rReplica_good.mono (rReplica_good.below (oReplica_good.read hox0) (bthen hx5 hb)) (bthen hx5 hb).size⟩
  have HB5 := Hid.mk (HB4.out.under hx5)
  have hb5 := bthen hb4 hx5
  clear hox0 hx4
  clear x0 x1 x2 x3 x4 x5 x6 x7 y0 y1 y2 y3 y4 y5 y6 y7 y8 hl0 hl1
  have x0 := HB4.out.rep.2 0 _ rfl
  have x1 := HB4.out.rep.2 1 _ rfl
  have x2 := HB4.out.rep.2 2 _ rfl
  have x3 := HB4.out.rep.2 3 _ rfl
  have x4 := HB4.out.rep.2 4 _ rfl
  have x5 := HB4.out.rep.2 5 _ rfl
  have x6 := HB4.out.rep.2 6 _ rfl
  have x7 := HB4.out.rep.2 7 _ rfl
  have y0 := HB4.out.msg.2 0 _ rfl
  have y1 := HB4.out.msg.2 1 _ rfl
  have y2 := HB4.out.msg.2 2 _ rfl
  have y3 := HB4.out.msg.2 3 _ rfl
  have y4 := HB4.out.msg.2 4 _ rfl
  have y5 := HB4.out.msg.2 5 _ rfl
  have y6 := HB4.out.msg.2 6 _ rfl
  have y7 := HB4.out.msg.2 7 _ rfl
  have y8 := HB4.out.msg.2 8 _ rfl
  have hl0 := HB4.out.rep.1
  have hl1 := HB4.out.msg.1
  go_wp2_with (rw [← hw5, ← hg0])
  try rw [← hw5]
  try rw [← hg0]
  clear hw5 hg0 hx5 hbx0
  clear x0 x1 x2 x3 x4 x5 x6 x7 y0 y1 y2 y3 y4 y5 y6 y7 y8 hl0 hl1
  refine (toMsg_any _ m1 w5 HB5.out.m hwn1).mono ?_
  rintro e w6 ⟨vx1, Fx1, rfl, hox1, _, _, hx6⟩
  obtain ⟨ax8, cx8, rfl, _⟩ := id (oMsg_good.read hox1)
  have HB6 := Hid.mk (HB5.out.under hx6)
  have hb6 := bthen hb5 hx6
  obtain ⟨g1, hg1⟩ : ∃ g, g = w6.heap.size := ⟨_, rfl⟩
  obtain ⟨w7, hw7⟩ : ∃ z, z = w6.alloc (.cells #[.int .i64 m1.fKind, .int .i64 m1.fFrom, .int .i64 m1.fTo, .int .i64 m1.fD.fR, .int .i64 m1.fD.fN, .int .i64 m1.fC.fKind, .string m1.fC.fKey, .string m1.fC.fVal, .slice ax8 m1.fDeps.length cx8] 87) := ⟨_, rfl⟩
  have hx7 : Below w6.heap.size w6 w7 := by rw [hw7]; exact (Below.refl _ _).alloc (Nat.le_refl _) _
  have hbx1 : Bx w7 g1 [.int .i64 m1.fKind, .int .i64 m1.fFrom, .int .i64 m1.fTo, .int .i64 m1.fD.fR, .int .i64 m1.fD.fN, .int .i64 m1.fC.fKind, .string m1.fC.fKey, .string m1.fC.fVal, .slice ax8 m1.fDeps.length cx8] := by rw [hw7, hg1]; exact Bx.new _ _ _
  have HR1 : Hid (∀ W, Below w7.heap.size w7 W → Bx W g1 [.int .i64 m1.fKind, .int .i64 m1.fFrom, .int .i64 m1.fTo, .int .i64 m1.fD.fR, .int .i64 m1.fD.fN, .int .i64 m1.fC.fKind, .string m1.fC.fKey, .string m1.fC.fVal, .slice ax8 m1.fDeps.length cx8] ∧ rMsg W.heap.size W [.int .i64 m1.fKind, .int .i64 m1.fFrom, .int .i64 m1.fTo, .int .i64 m1.fD.fR, .int .i64 m1.fD.fN, .int .i64 m1.fC.fKind, .string m1.fC.fKey, .string m1.fC.fVal, .slice ax8 m1.fDeps.length cx8] m1) := fun W hb => ⟨hbx1.under hb, rMsg_good.mono (rMsg_good.below (oMsg_good.read hox1) (bthen hx7 hb)) (bthen hx7 hb).size⟩
  have HR0' : Hid (∀ W, Below w7.heap.size w7 W → Bx W g0 [.int .i64 m0.fId, .int .i64 m0.fN, .int .i64 m0.fNext, .slice ax3 m0.fRecs.length cx3, .slice ax4 m0.fAcks.length cx4, .slice ax5 m0.fDone.length cx5, .slice ax6 m0.fMap.length cx6, .slice ax7 m0.fSaid.length cx7] ∧ rReplica W.heap.size W [.int .i64 m0.fId, .int .i64 m0.fN, .int .i64 m0.fNext, .slice ax3 m0.fRecs.length cx3, .slice ax4 m0.fAcks.length cx4, .slice ax5 m0.fDone.length cx5, .slice ax6 m0.fMap.length cx6, .slice ax7 m0.fSaid.length cx7] m0) := fun W hb => HR0.out W (bthen (bthen hx6 hx7) hb)
  have HB7 := Hid.mk (HB6.out.under hx7)
  have hb7 := bthen hb6 hx7
  have hbA := HR0'.out _ (Below.refl _ _)
  have hbB := HR1.out _ (Below.refl _ _)
  have p0 := hbA.1.2 0 _ rfl
  have p1 := hbA.1.2 1 _ rfl
  have p2 := hbA.1.2 2 _ rfl
  have p3 := hbA.1.2 3 _ rfl
  have p4 := hbA.1.2 4 _ rfl
  have p5 := hbA.1.2 5 _ rfl
  have p6 := hbA.1.2 6 _ rfl
  have p7 := hbA.1.2 7 _ rfl
  have q0 := hbB.1.2 0 _ rfl
  have q1 := hbB.1.2 1 _ rfl
  have q2 := hbB.1.2 2 _ rfl
  have q3 := hbB.1.2 3 _ rfl
  have q4 := hbB.1.2 4 _ rfl
  have q5 := hbB.1.2 5 _ rfl
  have q6 := hbB.1.2 6 _ rfl
  have q7 := hbB.1.2 7 _ rfl
  have q8 := hbB.1.2 8 _ rfl
  have hlA := hbA.1.1
  have hlB := hbB.1.1
  clear hox1 hx6 HR0
  rw [hw7] at p0 p1 p2 p3 p4 p5 p6 p7
  go_wp2_with fail
  rw [← hw7]
  try rw [← hg1]
  clear hw7 hg1 hx7 hbx1
  refine (implMsgOk_any _ m0 _ m1 w7 hbA.2 hbB.2 hwn0 hwn1).mono ?_
  rintro e w8 ⟨rfl, hx8⟩
  rw [← HV.out]
  have HB8 := Hid.mk (HB7.out.under hx8)
  have hb8 := bthen hb7 hx8
  clear hbA hbB hlA hlB p0 p1 p2 p3 p4 p5 p6 p7 q0 q1 q2 q3 q4 q5 q6 q7 q8
  go_wp2_with fail
  have HRa := fun W (h : Below w8.heap.size w8 W) => HR0'.out W (bthen hx8 h)
  have z0 : ∀ W, Below w8.heap.size w8 W → W.cell? ⟨g0, 0, none⟩ = some (.int .i64 m0.fId) := fun W h => (HRa W h).1.2 0 _ rfl
  have z1 : ∀ W, Below w8.heap.size w8 W → W.cell? ⟨g0, 1, none⟩ = some (.int .i64 m0.fN) := fun W h => (HRa W h).1.2 1 _ rfl
  have z2 : ∀ W, Below w8.heap.size w8 W → W.cell? ⟨g0, 2, none⟩ = some (.int .i64 m0.fNext) := fun W h => (HRa W h).1.2 2 _ rfl
  have z3 : ∀ W, Below w8.heap.size w8 W → W.cell? ⟨g0, 3, none⟩ = some (.slice ax3 m0.fRecs.length cx3) := fun W h => (HRa W h).1.2 3 _ rfl
  have z4 : ∀ W, Below w8.heap.size w8 W → W.cell? ⟨g0, 4, none⟩ = some (.slice ax4 m0.fAcks.length cx4) := fun W h => (HRa W h).1.2 4 _ rfl
  have z5 : ∀ W, Below w8.heap.size w8 W → W.cell? ⟨g0, 5, none⟩ = some (.slice ax5 m0.fDone.length cx5) := fun W h => (HRa W h).1.2 5 _ rfl
  have z6 : ∀ W, Below w8.heap.size w8 W → W.cell? ⟨g0, 6, none⟩ = some (.slice ax6 m0.fMap.length cx6) := fun W h => (HRa W h).1.2 6 _ rfl
  have z7 : ∀ W, Below w8.heap.size w8 W → W.cell? ⟨g0, 7, none⟩ = some (.slice ax7 m0.fSaid.length cx7) := fun W h => (HRa W h).1.2 7 _ rfl
  have f0 : ∀ W, Below w8.heap.size w8 W → W.cell? ⟨w.heap.size, 0, none⟩ = some (.int .i64 m0.fId) := fun W h => (HB8.out.under h).rep.2 0 _ rfl
  have f1 : ∀ W, Below w8.heap.size w8 W → W.cell? ⟨w.heap.size, 1, none⟩ = some (.int .i64 m0.fN) := fun W h => (HB8.out.under h).rep.2 1 _ rfl
  have f2 : ∀ W, Below w8.heap.size w8 W → W.cell? ⟨w.heap.size, 2, none⟩ = some (.int .i64 m0.fNext) := fun W h => (HB8.out.under h).rep.2 2 _ rfl
  have f3 : ∀ W, Below w8.heap.size w8 W → W.cell? ⟨w.heap.size, 3, none⟩ = some (.slice a3 m0.fRecs.length c3) := fun W h => (HB8.out.under h).rep.2 3 _ rfl
  have f4 : ∀ W, Below w8.heap.size w8 W → W.cell? ⟨w.heap.size, 4, none⟩ = some (.slice a4 m0.fAcks.length c4) := fun W h => (HB8.out.under h).rep.2 4 _ rfl
  have f5 : ∀ W, Below w8.heap.size w8 W → W.cell? ⟨w.heap.size, 5, none⟩ = some (.slice a5 m0.fDone.length c5) := fun W h => (HB8.out.under h).rep.2 5 _ rfl
  have f6 : ∀ W, Below w8.heap.size w8 W → W.cell? ⟨w.heap.size, 6, none⟩ = some (.slice a6 m0.fMap.length c6) := fun W h => (HB8.out.under h).rep.2 6 _ rfl
  have f7 : ∀ W, Below w8.heap.size w8 W → W.cell? ⟨w.heap.size, 7, none⟩ = some (.slice a7 m0.fSaid.length c7) := fun W h => (HB8.out.under h).rep.2 7 _ rfl
  refine wp_region_held_drew (S := fun W => Below w8.heap.size w8 W) (by kernel_rfl) (Below.drew (Below.refl _ _)) (fun hHeld => ?_)
  refine tk 0 q016_10_14_0 (some 35) (v := ?v4) rfl rfl (by kernel_rfl) hHeld (by rfl) (fun _ _ _ x => x) (fun w h => ?y4) ?_; (case y4 => (try dsimp only at h); go_simp; try (with_reducible rfl)); try simp only [Act.put, sa, s0, s1]
  refine tk 1 q016_10_14_1 (some 36) (v := ?v5) rfl rfl (by kernel_rfl) hHeld (by rfl) (fun _ _ _ x => x) (fun w h => ?y5) ?_; (case y5 => (try dsimp only at h); go_simp; try (with_reducible rfl)); try simp only [Act.put, sa, s0, s1]
  refine wpAnyH_ready (rs := [2]) (by kernel_rfl) (by simp) ?_
  refine AllReadyH.cons (o := q016_10_14_2) rfl (fun K hK => ?_) AllReadyH.nil
  go_simp
  refine Calls.mono (toReplica_any _ m0 _ (HB8.out.under hHeld).r hwn0) ?_
  rintro e u1 ⟨vt, Ft, rfl, hot, _, _, hy1⟩
  go_wp2_with fail
  refine hK.out _ _ (bthen hHeld hy1) (fun hHeld => ?_)
  clear hK K
  try simp only [Act.put, sa, s0, s1]
  refine wpAnyH_ready (rs := [3]) (by kernel_rfl) (by simp) ?_
  refine AllReadyH.cons (o := q016_10_14_3) rfl (fun K hK => ?_) AllReadyH.nil
  go_simp
  refine Calls.mono (eqReplica_yes _ _ m0 _ (HRa _ hHeld).2 (oReplica_good.read hot) hwb0) ?_
  rintro e u2 ⟨rfl, hy2⟩
  go_wp2_with fail
  refine hK.out _ _ (bthen hHeld hy2) (fun hHeld => ?_)
  clear hK K
  try simp only [Act.put, sa, s0, s1]
  refine tk 4 q016_10_14_4 (some 39) (v := ?v6) rfl rfl (by kernel_rfl) hHeld (by rfl) (fun _ _ _ x => x) (fun w h => ?y6) ?_; (case y6 => (try dsimp only at h); go_simp; try (with_reducible rfl)); try simp only [Act.put, sa, s0, s1]
  refine wpAnyH_done (by kernel_rfl) ?_ _
  clear z0 f0 z1 f1 z2 f2 z3 f3 z4 f4 z5 f5 z6 f6 z7 f7
  obtain ⟨w9, hw9⟩ : ∃ z, z = u2 := ⟨_, rfl⟩
  rw [← hw9] at hHeld ⊢
  have HB9 := Hid.mk (HB8.out.under hHeld)
  have hb9 := bthen hb8 hHeld
  have HRb := fun W (h : Below w9.heap.size w9 W) => HR1.out W (bthen hx8 (bthen hHeld h))
  clear hw9 hHeld hy1 hy2 hot HRa
  go_wp2_with fail
  have z0 : ∀ W, Below w9.heap.size w9 W → W.cell? ⟨g1, 0, none⟩ = some (.int .i64 m1.fKind) := fun W h => (HRb W h).1.2 0 _ rfl
  have z1 : ∀ W, Below w9.heap.size w9 W → W.cell? ⟨g1, 1, none⟩ = some (.int .i64 m1.fFrom) := fun W h => (HRb W h).1.2 1 _ rfl
  have z2 : ∀ W, Below w9.heap.size w9 W → W.cell? ⟨g1, 2, none⟩ = some (.int .i64 m1.fTo) := fun W h => (HRb W h).1.2 2 _ rfl
  have z3 : ∀ W, Below w9.heap.size w9 W → W.cell? ⟨g1, 3, none⟩ = some (.int .i64 m1.fD.fR) := fun W h => (HRb W h).1.2 3 _ rfl
  have z4 : ∀ W, Below w9.heap.size w9 W → W.cell? ⟨g1, 4, none⟩ = some (.int .i64 m1.fD.fN) := fun W h => (HRb W h).1.2 4 _ rfl
  have z5 : ∀ W, Below w9.heap.size w9 W → W.cell? ⟨g1, 5, none⟩ = some (.int .i64 m1.fC.fKind) := fun W h => (HRb W h).1.2 5 _ rfl
  have z6 : ∀ W, Below w9.heap.size w9 W → W.cell? ⟨g1, 6, none⟩ = some (.string m1.fC.fKey) := fun W h => (HRb W h).1.2 6 _ rfl
  have z7 : ∀ W, Below w9.heap.size w9 W → W.cell? ⟨g1, 7, none⟩ = some (.string m1.fC.fVal) := fun W h => (HRb W h).1.2 7 _ rfl
  have z8 : ∀ W, Below w9.heap.size w9 W → W.cell? ⟨g1, 8, none⟩ = some (.slice ax8 m1.fDeps.length cx8) := fun W h => (HRb W h).1.2 8 _ rfl
  have f0 : ∀ W, Below w9.heap.size w9 W → W.cell? ⟨w.heap.size + 1, 0, none⟩ = some (.int .i64 m1.fKind) := fun W h => (HB9.out.under h).msg.2 0 _ rfl
  have f1 : ∀ W, Below w9.heap.size w9 W → W.cell? ⟨w.heap.size + 1, 1, none⟩ = some (.int .i64 m1.fFrom) := fun W h => (HB9.out.under h).msg.2 1 _ rfl
  have f2 : ∀ W, Below w9.heap.size w9 W → W.cell? ⟨w.heap.size + 1, 2, none⟩ = some (.int .i64 m1.fTo) := fun W h => (HB9.out.under h).msg.2 2 _ rfl
  have f3 : ∀ W, Below w9.heap.size w9 W → W.cell? ⟨w.heap.size + 1, 3, none⟩ = some (.int .i64 m1.fD.fR) := fun W h => (HB9.out.under h).msg.2 3 _ rfl
  have f4 : ∀ W, Below w9.heap.size w9 W → W.cell? ⟨w.heap.size + 1, 4, none⟩ = some (.int .i64 m1.fD.fN) := fun W h => (HB9.out.under h).msg.2 4 _ rfl
  have f5 : ∀ W, Below w9.heap.size w9 W → W.cell? ⟨w.heap.size + 1, 5, none⟩ = some (.int .i64 m1.fC.fKind) := fun W h => (HB9.out.under h).msg.2 5 _ rfl
  have f6 : ∀ W, Below w9.heap.size w9 W → W.cell? ⟨w.heap.size + 1, 6, none⟩ = some (.string m1.fC.fKey) := fun W h => (HB9.out.under h).msg.2 6 _ rfl
  have f7 : ∀ W, Below w9.heap.size w9 W → W.cell? ⟨w.heap.size + 1, 7, none⟩ = some (.string m1.fC.fVal) := fun W h => (HB9.out.under h).msg.2 7 _ rfl
  have f8 : ∀ W, Below w9.heap.size w9 W → W.cell? ⟨w.heap.size + 1, 8, none⟩ = some (.slice a8 m1.fDeps.length c8) := fun W h => (HB9.out.under h).msg.2 8 _ rfl
  refine wp_region_held_drew (S := fun W => Below w9.heap.size w9 W) (by kernel_rfl) (Below.drew (Below.refl _ _)) (fun hHeld => ?_)
  refine tk 0 q016_10_16_0 (some 40) (v := ?v7) rfl rfl (by kernel_rfl) hHeld (by rfl) (fun _ _ _ x => x) (fun w h => ?y7) ?_; (case y7 => (try dsimp only at h); go_simp; try (with_reducible rfl)); try simp only [Act.put, sa, s0, s1]
  refine tk 1 q016_10_16_1 (some 41) (v := ?v8) rfl rfl (by kernel_rfl) hHeld (by rfl) (fun _ _ _ x => x) (fun w h => ?y8) ?_; (case y8 => (try dsimp only at h); go_simp; try (with_reducible rfl)); try simp only [Act.put, sa, s0, s1]
  refine wpAnyH_ready (rs := [2]) (by kernel_rfl) (by simp) ?_
  refine AllReadyH.cons (o := q016_10_16_2) rfl (fun K hK => ?_) AllReadyH.nil
  go_simp
  refine Calls.mono (toMsg_any _ m1 _ (HB9.out.under hHeld).m hwn1) ?_
  rintro e u1 ⟨vt, Ft, rfl, hot, _, _, hy1⟩
  go_wp2_with fail
  refine hK.out _ _ (bthen hHeld hy1) (fun hHeld => ?_)
  clear hK K
  try simp only [Act.put, sa, s0, s1]
  refine wpAnyH_ready (rs := [3]) (by kernel_rfl) (by simp) ?_
  refine AllReadyH.cons (o := q016_10_16_3) rfl (fun K hK => ?_) AllReadyH.nil
  go_simp
  refine Calls.mono (eqMsg_yes _ _ m1 _ (HRb _ hHeld).2 (oMsg_good.read hot) hwb1) ?_
  rintro e u2 ⟨rfl, hy2⟩
  go_wp2_with fail
  refine hK.out _ _ (bthen hHeld hy2) (fun hHeld => ?_)
  clear hK K
  try simp only [Act.put, sa, s0, s1]
  refine tk 4 q016_10_16_4 (some 44) (v := ?v9) rfl rfl (by kernel_rfl) hHeld (by rfl) (fun _ _ _ x => x) (fun w h => ?y9) ?_; (case y9 => (try dsimp only at h); go_simp; try (with_reducible rfl)); try simp only [Act.put, sa, s0, s1]
  refine wpAnyH_done (by kernel_rfl) ?_ _
  clear z0 f0 z1 f1 z2 f2 z3 f3 z4 f4 z5 f5 z6 f6 z7 f7 z8 f8
  go_wp2_with fail
  go_ret
  exact ⟨rfl, bthen hb9 hHeld⟩

end Go.Proofs.Ytnomigomjhhccaa
