/-
  Dots: whether one is right, which one is less: what both sides say.
-/
import Derived.Test.YtmigamgcmhdncaaDoorRegK
import Derived.Test.YtmigamgcmhdncaaDoorGDatZ
import Derived.Test.YtmigamgcmhdncaaDoorInR
import Derived.Deep.RegionWith
namespace Go.Proofs.YtmigamgcmhdncaaDoor
open Go.RowKit
set_option linter.unusedVariables false
set_option linter.unusedSimpArgs false
set_option maxRecDepth 10000
abbrev q402_40_1_0 : Oper := ⟨some 5, .fieldAddr 40 (.tmp 2) 0, 0, "l08_graph.go:51", #[], none⟩
abbrev q402_40_1_1 : Oper := ⟨some 6, .load 3 (.tmp 5), 3, "l08_graph.go:51", #[⟨0, .data⟩], none⟩
abbrev q402_40_1_2 : Oper := ⟨some 7, .fieldAddr 40 (.tmp 3) 0, 0, "l08_graph.go:51", #[], none⟩
abbrev q402_40_1_3 : Oper := ⟨some 8, .load 3 (.tmp 7), 3, "l08_graph.go:51", #[⟨2, .data⟩], none⟩
abbrev q402_40_1_5 : Oper := ⟨some 10, .fieldAddr 40 (.tmp 2) 1, 0, "l08_graph.go:51", #[], none⟩
abbrev q402_40_1_6 : Oper := ⟨some 11, .load 3 (.tmp 10), 3, "l08_graph.go:51", #[⟨5, .data⟩], none⟩
abbrev q402_40_1_7 : Oper := ⟨some 12, .fieldAddr 40 (.tmp 3) 1, 0, "l08_graph.go:51", #[], none⟩
abbrev q402_40_1_8 : Oper := ⟨some 13, .load 3 (.tmp 12), 3, "l08_graph.go:51", #[⟨7, .data⟩], none⟩
abbrev q402_40_1_4 : Oper := ⟨some 9, .call { callee := .value (.func 72), args := #[.tmp 6, .tmp 8], argTypes := #[3, 3] }, 3, "l08_graph.go:51", #[⟨1, .data⟩, ⟨3, .data⟩], none⟩
abbrev q402_40_1_9 : Oper := ⟨some 14, .call { callee := .value (.func 72), args := #[.tmp 11, .tmp 13], argTypes := #[3, 3] }, 3, "l08_graph.go:51", #[⟨6, .data⟩, ⟨8, .data⟩, ⟨4, .chain⟩], none⟩
abbrev q402_40_1_10 : Oper := ⟨some 15, .buildSlice 117 2 #[(0, .tmp 9), (1, .tmp 14)], 117, "l08_graph.go:51", #[⟨4, .data⟩, ⟨9, .data⟩], none⟩
abbrev q402_40_1_11 : Oper := ⟨some 16, .call { callee := .value (.func 71), args := #[.tmp 15], argTypes := #[117] }, 3, "l08_graph.go:51", #[⟨10, .data⟩, ⟨9, .chain⟩], none⟩
abbrev q402_40_1_12 : Oper := ⟨some 4, .assign (.tmp 16), 3, "l08_graph.go:51", #[⟨11, .data⟩, ⟨11, .chain⟩, ⟨0, .phase⟩, ⟨1, .phase⟩, ⟨2, .phase⟩, ⟨3, .phase⟩, ⟨4, .phase⟩, ⟨5, .phase⟩, ⟨6, .phase⟩, ⟨7, .phase⟩, ⟨8, .phase⟩, ⟨9, .phase⟩, ⟨10, .phase⟩, ⟨11, .phase⟩], none⟩

def dotOkP (m : MDot) : Bool := inRange m.fR 1 7 && inRange m.fN 1 999
def ordI (a b : Int) : Int := if a < b then -1 else if b < a then 1 else 0
def orI (x y : Int) : Int := if x ≠ 0 then x else y
def ordD (a b : MDot) : Int := orI (ordI a.fR b.fR) (ordI a.fN b.fN)
theorem orI_wf {x y : Int} (hx : (Lit.int .i64 x).wf = true) (hy : (Lit.int .i64 y).wf = true) : (Lit.int .i64 (orI x y)).wf = true := by unfold orI; split <;> assumption
def dotLt (a b : MDot) : Bool := decide (a.fR < b.fR ∨ (a.fR = b.fR ∧ a.fN < b.fN))
theorem ordI_lt {a b : Int} (h : a < b) : ordI a b = -1 := by unfold ordI; rw [if_pos h]
theorem ordI_gt {a b : Int} (h : b < a) : ordI a b = 1 := by unfold ordI; rw [if_neg (by omega), if_pos h]
theorem ordI_eq {a b : Int} (h : a = b) : ordI a b = 0 := by unfold ordI; rw [if_neg (by omega), if_neg (by omega)]
theorem ordI_wf (a b : Int) : (Lit.int .i64 (ordI a b)).wf = true := by unfold ordI; split; rfl; split <;> rfl
theorem ordD_wf (a b : MDot) : (Lit.int .i64 (ordD a b)).wf = true := by exact orI_wf (ordI_wf _ _) (ordI_wf _ _)
theorem ordD_lt (a b : MDot) : (ordD a b < 0) ↔ dotLt a b = true := by
  unfold ordD dotLt orI
  rcases Int.lt_trichotomy a.fR b.fR with h | h | h
  · rw [ordI_lt h]; simp [h]
  · rw [ordI_eq h]
    rcases Int.lt_trichotomy a.fN b.fN with g | g | g
    · rw [ordI_lt g]; simp [h, g]
    · rw [ordI_eq g]; simp [h, g]
    · rw [ordI_gt g]; simp [h]; omega
  · rw [ordI_gt h]; simp; omega

set_option maxHeartbeats 400000 in
theorem isNaN_any (x : Int) (w : World) :
    Calls Tryd.prog 102 #[.int .i64 x] w fun e w' => e = .returned (.bool false) ∧ w' = w := by
  go_enter Tryd.func102, Tryd.ntmps102
  go_wp2
  go_ret
  exact ⟨rfl, rfl⟩

set_option maxHeartbeats 1000000 in
theorem cmpI_any (x y : Int) (w : World) :
    Calls Tryd.prog 72 #[.int .i64 x, .int .i64 y] w fun e w' => e = .returned (.int .i64 (ordI x y)) ∧ w' = w := by
  rcases Int.lt_trichotomy x y with h | h | h
  · have HV := Hid.mk (ordI_lt h)
    go_enter Tryd.func72, Tryd.ntmps72
    go_wp2_with fail
    refine (isNaN_any x w).mono ?_
    rintro e w1 ⟨rfl, rfl⟩
    go_wp2_with fail
    refine (isNaN_any y w1).mono ?_
    rintro e w2 ⟨rfl, rfl⟩
    go_wp2_with fail
    go_ret
    exact ⟨by rw [HV.out]; rfl, rfl⟩
  · have HV := Hid.mk (ordI_eq h)
    have h1 : ¬ x < y := by omega
    have h2 : ¬ y < x := by omega
    clear h
    go_enter Tryd.func72, Tryd.ntmps72
    go_wp2_with fail
    refine (isNaN_any x w).mono ?_
    rintro e w1 ⟨rfl, rfl⟩
    go_wp2_with fail
    refine (isNaN_any y w1).mono ?_
    rintro e w2 ⟨rfl, rfl⟩
    go_wp2_with fail
    go_ret
    exact ⟨by rw [HV.out]; rfl, rfl⟩
  · have HV := Hid.mk (ordI_gt h)
    have h1 : ¬ x < y := by omega
    go_enter Tryd.func72, Tryd.ntmps72
    go_wp2_with fail
    refine (isNaN_any x w).mono ?_
    rintro e w1 ⟨rfl, rfl⟩
    go_wp2_with fail
    refine (isNaN_any y w1).mono ?_
    rintro e w2 ⟨rfl, rfl⟩
    go_wp2_with fail
    go_ret
    exact ⟨by rw [HV.out]; rfl, rfl⟩

set_option maxHeartbeats 1000000 in
theorem cmpOr_any (x y : Int) (b : Nat) (w : World) (hx : (Lit.int .i64 x).wf = true) (hy : (Lit.int .i64 y).wf = true) (k0 : w.cell? ⟨b, 0, none⟩ = some (.int .i64 x)) (k1 : w.cell? ⟨b, 1, none⟩ = some (.int .i64 y)) :
    Calls Tryd.prog 71 #[.slice (some ⟨b, 0, none⟩) 2 2] w fun e w' => e = .returned (.int .i64 (orI x y)) ∧ w' = w := by
  have HV : Hid (∀ z, (x ≠ 0 → z = x) → (x = 0 → z = y) → z = orI x y) := fun z h1 h2 => by
    unfold orI
    by_cases h : x = 0
    · rw [if_neg (fun g => g h)]; exact h2 h
    · rw [if_pos h]; exact h1 h
  generalize orI x y = r at *
  go_enter Tryd.func71, Tryd.ntmps71
  go_wp2_with fail
  go_loopw [8] (fun i wr => ∃ k : Nat, k ≤ 2 ∧ i = .int .i64 k ∧ (1 ≤ k → x = 0) ∧ (2 ≤ k → y = 0) ∧ wr = w) (fun i _ => 2 - (intOf i).toNat)
  case atStart => exact ⟨0, by omega, rfl, by omega, by omega, rfl⟩
  case round =>
    obtain ⟨k, hk, rfl, h1, h2, rfl⟩ := hrel
    rcases (by omega : k = 0 ∨ k = 1 ∨ k = 2) with rfl | rfl | rfl
    · by_cases hz : x = 0
      · subst hz
        go_wp2_with fail
        go_roundw
        case rel => exact ⟨1, by omega, by go_num, fun _ => by trivial, by omega, by trivial⟩
        case measure => simp [intOf]
      · have HR := Hid.mk (HV.out x (fun _ => rfl) (fun g => absurd g hz))
        go_wp2_with fail
        go_ret
        exact ⟨by rw [← HR.out]; rfl, rfl⟩
    · have hx0 := h1 (Nat.le_refl _)
      subst hx0
      by_cases hz : y = 0
      · subst hz
        go_wp2_with fail
        go_roundw
        case rel => exact ⟨2, by omega, by go_num, fun _ => by trivial, fun _ => by trivial, by trivial⟩
        case measure => simp [intOf]
      · have HR := Hid.mk (HV.out y (fun g => absurd rfl g) (fun _ => rfl))
        go_wp2_with fail
        go_ret
        exact ⟨by rw [← HR.out]; rfl, rfl⟩
    · have hx0 := h1 (by omega)
      have hy0 := h2 (Nat.le_refl _)
      subst hx0 hy0
      have HR := Hid.mk (HV.out 0 (fun _ => rfl) (fun _ => rfl))
      go_wp2_with fail
      go_ret
      exact ⟨by rw [← HR.out]; rfl, rfl⟩

set_option maxHeartbeats 1000000 in
theorem dotOrder_any (cs ds : List Value) (a b : MDot) (w : World) (hra : rDot w.heap.size w cs a) (hrb : rDot w.heap.size w ds b) :
    Calls Tryd.prog 40 #[.agg cs.toArray, .agg ds.toArray] w fun e w' => e = .returned (.int .i64 (ordD a b)) ∧ Below w.heap.size w w' := by
  obtain ⟨rfl, ha0, ha1, _⟩ := hra
  obtain ⟨rfl, hb0, hb1, _⟩ := hrb
  have HV : Hid (ordD a b = orI (ordI a.fR b.fR) (ordI a.fN b.fN)) := rfl
  go_enter Tryd.func40, Tryd.ntmps40
  go_wp2_with fail
  obtain ⟨wq, hwq⟩ : ∃ wq, wq = (w.alloc (.cells #[.int .i64 a.fR, .int .i64 a.fN] 40)).alloc (.cells #[.int .i64 b.fR, .int .i64 b.fN] 40) := ⟨_, rfl⟩
  have hbW : Below w.heap.size w wq := by rw [hwq]; exact ((Below.refl _ _).alloc (Nat.le_refl _) _).alloc (by simp) _
  have hbx1 : Bx wq w.heap.size [.int .i64 a.fR, .int .i64 a.fN] := by rw [hwq]; exact (Bx.new _ _ _).under ((Below.refl _ _).alloc (Nat.le_refl _) _)
  have hbx2 : Bx wq (w.heap.size + 1) [.int .i64 b.fR, .int .i64 b.fN] := by rw [hwq]; have h := Bx.new (w.alloc (.cells #[.int .i64 a.fR, .int .i64 a.fN] 40)) [.int .i64 b.fR, .int .i64 b.fN] 40; simpa using h
  rw [← hwq]
  clear hwq
  have y0 : ∀ W, Below wq.heap.size wq W → W.cell? ⟨w.heap.size, 0, none⟩ = some (.int .i64 a.fR) := fun W h => (hbx1.under h).2 0 _ rfl
  have y1 : ∀ W, Below wq.heap.size wq W → W.cell? ⟨w.heap.size, 1, none⟩ = some (.int .i64 a.fN) := fun W h => (hbx1.under h).2 1 _ rfl
  have z0 : ∀ W, Below wq.heap.size wq W → W.cell? ⟨w.heap.size + 1, 0, none⟩ = some (.int .i64 b.fR) := fun W h => (hbx2.under h).2 0 _ rfl
  have z1 : ∀ W, Below wq.heap.size wq W → W.cell? ⟨w.heap.size + 1, 1, none⟩ = some (.int .i64 b.fN) := fun W h => (hbx2.under h).2 1 _ rfl
  refine wp_region_held_drew (S := fun W => Below wq.heap.size wq W) (by kernel_rfl) (Below.drew (Below.refl _ _)) (fun hHeld => ?_)
  refine tk 0 q402_40_1_0 (some 5) (v := ?v1) rfl rfl (by kernel_rfl) hHeld (by rfl) (fun _ _ _ x => x) (fun w h => ?y1) ?_; (case y1 => (try dsimp only at h); go_simp; try (with_reducible rfl)); try simp only [Act.put, sa, s0, s1]
  refine tk 1 q402_40_1_1 (some 6) (v := ?v2) rfl rfl (by kernel_rfl) hHeld (by rfl) (fun _ _ _ x => x) (fun w h => ?y2) ?_; (case y2 => (try dsimp only at h); go_simp; try (with_reducible rfl)); try simp only [Act.put, sa, s0, s1]
  refine tk 2 q402_40_1_2 (some 7) (v := ?v3) rfl rfl (by kernel_rfl) hHeld (by rfl) (fun _ _ _ x => x) (fun w h => ?y3) ?_; (case y3 => (try dsimp only at h); go_simp; try (with_reducible rfl)); try simp only [Act.put, sa, s0, s1]
  refine tk 3 q402_40_1_3 (some 8) (v := ?v4) rfl rfl (by kernel_rfl) hHeld (by rfl) (fun _ _ _ x => x) (fun w h => ?y4) ?_; (case y4 => (try dsimp only at h); go_simp; try (with_reducible rfl)); try simp only [Act.put, sa, s0, s1]
  refine tk 5 q402_40_1_5 (some 10) (v := ?v5) rfl rfl (by kernel_rfl) hHeld (by rfl) (fun _ _ _ x => x) (fun w h => ?y5) ?_; (case y5 => (try dsimp only at h); go_simp; try (with_reducible rfl)); try simp only [Act.put, sa, s0, s1]
  refine tk 6 q402_40_1_6 (some 11) (v := ?v6) rfl rfl (by kernel_rfl) hHeld (by rfl) (fun _ _ _ x => x) (fun w h => ?y6) ?_; (case y6 => (try dsimp only at h); go_simp; try (with_reducible rfl)); try simp only [Act.put, sa, s0, s1]
  refine tk 7 q402_40_1_7 (some 12) (v := ?v7) rfl rfl (by kernel_rfl) hHeld (by rfl) (fun _ _ _ x => x) (fun w h => ?y7) ?_; (case y7 => (try dsimp only at h); go_simp; try (with_reducible rfl)); try simp only [Act.put, sa, s0, s1]
  refine tk 8 q402_40_1_8 (some 13) (v := ?v8) rfl rfl (by kernel_rfl) hHeld (by rfl) (fun _ _ _ x => x) (fun w h => ?y8) ?_; (case y8 => (try dsimp only at h); go_simp; try (with_reducible rfl)); try simp only [Act.put, sa, s0, s1]
  refine wpAnyH_ready (rs := [4]) (by kernel_rfl) (by simp) ?_
  refine AllReadyH.cons (o := q402_40_1_4) rfl (fun K hK => ?_) AllReadyH.nil
  go_simp
  refine Calls.mono (cmpI_any _ _ _) ?_
  rintro e w1 ⟨rfl, hw1⟩
  have hx1 := below_same hw1
  clear hw1
  go_wp2_with fail
  refine hK.out _ _ (bthen hHeld hx1) (fun hHeld => ?_)
  clear hK K
  try simp only [Act.put, sa, s0, s1]
  refine wpAnyH_ready (rs := [9]) (by kernel_rfl) (by simp) ?_
  refine AllReadyH.cons (o := q402_40_1_9) rfl (fun K hK => ?_) AllReadyH.nil
  go_simp
  refine Calls.mono (cmpI_any _ _ _) ?_
  rintro e w2 ⟨rfl, hw2⟩
  have hx2 := below_same hw2
  clear hw2
  go_wp2_with fail
  refine hK.out _ _ (bthen hHeld hx2) (fun hHeld => ?_)
  clear hK K
  try simp only [Act.put, sa, s0, s1]
  refine wpAnyH_ready (rs := [10]) (by kernel_rfl) (by simp) ?_
  refine AllReadyH.cons (o := q402_40_1_10) rfl (fun K hK => ?_) AllReadyH.nil
  go_simp
  obtain ⟨w5, hq5⟩ : ∃ x, x = w2.alloc (.cells (List.toArray [Value.int .i64 (ordI a.fR b.fR), Value.int .i64 (ordI a.fN b.fN)]) 3) := ⟨_, rfl⟩
  have hx3 : Below w2.heap.size w2 w5 := by rw [hq5]; exact (Below.refl _ _).alloc (Nat.le_refl _) _
  have HB5 : Hid (Bx w5 w2.heap.size [.int .i64 (ordI a.fR b.fR), .int .i64 (ordI a.fN b.fN)]) := by unfold Hid; rw [hq5]; exact Bx.new _ _ _
  rw [← hq5]
  clear hq5
  refine hK.out _ _ (bthen hHeld hx3) (fun hHeld => ?_)
  clear hK K
  try simp only [Act.put, sa, s0, s1]
  refine wpAnyH_ready (rs := [11]) (by kernel_rfl) (by simp) ?_
  refine AllReadyH.cons (o := q402_40_1_11) rfl (fun K hK => ?_) AllReadyH.nil
  go_simp
  refine Calls.mono (cmpOr_any (ordI a.fR b.fR) (ordI a.fN b.fN) w2.heap.size _ (ordI_wf _ _) (ordI_wf _ _) (HB5.out.2 0 _ rfl) (HB5.out.2 1 _ rfl)) ?_
  rintro e w4 ⟨rfl, hw4⟩
  have hx4 := below_same hw4
  clear hw4
  rw [← HV.out]
  go_wp2_with fail
  refine hK.out _ _ (bthen hHeld hx4) (fun hHeld => ?_)
  clear hK K
  try simp only [Act.put, sa, s0, s1]
  refine tk 12 q402_40_1_12 (some 4) (v := ?v9) rfl rfl (by kernel_rfl) hHeld (by rfl) (fun _ _ _ x => x) (fun w h => ?y9) ?_; (case y9 => (try dsimp only at h); go_simp; try (with_reducible rfl)); try simp only [Act.put, sa, s0, s1]
  refine wpAnyH_done (by kernel_rfl) ?_ _
  have hb4 := bthen hbW hHeld
  go_wp2_with fail
  go_ret
  exact ⟨rfl, hb4⟩

set_option maxHeartbeats 1000000 in
theorem implDotLess_any (cs ds : List Value) (a b : MDot) (w : World) (hra : rDot w.heap.size w cs a) (hrb : rDot w.heap.size w ds b) :
    Calls Tryd.prog 27 #[.agg cs.toArray, .agg ds.toArray] w fun e w' => e = .returned (.bool (dotLt a b)) ∧ Below w.heap.size w w' := by
  obtain ⟨rfl, ha0, ha1, _⟩ := hra
  obtain ⟨rfl, hb0, hb1, _⟩ := hrb
  have HV : Hid (decide (ordD a b < 0) = dotLt a b) := by
    show _ = _
    by_cases h : dotLt a b = true
    · rw [h]; exact decide_eq_true ((ordD_lt a b).2 h)
    · rw [Bool.eq_false_iff.2 h]; exact decide_eq_false (fun g => h ((ordD_lt a b).1 g))
  go_enter Tryd.func27, Tryd.ntmps27
  go_wp2_with fail
  obtain ⟨wq, hwq⟩ : ∃ wq, wq = (w.alloc (.cells #[.int .i64 a.fR, .int .i64 a.fN] 40)).alloc (.cells #[.int .i64 b.fR, .int .i64 b.fN] 40) := ⟨_, rfl⟩
  have hbW : Below w.heap.size w wq := by rw [hwq]; exact ((Below.refl _ _).alloc (Nat.le_refl _) _).alloc (by simp) _
  rw [← hwq]
  clear hwq
  refine (dotOrder_any [.int .i64 a.fR, .int .i64 a.fN] [.int .i64 b.fR, .int .i64 b.fN] a b wq ⟨rfl, ha0, ha1, trivial⟩ ⟨rfl, hb0, hb1, trivial⟩).mono ?_
  rintro e w1 ⟨rfl, hx1⟩
  have hb1 := bthen hbW hx1
  generalize ordD a b = z at *
  go_wp2_with fail
  go_ret
  exact ⟨by rw [← HV.out]; rfl, hb1⟩

set_option maxHeartbeats 1000000 in
theorem specDotLess_any (cs ds : List Value) (a b : MDot) (w : World) (hra : rDot w.heap.size w cs a) (hrb : rDot w.heap.size w ds b) :
    Calls Tryd.prog 63 #[.agg cs.toArray, .agg ds.toArray] w fun e w' => e = .returned (.bool (dotLt a b)) ∧ Below w.heap.size w w' := by
  obtain ⟨rfl, ha0, ha1, _⟩ := hra
  obtain ⟨rfl, hb0, hb1, _⟩ := hrb
  have hbA : ∀ o1 o2, Below w.heap.size w ((w.alloc o1).alloc o2) := fun o1 o2 => ((Below.refl _ _).alloc (Nat.le_refl _) o1).alloc (by simp) o2
  have HV : Hid (dotLt a b = (decide (a.fR < b.fR) || (decide (a.fR = b.fR) && decide (a.fN < b.fN)))) := by
    show _ = _
    unfold dotLt
    by_cases h1 : a.fR < b.fR <;> by_cases h2 : a.fR = b.fR <;> by_cases h3 : a.fN < b.fN <;> simp [h1, h2, h3]
  by_cases h1 : a.fR < b.fR
  · have HW : Hid (dotLt a b = true) := by show _ = _; rw [HV.out, decide_eq_true h1]; rfl
    go_enter Tryd.func63, Tryd.ntmps63
    go_wp2_with fail
    go_ret
    exact ⟨by rw [HW.out]; rfl, hbA _ _⟩
  · by_cases h2 : a.fR = b.fR
    · by_cases h3 : a.fN < b.fN
      · have HW : Hid (dotLt a b = true) := by show _ = _; rw [HV.out, decide_eq_false h1, decide_eq_true h2, decide_eq_true h3]; rfl
        go_enter Tryd.func63, Tryd.ntmps63
        go_wp2_with fail
        go_ret
        exact ⟨by rw [HW.out]; rfl, hbA _ _⟩
      · have HW : Hid (dotLt a b = false) := by show _ = _; rw [HV.out, decide_eq_false h1, decide_eq_true h2, decide_eq_false h3]; rfl
        go_enter Tryd.func63, Tryd.ntmps63
        go_wp2_with fail
        go_ret
        exact ⟨by rw [HW.out]; rfl, hbA _ _⟩
    · have HW : Hid (dotLt a b = false) := by show _ = _; rw [HV.out, decide_eq_false h1, decide_eq_false h2]; rfl
      go_enter Tryd.func63, Tryd.ntmps63
      go_wp2_with fail
      go_ret
      exact ⟨by rw [HW.out]; rfl, hbA _ _⟩

set_option maxHeartbeats 1000000 in
theorem specDotOk_any (cs : List Value) (a : MDot) (w : World) (hra : rDot w.heap.size w cs a) :
    Calls Tryd.prog 87 #[.agg cs.toArray] w fun e w' => e = .returned (.bool (dotOkP a)) ∧ Below w.heap.size w w' := by
  obtain ⟨rfl, ha0, ha1, _⟩ := hra
  have hbA : ∀ o1, Below w.heap.size w (w.alloc o1) := fun o1 => (Below.refl _ _).alloc (Nat.le_refl _) o1
  have HV : Hid (dotOkP a = (inRange a.fR 1 7 && inRange a.fN 1 999)) := rfl
  go_enter Tryd.func87, Tryd.ntmps87
  go_wp2_with fail
  refine (l1In_any _ _ _ _).mono ?_
  rintro e w1 ⟨rfl, hw1⟩
  cases h1 : inRange a.fR 1 7
  · have HW : Hid (dotOkP a = false) := by show _ = _; rw [HV.out, h1]; rfl
    subst hw1
    go_wp2_with fail
    go_ret
    exact ⟨by rw [HW.out]; rfl, hbA _⟩
  · have HW : Hid (dotOkP a = inRange a.fN 1 999) := by show _ = _; rw [HV.out, h1]; rfl
    subst hw1
    go_wp2_with fail
    refine (l1In_any _ _ _ _).mono ?_
    rintro e w2 ⟨rfl, hw2⟩
    subst hw2
    rw [← HW.out]
    go_wp2_with fail
    go_ret
    exact ⟨rfl, hbA _⟩

set_option maxHeartbeats 1000000 in
theorem implDotOk_any (cs : List Value) (a : MDot) (w : World) (hra : rDot w.heap.size w cs a) :
    Calls Tryd.prog 80 #[.agg cs.toArray] w fun e w' => e = .returned (.bool (dotOkP a)) ∧ Below w.heap.size w w' := by
  obtain ⟨rfl, ha0, ha1, _⟩ := hra
  have hbA : ∀ o1, Below w.heap.size w (w.alloc o1) := fun o1 => (Below.refl _ _).alloc (Nat.le_refl _) o1
  have HV : Hid (dotOkP a = (decide (1 ≤ a.fR) && decide (a.fR ≤ 7) && decide (1 ≤ a.fN) && decide (a.fN ≤ 999))) := by
    show _ = _
    unfold dotOkP inRange
    by_cases h1 : 1 ≤ a.fR <;> by_cases h2 : a.fR ≤ 7 <;> by_cases h3 : 1 ≤ a.fN <;> by_cases h4 : a.fN ≤ 999 <;> simp [h1, h2, h3, h4]
  by_cases h1 : 1 ≤ a.fR
  · by_cases h2 : a.fR ≤ 7
    · by_cases h3 : 1 ≤ a.fN
      · by_cases h4 : a.fN ≤ 999
        · have HW : Hid (dotOkP a = true) := by show _ = _; rw [HV.out, decide_eq_true h1, decide_eq_true h2, decide_eq_true h3, decide_eq_true h4]; rfl
          go_enter Tryd.func80, Tryd.ntmps80
          go_wp2_with fail
          go_ret
          exact ⟨by rw [HW.out]; rfl, hbA _⟩
        · have HW : Hid (dotOkP a = false) := by show _ = _; rw [HV.out, decide_eq_false h4, Bool.and_false]
          go_enter Tryd.func80, Tryd.ntmps80
          go_wp2_with fail
          go_ret
          exact ⟨by rw [HW.out]; rfl, hbA _⟩
      · have HW : Hid (dotOkP a = false) := by show _ = _; rw [HV.out, decide_eq_false h3, Bool.and_false]; rfl
        go_enter Tryd.func80, Tryd.ntmps80
        go_wp2_with fail
        go_ret
        exact ⟨by rw [HW.out]; rfl, hbA _⟩
    · have HW : Hid (dotOkP a = false) := by show _ = _; rw [HV.out, decide_eq_false h2, Bool.and_false]; rfl
      go_enter Tryd.func80, Tryd.ntmps80
      go_wp2_with fail
      go_ret
      exact ⟨by rw [HW.out]; rfl, hbA _⟩
  · have HW : Hid (dotOkP a = false) := by show _ = _; rw [HV.out, decide_eq_false h1]; rfl
    go_enter Tryd.func80, Tryd.ntmps80
    go_wp2_with fail
    go_ret
    exact ⟨by rw [HW.out]; rfl, hbA _⟩

end Go.Proofs.YtmigamgcmhdncaaDoor
