/-
  Part 28 of the texts that the proof leans on.
-/
import Derived.Test.YtddejboifpepcaaGreatDoorInp1
import Derived.Test.YtddejboifpepcaaGreatDoorInp2
import Derived.Test.YtddejboifpepcaaGreatDoorInp3
import Derived.Test.YtddejboifpepcaaGreatDoorInp15
import Derived.Test.YtddejboifpepcaaGreatDoorInp25
set_option linter.unusedVariables false
set_option linter.unusedSimpArgs false
set_option maxRecDepth 10000

namespace Go.Proofs.YtddejboifpepcaaGreatDoor
open Go.RowKit
theorem uqq {P : Program} {md : Region.Mode} {ops : Array Oper} {Q : Exit → Act → World → Prop} {S : World → Prop} (i : Nat) (oi : Oper) (t : Tmp) {v : Value} {fuel : Nat} {listed : Array Bool} {a b : Act} {w : World} (hS : S w)
 (h : wpAnyH P md ops Q S fuel (listed.setIfInBounds i true) b w) (hi : ops[i]? = some oi := by rfl) (hd : oi.dst = some t := by rfl)
 (hc : (Region.noSelect ops && (Region.free md ops listed i && (Region.ready md ops listed).contains i)) = true := by kernel_rfl) (hw : Region.wanted oi (yielded ops a.tmps) = true := by rfl)
 (hy : ∀ w, S w → (execOp a.eval oi).run P w = .ok (.value v) w := by intro w h; (try dsimp only at h); go_simp; try (with_reducible rfl))
 (hb : a.put (some t) v = b := by first | (simp only [Act.put, sa, s0, s1]; done) | (simp only [Act.put, sa, s0, s1]; rfl) | rfl)
 (hQ : ∀ c a w, Q (.panic c) (a.put (some t) v) w → Q (.panic c) a w := by first | exact fun _ _ _ x => x | (intro _ _ _ h; exfalso; solve_by_elim)) : wpAnyH P md ops Q S (fuel + 1) listed a w :=
 tk i oi (some t) hi hd hc hS hw hQ hy (hb ▸ h)
theorem tqq {P : Program} {md : Region.Mode} {ops : Array Oper} {Q : Exit → Act → World → Prop} {S : World → Prop} (i : Nat) (oi : Oper) (t : Tmp) {v : Value} {fuel : Nat} {listed : Array Bool} {a : Act} {w : World} (hS : S w)
 (h : wpAnyH P md ops Q S fuel (listed.setIfInBounds i true) (a.put (some t) v) w) (hi : ops[i]? = some oi := by rfl) (hd : oi.dst = some t := by rfl)
 (hc : (Region.noSelect ops && (Region.free md ops listed i && (Region.ready md ops listed).contains i)) = true := by kernel_rfl) (hw : Region.wanted oi (yielded ops a.tmps) = true := by rfl)
 (hy : ∀ w, S w → (execOp a.eval oi).run P w = .ok (.value v) w := by intro w h; (try dsimp only at h); go_simp; try (with_reducible rfl))
 (hQ : ∀ c a w, Q (.panic c) (a.put (some t) v) w → Q (.panic c) a w := by intro _ _ _ h; exfalso; solve_by_elim) : wpAnyH P md ops Q S (fuel + 1) listed a w :=
 tk i oi (some t) hi hd hc hS hw hQ hy h
theorem gbt {n : Nat} {w w1 : World} (h : Below n w w1 := by repeat (first | with_reducible exact Below.refl _ _ | with_reducible assumption | with_reducible refine Below.drew ?_ | with_reducible refine Below.alloc ?_ (by first | exact Nat.le_refl _ | (simp <;> omega)) _ | with_reducible refine Below.setCell ?_ (by simp) _)) : Below n w w1 := h
abbrev q38e_3_14_0 : Oper := ⟨some 54, .load 34 (.tmp 8), 34, "exact.go:3763", #[], none⟩
abbrev q38e_3_14_1 : Oper := ⟨some 55, .load 25 (.tmp 2), 25, "exact.go:3763", #[], none⟩
abbrev q38e_3_14_2 : Oper := ⟨some 56, .call { callee := .value (.func 8), args := #[.tmp 55], argTypes := #[25] }, 34, "exact.go:3763", #[⟨1, .data⟩], none⟩
abbrev q38e_3_14_3 : Oper := ⟨some 57, .call { callee := .value (.func 11), args := #[.tmp 54, .tmp 56], argTypes := #[34, 34] }, 4, "exact.go:3763", #[⟨0, .data⟩, ⟨2, .data⟩, ⟨2, .chain⟩], none⟩
abbrev q38e_3_14_4 : Oper := ⟨some 58, .unOp .not 4 (.tmp 57), 4, "exact.go:3763", #[⟨3, .data⟩], none⟩
abbrev q38e_3_16_0 : Oper := ⟨some 59, .load 40 (.tmp 9), 40, "exact.go:3766", #[], none⟩
abbrev q38e_3_16_1 : Oper := ⟨some 60, .load 28 (.tmp 3), 28, "exact.go:3766", #[], none⟩
abbrev q38e_3_16_2 : Oper := ⟨some 61, .call { callee := .value (.func 9), args := #[.tmp 60], argTypes := #[28] }, 40, "exact.go:3766", #[⟨1, .data⟩], none⟩
abbrev q38e_3_16_3 : Oper := ⟨some 62, .call { callee := .value (.func 12), args := #[.tmp 59, .tmp 61], argTypes := #[40, 40] }, 4, "exact.go:3766", #[⟨0, .data⟩, ⟨2, .data⟩, ⟨2, .chain⟩], none⟩
abbrev q38e_3_16_4 : Oper := ⟨some 63, .unOp .not 4 (.tmp 62), 4, "exact.go:3766", #[⟨3, .data⟩], none⟩
abbrev q38e_3_8_0 : Oper := ⟨some 28, .load 25 (.tmp 2), 25, "exact.go:3756", #[], none⟩
abbrev q38e_3_8_2 : Oper := ⟨some 30, .load 28 (.tmp 3), 28, "exact.go:3756", #[], none⟩
abbrev q38e_3_8_8 : Oper := ⟨some 6, .alloc 34, 0, "exact.go:3756", #[], none⟩
abbrev q38e_3_8_1 : Oper := ⟨some 29, .call { callee := .value (.func 8), args := #[.tmp 28], argTypes := #[25] }, 34, "exact.go:3756", #[⟨0, .data⟩], none⟩
abbrev q38e_3_8_3 : Oper := ⟨some 31, .call { callee := .value (.func 9), args := #[.tmp 30], argTypes := #[28] }, 40, "exact.go:3756", #[⟨2, .data⟩, ⟨1, .chain⟩], none⟩
abbrev q38e_3_8_4 : Oper := ⟨some 32, .call { callee := .value (.func 7), args := #[.tmp 29, .tmp 31], argTypes := #[34, 40] }, 35, "exact.go:3756", #[⟨1, .data⟩, ⟨3, .data⟩, ⟨3, .chain⟩], none⟩
abbrev q38e_3_8_5 : Oper := ⟨some 27, .move (.tmp 32), 35, "exact.go:3756", #[⟨4, .data⟩], none⟩
abbrev q38e_3_8_6 : Oper := ⟨some 33, .extract (.tmp 27) 0, 34, "exact.go:3756", #[⟨5, .data⟩], none⟩
abbrev q38e_3_8_7 : Oper := ⟨some 34, .extract (.tmp 27) 1, 3, "exact.go:3756", #[⟨5, .data⟩, { on := 9, ground := Ground.gcOnly Departure.lateStores }], none⟩
abbrev q38e_3_8_9 : Oper := ⟨none, .store 34 (.tmp 6) (.tmp 33), 0, "exact.go:3756", #[⟨8, .data⟩, ⟨6, .data⟩, ⟨4, .chain⟩, ⟨0, .phase⟩, ⟨1, .phase⟩, ⟨2, .phase⟩, ⟨3, .phase⟩, ⟨4, .phase⟩, ⟨5, .phase⟩, ⟨6, .phase⟩, { on := 7, ground := Ground.textOnly Departure.lateStores }, ⟨8, .phase⟩], none⟩
abbrev q38e_3_8_10 : Oper := ⟨some 7, .assign (.tmp 34), 3, "exact.go:3756", #[⟨7, .data⟩, ⟨9, .chain⟩, ⟨0, .phase⟩, ⟨1, .phase⟩, ⟨2, .phase⟩, ⟨3, .phase⟩, ⟨4, .phase⟩, ⟨5, .phase⟩, ⟨6, .phase⟩, ⟨7, .phase⟩, ⟨8, .phase⟩, ⟨9, .phase⟩], none⟩
abbrev q38e_3_31_0 : Oper := ⟨some 95, .load 25 (.tmp 2), 25, "exact.go:3785", #[], none⟩
abbrev q38e_3_31_2 : Oper := ⟨some 97, .load 28 (.tmp 3), 28, "exact.go:3785", #[], none⟩
abbrev q38e_3_31_8 : Oper := ⟨some 15, .alloc 34, 0, "exact.go:3785", #[], none⟩
abbrev q38e_3_31_1 : Oper := ⟨some 96, .call { callee := .value (.func 8), args := #[.tmp 95], argTypes := #[25] }, 34, "exact.go:3785", #[⟨0, .data⟩], none⟩
abbrev q38e_3_31_3 : Oper := ⟨some 98, .call { callee := .value (.func 9), args := #[.tmp 97], argTypes := #[28] }, 40, "exact.go:3785", #[⟨2, .data⟩, ⟨1, .chain⟩], none⟩
abbrev q38e_3_31_4 : Oper := ⟨some 99, .call { callee := .value (.func 10), args := #[.tmp 96, .tmp 98], argTypes := #[34, 40] }, 35, "exact.go:3785", #[⟨1, .data⟩, ⟨3, .data⟩, ⟨3, .chain⟩], none⟩
abbrev q38e_3_31_5 : Oper := ⟨some 94, .move (.tmp 99), 35, "exact.go:3785", #[⟨4, .data⟩], none⟩
abbrev q38e_3_31_6 : Oper := ⟨some 100, .extract (.tmp 94) 0, 34, "exact.go:3785", #[⟨5, .data⟩], none⟩
abbrev q38e_3_31_7 : Oper := ⟨some 101, .extract (.tmp 94) 1, 3, "exact.go:3785", #[⟨5, .data⟩, { on := 9, ground := Ground.gcOnly Departure.lateStores }], none⟩
abbrev q38e_3_31_9 : Oper := ⟨none, .store 34 (.tmp 15) (.tmp 100), 0, "exact.go:3785", #[⟨8, .data⟩, ⟨6, .data⟩, ⟨4, .chain⟩, ⟨0, .phase⟩, ⟨1, .phase⟩, ⟨2, .phase⟩, ⟨3, .phase⟩, ⟨4, .phase⟩, ⟨5, .phase⟩, ⟨6, .phase⟩, { on := 7, ground := Ground.textOnly Departure.lateStores }, ⟨8, .phase⟩], none⟩
abbrev q38e_3_31_10 : Oper := ⟨some 16, .assign (.tmp 101), 3, "exact.go:3785", #[⟨7, .data⟩, ⟨9, .chain⟩, ⟨0, .phase⟩, ⟨1, .phase⟩, ⟨2, .phase⟩, ⟨3, .phase⟩, ⟨4, .phase⟩, ⟨5, .phase⟩, ⟨6, .phase⟩, ⟨7, .phase⟩, ⟨8, .phase⟩, ⟨9, .phase⟩], none⟩
set_option maxHeartbeats 40000000 in
theorem law_FnExactInstall (cs0 : List Value) (m0 : MDisk) (cs1 : List Value) (m1 : MManifest) (w : World) (hr0 : rDisk w.heap.size w cs0 m0) (hr1 : rManifest w.heap.size w cs1 m1) (hT : Pow w) :
  Calls Tryz.prog 3 #[.agg cs0.toArray, .agg cs1.toArray] w fun e w' => e = .returned (.bool true) ∧ Below w.heap.size w w' := by
 have hq0 := hr0
 obtain ⟨a0_0, c0_0, a0_1, c0_1, a0_2, c0_2, rfl, _⟩ := hq0
 have hq1 := hr1
 obtain ⟨a1_2, c1_2, rfl, _⟩ := hq1
 go_enter Tryz.func3, Tryz.ntmps3
 have hC := fun (W : World) (hb : Below w.heap.size w W) => szDisk_any _ m0 (1048576) W (by omega) (by omega) (rDisk_good.mono (rDisk_good.below hr0 hb) hb.size)
 go_wp2_with fail
 refine Calls.mono (hC _ ?_) ?_
 ·exact gbt
 clear hC
 rintro e w1 ⟨rfl, hx1⟩
 have hZ1 : w.heap.size + 2 ≤ w1.heap.size := by have h := hx1.size; first | exact h | (simp at h; omega)
 have hG1 : Below w.heap.size w w1 := bthen (hx := hx1) (h := gbt)
 have hbxA0 : Bx w1 (w.heap.size) [.slice a0_0 m0.fInodes.length c0_0, .slice a0_1 m0.fNames.length c0_1, .slice a0_2 m0.fSafe.length c0_2, .int .i64 m0.fNext] := (Bx.alloc (Bx.new _ [.slice a0_0 m0.fInodes.length c0_0, .slice a0_1 m0.fNames.length c0_1, .slice a0_2 m0.fSafe.length c0_2, .int .i64 m0.fNext] _) _).under hx1
 have hbxA1 : Bx w1 (w.heap.size + 1) [.int .i64 m1.fNext, .int .i64 m1.fLog, .slice a1_2 m1.fTables.length c1_2] := by have h := (Bx.new _ [.int .i64 m1.fNext, .int .i64 m1.fLog, .slice a1_2 m1.fTables.length c1_2] _).under hx1; simpa using h
 have xbA0_0 : w1.cell? ⟨w.heap.size, 0, none⟩ = some (.slice a0_0 m0.fInodes.length c0_0) := hbxA0.2 0 _ rfl
 have xbA0_1 : w1.cell? ⟨w.heap.size, 1, none⟩ = some (.slice a0_1 m0.fNames.length c0_1) := hbxA0.2 1 _ rfl
 have xbA0_2 : w1.cell? ⟨w.heap.size, 2, none⟩ = some (.slice a0_2 m0.fSafe.length c0_2) := hbxA0.2 2 _ rfl
 have xbA0_3 : w1.cell? ⟨w.heap.size, 3, none⟩ = some (.int .i64 m0.fNext) := hbxA0.2 3 _ rfl
 have hlbA0 : w.heap.size < w1.heap.size := hbxA0.1
 have xbA1_0 : w1.cell? ⟨w.heap.size + 1, 0, none⟩ = some (.int .i64 m1.fNext) := hbxA1.2 0 _ rfl
 have xbA1_1 : w1.cell? ⟨w.heap.size + 1, 1, none⟩ = some (.int .i64 m1.fLog) := hbxA1.2 1 _ rfl
 have xbA1_2 : w1.cell? ⟨w.heap.size + 1, 2, none⟩ = some (.slice a1_2 m1.fTables.length c1_2) := hbxA1.2 2 _ rfl
 have hlbA1 : w.heap.size + 1 < w1.heap.size := hbxA1.1
 have hB1 : Below w.heap.size w w1 := hG1
 clear hx1
 by_cases hw0 : ((wDisk m0 : Nat) : Int) ≤ 1048576
 ·rw [szRes_yes hw0]
  have hC := fun (W : World) (hb : Below w1.heap.size w1 W) => szManifest_any _ m1 (1048576 - (wDisk m0 : Nat)) W (by omega) (by omega) (rManifest_good.mono (rManifest_good.below hr1 (bthen hB1 hb)) (bthen hB1 hb).size)
  go_wp2_with fail
  refine Calls.mono (hC _ ?_) ?_
  ·exact gbt
  clear hC
  rintro e w2 ⟨rfl, hx2⟩
  have hZ2 : w1.heap.size ≤ w2.heap.size := by have h := hx2.size; first | exact h | (simp at h; omega)
  have hG2 : Below w1.heap.size w1 w2 := bthen (hx := hx2) (h := gbt)
  replace hbxA0 := hbxA0.under hG2
  replace hbxA1 := hbxA1.under hG2
  replace xbA0_0 := hbxA0.2 0 _ rfl
  replace xbA0_1 := hbxA0.2 1 _ rfl
  replace xbA0_2 := hbxA0.2 2 _ rfl
  replace xbA0_3 := hbxA0.2 3 _ rfl
  replace hlbA0 := hbxA0.1
  replace xbA1_0 := hbxA1.2 0 _ rfl
  replace xbA1_1 := hbxA1.2 1 _ rfl
  replace xbA1_2 := hbxA1.2 2 _ rfl
  replace hlbA1 := hbxA1.1
  have hB2 : Below w.heap.size w w2 := bthen hB1 hG2
  clear hx2
  by_cases hw1 : ((wManifest m1 : Nat) : Int) ≤ 1048576 - (wDisk m0 : Nat)
  ·rw [szRes_yes hw1]
   have hwn0 : wDisk m0 ≤ 1048576 := by omega
   have hcn0 := tcntDisk_le m0
   have hwn1 : wManifest m1 ≤ 1048576 := by omega
   have hcn1 := tcntManifest_le m1
   obtain ⟨R0, hR0⟩ : ∃ R : MDisk, R = instD m0 m1 := ⟨_, rfl⟩
   have hRw0 : wDisk R0 ≤ 1099511627776 := by rw [hR0]; exact boundInstall_0 m0 m1 hwn0 hwn1
   have hRc0 := tcntDisk_le R0
   have HR0 := Hid.mk hR0
   clear hR0
   obtain ⟨R1, hR1⟩ : ∃ R : Int, R = instC m0 m1 := ⟨_, rfl⟩
   have HR1 := Hid.mk hR1
   clear hR1
   have p0 : ∀ W, Below w2.heap.size w2 W → W.cell? ⟨w.heap.size, 0, none⟩ = some (.slice a0_0 m0.fInodes.length c0_0) := fun W hb => (hbxA0.under hb).2 0 _ rfl
   have p1 : ∀ W, Below w2.heap.size w2 W → W.cell? ⟨w.heap.size, 1, none⟩ = some (.slice a0_1 m0.fNames.length c0_1) := fun W hb => (hbxA0.under hb).2 1 _ rfl
   have p2 : ∀ W, Below w2.heap.size w2 W → W.cell? ⟨w.heap.size, 2, none⟩ = some (.slice a0_2 m0.fSafe.length c0_2) := fun W hb => (hbxA0.under hb).2 2 _ rfl
   have p3 : ∀ W, Below w2.heap.size w2 W → W.cell? ⟨w.heap.size, 3, none⟩ = some (.int .i64 m0.fNext) := fun W hb => (hbxA0.under hb).2 3 _ rfl
   have r0 : ∀ W, Below w2.heap.size w2 W → W.cell? ⟨w.heap.size + 1, 0, none⟩ = some (.int .i64 m1.fNext) := fun W hb => (hbxA1.under hb).2 0 _ rfl
   have r1 : ∀ W, Below w2.heap.size w2 W → W.cell? ⟨w.heap.size + 1, 1, none⟩ = some (.int .i64 m1.fLog) := fun W hb => (hbxA1.under hb).2 1 _ rfl
   have r2 : ∀ W, Below w2.heap.size w2 W → W.cell? ⟨w.heap.size + 1, 2, none⟩ = some (.slice a1_2 m1.fTables.length c1_2) := fun W hb => (hbxA1.under hb).2 2 _ rfl
   go_wp2_with fail
   obtain ⟨QQ, hQQ⟩ : ∃ q : Exit → Act → World → Prop, q = fun e a' w' => e = .normal ∧ ∃ (y0 y1 y5 y17 y18 y19 y20 y21 y22 y23 y24 y25 y26 y27 y28 y29 y30 y31 y32 y33 y34 : Value) (g5 : Nat) (as0_0 as0_1 as0_2 : Option Addr) (cs0_0 cs0_1 cs0_2 : Nat), a' = { tmps := #[y0, y1, .pointer (some ⟨w.heap.size, 0, none⟩), .pointer (some ⟨w.heap.size + 1, 0, none⟩), .bool false, y5, .pointer (some ⟨g5, 0, none⟩), .int .i64 R1, undef, undef, undef, undef, undef, undef, undef, undef, undef, y17, y18, y19, y20, y21, y22, y23, y24, y25, y26, y27, y28, y29, y30, y31, y32, y33, y34, undef, undef, undef, undef, undef, undef, undef, undef, undef, undef, undef, undef, undef, undef, undef, undef, undef, undef, undef, undef, undef, undef, undef, undef, undef, undef, undef, undef, undef, undef, undef, undef, undef, undef, undef, undef, undef, undef, undef, undef, undef, undef, undef, undef, undef, undef, undef, undef, undef, undef, undef, undef, undef, undef, undef, undef, undef, undef, undef, undef, undef, undef, undef, undef, undef, undef, undef, undef, undef, undef, undef, undef, undef, undef, undef, undef, undef, undef, undef, undef, undef, undef, undef, undef], defers := [] } ∧ Bx w' g5 [.slice as0_0 R0.fInodes.length cs0_0, .slice as0_1 R0.fNames.length cs0_1, .slice as0_2 R0.fSafe.length cs0_2, .int .i64 R0.fNext] ∧ rDisk w'.heap.size w' [.slice as0_0 R0.fInodes.length cs0_0, .slice as0_1 R0.fNames.length cs0_1, .slice as0_2 R0.fSafe.length cs0_2, .int .i64 R0.fNext] R0 ∧ Below w2.heap.size w2 w' := ⟨_, rfl⟩
   have HQ := Hid.mk hQQ
   have hPan : ∀ c a w, QQ (.panic c) a w → False := by rw [hQQ]; intro c a w h; cases h.1
   clear hQQ
   refine Code.wp_mono (Q := QQ) ?mono ?reg
   case reg =>
    refine wp_region_held_drew (S := fun W => Below w2.heap.size w2 W) (by kernel_rfl) (Below.drew (Below.refl _ _)) (fun hHeld => ?_)
    obtain ⟨wS, hwS⟩ : ∃ wS, wS = w2.drew := ⟨_, rfl⟩
    have hbS : Below w2.heap.size w2 wS := by rw [hwS]; exact Below.drew (Below.refl _ _)
    rw [← hwS] at hHeld ⊢
    clear hwS
    refine uqq 0 q38e_3_8_0 28 hHeld ?_
    refine uqq 2 q38e_3_8_2 30 hHeld ?_
    refine arR [1, 8] ?_
    refine (AllReadyH.cons (o := q38e_3_8_1) rfl (fun K hK => ?_) (AllReadyH.cons (o := q38e_3_8_8) rfl (fun K hK => ?_) AllReadyH.nil))
    ·go_simp
     have hf1 := bthen hB2 (bthen hbS (show Below wS.heap.size wS wS from Below.refl _ _))
     refine Calls.mono (toDisk_any _ m0 wS (rDisk_good.mono (rDisk_good.below hr0 hf1) hf1.size) hwn0) ?_
     rintro e wE1 ⟨vp0, Fvp0, rfl, hod, _, _, hx1e⟩
     have hop1 : Below wS.heap.size wS wE1 := hx1e
     obtain ⟨ad0, cad0, ad1, cad1, ad2, cad2, rfl, _⟩ := id (oDisk_good.read hod)
     go_wp2_with fail
     refine hK.out _ _ (bthen hHeld hop1) (fun hHeld => ?_)
     clear hK K
     try simp only[Act.put,sa,s0,s1]
     refine arR [3, 8] ?_
     refine (AllReadyH.cons (o := q38e_3_8_3) rfl (fun K hK => ?_) (AllReadyH.cons (o := q38e_3_8_8) rfl (fun K hK => ?_) AllReadyH.nil))
     ·go_simp
      have hf3 := bthen hB2 (bthen hbS (show Below wS.heap.size wS wE1 from bthen (Below.refl _ _) hop1))
      refine Calls.mono (toManifest_any _ m1 wE1 (rManifest_good.mono (rManifest_good.below hr1 hf3) hf3.size) hwn1) ?_
      rintro e wE3 ⟨vp1, Fvp1, rfl, hom, _, _, hx3e⟩
      have hop3 : Below wE1.heap.size wE1 wE3 := hx3e
      obtain ⟨am2, cam2, rfl, _⟩ := id (oManifest_good.read hom)
      go_wp2_with fail
      refine hK.out _ _ (bthen hHeld hop3) (fun hHeld => ?_)
      clear hK K
      try simp only[Act.put,sa,s0,s1]
      refine arR [4, 8] ?_
      refine (AllReadyH.cons (o := q38e_3_8_4) rfl (fun K hK => ?_) (AllReadyH.cons (o := q38e_3_8_8) rfl (fun K hK => ?_) AllReadyH.nil))
      ·go_simp
       have hg1 := (show Below wE1.heap.size wE1 wE3 from bthen (Below.refl _ _) hop3)
       have hg3 := (show Below wE3.heap.size wE3 wE3 from Below.refl _ _)
       have hf4 := bthen hbS (show Below wS.heap.size wS wE3 from bthen (bthen (Below.refl _ _) hop1) hop3)
       have hf4s := hf4.size
       refine Calls.mono (specInstall_c _ m0 _ m1 wE3 (rDisk_good.mono (rDisk_good.below (oDisk_good.read hod) hg1) hg1.size) (rManifest_good.mono (rManifest_good.below (oManifest_good.read hom) hg3) hg3.size) hwn0 hwn1) ?_
       rintro e wE4 ⟨cs5, he, hr5, hx5⟩
       rw [← HR0.out] at hr5
       rw [← HR1.out] at he
       subst he
       have hop4 : Below wE3.heap.size wE3 wE4 := hx5
       obtain ⟨as0_0, cs0_0, as0_1, cs0_1, as0_2, cs0_2, rfl, _⟩ := id (hr5)
       go_wp2_with fail
       refine hK.out _ _ (bthen hHeld hop4) (fun hHeld => ?_)
       clear hK K
       try simp only[Act.put,sa,s0,s1]
       refine uqq 5 q38e_3_8_5 27 hHeld ?_
       refine uqq 6 q38e_3_8_6 33 hHeld ?_
       refine uqq 7 q38e_3_8_7 34 hHeld ?_
       refine ar1 8 q38e_3_8_8 fun K hK => ?_
       ·go_simp
        obtain ⟨wE8, hq8⟩ : ∃ q, q = wE4.alloc (.cells #[.slice none 0 0, .slice none 0 0, .slice none 0 0, .int .i64 0] 34) := ⟨_, rfl⟩
        have hop8 : Below wE4.heap.size wE4 wE8 := by rw [hq8]; exact (Below.refl _ _).alloc (Nat.le_refl _) _
        obtain ⟨g8, HG8⟩ : ∃ z, Hid (z = wE4.heap.size) := ⟨_, Hid.mk rfl⟩
        have HB8 : Hid (Bw wE8 g8 34 [.slice none 0 0, .slice none 0 0, .slice none 0 0, .int .i64 0]) := by unfold Hid; rw [HG8.out, hq8]; exact Bw.new _ _ _
        have hgp2 : w2.heap.size ≤ g8 := by rw [HG8.out]; exact Nat.le_trans hbS.size (Below.size (show Below wS.heap.size wS wE4 from bthen (bthen (bthen (Below.refl _ _) hop1) hop3) hop4))
        rw [← HG8.out]
        rw [← hq8]
        clear hq8
        refine hK.out _ _ (bthen hHeld hop8) (fun hHeld => ?_)
        clear hK K
        try simp only[Act.put,sa,s0,s1]
        refine ar1 9 q38e_3_8_9 fun K hK => ?_
        ·skip
         have hb8 := HB8.out.under (show Below wE8.heap.size wE8 wE8 from Below.refl _ _)
         obtain ⟨s0, sf0, s1, sf1, s2, sf2, s3, sf3⟩ := hb8.c8
         have hl8 := hb8.lt
         go_simp
         obtain ⟨wE9, hq9⟩ : ∃ q, q = ((((wE8.setCell ⟨g8, 0, none⟩ (.slice as0_0 R0.fInodes.length cs0_0)).setCell ⟨g8, 1, none⟩ (.slice as0_1 R0.fNames.length cs0_1)).setCell ⟨g8, 2, none⟩ (.slice as0_2 R0.fSafe.length cs0_2)).setCell ⟨g8, 3, none⟩ (.int .i64 R0.fNext)) := ⟨_, rfl⟩
         have hT9 : Turn [g8] wE8 wE9 := by rw [hq9]; exact (((((Turn.refl _ _).setCell (by simp) _).setCell (by simp) _).setCell (by simp) _).setCell (by simp) _)
         have hbx : Bw wE9 g8 34 [.slice as0_0 R0.fInodes.length cs0_0, .slice as0_1 R0.fNames.length cs0_1, .slice as0_2 R0.fSafe.length cs0_2, .int .i64 R0.fNext] := by rw [hq9]; exact ((((hb8.put 0 _).put 1 _).put 2 _).put 3 _)
         have hpS := (show Below wE4.heap.size wE4 wE8 from bthen (Below.refl _ _) hop8)
         have hgo := (show Below wE8.heap.size wE8 wE8 from Below.refl _ _)
         rw [← hq9]
         clear hq9 hb8 s0 sf0 s1 sf1 s2 sf2 s3 sf3
         refine hK.out _ _ (hHeld.trans (hT9.below (fun k hk => by simp at hk; omega) hHeld.size)) (fun hHeld => ?_)
         clear hK K
         try simp only[Act.put,sa,s0,s1]
         refine uqq 10 q38e_3_8_10 7 hHeld ?_
         refine wpAnyH_done (by kernel_rfl) ?_ _
         have hr59 : rDisk wE9.heap.size wE9 [.slice as0_0 R0.fInodes.length cs0_0, .slice as0_1 R0.fNames.length cs0_1, .slice as0_2 R0.fSafe.length cs0_2, .int .i64 R0.fNext] R0 := by have h := rDisk_turn (Bw.dzero (HB8.out.under hgo)) hT9 (rDisk_good.mono (rDisk_good.below hr5 hpS) hpS.size); exact rDisk_good.mono h hT9.size
         rw [HQ.out]
         exact ⟨rfl, _, _, _, _, _, _, _, _, _, _, _, _, _, _, _, _, _, _, _, _, _, g8, _, _, _, _, _, _, rfl, ⟨hbx.lt, fun i v hv => hbx.cell i v hv⟩, hr59, hHeld⟩
      ·go_simp
       obtain ⟨wE8, hq8⟩ : ∃ q, q = wE3.alloc (.cells #[.slice none 0 0, .slice none 0 0, .slice none 0 0, .int .i64 0] 34) := ⟨_, rfl⟩
       have hop8 : Below wE3.heap.size wE3 wE8 := by rw [hq8]; exact (Below.refl _ _).alloc (Nat.le_refl _) _
       obtain ⟨g8, HG8⟩ : ∃ z, Hid (z = wE3.heap.size) := ⟨_, Hid.mk rfl⟩
       have HB8 : Hid (Bw wE8 g8 34 [.slice none 0 0, .slice none 0 0, .slice none 0 0, .int .i64 0]) := by unfold Hid; rw [HG8.out, hq8]; exact Bw.new _ _ _
       have hgp2 : w2.heap.size ≤ g8 := by rw [HG8.out]; exact Nat.le_trans hbS.size (Below.size (show Below wS.heap.size wS wE3 from bthen (bthen (Below.refl _ _) hop1) hop3))
       rw [← HG8.out]
       rw [← hq8]
       clear hq8
       refine hK.out _ _ (bthen hHeld hop8) (fun hHeld => ?_)
       clear hK K
       try simp only[Act.put,sa,s0,s1]
       refine ar1 4 q38e_3_8_4 fun K hK => ?_
       ·go_simp
        have hg1 := (show Below wE1.heap.size wE1 wE8 from bthen (bthen (Below.refl _ _) hop3) hop8)
        have hg3 := (show Below wE3.heap.size wE3 wE8 from bthen (Below.refl _ _) hop8)
        have hf4 := bthen hbS (show Below wS.heap.size wS wE8 from bthen (bthen (bthen (Below.refl _ _) hop1) hop3) hop8)
        have hf4s := hf4.size
        refine Calls.mono (specInstall_c _ m0 _ m1 wE8 (rDisk_good.mono (rDisk_good.below (oDisk_good.read hod) hg1) hg1.size) (rManifest_good.mono (rManifest_good.below (oManifest_good.read hom) hg3) hg3.size) hwn0 hwn1) ?_
        rintro e wE4 ⟨cs5, he, hr5, hx5⟩
        rw [← HR0.out] at hr5
        rw [← HR1.out] at he
        subst he
        have hop4 : Below wE8.heap.size wE8 wE4 := hx5
        obtain ⟨as0_0, cs0_0, as0_1, cs0_1, as0_2, cs0_2, rfl, _⟩ := id (hr5)
        go_wp2_with fail
        refine hK.out _ _ (bthen hHeld hop4) (fun hHeld => ?_)
        clear hK K
        try simp only[Act.put,sa,s0,s1]
        refine uqq 5 q38e_3_8_5 27 hHeld ?_
        refine uqq 6 q38e_3_8_6 33 hHeld ?_
        refine uqq 7 q38e_3_8_7 34 hHeld ?_
        refine ar1 9 q38e_3_8_9 fun K hK => ?_
        ·skip
         have hb8 := HB8.out.under (show Below wE8.heap.size wE8 wE4 from bthen (Below.refl _ _) hop4)
         obtain ⟨s0, sf0, s1, sf1, s2, sf2, s3, sf3⟩ := hb8.c8
         have hl8 := hb8.lt
         go_simp
         obtain ⟨wE9, hq9⟩ : ∃ q, q = ((((wE4.setCell ⟨g8, 0, none⟩ (.slice as0_0 R0.fInodes.length cs0_0)).setCell ⟨g8, 1, none⟩ (.slice as0_1 R0.fNames.length cs0_1)).setCell ⟨g8, 2, none⟩ (.slice as0_2 R0.fSafe.length cs0_2)).setCell ⟨g8, 3, none⟩ (.int .i64 R0.fNext)) := ⟨_, rfl⟩
         have hT9 : Turn [g8] wE4 wE9 := by rw [hq9]; exact (((((Turn.refl _ _).setCell (by simp) _).setCell (by simp) _).setCell (by simp) _).setCell (by simp) _)
         have hbx : Bw wE9 g8 34 [.slice as0_0 R0.fInodes.length cs0_0, .slice as0_1 R0.fNames.length cs0_1, .slice as0_2 R0.fSafe.length cs0_2, .int .i64 R0.fNext] := by rw [hq9]; exact ((((hb8.put 0 _).put 1 _).put 2 _).put 3 _)
         have hpS := (show Below wE4.heap.size wE4 wE4 from Below.refl _ _)
         have hgo := (show Below wE8.heap.size wE8 wE4 from bthen (Below.refl _ _) hop4)
         rw [← hq9]
         clear hq9 hb8 s0 sf0 s1 sf1 s2 sf2 s3 sf3
         refine hK.out _ _ (hHeld.trans (hT9.below (fun k hk => by simp at hk; omega) hHeld.size)) (fun hHeld => ?_)
         clear hK K
         try simp only[Act.put,sa,s0,s1]
         refine uqq 10 q38e_3_8_10 7 hHeld ?_
         refine wpAnyH_done (by kernel_rfl) ?_ _
         have hr59 : rDisk wE9.heap.size wE9 [.slice as0_0 R0.fInodes.length cs0_0, .slice as0_1 R0.fNames.length cs0_1, .slice as0_2 R0.fSafe.length cs0_2, .int .i64 R0.fNext] R0 := by have h := rDisk_turn (Bw.dzero (HB8.out.under hgo)) hT9 (rDisk_good.mono (rDisk_good.below hr5 hpS) hpS.size); exact rDisk_good.mono h hT9.size
         rw [HQ.out]
         exact ⟨rfl, _, _, _, _, _, _, _, _, _, _, _, _, _, _, _, _, _, _, _, _, _, g8, _, _, _, _, _, _, rfl, ⟨hbx.lt, fun i v hv => hbx.cell i v hv⟩, hr59, hHeld⟩
     ·go_simp
      obtain ⟨wE8, hq8⟩ : ∃ q, q = wE1.alloc (.cells #[.slice none 0 0, .slice none 0 0, .slice none 0 0, .int .i64 0] 34) := ⟨_, rfl⟩
      have hop8 : Below wE1.heap.size wE1 wE8 := by rw [hq8]; exact (Below.refl _ _).alloc (Nat.le_refl _) _
      obtain ⟨g8, HG8⟩ : ∃ z, Hid (z = wE1.heap.size) := ⟨_, Hid.mk rfl⟩
      have HB8 : Hid (Bw wE8 g8 34 [.slice none 0 0, .slice none 0 0, .slice none 0 0, .int .i64 0]) := by unfold Hid; rw [HG8.out, hq8]; exact Bw.new _ _ _
      have hgp2 : w2.heap.size ≤ g8 := by rw [HG8.out]; exact Nat.le_trans hbS.size (Below.size (show Below wS.heap.size wS wE1 from bthen (Below.refl _ _) hop1))
      rw [← HG8.out]
      rw [← hq8]
      clear hq8
      refine hK.out _ _ (bthen hHeld hop8) (fun hHeld => ?_)
      clear hK K
      try simp only[Act.put,sa,s0,s1]
      refine ar1 3 q38e_3_8_3 fun K hK => ?_
      ·go_simp
       have hf3 := bthen hB2 (bthen hbS (show Below wS.heap.size wS wE8 from bthen (bthen (Below.refl _ _) hop1) hop8))
       refine Calls.mono (toManifest_any _ m1 wE8 (rManifest_good.mono (rManifest_good.below hr1 hf3) hf3.size) hwn1) ?_
       rintro e wE3 ⟨vp1, Fvp1, rfl, hom, _, _, hx3e⟩
       have hop3 : Below wE8.heap.size wE8 wE3 := hx3e
       obtain ⟨am2, cam2, rfl, _⟩ := id (oManifest_good.read hom)
       go_wp2_with fail
       refine hK.out _ _ (bthen hHeld hop3) (fun hHeld => ?_)
       clear hK K
       try simp only[Act.put,sa,s0,s1]
       refine ar1 4 q38e_3_8_4 fun K hK => ?_
       ·go_simp
        have hg1 := (show Below wE1.heap.size wE1 wE3 from bthen (bthen (Below.refl _ _) hop8) hop3)
        have hg3 := (show Below wE3.heap.size wE3 wE3 from Below.refl _ _)
        have hf4 := bthen hbS (show Below wS.heap.size wS wE3 from bthen (bthen (bthen (Below.refl _ _) hop1) hop8) hop3)
        have hf4s := hf4.size
        refine Calls.mono (specInstall_c _ m0 _ m1 wE3 (rDisk_good.mono (rDisk_good.below (oDisk_good.read hod) hg1) hg1.size) (rManifest_good.mono (rManifest_good.below (oManifest_good.read hom) hg3) hg3.size) hwn0 hwn1) ?_
        rintro e wE4 ⟨cs5, he, hr5, hx5⟩
        rw [← HR0.out] at hr5
        rw [← HR1.out] at he
        subst he
        have hop4 : Below wE3.heap.size wE3 wE4 := hx5
        obtain ⟨as0_0, cs0_0, as0_1, cs0_1, as0_2, cs0_2, rfl, _⟩ := id (hr5)
        go_wp2_with fail
        refine hK.out _ _ (bthen hHeld hop4) (fun hHeld => ?_)
        clear hK K
        try simp only[Act.put,sa,s0,s1]
        refine uqq 5 q38e_3_8_5 27 hHeld ?_
        refine uqq 6 q38e_3_8_6 33 hHeld ?_
        refine uqq 7 q38e_3_8_7 34 hHeld ?_
        refine ar1 9 q38e_3_8_9 fun K hK => ?_
        ·skip
         have hb8 := HB8.out.under (show Below wE8.heap.size wE8 wE4 from bthen (bthen (Below.refl _ _) hop3) hop4)
         obtain ⟨s0, sf0, s1, sf1, s2, sf2, s3, sf3⟩ := hb8.c8
         have hl8 := hb8.lt
         go_simp
         obtain ⟨wE9, hq9⟩ : ∃ q, q = ((((wE4.setCell ⟨g8, 0, none⟩ (.slice as0_0 R0.fInodes.length cs0_0)).setCell ⟨g8, 1, none⟩ (.slice as0_1 R0.fNames.length cs0_1)).setCell ⟨g8, 2, none⟩ (.slice as0_2 R0.fSafe.length cs0_2)).setCell ⟨g8, 3, none⟩ (.int .i64 R0.fNext)) := ⟨_, rfl⟩
         have hT9 : Turn [g8] wE4 wE9 := by rw [hq9]; exact (((((Turn.refl _ _).setCell (by simp) _).setCell (by simp) _).setCell (by simp) _).setCell (by simp) _)
         have hbx : Bw wE9 g8 34 [.slice as0_0 R0.fInodes.length cs0_0, .slice as0_1 R0.fNames.length cs0_1, .slice as0_2 R0.fSafe.length cs0_2, .int .i64 R0.fNext] := by rw [hq9]; exact ((((hb8.put 0 _).put 1 _).put 2 _).put 3 _)
         have hpS := (show Below wE4.heap.size wE4 wE4 from Below.refl _ _)
         have hgo := (show Below wE8.heap.size wE8 wE4 from bthen (bthen (Below.refl _ _) hop3) hop4)
         rw [← hq9]
         clear hq9 hb8 s0 sf0 s1 sf1 s2 sf2 s3 sf3
         refine hK.out _ _ (hHeld.trans (hT9.below (fun k hk => by simp at hk; omega) hHeld.size)) (fun hHeld => ?_)
         clear hK K
         try simp only[Act.put,sa,s0,s1]
         refine uqq 10 q38e_3_8_10 7 hHeld ?_
         refine wpAnyH_done (by kernel_rfl) ?_ _
         have hr59 : rDisk wE9.heap.size wE9 [.slice as0_0 R0.fInodes.length cs0_0, .slice as0_1 R0.fNames.length cs0_1, .slice as0_2 R0.fSafe.length cs0_2, .int .i64 R0.fNext] R0 := by have h := rDisk_turn (Bw.dzero (HB8.out.under hgo)) hT9 (rDisk_good.mono (rDisk_good.below hr5 hpS) hpS.size); exact rDisk_good.mono h hT9.size
         rw [HQ.out]
         exact ⟨rfl, _, _, _, _, _, _, _, _, _, _, _, _, _, _, _, _, _, _, _, _, _, g8, _, _, _, _, _, _, rfl, ⟨hbx.lt, fun i v hv => hbx.cell i v hv⟩, hr59, hHeld⟩
    ·go_simp
     obtain ⟨wE8, hq8⟩ : ∃ q, q = wS.alloc (.cells #[.slice none 0 0, .slice none 0 0, .slice none 0 0, .int .i64 0] 34) := ⟨_, rfl⟩
     have hop8 : Below wS.heap.size wS wE8 := by rw [hq8]; exact (Below.refl _ _).alloc (Nat.le_refl _) _
     obtain ⟨g8, HG8⟩ : ∃ z, Hid (z = wS.heap.size) := ⟨_, Hid.mk rfl⟩
     have HB8 : Hid (Bw wE8 g8 34 [.slice none 0 0, .slice none 0 0, .slice none 0 0, .int .i64 0]) := by unfold Hid; rw [HG8.out, hq8]; exact Bw.new _ _ _
     have hgp2 : w2.heap.size ≤ g8 := by rw [HG8.out]; exact Nat.le_trans hbS.size (Below.size (show Below wS.heap.size wS wS from Below.refl _ _))
     rw [← HG8.out]
     rw [← hq8]
     clear hq8
     refine hK.out _ _ (bthen hHeld hop8) (fun hHeld => ?_)
     clear hK K
     try simp only[Act.put,sa,s0,s1]
     refine ar1 1 q38e_3_8_1 fun K hK => ?_
     ·go_simp
      have hf1 := bthen hB2 (bthen hbS (show Below wS.heap.size wS wE8 from bthen (Below.refl _ _) hop8))
      refine Calls.mono (toDisk_any _ m0 wE8 (rDisk_good.mono (rDisk_good.below hr0 hf1) hf1.size) hwn0) ?_
      rintro e wE1 ⟨vp0, Fvp0, rfl, hod, _, _, hx1e⟩
      have hop1 : Below wE8.heap.size wE8 wE1 := hx1e
      obtain ⟨ad0, cad0, ad1, cad1, ad2, cad2, rfl, _⟩ := id (oDisk_good.read hod)
      go_wp2_with fail
      refine hK.out _ _ (bthen hHeld hop1) (fun hHeld => ?_)
      clear hK K
      try simp only[Act.put,sa,s0,s1]
      refine ar1 3 q38e_3_8_3 fun K hK => ?_
      ·go_simp
       have hf3 := bthen hB2 (bthen hbS (show Below wS.heap.size wS wE1 from bthen (bthen (Below.refl _ _) hop8) hop1))
       refine Calls.mono (toManifest_any _ m1 wE1 (rManifest_good.mono (rManifest_good.below hr1 hf3) hf3.size) hwn1) ?_
       rintro e wE3 ⟨vp1, Fvp1, rfl, hom, _, _, hx3e⟩
       have hop3 : Below wE1.heap.size wE1 wE3 := hx3e
       obtain ⟨am2, cam2, rfl, _⟩ := id (oManifest_good.read hom)
       go_wp2_with fail
       refine hK.out _ _ (bthen hHeld hop3) (fun hHeld => ?_)
       clear hK K
       try simp only[Act.put,sa,s0,s1]
       refine ar1 4 q38e_3_8_4 fun K hK => ?_
       ·go_simp
        have hg1 := (show Below wE1.heap.size wE1 wE3 from bthen (Below.refl _ _) hop3)
        have hg3 := (show Below wE3.heap.size wE3 wE3 from Below.refl _ _)
        have hf4 := bthen hbS (show Below wS.heap.size wS wE3 from bthen (bthen (bthen (Below.refl _ _) hop8) hop1) hop3)
        have hf4s := hf4.size
        refine Calls.mono (specInstall_c _ m0 _ m1 wE3 (rDisk_good.mono (rDisk_good.below (oDisk_good.read hod) hg1) hg1.size) (rManifest_good.mono (rManifest_good.below (oManifest_good.read hom) hg3) hg3.size) hwn0 hwn1) ?_
        rintro e wE4 ⟨cs5, he, hr5, hx5⟩
        rw [← HR0.out] at hr5
        rw [← HR1.out] at he
        subst he
        have hop4 : Below wE3.heap.size wE3 wE4 := hx5
        obtain ⟨as0_0, cs0_0, as0_1, cs0_1, as0_2, cs0_2, rfl, _⟩ := id (hr5)
        go_wp2_with fail
        refine hK.out _ _ (bthen hHeld hop4) (fun hHeld => ?_)
        clear hK K
        try simp only[Act.put,sa,s0,s1]
        refine uqq 5 q38e_3_8_5 27 hHeld ?_
        refine uqq 6 q38e_3_8_6 33 hHeld ?_
        refine uqq 7 q38e_3_8_7 34 hHeld ?_
        refine ar1 9 q38e_3_8_9 fun K hK => ?_
        ·skip
         have hb8 := HB8.out.under (show Below wE8.heap.size wE8 wE4 from bthen (bthen (bthen (Below.refl _ _) hop1) hop3) hop4)
         obtain ⟨s0, sf0, s1, sf1, s2, sf2, s3, sf3⟩ := hb8.c8
         have hl8 := hb8.lt
         go_simp
         obtain ⟨wE9, hq9⟩ : ∃ q, q = ((((wE4.setCell ⟨g8, 0, none⟩ (.slice as0_0 R0.fInodes.length cs0_0)).setCell ⟨g8, 1, none⟩ (.slice as0_1 R0.fNames.length cs0_1)).setCell ⟨g8, 2, none⟩ (.slice as0_2 R0.fSafe.length cs0_2)).setCell ⟨g8, 3, none⟩ (.int .i64 R0.fNext)) := ⟨_, rfl⟩
         have hT9 : Turn [g8] wE4 wE9 := by rw [hq9]; exact (((((Turn.refl _ _).setCell (by simp) _).setCell (by simp) _).setCell (by simp) _).setCell (by simp) _)
         have hbx : Bw wE9 g8 34 [.slice as0_0 R0.fInodes.length cs0_0, .slice as0_1 R0.fNames.length cs0_1, .slice as0_2 R0.fSafe.length cs0_2, .int .i64 R0.fNext] := by rw [hq9]; exact ((((hb8.put 0 _).put 1 _).put 2 _).put 3 _)
         have hpS := (show Below wE4.heap.size wE4 wE4 from Below.refl _ _)
         have hgo := (show Below wE8.heap.size wE8 wE4 from bthen (bthen (bthen (Below.refl _ _) hop1) hop3) hop4)
         rw [← hq9]
         clear hq9 hb8 s0 sf0 s1 sf1 s2 sf2 s3 sf3
         refine hK.out _ _ (hHeld.trans (hT9.below (fun k hk => by simp at hk; omega) hHeld.size)) (fun hHeld => ?_)
         clear hK K
         try simp only[Act.put,sa,s0,s1]
         refine uqq 10 q38e_3_8_10 7 hHeld ?_
         refine wpAnyH_done (by kernel_rfl) ?_ _
         have hr59 : rDisk wE9.heap.size wE9 [.slice as0_0 R0.fInodes.length cs0_0, .slice as0_1 R0.fNames.length cs0_1, .slice as0_2 R0.fSafe.length cs0_2, .int .i64 R0.fNext] R0 := by have h := rDisk_turn (Bw.dzero (HB8.out.under hgo)) hT9 (rDisk_good.mono (rDisk_good.below hr5 hpS) hpS.size); exact rDisk_good.mono h hT9.size
         rw [HQ.out]
         exact ⟨rfl, _, _, _, _, _, _, _, _, _, _, _, _, _, _, _, _, _, _, _, _, _, g8, _, _, _, _, _, _, rfl, ⟨hbx.lt, fun i v hv => hbx.cell i v hv⟩, hr59, hHeld⟩
   rw [HQ.out]
   clear HQ hPan
   rintro e a' w5 ⟨rfl, y0, y1, y5, y17, y18, y19, y20, y21, y22, y23, y24, y25, y26, y27, y28, y29, y30, y31, y32, y33, y34, g5, as0_0, as0_1, as0_2, cs0_0, cs0_1, cs0_2, rfl, hbJ, hrs0, hG5⟩
   have hgl5 : g5 < w5.heap.size := hbJ.1
   have hZ5 : w2.heap.size ≤ w5.heap.size := hG5.size
   clear p0 p1 p2 p3 r0 r1 r2
   have hB5 : Below w.heap.size w w5 := bthen hB2 hG5
   replace hbxA0 := hbxA0.under hG5
   replace hbxA1 := hbxA1.under hG5
   replace xbA0_0 := hbxA0.2 0 _ rfl
   replace xbA0_1 := hbxA0.2 1 _ rfl
   replace xbA0_2 := hbxA0.2 2 _ rfl
   replace xbA0_3 := hbxA0.2 3 _ rfl
   replace hlbA0 := hbxA0.1
   replace xbA1_0 := hbxA1.2 0 _ rfl
   replace xbA1_1 := hbxA1.2 1 _ rfl
   replace xbA1_2 := hbxA1.2 2 _ rfl
   replace hlbA1 := hbxA1.1
   have xbs0_0 := hbJ.2 0 _ rfl
   have xbs0_1 := hbJ.2 1 _ rfl
   have xbs0_2 := hbJ.2 2 _ rfl
   have xbs0_3 := hbJ.2 3 _ rfl
   have hbs0 : w5.heap.size ≤ w5.heap.size := Nat.le_refl _
   have hC := fun (W : World) (hb : Below w5.heap.size w5 W) => toDisk_any _ m0 W (rDisk_good.mono (rDisk_good.below hr0 (bthen hB5 hb)) (bthen hB5 hb).size) hwn0
   go_wp2_with fail
   refine Calls.mono (hC _ ?_) ?_
   ·exact gbt
   clear hC
   rintro e w6 ⟨vx0, Fx0, rfl, hox0, hNx0, hgex0, hx6⟩
   have hZ6 : w5.heap.size ≤ w6.heap.size := by have h := hx6.size; first | exact h | (simp at h; omega)
   have hgex0o : ∀ b, b ∈ Fx0 → w5.heap.size ≤ b := fun b hb => by have h := hgex0 b hb; first | exact h | (simp at h; omega)
   clear hgex0
   have hG6 : Below w5.heap.size w5 w6 := bthen (hx := hx6) (h := gbt)
   replace hbxA0 := hbxA0.under hG6
   replace hbxA1 := hbxA1.under hG6
   replace hrs0 := (rDisk_good.below hrs0 (hG6.mono hbs0))
   replace hbs0 := Nat.le_trans hbs0 hG6.size
   have hbxs0 : Bx w6 (g5) [.slice as0_0 R0.fInodes.length cs0_0, .slice as0_1 R0.fNames.length cs0_1, .slice as0_2 R0.fSafe.length cs0_2, .int .i64 R0.fNext] := hbJ.under hG6
   replace xbA0_0 := hbxA0.2 0 _ rfl
   replace xbA0_1 := hbxA0.2 1 _ rfl
   replace xbA0_2 := hbxA0.2 2 _ rfl
   replace xbA0_3 := hbxA0.2 3 _ rfl
   replace hlbA0 := hbxA0.1
   replace xbA1_0 := hbxA1.2 0 _ rfl
   replace xbA1_1 := hbxA1.2 1 _ rfl
   replace xbA1_2 := hbxA1.2 2 _ rfl
   replace hlbA1 := hbxA1.1
   have xbs0_0 : w6.cell? ⟨g5, 0, none⟩ = some (.slice as0_0 R0.fInodes.length cs0_0) := hbxs0.2 0 _ rfl
   have xbs0_1 : w6.cell? ⟨g5, 1, none⟩ = some (.slice as0_1 R0.fNames.length cs0_1) := hbxs0.2 1 _ rfl
   have xbs0_2 : w6.cell? ⟨g5, 2, none⟩ = some (.slice as0_2 R0.fSafe.length cs0_2) := hbxs0.2 2 _ rfl
   have xbs0_3 : w6.cell? ⟨g5, 3, none⟩ = some (.int .i64 R0.fNext) := hbxs0.2 3 _ rfl
   have hlbs0 : g5 < w6.heap.size := hbxs0.1
   have hB6 : Below w.heap.size w w6 := bthen hB5 hG6
   clear hx6
   have hltx0 : ∀ b, b ∈ Fx0 → b < w6.heap.size := fun b hb => oDisk_good.lt hox0 b hb
   have hq := (oDisk_good.read hox0)
   obtain ⟨ax0_0, cx0_0, ax0_1, cx0_1, ax0_2, cx0_2, rfl, _⟩ := hq
   have hC := fun (W : World) (hb : Below w6.heap.size w6 W) => toManifest_any _ m1 W (rManifest_good.mono (rManifest_good.below hr1 (bthen hB6 hb)) (bthen hB6 hb).size) hwn1
   go_wp2_with fail
   refine Calls.mono (hC _ ?_) ?_
   ·exact gbt
   clear hC
   rintro e w7 ⟨vx1, Fx1, rfl, hox1, hNx1, hgex1, hx7⟩
   have hZ7 : w6.heap.size + 1 ≤ w7.heap.size := by have h := hx7.size; first | exact h | (simp at h; omega)
   have hgex1o : ∀ b, b ∈ Fx1 → w6.heap.size + 1 ≤ b := fun b hb => by have h := hgex1 b hb; first | exact h | (simp at h; omega)
   clear hgex1
   have hG7 : Below w6.heap.size w6 w7 := bthen (hx := hx7) (h := gbt)
   replace hbxA0 := hbxA0.under hG7
   replace hbxA1 := hbxA1.under hG7
   replace hbxs0 := hbxs0.under hG7
   replace hox0 := (oDisk_good.frame hox0 (fun b hb => hG7.block b (oDisk_good.lt hox0 b hb)))
   replace hrs0 := (rDisk_good.below hrs0 (hG7.mono hbs0))
   replace hbs0 := Nat.le_trans hbs0 hG7.size
   have hbxx0 : Bx w7 (w6.heap.size) [.slice ax0_0 m0.fInodes.length cx0_0, .slice ax0_1 m0.fNames.length cx0_1, .slice ax0_2 m0.fSafe.length cx0_2, .int .i64 m0.fNext] := (Bx.new _ [.slice ax0_0 m0.fInodes.length cx0_0, .slice ax0_1 m0.fNames.length cx0_1, .slice ax0_2 m0.fSafe.length cx0_2, .int .i64 m0.fNext] _).under hx7
   replace xbA0_0 := hbxA0.2 0 _ rfl
   replace xbA0_1 := hbxA0.2 1 _ rfl
   replace xbA0_2 := hbxA0.2 2 _ rfl
   replace xbA0_3 := hbxA0.2 3 _ rfl
   replace hlbA0 := hbxA0.1
   replace xbA1_0 := hbxA1.2 0 _ rfl
   replace xbA1_1 := hbxA1.2 1 _ rfl
   replace xbA1_2 := hbxA1.2 2 _ rfl
   replace hlbA1 := hbxA1.1
   replace xbs0_0 := hbxs0.2 0 _ rfl
   replace xbs0_1 := hbxs0.2 1 _ rfl
   replace xbs0_2 := hbxs0.2 2 _ rfl
   replace xbs0_3 := hbxs0.2 3 _ rfl
   replace hlbs0 := hbxs0.1
   have xbx0_0 : w7.cell? ⟨w6.heap.size, 0, none⟩ = some (.slice ax0_0 m0.fInodes.length cx0_0) := hbxx0.2 0 _ rfl
   have xbx0_1 : w7.cell? ⟨w6.heap.size, 1, none⟩ = some (.slice ax0_1 m0.fNames.length cx0_1) := hbxx0.2 1 _ rfl
   have xbx0_2 : w7.cell? ⟨w6.heap.size, 2, none⟩ = some (.slice ax0_2 m0.fSafe.length cx0_2) := hbxx0.2 2 _ rfl
   have xbx0_3 : w7.cell? ⟨w6.heap.size, 3, none⟩ = some (.int .i64 m0.fNext) := hbxx0.2 3 _ rfl
   have hlbx0 : w6.heap.size < w7.heap.size := hbxx0.1
   have hB7 : Below w.heap.size w w7 := bthen hB6 hG7
   clear hx7
   have hltx1 : ∀ b, b ∈ Fx1 → b < w7.heap.size := fun b hb => oManifest_good.lt hox1 b hb
   have hq := (oManifest_good.read hox1)
   obtain ⟨ax1_2, cx1_2, rfl, _⟩ := hq
   have hC := fun (W : World) (hb : Below w7.heap.size w7 W) => implInstall_c _ m0 _ m1 W (rDisk_good.mono (rDisk_good.below (oDisk_good.read hox0) hb) hb.size) (rManifest_good.mono (rManifest_good.below (oManifest_good.read hox1) hb) hb.size) hwn0 hwn1 (hT.below (bthen hB7 hb))
   go_wp2_with fail
   refine Calls.mono (hC _ ?_) ?_
   ·exact gbt
   clear hC
   rintro e w8 ⟨vg0, Fg0, he, hog0, hNg0, hgeg0, hx8⟩
   have hZ8 : w7.heap.size + 1 ≤ w8.heap.size := by have h := hx8.size; first | exact h | (simp at h; omega)
   rw [← HR0.out] at hog0
   have hgeg0o : ∀ b, b ∈ Fg0 → w7.heap.size + 1 ≤ b := fun b hb => by have h := hgeg0 b hb; first | exact h | (simp at h; omega)
   clear hgeg0
   rw [← HR1.out] at he
   subst he
   have hG8 : Below w7.heap.size w7 w8 := bthen (hx := hx8) (h := gbt)
   replace hbxA0 := hbxA0.under hG8
   replace hbxA1 := hbxA1.under hG8
   replace hbxs0 := hbxs0.under hG8
   replace hbxx0 := hbxx0.under hG8
   replace hox0 := (oDisk_good.frame hox0 (fun b hb => hG8.block b (oDisk_good.lt hox0 b hb)))
   replace hox1 := (oManifest_good.frame hox1 (fun b hb => hG8.block b (oManifest_good.lt hox1 b hb)))
   replace hrs0 := (rDisk_good.below hrs0 (hG8.mono hbs0))
   replace hbs0 := Nat.le_trans hbs0 hG8.size
   have hbxx1 : Bx w8 (w7.heap.size) [.int .i64 m1.fNext, .int .i64 m1.fLog, .slice ax1_2 m1.fTables.length cx1_2] := (Bx.new _ [.int .i64 m1.fNext, .int .i64 m1.fLog, .slice ax1_2 m1.fTables.length cx1_2] _).under hx8
   replace xbA0_0 := hbxA0.2 0 _ rfl
   replace xbA0_1 := hbxA0.2 1 _ rfl
   replace xbA0_2 := hbxA0.2 2 _ rfl
   replace xbA0_3 := hbxA0.2 3 _ rfl
   replace hlbA0 := hbxA0.1
   replace xbA1_0 := hbxA1.2 0 _ rfl
   replace xbA1_1 := hbxA1.2 1 _ rfl
   replace xbA1_2 := hbxA1.2 2 _ rfl
   replace hlbA1 := hbxA1.1
   replace xbs0_0 := hbxs0.2 0 _ rfl
   replace xbs0_1 := hbxs0.2 1 _ rfl
   replace xbs0_2 := hbxs0.2 2 _ rfl
   replace xbs0_3 := hbxs0.2 3 _ rfl
   replace hlbs0 := hbxs0.1
   replace xbx0_0 := hbxx0.2 0 _ rfl
   replace xbx0_1 := hbxx0.2 1 _ rfl
   replace xbx0_2 := hbxx0.2 2 _ rfl
   replace xbx0_3 := hbxx0.2 3 _ rfl
   replace hlbx0 := hbxx0.1
   have xbx1_0 : w8.cell? ⟨w7.heap.size, 0, none⟩ = some (.int .i64 m1.fNext) := hbxx1.2 0 _ rfl
   have xbx1_1 : w8.cell? ⟨w7.heap.size, 1, none⟩ = some (.int .i64 m1.fLog) := hbxx1.2 1 _ rfl
   have xbx1_2 : w8.cell? ⟨w7.heap.size, 2, none⟩ = some (.slice ax1_2 m1.fTables.length cx1_2) := hbxx1.2 2 _ rfl
   have hlbx1 : w7.heap.size < w8.heap.size := hbxx1.1
   have hB8 : Below w.heap.size w w8 := bthen hB7 hG8
   clear hx8
   have hltg0 : ∀ b, b ∈ Fg0 → b < w8.heap.size := fun b hb => oDisk_good.lt hog0 b hb
   have hq := (oDisk_good.read hog0)
   obtain ⟨ag0_0, cg0_0, ag0_1, cg0_1, ag0_2, cg0_2, rfl, _⟩ := hq
   have hC := fun (W : World) (hb : Below w8.heap.size w8 W) => eqDisk_yes _ _ R0 W (rDisk_good.mono (rDisk_good.below (oDisk_good.read hog0) hb) hb.size) (rDisk_good.mono (rDisk_good.below hrs0 (hb.mono hbs0)) (Nat.le_trans hbs0 hb.size)) (by omega)
   go_wp2_with fail
   refine Calls.mono (hC _ ?_) ?_
   ·exact gbt
   clear hC
   rintro e w9 ⟨rfl, hx9⟩
   have hZ9 : w8.heap.size + 1 ≤ w9.heap.size := by have h := hx9.size; first | exact h | (simp at h; omega)
   have hG9 : Below w8.heap.size w8 w9 := bthen (hx := hx9) (h := gbt)
   replace hbxA0 := hbxA0.under hG9
   replace hbxA1 := hbxA1.under hG9
   replace hbxs0 := hbxs0.under hG9
   replace hbxx0 := hbxx0.under hG9
   replace hbxx1 := hbxx1.under hG9
   replace hox0 := (oDisk_good.frame hox0 (fun b hb => hG9.block b (oDisk_good.lt hox0 b hb)))
   replace hox1 := (oManifest_good.frame hox1 (fun b hb => hG9.block b (oManifest_good.lt hox1 b hb)))
   replace hog0 := (oDisk_good.frame hog0 (fun b hb => hG9.block b (oDisk_good.lt hog0 b hb)))
   replace hrs0 := (rDisk_good.below hrs0 (hG9.mono hbs0))
   replace hbs0 := Nat.le_trans hbs0 hG9.size
   have hbxg0 : Bx w9 (w8.heap.size) [.slice ag0_0 R0.fInodes.length cg0_0, .slice ag0_1 R0.fNames.length cg0_1, .slice ag0_2 R0.fSafe.length cg0_2, .int .i64 R0.fNext] := (Bx.new _ [.slice ag0_0 R0.fInodes.length cg0_0, .slice ag0_1 R0.fNames.length cg0_1, .slice ag0_2 R0.fSafe.length cg0_2, .int .i64 R0.fNext] _).under hx9
   replace xbA0_0 := hbxA0.2 0 _ rfl
   replace xbA0_1 := hbxA0.2 1 _ rfl
   replace xbA0_2 := hbxA0.2 2 _ rfl
   replace xbA0_3 := hbxA0.2 3 _ rfl
   replace hlbA0 := hbxA0.1
   replace xbA1_0 := hbxA1.2 0 _ rfl
   replace xbA1_1 := hbxA1.2 1 _ rfl
   replace xbA1_2 := hbxA1.2 2 _ rfl
   replace hlbA1 := hbxA1.1
   replace xbs0_0 := hbxs0.2 0 _ rfl
   replace xbs0_1 := hbxs0.2 1 _ rfl
   replace xbs0_2 := hbxs0.2 2 _ rfl
   replace xbs0_3 := hbxs0.2 3 _ rfl
   replace hlbs0 := hbxs0.1
   replace xbx0_0 := hbxx0.2 0 _ rfl
   replace xbx0_1 := hbxx0.2 1 _ rfl
   replace xbx0_2 := hbxx0.2 2 _ rfl
   replace xbx0_3 := hbxx0.2 3 _ rfl
   replace hlbx0 := hbxx0.1
   replace xbx1_0 := hbxx1.2 0 _ rfl
   replace xbx1_1 := hbxx1.2 1 _ rfl
   replace xbx1_2 := hbxx1.2 2 _ rfl
   replace hlbx1 := hbxx1.1
   have xbg0_0 : w9.cell? ⟨w8.heap.size, 0, none⟩ = some (.slice ag0_0 R0.fInodes.length cg0_0) := hbxg0.2 0 _ rfl
   have xbg0_1 : w9.cell? ⟨w8.heap.size, 1, none⟩ = some (.slice ag0_1 R0.fNames.length cg0_1) := hbxg0.2 1 _ rfl
   have xbg0_2 : w9.cell? ⟨w8.heap.size, 2, none⟩ = some (.slice ag0_2 R0.fSafe.length cg0_2) := hbxg0.2 2 _ rfl
   have xbg0_3 : w9.cell? ⟨w8.heap.size, 3, none⟩ = some (.int .i64 R0.fNext) := hbxg0.2 3 _ rfl
   have hlbg0 : w8.heap.size < w9.heap.size := hbxg0.1
   have hB9 : Below w.heap.size w w9 := bthen hB8 hG9
   clear hx9
   have hC1 := fun (W : World) (hb : Below w9.heap.size w9 W) => toDisk_any _ m0 W (rDisk_good.mono (rDisk_good.below hr0 (bthen hB9 hb)) (bthen hB9 hb).size) hwn0
   have hC2 := fun (W W2 : World) (v2 : List Value) (F2 : List Nat) (hb : Below w9.heap.size w9 W) (hb2 : Below W.heap.size W W2) (ho2 : oDisk W2 v2 m0 F2) => eqDisk_yes _ v2 m0 W2 (rDisk_good.mono (rDisk_good.below (oDisk_good.read hox0) (bthen hb hb2)) (bthen hb hb2).size) (oDisk_good.read ho2) (by omega)
   go_wp2_with fail
   have pp0 : ∀ W, Below w9.heap.size w9 W → W.cell? ⟨w.heap.size, 0, none⟩ = some (.slice a0_0 m0.fInodes.length c0_0) := fun W hb => (hbxA0.under hb).2 0 _ rfl
   have pp1 : ∀ W, Below w9.heap.size w9 W → W.cell? ⟨w.heap.size, 1, none⟩ = some (.slice a0_1 m0.fNames.length c0_1) := fun W hb => (hbxA0.under hb).2 1 _ rfl
   have pp2 : ∀ W, Below w9.heap.size w9 W → W.cell? ⟨w.heap.size, 2, none⟩ = some (.slice a0_2 m0.fSafe.length c0_2) := fun W hb => (hbxA0.under hb).2 2 _ rfl
   have pp3 : ∀ W, Below w9.heap.size w9 W → W.cell? ⟨w.heap.size, 3, none⟩ = some (.int .i64 m0.fNext) := fun W hb => (hbxA0.under hb).2 3 _ rfl
   have pq0 : ∀ W, Below w9.heap.size w9 W → W.cell? ⟨w6.heap.size, 0, none⟩ = some (.slice ax0_0 m0.fInodes.length cx0_0) := fun W hb => (hbxx0.under hb).2 0 _ rfl
   have pq1 : ∀ W, Below w9.heap.size w9 W → W.cell? ⟨w6.heap.size, 1, none⟩ = some (.slice ax0_1 m0.fNames.length cx0_1) := fun W hb => (hbxx0.under hb).2 1 _ rfl
   have pq2 : ∀ W, Below w9.heap.size w9 W → W.cell? ⟨w6.heap.size, 2, none⟩ = some (.slice ax0_2 m0.fSafe.length cx0_2) := fun W hb => (hbxx0.under hb).2 2 _ rfl
   have pq3 : ∀ W, Below w9.heap.size w9 W → W.cell? ⟨w6.heap.size, 3, none⟩ = some (.int .i64 m0.fNext) := fun W hb => (hbxx0.under hb).2 3 _ rfl
   refine wp_region_held_drew (S := fun W => Below w9.heap.size w9 W) (by kernel_rfl) (Below.drew (Below.refl _ _)) (fun hHeld => ?_)
   refine uqq 0 q38e_3_14_0 54 hHeld ?_
   refine uqq 1 q38e_3_14_1 55 hHeld ?_
   refine ar1 2 q38e_3_14_2 fun K hK => ?_
   go_simp
   refine Calls.mono (hC1 _ hHeld) ?_
   rintro e w10 ⟨vt0, Ft0, rfl, hot0, hNt0, hget0, hx10⟩
   have hx1 := hx10
   have hG10 : Below w9.heap.size w9 w10 := bthen hHeld hx10
   obtain ⟨at0_0, ct0_0, at0_1, ct0_1, at0_2, ct0_2, rfl, _⟩ := id (oDisk_good.read hot0)
   go_wp2_with fail
   refine hK.out _ _ (bthen hHeld hx1) (fun hHeld => ?_)
   clear hK K
   try simp only[Act.put,sa,s0,s1]
   refine ar1 3 q38e_3_14_3 fun K hK => ?_
   go_simp
   refine Calls.mono (hC2 _ _ _ _ (Below.refl _ _) hG10 hot0) ?_
   rintro e w11 ⟨rfl, hx11⟩
   have hx2 := hx11
   go_wp2_with fail
   refine hK.out _ _ (bthen hHeld hx2) (fun hHeld => ?_)
   clear hK K
   try simp only[Act.put,sa,s0,s1]
   refine uqq 4 q38e_3_14_4 58 hHeld ?_
   refine wpAnyH_done (by kernel_rfl) ?_ _
   clear hHeld hx1 hx2 pp0 pq0 pp1 pq1 pp2 pq2 pp3 pq3
   all_goals
    have hZ10 : w9.heap.size ≤ w10.heap.size := by have h := hx10.size; first | exact h | (simp at h; omega)
    have hZ11 : w10.heap.size ≤ w11.heap.size := hx11.size
    have hGG11 : Below w9.heap.size w9 w11 := bthen hG10 hx11
    replace hbxA0 := hbxA0.under hGG11
    replace hbxA1 := hbxA1.under hGG11
    replace hbxs0 := hbxs0.under hGG11
    replace hbxx0 := hbxx0.under hGG11
    replace hbxx1 := hbxx1.under hGG11
    replace hbxg0 := hbxg0.under hGG11
    replace hox0 := (oDisk_good.frame hox0 (fun b hb => hGG11.block b (oDisk_good.lt hox0 b hb)))
    replace hox1 := (oManifest_good.frame hox1 (fun b hb => hGG11.block b (oManifest_good.lt hox1 b hb)))
    replace hog0 := (oDisk_good.frame hog0 (fun b hb => hGG11.block b (oDisk_good.lt hog0 b hb)))
    replace hrs0 := (rDisk_good.below hrs0 (hGG11.mono hbs0))
    replace hbs0 := Nat.le_trans hbs0 hGG11.size
    replace xbA0_0 := hbxA0.2 0 _ rfl
    replace xbA0_1 := hbxA0.2 1 _ rfl
    replace xbA0_2 := hbxA0.2 2 _ rfl
    replace xbA0_3 := hbxA0.2 3 _ rfl
    replace hlbA0 := hbxA0.1
    replace xbA1_0 := hbxA1.2 0 _ rfl
    replace xbA1_1 := hbxA1.2 1 _ rfl
    replace xbA1_2 := hbxA1.2 2 _ rfl
    replace hlbA1 := hbxA1.1
    replace xbs0_0 := hbxs0.2 0 _ rfl
    replace xbs0_1 := hbxs0.2 1 _ rfl
    replace xbs0_2 := hbxs0.2 2 _ rfl
    replace xbs0_3 := hbxs0.2 3 _ rfl
    replace hlbs0 := hbxs0.1
    replace xbx0_0 := hbxx0.2 0 _ rfl
    replace xbx0_1 := hbxx0.2 1 _ rfl
    replace xbx0_2 := hbxx0.2 2 _ rfl
    replace xbx0_3 := hbxx0.2 3 _ rfl
    replace hlbx0 := hbxx0.1
    replace xbx1_0 := hbxx1.2 0 _ rfl
    replace xbx1_1 := hbxx1.2 1 _ rfl
    replace xbx1_2 := hbxx1.2 2 _ rfl
    replace hlbx1 := hbxx1.1
    replace xbg0_0 := hbxg0.2 0 _ rfl
    replace xbg0_1 := hbxg0.2 1 _ rfl
    replace xbg0_2 := hbxg0.2 2 _ rfl
    replace xbg0_3 := hbxg0.2 3 _ rfl
    replace hlbg0 := hbxg0.1
    have hB11 : Below w.heap.size w w11 := bthen hB9 hGG11
    clear hx10 hx11 hC1 hC2 hot0 hNt0 hget0
    have hC1 := fun (W : World) (hb : Below w11.heap.size w11 W) => toManifest_any _ m1 W (rManifest_good.mono (rManifest_good.below hr1 (bthen hB11 hb)) (bthen hB11 hb).size) hwn1
    have hC2 := fun (W W2 : World) (v2 : List Value) (F2 : List Nat) (hb : Below w11.heap.size w11 W) (hb2 : Below W.heap.size W W2) (ho2 : oManifest W2 v2 m1 F2) => eqManifest_yes _ v2 m1 W2 (rManifest_good.mono (rManifest_good.below (oManifest_good.read hox1) (bthen hb hb2)) (bthen hb hb2).size) (oManifest_good.read ho2) (by omega)
    go_wp2_with fail
    have pp0 : ∀ W, Below w11.heap.size w11 W → W.cell? ⟨w.heap.size + 1, 0, none⟩ = some (.int .i64 m1.fNext) := fun W hb => (hbxA1.under hb).2 0 _ rfl
    have pp1 : ∀ W, Below w11.heap.size w11 W → W.cell? ⟨w.heap.size + 1, 1, none⟩ = some (.int .i64 m1.fLog) := fun W hb => (hbxA1.under hb).2 1 _ rfl
    have pp2 : ∀ W, Below w11.heap.size w11 W → W.cell? ⟨w.heap.size + 1, 2, none⟩ = some (.slice a1_2 m1.fTables.length c1_2) := fun W hb => (hbxA1.under hb).2 2 _ rfl
    have pq0 : ∀ W, Below w11.heap.size w11 W → W.cell? ⟨w7.heap.size, 0, none⟩ = some (.int .i64 m1.fNext) := fun W hb => (hbxx1.under hb).2 0 _ rfl
    have pq1 : ∀ W, Below w11.heap.size w11 W → W.cell? ⟨w7.heap.size, 1, none⟩ = some (.int .i64 m1.fLog) := fun W hb => (hbxx1.under hb).2 1 _ rfl
    have pq2 : ∀ W, Below w11.heap.size w11 W → W.cell? ⟨w7.heap.size, 2, none⟩ = some (.slice ax1_2 m1.fTables.length cx1_2) := fun W hb => (hbxx1.under hb).2 2 _ rfl
    refine wp_region_held_drew (S := fun W => Below w11.heap.size w11 W) (by kernel_rfl) (Below.drew (Below.refl _ _)) (fun hHeld => ?_)
    refine uqq 0 q38e_3_16_0 59 hHeld ?_
    refine uqq 1 q38e_3_16_1 60 hHeld ?_
    refine ar1 2 q38e_3_16_2 fun K hK => ?_
    go_simp
    refine Calls.mono (hC1 _ hHeld) ?_
    rintro e w12 ⟨vt1, Ft1, rfl, hot1, hNt1, hget1, hx12⟩
    have hx1 := hx12
    have hG12 : Below w11.heap.size w11 w12 := bthen hHeld hx12
    obtain ⟨at1_2, ct1_2, rfl, _⟩ := id (oManifest_good.read hot1)
    go_wp2_with fail
    refine hK.out _ _ (bthen hHeld hx1) (fun hHeld => ?_)
    clear hK K
    try simp only[Act.put,sa,s0,s1]
    refine ar1 3 q38e_3_16_3 fun K hK => ?_
    go_simp
    refine Calls.mono (hC2 _ _ _ _ (Below.refl _ _) hG12 hot1) ?_
    rintro e w13 ⟨rfl, hx13⟩
    have hx2 := hx13
    go_wp2_with fail
    refine hK.out _ _ (bthen hHeld hx2) (fun hHeld => ?_)
    clear hK K
    try simp only[Act.put,sa,s0,s1]
    refine uqq 4 q38e_3_16_4 63 hHeld ?_
    refine wpAnyH_done (by kernel_rfl) ?_ _
    clear hHeld hx1 hx2 pp0 pq0 pp1 pq1 pp2 pq2
    all_goals
     have hZ12 : w11.heap.size ≤ w12.heap.size := by have h := hx12.size; first | exact h | (simp at h; omega)
     have hZ13 : w12.heap.size ≤ w13.heap.size := hx13.size
     have hGG13 : Below w11.heap.size w11 w13 := bthen hG12 hx13
     replace hbxA0 := hbxA0.under hGG13
     replace hbxA1 := hbxA1.under hGG13
     replace hbxs0 := hbxs0.under hGG13
     replace hbxx0 := hbxx0.under hGG13
     replace hbxx1 := hbxx1.under hGG13
     replace hbxg0 := hbxg0.under hGG13
     replace hox0 := (oDisk_good.frame hox0 (fun b hb => hGG13.block b (oDisk_good.lt hox0 b hb)))
     replace hox1 := (oManifest_good.frame hox1 (fun b hb => hGG13.block b (oManifest_good.lt hox1 b hb)))
     replace hog0 := (oDisk_good.frame hog0 (fun b hb => hGG13.block b (oDisk_good.lt hog0 b hb)))
     replace hrs0 := (rDisk_good.below hrs0 (hGG13.mono hbs0))
     replace hbs0 := Nat.le_trans hbs0 hGG13.size
     replace xbA0_0 := hbxA0.2 0 _ rfl
     replace xbA0_1 := hbxA0.2 1 _ rfl
     replace xbA0_2 := hbxA0.2 2 _ rfl
     replace xbA0_3 := hbxA0.2 3 _ rfl
     replace hlbA0 := hbxA0.1
     replace xbA1_0 := hbxA1.2 0 _ rfl
     replace xbA1_1 := hbxA1.2 1 _ rfl
     replace xbA1_2 := hbxA1.2 2 _ rfl
     replace hlbA1 := hbxA1.1
     replace xbs0_0 := hbxs0.2 0 _ rfl
     replace xbs0_1 := hbxs0.2 1 _ rfl
     replace xbs0_2 := hbxs0.2 2 _ rfl
     replace xbs0_3 := hbxs0.2 3 _ rfl
     replace hlbs0 := hbxs0.1
     replace xbx0_0 := hbxx0.2 0 _ rfl
     replace xbx0_1 := hbxx0.2 1 _ rfl
     replace xbx0_2 := hbxx0.2 2 _ rfl
     replace xbx0_3 := hbxx0.2 3 _ rfl
     replace hlbx0 := hbxx0.1
     replace xbx1_0 := hbxx1.2 0 _ rfl
     replace xbx1_1 := hbxx1.2 1 _ rfl
     replace xbx1_2 := hbxx1.2 2 _ rfl
     replace hlbx1 := hbxx1.1
     replace xbg0_0 := hbxg0.2 0 _ rfl
     replace xbg0_1 := hbxg0.2 1 _ rfl
     replace xbg0_2 := hbxg0.2 2 _ rfl
     replace xbg0_3 := hbxg0.2 3 _ rfl
     replace hlbg0 := hbxg0.1
     have hB13 : Below w.heap.size w w13 := bthen hB11 hGG13
     clear hx12 hx13 hC1 hC2 hot1 hNt1 hget1
     have hC := fun (W : World) (hb : Below w13.heap.size w13 W) => markDisk_b _ m0 Fx0 1 W (by omega) (by omega) (oDisk_good.frame hox0 (fun b hb2 => hb.block b (oDisk_good.lt hox0 b hb2))) hNx0
     go_wp2_with fail
     refine Calls.mono (hC _ ?_) ?_
     ·exact gbt
     clear hC
     rintro e w14 ⟨mmx0, qx0, rfl, hqax0, hqbx0, homx0, hhx0, hx14⟩
     have hZ14 : w13.heap.size ≤ w14.heap.size := by have h := hx14.size; first | exact h | (simp at h; omega)
     have hG14 : Turn Fx0 w13 w14 := Turn.after (hx := hx14) (h := gbt)
     replace hbxA0 : Bx w14 (w.heap.size) [.slice a0_0 m0.fInodes.length c0_0, .slice a0_1 m0.fNames.length c0_1, .slice a0_2 m0.fSafe.length c0_2, .int .i64 m0.fNext] := hbxA0.turn hG14 (fun hm => by have h1 := hgex0o _ hm; have h2 := hltx0 _ hm; omega)
     replace hbxA1 : Bx w14 (w.heap.size + 1) [.int .i64 m1.fNext, .int .i64 m1.fLog, .slice a1_2 m1.fTables.length c1_2] := hbxA1.turn hG14 (fun hm => by have h1 := hgex0o _ hm; have h2 := hltx0 _ hm; omega)
     replace hbxs0 : Bx w14 (g5) [.slice as0_0 R0.fInodes.length cs0_0, .slice as0_1 R0.fNames.length cs0_1, .slice as0_2 R0.fSafe.length cs0_2, .int .i64 R0.fNext] := hbxs0.turn hG14 (fun hm => by have h1 := hgex0o _ hm; have h2 := hltx0 _ hm; omega)
     replace hbxx0 : Bx w14 (w6.heap.size) [.slice ax0_0 m0.fInodes.length cx0_0, .slice ax0_1 m0.fNames.length cx0_1, .slice ax0_2 m0.fSafe.length cx0_2, .int .i64 m0.fNext] := hbxx0.turn hG14 (fun hm => by have h1 := hgex0o _ hm; have h2 := hltx0 _ hm; omega)
     replace hbxx1 : Bx w14 (w7.heap.size) [.int .i64 m1.fNext, .int .i64 m1.fLog, .slice ax1_2 m1.fTables.length cx1_2] := hbxx1.turn hG14 (fun hm => by have h1 := hgex0o _ hm; have h2 := hltx0 _ hm; omega)
     replace hbxg0 : Bx w14 (w8.heap.size) [.slice ag0_0 R0.fInodes.length cg0_0, .slice ag0_1 R0.fNames.length cg0_1, .slice ag0_2 R0.fSafe.length cg0_2, .int .i64 R0.fNext] := hbxg0.turn hG14 (fun hm => by have h1 := hgex0o _ hm; have h2 := hltx0 _ hm; omega)
     replace hox1 := (oManifest_good.frame hox1 (fun b hb => hG14.block b (oManifest_good.lt hox1 b hb) (fun hm => by have h1 := hgex0o _ hm; have h2 := hltx0 _ hm; have h3 := hgex1o _ hb; have h4 := hltx1 _ hb; omega)))
     replace hog0 := (oDisk_good.frame hog0 (fun b hb => hG14.block b (oDisk_good.lt hog0 b hb) (fun hm => by have h1 := hgex0o _ hm; have h2 := hltx0 _ hm; have h3 := hgeg0o _ hb; have h4 := hltg0 _ hb; omega)))
     replace hrs0 := (rDisk_good.below hrs0 (Turn.below hG14 (fun k hk => by have h1 := hgex0o _ hk; omega) hbs0))
     replace hbs0 := Nat.le_trans hbs0 hG14.size
     replace xbA0_0 := hbxA0.2 0 _ rfl
     replace xbA0_1 := hbxA0.2 1 _ rfl
     replace xbA0_2 := hbxA0.2 2 _ rfl
     replace xbA0_3 := hbxA0.2 3 _ rfl
     replace hlbA0 := hbxA0.1
     replace xbA1_0 := hbxA1.2 0 _ rfl
     replace xbA1_1 := hbxA1.2 1 _ rfl
     replace xbA1_2 := hbxA1.2 2 _ rfl
     replace hlbA1 := hbxA1.1
     replace xbs0_0 := hbxs0.2 0 _ rfl
     replace xbs0_1 := hbxs0.2 1 _ rfl
     replace xbs0_2 := hbxs0.2 2 _ rfl
     replace xbs0_3 := hbxs0.2 3 _ rfl
     replace hlbs0 := hbxs0.1
     replace xbx0_0 := hbxx0.2 0 _ rfl
     replace xbx0_1 := hbxx0.2 1 _ rfl
     replace xbx0_2 := hbxx0.2 2 _ rfl
     replace xbx0_3 := hbxx0.2 3 _ rfl
     replace hlbx0 := hbxx0.1
     replace xbx1_0 := hbxx1.2 0 _ rfl
     replace xbx1_1 := hbxx1.2 1 _ rfl
     replace xbx1_2 := hbxx1.2 2 _ rfl
     replace hlbx1 := hbxx1.1
     replace xbg0_0 := hbxg0.2 0 _ rfl
     replace xbg0_1 := hbxg0.2 1 _ rfl
     replace xbg0_2 := hbxg0.2 2 _ rfl
     replace xbg0_3 := hbxg0.2 3 _ rfl
     replace hlbg0 := hbxg0.1
     have hB14 : Below w.heap.size w w14 := Turn.under hB13 hG14 (fun k hk => by have h1 := hgex0o _ hk; have h2 := hB13.size; omega)
     clear hx14 hox0
     have hox0 := homx0
     clear homx0
     have hC := fun (W : World) (hb : Below w14.heap.size w14 W) => markManifest_b _ m1 Fx1 qx0 W (by omega) (by omega) (oManifest_good.frame hox1 (fun b hb2 => hb.block b (oManifest_good.lt hox1 b hb2))) hNx1
     go_wp2_with fail
     refine Calls.mono (hC _ ?_) ?_
     ·exact gbt
     clear hC
     rintro e w15 ⟨mmx1, qx1, rfl, hqax1, hqbx1, homx1, hhx1, hx15⟩
     have hZ15 : w14.heap.size ≤ w15.heap.size := by have h := hx15.size; first | exact h | (simp at h; omega)
     have hG15 : Turn Fx1 w14 w15 := Turn.after (hx := hx15) (h := gbt)
     replace hbxA0 : Bx w15 (w.heap.size) [.slice a0_0 m0.fInodes.length c0_0, .slice a0_1 m0.fNames.length c0_1, .slice a0_2 m0.fSafe.length c0_2, .int .i64 m0.fNext] := hbxA0.turn hG15 (fun hm => by have h1 := hgex1o _ hm; have h2 := hltx1 _ hm; omega)
     replace hbxA1 : Bx w15 (w.heap.size + 1) [.int .i64 m1.fNext, .int .i64 m1.fLog, .slice a1_2 m1.fTables.length c1_2] := hbxA1.turn hG15 (fun hm => by have h1 := hgex1o _ hm; have h2 := hltx1 _ hm; omega)
     replace hbxs0 : Bx w15 (g5) [.slice as0_0 R0.fInodes.length cs0_0, .slice as0_1 R0.fNames.length cs0_1, .slice as0_2 R0.fSafe.length cs0_2, .int .i64 R0.fNext] := hbxs0.turn hG15 (fun hm => by have h1 := hgex1o _ hm; have h2 := hltx1 _ hm; omega)
     replace hbxx0 : Bx w15 (w6.heap.size) [.slice ax0_0 m0.fInodes.length cx0_0, .slice ax0_1 m0.fNames.length cx0_1, .slice ax0_2 m0.fSafe.length cx0_2, .int .i64 m0.fNext] := hbxx0.turn hG15 (fun hm => by have h1 := hgex1o _ hm; have h2 := hltx1 _ hm; omega)
     replace hbxx1 : Bx w15 (w7.heap.size) [.int .i64 m1.fNext, .int .i64 m1.fLog, .slice ax1_2 m1.fTables.length cx1_2] := hbxx1.turn hG15 (fun hm => by have h1 := hgex1o _ hm; have h2 := hltx1 _ hm; omega)
     replace hbxg0 : Bx w15 (w8.heap.size) [.slice ag0_0 R0.fInodes.length cg0_0, .slice ag0_1 R0.fNames.length cg0_1, .slice ag0_2 R0.fSafe.length cg0_2, .int .i64 R0.fNext] := hbxg0.turn hG15 (fun hm => by have h1 := hgex1o _ hm; have h2 := hltx1 _ hm; omega)
     replace hox0 := (oDisk_good.frame hox0 (fun b hb => hG15.block b (oDisk_good.lt hox0 b hb) (fun hm => by have h1 := hgex1o _ hm; have h2 := hltx1 _ hm; have h3 := hgex0o _ hb; have h4 := hltx0 _ hb; omega)))
     replace hog0 := (oDisk_good.frame hog0 (fun b hb => hG15.block b (oDisk_good.lt hog0 b hb) (fun hm => by have h1 := hgex1o _ hm; have h2 := hltx1 _ hm; have h3 := hgeg0o _ hb; have h4 := hltg0 _ hb; omega)))
     replace hrs0 := (rDisk_good.below hrs0 (Turn.below hG15 (fun k hk => by have h1 := hgex1o _ hk; omega) hbs0))
     replace hbs0 := Nat.le_trans hbs0 hG15.size
     replace xbA0_0 := hbxA0.2 0 _ rfl
     replace xbA0_1 := hbxA0.2 1 _ rfl
     replace xbA0_2 := hbxA0.2 2 _ rfl
     replace xbA0_3 := hbxA0.2 3 _ rfl
     replace hlbA0 := hbxA0.1
     replace xbA1_0 := hbxA1.2 0 _ rfl
     replace xbA1_1 := hbxA1.2 1 _ rfl
     replace xbA1_2 := hbxA1.2 2 _ rfl
     replace hlbA1 := hbxA1.1
     replace xbs0_0 := hbxs0.2 0 _ rfl
     replace xbs0_1 := hbxs0.2 1 _ rfl
     replace xbs0_2 := hbxs0.2 2 _ rfl
     replace xbs0_3 := hbxs0.2 3 _ rfl
     replace hlbs0 := hbxs0.1
     replace xbx0_0 := hbxx0.2 0 _ rfl
     replace xbx0_1 := hbxx0.2 1 _ rfl
     replace xbx0_2 := hbxx0.2 2 _ rfl
     replace xbx0_3 := hbxx0.2 3 _ rfl
     replace hlbx0 := hbxx0.1
     replace xbx1_0 := hbxx1.2 0 _ rfl
     replace xbx1_1 := hbxx1.2 1 _ rfl
     replace xbx1_2 := hbxx1.2 2 _ rfl
     replace hlbx1 := hbxx1.1
     replace xbg0_0 := hbxg0.2 0 _ rfl
     replace xbg0_1 := hbxg0.2 1 _ rfl
     replace xbg0_2 := hbxg0.2 2 _ rfl
     replace xbg0_3 := hbxg0.2 3 _ rfl
     replace hlbg0 := hbxg0.1
     have hB15 : Below w.heap.size w w15 := Turn.under hB14 hG15 (fun k hk => by have h1 := hgex1o _ hk; have h2 := hB14.size; omega)
     clear hx15 hox1
     have hox1 := homx1
     clear homx1
     have hC := fun (W : World) (hb : Below w15.heap.size w15 W) => eqDisk_yes _ _ R0 W (rDisk_good.mono (rDisk_good.below (oDisk_good.read hog0) hb) hb.size) (rDisk_good.mono (rDisk_good.below hrs0 (hb.mono hbs0)) (Nat.le_trans hbs0 hb.size)) (by omega)
     go_wp2_with fail
     refine Calls.mono (hC _ ?_) ?_
     ·exact gbt
     clear hC
     rintro e w16 ⟨rfl, hx16⟩
     have hZ16 : w15.heap.size ≤ w16.heap.size := by have h := hx16.size; first | exact h | (simp at h; omega)
     have hG16 : Below w15.heap.size w15 w16 := bthen (hx := hx16) (h := gbt)
     replace hbxA0 := hbxA0.under hG16
     replace hbxA1 := hbxA1.under hG16
     replace hbxs0 := hbxs0.under hG16
     replace hbxx0 := hbxx0.under hG16
     replace hbxx1 := hbxx1.under hG16
     replace hbxg0 := hbxg0.under hG16
     replace hog0 := (oDisk_good.frame hog0 (fun b hb => hG16.block b (oDisk_good.lt hog0 b hb)))
     replace hrs0 := (rDisk_good.below hrs0 (hG16.mono hbs0))
     replace hbs0 := Nat.le_trans hbs0 hG16.size
     replace xbA0_0 := hbxA0.2 0 _ rfl
     replace xbA0_1 := hbxA0.2 1 _ rfl
     replace xbA0_2 := hbxA0.2 2 _ rfl
     replace xbA0_3 := hbxA0.2 3 _ rfl
     replace hlbA0 := hbxA0.1
     replace xbA1_0 := hbxA1.2 0 _ rfl
     replace xbA1_1 := hbxA1.2 1 _ rfl
     replace xbA1_2 := hbxA1.2 2 _ rfl
     replace hlbA1 := hbxA1.1
     replace xbs0_0 := hbxs0.2 0 _ rfl
     replace xbs0_1 := hbxs0.2 1 _ rfl
     replace xbs0_2 := hbxs0.2 2 _ rfl
     replace xbs0_3 := hbxs0.2 3 _ rfl
     replace hlbs0 := hbxs0.1
     replace xbx0_0 := hbxx0.2 0 _ rfl
     replace xbx0_1 := hbxx0.2 1 _ rfl
     replace xbx0_2 := hbxx0.2 2 _ rfl
     replace xbx0_3 := hbxx0.2 3 _ rfl
     replace hlbx0 := hbxx0.1
     replace xbx1_0 := hbxx1.2 0 _ rfl
     replace xbx1_1 := hbxx1.2 1 _ rfl
     replace xbx1_2 := hbxx1.2 2 _ rfl
     replace hlbx1 := hbxx1.1
     replace xbg0_0 := hbxg0.2 0 _ rfl
     replace xbg0_1 := hbxg0.2 1 _ rfl
     replace xbg0_2 := hbxg0.2 2 _ rfl
     replace xbg0_3 := hbxg0.2 3 _ rfl
     replace hlbg0 := hbxg0.1
     have hB16 : Below w.heap.size w w16 := bthen hB15 hG16
     clear hx16
     have hC := fun (W : World) (hb : Below w16.heap.size w16 W) => markDisk_any _ R0 Fg0 1 W (by omega) (by omega) (oDisk_good.frame hog0 (fun b hb2 => hb.block b (oDisk_good.lt hog0 b hb2))) hNg0
     go_wp2_with fail
     refine Calls.mono (hC _ ?_) ?_
     ·exact gbt
     clear hC
     rintro e w17 ⟨mmg0, qg0, rfl, hqag0, hqbg0, homg0, hhg0, hx17⟩
     have hZ17 : w16.heap.size ≤ w17.heap.size := by have h := hx17.size; first | exact h | (simp at h; omega)
     have hG17 : Turn Fg0 w16 w17 := Turn.after (hx := hx17) (h := gbt)
     replace hbxA0 : Bx w17 (w.heap.size) [.slice a0_0 m0.fInodes.length c0_0, .slice a0_1 m0.fNames.length c0_1, .slice a0_2 m0.fSafe.length c0_2, .int .i64 m0.fNext] := hbxA0.turn hG17 (fun hm => by have h1 := hgeg0o _ hm; have h2 := hltg0 _ hm; omega)
     replace hbxA1 : Bx w17 (w.heap.size + 1) [.int .i64 m1.fNext, .int .i64 m1.fLog, .slice a1_2 m1.fTables.length c1_2] := hbxA1.turn hG17 (fun hm => by have h1 := hgeg0o _ hm; have h2 := hltg0 _ hm; omega)
     replace hbxs0 : Bx w17 (g5) [.slice as0_0 R0.fInodes.length cs0_0, .slice as0_1 R0.fNames.length cs0_1, .slice as0_2 R0.fSafe.length cs0_2, .int .i64 R0.fNext] := hbxs0.turn hG17 (fun hm => by have h1 := hgeg0o _ hm; have h2 := hltg0 _ hm; omega)
     replace hbxx0 : Bx w17 (w6.heap.size) [.slice ax0_0 m0.fInodes.length cx0_0, .slice ax0_1 m0.fNames.length cx0_1, .slice ax0_2 m0.fSafe.length cx0_2, .int .i64 m0.fNext] := hbxx0.turn hG17 (fun hm => by have h1 := hgeg0o _ hm; have h2 := hltg0 _ hm; omega)
     replace hbxx1 : Bx w17 (w7.heap.size) [.int .i64 m1.fNext, .int .i64 m1.fLog, .slice ax1_2 m1.fTables.length cx1_2] := hbxx1.turn hG17 (fun hm => by have h1 := hgeg0o _ hm; have h2 := hltg0 _ hm; omega)
     replace hbxg0 : Bx w17 (w8.heap.size) [.slice ag0_0 R0.fInodes.length cg0_0, .slice ag0_1 R0.fNames.length cg0_1, .slice ag0_2 R0.fSafe.length cg0_2, .int .i64 R0.fNext] := hbxg0.turn hG17 (fun hm => by have h1 := hgeg0o _ hm; have h2 := hltg0 _ hm; omega)
     replace hrs0 := (rDisk_good.below hrs0 (Turn.below hG17 (fun k hk => by have h1 := hgeg0o _ hk; omega) hbs0))
     replace hbs0 := Nat.le_trans hbs0 hG17.size
     replace xbA0_0 := hbxA0.2 0 _ rfl
     replace xbA0_1 := hbxA0.2 1 _ rfl
     replace xbA0_2 := hbxA0.2 2 _ rfl
     replace xbA0_3 := hbxA0.2 3 _ rfl
     replace hlbA0 := hbxA0.1
     replace xbA1_0 := hbxA1.2 0 _ rfl
     replace xbA1_1 := hbxA1.2 1 _ rfl
     replace xbA1_2 := hbxA1.2 2 _ rfl
     replace hlbA1 := hbxA1.1
     replace xbs0_0 := hbxs0.2 0 _ rfl
     replace xbs0_1 := hbxs0.2 1 _ rfl
     replace xbs0_2 := hbxs0.2 2 _ rfl
     replace xbs0_3 := hbxs0.2 3 _ rfl
     replace hlbs0 := hbxs0.1
     replace xbx0_0 := hbxx0.2 0 _ rfl
     replace xbx0_1 := hbxx0.2 1 _ rfl
     replace xbx0_2 := hbxx0.2 2 _ rfl
     replace xbx0_3 := hbxx0.2 3 _ rfl
     replace hlbx0 := hbxx0.1
     replace xbx1_0 := hbxx1.2 0 _ rfl
     replace xbx1_1 := hbxx1.2 1 _ rfl
     replace xbx1_2 := hbxx1.2 2 _ rfl
     replace hlbx1 := hbxx1.1
     replace xbg0_0 := hbxg0.2 0 _ rfl
     replace xbg0_1 := hbxg0.2 1 _ rfl
     replace xbg0_2 := hbxg0.2 2 _ rfl
     replace xbg0_3 := hbxg0.2 3 _ rfl
     replace hlbg0 := hbxg0.1
     have hB17 : Below w.heap.size w w17 := Turn.under hB16 hG17 (fun k hk => by have h1 := hgeg0o _ hk; have h2 := hB16.size; omega)
     clear hx17 hog0
     have hog0 := homg0
     clear homg0
     have hC := fun (W : World) (hb : Below w17.heap.size w17 W) => heldDisk_any _ mmg0 1 qg0 W (rDisk_good.mono (rDisk_good.below (oDisk_good.read hog0) hb) hb.size) hhg0 (by omega) (by omega)
     go_wp2_with fail
     refine Calls.mono (hC _ ?_) ?_
     ·exact gbt
     clear hC
     rintro e w18 ⟨rfl, hx18⟩
     have hZ18 : w17.heap.size ≤ w18.heap.size := by have h := hx18.size; first | exact h | (simp at h; omega)
     have hG18 : Below w17.heap.size w17 w18 := bthen (hx := hx18) (h := gbt)
     replace hbxA0 := hbxA0.under hG18
     replace hbxA1 := hbxA1.under hG18
     replace hbxs0 := hbxs0.under hG18
     replace hbxx0 := hbxx0.under hG18
     replace hbxx1 := hbxx1.under hG18
     replace hbxg0 := hbxg0.under hG18
     replace hog0 := (oDisk_good.frame hog0 (fun b hb => hG18.block b (oDisk_good.lt hog0 b hb)))
     replace hrs0 := (rDisk_good.below hrs0 (hG18.mono hbs0))
     replace hbs0 := Nat.le_trans hbs0 hG18.size
     replace xbA0_0 := hbxA0.2 0 _ rfl
     replace xbA0_1 := hbxA0.2 1 _ rfl
     replace xbA0_2 := hbxA0.2 2 _ rfl
     replace xbA0_3 := hbxA0.2 3 _ rfl
     replace hlbA0 := hbxA0.1
     replace xbA1_0 := hbxA1.2 0 _ rfl
     replace xbA1_1 := hbxA1.2 1 _ rfl
     replace xbA1_2 := hbxA1.2 2 _ rfl
     replace hlbA1 := hbxA1.1
     replace xbs0_0 := hbxs0.2 0 _ rfl
     replace xbs0_1 := hbxs0.2 1 _ rfl
     replace xbs0_2 := hbxs0.2 2 _ rfl
     replace xbs0_3 := hbxs0.2 3 _ rfl
     replace hlbs0 := hbxs0.1
     replace xbx0_0 := hbxx0.2 0 _ rfl
     replace xbx0_1 := hbxx0.2 1 _ rfl
     replace xbx0_2 := hbxx0.2 2 _ rfl
     replace xbx0_3 := hbxx0.2 3 _ rfl
     replace hlbx0 := hbxx0.1
     replace xbx1_0 := hbxx1.2 0 _ rfl
     replace xbx1_1 := hbxx1.2 1 _ rfl
     replace xbx1_2 := hbxx1.2 2 _ rfl
     replace hlbx1 := hbxx1.1
     replace xbg0_0 := hbxg0.2 0 _ rfl
     replace xbg0_1 := hbxg0.2 1 _ rfl
     replace xbg0_2 := hbxg0.2 2 _ rfl
     replace xbg0_3 := hbxg0.2 3 _ rfl
     replace hlbg0 := hbxg0.1
     have hB18 : Below w.heap.size w w18 := bthen hB17 hG18
     clear hx18
     have p0 : ∀ W, Below w18.heap.size w18 W → W.cell? ⟨w.heap.size, 0, none⟩ = some (.slice a0_0 m0.fInodes.length c0_0) := fun W hb => (hbxA0.under hb).2 0 _ rfl
     have p1 : ∀ W, Below w18.heap.size w18 W → W.cell? ⟨w.heap.size, 1, none⟩ = some (.slice a0_1 m0.fNames.length c0_1) := fun W hb => (hbxA0.under hb).2 1 _ rfl
     have p2 : ∀ W, Below w18.heap.size w18 W → W.cell? ⟨w.heap.size, 2, none⟩ = some (.slice a0_2 m0.fSafe.length c0_2) := fun W hb => (hbxA0.under hb).2 2 _ rfl
     have p3 : ∀ W, Below w18.heap.size w18 W → W.cell? ⟨w.heap.size, 3, none⟩ = some (.int .i64 m0.fNext) := fun W hb => (hbxA0.under hb).2 3 _ rfl
     have r0 : ∀ W, Below w18.heap.size w18 W → W.cell? ⟨w.heap.size + 1, 0, none⟩ = some (.int .i64 m1.fNext) := fun W hb => (hbxA1.under hb).2 0 _ rfl
     have r1 : ∀ W, Below w18.heap.size w18 W → W.cell? ⟨w.heap.size + 1, 1, none⟩ = some (.int .i64 m1.fLog) := fun W hb => (hbxA1.under hb).2 1 _ rfl
     have r2 : ∀ W, Below w18.heap.size w18 W → W.cell? ⟨w.heap.size + 1, 2, none⟩ = some (.slice a1_2 m1.fTables.length c1_2) := fun W hb => (hbxA1.under hb).2 2 _ rfl
     go_wp2_with fail
     obtain ⟨QQ, hQQ⟩ : ∃ q : Exit → Act → World → Prop, q = fun e a' w' => e = .normal ∧ ∃ (z0 z1 z5 z17 z18 z19 z20 z21 z22 z23 z24 z25 z26 z27 z28 z29 z30 z31 z32 z33 z34 z35 z36 z37 z38 z39 z40 z41 z42 z43 z44 z45 z46 z47 z48 z49 z50 z51 z52 z53 z54 z55 z56 z57 z58 z59 z60 z61 z62 z63 z64 z65 z66 z67 z68 z69 z70 z71 z72 z73 z74 z75 z76 z77 z78 z79 z80 z81 z82 z83 z84 z85 z86 z87 z88 z89 z90 z91 z92 z93 z94 z95 z96 z97 z98 z99 z100 z101 : Value) (g21 : Nat) (ak0_0 ak0_1 ak0_2 : Option Addr) (ck0_0 ck0_1 ck0_2 : Nat) (Fk0 : List Nat), a' = { tmps := #[z0, z1, .pointer (some ⟨w.heap.size, 0, none⟩), .pointer (some ⟨w.heap.size + 1, 0, none⟩), .bool false, z5, .pointer (some ⟨g5, 0, none⟩), .int .i64 R1, .pointer (some ⟨w6.heap.size, 0, none⟩), .pointer (some ⟨w7.heap.size, 0, none⟩), .pointer (some ⟨w8.heap.size, 0, none⟩), .int .i64 R1, .int .i64 qx1, .int .i64 qg0, .int .i64 qg0, .pointer (some ⟨g21, 0, none⟩), .int .i64 R1, z17, z18, z19, z20, z21, z22, z23, z24, z25, z26, z27, z28, z29, z30, z31, z32, z33, z34, z35, z36, z37, z38, z39, z40, z41, z42, z43, z44, z45, z46, z47, z48, z49, z50, z51, z52, z53, z54, z55, z56, z57, z58, z59, z60, z61, z62, z63, z64, z65, z66, z67, z68, z69, z70, z71, z72, z73, z74, z75, z76, z77, z78, z79, z80, z81, z82, z83, z84, z85, z86, z87, z88, z89, z90, z91, z92, z93, z94, z95, z96, z97, z98, z99, z100, z101, undef, undef, undef, undef, undef, undef, undef, undef, undef, undef, undef, undef, undef, undef, undef, undef, undef], defers := [] } ∧ Bx w' g21 [.slice ak0_0 R0.fInodes.length ck0_0, .slice ak0_1 R0.fNames.length ck0_1, .slice ak0_2 R0.fSafe.length ck0_2, .int .i64 R0.fNext] ∧ oDisk w' [.slice ak0_0 R0.fInodes.length ck0_0, .slice ak0_1 R0.fNames.length ck0_1, .slice ak0_2 R0.fSafe.length ck0_2, .int .i64 R0.fNext] R0 Fk0 ∧ Fk0.Nodup ∧ (∀ b, b ∈ Fk0 → w18.heap.size ≤ b) ∧ Below w18.heap.size w18 w' := ⟨_, rfl⟩
     have HQ := Hid.mk hQQ
     have hPan : ∀ c a w, QQ (.panic c) a w → False := by rw [hQQ]; intro c a w h; cases h.1
     clear hQQ
     refine Code.wp_mono (Q := QQ) ?mono2 ?reg2
     case reg2 =>
      refine wp_region_held_drew (S := fun W => Below w18.heap.size w18 W) (by kernel_rfl) (Below.drew (Below.refl _ _)) (fun hHeld => ?_)
      obtain ⟨wS, hwS⟩ : ∃ wS, wS = w18.drew := ⟨_, rfl⟩
      have hbS : Below w18.heap.size w18 wS := by rw [hwS]; exact Below.drew (Below.refl _ _)
      rw [← hwS] at hHeld ⊢
      clear hwS
      refine uqq 0 q38e_3_31_0 95 hHeld ?_
      refine uqq 2 q38e_3_31_2 97 hHeld ?_
      refine arR [1, 8] ?_
      refine (AllReadyH.cons (o := q38e_3_31_1) rfl (fun K hK => ?_) (AllReadyH.cons (o := q38e_3_31_8) rfl (fun K hK => ?_) AllReadyH.nil))
      ·go_simp
       have hf1 := bthen hB18 (bthen hbS (show Below wS.heap.size wS wS from Below.refl _ _))
       refine Calls.mono (toDisk_any _ m0 wS (rDisk_good.mono (rDisk_good.below hr0 hf1) hf1.size) hwn0) ?_
       rintro e wE1 ⟨vp0, Fvp0, rfl, hod, _, _, hx1e⟩
       have hop1 : Below wS.heap.size wS wE1 := hx1e
       obtain ⟨ad0, cad0, ad1, cad1, ad2, cad2, rfl, _⟩ := id (oDisk_good.read hod)
       go_wp2_with fail
       refine hK.out _ _ (bthen hHeld hop1) (fun hHeld => ?_)
       clear hK K
       try simp only[Act.put,sa,s0,s1]
       refine arR [3, 8] ?_
       refine (AllReadyH.cons (o := q38e_3_31_3) rfl (fun K hK => ?_) (AllReadyH.cons (o := q38e_3_31_8) rfl (fun K hK => ?_) AllReadyH.nil))
       ·go_simp
        have hf3 := bthen hB18 (bthen hbS (show Below wS.heap.size wS wE1 from bthen (Below.refl _ _) hop1))
        refine Calls.mono (toManifest_any _ m1 wE1 (rManifest_good.mono (rManifest_good.below hr1 hf3) hf3.size) hwn1) ?_
        rintro e wE3 ⟨vp1, Fvp1, rfl, hom, _, _, hx3e⟩
        have hop3 : Below wE1.heap.size wE1 wE3 := hx3e
        obtain ⟨am2, cam2, rfl, _⟩ := id (oManifest_good.read hom)
        go_wp2_with fail
        refine hK.out _ _ (bthen hHeld hop3) (fun hHeld => ?_)
        clear hK K
        try simp only[Act.put,sa,s0,s1]
        refine arR [4, 8] ?_
        refine (AllReadyH.cons (o := q38e_3_31_4) rfl (fun K hK => ?_) (AllReadyH.cons (o := q38e_3_31_8) rfl (fun K hK => ?_) AllReadyH.nil))
        ·go_simp
         have hg1 := (show Below wE1.heap.size wE1 wE3 from bthen (Below.refl _ _) hop3)
         have hg3 := (show Below wE3.heap.size wE3 wE3 from Below.refl _ _)
         have hf4 := bthen hbS (show Below wS.heap.size wS wE3 from bthen (bthen (Below.refl _ _) hop1) hop3)
         have hf4s := hf4.size
         refine Calls.mono (implInstall_c _ m0 _ m1 wE3 (rDisk_good.mono (rDisk_good.below (oDisk_good.read hod) hg1) hg1.size) (rManifest_good.mono (rManifest_good.below (oManifest_good.read hom) hg3) hg3.size) hwn0 hwn1 (hT.below (bthen hB18 hf4))) ?_
         rintro e wE4 ⟨cs5, F5, he, ho5, hN5, hge5, hx5⟩
         rw [← HR0.out] at ho5
         rw [← HR1.out] at he
         subst he
         have hop4 : Below wE3.heap.size wE3 wE4 := hx5
         obtain ⟨ak0_0, ck0_0, ak0_1, ck0_1, ak0_2, ck0_2, rfl, _⟩ := id (oDisk_good.read ho5)
         go_wp2_with fail
         refine hK.out _ _ (bthen hHeld hop4) (fun hHeld => ?_)
         clear hK K
         try simp only[Act.put,sa,s0,s1]
         refine uqq 5 q38e_3_31_5 94 hHeld ?_
         refine uqq 6 q38e_3_31_6 100 hHeld ?_
         refine uqq 7 q38e_3_31_7 101 hHeld ?_
         refine ar1 8 q38e_3_31_8 fun K hK => ?_
         ·go_simp
          obtain ⟨wE8, hq8⟩ : ∃ q, q = wE4.alloc (.cells #[.slice none 0 0, .slice none 0 0, .slice none 0 0, .int .i64 0] 34) := ⟨_, rfl⟩
          have hop8 : Below wE4.heap.size wE4 wE8 := by rw [hq8]; exact (Below.refl _ _).alloc (Nat.le_refl _) _
          obtain ⟨g8, HG8⟩ : ∃ z, Hid (z = wE4.heap.size) := ⟨_, Hid.mk rfl⟩
          have HB8 : Hid (Bw wE8 g8 34 [.slice none 0 0, .slice none 0 0, .slice none 0 0, .int .i64 0]) := by unfold Hid; rw [HG8.out, hq8]; exact Bw.new _ _ _
          have hgp2 : w18.heap.size ≤ g8 := by rw [HG8.out]; exact Nat.le_trans hbS.size (Below.size (show Below wS.heap.size wS wE4 from bthen (bthen (bthen (Below.refl _ _) hop1) hop3) hop4))
          rw [← HG8.out]
          rw [← hq8]
          clear hq8
          refine hK.out _ _ (bthen hHeld hop8) (fun hHeld => ?_)
          clear hK K
          try simp only[Act.put,sa,s0,s1]
          refine ar1 9 q38e_3_31_9 fun K hK => ?_
          ·skip
           have hb8 := HB8.out.under (show Below wE8.heap.size wE8 wE8 from Below.refl _ _)
           obtain ⟨s0, sf0, s1, sf1, s2, sf2, s3, sf3⟩ := hb8.c8
           have hl8 := hb8.lt
           go_simp
           obtain ⟨wE9, hq9⟩ : ∃ q, q = ((((wE8.setCell ⟨g8, 0, none⟩ (.slice ak0_0 R0.fInodes.length ck0_0)).setCell ⟨g8, 1, none⟩ (.slice ak0_1 R0.fNames.length ck0_1)).setCell ⟨g8, 2, none⟩ (.slice ak0_2 R0.fSafe.length ck0_2)).setCell ⟨g8, 3, none⟩ (.int .i64 R0.fNext)) := ⟨_, rfl⟩
           have hT9 : Turn [g8] wE8 wE9 := by rw [hq9]; exact (((((Turn.refl _ _).setCell (by simp) _).setCell (by simp) _).setCell (by simp) _).setCell (by simp) _)
           have hbx : Bw wE9 g8 34 [.slice ak0_0 R0.fInodes.length ck0_0, .slice ak0_1 R0.fNames.length ck0_1, .slice ak0_2 R0.fSafe.length ck0_2, .int .i64 R0.fNext] := by rw [hq9]; exact ((((hb8.put 0 _).put 1 _).put 2 _).put 3 _)
           have hpS := (show Below wE4.heap.size wE4 wE8 from bthen (Below.refl _ _) hop8)
           have hgo := (show Below wE8.heap.size wE8 wE8 from Below.refl _ _)
           rw [← hq9]
           clear hq9 hb8 s0 sf0 s1 sf1 s2 sf2 s3 sf3
           refine hK.out _ _ (hHeld.trans (hT9.below (fun k hk => by simp at hk; omega) hHeld.size)) (fun hHeld => ?_)
           clear hK K
           try simp only[Act.put,sa,s0,s1]
           refine uqq 10 q38e_3_31_10 16 hHeld ?_
           refine wpAnyH_done (by kernel_rfl) ?_ _
           have hgne : ∀ b, b ∈ F5 → b ≠ g8 := fun b hb h => by have h1 := hge5 b hb; have h2 := oDisk_good.lt ho5 b hb; have h3 := HB8.out.lt; have h4 := HG8.out; have h5 := hop1.size; have h6 := hop3.size; have h7 := hop8.size; have h8 := hop4.size; omega
           have ho59 : oDisk wE9 [.slice ak0_0 R0.fInodes.length ck0_0, .slice ak0_1 R0.fNames.length ck0_1, .slice ak0_2 R0.fSafe.length ck0_2, .int .i64 R0.fNext] R0 F5 := oDisk_good.frame (oDisk_good.frame ho5 (fun b hb => hpS.block b (oDisk_good.lt ho5 b hb))) (fun b hb => hT9.block b (by have := oDisk_good.lt ho5 b hb; have := hpS.size; omega) (by intro h; simp at h; exact hgne b hb h))
           rw [HQ.out]
           exact ⟨rfl, _, _, _, _, _, _, _, _, _, _, _, _, _, _, _, _, _, _, _, _, _, _, _, _, _, _, _, _, _, _, _, _, _, _, _, _, _, _, _, _, _, _, _, _, _, _, _, _, _, _, _, _, _, _, _, _, _, _, _, _, _, _, _, _, _, _, _, _, _, _, _, _, _, _, _, _, _, _, _, _, _, _, _, _, _, _, _, _, g8, _, _, _, _, _, _, F5, rfl, ⟨hbx.lt, fun i v hv => hbx.cell i v hv⟩, ho59, hN5, (fun b hb => by have h1 := hge5 b hb; omega), hHeld⟩
        ·go_simp
         obtain ⟨wE8, hq8⟩ : ∃ q, q = wE3.alloc (.cells #[.slice none 0 0, .slice none 0 0, .slice none 0 0, .int .i64 0] 34) := ⟨_, rfl⟩
         have hop8 : Below wE3.heap.size wE3 wE8 := by rw [hq8]; exact (Below.refl _ _).alloc (Nat.le_refl _) _
         obtain ⟨g8, HG8⟩ : ∃ z, Hid (z = wE3.heap.size) := ⟨_, Hid.mk rfl⟩
         have HB8 : Hid (Bw wE8 g8 34 [.slice none 0 0, .slice none 0 0, .slice none 0 0, .int .i64 0]) := by unfold Hid; rw [HG8.out, hq8]; exact Bw.new _ _ _
         have hgp2 : w18.heap.size ≤ g8 := by rw [HG8.out]; exact Nat.le_trans hbS.size (Below.size (show Below wS.heap.size wS wE3 from bthen (bthen (Below.refl _ _) hop1) hop3))
         rw [← HG8.out]
         rw [← hq8]
         clear hq8
         refine hK.out _ _ (bthen hHeld hop8) (fun hHeld => ?_)
         clear hK K
         try simp only[Act.put,sa,s0,s1]
         refine ar1 4 q38e_3_31_4 fun K hK => ?_
         ·go_simp
          have hg1 := (show Below wE1.heap.size wE1 wE8 from bthen (bthen (Below.refl _ _) hop3) hop8)
          have hg3 := (show Below wE3.heap.size wE3 wE8 from bthen (Below.refl _ _) hop8)
          have hf4 := bthen hbS (show Below wS.heap.size wS wE8 from bthen (bthen (bthen (Below.refl _ _) hop1) hop3) hop8)
          have hf4s := hf4.size
          refine Calls.mono (implInstall_c _ m0 _ m1 wE8 (rDisk_good.mono (rDisk_good.below (oDisk_good.read hod) hg1) hg1.size) (rManifest_good.mono (rManifest_good.below (oManifest_good.read hom) hg3) hg3.size) hwn0 hwn1 (hT.below (bthen hB18 hf4))) ?_
          rintro e wE4 ⟨cs5, F5, he, ho5, hN5, hge5, hx5⟩
          rw [← HR0.out] at ho5
          rw [← HR1.out] at he
          subst he
          have hop4 : Below wE8.heap.size wE8 wE4 := hx5
          obtain ⟨ak0_0, ck0_0, ak0_1, ck0_1, ak0_2, ck0_2, rfl, _⟩ := id (oDisk_good.read ho5)
          go_wp2_with fail
          refine hK.out _ _ (bthen hHeld hop4) (fun hHeld => ?_)
          clear hK K
          try simp only[Act.put,sa,s0,s1]
          refine uqq 5 q38e_3_31_5 94 hHeld ?_
          refine uqq 6 q38e_3_31_6 100 hHeld ?_
          refine uqq 7 q38e_3_31_7 101 hHeld ?_
          refine ar1 9 q38e_3_31_9 fun K hK => ?_
          ·skip
           have hb8 := HB8.out.under (show Below wE8.heap.size wE8 wE4 from bthen (Below.refl _ _) hop4)
           obtain ⟨s0, sf0, s1, sf1, s2, sf2, s3, sf3⟩ := hb8.c8
           have hl8 := hb8.lt
           go_simp
           obtain ⟨wE9, hq9⟩ : ∃ q, q = ((((wE4.setCell ⟨g8, 0, none⟩ (.slice ak0_0 R0.fInodes.length ck0_0)).setCell ⟨g8, 1, none⟩ (.slice ak0_1 R0.fNames.length ck0_1)).setCell ⟨g8, 2, none⟩ (.slice ak0_2 R0.fSafe.length ck0_2)).setCell ⟨g8, 3, none⟩ (.int .i64 R0.fNext)) := ⟨_, rfl⟩
           have hT9 : Turn [g8] wE4 wE9 := by rw [hq9]; exact (((((Turn.refl _ _).setCell (by simp) _).setCell (by simp) _).setCell (by simp) _).setCell (by simp) _)
           have hbx : Bw wE9 g8 34 [.slice ak0_0 R0.fInodes.length ck0_0, .slice ak0_1 R0.fNames.length ck0_1, .slice ak0_2 R0.fSafe.length ck0_2, .int .i64 R0.fNext] := by rw [hq9]; exact ((((hb8.put 0 _).put 1 _).put 2 _).put 3 _)
           have hpS := (show Below wE4.heap.size wE4 wE4 from Below.refl _ _)
           have hgo := (show Below wE8.heap.size wE8 wE4 from bthen (Below.refl _ _) hop4)
           rw [← hq9]
           clear hq9 hb8 s0 sf0 s1 sf1 s2 sf2 s3 sf3
           refine hK.out _ _ (hHeld.trans (hT9.below (fun k hk => by simp at hk; omega) hHeld.size)) (fun hHeld => ?_)
           clear hK K
           try simp only[Act.put,sa,s0,s1]
           refine uqq 10 q38e_3_31_10 16 hHeld ?_
           refine wpAnyH_done (by kernel_rfl) ?_ _
           have hgne : ∀ b, b ∈ F5 → b ≠ g8 := fun b hb h => by have h1 := hge5 b hb; have h2 := oDisk_good.lt ho5 b hb; have h3 := HB8.out.lt; have h4 := HG8.out; have h5 := hop1.size; have h6 := hop3.size; have h7 := hop8.size; have h8 := hop4.size; omega
           have ho59 : oDisk wE9 [.slice ak0_0 R0.fInodes.length ck0_0, .slice ak0_1 R0.fNames.length ck0_1, .slice ak0_2 R0.fSafe.length ck0_2, .int .i64 R0.fNext] R0 F5 := oDisk_good.frame (oDisk_good.frame ho5 (fun b hb => hpS.block b (oDisk_good.lt ho5 b hb))) (fun b hb => hT9.block b (by have := oDisk_good.lt ho5 b hb; have := hpS.size; omega) (by intro h; simp at h; exact hgne b hb h))
           rw [HQ.out]
           exact ⟨rfl, _, _, _, _, _, _, _, _, _, _, _, _, _, _, _, _, _, _, _, _, _, _, _, _, _, _, _, _, _, _, _, _, _, _, _, _, _, _, _, _, _, _, _, _, _, _, _, _, _, _, _, _, _, _, _, _, _, _, _, _, _, _, _, _, _, _, _, _, _, _, _, _, _, _, _, _, _, _, _, _, _, _, _, _, _, _, _, _, g8, _, _, _, _, _, _, F5, rfl, ⟨hbx.lt, fun i v hv => hbx.cell i v hv⟩, ho59, hN5, (fun b hb => by have h1 := hge5 b hb; omega), hHeld⟩
       ·go_simp
        obtain ⟨wE8, hq8⟩ : ∃ q, q = wE1.alloc (.cells #[.slice none 0 0, .slice none 0 0, .slice none 0 0, .int .i64 0] 34) := ⟨_, rfl⟩
        have hop8 : Below wE1.heap.size wE1 wE8 := by rw [hq8]; exact (Below.refl _ _).alloc (Nat.le_refl _) _
        obtain ⟨g8, HG8⟩ : ∃ z, Hid (z = wE1.heap.size) := ⟨_, Hid.mk rfl⟩
        have HB8 : Hid (Bw wE8 g8 34 [.slice none 0 0, .slice none 0 0, .slice none 0 0, .int .i64 0]) := by unfold Hid; rw [HG8.out, hq8]; exact Bw.new _ _ _
        have hgp2 : w18.heap.size ≤ g8 := by rw [HG8.out]; exact Nat.le_trans hbS.size (Below.size (show Below wS.heap.size wS wE1 from bthen (Below.refl _ _) hop1))
        rw [← HG8.out]
        rw [← hq8]
        clear hq8
        refine hK.out _ _ (bthen hHeld hop8) (fun hHeld => ?_)
        clear hK K
        try simp only[Act.put,sa,s0,s1]
        refine ar1 3 q38e_3_31_3 fun K hK => ?_
        ·go_simp
         have hf3 := bthen hB18 (bthen hbS (show Below wS.heap.size wS wE8 from bthen (bthen (Below.refl _ _) hop1) hop8))
         refine Calls.mono (toManifest_any _ m1 wE8 (rManifest_good.mono (rManifest_good.below hr1 hf3) hf3.size) hwn1) ?_
         rintro e wE3 ⟨vp1, Fvp1, rfl, hom, _, _, hx3e⟩
         have hop3 : Below wE8.heap.size wE8 wE3 := hx3e
         obtain ⟨am2, cam2, rfl, _⟩ := id (oManifest_good.read hom)
         go_wp2_with fail
         refine hK.out _ _ (bthen hHeld hop3) (fun hHeld => ?_)
         clear hK K
         try simp only[Act.put,sa,s0,s1]
         refine ar1 4 q38e_3_31_4 fun K hK => ?_
         ·go_simp
          have hg1 := (show Below wE1.heap.size wE1 wE3 from bthen (bthen (Below.refl _ _) hop8) hop3)
          have hg3 := (show Below wE3.heap.size wE3 wE3 from Below.refl _ _)
          have hf4 := bthen hbS (show Below wS.heap.size wS wE3 from bthen (bthen (bthen (Below.refl _ _) hop1) hop8) hop3)
          have hf4s := hf4.size
          refine Calls.mono (implInstall_c _ m0 _ m1 wE3 (rDisk_good.mono (rDisk_good.below (oDisk_good.read hod) hg1) hg1.size) (rManifest_good.mono (rManifest_good.below (oManifest_good.read hom) hg3) hg3.size) hwn0 hwn1 (hT.below (bthen hB18 hf4))) ?_
          rintro e wE4 ⟨cs5, F5, he, ho5, hN5, hge5, hx5⟩
          rw [← HR0.out] at ho5
          rw [← HR1.out] at he
          subst he
          have hop4 : Below wE3.heap.size wE3 wE4 := hx5
          obtain ⟨ak0_0, ck0_0, ak0_1, ck0_1, ak0_2, ck0_2, rfl, _⟩ := id (oDisk_good.read ho5)
          go_wp2_with fail
          refine hK.out _ _ (bthen hHeld hop4) (fun hHeld => ?_)
          clear hK K
          try simp only[Act.put,sa,s0,s1]
          refine uqq 5 q38e_3_31_5 94 hHeld ?_
          refine uqq 6 q38e_3_31_6 100 hHeld ?_
          refine uqq 7 q38e_3_31_7 101 hHeld ?_
          refine ar1 9 q38e_3_31_9 fun K hK => ?_
          ·skip
           have hb8 := HB8.out.under (show Below wE8.heap.size wE8 wE4 from bthen (bthen (Below.refl _ _) hop3) hop4)
           obtain ⟨s0, sf0, s1, sf1, s2, sf2, s3, sf3⟩ := hb8.c8
           have hl8 := hb8.lt
           go_simp
           obtain ⟨wE9, hq9⟩ : ∃ q, q = ((((wE4.setCell ⟨g8, 0, none⟩ (.slice ak0_0 R0.fInodes.length ck0_0)).setCell ⟨g8, 1, none⟩ (.slice ak0_1 R0.fNames.length ck0_1)).setCell ⟨g8, 2, none⟩ (.slice ak0_2 R0.fSafe.length ck0_2)).setCell ⟨g8, 3, none⟩ (.int .i64 R0.fNext)) := ⟨_, rfl⟩
           have hT9 : Turn [g8] wE4 wE9 := by rw [hq9]; exact (((((Turn.refl _ _).setCell (by simp) _).setCell (by simp) _).setCell (by simp) _).setCell (by simp) _)
           have hbx : Bw wE9 g8 34 [.slice ak0_0 R0.fInodes.length ck0_0, .slice ak0_1 R0.fNames.length ck0_1, .slice ak0_2 R0.fSafe.length ck0_2, .int .i64 R0.fNext] := by rw [hq9]; exact ((((hb8.put 0 _).put 1 _).put 2 _).put 3 _)
           have hpS := (show Below wE4.heap.size wE4 wE4 from Below.refl _ _)
           have hgo := (show Below wE8.heap.size wE8 wE4 from bthen (bthen (Below.refl _ _) hop3) hop4)
           rw [← hq9]
           clear hq9 hb8 s0 sf0 s1 sf1 s2 sf2 s3 sf3
           refine hK.out _ _ (hHeld.trans (hT9.below (fun k hk => by simp at hk; omega) hHeld.size)) (fun hHeld => ?_)
           clear hK K
           try simp only[Act.put,sa,s0,s1]
           refine uqq 10 q38e_3_31_10 16 hHeld ?_
           refine wpAnyH_done (by kernel_rfl) ?_ _
           have hgne : ∀ b, b ∈ F5 → b ≠ g8 := fun b hb h => by have h1 := hge5 b hb; have h2 := oDisk_good.lt ho5 b hb; have h3 := HB8.out.lt; have h4 := HG8.out; have h5 := hop1.size; have h6 := hop3.size; have h7 := hop8.size; have h8 := hop4.size; omega
           have ho59 : oDisk wE9 [.slice ak0_0 R0.fInodes.length ck0_0, .slice ak0_1 R0.fNames.length ck0_1, .slice ak0_2 R0.fSafe.length ck0_2, .int .i64 R0.fNext] R0 F5 := oDisk_good.frame (oDisk_good.frame ho5 (fun b hb => hpS.block b (oDisk_good.lt ho5 b hb))) (fun b hb => hT9.block b (by have := oDisk_good.lt ho5 b hb; have := hpS.size; omega) (by intro h; simp at h; exact hgne b hb h))
           rw [HQ.out]
           exact ⟨rfl, _, _, _, _, _, _, _, _, _, _, _, _, _, _, _, _, _, _, _, _, _, _, _, _, _, _, _, _, _, _, _, _, _, _, _, _, _, _, _, _, _, _, _, _, _, _, _, _, _, _, _, _, _, _, _, _, _, _, _, _, _, _, _, _, _, _, _, _, _, _, _, _, _, _, _, _, _, _, _, _, _, _, _, _, _, _, _, _, g8, _, _, _, _, _, _, F5, rfl, ⟨hbx.lt, fun i v hv => hbx.cell i v hv⟩, ho59, hN5, (fun b hb => by have h1 := hge5 b hb; omega), hHeld⟩
      ·go_simp
       obtain ⟨wE8, hq8⟩ : ∃ q, q = wS.alloc (.cells #[.slice none 0 0, .slice none 0 0, .slice none 0 0, .int .i64 0] 34) := ⟨_, rfl⟩
       have hop8 : Below wS.heap.size wS wE8 := by rw [hq8]; exact (Below.refl _ _).alloc (Nat.le_refl _) _
       obtain ⟨g8, HG8⟩ : ∃ z, Hid (z = wS.heap.size) := ⟨_, Hid.mk rfl⟩
       have HB8 : Hid (Bw wE8 g8 34 [.slice none 0 0, .slice none 0 0, .slice none 0 0, .int .i64 0]) := by unfold Hid; rw [HG8.out, hq8]; exact Bw.new _ _ _
       have hgp2 : w18.heap.size ≤ g8 := by rw [HG8.out]; exact Nat.le_trans hbS.size (Below.size (show Below wS.heap.size wS wS from Below.refl _ _))
       rw [← HG8.out]
       rw [← hq8]
       clear hq8
       refine hK.out _ _ (bthen hHeld hop8) (fun hHeld => ?_)
       clear hK K
       try simp only[Act.put,sa,s0,s1]
       refine ar1 1 q38e_3_31_1 fun K hK => ?_
       ·go_simp
        have hf1 := bthen hB18 (bthen hbS (show Below wS.heap.size wS wE8 from bthen (Below.refl _ _) hop8))
        refine Calls.mono (toDisk_any _ m0 wE8 (rDisk_good.mono (rDisk_good.below hr0 hf1) hf1.size) hwn0) ?_
        rintro e wE1 ⟨vp0, Fvp0, rfl, hod, _, _, hx1e⟩
        have hop1 : Below wE8.heap.size wE8 wE1 := hx1e
        obtain ⟨ad0, cad0, ad1, cad1, ad2, cad2, rfl, _⟩ := id (oDisk_good.read hod)
        go_wp2_with fail
        refine hK.out _ _ (bthen hHeld hop1) (fun hHeld => ?_)
        clear hK K
        try simp only[Act.put,sa,s0,s1]
        refine ar1 3 q38e_3_31_3 fun K hK => ?_
        ·go_simp
         have hf3 := bthen hB18 (bthen hbS (show Below wS.heap.size wS wE1 from bthen (bthen (Below.refl _ _) hop8) hop1))
         refine Calls.mono (toManifest_any _ m1 wE1 (rManifest_good.mono (rManifest_good.below hr1 hf3) hf3.size) hwn1) ?_
         rintro e wE3 ⟨vp1, Fvp1, rfl, hom, _, _, hx3e⟩
         have hop3 : Below wE1.heap.size wE1 wE3 := hx3e
         obtain ⟨am2, cam2, rfl, _⟩ := id (oManifest_good.read hom)
         go_wp2_with fail
         refine hK.out _ _ (bthen hHeld hop3) (fun hHeld => ?_)
         clear hK K
         try simp only[Act.put,sa,s0,s1]
         refine ar1 4 q38e_3_31_4 fun K hK => ?_
         ·go_simp
          have hg1 := (show Below wE1.heap.size wE1 wE3 from bthen (Below.refl _ _) hop3)
          have hg3 := (show Below wE3.heap.size wE3 wE3 from Below.refl _ _)
          have hf4 := bthen hbS (show Below wS.heap.size wS wE3 from bthen (bthen (bthen (Below.refl _ _) hop8) hop1) hop3)
          have hf4s := hf4.size
          refine Calls.mono (implInstall_c _ m0 _ m1 wE3 (rDisk_good.mono (rDisk_good.below (oDisk_good.read hod) hg1) hg1.size) (rManifest_good.mono (rManifest_good.below (oManifest_good.read hom) hg3) hg3.size) hwn0 hwn1 (hT.below (bthen hB18 hf4))) ?_
          rintro e wE4 ⟨cs5, F5, he, ho5, hN5, hge5, hx5⟩
          rw [← HR0.out] at ho5
          rw [← HR1.out] at he
          subst he
          have hop4 : Below wE3.heap.size wE3 wE4 := hx5
          obtain ⟨ak0_0, ck0_0, ak0_1, ck0_1, ak0_2, ck0_2, rfl, _⟩ := id (oDisk_good.read ho5)
          go_wp2_with fail
          refine hK.out _ _ (bthen hHeld hop4) (fun hHeld => ?_)
          clear hK K
          try simp only[Act.put,sa,s0,s1]
          refine uqq 5 q38e_3_31_5 94 hHeld ?_
          refine uqq 6 q38e_3_31_6 100 hHeld ?_
          refine uqq 7 q38e_3_31_7 101 hHeld ?_
          refine ar1 9 q38e_3_31_9 fun K hK => ?_
          ·skip
           have hb8 := HB8.out.under (show Below wE8.heap.size wE8 wE4 from bthen (bthen (bthen (Below.refl _ _) hop1) hop3) hop4)
           obtain ⟨s0, sf0, s1, sf1, s2, sf2, s3, sf3⟩ := hb8.c8
           have hl8 := hb8.lt
           go_simp
           obtain ⟨wE9, hq9⟩ : ∃ q, q = ((((wE4.setCell ⟨g8, 0, none⟩ (.slice ak0_0 R0.fInodes.length ck0_0)).setCell ⟨g8, 1, none⟩ (.slice ak0_1 R0.fNames.length ck0_1)).setCell ⟨g8, 2, none⟩ (.slice ak0_2 R0.fSafe.length ck0_2)).setCell ⟨g8, 3, none⟩ (.int .i64 R0.fNext)) := ⟨_, rfl⟩
           have hT9 : Turn [g8] wE4 wE9 := by rw [hq9]; exact (((((Turn.refl _ _).setCell (by simp) _).setCell (by simp) _).setCell (by simp) _).setCell (by simp) _)
           have hbx : Bw wE9 g8 34 [.slice ak0_0 R0.fInodes.length ck0_0, .slice ak0_1 R0.fNames.length ck0_1, .slice ak0_2 R0.fSafe.length ck0_2, .int .i64 R0.fNext] := by rw [hq9]; exact ((((hb8.put 0 _).put 1 _).put 2 _).put 3 _)
           have hpS := (show Below wE4.heap.size wE4 wE4 from Below.refl _ _)
           have hgo := (show Below wE8.heap.size wE8 wE4 from bthen (bthen (bthen (Below.refl _ _) hop1) hop3) hop4)
           rw [← hq9]
           clear hq9 hb8 s0 sf0 s1 sf1 s2 sf2 s3 sf3
           refine hK.out _ _ (hHeld.trans (hT9.below (fun k hk => by simp at hk; omega) hHeld.size)) (fun hHeld => ?_)
           clear hK K
           try simp only[Act.put,sa,s0,s1]
           refine uqq 10 q38e_3_31_10 16 hHeld ?_
           refine wpAnyH_done (by kernel_rfl) ?_ _
           have hgne : ∀ b, b ∈ F5 → b ≠ g8 := fun b hb h => by have h1 := hge5 b hb; have h2 := oDisk_good.lt ho5 b hb; have h3 := HB8.out.lt; have h4 := HG8.out; have h5 := hop1.size; have h6 := hop3.size; have h7 := hop8.size; have h8 := hop4.size; omega
           have ho59 : oDisk wE9 [.slice ak0_0 R0.fInodes.length ck0_0, .slice ak0_1 R0.fNames.length ck0_1, .slice ak0_2 R0.fSafe.length ck0_2, .int .i64 R0.fNext] R0 F5 := oDisk_good.frame (oDisk_good.frame ho5 (fun b hb => hpS.block b (oDisk_good.lt ho5 b hb))) (fun b hb => hT9.block b (by have := oDisk_good.lt ho5 b hb; have := hpS.size; omega) (by intro h; simp at h; exact hgne b hb h))
           rw [HQ.out]
           exact ⟨rfl, _, _, _, _, _, _, _, _, _, _, _, _, _, _, _, _, _, _, _, _, _, _, _, _, _, _, _, _, _, _, _, _, _, _, _, _, _, _, _, _, _, _, _, _, _, _, _, _, _, _, _, _, _, _, _, _, _, _, _, _, _, _, _, _, _, _, _, _, _, _, _, _, _, _, _, _, _, _, _, _, _, _, _, _, _, _, _, _, g8, _, _, _, _, _, _, F5, rfl, ⟨hbx.lt, fun i v hv => hbx.cell i v hv⟩, ho59, hN5, (fun b hb => by have h1 := hge5 b hb; omega), hHeld⟩
     rw [HQ.out]
     clear HQ hPan
     rintro e a' w21 ⟨rfl, z0, z1, z5, z17, z18, z19, z20, z21, z22, z23, z24, z25, z26, z27, z28, z29, z30, z31, z32, z33, z34, z35, z36, z37, z38, z39, z40, z41, z42, z43, z44, z45, z46, z47, z48, z49, z50, z51, z52, z53, z54, z55, z56, z57, z58, z59, z60, z61, z62, z63, z64, z65, z66, z67, z68, z69, z70, z71, z72, z73, z74, z75, z76, z77, z78, z79, z80, z81, z82, z83, z84, z85, z86, z87, z88, z89, z90, z91, z92, z93, z94, z95, z96, z97, z98, z99, z100, z101, g21, ak0_0, ak0_1, ak0_2, ck0_0, ck0_1, ck0_2, Fk0, rfl, hbK, hok0, hNk0, hgek0o, hG21⟩
     have hgl21 : g21 < w21.heap.size := hbK.1
     have hZ21 : w18.heap.size ≤ w21.heap.size := hG21.size
     clear p0 p1 p2 p3 r0 r1 r2
     replace hbxA0 := hbxA0.under hG21
     replace hbxA1 := hbxA1.under hG21
     replace hbxs0 := hbxs0.under hG21
     replace hbxx0 := hbxx0.under hG21
     replace hbxx1 := hbxx1.under hG21
     replace hbxg0 := hbxg0.under hG21
     replace hog0 := (oDisk_good.frame hog0 (fun b hb => hG21.block b (oDisk_good.lt hog0 b hb)))
     replace hrs0 := (rDisk_good.below hrs0 (hG21.mono hbs0))
     replace hbs0 := Nat.le_trans hbs0 hG21.size
     replace xbA0_0 := hbxA0.2 0 _ rfl
     replace xbA0_1 := hbxA0.2 1 _ rfl
     replace xbA0_2 := hbxA0.2 2 _ rfl
     replace xbA0_3 := hbxA0.2 3 _ rfl
     replace hlbA0 := hbxA0.1
     replace xbA1_0 := hbxA1.2 0 _ rfl
     replace xbA1_1 := hbxA1.2 1 _ rfl
     replace xbA1_2 := hbxA1.2 2 _ rfl
     replace hlbA1 := hbxA1.1
     replace xbs0_0 := hbxs0.2 0 _ rfl
     replace xbs0_1 := hbxs0.2 1 _ rfl
     replace xbs0_2 := hbxs0.2 2 _ rfl
     replace xbs0_3 := hbxs0.2 3 _ rfl
     replace hlbs0 := hbxs0.1
     replace xbx0_0 := hbxx0.2 0 _ rfl
     replace xbx0_1 := hbxx0.2 1 _ rfl
     replace xbx0_2 := hbxx0.2 2 _ rfl
     replace xbx0_3 := hbxx0.2 3 _ rfl
     replace hlbx0 := hbxx0.1
     replace xbx1_0 := hbxx1.2 0 _ rfl
     replace xbx1_1 := hbxx1.2 1 _ rfl
     replace xbx1_2 := hbxx1.2 2 _ rfl
     replace hlbx1 := hbxx1.1
     replace xbg0_0 := hbxg0.2 0 _ rfl
     replace xbg0_1 := hbxg0.2 1 _ rfl
     replace xbg0_2 := hbxg0.2 2 _ rfl
     replace xbg0_3 := hbxg0.2 3 _ rfl
     replace hlbg0 := hbxg0.1
     have hB21 : Below w.heap.size w w21 := bthen hB18 hG21
     have hltk0 : ∀ b, b ∈ Fk0 → b < w21.heap.size := fun b hb => oDisk_good.lt hok0 b hb
     have xbk0_0 := hbK.2 0 _ rfl
     have xbk0_1 := hbK.2 1 _ rfl
     have xbk0_2 := hbK.2 2 _ rfl
     have xbk0_3 := hbK.2 3 _ rfl
     have hC := fun (W : World) (hb : Below w21.heap.size w21 W) => eqDisk_yes _ _ R0 W (rDisk_good.mono (rDisk_good.below (oDisk_good.read hok0) hb) hb.size) (rDisk_good.mono (rDisk_good.below hrs0 (hb.mono hbs0)) (Nat.le_trans hbs0 hb.size)) (by omega)
     go_wp2_with fail
     refine Calls.mono (hC _ ?_) ?_
     ·exact gbt
     clear hC
     rintro e w22 ⟨rfl, hx22⟩
     have hZ22 : w21.heap.size ≤ w22.heap.size := by have h := hx22.size; first | exact h | (simp at h; omega)
     have hG22 : Below w21.heap.size w21 w22 := bthen (hx := hx22) (h := gbt)
     replace hbxA0 := hbxA0.under hG22
     replace hbxA1 := hbxA1.under hG22
     replace hbxs0 := hbxs0.under hG22
     replace hbxx0 := hbxx0.under hG22
     replace hbxx1 := hbxx1.under hG22
     replace hbxg0 := hbxg0.under hG22
     replace hog0 := (oDisk_good.frame hog0 (fun b hb => hG22.block b (oDisk_good.lt hog0 b hb)))
     replace hok0 := (oDisk_good.frame hok0 (fun b hb => hG22.block b (oDisk_good.lt hok0 b hb)))
     replace hrs0 := (rDisk_good.below hrs0 (hG22.mono hbs0))
     replace hbs0 := Nat.le_trans hbs0 hG22.size
     have hbxk0 : Bx w22 (g21) [.slice ak0_0 R0.fInodes.length ck0_0, .slice ak0_1 R0.fNames.length ck0_1, .slice ak0_2 R0.fSafe.length ck0_2, .int .i64 R0.fNext] := hbK.under hG22
     replace xbA0_0 := hbxA0.2 0 _ rfl
     replace xbA0_1 := hbxA0.2 1 _ rfl
     replace xbA0_2 := hbxA0.2 2 _ rfl
     replace xbA0_3 := hbxA0.2 3 _ rfl
     replace hlbA0 := hbxA0.1
     replace xbA1_0 := hbxA1.2 0 _ rfl
     replace xbA1_1 := hbxA1.2 1 _ rfl
     replace xbA1_2 := hbxA1.2 2 _ rfl
     replace hlbA1 := hbxA1.1
     replace xbs0_0 := hbxs0.2 0 _ rfl
     replace xbs0_1 := hbxs0.2 1 _ rfl
     replace xbs0_2 := hbxs0.2 2 _ rfl
     replace xbs0_3 := hbxs0.2 3 _ rfl
     replace hlbs0 := hbxs0.1
     replace xbx0_0 := hbxx0.2 0 _ rfl
     replace xbx0_1 := hbxx0.2 1 _ rfl
     replace xbx0_2 := hbxx0.2 2 _ rfl
     replace xbx0_3 := hbxx0.2 3 _ rfl
     replace hlbx0 := hbxx0.1
     replace xbx1_0 := hbxx1.2 0 _ rfl
     replace xbx1_1 := hbxx1.2 1 _ rfl
     replace xbx1_2 := hbxx1.2 2 _ rfl
     replace hlbx1 := hbxx1.1
     replace xbg0_0 := hbxg0.2 0 _ rfl
     replace xbg0_1 := hbxg0.2 1 _ rfl
     replace xbg0_2 := hbxg0.2 2 _ rfl
     replace xbg0_3 := hbxg0.2 3 _ rfl
     replace hlbg0 := hbxg0.1
     have xbk0_0 : w22.cell? ⟨g21, 0, none⟩ = some (.slice ak0_0 R0.fInodes.length ck0_0) := hbxk0.2 0 _ rfl
     have xbk0_1 : w22.cell? ⟨g21, 1, none⟩ = some (.slice ak0_1 R0.fNames.length ck0_1) := hbxk0.2 1 _ rfl
     have xbk0_2 : w22.cell? ⟨g21, 2, none⟩ = some (.slice ak0_2 R0.fSafe.length ck0_2) := hbxk0.2 2 _ rfl
     have xbk0_3 : w22.cell? ⟨g21, 3, none⟩ = some (.int .i64 R0.fNext) := hbxk0.2 3 _ rfl
     have hlbk0 : g21 < w22.heap.size := hbxk0.1
     have hB22 : Below w.heap.size w w22 := bthen hB21 hG22
     clear hx22
     have hC := fun (W : World) (hb : Below w22.heap.size w22 W) => heldDisk_any _ mmg0 1 qg0 W (rDisk_good.mono (rDisk_good.below (oDisk_good.read hog0) hb) hb.size) hhg0 (by omega) (by omega)
     go_wp2_with fail
     refine Calls.mono (hC _ ?_) ?_
     ·exact gbt
     clear hC
     rintro e w23 ⟨rfl, hx23⟩
     have hZ23 : w22.heap.size ≤ w23.heap.size := by have h := hx23.size; first | exact h | (simp at h; omega)
     have hG23 : Below w22.heap.size w22 w23 := bthen (hx := hx23) (h := gbt)
     replace hbxA0 := hbxA0.under hG23
     replace hbxA1 := hbxA1.under hG23
     replace hbxs0 := hbxs0.under hG23
     replace hbxx0 := hbxx0.under hG23
     replace hbxx1 := hbxx1.under hG23
     replace hbxg0 := hbxg0.under hG23
     replace hbxk0 := hbxk0.under hG23
     replace hog0 := (oDisk_good.frame hog0 (fun b hb => hG23.block b (oDisk_good.lt hog0 b hb)))
     replace hok0 := (oDisk_good.frame hok0 (fun b hb => hG23.block b (oDisk_good.lt hok0 b hb)))
     replace hrs0 := (rDisk_good.below hrs0 (hG23.mono hbs0))
     replace hbs0 := Nat.le_trans hbs0 hG23.size
     replace xbA0_0 := hbxA0.2 0 _ rfl
     replace xbA0_1 := hbxA0.2 1 _ rfl
     replace xbA0_2 := hbxA0.2 2 _ rfl
     replace xbA0_3 := hbxA0.2 3 _ rfl
     replace hlbA0 := hbxA0.1
     replace xbA1_0 := hbxA1.2 0 _ rfl
     replace xbA1_1 := hbxA1.2 1 _ rfl
     replace xbA1_2 := hbxA1.2 2 _ rfl
     replace hlbA1 := hbxA1.1
     replace xbs0_0 := hbxs0.2 0 _ rfl
     replace xbs0_1 := hbxs0.2 1 _ rfl
     replace xbs0_2 := hbxs0.2 2 _ rfl
     replace xbs0_3 := hbxs0.2 3 _ rfl
     replace hlbs0 := hbxs0.1
     replace xbx0_0 := hbxx0.2 0 _ rfl
     replace xbx0_1 := hbxx0.2 1 _ rfl
     replace xbx0_2 := hbxx0.2 2 _ rfl
     replace xbx0_3 := hbxx0.2 3 _ rfl
     replace hlbx0 := hbxx0.1
     replace xbx1_0 := hbxx1.2 0 _ rfl
     replace xbx1_1 := hbxx1.2 1 _ rfl
     replace xbx1_2 := hbxx1.2 2 _ rfl
     replace hlbx1 := hbxx1.1
     replace xbg0_0 := hbxg0.2 0 _ rfl
     replace xbg0_1 := hbxg0.2 1 _ rfl
     replace xbg0_2 := hbxg0.2 2 _ rfl
     replace xbg0_3 := hbxg0.2 3 _ rfl
     replace hlbg0 := hbxg0.1
     replace xbk0_0 := hbxk0.2 0 _ rfl
     replace xbk0_1 := hbxk0.2 1 _ rfl
     replace xbk0_2 := hbxk0.2 2 _ rfl
     replace xbk0_3 := hbxk0.2 3 _ rfl
     replace hlbk0 := hbxk0.1
     have hB23 : Below w.heap.size w w23 := bthen hB22 hG23
     clear hx23
     go_wp2_with fail
     go_ret
     exact ⟨rfl, gbt⟩
  ·rw [szRes_no hw1]
   go_wp2_with fail
   all_goals
    go_ret
    exact ⟨rfl, gbt⟩
 ·rw [szRes_no hw0]
  go_wp2_with fail
  all_goals
   go_ret
   exact ⟨rfl, gbt⟩
end Go.Proofs.YtddejboifpepcaaGreatDoor
