/-
  The exact law of GraphPut: at every graph and item both answers are the same graph and flag, in memory of their own.
-/
import Derived.Test.YtjcfpedljccboaaRegK
import Derived.Test.YtjcfpedljccboaaGDatT
import Derived.Test.YtjcfpedljccboaaGDatE
import Derived.Test.YtjcfpedljccboaaGDatM
import Derived.Test.YtjcfpedljccboaaGraT
namespace Go.Proofs.Ytjcfpedljccboaa
open Go.RowKit
set_option linter.unusedVariables false
set_option linter.unusedSimpArgs false
set_option maxRecDepth 10000
abbrev q434_6_14_0 : Oper := ⟨some 54, .load 37 (.tmp 8), 37, "exact.go:4354", #[], none⟩
abbrev q434_6_14_1 : Oper := ⟨some 55, .load 32 (.tmp 2), 32, "exact.go:4354", #[], none⟩
abbrev q434_6_14_2 : Oper := ⟨some 56, .call { callee := .value (.func 14), args := #[.tmp 55], argTypes := #[32] }, 37, "exact.go:4354", #[⟨1, .data⟩], none⟩
abbrev q434_6_14_3 : Oper := ⟨some 57, .call { callee := .value (.func 16), args := #[.tmp 54, .tmp 56], argTypes := #[37, 37] }, 4, "exact.go:4354", #[⟨0, .data⟩, ⟨2, .data⟩, ⟨2, .chain⟩], none⟩
abbrev q434_6_14_4 : Oper := ⟨some 58, .unOp .not 4 (.tmp 57), 4, "exact.go:4354", #[⟨3, .data⟩], none⟩
abbrev q434_6_16_0 : Oper := ⟨some 59, .load 49 (.tmp 9), 49, "exact.go:4357", #[], none⟩
abbrev q434_6_16_1 : Oper := ⟨some 60, .load 43 (.tmp 3), 43, "exact.go:4357", #[], none⟩
abbrev q434_6_16_2 : Oper := ⟨some 61, .call { callee := .value (.func 19), args := #[.tmp 60], argTypes := #[43] }, 49, "exact.go:4357", #[⟨1, .data⟩], none⟩
abbrev q434_6_16_3 : Oper := ⟨some 62, .call { callee := .value (.func 21), args := #[.tmp 59, .tmp 61], argTypes := #[49, 49] }, 4, "exact.go:4357", #[⟨0, .data⟩, ⟨2, .data⟩, ⟨2, .chain⟩], none⟩
abbrev q434_6_16_4 : Oper := ⟨some 63, .unOp .not 4 (.tmp 62), 4, "exact.go:4357", #[⟨3, .data⟩], none⟩
abbrev q434_6_8_0 : Oper := ⟨some 28, .load 32 (.tmp 2), 32, "exact.go:4347", #[], none⟩
abbrev q434_6_8_2 : Oper := ⟨some 30, .load 43 (.tmp 3), 43, "exact.go:4347", #[], none⟩
abbrev q434_6_8_8 : Oper := ⟨some 6, .alloc 37, 0, "exact.go:4347", #[], none⟩
abbrev q434_6_8_1 : Oper := ⟨some 29, .call { callee := .value (.func 14), args := #[.tmp 28], argTypes := #[32] }, 37, "exact.go:4347", #[⟨0, .data⟩], none⟩
abbrev q434_6_8_3 : Oper := ⟨some 31, .call { callee := .value (.func 19), args := #[.tmp 30], argTypes := #[43] }, 49, "exact.go:4347", #[⟨2, .data⟩, ⟨1, .chain⟩], none⟩
abbrev q434_6_8_4 : Oper := ⟨some 32, .call { callee := .value (.func 18), args := #[.tmp 29, .tmp 31], argTypes := #[37, 49] }, 45, "exact.go:4347", #[⟨1, .data⟩, ⟨3, .data⟩, ⟨3, .chain⟩], none⟩
abbrev q434_6_8_5 : Oper := ⟨some 27, .move (.tmp 32), 45, "exact.go:4347", #[⟨4, .data⟩], none⟩
abbrev q434_6_8_6 : Oper := ⟨some 33, .extract (.tmp 27) 0, 37, "exact.go:4347", #[⟨5, .data⟩], none⟩
abbrev q434_6_8_7 : Oper := ⟨some 34, .extract (.tmp 27) 1, 4, "exact.go:4347", #[⟨5, .data⟩, { on := 9, ground := Ground.gcOnly Departure.lateStores }], none⟩
abbrev q434_6_8_9 : Oper := ⟨none, .store 37 (.tmp 6) (.tmp 33), 0, "exact.go:4347", #[⟨8, .data⟩, ⟨6, .data⟩, ⟨4, .chain⟩, ⟨0, .phase⟩, ⟨1, .phase⟩, ⟨2, .phase⟩, ⟨3, .phase⟩, ⟨4, .phase⟩, ⟨5, .phase⟩, ⟨6, .phase⟩, { on := 7, ground := Ground.textOnly Departure.lateStores }, ⟨8, .phase⟩], none⟩
abbrev q434_6_8_10 : Oper := ⟨some 7, .assign (.tmp 34), 4, "exact.go:4347", #[⟨7, .data⟩, ⟨9, .chain⟩, ⟨0, .phase⟩, ⟨1, .phase⟩, ⟨2, .phase⟩, ⟨3, .phase⟩, ⟨4, .phase⟩, ⟨5, .phase⟩, ⟨6, .phase⟩, ⟨7, .phase⟩, ⟨8, .phase⟩, ⟨9, .phase⟩], none⟩
abbrev q434_6_31_0 : Oper := ⟨some 95, .load 32 (.tmp 2), 32, "exact.go:4376", #[], none⟩
abbrev q434_6_31_2 : Oper := ⟨some 97, .load 43 (.tmp 3), 43, "exact.go:4376", #[], none⟩
abbrev q434_6_31_8 : Oper := ⟨some 15, .alloc 37, 0, "exact.go:4376", #[], none⟩
abbrev q434_6_31_1 : Oper := ⟨some 96, .call { callee := .value (.func 14), args := #[.tmp 95], argTypes := #[32] }, 37, "exact.go:4376", #[⟨0, .data⟩], none⟩
abbrev q434_6_31_3 : Oper := ⟨some 98, .call { callee := .value (.func 19), args := #[.tmp 97], argTypes := #[43] }, 49, "exact.go:4376", #[⟨2, .data⟩, ⟨1, .chain⟩], none⟩
abbrev q434_6_31_4 : Oper := ⟨some 99, .call { callee := .value (.func 20), args := #[.tmp 96, .tmp 98], argTypes := #[37, 49] }, 45, "exact.go:4376", #[⟨1, .data⟩, ⟨3, .data⟩, ⟨3, .chain⟩], none⟩
abbrev q434_6_31_5 : Oper := ⟨some 94, .move (.tmp 99), 45, "exact.go:4376", #[⟨4, .data⟩], none⟩
abbrev q434_6_31_6 : Oper := ⟨some 100, .extract (.tmp 94) 0, 37, "exact.go:4376", #[⟨5, .data⟩], none⟩
abbrev q434_6_31_7 : Oper := ⟨some 101, .extract (.tmp 94) 1, 4, "exact.go:4376", #[⟨5, .data⟩, { on := 9, ground := Ground.gcOnly Departure.lateStores }], none⟩
abbrev q434_6_31_9 : Oper := ⟨none, .store 37 (.tmp 15) (.tmp 100), 0, "exact.go:4376", #[⟨8, .data⟩, ⟨6, .data⟩, ⟨4, .chain⟩, ⟨0, .phase⟩, ⟨1, .phase⟩, ⟨2, .phase⟩, ⟨3, .phase⟩, ⟨4, .phase⟩, ⟨5, .phase⟩, ⟨6, .phase⟩, { on := 7, ground := Ground.textOnly Departure.lateStores }, ⟨8, .phase⟩], none⟩
abbrev q434_6_31_10 : Oper := ⟨some 16, .assign (.tmp 101), 4, "exact.go:4376", #[⟨7, .data⟩, ⟨9, .chain⟩, ⟨0, .phase⟩, ⟨1, .phase⟩, ⟨2, .phase⟩, ⟨3, .phase⟩, ⟨4, .phase⟩, ⟨5, .phase⟩, ⟨6, .phase⟩, ⟨7, .phase⟩, ⟨8, .phase⟩, ⟨9, .phase⟩], none⟩

set_option maxHeartbeats 40000000 in
theorem law_FnExactGraphPut (cs0 : List Value) (m0 : MGraph) (cs1 : List Value) (m1 : MItem) (w : World) (hr0 : rGraph w.heap.size w cs0 m0) (hr1 : rItem w.heap.size w cs1 m1) :
    Calls Try.prog 6 #[.agg cs0.toArray, .agg cs1.toArray] w fun e w' => e = .returned (.bool true) ∧ Below w.heap.size w w' := by
  have hq0 := hr0
  obtain ⟨a0_0, c0_0, rfl, _⟩ := hq0
  have hq1 := hr1
  obtain ⟨a1_2, c1_2, rfl, _⟩ := hq1
  go_enter Try.func6, Try.ntmps6
  have hC := fun (W : World) (hb : Below w.heap.size w W) => szGraph_any _ m0 (1048576) W (by omega) (by omega) (rGraph_good.mono (rGraph_good.below hr0 hb) hb.size)
  go_wp2_with fail
  refine Calls.mono (hC _ ?_) ?_
  · repeat (first | with_reducible exact Below.refl _ _ | with_reducible assumption | with_reducible refine Below.drew ?_ | with_reducible refine Below.alloc ?_ (by first | exact Nat.le_refl _ | (simp <;> omega)) _ | with_reducible refine Below.setCell ?_ (by simp) _)
  clear hC
  rintro e w1 ⟨rfl, hx1⟩
  have hZ1 : w.heap.size + 2 ≤ w1.heap.size := by have h := hx1.size; first | exact h | (simp at h; omega)
  have hG1 : Below w.heap.size w w1 := bthen (hx := hx1) (h := by repeat (first | with_reducible exact Below.refl _ _ | with_reducible assumption | with_reducible refine Below.drew ?_ | with_reducible refine Below.alloc ?_ (by first | exact Nat.le_refl _ | (simp <;> omega)) _ | with_reducible refine Below.setCell ?_ (by simp) _))
  have hbxA0 : Bx w1 (w.heap.size) [.slice a0_0 m0.fItems.length c0_0] := (Bx.alloc (Bx.new _ [.slice a0_0 m0.fItems.length c0_0] _) _).under hx1
  have hbxA1 : Bx w1 (w.heap.size + 1) [.int .i64 m1.fD.fR, .int .i64 m1.fD.fN, .slice a1_2 m1.fDeps.length c1_2] := by have h := (Bx.new _ [.int .i64 m1.fD.fR, .int .i64 m1.fD.fN, .slice a1_2 m1.fDeps.length c1_2] _).under hx1; simpa using h
  have xbA0_0 : w1.cell? ⟨w.heap.size, 0, none⟩ = some (.slice a0_0 m0.fItems.length c0_0) := hbxA0.2 0 _ rfl
  have hlbA0 : w.heap.size < w1.heap.size := hbxA0.1
  have xbA1_0 : w1.cell? ⟨w.heap.size + 1, 0, none⟩ = some (.int .i64 m1.fD.fR) := hbxA1.2 0 _ rfl
  have xbA1_1 : w1.cell? ⟨w.heap.size + 1, 1, none⟩ = some (.int .i64 m1.fD.fN) := hbxA1.2 1 _ rfl
  have xbA1_2 : w1.cell? ⟨w.heap.size + 1, 2, none⟩ = some (.slice a1_2 m1.fDeps.length c1_2) := hbxA1.2 2 _ rfl
  have hlbA1 : w.heap.size + 1 < w1.heap.size := hbxA1.1
  have hB1 : Below w.heap.size w w1 := hG1
  clear hx1
  by_cases hw0 : ((wGraph m0 : Nat) : Int) ≤ 1048576
  · rw [szRes_yes hw0]
    have hC := fun (W : World) (hb : Below w1.heap.size w1 W) => szItem_any _ m1 (1048576 - (wGraph m0 : Nat)) W (by omega) (by omega) (rItem_good.mono (rItem_good.below hr1 (bthen hB1 hb)) (bthen hB1 hb).size)
    go_wp2_with fail
    refine Calls.mono (hC _ ?_) ?_
    · repeat (first | with_reducible exact Below.refl _ _ | with_reducible assumption | with_reducible refine Below.drew ?_ | with_reducible refine Below.alloc ?_ (by first | exact Nat.le_refl _ | (simp <;> omega)) _ | with_reducible refine Below.setCell ?_ (by simp) _)
    clear hC
    rintro e w2 ⟨rfl, hx2⟩
    have hZ2 : w1.heap.size ≤ w2.heap.size := by have h := hx2.size; first | exact h | (simp at h; omega)
    have hG2 : Below w1.heap.size w1 w2 := bthen (hx := hx2) (h := by repeat (first | with_reducible exact Below.refl _ _ | with_reducible assumption | with_reducible refine Below.drew ?_ | with_reducible refine Below.alloc ?_ (by first | exact Nat.le_refl _ | (simp <;> omega)) _ | with_reducible refine Below.setCell ?_ (by simp) _))
    replace hbxA0 : Bx w2 (w.heap.size) [.slice a0_0 m0.fItems.length c0_0] := hbxA0.under hG2
    replace hbxA1 : Bx w2 (w.heap.size + 1) [.int .i64 m1.fD.fR, .int .i64 m1.fD.fN, .slice a1_2 m1.fDeps.length c1_2] := hbxA1.under hG2
    replace xbA0_0 : w2.cell? ⟨w.heap.size, 0, none⟩ = some (.slice a0_0 m0.fItems.length c0_0) := hbxA0.2 0 _ rfl
    replace hlbA0 : w.heap.size < w2.heap.size := hbxA0.1
    replace xbA1_0 : w2.cell? ⟨w.heap.size + 1, 0, none⟩ = some (.int .i64 m1.fD.fR) := hbxA1.2 0 _ rfl
    replace xbA1_1 : w2.cell? ⟨w.heap.size + 1, 1, none⟩ = some (.int .i64 m1.fD.fN) := hbxA1.2 1 _ rfl
    replace xbA1_2 : w2.cell? ⟨w.heap.size + 1, 2, none⟩ = some (.slice a1_2 m1.fDeps.length c1_2) := hbxA1.2 2 _ rfl
    replace hlbA1 : w.heap.size + 1 < w2.heap.size := hbxA1.1
    have hB2 : Below w.heap.size w w2 := bthen hB1 hG2
    clear hx2
    by_cases hw1 : ((wItem m1 : Nat) : Int) ≤ 1048576 - (wGraph m0 : Nat)
    · rw [szRes_yes hw1]
      have hwn0 : wGraph m0 ≤ 1048576 := by omega
      have hcn0 := tcntGraph_le m0
      have hwn1 : wItem m1 ≤ 1048576 := by omega
      have hcn1 := tcntItem_le m1
      obtain ⟨R0, hR0⟩ : ∃ R : MGraph, R = putG m0 m1 := ⟨_, rfl⟩
      have hRw0 : wGraph R0 ≤ 1099511627776 := by rw [hR0]; exact boundGraphPut_0 m0 m1 hwn0 hwn1
      have hRc0 := tcntGraph_le R0
      have HR0 := Hid.mk hR0
      clear hR0
      obtain ⟨R1, hR1⟩ : ∃ R : Bool, R = putOk m0 m1 := ⟨_, rfl⟩
      have HR1 := Hid.mk hR1
      clear hR1
      have p0 : ∀ W, Below w2.heap.size w2 W → W.cell? ⟨w.heap.size, 0, none⟩ = some (.slice a0_0 m0.fItems.length c0_0) := fun W hb => (hbxA0.under hb).2 0 _ rfl
      have r0 : ∀ W, Below w2.heap.size w2 W → W.cell? ⟨w.heap.size + 1, 0, none⟩ = some (.int .i64 m1.fD.fR) := fun W hb => (hbxA1.under hb).2 0 _ rfl
      have r1 : ∀ W, Below w2.heap.size w2 W → W.cell? ⟨w.heap.size + 1, 1, none⟩ = some (.int .i64 m1.fD.fN) := fun W hb => (hbxA1.under hb).2 1 _ rfl
      have r2 : ∀ W, Below w2.heap.size w2 W → W.cell? ⟨w.heap.size + 1, 2, none⟩ = some (.slice a1_2 m1.fDeps.length c1_2) := fun W hb => (hbxA1.under hb).2 2 _ rfl
      go_wp2_with fail
      obtain ⟨QQ, hQQ⟩ : ∃ q : Exit → Act → World → Prop, q = fun e a' w' => e = .normal ∧ ∃ (y0 y1 y5 y17 y18 y19 y20 y21 y22 y23 y24 y25 y26 y27 y28 y29 y30 y31 y32 y33 y34 : Value) (g5 : Nat) (as0_0 : Option Addr) (cs0_0 : Nat), a' = { tmps := #[y0, y1, .pointer (some ⟨w.heap.size, 0, none⟩), .pointer (some ⟨w.heap.size + 1, 0, none⟩), .bool false, y5, .pointer (some ⟨g5, 0, none⟩), .bool R1, undef, undef, undef, undef, undef, undef, undef, undef, undef, y17, y18, y19, y20, y21, y22, y23, y24, y25, y26, y27, y28, y29, y30, y31, y32, y33, y34, undef, undef, undef, undef, undef, undef, undef, undef, undef, undef, undef, undef, undef, undef, undef, undef, undef, undef, undef, undef, undef, undef, undef, undef, undef, undef, undef, undef, undef, undef, undef, undef, undef, undef, undef, undef, undef, undef, undef, undef, undef, undef, undef, undef, undef, undef, undef, undef, undef, undef, undef, undef, undef, undef, undef, undef, undef, undef, undef, undef, undef, undef, undef, undef, undef, undef, undef, undef, undef, undef, undef, undef, undef, undef, undef, undef, undef, undef, undef, undef, undef, undef, undef, undef], defers := [] } ∧ Bx w' g5 [.slice as0_0 R0.fItems.length cs0_0] ∧ rGraph w'.heap.size w' [.slice as0_0 R0.fItems.length cs0_0] R0 ∧ Below w2.heap.size w2 w' := ⟨_, rfl⟩
      have HQ := Hid.mk hQQ
      have hPan : ∀ c a w, QQ (.panic c) a w → False := by rw [hQQ]; intro c a w h; cases h.1
      clear hQQ
      refine Code.wp_mono (Q := QQ) ?mono ?reg
      case reg =>
        refine wp_region_held_drew (S := fun W => Below w2.heap.size w2 W) (by kernel_rfl) (Below.drew (Below.refl _ _)) (fun hHeld => ?_)
        obtain ⟨wS, hwS⟩ : ∃ wS, wS = w2.drew := ⟨_, rfl⟩
        have hbS : Below w2.heap.size w2 wS := by rw [hwS]; exact Below.drew (Below.refl _ _)
        rw [← hwS] at hHeld ⊢
        clear hwS
        refine tk 0 q434_6_8_0 (some 28) (v := ?v7) rfl rfl (by kernel_rfl) hHeld (by rfl) (fun _ _ _ h => by cases hPan _ _ _ h) (fun w h => ?y7) ?_; (case y7 => (try dsimp only at h); go_simp; try (with_reducible rfl)); try simp only [Act.put, sa, s0, s1]
        refine tk 2 q434_6_8_2 (some 30) (v := ?v8) rfl rfl (by kernel_rfl) hHeld (by rfl) (fun _ _ _ h => by cases hPan _ _ _ h) (fun w h => ?y8) ?_; (case y8 => (try dsimp only at h); go_simp; try (with_reducible rfl)); try simp only [Act.put, sa, s0, s1]
        refine wpAnyH_ready (rs := [1, 8]) (by kernel_rfl) (by simp) ?_
        refine (AllReadyH.cons (o := q434_6_8_1) rfl (fun K hK => ?_) (AllReadyH.cons (o := q434_6_8_8) rfl (fun K hK => ?_) AllReadyH.nil))
        · go_simp
          have hf1 := bthen hB2 (bthen hbS (show Below wS.heap.size wS wS from Below.refl _ _))
          refine Calls.mono (toGraph_any _ m0 wS (rGraph_good.mono (rGraph_good.below hr0 hf1) hf1.size) hwn0) ?_
          rintro e wE1 ⟨vp0, Fvp0, rfl, hod, _, _, hx1e⟩
          have hop1 : Below wS.heap.size wS wE1 := hx1e
          obtain ⟨ad0, cad0, rfl, _⟩ := id (oGraph_good.read hod)
          go_wp2_with fail
          refine hK.out _ _ (bthen hHeld hop1) (fun hHeld => ?_)
          clear hK K
          try simp only [Act.put, sa, s0, s1]
          refine wpAnyH_ready (rs := [3, 8]) (by kernel_rfl) (by simp) ?_
          refine (AllReadyH.cons (o := q434_6_8_3) rfl (fun K hK => ?_) (AllReadyH.cons (o := q434_6_8_8) rfl (fun K hK => ?_) AllReadyH.nil))
          · go_simp
            have hf3 := bthen hB2 (bthen hbS (show Below wS.heap.size wS wE1 from bthen (Below.refl _ _) hop1))
            refine Calls.mono (toItem_any _ m1 wE1 (rItem_good.mono (rItem_good.below hr1 hf3) hf3.size) hwn1) ?_
            rintro e wE3 ⟨vp1, Fvp1, rfl, hom, _, _, hx3e⟩
            have hop3 : Below wE1.heap.size wE1 wE3 := hx3e
            obtain ⟨am2, cam2, rfl, _⟩ := id (oItem_good.read hom)
            go_wp2_with fail
            refine hK.out _ _ (bthen hHeld hop3) (fun hHeld => ?_)
            clear hK K
            try simp only [Act.put, sa, s0, s1]
            refine wpAnyH_ready (rs := [4, 8]) (by kernel_rfl) (by simp) ?_
            refine (AllReadyH.cons (o := q434_6_8_4) rfl (fun K hK => ?_) (AllReadyH.cons (o := q434_6_8_8) rfl (fun K hK => ?_) AllReadyH.nil))
            · go_simp
              have hg1 := (show Below wE1.heap.size wE1 wE3 from bthen (Below.refl _ _) hop3)
              have hg3 := (show Below wE3.heap.size wE3 wE3 from Below.refl _ _)
              have hf4 := bthen hbS (show Below wS.heap.size wS wE3 from bthen (bthen (Below.refl _ _) hop1) hop3)
              have hf4s := hf4.size
              refine Calls.mono (specGraphPut_c _ m0 _ m1 wE3 (rGraph_good.mono (rGraph_good.below (oGraph_good.read hod) hg1) hg1.size) (rItem_good.mono (rItem_good.below (oItem_good.read hom) hg3) hg3.size) hwn0 hwn1) ?_
              rintro e wE4 ⟨cs5, he, hr5, hx5⟩
              rw [← HR0.out] at hr5
              rw [← HR1.out] at he
              subst he
              have hop4 : Below wE3.heap.size wE3 wE4 := hx5
              obtain ⟨as0_0, cs0_0, rfl, _⟩ := id (hr5)
              go_wp2_with fail
              refine hK.out _ _ (bthen hHeld hop4) (fun hHeld => ?_)
              clear hK K
              try simp only [Act.put, sa, s0, s1]
              refine tk 5 q434_6_8_5 (some 27) (v := ?v9) rfl rfl (by kernel_rfl) hHeld (by rfl) (fun _ _ _ h => by cases hPan _ _ _ h) (fun w h => ?y9) ?_; (case y9 => (try dsimp only at h); go_simp; try (with_reducible rfl)); try simp only [Act.put, sa, s0, s1]
              refine tk 6 q434_6_8_6 (some 33) (v := ?v10) rfl rfl (by kernel_rfl) hHeld (by rfl) (fun _ _ _ h => by cases hPan _ _ _ h) (fun w h => ?y10) ?_; (case y10 => (try dsimp only at h); go_simp; try (with_reducible rfl)); try simp only [Act.put, sa, s0, s1]
              refine tk 7 q434_6_8_7 (some 34) (v := ?v11) rfl rfl (by kernel_rfl) hHeld (by rfl) (fun _ _ _ h => by cases hPan _ _ _ h) (fun w h => ?y11) ?_; (case y11 => (try dsimp only at h); go_simp; try (with_reducible rfl)); try simp only [Act.put, sa, s0, s1]
              refine wpAnyH_ready (rs := [8]) (by kernel_rfl) (by simp) ?_
              refine (AllReadyH.cons (o := q434_6_8_8) rfl (fun K hK => ?_) AllReadyH.nil)
              · go_simp
                obtain ⟨wE8, hq8⟩ : ∃ q, q = wE4.alloc (.cells #[.slice none 0 0] 37) := ⟨_, rfl⟩
                have hop8 : Below wE4.heap.size wE4 wE8 := by rw [hq8]; exact (Below.refl _ _).alloc (Nat.le_refl _) _
                obtain ⟨g8, HG8⟩ : ∃ z, Hid (z = wE4.heap.size) := ⟨_, Hid.mk rfl⟩
                have HB8 : Hid (Bw wE8 g8 37 [.slice none 0 0]) := by unfold Hid; rw [HG8.out, hq8]; exact Bw.new _ _ _
                have hgp2 : w2.heap.size ≤ g8 := by rw [HG8.out]; exact Nat.le_trans hbS.size (Below.size (show Below wS.heap.size wS wE4 from bthen (bthen (bthen (Below.refl _ _) hop1) hop3) hop4))
                rw [← HG8.out]
                rw [← hq8]
                clear hq8
                refine hK.out _ _ (bthen hHeld hop8) (fun hHeld => ?_)
                clear hK K
                try simp only [Act.put, sa, s0, s1]
                refine wpAnyH_ready (rs := [9]) (by kernel_rfl) (by simp) ?_
                refine (AllReadyH.cons (o := q434_6_8_9) rfl (fun K hK => ?_) AllReadyH.nil)
                · skip
                  have hb8 := HB8.out.under (show Below wE8.heap.size wE8 wE8 from Below.refl _ _)
                  have s0 := hb8.cell 0 _ rfl
                  have sf0 := hb8.free 0
                  have hl8 := hb8.lt
                  go_simp
                  obtain ⟨wE9, hq9⟩ : ∃ q, q = (wE8.setCell ⟨g8, 0, none⟩ (.slice as0_0 R0.fItems.length cs0_0)) := ⟨_, rfl⟩
                  have hT9 : Turn [g8] wE8 wE9 := by rw [hq9]; exact ((Turn.refl _ _).setCell (by simp) _)
                  have hbx : Bw wE9 g8 37 [.slice as0_0 R0.fItems.length cs0_0] := by rw [hq9]; exact (hb8.put 0 _)
                  have hpS := (show Below wE4.heap.size wE4 wE8 from bthen (Below.refl _ _) hop8)
                  have hgo := (show Below wE8.heap.size wE8 wE8 from Below.refl _ _)
                  rw [← hq9]
                  clear hq9 hb8 s0 sf0
                  refine hK.out _ _ (hHeld.trans (hT9.below (fun k hk => by simp at hk; omega) hHeld.size)) (fun hHeld => ?_)
                  clear hK K
                  try simp only [Act.put, sa, s0, s1]
                  refine tk 10 q434_6_8_10 (some 7) (v := ?v12) rfl rfl (by kernel_rfl) hHeld (by rfl) (fun _ _ _ h => by cases hPan _ _ _ h) (fun w h => ?y12) ?_; (case y12 => (try dsimp only at h); go_simp; try (with_reducible rfl)); try simp only [Act.put, sa, s0, s1]
                  refine wpAnyH_done (by kernel_rfl) ?_ _
                  have hr59 : rGraph wE9.heap.size wE9 [.slice as0_0 R0.fItems.length cs0_0] R0 := by have h := rGraph_turn (HB8.out.under hgo) hT9 (Nat.le_refl _) (rGraph_good.mono (rGraph_good.below hr5 hpS) hpS.size); exact rGraph_good.mono h hT9.size
                  rw [HQ.out]
                  exact ⟨rfl, _, _, _, _, _, _, _, _, _, _, _, _, _, _, _, _, _, _, _, _, _, g8, _, _, rfl, ⟨hbx.lt, fun i v hv => hbx.cell i v hv⟩, hr59, hHeld⟩
            · go_simp
              obtain ⟨wE8, hq8⟩ : ∃ q, q = wE3.alloc (.cells #[.slice none 0 0] 37) := ⟨_, rfl⟩
              have hop8 : Below wE3.heap.size wE3 wE8 := by rw [hq8]; exact (Below.refl _ _).alloc (Nat.le_refl _) _
              obtain ⟨g8, HG8⟩ : ∃ z, Hid (z = wE3.heap.size) := ⟨_, Hid.mk rfl⟩
              have HB8 : Hid (Bw wE8 g8 37 [.slice none 0 0]) := by unfold Hid; rw [HG8.out, hq8]; exact Bw.new _ _ _
              have hgp2 : w2.heap.size ≤ g8 := by rw [HG8.out]; exact Nat.le_trans hbS.size (Below.size (show Below wS.heap.size wS wE3 from bthen (bthen (Below.refl _ _) hop1) hop3))
              rw [← HG8.out]
              rw [← hq8]
              clear hq8
              refine hK.out _ _ (bthen hHeld hop8) (fun hHeld => ?_)
              clear hK K
              try simp only [Act.put, sa, s0, s1]
              refine wpAnyH_ready (rs := [4]) (by kernel_rfl) (by simp) ?_
              refine (AllReadyH.cons (o := q434_6_8_4) rfl (fun K hK => ?_) AllReadyH.nil)
              · go_simp
                have hg1 := (show Below wE1.heap.size wE1 wE8 from bthen (bthen (Below.refl _ _) hop3) hop8)
                have hg3 := (show Below wE3.heap.size wE3 wE8 from bthen (Below.refl _ _) hop8)
                have hf4 := bthen hbS (show Below wS.heap.size wS wE8 from bthen (bthen (bthen (Below.refl _ _) hop1) hop3) hop8)
                have hf4s := hf4.size
                refine Calls.mono (specGraphPut_c _ m0 _ m1 wE8 (rGraph_good.mono (rGraph_good.below (oGraph_good.read hod) hg1) hg1.size) (rItem_good.mono (rItem_good.below (oItem_good.read hom) hg3) hg3.size) hwn0 hwn1) ?_
                rintro e wE4 ⟨cs5, he, hr5, hx5⟩
                rw [← HR0.out] at hr5
                rw [← HR1.out] at he
                subst he
                have hop4 : Below wE8.heap.size wE8 wE4 := hx5
                obtain ⟨as0_0, cs0_0, rfl, _⟩ := id (hr5)
                go_wp2_with fail
                refine hK.out _ _ (bthen hHeld hop4) (fun hHeld => ?_)
                clear hK K
                try simp only [Act.put, sa, s0, s1]
                refine tk 5 q434_6_8_5 (some 27) (v := ?v13) rfl rfl (by kernel_rfl) hHeld (by rfl) (fun _ _ _ h => by cases hPan _ _ _ h) (fun w h => ?y13) ?_; (case y13 => (try dsimp only at h); go_simp; try (with_reducible rfl)); try simp only [Act.put, sa, s0, s1]
                refine tk 6 q434_6_8_6 (some 33) (v := ?v14) rfl rfl (by kernel_rfl) hHeld (by rfl) (fun _ _ _ h => by cases hPan _ _ _ h) (fun w h => ?y14) ?_; (case y14 => (try dsimp only at h); go_simp; try (with_reducible rfl)); try simp only [Act.put, sa, s0, s1]
                refine tk 7 q434_6_8_7 (some 34) (v := ?v15) rfl rfl (by kernel_rfl) hHeld (by rfl) (fun _ _ _ h => by cases hPan _ _ _ h) (fun w h => ?y15) ?_; (case y15 => (try dsimp only at h); go_simp; try (with_reducible rfl)); try simp only [Act.put, sa, s0, s1]
                refine wpAnyH_ready (rs := [9]) (by kernel_rfl) (by simp) ?_
                refine (AllReadyH.cons (o := q434_6_8_9) rfl (fun K hK => ?_) AllReadyH.nil)
                · skip
                  have hb8 := HB8.out.under (show Below wE8.heap.size wE8 wE4 from bthen (Below.refl _ _) hop4)
                  have s0 := hb8.cell 0 _ rfl
                  have sf0 := hb8.free 0
                  have hl8 := hb8.lt
                  go_simp
                  obtain ⟨wE9, hq9⟩ : ∃ q, q = (wE4.setCell ⟨g8, 0, none⟩ (.slice as0_0 R0.fItems.length cs0_0)) := ⟨_, rfl⟩
                  have hT9 : Turn [g8] wE4 wE9 := by rw [hq9]; exact ((Turn.refl _ _).setCell (by simp) _)
                  have hbx : Bw wE9 g8 37 [.slice as0_0 R0.fItems.length cs0_0] := by rw [hq9]; exact (hb8.put 0 _)
                  have hpS := (show Below wE4.heap.size wE4 wE4 from Below.refl _ _)
                  have hgo := (show Below wE8.heap.size wE8 wE4 from bthen (Below.refl _ _) hop4)
                  rw [← hq9]
                  clear hq9 hb8 s0 sf0
                  refine hK.out _ _ (hHeld.trans (hT9.below (fun k hk => by simp at hk; omega) hHeld.size)) (fun hHeld => ?_)
                  clear hK K
                  try simp only [Act.put, sa, s0, s1]
                  refine tk 10 q434_6_8_10 (some 7) (v := ?v16) rfl rfl (by kernel_rfl) hHeld (by rfl) (fun _ _ _ h => by cases hPan _ _ _ h) (fun w h => ?y16) ?_; (case y16 => (try dsimp only at h); go_simp; try (with_reducible rfl)); try simp only [Act.put, sa, s0, s1]
                  refine wpAnyH_done (by kernel_rfl) ?_ _
                  have hr59 : rGraph wE9.heap.size wE9 [.slice as0_0 R0.fItems.length cs0_0] R0 := by have h := rGraph_turn (HB8.out.under hgo) hT9 (Nat.le_refl _) (rGraph_good.mono (rGraph_good.below hr5 hpS) hpS.size); exact rGraph_good.mono h hT9.size
                  rw [HQ.out]
                  exact ⟨rfl, _, _, _, _, _, _, _, _, _, _, _, _, _, _, _, _, _, _, _, _, _, g8, _, _, rfl, ⟨hbx.lt, fun i v hv => hbx.cell i v hv⟩, hr59, hHeld⟩
          · go_simp
            obtain ⟨wE8, hq8⟩ : ∃ q, q = wE1.alloc (.cells #[.slice none 0 0] 37) := ⟨_, rfl⟩
            have hop8 : Below wE1.heap.size wE1 wE8 := by rw [hq8]; exact (Below.refl _ _).alloc (Nat.le_refl _) _
            obtain ⟨g8, HG8⟩ : ∃ z, Hid (z = wE1.heap.size) := ⟨_, Hid.mk rfl⟩
            have HB8 : Hid (Bw wE8 g8 37 [.slice none 0 0]) := by unfold Hid; rw [HG8.out, hq8]; exact Bw.new _ _ _
            have hgp2 : w2.heap.size ≤ g8 := by rw [HG8.out]; exact Nat.le_trans hbS.size (Below.size (show Below wS.heap.size wS wE1 from bthen (Below.refl _ _) hop1))
            rw [← HG8.out]
            rw [← hq8]
            clear hq8
            refine hK.out _ _ (bthen hHeld hop8) (fun hHeld => ?_)
            clear hK K
            try simp only [Act.put, sa, s0, s1]
            refine wpAnyH_ready (rs := [3]) (by kernel_rfl) (by simp) ?_
            refine (AllReadyH.cons (o := q434_6_8_3) rfl (fun K hK => ?_) AllReadyH.nil)
            · go_simp
              have hf3 := bthen hB2 (bthen hbS (show Below wS.heap.size wS wE8 from bthen (bthen (Below.refl _ _) hop1) hop8))
              refine Calls.mono (toItem_any _ m1 wE8 (rItem_good.mono (rItem_good.below hr1 hf3) hf3.size) hwn1) ?_
              rintro e wE3 ⟨vp1, Fvp1, rfl, hom, _, _, hx3e⟩
              have hop3 : Below wE8.heap.size wE8 wE3 := hx3e
              obtain ⟨am2, cam2, rfl, _⟩ := id (oItem_good.read hom)
              go_wp2_with fail
              refine hK.out _ _ (bthen hHeld hop3) (fun hHeld => ?_)
              clear hK K
              try simp only [Act.put, sa, s0, s1]
              refine wpAnyH_ready (rs := [4]) (by kernel_rfl) (by simp) ?_
              refine (AllReadyH.cons (o := q434_6_8_4) rfl (fun K hK => ?_) AllReadyH.nil)
              · go_simp
                have hg1 := (show Below wE1.heap.size wE1 wE3 from bthen (bthen (Below.refl _ _) hop8) hop3)
                have hg3 := (show Below wE3.heap.size wE3 wE3 from Below.refl _ _)
                have hf4 := bthen hbS (show Below wS.heap.size wS wE3 from bthen (bthen (bthen (Below.refl _ _) hop1) hop8) hop3)
                have hf4s := hf4.size
                refine Calls.mono (specGraphPut_c _ m0 _ m1 wE3 (rGraph_good.mono (rGraph_good.below (oGraph_good.read hod) hg1) hg1.size) (rItem_good.mono (rItem_good.below (oItem_good.read hom) hg3) hg3.size) hwn0 hwn1) ?_
                rintro e wE4 ⟨cs5, he, hr5, hx5⟩
                rw [← HR0.out] at hr5
                rw [← HR1.out] at he
                subst he
                have hop4 : Below wE3.heap.size wE3 wE4 := hx5
                obtain ⟨as0_0, cs0_0, rfl, _⟩ := id (hr5)
                go_wp2_with fail
                refine hK.out _ _ (bthen hHeld hop4) (fun hHeld => ?_)
                clear hK K
                try simp only [Act.put, sa, s0, s1]
                refine tk 5 q434_6_8_5 (some 27) (v := ?v17) rfl rfl (by kernel_rfl) hHeld (by rfl) (fun _ _ _ h => by cases hPan _ _ _ h) (fun w h => ?y17) ?_; (case y17 => (try dsimp only at h); go_simp; try (with_reducible rfl)); try simp only [Act.put, sa, s0, s1]
                refine tk 6 q434_6_8_6 (some 33) (v := ?v18) rfl rfl (by kernel_rfl) hHeld (by rfl) (fun _ _ _ h => by cases hPan _ _ _ h) (fun w h => ?y18) ?_; (case y18 => (try dsimp only at h); go_simp; try (with_reducible rfl)); try simp only [Act.put, sa, s0, s1]
                refine tk 7 q434_6_8_7 (some 34) (v := ?v19) rfl rfl (by kernel_rfl) hHeld (by rfl) (fun _ _ _ h => by cases hPan _ _ _ h) (fun w h => ?y19) ?_; (case y19 => (try dsimp only at h); go_simp; try (with_reducible rfl)); try simp only [Act.put, sa, s0, s1]
                refine wpAnyH_ready (rs := [9]) (by kernel_rfl) (by simp) ?_
                refine (AllReadyH.cons (o := q434_6_8_9) rfl (fun K hK => ?_) AllReadyH.nil)
                · skip
                  have hb8 := HB8.out.under (show Below wE8.heap.size wE8 wE4 from bthen (bthen (Below.refl _ _) hop3) hop4)
                  have s0 := hb8.cell 0 _ rfl
                  have sf0 := hb8.free 0
                  have hl8 := hb8.lt
                  go_simp
                  obtain ⟨wE9, hq9⟩ : ∃ q, q = (wE4.setCell ⟨g8, 0, none⟩ (.slice as0_0 R0.fItems.length cs0_0)) := ⟨_, rfl⟩
                  have hT9 : Turn [g8] wE4 wE9 := by rw [hq9]; exact ((Turn.refl _ _).setCell (by simp) _)
                  have hbx : Bw wE9 g8 37 [.slice as0_0 R0.fItems.length cs0_0] := by rw [hq9]; exact (hb8.put 0 _)
                  have hpS := (show Below wE4.heap.size wE4 wE4 from Below.refl _ _)
                  have hgo := (show Below wE8.heap.size wE8 wE4 from bthen (bthen (Below.refl _ _) hop3) hop4)
                  rw [← hq9]
                  clear hq9 hb8 s0 sf0
                  refine hK.out _ _ (hHeld.trans (hT9.below (fun k hk => by simp at hk; omega) hHeld.size)) (fun hHeld => ?_)
                  clear hK K
                  try simp only [Act.put, sa, s0, s1]
                  refine tk 10 q434_6_8_10 (some 7) (v := ?v20) rfl rfl (by kernel_rfl) hHeld (by rfl) (fun _ _ _ h => by cases hPan _ _ _ h) (fun w h => ?y20) ?_; (case y20 => (try dsimp only at h); go_simp; try (with_reducible rfl)); try simp only [Act.put, sa, s0, s1]
                  refine wpAnyH_done (by kernel_rfl) ?_ _
                  have hr59 : rGraph wE9.heap.size wE9 [.slice as0_0 R0.fItems.length cs0_0] R0 := by have h := rGraph_turn (HB8.out.under hgo) hT9 (Nat.le_refl _) (rGraph_good.mono (rGraph_good.below hr5 hpS) hpS.size); exact rGraph_good.mono h hT9.size
                  rw [HQ.out]
                  exact ⟨rfl, _, _, _, _, _, _, _, _, _, _, _, _, _, _, _, _, _, _, _, _, _, g8, _, _, rfl, ⟨hbx.lt, fun i v hv => hbx.cell i v hv⟩, hr59, hHeld⟩
        · go_simp
          obtain ⟨wE8, hq8⟩ : ∃ q, q = wS.alloc (.cells #[.slice none 0 0] 37) := ⟨_, rfl⟩
          have hop8 : Below wS.heap.size wS wE8 := by rw [hq8]; exact (Below.refl _ _).alloc (Nat.le_refl _) _
          obtain ⟨g8, HG8⟩ : ∃ z, Hid (z = wS.heap.size) := ⟨_, Hid.mk rfl⟩
          have HB8 : Hid (Bw wE8 g8 37 [.slice none 0 0]) := by unfold Hid; rw [HG8.out, hq8]; exact Bw.new _ _ _
          have hgp2 : w2.heap.size ≤ g8 := by rw [HG8.out]; exact Nat.le_trans hbS.size (Below.size (show Below wS.heap.size wS wS from Below.refl _ _))
          rw [← HG8.out]
          rw [← hq8]
          clear hq8
          refine hK.out _ _ (bthen hHeld hop8) (fun hHeld => ?_)
          clear hK K
          try simp only [Act.put, sa, s0, s1]
          refine wpAnyH_ready (rs := [1]) (by kernel_rfl) (by simp) ?_
          refine (AllReadyH.cons (o := q434_6_8_1) rfl (fun K hK => ?_) AllReadyH.nil)
          · go_simp
            have hf1 := bthen hB2 (bthen hbS (show Below wS.heap.size wS wE8 from bthen (Below.refl _ _) hop8))
            refine Calls.mono (toGraph_any _ m0 wE8 (rGraph_good.mono (rGraph_good.below hr0 hf1) hf1.size) hwn0) ?_
            rintro e wE1 ⟨vp0, Fvp0, rfl, hod, _, _, hx1e⟩
            have hop1 : Below wE8.heap.size wE8 wE1 := hx1e
            obtain ⟨ad0, cad0, rfl, _⟩ := id (oGraph_good.read hod)
            go_wp2_with fail
            refine hK.out _ _ (bthen hHeld hop1) (fun hHeld => ?_)
            clear hK K
            try simp only [Act.put, sa, s0, s1]
            refine wpAnyH_ready (rs := [3]) (by kernel_rfl) (by simp) ?_
            refine (AllReadyH.cons (o := q434_6_8_3) rfl (fun K hK => ?_) AllReadyH.nil)
            · go_simp
              have hf3 := bthen hB2 (bthen hbS (show Below wS.heap.size wS wE1 from bthen (bthen (Below.refl _ _) hop8) hop1))
              refine Calls.mono (toItem_any _ m1 wE1 (rItem_good.mono (rItem_good.below hr1 hf3) hf3.size) hwn1) ?_
              rintro e wE3 ⟨vp1, Fvp1, rfl, hom, _, _, hx3e⟩
              have hop3 : Below wE1.heap.size wE1 wE3 := hx3e
              obtain ⟨am2, cam2, rfl, _⟩ := id (oItem_good.read hom)
              go_wp2_with fail
              refine hK.out _ _ (bthen hHeld hop3) (fun hHeld => ?_)
              clear hK K
              try simp only [Act.put, sa, s0, s1]
              refine wpAnyH_ready (rs := [4]) (by kernel_rfl) (by simp) ?_
              refine (AllReadyH.cons (o := q434_6_8_4) rfl (fun K hK => ?_) AllReadyH.nil)
              · go_simp
                have hg1 := (show Below wE1.heap.size wE1 wE3 from bthen (Below.refl _ _) hop3)
                have hg3 := (show Below wE3.heap.size wE3 wE3 from Below.refl _ _)
                have hf4 := bthen hbS (show Below wS.heap.size wS wE3 from bthen (bthen (bthen (Below.refl _ _) hop8) hop1) hop3)
                have hf4s := hf4.size
                refine Calls.mono (specGraphPut_c _ m0 _ m1 wE3 (rGraph_good.mono (rGraph_good.below (oGraph_good.read hod) hg1) hg1.size) (rItem_good.mono (rItem_good.below (oItem_good.read hom) hg3) hg3.size) hwn0 hwn1) ?_
                rintro e wE4 ⟨cs5, he, hr5, hx5⟩
                rw [← HR0.out] at hr5
                rw [← HR1.out] at he
                subst he
                have hop4 : Below wE3.heap.size wE3 wE4 := hx5
                obtain ⟨as0_0, cs0_0, rfl, _⟩ := id (hr5)
                go_wp2_with fail
                refine hK.out _ _ (bthen hHeld hop4) (fun hHeld => ?_)
                clear hK K
                try simp only [Act.put, sa, s0, s1]
                refine tk 5 q434_6_8_5 (some 27) (v := ?v21) rfl rfl (by kernel_rfl) hHeld (by rfl) (fun _ _ _ h => by cases hPan _ _ _ h) (fun w h => ?y21) ?_; (case y21 => (try dsimp only at h); go_simp; try (with_reducible rfl)); try simp only [Act.put, sa, s0, s1]
                refine tk 6 q434_6_8_6 (some 33) (v := ?v22) rfl rfl (by kernel_rfl) hHeld (by rfl) (fun _ _ _ h => by cases hPan _ _ _ h) (fun w h => ?y22) ?_; (case y22 => (try dsimp only at h); go_simp; try (with_reducible rfl)); try simp only [Act.put, sa, s0, s1]
                refine tk 7 q434_6_8_7 (some 34) (v := ?v23) rfl rfl (by kernel_rfl) hHeld (by rfl) (fun _ _ _ h => by cases hPan _ _ _ h) (fun w h => ?y23) ?_; (case y23 => (try dsimp only at h); go_simp; try (with_reducible rfl)); try simp only [Act.put, sa, s0, s1]
                refine wpAnyH_ready (rs := [9]) (by kernel_rfl) (by simp) ?_
                refine (AllReadyH.cons (o := q434_6_8_9) rfl (fun K hK => ?_) AllReadyH.nil)
                · skip
                  have hb8 := HB8.out.under (show Below wE8.heap.size wE8 wE4 from bthen (bthen (bthen (Below.refl _ _) hop1) hop3) hop4)
                  have s0 := hb8.cell 0 _ rfl
                  have sf0 := hb8.free 0
                  have hl8 := hb8.lt
                  go_simp
                  obtain ⟨wE9, hq9⟩ : ∃ q, q = (wE4.setCell ⟨g8, 0, none⟩ (.slice as0_0 R0.fItems.length cs0_0)) := ⟨_, rfl⟩
                  have hT9 : Turn [g8] wE4 wE9 := by rw [hq9]; exact ((Turn.refl _ _).setCell (by simp) _)
                  have hbx : Bw wE9 g8 37 [.slice as0_0 R0.fItems.length cs0_0] := by rw [hq9]; exact (hb8.put 0 _)
                  have hpS := (show Below wE4.heap.size wE4 wE4 from Below.refl _ _)
                  have hgo := (show Below wE8.heap.size wE8 wE4 from bthen (bthen (bthen (Below.refl _ _) hop1) hop3) hop4)
                  rw [← hq9]
                  clear hq9 hb8 s0 sf0
                  refine hK.out _ _ (hHeld.trans (hT9.below (fun k hk => by simp at hk; omega) hHeld.size)) (fun hHeld => ?_)
                  clear hK K
                  try simp only [Act.put, sa, s0, s1]
                  refine tk 10 q434_6_8_10 (some 7) (v := ?v24) rfl rfl (by kernel_rfl) hHeld (by rfl) (fun _ _ _ h => by cases hPan _ _ _ h) (fun w h => ?y24) ?_; (case y24 => (try dsimp only at h); go_simp; try (with_reducible rfl)); try simp only [Act.put, sa, s0, s1]
                  refine wpAnyH_done (by kernel_rfl) ?_ _
                  have hr59 : rGraph wE9.heap.size wE9 [.slice as0_0 R0.fItems.length cs0_0] R0 := by have h := rGraph_turn (HB8.out.under hgo) hT9 (Nat.le_refl _) (rGraph_good.mono (rGraph_good.below hr5 hpS) hpS.size); exact rGraph_good.mono h hT9.size
                  rw [HQ.out]
                  exact ⟨rfl, _, _, _, _, _, _, _, _, _, _, _, _, _, _, _, _, _, _, _, _, _, g8, _, _, rfl, ⟨hbx.lt, fun i v hv => hbx.cell i v hv⟩, hr59, hHeld⟩
      rw [HQ.out]
      clear HQ hPan
      rintro e a' w5 ⟨rfl, y0, y1, y5, y17, y18, y19, y20, y21, y22, y23, y24, y25, y26, y27, y28, y29, y30, y31, y32, y33, y34, g5, as0_0, cs0_0, rfl, hbJ, hrs0, hG5⟩
      have hgl5 : g5 < w5.heap.size := hbJ.1
      have hZ5 : w2.heap.size ≤ w5.heap.size := hG5.size
      clear p0 r0 r1 r2
      have hB5 : Below w.heap.size w w5 := bthen hB2 hG5
      replace hbxA0 := hbxA0.under hG5
      replace hbxA1 := hbxA1.under hG5
      replace xbA0_0 := hbxA0.2 0 _ rfl
      replace hlbA0 : w.heap.size < w5.heap.size := hbxA0.1
      replace xbA1_0 := hbxA1.2 0 _ rfl
      replace xbA1_1 := hbxA1.2 1 _ rfl
      replace xbA1_2 := hbxA1.2 2 _ rfl
      replace hlbA1 : w.heap.size + 1 < w5.heap.size := hbxA1.1
      have xbs0_0 := hbJ.2 0 _ rfl
      have hbs0 : w5.heap.size ≤ w5.heap.size := Nat.le_refl _
      have hC := fun (W : World) (hb : Below w5.heap.size w5 W) => toGraph_any _ m0 W (rGraph_good.mono (rGraph_good.below hr0 (bthen hB5 hb)) (bthen hB5 hb).size) hwn0
      go_wp2_with fail
      refine Calls.mono (hC _ ?_) ?_
      · repeat (first | with_reducible exact Below.refl _ _ | with_reducible assumption | with_reducible refine Below.drew ?_ | with_reducible refine Below.alloc ?_ (by first | exact Nat.le_refl _ | (simp <;> omega)) _ | with_reducible refine Below.setCell ?_ (by simp) _)
      clear hC
      rintro e w6 ⟨vx0, Fx0, rfl, hox0, hNx0, hgex0, hx6⟩
      have hZ6 : w5.heap.size ≤ w6.heap.size := by have h := hx6.size; first | exact h | (simp at h; omega)
      have hgex0o : ∀ b, b ∈ Fx0 → w5.heap.size ≤ b := fun b hb => by have h := hgex0 b hb; first | exact h | (simp at h; omega)
      clear hgex0
      have hG6 : Below w5.heap.size w5 w6 := bthen (hx := hx6) (h := by repeat (first | with_reducible exact Below.refl _ _ | with_reducible assumption | with_reducible refine Below.drew ?_ | with_reducible refine Below.alloc ?_ (by first | exact Nat.le_refl _ | (simp <;> omega)) _ | with_reducible refine Below.setCell ?_ (by simp) _))
      replace hbxA0 : Bx w6 (w.heap.size) [.slice a0_0 m0.fItems.length c0_0] := hbxA0.under hG6
      replace hbxA1 : Bx w6 (w.heap.size + 1) [.int .i64 m1.fD.fR, .int .i64 m1.fD.fN, .slice a1_2 m1.fDeps.length c1_2] := hbxA1.under hG6
      replace hrs0 := (rGraph_good.below hrs0 (hG6.mono hbs0))
      replace hbs0 := Nat.le_trans hbs0 hG6.size
      have hbxs0 : Bx w6 (g5) [.slice as0_0 R0.fItems.length cs0_0] := hbJ.under hG6
      replace xbA0_0 : w6.cell? ⟨w.heap.size, 0, none⟩ = some (.slice a0_0 m0.fItems.length c0_0) := hbxA0.2 0 _ rfl
      replace hlbA0 : w.heap.size < w6.heap.size := hbxA0.1
      replace xbA1_0 : w6.cell? ⟨w.heap.size + 1, 0, none⟩ = some (.int .i64 m1.fD.fR) := hbxA1.2 0 _ rfl
      replace xbA1_1 : w6.cell? ⟨w.heap.size + 1, 1, none⟩ = some (.int .i64 m1.fD.fN) := hbxA1.2 1 _ rfl
      replace xbA1_2 : w6.cell? ⟨w.heap.size + 1, 2, none⟩ = some (.slice a1_2 m1.fDeps.length c1_2) := hbxA1.2 2 _ rfl
      replace hlbA1 : w.heap.size + 1 < w6.heap.size := hbxA1.1
      have xbs0_0 : w6.cell? ⟨g5, 0, none⟩ = some (.slice as0_0 R0.fItems.length cs0_0) := hbxs0.2 0 _ rfl
      have hlbs0 : g5 < w6.heap.size := hbxs0.1
      have hB6 : Below w.heap.size w w6 := bthen hB5 hG6
      clear hx6
      have hltx0 : ∀ b, b ∈ Fx0 → b < w6.heap.size := fun b hb => oGraph_good.lt hox0 b hb
      have hq := (oGraph_good.read hox0)
      obtain ⟨ax0_0, cx0_0, rfl, _⟩ := hq
      have hC := fun (W : World) (hb : Below w6.heap.size w6 W) => toItem_any _ m1 W (rItem_good.mono (rItem_good.below hr1 (bthen hB6 hb)) (bthen hB6 hb).size) hwn1
      go_wp2_with fail
      refine Calls.mono (hC _ ?_) ?_
      · repeat (first | with_reducible exact Below.refl _ _ | with_reducible assumption | with_reducible refine Below.drew ?_ | with_reducible refine Below.alloc ?_ (by first | exact Nat.le_refl _ | (simp <;> omega)) _ | with_reducible refine Below.setCell ?_ (by simp) _)
      clear hC
      rintro e w7 ⟨vx1, Fx1, rfl, hox1, hNx1, hgex1, hx7⟩
      have hZ7 : w6.heap.size + 1 ≤ w7.heap.size := by have h := hx7.size; first | exact h | (simp at h; omega)
      have hgex1o : ∀ b, b ∈ Fx1 → w6.heap.size + 1 ≤ b := fun b hb => by have h := hgex1 b hb; first | exact h | (simp at h; omega)
      clear hgex1
      have hG7 : Below w6.heap.size w6 w7 := bthen (hx := hx7) (h := by repeat (first | with_reducible exact Below.refl _ _ | with_reducible assumption | with_reducible refine Below.drew ?_ | with_reducible refine Below.alloc ?_ (by first | exact Nat.le_refl _ | (simp <;> omega)) _ | with_reducible refine Below.setCell ?_ (by simp) _))
      replace hbxA0 : Bx w7 (w.heap.size) [.slice a0_0 m0.fItems.length c0_0] := hbxA0.under hG7
      replace hbxA1 : Bx w7 (w.heap.size + 1) [.int .i64 m1.fD.fR, .int .i64 m1.fD.fN, .slice a1_2 m1.fDeps.length c1_2] := hbxA1.under hG7
      replace hbxs0 : Bx w7 (g5) [.slice as0_0 R0.fItems.length cs0_0] := hbxs0.under hG7
      have hoN := (oGraph_good.frame hox0 (fun b hb => hG7.block b (oGraph_good.lt hox0 b hb)))
      clear hox0
      have hox0 := hoN
      clear hoN
      replace hrs0 := (rGraph_good.below hrs0 (hG7.mono hbs0))
      replace hbs0 := Nat.le_trans hbs0 hG7.size
      have hbxx0 : Bx w7 (w6.heap.size) [.slice ax0_0 m0.fItems.length cx0_0] := (Bx.new _ [.slice ax0_0 m0.fItems.length cx0_0] _).under hx7
      replace xbA0_0 : w7.cell? ⟨w.heap.size, 0, none⟩ = some (.slice a0_0 m0.fItems.length c0_0) := hbxA0.2 0 _ rfl
      replace hlbA0 : w.heap.size < w7.heap.size := hbxA0.1
      replace xbA1_0 : w7.cell? ⟨w.heap.size + 1, 0, none⟩ = some (.int .i64 m1.fD.fR) := hbxA1.2 0 _ rfl
      replace xbA1_1 : w7.cell? ⟨w.heap.size + 1, 1, none⟩ = some (.int .i64 m1.fD.fN) := hbxA1.2 1 _ rfl
      replace xbA1_2 : w7.cell? ⟨w.heap.size + 1, 2, none⟩ = some (.slice a1_2 m1.fDeps.length c1_2) := hbxA1.2 2 _ rfl
      replace hlbA1 : w.heap.size + 1 < w7.heap.size := hbxA1.1
      replace xbs0_0 : w7.cell? ⟨g5, 0, none⟩ = some (.slice as0_0 R0.fItems.length cs0_0) := hbxs0.2 0 _ rfl
      replace hlbs0 : g5 < w7.heap.size := hbxs0.1
      have xbx0_0 : w7.cell? ⟨w6.heap.size, 0, none⟩ = some (.slice ax0_0 m0.fItems.length cx0_0) := hbxx0.2 0 _ rfl
      have hlbx0 : w6.heap.size < w7.heap.size := hbxx0.1
      have hB7 : Below w.heap.size w w7 := bthen hB6 hG7
      clear hx7
      have hltx1 : ∀ b, b ∈ Fx1 → b < w7.heap.size := fun b hb => oItem_good.lt hox1 b hb
      have hq := (oItem_good.read hox1)
      obtain ⟨ax1_2, cx1_2, rfl, _⟩ := hq
      have hC := fun (W : World) (hb : Below w7.heap.size w7 W) => implGraphPut_c _ m0 _ m1 W (rGraph_good.mono (rGraph_good.below (oGraph_good.read hox0) hb) hb.size) (rItem_good.mono (rItem_good.below (oItem_good.read hox1) hb) hb.size) hwn0 hwn1
      go_wp2_with fail
      refine Calls.mono (hC _ ?_) ?_
      · repeat (first | with_reducible exact Below.refl _ _ | with_reducible assumption | with_reducible refine Below.drew ?_ | with_reducible refine Below.alloc ?_ (by first | exact Nat.le_refl _ | (simp <;> omega)) _ | with_reducible refine Below.setCell ?_ (by simp) _)
      clear hC
      rintro e w8 ⟨vg0, Fg0, he, hog0, hNg0, hgeg0, hx8⟩
      have hZ8 : w7.heap.size + 1 ≤ w8.heap.size := by have h := hx8.size; first | exact h | (simp at h; omega)
      rw [← HR0.out] at hog0
      have hgeg0o : ∀ b, b ∈ Fg0 → w7.heap.size + 1 ≤ b := fun b hb => by have h := hgeg0 b hb; first | exact h | (simp at h; omega)
      clear hgeg0
      rw [← HR1.out] at he
      subst he
      have hG8 : Below w7.heap.size w7 w8 := bthen (hx := hx8) (h := by repeat (first | with_reducible exact Below.refl _ _ | with_reducible assumption | with_reducible refine Below.drew ?_ | with_reducible refine Below.alloc ?_ (by first | exact Nat.le_refl _ | (simp <;> omega)) _ | with_reducible refine Below.setCell ?_ (by simp) _))
      replace hbxA0 : Bx w8 (w.heap.size) [.slice a0_0 m0.fItems.length c0_0] := hbxA0.under hG8
      replace hbxA1 : Bx w8 (w.heap.size + 1) [.int .i64 m1.fD.fR, .int .i64 m1.fD.fN, .slice a1_2 m1.fDeps.length c1_2] := hbxA1.under hG8
      replace hbxs0 : Bx w8 (g5) [.slice as0_0 R0.fItems.length cs0_0] := hbxs0.under hG8
      replace hbxx0 : Bx w8 (w6.heap.size) [.slice ax0_0 m0.fItems.length cx0_0] := hbxx0.under hG8
      have hoN := (oGraph_good.frame hox0 (fun b hb => hG8.block b (oGraph_good.lt hox0 b hb)))
      clear hox0
      have hox0 := hoN
      clear hoN
      have hoN := (oItem_good.frame hox1 (fun b hb => hG8.block b (oItem_good.lt hox1 b hb)))
      clear hox1
      have hox1 := hoN
      clear hoN
      replace hrs0 := (rGraph_good.below hrs0 (hG8.mono hbs0))
      replace hbs0 := Nat.le_trans hbs0 hG8.size
      have hbxx1 : Bx w8 (w7.heap.size) [.int .i64 m1.fD.fR, .int .i64 m1.fD.fN, .slice ax1_2 m1.fDeps.length cx1_2] := (Bx.new _ [.int .i64 m1.fD.fR, .int .i64 m1.fD.fN, .slice ax1_2 m1.fDeps.length cx1_2] _).under hx8
      replace xbA0_0 : w8.cell? ⟨w.heap.size, 0, none⟩ = some (.slice a0_0 m0.fItems.length c0_0) := hbxA0.2 0 _ rfl
      replace hlbA0 : w.heap.size < w8.heap.size := hbxA0.1
      replace xbA1_0 : w8.cell? ⟨w.heap.size + 1, 0, none⟩ = some (.int .i64 m1.fD.fR) := hbxA1.2 0 _ rfl
      replace xbA1_1 : w8.cell? ⟨w.heap.size + 1, 1, none⟩ = some (.int .i64 m1.fD.fN) := hbxA1.2 1 _ rfl
      replace xbA1_2 : w8.cell? ⟨w.heap.size + 1, 2, none⟩ = some (.slice a1_2 m1.fDeps.length c1_2) := hbxA1.2 2 _ rfl
      replace hlbA1 : w.heap.size + 1 < w8.heap.size := hbxA1.1
      replace xbs0_0 : w8.cell? ⟨g5, 0, none⟩ = some (.slice as0_0 R0.fItems.length cs0_0) := hbxs0.2 0 _ rfl
      replace hlbs0 : g5 < w8.heap.size := hbxs0.1
      replace xbx0_0 : w8.cell? ⟨w6.heap.size, 0, none⟩ = some (.slice ax0_0 m0.fItems.length cx0_0) := hbxx0.2 0 _ rfl
      replace hlbx0 : w6.heap.size < w8.heap.size := hbxx0.1
      have xbx1_0 : w8.cell? ⟨w7.heap.size, 0, none⟩ = some (.int .i64 m1.fD.fR) := hbxx1.2 0 _ rfl
      have xbx1_1 : w8.cell? ⟨w7.heap.size, 1, none⟩ = some (.int .i64 m1.fD.fN) := hbxx1.2 1 _ rfl
      have xbx1_2 : w8.cell? ⟨w7.heap.size, 2, none⟩ = some (.slice ax1_2 m1.fDeps.length cx1_2) := hbxx1.2 2 _ rfl
      have hlbx1 : w7.heap.size < w8.heap.size := hbxx1.1
      have hB8 : Below w.heap.size w w8 := bthen hB7 hG8
      clear hx8
      have hltg0 : ∀ b, b ∈ Fg0 → b < w8.heap.size := fun b hb => oGraph_good.lt hog0 b hb
      have hq := (oGraph_good.read hog0)
      obtain ⟨ag0_0, cg0_0, rfl, _⟩ := hq
      have hC := fun (W : World) (hb : Below w8.heap.size w8 W) => eqGraph_yes _ _ R0 W (rGraph_good.mono (rGraph_good.below (oGraph_good.read hog0) hb) hb.size) (rGraph_good.mono (rGraph_good.below hrs0 (hb.mono hbs0)) (Nat.le_trans hbs0 hb.size)) (by omega)
      go_wp2_with fail
      refine Calls.mono (hC _ ?_) ?_
      · repeat (first | with_reducible exact Below.refl _ _ | with_reducible assumption | with_reducible refine Below.drew ?_ | with_reducible refine Below.alloc ?_ (by first | exact Nat.le_refl _ | (simp <;> omega)) _ | with_reducible refine Below.setCell ?_ (by simp) _)
      clear hC
      rintro e w9 ⟨rfl, hx9⟩
      have hZ9 : w8.heap.size + 1 ≤ w9.heap.size := by have h := hx9.size; first | exact h | (simp at h; omega)
      have hG9 : Below w8.heap.size w8 w9 := bthen (hx := hx9) (h := by repeat (first | with_reducible exact Below.refl _ _ | with_reducible assumption | with_reducible refine Below.drew ?_ | with_reducible refine Below.alloc ?_ (by first | exact Nat.le_refl _ | (simp <;> omega)) _ | with_reducible refine Below.setCell ?_ (by simp) _))
      replace hbxA0 : Bx w9 (w.heap.size) [.slice a0_0 m0.fItems.length c0_0] := hbxA0.under hG9
      replace hbxA1 : Bx w9 (w.heap.size + 1) [.int .i64 m1.fD.fR, .int .i64 m1.fD.fN, .slice a1_2 m1.fDeps.length c1_2] := hbxA1.under hG9
      replace hbxs0 : Bx w9 (g5) [.slice as0_0 R0.fItems.length cs0_0] := hbxs0.under hG9
      replace hbxx0 : Bx w9 (w6.heap.size) [.slice ax0_0 m0.fItems.length cx0_0] := hbxx0.under hG9
      replace hbxx1 : Bx w9 (w7.heap.size) [.int .i64 m1.fD.fR, .int .i64 m1.fD.fN, .slice ax1_2 m1.fDeps.length cx1_2] := hbxx1.under hG9
      have hoN := (oGraph_good.frame hox0 (fun b hb => hG9.block b (oGraph_good.lt hox0 b hb)))
      clear hox0
      have hox0 := hoN
      clear hoN
      have hoN := (oItem_good.frame hox1 (fun b hb => hG9.block b (oItem_good.lt hox1 b hb)))
      clear hox1
      have hox1 := hoN
      clear hoN
      have hoN := (oGraph_good.frame hog0 (fun b hb => hG9.block b (oGraph_good.lt hog0 b hb)))
      clear hog0
      have hog0 := hoN
      clear hoN
      replace hrs0 := (rGraph_good.below hrs0 (hG9.mono hbs0))
      replace hbs0 := Nat.le_trans hbs0 hG9.size
      have hbxg0 : Bx w9 (w8.heap.size) [.slice ag0_0 R0.fItems.length cg0_0] := (Bx.new _ [.slice ag0_0 R0.fItems.length cg0_0] _).under hx9
      replace xbA0_0 : w9.cell? ⟨w.heap.size, 0, none⟩ = some (.slice a0_0 m0.fItems.length c0_0) := hbxA0.2 0 _ rfl
      replace hlbA0 : w.heap.size < w9.heap.size := hbxA0.1
      replace xbA1_0 : w9.cell? ⟨w.heap.size + 1, 0, none⟩ = some (.int .i64 m1.fD.fR) := hbxA1.2 0 _ rfl
      replace xbA1_1 : w9.cell? ⟨w.heap.size + 1, 1, none⟩ = some (.int .i64 m1.fD.fN) := hbxA1.2 1 _ rfl
      replace xbA1_2 : w9.cell? ⟨w.heap.size + 1, 2, none⟩ = some (.slice a1_2 m1.fDeps.length c1_2) := hbxA1.2 2 _ rfl
      replace hlbA1 : w.heap.size + 1 < w9.heap.size := hbxA1.1
      replace xbs0_0 : w9.cell? ⟨g5, 0, none⟩ = some (.slice as0_0 R0.fItems.length cs0_0) := hbxs0.2 0 _ rfl
      replace hlbs0 : g5 < w9.heap.size := hbxs0.1
      replace xbx0_0 : w9.cell? ⟨w6.heap.size, 0, none⟩ = some (.slice ax0_0 m0.fItems.length cx0_0) := hbxx0.2 0 _ rfl
      replace hlbx0 : w6.heap.size < w9.heap.size := hbxx0.1
      replace xbx1_0 : w9.cell? ⟨w7.heap.size, 0, none⟩ = some (.int .i64 m1.fD.fR) := hbxx1.2 0 _ rfl
      replace xbx1_1 : w9.cell? ⟨w7.heap.size, 1, none⟩ = some (.int .i64 m1.fD.fN) := hbxx1.2 1 _ rfl
      replace xbx1_2 : w9.cell? ⟨w7.heap.size, 2, none⟩ = some (.slice ax1_2 m1.fDeps.length cx1_2) := hbxx1.2 2 _ rfl
      replace hlbx1 : w7.heap.size < w9.heap.size := hbxx1.1
      have xbg0_0 : w9.cell? ⟨w8.heap.size, 0, none⟩ = some (.slice ag0_0 R0.fItems.length cg0_0) := hbxg0.2 0 _ rfl
      have hlbg0 : w8.heap.size < w9.heap.size := hbxg0.1
      have hB9 : Below w.heap.size w w9 := bthen hB8 hG9
      clear hx9
      have hC1 := fun (W : World) (hb : Below w9.heap.size w9 W) => toGraph_any _ m0 W (rGraph_good.mono (rGraph_good.below hr0 (bthen hB9 hb)) (bthen hB9 hb).size) hwn0
      have hC2 := fun (W W2 : World) (v2 : List Value) (F2 : List Nat) (hb : Below w9.heap.size w9 W) (hb2 : Below W.heap.size W W2) (ho2 : oGraph W2 v2 m0 F2) => eqGraph_yes _ v2 m0 W2 (rGraph_good.mono (rGraph_good.below (oGraph_good.read hox0) (bthen hb hb2)) (bthen hb hb2).size) (oGraph_good.read ho2) (by omega)
      go_wp2_with fail
      have pp0 : ∀ W, Below w9.heap.size w9 W → W.cell? ⟨w.heap.size, 0, none⟩ = some (.slice a0_0 m0.fItems.length c0_0) := fun W hb => (hbxA0.under hb).2 0 _ rfl
      have pq0 : ∀ W, Below w9.heap.size w9 W → W.cell? ⟨w6.heap.size, 0, none⟩ = some (.slice ax0_0 m0.fItems.length cx0_0) := fun W hb => (hbxx0.under hb).2 0 _ rfl
      refine wp_region_held_drew (S := fun W => Below w9.heap.size w9 W) (by kernel_rfl) (Below.drew (Below.refl _ _)) (fun hHeld => ?_)
      refine tk 0 q434_6_14_0 (some 54) (v := ?v1) rfl rfl (by kernel_rfl) hHeld (by rfl) (fun _ _ _ x => x) (fun w h => ?y1) ?_; (case y1 => (try dsimp only at h); go_simp; try (with_reducible rfl)); try simp only [Act.put, sa, s0, s1]
      refine tk 1 q434_6_14_1 (some 55) (v := ?v2) rfl rfl (by kernel_rfl) hHeld (by rfl) (fun _ _ _ x => x) (fun w h => ?y2) ?_; (case y2 => (try dsimp only at h); go_simp; try (with_reducible rfl)); try simp only [Act.put, sa, s0, s1]
      refine wpAnyH_ready (rs := [2]) (by kernel_rfl) (by simp) ?_
      refine AllReadyH.cons (o := q434_6_14_2) rfl (fun K hK => ?_) AllReadyH.nil
      go_simp
      refine Calls.mono (hC1 _ hHeld) ?_
      rintro e w10 ⟨vt0, Ft0, rfl, hot0, hNt0, hget0, hx10⟩
      have hx1 := hx10
      have hG10 : Below w9.heap.size w9 w10 := bthen hHeld hx10
      obtain ⟨at0_0, ct0_0, rfl, _⟩ := id (oGraph_good.read hot0)
      go_wp2_with fail
      refine hK.out _ _ (bthen hHeld hx1) (fun hHeld => ?_)
      clear hK K
      try simp only [Act.put, sa, s0, s1]
      refine wpAnyH_ready (rs := [3]) (by kernel_rfl) (by simp) ?_
      refine AllReadyH.cons (o := q434_6_14_3) rfl (fun K hK => ?_) AllReadyH.nil
      go_simp
      refine Calls.mono (hC2 _ _ _ _ (Below.refl _ _) hG10 hot0) ?_
      rintro e w11 ⟨rfl, hx11⟩
      have hx2 := hx11
      go_wp2_with fail
      refine hK.out _ _ (bthen hHeld hx2) (fun hHeld => ?_)
      clear hK K
      try simp only [Act.put, sa, s0, s1]
      refine tk 4 q434_6_14_4 (some 58) (v := ?v3) rfl rfl (by kernel_rfl) hHeld (by rfl) (fun _ _ _ x => x) (fun w h => ?y3) ?_; (case y3 => (try dsimp only at h); go_simp; try (with_reducible rfl)); try simp only [Act.put, sa, s0, s1]
      refine wpAnyH_done (by kernel_rfl) ?_ _
      clear hHeld hx1 hx2 pp0 pq0
      all_goals
        have hZ10 : w9.heap.size ≤ w10.heap.size := by have h := hx10.size; first | exact h | (simp at h; omega)
        have hZ11 : w10.heap.size ≤ w11.heap.size := hx11.size
        have hGG11 : Below w9.heap.size w9 w11 := bthen hG10 hx11
        replace hbxA0 : Bx w11 (w.heap.size) [.slice a0_0 m0.fItems.length c0_0] := hbxA0.under hGG11
        replace hbxA1 : Bx w11 (w.heap.size + 1) [.int .i64 m1.fD.fR, .int .i64 m1.fD.fN, .slice a1_2 m1.fDeps.length c1_2] := hbxA1.under hGG11
        replace hbxs0 : Bx w11 (g5) [.slice as0_0 R0.fItems.length cs0_0] := hbxs0.under hGG11
        replace hbxx0 : Bx w11 (w6.heap.size) [.slice ax0_0 m0.fItems.length cx0_0] := hbxx0.under hGG11
        replace hbxx1 : Bx w11 (w7.heap.size) [.int .i64 m1.fD.fR, .int .i64 m1.fD.fN, .slice ax1_2 m1.fDeps.length cx1_2] := hbxx1.under hGG11
        replace hbxg0 : Bx w11 (w8.heap.size) [.slice ag0_0 R0.fItems.length cg0_0] := hbxg0.under hGG11
        have hoN := (oGraph_good.frame hox0 (fun b hb => hGG11.block b (oGraph_good.lt hox0 b hb)))
        clear hox0
        have hox0 := hoN
        clear hoN
        have hoN := (oItem_good.frame hox1 (fun b hb => hGG11.block b (oItem_good.lt hox1 b hb)))
        clear hox1
        have hox1 := hoN
        clear hoN
        have hoN := (oGraph_good.frame hog0 (fun b hb => hGG11.block b (oGraph_good.lt hog0 b hb)))
        clear hog0
        have hog0 := hoN
        clear hoN
        replace hrs0 := (rGraph_good.below hrs0 (hGG11.mono hbs0))
        replace hbs0 := Nat.le_trans hbs0 hGG11.size
        replace xbA0_0 : w11.cell? ⟨w.heap.size, 0, none⟩ = some (.slice a0_0 m0.fItems.length c0_0) := hbxA0.2 0 _ rfl
        replace hlbA0 : w.heap.size < w11.heap.size := hbxA0.1
        replace xbA1_0 : w11.cell? ⟨w.heap.size + 1, 0, none⟩ = some (.int .i64 m1.fD.fR) := hbxA1.2 0 _ rfl
        replace xbA1_1 : w11.cell? ⟨w.heap.size + 1, 1, none⟩ = some (.int .i64 m1.fD.fN) := hbxA1.2 1 _ rfl
        replace xbA1_2 : w11.cell? ⟨w.heap.size + 1, 2, none⟩ = some (.slice a1_2 m1.fDeps.length c1_2) := hbxA1.2 2 _ rfl
        replace hlbA1 : w.heap.size + 1 < w11.heap.size := hbxA1.1
        replace xbs0_0 : w11.cell? ⟨g5, 0, none⟩ = some (.slice as0_0 R0.fItems.length cs0_0) := hbxs0.2 0 _ rfl
        replace hlbs0 : g5 < w11.heap.size := hbxs0.1
        replace xbx0_0 : w11.cell? ⟨w6.heap.size, 0, none⟩ = some (.slice ax0_0 m0.fItems.length cx0_0) := hbxx0.2 0 _ rfl
        replace hlbx0 : w6.heap.size < w11.heap.size := hbxx0.1
        replace xbx1_0 : w11.cell? ⟨w7.heap.size, 0, none⟩ = some (.int .i64 m1.fD.fR) := hbxx1.2 0 _ rfl
        replace xbx1_1 : w11.cell? ⟨w7.heap.size, 1, none⟩ = some (.int .i64 m1.fD.fN) := hbxx1.2 1 _ rfl
        replace xbx1_2 : w11.cell? ⟨w7.heap.size, 2, none⟩ = some (.slice ax1_2 m1.fDeps.length cx1_2) := hbxx1.2 2 _ rfl
        replace hlbx1 : w7.heap.size < w11.heap.size := hbxx1.1
        replace xbg0_0 : w11.cell? ⟨w8.heap.size, 0, none⟩ = some (.slice ag0_0 R0.fItems.length cg0_0) := hbxg0.2 0 _ rfl
        replace hlbg0 : w8.heap.size < w11.heap.size := hbxg0.1
        have hB11 : Below w.heap.size w w11 := bthen hB9 hGG11
        clear hx10 hx11 hC1 hC2 hot0 hNt0 hget0
        have hC1 := fun (W : World) (hb : Below w11.heap.size w11 W) => toItem_any _ m1 W (rItem_good.mono (rItem_good.below hr1 (bthen hB11 hb)) (bthen hB11 hb).size) hwn1
        have hC2 := fun (W W2 : World) (v2 : List Value) (F2 : List Nat) (hb : Below w11.heap.size w11 W) (hb2 : Below W.heap.size W W2) (ho2 : oItem W2 v2 m1 F2) => eqItem_yes _ v2 m1 W2 (rItem_good.mono (rItem_good.below (oItem_good.read hox1) (bthen hb hb2)) (bthen hb hb2).size) (oItem_good.read ho2) (by omega)
        go_wp2_with fail
        have pp0 : ∀ W, Below w11.heap.size w11 W → W.cell? ⟨w.heap.size + 1, 0, none⟩ = some (.int .i64 m1.fD.fR) := fun W hb => (hbxA1.under hb).2 0 _ rfl
        have pp1 : ∀ W, Below w11.heap.size w11 W → W.cell? ⟨w.heap.size + 1, 1, none⟩ = some (.int .i64 m1.fD.fN) := fun W hb => (hbxA1.under hb).2 1 _ rfl
        have pp2 : ∀ W, Below w11.heap.size w11 W → W.cell? ⟨w.heap.size + 1, 2, none⟩ = some (.slice a1_2 m1.fDeps.length c1_2) := fun W hb => (hbxA1.under hb).2 2 _ rfl
        have pq0 : ∀ W, Below w11.heap.size w11 W → W.cell? ⟨w7.heap.size, 0, none⟩ = some (.int .i64 m1.fD.fR) := fun W hb => (hbxx1.under hb).2 0 _ rfl
        have pq1 : ∀ W, Below w11.heap.size w11 W → W.cell? ⟨w7.heap.size, 1, none⟩ = some (.int .i64 m1.fD.fN) := fun W hb => (hbxx1.under hb).2 1 _ rfl
        have pq2 : ∀ W, Below w11.heap.size w11 W → W.cell? ⟨w7.heap.size, 2, none⟩ = some (.slice ax1_2 m1.fDeps.length cx1_2) := fun W hb => (hbxx1.under hb).2 2 _ rfl
        refine wp_region_held_drew (S := fun W => Below w11.heap.size w11 W) (by kernel_rfl) (Below.drew (Below.refl _ _)) (fun hHeld => ?_)
        refine tk 0 q434_6_16_0 (some 59) (v := ?v4) rfl rfl (by kernel_rfl) hHeld (by rfl) (fun _ _ _ x => x) (fun w h => ?y4) ?_; (case y4 => (try dsimp only at h); go_simp; try (with_reducible rfl)); try simp only [Act.put, sa, s0, s1]
        refine tk 1 q434_6_16_1 (some 60) (v := ?v5) rfl rfl (by kernel_rfl) hHeld (by rfl) (fun _ _ _ x => x) (fun w h => ?y5) ?_; (case y5 => (try dsimp only at h); go_simp; try (with_reducible rfl)); try simp only [Act.put, sa, s0, s1]
        refine wpAnyH_ready (rs := [2]) (by kernel_rfl) (by simp) ?_
        refine AllReadyH.cons (o := q434_6_16_2) rfl (fun K hK => ?_) AllReadyH.nil
        go_simp
        refine Calls.mono (hC1 _ hHeld) ?_
        rintro e w12 ⟨vt1, Ft1, rfl, hot1, hNt1, hget1, hx12⟩
        have hx1 := hx12
        have hG12 : Below w11.heap.size w11 w12 := bthen hHeld hx12
        obtain ⟨at1_2, ct1_2, rfl, _⟩ := id (oItem_good.read hot1)
        go_wp2_with fail
        refine hK.out _ _ (bthen hHeld hx1) (fun hHeld => ?_)
        clear hK K
        try simp only [Act.put, sa, s0, s1]
        refine wpAnyH_ready (rs := [3]) (by kernel_rfl) (by simp) ?_
        refine AllReadyH.cons (o := q434_6_16_3) rfl (fun K hK => ?_) AllReadyH.nil
        go_simp
        refine Calls.mono (hC2 _ _ _ _ (Below.refl _ _) hG12 hot1) ?_
        rintro e w13 ⟨rfl, hx13⟩
        have hx2 := hx13
        go_wp2_with fail
        refine hK.out _ _ (bthen hHeld hx2) (fun hHeld => ?_)
        clear hK K
        try simp only [Act.put, sa, s0, s1]
        refine tk 4 q434_6_16_4 (some 63) (v := ?v6) rfl rfl (by kernel_rfl) hHeld (by rfl) (fun _ _ _ x => x) (fun w h => ?y6) ?_; (case y6 => (try dsimp only at h); go_simp; try (with_reducible rfl)); try simp only [Act.put, sa, s0, s1]
        refine wpAnyH_done (by kernel_rfl) ?_ _
        clear hHeld hx1 hx2 pp0 pq0 pp1 pq1 pp2 pq2
        all_goals
          have hZ12 : w11.heap.size ≤ w12.heap.size := by have h := hx12.size; first | exact h | (simp at h; omega)
          have hZ13 : w12.heap.size ≤ w13.heap.size := hx13.size
          have hGG13 : Below w11.heap.size w11 w13 := bthen hG12 hx13
          replace hbxA0 : Bx w13 (w.heap.size) [.slice a0_0 m0.fItems.length c0_0] := hbxA0.under hGG13
          replace hbxA1 : Bx w13 (w.heap.size + 1) [.int .i64 m1.fD.fR, .int .i64 m1.fD.fN, .slice a1_2 m1.fDeps.length c1_2] := hbxA1.under hGG13
          replace hbxs0 : Bx w13 (g5) [.slice as0_0 R0.fItems.length cs0_0] := hbxs0.under hGG13
          replace hbxx0 : Bx w13 (w6.heap.size) [.slice ax0_0 m0.fItems.length cx0_0] := hbxx0.under hGG13
          replace hbxx1 : Bx w13 (w7.heap.size) [.int .i64 m1.fD.fR, .int .i64 m1.fD.fN, .slice ax1_2 m1.fDeps.length cx1_2] := hbxx1.under hGG13
          replace hbxg0 : Bx w13 (w8.heap.size) [.slice ag0_0 R0.fItems.length cg0_0] := hbxg0.under hGG13
          have hoN := (oGraph_good.frame hox0 (fun b hb => hGG13.block b (oGraph_good.lt hox0 b hb)))
          clear hox0
          have hox0 := hoN
          clear hoN
          have hoN := (oItem_good.frame hox1 (fun b hb => hGG13.block b (oItem_good.lt hox1 b hb)))
          clear hox1
          have hox1 := hoN
          clear hoN
          have hoN := (oGraph_good.frame hog0 (fun b hb => hGG13.block b (oGraph_good.lt hog0 b hb)))
          clear hog0
          have hog0 := hoN
          clear hoN
          replace hrs0 := (rGraph_good.below hrs0 (hGG13.mono hbs0))
          replace hbs0 := Nat.le_trans hbs0 hGG13.size
          replace xbA0_0 : w13.cell? ⟨w.heap.size, 0, none⟩ = some (.slice a0_0 m0.fItems.length c0_0) := hbxA0.2 0 _ rfl
          replace hlbA0 : w.heap.size < w13.heap.size := hbxA0.1
          replace xbA1_0 : w13.cell? ⟨w.heap.size + 1, 0, none⟩ = some (.int .i64 m1.fD.fR) := hbxA1.2 0 _ rfl
          replace xbA1_1 : w13.cell? ⟨w.heap.size + 1, 1, none⟩ = some (.int .i64 m1.fD.fN) := hbxA1.2 1 _ rfl
          replace xbA1_2 : w13.cell? ⟨w.heap.size + 1, 2, none⟩ = some (.slice a1_2 m1.fDeps.length c1_2) := hbxA1.2 2 _ rfl
          replace hlbA1 : w.heap.size + 1 < w13.heap.size := hbxA1.1
          replace xbs0_0 : w13.cell? ⟨g5, 0, none⟩ = some (.slice as0_0 R0.fItems.length cs0_0) := hbxs0.2 0 _ rfl
          replace hlbs0 : g5 < w13.heap.size := hbxs0.1
          replace xbx0_0 : w13.cell? ⟨w6.heap.size, 0, none⟩ = some (.slice ax0_0 m0.fItems.length cx0_0) := hbxx0.2 0 _ rfl
          replace hlbx0 : w6.heap.size < w13.heap.size := hbxx0.1
          replace xbx1_0 : w13.cell? ⟨w7.heap.size, 0, none⟩ = some (.int .i64 m1.fD.fR) := hbxx1.2 0 _ rfl
          replace xbx1_1 : w13.cell? ⟨w7.heap.size, 1, none⟩ = some (.int .i64 m1.fD.fN) := hbxx1.2 1 _ rfl
          replace xbx1_2 : w13.cell? ⟨w7.heap.size, 2, none⟩ = some (.slice ax1_2 m1.fDeps.length cx1_2) := hbxx1.2 2 _ rfl
          replace hlbx1 : w7.heap.size < w13.heap.size := hbxx1.1
          replace xbg0_0 : w13.cell? ⟨w8.heap.size, 0, none⟩ = some (.slice ag0_0 R0.fItems.length cg0_0) := hbxg0.2 0 _ rfl
          replace hlbg0 : w8.heap.size < w13.heap.size := hbxg0.1
          have hB13 : Below w.heap.size w w13 := bthen hB11 hGG13
          clear hx12 hx13 hC1 hC2 hot1 hNt1 hget1
          have hC := fun (W : World) (hb : Below w13.heap.size w13 W) => markGraph_b _ m0 Fx0 1 W (by omega) (by omega) (oGraph_good.frame hox0 (fun b hb2 => hb.block b (oGraph_good.lt hox0 b hb2))) hNx0
          go_wp2_with fail
          refine Calls.mono (hC _ ?_) ?_
          · repeat (first | with_reducible exact Below.refl _ _ | with_reducible assumption | with_reducible refine Below.drew ?_ | with_reducible refine Below.alloc ?_ (by first | exact Nat.le_refl _ | (simp <;> omega)) _ | with_reducible refine Below.setCell ?_ (by simp) _)
          clear hC
          rintro e w14 ⟨mmx0, qx0, rfl, hqax0, hqbx0, homx0, hhx0, hx14⟩
          have hZ14 : w13.heap.size ≤ w14.heap.size := by have h := hx14.size; first | exact h | (simp at h; omega)
          have hG14 : Turn Fx0 w13 w14 := Turn.after (hx := hx14) (h := by repeat (first | with_reducible exact Below.refl _ _ | with_reducible assumption | with_reducible refine Below.drew ?_ | with_reducible refine Below.alloc ?_ (by first | exact Nat.le_refl _ | (simp <;> omega)) _ | with_reducible refine Below.setCell ?_ (by simp) _))
          replace hbxA0 : Bx w14 (w.heap.size) [.slice a0_0 m0.fItems.length c0_0] := hbxA0.turn hG14 (fun hm => by have h1 := hgex0o _ hm; have h2 := hltx0 _ hm; omega)
          replace hbxA1 : Bx w14 (w.heap.size + 1) [.int .i64 m1.fD.fR, .int .i64 m1.fD.fN, .slice a1_2 m1.fDeps.length c1_2] := hbxA1.turn hG14 (fun hm => by have h1 := hgex0o _ hm; have h2 := hltx0 _ hm; omega)
          replace hbxs0 : Bx w14 (g5) [.slice as0_0 R0.fItems.length cs0_0] := hbxs0.turn hG14 (fun hm => by have h1 := hgex0o _ hm; have h2 := hltx0 _ hm; omega)
          replace hbxx0 : Bx w14 (w6.heap.size) [.slice ax0_0 m0.fItems.length cx0_0] := hbxx0.turn hG14 (fun hm => by have h1 := hgex0o _ hm; have h2 := hltx0 _ hm; omega)
          replace hbxx1 : Bx w14 (w7.heap.size) [.int .i64 m1.fD.fR, .int .i64 m1.fD.fN, .slice ax1_2 m1.fDeps.length cx1_2] := hbxx1.turn hG14 (fun hm => by have h1 := hgex0o _ hm; have h2 := hltx0 _ hm; omega)
          replace hbxg0 : Bx w14 (w8.heap.size) [.slice ag0_0 R0.fItems.length cg0_0] := hbxg0.turn hG14 (fun hm => by have h1 := hgex0o _ hm; have h2 := hltx0 _ hm; omega)
          have hoN := (oItem_good.frame hox1 (fun b hb => hG14.block b (oItem_good.lt hox1 b hb) (fun hm => by have h1 := hgex0o _ hm; have h2 := hltx0 _ hm; have h3 := hgex1o _ hb; have h4 := hltx1 _ hb; omega)))
          clear hox1
          have hox1 := hoN
          clear hoN
          have hoN := (oGraph_good.frame hog0 (fun b hb => hG14.block b (oGraph_good.lt hog0 b hb) (fun hm => by have h1 := hgex0o _ hm; have h2 := hltx0 _ hm; have h3 := hgeg0o _ hb; have h4 := hltg0 _ hb; omega)))
          clear hog0
          have hog0 := hoN
          clear hoN
          replace hrs0 := (rGraph_good.below hrs0 (Turn.below hG14 (fun k hk => by have h1 := hgex0o _ hk; omega) hbs0))
          replace hbs0 := Nat.le_trans hbs0 hG14.size
          replace xbA0_0 : w14.cell? ⟨w.heap.size, 0, none⟩ = some (.slice a0_0 m0.fItems.length c0_0) := hbxA0.2 0 _ rfl
          replace hlbA0 : w.heap.size < w14.heap.size := hbxA0.1
          replace xbA1_0 : w14.cell? ⟨w.heap.size + 1, 0, none⟩ = some (.int .i64 m1.fD.fR) := hbxA1.2 0 _ rfl
          replace xbA1_1 : w14.cell? ⟨w.heap.size + 1, 1, none⟩ = some (.int .i64 m1.fD.fN) := hbxA1.2 1 _ rfl
          replace xbA1_2 : w14.cell? ⟨w.heap.size + 1, 2, none⟩ = some (.slice a1_2 m1.fDeps.length c1_2) := hbxA1.2 2 _ rfl
          replace hlbA1 : w.heap.size + 1 < w14.heap.size := hbxA1.1
          replace xbs0_0 : w14.cell? ⟨g5, 0, none⟩ = some (.slice as0_0 R0.fItems.length cs0_0) := hbxs0.2 0 _ rfl
          replace hlbs0 : g5 < w14.heap.size := hbxs0.1
          replace xbx0_0 : w14.cell? ⟨w6.heap.size, 0, none⟩ = some (.slice ax0_0 m0.fItems.length cx0_0) := hbxx0.2 0 _ rfl
          replace hlbx0 : w6.heap.size < w14.heap.size := hbxx0.1
          replace xbx1_0 : w14.cell? ⟨w7.heap.size, 0, none⟩ = some (.int .i64 m1.fD.fR) := hbxx1.2 0 _ rfl
          replace xbx1_1 : w14.cell? ⟨w7.heap.size, 1, none⟩ = some (.int .i64 m1.fD.fN) := hbxx1.2 1 _ rfl
          replace xbx1_2 : w14.cell? ⟨w7.heap.size, 2, none⟩ = some (.slice ax1_2 m1.fDeps.length cx1_2) := hbxx1.2 2 _ rfl
          replace hlbx1 : w7.heap.size < w14.heap.size := hbxx1.1
          replace xbg0_0 : w14.cell? ⟨w8.heap.size, 0, none⟩ = some (.slice ag0_0 R0.fItems.length cg0_0) := hbxg0.2 0 _ rfl
          replace hlbg0 : w8.heap.size < w14.heap.size := hbxg0.1
          have hB14 : Below w.heap.size w w14 := Turn.under hB13 hG14 (fun k hk => by have h1 := hgex0o _ hk; have h2 := hB13.size; omega)
          clear hx14 hox0
          have hox0 := homx0
          clear homx0
          have hC := fun (W : World) (hb : Below w14.heap.size w14 W) => markItem_b _ m1 Fx1 qx0 W (by omega) (by omega) (oItem_good.frame hox1 (fun b hb2 => hb.block b (oItem_good.lt hox1 b hb2))) hNx1
          go_wp2_with fail
          refine Calls.mono (hC _ ?_) ?_
          · repeat (first | with_reducible exact Below.refl _ _ | with_reducible assumption | with_reducible refine Below.drew ?_ | with_reducible refine Below.alloc ?_ (by first | exact Nat.le_refl _ | (simp <;> omega)) _ | with_reducible refine Below.setCell ?_ (by simp) _)
          clear hC
          rintro e w15 ⟨mmx1, qx1, rfl, hqax1, hqbx1, homx1, hhx1, hx15⟩
          have hZ15 : w14.heap.size ≤ w15.heap.size := by have h := hx15.size; first | exact h | (simp at h; omega)
          have hG15 : Turn Fx1 w14 w15 := Turn.after (hx := hx15) (h := by repeat (first | with_reducible exact Below.refl _ _ | with_reducible assumption | with_reducible refine Below.drew ?_ | with_reducible refine Below.alloc ?_ (by first | exact Nat.le_refl _ | (simp <;> omega)) _ | with_reducible refine Below.setCell ?_ (by simp) _))
          replace hbxA0 : Bx w15 (w.heap.size) [.slice a0_0 m0.fItems.length c0_0] := hbxA0.turn hG15 (fun hm => by have h1 := hgex1o _ hm; have h2 := hltx1 _ hm; omega)
          replace hbxA1 : Bx w15 (w.heap.size + 1) [.int .i64 m1.fD.fR, .int .i64 m1.fD.fN, .slice a1_2 m1.fDeps.length c1_2] := hbxA1.turn hG15 (fun hm => by have h1 := hgex1o _ hm; have h2 := hltx1 _ hm; omega)
          replace hbxs0 : Bx w15 (g5) [.slice as0_0 R0.fItems.length cs0_0] := hbxs0.turn hG15 (fun hm => by have h1 := hgex1o _ hm; have h2 := hltx1 _ hm; omega)
          replace hbxx0 : Bx w15 (w6.heap.size) [.slice ax0_0 m0.fItems.length cx0_0] := hbxx0.turn hG15 (fun hm => by have h1 := hgex1o _ hm; have h2 := hltx1 _ hm; omega)
          replace hbxx1 : Bx w15 (w7.heap.size) [.int .i64 m1.fD.fR, .int .i64 m1.fD.fN, .slice ax1_2 m1.fDeps.length cx1_2] := hbxx1.turn hG15 (fun hm => by have h1 := hgex1o _ hm; have h2 := hltx1 _ hm; omega)
          replace hbxg0 : Bx w15 (w8.heap.size) [.slice ag0_0 R0.fItems.length cg0_0] := hbxg0.turn hG15 (fun hm => by have h1 := hgex1o _ hm; have h2 := hltx1 _ hm; omega)
          have hoN := (oGraph_good.frame hox0 (fun b hb => hG15.block b (oGraph_good.lt hox0 b hb) (fun hm => by have h1 := hgex1o _ hm; have h2 := hltx1 _ hm; have h3 := hgex0o _ hb; have h4 := hltx0 _ hb; omega)))
          clear hox0
          have hox0 := hoN
          clear hoN
          have hoN := (oGraph_good.frame hog0 (fun b hb => hG15.block b (oGraph_good.lt hog0 b hb) (fun hm => by have h1 := hgex1o _ hm; have h2 := hltx1 _ hm; have h3 := hgeg0o _ hb; have h4 := hltg0 _ hb; omega)))
          clear hog0
          have hog0 := hoN
          clear hoN
          replace hrs0 := (rGraph_good.below hrs0 (Turn.below hG15 (fun k hk => by have h1 := hgex1o _ hk; omega) hbs0))
          replace hbs0 := Nat.le_trans hbs0 hG15.size
          replace xbA0_0 : w15.cell? ⟨w.heap.size, 0, none⟩ = some (.slice a0_0 m0.fItems.length c0_0) := hbxA0.2 0 _ rfl
          replace hlbA0 : w.heap.size < w15.heap.size := hbxA0.1
          replace xbA1_0 : w15.cell? ⟨w.heap.size + 1, 0, none⟩ = some (.int .i64 m1.fD.fR) := hbxA1.2 0 _ rfl
          replace xbA1_1 : w15.cell? ⟨w.heap.size + 1, 1, none⟩ = some (.int .i64 m1.fD.fN) := hbxA1.2 1 _ rfl
          replace xbA1_2 : w15.cell? ⟨w.heap.size + 1, 2, none⟩ = some (.slice a1_2 m1.fDeps.length c1_2) := hbxA1.2 2 _ rfl
          replace hlbA1 : w.heap.size + 1 < w15.heap.size := hbxA1.1
          replace xbs0_0 : w15.cell? ⟨g5, 0, none⟩ = some (.slice as0_0 R0.fItems.length cs0_0) := hbxs0.2 0 _ rfl
          replace hlbs0 : g5 < w15.heap.size := hbxs0.1
          replace xbx0_0 : w15.cell? ⟨w6.heap.size, 0, none⟩ = some (.slice ax0_0 m0.fItems.length cx0_0) := hbxx0.2 0 _ rfl
          replace hlbx0 : w6.heap.size < w15.heap.size := hbxx0.1
          replace xbx1_0 : w15.cell? ⟨w7.heap.size, 0, none⟩ = some (.int .i64 m1.fD.fR) := hbxx1.2 0 _ rfl
          replace xbx1_1 : w15.cell? ⟨w7.heap.size, 1, none⟩ = some (.int .i64 m1.fD.fN) := hbxx1.2 1 _ rfl
          replace xbx1_2 : w15.cell? ⟨w7.heap.size, 2, none⟩ = some (.slice ax1_2 m1.fDeps.length cx1_2) := hbxx1.2 2 _ rfl
          replace hlbx1 : w7.heap.size < w15.heap.size := hbxx1.1
          replace xbg0_0 : w15.cell? ⟨w8.heap.size, 0, none⟩ = some (.slice ag0_0 R0.fItems.length cg0_0) := hbxg0.2 0 _ rfl
          replace hlbg0 : w8.heap.size < w15.heap.size := hbxg0.1
          have hB15 : Below w.heap.size w w15 := Turn.under hB14 hG15 (fun k hk => by have h1 := hgex1o _ hk; have h2 := hB14.size; omega)
          clear hx15 hox1
          have hox1 := homx1
          clear homx1
          have hC := fun (W : World) (hb : Below w15.heap.size w15 W) => eqGraph_yes _ _ R0 W (rGraph_good.mono (rGraph_good.below (oGraph_good.read hog0) hb) hb.size) (rGraph_good.mono (rGraph_good.below hrs0 (hb.mono hbs0)) (Nat.le_trans hbs0 hb.size)) (by omega)
          go_wp2_with fail
          refine Calls.mono (hC _ ?_) ?_
          · repeat (first | with_reducible exact Below.refl _ _ | with_reducible assumption | with_reducible refine Below.drew ?_ | with_reducible refine Below.alloc ?_ (by first | exact Nat.le_refl _ | (simp <;> omega)) _ | with_reducible refine Below.setCell ?_ (by simp) _)
          clear hC
          rintro e w16 ⟨rfl, hx16⟩
          have hZ16 : w15.heap.size ≤ w16.heap.size := by have h := hx16.size; first | exact h | (simp at h; omega)
          have hG16 : Below w15.heap.size w15 w16 := bthen (hx := hx16) (h := by repeat (first | with_reducible exact Below.refl _ _ | with_reducible assumption | with_reducible refine Below.drew ?_ | with_reducible refine Below.alloc ?_ (by first | exact Nat.le_refl _ | (simp <;> omega)) _ | with_reducible refine Below.setCell ?_ (by simp) _))
          replace hbxA0 : Bx w16 (w.heap.size) [.slice a0_0 m0.fItems.length c0_0] := hbxA0.under hG16
          replace hbxA1 : Bx w16 (w.heap.size + 1) [.int .i64 m1.fD.fR, .int .i64 m1.fD.fN, .slice a1_2 m1.fDeps.length c1_2] := hbxA1.under hG16
          replace hbxs0 : Bx w16 (g5) [.slice as0_0 R0.fItems.length cs0_0] := hbxs0.under hG16
          replace hbxx0 : Bx w16 (w6.heap.size) [.slice ax0_0 m0.fItems.length cx0_0] := hbxx0.under hG16
          replace hbxx1 : Bx w16 (w7.heap.size) [.int .i64 m1.fD.fR, .int .i64 m1.fD.fN, .slice ax1_2 m1.fDeps.length cx1_2] := hbxx1.under hG16
          replace hbxg0 : Bx w16 (w8.heap.size) [.slice ag0_0 R0.fItems.length cg0_0] := hbxg0.under hG16
          have hoN := (oGraph_good.frame hog0 (fun b hb => hG16.block b (oGraph_good.lt hog0 b hb)))
          clear hog0
          have hog0 := hoN
          clear hoN
          replace hrs0 := (rGraph_good.below hrs0 (hG16.mono hbs0))
          replace hbs0 := Nat.le_trans hbs0 hG16.size
          replace xbA0_0 : w16.cell? ⟨w.heap.size, 0, none⟩ = some (.slice a0_0 m0.fItems.length c0_0) := hbxA0.2 0 _ rfl
          replace hlbA0 : w.heap.size < w16.heap.size := hbxA0.1
          replace xbA1_0 : w16.cell? ⟨w.heap.size + 1, 0, none⟩ = some (.int .i64 m1.fD.fR) := hbxA1.2 0 _ rfl
          replace xbA1_1 : w16.cell? ⟨w.heap.size + 1, 1, none⟩ = some (.int .i64 m1.fD.fN) := hbxA1.2 1 _ rfl
          replace xbA1_2 : w16.cell? ⟨w.heap.size + 1, 2, none⟩ = some (.slice a1_2 m1.fDeps.length c1_2) := hbxA1.2 2 _ rfl
          replace hlbA1 : w.heap.size + 1 < w16.heap.size := hbxA1.1
          replace xbs0_0 : w16.cell? ⟨g5, 0, none⟩ = some (.slice as0_0 R0.fItems.length cs0_0) := hbxs0.2 0 _ rfl
          replace hlbs0 : g5 < w16.heap.size := hbxs0.1
          replace xbx0_0 : w16.cell? ⟨w6.heap.size, 0, none⟩ = some (.slice ax0_0 m0.fItems.length cx0_0) := hbxx0.2 0 _ rfl
          replace hlbx0 : w6.heap.size < w16.heap.size := hbxx0.1
          replace xbx1_0 : w16.cell? ⟨w7.heap.size, 0, none⟩ = some (.int .i64 m1.fD.fR) := hbxx1.2 0 _ rfl
          replace xbx1_1 : w16.cell? ⟨w7.heap.size, 1, none⟩ = some (.int .i64 m1.fD.fN) := hbxx1.2 1 _ rfl
          replace xbx1_2 : w16.cell? ⟨w7.heap.size, 2, none⟩ = some (.slice ax1_2 m1.fDeps.length cx1_2) := hbxx1.2 2 _ rfl
          replace hlbx1 : w7.heap.size < w16.heap.size := hbxx1.1
          replace xbg0_0 : w16.cell? ⟨w8.heap.size, 0, none⟩ = some (.slice ag0_0 R0.fItems.length cg0_0) := hbxg0.2 0 _ rfl
          replace hlbg0 : w8.heap.size < w16.heap.size := hbxg0.1
          have hB16 : Below w.heap.size w w16 := bthen hB15 hG16
          clear hx16
          have hC := fun (W : World) (hb : Below w16.heap.size w16 W) => markGraph_any _ R0 Fg0 1 W (by omega) (by omega) (oGraph_good.frame hog0 (fun b hb2 => hb.block b (oGraph_good.lt hog0 b hb2))) hNg0
          go_wp2_with fail
          refine Calls.mono (hC _ ?_) ?_
          · repeat (first | with_reducible exact Below.refl _ _ | with_reducible assumption | with_reducible refine Below.drew ?_ | with_reducible refine Below.alloc ?_ (by first | exact Nat.le_refl _ | (simp <;> omega)) _ | with_reducible refine Below.setCell ?_ (by simp) _)
          clear hC
          rintro e w17 ⟨mmg0, qg0, rfl, hqag0, hqbg0, homg0, hhg0, hx17⟩
          have hZ17 : w16.heap.size ≤ w17.heap.size := by have h := hx17.size; first | exact h | (simp at h; omega)
          have hG17 : Turn Fg0 w16 w17 := Turn.after (hx := hx17) (h := by repeat (first | with_reducible exact Below.refl _ _ | with_reducible assumption | with_reducible refine Below.drew ?_ | with_reducible refine Below.alloc ?_ (by first | exact Nat.le_refl _ | (simp <;> omega)) _ | with_reducible refine Below.setCell ?_ (by simp) _))
          replace hbxA0 : Bx w17 (w.heap.size) [.slice a0_0 m0.fItems.length c0_0] := hbxA0.turn hG17 (fun hm => by have h1 := hgeg0o _ hm; have h2 := hltg0 _ hm; omega)
          replace hbxA1 : Bx w17 (w.heap.size + 1) [.int .i64 m1.fD.fR, .int .i64 m1.fD.fN, .slice a1_2 m1.fDeps.length c1_2] := hbxA1.turn hG17 (fun hm => by have h1 := hgeg0o _ hm; have h2 := hltg0 _ hm; omega)
          replace hbxs0 : Bx w17 (g5) [.slice as0_0 R0.fItems.length cs0_0] := hbxs0.turn hG17 (fun hm => by have h1 := hgeg0o _ hm; have h2 := hltg0 _ hm; omega)
          replace hbxx0 : Bx w17 (w6.heap.size) [.slice ax0_0 m0.fItems.length cx0_0] := hbxx0.turn hG17 (fun hm => by have h1 := hgeg0o _ hm; have h2 := hltg0 _ hm; omega)
          replace hbxx1 : Bx w17 (w7.heap.size) [.int .i64 m1.fD.fR, .int .i64 m1.fD.fN, .slice ax1_2 m1.fDeps.length cx1_2] := hbxx1.turn hG17 (fun hm => by have h1 := hgeg0o _ hm; have h2 := hltg0 _ hm; omega)
          replace hbxg0 : Bx w17 (w8.heap.size) [.slice ag0_0 R0.fItems.length cg0_0] := hbxg0.turn hG17 (fun hm => by have h1 := hgeg0o _ hm; have h2 := hltg0 _ hm; omega)
          replace hrs0 := (rGraph_good.below hrs0 (Turn.below hG17 (fun k hk => by have h1 := hgeg0o _ hk; omega) hbs0))
          replace hbs0 := Nat.le_trans hbs0 hG17.size
          replace xbA0_0 : w17.cell? ⟨w.heap.size, 0, none⟩ = some (.slice a0_0 m0.fItems.length c0_0) := hbxA0.2 0 _ rfl
          replace hlbA0 : w.heap.size < w17.heap.size := hbxA0.1
          replace xbA1_0 : w17.cell? ⟨w.heap.size + 1, 0, none⟩ = some (.int .i64 m1.fD.fR) := hbxA1.2 0 _ rfl
          replace xbA1_1 : w17.cell? ⟨w.heap.size + 1, 1, none⟩ = some (.int .i64 m1.fD.fN) := hbxA1.2 1 _ rfl
          replace xbA1_2 : w17.cell? ⟨w.heap.size + 1, 2, none⟩ = some (.slice a1_2 m1.fDeps.length c1_2) := hbxA1.2 2 _ rfl
          replace hlbA1 : w.heap.size + 1 < w17.heap.size := hbxA1.1
          replace xbs0_0 : w17.cell? ⟨g5, 0, none⟩ = some (.slice as0_0 R0.fItems.length cs0_0) := hbxs0.2 0 _ rfl
          replace hlbs0 : g5 < w17.heap.size := hbxs0.1
          replace xbx0_0 : w17.cell? ⟨w6.heap.size, 0, none⟩ = some (.slice ax0_0 m0.fItems.length cx0_0) := hbxx0.2 0 _ rfl
          replace hlbx0 : w6.heap.size < w17.heap.size := hbxx0.1
          replace xbx1_0 : w17.cell? ⟨w7.heap.size, 0, none⟩ = some (.int .i64 m1.fD.fR) := hbxx1.2 0 _ rfl
          replace xbx1_1 : w17.cell? ⟨w7.heap.size, 1, none⟩ = some (.int .i64 m1.fD.fN) := hbxx1.2 1 _ rfl
          replace xbx1_2 : w17.cell? ⟨w7.heap.size, 2, none⟩ = some (.slice ax1_2 m1.fDeps.length cx1_2) := hbxx1.2 2 _ rfl
          replace hlbx1 : w7.heap.size < w17.heap.size := hbxx1.1
          replace xbg0_0 : w17.cell? ⟨w8.heap.size, 0, none⟩ = some (.slice ag0_0 R0.fItems.length cg0_0) := hbxg0.2 0 _ rfl
          replace hlbg0 : w8.heap.size < w17.heap.size := hbxg0.1
          have hB17 : Below w.heap.size w w17 := Turn.under hB16 hG17 (fun k hk => by have h1 := hgeg0o _ hk; have h2 := hB16.size; omega)
          clear hx17 hog0
          have hog0 := homg0
          clear homg0
          have hC := fun (W : World) (hb : Below w17.heap.size w17 W) => heldGraph_any _ mmg0 1 qg0 W (rGraph_good.mono (rGraph_good.below (oGraph_good.read hog0) hb) hb.size) hhg0 (by omega) (by omega)
          go_wp2_with fail
          refine Calls.mono (hC _ ?_) ?_
          · repeat (first | with_reducible exact Below.refl _ _ | with_reducible assumption | with_reducible refine Below.drew ?_ | with_reducible refine Below.alloc ?_ (by first | exact Nat.le_refl _ | (simp <;> omega)) _ | with_reducible refine Below.setCell ?_ (by simp) _)
          clear hC
          rintro e w18 ⟨rfl, hx18⟩
          have hZ18 : w17.heap.size ≤ w18.heap.size := by have h := hx18.size; first | exact h | (simp at h; omega)
          have hG18 : Below w17.heap.size w17 w18 := bthen (hx := hx18) (h := by repeat (first | with_reducible exact Below.refl _ _ | with_reducible assumption | with_reducible refine Below.drew ?_ | with_reducible refine Below.alloc ?_ (by first | exact Nat.le_refl _ | (simp <;> omega)) _ | with_reducible refine Below.setCell ?_ (by simp) _))
          replace hbxA0 : Bx w18 (w.heap.size) [.slice a0_0 m0.fItems.length c0_0] := hbxA0.under hG18
          replace hbxA1 : Bx w18 (w.heap.size + 1) [.int .i64 m1.fD.fR, .int .i64 m1.fD.fN, .slice a1_2 m1.fDeps.length c1_2] := hbxA1.under hG18
          replace hbxs0 : Bx w18 (g5) [.slice as0_0 R0.fItems.length cs0_0] := hbxs0.under hG18
          replace hbxx0 : Bx w18 (w6.heap.size) [.slice ax0_0 m0.fItems.length cx0_0] := hbxx0.under hG18
          replace hbxx1 : Bx w18 (w7.heap.size) [.int .i64 m1.fD.fR, .int .i64 m1.fD.fN, .slice ax1_2 m1.fDeps.length cx1_2] := hbxx1.under hG18
          replace hbxg0 : Bx w18 (w8.heap.size) [.slice ag0_0 R0.fItems.length cg0_0] := hbxg0.under hG18
          have hoN := (oGraph_good.frame hog0 (fun b hb => hG18.block b (oGraph_good.lt hog0 b hb)))
          clear hog0
          have hog0 := hoN
          clear hoN
          replace hrs0 := (rGraph_good.below hrs0 (hG18.mono hbs0))
          replace hbs0 := Nat.le_trans hbs0 hG18.size
          replace xbA0_0 : w18.cell? ⟨w.heap.size, 0, none⟩ = some (.slice a0_0 m0.fItems.length c0_0) := hbxA0.2 0 _ rfl
          replace hlbA0 : w.heap.size < w18.heap.size := hbxA0.1
          replace xbA1_0 : w18.cell? ⟨w.heap.size + 1, 0, none⟩ = some (.int .i64 m1.fD.fR) := hbxA1.2 0 _ rfl
          replace xbA1_1 : w18.cell? ⟨w.heap.size + 1, 1, none⟩ = some (.int .i64 m1.fD.fN) := hbxA1.2 1 _ rfl
          replace xbA1_2 : w18.cell? ⟨w.heap.size + 1, 2, none⟩ = some (.slice a1_2 m1.fDeps.length c1_2) := hbxA1.2 2 _ rfl
          replace hlbA1 : w.heap.size + 1 < w18.heap.size := hbxA1.1
          replace xbs0_0 : w18.cell? ⟨g5, 0, none⟩ = some (.slice as0_0 R0.fItems.length cs0_0) := hbxs0.2 0 _ rfl
          replace hlbs0 : g5 < w18.heap.size := hbxs0.1
          replace xbx0_0 : w18.cell? ⟨w6.heap.size, 0, none⟩ = some (.slice ax0_0 m0.fItems.length cx0_0) := hbxx0.2 0 _ rfl
          replace hlbx0 : w6.heap.size < w18.heap.size := hbxx0.1
          replace xbx1_0 : w18.cell? ⟨w7.heap.size, 0, none⟩ = some (.int .i64 m1.fD.fR) := hbxx1.2 0 _ rfl
          replace xbx1_1 : w18.cell? ⟨w7.heap.size, 1, none⟩ = some (.int .i64 m1.fD.fN) := hbxx1.2 1 _ rfl
          replace xbx1_2 : w18.cell? ⟨w7.heap.size, 2, none⟩ = some (.slice ax1_2 m1.fDeps.length cx1_2) := hbxx1.2 2 _ rfl
          replace hlbx1 : w7.heap.size < w18.heap.size := hbxx1.1
          replace xbg0_0 : w18.cell? ⟨w8.heap.size, 0, none⟩ = some (.slice ag0_0 R0.fItems.length cg0_0) := hbxg0.2 0 _ rfl
          replace hlbg0 : w8.heap.size < w18.heap.size := hbxg0.1
          have hB18 : Below w.heap.size w w18 := bthen hB17 hG18
          clear hx18
          have p0 : ∀ W, Below w18.heap.size w18 W → W.cell? ⟨w.heap.size, 0, none⟩ = some (.slice a0_0 m0.fItems.length c0_0) := fun W hb => (hbxA0.under hb).2 0 _ rfl
          have r0 : ∀ W, Below w18.heap.size w18 W → W.cell? ⟨w.heap.size + 1, 0, none⟩ = some (.int .i64 m1.fD.fR) := fun W hb => (hbxA1.under hb).2 0 _ rfl
          have r1 : ∀ W, Below w18.heap.size w18 W → W.cell? ⟨w.heap.size + 1, 1, none⟩ = some (.int .i64 m1.fD.fN) := fun W hb => (hbxA1.under hb).2 1 _ rfl
          have r2 : ∀ W, Below w18.heap.size w18 W → W.cell? ⟨w.heap.size + 1, 2, none⟩ = some (.slice a1_2 m1.fDeps.length c1_2) := fun W hb => (hbxA1.under hb).2 2 _ rfl
          go_wp2_with fail
          obtain ⟨QQ, hQQ⟩ : ∃ q : Exit → Act → World → Prop, q = fun e a' w' => e = .normal ∧ ∃ (z0 z1 z5 z17 z18 z19 z20 z21 z22 z23 z24 z25 z26 z27 z28 z29 z30 z31 z32 z33 z34 z35 z36 z37 z38 z39 z40 z41 z42 z43 z44 z45 z46 z47 z48 z49 z50 z51 z52 z53 z54 z55 z56 z57 z58 z59 z60 z61 z62 z63 z64 z65 z66 z67 z68 z69 z70 z71 z72 z73 z74 z75 z76 z77 z78 z79 z80 z81 z82 z83 z84 z85 z86 z87 z88 z89 z90 z91 z92 z93 z94 z95 z96 z97 z98 z99 z100 z101 : Value) (g21 : Nat) (ak0_0 : Option Addr) (ck0_0 : Nat) (Fk0 : List Nat), a' = { tmps := #[z0, z1, .pointer (some ⟨w.heap.size, 0, none⟩), .pointer (some ⟨w.heap.size + 1, 0, none⟩), .bool false, z5, .pointer (some ⟨g5, 0, none⟩), .bool R1, .pointer (some ⟨w6.heap.size, 0, none⟩), .pointer (some ⟨w7.heap.size, 0, none⟩), .pointer (some ⟨w8.heap.size, 0, none⟩), .bool R1, .int .i64 qx1, .int .i64 qg0, .int .i64 qg0, .pointer (some ⟨g21, 0, none⟩), .bool R1, z17, z18, z19, z20, z21, z22, z23, z24, z25, z26, z27, z28, z29, z30, z31, z32, z33, z34, z35, z36, z37, z38, z39, z40, z41, z42, z43, z44, z45, z46, z47, z48, z49, z50, z51, z52, z53, z54, z55, z56, z57, z58, z59, z60, z61, z62, z63, z64, z65, z66, z67, z68, z69, z70, z71, z72, z73, z74, z75, z76, z77, z78, z79, z80, z81, z82, z83, z84, z85, z86, z87, z88, z89, z90, z91, z92, z93, z94, z95, z96, z97, z98, z99, z100, z101, undef, undef, undef, undef, undef, undef, undef, undef, undef, undef, undef, undef, undef, undef, undef, undef, undef], defers := [] } ∧ Bx w' g21 [.slice ak0_0 R0.fItems.length ck0_0] ∧ oGraph w' [.slice ak0_0 R0.fItems.length ck0_0] R0 Fk0 ∧ Fk0.Nodup ∧ (∀ b, b ∈ Fk0 → w18.heap.size ≤ b) ∧ Below w18.heap.size w18 w' := ⟨_, rfl⟩
          have HQ := Hid.mk hQQ
          have hPan : ∀ c a w, QQ (.panic c) a w → False := by rw [hQQ]; intro c a w h; cases h.1
          clear hQQ
          refine Code.wp_mono (Q := QQ) ?mono2 ?reg2
          case reg2 =>
            refine wp_region_held_drew (S := fun W => Below w18.heap.size w18 W) (by kernel_rfl) (Below.drew (Below.refl _ _)) (fun hHeld => ?_)
            obtain ⟨wS, hwS⟩ : ∃ wS, wS = w18.drew := ⟨_, rfl⟩
            have hbS : Below w18.heap.size w18 wS := by rw [hwS]; exact Below.drew (Below.refl _ _)
            rw [← hwS] at hHeld ⊢
            clear hwS
            refine tk 0 q434_6_31_0 (some 95) (v := ?v25) rfl rfl (by kernel_rfl) hHeld (by rfl) (fun _ _ _ h => by cases hPan _ _ _ h) (fun w h => ?y25) ?_; (case y25 => (try dsimp only at h); go_simp; try (with_reducible rfl)); try simp only [Act.put, sa, s0, s1]
            refine tk 2 q434_6_31_2 (some 97) (v := ?v26) rfl rfl (by kernel_rfl) hHeld (by rfl) (fun _ _ _ h => by cases hPan _ _ _ h) (fun w h => ?y26) ?_; (case y26 => (try dsimp only at h); go_simp; try (with_reducible rfl)); try simp only [Act.put, sa, s0, s1]
            refine wpAnyH_ready (rs := [1, 8]) (by kernel_rfl) (by simp) ?_
            refine (AllReadyH.cons (o := q434_6_31_1) rfl (fun K hK => ?_) (AllReadyH.cons (o := q434_6_31_8) rfl (fun K hK => ?_) AllReadyH.nil))
            · go_simp
              have hf1 := bthen hB18 (bthen hbS (show Below wS.heap.size wS wS from Below.refl _ _))
              refine Calls.mono (toGraph_any _ m0 wS (rGraph_good.mono (rGraph_good.below hr0 hf1) hf1.size) hwn0) ?_
              rintro e wE1 ⟨vp0, Fvp0, rfl, hod, _, _, hx1e⟩
              have hop1 : Below wS.heap.size wS wE1 := hx1e
              obtain ⟨ad0, cad0, rfl, _⟩ := id (oGraph_good.read hod)
              go_wp2_with fail
              refine hK.out _ _ (bthen hHeld hop1) (fun hHeld => ?_)
              clear hK K
              try simp only [Act.put, sa, s0, s1]
              refine wpAnyH_ready (rs := [3, 8]) (by kernel_rfl) (by simp) ?_
              refine (AllReadyH.cons (o := q434_6_31_3) rfl (fun K hK => ?_) (AllReadyH.cons (o := q434_6_31_8) rfl (fun K hK => ?_) AllReadyH.nil))
              · go_simp
                have hf3 := bthen hB18 (bthen hbS (show Below wS.heap.size wS wE1 from bthen (Below.refl _ _) hop1))
                refine Calls.mono (toItem_any _ m1 wE1 (rItem_good.mono (rItem_good.below hr1 hf3) hf3.size) hwn1) ?_
                rintro e wE3 ⟨vp1, Fvp1, rfl, hom, _, _, hx3e⟩
                have hop3 : Below wE1.heap.size wE1 wE3 := hx3e
                obtain ⟨am2, cam2, rfl, _⟩ := id (oItem_good.read hom)
                go_wp2_with fail
                refine hK.out _ _ (bthen hHeld hop3) (fun hHeld => ?_)
                clear hK K
                try simp only [Act.put, sa, s0, s1]
                refine wpAnyH_ready (rs := [4, 8]) (by kernel_rfl) (by simp) ?_
                refine (AllReadyH.cons (o := q434_6_31_4) rfl (fun K hK => ?_) (AllReadyH.cons (o := q434_6_31_8) rfl (fun K hK => ?_) AllReadyH.nil))
                · go_simp
                  have hg1 := (show Below wE1.heap.size wE1 wE3 from bthen (Below.refl _ _) hop3)
                  have hg3 := (show Below wE3.heap.size wE3 wE3 from Below.refl _ _)
                  have hf4 := bthen hbS (show Below wS.heap.size wS wE3 from bthen (bthen (Below.refl _ _) hop1) hop3)
                  have hf4s := hf4.size
                  refine Calls.mono (implGraphPut_c _ m0 _ m1 wE3 (rGraph_good.mono (rGraph_good.below (oGraph_good.read hod) hg1) hg1.size) (rItem_good.mono (rItem_good.below (oItem_good.read hom) hg3) hg3.size) hwn0 hwn1) ?_
                  rintro e wE4 ⟨cs5, F5, he, ho5, hN5, hge5, hx5⟩
                  rw [← HR0.out] at ho5
                  rw [← HR1.out] at he
                  subst he
                  have hop4 : Below wE3.heap.size wE3 wE4 := hx5
                  obtain ⟨ak0_0, ck0_0, rfl, _⟩ := id (oGraph_good.read ho5)
                  go_wp2_with fail
                  refine hK.out _ _ (bthen hHeld hop4) (fun hHeld => ?_)
                  clear hK K
                  try simp only [Act.put, sa, s0, s1]
                  refine tk 5 q434_6_31_5 (some 94) (v := ?v27) rfl rfl (by kernel_rfl) hHeld (by rfl) (fun _ _ _ h => by cases hPan _ _ _ h) (fun w h => ?y27) ?_; (case y27 => (try dsimp only at h); go_simp; try (with_reducible rfl)); try simp only [Act.put, sa, s0, s1]
                  refine tk 6 q434_6_31_6 (some 100) (v := ?v28) rfl rfl (by kernel_rfl) hHeld (by rfl) (fun _ _ _ h => by cases hPan _ _ _ h) (fun w h => ?y28) ?_; (case y28 => (try dsimp only at h); go_simp; try (with_reducible rfl)); try simp only [Act.put, sa, s0, s1]
                  refine tk 7 q434_6_31_7 (some 101) (v := ?v29) rfl rfl (by kernel_rfl) hHeld (by rfl) (fun _ _ _ h => by cases hPan _ _ _ h) (fun w h => ?y29) ?_; (case y29 => (try dsimp only at h); go_simp; try (with_reducible rfl)); try simp only [Act.put, sa, s0, s1]
                  refine wpAnyH_ready (rs := [8]) (by kernel_rfl) (by simp) ?_
                  refine (AllReadyH.cons (o := q434_6_31_8) rfl (fun K hK => ?_) AllReadyH.nil)
                  · go_simp
                    obtain ⟨wE8, hq8⟩ : ∃ q, q = wE4.alloc (.cells #[.slice none 0 0] 37) := ⟨_, rfl⟩
                    have hop8 : Below wE4.heap.size wE4 wE8 := by rw [hq8]; exact (Below.refl _ _).alloc (Nat.le_refl _) _
                    obtain ⟨g8, HG8⟩ : ∃ z, Hid (z = wE4.heap.size) := ⟨_, Hid.mk rfl⟩
                    have HB8 : Hid (Bw wE8 g8 37 [.slice none 0 0]) := by unfold Hid; rw [HG8.out, hq8]; exact Bw.new _ _ _
                    have hgp2 : w18.heap.size ≤ g8 := by rw [HG8.out]; exact Nat.le_trans hbS.size (Below.size (show Below wS.heap.size wS wE4 from bthen (bthen (bthen (Below.refl _ _) hop1) hop3) hop4))
                    rw [← HG8.out]
                    rw [← hq8]
                    clear hq8
                    refine hK.out _ _ (bthen hHeld hop8) (fun hHeld => ?_)
                    clear hK K
                    try simp only [Act.put, sa, s0, s1]
                    refine wpAnyH_ready (rs := [9]) (by kernel_rfl) (by simp) ?_
                    refine (AllReadyH.cons (o := q434_6_31_9) rfl (fun K hK => ?_) AllReadyH.nil)
                    · skip
                      have hb8 := HB8.out.under (show Below wE8.heap.size wE8 wE8 from Below.refl _ _)
                      have s0 := hb8.cell 0 _ rfl
                      have sf0 := hb8.free 0
                      have hl8 := hb8.lt
                      go_simp
                      obtain ⟨wE9, hq9⟩ : ∃ q, q = (wE8.setCell ⟨g8, 0, none⟩ (.slice ak0_0 R0.fItems.length ck0_0)) := ⟨_, rfl⟩
                      have hT9 : Turn [g8] wE8 wE9 := by rw [hq9]; exact ((Turn.refl _ _).setCell (by simp) _)
                      have hbx : Bw wE9 g8 37 [.slice ak0_0 R0.fItems.length ck0_0] := by rw [hq9]; exact (hb8.put 0 _)
                      have hpS := (show Below wE4.heap.size wE4 wE8 from bthen (Below.refl _ _) hop8)
                      have hgo := (show Below wE8.heap.size wE8 wE8 from Below.refl _ _)
                      rw [← hq9]
                      clear hq9 hb8 s0 sf0
                      refine hK.out _ _ (hHeld.trans (hT9.below (fun k hk => by simp at hk; omega) hHeld.size)) (fun hHeld => ?_)
                      clear hK K
                      try simp only [Act.put, sa, s0, s1]
                      refine tk 10 q434_6_31_10 (some 16) (v := ?v30) rfl rfl (by kernel_rfl) hHeld (by rfl) (fun _ _ _ h => by cases hPan _ _ _ h) (fun w h => ?y30) ?_; (case y30 => (try dsimp only at h); go_simp; try (with_reducible rfl)); try simp only [Act.put, sa, s0, s1]
                      refine wpAnyH_done (by kernel_rfl) ?_ _
                      have hgne : ∀ b, b ∈ F5 → b ≠ g8 := fun b hb h => by have h1 := hge5 b hb; have h2 := oGraph_good.lt ho5 b hb; have h3 := HB8.out.lt; have h4 := HG8.out; have h5 := hop1.size; have h6 := hop3.size; have h7 := hop8.size; have h8 := hop4.size; omega
                      have ho59 : oGraph wE9 [.slice ak0_0 R0.fItems.length ck0_0] R0 F5 := oGraph_good.frame (oGraph_good.frame ho5 (fun b hb => hpS.block b (oGraph_good.lt ho5 b hb))) (fun b hb => hT9.block b (by have := oGraph_good.lt ho5 b hb; have := hpS.size; omega) (by intro h; simp at h; exact hgne b hb h))
                      rw [HQ.out]
                      exact ⟨rfl, _, _, _, _, _, _, _, _, _, _, _, _, _, _, _, _, _, _, _, _, _, _, _, _, _, _, _, _, _, _, _, _, _, _, _, _, _, _, _, _, _, _, _, _, _, _, _, _, _, _, _, _, _, _, _, _, _, _, _, _, _, _, _, _, _, _, _, _, _, _, _, _, _, _, _, _, _, _, _, _, _, _, _, _, _, _, _, _, g8, _, _, F5, rfl, ⟨hbx.lt, fun i v hv => hbx.cell i v hv⟩, ho59, hN5, (fun b hb => by have h1 := hge5 b hb; omega), hHeld⟩
                · go_simp
                  obtain ⟨wE8, hq8⟩ : ∃ q, q = wE3.alloc (.cells #[.slice none 0 0] 37) := ⟨_, rfl⟩
                  have hop8 : Below wE3.heap.size wE3 wE8 := by rw [hq8]; exact (Below.refl _ _).alloc (Nat.le_refl _) _
                  obtain ⟨g8, HG8⟩ : ∃ z, Hid (z = wE3.heap.size) := ⟨_, Hid.mk rfl⟩
                  have HB8 : Hid (Bw wE8 g8 37 [.slice none 0 0]) := by unfold Hid; rw [HG8.out, hq8]; exact Bw.new _ _ _
                  have hgp2 : w18.heap.size ≤ g8 := by rw [HG8.out]; exact Nat.le_trans hbS.size (Below.size (show Below wS.heap.size wS wE3 from bthen (bthen (Below.refl _ _) hop1) hop3))
                  rw [← HG8.out]
                  rw [← hq8]
                  clear hq8
                  refine hK.out _ _ (bthen hHeld hop8) (fun hHeld => ?_)
                  clear hK K
                  try simp only [Act.put, sa, s0, s1]
                  refine wpAnyH_ready (rs := [4]) (by kernel_rfl) (by simp) ?_
                  refine (AllReadyH.cons (o := q434_6_31_4) rfl (fun K hK => ?_) AllReadyH.nil)
                  · go_simp
                    have hg1 := (show Below wE1.heap.size wE1 wE8 from bthen (bthen (Below.refl _ _) hop3) hop8)
                    have hg3 := (show Below wE3.heap.size wE3 wE8 from bthen (Below.refl _ _) hop8)
                    have hf4 := bthen hbS (show Below wS.heap.size wS wE8 from bthen (bthen (bthen (Below.refl _ _) hop1) hop3) hop8)
                    have hf4s := hf4.size
                    refine Calls.mono (implGraphPut_c _ m0 _ m1 wE8 (rGraph_good.mono (rGraph_good.below (oGraph_good.read hod) hg1) hg1.size) (rItem_good.mono (rItem_good.below (oItem_good.read hom) hg3) hg3.size) hwn0 hwn1) ?_
                    rintro e wE4 ⟨cs5, F5, he, ho5, hN5, hge5, hx5⟩
                    rw [← HR0.out] at ho5
                    rw [← HR1.out] at he
                    subst he
                    have hop4 : Below wE8.heap.size wE8 wE4 := hx5
                    obtain ⟨ak0_0, ck0_0, rfl, _⟩ := id (oGraph_good.read ho5)
                    go_wp2_with fail
                    refine hK.out _ _ (bthen hHeld hop4) (fun hHeld => ?_)
                    clear hK K
                    try simp only [Act.put, sa, s0, s1]
                    refine tk 5 q434_6_31_5 (some 94) (v := ?v31) rfl rfl (by kernel_rfl) hHeld (by rfl) (fun _ _ _ h => by cases hPan _ _ _ h) (fun w h => ?y31) ?_; (case y31 => (try dsimp only at h); go_simp; try (with_reducible rfl)); try simp only [Act.put, sa, s0, s1]
                    refine tk 6 q434_6_31_6 (some 100) (v := ?v32) rfl rfl (by kernel_rfl) hHeld (by rfl) (fun _ _ _ h => by cases hPan _ _ _ h) (fun w h => ?y32) ?_; (case y32 => (try dsimp only at h); go_simp; try (with_reducible rfl)); try simp only [Act.put, sa, s0, s1]
                    refine tk 7 q434_6_31_7 (some 101) (v := ?v33) rfl rfl (by kernel_rfl) hHeld (by rfl) (fun _ _ _ h => by cases hPan _ _ _ h) (fun w h => ?y33) ?_; (case y33 => (try dsimp only at h); go_simp; try (with_reducible rfl)); try simp only [Act.put, sa, s0, s1]
                    refine wpAnyH_ready (rs := [9]) (by kernel_rfl) (by simp) ?_
                    refine (AllReadyH.cons (o := q434_6_31_9) rfl (fun K hK => ?_) AllReadyH.nil)
                    · skip
                      have hb8 := HB8.out.under (show Below wE8.heap.size wE8 wE4 from bthen (Below.refl _ _) hop4)
                      have s0 := hb8.cell 0 _ rfl
                      have sf0 := hb8.free 0
                      have hl8 := hb8.lt
                      go_simp
                      obtain ⟨wE9, hq9⟩ : ∃ q, q = (wE4.setCell ⟨g8, 0, none⟩ (.slice ak0_0 R0.fItems.length ck0_0)) := ⟨_, rfl⟩
                      have hT9 : Turn [g8] wE4 wE9 := by rw [hq9]; exact ((Turn.refl _ _).setCell (by simp) _)
                      have hbx : Bw wE9 g8 37 [.slice ak0_0 R0.fItems.length ck0_0] := by rw [hq9]; exact (hb8.put 0 _)
                      have hpS := (show Below wE4.heap.size wE4 wE4 from Below.refl _ _)
                      have hgo := (show Below wE8.heap.size wE8 wE4 from bthen (Below.refl _ _) hop4)
                      rw [← hq9]
                      clear hq9 hb8 s0 sf0
                      refine hK.out _ _ (hHeld.trans (hT9.below (fun k hk => by simp at hk; omega) hHeld.size)) (fun hHeld => ?_)
                      clear hK K
                      try simp only [Act.put, sa, s0, s1]
                      refine tk 10 q434_6_31_10 (some 16) (v := ?v34) rfl rfl (by kernel_rfl) hHeld (by rfl) (fun _ _ _ h => by cases hPan _ _ _ h) (fun w h => ?y34) ?_; (case y34 => (try dsimp only at h); go_simp; try (with_reducible rfl)); try simp only [Act.put, sa, s0, s1]
                      refine wpAnyH_done (by kernel_rfl) ?_ _
                      have hgne : ∀ b, b ∈ F5 → b ≠ g8 := fun b hb h => by have h1 := hge5 b hb; have h2 := oGraph_good.lt ho5 b hb; have h3 := HB8.out.lt; have h4 := HG8.out; have h5 := hop1.size; have h6 := hop3.size; have h7 := hop8.size; have h8 := hop4.size; omega
                      have ho59 : oGraph wE9 [.slice ak0_0 R0.fItems.length ck0_0] R0 F5 := oGraph_good.frame (oGraph_good.frame ho5 (fun b hb => hpS.block b (oGraph_good.lt ho5 b hb))) (fun b hb => hT9.block b (by have := oGraph_good.lt ho5 b hb; have := hpS.size; omega) (by intro h; simp at h; exact hgne b hb h))
                      rw [HQ.out]
                      exact ⟨rfl, _, _, _, _, _, _, _, _, _, _, _, _, _, _, _, _, _, _, _, _, _, _, _, _, _, _, _, _, _, _, _, _, _, _, _, _, _, _, _, _, _, _, _, _, _, _, _, _, _, _, _, _, _, _, _, _, _, _, _, _, _, _, _, _, _, _, _, _, _, _, _, _, _, _, _, _, _, _, _, _, _, _, _, _, _, _, _, _, g8, _, _, F5, rfl, ⟨hbx.lt, fun i v hv => hbx.cell i v hv⟩, ho59, hN5, (fun b hb => by have h1 := hge5 b hb; omega), hHeld⟩
              · go_simp
                obtain ⟨wE8, hq8⟩ : ∃ q, q = wE1.alloc (.cells #[.slice none 0 0] 37) := ⟨_, rfl⟩
                have hop8 : Below wE1.heap.size wE1 wE8 := by rw [hq8]; exact (Below.refl _ _).alloc (Nat.le_refl _) _
                obtain ⟨g8, HG8⟩ : ∃ z, Hid (z = wE1.heap.size) := ⟨_, Hid.mk rfl⟩
                have HB8 : Hid (Bw wE8 g8 37 [.slice none 0 0]) := by unfold Hid; rw [HG8.out, hq8]; exact Bw.new _ _ _
                have hgp2 : w18.heap.size ≤ g8 := by rw [HG8.out]; exact Nat.le_trans hbS.size (Below.size (show Below wS.heap.size wS wE1 from bthen (Below.refl _ _) hop1))
                rw [← HG8.out]
                rw [← hq8]
                clear hq8
                refine hK.out _ _ (bthen hHeld hop8) (fun hHeld => ?_)
                clear hK K
                try simp only [Act.put, sa, s0, s1]
                refine wpAnyH_ready (rs := [3]) (by kernel_rfl) (by simp) ?_
                refine (AllReadyH.cons (o := q434_6_31_3) rfl (fun K hK => ?_) AllReadyH.nil)
                · go_simp
                  have hf3 := bthen hB18 (bthen hbS (show Below wS.heap.size wS wE8 from bthen (bthen (Below.refl _ _) hop1) hop8))
                  refine Calls.mono (toItem_any _ m1 wE8 (rItem_good.mono (rItem_good.below hr1 hf3) hf3.size) hwn1) ?_
                  rintro e wE3 ⟨vp1, Fvp1, rfl, hom, _, _, hx3e⟩
                  have hop3 : Below wE8.heap.size wE8 wE3 := hx3e
                  obtain ⟨am2, cam2, rfl, _⟩ := id (oItem_good.read hom)
                  go_wp2_with fail
                  refine hK.out _ _ (bthen hHeld hop3) (fun hHeld => ?_)
                  clear hK K
                  try simp only [Act.put, sa, s0, s1]
                  refine wpAnyH_ready (rs := [4]) (by kernel_rfl) (by simp) ?_
                  refine (AllReadyH.cons (o := q434_6_31_4) rfl (fun K hK => ?_) AllReadyH.nil)
                  · go_simp
                    have hg1 := (show Below wE1.heap.size wE1 wE3 from bthen (bthen (Below.refl _ _) hop8) hop3)
                    have hg3 := (show Below wE3.heap.size wE3 wE3 from Below.refl _ _)
                    have hf4 := bthen hbS (show Below wS.heap.size wS wE3 from bthen (bthen (bthen (Below.refl _ _) hop1) hop8) hop3)
                    have hf4s := hf4.size
                    refine Calls.mono (implGraphPut_c _ m0 _ m1 wE3 (rGraph_good.mono (rGraph_good.below (oGraph_good.read hod) hg1) hg1.size) (rItem_good.mono (rItem_good.below (oItem_good.read hom) hg3) hg3.size) hwn0 hwn1) ?_
                    rintro e wE4 ⟨cs5, F5, he, ho5, hN5, hge5, hx5⟩
                    rw [← HR0.out] at ho5
                    rw [← HR1.out] at he
                    subst he
                    have hop4 : Below wE3.heap.size wE3 wE4 := hx5
                    obtain ⟨ak0_0, ck0_0, rfl, _⟩ := id (oGraph_good.read ho5)
                    go_wp2_with fail
                    refine hK.out _ _ (bthen hHeld hop4) (fun hHeld => ?_)
                    clear hK K
                    try simp only [Act.put, sa, s0, s1]
                    refine tk 5 q434_6_31_5 (some 94) (v := ?v35) rfl rfl (by kernel_rfl) hHeld (by rfl) (fun _ _ _ h => by cases hPan _ _ _ h) (fun w h => ?y35) ?_; (case y35 => (try dsimp only at h); go_simp; try (with_reducible rfl)); try simp only [Act.put, sa, s0, s1]
                    refine tk 6 q434_6_31_6 (some 100) (v := ?v36) rfl rfl (by kernel_rfl) hHeld (by rfl) (fun _ _ _ h => by cases hPan _ _ _ h) (fun w h => ?y36) ?_; (case y36 => (try dsimp only at h); go_simp; try (with_reducible rfl)); try simp only [Act.put, sa, s0, s1]
                    refine tk 7 q434_6_31_7 (some 101) (v := ?v37) rfl rfl (by kernel_rfl) hHeld (by rfl) (fun _ _ _ h => by cases hPan _ _ _ h) (fun w h => ?y37) ?_; (case y37 => (try dsimp only at h); go_simp; try (with_reducible rfl)); try simp only [Act.put, sa, s0, s1]
                    refine wpAnyH_ready (rs := [9]) (by kernel_rfl) (by simp) ?_
                    refine (AllReadyH.cons (o := q434_6_31_9) rfl (fun K hK => ?_) AllReadyH.nil)
                    · skip
                      have hb8 := HB8.out.under (show Below wE8.heap.size wE8 wE4 from bthen (bthen (Below.refl _ _) hop3) hop4)
                      have s0 := hb8.cell 0 _ rfl
                      have sf0 := hb8.free 0
                      have hl8 := hb8.lt
                      go_simp
                      obtain ⟨wE9, hq9⟩ : ∃ q, q = (wE4.setCell ⟨g8, 0, none⟩ (.slice ak0_0 R0.fItems.length ck0_0)) := ⟨_, rfl⟩
                      have hT9 : Turn [g8] wE4 wE9 := by rw [hq9]; exact ((Turn.refl _ _).setCell (by simp) _)
                      have hbx : Bw wE9 g8 37 [.slice ak0_0 R0.fItems.length ck0_0] := by rw [hq9]; exact (hb8.put 0 _)
                      have hpS := (show Below wE4.heap.size wE4 wE4 from Below.refl _ _)
                      have hgo := (show Below wE8.heap.size wE8 wE4 from bthen (bthen (Below.refl _ _) hop3) hop4)
                      rw [← hq9]
                      clear hq9 hb8 s0 sf0
                      refine hK.out _ _ (hHeld.trans (hT9.below (fun k hk => by simp at hk; omega) hHeld.size)) (fun hHeld => ?_)
                      clear hK K
                      try simp only [Act.put, sa, s0, s1]
                      refine tk 10 q434_6_31_10 (some 16) (v := ?v38) rfl rfl (by kernel_rfl) hHeld (by rfl) (fun _ _ _ h => by cases hPan _ _ _ h) (fun w h => ?y38) ?_; (case y38 => (try dsimp only at h); go_simp; try (with_reducible rfl)); try simp only [Act.put, sa, s0, s1]
                      refine wpAnyH_done (by kernel_rfl) ?_ _
                      have hgne : ∀ b, b ∈ F5 → b ≠ g8 := fun b hb h => by have h1 := hge5 b hb; have h2 := oGraph_good.lt ho5 b hb; have h3 := HB8.out.lt; have h4 := HG8.out; have h5 := hop1.size; have h6 := hop3.size; have h7 := hop8.size; have h8 := hop4.size; omega
                      have ho59 : oGraph wE9 [.slice ak0_0 R0.fItems.length ck0_0] R0 F5 := oGraph_good.frame (oGraph_good.frame ho5 (fun b hb => hpS.block b (oGraph_good.lt ho5 b hb))) (fun b hb => hT9.block b (by have := oGraph_good.lt ho5 b hb; have := hpS.size; omega) (by intro h; simp at h; exact hgne b hb h))
                      rw [HQ.out]
                      exact ⟨rfl, _, _, _, _, _, _, _, _, _, _, _, _, _, _, _, _, _, _, _, _, _, _, _, _, _, _, _, _, _, _, _, _, _, _, _, _, _, _, _, _, _, _, _, _, _, _, _, _, _, _, _, _, _, _, _, _, _, _, _, _, _, _, _, _, _, _, _, _, _, _, _, _, _, _, _, _, _, _, _, _, _, _, _, _, _, _, _, _, g8, _, _, F5, rfl, ⟨hbx.lt, fun i v hv => hbx.cell i v hv⟩, ho59, hN5, (fun b hb => by have h1 := hge5 b hb; omega), hHeld⟩
            · go_simp
              obtain ⟨wE8, hq8⟩ : ∃ q, q = wS.alloc (.cells #[.slice none 0 0] 37) := ⟨_, rfl⟩
              have hop8 : Below wS.heap.size wS wE8 := by rw [hq8]; exact (Below.refl _ _).alloc (Nat.le_refl _) _
              obtain ⟨g8, HG8⟩ : ∃ z, Hid (z = wS.heap.size) := ⟨_, Hid.mk rfl⟩
              have HB8 : Hid (Bw wE8 g8 37 [.slice none 0 0]) := by unfold Hid; rw [HG8.out, hq8]; exact Bw.new _ _ _
              have hgp2 : w18.heap.size ≤ g8 := by rw [HG8.out]; exact Nat.le_trans hbS.size (Below.size (show Below wS.heap.size wS wS from Below.refl _ _))
              rw [← HG8.out]
              rw [← hq8]
              clear hq8
              refine hK.out _ _ (bthen hHeld hop8) (fun hHeld => ?_)
              clear hK K
              try simp only [Act.put, sa, s0, s1]
              refine wpAnyH_ready (rs := [1]) (by kernel_rfl) (by simp) ?_
              refine (AllReadyH.cons (o := q434_6_31_1) rfl (fun K hK => ?_) AllReadyH.nil)
              · go_simp
                have hf1 := bthen hB18 (bthen hbS (show Below wS.heap.size wS wE8 from bthen (Below.refl _ _) hop8))
                refine Calls.mono (toGraph_any _ m0 wE8 (rGraph_good.mono (rGraph_good.below hr0 hf1) hf1.size) hwn0) ?_
                rintro e wE1 ⟨vp0, Fvp0, rfl, hod, _, _, hx1e⟩
                have hop1 : Below wE8.heap.size wE8 wE1 := hx1e
                obtain ⟨ad0, cad0, rfl, _⟩ := id (oGraph_good.read hod)
                go_wp2_with fail
                refine hK.out _ _ (bthen hHeld hop1) (fun hHeld => ?_)
                clear hK K
                try simp only [Act.put, sa, s0, s1]
                refine wpAnyH_ready (rs := [3]) (by kernel_rfl) (by simp) ?_
                refine (AllReadyH.cons (o := q434_6_31_3) rfl (fun K hK => ?_) AllReadyH.nil)
                · go_simp
                  have hf3 := bthen hB18 (bthen hbS (show Below wS.heap.size wS wE1 from bthen (bthen (Below.refl _ _) hop8) hop1))
                  refine Calls.mono (toItem_any _ m1 wE1 (rItem_good.mono (rItem_good.below hr1 hf3) hf3.size) hwn1) ?_
                  rintro e wE3 ⟨vp1, Fvp1, rfl, hom, _, _, hx3e⟩
                  have hop3 : Below wE1.heap.size wE1 wE3 := hx3e
                  obtain ⟨am2, cam2, rfl, _⟩ := id (oItem_good.read hom)
                  go_wp2_with fail
                  refine hK.out _ _ (bthen hHeld hop3) (fun hHeld => ?_)
                  clear hK K
                  try simp only [Act.put, sa, s0, s1]
                  refine wpAnyH_ready (rs := [4]) (by kernel_rfl) (by simp) ?_
                  refine (AllReadyH.cons (o := q434_6_31_4) rfl (fun K hK => ?_) AllReadyH.nil)
                  · go_simp
                    have hg1 := (show Below wE1.heap.size wE1 wE3 from bthen (Below.refl _ _) hop3)
                    have hg3 := (show Below wE3.heap.size wE3 wE3 from Below.refl _ _)
                    have hf4 := bthen hbS (show Below wS.heap.size wS wE3 from bthen (bthen (bthen (Below.refl _ _) hop8) hop1) hop3)
                    have hf4s := hf4.size
                    refine Calls.mono (implGraphPut_c _ m0 _ m1 wE3 (rGraph_good.mono (rGraph_good.below (oGraph_good.read hod) hg1) hg1.size) (rItem_good.mono (rItem_good.below (oItem_good.read hom) hg3) hg3.size) hwn0 hwn1) ?_
                    rintro e wE4 ⟨cs5, F5, he, ho5, hN5, hge5, hx5⟩
                    rw [← HR0.out] at ho5
                    rw [← HR1.out] at he
                    subst he
                    have hop4 : Below wE3.heap.size wE3 wE4 := hx5
                    obtain ⟨ak0_0, ck0_0, rfl, _⟩ := id (oGraph_good.read ho5)
                    go_wp2_with fail
                    refine hK.out _ _ (bthen hHeld hop4) (fun hHeld => ?_)
                    clear hK K
                    try simp only [Act.put, sa, s0, s1]
                    refine tk 5 q434_6_31_5 (some 94) (v := ?v39) rfl rfl (by kernel_rfl) hHeld (by rfl) (fun _ _ _ h => by cases hPan _ _ _ h) (fun w h => ?y39) ?_; (case y39 => (try dsimp only at h); go_simp; try (with_reducible rfl)); try simp only [Act.put, sa, s0, s1]
                    refine tk 6 q434_6_31_6 (some 100) (v := ?v40) rfl rfl (by kernel_rfl) hHeld (by rfl) (fun _ _ _ h => by cases hPan _ _ _ h) (fun w h => ?y40) ?_; (case y40 => (try dsimp only at h); go_simp; try (with_reducible rfl)); try simp only [Act.put, sa, s0, s1]
                    refine tk 7 q434_6_31_7 (some 101) (v := ?v41) rfl rfl (by kernel_rfl) hHeld (by rfl) (fun _ _ _ h => by cases hPan _ _ _ h) (fun w h => ?y41) ?_; (case y41 => (try dsimp only at h); go_simp; try (with_reducible rfl)); try simp only [Act.put, sa, s0, s1]
                    refine wpAnyH_ready (rs := [9]) (by kernel_rfl) (by simp) ?_
                    refine (AllReadyH.cons (o := q434_6_31_9) rfl (fun K hK => ?_) AllReadyH.nil)
                    · skip
                      have hb8 := HB8.out.under (show Below wE8.heap.size wE8 wE4 from bthen (bthen (bthen (Below.refl _ _) hop1) hop3) hop4)
                      have s0 := hb8.cell 0 _ rfl
                      have sf0 := hb8.free 0
                      have hl8 := hb8.lt
                      go_simp
                      obtain ⟨wE9, hq9⟩ : ∃ q, q = (wE4.setCell ⟨g8, 0, none⟩ (.slice ak0_0 R0.fItems.length ck0_0)) := ⟨_, rfl⟩
                      have hT9 : Turn [g8] wE4 wE9 := by rw [hq9]; exact ((Turn.refl _ _).setCell (by simp) _)
                      have hbx : Bw wE9 g8 37 [.slice ak0_0 R0.fItems.length ck0_0] := by rw [hq9]; exact (hb8.put 0 _)
                      have hpS := (show Below wE4.heap.size wE4 wE4 from Below.refl _ _)
                      have hgo := (show Below wE8.heap.size wE8 wE4 from bthen (bthen (bthen (Below.refl _ _) hop1) hop3) hop4)
                      rw [← hq9]
                      clear hq9 hb8 s0 sf0
                      refine hK.out _ _ (hHeld.trans (hT9.below (fun k hk => by simp at hk; omega) hHeld.size)) (fun hHeld => ?_)
                      clear hK K
                      try simp only [Act.put, sa, s0, s1]
                      refine tk 10 q434_6_31_10 (some 16) (v := ?v42) rfl rfl (by kernel_rfl) hHeld (by rfl) (fun _ _ _ h => by cases hPan _ _ _ h) (fun w h => ?y42) ?_; (case y42 => (try dsimp only at h); go_simp; try (with_reducible rfl)); try simp only [Act.put, sa, s0, s1]
                      refine wpAnyH_done (by kernel_rfl) ?_ _
                      have hgne : ∀ b, b ∈ F5 → b ≠ g8 := fun b hb h => by have h1 := hge5 b hb; have h2 := oGraph_good.lt ho5 b hb; have h3 := HB8.out.lt; have h4 := HG8.out; have h5 := hop1.size; have h6 := hop3.size; have h7 := hop8.size; have h8 := hop4.size; omega
                      have ho59 : oGraph wE9 [.slice ak0_0 R0.fItems.length ck0_0] R0 F5 := oGraph_good.frame (oGraph_good.frame ho5 (fun b hb => hpS.block b (oGraph_good.lt ho5 b hb))) (fun b hb => hT9.block b (by have := oGraph_good.lt ho5 b hb; have := hpS.size; omega) (by intro h; simp at h; exact hgne b hb h))
                      rw [HQ.out]
                      exact ⟨rfl, _, _, _, _, _, _, _, _, _, _, _, _, _, _, _, _, _, _, _, _, _, _, _, _, _, _, _, _, _, _, _, _, _, _, _, _, _, _, _, _, _, _, _, _, _, _, _, _, _, _, _, _, _, _, _, _, _, _, _, _, _, _, _, _, _, _, _, _, _, _, _, _, _, _, _, _, _, _, _, _, _, _, _, _, _, _, _, _, g8, _, _, F5, rfl, ⟨hbx.lt, fun i v hv => hbx.cell i v hv⟩, ho59, hN5, (fun b hb => by have h1 := hge5 b hb; omega), hHeld⟩
          rw [HQ.out]
          clear HQ hPan
          rintro e a' w21 ⟨rfl, z0, z1, z5, z17, z18, z19, z20, z21, z22, z23, z24, z25, z26, z27, z28, z29, z30, z31, z32, z33, z34, z35, z36, z37, z38, z39, z40, z41, z42, z43, z44, z45, z46, z47, z48, z49, z50, z51, z52, z53, z54, z55, z56, z57, z58, z59, z60, z61, z62, z63, z64, z65, z66, z67, z68, z69, z70, z71, z72, z73, z74, z75, z76, z77, z78, z79, z80, z81, z82, z83, z84, z85, z86, z87, z88, z89, z90, z91, z92, z93, z94, z95, z96, z97, z98, z99, z100, z101, g21, ak0_0, ck0_0, Fk0, rfl, hbK, hok0, hNk0, hgek0o, hG21⟩
          have hgl21 : g21 < w21.heap.size := hbK.1
          have hZ21 : w18.heap.size ≤ w21.heap.size := hG21.size
          clear p0 r0 r1 r2
          replace hbxA0 : Bx w21 (w.heap.size) [.slice a0_0 m0.fItems.length c0_0] := hbxA0.under hG21
          replace hbxA1 : Bx w21 (w.heap.size + 1) [.int .i64 m1.fD.fR, .int .i64 m1.fD.fN, .slice a1_2 m1.fDeps.length c1_2] := hbxA1.under hG21
          replace hbxs0 : Bx w21 (g5) [.slice as0_0 R0.fItems.length cs0_0] := hbxs0.under hG21
          replace hbxx0 : Bx w21 (w6.heap.size) [.slice ax0_0 m0.fItems.length cx0_0] := hbxx0.under hG21
          replace hbxx1 : Bx w21 (w7.heap.size) [.int .i64 m1.fD.fR, .int .i64 m1.fD.fN, .slice ax1_2 m1.fDeps.length cx1_2] := hbxx1.under hG21
          replace hbxg0 : Bx w21 (w8.heap.size) [.slice ag0_0 R0.fItems.length cg0_0] := hbxg0.under hG21
          have hoN := (oGraph_good.frame hog0 (fun b hb => hG21.block b (oGraph_good.lt hog0 b hb)))
          clear hog0
          have hog0 := hoN
          clear hoN
          replace hrs0 := (rGraph_good.below hrs0 (hG21.mono hbs0))
          replace hbs0 := Nat.le_trans hbs0 hG21.size
          replace xbA0_0 : w21.cell? ⟨w.heap.size, 0, none⟩ = some (.slice a0_0 m0.fItems.length c0_0) := hbxA0.2 0 _ rfl
          replace hlbA0 : w.heap.size < w21.heap.size := hbxA0.1
          replace xbA1_0 : w21.cell? ⟨w.heap.size + 1, 0, none⟩ = some (.int .i64 m1.fD.fR) := hbxA1.2 0 _ rfl
          replace xbA1_1 : w21.cell? ⟨w.heap.size + 1, 1, none⟩ = some (.int .i64 m1.fD.fN) := hbxA1.2 1 _ rfl
          replace xbA1_2 : w21.cell? ⟨w.heap.size + 1, 2, none⟩ = some (.slice a1_2 m1.fDeps.length c1_2) := hbxA1.2 2 _ rfl
          replace hlbA1 : w.heap.size + 1 < w21.heap.size := hbxA1.1
          replace xbs0_0 : w21.cell? ⟨g5, 0, none⟩ = some (.slice as0_0 R0.fItems.length cs0_0) := hbxs0.2 0 _ rfl
          replace hlbs0 : g5 < w21.heap.size := hbxs0.1
          replace xbx0_0 : w21.cell? ⟨w6.heap.size, 0, none⟩ = some (.slice ax0_0 m0.fItems.length cx0_0) := hbxx0.2 0 _ rfl
          replace hlbx0 : w6.heap.size < w21.heap.size := hbxx0.1
          replace xbx1_0 : w21.cell? ⟨w7.heap.size, 0, none⟩ = some (.int .i64 m1.fD.fR) := hbxx1.2 0 _ rfl
          replace xbx1_1 : w21.cell? ⟨w7.heap.size, 1, none⟩ = some (.int .i64 m1.fD.fN) := hbxx1.2 1 _ rfl
          replace xbx1_2 : w21.cell? ⟨w7.heap.size, 2, none⟩ = some (.slice ax1_2 m1.fDeps.length cx1_2) := hbxx1.2 2 _ rfl
          replace hlbx1 : w7.heap.size < w21.heap.size := hbxx1.1
          replace xbg0_0 : w21.cell? ⟨w8.heap.size, 0, none⟩ = some (.slice ag0_0 R0.fItems.length cg0_0) := hbxg0.2 0 _ rfl
          replace hlbg0 : w8.heap.size < w21.heap.size := hbxg0.1
          have hB21 : Below w.heap.size w w21 := bthen hB18 hG21
          have hltk0 : ∀ b, b ∈ Fk0 → b < w21.heap.size := fun b hb => oGraph_good.lt hok0 b hb
          have xbk0_0 := hbK.2 0 _ rfl
          have hC := fun (W : World) (hb : Below w21.heap.size w21 W) => eqGraph_yes _ _ R0 W (rGraph_good.mono (rGraph_good.below (oGraph_good.read hok0) hb) hb.size) (rGraph_good.mono (rGraph_good.below hrs0 (hb.mono hbs0)) (Nat.le_trans hbs0 hb.size)) (by omega)
          go_wp2_with fail
          refine Calls.mono (hC _ ?_) ?_
          · repeat (first | with_reducible exact Below.refl _ _ | with_reducible assumption | with_reducible refine Below.drew ?_ | with_reducible refine Below.alloc ?_ (by first | exact Nat.le_refl _ | (simp <;> omega)) _ | with_reducible refine Below.setCell ?_ (by simp) _)
          clear hC
          rintro e w22 ⟨rfl, hx22⟩
          have hZ22 : w21.heap.size ≤ w22.heap.size := by have h := hx22.size; first | exact h | (simp at h; omega)
          have hG22 : Below w21.heap.size w21 w22 := bthen (hx := hx22) (h := by repeat (first | with_reducible exact Below.refl _ _ | with_reducible assumption | with_reducible refine Below.drew ?_ | with_reducible refine Below.alloc ?_ (by first | exact Nat.le_refl _ | (simp <;> omega)) _ | with_reducible refine Below.setCell ?_ (by simp) _))
          replace hbxA0 : Bx w22 (w.heap.size) [.slice a0_0 m0.fItems.length c0_0] := hbxA0.under hG22
          replace hbxA1 : Bx w22 (w.heap.size + 1) [.int .i64 m1.fD.fR, .int .i64 m1.fD.fN, .slice a1_2 m1.fDeps.length c1_2] := hbxA1.under hG22
          replace hbxs0 : Bx w22 (g5) [.slice as0_0 R0.fItems.length cs0_0] := hbxs0.under hG22
          replace hbxx0 : Bx w22 (w6.heap.size) [.slice ax0_0 m0.fItems.length cx0_0] := hbxx0.under hG22
          replace hbxx1 : Bx w22 (w7.heap.size) [.int .i64 m1.fD.fR, .int .i64 m1.fD.fN, .slice ax1_2 m1.fDeps.length cx1_2] := hbxx1.under hG22
          replace hbxg0 : Bx w22 (w8.heap.size) [.slice ag0_0 R0.fItems.length cg0_0] := hbxg0.under hG22
          have hoN := (oGraph_good.frame hog0 (fun b hb => hG22.block b (oGraph_good.lt hog0 b hb)))
          clear hog0
          have hog0 := hoN
          clear hoN
          have hoN := (oGraph_good.frame hok0 (fun b hb => hG22.block b (oGraph_good.lt hok0 b hb)))
          clear hok0
          have hok0 := hoN
          clear hoN
          replace hrs0 := (rGraph_good.below hrs0 (hG22.mono hbs0))
          replace hbs0 := Nat.le_trans hbs0 hG22.size
          have hbxk0 : Bx w22 (g21) [.slice ak0_0 R0.fItems.length ck0_0] := hbK.under hG22
          replace xbA0_0 : w22.cell? ⟨w.heap.size, 0, none⟩ = some (.slice a0_0 m0.fItems.length c0_0) := hbxA0.2 0 _ rfl
          replace hlbA0 : w.heap.size < w22.heap.size := hbxA0.1
          replace xbA1_0 : w22.cell? ⟨w.heap.size + 1, 0, none⟩ = some (.int .i64 m1.fD.fR) := hbxA1.2 0 _ rfl
          replace xbA1_1 : w22.cell? ⟨w.heap.size + 1, 1, none⟩ = some (.int .i64 m1.fD.fN) := hbxA1.2 1 _ rfl
          replace xbA1_2 : w22.cell? ⟨w.heap.size + 1, 2, none⟩ = some (.slice a1_2 m1.fDeps.length c1_2) := hbxA1.2 2 _ rfl
          replace hlbA1 : w.heap.size + 1 < w22.heap.size := hbxA1.1
          replace xbs0_0 : w22.cell? ⟨g5, 0, none⟩ = some (.slice as0_0 R0.fItems.length cs0_0) := hbxs0.2 0 _ rfl
          replace hlbs0 : g5 < w22.heap.size := hbxs0.1
          replace xbx0_0 : w22.cell? ⟨w6.heap.size, 0, none⟩ = some (.slice ax0_0 m0.fItems.length cx0_0) := hbxx0.2 0 _ rfl
          replace hlbx0 : w6.heap.size < w22.heap.size := hbxx0.1
          replace xbx1_0 : w22.cell? ⟨w7.heap.size, 0, none⟩ = some (.int .i64 m1.fD.fR) := hbxx1.2 0 _ rfl
          replace xbx1_1 : w22.cell? ⟨w7.heap.size, 1, none⟩ = some (.int .i64 m1.fD.fN) := hbxx1.2 1 _ rfl
          replace xbx1_2 : w22.cell? ⟨w7.heap.size, 2, none⟩ = some (.slice ax1_2 m1.fDeps.length cx1_2) := hbxx1.2 2 _ rfl
          replace hlbx1 : w7.heap.size < w22.heap.size := hbxx1.1
          replace xbg0_0 : w22.cell? ⟨w8.heap.size, 0, none⟩ = some (.slice ag0_0 R0.fItems.length cg0_0) := hbxg0.2 0 _ rfl
          replace hlbg0 : w8.heap.size < w22.heap.size := hbxg0.1
          have xbk0_0 : w22.cell? ⟨g21, 0, none⟩ = some (.slice ak0_0 R0.fItems.length ck0_0) := hbxk0.2 0 _ rfl
          have hlbk0 : g21 < w22.heap.size := hbxk0.1
          have hB22 : Below w.heap.size w w22 := bthen hB21 hG22
          clear hx22
          have hC := fun (W : World) (hb : Below w22.heap.size w22 W) => heldGraph_any _ mmg0 1 qg0 W (rGraph_good.mono (rGraph_good.below (oGraph_good.read hog0) hb) hb.size) hhg0 (by omega) (by omega)
          go_wp2_with fail
          refine Calls.mono (hC _ ?_) ?_
          · repeat (first | with_reducible exact Below.refl _ _ | with_reducible assumption | with_reducible refine Below.drew ?_ | with_reducible refine Below.alloc ?_ (by first | exact Nat.le_refl _ | (simp <;> omega)) _ | with_reducible refine Below.setCell ?_ (by simp) _)
          clear hC
          rintro e w23 ⟨rfl, hx23⟩
          have hZ23 : w22.heap.size ≤ w23.heap.size := by have h := hx23.size; first | exact h | (simp at h; omega)
          have hG23 : Below w22.heap.size w22 w23 := bthen (hx := hx23) (h := by repeat (first | with_reducible exact Below.refl _ _ | with_reducible assumption | with_reducible refine Below.drew ?_ | with_reducible refine Below.alloc ?_ (by first | exact Nat.le_refl _ | (simp <;> omega)) _ | with_reducible refine Below.setCell ?_ (by simp) _))
          replace hbxA0 : Bx w23 (w.heap.size) [.slice a0_0 m0.fItems.length c0_0] := hbxA0.under hG23
          replace hbxA1 : Bx w23 (w.heap.size + 1) [.int .i64 m1.fD.fR, .int .i64 m1.fD.fN, .slice a1_2 m1.fDeps.length c1_2] := hbxA1.under hG23
          replace hbxs0 : Bx w23 (g5) [.slice as0_0 R0.fItems.length cs0_0] := hbxs0.under hG23
          replace hbxx0 : Bx w23 (w6.heap.size) [.slice ax0_0 m0.fItems.length cx0_0] := hbxx0.under hG23
          replace hbxx1 : Bx w23 (w7.heap.size) [.int .i64 m1.fD.fR, .int .i64 m1.fD.fN, .slice ax1_2 m1.fDeps.length cx1_2] := hbxx1.under hG23
          replace hbxg0 : Bx w23 (w8.heap.size) [.slice ag0_0 R0.fItems.length cg0_0] := hbxg0.under hG23
          replace hbxk0 : Bx w23 (g21) [.slice ak0_0 R0.fItems.length ck0_0] := hbxk0.under hG23
          have hoN := (oGraph_good.frame hog0 (fun b hb => hG23.block b (oGraph_good.lt hog0 b hb)))
          clear hog0
          have hog0 := hoN
          clear hoN
          have hoN := (oGraph_good.frame hok0 (fun b hb => hG23.block b (oGraph_good.lt hok0 b hb)))
          clear hok0
          have hok0 := hoN
          clear hoN
          replace hrs0 := (rGraph_good.below hrs0 (hG23.mono hbs0))
          replace hbs0 := Nat.le_trans hbs0 hG23.size
          replace xbA0_0 : w23.cell? ⟨w.heap.size, 0, none⟩ = some (.slice a0_0 m0.fItems.length c0_0) := hbxA0.2 0 _ rfl
          replace hlbA0 : w.heap.size < w23.heap.size := hbxA0.1
          replace xbA1_0 : w23.cell? ⟨w.heap.size + 1, 0, none⟩ = some (.int .i64 m1.fD.fR) := hbxA1.2 0 _ rfl
          replace xbA1_1 : w23.cell? ⟨w.heap.size + 1, 1, none⟩ = some (.int .i64 m1.fD.fN) := hbxA1.2 1 _ rfl
          replace xbA1_2 : w23.cell? ⟨w.heap.size + 1, 2, none⟩ = some (.slice a1_2 m1.fDeps.length c1_2) := hbxA1.2 2 _ rfl
          replace hlbA1 : w.heap.size + 1 < w23.heap.size := hbxA1.1
          replace xbs0_0 : w23.cell? ⟨g5, 0, none⟩ = some (.slice as0_0 R0.fItems.length cs0_0) := hbxs0.2 0 _ rfl
          replace hlbs0 : g5 < w23.heap.size := hbxs0.1
          replace xbx0_0 : w23.cell? ⟨w6.heap.size, 0, none⟩ = some (.slice ax0_0 m0.fItems.length cx0_0) := hbxx0.2 0 _ rfl
          replace hlbx0 : w6.heap.size < w23.heap.size := hbxx0.1
          replace xbx1_0 : w23.cell? ⟨w7.heap.size, 0, none⟩ = some (.int .i64 m1.fD.fR) := hbxx1.2 0 _ rfl
          replace xbx1_1 : w23.cell? ⟨w7.heap.size, 1, none⟩ = some (.int .i64 m1.fD.fN) := hbxx1.2 1 _ rfl
          replace xbx1_2 : w23.cell? ⟨w7.heap.size, 2, none⟩ = some (.slice ax1_2 m1.fDeps.length cx1_2) := hbxx1.2 2 _ rfl
          replace hlbx1 : w7.heap.size < w23.heap.size := hbxx1.1
          replace xbg0_0 : w23.cell? ⟨w8.heap.size, 0, none⟩ = some (.slice ag0_0 R0.fItems.length cg0_0) := hbxg0.2 0 _ rfl
          replace hlbg0 : w8.heap.size < w23.heap.size := hbxg0.1
          replace xbk0_0 : w23.cell? ⟨g21, 0, none⟩ = some (.slice ak0_0 R0.fItems.length ck0_0) := hbxk0.2 0 _ rfl
          replace hlbk0 : g21 < w23.heap.size := hbxk0.1
          have hB23 : Below w.heap.size w w23 := bthen hB22 hG23
          clear hx23
          go_wp2_with fail
          go_ret
          exact ⟨rfl, by repeat (first | with_reducible exact Below.refl _ _ | with_reducible assumption | with_reducible refine Below.drew ?_ | with_reducible refine Below.alloc ?_ (by first | exact Nat.le_refl _ | (simp <;> omega)) _ | with_reducible refine Below.setCell ?_ (by simp) _)⟩
    · rw [szRes_no hw1]
      go_wp2_with fail
      all_goals
        go_ret
        exact ⟨rfl, by repeat (first | with_reducible exact Below.refl _ _ | with_reducible assumption | with_reducible refine Below.drew ?_ | with_reducible refine Below.alloc ?_ (by first | exact Nat.le_refl _ | (simp <;> omega)) _ | with_reducible refine Below.setCell ?_ (by simp) _)⟩
  · rw [szRes_no hw0]
    go_wp2_with fail
    all_goals
      go_ret
      exact ⟨rfl, by repeat (first | with_reducible exact Below.refl _ _ | with_reducible assumption | with_reducible refine Below.drew ?_ | with_reducible refine Below.alloc ?_ (by first | exact Nat.le_refl _ | (simp <;> omega)) _ | with_reducible refine Below.setCell ?_ (by simp) _)⟩

end Go.Proofs.Ytjcfpedljccboaa
