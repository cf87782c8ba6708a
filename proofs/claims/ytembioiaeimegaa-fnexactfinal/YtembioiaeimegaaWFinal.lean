/-
  The exact law of Final: at every cluster both answers are the same pairs, in memory of their own.
-/
import Derived.Test.YtembioiaeimegaaUDatZ
import Derived.Test.YtembioiaeimegaaUDatT
import Derived.Test.YtembioiaeimegaaUDatE
import Derived.Test.YtembioiaeimegaaUDatM
import Derived.Test.YtembioiaeimegaaUFin
namespace Go.Proofs.Ytembioiaeimegaa
open Go.RowKit
set_option linter.unusedVariables false
set_option linter.unusedSimpArgs false
set_option maxRecDepth 10000

set_option maxHeartbeats 4000000 in
theorem law_FnExactFinal (cs0 : List Value) (m0 : MCluster) (w : World) (hr0 : rCluster w.heap.size w cs0 m0) :
    Calls Try.prog 3 #[.agg cs0.toArray] w fun e w' => e = .returned (.bool true) ∧ Below w.heap.size w w' := by
  have hq0 := hr0
  obtain ⟨a0_0, c0_0, a0_1, c0_1, a0_2, c0_2, rfl, _⟩ := hq0
  go_enter Try.func3, Try.ntmps3
  have hC := fun (W : World) (hb : Below w.heap.size w W) => szCluster_any _ m0 (1048576) W (by omega) (by omega) (rCluster_good.mono (rCluster_good.below hr0 hb) hb.size)
  go_wp2_with fail
  refine Calls.mono (hC _ ?_) ?_
  · repeat (first | with_reducible exact Below.refl _ _ | with_reducible assumption | with_reducible refine Below.drew ?_ | with_reducible refine Below.alloc ?_ (by first | exact Nat.le_refl _ | (simp; done) | (simp; omega)) _ | with_reducible refine Below.setCell ?_ (by simp) _)
  clear hC
  rintro e w1 ⟨rfl, hx1⟩
  have hZ1 : w.heap.size + 1 ≤ w1.heap.size := by have h := hx1.size; first | exact h | (simp at h; omega)
  have hG1 : Below w.heap.size w w1 := bthen (hx := hx1) (h := by repeat (first | with_reducible exact Below.refl _ _ | with_reducible assumption | with_reducible refine Below.drew ?_ | with_reducible refine Below.alloc ?_ (by first | exact Nat.le_refl _ | (simp; done) | (simp; omega)) _ | with_reducible refine Below.setCell ?_ (by simp) _))
  have hbxA0 : Bx w1 (w.heap.size) [.slice a0_0 m0.fReps.length c0_0, .slice a0_1 m0.fNet.length c0_1, .slice a0_2 m0.fAsked.length c0_2] := (Bx.new _ [.slice a0_0 m0.fReps.length c0_0, .slice a0_1 m0.fNet.length c0_1, .slice a0_2 m0.fAsked.length c0_2] _).under hx1
  have xbA0_0 : w1.cell? ⟨w.heap.size, 0, none⟩ = some (.slice a0_0 m0.fReps.length c0_0) := hbxA0.2 0 _ rfl
  have xbA0_1 : w1.cell? ⟨w.heap.size, 1, none⟩ = some (.slice a0_1 m0.fNet.length c0_1) := hbxA0.2 1 _ rfl
  have xbA0_2 : w1.cell? ⟨w.heap.size, 2, none⟩ = some (.slice a0_2 m0.fAsked.length c0_2) := hbxA0.2 2 _ rfl
  have hlbA0 : w.heap.size < w1.heap.size := hbxA0.1
  have hB1 : Below w.heap.size w w1 := hG1
  clear hx1
  by_cases hw0 : ((wCluster m0 : Nat) : Int) ≤ 1048576
  · rw [szRes_yes hw0]
    have hwn0 : wCluster m0 ≤ 1048576 := by omega
    have hcn0 := tcntCluster_le m0
    obtain ⟨R0, hR0⟩ : ∃ R : List MPair, R = finalP m0 := ⟨_, rfl⟩
    have hRw0 : wPs R0 ≤ 1099511627776 := by rw [hR0]; exact boundFinal_0 m0 hwn0
    have hRc0 := tcntPs_le R0
    have HR0 := Hid.mk hR0
    clear hR0
    have hC := fun (W : World) (hb : Below w1.heap.size w1 W) => toCluster_any _ m0 W (rCluster_good.mono (rCluster_good.below hr0 (bthen hB1 hb)) (bthen hB1 hb).size) hwn0
    go_wp2_with fail
    refine Calls.mono (hC _ ?_) ?_
    · repeat (first | with_reducible exact Below.refl _ _ | with_reducible assumption | with_reducible refine Below.drew ?_ | with_reducible refine Below.alloc ?_ (by first | exact Nat.le_refl _ | (simp; done) | (simp; omega)) _ | with_reducible refine Below.setCell ?_ (by simp) _)
    clear hC
    rintro e w2 ⟨vp0, Fp0, rfl, hop0, hNp0, hgep0, hx2⟩
    have hZ2 : w1.heap.size ≤ w2.heap.size := by have h := hx2.size; first | exact h | (simp at h; omega)
    have hgep0o : ∀ b, b ∈ Fp0 → w1.heap.size ≤ b := fun b hb => by have h := hgep0 b hb; first | exact h | (simp at h; omega)
    clear hgep0
    have hG2 : Below w1.heap.size w1 w2 := bthen (hx := hx2) (h := by repeat (first | with_reducible exact Below.refl _ _ | with_reducible assumption | with_reducible refine Below.drew ?_ | with_reducible refine Below.alloc ?_ (by first | exact Nat.le_refl _ | (simp; done) | (simp; omega)) _ | with_reducible refine Below.setCell ?_ (by simp) _))
    replace hbxA0 : Bx w2 (w.heap.size) [.slice a0_0 m0.fReps.length c0_0, .slice a0_1 m0.fNet.length c0_1, .slice a0_2 m0.fAsked.length c0_2] := hbxA0.under hG2
    replace xbA0_0 : w2.cell? ⟨w.heap.size, 0, none⟩ = some (.slice a0_0 m0.fReps.length c0_0) := hbxA0.2 0 _ rfl
    replace xbA0_1 : w2.cell? ⟨w.heap.size, 1, none⟩ = some (.slice a0_1 m0.fNet.length c0_1) := hbxA0.2 1 _ rfl
    replace xbA0_2 : w2.cell? ⟨w.heap.size, 2, none⟩ = some (.slice a0_2 m0.fAsked.length c0_2) := hbxA0.2 2 _ rfl
    replace hlbA0 : w.heap.size < w2.heap.size := hbxA0.1
    have hB2 : Below w.heap.size w w2 := bthen hB1 hG2
    clear hx2
    have hltp0 : ∀ b, b ∈ Fp0 → b < w2.heap.size := fun b hb => oCluster_good.lt hop0 b hb
    have hC := fun (W : World) (hb : Below w2.heap.size w2 W) => specFinal_c _ m0 W (rCluster_good.mono (rCluster_good.below (oCluster_good.read hop0) hb) hb.size) hwn0
    go_wp2_with fail
    refine Calls.mono (hC _ ?_) ?_
    · repeat (first | with_reducible exact Below.refl _ _ | with_reducible assumption | with_reducible refine Below.drew ?_ | with_reducible refine Below.alloc ?_ (by first | exact Nat.le_refl _ | (simp; done) | (simp; omega)) _ | with_reducible refine Below.setCell ?_ (by simp) _)
    clear hC
    rintro e w3 ⟨vs0, he, hrs0, hx3⟩
    have hZ3 : w2.heap.size ≤ w3.heap.size := by have h := hx3.size; first | exact h | (simp at h; omega)
    rw [← HR0.out] at hrs0
    subst he
    have hG3 : Below w2.heap.size w2 w3 := bthen (hx := hx3) (h := by repeat (first | with_reducible exact Below.refl _ _ | with_reducible assumption | with_reducible refine Below.drew ?_ | with_reducible refine Below.alloc ?_ (by first | exact Nat.le_refl _ | (simp; done) | (simp; omega)) _ | with_reducible refine Below.setCell ?_ (by simp) _))
    replace hbxA0 : Bx w3 (w.heap.size) [.slice a0_0 m0.fReps.length c0_0, .slice a0_1 m0.fNet.length c0_1, .slice a0_2 m0.fAsked.length c0_2] := hbxA0.under hG3
    have hoN := (oCluster_good.frame hop0 (fun b hb => hG3.block b (oCluster_good.lt hop0 b hb)))
    clear hop0
    have hop0 := hoN
    clear hoN
    replace xbA0_0 : w3.cell? ⟨w.heap.size, 0, none⟩ = some (.slice a0_0 m0.fReps.length c0_0) := hbxA0.2 0 _ rfl
    replace xbA0_1 : w3.cell? ⟨w.heap.size, 1, none⟩ = some (.slice a0_1 m0.fNet.length c0_1) := hbxA0.2 1 _ rfl
    replace xbA0_2 : w3.cell? ⟨w.heap.size, 2, none⟩ = some (.slice a0_2 m0.fAsked.length c0_2) := hbxA0.2 2 _ rfl
    replace hlbA0 : w.heap.size < w3.heap.size := hbxA0.1
    have hB3 : Below w.heap.size w w3 := bthen hB2 hG3
    clear hx3
    clear hop0 hNp0 hgep0o hltp0
    obtain ⟨as0, cs0, rfl, _⟩ := id (hrs0)
    have hbs0 : w3.heap.size ≤ w3.heap.size := Nat.le_refl _
    have hC := fun (W : World) (hb : Below w3.heap.size w3 W) => toCluster_any _ m0 W (rCluster_good.mono (rCluster_good.below hr0 (bthen hB3 hb)) (bthen hB3 hb).size) hwn0
    go_wp2_with fail
    refine Calls.mono (hC _ ?_) ?_
    · repeat (first | with_reducible exact Below.refl _ _ | with_reducible assumption | with_reducible refine Below.drew ?_ | with_reducible refine Below.alloc ?_ (by first | exact Nat.le_refl _ | (simp; done) | (simp; omega)) _ | with_reducible refine Below.setCell ?_ (by simp) _)
    clear hC
    rintro e w4 ⟨vx0, Fx0, rfl, hox0, hNx0, hgex0, hx4⟩
    have hZ4 : w3.heap.size ≤ w4.heap.size := by have h := hx4.size; first | exact h | (simp at h; omega)
    have hgex0o : ∀ b, b ∈ Fx0 → w3.heap.size ≤ b := fun b hb => by have h := hgex0 b hb; first | exact h | (simp at h; omega)
    clear hgex0
    have hG4 : Below w3.heap.size w3 w4 := bthen (hx := hx4) (h := by repeat (first | with_reducible exact Below.refl _ _ | with_reducible assumption | with_reducible refine Below.drew ?_ | with_reducible refine Below.alloc ?_ (by first | exact Nat.le_refl _ | (simp; done) | (simp; omega)) _ | with_reducible refine Below.setCell ?_ (by simp) _))
    replace hbxA0 : Bx w4 (w.heap.size) [.slice a0_0 m0.fReps.length c0_0, .slice a0_1 m0.fNet.length c0_1, .slice a0_2 m0.fAsked.length c0_2] := hbxA0.under hG4
    replace hrs0 := (hrs0.below (hG4.mono hbs0))
    replace hbs0 := Nat.le_trans hbs0 hG4.size
    replace xbA0_0 : w4.cell? ⟨w.heap.size, 0, none⟩ = some (.slice a0_0 m0.fReps.length c0_0) := hbxA0.2 0 _ rfl
    replace xbA0_1 : w4.cell? ⟨w.heap.size, 1, none⟩ = some (.slice a0_1 m0.fNet.length c0_1) := hbxA0.2 1 _ rfl
    replace xbA0_2 : w4.cell? ⟨w.heap.size, 2, none⟩ = some (.slice a0_2 m0.fAsked.length c0_2) := hbxA0.2 2 _ rfl
    replace hlbA0 : w.heap.size < w4.heap.size := hbxA0.1
    have hB4 : Below w.heap.size w w4 := bthen hB3 hG4
    clear hx4
    have hltx0 : ∀ b, b ∈ Fx0 → b < w4.heap.size := fun b hb => oCluster_good.lt hox0 b hb
    have hq := (oCluster_good.read hox0)
    obtain ⟨ax0_0, cx0_0, ax0_1, cx0_1, ax0_2, cx0_2, rfl, _⟩ := hq
    have hC := fun (W : World) (hb : Below w4.heap.size w4 W) => implFinal_c _ m0 W (rCluster_good.mono (rCluster_good.below (oCluster_good.read hox0) hb) hb.size) hwn0
    go_wp2_with fail
    refine Calls.mono (hC _ ?_) ?_
    · repeat (first | with_reducible exact Below.refl _ _ | with_reducible assumption | with_reducible refine Below.drew ?_ | with_reducible refine Below.alloc ?_ (by first | exact Nat.le_refl _ | (simp; done) | (simp; omega)) _ | with_reducible refine Below.setCell ?_ (by simp) _)
    clear hC
    rintro e w5 ⟨vg0, Fg0, he, hog0, hNg0, hgeg0, hx5⟩
    have hZ5 : w4.heap.size + 1 ≤ w5.heap.size := by have h := hx5.size; first | exact h | (simp at h; omega)
    rw [← HR0.out] at hog0
    have hgeg0o : ∀ b, b ∈ Fg0 → w4.heap.size + 1 ≤ b := fun b hb => by have h := hgeg0 b hb; first | exact h | (simp at h; omega)
    clear hgeg0
    subst he
    have hG5 : Below w4.heap.size w4 w5 := bthen (hx := hx5) (h := by repeat (first | with_reducible exact Below.refl _ _ | with_reducible assumption | with_reducible refine Below.drew ?_ | with_reducible refine Below.alloc ?_ (by first | exact Nat.le_refl _ | (simp; done) | (simp; omega)) _ | with_reducible refine Below.setCell ?_ (by simp) _))
    replace hbxA0 : Bx w5 (w.heap.size) [.slice a0_0 m0.fReps.length c0_0, .slice a0_1 m0.fNet.length c0_1, .slice a0_2 m0.fAsked.length c0_2] := hbxA0.under hG5
    have hoN := (oCluster_good.frame hox0 (fun b hb => hG5.block b (oCluster_good.lt hox0 b hb)))
    clear hox0
    have hox0 := hoN
    clear hoN
    replace hrs0 := (hrs0.below (hG5.mono hbs0))
    replace hbs0 := Nat.le_trans hbs0 hG5.size
    have hbxx0 : Bx w5 (w4.heap.size) [.slice ax0_0 m0.fReps.length cx0_0, .slice ax0_1 m0.fNet.length cx0_1, .slice ax0_2 m0.fAsked.length cx0_2] := (Bx.new _ [.slice ax0_0 m0.fReps.length cx0_0, .slice ax0_1 m0.fNet.length cx0_1, .slice ax0_2 m0.fAsked.length cx0_2] _).under hx5
    replace xbA0_0 : w5.cell? ⟨w.heap.size, 0, none⟩ = some (.slice a0_0 m0.fReps.length c0_0) := hbxA0.2 0 _ rfl
    replace xbA0_1 : w5.cell? ⟨w.heap.size, 1, none⟩ = some (.slice a0_1 m0.fNet.length c0_1) := hbxA0.2 1 _ rfl
    replace xbA0_2 : w5.cell? ⟨w.heap.size, 2, none⟩ = some (.slice a0_2 m0.fAsked.length c0_2) := hbxA0.2 2 _ rfl
    replace hlbA0 : w.heap.size < w5.heap.size := hbxA0.1
    have xbx0_0 : w5.cell? ⟨w4.heap.size, 0, none⟩ = some (.slice ax0_0 m0.fReps.length cx0_0) := hbxx0.2 0 _ rfl
    have xbx0_1 : w5.cell? ⟨w4.heap.size, 1, none⟩ = some (.slice ax0_1 m0.fNet.length cx0_1) := hbxx0.2 1 _ rfl
    have xbx0_2 : w5.cell? ⟨w4.heap.size, 2, none⟩ = some (.slice ax0_2 m0.fAsked.length cx0_2) := hbxx0.2 2 _ rfl
    have hlbx0 : w4.heap.size < w5.heap.size := hbxx0.1
    have hB5 : Below w.heap.size w w5 := bthen hB4 hG5
    clear hx5
    have hltg0 : ∀ b, b ∈ Fg0 → b < w5.heap.size := fun b hb => ownS.lt oPair_good hog0 b hb
    obtain ⟨ag0, cg0, rfl, _⟩ := id ((rdPs_own hog0))
    have hC := fun (W : World) (hb : Below w5.heap.size w5 W) => eqPairS_yes_r _ _ R0 W (((rdPs_own hog0).below hb).mono hb.size) ((hrs0.below (hb.mono hbs0)).mono (Nat.le_trans hbs0 hb.size)) (by omega)
    go_wp2_with fail
    refine Calls.mono (hC _ ?_) ?_
    · repeat (first | with_reducible exact Below.refl _ _ | with_reducible assumption | with_reducible refine Below.drew ?_ | with_reducible refine Below.alloc ?_ (by first | exact Nat.le_refl _ | (simp; done) | (simp; omega)) _ | with_reducible refine Below.setCell ?_ (by simp) _)
    clear hC
    rintro e w6 ⟨rfl, hx6⟩
    have hZ6 : w5.heap.size ≤ w6.heap.size := by have h := hx6.size; first | exact h | (simp at h; omega)
    have hG6 : Below w5.heap.size w5 w6 := bthen (hx := hx6) (h := by repeat (first | with_reducible exact Below.refl _ _ | with_reducible assumption | with_reducible refine Below.drew ?_ | with_reducible refine Below.alloc ?_ (by first | exact Nat.le_refl _ | (simp; done) | (simp; omega)) _ | with_reducible refine Below.setCell ?_ (by simp) _))
    replace hbxA0 : Bx w6 (w.heap.size) [.slice a0_0 m0.fReps.length c0_0, .slice a0_1 m0.fNet.length c0_1, .slice a0_2 m0.fAsked.length c0_2] := hbxA0.under hG6
    replace hbxx0 : Bx w6 (w4.heap.size) [.slice ax0_0 m0.fReps.length cx0_0, .slice ax0_1 m0.fNet.length cx0_1, .slice ax0_2 m0.fAsked.length cx0_2] := hbxx0.under hG6
    have hoN := (oCluster_good.frame hox0 (fun b hb => hG6.block b (oCluster_good.lt hox0 b hb)))
    clear hox0
    have hox0 := hoN
    clear hoN
    have hoN := (ownS.frame oPair_good hog0 (fun b hb => hG6.block b (ownS.lt oPair_good hog0 b hb)))
    clear hog0
    have hog0 := hoN
    clear hoN
    replace hrs0 := (hrs0.below (hG6.mono hbs0))
    replace hbs0 := Nat.le_trans hbs0 hG6.size
    replace xbA0_0 : w6.cell? ⟨w.heap.size, 0, none⟩ = some (.slice a0_0 m0.fReps.length c0_0) := hbxA0.2 0 _ rfl
    replace xbA0_1 : w6.cell? ⟨w.heap.size, 1, none⟩ = some (.slice a0_1 m0.fNet.length c0_1) := hbxA0.2 1 _ rfl
    replace xbA0_2 : w6.cell? ⟨w.heap.size, 2, none⟩ = some (.slice a0_2 m0.fAsked.length c0_2) := hbxA0.2 2 _ rfl
    replace hlbA0 : w.heap.size < w6.heap.size := hbxA0.1
    replace xbx0_0 : w6.cell? ⟨w4.heap.size, 0, none⟩ = some (.slice ax0_0 m0.fReps.length cx0_0) := hbxx0.2 0 _ rfl
    replace xbx0_1 : w6.cell? ⟨w4.heap.size, 1, none⟩ = some (.slice ax0_1 m0.fNet.length cx0_1) := hbxx0.2 1 _ rfl
    replace xbx0_2 : w6.cell? ⟨w4.heap.size, 2, none⟩ = some (.slice ax0_2 m0.fAsked.length cx0_2) := hbxx0.2 2 _ rfl
    replace hlbx0 : w4.heap.size < w6.heap.size := hbxx0.1
    have hB6 : Below w.heap.size w w6 := bthen hB5 hG6
    clear hx6
    have hC1 := fun (W : World) (hb : Below w6.heap.size w6 W) => toCluster_any _ m0 W (rCluster_good.mono (rCluster_good.below hr0 (bthen hB6 hb)) (bthen hB6 hb).size) hwn0
    have hC2 := fun (W W2 : World) (v2 : List Value) (F2 : List Nat) (hb : Below w6.heap.size w6 W) (hb2 : Below W.heap.size W W2) (ho2 : oCluster W2 v2 m0 F2) => eqCluster_yes _ v2 m0 W2 (rCluster_good.mono (rCluster_good.below (oCluster_good.read hox0) (bthen hb hb2)) (bthen hb hb2).size) (oCluster_good.read ho2) (by omega)
    go_wp2_with fail
    go_region_with (first | (go_at_call 6; refine Calls.mono (hC1 _ ?_) ?_; exact (by repeat (first | with_reducible exact Below.refl _ _ | with_reducible assumption | with_reducible refine Below.drew ?_ | with_reducible refine Below.alloc ?_ (by first | exact Nat.le_refl _ | (simp; done) | (simp; omega)) _ | with_reducible refine Below.setCell ?_ (by simp) _)); rintro e w7 ⟨vt0, Ft0, rfl, hot0, hNt0, hget0, hx7⟩; have hG7 : Below w6.heap.size w6 w7 := bthen (hx := hx7) (h := by repeat (first | with_reducible exact Below.refl _ _ | with_reducible assumption | with_reducible refine Below.drew ?_ | with_reducible refine Below.alloc ?_ (by first | exact Nat.le_refl _ | (simp; done) | (simp; omega)) _ | with_reducible refine Below.setCell ?_ (by simp) _)); obtain ⟨at0_0, ct0_0, at0_1, ct0_1, at0_2, ct0_2, rfl, _⟩ := id (oCluster_good.read hot0); have hbtA0 : Bx w7 (w.heap.size) [.slice a0_0 m0.fReps.length c0_0, .slice a0_1 m0.fNet.length c0_1, .slice a0_2 m0.fAsked.length c0_2] := hbxA0.under hG7; have xtA0_0 : w7.cell? ⟨w.heap.size, 0, none⟩ = some (.slice a0_0 m0.fReps.length c0_0) := hbtA0.2 0 _ rfl; have xtA0_1 : w7.cell? ⟨w.heap.size, 1, none⟩ = some (.slice a0_1 m0.fNet.length c0_1) := hbtA0.2 1 _ rfl; have xtA0_2 : w7.cell? ⟨w.heap.size, 2, none⟩ = some (.slice a0_2 m0.fAsked.length c0_2) := hbtA0.2 2 _ rfl; have hbtx0 : Bx w7 (w4.heap.size) [.slice ax0_0 m0.fReps.length cx0_0, .slice ax0_1 m0.fNet.length cx0_1, .slice ax0_2 m0.fAsked.length cx0_2] := hbxx0.under hG7; have xtx0_0 : w7.cell? ⟨w4.heap.size, 0, none⟩ = some (.slice ax0_0 m0.fReps.length cx0_0) := hbtx0.2 0 _ rfl; have xtx0_1 : w7.cell? ⟨w4.heap.size, 1, none⟩ = some (.slice ax0_1 m0.fNet.length cx0_1) := hbtx0.2 1 _ rfl; have xtx0_2 : w7.cell? ⟨w4.heap.size, 2, none⟩ = some (.slice ax0_2 m0.fAsked.length cx0_2) := hbtx0.2 2 _ rfl) | (go_at_call 9; refine Calls.mono (hC2 _ _ _ _ (Below.refl _ _) hG7 hot0) ?_; rintro e w8 ⟨rfl, hx8⟩))
    all_goals
      have hZ7 : w6.heap.size ≤ w7.heap.size := by have h := hx7.size; first | exact h | (simp at h; omega)
      have hZ8 : w7.heap.size ≤ w8.heap.size := hx8.size
      have hGG8 : Below w6.heap.size w6 w8 := bthen hG7 hx8
      replace hbxA0 : Bx w8 (w.heap.size) [.slice a0_0 m0.fReps.length c0_0, .slice a0_1 m0.fNet.length c0_1, .slice a0_2 m0.fAsked.length c0_2] := hbxA0.under hGG8
      replace hbxx0 : Bx w8 (w4.heap.size) [.slice ax0_0 m0.fReps.length cx0_0, .slice ax0_1 m0.fNet.length cx0_1, .slice ax0_2 m0.fAsked.length cx0_2] := hbxx0.under hGG8
      have hoN := (oCluster_good.frame hox0 (fun b hb => hGG8.block b (oCluster_good.lt hox0 b hb)))
      clear hox0
      have hox0 := hoN
      clear hoN
      have hoN := (ownS.frame oPair_good hog0 (fun b hb => hGG8.block b (ownS.lt oPair_good hog0 b hb)))
      clear hog0
      have hog0 := hoN
      clear hoN
      replace hrs0 := (hrs0.below (hGG8.mono hbs0))
      replace hbs0 := Nat.le_trans hbs0 hGG8.size
      replace xbA0_0 : w8.cell? ⟨w.heap.size, 0, none⟩ = some (.slice a0_0 m0.fReps.length c0_0) := hbxA0.2 0 _ rfl
      replace xbA0_1 : w8.cell? ⟨w.heap.size, 1, none⟩ = some (.slice a0_1 m0.fNet.length c0_1) := hbxA0.2 1 _ rfl
      replace xbA0_2 : w8.cell? ⟨w.heap.size, 2, none⟩ = some (.slice a0_2 m0.fAsked.length c0_2) := hbxA0.2 2 _ rfl
      replace hlbA0 : w.heap.size < w8.heap.size := hbxA0.1
      replace xbx0_0 : w8.cell? ⟨w4.heap.size, 0, none⟩ = some (.slice ax0_0 m0.fReps.length cx0_0) := hbxx0.2 0 _ rfl
      replace xbx0_1 : w8.cell? ⟨w4.heap.size, 1, none⟩ = some (.slice ax0_1 m0.fNet.length cx0_1) := hbxx0.2 1 _ rfl
      replace xbx0_2 : w8.cell? ⟨w4.heap.size, 2, none⟩ = some (.slice ax0_2 m0.fAsked.length cx0_2) := hbxx0.2 2 _ rfl
      replace hlbx0 : w4.heap.size < w8.heap.size := hbxx0.1
      have hB8 : Below w.heap.size w w8 := bthen hB6 hGG8
      clear hx7 hx8 hC1 hC2 hot0 hNt0 hget0
      have hC := fun (W : World) (hb : Below w8.heap.size w8 W) => markCluster_any _ m0 Fx0 1 W (by omega) (by omega) (oCluster_good.frame hox0 (fun b hb2 => hb.block b (oCluster_good.lt hox0 b hb2))) hNx0
      go_wp2_with fail
      refine Calls.mono (hC _ ?_) ?_
      · repeat (first | with_reducible exact Below.refl _ _ | with_reducible assumption | with_reducible refine Below.drew ?_ | with_reducible refine Below.alloc ?_ (by first | exact Nat.le_refl _ | (simp; done) | (simp; omega)) _ | with_reducible refine Below.setCell ?_ (by simp) _)
      clear hC
      rintro e w9 ⟨mmx0, qx0, rfl, hqax0, hqbx0, homx0, hhx0, hx9⟩
      have hZ9 : w8.heap.size ≤ w9.heap.size := by have h := hx9.size; first | exact h | (simp at h; omega)
      have hG9 : Turn Fx0 w8 w9 := Turn.after (hx := hx9) (h := by repeat (first | with_reducible exact Below.refl _ _ | with_reducible assumption | with_reducible refine Below.drew ?_ | with_reducible refine Below.alloc ?_ (by first | exact Nat.le_refl _ | (simp; done) | (simp; omega)) _ | with_reducible refine Below.setCell ?_ (by simp) _))
      replace hbxA0 : Bx w9 (w.heap.size) [.slice a0_0 m0.fReps.length c0_0, .slice a0_1 m0.fNet.length c0_1, .slice a0_2 m0.fAsked.length c0_2] := hbxA0.turn hG9 (fun hm => by have h1 := hgex0o _ hm; have h2 := hltx0 _ hm; omega)
      replace hbxx0 : Bx w9 (w4.heap.size) [.slice ax0_0 m0.fReps.length cx0_0, .slice ax0_1 m0.fNet.length cx0_1, .slice ax0_2 m0.fAsked.length cx0_2] := hbxx0.turn hG9 (fun hm => by have h1 := hgex0o _ hm; have h2 := hltx0 _ hm; omega)
      have hoN := (ownS.frame oPair_good hog0 (fun b hb => hG9.block b (ownS.lt oPair_good hog0 b hb) (fun hm => by have h1 := hgex0o _ hm; have h2 := hltx0 _ hm; have h3 := hgeg0o _ hb; have h4 := hltg0 _ hb; omega)))
      clear hog0
      have hog0 := hoN
      clear hoN
      replace hrs0 := (hrs0.below (Turn.below hG9 (fun k hk => by have h1 := hgex0o _ hk; omega) hbs0))
      replace hbs0 := Nat.le_trans hbs0 hG9.size
      replace xbA0_0 : w9.cell? ⟨w.heap.size, 0, none⟩ = some (.slice a0_0 m0.fReps.length c0_0) := hbxA0.2 0 _ rfl
      replace xbA0_1 : w9.cell? ⟨w.heap.size, 1, none⟩ = some (.slice a0_1 m0.fNet.length c0_1) := hbxA0.2 1 _ rfl
      replace xbA0_2 : w9.cell? ⟨w.heap.size, 2, none⟩ = some (.slice a0_2 m0.fAsked.length c0_2) := hbxA0.2 2 _ rfl
      replace hlbA0 : w.heap.size < w9.heap.size := hbxA0.1
      replace xbx0_0 : w9.cell? ⟨w4.heap.size, 0, none⟩ = some (.slice ax0_0 m0.fReps.length cx0_0) := hbxx0.2 0 _ rfl
      replace xbx0_1 : w9.cell? ⟨w4.heap.size, 1, none⟩ = some (.slice ax0_1 m0.fNet.length cx0_1) := hbxx0.2 1 _ rfl
      replace xbx0_2 : w9.cell? ⟨w4.heap.size, 2, none⟩ = some (.slice ax0_2 m0.fAsked.length cx0_2) := hbxx0.2 2 _ rfl
      replace hlbx0 : w4.heap.size < w9.heap.size := hbxx0.1
      have hB9 : Below w.heap.size w w9 := Turn.under hB8 hG9 (fun k hk => by have h1 := hgex0o _ hk; have h2 := hB8.size; omega)
      clear hx9 hox0
      have hox0 := homx0
      clear homx0
      have hC := fun (W : World) (hb : Below w9.heap.size w9 W) => eqPairS_yes_r _ _ R0 W (((rdPs_own hog0).below hb).mono hb.size) ((hrs0.below (hb.mono hbs0)).mono (Nat.le_trans hbs0 hb.size)) (by omega)
      go_wp2_with fail
      refine Calls.mono (hC _ ?_) ?_
      · repeat (first | with_reducible exact Below.refl _ _ | with_reducible assumption | with_reducible refine Below.drew ?_ | with_reducible refine Below.alloc ?_ (by first | exact Nat.le_refl _ | (simp; done) | (simp; omega)) _ | with_reducible refine Below.setCell ?_ (by simp) _)
      clear hC
      rintro e w10 ⟨rfl, hx10⟩
      have hZ10 : w9.heap.size ≤ w10.heap.size := by have h := hx10.size; first | exact h | (simp at h; omega)
      have hG10 : Below w9.heap.size w9 w10 := bthen (hx := hx10) (h := by repeat (first | with_reducible exact Below.refl _ _ | with_reducible assumption | with_reducible refine Below.drew ?_ | with_reducible refine Below.alloc ?_ (by first | exact Nat.le_refl _ | (simp; done) | (simp; omega)) _ | with_reducible refine Below.setCell ?_ (by simp) _))
      replace hbxA0 : Bx w10 (w.heap.size) [.slice a0_0 m0.fReps.length c0_0, .slice a0_1 m0.fNet.length c0_1, .slice a0_2 m0.fAsked.length c0_2] := hbxA0.under hG10
      replace hbxx0 : Bx w10 (w4.heap.size) [.slice ax0_0 m0.fReps.length cx0_0, .slice ax0_1 m0.fNet.length cx0_1, .slice ax0_2 m0.fAsked.length cx0_2] := hbxx0.under hG10
      have hoN := (ownS.frame oPair_good hog0 (fun b hb => hG10.block b (ownS.lt oPair_good hog0 b hb)))
      clear hog0
      have hog0 := hoN
      clear hoN
      replace hrs0 := (hrs0.below (hG10.mono hbs0))
      replace hbs0 := Nat.le_trans hbs0 hG10.size
      replace xbA0_0 : w10.cell? ⟨w.heap.size, 0, none⟩ = some (.slice a0_0 m0.fReps.length c0_0) := hbxA0.2 0 _ rfl
      replace xbA0_1 : w10.cell? ⟨w.heap.size, 1, none⟩ = some (.slice a0_1 m0.fNet.length c0_1) := hbxA0.2 1 _ rfl
      replace xbA0_2 : w10.cell? ⟨w.heap.size, 2, none⟩ = some (.slice a0_2 m0.fAsked.length c0_2) := hbxA0.2 2 _ rfl
      replace hlbA0 : w.heap.size < w10.heap.size := hbxA0.1
      replace xbx0_0 : w10.cell? ⟨w4.heap.size, 0, none⟩ = some (.slice ax0_0 m0.fReps.length cx0_0) := hbxx0.2 0 _ rfl
      replace xbx0_1 : w10.cell? ⟨w4.heap.size, 1, none⟩ = some (.slice ax0_1 m0.fNet.length cx0_1) := hbxx0.2 1 _ rfl
      replace xbx0_2 : w10.cell? ⟨w4.heap.size, 2, none⟩ = some (.slice ax0_2 m0.fAsked.length cx0_2) := hbxx0.2 2 _ rfl
      replace hlbx0 : w4.heap.size < w10.heap.size := hbxx0.1
      have hB10 : Below w.heap.size w w10 := bthen hB9 hG10
      clear hx10
      have hC := fun (W : World) (hb : Below w10.heap.size w10 W) => markPairS_r _ R0 Fg0 1 W (by omega) (by omega) (ownS.frame oPair_good hog0 (fun b hb2 => hb.block b (ownS.lt oPair_good hog0 b hb2))) hNg0
      go_wp2_with fail
      refine Calls.mono (hC _ ?_) ?_
      · repeat (first | with_reducible exact Below.refl _ _ | with_reducible assumption | with_reducible refine Below.drew ?_ | with_reducible refine Below.alloc ?_ (by first | exact Nat.le_refl _ | (simp; done) | (simp; omega)) _ | with_reducible refine Below.setCell ?_ (by simp) _)
      clear hC
      rintro e w11 ⟨mmg0, qg0, rfl, hqag0, hqbg0, homg0, hhg0, hx11⟩
      have hZ11 : w10.heap.size ≤ w11.heap.size := by have h := hx11.size; first | exact h | (simp at h; omega)
      have hG11 : Turn Fg0 w10 w11 := Turn.after (hx := hx11) (h := by repeat (first | with_reducible exact Below.refl _ _ | with_reducible assumption | with_reducible refine Below.drew ?_ | with_reducible refine Below.alloc ?_ (by first | exact Nat.le_refl _ | (simp; done) | (simp; omega)) _ | with_reducible refine Below.setCell ?_ (by simp) _))
      replace hbxA0 : Bx w11 (w.heap.size) [.slice a0_0 m0.fReps.length c0_0, .slice a0_1 m0.fNet.length c0_1, .slice a0_2 m0.fAsked.length c0_2] := hbxA0.turn hG11 (fun hm => by have h1 := hgeg0o _ hm; have h2 := hltg0 _ hm; omega)
      replace hbxx0 : Bx w11 (w4.heap.size) [.slice ax0_0 m0.fReps.length cx0_0, .slice ax0_1 m0.fNet.length cx0_1, .slice ax0_2 m0.fAsked.length cx0_2] := hbxx0.turn hG11 (fun hm => by have h1 := hgeg0o _ hm; have h2 := hltg0 _ hm; omega)
      replace hrs0 := (hrs0.below (Turn.below hG11 (fun k hk => by have h1 := hgeg0o _ hk; omega) hbs0))
      replace hbs0 := Nat.le_trans hbs0 hG11.size
      replace xbA0_0 : w11.cell? ⟨w.heap.size, 0, none⟩ = some (.slice a0_0 m0.fReps.length c0_0) := hbxA0.2 0 _ rfl
      replace xbA0_1 : w11.cell? ⟨w.heap.size, 1, none⟩ = some (.slice a0_1 m0.fNet.length c0_1) := hbxA0.2 1 _ rfl
      replace xbA0_2 : w11.cell? ⟨w.heap.size, 2, none⟩ = some (.slice a0_2 m0.fAsked.length c0_2) := hbxA0.2 2 _ rfl
      replace hlbA0 : w.heap.size < w11.heap.size := hbxA0.1
      replace xbx0_0 : w11.cell? ⟨w4.heap.size, 0, none⟩ = some (.slice ax0_0 m0.fReps.length cx0_0) := hbxx0.2 0 _ rfl
      replace xbx0_1 : w11.cell? ⟨w4.heap.size, 1, none⟩ = some (.slice ax0_1 m0.fNet.length cx0_1) := hbxx0.2 1 _ rfl
      replace xbx0_2 : w11.cell? ⟨w4.heap.size, 2, none⟩ = some (.slice ax0_2 m0.fAsked.length cx0_2) := hbxx0.2 2 _ rfl
      replace hlbx0 : w4.heap.size < w11.heap.size := hbxx0.1
      have hB11 : Below w.heap.size w w11 := Turn.under hB10 hG11 (fun k hk => by have h1 := hgeg0o _ hk; have h2 := hB10.size; omega)
      clear hx11 hog0
      have hog0 := homg0
      clear homg0
      have hC := fun (W : World) (hb : Below w11.heap.size w11 W) => heldPairS_r _ mmg0 1 qg0 W (((rdPs_own hog0).below hb).mono hb.size) hhg0 (by omega) (by omega)
      go_wp2_with fail
      refine Calls.mono (hC _ ?_) ?_
      · repeat (first | with_reducible exact Below.refl _ _ | with_reducible assumption | with_reducible refine Below.drew ?_ | with_reducible refine Below.alloc ?_ (by first | exact Nat.le_refl _ | (simp; done) | (simp; omega)) _ | with_reducible refine Below.setCell ?_ (by simp) _)
      clear hC
      rintro e w12 ⟨rfl, hx12⟩
      have hZ12 : w11.heap.size ≤ w12.heap.size := by have h := hx12.size; first | exact h | (simp at h; omega)
      have hG12 : Below w11.heap.size w11 w12 := bthen (hx := hx12) (h := by repeat (first | with_reducible exact Below.refl _ _ | with_reducible assumption | with_reducible refine Below.drew ?_ | with_reducible refine Below.alloc ?_ (by first | exact Nat.le_refl _ | (simp; done) | (simp; omega)) _ | with_reducible refine Below.setCell ?_ (by simp) _))
      replace hbxA0 : Bx w12 (w.heap.size) [.slice a0_0 m0.fReps.length c0_0, .slice a0_1 m0.fNet.length c0_1, .slice a0_2 m0.fAsked.length c0_2] := hbxA0.under hG12
      replace hbxx0 : Bx w12 (w4.heap.size) [.slice ax0_0 m0.fReps.length cx0_0, .slice ax0_1 m0.fNet.length cx0_1, .slice ax0_2 m0.fAsked.length cx0_2] := hbxx0.under hG12
      have hoN := (ownS.frame oPair_good hog0 (fun b hb => hG12.block b (ownS.lt oPair_good hog0 b hb)))
      clear hog0
      have hog0 := hoN
      clear hoN
      replace hrs0 := (hrs0.below (hG12.mono hbs0))
      replace hbs0 := Nat.le_trans hbs0 hG12.size
      replace xbA0_0 : w12.cell? ⟨w.heap.size, 0, none⟩ = some (.slice a0_0 m0.fReps.length c0_0) := hbxA0.2 0 _ rfl
      replace xbA0_1 : w12.cell? ⟨w.heap.size, 1, none⟩ = some (.slice a0_1 m0.fNet.length c0_1) := hbxA0.2 1 _ rfl
      replace xbA0_2 : w12.cell? ⟨w.heap.size, 2, none⟩ = some (.slice a0_2 m0.fAsked.length c0_2) := hbxA0.2 2 _ rfl
      replace hlbA0 : w.heap.size < w12.heap.size := hbxA0.1
      replace xbx0_0 : w12.cell? ⟨w4.heap.size, 0, none⟩ = some (.slice ax0_0 m0.fReps.length cx0_0) := hbxx0.2 0 _ rfl
      replace xbx0_1 : w12.cell? ⟨w4.heap.size, 1, none⟩ = some (.slice ax0_1 m0.fNet.length cx0_1) := hbxx0.2 1 _ rfl
      replace xbx0_2 : w12.cell? ⟨w4.heap.size, 2, none⟩ = some (.slice ax0_2 m0.fAsked.length cx0_2) := hbxx0.2 2 _ rfl
      replace hlbx0 : w4.heap.size < w12.heap.size := hbxx0.1
      have hB12 : Below w.heap.size w w12 := bthen hB11 hG12
      clear hx12
      have hC := fun (W : World) (hb : Below w12.heap.size w12 W) => toCluster_any _ m0 W (rCluster_good.mono (rCluster_good.below hr0 (bthen hB12 hb)) (bthen hB12 hb).size) hwn0
      go_wp2_with fail
      refine Calls.mono (hC _ ?_) ?_
      · repeat (first | with_reducible exact Below.refl _ _ | with_reducible assumption | with_reducible refine Below.drew ?_ | with_reducible refine Below.alloc ?_ (by first | exact Nat.le_refl _ | (simp; done) | (simp; omega)) _ | with_reducible refine Below.setCell ?_ (by simp) _)
      clear hC
      rintro e w13 ⟨vh0, Fh0, rfl, hoh0, hNh0, hgeh0, hx13⟩
      have hZ13 : w12.heap.size ≤ w13.heap.size := by have h := hx13.size; first | exact h | (simp at h; omega)
      have hgeh0o : ∀ b, b ∈ Fh0 → w12.heap.size ≤ b := fun b hb => by have h := hgeh0 b hb; first | exact h | (simp at h; omega)
      clear hgeh0
      have hG13 : Below w12.heap.size w12 w13 := bthen (hx := hx13) (h := by repeat (first | with_reducible exact Below.refl _ _ | with_reducible assumption | with_reducible refine Below.drew ?_ | with_reducible refine Below.alloc ?_ (by first | exact Nat.le_refl _ | (simp; done) | (simp; omega)) _ | with_reducible refine Below.setCell ?_ (by simp) _))
      replace hbxA0 : Bx w13 (w.heap.size) [.slice a0_0 m0.fReps.length c0_0, .slice a0_1 m0.fNet.length c0_1, .slice a0_2 m0.fAsked.length c0_2] := hbxA0.under hG13
      replace hbxx0 : Bx w13 (w4.heap.size) [.slice ax0_0 m0.fReps.length cx0_0, .slice ax0_1 m0.fNet.length cx0_1, .slice ax0_2 m0.fAsked.length cx0_2] := hbxx0.under hG13
      have hoN := (ownS.frame oPair_good hog0 (fun b hb => hG13.block b (ownS.lt oPair_good hog0 b hb)))
      clear hog0
      have hog0 := hoN
      clear hoN
      replace hrs0 := (hrs0.below (hG13.mono hbs0))
      replace hbs0 := Nat.le_trans hbs0 hG13.size
      replace xbA0_0 : w13.cell? ⟨w.heap.size, 0, none⟩ = some (.slice a0_0 m0.fReps.length c0_0) := hbxA0.2 0 _ rfl
      replace xbA0_1 : w13.cell? ⟨w.heap.size, 1, none⟩ = some (.slice a0_1 m0.fNet.length c0_1) := hbxA0.2 1 _ rfl
      replace xbA0_2 : w13.cell? ⟨w.heap.size, 2, none⟩ = some (.slice a0_2 m0.fAsked.length c0_2) := hbxA0.2 2 _ rfl
      replace hlbA0 : w.heap.size < w13.heap.size := hbxA0.1
      replace xbx0_0 : w13.cell? ⟨w4.heap.size, 0, none⟩ = some (.slice ax0_0 m0.fReps.length cx0_0) := hbxx0.2 0 _ rfl
      replace xbx0_1 : w13.cell? ⟨w4.heap.size, 1, none⟩ = some (.slice ax0_1 m0.fNet.length cx0_1) := hbxx0.2 1 _ rfl
      replace xbx0_2 : w13.cell? ⟨w4.heap.size, 2, none⟩ = some (.slice ax0_2 m0.fAsked.length cx0_2) := hbxx0.2 2 _ rfl
      replace hlbx0 : w4.heap.size < w13.heap.size := hbxx0.1
      have hB13 : Below w.heap.size w w13 := bthen hB12 hG13
      clear hx13
      have hlth0 : ∀ b, b ∈ Fh0 → b < w13.heap.size := fun b hb => oCluster_good.lt hoh0 b hb
      have hC := fun (W : World) (hb : Below w13.heap.size w13 W) => implFinal_c _ m0 W (rCluster_good.mono (rCluster_good.below (oCluster_good.read hoh0) hb) hb.size) hwn0
      go_wp2_with fail
      refine Calls.mono (hC _ ?_) ?_
      · repeat (first | with_reducible exact Below.refl _ _ | with_reducible assumption | with_reducible refine Below.drew ?_ | with_reducible refine Below.alloc ?_ (by first | exact Nat.le_refl _ | (simp; done) | (simp; omega)) _ | with_reducible refine Below.setCell ?_ (by simp) _)
      clear hC
      rintro e w14 ⟨vk0, Fk0, he, hok0, hNk0, hgek0, hx14⟩
      have hZ14 : w13.heap.size ≤ w14.heap.size := by have h := hx14.size; first | exact h | (simp at h; omega)
      rw [← HR0.out] at hok0
      have hgek0o : ∀ b, b ∈ Fk0 → w13.heap.size ≤ b := fun b hb => by have h := hgek0 b hb; first | exact h | (simp at h; omega)
      clear hgek0
      subst he
      have hG14 : Below w13.heap.size w13 w14 := bthen (hx := hx14) (h := by repeat (first | with_reducible exact Below.refl _ _ | with_reducible assumption | with_reducible refine Below.drew ?_ | with_reducible refine Below.alloc ?_ (by first | exact Nat.le_refl _ | (simp; done) | (simp; omega)) _ | with_reducible refine Below.setCell ?_ (by simp) _))
      replace hbxA0 : Bx w14 (w.heap.size) [.slice a0_0 m0.fReps.length c0_0, .slice a0_1 m0.fNet.length c0_1, .slice a0_2 m0.fAsked.length c0_2] := hbxA0.under hG14
      replace hbxx0 : Bx w14 (w4.heap.size) [.slice ax0_0 m0.fReps.length cx0_0, .slice ax0_1 m0.fNet.length cx0_1, .slice ax0_2 m0.fAsked.length cx0_2] := hbxx0.under hG14
      have hoN := (ownS.frame oPair_good hog0 (fun b hb => hG14.block b (ownS.lt oPair_good hog0 b hb)))
      clear hog0
      have hog0 := hoN
      clear hoN
      have hoN := (oCluster_good.frame hoh0 (fun b hb => hG14.block b (oCluster_good.lt hoh0 b hb)))
      clear hoh0
      have hoh0 := hoN
      clear hoN
      replace hrs0 := (hrs0.below (hG14.mono hbs0))
      replace hbs0 := Nat.le_trans hbs0 hG14.size
      replace xbA0_0 : w14.cell? ⟨w.heap.size, 0, none⟩ = some (.slice a0_0 m0.fReps.length c0_0) := hbxA0.2 0 _ rfl
      replace xbA0_1 : w14.cell? ⟨w.heap.size, 1, none⟩ = some (.slice a0_1 m0.fNet.length c0_1) := hbxA0.2 1 _ rfl
      replace xbA0_2 : w14.cell? ⟨w.heap.size, 2, none⟩ = some (.slice a0_2 m0.fAsked.length c0_2) := hbxA0.2 2 _ rfl
      replace hlbA0 : w.heap.size < w14.heap.size := hbxA0.1
      replace xbx0_0 : w14.cell? ⟨w4.heap.size, 0, none⟩ = some (.slice ax0_0 m0.fReps.length cx0_0) := hbxx0.2 0 _ rfl
      replace xbx0_1 : w14.cell? ⟨w4.heap.size, 1, none⟩ = some (.slice ax0_1 m0.fNet.length cx0_1) := hbxx0.2 1 _ rfl
      replace xbx0_2 : w14.cell? ⟨w4.heap.size, 2, none⟩ = some (.slice ax0_2 m0.fAsked.length cx0_2) := hbxx0.2 2 _ rfl
      replace hlbx0 : w4.heap.size < w14.heap.size := hbxx0.1
      have hB14 : Below w.heap.size w w14 := bthen hB13 hG14
      clear hx14
      have hltk0 : ∀ b, b ∈ Fk0 → b < w14.heap.size := fun b hb => ownS.lt oPair_good hok0 b hb
      obtain ⟨ak0, ck0, rfl, _⟩ := id ((rdPs_own hok0))
      clear hoh0
      have hC := fun (W : World) (hb : Below w14.heap.size w14 W) => eqPairS_yes_r _ _ R0 W (((rdPs_own hok0).below hb).mono hb.size) ((hrs0.below (hb.mono hbs0)).mono (Nat.le_trans hbs0 hb.size)) (by omega)
      go_wp2_with fail
      refine Calls.mono (hC _ ?_) ?_
      · repeat (first | with_reducible exact Below.refl _ _ | with_reducible assumption | with_reducible refine Below.drew ?_ | with_reducible refine Below.alloc ?_ (by first | exact Nat.le_refl _ | (simp; done) | (simp; omega)) _ | with_reducible refine Below.setCell ?_ (by simp) _)
      clear hC
      rintro e w15 ⟨rfl, hx15⟩
      have hZ15 : w14.heap.size ≤ w15.heap.size := by have h := hx15.size; first | exact h | (simp at h; omega)
      have hG15 : Below w14.heap.size w14 w15 := bthen (hx := hx15) (h := by repeat (first | with_reducible exact Below.refl _ _ | with_reducible assumption | with_reducible refine Below.drew ?_ | with_reducible refine Below.alloc ?_ (by first | exact Nat.le_refl _ | (simp; done) | (simp; omega)) _ | with_reducible refine Below.setCell ?_ (by simp) _))
      replace hbxA0 : Bx w15 (w.heap.size) [.slice a0_0 m0.fReps.length c0_0, .slice a0_1 m0.fNet.length c0_1, .slice a0_2 m0.fAsked.length c0_2] := hbxA0.under hG15
      replace hbxx0 : Bx w15 (w4.heap.size) [.slice ax0_0 m0.fReps.length cx0_0, .slice ax0_1 m0.fNet.length cx0_1, .slice ax0_2 m0.fAsked.length cx0_2] := hbxx0.under hG15
      have hoN := (ownS.frame oPair_good hog0 (fun b hb => hG15.block b (ownS.lt oPair_good hog0 b hb)))
      clear hog0
      have hog0 := hoN
      clear hoN
      have hoN := (ownS.frame oPair_good hok0 (fun b hb => hG15.block b (ownS.lt oPair_good hok0 b hb)))
      clear hok0
      have hok0 := hoN
      clear hoN
      replace hrs0 := (hrs0.below (hG15.mono hbs0))
      replace hbs0 := Nat.le_trans hbs0 hG15.size
      replace xbA0_0 : w15.cell? ⟨w.heap.size, 0, none⟩ = some (.slice a0_0 m0.fReps.length c0_0) := hbxA0.2 0 _ rfl
      replace xbA0_1 : w15.cell? ⟨w.heap.size, 1, none⟩ = some (.slice a0_1 m0.fNet.length c0_1) := hbxA0.2 1 _ rfl
      replace xbA0_2 : w15.cell? ⟨w.heap.size, 2, none⟩ = some (.slice a0_2 m0.fAsked.length c0_2) := hbxA0.2 2 _ rfl
      replace hlbA0 : w.heap.size < w15.heap.size := hbxA0.1
      replace xbx0_0 : w15.cell? ⟨w4.heap.size, 0, none⟩ = some (.slice ax0_0 m0.fReps.length cx0_0) := hbxx0.2 0 _ rfl
      replace xbx0_1 : w15.cell? ⟨w4.heap.size, 1, none⟩ = some (.slice ax0_1 m0.fNet.length cx0_1) := hbxx0.2 1 _ rfl
      replace xbx0_2 : w15.cell? ⟨w4.heap.size, 2, none⟩ = some (.slice ax0_2 m0.fAsked.length cx0_2) := hbxx0.2 2 _ rfl
      replace hlbx0 : w4.heap.size < w15.heap.size := hbxx0.1
      have hB15 : Below w.heap.size w w15 := bthen hB14 hG15
      clear hx15
      have hC := fun (W : World) (hb : Below w15.heap.size w15 W) => heldPairS_r _ mmg0 1 qg0 W (((rdPs_own hog0).below hb).mono hb.size) hhg0 (by omega) (by omega)
      go_wp2_with fail
      refine Calls.mono (hC _ ?_) ?_
      · repeat (first | with_reducible exact Below.refl _ _ | with_reducible assumption | with_reducible refine Below.drew ?_ | with_reducible refine Below.alloc ?_ (by first | exact Nat.le_refl _ | (simp; done) | (simp; omega)) _ | with_reducible refine Below.setCell ?_ (by simp) _)
      clear hC
      rintro e w16 ⟨rfl, hx16⟩
      have hZ16 : w15.heap.size ≤ w16.heap.size := by have h := hx16.size; first | exact h | (simp at h; omega)
      have hG16 : Below w15.heap.size w15 w16 := bthen (hx := hx16) (h := by repeat (first | with_reducible exact Below.refl _ _ | with_reducible assumption | with_reducible refine Below.drew ?_ | with_reducible refine Below.alloc ?_ (by first | exact Nat.le_refl _ | (simp; done) | (simp; omega)) _ | with_reducible refine Below.setCell ?_ (by simp) _))
      replace hbxA0 : Bx w16 (w.heap.size) [.slice a0_0 m0.fReps.length c0_0, .slice a0_1 m0.fNet.length c0_1, .slice a0_2 m0.fAsked.length c0_2] := hbxA0.under hG16
      replace hbxx0 : Bx w16 (w4.heap.size) [.slice ax0_0 m0.fReps.length cx0_0, .slice ax0_1 m0.fNet.length cx0_1, .slice ax0_2 m0.fAsked.length cx0_2] := hbxx0.under hG16
      have hoN := (ownS.frame oPair_good hog0 (fun b hb => hG16.block b (ownS.lt oPair_good hog0 b hb)))
      clear hog0
      have hog0 := hoN
      clear hoN
      have hoN := (ownS.frame oPair_good hok0 (fun b hb => hG16.block b (ownS.lt oPair_good hok0 b hb)))
      clear hok0
      have hok0 := hoN
      clear hoN
      replace hrs0 := (hrs0.below (hG16.mono hbs0))
      replace hbs0 := Nat.le_trans hbs0 hG16.size
      replace xbA0_0 : w16.cell? ⟨w.heap.size, 0, none⟩ = some (.slice a0_0 m0.fReps.length c0_0) := hbxA0.2 0 _ rfl
      replace xbA0_1 : w16.cell? ⟨w.heap.size, 1, none⟩ = some (.slice a0_1 m0.fNet.length c0_1) := hbxA0.2 1 _ rfl
      replace xbA0_2 : w16.cell? ⟨w.heap.size, 2, none⟩ = some (.slice a0_2 m0.fAsked.length c0_2) := hbxA0.2 2 _ rfl
      replace hlbA0 : w.heap.size < w16.heap.size := hbxA0.1
      replace xbx0_0 : w16.cell? ⟨w4.heap.size, 0, none⟩ = some (.slice ax0_0 m0.fReps.length cx0_0) := hbxx0.2 0 _ rfl
      replace xbx0_1 : w16.cell? ⟨w4.heap.size, 1, none⟩ = some (.slice ax0_1 m0.fNet.length cx0_1) := hbxx0.2 1 _ rfl
      replace xbx0_2 : w16.cell? ⟨w4.heap.size, 2, none⟩ = some (.slice ax0_2 m0.fAsked.length cx0_2) := hbxx0.2 2 _ rfl
      replace hlbx0 : w4.heap.size < w16.heap.size := hbxx0.1
      have hB16 : Below w.heap.size w w16 := bthen hB15 hG16
      clear hx16
      go_wp2_with fail
      go_ret
      exact ⟨rfl, by repeat (first | with_reducible exact Below.refl _ _ | with_reducible assumption | with_reducible refine Below.drew ?_ | with_reducible refine Below.alloc ?_ (by first | exact Nat.le_refl _ | (simp; done) | (simp; omega)) _ | with_reducible refine Below.setCell ?_ (by simp) _)⟩
  · rw [szRes_no hw0]
    go_wp2_with fail
    all_goals
      go_ret
      exact ⟨rfl, by repeat (first | with_reducible exact Below.refl _ _ | with_reducible assumption | with_reducible refine Below.drew ?_ | with_reducible refine Below.alloc ?_ (by first | exact Nat.le_refl _ | (simp; done) | (simp; omega)) _ | with_reducible refine Below.setCell ?_ (by simp) _)⟩

end Go.Proofs.Ytembioiaeimegaa
