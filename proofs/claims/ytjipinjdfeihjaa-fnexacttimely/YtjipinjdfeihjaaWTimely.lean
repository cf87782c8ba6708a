/-
  The exact law of Timely: at every cluster the program and the specification say the same.
-/
import Derived.Test.YtjipinjdfeihjaaUDatZ
import Derived.Test.YtjipinjdfeihjaaUDatT
import Derived.Test.YtjipinjdfeihjaaUDatE
import Derived.Test.YtjipinjdfeihjaaUTim
import Derived.Test.YtjipinjdfeihjaaUAll
namespace Go.Proofs.Ytjipinjdfeihjaa
open Go.RowKit
set_option linter.unusedVariables false
set_option linter.unusedSimpArgs false
set_option maxRecDepth 10000

theorem specTimely_c (cs : List Value) (m : MCluster) (w : World) (hr : rCluster w.heap.size w cs m) (hw : wCluster m ≤ 1048576) :
    Calls Try.prog 13 #[.agg cs.toArray] w fun e w' => e = .returned (.bool (timP m)) ∧ Below w.heap.size w w' := timS_any cs m w hr hw
theorem implTimely_c (cs : List Value) (m : MCluster) (w : World) (hr : rCluster w.heap.size w cs m) (hw : wCluster m ≤ 1048576) :
    Calls Try.prog 14 #[.agg cs.toArray] w fun e w' => e = .returned (.bool (timP m)) ∧ Below w.heap.size w w' := timI_any cs m w hr hw

set_option maxHeartbeats 4000000 in
theorem law_FnExactTimely (cs0 : List Value) (m0 : MCluster) (w : World) (hr0 : rCluster w.heap.size w cs0 m0) :
    Calls Try.prog 5 #[.agg cs0.toArray] w fun e w' => e = .returned (.bool true) ∧ Below w.heap.size w w' := by
  have hq0 := hr0
  obtain ⟨a0_0, c0_0, a0_1, c0_1, a0_2, c0_2, rfl, _⟩ := hq0
  go_enter Try.func5, Try.ntmps5
  have hC := fun (W : World) (hb : Below w.heap.size w W) => szCluster_any _ m0 (1048576) W (by omega) (by omega) (rCluster_good.mono (rCluster_good.below hr0 hb) hb.size)
  go_wp2_with fail
  refine Calls.mono (hC _ ?_) ?_
  · repeat (first | with_reducible exact Below.refl _ _ | with_reducible assumption | with_reducible refine Below.drew ?_ | with_reducible refine Below.alloc ?_ (by first | exact Nat.le_refl _ | (simp; done) | (simp; omega)) _ | with_reducible refine Below.setCell ?_ (by simp) _)
  clear hC
  rintro e w1 ⟨rfl, hx1⟩
  have hZ1 : w.heap.size + 1 ≤ w1.heap.size := by have h := hx1.size; first | exact h | (simp at h; omega)
  have hG1 : Below w.heap.size w w1 := bthen (hx := hx1) (h := by repeat (first | with_reducible exact Below.refl _ _ | with_reducible assumption | with_reducible refine Below.drew ?_ | with_reducible refine Below.alloc ?_ (by first | exact Nat.le_refl _ | (simp; done) | (simp; omega)) _ | with_reducible refine Below.setCell ?_ (by simp) _))
  have hbxA0 : Bx w1 (w.heap.size) [.slice a0_0 m0.fReps.length c0_0, .slice a0_1 m0.fNet.length c0_1, .slice a0_2 m0.fAsked.length c0_2] := (Bx.new _ [.slice a0_0 m0.fReps.length c0_0, .slice a0_1 m0.fNet.length c0_1, .slice a0_2 m0.fAsked.length c0_2] _).under hx1
  have xbA0_0 : w1.cell? ⟨w.heap.size, 0, none⟩ = some (.slice a0_0 m0.fReps.length c0_0) := hbxA0.2 0 _ rfl
  have xbA0_1 : w1.cell? ⟨w.heap.size, 1, none⟩ = some (.slice a0_1 m0.fNet.length c0_1) := hbxA0.2 1 _ rfl
  have xbA0_2 : w1.cell? ⟨w.heap.size, 2, none⟩ = some (.slice a0_2 m0.fAsked.length c0_2) := hbxA0.2 2 _ rfl
  have hlbA0 : w.heap.size < w1.heap.size := hbxA0.1
  have hB1 : Below w.heap.size w w1 := hG1
  clear hx1
  by_cases hw0 : ((wCluster m0 : Nat) : Int) ≤ 1048576
  · rw [szRes_yes hw0]
    have hwn0 : wCluster m0 ≤ 1048576 := by omega
    skip
    obtain ⟨R0, hR0⟩ : ∃ R : Bool, R = timP m0 := ⟨_, rfl⟩
    have HR0 := Hid.mk hR0
    clear hR0
    have hC := fun (W : World) (hb : Below w1.heap.size w1 W) => toCluster_any _ m0 W (rCluster_good.mono (rCluster_good.below hr0 (bthen hB1 hb)) (bthen hB1 hb).size) hwn0
    go_wp2_with fail
    refine Calls.mono (hC _ ?_) ?_
    · repeat (first | with_reducible exact Below.refl _ _ | with_reducible assumption | with_reducible refine Below.drew ?_ | with_reducible refine Below.alloc ?_ (by first | exact Nat.le_refl _ | (simp; done) | (simp; omega)) _ | with_reducible refine Below.setCell ?_ (by simp) _)
    clear hC
    rintro e w2 ⟨vp0, Fp0, rfl, hop0, hNp0, hgep0, hx2⟩
    have hZ2 : w1.heap.size ≤ w2.heap.size := by have h := hx2.size; first | exact h | (simp at h; omega)
    have hgep0o : ∀ b, b ∈ Fp0 → w1.heap.size ≤ b := fun b hb => by have h := hgep0 b hb; first | exact h | (simp at h; omega)
    clear hgep0
    have hG2 : Below w1.heap.size w1 w2 := bthen (hx := hx2) (h := by repeat (first | with_reducible exact Below.refl _ _ | with_reducible assumption | with_reducible refine Below.drew ?_ | with_reducible refine Below.alloc ?_ (by first | exact Nat.le_refl _ | (simp; done) | (simp; omega)) _ | with_reducible refine Below.setCell ?_ (by simp) _))
    replace hbxA0 : Bx w2 (w.heap.size) [.slice a0_0 m0.fReps.length c0_0, .slice a0_1 m0.fNet.length c0_1, .slice a0_2 m0.fAsked.length c0_2] := hbxA0.under hG2
    replace xbA0_0 : w2.cell? ⟨w.heap.size, 0, none⟩ = some (.slice a0_0 m0.fReps.length c0_0) := hbxA0.2 0 _ rfl
    replace xbA0_1 : w2.cell? ⟨w.heap.size, 1, none⟩ = some (.slice a0_1 m0.fNet.length c0_1) := hbxA0.2 1 _ rfl
    replace xbA0_2 : w2.cell? ⟨w.heap.size, 2, none⟩ = some (.slice a0_2 m0.fAsked.length c0_2) := hbxA0.2 2 _ rfl
    replace hlbA0 : w.heap.size < w2.heap.size := hbxA0.1
    have hB2 : Below w.heap.size w w2 := bthen hB1 hG2
    clear hx2
    have hltp0 : ∀ b, b ∈ Fp0 → b < w2.heap.size := fun b hb => oCluster_good.lt hop0 b hb
    have hC := fun (W : World) (hb : Below w2.heap.size w2 W) => specTimely_c _ m0 W (rCluster_good.mono (rCluster_good.below (oCluster_good.read hop0) hb) hb.size) hwn0
    go_wp2_with fail
    refine Calls.mono (hC _ ?_) ?_
    · repeat (first | with_reducible exact Below.refl _ _ | with_reducible assumption | with_reducible refine Below.drew ?_ | with_reducible refine Below.alloc ?_ (by first | exact Nat.le_refl _ | (simp; done) | (simp; omega)) _ | with_reducible refine Below.setCell ?_ (by simp) _)
    clear hC
    rintro e w3 ⟨he, hx3⟩
    have hZ3 : w2.heap.size ≤ w3.heap.size := by have h := hx3.size; first | exact h | (simp at h; omega)
    rw [← HR0.out] at he
    subst he
    have hG3 : Below w2.heap.size w2 w3 := bthen (hx := hx3) (h := by repeat (first | with_reducible exact Below.refl _ _ | with_reducible assumption | with_reducible refine Below.drew ?_ | with_reducible refine Below.alloc ?_ (by first | exact Nat.le_refl _ | (simp; done) | (simp; omega)) _ | with_reducible refine Below.setCell ?_ (by simp) _))
    replace hbxA0 : Bx w3 (w.heap.size) [.slice a0_0 m0.fReps.length c0_0, .slice a0_1 m0.fNet.length c0_1, .slice a0_2 m0.fAsked.length c0_2] := hbxA0.under hG3
    have hoN := (oCluster_good.frame hop0 (fun b hb => hG3.block b (oCluster_good.lt hop0 b hb)))
    clear hop0
    have hop0 := hoN
    clear hoN
    replace xbA0_0 : w3.cell? ⟨w.heap.size, 0, none⟩ = some (.slice a0_0 m0.fReps.length c0_0) := hbxA0.2 0 _ rfl
    replace xbA0_1 : w3.cell? ⟨w.heap.size, 1, none⟩ = some (.slice a0_1 m0.fNet.length c0_1) := hbxA0.2 1 _ rfl
    replace xbA0_2 : w3.cell? ⟨w.heap.size, 2, none⟩ = some (.slice a0_2 m0.fAsked.length c0_2) := hbxA0.2 2 _ rfl
    replace hlbA0 : w.heap.size < w3.heap.size := hbxA0.1
    have hB3 : Below w.heap.size w w3 := bthen hB2 hG3
    clear hx3
    clear hop0 hNp0 hgep0o hltp0
    have hC := fun (W : World) (hb : Below w3.heap.size w3 W) => toCluster_any _ m0 W (rCluster_good.mono (rCluster_good.below hr0 (bthen hB3 hb)) (bthen hB3 hb).size) hwn0
    go_wp2_with fail
    refine Calls.mono (hC _ ?_) ?_
    · repeat (first | with_reducible exact Below.refl _ _ | with_reducible assumption | with_reducible refine Below.drew ?_ | with_reducible refine Below.alloc ?_ (by first | exact Nat.le_refl _ | (simp; done) | (simp; omega)) _ | with_reducible refine Below.setCell ?_ (by simp) _)
    clear hC
    rintro e w4 ⟨vx0, Fx0, rfl, hox0, hNx0, hgex0, hx4⟩
    have hZ4 : w3.heap.size ≤ w4.heap.size := by have h := hx4.size; first | exact h | (simp at h; omega)
    have hgex0o : ∀ b, b ∈ Fx0 → w3.heap.size ≤ b := fun b hb => by have h := hgex0 b hb; first | exact h | (simp at h; omega)
    clear hgex0
    have hG4 : Below w3.heap.size w3 w4 := bthen (hx := hx4) (h := by repeat (first | with_reducible exact Below.refl _ _ | with_reducible assumption | with_reducible refine Below.drew ?_ | with_reducible refine Below.alloc ?_ (by first | exact Nat.le_refl _ | (simp; done) | (simp; omega)) _ | with_reducible refine Below.setCell ?_ (by simp) _))
    replace hbxA0 : Bx w4 (w.heap.size) [.slice a0_0 m0.fReps.length c0_0, .slice a0_1 m0.fNet.length c0_1, .slice a0_2 m0.fAsked.length c0_2] := hbxA0.under hG4
    replace xbA0_0 : w4.cell? ⟨w.heap.size, 0, none⟩ = some (.slice a0_0 m0.fReps.length c0_0) := hbxA0.2 0 _ rfl
    replace xbA0_1 : w4.cell? ⟨w.heap.size, 1, none⟩ = some (.slice a0_1 m0.fNet.length c0_1) := hbxA0.2 1 _ rfl
    replace xbA0_2 : w4.cell? ⟨w.heap.size, 2, none⟩ = some (.slice a0_2 m0.fAsked.length c0_2) := hbxA0.2 2 _ rfl
    replace hlbA0 : w.heap.size < w4.heap.size := hbxA0.1
    have hB4 : Below w.heap.size w w4 := bthen hB3 hG4
    clear hx4
    have hltx0 : ∀ b, b ∈ Fx0 → b < w4.heap.size := fun b hb => oCluster_good.lt hox0 b hb
    have hq := (oCluster_good.read hox0)
    obtain ⟨ax0_0, cx0_0, ax0_1, cx0_1, ax0_2, cx0_2, rfl, _⟩ := hq
    have hC := fun (W : World) (hb : Below w4.heap.size w4 W) => implTimely_c _ m0 W (rCluster_good.mono (rCluster_good.below (oCluster_good.read hox0) hb) hb.size) hwn0
    go_wp2_with fail
    refine Calls.mono (hC _ ?_) ?_
    · repeat (first | with_reducible exact Below.refl _ _ | with_reducible assumption | with_reducible refine Below.drew ?_ | with_reducible refine Below.alloc ?_ (by first | exact Nat.le_refl _ | (simp; done) | (simp; omega)) _ | with_reducible refine Below.setCell ?_ (by simp) _)
    clear hC
    rintro e w5 ⟨he, hx5⟩
    have hZ5 : w4.heap.size + 1 ≤ w5.heap.size := by have h := hx5.size; first | exact h | (simp at h; omega)
    rw [← HR0.out] at he
    subst he
    have hG5 : Below w4.heap.size w4 w5 := bthen (hx := hx5) (h := by repeat (first | with_reducible exact Below.refl _ _ | with_reducible assumption | with_reducible refine Below.drew ?_ | with_reducible refine Below.alloc ?_ (by first | exact Nat.le_refl _ | (simp; done) | (simp; omega)) _ | with_reducible refine Below.setCell ?_ (by simp) _))
    replace hbxA0 : Bx w5 (w.heap.size) [.slice a0_0 m0.fReps.length c0_0, .slice a0_1 m0.fNet.length c0_1, .slice a0_2 m0.fAsked.length c0_2] := hbxA0.under hG5
    have hoN := (oCluster_good.frame hox0 (fun b hb => hG5.block b (oCluster_good.lt hox0 b hb)))
    clear hox0
    have hox0 := hoN
    clear hoN
    have hbxx0 : Bx w5 (w4.heap.size) [.slice ax0_0 m0.fReps.length cx0_0, .slice ax0_1 m0.fNet.length cx0_1, .slice ax0_2 m0.fAsked.length cx0_2] := (Bx.new _ [.slice ax0_0 m0.fReps.length cx0_0, .slice ax0_1 m0.fNet.length cx0_1, .slice ax0_2 m0.fAsked.length cx0_2] _).under hx5
    replace xbA0_0 : w5.cell? ⟨w.heap.size, 0, none⟩ = some (.slice a0_0 m0.fReps.length c0_0) := hbxA0.2 0 _ rfl
    replace xbA0_1 : w5.cell? ⟨w.heap.size, 1, none⟩ = some (.slice a0_1 m0.fNet.length c0_1) := hbxA0.2 1 _ rfl
    replace xbA0_2 : w5.cell? ⟨w.heap.size, 2, none⟩ = some (.slice a0_2 m0.fAsked.length c0_2) := hbxA0.2 2 _ rfl
    replace hlbA0 : w.heap.size < w5.heap.size := hbxA0.1
    have xbx0_0 : w5.cell? ⟨w4.heap.size, 0, none⟩ = some (.slice ax0_0 m0.fReps.length cx0_0) := hbxx0.2 0 _ rfl
    have xbx0_1 : w5.cell? ⟨w4.heap.size, 1, none⟩ = some (.slice ax0_1 m0.fNet.length cx0_1) := hbxx0.2 1 _ rfl
    have xbx0_2 : w5.cell? ⟨w4.heap.size, 2, none⟩ = some (.slice ax0_2 m0.fAsked.length cx0_2) := hbxx0.2 2 _ rfl
    have hlbx0 : w4.heap.size < w5.heap.size := hbxx0.1
    have hB5 : Below w.heap.size w w5 := bthen hB4 hG5
    clear hx5
    have hC1 := fun (W : World) (hb : Below w5.heap.size w5 W) => toCluster_any _ m0 W (rCluster_good.mono (rCluster_good.below hr0 (bthen hB5 hb)) (bthen hB5 hb).size) hwn0
    have hC2 := fun (W W2 : World) (v2 : List Value) (F2 : List Nat) (hb : Below w5.heap.size w5 W) (hb2 : Below W.heap.size W W2) (ho2 : oCluster W2 v2 m0 F2) => eqCluster_yes _ v2 m0 W2 (rCluster_good.mono (rCluster_good.below (oCluster_good.read hox0) (bthen hb hb2)) (bthen hb hb2).size) (oCluster_good.read ho2) (by omega)
    go_wp2_with fail
    go_region_with (first | (go_at_call 8; refine Calls.mono (hC1 _ ?_) ?_; exact (by repeat (first | with_reducible exact Below.refl _ _ | with_reducible assumption | with_reducible refine Below.drew ?_ | with_reducible refine Below.alloc ?_ (by first | exact Nat.le_refl _ | (simp; done) | (simp; omega)) _ | with_reducible refine Below.setCell ?_ (by simp) _)); rintro e w6 ⟨vt0, Ft0, rfl, hot0, hNt0, hget0, hx6⟩; have hG6 : Below w5.heap.size w5 w6 := bthen (hx := hx6) (h := by repeat (first | with_reducible exact Below.refl _ _ | with_reducible assumption | with_reducible refine Below.drew ?_ | with_reducible refine Below.alloc ?_ (by first | exact Nat.le_refl _ | (simp; done) | (simp; omega)) _ | with_reducible refine Below.setCell ?_ (by simp) _)); obtain ⟨at0_0, ct0_0, at0_1, ct0_1, at0_2, ct0_2, rfl, _⟩ := id (oCluster_good.read hot0); have hbtA0 : Bx w6 (w.heap.size) [.slice a0_0 m0.fReps.length c0_0, .slice a0_1 m0.fNet.length c0_1, .slice a0_2 m0.fAsked.length c0_2] := hbxA0.under hG6; have xtA0_0 : w6.cell? ⟨w.heap.size, 0, none⟩ = some (.slice a0_0 m0.fReps.length c0_0) := hbtA0.2 0 _ rfl; have xtA0_1 : w6.cell? ⟨w.heap.size, 1, none⟩ = some (.slice a0_1 m0.fNet.length c0_1) := hbtA0.2 1 _ rfl; have xtA0_2 : w6.cell? ⟨w.heap.size, 2, none⟩ = some (.slice a0_2 m0.fAsked.length c0_2) := hbtA0.2 2 _ rfl; have hbtx0 : Bx w6 (w4.heap.size) [.slice ax0_0 m0.fReps.length cx0_0, .slice ax0_1 m0.fNet.length cx0_1, .slice ax0_2 m0.fAsked.length cx0_2] := hbxx0.under hG6; have xtx0_0 : w6.cell? ⟨w4.heap.size, 0, none⟩ = some (.slice ax0_0 m0.fReps.length cx0_0) := hbtx0.2 0 _ rfl; have xtx0_1 : w6.cell? ⟨w4.heap.size, 1, none⟩ = some (.slice ax0_1 m0.fNet.length cx0_1) := hbtx0.2 1 _ rfl; have xtx0_2 : w6.cell? ⟨w4.heap.size, 2, none⟩ = some (.slice ax0_2 m0.fAsked.length cx0_2) := hbtx0.2 2 _ rfl) | (go_at_call 10; refine Calls.mono (hC2 _ _ _ _ (Below.refl _ _) hG6 hot0) ?_; rintro e w7 ⟨rfl, hx7⟩))
    all_goals
      have hZ6 : w5.heap.size ≤ w6.heap.size := by have h := hx6.size; first | exact h | (simp at h; omega)
      have hZ7 : w6.heap.size ≤ w7.heap.size := hx7.size
      have hGG7 : Below w5.heap.size w5 w7 := bthen hG6 hx7
      replace hbxA0 : Bx w7 (w.heap.size) [.slice a0_0 m0.fReps.length c0_0, .slice a0_1 m0.fNet.length c0_1, .slice a0_2 m0.fAsked.length c0_2] := hbxA0.under hGG7
      replace hbxx0 : Bx w7 (w4.heap.size) [.slice ax0_0 m0.fReps.length cx0_0, .slice ax0_1 m0.fNet.length cx0_1, .slice ax0_2 m0.fAsked.length cx0_2] := hbxx0.under hGG7
      have hoN := (oCluster_good.frame hox0 (fun b hb => hGG7.block b (oCluster_good.lt hox0 b hb)))
      clear hox0
      have hox0 := hoN
      clear hoN
      replace xbA0_0 : w7.cell? ⟨w.heap.size, 0, none⟩ = some (.slice a0_0 m0.fReps.length c0_0) := hbxA0.2 0 _ rfl
      replace xbA0_1 : w7.cell? ⟨w.heap.size, 1, none⟩ = some (.slice a0_1 m0.fNet.length c0_1) := hbxA0.2 1 _ rfl
      replace xbA0_2 : w7.cell? ⟨w.heap.size, 2, none⟩ = some (.slice a0_2 m0.fAsked.length c0_2) := hbxA0.2 2 _ rfl
      replace hlbA0 : w.heap.size < w7.heap.size := hbxA0.1
      replace xbx0_0 : w7.cell? ⟨w4.heap.size, 0, none⟩ = some (.slice ax0_0 m0.fReps.length cx0_0) := hbxx0.2 0 _ rfl
      replace xbx0_1 : w7.cell? ⟨w4.heap.size, 1, none⟩ = some (.slice ax0_1 m0.fNet.length cx0_1) := hbxx0.2 1 _ rfl
      replace xbx0_2 : w7.cell? ⟨w4.heap.size, 2, none⟩ = some (.slice ax0_2 m0.fAsked.length cx0_2) := hbxx0.2 2 _ rfl
      replace hlbx0 : w4.heap.size < w7.heap.size := hbxx0.1
      have hB7 : Below w.heap.size w w7 := bthen hB5 hGG7
      clear hx6 hx7 hC1 hC2 hot0 hNt0 hget0
      go_wp2_with fail
      go_ret
      exact ⟨rfl, by repeat (first | with_reducible exact Below.refl _ _ | with_reducible assumption | with_reducible refine Below.drew ?_ | with_reducible refine Below.alloc ?_ (by first | exact Nat.le_refl _ | (simp; done) | (simp; omega)) _ | with_reducible refine Below.setCell ?_ (by simp) _)⟩
  · rw [szRes_no hw0]
    go_wp2_with fail
    all_goals
      go_ret
      exact ⟨rfl, by repeat (first | with_reducible exact Below.refl _ _ | with_reducible assumption | with_reducible refine Below.drew ?_ | with_reducible refine Below.alloc ?_ (by first | exact Nat.le_refl _ | (simp; done) | (simp; omega)) _ | with_reducible refine Below.setCell ?_ (by simp) _)⟩

end Go.Proofs.Ytjipinjdfeihjaa
