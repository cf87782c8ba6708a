/-
  The exact law of Records: at all bytes both answer the same bodies, in memory of their own, and the same place.
-/
import Derived.Test.YtiahmcclmlmgpaaDoorRecC
namespace Go.Proofs.YtiahmcclmlmgpaaDoor
open Go.RowKit
set_option linter.unusedVariables false
set_option linter.unusedSimpArgs false
set_option maxRecDepth 10000

set_option maxHeartbeats 4000000 in
theorem law_FnExactRecords (cs0 : Value) (m0 : List Int) (w : World) (hr0 : rdB w.heap.size w cs0 m0) (hT : TabAt w) :
    Calls Tryd.prog 6 #[cs0] w fun e w' => e = .returned (.bool true) ∧ Below w.heap.size w w' := by
  have hsz : 0 < w.heap.size := hT.size
  obtain ⟨a0, c0, rfl, hlf0⟩ := hr0
  have hr0 : rdB w.heap.size w (.slice a0 m0.length c0) m0 := ⟨_, _, rfl, hlf0⟩
  have hl0 : m0.length ≤ 9223372036854775807 := Nat.le_trans hlf0.1 hlf0.2.1
  have hbo0 := hlf0.2.2.2
  clear hlf0
  by_cases hbig0 : 1048576 < m0.length
  · go_enter Tryd.func6, Tryd.ntmps6
    go_wp2_with fail
    all_goals
      go_ret
      exact ⟨rfl, by repeat (first | with_reducible exact Below.refl _ _ | with_reducible assumption | with_reducible refine Below.drew ?_ | with_reducible refine Below.alloc ?_ (by first | exact Nat.le_refl _ | (simp; omega)) _ | with_reducible refine Below.setCell ?_ (by simp) _)⟩
  go_enter Tryd.func6, Tryd.ntmps6
  have hwn0 : m0.length ≤ 1048576 := by omega
  obtain ⟨R0, hR0⟩ : ∃ R : List (List Int), R = (recsP m0).1 := ⟨_, rfl⟩
  have hRw0 : wBs R0 ≤ 1099511627776 := by rw [hR0]; exact boundRecords_0 m0 hbo0 hwn0
  have hRc0 := tcntBs_le R0
  have HR0 := Hid.mk hR0
  clear hR0
  obtain ⟨R1, hR1⟩ : ∃ R : Int, R = (recsP m0).2 := ⟨_, rfl⟩
  have HR1 := Hid.mk hR1
  clear hR1
  have hC := fun (W : World) (hb : Below w.heap.size w W) => toByteS_r _ m0 W ((hr0.below hb).mono hb.size) hwn0
  go_wp2_with fail
  refine Calls.mono (hC _ ?_) ?_
  · repeat (first | with_reducible exact Below.refl _ _ | with_reducible assumption | with_reducible refine Below.drew ?_ | with_reducible refine Below.alloc ?_ (by first | exact Nat.le_refl _ | (simp; omega)) _ | with_reducible refine Below.setCell ?_ (by simp) _)
  clear hC
  rintro e w1 ⟨vp0, Fp0, rfl, hop0, hNp0, hgep0, hx1⟩
  have hZ1 : w.heap.size ≤ w1.heap.size := by have h := hx1.size; first | exact h | (simp at h; omega)
  have hgep0o : ∀ b, b ∈ Fp0 → w.heap.size ≤ b := fun b hb => by have h := hgep0 b hb; first | exact h | (simp at h; omega)
  clear hgep0
  have hG1 : Below w.heap.size w w1 := bthen (hx := hx1) (h := by repeat (first | with_reducible exact Below.refl _ _ | with_reducible assumption | with_reducible refine Below.drew ?_ | with_reducible refine Below.alloc ?_ (by first | exact Nat.le_refl _ | (simp; omega)) _ | with_reducible refine Below.setCell ?_ (by simp) _))
  have hB1 : Below w.heap.size w w1 := hG1
  clear hx1
  have hltp0 : ∀ b, b ∈ Fp0 → b < w1.heap.size := fun b hb => hop0.lt b hb
  have hC := fun (W : World) (hb : Below w1.heap.size w1 W) => specRecords_c _ m0 W (((rdB_own hop0).below hb).mono hb.size) hwn0 (hT.below (bthen hB1 hb) hsz)
  go_wp2_with fail
  refine Calls.mono (hC _ ?_) ?_
  · repeat (first | with_reducible exact Below.refl _ _ | with_reducible assumption | with_reducible refine Below.drew ?_ | with_reducible refine Below.alloc ?_ (by first | exact Nat.le_refl _ | (simp; omega)) _ | with_reducible refine Below.setCell ?_ (by simp) _)
  clear hC
  rintro e w2 ⟨vs0, he, hrs0, hx2⟩
  have hZ2 : w1.heap.size ≤ w2.heap.size := by have h := hx2.size; first | exact h | (simp at h; omega)
  rw [← HR0.out] at hrs0
  rw [← HR1.out] at he
  subst he
  have hG2 : Below w1.heap.size w1 w2 := bthen (hx := hx2) (h := by repeat (first | with_reducible exact Below.refl _ _ | with_reducible assumption | with_reducible refine Below.drew ?_ | with_reducible refine Below.alloc ?_ (by first | exact Nat.le_refl _ | (simp; omega)) _ | with_reducible refine Below.setCell ?_ (by simp) _))
  have hoN := (hop0.frame (fun b hb => hG2.block b (hop0.lt b hb)))
  clear hop0
  have hop0 := hoN
  clear hoN
  have hB2 : Below w.heap.size w w2 := bthen hB1 hG2
  clear hx2
  clear hop0 hNp0 hgep0o hltp0
  obtain ⟨as0, cs0, rfl, _⟩ := id (hrs0)
  have hbs0 : w2.heap.size ≤ w2.heap.size := Nat.le_refl _
  have hC := fun (W : World) (hb : Below w2.heap.size w2 W) => toByteS_r _ m0 W ((hr0.below (bthen hB2 hb)).mono (bthen hB2 hb).size) hwn0
  go_wp2_with fail
  refine Calls.mono (hC _ ?_) ?_
  · repeat (first | with_reducible exact Below.refl _ _ | with_reducible assumption | with_reducible refine Below.drew ?_ | with_reducible refine Below.alloc ?_ (by first | exact Nat.le_refl _ | (simp; omega)) _ | with_reducible refine Below.setCell ?_ (by simp) _)
  clear hC
  rintro e w3 ⟨vx0, Fx0, rfl, hox0, hNx0, hgex0, hx3⟩
  have hZ3 : w2.heap.size ≤ w3.heap.size := by have h := hx3.size; first | exact h | (simp at h; omega)
  have hgex0o : ∀ b, b ∈ Fx0 → w2.heap.size ≤ b := fun b hb => by have h := hgex0 b hb; first | exact h | (simp at h; omega)
  clear hgex0
  have hG3 : Below w2.heap.size w2 w3 := bthen (hx := hx3) (h := by repeat (first | with_reducible exact Below.refl _ _ | with_reducible assumption | with_reducible refine Below.drew ?_ | with_reducible refine Below.alloc ?_ (by first | exact Nat.le_refl _ | (simp; omega)) _ | with_reducible refine Below.setCell ?_ (by simp) _))
  replace hrs0 := (hrs0.below (hG3.mono hbs0))
  replace hbs0 := Nat.le_trans hbs0 hG3.size
  have hB3 : Below w.heap.size w w3 := bthen hB2 hG3
  clear hx3
  have hltx0 : ∀ b, b ∈ Fx0 → b < w3.heap.size := fun b hb => hox0.lt b hb
  have hC := fun (W : World) (hb : Below w3.heap.size w3 W) => implRecords_c _ m0 W (((rdB_own hox0).below hb).mono hb.size) hwn0 (hT.below (bthen hB3 hb) hsz)
  go_wp2_with fail
  refine Calls.mono (hC _ ?_) ?_
  · repeat (first | with_reducible exact Below.refl _ _ | with_reducible assumption | with_reducible refine Below.drew ?_ | with_reducible refine Below.alloc ?_ (by first | exact Nat.le_refl _ | (simp; omega)) _ | with_reducible refine Below.setCell ?_ (by simp) _)
  clear hC
  rintro e w4 ⟨vg0, Fg0, he, hog0, hNg0, hgeg0, hx4⟩
  have hZ4 : w3.heap.size ≤ w4.heap.size := by have h := hx4.size; first | exact h | (simp at h; omega)
  rw [← HR0.out] at hog0
  have hgeg0o : ∀ b, b ∈ Fg0 → w3.heap.size ≤ b := fun b hb => by have h := hgeg0 b hb; first | exact h | (simp at h; omega)
  clear hgeg0
  rw [← HR1.out] at he
  subst he
  have hG4 : Below w3.heap.size w3 w4 := bthen (hx := hx4) (h := by repeat (first | with_reducible exact Below.refl _ _ | with_reducible assumption | with_reducible refine Below.drew ?_ | with_reducible refine Below.alloc ?_ (by first | exact Nat.le_refl _ | (simp; omega)) _ | with_reducible refine Below.setCell ?_ (by simp) _))
  have hoN := (hox0.frame (fun b hb => hG4.block b (hox0.lt b hb)))
  clear hox0
  have hox0 := hoN
  clear hoN
  replace hrs0 := (hrs0.below (hG4.mono hbs0))
  replace hbs0 := Nat.le_trans hbs0 hG4.size
  have hB4 : Below w.heap.size w w4 := bthen hB3 hG4
  clear hx4
  have hltg0 : ∀ b, b ∈ Fg0 → b < w4.heap.size := fun b hb => ownS.lt oBy_good hog0 b hb
  obtain ⟨ag0, cg0, rfl, _⟩ := id ((rdBs_own hog0))
  have hC := fun (W : World) (hb : Below w4.heap.size w4 W) => eqByteSS_yes_r _ _ R0 W (((rdBs_own hog0).below hb).mono hb.size) ((hrs0.below (hb.mono hbs0)).mono (Nat.le_trans hbs0 hb.size)) (by omega)
  go_wp2_with fail
  refine Calls.mono (hC _ ?_) ?_
  · repeat (first | with_reducible exact Below.refl _ _ | with_reducible assumption | with_reducible refine Below.drew ?_ | with_reducible refine Below.alloc ?_ (by first | exact Nat.le_refl _ | (simp; omega)) _ | with_reducible refine Below.setCell ?_ (by simp) _)
  clear hC
  rintro e w5 ⟨rfl, hx5⟩
  have hZ5 : w4.heap.size ≤ w5.heap.size := by have h := hx5.size; first | exact h | (simp at h; omega)
  have hG5 : Below w4.heap.size w4 w5 := bthen (hx := hx5) (h := by repeat (first | with_reducible exact Below.refl _ _ | with_reducible assumption | with_reducible refine Below.drew ?_ | with_reducible refine Below.alloc ?_ (by first | exact Nat.le_refl _ | (simp; omega)) _ | with_reducible refine Below.setCell ?_ (by simp) _))
  have hoN := (hox0.frame (fun b hb => hG5.block b (hox0.lt b hb)))
  clear hox0
  have hox0 := hoN
  clear hoN
  have hoN := (ownS.frame oBy_good hog0 (fun b hb => hG5.block b (ownS.lt oBy_good hog0 b hb)))
  clear hog0
  have hog0 := hoN
  clear hoN
  replace hrs0 := (hrs0.below (hG5.mono hbs0))
  replace hbs0 := Nat.le_trans hbs0 hG5.size
  have hB5 : Below w.heap.size w w5 := bthen hB4 hG5
  clear hx5
  have hC1 := fun (W : World) (hb : Below w5.heap.size w5 W) => toByteS_r _ m0 W ((hr0.below (bthen hB5 hb)).mono (bthen hB5 hb).size) hwn0
  have hC2 := fun (W W2 : World) (v2 : Value) (F2 : List Nat) (hb : Below w5.heap.size w5 W) (hb2 : Below W.heap.size W W2) (ho2 : ownB 5 W2 v2 m0 F2) => eqByteS_yes_r _ v2 m0 W2 (((rdB_own hox0).below (bthen hb hb2)).mono (bthen hb hb2).size) (rdB_own ho2) (by omega)
  go_wp2_with fail
  refine Calls.mono (hC1 _ ?_) ?_
  exact (by repeat (first | with_reducible exact Below.refl _ _ | with_reducible assumption | with_reducible refine Below.drew ?_ | with_reducible refine Below.alloc ?_ (by first | exact Nat.le_refl _ | (simp; omega)) _ | with_reducible refine Below.setCell ?_ (by simp) _))
  rintro e w6 ⟨vt0, Ft0, rfl, hot0, hNt0, hget0, hx6⟩
  have hG6 : Below w5.heap.size w5 w6 := bthen (hx := hx6) (h := by repeat (first | with_reducible exact Below.refl _ _ | with_reducible assumption | with_reducible refine Below.drew ?_ | with_reducible refine Below.alloc ?_ (by first | exact Nat.le_refl _ | (simp; omega)) _ | with_reducible refine Below.setCell ?_ (by simp) _))
  obtain ⟨at0, ct0, rfl, _⟩ := id (rdB_own hot0)
  go_wp2_with fail
  refine Calls.mono (hC2 _ _ _ _ (Below.refl _ _) hG6 hot0) ?_
  rintro e w7 ⟨rfl, hx7⟩
  have hZ6 : w5.heap.size ≤ w6.heap.size := by have h := hx6.size; first | exact h | (simp at h; omega)
  have hZ7 : w6.heap.size ≤ w7.heap.size := hx7.size
  have hGG7 : Below w5.heap.size w5 w7 := bthen hG6 hx7
  have hoN := (hox0.frame (fun b hb => hGG7.block b (hox0.lt b hb)))
  clear hox0
  have hox0 := hoN
  clear hoN
  have hoN := (ownS.frame oBy_good hog0 (fun b hb => hGG7.block b (ownS.lt oBy_good hog0 b hb)))
  clear hog0
  have hog0 := hoN
  clear hoN
  replace hrs0 := (hrs0.below (hGG7.mono hbs0))
  replace hbs0 := Nat.le_trans hbs0 hGG7.size
  have hB7 : Below w.heap.size w w7 := bthen hB5 hGG7
  clear hx6 hx7 hC1 hC2 hot0 hNt0 hget0
  have hC := fun (W : World) (hb : Below w7.heap.size w7 W) => markByteS_r _ m0 Fx0 1 W (by omega) (by omega) (hox0.frame (fun b hb2 => hb.block b (hox0.lt b hb2))) hNx0
  go_wp2_with fail
  refine Calls.mono (hC _ ?_) ?_
  · repeat (first | with_reducible exact Below.refl _ _ | with_reducible assumption | with_reducible refine Below.drew ?_ | with_reducible refine Below.alloc ?_ (by first | exact Nat.le_refl _ | (simp; omega)) _ | with_reducible refine Below.setCell ?_ (by simp) _)
  clear hC
  rintro e w8 ⟨mmx0, qx0, rfl, hqax0, hqbx0, homx0, hhx0, hx8⟩
  have hZ8 : w7.heap.size ≤ w8.heap.size := by have h := hx8.size; first | exact h | (simp at h; omega)
  have hG8 : Turn Fx0 w7 w8 := Turn.after (hx := hx8) (h := by repeat (first | with_reducible exact Below.refl _ _ | with_reducible assumption | with_reducible refine Below.drew ?_ | with_reducible refine Below.alloc ?_ (by first | exact Nat.le_refl _ | (simp; omega)) _ | with_reducible refine Below.setCell ?_ (by simp) _))
  have hoN := (ownS.frame oBy_good hog0 (fun b hb => hG8.block b (ownS.lt oBy_good hog0 b hb) (fun hm => by have h1 := hgex0o _ hm; have h2 := hltx0 _ hm; have h3 := hgeg0o _ hb; have h4 := hltg0 _ hb; omega)))
  clear hog0
  have hog0 := hoN
  clear hoN
  replace hrs0 := (hrs0.below (Turn.below hG8 (fun k hk => by have h1 := hgex0o _ hk; omega) hbs0))
  replace hbs0 := Nat.le_trans hbs0 hG8.size
  have hB8 : Below w.heap.size w w8 := Turn.under hB7 hG8 (fun k hk => by have h1 := hgex0o _ hk; have h2 := hB7.size; omega)
  clear hx8 hox0
  have hox0 := homx0
  clear homx0
  have hC := fun (W : World) (hb : Below w8.heap.size w8 W) => eqByteSS_yes_r _ _ R0 W (((rdBs_own hog0).below hb).mono hb.size) ((hrs0.below (hb.mono hbs0)).mono (Nat.le_trans hbs0 hb.size)) (by omega)
  go_wp2_with fail
  refine Calls.mono (hC _ ?_) ?_
  · repeat (first | with_reducible exact Below.refl _ _ | with_reducible assumption | with_reducible refine Below.drew ?_ | with_reducible refine Below.alloc ?_ (by first | exact Nat.le_refl _ | (simp; omega)) _ | with_reducible refine Below.setCell ?_ (by simp) _)
  clear hC
  rintro e w9 ⟨rfl, hx9⟩
  have hZ9 : w8.heap.size ≤ w9.heap.size := by have h := hx9.size; first | exact h | (simp at h; omega)
  have hG9 : Below w8.heap.size w8 w9 := bthen (hx := hx9) (h := by repeat (first | with_reducible exact Below.refl _ _ | with_reducible assumption | with_reducible refine Below.drew ?_ | with_reducible refine Below.alloc ?_ (by first | exact Nat.le_refl _ | (simp; omega)) _ | with_reducible refine Below.setCell ?_ (by simp) _))
  have hoN := (ownS.frame oBy_good hog0 (fun b hb => hG9.block b (ownS.lt oBy_good hog0 b hb)))
  clear hog0
  have hog0 := hoN
  clear hoN
  replace hrs0 := (hrs0.below (hG9.mono hbs0))
  replace hbs0 := Nat.le_trans hbs0 hG9.size
  have hB9 : Below w.heap.size w w9 := bthen hB8 hG9
  clear hx9
  have hC := fun (W : World) (hb : Below w9.heap.size w9 W) => markByteSS_r _ R0 Fg0 1 W (by omega) (by omega) (ownS.frame oBy_good hog0 (fun b hb2 => hb.block b (ownS.lt oBy_good hog0 b hb2))) hNg0
  go_wp2_with fail
  refine Calls.mono (hC _ ?_) ?_
  · repeat (first | with_reducible exact Below.refl _ _ | with_reducible assumption | with_reducible refine Below.drew ?_ | with_reducible refine Below.alloc ?_ (by first | exact Nat.le_refl _ | (simp; omega)) _ | with_reducible refine Below.setCell ?_ (by simp) _)
  clear hC
  rintro e w10 ⟨mmg0, qg0, rfl, hqag0, hqbg0, homg0, hhg0, hx10⟩
  have hZ10 : w9.heap.size ≤ w10.heap.size := by have h := hx10.size; first | exact h | (simp at h; omega)
  have hG10 : Turn Fg0 w9 w10 := Turn.after (hx := hx10) (h := by repeat (first | with_reducible exact Below.refl _ _ | with_reducible assumption | with_reducible refine Below.drew ?_ | with_reducible refine Below.alloc ?_ (by first | exact Nat.le_refl _ | (simp; omega)) _ | with_reducible refine Below.setCell ?_ (by simp) _))
  replace hrs0 := (hrs0.below (Turn.below hG10 (fun k hk => by have h1 := hgeg0o _ hk; omega) hbs0))
  replace hbs0 := Nat.le_trans hbs0 hG10.size
  have hB10 : Below w.heap.size w w10 := Turn.under hB9 hG10 (fun k hk => by have h1 := hgeg0o _ hk; have h2 := hB9.size; omega)
  clear hx10 hog0
  have hog0 := homg0
  clear homg0
  have hC := fun (W : World) (hb : Below w10.heap.size w10 W) => heldByteSS_r _ mmg0 1 qg0 W (((rdBs_own hog0).below hb).mono hb.size) hhg0 (by omega) (by omega)
  go_wp2_with fail
  refine Calls.mono (hC _ ?_) ?_
  · repeat (first | with_reducible exact Below.refl _ _ | with_reducible assumption | with_reducible refine Below.drew ?_ | with_reducible refine Below.alloc ?_ (by first | exact Nat.le_refl _ | (simp; omega)) _ | with_reducible refine Below.setCell ?_ (by simp) _)
  clear hC
  rintro e w11 ⟨rfl, hx11⟩
  have hZ11 : w10.heap.size ≤ w11.heap.size := by have h := hx11.size; first | exact h | (simp at h; omega)
  have hG11 : Below w10.heap.size w10 w11 := bthen (hx := hx11) (h := by repeat (first | with_reducible exact Below.refl _ _ | with_reducible assumption | with_reducible refine Below.drew ?_ | with_reducible refine Below.alloc ?_ (by first | exact Nat.le_refl _ | (simp; omega)) _ | with_reducible refine Below.setCell ?_ (by simp) _))
  have hoN := (ownS.frame oBy_good hog0 (fun b hb => hG11.block b (ownS.lt oBy_good hog0 b hb)))
  clear hog0
  have hog0 := hoN
  clear hoN
  replace hrs0 := (hrs0.below (hG11.mono hbs0))
  replace hbs0 := Nat.le_trans hbs0 hG11.size
  have hB11 : Below w.heap.size w w11 := bthen hB10 hG11
  clear hx11
  have hC := fun (W : World) (hb : Below w11.heap.size w11 W) => toByteS_r _ m0 W ((hr0.below (bthen hB11 hb)).mono (bthen hB11 hb).size) hwn0
  go_wp2_with fail
  refine Calls.mono (hC _ ?_) ?_
  · repeat (first | with_reducible exact Below.refl _ _ | with_reducible assumption | with_reducible refine Below.drew ?_ | with_reducible refine Below.alloc ?_ (by first | exact Nat.le_refl _ | (simp; omega)) _ | with_reducible refine Below.setCell ?_ (by simp) _)
  clear hC
  rintro e w12 ⟨vh0, Fh0, rfl, hoh0, hNh0, hgeh0, hx12⟩
  have hZ12 : w11.heap.size ≤ w12.heap.size := by have h := hx12.size; first | exact h | (simp at h; omega)
  have hgeh0o : ∀ b, b ∈ Fh0 → w11.heap.size ≤ b := fun b hb => by have h := hgeh0 b hb; first | exact h | (simp at h; omega)
  clear hgeh0
  have hG12 : Below w11.heap.size w11 w12 := bthen (hx := hx12) (h := by repeat (first | with_reducible exact Below.refl _ _ | with_reducible assumption | with_reducible refine Below.drew ?_ | with_reducible refine Below.alloc ?_ (by first | exact Nat.le_refl _ | (simp; omega)) _ | with_reducible refine Below.setCell ?_ (by simp) _))
  have hoN := (ownS.frame oBy_good hog0 (fun b hb => hG12.block b (ownS.lt oBy_good hog0 b hb)))
  clear hog0
  have hog0 := hoN
  clear hoN
  replace hrs0 := (hrs0.below (hG12.mono hbs0))
  replace hbs0 := Nat.le_trans hbs0 hG12.size
  have hB12 : Below w.heap.size w w12 := bthen hB11 hG12
  clear hx12
  have hlth0 : ∀ b, b ∈ Fh0 → b < w12.heap.size := fun b hb => hoh0.lt b hb
  have hC := fun (W : World) (hb : Below w12.heap.size w12 W) => implRecords_c _ m0 W (((rdB_own hoh0).below hb).mono hb.size) hwn0 (hT.below (bthen hB12 hb) hsz)
  go_wp2_with fail
  refine Calls.mono (hC _ ?_) ?_
  · repeat (first | with_reducible exact Below.refl _ _ | with_reducible assumption | with_reducible refine Below.drew ?_ | with_reducible refine Below.alloc ?_ (by first | exact Nat.le_refl _ | (simp; omega)) _ | with_reducible refine Below.setCell ?_ (by simp) _)
  clear hC
  rintro e w13 ⟨vk0, Fk0, he, hok0, hNk0, hgek0, hx13⟩
  have hZ13 : w12.heap.size ≤ w13.heap.size := by have h := hx13.size; first | exact h | (simp at h; omega)
  rw [← HR0.out] at hok0
  have hgek0o : ∀ b, b ∈ Fk0 → w12.heap.size ≤ b := fun b hb => by have h := hgek0 b hb; first | exact h | (simp at h; omega)
  clear hgek0
  rw [← HR1.out] at he
  subst he
  have hG13 : Below w12.heap.size w12 w13 := bthen (hx := hx13) (h := by repeat (first | with_reducible exact Below.refl _ _ | with_reducible assumption | with_reducible refine Below.drew ?_ | with_reducible refine Below.alloc ?_ (by first | exact Nat.le_refl _ | (simp; omega)) _ | with_reducible refine Below.setCell ?_ (by simp) _))
  have hoN := (ownS.frame oBy_good hog0 (fun b hb => hG13.block b (ownS.lt oBy_good hog0 b hb)))
  clear hog0
  have hog0 := hoN
  clear hoN
  have hoN := (hoh0.frame (fun b hb => hG13.block b (hoh0.lt b hb)))
  clear hoh0
  have hoh0 := hoN
  clear hoN
  replace hrs0 := (hrs0.below (hG13.mono hbs0))
  replace hbs0 := Nat.le_trans hbs0 hG13.size
  have hB13 : Below w.heap.size w w13 := bthen hB12 hG13
  clear hx13
  have hltk0 : ∀ b, b ∈ Fk0 → b < w13.heap.size := fun b hb => ownS.lt oBy_good hok0 b hb
  obtain ⟨ak0, ck0, rfl, _⟩ := id ((rdBs_own hok0))
  clear hoh0
  have hC := fun (W : World) (hb : Below w13.heap.size w13 W) => eqByteSS_yes_r _ _ R0 W (((rdBs_own hok0).below hb).mono hb.size) ((hrs0.below (hb.mono hbs0)).mono (Nat.le_trans hbs0 hb.size)) (by omega)
  go_wp2_with fail
  refine Calls.mono (hC _ ?_) ?_
  · repeat (first | with_reducible exact Below.refl _ _ | with_reducible assumption | with_reducible refine Below.drew ?_ | with_reducible refine Below.alloc ?_ (by first | exact Nat.le_refl _ | (simp; omega)) _ | with_reducible refine Below.setCell ?_ (by simp) _)
  clear hC
  rintro e w14 ⟨rfl, hx14⟩
  have hZ14 : w13.heap.size ≤ w14.heap.size := by have h := hx14.size; first | exact h | (simp at h; omega)
  have hG14 : Below w13.heap.size w13 w14 := bthen (hx := hx14) (h := by repeat (first | with_reducible exact Below.refl _ _ | with_reducible assumption | with_reducible refine Below.drew ?_ | with_reducible refine Below.alloc ?_ (by first | exact Nat.le_refl _ | (simp; omega)) _ | with_reducible refine Below.setCell ?_ (by simp) _))
  have hoN := (ownS.frame oBy_good hog0 (fun b hb => hG14.block b (ownS.lt oBy_good hog0 b hb)))
  clear hog0
  have hog0 := hoN
  clear hoN
  have hoN := (ownS.frame oBy_good hok0 (fun b hb => hG14.block b (ownS.lt oBy_good hok0 b hb)))
  clear hok0
  have hok0 := hoN
  clear hoN
  replace hrs0 := (hrs0.below (hG14.mono hbs0))
  replace hbs0 := Nat.le_trans hbs0 hG14.size
  have hB14 : Below w.heap.size w w14 := bthen hB13 hG14
  clear hx14
  have hC := fun (W : World) (hb : Below w14.heap.size w14 W) => heldByteSS_r _ mmg0 1 qg0 W (((rdBs_own hog0).below hb).mono hb.size) hhg0 (by omega) (by omega)
  go_wp2_with fail
  refine Calls.mono (hC _ ?_) ?_
  · repeat (first | with_reducible exact Below.refl _ _ | with_reducible assumption | with_reducible refine Below.drew ?_ | with_reducible refine Below.alloc ?_ (by first | exact Nat.le_refl _ | (simp; omega)) _ | with_reducible refine Below.setCell ?_ (by simp) _)
  clear hC
  rintro e w15 ⟨rfl, hx15⟩
  have hZ15 : w14.heap.size ≤ w15.heap.size := by have h := hx15.size; first | exact h | (simp at h; omega)
  have hG15 : Below w14.heap.size w14 w15 := bthen (hx := hx15) (h := by repeat (first | with_reducible exact Below.refl _ _ | with_reducible assumption | with_reducible refine Below.drew ?_ | with_reducible refine Below.alloc ?_ (by first | exact Nat.le_refl _ | (simp; omega)) _ | with_reducible refine Below.setCell ?_ (by simp) _))
  have hoN := (ownS.frame oBy_good hog0 (fun b hb => hG15.block b (ownS.lt oBy_good hog0 b hb)))
  clear hog0
  have hog0 := hoN
  clear hoN
  have hoN := (ownS.frame oBy_good hok0 (fun b hb => hG15.block b (ownS.lt oBy_good hok0 b hb)))
  clear hok0
  have hok0 := hoN
  clear hoN
  replace hrs0 := (hrs0.below (hG15.mono hbs0))
  replace hbs0 := Nat.le_trans hbs0 hG15.size
  have hB15 : Below w.heap.size w w15 := bthen hB14 hG15
  clear hx15
  go_wp2_with fail
  go_ret
  exact ⟨rfl, by repeat (first | with_reducible exact Below.refl _ _ | with_reducible assumption | with_reducible refine Below.drew ?_ | with_reducible refine Below.alloc ?_ (by first | exact Nat.le_refl _ | (simp; omega)) _ | with_reducible refine Below.setCell ?_ (by simp) _)⟩

end Go.Proofs.YtiahmcclmlmgpaaDoor
