/-
  Part 28 of the texts that the proof leans on.
-/
import Derived.Test.YtolciaheoanlbaaGreatDoorPack1
import Derived.Test.YtolciaheoanlbaaGreatDoorPack2
import Derived.Test.YtolciaheoanlbaaGreatDoorPack26

/-
  The exact law of Mend: at every disk and name both answer the same disk, the same records, in memory of their own, and the same code.
-/
namespace Go.Proofs.YtolciaheoanlbaaGreatDoor
open Go.RowKit
set_option linter.unusedVariables false
set_option linter.unusedSimpArgs false
set_option maxRecDepth 10000
theorem gbt {n : Nat} {w w1 : World} (h : Below n w w1 := by repeat (first | with_reducible exact Below.refl _ _ | with_reducible assumption | with_reducible refine Below.drew ?_ | with_reducible refine Below.alloc ?_ (by first | exact Nat.le_refl _ | (simp; omega)) _ | with_reducible refine Below.setCell ?_ (by simp) _)) : Below n w w1 := h
set_option maxHeartbeats 4000000 in
theorem law_FnExactMend (cs0 : List Value) (m0 : MDisk) (m1 : ByteArray) (w : World) (hr0 : rDisk w.heap.size w cs0 m0) (hs1 : m1.size ≤ 9223372036854775807) (hT : TabAt w) :
  Calls Tryz.prog 3 #[.agg cs0.toArray, .string m1] w fun e w' => e = .returned (.bool true) ∧ Below w.heap.size w w' := by
 have hsz : 0 < w.heap.size := hT.size
 have hbo0 := rDisk_bytes hr0
 have hq0 := hr0
 obtain ⟨a0_0, c0_0, a0_1, c0_1, a0_2, c0_2, rfl, _⟩ := hq0
 by_cases hbig1 : 1048576 < m1.size
 ·go_enter Tryz.func3, Tryz.ntmps3
  go_wp2_with fail
  all_goals
   go_ret
   exact ⟨rfl, gbt⟩
 go_enter Tryz.func3, Tryz.ntmps3
 have hC := fun (W : World) (hb : Below w.heap.size w W) => szDisk_any _ m0 (1048576) W (by omega) (by omega) (rDisk_good.mono (rDisk_good.below hr0 hb) hb.size)
 go_wp2_with fail
 refine Calls.mono (hC _ ?_) ?_
 ·exact gbt
 clear hC
 rintro e w1 ⟨rfl, hx1⟩
 have hZ1 : w.heap.size + 1 ≤ w1.heap.size := by have h := hx1.size; first | exact h | (simp at h; omega)
 have hG1 : Below w.heap.size w w1 := bthen (hx := hx1) (h := gbt)
 have hbxA0 : Bx w1 (w.heap.size) [.slice a0_0 m0.fInodes.length c0_0, .slice a0_1 m0.fNames.length c0_1, .slice a0_2 m0.fSafe.length c0_2, .int .i64 m0.fNext] := (Bx.new _ [.slice a0_0 m0.fInodes.length c0_0, .slice a0_1 m0.fNames.length c0_1, .slice a0_2 m0.fSafe.length c0_2, .int .i64 m0.fNext] _).under hx1
 have xbA0_0 : w1.cell? ⟨w.heap.size, 0, none⟩ = some (.slice a0_0 m0.fInodes.length c0_0) := hbxA0.2 0 _ rfl
 have xbA0_1 : w1.cell? ⟨w.heap.size, 1, none⟩ = some (.slice a0_1 m0.fNames.length c0_1) := hbxA0.2 1 _ rfl
 have xbA0_2 : w1.cell? ⟨w.heap.size, 2, none⟩ = some (.slice a0_2 m0.fSafe.length c0_2) := hbxA0.2 2 _ rfl
 have xbA0_3 : w1.cell? ⟨w.heap.size, 3, none⟩ = some (.int .i64 m0.fNext) := hbxA0.2 3 _ rfl
 have hlbA0 : w.heap.size < w1.heap.size := hbxA0.1
 have hB1 : Below w.heap.size w w1 := hG1
 clear hx1
 by_cases hw0 : ((wDisk m0 : Nat) : Int) ≤ 1048576
 ·rw [szRes_yes hw0]
  have hwn0 : wDisk m0 ≤ 1048576 := by omega
  have hcn0 := tcntDisk_le m0
  have hwn1 : m1.size ≤ 1048576 := by omega
  obtain ⟨R0, hR0⟩ : ∃ R : MDisk, R = mendD m0 m1 := ⟨_, rfl⟩
  have hRw0 : wDisk R0 ≤ 1099511627776 := by rw [hR0]; exact boundMend_0 m0 m1 hwn0 hwn1
  have hRc0 := tcntDisk_le R0
  have HR0 := Hid.mk hR0
  clear hR0
  obtain ⟨R1, hR1⟩ : ∃ R : List (List Int), R = mendL m0 m1 := ⟨_, rfl⟩
  have hRw1 : wBs R1 ≤ 1099511627776 := by rw [hR1]; exact boundMend_1 m0 m1 hbo0 hwn0 hwn1
  have hRc1 := tcntBs_le R1
  have HR1 := Hid.mk hR1
  clear hR1
  obtain ⟨R2, hR2⟩ : ∃ R : Int, R = mendC m0 m1 := ⟨_, rfl⟩
  have HR2 := Hid.mk hR2
  clear hR2
  have hC := fun (W : World) (hb : Below w1.heap.size w1 W) => toDisk_any _ m0 W (rDisk_good.mono (rDisk_good.below hr0 (bthen hB1 hb)) (bthen hB1 hb).size) hwn0
  go_wp2_with fail
  refine Calls.mono (hC _ ?_) ?_
  ·exact gbt
  clear hC
  rintro e w2 ⟨vp0, Fp0, rfl, hop0, hNp0, hgep0, hx2⟩
  have hZ2 : w1.heap.size ≤ w2.heap.size := by have h := hx2.size; first | exact h | (simp at h; omega)
  have hgep0o : ∀ b, b ∈ Fp0 → w1.heap.size ≤ b := fun b hb => by have h := hgep0 b hb; first | exact h | (simp at h; omega)
  clear hgep0
  have hG2 : Below w1.heap.size w1 w2 := bthen (hx := hx2) (h := gbt)
  replace hbxA0 := hbxA0.under hG2
  replace xbA0_0 := hbxA0.2 0 _ rfl
  replace xbA0_1 := hbxA0.2 1 _ rfl
  replace xbA0_2 := hbxA0.2 2 _ rfl
  replace xbA0_3 := hbxA0.2 3 _ rfl
  replace hlbA0 : w.heap.size < w2.heap.size := hbxA0.1
  have hB2 : Below w.heap.size w w2 := bthen hB1 hG2
  clear hx2
  have hltp0 : ∀ b, b ∈ Fp0 → b < w2.heap.size := fun b hb => oDisk_good.lt hop0 b hb
  have hC := fun (W : World) (hb : Below w2.heap.size w2 W) => specMend_c _ m0 m1 W (rDisk_good.mono (rDisk_good.below (oDisk_good.read hop0) hb) hb.size) hs1 hwn0 hwn1 (hT.below (bthen hB2 hb) hsz)
  go_wp2_with fail
  refine Calls.mono (hC _ ?_) ?_
  ·exact gbt
  clear hC
  rintro e w3 ⟨vs0, vs1, he, hrs0, hrs1, hx3⟩
  have hZ3 : w2.heap.size ≤ w3.heap.size := by have h := hx3.size; first | exact h | (simp at h; omega)
  rw [← HR0.out] at hrs0
  rw [← HR1.out] at hrs1
  rw [← HR2.out] at he
  subst he
  have hG3 : Below w2.heap.size w2 w3 := bthen (hx := hx3) (h := gbt)
  replace hbxA0 := hbxA0.under hG3
  have hoN := (oDisk_good.frame hop0 (fun b hb => hG3.block b (oDisk_good.lt hop0 b hb)))
  clear hop0
  have hop0 := hoN
  clear hoN
  replace xbA0_0 := hbxA0.2 0 _ rfl
  replace xbA0_1 := hbxA0.2 1 _ rfl
  replace xbA0_2 := hbxA0.2 2 _ rfl
  replace xbA0_3 := hbxA0.2 3 _ rfl
  replace hlbA0 : w.heap.size < w3.heap.size := hbxA0.1
  have hB3 : Below w.heap.size w w3 := bthen hB2 hG3
  clear hx3
  clear hop0 hNp0 hgep0o hltp0
  have hq := hrs0
  obtain ⟨as0_0, cs0_0, as0_1, cs0_1, as0_2, cs0_2, rfl, _⟩ := hq
  have hbs0 : w3.heap.size ≤ w3.heap.size := Nat.le_refl _
  obtain ⟨as1, cs1, rfl, _⟩ := id (hrs1)
  have hbs1 : w3.heap.size ≤ w3.heap.size := Nat.le_refl _
  have hC := fun (W : World) (hb : Below w3.heap.size w3 W) => toDisk_any _ m0 W (rDisk_good.mono (rDisk_good.below hr0 (bthen hB3 hb)) (bthen hB3 hb).size) hwn0
  go_wp2_with fail
  refine Calls.mono (hC _ ?_) ?_
  ·exact gbt
  clear hC
  rintro e w4 ⟨vx0, Fx0, rfl, hox0, hNx0, hgex0, hx4⟩
  have hZ4 : w3.heap.size + 1 ≤ w4.heap.size := by have h := hx4.size; first | exact h | (simp at h; omega)
  have hgex0o : ∀ b, b ∈ Fx0 → w3.heap.size + 1 ≤ b := fun b hb => by have h := hgex0 b hb; first | exact h | (simp at h; omega)
  clear hgex0
  have hG4 : Below w3.heap.size w3 w4 := bthen (hx := hx4) (h := gbt)
  replace hbxA0 := hbxA0.under hG4
  replace hrs0 := (rDisk_good.below hrs0 (hG4.mono hbs0))
  replace hbs0 := Nat.le_trans hbs0 hG4.size
  replace hrs1 := (hrs1.below (hG4.mono hbs1))
  replace hbs1 := Nat.le_trans hbs1 hG4.size
  have hbxs0 : Bx w4 (w3.heap.size) [.slice as0_0 R0.fInodes.length cs0_0, .slice as0_1 R0.fNames.length cs0_1, .slice as0_2 R0.fSafe.length cs0_2, .int .i64 R0.fNext] := (Bx.new _ [.slice as0_0 R0.fInodes.length cs0_0, .slice as0_1 R0.fNames.length cs0_1, .slice as0_2 R0.fSafe.length cs0_2, .int .i64 R0.fNext] _).under hx4
  replace xbA0_0 := hbxA0.2 0 _ rfl
  replace xbA0_1 := hbxA0.2 1 _ rfl
  replace xbA0_2 := hbxA0.2 2 _ rfl
  replace xbA0_3 := hbxA0.2 3 _ rfl
  replace hlbA0 : w.heap.size < w4.heap.size := hbxA0.1
  have xbs0_0 : w4.cell? ⟨w3.heap.size, 0, none⟩ = some (.slice as0_0 R0.fInodes.length cs0_0) := hbxs0.2 0 _ rfl
  have xbs0_1 : w4.cell? ⟨w3.heap.size, 1, none⟩ = some (.slice as0_1 R0.fNames.length cs0_1) := hbxs0.2 1 _ rfl
  have xbs0_2 : w4.cell? ⟨w3.heap.size, 2, none⟩ = some (.slice as0_2 R0.fSafe.length cs0_2) := hbxs0.2 2 _ rfl
  have xbs0_3 : w4.cell? ⟨w3.heap.size, 3, none⟩ = some (.int .i64 R0.fNext) := hbxs0.2 3 _ rfl
  have hlbs0 : w3.heap.size < w4.heap.size := hbxs0.1
  have hB4 : Below w.heap.size w w4 := bthen hB3 hG4
  clear hx4
  have hltx0 : ∀ b, b ∈ Fx0 → b < w4.heap.size := fun b hb => oDisk_good.lt hox0 b hb
  have hq := (oDisk_good.read hox0)
  obtain ⟨ax0_0, cx0_0, ax0_1, cx0_1, ax0_2, cx0_2, rfl, _⟩ := hq
  have hC := fun (W : World) (hb : Below w4.heap.size w4 W) => implMend_c _ m0 m1 W (rDisk_good.mono (rDisk_good.below (oDisk_good.read hox0) hb) hb.size) hs1 hwn0 hwn1 (hT.below (bthen hB4 hb) hsz)
  go_wp2_with fail
  refine Calls.mono (hC _ ?_) ?_
  ·exact gbt
  clear hC
  rintro e w5 ⟨vg0, Fg0, vg1, Fg1, he, hog0, hNg0, hgeg0, hog1, hNg1, hgeg1, hdg, hx5⟩
  have hZ5 : w4.heap.size + 1 ≤ w5.heap.size := by have h := hx5.size; first | exact h | (simp at h; omega)
  rw [← HR0.out] at hog0
  have hgeg0o : ∀ b, b ∈ Fg0 → w4.heap.size + 1 ≤ b := fun b hb => by have h := hgeg0 b hb; first | exact h | (simp at h; omega)
  clear hgeg0
  rw [← HR1.out] at hog1
  have hgeg1o : ∀ b, b ∈ Fg1 → w4.heap.size + 1 ≤ b := fun b hb => by have h := hgeg1 b hb; first | exact h | (simp at h; omega)
  clear hgeg1
  rw [← HR2.out] at he
  subst he
  have hG5 : Below w4.heap.size w4 w5 := bthen (hx := hx5) (h := gbt)
  replace hbxA0 := hbxA0.under hG5
  replace hbxs0 := hbxs0.under hG5
  have hoN := (oDisk_good.frame hox0 (fun b hb => hG5.block b (oDisk_good.lt hox0 b hb)))
  clear hox0
  have hox0 := hoN
  clear hoN
  replace hrs0 := (rDisk_good.below hrs0 (hG5.mono hbs0))
  replace hbs0 := Nat.le_trans hbs0 hG5.size
  replace hrs1 := (hrs1.below (hG5.mono hbs1))
  replace hbs1 := Nat.le_trans hbs1 hG5.size
  have hbxx0 : Bx w5 (w4.heap.size) [.slice ax0_0 m0.fInodes.length cx0_0, .slice ax0_1 m0.fNames.length cx0_1, .slice ax0_2 m0.fSafe.length cx0_2, .int .i64 m0.fNext] := (Bx.new _ [.slice ax0_0 m0.fInodes.length cx0_0, .slice ax0_1 m0.fNames.length cx0_1, .slice ax0_2 m0.fSafe.length cx0_2, .int .i64 m0.fNext] _).under hx5
  replace xbA0_0 := hbxA0.2 0 _ rfl
  replace xbA0_1 := hbxA0.2 1 _ rfl
  replace xbA0_2 := hbxA0.2 2 _ rfl
  replace xbA0_3 := hbxA0.2 3 _ rfl
  replace hlbA0 : w.heap.size < w5.heap.size := hbxA0.1
  replace xbs0_0 := hbxs0.2 0 _ rfl
  replace xbs0_1 := hbxs0.2 1 _ rfl
  replace xbs0_2 := hbxs0.2 2 _ rfl
  replace xbs0_3 := hbxs0.2 3 _ rfl
  replace hlbs0 : w3.heap.size < w5.heap.size := hbxs0.1
  have xbx0_0 : w5.cell? ⟨w4.heap.size, 0, none⟩ = some (.slice ax0_0 m0.fInodes.length cx0_0) := hbxx0.2 0 _ rfl
  have xbx0_1 : w5.cell? ⟨w4.heap.size, 1, none⟩ = some (.slice ax0_1 m0.fNames.length cx0_1) := hbxx0.2 1 _ rfl
  have xbx0_2 : w5.cell? ⟨w4.heap.size, 2, none⟩ = some (.slice ax0_2 m0.fSafe.length cx0_2) := hbxx0.2 2 _ rfl
  have xbx0_3 : w5.cell? ⟨w4.heap.size, 3, none⟩ = some (.int .i64 m0.fNext) := hbxx0.2 3 _ rfl
  have hlbx0 : w4.heap.size < w5.heap.size := hbxx0.1
  have hB5 : Below w.heap.size w w5 := bthen hB4 hG5
  clear hx5
  have hltg0 : ∀ b, b ∈ Fg0 → b < w5.heap.size := fun b hb => oDisk_good.lt hog0 b hb
  have hq := (oDisk_good.read hog0)
  obtain ⟨ag0_0, cg0_0, ag0_1, cg0_1, ag0_2, cg0_2, rfl, _⟩ := hq
  have hltg1 : ∀ b, b ∈ Fg1 → b < w5.heap.size := fun b hb => ownS.lt oBy_good hog1 b hb
  obtain ⟨ag1, cg1, rfl, _⟩ := id ((rdBs_own hog1))
  have hC := fun (W : World) (hb : Below w5.heap.size w5 W) => eqDisk_yes _ _ R0 W (rDisk_good.mono (rDisk_good.below (oDisk_good.read hog0) hb) hb.size) (rDisk_good.mono (rDisk_good.below hrs0 (hb.mono hbs0)) (Nat.le_trans hbs0 hb.size)) (by omega)
  go_wp2_with fail
  refine Calls.mono (hC _ ?_) ?_
  ·exact gbt
  clear hC
  rintro e w6 ⟨rfl, hx6⟩
  have hZ6 : w5.heap.size + 1 ≤ w6.heap.size := by have h := hx6.size; first | exact h | (simp at h; omega)
  have hG6 : Below w5.heap.size w5 w6 := bthen (hx := hx6) (h := gbt)
  replace hbxA0 := hbxA0.under hG6
  replace hbxs0 := hbxs0.under hG6
  replace hbxx0 := hbxx0.under hG6
  have hoN := (oDisk_good.frame hox0 (fun b hb => hG6.block b (oDisk_good.lt hox0 b hb)))
  clear hox0
  have hox0 := hoN
  clear hoN
  have hoN := (oDisk_good.frame hog0 (fun b hb => hG6.block b (oDisk_good.lt hog0 b hb)))
  clear hog0
  have hog0 := hoN
  clear hoN
  have hoN := (ownS.frame oBy_good hog1 (fun b hb => hG6.block b (ownS.lt oBy_good hog1 b hb)))
  clear hog1
  have hog1 := hoN
  clear hoN
  replace hrs0 := (rDisk_good.below hrs0 (hG6.mono hbs0))
  replace hbs0 := Nat.le_trans hbs0 hG6.size
  replace hrs1 := (hrs1.below (hG6.mono hbs1))
  replace hbs1 := Nat.le_trans hbs1 hG6.size
  have hbxg0 : Bx w6 (w5.heap.size) [.slice ag0_0 R0.fInodes.length cg0_0, .slice ag0_1 R0.fNames.length cg0_1, .slice ag0_2 R0.fSafe.length cg0_2, .int .i64 R0.fNext] := (Bx.new _ [.slice ag0_0 R0.fInodes.length cg0_0, .slice ag0_1 R0.fNames.length cg0_1, .slice ag0_2 R0.fSafe.length cg0_2, .int .i64 R0.fNext] _).under hx6
  replace xbA0_0 := hbxA0.2 0 _ rfl
  replace xbA0_1 := hbxA0.2 1 _ rfl
  replace xbA0_2 := hbxA0.2 2 _ rfl
  replace xbA0_3 := hbxA0.2 3 _ rfl
  replace hlbA0 : w.heap.size < w6.heap.size := hbxA0.1
  replace xbs0_0 := hbxs0.2 0 _ rfl
  replace xbs0_1 := hbxs0.2 1 _ rfl
  replace xbs0_2 := hbxs0.2 2 _ rfl
  replace xbs0_3 := hbxs0.2 3 _ rfl
  replace hlbs0 : w3.heap.size < w6.heap.size := hbxs0.1
  replace xbx0_0 := hbxx0.2 0 _ rfl
  replace xbx0_1 := hbxx0.2 1 _ rfl
  replace xbx0_2 := hbxx0.2 2 _ rfl
  replace xbx0_3 := hbxx0.2 3 _ rfl
  replace hlbx0 : w4.heap.size < w6.heap.size := hbxx0.1
  have xbg0_0 : w6.cell? ⟨w5.heap.size, 0, none⟩ = some (.slice ag0_0 R0.fInodes.length cg0_0) := hbxg0.2 0 _ rfl
  have xbg0_1 : w6.cell? ⟨w5.heap.size, 1, none⟩ = some (.slice ag0_1 R0.fNames.length cg0_1) := hbxg0.2 1 _ rfl
  have xbg0_2 : w6.cell? ⟨w5.heap.size, 2, none⟩ = some (.slice ag0_2 R0.fSafe.length cg0_2) := hbxg0.2 2 _ rfl
  have xbg0_3 : w6.cell? ⟨w5.heap.size, 3, none⟩ = some (.int .i64 R0.fNext) := hbxg0.2 3 _ rfl
  have hlbg0 : w5.heap.size < w6.heap.size := hbxg0.1
  have hB6 : Below w.heap.size w w6 := bthen hB5 hG6
  clear hx6
  have hC := fun (W : World) (hb : Below w6.heap.size w6 W) => eqByteSS_yes_r _ _ R1 W (((rdBs_own hog1).below hb).mono hb.size) ((hrs1.below (hb.mono hbs1)).mono (Nat.le_trans hbs1 hb.size)) (by omega)
  go_wp2_with fail
  refine Calls.mono (hC _ ?_) ?_
  ·exact gbt
  clear hC
  rintro e w7 ⟨rfl, hx7⟩
  have hZ7 : w6.heap.size ≤ w7.heap.size := by have h := hx7.size; first | exact h | (simp at h; omega)
  have hG7 : Below w6.heap.size w6 w7 := bthen (hx := hx7) (h := gbt)
  replace hbxA0 := hbxA0.under hG7
  replace hbxs0 := hbxs0.under hG7
  replace hbxx0 := hbxx0.under hG7
  replace hbxg0 := hbxg0.under hG7
  have hoN := (oDisk_good.frame hox0 (fun b hb => hG7.block b (oDisk_good.lt hox0 b hb)))
  clear hox0
  have hox0 := hoN
  clear hoN
  have hoN := (oDisk_good.frame hog0 (fun b hb => hG7.block b (oDisk_good.lt hog0 b hb)))
  clear hog0
  have hog0 := hoN
  clear hoN
  have hoN := (ownS.frame oBy_good hog1 (fun b hb => hG7.block b (ownS.lt oBy_good hog1 b hb)))
  clear hog1
  have hog1 := hoN
  clear hoN
  replace hrs0 := (rDisk_good.below hrs0 (hG7.mono hbs0))
  replace hbs0 := Nat.le_trans hbs0 hG7.size
  replace hrs1 := (hrs1.below (hG7.mono hbs1))
  replace hbs1 := Nat.le_trans hbs1 hG7.size
  replace xbA0_0 := hbxA0.2 0 _ rfl
  replace xbA0_1 := hbxA0.2 1 _ rfl
  replace xbA0_2 := hbxA0.2 2 _ rfl
  replace xbA0_3 := hbxA0.2 3 _ rfl
  replace hlbA0 : w.heap.size < w7.heap.size := hbxA0.1
  replace xbs0_0 := hbxs0.2 0 _ rfl
  replace xbs0_1 := hbxs0.2 1 _ rfl
  replace xbs0_2 := hbxs0.2 2 _ rfl
  replace xbs0_3 := hbxs0.2 3 _ rfl
  replace hlbs0 : w3.heap.size < w7.heap.size := hbxs0.1
  replace xbx0_0 := hbxx0.2 0 _ rfl
  replace xbx0_1 := hbxx0.2 1 _ rfl
  replace xbx0_2 := hbxx0.2 2 _ rfl
  replace xbx0_3 := hbxx0.2 3 _ rfl
  replace hlbx0 : w4.heap.size < w7.heap.size := hbxx0.1
  replace xbg0_0 := hbxg0.2 0 _ rfl
  replace xbg0_1 := hbxg0.2 1 _ rfl
  replace xbg0_2 := hbxg0.2 2 _ rfl
  replace xbg0_3 := hbxg0.2 3 _ rfl
  replace hlbg0 : w5.heap.size < w7.heap.size := hbxg0.1
  have hB7 : Below w.heap.size w w7 := bthen hB6 hG7
  clear hx7
  have hC1 := fun (W : World) (hb : Below w7.heap.size w7 W) => toDisk_any _ m0 W (rDisk_good.mono (rDisk_good.below hr0 (bthen hB7 hb)) (bthen hB7 hb).size) hwn0
  have hC2 := fun (W W2 : World) (v2 : List Value) (F2 : List Nat) (hb : Below w7.heap.size w7 W) (hb2 : Below W.heap.size W W2) (ho2 : oDisk W2 v2 m0 F2) => eqDisk_yes _ v2 m0 W2 (rDisk_good.mono (rDisk_good.below (oDisk_good.read hox0) (bthen hb hb2)) (bthen hb hb2).size) (oDisk_good.read ho2) (by omega)
  go_wp2_with fail
  go_region_with (first | (go_at_call 9; refine Calls.mono (hC1 _ ?_) ?_; exact (gbt); rintro e w8 ⟨vt0, Ft0, rfl, hot0, hNt0, hget0, hx8⟩; have hG8 : Below w7.heap.size w7 w8 := bthen (hx := hx8) (h := gbt); obtain ⟨at0_0, ct0_0, at0_1, ct0_1, at0_2, ct0_2, rfl, _⟩ := id (oDisk_good.read hot0); have hbtA0 : Bx w8 (w.heap.size) [.slice a0_0 m0.fInodes.length c0_0, .slice a0_1 m0.fNames.length c0_1, .slice a0_2 m0.fSafe.length c0_2, .int .i64 m0.fNext] := hbxA0.under hG8; have xtA0_0 : w8.cell? ⟨w.heap.size, 0, none⟩ = some (.slice a0_0 m0.fInodes.length c0_0) := hbtA0.2 0 _ rfl; have xtA0_1 : w8.cell? ⟨w.heap.size, 1, none⟩ = some (.slice a0_1 m0.fNames.length c0_1) := hbtA0.2 1 _ rfl; have xtA0_2 : w8.cell? ⟨w.heap.size, 2, none⟩ = some (.slice a0_2 m0.fSafe.length c0_2) := hbtA0.2 2 _ rfl; have xtA0_3 : w8.cell? ⟨w.heap.size, 3, none⟩ = some (.int .i64 m0.fNext) := hbtA0.2 3 _ rfl; have hbtx0 : Bx w8 (w4.heap.size) [.slice ax0_0 m0.fInodes.length cx0_0, .slice ax0_1 m0.fNames.length cx0_1, .slice ax0_2 m0.fSafe.length cx0_2, .int .i64 m0.fNext] := hbxx0.under hG8; have xtx0_0 : w8.cell? ⟨w4.heap.size, 0, none⟩ = some (.slice ax0_0 m0.fInodes.length cx0_0) := hbtx0.2 0 _ rfl; have xtx0_1 : w8.cell? ⟨w4.heap.size, 1, none⟩ = some (.slice ax0_1 m0.fNames.length cx0_1) := hbtx0.2 1 _ rfl; have xtx0_2 : w8.cell? ⟨w4.heap.size, 2, none⟩ = some (.slice ax0_2 m0.fSafe.length cx0_2) := hbtx0.2 2 _ rfl; have xtx0_3 : w8.cell? ⟨w4.heap.size, 3, none⟩ = some (.int .i64 m0.fNext) := hbtx0.2 3 _ rfl) | (go_at_call 11; refine Calls.mono (hC2 _ _ _ _ (Below.refl _ _) hG8 hot0) ?_; rintro e w9 ⟨rfl, hx9⟩))
  all_goals
   have hZ8 : w7.heap.size ≤ w8.heap.size := by have h := hx8.size; first | exact h | (simp at h; omega)
   have hZ9 : w8.heap.size ≤ w9.heap.size := hx9.size
   have hGG9 : Below w7.heap.size w7 w9 := bthen hG8 hx9
   replace hbxA0 := hbxA0.under hGG9
   replace hbxs0 := hbxs0.under hGG9
   replace hbxx0 := hbxx0.under hGG9
   replace hbxg0 := hbxg0.under hGG9
   have hoN := (oDisk_good.frame hox0 (fun b hb => hGG9.block b (oDisk_good.lt hox0 b hb)))
   clear hox0
   have hox0 := hoN
   clear hoN
   have hoN := (oDisk_good.frame hog0 (fun b hb => hGG9.block b (oDisk_good.lt hog0 b hb)))
   clear hog0
   have hog0 := hoN
   clear hoN
   have hoN := (ownS.frame oBy_good hog1 (fun b hb => hGG9.block b (ownS.lt oBy_good hog1 b hb)))
   clear hog1
   have hog1 := hoN
   clear hoN
   replace hrs0 := (rDisk_good.below hrs0 (hGG9.mono hbs0))
   replace hbs0 := Nat.le_trans hbs0 hGG9.size
   replace hrs1 := (hrs1.below (hGG9.mono hbs1))
   replace hbs1 := Nat.le_trans hbs1 hGG9.size
   replace xbA0_0 := hbxA0.2 0 _ rfl
   replace xbA0_1 := hbxA0.2 1 _ rfl
   replace xbA0_2 := hbxA0.2 2 _ rfl
   replace xbA0_3 := hbxA0.2 3 _ rfl
   replace hlbA0 : w.heap.size < w9.heap.size := hbxA0.1
   replace xbs0_0 := hbxs0.2 0 _ rfl
   replace xbs0_1 := hbxs0.2 1 _ rfl
   replace xbs0_2 := hbxs0.2 2 _ rfl
   replace xbs0_3 := hbxs0.2 3 _ rfl
   replace hlbs0 : w3.heap.size < w9.heap.size := hbxs0.1
   replace xbx0_0 := hbxx0.2 0 _ rfl
   replace xbx0_1 := hbxx0.2 1 _ rfl
   replace xbx0_2 := hbxx0.2 2 _ rfl
   replace xbx0_3 := hbxx0.2 3 _ rfl
   replace hlbx0 : w4.heap.size < w9.heap.size := hbxx0.1
   replace xbg0_0 := hbxg0.2 0 _ rfl
   replace xbg0_1 := hbxg0.2 1 _ rfl
   replace xbg0_2 := hbxg0.2 2 _ rfl
   replace xbg0_3 := hbxg0.2 3 _ rfl
   replace hlbg0 : w5.heap.size < w9.heap.size := hbxg0.1
   have hB9 : Below w.heap.size w w9 := bthen hB7 hGG9
   clear hx8 hx9 hC1 hC2 hot0 hNt0 hget0
   have hC := fun (W : World) (hb : Below w9.heap.size w9 W) => markDisk_any _ m0 Fx0 1 W (by omega) (by omega) (oDisk_good.frame hox0 (fun b hb2 => hb.block b (oDisk_good.lt hox0 b hb2))) hNx0
   go_wp2_with fail
   refine Calls.mono (hC _ ?_) ?_
   ·exact gbt
   clear hC
   rintro e w10 ⟨mmx0, qx0, rfl, hqax0, hqbx0, homx0, hhx0, hx10⟩
   have hZ10 : w9.heap.size ≤ w10.heap.size := by have h := hx10.size; first | exact h | (simp at h; omega)
   have hG10 : Turn Fx0 w9 w10 := Turn.after (hx := hx10) (h := gbt)
   replace hbxA0 : Bx w10 (w.heap.size) [.slice a0_0 m0.fInodes.length c0_0, .slice a0_1 m0.fNames.length c0_1, .slice a0_2 m0.fSafe.length c0_2, .int .i64 m0.fNext] := hbxA0.turn hG10 (fun hm => by have h1 := hgex0o _ hm; have h2 := hltx0 _ hm; omega)
   replace hbxs0 : Bx w10 (w3.heap.size) [.slice as0_0 R0.fInodes.length cs0_0, .slice as0_1 R0.fNames.length cs0_1, .slice as0_2 R0.fSafe.length cs0_2, .int .i64 R0.fNext] := hbxs0.turn hG10 (fun hm => by have h1 := hgex0o _ hm; have h2 := hltx0 _ hm; omega)
   replace hbxx0 : Bx w10 (w4.heap.size) [.slice ax0_0 m0.fInodes.length cx0_0, .slice ax0_1 m0.fNames.length cx0_1, .slice ax0_2 m0.fSafe.length cx0_2, .int .i64 m0.fNext] := hbxx0.turn hG10 (fun hm => by have h1 := hgex0o _ hm; have h2 := hltx0 _ hm; omega)
   replace hbxg0 : Bx w10 (w5.heap.size) [.slice ag0_0 R0.fInodes.length cg0_0, .slice ag0_1 R0.fNames.length cg0_1, .slice ag0_2 R0.fSafe.length cg0_2, .int .i64 R0.fNext] := hbxg0.turn hG10 (fun hm => by have h1 := hgex0o _ hm; have h2 := hltx0 _ hm; omega)
   have hoN := (oDisk_good.frame hog0 (fun b hb => hG10.block b (oDisk_good.lt hog0 b hb) (fun hm => by have h1 := hgex0o _ hm; have h2 := hltx0 _ hm; have h3 := hgeg0o _ hb; have h4 := hltg0 _ hb; omega)))
   clear hog0
   have hog0 := hoN
   clear hoN
   have hoN := (ownS.frame oBy_good hog1 (fun b hb => hG10.block b (ownS.lt oBy_good hog1 b hb) (fun hm => by have h1 := hgex0o _ hm; have h2 := hltx0 _ hm; have h3 := hgeg1o _ hb; have h4 := hltg1 _ hb; omega)))
   clear hog1
   have hog1 := hoN
   clear hoN
   replace hrs0 := (rDisk_good.below hrs0 (Turn.below hG10 (fun k hk => by have h1 := hgex0o _ hk; omega) hbs0))
   replace hbs0 := Nat.le_trans hbs0 hG10.size
   replace hrs1 := (hrs1.below (Turn.below hG10 (fun k hk => by have h1 := hgex0o _ hk; omega) hbs1))
   replace hbs1 := Nat.le_trans hbs1 hG10.size
   replace xbA0_0 := hbxA0.2 0 _ rfl
   replace xbA0_1 := hbxA0.2 1 _ rfl
   replace xbA0_2 := hbxA0.2 2 _ rfl
   replace xbA0_3 := hbxA0.2 3 _ rfl
   replace hlbA0 : w.heap.size < w10.heap.size := hbxA0.1
   replace xbs0_0 := hbxs0.2 0 _ rfl
   replace xbs0_1 := hbxs0.2 1 _ rfl
   replace xbs0_2 := hbxs0.2 2 _ rfl
   replace xbs0_3 := hbxs0.2 3 _ rfl
   replace hlbs0 : w3.heap.size < w10.heap.size := hbxs0.1
   replace xbx0_0 := hbxx0.2 0 _ rfl
   replace xbx0_1 := hbxx0.2 1 _ rfl
   replace xbx0_2 := hbxx0.2 2 _ rfl
   replace xbx0_3 := hbxx0.2 3 _ rfl
   replace hlbx0 : w4.heap.size < w10.heap.size := hbxx0.1
   replace xbg0_0 := hbxg0.2 0 _ rfl
   replace xbg0_1 := hbxg0.2 1 _ rfl
   replace xbg0_2 := hbxg0.2 2 _ rfl
   replace xbg0_3 := hbxg0.2 3 _ rfl
   replace hlbg0 : w5.heap.size < w10.heap.size := hbxg0.1
   have hB10 : Below w.heap.size w w10 := Turn.under hB9 hG10 (fun k hk => by have h1 := hgex0o _ hk; have h2 := hB9.size; omega)
   clear hx10 hox0
   have hox0 := homx0
   clear homx0
   have hC := fun (W : World) (hb : Below w10.heap.size w10 W) => eqDisk_yes _ _ R0 W (rDisk_good.mono (rDisk_good.below (oDisk_good.read hog0) hb) hb.size) (rDisk_good.mono (rDisk_good.below hrs0 (hb.mono hbs0)) (Nat.le_trans hbs0 hb.size)) (by omega)
   go_wp2_with fail
   refine Calls.mono (hC _ ?_) ?_
   ·exact gbt
   clear hC
   rintro e w11 ⟨rfl, hx11⟩
   have hZ11 : w10.heap.size ≤ w11.heap.size := by have h := hx11.size; first | exact h | (simp at h; omega)
   have hG11 : Below w10.heap.size w10 w11 := bthen (hx := hx11) (h := gbt)
   replace hbxA0 := hbxA0.under hG11
   replace hbxs0 := hbxs0.under hG11
   replace hbxx0 := hbxx0.under hG11
   replace hbxg0 := hbxg0.under hG11
   have hoN := (oDisk_good.frame hog0 (fun b hb => hG11.block b (oDisk_good.lt hog0 b hb)))
   clear hog0
   have hog0 := hoN
   clear hoN
   have hoN := (ownS.frame oBy_good hog1 (fun b hb => hG11.block b (ownS.lt oBy_good hog1 b hb)))
   clear hog1
   have hog1 := hoN
   clear hoN
   replace hrs0 := (rDisk_good.below hrs0 (hG11.mono hbs0))
   replace hbs0 := Nat.le_trans hbs0 hG11.size
   replace hrs1 := (hrs1.below (hG11.mono hbs1))
   replace hbs1 := Nat.le_trans hbs1 hG11.size
   replace xbA0_0 := hbxA0.2 0 _ rfl
   replace xbA0_1 := hbxA0.2 1 _ rfl
   replace xbA0_2 := hbxA0.2 2 _ rfl
   replace xbA0_3 := hbxA0.2 3 _ rfl
   replace hlbA0 : w.heap.size < w11.heap.size := hbxA0.1
   replace xbs0_0 := hbxs0.2 0 _ rfl
   replace xbs0_1 := hbxs0.2 1 _ rfl
   replace xbs0_2 := hbxs0.2 2 _ rfl
   replace xbs0_3 := hbxs0.2 3 _ rfl
   replace hlbs0 : w3.heap.size < w11.heap.size := hbxs0.1
   replace xbx0_0 := hbxx0.2 0 _ rfl
   replace xbx0_1 := hbxx0.2 1 _ rfl
   replace xbx0_2 := hbxx0.2 2 _ rfl
   replace xbx0_3 := hbxx0.2 3 _ rfl
   replace hlbx0 : w4.heap.size < w11.heap.size := hbxx0.1
   replace xbg0_0 := hbxg0.2 0 _ rfl
   replace xbg0_1 := hbxg0.2 1 _ rfl
   replace xbg0_2 := hbxg0.2 2 _ rfl
   replace xbg0_3 := hbxg0.2 3 _ rfl
   replace hlbg0 : w5.heap.size < w11.heap.size := hbxg0.1
   have hB11 : Below w.heap.size w w11 := bthen hB10 hG11
   clear hx11
   have hC := fun (W : World) (hb : Below w11.heap.size w11 W) => eqByteSS_yes_r _ _ R1 W (((rdBs_own hog1).below hb).mono hb.size) ((hrs1.below (hb.mono hbs1)).mono (Nat.le_trans hbs1 hb.size)) (by omega)
   go_wp2_with fail
   refine Calls.mono (hC _ ?_) ?_
   ·exact gbt
   clear hC
   rintro e w12 ⟨rfl, hx12⟩
   have hZ12 : w11.heap.size ≤ w12.heap.size := by have h := hx12.size; first | exact h | (simp at h; omega)
   have hG12 : Below w11.heap.size w11 w12 := bthen (hx := hx12) (h := gbt)
   replace hbxA0 := hbxA0.under hG12
   replace hbxs0 := hbxs0.under hG12
   replace hbxx0 := hbxx0.under hG12
   replace hbxg0 := hbxg0.under hG12
   have hoN := (oDisk_good.frame hog0 (fun b hb => hG12.block b (oDisk_good.lt hog0 b hb)))
   clear hog0
   have hog0 := hoN
   clear hoN
   have hoN := (ownS.frame oBy_good hog1 (fun b hb => hG12.block b (ownS.lt oBy_good hog1 b hb)))
   clear hog1
   have hog1 := hoN
   clear hoN
   replace hrs0 := (rDisk_good.below hrs0 (hG12.mono hbs0))
   replace hbs0 := Nat.le_trans hbs0 hG12.size
   replace hrs1 := (hrs1.below (hG12.mono hbs1))
   replace hbs1 := Nat.le_trans hbs1 hG12.size
   replace xbA0_0 := hbxA0.2 0 _ rfl
   replace xbA0_1 := hbxA0.2 1 _ rfl
   replace xbA0_2 := hbxA0.2 2 _ rfl
   replace xbA0_3 := hbxA0.2 3 _ rfl
   replace hlbA0 : w.heap.size < w12.heap.size := hbxA0.1
   replace xbs0_0 := hbxs0.2 0 _ rfl
   replace xbs0_1 := hbxs0.2 1 _ rfl
   replace xbs0_2 := hbxs0.2 2 _ rfl
   replace xbs0_3 := hbxs0.2 3 _ rfl
   replace hlbs0 : w3.heap.size < w12.heap.size := hbxs0.1
   replace xbx0_0 := hbxx0.2 0 _ rfl
   replace xbx0_1 := hbxx0.2 1 _ rfl
   replace xbx0_2 := hbxx0.2 2 _ rfl
   replace xbx0_3 := hbxx0.2 3 _ rfl
   replace hlbx0 : w4.heap.size < w12.heap.size := hbxx0.1
   replace xbg0_0 := hbxg0.2 0 _ rfl
   replace xbg0_1 := hbxg0.2 1 _ rfl
   replace xbg0_2 := hbxg0.2 2 _ rfl
   replace xbg0_3 := hbxg0.2 3 _ rfl
   replace hlbg0 : w5.heap.size < w12.heap.size := hbxg0.1
   have hB12 : Below w.heap.size w w12 := bthen hB11 hG12
   clear hx12
   have hC := fun (W : World) (hb : Below w12.heap.size w12 W) => markDisk_b _ R0 Fg0 1 W (by omega) (by omega) (oDisk_good.frame hog0 (fun b hb2 => hb.block b (oDisk_good.lt hog0 b hb2))) hNg0
   go_wp2_with fail
   refine Calls.mono (hC _ ?_) ?_
   ·exact gbt
   clear hC
   rintro e w13 ⟨mmg0, qg0, rfl, hqag0, hqbg0, homg0, hhg0, hx13⟩
   have hZ13 : w12.heap.size ≤ w13.heap.size := by have h := hx13.size; first | exact h | (simp at h; omega)
   have hG13 : Turn Fg0 w12 w13 := Turn.after (hx := hx13) (h := gbt)
   replace hbxA0 : Bx w13 (w.heap.size) [.slice a0_0 m0.fInodes.length c0_0, .slice a0_1 m0.fNames.length c0_1, .slice a0_2 m0.fSafe.length c0_2, .int .i64 m0.fNext] := hbxA0.turn hG13 (fun hm => by have h1 := hgeg0o _ hm; have h2 := hltg0 _ hm; omega)
   replace hbxs0 : Bx w13 (w3.heap.size) [.slice as0_0 R0.fInodes.length cs0_0, .slice as0_1 R0.fNames.length cs0_1, .slice as0_2 R0.fSafe.length cs0_2, .int .i64 R0.fNext] := hbxs0.turn hG13 (fun hm => by have h1 := hgeg0o _ hm; have h2 := hltg0 _ hm; omega)
   replace hbxx0 : Bx w13 (w4.heap.size) [.slice ax0_0 m0.fInodes.length cx0_0, .slice ax0_1 m0.fNames.length cx0_1, .slice ax0_2 m0.fSafe.length cx0_2, .int .i64 m0.fNext] := hbxx0.turn hG13 (fun hm => by have h1 := hgeg0o _ hm; have h2 := hltg0 _ hm; omega)
   replace hbxg0 : Bx w13 (w5.heap.size) [.slice ag0_0 R0.fInodes.length cg0_0, .slice ag0_1 R0.fNames.length cg0_1, .slice ag0_2 R0.fSafe.length cg0_2, .int .i64 R0.fNext] := hbxg0.turn hG13 (fun hm => by have h1 := hgeg0o _ hm; have h2 := hltg0 _ hm; omega)
   have hoN := (ownS.frame oBy_good hog1 (fun b hb => hG13.block b (ownS.lt oBy_good hog1 b hb) (fun hm => hdg _ hm hb)))
   clear hog1
   have hog1 := hoN
   clear hoN
   replace hrs0 := (rDisk_good.below hrs0 (Turn.below hG13 (fun k hk => by have h1 := hgeg0o _ hk; omega) hbs0))
   replace hbs0 := Nat.le_trans hbs0 hG13.size
   replace hrs1 := (hrs1.below (Turn.below hG13 (fun k hk => by have h1 := hgeg0o _ hk; omega) hbs1))
   replace hbs1 := Nat.le_trans hbs1 hG13.size
   replace xbA0_0 := hbxA0.2 0 _ rfl
   replace xbA0_1 := hbxA0.2 1 _ rfl
   replace xbA0_2 := hbxA0.2 2 _ rfl
   replace xbA0_3 := hbxA0.2 3 _ rfl
   replace hlbA0 : w.heap.size < w13.heap.size := hbxA0.1
   replace xbs0_0 := hbxs0.2 0 _ rfl
   replace xbs0_1 := hbxs0.2 1 _ rfl
   replace xbs0_2 := hbxs0.2 2 _ rfl
   replace xbs0_3 := hbxs0.2 3 _ rfl
   replace hlbs0 : w3.heap.size < w13.heap.size := hbxs0.1
   replace xbx0_0 := hbxx0.2 0 _ rfl
   replace xbx0_1 := hbxx0.2 1 _ rfl
   replace xbx0_2 := hbxx0.2 2 _ rfl
   replace xbx0_3 := hbxx0.2 3 _ rfl
   replace hlbx0 : w4.heap.size < w13.heap.size := hbxx0.1
   replace xbg0_0 := hbxg0.2 0 _ rfl
   replace xbg0_1 := hbxg0.2 1 _ rfl
   replace xbg0_2 := hbxg0.2 2 _ rfl
   replace xbg0_3 := hbxg0.2 3 _ rfl
   replace hlbg0 : w5.heap.size < w13.heap.size := hbxg0.1
   have hB13 : Below w.heap.size w w13 := Turn.under hB12 hG13 (fun k hk => by have h1 := hgeg0o _ hk; have h2 := hB12.size; omega)
   clear hx13 hog0
   have hog0 := homg0
   clear homg0
   have hC := fun (W : World) (hb : Below w13.heap.size w13 W) => markByteSS_r _ R1 Fg1 qg0 W (by omega) (by omega) (ownS.frame oBy_good hog1 (fun b hb2 => hb.block b (ownS.lt oBy_good hog1 b hb2))) hNg1
   go_wp2_with fail
   refine Calls.mono (hC _ ?_) ?_
   ·exact gbt
   clear hC
   rintro e w14 ⟨mmg1, qg1, rfl, hqag1, hqbg1, homg1, hhg1, hx14⟩
   have hZ14 : w13.heap.size ≤ w14.heap.size := by have h := hx14.size; first | exact h | (simp at h; omega)
   have hG14 : Turn Fg1 w13 w14 := Turn.after (hx := hx14) (h := gbt)
   replace hbxA0 : Bx w14 (w.heap.size) [.slice a0_0 m0.fInodes.length c0_0, .slice a0_1 m0.fNames.length c0_1, .slice a0_2 m0.fSafe.length c0_2, .int .i64 m0.fNext] := hbxA0.turn hG14 (fun hm => by have h1 := hgeg1o _ hm; have h2 := hltg1 _ hm; omega)
   replace hbxs0 : Bx w14 (w3.heap.size) [.slice as0_0 R0.fInodes.length cs0_0, .slice as0_1 R0.fNames.length cs0_1, .slice as0_2 R0.fSafe.length cs0_2, .int .i64 R0.fNext] := hbxs0.turn hG14 (fun hm => by have h1 := hgeg1o _ hm; have h2 := hltg1 _ hm; omega)
   replace hbxx0 : Bx w14 (w4.heap.size) [.slice ax0_0 m0.fInodes.length cx0_0, .slice ax0_1 m0.fNames.length cx0_1, .slice ax0_2 m0.fSafe.length cx0_2, .int .i64 m0.fNext] := hbxx0.turn hG14 (fun hm => by have h1 := hgeg1o _ hm; have h2 := hltg1 _ hm; omega)
   replace hbxg0 : Bx w14 (w5.heap.size) [.slice ag0_0 R0.fInodes.length cg0_0, .slice ag0_1 R0.fNames.length cg0_1, .slice ag0_2 R0.fSafe.length cg0_2, .int .i64 R0.fNext] := hbxg0.turn hG14 (fun hm => by have h1 := hgeg1o _ hm; have h2 := hltg1 _ hm; omega)
   have hoN := (oDisk_good.frame hog0 (fun b hb => hG14.block b (oDisk_good.lt hog0 b hb) (fun hm => hdg _ hb hm)))
   clear hog0
   have hog0 := hoN
   clear hoN
   replace hrs0 := (rDisk_good.below hrs0 (Turn.below hG14 (fun k hk => by have h1 := hgeg1o _ hk; omega) hbs0))
   replace hbs0 := Nat.le_trans hbs0 hG14.size
   replace hrs1 := (hrs1.below (Turn.below hG14 (fun k hk => by have h1 := hgeg1o _ hk; omega) hbs1))
   replace hbs1 := Nat.le_trans hbs1 hG14.size
   replace xbA0_0 := hbxA0.2 0 _ rfl
   replace xbA0_1 := hbxA0.2 1 _ rfl
   replace xbA0_2 := hbxA0.2 2 _ rfl
   replace xbA0_3 := hbxA0.2 3 _ rfl
   replace hlbA0 : w.heap.size < w14.heap.size := hbxA0.1
   replace xbs0_0 := hbxs0.2 0 _ rfl
   replace xbs0_1 := hbxs0.2 1 _ rfl
   replace xbs0_2 := hbxs0.2 2 _ rfl
   replace xbs0_3 := hbxs0.2 3 _ rfl
   replace hlbs0 : w3.heap.size < w14.heap.size := hbxs0.1
   replace xbx0_0 := hbxx0.2 0 _ rfl
   replace xbx0_1 := hbxx0.2 1 _ rfl
   replace xbx0_2 := hbxx0.2 2 _ rfl
   replace xbx0_3 := hbxx0.2 3 _ rfl
   replace hlbx0 : w4.heap.size < w14.heap.size := hbxx0.1
   replace xbg0_0 := hbxg0.2 0 _ rfl
   replace xbg0_1 := hbxg0.2 1 _ rfl
   replace xbg0_2 := hbxg0.2 2 _ rfl
   replace xbg0_3 := hbxg0.2 3 _ rfl
   replace hlbg0 : w5.heap.size < w14.heap.size := hbxg0.1
   have hB14 : Below w.heap.size w w14 := Turn.under hB13 hG14 (fun k hk => by have h1 := hgeg1o _ hk; have h2 := hB13.size; omega)
   clear hx14 hog1
   have hog1 := homg1
   clear homg1
   have hC := fun (W : World) (hb : Below w14.heap.size w14 W) => heldDisk_any _ mmg0 1 qg0 W (rDisk_good.mono (rDisk_good.below (oDisk_good.read hog0) hb) hb.size) hhg0 (by omega) (by omega)
   go_wp2_with fail
   refine Calls.mono (hC _ ?_) ?_
   ·exact gbt
   clear hC
   rintro e w15 ⟨rfl, hx15⟩
   have hZ15 : w14.heap.size ≤ w15.heap.size := by have h := hx15.size; first | exact h | (simp at h; omega)
   have hG15 : Below w14.heap.size w14 w15 := bthen (hx := hx15) (h := gbt)
   replace hbxA0 := hbxA0.under hG15
   replace hbxs0 := hbxs0.under hG15
   replace hbxx0 := hbxx0.under hG15
   replace hbxg0 := hbxg0.under hG15
   have hoN := (oDisk_good.frame hog0 (fun b hb => hG15.block b (oDisk_good.lt hog0 b hb)))
   clear hog0
   have hog0 := hoN
   clear hoN
   have hoN := (ownS.frame oBy_good hog1 (fun b hb => hG15.block b (ownS.lt oBy_good hog1 b hb)))
   clear hog1
   have hog1 := hoN
   clear hoN
   replace hrs0 := (rDisk_good.below hrs0 (hG15.mono hbs0))
   replace hbs0 := Nat.le_trans hbs0 hG15.size
   replace hrs1 := (hrs1.below (hG15.mono hbs1))
   replace hbs1 := Nat.le_trans hbs1 hG15.size
   replace xbA0_0 := hbxA0.2 0 _ rfl
   replace xbA0_1 := hbxA0.2 1 _ rfl
   replace xbA0_2 := hbxA0.2 2 _ rfl
   replace xbA0_3 := hbxA0.2 3 _ rfl
   replace hlbA0 : w.heap.size < w15.heap.size := hbxA0.1
   replace xbs0_0 := hbxs0.2 0 _ rfl
   replace xbs0_1 := hbxs0.2 1 _ rfl
   replace xbs0_2 := hbxs0.2 2 _ rfl
   replace xbs0_3 := hbxs0.2 3 _ rfl
   replace hlbs0 : w3.heap.size < w15.heap.size := hbxs0.1
   replace xbx0_0 := hbxx0.2 0 _ rfl
   replace xbx0_1 := hbxx0.2 1 _ rfl
   replace xbx0_2 := hbxx0.2 2 _ rfl
   replace xbx0_3 := hbxx0.2 3 _ rfl
   replace hlbx0 : w4.heap.size < w15.heap.size := hbxx0.1
   replace xbg0_0 := hbxg0.2 0 _ rfl
   replace xbg0_1 := hbxg0.2 1 _ rfl
   replace xbg0_2 := hbxg0.2 2 _ rfl
   replace xbg0_3 := hbxg0.2 3 _ rfl
   replace hlbg0 : w5.heap.size < w15.heap.size := hbxg0.1
   have hB15 : Below w.heap.size w w15 := bthen hB14 hG15
   clear hx15
   have hC := fun (W : World) (hb : Below w15.heap.size w15 W) => heldByteSS_r _ mmg1 qg0 qg1 W (((rdBs_own hog1).below hb).mono hb.size) hhg1 (by omega) (by omega)
   go_wp2_with fail
   refine Calls.mono (hC _ ?_) ?_
   ·exact gbt
   clear hC
   rintro e w16 ⟨rfl, hx16⟩
   have hZ16 : w15.heap.size ≤ w16.heap.size := by have h := hx16.size; first | exact h | (simp at h; omega)
   have hG16 : Below w15.heap.size w15 w16 := bthen (hx := hx16) (h := gbt)
   replace hbxA0 := hbxA0.under hG16
   replace hbxs0 := hbxs0.under hG16
   replace hbxx0 := hbxx0.under hG16
   replace hbxg0 := hbxg0.under hG16
   have hoN := (oDisk_good.frame hog0 (fun b hb => hG16.block b (oDisk_good.lt hog0 b hb)))
   clear hog0
   have hog0 := hoN
   clear hoN
   have hoN := (ownS.frame oBy_good hog1 (fun b hb => hG16.block b (ownS.lt oBy_good hog1 b hb)))
   clear hog1
   have hog1 := hoN
   clear hoN
   replace hrs0 := (rDisk_good.below hrs0 (hG16.mono hbs0))
   replace hbs0 := Nat.le_trans hbs0 hG16.size
   replace hrs1 := (hrs1.below (hG16.mono hbs1))
   replace hbs1 := Nat.le_trans hbs1 hG16.size
   replace xbA0_0 := hbxA0.2 0 _ rfl
   replace xbA0_1 := hbxA0.2 1 _ rfl
   replace xbA0_2 := hbxA0.2 2 _ rfl
   replace xbA0_3 := hbxA0.2 3 _ rfl
   replace hlbA0 : w.heap.size < w16.heap.size := hbxA0.1
   replace xbs0_0 := hbxs0.2 0 _ rfl
   replace xbs0_1 := hbxs0.2 1 _ rfl
   replace xbs0_2 := hbxs0.2 2 _ rfl
   replace xbs0_3 := hbxs0.2 3 _ rfl
   replace hlbs0 : w3.heap.size < w16.heap.size := hbxs0.1
   replace xbx0_0 := hbxx0.2 0 _ rfl
   replace xbx0_1 := hbxx0.2 1 _ rfl
   replace xbx0_2 := hbxx0.2 2 _ rfl
   replace xbx0_3 := hbxx0.2 3 _ rfl
   replace hlbx0 : w4.heap.size < w16.heap.size := hbxx0.1
   replace xbg0_0 := hbxg0.2 0 _ rfl
   replace xbg0_1 := hbxg0.2 1 _ rfl
   replace xbg0_2 := hbxg0.2 2 _ rfl
   replace xbg0_3 := hbxg0.2 3 _ rfl
   replace hlbg0 : w5.heap.size < w16.heap.size := hbxg0.1
   have hB16 : Below w.heap.size w w16 := bthen hB15 hG16
   clear hx16
   have hC := fun (W : World) (hb : Below w16.heap.size w16 W) => toDisk_any _ m0 W (rDisk_good.mono (rDisk_good.below hr0 (bthen hB16 hb)) (bthen hB16 hb).size) hwn0
   go_wp2_with fail
   refine Calls.mono (hC _ ?_) ?_
   ·exact gbt
   clear hC
   rintro e w17 ⟨vh0, Fh0, rfl, hoh0, hNh0, hgeh0, hx17⟩
   have hZ17 : w16.heap.size ≤ w17.heap.size := by have h := hx17.size; first | exact h | (simp at h; omega)
   have hgeh0o : ∀ b, b ∈ Fh0 → w16.heap.size ≤ b := fun b hb => by have h := hgeh0 b hb; first | exact h | (simp at h; omega)
   clear hgeh0
   have hG17 : Below w16.heap.size w16 w17 := bthen (hx := hx17) (h := gbt)
   replace hbxA0 := hbxA0.under hG17
   replace hbxs0 := hbxs0.under hG17
   replace hbxx0 := hbxx0.under hG17
   replace hbxg0 := hbxg0.under hG17
   have hoN := (oDisk_good.frame hog0 (fun b hb => hG17.block b (oDisk_good.lt hog0 b hb)))
   clear hog0
   have hog0 := hoN
   clear hoN
   have hoN := (ownS.frame oBy_good hog1 (fun b hb => hG17.block b (ownS.lt oBy_good hog1 b hb)))
   clear hog1
   have hog1 := hoN
   clear hoN
   replace hrs0 := (rDisk_good.below hrs0 (hG17.mono hbs0))
   replace hbs0 := Nat.le_trans hbs0 hG17.size
   replace hrs1 := (hrs1.below (hG17.mono hbs1))
   replace hbs1 := Nat.le_trans hbs1 hG17.size
   replace xbA0_0 := hbxA0.2 0 _ rfl
   replace xbA0_1 := hbxA0.2 1 _ rfl
   replace xbA0_2 := hbxA0.2 2 _ rfl
   replace xbA0_3 := hbxA0.2 3 _ rfl
   replace hlbA0 : w.heap.size < w17.heap.size := hbxA0.1
   replace xbs0_0 := hbxs0.2 0 _ rfl
   replace xbs0_1 := hbxs0.2 1 _ rfl
   replace xbs0_2 := hbxs0.2 2 _ rfl
   replace xbs0_3 := hbxs0.2 3 _ rfl
   replace hlbs0 : w3.heap.size < w17.heap.size := hbxs0.1
   replace xbx0_0 := hbxx0.2 0 _ rfl
   replace xbx0_1 := hbxx0.2 1 _ rfl
   replace xbx0_2 := hbxx0.2 2 _ rfl
   replace xbx0_3 := hbxx0.2 3 _ rfl
   replace hlbx0 : w4.heap.size < w17.heap.size := hbxx0.1
   replace xbg0_0 := hbxg0.2 0 _ rfl
   replace xbg0_1 := hbxg0.2 1 _ rfl
   replace xbg0_2 := hbxg0.2 2 _ rfl
   replace xbg0_3 := hbxg0.2 3 _ rfl
   replace hlbg0 : w5.heap.size < w17.heap.size := hbxg0.1
   have hB17 : Below w.heap.size w w17 := bthen hB16 hG17
   clear hx17
   have hlth0 : ∀ b, b ∈ Fh0 → b < w17.heap.size := fun b hb => oDisk_good.lt hoh0 b hb
   have hC := fun (W : World) (hb : Below w17.heap.size w17 W) => implMend_c _ m0 m1 W (rDisk_good.mono (rDisk_good.below (oDisk_good.read hoh0) hb) hb.size) hs1 hwn0 hwn1 (hT.below (bthen hB17 hb) hsz)
   go_wp2_with fail
   refine Calls.mono (hC _ ?_) ?_
   ·exact gbt
   clear hC
   rintro e w18 ⟨vk0, Fk0, vk1, Fk1, he, hok0, hNk0, hgek0, hok1, hNk1, hgek1, hdk, hx18⟩
   have hZ18 : w17.heap.size ≤ w18.heap.size := by have h := hx18.size; first | exact h | (simp at h; omega)
   rw [← HR0.out] at hok0
   have hgek0o : ∀ b, b ∈ Fk0 → w17.heap.size ≤ b := fun b hb => by have h := hgek0 b hb; first | exact h | (simp at h; omega)
   clear hgek0
   rw [← HR1.out] at hok1
   have hgek1o : ∀ b, b ∈ Fk1 → w17.heap.size ≤ b := fun b hb => by have h := hgek1 b hb; first | exact h | (simp at h; omega)
   clear hgek1
   rw [← HR2.out] at he
   subst he
   have hG18 : Below w17.heap.size w17 w18 := bthen (hx := hx18) (h := gbt)
   replace hbxA0 := hbxA0.under hG18
   replace hbxs0 := hbxs0.under hG18
   replace hbxx0 := hbxx0.under hG18
   replace hbxg0 := hbxg0.under hG18
   have hoN := (oDisk_good.frame hog0 (fun b hb => hG18.block b (oDisk_good.lt hog0 b hb)))
   clear hog0
   have hog0 := hoN
   clear hoN
   have hoN := (ownS.frame oBy_good hog1 (fun b hb => hG18.block b (ownS.lt oBy_good hog1 b hb)))
   clear hog1
   have hog1 := hoN
   clear hoN
   have hoN := (oDisk_good.frame hoh0 (fun b hb => hG18.block b (oDisk_good.lt hoh0 b hb)))
   clear hoh0
   have hoh0 := hoN
   clear hoN
   replace hrs0 := (rDisk_good.below hrs0 (hG18.mono hbs0))
   replace hbs0 := Nat.le_trans hbs0 hG18.size
   replace hrs1 := (hrs1.below (hG18.mono hbs1))
   replace hbs1 := Nat.le_trans hbs1 hG18.size
   replace xbA0_0 := hbxA0.2 0 _ rfl
   replace xbA0_1 := hbxA0.2 1 _ rfl
   replace xbA0_2 := hbxA0.2 2 _ rfl
   replace xbA0_3 := hbxA0.2 3 _ rfl
   replace hlbA0 : w.heap.size < w18.heap.size := hbxA0.1
   replace xbs0_0 := hbxs0.2 0 _ rfl
   replace xbs0_1 := hbxs0.2 1 _ rfl
   replace xbs0_2 := hbxs0.2 2 _ rfl
   replace xbs0_3 := hbxs0.2 3 _ rfl
   replace hlbs0 : w3.heap.size < w18.heap.size := hbxs0.1
   replace xbx0_0 := hbxx0.2 0 _ rfl
   replace xbx0_1 := hbxx0.2 1 _ rfl
   replace xbx0_2 := hbxx0.2 2 _ rfl
   replace xbx0_3 := hbxx0.2 3 _ rfl
   replace hlbx0 : w4.heap.size < w18.heap.size := hbxx0.1
   replace xbg0_0 := hbxg0.2 0 _ rfl
   replace xbg0_1 := hbxg0.2 1 _ rfl
   replace xbg0_2 := hbxg0.2 2 _ rfl
   replace xbg0_3 := hbxg0.2 3 _ rfl
   replace hlbg0 : w5.heap.size < w18.heap.size := hbxg0.1
   have hB18 : Below w.heap.size w w18 := bthen hB17 hG18
   clear hx18
   have hltk0 : ∀ b, b ∈ Fk0 → b < w18.heap.size := fun b hb => oDisk_good.lt hok0 b hb
   have hq := (oDisk_good.read hok0)
   obtain ⟨ak0_0, ck0_0, ak0_1, ck0_1, ak0_2, ck0_2, rfl, _⟩ := hq
   have hltk1 : ∀ b, b ∈ Fk1 → b < w18.heap.size := fun b hb => ownS.lt oBy_good hok1 b hb
   obtain ⟨ak1, ck1, rfl, _⟩ := id ((rdBs_own hok1))
   clear hoh0
   have hC := fun (W : World) (hb : Below w18.heap.size w18 W) => eqDisk_yes _ _ R0 W (rDisk_good.mono (rDisk_good.below (oDisk_good.read hok0) hb) hb.size) (rDisk_good.mono (rDisk_good.below hrs0 (hb.mono hbs0)) (Nat.le_trans hbs0 hb.size)) (by omega)
   go_wp2_with fail
   refine Calls.mono (hC _ ?_) ?_
   ·exact gbt
   clear hC
   rintro e w19 ⟨rfl, hx19⟩
   have hZ19 : w18.heap.size + 1 ≤ w19.heap.size := by have h := hx19.size; first | exact h | (simp at h; omega)
   have hG19 : Below w18.heap.size w18 w19 := bthen (hx := hx19) (h := gbt)
   replace hbxA0 := hbxA0.under hG19
   replace hbxs0 := hbxs0.under hG19
   replace hbxx0 := hbxx0.under hG19
   replace hbxg0 := hbxg0.under hG19
   have hoN := (oDisk_good.frame hog0 (fun b hb => hG19.block b (oDisk_good.lt hog0 b hb)))
   clear hog0
   have hog0 := hoN
   clear hoN
   have hoN := (ownS.frame oBy_good hog1 (fun b hb => hG19.block b (ownS.lt oBy_good hog1 b hb)))
   clear hog1
   have hog1 := hoN
   clear hoN
   have hoN := (oDisk_good.frame hok0 (fun b hb => hG19.block b (oDisk_good.lt hok0 b hb)))
   clear hok0
   have hok0 := hoN
   clear hoN
   have hoN := (ownS.frame oBy_good hok1 (fun b hb => hG19.block b (ownS.lt oBy_good hok1 b hb)))
   clear hok1
   have hok1 := hoN
   clear hoN
   replace hrs0 := (rDisk_good.below hrs0 (hG19.mono hbs0))
   replace hbs0 := Nat.le_trans hbs0 hG19.size
   replace hrs1 := (hrs1.below (hG19.mono hbs1))
   replace hbs1 := Nat.le_trans hbs1 hG19.size
   have hbxk0 : Bx w19 (w18.heap.size) [.slice ak0_0 R0.fInodes.length ck0_0, .slice ak0_1 R0.fNames.length ck0_1, .slice ak0_2 R0.fSafe.length ck0_2, .int .i64 R0.fNext] := (Bx.new _ [.slice ak0_0 R0.fInodes.length ck0_0, .slice ak0_1 R0.fNames.length ck0_1, .slice ak0_2 R0.fSafe.length ck0_2, .int .i64 R0.fNext] _).under hx19
   replace xbA0_0 := hbxA0.2 0 _ rfl
   replace xbA0_1 := hbxA0.2 1 _ rfl
   replace xbA0_2 := hbxA0.2 2 _ rfl
   replace xbA0_3 := hbxA0.2 3 _ rfl
   replace hlbA0 : w.heap.size < w19.heap.size := hbxA0.1
   replace xbs0_0 := hbxs0.2 0 _ rfl
   replace xbs0_1 := hbxs0.2 1 _ rfl
   replace xbs0_2 := hbxs0.2 2 _ rfl
   replace xbs0_3 := hbxs0.2 3 _ rfl
   replace hlbs0 : w3.heap.size < w19.heap.size := hbxs0.1
   replace xbx0_0 := hbxx0.2 0 _ rfl
   replace xbx0_1 := hbxx0.2 1 _ rfl
   replace xbx0_2 := hbxx0.2 2 _ rfl
   replace xbx0_3 := hbxx0.2 3 _ rfl
   replace hlbx0 : w4.heap.size < w19.heap.size := hbxx0.1
   replace xbg0_0 := hbxg0.2 0 _ rfl
   replace xbg0_1 := hbxg0.2 1 _ rfl
   replace xbg0_2 := hbxg0.2 2 _ rfl
   replace xbg0_3 := hbxg0.2 3 _ rfl
   replace hlbg0 : w5.heap.size < w19.heap.size := hbxg0.1
   have xbk0_0 : w19.cell? ⟨w18.heap.size, 0, none⟩ = some (.slice ak0_0 R0.fInodes.length ck0_0) := hbxk0.2 0 _ rfl
   have xbk0_1 : w19.cell? ⟨w18.heap.size, 1, none⟩ = some (.slice ak0_1 R0.fNames.length ck0_1) := hbxk0.2 1 _ rfl
   have xbk0_2 : w19.cell? ⟨w18.heap.size, 2, none⟩ = some (.slice ak0_2 R0.fSafe.length ck0_2) := hbxk0.2 2 _ rfl
   have xbk0_3 : w19.cell? ⟨w18.heap.size, 3, none⟩ = some (.int .i64 R0.fNext) := hbxk0.2 3 _ rfl
   have hlbk0 : w18.heap.size < w19.heap.size := hbxk0.1
   have hB19 : Below w.heap.size w w19 := bthen hB18 hG19
   clear hx19
   have hC := fun (W : World) (hb : Below w19.heap.size w19 W) => eqByteSS_yes_r _ _ R1 W (((rdBs_own hok1).below hb).mono hb.size) ((hrs1.below (hb.mono hbs1)).mono (Nat.le_trans hbs1 hb.size)) (by omega)
   go_wp2_with fail
   refine Calls.mono (hC _ ?_) ?_
   ·exact gbt
   clear hC
   rintro e w20 ⟨rfl, hx20⟩
   have hZ20 : w19.heap.size ≤ w20.heap.size := by have h := hx20.size; first | exact h | (simp at h; omega)
   have hG20 : Below w19.heap.size w19 w20 := bthen (hx := hx20) (h := gbt)
   replace hbxA0 := hbxA0.under hG20
   replace hbxs0 := hbxs0.under hG20
   replace hbxx0 := hbxx0.under hG20
   replace hbxg0 := hbxg0.under hG20
   replace hbxk0 := hbxk0.under hG20
   have hoN := (oDisk_good.frame hog0 (fun b hb => hG20.block b (oDisk_good.lt hog0 b hb)))
   clear hog0
   have hog0 := hoN
   clear hoN
   have hoN := (ownS.frame oBy_good hog1 (fun b hb => hG20.block b (ownS.lt oBy_good hog1 b hb)))
   clear hog1
   have hog1 := hoN
   clear hoN
   have hoN := (oDisk_good.frame hok0 (fun b hb => hG20.block b (oDisk_good.lt hok0 b hb)))
   clear hok0
   have hok0 := hoN
   clear hoN
   have hoN := (ownS.frame oBy_good hok1 (fun b hb => hG20.block b (ownS.lt oBy_good hok1 b hb)))
   clear hok1
   have hok1 := hoN
   clear hoN
   replace hrs0 := (rDisk_good.below hrs0 (hG20.mono hbs0))
   replace hbs0 := Nat.le_trans hbs0 hG20.size
   replace hrs1 := (hrs1.below (hG20.mono hbs1))
   replace hbs1 := Nat.le_trans hbs1 hG20.size
   replace xbA0_0 := hbxA0.2 0 _ rfl
   replace xbA0_1 := hbxA0.2 1 _ rfl
   replace xbA0_2 := hbxA0.2 2 _ rfl
   replace xbA0_3 := hbxA0.2 3 _ rfl
   replace hlbA0 : w.heap.size < w20.heap.size := hbxA0.1
   replace xbs0_0 := hbxs0.2 0 _ rfl
   replace xbs0_1 := hbxs0.2 1 _ rfl
   replace xbs0_2 := hbxs0.2 2 _ rfl
   replace xbs0_3 := hbxs0.2 3 _ rfl
   replace hlbs0 : w3.heap.size < w20.heap.size := hbxs0.1
   replace xbx0_0 := hbxx0.2 0 _ rfl
   replace xbx0_1 := hbxx0.2 1 _ rfl
   replace xbx0_2 := hbxx0.2 2 _ rfl
   replace xbx0_3 := hbxx0.2 3 _ rfl
   replace hlbx0 : w4.heap.size < w20.heap.size := hbxx0.1
   replace xbg0_0 := hbxg0.2 0 _ rfl
   replace xbg0_1 := hbxg0.2 1 _ rfl
   replace xbg0_2 := hbxg0.2 2 _ rfl
   replace xbg0_3 := hbxg0.2 3 _ rfl
   replace hlbg0 : w5.heap.size < w20.heap.size := hbxg0.1
   replace xbk0_0 := hbxk0.2 0 _ rfl
   replace xbk0_1 := hbxk0.2 1 _ rfl
   replace xbk0_2 := hbxk0.2 2 _ rfl
   replace xbk0_3 := hbxk0.2 3 _ rfl
   replace hlbk0 : w18.heap.size < w20.heap.size := hbxk0.1
   have hB20 : Below w.heap.size w w20 := bthen hB19 hG20
   clear hx20
   have hC := fun (W : World) (hb : Below w20.heap.size w20 W) => heldDisk_any _ mmg0 1 qg0 W (rDisk_good.mono (rDisk_good.below (oDisk_good.read hog0) hb) hb.size) hhg0 (by omega) (by omega)
   go_wp2_with fail
   refine Calls.mono (hC _ ?_) ?_
   ·exact gbt
   clear hC
   rintro e w21 ⟨rfl, hx21⟩
   have hZ21 : w20.heap.size ≤ w21.heap.size := by have h := hx21.size; first | exact h | (simp at h; omega)
   have hG21 : Below w20.heap.size w20 w21 := bthen (hx := hx21) (h := gbt)
   replace hbxA0 := hbxA0.under hG21
   replace hbxs0 := hbxs0.under hG21
   replace hbxx0 := hbxx0.under hG21
   replace hbxg0 := hbxg0.under hG21
   replace hbxk0 := hbxk0.under hG21
   have hoN := (oDisk_good.frame hog0 (fun b hb => hG21.block b (oDisk_good.lt hog0 b hb)))
   clear hog0
   have hog0 := hoN
   clear hoN
   have hoN := (ownS.frame oBy_good hog1 (fun b hb => hG21.block b (ownS.lt oBy_good hog1 b hb)))
   clear hog1
   have hog1 := hoN
   clear hoN
   have hoN := (oDisk_good.frame hok0 (fun b hb => hG21.block b (oDisk_good.lt hok0 b hb)))
   clear hok0
   have hok0 := hoN
   clear hoN
   have hoN := (ownS.frame oBy_good hok1 (fun b hb => hG21.block b (ownS.lt oBy_good hok1 b hb)))
   clear hok1
   have hok1 := hoN
   clear hoN
   replace hrs0 := (rDisk_good.below hrs0 (hG21.mono hbs0))
   replace hbs0 := Nat.le_trans hbs0 hG21.size
   replace hrs1 := (hrs1.below (hG21.mono hbs1))
   replace hbs1 := Nat.le_trans hbs1 hG21.size
   replace xbA0_0 := hbxA0.2 0 _ rfl
   replace xbA0_1 := hbxA0.2 1 _ rfl
   replace xbA0_2 := hbxA0.2 2 _ rfl
   replace xbA0_3 := hbxA0.2 3 _ rfl
   replace hlbA0 : w.heap.size < w21.heap.size := hbxA0.1
   replace xbs0_0 := hbxs0.2 0 _ rfl
   replace xbs0_1 := hbxs0.2 1 _ rfl
   replace xbs0_2 := hbxs0.2 2 _ rfl
   replace xbs0_3 := hbxs0.2 3 _ rfl
   replace hlbs0 : w3.heap.size < w21.heap.size := hbxs0.1
   replace xbx0_0 := hbxx0.2 0 _ rfl
   replace xbx0_1 := hbxx0.2 1 _ rfl
   replace xbx0_2 := hbxx0.2 2 _ rfl
   replace xbx0_3 := hbxx0.2 3 _ rfl
   replace hlbx0 : w4.heap.size < w21.heap.size := hbxx0.1
   replace xbg0_0 := hbxg0.2 0 _ rfl
   replace xbg0_1 := hbxg0.2 1 _ rfl
   replace xbg0_2 := hbxg0.2 2 _ rfl
   replace xbg0_3 := hbxg0.2 3 _ rfl
   replace hlbg0 : w5.heap.size < w21.heap.size := hbxg0.1
   replace xbk0_0 := hbxk0.2 0 _ rfl
   replace xbk0_1 := hbxk0.2 1 _ rfl
   replace xbk0_2 := hbxk0.2 2 _ rfl
   replace xbk0_3 := hbxk0.2 3 _ rfl
   replace hlbk0 : w18.heap.size < w21.heap.size := hbxk0.1
   have hB21 : Below w.heap.size w w21 := bthen hB20 hG21
   clear hx21
   have hC := fun (W : World) (hb : Below w21.heap.size w21 W) => heldByteSS_r _ mmg1 qg0 qg1 W (((rdBs_own hog1).below hb).mono hb.size) hhg1 (by omega) (by omega)
   go_wp2_with fail
   refine Calls.mono (hC _ ?_) ?_
   ·exact gbt
   clear hC
   rintro e w22 ⟨rfl, hx22⟩
   have hZ22 : w21.heap.size ≤ w22.heap.size := by have h := hx22.size; first | exact h | (simp at h; omega)
   have hG22 : Below w21.heap.size w21 w22 := bthen (hx := hx22) (h := gbt)
   replace hbxA0 := hbxA0.under hG22
   replace hbxs0 := hbxs0.under hG22
   replace hbxx0 := hbxx0.under hG22
   replace hbxg0 := hbxg0.under hG22
   replace hbxk0 := hbxk0.under hG22
   have hoN := (oDisk_good.frame hog0 (fun b hb => hG22.block b (oDisk_good.lt hog0 b hb)))
   clear hog0
   have hog0 := hoN
   clear hoN
   have hoN := (ownS.frame oBy_good hog1 (fun b hb => hG22.block b (ownS.lt oBy_good hog1 b hb)))
   clear hog1
   have hog1 := hoN
   clear hoN
   have hoN := (oDisk_good.frame hok0 (fun b hb => hG22.block b (oDisk_good.lt hok0 b hb)))
   clear hok0
   have hok0 := hoN
   clear hoN
   have hoN := (ownS.frame oBy_good hok1 (fun b hb => hG22.block b (ownS.lt oBy_good hok1 b hb)))
   clear hok1
   have hok1 := hoN
   clear hoN
   replace hrs0 := (rDisk_good.below hrs0 (hG22.mono hbs0))
   replace hbs0 := Nat.le_trans hbs0 hG22.size
   replace hrs1 := (hrs1.below (hG22.mono hbs1))
   replace hbs1 := Nat.le_trans hbs1 hG22.size
   replace xbA0_0 := hbxA0.2 0 _ rfl
   replace xbA0_1 := hbxA0.2 1 _ rfl
   replace xbA0_2 := hbxA0.2 2 _ rfl
   replace xbA0_3 := hbxA0.2 3 _ rfl
   replace hlbA0 : w.heap.size < w22.heap.size := hbxA0.1
   replace xbs0_0 := hbxs0.2 0 _ rfl
   replace xbs0_1 := hbxs0.2 1 _ rfl
   replace xbs0_2 := hbxs0.2 2 _ rfl
   replace xbs0_3 := hbxs0.2 3 _ rfl
   replace hlbs0 : w3.heap.size < w22.heap.size := hbxs0.1
   replace xbx0_0 := hbxx0.2 0 _ rfl
   replace xbx0_1 := hbxx0.2 1 _ rfl
   replace xbx0_2 := hbxx0.2 2 _ rfl
   replace xbx0_3 := hbxx0.2 3 _ rfl
   replace hlbx0 : w4.heap.size < w22.heap.size := hbxx0.1
   replace xbg0_0 := hbxg0.2 0 _ rfl
   replace xbg0_1 := hbxg0.2 1 _ rfl
   replace xbg0_2 := hbxg0.2 2 _ rfl
   replace xbg0_3 := hbxg0.2 3 _ rfl
   replace hlbg0 : w5.heap.size < w22.heap.size := hbxg0.1
   replace xbk0_0 := hbxk0.2 0 _ rfl
   replace xbk0_1 := hbxk0.2 1 _ rfl
   replace xbk0_2 := hbxk0.2 2 _ rfl
   replace xbk0_3 := hbxk0.2 3 _ rfl
   replace hlbk0 : w18.heap.size < w22.heap.size := hbxk0.1
   have hB22 : Below w.heap.size w w22 := bthen hB21 hG22
   clear hx22
   go_wp2_with fail
   go_ret
   exact ⟨rfl, gbt⟩
 ·rw [szRes_no hw0]
  go_wp2_with fail
  all_goals
   go_ret
   exact ⟨rfl, gbt⟩
end Go.Proofs.YtolciaheoanlbaaGreatDoor
