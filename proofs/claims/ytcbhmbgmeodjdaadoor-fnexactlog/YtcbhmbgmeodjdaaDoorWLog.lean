/-
  The exact law of Log: at every disk, name and bytes both answers are the same disk and code, in memory of their own.
-/
import Derived.Test.YtcbhmbgmeodjdaaDoorDatZ
import Derived.Test.YtcbhmbgmeodjdaaDoorDatT
import Derived.Test.YtcbhmbgmeodjdaaDoorDatE
import Derived.Test.YtcbhmbgmeodjdaaDoorDatM
import Derived.Test.YtcbhmbgmeodjdaaDoorDatC
import Derived.Test.YtcbhmbgmeodjdaaDoorLog
namespace Go.Proofs.YtcbhmbgmeodjdaaDoor
open Go.RowKit
set_option linter.unusedVariables false
set_option linter.unusedSimpArgs false
set_option maxRecDepth 10000

set_option maxHeartbeats 4000000 in
theorem law_FnExactLog (cs0 : List Value) (m0 : MDisk) (m1 : ByteArray) (cs2 : Value) (m2 : List Int) (w : World) (hr0 : rDisk w.heap.size w cs0 m0) (hs1 : m1.size ≤ 9223372036854775807) (hr2 : rdB w.heap.size w cs2 m2) (hT : TabAt w) :
    Calls Tryd.prog 5 #[.agg cs0.toArray, .string m1, cs2] w fun e w' => e = .returned (.bool true) ∧ Below w.heap.size w w' := by
  have hsz : 0 < w.heap.size := World.block_lt_of_cell? _ _ (hT 0 (by decide))
  obtain ⟨a2, c2, rfl, hlf2⟩ := hr2
  have hr2 : rdB w.heap.size w (.slice a2 m2.length c2) m2 := ⟨_, _, rfl, hlf2⟩
  have hl2 : m2.length ≤ 9223372036854775807 := Nat.le_trans hlf2.1 hlf2.2.1
  clear hlf2
  have hq0 := hr0
  obtain ⟨a0_0, c0_0, a0_1, c0_1, a0_2, c0_2, rfl, _⟩ := hq0
  by_cases hbig1 : 1048576 < m1.size
  · go_enter Tryd.func5, Tryd.ntmps5
    go_wp2_with fail
    all_goals
      go_ret
      exact ⟨rfl, by repeat (first | with_reducible exact Below.refl _ _ | with_reducible assumption | with_reducible refine Below.drew ?_ | with_reducible refine Below.alloc ?_ (by first | exact Nat.le_refl _ | (simp; omega)) _ | with_reducible refine Below.setCell ?_ (by simp) _)⟩
  by_cases hbig2 : 1048576 < m2.length
  · go_enter Tryd.func5, Tryd.ntmps5
    go_wp2_with fail
    all_goals
      go_ret
      exact ⟨rfl, by repeat (first | with_reducible exact Below.refl _ _ | with_reducible assumption | with_reducible refine Below.drew ?_ | with_reducible refine Below.alloc ?_ (by first | exact Nat.le_refl _ | (simp; omega)) _ | with_reducible refine Below.setCell ?_ (by simp) _)⟩
  go_enter Tryd.func5, Tryd.ntmps5
  have hC := fun (W : World) (hb : Below w.heap.size w W) => szDisk_any _ m0 (1048576) W (by omega) (by omega) (rDisk_good.mono (rDisk_good.below hr0 hb) hb.size)
  go_wp2_with fail
  refine Calls.mono (hC _ ?_) ?_
  · repeat (first | with_reducible exact Below.refl _ _ | with_reducible assumption | with_reducible refine Below.drew ?_ | with_reducible refine Below.alloc ?_ (by first | exact Nat.le_refl _ | (simp; omega)) _ | with_reducible refine Below.setCell ?_ (by simp) _)
  clear hC
  rintro e w1 ⟨rfl, hx1⟩
  have hZ1 : w.heap.size + 1 ≤ w1.heap.size := by have h := hx1.size; first | exact h | (simp at h; omega)
  have hG1 : Below w.heap.size w w1 := bthen (hx := hx1) (h := by repeat (first | with_reducible exact Below.refl _ _ | with_reducible assumption | with_reducible refine Below.drew ?_ | with_reducible refine Below.alloc ?_ (by first | exact Nat.le_refl _ | (simp; omega)) _ | with_reducible refine Below.setCell ?_ (by simp) _))
  have hbxA0 : Bx w1 (w.heap.size) [.slice a0_0 m0.fInodes.length c0_0, .slice a0_1 m0.fNames.length c0_1, .slice a0_2 m0.fSafe.length c0_2, .int .i64 m0.fNext] := (Bx.new _ [.slice a0_0 m0.fInodes.length c0_0, .slice a0_1 m0.fNames.length c0_1, .slice a0_2 m0.fSafe.length c0_2, .int .i64 m0.fNext] _).under hx1
  have xbA0_0 : w1.cell? ⟨w.heap.size, 0, none⟩ = some (.slice a0_0 m0.fInodes.length c0_0) := hbxA0.2 0 _ rfl
  have xbA0_1 : w1.cell? ⟨w.heap.size, 1, none⟩ = some (.slice a0_1 m0.fNames.length c0_1) := hbxA0.2 1 _ rfl
  have xbA0_2 : w1.cell? ⟨w.heap.size, 2, none⟩ = some (.slice a0_2 m0.fSafe.length c0_2) := hbxA0.2 2 _ rfl
  have xbA0_3 : w1.cell? ⟨w.heap.size, 3, none⟩ = some (.int .i64 m0.fNext) := hbxA0.2 3 _ rfl
  have hlbA0 : w.heap.size < w1.heap.size := hbxA0.1
  have hB1 : Below w.heap.size w w1 := hG1
  clear hx1
  by_cases hw0 : ((wDisk m0 : Nat) : Int) ≤ 1048576
  · rw [szRes_yes hw0]
    have hwn0 : wDisk m0 ≤ 1048576 := by omega
    have hcn0 := tcntDisk_le m0
    have hwn1 : m1.size ≤ 1048576 := by omega
    have hwn2 : m2.length ≤ 1048576 := by omega
    obtain ⟨R0, hR0⟩ : ∃ R : MDisk, R = appendP m0 m1 (frame m2) := ⟨_, rfl⟩
    have hRw0 : wDisk R0 ≤ 1099511627776 := by rw [hR0]; exact boundLog_0 m0 m1 m2 hwn0 hwn1 hwn2
    have hRc0 := tcntDisk_le R0
    have HR0 := Hid.mk hR0
    clear hR0
    obtain ⟨R1, hR1⟩ : ∃ R : Int, R = appendC m0 m1 (frame m2) := ⟨_, rfl⟩
    have HR1 := Hid.mk hR1
    clear hR1
    have hC := fun (W : World) (hb : Below w1.heap.size w1 W) => toDisk_any _ m0 W (rDisk_good.mono (rDisk_good.below hr0 (bthen hB1 hb)) (bthen hB1 hb).size) hwn0
    go_wp2_with fail
    refine Calls.mono (hC _ ?_) ?_
    · repeat (first | with_reducible exact Below.refl _ _ | with_reducible assumption | with_reducible refine Below.drew ?_ | with_reducible refine Below.alloc ?_ (by first | exact Nat.le_refl _ | (simp; omega)) _ | with_reducible refine Below.setCell ?_ (by simp) _)
    clear hC
    rintro e w2 ⟨vp0, Fp0, rfl, hop0, hNp0, hgep0, hx2⟩
    have hZ2 : w1.heap.size ≤ w2.heap.size := by have h := hx2.size; first | exact h | (simp at h; omega)
    have hgep0o : ∀ b, b ∈ Fp0 → w1.heap.size ≤ b := fun b hb => by have h := hgep0 b hb; first | exact h | (simp at h; omega)
    clear hgep0
    have hG2 : Below w1.heap.size w1 w2 := bthen (hx := hx2) (h := by repeat (first | with_reducible exact Below.refl _ _ | with_reducible assumption | with_reducible refine Below.drew ?_ | with_reducible refine Below.alloc ?_ (by first | exact Nat.le_refl _ | (simp; omega)) _ | with_reducible refine Below.setCell ?_ (by simp) _))
    replace hbxA0 : Bx w2 (w.heap.size) [.slice a0_0 m0.fInodes.length c0_0, .slice a0_1 m0.fNames.length c0_1, .slice a0_2 m0.fSafe.length c0_2, .int .i64 m0.fNext] := hbxA0.under hG2
    replace xbA0_0 : w2.cell? ⟨w.heap.size, 0, none⟩ = some (.slice a0_0 m0.fInodes.length c0_0) := hbxA0.2 0 _ rfl
    replace xbA0_1 : w2.cell? ⟨w.heap.size, 1, none⟩ = some (.slice a0_1 m0.fNames.length c0_1) := hbxA0.2 1 _ rfl
    replace xbA0_2 : w2.cell? ⟨w.heap.size, 2, none⟩ = some (.slice a0_2 m0.fSafe.length c0_2) := hbxA0.2 2 _ rfl
    replace xbA0_3 : w2.cell? ⟨w.heap.size, 3, none⟩ = some (.int .i64 m0.fNext) := hbxA0.2 3 _ rfl
    replace hlbA0 : w.heap.size < w2.heap.size := hbxA0.1
    have hB2 : Below w.heap.size w w2 := bthen hB1 hG2
    clear hx2
    have hltp0 : ∀ b, b ∈ Fp0 → b < w2.heap.size := fun b hb => oDisk_good.lt hop0 b hb
    have hC := fun (W : World) (hb : Below w2.heap.size w2 W) => toByteS_r _ m2 W ((hr2.below (bthen hB2 hb)).mono (bthen hB2 hb).size) hwn2
    go_wp2_with fail
    refine Calls.mono (hC _ ?_) ?_
    · repeat (first | with_reducible exact Below.refl _ _ | with_reducible assumption | with_reducible refine Below.drew ?_ | with_reducible refine Below.alloc ?_ (by first | exact Nat.le_refl _ | (simp; omega)) _ | with_reducible refine Below.setCell ?_ (by simp) _)
    clear hC
    rintro e w3 ⟨vp2, Fp2, rfl, hop2, hNp2, hgep2, hx3⟩
    have hZ3 : w2.heap.size ≤ w3.heap.size := by have h := hx3.size; first | exact h | (simp at h; omega)
    have hgep2o : ∀ b, b ∈ Fp2 → w2.heap.size ≤ b := fun b hb => by have h := hgep2 b hb; first | exact h | (simp at h; omega)
    clear hgep2
    have hG3 : Below w2.heap.size w2 w3 := bthen (hx := hx3) (h := by repeat (first | with_reducible exact Below.refl _ _ | with_reducible assumption | with_reducible refine Below.drew ?_ | with_reducible refine Below.alloc ?_ (by first | exact Nat.le_refl _ | (simp; omega)) _ | with_reducible refine Below.setCell ?_ (by simp) _))
    replace hbxA0 : Bx w3 (w.heap.size) [.slice a0_0 m0.fInodes.length c0_0, .slice a0_1 m0.fNames.length c0_1, .slice a0_2 m0.fSafe.length c0_2, .int .i64 m0.fNext] := hbxA0.under hG3
    have hoN := (oDisk_good.frame hop0 (fun b hb => hG3.block b (oDisk_good.lt hop0 b hb)))
    clear hop0
    have hop0 := hoN
    clear hoN
    replace xbA0_0 : w3.cell? ⟨w.heap.size, 0, none⟩ = some (.slice a0_0 m0.fInodes.length c0_0) := hbxA0.2 0 _ rfl
    replace xbA0_1 : w3.cell? ⟨w.heap.size, 1, none⟩ = some (.slice a0_1 m0.fNames.length c0_1) := hbxA0.2 1 _ rfl
    replace xbA0_2 : w3.cell? ⟨w.heap.size, 2, none⟩ = some (.slice a0_2 m0.fSafe.length c0_2) := hbxA0.2 2 _ rfl
    replace xbA0_3 : w3.cell? ⟨w.heap.size, 3, none⟩ = some (.int .i64 m0.fNext) := hbxA0.2 3 _ rfl
    replace hlbA0 : w.heap.size < w3.heap.size := hbxA0.1
    have hB3 : Below w.heap.size w w3 := bthen hB2 hG3
    clear hx3
    have hltp2 : ∀ b, b ∈ Fp2 → b < w3.heap.size := fun b hb => hop2.lt b hb
    have hC := fun (W : World) (hb : Below w3.heap.size w3 W) => specLog_c _ m0 m1 _ m2 W (rDisk_good.mono (rDisk_good.below (oDisk_good.read hop0) hb) hb.size) hs1 (((rdB_own hop2).below hb).mono hb.size) hwn0 hwn1 hwn2 (hT.below (bthen hB3 hb) hsz)
    go_wp2_with fail
    refine Calls.mono (hC _ ?_) ?_
    · repeat (first | with_reducible exact Below.refl _ _ | with_reducible assumption | with_reducible refine Below.drew ?_ | with_reducible refine Below.alloc ?_ (by first | exact Nat.le_refl _ | (simp; omega)) _ | with_reducible refine Below.setCell ?_ (by simp) _)
    clear hC
    rintro e w4 ⟨vs0, he, hrs0, hx4⟩
    have hZ4 : w3.heap.size ≤ w4.heap.size := by have h := hx4.size; first | exact h | (simp at h; omega)
    rw [← HR0.out] at hrs0
    rw [← HR1.out] at he
    subst he
    have hG4 : Below w3.heap.size w3 w4 := bthen (hx := hx4) (h := by repeat (first | with_reducible exact Below.refl _ _ | with_reducible assumption | with_reducible refine Below.drew ?_ | with_reducible refine Below.alloc ?_ (by first | exact Nat.le_refl _ | (simp; omega)) _ | with_reducible refine Below.setCell ?_ (by simp) _))
    replace hbxA0 : Bx w4 (w.heap.size) [.slice a0_0 m0.fInodes.length c0_0, .slice a0_1 m0.fNames.length c0_1, .slice a0_2 m0.fSafe.length c0_2, .int .i64 m0.fNext] := hbxA0.under hG4
    have hoN := (oDisk_good.frame hop0 (fun b hb => hG4.block b (oDisk_good.lt hop0 b hb)))
    clear hop0
    have hop0 := hoN
    clear hoN
    have hoN := (hop2.frame (fun b hb => hG4.block b (hop2.lt b hb)))
    clear hop2
    have hop2 := hoN
    clear hoN
    replace xbA0_0 : w4.cell? ⟨w.heap.size, 0, none⟩ = some (.slice a0_0 m0.fInodes.length c0_0) := hbxA0.2 0 _ rfl
    replace xbA0_1 : w4.cell? ⟨w.heap.size, 1, none⟩ = some (.slice a0_1 m0.fNames.length c0_1) := hbxA0.2 1 _ rfl
    replace xbA0_2 : w4.cell? ⟨w.heap.size, 2, none⟩ = some (.slice a0_2 m0.fSafe.length c0_2) := hbxA0.2 2 _ rfl
    replace xbA0_3 : w4.cell? ⟨w.heap.size, 3, none⟩ = some (.int .i64 m0.fNext) := hbxA0.2 3 _ rfl
    replace hlbA0 : w.heap.size < w4.heap.size := hbxA0.1
    have hB4 : Below w.heap.size w w4 := bthen hB3 hG4
    clear hx4
    clear hop0 hNp0 hgep0o hltp0
    clear hop2 hNp2 hgep2o hltp2
    have hq := hrs0
    obtain ⟨as0_0, cs0_0, as0_1, cs0_1, as0_2, cs0_2, rfl, _⟩ := hq
    have hbs0 : w4.heap.size ≤ w4.heap.size := Nat.le_refl _
    have hC := fun (W : World) (hb : Below w4.heap.size w4 W) => toDisk_any _ m0 W (rDisk_good.mono (rDisk_good.below hr0 (bthen hB4 hb)) (bthen hB4 hb).size) hwn0
    go_wp2_with fail
    refine Calls.mono (hC _ ?_) ?_
    · repeat (first | with_reducible exact Below.refl _ _ | with_reducible assumption | with_reducible refine Below.drew ?_ | with_reducible refine Below.alloc ?_ (by first | exact Nat.le_refl _ | (simp; omega)) _ | with_reducible refine Below.setCell ?_ (by simp) _)
    clear hC
    rintro e w5 ⟨vx0, Fx0, rfl, hox0, hNx0, hgex0, hx5⟩
    have hZ5 : w4.heap.size + 1 ≤ w5.heap.size := by have h := hx5.size; first | exact h | (simp at h; omega)
    have hgex0o : ∀ b, b ∈ Fx0 → w4.heap.size + 1 ≤ b := fun b hb => by have h := hgex0 b hb; first | exact h | (simp at h; omega)
    clear hgex0
    have hG5 : Below w4.heap.size w4 w5 := bthen (hx := hx5) (h := by repeat (first | with_reducible exact Below.refl _ _ | with_reducible assumption | with_reducible refine Below.drew ?_ | with_reducible refine Below.alloc ?_ (by first | exact Nat.le_refl _ | (simp; omega)) _ | with_reducible refine Below.setCell ?_ (by simp) _))
    replace hbxA0 : Bx w5 (w.heap.size) [.slice a0_0 m0.fInodes.length c0_0, .slice a0_1 m0.fNames.length c0_1, .slice a0_2 m0.fSafe.length c0_2, .int .i64 m0.fNext] := hbxA0.under hG5
    replace hrs0 := (rDisk_good.below hrs0 (hG5.mono hbs0))
    replace hbs0 := Nat.le_trans hbs0 hG5.size
    have hbxs0 : Bx w5 (w4.heap.size) [.slice as0_0 R0.fInodes.length cs0_0, .slice as0_1 R0.fNames.length cs0_1, .slice as0_2 R0.fSafe.length cs0_2, .int .i64 R0.fNext] := (Bx.new _ [.slice as0_0 R0.fInodes.length cs0_0, .slice as0_1 R0.fNames.length cs0_1, .slice as0_2 R0.fSafe.length cs0_2, .int .i64 R0.fNext] _).under hx5
    replace xbA0_0 : w5.cell? ⟨w.heap.size, 0, none⟩ = some (.slice a0_0 m0.fInodes.length c0_0) := hbxA0.2 0 _ rfl
    replace xbA0_1 : w5.cell? ⟨w.heap.size, 1, none⟩ = some (.slice a0_1 m0.fNames.length c0_1) := hbxA0.2 1 _ rfl
    replace xbA0_2 : w5.cell? ⟨w.heap.size, 2, none⟩ = some (.slice a0_2 m0.fSafe.length c0_2) := hbxA0.2 2 _ rfl
    replace xbA0_3 : w5.cell? ⟨w.heap.size, 3, none⟩ = some (.int .i64 m0.fNext) := hbxA0.2 3 _ rfl
    replace hlbA0 : w.heap.size < w5.heap.size := hbxA0.1
    have xbs0_0 : w5.cell? ⟨w4.heap.size, 0, none⟩ = some (.slice as0_0 R0.fInodes.length cs0_0) := hbxs0.2 0 _ rfl
    have xbs0_1 : w5.cell? ⟨w4.heap.size, 1, none⟩ = some (.slice as0_1 R0.fNames.length cs0_1) := hbxs0.2 1 _ rfl
    have xbs0_2 : w5.cell? ⟨w4.heap.size, 2, none⟩ = some (.slice as0_2 R0.fSafe.length cs0_2) := hbxs0.2 2 _ rfl
    have xbs0_3 : w5.cell? ⟨w4.heap.size, 3, none⟩ = some (.int .i64 R0.fNext) := hbxs0.2 3 _ rfl
    have hlbs0 : w4.heap.size < w5.heap.size := hbxs0.1
    have hB5 : Below w.heap.size w w5 := bthen hB4 hG5
    clear hx5
    have hltx0 : ∀ b, b ∈ Fx0 → b < w5.heap.size := fun b hb => oDisk_good.lt hox0 b hb
    have hq := (oDisk_good.read hox0)
    obtain ⟨ax0_0, cx0_0, ax0_1, cx0_1, ax0_2, cx0_2, rfl, _⟩ := hq
    have hC := fun (W : World) (hb : Below w5.heap.size w5 W) => toByteS_r _ m2 W ((hr2.below (bthen hB5 hb)).mono (bthen hB5 hb).size) hwn2
    go_wp2_with fail
    refine Calls.mono (hC _ ?_) ?_
    · repeat (first | with_reducible exact Below.refl _ _ | with_reducible assumption | with_reducible refine Below.drew ?_ | with_reducible refine Below.alloc ?_ (by first | exact Nat.le_refl _ | (simp; omega)) _ | with_reducible refine Below.setCell ?_ (by simp) _)
    clear hC
    rintro e w6 ⟨vx2, Fx2, rfl, hox2, hNx2, hgex2, hx6⟩
    have hZ6 : w5.heap.size + 1 ≤ w6.heap.size := by have h := hx6.size; first | exact h | (simp at h; omega)
    have hgex2o : ∀ b, b ∈ Fx2 → w5.heap.size + 1 ≤ b := fun b hb => by have h := hgex2 b hb; first | exact h | (simp at h; omega)
    clear hgex2
    have hG6 : Below w5.heap.size w5 w6 := bthen (hx := hx6) (h := by repeat (first | with_reducible exact Below.refl _ _ | with_reducible assumption | with_reducible refine Below.drew ?_ | with_reducible refine Below.alloc ?_ (by first | exact Nat.le_refl _ | (simp; omega)) _ | with_reducible refine Below.setCell ?_ (by simp) _))
    replace hbxA0 : Bx w6 (w.heap.size) [.slice a0_0 m0.fInodes.length c0_0, .slice a0_1 m0.fNames.length c0_1, .slice a0_2 m0.fSafe.length c0_2, .int .i64 m0.fNext] := hbxA0.under hG6
    replace hbxs0 : Bx w6 (w4.heap.size) [.slice as0_0 R0.fInodes.length cs0_0, .slice as0_1 R0.fNames.length cs0_1, .slice as0_2 R0.fSafe.length cs0_2, .int .i64 R0.fNext] := hbxs0.under hG6
    have hoN := (oDisk_good.frame hox0 (fun b hb => hG6.block b (oDisk_good.lt hox0 b hb)))
    clear hox0
    have hox0 := hoN
    clear hoN
    replace hrs0 := (rDisk_good.below hrs0 (hG6.mono hbs0))
    replace hbs0 := Nat.le_trans hbs0 hG6.size
    have hbxx0 : Bx w6 (w5.heap.size) [.slice ax0_0 m0.fInodes.length cx0_0, .slice ax0_1 m0.fNames.length cx0_1, .slice ax0_2 m0.fSafe.length cx0_2, .int .i64 m0.fNext] := (Bx.new _ [.slice ax0_0 m0.fInodes.length cx0_0, .slice ax0_1 m0.fNames.length cx0_1, .slice ax0_2 m0.fSafe.length cx0_2, .int .i64 m0.fNext] _).under hx6
    replace xbA0_0 : w6.cell? ⟨w.heap.size, 0, none⟩ = some (.slice a0_0 m0.fInodes.length c0_0) := hbxA0.2 0 _ rfl
    replace xbA0_1 : w6.cell? ⟨w.heap.size, 1, none⟩ = some (.slice a0_1 m0.fNames.length c0_1) := hbxA0.2 1 _ rfl
    replace xbA0_2 : w6.cell? ⟨w.heap.size, 2, none⟩ = some (.slice a0_2 m0.fSafe.length c0_2) := hbxA0.2 2 _ rfl
    replace xbA0_3 : w6.cell? ⟨w.heap.size, 3, none⟩ = some (.int .i64 m0.fNext) := hbxA0.2 3 _ rfl
    replace hlbA0 : w.heap.size < w6.heap.size := hbxA0.1
    replace xbs0_0 : w6.cell? ⟨w4.heap.size, 0, none⟩ = some (.slice as0_0 R0.fInodes.length cs0_0) := hbxs0.2 0 _ rfl
    replace xbs0_1 : w6.cell? ⟨w4.heap.size, 1, none⟩ = some (.slice as0_1 R0.fNames.length cs0_1) := hbxs0.2 1 _ rfl
    replace xbs0_2 : w6.cell? ⟨w4.heap.size, 2, none⟩ = some (.slice as0_2 R0.fSafe.length cs0_2) := hbxs0.2 2 _ rfl
    replace xbs0_3 : w6.cell? ⟨w4.heap.size, 3, none⟩ = some (.int .i64 R0.fNext) := hbxs0.2 3 _ rfl
    replace hlbs0 : w4.heap.size < w6.heap.size := hbxs0.1
    have xbx0_0 : w6.cell? ⟨w5.heap.size, 0, none⟩ = some (.slice ax0_0 m0.fInodes.length cx0_0) := hbxx0.2 0 _ rfl
    have xbx0_1 : w6.cell? ⟨w5.heap.size, 1, none⟩ = some (.slice ax0_1 m0.fNames.length cx0_1) := hbxx0.2 1 _ rfl
    have xbx0_2 : w6.cell? ⟨w5.heap.size, 2, none⟩ = some (.slice ax0_2 m0.fSafe.length cx0_2) := hbxx0.2 2 _ rfl
    have xbx0_3 : w6.cell? ⟨w5.heap.size, 3, none⟩ = some (.int .i64 m0.fNext) := hbxx0.2 3 _ rfl
    have hlbx0 : w5.heap.size < w6.heap.size := hbxx0.1
    have hB6 : Below w.heap.size w w6 := bthen hB5 hG6
    clear hx6
    have hltx2 : ∀ b, b ∈ Fx2 → b < w6.heap.size := fun b hb => hox2.lt b hb
    have hC := fun (W : World) (hb : Below w6.heap.size w6 W) => implLog_c _ m0 m1 _ m2 W (rDisk_good.mono (rDisk_good.below (oDisk_good.read hox0) hb) hb.size) hs1 (((rdB_own hox2).below hb).mono hb.size) hwn0 hwn1 hwn2 (hT.below (bthen hB6 hb) hsz)
    go_wp2_with fail
    refine Calls.mono (hC _ ?_) ?_
    · repeat (first | with_reducible exact Below.refl _ _ | with_reducible assumption | with_reducible refine Below.drew ?_ | with_reducible refine Below.alloc ?_ (by first | exact Nat.le_refl _ | (simp; omega)) _ | with_reducible refine Below.setCell ?_ (by simp) _)
    clear hC
    rintro e w7 ⟨vg0, Fg0, he, hog0, hNg0, hgeg0, hx7⟩
    have hZ7 : w6.heap.size ≤ w7.heap.size := by have h := hx7.size; first | exact h | (simp at h; omega)
    rw [← HR0.out] at hog0
    have hgeg0o : ∀ b, b ∈ Fg0 → w6.heap.size ≤ b := fun b hb => by have h := hgeg0 b hb; first | exact h | (simp at h; omega)
    clear hgeg0
    rw [← HR1.out] at he
    subst he
    have hG7 : Below w6.heap.size w6 w7 := bthen (hx := hx7) (h := by repeat (first | with_reducible exact Below.refl _ _ | with_reducible assumption | with_reducible refine Below.drew ?_ | with_reducible refine Below.alloc ?_ (by first | exact Nat.le_refl _ | (simp; omega)) _ | with_reducible refine Below.setCell ?_ (by simp) _))
    replace hbxA0 : Bx w7 (w.heap.size) [.slice a0_0 m0.fInodes.length c0_0, .slice a0_1 m0.fNames.length c0_1, .slice a0_2 m0.fSafe.length c0_2, .int .i64 m0.fNext] := hbxA0.under hG7
    replace hbxs0 : Bx w7 (w4.heap.size) [.slice as0_0 R0.fInodes.length cs0_0, .slice as0_1 R0.fNames.length cs0_1, .slice as0_2 R0.fSafe.length cs0_2, .int .i64 R0.fNext] := hbxs0.under hG7
    replace hbxx0 : Bx w7 (w5.heap.size) [.slice ax0_0 m0.fInodes.length cx0_0, .slice ax0_1 m0.fNames.length cx0_1, .slice ax0_2 m0.fSafe.length cx0_2, .int .i64 m0.fNext] := hbxx0.under hG7
    have hoN := (oDisk_good.frame hox0 (fun b hb => hG7.block b (oDisk_good.lt hox0 b hb)))
    clear hox0
    have hox0 := hoN
    clear hoN
    have hoN := (hox2.frame (fun b hb => hG7.block b (hox2.lt b hb)))
    clear hox2
    have hox2 := hoN
    clear hoN
    replace hrs0 := (rDisk_good.below hrs0 (hG7.mono hbs0))
    replace hbs0 := Nat.le_trans hbs0 hG7.size
    replace xbA0_0 : w7.cell? ⟨w.heap.size, 0, none⟩ = some (.slice a0_0 m0.fInodes.length c0_0) := hbxA0.2 0 _ rfl
    replace xbA0_1 : w7.cell? ⟨w.heap.size, 1, none⟩ = some (.slice a0_1 m0.fNames.length c0_1) := hbxA0.2 1 _ rfl
    replace xbA0_2 : w7.cell? ⟨w.heap.size, 2, none⟩ = some (.slice a0_2 m0.fSafe.length c0_2) := hbxA0.2 2 _ rfl
    replace xbA0_3 : w7.cell? ⟨w.heap.size, 3, none⟩ = some (.int .i64 m0.fNext) := hbxA0.2 3 _ rfl
    replace hlbA0 : w.heap.size < w7.heap.size := hbxA0.1
    replace xbs0_0 : w7.cell? ⟨w4.heap.size, 0, none⟩ = some (.slice as0_0 R0.fInodes.length cs0_0) := hbxs0.2 0 _ rfl
    replace xbs0_1 : w7.cell? ⟨w4.heap.size, 1, none⟩ = some (.slice as0_1 R0.fNames.length cs0_1) := hbxs0.2 1 _ rfl
    replace xbs0_2 : w7.cell? ⟨w4.heap.size, 2, none⟩ = some (.slice as0_2 R0.fSafe.length cs0_2) := hbxs0.2 2 _ rfl
    replace xbs0_3 : w7.cell? ⟨w4.heap.size, 3, none⟩ = some (.int .i64 R0.fNext) := hbxs0.2 3 _ rfl
    replace hlbs0 : w4.heap.size < w7.heap.size := hbxs0.1
    replace xbx0_0 : w7.cell? ⟨w5.heap.size, 0, none⟩ = some (.slice ax0_0 m0.fInodes.length cx0_0) := hbxx0.2 0 _ rfl
    replace xbx0_1 : w7.cell? ⟨w5.heap.size, 1, none⟩ = some (.slice ax0_1 m0.fNames.length cx0_1) := hbxx0.2 1 _ rfl
    replace xbx0_2 : w7.cell? ⟨w5.heap.size, 2, none⟩ = some (.slice ax0_2 m0.fSafe.length cx0_2) := hbxx0.2 2 _ rfl
    replace xbx0_3 : w7.cell? ⟨w5.heap.size, 3, none⟩ = some (.int .i64 m0.fNext) := hbxx0.2 3 _ rfl
    replace hlbx0 : w5.heap.size < w7.heap.size := hbxx0.1
    have hB7 : Below w.heap.size w w7 := bthen hB6 hG7
    clear hx7
    have hltg0 : ∀ b, b ∈ Fg0 → b < w7.heap.size := fun b hb => oDisk_good.lt hog0 b hb
    have hq := (oDisk_good.read hog0)
    obtain ⟨ag0_0, cg0_0, ag0_1, cg0_1, ag0_2, cg0_2, rfl, _⟩ := hq
    have hC := fun (W : World) (hb : Below w7.heap.size w7 W) => eqDisk_yes _ _ R0 W (rDisk_good.mono (rDisk_good.below (oDisk_good.read hog0) hb) hb.size) (rDisk_good.mono (rDisk_good.below hrs0 (hb.mono hbs0)) (Nat.le_trans hbs0 hb.size)) (by omega)
    go_wp2_with fail
    refine Calls.mono (hC _ ?_) ?_
    · repeat (first | with_reducible exact Below.refl _ _ | with_reducible assumption | with_reducible refine Below.drew ?_ | with_reducible refine Below.alloc ?_ (by first | exact Nat.le_refl _ | (simp; omega)) _ | with_reducible refine Below.setCell ?_ (by simp) _)
    clear hC
    rintro e w8 ⟨rfl, hx8⟩
    have hZ8 : w7.heap.size + 1 ≤ w8.heap.size := by have h := hx8.size; first | exact h | (simp at h; omega)
    have hG8 : Below w7.heap.size w7 w8 := bthen (hx := hx8) (h := by repeat (first | with_reducible exact Below.refl _ _ | with_reducible assumption | with_reducible refine Below.drew ?_ | with_reducible refine Below.alloc ?_ (by first | exact Nat.le_refl _ | (simp; omega)) _ | with_reducible refine Below.setCell ?_ (by simp) _))
    replace hbxA0 : Bx w8 (w.heap.size) [.slice a0_0 m0.fInodes.length c0_0, .slice a0_1 m0.fNames.length c0_1, .slice a0_2 m0.fSafe.length c0_2, .int .i64 m0.fNext] := hbxA0.under hG8
    replace hbxs0 : Bx w8 (w4.heap.size) [.slice as0_0 R0.fInodes.length cs0_0, .slice as0_1 R0.fNames.length cs0_1, .slice as0_2 R0.fSafe.length cs0_2, .int .i64 R0.fNext] := hbxs0.under hG8
    replace hbxx0 : Bx w8 (w5.heap.size) [.slice ax0_0 m0.fInodes.length cx0_0, .slice ax0_1 m0.fNames.length cx0_1, .slice ax0_2 m0.fSafe.length cx0_2, .int .i64 m0.fNext] := hbxx0.under hG8
    have hoN := (oDisk_good.frame hox0 (fun b hb => hG8.block b (oDisk_good.lt hox0 b hb)))
    clear hox0
    have hox0 := hoN
    clear hoN
    have hoN := (hox2.frame (fun b hb => hG8.block b (hox2.lt b hb)))
    clear hox2
    have hox2 := hoN
    clear hoN
    have hoN := (oDisk_good.frame hog0 (fun b hb => hG8.block b (oDisk_good.lt hog0 b hb)))
    clear hog0
    have hog0 := hoN
    clear hoN
    replace hrs0 := (rDisk_good.below hrs0 (hG8.mono hbs0))
    replace hbs0 := Nat.le_trans hbs0 hG8.size
    have hbxg0 : Bx w8 (w7.heap.size) [.slice ag0_0 R0.fInodes.length cg0_0, .slice ag0_1 R0.fNames.length cg0_1, .slice ag0_2 R0.fSafe.length cg0_2, .int .i64 R0.fNext] := (Bx.new _ [.slice ag0_0 R0.fInodes.length cg0_0, .slice ag0_1 R0.fNames.length cg0_1, .slice ag0_2 R0.fSafe.length cg0_2, .int .i64 R0.fNext] _).under hx8
    replace xbA0_0 : w8.cell? ⟨w.heap.size, 0, none⟩ = some (.slice a0_0 m0.fInodes.length c0_0) := hbxA0.2 0 _ rfl
    replace xbA0_1 : w8.cell? ⟨w.heap.size, 1, none⟩ = some (.slice a0_1 m0.fNames.length c0_1) := hbxA0.2 1 _ rfl
    replace xbA0_2 : w8.cell? ⟨w.heap.size, 2, none⟩ = some (.slice a0_2 m0.fSafe.length c0_2) := hbxA0.2 2 _ rfl
    replace xbA0_3 : w8.cell? ⟨w.heap.size, 3, none⟩ = some (.int .i64 m0.fNext) := hbxA0.2 3 _ rfl
    replace hlbA0 : w.heap.size < w8.heap.size := hbxA0.1
    replace xbs0_0 : w8.cell? ⟨w4.heap.size, 0, none⟩ = some (.slice as0_0 R0.fInodes.length cs0_0) := hbxs0.2 0 _ rfl
    replace xbs0_1 : w8.cell? ⟨w4.heap.size, 1, none⟩ = some (.slice as0_1 R0.fNames.length cs0_1) := hbxs0.2 1 _ rfl
    replace xbs0_2 : w8.cell? ⟨w4.heap.size, 2, none⟩ = some (.slice as0_2 R0.fSafe.length cs0_2) := hbxs0.2 2 _ rfl
    replace xbs0_3 : w8.cell? ⟨w4.heap.size, 3, none⟩ = some (.int .i64 R0.fNext) := hbxs0.2 3 _ rfl
    replace hlbs0 : w4.heap.size < w8.heap.size := hbxs0.1
    replace xbx0_0 : w8.cell? ⟨w5.heap.size, 0, none⟩ = some (.slice ax0_0 m0.fInodes.length cx0_0) := hbxx0.2 0 _ rfl
    replace xbx0_1 : w8.cell? ⟨w5.heap.size, 1, none⟩ = some (.slice ax0_1 m0.fNames.length cx0_1) := hbxx0.2 1 _ rfl
    replace xbx0_2 : w8.cell? ⟨w5.heap.size, 2, none⟩ = some (.slice ax0_2 m0.fSafe.length cx0_2) := hbxx0.2 2 _ rfl
    replace xbx0_3 : w8.cell? ⟨w5.heap.size, 3, none⟩ = some (.int .i64 m0.fNext) := hbxx0.2 3 _ rfl
    replace hlbx0 : w5.heap.size < w8.heap.size := hbxx0.1
    have xbg0_0 : w8.cell? ⟨w7.heap.size, 0, none⟩ = some (.slice ag0_0 R0.fInodes.length cg0_0) := hbxg0.2 0 _ rfl
    have xbg0_1 : w8.cell? ⟨w7.heap.size, 1, none⟩ = some (.slice ag0_1 R0.fNames.length cg0_1) := hbxg0.2 1 _ rfl
    have xbg0_2 : w8.cell? ⟨w7.heap.size, 2, none⟩ = some (.slice ag0_2 R0.fSafe.length cg0_2) := hbxg0.2 2 _ rfl
    have xbg0_3 : w8.cell? ⟨w7.heap.size, 3, none⟩ = some (.int .i64 R0.fNext) := hbxg0.2 3 _ rfl
    have hlbg0 : w7.heap.size < w8.heap.size := hbxg0.1
    have hB8 : Below w.heap.size w w8 := bthen hB7 hG8
    clear hx8
    have hC1 := fun (W : World) (hb : Below w8.heap.size w8 W) => toDisk_any _ m0 W (rDisk_good.mono (rDisk_good.below hr0 (bthen hB8 hb)) (bthen hB8 hb).size) hwn0
    have hC2 := fun (W W2 : World) (v2 : List Value) (F2 : List Nat) (hb : Below w8.heap.size w8 W) (hb2 : Below W.heap.size W W2) (ho2 : oDisk W2 v2 m0 F2) => eqDisk_yes _ v2 m0 W2 (rDisk_good.mono (rDisk_good.below (oDisk_good.read hox0) (bthen hb hb2)) (bthen hb hb2).size) (oDisk_good.read ho2) (by omega)
    go_wp2_with fail
    go_region_with (first | (go_at_call 30; refine Calls.mono (hC1 _ ?_) ?_; exact (by repeat (first | with_reducible exact Below.refl _ _ | with_reducible assumption | with_reducible refine Below.drew ?_ | with_reducible refine Below.alloc ?_ (by first | exact Nat.le_refl _ | (simp; omega)) _ | with_reducible refine Below.setCell ?_ (by simp) _)); rintro e w9 ⟨vt0, Ft0, rfl, hot0, hNt0, hget0, hx9⟩; have hG9 : Below w8.heap.size w8 w9 := bthen (hx := hx9) (h := by repeat (first | with_reducible exact Below.refl _ _ | with_reducible assumption | with_reducible refine Below.drew ?_ | with_reducible refine Below.alloc ?_ (by first | exact Nat.le_refl _ | (simp; omega)) _ | with_reducible refine Below.setCell ?_ (by simp) _)); obtain ⟨at0_0, ct0_0, at0_1, ct0_1, at0_2, ct0_2, rfl, _⟩ := id (oDisk_good.read hot0); have hbtA0 : Bx w9 (w.heap.size) [.slice a0_0 m0.fInodes.length c0_0, .slice a0_1 m0.fNames.length c0_1, .slice a0_2 m0.fSafe.length c0_2, .int .i64 m0.fNext] := hbxA0.under hG9; have xtA0_0 : w9.cell? ⟨w.heap.size, 0, none⟩ = some (.slice a0_0 m0.fInodes.length c0_0) := hbtA0.2 0 _ rfl; have xtA0_1 : w9.cell? ⟨w.heap.size, 1, none⟩ = some (.slice a0_1 m0.fNames.length c0_1) := hbtA0.2 1 _ rfl; have xtA0_2 : w9.cell? ⟨w.heap.size, 2, none⟩ = some (.slice a0_2 m0.fSafe.length c0_2) := hbtA0.2 2 _ rfl; have xtA0_3 : w9.cell? ⟨w.heap.size, 3, none⟩ = some (.int .i64 m0.fNext) := hbtA0.2 3 _ rfl; have hbtx0 : Bx w9 (w5.heap.size) [.slice ax0_0 m0.fInodes.length cx0_0, .slice ax0_1 m0.fNames.length cx0_1, .slice ax0_2 m0.fSafe.length cx0_2, .int .i64 m0.fNext] := hbxx0.under hG9; have xtx0_0 : w9.cell? ⟨w5.heap.size, 0, none⟩ = some (.slice ax0_0 m0.fInodes.length cx0_0) := hbtx0.2 0 _ rfl; have xtx0_1 : w9.cell? ⟨w5.heap.size, 1, none⟩ = some (.slice ax0_1 m0.fNames.length cx0_1) := hbtx0.2 1 _ rfl; have xtx0_2 : w9.cell? ⟨w5.heap.size, 2, none⟩ = some (.slice ax0_2 m0.fSafe.length cx0_2) := hbtx0.2 2 _ rfl; have xtx0_3 : w9.cell? ⟨w5.heap.size, 3, none⟩ = some (.int .i64 m0.fNext) := hbtx0.2 3 _ rfl) | (go_at_call 32; refine Calls.mono (hC2 _ _ _ _ (Below.refl _ _) hG9 hot0) ?_; rintro e w10 ⟨rfl, hx10⟩))
    all_goals
      have hZ9 : w8.heap.size ≤ w9.heap.size := by have h := hx9.size; first | exact h | (simp at h; omega)
      have hZ10 : w9.heap.size ≤ w10.heap.size := hx10.size
      have hGG10 : Below w8.heap.size w8 w10 := bthen hG9 hx10
      replace hbxA0 : Bx w10 (w.heap.size) [.slice a0_0 m0.fInodes.length c0_0, .slice a0_1 m0.fNames.length c0_1, .slice a0_2 m0.fSafe.length c0_2, .int .i64 m0.fNext] := hbxA0.under hGG10
      replace hbxs0 : Bx w10 (w4.heap.size) [.slice as0_0 R0.fInodes.length cs0_0, .slice as0_1 R0.fNames.length cs0_1, .slice as0_2 R0.fSafe.length cs0_2, .int .i64 R0.fNext] := hbxs0.under hGG10
      replace hbxx0 : Bx w10 (w5.heap.size) [.slice ax0_0 m0.fInodes.length cx0_0, .slice ax0_1 m0.fNames.length cx0_1, .slice ax0_2 m0.fSafe.length cx0_2, .int .i64 m0.fNext] := hbxx0.under hGG10
      replace hbxg0 : Bx w10 (w7.heap.size) [.slice ag0_0 R0.fInodes.length cg0_0, .slice ag0_1 R0.fNames.length cg0_1, .slice ag0_2 R0.fSafe.length cg0_2, .int .i64 R0.fNext] := hbxg0.under hGG10
      have hoN := (oDisk_good.frame hox0 (fun b hb => hGG10.block b (oDisk_good.lt hox0 b hb)))
      clear hox0
      have hox0 := hoN
      clear hoN
      have hoN := (hox2.frame (fun b hb => hGG10.block b (hox2.lt b hb)))
      clear hox2
      have hox2 := hoN
      clear hoN
      have hoN := (oDisk_good.frame hog0 (fun b hb => hGG10.block b (oDisk_good.lt hog0 b hb)))
      clear hog0
      have hog0 := hoN
      clear hoN
      replace hrs0 := (rDisk_good.below hrs0 (hGG10.mono hbs0))
      replace hbs0 := Nat.le_trans hbs0 hGG10.size
      replace xbA0_0 : w10.cell? ⟨w.heap.size, 0, none⟩ = some (.slice a0_0 m0.fInodes.length c0_0) := hbxA0.2 0 _ rfl
      replace xbA0_1 : w10.cell? ⟨w.heap.size, 1, none⟩ = some (.slice a0_1 m0.fNames.length c0_1) := hbxA0.2 1 _ rfl
      replace xbA0_2 : w10.cell? ⟨w.heap.size, 2, none⟩ = some (.slice a0_2 m0.fSafe.length c0_2) := hbxA0.2 2 _ rfl
      replace xbA0_3 : w10.cell? ⟨w.heap.size, 3, none⟩ = some (.int .i64 m0.fNext) := hbxA0.2 3 _ rfl
      replace hlbA0 : w.heap.size < w10.heap.size := hbxA0.1
      replace xbs0_0 : w10.cell? ⟨w4.heap.size, 0, none⟩ = some (.slice as0_0 R0.fInodes.length cs0_0) := hbxs0.2 0 _ rfl
      replace xbs0_1 : w10.cell? ⟨w4.heap.size, 1, none⟩ = some (.slice as0_1 R0.fNames.length cs0_1) := hbxs0.2 1 _ rfl
      replace xbs0_2 : w10.cell? ⟨w4.heap.size, 2, none⟩ = some (.slice as0_2 R0.fSafe.length cs0_2) := hbxs0.2 2 _ rfl
      replace xbs0_3 : w10.cell? ⟨w4.heap.size, 3, none⟩ = some (.int .i64 R0.fNext) := hbxs0.2 3 _ rfl
      replace hlbs0 : w4.heap.size < w10.heap.size := hbxs0.1
      replace xbx0_0 : w10.cell? ⟨w5.heap.size, 0, none⟩ = some (.slice ax0_0 m0.fInodes.length cx0_0) := hbxx0.2 0 _ rfl
      replace xbx0_1 : w10.cell? ⟨w5.heap.size, 1, none⟩ = some (.slice ax0_1 m0.fNames.length cx0_1) := hbxx0.2 1 _ rfl
      replace xbx0_2 : w10.cell? ⟨w5.heap.size, 2, none⟩ = some (.slice ax0_2 m0.fSafe.length cx0_2) := hbxx0.2 2 _ rfl
      replace xbx0_3 : w10.cell? ⟨w5.heap.size, 3, none⟩ = some (.int .i64 m0.fNext) := hbxx0.2 3 _ rfl
      replace hlbx0 : w5.heap.size < w10.heap.size := hbxx0.1
      replace xbg0_0 : w10.cell? ⟨w7.heap.size, 0, none⟩ = some (.slice ag0_0 R0.fInodes.length cg0_0) := hbxg0.2 0 _ rfl
      replace xbg0_1 : w10.cell? ⟨w7.heap.size, 1, none⟩ = some (.slice ag0_1 R0.fNames.length cg0_1) := hbxg0.2 1 _ rfl
      replace xbg0_2 : w10.cell? ⟨w7.heap.size, 2, none⟩ = some (.slice ag0_2 R0.fSafe.length cg0_2) := hbxg0.2 2 _ rfl
      replace xbg0_3 : w10.cell? ⟨w7.heap.size, 3, none⟩ = some (.int .i64 R0.fNext) := hbxg0.2 3 _ rfl
      replace hlbg0 : w7.heap.size < w10.heap.size := hbxg0.1
      have hB10 : Below w.heap.size w w10 := bthen hB8 hGG10
      clear hx9 hx10 hC1 hC2 hot0 hNt0 hget0
      have hC1 := fun (W : World) (hb : Below w10.heap.size w10 W) => toByteS_r _ m2 W ((hr2.below (bthen hB10 hb)).mono (bthen hB10 hb).size) hwn2
      have hC2 := fun (W W2 : World) (v2 : Value) (F2 : List Nat) (hb : Below w10.heap.size w10 W) (hb2 : Below W.heap.size W W2) (ho2 : ownB 5 W2 v2 m2 F2) => eqByteS_yes_r _ v2 m2 W2 (((rdB_own hox2).below (bthen hb hb2)).mono (bthen hb hb2).size) (rdB_own ho2) (by omega)
      go_wp2_with fail
      refine Calls.mono (hC1 _ ?_) ?_
      exact (by repeat (first | with_reducible exact Below.refl _ _ | with_reducible assumption | with_reducible refine Below.drew ?_ | with_reducible refine Below.alloc ?_ (by first | exact Nat.le_refl _ | (simp; omega)) _ | with_reducible refine Below.setCell ?_ (by simp) _))
      rintro e w11 ⟨vt2, Ft2, rfl, hot2, hNt2, hget2, hx11⟩
      have hG11 : Below w10.heap.size w10 w11 := bthen (hx := hx11) (h := by repeat (first | with_reducible exact Below.refl _ _ | with_reducible assumption | with_reducible refine Below.drew ?_ | with_reducible refine Below.alloc ?_ (by first | exact Nat.le_refl _ | (simp; omega)) _ | with_reducible refine Below.setCell ?_ (by simp) _))
      obtain ⟨at2, ct2, rfl, _⟩ := id (rdB_own hot2)
      go_wp2_with fail
      refine Calls.mono (hC2 _ _ _ _ (Below.refl _ _) hG11 hot2) ?_
      rintro e w12 ⟨rfl, hx12⟩
      have hZ11 : w10.heap.size ≤ w11.heap.size := by have h := hx11.size; first | exact h | (simp at h; omega)
      have hZ12 : w11.heap.size ≤ w12.heap.size := hx12.size
      have hGG12 : Below w10.heap.size w10 w12 := bthen hG11 hx12
      replace hbxA0 : Bx w12 (w.heap.size) [.slice a0_0 m0.fInodes.length c0_0, .slice a0_1 m0.fNames.length c0_1, .slice a0_2 m0.fSafe.length c0_2, .int .i64 m0.fNext] := hbxA0.under hGG12
      replace hbxs0 : Bx w12 (w4.heap.size) [.slice as0_0 R0.fInodes.length cs0_0, .slice as0_1 R0.fNames.length cs0_1, .slice as0_2 R0.fSafe.length cs0_2, .int .i64 R0.fNext] := hbxs0.under hGG12
      replace hbxx0 : Bx w12 (w5.heap.size) [.slice ax0_0 m0.fInodes.length cx0_0, .slice ax0_1 m0.fNames.length cx0_1, .slice ax0_2 m0.fSafe.length cx0_2, .int .i64 m0.fNext] := hbxx0.under hGG12
      replace hbxg0 : Bx w12 (w7.heap.size) [.slice ag0_0 R0.fInodes.length cg0_0, .slice ag0_1 R0.fNames.length cg0_1, .slice ag0_2 R0.fSafe.length cg0_2, .int .i64 R0.fNext] := hbxg0.under hGG12
      have hoN := (oDisk_good.frame hox0 (fun b hb => hGG12.block b (oDisk_good.lt hox0 b hb)))
      clear hox0
      have hox0 := hoN
      clear hoN
      have hoN := (hox2.frame (fun b hb => hGG12.block b (hox2.lt b hb)))
      clear hox2
      have hox2 := hoN
      clear hoN
      have hoN := (oDisk_good.frame hog0 (fun b hb => hGG12.block b (oDisk_good.lt hog0 b hb)))
      clear hog0
      have hog0 := hoN
      clear hoN
      replace hrs0 := (rDisk_good.below hrs0 (hGG12.mono hbs0))
      replace hbs0 := Nat.le_trans hbs0 hGG12.size
      replace xbA0_0 : w12.cell? ⟨w.heap.size, 0, none⟩ = some (.slice a0_0 m0.fInodes.length c0_0) := hbxA0.2 0 _ rfl
      replace xbA0_1 : w12.cell? ⟨w.heap.size, 1, none⟩ = some (.slice a0_1 m0.fNames.length c0_1) := hbxA0.2 1 _ rfl
      replace xbA0_2 : w12.cell? ⟨w.heap.size, 2, none⟩ = some (.slice a0_2 m0.fSafe.length c0_2) := hbxA0.2 2 _ rfl
      replace xbA0_3 : w12.cell? ⟨w.heap.size, 3, none⟩ = some (.int .i64 m0.fNext) := hbxA0.2 3 _ rfl
      replace hlbA0 : w.heap.size < w12.heap.size := hbxA0.1
      replace xbs0_0 : w12.cell? ⟨w4.heap.size, 0, none⟩ = some (.slice as0_0 R0.fInodes.length cs0_0) := hbxs0.2 0 _ rfl
      replace xbs0_1 : w12.cell? ⟨w4.heap.size, 1, none⟩ = some (.slice as0_1 R0.fNames.length cs0_1) := hbxs0.2 1 _ rfl
      replace xbs0_2 : w12.cell? ⟨w4.heap.size, 2, none⟩ = some (.slice as0_2 R0.fSafe.length cs0_2) := hbxs0.2 2 _ rfl
      replace xbs0_3 : w12.cell? ⟨w4.heap.size, 3, none⟩ = some (.int .i64 R0.fNext) := hbxs0.2 3 _ rfl
      replace hlbs0 : w4.heap.size < w12.heap.size := hbxs0.1
      replace xbx0_0 : w12.cell? ⟨w5.heap.size, 0, none⟩ = some (.slice ax0_0 m0.fInodes.length cx0_0) := hbxx0.2 0 _ rfl
      replace xbx0_1 : w12.cell? ⟨w5.heap.size, 1, none⟩ = some (.slice ax0_1 m0.fNames.length cx0_1) := hbxx0.2 1 _ rfl
      replace xbx0_2 : w12.cell? ⟨w5.heap.size, 2, none⟩ = some (.slice ax0_2 m0.fSafe.length cx0_2) := hbxx0.2 2 _ rfl
      replace xbx0_3 : w12.cell? ⟨w5.heap.size, 3, none⟩ = some (.int .i64 m0.fNext) := hbxx0.2 3 _ rfl
      replace hlbx0 : w5.heap.size < w12.heap.size := hbxx0.1
      replace xbg0_0 : w12.cell? ⟨w7.heap.size, 0, none⟩ = some (.slice ag0_0 R0.fInodes.length cg0_0) := hbxg0.2 0 _ rfl
      replace xbg0_1 : w12.cell? ⟨w7.heap.size, 1, none⟩ = some (.slice ag0_1 R0.fNames.length cg0_1) := hbxg0.2 1 _ rfl
      replace xbg0_2 : w12.cell? ⟨w7.heap.size, 2, none⟩ = some (.slice ag0_2 R0.fSafe.length cg0_2) := hbxg0.2 2 _ rfl
      replace xbg0_3 : w12.cell? ⟨w7.heap.size, 3, none⟩ = some (.int .i64 R0.fNext) := hbxg0.2 3 _ rfl
      replace hlbg0 : w7.heap.size < w12.heap.size := hbxg0.1
      have hB12 : Below w.heap.size w w12 := bthen hB10 hGG12
      clear hx11 hx12 hC1 hC2 hot2 hNt2 hget2
      have hC := fun (W : World) (hb : Below w12.heap.size w12 W) => markDisk_b _ m0 Fx0 1 W (by omega) (by omega) (oDisk_good.frame hox0 (fun b hb2 => hb.block b (oDisk_good.lt hox0 b hb2))) hNx0
      go_wp2_with fail
      refine Calls.mono (hC _ ?_) ?_
      · repeat (first | with_reducible exact Below.refl _ _ | with_reducible assumption | with_reducible refine Below.drew ?_ | with_reducible refine Below.alloc ?_ (by first | exact Nat.le_refl _ | (simp; omega)) _ | with_reducible refine Below.setCell ?_ (by simp) _)
      clear hC
      rintro e w13 ⟨mmx0, qx0, rfl, hqax0, hqbx0, homx0, hhx0, hx13⟩
      have hZ13 : w12.heap.size ≤ w13.heap.size := by have h := hx13.size; first | exact h | (simp at h; omega)
      have hG13 : Turn Fx0 w12 w13 := Turn.after (hx := hx13) (h := by repeat (first | with_reducible exact Below.refl _ _ | with_reducible assumption | with_reducible refine Below.drew ?_ | with_reducible refine Below.alloc ?_ (by first | exact Nat.le_refl _ | (simp; omega)) _ | with_reducible refine Below.setCell ?_ (by simp) _))
      replace hbxA0 : Bx w13 (w.heap.size) [.slice a0_0 m0.fInodes.length c0_0, .slice a0_1 m0.fNames.length c0_1, .slice a0_2 m0.fSafe.length c0_2, .int .i64 m0.fNext] := hbxA0.turn hG13 (fun hm => by have h1 := hgex0o _ hm; have h2 := hltx0 _ hm; omega)
      replace hbxs0 : Bx w13 (w4.heap.size) [.slice as0_0 R0.fInodes.length cs0_0, .slice as0_1 R0.fNames.length cs0_1, .slice as0_2 R0.fSafe.length cs0_2, .int .i64 R0.fNext] := hbxs0.turn hG13 (fun hm => by have h1 := hgex0o _ hm; have h2 := hltx0 _ hm; omega)
      replace hbxx0 : Bx w13 (w5.heap.size) [.slice ax0_0 m0.fInodes.length cx0_0, .slice ax0_1 m0.fNames.length cx0_1, .slice ax0_2 m0.fSafe.length cx0_2, .int .i64 m0.fNext] := hbxx0.turn hG13 (fun hm => by have h1 := hgex0o _ hm; have h2 := hltx0 _ hm; omega)
      replace hbxg0 : Bx w13 (w7.heap.size) [.slice ag0_0 R0.fInodes.length cg0_0, .slice ag0_1 R0.fNames.length cg0_1, .slice ag0_2 R0.fSafe.length cg0_2, .int .i64 R0.fNext] := hbxg0.turn hG13 (fun hm => by have h1 := hgex0o _ hm; have h2 := hltx0 _ hm; omega)
      have hoN := (hox2.frame (fun b hb => hG13.block b (hox2.lt b hb) (fun hm => by have h1 := hgex0o _ hm; have h2 := hltx0 _ hm; have h3 := hgex2o _ hb; have h4 := hltx2 _ hb; omega)))
      clear hox2
      have hox2 := hoN
      clear hoN
      have hoN := (oDisk_good.frame hog0 (fun b hb => hG13.block b (oDisk_good.lt hog0 b hb) (fun hm => by have h1 := hgex0o _ hm; have h2 := hltx0 _ hm; have h3 := hgeg0o _ hb; have h4 := hltg0 _ hb; omega)))
      clear hog0
      have hog0 := hoN
      clear hoN
      replace hrs0 := (rDisk_good.below hrs0 (Turn.below hG13 (fun k hk => by have h1 := hgex0o _ hk; omega) hbs0))
      replace hbs0 := Nat.le_trans hbs0 hG13.size
      replace xbA0_0 : w13.cell? ⟨w.heap.size, 0, none⟩ = some (.slice a0_0 m0.fInodes.length c0_0) := hbxA0.2 0 _ rfl
      replace xbA0_1 : w13.cell? ⟨w.heap.size, 1, none⟩ = some (.slice a0_1 m0.fNames.length c0_1) := hbxA0.2 1 _ rfl
      replace xbA0_2 : w13.cell? ⟨w.heap.size, 2, none⟩ = some (.slice a0_2 m0.fSafe.length c0_2) := hbxA0.2 2 _ rfl
      replace xbA0_3 : w13.cell? ⟨w.heap.size, 3, none⟩ = some (.int .i64 m0.fNext) := hbxA0.2 3 _ rfl
      replace hlbA0 : w.heap.size < w13.heap.size := hbxA0.1
      replace xbs0_0 : w13.cell? ⟨w4.heap.size, 0, none⟩ = some (.slice as0_0 R0.fInodes.length cs0_0) := hbxs0.2 0 _ rfl
      replace xbs0_1 : w13.cell? ⟨w4.heap.size, 1, none⟩ = some (.slice as0_1 R0.fNames.length cs0_1) := hbxs0.2 1 _ rfl
      replace xbs0_2 : w13.cell? ⟨w4.heap.size, 2, none⟩ = some (.slice as0_2 R0.fSafe.length cs0_2) := hbxs0.2 2 _ rfl
      replace xbs0_3 : w13.cell? ⟨w4.heap.size, 3, none⟩ = some (.int .i64 R0.fNext) := hbxs0.2 3 _ rfl
      replace hlbs0 : w4.heap.size < w13.heap.size := hbxs0.1
      replace xbx0_0 : w13.cell? ⟨w5.heap.size, 0, none⟩ = some (.slice ax0_0 m0.fInodes.length cx0_0) := hbxx0.2 0 _ rfl
      replace xbx0_1 : w13.cell? ⟨w5.heap.size, 1, none⟩ = some (.slice ax0_1 m0.fNames.length cx0_1) := hbxx0.2 1 _ rfl
      replace xbx0_2 : w13.cell? ⟨w5.heap.size, 2, none⟩ = some (.slice ax0_2 m0.fSafe.length cx0_2) := hbxx0.2 2 _ rfl
      replace xbx0_3 : w13.cell? ⟨w5.heap.size, 3, none⟩ = some (.int .i64 m0.fNext) := hbxx0.2 3 _ rfl
      replace hlbx0 : w5.heap.size < w13.heap.size := hbxx0.1
      replace xbg0_0 : w13.cell? ⟨w7.heap.size, 0, none⟩ = some (.slice ag0_0 R0.fInodes.length cg0_0) := hbxg0.2 0 _ rfl
      replace xbg0_1 : w13.cell? ⟨w7.heap.size, 1, none⟩ = some (.slice ag0_1 R0.fNames.length cg0_1) := hbxg0.2 1 _ rfl
      replace xbg0_2 : w13.cell? ⟨w7.heap.size, 2, none⟩ = some (.slice ag0_2 R0.fSafe.length cg0_2) := hbxg0.2 2 _ rfl
      replace xbg0_3 : w13.cell? ⟨w7.heap.size, 3, none⟩ = some (.int .i64 R0.fNext) := hbxg0.2 3 _ rfl
      replace hlbg0 : w7.heap.size < w13.heap.size := hbxg0.1
      have hB13 : Below w.heap.size w w13 := Turn.under hB12 hG13 (fun k hk => by have h1 := hgex0o _ hk; have h2 := hB12.size; omega)
      clear hx13 hox0
      have hox0 := homx0
      clear homx0
      have hC := fun (W : World) (hb : Below w13.heap.size w13 W) => markByteS_r _ m2 Fx2 qx0 W (by omega) (by omega) (hox2.frame (fun b hb2 => hb.block b (hox2.lt b hb2))) hNx2
      go_wp2_with fail
      refine Calls.mono (hC _ ?_) ?_
      · repeat (first | with_reducible exact Below.refl _ _ | with_reducible assumption | with_reducible refine Below.drew ?_ | with_reducible refine Below.alloc ?_ (by first | exact Nat.le_refl _ | (simp; omega)) _ | with_reducible refine Below.setCell ?_ (by simp) _)
      clear hC
      rintro e w14 ⟨mmx2, qx2, rfl, hqax2, hqbx2, homx2, hhx2, hx14⟩
      have hZ14 : w13.heap.size ≤ w14.heap.size := by have h := hx14.size; first | exact h | (simp at h; omega)
      have hG14 : Turn Fx2 w13 w14 := Turn.after (hx := hx14) (h := by repeat (first | with_reducible exact Below.refl _ _ | with_reducible assumption | with_reducible refine Below.drew ?_ | with_reducible refine Below.alloc ?_ (by first | exact Nat.le_refl _ | (simp; omega)) _ | with_reducible refine Below.setCell ?_ (by simp) _))
      replace hbxA0 : Bx w14 (w.heap.size) [.slice a0_0 m0.fInodes.length c0_0, .slice a0_1 m0.fNames.length c0_1, .slice a0_2 m0.fSafe.length c0_2, .int .i64 m0.fNext] := hbxA0.turn hG14 (fun hm => by have h1 := hgex2o _ hm; have h2 := hltx2 _ hm; omega)
      replace hbxs0 : Bx w14 (w4.heap.size) [.slice as0_0 R0.fInodes.length cs0_0, .slice as0_1 R0.fNames.length cs0_1, .slice as0_2 R0.fSafe.length cs0_2, .int .i64 R0.fNext] := hbxs0.turn hG14 (fun hm => by have h1 := hgex2o _ hm; have h2 := hltx2 _ hm; omega)
      replace hbxx0 : Bx w14 (w5.heap.size) [.slice ax0_0 m0.fInodes.length cx0_0, .slice ax0_1 m0.fNames.length cx0_1, .slice ax0_2 m0.fSafe.length cx0_2, .int .i64 m0.fNext] := hbxx0.turn hG14 (fun hm => by have h1 := hgex2o _ hm; have h2 := hltx2 _ hm; omega)
      replace hbxg0 : Bx w14 (w7.heap.size) [.slice ag0_0 R0.fInodes.length cg0_0, .slice ag0_1 R0.fNames.length cg0_1, .slice ag0_2 R0.fSafe.length cg0_2, .int .i64 R0.fNext] := hbxg0.turn hG14 (fun hm => by have h1 := hgex2o _ hm; have h2 := hltx2 _ hm; omega)
      have hoN := (oDisk_good.frame hox0 (fun b hb => hG14.block b (oDisk_good.lt hox0 b hb) (fun hm => by have h1 := hgex2o _ hm; have h2 := hltx2 _ hm; have h3 := hgex0o _ hb; have h4 := hltx0 _ hb; omega)))
      clear hox0
      have hox0 := hoN
      clear hoN
      have hoN := (oDisk_good.frame hog0 (fun b hb => hG14.block b (oDisk_good.lt hog0 b hb) (fun hm => by have h1 := hgex2o _ hm; have h2 := hltx2 _ hm; have h3 := hgeg0o _ hb; have h4 := hltg0 _ hb; omega)))
      clear hog0
      have hog0 := hoN
      clear hoN
      replace hrs0 := (rDisk_good.below hrs0 (Turn.below hG14 (fun k hk => by have h1 := hgex2o _ hk; omega) hbs0))
      replace hbs0 := Nat.le_trans hbs0 hG14.size
      replace xbA0_0 : w14.cell? ⟨w.heap.size, 0, none⟩ = some (.slice a0_0 m0.fInodes.length c0_0) := hbxA0.2 0 _ rfl
      replace xbA0_1 : w14.cell? ⟨w.heap.size, 1, none⟩ = some (.slice a0_1 m0.fNames.length c0_1) := hbxA0.2 1 _ rfl
      replace xbA0_2 : w14.cell? ⟨w.heap.size, 2, none⟩ = some (.slice a0_2 m0.fSafe.length c0_2) := hbxA0.2 2 _ rfl
      replace xbA0_3 : w14.cell? ⟨w.heap.size, 3, none⟩ = some (.int .i64 m0.fNext) := hbxA0.2 3 _ rfl
      replace hlbA0 : w.heap.size < w14.heap.size := hbxA0.1
      replace xbs0_0 : w14.cell? ⟨w4.heap.size, 0, none⟩ = some (.slice as0_0 R0.fInodes.length cs0_0) := hbxs0.2 0 _ rfl
      replace xbs0_1 : w14.cell? ⟨w4.heap.size, 1, none⟩ = some (.slice as0_1 R0.fNames.length cs0_1) := hbxs0.2 1 _ rfl
      replace xbs0_2 : w14.cell? ⟨w4.heap.size, 2, none⟩ = some (.slice as0_2 R0.fSafe.length cs0_2) := hbxs0.2 2 _ rfl
      replace xbs0_3 : w14.cell? ⟨w4.heap.size, 3, none⟩ = some (.int .i64 R0.fNext) := hbxs0.2 3 _ rfl
      replace hlbs0 : w4.heap.size < w14.heap.size := hbxs0.1
      replace xbx0_0 : w14.cell? ⟨w5.heap.size, 0, none⟩ = some (.slice ax0_0 m0.fInodes.length cx0_0) := hbxx0.2 0 _ rfl
      replace xbx0_1 : w14.cell? ⟨w5.heap.size, 1, none⟩ = some (.slice ax0_1 m0.fNames.length cx0_1) := hbxx0.2 1 _ rfl
      replace xbx0_2 : w14.cell? ⟨w5.heap.size, 2, none⟩ = some (.slice ax0_2 m0.fSafe.length cx0_2) := hbxx0.2 2 _ rfl
      replace xbx0_3 : w14.cell? ⟨w5.heap.size, 3, none⟩ = some (.int .i64 m0.fNext) := hbxx0.2 3 _ rfl
      replace hlbx0 : w5.heap.size < w14.heap.size := hbxx0.1
      replace xbg0_0 : w14.cell? ⟨w7.heap.size, 0, none⟩ = some (.slice ag0_0 R0.fInodes.length cg0_0) := hbxg0.2 0 _ rfl
      replace xbg0_1 : w14.cell? ⟨w7.heap.size, 1, none⟩ = some (.slice ag0_1 R0.fNames.length cg0_1) := hbxg0.2 1 _ rfl
      replace xbg0_2 : w14.cell? ⟨w7.heap.size, 2, none⟩ = some (.slice ag0_2 R0.fSafe.length cg0_2) := hbxg0.2 2 _ rfl
      replace xbg0_3 : w14.cell? ⟨w7.heap.size, 3, none⟩ = some (.int .i64 R0.fNext) := hbxg0.2 3 _ rfl
      replace hlbg0 : w7.heap.size < w14.heap.size := hbxg0.1
      have hB14 : Below w.heap.size w w14 := Turn.under hB13 hG14 (fun k hk => by have h1 := hgex2o _ hk; have h2 := hB13.size; omega)
      clear hx14 hox2
      have hox2 := homx2
      clear homx2
      have hC := fun (W : World) (hb : Below w14.heap.size w14 W) => eqDisk_yes _ _ R0 W (rDisk_good.mono (rDisk_good.below (oDisk_good.read hog0) hb) hb.size) (rDisk_good.mono (rDisk_good.below hrs0 (hb.mono hbs0)) (Nat.le_trans hbs0 hb.size)) (by omega)
      go_wp2_with fail
      refine Calls.mono (hC _ ?_) ?_
      · repeat (first | with_reducible exact Below.refl _ _ | with_reducible assumption | with_reducible refine Below.drew ?_ | with_reducible refine Below.alloc ?_ (by first | exact Nat.le_refl _ | (simp; omega)) _ | with_reducible refine Below.setCell ?_ (by simp) _)
      clear hC
      rintro e w15 ⟨rfl, hx15⟩
      have hZ15 : w14.heap.size ≤ w15.heap.size := by have h := hx15.size; first | exact h | (simp at h; omega)
      have hG15 : Below w14.heap.size w14 w15 := bthen (hx := hx15) (h := by repeat (first | with_reducible exact Below.refl _ _ | with_reducible assumption | with_reducible refine Below.drew ?_ | with_reducible refine Below.alloc ?_ (by first | exact Nat.le_refl _ | (simp; omega)) _ | with_reducible refine Below.setCell ?_ (by simp) _))
      replace hbxA0 : Bx w15 (w.heap.size) [.slice a0_0 m0.fInodes.length c0_0, .slice a0_1 m0.fNames.length c0_1, .slice a0_2 m0.fSafe.length c0_2, .int .i64 m0.fNext] := hbxA0.under hG15
      replace hbxs0 : Bx w15 (w4.heap.size) [.slice as0_0 R0.fInodes.length cs0_0, .slice as0_1 R0.fNames.length cs0_1, .slice as0_2 R0.fSafe.length cs0_2, .int .i64 R0.fNext] := hbxs0.under hG15
      replace hbxx0 : Bx w15 (w5.heap.size) [.slice ax0_0 m0.fInodes.length cx0_0, .slice ax0_1 m0.fNames.length cx0_1, .slice ax0_2 m0.fSafe.length cx0_2, .int .i64 m0.fNext] := hbxx0.under hG15
      replace hbxg0 : Bx w15 (w7.heap.size) [.slice ag0_0 R0.fInodes.length cg0_0, .slice ag0_1 R0.fNames.length cg0_1, .slice ag0_2 R0.fSafe.length cg0_2, .int .i64 R0.fNext] := hbxg0.under hG15
      have hoN := (oDisk_good.frame hog0 (fun b hb => hG15.block b (oDisk_good.lt hog0 b hb)))
      clear hog0
      have hog0 := hoN
      clear hoN
      replace hrs0 := (rDisk_good.below hrs0 (hG15.mono hbs0))
      replace hbs0 := Nat.le_trans hbs0 hG15.size
      replace xbA0_0 : w15.cell? ⟨w.heap.size, 0, none⟩ = some (.slice a0_0 m0.fInodes.length c0_0) := hbxA0.2 0 _ rfl
      replace xbA0_1 : w15.cell? ⟨w.heap.size, 1, none⟩ = some (.slice a0_1 m0.fNames.length c0_1) := hbxA0.2 1 _ rfl
      replace xbA0_2 : w15.cell? ⟨w.heap.size, 2, none⟩ = some (.slice a0_2 m0.fSafe.length c0_2) := hbxA0.2 2 _ rfl
      replace xbA0_3 : w15.cell? ⟨w.heap.size, 3, none⟩ = some (.int .i64 m0.fNext) := hbxA0.2 3 _ rfl
      replace hlbA0 : w.heap.size < w15.heap.size := hbxA0.1
      replace xbs0_0 : w15.cell? ⟨w4.heap.size, 0, none⟩ = some (.slice as0_0 R0.fInodes.length cs0_0) := hbxs0.2 0 _ rfl
      replace xbs0_1 : w15.cell? ⟨w4.heap.size, 1, none⟩ = some (.slice as0_1 R0.fNames.length cs0_1) := hbxs0.2 1 _ rfl
      replace xbs0_2 : w15.cell? ⟨w4.heap.size, 2, none⟩ = some (.slice as0_2 R0.fSafe.length cs0_2) := hbxs0.2 2 _ rfl
      replace xbs0_3 : w15.cell? ⟨w4.heap.size, 3, none⟩ = some (.int .i64 R0.fNext) := hbxs0.2 3 _ rfl
      replace hlbs0 : w4.heap.size < w15.heap.size := hbxs0.1
      replace xbx0_0 : w15.cell? ⟨w5.heap.size, 0, none⟩ = some (.slice ax0_0 m0.fInodes.length cx0_0) := hbxx0.2 0 _ rfl
      replace xbx0_1 : w15.cell? ⟨w5.heap.size, 1, none⟩ = some (.slice ax0_1 m0.fNames.length cx0_1) := hbxx0.2 1 _ rfl
      replace xbx0_2 : w15.cell? ⟨w5.heap.size, 2, none⟩ = some (.slice ax0_2 m0.fSafe.length cx0_2) := hbxx0.2 2 _ rfl
      replace xbx0_3 : w15.cell? ⟨w5.heap.size, 3, none⟩ = some (.int .i64 m0.fNext) := hbxx0.2 3 _ rfl
      replace hlbx0 : w5.heap.size < w15.heap.size := hbxx0.1
      replace xbg0_0 : w15.cell? ⟨w7.heap.size, 0, none⟩ = some (.slice ag0_0 R0.fInodes.length cg0_0) := hbxg0.2 0 _ rfl
      replace xbg0_1 : w15.cell? ⟨w7.heap.size, 1, none⟩ = some (.slice ag0_1 R0.fNames.length cg0_1) := hbxg0.2 1 _ rfl
      replace xbg0_2 : w15.cell? ⟨w7.heap.size, 2, none⟩ = some (.slice ag0_2 R0.fSafe.length cg0_2) := hbxg0.2 2 _ rfl
      replace xbg0_3 : w15.cell? ⟨w7.heap.size, 3, none⟩ = some (.int .i64 R0.fNext) := hbxg0.2 3 _ rfl
      replace hlbg0 : w7.heap.size < w15.heap.size := hbxg0.1
      have hB15 : Below w.heap.size w w15 := bthen hB14 hG15
      clear hx15
      have hC := fun (W : World) (hb : Below w15.heap.size w15 W) => markDisk_any _ R0 Fg0 1 W (by omega) (by omega) (oDisk_good.frame hog0 (fun b hb2 => hb.block b (oDisk_good.lt hog0 b hb2))) hNg0
      go_wp2_with fail
      refine Calls.mono (hC _ ?_) ?_
      · repeat (first | with_reducible exact Below.refl _ _ | with_reducible assumption | with_reducible refine Below.drew ?_ | with_reducible refine Below.alloc ?_ (by first | exact Nat.le_refl _ | (simp; omega)) _ | with_reducible refine Below.setCell ?_ (by simp) _)
      clear hC
      rintro e w16 ⟨mmg0, qg0, rfl, hqag0, hqbg0, homg0, hhg0, hx16⟩
      have hZ16 : w15.heap.size ≤ w16.heap.size := by have h := hx16.size; first | exact h | (simp at h; omega)
      have hG16 : Turn Fg0 w15 w16 := Turn.after (hx := hx16) (h := by repeat (first | with_reducible exact Below.refl _ _ | with_reducible assumption | with_reducible refine Below.drew ?_ | with_reducible refine Below.alloc ?_ (by first | exact Nat.le_refl _ | (simp; omega)) _ | with_reducible refine Below.setCell ?_ (by simp) _))
      replace hbxA0 : Bx w16 (w.heap.size) [.slice a0_0 m0.fInodes.length c0_0, .slice a0_1 m0.fNames.length c0_1, .slice a0_2 m0.fSafe.length c0_2, .int .i64 m0.fNext] := hbxA0.turn hG16 (fun hm => by have h1 := hgeg0o _ hm; have h2 := hltg0 _ hm; omega)
      replace hbxs0 : Bx w16 (w4.heap.size) [.slice as0_0 R0.fInodes.length cs0_0, .slice as0_1 R0.fNames.length cs0_1, .slice as0_2 R0.fSafe.length cs0_2, .int .i64 R0.fNext] := hbxs0.turn hG16 (fun hm => by have h1 := hgeg0o _ hm; have h2 := hltg0 _ hm; omega)
      replace hbxx0 : Bx w16 (w5.heap.size) [.slice ax0_0 m0.fInodes.length cx0_0, .slice ax0_1 m0.fNames.length cx0_1, .slice ax0_2 m0.fSafe.length cx0_2, .int .i64 m0.fNext] := hbxx0.turn hG16 (fun hm => by have h1 := hgeg0o _ hm; have h2 := hltg0 _ hm; omega)
      replace hbxg0 : Bx w16 (w7.heap.size) [.slice ag0_0 R0.fInodes.length cg0_0, .slice ag0_1 R0.fNames.length cg0_1, .slice ag0_2 R0.fSafe.length cg0_2, .int .i64 R0.fNext] := hbxg0.turn hG16 (fun hm => by have h1 := hgeg0o _ hm; have h2 := hltg0 _ hm; omega)
      replace hrs0 := (rDisk_good.below hrs0 (Turn.below hG16 (fun k hk => by have h1 := hgeg0o _ hk; omega) hbs0))
      replace hbs0 := Nat.le_trans hbs0 hG16.size
      replace xbA0_0 : w16.cell? ⟨w.heap.size, 0, none⟩ = some (.slice a0_0 m0.fInodes.length c0_0) := hbxA0.2 0 _ rfl
      replace xbA0_1 : w16.cell? ⟨w.heap.size, 1, none⟩ = some (.slice a0_1 m0.fNames.length c0_1) := hbxA0.2 1 _ rfl
      replace xbA0_2 : w16.cell? ⟨w.heap.size, 2, none⟩ = some (.slice a0_2 m0.fSafe.length c0_2) := hbxA0.2 2 _ rfl
      replace xbA0_3 : w16.cell? ⟨w.heap.size, 3, none⟩ = some (.int .i64 m0.fNext) := hbxA0.2 3 _ rfl
      replace hlbA0 : w.heap.size < w16.heap.size := hbxA0.1
      replace xbs0_0 : w16.cell? ⟨w4.heap.size, 0, none⟩ = some (.slice as0_0 R0.fInodes.length cs0_0) := hbxs0.2 0 _ rfl
      replace xbs0_1 : w16.cell? ⟨w4.heap.size, 1, none⟩ = some (.slice as0_1 R0.fNames.length cs0_1) := hbxs0.2 1 _ rfl
      replace xbs0_2 : w16.cell? ⟨w4.heap.size, 2, none⟩ = some (.slice as0_2 R0.fSafe.length cs0_2) := hbxs0.2 2 _ rfl
      replace xbs0_3 : w16.cell? ⟨w4.heap.size, 3, none⟩ = some (.int .i64 R0.fNext) := hbxs0.2 3 _ rfl
      replace hlbs0 : w4.heap.size < w16.heap.size := hbxs0.1
      replace xbx0_0 : w16.cell? ⟨w5.heap.size, 0, none⟩ = some (.slice ax0_0 m0.fInodes.length cx0_0) := hbxx0.2 0 _ rfl
      replace xbx0_1 : w16.cell? ⟨w5.heap.size, 1, none⟩ = some (.slice ax0_1 m0.fNames.length cx0_1) := hbxx0.2 1 _ rfl
      replace xbx0_2 : w16.cell? ⟨w5.heap.size, 2, none⟩ = some (.slice ax0_2 m0.fSafe.length cx0_2) := hbxx0.2 2 _ rfl
      replace xbx0_3 : w16.cell? ⟨w5.heap.size, 3, none⟩ = some (.int .i64 m0.fNext) := hbxx0.2 3 _ rfl
      replace hlbx0 : w5.heap.size < w16.heap.size := hbxx0.1
      replace xbg0_0 : w16.cell? ⟨w7.heap.size, 0, none⟩ = some (.slice ag0_0 R0.fInodes.length cg0_0) := hbxg0.2 0 _ rfl
      replace xbg0_1 : w16.cell? ⟨w7.heap.size, 1, none⟩ = some (.slice ag0_1 R0.fNames.length cg0_1) := hbxg0.2 1 _ rfl
      replace xbg0_2 : w16.cell? ⟨w7.heap.size, 2, none⟩ = some (.slice ag0_2 R0.fSafe.length cg0_2) := hbxg0.2 2 _ rfl
      replace xbg0_3 : w16.cell? ⟨w7.heap.size, 3, none⟩ = some (.int .i64 R0.fNext) := hbxg0.2 3 _ rfl
      replace hlbg0 : w7.heap.size < w16.heap.size := hbxg0.1
      have hB16 : Below w.heap.size w w16 := Turn.under hB15 hG16 (fun k hk => by have h1 := hgeg0o _ hk; have h2 := hB15.size; omega)
      clear hx16 hog0
      have hog0 := homg0
      clear homg0
      have hC := fun (W : World) (hb : Below w16.heap.size w16 W) => heldDisk_any _ mmg0 1 qg0 W (rDisk_good.mono (rDisk_good.below (oDisk_good.read hog0) hb) hb.size) hhg0 (by omega) (by omega)
      go_wp2_with fail
      refine Calls.mono (hC _ ?_) ?_
      · repeat (first | with_reducible exact Below.refl _ _ | with_reducible assumption | with_reducible refine Below.drew ?_ | with_reducible refine Below.alloc ?_ (by first | exact Nat.le_refl _ | (simp; omega)) _ | with_reducible refine Below.setCell ?_ (by simp) _)
      clear hC
      rintro e w17 ⟨rfl, hx17⟩
      have hZ17 : w16.heap.size ≤ w17.heap.size := by have h := hx17.size; first | exact h | (simp at h; omega)
      have hG17 : Below w16.heap.size w16 w17 := bthen (hx := hx17) (h := by repeat (first | with_reducible exact Below.refl _ _ | with_reducible assumption | with_reducible refine Below.drew ?_ | with_reducible refine Below.alloc ?_ (by first | exact Nat.le_refl _ | (simp; omega)) _ | with_reducible refine Below.setCell ?_ (by simp) _))
      replace hbxA0 : Bx w17 (w.heap.size) [.slice a0_0 m0.fInodes.length c0_0, .slice a0_1 m0.fNames.length c0_1, .slice a0_2 m0.fSafe.length c0_2, .int .i64 m0.fNext] := hbxA0.under hG17
      replace hbxs0 : Bx w17 (w4.heap.size) [.slice as0_0 R0.fInodes.length cs0_0, .slice as0_1 R0.fNames.length cs0_1, .slice as0_2 R0.fSafe.length cs0_2, .int .i64 R0.fNext] := hbxs0.under hG17
      replace hbxx0 : Bx w17 (w5.heap.size) [.slice ax0_0 m0.fInodes.length cx0_0, .slice ax0_1 m0.fNames.length cx0_1, .slice ax0_2 m0.fSafe.length cx0_2, .int .i64 m0.fNext] := hbxx0.under hG17
      replace hbxg0 : Bx w17 (w7.heap.size) [.slice ag0_0 R0.fInodes.length cg0_0, .slice ag0_1 R0.fNames.length cg0_1, .slice ag0_2 R0.fSafe.length cg0_2, .int .i64 R0.fNext] := hbxg0.under hG17
      have hoN := (oDisk_good.frame hog0 (fun b hb => hG17.block b (oDisk_good.lt hog0 b hb)))
      clear hog0
      have hog0 := hoN
      clear hoN
      replace hrs0 := (rDisk_good.below hrs0 (hG17.mono hbs0))
      replace hbs0 := Nat.le_trans hbs0 hG17.size
      replace xbA0_0 : w17.cell? ⟨w.heap.size, 0, none⟩ = some (.slice a0_0 m0.fInodes.length c0_0) := hbxA0.2 0 _ rfl
      replace xbA0_1 : w17.cell? ⟨w.heap.size, 1, none⟩ = some (.slice a0_1 m0.fNames.length c0_1) := hbxA0.2 1 _ rfl
      replace xbA0_2 : w17.cell? ⟨w.heap.size, 2, none⟩ = some (.slice a0_2 m0.fSafe.length c0_2) := hbxA0.2 2 _ rfl
      replace xbA0_3 : w17.cell? ⟨w.heap.size, 3, none⟩ = some (.int .i64 m0.fNext) := hbxA0.2 3 _ rfl
      replace hlbA0 : w.heap.size < w17.heap.size := hbxA0.1
      replace xbs0_0 : w17.cell? ⟨w4.heap.size, 0, none⟩ = some (.slice as0_0 R0.fInodes.length cs0_0) := hbxs0.2 0 _ rfl
      replace xbs0_1 : w17.cell? ⟨w4.heap.size, 1, none⟩ = some (.slice as0_1 R0.fNames.length cs0_1) := hbxs0.2 1 _ rfl
      replace xbs0_2 : w17.cell? ⟨w4.heap.size, 2, none⟩ = some (.slice as0_2 R0.fSafe.length cs0_2) := hbxs0.2 2 _ rfl
      replace xbs0_3 : w17.cell? ⟨w4.heap.size, 3, none⟩ = some (.int .i64 R0.fNext) := hbxs0.2 3 _ rfl
      replace hlbs0 : w4.heap.size < w17.heap.size := hbxs0.1
      replace xbx0_0 : w17.cell? ⟨w5.heap.size, 0, none⟩ = some (.slice ax0_0 m0.fInodes.length cx0_0) := hbxx0.2 0 _ rfl
      replace xbx0_1 : w17.cell? ⟨w5.heap.size, 1, none⟩ = some (.slice ax0_1 m0.fNames.length cx0_1) := hbxx0.2 1 _ rfl
      replace xbx0_2 : w17.cell? ⟨w5.heap.size, 2, none⟩ = some (.slice ax0_2 m0.fSafe.length cx0_2) := hbxx0.2 2 _ rfl
      replace xbx0_3 : w17.cell? ⟨w5.heap.size, 3, none⟩ = some (.int .i64 m0.fNext) := hbxx0.2 3 _ rfl
      replace hlbx0 : w5.heap.size < w17.heap.size := hbxx0.1
      replace xbg0_0 : w17.cell? ⟨w7.heap.size, 0, none⟩ = some (.slice ag0_0 R0.fInodes.length cg0_0) := hbxg0.2 0 _ rfl
      replace xbg0_1 : w17.cell? ⟨w7.heap.size, 1, none⟩ = some (.slice ag0_1 R0.fNames.length cg0_1) := hbxg0.2 1 _ rfl
      replace xbg0_2 : w17.cell? ⟨w7.heap.size, 2, none⟩ = some (.slice ag0_2 R0.fSafe.length cg0_2) := hbxg0.2 2 _ rfl
      replace xbg0_3 : w17.cell? ⟨w7.heap.size, 3, none⟩ = some (.int .i64 R0.fNext) := hbxg0.2 3 _ rfl
      replace hlbg0 : w7.heap.size < w17.heap.size := hbxg0.1
      have hB17 : Below w.heap.size w w17 := bthen hB16 hG17
      clear hx17
      have hC := fun (W : World) (hb : Below w17.heap.size w17 W) => toDisk_any _ m0 W (rDisk_good.mono (rDisk_good.below hr0 (bthen hB17 hb)) (bthen hB17 hb).size) hwn0
      go_wp2_with fail
      refine Calls.mono (hC _ ?_) ?_
      · repeat (first | with_reducible exact Below.refl _ _ | with_reducible assumption | with_reducible refine Below.drew ?_ | with_reducible refine Below.alloc ?_ (by first | exact Nat.le_refl _ | (simp; omega)) _ | with_reducible refine Below.setCell ?_ (by simp) _)
      clear hC
      rintro e w18 ⟨vh0, Fh0, rfl, hoh0, hNh0, hgeh0, hx18⟩
      have hZ18 : w17.heap.size ≤ w18.heap.size := by have h := hx18.size; first | exact h | (simp at h; omega)
      have hgeh0o : ∀ b, b ∈ Fh0 → w17.heap.size ≤ b := fun b hb => by have h := hgeh0 b hb; first | exact h | (simp at h; omega)
      clear hgeh0
      have hG18 : Below w17.heap.size w17 w18 := bthen (hx := hx18) (h := by repeat (first | with_reducible exact Below.refl _ _ | with_reducible assumption | with_reducible refine Below.drew ?_ | with_reducible refine Below.alloc ?_ (by first | exact Nat.le_refl _ | (simp; omega)) _ | with_reducible refine Below.setCell ?_ (by simp) _))
      replace hbxA0 : Bx w18 (w.heap.size) [.slice a0_0 m0.fInodes.length c0_0, .slice a0_1 m0.fNames.length c0_1, .slice a0_2 m0.fSafe.length c0_2, .int .i64 m0.fNext] := hbxA0.under hG18
      replace hbxs0 : Bx w18 (w4.heap.size) [.slice as0_0 R0.fInodes.length cs0_0, .slice as0_1 R0.fNames.length cs0_1, .slice as0_2 R0.fSafe.length cs0_2, .int .i64 R0.fNext] := hbxs0.under hG18
      replace hbxx0 : Bx w18 (w5.heap.size) [.slice ax0_0 m0.fInodes.length cx0_0, .slice ax0_1 m0.fNames.length cx0_1, .slice ax0_2 m0.fSafe.length cx0_2, .int .i64 m0.fNext] := hbxx0.under hG18
      replace hbxg0 : Bx w18 (w7.heap.size) [.slice ag0_0 R0.fInodes.length cg0_0, .slice ag0_1 R0.fNames.length cg0_1, .slice ag0_2 R0.fSafe.length cg0_2, .int .i64 R0.fNext] := hbxg0.under hG18
      have hoN := (oDisk_good.frame hog0 (fun b hb => hG18.block b (oDisk_good.lt hog0 b hb)))
      clear hog0
      have hog0 := hoN
      clear hoN
      replace hrs0 := (rDisk_good.below hrs0 (hG18.mono hbs0))
      replace hbs0 := Nat.le_trans hbs0 hG18.size
      replace xbA0_0 : w18.cell? ⟨w.heap.size, 0, none⟩ = some (.slice a0_0 m0.fInodes.length c0_0) := hbxA0.2 0 _ rfl
      replace xbA0_1 : w18.cell? ⟨w.heap.size, 1, none⟩ = some (.slice a0_1 m0.fNames.length c0_1) := hbxA0.2 1 _ rfl
      replace xbA0_2 : w18.cell? ⟨w.heap.size, 2, none⟩ = some (.slice a0_2 m0.fSafe.length c0_2) := hbxA0.2 2 _ rfl
      replace xbA0_3 : w18.cell? ⟨w.heap.size, 3, none⟩ = some (.int .i64 m0.fNext) := hbxA0.2 3 _ rfl
      replace hlbA0 : w.heap.size < w18.heap.size := hbxA0.1
      replace xbs0_0 : w18.cell? ⟨w4.heap.size, 0, none⟩ = some (.slice as0_0 R0.fInodes.length cs0_0) := hbxs0.2 0 _ rfl
      replace xbs0_1 : w18.cell? ⟨w4.heap.size, 1, none⟩ = some (.slice as0_1 R0.fNames.length cs0_1) := hbxs0.2 1 _ rfl
      replace xbs0_2 : w18.cell? ⟨w4.heap.size, 2, none⟩ = some (.slice as0_2 R0.fSafe.length cs0_2) := hbxs0.2 2 _ rfl
      replace xbs0_3 : w18.cell? ⟨w4.heap.size, 3, none⟩ = some (.int .i64 R0.fNext) := hbxs0.2 3 _ rfl
      replace hlbs0 : w4.heap.size < w18.heap.size := hbxs0.1
      replace xbx0_0 : w18.cell? ⟨w5.heap.size, 0, none⟩ = some (.slice ax0_0 m0.fInodes.length cx0_0) := hbxx0.2 0 _ rfl
      replace xbx0_1 : w18.cell? ⟨w5.heap.size, 1, none⟩ = some (.slice ax0_1 m0.fNames.length cx0_1) := hbxx0.2 1 _ rfl
      replace xbx0_2 : w18.cell? ⟨w5.heap.size, 2, none⟩ = some (.slice ax0_2 m0.fSafe.length cx0_2) := hbxx0.2 2 _ rfl
      replace xbx0_3 : w18.cell? ⟨w5.heap.size, 3, none⟩ = some (.int .i64 m0.fNext) := hbxx0.2 3 _ rfl
      replace hlbx0 : w5.heap.size < w18.heap.size := hbxx0.1
      replace xbg0_0 : w18.cell? ⟨w7.heap.size, 0, none⟩ = some (.slice ag0_0 R0.fInodes.length cg0_0) := hbxg0.2 0 _ rfl
      replace xbg0_1 : w18.cell? ⟨w7.heap.size, 1, none⟩ = some (.slice ag0_1 R0.fNames.length cg0_1) := hbxg0.2 1 _ rfl
      replace xbg0_2 : w18.cell? ⟨w7.heap.size, 2, none⟩ = some (.slice ag0_2 R0.fSafe.length cg0_2) := hbxg0.2 2 _ rfl
      replace xbg0_3 : w18.cell? ⟨w7.heap.size, 3, none⟩ = some (.int .i64 R0.fNext) := hbxg0.2 3 _ rfl
      replace hlbg0 : w7.heap.size < w18.heap.size := hbxg0.1
      have hB18 : Below w.heap.size w w18 := bthen hB17 hG18
      clear hx18
      have hlth0 : ∀ b, b ∈ Fh0 → b < w18.heap.size := fun b hb => oDisk_good.lt hoh0 b hb
      have hC := fun (W : World) (hb : Below w18.heap.size w18 W) => toByteS_r _ m2 W ((hr2.below (bthen hB18 hb)).mono (bthen hB18 hb).size) hwn2
      go_wp2_with fail
      refine Calls.mono (hC _ ?_) ?_
      · repeat (first | with_reducible exact Below.refl _ _ | with_reducible assumption | with_reducible refine Below.drew ?_ | with_reducible refine Below.alloc ?_ (by first | exact Nat.le_refl _ | (simp; omega)) _ | with_reducible refine Below.setCell ?_ (by simp) _)
      clear hC
      rintro e w19 ⟨vh2, Fh2, rfl, hoh2, hNh2, hgeh2, hx19⟩
      have hZ19 : w18.heap.size ≤ w19.heap.size := by have h := hx19.size; first | exact h | (simp at h; omega)
      have hgeh2o : ∀ b, b ∈ Fh2 → w18.heap.size ≤ b := fun b hb => by have h := hgeh2 b hb; first | exact h | (simp at h; omega)
      clear hgeh2
      have hG19 : Below w18.heap.size w18 w19 := bthen (hx := hx19) (h := by repeat (first | with_reducible exact Below.refl _ _ | with_reducible assumption | with_reducible refine Below.drew ?_ | with_reducible refine Below.alloc ?_ (by first | exact Nat.le_refl _ | (simp; omega)) _ | with_reducible refine Below.setCell ?_ (by simp) _))
      replace hbxA0 : Bx w19 (w.heap.size) [.slice a0_0 m0.fInodes.length c0_0, .slice a0_1 m0.fNames.length c0_1, .slice a0_2 m0.fSafe.length c0_2, .int .i64 m0.fNext] := hbxA0.under hG19
      replace hbxs0 : Bx w19 (w4.heap.size) [.slice as0_0 R0.fInodes.length cs0_0, .slice as0_1 R0.fNames.length cs0_1, .slice as0_2 R0.fSafe.length cs0_2, .int .i64 R0.fNext] := hbxs0.under hG19
      replace hbxx0 : Bx w19 (w5.heap.size) [.slice ax0_0 m0.fInodes.length cx0_0, .slice ax0_1 m0.fNames.length cx0_1, .slice ax0_2 m0.fSafe.length cx0_2, .int .i64 m0.fNext] := hbxx0.under hG19
      replace hbxg0 : Bx w19 (w7.heap.size) [.slice ag0_0 R0.fInodes.length cg0_0, .slice ag0_1 R0.fNames.length cg0_1, .slice ag0_2 R0.fSafe.length cg0_2, .int .i64 R0.fNext] := hbxg0.under hG19
      have hoN := (oDisk_good.frame hog0 (fun b hb => hG19.block b (oDisk_good.lt hog0 b hb)))
      clear hog0
      have hog0 := hoN
      clear hoN
      have hoN := (oDisk_good.frame hoh0 (fun b hb => hG19.block b (oDisk_good.lt hoh0 b hb)))
      clear hoh0
      have hoh0 := hoN
      clear hoN
      replace hrs0 := (rDisk_good.below hrs0 (hG19.mono hbs0))
      replace hbs0 := Nat.le_trans hbs0 hG19.size
      replace xbA0_0 : w19.cell? ⟨w.heap.size, 0, none⟩ = some (.slice a0_0 m0.fInodes.length c0_0) := hbxA0.2 0 _ rfl
      replace xbA0_1 : w19.cell? ⟨w.heap.size, 1, none⟩ = some (.slice a0_1 m0.fNames.length c0_1) := hbxA0.2 1 _ rfl
      replace xbA0_2 : w19.cell? ⟨w.heap.size, 2, none⟩ = some (.slice a0_2 m0.fSafe.length c0_2) := hbxA0.2 2 _ rfl
      replace xbA0_3 : w19.cell? ⟨w.heap.size, 3, none⟩ = some (.int .i64 m0.fNext) := hbxA0.2 3 _ rfl
      replace hlbA0 : w.heap.size < w19.heap.size := hbxA0.1
      replace xbs0_0 : w19.cell? ⟨w4.heap.size, 0, none⟩ = some (.slice as0_0 R0.fInodes.length cs0_0) := hbxs0.2 0 _ rfl
      replace xbs0_1 : w19.cell? ⟨w4.heap.size, 1, none⟩ = some (.slice as0_1 R0.fNames.length cs0_1) := hbxs0.2 1 _ rfl
      replace xbs0_2 : w19.cell? ⟨w4.heap.size, 2, none⟩ = some (.slice as0_2 R0.fSafe.length cs0_2) := hbxs0.2 2 _ rfl
      replace xbs0_3 : w19.cell? ⟨w4.heap.size, 3, none⟩ = some (.int .i64 R0.fNext) := hbxs0.2 3 _ rfl
      replace hlbs0 : w4.heap.size < w19.heap.size := hbxs0.1
      replace xbx0_0 : w19.cell? ⟨w5.heap.size, 0, none⟩ = some (.slice ax0_0 m0.fInodes.length cx0_0) := hbxx0.2 0 _ rfl
      replace xbx0_1 : w19.cell? ⟨w5.heap.size, 1, none⟩ = some (.slice ax0_1 m0.fNames.length cx0_1) := hbxx0.2 1 _ rfl
      replace xbx0_2 : w19.cell? ⟨w5.heap.size, 2, none⟩ = some (.slice ax0_2 m0.fSafe.length cx0_2) := hbxx0.2 2 _ rfl
      replace xbx0_3 : w19.cell? ⟨w5.heap.size, 3, none⟩ = some (.int .i64 m0.fNext) := hbxx0.2 3 _ rfl
      replace hlbx0 : w5.heap.size < w19.heap.size := hbxx0.1
      replace xbg0_0 : w19.cell? ⟨w7.heap.size, 0, none⟩ = some (.slice ag0_0 R0.fInodes.length cg0_0) := hbxg0.2 0 _ rfl
      replace xbg0_1 : w19.cell? ⟨w7.heap.size, 1, none⟩ = some (.slice ag0_1 R0.fNames.length cg0_1) := hbxg0.2 1 _ rfl
      replace xbg0_2 : w19.cell? ⟨w7.heap.size, 2, none⟩ = some (.slice ag0_2 R0.fSafe.length cg0_2) := hbxg0.2 2 _ rfl
      replace xbg0_3 : w19.cell? ⟨w7.heap.size, 3, none⟩ = some (.int .i64 R0.fNext) := hbxg0.2 3 _ rfl
      replace hlbg0 : w7.heap.size < w19.heap.size := hbxg0.1
      have hB19 : Below w.heap.size w w19 := bthen hB18 hG19
      clear hx19
      have hlth2 : ∀ b, b ∈ Fh2 → b < w19.heap.size := fun b hb => hoh2.lt b hb
      have hC := fun (W : World) (hb : Below w19.heap.size w19 W) => implLog_c _ m0 m1 _ m2 W (rDisk_good.mono (rDisk_good.below (oDisk_good.read hoh0) hb) hb.size) hs1 (((rdB_own hoh2).below hb).mono hb.size) hwn0 hwn1 hwn2 (hT.below (bthen hB19 hb) hsz)
      go_wp2_with fail
      refine Calls.mono (hC _ ?_) ?_
      · repeat (first | with_reducible exact Below.refl _ _ | with_reducible assumption | with_reducible refine Below.drew ?_ | with_reducible refine Below.alloc ?_ (by first | exact Nat.le_refl _ | (simp; omega)) _ | with_reducible refine Below.setCell ?_ (by simp) _)
      clear hC
      rintro e w20 ⟨vk0, Fk0, he, hok0, hNk0, hgek0, hx20⟩
      have hZ20 : w19.heap.size ≤ w20.heap.size := by have h := hx20.size; first | exact h | (simp at h; omega)
      rw [← HR0.out] at hok0
      have hgek0o : ∀ b, b ∈ Fk0 → w19.heap.size ≤ b := fun b hb => by have h := hgek0 b hb; first | exact h | (simp at h; omega)
      clear hgek0
      rw [← HR1.out] at he
      subst he
      have hG20 : Below w19.heap.size w19 w20 := bthen (hx := hx20) (h := by repeat (first | with_reducible exact Below.refl _ _ | with_reducible assumption | with_reducible refine Below.drew ?_ | with_reducible refine Below.alloc ?_ (by first | exact Nat.le_refl _ | (simp; omega)) _ | with_reducible refine Below.setCell ?_ (by simp) _))
      replace hbxA0 : Bx w20 (w.heap.size) [.slice a0_0 m0.fInodes.length c0_0, .slice a0_1 m0.fNames.length c0_1, .slice a0_2 m0.fSafe.length c0_2, .int .i64 m0.fNext] := hbxA0.under hG20
      replace hbxs0 : Bx w20 (w4.heap.size) [.slice as0_0 R0.fInodes.length cs0_0, .slice as0_1 R0.fNames.length cs0_1, .slice as0_2 R0.fSafe.length cs0_2, .int .i64 R0.fNext] := hbxs0.under hG20
      replace hbxx0 : Bx w20 (w5.heap.size) [.slice ax0_0 m0.fInodes.length cx0_0, .slice ax0_1 m0.fNames.length cx0_1, .slice ax0_2 m0.fSafe.length cx0_2, .int .i64 m0.fNext] := hbxx0.under hG20
      replace hbxg0 : Bx w20 (w7.heap.size) [.slice ag0_0 R0.fInodes.length cg0_0, .slice ag0_1 R0.fNames.length cg0_1, .slice ag0_2 R0.fSafe.length cg0_2, .int .i64 R0.fNext] := hbxg0.under hG20
      have hoN := (oDisk_good.frame hog0 (fun b hb => hG20.block b (oDisk_good.lt hog0 b hb)))
      clear hog0
      have hog0 := hoN
      clear hoN
      have hoN := (oDisk_good.frame hoh0 (fun b hb => hG20.block b (oDisk_good.lt hoh0 b hb)))
      clear hoh0
      have hoh0 := hoN
      clear hoN
      have hoN := (hoh2.frame (fun b hb => hG20.block b (hoh2.lt b hb)))
      clear hoh2
      have hoh2 := hoN
      clear hoN
      replace hrs0 := (rDisk_good.below hrs0 (hG20.mono hbs0))
      replace hbs0 := Nat.le_trans hbs0 hG20.size
      replace xbA0_0 : w20.cell? ⟨w.heap.size, 0, none⟩ = some (.slice a0_0 m0.fInodes.length c0_0) := hbxA0.2 0 _ rfl
      replace xbA0_1 : w20.cell? ⟨w.heap.size, 1, none⟩ = some (.slice a0_1 m0.fNames.length c0_1) := hbxA0.2 1 _ rfl
      replace xbA0_2 : w20.cell? ⟨w.heap.size, 2, none⟩ = some (.slice a0_2 m0.fSafe.length c0_2) := hbxA0.2 2 _ rfl
      replace xbA0_3 : w20.cell? ⟨w.heap.size, 3, none⟩ = some (.int .i64 m0.fNext) := hbxA0.2 3 _ rfl
      replace hlbA0 : w.heap.size < w20.heap.size := hbxA0.1
      replace xbs0_0 : w20.cell? ⟨w4.heap.size, 0, none⟩ = some (.slice as0_0 R0.fInodes.length cs0_0) := hbxs0.2 0 _ rfl
      replace xbs0_1 : w20.cell? ⟨w4.heap.size, 1, none⟩ = some (.slice as0_1 R0.fNames.length cs0_1) := hbxs0.2 1 _ rfl
      replace xbs0_2 : w20.cell? ⟨w4.heap.size, 2, none⟩ = some (.slice as0_2 R0.fSafe.length cs0_2) := hbxs0.2 2 _ rfl
      replace xbs0_3 : w20.cell? ⟨w4.heap.size, 3, none⟩ = some (.int .i64 R0.fNext) := hbxs0.2 3 _ rfl
      replace hlbs0 : w4.heap.size < w20.heap.size := hbxs0.1
      replace xbx0_0 : w20.cell? ⟨w5.heap.size, 0, none⟩ = some (.slice ax0_0 m0.fInodes.length cx0_0) := hbxx0.2 0 _ rfl
      replace xbx0_1 : w20.cell? ⟨w5.heap.size, 1, none⟩ = some (.slice ax0_1 m0.fNames.length cx0_1) := hbxx0.2 1 _ rfl
      replace xbx0_2 : w20.cell? ⟨w5.heap.size, 2, none⟩ = some (.slice ax0_2 m0.fSafe.length cx0_2) := hbxx0.2 2 _ rfl
      replace xbx0_3 : w20.cell? ⟨w5.heap.size, 3, none⟩ = some (.int .i64 m0.fNext) := hbxx0.2 3 _ rfl
      replace hlbx0 : w5.heap.size < w20.heap.size := hbxx0.1
      replace xbg0_0 : w20.cell? ⟨w7.heap.size, 0, none⟩ = some (.slice ag0_0 R0.fInodes.length cg0_0) := hbxg0.2 0 _ rfl
      replace xbg0_1 : w20.cell? ⟨w7.heap.size, 1, none⟩ = some (.slice ag0_1 R0.fNames.length cg0_1) := hbxg0.2 1 _ rfl
      replace xbg0_2 : w20.cell? ⟨w7.heap.size, 2, none⟩ = some (.slice ag0_2 R0.fSafe.length cg0_2) := hbxg0.2 2 _ rfl
      replace xbg0_3 : w20.cell? ⟨w7.heap.size, 3, none⟩ = some (.int .i64 R0.fNext) := hbxg0.2 3 _ rfl
      replace hlbg0 : w7.heap.size < w20.heap.size := hbxg0.1
      have hB20 : Below w.heap.size w w20 := bthen hB19 hG20
      clear hx20
      have hltk0 : ∀ b, b ∈ Fk0 → b < w20.heap.size := fun b hb => oDisk_good.lt hok0 b hb
      have hq := (oDisk_good.read hok0)
      obtain ⟨ak0_0, ck0_0, ak0_1, ck0_1, ak0_2, ck0_2, rfl, _⟩ := hq
      clear hoh0
      clear hoh2
      have hC := fun (W : World) (hb : Below w20.heap.size w20 W) => eqDisk_yes _ _ R0 W (rDisk_good.mono (rDisk_good.below (oDisk_good.read hok0) hb) hb.size) (rDisk_good.mono (rDisk_good.below hrs0 (hb.mono hbs0)) (Nat.le_trans hbs0 hb.size)) (by omega)
      go_wp2_with fail
      refine Calls.mono (hC _ ?_) ?_
      · repeat (first | with_reducible exact Below.refl _ _ | with_reducible assumption | with_reducible refine Below.drew ?_ | with_reducible refine Below.alloc ?_ (by first | exact Nat.le_refl _ | (simp; omega)) _ | with_reducible refine Below.setCell ?_ (by simp) _)
      clear hC
      rintro e w21 ⟨rfl, hx21⟩
      have hZ21 : w20.heap.size + 1 ≤ w21.heap.size := by have h := hx21.size; first | exact h | (simp at h; omega)
      have hG21 : Below w20.heap.size w20 w21 := bthen (hx := hx21) (h := by repeat (first | with_reducible exact Below.refl _ _ | with_reducible assumption | with_reducible refine Below.drew ?_ | with_reducible refine Below.alloc ?_ (by first | exact Nat.le_refl _ | (simp; omega)) _ | with_reducible refine Below.setCell ?_ (by simp) _))
      replace hbxA0 : Bx w21 (w.heap.size) [.slice a0_0 m0.fInodes.length c0_0, .slice a0_1 m0.fNames.length c0_1, .slice a0_2 m0.fSafe.length c0_2, .int .i64 m0.fNext] := hbxA0.under hG21
      replace hbxs0 : Bx w21 (w4.heap.size) [.slice as0_0 R0.fInodes.length cs0_0, .slice as0_1 R0.fNames.length cs0_1, .slice as0_2 R0.fSafe.length cs0_2, .int .i64 R0.fNext] := hbxs0.under hG21
      replace hbxx0 : Bx w21 (w5.heap.size) [.slice ax0_0 m0.fInodes.length cx0_0, .slice ax0_1 m0.fNames.length cx0_1, .slice ax0_2 m0.fSafe.length cx0_2, .int .i64 m0.fNext] := hbxx0.under hG21
      replace hbxg0 : Bx w21 (w7.heap.size) [.slice ag0_0 R0.fInodes.length cg0_0, .slice ag0_1 R0.fNames.length cg0_1, .slice ag0_2 R0.fSafe.length cg0_2, .int .i64 R0.fNext] := hbxg0.under hG21
      have hoN := (oDisk_good.frame hog0 (fun b hb => hG21.block b (oDisk_good.lt hog0 b hb)))
      clear hog0
      have hog0 := hoN
      clear hoN
      have hoN := (oDisk_good.frame hok0 (fun b hb => hG21.block b (oDisk_good.lt hok0 b hb)))
      clear hok0
      have hok0 := hoN
      clear hoN
      replace hrs0 := (rDisk_good.below hrs0 (hG21.mono hbs0))
      replace hbs0 := Nat.le_trans hbs0 hG21.size
      have hbxk0 : Bx w21 (w20.heap.size) [.slice ak0_0 R0.fInodes.length ck0_0, .slice ak0_1 R0.fNames.length ck0_1, .slice ak0_2 R0.fSafe.length ck0_2, .int .i64 R0.fNext] := (Bx.new _ [.slice ak0_0 R0.fInodes.length ck0_0, .slice ak0_1 R0.fNames.length ck0_1, .slice ak0_2 R0.fSafe.length ck0_2, .int .i64 R0.fNext] _).under hx21
      replace xbA0_0 : w21.cell? ⟨w.heap.size, 0, none⟩ = some (.slice a0_0 m0.fInodes.length c0_0) := hbxA0.2 0 _ rfl
      replace xbA0_1 : w21.cell? ⟨w.heap.size, 1, none⟩ = some (.slice a0_1 m0.fNames.length c0_1) := hbxA0.2 1 _ rfl
      replace xbA0_2 : w21.cell? ⟨w.heap.size, 2, none⟩ = some (.slice a0_2 m0.fSafe.length c0_2) := hbxA0.2 2 _ rfl
      replace xbA0_3 : w21.cell? ⟨w.heap.size, 3, none⟩ = some (.int .i64 m0.fNext) := hbxA0.2 3 _ rfl
      replace hlbA0 : w.heap.size < w21.heap.size := hbxA0.1
      replace xbs0_0 : w21.cell? ⟨w4.heap.size, 0, none⟩ = some (.slice as0_0 R0.fInodes.length cs0_0) := hbxs0.2 0 _ rfl
      replace xbs0_1 : w21.cell? ⟨w4.heap.size, 1, none⟩ = some (.slice as0_1 R0.fNames.length cs0_1) := hbxs0.2 1 _ rfl
      replace xbs0_2 : w21.cell? ⟨w4.heap.size, 2, none⟩ = some (.slice as0_2 R0.fSafe.length cs0_2) := hbxs0.2 2 _ rfl
      replace xbs0_3 : w21.cell? ⟨w4.heap.size, 3, none⟩ = some (.int .i64 R0.fNext) := hbxs0.2 3 _ rfl
      replace hlbs0 : w4.heap.size < w21.heap.size := hbxs0.1
      replace xbx0_0 : w21.cell? ⟨w5.heap.size, 0, none⟩ = some (.slice ax0_0 m0.fInodes.length cx0_0) := hbxx0.2 0 _ rfl
      replace xbx0_1 : w21.cell? ⟨w5.heap.size, 1, none⟩ = some (.slice ax0_1 m0.fNames.length cx0_1) := hbxx0.2 1 _ rfl
      replace xbx0_2 : w21.cell? ⟨w5.heap.size, 2, none⟩ = some (.slice ax0_2 m0.fSafe.length cx0_2) := hbxx0.2 2 _ rfl
      replace xbx0_3 : w21.cell? ⟨w5.heap.size, 3, none⟩ = some (.int .i64 m0.fNext) := hbxx0.2 3 _ rfl
      replace hlbx0 : w5.heap.size < w21.heap.size := hbxx0.1
      replace xbg0_0 : w21.cell? ⟨w7.heap.size, 0, none⟩ = some (.slice ag0_0 R0.fInodes.length cg0_0) := hbxg0.2 0 _ rfl
      replace xbg0_1 : w21.cell? ⟨w7.heap.size, 1, none⟩ = some (.slice ag0_1 R0.fNames.length cg0_1) := hbxg0.2 1 _ rfl
      replace xbg0_2 : w21.cell? ⟨w7.heap.size, 2, none⟩ = some (.slice ag0_2 R0.fSafe.length cg0_2) := hbxg0.2 2 _ rfl
      replace xbg0_3 : w21.cell? ⟨w7.heap.size, 3, none⟩ = some (.int .i64 R0.fNext) := hbxg0.2 3 _ rfl
      replace hlbg0 : w7.heap.size < w21.heap.size := hbxg0.1
      have xbk0_0 : w21.cell? ⟨w20.heap.size, 0, none⟩ = some (.slice ak0_0 R0.fInodes.length ck0_0) := hbxk0.2 0 _ rfl
      have xbk0_1 : w21.cell? ⟨w20.heap.size, 1, none⟩ = some (.slice ak0_1 R0.fNames.length ck0_1) := hbxk0.2 1 _ rfl
      have xbk0_2 : w21.cell? ⟨w20.heap.size, 2, none⟩ = some (.slice ak0_2 R0.fSafe.length ck0_2) := hbxk0.2 2 _ rfl
      have xbk0_3 : w21.cell? ⟨w20.heap.size, 3, none⟩ = some (.int .i64 R0.fNext) := hbxk0.2 3 _ rfl
      have hlbk0 : w20.heap.size < w21.heap.size := hbxk0.1
      have hB21 : Below w.heap.size w w21 := bthen hB20 hG21
      clear hx21
      have hC := fun (W : World) (hb : Below w21.heap.size w21 W) => heldDisk_any _ mmg0 1 qg0 W (rDisk_good.mono (rDisk_good.below (oDisk_good.read hog0) hb) hb.size) hhg0 (by omega) (by omega)
      go_wp2_with fail
      refine Calls.mono (hC _ ?_) ?_
      · repeat (first | with_reducible exact Below.refl _ _ | with_reducible assumption | with_reducible refine Below.drew ?_ | with_reducible refine Below.alloc ?_ (by first | exact Nat.le_refl _ | (simp; omega)) _ | with_reducible refine Below.setCell ?_ (by simp) _)
      clear hC
      rintro e w22 ⟨rfl, hx22⟩
      have hZ22 : w21.heap.size ≤ w22.heap.size := by have h := hx22.size; first | exact h | (simp at h; omega)
      have hG22 : Below w21.heap.size w21 w22 := bthen (hx := hx22) (h := by repeat (first | with_reducible exact Below.refl _ _ | with_reducible assumption | with_reducible refine Below.drew ?_ | with_reducible refine Below.alloc ?_ (by first | exact Nat.le_refl _ | (simp; omega)) _ | with_reducible refine Below.setCell ?_ (by simp) _))
      replace hbxA0 : Bx w22 (w.heap.size) [.slice a0_0 m0.fInodes.length c0_0, .slice a0_1 m0.fNames.length c0_1, .slice a0_2 m0.fSafe.length c0_2, .int .i64 m0.fNext] := hbxA0.under hG22
      replace hbxs0 : Bx w22 (w4.heap.size) [.slice as0_0 R0.fInodes.length cs0_0, .slice as0_1 R0.fNames.length cs0_1, .slice as0_2 R0.fSafe.length cs0_2, .int .i64 R0.fNext] := hbxs0.under hG22
      replace hbxx0 : Bx w22 (w5.heap.size) [.slice ax0_0 m0.fInodes.length cx0_0, .slice ax0_1 m0.fNames.length cx0_1, .slice ax0_2 m0.fSafe.length cx0_2, .int .i64 m0.fNext] := hbxx0.under hG22
      replace hbxg0 : Bx w22 (w7.heap.size) [.slice ag0_0 R0.fInodes.length cg0_0, .slice ag0_1 R0.fNames.length cg0_1, .slice ag0_2 R0.fSafe.length cg0_2, .int .i64 R0.fNext] := hbxg0.under hG22
      replace hbxk0 : Bx w22 (w20.heap.size) [.slice ak0_0 R0.fInodes.length ck0_0, .slice ak0_1 R0.fNames.length ck0_1, .slice ak0_2 R0.fSafe.length ck0_2, .int .i64 R0.fNext] := hbxk0.under hG22
      have hoN := (oDisk_good.frame hog0 (fun b hb => hG22.block b (oDisk_good.lt hog0 b hb)))
      clear hog0
      have hog0 := hoN
      clear hoN
      have hoN := (oDisk_good.frame hok0 (fun b hb => hG22.block b (oDisk_good.lt hok0 b hb)))
      clear hok0
      have hok0 := hoN
      clear hoN
      replace hrs0 := (rDisk_good.below hrs0 (hG22.mono hbs0))
      replace hbs0 := Nat.le_trans hbs0 hG22.size
      replace xbA0_0 : w22.cell? ⟨w.heap.size, 0, none⟩ = some (.slice a0_0 m0.fInodes.length c0_0) := hbxA0.2 0 _ rfl
      replace xbA0_1 : w22.cell? ⟨w.heap.size, 1, none⟩ = some (.slice a0_1 m0.fNames.length c0_1) := hbxA0.2 1 _ rfl
      replace xbA0_2 : w22.cell? ⟨w.heap.size, 2, none⟩ = some (.slice a0_2 m0.fSafe.length c0_2) := hbxA0.2 2 _ rfl
      replace xbA0_3 : w22.cell? ⟨w.heap.size, 3, none⟩ = some (.int .i64 m0.fNext) := hbxA0.2 3 _ rfl
      replace hlbA0 : w.heap.size < w22.heap.size := hbxA0.1
      replace xbs0_0 : w22.cell? ⟨w4.heap.size, 0, none⟩ = some (.slice as0_0 R0.fInodes.length cs0_0) := hbxs0.2 0 _ rfl
      replace xbs0_1 : w22.cell? ⟨w4.heap.size, 1, none⟩ = some (.slice as0_1 R0.fNames.length cs0_1) := hbxs0.2 1 _ rfl
      replace xbs0_2 : w22.cell? ⟨w4.heap.size, 2, none⟩ = some (.slice as0_2 R0.fSafe.length cs0_2) := hbxs0.2 2 _ rfl
      replace xbs0_3 : w22.cell? ⟨w4.heap.size, 3, none⟩ = some (.int .i64 R0.fNext) := hbxs0.2 3 _ rfl
      replace hlbs0 : w4.heap.size < w22.heap.size := hbxs0.1
      replace xbx0_0 : w22.cell? ⟨w5.heap.size, 0, none⟩ = some (.slice ax0_0 m0.fInodes.length cx0_0) := hbxx0.2 0 _ rfl
      replace xbx0_1 : w22.cell? ⟨w5.heap.size, 1, none⟩ = some (.slice ax0_1 m0.fNames.length cx0_1) := hbxx0.2 1 _ rfl
      replace xbx0_2 : w22.cell? ⟨w5.heap.size, 2, none⟩ = some (.slice ax0_2 m0.fSafe.length cx0_2) := hbxx0.2 2 _ rfl
      replace xbx0_3 : w22.cell? ⟨w5.heap.size, 3, none⟩ = some (.int .i64 m0.fNext) := hbxx0.2 3 _ rfl
      replace hlbx0 : w5.heap.size < w22.heap.size := hbxx0.1
      replace xbg0_0 : w22.cell? ⟨w7.heap.size, 0, none⟩ = some (.slice ag0_0 R0.fInodes.length cg0_0) := hbxg0.2 0 _ rfl
      replace xbg0_1 : w22.cell? ⟨w7.heap.size, 1, none⟩ = some (.slice ag0_1 R0.fNames.length cg0_1) := hbxg0.2 1 _ rfl
      replace xbg0_2 : w22.cell? ⟨w7.heap.size, 2, none⟩ = some (.slice ag0_2 R0.fSafe.length cg0_2) := hbxg0.2 2 _ rfl
      replace xbg0_3 : w22.cell? ⟨w7.heap.size, 3, none⟩ = some (.int .i64 R0.fNext) := hbxg0.2 3 _ rfl
      replace hlbg0 : w7.heap.size < w22.heap.size := hbxg0.1
      replace xbk0_0 : w22.cell? ⟨w20.heap.size, 0, none⟩ = some (.slice ak0_0 R0.fInodes.length ck0_0) := hbxk0.2 0 _ rfl
      replace xbk0_1 : w22.cell? ⟨w20.heap.size, 1, none⟩ = some (.slice ak0_1 R0.fNames.length ck0_1) := hbxk0.2 1 _ rfl
      replace xbk0_2 : w22.cell? ⟨w20.heap.size, 2, none⟩ = some (.slice ak0_2 R0.fSafe.length ck0_2) := hbxk0.2 2 _ rfl
      replace xbk0_3 : w22.cell? ⟨w20.heap.size, 3, none⟩ = some (.int .i64 R0.fNext) := hbxk0.2 3 _ rfl
      replace hlbk0 : w20.heap.size < w22.heap.size := hbxk0.1
      have hB22 : Below w.heap.size w w22 := bthen hB21 hG22
      clear hx22
      go_wp2_with fail
      go_ret
      exact ⟨rfl, by repeat (first | with_reducible exact Below.refl _ _ | with_reducible assumption | with_reducible refine Below.drew ?_ | with_reducible refine Below.alloc ?_ (by first | exact Nat.le_refl _ | (simp; omega)) _ | with_reducible refine Below.setCell ?_ (by simp) _)⟩
  · rw [szRes_no hw0]
    go_wp2_with fail
    all_goals
      go_ret
      exact ⟨rfl, by repeat (first | with_reducible exact Below.refl _ _ | with_reducible assumption | with_reducible refine Below.drew ?_ | with_reducible refine Below.alloc ?_ (by first | exact Nat.le_refl _ | (simp; omega)) _ | with_reducible refine Below.setCell ?_ (by simp) _)⟩

end Go.Proofs.YtcbhmbgmeodjdaaDoor
