/-
  The exact law of DiskNew: both answers are the disk that has nothing but Next 1, in memory of their own.
-/
import Derived.Test.YtmooplfbkkijhaaDatT
import Derived.Test.YtmooplfbkkijhaaDatE
import Derived.Test.YtmooplfbkkijhaaDatM
namespace Go.Proofs.Ytmooplfbkkijhaa
open Go.RowKit
set_option linter.unusedVariables false
set_option maxRecDepth 10000

def newDisk : MDisk := ⟨[], [], [], 1⟩

theorem oNewDisk (w : World) : oDisk w [.slice none 0 0, .slice none 0 0, .slice none 0 0, .int .i64 1] newDisk [] :=
  ⟨_, [], _, [], _, [], rfl, .inl ⟨rfl, rfl, rfl⟩, .inl ⟨rfl, rfl, rfl⟩, .inl ⟨rfl, rfl, rfl⟩, rfl, rfl⟩

set_option maxHeartbeats 400000 in
theorem specDiskNew_c (w : World) :
    Calls Try.prog 38 #[] w fun e w' => ∃ cs : List Value, e = .returned (.agg cs.toArray) ∧ rDisk w'.heap.size w' cs newDisk ∧ Below w.heap.size w w' := by
  go_enter Try.func38, Try.ntmps38
  go_wp2
  refine bodyPost_ret (v := .agg #[.slice none 0 0, .slice none 0 0, .slice none 0 0, .int .i64 1]) (by simp [results, Try.results38, go_sem, *]) rfl ⟨[.slice none 0 0, .slice none 0 0, .slice none 0 0, .int .i64 1], rfl, oDisk_good.read (oNewDisk _), ?_⟩
  repeat (first | with_reducible exact Below.refl _ _ | refine Below.setCell ?_ (by simp) _ | refine Below.alloc ?_ (by first | exact Nat.le_refl _ | (simp; omega)) _)

set_option maxHeartbeats 400000 in
theorem implDiskNew_c (w : World) :
    Calls Try.prog 39 #[] w fun e w' => ∃ (cs : List Value) (F : List Nat), e = .returned (.agg cs.toArray) ∧ oDisk w' cs newDisk F ∧ F.Nodup ∧ (∀ b, b ∈ F → w.heap.size ≤ b) ∧ Below w.heap.size w w' := by
  go_enter Try.func39, Try.ntmps39
  go_wp2
  refine bodyPost_ret (v := .agg #[.slice none 0 0, .slice none 0 0, .slice none 0 0, .int .i64 1]) (by simp [results, Try.results39, go_sem, *]) rfl ⟨[.slice none 0 0, .slice none 0 0, .slice none 0 0, .int .i64 1], [], rfl, oNewDisk _, List.nodup_nil, (fun b hb => by cases hb), ?_⟩
  repeat (first | with_reducible exact Below.refl _ _ | refine Below.setCell ?_ (by simp) _ | refine Below.alloc ?_ (by first | exact Nat.le_refl _ | (simp; omega)) _)

theorem boundDiskNew_0 : wDisk newDisk ≤ 1099511627776 := by simp [wDisk, newDisk, sumW]

set_option maxHeartbeats 4000000 in
theorem law_FnExactDiskNew (w : World) :
    Calls Try.prog 6 #[] w fun e w' => e = .returned (.bool true) ∧ Below w.heap.size w w' := by
  go_enter Try.func6, Try.ntmps6
  obtain ⟨R0, hR0⟩ : ∃ R : MDisk, R = newDisk := ⟨_, rfl⟩
  have hRw0 : wDisk R0 ≤ 1099511627776 := by rw [hR0]; exact boundDiskNew_0  
  have hRc0 := tcntDisk_le R0
  have HR0 := Hid.mk hR0
  clear hR0
  have hC := fun (W : World) (hb : Below w.heap.size w W) => specDiskNew_c  W  
  go_wp2_with fail
  refine Calls.mono (hC _ ?_) ?_
  · repeat (first | with_reducible exact Below.refl _ _ | with_reducible assumption | with_reducible refine Below.drew ?_ | with_reducible refine Below.alloc ?_ (by first | exact Nat.le_refl _ | (simp; omega)) _ | with_reducible refine Below.setCell ?_ (by simp) _)
  clear hC
  rintro e w1 ⟨vs0, he, hrs0, hx1⟩
  have hZ1 : w.heap.size ≤ w1.heap.size := by have h := hx1.size; first | exact h | (simp at h; omega)
  rw [← HR0.out] at hrs0
  subst he
  have hG1 : Below w.heap.size w w1 := bthen (hx := hx1) (h := by repeat (first | with_reducible exact Below.refl _ _ | with_reducible assumption | with_reducible refine Below.drew ?_ | with_reducible refine Below.alloc ?_ (by first | exact Nat.le_refl _ | (simp; omega)) _ | with_reducible refine Below.setCell ?_ (by simp) _))
  have hB1 : Below w.heap.size w w1 := hG1
  clear hx1
  have hq := hrs0
  obtain ⟨as0_0, cs0_0, as0_1, cs0_1, as0_2, cs0_2, rfl, _⟩ := hq
  have hbs0 : w1.heap.size ≤ w1.heap.size := Nat.le_refl _
  have hC := fun (W : World) (hb : Below w1.heap.size w1 W) => implDiskNew_c  W  
  go_wp2_with fail
  refine Calls.mono (hC _ ?_) ?_
  · repeat (first | with_reducible exact Below.refl _ _ | with_reducible assumption | with_reducible refine Below.drew ?_ | with_reducible refine Below.alloc ?_ (by first | exact Nat.le_refl _ | (simp; omega)) _ | with_reducible refine Below.setCell ?_ (by simp) _)
  clear hC
  rintro e w2 ⟨vg0, Fg0, he, hog0, hNg0, hgeg0, hx2⟩
  have hZ2 : w1.heap.size + 1 ≤ w2.heap.size := by have h := hx2.size; first | exact h | (simp at h; omega)
  rw [← HR0.out] at hog0
  have hgeg0o : ∀ b, b ∈ Fg0 → w1.heap.size + 1 ≤ b := fun b hb => by have h := hgeg0 b hb; first | exact h | (simp at h; omega)
  clear hgeg0
  subst he
  have hG2 : Below w1.heap.size w1 w2 := bthen (hx := hx2) (h := by repeat (first | with_reducible exact Below.refl _ _ | with_reducible assumption | with_reducible refine Below.drew ?_ | with_reducible refine Below.alloc ?_ (by first | exact Nat.le_refl _ | (simp; omega)) _ | with_reducible refine Below.setCell ?_ (by simp) _))
  replace hrs0 := (rDisk_good.below hrs0 (hG2.mono hbs0))
  replace hbs0 := Nat.le_trans hbs0 hG2.size
  have hbxs0 : Bx w2 (w1.heap.size) [.slice as0_0 R0.fInodes.length cs0_0, .slice as0_1 R0.fNames.length cs0_1, .slice as0_2 R0.fSafe.length cs0_2, .int .i64 R0.fNext] := (Bx.new _ [.slice as0_0 R0.fInodes.length cs0_0, .slice as0_1 R0.fNames.length cs0_1, .slice as0_2 R0.fSafe.length cs0_2, .int .i64 R0.fNext] _).under hx2
  have xbs0_0 : w2.cell? ⟨w1.heap.size, 0, none⟩ = some (.slice as0_0 R0.fInodes.length cs0_0) := hbxs0.2 0 _ rfl
  have xbs0_1 : w2.cell? ⟨w1.heap.size, 1, none⟩ = some (.slice as0_1 R0.fNames.length cs0_1) := hbxs0.2 1 _ rfl
  have xbs0_2 : w2.cell? ⟨w1.heap.size, 2, none⟩ = some (.slice as0_2 R0.fSafe.length cs0_2) := hbxs0.2 2 _ rfl
  have xbs0_3 : w2.cell? ⟨w1.heap.size, 3, none⟩ = some (.int .i64 R0.fNext) := hbxs0.2 3 _ rfl
  have hlbs0 : w1.heap.size < w2.heap.size := hbxs0.1
  have hB2 : Below w.heap.size w w2 := bthen hB1 hG2
  clear hx2
  have hltg0 : ∀ b, b ∈ Fg0 → b < w2.heap.size := fun b hb => oDisk_good.lt hog0 b hb
  have hq := (oDisk_good.read hog0)
  obtain ⟨ag0_0, cg0_0, ag0_1, cg0_1, ag0_2, cg0_2, rfl, _⟩ := hq
  have hC := fun (W : World) (hb : Below w2.heap.size w2 W) => eqDisk_yes _ _ R0 W (rDisk_good.mono (rDisk_good.below (oDisk_good.read hog0) hb) hb.size) (rDisk_good.mono (rDisk_good.below hrs0 (hb.mono hbs0)) (Nat.le_trans hbs0 hb.size)) (by omega)
  go_wp2_with fail
  refine Calls.mono (hC _ ?_) ?_
  · repeat (first | with_reducible exact Below.refl _ _ | with_reducible assumption | with_reducible refine Below.drew ?_ | with_reducible refine Below.alloc ?_ (by first | exact Nat.le_refl _ | (simp; omega)) _ | with_reducible refine Below.setCell ?_ (by simp) _)
  clear hC
  rintro e w3 ⟨rfl, hx3⟩
  have hZ3 : w2.heap.size + 1 ≤ w3.heap.size := by have h := hx3.size; first | exact h | (simp at h; omega)
  have hG3 : Below w2.heap.size w2 w3 := bthen (hx := hx3) (h := by repeat (first | with_reducible exact Below.refl _ _ | with_reducible assumption | with_reducible refine Below.drew ?_ | with_reducible refine Below.alloc ?_ (by first | exact Nat.le_refl _ | (simp; omega)) _ | with_reducible refine Below.setCell ?_ (by simp) _))
  replace hbxs0 : Bx w3 (w1.heap.size) [.slice as0_0 R0.fInodes.length cs0_0, .slice as0_1 R0.fNames.length cs0_1, .slice as0_2 R0.fSafe.length cs0_2, .int .i64 R0.fNext] := hbxs0.under hG3
  have hoN := (oDisk_good.frame hog0 (fun b hb => hG3.block b (oDisk_good.lt hog0 b hb)))
  clear hog0
  have hog0 := hoN
  clear hoN
  replace hrs0 := (rDisk_good.below hrs0 (hG3.mono hbs0))
  replace hbs0 := Nat.le_trans hbs0 hG3.size
  have hbxg0 : Bx w3 (w2.heap.size) [.slice ag0_0 R0.fInodes.length cg0_0, .slice ag0_1 R0.fNames.length cg0_1, .slice ag0_2 R0.fSafe.length cg0_2, .int .i64 R0.fNext] := (Bx.new _ [.slice ag0_0 R0.fInodes.length cg0_0, .slice ag0_1 R0.fNames.length cg0_1, .slice ag0_2 R0.fSafe.length cg0_2, .int .i64 R0.fNext] _).under hx3
  replace xbs0_0 : w3.cell? ⟨w1.heap.size, 0, none⟩ = some (.slice as0_0 R0.fInodes.length cs0_0) := hbxs0.2 0 _ rfl
  replace xbs0_1 : w3.cell? ⟨w1.heap.size, 1, none⟩ = some (.slice as0_1 R0.fNames.length cs0_1) := hbxs0.2 1 _ rfl
  replace xbs0_2 : w3.cell? ⟨w1.heap.size, 2, none⟩ = some (.slice as0_2 R0.fSafe.length cs0_2) := hbxs0.2 2 _ rfl
  replace xbs0_3 : w3.cell? ⟨w1.heap.size, 3, none⟩ = some (.int .i64 R0.fNext) := hbxs0.2 3 _ rfl
  replace hlbs0 : w1.heap.size < w3.heap.size := hbxs0.1
  have xbg0_0 : w3.cell? ⟨w2.heap.size, 0, none⟩ = some (.slice ag0_0 R0.fInodes.length cg0_0) := hbxg0.2 0 _ rfl
  have xbg0_1 : w3.cell? ⟨w2.heap.size, 1, none⟩ = some (.slice ag0_1 R0.fNames.length cg0_1) := hbxg0.2 1 _ rfl
  have xbg0_2 : w3.cell? ⟨w2.heap.size, 2, none⟩ = some (.slice ag0_2 R0.fSafe.length cg0_2) := hbxg0.2 2 _ rfl
  have xbg0_3 : w3.cell? ⟨w2.heap.size, 3, none⟩ = some (.int .i64 R0.fNext) := hbxg0.2 3 _ rfl
  have hlbg0 : w2.heap.size < w3.heap.size := hbxg0.1
  have hB3 : Below w.heap.size w w3 := bthen hB2 hG3
  clear hx3
  have hC := fun (W : World) (hb : Below w3.heap.size w3 W) => markDisk_any _ R0 Fg0 1 W (by omega) (by omega) (oDisk_good.frame hog0 (fun b hb2 => hb.block b (oDisk_good.lt hog0 b hb2))) hNg0
  go_wp2_with fail
  refine Calls.mono (hC _ ?_) ?_
  · repeat (first | with_reducible exact Below.refl _ _ | with_reducible assumption | with_reducible refine Below.drew ?_ | with_reducible refine Below.alloc ?_ (by first | exact Nat.le_refl _ | (simp; omega)) _ | with_reducible refine Below.setCell ?_ (by simp) _)
  clear hC
  rintro e w4 ⟨mmg0, qg0, rfl, hqag0, hqbg0, homg0, hhg0, hx4⟩
  have hZ4 : w3.heap.size ≤ w4.heap.size := by have h := hx4.size; first | exact h | (simp at h; omega)
  have hG4 : Turn Fg0 w3 w4 := Turn.after (hx := hx4) (h := by repeat (first | with_reducible exact Below.refl _ _ | with_reducible assumption | with_reducible refine Below.drew ?_ | with_reducible refine Below.alloc ?_ (by first | exact Nat.le_refl _ | (simp; omega)) _ | with_reducible refine Below.setCell ?_ (by simp) _))
  replace hbxs0 : Bx w4 (w1.heap.size) [.slice as0_0 R0.fInodes.length cs0_0, .slice as0_1 R0.fNames.length cs0_1, .slice as0_2 R0.fSafe.length cs0_2, .int .i64 R0.fNext] := hbxs0.turn hG4 (fun hm => by have h1 := hgeg0o _ hm; have h2 := hltg0 _ hm; omega)
  replace hbxg0 : Bx w4 (w2.heap.size) [.slice ag0_0 R0.fInodes.length cg0_0, .slice ag0_1 R0.fNames.length cg0_1, .slice ag0_2 R0.fSafe.length cg0_2, .int .i64 R0.fNext] := hbxg0.turn hG4 (fun hm => by have h1 := hgeg0o _ hm; have h2 := hltg0 _ hm; omega)
  replace hrs0 := (rDisk_good.below hrs0 (Turn.below hG4 (fun k hk => by have h1 := hgeg0o _ hk; omega) hbs0))
  replace hbs0 := Nat.le_trans hbs0 hG4.size
  replace xbs0_0 : w4.cell? ⟨w1.heap.size, 0, none⟩ = some (.slice as0_0 R0.fInodes.length cs0_0) := hbxs0.2 0 _ rfl
  replace xbs0_1 : w4.cell? ⟨w1.heap.size, 1, none⟩ = some (.slice as0_1 R0.fNames.length cs0_1) := hbxs0.2 1 _ rfl
  replace xbs0_2 : w4.cell? ⟨w1.heap.size, 2, none⟩ = some (.slice as0_2 R0.fSafe.length cs0_2) := hbxs0.2 2 _ rfl
  replace xbs0_3 : w4.cell? ⟨w1.heap.size, 3, none⟩ = some (.int .i64 R0.fNext) := hbxs0.2 3 _ rfl
  replace hlbs0 : w1.heap.size < w4.heap.size := hbxs0.1
  replace xbg0_0 : w4.cell? ⟨w2.heap.size, 0, none⟩ = some (.slice ag0_0 R0.fInodes.length cg0_0) := hbxg0.2 0 _ rfl
  replace xbg0_1 : w4.cell? ⟨w2.heap.size, 1, none⟩ = some (.slice ag0_1 R0.fNames.length cg0_1) := hbxg0.2 1 _ rfl
  replace xbg0_2 : w4.cell? ⟨w2.heap.size, 2, none⟩ = some (.slice ag0_2 R0.fSafe.length cg0_2) := hbxg0.2 2 _ rfl
  replace xbg0_3 : w4.cell? ⟨w2.heap.size, 3, none⟩ = some (.int .i64 R0.fNext) := hbxg0.2 3 _ rfl
  replace hlbg0 : w2.heap.size < w4.heap.size := hbxg0.1
  have hB4 : Below w.heap.size w w4 := Turn.under hB3 hG4 (fun k hk => by have h1 := hgeg0o _ hk; have h2 := hB3.size; omega)
  clear hx4 hog0
  have hog0 := homg0
  clear homg0
  have hC := fun (W : World) (hb : Below w4.heap.size w4 W) => heldDisk_any _ mmg0 1 qg0 W (rDisk_good.mono (rDisk_good.below (oDisk_good.read hog0) hb) hb.size) hhg0 (by omega) (by omega)
  go_wp2_with fail
  refine Calls.mono (hC _ ?_) ?_
  · repeat (first | with_reducible exact Below.refl _ _ | with_reducible assumption | with_reducible refine Below.drew ?_ | with_reducible refine Below.alloc ?_ (by first | exact Nat.le_refl _ | (simp; omega)) _ | with_reducible refine Below.setCell ?_ (by simp) _)
  clear hC
  rintro e w5 ⟨rfl, hx5⟩
  have hZ5 : w4.heap.size ≤ w5.heap.size := by have h := hx5.size; first | exact h | (simp at h; omega)
  have hG5 : Below w4.heap.size w4 w5 := bthen (hx := hx5) (h := by repeat (first | with_reducible exact Below.refl _ _ | with_reducible assumption | with_reducible refine Below.drew ?_ | with_reducible refine Below.alloc ?_ (by first | exact Nat.le_refl _ | (simp; omega)) _ | with_reducible refine Below.setCell ?_ (by simp) _))
  replace hbxs0 : Bx w5 (w1.heap.size) [.slice as0_0 R0.fInodes.length cs0_0, .slice as0_1 R0.fNames.length cs0_1, .slice as0_2 R0.fSafe.length cs0_2, .int .i64 R0.fNext] := hbxs0.under hG5
  replace hbxg0 : Bx w5 (w2.heap.size) [.slice ag0_0 R0.fInodes.length cg0_0, .slice ag0_1 R0.fNames.length cg0_1, .slice ag0_2 R0.fSafe.length cg0_2, .int .i64 R0.fNext] := hbxg0.under hG5
  have hoN := (oDisk_good.frame hog0 (fun b hb => hG5.block b (oDisk_good.lt hog0 b hb)))
  clear hog0
  have hog0 := hoN
  clear hoN
  replace hrs0 := (rDisk_good.below hrs0 (hG5.mono hbs0))
  replace hbs0 := Nat.le_trans hbs0 hG5.size
  replace xbs0_0 : w5.cell? ⟨w1.heap.size, 0, none⟩ = some (.slice as0_0 R0.fInodes.length cs0_0) := hbxs0.2 0 _ rfl
  replace xbs0_1 : w5.cell? ⟨w1.heap.size, 1, none⟩ = some (.slice as0_1 R0.fNames.length cs0_1) := hbxs0.2 1 _ rfl
  replace xbs0_2 : w5.cell? ⟨w1.heap.size, 2, none⟩ = some (.slice as0_2 R0.fSafe.length cs0_2) := hbxs0.2 2 _ rfl
  replace xbs0_3 : w5.cell? ⟨w1.heap.size, 3, none⟩ = some (.int .i64 R0.fNext) := hbxs0.2 3 _ rfl
  replace hlbs0 : w1.heap.size < w5.heap.size := hbxs0.1
  replace xbg0_0 : w5.cell? ⟨w2.heap.size, 0, none⟩ = some (.slice ag0_0 R0.fInodes.length cg0_0) := hbxg0.2 0 _ rfl
  replace xbg0_1 : w5.cell? ⟨w2.heap.size, 1, none⟩ = some (.slice ag0_1 R0.fNames.length cg0_1) := hbxg0.2 1 _ rfl
  replace xbg0_2 : w5.cell? ⟨w2.heap.size, 2, none⟩ = some (.slice ag0_2 R0.fSafe.length cg0_2) := hbxg0.2 2 _ rfl
  replace xbg0_3 : w5.cell? ⟨w2.heap.size, 3, none⟩ = some (.int .i64 R0.fNext) := hbxg0.2 3 _ rfl
  replace hlbg0 : w2.heap.size < w5.heap.size := hbxg0.1
  have hB5 : Below w.heap.size w w5 := bthen hB4 hG5
  clear hx5
  have hC := fun (W : World) (hb : Below w5.heap.size w5 W) => implDiskNew_c  W  
  go_wp2_with fail
  refine Calls.mono (hC _ ?_) ?_
  · repeat (first | with_reducible exact Below.refl _ _ | with_reducible assumption | with_reducible refine Below.drew ?_ | with_reducible refine Below.alloc ?_ (by first | exact Nat.le_refl _ | (simp; omega)) _ | with_reducible refine Below.setCell ?_ (by simp) _)
  clear hC
  rintro e w6 ⟨vk0, Fk0, he, hok0, hNk0, hgek0, hx6⟩
  have hZ6 : w5.heap.size ≤ w6.heap.size := by have h := hx6.size; first | exact h | (simp at h; omega)
  rw [← HR0.out] at hok0
  have hgek0o : ∀ b, b ∈ Fk0 → w5.heap.size ≤ b := fun b hb => by have h := hgek0 b hb; first | exact h | (simp at h; omega)
  clear hgek0
  subst he
  have hG6 : Below w5.heap.size w5 w6 := bthen (hx := hx6) (h := by repeat (first | with_reducible exact Below.refl _ _ | with_reducible assumption | with_reducible refine Below.drew ?_ | with_reducible refine Below.alloc ?_ (by first | exact Nat.le_refl _ | (simp; omega)) _ | with_reducible refine Below.setCell ?_ (by simp) _))
  replace hbxs0 : Bx w6 (w1.heap.size) [.slice as0_0 R0.fInodes.length cs0_0, .slice as0_1 R0.fNames.length cs0_1, .slice as0_2 R0.fSafe.length cs0_2, .int .i64 R0.fNext] := hbxs0.under hG6
  replace hbxg0 : Bx w6 (w2.heap.size) [.slice ag0_0 R0.fInodes.length cg0_0, .slice ag0_1 R0.fNames.length cg0_1, .slice ag0_2 R0.fSafe.length cg0_2, .int .i64 R0.fNext] := hbxg0.under hG6
  have hoN := (oDisk_good.frame hog0 (fun b hb => hG6.block b (oDisk_good.lt hog0 b hb)))
  clear hog0
  have hog0 := hoN
  clear hoN
  replace hrs0 := (rDisk_good.below hrs0 (hG6.mono hbs0))
  replace hbs0 := Nat.le_trans hbs0 hG6.size
  replace xbs0_0 : w6.cell? ⟨w1.heap.size, 0, none⟩ = some (.slice as0_0 R0.fInodes.length cs0_0) := hbxs0.2 0 _ rfl
  replace xbs0_1 : w6.cell? ⟨w1.heap.size, 1, none⟩ = some (.slice as0_1 R0.fNames.length cs0_1) := hbxs0.2 1 _ rfl
  replace xbs0_2 : w6.cell? ⟨w1.heap.size, 2, none⟩ = some (.slice as0_2 R0.fSafe.length cs0_2) := hbxs0.2 2 _ rfl
  replace xbs0_3 : w6.cell? ⟨w1.heap.size, 3, none⟩ = some (.int .i64 R0.fNext) := hbxs0.2 3 _ rfl
  replace hlbs0 : w1.heap.size < w6.heap.size := hbxs0.1
  replace xbg0_0 : w6.cell? ⟨w2.heap.size, 0, none⟩ = some (.slice ag0_0 R0.fInodes.length cg0_0) := hbxg0.2 0 _ rfl
  replace xbg0_1 : w6.cell? ⟨w2.heap.size, 1, none⟩ = some (.slice ag0_1 R0.fNames.length cg0_1) := hbxg0.2 1 _ rfl
  replace xbg0_2 : w6.cell? ⟨w2.heap.size, 2, none⟩ = some (.slice ag0_2 R0.fSafe.length cg0_2) := hbxg0.2 2 _ rfl
  replace xbg0_3 : w6.cell? ⟨w2.heap.size, 3, none⟩ = some (.int .i64 R0.fNext) := hbxg0.2 3 _ rfl
  replace hlbg0 : w2.heap.size < w6.heap.size := hbxg0.1
  have hB6 : Below w.heap.size w w6 := bthen hB5 hG6
  clear hx6
  have hltk0 : ∀ b, b ∈ Fk0 → b < w6.heap.size := fun b hb => oDisk_good.lt hok0 b hb
  have hq := (oDisk_good.read hok0)
  obtain ⟨ak0_0, ck0_0, ak0_1, ck0_1, ak0_2, ck0_2, rfl, _⟩ := hq
  have hC := fun (W : World) (hb : Below w6.heap.size w6 W) => eqDisk_yes _ _ R0 W (rDisk_good.mono (rDisk_good.below (oDisk_good.read hok0) hb) hb.size) (rDisk_good.mono (rDisk_good.below hrs0 (hb.mono hbs0)) (Nat.le_trans hbs0 hb.size)) (by omega)
  go_wp2_with fail
  refine Calls.mono (hC _ ?_) ?_
  · repeat (first | with_reducible exact Below.refl _ _ | with_reducible assumption | with_reducible refine Below.drew ?_ | with_reducible refine Below.alloc ?_ (by first | exact Nat.le_refl _ | (simp; omega)) _ | with_reducible refine Below.setCell ?_ (by simp) _)
  clear hC
  rintro e w7 ⟨rfl, hx7⟩
  have hZ7 : w6.heap.size + 1 ≤ w7.heap.size := by have h := hx7.size; first | exact h | (simp at h; omega)
  have hG7 : Below w6.heap.size w6 w7 := bthen (hx := hx7) (h := by repeat (first | with_reducible exact Below.refl _ _ | with_reducible assumption | with_reducible refine Below.drew ?_ | with_reducible refine Below.alloc ?_ (by first | exact Nat.le_refl _ | (simp; omega)) _ | with_reducible refine Below.setCell ?_ (by simp) _))
  replace hbxs0 : Bx w7 (w1.heap.size) [.slice as0_0 R0.fInodes.length cs0_0, .slice as0_1 R0.fNames.length cs0_1, .slice as0_2 R0.fSafe.length cs0_2, .int .i64 R0.fNext] := hbxs0.under hG7
  replace hbxg0 : Bx w7 (w2.heap.size) [.slice ag0_0 R0.fInodes.length cg0_0, .slice ag0_1 R0.fNames.length cg0_1, .slice ag0_2 R0.fSafe.length cg0_2, .int .i64 R0.fNext] := hbxg0.under hG7
  have hoN := (oDisk_good.frame hog0 (fun b hb => hG7.block b (oDisk_good.lt hog0 b hb)))
  clear hog0
  have hog0 := hoN
  clear hoN
  have hoN := (oDisk_good.frame hok0 (fun b hb => hG7.block b (oDisk_good.lt hok0 b hb)))
  clear hok0
  have hok0 := hoN
  clear hoN
  replace hrs0 := (rDisk_good.below hrs0 (hG7.mono hbs0))
  replace hbs0 := Nat.le_trans hbs0 hG7.size
  have hbxk0 : Bx w7 (w6.heap.size) [.slice ak0_0 R0.fInodes.length ck0_0, .slice ak0_1 R0.fNames.length ck0_1, .slice ak0_2 R0.fSafe.length ck0_2, .int .i64 R0.fNext] := (Bx.new _ [.slice ak0_0 R0.fInodes.length ck0_0, .slice ak0_1 R0.fNames.length ck0_1, .slice ak0_2 R0.fSafe.length ck0_2, .int .i64 R0.fNext] _).under hx7
  replace xbs0_0 : w7.cell? ⟨w1.heap.size, 0, none⟩ = some (.slice as0_0 R0.fInodes.length cs0_0) := hbxs0.2 0 _ rfl
  replace xbs0_1 : w7.cell? ⟨w1.heap.size, 1, none⟩ = some (.slice as0_1 R0.fNames.length cs0_1) := hbxs0.2 1 _ rfl
  replace xbs0_2 : w7.cell? ⟨w1.heap.size, 2, none⟩ = some (.slice as0_2 R0.fSafe.length cs0_2) := hbxs0.2 2 _ rfl
  replace xbs0_3 : w7.cell? ⟨w1.heap.size, 3, none⟩ = some (.int .i64 R0.fNext) := hbxs0.2 3 _ rfl
  replace hlbs0 : w1.heap.size < w7.heap.size := hbxs0.1
  replace xbg0_0 : w7.cell? ⟨w2.heap.size, 0, none⟩ = some (.slice ag0_0 R0.fInodes.length cg0_0) := hbxg0.2 0 _ rfl
  replace xbg0_1 : w7.cell? ⟨w2.heap.size, 1, none⟩ = some (.slice ag0_1 R0.fNames.length cg0_1) := hbxg0.2 1 _ rfl
  replace xbg0_2 : w7.cell? ⟨w2.heap.size, 2, none⟩ = some (.slice ag0_2 R0.fSafe.length cg0_2) := hbxg0.2 2 _ rfl
  replace xbg0_3 : w7.cell? ⟨w2.heap.size, 3, none⟩ = some (.int .i64 R0.fNext) := hbxg0.2 3 _ rfl
  replace hlbg0 : w2.heap.size < w7.heap.size := hbxg0.1
  have xbk0_0 : w7.cell? ⟨w6.heap.size, 0, none⟩ = some (.slice ak0_0 R0.fInodes.length ck0_0) := hbxk0.2 0 _ rfl
  have xbk0_1 : w7.cell? ⟨w6.heap.size, 1, none⟩ = some (.slice ak0_1 R0.fNames.length ck0_1) := hbxk0.2 1 _ rfl
  have xbk0_2 : w7.cell? ⟨w6.heap.size, 2, none⟩ = some (.slice ak0_2 R0.fSafe.length ck0_2) := hbxk0.2 2 _ rfl
  have xbk0_3 : w7.cell? ⟨w6.heap.size, 3, none⟩ = some (.int .i64 R0.fNext) := hbxk0.2 3 _ rfl
  have hlbk0 : w6.heap.size < w7.heap.size := hbxk0.1
  have hB7 : Below w.heap.size w w7 := bthen hB6 hG7
  clear hx7
  have hC := fun (W : World) (hb : Below w7.heap.size w7 W) => heldDisk_any _ mmg0 1 qg0 W (rDisk_good.mono (rDisk_good.below (oDisk_good.read hog0) hb) hb.size) hhg0 (by omega) (by omega)
  go_wp2_with fail
  refine Calls.mono (hC _ ?_) ?_
  · repeat (first | with_reducible exact Below.refl _ _ | with_reducible assumption | with_reducible refine Below.drew ?_ | with_reducible refine Below.alloc ?_ (by first | exact Nat.le_refl _ | (simp; omega)) _ | with_reducible refine Below.setCell ?_ (by simp) _)
  clear hC
  rintro e w8 ⟨rfl, hx8⟩
  have hZ8 : w7.heap.size ≤ w8.heap.size := by have h := hx8.size; first | exact h | (simp at h; omega)
  have hG8 : Below w7.heap.size w7 w8 := bthen (hx := hx8) (h := by repeat (first | with_reducible exact Below.refl _ _ | with_reducible assumption | with_reducible refine Below.drew ?_ | with_reducible refine Below.alloc ?_ (by first | exact Nat.le_refl _ | (simp; omega)) _ | with_reducible refine Below.setCell ?_ (by simp) _))
  replace hbxs0 : Bx w8 (w1.heap.size) [.slice as0_0 R0.fInodes.length cs0_0, .slice as0_1 R0.fNames.length cs0_1, .slice as0_2 R0.fSafe.length cs0_2, .int .i64 R0.fNext] := hbxs0.under hG8
  replace hbxg0 : Bx w8 (w2.heap.size) [.slice ag0_0 R0.fInodes.length cg0_0, .slice ag0_1 R0.fNames.length cg0_1, .slice ag0_2 R0.fSafe.length cg0_2, .int .i64 R0.fNext] := hbxg0.under hG8
  replace hbxk0 : Bx w8 (w6.heap.size) [.slice ak0_0 R0.fInodes.length ck0_0, .slice ak0_1 R0.fNames.length ck0_1, .slice ak0_2 R0.fSafe.length ck0_2, .int .i64 R0.fNext] := hbxk0.under hG8
  have hoN := (oDisk_good.frame hog0 (fun b hb => hG8.block b (oDisk_good.lt hog0 b hb)))
  clear hog0
  have hog0 := hoN
  clear hoN
  have hoN := (oDisk_good.frame hok0 (fun b hb => hG8.block b (oDisk_good.lt hok0 b hb)))
  clear hok0
  have hok0 := hoN
  clear hoN
  replace hrs0 := (rDisk_good.below hrs0 (hG8.mono hbs0))
  replace hbs0 := Nat.le_trans hbs0 hG8.size
  replace xbs0_0 : w8.cell? ⟨w1.heap.size, 0, none⟩ = some (.slice as0_0 R0.fInodes.length cs0_0) := hbxs0.2 0 _ rfl
  replace xbs0_1 : w8.cell? ⟨w1.heap.size, 1, none⟩ = some (.slice as0_1 R0.fNames.length cs0_1) := hbxs0.2 1 _ rfl
  replace xbs0_2 : w8.cell? ⟨w1.heap.size, 2, none⟩ = some (.slice as0_2 R0.fSafe.length cs0_2) := hbxs0.2 2 _ rfl
  replace xbs0_3 : w8.cell? ⟨w1.heap.size, 3, none⟩ = some (.int .i64 R0.fNext) := hbxs0.2 3 _ rfl
  replace hlbs0 : w1.heap.size < w8.heap.size := hbxs0.1
  replace xbg0_0 : w8.cell? ⟨w2.heap.size, 0, none⟩ = some (.slice ag0_0 R0.fInodes.length cg0_0) := hbxg0.2 0 _ rfl
  replace xbg0_1 : w8.cell? ⟨w2.heap.size, 1, none⟩ = some (.slice ag0_1 R0.fNames.length cg0_1) := hbxg0.2 1 _ rfl
  replace xbg0_2 : w8.cell? ⟨w2.heap.size, 2, none⟩ = some (.slice ag0_2 R0.fSafe.length cg0_2) := hbxg0.2 2 _ rfl
  replace xbg0_3 : w8.cell? ⟨w2.heap.size, 3, none⟩ = some (.int .i64 R0.fNext) := hbxg0.2 3 _ rfl
  replace hlbg0 : w2.heap.size < w8.heap.size := hbxg0.1
  replace xbk0_0 : w8.cell? ⟨w6.heap.size, 0, none⟩ = some (.slice ak0_0 R0.fInodes.length ck0_0) := hbxk0.2 0 _ rfl
  replace xbk0_1 : w8.cell? ⟨w6.heap.size, 1, none⟩ = some (.slice ak0_1 R0.fNames.length ck0_1) := hbxk0.2 1 _ rfl
  replace xbk0_2 : w8.cell? ⟨w6.heap.size, 2, none⟩ = some (.slice ak0_2 R0.fSafe.length ck0_2) := hbxk0.2 2 _ rfl
  replace xbk0_3 : w8.cell? ⟨w6.heap.size, 3, none⟩ = some (.int .i64 R0.fNext) := hbxk0.2 3 _ rfl
  replace hlbk0 : w6.heap.size < w8.heap.size := hbxk0.1
  have hB8 : Below w.heap.size w w8 := bthen hB7 hG8
  clear hx8
  go_wp2_with fail
  go_ret
  exact ⟨rfl, by repeat (first | with_reducible exact Below.refl _ _ | with_reducible assumption | with_reducible refine Below.drew ?_ | with_reducible refine Below.alloc ?_ (by first | exact Nat.le_refl _ | (simp; omega)) _ | with_reducible refine Below.setCell ?_ (by simp) _)⟩

end Go.Proofs.Ytmooplfbkkijhaa
