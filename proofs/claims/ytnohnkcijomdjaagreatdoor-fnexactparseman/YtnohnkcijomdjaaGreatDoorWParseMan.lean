/-
  The exact law of ParseMan: at every text both answer the same manifest, in memory of its own, and the same flag.
-/
import Derived.Test.YtnohnkcijomdjaaGreatDoorQDatE
import Derived.Test.YtnohnkcijomdjaaGreatDoorQDatM
import Derived.Test.YtnohnkcijomdjaaGreatDoorWrdX
import Derived.Test.YtnohnkcijomdjaaGreatDoorParV
namespace Go.Proofs.YtnohnkcijomdjaaGreatDoor
open Go.RowKit
set_option linter.unusedVariables false
set_option linter.unusedSimpArgs false
set_option maxRecDepth 10000

theorem boundParseMan_0 (s : ByteArray) (hs : s.size ≤ 1048576) : wManifest (parseP s).1 ≤ 1099511627776 := by
  have hsl : s.data.toList.length ≤ 1048576 := by rw [size_list]; exact hs
  have h0 : wManifest (⟨0, 0, []⟩ : MManifest) = 0 := rfl
  cases hb : (rdMan (Lib.fieldsD s.data.toList)).2
  · by_cases he : manTextP (rdMan (Lib.fieldsD s.data.toList)).1 = s
    · rw [parse_same hb he]
      have h1 := man_weight _ hb
      have h2 := fields_sum s.data.toList
      show wManifest (rdMan (Lib.fieldsD s.data.toList)).1 ≤ _
      omega
    · rw [parse_other he]
      show wManifest ⟨0, 0, []⟩ ≤ _
      omega
  · rw [parse_bad hb]
    show wManifest ⟨0, 0, []⟩ ≤ _
    omega

set_option maxHeartbeats 4000000 in
theorem law_FnExactParseMan (m0 : ByteArray) (w : World) (hs0 : m0.size ≤ 9223372036854775807) (hT : PrsT w) :
    Calls Tryz.prog 3 #[.string m0] w fun e w' => e = .returned (.bool true) ∧ Below w.heap.size w w' := by
  by_cases hbig0 : 1048576 < m0.size
  · go_enter Tryz.func3, Tryz.ntmps3
    go_wp2_with fail
    all_goals
      go_ret
      exact ⟨rfl, by repeat (first | with_reducible exact Below.refl _ _ | with_reducible assumption | with_reducible refine Below.drew ?_ | with_reducible refine Below.alloc ?_ (by first | exact Nat.le_refl _ | (simp; done) | (simp; omega)) _ | with_reducible refine Below.setCell ?_ (by simp) _)⟩
  go_enter Tryz.func3, Tryz.ntmps3
  have hwn0 : m0.size ≤ 1048576 := by omega
  obtain ⟨R0, hR0⟩ : ∃ R : MManifest, R = (parseP m0).1 := ⟨_, rfl⟩
  have hRw0 : wManifest R0 ≤ 1099511627776 := by rw [hR0]; exact boundParseMan_0 m0 hwn0
  have hRc0 := tcntManifest_le R0
  have HR0 := Hid.mk hR0
  clear hR0
  obtain ⟨R1, hR1⟩ : ∃ R : Bool, R = (parseP m0).2 := ⟨_, rfl⟩
  have HR1 := Hid.mk hR1
  clear hR1
  have hC := fun (W : World) (hb : Below w.heap.size w W) => specParseMan_c m0 W hwn0
  go_wp2_with fail
  refine Calls.mono (hC _ ?_) ?_
  · repeat (first | with_reducible exact Below.refl _ _ | with_reducible assumption | with_reducible refine Below.drew ?_ | with_reducible refine Below.alloc ?_ (by first | exact Nat.le_refl _ | (simp; done) | (simp; omega)) _ | with_reducible refine Below.setCell ?_ (by simp) _)
  clear hC
  rintro e w1 ⟨vs0, he, hrs0, hx1⟩
  have hZ1 : w.heap.size ≤ w1.heap.size := by have h := hx1.size; first | exact h | (simp at h; omega)
  rw [← HR0.out] at hrs0
  rw [← HR1.out] at he
  subst he
  have hG1 : Below w.heap.size w w1 := bthen (hx := hx1) (h := by repeat (first | with_reducible exact Below.refl _ _ | with_reducible assumption | with_reducible refine Below.drew ?_ | with_reducible refine Below.alloc ?_ (by first | exact Nat.le_refl _ | (simp; done) | (simp; omega)) _ | with_reducible refine Below.setCell ?_ (by simp) _))
  have hB1 : Below w.heap.size w w1 := hG1
  clear hx1
  have hq := hrs0
  obtain ⟨as0_2, cs0_2, rfl, _⟩ := hq
  have hbs0 : w1.heap.size ≤ w1.heap.size := Nat.le_refl _
  have hC := fun (W : World) (hb : Below w1.heap.size w1 W) => implParseMan_c m0 W hwn0 (hT.below (bthen hB1 hb))
  go_wp2_with fail
  refine Calls.mono (hC _ ?_) ?_
  · repeat (first | with_reducible exact Below.refl _ _ | with_reducible assumption | with_reducible refine Below.drew ?_ | with_reducible refine Below.alloc ?_ (by first | exact Nat.le_refl _ | (simp; done) | (simp; omega)) _ | with_reducible refine Below.setCell ?_ (by simp) _)
  clear hC
  rintro e w2 ⟨vg0, Fg0, he, hog0, hNg0, hgeg0, hx2⟩
  have hZ2 : w1.heap.size + 1 ≤ w2.heap.size := by have h := hx2.size; first | exact h | (simp at h; omega)
  rw [← HR0.out] at hog0
  have hgeg0o : ∀ b, b ∈ Fg0 → w1.heap.size + 1 ≤ b := fun b hb => by have h := hgeg0 b hb; first | exact h | (simp at h; omega)
  clear hgeg0
  rw [← HR1.out] at he
  subst he
  have hG2 : Below w1.heap.size w1 w2 := bthen (hx := hx2) (h := by repeat (first | with_reducible exact Below.refl _ _ | with_reducible assumption | with_reducible refine Below.drew ?_ | with_reducible refine Below.alloc ?_ (by first | exact Nat.le_refl _ | (simp; done) | (simp; omega)) _ | with_reducible refine Below.setCell ?_ (by simp) _))
  replace hrs0 := (rManifest_good.below hrs0 (hG2.mono hbs0))
  replace hbs0 := Nat.le_trans hbs0 hG2.size
  have hbxs0 : Bx w2 (w1.heap.size) [.int .i64 R0.fNext, .int .i64 R0.fLog, .slice as0_2 R0.fTables.length cs0_2] := (Bx.new _ [.int .i64 R0.fNext, .int .i64 R0.fLog, .slice as0_2 R0.fTables.length cs0_2] _).under hx2
  have xbs0_0 : w2.cell? ⟨w1.heap.size, 0, none⟩ = some (.int .i64 R0.fNext) := hbxs0.2 0 _ rfl
  have xbs0_1 : w2.cell? ⟨w1.heap.size, 1, none⟩ = some (.int .i64 R0.fLog) := hbxs0.2 1 _ rfl
  have xbs0_2 : w2.cell? ⟨w1.heap.size, 2, none⟩ = some (.slice as0_2 R0.fTables.length cs0_2) := hbxs0.2 2 _ rfl
  have hlbs0 : w1.heap.size < w2.heap.size := hbxs0.1
  have hB2 : Below w.heap.size w w2 := bthen hB1 hG2
  clear hx2
  have hltg0 : ∀ b, b ∈ Fg0 → b < w2.heap.size := fun b hb => oManifest_good.lt hog0 b hb
  have hq := (oManifest_good.read hog0)
  obtain ⟨ag0_2, cg0_2, rfl, _⟩ := hq
  have hC := fun (W : World) (hb : Below w2.heap.size w2 W) => eqManifest_yes _ _ R0 W (rManifest_good.mono (rManifest_good.below (oManifest_good.read hog0) hb) hb.size) (rManifest_good.mono (rManifest_good.below hrs0 (hb.mono hbs0)) (Nat.le_trans hbs0 hb.size)) (by omega)
  go_wp2_with fail
  refine Calls.mono (hC _ ?_) ?_
  · repeat (first | with_reducible exact Below.refl _ _ | with_reducible assumption | with_reducible refine Below.drew ?_ | with_reducible refine Below.alloc ?_ (by first | exact Nat.le_refl _ | (simp; done) | (simp; omega)) _ | with_reducible refine Below.setCell ?_ (by simp) _)
  clear hC
  rintro e w3 ⟨rfl, hx3⟩
  have hZ3 : w2.heap.size + 1 ≤ w3.heap.size := by have h := hx3.size; first | exact h | (simp at h; omega)
  have hG3 : Below w2.heap.size w2 w3 := bthen (hx := hx3) (h := by repeat (first | with_reducible exact Below.refl _ _ | with_reducible assumption | with_reducible refine Below.drew ?_ | with_reducible refine Below.alloc ?_ (by first | exact Nat.le_refl _ | (simp; done) | (simp; omega)) _ | with_reducible refine Below.setCell ?_ (by simp) _))
  replace hbxs0 : Bx w3 (w1.heap.size) [.int .i64 R0.fNext, .int .i64 R0.fLog, .slice as0_2 R0.fTables.length cs0_2] := hbxs0.under hG3
  have hoN := (oManifest_good.frame hog0 (fun b hb => hG3.block b (oManifest_good.lt hog0 b hb)))
  clear hog0
  have hog0 := hoN
  clear hoN
  replace hrs0 := (rManifest_good.below hrs0 (hG3.mono hbs0))
  replace hbs0 := Nat.le_trans hbs0 hG3.size
  have hbxg0 : Bx w3 (w2.heap.size) [.int .i64 R0.fNext, .int .i64 R0.fLog, .slice ag0_2 R0.fTables.length cg0_2] := (Bx.new _ [.int .i64 R0.fNext, .int .i64 R0.fLog, .slice ag0_2 R0.fTables.length cg0_2] _).under hx3
  replace xbs0_0 : w3.cell? ⟨w1.heap.size, 0, none⟩ = some (.int .i64 R0.fNext) := hbxs0.2 0 _ rfl
  replace xbs0_1 : w3.cell? ⟨w1.heap.size, 1, none⟩ = some (.int .i64 R0.fLog) := hbxs0.2 1 _ rfl
  replace xbs0_2 : w3.cell? ⟨w1.heap.size, 2, none⟩ = some (.slice as0_2 R0.fTables.length cs0_2) := hbxs0.2 2 _ rfl
  replace hlbs0 : w1.heap.size < w3.heap.size := hbxs0.1
  have xbg0_0 : w3.cell? ⟨w2.heap.size, 0, none⟩ = some (.int .i64 R0.fNext) := hbxg0.2 0 _ rfl
  have xbg0_1 : w3.cell? ⟨w2.heap.size, 1, none⟩ = some (.int .i64 R0.fLog) := hbxg0.2 1 _ rfl
  have xbg0_2 : w3.cell? ⟨w2.heap.size, 2, none⟩ = some (.slice ag0_2 R0.fTables.length cg0_2) := hbxg0.2 2 _ rfl
  have hlbg0 : w2.heap.size < w3.heap.size := hbxg0.1
  have hB3 : Below w.heap.size w w3 := bthen hB2 hG3
  clear hx3
  have hC := fun (W : World) (hb : Below w3.heap.size w3 W) => markManifest_any _ R0 Fg0 1 W (by omega) (by omega) (oManifest_good.frame hog0 (fun b hb2 => hb.block b (oManifest_good.lt hog0 b hb2))) hNg0
  go_wp2_with fail
  refine Calls.mono (hC _ ?_) ?_
  · repeat (first | with_reducible exact Below.refl _ _ | with_reducible assumption | with_reducible refine Below.drew ?_ | with_reducible refine Below.alloc ?_ (by first | exact Nat.le_refl _ | (simp; done) | (simp; omega)) _ | with_reducible refine Below.setCell ?_ (by simp) _)
  clear hC
  rintro e w4 ⟨mmg0, qg0, rfl, hqag0, hqbg0, homg0, hhg0, hx4⟩
  have hZ4 : w3.heap.size ≤ w4.heap.size := by have h := hx4.size; first | exact h | (simp at h; omega)
  have hG4 : Turn Fg0 w3 w4 := Turn.after (hx := hx4) (h := by repeat (first | with_reducible exact Below.refl _ _ | with_reducible assumption | with_reducible refine Below.drew ?_ | with_reducible refine Below.alloc ?_ (by first | exact Nat.le_refl _ | (simp; done) | (simp; omega)) _ | with_reducible refine Below.setCell ?_ (by simp) _))
  replace hbxs0 : Bx w4 (w1.heap.size) [.int .i64 R0.fNext, .int .i64 R0.fLog, .slice as0_2 R0.fTables.length cs0_2] := hbxs0.turn hG4 (fun hm => by have h1 := hgeg0o _ hm; have h2 := hltg0 _ hm; omega)
  replace hbxg0 : Bx w4 (w2.heap.size) [.int .i64 R0.fNext, .int .i64 R0.fLog, .slice ag0_2 R0.fTables.length cg0_2] := hbxg0.turn hG4 (fun hm => by have h1 := hgeg0o _ hm; have h2 := hltg0 _ hm; omega)
  replace hrs0 := (rManifest_good.below hrs0 (Turn.below hG4 (fun k hk => by have h1 := hgeg0o _ hk; omega) hbs0))
  replace hbs0 := Nat.le_trans hbs0 hG4.size
  replace xbs0_0 : w4.cell? ⟨w1.heap.size, 0, none⟩ = some (.int .i64 R0.fNext) := hbxs0.2 0 _ rfl
  replace xbs0_1 : w4.cell? ⟨w1.heap.size, 1, none⟩ = some (.int .i64 R0.fLog) := hbxs0.2 1 _ rfl
  replace xbs0_2 : w4.cell? ⟨w1.heap.size, 2, none⟩ = some (.slice as0_2 R0.fTables.length cs0_2) := hbxs0.2 2 _ rfl
  replace hlbs0 : w1.heap.size < w4.heap.size := hbxs0.1
  replace xbg0_0 : w4.cell? ⟨w2.heap.size, 0, none⟩ = some (.int .i64 R0.fNext) := hbxg0.2 0 _ rfl
  replace xbg0_1 : w4.cell? ⟨w2.heap.size, 1, none⟩ = some (.int .i64 R0.fLog) := hbxg0.2 1 _ rfl
  replace xbg0_2 : w4.cell? ⟨w2.heap.size, 2, none⟩ = some (.slice ag0_2 R0.fTables.length cg0_2) := hbxg0.2 2 _ rfl
  replace hlbg0 : w2.heap.size < w4.heap.size := hbxg0.1
  have hB4 : Below w.heap.size w w4 := Turn.under hB3 hG4 (fun k hk => by have h1 := hgeg0o _ hk; have h2 := hB3.size; omega)
  clear hx4 hog0
  have hog0 := homg0
  clear homg0
  have hC := fun (W : World) (hb : Below w4.heap.size w4 W) => heldManifest_any _ mmg0 1 qg0 W (rManifest_good.mono (rManifest_good.below (oManifest_good.read hog0) hb) hb.size) hhg0 (by omega) (by omega)
  go_wp2_with fail
  refine Calls.mono (hC _ ?_) ?_
  · repeat (first | with_reducible exact Below.refl _ _ | with_reducible assumption | with_reducible refine Below.drew ?_ | with_reducible refine Below.alloc ?_ (by first | exact Nat.le_refl _ | (simp; done) | (simp; omega)) _ | with_reducible refine Below.setCell ?_ (by simp) _)
  clear hC
  rintro e w5 ⟨rfl, hx5⟩
  have hZ5 : w4.heap.size ≤ w5.heap.size := by have h := hx5.size; first | exact h | (simp at h; omega)
  have hG5 : Below w4.heap.size w4 w5 := bthen (hx := hx5) (h := by repeat (first | with_reducible exact Below.refl _ _ | with_reducible assumption | with_reducible refine Below.drew ?_ | with_reducible refine Below.alloc ?_ (by first | exact Nat.le_refl _ | (simp; done) | (simp; omega)) _ | with_reducible refine Below.setCell ?_ (by simp) _))
  replace hbxs0 : Bx w5 (w1.heap.size) [.int .i64 R0.fNext, .int .i64 R0.fLog, .slice as0_2 R0.fTables.length cs0_2] := hbxs0.under hG5
  replace hbxg0 : Bx w5 (w2.heap.size) [.int .i64 R0.fNext, .int .i64 R0.fLog, .slice ag0_2 R0.fTables.length cg0_2] := hbxg0.under hG5
  have hoN := (oManifest_good.frame hog0 (fun b hb => hG5.block b (oManifest_good.lt hog0 b hb)))
  clear hog0
  have hog0 := hoN
  clear hoN
  replace hrs0 := (rManifest_good.below hrs0 (hG5.mono hbs0))
  replace hbs0 := Nat.le_trans hbs0 hG5.size
  replace xbs0_0 : w5.cell? ⟨w1.heap.size, 0, none⟩ = some (.int .i64 R0.fNext) := hbxs0.2 0 _ rfl
  replace xbs0_1 : w5.cell? ⟨w1.heap.size, 1, none⟩ = some (.int .i64 R0.fLog) := hbxs0.2 1 _ rfl
  replace xbs0_2 : w5.cell? ⟨w1.heap.size, 2, none⟩ = some (.slice as0_2 R0.fTables.length cs0_2) := hbxs0.2 2 _ rfl
  replace hlbs0 : w1.heap.size < w5.heap.size := hbxs0.1
  replace xbg0_0 : w5.cell? ⟨w2.heap.size, 0, none⟩ = some (.int .i64 R0.fNext) := hbxg0.2 0 _ rfl
  replace xbg0_1 : w5.cell? ⟨w2.heap.size, 1, none⟩ = some (.int .i64 R0.fLog) := hbxg0.2 1 _ rfl
  replace xbg0_2 : w5.cell? ⟨w2.heap.size, 2, none⟩ = some (.slice ag0_2 R0.fTables.length cg0_2) := hbxg0.2 2 _ rfl
  replace hlbg0 : w2.heap.size < w5.heap.size := hbxg0.1
  have hB5 : Below w.heap.size w w5 := bthen hB4 hG5
  clear hx5
  have hC := fun (W : World) (hb : Below w5.heap.size w5 W) => implParseMan_c m0 W hwn0 (hT.below (bthen hB5 hb))
  go_wp2_with fail
  refine Calls.mono (hC _ ?_) ?_
  · repeat (first | with_reducible exact Below.refl _ _ | with_reducible assumption | with_reducible refine Below.drew ?_ | with_reducible refine Below.alloc ?_ (by first | exact Nat.le_refl _ | (simp; done) | (simp; omega)) _ | with_reducible refine Below.setCell ?_ (by simp) _)
  clear hC
  rintro e w6 ⟨vk0, Fk0, he, hok0, hNk0, hgek0, hx6⟩
  have hZ6 : w5.heap.size ≤ w6.heap.size := by have h := hx6.size; first | exact h | (simp at h; omega)
  rw [← HR0.out] at hok0
  have hgek0o : ∀ b, b ∈ Fk0 → w5.heap.size ≤ b := fun b hb => by have h := hgek0 b hb; first | exact h | (simp at h; omega)
  clear hgek0
  rw [← HR1.out] at he
  subst he
  have hG6 : Below w5.heap.size w5 w6 := bthen (hx := hx6) (h := by repeat (first | with_reducible exact Below.refl _ _ | with_reducible assumption | with_reducible refine Below.drew ?_ | with_reducible refine Below.alloc ?_ (by first | exact Nat.le_refl _ | (simp; done) | (simp; omega)) _ | with_reducible refine Below.setCell ?_ (by simp) _))
  replace hbxs0 : Bx w6 (w1.heap.size) [.int .i64 R0.fNext, .int .i64 R0.fLog, .slice as0_2 R0.fTables.length cs0_2] := hbxs0.under hG6
  replace hbxg0 : Bx w6 (w2.heap.size) [.int .i64 R0.fNext, .int .i64 R0.fLog, .slice ag0_2 R0.fTables.length cg0_2] := hbxg0.under hG6
  have hoN := (oManifest_good.frame hog0 (fun b hb => hG6.block b (oManifest_good.lt hog0 b hb)))
  clear hog0
  have hog0 := hoN
  clear hoN
  replace hrs0 := (rManifest_good.below hrs0 (hG6.mono hbs0))
  replace hbs0 := Nat.le_trans hbs0 hG6.size
  replace xbs0_0 : w6.cell? ⟨w1.heap.size, 0, none⟩ = some (.int .i64 R0.fNext) := hbxs0.2 0 _ rfl
  replace xbs0_1 : w6.cell? ⟨w1.heap.size, 1, none⟩ = some (.int .i64 R0.fLog) := hbxs0.2 1 _ rfl
  replace xbs0_2 : w6.cell? ⟨w1.heap.size, 2, none⟩ = some (.slice as0_2 R0.fTables.length cs0_2) := hbxs0.2 2 _ rfl
  replace hlbs0 : w1.heap.size < w6.heap.size := hbxs0.1
  replace xbg0_0 : w6.cell? ⟨w2.heap.size, 0, none⟩ = some (.int .i64 R0.fNext) := hbxg0.2 0 _ rfl
  replace xbg0_1 : w6.cell? ⟨w2.heap.size, 1, none⟩ = some (.int .i64 R0.fLog) := hbxg0.2 1 _ rfl
  replace xbg0_2 : w6.cell? ⟨w2.heap.size, 2, none⟩ = some (.slice ag0_2 R0.fTables.length cg0_2) := hbxg0.2 2 _ rfl
  replace hlbg0 : w2.heap.size < w6.heap.size := hbxg0.1
  have hB6 : Below w.heap.size w w6 := bthen hB5 hG6
  clear hx6
  have hltk0 : ∀ b, b ∈ Fk0 → b < w6.heap.size := fun b hb => oManifest_good.lt hok0 b hb
  have hq := (oManifest_good.read hok0)
  obtain ⟨ak0_2, ck0_2, rfl, _⟩ := hq
  have hC := fun (W : World) (hb : Below w6.heap.size w6 W) => eqManifest_yes _ _ R0 W (rManifest_good.mono (rManifest_good.below (oManifest_good.read hok0) hb) hb.size) (rManifest_good.mono (rManifest_good.below hrs0 (hb.mono hbs0)) (Nat.le_trans hbs0 hb.size)) (by omega)
  go_wp2_with fail
  refine Calls.mono (hC _ ?_) ?_
  · repeat (first | with_reducible exact Below.refl _ _ | with_reducible assumption | with_reducible refine Below.drew ?_ | with_reducible refine Below.alloc ?_ (by first | exact Nat.le_refl _ | (simp; done) | (simp; omega)) _ | with_reducible refine Below.setCell ?_ (by simp) _)
  clear hC
  rintro e w7 ⟨rfl, hx7⟩
  have hZ7 : w6.heap.size + 1 ≤ w7.heap.size := by have h := hx7.size; first | exact h | (simp at h; omega)
  have hG7 : Below w6.heap.size w6 w7 := bthen (hx := hx7) (h := by repeat (first | with_reducible exact Below.refl _ _ | with_reducible assumption | with_reducible refine Below.drew ?_ | with_reducible refine Below.alloc ?_ (by first | exact Nat.le_refl _ | (simp; done) | (simp; omega)) _ | with_reducible refine Below.setCell ?_ (by simp) _))
  replace hbxs0 : Bx w7 (w1.heap.size) [.int .i64 R0.fNext, .int .i64 R0.fLog, .slice as0_2 R0.fTables.length cs0_2] := hbxs0.under hG7
  replace hbxg0 : Bx w7 (w2.heap.size) [.int .i64 R0.fNext, .int .i64 R0.fLog, .slice ag0_2 R0.fTables.length cg0_2] := hbxg0.under hG7
  have hoN := (oManifest_good.frame hog0 (fun b hb => hG7.block b (oManifest_good.lt hog0 b hb)))
  clear hog0
  have hog0 := hoN
  clear hoN
  have hoN := (oManifest_good.frame hok0 (fun b hb => hG7.block b (oManifest_good.lt hok0 b hb)))
  clear hok0
  have hok0 := hoN
  clear hoN
  replace hrs0 := (rManifest_good.below hrs0 (hG7.mono hbs0))
  replace hbs0 := Nat.le_trans hbs0 hG7.size
  have hbxk0 : Bx w7 (w6.heap.size) [.int .i64 R0.fNext, .int .i64 R0.fLog, .slice ak0_2 R0.fTables.length ck0_2] := (Bx.new _ [.int .i64 R0.fNext, .int .i64 R0.fLog, .slice ak0_2 R0.fTables.length ck0_2] _).under hx7
  replace xbs0_0 : w7.cell? ⟨w1.heap.size, 0, none⟩ = some (.int .i64 R0.fNext) := hbxs0.2 0 _ rfl
  replace xbs0_1 : w7.cell? ⟨w1.heap.size, 1, none⟩ = some (.int .i64 R0.fLog) := hbxs0.2 1 _ rfl
  replace xbs0_2 : w7.cell? ⟨w1.heap.size, 2, none⟩ = some (.slice as0_2 R0.fTables.length cs0_2) := hbxs0.2 2 _ rfl
  replace hlbs0 : w1.heap.size < w7.heap.size := hbxs0.1
  replace xbg0_0 : w7.cell? ⟨w2.heap.size, 0, none⟩ = some (.int .i64 R0.fNext) := hbxg0.2 0 _ rfl
  replace xbg0_1 : w7.cell? ⟨w2.heap.size, 1, none⟩ = some (.int .i64 R0.fLog) := hbxg0.2 1 _ rfl
  replace xbg0_2 : w7.cell? ⟨w2.heap.size, 2, none⟩ = some (.slice ag0_2 R0.fTables.length cg0_2) := hbxg0.2 2 _ rfl
  replace hlbg0 : w2.heap.size < w7.heap.size := hbxg0.1
  have xbk0_0 : w7.cell? ⟨w6.heap.size, 0, none⟩ = some (.int .i64 R0.fNext) := hbxk0.2 0 _ rfl
  have xbk0_1 : w7.cell? ⟨w6.heap.size, 1, none⟩ = some (.int .i64 R0.fLog) := hbxk0.2 1 _ rfl
  have xbk0_2 : w7.cell? ⟨w6.heap.size, 2, none⟩ = some (.slice ak0_2 R0.fTables.length ck0_2) := hbxk0.2 2 _ rfl
  have hlbk0 : w6.heap.size < w7.heap.size := hbxk0.1
  have hB7 : Below w.heap.size w w7 := bthen hB6 hG7
  clear hx7
  have hC := fun (W : World) (hb : Below w7.heap.size w7 W) => heldManifest_any _ mmg0 1 qg0 W (rManifest_good.mono (rManifest_good.below (oManifest_good.read hog0) hb) hb.size) hhg0 (by omega) (by omega)
  go_wp2_with fail
  refine Calls.mono (hC _ ?_) ?_
  · repeat (first | with_reducible exact Below.refl _ _ | with_reducible assumption | with_reducible refine Below.drew ?_ | with_reducible refine Below.alloc ?_ (by first | exact Nat.le_refl _ | (simp; done) | (simp; omega)) _ | with_reducible refine Below.setCell ?_ (by simp) _)
  clear hC
  rintro e w8 ⟨rfl, hx8⟩
  have hZ8 : w7.heap.size ≤ w8.heap.size := by have h := hx8.size; first | exact h | (simp at h; omega)
  have hG8 : Below w7.heap.size w7 w8 := bthen (hx := hx8) (h := by repeat (first | with_reducible exact Below.refl _ _ | with_reducible assumption | with_reducible refine Below.drew ?_ | with_reducible refine Below.alloc ?_ (by first | exact Nat.le_refl _ | (simp; done) | (simp; omega)) _ | with_reducible refine Below.setCell ?_ (by simp) _))
  replace hbxs0 : Bx w8 (w1.heap.size) [.int .i64 R0.fNext, .int .i64 R0.fLog, .slice as0_2 R0.fTables.length cs0_2] := hbxs0.under hG8
  replace hbxg0 : Bx w8 (w2.heap.size) [.int .i64 R0.fNext, .int .i64 R0.fLog, .slice ag0_2 R0.fTables.length cg0_2] := hbxg0.under hG8
  replace hbxk0 : Bx w8 (w6.heap.size) [.int .i64 R0.fNext, .int .i64 R0.fLog, .slice ak0_2 R0.fTables.length ck0_2] := hbxk0.under hG8
  have hoN := (oManifest_good.frame hog0 (fun b hb => hG8.block b (oManifest_good.lt hog0 b hb)))
  clear hog0
  have hog0 := hoN
  clear hoN
  have hoN := (oManifest_good.frame hok0 (fun b hb => hG8.block b (oManifest_good.lt hok0 b hb)))
  clear hok0
  have hok0 := hoN
  clear hoN
  replace hrs0 := (rManifest_good.below hrs0 (hG8.mono hbs0))
  replace hbs0 := Nat.le_trans hbs0 hG8.size
  replace xbs0_0 : w8.cell? ⟨w1.heap.size, 0, none⟩ = some (.int .i64 R0.fNext) := hbxs0.2 0 _ rfl
  replace xbs0_1 : w8.cell? ⟨w1.heap.size, 1, none⟩ = some (.int .i64 R0.fLog) := hbxs0.2 1 _ rfl
  replace xbs0_2 : w8.cell? ⟨w1.heap.size, 2, none⟩ = some (.slice as0_2 R0.fTables.length cs0_2) := hbxs0.2 2 _ rfl
  replace hlbs0 : w1.heap.size < w8.heap.size := hbxs0.1
  replace xbg0_0 : w8.cell? ⟨w2.heap.size, 0, none⟩ = some (.int .i64 R0.fNext) := hbxg0.2 0 _ rfl
  replace xbg0_1 : w8.cell? ⟨w2.heap.size, 1, none⟩ = some (.int .i64 R0.fLog) := hbxg0.2 1 _ rfl
  replace xbg0_2 : w8.cell? ⟨w2.heap.size, 2, none⟩ = some (.slice ag0_2 R0.fTables.length cg0_2) := hbxg0.2 2 _ rfl
  replace hlbg0 : w2.heap.size < w8.heap.size := hbxg0.1
  replace xbk0_0 : w8.cell? ⟨w6.heap.size, 0, none⟩ = some (.int .i64 R0.fNext) := hbxk0.2 0 _ rfl
  replace xbk0_1 : w8.cell? ⟨w6.heap.size, 1, none⟩ = some (.int .i64 R0.fLog) := hbxk0.2 1 _ rfl
  replace xbk0_2 : w8.cell? ⟨w6.heap.size, 2, none⟩ = some (.slice ak0_2 R0.fTables.length ck0_2) := hbxk0.2 2 _ rfl
  replace hlbk0 : w6.heap.size < w8.heap.size := hbxk0.1
  have hB8 : Below w.heap.size w w8 := bthen hB7 hG8
  clear hx8
  go_wp2_with fail
  go_ret
  exact ⟨rfl, by repeat (first | with_reducible exact Below.refl _ _ | with_reducible assumption | with_reducible refine Below.drew ?_ | with_reducible refine Below.alloc ?_ (by first | exact Nat.le_refl _ | (simp; done) | (simp; omega)) _ | with_reducible refine Below.setCell ?_ (by simp) _)⟩

end Go.Proofs.YtnohnkcijomdjaaGreatDoor
