/-
  Sets of places: the least place of a set.
-/
import Derived.Test.YtmigamgcmhdncaaDoorSetA
import Derived.Test.YtmigamgcmhdncaaDoorTzL
namespace Go.Proofs.YtmigamgcmhdncaaDoor
open Go.RowKit
set_option linter.unusedVariables false
set_option linter.unusedSimpArgs false
set_option maxRecDepth 10000

theorem ctz_bits {x : Nat} (h0 : x ≠ 0) (hx : x < 18446744073709551616) : Lib.ctz 64 x < 64 ∧ x.testBit (Lib.ctz 64 x) = true ∧ ∀ j, j < Lib.ctz 64 x → x.testBit j = false := by
  have e0 : Lib.ctz 64 x = Lib.ctzFrom 64 x := if_neg h0
  obtain ⟨m, e, hc⟩ := Lib.ctzFrom_spec 64 x (by omega) hx
  rw [e0]
  generalize Lib.ctzFrom 64 x = c at *
  refine ⟨hc, ?_, fun j hj => ?_⟩
  · rw [e, Nat.testBit_two_pow_mul]
    simp
  · rw [e, Nat.testBit_two_pow_mul, decide_eq_false (by omega)]
    rfl
/-- The least place of a set, or 128. -/
def MSet.least (s : MSet) (p : Nat) : Prop := p ≤ 128 ∧ (p < 128 → s.has p = true) ∧ ∀ j, j < p → s.has j = false

def TzAt (w : World) : Prop := Go.Proofs.TabAt (layTz_ren.g 1) Lib.deBruijn64tab w
theorem TzAt.below {w w' : World} (h : TzAt w) (hb : Below w.heap.size w w') : TzAt w' := fun j hj => (hb.cell (p := ⟨layTz_ren.g 1, j, none⟩) (World.block_lt_of_cell? _ _ (h j hj))).trans (h j hj)

set_option maxHeartbeats 2000000 in
theorem first_any (s : MSet) (w : World) (hs : s.ok) (hT : TzAt w) :
    Calls Tryd.prog 91 #[.agg s.cells.toArray] w fun e w' => ∃ p : Nat, e = .returned (.int .i64 p) ∧ s.least p ∧ Below w.heap.size w w' := by
  obtain ⟨X0, X1⟩ := s
  obtain ⟨s0, s1⟩ := hs
  show Calls Tryd.prog 91 #[.agg #[.int .u64 (X0 : Int), .int .u64 (X1 : Int)]] w fun e w' => ∃ p : Nat, e = .returned (.int .i64 p) ∧ (MSet.mk X0 X1).least p ∧ Below w.heap.size w w'
  have HL0 : Hid (X0 ≠ 0 → Lib.ctz 64 X0 < 64 ∧ (MSet.mk X0 X1).least (Lib.ctz 64 X0)) := fun h => by
    obtain ⟨h1, h2, h3⟩ := ctz_bits h s0
    exact ⟨h1, by omega, fun _ => by rw [MSet.has_lo h1]; exact h2, fun j hj => by rw [MSet.has_lo (by omega)]; exact h3 j hj⟩
  have HL1 : Hid (X0 = 0 → X1 ≠ 0 → Lib.ctz 64 X1 < 64 ∧ (MSet.mk X0 X1).least (64 + Lib.ctz 64 X1)) := fun h g => by
    obtain ⟨h1, h2, h3⟩ := ctz_bits g s1
    refine ⟨h1, by omega, fun _ => ?_, fun j hj => ?_⟩
    · rw [MSet.has_hi (by omega), Nat.add_sub_cancel_left]; exact h2
    · by_cases hj2 : j < 64
      · rw [MSet.has_lo hj2]; show X0.testBit j = false; rw [h]; exact Nat.zero_testBit j
      · rw [MSet.has_hi hj2]; exact h3 (j - 64) (by omega)
  have HL2 : Hid (X0 = 0 → X1 = 0 → (MSet.mk X0 X1).least 128) := fun h g => by
    refine ⟨Nat.le_refl _, fun h => by omega, fun j hj => ?_⟩
    by_cases hj2 : j < 64
    · rw [MSet.has_lo hj2]; show X0.testBit j = false; rw [h]; exact Nat.zero_testBit j
    · rw [MSet.has_hi hj2]; show X1.testBit (j - 64) = false; rw [g]; exact Nat.zero_testBit _
  go_enter Tryd.func91, Tryd.ntmps91
  go_wp2_with fail
  obtain ⟨w1, hw1⟩ : ∃ x, x = w.alloc (.cells #[.int .u64 (X0 : Int), .int .u64 (X1 : Int)] 66) := ⟨_, rfl⟩
  have hb1 : Below w.heap.size w w1 := by rw [hw1]; exact (Below.refl _ _).alloc (Nat.le_refl _) _
  have HT1 := Hid.mk (hT.below hb1)
  rw [← hw1]
  clear hw1
  go_loopw [6] (fun iv wr => ∃ k : Nat, k ≤ 2 ∧ iv = .int .i64 k ∧ Hid ((1 ≤ k → X0 = 0) ∧ (2 ≤ k → X1 = 0)) ∧ wr = w1) (fun iv _ => 2 - (intOf iv).toNat)
  case atStart => exact ⟨0, by omega, rfl, ⟨fun h => by omega, fun h => by omega⟩, rfl⟩
  case round =>
    obtain ⟨k, hk, rfl, HB, hwr⟩ := hrel
    replace hwr := hwr.symm
    subst hwr
    rcases (by omega : k = 0 ∨ k = 1 ∨ k = 2) with rfl | rfl | rfl
    · have hix := set_ix0 (X0 : Int) (X1 : Int)
      by_cases hz : X0 = 0
      · have hz2 : (X0 : Int) = 0 := by omega
        have hix2 := set_ix0 0 (X1 : Int)
        go_wp2_with fail
        go_roundw
        case rel => exact ⟨1, by omega, by go_num, ⟨fun _ => hz, fun h => by omega⟩, by trivial⟩
        case measure => simp [intOf]
      · have hz2 : ¬ (X0 : Int) = 0 := by omega
        have HP := Hid.mk (HL0.out hz)
        have hc := (HL0.out hz).1
        go_wp2_with fail
        refine (Any7.bits_TrailingZeros64 layTz X0 s0 w1 (fun _ => HT1.out)).mono ?_
        rintro e w2 ⟨rfl, rfl⟩
        generalize Lib.ctz 64 X0 = c at *
        go_wp2_with fail
        go_ret
        exact ⟨c, by go_num, HP.out.2, hb1⟩
    · have hix := set_ix1 (X0 : Int) (X1 : Int)
      have hx0 := HB.out.1 (Nat.le_refl _)
      by_cases hz : X1 = 0
      · have hz2 : (X1 : Int) = 0 := by omega
        have hix2 := set_ix1 0 0
        have hix3 := set_ix1 (X0 : Int) 0
        go_wp2_with fail
        go_roundw
        case rel => exact ⟨2, by omega, by go_num, ⟨fun _ => hx0, fun _ => hz⟩, by trivial⟩
        case measure => simp [intOf]
      · have hz2 : ¬ (X1 : Int) = 0 := by omega
        have HP := Hid.mk (HL1.out hx0 hz)
        have hc := (HL1.out hx0 hz).1
        have HX0 := Hid.mk hx0
        clear hx0
        go_wp2_with fail
        refine (Any7.bits_TrailingZeros64 layTz X1 s1 w1 (fun _ => HT1.out)).mono ?_
        rintro e w2 ⟨rfl, rfl⟩
        generalize Lib.ctz 64 X1 = c at *
        go_wp2_with fail
        go_ret
        exact ⟨64 + c, by go_num, HP.out.2, hb1⟩
    · have HP := Hid.mk (HL2.out (HB.out.1 (by omega)) (HB.out.2 (Nat.le_refl _)))
      go_wp2_with fail
      go_ret
      exact ⟨128, rfl, HP.out, hb1⟩

end Go.Proofs.YtmigamgcmhdncaaDoor
