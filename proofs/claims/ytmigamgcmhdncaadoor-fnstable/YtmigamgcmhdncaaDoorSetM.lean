/-
  Sets of places in two words: plainly, and the program's question whether one has a place.
-/
import Derived.Test.YtmigamgcmhdncaaDoorRchN
import Derived.Laws.Bits64b
namespace Go.Proofs.YtmigamgcmhdncaaDoor
open Go.RowKit
set_option linter.unusedVariables false
set_option linter.unusedSimpArgs false
set_option maxRecDepth 10000

structure MSet where
  x0 : Nat
  x1 : Nat
def MSet.ok (s : MSet) : Prop := s.x0 < 18446744073709551616 ∧ s.x1 < 18446744073709551616
def MSet.has (s : MSet) (k : Nat) : Bool := bif decide (k < 64) then s.x0.testBit k else s.x1.testBit (k - 64)
def MSet.cells (s : MSet) : List Value := [.int .u64 (s.x0 : Int), .int .u64 (s.x1 : Int)]
theorem MSet.has_lo {s : MSet} {k : Nat} (h : k < 64) : s.has k = s.x0.testBit k := by unfold MSet.has; rw [decide_eq_true h]; rfl
theorem MSet.has_hi {s : MSet} {k : Nat} (h : ¬ k < 64) : s.has k = s.x1.testBit (k - 64) := by unfold MSet.has; rw [decide_eq_false h]; rfl

theorem word_bit {x k : Nat} (hx : x < 18446744073709551616) : (bits BinOp.and IntKind.u64 ((x : Int) / 2 ^ k) 1 == 1) = x.testBit k := by
  have e1 : ((x : Int) / 2 ^ k) = ((x / 2 ^ k : Nat) : Int) := by rw [Int.natCast_ediv, Int.natCast_pow]; rfl
  have hle : x / 2 ^ k < 18446744073709551616 := Nat.lt_of_le_of_lt (Nat.div_le_self _ _) hx
  have e2 := bits_and_u64_nat (x / 2 ^ k) 1 hle (by omega)
  rw [e1]
  have e3 : (1 : Int) = ((1 : Nat) : Int) := rfl
  rw [e3, e2]
  have e4 : x.testBit k = decide (x / 2 ^ k % 2 = 1) := Nat.testBit_eq_decide_div_mod_eq
  rw [e4, Nat.and_one_is_mod]
  by_cases h : x / 2 ^ k % 2 = 1
  · rw [h]; simp
  · rw [decide_eq_false h]
    have h0 : x / 2 ^ k % 2 = 0 := by omega
    rw [h0]; rfl

set_option maxHeartbeats 1000000 in
theorem has_any (s : MSet) (k : Nat) (w : World) (hs : s.ok) (hk : k < 128) :
    Calls Tryd.prog 46 #[.agg s.cells.toArray, .int .i64 k] w fun e w' => e = .returned (.bool (s.has k)) ∧ Below w.heap.size w w' := by
  obtain ⟨X0, X1⟩ := s
  obtain ⟨h0, h1⟩ := hs
  show Calls Tryd.prog 46 #[.agg #[.int .u64 (X0 : Int), .int .u64 (X1 : Int)], .int .i64 (k : Int)] w _
  by_cases hlo : k < 64
  · have HV : Hid (MSet.has ⟨X0, X1⟩ k = (bits BinOp.and IntKind.u64 ((X0 : Int) / 2 ^ k) 1 == 1)) := by unfold Hid; rw [MSet.has_lo hlo, word_bit h0]
    have hd : (k : Int) / 64 = 0 := by omega
    have hm : (k : Int) % 64 = (k : Int) := by omega
    go_enter Tryd.func46, Tryd.ntmps46
    go_wp2_with fail
    go_ret
    exact ⟨by rw [HV.out]; rfl, (Below.refl _ _).alloc (Nat.le_refl _) _⟩
  · obtain ⟨j, rfl⟩ : ∃ j, k = j + 64 := ⟨k - 64, by omega⟩
    have HV : Hid (MSet.has ⟨X0, X1⟩ (j + 64) = (bits BinOp.and IntKind.u64 ((X1 : Int) / 2 ^ j) 1 == 1)) := by unfold Hid; rw [MSet.has_hi hlo, word_bit h1]; rfl
    have hd : ((j : Int) + 64) / 64 = 1 := by omega
    have hm : ((j : Int) + 64) % 64 = (j : Int) := by omega
    go_enter Tryd.func46, Tryd.ntmps46
    go_wp2_with fail
    go_ret
    exact ⟨by rw [HV.out]; rfl, (Below.refl _ _).alloc (Nat.le_refl _) _⟩

end Go.Proofs.YtmigamgcmhdncaaDoor
