/-
  Sets of places: one set without another.
-/
import Derived.Test.YtmigamgcmhdncaaDoorSetJ
import Derived.Laws.BitsAllLaws
namespace Go.Proofs.YtmigamgcmhdncaaDoor
open Go.RowKit
set_option linter.unusedVariables false
set_option linter.unusedSimpArgs false
set_option maxRecDepth 10000

def MSet.less (s t : MSet) : MSet := ⟨s.x0 &&& (18446744073709551615 - t.x0), s.x1 &&& (18446744073709551615 - t.x1)⟩
theorem MSet.less_ok {s t : MSet} (hs : s.ok) : (s.less t).ok := ⟨Nat.lt_of_le_of_lt Nat.and_le_left hs.1, Nat.lt_of_le_of_lt Nat.and_le_left hs.2⟩
theorem word_less {x y k : Nat} (hy : y < 18446744073709551616) (hk : k < 64) : (x &&& (18446744073709551615 - y)).testBit k = (x.testBit k && !y.testBit k) := by
  rw [Nat.testBit_and]
  have e : 18446744073709551615 - y = 2 ^ 64 - (y + 1) := by omega
  rw [e, Nat.testBit_two_pow_sub_succ hy]
  simp [hk]
theorem MSet.less_has {s t : MSet} {k : Nat} (ht : t.ok) (hk : k < 128) : (s.less t).has k = (s.has k && !t.has k) := by
  by_cases h : k < 64
  · rw [MSet.has_lo h, MSet.has_lo h, MSet.has_lo h]; exact word_less ht.1 h
  · rw [MSet.has_hi h, MSet.has_hi h, MSet.has_hi h]; exact word_less ht.2 (by omega)

set_option maxHeartbeats 2000000 in
theorem without_any (s t : MSet) (w : World) (hs : s.ok) (ht : t.ok) :
    Calls Tryd.prog 50 #[.agg s.cells.toArray, .agg t.cells.toArray] w fun e w' => e = .returned (.agg (s.less t).cells.toArray) ∧ Below w.heap.size w w' := by
  obtain ⟨X0, X1⟩ := s
  obtain ⟨Y0, Y1⟩ := t
  obtain ⟨s0, s1⟩ := hs
  obtain ⟨t0, t1⟩ := ht
  have HE0 := Hid.mk (u64_andNot_nat X0 Y0 s0 t0)
  have HE1 := Hid.mk (u64_andNot_nat X1 Y1 s1 t1)
  show Calls Tryd.prog 50 #[.agg #[.int .u64 (X0 : Int), .int .u64 (X1 : Int)], .agg #[.int .u64 (Y0 : Int), .int .u64 (Y1 : Int)]] w fun e w' => e = .returned (.agg #[.int .u64 ((X0 &&& (18446744073709551615 - Y0) : Nat) : Int), .int .u64 ((X1 &&& (18446744073709551615 - Y1) : Nat) : Int)]) ∧ Below w.heap.size w w'
  obtain ⟨Z0, hZ0⟩ : ∃ z : Nat, z = X0 &&& (18446744073709551615 - Y0) := ⟨_, rfl⟩
  obtain ⟨Z1, hZ1⟩ : ∃ z : Nat, z = X1 &&& (18446744073709551615 - Y1) := ⟨_, rfl⟩
  rw [← hZ0] at HE0 ⊢
  rw [← hZ1] at HE1 ⊢
  clear hZ0 hZ1
  go_enter Tryd.func50, Tryd.ntmps50
  go_wp2_with fail
  obtain ⟨w1, hw1⟩ : ∃ x, x = ((w.alloc (.cells #[.int .u64 (X0 : Int), .int .u64 (X1 : Int)] 66)).alloc (.cells #[.int .u64 (Y0 : Int), .int .u64 (Y1 : Int)] 66)).alloc (.cells #[.int .u64 0, .int .u64 0] 66) := ⟨_, rfl⟩
  have hb1 : Below w.heap.size w w1 := by rw [hw1]; exact (((Below.refl _ _).alloc (Nat.le_refl _) _).alloc (by simp) _).alloc (by simp; omega) _
  have hX1 : Bw w1 w.heap.size 66 [.int .u64 (X0 : Int), .int .u64 (X1 : Int)] := by rw [hw1]; exact ((Bw.new _ _ _).alloc _).alloc _
  have hR1 : Bw w1 (w.heap.size + 1 + 1) 66 [.int .u64 0, .int .u64 0] := by rw [hw1]; exact Bw.new' _ _ _ (by simp)
  rw [← hw1]
  clear hw1
  go_loopw [8] (fun iv wr => ∃ k : Nat, k ≤ 2 ∧ iv = .int .i64 k ∧ Hid ((k = 0 → Bw wr w.heap.size 66 [.int .u64 (X0 : Int), .int .u64 (X1 : Int)]) ∧ (k = 1 → Bw wr w.heap.size 66 [.int .u64 (Z0 : Int), .int .u64 (X1 : Int)]) ∧ (k = 2 → Bw wr w.heap.size 66 [.int .u64 (Z0 : Int), .int .u64 (Z1 : Int)])) ∧ Bw wr (w.heap.size + 1 + 1) 66 [.int .u64 0, .int .u64 0] ∧ Below w.heap.size w wr) (fun iv _ => 2 - (intOf iv).toNat)
  case atStart => exact ⟨0, by omega, rfl, ⟨fun _ => hX1, fun h => by omega, fun h => by omega⟩, hR1, hb1⟩
  case round =>
    obtain ⟨k, hk, rfl, HB, hR, hT⟩ := hrel
    rcases (by omega : k = 0 ∨ k = 1 ∨ k = 2) with rfl | rfl | rfl
    · have hBk := HB.out.1 rfl
      have c0 := hBk.cell 0 _ rfl
      have f0 := hBk.free 0
      have hl := hBk.lt
      have HN := Hid.mk (hBk.put 0 (.int .u64 (Z0 : Int)))
      have hix := set_ix0 (Y0 : Int) (Y1 : Int)
      have he := HE0.out
      go_wp2_with fail
      go_roundw
      case rel => exact ⟨1, by omega, by go_num, ⟨fun h => by omega, fun _ => HN.out, fun h => by omega⟩, hR.turn ((Turn.refl [w.heap.size] _).setCell (by simp) _) (by simp; omega), hT.setCell (by simp) _⟩
      case measure => simp [intOf]
    · have hBk := HB.out.2.1 rfl
      have c0 := hBk.cell 1 _ rfl
      have f0 := hBk.free 1
      have hl := hBk.lt
      have HN := Hid.mk (hBk.put 1 (.int .u64 (Z1 : Int)))
      have hix := set_ix1 (Y0 : Int) (Y1 : Int)
      have he := HE1.out
      go_wp2_with fail
      go_roundw
      case rel => exact ⟨2, by omega, by go_num, ⟨fun h => by omega, fun h => by omega, fun _ => HN.out⟩, hR.turn ((Turn.refl [w.heap.size] _).setCell (by simp) _) (by simp; omega), hT.setCell (by simp) _⟩
      case measure => simp [intOf]
    · have hBk := HB.out.2.2 rfl
      have c0 := hBk.cell 0 _ rfl
      have c1 := hBk.cell 1 _ rfl
      have r0 := hR.cell 0 _ rfl
      have r1 := hR.cell 1 _ rfl
      have f0 := hR.free 0
      have f1 := hR.free 1
      have hl := hR.lt
      go_wp2_with fail
      exact bodyPost_ret (v := .agg #[.int .u64 (Z0 : Int), .int .u64 (Z1 : Int)]) (by simp [results, Tryd.results50, go_sem, *]) rfl ⟨rfl, (hT.setCell (by simp; omega) _).setCell (by simp; omega) _⟩

end Go.Proofs.YtmigamgcmhdncaaDoor
