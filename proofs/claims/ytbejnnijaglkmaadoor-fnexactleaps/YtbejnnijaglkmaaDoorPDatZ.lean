/-
  What the laws reckon that their arguments weigh.
-/
import Derived.Test.YtbejnnijaglkmaaDoorBase
import Derived.Test.YtbejnnijaglkmaaDoorPDat
namespace Go.Proofs.YtbejnnijaglkmaaDoor
open Go.RowKit
set_option linter.unusedVariables false

set_option maxHeartbeats 400000 in
theorem szPair_any (cs : List Value) (m : MPair) (left : Int) (w : World) (g0 : 0 ≤ left) (g1 : left ≤ 1048576) (hr : rPair w.heap.size w cs m) :
    Calls Tryd.prog 114 #[.agg cs.toArray, .int .i64 left] w fun e w' => e = .returned (.int .i64 (szRes left (wPair m))) ∧ Below w.heap.size w w' := by
  obtain ⟨rfl, h0, h1, h2, _⟩ := hr
  have HW : Hid (wPair m = m.fKey.size + m.fVal.size) := rfl
  have hb0 : Below w.heap.size w (w.alloc (.cells #[.string m.fKey, .string m.fVal, .bool m.fGone] 123)) := (Below.refl _ _).alloc (Nat.le_refl _) _
  go_enter Tryd.func114, Tryd.ntmps114
  by_cases hw0 : ((m.fKey.size : Nat) : Int) ≤ left
  rotate_left
  · have HV : Hid (szRes left (wPair m) = -1) := szRes_no (by have h := HW.out; omega)
    go_wp2_with fail
    go_ret
    exact ⟨by rw [HV.out]; rfl, hb0⟩
  by_cases hw1 : ((m.fVal.size : Nat) : Int) ≤ left - (((m.fKey.size : Nat) : Int))
  rotate_left
  · have HV : Hid (szRes left (wPair m) = -1) := szRes_no (by have h := HW.out; omega)
    go_wp2_with fail
    go_ret
    exact ⟨by rw [HV.out]; rfl, hb0⟩
  have HV := Hid.mk (szRes_yes (left := left) (t := wPair m) (by have h := HW.out; omega))
  go_wp2_with fail
  go_ret
  exact ⟨by rw [HV.out, HW.out]; go_num, hb0⟩

set_option maxHeartbeats 400000 in
theorem szNode_any (cs : List Value) (m : MNode) (left : Int) (w : World) (g0 : 0 ≤ left) (g1 : left ≤ 1048576) (hr : rNode w.heap.size w cs m) :
    Calls Tryd.prog 76 #[.agg cs.toArray, .int .i64 left] w fun e w' => e = .returned (.int .i64 (szRes left (wNode m))) ∧ Below w.heap.size w w' := by
  obtain ⟨rfl, h0, h1, h2, h3, _⟩ := hr
  have HW : Hid (wNode m = m.fP.fKey.size + m.fP.fVal.size) := rfl
  have hb0 : Below w.heap.size w (w.alloc (.cells #[.string m.fP.fKey, .string m.fP.fVal, .bool m.fP.fGone, .int .i64 m.fTower] 125)) := (Below.refl _ _).alloc (Nat.le_refl _) _
  go_enter Tryd.func76, Tryd.ntmps76
  have HS0 : Hid (wPair m.fP = m.fP.fKey.size + m.fP.fVal.size) := rfl
  go_wp2_with fail
  refine (szPair_any [.string m.fP.fKey, .string m.fP.fVal, .bool m.fP.fGone] m.fP _ _ (by omega) (by omega) ⟨rfl, h0, h1, h2, trivial⟩).mono ?_
  rintro e w1 ⟨rfl, hx1⟩
  obtain ⟨hc1, hf1⟩ := bcell hx1
  have hz1 : w.heap.size < w1.heap.size := by have := hx1.size; simp at this; omega
  have hb1 := hb0.trans (hx1.mono hb0.size)
  by_cases hw0 : ((wPair m.fP : Nat) : Int) ≤ left
  rotate_left
  · have HV : Hid (szRes left (wNode m) = -1) := szRes_no (by have h := HW.out; have h0_ := HS0.out; omega)
    rw [szRes_no hw0]
    go_wp2_with fail
    go_ret
    exact ⟨by rw [HV.out]; rfl, hb1⟩
  rw [szRes_yes hw0]
  have HV := Hid.mk (szRes_yes (left := left) (t := wNode m) (by have h := HW.out; have h0_ := HS0.out; omega))
  go_wp2_with fail
  go_ret
  exact ⟨by rw [HV.out, HW.out, ← HS0.out]; go_num, hb1⟩

set_option maxHeartbeats 400000 in
theorem szNodeS_any (a : Option Addr) (n cap : Nat) (l : List MNode) (left : Int) (w : World) (hx : l.length = n) (g0 : 0 ≤ left) (g1 : left ≤ 1048576) (hn : n ≤ 9223372036854775807) (hr : RdS 4 rNode w.heap.size w a l) :
    Calls Tryd.prog 44 #[.slice a n cap, .int .i64 left] w fun e w' => e = .returned (.int .i64 (szRes left (l.length + sumW wNode l))) ∧ Below w.heap.size w w' := by
  have HX := Hid.mk hx
  rw [hx]
  clear hx
  by_cases h : (n : Int) ≤ left
  · go_enter Tryd.func44, Tryd.ntmps44
    go_wp2_with fail
    go_loopw [1, 5] (fun x i wr => ∃ k : Nat, k ≤ n ∧ i = .int .i64 k ∧ x = .int .i64 (left - n - sumW wNode (l.take k)) ∧ ((n + sumW wNode (l.take k) : Nat) : Int) ≤ left ∧ Below w.heap.size w wr) (fun _ i _ => n - (intOf i).toNat)
    case atStart => exact ⟨0, Nat.zero_le _, rfl, by simp [sumW], by simpa [sumW] using h, Below.refl _ _⟩
    case round =>
      obtain ⟨k, hk, rfl, rfl, hle, hbk⟩ := hrel
      by_cases hlt : k < n
      · have hkl : k < l.length := by rw [HX.out]; exact hlt
        have HS := Hid.mk (sumW_take_succ (f := wNode) hkl)
        have HLe := Hid.mk (sumW_take_le wNode l (k + 1))
        obtain ⟨b1, o1, rfl, hB, cs, hcl, hcell, hrT⟩ := (hr.below rNode_good hbk) k hkl
        generalize l[k] = m at *
        generalize sumW wNode (l.take k) = t at *
        have hrT' := rNode_good.mono hrT hbk.size
        obtain ⟨rfl, h0, h1, h2, h3, _⟩ := hrT
        have k0 := hcell 0 _ rfl
        have k1 := hcell 1 _ rfl
        have k2 := hcell 2 _ rfl
        have k3 := hcell 3 _ rfl
        rw [Nat.add_zero] at k0
        clear hr hcell hcl
        go_wp2_with fail
        refine (szNode_any _ m _ wr (by omega) (by omega) hrT').mono ?_
        rintro e w1 ⟨rfl, hb1⟩
        have hb2 := hbk.trans (hb1.mono hbk.size)
        generalize wNode m = d at *
        by_cases hd : (d : Int) ≤ left - n - t
        · rw [szRes_yes hd]
          go_wp2_with fail
          go_roundw
          case rel => exact ⟨k + 1, by omega, by go_num, by rw [HS.out]; go_num, by rw [HS.out]; omega, hb2⟩
          case measure => simp [intOf]; omega
        · rw [szRes_no hd]
          have HV : Hid (szRes left (n + sumW wNode l) = -1) := szRes_no (by have h1 := HS.out; have h2 := HLe.out; omega)
          go_wp2_with fail
          go_ret
          exact ⟨by rw [HV.out]; rfl, hb2⟩
      · have hkn : k = n := by omega
        have HT : Hid (l.take k = l) := List.take_of_length_le (by rw [HX.out]; omega)
        rw [HT.out] at hle
        rw [HT.out]
        have HV := Hid.mk (szRes_yes hle)
        go_wp2_with fail
        go_ret
        exact ⟨by rw [HV.out]; go_num, hbk⟩
  · have HV : Hid (szRes left (n + sumW wNode l) = -1) := szRes_no (by omega)
    go_enter Tryd.func44, Tryd.ntmps44
    go_wp2_with fail
    go_ret
    exact ⟨by rw [HV.out]; rfl, Below.refl _ _⟩

set_option maxHeartbeats 400000 in
theorem szMem_any (cs : List Value) (m : MMem) (left : Int) (w : World) (g0 : 0 ≤ left) (g1 : left ≤ 1048576) (hr : rMem w.heap.size w cs m) :
    Calls Tryd.prog 12 #[.agg cs.toArray, .int .i64 left] w fun e w' => e = .returned (.int .i64 (szRes left (wMem m))) ∧ Below w.heap.size w w' := by
  obtain ⟨a0, c0, rfl, h0, _⟩ := hr
  have HW : Hid (wMem m = (m.fNodes.length + sumW wNode m.fNodes)) := rfl
  have hb0 : Below w.heap.size w (w.alloc (.cells #[.slice a0 m.fNodes.length c0] 35)) := (Below.refl _ _).alloc (Nat.le_refl _) _
  go_enter Tryd.func12, Tryd.ntmps12
  have gb0 := h0.big
  go_wp2_with fail
  refine (szNodeS_any a0 _ c0 m.fNodes _ _ rfl (by omega) (by omega) (by omega) (by exact (LeafL.mono rNode_good (h0.below rNode_good hb0) hb0.size).2.2)).mono ?_
  rintro e w1 ⟨rfl, hx1⟩
  obtain ⟨hc1, hf1⟩ := bcell hx1
  have hz1 : w.heap.size < w1.heap.size := by have := hx1.size; simp at this; omega
  have hb1 := hb0.trans (hx1.mono hb0.size)
  by_cases hw0 : ((m.fNodes.length + sumW wNode m.fNodes : Nat) : Int) ≤ left
  rotate_left
  · have HV : Hid (szRes left (wMem m) = -1) := szRes_no (by have h := HW.out; omega)
    rw [szRes_no hw0]
    go_wp2_with fail
    go_ret
    exact ⟨by rw [HV.out]; rfl, hb1⟩
  rw [szRes_yes hw0]
  have HV := Hid.mk (szRes_yes (left := left) (t := wMem m) (by have h := HW.out; omega))
  go_wp2_with fail
  go_ret
  exact ⟨by rw [HV.out, HW.out]; go_num, hb1⟩

end Go.Proofs.YtbejnnijaglkmaaDoor
