/-
  What the laws reckon that their arguments weigh.
-/
import Derived.Test.YtembioiaeimegaaRows
import Derived.Test.YtembioiaeimegaaKit
import Derived.Test.YtembioiaeimegaaDatN
import Derived.Test.YtembioiaeimegaaChecked
import Derived.Test.YtembioiaeimegaaUDat
namespace Go.Proofs.Ytembioiaeimegaa
open Go.RowKit
set_option linter.unusedVariables false

theorem sumW_Dot0 (l : List MDot) : sumW wDot l = 0 := by
  induction l with
  | nil => rfl
  | cons a t ih => simp [sumW, wDot, ih]

set_option maxHeartbeats 400000 in
theorem szDotS_any (a : Option Addr) (n cap : Nat) (l : List MDot) (left : Int) (w : World) (hx : l.length = n) (g0 : 0 ≤ left) (g1 : left ≤ 1048576) (hn : n ≤ 9223372036854775807) (hr : RdS 2 rDot w.heap.size w a l) :
    Calls Try.prog 44 #[.slice a n cap, .int .i64 left] w fun e w' => e = .returned (.int .i64 (szRes left (l.length + sumW wDot l))) ∧ Below w.heap.size w w' := by
  rw [sumW_Dot0, hx, Nat.add_zero]
  clear hx hr
  by_cases h : (n : Int) ≤ left
  · have HV := Hid.mk (szRes_yes h)
    go_enter Try.func44, Try.ntmps44
    go_wp2_with fail
    go_ret
    exact ⟨by rw [HV.out]; rfl, Below.refl _ _⟩
  · have HV := Hid.mk (szRes_no h)
    go_enter Try.func44, Try.ntmps44
    go_wp2_with fail
    go_ret
    exact ⟨by rw [HV.out]; rfl, Below.refl _ _⟩

set_option maxHeartbeats 400000 in
theorem szCmd_any (cs : List Value) (m : MCmd) (left : Int) (w : World) (g0 : 0 ≤ left) (g1 : left ≤ 1048576) (hr : rCmd w.heap.size w cs m) :
    Calls Try.prog 47 #[.agg cs.toArray, .int .i64 left] w fun e w' => e = .returned (.int .i64 (szRes left (wCmd m))) ∧ Below w.heap.size w w' := by
  obtain ⟨rfl, h0, h1, h2, _⟩ := hr
  have HW : Hid (wCmd m = m.fKey.size + m.fVal.size) := rfl
  have hb0 : Below w.heap.size w (w.alloc (.cells #[.int .i64 m.fKind, .string m.fKey, .string m.fVal] 76)) := (Below.refl _ _).alloc (Nat.le_refl _) _
  go_enter Try.func47, Try.ntmps47
  by_cases hw1 : ((m.fKey.size : Nat) : Int) ≤ left
  rotate_left
  · have HV : Hid (szRes left (wCmd m) = -1) := szRes_no (by have h := HW.out; omega)
    go_wp2_with fail
    go_ret
    exact ⟨by rw [HV.out]; rfl, hb0⟩
  by_cases hw2 : ((m.fVal.size : Nat) : Int) ≤ left - (((m.fKey.size : Nat) : Int))
  rotate_left
  · have HV : Hid (szRes left (wCmd m) = -1) := szRes_no (by have h := HW.out; omega)
    go_wp2_with fail
    go_ret
    exact ⟨by rw [HV.out]; rfl, hb0⟩
  have HV := Hid.mk (szRes_yes (left := left) (t := wCmd m) (by have h := HW.out; omega))
  go_wp2_with fail
  go_ret
  exact ⟨by rw [HV.out, HW.out]; go_num, hb0⟩

set_option maxHeartbeats 400000 in
theorem szRec_any (cs : List Value) (m : MRec) (left : Int) (w : World) (g0 : 0 ≤ left) (g1 : left ≤ 1048576) (hr : rRec w.heap.size w cs m) :
    Calls Try.prog 61 #[.agg cs.toArray, .int .i64 left] w fun e w' => e = .returned (.int .i64 (szRes left (wRec m))) ∧ Below w.heap.size w w' := by
  obtain ⟨a5, c5, rfl, h0, h1, h2, h3, h4, h5, h6, _⟩ := hr
  have HW : Hid (wRec m = m.fC.fKey.size + m.fC.fVal.size + (m.fDeps.length + sumW wDot m.fDeps)) := rfl
  have hb0 : Below w.heap.size w (w.alloc (.cells #[.int .i64 m.fD.fR, .int .i64 m.fD.fN, .int .i64 m.fC.fKind, .string m.fC.fKey, .string m.fC.fVal, .slice a5 m.fDeps.length c5, .bool m.fSure] 128)) := (Below.refl _ _).alloc (Nat.le_refl _) _
  go_enter Try.func61, Try.ntmps61
  have HS2 : Hid (wCmd m.fC = m.fC.fKey.size + m.fC.fVal.size) := rfl
  go_wp2_with fail
  refine (szCmd_any [.int .i64 m.fC.fKind, .string m.fC.fKey, .string m.fC.fVal] m.fC _ _ (by omega) (by omega) ⟨rfl, h2, h3, h4, trivial⟩).mono ?_
  rintro e w1 ⟨rfl, hx1⟩
  obtain ⟨hc1, hf1⟩ := bcell hx1
  have hz1 : w.heap.size < w1.heap.size := by have := hx1.size; simp at this; omega
  have hb1 := hb0.trans (hx1.mono hb0.size)
  by_cases hw2 : ((wCmd m.fC : Nat) : Int) ≤ left
  rotate_left
  · have HV : Hid (szRes left (wRec m) = -1) := szRes_no (by have h := HW.out; have h2_ := HS2.out; omega)
    rw [szRes_no hw2]
    go_wp2_with fail
    go_ret
    exact ⟨by rw [HV.out]; rfl, hb1⟩
  rw [szRes_yes hw2]
  have gb5 := h5.big
  go_wp2_with fail
  refine (szDotS_any a5 _ c5 m.fDeps _ _ rfl (by omega) (by omega) (by omega) (by exact (LeafL.mono rDot_good (h5.below rDot_good hb1) hb1.size).2.2)).mono ?_
  rintro e w2 ⟨rfl, hx2⟩
  obtain ⟨hc2, hf2⟩ := bcell hx2
  have hz2 : w.heap.size < w2.heap.size := Nat.lt_of_lt_of_le hz1 hx2.size
  have hb2 := hb1.trans (hx2.mono hb1.size)
  by_cases hw5 : ((m.fDeps.length + sumW wDot m.fDeps : Nat) : Int) ≤ left - (((wCmd m.fC : Nat) : Int))
  rotate_left
  · have HV : Hid (szRes left (wRec m) = -1) := szRes_no (by have h := HW.out; have h2_ := HS2.out; omega)
    rw [szRes_no hw5]
    go_wp2_with fail
    go_ret
    exact ⟨by rw [HV.out]; rfl, hb2⟩
  rw [szRes_yes hw5]
  have HV := Hid.mk (szRes_yes (left := left) (t := wRec m) (by have h := HW.out; have h2_ := HS2.out; omega))
  go_wp2_with fail
  go_ret
  exact ⟨by rw [HV.out, HW.out, ← HS2.out]; go_num, hb2⟩

set_option maxHeartbeats 400000 in
theorem szRecS_any (a : Option Addr) (n cap : Nat) (l : List MRec) (left : Int) (w : World) (hx : l.length = n) (g0 : 0 ≤ left) (g1 : left ≤ 1048576) (hn : n ≤ 9223372036854775807) (hr : RdS 7 rRec w.heap.size w a l) :
    Calls Try.prog 42 #[.slice a n cap, .int .i64 left] w fun e w' => e = .returned (.int .i64 (szRes left (l.length + sumW wRec l))) ∧ Below w.heap.size w w' := by
  have HX := Hid.mk hx
  rw [hx]
  clear hx
  by_cases h : (n : Int) ≤ left
  · go_enter Try.func42, Try.ntmps42
    go_wp2_with fail
    go_loopw [1, 5] (fun x i wr => ∃ k : Nat, k ≤ n ∧ i = .int .i64 k ∧ x = .int .i64 (left - n - sumW wRec (l.take k)) ∧ ((n + sumW wRec (l.take k) : Nat) : Int) ≤ left ∧ Below w.heap.size w wr) (fun _ i _ => n - (intOf i).toNat)
    case atStart => exact ⟨0, Nat.zero_le _, rfl, by simp [sumW], by simpa [sumW] using h, Below.refl _ _⟩
    case round =>
      obtain ⟨k, hk, rfl, rfl, hle, hbk⟩ := hrel
      by_cases hlt : k < n
      · have hkl : k < l.length := by rw [HX.out]; exact hlt
        have HS := Hid.mk (sumW_take_succ (f := wRec) hkl)
        have HLe := Hid.mk (sumW_take_le wRec l (k + 1))
        obtain ⟨b1, o1, rfl, hB, cs, hcl, hcell, hrT⟩ := (hr.below rRec_good hbk) k hkl
        generalize l[k] = m at *
        generalize sumW wRec (l.take k) = t at *
        have hrT' := rRec_good.mono hrT hbk.size
        obtain ⟨a5, c5, rfl, h0, h1, h2, h3, h4, h5, h6, _⟩ := hrT
        have k0 := hcell 0 _ rfl
        have k1 := hcell 1 _ rfl
        have k2 := hcell 2 _ rfl
        have k3 := hcell 3 _ rfl
        have k4 := hcell 4 _ rfl
        have k5 := hcell 5 _ rfl
        have k6 := hcell 6 _ rfl
        rw [Nat.add_zero] at k0
        clear hr hcell hcl
        go_wp2_with fail
        refine (szRec_any _ m _ wr (by omega) (by omega) hrT').mono ?_
        rintro e w1 ⟨rfl, hb1⟩
        have hb2 := hbk.trans (hb1.mono hbk.size)
        generalize wRec m = d at *
        by_cases hd : (d : Int) ≤ left - n - t
        · rw [szRes_yes hd]
          go_wp2_with fail
          go_roundw
          case rel => exact ⟨k + 1, by omega, by go_num, by rw [HS.out]; go_num, by rw [HS.out]; omega, hb2⟩
          case measure => simp [intOf]; omega
        · rw [szRes_no hd]
          have HV : Hid (szRes left (n + sumW wRec l) = -1) := szRes_no (by have h1 := HS.out; have h2 := HLe.out; omega)
          go_wp2_with fail
          go_ret
          exact ⟨by rw [HV.out]; rfl, hb2⟩
      · have hkn : k = n := by omega
        have HT : Hid (l.take k = l) := List.take_of_length_le (by rw [HX.out]; omega)
        rw [HT.out] at hle
        rw [HT.out]
        have HV := Hid.mk (szRes_yes hle)
        go_wp2_with fail
        go_ret
        exact ⟨by rw [HV.out]; go_num, hbk⟩
  · have HV : Hid (szRes left (n + sumW wRec l) = -1) := szRes_no (by omega)
    go_enter Try.func42, Try.ntmps42
    go_wp2_with fail
    go_ret
    exact ⟨by rw [HV.out]; rfl, Below.refl _ _⟩

theorem sumW_Ack0 (l : List MAck) : sumW wAck l = 0 := by
  induction l with
  | nil => rfl
  | cons a t ih => simp [sumW, wAck, ih]

set_option maxHeartbeats 400000 in
theorem szAckS_any (a : Option Addr) (n cap : Nat) (l : List MAck) (left : Int) (w : World) (hx : l.length = n) (g0 : 0 ≤ left) (g1 : left ≤ 1048576) (hn : n ≤ 9223372036854775807) (hr : RdS 3 rAck w.heap.size w a l) :
    Calls Try.prog 43 #[.slice a n cap, .int .i64 left] w fun e w' => e = .returned (.int .i64 (szRes left (l.length + sumW wAck l))) ∧ Below w.heap.size w w' := by
  rw [sumW_Ack0, hx, Nat.add_zero]
  clear hx hr
  by_cases h : (n : Int) ≤ left
  · have HV := Hid.mk (szRes_yes h)
    go_enter Try.func43, Try.ntmps43
    go_wp2_with fail
    go_ret
    exact ⟨by rw [HV.out]; rfl, Below.refl _ _⟩
  · have HV := Hid.mk (szRes_no h)
    go_enter Try.func43, Try.ntmps43
    go_wp2_with fail
    go_ret
    exact ⟨by rw [HV.out]; rfl, Below.refl _ _⟩

set_option maxHeartbeats 400000 in
theorem szPair_any (cs : List Value) (m : MPair) (left : Int) (w : World) (g0 : 0 ≤ left) (g1 : left ≤ 1048576) (hr : rPair w.heap.size w cs m) :
    Calls Try.prog 62 #[.agg cs.toArray, .int .i64 left] w fun e w' => e = .returned (.int .i64 (szRes left (wPair m))) ∧ Below w.heap.size w w' := by
  obtain ⟨rfl, h0, h1, h2, _⟩ := hr
  have HW : Hid (wPair m = m.fKey.size + m.fVal.size) := rfl
  have hb0 : Below w.heap.size w (w.alloc (.cells #[.string m.fKey, .string m.fVal, .bool m.fGone] 130)) := (Below.refl _ _).alloc (Nat.le_refl _) _
  go_enter Try.func62, Try.ntmps62
  by_cases hw0 : ((m.fKey.size : Nat) : Int) ≤ left
  rotate_left
  · have HV : Hid (szRes left (wPair m) = -1) := szRes_no (by have h := HW.out; omega)
    go_wp2_with fail
    go_ret
    exact ⟨by rw [HV.out]; rfl, hb0⟩
  by_cases hw1 : ((m.fVal.size : Nat) : Int) ≤ left - (((m.fKey.size : Nat) : Int))
  rotate_left
  · have HV : Hid (szRes left (wPair m) = -1) := szRes_no (by have h := HW.out; omega)
    go_wp2_with fail
    go_ret
    exact ⟨by rw [HV.out]; rfl, hb0⟩
  have HV := Hid.mk (szRes_yes (left := left) (t := wPair m) (by have h := HW.out; omega))
  go_wp2_with fail
  go_ret
  exact ⟨by rw [HV.out, HW.out]; go_num, hb0⟩

set_option maxHeartbeats 400000 in
theorem szPairS_any (a : Option Addr) (n cap : Nat) (l : List MPair) (left : Int) (w : World) (hx : l.length = n) (g0 : 0 ≤ left) (g1 : left ≤ 1048576) (hn : n ≤ 9223372036854775807) (hr : RdS 3 rPair w.heap.size w a l) :
    Calls Try.prog 45 #[.slice a n cap, .int .i64 left] w fun e w' => e = .returned (.int .i64 (szRes left (l.length + sumW wPair l))) ∧ Below w.heap.size w w' := by
  have HX := Hid.mk hx
  rw [hx]
  clear hx
  by_cases h : (n : Int) ≤ left
  · go_enter Try.func45, Try.ntmps45
    go_wp2_with fail
    go_loopw [1, 5] (fun x i wr => ∃ k : Nat, k ≤ n ∧ i = .int .i64 k ∧ x = .int .i64 (left - n - sumW wPair (l.take k)) ∧ ((n + sumW wPair (l.take k) : Nat) : Int) ≤ left ∧ Below w.heap.size w wr) (fun _ i _ => n - (intOf i).toNat)
    case atStart => exact ⟨0, Nat.zero_le _, rfl, by simp [sumW], by simpa [sumW] using h, Below.refl _ _⟩
    case round =>
      obtain ⟨k, hk, rfl, rfl, hle, hbk⟩ := hrel
      by_cases hlt : k < n
      · have hkl : k < l.length := by rw [HX.out]; exact hlt
        have HS := Hid.mk (sumW_take_succ (f := wPair) hkl)
        have HLe := Hid.mk (sumW_take_le wPair l (k + 1))
        obtain ⟨b1, o1, rfl, hB, cs, hcl, hcell, hrT⟩ := (hr.below rPair_good hbk) k hkl
        generalize l[k] = m at *
        generalize sumW wPair (l.take k) = t at *
        have hrT' := rPair_good.mono hrT hbk.size
        obtain ⟨rfl, h0, h1, h2, _⟩ := hrT
        have k0 := hcell 0 _ rfl
        have k1 := hcell 1 _ rfl
        have k2 := hcell 2 _ rfl
        rw [Nat.add_zero] at k0
        clear hr hcell hcl
        go_wp2_with fail
        refine (szPair_any _ m _ wr (by omega) (by omega) hrT').mono ?_
        rintro e w1 ⟨rfl, hb1⟩
        have hb2 := hbk.trans (hb1.mono hbk.size)
        generalize wPair m = d at *
        by_cases hd : (d : Int) ≤ left - n - t
        · rw [szRes_yes hd]
          go_wp2_with fail
          go_roundw
          case rel => exact ⟨k + 1, by omega, by go_num, by rw [HS.out]; go_num, by rw [HS.out]; omega, hb2⟩
          case measure => simp [intOf]; omega
        · rw [szRes_no hd]
          have HV : Hid (szRes left (n + sumW wPair l) = -1) := szRes_no (by have h1 := HS.out; have h2 := HLe.out; omega)
          go_wp2_with fail
          go_ret
          exact ⟨by rw [HV.out]; rfl, hb2⟩
      · have hkn : k = n := by omega
        have HT : Hid (l.take k = l) := List.take_of_length_le (by rw [HX.out]; omega)
        rw [HT.out] at hle
        rw [HT.out]
        have HV := Hid.mk (szRes_yes hle)
        go_wp2_with fail
        go_ret
        exact ⟨by rw [HV.out]; go_num, hbk⟩
  · have HV : Hid (szRes left (n + sumW wPair l) = -1) := szRes_no (by omega)
    go_enter Try.func45, Try.ntmps45
    go_wp2_with fail
    go_ret
    exact ⟨by rw [HV.out]; rfl, Below.refl _ _⟩

set_option maxHeartbeats 400000 in
theorem szAnswer_any (cs : List Value) (m : MAnswer) (left : Int) (w : World) (g0 : 0 ≤ left) (g1 : left ≤ 1048576) (hr : rAnswer w.heap.size w cs m) :
    Calls Try.prog 63 #[.agg cs.toArray, .int .i64 left] w fun e w' => e = .returned (.int .i64 (szRes left (wAnswer m))) ∧ Below w.heap.size w w' := by
  obtain ⟨rfl, h0, h1, h2, h3, _⟩ := hr
  have HW : Hid (wAnswer m = m.fVal.size) := rfl
  have hb0 : Below w.heap.size w (w.alloc (.cells #[.int .i64 m.fD.fR, .int .i64 m.fD.fN, .string m.fVal, .bool m.fHas] 133)) := (Below.refl _ _).alloc (Nat.le_refl _) _
  go_enter Try.func63, Try.ntmps63
  by_cases hw2 : ((m.fVal.size : Nat) : Int) ≤ left
  rotate_left
  · have HV : Hid (szRes left (wAnswer m) = -1) := szRes_no (by have h := HW.out; omega)
    go_wp2_with fail
    go_ret
    exact ⟨by rw [HV.out]; rfl, hb0⟩
  have HV := Hid.mk (szRes_yes (left := left) (t := wAnswer m) (by have h := HW.out; omega))
  go_wp2_with fail
  go_ret
  exact ⟨by rw [HV.out, HW.out]; go_num, hb0⟩

set_option maxHeartbeats 400000 in
theorem szAnswerS_any (a : Option Addr) (n cap : Nat) (l : List MAnswer) (left : Int) (w : World) (hx : l.length = n) (g0 : 0 ≤ left) (g1 : left ≤ 1048576) (hn : n ≤ 9223372036854775807) (hr : RdS 4 rAnswer w.heap.size w a l) :
    Calls Try.prog 46 #[.slice a n cap, .int .i64 left] w fun e w' => e = .returned (.int .i64 (szRes left (l.length + sumW wAnswer l))) ∧ Below w.heap.size w w' := by
  have HX := Hid.mk hx
  rw [hx]
  clear hx
  by_cases h : (n : Int) ≤ left
  · go_enter Try.func46, Try.ntmps46
    go_wp2_with fail
    go_loopw [1, 5] (fun x i wr => ∃ k : Nat, k ≤ n ∧ i = .int .i64 k ∧ x = .int .i64 (left - n - sumW wAnswer (l.take k)) ∧ ((n + sumW wAnswer (l.take k) : Nat) : Int) ≤ left ∧ Below w.heap.size w wr) (fun _ i _ => n - (intOf i).toNat)
    case atStart => exact ⟨0, Nat.zero_le _, rfl, by simp [sumW], by simpa [sumW] using h, Below.refl _ _⟩
    case round =>
      obtain ⟨k, hk, rfl, rfl, hle, hbk⟩ := hrel
      by_cases hlt : k < n
      · have hkl : k < l.length := by rw [HX.out]; exact hlt
        have HS := Hid.mk (sumW_take_succ (f := wAnswer) hkl)
        have HLe := Hid.mk (sumW_take_le wAnswer l (k + 1))
        obtain ⟨b1, o1, rfl, hB, cs, hcl, hcell, hrT⟩ := (hr.below rAnswer_good hbk) k hkl
        generalize l[k] = m at *
        generalize sumW wAnswer (l.take k) = t at *
        have hrT' := rAnswer_good.mono hrT hbk.size
        obtain ⟨rfl, h0, h1, h2, h3, _⟩ := hrT
        have k0 := hcell 0 _ rfl
        have k1 := hcell 1 _ rfl
        have k2 := hcell 2 _ rfl
        have k3 := hcell 3 _ rfl
        rw [Nat.add_zero] at k0
        clear hr hcell hcl
        go_wp2_with fail
        refine (szAnswer_any _ m _ wr (by omega) (by omega) hrT').mono ?_
        rintro e w1 ⟨rfl, hb1⟩
        have hb2 := hbk.trans (hb1.mono hbk.size)
        generalize wAnswer m = d at *
        by_cases hd : (d : Int) ≤ left - n - t
        · rw [szRes_yes hd]
          go_wp2_with fail
          go_roundw
          case rel => exact ⟨k + 1, by omega, by go_num, by rw [HS.out]; go_num, by rw [HS.out]; omega, hb2⟩
          case measure => simp [intOf]; omega
        · rw [szRes_no hd]
          have HV : Hid (szRes left (n + sumW wAnswer l) = -1) := szRes_no (by have h1 := HS.out; have h2 := HLe.out; omega)
          go_wp2_with fail
          go_ret
          exact ⟨by rw [HV.out]; rfl, hb2⟩
      · have hkn : k = n := by omega
        have HT : Hid (l.take k = l) := List.take_of_length_le (by rw [HX.out]; omega)
        rw [HT.out] at hle
        rw [HT.out]
        have HV := Hid.mk (szRes_yes hle)
        go_wp2_with fail
        go_ret
        exact ⟨by rw [HV.out]; go_num, hbk⟩
  · have HV : Hid (szRes left (n + sumW wAnswer l) = -1) := szRes_no (by omega)
    go_enter Try.func46, Try.ntmps46
    go_wp2_with fail
    go_ret
    exact ⟨by rw [HV.out]; rfl, Below.refl _ _⟩

set_option maxHeartbeats 400000 in
theorem szReplica_any (cs : List Value) (m : MReplica) (left : Int) (w : World) (g0 : 0 ≤ left) (g1 : left ≤ 1048576) (hr : rReplica w.heap.size w cs m) :
    Calls Try.prog 28 #[.agg cs.toArray, .int .i64 left] w fun e w' => e = .returned (.int .i64 (szRes left (wReplica m))) ∧ Below w.heap.size w w' := by
  obtain ⟨a3, c3, a4, c4, a5, c5, a6, c6, a7, c7, rfl, h0, h1, h2, h3, h4, h5, h6, h7, _⟩ := hr
  have HW : Hid (wReplica m = (m.fRecs.length + sumW wRec m.fRecs) + (m.fAcks.length + sumW wAck m.fAcks) + (m.fDone.length + sumW wDot m.fDone) + (m.fMap.length + sumW wPair m.fMap) + (m.fSaid.length + sumW wAnswer m.fSaid)) := rfl
  have hb0 : Below w.heap.size w (w.alloc (.cells #[.int .i64 m.fId, .int .i64 m.fN, .int .i64 m.fNext, .slice a3 m.fRecs.length c3, .slice a4 m.fAcks.length c4, .slice a5 m.fDone.length c5, .slice a6 m.fMap.length c6, .slice a7 m.fSaid.length c7] 71)) := (Below.refl _ _).alloc (Nat.le_refl _) _
  go_enter Try.func28, Try.ntmps28
  have gb3 := h3.big
  go_wp2_with fail
  refine (szRecS_any a3 _ c3 m.fRecs _ _ rfl (by omega) (by omega) (by omega) (by exact (LeafL.mono rRec_good (h3.below rRec_good hb0) hb0.size).2.2)).mono ?_
  rintro e w1 ⟨rfl, hx1⟩
  obtain ⟨hc1, hf1⟩ := bcell hx1
  have hz1 : w.heap.size < w1.heap.size := by have := hx1.size; simp at this; omega
  have hb1 := hb0.trans (hx1.mono hb0.size)
  by_cases hw3 : ((m.fRecs.length + sumW wRec m.fRecs : Nat) : Int) ≤ left
  rotate_left
  · have HV : Hid (szRes left (wReplica m) = -1) := szRes_no (by have h := HW.out; omega)
    rw [szRes_no hw3]
    go_wp2_with fail
    go_ret
    exact ⟨by rw [HV.out]; rfl, hb1⟩
  rw [szRes_yes hw3]
  have gb4 := h4.big
  go_wp2_with fail
  refine (szAckS_any a4 _ c4 m.fAcks _ _ rfl (by omega) (by omega) (by omega) (by exact (LeafL.mono rAck_good (h4.below rAck_good hb1) hb1.size).2.2)).mono ?_
  rintro e w2 ⟨rfl, hx2⟩
  obtain ⟨hc2, hf2⟩ := bcell hx2
  have hz2 : w.heap.size < w2.heap.size := Nat.lt_of_lt_of_le hz1 hx2.size
  have hb2 := hb1.trans (hx2.mono hb1.size)
  by_cases hw4 : ((m.fAcks.length + sumW wAck m.fAcks : Nat) : Int) ≤ left - (((m.fRecs.length : Nat) : Int) + ((sumW wRec m.fRecs : Nat) : Int))
  rotate_left
  · have HV : Hid (szRes left (wReplica m) = -1) := szRes_no (by have h := HW.out; omega)
    rw [szRes_no hw4]
    go_wp2_with fail
    go_ret
    exact ⟨by rw [HV.out]; rfl, hb2⟩
  rw [szRes_yes hw4]
  have gb5 := h5.big
  go_wp2_with fail
  refine (szDotS_any a5 _ c5 m.fDone _ _ rfl (by omega) (by omega) (by omega) (by exact (LeafL.mono rDot_good (h5.below rDot_good hb2) hb2.size).2.2)).mono ?_
  rintro e w3 ⟨rfl, hx3⟩
  obtain ⟨hc3, hf3⟩ := bcell hx3
  have hz3 : w.heap.size < w3.heap.size := Nat.lt_of_lt_of_le hz2 hx3.size
  have hb3 := hb2.trans (hx3.mono hb2.size)
  by_cases hw5 : ((m.fDone.length + sumW wDot m.fDone : Nat) : Int) ≤ left - (((m.fRecs.length : Nat) : Int) + ((sumW wRec m.fRecs : Nat) : Int)) - (((m.fAcks.length : Nat) : Int) + ((sumW wAck m.fAcks : Nat) : Int))
  rotate_left
  · have HV : Hid (szRes left (wReplica m) = -1) := szRes_no (by have h := HW.out; omega)
    rw [szRes_no hw5]
    go_wp2_with fail
    go_ret
    exact ⟨by rw [HV.out]; rfl, hb3⟩
  rw [szRes_yes hw5]
  have gb6 := h6.big
  go_wp2_with fail
  refine (szPairS_any a6 _ c6 m.fMap _ _ rfl (by omega) (by omega) (by omega) (by exact (LeafL.mono rPair_good (h6.below rPair_good hb3) hb3.size).2.2)).mono ?_
  rintro e w4 ⟨rfl, hx4⟩
  obtain ⟨hc4, hf4⟩ := bcell hx4
  have hz4 : w.heap.size < w4.heap.size := Nat.lt_of_lt_of_le hz3 hx4.size
  have hb4 := hb3.trans (hx4.mono hb3.size)
  by_cases hw6 : ((m.fMap.length + sumW wPair m.fMap : Nat) : Int) ≤ left - (((m.fRecs.length : Nat) : Int) + ((sumW wRec m.fRecs : Nat) : Int)) - (((m.fAcks.length : Nat) : Int) + ((sumW wAck m.fAcks : Nat) : Int)) - (((m.fDone.length : Nat) : Int) + ((sumW wDot m.fDone : Nat) : Int))
  rotate_left
  · have HV : Hid (szRes left (wReplica m) = -1) := szRes_no (by have h := HW.out; omega)
    rw [szRes_no hw6]
    go_wp2_with fail
    go_ret
    exact ⟨by rw [HV.out]; rfl, hb4⟩
  rw [szRes_yes hw6]
  have gb7 := h7.big
  go_wp2_with fail
  refine (szAnswerS_any a7 _ c7 m.fSaid _ _ rfl (by omega) (by omega) (by omega) (by exact (LeafL.mono rAnswer_good (h7.below rAnswer_good hb4) hb4.size).2.2)).mono ?_
  rintro e w5 ⟨rfl, hx5⟩
  obtain ⟨hc5, hf5⟩ := bcell hx5
  have hz5 : w.heap.size < w5.heap.size := Nat.lt_of_lt_of_le hz4 hx5.size
  have hb5 := hb4.trans (hx5.mono hb4.size)
  by_cases hw7 : ((m.fSaid.length + sumW wAnswer m.fSaid : Nat) : Int) ≤ left - (((m.fRecs.length : Nat) : Int) + ((sumW wRec m.fRecs : Nat) : Int)) - (((m.fAcks.length : Nat) : Int) + ((sumW wAck m.fAcks : Nat) : Int)) - (((m.fDone.length : Nat) : Int) + ((sumW wDot m.fDone : Nat) : Int)) - (((m.fMap.length : Nat) : Int) + ((sumW wPair m.fMap : Nat) : Int))
  rotate_left
  · have HV : Hid (szRes left (wReplica m) = -1) := szRes_no (by have h := HW.out; omega)
    rw [szRes_no hw7]
    go_wp2_with fail
    go_ret
    exact ⟨by rw [HV.out]; rfl, hb5⟩
  rw [szRes_yes hw7]
  have HV := Hid.mk (szRes_yes (left := left) (t := wReplica m) (by have h := HW.out; omega))
  go_wp2_with fail
  go_ret
  exact ⟨by rw [HV.out, HW.out]; go_num, hb5⟩

set_option maxHeartbeats 400000 in
theorem szReplicaS_any (a : Option Addr) (n cap : Nat) (l : List MReplica) (left : Int) (w : World) (hx : l.length = n) (g0 : 0 ≤ left) (g1 : left ≤ 1048576) (hn : n ≤ 9223372036854775807) (hr : RdS 8 rReplica w.heap.size w a l) :
    Calls Try.prog 13 #[.slice a n cap, .int .i64 left] w fun e w' => e = .returned (.int .i64 (szRes left (l.length + sumW wReplica l))) ∧ Below w.heap.size w w' := by
  have HX := Hid.mk hx
  rw [hx]
  clear hx
  by_cases h : (n : Int) ≤ left
  · go_enter Try.func13, Try.ntmps13
    go_wp2_with fail
    go_loopw [1, 5] (fun x i wr => ∃ k : Nat, k ≤ n ∧ i = .int .i64 k ∧ x = .int .i64 (left - n - sumW wReplica (l.take k)) ∧ ((n + sumW wReplica (l.take k) : Nat) : Int) ≤ left ∧ Below w.heap.size w wr) (fun _ i _ => n - (intOf i).toNat)
    case atStart => exact ⟨0, Nat.zero_le _, rfl, by simp [sumW], by simpa [sumW] using h, Below.refl _ _⟩
    case round =>
      obtain ⟨k, hk, rfl, rfl, hle, hbk⟩ := hrel
      by_cases hlt : k < n
      · have hkl : k < l.length := by rw [HX.out]; exact hlt
        have HS := Hid.mk (sumW_take_succ (f := wReplica) hkl)
        have HLe := Hid.mk (sumW_take_le wReplica l (k + 1))
        obtain ⟨b1, o1, rfl, hB, cs, hcl, hcell, hrT⟩ := (hr.below rReplica_good hbk) k hkl
        generalize l[k] = m at *
        generalize sumW wReplica (l.take k) = t at *
        have hrT' := rReplica_good.mono hrT hbk.size
        obtain ⟨a3, c3, a4, c4, a5, c5, a6, c6, a7, c7, rfl, h0, h1, h2, h3, h4, h5, h6, h7, _⟩ := hrT
        have k0 := hcell 0 _ rfl
        have k1 := hcell 1 _ rfl
        have k2 := hcell 2 _ rfl
        have k3 := hcell 3 _ rfl
        have k4 := hcell 4 _ rfl
        have k5 := hcell 5 _ rfl
        have k6 := hcell 6 _ rfl
        have k7 := hcell 7 _ rfl
        rw [Nat.add_zero] at k0
        clear hr hcell hcl
        go_wp2_with fail
        refine (szReplica_any _ m _ wr (by omega) (by omega) hrT').mono ?_
        rintro e w1 ⟨rfl, hb1⟩
        have hb2 := hbk.trans (hb1.mono hbk.size)
        generalize wReplica m = d at *
        by_cases hd : (d : Int) ≤ left - n - t
        · rw [szRes_yes hd]
          go_wp2_with fail
          go_roundw
          case rel => exact ⟨k + 1, by omega, by go_num, by rw [HS.out]; go_num, by rw [HS.out]; omega, hb2⟩
          case measure => simp [intOf]; omega
        · rw [szRes_no hd]
          have HV : Hid (szRes left (n + sumW wReplica l) = -1) := szRes_no (by have h1 := HS.out; have h2 := HLe.out; omega)
          go_wp2_with fail
          go_ret
          exact ⟨by rw [HV.out]; rfl, hb2⟩
      · have hkn : k = n := by omega
        have HT : Hid (l.take k = l) := List.take_of_length_le (by rw [HX.out]; omega)
        rw [HT.out] at hle
        rw [HT.out]
        have HV := Hid.mk (szRes_yes hle)
        go_wp2_with fail
        go_ret
        exact ⟨by rw [HV.out]; go_num, hbk⟩
  · have HV : Hid (szRes left (n + sumW wReplica l) = -1) := szRes_no (by omega)
    go_enter Try.func13, Try.ntmps13
    go_wp2_with fail
    go_ret
    exact ⟨by rw [HV.out]; rfl, Below.refl _ _⟩

set_option maxHeartbeats 400000 in
theorem szMsg_any (cs : List Value) (m : MMsg) (left : Int) (w : World) (g0 : 0 ≤ left) (g1 : left ≤ 1048576) (hr : rMsg w.heap.size w cs m) :
    Calls Try.prog 29 #[.agg cs.toArray, .int .i64 left] w fun e w' => e = .returned (.int .i64 (szRes left (wMsg m))) ∧ Below w.heap.size w w' := by
  obtain ⟨a8, c8, rfl, h0, h1, h2, h3, h4, h5, h6, h7, h8, _⟩ := hr
  have HW : Hid (wMsg m = m.fC.fKey.size + m.fC.fVal.size + (m.fDeps.length + sumW wDot m.fDeps)) := rfl
  have hb0 : Below w.heap.size w (w.alloc (.cells #[.int .i64 m.fKind, .int .i64 m.fFrom, .int .i64 m.fTo, .int .i64 m.fD.fR, .int .i64 m.fD.fN, .int .i64 m.fC.fKind, .string m.fC.fKey, .string m.fC.fVal, .slice a8 m.fDeps.length c8] 78)) := (Below.refl _ _).alloc (Nat.le_refl _) _
  go_enter Try.func29, Try.ntmps29
  have HS5 : Hid (wCmd m.fC = m.fC.fKey.size + m.fC.fVal.size) := rfl
  go_wp2_with fail
  refine (szCmd_any [.int .i64 m.fC.fKind, .string m.fC.fKey, .string m.fC.fVal] m.fC _ _ (by omega) (by omega) ⟨rfl, h5, h6, h7, trivial⟩).mono ?_
  rintro e w1 ⟨rfl, hx1⟩
  obtain ⟨hc1, hf1⟩ := bcell hx1
  have hz1 : w.heap.size < w1.heap.size := by have := hx1.size; simp at this; omega
  have hb1 := hb0.trans (hx1.mono hb0.size)
  by_cases hw5 : ((wCmd m.fC : Nat) : Int) ≤ left
  rotate_left
  · have HV : Hid (szRes left (wMsg m) = -1) := szRes_no (by have h := HW.out; have h5_ := HS5.out; omega)
    rw [szRes_no hw5]
    go_wp2_with fail
    go_ret
    exact ⟨by rw [HV.out]; rfl, hb1⟩
  rw [szRes_yes hw5]
  have gb8 := h8.big
  go_wp2_with fail
  refine (szDotS_any a8 _ c8 m.fDeps _ _ rfl (by omega) (by omega) (by omega) (by exact (LeafL.mono rDot_good (h8.below rDot_good hb1) hb1.size).2.2)).mono ?_
  rintro e w2 ⟨rfl, hx2⟩
  obtain ⟨hc2, hf2⟩ := bcell hx2
  have hz2 : w.heap.size < w2.heap.size := Nat.lt_of_lt_of_le hz1 hx2.size
  have hb2 := hb1.trans (hx2.mono hb1.size)
  by_cases hw8 : ((m.fDeps.length + sumW wDot m.fDeps : Nat) : Int) ≤ left - (((wCmd m.fC : Nat) : Int))
  rotate_left
  · have HV : Hid (szRes left (wMsg m) = -1) := szRes_no (by have h := HW.out; have h5_ := HS5.out; omega)
    rw [szRes_no hw8]
    go_wp2_with fail
    go_ret
    exact ⟨by rw [HV.out]; rfl, hb2⟩
  rw [szRes_yes hw8]
  have HV := Hid.mk (szRes_yes (left := left) (t := wMsg m) (by have h := HW.out; have h5_ := HS5.out; omega))
  go_wp2_with fail
  go_ret
  exact ⟨by rw [HV.out, HW.out, ← HS5.out]; go_num, hb2⟩

set_option maxHeartbeats 400000 in
theorem szMsgS_any (a : Option Addr) (n cap : Nat) (l : List MMsg) (left : Int) (w : World) (hx : l.length = n) (g0 : 0 ≤ left) (g1 : left ≤ 1048576) (hn : n ≤ 9223372036854775807) (hr : RdS 9 rMsg w.heap.size w a l) :
    Calls Try.prog 14 #[.slice a n cap, .int .i64 left] w fun e w' => e = .returned (.int .i64 (szRes left (l.length + sumW wMsg l))) ∧ Below w.heap.size w w' := by
  have HX := Hid.mk hx
  rw [hx]
  clear hx
  by_cases h : (n : Int) ≤ left
  · go_enter Try.func14, Try.ntmps14
    go_wp2_with fail
    go_loopw [1, 5] (fun x i wr => ∃ k : Nat, k ≤ n ∧ i = .int .i64 k ∧ x = .int .i64 (left - n - sumW wMsg (l.take k)) ∧ ((n + sumW wMsg (l.take k) : Nat) : Int) ≤ left ∧ Below w.heap.size w wr) (fun _ i _ => n - (intOf i).toNat)
    case atStart => exact ⟨0, Nat.zero_le _, rfl, by simp [sumW], by simpa [sumW] using h, Below.refl _ _⟩
    case round =>
      obtain ⟨k, hk, rfl, rfl, hle, hbk⟩ := hrel
      by_cases hlt : k < n
      · have hkl : k < l.length := by rw [HX.out]; exact hlt
        have HS := Hid.mk (sumW_take_succ (f := wMsg) hkl)
        have HLe := Hid.mk (sumW_take_le wMsg l (k + 1))
        obtain ⟨b1, o1, rfl, hB, cs, hcl, hcell, hrT⟩ := (hr.below rMsg_good hbk) k hkl
        generalize l[k] = m at *
        generalize sumW wMsg (l.take k) = t at *
        have hrT' := rMsg_good.mono hrT hbk.size
        obtain ⟨a8, c8, rfl, h0, h1, h2, h3, h4, h5, h6, h7, h8, _⟩ := hrT
        have k0 := hcell 0 _ rfl
        have k1 := hcell 1 _ rfl
        have k2 := hcell 2 _ rfl
        have k3 := hcell 3 _ rfl
        have k4 := hcell 4 _ rfl
        have k5 := hcell 5 _ rfl
        have k6 := hcell 6 _ rfl
        have k7 := hcell 7 _ rfl
        have k8 := hcell 8 _ rfl
        rw [Nat.add_zero] at k0
        clear hr hcell hcl
        go_wp2_with fail
        refine (szMsg_any _ m _ wr (by omega) (by omega) hrT').mono ?_
        rintro e w1 ⟨rfl, hb1⟩
        have hb2 := hbk.trans (hb1.mono hbk.size)
        generalize wMsg m = d at *
        by_cases hd : (d : Int) ≤ left - n - t
        · rw [szRes_yes hd]
          go_wp2_with fail
          go_roundw
          case rel => exact ⟨k + 1, by omega, by go_num, by rw [HS.out]; go_num, by rw [HS.out]; omega, hb2⟩
          case measure => simp [intOf]; omega
        · rw [szRes_no hd]
          have HV : Hid (szRes left (n + sumW wMsg l) = -1) := szRes_no (by have h1 := HS.out; have h2 := HLe.out; omega)
          go_wp2_with fail
          go_ret
          exact ⟨by rw [HV.out]; rfl, hb2⟩
      · have hkn : k = n := by omega
        have HT : Hid (l.take k = l) := List.take_of_length_le (by rw [HX.out]; omega)
        rw [HT.out] at hle
        rw [HT.out]
        have HV := Hid.mk (szRes_yes hle)
        go_wp2_with fail
        go_ret
        exact ⟨by rw [HV.out]; go_num, hbk⟩
  · have HV : Hid (szRes left (n + sumW wMsg l) = -1) := szRes_no (by omega)
    go_enter Try.func14, Try.ntmps14
    go_wp2_with fail
    go_ret
    exact ⟨by rw [HV.out]; rfl, Below.refl _ _⟩

set_option maxHeartbeats 400000 in
theorem szAsked_any (cs : List Value) (m : MAsked) (left : Int) (w : World) (g0 : 0 ≤ left) (g1 : left ≤ 1048576) (hr : rAsked w.heap.size w cs m) :
    Calls Try.prog 30 #[.agg cs.toArray, .int .i64 left] w fun e w' => e = .returned (.int .i64 (szRes left (wAsked m))) ∧ Below w.heap.size w w' := by
  obtain ⟨a5, c5, rfl, h0, h1, h2, h3, h4, h5, _⟩ := hr
  have HW : Hid (wAsked m = m.fC.fKey.size + m.fC.fVal.size + (m.fBefore.length + sumW wDot m.fBefore)) := rfl
  have hb0 : Below w.heap.size w (w.alloc (.cells #[.int .i64 m.fD.fR, .int .i64 m.fD.fN, .int .i64 m.fC.fKind, .string m.fC.fKey, .string m.fC.fVal, .slice a5 m.fBefore.length c5] 81)) := (Below.refl _ _).alloc (Nat.le_refl _) _
  go_enter Try.func30, Try.ntmps30
  have HS2 : Hid (wCmd m.fC = m.fC.fKey.size + m.fC.fVal.size) := rfl
  go_wp2_with fail
  refine (szCmd_any [.int .i64 m.fC.fKind, .string m.fC.fKey, .string m.fC.fVal] m.fC _ _ (by omega) (by omega) ⟨rfl, h2, h3, h4, trivial⟩).mono ?_
  rintro e w1 ⟨rfl, hx1⟩
  obtain ⟨hc1, hf1⟩ := bcell hx1
  have hz1 : w.heap.size < w1.heap.size := by have := hx1.size; simp at this; omega
  have hb1 := hb0.trans (hx1.mono hb0.size)
  by_cases hw2 : ((wCmd m.fC : Nat) : Int) ≤ left
  rotate_left
  · have HV : Hid (szRes left (wAsked m) = -1) := szRes_no (by have h := HW.out; have h2_ := HS2.out; omega)
    rw [szRes_no hw2]
    go_wp2_with fail
    go_ret
    exact ⟨by rw [HV.out]; rfl, hb1⟩
  rw [szRes_yes hw2]
  have gb5 := h5.big
  go_wp2_with fail
  refine (szDotS_any a5 _ c5 m.fBefore _ _ rfl (by omega) (by omega) (by omega) (by exact (LeafL.mono rDot_good (h5.below rDot_good hb1) hb1.size).2.2)).mono ?_
  rintro e w2 ⟨rfl, hx2⟩
  obtain ⟨hc2, hf2⟩ := bcell hx2
  have hz2 : w.heap.size < w2.heap.size := Nat.lt_of_lt_of_le hz1 hx2.size
  have hb2 := hb1.trans (hx2.mono hb1.size)
  by_cases hw5 : ((m.fBefore.length + sumW wDot m.fBefore : Nat) : Int) ≤ left - (((wCmd m.fC : Nat) : Int))
  rotate_left
  · have HV : Hid (szRes left (wAsked m) = -1) := szRes_no (by have h := HW.out; have h2_ := HS2.out; omega)
    rw [szRes_no hw5]
    go_wp2_with fail
    go_ret
    exact ⟨by rw [HV.out]; rfl, hb2⟩
  rw [szRes_yes hw5]
  have HV := Hid.mk (szRes_yes (left := left) (t := wAsked m) (by have h := HW.out; have h2_ := HS2.out; omega))
  go_wp2_with fail
  go_ret
  exact ⟨by rw [HV.out, HW.out, ← HS2.out]; go_num, hb2⟩

set_option maxHeartbeats 400000 in
theorem szAskedS_any (a : Option Addr) (n cap : Nat) (l : List MAsked) (left : Int) (w : World) (hx : l.length = n) (g0 : 0 ≤ left) (g1 : left ≤ 1048576) (hn : n ≤ 9223372036854775807) (hr : RdS 6 rAsked w.heap.size w a l) :
    Calls Try.prog 15 #[.slice a n cap, .int .i64 left] w fun e w' => e = .returned (.int .i64 (szRes left (l.length + sumW wAsked l))) ∧ Below w.heap.size w w' := by
  have HX := Hid.mk hx
  rw [hx]
  clear hx
  by_cases h : (n : Int) ≤ left
  · go_enter Try.func15, Try.ntmps15
    go_wp2_with fail
    go_loopw [1, 5] (fun x i wr => ∃ k : Nat, k ≤ n ∧ i = .int .i64 k ∧ x = .int .i64 (left - n - sumW wAsked (l.take k)) ∧ ((n + sumW wAsked (l.take k) : Nat) : Int) ≤ left ∧ Below w.heap.size w wr) (fun _ i _ => n - (intOf i).toNat)
    case atStart => exact ⟨0, Nat.zero_le _, rfl, by simp [sumW], by simpa [sumW] using h, Below.refl _ _⟩
    case round =>
      obtain ⟨k, hk, rfl, rfl, hle, hbk⟩ := hrel
      by_cases hlt : k < n
      · have hkl : k < l.length := by rw [HX.out]; exact hlt
        have HS := Hid.mk (sumW_take_succ (f := wAsked) hkl)
        have HLe := Hid.mk (sumW_take_le wAsked l (k + 1))
        obtain ⟨b1, o1, rfl, hB, cs, hcl, hcell, hrT⟩ := (hr.below rAsked_good hbk) k hkl
        generalize l[k] = m at *
        generalize sumW wAsked (l.take k) = t at *
        have hrT' := rAsked_good.mono hrT hbk.size
        obtain ⟨a5, c5, rfl, h0, h1, h2, h3, h4, h5, _⟩ := hrT
        have k0 := hcell 0 _ rfl
        have k1 := hcell 1 _ rfl
        have k2 := hcell 2 _ rfl
        have k3 := hcell 3 _ rfl
        have k4 := hcell 4 _ rfl
        have k5 := hcell 5 _ rfl
        rw [Nat.add_zero] at k0
        clear hr hcell hcl
        go_wp2_with fail
        refine (szAsked_any _ m _ wr (by omega) (by omega) hrT').mono ?_
        rintro e w1 ⟨rfl, hb1⟩
        have hb2 := hbk.trans (hb1.mono hbk.size)
        generalize wAsked m = d at *
        by_cases hd : (d : Int) ≤ left - n - t
        · rw [szRes_yes hd]
          go_wp2_with fail
          go_roundw
          case rel => exact ⟨k + 1, by omega, by go_num, by rw [HS.out]; go_num, by rw [HS.out]; omega, hb2⟩
          case measure => simp [intOf]; omega
        · rw [szRes_no hd]
          have HV : Hid (szRes left (n + sumW wAsked l) = -1) := szRes_no (by have h1 := HS.out; have h2 := HLe.out; omega)
          go_wp2_with fail
          go_ret
          exact ⟨by rw [HV.out]; rfl, hb2⟩
      · have hkn : k = n := by omega
        have HT : Hid (l.take k = l) := List.take_of_length_le (by rw [HX.out]; omega)
        rw [HT.out] at hle
        rw [HT.out]
        have HV := Hid.mk (szRes_yes hle)
        go_wp2_with fail
        go_ret
        exact ⟨by rw [HV.out]; go_num, hbk⟩
  · have HV : Hid (szRes left (n + sumW wAsked l) = -1) := szRes_no (by omega)
    go_enter Try.func15, Try.ntmps15
    go_wp2_with fail
    go_ret
    exact ⟨by rw [HV.out]; rfl, Below.refl _ _⟩

set_option maxHeartbeats 400000 in
theorem szCluster_any (cs : List Value) (m : MCluster) (left : Int) (w : World) (g0 : 0 ≤ left) (g1 : left ≤ 1048576) (hr : rCluster w.heap.size w cs m) :
    Calls Try.prog 4 #[.agg cs.toArray, .int .i64 left] w fun e w' => e = .returned (.int .i64 (szRes left (wCluster m))) ∧ Below w.heap.size w w' := by
  obtain ⟨a0, c0, a1, c1, a2, c2, rfl, h0, h1, h2, _⟩ := hr
  have HW : Hid (wCluster m = (m.fReps.length + sumW wReplica m.fReps) + (m.fNet.length + sumW wMsg m.fNet) + (m.fAsked.length + sumW wAsked m.fAsked)) := rfl
  have hb0 : Below w.heap.size w (w.alloc (.cells #[.slice a0 m.fReps.length c0, .slice a1 m.fNet.length c1, .slice a2 m.fAsked.length c2] 26)) := (Below.refl _ _).alloc (Nat.le_refl _) _
  go_enter Try.func4, Try.ntmps4
  have gb0 := h0.big
  go_wp2_with fail
  refine (szReplicaS_any a0 _ c0 m.fReps _ _ rfl (by omega) (by omega) (by omega) (by exact (LeafL.mono rReplica_good (h0.below rReplica_good hb0) hb0.size).2.2)).mono ?_
  rintro e w1 ⟨rfl, hx1⟩
  obtain ⟨hc1, hf1⟩ := bcell hx1
  have hz1 : w.heap.size < w1.heap.size := by have := hx1.size; simp at this; omega
  have hb1 := hb0.trans (hx1.mono hb0.size)
  by_cases hw0 : ((m.fReps.length + sumW wReplica m.fReps : Nat) : Int) ≤ left
  rotate_left
  · have HV : Hid (szRes left (wCluster m) = -1) := szRes_no (by have h := HW.out; omega)
    rw [szRes_no hw0]
    go_wp2_with fail
    go_ret
    exact ⟨by rw [HV.out]; rfl, hb1⟩
  rw [szRes_yes hw0]
  have gb1 := h1.big
  go_wp2_with fail
  refine (szMsgS_any a1 _ c1 m.fNet _ _ rfl (by omega) (by omega) (by omega) (by exact (LeafL.mono rMsg_good (h1.below rMsg_good hb1) hb1.size).2.2)).mono ?_
  rintro e w2 ⟨rfl, hx2⟩
  obtain ⟨hc2, hf2⟩ := bcell hx2
  have hz2 : w.heap.size < w2.heap.size := Nat.lt_of_lt_of_le hz1 hx2.size
  have hb2 := hb1.trans (hx2.mono hb1.size)
  by_cases hw1 : ((m.fNet.length + sumW wMsg m.fNet : Nat) : Int) ≤ left - (((m.fReps.length : Nat) : Int) + ((sumW wReplica m.fReps : Nat) : Int))
  rotate_left
  · have HV : Hid (szRes left (wCluster m) = -1) := szRes_no (by have h := HW.out; omega)
    rw [szRes_no hw1]
    go_wp2_with fail
    go_ret
    exact ⟨by rw [HV.out]; rfl, hb2⟩
  rw [szRes_yes hw1]
  have gb2 := h2.big
  go_wp2_with fail
  refine (szAskedS_any a2 _ c2 m.fAsked _ _ rfl (by omega) (by omega) (by omega) (by exact (LeafL.mono rAsked_good (h2.below rAsked_good hb2) hb2.size).2.2)).mono ?_
  rintro e w3 ⟨rfl, hx3⟩
  obtain ⟨hc3, hf3⟩ := bcell hx3
  have hz3 : w.heap.size < w3.heap.size := Nat.lt_of_lt_of_le hz2 hx3.size
  have hb3 := hb2.trans (hx3.mono hb2.size)
  by_cases hw2 : ((m.fAsked.length + sumW wAsked m.fAsked : Nat) : Int) ≤ left - (((m.fReps.length : Nat) : Int) + ((sumW wReplica m.fReps : Nat) : Int)) - (((m.fNet.length : Nat) : Int) + ((sumW wMsg m.fNet : Nat) : Int))
  rotate_left
  · have HV : Hid (szRes left (wCluster m) = -1) := szRes_no (by have h := HW.out; omega)
    rw [szRes_no hw2]
    go_wp2_with fail
    go_ret
    exact ⟨by rw [HV.out]; rfl, hb3⟩
  rw [szRes_yes hw2]
  have HV := Hid.mk (szRes_yes (left := left) (t := wCluster m) (by have h := HW.out; omega))
  go_wp2_with fail
  go_ret
  exact ⟨by rw [HV.out, HW.out]; go_num, hb3⟩

end Go.Proofs.Ytembioiaeimegaa
