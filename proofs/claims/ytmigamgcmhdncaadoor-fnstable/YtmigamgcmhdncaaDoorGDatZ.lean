/-
  What the laws reckon that their arguments weigh.
-/
import Derived.Test.YtmigamgcmhdncaaDoorRows
import Derived.Test.YtmigamgcmhdncaaDoorKit
import Derived.Test.YtmigamgcmhdncaaDoorDatN
import Derived.Test.YtmigamgcmhdncaaDoorChecked
import Derived.Test.YtmigamgcmhdncaaDoorGDat
namespace Go.Proofs.YtmigamgcmhdncaaDoor
open Go.RowKit
set_option linter.unusedVariables false

theorem sumW_Dot0 (l : List MDot) : sumW wDot l = 0 := by
  induction l with
  | nil => rfl
  | cons a t ih => simp [sumW, wDot, ih]

set_option maxHeartbeats 400000 in
theorem szDotS_any (a : Option Addr) (n cap : Nat) (l : List MDot) (left : Int) (w : World) (hx : l.length = n) (g0 : 0 ≤ left) (g1 : left ≤ 1048576) (hn : n ≤ 9223372036854775807) (hr : RdS 2 rDot w.heap.size w a l) :
    Calls Tryd.prog 86 #[.slice a n cap, .int .i64 left] w fun e w' => e = .returned (.int .i64 (szRes left (l.length + sumW wDot l))) ∧ Below w.heap.size w w' := by
  rw [sumW_Dot0, hx, Nat.add_zero]
  clear hx hr
  by_cases h : (n : Int) ≤ left
  · have HV := Hid.mk (szRes_yes h)
    go_enter Tryd.func86, Tryd.ntmps86
    go_wp2_with fail
    go_ret
    exact ⟨by rw [HV.out]; rfl, Below.refl _ _⟩
  · have HV := Hid.mk (szRes_no h)
    go_enter Tryd.func86, Tryd.ntmps86
    go_wp2_with fail
    go_ret
    exact ⟨by rw [HV.out]; rfl, Below.refl _ _⟩

set_option maxHeartbeats 400000 in
theorem szItem_any (cs : List Value) (m : MItem) (left : Int) (w : World) (g0 : 0 ≤ left) (g1 : left ≤ 1048576) (hr : rItem w.heap.size w cs m) :
    Calls Tryd.prog 61 #[.agg cs.toArray, .int .i64 left] w fun e w' => e = .returned (.int .i64 (szRes left (wItem m))) ∧ Below w.heap.size w w' := by
  obtain ⟨a2, c2, rfl, h0, h1, h2, _⟩ := hr
  have HW : Hid (wItem m = (m.fDeps.length + sumW wDot m.fDeps)) := rfl
  have hb0 : Below w.heap.size w (w.alloc (.cells #[.int .i64 m.fD.fR, .int .i64 m.fD.fN, .slice a2 m.fDeps.length c2] 95)) := (Below.refl _ _).alloc (Nat.le_refl _) _
  go_enter Tryd.func61, Tryd.ntmps61
  have gb2 := h2.big
  go_wp2_with fail
  refine (szDotS_any a2 _ c2 m.fDeps _ _ rfl (by omega) (by omega) (by omega) (by exact (LeafL.mono rDot_good (h2.below rDot_good hb0) hb0.size).2.2)).mono ?_
  rintro e w1 ⟨rfl, hx1⟩
  obtain ⟨hc1, hf1⟩ := bcell hx1
  have hz1 : w.heap.size < w1.heap.size := by have := hx1.size; simp at this; omega
  have hb1 := hb0.trans (hx1.mono hb0.size)
  by_cases hw2 : ((m.fDeps.length + sumW wDot m.fDeps : Nat) : Int) ≤ left
  rotate_left
  · have HV : Hid (szRes left (wItem m) = -1) := szRes_no (by have h := HW.out; omega)
    rw [szRes_no hw2]
    go_wp2_with fail
    go_ret
    exact ⟨by rw [HV.out]; rfl, hb1⟩
  rw [szRes_yes hw2]
  have HV := Hid.mk (szRes_yes (left := left) (t := wItem m) (by have h := HW.out; omega))
  go_wp2_with fail
  go_ret
  exact ⟨by rw [HV.out, HW.out]; go_num, hb1⟩

set_option maxHeartbeats 400000 in
theorem szItemS_any (a : Option Addr) (n cap : Nat) (l : List MItem) (left : Int) (w : World) (hx : l.length = n) (g0 : 0 ≤ left) (g1 : left ≤ 1048576) (hn : n ≤ 9223372036854775807) (hr : RdS 3 rItem w.heap.size w a l) :
    Calls Tryd.prog 33 #[.slice a n cap, .int .i64 left] w fun e w' => e = .returned (.int .i64 (szRes left (l.length + sumW wItem l))) ∧ Below w.heap.size w w' := by
  have HX := Hid.mk hx
  rw [hx]
  clear hx
  by_cases h : (n : Int) ≤ left
  · go_enter Tryd.func33, Tryd.ntmps33
    go_wp2_with fail
    go_loopw [1, 5] (fun x i wr => ∃ k : Nat, k ≤ n ∧ i = .int .i64 k ∧ x = .int .i64 (left - n - sumW wItem (l.take k)) ∧ ((n + sumW wItem (l.take k) : Nat) : Int) ≤ left ∧ Below w.heap.size w wr) (fun _ i _ => n - (intOf i).toNat)
    case atStart => exact ⟨0, Nat.zero_le _, rfl, by simp [sumW], by simpa [sumW] using h, Below.refl _ _⟩
    case round =>
      obtain ⟨k, hk, rfl, rfl, hle, hbk⟩ := hrel
      by_cases hlt : k < n
      · have hkl : k < l.length := by rw [HX.out]; exact hlt
        have HS := Hid.mk (sumW_take_succ (f := wItem) hkl)
        have HLe := Hid.mk (sumW_take_le wItem l (k + 1))
        obtain ⟨b1, o1, rfl, hB, cs, hcl, hcell, hrT⟩ := (hr.below rItem_good hbk) k hkl
        generalize l[k] = m at *
        generalize sumW wItem (l.take k) = t at *
        have hrT' := rItem_good.mono hrT hbk.size
        obtain ⟨a2, c2, rfl, h0, h1, h2, _⟩ := hrT
        have k0 := hcell 0 _ rfl
        have k1 := hcell 1 _ rfl
        have k2 := hcell 2 _ rfl
        rw [Nat.add_zero] at k0
        clear hr hcell hcl
        go_wp2_with fail
        refine (szItem_any _ m _ wr (by omega) (by omega) hrT').mono ?_
        rintro e w1 ⟨rfl, hb1⟩
        have hb2 := hbk.trans (hb1.mono hbk.size)
        generalize wItem m = d at *
        by_cases hd : (d : Int) ≤ left - n - t
        · rw [szRes_yes hd]
          go_wp2_with fail
          go_roundw
          case rel => exact ⟨k + 1, by omega, by go_num, by rw [HS.out]; go_num, by rw [HS.out]; omega, hb2⟩
          case measure => simp [intOf]; omega
        · rw [szRes_no hd]
          have HV : Hid (szRes left (n + sumW wItem l) = -1) := szRes_no (by have h1 := HS.out; have h2 := HLe.out; omega)
          go_wp2_with fail
          go_ret
          exact ⟨by rw [HV.out]; rfl, hb2⟩
      · have hkn : k = n := by omega
        have HT : Hid (l.take k = l) := List.take_of_length_le (by rw [HX.out]; omega)
        rw [HT.out] at hle
        rw [HT.out]
        have HV := Hid.mk (szRes_yes hle)
        go_wp2_with fail
        go_ret
        exact ⟨by rw [HV.out]; go_num, hbk⟩
  · have HV : Hid (szRes left (n + sumW wItem l) = -1) := szRes_no (by omega)
    go_enter Tryd.func33, Tryd.ntmps33
    go_wp2_with fail
    go_ret
    exact ⟨by rw [HV.out]; rfl, Below.refl _ _⟩

set_option maxHeartbeats 400000 in
theorem szGraph_any (cs : List Value) (m : MGraph) (left : Int) (w : World) (g0 : 0 ≤ left) (g1 : left ≤ 1048576) (hr : rGraph w.heap.size w cs m) :
    Calls Tryd.prog 9 #[.agg cs.toArray, .int .i64 left] w fun e w' => e = .returned (.int .i64 (szRes left (wGraph m))) ∧ Below w.heap.size w w' := by
  obtain ⟨a0, c0, rfl, h0, _⟩ := hr
  have HW : Hid (wGraph m = (m.fItems.length + sumW wItem m.fItems)) := rfl
  have hb0 : Below w.heap.size w (w.alloc (.cells #[.slice a0 m.fItems.length c0] 24)) := (Below.refl _ _).alloc (Nat.le_refl _) _
  go_enter Tryd.func9, Tryd.ntmps9
  have gb0 := h0.big
  go_wp2_with fail
  refine (szItemS_any a0 _ c0 m.fItems _ _ rfl (by omega) (by omega) (by omega) (by exact (LeafL.mono rItem_good (h0.below rItem_good hb0) hb0.size).2.2)).mono ?_
  rintro e w1 ⟨rfl, hx1⟩
  obtain ⟨hc1, hf1⟩ := bcell hx1
  have hz1 : w.heap.size < w1.heap.size := by have := hx1.size; simp at this; omega
  have hb1 := hb0.trans (hx1.mono hb0.size)
  by_cases hw0 : ((m.fItems.length + sumW wItem m.fItems : Nat) : Int) ≤ left
  rotate_left
  · have HV : Hid (szRes left (wGraph m) = -1) := szRes_no (by have h := HW.out; omega)
    rw [szRes_no hw0]
    go_wp2_with fail
    go_ret
    exact ⟨by rw [HV.out]; rfl, hb1⟩
  rw [szRes_yes hw0]
  have HV := Hid.mk (szRes_yes (left := left) (t := wGraph m) (by have h := HW.out; omega))
  go_wp2_with fail
  go_ret
  exact ⟨by rw [HV.out, HW.out]; go_num, hb1⟩

end Go.Proofs.YtmigamgcmhdncaaDoor
