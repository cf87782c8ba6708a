/-
  What the laws reckon that their arguments weigh.
-/
import Derived.Test.YtnohnkcijomdjaaGreatDoorBase
import Derived.Test.YtnohnkcijomdjaaGreatDoorDat
namespace Go.Proofs.YtnohnkcijomdjaaGreatDoor
open Go.RowKit
set_option linter.unusedVariables false

set_option maxHeartbeats 400000 in
theorem szByteS_any (a : Option Addr) (n cap : Nat) (left : Int) (w : World) (h0 : 0 ≤ left) (h1 : left ≤ 1048576) (hn : n ≤ 9223372036854775807) :
    Calls Tryz.prog 78 #[.slice a n cap, .int .i64 left] w fun e w' => e = .returned (.int .i64 (szRes left n)) ∧ w' = w := by
  by_cases h : (n : Int) ≤ left
  · have HV := Hid.mk (szRes_yes h)
    go_enter Tryz.func78, Tryz.ntmps78
    go_wp2
    go_ret
    exact ⟨by rw [HV.out]; rfl, rfl⟩
  · have HV := Hid.mk (szRes_no h)
    go_enter Tryz.func78, Tryz.ntmps78
    go_wp2
    go_ret
    exact ⟨by rw [HV.out]; rfl, rfl⟩

set_option maxHeartbeats 400000 in
theorem szInode_any (cs : List Value) (m : MInode) (left : Int) (w : World) (g0 : 0 ≤ left) (g1 : left ≤ 1048576) (hr : rInode w.heap.size w cs m) :
    Calls Tryz.prog 54 #[.agg cs.toArray, .int .i64 left] w fun e w' => e = .returned (.int .i64 (szRes left (wInode m))) ∧ Below w.heap.size w w' := by
  obtain ⟨a1, c1, rfl, h0, h1, h2, _⟩ := hr
  have HW : Hid (wInode m = m.fData.length) := rfl
  have hb0 : Below w.heap.size w (w.alloc (.cells #[.int .i64 m.fId, .slice a1 m.fData.length c1, .int .i64 m.fSure] 85)) := (Below.refl _ _).alloc (Nat.le_refl _) _
  go_enter Tryz.func54, Tryz.ntmps54
  have gb1 := h1.big
  go_wp2_with fail
  refine (szByteS_any a1 _ c1 _ _ (by omega) (by omega) (by omega)).mono ?_
  rintro e wx ⟨rfl, rfl⟩
  by_cases hw1 : ((m.fData.length : Nat) : Int) ≤ left
  rotate_left
  · have HV : Hid (szRes left (wInode m) = -1) := szRes_no (by have h := HW.out; omega)
    rw [szRes_no hw1]
    go_wp2_with fail
    go_ret
    exact ⟨by rw [HV.out]; rfl, hb0⟩
  rw [szRes_yes hw1]
  have HV := Hid.mk (szRes_yes (left := left) (t := wInode m) (by have h := HW.out; omega))
  go_wp2_with fail
  go_ret
  exact ⟨by rw [HV.out, HW.out]; go_num, hb0⟩

set_option maxHeartbeats 400000 in
theorem szInodeS_any (a : Option Addr) (n cap : Nat) (l : List MInode) (left : Int) (w : World) (hx : l.length = n) (g0 : 0 ≤ left) (g1 : left ≤ 1048576) (hn : n ≤ 9223372036854775807) (hr : RdS 3 rInode w.heap.size w a l) :
    Calls Tryz.prog 27 #[.slice a n cap, .int .i64 left] w fun e w' => e = .returned (.int .i64 (szRes left (l.length + sumW wInode l))) ∧ Below w.heap.size w w' := by
  have HX := Hid.mk hx
  rw [hx]
  clear hx
  by_cases h : (n : Int) ≤ left
  · go_enter Tryz.func27, Tryz.ntmps27
    go_wp2_with fail
    go_loopw [1, 5] (fun x i wr => ∃ k : Nat, k ≤ n ∧ i = .int .i64 k ∧ x = .int .i64 (left - n - sumW wInode (l.take k)) ∧ ((n + sumW wInode (l.take k) : Nat) : Int) ≤ left ∧ Below w.heap.size w wr) (fun _ i _ => n - (intOf i).toNat)
    case atStart => exact ⟨0, Nat.zero_le _, rfl, by simp [sumW], by simpa [sumW] using h, Below.refl _ _⟩
    case round =>
      obtain ⟨k, hk, rfl, rfl, hle, hbk⟩ := hrel
      by_cases hlt : k < n
      · have hkl : k < l.length := by rw [HX.out]; exact hlt
        have HS := Hid.mk (sumW_take_succ (f := wInode) hkl)
        have HLe := Hid.mk (sumW_take_le wInode l (k + 1))
        obtain ⟨b1, o1, rfl, hB, cs, hcl, hcell, hrT⟩ := (hr.below rInode_good hbk) k hkl
        generalize l[k] = m at *
        generalize sumW wInode (l.take k) = t at *
        have hrT' := rInode_good.mono hrT hbk.size
        obtain ⟨a1, c1, rfl, h0, h1, h2, _⟩ := hrT
        have k0 := hcell 0 _ rfl
        have k1 := hcell 1 _ rfl
        have k2 := hcell 2 _ rfl
        rw [Nat.add_zero] at k0
        clear hr hcell hcl
        go_wp2_with fail
        refine (szInode_any _ m _ wr (by omega) (by omega) hrT').mono ?_
        rintro e w1 ⟨rfl, hb1⟩
        have hb2 := hbk.trans (hb1.mono hbk.size)
        generalize wInode m = d at *
        by_cases hd : (d : Int) ≤ left - n - t
        · rw [szRes_yes hd]
          go_wp2_with fail
          go_roundw
          case rel => exact ⟨k + 1, by omega, by go_num, by rw [HS.out]; go_num, by rw [HS.out]; omega, hb2⟩
          case measure => simp [intOf]; omega
        · rw [szRes_no hd]
          have HV : Hid (szRes left (n + sumW wInode l) = -1) := szRes_no (by have h1 := HS.out; have h2 := HLe.out; omega)
          go_wp2_with fail
          go_ret
          exact ⟨by rw [HV.out]; rfl, hb2⟩
      · have hkn : k = n := by omega
        have HT : Hid (l.take k = l) := List.take_of_length_le (by rw [HX.out]; omega)
        rw [HT.out] at hle
        rw [HT.out]
        have HV := Hid.mk (szRes_yes hle)
        go_wp2_with fail
        go_ret
        exact ⟨by rw [HV.out]; go_num, hbk⟩
  · have HV : Hid (szRes left (n + sumW wInode l) = -1) := szRes_no (by omega)
    go_enter Tryz.func27, Tryz.ntmps27
    go_wp2_with fail
    go_ret
    exact ⟨by rw [HV.out]; rfl, Below.refl _ _⟩

set_option maxHeartbeats 400000 in
theorem szEntry_any (cs : List Value) (m : MEntry) (left : Int) (w : World) (g0 : 0 ≤ left) (g1 : left ≤ 1048576) (hr : rEntry w.heap.size w cs m) :
    Calls Tryz.prog 55 #[.agg cs.toArray, .int .i64 left] w fun e w' => e = .returned (.int .i64 (szRes left (wEntry m))) ∧ Below w.heap.size w w' := by
  obtain ⟨rfl, h0, h1, _⟩ := hr
  have HW : Hid (wEntry m = m.fName.size) := rfl
  have hb0 : Below w.heap.size w (w.alloc (.cells #[.string m.fName, .int .i64 m.fId] 88)) := (Below.refl _ _).alloc (Nat.le_refl _) _
  go_enter Tryz.func55, Tryz.ntmps55
  by_cases hw0 : ((m.fName.size : Nat) : Int) ≤ left
  rotate_left
  · have HV : Hid (szRes left (wEntry m) = -1) := szRes_no (by have h := HW.out; omega)
    go_wp2_with fail
    go_ret
    exact ⟨by rw [HV.out]; rfl, hb0⟩
  have HV := Hid.mk (szRes_yes (left := left) (t := wEntry m) (by have h := HW.out; omega))
  go_wp2_with fail
  go_ret
  exact ⟨by rw [HV.out, HW.out]; go_num, hb0⟩

set_option maxHeartbeats 400000 in
theorem szEntryS_any (a : Option Addr) (n cap : Nat) (l : List MEntry) (left : Int) (w : World) (hx : l.length = n) (g0 : 0 ≤ left) (g1 : left ≤ 1048576) (hn : n ≤ 9223372036854775807) (hr : RdS 2 rEntry w.heap.size w a l) :
    Calls Tryz.prog 28 #[.slice a n cap, .int .i64 left] w fun e w' => e = .returned (.int .i64 (szRes left (l.length + sumW wEntry l))) ∧ Below w.heap.size w w' := by
  have HX := Hid.mk hx
  rw [hx]
  clear hx
  by_cases h : (n : Int) ≤ left
  · go_enter Tryz.func28, Tryz.ntmps28
    go_wp2_with fail
    go_loopw [1, 5] (fun x i wr => ∃ k : Nat, k ≤ n ∧ i = .int .i64 k ∧ x = .int .i64 (left - n - sumW wEntry (l.take k)) ∧ ((n + sumW wEntry (l.take k) : Nat) : Int) ≤ left ∧ Below w.heap.size w wr) (fun _ i _ => n - (intOf i).toNat)
    case atStart => exact ⟨0, Nat.zero_le _, rfl, by simp [sumW], by simpa [sumW] using h, Below.refl _ _⟩
    case round =>
      obtain ⟨k, hk, rfl, rfl, hle, hbk⟩ := hrel
      by_cases hlt : k < n
      · have hkl : k < l.length := by rw [HX.out]; exact hlt
        have HS := Hid.mk (sumW_take_succ (f := wEntry) hkl)
        have HLe := Hid.mk (sumW_take_le wEntry l (k + 1))
        obtain ⟨b1, o1, rfl, hB, cs, hcl, hcell, hrT⟩ := (hr.below rEntry_good hbk) k hkl
        generalize l[k] = m at *
        generalize sumW wEntry (l.take k) = t at *
        have hrT' := rEntry_good.mono hrT hbk.size
        obtain ⟨rfl, h0, h1, _⟩ := hrT
        have k0 := hcell 0 _ rfl
        have k1 := hcell 1 _ rfl
        rw [Nat.add_zero] at k0
        clear hr hcell hcl
        go_wp2_with fail
        refine (szEntry_any _ m _ wr (by omega) (by omega) hrT').mono ?_
        rintro e w1 ⟨rfl, hb1⟩
        have hb2 := hbk.trans (hb1.mono hbk.size)
        generalize wEntry m = d at *
        by_cases hd : (d : Int) ≤ left - n - t
        · rw [szRes_yes hd]
          go_wp2_with fail
          go_roundw
          case rel => exact ⟨k + 1, by omega, by go_num, by rw [HS.out]; go_num, by rw [HS.out]; omega, hb2⟩
          case measure => simp [intOf]; omega
        · rw [szRes_no hd]
          have HV : Hid (szRes left (n + sumW wEntry l) = -1) := szRes_no (by have h1 := HS.out; have h2 := HLe.out; omega)
          go_wp2_with fail
          go_ret
          exact ⟨by rw [HV.out]; rfl, hb2⟩
      · have hkn : k = n := by omega
        have HT : Hid (l.take k = l) := List.take_of_length_le (by rw [HX.out]; omega)
        rw [HT.out] at hle
        rw [HT.out]
        have HV := Hid.mk (szRes_yes hle)
        go_wp2_with fail
        go_ret
        exact ⟨by rw [HV.out]; go_num, hbk⟩
  · have HV : Hid (szRes left (n + sumW wEntry l) = -1) := szRes_no (by omega)
    go_enter Tryz.func28, Tryz.ntmps28
    go_wp2_with fail
    go_ret
    exact ⟨by rw [HV.out]; rfl, Below.refl _ _⟩

set_option maxHeartbeats 400000 in
theorem szDisk_any (cs : List Value) (m : MDisk) (left : Int) (w : World) (g0 : 0 ≤ left) (g1 : left ≤ 1048576) (hr : rDisk w.heap.size w cs m) :
    Calls Tryz.prog 10 #[.agg cs.toArray, .int .i64 left] w fun e w' => e = .returned (.int .i64 (szRes left (wDisk m))) ∧ Below w.heap.size w w' := by
  obtain ⟨a0, c0, a1, c1, a2, c2, rfl, h0, h1, h2, h3, _⟩ := hr
  have HW : Hid (wDisk m = (m.fInodes.length + sumW wInode m.fInodes) + (m.fNames.length + sumW wEntry m.fNames) + (m.fSafe.length + sumW wEntry m.fSafe)) := rfl
  have hb0 : Below w.heap.size w (w.alloc (.cells #[.slice a0 m.fInodes.length c0, .slice a1 m.fNames.length c1, .slice a2 m.fSafe.length c2, .int .i64 m.fNext] 33)) := (Below.refl _ _).alloc (Nat.le_refl _) _
  go_enter Tryz.func10, Tryz.ntmps10
  have gb0 := h0.big
  go_wp2_with fail
  refine (szInodeS_any a0 _ c0 m.fInodes _ _ rfl (by omega) (by omega) (by omega) (by exact (LeafL.mono rInode_good (h0.below rInode_good hb0) hb0.size).2.2)).mono ?_
  rintro e w1 ⟨rfl, hx1⟩
  obtain ⟨hc1, hf1⟩ := bcell hx1
  have hz1 : w.heap.size < w1.heap.size := by have := hx1.size; simp at this; omega
  have hb1 := hb0.trans (hx1.mono hb0.size)
  by_cases hw0 : ((m.fInodes.length + sumW wInode m.fInodes : Nat) : Int) ≤ left
  rotate_left
  · have HV : Hid (szRes left (wDisk m) = -1) := szRes_no (by have h := HW.out; omega)
    rw [szRes_no hw0]
    go_wp2_with fail
    go_ret
    exact ⟨by rw [HV.out]; rfl, hb1⟩
  rw [szRes_yes hw0]
  have gb1 := h1.big
  go_wp2_with fail
  refine (szEntryS_any a1 _ c1 m.fNames _ _ rfl (by omega) (by omega) (by omega) (by exact (LeafL.mono rEntry_good (h1.below rEntry_good hb1) hb1.size).2.2)).mono ?_
  rintro e w2 ⟨rfl, hx2⟩
  obtain ⟨hc2, hf2⟩ := bcell hx2
  have hz2 : w.heap.size < w2.heap.size := Nat.lt_of_lt_of_le hz1 hx2.size
  have hb2 := hb1.trans (hx2.mono hb1.size)
  by_cases hw1 : ((m.fNames.length + sumW wEntry m.fNames : Nat) : Int) ≤ left - (((m.fInodes.length : Nat) : Int) + ((sumW wInode m.fInodes : Nat) : Int))
  rotate_left
  · have HV : Hid (szRes left (wDisk m) = -1) := szRes_no (by have h := HW.out; omega)
    rw [szRes_no hw1]
    go_wp2_with fail
    go_ret
    exact ⟨by rw [HV.out]; rfl, hb2⟩
  rw [szRes_yes hw1]
  have gb2 := h2.big
  go_wp2_with fail
  refine (szEntryS_any a2 _ c2 m.fSafe _ _ rfl (by omega) (by omega) (by omega) (by exact (LeafL.mono rEntry_good (h2.below rEntry_good hb2) hb2.size).2.2)).mono ?_
  rintro e w3 ⟨rfl, hx3⟩
  obtain ⟨hc3, hf3⟩ := bcell hx3
  have hz3 : w.heap.size < w3.heap.size := Nat.lt_of_lt_of_le hz2 hx3.size
  have hb3 := hb2.trans (hx3.mono hb2.size)
  by_cases hw2 : ((m.fSafe.length + sumW wEntry m.fSafe : Nat) : Int) ≤ left - (((m.fInodes.length : Nat) : Int) + ((sumW wInode m.fInodes : Nat) : Int)) - (((m.fNames.length : Nat) : Int) + ((sumW wEntry m.fNames : Nat) : Int))
  rotate_left
  · have HV : Hid (szRes left (wDisk m) = -1) := szRes_no (by have h := HW.out; omega)
    rw [szRes_no hw2]
    go_wp2_with fail
    go_ret
    exact ⟨by rw [HV.out]; rfl, hb3⟩
  rw [szRes_yes hw2]
  have HV := Hid.mk (szRes_yes (left := left) (t := wDisk m) (by have h := HW.out; omega))
  go_wp2_with fail
  go_ret
  exact ⟨by rw [HV.out, HW.out]; go_num, hb3⟩

end Go.Proofs.YtnohnkcijomdjaaGreatDoor
