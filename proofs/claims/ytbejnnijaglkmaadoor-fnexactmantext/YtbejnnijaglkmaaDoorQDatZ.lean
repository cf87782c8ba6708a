/-
  What the laws reckon that their arguments weigh.
-/
import Derived.Test.YtbejnnijaglkmaaDoorRows
import Derived.Test.YtbejnnijaglkmaaDoorKit
import Derived.Test.YtbejnnijaglkmaaDoorDatN
import Derived.Test.YtbejnnijaglkmaaDoorChecked
import Derived.Test.YtbejnnijaglkmaaDoorQDat
namespace Go.Proofs.YtbejnnijaglkmaaDoor
open Go.RowKit
set_option linter.unusedVariables false

set_option maxHeartbeats 400000 in
theorem szMeta_any (cs : List Value) (m : MMeta) (left : Int) (w : World) (g0 : 0 ≤ left) (g1 : left ≤ 1048576) (hr : rMeta w.heap.size w cs m) :
    Calls Tryd.prog 64 #[.agg cs.toArray, .int .i64 left] w fun e w' => e = .returned (.int .i64 (szRes left (wMeta m))) ∧ Below w.heap.size w w' := by
  obtain ⟨rfl, h0, h1, h2, h3, _⟩ := hr
  have HW : Hid (wMeta m = m.fLo.size + m.fHi.size) := rfl
  have hb0 : Below w.heap.size w (w.alloc (.cells #[.int .i64 m.fNo, .int .i64 m.fLevel, .string m.fLo, .string m.fHi] 107)) := (Below.refl _ _).alloc (Nat.le_refl _) _
  go_enter Tryd.func64, Tryd.ntmps64
  by_cases hw2 : ((m.fLo.size : Nat) : Int) ≤ left
  rotate_left
  · have HV : Hid (szRes left (wMeta m) = -1) := szRes_no (by have h := HW.out; omega)
    go_wp2_with fail
    go_ret
    exact ⟨by rw [HV.out]; rfl, hb0⟩
  by_cases hw3 : ((m.fHi.size : Nat) : Int) ≤ left - (((m.fLo.size : Nat) : Int))
  rotate_left
  · have HV : Hid (szRes left (wMeta m) = -1) := szRes_no (by have h := HW.out; omega)
    go_wp2_with fail
    go_ret
    exact ⟨by rw [HV.out]; rfl, hb0⟩
  have HV := Hid.mk (szRes_yes (left := left) (t := wMeta m) (by have h := HW.out; omega))
  go_wp2_with fail
  go_ret
  exact ⟨by rw [HV.out, HW.out]; go_num, hb0⟩

set_option maxHeartbeats 400000 in
theorem szMetaS_any (a : Option Addr) (n cap : Nat) (l : List MMeta) (left : Int) (w : World) (hx : l.length = n) (g0 : 0 ≤ left) (g1 : left ≤ 1048576) (hn : n ≤ 9223372036854775807) (hr : RdS 4 rMeta w.heap.size w a l) :
    Calls Tryd.prog 34 #[.slice a n cap, .int .i64 left] w fun e w' => e = .returned (.int .i64 (szRes left (l.length + sumW wMeta l))) ∧ Below w.heap.size w w' := by
  have HX := Hid.mk hx
  rw [hx]
  clear hx
  by_cases h : (n : Int) ≤ left
  · go_enter Tryd.func34, Tryd.ntmps34
    go_wp2_with fail
    go_loopw [1, 5] (fun x i wr => ∃ k : Nat, k ≤ n ∧ i = .int .i64 k ∧ x = .int .i64 (left - n - sumW wMeta (l.take k)) ∧ ((n + sumW wMeta (l.take k) : Nat) : Int) ≤ left ∧ Below w.heap.size w wr) (fun _ i _ => n - (intOf i).toNat)
    case atStart => exact ⟨0, Nat.zero_le _, rfl, by simp [sumW], by simpa [sumW] using h, Below.refl _ _⟩
    case round =>
      obtain ⟨k, hk, rfl, rfl, hle, hbk⟩ := hrel
      by_cases hlt : k < n
      · have hkl : k < l.length := by rw [HX.out]; exact hlt
        have HS := Hid.mk (sumW_take_succ (f := wMeta) hkl)
        have HLe := Hid.mk (sumW_take_le wMeta l (k + 1))
        obtain ⟨b1, o1, rfl, hB, cs, hcl, hcell, hrT⟩ := (hr.below rMeta_good hbk) k hkl
        generalize l[k] = m at *
        generalize sumW wMeta (l.take k) = t at *
        have hrT' := rMeta_good.mono hrT hbk.size
        obtain ⟨rfl, h0, h1, h2, h3, _⟩ := hrT
        have k0 := hcell 0 _ rfl
        have k1 := hcell 1 _ rfl
        have k2 := hcell 2 _ rfl
        have k3 := hcell 3 _ rfl
        rw [Nat.add_zero] at k0
        clear hr hcell hcl
        go_wp2_with fail
        refine (szMeta_any _ m _ wr (by omega) (by omega) hrT').mono ?_
        rintro e w1 ⟨rfl, hb1⟩
        have hb2 := hbk.trans (hb1.mono hbk.size)
        generalize wMeta m = d at *
        by_cases hd : (d : Int) ≤ left - n - t
        · rw [szRes_yes hd]
          go_wp2_with fail
          go_roundw
          case rel => exact ⟨k + 1, by omega, by go_num, by rw [HS.out]; go_num, by rw [HS.out]; omega, hb2⟩
          case measure => simp [intOf]; omega
        · rw [szRes_no hd]
          have HV : Hid (szRes left (n + sumW wMeta l) = -1) := szRes_no (by have h1 := HS.out; have h2 := HLe.out; omega)
          go_wp2_with fail
          go_ret
          exact ⟨by rw [HV.out]; rfl, hb2⟩
      · have hkn : k = n := by omega
        have HT : Hid (l.take k = l) := List.take_of_length_le (by rw [HX.out]; omega)
        rw [HT.out] at hle
        rw [HT.out]
        have HV := Hid.mk (szRes_yes hle)
        go_wp2_with fail
        go_ret
        exact ⟨by rw [HV.out]; go_num, hbk⟩
  · have HV : Hid (szRes left (n + sumW wMeta l) = -1) := szRes_no (by omega)
    go_enter Tryd.func34, Tryd.ntmps34
    go_wp2_with fail
    go_ret
    exact ⟨by rw [HV.out]; rfl, Below.refl _ _⟩

set_option maxHeartbeats 400000 in
theorem szManifest_any (cs : List Value) (m : MManifest) (left : Int) (w : World) (g0 : 0 ≤ left) (g1 : left ≤ 1048576) (hr : rManifest w.heap.size w cs m) :
    Calls Tryd.prog 7 #[.agg cs.toArray, .int .i64 left] w fun e w' => e = .returned (.int .i64 (szRes left (wManifest m))) ∧ Below w.heap.size w w' := by
  obtain ⟨a2, c2, rfl, h0, h1, h2, _⟩ := hr
  have HW : Hid (wManifest m = (m.fTables.length + sumW wMeta m.fTables)) := rfl
  have hb0 : Below w.heap.size w (w.alloc (.cells #[.int .i64 m.fNext, .int .i64 m.fLog, .slice a2 m.fTables.length c2] 24)) := (Below.refl _ _).alloc (Nat.le_refl _) _
  go_enter Tryd.func7, Tryd.ntmps7
  have gb2 := h2.big
  go_wp2_with fail
  refine (szMetaS_any a2 _ c2 m.fTables _ _ rfl (by omega) (by omega) (by omega) (by exact (LeafL.mono rMeta_good (h2.below rMeta_good hb0) hb0.size).2.2)).mono ?_
  rintro e w1 ⟨rfl, hx1⟩
  obtain ⟨hc1, hf1⟩ := bcell hx1
  have hz1 : w.heap.size < w1.heap.size := by have := hx1.size; simp at this; omega
  have hb1 := hb0.trans (hx1.mono hb0.size)
  by_cases hw2 : ((m.fTables.length + sumW wMeta m.fTables : Nat) : Int) ≤ left
  rotate_left
  · have HV : Hid (szRes left (wManifest m) = -1) := szRes_no (by have h := HW.out; omega)
    rw [szRes_no hw2]
    go_wp2_with fail
    go_ret
    exact ⟨by rw [HV.out]; rfl, hb1⟩
  rw [szRes_yes hw2]
  have HV := Hid.mk (szRes_yes (left := left) (t := wManifest m) (by have h := HW.out; omega))
  go_wp2_with fail
  go_ret
  exact ⟨by rw [HV.out, HW.out]; go_num, hb1⟩

end Go.Proofs.YtbejnnijaglkmaaDoor
