/-
  Part 19 of the texts that the proof leans on.
-/
import Derived.Test.YtomlpobbhioflaaGreatDoorStn0
import Derived.Test.YtomlpobbhioflaaGreatDoorStn1
import Derived.Test.YtomlpobbhioflaaGreatDoorStn2
import Derived.Test.YtomlpobbhioflaaGreatDoorRows
import Derived.Test.YtomlpobbhioflaaGreatDoorStn4
import Derived.Test.YtomlpobbhioflaaGreatDoorChecked
import Derived.Test.YtomlpobbhioflaaGreatDoorStn17
import Derived.Test.YtomlpobbhioflaaGreatDoorStn16
set_option linter.unusedVariables false
set_option linter.unusedSimpArgs false
set_option maxRecDepth 10000

namespace Go.Proofs.YtomlpobbhioflaaGreatDoor
open Go.RowKit Go.Maps
abbrev qd9b_31_7_0 : Oper := ⟨some 38, .load 31 (.tmp 1), 31, "l06_manifest.go:17", #[], none⟩
abbrev qd9b_31_7_1 : Oper := ⟨some 39, .load 82 (.tmp 4), 82, "l06_manifest.go:17", #[], none⟩
abbrev qd9b_31_7_2 : Oper := ⟨some 40, .call { callee := .value (.func 62), args := #[.tmp 38, .tmp 39], argTypes := #[31, 82] }, 4, "l06_manifest.go:17", #[⟨0, .data⟩, ⟨1, .data⟩], none⟩
abbrev qd9b_31_7_3 : Oper := ⟨some 41, .unOp .not 4 (.tmp 40), 4, "l06_manifest.go:17", #[⟨2, .data⟩], none⟩
abbrev qd9b_31_7_4 : Oper := ⟨some 42, .move (.tmp 41), 4, "l06_manifest.go:17", #[⟨3, .data⟩, ⟨2, .chain⟩], none⟩
abbrev qd9b_31_7_5 : Oper := ⟨some 43, .move (.tmp 3), 3, "l06_manifest.go:17", #[⟨4, .guard⟩], some (4, false)⟩
abbrev qd9b_31_7_6 : Oper := ⟨some 44, .binOp .gtr 3 (.tmp 43) (.const (.int .i64 0)) 3, 4, "l06_manifest.go:17", #[⟨5, .data⟩, ⟨4, .guard⟩], some (4, false)⟩
abbrev qd9b_31_7_7 : Oper := ⟨some 45, .move (.tmp 44), 4, "l06_manifest.go:17", #[⟨6, .data⟩, ⟨4, .chain⟩, ⟨4, .guard⟩], some (4, false)⟩
abbrev qd9b_31_7_8 : Oper := ⟨some 46, .fieldAddr 31 (.tmp 1) 2, 0, "l06_manifest.go:17", #[⟨7, .guard⟩], some (7, true)⟩
abbrev qd9b_31_7_9 : Oper := ⟨some 47, .load 29 (.tmp 46), 29, "l06_manifest.go:17", #[⟨8, .data⟩, ⟨7, .guard⟩], some (7, true)⟩
abbrev qd9b_31_7_10 : Oper := ⟨some 48, .move (.tmp 3), 3, "l06_manifest.go:17", #[⟨7, .guard⟩], some (7, true)⟩
abbrev qd9b_31_7_11 : Oper := ⟨some 49, .binOp .sub 3 (.tmp 48) (.const (.int .i64 1)) 3, 3, "l06_manifest.go:17", #[⟨10, .data⟩, ⟨7, .guard⟩], some (7, true)⟩
abbrev qd9b_31_7_12 : Oper := ⟨some 50, .indexAddr 29 (.tmp 47) (.tmp 49), 0, "l06_manifest.go:17", #[⟨9, .data⟩, ⟨11, .data⟩, ⟨7, .guard⟩], some (7, true)⟩
abbrev qd9b_31_7_13 : Oper := ⟨some 51, .fieldAddr 82 (.tmp 50) 0, 0, "l06_manifest.go:17", #[⟨12, .data⟩, ⟨7, .guard⟩], some (7, true)⟩
abbrev qd9b_31_7_14 : Oper := ⟨some 52, .load 3 (.tmp 51), 3, "l06_manifest.go:17", #[⟨13, .data⟩, ⟨7, .guard⟩], some (7, true)⟩
abbrev qd9b_31_7_15 : Oper := ⟨some 53, .fieldAddr 82 (.tmp 4) 0, 0, "l06_manifest.go:17", #[⟨7, .guard⟩], some (7, true)⟩
abbrev qd9b_31_7_16 : Oper := ⟨some 54, .load 3 (.tmp 53), 3, "l06_manifest.go:17", #[⟨15, .data⟩, ⟨7, .guard⟩], some (7, true)⟩
abbrev qd9b_31_7_17 : Oper := ⟨some 55, .binOp .geq 3 (.tmp 52) (.tmp 54) 3, 4, "l06_manifest.go:17", #[⟨14, .data⟩, ⟨16, .data⟩, ⟨7, .guard⟩], some (7, true)⟩
abbrev qd9b_31_7_18 : Oper := ⟨some 56, .pick (.tmp 45) (.tmp 55) (.const (.bool false)), 4, "l06_manifest.go:17", #[⟨7, .data⟩, ⟨17, .data⟩, ⟨4, .guard⟩], some (4, false)⟩
abbrev qd9b_31_7_19 : Oper := ⟨some 57, .pick (.tmp 42) (.const (.bool true)) (.tmp 56), 4, "l06_manifest.go:17", #[⟨4, .data⟩, ⟨18, .data⟩], none⟩
set_option maxHeartbeats 400000 in
theorem l6Key_any (s : ByteArray) (w : World) (hs : s.size ≤ 9223372036854775807) :
  Calls Tryz.prog 96 #[.string s] w fun e w' => e = .returned (.bool (mKeyP s)) ∧ w' = w := by
 have HV : Hid (inRange (s.size : Int) 1 20 = mKeyP s) := by show _ = _; unfold inRange mKeyP; congr 1; apply propext; omega
 go_enter Tryz.func96, Tryz.ntmps96
 go_wp2_with fail
 refine (l1In_any _ _ _ _).mono ?_
 rintro e w1 ⟨rfl, hw1⟩
 subst hw1
 rw [HV.out]
 go_wp2_with fail
 go_ret
 exact ⟨rfl, rfl⟩
set_option maxHeartbeats 2000000 in
theorem l6Meta_any (nx lg : Int) (a0 : Option Addr) (n c0 : Nat) (t : MMeta) (w : World) (hn1 : 1 ≤ nx) (hn2 : nx ≤ 100000) (h2 : t.fLo.size ≤ 9223372036854775807) (h3 : t.fHi.size ≤ 9223372036854775807) :
  Calls Tryz.prog 62 #[.agg #[.int .i64 nx, .int .i64 lg, .slice a0 n c0], .agg #[.int .i64 t.fNo, .int .i64 t.fLevel, .string t.fLo, .string t.fHi]] w fun e w' => e = .returned (.bool (metaP nx t)) ∧ Below w.heap.size w w' := by
 have HV : Hid (metaP nx t = (inRange t.fNo 1 (nx - 1) && inRange t.fLevel 0 3 && mKeyP t.fLo && mKeyP t.fHi && kLe t.fLo t.fHi)) := rfl
 obtain ⟨wp, hwp⟩ : ∃ wp, wp = (w.alloc (.cells #[.int .i64 nx, .int .i64 lg, .slice a0 n c0] 31)).alloc (.cells #[.int .i64 t.fNo, .int .i64 t.fLevel, .string t.fLo, .string t.fHi] 82) := ⟨_, rfl⟩
 have hbp : Below w.heap.size w wp := by rw [hwp]; exact ((Below.refl _ _).alloc (Nat.le_refl _) _).alloc (by simp) _
 have hbx : Bx wp (w.heap.size + 1) [.int .i64 t.fNo, .int .i64 t.fLevel, .string t.fLo, .string t.fHi] := by rw [hwp]; have h := Bx.new (w.alloc (.cells #[.int .i64 nx, .int .i64 lg, .slice a0 n c0] 31)) [.int .i64 t.fNo, .int .i64 t.fLevel, .string t.fLo, .string t.fHi] 82; simpa using h
 have hbm : Bx wp w.heap.size [.int .i64 nx, .int .i64 lg, .slice a0 n c0] := by rw [hwp]; exact (Bx.new w [.int .i64 nx, .int .i64 lg, .slice a0 n c0] 31).under ((Below.refl _ _).alloc (Nat.le_refl _) _)
 have y0 := hbx.2 0 _ rfl
 have y1 := hbx.2 1 _ rfl
 have y2 := hbx.2 2 _ rfl
 have y3 := hbx.2 3 _ rfl
 have m0 := hbm.2 0 _ rfl
 have hz := hbx.1
 have hz2 := hbm.1
 have hk1 := fun W => l6Key_any t.fLo W h2
 have hk2 := fun W => l6Key_any t.fHi W h3
 have hi1 := fun W => l1In_any t.fNo 1 (nx - 1) W
 have hi2 := fun W => l1In_any t.fLevel 0 3 W
 generalize mKeyP t.fLo = a at *
 generalize mKeyP t.fHi = b at *
 generalize inRange t.fNo 1 (nx - 1) = r1 at *
 generalize inRange t.fLevel 0 3 = r2 at *
 go_enter Tryz.func62, Tryz.ntmps62
 go_wp2_with (rw [← hwp])
 refine (hi1 _).mono ?_
 rintro e w1 ⟨rfl, hw1⟩
 subst hw1
 clear hwp
 cases r1 with
 | false =>
  have HD : Hid (metaP nx t = false) := by show _ = _; rw [HV.out]; simp
  go_wp2_with fail
  go_ret
  exact ⟨by rw [HD.out]; rfl, hbp⟩
 | true =>
  go_wp2_with fail
  refine (hi2 _).mono ?_
  rintro e w1 ⟨rfl, hw1⟩
  subst hw1
  cases r2 with
  | false =>
   have HD : Hid (metaP nx t = false) := by show _ = _; rw [HV.out]; simp
   go_wp2_with fail
   go_ret
   exact ⟨by rw [HD.out]; rfl, hbp⟩
  | true =>
   go_wp2_with fail
   refine (hk1 _).mono ?_
   rintro e w1 ⟨rfl, hw1⟩
   subst hw1
   cases a with
   | false =>
    have HD : Hid (metaP nx t = false) := by show _ = _; rw [HV.out]; simp
    go_wp2_with fail
    go_ret
    exact ⟨by rw [HD.out]; rfl, hbp⟩
   | true =>
    go_wp2_with fail
    refine (hk2 _).mono ?_
    rintro e w1 ⟨rfl, hw1⟩
    subst hw1
    cases b with
    | false =>
     have HD : Hid (metaP nx t = false) := by show _ = _; rw [HV.out]; simp
     go_wp2_with fail
     go_ret
     exact ⟨by rw [HD.out]; rfl, hbp⟩
    | true =>
     by_cases hk : kLe t.fLo t.fHi = true
     ·have HD : Hid (metaP nx t = true) := by show _ = _; rw [HV.out, hk]; rfl
      rcases kLe_yes hk with hq | hq
      ·go_wp2_with fail
       go_ret
       exact ⟨by rw [HD.out]; rfl, hbp⟩
      ·go_wp2_with fail
       go_ret
       exact ⟨by rw [HD.out]; rfl, hbp⟩
     ·have hkf := Bool.eq_false_iff.2 hk
      have HD : Hid (metaP nx t = false) := by show _ = _; rw [HV.out, hkf]; rfl
      obtain ⟨hq1, hq2⟩ := kLe_no hkf
      go_wp2_with fail
      go_ret
      exact ⟨by rw [HD.out]; rfl, hbp⟩
theorem metaP_pos {next : Int} {t : MMeta} (h : metaP next t = true) : 1 ≤ t.fNo := by
 simp only [metaP, Bool.and_eq_true, decide_eq_true_eq] at h
 exact h.1.1.1.1.1
set_option maxHeartbeats 8000000 in
theorem specManOk_c (cs : List Value) (m : MManifest) (w : World) (hr : rManifest w.heap.size w cs m) (hw : wManifest m ≤ 1048576) :
  Calls Tryz.prog 31 #[.agg cs.toArray] w fun e w' => e = .returned (.bool (manOkP m)) ∧ Below w.heap.size w w' := by
 obtain ⟨a0, c0, rfl, hwf0, hwf1, hL, _⟩ := hr
 have HL := Hid.mk hL
 obtain ⟨l, hl⟩ : ∃ l, l = m.fTables := ⟨_, rfl⟩
 obtain ⟨n, hx⟩ : ∃ n, n = l.length := ⟨_, rfl⟩
 have HV : Hid (manOkP m = (inRange m.fNext 1 100000 && inRange m.fLog 0 (m.fNext - 1) && decide (n ≤ 20) && tabsFrom m.fNext [] l)) := by show _ = _; rw [hx, hl]; rfl
 have hn : n ≤ 1048576 := by have h : m.fTables.length + sumW wMeta m.fTables ≤ 1048576 := hw; rw [hx, hl]; omega
 rw [← hl] at HL ⊢
 rw [← hx]
 have HX := Hid.mk hx.symm
 generalize m.fNext = nx at *
 generalize m.fLog = lg at *
 clear hL hw hl hx hwf0 hwf1
 go_enter Tryz.func31, Tryz.ntmps31
 obtain ⟨wq, hwq⟩ : ∃ wq, wq = w.alloc (.cells #[.int .i64 nx, .int .i64 lg, .slice a0 n c0] 31) := ⟨_, rfl⟩
 have hbq : Below w.heap.size w wq := by rw [hwq]; exact (Below.refl _ _).alloc (Nat.le_refl _) _
 have hbx : Bx wq w.heap.size [.int .i64 nx, .int .i64 lg, .slice a0 n c0] := by rw [hwq]; exact Bx.new _ _ _
 have y0 := hbx.2 0 _ rfl
 have y1 := hbx.2 1 _ rfl
 have y2 := hbx.2 2 _ rfl
 have hz := hbx.1
 go_wp2_with (rw [← hwq])
 refine (l1In_any nx 1 100000 _).mono ?_
 rintro e w1 ⟨rfl, hw1⟩
 have hw2 := hw1.symm
 clear hw1
 subst hw2
 clear hwq
 by_cases h1 : inRange nx 1 100000 = true
 rotate_left
 ·have h1f := Bool.eq_false_iff.2 h1
  have HD : Hid (manOkP m = false) := by show _ = _; rw [HV.out, h1f]; rfl
  rw [h1f]
  go_wp2_with fail
  go_ret
  exact ⟨by rw [HD.out]; rfl, hbq⟩
 have hnx1 : 1 ≤ nx := (of_decide_eq_true h1).1
 have hnx2 : nx ≤ 100000 := (of_decide_eq_true h1).2
 rw [h1] at HV ⊢
 go_wp2_with fail
 refine (l1In_any lg 0 (nx - 1) _).mono ?_
 rintro e w1 ⟨rfl, hw1⟩
 have hw2 := hw1.symm
 clear hw1
 subst hw2
 by_cases h2 : inRange lg 0 (nx - 1) = true
 rotate_left
 ·have h2f := Bool.eq_false_iff.2 h2
  have HD : Hid (manOkP m = false) := by show _ = _; rw [HV.out, h2f]; simp
  rw [h2f]
  go_wp2_with fail
  go_ret
  exact ⟨by rw [HD.out]; rfl, hbq⟩
 rw [h2] at HV ⊢
 by_cases h5 : n ≤ 20
 rotate_left
 ·have HD : Hid (manOkP m = false) := by show _ = _; rw [HV.out, decide_eq_false h5]; simp
  have h6 : (20 : Int) < (n : Int) := by omega
  go_wp2_with fail
  go_ret
  exact ⟨by rw [HD.out]; rfl, hbq⟩
 have h6 : ¬ (20 : Int) < (n : Int) := by omega
 have HV2 : Hid (manOkP m = tabsFrom nx [] l) := by show _ = _; rw [HV.out, decide_eq_true h5]; rfl
 clear HV h1 h2
 go_wp2_with fail
 clear y0 y1 y2
 go_loopw [3] (fun i wr => ∃ k : Nat, k ≤ n ∧ i = .int .i64 k ∧ Hid (tabsFrom nx [] l = tabsFrom nx (l.take k) (l.drop k)) ∧ Below wq.heap.size wq wr) (fun i _ => n - (intOf i).toNat)
 case atStart => exact ⟨0, Nat.zero_le _, rfl, rfl, Below.refl _ _⟩
 case round =>
  obtain ⟨k, hk, rfl, HI, hbk⟩ := hrel
  have hbw := bthen hbq hbk
  have hbz := hbw.size
  have hbxr := hbx.under hbk
  have y2 := hbxr.2 2 _ rfl
  have hlr := hbxr.1
  by_cases hlt : k < n
  ·have hkl : k < l.length := by rw [HX.out]; exact hlt
   obtain ⟨b1, o1, rfl, hB, cs, hcl, hcell, rfl, g0, g1, g2, g3, _⟩ := (HL.out.2.2.below rMeta_good hbw) k hkl
   have hB' : b1 < wr.heap.size := by omega
   have k0 := hcell 0 _ rfl
   have k1 := hcell 1 _ rfl
   have k2 := hcell 2 _ rfl
   have k3 := hcell 3 _ rfl
   rw [Nat.add_zero] at k0
   have HG : Hid (tabAt nx l k l[k] = true → tabsFrom nx [] l = tabsFrom nx (l.take (k + 1)) (l.drop (k + 1))) := fun h => by rw [HI.out]; exact tabs_good hkl h
   have HBad : Hid (tabAt nx l k l[k] = false → manOkP m = false) := fun h => by rw [HV2.out, HI.out]; exact tabs_bad hkl h
   clear hcell hcl HI
   obtain ⟨x, hxk⟩ : ∃ x, x = l[k] := ⟨_, rfl⟩
   rw [← hxk] at k0 k1 k2 k3 g0 g1 g2 g3 HG HBad
   clear hxk
   obtain ⟨wp, hwp⟩ : ∃ wp, wp = wr.alloc (.cells #[.int .i64 x.fNo, .int .i64 x.fLevel, .string x.fLo, .string x.fHi] 82) := ⟨_, rfl⟩
   have hbp : Below wr.heap.size wr wp := by rw [hwp]; exact (Below.refl _ _).alloc (Nat.le_refl _) _
   have hbxp : Bx wp wr.heap.size [.int .i64 x.fNo, .int .i64 x.fLevel, .string x.fLo, .string x.fHi] := by rw [hwp]; exact Bx.new _ _ _
   have hbkp := bthen hbk hbp
   have p0 : ∀ W, Below wp.heap.size wp W → W.cell? ⟨wr.heap.size, 0, none⟩ = some (.int .i64 x.fNo) := fun W hb => (hbxp.under hb).2 0 _ rfl
   have p1 : ∀ W, Below wp.heap.size wp W → W.cell? ⟨wr.heap.size, 1, none⟩ = some (.int .i64 x.fLevel) := fun W hb => (hbxp.under hb).2 1 _ rfl
   have p2 : ∀ W, Below wp.heap.size wp W → W.cell? ⟨wr.heap.size, 2, none⟩ = some (.string x.fLo) := fun W hb => (hbxp.under hb).2 2 _ rfl
   have p3 : ∀ W, Below wp.heap.size wp W → W.cell? ⟨wr.heap.size, 3, none⟩ = some (.string x.fHi) := fun W hb => (hbxp.under hb).2 3 _ rfl
   have q0 : ∀ W, Below wp.heap.size wp W → W.cell? ⟨w.heap.size, 0, none⟩ = some (.int .i64 nx) := fun W hb => ((hbxr.under hbp).under hb).2 0 _ rfl
   have q1 : ∀ W, Below wp.heap.size wp W → W.cell? ⟨w.heap.size, 1, none⟩ = some (.int .i64 lg) := fun W hb => ((hbxr.under hbp).under hb).2 1 _ rfl
   have q2 : ∀ W, Below wp.heap.size wp W → W.cell? ⟨w.heap.size, 2, none⟩ = some (.slice (some ⟨b1, o1, none⟩) n c0) := fun W hb => ((hbxr.under hbp).under hb).2 2 _ rfl
   have hCm := fun W => l6Meta_any nx lg (some ⟨b1, o1, none⟩) n c0 x W hnx1 hnx2 g2 g3
   by_cases hM : metaP nx x = true
   rotate_left
   ·have hMf := Bool.eq_false_iff.2 hM
    have HD : Hid (manOkP m = false) := HBad.out (tabAt_bad1 hMf)
    simp only [hMf] at hCm
    go_wp2_with fail
    rw [← hwp]
    clear hwp
    refine wp_region_held_drew (S := fun W => Below wp.heap.size wp W) (by kernel_rfl) (Below.drew (Below.refl _ _)) (fun hHeld => ?_)
    refine uq 0 qd9b_31_7_0 38 hHeld ?_
    refine uq 1 qd9b_31_7_1 39 hHeld ?_
    refine ar1 2 qd9b_31_7_2 fun K hK => ?_
    go_simp
    refine Calls.mono (hCm _) ?_
    rintro e w1 ⟨rfl, hx1⟩
    go_wp2_with fail
    refine hK.out _ _ (bthen hHeld hx1) (fun hHeld => ?_)
    clear hK K
    try simp only[Act.put,sa,s0,s1]
    refine uq 3 qd9b_31_7_3 41 hHeld ?_
    refine uq 4 qd9b_31_7_4 42 hHeld ?_
    refine um 5 qd9b_31_7_5 43 hHeld ?_
    refine um 6 qd9b_31_7_6 44 hHeld ?_
    refine um 7 qd9b_31_7_7 45 hHeld ?_
    refine um 8 qd9b_31_7_8 46 hHeld ?_
    refine um 9 qd9b_31_7_9 47 hHeld ?_
    refine um 10 qd9b_31_7_10 48 hHeld ?_
    refine um 11 qd9b_31_7_11 49 hHeld ?_
    refine um 12 qd9b_31_7_12 50 hHeld ?_
    refine um 13 qd9b_31_7_13 51 hHeld ?_
    refine um 14 qd9b_31_7_14 52 hHeld ?_
    refine um 15 qd9b_31_7_15 53 hHeld ?_
    refine um 16 qd9b_31_7_16 54 hHeld ?_
    refine um 17 qd9b_31_7_17 55 hHeld ?_
    refine um 18 qd9b_31_7_18 56 hHeld ?_
    refine uq 19 qd9b_31_7_19 57 hHeld ?_
    refine wpAnyH_done (by kernel_rfl) ?_ _
    go_wp2_with fail
    go_ret
    exact ⟨by rw [HD.out]; rfl, bthen hbq (bthen hbkp hHeld)⟩
   have HM := Hid.mk hM
   simp only [hM] at hCm
   clear hM
   by_cases hk0 : k = 0
   ·subst hk0
    have HLT : Hid (lastNo (l.take 0) < x.fNo) := by have h := metaP_pos HM.out; show (0 : Int) < _; omega
    simp only [Nat.zero_mul, Nat.add_zero] at k0 k1 k2 k3
    go_wp2_with fail
    rw [← hwp]
    clear hwp
    refine wp_region_held_drew (S := fun W => Below wp.heap.size wp W) (by kernel_rfl) (Below.drew (Below.refl _ _)) (fun hHeld => ?_)
    refine uq 0 qd9b_31_7_0 38 hHeld ?_
    refine uq 1 qd9b_31_7_1 39 hHeld ?_
    refine ar1 2 qd9b_31_7_2 fun K hK => ?_
    go_simp
    refine Calls.mono (hCm _) ?_
    rintro e w1 ⟨rfl, hx1⟩
    go_wp2_with fail
    refine hK.out _ _ (bthen hHeld hx1) (fun hHeld => ?_)
    clear hK K
    try simp only[Act.put,sa,s0,s1]
    refine uq 3 qd9b_31_7_3 41 hHeld ?_
    refine uq 4 qd9b_31_7_4 42 hHeld ?_
    refine uq 5 qd9b_31_7_5 43 hHeld ?_
    refine uq 6 qd9b_31_7_6 44 hHeld ?_
    refine uq 7 qd9b_31_7_7 45 hHeld ?_
    refine um 8 qd9b_31_7_8 46 hHeld ?_
    refine um 9 qd9b_31_7_9 47 hHeld ?_
    refine um 10 qd9b_31_7_10 48 hHeld ?_
    refine um 11 qd9b_31_7_11 49 hHeld ?_
    refine um 12 qd9b_31_7_12 50 hHeld ?_
    refine um 13 qd9b_31_7_13 51 hHeld ?_
    refine um 14 qd9b_31_7_14 52 hHeld ?_
    refine um 15 qd9b_31_7_15 53 hHeld ?_
    refine um 16 qd9b_31_7_16 54 hHeld ?_
    refine um 17 qd9b_31_7_17 55 hHeld ?_
    refine uq 18 qd9b_31_7_18 56 hHeld ?_
    refine uq 19 qd9b_31_7_19 57 hHeld ?_
    refine wpAnyH_done (by kernel_rfl) ?_ _
    generalize wr = wo at *
    go_wp2_with fail
    go_loopw [5] (fun i wr => ∃ j : Nat, j ≤ 0 ∧ i = .int .i64 j ∧ Hid (∀ i, (hi : i < l.length) → i < j → meetP x l[i] = false) ∧ Below wp.heap.size wp wr) (fun i _ => 0 - (intOf i).toNat)
    case atStart => exact ⟨0, Nat.zero_le _, rfl, fun i _ h => by omega, hHeld⟩
    case round =>
     obtain ⟨j, hj, rfl, HJ, hbv⟩ := hrel
     have hj0 : j = 0 := by omega
     subst hj0
     have HGD := Hid.mk (HG.out (tabAt_good HM.out HLT.out (fun i hi hlt => HJ.out i hi (by omega))))
     go_wp2_with fail
     go_roundw
     case rel => exact ⟨0 + 1, by omega, by go_num, HGD, bthen hbkp hbv⟩
     case measure => simp [intOf]; omega
   ·obtain ⟨jj, rfl⟩ : ∃ j, k = j + 1 := ⟨k - 1, by omega⟩
    have hjl : jj < l.length := by omega
    obtain ⟨b1', o1', he1, _, cs', hcl', hcell', rfl, g0', g1', _, _⟩ := (HL.out.2.2.below rMeta_good hbw) jj hjl
    simp only [Option.some.injEq, Addr.mk.injEq, and_true] at he1
    obtain ⟨rfl, rfl⟩ := he1
    have j0 := hcell' 0 _ rfl
    rw [Nat.add_zero] at j0
    have qj : ∀ W, Below wp.heap.size wp W → W.cell? ⟨b1, o1 + jj * 4, none⟩ = some (.int .i64 l[jj].fNo) := fun W hb => ((bthen hbp hb).cell (p := ⟨b1, o1 + jj * 4, none⟩) hB').trans j0
    have HLN : Hid (lastNo (l.take (jj + 1)) = l[jj].fNo) := lastNo_take hjl
    have hwr : IntKind.i64.wrap (jj : Int) = (jj : Int) := by rw [IntKind.wrap_i64]; omega
    have hj1 : (0 : Int) ≤ (jj : Int) := by omega
    have hj2 : (jj : Int) < (n : Int) := by omega
    clear hcell' hcl' j0 g0' g1'
    generalize l[jj].fNo = pn at *
    by_cases hP : pn < x.fNo
    ·have HLT : Hid (lastNo (l.take (jj + 1)) < x.fNo) := by show _ < _; rw [HLN.out]; exact hP
     have hP2 : decide (x.fNo ≤ pn) = false := decide_eq_false (by omega)
     go_wp2_with fail
     rw [← hwp]
     clear hwp
     refine wp_region_held_drew (S := fun W => Below wp.heap.size wp W) (by kernel_rfl) (Below.drew (Below.refl _ _)) (fun hHeld => ?_)
     refine uq 0 qd9b_31_7_0 38 hHeld ?_
     refine uq 1 qd9b_31_7_1 39 hHeld ?_
     refine ar1 2 qd9b_31_7_2 fun K hK => ?_
     go_simp
     refine Calls.mono (hCm _) ?_
     rintro e w1 ⟨rfl, hx1⟩
     go_wp2_with fail
     refine hK.out _ _ (bthen hHeld hx1) (fun hHeld => ?_)
     clear hK K
     try simp only[Act.put,sa,s0,s1]
     refine uq 3 qd9b_31_7_3 41 hHeld ?_
     refine uq 4 qd9b_31_7_4 42 hHeld ?_
     refine uq 5 qd9b_31_7_5 43 hHeld ?_
     refine uq 6 qd9b_31_7_6 44 hHeld ?_
     refine uq 7 qd9b_31_7_7 45 hHeld ?_
     refine uq 8 qd9b_31_7_8 46 hHeld ?_
     refine uq 9 qd9b_31_7_9 47 hHeld ?_
     refine uq 10 qd9b_31_7_10 48 hHeld ?_
     refine uq 11 qd9b_31_7_11 49 hHeld ?_
     refine uq 12 qd9b_31_7_12 50 hHeld ?_
     refine uq 13 qd9b_31_7_13 51 hHeld ?_
     refine uq 14 qd9b_31_7_14 52 hHeld ?_
     refine uq 15 qd9b_31_7_15 53 hHeld ?_
     refine uq 16 qd9b_31_7_16 54 hHeld ?_
     refine uq 17 qd9b_31_7_17 55 hHeld ?_
     refine uq 18 qd9b_31_7_18 56 hHeld ?_
     refine uq 19 qd9b_31_7_19 57 hHeld ?_
     refine wpAnyH_done (by kernel_rfl) ?_ _
     generalize wr = wo at *
     go_wp2_with fail
     go_loopw [5] (fun i wr => ∃ j : Nat, j ≤ (jj + 1) ∧ i = .int .i64 j ∧ Hid (∀ i, (hi : i < l.length) → i < j → meetP x l[i] = false) ∧ Below wp.heap.size wp wr) (fun i _ => (jj + 1) - (intOf i).toNat)
     case atStart => exact ⟨0, Nat.zero_le _, rfl, fun i _ h => by omega, hHeld⟩
     case round =>
      obtain ⟨j, hj, rfl, HJ, hbv⟩ := hrel
      by_cases hlt2 : j < (jj + 1)
      ·have hjl2 : j < l.length := by omega
       obtain ⟨b2, o2, he2, _, cs2, hcl2, hcell2, rfl, e0, e1, e2, e3, _⟩ := (HL.out.2.2.below rMeta_good (bthen (bthen hbw hbp) hbv)) j hjl2
       simp only [Option.some.injEq, Addr.mk.injEq, and_true] at he2
       obtain ⟨rfl, rfl⟩ := he2
       have c0' := hcell2 0 _ rfl
       have c1 := hcell2 1 _ rfl
       have c2 := hcell2 2 _ rfl
       have c3 := hcell2 3 _ rfl
       rw [Nat.add_zero] at c0'
       have HN0 : Hid (meetP x l[j] = false → ∀ i, (hi : i < l.length) → i < j + 1 → meetP x l[i] = false) := fun h i hi hlt => by
        by_cases he : i = j
        ·subst he; exact h
        ·exact HJ.out i hi (by omega)
       have HB0 : Hid (meetP x l[j] = true → manOkP m = false) := fun h => HBad.out (tabAt_bad3 (by omega) hjl2 h)
       have HMU : Hid (meetP x l[j] = (decide (0 < x.fLevel) && decide (l[j].fLevel = x.fLevel) && kLe l[j].fLo x.fHi && kLe x.fLo l[j].fHi)) := rfl
       clear hcell2 hcl2 p0 q0 q1 qj hCm
       replace p1 := p1 _ hbv
       replace p2 := p2 _ hbv
       replace p3 := p3 _ hbv
       replace q2 := q2 _ hbv
       have hv1 : w.heap.size < wr.heap.size := Nat.lt_of_lt_of_le hlr (Nat.le_trans hbp.size hbv.size)
       have hv2 : wo.heap.size < wr.heap.size := Nat.lt_of_lt_of_le hbxp.1 hbv.size
       have hv3 : b1 < wr.heap.size := by omega
       generalize meetP x l[j] = mt at *
       generalize l[j] = u at *
       by_cases hL0 : 0 < x.fLevel
       rotate_left
       ·have HN := Hid.mk (HN0.out (by rw [HMU.out, decide_eq_false hL0]; rfl))
        go_wp2_with fail
        go_roundw
        case rel => exact ⟨j + 1, by omega, by go_num, HN, bthen hbv ((Below.refl _ _).alloc (Nat.le_refl _) _)⟩
        case measure => simp [intOf]; omega
       by_cases hL1 : u.fLevel = x.fLevel
       rotate_left
       ·have HN := Hid.mk (HN0.out (by rw [HMU.out, decide_eq_false hL1]; simp))
        go_wp2_with fail
        go_roundw
        case rel => exact ⟨j + 1, by omega, by go_num, HN, bthen hbv ((Below.refl _ _).alloc (Nat.le_refl _) _)⟩
        case measure => simp [intOf]; omega
       have HMU2 : Hid (mt = (kLe u.fLo x.fHi && kLe x.fLo u.fHi)) := by show _ = _; rw [HMU.out, decide_eq_true hL0, decide_eq_true hL1]; rfl
       clear HMU
       rw [hL1] at c1
       clear hL1
       by_cases hK1 : kLe u.fLo x.fHi = true
       rotate_left
       ·have hK1f := Bool.eq_false_iff.2 hK1
        have HN := Hid.mk (HN0.out (by rw [HMU2.out, hK1f]; rfl))
        obtain ⟨hq1, hq2⟩ := kLe_no hK1f
        clear hK1 hK1f
        go_wp2_with fail
        go_roundw
        case rel => exact ⟨j + 1, by omega, by go_num, HN, bthen hbv ((Below.refl _ _).alloc (Nat.le_refl _) _)⟩
        case measure => simp [intOf]; omega
       by_cases hK2 : kLe x.fLo u.fHi = true
       rotate_left
       ·have hK2f := Bool.eq_false_iff.2 hK2
        have HN := Hid.mk (HN0.out (by rw [HMU2.out, hK2f]; simp))
        obtain ⟨hq1, hq2⟩ := kLe_no hK2f
        have hr := kLe_yes hK1
        clear hK1 hK2 hK2f
        rcases hr with hr | hr
        ·go_wp2_with fail
         go_roundw
         case rel => exact ⟨j + 1, by omega, by go_num, HN, bthen hbv ((Below.refl _ _).alloc (Nat.le_refl _) _)⟩
         case measure => simp [intOf]; omega
        ·go_wp2_with fail
         go_roundw
         case rel => exact ⟨j + 1, by omega, by go_num, HN, bthen hbv ((Below.refl _ _).alloc (Nat.le_refl _) _)⟩
         case measure => simp [intOf]; omega
       have HD : Hid (manOkP m = false) := HB0.out (by rw [HMU2.out, hK1, hK2]; rfl)
       have hr := kLe_yes hK1
       have hs := kLe_yes hK2
       clear hK1 hK2
       rcases hr with hr | hr
       ·rcases hs with hs | hs
        ·go_wp2_with fail
         go_ret
         exact ⟨by rw [HD.out]; rfl, bthen hbq (bthen hbkp (bthen hbv ((Below.refl _ _).alloc (Nat.le_refl _) _)))⟩
        ·go_wp2_with fail
         go_ret
         exact ⟨by rw [HD.out]; rfl, bthen hbq (bthen hbkp (bthen hbv ((Below.refl _ _).alloc (Nat.le_refl _) _)))⟩
       ·rcases hs with hs | hs
        ·go_wp2_with fail
         go_ret
         exact ⟨by rw [HD.out]; rfl, bthen hbq (bthen hbkp (bthen hbv ((Below.refl _ _).alloc (Nat.le_refl _) _)))⟩
        ·go_wp2_with fail
         go_ret
         exact ⟨by rw [HD.out]; rfl, bthen hbq (bthen hbkp (bthen hbv ((Below.refl _ _).alloc (Nat.le_refl _) _)))⟩
      ·have hje : j = (jj + 1) := by omega
       subst hje
       have HGD := Hid.mk (HG.out (tabAt_good HM.out HLT.out (fun i hi hlt => HJ.out i hi (by omega))))
       go_wp2_with fail
       go_roundw
       case rel => exact ⟨(jj + 1) + 1, by omega, by go_num, HGD, bthen hbkp hbv⟩
       case measure => simp [intOf]; omega
    ·have HD : Hid (manOkP m = false) := HBad.out (tabAt_bad2 (by rw [HLN.out]; omega))
     have hP2 : x.fNo ≤ pn := by omega
     go_wp2_with fail
     rw [← hwp]
     clear hwp
     refine wp_region_held_drew (S := fun W => Below wp.heap.size wp W) (by kernel_rfl) (Below.drew (Below.refl _ _)) (fun hHeld => ?_)
     refine uq 0 qd9b_31_7_0 38 hHeld ?_
     refine uq 1 qd9b_31_7_1 39 hHeld ?_
     refine ar1 2 qd9b_31_7_2 fun K hK => ?_
     go_simp
     refine Calls.mono (hCm _) ?_
     rintro e w1 ⟨rfl, hx1⟩
     go_wp2_with fail
     refine hK.out _ _ (bthen hHeld hx1) (fun hHeld => ?_)
     clear hK K
     try simp only[Act.put,sa,s0,s1]
     refine uq 3 qd9b_31_7_3 41 hHeld ?_
     refine uq 4 qd9b_31_7_4 42 hHeld ?_
     refine uq 5 qd9b_31_7_5 43 hHeld ?_
     refine uq 6 qd9b_31_7_6 44 hHeld ?_
     refine uq 7 qd9b_31_7_7 45 hHeld ?_
     refine uq 8 qd9b_31_7_8 46 hHeld ?_
     refine uq 9 qd9b_31_7_9 47 hHeld ?_
     refine uq 10 qd9b_31_7_10 48 hHeld ?_
     refine uq 11 qd9b_31_7_11 49 hHeld ?_
     refine uq 12 qd9b_31_7_12 50 hHeld ?_
     refine uq 13 qd9b_31_7_13 51 hHeld ?_
     refine uq 14 qd9b_31_7_14 52 hHeld ?_
     refine uq 15 qd9b_31_7_15 53 hHeld ?_
     refine uq 16 qd9b_31_7_16 54 hHeld ?_
     refine uq 17 qd9b_31_7_17 55 hHeld ?_
     refine uq 18 qd9b_31_7_18 56 hHeld ?_
     refine uq 19 qd9b_31_7_19 57 hHeld ?_
     refine wpAnyH_done (by kernel_rfl) ?_ _
     go_wp2_with fail
     go_ret
     exact ⟨by rw [HD.out]; rfl, bthen hbq (bthen hbkp hHeld)⟩
  ·have HD : Hid (manOkP m = true) := by show _ = _; rw [HV2.out, HI.out]; exact tabs_end (by rw [HX.out]; omega)
   go_wp2_with fail
   go_ret
   exact ⟨by rw [HD.out]; rfl, hbw⟩
abbrev q936_34_3_0 : Oper := ⟨some 9, .fieldAddr 31 (.tmp 1) 0, 0, "l06_manifest.go:69", #[], none⟩
abbrev q936_34_3_1 : Oper := ⟨some 10, .load 3 (.tmp 9), 3, "l06_manifest.go:69", #[⟨0, .data⟩], none⟩
abbrev q936_34_3_5 : Oper := ⟨some 14, .fieldAddr 31 (.tmp 1) 1, 0, "l06_manifest.go:69", #[], none⟩
abbrev q936_34_3_6 : Oper := ⟨some 15, .load 3 (.tmp 14), 3, "l06_manifest.go:69", #[⟨5, .data⟩], none⟩
abbrev q936_34_3_2 : Oper := ⟨some 11, .call { callee := .value (.func 30), args := #[.tmp 10], argTypes := #[3] }, 9, "l06_manifest.go:69", #[⟨1, .data⟩], none⟩
abbrev q936_34_3_3 : Oper := ⟨some 12, .binOp .add 9 (.const (.string { data := #[110, 101, 120, 116, 32] })) (.tmp 11) 9, 9, "l06_manifest.go:69", #[⟨2, .data⟩], none⟩
abbrev q936_34_3_4 : Oper := ⟨some 13, .binOp .add 9 (.tmp 12) (.const (.string { data := #[32, 108, 111, 103, 32] })) 9, 9, "l06_manifest.go:69", #[⟨3, .data⟩], none⟩
abbrev q936_34_3_7 : Oper := ⟨some 16, .call { callee := .value (.func 30), args := #[.tmp 15], argTypes := #[3] }, 9, "l06_manifest.go:69", #[⟨6, .data⟩, ⟨2, .chain⟩], none⟩
abbrev q936_34_3_8 : Oper := ⟨some 17, .binOp .add 9 (.tmp 13) (.tmp 16) 9, 9, "l06_manifest.go:69", #[⟨4, .data⟩, ⟨7, .data⟩], none⟩
abbrev q936_34_3_9 : Oper := ⟨some 18, .binOp .add 9 (.tmp 17) (.const (.string { data := #[10] })) 9, 9, "l06_manifest.go:69", #[⟨8, .data⟩], none⟩
abbrev q936_34_3_10 : Oper := ⟨some 3, .assign (.tmp 18), 9, "l06_manifest.go:69", #[⟨9, .data⟩, ⟨7, .chain⟩, ⟨0, .phase⟩, ⟨1, .phase⟩, ⟨2, .phase⟩, ⟨3, .phase⟩, ⟨4, .phase⟩, ⟨5, .phase⟩, ⟨6, .phase⟩, ⟨7, .phase⟩, ⟨8, .phase⟩, ⟨9, .phase⟩], none⟩
abbrev q936_34_8_0 : Oper := ⟨some 31, .move (.tmp 3), 9, "l06_manifest.go:72", #[], none⟩
abbrev q936_34_8_1 : Oper := ⟨some 32, .binOp .add 9 (.tmp 31) (.const (.string { data := #[116, 97, 98, 32] })) 9, 9, "l06_manifest.go:72", #[⟨0, .data⟩], none⟩
abbrev q936_34_8_2 : Oper := ⟨some 33, .fieldAddr 82 (.tmp 5) 0, 0, "l06_manifest.go:72", #[], none⟩
abbrev q936_34_8_3 : Oper := ⟨some 34, .load 3 (.tmp 33), 3, "l06_manifest.go:72", #[⟨2, .data⟩], none⟩
abbrev q936_34_8_7 : Oper := ⟨some 38, .fieldAddr 82 (.tmp 5) 1, 0, "l06_manifest.go:72", #[], none⟩
abbrev q936_34_8_8 : Oper := ⟨some 39, .load 3 (.tmp 38), 3, "l06_manifest.go:72", #[⟨7, .data⟩], none⟩
abbrev q936_34_8_12 : Oper := ⟨some 43, .fieldAddr 82 (.tmp 5) 2, 0, "l06_manifest.go:72", #[], none⟩
abbrev q936_34_8_13 : Oper := ⟨some 44, .load 9 (.tmp 43), 9, "l06_manifest.go:72", #[⟨12, .data⟩], none⟩
abbrev q936_34_8_17 : Oper := ⟨some 48, .fieldAddr 82 (.tmp 5) 3, 0, "l06_manifest.go:72", #[], none⟩
abbrev q936_34_8_18 : Oper := ⟨some 49, .load 9 (.tmp 48), 9, "l06_manifest.go:72", #[⟨17, .data⟩], none⟩
abbrev q936_34_8_4 : Oper := ⟨some 35, .call { callee := .value (.func 30), args := #[.tmp 34], argTypes := #[3] }, 9, "l06_manifest.go:72", #[⟨3, .data⟩], none⟩
abbrev q936_34_8_5 : Oper := ⟨some 36, .binOp .add 9 (.tmp 32) (.tmp 35) 9, 9, "l06_manifest.go:72", #[⟨1, .data⟩, ⟨4, .data⟩], none⟩
abbrev q936_34_8_6 : Oper := ⟨some 37, .binOp .add 9 (.tmp 36) (.const (.string { data := #[32] })) 9, 9, "l06_manifest.go:72", #[⟨5, .data⟩], none⟩
abbrev q936_34_8_9 : Oper := ⟨some 40, .call { callee := .value (.func 30), args := #[.tmp 39], argTypes := #[3] }, 9, "l06_manifest.go:72", #[⟨8, .data⟩, ⟨4, .chain⟩], none⟩
abbrev q936_34_8_10 : Oper := ⟨some 41, .binOp .add 9 (.tmp 37) (.tmp 40) 9, 9, "l06_manifest.go:72", #[⟨6, .data⟩, ⟨9, .data⟩], none⟩
abbrev q936_34_8_11 : Oper := ⟨some 42, .binOp .add 9 (.tmp 41) (.const (.string { data := #[32] })) 9, 9, "l06_manifest.go:72", #[⟨10, .data⟩], none⟩
abbrev q936_34_8_14 : Oper := ⟨some 45, .call { callee := .value (.func 68), args := #[.tmp 44], argTypes := #[9] }, 9, "l06_manifest.go:72", #[⟨13, .data⟩, ⟨9, .chain⟩], none⟩
abbrev q936_34_8_15 : Oper := ⟨some 46, .binOp .add 9 (.tmp 42) (.tmp 45) 9, 9, "l06_manifest.go:72", #[⟨11, .data⟩, ⟨14, .data⟩], none⟩
abbrev q936_34_8_16 : Oper := ⟨some 47, .binOp .add 9 (.tmp 46) (.const (.string { data := #[32] })) 9, 9, "l06_manifest.go:72", #[⟨15, .data⟩], none⟩
abbrev q936_34_8_19 : Oper := ⟨some 50, .call { callee := .value (.func 68), args := #[.tmp 49], argTypes := #[9] }, 9, "l06_manifest.go:72", #[⟨18, .data⟩, ⟨14, .chain⟩], none⟩
abbrev q936_34_8_20 : Oper := ⟨some 51, .binOp .add 9 (.tmp 47) (.tmp 50) 9, 9, "l06_manifest.go:72", #[⟨16, .data⟩, ⟨19, .data⟩], none⟩
abbrev q936_34_8_21 : Oper := ⟨some 52, .binOp .add 9 (.tmp 51) (.const (.string { data := #[10] })) 9, 9, "l06_manifest.go:72", #[⟨20, .data⟩], none⟩
abbrev q936_34_8_22 : Oper := ⟨some 3, .assign (.tmp 52), 9, "l06_manifest.go:72", #[⟨21, .data⟩, ⟨19, .chain⟩, ⟨0, .phase⟩, ⟨1, .phase⟩, ⟨2, .phase⟩, ⟨3, .phase⟩, ⟨4, .phase⟩, ⟨5, .phase⟩, ⟨6, .phase⟩, ⟨7, .phase⟩, ⟨8, .phase⟩, ⟨9, .phase⟩, ⟨10, .phase⟩, ⟨11, .phase⟩, ⟨12, .phase⟩, ⟨13, .phase⟩, ⟨14, .phase⟩, ⟨15, .phase⟩, ⟨16, .phase⟩, ⟨17, .phase⟩, ⟨18, .phase⟩, ⟨19, .phase⟩, ⟨20, .phase⟩, ⟨21, .phase⟩], none⟩
theorem conv_one (w : World) (x : Int) : (convert 51 9 (.slice (some ⟨w.heap.size, 0, none⟩) 1 1)).run Tryz.prog (w.alloc (.cells #[.int .u8 x] 5)) = .ok (.string (strOfNums [x])) (w.alloc (.cells #[.int .u8 x] 5)) :=
 run_convert_bytes_arg _ 51 5 Tryz.underlying51 Tryz.underlying5 w.heap.size 0 1 1 [x] rfl (fun i hi => by
  have h0 : i = 0 := by omega
  subst h0
  simp) 9 Tryz.underlying9
theorem conv_cell {w : World} {g : Nat} {x : Int} (h : w.cell? ⟨g, 0, none⟩ = some (.int .u8 x)) : (convert 51 9 (.slice (some ⟨g, 0, none⟩) 1 1)).run Tryz.prog w = .ok (.string (strOfNums [x])) w :=
 run_convert_bytes_arg _ 51 5 Tryz.underlying51 Tryz.underlying5 g 0 1 1 [x] rfl (fun i hi => by
  have h0 : i = 0 := by omega
  subst h0
  simpa using h) 9 Tryz.underlying9
theorem str_one {x : Int} : strOfNums [x] = strB [UInt8.ofNat x.toNat] := rfl
set_option maxHeartbeats 2000000 in
theorem l6Text_any : ∀ (f : Nat) (n : Int) (w : World), 0 ≤ n → n.toNat < f → n ≤ 100000 →
  Calls Tryz.prog 30 #[.int .i64 n] w fun e w' => e = .returned (.string (strB (decD n))) ∧ Below w.heap.size w w'
 | 0, n, w, h0, h1, h2 => by omega
 | f + 1, n, w, h0, h1, h2 => by
  by_cases hlt : n < 10
  ·have HV : Hid (strOfNums [48 + n] = strB (decD n)) := by show _ = _; rw [str_one, decD_small h0 hlt]; congr 3; omega
   have hcv := conv_one w (48 + n)
   have hw1 : IntKind.u8.wrap (48 + n) = 48 + n := by rw [IntKind.wrap_u8]; omega
   rw [HV.out] at hcv
   go_enter Tryz.func30, Tryz.ntmps30
   go_wp2_with fail
   go_ret
   exact ⟨rfl, (Below.refl _ _).alloc (Nat.le_refl _) _⟩
  ·have ih := fun W => l6Text_any f (n / 10) W (by omega) (by omega) (by omega)
   have hd := decD_len (n := n / 10) (by omega)
   have HV : Hid (strB (decD (n / 10)) ++ strOfNums [48 + n % 10] = strB (decD n)) := by
    show _ = _
    rw [str_one, strB_app, decD_big (n := n) (by omega), show (48 + n % 10).toNat = 48 + (n % 10).toNat by omega]
   have hz1 : (strB (decD (n / 10))).size ≤ 100001 := by rw [strB_size]; exact hd
   have hz2 : (strOfNums [48 + n % 10]).size = 1 := strOfNums_size _
   have hcv := fun (W : World) (g : Nat) (h : W.cell? ⟨g, 0, none⟩ = some (.int .u8 (48 + n % 10))) => conv_cell h
   have e1 : n.tdiv 10 = n / 10 := Int.tdiv_eq_ediv_of_nonneg h0
   have e2 : n.tmod 10 = n % 10 := Int.tmod_eq_emod_of_nonneg h0
   have hw0 : IntKind.i64.wrap (n / 10) = n / 10 := by rw [IntKind.wrap_i64]; omega
   have hw3 : IntKind.i64.wrap (n % 10) = n % 10 := by rw [IntKind.wrap_i64]; omega
   have hw4 : IntKind.i64.wrap (48 + n % 10) = 48 + n % 10 := by rw [IntKind.wrap_i64]; omega
   have hw1 : IntKind.u8.wrap (48 + n % 10) = 48 + n % 10 := by rw [IntKind.wrap_u8]; omega
   generalize strB (decD (n / 10)) = s1 at *
   generalize strOfNums [48 + n % 10] = s2 at *
   go_enter Tryz.func30, Tryz.ntmps30
   go_wp2_with fail
   go_region_with (go_at_call 30; refine (ih _).mono ?_; rintro e w1 ⟨rfl, hx1⟩; have hc1 := fun hs => hx1.cell (p := ⟨w.heap.size, 0, none⟩) hs)
   all_goals
    have hx2 := Hid.mk hx1
    clear hx1 hc1 hcv ih
    go_wp2_with fail
    go_ret
    refine ⟨by rw [HV.out]; rfl, ?_⟩
    have hx1 := hx2.out
    first | exact bthen (Below.drew (Below.refl _ _)) (hx1.alloc hx1.size _) | exact Below.alloc (bthen (Below.drew (Below.refl _ _)) hx1) hx1.size _ | exact bthen ((Below.refl _ _).alloc (Nat.le_refl _) _) hx1 | exact bthen (Below.drew ((Below.refl _ _).alloc (Nat.le_refl _) _)) hx1
set_option maxHeartbeats 8000000 in
theorem specManText_c (cs : List Value) (m : MManifest) (w : World) (hr : rManifest w.heap.size w cs m) (hw : wManifest m ≤ 1048576) :
  Calls Tryz.prog 34 #[.agg cs.toArray] w fun e w' => e = .returned (.string (manTextP m)) ∧ Below w.heap.size w w' := by
 have HRD := Hid.mk hr
 have HWW := Hid.mk hw
 obtain ⟨a0, c0, rfl, hwf0, hwf1, hL, _⟩ := hr
 have HL := Hid.mk hL
 obtain ⟨l, hl⟩ : ∃ l, l = m.fTables := ⟨_, rfl⟩
 obtain ⟨n, hx⟩ : ∃ n, n = l.length := ⟨_, rfl⟩
 have hn : n ≤ 1048576 := by have h : m.fTables.length + sumW wMeta m.fTables ≤ 1048576 := hw; rw [hx, hl]; omega
 have HSW : Hid (sumW wMeta l ≤ 1048576) := by show _ ≤ _; have h : m.fTables.length + sumW wMeta m.fTables ≤ 1048576 := hw; rw [hl]; omega
 have HLM := Hid.mk hl
 rw [← hl] at HL ⊢
 have HRD2 : Hid (rManifest w.heap.size w [.int .i64 m.fNext, .int .i64 m.fLog, .slice a0 n c0] m) := by have h := HRD.out; rw [← hl, ← hx] at h; exact h
 rw [← hx]
 have HX := Hid.mk hx.symm
 clear hL hw hl hx hwf0 hwf1 HRD
 go_enter Tryz.func34, Tryz.ntmps34
 obtain ⟨wq, hwq⟩ : ∃ wq, wq = w.alloc (.cells #[.int .i64 m.fNext, .int .i64 m.fLog, .slice a0 n c0] 31) := ⟨_, rfl⟩
 have hbq : Below w.heap.size w wq := by rw [hwq]; exact (Below.refl _ _).alloc (Nat.le_refl _) _
 have hbx : Bx wq w.heap.size [.int .i64 m.fNext, .int .i64 m.fLog, .slice a0 n c0] := by rw [hwq]; exact Bx.new _ _ _
 have y0 := hbx.2 0 _ rfl
 have y1 := hbx.2 1 _ rfl
 have y2 := hbx.2 2 _ rfl
 have hz := hbx.1
 go_wp2_with (rw [← hwq])
 refine (specManOk_c [.int .i64 m.fNext, .int .i64 m.fLog, .slice a0 n c0] m wq (rManifest_good.mono (rManifest_good.below HRD2.out hbq) hbq.size) HWW.out).mono ?_
 rintro e wm ⟨rfl, hxm⟩
 have hb1 := bthen hbq hxm
 by_cases hok : manOkP m = true
 rotate_left
 ·have hokf := Bool.eq_false_iff.2 hok
  have HD := Hid.mk (manTextP_no hokf)
  rw [hokf]
  go_wp2_with fail
  go_ret
  exact ⟨by rw [HD.out]; rfl, hb1⟩
 have HF := Hid.mk (manOkP_facts hok)
 have HD := Hid.mk (manTextP_yes hok)
 rw [hok]
 obtain ⟨HT, HHT⟩ : ∃ x : List UInt8, Hid (x = headT m ++ [10]) := ⟨_, Hid.mk rfl⟩
 have HD2 : Hid (manTextP m = strB (HT ++ linesT l ++ [101, 110, 100, 10])) := by show _ = _; rw [HD.out, HHT.out, HLM.out]; apply strB_inj; simp [manTextL, endW]
 have hhl : HT.length ≤ 300001 := by rw [HHT.out, List.length_append]; have h := headT_len HF.out; simp; omega
 have hn20 : n ≤ 20 := by rw [← HX.out, HLM.out]; exact HF.out.len
 have hnx0 : 0 ≤ m.fNext := by have := HF.out.nx0; omega
 have hnx1 : m.fNext ≤ 100000 := HF.out.nx1
 have hlg0 : 0 ≤ m.fLog := HF.out.lg0
 have hlg1 : m.fLog ≤ 100000 := by have := HF.out.lg1; omega
 have hE : Hid (∀ t, t ∈ l → MetaOk m.fNext t) := by rw [HLM.out]; exact HF.out.each
 have q0 : ∀ W, Below wm.heap.size wm W → W.cell? ⟨w.heap.size, 0, none⟩ = some (.int .i64 m.fNext) := fun W hb => ((hbx.under hxm).under hb).2 0 _ rfl
 have q1 : ∀ W, Below wm.heap.size wm W → W.cell? ⟨w.heap.size, 1, none⟩ = some (.int .i64 m.fLog) := fun W hb => ((hbx.under hxm).under hb).2 1 _ rfl
 have q2 : ∀ W, Below wm.heap.size wm W → W.cell? ⟨w.heap.size, 2, none⟩ = some (.slice a0 n c0) := fun W hb => ((hbx.under hxm).under hb).2 2 _ rfl
 have hC1 := fun W => l6Text_any (m.fNext.toNat + 1) m.fNext W hnx0 (by omega) hnx1
 have hC2 := fun W => l6Text_any (m.fLog.toNat + 1) m.fLog W hlg0 (by omega) hlg1
 obtain ⟨d1, HD1⟩ : ∃ d, Hid (d = strB (decD m.fNext)) := ⟨_, rfl⟩
 obtain ⟨d2, HD3⟩ : ∃ d, Hid (d = strB (decD m.fLog)) := ⟨_, rfl⟩
 have hd1 : d1.size ≤ 100001 := by rw [HD1.out, strB_size]; exact decD_len hnx1
 have hd2 : d2.size ≤ 100001 := by rw [HD3.out, strB_size]; exact decD_len hlg1
 rw [← HD1.out] at hC1
 rw [← HD3.out] at hC2
 have HH : Hid ((⟨#[110, 101, 120, 116, 32]⟩ : ByteArray) ++ d1 ++ ⟨#[32, 108, 111, 103, 32]⟩ ++ d2 ++ ⟨#[10]⟩ = strB HT) := by
  show _ = _
  rw [HD1.out, HD3.out, HHT.out, show (⟨#[110, 101, 120, 116, 32]⟩ : ByteArray) = strB nextW from rfl, show (⟨#[32, 108, 111, 103, 32]⟩ : ByteArray) = strB logW from rfl, show (⟨#[10]⟩ : ByteArray) = strB [10] from rfl]
  simp only [strB_app, headT]
 clear HF HD HHT hok y0 y1 y2 hwq
 have n1 : (9223372036854775807 < 5 + d1.size) = False := eq_false (by omega)
 have n2 : (9223372036854775807 < 5 + d1.size + 5) = False := eq_false (by omega)
 have n3 : (9223372036854775807 < 5 + d1.size + 5 + d2.size) = False := eq_false (by omega)
 have n4 : (9223372036854775807 < 5 + d1.size + 5 + d2.size + 1) = False := eq_false (by omega)
 go_wp2_with fail
 refine wp_region_held_drew (S := fun W => Below wm.heap.size wm W) (by kernel_rfl) (Below.drew (Below.refl _ _)) (fun hHeld => ?_)
 refine uq 0 q936_34_3_0 9 hHeld ?_
 refine uq 1 q936_34_3_1 10 hHeld ?_
 refine uq 5 q936_34_3_5 14 hHeld ?_
 refine uq 6 q936_34_3_6 15 hHeld ?_
 refine ar1 2 q936_34_3_2 fun K hK => ?_
 go_simp
 refine Calls.mono (hC1 _) ?_
 rintro e w1 ⟨rfl, hx1⟩
 go_wp2_with fail
 refine hK.out _ _ (bthen hHeld hx1) (fun hHeld => ?_)
 clear hK K
 try simp only[Act.put,sa,s0,s1]
 refine uq 3 q936_34_3_3 12 hHeld ?_
 refine uq 4 q936_34_3_4 13 hHeld ?_
 refine ar1 7 q936_34_3_7 fun K hK => ?_
 go_simp
 refine Calls.mono (hC2 _) ?_
 rintro e w2 ⟨rfl, hx2⟩
 go_wp2_with fail
 refine hK.out _ _ (bthen hHeld hx2) (fun hHeld => ?_)
 clear hK K
 try simp only[Act.put,sa,s0,s1]
 refine uq 8 q936_34_3_8 17 hHeld ?_
 refine uq 9 q936_34_3_9 18 hHeld ?_
 refine uq 10 q936_34_3_10 3 hHeld ?_
 refine wpAnyH_done (by kernel_rfl) ?_ _
 rw [HH.out]
 clear HH n1 n2 n3 n4 hC1 hC2
 go_wp2_with fail
 obtain ⟨wa, hwa⟩ : ∃ x, x = w2 := ⟨_, rfl⟩
 have hba : Below wm.heap.size wm wa := by rw [hwa]; exact hHeld
 rw [← hwa]
 clear hHeld hwa
 go_loopw [3, 4] (fun v i wr => ∃ k : Nat, k ≤ n ∧ i = .int .i64 k ∧ v = .string (strB (HT ++ linesT (l.take k))) ∧ Below wm.heap.size wm wr) (fun _ i _ => n - (intOf i).toNat)
 case atStart => exact ⟨0, Nat.zero_le _, rfl, by simp [linesT], hba⟩
 case round =>
  obtain ⟨k, hk, rfl, rfl, hbk⟩ := hrel
  have hbw := bthen hb1 hbk
  have hbz := hbw.size
  have y2 := q2 _ hbk
  have hlr : w.heap.size < wr.heap.size := Nat.lt_of_lt_of_le hz (Nat.le_trans hxm.size hbk.size)
  have hcl : (linesT (l.take k)).length ≤ 20 * 300001 := by
   have h := linesT_len (l := l.take k) (fun t ht => hE.out t (List.mem_of_mem_take ht)) hnx1
   have h2 : (l.take k).length ≤ 20 := by rw [List.length_take]; omega
   exact Nat.le_trans h (Nat.mul_le_mul_right _ h2)
  have hcu : (strB (HT ++ linesT (l.take k))).size ≤ 6300021 := by rw [strB_size, List.length_append]; omega
  by_cases hlt : k < n
  ·have hkl : k < l.length := by rw [HX.out]; exact hlt
   obtain ⟨b1, o1, rfl, hB, cs, hcl, hcell, rfl, g0, g1, g2, g3, _⟩ := (HL.out.2.2.below rMeta_good hbw) k hkl
   have hB' : b1 < wr.heap.size := by omega
   have k0 := hcell 0 _ rfl
   have k1 := hcell 1 _ rfl
   have k2 := hcell 2 _ rfl
   have k3 := hcell 3 _ rfl
   rw [Nat.add_zero] at k0
   have hM := hE.out l[k] (List.getElem_mem hkl)
   have HLT := Hid.mk (linesT_take hkl)
   obtain ⟨x, hxk⟩ : ∃ x, x = l[k] := ⟨_, rfl⟩
   rw [← hxk] at k0 k1 k2 k3 g0 g1 g2 g3 HLT hM
   clear hcell hcl hxk
   obtain ⟨wp, hwp⟩ : ∃ wp, wp = wr.alloc (.cells #[.int .i64 x.fNo, .int .i64 x.fLevel, .string x.fLo, .string x.fHi] 82) := ⟨_, rfl⟩
   have hbp : Below wr.heap.size wr wp := by rw [hwp]; exact (Below.refl _ _).alloc (Nat.le_refl _) _
   have hbxp : Bx wp wr.heap.size [.int .i64 x.fNo, .int .i64 x.fLevel, .string x.fLo, .string x.fHi] := by rw [hwp]; exact Bx.new _ _ _
   have hbkp := bthen hbk hbp
   have p0 : ∀ W, Below wp.heap.size wp W → W.cell? ⟨wr.heap.size, 0, none⟩ = some (.int .i64 x.fNo) := fun W hb => (hbxp.under hb).2 0 _ rfl
   have p1 : ∀ W, Below wp.heap.size wp W → W.cell? ⟨wr.heap.size, 1, none⟩ = some (.int .i64 x.fLevel) := fun W hb => (hbxp.under hb).2 1 _ rfl
   have p2 : ∀ W, Below wp.heap.size wp W → W.cell? ⟨wr.heap.size, 2, none⟩ = some (.string x.fLo) := fun W hb => (hbxp.under hb).2 2 _ rfl
   have p3 : ∀ W, Below wp.heap.size wp W → W.cell? ⟨wr.heap.size, 3, none⟩ = some (.string x.fHi) := fun W hb => (hbxp.under hb).2 3 _ rfl
   have hno1 : x.fNo ≤ 100000 := by have := hM.no1; omega
   have hlv1 : x.fLevel ≤ 100000 := by have := hM.lv1; omega
   have hno0 : 0 ≤ x.fNo := by have := hM.no0; omega
   have hC1 := fun W => l6Text_any (x.fNo.toNat + 1) x.fNo W hno0 (by omega) hno1
   have hC2 := fun W => l6Text_any (x.fLevel.toNat + 1) x.fLevel W hM.lv0 (by omega) hlv1
   have hC3 := fun W => l6Hex_any x.fLo W (Nat.le_trans hM.lo (by omega))
   have hC4 := fun W => l6Hex_any x.fHi W (Nat.le_trans hM.hi (by omega))
   obtain ⟨d1, HD1⟩ : ∃ d, Hid (d = strB (decD x.fNo)) := ⟨_, Hid.mk rfl⟩
   obtain ⟨d2, HD3⟩ : ∃ d, Hid (d = strB (decD x.fLevel)) := ⟨_, Hid.mk rfl⟩
   obtain ⟨d3, HD4⟩ : ∃ d, Hid (d = strB (hexT x.fLo)) := ⟨_, Hid.mk rfl⟩
   obtain ⟨d4, HD5⟩ : ∃ d, Hid (d = strB (hexT x.fHi)) := ⟨_, Hid.mk rfl⟩
   have hd1 : d1.size ≤ 100001 := by rw [HD1.out, strB_size]; exact decD_len hno1
   have hd2 : d2.size ≤ 100001 := by rw [HD3.out, strB_size]; exact decD_len hlv1
   have hd3 : d3.size ≤ 40 := by rw [HD4.out, strB_size, hexT_len]; have := hM.lo; omega
   have hd4 : d4.size ≤ 40 := by rw [HD5.out, strB_size, hexT_len]; have := hM.hi; omega
   rw [← HD1.out] at hC1
   rw [← HD3.out] at hC2
   rw [← HD4.out] at hC3
   rw [← HD5.out] at hC4
   obtain ⟨cu, HCU⟩ : ∃ c, Hid (c = strB (HT ++ linesT (l.take k))) := ⟨_, Hid.mk rfl⟩
   have HE : Hid (cu ++ (⟨#[116, 97, 98, 32]⟩ : ByteArray) ++ d1 ++ ⟨#[32]⟩ ++ d2 ++ ⟨#[32]⟩ ++ d3 ++ ⟨#[32]⟩ ++ d4 ++ ⟨#[10]⟩ = strB (HT ++ linesT (l.take (k + 1)))) := by
    show _ = _
    rw [HCU.out, HLT.out, HD1.out, HD3.out, HD4.out, HD5.out, show (⟨#[116, 97, 98, 32]⟩ : ByteArray) = strB [116, 97, 98, 32] from rfl, show (⟨#[32]⟩ : ByteArray) = strB [32] from rfl, show (⟨#[10]⟩ : ByteArray) = strB [10] from rfl]
    simp only [strB_app]
    apply strB_inj
    simp [lineT, tabW]
   rw [← HCU.out] at hcu ⊢
   have n1 : (9223372036854775807 < cu.size + 4) = False := eq_false (by omega)
   have n2 : (9223372036854775807 < cu.size + 4 + d1.size) = False := eq_false (by omega)
   have n3 : (9223372036854775807 < cu.size + 4 + d1.size + 1) = False := eq_false (by omega)
   have n4 : (9223372036854775807 < cu.size + 4 + d1.size + 1 + d2.size) = False := eq_false (by omega)
   have n5 : (9223372036854775807 < cu.size + 4 + d1.size + 1 + d2.size + 1) = False := eq_false (by omega)
   have n6 : (9223372036854775807 < cu.size + 4 + d1.size + 1 + d2.size + 1 + d3.size) = False := eq_false (by omega)
   have n7 : (9223372036854775807 < cu.size + 4 + d1.size + 1 + d2.size + 1 + d3.size + 1) = False := eq_false (by omega)
   have n8 : (9223372036854775807 < cu.size + 4 + d1.size + 1 + d2.size + 1 + d3.size + 1 + d4.size) = False := eq_false (by omega)
   have n9 : (9223372036854775807 < cu.size + 4 + d1.size + 1 + d2.size + 1 + d3.size + 1 + d4.size + 1) = False := eq_false (by omega)
   clear hM HLT HD1 HD3 HD4 HD5 HCU
   go_wp2_with fail
   rw [← hwp]
   clear hwp
   refine wp_region_held_drew (S := fun W => Below wp.heap.size wp W) (by kernel_rfl) (Below.drew (Below.refl _ _)) (fun hHeld => ?_)
   refine uq 0 q936_34_8_0 31 hHeld ?_
   refine uq 1 q936_34_8_1 32 hHeld ?_
   refine uq 2 q936_34_8_2 33 hHeld ?_
   refine uq 3 q936_34_8_3 34 hHeld ?_
   refine uq 7 q936_34_8_7 38 hHeld ?_
   refine uq 8 q936_34_8_8 39 hHeld ?_
   refine uq 12 q936_34_8_12 43 hHeld ?_
   refine uq 13 q936_34_8_13 44 hHeld ?_
   refine uq 17 q936_34_8_17 48 hHeld ?_
   refine uq 18 q936_34_8_18 49 hHeld ?_
   refine ar1 4 q936_34_8_4 fun K hK => ?_
   go_simp
   refine Calls.mono (hC1 _) ?_
   rintro e w1 ⟨rfl, hx1⟩
   go_wp2_with fail
   refine hK.out _ _ (bthen hHeld hx1) (fun hHeld => ?_)
   clear hK K
   try simp only[Act.put,sa,s0,s1]
   refine uq 5 q936_34_8_5 36 hHeld ?_
   refine uq 6 q936_34_8_6 37 hHeld ?_
   refine ar1 9 q936_34_8_9 fun K hK => ?_
   go_simp
   refine Calls.mono (hC2 _) ?_
   rintro e w2 ⟨rfl, hx2⟩
   go_wp2_with fail
   refine hK.out _ _ (bthen hHeld hx2) (fun hHeld => ?_)
   clear hK K
   try simp only[Act.put,sa,s0,s1]
   refine uq 10 q936_34_8_10 41 hHeld ?_
   refine uq 11 q936_34_8_11 42 hHeld ?_
   refine ar1 14 q936_34_8_14 fun K hK => ?_
   go_simp
   refine Calls.mono (hC3 _) ?_
   rintro e w3 ⟨rfl, hx3⟩
   go_wp2_with fail
   refine hK.out _ _ (bthen hHeld hx3) (fun hHeld => ?_)
   clear hK K
   try simp only[Act.put,sa,s0,s1]
   refine uq 15 q936_34_8_15 46 hHeld ?_
   refine uq 16 q936_34_8_16 47 hHeld ?_
   refine ar1 19 q936_34_8_19 fun K hK => ?_
   go_simp
   refine Calls.mono (hC4 _) ?_
   rintro e w4 ⟨rfl, hx4⟩
   go_wp2_with fail
   refine hK.out _ _ (bthen hHeld hx4) (fun hHeld => ?_)
   clear hK K
   try simp only[Act.put,sa,s0,s1]
   refine uq 20 q936_34_8_20 51 hHeld ?_
   refine uq 21 q936_34_8_21 52 hHeld ?_
   refine uq 22 q936_34_8_22 3 hHeld ?_
   refine wpAnyH_done (by kernel_rfl) ?_ _
   rw [HE.out]
   clear HE n1 n2 n3 n4 n5 n6 n7 n8 n9 hC1 hC2 hC3 hC4
   go_wp2_with fail
   go_roundw
   case rel => exact ⟨k + 1, by omega, by go_num, rfl, bthen hbkp hHeld⟩
   case measure => simp [intOf]; omega
  ·have HT1 : Hid (l.take k = l) := List.take_of_length_le (by rw [HX.out]; omega)
   have HE : Hid (strB (HT ++ linesT (l.take k)) ++ (⟨#[101, 110, 100, 10]⟩ : ByteArray) = manTextP m) := by
    show _ = _
    rw [HT1.out, HD2.out, show (⟨#[101, 110, 100, 10]⟩ : ByteArray) = strB [101, 110, 100, 10] from rfl, strB_app]
   have n1 : (9223372036854775807 < (strB (HT ++ linesT (l.take k))).size + 4) = False := eq_false (by omega)
   generalize strB (HT ++ linesT (l.take k)) = cu at *
   go_wp2_with fail
   go_ret
   exact ⟨by rw [HE.out]; rfl, hbw⟩
end Go.Proofs.YtomlpobbhioflaaGreatDoor

namespace Go.Proofs.YtomlpobbhioflaaGreatDoor
open Go.RowKit
def B2 (W : World) (b : Nat) (cs ms : List Value) : Prop := Bw W b 25 cs ∧ Bw W (b + 1) 31 ms
theorem B2.under {w W : World} {b : Nat} {cs ms : List Value} (h : B2 w b cs ms) (hb : Below w.heap.size w W) : B2 W b cs ms := ⟨h.1.under hb, h.2.under hb⟩
theorem B2.turn {w W : World} {b : Nat} {cs ms : List Value} {G : List Nat} (h : B2 w b cs ms) (hT : Turn G w W) (h0 : b ∉ G) (h1 : b + 1 ∉ G) : B2 W b cs ms := ⟨h.1.turn hT h0, h.2.turn hT h1⟩
theorem strRdB (s : ByteArray) (w : World) (hs : s.size ≤ 1048576) : ∃ (w1 : World) (cap : Nat), (convert 9 51 (.string s)).run Tryz.prog w = .ok (.slice (some ⟨w.heap.size, 0, none⟩) s.size cap) w1 ∧ Below w.heap.size w w1 ∧ rdB w1.heap.size w1 (.slice (some ⟨w.heap.size, 0, none⟩) s.size cap) (byteInts s) := by
 have hcv := Lib.run_convert_string_bytes (P := Tryz.prog) w 9 51 5 s Tryz.underlying9 Tryz.underlying51 Tryz.underlying5
 obtain ⟨w1, cap, h1, h2, h3⟩ := strRd s w
 rw [hcv] at h1
 have he := h1
 simp only [Result.ok.injEq, Value.slice.injEq, true_and] at he
 obtain ⟨rfl, rfl⟩ := he
 refine ⟨_, _, hcv, h2, ⟨_, _, by rw [byteInts_length], ?_, ?_, h3, byteInts_ok s⟩⟩
 ·rw [byteInts_length]
  exact grownCap_ge w s.size 0 _
 ·have := grownCap_le_maxLen w s.size 0 5 (by unfold maxLen; omega)
  unfold maxLen at this
  omega
end Go.Proofs.YtomlpobbhioflaaGreatDoor
