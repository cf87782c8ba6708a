/-
  Part 23 of the texts that the proof leans on.
-/
import Derived.Test.YtddejboifpepcaaGreatDoorInp20
import Derived.Test.YtddejboifpepcaaGreatDoorInp21
import Derived.Test.YtddejboifpepcaaGreatDoorInp14
import Derived.Test.YtddejboifpepcaaGreatDoorInp15
import Derived.Test.YtddejboifpepcaaGreatDoorInp3
import Derived.Test.YtddejboifpepcaaGreatDoorInp18
import Derived.Test.YtddejboifpepcaaGreatDoorInp19
import Derived.Test.YtddejboifpepcaaGreatDoorInp9
set_option linter.unusedVariables false
set_option linter.unusedSimpArgs false
set_option maxRecDepth 10000

namespace Go.Proofs.YtddejboifpepcaaGreatDoor
open Go.RowKit
set_option maxHeartbeats 8000000 in
theorem l6Put_any (cs : List Value) (m : MDisk) (t s : ByteArray) (vb : Value) (zb : List Int) (w : World) (hr : rDisk w.heap.size w cs m) (hw : wDisk m ≤ 1048576) (hs : t.size ≤ 1048576) (hvb : rdB w.heap.size w vb zb) (hzb : zb.length ≤ 1048576) :
  Calls Tryz.prog 27 #[.agg cs.toArray, .string t, vb] w fun e w' => ∃ cs' : List Value, e = .returned (.tuple #[.agg cs'.toArray, .int .i64 (putR m t zb s).2]) ∧ rDisk w'.heap.size w' cs' (putR m t zb s).1 ∧ Below w.heap.size w w' := by
 have hq := hr
 obtain ⟨a0, c0, a1, c1, a2, c2, rfl, hI, hNm, hSf, hnx, _⟩ := hq
 have hlN : m.fNames.length ≤ 1048576 := by rw [wDisk_eq] at hw; omega
 obtain ⟨ab, cb, rfl, hlb⟩ := hvb
 have HVB : Hid (rdB w.heap.size w (.slice ab zb.length cb) zb) := ⟨ab, cb, rfl, hlb⟩
 have HW := Hid.mk hw
 have HR := Hid.mk hr
 have HNM := Hid.mk hNm
 have HST := Hid.mk (putR_steps m t zb s)
 clear hr hI hNm hSf hw hlb
 obtain ⟨wq, hwq⟩ : ∃ wq, wq = ((w.alloc (.cells #[.slice a0 m.fInodes.length c0, .slice a1 m.fNames.length c1, .slice a2 m.fSafe.length c2, .int .i64 m.fNext] 34)).alloc (.cells #[.slice none 0 0, .slice none 0 0, .slice none 0 0, .int .i64 0] 34)).alloc (.cells #[.slice a0 m.fInodes.length c0, .slice a1 m.fNames.length c1, .slice a2 m.fSafe.length c2, .int .i64 m.fNext] 34) := ⟨_, rfl⟩
 have hzq : wq.heap.size = w.heap.size + 3 := by rw [hwq]; simp
 have hbW : Below w.heap.size w wq := by rw [hwq]; exact (((Below.refl _ _).alloc (Nat.le_refl _) _).alloc (by simp) _).alloc (by simp; omega) _
 have hbo : Bw wq (w.heap.size + 1 + 1) 34 [.slice a0 m.fInodes.length c0, .slice a1 m.fNames.length c1, .slice a2 m.fSafe.length c2, .int .i64 m.fNext] := by rw [hwq]; exact Bw.new' _ _ _ (by simp)
 have hbr : Bw wq (w.heap.size + 1) 34 [.slice none 0 0, .slice none 0 0, .slice none 0 0, .int .i64 0] := by rw [hwq]; exact (Bw.new' _ _ _ (by simp)).alloc _
 have hS0 : SpW w wq [.slice a0 m.fInodes.length c0, .slice a1 m.fNames.length c1, .slice a2 m.fSafe.length c2, .int .i64 m.fNext] m := ⟨hbo, rDisk_good.mono (rDisk_good.below HR.out hbW) hbW.size, hbr, hbW⟩
 go_enter Tryz.func27, Tryz.ntmps27
 go_wp2_with fail
 rw [← hwq]
 clear hwq
 refine (l2At_any a1 m.fNames.length c1 m.fNames t wq wq.heap.size rfl (by omega) (LeafL.mono rEntry_good (HNM.out.below rEntry_good hbW) hbW.size).2.2).mono ?_
 rintro e w0 ⟨rfl, hw0⟩
 have hw0' := hw0.symm
 clear hw0
 subst hw0'
 obtain ⟨mr, hmr⟩ : ∃ mr, mr = removeP m t := ⟨_, rfl⟩
 have hwr : wDisk mr ≤ 1048576 := by rw [hmr]; exact small_remove HW.out
 have HREM := Hid.mk hmr
 rw [← hmr] at HST
 clear hmr
 obtain ⟨x0, x1, x2, x3⟩ := hbo.c4
 obtain ⟨f0, f1, f2, f3⟩ := hbo.f4
 have hlo := hbo.lt
 by_cases hH : hasName m.fNames t = true
 ·have hz : 0 ≤ nameZ m.fNames t := by unfold nameZ; rw [if_pos hH]; omega
  have hz9 : nameZ m.fNames t ≤ 1048576 := by unfold nameZ; rw [if_pos hH]; have := (hasName_at hH).1; omega
  generalize nameZ m.fNames t = nz at *
  go_wp2_with fail
  refine (specRemove_c _ m t wq (rDisk_good.mono (rDisk_good.below HR.out hbW) hbW.size) (by omega) HW.out hs).mono ?_
  rw [← HREM.out]
  rintro e w1 ⟨cs1, rfl, hr1, hx1⟩
  have hq1 := hr1
  obtain ⟨q0, qp0, q1, qp1, q2, qp2, rfl, _⟩ := hq1
  have hb1 := hbo.under hx1
  have HS1 := Hid.mk (hS0.step rfl hx1 hr1)
  obtain ⟨y0, g0, y1, g1, y2, g2, y3, g3⟩ := hb1.c8
  have hl1 := hb1.lt
  clear x0 x1 x2 x3 f0 f1 f2 f3 hlo hbo hbr hS0 hb1 hr1
  obtain ⟨w2, hw2⟩ : ∃ w2, w2 = ((((w1.setCell ⟨w.heap.size + 1 + 1, 0, none⟩ (.slice q0 mr.fInodes.length qp0)).setCell ⟨w.heap.size + 1 + 1, 1, none⟩ (.slice q1 mr.fNames.length qp1)).setCell ⟨w.heap.size + 1 + 1, 2, none⟩ (.slice q2 mr.fSafe.length qp2)).setCell ⟨w.heap.size + 1 + 1, 3, none⟩ (.int .i64 mr.fNext)) := ⟨_, rfl⟩
  rw [← hw2] at HS1
  have HS := Hid.mk HS1.out
  clear HS1
  go_wp2_with fail
  rw [← hw2]
  clear hw2 y0 y1 y2 y3 g0 g1 g2 g3 hl1 hx1
  have hsm := hwr
  have hBw := HS.out.2.2.2
  refine (specCreate_c _ mr t w2 HS.out.2.1 (by omega) hsm hs).mono ?_
  have hsm2 := small_create (s := t) hsm
  obtain ⟨d4, hd4⟩ : ∃ x, x = createP mr t := ⟨_, rfl⟩
  obtain ⟨k4, hk4⟩ : ∃ x, x = createC mr t := ⟨_, rfl⟩
  rw [← hd4] at hsm2 HST ⊢
  rw [← hk4] at HST ⊢
  clear hd4 hk4 hsm
  rintro e u0 ⟨cs3, rfl, hr3, hx3⟩
  obtain ⟨z0, zp0, z1, zp1, z2, zp2, rfl, _⟩ := id hr3
  have hb3 := HS.out.1.under hx3
  have hrr := HS.out.2.2.1.under hx3
  have v0 := hb3.cell 0 _ rfl
  have g0 := hb3.free 0
  have rc0 := hrr.cell 0 _ rfl
  have rf0 := hrr.free 0
  have v1 := hb3.cell 1 _ rfl
  have g1 := hb3.free 1
  have rc1 := hrr.cell 1 _ rfl
  have rf1 := hrr.free 1
  have v2 := hb3.cell 2 _ rfl
  have g2 := hb3.free 2
  have rc2 := hrr.cell 2 _ rfl
  have rf2 := hrr.free 2
  have v3 := hb3.cell 3 _ rfl
  have g3 := hb3.free 3
  have rc3 := hrr.cell 3 _ rfl
  have rf3 := hrr.free 3
  have hl3 := hb3.lt
  have hlr := hrr.lt
  have HS3 := Hid.mk (HS.out.step rfl hx3 hr3)
  obtain ⟨w4, hw4⟩ : ∃ x, x = ((((u0.setCell ⟨w.heap.size + 1 + 1, 0, none⟩ (.slice z0 d4.fInodes.length zp0)).setCell ⟨w.heap.size + 1 + 1, 1, none⟩ (.slice z1 d4.fNames.length zp1)).setCell ⟨w.heap.size + 1 + 1, 2, none⟩ (.slice z2 d4.fSafe.length zp2)).setCell ⟨w.heap.size + 1 + 1, 3, none⟩ (.int .i64 d4.fNext)) := ⟨_, rfl⟩
  rw [← hw4] at HS3
  clear hr3 hb3 hrr HS hBw
  have HS := Hid.mk HS3.out
  clear HS3
  have hsm := hsm2
  clear hsm2
  by_cases hck4 : k4 = 0
  rotate_left
  ·have hcd : decide (k4 = 0) = false := decide_eq_false hck4
   have HRES := Hid.mk (HST.out.1 hck4)
   have hT := turn4 w4 (w.heap.size + 1) (.slice z0 d4.fInodes.length zp0) (.slice z1 d4.fNames.length zp1) (.slice z2 d4.fSafe.length zp2) (.int .i64 d4.fNext)
   have HB : Hid (Below w.heap.size w ((((w4.setCell ⟨w.heap.size + 1, 0, none⟩ (.slice z0 d4.fInodes.length zp0)).setCell ⟨w.heap.size + 1, 1, none⟩ (.slice z1 d4.fNames.length zp1)).setCell ⟨w.heap.size + 1, 2, none⟩ (.slice z2 d4.fSafe.length zp2)).setCell ⟨w.heap.size + 1, 3, none⟩ (.int .i64 d4.fNext))) := HS.out.2.2.2.trans (hT.below (fun k hk => by simp at hk; omega) HS.out.2.2.2.size)
   have HO : Hid (rDisk ((((w4.setCell ⟨w.heap.size + 1, 0, none⟩ (.slice z0 d4.fInodes.length zp0)).setCell ⟨w.heap.size + 1, 1, none⟩ (.slice z1 d4.fNames.length zp1)).setCell ⟨w.heap.size + 1, 2, none⟩ (.slice z2 d4.fSafe.length zp2)).setCell ⟨w.heap.size + 1, 3, none⟩ (.int .i64 d4.fNext)).heap.size ((((w4.setCell ⟨w.heap.size + 1, 0, none⟩ (.slice z0 d4.fInodes.length zp0)).setCell ⟨w.heap.size + 1, 1, none⟩ (.slice z1 d4.fNames.length zp1)).setCell ⟨w.heap.size + 1, 2, none⟩ (.slice z2 d4.fSafe.length zp2)).setCell ⟨w.heap.size + 1, 3, none⟩ (.int .i64 d4.fNext)) [.slice z0 d4.fInodes.length zp0, .slice z1 d4.fNames.length zp1, .slice z2 d4.fSafe.length zp2, .int .i64 d4.fNext] d4) := by
    have h := rDisk_turn HS.out.2.2.1.dzero hT HS.out.2.1
    have hz : ((((w4.setCell ⟨w.heap.size + 1, 0, none⟩ (.slice z0 d4.fInodes.length zp0)).setCell ⟨w.heap.size + 1, 1, none⟩ (.slice z1 d4.fNames.length zp1)).setCell ⟨w.heap.size + 1, 2, none⟩ (.slice z2 d4.fSafe.length zp2)).setCell ⟨w.heap.size + 1, 3, none⟩ (.int .i64 d4.fNext)).heap.size = w4.heap.size := by simp
    unfold Hid
    rw [hz]
    exact h
   clear hT
   rw [hw4] at HO HB
   go_wp2_with fail
   all_goals exact bodyPost_ret (v := .tuple #[.agg #[.slice z0 d4.fInodes.length zp0, .slice z1 d4.fNames.length zp1, .slice z2 d4.fSafe.length zp2, .int .i64 d4.fNext], .int .i64 k4]) (by simp [results, Tryz.results27, go_sem, *]) rfl ⟨[.slice z0 d4.fInodes.length zp0, .slice z1 d4.fNames.length zp1, .slice z2 d4.fSafe.length zp2, .int .i64 d4.fNext], by rw [HRES.out], by rw [HRES.out]; exact HO.out, HB.out⟩
  subst hck4
  go_wp2_with fail
  rw [← hw4]
  clear hw4 v0 v1 v2 v3 g0 g1 g2 g3 rc0 rc1 rc2 rc3 rf0 rf1 rf2 rf3 hl3 hlr hx3
  have hBw := HS.out.2.2.2
  refine (specAppend_b _ d4 t (.slice ab zb.length cb) zb w4 HS.out.2.1 (by omega) ((HVB.out.below hBw).mono hBw.size) hsm hs (by omega)).mono ?_
  have hsm2 := small_append (s := t) (b := zb) hsm
  obtain ⟨d5, hd5⟩ : ∃ x, x = appendP d4 t zb := ⟨_, rfl⟩
  obtain ⟨k5, hk5⟩ : ∃ x, x = appendC d4 t zb := ⟨_, rfl⟩
  rw [← hd5] at hsm2 HST ⊢
  rw [← hk5] at HST ⊢
  clear hd5 hk5 hsm
  rintro e u1 ⟨cs4, rfl, hr3, hx3⟩
  obtain ⟨y0, yp0, y1, yp1, y2, yp2, rfl, _⟩ := id hr3
  have hb3 := HS.out.1.under hx3
  have hrr := HS.out.2.2.1.under hx3
  have v0 := hb3.cell 0 _ rfl
  have g0 := hb3.free 0
  have rc0 := hrr.cell 0 _ rfl
  have rf0 := hrr.free 0
  have v1 := hb3.cell 1 _ rfl
  have g1 := hb3.free 1
  have rc1 := hrr.cell 1 _ rfl
  have rf1 := hrr.free 1
  have v2 := hb3.cell 2 _ rfl
  have g2 := hb3.free 2
  have rc2 := hrr.cell 2 _ rfl
  have rf2 := hrr.free 2
  have v3 := hb3.cell 3 _ rfl
  have g3 := hb3.free 3
  have rc3 := hrr.cell 3 _ rfl
  have rf3 := hrr.free 3
  have hl3 := hb3.lt
  have hlr := hrr.lt
  have HS3 := Hid.mk (HS.out.step rfl hx3 hr3)
  obtain ⟨w5, hw5⟩ : ∃ x, x = ((((u1.setCell ⟨w.heap.size + 1 + 1, 0, none⟩ (.slice y0 d5.fInodes.length yp0)).setCell ⟨w.heap.size + 1 + 1, 1, none⟩ (.slice y1 d5.fNames.length yp1)).setCell ⟨w.heap.size + 1 + 1, 2, none⟩ (.slice y2 d5.fSafe.length yp2)).setCell ⟨w.heap.size + 1 + 1, 3, none⟩ (.int .i64 d5.fNext)) := ⟨_, rfl⟩
  rw [← hw5] at HS3
  clear hr3 hb3 hrr HS hBw
  have HS := Hid.mk HS3.out
  clear HS3
  have hsm := hsm2
  clear hsm2
  by_cases hck5 : k5 = 0
  rotate_left
  ·have hcd : decide (k5 = 0) = false := decide_eq_false hck5
   have HRES := Hid.mk (HST.out.2.1 (by simp) hck5)
   have hT := turn4 w5 (w.heap.size + 1) (.slice y0 d5.fInodes.length yp0) (.slice y1 d5.fNames.length yp1) (.slice y2 d5.fSafe.length yp2) (.int .i64 d5.fNext)
   have HB : Hid (Below w.heap.size w ((((w5.setCell ⟨w.heap.size + 1, 0, none⟩ (.slice y0 d5.fInodes.length yp0)).setCell ⟨w.heap.size + 1, 1, none⟩ (.slice y1 d5.fNames.length yp1)).setCell ⟨w.heap.size + 1, 2, none⟩ (.slice y2 d5.fSafe.length yp2)).setCell ⟨w.heap.size + 1, 3, none⟩ (.int .i64 d5.fNext))) := HS.out.2.2.2.trans (hT.below (fun k hk => by simp at hk; omega) HS.out.2.2.2.size)
   have HO : Hid (rDisk ((((w5.setCell ⟨w.heap.size + 1, 0, none⟩ (.slice y0 d5.fInodes.length yp0)).setCell ⟨w.heap.size + 1, 1, none⟩ (.slice y1 d5.fNames.length yp1)).setCell ⟨w.heap.size + 1, 2, none⟩ (.slice y2 d5.fSafe.length yp2)).setCell ⟨w.heap.size + 1, 3, none⟩ (.int .i64 d5.fNext)).heap.size ((((w5.setCell ⟨w.heap.size + 1, 0, none⟩ (.slice y0 d5.fInodes.length yp0)).setCell ⟨w.heap.size + 1, 1, none⟩ (.slice y1 d5.fNames.length yp1)).setCell ⟨w.heap.size + 1, 2, none⟩ (.slice y2 d5.fSafe.length yp2)).setCell ⟨w.heap.size + 1, 3, none⟩ (.int .i64 d5.fNext)) [.slice y0 d5.fInodes.length yp0, .slice y1 d5.fNames.length yp1, .slice y2 d5.fSafe.length yp2, .int .i64 d5.fNext] d5) := by
    have h := rDisk_turn HS.out.2.2.1.dzero hT HS.out.2.1
    have hz : ((((w5.setCell ⟨w.heap.size + 1, 0, none⟩ (.slice y0 d5.fInodes.length yp0)).setCell ⟨w.heap.size + 1, 1, none⟩ (.slice y1 d5.fNames.length yp1)).setCell ⟨w.heap.size + 1, 2, none⟩ (.slice y2 d5.fSafe.length yp2)).setCell ⟨w.heap.size + 1, 3, none⟩ (.int .i64 d5.fNext)).heap.size = w5.heap.size := by simp
    unfold Hid
    rw [hz]
    exact h
   clear hT
   rw [hw5] at HO HB
   go_wp2_with fail
   all_goals exact bodyPost_ret (v := .tuple #[.agg #[.slice y0 d5.fInodes.length yp0, .slice y1 d5.fNames.length yp1, .slice y2 d5.fSafe.length yp2, .int .i64 d5.fNext], .int .i64 k5]) (by simp [results, Tryz.results27, go_sem, *]) rfl ⟨[.slice y0 d5.fInodes.length yp0, .slice y1 d5.fNames.length yp1, .slice y2 d5.fSafe.length yp2, .int .i64 d5.fNext], by rw [HRES.out], by rw [HRES.out]; exact HO.out, HB.out⟩
  subst hck5
  go_wp2_with fail
  rw [← hw5]
  clear hw5 v0 v1 v2 v3 g0 g1 g2 g3 rc0 rc1 rc2 rc3 rf0 rf1 rf2 rf3 hl3 hlr hx3
  have hBw := HS.out.2.2.2
  refine (specSync_c _ d5 t w5 HS.out.2.1 (by omega) hsm hs).mono ?_
  have hsm2 := small_sync (s := t) hsm
  obtain ⟨d6, hd6⟩ : ∃ x, x = syncP d5 t := ⟨_, rfl⟩
  obtain ⟨k6, hk6⟩ : ∃ x, x = callP d5 t := ⟨_, rfl⟩
  rw [← hd6] at hsm2 HST ⊢
  rw [← hk6] at HST ⊢
  clear hd6 hk6 hsm
  rintro e u2 ⟨cs5, rfl, hr3, hx3⟩
  obtain ⟨x0, xp0, x1, xp1, x2, xp2, rfl, _⟩ := id hr3
  have hb3 := HS.out.1.under hx3
  have hrr := HS.out.2.2.1.under hx3
  have v0 := hb3.cell 0 _ rfl
  have g0 := hb3.free 0
  have rc0 := hrr.cell 0 _ rfl
  have rf0 := hrr.free 0
  have v1 := hb3.cell 1 _ rfl
  have g1 := hb3.free 1
  have rc1 := hrr.cell 1 _ rfl
  have rf1 := hrr.free 1
  have v2 := hb3.cell 2 _ rfl
  have g2 := hb3.free 2
  have rc2 := hrr.cell 2 _ rfl
  have rf2 := hrr.free 2
  have v3 := hb3.cell 3 _ rfl
  have g3 := hb3.free 3
  have rc3 := hrr.cell 3 _ rfl
  have rf3 := hrr.free 3
  have hl3 := hb3.lt
  have hlr := hrr.lt
  have HS3 := Hid.mk (HS.out.step rfl hx3 hr3)
  obtain ⟨w6, hw6⟩ : ∃ x, x = ((((u2.setCell ⟨w.heap.size + 1 + 1, 0, none⟩ (.slice x0 d6.fInodes.length xp0)).setCell ⟨w.heap.size + 1 + 1, 1, none⟩ (.slice x1 d6.fNames.length xp1)).setCell ⟨w.heap.size + 1 + 1, 2, none⟩ (.slice x2 d6.fSafe.length xp2)).setCell ⟨w.heap.size + 1 + 1, 3, none⟩ (.int .i64 d6.fNext)) := ⟨_, rfl⟩
  rw [← hw6] at HS3
  clear hr3 hb3 hrr HS hBw
  have HS := Hid.mk HS3.out
  clear HS3
  have hsm := hsm2
  clear hsm2
  have HRES := Hid.mk (HST.out.2.2 (by simp) (by simp))
  have hT := turn4 w6 (w.heap.size + 1) (.slice x0 d6.fInodes.length xp0) (.slice x1 d6.fNames.length xp1) (.slice x2 d6.fSafe.length xp2) (.int .i64 d6.fNext)
  have HB : Hid (Below w.heap.size w ((((w6.setCell ⟨w.heap.size + 1, 0, none⟩ (.slice x0 d6.fInodes.length xp0)).setCell ⟨w.heap.size + 1, 1, none⟩ (.slice x1 d6.fNames.length xp1)).setCell ⟨w.heap.size + 1, 2, none⟩ (.slice x2 d6.fSafe.length xp2)).setCell ⟨w.heap.size + 1, 3, none⟩ (.int .i64 d6.fNext))) := HS.out.2.2.2.trans (hT.below (fun k hk => by simp at hk; omega) HS.out.2.2.2.size)
  have HO : Hid (rDisk ((((w6.setCell ⟨w.heap.size + 1, 0, none⟩ (.slice x0 d6.fInodes.length xp0)).setCell ⟨w.heap.size + 1, 1, none⟩ (.slice x1 d6.fNames.length xp1)).setCell ⟨w.heap.size + 1, 2, none⟩ (.slice x2 d6.fSafe.length xp2)).setCell ⟨w.heap.size + 1, 3, none⟩ (.int .i64 d6.fNext)).heap.size ((((w6.setCell ⟨w.heap.size + 1, 0, none⟩ (.slice x0 d6.fInodes.length xp0)).setCell ⟨w.heap.size + 1, 1, none⟩ (.slice x1 d6.fNames.length xp1)).setCell ⟨w.heap.size + 1, 2, none⟩ (.slice x2 d6.fSafe.length xp2)).setCell ⟨w.heap.size + 1, 3, none⟩ (.int .i64 d6.fNext)) [.slice x0 d6.fInodes.length xp0, .slice x1 d6.fNames.length xp1, .slice x2 d6.fSafe.length xp2, .int .i64 d6.fNext] d6) := by
   have h := rDisk_turn HS.out.2.2.1.dzero hT HS.out.2.1
   have hz : ((((w6.setCell ⟨w.heap.size + 1, 0, none⟩ (.slice x0 d6.fInodes.length xp0)).setCell ⟨w.heap.size + 1, 1, none⟩ (.slice x1 d6.fNames.length xp1)).setCell ⟨w.heap.size + 1, 2, none⟩ (.slice x2 d6.fSafe.length xp2)).setCell ⟨w.heap.size + 1, 3, none⟩ (.int .i64 d6.fNext)).heap.size = w6.heap.size := by simp
   unfold Hid
   rw [hz]
   exact h
  clear hT
  rw [hw6] at HO HB
  go_wp2_with fail
  all_goals exact bodyPost_ret (v := .tuple #[.agg #[.slice x0 d6.fInodes.length xp0, .slice x1 d6.fNames.length xp1, .slice x2 d6.fSafe.length xp2, .int .i64 d6.fNext], .int .i64 k6]) (by simp [results, Tryz.results27, go_sem, *]) rfl ⟨[.slice x0 d6.fInodes.length xp0, .slice x1 d6.fNames.length xp1, .slice x2 d6.fSafe.length xp2, .int .i64 d6.fNext], by rw [HRES.out], by rw [HRES.out]; exact HO.out, HB.out⟩
 ·have hz : nameZ m.fNames t = -1 := by unfold nameZ; rw [if_neg hH]
  have hmm : mr = m := by rw [HREM.out]; exact remove_none (Bool.eq_false_iff.2 hH)
  have HS0 := Hid.mk hS0
  rw [hz]
  clear hz hS0 hH HREM
  subst hmm
  go_wp2_with fail
  obtain ⟨w2, hw2⟩ : ∃ w2, w2 = wq := ⟨_, rfl⟩
  have HS := Hid.mk HS0.out
  rw [← hw2] at HS ⊢
  clear hw2 x0 x1 x2 x3 f0 f1 f2 f3 hlo hbo hbr HS0
  have hsm := hwr
  have hBw := HS.out.2.2.2
  refine (specCreate_c _ mr t w2 HS.out.2.1 (by omega) hsm hs).mono ?_
  have hsm2 := small_create (s := t) hsm
  obtain ⟨d4, hd4⟩ : ∃ x, x = createP mr t := ⟨_, rfl⟩
  obtain ⟨k4, hk4⟩ : ∃ x, x = createC mr t := ⟨_, rfl⟩
  rw [← hd4] at hsm2 HST ⊢
  rw [← hk4] at HST ⊢
  clear hd4 hk4 hsm
  rintro e u0 ⟨cs3, rfl, hr3, hx3⟩
  obtain ⟨z0, zp0, z1, zp1, z2, zp2, rfl, _⟩ := id hr3
  have hb3 := HS.out.1.under hx3
  have hrr := HS.out.2.2.1.under hx3
  have v0 := hb3.cell 0 _ rfl
  have g0 := hb3.free 0
  have rc0 := hrr.cell 0 _ rfl
  have rf0 := hrr.free 0
  have v1 := hb3.cell 1 _ rfl
  have g1 := hb3.free 1
  have rc1 := hrr.cell 1 _ rfl
  have rf1 := hrr.free 1
  have v2 := hb3.cell 2 _ rfl
  have g2 := hb3.free 2
  have rc2 := hrr.cell 2 _ rfl
  have rf2 := hrr.free 2
  have v3 := hb3.cell 3 _ rfl
  have g3 := hb3.free 3
  have rc3 := hrr.cell 3 _ rfl
  have rf3 := hrr.free 3
  have hl3 := hb3.lt
  have hlr := hrr.lt
  have HS3 := Hid.mk (HS.out.step rfl hx3 hr3)
  obtain ⟨w4, hw4⟩ : ∃ x, x = ((((u0.setCell ⟨w.heap.size + 1 + 1, 0, none⟩ (.slice z0 d4.fInodes.length zp0)).setCell ⟨w.heap.size + 1 + 1, 1, none⟩ (.slice z1 d4.fNames.length zp1)).setCell ⟨w.heap.size + 1 + 1, 2, none⟩ (.slice z2 d4.fSafe.length zp2)).setCell ⟨w.heap.size + 1 + 1, 3, none⟩ (.int .i64 d4.fNext)) := ⟨_, rfl⟩
  rw [← hw4] at HS3
  clear hr3 hb3 hrr HS hBw
  have HS := Hid.mk HS3.out
  clear HS3
  have hsm := hsm2
  clear hsm2
  by_cases hck4 : k4 = 0
  rotate_left
  ·have hcd : decide (k4 = 0) = false := decide_eq_false hck4
   have HRES := Hid.mk (HST.out.1 hck4)
   have hT := turn4 w4 (w.heap.size + 1) (.slice z0 d4.fInodes.length zp0) (.slice z1 d4.fNames.length zp1) (.slice z2 d4.fSafe.length zp2) (.int .i64 d4.fNext)
   have HB : Hid (Below w.heap.size w ((((w4.setCell ⟨w.heap.size + 1, 0, none⟩ (.slice z0 d4.fInodes.length zp0)).setCell ⟨w.heap.size + 1, 1, none⟩ (.slice z1 d4.fNames.length zp1)).setCell ⟨w.heap.size + 1, 2, none⟩ (.slice z2 d4.fSafe.length zp2)).setCell ⟨w.heap.size + 1, 3, none⟩ (.int .i64 d4.fNext))) := HS.out.2.2.2.trans (hT.below (fun k hk => by simp at hk; omega) HS.out.2.2.2.size)
   have HO : Hid (rDisk ((((w4.setCell ⟨w.heap.size + 1, 0, none⟩ (.slice z0 d4.fInodes.length zp0)).setCell ⟨w.heap.size + 1, 1, none⟩ (.slice z1 d4.fNames.length zp1)).setCell ⟨w.heap.size + 1, 2, none⟩ (.slice z2 d4.fSafe.length zp2)).setCell ⟨w.heap.size + 1, 3, none⟩ (.int .i64 d4.fNext)).heap.size ((((w4.setCell ⟨w.heap.size + 1, 0, none⟩ (.slice z0 d4.fInodes.length zp0)).setCell ⟨w.heap.size + 1, 1, none⟩ (.slice z1 d4.fNames.length zp1)).setCell ⟨w.heap.size + 1, 2, none⟩ (.slice z2 d4.fSafe.length zp2)).setCell ⟨w.heap.size + 1, 3, none⟩ (.int .i64 d4.fNext)) [.slice z0 d4.fInodes.length zp0, .slice z1 d4.fNames.length zp1, .slice z2 d4.fSafe.length zp2, .int .i64 d4.fNext] d4) := by
    have h := rDisk_turn HS.out.2.2.1.dzero hT HS.out.2.1
    have hz : ((((w4.setCell ⟨w.heap.size + 1, 0, none⟩ (.slice z0 d4.fInodes.length zp0)).setCell ⟨w.heap.size + 1, 1, none⟩ (.slice z1 d4.fNames.length zp1)).setCell ⟨w.heap.size + 1, 2, none⟩ (.slice z2 d4.fSafe.length zp2)).setCell ⟨w.heap.size + 1, 3, none⟩ (.int .i64 d4.fNext)).heap.size = w4.heap.size := by simp
    unfold Hid
    rw [hz]
    exact h
   clear hT
   rw [hw4] at HO HB
   go_wp2_with fail
   all_goals exact bodyPost_ret (v := .tuple #[.agg #[.slice z0 d4.fInodes.length zp0, .slice z1 d4.fNames.length zp1, .slice z2 d4.fSafe.length zp2, .int .i64 d4.fNext], .int .i64 k4]) (by simp [results, Tryz.results27, go_sem, *]) rfl ⟨[.slice z0 d4.fInodes.length zp0, .slice z1 d4.fNames.length zp1, .slice z2 d4.fSafe.length zp2, .int .i64 d4.fNext], by rw [HRES.out], by rw [HRES.out]; exact HO.out, HB.out⟩
  subst hck4
  go_wp2_with fail
  rw [← hw4]
  clear hw4 v0 v1 v2 v3 g0 g1 g2 g3 rc0 rc1 rc2 rc3 rf0 rf1 rf2 rf3 hl3 hlr hx3
  have hBw := HS.out.2.2.2
  refine (specAppend_b _ d4 t (.slice ab zb.length cb) zb w4 HS.out.2.1 (by omega) ((HVB.out.below hBw).mono hBw.size) hsm hs (by omega)).mono ?_
  have hsm2 := small_append (s := t) (b := zb) hsm
  obtain ⟨d5, hd5⟩ : ∃ x, x = appendP d4 t zb := ⟨_, rfl⟩
  obtain ⟨k5, hk5⟩ : ∃ x, x = appendC d4 t zb := ⟨_, rfl⟩
  rw [← hd5] at hsm2 HST ⊢
  rw [← hk5] at HST ⊢
  clear hd5 hk5 hsm
  rintro e u1 ⟨cs4, rfl, hr3, hx3⟩
  obtain ⟨y0, yp0, y1, yp1, y2, yp2, rfl, _⟩ := id hr3
  have hb3 := HS.out.1.under hx3
  have hrr := HS.out.2.2.1.under hx3
  have v0 := hb3.cell 0 _ rfl
  have g0 := hb3.free 0
  have rc0 := hrr.cell 0 _ rfl
  have rf0 := hrr.free 0
  have v1 := hb3.cell 1 _ rfl
  have g1 := hb3.free 1
  have rc1 := hrr.cell 1 _ rfl
  have rf1 := hrr.free 1
  have v2 := hb3.cell 2 _ rfl
  have g2 := hb3.free 2
  have rc2 := hrr.cell 2 _ rfl
  have rf2 := hrr.free 2
  have v3 := hb3.cell 3 _ rfl
  have g3 := hb3.free 3
  have rc3 := hrr.cell 3 _ rfl
  have rf3 := hrr.free 3
  have hl3 := hb3.lt
  have hlr := hrr.lt
  have HS3 := Hid.mk (HS.out.step rfl hx3 hr3)
  obtain ⟨w5, hw5⟩ : ∃ x, x = ((((u1.setCell ⟨w.heap.size + 1 + 1, 0, none⟩ (.slice y0 d5.fInodes.length yp0)).setCell ⟨w.heap.size + 1 + 1, 1, none⟩ (.slice y1 d5.fNames.length yp1)).setCell ⟨w.heap.size + 1 + 1, 2, none⟩ (.slice y2 d5.fSafe.length yp2)).setCell ⟨w.heap.size + 1 + 1, 3, none⟩ (.int .i64 d5.fNext)) := ⟨_, rfl⟩
  rw [← hw5] at HS3
  clear hr3 hb3 hrr HS hBw
  have HS := Hid.mk HS3.out
  clear HS3
  have hsm := hsm2
  clear hsm2
  by_cases hck5 : k5 = 0
  rotate_left
  ·have hcd : decide (k5 = 0) = false := decide_eq_false hck5
   have HRES := Hid.mk (HST.out.2.1 (by simp) hck5)
   have hT := turn4 w5 (w.heap.size + 1) (.slice y0 d5.fInodes.length yp0) (.slice y1 d5.fNames.length yp1) (.slice y2 d5.fSafe.length yp2) (.int .i64 d5.fNext)
   have HB : Hid (Below w.heap.size w ((((w5.setCell ⟨w.heap.size + 1, 0, none⟩ (.slice y0 d5.fInodes.length yp0)).setCell ⟨w.heap.size + 1, 1, none⟩ (.slice y1 d5.fNames.length yp1)).setCell ⟨w.heap.size + 1, 2, none⟩ (.slice y2 d5.fSafe.length yp2)).setCell ⟨w.heap.size + 1, 3, none⟩ (.int .i64 d5.fNext))) := HS.out.2.2.2.trans (hT.below (fun k hk => by simp at hk; omega) HS.out.2.2.2.size)
   have HO : Hid (rDisk ((((w5.setCell ⟨w.heap.size + 1, 0, none⟩ (.slice y0 d5.fInodes.length yp0)).setCell ⟨w.heap.size + 1, 1, none⟩ (.slice y1 d5.fNames.length yp1)).setCell ⟨w.heap.size + 1, 2, none⟩ (.slice y2 d5.fSafe.length yp2)).setCell ⟨w.heap.size + 1, 3, none⟩ (.int .i64 d5.fNext)).heap.size ((((w5.setCell ⟨w.heap.size + 1, 0, none⟩ (.slice y0 d5.fInodes.length yp0)).setCell ⟨w.heap.size + 1, 1, none⟩ (.slice y1 d5.fNames.length yp1)).setCell ⟨w.heap.size + 1, 2, none⟩ (.slice y2 d5.fSafe.length yp2)).setCell ⟨w.heap.size + 1, 3, none⟩ (.int .i64 d5.fNext)) [.slice y0 d5.fInodes.length yp0, .slice y1 d5.fNames.length yp1, .slice y2 d5.fSafe.length yp2, .int .i64 d5.fNext] d5) := by
    have h := rDisk_turn HS.out.2.2.1.dzero hT HS.out.2.1
    have hz : ((((w5.setCell ⟨w.heap.size + 1, 0, none⟩ (.slice y0 d5.fInodes.length yp0)).setCell ⟨w.heap.size + 1, 1, none⟩ (.slice y1 d5.fNames.length yp1)).setCell ⟨w.heap.size + 1, 2, none⟩ (.slice y2 d5.fSafe.length yp2)).setCell ⟨w.heap.size + 1, 3, none⟩ (.int .i64 d5.fNext)).heap.size = w5.heap.size := by simp
    unfold Hid
    rw [hz]
    exact h
   clear hT
   rw [hw5] at HO HB
   go_wp2_with fail
   all_goals exact bodyPost_ret (v := .tuple #[.agg #[.slice y0 d5.fInodes.length yp0, .slice y1 d5.fNames.length yp1, .slice y2 d5.fSafe.length yp2, .int .i64 d5.fNext], .int .i64 k5]) (by simp [results, Tryz.results27, go_sem, *]) rfl ⟨[.slice y0 d5.fInodes.length yp0, .slice y1 d5.fNames.length yp1, .slice y2 d5.fSafe.length yp2, .int .i64 d5.fNext], by rw [HRES.out], by rw [HRES.out]; exact HO.out, HB.out⟩
  subst hck5
  go_wp2_with fail
  rw [← hw5]
  clear hw5 v0 v1 v2 v3 g0 g1 g2 g3 rc0 rc1 rc2 rc3 rf0 rf1 rf2 rf3 hl3 hlr hx3
  have hBw := HS.out.2.2.2
  refine (specSync_c _ d5 t w5 HS.out.2.1 (by omega) hsm hs).mono ?_
  have hsm2 := small_sync (s := t) hsm
  obtain ⟨d6, hd6⟩ : ∃ x, x = syncP d5 t := ⟨_, rfl⟩
  obtain ⟨k6, hk6⟩ : ∃ x, x = callP d5 t := ⟨_, rfl⟩
  rw [← hd6] at hsm2 HST ⊢
  rw [← hk6] at HST ⊢
  clear hd6 hk6 hsm
  rintro e u2 ⟨cs5, rfl, hr3, hx3⟩
  obtain ⟨x0, xp0, x1, xp1, x2, xp2, rfl, _⟩ := id hr3
  have hb3 := HS.out.1.under hx3
  have hrr := HS.out.2.2.1.under hx3
  have v0 := hb3.cell 0 _ rfl
  have g0 := hb3.free 0
  have rc0 := hrr.cell 0 _ rfl
  have rf0 := hrr.free 0
  have v1 := hb3.cell 1 _ rfl
  have g1 := hb3.free 1
  have rc1 := hrr.cell 1 _ rfl
  have rf1 := hrr.free 1
  have v2 := hb3.cell 2 _ rfl
  have g2 := hb3.free 2
  have rc2 := hrr.cell 2 _ rfl
  have rf2 := hrr.free 2
  have v3 := hb3.cell 3 _ rfl
  have g3 := hb3.free 3
  have rc3 := hrr.cell 3 _ rfl
  have rf3 := hrr.free 3
  have hl3 := hb3.lt
  have hlr := hrr.lt
  have HS3 := Hid.mk (HS.out.step rfl hx3 hr3)
  obtain ⟨w6, hw6⟩ : ∃ x, x = ((((u2.setCell ⟨w.heap.size + 1 + 1, 0, none⟩ (.slice x0 d6.fInodes.length xp0)).setCell ⟨w.heap.size + 1 + 1, 1, none⟩ (.slice x1 d6.fNames.length xp1)).setCell ⟨w.heap.size + 1 + 1, 2, none⟩ (.slice x2 d6.fSafe.length xp2)).setCell ⟨w.heap.size + 1 + 1, 3, none⟩ (.int .i64 d6.fNext)) := ⟨_, rfl⟩
  rw [← hw6] at HS3
  clear hr3 hb3 hrr HS hBw
  have HS := Hid.mk HS3.out
  clear HS3
  have hsm := hsm2
  clear hsm2
  have HRES := Hid.mk (HST.out.2.2 (by simp) (by simp))
  have hT := turn4 w6 (w.heap.size + 1) (.slice x0 d6.fInodes.length xp0) (.slice x1 d6.fNames.length xp1) (.slice x2 d6.fSafe.length xp2) (.int .i64 d6.fNext)
  have HB : Hid (Below w.heap.size w ((((w6.setCell ⟨w.heap.size + 1, 0, none⟩ (.slice x0 d6.fInodes.length xp0)).setCell ⟨w.heap.size + 1, 1, none⟩ (.slice x1 d6.fNames.length xp1)).setCell ⟨w.heap.size + 1, 2, none⟩ (.slice x2 d6.fSafe.length xp2)).setCell ⟨w.heap.size + 1, 3, none⟩ (.int .i64 d6.fNext))) := HS.out.2.2.2.trans (hT.below (fun k hk => by simp at hk; omega) HS.out.2.2.2.size)
  have HO : Hid (rDisk ((((w6.setCell ⟨w.heap.size + 1, 0, none⟩ (.slice x0 d6.fInodes.length xp0)).setCell ⟨w.heap.size + 1, 1, none⟩ (.slice x1 d6.fNames.length xp1)).setCell ⟨w.heap.size + 1, 2, none⟩ (.slice x2 d6.fSafe.length xp2)).setCell ⟨w.heap.size + 1, 3, none⟩ (.int .i64 d6.fNext)).heap.size ((((w6.setCell ⟨w.heap.size + 1, 0, none⟩ (.slice x0 d6.fInodes.length xp0)).setCell ⟨w.heap.size + 1, 1, none⟩ (.slice x1 d6.fNames.length xp1)).setCell ⟨w.heap.size + 1, 2, none⟩ (.slice x2 d6.fSafe.length xp2)).setCell ⟨w.heap.size + 1, 3, none⟩ (.int .i64 d6.fNext)) [.slice x0 d6.fInodes.length xp0, .slice x1 d6.fNames.length xp1, .slice x2 d6.fSafe.length xp2, .int .i64 d6.fNext] d6) := by
   have h := rDisk_turn HS.out.2.2.1.dzero hT HS.out.2.1
   have hz : ((((w6.setCell ⟨w.heap.size + 1, 0, none⟩ (.slice x0 d6.fInodes.length xp0)).setCell ⟨w.heap.size + 1, 1, none⟩ (.slice x1 d6.fNames.length xp1)).setCell ⟨w.heap.size + 1, 2, none⟩ (.slice x2 d6.fSafe.length xp2)).setCell ⟨w.heap.size + 1, 3, none⟩ (.int .i64 d6.fNext)).heap.size = w6.heap.size := by simp
   unfold Hid
   rw [hz]
   exact h
  clear hT
  rw [hw6] at HO HB
  go_wp2_with fail
  all_goals exact bodyPost_ret (v := .tuple #[.agg #[.slice x0 d6.fInodes.length xp0, .slice x1 d6.fNames.length xp1, .slice x2 d6.fSafe.length xp2, .int .i64 d6.fNext], .int .i64 k6]) (by simp [results, Tryz.results27, go_sem, *]) rfl ⟨[.slice x0 d6.fInodes.length xp0, .slice x1 d6.fNames.length xp1, .slice x2 d6.fSafe.length xp2, .int .i64 d6.fNext], by rw [HRES.out], by rw [HRES.out]; exact HO.out, HB.out⟩
end Go.Proofs.YtddejboifpepcaaGreatDoor

namespace Go.Proofs.YtddejboifpepcaaGreatDoor
open Go.RowKit Go.Maps
abbrev q0d9_29_7_0 : Oper := ⟨some 35, .fieldAddr 34 (.tmp 8) 1, 0, "l02_files.go:198", #[], none⟩
abbrev q0d9_29_7_1 : Oper := ⟨some 36, .load 32 (.tmp 35), 32, "l02_files.go:198", #[⟨0, .data⟩], none⟩
abbrev q0d9_29_7_2 : Oper := ⟨some 37, .fieldAddr 34 (.tmp 8) 1, 0, "l02_files.go:198", #[], none⟩
abbrev q0d9_29_7_3 : Oper := ⟨some 38, .load 32 (.tmp 37), 32, "l02_files.go:198", #[⟨2, .data⟩], none⟩
abbrev q0d9_29_7_4 : Oper := ⟨some 39, .move (.tmp 1), 9, "l02_files.go:198", #[], none⟩
abbrev q0d9_29_7_5 : Oper := ⟨some 40, .call { callee := .value (.func 63), args := #[.tmp 38, .tmp 39], argTypes := #[32, 9] }, 3, "l02_files.go:198", #[⟨3, .data⟩, ⟨4, .data⟩], none⟩
abbrev q0d9_29_7_6 : Oper := ⟨some 41, .indexAddr 32 (.tmp 36) (.tmp 40), 0, "l02_files.go:198", #[⟨1, .data⟩, ⟨5, .data⟩], none⟩
abbrev q0d9_29_7_7 : Oper := ⟨some 42, .fieldAddr 101 (.tmp 41) 1, 0, "l02_files.go:198", #[⟨6, .data⟩], none⟩
abbrev q0d9_29_7_8 : Oper := ⟨some 43, .load 3 (.tmp 42), 3, "l02_files.go:198", #[⟨7, .data⟩], none⟩
abbrev q0d9_29_7_9 : Oper := ⟨some 10, .assign (.tmp 43), 3, "l02_files.go:198", #[⟨8, .data⟩, ⟨5, .chain⟩, ⟨0, .phase⟩, ⟨1, .phase⟩, ⟨2, .phase⟩, ⟨3, .phase⟩, ⟨4, .phase⟩, ⟨5, .phase⟩, ⟨6, .phase⟩, ⟨7, .phase⟩, ⟨8, .phase⟩], none⟩
set_option maxHeartbeats 4000000 in
theorem specRename_c (cs : List Value) (m : MDisk) (s t : ByteArray) (w : World) (hr : rDisk w.heap.size w cs m) (hs : s.size ≤ 9223372036854775807) (ht : t.size ≤ 9223372036854775807) (hw : wDisk m ≤ 1048576) (hw1 : s.size ≤ 1048576) (hwt1 : t.size ≤ 1048576) :
  Calls Tryz.prog 29 #[.agg cs.toArray, .string s, .string t] w fun e w' => ∃ cs' : List Value, e = .returned (.tuple #[.agg cs'.toArray, .int .i64 (renameC m s t)]) ∧ rDisk w'.heap.size w' cs' (renameP m s t) ∧ Below w.heap.size w w' := by
 have hq := hr
 obtain ⟨a0, c0, a1, c1, a2, c2, rfl, hI, hNm, hSf, hnx, _⟩ := hq
 have hw2 : m.fInodes.length + sumW wInode m.fInodes + (m.fNames.length + sumW wEntry m.fNames) + (m.fSafe.length + sumW wEntry m.fSafe) ≤ 1048576 := hw
 have HW := Hid.mk hw
 have HR := Hid.mk hr
 clear hr hI hNm hSf hw
 go_enter Tryz.func29, Tryz.ntmps29
 go_wp2_with fail
 obtain ⟨wq, hwq⟩ : ∃ wq, wq = ((w.alloc (.cells #[.slice a0 m.fInodes.length c0, .slice a1 m.fNames.length c1, .slice a2 m.fSafe.length c2, .int .i64 m.fNext] 34)).alloc (.cells #[.slice none 0 0, .slice none 0 0, .slice none 0 0, .int .i64 0] 34)) := ⟨_, rfl⟩
 have hbW : Below w.heap.size w wq := by rw [hwq]; exact Below.alloc (Below.alloc (Below.refl _ _) (by exact Nat.le_refl _) _) (by simp; try omega) _
 have hbd : Bw wq (w.heap.size) 34 [.slice a0 m.fInodes.length c0, .slice a1 m.fNames.length c1, .slice a2 m.fSafe.length c2, .int .i64 m.fNext] := by rw [hwq]; exact Bw.alloc (Bw.new' _ _ _ (by simp)) _
 have hbr : Bw wq (w.heap.size + 1) 34 [.slice none 0 0, .slice none 0 0, .slice none 0 0, .int .i64 0] := by rw [hwq]; exact Bw.new' _ _ _ (by simp)
 rw [← hwq]
 clear hwq
 refine (l2Copy_any _ m wq (rDisk_good.mono (rDisk_good.below HR.out hbW) hbW.size) HW.out).mono ?_
 rintro e w1 ⟨cs2, F2, rfl, ho2, hN2, hge2, hx1⟩
 obtain ⟨d0, e0, d1, e1, d2, e2, G0, G1, G2, rfl, o0, o1, o2, _, rfl⟩ := oDisk_cells ho2
 have HO0 := Hid.mk o0
 have HO1 := Hid.mk o1
 have HO2 := Hid.mk o2
 have HO := Hid.mk ho2
 have HN := Hid.mk hN2
 have HGE : Hid (∀ b, b ∈ G0 ++ G1 ++ G2 ++ [] → wq.heap.size ≤ b) := hge2
 have HLT : Hid (∀ b, b ∈ G0 ++ G1 ++ G2 ++ [] → b < w1.heap.size) := fun b hb => oDisk_good.lt ho2 b hb
 clear ho2 hN2 hge2 o0 o1 o2
 have hb1 := bthen hbW hx1
 have hbd1 := hbd.under hx1
 have hbr1 := hbr.under hx1
 have hz1 := hx1.size
 have hzW := hbW.size
 have hl0 := hbr.lt
 obtain ⟨y0, y1, y2, y3⟩ := hbd1.c4
 have hl1 := hbd1.lt
 go_wp2_with fail
 obtain ⟨wa, hwa⟩ : ∃ wa, wa = w1.alloc (.cells #[.slice d0 m.fInodes.length e0, .slice d1 m.fNames.length e1, .slice d2 m.fSafe.length e2, .int .i64 m.fNext] 34) := ⟨_, rfl⟩
 have hba : Below w1.heap.size w1 wa := by rw [hwa]; exact (Below.refl _ _).alloc (Nat.le_refl _) _
 have hwb0 : Bw wa w1.heap.size 34 [.slice d0 m.fInodes.length e0, .slice d1 m.fNames.length e1, .slice d2 m.fSafe.length e2, .int .i64 m.fNext] := by rw [hwa]; exact Bw.new _ _ _
 rw [← hwa]
 clear hwa
 have hba1 := bthen hb1 hba
 have hbda := (hbd1.under hba)
 refine (l2Call_any _ m s wa (rDisk_good.mono (rDisk_good.below HR.out hba1) hba1.size) HW.out hs).mono ?_
 rintro e w2 ⟨rfl, hx2⟩
 have hb12 := bthen hba hx2
 have hb2 := bthen hba1 hx2
 have hwb := hwb0.under hx2
 have hbr2 := (hbr1.under hba).under hx2
 have hbd2 := hbda.under hx2
 clear hwb0 hbda hbd1 y0 y1 y2 y3
 obtain ⟨zo0, zo1, zo2, zo3⟩ := hwb.c4
 by_cases h1 : callP m s = 1
 ·have HCP : Hid (renameC m s t = 1) := by show _ = _; unfold renameC; rw [h1]; split <;> rfl
  have HV : Hid (renameP m s t = m) := by show _ = _; unfold renameP; rw [HCP.out]; rfl
  rw [h1]
  clear h1
  obtain ⟨ze0, zf0, ze1, zf1, ze2, zf2, ze3, zf3⟩ := hbr2.c8
  have hlt0 := hbr2.lt
  have hO3 : oDisk w2 [.slice d0 m.fInodes.length e0, .slice d1 m.fNames.length e1, .slice d2 m.fSafe.length e2, .int .i64 m.fNext] (renameP m s t) (G0 ++ G1 ++ G2 ++ []) := by rw [HV.out]; exact oDisk_good.frame HO.out (fun b hb => hb12.block b (HLT.out b hb))
  have hG3 : ∀ b, b ∈ G0 ++ G1 ++ G2 ++ [] → w.heap.size + 2 ≤ b := fun b hb => by have := HGE.out b hb; omega
  have HBf := Hid.mk hb2
  have HO3 := Hid.mk hO3
  clear hO3
  go_wp2_with fail
  refine bodyPost_ret (v := .tuple #[.agg #[.slice d0 m.fInodes.length e0, .slice d1 m.fNames.length e1, .slice d2 m.fSafe.length e2, .int .i64 m.fNext], .int .i64 1]) (by simp [results, Tryz.results29, go_sem, *]) rfl ⟨[.slice d0 m.fInodes.length e0, .slice d1 m.fNames.length e1, .slice d2 m.fSafe.length e2, .int .i64 m.fNext], by first | rfl | rw [HCP.out], ?_, ?_⟩
  ·exact oDisk_good.read (oDisk_good.frame HO3.out (fun b hb => (show Turn [w.heap.size + 1] w2 _ from by repeat (first | with_reducible exact Turn.refl _ _ | with_reducible refine Turn.setCell ?_ (by simp) _ | with_reducible refine Turn.alloc ?_ _ | with_reducible refine Turn.drew ?_)).block b (oDisk_good.lt HO3.out b hb) (by intro h; simp at h; have := hG3 b hb; omega)))
  ·exact HBf.out.trans ((show Turn [w.heap.size + 1] w2 _ from by repeat (first | with_reducible exact Turn.refl _ _ | with_reducible refine Turn.setCell ?_ (by simp) _ | with_reducible refine Turn.alloc ?_ _ | with_reducible refine Turn.drew ?_)).below (fun k hk => by simp at hk; omega) HBf.out.size)
 have hcn1 : (callP m s == 1) = false := beq_eq_false_iff_ne.2 h1
 by_cases hN0 : nameOk t = true
 ·have HRC : Hid (renameC m s t = callP m s) := by show _ = _; unfold renameC; rw [if_pos hN0]
  have hNt := hN0
  by_cases hC : callP m s = 0
  ·by_cases hst : s = t
   ·subst hst
    have HCP : Hid (renameC m s s = 0) := by show _ = _; rw [HRC.out, hC]
    have HV : Hid (renameP m s s = m) := by show _ = _; unfold renameP; rw [if_pos HCP.out]; exact rename_self hC
    rw [hC]
    clear hC h1 hcn1 hN0
    go_wp2_with fail
    refine (l2Name_any s _ hs).mono ?_
    rintro e w9 ⟨rfl, hw9⟩
    have hw8 := hw9.symm
    clear hw9
    subst hw8
    rw [hNt]
    obtain ⟨ze0, zf0, ze1, zf1, ze2, zf2, ze3, zf3⟩ := hbr2.c8
    have hlt0 := hbr2.lt
    have hO3 : oDisk w2 [.slice d0 m.fInodes.length e0, .slice d1 m.fNames.length e1, .slice d2 m.fSafe.length e2, .int .i64 m.fNext] (renameP m s s) (G0 ++ G1 ++ G2 ++ []) := by rw [HV.out]; exact oDisk_good.frame HO.out (fun b hb => hb12.block b (HLT.out b hb))
    have hG3 : ∀ b, b ∈ G0 ++ G1 ++ G2 ++ [] → w.heap.size + 2 ≤ b := fun b hb => by have := HGE.out b hb; omega
    have HBf := Hid.mk hb2
    have HO3 := Hid.mk hO3
    clear hO3
    go_wp2_with fail
    refine bodyPost_ret (v := .tuple #[.agg #[.slice d0 m.fInodes.length e0, .slice d1 m.fNames.length e1, .slice d2 m.fSafe.length e2, .int .i64 m.fNext], .int .i64 0]) (by simp [results, Tryz.results29, go_sem, *]) rfl ⟨[.slice d0 m.fInodes.length e0, .slice d1 m.fNames.length e1, .slice d2 m.fSafe.length e2, .int .i64 m.fNext], by first | rfl | rw [HCP.out], ?_, ?_⟩
    ·exact oDisk_good.read (oDisk_good.frame HO3.out (fun b hb => (show Turn [w.heap.size + 1] w2 _ from by repeat (first | with_reducible exact Turn.refl _ _ | with_reducible refine Turn.setCell ?_ (by simp) _ | with_reducible refine Turn.alloc ?_ _ | with_reducible refine Turn.drew ?_)).block b (oDisk_good.lt HO3.out b hb) (by intro h; simp at h; have := hG3 b hb; omega)))
    ·exact HBf.out.trans ((show Turn [w.heap.size + 1] w2 _ from by repeat (first | with_reducible exact Turn.refl _ _ | with_reducible refine Turn.setCell ?_ (by simp) _ | with_reducible refine Turn.alloc ?_ _ | with_reducible refine Turn.drew ?_)).below (fun k hk => by simp at hk; omega) HBf.out.size)
   ·have heb := str_ne hst
    have hgd := (call_good hC).1
    have hhn := (call_good hC).2.2
    have hrok := rename_ok (s := s) (t := t) hC hN0
    have HV : Hid (renameP m s t = keepD { m with fNames := renameN m s t } ∧ renameC m s t = 0) := by
     have h0 : renameC m s t = 0 := HRC.out.trans hC
     refine ⟨?_, h0⟩; unfold renameP renameD; rw [if_pos h0]
    have HE : Hid (endsD m { m with fNames := renameN m s t } = keepD { m with fNames := renameN m s t } ∧ endsC { m with fNames := renameN m s t } = 0) := by
     unfold renameD at hrok
     refine ⟨?_, ?_⟩ <;> simp only [endsD, endsC, hrok, if_true]
    have hDR := diskOk_iff.1 hgd
    have hRi : Rise m.fNames := hDR.names.rise
    have hsub : (without m.fNames s).Sublist m.fNames := List.filter_sublist
    have HRW : Hid (Rise (without m.fNames s)) := hRi.sublist hsub
    have h3 := renameN_ok hDR hhn hN0
    have hwt := ok_weight hgd
    have h7 := sumW_names (fun e he => (h3.1.1 e he).2)
    have h8 := h3.2
    have HRL : Hid ((renameN m s t).length ≤ 1000) := by show _ ≤ _; omega
    have HWK1 : Hid (wDisk { m with fNames := renameN m s t } ≤ 16777216) := by
     show _ ≤ _
     rw [wDisk_eq]
     simp only
     omega
    have HLW : Hid ((without m.fNames s).length ≤ 1048576) := by show _ ≤ _; have := hsub.length_le; omega
    rw [hC]
    clear hC h1 hcn1 hN0 hrok hDR hRi hsub h3 hwt h7 h8
    obtain ⟨hk, hid, _⟩ := file_there hgd hhn
    have hnz : nameZ m.fNames s = (nameAt m.fNames s : Int) := by unfold nameZ; rw [hhn, if_pos rfl]
    have hlfn : ∀ W', Below w2.heap.size w2 W' → LeafL 2 rEntry W'.heap.size W' d1 e1 m.fNames := fun W' hb => ownS.leaf oEntry_good (ownS.frame oEntry_good HO1.out (fun b hbF => (bthen hb12 hb).block b (HLT.out b (by simp [hbF]))))
    obtain ⟨b1, o1, rfl, hB1, cs1, hcl1, hcell1, rfl, hrest1⟩ := (hlfn _ (Below.refl _ _)).2.2 (nameAt m.fNames s) hk
    have k1e := hcell1 1 _ rfl
    have HWF : Hid ((Lit.int .i64 (idOf m.fNames s)).wf = true) := by show _ = _; rw [hid]; exact hrest1.2.1
    rw [← hid] at k1e
    have q1 : ∀ W', Below w2.heap.size w2 W' → W'.cell? ⟨b1, o1 + nameAt m.fNames s * 2 + 1, none⟩ = some (.int .i64 (idOf m.fNames s)) := fun W' hb => (hb.cell (p := ⟨b1, o1 + nameAt m.fNames s * 2 + 1, none⟩) hB1).trans k1e
    have hCt := fun W' (hb : Below w2.heap.size w2 W') => l2At_any (some ⟨b1, o1, none⟩) _ e1 m.fNames s W' W'.heap.size rfl (by omega) (hlfn W' hb).2.2
    simp only [hnz] at hCt
    have hu1 : (0 : Int) ≤ (nameAt m.fNames s : Int) := by omega
    have hu2 : (nameAt m.fNames s : Int) < (m.fNames.length : Int) := by omega
    have po1 : ∀ W', Below w2.heap.size w2 W' → W'.cell? ⟨w1.heap.size, 1, none⟩ = some (.slice (some ⟨b1, o1, none⟩) m.fNames.length e1) := fun W' hb => (hwb.under hb).cell 1 _ rfl
    clear hlfn hcell1 hcl1 k1e hrest1 hid hnz
    have HKn := Hid.mk hk
    clear hk
    obtain ⟨na, hna⟩ : ∃ na, na = nameAt m.fNames s := ⟨_, rfl⟩
    obtain ⟨idn, hidn⟩ : ∃ idn, idn = idOf m.fNames s := ⟨_, rfl⟩
    rw [← hna] at q1 hCt hu1 hu2
    rw [← hidn] at q1
    have HIDN := Hid.mk hidn
    clear hna hidn
    go_wp2_with fail
    refine (l2Name_any t _ ht).mono ?_
    rintro e w9 ⟨rfl, hw9⟩
    have hw8 := hw9.symm
    clear hw9
    subst hw8
    rw [hNt]
    go_wp2_with fail
    refine wp_region_held_drew (S := fun W' => Below w2.heap.size w2 W') (by kernel_rfl) (Below.drew (Below.refl _ _)) (fun hHeld => ?_)
    refine uq 0 q0d9_29_7_0 35 hHeld ?_
    refine uq 1 q0d9_29_7_1 36 hHeld ?_
    refine uq 2 q0d9_29_7_2 37 hHeld ?_
    refine uq 3 q0d9_29_7_3 38 hHeld ?_
    refine uq 4 q0d9_29_7_4 39 hHeld ?_
    refine ar1 5 q0d9_29_7_5 fun K hK => ?_
    go_simp
    refine Calls.mono (hCt _ hHeld) ?_
    rintro e wy1 ⟨rfl, hw1⟩
    have hy1 := below_same hw1
    clear hw1
    go_wp2_with fail
    refine hK.out _ _ (bthen hHeld hy1) (fun hHeld => ?_)
    clear hK K
    try simp only[Act.put,sa,s0,s1]
    refine uq 6 q0d9_29_7_6 41 hHeld ?_
    refine uq 7 q0d9_29_7_7 42 hHeld ?_
    refine uq 8 q0d9_29_7_8 43 hHeld ?_
    refine uq 9 q0d9_29_7_9 10 hHeld ?_
    refine wpAnyH_done (by kernel_rfl) ?_ _
    obtain ⟨wo, hwo⟩ : ∃ wo, wo = wy1 := ⟨_, rfl⟩
    rw [← hwo] at hHeld ⊢
    clear hwo hCt po1 q1 zo0 zo1 zo2 zo3
    have hbo := bthen hb12 hHeld
    have hb3 := bthen hb2 hHeld
    have hwbo := hwb.under hHeld
    have hbdo := hbd2.under hHeld
    have hbro := hbr2.under hHeld
    clear hwb hbd2 hbr2 hHeld
    obtain ⟨zo0, zo1, zo2, zo3⟩ := hwbo.c4
    have hlo := hwbo.lt
    have fo1 := hwbo.free 1
    go_wp2_with fail
    refine (l2Without_any (some ⟨b1, o1, none⟩) m.fNames.length e1 m.fNames s wo rfl (by omega) (ownS.leaf oEntry_good (ownS.frame oEntry_good HO1.out (fun b hbF => hbo.block b (HLT.out b (by simp [hbF])))))).mono ?_
    rintro e w3 ⟨r3, q3, F3, rfl, ho3, hg3, hx3⟩
    have HO3 := Hid.mk ho3
    clear ho3 hg3
    have hwb3 := hwbo.under hx3
    have hbd3 := hbdo.under hx3
    have hbr3 := hbro.under hx3
    have hbt3 := bthen hbo hx3
    have hbu3 := bthen hb3 hx3
    clear hwbo hbdo hbro zo0 zo1 zo2 zo3 fo1 hlo
    obtain ⟨zo0, zo1, zo2, zo3⟩ := hwb3.c4
    have hlo := hwb3.lt
    have fo1 := hwb3.free 1
    have HRN : Hid (withE (without m.fNames s) ⟨t, idn⟩ = renameN m s t) := by show _ = _; unfold renameN; rw [HIDN.out]
    go_wp2_with fail
    have hcall := l2With_any r3 _ q3 (without m.fNames s) ⟨t, idn⟩ w3 rfl HLW.out (ownS.leaf oEntry_good HO3.out) HRW.out ht (by rw [HIDN.out]; exact HWF.out)
    rw [HRN.out] at hcall
    refine hcall.mono ?_
    clear hcall
    rintro e w4 ⟨r4, q4, F4, rfl, ho4, hg4, hx4⟩
    have HO4 := Hid.mk ho4
    have HGS := Hid.mk hg4
    clear ho4 hg4
    have hwb4 := hwb3.under hx4
    have zf1 := hwb4.free 1
    have hl3 := hwb4.lt
    have hbd4 := hbd3.under hx4
    have hl3d := hbd4.lt
    obtain ⟨zd0, zd1, zd2, zd3⟩ := hwb4.c4
    obtain ⟨yd0, yd1, yd2, yd3⟩ := hbd4.c4
    clear zo0 zo1 zo2 zo3 fo1
    have hsz3 := hbt3.size
    go_wp2_with fail
    obtain ⟨ws, hws⟩ : ∃ ws, ws = w4.setCell ⟨w1.heap.size, 1, none⟩ (.slice r4 (renameN m s t).length q4) := ⟨_, rfl⟩
    have hTs : Turn [w1.heap.size] w4 ws := by rw [hws]; exact Turn.setCell (Turn.refl _ _) (by simp) _
    have hwbs : Bw ws w1.heap.size 34 [.slice d0 m.fInodes.length e0, .slice r4 (renameN m s t).length q4, .slice d2 m.fSafe.length e2, .int .i64 m.fNext] := by rw [hws]; exact hwb4.put 1 _
    have hbds := hbd4.turn hTs (by simp; omega)
    have hbrs := (hbr3.under hx4).turn hTs (by simp; omega)
    have hbu4 := bthen hbu3 hx4
    have hbt4 := bthen hbt3 hx4
    have hBs : Below w.heap.size w ws := hbu4.trans (hTs.below (fun k hk => by simp at hk; omega) hbu4.size)
    have hfr : ∀ b, b ∈ G0 ++ G1 ++ G2 ++ [] → ws.heap[b]? = w1.heap[b]? := fun b hb => by
     have h1 := HLT.out b hb
     rw [hTs.block b (by have := hbt4.size; omega) (by simp; omega), hbt4.block b h1]
    have t0 := ownS.frame (w' := ws) oInode_good HO0.out (fun b hb => hfr b (by simp [hb]))
    have t2 := ownS.frame (w' := ws) oEntry_good HO2.out (fun b hb => hfr b (by simp [hb]))
    have t1 := ownS.frame (w' := ws) oEntry_good HO4.out (fun b hb => hTs.block b (ownS.lt oEntry_good HO4.out b hb) (by intro h; simp at h; have := HGS.out b hb; omega))
    have HT0 := Hid.mk t0
    have HT1 := Hid.mk t1
    have HT2 := Hid.mk t2
    have HBS := Hid.mk hBs
    have HSUB : Hid (∀ b, b ∈ G0 ++ F4 ++ G2 → w.heap.size + 2 ≤ b) := by
     intro b hb
     rw [List.mem_append, List.mem_append] at hb
     rcases hb with (hb | hb) | hb
     ·have := HGE.out b (by simp [hb]); omega
     ·have := HGS.out b hb; omega
     ·have := HGE.out b (by simp [hb]); omega
    rw [← hws]
    clear hws t0 t1 t2 hfr hTs zf1 zd0 zd1 zd2 zd3 yd0 yd1 yd2 yd3
    obtain ⟨zs0, zs1, zs2, zs3⟩ := hwbs.c4
    obtain ⟨ys0, ys1, ys2, ys3⟩ := hbds.c4
    go_wp2_with fail
    refine (l2Ends_any _ d0 r4 d2 e0 q4 e2 m { m with fNames := renameN m s t } G0 _ G2 ws (rDisk_good.mono (rDisk_good.below HR.out HBS.out) HBS.out.size) HW.out HT0.out HT1.out HT2.out hnx HWK1.out (by have := HRL.out; simp only; omega)).mono ?_
    rintro e w5 ⟨cs4, F4, rfl, ho4, hF4, hx5⟩
    have hb5 := bthen HBS.out hx5
    have hbr5 := hbrs.under hx5
    have hl5 := hbr5.lt
    have hzE := HBS.out.size
    have hlE := hbrs.lt
    rw [HE.out.1] at ho4
    obtain ⟨q0, p0, q1, p1, q2, p2, E0, E1, E2, rfl, _, _, _, _, rfl⟩ := oDisk_cells ho4
    have hkey : ∀ W', Turn [w.heap.size + 1] w5 W' → rDisk W'.heap.size W' [.slice q0 (keepD { m with fNames := renameN m s t }).fInodes.length p0, .slice q1 (keepD { m with fNames := renameN m s t }).fNames.length p1, .slice q2 (keepD { m with fNames := renameN m s t }).fSafe.length p2, .int .i64 (keepD { m with fNames := renameN m s t }).fNext] (keepD { m with fNames := renameN m s t }) ∧ Below w.heap.size w W' := fun W' hT =>
     ⟨oDisk_good.read (oDisk_good.frame ho4 (fun b hb => hT.block b (oDisk_good.lt ho4 b hb) (fun h => by simp at h; rcases hF4 b hb with h2 | h2; (have := HSUB.out b h2; omega); omega))), hb5.trans (hT.below (fun k hk => by simp at hk; omega) hb5.size)⟩
    have HKEY := Hid.mk hkey
    clear hkey ho4 hF4
    obtain ⟨ze0, ze1, ze2, ze3⟩ := hbr5.c4
    obtain ⟨zf0, zf1, zf2, zf3⟩ := hbr5.f4
    have HEC : Hid (endsC { m with fNames := renameN m s t } = 0) := HE.out.2
    rw [HEC.out]
    go_wp2_with fail
    obtain ⟨h1, h3⟩ := HKEY.out _ (show Turn [w.heap.size + 1] w5 ((((w5.setCell ⟨w.heap.size + 1, 0, none⟩ (.slice q0 (keepD { m with fNames := renameN m s t }).fInodes.length p0)).setCell ⟨w.heap.size + 1, 1, none⟩ (.slice q1 (keepD { m with fNames := renameN m s t }).fNames.length p1)).setCell ⟨w.heap.size + 1, 2, none⟩ (.slice q2 (keepD { m with fNames := renameN m s t }).fSafe.length p2)).setCell ⟨w.heap.size + 1, 3, none⟩ (.int .i64 (keepD { m with fNames := renameN m s t }).fNext)) from turn4 _ _ _ _ _ _)
    exact bodyPost_ret (v := .tuple #[.agg #[.slice q0 (keepD { m with fNames := renameN m s t }).fInodes.length p0, .slice q1 (keepD { m with fNames := renameN m s t }).fNames.length p1, .slice q2 (keepD { m with fNames := renameN m s t }).fSafe.length p2, .int .i64 (keepD { m with fNames := renameN m s t }).fNext], .int .i64 0]) (by simp [results, Tryz.results29, go_sem, *]) rfl ⟨[.slice q0 (keepD { m with fNames := renameN m s t }).fInodes.length p0, .slice q1 (keepD { m with fNames := renameN m s t }).fNames.length p1, .slice q2 (keepD { m with fNames := renameN m s t }).fSafe.length p2, .int .i64 (keepD { m with fNames := renameN m s t }).fNext], by rw [HV.out.2], by rw [HV.out.1]; exact h1, h3⟩
  ·have HCP : Hid (renameC m s t = callP m s) := HRC
   have HV : Hid (renameP m s t = m) := by show _ = _; unfold renameP; rw [HCP.out, if_neg hC]
   have hcn : (callP m s == 0) = false := beq_eq_false_iff_ne.2 hC
   obtain ⟨cp, hcp⟩ : ∃ cp, callP m s = cp := ⟨_, rfl⟩
   have hcn2 : (callP m s != 0) = true := bne_iff_ne.2 hC
   rw [hcp] at hcn hcn2 hcn1 HCP ⊢
   clear hcp hC h1 hN0 HRC
   go_wp2_with fail
   refine (l2Name_any t _ ht).mono ?_
   rintro e w9 ⟨rfl, hw9⟩
   have hw8 := hw9.symm
   clear hw9
   subst hw8
   rw [hNt]
   obtain ⟨ze0, zf0, ze1, zf1, ze2, zf2, ze3, zf3⟩ := hbr2.c8
   have hlt0 := hbr2.lt
   have hO3 : oDisk w2 [.slice d0 m.fInodes.length e0, .slice d1 m.fNames.length e1, .slice d2 m.fSafe.length e2, .int .i64 m.fNext] (renameP m s t) (G0 ++ G1 ++ G2 ++ []) := by rw [HV.out]; exact oDisk_good.frame HO.out (fun b hb => hb12.block b (HLT.out b hb))
   have hG3 : ∀ b, b ∈ G0 ++ G1 ++ G2 ++ [] → w.heap.size + 2 ≤ b := fun b hb => by have := HGE.out b hb; omega
   have HBf := Hid.mk hb2
   have HO3 := Hid.mk hO3
   clear hO3
   go_wp2_with fail
   refine bodyPost_ret (v := .tuple #[.agg #[.slice d0 m.fInodes.length e0, .slice d1 m.fNames.length e1, .slice d2 m.fSafe.length e2, .int .i64 m.fNext], .int .i64 cp]) (by simp [results, Tryz.results29, go_sem, *]) rfl ⟨[.slice d0 m.fInodes.length e0, .slice d1 m.fNames.length e1, .slice d2 m.fSafe.length e2, .int .i64 m.fNext], by first | rfl | rw [HCP.out], ?_, ?_⟩
   ·exact oDisk_good.read (oDisk_good.frame HO3.out (fun b hb => (show Turn [w.heap.size + 1] w2 _ from by repeat (first | with_reducible exact Turn.refl _ _ | with_reducible refine Turn.setCell ?_ (by simp) _ | with_reducible refine Turn.alloc ?_ _ | with_reducible refine Turn.drew ?_)).block b (oDisk_good.lt HO3.out b hb) (by intro h; simp at h; have := hG3 b hb; omega)))
   ·exact HBf.out.trans ((show Turn [w.heap.size + 1] w2 _ from by repeat (first | with_reducible exact Turn.refl _ _ | with_reducible refine Turn.setCell ?_ (by simp) _ | with_reducible refine Turn.alloc ?_ _ | with_reducible refine Turn.drew ?_)).below (fun k hk => by simp at hk; omega) HBf.out.size)
 ·have hNt : nameOk t = false := Bool.eq_false_iff.2 hN0
  have HCP : Hid (renameC m s t = 1) := by show _ = _; unfold renameC; rw [if_neg hN0]
  have HV : Hid (renameP m s t = m) := by show _ = _; unfold renameP; rw [HCP.out]; rfl
  obtain ⟨cp, hcp⟩ : ∃ cp, callP m s = cp := ⟨_, rfl⟩
  rw [hcp] at hcn1 ⊢
  clear hcp h1 hN0
  go_wp2_with fail
  refine (l2Name_any t _ ht).mono ?_
  rintro e w9 ⟨rfl, hw9⟩
  have hw8 := hw9.symm
  clear hw9
  subst hw8
  rw [hNt]
  obtain ⟨ze0, zf0, ze1, zf1, ze2, zf2, ze3, zf3⟩ := hbr2.c8
  have hlt0 := hbr2.lt
  have hO3 : oDisk w2 [.slice d0 m.fInodes.length e0, .slice d1 m.fNames.length e1, .slice d2 m.fSafe.length e2, .int .i64 m.fNext] (renameP m s t) (G0 ++ G1 ++ G2 ++ []) := by rw [HV.out]; exact oDisk_good.frame HO.out (fun b hb => hb12.block b (HLT.out b hb))
  have hG3 : ∀ b, b ∈ G0 ++ G1 ++ G2 ++ [] → w.heap.size + 2 ≤ b := fun b hb => by have := HGE.out b hb; omega
  have HBf := Hid.mk hb2
  have HO3 := Hid.mk hO3
  clear hO3
  go_wp2_with fail
  refine bodyPost_ret (v := .tuple #[.agg #[.slice d0 m.fInodes.length e0, .slice d1 m.fNames.length e1, .slice d2 m.fSafe.length e2, .int .i64 m.fNext], .int .i64 1]) (by simp [results, Tryz.results29, go_sem, *]) rfl ⟨[.slice d0 m.fInodes.length e0, .slice d1 m.fNames.length e1, .slice d2 m.fSafe.length e2, .int .i64 m.fNext], by first | rfl | rw [HCP.out], ?_, ?_⟩
  ·exact oDisk_good.read (oDisk_good.frame HO3.out (fun b hb => (show Turn [w.heap.size + 1] w2 _ from by repeat (first | with_reducible exact Turn.refl _ _ | with_reducible refine Turn.setCell ?_ (by simp) _ | with_reducible refine Turn.alloc ?_ _ | with_reducible refine Turn.drew ?_)).block b (oDisk_good.lt HO3.out b hb) (by intro h; simp at h; have := hG3 b hb; omega)))
  ·exact HBf.out.trans ((show Turn [w.heap.size + 1] w2 _ from by repeat (first | with_reducible exact Turn.refl _ _ | with_reducible refine Turn.setCell ?_ (by simp) _ | with_reducible refine Turn.alloc ?_ _ | with_reducible refine Turn.drew ?_)).below (fun k hk => by simp at hk; omega) HBf.out.size)
end Go.Proofs.YtddejboifpepcaaGreatDoor
