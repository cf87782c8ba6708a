/-
  Part 28 of the texts that the proof leans on.
-/
import Derived.Test.YtegonncmopecnaaGreatDoorMnd13
import Derived.Test.YtegonncmopecnaaGreatDoorMnd14
import Derived.Test.YtegonncmopecnaaGreatDoorMnd15
import Derived.Test.YtegonncmopecnaaGreatDoorMnd3
import Derived.Test.YtegonncmopecnaaGreatDoorMnd22
import Derived.Test.YtegonncmopecnaaGreatDoorMnd10
import Derived.Test.YtegonncmopecnaaGreatDoorMnd0
import Derived.Test.YtegonncmopecnaaGreatDoorMnd4
import Derived.Deep.AppendSrc
set_option linter.unusedVariables false
set_option linter.unusedSimpArgs false
set_option maxRecDepth 10000

namespace Go.Proofs.YtegonncmopecnaaGreatDoor
open Go.RowKit
set_option maxHeartbeats 8000000 in
theorem l3Mend_any (cs : List Value) (m : MDisk) (s : ByteArray) (vb : Value) (zb : List Int) (w : World) (hr : rDisk w.heap.size w cs m) (hw : wDisk m <= 1048576) (hs : s.size <= 1048576) (hvb : rdB w.heap.size w vb zb) (hzb : zb.length <= 1048576) :
  Calls Tryz.prog 24 #[.agg cs.toArray, .string s, vb] w fun e w' => ∃ cs' : List Value, e = .returned (.tuple #[.agg cs'.toArray, .int .i64 (switchP m mendN zb s).2]) /\ rDisk w'.heap.size w' cs' (switchP m mendN zb s).1 /\ Below w.heap.size w w' := by
 have hq := hr
 obtain ⟨a0, c0, a1, c1, a2, c2, rfl, hI, hNm, hSf, hnx, _⟩ := hq
 have hlN : m.fNames.length <= 1048576 := by rw [wDisk_eq] at hw; omega
 obtain ⟨ab, cb, rfl, hlb⟩ := hvb
 have HVB : Hid (rdB w.heap.size w (.slice ab zb.length cb) zb) := ⟨ab, cb, rfl, hlb⟩
 have HW := Hm hw
 have HR := Hm hr
 have HNM := Hm hNm
 clear hr hI hNm hSf hw hlb
 obtain ⟨wq, hwq⟩ : ∃ wq, wq = ((w.alloc (.cells #[.slice a0 m.fInodes.length c0, .slice a1 m.fNames.length c1, .slice a2 m.fSafe.length c2, .int .i64 m.fNext] 27)).alloc (.cells #[.slice none 0 0, .slice none 0 0, .slice none 0 0, .int .i64 0] 27)).alloc (.cells #[.slice a0 m.fInodes.length c0, .slice a1 m.fNames.length c1, .slice a2 m.fSafe.length c2, .int .i64 m.fNext] 27) := ⟨_, rfl⟩
 have hzq : wq.heap.size = w.heap.size + 3 := by rw [hwq]; simp
 have hbW : Below w.heap.size w wq := by rw [hwq]; exact ((rB.alloc rN _).alloc (by simp) _).alloc (by simp; omega) _
 have hbo : Bw wq (w.heap.size + 1 + 1) 27 [.slice a0 m.fInodes.length c0, .slice a1 m.fNames.length c1, .slice a2 m.fSafe.length c2, .int .i64 m.fNext] := by rw [hwq]; exact Bw.new' _ _ _ (by simp)
 have hbr : Bw wq (w.heap.size + 1) 27 [.slice none 0 0, .slice none 0 0, .slice none 0 0, .int .i64 0] := by rw [hwq]; exact (Bw.new' _ _ _ (by simp)).alloc _
 have hS0 : SpW w wq [.slice a0 m.fInodes.length c0, .slice a1 m.fNames.length c1, .slice a2 m.fSafe.length c2, .int .i64 m.fNext] m := ⟨hbo, rDisk_good.mono (rDisk_good.below HR.out hbW) hbW.size, hbr, hbW⟩
 go_enter Tryz.func24, Tryz.ntmps24
 go_wp2_with fail
 rw [<- hwq]
 clear hwq
 refine (l2At_any a1 m.fNames.length c1 m.fNames mendN wq wq.heap.size rfl (by omega) (LeafL.mono rEntry_good (HNM.out.below rEntry_good hbW) hbW.size).2.2).mono ?_
 rintro e w0 ⟨rfl, hw0⟩
 have hw0' := hw0.symm
 clear hw0
 subst hw0'
 obtain ⟨mr, hmr⟩ : ∃ mr, mr = removeP m mendN := ⟨_, rfl⟩
 have HMR := Hm hmr
 have hwr : wDisk mr <= 1048576 := by rw [hmr]; exact small_remove HW.out
 have HREM := Hm hmr
 clear hmr
 obtain ⟨x0, x1, x2, x3⟩ := hbo.c4
 obtain ⟨f0, f1, f2, f3⟩ := hbo.f4
 have hlo := hbo.lt
 by_cases hH : hasName m.fNames mendN = true
 ·have hz : 0 <= nameZ m.fNames mendN := by unfold nameZ; rw [if_pos hH]; omega
  have hz9 : nameZ m.fNames mendN <= 1048576 := by unfold nameZ; rw [if_pos hH]; have := (hasName_at hH).1; omega
  generalize nameZ m.fNames mendN = nz at *
  go_wp2_with fail
  refine (specRemove_c _ m mendN wq (rDisk_good.mono (rDisk_good.below HR.out hbW) hbW.size) (by decide) HW.out (by decide)).mono ?_
  rw [<- HREM.out]
  rintro e w1 ⟨cs1, rfl, hr1, hx1⟩
  have hq1 := hr1
  obtain ⟨q0, qp0, q1, qp1, q2, qp2, rfl, _⟩ := hq1
  have hb1 := hbo.under hx1
  have HS1 := Hm (hS0.step rfl hx1 hr1)
  obtain ⟨y0, g0, y1, g1, y2, g2, y3, g3⟩ := hb1.c8
  have hl1 := hb1.lt
  clear x0 x1 x2 x3 f0 f1 f2 f3 hlo hbo hbr hS0 hb1 hr1
  obtain ⟨w2, hw2⟩ : ∃ w2, w2 = ((((w1.setCell ⟨w.heap.size + 1 + 1, 0, none⟩ (.slice q0 mr.fInodes.length qp0)).setCell ⟨w.heap.size + 1 + 1, 1, none⟩ (.slice q1 mr.fNames.length qp1)).setCell ⟨w.heap.size + 1 + 1, 2, none⟩ (.slice q2 mr.fSafe.length qp2)).setCell ⟨w.heap.size + 1 + 1, 3, none⟩ (.int .i64 mr.fNext)) := ⟨_, rfl⟩
  rw [<- hw2] at HS1
  have hS : ∃ cs2, SpW w w2 cs2 mr := ⟨_, HS1.out⟩
  go_wp2_with fail
  rw [<- hw2]
  clear hw2 y0 y1 y2 y3 g0 g1 g2 g3 hl1 HS1
  go_loopw [9, 10] (fun cv kv wr => ∃ (k : Nat) (c : Int) (cs2 : List Value) (d2 : MDisk), k <= 5 /\ kv = .int .i64 k /\ cv = .int .i64 c /\ SpW w wr cs2 d2 /\ wDisk d2 <= 1048576 /\ ((c = 0 /\ SwAt m mendN zb s k /\ d2 = swD mr mendN zb s k) ∨ (c ≠ 0 /\ switchP m mendN zb s = (d2, c)))) (fun _ kv _ => 5 - (intOf kv).toNat)
  case atStart => obtain ⟨cs2, hS⟩ := hS; exact ⟨0, 0, cs2, mr, by omega, rfl, rfl, hS, hwr, .inl ⟨rfl, SwAt.start _ _ _ _, rfl⟩⟩
  case round =>
   obtain ⟨k, c, cs2, d2, hk, rfl, rfl, hS2, hsm, hcase⟩ := hrel
   clear hS
   have HS := Hm hS2
   clear hS2
   rcases hcase with ⟨rfl, hat, hd2⟩ | ⟨hc, hres⟩
   ·have HAT := Hm hat
    have HD2 := Hm hd2
    clear hat hd2
    by_cases h5 : k = 5
    ·subst h5
     have HRES : Hid (switchP m mendN zb s = (d2, 0)) := by show _ = _; rw [SwAt.done HAT.out, <- HMR.out, <- HD2.out]
     obtain ⟨y0, yp0, y1, yp1, y2, yp2, rfl, _⟩ := id HS.out.2.1
     have r1 := HS.out.2.2.1
     have x0 := HS.out.1.cell 0 _ rfl
     have r10 := r1.cell 0 _ rfl
     have rf0 := r1.free 0
     have x1 := HS.out.1.cell 1 _ rfl
     have r11 := r1.cell 1 _ rfl
     have rf1 := r1.free 1
     have x2 := HS.out.1.cell 2 _ rfl
     have r12 := r1.cell 2 _ rfl
     have rf2 := r1.free 2
     have x3 := HS.out.1.cell 3 _ rfl
     have r13 := r1.cell 3 _ rfl
     have rf3 := r1.free 3
     have hlr := r1.lt
     have hld := HS.out.1.lt
     have hT := turn4 wr (w.heap.size + 1) (.slice y0 d2.fInodes.length yp0) (.slice y1 d2.fNames.length yp1) (.slice y2 d2.fSafe.length yp2) (.int .i64 d2.fNext)
     have HB : Hid (Below w.heap.size w ((((wr.setCell ⟨w.heap.size + 1, 0, none⟩ (.slice y0 d2.fInodes.length yp0)).setCell ⟨w.heap.size + 1, 1, none⟩ (.slice y1 d2.fNames.length yp1)).setCell ⟨w.heap.size + 1, 2, none⟩ (.slice y2 d2.fSafe.length yp2)).setCell ⟨w.heap.size + 1, 3, none⟩ (.int .i64 d2.fNext))) := HS.out.2.2.2.trans (hT.below (fun k hk => by simp at hk; omega) HS.out.2.2.2.size)
     have HO : Hid (rDisk ((((wr.setCell ⟨w.heap.size + 1, 0, none⟩ (.slice y0 d2.fInodes.length yp0)).setCell ⟨w.heap.size + 1, 1, none⟩ (.slice y1 d2.fNames.length yp1)).setCell ⟨w.heap.size + 1, 2, none⟩ (.slice y2 d2.fSafe.length yp2)).setCell ⟨w.heap.size + 1, 3, none⟩ (.int .i64 d2.fNext)).heap.size ((((wr.setCell ⟨w.heap.size + 1, 0, none⟩ (.slice y0 d2.fInodes.length yp0)).setCell ⟨w.heap.size + 1, 1, none⟩ (.slice y1 d2.fNames.length yp1)).setCell ⟨w.heap.size + 1, 2, none⟩ (.slice y2 d2.fSafe.length yp2)).setCell ⟨w.heap.size + 1, 3, none⟩ (.int .i64 d2.fNext)) [.slice y0 d2.fInodes.length yp0, .slice y1 d2.fNames.length yp1, .slice y2 d2.fSafe.length yp2, .int .i64 d2.fNext] d2) := by
      have h := rDisk_turn r1.dzero hT HS.out.2.1
      have hz : ((((wr.setCell ⟨w.heap.size + 1, 0, none⟩ (.slice y0 d2.fInodes.length yp0)).setCell ⟨w.heap.size + 1, 1, none⟩ (.slice y1 d2.fNames.length yp1)).setCell ⟨w.heap.size + 1, 2, none⟩ (.slice y2 d2.fSafe.length yp2)).setCell ⟨w.heap.size + 1, 3, none⟩ (.int .i64 d2.fNext)).heap.size = wr.heap.size := by simp
      unfold Hid
      rw [hz]
      exact h
     clear hT r1
     go_wp2_with fail
     all_goals exact bodyPost_ret (v := .tuple #[.agg #[.slice y0 d2.fInodes.length yp0, .slice y1 d2.fNames.length yp1, .slice y2 d2.fSafe.length yp2, .int .i64 d2.fNext], .int .i64 0]) (by simp [results, Tryz.results24, go_sem, *]) rfl ⟨[.slice y0 d2.fInodes.length yp0, .slice y1 d2.fNames.length yp1, .slice y2 d2.fSafe.length yp2, .int .i64 d2.fNext], by rw [HRES.out], by rw [HRES.out]; exact HO.out, HB.out⟩
    ·have h5l : k < 5 := by omega
     have HON := Hm (fun h => SwAt.on HAT.out h5l h)
     have HOU := Hm (fun h => SwAt.out HAT.out h5l h)
     rw [<- HMR.out] at HON HOU
     rcases (show k = 0 ∨ k = 1 ∨ k = 2 ∨ k = 3 ∨ k = 4 from by omega) with rfl | rfl | rfl | rfl | rfl
     ·have HD : Hid (swD mr mendN zb s (0 + 1) = createP d2 mendN) := by show _ = _; rw [HD2.out]; rfl
      have HC : Hid (swC mr mendN zb s 0 = createC d2 mendN) := by show _ = _; rw [HD2.out]; rfl
      obtain ⟨y0, yp0, y1, yp1, y2, yp2, rfl, _⟩ := id HS.out.2.1
      obtain ⟨x0, x1, x2, x3⟩ := HS.out.1.c4
      have hld := HS.out.1.lt
      have hBw := HS.out.2.2.2
      have hsm3 := small_create (s := mendN) hsm
      go_wp2_with fail
      refine (specCreate_c _ d2 mendN wr HS.out.2.1 (by decide) hsm (by decide)).mono ?_
      rw [<- HD.out, <- HC.out]
      rw [<- HD.out] at hsm3
      generalize hd3 : swD mr mendN zb s (0 + 1) = d3 at *
      have HD3 := Hm hd3
      clear hd3
      generalize swC mr mendN zb s 0 = c3 at *
      rintro e w3 ⟨cs3, rfl, hr3, hx3⟩
      obtain ⟨z0, zp0, z1, zp1, z2, zp2, rfl, _⟩ := id hr3
      have hb3 := HS.out.1.under hx3
      obtain ⟨v0, g0, v1, g1, v2, g2, v3, g3⟩ := hb3.c8
      have hl3 := hb3.lt
      have HS3 := Hm (HS.out.step rfl hx3 hr3)
      obtain ⟨w4, hw4⟩ : ∃ w4, w4 = ((((w3.setCell ⟨w.heap.size + 1 + 1, 0, none⟩ (.slice z0 d3.fInodes.length zp0)).setCell ⟨w.heap.size + 1 + 1, 1, none⟩ (.slice z1 d3.fNames.length zp1)).setCell ⟨w.heap.size + 1 + 1, 2, none⟩ (.slice z2 d3.fSafe.length zp2)).setCell ⟨w.heap.size + 1 + 1, 3, none⟩ (.int .i64 d3.fNext)) := ⟨_, rfl⟩
      rw [<- hw4] at HS3
      clear hr3 hb3 x0 x1 x2 x3 hld
      go_wp2_with fail
      rw [<- hw4]
      clear hw4
      go_roundw
      case rel =>
       refine ⟨1, c3, _, d3, by omega, by go_num, rfl, HS3.out, hsm3, ?_⟩
       by_cases hc0 : c3 = 0
       ·exact .inl ⟨hc0, HON.out hc0, HD3.out.symm⟩
       ·exact .inr ⟨hc0, HOU.out hc0⟩
      case measure => simp [intOf]
     ·have HD : Hid (swD mr mendN zb s (1 + 1) = appendP d2 mendN zb) := by show _ = _; rw [HD2.out]; rfl
      have HC : Hid (swC mr mendN zb s 1 = appendC d2 mendN zb) := by show _ = _; rw [HD2.out]; rfl
      obtain ⟨y0, yp0, y1, yp1, y2, yp2, rfl, _⟩ := id HS.out.2.1
      obtain ⟨x0, x1, x2, x3⟩ := HS.out.1.c4
      have hld := HS.out.1.lt
      have hBw := HS.out.2.2.2
      have hsm3 := small_append (s := mendN) (b := zb) hsm
      go_wp2_with fail
      refine (specAppend_b _ d2 mendN (.slice ab zb.length cb) zb wr HS.out.2.1 (by decide) ((HVB.out.below hBw).mono hBw.size) hsm (by decide) (by omega)).mono ?_
      rw [<- HD.out, <- HC.out]
      rw [<- HD.out] at hsm3
      generalize hd3 : swD mr mendN zb s (1 + 1) = d3 at *
      have HD3 := Hm hd3
      clear hd3
      generalize swC mr mendN zb s 1 = c3 at *
      rintro e w3 ⟨cs3, rfl, hr3, hx3⟩
      obtain ⟨z0, zp0, z1, zp1, z2, zp2, rfl, _⟩ := id hr3
      have hb3 := HS.out.1.under hx3
      obtain ⟨v0, g0, v1, g1, v2, g2, v3, g3⟩ := hb3.c8
      have hl3 := hb3.lt
      have HS3 := Hm (HS.out.step rfl hx3 hr3)
      obtain ⟨w4, hw4⟩ : ∃ w4, w4 = ((((w3.setCell ⟨w.heap.size + 1 + 1, 0, none⟩ (.slice z0 d3.fInodes.length zp0)).setCell ⟨w.heap.size + 1 + 1, 1, none⟩ (.slice z1 d3.fNames.length zp1)).setCell ⟨w.heap.size + 1 + 1, 2, none⟩ (.slice z2 d3.fSafe.length zp2)).setCell ⟨w.heap.size + 1 + 1, 3, none⟩ (.int .i64 d3.fNext)) := ⟨_, rfl⟩
      rw [<- hw4] at HS3
      clear hr3 hb3 x0 x1 x2 x3 hld
      go_wp2_with fail
      rw [<- hw4]
      clear hw4
      go_roundw
      case rel =>
       refine ⟨2, c3, _, d3, by omega, by go_num, rfl, HS3.out, hsm3, ?_⟩
       by_cases hc0 : c3 = 0
       ·exact .inl ⟨hc0, HON.out hc0, HD3.out.symm⟩
       ·exact .inr ⟨hc0, HOU.out hc0⟩
      case measure => simp [intOf]
     ·have HD : Hid (swD mr mendN zb s (2 + 1) = syncP d2 mendN) := by show _ = _; rw [HD2.out]; rfl
      have HC : Hid (swC mr mendN zb s 2 = callP d2 mendN) := by show _ = _; rw [HD2.out]; rfl
      obtain ⟨y0, yp0, y1, yp1, y2, yp2, rfl, _⟩ := id HS.out.2.1
      obtain ⟨x0, x1, x2, x3⟩ := HS.out.1.c4
      have hld := HS.out.1.lt
      have hBw := HS.out.2.2.2
      have hsm3 := small_sync (s := mendN) hsm
      go_wp2_with fail
      refine (specSync_c _ d2 mendN wr HS.out.2.1 (by decide) hsm (by decide)).mono ?_
      rw [<- HD.out, <- HC.out]
      rw [<- HD.out] at hsm3
      generalize hd3 : swD mr mendN zb s (2 + 1) = d3 at *
      have HD3 := Hm hd3
      clear hd3
      generalize swC mr mendN zb s 2 = c3 at *
      rintro e w3 ⟨cs3, rfl, hr3, hx3⟩
      obtain ⟨z0, zp0, z1, zp1, z2, zp2, rfl, _⟩ := id hr3
      have hb3 := HS.out.1.under hx3
      obtain ⟨v0, g0, v1, g1, v2, g2, v3, g3⟩ := hb3.c8
      have hl3 := hb3.lt
      have HS3 := Hm (HS.out.step rfl hx3 hr3)
      obtain ⟨w4, hw4⟩ : ∃ w4, w4 = ((((w3.setCell ⟨w.heap.size + 1 + 1, 0, none⟩ (.slice z0 d3.fInodes.length zp0)).setCell ⟨w.heap.size + 1 + 1, 1, none⟩ (.slice z1 d3.fNames.length zp1)).setCell ⟨w.heap.size + 1 + 1, 2, none⟩ (.slice z2 d3.fSafe.length zp2)).setCell ⟨w.heap.size + 1 + 1, 3, none⟩ (.int .i64 d3.fNext)) := ⟨_, rfl⟩
      rw [<- hw4] at HS3
      clear hr3 hb3 x0 x1 x2 x3 hld
      go_wp2_with fail
      rw [<- hw4]
      clear hw4
      go_roundw
      case rel =>
       refine ⟨3, c3, _, d3, by omega, by go_num, rfl, HS3.out, hsm3, ?_⟩
       by_cases hc0 : c3 = 0
       ·exact .inl ⟨hc0, HON.out hc0, HD3.out.symm⟩
       ·exact .inr ⟨hc0, HOU.out hc0⟩
      case measure => simp [intOf]
     ·have HD : Hid (swD mr mendN zb s (3 + 1) = renameP d2 mendN s) := by show _ = _; rw [HD2.out]; rfl
      have HC : Hid (swC mr mendN zb s 3 = renameC d2 mendN s) := by show _ = _; rw [HD2.out]; rfl
      obtain ⟨y0, yp0, y1, yp1, y2, yp2, rfl, _⟩ := id HS.out.2.1
      obtain ⟨x0, x1, x2, x3⟩ := HS.out.1.c4
      have hld := HS.out.1.lt
      have hBw := HS.out.2.2.2
      have hsm3 := small_rename (s := mendN) (t := s) hsm
      go_wp2_with fail
      refine (specRename_c _ d2 mendN s wr HS.out.2.1 (by decide) (by omega) hsm (by decide) hs).mono ?_
      rw [<- HD.out, <- HC.out]
      rw [<- HD.out] at hsm3
      generalize hd3 : swD mr mendN zb s (3 + 1) = d3 at *
      have HD3 := Hm hd3
      clear hd3
      generalize swC mr mendN zb s 3 = c3 at *
      rintro e w3 ⟨cs3, rfl, hr3, hx3⟩
      obtain ⟨z0, zp0, z1, zp1, z2, zp2, rfl, _⟩ := id hr3
      have hb3 := HS.out.1.under hx3
      obtain ⟨v0, g0, v1, g1, v2, g2, v3, g3⟩ := hb3.c8
      have hl3 := hb3.lt
      have HS3 := Hm (HS.out.step rfl hx3 hr3)
      obtain ⟨w4, hw4⟩ : ∃ w4, w4 = ((((w3.setCell ⟨w.heap.size + 1 + 1, 0, none⟩ (.slice z0 d3.fInodes.length zp0)).setCell ⟨w.heap.size + 1 + 1, 1, none⟩ (.slice z1 d3.fNames.length zp1)).setCell ⟨w.heap.size + 1 + 1, 2, none⟩ (.slice z2 d3.fSafe.length zp2)).setCell ⟨w.heap.size + 1 + 1, 3, none⟩ (.int .i64 d3.fNext)) := ⟨_, rfl⟩
      rw [<- hw4] at HS3
      clear hr3 hb3 x0 x1 x2 x3 hld
      go_wp2_with fail
      rw [<- hw4]
      clear hw4
      go_roundw
      case rel =>
       refine ⟨4, c3, _, d3, by omega, by go_num, rfl, HS3.out, hsm3, ?_⟩
       by_cases hc0 : c3 = 0
       ·exact .inl ⟨hc0, HON.out hc0, HD3.out.symm⟩
       ·exact .inr ⟨hc0, HOU.out hc0⟩
      case measure => simp [intOf]
     ·have HD : Hid (swD mr mendN zb s (4 + 1) = syncDirP d2) := by show _ = _; rw [HD2.out]; rfl
      have HC : Hid (swC mr mendN zb s 4 = syncDirC d2) := by show _ = _; rw [HD2.out]; rfl
      obtain ⟨y0, yp0, y1, yp1, y2, yp2, rfl, _⟩ := id HS.out.2.1
      obtain ⟨x0, x1, x2, x3⟩ := HS.out.1.c4
      have hld := HS.out.1.lt
      have hBw := HS.out.2.2.2
      have hsm3 := small_syncDir hsm
      go_wp2_with fail
      refine (specSyncDir_c _ d2 wr HS.out.2.1 hsm).mono ?_
      rw [<- HD.out, <- HC.out]
      rw [<- HD.out] at hsm3
      generalize hd3 : swD mr mendN zb s (4 + 1) = d3 at *
      have HD3 := Hm hd3
      clear hd3
      generalize swC mr mendN zb s 4 = c3 at *
      rintro e w3 ⟨cs3, rfl, hr3, hx3⟩
      obtain ⟨z0, zp0, z1, zp1, z2, zp2, rfl, _⟩ := id hr3
      have hb3 := HS.out.1.under hx3
      obtain ⟨v0, g0, v1, g1, v2, g2, v3, g3⟩ := hb3.c8
      have hl3 := hb3.lt
      have HS3 := Hm (HS.out.step rfl hx3 hr3)
      obtain ⟨w4, hw4⟩ : ∃ w4, w4 = ((((w3.setCell ⟨w.heap.size + 1 + 1, 0, none⟩ (.slice z0 d3.fInodes.length zp0)).setCell ⟨w.heap.size + 1 + 1, 1, none⟩ (.slice z1 d3.fNames.length zp1)).setCell ⟨w.heap.size + 1 + 1, 2, none⟩ (.slice z2 d3.fSafe.length zp2)).setCell ⟨w.heap.size + 1 + 1, 3, none⟩ (.int .i64 d3.fNext)) := ⟨_, rfl⟩
      rw [<- hw4] at HS3
      clear hr3 hb3 x0 x1 x2 x3 hld
      go_wp2_with fail
      rw [<- hw4]
      clear hw4
      go_roundw
      case rel =>
       refine ⟨5, c3, _, d3, by omega, by go_num, rfl, HS3.out, hsm3, ?_⟩
       by_cases hc0 : c3 = 0
       ·exact .inl ⟨hc0, HON.out hc0, HD3.out.symm⟩
       ·exact .inr ⟨hc0, HOU.out hc0⟩
      case measure => simp [intOf]
   ·have HRES := Hm hres
    clear hres
    have hcd : decide (c = 0) = false := decide_eq_false hc
    obtain ⟨y0, yp0, y1, yp1, y2, yp2, rfl, _⟩ := id HS.out.2.1
    have r1 := HS.out.2.2.1
    have x0 := HS.out.1.cell 0 _ rfl
    have r10 := r1.cell 0 _ rfl
    have rf0 := r1.free 0
    have x1 := HS.out.1.cell 1 _ rfl
    have r11 := r1.cell 1 _ rfl
    have rf1 := r1.free 1
    have x2 := HS.out.1.cell 2 _ rfl
    have r12 := r1.cell 2 _ rfl
    have rf2 := r1.free 2
    have x3 := HS.out.1.cell 3 _ rfl
    have r13 := r1.cell 3 _ rfl
    have rf3 := r1.free 3
    have hlr := r1.lt
    have hld := HS.out.1.lt
    have hT := turn4 wr (w.heap.size + 1) (.slice y0 d2.fInodes.length yp0) (.slice y1 d2.fNames.length yp1) (.slice y2 d2.fSafe.length yp2) (.int .i64 d2.fNext)
    have HB : Hid (Below w.heap.size w ((((wr.setCell ⟨w.heap.size + 1, 0, none⟩ (.slice y0 d2.fInodes.length yp0)).setCell ⟨w.heap.size + 1, 1, none⟩ (.slice y1 d2.fNames.length yp1)).setCell ⟨w.heap.size + 1, 2, none⟩ (.slice y2 d2.fSafe.length yp2)).setCell ⟨w.heap.size + 1, 3, none⟩ (.int .i64 d2.fNext))) := HS.out.2.2.2.trans (hT.below (fun k hk => by simp at hk; omega) HS.out.2.2.2.size)
    have HO : Hid (rDisk ((((wr.setCell ⟨w.heap.size + 1, 0, none⟩ (.slice y0 d2.fInodes.length yp0)).setCell ⟨w.heap.size + 1, 1, none⟩ (.slice y1 d2.fNames.length yp1)).setCell ⟨w.heap.size + 1, 2, none⟩ (.slice y2 d2.fSafe.length yp2)).setCell ⟨w.heap.size + 1, 3, none⟩ (.int .i64 d2.fNext)).heap.size ((((wr.setCell ⟨w.heap.size + 1, 0, none⟩ (.slice y0 d2.fInodes.length yp0)).setCell ⟨w.heap.size + 1, 1, none⟩ (.slice y1 d2.fNames.length yp1)).setCell ⟨w.heap.size + 1, 2, none⟩ (.slice y2 d2.fSafe.length yp2)).setCell ⟨w.heap.size + 1, 3, none⟩ (.int .i64 d2.fNext)) [.slice y0 d2.fInodes.length yp0, .slice y1 d2.fNames.length yp1, .slice y2 d2.fSafe.length yp2, .int .i64 d2.fNext] d2) := by
     have h := rDisk_turn r1.dzero hT HS.out.2.1
     have hz : ((((wr.setCell ⟨w.heap.size + 1, 0, none⟩ (.slice y0 d2.fInodes.length yp0)).setCell ⟨w.heap.size + 1, 1, none⟩ (.slice y1 d2.fNames.length yp1)).setCell ⟨w.heap.size + 1, 2, none⟩ (.slice y2 d2.fSafe.length yp2)).setCell ⟨w.heap.size + 1, 3, none⟩ (.int .i64 d2.fNext)).heap.size = wr.heap.size := by simp
     unfold Hid
     rw [hz]
     exact h
    clear hT r1
    go_wp2_with fail
    all_goals exact bodyPost_ret (v := .tuple #[.agg #[.slice y0 d2.fInodes.length yp0, .slice y1 d2.fNames.length yp1, .slice y2 d2.fSafe.length yp2, .int .i64 d2.fNext], .int .i64 c]) (by simp [results, Tryz.results24, go_sem, *]) rfl ⟨[.slice y0 d2.fInodes.length yp0, .slice y1 d2.fNames.length yp1, .slice y2 d2.fSafe.length yp2, .int .i64 d2.fNext], by rw [HRES.out], by rw [HRES.out]; exact HO.out, HB.out⟩
 ·have hz : nameZ m.fNames mendN = -1 := by unfold nameZ; rw [if_neg hH]
  have hmm : mr = m := by rw [HREM.out]; exact remove_none (Bool.eq_false_iff.2 hH)
  have hS : ∃ cs2, SpW w wq cs2 mr := ⟨_, by rw [hmm]; exact hS0⟩
  rw [hz]
  clear hz hmm hS0 hH
  go_wp2_with fail
  clear x0 x1 x2 x3 f0 f1 f2 f3 hlo hbo hbr
  obtain ⟨w2, hw2⟩ : ∃ w2, w2 = wq := ⟨_, rfl⟩
  rw [<- hw2] at hS ⊢
  clear hw2
  go_loopw [9, 10] (fun cv kv wr => ∃ (k : Nat) (c : Int) (cs2 : List Value) (d2 : MDisk), k <= 5 /\ kv = .int .i64 k /\ cv = .int .i64 c /\ SpW w wr cs2 d2 /\ wDisk d2 <= 1048576 /\ ((c = 0 /\ SwAt m mendN zb s k /\ d2 = swD mr mendN zb s k) ∨ (c ≠ 0 /\ switchP m mendN zb s = (d2, c)))) (fun _ kv _ => 5 - (intOf kv).toNat)
  case atStart => obtain ⟨cs2, hS⟩ := hS; exact ⟨0, 0, cs2, mr, by omega, rfl, rfl, hS, hwr, .inl ⟨rfl, SwAt.start _ _ _ _, rfl⟩⟩
  case round =>
   obtain ⟨k, c, cs2, d2, hk, rfl, rfl, hS2, hsm, hcase⟩ := hrel
   clear hS
   have HS := Hm hS2
   clear hS2
   rcases hcase with ⟨rfl, hat, hd2⟩ | ⟨hc, hres⟩
   ·have HAT := Hm hat
    have HD2 := Hm hd2
    clear hat hd2
    by_cases h5 : k = 5
    ·subst h5
     have HRES : Hid (switchP m mendN zb s = (d2, 0)) := by show _ = _; rw [SwAt.done HAT.out, <- HMR.out, <- HD2.out]
     obtain ⟨y0, yp0, y1, yp1, y2, yp2, rfl, _⟩ := id HS.out.2.1
     have r1 := HS.out.2.2.1
     have x0 := HS.out.1.cell 0 _ rfl
     have r10 := r1.cell 0 _ rfl
     have rf0 := r1.free 0
     have x1 := HS.out.1.cell 1 _ rfl
     have r11 := r1.cell 1 _ rfl
     have rf1 := r1.free 1
     have x2 := HS.out.1.cell 2 _ rfl
     have r12 := r1.cell 2 _ rfl
     have rf2 := r1.free 2
     have x3 := HS.out.1.cell 3 _ rfl
     have r13 := r1.cell 3 _ rfl
     have rf3 := r1.free 3
     have hlr := r1.lt
     have hld := HS.out.1.lt
     have hT := turn4 wr (w.heap.size + 1) (.slice y0 d2.fInodes.length yp0) (.slice y1 d2.fNames.length yp1) (.slice y2 d2.fSafe.length yp2) (.int .i64 d2.fNext)
     have HB : Hid (Below w.heap.size w ((((wr.setCell ⟨w.heap.size + 1, 0, none⟩ (.slice y0 d2.fInodes.length yp0)).setCell ⟨w.heap.size + 1, 1, none⟩ (.slice y1 d2.fNames.length yp1)).setCell ⟨w.heap.size + 1, 2, none⟩ (.slice y2 d2.fSafe.length yp2)).setCell ⟨w.heap.size + 1, 3, none⟩ (.int .i64 d2.fNext))) := HS.out.2.2.2.trans (hT.below (fun k hk => by simp at hk; omega) HS.out.2.2.2.size)
     have HO : Hid (rDisk ((((wr.setCell ⟨w.heap.size + 1, 0, none⟩ (.slice y0 d2.fInodes.length yp0)).setCell ⟨w.heap.size + 1, 1, none⟩ (.slice y1 d2.fNames.length yp1)).setCell ⟨w.heap.size + 1, 2, none⟩ (.slice y2 d2.fSafe.length yp2)).setCell ⟨w.heap.size + 1, 3, none⟩ (.int .i64 d2.fNext)).heap.size ((((wr.setCell ⟨w.heap.size + 1, 0, none⟩ (.slice y0 d2.fInodes.length yp0)).setCell ⟨w.heap.size + 1, 1, none⟩ (.slice y1 d2.fNames.length yp1)).setCell ⟨w.heap.size + 1, 2, none⟩ (.slice y2 d2.fSafe.length yp2)).setCell ⟨w.heap.size + 1, 3, none⟩ (.int .i64 d2.fNext)) [.slice y0 d2.fInodes.length yp0, .slice y1 d2.fNames.length yp1, .slice y2 d2.fSafe.length yp2, .int .i64 d2.fNext] d2) := by
      have h := rDisk_turn r1.dzero hT HS.out.2.1
      have hz : ((((wr.setCell ⟨w.heap.size + 1, 0, none⟩ (.slice y0 d2.fInodes.length yp0)).setCell ⟨w.heap.size + 1, 1, none⟩ (.slice y1 d2.fNames.length yp1)).setCell ⟨w.heap.size + 1, 2, none⟩ (.slice y2 d2.fSafe.length yp2)).setCell ⟨w.heap.size + 1, 3, none⟩ (.int .i64 d2.fNext)).heap.size = wr.heap.size := by simp
      unfold Hid
      rw [hz]
      exact h
     clear hT r1
     go_wp2_with fail
     all_goals exact bodyPost_ret (v := .tuple #[.agg #[.slice y0 d2.fInodes.length yp0, .slice y1 d2.fNames.length yp1, .slice y2 d2.fSafe.length yp2, .int .i64 d2.fNext], .int .i64 0]) (by simp [results, Tryz.results24, go_sem, *]) rfl ⟨[.slice y0 d2.fInodes.length yp0, .slice y1 d2.fNames.length yp1, .slice y2 d2.fSafe.length yp2, .int .i64 d2.fNext], by rw [HRES.out], by rw [HRES.out]; exact HO.out, HB.out⟩
    ·have h5l : k < 5 := by omega
     have HON := Hm (fun h => SwAt.on HAT.out h5l h)
     have HOU := Hm (fun h => SwAt.out HAT.out h5l h)
     rw [<- HMR.out] at HON HOU
     rcases (show k = 0 ∨ k = 1 ∨ k = 2 ∨ k = 3 ∨ k = 4 from by omega) with rfl | rfl | rfl | rfl | rfl
     ·have HD : Hid (swD mr mendN zb s (0 + 1) = createP d2 mendN) := by show _ = _; rw [HD2.out]; rfl
      have HC : Hid (swC mr mendN zb s 0 = createC d2 mendN) := by show _ = _; rw [HD2.out]; rfl
      obtain ⟨y0, yp0, y1, yp1, y2, yp2, rfl, _⟩ := id HS.out.2.1
      obtain ⟨x0, x1, x2, x3⟩ := HS.out.1.c4
      have hld := HS.out.1.lt
      have hBw := HS.out.2.2.2
      have hsm3 := small_create (s := mendN) hsm
      go_wp2_with fail
      refine (specCreate_c _ d2 mendN wr HS.out.2.1 (by decide) hsm (by decide)).mono ?_
      rw [<- HD.out, <- HC.out]
      rw [<- HD.out] at hsm3
      generalize hd3 : swD mr mendN zb s (0 + 1) = d3 at *
      have HD3 := Hm hd3
      clear hd3
      generalize swC mr mendN zb s 0 = c3 at *
      rintro e w3 ⟨cs3, rfl, hr3, hx3⟩
      obtain ⟨z0, zp0, z1, zp1, z2, zp2, rfl, _⟩ := id hr3
      have hb3 := HS.out.1.under hx3
      obtain ⟨v0, g0, v1, g1, v2, g2, v3, g3⟩ := hb3.c8
      have hl3 := hb3.lt
      have HS3 := Hm (HS.out.step rfl hx3 hr3)
      obtain ⟨w4, hw4⟩ : ∃ w4, w4 = ((((w3.setCell ⟨w.heap.size + 1 + 1, 0, none⟩ (.slice z0 d3.fInodes.length zp0)).setCell ⟨w.heap.size + 1 + 1, 1, none⟩ (.slice z1 d3.fNames.length zp1)).setCell ⟨w.heap.size + 1 + 1, 2, none⟩ (.slice z2 d3.fSafe.length zp2)).setCell ⟨w.heap.size + 1 + 1, 3, none⟩ (.int .i64 d3.fNext)) := ⟨_, rfl⟩
      rw [<- hw4] at HS3
      clear hr3 hb3 x0 x1 x2 x3 hld
      go_wp2_with fail
      rw [<- hw4]
      clear hw4
      go_roundw
      case rel =>
       refine ⟨1, c3, _, d3, by omega, by go_num, rfl, HS3.out, hsm3, ?_⟩
       by_cases hc0 : c3 = 0
       ·exact .inl ⟨hc0, HON.out hc0, HD3.out.symm⟩
       ·exact .inr ⟨hc0, HOU.out hc0⟩
      case measure => simp [intOf]
     ·have HD : Hid (swD mr mendN zb s (1 + 1) = appendP d2 mendN zb) := by show _ = _; rw [HD2.out]; rfl
      have HC : Hid (swC mr mendN zb s 1 = appendC d2 mendN zb) := by show _ = _; rw [HD2.out]; rfl
      obtain ⟨y0, yp0, y1, yp1, y2, yp2, rfl, _⟩ := id HS.out.2.1
      obtain ⟨x0, x1, x2, x3⟩ := HS.out.1.c4
      have hld := HS.out.1.lt
      have hBw := HS.out.2.2.2
      have hsm3 := small_append (s := mendN) (b := zb) hsm
      go_wp2_with fail
      refine (specAppend_b _ d2 mendN (.slice ab zb.length cb) zb wr HS.out.2.1 (by decide) ((HVB.out.below hBw).mono hBw.size) hsm (by decide) (by omega)).mono ?_
      rw [<- HD.out, <- HC.out]
      rw [<- HD.out] at hsm3
      generalize hd3 : swD mr mendN zb s (1 + 1) = d3 at *
      have HD3 := Hm hd3
      clear hd3
      generalize swC mr mendN zb s 1 = c3 at *
      rintro e w3 ⟨cs3, rfl, hr3, hx3⟩
      obtain ⟨z0, zp0, z1, zp1, z2, zp2, rfl, _⟩ := id hr3
      have hb3 := HS.out.1.under hx3
      obtain ⟨v0, g0, v1, g1, v2, g2, v3, g3⟩ := hb3.c8
      have hl3 := hb3.lt
      have HS3 := Hm (HS.out.step rfl hx3 hr3)
      obtain ⟨w4, hw4⟩ : ∃ w4, w4 = ((((w3.setCell ⟨w.heap.size + 1 + 1, 0, none⟩ (.slice z0 d3.fInodes.length zp0)).setCell ⟨w.heap.size + 1 + 1, 1, none⟩ (.slice z1 d3.fNames.length zp1)).setCell ⟨w.heap.size + 1 + 1, 2, none⟩ (.slice z2 d3.fSafe.length zp2)).setCell ⟨w.heap.size + 1 + 1, 3, none⟩ (.int .i64 d3.fNext)) := ⟨_, rfl⟩
      rw [<- hw4] at HS3
      clear hr3 hb3 x0 x1 x2 x3 hld
      go_wp2_with fail
      rw [<- hw4]
      clear hw4
      go_roundw
      case rel =>
       refine ⟨2, c3, _, d3, by omega, by go_num, rfl, HS3.out, hsm3, ?_⟩
       by_cases hc0 : c3 = 0
       ·exact .inl ⟨hc0, HON.out hc0, HD3.out.symm⟩
       ·exact .inr ⟨hc0, HOU.out hc0⟩
      case measure => simp [intOf]
     ·have HD : Hid (swD mr mendN zb s (2 + 1) = syncP d2 mendN) := by show _ = _; rw [HD2.out]; rfl
      have HC : Hid (swC mr mendN zb s 2 = callP d2 mendN) := by show _ = _; rw [HD2.out]; rfl
      obtain ⟨y0, yp0, y1, yp1, y2, yp2, rfl, _⟩ := id HS.out.2.1
      obtain ⟨x0, x1, x2, x3⟩ := HS.out.1.c4
      have hld := HS.out.1.lt
      have hBw := HS.out.2.2.2
      have hsm3 := small_sync (s := mendN) hsm
      go_wp2_with fail
      refine (specSync_c _ d2 mendN wr HS.out.2.1 (by decide) hsm (by decide)).mono ?_
      rw [<- HD.out, <- HC.out]
      rw [<- HD.out] at hsm3
      generalize hd3 : swD mr mendN zb s (2 + 1) = d3 at *
      have HD3 := Hm hd3
      clear hd3
      generalize swC mr mendN zb s 2 = c3 at *
      rintro e w3 ⟨cs3, rfl, hr3, hx3⟩
      obtain ⟨z0, zp0, z1, zp1, z2, zp2, rfl, _⟩ := id hr3
      have hb3 := HS.out.1.under hx3
      obtain ⟨v0, g0, v1, g1, v2, g2, v3, g3⟩ := hb3.c8
      have hl3 := hb3.lt
      have HS3 := Hm (HS.out.step rfl hx3 hr3)
      obtain ⟨w4, hw4⟩ : ∃ w4, w4 = ((((w3.setCell ⟨w.heap.size + 1 + 1, 0, none⟩ (.slice z0 d3.fInodes.length zp0)).setCell ⟨w.heap.size + 1 + 1, 1, none⟩ (.slice z1 d3.fNames.length zp1)).setCell ⟨w.heap.size + 1 + 1, 2, none⟩ (.slice z2 d3.fSafe.length zp2)).setCell ⟨w.heap.size + 1 + 1, 3, none⟩ (.int .i64 d3.fNext)) := ⟨_, rfl⟩
      rw [<- hw4] at HS3
      clear hr3 hb3 x0 x1 x2 x3 hld
      go_wp2_with fail
      rw [<- hw4]
      clear hw4
      go_roundw
      case rel =>
       refine ⟨3, c3, _, d3, by omega, by go_num, rfl, HS3.out, hsm3, ?_⟩
       by_cases hc0 : c3 = 0
       ·exact .inl ⟨hc0, HON.out hc0, HD3.out.symm⟩
       ·exact .inr ⟨hc0, HOU.out hc0⟩
      case measure => simp [intOf]
     ·have HD : Hid (swD mr mendN zb s (3 + 1) = renameP d2 mendN s) := by show _ = _; rw [HD2.out]; rfl
      have HC : Hid (swC mr mendN zb s 3 = renameC d2 mendN s) := by show _ = _; rw [HD2.out]; rfl
      obtain ⟨y0, yp0, y1, yp1, y2, yp2, rfl, _⟩ := id HS.out.2.1
      obtain ⟨x0, x1, x2, x3⟩ := HS.out.1.c4
      have hld := HS.out.1.lt
      have hBw := HS.out.2.2.2
      have hsm3 := small_rename (s := mendN) (t := s) hsm
      go_wp2_with fail
      refine (specRename_c _ d2 mendN s wr HS.out.2.1 (by decide) (by omega) hsm (by decide) hs).mono ?_
      rw [<- HD.out, <- HC.out]
      rw [<- HD.out] at hsm3
      generalize hd3 : swD mr mendN zb s (3 + 1) = d3 at *
      have HD3 := Hm hd3
      clear hd3
      generalize swC mr mendN zb s 3 = c3 at *
      rintro e w3 ⟨cs3, rfl, hr3, hx3⟩
      obtain ⟨z0, zp0, z1, zp1, z2, zp2, rfl, _⟩ := id hr3
      have hb3 := HS.out.1.under hx3
      obtain ⟨v0, g0, v1, g1, v2, g2, v3, g3⟩ := hb3.c8
      have hl3 := hb3.lt
      have HS3 := Hm (HS.out.step rfl hx3 hr3)
      obtain ⟨w4, hw4⟩ : ∃ w4, w4 = ((((w3.setCell ⟨w.heap.size + 1 + 1, 0, none⟩ (.slice z0 d3.fInodes.length zp0)).setCell ⟨w.heap.size + 1 + 1, 1, none⟩ (.slice z1 d3.fNames.length zp1)).setCell ⟨w.heap.size + 1 + 1, 2, none⟩ (.slice z2 d3.fSafe.length zp2)).setCell ⟨w.heap.size + 1 + 1, 3, none⟩ (.int .i64 d3.fNext)) := ⟨_, rfl⟩
      rw [<- hw4] at HS3
      clear hr3 hb3 x0 x1 x2 x3 hld
      go_wp2_with fail
      rw [<- hw4]
      clear hw4
      go_roundw
      case rel =>
       refine ⟨4, c3, _, d3, by omega, by go_num, rfl, HS3.out, hsm3, ?_⟩
       by_cases hc0 : c3 = 0
       ·exact .inl ⟨hc0, HON.out hc0, HD3.out.symm⟩
       ·exact .inr ⟨hc0, HOU.out hc0⟩
      case measure => simp [intOf]
     ·have HD : Hid (swD mr mendN zb s (4 + 1) = syncDirP d2) := by show _ = _; rw [HD2.out]; rfl
      have HC : Hid (swC mr mendN zb s 4 = syncDirC d2) := by show _ = _; rw [HD2.out]; rfl
      obtain ⟨y0, yp0, y1, yp1, y2, yp2, rfl, _⟩ := id HS.out.2.1
      obtain ⟨x0, x1, x2, x3⟩ := HS.out.1.c4
      have hld := HS.out.1.lt
      have hBw := HS.out.2.2.2
      have hsm3 := small_syncDir hsm
      go_wp2_with fail
      refine (specSyncDir_c _ d2 wr HS.out.2.1 hsm).mono ?_
      rw [<- HD.out, <- HC.out]
      rw [<- HD.out] at hsm3
      generalize hd3 : swD mr mendN zb s (4 + 1) = d3 at *
      have HD3 := Hm hd3
      clear hd3
      generalize swC mr mendN zb s 4 = c3 at *
      rintro e w3 ⟨cs3, rfl, hr3, hx3⟩
      obtain ⟨z0, zp0, z1, zp1, z2, zp2, rfl, _⟩ := id hr3
      have hb3 := HS.out.1.under hx3
      obtain ⟨v0, g0, v1, g1, v2, g2, v3, g3⟩ := hb3.c8
      have hl3 := hb3.lt
      have HS3 := Hm (HS.out.step rfl hx3 hr3)
      obtain ⟨w4, hw4⟩ : ∃ w4, w4 = ((((w3.setCell ⟨w.heap.size + 1 + 1, 0, none⟩ (.slice z0 d3.fInodes.length zp0)).setCell ⟨w.heap.size + 1 + 1, 1, none⟩ (.slice z1 d3.fNames.length zp1)).setCell ⟨w.heap.size + 1 + 1, 2, none⟩ (.slice z2 d3.fSafe.length zp2)).setCell ⟨w.heap.size + 1 + 1, 3, none⟩ (.int .i64 d3.fNext)) := ⟨_, rfl⟩
      rw [<- hw4] at HS3
      clear hr3 hb3 x0 x1 x2 x3 hld
      go_wp2_with fail
      rw [<- hw4]
      clear hw4
      go_roundw
      case rel =>
       refine ⟨5, c3, _, d3, by omega, by go_num, rfl, HS3.out, hsm3, ?_⟩
       by_cases hc0 : c3 = 0
       ·exact .inl ⟨hc0, HON.out hc0, HD3.out.symm⟩
       ·exact .inr ⟨hc0, HOU.out hc0⟩
      case measure => simp [intOf]
   ·have HRES := Hm hres
    clear hres
    have hcd : decide (c = 0) = false := decide_eq_false hc
    obtain ⟨y0, yp0, y1, yp1, y2, yp2, rfl, _⟩ := id HS.out.2.1
    have r1 := HS.out.2.2.1
    have x0 := HS.out.1.cell 0 _ rfl
    have r10 := r1.cell 0 _ rfl
    have rf0 := r1.free 0
    have x1 := HS.out.1.cell 1 _ rfl
    have r11 := r1.cell 1 _ rfl
    have rf1 := r1.free 1
    have x2 := HS.out.1.cell 2 _ rfl
    have r12 := r1.cell 2 _ rfl
    have rf2 := r1.free 2
    have x3 := HS.out.1.cell 3 _ rfl
    have r13 := r1.cell 3 _ rfl
    have rf3 := r1.free 3
    have hlr := r1.lt
    have hld := HS.out.1.lt
    have hT := turn4 wr (w.heap.size + 1) (.slice y0 d2.fInodes.length yp0) (.slice y1 d2.fNames.length yp1) (.slice y2 d2.fSafe.length yp2) (.int .i64 d2.fNext)
    have HB : Hid (Below w.heap.size w ((((wr.setCell ⟨w.heap.size + 1, 0, none⟩ (.slice y0 d2.fInodes.length yp0)).setCell ⟨w.heap.size + 1, 1, none⟩ (.slice y1 d2.fNames.length yp1)).setCell ⟨w.heap.size + 1, 2, none⟩ (.slice y2 d2.fSafe.length yp2)).setCell ⟨w.heap.size + 1, 3, none⟩ (.int .i64 d2.fNext))) := HS.out.2.2.2.trans (hT.below (fun k hk => by simp at hk; omega) HS.out.2.2.2.size)
    have HO : Hid (rDisk ((((wr.setCell ⟨w.heap.size + 1, 0, none⟩ (.slice y0 d2.fInodes.length yp0)).setCell ⟨w.heap.size + 1, 1, none⟩ (.slice y1 d2.fNames.length yp1)).setCell ⟨w.heap.size + 1, 2, none⟩ (.slice y2 d2.fSafe.length yp2)).setCell ⟨w.heap.size + 1, 3, none⟩ (.int .i64 d2.fNext)).heap.size ((((wr.setCell ⟨w.heap.size + 1, 0, none⟩ (.slice y0 d2.fInodes.length yp0)).setCell ⟨w.heap.size + 1, 1, none⟩ (.slice y1 d2.fNames.length yp1)).setCell ⟨w.heap.size + 1, 2, none⟩ (.slice y2 d2.fSafe.length yp2)).setCell ⟨w.heap.size + 1, 3, none⟩ (.int .i64 d2.fNext)) [.slice y0 d2.fInodes.length yp0, .slice y1 d2.fNames.length yp1, .slice y2 d2.fSafe.length yp2, .int .i64 d2.fNext] d2) := by
     have h := rDisk_turn r1.dzero hT HS.out.2.1
     have hz : ((((wr.setCell ⟨w.heap.size + 1, 0, none⟩ (.slice y0 d2.fInodes.length yp0)).setCell ⟨w.heap.size + 1, 1, none⟩ (.slice y1 d2.fNames.length yp1)).setCell ⟨w.heap.size + 1, 2, none⟩ (.slice y2 d2.fSafe.length yp2)).setCell ⟨w.heap.size + 1, 3, none⟩ (.int .i64 d2.fNext)).heap.size = wr.heap.size := by simp
     unfold Hid
     rw [hz]
     exact h
    clear hT r1
    go_wp2_with fail
    all_goals exact bodyPost_ret (v := .tuple #[.agg #[.slice y0 d2.fInodes.length yp0, .slice y1 d2.fNames.length yp1, .slice y2 d2.fSafe.length yp2, .int .i64 d2.fNext], .int .i64 c]) (by simp [results, Tryz.results24, go_sem, *]) rfl ⟨[.slice y0 d2.fInodes.length yp0, .slice y1 d2.fNames.length yp1, .slice y2 d2.fSafe.length yp2, .int .i64 d2.fNext], by rw [HRES.out], by rw [HRES.out]; exact HO.out, HB.out⟩
end Go.Proofs.YtegonncmopecnaaGreatDoor

namespace Go.Proofs.YtegonncmopecnaaGreatDoor
open Go.RowKit Go.Maps
set_option maxHeartbeats 1000000 in
theorem implBytes_c (cs : List Value) (m : MDisk) (s : ByteArray) (w : World) (hr : rDisk w.heap.size w cs m) (hs : s.size <= 9223372036854775807) (hw : wDisk m <= 1048576) (hw1 : s.size <= 1048576) :
  Calls Tryz.prog 8 #[.agg cs.toArray, .string s] w fun e w' => ∃ (v : Value) (F : List Nat), e = .returned (.tuple #[v, .bool (decide (callP m s = 0))]) /\ ownB 5 w' v (bytesP m s) F /\ F.Nodup /\ (∀ b, b ∈ F -> w.heap.size <= b) /\ Below w.heap.size w w' := by
 have hq := hr
 obtain ⟨a0, c0, a1, c1, a2, c2, rfl, hI, hNm, hSf, hnx, _⟩ := hq
 have hw2 : m.fInodes.length + sumW wInode m.fInodes + (m.fNames.length + sumW wEntry m.fNames) + (m.fSafe.length + sumW wEntry m.fSafe) <= 1048576 := hw
 have HW := Hm hw
 have HR := Hm hr
 have HI := Hm hI
 clear hr hI hNm hSf hw
 have hbA := (Below.refl w.heap.size w).alloc rN (.cells #[.slice a0 m.fInodes.length c0, .slice a1 m.fNames.length c1, .slice a2 m.fSafe.length c2, .int .i64 m.fNext] 27)
 go_enter Tryz.func8, Tryz.ntmps8
 go_wp2_with fail
 refine (findFile_any _ m s _ (rDisk_good.mono (rDisk_good.below HR.out hbA) hbA.size) HW.out hs).mono ?_
 rintro e w1 ⟨p, rfl, hp, hx1⟩
 have hb1 := bthen hbA hx1
 have hbx := (Bx.new w [.slice a0 m.fInodes.length c0, .slice a1 m.fNames.length c1, .slice a2 m.fSafe.length c2, .int .i64 m.fNext] 27).under hx1
 have y0 := hbx.2 0 _ rfl
 by_cases hC : callP m s = 0
 ·obtain ⟨hpl, hpi⟩ := hp hC
  have hok : diskOk m = true := by
   unfold callP at hC
   by_cases h : (diskOk m && nameOk s) = true
   ·rw [Bool.and_eq_true] at h; exact h.1
   ·rw [if_neg h] at hC; cases hC
  have HD : Hid (bytesP m s = m.fInodes[p].fData) := by
   show bytesP m s = _
   unfold bytesP
   rw [if_pos hC, dataOf_at (okI_sorted (diskOk_parts hok).1) hpl hpi]
  have HC := Hm hC
  have hwk := sumW_le (f := wInode) hpl
  obtain ⟨b1, o1, rfl, hB, cs, hcl, hcell, hrI⟩ := (HI.out.2.2.below rInode_good hb1) p hpl
  obtain ⟨ad, cd, rfl, hid, hda, hsu, _⟩ := hrI
  have k1 := hcell 1 _ rfl
  rw [hC]
  have hdl : m.fInodes[p].fData.length <= 1048576 := by have : wInode m.fInodes[p] = m.fInodes[p].fData.length := rfl; omega
  generalize m.fInodes[p].fData = dt at *
  clear hp hpi hok hwk hcell hcl hC
  go_wp2_with fail
  refine (joinBytes_any ad none cd 0 dt [] w1 (hda.mono hb1.size) ⟨by simp, by omega, fun j hj => by simp at hj, fun z hz => by cases hz⟩ (by omega) (by simp)).mono ?_
  rintro e w2 ⟨v, F, rfl, ho, hN, hge, hx2⟩
  rw [List.append_nil] at ho
  go_wp2_with fail
  refine bodyPost_ret (v := .tuple #[v, .bool true]) (by simp [results, Tryz.results8, go_sem, *]) rfl ⟨v, F, by rw [decide_eq_true HC.out], by rw [HD.out]; exact ho, hN, fun b hb => Nat.le_trans hb1.size (hge b hb), bthen hb1 hx2⟩
 ·have HD : Hid (bytesP m s = []) := by show bytesP m s = _; unfold bytesP; rw [if_neg hC]
  have HC := Hm (decide_eq_false hC)
  have hcn : (callP m s == 0) = false := beq_eq_false_iff_ne.2 hC
  have hcn2 : (callP m s != 0) = true := bne_iff_ne.2 hC
  clear hp hC
  generalize callP m s = cp at hcn hcn2 ⊢
  go_wp2_with fail
  refine bodyPost_ret (v := .tuple #[.slice none 0 0, .bool false]) (by simp [results, Tryz.results8, go_sem, *]) rfl ⟨.slice none 0 0, [], by rw [HC.out], ?_, List.nodup_nil, (fun b hb => by cases hb), hb1⟩
  rw [HD.out]
  exact ⟨⟨by simp, .inl ⟨rfl, rfl⟩⟩, (fun z hz => by cases hz), rfl⟩
end Go.Proofs.YtegonncmopecnaaGreatDoor

namespace Go.Proofs.YtegonncmopecnaaGreatDoor
open Go.RowKit
abbrev qb4d_22_3_0 : Oper := ⟨some 12, .load 27 (.tmp 2), 27, "l02_files.go:234", #[], none⟩
abbrev qb4d_22_3_1 : Oper := ⟨some 13, .fieldAddr 27 (.tmp 2) 1, 0, "l02_files.go:234", #[], none⟩
abbrev qb4d_22_3_2 : Oper := ⟨some 14, .load 25 (.tmp 13), 25, "l02_files.go:234", #[⟨1, .data⟩], none⟩
abbrev qb4d_22_3_3 : Oper := ⟨some 15, .fieldAddr 27 (.tmp 2) 1, 0, "l02_files.go:234", #[], none⟩
abbrev qb4d_22_3_4 : Oper := ⟨some 16, .load 25 (.tmp 15), 25, "l02_files.go:234", #[⟨3, .data⟩], none⟩
abbrev qb4d_22_3_5 : Oper := ⟨some 17, .move (.tmp 1), 9, "l02_files.go:234", #[], none⟩
abbrev qb4d_22_3_6 : Oper := ⟨some 18, .call { callee := .value (.func 58), args := #[.tmp 16, .tmp 17], argTypes := #[25, 9] }, 3, "l02_files.go:234", #[⟨4, .data⟩, ⟨5, .data⟩], none⟩
abbrev qb4d_22_3_7 : Oper := ⟨some 19, .indexAddr 25 (.tmp 14) (.tmp 18), 0, "l02_files.go:234", #[⟨2, .data⟩, ⟨6, .data⟩], none⟩
abbrev qb4d_22_3_8 : Oper := ⟨some 20, .fieldAddr 74 (.tmp 19) 1, 0, "l02_files.go:234", #[⟨7, .data⟩], none⟩
abbrev qb4d_22_3_9 : Oper := ⟨some 21, .load 3 (.tmp 20), 3, "l02_files.go:234", #[⟨8, .data⟩], none⟩
abbrev qb4d_22_3_10 : Oper := ⟨some 22, .call { callee := .value (.func 59), args := #[.tmp 12, .tmp 21], argTypes := #[27, 3] }, 3, "l02_files.go:234", #[⟨0, .data⟩, ⟨9, .data⟩, ⟨6, .chain⟩], none⟩
abbrev qb4d_22_3_11 : Oper := ⟨some 6, .assign (.tmp 22), 3, "l02_files.go:234", #[⟨10, .data⟩, ⟨10, .chain⟩, ⟨0, .phase⟩, ⟨1, .phase⟩, ⟨2, .phase⟩, ⟨3, .phase⟩, ⟨4, .phase⟩, ⟨5, .phase⟩, ⟨6, .phase⟩, ⟨7, .phase⟩, ⟨8, .phase⟩, ⟨9, .phase⟩, ⟨10, .phase⟩], none⟩
set_option maxHeartbeats 4000000 in
theorem specBytes_c (cs : List Value) (m : MDisk) (s : ByteArray) (w : World) (hr : rDisk w.heap.size w cs m) (hs : s.size <= 9223372036854775807) (hw : wDisk m <= 1048576) (hw1 : s.size <= 1048576) :
  Calls Tryz.prog 22 #[.agg cs.toArray, .string s] w fun e w' => ∃ v : Value, e = .returned (.tuple #[v, .bool (decide (callP m s = 0))]) /\ rdB w'.heap.size w' v (bytesP m s) /\ Below w.heap.size w w' := by
 have hq := hr
 obtain ⟨a0, c0, a1, c1, a2, c2, rfl, hI, hNm, hSf, hnx, _⟩ := hq
 have hw2 : m.fInodes.length + sumW wInode m.fInodes + (m.fNames.length + sumW wEntry m.fNames) + (m.fSafe.length + sumW wEntry m.fSafe) <= 1048576 := hw
 have HW := Hm hw
 have HR := Hm hr
 have HI := Hm hI
 have HNL := Hm hNm
 clear hr hI hNm hSf hw
 obtain ⟨i0, hi, hz0, hz1, hz2⟩ := info_parts Tryz.info5
 have hbA := (Below.refl w.heap.size w).alloc rN (.cells #[.slice a0 m.fInodes.length c0, .slice a1 m.fNames.length c1, .slice a2 m.fSafe.length c2, .int .i64 m.fNext] 27)
 go_enter Tryz.func22, Tryz.ntmps22
 go_wp2_with fail
 refine (l2Call_any _ m s _ (rDisk_good.mono (rDisk_good.below HR.out hbA) hbA.size) HW.out hs).mono ?_
 rintro e w1 ⟨rfl, hx1⟩
 have hb1 := bthen hbA hx1
 have hbx := (Bx.new w [.slice a0 m.fInodes.length c0, .slice a1 m.fNames.length c1, .slice a2 m.fSafe.length c2, .int .i64 m.fNext] 27).under hx1
 by_cases hC : callP m s = 0
 ·have hok : diskOk m = true /\ hasName m.fNames s = true := by
   unfold callP at hC
   by_cases h : (diskOk m && nameOk s) = true
   ·rw [if_pos h] at hC
    rw [Bool.and_eq_true] at h
    by_cases h2 : hasName m.fNames s = true
    ·exact ⟨h.1, h2⟩
    ·rw [if_neg h2] at hC; cases hC
   ·rw [if_neg h] at hC; cases hC
  obtain ⟨hk, hid, hhas⟩ := file_there hok.1 hok.2
  obtain ⟨hpl, hpi⟩ := hasId_at hhas
  have HD : Hid (bytesP m s = m.fInodes[placeOf m.fInodes (idOf m.fNames s)].fData) := by
   show bytesP m s = _
   unfold bytesP dataOf
   rw [if_pos hC, List.getElem?_eq_getElem hpl]
   rfl
  have hnz : nameZ m.fNames s = (nameAt m.fNames s : Int) := by unfold nameZ; rw [hok.2, if_pos rfl]
  have hpz : placeZ m.fInodes (idOf m.fNames s) = (placeOf m.fInodes (idOf m.fNames s) : Int) := by unfold placeZ; rw [hhas, if_pos rfl]
  have HC := Hm hC
  have hwk := sumW_le (f := wInode) hpl
  have hdl : m.fInodes[placeOf m.fInodes (idOf m.fNames s)].fData.length <= 1048576 := by have : wInode m.fInodes[placeOf m.fInodes (idOf m.fNames s)] = m.fInodes[placeOf m.fInodes (idOf m.fNames s)].fData.length := rfl; omega
  obtain ⟨b1, o1, rfl, hB1, cs1, hcl1, hcell1, rfl, hrest1⟩ := (HNL.out.2.2.below rEntry_good hb1) (nameAt m.fNames s) hk
  have k1 := hcell1 1 _ rfl
  rw [<- hid] at k1
  have hy1 : b1 < w1.heap.size := Nat.lt_of_lt_of_le hB1 hb1.size
  have q1 : ∀ W, Below w1.heap.size w1 W -> W.cell? ⟨b1, o1 + nameAt m.fNames s * 2 + 1, none⟩ = some (.int .i64 (idOf m.fNames s)) := fun W hb => (hb.cell (p := ⟨b1, o1 + nameAt m.fNames s * 2 + 1, none⟩) hy1).trans k1
  have hCt := fun W (hb : Below w1.heap.size w1 W) => l2At_any (some ⟨b1, o1, none⟩) _ c1 m.fNames s W w.heap.size rfl (by omega) (HNL.out.2.2.below rEntry_good (bthen hb1 hb))
  have hCi := fun W (hb : Below w1.heap.size w1 W) => l2Inode_any _ m (idOf m.fNames s) W (rDisk_good.mono (rDisk_good.below HR.out (bthen hb1 hb)) (bthen hb1 hb).size) (by omega)
  simp only [hnz] at hCt
  simp only [hpz] at hCi
  rw [hC]
  have p0 : ∀ W, Below w1.heap.size w1 W -> W.cell? ⟨w.heap.size, 0, none⟩ = some (.slice a0 m.fInodes.length c0) := fun W hb => (hbx.under hb).2 0 _ rfl
  have p1 : ∀ W, Below w1.heap.size w1 W -> W.cell? ⟨w.heap.size, 1, none⟩ = some (.slice (some ⟨b1, o1, none⟩) m.fNames.length c1) := fun W hb => (hbx.under hb).2 1 _ rfl
  have p2 : ∀ W, Below w1.heap.size w1 W -> W.cell? ⟨w.heap.size, 2, none⟩ = some (.slice a2 m.fSafe.length c2) := fun W hb => (hbx.under hb).2 2 _ rfl
  have p3 : ∀ W, Below w1.heap.size w1 W -> W.cell? ⟨w.heap.size, 3, none⟩ = some (.int .i64 m.fNext) := fun W hb => (hbx.under hb).2 3 _ rfl
  have hu1 : (0 : Int) <= (nameAt m.fNames s : Int) := by omega
  have hu2 : (nameAt m.fNames s : Int) < (m.fNames.length : Int) := by omega
  have hu3 : (0 : Int) <= (placeOf m.fInodes (idOf m.fNames s) : Int) := by omega
  have hu4 : (placeOf m.fInodes (idOf m.fNames s) : Int) < (m.fInodes.length : Int) := by omega
  obtain ⟨dt, hdt⟩ : ∃ dt, dt = m.fInodes[placeOf m.fInodes (idOf m.fNames s)].fData := ⟨_, rfl⟩
  rw [<- hdt] at hdl
  have HD2 : Hid (bytesP m s = dt) := HD.out.trans hdt.symm
  have HPL2 : Hid (∀ W, Below w.heap.size w W -> ∃ b off ad cd, a0 = some ⟨b, off, none⟩ /\ b < w.heap.size /\ W.cell? ⟨b, off + placeOf m.fInodes (idOf m.fNames s) * 3 + 1, none⟩ = some (.slice ad dt.length cd) /\ LeafB w.heap.size W ad cd dt) := by
   intro W hb
   obtain ⟨b, off, e, hB, cs2, _, hcell2, ad, cd, rfl, _, hda, _⟩ := (HI.out.2.2.below rInode_good hb) _ hpl
   rw [hdt]
   exact ⟨b, off, ad, cd, e, hB, hcell2 1 _ rfl, hda⟩
  clear hC hok hhas hpi hid hnz hpz hwk hcell1 hcl1 k1 HD hdt hpl hrest1 hk
  generalize nameAt m.fNames s = na at *
  generalize placeOf m.fInodes (idOf m.fNames s) = pa at *
  go_wp2_with fail
  refine wp_region_held_drew (S := fun W => Below w1.heap.size w1 W) (by kernel_rfl) (Below.drew rB) (fun hZ => ?_)
  refine uq 0 qb4d_22_3_0 12 hZ ?_
  refine uq 1 qb4d_22_3_1 13 hZ ?_
  refine uq 2 qb4d_22_3_2 14 hZ ?_
  refine uq 3 qb4d_22_3_3 15 hZ ?_
  refine uq 4 qb4d_22_3_4 16 hZ ?_
  refine uq 5 qb4d_22_3_5 17 hZ ?_
  refine ar1 6 qb4d_22_3_6 fun K hK => ?_
  go_simp
  refine Calls.mono (hCt _ hZ) ?_
  rintro e w1 ⟨rfl, hw1⟩
  have hx1 := below_same hw1
  clear hw1
  go_wp2_with fail
  refine hK.out _ _ (bthen hZ hx1) (fun hZ => ?_)
  clear hK K
  try simp only[Act.put,sa,s0,s1]
  refine uq 7 qb4d_22_3_7 19 hZ ?_
  refine uq 8 qb4d_22_3_8 20 hZ ?_
  refine uq 9 qb4d_22_3_9 21 hZ ?_
  refine ar1 10 qb4d_22_3_10 fun K hK => ?_
  go_simp
  refine Calls.mono (hCi _ hZ) ?_
  rintro e w2 ⟨rfl, hx2⟩
  go_wp2_with fail
  refine hK.out _ _ (bthen hZ hx2) (fun hZ => ?_)
  clear hK K
  try simp only[Act.put,sa,s0,s1]
  refine uq 11 qb4d_22_3_11 6 hZ ?_
  refine wpAnyH_done (by kernel_rfl) ?_ _
  have hbW := bthen hb1 hZ
  obtain ⟨b2, o2, ad, cd, ha0, hB2, kd, hda⟩ := HPL2.out _ hbW
  subst ha0
  have y0 := p0 _ hZ
  have hlz := (hbx.under hZ).1
  have hB2' : b2 < w2.heap.size := Nat.lt_of_lt_of_le hB2 hbW.size
  have hbq : Below w2.heap.size w2 (w2.alloc (.cells #[] 5)) := rB.alloc rN _
  have hrd := (hda.below (hbq.mono hbW.size)).2.2.1
  have hbyt := hda.2.2.2
  go_wp2_with (at_builtin; refine wpList_append_src _ rfl _ _ 22 22 rfl w2.heap.size 5 i0 (.int .u8 0) 1 1 Tryz.underlying22 hi hz0 hz1 hz2 rfl (.slice (some ⟨w2.heap.size, 0, none⟩) 0 0) 0 [] rfl (World.ownsRow_lit w2 #[] 0 rN (by decide) rfl) dt.length (dt.map (Value.int .u8)) (Src.rd Tryz.underlying22 rfl hrd) (by unfold maxLen; omega) (by omega) (by simp) ?_; intro v3 w3 hown3 hg3)
  have hb3 : Below w2.heap.size w2 w3 := hbq.trans ((Turn.below (turnOwn hg3) (fun k hk => by simp [Value.ownBlock] at hk; omega) (by simp)))
  have hown4 : w3.ownsRow 0 5 1 v3 dt.length (dt.map (Value.int .u8)) := own_base (own_congr hown3 (by simp) (by simp)) (Nat.zero_le _)
  obtain ⟨ar, cr, hvr, hlr⟩ := (show ownB 5 w3 v3 dt v3.ownBlock.toList from ⟨hown4, hbyt, rfl⟩).read
  subst hvr
  refine bodyPost_ret (v := .tuple #[.slice ar dt.length cr, .bool true]) (by simp [results, Tryz.results22, go_sem, *]) rfl ⟨_, by rw [decide_eq_true HC.out], ?_, bthen hbW hb3⟩
  rw [HD2.out]
  exact ⟨ar, cr, rfl, hlr⟩
 ·have HD : Hid (bytesP m s = []) := by show bytesP m s = _; unfold bytesP; rw [if_neg hC]
  have HC := Hm (decide_eq_false hC)
  have hcn : (callP m s == 0) = false := beq_eq_false_iff_ne.2 hC
  have hcn2 : (callP m s != 0) = true := bne_iff_ne.2 hC
  clear hC
  generalize callP m s = cp at hcn hcn2 ⊢
  go_wp2_with fail
  refine bodyPost_ret (v := .tuple #[.slice (some ⟨w1.heap.size, 0, none⟩) 0 0, .bool false]) (by simp [results, Tryz.results22, go_sem, *]) rfl ⟨_, by rw [HC.out], ?_, bthen hb1 (rB.alloc rN _)⟩
  rw [HD.out]
  exact ⟨_, _, rfl, by simp, by omega, (fun j hj => by simp at hj), (fun z hz => by cases hz)⟩
end Go.Proofs.YtegonncmopecnaaGreatDoor
