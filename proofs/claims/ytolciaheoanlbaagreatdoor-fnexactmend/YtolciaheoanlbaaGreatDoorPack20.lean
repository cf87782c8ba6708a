/-
  Part 21 of the texts that the proof leans on.
-/
import Derived.Test.YtolciaheoanlbaaGreatDoorPack15
import Derived.Test.YtolciaheoanlbaaGreatDoorPack16
import Derived.Test.YtolciaheoanlbaaGreatDoorPack17
import Derived.Test.YtolciaheoanlbaaGreatDoorPack19
import Derived.RangeFuncNested
import Derived.RangeFuncCalls
import Derived.RangeFuncLeaves
import Derived.Shelf.Abstract
import Derived.Shelf.RegionOpen
import Derived.WalkKit
import Derived.OwnWalkIn
import Derived.TacticsInMore
import Derived.LoopNIn
import Derived.LoopIn
import Derived.Maps.OwnIn
import Derived.Test.YtolciaheoanlbaaGreatDoorPack0

/-
  A log that is cut: the specification's steps, one behind the other.
-/
namespace Go.Proofs.YtolciaheoanlbaaGreatDoor
open Go.RowKit
set_option linter.unusedVariables false
set_option linter.unusedSimpArgs false
set_option maxRecDepth 10000
set_option maxHeartbeats 8000000 in
theorem l3Mend_any (cs : List Value) (m : MDisk) (s : ByteArray) (vb : Value) (zb : List Int) (w : World) (hr : rDisk w.heap.size w cs m) (hw : wDisk m ≤ 1048576) (hs : s.size ≤ 1048576) (hvb : rdB w.heap.size w vb zb) (hzb : zb.length ≤ 1048576) :
  Calls Tryz.prog 34 #[.agg cs.toArray, .string s, vb] w fun e w' => ∃ cs' : List Value, e = .returned (.tuple #[.agg cs'.toArray, .int .i64 (switchP m mendN zb s).2]) ∧ rDisk w'.heap.size w' cs' (switchP m mendN zb s).1 ∧ Below w.heap.size w w' := by
 have hq := hr
 obtain ⟨a0, c0, a1, c1, a2, c2, rfl, hI, hNm, hSf, hnx, _⟩ := hq
 have hlN : m.fNames.length ≤ 1048576 := by rw [wDisk_eq] at hw; omega
 obtain ⟨ab, cb, rfl, hlb⟩ := hvb
 have HVB : Hid (rdB w.heap.size w (.slice ab zb.length cb) zb) := ⟨ab, cb, rfl, hlb⟩
 have HW := Hid.mk hw
 have HR := Hid.mk hr
 have HNM := Hid.mk hNm
 clear hr hI hNm hSf hw hlb
 obtain ⟨wq, hwq⟩ : ∃ wq, wq = ((w.alloc (.cells #[.slice a0 m.fInodes.length c0, .slice a1 m.fNames.length c1, .slice a2 m.fSafe.length c2, .int .i64 m.fNext] 30)).alloc (.cells #[.slice none 0 0, .slice none 0 0, .slice none 0 0, .int .i64 0] 30)).alloc (.cells #[.slice a0 m.fInodes.length c0, .slice a1 m.fNames.length c1, .slice a2 m.fSafe.length c2, .int .i64 m.fNext] 30) := ⟨_, rfl⟩
 have hzq : wq.heap.size = w.heap.size + 3 := by rw [hwq]; simp
 have hbW : Below w.heap.size w wq := by rw [hwq]; exact (((Below.refl _ _).alloc (Nat.le_refl _) _).alloc (by simp) _).alloc (by simp; omega) _
 have hbo : Bw wq (w.heap.size + 1 + 1) 30 [.slice a0 m.fInodes.length c0, .slice a1 m.fNames.length c1, .slice a2 m.fSafe.length c2, .int .i64 m.fNext] := by rw [hwq]; exact Bw.new' _ _ _ (by simp)
 have hbr : Bw wq (w.heap.size + 1) 30 [.slice none 0 0, .slice none 0 0, .slice none 0 0, .int .i64 0] := by rw [hwq]; exact (Bw.new' _ _ _ (by simp)).alloc _
 have hS0 : SpW w wq [.slice a0 m.fInodes.length c0, .slice a1 m.fNames.length c1, .slice a2 m.fSafe.length c2, .int .i64 m.fNext] m := ⟨hbo, rDisk_good.mono (rDisk_good.below HR.out hbW) hbW.size, hbr, hbW⟩
 go_enter Tryz.func34, Tryz.ntmps34
 go_wp2_with fail
 rw [← hwq]
 clear hwq
 refine (l2At_any a1 m.fNames.length c1 m.fNames mendN wq wq.heap.size rfl (by omega) (LeafL.mono rEntry_good (HNM.out.below rEntry_good hbW) hbW.size).2.2).mono ?_
 rintro e w0 ⟨rfl, hw0⟩
 have hw0' := hw0.symm
 clear hw0
 subst hw0'
 obtain ⟨mr, hmr⟩ : ∃ mr, mr = removeP m mendN := ⟨_, rfl⟩
 have HMR := Hid.mk hmr
 have hwr : wDisk mr ≤ 1048576 := by rw [hmr]; exact small_remove HW.out
 have HREM := Hid.mk hmr
 clear hmr
 have x0 := hbo.cell 0 _ rfl
 have x1 := hbo.cell 1 _ rfl
 have x2 := hbo.cell 2 _ rfl
 have x3 := hbo.cell 3 _ rfl
 have f0 := hbo.free 0
 have f1 := hbo.free 1
 have f2 := hbo.free 2
 have f3 := hbo.free 3
 have hlo := hbo.lt
 by_cases hH : hasName m.fNames mendN = true
 ·have hz : 0 ≤ nameZ m.fNames mendN := by unfold nameZ; rw [if_pos hH]; omega
  have hz9 : nameZ m.fNames mendN ≤ 1048576 := by unfold nameZ; rw [if_pos hH]; have := (hasName_at hH).1; omega
  generalize nameZ m.fNames mendN = nz at *
  go_wp2_with fail
  refine (specRemove_c _ m mendN wq (rDisk_good.mono (rDisk_good.below HR.out hbW) hbW.size) (by decide) HW.out (by decide)).mono ?_
  rw [← HREM.out]
  rintro e w1 ⟨cs1, rfl, hr1, hx1⟩
  have hq1 := hr1
  obtain ⟨q0, qp0, q1, qp1, q2, qp2, rfl, _⟩ := hq1
  have hb1 := hbo.under hx1
  have HS1 := Hid.mk (hS0.step rfl hx1 hr1)
  have y0 := hb1.cell 0 _ rfl
  have g0 := hb1.free 0
  have y1 := hb1.cell 1 _ rfl
  have g1 := hb1.free 1
  have y2 := hb1.cell 2 _ rfl
  have g2 := hb1.free 2
  have y3 := hb1.cell 3 _ rfl
  have g3 := hb1.free 3
  have hl1 := hb1.lt
  clear x0 x1 x2 x3 f0 f1 f2 f3 hlo hbo hbr hS0 hb1 hr1
  obtain ⟨w2, hw2⟩ : ∃ w2, w2 = ((((w1.setCell ⟨w.heap.size + 1 + 1, 0, none⟩ (.slice q0 mr.fInodes.length qp0)).setCell ⟨w.heap.size + 1 + 1, 1, none⟩ (.slice q1 mr.fNames.length qp1)).setCell ⟨w.heap.size + 1 + 1, 2, none⟩ (.slice q2 mr.fSafe.length qp2)).setCell ⟨w.heap.size + 1 + 1, 3, none⟩ (.int .i64 mr.fNext)) := ⟨_, rfl⟩
  rw [← hw2] at HS1
  have hS : ∃ cs2, SpW w w2 cs2 mr := ⟨_, HS1.out⟩
  go_wp2_with fail
  rw [← hw2]
  clear hw2 y0 y1 y2 y3 g0 g1 g2 g3 hl1 HS1
  go_loopw [9, 10] (fun cv kv wr => ∃ (k : Nat) (c : Int) (cs2 : List Value) (d2 : MDisk), k ≤ 5 ∧ kv = .int .i64 k ∧ cv = .int .i64 c ∧ SpW w wr cs2 d2 ∧ wDisk d2 ≤ 1048576 ∧ ((c = 0 ∧ SwAt m mendN zb s k ∧ d2 = swD mr mendN zb s k) ∨ (c ≠ 0 ∧ switchP m mendN zb s = (d2, c)))) (fun _ kv _ => 5 - (intOf kv).toNat)
  case atStart => obtain ⟨cs2, hS⟩ := hS; exact ⟨0, 0, cs2, mr, by omega, rfl, rfl, hS, hwr, .inl ⟨rfl, SwAt.start _ _ _ _, rfl⟩⟩
  case round =>
   obtain ⟨k, c, cs2, d2, hk, rfl, rfl, hS2, hsm, hcase⟩ := hrel
   clear hS
   have HS := Hid.mk hS2
   clear hS2
   rcases hcase with ⟨rfl, hat, hd2⟩ | ⟨hc, hres⟩
   ·have HAT := Hid.mk hat
    have HD2 := Hid.mk hd2
    clear hat hd2
    by_cases h5 : k = 5
    ·subst h5
     have HRES : Hid (switchP m mendN zb s = (d2, 0)) := by show _ = _; rw [SwAt.done HAT.out, ← HMR.out, ← HD2.out]
     obtain ⟨y0, yp0, y1, yp1, y2, yp2, rfl, _⟩ := id HS.out.2.1
     have r1 := HS.out.2.2.1
     have x0 := HS.out.1.cell 0 _ rfl
     have r10 := r1.cell 0 _ rfl
     have rf0 := r1.free 0
     have x1 := HS.out.1.cell 1 _ rfl
     have r11 := r1.cell 1 _ rfl
     have rf1 := r1.free 1
     have x2 := HS.out.1.cell 2 _ rfl
     have r12 := r1.cell 2 _ rfl
     have rf2 := r1.free 2
     have x3 := HS.out.1.cell 3 _ rfl
     have r13 := r1.cell 3 _ rfl
     have rf3 := r1.free 3
     have hlr := r1.lt
     have hld := HS.out.1.lt
     have hT := turn4 wr (w.heap.size + 1) (.slice y0 d2.fInodes.length yp0) (.slice y1 d2.fNames.length yp1) (.slice y2 d2.fSafe.length yp2) (.int .i64 d2.fNext)
     have HB : Hid (Below w.heap.size w ((((wr.setCell ⟨w.heap.size + 1, 0, none⟩ (.slice y0 d2.fInodes.length yp0)).setCell ⟨w.heap.size + 1, 1, none⟩ (.slice y1 d2.fNames.length yp1)).setCell ⟨w.heap.size + 1, 2, none⟩ (.slice y2 d2.fSafe.length yp2)).setCell ⟨w.heap.size + 1, 3, none⟩ (.int .i64 d2.fNext))) := HS.out.2.2.2.trans (hT.below (fun k hk => by simp at hk; omega) HS.out.2.2.2.size)
     have HO : Hid (rDisk ((((wr.setCell ⟨w.heap.size + 1, 0, none⟩ (.slice y0 d2.fInodes.length yp0)).setCell ⟨w.heap.size + 1, 1, none⟩ (.slice y1 d2.fNames.length yp1)).setCell ⟨w.heap.size + 1, 2, none⟩ (.slice y2 d2.fSafe.length yp2)).setCell ⟨w.heap.size + 1, 3, none⟩ (.int .i64 d2.fNext)).heap.size ((((wr.setCell ⟨w.heap.size + 1, 0, none⟩ (.slice y0 d2.fInodes.length yp0)).setCell ⟨w.heap.size + 1, 1, none⟩ (.slice y1 d2.fNames.length yp1)).setCell ⟨w.heap.size + 1, 2, none⟩ (.slice y2 d2.fSafe.length yp2)).setCell ⟨w.heap.size + 1, 3, none⟩ (.int .i64 d2.fNext)) [.slice y0 d2.fInodes.length yp0, .slice y1 d2.fNames.length yp1, .slice y2 d2.fSafe.length yp2, .int .i64 d2.fNext] d2) := by
      have h := rDisk_turn r1.dzero hT HS.out.2.1
      have hz : ((((wr.setCell ⟨w.heap.size + 1, 0, none⟩ (.slice y0 d2.fInodes.length yp0)).setCell ⟨w.heap.size + 1, 1, none⟩ (.slice y1 d2.fNames.length yp1)).setCell ⟨w.heap.size + 1, 2, none⟩ (.slice y2 d2.fSafe.length yp2)).setCell ⟨w.heap.size + 1, 3, none⟩ (.int .i64 d2.fNext)).heap.size = wr.heap.size := by simp
      unfold Hid
      rw [hz]
      exact h
     clear hT r1
     go_wp2_with fail
     all_goals exact bodyPost_ret (v := .tuple #[.agg #[.slice y0 d2.fInodes.length yp0, .slice y1 d2.fNames.length yp1, .slice y2 d2.fSafe.length yp2, .int .i64 d2.fNext], .int .i64 0]) (by simp [results, Tryz.results34, go_sem, *]) rfl ⟨[.slice y0 d2.fInodes.length yp0, .slice y1 d2.fNames.length yp1, .slice y2 d2.fSafe.length yp2, .int .i64 d2.fNext], by rw [HRES.out], by rw [HRES.out]; exact HO.out, HB.out⟩
    ·have h5l : k < 5 := by omega
     have HON := Hid.mk (fun h => SwAt.on HAT.out h5l h)
     have HOU := Hid.mk (fun h => SwAt.out HAT.out h5l h)
     rw [← HMR.out] at HON HOU
     rcases (show k = 0 ∨ k = 1 ∨ k = 2 ∨ k = 3 ∨ k = 4 from by omega) with rfl | rfl | rfl | rfl | rfl
     ·have HD : Hid (swD mr mendN zb s (0 + 1) = createP d2 mendN) := by show _ = _; rw [HD2.out]; rfl
      have HC : Hid (swC mr mendN zb s 0 = createC d2 mendN) := by show _ = _; rw [HD2.out]; rfl
      obtain ⟨y0, yp0, y1, yp1, y2, yp2, rfl, _⟩ := id HS.out.2.1
      have x0 := HS.out.1.cell 0 _ rfl
      have x1 := HS.out.1.cell 1 _ rfl
      have x2 := HS.out.1.cell 2 _ rfl
      have x3 := HS.out.1.cell 3 _ rfl
      have hld := HS.out.1.lt
      have hBw := HS.out.2.2.2
      have hsm3 := small_create (s := mendN) hsm
      go_wp2_with fail
      refine (specCreate_c _ d2 mendN wr HS.out.2.1 (by decide) hsm (by decide)).mono ?_
      rw [← HD.out, ← HC.out]
      rw [← HD.out] at hsm3
      generalize hd3 : swD mr mendN zb s (0 + 1) = d3 at *
      have HD3 := Hid.mk hd3
      clear hd3
      generalize swC mr mendN zb s 0 = c3 at *
      rintro e w3 ⟨cs3, rfl, hr3, hx3⟩
      obtain ⟨z0, zp0, z1, zp1, z2, zp2, rfl, _⟩ := id hr3
      have hb3 := HS.out.1.under hx3
      have v0 := hb3.cell 0 _ rfl
      have g0 := hb3.free 0
      have v1 := hb3.cell 1 _ rfl
      have g1 := hb3.free 1
      have v2 := hb3.cell 2 _ rfl
      have g2 := hb3.free 2
      have v3 := hb3.cell 3 _ rfl
      have g3 := hb3.free 3
      have hl3 := hb3.lt
      have HS3 := Hid.mk (HS.out.step rfl hx3 hr3)
      obtain ⟨w4, hw4⟩ : ∃ w4, w4 = ((((w3.setCell ⟨w.heap.size + 1 + 1, 0, none⟩ (.slice z0 d3.fInodes.length zp0)).setCell ⟨w.heap.size + 1 + 1, 1, none⟩ (.slice z1 d3.fNames.length zp1)).setCell ⟨w.heap.size + 1 + 1, 2, none⟩ (.slice z2 d3.fSafe.length zp2)).setCell ⟨w.heap.size + 1 + 1, 3, none⟩ (.int .i64 d3.fNext)) := ⟨_, rfl⟩
      rw [← hw4] at HS3
      clear hr3 hb3 x0 x1 x2 x3 hld
      go_wp2_with fail
      rw [← hw4]
      clear hw4
      go_roundw
      case rel =>
       refine ⟨1, c3, _, d3, by omega, by go_num, rfl, HS3.out, hsm3, ?_⟩
       by_cases hc0 : c3 = 0
       ·exact .inl ⟨hc0, HON.out hc0, HD3.out.symm⟩
       ·exact .inr ⟨hc0, HOU.out hc0⟩
      case measure => simp [intOf]
     ·have HD : Hid (swD mr mendN zb s (1 + 1) = appendP d2 mendN zb) := by show _ = _; rw [HD2.out]; rfl
      have HC : Hid (swC mr mendN zb s 1 = appendC d2 mendN zb) := by show _ = _; rw [HD2.out]; rfl
      obtain ⟨y0, yp0, y1, yp1, y2, yp2, rfl, _⟩ := id HS.out.2.1
      have x0 := HS.out.1.cell 0 _ rfl
      have x1 := HS.out.1.cell 1 _ rfl
      have x2 := HS.out.1.cell 2 _ rfl
      have x3 := HS.out.1.cell 3 _ rfl
      have hld := HS.out.1.lt
      have hBw := HS.out.2.2.2
      have hsm3 := small_append (s := mendN) (b := zb) hsm
      go_wp2_with fail
      refine (specAppend_b _ d2 mendN (.slice ab zb.length cb) zb wr HS.out.2.1 (by decide) ((HVB.out.below hBw).mono hBw.size) hsm (by decide) (by omega)).mono ?_
      rw [← HD.out, ← HC.out]
      rw [← HD.out] at hsm3
      generalize hd3 : swD mr mendN zb s (1 + 1) = d3 at *
      have HD3 := Hid.mk hd3
      clear hd3
      generalize swC mr mendN zb s 1 = c3 at *
      rintro e w3 ⟨cs3, rfl, hr3, hx3⟩
      obtain ⟨z0, zp0, z1, zp1, z2, zp2, rfl, _⟩ := id hr3
      have hb3 := HS.out.1.under hx3
      have v0 := hb3.cell 0 _ rfl
      have g0 := hb3.free 0
      have v1 := hb3.cell 1 _ rfl
      have g1 := hb3.free 1
      have v2 := hb3.cell 2 _ rfl
      have g2 := hb3.free 2
      have v3 := hb3.cell 3 _ rfl
      have g3 := hb3.free 3
      have hl3 := hb3.lt
      have HS3 := Hid.mk (HS.out.step rfl hx3 hr3)
      obtain ⟨w4, hw4⟩ : ∃ w4, w4 = ((((w3.setCell ⟨w.heap.size + 1 + 1, 0, none⟩ (.slice z0 d3.fInodes.length zp0)).setCell ⟨w.heap.size + 1 + 1, 1, none⟩ (.slice z1 d3.fNames.length zp1)).setCell ⟨w.heap.size + 1 + 1, 2, none⟩ (.slice z2 d3.fSafe.length zp2)).setCell ⟨w.heap.size + 1 + 1, 3, none⟩ (.int .i64 d3.fNext)) := ⟨_, rfl⟩
      rw [← hw4] at HS3
      clear hr3 hb3 x0 x1 x2 x3 hld
      go_wp2_with fail
      rw [← hw4]
      clear hw4
      go_roundw
      case rel =>
       refine ⟨2, c3, _, d3, by omega, by go_num, rfl, HS3.out, hsm3, ?_⟩
       by_cases hc0 : c3 = 0
       ·exact .inl ⟨hc0, HON.out hc0, HD3.out.symm⟩
       ·exact .inr ⟨hc0, HOU.out hc0⟩
      case measure => simp [intOf]
     ·have HD : Hid (swD mr mendN zb s (2 + 1) = syncP d2 mendN) := by show _ = _; rw [HD2.out]; rfl
      have HC : Hid (swC mr mendN zb s 2 = callP d2 mendN) := by show _ = _; rw [HD2.out]; rfl
      obtain ⟨y0, yp0, y1, yp1, y2, yp2, rfl, _⟩ := id HS.out.2.1
      have x0 := HS.out.1.cell 0 _ rfl
      have x1 := HS.out.1.cell 1 _ rfl
      have x2 := HS.out.1.cell 2 _ rfl
      have x3 := HS.out.1.cell 3 _ rfl
      have hld := HS.out.1.lt
      have hBw := HS.out.2.2.2
      have hsm3 := small_sync (s := mendN) hsm
      go_wp2_with fail
      refine (specSync_c _ d2 mendN wr HS.out.2.1 (by decide) hsm (by decide)).mono ?_
      rw [← HD.out, ← HC.out]
      rw [← HD.out] at hsm3
      generalize hd3 : swD mr mendN zb s (2 + 1) = d3 at *
      have HD3 := Hid.mk hd3
      clear hd3
      generalize swC mr mendN zb s 2 = c3 at *
      rintro e w3 ⟨cs3, rfl, hr3, hx3⟩
      obtain ⟨z0, zp0, z1, zp1, z2, zp2, rfl, _⟩ := id hr3
      have hb3 := HS.out.1.under hx3
      have v0 := hb3.cell 0 _ rfl
      have g0 := hb3.free 0
      have v1 := hb3.cell 1 _ rfl
      have g1 := hb3.free 1
      have v2 := hb3.cell 2 _ rfl
      have g2 := hb3.free 2
      have v3 := hb3.cell 3 _ rfl
      have g3 := hb3.free 3
      have hl3 := hb3.lt
      have HS3 := Hid.mk (HS.out.step rfl hx3 hr3)
      obtain ⟨w4, hw4⟩ : ∃ w4, w4 = ((((w3.setCell ⟨w.heap.size + 1 + 1, 0, none⟩ (.slice z0 d3.fInodes.length zp0)).setCell ⟨w.heap.size + 1 + 1, 1, none⟩ (.slice z1 d3.fNames.length zp1)).setCell ⟨w.heap.size + 1 + 1, 2, none⟩ (.slice z2 d3.fSafe.length zp2)).setCell ⟨w.heap.size + 1 + 1, 3, none⟩ (.int .i64 d3.fNext)) := ⟨_, rfl⟩
      rw [← hw4] at HS3
      clear hr3 hb3 x0 x1 x2 x3 hld
      go_wp2_with fail
      rw [← hw4]
      clear hw4
      go_roundw
      case rel =>
       refine ⟨3, c3, _, d3, by omega, by go_num, rfl, HS3.out, hsm3, ?_⟩
       by_cases hc0 : c3 = 0
       ·exact .inl ⟨hc0, HON.out hc0, HD3.out.symm⟩
       ·exact .inr ⟨hc0, HOU.out hc0⟩
      case measure => simp [intOf]
     ·have HD : Hid (swD mr mendN zb s (3 + 1) = renameP d2 mendN s) := by show _ = _; rw [HD2.out]; rfl
      have HC : Hid (swC mr mendN zb s 3 = renameC d2 mendN s) := by show _ = _; rw [HD2.out]; rfl
      obtain ⟨y0, yp0, y1, yp1, y2, yp2, rfl, _⟩ := id HS.out.2.1
      have x0 := HS.out.1.cell 0 _ rfl
      have x1 := HS.out.1.cell 1 _ rfl
      have x2 := HS.out.1.cell 2 _ rfl
      have x3 := HS.out.1.cell 3 _ rfl
      have hld := HS.out.1.lt
      have hBw := HS.out.2.2.2
      have hsm3 := small_rename (s := mendN) (t := s) hsm
      go_wp2_with fail
      refine (specRename_c _ d2 mendN s wr HS.out.2.1 (by decide) (by omega) hsm (by decide) hs).mono ?_
      rw [← HD.out, ← HC.out]
      rw [← HD.out] at hsm3
      generalize hd3 : swD mr mendN zb s (3 + 1) = d3 at *
      have HD3 := Hid.mk hd3
      clear hd3
      generalize swC mr mendN zb s 3 = c3 at *
      rintro e w3 ⟨cs3, rfl, hr3, hx3⟩
      obtain ⟨z0, zp0, z1, zp1, z2, zp2, rfl, _⟩ := id hr3
      have hb3 := HS.out.1.under hx3
      have v0 := hb3.cell 0 _ rfl
      have g0 := hb3.free 0
      have v1 := hb3.cell 1 _ rfl
      have g1 := hb3.free 1
      have v2 := hb3.cell 2 _ rfl
      have g2 := hb3.free 2
      have v3 := hb3.cell 3 _ rfl
      have g3 := hb3.free 3
      have hl3 := hb3.lt
      have HS3 := Hid.mk (HS.out.step rfl hx3 hr3)
      obtain ⟨w4, hw4⟩ : ∃ w4, w4 = ((((w3.setCell ⟨w.heap.size + 1 + 1, 0, none⟩ (.slice z0 d3.fInodes.length zp0)).setCell ⟨w.heap.size + 1 + 1, 1, none⟩ (.slice z1 d3.fNames.length zp1)).setCell ⟨w.heap.size + 1 + 1, 2, none⟩ (.slice z2 d3.fSafe.length zp2)).setCell ⟨w.heap.size + 1 + 1, 3, none⟩ (.int .i64 d3.fNext)) := ⟨_, rfl⟩
      rw [← hw4] at HS3
      clear hr3 hb3 x0 x1 x2 x3 hld
      go_wp2_with fail
      rw [← hw4]
      clear hw4
      go_roundw
      case rel =>
       refine ⟨4, c3, _, d3, by omega, by go_num, rfl, HS3.out, hsm3, ?_⟩
       by_cases hc0 : c3 = 0
       ·exact .inl ⟨hc0, HON.out hc0, HD3.out.symm⟩
       ·exact .inr ⟨hc0, HOU.out hc0⟩
      case measure => simp [intOf]
     ·have HD : Hid (swD mr mendN zb s (4 + 1) = syncDirP d2) := by show _ = _; rw [HD2.out]; rfl
      have HC : Hid (swC mr mendN zb s 4 = syncDirC d2) := by show _ = _; rw [HD2.out]; rfl
      obtain ⟨y0, yp0, y1, yp1, y2, yp2, rfl, _⟩ := id HS.out.2.1
      have x0 := HS.out.1.cell 0 _ rfl
      have x1 := HS.out.1.cell 1 _ rfl
      have x2 := HS.out.1.cell 2 _ rfl
      have x3 := HS.out.1.cell 3 _ rfl
      have hld := HS.out.1.lt
      have hBw := HS.out.2.2.2
      have hsm3 := small_syncDir hsm
      go_wp2_with fail
      refine (specSyncDir_c _ d2 wr HS.out.2.1 hsm).mono ?_
      rw [← HD.out, ← HC.out]
      rw [← HD.out] at hsm3
      generalize hd3 : swD mr mendN zb s (4 + 1) = d3 at *
      have HD3 := Hid.mk hd3
      clear hd3
      generalize swC mr mendN zb s 4 = c3 at *
      rintro e w3 ⟨cs3, rfl, hr3, hx3⟩
      obtain ⟨z0, zp0, z1, zp1, z2, zp2, rfl, _⟩ := id hr3
      have hb3 := HS.out.1.under hx3
      have v0 := hb3.cell 0 _ rfl
      have g0 := hb3.free 0
      have v1 := hb3.cell 1 _ rfl
      have g1 := hb3.free 1
      have v2 := hb3.cell 2 _ rfl
      have g2 := hb3.free 2
      have v3 := hb3.cell 3 _ rfl
      have g3 := hb3.free 3
      have hl3 := hb3.lt
      have HS3 := Hid.mk (HS.out.step rfl hx3 hr3)
      obtain ⟨w4, hw4⟩ : ∃ w4, w4 = ((((w3.setCell ⟨w.heap.size + 1 + 1, 0, none⟩ (.slice z0 d3.fInodes.length zp0)).setCell ⟨w.heap.size + 1 + 1, 1, none⟩ (.slice z1 d3.fNames.length zp1)).setCell ⟨w.heap.size + 1 + 1, 2, none⟩ (.slice z2 d3.fSafe.length zp2)).setCell ⟨w.heap.size + 1 + 1, 3, none⟩ (.int .i64 d3.fNext)) := ⟨_, rfl⟩
      rw [← hw4] at HS3
      clear hr3 hb3 x0 x1 x2 x3 hld
      go_wp2_with fail
      rw [← hw4]
      clear hw4
      go_roundw
      case rel =>
       refine ⟨5, c3, _, d3, by omega, by go_num, rfl, HS3.out, hsm3, ?_⟩
       by_cases hc0 : c3 = 0
       ·exact .inl ⟨hc0, HON.out hc0, HD3.out.symm⟩
       ·exact .inr ⟨hc0, HOU.out hc0⟩
      case measure => simp [intOf]
   ·have HRES := Hid.mk hres
    clear hres
    have hcd : decide (c = 0) = false := decide_eq_false hc
    obtain ⟨y0, yp0, y1, yp1, y2, yp2, rfl, _⟩ := id HS.out.2.1
    have r1 := HS.out.2.2.1
    have x0 := HS.out.1.cell 0 _ rfl
    have r10 := r1.cell 0 _ rfl
    have rf0 := r1.free 0
    have x1 := HS.out.1.cell 1 _ rfl
    have r11 := r1.cell 1 _ rfl
    have rf1 := r1.free 1
    have x2 := HS.out.1.cell 2 _ rfl
    have r12 := r1.cell 2 _ rfl
    have rf2 := r1.free 2
    have x3 := HS.out.1.cell 3 _ rfl
    have r13 := r1.cell 3 _ rfl
    have rf3 := r1.free 3
    have hlr := r1.lt
    have hld := HS.out.1.lt
    have hT := turn4 wr (w.heap.size + 1) (.slice y0 d2.fInodes.length yp0) (.slice y1 d2.fNames.length yp1) (.slice y2 d2.fSafe.length yp2) (.int .i64 d2.fNext)
    have HB : Hid (Below w.heap.size w ((((wr.setCell ⟨w.heap.size + 1, 0, none⟩ (.slice y0 d2.fInodes.length yp0)).setCell ⟨w.heap.size + 1, 1, none⟩ (.slice y1 d2.fNames.length yp1)).setCell ⟨w.heap.size + 1, 2, none⟩ (.slice y2 d2.fSafe.length yp2)).setCell ⟨w.heap.size + 1, 3, none⟩ (.int .i64 d2.fNext))) := HS.out.2.2.2.trans (hT.below (fun k hk => by simp at hk; omega) HS.out.2.2.2.size)
    have HO : Hid (rDisk ((((wr.setCell ⟨w.heap.size + 1, 0, none⟩ (.slice y0 d2.fInodes.length yp0)).setCell ⟨w.heap.size + 1, 1, none⟩ (.slice y1 d2.fNames.length yp1)).setCell ⟨w.heap.size + 1, 2, none⟩ (.slice y2 d2.fSafe.length yp2)).setCell ⟨w.heap.size + 1, 3, none⟩ (.int .i64 d2.fNext)).heap.size ((((wr.setCell ⟨w.heap.size + 1, 0, none⟩ (.slice y0 d2.fInodes.length yp0)).setCell ⟨w.heap.size + 1, 1, none⟩ (.slice y1 d2.fNames.length yp1)).setCell ⟨w.heap.size + 1, 2, none⟩ (.slice y2 d2.fSafe.length yp2)).setCell ⟨w.heap.size + 1, 3, none⟩ (.int .i64 d2.fNext)) [.slice y0 d2.fInodes.length yp0, .slice y1 d2.fNames.length yp1, .slice y2 d2.fSafe.length yp2, .int .i64 d2.fNext] d2) := by
     have h := rDisk_turn r1.dzero hT HS.out.2.1
     have hz : ((((wr.setCell ⟨w.heap.size + 1, 0, none⟩ (.slice y0 d2.fInodes.length yp0)).setCell ⟨w.heap.size + 1, 1, none⟩ (.slice y1 d2.fNames.length yp1)).setCell ⟨w.heap.size + 1, 2, none⟩ (.slice y2 d2.fSafe.length yp2)).setCell ⟨w.heap.size + 1, 3, none⟩ (.int .i64 d2.fNext)).heap.size = wr.heap.size := by simp
     unfold Hid
     rw [hz]
     exact h
    clear hT r1
    go_wp2_with fail
    all_goals exact bodyPost_ret (v := .tuple #[.agg #[.slice y0 d2.fInodes.length yp0, .slice y1 d2.fNames.length yp1, .slice y2 d2.fSafe.length yp2, .int .i64 d2.fNext], .int .i64 c]) (by simp [results, Tryz.results34, go_sem, *]) rfl ⟨[.slice y0 d2.fInodes.length yp0, .slice y1 d2.fNames.length yp1, .slice y2 d2.fSafe.length yp2, .int .i64 d2.fNext], by rw [HRES.out], by rw [HRES.out]; exact HO.out, HB.out⟩
 ·have hz : nameZ m.fNames mendN = -1 := by unfold nameZ; rw [if_neg hH]
  have hmm : mr = m := by rw [HREM.out]; exact remove_none (Bool.eq_false_iff.2 hH)
  have hS : ∃ cs2, SpW w wq cs2 mr := ⟨_, by rw [hmm]; exact hS0⟩
  rw [hz]
  clear hz hmm hS0 hH
  go_wp2_with fail
  clear x0 x1 x2 x3 f0 f1 f2 f3 hlo hbo hbr
  obtain ⟨w2, hw2⟩ : ∃ w2, w2 = wq := ⟨_, rfl⟩
  rw [← hw2] at hS ⊢
  clear hw2
  go_loopw [9, 10] (fun cv kv wr => ∃ (k : Nat) (c : Int) (cs2 : List Value) (d2 : MDisk), k ≤ 5 ∧ kv = .int .i64 k ∧ cv = .int .i64 c ∧ SpW w wr cs2 d2 ∧ wDisk d2 ≤ 1048576 ∧ ((c = 0 ∧ SwAt m mendN zb s k ∧ d2 = swD mr mendN zb s k) ∨ (c ≠ 0 ∧ switchP m mendN zb s = (d2, c)))) (fun _ kv _ => 5 - (intOf kv).toNat)
  case atStart => obtain ⟨cs2, hS⟩ := hS; exact ⟨0, 0, cs2, mr, by omega, rfl, rfl, hS, hwr, .inl ⟨rfl, SwAt.start _ _ _ _, rfl⟩⟩
  case round =>
   obtain ⟨k, c, cs2, d2, hk, rfl, rfl, hS2, hsm, hcase⟩ := hrel
   clear hS
   have HS := Hid.mk hS2
   clear hS2
   rcases hcase with ⟨rfl, hat, hd2⟩ | ⟨hc, hres⟩
   ·have HAT := Hid.mk hat
    have HD2 := Hid.mk hd2
    clear hat hd2
    by_cases h5 : k = 5
    ·subst h5
     have HRES : Hid (switchP m mendN zb s = (d2, 0)) := by show _ = _; rw [SwAt.done HAT.out, ← HMR.out, ← HD2.out]
     obtain ⟨y0, yp0, y1, yp1, y2, yp2, rfl, _⟩ := id HS.out.2.1
     have r1 := HS.out.2.2.1
     have x0 := HS.out.1.cell 0 _ rfl
     have r10 := r1.cell 0 _ rfl
     have rf0 := r1.free 0
     have x1 := HS.out.1.cell 1 _ rfl
     have r11 := r1.cell 1 _ rfl
     have rf1 := r1.free 1
     have x2 := HS.out.1.cell 2 _ rfl
     have r12 := r1.cell 2 _ rfl
     have rf2 := r1.free 2
     have x3 := HS.out.1.cell 3 _ rfl
     have r13 := r1.cell 3 _ rfl
     have rf3 := r1.free 3
     have hlr := r1.lt
     have hld := HS.out.1.lt
     have hT := turn4 wr (w.heap.size + 1) (.slice y0 d2.fInodes.length yp0) (.slice y1 d2.fNames.length yp1) (.slice y2 d2.fSafe.length yp2) (.int .i64 d2.fNext)
     have HB : Hid (Below w.heap.size w ((((wr.setCell ⟨w.heap.size + 1, 0, none⟩ (.slice y0 d2.fInodes.length yp0)).setCell ⟨w.heap.size + 1, 1, none⟩ (.slice y1 d2.fNames.length yp1)).setCell ⟨w.heap.size + 1, 2, none⟩ (.slice y2 d2.fSafe.length yp2)).setCell ⟨w.heap.size + 1, 3, none⟩ (.int .i64 d2.fNext))) := HS.out.2.2.2.trans (hT.below (fun k hk => by simp at hk; omega) HS.out.2.2.2.size)
     have HO : Hid (rDisk ((((wr.setCell ⟨w.heap.size + 1, 0, none⟩ (.slice y0 d2.fInodes.length yp0)).setCell ⟨w.heap.size + 1, 1, none⟩ (.slice y1 d2.fNames.length yp1)).setCell ⟨w.heap.size + 1, 2, none⟩ (.slice y2 d2.fSafe.length yp2)).setCell ⟨w.heap.size + 1, 3, none⟩ (.int .i64 d2.fNext)).heap.size ((((wr.setCell ⟨w.heap.size + 1, 0, none⟩ (.slice y0 d2.fInodes.length yp0)).setCell ⟨w.heap.size + 1, 1, none⟩ (.slice y1 d2.fNames.length yp1)).setCell ⟨w.heap.size + 1, 2, none⟩ (.slice y2 d2.fSafe.length yp2)).setCell ⟨w.heap.size + 1, 3, none⟩ (.int .i64 d2.fNext)) [.slice y0 d2.fInodes.length yp0, .slice y1 d2.fNames.length yp1, .slice y2 d2.fSafe.length yp2, .int .i64 d2.fNext] d2) := by
      have h := rDisk_turn r1.dzero hT HS.out.2.1
      have hz : ((((wr.setCell ⟨w.heap.size + 1, 0, none⟩ (.slice y0 d2.fInodes.length yp0)).setCell ⟨w.heap.size + 1, 1, none⟩ (.slice y1 d2.fNames.length yp1)).setCell ⟨w.heap.size + 1, 2, none⟩ (.slice y2 d2.fSafe.length yp2)).setCell ⟨w.heap.size + 1, 3, none⟩ (.int .i64 d2.fNext)).heap.size = wr.heap.size := by simp
      unfold Hid
      rw [hz]
      exact h
     clear hT r1
     go_wp2_with fail
     all_goals exact bodyPost_ret (v := .tuple #[.agg #[.slice y0 d2.fInodes.length yp0, .slice y1 d2.fNames.length yp1, .slice y2 d2.fSafe.length yp2, .int .i64 d2.fNext], .int .i64 0]) (by simp [results, Tryz.results34, go_sem, *]) rfl ⟨[.slice y0 d2.fInodes.length yp0, .slice y1 d2.fNames.length yp1, .slice y2 d2.fSafe.length yp2, .int .i64 d2.fNext], by rw [HRES.out], by rw [HRES.out]; exact HO.out, HB.out⟩
    ·have h5l : k < 5 := by omega
     have HON := Hid.mk (fun h => SwAt.on HAT.out h5l h)
     have HOU := Hid.mk (fun h => SwAt.out HAT.out h5l h)
     rw [← HMR.out] at HON HOU
     rcases (show k = 0 ∨ k = 1 ∨ k = 2 ∨ k = 3 ∨ k = 4 from by omega) with rfl | rfl | rfl | rfl | rfl
     ·have HD : Hid (swD mr mendN zb s (0 + 1) = createP d2 mendN) := by show _ = _; rw [HD2.out]; rfl
      have HC : Hid (swC mr mendN zb s 0 = createC d2 mendN) := by show _ = _; rw [HD2.out]; rfl
      obtain ⟨y0, yp0, y1, yp1, y2, yp2, rfl, _⟩ := id HS.out.2.1
      have x0 := HS.out.1.cell 0 _ rfl
      have x1 := HS.out.1.cell 1 _ rfl
      have x2 := HS.out.1.cell 2 _ rfl
      have x3 := HS.out.1.cell 3 _ rfl
      have hld := HS.out.1.lt
      have hBw := HS.out.2.2.2
      have hsm3 := small_create (s := mendN) hsm
      go_wp2_with fail
      refine (specCreate_c _ d2 mendN wr HS.out.2.1 (by decide) hsm (by decide)).mono ?_
      rw [← HD.out, ← HC.out]
      rw [← HD.out] at hsm3
      generalize hd3 : swD mr mendN zb s (0 + 1) = d3 at *
      have HD3 := Hid.mk hd3
      clear hd3
      generalize swC mr mendN zb s 0 = c3 at *
      rintro e w3 ⟨cs3, rfl, hr3, hx3⟩
      obtain ⟨z0, zp0, z1, zp1, z2, zp2, rfl, _⟩ := id hr3
      have hb3 := HS.out.1.under hx3
      have v0 := hb3.cell 0 _ rfl
      have g0 := hb3.free 0
      have v1 := hb3.cell 1 _ rfl
      have g1 := hb3.free 1
      have v2 := hb3.cell 2 _ rfl
      have g2 := hb3.free 2
      have v3 := hb3.cell 3 _ rfl
      have g3 := hb3.free 3
      have hl3 := hb3.lt
      have HS3 := Hid.mk (HS.out.step rfl hx3 hr3)
      obtain ⟨w4, hw4⟩ : ∃ w4, w4 = ((((w3.setCell ⟨w.heap.size + 1 + 1, 0, none⟩ (.slice z0 d3.fInodes.length zp0)).setCell ⟨w.heap.size + 1 + 1, 1, none⟩ (.slice z1 d3.fNames.length zp1)).setCell ⟨w.heap.size + 1 + 1, 2, none⟩ (.slice z2 d3.fSafe.length zp2)).setCell ⟨w.heap.size + 1 + 1, 3, none⟩ (.int .i64 d3.fNext)) := ⟨_, rfl⟩
      rw [← hw4] at HS3
      clear hr3 hb3 x0 x1 x2 x3 hld
      go_wp2_with fail
      rw [← hw4]
      clear hw4
      go_roundw
      case rel =>
       refine ⟨1, c3, _, d3, by omega, by go_num, rfl, HS3.out, hsm3, ?_⟩
       by_cases hc0 : c3 = 0
       ·exact .inl ⟨hc0, HON.out hc0, HD3.out.symm⟩
       ·exact .inr ⟨hc0, HOU.out hc0⟩
      case measure => simp [intOf]
     ·have HD : Hid (swD mr mendN zb s (1 + 1) = appendP d2 mendN zb) := by show _ = _; rw [HD2.out]; rfl
      have HC : Hid (swC mr mendN zb s 1 = appendC d2 mendN zb) := by show _ = _; rw [HD2.out]; rfl
      obtain ⟨y0, yp0, y1, yp1, y2, yp2, rfl, _⟩ := id HS.out.2.1
      have x0 := HS.out.1.cell 0 _ rfl
      have x1 := HS.out.1.cell 1 _ rfl
      have x2 := HS.out.1.cell 2 _ rfl
      have x3 := HS.out.1.cell 3 _ rfl
      have hld := HS.out.1.lt
      have hBw := HS.out.2.2.2
      have hsm3 := small_append (s := mendN) (b := zb) hsm
      go_wp2_with fail
      refine (specAppend_b _ d2 mendN (.slice ab zb.length cb) zb wr HS.out.2.1 (by decide) ((HVB.out.below hBw).mono hBw.size) hsm (by decide) (by omega)).mono ?_
      rw [← HD.out, ← HC.out]
      rw [← HD.out] at hsm3
      generalize hd3 : swD mr mendN zb s (1 + 1) = d3 at *
      have HD3 := Hid.mk hd3
      clear hd3
      generalize swC mr mendN zb s 1 = c3 at *
      rintro e w3 ⟨cs3, rfl, hr3, hx3⟩
      obtain ⟨z0, zp0, z1, zp1, z2, zp2, rfl, _⟩ := id hr3
      have hb3 := HS.out.1.under hx3
      have v0 := hb3.cell 0 _ rfl
      have g0 := hb3.free 0
      have v1 := hb3.cell 1 _ rfl
      have g1 := hb3.free 1
      have v2 := hb3.cell 2 _ rfl
      have g2 := hb3.free 2
      have v3 := hb3.cell 3 _ rfl
      have g3 := hb3.free 3
      have hl3 := hb3.lt
      have HS3 := Hid.mk (HS.out.step rfl hx3 hr3)
      obtain ⟨w4, hw4⟩ : ∃ w4, w4 = ((((w3.setCell ⟨w.heap.size + 1 + 1, 0, none⟩ (.slice z0 d3.fInodes.length zp0)).setCell ⟨w.heap.size + 1 + 1, 1, none⟩ (.slice z1 d3.fNames.length zp1)).setCell ⟨w.heap.size + 1 + 1, 2, none⟩ (.slice z2 d3.fSafe.length zp2)).setCell ⟨w.heap.size + 1 + 1, 3, none⟩ (.int .i64 d3.fNext)) := ⟨_, rfl⟩
      rw [← hw4] at HS3
      clear hr3 hb3 x0 x1 x2 x3 hld
      go_wp2_with fail
      rw [← hw4]
      clear hw4
      go_roundw
      case rel =>
       refine ⟨2, c3, _, d3, by omega, by go_num, rfl, HS3.out, hsm3, ?_⟩
       by_cases hc0 : c3 = 0
       ·exact .inl ⟨hc0, HON.out hc0, HD3.out.symm⟩
       ·exact .inr ⟨hc0, HOU.out hc0⟩
      case measure => simp [intOf]
     ·have HD : Hid (swD mr mendN zb s (2 + 1) = syncP d2 mendN) := by show _ = _; rw [HD2.out]; rfl
      have HC : Hid (swC mr mendN zb s 2 = callP d2 mendN) := by show _ = _; rw [HD2.out]; rfl
      obtain ⟨y0, yp0, y1, yp1, y2, yp2, rfl, _⟩ := id HS.out.2.1
      have x0 := HS.out.1.cell 0 _ rfl
      have x1 := HS.out.1.cell 1 _ rfl
      have x2 := HS.out.1.cell 2 _ rfl
      have x3 := HS.out.1.cell 3 _ rfl
      have hld := HS.out.1.lt
      have hBw := HS.out.2.2.2
      have hsm3 := small_sync (s := mendN) hsm
      go_wp2_with fail
      refine (specSync_c _ d2 mendN wr HS.out.2.1 (by decide) hsm (by decide)).mono ?_
      rw [← HD.out, ← HC.out]
      rw [← HD.out] at hsm3
      generalize hd3 : swD mr mendN zb s (2 + 1) = d3 at *
      have HD3 := Hid.mk hd3
      clear hd3
      generalize swC mr mendN zb s 2 = c3 at *
      rintro e w3 ⟨cs3, rfl, hr3, hx3⟩
      obtain ⟨z0, zp0, z1, zp1, z2, zp2, rfl, _⟩ := id hr3
      have hb3 := HS.out.1.under hx3
      have v0 := hb3.cell 0 _ rfl
      have g0 := hb3.free 0
      have v1 := hb3.cell 1 _ rfl
      have g1 := hb3.free 1
      have v2 := hb3.cell 2 _ rfl
      have g2 := hb3.free 2
      have v3 := hb3.cell 3 _ rfl
      have g3 := hb3.free 3
      have hl3 := hb3.lt
      have HS3 := Hid.mk (HS.out.step rfl hx3 hr3)
      obtain ⟨w4, hw4⟩ : ∃ w4, w4 = ((((w3.setCell ⟨w.heap.size + 1 + 1, 0, none⟩ (.slice z0 d3.fInodes.length zp0)).setCell ⟨w.heap.size + 1 + 1, 1, none⟩ (.slice z1 d3.fNames.length zp1)).setCell ⟨w.heap.size + 1 + 1, 2, none⟩ (.slice z2 d3.fSafe.length zp2)).setCell ⟨w.heap.size + 1 + 1, 3, none⟩ (.int .i64 d3.fNext)) := ⟨_, rfl⟩
      rw [← hw4] at HS3
      clear hr3 hb3 x0 x1 x2 x3 hld
      go_wp2_with fail
      rw [← hw4]
      clear hw4
      go_roundw
      case rel =>
       refine ⟨3, c3, _, d3, by omega, by go_num, rfl, HS3.out, hsm3, ?_⟩
       by_cases hc0 : c3 = 0
       ·exact .inl ⟨hc0, HON.out hc0, HD3.out.symm⟩
       ·exact .inr ⟨hc0, HOU.out hc0⟩
      case measure => simp [intOf]
     ·have HD : Hid (swD mr mendN zb s (3 + 1) = renameP d2 mendN s) := by show _ = _; rw [HD2.out]; rfl
      have HC : Hid (swC mr mendN zb s 3 = renameC d2 mendN s) := by show _ = _; rw [HD2.out]; rfl
      obtain ⟨y0, yp0, y1, yp1, y2, yp2, rfl, _⟩ := id HS.out.2.1
      have x0 := HS.out.1.cell 0 _ rfl
      have x1 := HS.out.1.cell 1 _ rfl
      have x2 := HS.out.1.cell 2 _ rfl
      have x3 := HS.out.1.cell 3 _ rfl
      have hld := HS.out.1.lt
      have hBw := HS.out.2.2.2
      have hsm3 := small_rename (s := mendN) (t := s) hsm
      go_wp2_with fail
      refine (specRename_c _ d2 mendN s wr HS.out.2.1 (by decide) (by omega) hsm (by decide) hs).mono ?_
      rw [← HD.out, ← HC.out]
      rw [← HD.out] at hsm3
      generalize hd3 : swD mr mendN zb s (3 + 1) = d3 at *
      have HD3 := Hid.mk hd3
      clear hd3
      generalize swC mr mendN zb s 3 = c3 at *
      rintro e w3 ⟨cs3, rfl, hr3, hx3⟩
      obtain ⟨z0, zp0, z1, zp1, z2, zp2, rfl, _⟩ := id hr3
      have hb3 := HS.out.1.under hx3
      have v0 := hb3.cell 0 _ rfl
      have g0 := hb3.free 0
      have v1 := hb3.cell 1 _ rfl
      have g1 := hb3.free 1
      have v2 := hb3.cell 2 _ rfl
      have g2 := hb3.free 2
      have v3 := hb3.cell 3 _ rfl
      have g3 := hb3.free 3
      have hl3 := hb3.lt
      have HS3 := Hid.mk (HS.out.step rfl hx3 hr3)
      obtain ⟨w4, hw4⟩ : ∃ w4, w4 = ((((w3.setCell ⟨w.heap.size + 1 + 1, 0, none⟩ (.slice z0 d3.fInodes.length zp0)).setCell ⟨w.heap.size + 1 + 1, 1, none⟩ (.slice z1 d3.fNames.length zp1)).setCell ⟨w.heap.size + 1 + 1, 2, none⟩ (.slice z2 d3.fSafe.length zp2)).setCell ⟨w.heap.size + 1 + 1, 3, none⟩ (.int .i64 d3.fNext)) := ⟨_, rfl⟩
      rw [← hw4] at HS3
      clear hr3 hb3 x0 x1 x2 x3 hld
      go_wp2_with fail
      rw [← hw4]
      clear hw4
      go_roundw
      case rel =>
       refine ⟨4, c3, _, d3, by omega, by go_num, rfl, HS3.out, hsm3, ?_⟩
       by_cases hc0 : c3 = 0
       ·exact .inl ⟨hc0, HON.out hc0, HD3.out.symm⟩
       ·exact .inr ⟨hc0, HOU.out hc0⟩
      case measure => simp [intOf]
     ·have HD : Hid (swD mr mendN zb s (4 + 1) = syncDirP d2) := by show _ = _; rw [HD2.out]; rfl
      have HC : Hid (swC mr mendN zb s 4 = syncDirC d2) := by show _ = _; rw [HD2.out]; rfl
      obtain ⟨y0, yp0, y1, yp1, y2, yp2, rfl, _⟩ := id HS.out.2.1
      have x0 := HS.out.1.cell 0 _ rfl
      have x1 := HS.out.1.cell 1 _ rfl
      have x2 := HS.out.1.cell 2 _ rfl
      have x3 := HS.out.1.cell 3 _ rfl
      have hld := HS.out.1.lt
      have hBw := HS.out.2.2.2
      have hsm3 := small_syncDir hsm
      go_wp2_with fail
      refine (specSyncDir_c _ d2 wr HS.out.2.1 hsm).mono ?_
      rw [← HD.out, ← HC.out]
      rw [← HD.out] at hsm3
      generalize hd3 : swD mr mendN zb s (4 + 1) = d3 at *
      have HD3 := Hid.mk hd3
      clear hd3
      generalize swC mr mendN zb s 4 = c3 at *
      rintro e w3 ⟨cs3, rfl, hr3, hx3⟩
      obtain ⟨z0, zp0, z1, zp1, z2, zp2, rfl, _⟩ := id hr3
      have hb3 := HS.out.1.under hx3
      have v0 := hb3.cell 0 _ rfl
      have g0 := hb3.free 0
      have v1 := hb3.cell 1 _ rfl
      have g1 := hb3.free 1
      have v2 := hb3.cell 2 _ rfl
      have g2 := hb3.free 2
      have v3 := hb3.cell 3 _ rfl
      have g3 := hb3.free 3
      have hl3 := hb3.lt
      have HS3 := Hid.mk (HS.out.step rfl hx3 hr3)
      obtain ⟨w4, hw4⟩ : ∃ w4, w4 = ((((w3.setCell ⟨w.heap.size + 1 + 1, 0, none⟩ (.slice z0 d3.fInodes.length zp0)).setCell ⟨w.heap.size + 1 + 1, 1, none⟩ (.slice z1 d3.fNames.length zp1)).setCell ⟨w.heap.size + 1 + 1, 2, none⟩ (.slice z2 d3.fSafe.length zp2)).setCell ⟨w.heap.size + 1 + 1, 3, none⟩ (.int .i64 d3.fNext)) := ⟨_, rfl⟩
      rw [← hw4] at HS3
      clear hr3 hb3 x0 x1 x2 x3 hld
      go_wp2_with fail
      rw [← hw4]
      clear hw4
      go_roundw
      case rel =>
       refine ⟨5, c3, _, d3, by omega, by go_num, rfl, HS3.out, hsm3, ?_⟩
       by_cases hc0 : c3 = 0
       ·exact .inl ⟨hc0, HON.out hc0, HD3.out.symm⟩
       ·exact .inr ⟨hc0, HOU.out hc0⟩
      case measure => simp [intOf]
   ·have HRES := Hid.mk hres
    clear hres
    have hcd : decide (c = 0) = false := decide_eq_false hc
    obtain ⟨y0, yp0, y1, yp1, y2, yp2, rfl, _⟩ := id HS.out.2.1
    have r1 := HS.out.2.2.1
    have x0 := HS.out.1.cell 0 _ rfl
    have r10 := r1.cell 0 _ rfl
    have rf0 := r1.free 0
    have x1 := HS.out.1.cell 1 _ rfl
    have r11 := r1.cell 1 _ rfl
    have rf1 := r1.free 1
    have x2 := HS.out.1.cell 2 _ rfl
    have r12 := r1.cell 2 _ rfl
    have rf2 := r1.free 2
    have x3 := HS.out.1.cell 3 _ rfl
    have r13 := r1.cell 3 _ rfl
    have rf3 := r1.free 3
    have hlr := r1.lt
    have hld := HS.out.1.lt
    have hT := turn4 wr (w.heap.size + 1) (.slice y0 d2.fInodes.length yp0) (.slice y1 d2.fNames.length yp1) (.slice y2 d2.fSafe.length yp2) (.int .i64 d2.fNext)
    have HB : Hid (Below w.heap.size w ((((wr.setCell ⟨w.heap.size + 1, 0, none⟩ (.slice y0 d2.fInodes.length yp0)).setCell ⟨w.heap.size + 1, 1, none⟩ (.slice y1 d2.fNames.length yp1)).setCell ⟨w.heap.size + 1, 2, none⟩ (.slice y2 d2.fSafe.length yp2)).setCell ⟨w.heap.size + 1, 3, none⟩ (.int .i64 d2.fNext))) := HS.out.2.2.2.trans (hT.below (fun k hk => by simp at hk; omega) HS.out.2.2.2.size)
    have HO : Hid (rDisk ((((wr.setCell ⟨w.heap.size + 1, 0, none⟩ (.slice y0 d2.fInodes.length yp0)).setCell ⟨w.heap.size + 1, 1, none⟩ (.slice y1 d2.fNames.length yp1)).setCell ⟨w.heap.size + 1, 2, none⟩ (.slice y2 d2.fSafe.length yp2)).setCell ⟨w.heap.size + 1, 3, none⟩ (.int .i64 d2.fNext)).heap.size ((((wr.setCell ⟨w.heap.size + 1, 0, none⟩ (.slice y0 d2.fInodes.length yp0)).setCell ⟨w.heap.size + 1, 1, none⟩ (.slice y1 d2.fNames.length yp1)).setCell ⟨w.heap.size + 1, 2, none⟩ (.slice y2 d2.fSafe.length yp2)).setCell ⟨w.heap.size + 1, 3, none⟩ (.int .i64 d2.fNext)) [.slice y0 d2.fInodes.length yp0, .slice y1 d2.fNames.length yp1, .slice y2 d2.fSafe.length yp2, .int .i64 d2.fNext] d2) := by
     have h := rDisk_turn r1.dzero hT HS.out.2.1
     have hz : ((((wr.setCell ⟨w.heap.size + 1, 0, none⟩ (.slice y0 d2.fInodes.length yp0)).setCell ⟨w.heap.size + 1, 1, none⟩ (.slice y1 d2.fNames.length yp1)).setCell ⟨w.heap.size + 1, 2, none⟩ (.slice y2 d2.fSafe.length yp2)).setCell ⟨w.heap.size + 1, 3, none⟩ (.int .i64 d2.fNext)).heap.size = wr.heap.size := by simp
     unfold Hid
     rw [hz]
     exact h
    clear hT r1
    go_wp2_with fail
    all_goals exact bodyPost_ret (v := .tuple #[.agg #[.slice y0 d2.fInodes.length yp0, .slice y1 d2.fNames.length yp1, .slice y2 d2.fSafe.length yp2, .int .i64 d2.fNext], .int .i64 c]) (by simp [results, Tryz.results34, go_sem, *]) rfl ⟨[.slice y0 d2.fInodes.length yp0, .slice y1 d2.fNames.length yp1, .slice y2 d2.fSafe.length yp2, .int .i64 d2.fNext], by rw [HRES.out], by rw [HRES.out]; exact HO.out, HB.out⟩
end Go.Proofs.YtolciaheoanlbaaGreatDoor

/-
  A range over a function, by its record: what is laid when the loop begins, and what one round owes; the iterator is walked where it is called.
-/
namespace Go.Proofs.YtolciaheoanlbaaGreatDoor
open Go.RowKit Go.Shelf
set_option linter.unusedVariables false
set_option linter.unusedSimpArgs false
set_option maxRecDepth 10000
def goesOn (n : Nat) (P : Program) (Q : Exit → Act → World → Prop) (a : Act) (W : World) : Option Code → Prop
 | none => Q .normal a W
 | some c => c.wpIn Fence.wide n P Q a W
theorem range_begins {P : Program} {n : Nat} {g : Operand} {ps : Array Tmp} {assign body : Code} {Q : Exit → Act → World → Prop} {a : Act} {w : World} {gf : Nat} {lb : Array Value}
  (hg : a.eval g = .func (.func gf) #[] lb) (eg : ∀ args w, (callFunc gf args).run P w = .ok (.enter gf args) w)
  (h : ∀ (fn : FuncId) (r : Loop), r.state = .ready → r.pending = none → r.params = ps → r.tmps = a.tmps → r.assign = assign → r.body = body → ∀ W1 : World, W1.heap[w.heap.size + 1]? = some (.loop r) → W1.heap[w.heap.size]? = some (.deferred (some [])) → W1.heap.size = w.heap.size + 2 → Below w.heap.size w W1 →
   Calls P gf (#[.func (.yield (w.heap.size + 1)) #[] #[]] ++ lb) W1 fun e W2 => (∃ v, e = .returned v) ∧ ∃ r2 : Loop, W2.heap[w.heap.size + 1]? = some (.loop r2) ∧ r2.state ≠ .busy ∧ W2.heap[w.heap.size]? = some (.deferred (some [])) ∧
    goesOn n P Q { a with defers := { target := .collected w.heap.size, args := #[] } :: a.defers } (W2.putObj (w.heap.size + 1) (.loop { r2 with state := .exhausted })) r2.pending)
  (hn : 1 ≤ n) :
  (Code.rangeFunc g ps assign body).wpIn Fence.wide n P Q a w := by
 refine wpIn_rangeFunc fun fn _ => ?_
 obtain ⟨r, hr⟩ : ∃ r : Loop, r = { state := .ready, pending := none, fn, tmps := a.tmps, params := ps, assign, body, defers := w.heap.size } := ⟨_, rfl⟩
 obtain ⟨W1, hW1⟩ : ∃ W1, W1 = (w.alloc (.deferred (some []))).alloc (.loop r) := ⟨_, rfl⟩
 have he : (Instr.enterLoop fn a.tmps ps assign body none).run P w = .ok (w.heap.size + 1, [{ target := .collected w.heap.size, args := #[] }]) W1 := by rw [hW1, hr]; exact run_enterLoop_outer fn a.tmps ps assign body
 refine ⟨_, _, W1, { target := .fn (.func gf) lb, args := #[.func (.yield (w.heap.size + 1)) #[] #[]] }, W1, gf, #[.func (.yield (w.heap.size + 1)) #[] #[]] ++ lb, W1, he, ?_, fun _ _ => trivial, ?_, fun _ => hn, ?_⟩
 ·simp only [resolve, hg]
  simp [go_sem]
 ·simp [invoke, go_sem, eg]
 ·refine (callsIn_wide.2 (h fn r (by rw [hr]) (by rw [hr]) (by rw [hr]) (by rw [hr]) (by rw [hr]) (by rw [hr]) W1 ?_ ?_ ?_ ?_)).mono ?_
  ·rw [hW1]
   have := World.alloc_heap_new (w.alloc (.deferred (some []))) (.loop r)
   rwa [World.size_alloc] at this
  ·rw [hW1]; exact (Below.heap_alloc _ _ _ (by simp)).trans (World.alloc_heap_new w _)
  ·rw [hW1]; simp
  ·rw [hW1]; exact ((Below.refl _ w).alloc (Nat.le_refl _) _).alloc (by simp) _
  ·rintro e W2 ⟨⟨v, rfl⟩, r2, hl, hs, hd, hgo⟩
   refine ⟨r2.pending, _, run_endLoop hl hs, ?_⟩
   revert hgo
   cases r2.pending with
   | none => exact id
   | some c => exact id
def roundEnd (l : Nat) (r : Loop) (R : Ending → World → Prop) : Exit → Act → World → Prop
 | .normal, _, W => W.heap[l]? = some (.loop { r with state := .busy }) ∧ R (.returned (.bool true)) (W.putObj l (.loop { r with state := .ready, pending := none }))
 | .ret, _, W => W.heap[l]? = some (.loop { r with state := .busy }) ∧ R (.returned (.bool false)) (W.putObj l (.loop { r with state := .done, pending := some .ret }))
 | .exit id, _, W => W.heap[l]? = some (.loop { r with state := .busy }) ∧ R (.returned (.bool false)) (W.putObj l (.loop { r with state := .done, pending := some (.exit id) }))
 | .goto t, _, W => W.heap[l]? = some (.loop { r with state := .busy }) ∧ R (.returned (.bool false)) (W.putObj l (.loop { r with state := .done, pending := some (.goto t) }))
 | .panic _, _, _ => False
 | .outgrown, _, _ => False
theorem round_runs {P : Program} {n l : Nat} {r : Loop} {f : FuncId} {tmps : Array Value} {assign body : Code} {W : World} {R : Ending → World → Prop} (hr : r.state = .ready)
  (h : assign.wpIn (Fence.wide.inRound l) n P (Exit.then (fun a1 W1 => W1.heap[l]? = some (.loop r) ∧ body.wpIn (Fence.wide.inRound l) n P (roundEnd l r R) a1 (W1.putObj l (.loop { r with state := .busy }))) (fun _ _ _ => False))
   { tmps := tmps, defers := [] } W) :
  RoundIn Fence.wide n P l f tmps assign body W R := by
 refine roundIn_of_wpIn trivial (wpIn_mono h ?_)
 rintro e a1 W1 hp
 cases e with
 | normal =>
  obtain ⟨hl1, hb⟩ := hp
  refine ⟨_, run_beginRound hl1 hr, wpIn_mono hb ?_⟩
  rintro e a3 W3 hp3
  cases e with
  | normal => exact ⟨_, _, run_endRound none hp3.1, hp3.2⟩
  | ret => exact ⟨_, _, run_endRound (some .ret) hp3.1, hp3.2⟩
  | exit id => exact ⟨_, _, run_endRound (some (.exit id)) hp3.1, hp3.2⟩
  | goto t => exact ⟨_, _, run_endRound (some (.goto t)) hp3.1, hp3.2⟩
  | panic c => exact hp3.elim
  | outgrown => exact hp3.elim
 | ret => exact hp.elim
 | exit id => exact hp.elim
 | goto t => exact hp.elim
 | panic c => exact hp.elim
 | outgrown => exact hp.elim
end Go.Proofs.YtolciaheoanlbaaGreatDoor

/-
  Unframe of the program, whole.
-/
namespace Go.Proofs.YtolciaheoanlbaaGreatDoor
open Go.RowKit
set_option maxRecDepth 10000
set_option maxHeartbeats 800000 in
theorem implUnframe_any (a : Option Addr) (n cap : Nat) (zs : List Int) (p : Int) (w : World) (hx : zs.length = n) (hlen : n ≤ 35184372088832) (hcap : n ≤ cap) (hb : BytesOk zs) (hr : Rd .u8 w.heap.size w a zs) (ht : TabAt w) :
  Calls Tryz.prog 134 #[.slice a n cap, .int .i64 p] w (UnfPost w (unframe zs p)) := by
 obtain ⟨i0, hi, hz0, hz1, hz2⟩ := info_parts Tryz.info5
 have HX : Hid (zs.length = n) := hx
 clear hx
 have hsz : 0 < w.heap.size := ht.size
 by_cases hout : p < 0 ∨ (n : Int) - 4 < p
 ·have HV : Hid (unframe zs p = ([], p, false)) := unframe_out (by rw [HX.out]; exact hout)
  by_cases h0 : p < 0
  ·clear hout
   go_enter Tryz.func134, Tryz.ntmps134
   go_wp2
   go_ret3
   rw [HV.out]
   exact unf_nil (Below.refl _ _)
  ·have h1 : (n : Int) - 4 < p := by omega
   clear hout
   go_enter Tryz.func134, Tryz.ntmps134
   go_wp2
   go_ret3
   rw [HV.out]
   exact unf_nil (Below.refl _ _)
 ·obtain ⟨p, rfl⟩ := Int.eq_ofNat_of_zero_le (show 0 ≤ p by omega)
  have hp : p + 4 ≤ n := by omega
  clear hout
  have hN := implGetNum_any a n cap zs ((p : Int) + 4) w w.heap.size HX.out (by omega) hb hr
  go_enter Tryz.func134, Tryz.ntmps134
  go_wp2_with fail
  refine hN.mono ?_
  rintro e w1 ⟨rfl, rfl⟩
  clear hN
  rcases text_cases zs ((p : Int) + 4) with ⟨r0, r1, hR, hv⟩ | ⟨m, f, hR, hf, hm, hout, hv⟩ | ⟨m, f, hR, hf, hm, hin, hv⟩
  ·have HV := Hid.mk (unframe_no (by rw [HX.out]; exact hp) hv)
   rw [hR]
   unfold numVal
   clear hR hv
   go_wp2
   go_ret3
   rw [HV.out]
   exact unf_nil (Below.refl _ _)
  ·have HV := Hid.mk (unframe_no (by rw [HX.out]; exact hp) hv)
   rw [hR]
   unfold numVal
   clear hR hv
   rw [HX.out] at hf hout
   go_wp2
   go_ret3
   rw [HV.out]
   exact unf_nil (Below.refl _ _)
  ·have HYes := fun h => Hid.mk (unframe_yes (by rw [HX.out]; exact hp) hv h)
   have HNo := fun h => Hid.mk (unframe_sum (by rw [HX.out]; exact hp) hv h)
   rw [hR]
   unfold numVal
   clear hR hv
   have hbody := getText_ok hb f m
   have hbl : ((zs.drop f).take m).length = m := take_drop_length hin
   obtain ⟨b1, o1, rfl, _, _⟩ := hr 0 (by omega)
   have hsub : Rd .u8 w1.heap.size w1 (some ⟨b1, o1 + f, none⟩) ((zs.drop f).take (n - f)) := hr.sub (by have := HX.out; omega)
   have hfour : Rd .u8 w1.heap.size w1 (some ⟨b1, o1 + p, none⟩) ((zs.drop p).take 4) := hr.sub (by rw [HX.out]; exact hp)
   have h4l : ((zs.drop p).take 4).length = 4 := take_drop_length (by rw [HX.out]; exact hp)
   have h4b := getText_ok hb p 4
   have HR4 := Hid.mk (rdN_four (zs := zs) (p := p) (by rw [HX.out]; exact hp))
   have hsubl : ((zs.drop f).take (n - f)).length = n - f := take_drop_length (by have := HX.out; omega)
   have HBody : Hid (((zs.drop f).take (n - f)).take m = (zs.drop f).take m) := by
    unfold Hid
    rw [List.take_take, Nat.min_eq_left (by have := HX.out; omega)]
   generalize (zs.drop f).take (n - f) = src at hsub hsubl HBody
   generalize (zs.drop f).take m = body at hbody hbl HYes HNo HBody
   generalize (zs.drop p).take 4 = fr at hfour h4l h4b HR4
   rw [HX.out] at hin
   have hcapf : f < cap ∨ (cap = f ∧ m = 0 ∧ n = f) := by omega
   have HBL := Hid.mk hbl
   have HSL := Hid.mk hsubl
   have H4L := Hid.mk h4l
   clear hbl hsubl h4l
   rcases hcapf with hcf | ⟨hc1, hc2, hc3⟩
   ·have hcf' : ¬ cap = f := by omega
    go_wp2_with (at_make; refine wpList_make_full _ rfl _ _ 62 rfl w1.heap.size 5 i0 (.int .u8 0) 1 Tryz.underlying62 hi hz0 hz1 .i64 .i64 _ _ m rfl rfl rfl rfl (by rw [hz2]; omega) (by unfold maxLen; omega) (Nat.le_refl _) ?_)
    intro w2 hown2 hgr2
    have hB2 : Below w1.heap.size w1 w2 := (Below.refl _ _).grown hgr2 (Nat.le_refl _) (fun k h => by cases h)
    clear hgr2
    go_wp2_with (refine wpList_copy_le rfl _ _ 62 62 rfl 5 i0 Tryz.underlying62 hi hz1 w1.heap.size w1.heap.size m m (n - f) (cap - f) (some ⟨b1, o1 + f, none⟩) rfl rfl _ hown2 .u8 src w1.heap.size HSL.out (by omega) (hsub.below hB2) ?_)
    intro w3 hown3 hgr3
    have hB3 : Below w1.heap.size w1 w3 := hB2.grown hgr3 hB2.size (fun k h => by simp at h; omega)
    rw [← List.map_take, HBody.out] at hown3
    clear hgr3 hown2 hB2
    have hq3 := Rd.own HBL.out hown3
    have ht3 := ht.below hB3 hsz
    have hf3 := hfour.below hB3
    by_cases hc : crc body = rd4 zs p
    ·have HV := HYes hc
     have hcb : (crc body != rdN fr) = false := by rw [HR4.out]; simp [hc]
     clear HYes HNo hc
     go_wp2_with fail
     go_quiet (first | (go_at_call 155; exact Calls.quiet_of_same (implSum_any _ m m body _ _ HBL.out (by omega) hbody (by exact hq3) (by exact ht3))) | (go_at_call 156; exact Calls.quiet_of_same (readFour_any _ _ fr _ _ H4L.out h4b (by exact hf3))))
     go_wp2
     go_ret3
     rw [HV.out]
     exact ⟨_, rfl, own_drewN (own_congr hown3 HBL.out.symm rfl), below_drewN hB3 _⟩
    ·have HV := HNo hc
     have hcb : (crc body != rdN fr) = true := by rw [HR4.out]; simp [hc]
     clear HYes HNo hc
     go_wp2_with fail
     go_quiet (first | (go_at_call 155; exact Calls.quiet_of_same (implSum_any _ m m body _ _ HBL.out (by omega) hbody (by exact hq3) (by exact ht3))) | (go_at_call 156; exact Calls.quiet_of_same (readFour_any _ _ fr _ _ H4L.out h4b (by exact hf3))))
     go_wp2
     go_ret3
     rw [HV.out]
     exact unf_nil (below_drewN hB3 _)
   ·subst hc1
    subst hc2
    subst hc3
    have hsrc : src = [] := List.eq_nil_of_length_eq_zero (by rw [HSL.out]; omega)
    subst hsrc
    go_wp2_with (at_make; refine wpList_make_full _ rfl _ _ 62 rfl w1.heap.size 5 i0 (.int .u8 0) 1 Tryz.underlying62 hi hz0 hz1 .i64 .i64 _ _ 0 rfl rfl rfl rfl (by rw [hz2]; omega) (by unfold maxLen; omega) (Nat.le_refl _) ?_)
    intro w2 hown2 hgr2
    have hB2 : Below w1.heap.size w1 w2 := (Below.refl _ _).grown hgr2 (Nat.le_refl _) (fun k h => by cases h)
    clear hgr2
    go_wp2_with (refine wpList_copy_le rfl _ _ 62 62 rfl 5 i0 Tryz.underlying62 hi hz1 w1.heap.size w1.heap.size 0 0 0 0 (some ⟨b1, o1, none⟩) rfl rfl _ hown2 .u8 [] 0 rfl (by omega) Rd.nil ?_)
    intro w3 hown3 hgr3
    have hB3 : Below w1.heap.size w1 w3 := hB2.grown hgr3 hB2.size (fun k h => by simp at h; omega)
    have hbn : body = [] := List.eq_nil_of_length_eq_zero HBL.out
    clear hgr3 hown2 hB2
    have hq3 : Rd .u8 w3.heap.size w3 (some ⟨w1.heap.size, 0, none⟩) body := by rw [hbn]; exact Rd.nil
    have hown3' : w3.ownsRow w1.heap.size 5 1 (.slice (some ⟨w1.heap.size, 0, none⟩) 0 0) body.length (body.map (Value.int .u8)) := by rw [hbn]; exact hown3
    clear hbn
    have ht3 := ht.below hB3 hsz
    have hf3 := hfour.below hB3
    by_cases hc : crc body = rd4 zs p
    ·have HV := HYes hc
     have hcb : (crc body != rdN fr) = false := by rw [HR4.out]; simp [hc]
     clear HYes HNo hc
     go_wp2_with fail
     go_quiet (first | (go_at_call 155; exact Calls.quiet_of_same (implSum_any _ 0 0 body _ _ HBL.out (by omega) hbody (by exact hq3) (by exact ht3))) | (go_at_call 156; exact Calls.quiet_of_same (readFour_any _ _ fr _ _ H4L.out h4b (by exact hf3))))
     go_wp2
     go_ret3
     rw [HV.out]
     exact ⟨_, rfl, own_drewN hown3', below_drewN hB3 _⟩
    ·have HV := HNo hc
     have hcb : (crc body != rdN fr) = true := by rw [HR4.out]; simp [hc]
     clear HYes HNo hc
     go_wp2_with fail
     go_quiet (first | (go_at_call 155; exact Calls.quiet_of_same (implSum_any _ 0 0 body _ _ HBL.out (by omega) hbody (by exact hq3) (by exact ht3))) | (go_at_call 156; exact Calls.quiet_of_same (readFour_any _ _ fr _ _ H4L.out h4b (by exact hf3))))
     go_wp2
     go_ret3
     rw [HV.out]
     exact unf_nil (below_drewN hB3 _)
end Go.Proofs.YtolciaheoanlbaaGreatDoor
