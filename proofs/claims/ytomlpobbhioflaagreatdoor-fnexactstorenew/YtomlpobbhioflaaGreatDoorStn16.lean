/-
  Part 17 of the texts that the proof leans on.
-/
import Derived.Test.YtomlpobbhioflaaGreatDoorStn10
import Derived.Test.YtomlpobbhioflaaGreatDoorStn15
import Derived.Test.YtomlpobbhioflaaGreatDoorStn14
import Derived.Test.YtomlpobbhioflaaGreatDoorStn1
import Derived.Test.YtomlpobbhioflaaGreatDoorStn4
import Derived.Test.YtomlpobbhioflaaGreatDoorStn2
set_option linter.unusedVariables false
set_option linter.unusedSimpArgs false
set_option maxRecDepth 10000

namespace Go.Proofs.YtomlpobbhioflaaGreatDoor
open Go.RowKit Go.Maps
set_option maxHeartbeats 4000000 in
theorem specRemove_o (cs : List Value) (m : MDisk) (s : ByteArray) (w : World) (hr : rDisk w.heap.size w cs m) (hs : s.size ≤ 9223372036854775807) (hw : wDisk m ≤ 1048576) (hw1 : s.size ≤ 1048576) :
  Calls Tryz.prog 65 #[.agg cs.toArray, .string s] w fun e w' => ∃ cs' : List Value, e = .returned (.tuple #[.agg cs'.toArray, .int .i64 (callP m s)]) ∧ (∃ F, oDisk w' cs' (removeP m s) F ∧ ∀ b, b ∈ F → w.heap.size ≤ b) ∧ Below w.heap.size w w' := by
 have hq := hr
 obtain ⟨a0, c0, a1, c1, a2, c2, rfl, hI, hNm, hSf, hnx, _⟩ := hq
 have hw2 : m.fInodes.length + sumW wInode m.fInodes + (m.fNames.length + sumW wEntry m.fNames) + (m.fSafe.length + sumW wEntry m.fSafe) ≤ 1048576 := hw
 have HW := Hid.mk hw
 have HR := Hid.mk hr
 clear hr hI hNm hSf hw
 go_enter Tryz.func65, Tryz.ntmps65
 go_wp2_with fail
 obtain ⟨wq, hwq⟩ : ∃ wq, wq = ((w.alloc (.cells #[.slice a0 m.fInodes.length c0, .slice a1 m.fNames.length c1, .slice a2 m.fSafe.length c2, .int .i64 m.fNext] 25)).alloc (.cells #[.slice none 0 0, .slice none 0 0, .slice none 0 0, .int .i64 0] 25)) := ⟨_, rfl⟩
 have hbW : Below w.heap.size w wq := by rw [hwq]; exact Below.alloc (Below.alloc (Below.refl _ _) (by exact Nat.le_refl _) _) (by simp; try omega) _
 have hbd : Bw wq (w.heap.size) 25 [.slice a0 m.fInodes.length c0, .slice a1 m.fNames.length c1, .slice a2 m.fSafe.length c2, .int .i64 m.fNext] := by rw [hwq]; exact Bw.alloc (Bw.new' _ _ _ (by simp)) _
 have hbr : Bw wq (w.heap.size + 1) 25 [.slice none 0 0, .slice none 0 0, .slice none 0 0, .int .i64 0] := by rw [hwq]; exact Bw.new' _ _ _ (by simp)
 rw [← hwq]
 clear hwq
 refine (l2Copy_any _ m wq (rDisk_good.mono (rDisk_good.below HR.out hbW) hbW.size) HW.out).mono ?_
 rintro e w1 ⟨cs2, F2, rfl, ho2, hN2, hge2, hx1⟩
 obtain ⟨d0, e0, d1, e1, d2, e2, G0, G1, G2, rfl, o0, o1, o2, _, rfl⟩ := oDisk_cells ho2
 have HO0 := Hid.mk o0
 have HO1 := Hid.mk o1
 have HO2 := Hid.mk o2
 have HO := Hid.mk ho2
 have HN := Hid.mk hN2
 have HGE : Hid (∀ b, b ∈ G0 ++ G1 ++ G2 ++ [] → wq.heap.size ≤ b) := hge2
 have HLT : Hid (∀ b, b ∈ G0 ++ G1 ++ G2 ++ [] → b < w1.heap.size) := fun b hb => oDisk_good.lt ho2 b hb
 clear ho2 hN2 hge2 o0 o1 o2
 have hb1 := bthen hbW hx1
 have hbd1 := hbd.under hx1
 have hbr1 := hbr.under hx1
 have hz1 := hx1.size
 have hzW := hbW.size
 have hl0 := hbr.lt
 obtain ⟨y0, y1, y2, y3⟩ := hbd1.c4
 have hl1 := hbd1.lt
 go_wp2_with fail
 obtain ⟨wa, hwa⟩ : ∃ wa, wa = w1.alloc (.cells #[.slice d0 m.fInodes.length e0, .slice d1 m.fNames.length e1, .slice d2 m.fSafe.length e2, .int .i64 m.fNext] 25) := ⟨_, rfl⟩
 have hba : Below w1.heap.size w1 wa := by rw [hwa]; exact (Below.refl _ _).alloc (Nat.le_refl _) _
 have hwb0 : Bw wa w1.heap.size 25 [.slice d0 m.fInodes.length e0, .slice d1 m.fNames.length e1, .slice d2 m.fSafe.length e2, .int .i64 m.fNext] := by rw [hwa]; exact Bw.new _ _ _
 rw [← hwa]
 clear hwa
 have hba1 := bthen hb1 hba
 have hbda := (hbd1.under hba)
 refine (l2Call_any _ m s wa (rDisk_good.mono (rDisk_good.below HR.out hba1) hba1.size) HW.out hs).mono ?_
 rintro e w2 ⟨rfl, hx2⟩
 have hb12 := bthen hba hx2
 have hb2 := bthen hba1 hx2
 have hwb := hwb0.under hx2
 have hbr2 := (hbr1.under hba).under hx2
 have hbd2 := hbda.under hx2
 clear hwb0 hbda hbd1 y0 y1 y2 y3
 obtain ⟨zo0, zo1, zo2, zo3⟩ := hwb.c4
 by_cases hC : callP m s = 0
 ·have hgd := (call_good hC).1
  have hrok := remove_ok (s := s) hgd
  have HV : Hid (removeP m s = keepD { m with fNames := without m.fNames s } ∧ callP m s = 0) := by refine ⟨?_, hC⟩; unfold removeP removeD; rw [if_pos hC]
  have HE : Hid (endsD m { m with fNames := without m.fNames s } = keepD { m with fNames := without m.fNames s } ∧ endsC { m with fNames := without m.fNames s } = 0) := by
   unfold removeD at hrok
   refine ⟨?_, ?_⟩ <;> simp only [endsD, endsC, hrok, if_true]
  have hsub : (without m.fNames s).Sublist m.fNames := List.filter_sublist
  have hsl := hsub.length_le
  have HWK1 : Hid (wDisk { m with fNames := without m.fNames s } ≤ 16777216) := by
   show _ ≤ _
   have h2 := sumW_sublist (f := wEntry) hsub
   rw [wDisk_eq]
   simp only
   omega
  rw [hC]
  clear hC hrok hgd hsub
  have hlo := hwb.lt
  have fo1 := hwb.free 1
  go_wp2_with fail
  refine (l2Without_any d1 m.fNames.length e1 m.fNames s w2 rfl (by omega) (ownS.leaf oEntry_good (ownS.frame oEntry_good HO1.out (fun b hbF => hb12.block b (HLT.out b (by simp [hbF])))))).mono ?_
  rintro e w3 ⟨r3, q3, F3, rfl, ho3, hg3, hx3⟩
  have HO3 := Hid.mk ho3
  have HGS := Hid.mk hg3
  clear ho3 hg3
  have hwb3 := hwb.under hx3
  have zf1 := hwb3.free 1
  have hl3 := hwb3.lt
  have hbd3 := hbd2.under hx3
  have hl3d := hbd3.lt
  obtain ⟨zd0, zd1, zd2, zd3⟩ := hwb3.c4
  obtain ⟨yd0, yd1, yd2, yd3⟩ := hbd3.c4
  clear zo0 zo1 zo2 zo3 fo1
  go_wp2_with fail
  obtain ⟨ws, hws⟩ : ∃ ws, ws = w3.setCell ⟨w1.heap.size, 1, none⟩ (.slice r3 (without m.fNames s).length q3) := ⟨_, rfl⟩
  have hTs : Turn [w1.heap.size] w3 ws := by rw [hws]; exact Turn.setCell (Turn.refl _ _) (by simp) _
  have hwbs : Bw ws w1.heap.size 25 [.slice d0 m.fInodes.length e0, .slice r3 (without m.fNames s).length q3, .slice d2 m.fSafe.length e2, .int .i64 m.fNext] := by rw [hws]; exact hwb3.put 1 _
  have hbds := hbd3.turn hTs (by simp; omega)
  have hbrs := (hbr2.under hx3).turn hTs (by simp; omega)
  have hb3 := bthen hb2 hx3
  have hBs : Below w.heap.size w ws := hb3.trans (hTs.below (fun k hk => by simp at hk; omega) hb3.size)
  have hfr : ∀ b, b ∈ G0 ++ G1 ++ G2 ++ [] → ws.heap[b]? = w1.heap[b]? := fun b hb => by
   have h1 := HLT.out b hb
   rw [hTs.block b (by have := (bthen hb12 hx3).size; omega) (by simp; omega), (bthen hb12 hx3).block b h1]
  have t0 := ownS.frame (w' := ws) oInode_good HO0.out (fun b hb => hfr b (by simp [hb]))
  have t2 := ownS.frame (w' := ws) oEntry_good HO2.out (fun b hb => hfr b (by simp [hb]))
  have hz12 := hb12.size
  have t1 := ownS.frame (w' := ws) oEntry_good HO3.out (fun b hb => hTs.block b (ownS.lt oEntry_good HO3.out b hb) (by intro h; simp at h; have := HGS.out b hb; omega))
  have HT0 := Hid.mk t0
  have HT1 := Hid.mk t1
  have HT2 := Hid.mk t2
  have HBS := Hid.mk hBs
  have HSUB : Hid (∀ b, b ∈ G0 ++ F3 ++ G2 → w.heap.size + 2 ≤ b) := by
   intro b hb
   rw [List.mem_append, List.mem_append] at hb
   rcases hb with (hb | hb) | hb
   ·have := HGE.out b (by simp [hb]); omega
   ·have := HGS.out b hb; omega
   ·have := HGE.out b (by simp [hb]); omega
  rw [← hws]
  clear hws t0 t1 t2 hfr hTs zf1 zd0 zd1 zd2 zd3 yd0 yd1 yd2 yd3
  obtain ⟨zs0, zs1, zs2, zs3⟩ := hwbs.c4
  obtain ⟨ys0, ys1, ys2, ys3⟩ := hbds.c4
  go_wp2_with fail
  refine (l2Ends_any _ d0 r3 d2 e0 q3 e2 m { m with fNames := without m.fNames s } G0 _ G2 ws (rDisk_good.mono (rDisk_good.below HR.out HBS.out) HBS.out.size) HW.out HT0.out HT1.out HT2.out hnx HWK1.out (by simp only; omega)).mono ?_
  rintro e w4 ⟨cs4, F4, rfl, ho4, hF4, hx4⟩
  have hb4 := bthen HBS.out hx4
  have hbr4 := hbrs.under hx4
  have hl4 := hbr4.lt
  have hzE := HBS.out.size
  have hlE := hbrs.lt
  rw [HE.out.1] at ho4
  obtain ⟨q0, p0, q1, p1, q2, p2, E0, E1, E2, rfl, _, _, _, _, rfl⟩ := oDisk_cells ho4
  have hkey : ∀ W', Turn [w.heap.size + 1] w4 W' → (∃ F, oDisk W' [.slice q0 (keepD { m with fNames := without m.fNames s }).fInodes.length p0, .slice q1 (keepD { m with fNames := without m.fNames s }).fNames.length p1, .slice q2 (keepD { m with fNames := without m.fNames s }).fSafe.length p2, .int .i64 (keepD { m with fNames := without m.fNames s }).fNext] (keepD { m with fNames := without m.fNames s }) F ∧ ∀ b, b ∈ F → w.heap.size ≤ b) ∧ Below w.heap.size w W' := fun W' hT =>
   ⟨⟨_, oDisk_good.frame ho4 (fun b hb => hT.block b (oDisk_good.lt ho4 b hb) (fun h => by simp at h; rcases hF4 b hb with h2 | h2; (have := HSUB.out b h2; omega); omega)), fun b hb => by first | (have := hG3 b hb; omega) | (have := hge b hb; omega) | (rcases hF4 b hb with h2 | h2; (have := HSUB.out b h2; omega); omega)⟩, hb4.trans (hT.below (fun k hk => by simp at hk; omega) hb4.size)⟩
  have HKEY := Hid.mk hkey
  clear hkey ho4 hF4
  obtain ⟨ze0, ze1, ze2, ze3⟩ := hbr4.c4
  obtain ⟨zf0, zf1, zf2, zf3⟩ := hbr4.f4
  have HEC : Hid (endsC { m with fNames := without m.fNames s } = 0) := HE.out.2
  rw [HEC.out]
  go_wp2_with fail
  obtain ⟨h1, h3⟩ := HKEY.out _ (show Turn [w.heap.size + 1] w4 ((((w4.setCell ⟨w.heap.size + 1, 0, none⟩ (.slice q0 (keepD { m with fNames := without m.fNames s }).fInodes.length p0)).setCell ⟨w.heap.size + 1, 1, none⟩ (.slice q1 (keepD { m with fNames := without m.fNames s }).fNames.length p1)).setCell ⟨w.heap.size + 1, 2, none⟩ (.slice q2 (keepD { m with fNames := without m.fNames s }).fSafe.length p2)).setCell ⟨w.heap.size + 1, 3, none⟩ (.int .i64 (keepD { m with fNames := without m.fNames s }).fNext)) from turn4 _ _ _ _ _ _)
  exact bodyPost_ret (v := .tuple #[.agg #[.slice q0 (keepD { m with fNames := without m.fNames s }).fInodes.length p0, .slice q1 (keepD { m with fNames := without m.fNames s }).fNames.length p1, .slice q2 (keepD { m with fNames := without m.fNames s }).fSafe.length p2, .int .i64 (keepD { m with fNames := without m.fNames s }).fNext], .int .i64 0]) (by simp [results, Tryz.results65, go_sem, *]) rfl ⟨[.slice q0 (keepD { m with fNames := without m.fNames s }).fInodes.length p0, .slice q1 (keepD { m with fNames := without m.fNames s }).fNames.length p1, .slice q2 (keepD { m with fNames := without m.fNames s }).fSafe.length p2, .int .i64 (keepD { m with fNames := without m.fNames s }).fNext], by rw [HV.out.2], by rw [HV.out.1]; exact h1, h3⟩
 ·have HV : Hid (removeP m s = m) := by show _ = _; unfold removeP; rw [if_neg hC]
  have hcn : (callP m s == 0) = false := beq_eq_false_iff_ne.2 hC
  obtain ⟨cp, hcp⟩ : ∃ cp, callP m s = cp := ⟨_, rfl⟩
  rw [hcp] at hcn ⊢
  have HCP := Hid.mk hcp
  clear hcp hC
  obtain ⟨ze0, zf0, ze1, zf1, ze2, zf2, ze3, zf3⟩ := hbr2.c8
  have hlt0 := hbr2.lt
  have hO3 : oDisk w2 [.slice d0 m.fInodes.length e0, .slice d1 m.fNames.length e1, .slice d2 m.fSafe.length e2, .int .i64 m.fNext] (removeP m s) (G0 ++ G1 ++ G2 ++ []) := by rw [HV.out]; exact oDisk_good.frame HO.out (fun b hb => hb12.block b (HLT.out b hb))
  have hG3 : ∀ b, b ∈ G0 ++ G1 ++ G2 ++ [] → w.heap.size + 2 ≤ b := fun b hb => by have := HGE.out b hb; omega
  have HBf := Hid.mk hb2
  have HO3 := Hid.mk hO3
  clear hO3
  go_wp2_with fail
  refine bodyPost_ret (v := .tuple #[.agg #[.slice d0 m.fInodes.length e0, .slice d1 m.fNames.length e1, .slice d2 m.fSafe.length e2, .int .i64 m.fNext], .int .i64 cp]) (by simp [results, Tryz.results65, go_sem, *]) rfl ⟨[.slice d0 m.fInodes.length e0, .slice d1 m.fNames.length e1, .slice d2 m.fSafe.length e2, .int .i64 m.fNext], by first | rfl | rw [HCP.out], ?_, ?_⟩
  ·exact ⟨_, oDisk_good.frame HO3.out (fun b hb => (show Turn [w.heap.size + 1] w2 _ from by repeat (first | with_reducible exact Turn.refl _ _ | with_reducible refine Turn.setCell ?_ (by simp) _ | with_reducible refine Turn.alloc ?_ _ | with_reducible refine Turn.drew ?_)).block b (oDisk_good.lt HO3.out b hb) (by intro h; simp at h; have := hG3 b hb; omega)), fun b hb => by first | (have := hG3 b hb; omega) | (have := hge b hb; omega) | (rcases hF4 b hb with h2 | h2; (have := HSUB.out b h2; omega); omega)⟩
  ·exact HBf.out.trans ((show Turn [w.heap.size + 1] w2 _ from by repeat (first | with_reducible exact Turn.refl _ _ | with_reducible refine Turn.setCell ?_ (by simp) _ | with_reducible refine Turn.alloc ?_ _ | with_reducible refine Turn.drew ?_)).below (fun k hk => by simp at hk; omega) HBf.out.size)
theorem specRemove_c (cs : List Value) (m : MDisk) (s : ByteArray) (w : World) (hr : rDisk w.heap.size w cs m) (hs : s.size ≤ 9223372036854775807) (hw : wDisk m ≤ 1048576) (hw1 : s.size ≤ 1048576) :
  Calls Tryz.prog 65 #[.agg cs.toArray, .string s] w fun e w' => ∃ cs' : List Value, e = .returned (.tuple #[.agg cs'.toArray, .int .i64 (callP m s)]) ∧ rDisk w'.heap.size w' cs' (removeP m s) ∧ Below w.heap.size w w' :=
 (specRemove_o cs m s w hr hs hw hw1).mono fun e w' ⟨cs', he, ⟨F, ho, _⟩, hx⟩ => ⟨cs', he, oDisk_good.read ho, hx⟩
end Go.Proofs.YtomlpobbhioflaaGreatDoor

namespace Go.Proofs.YtomlpobbhioflaaGreatDoor
open Go.RowKit
theorem Bw.put4 {w : World} {b : Nat} {t : TypeId} {vs : List Value} (h : Bw w b t vs) (hl : vs.length = 4) (x0 x1 x2 x3 : Value) : Bw ((((w.setCell ⟨b, 0, none⟩ x0).setCell ⟨b, 1, none⟩ x1).setCell ⟨b, 2, none⟩ x2).setCell ⟨b, 3, none⟩ x3) b t [x0, x1, x2, x3] := by
 have h4 := (((h.put 0 x0).put 1 x1).put 2 x2).put 3 x3
 obtain ⟨y0, y1, y2, y3, rfl⟩ : ∃ y0 y1 y2 y3, vs = [y0, y1, y2, y3] := by
  match vs, hl with
  | [y0, y1, y2, y3], _ => exact ⟨y0, y1, y2, y3, rfl⟩
 exact h4
def SpW (w : World) (W : World) (cs : List Value) (d : MDisk) : Prop :=
 Bw W (w.heap.size + 1 + 1) 25 cs ∧ rDisk W.heap.size W cs d ∧ Bw W (w.heap.size + 1) 25 [.slice none 0 0, .slice none 0 0, .slice none 0 0, .int .i64 0] ∧ Below w.heap.size w W
theorem SpW.step {w W W' : World} {cs : List Value} {d d' : MDisk} {x0 x1 x2 x3 : Value} (h : SpW w W cs d) (hl : cs.length = 4) (hx : Below W.heap.size W W') (hr : rDisk W'.heap.size W' [x0, x1, x2, x3] d') :
  SpW w ((((W'.setCell ⟨w.heap.size + 1 + 1, 0, none⟩ x0).setCell ⟨w.heap.size + 1 + 1, 1, none⟩ x1).setCell ⟨w.heap.size + 1 + 1, 2, none⟩ x2).setCell ⟨w.heap.size + 1 + 1, 3, none⟩ x3) [x0, x1, x2, x3] d' := by
 obtain ⟨h1, h2, h3, h4⟩ := h
 have hT := turn4 W' (w.heap.size + 1 + 1) x0 x1 x2 x3
 have hb := bthen h4 hx
 have hz : ((((W'.setCell ⟨w.heap.size + 1 + 1, 0, none⟩ x0).setCell ⟨w.heap.size + 1 + 1, 1, none⟩ x1).setCell ⟨w.heap.size + 1 + 1, 2, none⟩ x2).setCell ⟨w.heap.size + 1 + 1, 3, none⟩ x3).heap.size = W'.heap.size := by simp
 refine ⟨(h1.under hx).put4 hl x0 x1 x2 x3, ?_, (h3.under hx).turn hT (by simp), hb.trans (hT.below (fun k hk => by simp at hk; omega) hb.size)⟩
 rw [hz]
 exact rDisk_turn ((h1.under hx).dbox h2) hT hr
set_option maxHeartbeats 8000000 in
theorem l6Put_any (cs : List Value) (m : MDisk) (t s : ByteArray) (vb : Value) (zb : List Int) (w : World) (hr : rDisk w.heap.size w cs m) (hw : wDisk m ≤ 1048576) (hs : t.size ≤ 1048576) (hvb : rdB w.heap.size w vb zb) (hzb : zb.length ≤ 1048576) :
  Calls Tryz.prog 33 #[.agg cs.toArray, .string t, vb] w fun e w' => ∃ cs' : List Value, e = .returned (.tuple #[.agg cs'.toArray, .int .i64 (putR m t zb s).2]) ∧ rDisk w'.heap.size w' cs' (putR m t zb s).1 ∧ Below w.heap.size w w' := by
 have hq := hr
 obtain ⟨a0, c0, a1, c1, a2, c2, rfl, hI, hNm, hSf, hnx, _⟩ := hq
 have hlN : m.fNames.length ≤ 1048576 := by rw [wDisk_eq] at hw; omega
 obtain ⟨ab, cb, rfl, hlb⟩ := hvb
 have HVB : Hid (rdB w.heap.size w (.slice ab zb.length cb) zb) := ⟨ab, cb, rfl, hlb⟩
 have HW := Hid.mk hw
 have HR := Hid.mk hr
 have HNM := Hid.mk hNm
 have HST := Hid.mk (putR_steps m t zb s)
 clear hr hI hNm hSf hw hlb
 obtain ⟨wq, hwq⟩ : ∃ wq, wq = ((w.alloc (.cells #[.slice a0 m.fInodes.length c0, .slice a1 m.fNames.length c1, .slice a2 m.fSafe.length c2, .int .i64 m.fNext] 25)).alloc (.cells #[.slice none 0 0, .slice none 0 0, .slice none 0 0, .int .i64 0] 25)).alloc (.cells #[.slice a0 m.fInodes.length c0, .slice a1 m.fNames.length c1, .slice a2 m.fSafe.length c2, .int .i64 m.fNext] 25) := ⟨_, rfl⟩
 have hzq : wq.heap.size = w.heap.size + 3 := by rw [hwq]; simp
 have hbW : Below w.heap.size w wq := by rw [hwq]; exact (((Below.refl _ _).alloc (Nat.le_refl _) _).alloc (by simp) _).alloc (by simp; omega) _
 have hbo : Bw wq (w.heap.size + 1 + 1) 25 [.slice a0 m.fInodes.length c0, .slice a1 m.fNames.length c1, .slice a2 m.fSafe.length c2, .int .i64 m.fNext] := by rw [hwq]; exact Bw.new' _ _ _ (by simp)
 have hbr : Bw wq (w.heap.size + 1) 25 [.slice none 0 0, .slice none 0 0, .slice none 0 0, .int .i64 0] := by rw [hwq]; exact (Bw.new' _ _ _ (by simp)).alloc _
 have hS0 : SpW w wq [.slice a0 m.fInodes.length c0, .slice a1 m.fNames.length c1, .slice a2 m.fSafe.length c2, .int .i64 m.fNext] m := ⟨hbo, rDisk_good.mono (rDisk_good.below HR.out hbW) hbW.size, hbr, hbW⟩
 go_enter Tryz.func33, Tryz.ntmps33
 go_wp2_with fail
 rw [← hwq]
 clear hwq
 refine (l2At_any a1 m.fNames.length c1 m.fNames t wq wq.heap.size rfl (by omega) (LeafL.mono rEntry_good (HNM.out.below rEntry_good hbW) hbW.size).2.2).mono ?_
 rintro e w0 ⟨rfl, hw0⟩
 have hw0' := hw0.symm
 clear hw0
 subst hw0'
 obtain ⟨mr, hmr⟩ : ∃ mr, mr = removeP m t := ⟨_, rfl⟩
 have hwr : wDisk mr ≤ 1048576 := by rw [hmr]; exact small_remove HW.out
 have HREM := Hid.mk hmr
 rw [← hmr] at HST
 clear hmr
 obtain ⟨x0, x1, x2, x3⟩ := hbo.c4
 obtain ⟨f0, f1, f2, f3⟩ := hbo.f4
 have hlo := hbo.lt
 by_cases hH : hasName m.fNames t = true
 ·have hz : 0 ≤ nameZ m.fNames t := by unfold nameZ; rw [if_pos hH]; omega
  have hz9 : nameZ m.fNames t ≤ 1048576 := by unfold nameZ; rw [if_pos hH]; have := (hasName_at hH).1; omega
  generalize nameZ m.fNames t = nz at *
  go_wp2_with fail
  refine (specRemove_c _ m t wq (rDisk_good.mono (rDisk_good.below HR.out hbW) hbW.size) (by omega) HW.out hs).mono ?_
  rw [← HREM.out]
  rintro e w1 ⟨cs1, rfl, hr1, hx1⟩
  have hq1 := hr1
  obtain ⟨q0, qp0, q1, qp1, q2, qp2, rfl, _⟩ := hq1
  have hb1 := hbo.under hx1
  have HS1 := Hid.mk (hS0.step rfl hx1 hr1)
  obtain ⟨y0, g0, y1, g1, y2, g2, y3, g3⟩ := hb1.c8
  have hl1 := hb1.lt
  clear x0 x1 x2 x3 f0 f1 f2 f3 hlo hbo hbr hS0 hb1 hr1
  obtain ⟨w2, hw2⟩ : ∃ w2, w2 = ((((w1.setCell ⟨w.heap.size + 1 + 1, 0, none⟩ (.slice q0 mr.fInodes.length qp0)).setCell ⟨w.heap.size + 1 + 1, 1, none⟩ (.slice q1 mr.fNames.length qp1)).setCell ⟨w.heap.size + 1 + 1, 2, none⟩ (.slice q2 mr.fSafe.length qp2)).setCell ⟨w.heap.size + 1 + 1, 3, none⟩ (.int .i64 mr.fNext)) := ⟨_, rfl⟩
  rw [← hw2] at HS1
  have HS := Hid.mk HS1.out
  clear HS1
  go_wp2_with fail
  rw [← hw2]
  clear hw2 y0 y1 y2 y3 g0 g1 g2 g3 hl1 hx1
  have hsm := hwr
  have hBw := HS.out.2.2.2
  refine (specCreate_c _ mr t w2 HS.out.2.1 (by omega) hsm hs).mono ?_
  have hsm2 := small_create (s := t) hsm
  obtain ⟨d4, hd4⟩ : ∃ x, x = createP mr t := ⟨_, rfl⟩
  obtain ⟨k4, hk4⟩ : ∃ x, x = createC mr t := ⟨_, rfl⟩
  rw [← hd4] at hsm2 HST ⊢
  rw [← hk4] at HST ⊢
  clear hd4 hk4 hsm
  rintro e u0 ⟨cs3, rfl, hr3, hx3⟩
  obtain ⟨z0, zp0, z1, zp1, z2, zp2, rfl, _⟩ := id hr3
  have hb3 := HS.out.1.under hx3
  have hrr := HS.out.2.2.1.under hx3
  have v0 := hb3.cell 0 _ rfl
  have g0 := hb3.free 0
  have rc0 := hrr.cell 0 _ rfl
  have rf0 := hrr.free 0
  have v1 := hb3.cell 1 _ rfl
  have g1 := hb3.free 1
  have rc1 := hrr.cell 1 _ rfl
  have rf1 := hrr.free 1
  have v2 := hb3.cell 2 _ rfl
  have g2 := hb3.free 2
  have rc2 := hrr.cell 2 _ rfl
  have rf2 := hrr.free 2
  have v3 := hb3.cell 3 _ rfl
  have g3 := hb3.free 3
  have rc3 := hrr.cell 3 _ rfl
  have rf3 := hrr.free 3
  have hl3 := hb3.lt
  have hlr := hrr.lt
  have HS3 := Hid.mk (HS.out.step rfl hx3 hr3)
  obtain ⟨w4, hw4⟩ : ∃ x, x = ((((u0.setCell ⟨w.heap.size + 1 + 1, 0, none⟩ (.slice z0 d4.fInodes.length zp0)).setCell ⟨w.heap.size + 1 + 1, 1, none⟩ (.slice z1 d4.fNames.length zp1)).setCell ⟨w.heap.size + 1 + 1, 2, none⟩ (.slice z2 d4.fSafe.length zp2)).setCell ⟨w.heap.size + 1 + 1, 3, none⟩ (.int .i64 d4.fNext)) := ⟨_, rfl⟩
  rw [← hw4] at HS3
  clear hr3 hb3 hrr HS hBw
  have HS := Hid.mk HS3.out
  clear HS3
  have hsm := hsm2
  clear hsm2
  by_cases hck4 : k4 = 0
  rotate_left
  ·have hcd : decide (k4 = 0) = false := decide_eq_false hck4
   have HRES := Hid.mk (HST.out.1 hck4)
   have hT := turn4 w4 (w.heap.size + 1) (.slice z0 d4.fInodes.length zp0) (.slice z1 d4.fNames.length zp1) (.slice z2 d4.fSafe.length zp2) (.int .i64 d4.fNext)
   have HB : Hid (Below w.heap.size w ((((w4.setCell ⟨w.heap.size + 1, 0, none⟩ (.slice z0 d4.fInodes.length zp0)).setCell ⟨w.heap.size + 1, 1, none⟩ (.slice z1 d4.fNames.length zp1)).setCell ⟨w.heap.size + 1, 2, none⟩ (.slice z2 d4.fSafe.length zp2)).setCell ⟨w.heap.size + 1, 3, none⟩ (.int .i64 d4.fNext))) := HS.out.2.2.2.trans (hT.below (fun k hk => by simp at hk; omega) HS.out.2.2.2.size)
   have HO : Hid (rDisk ((((w4.setCell ⟨w.heap.size + 1, 0, none⟩ (.slice z0 d4.fInodes.length zp0)).setCell ⟨w.heap.size + 1, 1, none⟩ (.slice z1 d4.fNames.length zp1)).setCell ⟨w.heap.size + 1, 2, none⟩ (.slice z2 d4.fSafe.length zp2)).setCell ⟨w.heap.size + 1, 3, none⟩ (.int .i64 d4.fNext)).heap.size ((((w4.setCell ⟨w.heap.size + 1, 0, none⟩ (.slice z0 d4.fInodes.length zp0)).setCell ⟨w.heap.size + 1, 1, none⟩ (.slice z1 d4.fNames.length zp1)).setCell ⟨w.heap.size + 1, 2, none⟩ (.slice z2 d4.fSafe.length zp2)).setCell ⟨w.heap.size + 1, 3, none⟩ (.int .i64 d4.fNext)) [.slice z0 d4.fInodes.length zp0, .slice z1 d4.fNames.length zp1, .slice z2 d4.fSafe.length zp2, .int .i64 d4.fNext] d4) := by
    have h := rDisk_turn HS.out.2.2.1.dzero hT HS.out.2.1
    have hz : ((((w4.setCell ⟨w.heap.size + 1, 0, none⟩ (.slice z0 d4.fInodes.length zp0)).setCell ⟨w.heap.size + 1, 1, none⟩ (.slice z1 d4.fNames.length zp1)).setCell ⟨w.heap.size + 1, 2, none⟩ (.slice z2 d4.fSafe.length zp2)).setCell ⟨w.heap.size + 1, 3, none⟩ (.int .i64 d4.fNext)).heap.size = w4.heap.size := by simp
    unfold Hid
    rw [hz]
    exact h
   clear hT
   rw [hw4] at HO HB
   go_wp2_with fail
   all_goals exact bodyPost_ret (v := .tuple #[.agg #[.slice z0 d4.fInodes.length zp0, .slice z1 d4.fNames.length zp1, .slice z2 d4.fSafe.length zp2, .int .i64 d4.fNext], .int .i64 k4]) (by simp [results, Tryz.results33, go_sem, *]) rfl ⟨[.slice z0 d4.fInodes.length zp0, .slice z1 d4.fNames.length zp1, .slice z2 d4.fSafe.length zp2, .int .i64 d4.fNext], by rw [HRES.out], by rw [HRES.out]; exact HO.out, HB.out⟩
  subst hck4
  go_wp2_with fail
  rw [← hw4]
  clear hw4 v0 v1 v2 v3 g0 g1 g2 g3 rc0 rc1 rc2 rc3 rf0 rf1 rf2 rf3 hl3 hlr hx3
  have hBw := HS.out.2.2.2
  refine (specAppend_b _ d4 t (.slice ab zb.length cb) zb w4 HS.out.2.1 (by omega) ((HVB.out.below hBw).mono hBw.size) hsm hs (by omega)).mono ?_
  have hsm2 := small_append (s := t) (b := zb) hsm
  obtain ⟨d5, hd5⟩ : ∃ x, x = appendP d4 t zb := ⟨_, rfl⟩
  obtain ⟨k5, hk5⟩ : ∃ x, x = appendC d4 t zb := ⟨_, rfl⟩
  rw [← hd5] at hsm2 HST ⊢
  rw [← hk5] at HST ⊢
  clear hd5 hk5 hsm
  rintro e u1 ⟨cs4, rfl, hr3, hx3⟩
  obtain ⟨y0, yp0, y1, yp1, y2, yp2, rfl, _⟩ := id hr3
  have hb3 := HS.out.1.under hx3
  have hrr := HS.out.2.2.1.under hx3
  have v0 := hb3.cell 0 _ rfl
  have g0 := hb3.free 0
  have rc0 := hrr.cell 0 _ rfl
  have rf0 := hrr.free 0
  have v1 := hb3.cell 1 _ rfl
  have g1 := hb3.free 1
  have rc1 := hrr.cell 1 _ rfl
  have rf1 := hrr.free 1
  have v2 := hb3.cell 2 _ rfl
  have g2 := hb3.free 2
  have rc2 := hrr.cell 2 _ rfl
  have rf2 := hrr.free 2
  have v3 := hb3.cell 3 _ rfl
  have g3 := hb3.free 3
  have rc3 := hrr.cell 3 _ rfl
  have rf3 := hrr.free 3
  have hl3 := hb3.lt
  have hlr := hrr.lt
  have HS3 := Hid.mk (HS.out.step rfl hx3 hr3)
  obtain ⟨w5, hw5⟩ : ∃ x, x = ((((u1.setCell ⟨w.heap.size + 1 + 1, 0, none⟩ (.slice y0 d5.fInodes.length yp0)).setCell ⟨w.heap.size + 1 + 1, 1, none⟩ (.slice y1 d5.fNames.length yp1)).setCell ⟨w.heap.size + 1 + 1, 2, none⟩ (.slice y2 d5.fSafe.length yp2)).setCell ⟨w.heap.size + 1 + 1, 3, none⟩ (.int .i64 d5.fNext)) := ⟨_, rfl⟩
  rw [← hw5] at HS3
  clear hr3 hb3 hrr HS hBw
  have HS := Hid.mk HS3.out
  clear HS3
  have hsm := hsm2
  clear hsm2
  by_cases hck5 : k5 = 0
  rotate_left
  ·have hcd : decide (k5 = 0) = false := decide_eq_false hck5
   have HRES := Hid.mk (HST.out.2.1 (by simp) hck5)
   have hT := turn4 w5 (w.heap.size + 1) (.slice y0 d5.fInodes.length yp0) (.slice y1 d5.fNames.length yp1) (.slice y2 d5.fSafe.length yp2) (.int .i64 d5.fNext)
   have HB : Hid (Below w.heap.size w ((((w5.setCell ⟨w.heap.size + 1, 0, none⟩ (.slice y0 d5.fInodes.length yp0)).setCell ⟨w.heap.size + 1, 1, none⟩ (.slice y1 d5.fNames.length yp1)).setCell ⟨w.heap.size + 1, 2, none⟩ (.slice y2 d5.fSafe.length yp2)).setCell ⟨w.heap.size + 1, 3, none⟩ (.int .i64 d5.fNext))) := HS.out.2.2.2.trans (hT.below (fun k hk => by simp at hk; omega) HS.out.2.2.2.size)
   have HO : Hid (rDisk ((((w5.setCell ⟨w.heap.size + 1, 0, none⟩ (.slice y0 d5.fInodes.length yp0)).setCell ⟨w.heap.size + 1, 1, none⟩ (.slice y1 d5.fNames.length yp1)).setCell ⟨w.heap.size + 1, 2, none⟩ (.slice y2 d5.fSafe.length yp2)).setCell ⟨w.heap.size + 1, 3, none⟩ (.int .i64 d5.fNext)).heap.size ((((w5.setCell ⟨w.heap.size + 1, 0, none⟩ (.slice y0 d5.fInodes.length yp0)).setCell ⟨w.heap.size + 1, 1, none⟩ (.slice y1 d5.fNames.length yp1)).setCell ⟨w.heap.size + 1, 2, none⟩ (.slice y2 d5.fSafe.length yp2)).setCell ⟨w.heap.size + 1, 3, none⟩ (.int .i64 d5.fNext)) [.slice y0 d5.fInodes.length yp0, .slice y1 d5.fNames.length yp1, .slice y2 d5.fSafe.length yp2, .int .i64 d5.fNext] d5) := by
    have h := rDisk_turn HS.out.2.2.1.dzero hT HS.out.2.1
    have hz : ((((w5.setCell ⟨w.heap.size + 1, 0, none⟩ (.slice y0 d5.fInodes.length yp0)).setCell ⟨w.heap.size + 1, 1, none⟩ (.slice y1 d5.fNames.length yp1)).setCell ⟨w.heap.size + 1, 2, none⟩ (.slice y2 d5.fSafe.length yp2)).setCell ⟨w.heap.size + 1, 3, none⟩ (.int .i64 d5.fNext)).heap.size = w5.heap.size := by simp
    unfold Hid
    rw [hz]
    exact h
   clear hT
   rw [hw5] at HO HB
   go_wp2_with fail
   all_goals exact bodyPost_ret (v := .tuple #[.agg #[.slice y0 d5.fInodes.length yp0, .slice y1 d5.fNames.length yp1, .slice y2 d5.fSafe.length yp2, .int .i64 d5.fNext], .int .i64 k5]) (by simp [results, Tryz.results33, go_sem, *]) rfl ⟨[.slice y0 d5.fInodes.length yp0, .slice y1 d5.fNames.length yp1, .slice y2 d5.fSafe.length yp2, .int .i64 d5.fNext], by rw [HRES.out], by rw [HRES.out]; exact HO.out, HB.out⟩
  subst hck5
  go_wp2_with fail
  rw [← hw5]
  clear hw5 v0 v1 v2 v3 g0 g1 g2 g3 rc0 rc1 rc2 rc3 rf0 rf1 rf2 rf3 hl3 hlr hx3
  have hBw := HS.out.2.2.2
  refine (specSync_c _ d5 t w5 HS.out.2.1 (by omega) hsm hs).mono ?_
  have hsm2 := small_sync (s := t) hsm
  obtain ⟨d6, hd6⟩ : ∃ x, x = syncP d5 t := ⟨_, rfl⟩
  obtain ⟨k6, hk6⟩ : ∃ x, x = callP d5 t := ⟨_, rfl⟩
  rw [← hd6] at hsm2 HST ⊢
  rw [← hk6] at HST ⊢
  clear hd6 hk6 hsm
  rintro e u2 ⟨cs5, rfl, hr3, hx3⟩
  obtain ⟨x0, xp0, x1, xp1, x2, xp2, rfl, _⟩ := id hr3
  have hb3 := HS.out.1.under hx3
  have hrr := HS.out.2.2.1.under hx3
  have v0 := hb3.cell 0 _ rfl
  have g0 := hb3.free 0
  have rc0 := hrr.cell 0 _ rfl
  have rf0 := hrr.free 0
  have v1 := hb3.cell 1 _ rfl
  have g1 := hb3.free 1
  have rc1 := hrr.cell 1 _ rfl
  have rf1 := hrr.free 1
  have v2 := hb3.cell 2 _ rfl
  have g2 := hb3.free 2
  have rc2 := hrr.cell 2 _ rfl
  have rf2 := hrr.free 2
  have v3 := hb3.cell 3 _ rfl
  have g3 := hb3.free 3
  have rc3 := hrr.cell 3 _ rfl
  have rf3 := hrr.free 3
  have hl3 := hb3.lt
  have hlr := hrr.lt
  have HS3 := Hid.mk (HS.out.step rfl hx3 hr3)
  obtain ⟨w6, hw6⟩ : ∃ x, x = ((((u2.setCell ⟨w.heap.size + 1 + 1, 0, none⟩ (.slice x0 d6.fInodes.length xp0)).setCell ⟨w.heap.size + 1 + 1, 1, none⟩ (.slice x1 d6.fNames.length xp1)).setCell ⟨w.heap.size + 1 + 1, 2, none⟩ (.slice x2 d6.fSafe.length xp2)).setCell ⟨w.heap.size + 1 + 1, 3, none⟩ (.int .i64 d6.fNext)) := ⟨_, rfl⟩
  rw [← hw6] at HS3
  clear hr3 hb3 hrr HS hBw
  have HS := Hid.mk HS3.out
  clear HS3
  have hsm := hsm2
  clear hsm2
  have HRES := Hid.mk (HST.out.2.2 (by simp) (by simp))
  have hT := turn4 w6 (w.heap.size + 1) (.slice x0 d6.fInodes.length xp0) (.slice x1 d6.fNames.length xp1) (.slice x2 d6.fSafe.length xp2) (.int .i64 d6.fNext)
  have HB : Hid (Below w.heap.size w ((((w6.setCell ⟨w.heap.size + 1, 0, none⟩ (.slice x0 d6.fInodes.length xp0)).setCell ⟨w.heap.size + 1, 1, none⟩ (.slice x1 d6.fNames.length xp1)).setCell ⟨w.heap.size + 1, 2, none⟩ (.slice x2 d6.fSafe.length xp2)).setCell ⟨w.heap.size + 1, 3, none⟩ (.int .i64 d6.fNext))) := HS.out.2.2.2.trans (hT.below (fun k hk => by simp at hk; omega) HS.out.2.2.2.size)
  have HO : Hid (rDisk ((((w6.setCell ⟨w.heap.size + 1, 0, none⟩ (.slice x0 d6.fInodes.length xp0)).setCell ⟨w.heap.size + 1, 1, none⟩ (.slice x1 d6.fNames.length xp1)).setCell ⟨w.heap.size + 1, 2, none⟩ (.slice x2 d6.fSafe.length xp2)).setCell ⟨w.heap.size + 1, 3, none⟩ (.int .i64 d6.fNext)).heap.size ((((w6.setCell ⟨w.heap.size + 1, 0, none⟩ (.slice x0 d6.fInodes.length xp0)).setCell ⟨w.heap.size + 1, 1, none⟩ (.slice x1 d6.fNames.length xp1)).setCell ⟨w.heap.size + 1, 2, none⟩ (.slice x2 d6.fSafe.length xp2)).setCell ⟨w.heap.size + 1, 3, none⟩ (.int .i64 d6.fNext)) [.slice x0 d6.fInodes.length xp0, .slice x1 d6.fNames.length xp1, .slice x2 d6.fSafe.length xp2, .int .i64 d6.fNext] d6) := by
   have h := rDisk_turn HS.out.2.2.1.dzero hT HS.out.2.1
   have hz : ((((w6.setCell ⟨w.heap.size + 1, 0, none⟩ (.slice x0 d6.fInodes.length xp0)).setCell ⟨w.heap.size + 1, 1, none⟩ (.slice x1 d6.fNames.length xp1)).setCell ⟨w.heap.size + 1, 2, none⟩ (.slice x2 d6.fSafe.length xp2)).setCell ⟨w.heap.size + 1, 3, none⟩ (.int .i64 d6.fNext)).heap.size = w6.heap.size := by simp
   unfold Hid
   rw [hz]
   exact h
  clear hT
  rw [hw6] at HO HB
  go_wp2_with fail
  all_goals exact bodyPost_ret (v := .tuple #[.agg #[.slice x0 d6.fInodes.length xp0, .slice x1 d6.fNames.length xp1, .slice x2 d6.fSafe.length xp2, .int .i64 d6.fNext], .int .i64 k6]) (by simp [results, Tryz.results33, go_sem, *]) rfl ⟨[.slice x0 d6.fInodes.length xp0, .slice x1 d6.fNames.length xp1, .slice x2 d6.fSafe.length xp2, .int .i64 d6.fNext], by rw [HRES.out], by rw [HRES.out]; exact HO.out, HB.out⟩
 ·have hz : nameZ m.fNames t = -1 := by unfold nameZ; rw [if_neg hH]
  have hmm : mr = m := by rw [HREM.out]; exact remove_none (Bool.eq_false_iff.2 hH)
  have HS0 := Hid.mk hS0
  rw [hz]
  clear hz hS0 hH HREM
  subst hmm
  go_wp2_with fail
  obtain ⟨w2, hw2⟩ : ∃ w2, w2 = wq := ⟨_, rfl⟩
  have HS := Hid.mk HS0.out
  rw [← hw2] at HS ⊢
  clear hw2 x0 x1 x2 x3 f0 f1 f2 f3 hlo hbo hbr HS0
  have hsm := hwr
  have hBw := HS.out.2.2.2
  refine (specCreate_c _ mr t w2 HS.out.2.1 (by omega) hsm hs).mono ?_
  have hsm2 := small_create (s := t) hsm
  obtain ⟨d4, hd4⟩ : ∃ x, x = createP mr t := ⟨_, rfl⟩
  obtain ⟨k4, hk4⟩ : ∃ x, x = createC mr t := ⟨_, rfl⟩
  rw [← hd4] at hsm2 HST ⊢
  rw [← hk4] at HST ⊢
  clear hd4 hk4 hsm
  rintro e u0 ⟨cs3, rfl, hr3, hx3⟩
  obtain ⟨z0, zp0, z1, zp1, z2, zp2, rfl, _⟩ := id hr3
  have hb3 := HS.out.1.under hx3
  have hrr := HS.out.2.2.1.under hx3
  have v0 := hb3.cell 0 _ rfl
  have g0 := hb3.free 0
  have rc0 := hrr.cell 0 _ rfl
  have rf0 := hrr.free 0
  have v1 := hb3.cell 1 _ rfl
  have g1 := hb3.free 1
  have rc1 := hrr.cell 1 _ rfl
  have rf1 := hrr.free 1
  have v2 := hb3.cell 2 _ rfl
  have g2 := hb3.free 2
  have rc2 := hrr.cell 2 _ rfl
  have rf2 := hrr.free 2
  have v3 := hb3.cell 3 _ rfl
  have g3 := hb3.free 3
  have rc3 := hrr.cell 3 _ rfl
  have rf3 := hrr.free 3
  have hl3 := hb3.lt
  have hlr := hrr.lt
  have HS3 := Hid.mk (HS.out.step rfl hx3 hr3)
  obtain ⟨w4, hw4⟩ : ∃ x, x = ((((u0.setCell ⟨w.heap.size + 1 + 1, 0, none⟩ (.slice z0 d4.fInodes.length zp0)).setCell ⟨w.heap.size + 1 + 1, 1, none⟩ (.slice z1 d4.fNames.length zp1)).setCell ⟨w.heap.size + 1 + 1, 2, none⟩ (.slice z2 d4.fSafe.length zp2)).setCell ⟨w.heap.size + 1 + 1, 3, none⟩ (.int .i64 d4.fNext)) := ⟨_, rfl⟩
  rw [← hw4] at HS3
  clear hr3 hb3 hrr HS hBw
  have HS := Hid.mk HS3.out
  clear HS3
  have hsm := hsm2
  clear hsm2
  by_cases hck4 : k4 = 0
  rotate_left
  ·have hcd : decide (k4 = 0) = false := decide_eq_false hck4
   have HRES := Hid.mk (HST.out.1 hck4)
   have hT := turn4 w4 (w.heap.size + 1) (.slice z0 d4.fInodes.length zp0) (.slice z1 d4.fNames.length zp1) (.slice z2 d4.fSafe.length zp2) (.int .i64 d4.fNext)
   have HB : Hid (Below w.heap.size w ((((w4.setCell ⟨w.heap.size + 1, 0, none⟩ (.slice z0 d4.fInodes.length zp0)).setCell ⟨w.heap.size + 1, 1, none⟩ (.slice z1 d4.fNames.length zp1)).setCell ⟨w.heap.size + 1, 2, none⟩ (.slice z2 d4.fSafe.length zp2)).setCell ⟨w.heap.size + 1, 3, none⟩ (.int .i64 d4.fNext))) := HS.out.2.2.2.trans (hT.below (fun k hk => by simp at hk; omega) HS.out.2.2.2.size)
   have HO : Hid (rDisk ((((w4.setCell ⟨w.heap.size + 1, 0, none⟩ (.slice z0 d4.fInodes.length zp0)).setCell ⟨w.heap.size + 1, 1, none⟩ (.slice z1 d4.fNames.length zp1)).setCell ⟨w.heap.size + 1, 2, none⟩ (.slice z2 d4.fSafe.length zp2)).setCell ⟨w.heap.size + 1, 3, none⟩ (.int .i64 d4.fNext)).heap.size ((((w4.setCell ⟨w.heap.size + 1, 0, none⟩ (.slice z0 d4.fInodes.length zp0)).setCell ⟨w.heap.size + 1, 1, none⟩ (.slice z1 d4.fNames.length zp1)).setCell ⟨w.heap.size + 1, 2, none⟩ (.slice z2 d4.fSafe.length zp2)).setCell ⟨w.heap.size + 1, 3, none⟩ (.int .i64 d4.fNext)) [.slice z0 d4.fInodes.length zp0, .slice z1 d4.fNames.length zp1, .slice z2 d4.fSafe.length zp2, .int .i64 d4.fNext] d4) := by
    have h := rDisk_turn HS.out.2.2.1.dzero hT HS.out.2.1
    have hz : ((((w4.setCell ⟨w.heap.size + 1, 0, none⟩ (.slice z0 d4.fInodes.length zp0)).setCell ⟨w.heap.size + 1, 1, none⟩ (.slice z1 d4.fNames.length zp1)).setCell ⟨w.heap.size + 1, 2, none⟩ (.slice z2 d4.fSafe.length zp2)).setCell ⟨w.heap.size + 1, 3, none⟩ (.int .i64 d4.fNext)).heap.size = w4.heap.size := by simp
    unfold Hid
    rw [hz]
    exact h
   clear hT
   rw [hw4] at HO HB
   go_wp2_with fail
   all_goals exact bodyPost_ret (v := .tuple #[.agg #[.slice z0 d4.fInodes.length zp0, .slice z1 d4.fNames.length zp1, .slice z2 d4.fSafe.length zp2, .int .i64 d4.fNext], .int .i64 k4]) (by simp [results, Tryz.results33, go_sem, *]) rfl ⟨[.slice z0 d4.fInodes.length zp0, .slice z1 d4.fNames.length zp1, .slice z2 d4.fSafe.length zp2, .int .i64 d4.fNext], by rw [HRES.out], by rw [HRES.out]; exact HO.out, HB.out⟩
  subst hck4
  go_wp2_with fail
  rw [← hw4]
  clear hw4 v0 v1 v2 v3 g0 g1 g2 g3 rc0 rc1 rc2 rc3 rf0 rf1 rf2 rf3 hl3 hlr hx3
  have hBw := HS.out.2.2.2
  refine (specAppend_b _ d4 t (.slice ab zb.length cb) zb w4 HS.out.2.1 (by omega) ((HVB.out.below hBw).mono hBw.size) hsm hs (by omega)).mono ?_
  have hsm2 := small_append (s := t) (b := zb) hsm
  obtain ⟨d5, hd5⟩ : ∃ x, x = appendP d4 t zb := ⟨_, rfl⟩
  obtain ⟨k5, hk5⟩ : ∃ x, x = appendC d4 t zb := ⟨_, rfl⟩
  rw [← hd5] at hsm2 HST ⊢
  rw [← hk5] at HST ⊢
  clear hd5 hk5 hsm
  rintro e u1 ⟨cs4, rfl, hr3, hx3⟩
  obtain ⟨y0, yp0, y1, yp1, y2, yp2, rfl, _⟩ := id hr3
  have hb3 := HS.out.1.under hx3
  have hrr := HS.out.2.2.1.under hx3
  have v0 := hb3.cell 0 _ rfl
  have g0 := hb3.free 0
  have rc0 := hrr.cell 0 _ rfl
  have rf0 := hrr.free 0
  have v1 := hb3.cell 1 _ rfl
  have g1 := hb3.free 1
  have rc1 := hrr.cell 1 _ rfl
  have rf1 := hrr.free 1
  have v2 := hb3.cell 2 _ rfl
  have g2 := hb3.free 2
  have rc2 := hrr.cell 2 _ rfl
  have rf2 := hrr.free 2
  have v3 := hb3.cell 3 _ rfl
  have g3 := hb3.free 3
  have rc3 := hrr.cell 3 _ rfl
  have rf3 := hrr.free 3
  have hl3 := hb3.lt
  have hlr := hrr.lt
  have HS3 := Hid.mk (HS.out.step rfl hx3 hr3)
  obtain ⟨w5, hw5⟩ : ∃ x, x = ((((u1.setCell ⟨w.heap.size + 1 + 1, 0, none⟩ (.slice y0 d5.fInodes.length yp0)).setCell ⟨w.heap.size + 1 + 1, 1, none⟩ (.slice y1 d5.fNames.length yp1)).setCell ⟨w.heap.size + 1 + 1, 2, none⟩ (.slice y2 d5.fSafe.length yp2)).setCell ⟨w.heap.size + 1 + 1, 3, none⟩ (.int .i64 d5.fNext)) := ⟨_, rfl⟩
  rw [← hw5] at HS3
  clear hr3 hb3 hrr HS hBw
  have HS := Hid.mk HS3.out
  clear HS3
  have hsm := hsm2
  clear hsm2
  by_cases hck5 : k5 = 0
  rotate_left
  ·have hcd : decide (k5 = 0) = false := decide_eq_false hck5
   have HRES := Hid.mk (HST.out.2.1 (by simp) hck5)
   have hT := turn4 w5 (w.heap.size + 1) (.slice y0 d5.fInodes.length yp0) (.slice y1 d5.fNames.length yp1) (.slice y2 d5.fSafe.length yp2) (.int .i64 d5.fNext)
   have HB : Hid (Below w.heap.size w ((((w5.setCell ⟨w.heap.size + 1, 0, none⟩ (.slice y0 d5.fInodes.length yp0)).setCell ⟨w.heap.size + 1, 1, none⟩ (.slice y1 d5.fNames.length yp1)).setCell ⟨w.heap.size + 1, 2, none⟩ (.slice y2 d5.fSafe.length yp2)).setCell ⟨w.heap.size + 1, 3, none⟩ (.int .i64 d5.fNext))) := HS.out.2.2.2.trans (hT.below (fun k hk => by simp at hk; omega) HS.out.2.2.2.size)
   have HO : Hid (rDisk ((((w5.setCell ⟨w.heap.size + 1, 0, none⟩ (.slice y0 d5.fInodes.length yp0)).setCell ⟨w.heap.size + 1, 1, none⟩ (.slice y1 d5.fNames.length yp1)).setCell ⟨w.heap.size + 1, 2, none⟩ (.slice y2 d5.fSafe.length yp2)).setCell ⟨w.heap.size + 1, 3, none⟩ (.int .i64 d5.fNext)).heap.size ((((w5.setCell ⟨w.heap.size + 1, 0, none⟩ (.slice y0 d5.fInodes.length yp0)).setCell ⟨w.heap.size + 1, 1, none⟩ (.slice y1 d5.fNames.length yp1)).setCell ⟨w.heap.size + 1, 2, none⟩ (.slice y2 d5.fSafe.length yp2)).setCell ⟨w.heap.size + 1, 3, none⟩ (.int .i64 d5.fNext)) [.slice y0 d5.fInodes.length yp0, .slice y1 d5.fNames.length yp1, .slice y2 d5.fSafe.length yp2, .int .i64 d5.fNext] d5) := by
    have h := rDisk_turn HS.out.2.2.1.dzero hT HS.out.2.1
    have hz : ((((w5.setCell ⟨w.heap.size + 1, 0, none⟩ (.slice y0 d5.fInodes.length yp0)).setCell ⟨w.heap.size + 1, 1, none⟩ (.slice y1 d5.fNames.length yp1)).setCell ⟨w.heap.size + 1, 2, none⟩ (.slice y2 d5.fSafe.length yp2)).setCell ⟨w.heap.size + 1, 3, none⟩ (.int .i64 d5.fNext)).heap.size = w5.heap.size := by simp
    unfold Hid
    rw [hz]
    exact h
   clear hT
   rw [hw5] at HO HB
   go_wp2_with fail
   all_goals exact bodyPost_ret (v := .tuple #[.agg #[.slice y0 d5.fInodes.length yp0, .slice y1 d5.fNames.length yp1, .slice y2 d5.fSafe.length yp2, .int .i64 d5.fNext], .int .i64 k5]) (by simp [results, Tryz.results33, go_sem, *]) rfl ⟨[.slice y0 d5.fInodes.length yp0, .slice y1 d5.fNames.length yp1, .slice y2 d5.fSafe.length yp2, .int .i64 d5.fNext], by rw [HRES.out], by rw [HRES.out]; exact HO.out, HB.out⟩
  subst hck5
  go_wp2_with fail
  rw [← hw5]
  clear hw5 v0 v1 v2 v3 g0 g1 g2 g3 rc0 rc1 rc2 rc3 rf0 rf1 rf2 rf3 hl3 hlr hx3
  have hBw := HS.out.2.2.2
  refine (specSync_c _ d5 t w5 HS.out.2.1 (by omega) hsm hs).mono ?_
  have hsm2 := small_sync (s := t) hsm
  obtain ⟨d6, hd6⟩ : ∃ x, x = syncP d5 t := ⟨_, rfl⟩
  obtain ⟨k6, hk6⟩ : ∃ x, x = callP d5 t := ⟨_, rfl⟩
  rw [← hd6] at hsm2 HST ⊢
  rw [← hk6] at HST ⊢
  clear hd6 hk6 hsm
  rintro e u2 ⟨cs5, rfl, hr3, hx3⟩
  obtain ⟨x0, xp0, x1, xp1, x2, xp2, rfl, _⟩ := id hr3
  have hb3 := HS.out.1.under hx3
  have hrr := HS.out.2.2.1.under hx3
  have v0 := hb3.cell 0 _ rfl
  have g0 := hb3.free 0
  have rc0 := hrr.cell 0 _ rfl
  have rf0 := hrr.free 0
  have v1 := hb3.cell 1 _ rfl
  have g1 := hb3.free 1
  have rc1 := hrr.cell 1 _ rfl
  have rf1 := hrr.free 1
  have v2 := hb3.cell 2 _ rfl
  have g2 := hb3.free 2
  have rc2 := hrr.cell 2 _ rfl
  have rf2 := hrr.free 2
  have v3 := hb3.cell 3 _ rfl
  have g3 := hb3.free 3
  have rc3 := hrr.cell 3 _ rfl
  have rf3 := hrr.free 3
  have hl3 := hb3.lt
  have hlr := hrr.lt
  have HS3 := Hid.mk (HS.out.step rfl hx3 hr3)
  obtain ⟨w6, hw6⟩ : ∃ x, x = ((((u2.setCell ⟨w.heap.size + 1 + 1, 0, none⟩ (.slice x0 d6.fInodes.length xp0)).setCell ⟨w.heap.size + 1 + 1, 1, none⟩ (.slice x1 d6.fNames.length xp1)).setCell ⟨w.heap.size + 1 + 1, 2, none⟩ (.slice x2 d6.fSafe.length xp2)).setCell ⟨w.heap.size + 1 + 1, 3, none⟩ (.int .i64 d6.fNext)) := ⟨_, rfl⟩
  rw [← hw6] at HS3
  clear hr3 hb3 hrr HS hBw
  have HS := Hid.mk HS3.out
  clear HS3
  have hsm := hsm2
  clear hsm2
  have HRES := Hid.mk (HST.out.2.2 (by simp) (by simp))
  have hT := turn4 w6 (w.heap.size + 1) (.slice x0 d6.fInodes.length xp0) (.slice x1 d6.fNames.length xp1) (.slice x2 d6.fSafe.length xp2) (.int .i64 d6.fNext)
  have HB : Hid (Below w.heap.size w ((((w6.setCell ⟨w.heap.size + 1, 0, none⟩ (.slice x0 d6.fInodes.length xp0)).setCell ⟨w.heap.size + 1, 1, none⟩ (.slice x1 d6.fNames.length xp1)).setCell ⟨w.heap.size + 1, 2, none⟩ (.slice x2 d6.fSafe.length xp2)).setCell ⟨w.heap.size + 1, 3, none⟩ (.int .i64 d6.fNext))) := HS.out.2.2.2.trans (hT.below (fun k hk => by simp at hk; omega) HS.out.2.2.2.size)
  have HO : Hid (rDisk ((((w6.setCell ⟨w.heap.size + 1, 0, none⟩ (.slice x0 d6.fInodes.length xp0)).setCell ⟨w.heap.size + 1, 1, none⟩ (.slice x1 d6.fNames.length xp1)).setCell ⟨w.heap.size + 1, 2, none⟩ (.slice x2 d6.fSafe.length xp2)).setCell ⟨w.heap.size + 1, 3, none⟩ (.int .i64 d6.fNext)).heap.size ((((w6.setCell ⟨w.heap.size + 1, 0, none⟩ (.slice x0 d6.fInodes.length xp0)).setCell ⟨w.heap.size + 1, 1, none⟩ (.slice x1 d6.fNames.length xp1)).setCell ⟨w.heap.size + 1, 2, none⟩ (.slice x2 d6.fSafe.length xp2)).setCell ⟨w.heap.size + 1, 3, none⟩ (.int .i64 d6.fNext)) [.slice x0 d6.fInodes.length xp0, .slice x1 d6.fNames.length xp1, .slice x2 d6.fSafe.length xp2, .int .i64 d6.fNext] d6) := by
   have h := rDisk_turn HS.out.2.2.1.dzero hT HS.out.2.1
   have hz : ((((w6.setCell ⟨w.heap.size + 1, 0, none⟩ (.slice x0 d6.fInodes.length xp0)).setCell ⟨w.heap.size + 1, 1, none⟩ (.slice x1 d6.fNames.length xp1)).setCell ⟨w.heap.size + 1, 2, none⟩ (.slice x2 d6.fSafe.length xp2)).setCell ⟨w.heap.size + 1, 3, none⟩ (.int .i64 d6.fNext)).heap.size = w6.heap.size := by simp
   unfold Hid
   rw [hz]
   exact h
  clear hT
  rw [hw6] at HO HB
  go_wp2_with fail
  all_goals exact bodyPost_ret (v := .tuple #[.agg #[.slice x0 d6.fInodes.length xp0, .slice x1 d6.fNames.length xp1, .slice x2 d6.fSafe.length xp2, .int .i64 d6.fNext], .int .i64 k6]) (by simp [results, Tryz.results33, go_sem, *]) rfl ⟨[.slice x0 d6.fInodes.length xp0, .slice x1 d6.fNames.length xp1, .slice x2 d6.fSafe.length xp2, .int .i64 d6.fNext], by rw [HRES.out], by rw [HRES.out]; exact HO.out, HB.out⟩
end Go.Proofs.YtomlpobbhioflaaGreatDoor
