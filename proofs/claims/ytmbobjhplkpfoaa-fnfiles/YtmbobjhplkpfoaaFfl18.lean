/-
  Part 19 of the texts that the proof leans on.
-/
import Derived.Test.YtmbobjhplkpfoaaFfl12
import Derived.Test.YtmbobjhplkpfoaaFfl17
import Derived.Test.YtmbobjhplkpfoaaFfl15
import Derived.Test.YtmbobjhplkpfoaaFfl1
set_option linter.unusedVariables false
set_option linter.unusedSimpArgs false
set_option maxRecDepth 10000

namespace Go.Proofs.Ytmbobjhplkpfoaa
open Go.RowKit Go.Maps

set_option maxHeartbeats 4000000 in
theorem specRemove_o (cs : List Value) (m : MDisk) (s : ByteArray) (w : World) (hr : rDisk w.heap.size w cs m) (hs : s.size ≤ 9223372036854775807) (hw : wDisk m ≤ 1048576) (hw1 : s.size ≤ 1048576) :
    Calls Try.prog 52 #[.agg cs.toArray, .string s] w fun e w' => ∃ cs' : List Value, e = .returned (.tuple #[.agg cs'.toArray, .int .i64 (callP m s)]) ∧ (∃ F, oDisk w' cs' (removeP m s) F ∧ ∀ b, b ∈ F → w.heap.size ≤ b) ∧ Below w.heap.size w w' := by
  have hq := hr
  obtain ⟨a0, c0, a1, c1, a2, c2, rfl, hI, hNm, hSf, hnx, _⟩ := hq
  have hw2 : m.fInodes.length + sumW wInode m.fInodes + (m.fNames.length + sumW wEntry m.fNames) + (m.fSafe.length + sumW wEntry m.fSafe) ≤ 1048576 := hw
  have HW := Hid.mk hw
  have HR := Hid.mk hr
  clear hr hI hNm hSf hw
  go_enter Try.func52, Try.ntmps52
  go_wp2_with fail
  obtain ⟨wq, hwq⟩ : ∃ wq, wq = ((w.alloc (.cells #[.slice a0 m.fInodes.length c0, .slice a1 m.fNames.length c1, .slice a2 m.fSafe.length c2, .int .i64 m.fNext] 27)).alloc (.cells #[.slice none 0 0, .slice none 0 0, .slice none 0 0, .int .i64 0] 27)) := ⟨_, rfl⟩
  have hbW : Below w.heap.size w wq := by rw [hwq]; exact Below.alloc (Below.alloc (Below.refl _ _) (by exact Nat.le_refl _) _) (by simp; try omega) _
  have hbd : Bw wq (w.heap.size) 27 [.slice a0 m.fInodes.length c0, .slice a1 m.fNames.length c1, .slice a2 m.fSafe.length c2, .int .i64 m.fNext] := by rw [hwq]; exact Bw.alloc (Bw.new' _ _ _ (by simp)) _
  have hbr : Bw wq (w.heap.size + 1) 27 [.slice none 0 0, .slice none 0 0, .slice none 0 0, .int .i64 0] := by rw [hwq]; exact Bw.new' _ _ _ (by simp)
  rw [← hwq]
  clear hwq
  refine (l2Copy_any _ m wq (rDisk_good.mono (rDisk_good.below HR.out hbW) hbW.size) HW.out).mono ?_
  rintro e w1 ⟨cs2, F2, rfl, ho2, hN2, hge2, hx1⟩
  obtain ⟨d0, e0, d1, e1, d2, e2, G0, G1, G2, rfl, o0, o1, o2, _, rfl⟩ := oDisk_cells ho2
  have HO0 := Hid.mk o0
  have HO1 := Hid.mk o1
  have HO2 := Hid.mk o2
  have HO := Hid.mk ho2
  have HN := Hid.mk hN2
  have HGE : Hid (∀ b, b ∈ G0 ++ G1 ++ G2 ++ [] → wq.heap.size ≤ b) := hge2
  have HLT : Hid (∀ b, b ∈ G0 ++ G1 ++ G2 ++ [] → b < w1.heap.size) := fun b hb => oDisk_good.lt ho2 b hb
  clear ho2 hN2 hge2 o0 o1 o2
  have hb1 := bthen hbW hx1
  have hbd1 := hbd.under hx1
  have hbr1 := hbr.under hx1
  have hz1 := hx1.size
  have hzW := hbW.size
  have hl0 := hbr.lt
  have y0 := hbd1.cell 0 _ rfl
  have y1 := hbd1.cell 1 _ rfl
  have y2 := hbd1.cell 2 _ rfl
  have y3 := hbd1.cell 3 _ rfl
  have hl1 := hbd1.lt
  go_wp2_with fail
  obtain ⟨wa, hwa⟩ : ∃ wa, wa = w1.alloc (.cells #[.slice d0 m.fInodes.length e0, .slice d1 m.fNames.length e1, .slice d2 m.fSafe.length e2, .int .i64 m.fNext] 27) := ⟨_, rfl⟩
  have hba : Below w1.heap.size w1 wa := by rw [hwa]; exact (Below.refl _ _).alloc (Nat.le_refl _) _
  have hwb0 : Bw wa w1.heap.size 27 [.slice d0 m.fInodes.length e0, .slice d1 m.fNames.length e1, .slice d2 m.fSafe.length e2, .int .i64 m.fNext] := by rw [hwa]; exact Bw.new _ _ _
  rw [← hwa]
  clear hwa
  have hba1 := bthen hb1 hba
  have hbda := (hbd1.under hba)
  refine (l2Call_any _ m s wa (rDisk_good.mono (rDisk_good.below HR.out hba1) hba1.size) HW.out hs).mono ?_
  rintro e w2 ⟨rfl, hx2⟩
  have hb12 := bthen hba hx2
  have hb2 := bthen hba1 hx2
  have hwb := hwb0.under hx2
  have hbr2 := (hbr1.under hba).under hx2
  have hbd2 := hbda.under hx2
  clear hwb0 hbda hbd1 y0 y1 y2 y3
  have zo0 := hwb.cell 0 _ rfl
  have zo1 := hwb.cell 1 _ rfl
  have zo2 := hwb.cell 2 _ rfl
  have zo3 := hwb.cell 3 _ rfl
  by_cases hC : callP m s = 0
  · have hgd := (call_good hC).1
    have hrok := remove_ok (s := s) hgd
    have HV : Hid (removeP m s = keepD { m with fNames := without m.fNames s } ∧ callP m s = 0) := by refine ⟨?_, hC⟩; unfold removeP removeD; rw [if_pos hC]
    have HE : Hid (endsD m { m with fNames := without m.fNames s } = keepD { m with fNames := without m.fNames s } ∧ endsC { m with fNames := without m.fNames s } = 0) := by
      unfold removeD at hrok
      refine ⟨?_, ?_⟩ <;> simp only [endsD, endsC, hrok, if_true]
    have hsub : (without m.fNames s).Sublist m.fNames := List.filter_sublist
    have hsl := hsub.length_le
    have HWK1 : Hid (wDisk { m with fNames := without m.fNames s } ≤ 16777216) := by
      show _ ≤ _
      have h2 := sumW_sublist (f := wEntry) hsub
      rw [wDisk_eq]
      simp only
      omega
    rw [hC]
    clear hC hrok hgd hsub
    have hlo := hwb.lt
    have fo1 := hwb.free 1
    go_wp2_with fail
    refine (l2Without_any d1 m.fNames.length e1 m.fNames s w2 rfl (by omega) (ownS.leaf oEntry_good (ownS.frame oEntry_good HO1.out (fun b hbF => hb12.block b (HLT.out b (by simp [hbF])))))).mono ?_
    rintro e w3 ⟨r3, q3, F3, rfl, ho3, hg3, hx3⟩
    have HO3 := Hid.mk ho3
    have HGS := Hid.mk hg3
    clear ho3 hg3
    have hwb3 := hwb.under hx3
    have zf1 := hwb3.free 1
    have hl3 := hwb3.lt
    have hbd3 := hbd2.under hx3
    have hl3d := hbd3.lt
    have zd0 := hwb3.cell 0 _ rfl
    have zd1 := hwb3.cell 1 _ rfl
    have zd2 := hwb3.cell 2 _ rfl
    have zd3 := hwb3.cell 3 _ rfl
    have yd0 := hbd3.cell 0 _ rfl
    have yd1 := hbd3.cell 1 _ rfl
    have yd2 := hbd3.cell 2 _ rfl
    have yd3 := hbd3.cell 3 _ rfl
    clear zo0 zo1 zo2 zo3 fo1
    go_wp2_with fail
    obtain ⟨ws, hws⟩ : ∃ ws, ws = w3.setCell ⟨w1.heap.size, 1, none⟩ (.slice r3 (without m.fNames s).length q3) := ⟨_, rfl⟩
    have hTs : Turn [w1.heap.size] w3 ws := by rw [hws]; exact Turn.setCell (Turn.refl _ _) (by simp) _
    have hwbs : Bw ws w1.heap.size 27 [.slice d0 m.fInodes.length e0, .slice r3 (without m.fNames s).length q3, .slice d2 m.fSafe.length e2, .int .i64 m.fNext] := by rw [hws]; exact hwb3.put 1 _
    have hbds := hbd3.turn hTs (by simp; omega)
    have hbrs := (hbr2.under hx3).turn hTs (by simp; omega)
    have hb3 := bthen hb2 hx3
    have hBs : Below w.heap.size w ws := hb3.trans (hTs.below (fun k hk => by simp at hk; omega) hb3.size)
    have hfr : ∀ b, b ∈ G0 ++ G1 ++ G2 ++ [] → ws.heap[b]? = w1.heap[b]? := fun b hb => by
      have h1 := HLT.out b hb
      rw [hTs.block b (by have := (bthen hb12 hx3).size; omega) (by simp; omega), (bthen hb12 hx3).block b h1]
    have t0 := ownS.frame (w' := ws) oInode_good HO0.out (fun b hb => hfr b (by simp [hb]))
    have t2 := ownS.frame (w' := ws) oEntry_good HO2.out (fun b hb => hfr b (by simp [hb]))
    have hz12 := hb12.size
    have t1 := ownS.frame (w' := ws) oEntry_good HO3.out (fun b hb => hTs.block b (ownS.lt oEntry_good HO3.out b hb) (by intro h; simp at h; have := HGS.out b hb; omega))
    have HT0 := Hid.mk t0
    have HT1 := Hid.mk t1
    have HT2 := Hid.mk t2
    have HBS := Hid.mk hBs
    have HSUB : Hid (∀ b, b ∈ G0 ++ F3 ++ G2 → w.heap.size + 2 ≤ b) := by
      intro b hb
      rw [List.mem_append, List.mem_append] at hb
      rcases hb with (hb | hb) | hb
      · have := HGE.out b (by simp [hb]); omega
      · have := HGS.out b hb; omega
      · have := HGE.out b (by simp [hb]); omega
    rw [← hws]
    clear hws t0 t1 t2 hfr hTs zf1 zd0 zd1 zd2 zd3 yd0 yd1 yd2 yd3
    have zs0 := hwbs.cell 0 _ rfl
    have zs1 := hwbs.cell 1 _ rfl
    have zs2 := hwbs.cell 2 _ rfl
    have zs3 := hwbs.cell 3 _ rfl
    have ys0 := hbds.cell 0 _ rfl
    have ys1 := hbds.cell 1 _ rfl
    have ys2 := hbds.cell 2 _ rfl
    have ys3 := hbds.cell 3 _ rfl
    go_wp2_with fail
    refine (l2Ends_any _ d0 r3 d2 e0 q3 e2 m { m with fNames := without m.fNames s } G0 _ G2 ws (rDisk_good.mono (rDisk_good.below HR.out HBS.out) HBS.out.size) HW.out HT0.out HT1.out HT2.out hnx HWK1.out (by simp only; omega)).mono ?_
    rintro e w4 ⟨cs4, F4, rfl, ho4, hF4, hx4⟩
    have hb4 := bthen HBS.out hx4
    have hbr4 := hbrs.under hx4
    have hl4 := hbr4.lt
    have hzE := HBS.out.size
    have hlE := hbrs.lt
    rw [HE.out.1] at ho4
    obtain ⟨q0, p0, q1, p1, q2, p2, E0, E1, E2, rfl, _, _, _, _, rfl⟩ := oDisk_cells ho4
    have hkey : ∀ W', Turn [w.heap.size + 1] w4 W' → (∃ F, oDisk W' [.slice q0 (keepD { m with fNames := without m.fNames s }).fInodes.length p0, .slice q1 (keepD { m with fNames := without m.fNames s }).fNames.length p1, .slice q2 (keepD { m with fNames := without m.fNames s }).fSafe.length p2, .int .i64 (keepD { m with fNames := without m.fNames s }).fNext] (keepD { m with fNames := without m.fNames s }) F ∧ ∀ b, b ∈ F → w.heap.size ≤ b) ∧ Below w.heap.size w W' := fun W' hT =>
      ⟨⟨_, oDisk_good.frame ho4 (fun b hb => hT.block b (oDisk_good.lt ho4 b hb) (fun h => by simp at h; rcases hF4 b hb with h2 | h2; (have := HSUB.out b h2; omega); omega)), fun b hb => by first | (have := hG3 b hb; omega) | (have := hge b hb; omega) | (rcases hF4 b hb with h2 | h2; (have := HSUB.out b h2; omega); omega)⟩, hb4.trans (hT.below (fun k hk => by simp at hk; omega) hb4.size)⟩
    have HKEY := Hid.mk hkey
    clear hkey ho4 hF4
    have ze0 := hbr4.cell 0 _ rfl
    have ze1 := hbr4.cell 1 _ rfl
    have ze2 := hbr4.cell 2 _ rfl
    have ze3 := hbr4.cell 3 _ rfl
    have zf0 := hbr4.free 0
    have zf1 := hbr4.free 1
    have zf2 := hbr4.free 2
    have zf3 := hbr4.free 3
    have HEC : Hid (endsC { m with fNames := without m.fNames s } = 0) := HE.out.2
    rw [HEC.out]
    go_wp2_with fail
    obtain ⟨h1, h3⟩ := HKEY.out _ (show Turn [w.heap.size + 1] w4 ((((w4.setCell ⟨w.heap.size + 1, 0, none⟩ (.slice q0 (keepD { m with fNames := without m.fNames s }).fInodes.length p0)).setCell ⟨w.heap.size + 1, 1, none⟩ (.slice q1 (keepD { m with fNames := without m.fNames s }).fNames.length p1)).setCell ⟨w.heap.size + 1, 2, none⟩ (.slice q2 (keepD { m with fNames := without m.fNames s }).fSafe.length p2)).setCell ⟨w.heap.size + 1, 3, none⟩ (.int .i64 (keepD { m with fNames := without m.fNames s }).fNext)) from turn4 _ _ _ _ _ _)
    exact bodyPost_ret (v := .tuple #[.agg #[.slice q0 (keepD { m with fNames := without m.fNames s }).fInodes.length p0, .slice q1 (keepD { m with fNames := without m.fNames s }).fNames.length p1, .slice q2 (keepD { m with fNames := without m.fNames s }).fSafe.length p2, .int .i64 (keepD { m with fNames := without m.fNames s }).fNext], .int .i64 0]) (by simp [results, Try.results52, go_sem, *]) rfl ⟨[.slice q0 (keepD { m with fNames := without m.fNames s }).fInodes.length p0, .slice q1 (keepD { m with fNames := without m.fNames s }).fNames.length p1, .slice q2 (keepD { m with fNames := without m.fNames s }).fSafe.length p2, .int .i64 (keepD { m with fNames := without m.fNames s }).fNext], by rw [HV.out.2], by rw [HV.out.1]; exact h1, h3⟩
  · have HV : Hid (removeP m s = m) := by show _ = _; unfold removeP; rw [if_neg hC]
    have hcn : (callP m s == 0) = false := beq_eq_false_iff_ne.2 hC
    obtain ⟨cp, hcp⟩ : ∃ cp, callP m s = cp := ⟨_, rfl⟩
    rw [hcp] at hcn ⊢
    have HCP := Hid.mk hcp
    clear hcp hC
    have ze0 := hbr2.cell 0 _ rfl
    have zf0 := hbr2.free 0
    have ze1 := hbr2.cell 1 _ rfl
    have zf1 := hbr2.free 1
    have ze2 := hbr2.cell 2 _ rfl
    have zf2 := hbr2.free 2
    have ze3 := hbr2.cell 3 _ rfl
    have zf3 := hbr2.free 3
    have hlt0 := hbr2.lt
    have hO3 : oDisk w2 [.slice d0 m.fInodes.length e0, .slice d1 m.fNames.length e1, .slice d2 m.fSafe.length e2, .int .i64 m.fNext] (removeP m s) (G0 ++ G1 ++ G2 ++ []) := by rw [HV.out]; exact oDisk_good.frame HO.out (fun b hb => hb12.block b (HLT.out b hb))
    have hG3 : ∀ b, b ∈ G0 ++ G1 ++ G2 ++ [] → w.heap.size + 2 ≤ b := fun b hb => by have := HGE.out b hb; omega
    have HBf := Hid.mk hb2
    have HO3 := Hid.mk hO3
    clear hO3
    go_wp2_with fail
    refine bodyPost_ret (v := .tuple #[.agg #[.slice d0 m.fInodes.length e0, .slice d1 m.fNames.length e1, .slice d2 m.fSafe.length e2, .int .i64 m.fNext], .int .i64 cp]) (by simp [results, Try.results52, go_sem, *]) rfl ⟨[.slice d0 m.fInodes.length e0, .slice d1 m.fNames.length e1, .slice d2 m.fSafe.length e2, .int .i64 m.fNext], by first | rfl | rw [HCP.out], ?_, ?_⟩
    · exact ⟨_, oDisk_good.frame HO3.out (fun b hb => (show Turn [w.heap.size + 1] w2 _ from by repeat (first | with_reducible exact Turn.refl _ _ | with_reducible refine Turn.setCell ?_ (by simp) _ | with_reducible refine Turn.alloc ?_ _ | with_reducible refine Turn.drew ?_)).block b (oDisk_good.lt HO3.out b hb) (by intro h; simp at h; have := hG3 b hb; omega)), fun b hb => by first | (have := hG3 b hb; omega) | (have := hge b hb; omega) | (rcases hF4 b hb with h2 | h2; (have := HSUB.out b h2; omega); omega)⟩
    · exact HBf.out.trans ((show Turn [w.heap.size + 1] w2 _ from by repeat (first | with_reducible exact Turn.refl _ _ | with_reducible refine Turn.setCell ?_ (by simp) _ | with_reducible refine Turn.alloc ?_ _ | with_reducible refine Turn.drew ?_)).below (fun k hk => by simp at hk; omega) HBf.out.size)

end Go.Proofs.Ytmbobjhplkpfoaa
