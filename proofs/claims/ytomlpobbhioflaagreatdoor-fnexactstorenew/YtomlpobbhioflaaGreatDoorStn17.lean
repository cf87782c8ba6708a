/-
  Part 18 of the texts that the proof leans on.
-/
import Derived.Test.YtomlpobbhioflaaGreatDoorStn0
import Derived.Test.YtomlpobbhioflaaGreatDoorStn10
import Derived.Test.YtomlpobbhioflaaGreatDoorStn15
import Derived.Test.YtomlpobbhioflaaGreatDoorStn12
import Derived.Test.YtomlpobbhioflaaGreatDoorStn14
import Derived.Test.YtomlpobbhioflaaGreatDoorStn1
import Derived.Test.YtomlpobbhioflaaGreatDoorStn2
import Derived.Test.YtomlpobbhioflaaGreatDoorStn4
import Derived.Test.YtomlpobbhioflaaGreatDoorChecked
set_option linter.unusedVariables false
set_option linter.unusedSimpArgs false
set_option maxRecDepth 10000

namespace Go.Proofs.YtomlpobbhioflaaGreatDoor
open Go.RowKit Go.Maps
abbrev q0d9_35_7_0 : Oper := ⟨some 35, .fieldAddr 25 (.tmp 8) 1, 0, "l02_files.go:198", #[], none⟩
abbrev q0d9_35_7_1 : Oper := ⟨some 36, .load 23 (.tmp 35), 23, "l02_files.go:198", #[⟨0, .data⟩], none⟩
abbrev q0d9_35_7_2 : Oper := ⟨some 37, .fieldAddr 25 (.tmp 8) 1, 0, "l02_files.go:198", #[], none⟩
abbrev q0d9_35_7_3 : Oper := ⟨some 38, .load 23 (.tmp 37), 23, "l02_files.go:198", #[⟨2, .data⟩], none⟩
abbrev q0d9_35_7_4 : Oper := ⟨some 39, .move (.tmp 1), 9, "l02_files.go:198", #[], none⟩
abbrev q0d9_35_7_5 : Oper := ⟨some 40, .call { callee := .value (.func 59), args := #[.tmp 38, .tmp 39], argTypes := #[23, 9] }, 3, "l02_files.go:198", #[⟨3, .data⟩, ⟨4, .data⟩], none⟩
abbrev q0d9_35_7_6 : Oper := ⟨some 41, .indexAddr 23 (.tmp 36) (.tmp 40), 0, "l02_files.go:198", #[⟨1, .data⟩, ⟨5, .data⟩], none⟩
abbrev q0d9_35_7_7 : Oper := ⟨some 42, .fieldAddr 56 (.tmp 41) 1, 0, "l02_files.go:198", #[⟨6, .data⟩], none⟩
abbrev q0d9_35_7_8 : Oper := ⟨some 43, .load 3 (.tmp 42), 3, "l02_files.go:198", #[⟨7, .data⟩], none⟩
abbrev q0d9_35_7_9 : Oper := ⟨some 10, .assign (.tmp 43), 3, "l02_files.go:198", #[⟨8, .data⟩, ⟨5, .chain⟩, ⟨0, .phase⟩, ⟨1, .phase⟩, ⟨2, .phase⟩, ⟨3, .phase⟩, ⟨4, .phase⟩, ⟨5, .phase⟩, ⟨6, .phase⟩, ⟨7, .phase⟩, ⟨8, .phase⟩], none⟩
set_option maxHeartbeats 4000000 in
theorem specRename_o (cs : List Value) (m : MDisk) (s t : ByteArray) (w : World) (hr : rDisk w.heap.size w cs m) (hs : s.size ≤ 9223372036854775807) (ht : t.size ≤ 9223372036854775807) (hw : wDisk m ≤ 1048576) (hw1 : s.size ≤ 1048576) (hwt1 : t.size ≤ 1048576) :
  Calls Tryz.prog 35 #[.agg cs.toArray, .string s, .string t] w fun e w' => ∃ cs' : List Value, e = .returned (.tuple #[.agg cs'.toArray, .int .i64 (renameC m s t)]) ∧ (∃ F, oDisk w' cs' (renameP m s t) F ∧ ∀ b, b ∈ F → w.heap.size ≤ b) ∧ Below w.heap.size w w' := by
 have hq := hr
 obtain ⟨a0, c0, a1, c1, a2, c2, rfl, hI, hNm, hSf, hnx, _⟩ := hq
 have hw2 : m.fInodes.length + sumW wInode m.fInodes + (m.fNames.length + sumW wEntry m.fNames) + (m.fSafe.length + sumW wEntry m.fSafe) ≤ 1048576 := hw
 have HW := Hid.mk hw
 have HR := Hid.mk hr
 clear hr hI hNm hSf hw
 go_enter Tryz.func35, Tryz.ntmps35
 go_wp2_with fail
 obtain ⟨wq, hwq⟩ : ∃ wq, wq = ((w.alloc (.cells #[.slice a0 m.fInodes.length c0, .slice a1 m.fNames.length c1, .slice a2 m.fSafe.length c2, .int .i64 m.fNext] 25)).alloc (.cells #[.slice none 0 0, .slice none 0 0, .slice none 0 0, .int .i64 0] 25)) := ⟨_, rfl⟩
 have hbW : Below w.heap.size w wq := by rw [hwq]; exact Below.alloc (Below.alloc (Below.refl _ _) (by exact Nat.le_refl _) _) (by simp; try omega) _
 have hbd : Bw wq (w.heap.size) 25 [.slice a0 m.fInodes.length c0, .slice a1 m.fNames.length c1, .slice a2 m.fSafe.length c2, .int .i64 m.fNext] := by rw [hwq]; exact Bw.alloc (Bw.new' _ _ _ (by simp)) _
 have hbr : Bw wq (w.heap.size + 1) 25 [.slice none 0 0, .slice none 0 0, .slice none 0 0, .int .i64 0] := by rw [hwq]; exact Bw.new' _ _ _ (by simp)
 rw [← hwq]
 clear hwq
 refine (l2Copy_any _ m wq (rDisk_good.mono (rDisk_good.below HR.out hbW) hbW.size) HW.out).mono ?_
 rintro e w1 ⟨cs2, F2, rfl, ho2, hN2, hge2, hx1⟩
 obtain ⟨d0, e0, d1, e1, d2, e2, G0, G1, G2, rfl, o0, o1, o2, _, rfl⟩ := oDisk_cells ho2
 have HO0 := Hid.mk o0
 have HO1 := Hid.mk o1
 have HO2 := Hid.mk o2
 have HO := Hid.mk ho2
 have HN := Hid.mk hN2
 have HGE : Hid (∀ b, b ∈ G0 ++ G1 ++ G2 ++ [] → wq.heap.size ≤ b) := hge2
 have HLT : Hid (∀ b, b ∈ G0 ++ G1 ++ G2 ++ [] → b < w1.heap.size) := fun b hb => oDisk_good.lt ho2 b hb
 clear ho2 hN2 hge2 o0 o1 o2
 have hb1 := bthen hbW hx1
 have hbd1 := hbd.under hx1
 have hbr1 := hbr.under hx1
 have hz1 := hx1.size
 have hzW := hbW.size
 have hl0 := hbr.lt
 obtain ⟨y0, y1, y2, y3⟩ := hbd1.c4
 have hl1 := hbd1.lt
 go_wp2_with fail
 obtain ⟨wa, hwa⟩ : ∃ wa, wa = w1.alloc (.cells #[.slice d0 m.fInodes.length e0, .slice d1 m.fNames.length e1, .slice d2 m.fSafe.length e2, .int .i64 m.fNext] 25) := ⟨_, rfl⟩
 have hba : Below w1.heap.size w1 wa := by rw [hwa]; exact (Below.refl _ _).alloc (Nat.le_refl _) _
 have hwb0 : Bw wa w1.heap.size 25 [.slice d0 m.fInodes.length e0, .slice d1 m.fNames.length e1, .slice d2 m.fSafe.length e2, .int .i64 m.fNext] := by rw [hwa]; exact Bw.new _ _ _
 rw [← hwa]
 clear hwa
 have hba1 := bthen hb1 hba
 have hbda := (hbd1.under hba)
 refine (l2Call_any _ m s wa (rDisk_good.mono (rDisk_good.below HR.out hba1) hba1.size) HW.out hs).mono ?_
 rintro e w2 ⟨rfl, hx2⟩
 have hb12 := bthen hba hx2
 have hb2 := bthen hba1 hx2
 have hwb := hwb0.under hx2
 have hbr2 := (hbr1.under hba).under hx2
 have hbd2 := hbda.under hx2
 clear hwb0 hbda hbd1 y0 y1 y2 y3
 obtain ⟨zo0, zo1, zo2, zo3⟩ := hwb.c4
 by_cases h1 : callP m s = 1
 ·have HCP : Hid (renameC m s t = 1) := by show _ = _; unfold renameC; rw [h1]; split <;> rfl
  have HV : Hid (renameP m s t = m) := by show _ = _; unfold renameP; rw [HCP.out]; rfl
  rw [h1]
  clear h1
  obtain ⟨ze0, zf0, ze1, zf1, ze2, zf2, ze3, zf3⟩ := hbr2.c8
  have hlt0 := hbr2.lt
  have hO3 : oDisk w2 [.slice d0 m.fInodes.length e0, .slice d1 m.fNames.length e1, .slice d2 m.fSafe.length e2, .int .i64 m.fNext] (renameP m s t) (G0 ++ G1 ++ G2 ++ []) := by rw [HV.out]; exact oDisk_good.frame HO.out (fun b hb => hb12.block b (HLT.out b hb))
  have hG3 : ∀ b, b ∈ G0 ++ G1 ++ G2 ++ [] → w.heap.size + 2 ≤ b := fun b hb => by have := HGE.out b hb; omega
  have HBf := Hid.mk hb2
  have HO3 := Hid.mk hO3
  clear hO3
  go_wp2_with fail
  refine bodyPost_ret (v := .tuple #[.agg #[.slice d0 m.fInodes.length e0, .slice d1 m.fNames.length e1, .slice d2 m.fSafe.length e2, .int .i64 m.fNext], .int .i64 1]) (by simp [results, Tryz.results35, go_sem, *]) rfl ⟨[.slice d0 m.fInodes.length e0, .slice d1 m.fNames.length e1, .slice d2 m.fSafe.length e2, .int .i64 m.fNext], by first | rfl | rw [HCP.out], ?_, ?_⟩
  ·exact ⟨_, oDisk_good.frame HO3.out (fun b hb => (show Turn [w.heap.size + 1] w2 _ from by repeat (first | with_reducible exact Turn.refl _ _ | with_reducible refine Turn.setCell ?_ (by simp) _ | with_reducible refine Turn.alloc ?_ _ | with_reducible refine Turn.drew ?_)).block b (oDisk_good.lt HO3.out b hb) (by intro h; simp at h; have := hG3 b hb; omega)), fun b hb => by first | (have := hG3 b hb; omega) | (have := hge b hb; omega) | (rcases hF4 b hb with h2 | h2; (have := HSUB.out b h2; omega); omega)⟩
  ·exact HBf.out.trans ((show Turn [w.heap.size + 1] w2 _ from by repeat (first | with_reducible exact Turn.refl _ _ | with_reducible refine Turn.setCell ?_ (by simp) _ | with_reducible refine Turn.alloc ?_ _ | with_reducible refine Turn.drew ?_)).below (fun k hk => by simp at hk; omega) HBf.out.size)
 have hcn1 : (callP m s == 1) = false := beq_eq_false_iff_ne.2 h1
 by_cases hN0 : nameOk t = true
 ·have HRC : Hid (renameC m s t = callP m s) := by show _ = _; unfold renameC; rw [if_pos hN0]
  have hNt := hN0
  by_cases hC : callP m s = 0
  ·by_cases hst : s = t
   ·subst hst
    have HCP : Hid (renameC m s s = 0) := by show _ = _; rw [HRC.out, hC]
    have HV : Hid (renameP m s s = m) := by show _ = _; unfold renameP; rw [if_pos HCP.out]; exact rename_self hC
    rw [hC]
    clear hC h1 hcn1 hN0
    go_wp2_with fail
    refine (l2Name_any s _ hs).mono ?_
    rintro e w9 ⟨rfl, hw9⟩
    have hw8 := hw9.symm
    clear hw9
    subst hw8
    rw [hNt]
    obtain ⟨ze0, zf0, ze1, zf1, ze2, zf2, ze3, zf3⟩ := hbr2.c8
    have hlt0 := hbr2.lt
    have hO3 : oDisk w2 [.slice d0 m.fInodes.length e0, .slice d1 m.fNames.length e1, .slice d2 m.fSafe.length e2, .int .i64 m.fNext] (renameP m s s) (G0 ++ G1 ++ G2 ++ []) := by rw [HV.out]; exact oDisk_good.frame HO.out (fun b hb => hb12.block b (HLT.out b hb))
    have hG3 : ∀ b, b ∈ G0 ++ G1 ++ G2 ++ [] → w.heap.size + 2 ≤ b := fun b hb => by have := HGE.out b hb; omega
    have HBf := Hid.mk hb2
    have HO3 := Hid.mk hO3
    clear hO3
    go_wp2_with fail
    refine bodyPost_ret (v := .tuple #[.agg #[.slice d0 m.fInodes.length e0, .slice d1 m.fNames.length e1, .slice d2 m.fSafe.length e2, .int .i64 m.fNext], .int .i64 0]) (by simp [results, Tryz.results35, go_sem, *]) rfl ⟨[.slice d0 m.fInodes.length e0, .slice d1 m.fNames.length e1, .slice d2 m.fSafe.length e2, .int .i64 m.fNext], by first | rfl | rw [HCP.out], ?_, ?_⟩
    ·exact ⟨_, oDisk_good.frame HO3.out (fun b hb => (show Turn [w.heap.size + 1] w2 _ from by repeat (first | with_reducible exact Turn.refl _ _ | with_reducible refine Turn.setCell ?_ (by simp) _ | with_reducible refine Turn.alloc ?_ _ | with_reducible refine Turn.drew ?_)).block b (oDisk_good.lt HO3.out b hb) (by intro h; simp at h; have := hG3 b hb; omega)), fun b hb => by first | (have := hG3 b hb; omega) | (have := hge b hb; omega) | (rcases hF4 b hb with h2 | h2; (have := HSUB.out b h2; omega); omega)⟩
    ·exact HBf.out.trans ((show Turn [w.heap.size + 1] w2 _ from by repeat (first | with_reducible exact Turn.refl _ _ | with_reducible refine Turn.setCell ?_ (by simp) _ | with_reducible refine Turn.alloc ?_ _ | with_reducible refine Turn.drew ?_)).below (fun k hk => by simp at hk; omega) HBf.out.size)
   ·have heb := str_ne hst
    have hgd := (call_good hC).1
    have hhn := (call_good hC).2.2
    have hrok := rename_ok (s := s) (t := t) hC hN0
    have HV : Hid (renameP m s t = keepD { m with fNames := renameN m s t } ∧ renameC m s t = 0) := by
     have h0 : renameC m s t = 0 := HRC.out.trans hC
     refine ⟨?_, h0⟩; unfold renameP renameD; rw [if_pos h0]
    have HE : Hid (endsD m { m with fNames := renameN m s t } = keepD { m with fNames := renameN m s t } ∧ endsC { m with fNames := renameN m s t } = 0) := by
     unfold renameD at hrok
     refine ⟨?_, ?_⟩ <;> simp only [endsD, endsC, hrok, if_true]
    have hDR := diskOk_iff.1 hgd
    have hRi : Rise m.fNames := hDR.names.rise
    have hsub : (without m.fNames s).Sublist m.fNames := List.filter_sublist
    have HRW : Hid (Rise (without m.fNames s)) := hRi.sublist hsub
    have h3 := renameN_ok hDR hhn hN0
    have hwt := ok_weight hgd
    have h7 := sumW_names (fun e he => (h3.1.1 e he).2)
    have h8 := h3.2
    have HRL : Hid ((renameN m s t).length ≤ 1000) := by show _ ≤ _; omega
    have HWK1 : Hid (wDisk { m with fNames := renameN m s t } ≤ 16777216) := by
     show _ ≤ _
     rw [wDisk_eq]
     simp only
     omega
    have HLW : Hid ((without m.fNames s).length ≤ 1048576) := by show _ ≤ _; have := hsub.length_le; omega
    rw [hC]
    clear hC h1 hcn1 hN0 hrok hDR hRi hsub h3 hwt h7 h8
    obtain ⟨hk, hid, _⟩ := file_there hgd hhn
    have hnz : nameZ m.fNames s = (nameAt m.fNames s : Int) := by unfold nameZ; rw [hhn, if_pos rfl]
    have hlfn : ∀ W', Below w2.heap.size w2 W' → LeafL 2 rEntry W'.heap.size W' d1 e1 m.fNames := fun W' hb => ownS.leaf oEntry_good (ownS.frame oEntry_good HO1.out (fun b hbF => (bthen hb12 hb).block b (HLT.out b (by simp [hbF]))))
    obtain ⟨b1, o1, rfl, hB1, cs1, hcl1, hcell1, rfl, hrest1⟩ := (hlfn _ (Below.refl _ _)).2.2 (nameAt m.fNames s) hk
    have k1e := hcell1 1 _ rfl
    have HWF : Hid ((Lit.int .i64 (idOf m.fNames s)).wf = true) := by show _ = _; rw [hid]; exact hrest1.2.1
    rw [← hid] at k1e
    have q1 : ∀ W', Below w2.heap.size w2 W' → W'.cell? ⟨b1, o1 + nameAt m.fNames s * 2 + 1, none⟩ = some (.int .i64 (idOf m.fNames s)) := fun W' hb => (hb.cell (p := ⟨b1, o1 + nameAt m.fNames s * 2 + 1, none⟩) hB1).trans k1e
    have hCt := fun W' (hb : Below w2.heap.size w2 W') => l2At_any (some ⟨b1, o1, none⟩) _ e1 m.fNames s W' W'.heap.size rfl (by omega) (hlfn W' hb).2.2
    simp only [hnz] at hCt
    have hu1 : (0 : Int) ≤ (nameAt m.fNames s : Int) := by omega
    have hu2 : (nameAt m.fNames s : Int) < (m.fNames.length : Int) := by omega
    have po1 : ∀ W', Below w2.heap.size w2 W' → W'.cell? ⟨w1.heap.size, 1, none⟩ = some (.slice (some ⟨b1, o1, none⟩) m.fNames.length e1) := fun W' hb => (hwb.under hb).cell 1 _ rfl
    clear hlfn hcell1 hcl1 k1e hrest1 hid hnz
    have HKn := Hid.mk hk
    clear hk
    obtain ⟨na, hna⟩ : ∃ na, na = nameAt m.fNames s := ⟨_, rfl⟩
    obtain ⟨idn, hidn⟩ : ∃ idn, idn = idOf m.fNames s := ⟨_, rfl⟩
    rw [← hna] at q1 hCt hu1 hu2
    rw [← hidn] at q1
    have HIDN := Hid.mk hidn
    clear hna hidn
    go_wp2_with fail
    refine (l2Name_any t _ ht).mono ?_
    rintro e w9 ⟨rfl, hw9⟩
    have hw8 := hw9.symm
    clear hw9
    subst hw8
    rw [hNt]
    go_wp2_with fail
    refine wp_region_held_drew (S := fun W' => Below w2.heap.size w2 W') (by kernel_rfl) (Below.drew (Below.refl _ _)) (fun hHeld => ?_)
    refine uq 0 q0d9_35_7_0 35 hHeld ?_
    refine uq 1 q0d9_35_7_1 36 hHeld ?_
    refine uq 2 q0d9_35_7_2 37 hHeld ?_
    refine uq 3 q0d9_35_7_3 38 hHeld ?_
    refine uq 4 q0d9_35_7_4 39 hHeld ?_
    refine ar1 5 q0d9_35_7_5 fun K hK => ?_
    go_simp
    refine Calls.mono (hCt _ hHeld) ?_
    rintro e wy1 ⟨rfl, hw1⟩
    have hy1 := below_same hw1
    clear hw1
    go_wp2_with fail
    refine hK.out _ _ (bthen hHeld hy1) (fun hHeld => ?_)
    clear hK K
    try simp only[Act.put,sa,s0,s1]
    refine uq 6 q0d9_35_7_6 41 hHeld ?_
    refine uq 7 q0d9_35_7_7 42 hHeld ?_
    refine uq 8 q0d9_35_7_8 43 hHeld ?_
    refine uq 9 q0d9_35_7_9 10 hHeld ?_
    refine wpAnyH_done (by kernel_rfl) ?_ _
    obtain ⟨wo, hwo⟩ : ∃ wo, wo = wy1 := ⟨_, rfl⟩
    rw [← hwo] at hHeld ⊢
    clear hwo hCt po1 q1 zo0 zo1 zo2 zo3
    have hbo := bthen hb12 hHeld
    have hb3 := bthen hb2 hHeld
    have hwbo := hwb.under hHeld
    have hbdo := hbd2.under hHeld
    have hbro := hbr2.under hHeld
    clear hwb hbd2 hbr2 hHeld
    obtain ⟨zo0, zo1, zo2, zo3⟩ := hwbo.c4
    have hlo := hwbo.lt
    have fo1 := hwbo.free 1
    go_wp2_with fail
    refine (l2Without_any (some ⟨b1, o1, none⟩) m.fNames.length e1 m.fNames s wo rfl (by omega) (ownS.leaf oEntry_good (ownS.frame oEntry_good HO1.out (fun b hbF => hbo.block b (HLT.out b (by simp [hbF])))))).mono ?_
    rintro e w3 ⟨r3, q3, F3, rfl, ho3, hg3, hx3⟩
    have HO3 := Hid.mk ho3
    clear ho3 hg3
    have hwb3 := hwbo.under hx3
    have hbd3 := hbdo.under hx3
    have hbr3 := hbro.under hx3
    have hbt3 := bthen hbo hx3
    have hbu3 := bthen hb3 hx3
    clear hwbo hbdo hbro zo0 zo1 zo2 zo3 fo1 hlo
    obtain ⟨zo0, zo1, zo2, zo3⟩ := hwb3.c4
    have hlo := hwb3.lt
    have fo1 := hwb3.free 1
    have HRN : Hid (withE (without m.fNames s) ⟨t, idn⟩ = renameN m s t) := by show _ = _; unfold renameN; rw [HIDN.out]
    go_wp2_with fail
    have hcall := l2With_any r3 _ q3 (without m.fNames s) ⟨t, idn⟩ w3 rfl HLW.out (ownS.leaf oEntry_good HO3.out) HRW.out ht (by rw [HIDN.out]; exact HWF.out)
    rw [HRN.out] at hcall
    refine hcall.mono ?_
    clear hcall
    rintro e w4 ⟨r4, q4, F4, rfl, ho4, hg4, hx4⟩
    have HO4 := Hid.mk ho4
    have HGS := Hid.mk hg4
    clear ho4 hg4
    have hwb4 := hwb3.under hx4
    have zf1 := hwb4.free 1
    have hl3 := hwb4.lt
    have hbd4 := hbd3.under hx4
    have hl3d := hbd4.lt
    obtain ⟨zd0, zd1, zd2, zd3⟩ := hwb4.c4
    obtain ⟨yd0, yd1, yd2, yd3⟩ := hbd4.c4
    clear zo0 zo1 zo2 zo3 fo1
    have hsz3 := hbt3.size
    go_wp2_with fail
    obtain ⟨ws, hws⟩ : ∃ ws, ws = w4.setCell ⟨w1.heap.size, 1, none⟩ (.slice r4 (renameN m s t).length q4) := ⟨_, rfl⟩
    have hTs : Turn [w1.heap.size] w4 ws := by rw [hws]; exact Turn.setCell (Turn.refl _ _) (by simp) _
    have hwbs : Bw ws w1.heap.size 25 [.slice d0 m.fInodes.length e0, .slice r4 (renameN m s t).length q4, .slice d2 m.fSafe.length e2, .int .i64 m.fNext] := by rw [hws]; exact hwb4.put 1 _
    have hbds := hbd4.turn hTs (by simp; omega)
    have hbrs := (hbr3.under hx4).turn hTs (by simp; omega)
    have hbu4 := bthen hbu3 hx4
    have hbt4 := bthen hbt3 hx4
    have hBs : Below w.heap.size w ws := hbu4.trans (hTs.below (fun k hk => by simp at hk; omega) hbu4.size)
    have hfr : ∀ b, b ∈ G0 ++ G1 ++ G2 ++ [] → ws.heap[b]? = w1.heap[b]? := fun b hb => by
     have h1 := HLT.out b hb
     rw [hTs.block b (by have := hbt4.size; omega) (by simp; omega), hbt4.block b h1]
    have t0 := ownS.frame (w' := ws) oInode_good HO0.out (fun b hb => hfr b (by simp [hb]))
    have t2 := ownS.frame (w' := ws) oEntry_good HO2.out (fun b hb => hfr b (by simp [hb]))
    have t1 := ownS.frame (w' := ws) oEntry_good HO4.out (fun b hb => hTs.block b (ownS.lt oEntry_good HO4.out b hb) (by intro h; simp at h; have := HGS.out b hb; omega))
    have HT0 := Hid.mk t0
    have HT1 := Hid.mk t1
    have HT2 := Hid.mk t2
    have HBS := Hid.mk hBs
    have HSUB : Hid (∀ b, b ∈ G0 ++ F4 ++ G2 → w.heap.size + 2 ≤ b) := by
     intro b hb
     rw [List.mem_append, List.mem_append] at hb
     rcases hb with (hb | hb) | hb
     ·have := HGE.out b (by simp [hb]); omega
     ·have := HGS.out b hb; omega
     ·have := HGE.out b (by simp [hb]); omega
    rw [← hws]
    clear hws t0 t1 t2 hfr hTs zf1 zd0 zd1 zd2 zd3 yd0 yd1 yd2 yd3
    obtain ⟨zs0, zs1, zs2, zs3⟩ := hwbs.c4
    obtain ⟨ys0, ys1, ys2, ys3⟩ := hbds.c4
    go_wp2_with fail
    refine (l2Ends_any _ d0 r4 d2 e0 q4 e2 m { m with fNames := renameN m s t } G0 _ G2 ws (rDisk_good.mono (rDisk_good.below HR.out HBS.out) HBS.out.size) HW.out HT0.out HT1.out HT2.out hnx HWK1.out (by have := HRL.out; simp only; omega)).mono ?_
    rintro e w5 ⟨cs4, F4, rfl, ho4, hF4, hx5⟩
    have hb5 := bthen HBS.out hx5
    have hbr5 := hbrs.under hx5
    have hl5 := hbr5.lt
    have hzE := HBS.out.size
    have hlE := hbrs.lt
    rw [HE.out.1] at ho4
    obtain ⟨q0, p0, q1, p1, q2, p2, E0, E1, E2, rfl, _, _, _, _, rfl⟩ := oDisk_cells ho4
    have hkey : ∀ W', Turn [w.heap.size + 1] w5 W' → (∃ F, oDisk W' [.slice q0 (keepD { m with fNames := renameN m s t }).fInodes.length p0, .slice q1 (keepD { m with fNames := renameN m s t }).fNames.length p1, .slice q2 (keepD { m with fNames := renameN m s t }).fSafe.length p2, .int .i64 (keepD { m with fNames := renameN m s t }).fNext] (keepD { m with fNames := renameN m s t }) F ∧ ∀ b, b ∈ F → w.heap.size ≤ b) ∧ Below w.heap.size w W' := fun W' hT =>
     ⟨⟨_, oDisk_good.frame ho4 (fun b hb => hT.block b (oDisk_good.lt ho4 b hb) (fun h => by simp at h; rcases hF4 b hb with h2 | h2; (have := HSUB.out b h2; omega); omega)), fun b hb => by first | (have := hG3 b hb; omega) | (have := hge b hb; omega) | (rcases hF4 b hb with h2 | h2; (have := HSUB.out b h2; omega); omega)⟩, hb5.trans (hT.below (fun k hk => by simp at hk; omega) hb5.size)⟩
    have HKEY := Hid.mk hkey
    clear hkey ho4 hF4
    obtain ⟨ze0, ze1, ze2, ze3⟩ := hbr5.c4
    obtain ⟨zf0, zf1, zf2, zf3⟩ := hbr5.f4
    have HEC : Hid (endsC { m with fNames := renameN m s t } = 0) := HE.out.2
    rw [HEC.out]
    go_wp2_with fail
    obtain ⟨h1, h3⟩ := HKEY.out _ (show Turn [w.heap.size + 1] w5 ((((w5.setCell ⟨w.heap.size + 1, 0, none⟩ (.slice q0 (keepD { m with fNames := renameN m s t }).fInodes.length p0)).setCell ⟨w.heap.size + 1, 1, none⟩ (.slice q1 (keepD { m with fNames := renameN m s t }).fNames.length p1)).setCell ⟨w.heap.size + 1, 2, none⟩ (.slice q2 (keepD { m with fNames := renameN m s t }).fSafe.length p2)).setCell ⟨w.heap.size + 1, 3, none⟩ (.int .i64 (keepD { m with fNames := renameN m s t }).fNext)) from turn4 _ _ _ _ _ _)
    exact bodyPost_ret (v := .tuple #[.agg #[.slice q0 (keepD { m with fNames := renameN m s t }).fInodes.length p0, .slice q1 (keepD { m with fNames := renameN m s t }).fNames.length p1, .slice q2 (keepD { m with fNames := renameN m s t }).fSafe.length p2, .int .i64 (keepD { m with fNames := renameN m s t }).fNext], .int .i64 0]) (by simp [results, Tryz.results35, go_sem, *]) rfl ⟨[.slice q0 (keepD { m with fNames := renameN m s t }).fInodes.length p0, .slice q1 (keepD { m with fNames := renameN m s t }).fNames.length p1, .slice q2 (keepD { m with fNames := renameN m s t }).fSafe.length p2, .int .i64 (keepD { m with fNames := renameN m s t }).fNext], by rw [HV.out.2], by rw [HV.out.1]; exact h1, h3⟩
  ·have HCP : Hid (renameC m s t = callP m s) := HRC
   have HV : Hid (renameP m s t = m) := by show _ = _; unfold renameP; rw [HCP.out, if_neg hC]
   have hcn : (callP m s == 0) = false := beq_eq_false_iff_ne.2 hC
   obtain ⟨cp, hcp⟩ : ∃ cp, callP m s = cp := ⟨_, rfl⟩
   have hcn2 : (callP m s != 0) = true := bne_iff_ne.2 hC
   rw [hcp] at hcn hcn2 hcn1 HCP ⊢
   clear hcp hC h1 hN0 HRC
   go_wp2_with fail
   refine (l2Name_any t _ ht).mono ?_
   rintro e w9 ⟨rfl, hw9⟩
   have hw8 := hw9.symm
   clear hw9
   subst hw8
   rw [hNt]
   obtain ⟨ze0, zf0, ze1, zf1, ze2, zf2, ze3, zf3⟩ := hbr2.c8
   have hlt0 := hbr2.lt
   have hO3 : oDisk w2 [.slice d0 m.fInodes.length e0, .slice d1 m.fNames.length e1, .slice d2 m.fSafe.length e2, .int .i64 m.fNext] (renameP m s t) (G0 ++ G1 ++ G2 ++ []) := by rw [HV.out]; exact oDisk_good.frame HO.out (fun b hb => hb12.block b (HLT.out b hb))
   have hG3 : ∀ b, b ∈ G0 ++ G1 ++ G2 ++ [] → w.heap.size + 2 ≤ b := fun b hb => by have := HGE.out b hb; omega
   have HBf := Hid.mk hb2
   have HO3 := Hid.mk hO3
   clear hO3
   go_wp2_with fail
   refine bodyPost_ret (v := .tuple #[.agg #[.slice d0 m.fInodes.length e0, .slice d1 m.fNames.length e1, .slice d2 m.fSafe.length e2, .int .i64 m.fNext], .int .i64 cp]) (by simp [results, Tryz.results35, go_sem, *]) rfl ⟨[.slice d0 m.fInodes.length e0, .slice d1 m.fNames.length e1, .slice d2 m.fSafe.length e2, .int .i64 m.fNext], by first | rfl | rw [HCP.out], ?_, ?_⟩
   ·exact ⟨_, oDisk_good.frame HO3.out (fun b hb => (show Turn [w.heap.size + 1] w2 _ from by repeat (first | with_reducible exact Turn.refl _ _ | with_reducible refine Turn.setCell ?_ (by simp) _ | with_reducible refine Turn.alloc ?_ _ | with_reducible refine Turn.drew ?_)).block b (oDisk_good.lt HO3.out b hb) (by intro h; simp at h; have := hG3 b hb; omega)), fun b hb => by first | (have := hG3 b hb; omega) | (have := hge b hb; omega) | (rcases hF4 b hb with h2 | h2; (have := HSUB.out b h2; omega); omega)⟩
   ·exact HBf.out.trans ((show Turn [w.heap.size + 1] w2 _ from by repeat (first | with_reducible exact Turn.refl _ _ | with_reducible refine Turn.setCell ?_ (by simp) _ | with_reducible refine Turn.alloc ?_ _ | with_reducible refine Turn.drew ?_)).below (fun k hk => by simp at hk; omega) HBf.out.size)
 ·have hNt : nameOk t = false := Bool.eq_false_iff.2 hN0
  have HCP : Hid (renameC m s t = 1) := by show _ = _; unfold renameC; rw [if_neg hN0]
  have HV : Hid (renameP m s t = m) := by show _ = _; unfold renameP; rw [HCP.out]; rfl
  obtain ⟨cp, hcp⟩ : ∃ cp, callP m s = cp := ⟨_, rfl⟩
  rw [hcp] at hcn1 ⊢
  clear hcp h1 hN0
  go_wp2_with fail
  refine (l2Name_any t _ ht).mono ?_
  rintro e w9 ⟨rfl, hw9⟩
  have hw8 := hw9.symm
  clear hw9
  subst hw8
  rw [hNt]
  obtain ⟨ze0, zf0, ze1, zf1, ze2, zf2, ze3, zf3⟩ := hbr2.c8
  have hlt0 := hbr2.lt
  have hO3 : oDisk w2 [.slice d0 m.fInodes.length e0, .slice d1 m.fNames.length e1, .slice d2 m.fSafe.length e2, .int .i64 m.fNext] (renameP m s t) (G0 ++ G1 ++ G2 ++ []) := by rw [HV.out]; exact oDisk_good.frame HO.out (fun b hb => hb12.block b (HLT.out b hb))
  have hG3 : ∀ b, b ∈ G0 ++ G1 ++ G2 ++ [] → w.heap.size + 2 ≤ b := fun b hb => by have := HGE.out b hb; omega
  have HBf := Hid.mk hb2
  have HO3 := Hid.mk hO3
  clear hO3
  go_wp2_with fail
  refine bodyPost_ret (v := .tuple #[.agg #[.slice d0 m.fInodes.length e0, .slice d1 m.fNames.length e1, .slice d2 m.fSafe.length e2, .int .i64 m.fNext], .int .i64 1]) (by simp [results, Tryz.results35, go_sem, *]) rfl ⟨[.slice d0 m.fInodes.length e0, .slice d1 m.fNames.length e1, .slice d2 m.fSafe.length e2, .int .i64 m.fNext], by first | rfl | rw [HCP.out], ?_, ?_⟩
  ·exact ⟨_, oDisk_good.frame HO3.out (fun b hb => (show Turn [w.heap.size + 1] w2 _ from by repeat (first | with_reducible exact Turn.refl _ _ | with_reducible refine Turn.setCell ?_ (by simp) _ | with_reducible refine Turn.alloc ?_ _ | with_reducible refine Turn.drew ?_)).block b (oDisk_good.lt HO3.out b hb) (by intro h; simp at h; have := hG3 b hb; omega)), fun b hb => by first | (have := hG3 b hb; omega) | (have := hge b hb; omega) | (rcases hF4 b hb with h2 | h2; (have := HSUB.out b h2; omega); omega)⟩
  ·exact HBf.out.trans ((show Turn [w.heap.size + 1] w2 _ from by repeat (first | with_reducible exact Turn.refl _ _ | with_reducible refine Turn.setCell ?_ (by simp) _ | with_reducible refine Turn.alloc ?_ _ | with_reducible refine Turn.drew ?_)).below (fun k hk => by simp at hk; omega) HBf.out.size)
theorem specRename_c (cs : List Value) (m : MDisk) (s t : ByteArray) (w : World) (hr : rDisk w.heap.size w cs m) (hs : s.size ≤ 9223372036854775807) (ht : t.size ≤ 9223372036854775807) (hw : wDisk m ≤ 1048576) (hw1 : s.size ≤ 1048576) (hwt1 : t.size ≤ 1048576) :
  Calls Tryz.prog 35 #[.agg cs.toArray, .string s, .string t] w fun e w' => ∃ cs' : List Value, e = .returned (.tuple #[.agg cs'.toArray, .int .i64 (renameC m s t)]) ∧ rDisk w'.heap.size w' cs' (renameP m s t) ∧ Below w.heap.size w w' :=
 (specRename_o cs m s t w hr hs ht hw hw1 hwt1).mono fun e w' ⟨cs', he, ⟨F, ho, _⟩, hx⟩ => ⟨cs', he, oDisk_good.read ho, hx⟩
theorem wpList_append_lit {P : Program} (w : World) {ops : Array Oper} {rest : List Oper} {o : Oper} {a : Act} {Q : Exit → Act → World → Prop} (hgd : o.guard = none) (s x : Operand) (t tx : TypeId)
  (ho : o.op = .call { callee := .builtin .append, args := #[s, x], argTypes := #[t, tx] })
  (base : Nat) (e : TypeId) (i : TypeInfo) (z : Value) (size bytes : Nat) (ht : P.underlying t = some (.slice e)) (hi : P.info? e = some i) (hz : i.zero = some z)
  (hsize : i.size = size) (hby : i.bytes = bytes) (hzs : z.cells.size = size)
  (g : Nat) (hs : a.eval s = .slice (some ⟨g, 0, none⟩) 0 0) (hown : w.ownsRow base e size (.slice (some ⟨g, 0, none⟩) 0 0) 0 [])
  (y : Value) (hy : a.eval x = y) (m : Nat) (news : List Value) (hx : Src P size tx y m news w)
  (h63 : m ≤ maxLen) (hbytes : m * bytes ≤ 140737488355328) (hbase : base ≤ w.heap.size)
  (h : ∀ v' w', w'.ownsRow base e size v' m news → Below w.heap.size w w' → (v'.ownBlock = some g ∨ v'.ownBlock = some w.heap.size) → wpList P ops Q rest (a.put o.dst v') w') : wpList P ops Q (o :: rest) a w := by
 refine wpList_plain hgd fun K hK => ?_
 subst hy
 obtain ⟨v', w', hr, h2, h3, h4⟩ := run_append_lit (P := P) w base t tx o.type e i z size bytes ht hi hz hsize hby hzs g hown (a.eval x) m news hx h63 hbytes hbase
 unfold Oper.wp execOp
 simp only [ho, resolve, invoke, builtin, Sem.run_bind, Sem.run_pure, Result.andThen_ok, List.map_toArray, List.map_cons, List.map_nil, hs, hr]
 exact hK _ _ (h v' w' h2 h3 h4)
set_option maxHeartbeats 4000000 in
theorem specSyncDir_o (cs : List Value) (m : MDisk) (w : World) (hr : rDisk w.heap.size w cs m) (hw : wDisk m ≤ 1048576) :
  Calls Tryz.prog 36 #[.agg cs.toArray] w fun e w' => ∃ cs' : List Value, e = .returned (.tuple #[.agg cs'.toArray, .int .i64 (syncDirC m)]) ∧ (∃ F, oDisk w' cs' (syncDirP m) F ∧ ∀ b, b ∈ F → w.heap.size ≤ b) ∧ Below w.heap.size w w' := by
 have hq := hr
 obtain ⟨a0, c0, a1, c1, a2, c2, rfl, hI, hNm, hSf, hnx, _⟩ := hq
 have hw2 : m.fInodes.length + sumW wInode m.fInodes + (m.fNames.length + sumW wEntry m.fNames) + (m.fSafe.length + sumW wEntry m.fSafe) ≤ 1048576 := hw
 have HW := Hid.mk hw
 have HR := Hid.mk hr
 clear hr hI hNm hSf hw
 obtain ⟨iE, hiE, hzE0, hzE1, hzE2⟩ := info_parts Tryz.infoOfEntry
 go_enter Tryz.func36, Tryz.ntmps36
 go_wp2_with fail
 obtain ⟨wq, hwq⟩ : ∃ wq, wq = ((w.alloc (.cells #[.slice a0 m.fInodes.length c0, .slice a1 m.fNames.length c1, .slice a2 m.fSafe.length c2, .int .i64 m.fNext] 25)).alloc (.cells #[.slice none 0 0, .slice none 0 0, .slice none 0 0, .int .i64 0] 25)) := ⟨_, rfl⟩
 have hbW : Below w.heap.size w wq := by rw [hwq]; exact Below.alloc (Below.alloc (Below.refl _ _) (by exact Nat.le_refl _) _) (by simp; try omega) _
 have hbd : Bw wq (w.heap.size) 25 [.slice a0 m.fInodes.length c0, .slice a1 m.fNames.length c1, .slice a2 m.fSafe.length c2, .int .i64 m.fNext] := by rw [hwq]; exact Bw.alloc (Bw.new' _ _ _ (by simp)) _
 have hbr : Bw wq (w.heap.size + 1) 25 [.slice none 0 0, .slice none 0 0, .slice none 0 0, .int .i64 0] := by rw [hwq]; exact Bw.new' _ _ _ (by simp)
 rw [← hwq]
 clear hwq
 refine (l2Copy_any _ m wq (rDisk_good.mono (rDisk_good.below HR.out hbW) hbW.size) HW.out).mono ?_
 rintro e w1 ⟨cs2, F2, rfl, ho2, hN2, hge2, hx1⟩
 obtain ⟨d0, e0, d1, e1, d2, e2, G0, G1, G2, rfl, o0, o1, o2, _, rfl⟩ := oDisk_cells ho2
 have HO0 := Hid.mk o0
 have HO1 := Hid.mk o1
 have HO2 := Hid.mk o2
 have HO := Hid.mk ho2
 have HN := Hid.mk hN2
 have HGE : Hid (∀ b, b ∈ G0 ++ G1 ++ G2 ++ [] → wq.heap.size ≤ b) := hge2
 have HLT : Hid (∀ b, b ∈ G0 ++ G1 ++ G2 ++ [] → b < w1.heap.size) := fun b hb => oDisk_good.lt ho2 b hb
 clear ho2 hN2 hge2 o0 o1 o2
 have hb1 := bthen hbW hx1
 have hbd1 := hbd.under hx1
 have hbr1 := hbr.under hx1
 have hz1 := hx1.size
 have hzW := hbW.size
 have hl0 := hbr.lt
 obtain ⟨y0, y1, y2, y3⟩ := hbd1.c4
 have hl1 := hbd1.lt
 go_wp2_with fail
 obtain ⟨wa, hwa⟩ : ∃ wa, wa = w1.alloc (.cells #[.slice d0 m.fInodes.length e0, .slice d1 m.fNames.length e1, .slice d2 m.fSafe.length e2, .int .i64 m.fNext] 25) := ⟨_, rfl⟩
 have hba : Below w1.heap.size w1 wa := by rw [hwa]; exact (Below.refl _ _).alloc (Nat.le_refl _) _
 have hwb0 : Bw wa w1.heap.size 25 [.slice d0 m.fInodes.length e0, .slice d1 m.fNames.length e1, .slice d2 m.fSafe.length e2, .int .i64 m.fNext] := by rw [hwa]; exact Bw.new _ _ _
 rw [← hwa]
 clear hwa
 have hba1 := bthen hb1 hba
 have hbda := (hbd1.under hba)
 refine (specDiskOk_c _ m wa (rDisk_good.mono (rDisk_good.below HR.out hba1) hba1.size) HW.out).mono ?_
 rintro e w2 ⟨rfl, hx2⟩
 have hb12 := bthen hba hx2
 have hb2 := bthen hba1 hx2
 have hwb := hwb0.under hx2
 have hbr2 := (hbr1.under hba).under hx2
 have hbd2 := hbda.under hx2
 clear hwb0 hbda hbd1 y0 y1 y2 y3
 obtain ⟨zo0, zo1, zo2, zo3⟩ := hwb.c4
 by_cases hK : diskOk m = true
 ·have HV : Hid (syncDirP m = keepD { m with fSafe := m.fNames } ∧ syncDirC m = 0) := by refine ⟨?_, ?_⟩ <;> simp [syncDirP, syncDirC, hK]
  have hsok := syncDir_ok hK
  have HE : Hid (endsD m { m with fSafe := m.fNames } = keepD { m with fSafe := m.fNames } ∧ endsC { m with fSafe := m.fNames } = 0) := by refine ⟨?_, ?_⟩ <;> simp only [endsD, endsC, hsok, if_true]
  have hwt := ok_weight hK
  have HWK1 : Hid (wDisk { m with fSafe := m.fNames } ≤ 16777216) := by show _ ≤ _; rw [wDisk_eq]; simp only; omega
  rw [hK]
  clear hK hsok
  have hbL : Below w2.heap.size w2 (w2.alloc (.cells #[] 56)) := (Below.refl _ _).alloc (Nat.le_refl _) _
  have hlf : LeafL 2 rEntry (w2.alloc (.cells #[] 56)).heap.size (w2.alloc (.cells #[] 56)) d1 e1 m.fNames := ownS.leaf oEntry_good (ownS.frame oEntry_good HO1.out (fun b hbF => (bthen hb12 hbL).block b (HLT.out b (by simp [hbF]))))
  obtain ⟨css, s1, s2, s3, s4⟩ := Src.ents (P := Tryz.prog) (c := e1) (n := m.fNames.length) Tryz.underlying23 rfl hlf.2.2
  have hlo := hwb.lt
  have fo2 := hwb.free 2
  have HBL := Hid.mk hbL
  clear hlf hbL
  go_wp2_with (at_builtin; refine wpList_append_lit _ rfl _ _ 23 23 rfl w2.heap.size 56 iE _ 2 24 Tryz.underlying23 hiE hzE0 hzE1 hzE2 rfl w2.heap.size rfl (own_lit0 w2 w2.heap.size _ _ (Nat.le_refl _)) (.slice d1 m.fNames.length e1) rfl m.fNames.length css.flatten s4 (by unfold maxLen; omega) (by omega) (by simp) ?_; intro v3 w3 hw3 hx3 hat3; obtain ⟨r3, q3, rfl⟩ := own_slice hw3; have hx23 := bthen HBL.out hx3; have zf2 := (hwb.under hx23).free 2; have hl3 := (hwb.under hx23).lt; have hl3d := (hbd2.under hx23).lt; have yd0 := (hbd2.under hx23).cell 0 _ rfl; have yd1 := (hbd2.under hx23).cell 1 _ rfl; have yd2 := (hbd2.under hx23).cell 2 _ rfl; have yd3 := (hbd2.under hx23).cell 3 _ rfl; have zd0 := (hwb.under hx23).cell 0 _ rfl; have zd1 := (hwb.under hx23).cell 1 _ rfl; have zd2 := (hwb.under hx23).cell 2 _ rfl; have zd3 := (hwb.under hx23).cell 3 _ rfl)
  have hos3 := ownS_row rfl s1 s2 s3 hw3
  have HGS : Hid (∀ b, b ∈ (Value.ownBlock (.slice r3 m.fNames.length q3)).toList → w2.heap.size ≤ b) := fun b hb => (hw3.lt b (by simpa using hb)).1
  obtain ⟨ws, hws⟩ : ∃ ws, ws = w3.setCell ⟨w1.heap.size, 2, none⟩ (.slice r3 m.fNames.length q3) := ⟨_, rfl⟩
  have hTs : Turn [w1.heap.size] w3 ws := by rw [hws]; exact Turn.setCell (Turn.refl _ _) (by simp) _
  have hwb3 := hwb.under hx23
  have hwbs : Bw ws w1.heap.size 25 [.slice d0 m.fInodes.length e0, .slice d1 m.fNames.length e1, .slice r3 m.fNames.length q3, .int .i64 m.fNext] := by rw [hws]; exact hwb3.put 2 _
  have hbds := (hbd2.under hx23).turn hTs (by simp; omega)
  have hbrs := (hbr2.under hx23).turn hTs (by simp; omega)
  have hb3 := bthen hb2 hx23
  have hBs : Below w.heap.size w ws := hb3.trans (hTs.below (fun k hk => by simp at hk; omega) hb3.size)
  have hfr : ∀ b, b ∈ G0 ++ G1 ++ G2 ++ [] → ws.heap[b]? = w1.heap[b]? := fun b hb => by
   have h1 := HLT.out b hb
   rw [hTs.block b (by have := (bthen hb12 hx23).size; omega) (by simp; omega), (bthen hb12 hx23).block b h1]
  have t0 := ownS.frame (w' := ws) oInode_good HO0.out (fun b hb => hfr b (by simp [hb]))
  have t1 := ownS.frame (w' := ws) oEntry_good HO1.out (fun b hb => hfr b (by simp [hb]))
  have hz12 := hb12.size
  have t2 := ownS.frame (w' := ws) oEntry_good hos3 (fun b hb => hTs.block b (ownS.lt oEntry_good hos3 b hb) (by intro h; simp at h; have := HGS.out b hb; omega))
  have HT0 := Hid.mk t0
  have HT1 := Hid.mk t1
  have HT2 := Hid.mk t2
  have HBS := Hid.mk hBs
  have HSUB : Hid (∀ b, b ∈ G0 ++ G1 ++ (Value.ownBlock (.slice r3 m.fNames.length q3)).toList → w.heap.size + 2 ≤ b) := by
   intro b hb
   rw [List.mem_append, List.mem_append] at hb
   rcases hb with (hb | hb) | hb
   ·have := HGE.out b (by simp [hb]); omega
   ·have := HGE.out b (by simp [hb]); omega
   ·have := HGS.out b hb; omega
  rw [← hws]
  clear hws t0 t1 t2 hfr hos3 hTs zf2 zo0 zo1 zo2 zo3 fo2 hw3 s4 yd0 yd1 yd2 yd3 zd0 zd1 zd2 zd3
  refine (l2Ends_any _ d0 d1 r3 e0 e1 q3 m { m with fSafe := m.fNames } G0 G1 _ ws (rDisk_good.mono (rDisk_good.below HR.out HBS.out) HBS.out.size) HW.out HT0.out HT1.out HT2.out hnx HWK1.out (by simp only; omega)).mono ?_
  rintro e w4 ⟨cs4, F4, rfl, ho4, hF4, hx4⟩
  have hb4 := bthen HBS.out hx4
  have hbr4 := hbrs.under hx4
  have hl4 := hbr4.lt
  have hzE := HBS.out.size
  have hlE := hbrs.lt
  rw [HE.out.1] at ho4
  obtain ⟨q0, p0, q1, p1, q2, p2, E0, E1, E2, rfl, _, _, _, _, rfl⟩ := oDisk_cells ho4
  have hkey : ∀ W', Turn [w.heap.size + 1] w4 W' → (∃ F, oDisk W' [.slice q0 (keepD { m with fSafe := m.fNames }).fInodes.length p0, .slice q1 (keepD { m with fSafe := m.fNames }).fNames.length p1, .slice q2 (keepD { m with fSafe := m.fNames }).fSafe.length p2, .int .i64 (keepD { m with fSafe := m.fNames }).fNext] (keepD { m with fSafe := m.fNames }) F ∧ ∀ b, b ∈ F → w.heap.size ≤ b) ∧ Below w.heap.size w W' := fun W' hT =>
   ⟨⟨_, oDisk_good.frame ho4 (fun b hb => hT.block b (oDisk_good.lt ho4 b hb) (fun h => by simp at h; rcases hF4 b hb with h2 | h2; (have := HSUB.out b h2; omega); omega)), fun b hb => by first | (have := hG3 b hb; omega) | (have := hge b hb; omega) | (rcases hF4 b hb with h2 | h2; (have := HSUB.out b h2; omega); omega)⟩, hb4.trans (hT.below (fun k hk => by simp at hk; omega) hb4.size)⟩
  have HKEY := Hid.mk hkey
  clear hkey ho4 hF4
  obtain ⟨ze0, ze1, ze2, ze3⟩ := hbr4.c4
  obtain ⟨zf0, zf1, zf2, zf3⟩ := hbr4.f4
  have HEC : Hid (endsC { m with fSafe := m.fNames } = 0) := HE.out.2
  rw [HEC.out]
  go_wp2_with fail
  obtain ⟨h1, h3⟩ := HKEY.out _ (show Turn [w.heap.size + 1] w4 ((((w4.setCell ⟨w.heap.size + 1, 0, none⟩ (.slice q0 (keepD { m with fSafe := m.fNames }).fInodes.length p0)).setCell ⟨w.heap.size + 1, 1, none⟩ (.slice q1 (keepD { m with fSafe := m.fNames }).fNames.length p1)).setCell ⟨w.heap.size + 1, 2, none⟩ (.slice q2 (keepD { m with fSafe := m.fNames }).fSafe.length p2)).setCell ⟨w.heap.size + 1, 3, none⟩ (.int .i64 (keepD { m with fSafe := m.fNames }).fNext)) from turn4 _ _ _ _ _ _)
  exact bodyPost_ret (v := .tuple #[.agg #[.slice q0 (keepD { m with fSafe := m.fNames }).fInodes.length p0, .slice q1 (keepD { m with fSafe := m.fNames }).fNames.length p1, .slice q2 (keepD { m with fSafe := m.fNames }).fSafe.length p2, .int .i64 (keepD { m with fSafe := m.fNames }).fNext], .int .i64 0]) (by simp [results, Tryz.results36, go_sem, *]) rfl ⟨[.slice q0 (keepD { m with fSafe := m.fNames }).fInodes.length p0, .slice q1 (keepD { m with fSafe := m.fNames }).fNames.length p1, .slice q2 (keepD { m with fSafe := m.fNames }).fSafe.length p2, .int .i64 (keepD { m with fSafe := m.fNames }).fNext], by rw [HV.out.2], by rw [HV.out.1]; exact h1, h3⟩
 ·have hK2 : diskOk m = false := Bool.eq_false_iff.2 hK
  have HV : Hid (syncDirP m = m ∧ syncDirC m = 1) := by refine ⟨?_, ?_⟩ <;> simp [syncDirP, syncDirC, hK2]
  have HCP : Hid (syncDirC m = 1) := HV.out.2
  rw [hK2]
  clear hK hK2
  obtain ⟨ze0, zf0, ze1, zf1, ze2, zf2, ze3, zf3⟩ := hbr2.c8
  have hlt0 := hbr2.lt
  have hO3 : oDisk w2 [.slice d0 m.fInodes.length e0, .slice d1 m.fNames.length e1, .slice d2 m.fSafe.length e2, .int .i64 m.fNext] (syncDirP m) (G0 ++ G1 ++ G2 ++ []) := by rw [HV.out.1]; exact oDisk_good.frame HO.out (fun b hb => hb12.block b (HLT.out b hb))
  have hG3 : ∀ b, b ∈ G0 ++ G1 ++ G2 ++ [] → w.heap.size + 2 ≤ b := fun b hb => by have := HGE.out b hb; omega
  have HBf := Hid.mk hb2
  have HO3 := Hid.mk hO3
  clear hO3
  go_wp2_with fail
  refine bodyPost_ret (v := .tuple #[.agg #[.slice d0 m.fInodes.length e0, .slice d1 m.fNames.length e1, .slice d2 m.fSafe.length e2, .int .i64 m.fNext], .int .i64 1]) (by simp [results, Tryz.results36, go_sem, *]) rfl ⟨[.slice d0 m.fInodes.length e0, .slice d1 m.fNames.length e1, .slice d2 m.fSafe.length e2, .int .i64 m.fNext], by first | rfl | rw [HCP.out], ?_, ?_⟩
  ·exact ⟨_, oDisk_good.frame HO3.out (fun b hb => (show Turn [w.heap.size + 1] w2 _ from by repeat (first | with_reducible exact Turn.refl _ _ | with_reducible refine Turn.setCell ?_ (by simp) _ | with_reducible refine Turn.alloc ?_ _ | with_reducible refine Turn.drew ?_)).block b (oDisk_good.lt HO3.out b hb) (by intro h; simp at h; have := hG3 b hb; omega)), fun b hb => by first | (have := hG3 b hb; omega) | (have := hge b hb; omega) | (rcases hF4 b hb with h2 | h2; (have := HSUB.out b h2; omega); omega)⟩
  ·exact HBf.out.trans ((show Turn [w.heap.size + 1] w2 _ from by repeat (first | with_reducible exact Turn.refl _ _ | with_reducible refine Turn.setCell ?_ (by simp) _ | with_reducible refine Turn.alloc ?_ _ | with_reducible refine Turn.drew ?_)).below (fun k hk => by simp at hk; omega) HBf.out.size)
theorem specSyncDir_c (cs : List Value) (m : MDisk) (w : World) (hr : rDisk w.heap.size w cs m) (hw : wDisk m ≤ 1048576) :
  Calls Tryz.prog 36 #[.agg cs.toArray] w fun e w' => ∃ cs' : List Value, e = .returned (.tuple #[.agg cs'.toArray, .int .i64 (syncDirC m)]) ∧ rDisk w'.heap.size w' cs' (syncDirP m) ∧ Below w.heap.size w w' :=
 (specSyncDir_o cs m w hr hw).mono fun e w' ⟨cs', he, ⟨F, ho, _⟩, hx⟩ => ⟨cs', he, oDisk_good.read ho, hx⟩
abbrev q15c_107_5_0 : Oper := ⟨some 13, .move (.tmp 3), 51, "l06_manifest.go:96", #[], none⟩
abbrev q15c_107_5_1 : Oper := ⟨some 14, .move (.tmp 5), 5, "l06_manifest.go:96", #[], none⟩
abbrev q15c_107_5_2 : Oper := ⟨some 15, .binOp .quo 5 (.tmp 14) (.const (.int .u8 16)) 5, 5, "l06_manifest.go:96", #[⟨1, .data⟩], none⟩
abbrev q15c_107_5_3 : Oper := ⟨some 16, .index 9 (.const (.string { data := #[48, 49, 50, 51, 52, 53, 54, 55, 56, 57, 97, 98, 99, 100, 101, 102] })) (.tmp 15), 5, "l06_manifest.go:96", #[⟨2, .data⟩], none⟩
abbrev q15c_107_5_4 : Oper := ⟨some 17, .move (.tmp 5), 5, "l06_manifest.go:96", #[], none⟩
abbrev q15c_107_5_5 : Oper := ⟨some 18, .binOp .rem 5 (.tmp 17) (.const (.int .u8 16)) 5, 5, "l06_manifest.go:96", #[⟨4, .data⟩], none⟩
abbrev q15c_107_5_6 : Oper := ⟨some 19, .index 9 (.const (.string { data := #[48, 49, 50, 51, 52, 53, 54, 55, 56, 57, 97, 98, 99, 100, 101, 102] })) (.tmp 18), 5, "l06_manifest.go:96", #[⟨5, .data⟩], none⟩
abbrev q15c_107_5_7 : Oper := ⟨some 20, .buildSlice 51 2 #[(0, .tmp 16), (1, .tmp 19)], 51, "l06_manifest.go:96", #[⟨3, .data⟩, ⟨6, .data⟩], none⟩
abbrev q15c_107_5_8 : Oper := ⟨some 21, .call { callee := .builtin .append, args := #[.tmp 13, .tmp 20], argTypes := #[51, 51] }, 51, "l06_manifest.go:96", #[⟨0, .data⟩, ⟨7, .data⟩], none⟩
abbrev q15c_107_5_9 : Oper := ⟨some 3, .assign (.tmp 21), 51, "l06_manifest.go:96", #[⟨8, .data⟩, ⟨8, .chain⟩, ⟨0, .phase⟩, ⟨1, .phase⟩, ⟨2, .phase⟩, ⟨3, .phase⟩, ⟨4, .phase⟩, ⟨5, .phase⟩, ⟨6, .phase⟩, ⟨7, .phase⟩, ⟨8, .phase⟩], none⟩
abbrev q15c_68_6_0 : Oper := ⟨some 13, .move (.tmp 4), 51, "l06_manifest.go:41", #[], none⟩
abbrev q15c_68_6_1 : Oper := ⟨some 14, .move (.tmp 3), 9, "l06_manifest.go:41", #[], none⟩
abbrev q15c_68_6_2 : Oper := ⟨some 15, .move (.tmp 0), 9, "l06_manifest.go:41", #[], none⟩
abbrev q15c_68_6_3 : Oper := ⟨some 16, .move (.tmp 5), 3, "l06_manifest.go:41", #[], none⟩
abbrev q15c_68_6_4 : Oper := ⟨some 17, .index 9 (.tmp 15) (.tmp 16), 5, "l06_manifest.go:41", #[⟨2, .data⟩, ⟨3, .data⟩], none⟩
abbrev q15c_68_6_5 : Oper := ⟨some 18, .binOp .shr 5 (.tmp 17) (.const (.int .u64 4)) 106, 5, "l06_manifest.go:41", #[⟨4, .data⟩], none⟩
abbrev q15c_68_6_6 : Oper := ⟨some 19, .index 9 (.tmp 14) (.tmp 18), 5, "l06_manifest.go:41", #[⟨1, .data⟩, ⟨5, .data⟩], none⟩
abbrev q15c_68_6_7 : Oper := ⟨some 20, .move (.tmp 3), 9, "l06_manifest.go:41", #[], none⟩
abbrev q15c_68_6_8 : Oper := ⟨some 21, .move (.tmp 0), 9, "l06_manifest.go:41", #[], none⟩
abbrev q15c_68_6_9 : Oper := ⟨some 22, .move (.tmp 5), 3, "l06_manifest.go:41", #[], none⟩
abbrev q15c_68_6_10 : Oper := ⟨some 23, .index 9 (.tmp 21) (.tmp 22), 5, "l06_manifest.go:41", #[⟨8, .data⟩, ⟨9, .data⟩], none⟩
abbrev q15c_68_6_11 : Oper := ⟨some 24, .binOp .and 5 (.tmp 23) (.const (.int .u8 15)) 5, 5, "l06_manifest.go:41", #[⟨10, .data⟩], none⟩
abbrev q15c_68_6_12 : Oper := ⟨some 25, .index 9 (.tmp 20) (.tmp 24), 5, "l06_manifest.go:41", #[⟨7, .data⟩, ⟨11, .data⟩], none⟩
abbrev q15c_68_6_13 : Oper := ⟨some 26, .buildSlice 51 2 #[(0, .tmp 19), (1, .tmp 25)], 51, "l06_manifest.go:41", #[⟨6, .data⟩, ⟨12, .data⟩], none⟩
abbrev q15c_68_6_14 : Oper := ⟨some 27, .call { callee := .builtin .append, args := #[.tmp 13, .tmp 26], argTypes := #[51, 51] }, 51, "l06_manifest.go:41", #[⟨0, .data⟩, ⟨13, .data⟩], none⟩
abbrev q15c_68_6_15 : Oper := ⟨some 4, .assign (.tmp 27), 51, "l06_manifest.go:41", #[⟨14, .data⟩, ⟨14, .chain⟩, ⟨0, .phase⟩, ⟨1, .phase⟩, ⟨2, .phase⟩, ⟨3, .phase⟩, ⟨4, .phase⟩, ⟨5, .phase⟩, ⟨6, .phase⟩, ⟨7, .phase⟩, ⟨8, .phase⟩, ⟨9, .phase⟩, ⟨10, .phase⟩, ⟨11, .phase⟩, ⟨12, .phase⟩, ⟨13, .phase⟩, ⟨14, .phase⟩], none⟩
def hexZ (zs : List Int) : List Int := zs.flatMap fun c => [((hexD (c / 16).toNat).toNat : Int), ((hexD (c % 16).toNat).toNat : Int)]
theorem hexZ_take {zs : List Int} {k : Nat} (h : k < zs.length) : hexZ (zs.take (k + 1)) = hexZ (zs.take k) ++ [((hexD (zs[k] / 16).toNat).toNat : Int), ((hexD (zs[k] % 16).toNat).toNat : Int)] := by
 unfold hexZ
 rw [List.take_succ_eq_append_getElem h, List.flatMap_append]
 simp
theorem hexZ_len (zs : List Int) : (hexZ zs).length = 2 * zs.length := by
 induction zs with
 | nil => rfl
 | cons x r ih => unfold hexZ at ih ⊢; rw [List.flatMap_cons, List.length_append, ih]; simp; omega
theorem hexZ_str (s : ByteArray) : strOfNums (hexZ (byteInts s)) = strB (hexT s) := by
 rw [strB_nums]
 apply strB_inj
 unfold hexZ byteInts hexT
 induction s.data.toList with
 | nil => rfl
 | cons x r ih =>
  rw [List.map_cons, List.flatMap_cons, List.flatMap_cons, List.map_append, ih]
  congr 1
  simp only [hexB, List.map_cons, List.map_nil]
  have h1 : (((x.toNat : Nat) : Int) / 16).toNat = x.toNat / 16 := by omega
  have h2 : (((x.toNat : Nat) : Int) % 16).toNat = x.toNat % 16 := by omega
  rw [h1, h2]
  simp
theorem conv_hex {w : World} {base e : Nat} {v : Value} {bs : List Int} (h : w.ownsRow base e 1 v bs.length (bs.map (Value.int .u8))) :
  (convert 51 9 v).run Tryz.prog w = .ok (.string (strOfNums bs)) w := by
 obtain ⟨a, c, rfl, _, hr⟩ := own_rd rfl h
 cases a with
 | none =>
  have hz : bs = [] := by
   cases bs with
   | nil => rfl
   | cons z r =>
    obtain ⟨_, _, h, _⟩ := hr 0 (by simp)
    cases h
  subst hz
  exact run_convert_bytes_nil w 51 5 Tryz.underlying51 Tryz.underlying5 _ _ 9 Tryz.underlying9
 | some ad =>
  rcases h.2 with ⟨h', _⟩ | ⟨g, cap, cur, h', _⟩
  ·simp at h'
  ·simp only [Value.slice.injEq, Option.some.injEq, true_and] at h'
   obtain ⟨rfl, rfl⟩ := h'
   exact run_convert_bytes_arg w 51 5 Tryz.underlying51 Tryz.underlying5 g 0 bs.length c bs rfl (fun i hi => by
    obtain ⟨b', o', e', _, hc⟩ := hr i hi
    simp only [Option.some.injEq, Addr.mk.injEq, and_true] at e'
    obtain ⟨rfl, rfl⟩ := e'
    exact hc) 9 Tryz.underlying9
theorem rd_two (k : IntKind) (w : World) (x y : Int) (t : TypeId) : Rd k (w.heap.size + 1) (w.alloc (.cells #[.int k x, .int k y] t)) (some ⟨w.heap.size, 0, none⟩) [x, y] := by
 intro j hj
 simp only [List.length_cons, List.length_nil] at hj
 have hj0 : j = 0 ∨ j = 1 := by omega
 rcases hj0 with rfl | rfl
 ·exact ⟨w.heap.size, 0, rfl, by omega, by simp⟩
 ·exact ⟨w.heap.size, 0, rfl, by omega, by simp⟩
theorem hexAt (c : Int) (w : World) (h0 : 0 ≤ c) (h1 : c < 16) :
  (Instr.index 9 (.string ⟨#[48, 49, 50, 51, 52, 53, 54, 55, 56, 57, 97, 98, 99, 100, 101, 102]⟩) (.int .u8 c)).run Tryz.prog w = .ok (.int .u8 ((hexD c.toNat).toNat : Int)) w := by
 have hh : ∀ i : Fin 16, (Instr.index 9 (.string ⟨#[48, 49, 50, 51, 52, 53, 54, 55, 56, 57, 97, 98, 99, 100, 101, 102]⟩) (.int .u8 (i.val : Int))).run Tryz.prog w = .ok (.int .u8 ((hexD i.val).toNat : Int)) w := by
  intro i
  rw [run_index_string w 9 _ .u8 _ Tryz.underlying9]
  have hi : (0 : Int) ≤ (i.val : Int) ∧ (i.val : Int) < ((⟨#[48, 49, 50, 51, 52, 53, 54, 55, 56, 57, 97, 98, 99, 100, 101, 102]⟩ : ByteArray).size : Int) := ⟨by omega, by have := i.isLt; show (i.val : Int) < 16; omega⟩
  rw [dif_pos hi]
  congr 3
  revert i
  decide
 obtain ⟨i, hi⟩ : ∃ i : Nat, c = (i : Int) := ⟨c.toNat, by omega⟩
 subst hi
 exact hh ⟨i, by omega⟩
set_option maxHeartbeats 2000000 in
theorem digitsOf_any (s : ByteArray) (w : World) (hs : s.size ≤ 1048576) :
  Calls Tryz.prog 107 #[.string s] w fun e w' => e = .returned (.string (strB (hexT s))) ∧ Below w.heap.size w w' := by
 obtain ⟨i0, hi0⟩ := info_parts Tryz.info5
 have HI := Hid.mk hi0
 clear hi0
 obtain ⟨w1, cap, hcv, hb1, hr1⟩ := strRd s w
 have HR := Hid.mk hr1
 have HO := Hid.mk (byteInts_ok s)
 have HS := Hid.mk (hexZ_str s)
 obtain ⟨zs, hzs⟩ : ∃ z, z = byteInts s := ⟨_, rfl⟩
 have hzl : zs.length = s.size := by rw [hzs]; exact byteInts_length s
 rw [← hzs] at HR HO HS
 obtain ⟨n, hn⟩ : ∃ n, n = s.size := ⟨_, rfl⟩
 rw [← hn] at hzl hs hcv
 have HX := Hid.mk hzl
 clear hzs hzl hr1 hn
 go_enter Tryz.func107, Tryz.ntmps107
 go_wp2_with fail
 clear hcv
 go_loopw [3, 9] (fun v i wr => ∃ k : Nat, k ≤ n ∧ i = .int .i64 k ∧ wr.ownsRow w1.heap.size 5 1 v (hexZ (zs.take k)).length ((hexZ (zs.take k)).map (Value.int .u8)) ∧ Below w1.heap.size w1 wr) (fun _ i _ => n - (intOf i).toNat)
 case atStart => exact ⟨0, Nat.zero_le _, rfl, ⟨rfl, .inl ⟨rfl, rfl⟩⟩, Below.refl _ _⟩
 case round =>
  obtain ⟨k, hk, rfl, hown, hbk⟩ := hrel
  by_cases hlt : k < n
  ·have hkl : k < zs.length := by rw [HX.out]; exact hlt
   obtain ⟨b2, o2, he2, hB2, hc2⟩ := (HR.out.below hbk) k hkl
   simp only [Option.some.injEq, Addr.mk.injEq, and_true] at he2
   obtain ⟨rfl, rfl⟩ := he2
   have hcb := HO.out zs[k] (List.getElem_mem hkl)
   have HZ := Hid.mk (hexZ_take hkl)
   rw [List.getD_eq_getElem?_getD, List.getElem?_eq_getElem hkl, Option.getD_some, Nat.zero_add] at hc2
   generalize zs[k] = c at *
   have hl2 : (hexZ (zs.take k)).length ≤ 2097152 := by rw [hexZ_len]; simp; omega
   generalize hexZ (zs.take k) = out at *
   have hB3 : w.heap.size < wr.heap.size := Nat.lt_of_lt_of_le hB2 hbk.size
   have e1 : c.tdiv 16 = c / 16 := Int.tdiv_eq_ediv_of_nonneg hcb.1
   have e2 : c.tmod 16 = c % 16 := Int.tmod_eq_emod_of_nonneg hcb.1
   have hd1 : 0 ≤ c / 16 ∧ c / 16 < 16 := by omega
   have hd2 : 0 ≤ c % 16 ∧ c % 16 < 16 := by omega
   have hw1 : IntKind.u8.wrap (c / 16) = c / 16 := by rw [IntKind.wrap_u8]; omega
   have hw2 : IntKind.u8.wrap (c % 16) = c % 16 := by rw [IntKind.wrap_u8]; omega
   have hx1 := fun (W : World) => hexAt (c / 16) W hd1.1 hd1.2
   have hx2 := fun (W : World) => hexAt (c % 16) W hd2.1 hd2.2
   generalize ((hexD (c / 16).toNat).toNat : Int) = x1 at *
   generalize ((hexD (c % 16).toNat).toNat : Int) = x2 at *
   go_wp2_with fail
   refine wp_region_held_drew (S := fun W => Below w1.heap.size w1 W) (by kernel_rfl) (Below.drew hbk) (fun hHeld => ?_)
   refine uq 0 q15c_107_5_0 13 hHeld ?_
   refine uq 1 q15c_107_5_1 14 hHeld ?_
   refine uq 2 q15c_107_5_2 15 hHeld ?_
   refine uq 3 q15c_107_5_3 16 hHeld ?_
   refine uq 4 q15c_107_5_4 17 hHeld ?_
   refine uq 5 q15c_107_5_5 18 hHeld ?_
   refine uq 6 q15c_107_5_6 19 hHeld ?_
   refine ar1 7 q15c_107_5_7 fun K hK => ?_
   go_simp
   obtain ⟨w5, hq5⟩ : ∃ x, x = (wr.alloc (.cells (List.toArray [Value.int .u8 x1, Value.int .u8 x2]) 5)).drew := ⟨_, rfl⟩
   have hx1 : Below wr.heap.size wr w5 := by rw [hq5]; exact Below.drew ((Below.refl _ _).alloc (Nat.le_refl _) _)
   have hop1 : Below w1.heap.size w1 w5 := hbk.trans (hx1.mono hbk.size)
   have HR5 : Hid (Rd .u8 (wr.heap.size + 1) w5 (some ⟨wr.heap.size, 0, none⟩) [x1, x2]) := by rw [hq5]; exact rd_two .u8 wr x1 x2 5
   have HO5 := Hid.mk (own_below hown hx1)
   rw [← hq5]
   clear hq5
   refine hK.out _ _ (hop1) (fun hHeld => ?_)
   clear hK K
   try simp only[Act.put,sa,s0,s1]
   refine ar1 8 q15c_107_5_8 fun K hK => ?_
   refine step_append_src w5 rfl _ _ 51 51 rfl w1.heap.size 5 i0 (.int .u8 0) 1 1 Tryz.underlying51 HI.out.1 HI.out.2.1 HI.out.2.2.1 HI.out.2.2.2 rfl u3 out.length (out.map (Value.int .u8)) rfl HO5.out (.slice (some ⟨wr.heap.size, 0, none⟩) 2 2) rfl 2 ([x1, x2].map (Value.int .u8)) (Src.rd Tryz.underlying51 rfl HR5.out) (by unfold maxLen; omega) (by omega) hop1.size ?_
   intro v6 w6 ho6 hgr6 hat6
   have hop2 : Below w1.heap.size w1 w6 := hop1.grown hgr6 hop1.size (fun k h => (HO5.out.lt k h).1)
   have HO6 : Hid (w6.ownsRow w1.heap.size 5 1 v6 (out ++ [x1, x2]).length ((out ++ [x1, x2]).map (Value.int .u8))) := own_congr ho6 (by simp) (by simp)
   clear ho6 hgr6 hat6
   refine hK.out _ _ (hop2) (fun hHeld => ?_)
   clear hK K
   try simp only[Act.put,sa,s0,s1]
   refine uq 9 q15c_107_5_9 3 hHeld ?_
   refine wpAnyH_done (by kernel_rfl) ?_ _
   go_wp2_with fail
   go_roundw
   case rel => exact ⟨k + 1, by omega, by go_num, by rw [HZ.out]; exact HO6.out, hop2⟩
   case measure => simp [intOf]; omega
  ·have HT1 : Hid (zs.take k = zs) := List.take_of_length_le (by rw [HX.out]; omega)
   rw [HT1.out] at hown
   have hcv := conv_hex hown
   rw [HS.out] at hcv
   go_wp2_with fail
   go_ret
   exact ⟨rfl, bthen hb1 hbk⟩
theorem and15_u8 {x : Int} (h0 : 0 ≤ x) (h1 : x ≤ 255) : bits .and .u8 x 15 = x % 16 := by
 rw [u8_and x 15 h0 (by omega) (by omega) (by omega)]
 have : x.toNat &&& (15 : Int).toNat = x.toNat % 16 := Nat.and_two_pow_sub_one_eq_mod x.toNat 4
 omega
theorem strAt (s : ByteArray) {k : Nat} (w : World) (h : k < (byteInts s).length) :
  (Instr.index 9 (.string s) (.int .i64 k)).run Tryz.prog w = .ok (.int .u8 (byteInts s)[k]) w := by
 have hs : k < s.size := by rw [← byteInts_length]; exact h
 rw [run_index_string w 9 _ .i64 _ Tryz.underlying9, dif_pos ⟨by omega, by omega⟩]
 congr 2
 simp [byteInts]
 rfl
set_option maxHeartbeats 2000000 in
theorem l6Hex_any (s : ByteArray) (w : World) (hs : s.size ≤ 1048576) :
  Calls Tryz.prog 68 #[.string s] w fun e w' => e = .returned (.string (strB (hexT s))) ∧ Below w.heap.size w w' := by
 obtain ⟨i0, hi0⟩ := info_parts Tryz.info5
 have HI := Hid.mk hi0
 clear hi0
 have HO := Hid.mk (byteInts_ok s)
 have HS := Hid.mk (hexZ_str s)
 obtain ⟨zs, hzs⟩ : ∃ z, z = byteInts s := ⟨_, rfl⟩
 have hzl : zs.length = s.size := by rw [hzs]; exact byteInts_length s
 rw [← hzs] at HO HS
 have HA : Hid (∀ (k : Nat) (W : World) (h : k < zs.length), (Instr.index 9 (.string s) (.int .i64 k)).run Tryz.prog W = .ok (.int .u8 zs[k]) W) := by subst hzs; exact fun k W h => strAt s W h
 have HX := Hid.mk hzl
 clear hzs hzl
 go_enter Tryz.func68, Tryz.ntmps68
 go_wp2_with fail
 obtain ⟨wq, hwq⟩ : ∃ x, x = w.alloc (.cells #[] 5) := ⟨_, rfl⟩
 have hbq : Below w.heap.size w wq := by rw [hwq]; exact (Below.refl _ _).alloc (Nat.le_refl _) _
 have hoo : wq.ownsRow w.heap.size 5 1 (.slice (some ⟨w.heap.size, 0, none⟩) 0 0) 0 [] := by
  rw [hwq]
  exact ⟨by simp, .inr ⟨w.heap.size, 0, #[], rfl, Nat.le_refl _, (show (w.heap.push _)[w.heap.size]? = _ from Array.getElem?_push_size), by omega, by simp [maxLen], by simp, by simp⟩⟩
 rw [← hwq]
 clear hwq
 go_loopw [4, 5] (fun v i wr => ∃ k : Nat, k ≤ s.size ∧ i = .int .i64 k ∧ wr.ownsRow w.heap.size 5 1 v (hexZ (zs.take k)).length ((hexZ (zs.take k)).map (Value.int .u8)) ∧ Below w.heap.size w wr) (fun _ i _ => s.size - (intOf i).toNat)
 case atStart => exact ⟨0, Nat.zero_le _, rfl, hoo, hbq⟩
 case round =>
  obtain ⟨k, hk, rfl, hown, hbk⟩ := hrel
  clear hoo hbq
  by_cases hlt : k < s.size
  ·have hkl : k < zs.length := by rw [HX.out]; exact hlt
   have hcb := HO.out zs[k] (List.getElem_mem hkl)
   have HZ := Hid.mk (hexZ_take hkl)
   have hsk := fun W => HA.out k W hkl
   generalize zs[k] = c at *
   have hl2 : (hexZ (zs.take k)).length ≤ 2097152 := by rw [hexZ_len]; simp; omega
   generalize hexZ (zs.take k) = out at *
   have hd1 : 0 ≤ c / 16 ∧ c / 16 < 16 := by omega
   have hd2 : 0 ≤ c % 16 ∧ c % 16 < 16 := by omega
   have hw1 : IntKind.u8.wrap (c / 16) = c / 16 := by rw [IntKind.wrap_u8]; omega
   have hw2 : IntKind.u8.wrap (c % 16) = c % 16 := by rw [IntKind.wrap_u8]; omega
   have hx1 := fun (W : World) => hexAt (c / 16) W hd1.1 hd1.2
   have hx2 := fun (W : World) => hexAt (c % 16) W hd2.1 hd2.2
   have ha2 := and15_u8 hcb.1 hcb.2
   generalize ((hexD (c / 16).toNat).toNat : Int) = x1 at *
   generalize ((hexD (c % 16).toNat).toNat : Int) = x2 at *
   go_wp2_with fail
   refine wp_region_held_drew (S := fun W => Below w.heap.size w W) (by kernel_rfl) (Below.drew hbk) (fun hHeld => ?_)
   refine uq 0 q15c_68_6_0 13 hHeld ?_
   refine uq 1 q15c_68_6_1 14 hHeld ?_
   refine uq 2 q15c_68_6_2 15 hHeld ?_
   refine uq 3 q15c_68_6_3 16 hHeld ?_
   refine uq 4 q15c_68_6_4 17 hHeld ?_
   refine uq 5 q15c_68_6_5 18 hHeld ?_
   refine uq 6 q15c_68_6_6 19 hHeld ?_
   refine uq 7 q15c_68_6_7 20 hHeld ?_
   refine uq 8 q15c_68_6_8 21 hHeld ?_
   refine uq 9 q15c_68_6_9 22 hHeld ?_
   refine uq 10 q15c_68_6_10 23 hHeld ?_
   refine uq 11 q15c_68_6_11 24 hHeld ?_
   refine uq 12 q15c_68_6_12 25 hHeld ?_
   refine ar1 13 q15c_68_6_13 fun K hK => ?_
   go_simp
   obtain ⟨w5, hq5⟩ : ∃ x, x = (wr.alloc (.cells (List.toArray [Value.int .u8 x1, Value.int .u8 x2]) 5)).drew := ⟨_, rfl⟩
   have hx1 : Below wr.heap.size wr w5 := by rw [hq5]; exact Below.drew ((Below.refl _ _).alloc (Nat.le_refl _) _)
   have hop1 : Below w.heap.size w w5 := hbk.trans (hx1.mono hbk.size)
   have HR5 : Hid (Rd .u8 (wr.heap.size + 1) w5 (some ⟨wr.heap.size, 0, none⟩) [x1, x2]) := by rw [hq5]; exact rd_two .u8 wr x1 x2 5
   have HO5 := Hid.mk (own_below hown hx1)
   rw [← hq5]
   clear hq5
   refine hK.out _ _ (hop1) (fun hHeld => ?_)
   clear hK K
   try simp only[Act.put,sa,s0,s1]
   refine ar1 14 q15c_68_6_14 fun K hK => ?_
   refine step_append_src w5 rfl _ _ 51 51 rfl w.heap.size 5 i0 (.int .u8 0) 1 1 Tryz.underlying51 HI.out.1 HI.out.2.1 HI.out.2.2.1 HI.out.2.2.2 rfl u4 out.length (out.map (Value.int .u8)) rfl HO5.out (.slice (some ⟨wr.heap.size, 0, none⟩) 2 2) rfl 2 ([x1, x2].map (Value.int .u8)) (Src.rd Tryz.underlying51 rfl HR5.out) (by unfold maxLen; omega) (by omega) hop1.size ?_
   intro v6 w6 ho6 hgr6 hat6
   have hop2 : Below w.heap.size w w6 := hop1.grown hgr6 hop1.size (fun k h => (HO5.out.lt k h).1)
   have HO6 : Hid (w6.ownsRow w.heap.size 5 1 v6 (out ++ [x1, x2]).length ((out ++ [x1, x2]).map (Value.int .u8))) := own_congr ho6 (by simp) (by simp)
   clear ho6 hgr6 hat6
   refine hK.out _ _ (hop2) (fun hHeld => ?_)
   clear hK K
   try simp only[Act.put,sa,s0,s1]
   refine uq 15 q15c_68_6_15 4 hHeld ?_
   refine wpAnyH_done (by kernel_rfl) ?_ _
   go_wp2_with fail
   go_roundw
   case rel => exact ⟨k + 1, by omega, by go_num, by rw [HZ.out]; exact HO6.out, hop2⟩
   case measure => simp [intOf]; omega
  ·have HT1 : Hid (zs.take k = zs) := List.take_of_length_le (by rw [HX.out]; omega)
   rw [HT1.out] at hown
   have hcv := conv_hex hown
   rw [HS.out] at hcv
   go_wp2_with fail
   go_ret
   exact ⟨rfl, hbk⟩
end Go.Proofs.YtomlpobbhioflaaGreatDoor
