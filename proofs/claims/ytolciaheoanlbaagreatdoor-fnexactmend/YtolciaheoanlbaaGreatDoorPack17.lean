/-
  Part 18 of the texts that the proof leans on.
-/
import Derived.Test.YtolciaheoanlbaaGreatDoorPack2
import Derived.Test.YtolciaheoanlbaaGreatDoorPack11
import Derived.Test.YtolciaheoanlbaaGreatDoorPack16
import Derived.Test.YtolciaheoanlbaaGreatDoorPack13
import Derived.Test.YtolciaheoanlbaaGreatDoorPack15
import Derived.Test.YtolciaheoanlbaaGreatDoorPack14
import Derived.Test.YtolciaheoanlbaaGreatDoorPack0
import Derived.Test.YtolciaheoanlbaaGreatDoorPack3
import Derived.Test.YtolciaheoanlbaaGreatDoorPack4

/-
  The specification's Rename.
-/
namespace Go.Proofs.YtolciaheoanlbaaGreatDoor
open Go.RowKit Go.Maps
set_option linter.unusedVariables false
set_option linter.unusedSimpArgs false
set_option maxRecDepth 10000
abbrev q0d9_55_7_0 : Oper := ⟨some 35, .fieldAddr 30 (.tmp 8) 1, 0, "l02_files.go:198", #[], none⟩
abbrev q0d9_55_7_1 : Oper := ⟨some 36, .load 28 (.tmp 35), 28, "l02_files.go:198", #[⟨0, .data⟩], none⟩
abbrev q0d9_55_7_2 : Oper := ⟨some 37, .fieldAddr 30 (.tmp 8) 1, 0, "l02_files.go:198", #[], none⟩
abbrev q0d9_55_7_3 : Oper := ⟨some 38, .load 28 (.tmp 37), 28, "l02_files.go:198", #[⟨2, .data⟩], none⟩
abbrev q0d9_55_7_4 : Oper := ⟨some 39, .move (.tmp 1), 9, "l02_files.go:198", #[], none⟩
abbrev q0d9_55_7_5 : Oper := ⟨some 40, .call { callee := .value (.func 72), args := #[.tmp 38, .tmp 39], argTypes := #[28, 9] }, 3, "l02_files.go:198", #[⟨3, .data⟩, ⟨4, .data⟩], none⟩
abbrev q0d9_55_7_6 : Oper := ⟨some 41, .indexAddr 28 (.tmp 36) (.tmp 40), 0, "l02_files.go:198", #[⟨1, .data⟩, ⟨5, .data⟩], none⟩
abbrev q0d9_55_7_7 : Oper := ⟨some 42, .fieldAddr 106 (.tmp 41) 1, 0, "l02_files.go:198", #[⟨6, .data⟩], none⟩
abbrev q0d9_55_7_8 : Oper := ⟨some 43, .load 3 (.tmp 42), 3, "l02_files.go:198", #[⟨7, .data⟩], none⟩
abbrev q0d9_55_7_9 : Oper := ⟨some 10, .assign (.tmp 43), 3, "l02_files.go:198", #[⟨8, .data⟩, ⟨5, .chain⟩, ⟨0, .phase⟩, ⟨1, .phase⟩, ⟨2, .phase⟩, ⟨3, .phase⟩, ⟨4, .phase⟩, ⟨5, .phase⟩, ⟨6, .phase⟩, ⟨7, .phase⟩, ⟨8, .phase⟩], none⟩
set_option maxHeartbeats 4000000 in
theorem specRename_c (cs : List Value) (m : MDisk) (s t : ByteArray) (w : World) (hr : rDisk w.heap.size w cs m) (hs : s.size ≤ 9223372036854775807) (ht : t.size ≤ 9223372036854775807) (hw : wDisk m ≤ 1048576) (hw1 : s.size ≤ 1048576) (hwt1 : t.size ≤ 1048576) :
  Calls Tryz.prog 55 #[.agg cs.toArray, .string s, .string t] w fun e w' => ∃ cs' : List Value, e = .returned (.tuple #[.agg cs'.toArray, .int .i64 (renameC m s t)]) ∧ rDisk w'.heap.size w' cs' (renameP m s t) ∧ Below w.heap.size w w' := by
 have hq := hr
 obtain ⟨a0, c0, a1, c1, a2, c2, rfl, hI, hNm, hSf, hnx, _⟩ := hq
 have hw2 : m.fInodes.length + sumW wInode m.fInodes + (m.fNames.length + sumW wEntry m.fNames) + (m.fSafe.length + sumW wEntry m.fSafe) ≤ 1048576 := hw
 have HW := Hid.mk hw
 have HR := Hid.mk hr
 clear hr hI hNm hSf hw
 go_enter Tryz.func55, Tryz.ntmps55
 go_wp2_with fail
 obtain ⟨wq, hwq⟩ : ∃ wq, wq = ((w.alloc (.cells #[.slice a0 m.fInodes.length c0, .slice a1 m.fNames.length c1, .slice a2 m.fSafe.length c2, .int .i64 m.fNext] 30)).alloc (.cells #[.slice none 0 0, .slice none 0 0, .slice none 0 0, .int .i64 0] 30)) := ⟨_, rfl⟩
 have hbW : Below w.heap.size w wq := by rw [hwq]; exact Below.alloc (Below.alloc (Below.refl _ _) (by exact Nat.le_refl _) _) (by simp; try omega) _
 have hbd : Bw wq (w.heap.size) 30 [.slice a0 m.fInodes.length c0, .slice a1 m.fNames.length c1, .slice a2 m.fSafe.length c2, .int .i64 m.fNext] := by rw [hwq]; exact Bw.alloc (Bw.new' _ _ _ (by simp)) _
 have hbr : Bw wq (w.heap.size + 1) 30 [.slice none 0 0, .slice none 0 0, .slice none 0 0, .int .i64 0] := by rw [hwq]; exact Bw.new' _ _ _ (by simp)
 rw [← hwq]
 clear hwq
 refine (l2Copy_any _ m wq (rDisk_good.mono (rDisk_good.below HR.out hbW) hbW.size) HW.out).mono ?_
 rintro e w1 ⟨cs2, F2, rfl, ho2, hN2, hge2, hx1⟩
 obtain ⟨d0, e0, d1, e1, d2, e2, G0, G1, G2, rfl, o0, o1, o2, _, rfl⟩ := oDisk_cells ho2
 have HO0 := Hid.mk o0
 have HO1 := Hid.mk o1
 have HO2 := Hid.mk o2
 have HO := Hid.mk ho2
 have HN := Hid.mk hN2
 have HGE : Hid (∀ b, b ∈ G0 ++ G1 ++ G2 ++ [] → wq.heap.size ≤ b) := hge2
 have HLT : Hid (∀ b, b ∈ G0 ++ G1 ++ G2 ++ [] → b < w1.heap.size) := fun b hb => oDisk_good.lt ho2 b hb
 clear ho2 hN2 hge2 o0 o1 o2
 have hb1 := bthen hbW hx1
 have hbd1 := hbd.under hx1
 have hbr1 := hbr.under hx1
 have hz1 := hx1.size
 have hzW := hbW.size
 have hl0 := hbr.lt
 have y0 := hbd1.cell 0 _ rfl
 have y1 := hbd1.cell 1 _ rfl
 have y2 := hbd1.cell 2 _ rfl
 have y3 := hbd1.cell 3 _ rfl
 have hl1 := hbd1.lt
 go_wp2_with fail
 obtain ⟨wa, hwa⟩ : ∃ wa, wa = w1.alloc (.cells #[.slice d0 m.fInodes.length e0, .slice d1 m.fNames.length e1, .slice d2 m.fSafe.length e2, .int .i64 m.fNext] 30) := ⟨_, rfl⟩
 have hba : Below w1.heap.size w1 wa := by rw [hwa]; exact (Below.refl _ _).alloc (Nat.le_refl _) _
 have hwb0 : Bw wa w1.heap.size 30 [.slice d0 m.fInodes.length e0, .slice d1 m.fNames.length e1, .slice d2 m.fSafe.length e2, .int .i64 m.fNext] := by rw [hwa]; exact Bw.new _ _ _
 rw [← hwa]
 clear hwa
 have hba1 := bthen hb1 hba
 have hbda := (hbd1.under hba)
 refine (l2Call_any _ m s wa (rDisk_good.mono (rDisk_good.below HR.out hba1) hba1.size) HW.out hs).mono ?_
 rintro e w2 ⟨rfl, hx2⟩
 have hb12 := bthen hba hx2
 have hb2 := bthen hba1 hx2
 have hwb := hwb0.under hx2
 have hbr2 := (hbr1.under hba).under hx2
 have hbd2 := hbda.under hx2
 clear hwb0 hbda hbd1 y0 y1 y2 y3
 have zo0 := hwb.cell 0 _ rfl
 have zo1 := hwb.cell 1 _ rfl
 have zo2 := hwb.cell 2 _ rfl
 have zo3 := hwb.cell 3 _ rfl
 by_cases h1 : callP m s = 1
 ·have HCP : Hid (renameC m s t = 1) := by show _ = _; unfold renameC; rw [h1]; split <;> rfl
  have HV : Hid (renameP m s t = m) := by show _ = _; unfold renameP; rw [HCP.out]; rfl
  rw [h1]
  clear h1
  have ze0 := hbr2.cell 0 _ rfl
  have zf0 := hbr2.free 0
  have ze1 := hbr2.cell 1 _ rfl
  have zf1 := hbr2.free 1
  have ze2 := hbr2.cell 2 _ rfl
  have zf2 := hbr2.free 2
  have ze3 := hbr2.cell 3 _ rfl
  have zf3 := hbr2.free 3
  have hlt0 := hbr2.lt
  have hO3 : oDisk w2 [.slice d0 m.fInodes.length e0, .slice d1 m.fNames.length e1, .slice d2 m.fSafe.length e2, .int .i64 m.fNext] (renameP m s t) (G0 ++ G1 ++ G2 ++ []) := by rw [HV.out]; exact oDisk_good.frame HO.out (fun b hb => hb12.block b (HLT.out b hb))
  have hG3 : ∀ b, b ∈ G0 ++ G1 ++ G2 ++ [] → w.heap.size + 2 ≤ b := fun b hb => by have := HGE.out b hb; omega
  have HBf := Hid.mk hb2
  have HO3 := Hid.mk hO3
  clear hO3
  go_wp2_with fail
  refine bodyPost_ret (v := .tuple #[.agg #[.slice d0 m.fInodes.length e0, .slice d1 m.fNames.length e1, .slice d2 m.fSafe.length e2, .int .i64 m.fNext], .int .i64 1]) (by simp [results, Tryz.results55, go_sem, *]) rfl ⟨[.slice d0 m.fInodes.length e0, .slice d1 m.fNames.length e1, .slice d2 m.fSafe.length e2, .int .i64 m.fNext], by first | rfl | rw [HCP.out], ?_, ?_⟩
  ·exact oDisk_good.read (oDisk_good.frame HO3.out (fun b hb => (show Turn [w.heap.size + 1] w2 _ from by repeat (first | with_reducible exact Turn.refl _ _ | with_reducible refine Turn.setCell ?_ (by simp) _ | with_reducible refine Turn.alloc ?_ _ | with_reducible refine Turn.drew ?_)).block b (oDisk_good.lt HO3.out b hb) (by intro h; simp at h; have := hG3 b hb; omega)))
  ·exact HBf.out.trans ((show Turn [w.heap.size + 1] w2 _ from by repeat (first | with_reducible exact Turn.refl _ _ | with_reducible refine Turn.setCell ?_ (by simp) _ | with_reducible refine Turn.alloc ?_ _ | with_reducible refine Turn.drew ?_)).below (fun k hk => by simp at hk; omega) HBf.out.size)
 have hcn1 : (callP m s == 1) = false := beq_eq_false_iff_ne.2 h1
 by_cases hN0 : nameOk t = true
 ·have HRC : Hid (renameC m s t = callP m s) := by show _ = _; unfold renameC; rw [if_pos hN0]
  have hNt := hN0
  by_cases hC : callP m s = 0
  ·by_cases hst : s = t
   ·subst hst
    have HCP : Hid (renameC m s s = 0) := by show _ = _; rw [HRC.out, hC]
    have HV : Hid (renameP m s s = m) := by show _ = _; unfold renameP; rw [if_pos HCP.out]; exact rename_self hC
    rw [hC]
    clear hC h1 hcn1 hN0
    go_wp2_with fail
    refine (l2Name_any s _ hs).mono ?_
    rintro e w9 ⟨rfl, hw9⟩
    have hw8 := hw9.symm
    clear hw9
    subst hw8
    rw [hNt]
    have ze0 := hbr2.cell 0 _ rfl
    have zf0 := hbr2.free 0
    have ze1 := hbr2.cell 1 _ rfl
    have zf1 := hbr2.free 1
    have ze2 := hbr2.cell 2 _ rfl
    have zf2 := hbr2.free 2
    have ze3 := hbr2.cell 3 _ rfl
    have zf3 := hbr2.free 3
    have hlt0 := hbr2.lt
    have hO3 : oDisk w2 [.slice d0 m.fInodes.length e0, .slice d1 m.fNames.length e1, .slice d2 m.fSafe.length e2, .int .i64 m.fNext] (renameP m s s) (G0 ++ G1 ++ G2 ++ []) := by rw [HV.out]; exact oDisk_good.frame HO.out (fun b hb => hb12.block b (HLT.out b hb))
    have hG3 : ∀ b, b ∈ G0 ++ G1 ++ G2 ++ [] → w.heap.size + 2 ≤ b := fun b hb => by have := HGE.out b hb; omega
    have HBf := Hid.mk hb2
    have HO3 := Hid.mk hO3
    clear hO3
    go_wp2_with fail
    refine bodyPost_ret (v := .tuple #[.agg #[.slice d0 m.fInodes.length e0, .slice d1 m.fNames.length e1, .slice d2 m.fSafe.length e2, .int .i64 m.fNext], .int .i64 0]) (by simp [results, Tryz.results55, go_sem, *]) rfl ⟨[.slice d0 m.fInodes.length e0, .slice d1 m.fNames.length e1, .slice d2 m.fSafe.length e2, .int .i64 m.fNext], by first | rfl | rw [HCP.out], ?_, ?_⟩
    ·exact oDisk_good.read (oDisk_good.frame HO3.out (fun b hb => (show Turn [w.heap.size + 1] w2 _ from by repeat (first | with_reducible exact Turn.refl _ _ | with_reducible refine Turn.setCell ?_ (by simp) _ | with_reducible refine Turn.alloc ?_ _ | with_reducible refine Turn.drew ?_)).block b (oDisk_good.lt HO3.out b hb) (by intro h; simp at h; have := hG3 b hb; omega)))
    ·exact HBf.out.trans ((show Turn [w.heap.size + 1] w2 _ from by repeat (first | with_reducible exact Turn.refl _ _ | with_reducible refine Turn.setCell ?_ (by simp) _ | with_reducible refine Turn.alloc ?_ _ | with_reducible refine Turn.drew ?_)).below (fun k hk => by simp at hk; omega) HBf.out.size)
   ·have heb := str_ne hst
    have hgd := (call_good hC).1
    have hhn := (call_good hC).2.2
    have hrok := rename_ok (s := s) (t := t) hC hN0
    have HV : Hid (renameP m s t = keepD { m with fNames := renameN m s t } ∧ renameC m s t = 0) := by
     have h0 : renameC m s t = 0 := HRC.out.trans hC
     refine ⟨?_, h0⟩; unfold renameP renameD; rw [if_pos h0]
    have HE : Hid (endsD m { m with fNames := renameN m s t } = keepD { m with fNames := renameN m s t } ∧ endsC { m with fNames := renameN m s t } = 0) := by
     unfold renameD at hrok
     refine ⟨?_, ?_⟩ <;> simp only [endsD, endsC, hrok, if_true]
    have hDR := diskOk_iff.1 hgd
    have hRi : Rise m.fNames := hDR.names.rise
    have hsub : (without m.fNames s).Sublist m.fNames := List.filter_sublist
    have HRW : Hid (Rise (without m.fNames s)) := hRi.sublist hsub
    have h3 := renameN_ok hDR hhn hN0
    have hwt := ok_weight hgd
    have h7 := sumW_names (fun e he => (h3.1.1 e he).2)
    have h8 := h3.2
    have HRL : Hid ((renameN m s t).length ≤ 1000) := by show _ ≤ _; omega
    have HWK1 : Hid (wDisk { m with fNames := renameN m s t } ≤ 16777216) := by
     show _ ≤ _
     rw [wDisk_eq]
     simp only
     omega
    have HLW : Hid ((without m.fNames s).length ≤ 1048576) := by show _ ≤ _; have := hsub.length_le; omega
    rw [hC]
    clear hC h1 hcn1 hN0 hrok hDR hRi hsub h3 hwt h7 h8
    obtain ⟨hk, hid, _⟩ := file_there hgd hhn
    have hnz : nameZ m.fNames s = (nameAt m.fNames s : Int) := by unfold nameZ; rw [hhn, if_pos rfl]
    have hlfn : ∀ W', Below w2.heap.size w2 W' → LeafL 2 rEntry W'.heap.size W' d1 e1 m.fNames := fun W' hb => ownS.leaf oEntry_good (ownS.frame oEntry_good HO1.out (fun b hbF => (bthen hb12 hb).block b (HLT.out b (by simp [hbF]))))
    obtain ⟨b1, o1, rfl, hB1, cs1, hcl1, hcell1, rfl, hrest1⟩ := (hlfn _ (Below.refl _ _)).2.2 (nameAt m.fNames s) hk
    have k1e := hcell1 1 _ rfl
    have HWF : Hid ((Lit.int .i64 (idOf m.fNames s)).wf = true) := by show _ = _; rw [hid]; exact hrest1.2.1
    rw [← hid] at k1e
    have q1 : ∀ W', Below w2.heap.size w2 W' → W'.cell? ⟨b1, o1 + nameAt m.fNames s * 2 + 1, none⟩ = some (.int .i64 (idOf m.fNames s)) := fun W' hb => (hb.cell (p := ⟨b1, o1 + nameAt m.fNames s * 2 + 1, none⟩) hB1).trans k1e
    have hCt := fun W' (hb : Below w2.heap.size w2 W') => l2At_any (some ⟨b1, o1, none⟩) _ e1 m.fNames s W' W'.heap.size rfl (by omega) (hlfn W' hb).2.2
    simp only [hnz] at hCt
    have hu1 : (0 : Int) ≤ (nameAt m.fNames s : Int) := by omega
    have hu2 : (nameAt m.fNames s : Int) < (m.fNames.length : Int) := by omega
    have po1 : ∀ W', Below w2.heap.size w2 W' → W'.cell? ⟨w1.heap.size, 1, none⟩ = some (.slice (some ⟨b1, o1, none⟩) m.fNames.length e1) := fun W' hb => (hwb.under hb).cell 1 _ rfl
    clear hlfn hcell1 hcl1 k1e hrest1 hid hnz
    have HKn := Hid.mk hk
    clear hk
    obtain ⟨na, hna⟩ : ∃ na, na = nameAt m.fNames s := ⟨_, rfl⟩
    obtain ⟨idn, hidn⟩ : ∃ idn, idn = idOf m.fNames s := ⟨_, rfl⟩
    rw [← hna] at q1 hCt hu1 hu2
    rw [← hidn] at q1
    have HIDN := Hid.mk hidn
    clear hna hidn
    go_wp2_with fail
    refine (l2Name_any t _ ht).mono ?_
    rintro e w9 ⟨rfl, hw9⟩
    have hw8 := hw9.symm
    clear hw9
    subst hw8
    rw [hNt]
    go_wp2_with fail
    refine wp_region_held_drew (S := fun W' => Below w2.heap.size w2 W') (by kernel_rfl) (Below.drew (Below.refl _ _)) (fun hHeld => ?_)
    refine tq 0 q0d9_55_7_0 35 hHeld ?_; try simp only[Act.put,sa,s0,s1]
    refine tq 1 q0d9_55_7_1 36 hHeld ?_; try simp only[Act.put,sa,s0,s1]
    refine tq 2 q0d9_55_7_2 37 hHeld ?_; try simp only[Act.put,sa,s0,s1]
    refine tq 3 q0d9_55_7_3 38 hHeld ?_; try simp only[Act.put,sa,s0,s1]
    refine tq 4 q0d9_55_7_4 39 hHeld ?_; try simp only[Act.put,sa,s0,s1]
    refine arR [5] ?_
    refine AllReadyH.cons (o := q0d9_55_7_5) rfl (fun K hK => ?_) AllReadyH.nil
    go_simp
    refine Calls.mono (hCt _ hHeld) ?_
    rintro e wy1 ⟨rfl, hw1⟩
    have hy1 := below_same hw1
    clear hw1
    go_wp2_with fail
    refine hK.out _ _ (bthen hHeld hy1) (fun hHeld => ?_)
    clear hK K
    try simp only[Act.put,sa,s0,s1]
    refine tq 6 q0d9_55_7_6 41 hHeld ?_; try simp only[Act.put,sa,s0,s1]
    refine tq 7 q0d9_55_7_7 42 hHeld ?_; try simp only[Act.put,sa,s0,s1]
    refine tq 8 q0d9_55_7_8 43 hHeld ?_; try simp only[Act.put,sa,s0,s1]
    refine tq 9 q0d9_55_7_9 10 hHeld ?_; try simp only[Act.put,sa,s0,s1]
    refine wpAnyH_done (by kernel_rfl) ?_ _
    obtain ⟨wo, hwo⟩ : ∃ wo, wo = wy1 := ⟨_, rfl⟩
    rw [← hwo] at hHeld ⊢
    clear hwo hCt po1 q1 zo0 zo1 zo2 zo3
    have hbo := bthen hb12 hHeld
    have hb3 := bthen hb2 hHeld
    have hwbo := hwb.under hHeld
    have hbdo := hbd2.under hHeld
    have hbro := hbr2.under hHeld
    clear hwb hbd2 hbr2 hHeld
    have zo0 := hwbo.cell 0 _ rfl
    have zo1 := hwbo.cell 1 _ rfl
    have zo2 := hwbo.cell 2 _ rfl
    have zo3 := hwbo.cell 3 _ rfl
    have hlo := hwbo.lt
    have fo1 := hwbo.free 1
    go_wp2_with fail
    refine (l2Without_any (some ⟨b1, o1, none⟩) m.fNames.length e1 m.fNames s wo rfl (by omega) (ownS.leaf oEntry_good (ownS.frame oEntry_good HO1.out (fun b hbF => hbo.block b (HLT.out b (by simp [hbF])))))).mono ?_
    rintro e w3 ⟨r3, q3, F3, rfl, ho3, hg3, hx3⟩
    have HO3 := Hid.mk ho3
    clear ho3 hg3
    have hwb3 := hwbo.under hx3
    have hbd3 := hbdo.under hx3
    have hbr3 := hbro.under hx3
    have hbt3 := bthen hbo hx3
    have hbu3 := bthen hb3 hx3
    clear hwbo hbdo hbro zo0 zo1 zo2 zo3 fo1 hlo
    have zo0 := hwb3.cell 0 _ rfl
    have zo1 := hwb3.cell 1 _ rfl
    have zo2 := hwb3.cell 2 _ rfl
    have zo3 := hwb3.cell 3 _ rfl
    have hlo := hwb3.lt
    have fo1 := hwb3.free 1
    have HRN : Hid (withE (without m.fNames s) ⟨t, idn⟩ = renameN m s t) := by show _ = _; unfold renameN; rw [HIDN.out]
    go_wp2_with fail
    have hcall := l2With_any r3 _ q3 (without m.fNames s) ⟨t, idn⟩ w3 rfl HLW.out (ownS.leaf oEntry_good HO3.out) HRW.out ht (by rw [HIDN.out]; exact HWF.out)
    rw [HRN.out] at hcall
    refine hcall.mono ?_
    clear hcall
    rintro e w4 ⟨r4, q4, F4, rfl, ho4, hg4, hx4⟩
    have HO4 := Hid.mk ho4
    have HGS := Hid.mk hg4
    clear ho4 hg4
    have hwb4 := hwb3.under hx4
    have zf1 := hwb4.free 1
    have hl3 := hwb4.lt
    have hbd4 := hbd3.under hx4
    have hl3d := hbd4.lt
    have zd0 := hwb4.cell 0 _ rfl
    have zd1 := hwb4.cell 1 _ rfl
    have zd2 := hwb4.cell 2 _ rfl
    have zd3 := hwb4.cell 3 _ rfl
    have yd0 := hbd4.cell 0 _ rfl
    have yd1 := hbd4.cell 1 _ rfl
    have yd2 := hbd4.cell 2 _ rfl
    have yd3 := hbd4.cell 3 _ rfl
    clear zo0 zo1 zo2 zo3 fo1
    have hsz3 := hbt3.size
    go_wp2_with fail
    obtain ⟨ws, hws⟩ : ∃ ws, ws = w4.setCell ⟨w1.heap.size, 1, none⟩ (.slice r4 (renameN m s t).length q4) := ⟨_, rfl⟩
    have hTs : Turn [w1.heap.size] w4 ws := by rw [hws]; exact Turn.setCell (Turn.refl _ _) (by simp) _
    have hwbs : Bw ws w1.heap.size 30 [.slice d0 m.fInodes.length e0, .slice r4 (renameN m s t).length q4, .slice d2 m.fSafe.length e2, .int .i64 m.fNext] := by rw [hws]; exact hwb4.put 1 _
    have hbds := hbd4.turn hTs (by simp; omega)
    have hbrs := (hbr3.under hx4).turn hTs (by simp; omega)
    have hbu4 := bthen hbu3 hx4
    have hbt4 := bthen hbt3 hx4
    have hBs : Below w.heap.size w ws := hbu4.trans (hTs.below (fun k hk => by simp at hk; omega) hbu4.size)
    have hfr : ∀ b, b ∈ G0 ++ G1 ++ G2 ++ [] → ws.heap[b]? = w1.heap[b]? := fun b hb => by
     have h1 := HLT.out b hb
     rw [hTs.block b (by have := hbt4.size; omega) (by simp; omega), hbt4.block b h1]
    have t0 := ownS.frame (w' := ws) oInode_good HO0.out (fun b hb => hfr b (by simp [hb]))
    have t2 := ownS.frame (w' := ws) oEntry_good HO2.out (fun b hb => hfr b (by simp [hb]))
    have t1 := ownS.frame (w' := ws) oEntry_good HO4.out (fun b hb => hTs.block b (ownS.lt oEntry_good HO4.out b hb) (by intro h; simp at h; have := HGS.out b hb; omega))
    have HT0 := Hid.mk t0
    have HT1 := Hid.mk t1
    have HT2 := Hid.mk t2
    have HBS := Hid.mk hBs
    have HSUB : Hid (∀ b, b ∈ G0 ++ F4 ++ G2 → w.heap.size + 2 ≤ b) := by
     intro b hb
     rw [List.mem_append, List.mem_append] at hb
     rcases hb with (hb | hb) | hb
     ·have := HGE.out b (by simp [hb]); omega
     ·have := HGS.out b hb; omega
     ·have := HGE.out b (by simp [hb]); omega
    rw [← hws]
    clear hws t0 t1 t2 hfr hTs zf1 zd0 zd1 zd2 zd3 yd0 yd1 yd2 yd3
    have zs0 := hwbs.cell 0 _ rfl
    have zs1 := hwbs.cell 1 _ rfl
    have zs2 := hwbs.cell 2 _ rfl
    have zs3 := hwbs.cell 3 _ rfl
    have ys0 := hbds.cell 0 _ rfl
    have ys1 := hbds.cell 1 _ rfl
    have ys2 := hbds.cell 2 _ rfl
    have ys3 := hbds.cell 3 _ rfl
    go_wp2_with fail
    refine (l2Ends_any _ d0 r4 d2 e0 q4 e2 m { m with fNames := renameN m s t } G0 _ G2 ws (rDisk_good.mono (rDisk_good.below HR.out HBS.out) HBS.out.size) HW.out HT0.out HT1.out HT2.out hnx HWK1.out (by have := HRL.out; simp only; omega)).mono ?_
    rintro e w5 ⟨cs4, F4, rfl, ho4, hF4, hx5⟩
    have hb5 := bthen HBS.out hx5
    have hbr5 := hbrs.under hx5
    have hl5 := hbr5.lt
    have hzE := HBS.out.size
    have hlE := hbrs.lt
    rw [HE.out.1] at ho4
    obtain ⟨q0, p0, q1, p1, q2, p2, E0, E1, E2, rfl, _, _, _, _, rfl⟩ := oDisk_cells ho4
    have hkey : ∀ W', Turn [w.heap.size + 1] w5 W' → rDisk W'.heap.size W' [.slice q0 (keepD { m with fNames := renameN m s t }).fInodes.length p0, .slice q1 (keepD { m with fNames := renameN m s t }).fNames.length p1, .slice q2 (keepD { m with fNames := renameN m s t }).fSafe.length p2, .int .i64 (keepD { m with fNames := renameN m s t }).fNext] (keepD { m with fNames := renameN m s t }) ∧ Below w.heap.size w W' := fun W' hT =>
     ⟨oDisk_good.read (oDisk_good.frame ho4 (fun b hb => hT.block b (oDisk_good.lt ho4 b hb) (fun h => by simp at h; rcases hF4 b hb with h2 | h2; (have := HSUB.out b h2; omega); omega))), hb5.trans (hT.below (fun k hk => by simp at hk; omega) hb5.size)⟩
    have HKEY := Hid.mk hkey
    clear hkey ho4 hF4
    have ze0 := hbr5.cell 0 _ rfl
    have ze1 := hbr5.cell 1 _ rfl
    have ze2 := hbr5.cell 2 _ rfl
    have ze3 := hbr5.cell 3 _ rfl
    have zf0 := hbr5.free 0
    have zf1 := hbr5.free 1
    have zf2 := hbr5.free 2
    have zf3 := hbr5.free 3
    have HEC : Hid (endsC { m with fNames := renameN m s t } = 0) := HE.out.2
    rw [HEC.out]
    go_wp2_with fail
    obtain ⟨h1, h3⟩ := HKEY.out _ (show Turn [w.heap.size + 1] w5 ((((w5.setCell ⟨w.heap.size + 1, 0, none⟩ (.slice q0 (keepD { m with fNames := renameN m s t }).fInodes.length p0)).setCell ⟨w.heap.size + 1, 1, none⟩ (.slice q1 (keepD { m with fNames := renameN m s t }).fNames.length p1)).setCell ⟨w.heap.size + 1, 2, none⟩ (.slice q2 (keepD { m with fNames := renameN m s t }).fSafe.length p2)).setCell ⟨w.heap.size + 1, 3, none⟩ (.int .i64 (keepD { m with fNames := renameN m s t }).fNext)) from turn4 _ _ _ _ _ _)
    exact bodyPost_ret (v := .tuple #[.agg #[.slice q0 (keepD { m with fNames := renameN m s t }).fInodes.length p0, .slice q1 (keepD { m with fNames := renameN m s t }).fNames.length p1, .slice q2 (keepD { m with fNames := renameN m s t }).fSafe.length p2, .int .i64 (keepD { m with fNames := renameN m s t }).fNext], .int .i64 0]) (by simp [results, Tryz.results55, go_sem, *]) rfl ⟨[.slice q0 (keepD { m with fNames := renameN m s t }).fInodes.length p0, .slice q1 (keepD { m with fNames := renameN m s t }).fNames.length p1, .slice q2 (keepD { m with fNames := renameN m s t }).fSafe.length p2, .int .i64 (keepD { m with fNames := renameN m s t }).fNext], by rw [HV.out.2], by rw [HV.out.1]; exact h1, h3⟩
  ·have HCP : Hid (renameC m s t = callP m s) := HRC
   have HV : Hid (renameP m s t = m) := by show _ = _; unfold renameP; rw [HCP.out, if_neg hC]
   have hcn : (callP m s == 0) = false := beq_eq_false_iff_ne.2 hC
   obtain ⟨cp, hcp⟩ : ∃ cp, callP m s = cp := ⟨_, rfl⟩
   have hcn2 : (callP m s != 0) = true := bne_iff_ne.2 hC
   rw [hcp] at hcn hcn2 hcn1 HCP ⊢
   clear hcp hC h1 hN0 HRC
   go_wp2_with fail
   refine (l2Name_any t _ ht).mono ?_
   rintro e w9 ⟨rfl, hw9⟩
   have hw8 := hw9.symm
   clear hw9
   subst hw8
   rw [hNt]
   have ze0 := hbr2.cell 0 _ rfl
   have zf0 := hbr2.free 0
   have ze1 := hbr2.cell 1 _ rfl
   have zf1 := hbr2.free 1
   have ze2 := hbr2.cell 2 _ rfl
   have zf2 := hbr2.free 2
   have ze3 := hbr2.cell 3 _ rfl
   have zf3 := hbr2.free 3
   have hlt0 := hbr2.lt
   have hO3 : oDisk w2 [.slice d0 m.fInodes.length e0, .slice d1 m.fNames.length e1, .slice d2 m.fSafe.length e2, .int .i64 m.fNext] (renameP m s t) (G0 ++ G1 ++ G2 ++ []) := by rw [HV.out]; exact oDisk_good.frame HO.out (fun b hb => hb12.block b (HLT.out b hb))
   have hG3 : ∀ b, b ∈ G0 ++ G1 ++ G2 ++ [] → w.heap.size + 2 ≤ b := fun b hb => by have := HGE.out b hb; omega
   have HBf := Hid.mk hb2
   have HO3 := Hid.mk hO3
   clear hO3
   go_wp2_with fail
   refine bodyPost_ret (v := .tuple #[.agg #[.slice d0 m.fInodes.length e0, .slice d1 m.fNames.length e1, .slice d2 m.fSafe.length e2, .int .i64 m.fNext], .int .i64 cp]) (by simp [results, Tryz.results55, go_sem, *]) rfl ⟨[.slice d0 m.fInodes.length e0, .slice d1 m.fNames.length e1, .slice d2 m.fSafe.length e2, .int .i64 m.fNext], by first | rfl | rw [HCP.out], ?_, ?_⟩
   ·exact oDisk_good.read (oDisk_good.frame HO3.out (fun b hb => (show Turn [w.heap.size + 1] w2 _ from by repeat (first | with_reducible exact Turn.refl _ _ | with_reducible refine Turn.setCell ?_ (by simp) _ | with_reducible refine Turn.alloc ?_ _ | with_reducible refine Turn.drew ?_)).block b (oDisk_good.lt HO3.out b hb) (by intro h; simp at h; have := hG3 b hb; omega)))
   ·exact HBf.out.trans ((show Turn [w.heap.size + 1] w2 _ from by repeat (first | with_reducible exact Turn.refl _ _ | with_reducible refine Turn.setCell ?_ (by simp) _ | with_reducible refine Turn.alloc ?_ _ | with_reducible refine Turn.drew ?_)).below (fun k hk => by simp at hk; omega) HBf.out.size)
 ·have hNt : nameOk t = false := Bool.eq_false_iff.2 hN0
  have HCP : Hid (renameC m s t = 1) := by show _ = _; unfold renameC; rw [if_neg hN0]
  have HV : Hid (renameP m s t = m) := by show _ = _; unfold renameP; rw [HCP.out]; rfl
  obtain ⟨cp, hcp⟩ : ∃ cp, callP m s = cp := ⟨_, rfl⟩
  rw [hcp] at hcn1 ⊢
  clear hcp h1 hN0
  go_wp2_with fail
  refine (l2Name_any t _ ht).mono ?_
  rintro e w9 ⟨rfl, hw9⟩
  have hw8 := hw9.symm
  clear hw9
  subst hw8
  rw [hNt]
  have ze0 := hbr2.cell 0 _ rfl
  have zf0 := hbr2.free 0
  have ze1 := hbr2.cell 1 _ rfl
  have zf1 := hbr2.free 1
  have ze2 := hbr2.cell 2 _ rfl
  have zf2 := hbr2.free 2
  have ze3 := hbr2.cell 3 _ rfl
  have zf3 := hbr2.free 3
  have hlt0 := hbr2.lt
  have hO3 : oDisk w2 [.slice d0 m.fInodes.length e0, .slice d1 m.fNames.length e1, .slice d2 m.fSafe.length e2, .int .i64 m.fNext] (renameP m s t) (G0 ++ G1 ++ G2 ++ []) := by rw [HV.out]; exact oDisk_good.frame HO.out (fun b hb => hb12.block b (HLT.out b hb))
  have hG3 : ∀ b, b ∈ G0 ++ G1 ++ G2 ++ [] → w.heap.size + 2 ≤ b := fun b hb => by have := HGE.out b hb; omega
  have HBf := Hid.mk hb2
  have HO3 := Hid.mk hO3
  clear hO3
  go_wp2_with fail
  refine bodyPost_ret (v := .tuple #[.agg #[.slice d0 m.fInodes.length e0, .slice d1 m.fNames.length e1, .slice d2 m.fSafe.length e2, .int .i64 m.fNext], .int .i64 1]) (by simp [results, Tryz.results55, go_sem, *]) rfl ⟨[.slice d0 m.fInodes.length e0, .slice d1 m.fNames.length e1, .slice d2 m.fSafe.length e2, .int .i64 m.fNext], by first | rfl | rw [HCP.out], ?_, ?_⟩
  ·exact oDisk_good.read (oDisk_good.frame HO3.out (fun b hb => (show Turn [w.heap.size + 1] w2 _ from by repeat (first | with_reducible exact Turn.refl _ _ | with_reducible refine Turn.setCell ?_ (by simp) _ | with_reducible refine Turn.alloc ?_ _ | with_reducible refine Turn.drew ?_)).block b (oDisk_good.lt HO3.out b hb) (by intro h; simp at h; have := hG3 b hb; omega)))
  ·exact HBf.out.trans ((show Turn [w.heap.size + 1] w2 _ from by repeat (first | with_reducible exact Turn.refl _ _ | with_reducible refine Turn.setCell ?_ (by simp) _ | with_reducible refine Turn.alloc ?_ _ | with_reducible refine Turn.drew ?_)).below (fun k hk => by simp at hk; omega) HBf.out.size)
end Go.Proofs.YtolciaheoanlbaaGreatDoor

/-
  The specification's SyncDir.
-/
namespace Go.Proofs.YtolciaheoanlbaaGreatDoor
open Go.RowKit Go.Maps
set_option linter.unusedVariables false
set_option linter.unusedSimpArgs false
set_option maxRecDepth 10000
theorem wpList_append_lit {P : Program} (w : World) {ops : Array Oper} {rest : List Oper} {o : Oper} {a : Act} {Q : Exit → Act → World → Prop} (hgd : o.guard = none) (s x : Operand) (t tx : TypeId)
  (ho : o.op = .call { callee := .builtin .append, args := #[s, x], argTypes := #[t, tx] })
  (base : Nat) (e : TypeId) (i : TypeInfo) (z : Value) (size bytes : Nat) (ht : P.underlying t = some (.slice e)) (hi : P.info? e = some i) (hz : i.zero = some z)
  (hsize : i.size = size) (hby : i.bytes = bytes) (hzs : z.cells.size = size)
  (g : Nat) (hs : a.eval s = .slice (some ⟨g, 0, none⟩) 0 0) (hown : w.ownsRow base e size (.slice (some ⟨g, 0, none⟩) 0 0) 0 [])
  (y : Value) (hy : a.eval x = y) (m : Nat) (news : List Value) (hx : Src P size tx y m news w)
  (h63 : m ≤ maxLen) (hbytes : m * bytes ≤ 140737488355328) (hbase : base ≤ w.heap.size)
  (h : ∀ v' w', w'.ownsRow base e size v' m news → Below w.heap.size w w' → (v'.ownBlock = some g ∨ v'.ownBlock = some w.heap.size) → wpList P ops Q rest (a.put o.dst v') w') : wpList P ops Q (o :: rest) a w := by
 refine wpList_plain hgd fun K hK => ?_
 subst hy
 obtain ⟨v', w', hr, h2, h3, h4⟩ := run_append_lit (P := P) w base t tx o.type e i z size bytes ht hi hz hsize hby hzs g hown (a.eval x) m news hx h63 hbytes hbase
 unfold Oper.wp execOp
 simp only [ho, resolve, invoke, builtin, Sem.run_bind, Sem.run_pure, Result.andThen_ok, List.map_toArray, List.map_cons, List.map_nil, hs, hr]
 exact hK _ _ (h v' w' h2 h3 h4)
set_option maxHeartbeats 4000000 in
theorem specSyncDir_c (cs : List Value) (m : MDisk) (w : World) (hr : rDisk w.heap.size w cs m) (hw : wDisk m ≤ 1048576) :
  Calls Tryz.prog 56 #[.agg cs.toArray] w fun e w' => ∃ cs' : List Value, e = .returned (.tuple #[.agg cs'.toArray, .int .i64 (syncDirC m)]) ∧ rDisk w'.heap.size w' cs' (syncDirP m) ∧ Below w.heap.size w w' := by
 have hq := hr
 obtain ⟨a0, c0, a1, c1, a2, c2, rfl, hI, hNm, hSf, hnx, _⟩ := hq
 have hw2 : m.fInodes.length + sumW wInode m.fInodes + (m.fNames.length + sumW wEntry m.fNames) + (m.fSafe.length + sumW wEntry m.fSafe) ≤ 1048576 := hw
 have HW := Hid.mk hw
 have HR := Hid.mk hr
 clear hr hI hNm hSf hw
 obtain ⟨iE, hiE, hzE0, hzE1, hzE2⟩ := info_parts Tryz.infoOfEntry
 go_enter Tryz.func56, Tryz.ntmps56
 go_wp2_with fail
 obtain ⟨wq, hwq⟩ : ∃ wq, wq = ((w.alloc (.cells #[.slice a0 m.fInodes.length c0, .slice a1 m.fNames.length c1, .slice a2 m.fSafe.length c2, .int .i64 m.fNext] 30)).alloc (.cells #[.slice none 0 0, .slice none 0 0, .slice none 0 0, .int .i64 0] 30)) := ⟨_, rfl⟩
 have hbW : Below w.heap.size w wq := by rw [hwq]; exact Below.alloc (Below.alloc (Below.refl _ _) (by exact Nat.le_refl _) _) (by simp; try omega) _
 have hbd : Bw wq (w.heap.size) 30 [.slice a0 m.fInodes.length c0, .slice a1 m.fNames.length c1, .slice a2 m.fSafe.length c2, .int .i64 m.fNext] := by rw [hwq]; exact Bw.alloc (Bw.new' _ _ _ (by simp)) _
 have hbr : Bw wq (w.heap.size + 1) 30 [.slice none 0 0, .slice none 0 0, .slice none 0 0, .int .i64 0] := by rw [hwq]; exact Bw.new' _ _ _ (by simp)
 rw [← hwq]
 clear hwq
 refine (l2Copy_any _ m wq (rDisk_good.mono (rDisk_good.below HR.out hbW) hbW.size) HW.out).mono ?_
 rintro e w1 ⟨cs2, F2, rfl, ho2, hN2, hge2, hx1⟩
 obtain ⟨d0, e0, d1, e1, d2, e2, G0, G1, G2, rfl, o0, o1, o2, _, rfl⟩ := oDisk_cells ho2
 have HO0 := Hid.mk o0
 have HO1 := Hid.mk o1
 have HO2 := Hid.mk o2
 have HO := Hid.mk ho2
 have HN := Hid.mk hN2
 have HGE : Hid (∀ b, b ∈ G0 ++ G1 ++ G2 ++ [] → wq.heap.size ≤ b) := hge2
 have HLT : Hid (∀ b, b ∈ G0 ++ G1 ++ G2 ++ [] → b < w1.heap.size) := fun b hb => oDisk_good.lt ho2 b hb
 clear ho2 hN2 hge2 o0 o1 o2
 have hb1 := bthen hbW hx1
 have hbd1 := hbd.under hx1
 have hbr1 := hbr.under hx1
 have hz1 := hx1.size
 have hzW := hbW.size
 have hl0 := hbr.lt
 have y0 := hbd1.cell 0 _ rfl
 have y1 := hbd1.cell 1 _ rfl
 have y2 := hbd1.cell 2 _ rfl
 have y3 := hbd1.cell 3 _ rfl
 have hl1 := hbd1.lt
 go_wp2_with fail
 obtain ⟨wa, hwa⟩ : ∃ wa, wa = w1.alloc (.cells #[.slice d0 m.fInodes.length e0, .slice d1 m.fNames.length e1, .slice d2 m.fSafe.length e2, .int .i64 m.fNext] 30) := ⟨_, rfl⟩
 have hba : Below w1.heap.size w1 wa := by rw [hwa]; exact (Below.refl _ _).alloc (Nat.le_refl _) _
 have hwb0 : Bw wa w1.heap.size 30 [.slice d0 m.fInodes.length e0, .slice d1 m.fNames.length e1, .slice d2 m.fSafe.length e2, .int .i64 m.fNext] := by rw [hwa]; exact Bw.new _ _ _
 rw [← hwa]
 clear hwa
 have hba1 := bthen hb1 hba
 have hbda := (hbd1.under hba)
 refine (specDiskOk_c _ m wa (rDisk_good.mono (rDisk_good.below HR.out hba1) hba1.size) HW.out).mono ?_
 rintro e w2 ⟨rfl, hx2⟩
 have hb12 := bthen hba hx2
 have hb2 := bthen hba1 hx2
 have hwb := hwb0.under hx2
 have hbr2 := (hbr1.under hba).under hx2
 have hbd2 := hbda.under hx2
 clear hwb0 hbda hbd1 y0 y1 y2 y3
 have zo0 := hwb.cell 0 _ rfl
 have zo1 := hwb.cell 1 _ rfl
 have zo2 := hwb.cell 2 _ rfl
 have zo3 := hwb.cell 3 _ rfl
 by_cases hK : diskOk m = true
 ·have HV : Hid (syncDirP m = keepD { m with fSafe := m.fNames } ∧ syncDirC m = 0) := by refine ⟨?_, ?_⟩ <;> simp [syncDirP, syncDirC, hK]
  have hsok := syncDir_ok hK
  have HE : Hid (endsD m { m with fSafe := m.fNames } = keepD { m with fSafe := m.fNames } ∧ endsC { m with fSafe := m.fNames } = 0) := by refine ⟨?_, ?_⟩ <;> simp only [endsD, endsC, hsok, if_true]
  have hwt := ok_weight hK
  have HWK1 : Hid (wDisk { m with fSafe := m.fNames } ≤ 16777216) := by show _ ≤ _; rw [wDisk_eq]; simp only; omega
  rw [hK]
  clear hK hsok
  have hbL : Below w2.heap.size w2 (w2.alloc (.cells #[] 106)) := (Below.refl _ _).alloc (Nat.le_refl _) _
  have hlf : LeafL 2 rEntry (w2.alloc (.cells #[] 106)).heap.size (w2.alloc (.cells #[] 106)) d1 e1 m.fNames := ownS.leaf oEntry_good (ownS.frame oEntry_good HO1.out (fun b hbF => (bthen hb12 hbL).block b (HLT.out b (by simp [hbF]))))
  obtain ⟨css, s1, s2, s3, s4⟩ := Src.ents (P := Tryz.prog) (c := e1) (n := m.fNames.length) Tryz.underlying28 rfl hlf.2.2
  have hlo := hwb.lt
  have fo2 := hwb.free 2
  have HBL := Hid.mk hbL
  clear hlf hbL
  go_wp2_with (at_builtin; refine wpList_append_lit _ rfl _ _ 28 28 rfl w2.heap.size 106 iE _ 2 24 Tryz.underlying28 hiE hzE0 hzE1 hzE2 rfl w2.heap.size rfl (own_lit0 w2 w2.heap.size _ _ (Nat.le_refl _)) (.slice d1 m.fNames.length e1) rfl m.fNames.length css.flatten s4 (by unfold maxLen; omega) (by omega) (by simp) ?_; intro v3 w3 hw3 hx3 hat3; obtain ⟨r3, q3, rfl⟩ := own_slice hw3; have hx23 := bthen HBL.out hx3; have zf2 := (hwb.under hx23).free 2; have hl3 := (hwb.under hx23).lt; have hl3d := (hbd2.under hx23).lt; have yd0 := (hbd2.under hx23).cell 0 _ rfl; have yd1 := (hbd2.under hx23).cell 1 _ rfl; have yd2 := (hbd2.under hx23).cell 2 _ rfl; have yd3 := (hbd2.under hx23).cell 3 _ rfl; have zd0 := (hwb.under hx23).cell 0 _ rfl; have zd1 := (hwb.under hx23).cell 1 _ rfl; have zd2 := (hwb.under hx23).cell 2 _ rfl; have zd3 := (hwb.under hx23).cell 3 _ rfl)
  have hos3 := ownS_row rfl s1 s2 s3 hw3
  have HGS : Hid (∀ b, b ∈ (Value.ownBlock (.slice r3 m.fNames.length q3)).toList → w2.heap.size ≤ b) := fun b hb => (hw3.lt b (by simpa using hb)).1
  obtain ⟨ws, hws⟩ : ∃ ws, ws = w3.setCell ⟨w1.heap.size, 2, none⟩ (.slice r3 m.fNames.length q3) := ⟨_, rfl⟩
  have hTs : Turn [w1.heap.size] w3 ws := by rw [hws]; exact Turn.setCell (Turn.refl _ _) (by simp) _
  have hwb3 := hwb.under hx23
  have hwbs : Bw ws w1.heap.size 30 [.slice d0 m.fInodes.length e0, .slice d1 m.fNames.length e1, .slice r3 m.fNames.length q3, .int .i64 m.fNext] := by rw [hws]; exact hwb3.put 2 _
  have hbds := (hbd2.under hx23).turn hTs (by simp; omega)
  have hbrs := (hbr2.under hx23).turn hTs (by simp; omega)
  have hb3 := bthen hb2 hx23
  have hBs : Below w.heap.size w ws := hb3.trans (hTs.below (fun k hk => by simp at hk; omega) hb3.size)
  have hfr : ∀ b, b ∈ G0 ++ G1 ++ G2 ++ [] → ws.heap[b]? = w1.heap[b]? := fun b hb => by
   have h1 := HLT.out b hb
   rw [hTs.block b (by have := (bthen hb12 hx23).size; omega) (by simp; omega), (bthen hb12 hx23).block b h1]
  have t0 := ownS.frame (w' := ws) oInode_good HO0.out (fun b hb => hfr b (by simp [hb]))
  have t1 := ownS.frame (w' := ws) oEntry_good HO1.out (fun b hb => hfr b (by simp [hb]))
  have hz12 := hb12.size
  have t2 := ownS.frame (w' := ws) oEntry_good hos3 (fun b hb => hTs.block b (ownS.lt oEntry_good hos3 b hb) (by intro h; simp at h; have := HGS.out b hb; omega))
  have HT0 := Hid.mk t0
  have HT1 := Hid.mk t1
  have HT2 := Hid.mk t2
  have HBS := Hid.mk hBs
  have HSUB : Hid (∀ b, b ∈ G0 ++ G1 ++ (Value.ownBlock (.slice r3 m.fNames.length q3)).toList → w.heap.size + 2 ≤ b) := by
   intro b hb
   rw [List.mem_append, List.mem_append] at hb
   rcases hb with (hb | hb) | hb
   ·have := HGE.out b (by simp [hb]); omega
   ·have := HGE.out b (by simp [hb]); omega
   ·have := HGS.out b hb; omega
  rw [← hws]
  clear hws t0 t1 t2 hfr hos3 hTs zf2 zo0 zo1 zo2 zo3 fo2 hw3 s4 yd0 yd1 yd2 yd3 zd0 zd1 zd2 zd3
  refine (l2Ends_any _ d0 d1 r3 e0 e1 q3 m { m with fSafe := m.fNames } G0 G1 _ ws (rDisk_good.mono (rDisk_good.below HR.out HBS.out) HBS.out.size) HW.out HT0.out HT1.out HT2.out hnx HWK1.out (by simp only; omega)).mono ?_
  rintro e w4 ⟨cs4, F4, rfl, ho4, hF4, hx4⟩
  have hb4 := bthen HBS.out hx4
  have hbr4 := hbrs.under hx4
  have hl4 := hbr4.lt
  have hzE := HBS.out.size
  have hlE := hbrs.lt
  rw [HE.out.1] at ho4
  obtain ⟨q0, p0, q1, p1, q2, p2, E0, E1, E2, rfl, _, _, _, _, rfl⟩ := oDisk_cells ho4
  have hkey : ∀ W', Turn [w.heap.size + 1] w4 W' → rDisk W'.heap.size W' [.slice q0 (keepD { m with fSafe := m.fNames }).fInodes.length p0, .slice q1 (keepD { m with fSafe := m.fNames }).fNames.length p1, .slice q2 (keepD { m with fSafe := m.fNames }).fSafe.length p2, .int .i64 (keepD { m with fSafe := m.fNames }).fNext] (keepD { m with fSafe := m.fNames }) ∧ Below w.heap.size w W' := fun W' hT =>
   ⟨oDisk_good.read (oDisk_good.frame ho4 (fun b hb => hT.block b (oDisk_good.lt ho4 b hb) (fun h => by simp at h; rcases hF4 b hb with h2 | h2; (have := HSUB.out b h2; omega); omega))), hb4.trans (hT.below (fun k hk => by simp at hk; omega) hb4.size)⟩
  have HKEY := Hid.mk hkey
  clear hkey ho4 hF4
  have ze0 := hbr4.cell 0 _ rfl
  have ze1 := hbr4.cell 1 _ rfl
  have ze2 := hbr4.cell 2 _ rfl
  have ze3 := hbr4.cell 3 _ rfl
  have zf0 := hbr4.free 0
  have zf1 := hbr4.free 1
  have zf2 := hbr4.free 2
  have zf3 := hbr4.free 3
  have HEC : Hid (endsC { m with fSafe := m.fNames } = 0) := HE.out.2
  rw [HEC.out]
  go_wp2_with fail
  obtain ⟨h1, h3⟩ := HKEY.out _ (show Turn [w.heap.size + 1] w4 ((((w4.setCell ⟨w.heap.size + 1, 0, none⟩ (.slice q0 (keepD { m with fSafe := m.fNames }).fInodes.length p0)).setCell ⟨w.heap.size + 1, 1, none⟩ (.slice q1 (keepD { m with fSafe := m.fNames }).fNames.length p1)).setCell ⟨w.heap.size + 1, 2, none⟩ (.slice q2 (keepD { m with fSafe := m.fNames }).fSafe.length p2)).setCell ⟨w.heap.size + 1, 3, none⟩ (.int .i64 (keepD { m with fSafe := m.fNames }).fNext)) from turn4 _ _ _ _ _ _)
  exact bodyPost_ret (v := .tuple #[.agg #[.slice q0 (keepD { m with fSafe := m.fNames }).fInodes.length p0, .slice q1 (keepD { m with fSafe := m.fNames }).fNames.length p1, .slice q2 (keepD { m with fSafe := m.fNames }).fSafe.length p2, .int .i64 (keepD { m with fSafe := m.fNames }).fNext], .int .i64 0]) (by simp [results, Tryz.results56, go_sem, *]) rfl ⟨[.slice q0 (keepD { m with fSafe := m.fNames }).fInodes.length p0, .slice q1 (keepD { m with fSafe := m.fNames }).fNames.length p1, .slice q2 (keepD { m with fSafe := m.fNames }).fSafe.length p2, .int .i64 (keepD { m with fSafe := m.fNames }).fNext], by rw [HV.out.2], by rw [HV.out.1]; exact h1, h3⟩
 ·have hK2 : diskOk m = false := Bool.eq_false_iff.2 hK
  have HV : Hid (syncDirP m = m ∧ syncDirC m = 1) := by refine ⟨?_, ?_⟩ <;> simp [syncDirP, syncDirC, hK2]
  have HCP : Hid (syncDirC m = 1) := HV.out.2
  rw [hK2]
  clear hK hK2
  have ze0 := hbr2.cell 0 _ rfl
  have zf0 := hbr2.free 0
  have ze1 := hbr2.cell 1 _ rfl
  have zf1 := hbr2.free 1
  have ze2 := hbr2.cell 2 _ rfl
  have zf2 := hbr2.free 2
  have ze3 := hbr2.cell 3 _ rfl
  have zf3 := hbr2.free 3
  have hlt0 := hbr2.lt
  have hO3 : oDisk w2 [.slice d0 m.fInodes.length e0, .slice d1 m.fNames.length e1, .slice d2 m.fSafe.length e2, .int .i64 m.fNext] (syncDirP m) (G0 ++ G1 ++ G2 ++ []) := by rw [HV.out.1]; exact oDisk_good.frame HO.out (fun b hb => hb12.block b (HLT.out b hb))
  have hG3 : ∀ b, b ∈ G0 ++ G1 ++ G2 ++ [] → w.heap.size + 2 ≤ b := fun b hb => by have := HGE.out b hb; omega
  have HBf := Hid.mk hb2
  have HO3 := Hid.mk hO3
  clear hO3
  go_wp2_with fail
  refine bodyPost_ret (v := .tuple #[.agg #[.slice d0 m.fInodes.length e0, .slice d1 m.fNames.length e1, .slice d2 m.fSafe.length e2, .int .i64 m.fNext], .int .i64 1]) (by simp [results, Tryz.results56, go_sem, *]) rfl ⟨[.slice d0 m.fInodes.length e0, .slice d1 m.fNames.length e1, .slice d2 m.fSafe.length e2, .int .i64 m.fNext], by first | rfl | rw [HCP.out], ?_, ?_⟩
  ·exact oDisk_good.read (oDisk_good.frame HO3.out (fun b hb => (show Turn [w.heap.size + 1] w2 _ from by repeat (first | with_reducible exact Turn.refl _ _ | with_reducible refine Turn.setCell ?_ (by simp) _ | with_reducible refine Turn.alloc ?_ _ | with_reducible refine Turn.drew ?_)).block b (oDisk_good.lt HO3.out b hb) (by intro h; simp at h; have := hG3 b hb; omega)))
  ·exact HBf.out.trans ((show Turn [w.heap.size + 1] w2 _ from by repeat (first | with_reducible exact Turn.refl _ _ | with_reducible refine Turn.setCell ?_ (by simp) _ | with_reducible refine Turn.alloc ?_ _ | with_reducible refine Turn.drew ?_)).below (fun k hk => by simp at hk; omega) HBf.out.size)
end Go.Proofs.YtolciaheoanlbaaGreatDoor

/-
  The specification's Remove.
-/
namespace Go.Proofs.YtolciaheoanlbaaGreatDoor
open Go.RowKit Go.Maps
set_option linter.unusedVariables false
set_option linter.unusedSimpArgs false
set_option maxRecDepth 10000
set_option maxHeartbeats 4000000 in
theorem specRemove_c (cs : List Value) (m : MDisk) (s : ByteArray) (w : World) (hr : rDisk w.heap.size w cs m) (hs : s.size ≤ 9223372036854775807) (hw : wDisk m ≤ 1048576) (hw1 : s.size ≤ 1048576) :
  Calls Tryz.prog 75 #[.agg cs.toArray, .string s] w fun e w' => ∃ cs' : List Value, e = .returned (.tuple #[.agg cs'.toArray, .int .i64 (callP m s)]) ∧ rDisk w'.heap.size w' cs' (removeP m s) ∧ Below w.heap.size w w' := by
 have hq := hr
 obtain ⟨a0, c0, a1, c1, a2, c2, rfl, hI, hNm, hSf, hnx, _⟩ := hq
 have hw2 : m.fInodes.length + sumW wInode m.fInodes + (m.fNames.length + sumW wEntry m.fNames) + (m.fSafe.length + sumW wEntry m.fSafe) ≤ 1048576 := hw
 have HW := Hid.mk hw
 have HR := Hid.mk hr
 clear hr hI hNm hSf hw
 go_enter Tryz.func75, Tryz.ntmps75
 go_wp2_with fail
 obtain ⟨wq, hwq⟩ : ∃ wq, wq = ((w.alloc (.cells #[.slice a0 m.fInodes.length c0, .slice a1 m.fNames.length c1, .slice a2 m.fSafe.length c2, .int .i64 m.fNext] 30)).alloc (.cells #[.slice none 0 0, .slice none 0 0, .slice none 0 0, .int .i64 0] 30)) := ⟨_, rfl⟩
 have hbW : Below w.heap.size w wq := by rw [hwq]; exact Below.alloc (Below.alloc (Below.refl _ _) (by exact Nat.le_refl _) _) (by simp; try omega) _
 have hbd : Bw wq (w.heap.size) 30 [.slice a0 m.fInodes.length c0, .slice a1 m.fNames.length c1, .slice a2 m.fSafe.length c2, .int .i64 m.fNext] := by rw [hwq]; exact Bw.alloc (Bw.new' _ _ _ (by simp)) _
 have hbr : Bw wq (w.heap.size + 1) 30 [.slice none 0 0, .slice none 0 0, .slice none 0 0, .int .i64 0] := by rw [hwq]; exact Bw.new' _ _ _ (by simp)
 rw [← hwq]
 clear hwq
 refine (l2Copy_any _ m wq (rDisk_good.mono (rDisk_good.below HR.out hbW) hbW.size) HW.out).mono ?_
 rintro e w1 ⟨cs2, F2, rfl, ho2, hN2, hge2, hx1⟩
 obtain ⟨d0, e0, d1, e1, d2, e2, G0, G1, G2, rfl, o0, o1, o2, _, rfl⟩ := oDisk_cells ho2
 have HO0 := Hid.mk o0
 have HO1 := Hid.mk o1
 have HO2 := Hid.mk o2
 have HO := Hid.mk ho2
 have HN := Hid.mk hN2
 have HGE : Hid (∀ b, b ∈ G0 ++ G1 ++ G2 ++ [] → wq.heap.size ≤ b) := hge2
 have HLT : Hid (∀ b, b ∈ G0 ++ G1 ++ G2 ++ [] → b < w1.heap.size) := fun b hb => oDisk_good.lt ho2 b hb
 clear ho2 hN2 hge2 o0 o1 o2
 have hb1 := bthen hbW hx1
 have hbd1 := hbd.under hx1
 have hbr1 := hbr.under hx1
 have hz1 := hx1.size
 have hzW := hbW.size
 have hl0 := hbr.lt
 have y0 := hbd1.cell 0 _ rfl
 have y1 := hbd1.cell 1 _ rfl
 have y2 := hbd1.cell 2 _ rfl
 have y3 := hbd1.cell 3 _ rfl
 have hl1 := hbd1.lt
 go_wp2_with fail
 obtain ⟨wa, hwa⟩ : ∃ wa, wa = w1.alloc (.cells #[.slice d0 m.fInodes.length e0, .slice d1 m.fNames.length e1, .slice d2 m.fSafe.length e2, .int .i64 m.fNext] 30) := ⟨_, rfl⟩
 have hba : Below w1.heap.size w1 wa := by rw [hwa]; exact (Below.refl _ _).alloc (Nat.le_refl _) _
 have hwb0 : Bw wa w1.heap.size 30 [.slice d0 m.fInodes.length e0, .slice d1 m.fNames.length e1, .slice d2 m.fSafe.length e2, .int .i64 m.fNext] := by rw [hwa]; exact Bw.new _ _ _
 rw [← hwa]
 clear hwa
 have hba1 := bthen hb1 hba
 have hbda := (hbd1.under hba)
 refine (l2Call_any _ m s wa (rDisk_good.mono (rDisk_good.below HR.out hba1) hba1.size) HW.out hs).mono ?_
 rintro e w2 ⟨rfl, hx2⟩
 have hb12 := bthen hba hx2
 have hb2 := bthen hba1 hx2
 have hwb := hwb0.under hx2
 have hbr2 := (hbr1.under hba).under hx2
 have hbd2 := hbda.under hx2
 clear hwb0 hbda hbd1 y0 y1 y2 y3
 have zo0 := hwb.cell 0 _ rfl
 have zo1 := hwb.cell 1 _ rfl
 have zo2 := hwb.cell 2 _ rfl
 have zo3 := hwb.cell 3 _ rfl
 by_cases hC : callP m s = 0
 ·have hgd := (call_good hC).1
  have hrok := remove_ok (s := s) hgd
  have HV : Hid (removeP m s = keepD { m with fNames := without m.fNames s } ∧ callP m s = 0) := by refine ⟨?_, hC⟩; unfold removeP removeD; rw [if_pos hC]
  have HE : Hid (endsD m { m with fNames := without m.fNames s } = keepD { m with fNames := without m.fNames s } ∧ endsC { m with fNames := without m.fNames s } = 0) := by
   unfold removeD at hrok
   refine ⟨?_, ?_⟩ <;> simp only [endsD, endsC, hrok, if_true]
  have hsub : (without m.fNames s).Sublist m.fNames := List.filter_sublist
  have hsl := hsub.length_le
  have HWK1 : Hid (wDisk { m with fNames := without m.fNames s } ≤ 16777216) := by
   show _ ≤ _
   have h2 := sumW_sublist (f := wEntry) hsub
   rw [wDisk_eq]
   simp only
   omega
  rw [hC]
  clear hC hrok hgd hsub
  have hlo := hwb.lt
  have fo1 := hwb.free 1
  go_wp2_with fail
  refine (l2Without_any d1 m.fNames.length e1 m.fNames s w2 rfl (by omega) (ownS.leaf oEntry_good (ownS.frame oEntry_good HO1.out (fun b hbF => hb12.block b (HLT.out b (by simp [hbF])))))).mono ?_
  rintro e w3 ⟨r3, q3, F3, rfl, ho3, hg3, hx3⟩
  have HO3 := Hid.mk ho3
  have HGS := Hid.mk hg3
  clear ho3 hg3
  have hwb3 := hwb.under hx3
  have zf1 := hwb3.free 1
  have hl3 := hwb3.lt
  have hbd3 := hbd2.under hx3
  have hl3d := hbd3.lt
  have zd0 := hwb3.cell 0 _ rfl
  have zd1 := hwb3.cell 1 _ rfl
  have zd2 := hwb3.cell 2 _ rfl
  have zd3 := hwb3.cell 3 _ rfl
  have yd0 := hbd3.cell 0 _ rfl
  have yd1 := hbd3.cell 1 _ rfl
  have yd2 := hbd3.cell 2 _ rfl
  have yd3 := hbd3.cell 3 _ rfl
  clear zo0 zo1 zo2 zo3 fo1
  go_wp2_with fail
  obtain ⟨ws, hws⟩ : ∃ ws, ws = w3.setCell ⟨w1.heap.size, 1, none⟩ (.slice r3 (without m.fNames s).length q3) := ⟨_, rfl⟩
  have hTs : Turn [w1.heap.size] w3 ws := by rw [hws]; exact Turn.setCell (Turn.refl _ _) (by simp) _
  have hwbs : Bw ws w1.heap.size 30 [.slice d0 m.fInodes.length e0, .slice r3 (without m.fNames s).length q3, .slice d2 m.fSafe.length e2, .int .i64 m.fNext] := by rw [hws]; exact hwb3.put 1 _
  have hbds := hbd3.turn hTs (by simp; omega)
  have hbrs := (hbr2.under hx3).turn hTs (by simp; omega)
  have hb3 := bthen hb2 hx3
  have hBs : Below w.heap.size w ws := hb3.trans (hTs.below (fun k hk => by simp at hk; omega) hb3.size)
  have hfr : ∀ b, b ∈ G0 ++ G1 ++ G2 ++ [] → ws.heap[b]? = w1.heap[b]? := fun b hb => by
   have h1 := HLT.out b hb
   rw [hTs.block b (by have := (bthen hb12 hx3).size; omega) (by simp; omega), (bthen hb12 hx3).block b h1]
  have t0 := ownS.frame (w' := ws) oInode_good HO0.out (fun b hb => hfr b (by simp [hb]))
  have t2 := ownS.frame (w' := ws) oEntry_good HO2.out (fun b hb => hfr b (by simp [hb]))
  have hz12 := hb12.size
  have t1 := ownS.frame (w' := ws) oEntry_good HO3.out (fun b hb => hTs.block b (ownS.lt oEntry_good HO3.out b hb) (by intro h; simp at h; have := HGS.out b hb; omega))
  have HT0 := Hid.mk t0
  have HT1 := Hid.mk t1
  have HT2 := Hid.mk t2
  have HBS := Hid.mk hBs
  have HSUB : Hid (∀ b, b ∈ G0 ++ F3 ++ G2 → w.heap.size + 2 ≤ b) := by
   intro b hb
   rw [List.mem_append, List.mem_append] at hb
   rcases hb with (hb | hb) | hb
   ·have := HGE.out b (by simp [hb]); omega
   ·have := HGS.out b hb; omega
   ·have := HGE.out b (by simp [hb]); omega
  rw [← hws]
  clear hws t0 t1 t2 hfr hTs zf1 zd0 zd1 zd2 zd3 yd0 yd1 yd2 yd3
  have zs0 := hwbs.cell 0 _ rfl
  have zs1 := hwbs.cell 1 _ rfl
  have zs2 := hwbs.cell 2 _ rfl
  have zs3 := hwbs.cell 3 _ rfl
  have ys0 := hbds.cell 0 _ rfl
  have ys1 := hbds.cell 1 _ rfl
  have ys2 := hbds.cell 2 _ rfl
  have ys3 := hbds.cell 3 _ rfl
  go_wp2_with fail
  refine (l2Ends_any _ d0 r3 d2 e0 q3 e2 m { m with fNames := without m.fNames s } G0 _ G2 ws (rDisk_good.mono (rDisk_good.below HR.out HBS.out) HBS.out.size) HW.out HT0.out HT1.out HT2.out hnx HWK1.out (by simp only; omega)).mono ?_
  rintro e w4 ⟨cs4, F4, rfl, ho4, hF4, hx4⟩
  have hb4 := bthen HBS.out hx4
  have hbr4 := hbrs.under hx4
  have hl4 := hbr4.lt
  have hzE := HBS.out.size
  have hlE := hbrs.lt
  rw [HE.out.1] at ho4
  obtain ⟨q0, p0, q1, p1, q2, p2, E0, E1, E2, rfl, _, _, _, _, rfl⟩ := oDisk_cells ho4
  have hkey : ∀ W', Turn [w.heap.size + 1] w4 W' → rDisk W'.heap.size W' [.slice q0 (keepD { m with fNames := without m.fNames s }).fInodes.length p0, .slice q1 (keepD { m with fNames := without m.fNames s }).fNames.length p1, .slice q2 (keepD { m with fNames := without m.fNames s }).fSafe.length p2, .int .i64 (keepD { m with fNames := without m.fNames s }).fNext] (keepD { m with fNames := without m.fNames s }) ∧ Below w.heap.size w W' := fun W' hT =>
   ⟨oDisk_good.read (oDisk_good.frame ho4 (fun b hb => hT.block b (oDisk_good.lt ho4 b hb) (fun h => by simp at h; rcases hF4 b hb with h2 | h2; (have := HSUB.out b h2; omega); omega))), hb4.trans (hT.below (fun k hk => by simp at hk; omega) hb4.size)⟩
  have HKEY := Hid.mk hkey
  clear hkey ho4 hF4
  have ze0 := hbr4.cell 0 _ rfl
  have ze1 := hbr4.cell 1 _ rfl
  have ze2 := hbr4.cell 2 _ rfl
  have ze3 := hbr4.cell 3 _ rfl
  have zf0 := hbr4.free 0
  have zf1 := hbr4.free 1
  have zf2 := hbr4.free 2
  have zf3 := hbr4.free 3
  have HEC : Hid (endsC { m with fNames := without m.fNames s } = 0) := HE.out.2
  rw [HEC.out]
  go_wp2_with fail
  obtain ⟨h1, h3⟩ := HKEY.out _ (show Turn [w.heap.size + 1] w4 ((((w4.setCell ⟨w.heap.size + 1, 0, none⟩ (.slice q0 (keepD { m with fNames := without m.fNames s }).fInodes.length p0)).setCell ⟨w.heap.size + 1, 1, none⟩ (.slice q1 (keepD { m with fNames := without m.fNames s }).fNames.length p1)).setCell ⟨w.heap.size + 1, 2, none⟩ (.slice q2 (keepD { m with fNames := without m.fNames s }).fSafe.length p2)).setCell ⟨w.heap.size + 1, 3, none⟩ (.int .i64 (keepD { m with fNames := without m.fNames s }).fNext)) from turn4 _ _ _ _ _ _)
  exact bodyPost_ret (v := .tuple #[.agg #[.slice q0 (keepD { m with fNames := without m.fNames s }).fInodes.length p0, .slice q1 (keepD { m with fNames := without m.fNames s }).fNames.length p1, .slice q2 (keepD { m with fNames := without m.fNames s }).fSafe.length p2, .int .i64 (keepD { m with fNames := without m.fNames s }).fNext], .int .i64 0]) (by simp [results, Tryz.results75, go_sem, *]) rfl ⟨[.slice q0 (keepD { m with fNames := without m.fNames s }).fInodes.length p0, .slice q1 (keepD { m with fNames := without m.fNames s }).fNames.length p1, .slice q2 (keepD { m with fNames := without m.fNames s }).fSafe.length p2, .int .i64 (keepD { m with fNames := without m.fNames s }).fNext], by rw [HV.out.2], by rw [HV.out.1]; exact h1, h3⟩
 ·have HV : Hid (removeP m s = m) := by show _ = _; unfold removeP; rw [if_neg hC]
  have hcn : (callP m s == 0) = false := beq_eq_false_iff_ne.2 hC
  obtain ⟨cp, hcp⟩ : ∃ cp, callP m s = cp := ⟨_, rfl⟩
  rw [hcp] at hcn ⊢
  have HCP := Hid.mk hcp
  clear hcp hC
  have ze0 := hbr2.cell 0 _ rfl
  have zf0 := hbr2.free 0
  have ze1 := hbr2.cell 1 _ rfl
  have zf1 := hbr2.free 1
  have ze2 := hbr2.cell 2 _ rfl
  have zf2 := hbr2.free 2
  have ze3 := hbr2.cell 3 _ rfl
  have zf3 := hbr2.free 3
  have hlt0 := hbr2.lt
  have hO3 : oDisk w2 [.slice d0 m.fInodes.length e0, .slice d1 m.fNames.length e1, .slice d2 m.fSafe.length e2, .int .i64 m.fNext] (removeP m s) (G0 ++ G1 ++ G2 ++ []) := by rw [HV.out]; exact oDisk_good.frame HO.out (fun b hb => hb12.block b (HLT.out b hb))
  have hG3 : ∀ b, b ∈ G0 ++ G1 ++ G2 ++ [] → w.heap.size + 2 ≤ b := fun b hb => by have := HGE.out b hb; omega
  have HBf := Hid.mk hb2
  have HO3 := Hid.mk hO3
  clear hO3
  go_wp2_with fail
  refine bodyPost_ret (v := .tuple #[.agg #[.slice d0 m.fInodes.length e0, .slice d1 m.fNames.length e1, .slice d2 m.fSafe.length e2, .int .i64 m.fNext], .int .i64 cp]) (by simp [results, Tryz.results75, go_sem, *]) rfl ⟨[.slice d0 m.fInodes.length e0, .slice d1 m.fNames.length e1, .slice d2 m.fSafe.length e2, .int .i64 m.fNext], by first | rfl | rw [HCP.out], ?_, ?_⟩
  ·exact oDisk_good.read (oDisk_good.frame HO3.out (fun b hb => (show Turn [w.heap.size + 1] w2 _ from by repeat (first | with_reducible exact Turn.refl _ _ | with_reducible refine Turn.setCell ?_ (by simp) _ | with_reducible refine Turn.alloc ?_ _ | with_reducible refine Turn.drew ?_)).block b (oDisk_good.lt HO3.out b hb) (by intro h; simp at h; have := hG3 b hb; omega)))
  ·exact HBf.out.trans ((show Turn [w.heap.size + 1] w2 _ from by repeat (first | with_reducible exact Turn.refl _ _ | with_reducible refine Turn.setCell ?_ (by simp) _ | with_reducible refine Turn.alloc ?_ _ | with_reducible refine Turn.drew ?_)).below (fun k hk => by simp at hk; omega) HBf.out.size)
end Go.Proofs.YtolciaheoanlbaaGreatDoor

/-
  What a disk reads as lies in no disk's box: a box may be written, and the reading stands.
-/
namespace Go.Proofs.YtolciaheoanlbaaGreatDoor
open Go.RowKit
set_option linter.unusedVariables false
set_option linter.unusedSimpArgs false
def DBox (w : World) (b : Nat) : Prop := ∃ (t : TypeId) (a0 a1 a2 : Option Addr) (n0 c0 n1 c1 n2 c2 : Nat) (z : Int), Bw w b t [.slice a0 n0 c0, .slice a1 n1 c1, .slice a2 n2 c2, .int .i64 z]
theorem DBox.at {w : World} {b : Nat} (h : DBox w b) (k : Nat) : (∃ a n c, w.cell? ⟨b, k, none⟩ = some (.slice a n c)) ∨ (k = 3 ∧ ∃ z, w.cell? ⟨b, k, none⟩ = some (.int .i64 z)) ∨ (4 ≤ k ∧ w.cell? ⟨b, k, none⟩ = none) := by
 obtain ⟨t, a0, a1, a2, n0, c0, n1, c1, n2, c2, z, hb⟩ := h
 have hc := cell_of_row w b k _ t (0, 0) hb
 rw [hc]
 match k with
 | 0 => exact .inl ⟨_, _, _, rfl⟩
 | 1 => exact .inl ⟨_, _, _, rfl⟩
 | 2 => exact .inl ⟨_, _, _, rfl⟩
 | 3 => exact .inr (.inl ⟨rfl, _, rfl⟩)
 | k + 4 => exact .inr (.inr ⟨by omega, rfl⟩)
section
variable {B : Nat} {w w' : World} {b : Nat}
theorem turn_cell (h : Turn [b] w w') {g k : Nat} (hg : g ≠ b) {u : Value} (hu : w.cell? ⟨g, k, none⟩ = some u) : w'.cell? ⟨g, k, none⟩ = some u := by
 have hlt : g < w.heap.size := World.block_lt_of_cell? _ _ hu
 have hs := h.block g hlt (by simpa using hg)
 have : w'.cell? ⟨g, k, none⟩ = w.cell? ⟨g, k, none⟩ := by simp [World.cell?, hs]
 rw [this, hu]
theorem leafB_turn (hx : DBox w b) (h : Turn [b] w w') {a : Option Addr} {c : Nat} {zs : List Int} (hl : LeafB B w a c zs) : LeafB B w' a c zs := by
 refine ⟨hl.1, hl.2.1, fun j hj => ?_, hl.2.2.2⟩
 obtain ⟨g, off, e, hB, hc⟩ := hl.2.2.1 j hj
 refine ⟨g, off, e, hB, turn_cell h ?_ hc⟩
 rintro rfl
 rcases hx.at (off + j) with ⟨_, _, _, h1⟩ | ⟨_, z, h1⟩ | ⟨_, h1⟩ <;> rw [hc] at h1 <;> cases h1
theorem leafE_turn (hx : DBox w b) (h : Turn [b] w w') {a : Option Addr} {c : Nat} {l : List MEntry} (hl : LeafL 2 rEntry B w a c l) : LeafL 2 rEntry B w' a c l := by
 refine ⟨hl.1, hl.2.1, fun j hj => ?_⟩
 obtain ⟨g, off, e, hB, cs, h1, h2, h3⟩ := hl.2.2 j hj
 have h3' := h3
 obtain ⟨rfl, _⟩ := h3
 have hne : g ≠ b := by
  rintro rfl
  have h4 := h2 0 _ rfl
  rcases hx.at (off + j * 2 + 0) with ⟨_, _, _, h5⟩ | ⟨_, z, h5⟩ | ⟨_, h5⟩ <;> rw [h4] at h5 <;> cases h5
 exact ⟨g, off, e, hB, _, h1, fun i u hu => turn_cell h hne (h2 i u hu), h3'⟩
theorem leafI_turn (hx : DBox w b) (h : Turn [b] w w') {a : Option Addr} {c : Nat} {l : List MInode} (hl : LeafL 3 rInode B w a c l) : LeafL 3 rInode B w' a c l := by
 refine ⟨hl.1, hl.2.1, fun j hj => ?_⟩
 obtain ⟨g, off, e, hB, cs, h1, h2, a1, c1, rfl, h3, h4, h5, _⟩ := hl.2.2 j hj
 have hne : g ≠ b := by
  rintro rfl
  have h6 := h2 0 _ rfl
  have h7 := h2 1 _ rfl
  rcases hx.at (off + j * 3 + 0) with ⟨_, _, _, h8⟩ | ⟨hk, z, h8⟩ | ⟨_, h8⟩
  ·rw [h6] at h8; cases h8
  ·rcases hx.at (off + j * 3 + 1) with ⟨_, _, _, h9⟩ | ⟨hk2, z, h9⟩ | ⟨_, h9⟩
   ·have hk3 : off + j * 3 + 1 = 4 := by omega
    have := hx.at 4
    rw [hk3] at h9
    rcases this with ⟨_, _, _, h10⟩ | ⟨h10, _⟩ | ⟨_, h10⟩
    ·obtain ⟨t, b0, b1, b2, n0, c0, n1, c1', n2, c2, z2, hb⟩ := hx
     have hc := cell_of_row w g 4 _ t (0, 0) hb
     rw [hc] at h10
     cases h10
    ·omega
    ·rw [h10] at h9; cases h9
   ·omega
   ·rw [h7] at h9; cases h9
  ·rw [h6] at h8; cases h8
 exact ⟨g, off, e, hB, _, h1, fun i u hu => turn_cell h hne (h2 i u hu), a1, c1, rfl, h3, leafB_turn hx h h4, h5, trivial⟩
theorem rDisk_turn {cs : List Value} {m : MDisk} (hx : DBox w b) (h : Turn [b] w w') (hr : rDisk B w cs m) : rDisk B w' cs m := by
 obtain ⟨a0, c0, a1, c1, a2, c2, rfl, h0, h1, h2, h3, _⟩ := hr
 exact ⟨a0, c0, a1, c1, a2, c2, rfl, leafI_turn hx h h0, leafE_turn hx h h1, leafE_turn hx h h2, h3, trivial⟩
end
theorem Bw.dbox {w : World} {b : Nat} {t : TypeId} {cs : List Value} {B : Nat} {W : World} {m : MDisk} (h : Bw w b t cs) (hr : rDisk B W cs m) : DBox w b := by
 obtain ⟨a0, c0, a1, c1, a2, c2, rfl, _⟩ := hr
 exact ⟨t, a0, a1, a2, _, _, _, _, _, _, _, h⟩
theorem Bw.dzero {w : World} {b : Nat} {t : TypeId} (h : Bw w b t [.slice none 0 0, .slice none 0 0, .slice none 0 0, .int .i64 0]) : DBox w b := ⟨t, _, _, _, _, _, _, _, _, _, _, h⟩
end Go.Proofs.YtolciaheoanlbaaGreatDoor

/-
  A disk in its box, between two of the specification's steps.
-/
namespace Go.Proofs.YtolciaheoanlbaaGreatDoor
open Go.RowKit
set_option linter.unusedVariables false
set_option linter.unusedSimpArgs false
theorem Bw.put4 {w : World} {b : Nat} {t : TypeId} {vs : List Value} (h : Bw w b t vs) (hl : vs.length = 4) (x0 x1 x2 x3 : Value) : Bw ((((w.setCell ⟨b, 0, none⟩ x0).setCell ⟨b, 1, none⟩ x1).setCell ⟨b, 2, none⟩ x2).setCell ⟨b, 3, none⟩ x3) b t [x0, x1, x2, x3] := by
 have h4 := (((h.put 0 x0).put 1 x1).put 2 x2).put 3 x3
 obtain ⟨y0, y1, y2, y3, rfl⟩ : ∃ y0 y1 y2 y3, vs = [y0, y1, y2, y3] := by
  match vs, hl with
  | [y0, y1, y2, y3], _ => exact ⟨y0, y1, y2, y3, rfl⟩
 exact h4
def SpW (w : World) (W : World) (cs : List Value) (d : MDisk) : Prop :=
 Bw W (w.heap.size + 1 + 1) 30 cs ∧ rDisk W.heap.size W cs d ∧ Bw W (w.heap.size + 1) 30 [.slice none 0 0, .slice none 0 0, .slice none 0 0, .int .i64 0] ∧ Below w.heap.size w W
theorem SpW.step {w W W' : World} {cs : List Value} {d d' : MDisk} {x0 x1 x2 x3 : Value} (h : SpW w W cs d) (hl : cs.length = 4) (hx : Below W.heap.size W W') (hr : rDisk W'.heap.size W' [x0, x1, x2, x3] d') :
  SpW w ((((W'.setCell ⟨w.heap.size + 1 + 1, 0, none⟩ x0).setCell ⟨w.heap.size + 1 + 1, 1, none⟩ x1).setCell ⟨w.heap.size + 1 + 1, 2, none⟩ x2).setCell ⟨w.heap.size + 1 + 1, 3, none⟩ x3) [x0, x1, x2, x3] d' := by
 obtain ⟨h1, h2, h3, h4⟩ := h
 have hT := turn4 W' (w.heap.size + 1 + 1) x0 x1 x2 x3
 have hb := bthen h4 hx
 have hz : ((((W'.setCell ⟨w.heap.size + 1 + 1, 0, none⟩ x0).setCell ⟨w.heap.size + 1 + 1, 1, none⟩ x1).setCell ⟨w.heap.size + 1 + 1, 2, none⟩ x2).setCell ⟨w.heap.size + 1 + 1, 3, none⟩ x3).heap.size = W'.heap.size := by simp
 refine ⟨(h1.under hx).put4 hl x0 x1 x2 x3, ?_, (h3.under hx).turn hT (by simp), hb.trans (hT.below (fun k hk => by simp at hk; omega) hb.size)⟩
 rw [hz]
 exact rDisk_turn ((h1.under hx).dbox h2) hT hr
end Go.Proofs.YtolciaheoanlbaaGreatDoor
