/-
  Part 12 of the texts that the proof leans on.
-/
import Derived.Test.YtddejboifpepcaaGreatDoorInp3
import Derived.Test.YtddejboifpepcaaGreatDoorInp5
import Derived.Test.YtddejboifpepcaaGreatDoorInp7
import Derived.Test.YtddejboifpepcaaGreatDoorInp10
import Derived.Test.YtddejboifpepcaaGreatDoorInp4
import Derived.Test.YtddejboifpepcaaGreatDoorInp9
set_option linter.unusedVariables false
set_option linter.unusedSimpArgs false
set_option maxRecDepth 10000

namespace Go.Proofs.YtddejboifpepcaaGreatDoor
open Go.RowKit Go.Maps
abbrev q8c8_85_4_0 : Oper := ⟨some 19, .fieldAddr 34 (.tmp 8) 0, 0, "l02_files.go:144", #[], none⟩
abbrev q8c8_85_4_1 : Oper := ⟨some 20, .load 31 (.tmp 19), 31, "l02_files.go:144", #[⟨0, .data⟩], none⟩
abbrev q8c8_85_4_2 : Oper := ⟨some 21, .move (.tmp 6), 3, "l02_files.go:144", #[], none⟩
abbrev q8c8_85_4_3 : Oper := ⟨some 22, .fieldAddr 34 (.tmp 8) 0, 0, "l02_files.go:144", #[], none⟩
abbrev q8c8_85_4_4 : Oper := ⟨some 23, .load 31 (.tmp 22), 31, "l02_files.go:144", #[⟨3, .data⟩], none⟩
abbrev q8c8_85_4_5 : Oper := ⟨some 24, .move (.tmp 6), 3, "l02_files.go:144", #[], none⟩
abbrev q8c8_85_4_6 : Oper := ⟨some 25, .indexAddr 31 (.tmp 23) (.tmp 24), 0, "l02_files.go:144", #[⟨4, .data⟩, ⟨5, .data⟩], none⟩
abbrev q8c8_85_4_7 : Oper := ⟨some 26, .fieldAddr 94 (.tmp 25) 1, 0, "l02_files.go:144", #[⟨6, .data⟩], none⟩
abbrev q8c8_85_4_8 : Oper := ⟨some 27, .load 63 (.tmp 26), 63, "l02_files.go:144", #[⟨7, .data⟩], none⟩
abbrev q8c8_85_4_9 : Oper := ⟨some 28, .call { callee := .builtin .len, args := #[.tmp 27], argTypes := #[63] }, 3, "l02_files.go:144", #[⟨8, .data⟩], none⟩
abbrev q8c8_85_4_10 : Oper := ⟨some 29, .indexAddr 31 (.tmp 20) (.tmp 21), 0, "l02_files.go:144", #[⟨1, .data⟩, ⟨2, .data⟩, ⟨0, .phase⟩, ⟨1, .phase⟩, ⟨2, .phase⟩, ⟨3, .phase⟩, ⟨4, .phase⟩, ⟨5, .phase⟩, ⟨6, .phase⟩, ⟨7, .phase⟩, ⟨8, .phase⟩, ⟨9, .phase⟩], none⟩
abbrev q8c8_85_4_11 : Oper := ⟨some 30, .fieldAddr 94 (.tmp 29) 2, 0, "l02_files.go:144", #[⟨10, .data⟩, ⟨0, .phase⟩, ⟨1, .phase⟩, ⟨2, .phase⟩, ⟨3, .phase⟩, ⟨4, .phase⟩, ⟨5, .phase⟩, ⟨6, .phase⟩, ⟨7, .phase⟩, ⟨8, .phase⟩, ⟨9, .phase⟩], none⟩
abbrev q8c8_85_4_12 : Oper := ⟨none, .store 3 (.tmp 30) (.tmp 28), 0, "l02_files.go:144", #[⟨11, .data⟩, ⟨9, .data⟩, ⟨0, .phase⟩, ⟨1, .phase⟩, ⟨2, .phase⟩, ⟨3, .phase⟩, ⟨4, .phase⟩, ⟨5, .phase⟩, ⟨6, .phase⟩, ⟨7, .phase⟩, ⟨8, .phase⟩, ⟨9, .phase⟩], none⟩
set_option maxHeartbeats 4000000 in
theorem implSync_c (cs : List Value) (m : MDisk) (s : ByteArray) (w : World) (hr : rDisk w.heap.size w cs m) (hs : s.size ≤ 9223372036854775807) (hw : wDisk m ≤ 1048576) (hw1 : s.size ≤ 1048576) :
  Calls Tryz.prog 85 #[.agg cs.toArray, .string s] w fun e w' => ∃ (cs' : List Value) (F : List Nat), e = .returned (.tuple #[.agg cs'.toArray, .int .i64 (callP m s)]) ∧ oDisk w' cs' (syncP m s) F ∧ F.Nodup ∧ (∀ b, b ∈ F → w.heap.size ≤ b) ∧ Below w.heap.size w w' := by
 have hq := hr
 obtain ⟨a0, c0, a1, c1, a2, c2, rfl, hI, hNm, hSf, hnx, _⟩ := hq
 have hw2 : m.fInodes.length + sumW wInode m.fInodes + (m.fNames.length + sumW wEntry m.fNames) + (m.fSafe.length + sumW wEntry m.fSafe) ≤ 1048576 := hw
 have HW := Hid.mk hw
 have HR := Hid.mk hr
 clear hr hI hNm hSf hw
 go_enter Tryz.func85, Tryz.ntmps85
 go_wp2_with fail
 obtain ⟨wq, hwq⟩ : ∃ wq, wq = ((w.alloc (.cells #[.slice a0 m.fInodes.length c0, .slice a1 m.fNames.length c1, .slice a2 m.fSafe.length c2, .int .i64 m.fNext] 34)).alloc (.cells #[.slice none 0 0, .slice none 0 0, .slice none 0 0, .int .i64 0] 34)) := ⟨_, rfl⟩
 have hbW : Below w.heap.size w wq := by rw [hwq]; exact Below.alloc (Below.alloc (Below.refl _ _) (by exact Nat.le_refl _) _) (by simp; try omega) _
 have hbd : Bw wq (w.heap.size) 34 [.slice a0 m.fInodes.length c0, .slice a1 m.fNames.length c1, .slice a2 m.fSafe.length c2, .int .i64 m.fNext] := by rw [hwq]; exact Bw.alloc (Bw.new' _ _ _ (by simp)) _
 have hbr : Bw wq (w.heap.size + 1) 34 [.slice none 0 0, .slice none 0 0, .slice none 0 0, .int .i64 0] := by rw [hwq]; exact Bw.new' _ _ _ (by simp)
 rw [← hwq]
 clear hwq
 refine (findFile_any _ m s wq (rDisk_good.mono (rDisk_good.below HR.out hbW) hbW.size) HW.out hs).mono ?_
 rintro e w1 ⟨p, rfl, hp, hx1⟩
 have HP := Hid.mk hp
 clear hp
 have hb1 := bthen hbW hx1
 have hbd1 := hbd.under hx1
 have hbr1 := hbr.under hx1
 obtain ⟨y0, y1, y2, y3⟩ := hbd1.c4
 clear hbd hbr
 go_wp2_with fail
 refine (copyDisk_any _ m w1 (rDisk_good.mono (rDisk_good.below HR.out hb1) hb1.size) HW.out).mono ?_
 rintro e w2 ⟨cs2, F2, rfl, ho2, hN2, hge2, hx2⟩
 obtain ⟨d0, e0, d1, e1, d2, e2, G0, G1, G2, rfl, o0, o1, o2, _, rfl⟩ := oDisk_cells ho2
 have HO0 := Hid.mk o0
 have HO1 := Hid.mk o1
 have HO2 := Hid.mk o2
 have HO := Hid.mk ho2
 have HN := Hid.mk hN2
 have HGE : Hid (∀ b, b ∈ G0 ++ G1 ++ G2 ++ [] → w1.heap.size ≤ b) := hge2
 have HLT : Hid (∀ b, b ∈ G0 ++ G1 ++ G2 ++ [] → b < w2.heap.size) := fun b hb => oDisk_good.lt ho2 b hb
 clear ho2 hN2 hge2 o0 o1 o2
 have hb2 := bthen hb1 hx2
 have hbr2 := hbr1.under hx2
 have hz2 := hx2.size
 have hl1 := hbr1.lt
 have hB2 := hb2
 have hbd2 := hbd1.under hx2
 by_cases hC : callP m s = 0
 ·obtain ⟨hpl, hpi⟩ := HP.out hC
  have HPF := Hid.mk (file_only hC hpl hpi)
  have HV : Hid (syncP m s = { m with fInodes := updI m.fInodes p sureI }) := by show _ = _; unfold syncP; rw [if_pos hC, HPF.out]
  obtain ⟨g, cap, hv, hgG, hgl⟩ := ownS.shape HO0.out (by omega)
  simp only [Value.slice.injEq, true_and] at hv
  obtain ⟨rfl, rfl⟩ := hv
  obtain ⟨cs3, Fk, o3, f3, n3, c3, z3⟩ := ownS.cells oInode_good HO0.out hpl
  obtain ⟨v3, F3, rfl, i3, b3, s3, rfl⟩ := o3
  obtain ⟨a3, l3, rfl, _⟩ := b3.read
  have k1 := c3 1 _ rfl
  have k2 := c3 2 _ rfl
  have r1 := z3 (p * 3 + 1)
  have r2 := z3 (p * 3 + 2)
  have hge1 := HGE.out g (by simp [hgG])
  have hdl : m.fInodes[p].fData.length ≤ 1048576 := by have h1 := sumW_le (f := wInode) hpl; have h2 : wInode m.fInodes[p] = m.fInodes[p].fData.length := rfl; omega
  obtain ⟨dn, hdn⟩ : ∃ dn, m.fInodes[p].fData.length = dn := ⟨_, rfl⟩
  rw [hdn] at k1 hdl
  have HDN := Hid.mk hdn
  have HPL := Hid.mk hpl
  have hpn : (0 : Int) ≤ (p : Int) := by omega
  have hpn2 : (p : Int) < (m.fInodes.length : Int) := by omega
  rw [hC]
  have HB2 := Hid.mk hb2
  have HBR2 := Hid.mk hbr2
  clear hdn c3 z3 n3 hbd1 hbr1 hbr2 hbd2 y0 y1 y2 y3 hpi hb2 hB2
  go_wp2_with fail
  obtain ⟨wo, hwo⟩ : ∃ wo, wo = w2.alloc (.cells #[.slice (some ⟨g, 0, none⟩) m.fInodes.length e0, .slice d1 m.fNames.length e1, .slice d2 m.fSafe.length e2, .int .i64 m.fNext] 34) := ⟨_, rfl⟩
  have hbo : Below w2.heap.size w2 wo := by rw [hwo]; exact (Below.refl _ _).alloc (Nat.le_refl _) _
  have hwb : Bw wo w2.heap.size 34 [.slice (some ⟨g, 0, none⟩) m.fInodes.length e0, .slice d1 m.fNames.length e1, .slice d2 m.fSafe.length e2, .int .i64 m.fNext] := by rw [hwo]; exact Bw.new _ _ _
  rw [← hwo]
  clear hwo
  have k1o := (hbo.cell (p := ⟨g, p * 3 + 1, none⟩) hgl).trans k1
  have k2o := (hbo.cell (p := ⟨g, p * 3 + 2, none⟩) hgl).trans k2
  have r2o := (hbo.frozen (p := ⟨g, p * 3 + 2, none⟩) hgl).trans r2
  have x0 := hwb.cell 0 _ rfl
  clear k1 k2 r2 r1
  have HG1 : Hid (g ≠ w2.heap.size) := by show _ ≠ _; omega
  refine wp_region_held_drew (S := fun W => W.cell? ⟨w2.heap.size, 0, none⟩ = some (.slice (some ⟨g, 0, none⟩) m.fInodes.length e0) ∧ W.cell? ⟨g, p * 3 + 1, none⟩ = some (.slice a3 dn l3) ∧ Turn [g] wo W) (by kernel_rfl) (⟨x0, k1o, Turn.ofBelow (Below.drew (Below.refl _ _))⟩) (fun hHeld => ?_)
  refine uq 0 q8c8_85_4_0 19 hHeld ?_
  refine uq 1 q8c8_85_4_1 20 hHeld ?_
  refine uq 2 q8c8_85_4_2 21 hHeld ?_
  refine uq 3 q8c8_85_4_3 22 hHeld ?_
  refine uq 4 q8c8_85_4_4 23 hHeld ?_
  refine uq 5 q8c8_85_4_5 24 hHeld ?_
  refine uq 6 q8c8_85_4_6 25 hHeld ?_
  refine uq 7 q8c8_85_4_7 26 hHeld ?_
  refine uq 8 q8c8_85_4_8 27 hHeld ?_
  refine uq 9 q8c8_85_4_9 28 hHeld ?_
  refine uq 10 q8c8_85_4_10 29 hHeld ?_
  refine uq 11 q8c8_85_4_11 30 hHeld ?_
  refine ar1 12 q8c8_85_4_12 fun K hK => ?_
  go_simp
  go_simp
  refine hK.out _ _ (⟨(World.cell?_setCell_other _ _ _ _ (fun h => HG1.out (congrArg Addr.block h))).trans x0, (World.cell?_setCell_other _ _ _ _ (fun h => by have := congrArg Addr.off h; simp at this)).trans k1o, Turn.drew (Turn.setCell (F := [g]) (a := wo) (b := wo) (p := ⟨g, p * 3 + 2, none⟩) (Turn.refl _ _) (by simp) (.int .i64 dn))⟩) (fun hHeld => ?_)
  clear hK K
  try simp only[Act.put,sa,s0,s1]
  refine wpAnyH_done (by kernel_rfl) ?_ _
  obtain ⟨w3, hw3⟩ : ∃ w3, w3 = (wo.setCell ⟨g, p * 3 + 2, none⟩ (.int .i64 dn)).drew := ⟨_, rfl⟩
  have hT3 : Turn [g] wo w3 := by rw [hw3]; exact Turn.drew (Turn.setCell (F := [g]) (a := wo) (b := wo) (p := ⟨g, p * 3 + 2, none⟩) (Turn.refl _ _) (by simp) _)
  have hwb3 := hwb.turn hT3 (by simp; omega)
  have hbr3 := (HBR2.out.under hbo).turn hT3 (by simp; omega)
  have hB3 : Below w.heap.size w w3 := (bthen HB2.out hbo).trans (hT3.below (fun k hk => by simp at hk; have := HB2.out.size; omega) (bthen HB2.out hbo).size)
  have HPL2 := HPL
  have hod : ∃ F', oDisk w3 [.slice (some ⟨g, 0, none⟩) m.fInodes.length e0, .slice d1 m.fNames.length e1, .slice d2 m.fSafe.length e2, .int .i64 m.fNext] (syncP m s) F' ∧ F'.Nodup ∧ ∀ b, b ∈ F' → b ∈ G0 ++ G1 ++ G2 := by
   have hfr : ∀ b, b ∈ G0 ++ G1 ++ G2 → b < w2.heap.size := fun b hb => HLT.out b (by simpa using hb)
   have q0 := ownS.frame (w' := wo) oInode_good HO0.out (fun b hb => hbo.block b (hfr b (by simp [hb])))
   have q1 := ownS.frame (w' := wo) oEntry_good HO1.out (fun b hb => hbo.block b (hfr b (by simp [hb])))
   have q2 := ownS.frame (w' := wo) oEntry_good HO2.out (fun b hb => hbo.block b (hfr b (by simp [hb])))
   have hsf : ∀ n : MInode, n.fData.length = dn → (sureI n).fSure = (dn : Int) := fun n h => by unfold sureI; simp [h]
   obtain ⟨F', o1, o2, o3, _⟩ := oDisk_inode q0 q1 q2 hnx HN.out HPL.out (i := 2) (by omega) (.int .i64 dn) sureI [] (fun b hb => by cases hb) (fun cs Fk h hN => by
    obtain ⟨v, F, rfl, q1, q2, q3, rfl⟩ := h
    refine ⟨F ++ [], ⟨v, F, ?_, q1, q2, ?_, rfl⟩, hN, fun b hb => .inl hb⟩
    ·rw [hsf _ HDN.out]
     rfl
    ·rw [hsf _ HDN.out]
     exact WalkArith.wf_i64 (by omega))
   refine ⟨F', ?_, o2, fun b hb => ?_⟩
   ·rw [HV.out, hw3]
    exact o1
   ·rcases o3 b hb with h | h
    ·exact h
    ·cases h
  obtain ⟨F3x, hO3, hN3, hS3⟩ := hod
  have hG3 : ∀ b, b ∈ F3x → w.heap.size + 2 ≤ b := fun b hb => by have := HGE.out b (by simpa using hS3 b hb); have := hb1.size; omega
  have HCz := Hid.mk hC
  rw [← hw3]
  clear hw3 hC hHeld x0 k1o k2o r2o
  have zo0 := hwb3.cell 0 _ rfl
  have ze0 := hbr3.cell 0 _ rfl
  have zf0 := hbr3.free 0
  have zo1 := hwb3.cell 1 _ rfl
  have ze1 := hbr3.cell 1 _ rfl
  have zf1 := hbr3.free 1
  have zo2 := hwb3.cell 2 _ rfl
  have ze2 := hbr3.cell 2 _ rfl
  have zf2 := hbr3.free 2
  have zo3 := hwb3.cell 3 _ rfl
  have ze3 := hbr3.cell 3 _ rfl
  have zf3 := hbr3.free 3
  have hTf := turn4 w3 (w.heap.size + 1) (.slice (some ⟨g, 0, none⟩) m.fInodes.length e0) (.slice d1 m.fNames.length e1) (.slice d2 m.fSafe.length e2) (.int .i64 m.fNext)
  have HTf := Hid.mk hTf
  have HBf := Hid.mk hB3
  clear hTf
  go_wp2_with fail
  refine bodyPost_ret (v := .tuple #[.agg #[.slice (some ⟨g, 0, none⟩) m.fInodes.length e0, .slice d1 m.fNames.length e1, .slice d2 m.fSafe.length e2, .int .i64 m.fNext], .int .i64 0]) (by simp [results, Tryz.results85, go_sem, *]) rfl ⟨[.slice (some ⟨g, 0, none⟩) m.fInodes.length e0, .slice d1 m.fNames.length e1, .slice d2 m.fSafe.length e2, .int .i64 m.fNext], F3x, by rw [HCz.out], ?_, hN3, ?_, ?_⟩
  ·exact oDisk_good.frame (hO3) (fun b hb => HTf.out.block b (oDisk_good.lt (hO3) b hb) (by intro h; simp at h; have := hG3 b hb; omega))
  ·intro b hb
   have := hG3 b hb
   omega
  ·exact HBf.out.trans (HTf.out.below (fun k hk => by simp at hk; omega) HBf.out.size)
 ·have HV : Hid (syncP m s = m) := by show _ = _; unfold syncP; rw [if_neg hC]
  have hcn : (callP m s == 0) = false := beq_eq_false_iff_ne.2 hC
  clear HP
  obtain ⟨cp, hcp⟩ : ∃ cp, callP m s = cp := ⟨_, rfl⟩
  rw [hcp] at hcn ⊢
  have HCP := Hid.mk hcp
  clear hcp hC
  obtain ⟨ze0, zf0, ze1, zf1, ze2, zf2, ze3, zf3⟩ := hbr2.c8
  have hlt0 := hbr2.lt
  have hO3 : oDisk w2 [.slice d0 m.fInodes.length e0, .slice d1 m.fNames.length e1, .slice d2 m.fSafe.length e2, .int .i64 m.fNext] (syncP m s) (G0 ++ G1 ++ G2 ++ []) := by rw [HV.out]; exact HO.out
  have hG3 : ∀ b, b ∈ G0 ++ G1 ++ G2 ++ [] → w.heap.size + 2 ≤ b := fun b hb => by have := HGE.out b hb; omega
  have HBf := Hid.mk hb2
  have HO3 := Hid.mk hO3
  clear hO3
  go_wp2_with fail
  refine bodyPost_ret (v := .tuple #[.agg #[.slice d0 m.fInodes.length e0, .slice d1 m.fNames.length e1, .slice d2 m.fSafe.length e2, .int .i64 m.fNext], .int .i64 cp]) (by simp [results, Tryz.results85, go_sem, *]) rfl ⟨[.slice d0 m.fInodes.length e0, .slice d1 m.fNames.length e1, .slice d2 m.fSafe.length e2, .int .i64 m.fNext], G0 ++ G1 ++ G2 ++ [], by first | rfl | rw [HCP.out], ?_, HN.out, ?_, ?_⟩
  ·exact oDisk_good.frame HO3.out (fun b hb => (show Turn [w.heap.size + 1] w2 _ from by repeat (first | with_reducible exact Turn.refl _ _ | with_reducible refine Turn.setCell ?_ (by simp) _ | with_reducible refine Turn.alloc ?_ _ | with_reducible refine Turn.drew ?_)).block b (oDisk_good.lt HO3.out b hb) (by intro h; simp at h; have := hG3 b hb; omega))
  ·intro b hb
   have := hG3 b hb
   omega
  ·exact HBf.out.trans ((show Turn [w.heap.size + 1] w2 _ from by repeat (first | with_reducible exact Turn.refl _ _ | with_reducible refine Turn.setCell ?_ (by simp) _ | with_reducible refine Turn.alloc ?_ _ | with_reducible refine Turn.drew ?_)).below (fun k hk => by simp at hk; omega) HBf.out.size)
set_option maxHeartbeats 2000000 in
theorem formOk2_any (cs : List Value) (m : MDisk) (a : Option Addr) (c : Nat) (s t : ByteArray) (w : World) (hr : rDisk w.heap.size w cs m) (hw : wDisk m ≤ 1048576) (hs : s.size ≤ 9223372036854775807) (ht : t.size ≤ 9223372036854775807) (ha : ∃ b, a = some ⟨b, 0, none⟩ ∧ b < w.heap.size ∧ w.cell? ⟨b, 0, none⟩ = some (.string s) ∧ w.cell? ⟨b, 1, none⟩ = some (.string t)) :
  Calls Tryz.prog 98 #[.agg cs.toArray, .slice a 2 c] w fun e w' => e = .returned (.bool (diskOk m && nameOk s && nameOk t)) ∧ Below w.heap.size w w' := by
 have hq := hr
 obtain ⟨a0, c0, a1, c1, a2, c2, rfl, _⟩ := hq
 obtain ⟨b, rfl, hbl, hcs, hct⟩ := ha
 have HW := Hid.mk hw
 have HR := Hid.mk hr
 clear hr hw
 have hCd := fun W (hb : Below w.heap.size w W) => implDiskOk_c _ m W (rDisk_good.mono (rDisk_good.below HR.out hb) hb.size) HW.out
 have hbA := (Below.refl w.heap.size w).alloc (Nat.le_refl _) (.cells #[.slice a0 m.fInodes.length c0, .slice a1 m.fNames.length c1, .slice a2 m.fSafe.length c2, .int .i64 m.fNext] 34)
 go_enter Tryz.func98, Tryz.ntmps98
 go_wp2_with fail
 refine wp_loop_rounds 3 ?_
 rw [rounds_succ]
 go_wp2_with fail
 refine (implNameOk_any s _ hs).mono ?_
 rintro e w1 ⟨rfl, hx1⟩
 have hb1 := bthen hbA hx1
 have hbx := (Bx.new w [.slice a0 m.fInodes.length c0, .slice a1 m.fNames.length c1, .slice a2 m.fSafe.length c2, .int .i64 m.fNext] 34).under hx1
 have hct1 := (hb1.cell (p := ⟨b, 1, none⟩) hbl).trans hct
 by_cases hN : nameOk s = true
 ·rw [hN]
  go_wp2_with fail
  rw [rounds_succ]
  go_wp2_with fail
  refine (implNameOk_any t _ ht).mono ?_
  rintro e w2 ⟨rfl, hx2⟩
  have hb2 := bthen hb1 hx2
  have hbx2 := hbx.under hx2
  have y0 := hbx2.2 0 _ rfl
  have y1 := hbx2.2 1 _ rfl
  have y2 := hbx2.2 2 _ rfl
  have y3 := hbx2.2 3 _ rfl
  by_cases hM : nameOk t = true
  ·rw [hM]
   go_wp2_with fail
   rw [rounds_succ]
   go_wp2_with fail
   refine Calls.mono (hCd _ hb2) ?_
   rintro e w3 ⟨rfl, hx3⟩
   go_wp2_with fail
   go_ret
   exact ⟨by rw [hN, hM, Bool.and_true, Bool.and_true]; rfl, bthen hb2 hx3⟩
  ·have hM2 : nameOk t = false := Bool.eq_false_iff.2 hM
   rw [hM2]
   go_wp2_with fail
   go_ret
   exact ⟨by rw [hM2, Bool.and_false]; rfl, hb2⟩
 ·have hN2 : nameOk s = false := Bool.eq_false_iff.2 hN
  rw [hN2]
  go_wp2_with fail
  go_ret
  exact ⟨by rw [hN2, Bool.and_false, Bool.false_and]; rfl, hb1⟩
set_option maxHeartbeats 4000000 in
theorem implRename_c (cs : List Value) (m : MDisk) (s t : ByteArray) (w : World) (hr : rDisk w.heap.size w cs m) (hs : s.size ≤ 9223372036854775807) (ht : t.size ≤ 9223372036854775807) (hw : wDisk m ≤ 1048576) (hw1 : s.size ≤ 1048576) (hwt1 : t.size ≤ 1048576) :
  Calls Tryz.prog 87 #[.agg cs.toArray, .string s, .string t] w fun e w' => ∃ (cs' : List Value) (F : List Nat), e = .returned (.tuple #[.agg cs'.toArray, .int .i64 (renameC m s t)]) ∧ oDisk w' cs' (renameP m s t) F ∧ F.Nodup ∧ (∀ b, b ∈ F → w.heap.size ≤ b) ∧ Below w.heap.size w w' := by
 have hq := hr
 obtain ⟨a0, c0, a1, c1, a2, c2, rfl, hI, hNm, hSf, hnx, _⟩ := hq
 have hw2 : m.fInodes.length + sumW wInode m.fInodes + (m.fNames.length + sumW wEntry m.fNames) + (m.fSafe.length + sumW wEntry m.fSafe) ≤ 1048576 := hw
 have HW := Hid.mk hw
 have HR := Hid.mk hr
 have HNM := Hid.mk hNm
 clear hr hI hNm hSf hw
 go_enter Tryz.func87, Tryz.ntmps87
 go_wp2_with fail
 obtain ⟨wq, hwq⟩ : ∃ wq, wq = ((w.alloc (.cells #[.slice a0 m.fInodes.length c0, .slice a1 m.fNames.length c1, .slice a2 m.fSafe.length c2, .int .i64 m.fNext] 34)).alloc (.cells #[.slice none 0 0, .slice none 0 0, .slice none 0 0, .int .i64 0] 34)) := ⟨_, rfl⟩
 have hbW : Below w.heap.size w wq := by rw [hwq]; exact Below.alloc (Below.alloc (Below.refl _ _) (by exact Nat.le_refl _) _) (by simp; try omega) _
 have hbd : Bw wq (w.heap.size) 34 [.slice a0 m.fInodes.length c0, .slice a1 m.fNames.length c1, .slice a2 m.fSafe.length c2, .int .i64 m.fNext] := by rw [hwq]; exact Bw.alloc (Bw.new' _ _ _ (by simp)) _
 have hbr : Bw wq (w.heap.size + 1) 34 [.slice none 0 0, .slice none 0 0, .slice none 0 0, .int .i64 0] := by rw [hwq]; exact Bw.new' _ _ _ (by simp)
 have HQS : Hid (wq.heap.size = w.heap.size + 1 + 1) := by show _ = _; rw [hwq]; simp
 rw [← hwq]
 clear hwq
 have hbL : Below wq.heap.size wq (wq.alloc (.cells #[.string s, .string t] 9)) := (Below.refl _ _).alloc (Nat.le_refl _) _
 have hbB := bthen hbW hbL
 have hfa : ∃ b, (some ⟨w.heap.size + 1 + 1, 0, none⟩ : Option Addr) = some ⟨b, 0, none⟩ ∧ b < (wq.alloc (.cells #[.string s, .string t] 9)).heap.size ∧ (wq.alloc (.cells #[.string s, .string t] 9)).cell? ⟨b, 0, none⟩ = some (.string s) ∧ (wq.alloc (.cells #[.string s, .string t] 9)).cell? ⟨b, 1, none⟩ = some (.string t) := by
  rw [← HQS.out]
  exact ⟨wq.heap.size, rfl, by simp, by simp, by simp⟩
 refine (formOk2_any _ m (some ⟨w.heap.size + 1 + 1, 0, none⟩) 2 s t _ (rDisk_good.mono (rDisk_good.below HR.out hbB) hbB.size) HW.out hs ht hfa).mono ?_
 clear hfa
 rintro e w1 ⟨rfl, hx1'⟩
 have hx1 := bthen hbL hx1'
 have hb1 := bthen hbW hx1
 have hbd1 := hbd.under hx1
 have hbr1 := hbr.under hx1
 have hl1 := hbd1.lt
 have hl1r := hbr1.lt
 obtain ⟨y0, y1, y2, y3⟩ := hbd1.c4
 clear hbd hbr hbL hbB hx1'
 by_cases hF : (diskOk m && nameOk s && nameOk t) = true
 ·have hF2 := hF
  rw [Bool.and_eq_true, Bool.and_eq_true] at hF2
  obtain ⟨⟨hK, hNs⟩, hNt⟩ := hF2
  have hDR := diskOk_iff.1 hK
  have hRi : Rise m.fNames := hDR.names.rise
  have HNO := Hid.mk (fun i j hi hj he => names_once hRi (i := i) (j := j) hi hj he)
  have HRI0 := Hid.mk hRi
  have HDR := Hid.mk hDR
  have HNT := Hid.mk hNt
  have HCA : Hid (renameC m s t = if hasName m.fNames s = true then 0 else 2) := by
   show _ = _
   unfold renameC callP
   rw [if_pos hNt, hK, hNs]
   rfl
  rw [hF]
  clear hF hK hNs hNt hDR hRi
  go_wp2_with fail
  refine (nameMap_any a1 m.fNames.length c1 m.fNames w1 rfl (LeafL.mono rEntry_good (HNM.out.below rEntry_good hb1) hb1.size) (by omega)).mono ?_
  rintro e w2 ⟨Dm, rfl, hown, hNM, hx2⟩
  have HNM2 := Hid.mk hNM
  clear hNM
  have hb2 := bthen hb1 hx2
  have hbd2 := hbd1.under hx2
  have hbr2 := hbr1.under hx2
  have hl2 := hbd2.lt
  have hl2r := hbr2.lt
  have hz2 := hx2.size
  have hzb1 := hb1.size
  clear y0 y1 y2 y3 hbd1 hbr1
  obtain ⟨y0, y1, y2, y3⟩ := hbd2.c4
  by_cases hH : hasName m.fNames s = true
  ·have HC0 : Hid (renameC m s t = 0) := by show _ = _; rw [HCA.out, if_pos hH]
   have HV : Hid (renameP m s t = keepD { m with fNames := renameN m s t }) := by show _ = _; unfold renameP renameD; rw [if_pos HC0.out]
   obtain ⟨hk, hnm⟩ := hasName_at hH
   have hid : idOf m.fNames s = m.fNames[nameAt m.fNames s].fId := by unfold idOf; rw [List.getElem?_eq_getElem hk]; rfl
   have hhs : Maps.has Dm (kS s) = true := (HNM2.out.2 s).1.2 ⟨_, hk, hk, hnm⟩
   have HC : Hid (Dm.atKey (kS s) (.lit (.int .i64 0)) = .lit (.int .i64 (idOf m.fNames s))) := by
    obtain ⟨j, hj, _, he, ha⟩ := (HNM2.out.2 s).2 hhs
    have : j = nameAt m.fNames s := HNO.out j _ hj hk (he.trans hnm.symm)
    subst this
    show Dm.atKey _ _ = _
    rw [ha, hid]
   have h3 := renameN_ok HDR.out hH HNT.out
   have HRI : Hid (Rise (renameN m s t)) := h3.1.rise
   have HLN : Hid ((renameN m s t).length ≤ 1000) := by show _ ≤ _; have := h3.2; omega
   have hwt := ok_weight (diskOk_iff.2 HDR.out)
   have h7 := sumW_names (fun e he => (h3.1.1 e he).2)
   have h8 := h3.2
   have HWN : Hid (wDisk { m with fNames := renameN m s t } ≤ 1048576) := by
    show _ ≤ _
    rw [wDisk_eq]
    simp only
    omega
   have HM : Hid (MapIs ((Dm.del (kS s)).put (kS t) (.lit (.int .i64 (idOf m.fNames s)))) (renameN m s t)) := ((MapIs.ofN rfl HNM2.out HRI0.out).del s).put ⟨t, idOf m.fNames s⟩
   have hkey := keyStr hs
   have hkeyt := keyStr ht
   have hnl : m.fNames.length ≤ 30 := hwt.2.2.1
   clear hid hk hnm hH h3 h7 h8 hwt
   go_wp2_with first
    | (at_lookup; refine wpList_lookup_own_ok_int _ rfl _ _ 120 rfl 9 3 .i64 lawStr Tryz.underlying120 Tryz.underlying3 (zeroInt _) w1.heap.size m.fNames.length Dm rfl hown _ _ rfl hkey ?_; intro c hat hwc; have hce : c = idOf m.fNames s := (by rw [HC.out] at hat; simp only [DataW.lit.injEq, Lit.int.injEq, true_and] at hat; exact hat.symm); subst hce; clear hat)
    | (at_delete; refine wpList_delete_own _ rfl _ _ 120 9 rfl 3 lawStr Tryz.underlying120 _ w1.heap.size m.fNames.length Dm rfl hown _ _ rfl hkey ?_; intro w3 hown3 hturn3; have hT3 : Turn [w1.heap.size] w2 w3 := Turn.ofGrown hturn3.grown (fun k hk => by cases hk; simp))
    | (at_mapUpdate; refine wpList_mapUpdate_own _ rfl _ _ _ 120 rfl 9 3 lawStr Tryz.underlying120 _ w1.heap.size m.fNames.length _ rfl hown3 (by unfold maxLen; omega) _ _ _ rfl rfl hkeyt _ [] (plainElem_int Tryz.underlying3 hwc) ?_; intro w4 hown4 hgrow4; have hT4 : Turn [w1.heap.size] w2 w4 := hT3.trans (Turn.ofGrown hgrow4 (fun k hk => by cases hk; simp)); have hbd3 := hbd2.turn hT4 (by simp; omega); have hbr3 := hbr2.turn hT4 (by simp; omega); have yy0 := hbd3.cell 0 _ rfl; have yy1 := hbd3.cell 1 _ rfl; have yy2 := hbd3.cell 2 _ rfl; have yy3 := hbd3.cell 3 _ rfl)
   have hb3 : Below w.heap.size w w4 := hb2.trans (hT4.below (fun k hk => by simp at hk; omega) hb2.size)
   clear y0 y1 y2 y3 hown hown3 hturn3 hgrow4
   obtain ⟨kd, hkd⟩ : ∃ kd, kd = keepD { m with fNames := renameN m s t } := ⟨_, rfl⟩
   have HKD := Hid.mk hkd
   clear hkd
   have hcall := withNames_any _ m w1.heap.size _ _ (renameN m s t) w4 (rDisk_good.mono (rDisk_good.below HR.out hb3) hb3.size) hown4 HM.out HRI.out HLN.out HWN.out
   rw [← HKD.out] at hcall
   clear hown4
   refine hcall.mono ?_
   rintro e w5 ⟨cs3, F3, rfl, ho3, hN3, hge3, hx5⟩
   have hb5 := bthen hb3 hx5
   have hbr5 := hbr3.under hx5
   have hl5 := hbr5.lt
   have hz5 := hb3.size
   have hlq5 := hbr3.lt
   obtain ⟨q0, p0, q1, p1, q2, p2, G0, G1, G2, rfl, _, _, _, _, rfl⟩ := oDisk_cells ho3
   have hkey : ∀ W', Turn [w.heap.size + 1] w5 W' → oDisk W' [.slice q0 (kd).fInodes.length p0, .slice q1 (kd).fNames.length p1, .slice q2 (kd).fSafe.length p2, .int .i64 (kd).fNext] (kd) (G0 ++ G1 ++ G2 ++ []) ∧ Below w.heap.size w W' := fun W' hT =>
    ⟨oDisk_good.frame ho3 (fun b hb => hT.block b (oDisk_good.lt ho3 b hb) (fun h => by simp at h; have := hge3 b hb; omega)), hb5.trans (hT.below (fun k hk => by simp at hk; omega) hb5.size)⟩
   have HKEY := Hid.mk hkey
   have HNQ := Hid.mk hN3
   have HGQ : Hid (∀ b, b ∈ G0 ++ G1 ++ G2 ++ [] → w.heap.size ≤ b) := fun b hb => by have := hge3 b hb; omega
   clear hkey ho3 hN3 hge3 
   obtain ⟨ze0, ze1, ze2, ze3⟩ := hbr5.c4
   obtain ⟨zf0, zf1, zf2, zf3⟩ := hbr5.f4
   go_wp2_with fail
   obtain ⟨h1, h3⟩ := HKEY.out _ (show Turn [w.heap.size + 1] w5 ((((w5.setCell ⟨w.heap.size + 1, 0, none⟩ (.slice q0 (kd).fInodes.length p0)).setCell ⟨w.heap.size + 1, 1, none⟩ (.slice q1 (kd).fNames.length p1)).setCell ⟨w.heap.size + 1, 2, none⟩ (.slice q2 (kd).fSafe.length p2)).setCell ⟨w.heap.size + 1, 3, none⟩ (.int .i64 (kd).fNext)) from turn4 _ _ _ _ _ _)
   exact bodyPost_ret (v := .tuple #[.agg #[.slice q0 (kd).fInodes.length p0, .slice q1 (kd).fNames.length p1, .slice q2 (kd).fSafe.length p2, .int .i64 (kd).fNext], .int .i64 0]) (by simp [results, Tryz.results87, go_sem, *]) rfl ⟨[.slice q0 (kd).fInodes.length p0, .slice q1 (kd).fNames.length p1, .slice q2 (kd).fSafe.length p2, .int .i64 (kd).fNext], _, by rw [HC0.out], by rw [HV.out, ← HKD.out]; exact h1, HNQ.out, HGQ.out, h3⟩
  ·have HC2 : Hid (renameC m s t = 2) := by show _ = _; rw [HCA.out, if_neg hH]
   have HV : Hid (renameP m s t = m) := by show _ = _; unfold renameP; rw [HC2.out]; rfl
   have hhs : Maps.has Dm (kS s) = false := by
    rw [Bool.eq_false_iff]
    intro h
    obtain ⟨j, hj, _, he⟩ := (HNM2.out.2 s).1.1 h
    exact hH (hasName_yes hj he)
   have hkey := keyStr hs
   clear hH
   go_wp2_with (at_lookup; refine wpList_lookup_own_ok_int _ rfl _ _ 120 rfl 9 3 .i64 lawStr Tryz.underlying120 Tryz.underlying3 (zeroInt _) w1.heap.size m.fNames.length Dm rfl hown _ _ rfl hkey ?_; intro c hat hwc)
   refine (copyDisk_any _ (m) w2 (rDisk_good.mono (rDisk_good.below HR.out hb2) hb2.size) HW.out).mono ?_
   rintro e w3 ⟨cs3, F3, rfl, ho3, hN3, hge3, hx3⟩
   have hb3 := bthen hb2 hx3
   have hbr3 := hbr2.under hx3
   have hl3 := hbr3.lt
   have hz3 := hb2.size
   have hlq3 := hbr2.lt
   obtain ⟨q0, p0, q1, p1, q2, p2, G0, G1, G2, rfl, _, _, _, _, rfl⟩ := oDisk_cells ho3
   have hkey : ∀ W', Turn [w.heap.size + 1] w3 W' → oDisk W' [.slice q0 m.fInodes.length p0, .slice q1 m.fNames.length p1, .slice q2 m.fSafe.length p2, .int .i64 m.fNext] (m) (G0 ++ G1 ++ G2 ++ []) ∧ Below w.heap.size w W' := fun W' hT =>
    ⟨oDisk_good.frame ho3 (fun b hb => hT.block b (oDisk_good.lt ho3 b hb) (fun h => by simp at h; have := hge3 b hb; omega)), hb3.trans (hT.below (fun k hk => by simp at hk; omega) hb3.size)⟩
   have HKEY := Hid.mk hkey
   have HNQ := Hid.mk hN3
   have HGQ : Hid (∀ b, b ∈ G0 ++ G1 ++ G2 ++ [] → w.heap.size ≤ b) := fun b hb => by have := hge3 b hb; omega
   clear hkey ho3 hN3 hge3 
   obtain ⟨ze0, ze1, ze2, ze3⟩ := hbr3.c4
   obtain ⟨zf0, zf1, zf2, zf3⟩ := hbr3.f4
   go_wp2_with fail
   obtain ⟨h1, h3⟩ := HKEY.out _ (show Turn [w.heap.size + 1] w3 ((((w3.setCell ⟨w.heap.size + 1, 0, none⟩ (.slice q0 m.fInodes.length p0)).setCell ⟨w.heap.size + 1, 1, none⟩ (.slice q1 m.fNames.length p1)).setCell ⟨w.heap.size + 1, 2, none⟩ (.slice q2 m.fSafe.length p2)).setCell ⟨w.heap.size + 1, 3, none⟩ (.int .i64 m.fNext)) from turn4 _ _ _ _ _ _)
   exact bodyPost_ret (v := .tuple #[.agg #[.slice q0 m.fInodes.length p0, .slice q1 m.fNames.length p1, .slice q2 m.fSafe.length p2, .int .i64 m.fNext], .int .i64 2]) (by simp [results, Tryz.results87, go_sem, *]) rfl ⟨[.slice q0 m.fInodes.length p0, .slice q1 m.fNames.length p1, .slice q2 m.fSafe.length p2, .int .i64 m.fNext], _, by rw [HC2.out], by rw [HV.out]; exact h1, HNQ.out, HGQ.out, h3⟩
 ·have hF2 : (diskOk m && nameOk s && nameOk t) = false := Bool.eq_false_iff.2 hF
  have HC1 : Hid (renameC m s t = 1) := by
   show _ = _
   unfold renameC callP
   by_cases h1 : nameOk t = true
   ·rw [h1, Bool.and_true] at hF2
    rw [if_pos h1, hF2]
    rfl
   ·rw [if_neg h1]
  have HV : Hid (renameP m s t = m) := by show _ = _; unfold renameP; rw [HC1.out]; rfl
  rw [hF2]
  clear hF hF2
  go_wp2_with fail
  refine (copyDisk_any _ (m) w1 (rDisk_good.mono (rDisk_good.below HR.out hb1) hb1.size) HW.out).mono ?_
  rintro e w2 ⟨cs3, F3, rfl, ho3, hN3, hge3, hx2⟩
  have hb2 := bthen hb1 hx2
  have hbr2 := hbr1.under hx2
  have hl2 := hbr2.lt
  have hz2 := hb1.size
  have hlq2 := hbr1.lt
  obtain ⟨q0, p0, q1, p1, q2, p2, G0, G1, G2, rfl, _, _, _, _, rfl⟩ := oDisk_cells ho3
  have hkey : ∀ W', Turn [w.heap.size + 1] w2 W' → oDisk W' [.slice q0 m.fInodes.length p0, .slice q1 m.fNames.length p1, .slice q2 m.fSafe.length p2, .int .i64 m.fNext] (m) (G0 ++ G1 ++ G2 ++ []) ∧ Below w.heap.size w W' := fun W' hT =>
   ⟨oDisk_good.frame ho3 (fun b hb => hT.block b (oDisk_good.lt ho3 b hb) (fun h => by simp at h; have := hge3 b hb; omega)), hb2.trans (hT.below (fun k hk => by simp at hk; omega) hb2.size)⟩
  have HKEY := Hid.mk hkey
  have HNQ := Hid.mk hN3
  have HGQ : Hid (∀ b, b ∈ G0 ++ G1 ++ G2 ++ [] → w.heap.size ≤ b) := fun b hb => by have := hge3 b hb; omega
  clear hkey ho3 hN3 hge3 
  obtain ⟨ze0, ze1, ze2, ze3⟩ := hbr2.c4
  obtain ⟨zf0, zf1, zf2, zf3⟩ := hbr2.f4
  go_wp2_with fail
  obtain ⟨h1, h3⟩ := HKEY.out _ (show Turn [w.heap.size + 1] w2 ((((w2.setCell ⟨w.heap.size + 1, 0, none⟩ (.slice q0 m.fInodes.length p0)).setCell ⟨w.heap.size + 1, 1, none⟩ (.slice q1 m.fNames.length p1)).setCell ⟨w.heap.size + 1, 2, none⟩ (.slice q2 m.fSafe.length p2)).setCell ⟨w.heap.size + 1, 3, none⟩ (.int .i64 m.fNext)) from turn4 _ _ _ _ _ _)
  exact bodyPost_ret (v := .tuple #[.agg #[.slice q0 m.fInodes.length p0, .slice q1 m.fNames.length p1, .slice q2 m.fSafe.length p2, .int .i64 m.fNext], .int .i64 1]) (by simp [results, Tryz.results87, go_sem, *]) rfl ⟨[.slice q0 m.fInodes.length p0, .slice q1 m.fNames.length p1, .slice q2 m.fSafe.length p2, .int .i64 m.fNext], _, by rw [HC1.out], by rw [HV.out]; exact h1, HNQ.out, HGQ.out, h3⟩
end Go.Proofs.YtddejboifpepcaaGreatDoor

namespace Go.Proofs.YtddejboifpepcaaGreatDoor
open Go.RowKit
theorem ok_small {m : MDisk} (h : diskOk m = true) : wDisk m ≤ 1048576 := by
 have := ok_weight h
 rw [wDisk_eq]
 omega
theorem small_remove {m : MDisk} {s : ByteArray} (h : wDisk m ≤ 1048576) : wDisk (removeP m s) ≤ 1048576 := by
 unfold removeP
 split
 ·rename_i hc
  exact ok_small (remove_ok (call_good hc).1)
 ·exact h
theorem small_create {m : MDisk} {s : ByteArray} (h : wDisk m ≤ 1048576) : wDisk (createP m s) ≤ 1048576 := by
 unfold createP
 split
 ·rename_i hc
  exact ok_small hc.2
 ·exact h
theorem small_append {m : MDisk} {s : ByteArray} {b : List Int} (h : wDisk m ≤ 1048576) : wDisk (appendP m s b) ≤ 1048576 := by
 unfold appendP
 split
 ·rename_i hc
  exact ok_small hc.2
 ·exact h
theorem small_sync {m : MDisk} {s : ByteArray} (h : wDisk m ≤ 1048576) : wDisk (syncP m s) ≤ 1048576 := by
 unfold syncP
 split
 ·have h1 := sumW_updI (l := m.fInodes) (k := fileAt m s) (f := sureI) (c := 0) (fun n => Nat.le_refl _)
  have h2 := updI_length (l := m.fInodes) (k := fileAt m s) (f := sureI)
  rw [wDisk_eq] at h ⊢
  simp only
  omega
 ·exact h
theorem small_rename {m : MDisk} {s t : ByteArray} (h : wDisk m ≤ 1048576) : wDisk (renameP m s t) ≤ 1048576 := by
 unfold renameP
 split
 ·rename_i hc
  unfold renameC at hc
  split at hc
  ·rename_i ht
   exact ok_small (rename_ok hc ht)
  ·cases hc
 ·exact h
theorem small_syncDir {m : MDisk} (h : wDisk m ≤ 1048576) : wDisk (syncDirP m) ≤ 1048576 := by
 unfold syncDirP
 split
 ·rename_i hc
  exact ok_small (syncDir_ok hc)
 ·exact h
def swD (m : MDisk) (t : ByteArray) (b : List Int) (s : ByteArray) : Nat → MDisk
 | 0 => m
 | 1 => createP m t
 | 2 => appendP (createP m t) t b
 | 3 => syncP (appendP (createP m t) t b) t
 | 4 => renameP (syncP (appendP (createP m t) t b) t) t s
 | _ => syncDirP (renameP (syncP (appendP (createP m t) t b) t) t s)
def swC (m : MDisk) (t : ByteArray) (b : List Int) (s : ByteArray) : Nat → Int
 | 0 => createC m t
 | 1 => appendC (createP m t) t b
 | 2 => callP (appendP (createP m t) t b) t
 | 3 => renameC (syncP (appendP (createP m t) t b) t) t s
 | _ => syncDirC (renameP (syncP (appendP (createP m t) t b) t) t s)
theorem swD_small {m : MDisk} {t : ByteArray} {b : List Int} {s : ByteArray} (h : wDisk m ≤ 1048576) (k : Nat) : wDisk (swD m t b s k) ≤ 1048576 := by
 match k with
 | 0 => exact h
 | 1 => exact small_create h
 | 2 => exact small_append (small_create h)
 | 3 => exact small_sync (small_append (small_create h))
 | 4 => exact small_rename (small_sync (small_append (small_create h)))
 | _ + 5 => exact small_syncDir (small_rename (small_sync (small_append (small_create h))))
def swR (m : MDisk) (t : ByteArray) (b : List Int) (s : ByteArray) : Nat → Nat → MDisk × Int
 | 0, k => (swD m t b s k, 0)
 | f + 1, k => if swC m t b s k = 0 then swR m t b s f (k + 1) else (swD m t b s (k + 1), swC m t b s k)
def switchP (m : MDisk) (t : ByteArray) (b : List Int) (s : ByteArray) : MDisk × Int := swR (removeP m t) t b s 5 0
theorem swR_small {m : MDisk} {t : ByteArray} {b : List Int} {s : ByteArray} (h : wDisk m ≤ 1048576) : ∀ f k, wDisk (swR m t b s f k).1 ≤ 1048576
 | 0, k => swD_small h k
 | f + 1, k => by
  rw [swR]
  split
  ·exact swR_small h f (k + 1)
  ·exact swD_small h (k + 1)
theorem switch_small {m : MDisk} {t : ByteArray} {b : List Int} {s : ByteArray} (h : wDisk m ≤ 1048576) : wDisk (switchP m t b s).1 ≤ 1048576 := swR_small (small_remove h) 5 0
def SwAt (m : MDisk) (t : ByteArray) (b : List Int) (s : ByteArray) (k : Nat) : Prop := switchP m t b s = swR (removeP m t) t b s (5 - k) k
theorem SwAt.start (m : MDisk) (t : ByteArray) (b : List Int) (s : ByteArray) : SwAt m t b s 0 := rfl
theorem SwAt.on {m : MDisk} {t : ByteArray} {b : List Int} {s : ByteArray} {k : Nat} (h : SwAt m t b s k) (hk : k < 5) (hc : swC (removeP m t) t b s k = 0) : SwAt m t b s (k + 1) := by
 unfold SwAt at h ⊢
 obtain ⟨f, hf⟩ : ∃ f, 5 - k = f + 1 := ⟨4 - k, by omega⟩
 rw [h, hf, swR, if_pos hc]
 congr 1
 omega
theorem SwAt.out {m : MDisk} {t : ByteArray} {b : List Int} {s : ByteArray} {k : Nat} (h : SwAt m t b s k) (hk : k < 5) (hc : swC (removeP m t) t b s k ≠ 0) : switchP m t b s = (swD (removeP m t) t b s (k + 1), swC (removeP m t) t b s k) := by
 unfold SwAt at h
 obtain ⟨f, hf⟩ : ∃ f, 5 - k = f + 1 := ⟨4 - k, by omega⟩
 rw [h, hf, swR, if_neg hc]
theorem SwAt.done {m : MDisk} {t : ByteArray} {b : List Int} {s : ByteArray} (h : SwAt m t b s 5) : switchP m t b s = (swD (removeP m t) t b s 5, 0) := h
theorem remove_none {m : MDisk} {t : ByteArray} (h : hasName m.fNames t = false) : removeP m t = m := by
 unfold removeP
 rw [if_neg]
 intro hc
 rw [(call_good hc).2.2] at h
 cases h
set_option maxHeartbeats 2000000 in
theorem sw1_any (cs : List Value) (m : MDisk) (t : ByteArray)  (bT : Nat) (w : World) (hr : rDisk w.heap.size w cs m) (hw : wDisk m ≤ 1048576) (ht : t.size ≤ 1048576) (hbT : Bx w bT [.string t]) :
  Calls Tryz.prog 81 #[.agg cs.toArray, .pointer (some ⟨bT, 0, none⟩)] w fun e w' => ∃ (cs' : List Value) (F : List Nat), e = .returned (.tuple #[.agg cs'.toArray, .int .i64 (createC m t)]) ∧ oDisk w' cs' (createP m t) F ∧ F.Nodup ∧ (∀ b, b ∈ F → w.heap.size ≤ b) ∧ Below w.heap.size w w' := by
 have hq := hr
 obtain ⟨a0, c0, a1, c1, a2, c2, rfl, hI, hNm, hSf, hnx, _⟩ := hq
 have HW := Hid.mk hw
 have HR := Hid.mk hr
 clear hr hI hNm hSf hw
 obtain ⟨wq, hwq⟩ : ∃ wq, wq = ((w.alloc (.cells #[.slice a0 m.fInodes.length c0, .slice a1 m.fNames.length c1, .slice a2 m.fSafe.length c2, .int .i64 m.fNext] 34)).alloc (.cells #[.slice none 0 0, .slice none 0 0, .slice none 0 0, .int .i64 0] 34)) := ⟨_, rfl⟩
 have hbW : Below w.heap.size w wq := by rw [hwq]; exact Below.alloc (Below.alloc (Below.refl _ _) (by exact Nat.le_refl _) _) (by simp; try omega) _
 have hbr : Bw wq (w.heap.size + 1) 34 [.slice none 0 0, .slice none 0 0, .slice none 0 0, .int .i64 0] := by rw [hwq]; exact Bw.new' _ _ _ (by simp)
 have k0 : (((w.alloc (.cells #[.slice a0 m.fInodes.length c0, .slice a1 m.fNames.length c1, .slice a2 m.fSafe.length c2, .int .i64 m.fNext] 34)).alloc (.cells #[.slice none 0 0, .slice none 0 0, .slice none 0 0, .int .i64 0] 34))).cell? ⟨bT, 0, none⟩ = some (.string t) := by have h := (hbT.under hbW).2 0 _ rfl; rw [hwq] at h; exact h
 have n0 := hbT.1
 go_enter Tryz.func81, Tryz.ntmps81
 go_wp2_with fail
 rw [← hwq]
 clear hwq k0
 refine (implCreate_c _ m t wq (rDisk_good.mono (rDisk_good.below HR.out hbW) hbW.size) (by omega) HW.out ht).mono ?_
 obtain ⟨D2, hD2⟩ : ∃ D2, D2 = createP m t := ⟨_, rfl⟩
 obtain ⟨C2, hC2⟩ : ∃ C2, C2 = createC m t := ⟨_, rfl⟩
 rw [← hD2, ← hC2]
 have HD2 := Hid.mk hD2
 have HC2 := Hid.mk hC2
 clear hD2 hC2
 rintro e w2 ⟨cs4, F4, rfl, ho4, hN4, hge4, hy2⟩
 obtain ⟨q0, p0', q1, p1', q2, p2', E0, E1, E2, rfl, _, _, _, _, rfl⟩ := oDisk_cells ho4
 have hbr2 := hbr.under hy2
 have hl2 := hbr2.lt
 obtain ⟨e0, f0, e1, f1, e2, f2, e3, f3⟩ := hbr2.c8
 have hzW := hbr.lt
 have hgE : ∀ b, b ∈ E0 ++ E1 ++ E2 ++ [] → w.heap.size + 2 ≤ b := fun b hb => by have := hge4 b hb; omega
 have hT := turn4 w2 (w.heap.size + 1) (.slice q0 D2.fInodes.length p0') (.slice q1 D2.fNames.length p1') (.slice q2 D2.fSafe.length p2') (.int .i64 D2.fNext)
 have HB : Hid (Below w.heap.size w ((((w2.setCell ⟨w.heap.size + 1, 0, none⟩ (.slice q0 D2.fInodes.length p0')).setCell ⟨w.heap.size + 1, 1, none⟩ (.slice q1 D2.fNames.length p1')).setCell ⟨w.heap.size + 1, 2, none⟩ (.slice q2 D2.fSafe.length p2')).setCell ⟨w.heap.size + 1, 3, none⟩ (.int .i64 D2.fNext))) := (bthen hbW hy2).trans (hT.below (fun k hk => by simp at hk; omega) (bthen hbW hy2).size)
 have HO : Hid (oDisk ((((w2.setCell ⟨w.heap.size + 1, 0, none⟩ (.slice q0 D2.fInodes.length p0')).setCell ⟨w.heap.size + 1, 1, none⟩ (.slice q1 D2.fNames.length p1')).setCell ⟨w.heap.size + 1, 2, none⟩ (.slice q2 D2.fSafe.length p2')).setCell ⟨w.heap.size + 1, 3, none⟩ (.int .i64 D2.fNext)) [.slice q0 D2.fInodes.length p0', .slice q1 D2.fNames.length p1', .slice q2 D2.fSafe.length p2', .int .i64 D2.fNext] D2 (E0 ++ E1 ++ E2 ++ [])) := oDisk_good.frame ho4 (fun b hb => hT.block b (oDisk_good.lt ho4 b hb) (by intro h; simp at h; have := hgE b hb; omega))
 have HG := Hid.mk hgE
 have HN := Hid.mk hN4
 clear hgE ho4 hge4 hT hN4 hy2 hbr hbr2
 go_wp2_with fail
 exact bodyPost_ret (v := .tuple #[.agg #[.slice q0 D2.fInodes.length p0', .slice q1 D2.fNames.length p1', .slice q2 D2.fSafe.length p2', .int .i64 D2.fNext], .int .i64 C2]) (by simp [results, Tryz.results81, go_sem, *]) rfl ⟨[.slice q0 D2.fInodes.length p0', .slice q1 D2.fNames.length p1', .slice q2 D2.fSafe.length p2', .int .i64 D2.fNext], _, by rw [← HC2.out], by rw [← HD2.out]; exact HO.out, HN.out, (fun b hb => by have := HG.out b hb; omega), HB.out⟩
set_option maxHeartbeats 2000000 in
theorem sw2_any (cs : List Value) (m : MDisk) (t : ByteArray) (vb : Value) (zb : List Int) (hvb0 : zb.length ≤ 1048576) (bT : Nat) (bB : Nat) (w : World) (hr : rDisk w.heap.size w cs m) (hw : wDisk m ≤ 1048576) (ht : t.size ≤ 1048576) (hvb : rdB w.heap.size w vb zb) (hbT : Bx w bT [.string t]) (hbB : Bx w bB [vb]) :
  Calls Tryz.prog 82 #[.agg cs.toArray, .pointer (some ⟨bT, 0, none⟩), .pointer (some ⟨bB, 0, none⟩)] w fun e w' => ∃ (cs' : List Value) (F : List Nat), e = .returned (.tuple #[.agg cs'.toArray, .int .i64 (appendC m t zb)]) ∧ oDisk w' cs' (appendP m t zb) F ∧ F.Nodup ∧ (∀ b, b ∈ F → w.heap.size ≤ b) ∧ Below w.heap.size w w' := by
 have hq := hr
 obtain ⟨a0, c0, a1, c1, a2, c2, rfl, hI, hNm, hSf, hnx, _⟩ := hq
 have HW := Hid.mk hw
 have HR := Hid.mk hr
 clear hr hI hNm hSf hw
 obtain ⟨wq, hwq⟩ : ∃ wq, wq = ((w.alloc (.cells #[.slice a0 m.fInodes.length c0, .slice a1 m.fNames.length c1, .slice a2 m.fSafe.length c2, .int .i64 m.fNext] 34)).alloc (.cells #[.slice none 0 0, .slice none 0 0, .slice none 0 0, .int .i64 0] 34)) := ⟨_, rfl⟩
 have hbW : Below w.heap.size w wq := by rw [hwq]; exact Below.alloc (Below.alloc (Below.refl _ _) (by exact Nat.le_refl _) _) (by simp; try omega) _
 have hbr : Bw wq (w.heap.size + 1) 34 [.slice none 0 0, .slice none 0 0, .slice none 0 0, .int .i64 0] := by rw [hwq]; exact Bw.new' _ _ _ (by simp)
 have k0 : (((w.alloc (.cells #[.slice a0 m.fInodes.length c0, .slice a1 m.fNames.length c1, .slice a2 m.fSafe.length c2, .int .i64 m.fNext] 34)).alloc (.cells #[.slice none 0 0, .slice none 0 0, .slice none 0 0, .int .i64 0] 34))).cell? ⟨bT, 0, none⟩ = some (.string t) := by have h := (hbT.under hbW).2 0 _ rfl; rw [hwq] at h; exact h
 have n0 := hbT.1
 have k1 : (((w.alloc (.cells #[.slice a0 m.fInodes.length c0, .slice a1 m.fNames.length c1, .slice a2 m.fSafe.length c2, .int .i64 m.fNext] 34)).alloc (.cells #[.slice none 0 0, .slice none 0 0, .slice none 0 0, .int .i64 0] 34))).cell? ⟨bB, 0, none⟩ = some (vb) := by have h := (hbB.under hbW).2 0 _ rfl; rw [hwq] at h; exact h
 have n1 := hbB.1
 go_enter Tryz.func82, Tryz.ntmps82
 go_wp2_with fail
 rw [← hwq]
 clear hwq k0 k1
 refine (implAppend_b _ m t vb zb wq (rDisk_good.mono (rDisk_good.below HR.out hbW) hbW.size) (by omega) ((hvb.below hbW).mono hbW.size) HW.out ht (by omega)).mono ?_
 obtain ⟨D2, hD2⟩ : ∃ D2, D2 = appendP m t zb := ⟨_, rfl⟩
 obtain ⟨C2, hC2⟩ : ∃ C2, C2 = appendC m t zb := ⟨_, rfl⟩
 rw [← hD2, ← hC2]
 have HD2 := Hid.mk hD2
 have HC2 := Hid.mk hC2
 clear hD2 hC2
 rintro e w2 ⟨cs4, F4, rfl, ho4, hN4, hge4, hy2⟩
 obtain ⟨q0, p0', q1, p1', q2, p2', E0, E1, E2, rfl, _, _, _, _, rfl⟩ := oDisk_cells ho4
 have hbr2 := hbr.under hy2
 have hl2 := hbr2.lt
 obtain ⟨e0, f0, e1, f1, e2, f2, e3, f3⟩ := hbr2.c8
 have hzW := hbr.lt
 have hgE : ∀ b, b ∈ E0 ++ E1 ++ E2 ++ [] → w.heap.size + 2 ≤ b := fun b hb => by have := hge4 b hb; omega
 have hT := turn4 w2 (w.heap.size + 1) (.slice q0 D2.fInodes.length p0') (.slice q1 D2.fNames.length p1') (.slice q2 D2.fSafe.length p2') (.int .i64 D2.fNext)
 have HB : Hid (Below w.heap.size w ((((w2.setCell ⟨w.heap.size + 1, 0, none⟩ (.slice q0 D2.fInodes.length p0')).setCell ⟨w.heap.size + 1, 1, none⟩ (.slice q1 D2.fNames.length p1')).setCell ⟨w.heap.size + 1, 2, none⟩ (.slice q2 D2.fSafe.length p2')).setCell ⟨w.heap.size + 1, 3, none⟩ (.int .i64 D2.fNext))) := (bthen hbW hy2).trans (hT.below (fun k hk => by simp at hk; omega) (bthen hbW hy2).size)
 have HO : Hid (oDisk ((((w2.setCell ⟨w.heap.size + 1, 0, none⟩ (.slice q0 D2.fInodes.length p0')).setCell ⟨w.heap.size + 1, 1, none⟩ (.slice q1 D2.fNames.length p1')).setCell ⟨w.heap.size + 1, 2, none⟩ (.slice q2 D2.fSafe.length p2')).setCell ⟨w.heap.size + 1, 3, none⟩ (.int .i64 D2.fNext)) [.slice q0 D2.fInodes.length p0', .slice q1 D2.fNames.length p1', .slice q2 D2.fSafe.length p2', .int .i64 D2.fNext] D2 (E0 ++ E1 ++ E2 ++ [])) := oDisk_good.frame ho4 (fun b hb => hT.block b (oDisk_good.lt ho4 b hb) (by intro h; simp at h; have := hgE b hb; omega))
 have HG := Hid.mk hgE
 have HN := Hid.mk hN4
 clear hgE ho4 hge4 hT hN4 hy2 hbr hbr2
 go_wp2_with fail
 exact bodyPost_ret (v := .tuple #[.agg #[.slice q0 D2.fInodes.length p0', .slice q1 D2.fNames.length p1', .slice q2 D2.fSafe.length p2', .int .i64 D2.fNext], .int .i64 C2]) (by simp [results, Tryz.results82, go_sem, *]) rfl ⟨[.slice q0 D2.fInodes.length p0', .slice q1 D2.fNames.length p1', .slice q2 D2.fSafe.length p2', .int .i64 D2.fNext], _, by rw [← HC2.out], by rw [← HD2.out]; exact HO.out, HN.out, (fun b hb => by have := HG.out b hb; omega), HB.out⟩
set_option maxHeartbeats 2000000 in
theorem sw3_any (cs : List Value) (m : MDisk) (t : ByteArray)  (bT : Nat) (w : World) (hr : rDisk w.heap.size w cs m) (hw : wDisk m ≤ 1048576) (ht : t.size ≤ 1048576) (hbT : Bx w bT [.string t]) :
  Calls Tryz.prog 84 #[.agg cs.toArray, .pointer (some ⟨bT, 0, none⟩)] w fun e w' => ∃ (cs' : List Value) (F : List Nat), e = .returned (.tuple #[.agg cs'.toArray, .int .i64 (callP m t)]) ∧ oDisk w' cs' (syncP m t) F ∧ F.Nodup ∧ (∀ b, b ∈ F → w.heap.size ≤ b) ∧ Below w.heap.size w w' := by
 have hq := hr
 obtain ⟨a0, c0, a1, c1, a2, c2, rfl, hI, hNm, hSf, hnx, _⟩ := hq
 have HW := Hid.mk hw
 have HR := Hid.mk hr
 clear hr hI hNm hSf hw
 obtain ⟨wq, hwq⟩ : ∃ wq, wq = ((w.alloc (.cells #[.slice a0 m.fInodes.length c0, .slice a1 m.fNames.length c1, .slice a2 m.fSafe.length c2, .int .i64 m.fNext] 34)).alloc (.cells #[.slice none 0 0, .slice none 0 0, .slice none 0 0, .int .i64 0] 34)) := ⟨_, rfl⟩
 have hbW : Below w.heap.size w wq := by rw [hwq]; exact Below.alloc (Below.alloc (Below.refl _ _) (by exact Nat.le_refl _) _) (by simp; try omega) _
 have hbr : Bw wq (w.heap.size + 1) 34 [.slice none 0 0, .slice none 0 0, .slice none 0 0, .int .i64 0] := by rw [hwq]; exact Bw.new' _ _ _ (by simp)
 have k0 : (((w.alloc (.cells #[.slice a0 m.fInodes.length c0, .slice a1 m.fNames.length c1, .slice a2 m.fSafe.length c2, .int .i64 m.fNext] 34)).alloc (.cells #[.slice none 0 0, .slice none 0 0, .slice none 0 0, .int .i64 0] 34))).cell? ⟨bT, 0, none⟩ = some (.string t) := by have h := (hbT.under hbW).2 0 _ rfl; rw [hwq] at h; exact h
 have n0 := hbT.1
 go_enter Tryz.func84, Tryz.ntmps84
 go_wp2_with fail
 rw [← hwq]
 clear hwq k0
 refine (implSync_c _ m t wq (rDisk_good.mono (rDisk_good.below HR.out hbW) hbW.size) (by omega) HW.out ht).mono ?_
 obtain ⟨D2, hD2⟩ : ∃ D2, D2 = syncP m t := ⟨_, rfl⟩
 obtain ⟨C2, hC2⟩ : ∃ C2, C2 = callP m t := ⟨_, rfl⟩
 rw [← hD2, ← hC2]
 have HD2 := Hid.mk hD2
 have HC2 := Hid.mk hC2
 clear hD2 hC2
 rintro e w2 ⟨cs4, F4, rfl, ho4, hN4, hge4, hy2⟩
 obtain ⟨q0, p0', q1, p1', q2, p2', E0, E1, E2, rfl, _, _, _, _, rfl⟩ := oDisk_cells ho4
 have hbr2 := hbr.under hy2
 have hl2 := hbr2.lt
 obtain ⟨e0, f0, e1, f1, e2, f2, e3, f3⟩ := hbr2.c8
 have hzW := hbr.lt
 have hgE : ∀ b, b ∈ E0 ++ E1 ++ E2 ++ [] → w.heap.size + 2 ≤ b := fun b hb => by have := hge4 b hb; omega
 have hT := turn4 w2 (w.heap.size + 1) (.slice q0 D2.fInodes.length p0') (.slice q1 D2.fNames.length p1') (.slice q2 D2.fSafe.length p2') (.int .i64 D2.fNext)
 have HB : Hid (Below w.heap.size w ((((w2.setCell ⟨w.heap.size + 1, 0, none⟩ (.slice q0 D2.fInodes.length p0')).setCell ⟨w.heap.size + 1, 1, none⟩ (.slice q1 D2.fNames.length p1')).setCell ⟨w.heap.size + 1, 2, none⟩ (.slice q2 D2.fSafe.length p2')).setCell ⟨w.heap.size + 1, 3, none⟩ (.int .i64 D2.fNext))) := (bthen hbW hy2).trans (hT.below (fun k hk => by simp at hk; omega) (bthen hbW hy2).size)
 have HO : Hid (oDisk ((((w2.setCell ⟨w.heap.size + 1, 0, none⟩ (.slice q0 D2.fInodes.length p0')).setCell ⟨w.heap.size + 1, 1, none⟩ (.slice q1 D2.fNames.length p1')).setCell ⟨w.heap.size + 1, 2, none⟩ (.slice q2 D2.fSafe.length p2')).setCell ⟨w.heap.size + 1, 3, none⟩ (.int .i64 D2.fNext)) [.slice q0 D2.fInodes.length p0', .slice q1 D2.fNames.length p1', .slice q2 D2.fSafe.length p2', .int .i64 D2.fNext] D2 (E0 ++ E1 ++ E2 ++ [])) := oDisk_good.frame ho4 (fun b hb => hT.block b (oDisk_good.lt ho4 b hb) (by intro h; simp at h; have := hgE b hb; omega))
 have HG := Hid.mk hgE
 have HN := Hid.mk hN4
 clear hgE ho4 hge4 hT hN4 hy2 hbr hbr2
 go_wp2_with fail
 exact bodyPost_ret (v := .tuple #[.agg #[.slice q0 D2.fInodes.length p0', .slice q1 D2.fNames.length p1', .slice q2 D2.fSafe.length p2', .int .i64 D2.fNext], .int .i64 C2]) (by simp [results, Tryz.results84, go_sem, *]) rfl ⟨[.slice q0 D2.fInodes.length p0', .slice q1 D2.fNames.length p1', .slice q2 D2.fSafe.length p2', .int .i64 D2.fNext], _, by rw [← HC2.out], by rw [← HD2.out]; exact HO.out, HN.out, (fun b hb => by have := HG.out b hb; omega), HB.out⟩
set_option maxHeartbeats 2000000 in
theorem sw4_any (cs : List Value) (m : MDisk) (t : ByteArray) (s : ByteArray) (hs : s.size ≤ 1048576) (bT : Nat) (bN : Nat) (w : World) (hr : rDisk w.heap.size w cs m) (hw : wDisk m ≤ 1048576) (ht : t.size ≤ 1048576) (hbT : Bx w bT [.string t]) (hbN : Bx w bN [.string s]) :
  Calls Tryz.prog 86 #[.agg cs.toArray, .pointer (some ⟨bT, 0, none⟩), .pointer (some ⟨bN, 0, none⟩)] w fun e w' => ∃ (cs' : List Value) (F : List Nat), e = .returned (.tuple #[.agg cs'.toArray, .int .i64 (renameC m t s)]) ∧ oDisk w' cs' (renameP m t s) F ∧ F.Nodup ∧ (∀ b, b ∈ F → w.heap.size ≤ b) ∧ Below w.heap.size w w' := by
 have hq := hr
 obtain ⟨a0, c0, a1, c1, a2, c2, rfl, hI, hNm, hSf, hnx, _⟩ := hq
 have HW := Hid.mk hw
 have HR := Hid.mk hr
 clear hr hI hNm hSf hw
 obtain ⟨wq, hwq⟩ : ∃ wq, wq = ((w.alloc (.cells #[.slice a0 m.fInodes.length c0, .slice a1 m.fNames.length c1, .slice a2 m.fSafe.length c2, .int .i64 m.fNext] 34)).alloc (.cells #[.slice none 0 0, .slice none 0 0, .slice none 0 0, .int .i64 0] 34)) := ⟨_, rfl⟩
 have hbW : Below w.heap.size w wq := by rw [hwq]; exact Below.alloc (Below.alloc (Below.refl _ _) (by exact Nat.le_refl _) _) (by simp; try omega) _
 have hbr : Bw wq (w.heap.size + 1) 34 [.slice none 0 0, .slice none 0 0, .slice none 0 0, .int .i64 0] := by rw [hwq]; exact Bw.new' _ _ _ (by simp)
 have k0 : (((w.alloc (.cells #[.slice a0 m.fInodes.length c0, .slice a1 m.fNames.length c1, .slice a2 m.fSafe.length c2, .int .i64 m.fNext] 34)).alloc (.cells #[.slice none 0 0, .slice none 0 0, .slice none 0 0, .int .i64 0] 34))).cell? ⟨bT, 0, none⟩ = some (.string t) := by have h := (hbT.under hbW).2 0 _ rfl; rw [hwq] at h; exact h
 have n0 := hbT.1
 have k1 : (((w.alloc (.cells #[.slice a0 m.fInodes.length c0, .slice a1 m.fNames.length c1, .slice a2 m.fSafe.length c2, .int .i64 m.fNext] 34)).alloc (.cells #[.slice none 0 0, .slice none 0 0, .slice none 0 0, .int .i64 0] 34))).cell? ⟨bN, 0, none⟩ = some (.string s) := by have h := (hbN.under hbW).2 0 _ rfl; rw [hwq] at h; exact h
 have n1 := hbN.1
 go_enter Tryz.func86, Tryz.ntmps86
 go_wp2_with fail
 rw [← hwq]
 clear hwq k0 k1
 refine (implRename_c _ m t s wq (rDisk_good.mono (rDisk_good.below HR.out hbW) hbW.size) (by omega) (by omega) HW.out ht hs).mono ?_
 obtain ⟨D2, hD2⟩ : ∃ D2, D2 = renameP m t s := ⟨_, rfl⟩
 obtain ⟨C2, hC2⟩ : ∃ C2, C2 = renameC m t s := ⟨_, rfl⟩
 rw [← hD2, ← hC2]
 have HD2 := Hid.mk hD2
 have HC2 := Hid.mk hC2
 clear hD2 hC2
 rintro e w2 ⟨cs4, F4, rfl, ho4, hN4, hge4, hy2⟩
 obtain ⟨q0, p0', q1, p1', q2, p2', E0, E1, E2, rfl, _, _, _, _, rfl⟩ := oDisk_cells ho4
 have hbr2 := hbr.under hy2
 have hl2 := hbr2.lt
 obtain ⟨e0, f0, e1, f1, e2, f2, e3, f3⟩ := hbr2.c8
 have hzW := hbr.lt
 have hgE : ∀ b, b ∈ E0 ++ E1 ++ E2 ++ [] → w.heap.size + 2 ≤ b := fun b hb => by have := hge4 b hb; omega
 have hT := turn4 w2 (w.heap.size + 1) (.slice q0 D2.fInodes.length p0') (.slice q1 D2.fNames.length p1') (.slice q2 D2.fSafe.length p2') (.int .i64 D2.fNext)
 have HB : Hid (Below w.heap.size w ((((w2.setCell ⟨w.heap.size + 1, 0, none⟩ (.slice q0 D2.fInodes.length p0')).setCell ⟨w.heap.size + 1, 1, none⟩ (.slice q1 D2.fNames.length p1')).setCell ⟨w.heap.size + 1, 2, none⟩ (.slice q2 D2.fSafe.length p2')).setCell ⟨w.heap.size + 1, 3, none⟩ (.int .i64 D2.fNext))) := (bthen hbW hy2).trans (hT.below (fun k hk => by simp at hk; omega) (bthen hbW hy2).size)
 have HO : Hid (oDisk ((((w2.setCell ⟨w.heap.size + 1, 0, none⟩ (.slice q0 D2.fInodes.length p0')).setCell ⟨w.heap.size + 1, 1, none⟩ (.slice q1 D2.fNames.length p1')).setCell ⟨w.heap.size + 1, 2, none⟩ (.slice q2 D2.fSafe.length p2')).setCell ⟨w.heap.size + 1, 3, none⟩ (.int .i64 D2.fNext)) [.slice q0 D2.fInodes.length p0', .slice q1 D2.fNames.length p1', .slice q2 D2.fSafe.length p2', .int .i64 D2.fNext] D2 (E0 ++ E1 ++ E2 ++ [])) := oDisk_good.frame ho4 (fun b hb => hT.block b (oDisk_good.lt ho4 b hb) (by intro h; simp at h; have := hgE b hb; omega))
 have HG := Hid.mk hgE
 have HN := Hid.mk hN4
 clear hgE ho4 hge4 hT hN4 hy2 hbr hbr2
 go_wp2_with fail
 exact bodyPost_ret (v := .tuple #[.agg #[.slice q0 D2.fInodes.length p0', .slice q1 D2.fNames.length p1', .slice q2 D2.fSafe.length p2', .int .i64 D2.fNext], .int .i64 C2]) (by simp [results, Tryz.results86, go_sem, *]) rfl ⟨[.slice q0 D2.fInodes.length p0', .slice q1 D2.fNames.length p1', .slice q2 D2.fSafe.length p2', .int .i64 D2.fNext], _, by rw [← HC2.out], by rw [← HD2.out]; exact HO.out, HN.out, (fun b hb => by have := HG.out b hb; omega), HB.out⟩
end Go.Proofs.YtddejboifpepcaaGreatDoor
