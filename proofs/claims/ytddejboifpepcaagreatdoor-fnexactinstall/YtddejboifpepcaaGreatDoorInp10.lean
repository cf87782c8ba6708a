/-
  Part 11 of the texts that the proof leans on.
-/
import Derived.Test.YtddejboifpepcaaGreatDoorInp5
import Derived.Test.YtddejboifpepcaaGreatDoorInp7
import Derived.Test.YtddejboifpepcaaGreatDoorInp9
import Derived.Test.YtddejboifpepcaaGreatDoorInp4
import Derived.Test.YtddejboifpepcaaGreatDoorInp1
set_option linter.unusedVariables false
set_option linter.unusedSimpArgs false
set_option maxRecDepth 10000

namespace Go.Proofs.YtddejboifpepcaaGreatDoor
open Go.RowKit Go.Maps
theorem rKeepR {B base : Nat} {W : World} {ak b1 b2 : Option Addr} {ck d1 d2 : Nat} {n : MDisk} (h : RowR 3 94 rInode B W base (.slice ak (keepI n).length ck) (keepI n)) (hB : B ≤ W.heap.size) (hN : LeafL 2 rEntry B W b1 d1 n.fNames) (hS : LeafL 2 rEntry B W b2 d2 n.fSafe) (hx : (Lit.int .i64 n.fNext).wf = true) :
  rDisk W.heap.size W [.slice ak (keepI n).length ck, .slice b1 n.fNames.length d1, .slice b2 n.fSafe.length d2, .int .i64 n.fNext] (keepD n) := by
 obtain ⟨a', c', he, h1⟩ := h.leaf rInode_good hB
 simp only [Value.slice.injEq, true_and] at he
 obtain ⟨rfl, rfl⟩ := he
 exact ⟨ak, ck, b1, d1, b2, d2, rfl, h1, LeafL.mono rEntry_good hN hB, LeafL.mono rEntry_good hS hB, hx, trivial⟩
set_option maxHeartbeats 4000000 in
theorem implSyncDir_c (cs : List Value) (m : MDisk) (w : World) (hr : rDisk w.heap.size w cs m) (hw : wDisk m ≤ 1048576) :
  Calls Tryz.prog 88 #[.agg cs.toArray] w fun e w' => ∃ (cs' : List Value) (F : List Nat), e = .returned (.tuple #[.agg cs'.toArray, .int .i64 (syncDirC m)]) ∧ oDisk w' cs' (syncDirP m) F ∧ F.Nodup ∧ (∀ b, b ∈ F → w.heap.size ≤ b) ∧ Below w.heap.size w w' := by
 have hq := hr
 obtain ⟨a0, c0, a1, c1, a2, c2, rfl, hI, hNm, hSf, hnx, _⟩ := hq
 have hw2 : m.fInodes.length + sumW wInode m.fInodes + (m.fNames.length + sumW wEntry m.fNames) + (m.fSafe.length + sumW wEntry m.fSafe) ≤ 1048576 := hw
 have HW := Hid.mk hw
 have HR := Hid.mk hr
 have HI := Hid.mk hI
 have HNM := Hid.mk hNm
 clear hr hI hNm hSf hw
 go_enter Tryz.func88, Tryz.ntmps88
 go_wp2_with fail
 obtain ⟨wq, hwq⟩ : ∃ wq, wq = ((w.alloc (.cells #[.slice a0 m.fInodes.length c0, .slice a1 m.fNames.length c1, .slice a2 m.fSafe.length c2, .int .i64 m.fNext] 34)).alloc (.cells #[.slice none 0 0, .slice none 0 0, .slice none 0 0, .int .i64 0] 34)) := ⟨_, rfl⟩
 have hbW : Below w.heap.size w wq := by rw [hwq]; exact Below.alloc (Below.alloc (Below.refl _ _) (by exact Nat.le_refl _) _) (by simp; try omega) _
 have hbd : Bw wq (w.heap.size) 34 [.slice a0 m.fInodes.length c0, .slice a1 m.fNames.length c1, .slice a2 m.fSafe.length c2, .int .i64 m.fNext] := by rw [hwq]; exact Bw.alloc (Bw.new' _ _ _ (by simp)) _
 have hbr : Bw wq (w.heap.size + 1) 34 [.slice none 0 0, .slice none 0 0, .slice none 0 0, .int .i64 0] := by rw [hwq]; exact Bw.new' _ _ _ (by simp)
 rw [← hwq]
 clear hwq
 refine (implDiskOk_c _ m wq (rDisk_good.mono (rDisk_good.below HR.out hbW) hbW.size) HW.out).mono ?_
 rintro e w1 ⟨rfl, hx1⟩
 have hb1 := bthen hbW hx1
 have hbd1 := hbd.under hx1
 have hbr1 := hbr.under hx1
 have hl1 := hbd1.lt
 have hl1r := hbr1.lt
 obtain ⟨y0, y1, y2, y3⟩ := hbd1.c4
 clear hbd hbr
 by_cases hK : diskOk m = true
 ·have HV : Hid (syncDirP m = keepD { m with fSafe := m.fNames } ∧ syncDirC m = 0) := by refine ⟨?_, ?_⟩ <;> simp [syncDirP, syncDirC, hK]
  have hwt := ok_weight hK
  have hwk : wDisk { m with fSafe := m.fNames } ≤ 1048576 := by rw [wDisk_eq]; simp only; omega
  have HWK1 : Hid (wDisk { m with fSafe := m.fNames } ≤ 16777216) := by show _ ≤ _; omega
  have HWK : Hid (wDisk (keepD { m with fSafe := m.fNames }) ≤ 1048576) := Nat.le_trans (keepD_weight _) hwk
  rw [hK]
  clear hK hwt hwk
  have f2 := hbd1.free 2
  go_wp2_with fail
  obtain ⟨ws, hws⟩ : ∃ ws, ws = w1.setCell ⟨w.heap.size, 2, none⟩ (.slice a1 m.fNames.length c1) := ⟨_, rfl⟩
  have hTs : Turn [w.heap.size] w1 ws := by rw [hws]; exact Turn.setCell (Turn.refl _ _) (by simp) _
  have hbds : Bw ws w.heap.size 34 [.slice a0 m.fInodes.length c0, .slice a1 m.fNames.length c1, .slice a1 m.fNames.length c1, .int .i64 m.fNext] := by rw [hws]; exact hbd1.put 2 _
  rw [← hws]
  clear hws y0 y1 y2 y3 f2
  have hbrs := hbr1.turn hTs (by simp)
  have hBs : Below w.heap.size w ws := hb1.trans (hTs.below (fun k hk => by simp at hk; omega) hb1.size)
  refine (namedInodes_rowB a0 a1 a1 c0 c1 c1 { m with fSafe := m.fNames } ws w.heap.size hBs.size (HI.out.below rInode_good hBs) (LeafL.mono rEntry_good (HNM.out.below rEntry_good hBs) hBs.size) (LeafL.mono rEntry_good (HNM.out.below rEntry_good hBs) hBs.size) HWK1.out).mono ?_
  rintro e w2 ⟨ak, ck, rfl, hrow, _, hx2⟩
  have HROW := Hid.mk hrow
  have hb2 := bthen hBs hx2
  have hbd2 := hbds.under hx2
  have hbr2 := hbrs.under hx2
  have hl2 := hbd2.lt
  have hl2s := hbds.lt
  have hl2r := hbrs.lt
  obtain ⟨y0, y1, y2, y3⟩ := hbd2.c4
  have f0 := hbd2.free 0
  clear hrow
  go_wp2_with fail
  obtain ⟨wt, hwt⟩ : ∃ wt, wt = w2.setCell ⟨w.heap.size, 0, none⟩ (.slice ak (keepI { m with fSafe := m.fNames }).length ck) := ⟨_, rfl⟩
  have hTt : Turn [w.heap.size] w2 wt := by rw [hwt]; exact Turn.setCell (Turn.refl _ _) (by simp) _
  rw [← hwt]
  clear hwt y0 y1 y2 y3 f0
  have hbrt := hbr2.turn hTt (by simp)
  have hBt : Below w.heap.size w wt := hb2.trans (hTt.below (fun k hk => by simp at hk; omega) hb2.size)
  have hrk := rKeepR (RowR.turn rInode_good HROW.out hTt (fun k hk => by simp at hk; omega) hb2.size (Nat.le_refl _)) hBt.size (HNM.out.below rEntry_good hBt) (HNM.out.below rEntry_good hBt) hnx
  refine (copyDisk_any _ (keepD { m with fSafe := m.fNames }) wt hrk HWK.out).mono ?_
  rintro e w3 ⟨cs3, F3, rfl, ho3, hN3, hge3, hx3⟩
  have hb3 := bthen hBt hx3
  have hbr3 := hbrt.under hx3
  have hl3 := hbr3.lt
  have hz3 := hBt.size
  have hlq3 := hbrt.lt
  obtain ⟨q0, p0, q1, p1, q2, p2, G0, G1, G2, rfl, _, _, _, _, rfl⟩ := oDisk_cells ho3
  have hkey : ∀ W', Turn [w.heap.size + 1] w3 W' → oDisk W' [.slice q0 (keepD { m with fSafe := m.fNames }).fInodes.length p0, .slice q1 (keepD { m with fSafe := m.fNames }).fNames.length p1, .slice q2 (keepD { m with fSafe := m.fNames }).fSafe.length p2, .int .i64 (keepD { m with fSafe := m.fNames }).fNext] (keepD { m with fSafe := m.fNames }) (G0 ++ G1 ++ G2 ++ []) ∧ Below w.heap.size w W' := fun W' hT =>
   ⟨oDisk_good.frame ho3 (fun b hb => hT.block b (oDisk_good.lt ho3 b hb) (fun h => by simp at h; have := hge3 b hb; omega)), hb3.trans (hT.below (fun k hk => by simp at hk; omega) hb3.size)⟩
  have HKEY := Hid.mk hkey
  have HNQ := Hid.mk hN3
  have HGQ : Hid (∀ b, b ∈ G0 ++ G1 ++ G2 ++ [] → w.heap.size ≤ b) := fun b hb => by have := hge3 b hb; omega
  clear hkey ho3 hN3 hge3 
  obtain ⟨ze0, ze1, ze2, ze3⟩ := hbr3.c4
  obtain ⟨zf0, zf1, zf2, zf3⟩ := hbr3.f4
  go_wp2_with fail
  obtain ⟨h1, h3⟩ := HKEY.out _ (show Turn [w.heap.size + 1] w3 ((((w3.setCell ⟨w.heap.size + 1, 0, none⟩ (.slice q0 (keepD { m with fSafe := m.fNames }).fInodes.length p0)).setCell ⟨w.heap.size + 1, 1, none⟩ (.slice q1 (keepD { m with fSafe := m.fNames }).fNames.length p1)).setCell ⟨w.heap.size + 1, 2, none⟩ (.slice q2 (keepD { m with fSafe := m.fNames }).fSafe.length p2)).setCell ⟨w.heap.size + 1, 3, none⟩ (.int .i64 (keepD { m with fSafe := m.fNames }).fNext)) from turn4 _ _ _ _ _ _)
  exact bodyPost_ret (v := .tuple #[.agg #[.slice q0 (keepD { m with fSafe := m.fNames }).fInodes.length p0, .slice q1 (keepD { m with fSafe := m.fNames }).fNames.length p1, .slice q2 (keepD { m with fSafe := m.fNames }).fSafe.length p2, .int .i64 (keepD { m with fSafe := m.fNames }).fNext], .int .i64 0]) (by simp [results, Tryz.results88, go_sem, *]) rfl ⟨[.slice q0 (keepD { m with fSafe := m.fNames }).fInodes.length p0, .slice q1 (keepD { m with fSafe := m.fNames }).fNames.length p1, .slice q2 (keepD { m with fSafe := m.fNames }).fSafe.length p2, .int .i64 (keepD { m with fSafe := m.fNames }).fNext], _, by rw [HV.out.2], by rw [HV.out.1]; exact h1, HNQ.out, HGQ.out, h3⟩
 ·have hK2 : diskOk m = false := Bool.eq_false_iff.2 hK
  have HV : Hid (syncDirP m = m ∧ syncDirC m = 1) := by refine ⟨?_, ?_⟩ <;> simp [syncDirP, syncDirC, hK2]
  rw [hK2]
  clear hK hK2
  go_wp2_with fail
  refine (copyDisk_any _ (m) w1 (rDisk_good.mono (rDisk_good.below HR.out hb1) hb1.size) HW.out).mono ?_
  rintro e w3 ⟨cs3, F3, rfl, ho3, hN3, hge3, hx3⟩
  have hb3 := bthen hb1 hx3
  have hbr3 := hbr1.under hx3
  have hl3 := hbr3.lt
  have hz3 := hb1.size
  have hlq3 := hbr1.lt
  obtain ⟨q0, p0, q1, p1, q2, p2, G0, G1, G2, rfl, _, _, _, _, rfl⟩ := oDisk_cells ho3
  have hkey : ∀ W', Turn [w.heap.size + 1] w3 W' → oDisk W' [.slice q0 m.fInodes.length p0, .slice q1 m.fNames.length p1, .slice q2 m.fSafe.length p2, .int .i64 m.fNext] (m) (G0 ++ G1 ++ G2 ++ []) ∧ Below w.heap.size w W' := fun W' hT =>
   ⟨oDisk_good.frame ho3 (fun b hb => hT.block b (oDisk_good.lt ho3 b hb) (fun h => by simp at h; have := hge3 b hb; omega)), hb3.trans (hT.below (fun k hk => by simp at hk; omega) hb3.size)⟩
  have HKEY := Hid.mk hkey
  have HNQ := Hid.mk hN3
  have HGQ : Hid (∀ b, b ∈ G0 ++ G1 ++ G2 ++ [] → w.heap.size ≤ b) := fun b hb => by have := hge3 b hb; omega
  clear hkey ho3 hN3 hge3 y0 y1 y2 y3
  obtain ⟨ze0, ze1, ze2, ze3⟩ := hbr3.c4
  obtain ⟨zf0, zf1, zf2, zf3⟩ := hbr3.f4
  go_wp2_with fail
  obtain ⟨h1, h3⟩ := HKEY.out _ (show Turn [w.heap.size + 1] w3 ((((w3.setCell ⟨w.heap.size + 1, 0, none⟩ (.slice q0 m.fInodes.length p0)).setCell ⟨w.heap.size + 1, 1, none⟩ (.slice q1 m.fNames.length p1)).setCell ⟨w.heap.size + 1, 2, none⟩ (.slice q2 m.fSafe.length p2)).setCell ⟨w.heap.size + 1, 3, none⟩ (.int .i64 m.fNext)) from turn4 _ _ _ _ _ _)
  exact bodyPost_ret (v := .tuple #[.agg #[.slice q0 m.fInodes.length p0, .slice q1 m.fNames.length p1, .slice q2 m.fSafe.length p2, .int .i64 m.fNext], .int .i64 1]) (by simp [results, Tryz.results88, go_sem, *]) rfl ⟨[.slice q0 m.fInodes.length p0, .slice q1 m.fNames.length p1, .slice q2 m.fSafe.length p2, .int .i64 m.fNext], _, by rw [HV.out.2], by rw [HV.out.1]; exact h1, HNQ.out, HGQ.out, h3⟩
set_option maxHeartbeats 4000000 in
theorem withNames_any (cs : List Value) (m : MDisk) (b nn : Nat) (Dm : DataW Unit) (N : List MEntry) (w : World) (hr : rDisk w.heap.size w cs m) (hown : w.ownsMap Tryz.prog 9 (plainElem Tryz.prog 3) b nn Dm) (hM : MapIs Dm N) (hRi : Rise N) (hNl : N.length ≤ 1000) (hw : wDisk { m with fNames := N } ≤ 1048576) :
  Calls Tryz.prog 100 #[.agg cs.toArray, .map (some b)] w fun e w' => ∃ (cs' : List Value) (F : List Nat), e = .returned (.agg cs'.toArray) ∧ oDisk w' cs' (keepD { m with fNames := N }) F ∧ F.Nodup ∧ (∀ x, x ∈ F → w.heap.size ≤ x) ∧ Below w.heap.size w w' := by
 have hq := hr
 obtain ⟨a0, c0, a1, c1, a2, c2, rfl, hI, hNm, hSf, hnx, _⟩ := hq
 have HW := Hid.mk hw
 have HI := Hid.mk hI
 have HSF := Hid.mk hSf
 have HM := Hid.mk hM
 have HRi := Hid.mk hRi
 have HWK : Hid (wDisk (keepD { m with fNames := N }) ≤ 1048576) := Nat.le_trans (keepD_weight _) hw
 clear hr hI hNm hSf hw hM hRi
 go_enter Tryz.func100, Tryz.ntmps100
 go_wp2_with fail
 obtain ⟨wq, hwq⟩ : ∃ wq, wq = ((w.alloc (.cells #[.slice a0 m.fInodes.length c0, .slice a1 m.fNames.length c1, .slice a2 m.fSafe.length c2, .int .i64 m.fNext] 34)).alloc (.cells #[.slice none 0 0, .slice none 0 0, .slice none 0 0, .int .i64 0] 34)) := ⟨_, rfl⟩
 have hbW : Below w.heap.size w wq := by rw [hwq]; exact Below.alloc (Below.alloc (Below.refl _ _) (by exact Nat.le_refl _) _) (by simp; try omega) _
 have hbd : Bw wq (w.heap.size) 34 [.slice a0 m.fInodes.length c0, .slice a1 m.fNames.length c1, .slice a2 m.fSafe.length c2, .int .i64 m.fNext] := by rw [hwq]; exact Bw.alloc (Bw.new' _ _ _ (by simp)) _
 have hbr : Bw wq (w.heap.size + 1) 34 [.slice none 0 0, .slice none 0 0, .slice none 0 0, .int .i64 0] := by rw [hwq]; exact Bw.new' _ _ _ (by simp)
 rw [← hwq]
 clear hwq
 have hq0 := hbW.size
 have hlr := hbr.lt
 refine (entryList_any b nn Dm N wq (ownsMap_below hown hbW) HM.out HRi.out hNl).mono ?_
 rintro e w1 ⟨an, cn, FN, rfl, hoN, hgN, hx1⟩
 have hb1 := bthen hbW hx1
 have hbd1 := hbd.under hx1
 have hbr1 := hbr.under hx1
 have hl1 := hbd1.lt
 have hl1r := hbr1.lt
 have HON := Hid.mk hoN
 have HGN := Hid.mk hgN
 have f1 := hbd1.free 1
 obtain ⟨y0, y1, y2, y3⟩ := hbd1.c4
 clear hbd hbr hoN hgN hown
 go_wp2_with fail
 obtain ⟨ws, hws⟩ : ∃ ws, ws = w1.setCell ⟨w.heap.size, 1, none⟩ (.slice an N.length cn) := ⟨_, rfl⟩
 have hTs : Turn [w.heap.size] w1 ws := by rw [hws]; exact Turn.setCell (Turn.refl _ _) (by simp) _
 have hbds : Bw ws w.heap.size 34 [.slice a0 m.fInodes.length c0, .slice an N.length cn, .slice a2 m.fSafe.length c2, .int .i64 m.fNext] := by rw [hws]; exact hbd1.put 1 _
 rw [← hws]
 clear hws y0 y1 y2 y3 f1
 have hbrs := hbr1.turn hTs (by simp)
 have hBs : Below w.heap.size w ws := hb1.trans (hTs.below (fun k hk => by simp at hk; omega) hb1.size)
 have hoNs := ownS.frame (w' := ws) oEntry_good HON.out (fun x hx => hTs.block x (ownS.lt oEntry_good HON.out x hx) (by have := HGN.out x hx; simp; omega))
 have HONS := Hid.mk hoNs
 refine (namedInodes_rowB a0 an a2 c0 cn c2 { m with fNames := N } ws w.heap.size hBs.size (HI.out.below rInode_good hBs) (ownS.leaf oEntry_good hoNs) (LeafL.mono rEntry_good (HSF.out.below rEntry_good hBs) hBs.size) (by have := HW.out; omega)).mono ?_
 rintro e w2 ⟨ak, ck, rfl, hrow, _, hx2⟩
 have HROW := Hid.mk hrow
 have hb2 := bthen hBs hx2
 have hbd2 := hbds.under hx2
 have hbr2 := hbrs.under hx2
 have hl2 := hbd2.lt
 have hl2s := hbds.lt
 have hl2r := hbrs.lt
 obtain ⟨y0, y1, y2, y3⟩ := hbd2.c4
 have f0 := hbd2.free 0
 clear hrow hoNs
 go_wp2_with fail
 obtain ⟨wt, hwt⟩ : ∃ wt, wt = w2.setCell ⟨w.heap.size, 0, none⟩ (.slice ak (keepI { m with fNames := N }).length ck) := ⟨_, rfl⟩
 have hTt : Turn [w.heap.size] w2 wt := by rw [hwt]; exact Turn.setCell (Turn.refl _ _) (by simp) _
 rw [← hwt]
 clear hwt y0 y1 y2 y3 f0
 have hbrt := hbr2.turn hTt (by simp)
 have hBt : Below w.heap.size w wt := hb2.trans (hTt.below (fun k hk => by simp at hk; omega) hb2.size)
 have hoNt := ownS.frame (w' := wt) oEntry_good HONS.out (fun x hx => (hTt.block x (Nat.lt_of_lt_of_le (ownS.lt oEntry_good HONS.out x hx) hx2.size) (by have := HGN.out x hx; simp; omega)).trans (hx2.block x (ownS.lt oEntry_good HONS.out x hx)))
 have hrk : rDisk wt.heap.size wt [.slice ak (keepI { m with fNames := N }).length ck, .slice an N.length cn, .slice a2 m.fSafe.length c2, .int .i64 m.fNext] (keepD { m with fNames := N }) := by
  obtain ⟨a', c', he, h1⟩ := (RowR.turn rInode_good HROW.out hTt (fun k hk => by simp at hk; omega) hb2.size (Nat.le_refl _)).leaf rInode_good hBt.size
  simp only [Value.slice.injEq, true_and] at he
  obtain ⟨rfl, rfl⟩ := he
  exact ⟨ak, ck, an, cn, a2, c2, rfl, h1, ownS.leaf oEntry_good hoNt, LeafL.mono rEntry_good (HSF.out.below rEntry_good hBt) hBt.size, hnx, trivial⟩
 clear hoNt
 obtain ⟨kd, hkd⟩ : ∃ kd, kd = keepD { m with fNames := N } := ⟨_, rfl⟩
 rw [← hkd] at hrk HWK
 have HKD := Hid.mk hkd
 clear hkd
 refine (copyDisk_any _ (kd) wt hrk HWK.out).mono ?_
 rintro e w3 ⟨cs3, F3, rfl, ho3, hN3, hge3, hx3⟩
 have hb3 := bthen hBt hx3
 have hbr3 := hbrt.under hx3
 have hl3 := hbr3.lt
 have hz3 := hBt.size
 have hlq3 := hbrt.lt
 obtain ⟨q0, p0, q1, p1, q2, p2, G0, G1, G2, rfl, _, _, _, _, rfl⟩ := oDisk_cells ho3
 have hkey : ∀ W', Turn [w.heap.size + 1] w3 W' → oDisk W' [.slice q0 (kd).fInodes.length p0, .slice q1 (kd).fNames.length p1, .slice q2 (kd).fSafe.length p2, .int .i64 (kd).fNext] (kd) (G0 ++ G1 ++ G2 ++ []) ∧ Below w.heap.size w W' := fun W' hT =>
  ⟨oDisk_good.frame ho3 (fun b hb => hT.block b (oDisk_good.lt ho3 b hb) (fun h => by simp at h; have := hge3 b hb; omega)), hb3.trans (hT.below (fun k hk => by simp at hk; omega) hb3.size)⟩
 have HKEY := Hid.mk hkey
 have HNQ := Hid.mk hN3
 have HGQ : Hid (∀ b, b ∈ G0 ++ G1 ++ G2 ++ [] → w.heap.size ≤ b) := fun b hb => by have := hge3 b hb; omega
 clear hkey ho3 hN3 hge3 
 obtain ⟨ze0, ze1, ze2, ze3⟩ := hbr3.c4
 obtain ⟨zf0, zf1, zf2, zf3⟩ := hbr3.f4
 go_wp2_with fail
 obtain ⟨h1, h3⟩ := HKEY.out _ (show Turn [w.heap.size + 1] w3 ((((w3.setCell ⟨w.heap.size + 1, 0, none⟩ (.slice q0 (kd).fInodes.length p0)).setCell ⟨w.heap.size + 1, 1, none⟩ (.slice q1 (kd).fNames.length p1)).setCell ⟨w.heap.size + 1, 2, none⟩ (.slice q2 (kd).fSafe.length p2)).setCell ⟨w.heap.size + 1, 3, none⟩ (.int .i64 (kd).fNext)) from turn4 _ _ _ _ _ _)
 exact bodyPost_ret (v := .agg #[.slice q0 (kd).fInodes.length p0, .slice q1 (kd).fNames.length p1, .slice q2 (kd).fSafe.length p2, .int .i64 (kd).fNext]) (by simp [results, Tryz.results100, go_sem, *]) rfl ⟨[.slice q0 (kd).fInodes.length p0, .slice q1 (kd).fNames.length p1, .slice q2 (kd).fSafe.length p2, .int .i64 (kd).fNext], _, rfl, by rw [← HKD.out]; exact h1, HNQ.out, HGQ.out, h3⟩
theorem rise_withE {l : List MEntry} {e : MEntry} (h : Rise l) : Rise (withE l e) := by
 unfold Rise withE
 rw [List.pairwise_append, List.pairwise_cons]
 refine ⟨List.Pairwise.sublist List.filter_sublist h, ⟨fun y hy => (by simpa using (List.mem_filter.1 hy).2), List.Pairwise.sublist List.filter_sublist h⟩, ?_⟩
 intro x hx y hy
 have hx' : strLt x.fName e.fName = true := by simpa using (List.mem_filter.1 hx).2
 rcases List.mem_cons.1 hy with rfl | hy
 ·exact hx'
 ·exact strLt_trans hx' (by simpa using (List.mem_filter.1 hy).2)
theorem ownS_block {α : Type} {size : Nat} {e : TypeId} {O : ORep α} {w : World} {v : Value} {l : List α} {F : List Nat} (h : ownS size e O w v l F) : ∀ k, v.ownBlock = some k → k ∈ F := by
 intro k hk
 rcases h with ⟨rfl, _, _⟩ | ⟨g, cap, cur, Fs, rfl, h2, h3, h4, h5, h6, h7, rfl⟩
 ·simp [Value.ownBlock] at hk
 ·simp [Value.ownBlock] at hk
  simp [hk]
theorem newI_own {m : MDisk} (h : (Lit.int .i64 m.fNext).wf = true) (w : World) : oInode w [.int .i64 m.fNext, .slice none 0 0, .int .i64 0] (newI m) [] :=
 ⟨.slice none 0 0, [], rfl, h, ⟨⟨rfl, .inl ⟨rfl, rfl⟩⟩, (by intro z hz; cases hz), rfl⟩, rfl, rfl⟩
theorem create_weight {m : MDisk} {s : ByteArray} (h : diskOk m = true) (hs : s.size ≤ 12) : wDisk (createD m s) ≤ 1000000 ∧ (withE m.fNames ⟨s, m.fNext⟩).length ≤ 1000 ∧ wDisk { m with fNames := withE m.fNames ⟨s, m.fNext⟩ } ≤ 1000000 := by
 have h1 := ok_weight h
 have h2 := withE_length (l := m.fNames) (e := ⟨s, m.fNext⟩)
 have h3 := sumW_withE (l := m.fNames) (e := ⟨s, m.fNext⟩)
 have h4 : wEntry ⟨s, m.fNext⟩ = s.size := rfl
 have h5 : sumW wInode [newI m] = 0 := rfl
 refine ⟨?_, by omega, ?_⟩
 ·rw [wDisk_eq]
  unfold createD
  simp only [sumW_append, List.length_append, List.length_cons, List.length_nil]
  omega
 ·rw [wDisk_eq]
  simp only
  omega
set_option maxHeartbeats 4000000 in
theorem implCreate_c (cs : List Value) (m : MDisk) (s : ByteArray) (w : World) (hr : rDisk w.heap.size w cs m) (hs : s.size ≤ 9223372036854775807) (hw : wDisk m ≤ 1048576) (hw1 : s.size ≤ 1048576) :
  Calls Tryz.prog 49 #[.agg cs.toArray, .string s] w fun e w' => ∃ (cs' : List Value) (F : List Nat), e = .returned (.tuple #[.agg cs'.toArray, .int .i64 (createC m s)]) ∧ oDisk w' cs' (createP m s) F ∧ F.Nodup ∧ (∀ b, b ∈ F → w.heap.size ≤ b) ∧ Below w.heap.size w w' := by
 obtain ⟨iI, hiI, hzI0, hzI1, hzI2⟩ := info_parts Tryz.infoOfInode
 have hq := hr
 obtain ⟨a0, c0, a1, c1, a2, c2, rfl, hI, hNm, hSf, hnx, _⟩ := hq
 have hw2 : m.fInodes.length + sumW wInode m.fInodes + (m.fNames.length + sumW wEntry m.fNames) + (m.fSafe.length + sumW wEntry m.fSafe) ≤ 1048576 := hw
 have HW := Hid.mk hw
 have HR := Hid.mk hr
 have HNM := Hid.mk hNm
 clear hr hI hNm hSf hw
 go_enter Tryz.func49, Tryz.ntmps49
 go_wp2_with fail
 obtain ⟨wq, hwq⟩ : ∃ wq, wq = ((w.alloc (.cells #[.slice a0 m.fInodes.length c0, .slice a1 m.fNames.length c1, .slice a2 m.fSafe.length c2, .int .i64 m.fNext] 34)).alloc (.cells #[.slice none 0 0, .slice none 0 0, .slice none 0 0, .int .i64 0] 34)) := ⟨_, rfl⟩
 have hbW : Below w.heap.size w wq := by rw [hwq]; exact Below.alloc (Below.alloc (Below.refl _ _) (by exact Nat.le_refl _) _) (by simp; try omega) _
 have hbd : Bw wq (w.heap.size) 34 [.slice a0 m.fInodes.length c0, .slice a1 m.fNames.length c1, .slice a2 m.fSafe.length c2, .int .i64 m.fNext] := by rw [hwq]; exact Bw.alloc (Bw.new' _ _ _ (by simp)) _
 have hbr : Bw wq (w.heap.size + 1) 34 [.slice none 0 0, .slice none 0 0, .slice none 0 0, .int .i64 0] := by rw [hwq]; exact Bw.new' _ _ _ (by simp)
 have HQS : Hid (wq.heap.size = w.heap.size + 1 + 1) := by show _ = _; rw [hwq]; simp
 rw [← hwq]
 clear hwq
 have hbL : Below wq.heap.size wq (wq.alloc (.cells #[.string s] 9)) := (Below.refl _ _).alloc (Nat.le_refl _) _
 have hbB := bthen hbW hbL
 have hfa : ∃ b, (some ⟨w.heap.size + 1 + 1, 0, none⟩ : Option Addr) = some ⟨b, 0, none⟩ ∧ b < (wq.alloc (.cells #[.string s] 9)).heap.size ∧ (wq.alloc (.cells #[.string s] 9)).cell? ⟨b, 0, none⟩ = some (.string s) := by
  rw [← HQS.out]
  exact ⟨wq.heap.size, rfl, by simp, by simp⟩
 refine (formOk1_any _ m (some ⟨w.heap.size + 1 + 1, 0, none⟩) 1 s _ (rDisk_good.mono (rDisk_good.below HR.out hbB) hbB.size) HW.out hs hfa).mono ?_
 clear hfa
 rintro e w1 ⟨rfl, hx1'⟩
 have hx1 := bthen hbL hx1'
 have hb1 := bthen hbW hx1
 have hbd1 := hbd.under hx1
 have hbr1 := hbr.under hx1
 have hl1 := hbd1.lt
 have hl1r := hbr1.lt
 obtain ⟨y0, y1, y2, y3⟩ := hbd1.c4
 clear hbd hbr hbL hbB hx1'
 by_cases hF : (diskOk m && nameOk s) = true
 ·have hF2 := hF
  rw [Bool.and_eq_true] at hF2
  obtain ⟨hK, hNs⟩ := hF2
  have hDR := diskOk_iff.1 hK
  have hRi : Rise m.fNames := hDR.names.rise
  have HNO := Hid.mk (fun i j hi hj he => names_once hRi (i := i) (j := j) hi hj he)
  have HRI0 := Hid.mk hRi
  have HK := Hid.mk hK
  have HCA : Hid (callP m s = if hasName m.fNames s = true then 0 else 2) := by
   show _ = _
   unfold callP
   rw [hK, hNs]
   rfl
  have hs12 : s.size ≤ 12 := by
   unfold nameOk at hNs
   simp at hNs
   omega
  have HS12 := Hid.mk hs12
  rw [hF]
  clear hF hK hNs hRi hs12
  go_wp2_with fail
  refine (nameMap_any a1 m.fNames.length c1 m.fNames w1 rfl (LeafL.mono rEntry_good (HNM.out.below rEntry_good hb1) hb1.size) (by omega)).mono ?_
  rintro e w2 ⟨Dm, rfl, hown, hNM, hx2⟩
  have HNM2 := Hid.mk hNM
  clear hNM
  have hb2 := bthen hb1 hx2
  have hbd2 := hbd1.under hx2
  have hbr2 := hbr1.under hx2
  have hl2 := hbd2.lt
  have hl2r := hbr2.lt
  have hz2 := hx2.size
  have hzb1 := hb1.size
  clear y0 y1 y2 y3 hbd1 hbr1
  obtain ⟨y0, y1, y2, y3⟩ := hbd2.c4
  have hkey := keyStr hs
  by_cases hH : hasName m.fNames s = true
  ·have HC3 : Hid (createC m s = 3) := by show _ = _; unfold createC; rw [HCA.out, if_pos hH]; rfl
   have HV : Hid (createP m s = m) := by show _ = _; unfold createP; rw [HCA.out, if_pos hH]; simp
   obtain ⟨hk, hnm⟩ := hasName_at hH
   have hhs : Maps.has Dm (kS s) = true := (HNM2.out.2 s).1.2 ⟨_, hk, hk, hnm⟩
   clear hH hk hnm hDR
   go_wp2_with (at_lookup; refine wpList_lookup_own_ok_int _ rfl _ _ 120 rfl 9 3 .i64 lawStr Tryz.underlying120 Tryz.underlying3 (zeroInt _) w1.heap.size m.fNames.length Dm rfl hown _ _ rfl hkey ?_; intro c hat hwc)
   refine (copyDisk_any _ (m) w2 (rDisk_good.mono (rDisk_good.below HR.out hb2) hb2.size) HW.out).mono ?_
   rintro e w3 ⟨cs3, F3, rfl, ho3, hN3, hge3, hx3⟩
   have hb3 := bthen hb2 hx3
   have hbr3 := hbr2.under hx3
   have hl3 := hbr3.lt
   have hz3 := hb2.size
   have hlq3 := hbr2.lt
   obtain ⟨q0, p0, q1, p1, q2, p2, G0, G1, G2, rfl, _, _, _, _, rfl⟩ := oDisk_cells ho3
   have hkey : ∀ W', Turn [w.heap.size + 1] w3 W' → oDisk W' [.slice q0 m.fInodes.length p0, .slice q1 m.fNames.length p1, .slice q2 m.fSafe.length p2, .int .i64 m.fNext] (m) (G0 ++ G1 ++ G2 ++ []) ∧ Below w.heap.size w W' := fun W' hT =>
    ⟨oDisk_good.frame ho3 (fun b hb => hT.block b (oDisk_good.lt ho3 b hb) (fun h => by simp at h; have := hge3 b hb; omega)), hb3.trans (hT.below (fun k hk => by simp at hk; omega) hb3.size)⟩
   have HKEY := Hid.mk hkey
   have HNQ := Hid.mk hN3
   have HGQ : Hid (∀ b, b ∈ G0 ++ G1 ++ G2 ++ [] → w.heap.size ≤ b) := fun b hb => by have := hge3 b hb; omega
   clear hkey ho3 hN3 hge3 
   obtain ⟨ze0, ze1, ze2, ze3⟩ := hbr3.c4
   obtain ⟨zf0, zf1, zf2, zf3⟩ := hbr3.f4
   go_wp2_with fail
   obtain ⟨h1, h3⟩ := HKEY.out _ (show Turn [w.heap.size + 1] w3 ((((w3.setCell ⟨w.heap.size + 1, 0, none⟩ (.slice q0 m.fInodes.length p0)).setCell ⟨w.heap.size + 1, 1, none⟩ (.slice q1 m.fNames.length p1)).setCell ⟨w.heap.size + 1, 2, none⟩ (.slice q2 m.fSafe.length p2)).setCell ⟨w.heap.size + 1, 3, none⟩ (.int .i64 m.fNext)) from turn4 _ _ _ _ _ _)
   exact bodyPost_ret (v := .tuple #[.agg #[.slice q0 m.fInodes.length p0, .slice q1 m.fNames.length p1, .slice q2 m.fSafe.length p2, .int .i64 m.fNext], .int .i64 3]) (by simp [results, Tryz.results49, go_sem, *]) rfl ⟨[.slice q0 m.fInodes.length p0, .slice q1 m.fNames.length p1, .slice q2 m.fSafe.length p2, .int .i64 m.fNext], _, by rw [HC3.out], by rw [HV.out]; exact h1, HNQ.out, HGQ.out, h3⟩
  ·have HC2 : Hid (callP m s = 2) := by show _ = _; rw [HCA.out, if_neg hH]
   have hhs : Maps.has Dm (kS s) = false := by
    rw [Bool.eq_false_iff]
    intro h
    obtain ⟨j, hj, _, he⟩ := (HNM2.out.2 s).1.1 h
    exact hH (hasName_yes hj he)
   obtain ⟨N, hN⟩ : ∃ N, N = withE m.fNames ⟨s, m.fNext⟩ := ⟨_, rfl⟩
   obtain ⟨n, hn⟩ : ∃ n, n = createD m s := ⟨_, rfl⟩
   obtain ⟨kd, hkd⟩ : ∃ kd, kd = { m with fNames := N } := ⟨_, rfl⟩
   have hwt := create_weight (s := s) HK.out HS12.out
   rw [← hN, ← hn] at hwt
   have HWN : Hid (wDisk { m with fNames := N } ≤ 1048576) := by show _ ≤ _; omega
   have HWF : Hid (wDisk n ≤ 16777216) := by show _ ≤ _; omega
   have HLN : Hid (N.length ≤ 1000) := hwt.2.1
   have HRI : Hid (Rise N) := by show Rise N; rw [hN]; exact rise_withE HRI0.out
   have HM : Hid (MapIs (Dm.put (kS s) (.lit (.int .i64 m.fNext))) N) := by
    show MapIs _ N
    rw [hN]
    exact (MapIs.ofN rfl HNM2.out HRI0.out).put ⟨s, m.fNext⟩
   have HKW : Hid (keepD { m with fNames := N } = kd) := by show _ = _; rw [hkd, hN]; exact create_way HC2.out
   have HV : Hid (createP m s = fullD m n ∧ createC m s = fullC n) := by
    refine ⟨?_, ?_⟩
    ·unfold createP fullD; rw [hn, HC2.out]; simp
    ·unfold createC fullC; rw [hn, HC2.out]; simp
   have HNX : Hid (n.fInodes = kd.fInodes ++ [newI m] ∧ n.fNames = kd.fNames ∧ n.fSafe = kd.fSafe ∧ n.fNext = kd.fNext + 1 ∧ kd.fNext = m.fNext ∧ kd.fInodes = m.fInodes ∧ n.fInodes.length = kd.fInodes.length + 1) := by
    rw [hn, hkd, hN]
    refine ⟨rfl, rfl, rfl, rfl, rfl, rfl, ?_⟩
    simp [createD]
   have hkl : kd.fInodes.length ≤ 1000 := by rw [HNX.out.2.2.2.2.2.1]; have := ok_weight HK.out; omega
   have hkn : kd.fNext ≤ 1000000 := by rw [HNX.out.2.2.2.2.1]; exact hDR.next.2
   have hkn1 : 1 ≤ kd.fNext := by rw [HNX.out.2.2.2.2.1]; exact hDR.next.1
   have hnl : m.fNames.length ≤ 30 := (ok_weight HK.out).2.2.1
   clear hH hDR hwt hN hn hkd HCA
   go_wp2_with first
    | (at_lookup; refine wpList_lookup_own_ok_int _ rfl _ _ 120 rfl 9 3 .i64 lawStr Tryz.underlying120 Tryz.underlying3 (zeroInt _) w1.heap.size m.fNames.length Dm rfl hown _ _ rfl hkey ?_; intro c hat hwc; clear hat hwc)
    | (at_mapUpdate; refine wpList_mapUpdate_own _ rfl _ _ _ 120 rfl 9 3 lawStr Tryz.underlying120 _ w1.heap.size m.fNames.length _ rfl hown (by unfold maxLen; omega) _ _ _ rfl rfl hkey _ [] (plainElem_int Tryz.underlying3 hnx) ?_; intro w3 hown3 hgrow3; have hT3 : Turn [w1.heap.size] w2 w3 := Turn.ofGrown hgrow3 (fun k hk => by cases hk; simp); have hbd3 := hbd2.turn hT3 (by simp; omega); have hbr3 := hbr2.turn hT3 (by simp; omega); have yy0 := hbd3.cell 0 _ rfl; have yy1 := hbd3.cell 1 _ rfl; have yy2 := hbd3.cell 2 _ rfl; have yy3 := hbd3.cell 3 _ rfl)
   have hb3 : Below w.heap.size w w3 := hb2.trans (hT3.below (fun k hk => by simp at hk; omega) hb2.size)
   clear y0 y1 y2 y3 hown hgrow3 yy0 yy1 yy2 yy3
   have hcall := withNames_any _ m w1.heap.size _ _ N w3 (rDisk_good.mono (rDisk_good.below HR.out hb3) hb3.size) hown3 HM.out HRI.out HLN.out HWN.out
   rw [HKW.out] at hcall
   clear hown3
   refine hcall.mono ?_
   clear hcall
   rintro e w4 ⟨cs4, F4, rfl, ho4, hN4, hge4, hx4⟩
   obtain ⟨d0, e0, d1, e1, d2, e2, G0, G1, G2, rfl, o0, o1, o2, _, rfl⟩ := oDisk_cells ho4
   have hNN := hN4
   rw [List.append_nil, List.append_assoc, List.nodup_append] at hNN
   have HNN := Hid.mk hNN
   have HO1 := Hid.mk o1
   have HO2 := Hid.mk o2
   have HGE : Hid (∀ b, b ∈ G0 ++ G1 ++ G2 ++ [] → w3.heap.size ≤ b) := hge4
   have HLT : Hid (∀ b, b ∈ G0 ++ G1 ++ G2 ++ [] → b < w4.heap.size) := fun b hb => oDisk_good.lt ho4 b hb
   have hb4 := bthen hb3 hx4
   have hbd4 := hbd3.under hx4
   have hbr4 := hbr3.under hx4
   have hl4 := hbd4.lt
   have hl4r := hbr4.lt
   have hz4 := hx4.size
   have hz3 := hT3.size
   have hzb4 := hb4.size
   obtain ⟨Wa, hWa⟩ : ∃ Wa, Wa = w4.alloc (.cells #[.slice d0 kd.fInodes.length e0, .slice d1 kd.fNames.length e1, .slice d2 kd.fSafe.length e2, .int .i64 kd.fNext] 34) := ⟨_, rfl⟩
   obtain ⟨Wx, hWx⟩ : ∃ Wx, Wx = (w4.alloc (.cells #[.slice d0 kd.fInodes.length e0, .slice d1 kd.fNames.length e1, .slice d2 kd.fSafe.length e2, .int .i64 kd.fNext] 34)).alloc (.cells #[.int .i64 m.fNext, .slice none 0 0, .int .i64 0] 94) := ⟨_, rfl⟩
   have hWs : Wx.heap.size = w4.heap.size + 1 + 1 := by rw [hWx]; simp
   have hba : Below w4.heap.size w4 Wx := by rw [hWx]; exact ((Below.refl _ _).alloc (Nat.le_refl _) _).alloc (by simp; try omega) _
   have hwbx : Bw Wx w4.heap.size 34 [.slice d0 kd.fInodes.length e0, .slice d1 kd.fNames.length e1, .slice d2 kd.fSafe.length e2, .int .i64 kd.fNext] := by rw [hWx]; exact Bw.alloc (Bw.new _ _ _) _
   have hbx : Bx Wx (w4.heap.size + 1) [.int .i64 m.fNext, .slice none 0 0, .int .i64 0] := by rw [hWx]; have := Bx.new (w4.alloc (.cells #[.slice d0 kd.fInodes.length e0, .slice d1 kd.fNames.length e1, .slice d2 kd.fSafe.length e2, .int .i64 kd.fNext] 34)) [.int .i64 m.fNext, .slice none 0 0, .int .i64 0] 94; simpa using this
   have hbdx := hbd4.under hba
   have hbrx := hbr4.under hba
   have hox := ownS.frame (w' := Wx) oInode_good o0 (fun b hb => hba.block b (HLT.out b (by simp [hb])))
   obtain ⟨xs, hxs, hpush⟩ := ownS.push oInode_good hox hNN.1
   have HPUSH := Hid.mk hpush
   have HBA := Hid.mk hba
   have hg0 : ∀ k, (Value.slice d0 kd.fInodes.length e0).ownBlock = some k → w3.heap.size ≤ k ∧ k < w4.heap.size ∧ k ∈ G0 := fun k hk => by
    have hkG := ownS_block hox k hk
    exact ⟨HGE.out k (by simp [hkG]), HLT.out k (by simp [hkG]), hkG⟩
   have HG0 := Hid.mk hg0
   have HWS := Hid.mk hWs
   have HAFT : Hid (∀ (v5 : Value) (w5 : World), w5.ownsRow 0 94 3 v5 (kd.fInodes.length + 1) (xs ++ [.int .i64 m.fNext, .slice none 0 0, .int .i64 0]) → Wx.grownBy w5 (Value.slice d0 kd.fInodes.length e0).ownBlock → (v5.ownBlock = (Value.slice d0 kd.fInodes.length e0).ownBlock ∨ v5.ownBlock = some Wx.heap.size) →
     ∃ r5 q5, v5 = .slice r5 (kd.fInodes.length + 1) q5 ∧ Bw w5 w4.heap.size 34 [.slice d0 kd.fInodes.length e0, .slice d1 kd.fNames.length e1, .slice d2 kd.fSafe.length e2, .int .i64 kd.fNext] ∧ Bw w5 w.heap.size 34 [.slice a0 m.fInodes.length c0, .slice a1 m.fNames.length c1, .slice a2 m.fSafe.length c2, .int .i64 m.fNext] ∧ Bw w5 (w.heap.size + 1) 34 [.slice none 0 0, .slice none 0 0, .slice none 0 0, .int .i64 0] ∧ Below w.heap.size w w5 ∧
      ∃ F', oDisk w5 [.slice r5 (kd.fInodes.length + 1) q5, .slice d1 kd.fNames.length e1, .slice d2 kd.fSafe.length e2, .int .i64 kd.fNext] { n with fNext := kd.fNext } F' ∧ F'.Nodup ∧ (∀ b, b ∈ F' → w3.heap.size ≤ b ∧ b ≠ w4.heap.size)) := by
    intro v5 w5 hown5 hgrow5 hloc5
    obtain ⟨r5, q5, rfl⟩ := own_slice hown5
    have hT5 := turnOwn hgrow5
    have hn : ∀ b, b < w3.heap.size ∨ w4.heap.size ≤ b → b ∉ (Value.slice d0 kd.fInodes.length e0).ownBlock.toList := fun b hb h => by
     have := HG0.out b (by simpa using h)
     omega
    have hB5 : Below w3.heap.size Wx w5 := hT5.below (fun k hk => (HG0.out k (by simpa using hk)).1) (by omega)
    obtain ⟨F', p1, p2, p3⟩ := HPUSH.out w5 (.slice r5 (kd.fInodes.length + 1) q5) [.int .i64 m.fNext, .slice none 0 0, .int .i64 0] (newI m) [] hown5 hgrow5 hloc5 (newI_own hnx Wx) List.nodup_nil (fun b hb => by cases hb)
    refine ⟨r5, q5, rfl, hwbx.turn hT5 (hn _ (by omega)), hbdx.turn hT5 (hn _ (by omega)), hbrx.turn hT5 (hn _ (by omega)), (bthen hb4 HBA.out).trans (hB5.mono (by omega)), F' ++ G1 ++ G2 ++ [], ?_, ?_, ?_⟩
    ·have hfr : ∀ b, b ∈ G1 ++ G2 → w5.heap[b]? = w4.heap[b]? := fun b hb => by
      have hb' : b ∈ G0 ++ G1 ++ G2 ++ [] := by simp at hb ⊢; exact .inr hb
      rw [hT5.block b (by have := HLT.out b hb'; omega) (fun h => HNN.out.2.2 b (HG0.out b (by simpa using h)).2.2 b hb rfl), HBA.out.block b (HLT.out b hb')]
     have t1 := ownS.frame (w' := w5) oEntry_good HO1.out (fun b hb => hfr b (by simp [hb]))
     have t2 := ownS.frame (w' := w5) oEntry_good HO2.out (fun b hb => hfr b (by simp [hb]))
     refine ⟨_, F', _, G1, _, G2, rfl, ?_, ?_, ?_, ?_, rfl⟩
     ·rw [HNX.out.1]; exact p1
     ·rw [HNX.out.2.1]; exact t1
     ·rw [HNX.out.2.2.1]; exact t2
     ·rw [HNX.out.2.2.2.2.1]; exact hnx
    ·rw [List.append_nil, List.append_assoc, List.nodup_append]
     refine ⟨p2, HNN.out.2.1, fun a ha b hb hab => ?_⟩
     subst hab
     have hla := HLT.out a (by simp at hb ⊢; exact .inr hb)
     rcases p3 a ha with h | h | h
     ·exact HNN.out.2.2 a h a hb rfl
     ·cases h
     ·omega
    ·intro b hb
     simp at hb
     rcases hb with hb | hb
     ·rcases p3 b hb with h | h | h
      ·have h1 := HGE.out b (by simp [h]); have h2 := HLT.out b (by simp [h]); omega
      ·cases h
      ·omega
     ·have h1 := HGE.out b (by simp; exact .inr hb); have h2 := HLT.out b (by simp; exact .inr hb); omega
   have y3 := hbd4.cell 3 _ rfl
   clear hNN hN4 hge4 ho4 o0 o1 o2 hpush hg0 hox hWa hba hWs hbd3 hbr3 hbd2 hbr2 hwbx hbdx hbrx
   go_wp2_with (at_builtin; rw [← hWx]; refine wpList_append_own_at _ rfl _ _ 31 rfl 0 94 iI (.agg #[.int .i64 0, .slice none 0 0, .int .i64 0]) 3 40 Tryz.underlying31 hiI hzI0 hzI1 hzI2 rfl (by decide) _ _ _ rfl hxs ⟨w4.heap.size + 1, 0, none⟩ 1 1 [.int .i64 m.fNext, .slice none 0 0, .int .i64 0] rfl rfl (bx_news hbx) (by intro u hu; simp at hu; rcases hu with rfl | rfl | rfl <;> rfl) (by unfold maxLen; omega) (by omega) (Nat.zero_le _) ?_; intro v5 w5 hown5 hgrow5 hnil5 hloc5; obtain ⟨r5, q5, rfl, hwb5, hbd5, hbr5, hb5, F5, hO5, hN5, hF5⟩ := HAFT.out v5 w5 hown5 hgrow5 hloc5; clear hown5 hgrow5 hloc5 hnil5; have hl5 := hwb5.lt; have hl5d := hbd5.lt; have hl5r := hbr5.lt; have x0 := hwb5.cell 0 _ rfl; have x1 := hwb5.cell 1 _ rfl; have x2 := hwb5.cell 2 _ rfl; have x3 := hwb5.cell 3 _ rfl; have f0 := hwb5.free 0; have f3 := hwb5.free 3; have z0 := hbd5.cell 0 _ rfl; have z1 := hbd5.cell 1 _ rfl; have z2 := hbd5.cell 2 _ rfl; have z3 := hbd5.cell 3 _ rfl)
   obtain ⟨ws, hws⟩ : ∃ ws, ws = (w5.setCell ⟨w4.heap.size, 0, none⟩ (.slice r5 (kd.fInodes.length + 1) q5)).setCell ⟨w4.heap.size, 3, none⟩ (.int .i64 (kd.fNext + 1)) := ⟨_, rfl⟩
   have hTs : Turn [w4.heap.size] w5 ws := by rw [hws]; exact Turn.setCell (Turn.setCell (Turn.refl _ _) (by simp) _) (by simp) _
   have hoS : oDisk ws [.slice r5 (kd.fInodes.length + 1) q5, .slice d1 kd.fNames.length e1, .slice d2 kd.fSafe.length e2, .int .i64 (kd.fNext + 1)] n F5 := by
    have h := oDisk_good.frame (w' := ws) hO5 (fun b hb => hTs.block b (oDisk_good.lt hO5 b hb) (by intro h; simp at h; exact (hF5 b hb).2 h))
    obtain ⟨v0, F0, v1, F1, v2, F2, he, h0, h1, h2, h3, h4⟩ := h
    simp only [List.cons.injEq] at he
    obtain ⟨rfl, rfl, rfl, _⟩ := he
    refine ⟨_, F0, _, F1, _, F2, ?_, h0, h1, h2, ?_, h4⟩
    ·rw [HNX.out.2.2.2.1]
    ·rw [HNX.out.2.2.2.1]; exact WalkArith.wf_i64 (by omega)
   have hbds := hbd5.turn hTs (by simp; omega)
   have hbrs := hbr5.turn hTs (by simp; omega)
   have hBs : Below w.heap.size w ws := hb5.trans (hTs.below (fun k hk => by simp at hk; omega) hb5.size)
   have hgS : ∀ b, b ∈ F5 → w.heap.size + 2 ≤ b := fun b hb => by have := (hF5 b hb).1; omega
   rw [← hws]
   clear hws hTs x0 x1 x2 x3 f0 f3 z0 z1 z2 z3 hwb5 hbd5 hbr5 hO5 hF5
   have hcon := orFull_any _ r5 d1 d2 q5 e1 e2 m n F5 ws (rDisk_good.mono (rDisk_good.below HR.out hBs) hBs.size) HW.out (by rw [HNX.out.2.2.2.2.2.2, HNX.out.2.1, HNX.out.2.2.1, HNX.out.2.2.2.1]; exact hoS) hN5 HWF.out
   rw [HNX.out.2.2.2.2.2.2, HNX.out.2.1, HNX.out.2.2.1, HNX.out.2.2.2.1] at hcon
   refine hcon.mono ?_
   clear hcon
   rintro e w6 ⟨cs6, F6, rfl, ho6, hN6, hF6, hx6⟩
   have hb6 := bthen hBs hx6
   have hbr6 := hbrs.under hx6
   have hl6 := hbr6.lt
   have hlE := hbrs.lt
   obtain ⟨q0, p0, q1, p1, q2, p2, E0, E1, E2, rfl, _, _, _, _, rfl⟩ := oDisk_cells ho6
   have HGQ : Hid (∀ b, b ∈ E0 ++ E1 ++ E2 ++ [] → w.heap.size + 2 ≤ b) := fun b hb => by rcases hF6 b hb with h | h; (exact hgS b h); (have := hBs.size; omega)
   have hkey6 : ∀ W', Turn [w.heap.size + 1] w6 W' → oDisk W' [.slice q0 (fullD m n).fInodes.length p0, .slice q1 (fullD m n).fNames.length p1, .slice q2 (fullD m n).fSafe.length p2, .int .i64 (fullD m n).fNext] (fullD m n) (E0 ++ E1 ++ E2 ++ []) ∧ Below w.heap.size w W' := fun W' hT =>
    ⟨oDisk_good.frame ho6 (fun b hb => hT.block b (oDisk_good.lt ho6 b hb) (fun h => by simp at h; have := HGQ.out b hb; omega)), hb6.trans (hT.below (fun k hk => by simp at hk; omega) hb6.size)⟩
   have HKEY := Hid.mk hkey6
   have HNQ := Hid.mk hN6
   clear hkey6 ho6 hN6 hF6
   obtain ⟨ze0, ze1, ze2, ze3⟩ := hbr6.c4
   obtain ⟨zf0, zf1, zf2, zf3⟩ := hbr6.f4
   go_wp2_with fail
   obtain ⟨h1, h3⟩ := HKEY.out _ (show Turn [w.heap.size + 1] w6 ((((w6.setCell ⟨w.heap.size + 1, 0, none⟩ (.slice q0 (fullD m n).fInodes.length p0)).setCell ⟨w.heap.size + 1, 1, none⟩ (.slice q1 (fullD m n).fNames.length p1)).setCell ⟨w.heap.size + 1, 2, none⟩ (.slice q2 (fullD m n).fSafe.length p2)).setCell ⟨w.heap.size + 1, 3, none⟩ (.int .i64 (fullD m n).fNext)) from turn4 _ _ _ _ _ _)
   exact bodyPost_ret (v := .tuple #[.agg #[.slice q0 (fullD m n).fInodes.length p0, .slice q1 (fullD m n).fNames.length p1, .slice q2 (fullD m n).fSafe.length p2, .int .i64 (fullD m n).fNext], .int .i64 (fullC n)]) (by simp [results, Tryz.results49, go_sem, *]) rfl ⟨[.slice q0 (fullD m n).fInodes.length p0, .slice q1 (fullD m n).fNames.length p1, .slice q2 (fullD m n).fSafe.length p2, .int .i64 (fullD m n).fNext], _, by rw [HV.out.2], by rw [HV.out.1]; exact h1, HNQ.out, fun b hb => by have := HGQ.out b hb; omega, h3⟩
 ·have hF2 : (diskOk m && nameOk s) = false := Bool.eq_false_iff.2 hF
  have HCA : Hid (callP m s = 1) := by
   show _ = _
   unfold callP
   rw [hF2]
   rfl
  have HC1 : Hid (createC m s = 1) := by show _ = _; unfold createC; rw [HCA.out]; rfl
  have HV : Hid (createP m s = m) := by show _ = _; unfold createP; rw [HCA.out]; simp
  rw [hF2]
  clear hF hF2
  go_wp2_with fail
  refine (copyDisk_any _ (m) w1 (rDisk_good.mono (rDisk_good.below HR.out hb1) hb1.size) HW.out).mono ?_
  rintro e w2 ⟨cs3, F3, rfl, ho3, hN3, hge3, hx2⟩
  have hb2 := bthen hb1 hx2
  have hbr2 := hbr1.under hx2
  have hl2 := hbr2.lt
  have hz2 := hb1.size
  have hlq2 := hbr1.lt
  obtain ⟨q0, p0, q1, p1, q2, p2, G0, G1, G2, rfl, _, _, _, _, rfl⟩ := oDisk_cells ho3
  have hkey : ∀ W', Turn [w.heap.size + 1] w2 W' → oDisk W' [.slice q0 m.fInodes.length p0, .slice q1 m.fNames.length p1, .slice q2 m.fSafe.length p2, .int .i64 m.fNext] (m) (G0 ++ G1 ++ G2 ++ []) ∧ Below w.heap.size w W' := fun W' hT =>
   ⟨oDisk_good.frame ho3 (fun b hb => hT.block b (oDisk_good.lt ho3 b hb) (fun h => by simp at h; have := hge3 b hb; omega)), hb2.trans (hT.below (fun k hk => by simp at hk; omega) hb2.size)⟩
  have HKEY := Hid.mk hkey
  have HNQ := Hid.mk hN3
  have HGQ : Hid (∀ b, b ∈ G0 ++ G1 ++ G2 ++ [] → w.heap.size ≤ b) := fun b hb => by have := hge3 b hb; omega
  clear hkey ho3 hN3 hge3 
  obtain ⟨ze0, ze1, ze2, ze3⟩ := hbr2.c4
  obtain ⟨zf0, zf1, zf2, zf3⟩ := hbr2.f4
  go_wp2_with fail
  obtain ⟨h1, h3⟩ := HKEY.out _ (show Turn [w.heap.size + 1] w2 ((((w2.setCell ⟨w.heap.size + 1, 0, none⟩ (.slice q0 m.fInodes.length p0)).setCell ⟨w.heap.size + 1, 1, none⟩ (.slice q1 m.fNames.length p1)).setCell ⟨w.heap.size + 1, 2, none⟩ (.slice q2 m.fSafe.length p2)).setCell ⟨w.heap.size + 1, 3, none⟩ (.int .i64 m.fNext)) from turn4 _ _ _ _ _ _)
  exact bodyPost_ret (v := .tuple #[.agg #[.slice q0 m.fInodes.length p0, .slice q1 m.fNames.length p1, .slice q2 m.fSafe.length p2, .int .i64 m.fNext], .int .i64 1]) (by simp [results, Tryz.results49, go_sem, *]) rfl ⟨[.slice q0 m.fInodes.length p0, .slice q1 m.fNames.length p1, .slice q2 m.fSafe.length p2, .int .i64 m.fNext], _, by rw [HC1.out], by rw [HV.out]; exact h1, HNQ.out, HGQ.out, h3⟩
set_option maxHeartbeats 4000000 in
theorem implAppend_b (cs : List Value) (m : MDisk) (s : ByteArray) (vb : Value) (zb : List Int) (w : World) (hr : rDisk w.heap.size w cs m) (hs : s.size ≤ 9223372036854775807) (hrb : rdB w.heap.size w vb zb) (hw : wDisk m ≤ 1048576) (hw1 : s.size ≤ 1048576) (hwb : zb.length ≤ 2097152) :
  Calls Tryz.prog 83 #[.agg cs.toArray, .string s, vb] w fun e w' => ∃ (cs' : List Value) (F : List Nat), e = .returned (.tuple #[.agg cs'.toArray, .int .i64 (appendC m s zb)]) ∧ oDisk w' cs' (appendP m s zb) F ∧ F.Nodup ∧ (∀ b, b ∈ F → w.heap.size ≤ b) ∧ Below w.heap.size w w' := by
 obtain ⟨ab, cb, rfl, hlb⟩ := hrb
 have HLB := Hid.mk hlb
 clear hlb
 have hq := hr
 obtain ⟨a0, c0, a1, c1, a2, c2, rfl, hI, hNm, hSf, hnx, _⟩ := hq
 have hw2 : m.fInodes.length + sumW wInode m.fInodes + (m.fNames.length + sumW wEntry m.fNames) + (m.fSafe.length + sumW wEntry m.fSafe) ≤ 1048576 := hw
 have HW := Hid.mk hw
 have HR := Hid.mk hr
 clear hr hI hNm hSf hw
 go_enter Tryz.func83, Tryz.ntmps83
 go_wp2_with fail
 obtain ⟨wq, hwq⟩ : ∃ wq, wq = ((w.alloc (.cells #[.slice a0 m.fInodes.length c0, .slice a1 m.fNames.length c1, .slice a2 m.fSafe.length c2, .int .i64 m.fNext] 34)).alloc (.cells #[.slice none 0 0, .slice none 0 0, .slice none 0 0, .int .i64 0] 34)) := ⟨_, rfl⟩
 have hbW : Below w.heap.size w wq := by rw [hwq]; exact Below.alloc (Below.alloc (Below.refl _ _) (by exact Nat.le_refl _) _) (by simp; try omega) _
 have hbd : Bw wq (w.heap.size) 34 [.slice a0 m.fInodes.length c0, .slice a1 m.fNames.length c1, .slice a2 m.fSafe.length c2, .int .i64 m.fNext] := by rw [hwq]; exact Bw.alloc (Bw.new' _ _ _ (by simp)) _
 have hbr : Bw wq (w.heap.size + 1) 34 [.slice none 0 0, .slice none 0 0, .slice none 0 0, .int .i64 0] := by rw [hwq]; exact Bw.new' _ _ _ (by simp)
 rw [← hwq]
 clear hwq
 refine (findFile_any _ m s wq (rDisk_good.mono (rDisk_good.below HR.out hbW) hbW.size) HW.out hs).mono ?_
 rintro e w1 ⟨p, rfl, hp, hx1⟩
 have HP := Hid.mk hp
 clear hp
 have hb1 := bthen hbW hx1
 have hbd1 := hbd.under hx1
 have hbr1 := hbr.under hx1
 have hl1 := hbr1.lt
 have hl1d := hbd1.lt
 have hzW := hb1.size
 obtain ⟨y0, y1, y2, y3⟩ := hbd1.c4
 clear hbd hbr
 by_cases hC : callP m s = 0
 ·obtain ⟨hpl, hpi⟩ := HP.out hC
  have HPF := Hid.mk (file_only hC hpl hpi)
  have hwt := ok_weight (call_good hC).1
  obtain ⟨n, hn⟩ : ∃ n, n = appendD m s zb := ⟨_, rfl⟩
  have hnl : n.fInodes.length = m.fInodes.length := by rw [hn]; exact updI_length
  have hwn : wDisk n ≤ 16777216 := by
   rw [hn]
   unfold appendD
   rw [wDisk_eq]
   have h1 := sumW_updI (l := m.fInodes) (k := fileAt m s) (f := longI zb) (c := zb.length) (fun x => by unfold longI wInode; simp)
   have h2 := updI_length (l := m.fInodes) (k := fileAt m s) (f := longI zb)
   simp only [h2]
   omega
  have HV : Hid (appendP m s zb = fullD m n ∧ appendC m s zb = fullC n) := by
   refine ⟨?_, ?_⟩
   ·unfold appendP fullD; rw [hn, hC]; simp
   ·unfold appendC fullC; rw [hn, hC]; simp
  have HNX : Hid (n = { m with fInodes := updI m.fInodes p (longI zb) } ∧ n.fNames = m.fNames ∧ n.fSafe = m.fSafe ∧ n.fNext = m.fNext) := by rw [hn]; refine ⟨?_, rfl, rfl, rfl⟩; unfold appendD; rw [HPF.out]
  have HNL := Hid.mk hnl
  have HWN := Hid.mk hwn
  clear hn hnl hwn hpi HPF hwt
  rw [hC]
  go_wp2_with fail
  refine (copyDisk_any _ m w1 (rDisk_good.mono (rDisk_good.below HR.out hb1) hb1.size) HW.out).mono ?_
  rintro e w2 ⟨cs2, F2, rfl, ho2, hN2, hge2, hx2⟩
  obtain ⟨d0, e0, d1, e1, d2, e2, G0, G1, G2, rfl, o0, o1, o2, _, rfl⟩ := oDisk_cells ho2
  have HO0 := Hid.mk o0
  have HO1 := Hid.mk o1
  have HO2 := Hid.mk o2
  have HO := Hid.mk ho2
  have HN := Hid.mk hN2
  have HGE : Hid (∀ b, b ∈ G0 ++ G1 ++ G2 ++ [] → w1.heap.size ≤ b) := hge2
  have HLT : Hid (∀ b, b ∈ G0 ++ G1 ++ G2 ++ [] → b < w2.heap.size) := fun b hb => oDisk_good.lt ho2 b hb
  clear ho2 hN2 hge2 o0 o1 o2
  have hb2 := bthen hb1 hx2
  have hbr2 := hbr1.under hx2
  have hbd2 := hbd1.under hx2
  have hz2 := hx2.size
  obtain ⟨g, cap, hv, hgG, hgl⟩ := ownS.shape HO0.out (by omega)
  simp only [Value.slice.injEq, true_and] at hv
  obtain ⟨rfl, rfl⟩ := hv
  have hNN := HN.out
  rw [List.append_nil, List.append_assoc, List.nodup_append] at hNN
  obtain ⟨cs3, Fk, o3, n3, f3, _, c3, z3, hput⟩ := ownS.split oInode_good HO0.out hNN.1 hpl
  have HNN := Hid.mk hNN
  have HPUT := Hid.mk hput
  have HFK := Hid.mk f3
  have HNK := Hid.mk n3
  obtain ⟨v3, F3, hc3, i3, b3, s3, hF3⟩ := o3
  subst hc3
  obtain ⟨a3, l3, rfl, hlb3⟩ := b3.read
  have k1 := c3 1 _ rfl
  have r1 := z3 (p * 3 + 1)
  have hge1 := HGE.out g (by simp [hgG])
  have hdl : m.fInodes[p].fData.length ≤ 1048576 := by have h1 := sumW_le (f := wInode) hpl; have h2 : wInode m.fInodes[p] = m.fInodes[p].fData.length := rfl; omega
  have hpn : (0 : Int) ≤ (p : Int) := by omega
  have hpn2 : (p : Int) < (m.fInodes.length : Int) := by omega
  obtain ⟨nd, hnd⟩ : ∃ nd, nd = m.fInodes[p] := ⟨_, rfl⟩
  have HND := Hid.mk hnd
  rw [← hnd] at k1 hdl b3 i3 s3 hlb3 HPUT
  have HB3 := Hid.mk b3
  have HLB3 := Hid.mk hlb3
  have HI3 := Hid.mk i3
  have HS3 := Hid.mk s3
  clear c3 z3 hNN hput f3 n3 b3 hlb3 i3 s3 hnd
  have HPL := Hid.mk hpl
  clear y0 y1 y2 y3
  go_wp2_with fail
  obtain ⟨wo, hwo⟩ : ∃ wo, wo = w2.alloc (.cells #[.slice (some ⟨g, 0, none⟩) m.fInodes.length e0, .slice d1 m.fNames.length e1, .slice d2 m.fSafe.length e2, .int .i64 m.fNext] 34) := ⟨_, rfl⟩
  have hbo : Below w2.heap.size w2 wo := by rw [hwo]; exact (Below.refl _ _).alloc (Nat.le_refl _) _
  have hwb : Bw wo w2.heap.size 34 [.slice (some ⟨g, 0, none⟩) m.fInodes.length e0, .slice d1 m.fNames.length e1, .slice d2 m.fSafe.length e2, .int .i64 m.fNext] := by rw [hwo]; exact Bw.new _ _ _
  rw [← hwo]
  clear hwo
  have hbo1 := bthen hb2 hbo
  have hlD : LeafB wo.heap.size wo a3 l3 nd.fData := LeafB.mono (LeafB.below HLB3.out hbo) hbo.size
  have hlB : LeafB wo.heap.size wo ab cb zb := LeafB.mono (HLB.out.below hbo1) hbo1.size
  refine (joinBytes_any a3 ab l3 cb nd.fData zb wo hlD hlB (by omega) (by omega)).mono ?_
  rintro e w3 ⟨vj, Fj, rfl, hoj, hNj, hgej, hx3⟩
  obtain ⟨rj, qj, rfl, _⟩ := hoj.read
  obtain ⟨tl, htl⟩ : ∃ tl, (nd.fData ++ zb).length = tl := ⟨_, rfl⟩
  rw [htl] at hoj ⊢
  clear htl
  have hbo3 := bthen hbo hx3
  have hb3 := bthen hbo1 hx3
  have hwb3 := hwb.under hx3
  have hbd3 := hbd2.under hbo3
  have hbr3 := hbr2.under hbo3
  have k1o := (hbo3.cell (p := ⟨g, p * 3 + 1, none⟩) hgl).trans k1
  have r1o := (hbo3.frozen (p := ⟨g, p * 3 + 1, none⟩) hgl).trans r1
  have hl3 := hwb3.lt
  have hl3d := hbd3.lt
  have hl3g : g < w3.heap.size := Nat.lt_of_lt_of_le hgl hbo3.size
  have hgne : g ≠ w2.heap.size := by omega
  have hgne2 : g ≠ w.heap.size := by omega
  obtain ⟨y0, y1, y2, y3⟩ := hbd3.c4
  obtain ⟨x0, x1, x2, x3⟩ := hwb3.c4
  have HOJ := Hid.mk hoj
  have HNJ := Hid.mk hNj
  have HGJ : Hid (∀ b, b ∈ Fj → w2.heap.size ≤ b) := fun b hb => Nat.le_trans hbo.size (hgej b hb)
  clear hoj hNj hgej k1 r1 hlD hlB
  go_wp2_with fail
  obtain ⟨ws, hws⟩ : ∃ ws, ws = w3.setCell ⟨g, p * 3 + 1, none⟩ (.slice rj tl qj) := ⟨_, rfl⟩
  have hTs : Turn [g] w3 ws := by rw [hws]; exact Turn.setCell (Turn.refl _ _) (by simp) _
  have hod : ∃ F', oDisk ws [.slice (some ⟨g, 0, none⟩) m.fInodes.length e0, .slice d1 m.fNames.length e1, .slice d2 m.fSafe.length e2, .int .i64 m.fNext] n F' ∧ F'.Nodup ∧ ∀ b, b ∈ F' → w1.heap.size ≤ b := by
   obtain ⟨F', p1, p2, p3⟩ := HPUT.out w3 1 (.slice rj tl qj) (longI zb nd) (Fj ++ []) Fj (by omega) (Turn.ofBelow hbo3) ⟨_, Fj, rfl, HI3.out, HOJ.out, HS3.out, rfl⟩ (by rw [List.append_nil]; exact HNJ.out) (fun b hb => .inr (by simpa using hb)) (fun b hb hb0 => by have := HGJ.out b hb; have := HLT.out b (by simp [hb0]); omega)
   have hfr : ∀ b, b ∈ G1 ++ G2 → ws.heap[b]? = w2.heap[b]? := fun b hb => by
    have hb' : b ∈ G0 ++ G1 ++ G2 ++ [] := by simp at hb ⊢; exact .inr hb
    rw [hTs.block b (by have := HLT.out b hb'; have := hbo3.size; omega) (by intro h; simp at h; exact HNN.out.2.2 g hgG b hb h.symm), hbo3.block b (HLT.out b hb')]
   have t1 := ownS.frame (w' := ws) oEntry_good HO1.out (fun b hb => hfr b (by simp [hb]))
   have t2 := ownS.frame (w' := ws) oEntry_good HO2.out (fun b hb => hfr b (by simp [hb]))
   rw [← hws, HND.out] at p1
   refine ⟨F' ++ G1 ++ G2 ++ [], ?_, ?_, ?_⟩
   ·rw [HNX.out.1]
    exact oDisk_put HPL.out p1 t1 t2 hnx
   ·rw [List.append_nil, List.append_assoc, List.nodup_append]
    refine ⟨p2, HNN.out.2.1, fun a ha b hb hab => ?_⟩
    subst hab
    rcases p3 a ha with h | h
    ·exact HNN.out.2.2 a h a hb rfl
    ·have := HGJ.out a h; have := HLT.out a (by simp at hb ⊢; exact .inr hb); omega
   ·intro b hb
    simp at hb
    rcases hb with hb | hb
    ·rcases p3 b hb with h | h
     ·exact HGE.out b (by simp [h])
     ·have := HGJ.out b h; omega
    ·exact HGE.out b (by simp; exact .inr hb)
  obtain ⟨Fs9, hoS, hNS, hgS⟩ := hod
  have hbds := hbd3.turn hTs (by simp; omega)
  have hbrs := hbr3.turn hTs (by simp; omega)
  have hBs : Below w.heap.size w ws := hb3.trans (hTs.below (fun k hk => by simp at hk; omega) hb3.size)
  rw [← hws]
  clear hws hTs k1o r1o y0 y1 y2 y3 x0 x1 x2 x3
  have hcon := orFull_any _ (some ⟨g, 0, none⟩) d1 d2 e0 e1 e2 m n Fs9 ws (rDisk_good.mono (rDisk_good.below HR.out hBs) hBs.size) HW.out (by rw [HNL.out, HNX.out.2.1, HNX.out.2.2.1, HNX.out.2.2.2]; exact hoS) hNS HWN.out
  rw [HNL.out, HNX.out.2.1, HNX.out.2.2.1, HNX.out.2.2.2] at hcon
  refine hcon.mono ?_
  clear hcon
  rintro e w4 ⟨cs4, F4, rfl, ho4, hN4, hF4, hx4⟩
  have hb4 := bthen hBs hx4
  have hbr4 := hbrs.under hx4
  have hl4 := hbr4.lt
  have hlE := hbrs.lt
  obtain ⟨q0, p0, q1, p1, q2, p2, E0, E1, E2, rfl, _, _, _, _, rfl⟩ := oDisk_cells ho4
  have HGQ : Hid (∀ b, b ∈ E0 ++ E1 ++ E2 ++ [] → w.heap.size + 2 ≤ b) := fun b hb => by rcases hF4 b hb with h | h; (have := hgS b h; omega); (have := hBs.size; omega)
  have hkey : ∀ W', Turn [w.heap.size + 1] w4 W' → oDisk W' [.slice q0 (fullD m n).fInodes.length p0, .slice q1 (fullD m n).fNames.length p1, .slice q2 (fullD m n).fSafe.length p2, .int .i64 (fullD m n).fNext] (fullD m n) (E0 ++ E1 ++ E2 ++ []) ∧ Below w.heap.size w W' := fun W' hT =>
   ⟨oDisk_good.frame ho4 (fun b hb => hT.block b (oDisk_good.lt ho4 b hb) (fun h => by simp at h; have := HGQ.out b hb; omega)), hb4.trans (hT.below (fun k hk => by simp at hk; omega) hb4.size)⟩
  have HKEY := Hid.mk hkey
  have HNQ := Hid.mk hN4
  clear hkey ho4 hN4 hF4
  obtain ⟨ze0, ze1, ze2, ze3⟩ := hbr4.c4
  obtain ⟨zf0, zf1, zf2, zf3⟩ := hbr4.f4
  go_wp2_with fail
  obtain ⟨h1, h3⟩ := HKEY.out _ (show Turn [w.heap.size + 1] w4 ((((w4.setCell ⟨w.heap.size + 1, 0, none⟩ (.slice q0 (fullD m n).fInodes.length p0)).setCell ⟨w.heap.size + 1, 1, none⟩ (.slice q1 (fullD m n).fNames.length p1)).setCell ⟨w.heap.size + 1, 2, none⟩ (.slice q2 (fullD m n).fSafe.length p2)).setCell ⟨w.heap.size + 1, 3, none⟩ (.int .i64 (fullD m n).fNext)) from turn4 _ _ _ _ _ _)
  exact bodyPost_ret (v := .tuple #[.agg #[.slice q0 (fullD m n).fInodes.length p0, .slice q1 (fullD m n).fNames.length p1, .slice q2 (fullD m n).fSafe.length p2, .int .i64 (fullD m n).fNext], .int .i64 (fullC n)]) (by simp [results, Tryz.results83, go_sem, *]) rfl ⟨[.slice q0 (fullD m n).fInodes.length p0, .slice q1 (fullD m n).fNames.length p1, .slice q2 (fullD m n).fSafe.length p2, .int .i64 (fullD m n).fNext], _, by rw [HV.out.2], by rw [HV.out.1]; exact h1, HNQ.out, fun b hb => by have := HGQ.out b hb; omega, h3⟩
 ·have HV : Hid (appendP m s zb = m ∧ appendC m s zb = callP m s) := by refine ⟨?_, ?_⟩ <;> simp [appendP, appendC, hC]
  have hcn : (callP m s == 0) = false := beq_eq_false_iff_ne.2 hC
  have hcn2 : (callP m s != 0) = true := bne_iff_ne.2 hC
  obtain ⟨cp, hcp⟩ : ∃ cp, callP m s = cp := ⟨_, rfl⟩
  rw [hcp] at hcn hcn2 ⊢
  have HCP := Hid.mk hcp
  clear hcp hC HP
  go_wp2_with fail
  refine (copyDisk_any _ (m) w1 (rDisk_good.mono (rDisk_good.below HR.out hb1) hb1.size) HW.out).mono ?_
  rintro e w3 ⟨cs3, F3, rfl, ho3, hN3, hge3, hx3⟩
  have hb3 := bthen hb1 hx3
  have hbr3 := hbr1.under hx3
  have hl3 := hbr3.lt
  have hz3 := hb1.size
  have hlq3 := hbr1.lt
  obtain ⟨q0, p0, q1, p1, q2, p2, G0, G1, G2, rfl, _, _, _, _, rfl⟩ := oDisk_cells ho3
  have hkey : ∀ W', Turn [w.heap.size + 1] w3 W' → oDisk W' [.slice q0 m.fInodes.length p0, .slice q1 m.fNames.length p1, .slice q2 m.fSafe.length p2, .int .i64 m.fNext] (m) (G0 ++ G1 ++ G2 ++ []) ∧ Below w.heap.size w W' := fun W' hT =>
   ⟨oDisk_good.frame ho3 (fun b hb => hT.block b (oDisk_good.lt ho3 b hb) (fun h => by simp at h; have := hge3 b hb; omega)), hb3.trans (hT.below (fun k hk => by simp at hk; omega) hb3.size)⟩
  have HKEY := Hid.mk hkey
  have HNQ := Hid.mk hN3
  have HGQ : Hid (∀ b, b ∈ G0 ++ G1 ++ G2 ++ [] → w.heap.size ≤ b) := fun b hb => by have := hge3 b hb; omega
  clear hkey ho3 hN3 hge3 y0 y1 y2 y3
  obtain ⟨ze0, ze1, ze2, ze3⟩ := hbr3.c4
  obtain ⟨zf0, zf1, zf2, zf3⟩ := hbr3.f4
  go_wp2_with fail
  obtain ⟨h1, h3⟩ := HKEY.out _ (show Turn [w.heap.size + 1] w3 ((((w3.setCell ⟨w.heap.size + 1, 0, none⟩ (.slice q0 m.fInodes.length p0)).setCell ⟨w.heap.size + 1, 1, none⟩ (.slice q1 m.fNames.length p1)).setCell ⟨w.heap.size + 1, 2, none⟩ (.slice q2 m.fSafe.length p2)).setCell ⟨w.heap.size + 1, 3, none⟩ (.int .i64 m.fNext)) from turn4 _ _ _ _ _ _)
  exact bodyPost_ret (v := .tuple #[.agg #[.slice q0 m.fInodes.length p0, .slice q1 m.fNames.length p1, .slice q2 m.fSafe.length p2, .int .i64 m.fNext], .int .i64 cp]) (by simp [results, Tryz.results83, go_sem, *]) rfl ⟨[.slice q0 m.fInodes.length p0, .slice q1 m.fNames.length p1, .slice q2 m.fSafe.length p2, .int .i64 m.fNext], _, by rw [HV.out.2, HCP.out], by rw [HV.out.1]; exact h1, HNQ.out, HGQ.out, h3⟩
end Go.Proofs.YtddejboifpepcaaGreatDoor
