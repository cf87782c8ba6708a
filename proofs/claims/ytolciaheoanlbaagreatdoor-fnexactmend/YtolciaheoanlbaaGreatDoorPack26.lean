/-
  Part 27 of the texts that the proof leans on.
-/
import Derived.Test.YtolciaheoanlbaaGreatDoorPack2
import Derived.Test.YtolciaheoanlbaaGreatDoorPack25
import Derived.Test.YtolciaheoanlbaaGreatDoorPack21
import Derived.Test.YtolciaheoanlbaaGreatDoorPack12
import Derived.Test.YtolciaheoanlbaaGreatDoorPack19
import Derived.Test.YtolciaheoanlbaaGreatDoorPack22
import Derived.Test.YtolciaheoanlbaaGreatDoorRows
import Derived.Test.YtolciaheoanlbaaGreatDoorPack0
import Derived.ProofKit
import Derived.Deep.Slices

/-
  A log that is mended, as the program does it.
-/
namespace Go.Proofs.YtolciaheoanlbaaGreatDoor
open Go.RowKit
set_option linter.unusedVariables false
set_option linter.unusedSimpArgs false
set_option maxRecDepth 10000
abbrev qc7e_10_8_0 : Oper := ⟨some 43, .load 30 (.tmp 2), 30, "l03_log.go:57", #[], none⟩
abbrev qc7e_10_8_1 : Oper := ⟨some 44, .move (.tmp 9), 62, "l03_log.go:57", #[], none⟩
abbrev qc7e_10_8_2 : Oper := ⟨some 45, .move (.tmp 11), 3, "l03_log.go:57", #[], none⟩
abbrev qc7e_10_8_3 : Oper := ⟨some 46, .slice 62 (.tmp 44) none (some (.tmp 45)) none, 62, "l03_log.go:57", #[⟨1, .data⟩, ⟨2, .data⟩], none⟩
abbrev qc7e_10_8_4 : Oper := ⟨some 47, .move (.tmp 1), 9, "l03_log.go:57", #[], none⟩
abbrev qc7e_10_8_9 : Oper := ⟨some 12, .alloc 30, 0, "l03_log.go:57", #[], none⟩
abbrev qc7e_10_8_5 : Oper := ⟨some 48, .call { callee := .value (.func 40), args := #[.tmp 43, .const (.string { data := #[109, 101, 110, 100] }), .tmp 46, .tmp 47], argTypes := #[30, 9, 62, 9] }, 44, "l03_log.go:57", #[⟨0, .data⟩, ⟨3, .data⟩, ⟨4, .data⟩], none⟩
abbrev qc7e_10_8_6 : Oper := ⟨some 42, .move (.tmp 48), 44, "l03_log.go:57", #[⟨5, .data⟩], none⟩
abbrev qc7e_10_8_7 : Oper := ⟨some 49, .extract (.tmp 42) 0, 30, "l03_log.go:57", #[⟨6, .data⟩], none⟩
abbrev qc7e_10_8_8 : Oper := ⟨some 50, .extract (.tmp 42) 1, 3, "l03_log.go:57", #[⟨6, .data⟩, { on := 10, ground := Ground.gcOnly Departure.lateStores }], none⟩
abbrev qc7e_10_8_10 : Oper := ⟨none, .store 30 (.tmp 12) (.tmp 49), 0, "l03_log.go:57", #[⟨9, .data⟩, ⟨7, .data⟩, ⟨5, .chain⟩, ⟨0, .phase⟩, ⟨1, .phase⟩, ⟨2, .phase⟩, ⟨3, .phase⟩, ⟨4, .phase⟩, ⟨5, .phase⟩, ⟨6, .phase⟩, ⟨7, .phase⟩, { on := 8, ground := Ground.textOnly Departure.lateStores }, ⟨9, .phase⟩], none⟩
abbrev qc7e_10_8_11 : Oper := ⟨some 8, .assign (.tmp 50), 3, "l03_log.go:57", #[⟨8, .data⟩, ⟨10, .chain⟩, ⟨0, .phase⟩, ⟨1, .phase⟩, ⟨2, .phase⟩, ⟨3, .phase⟩, ⟨4, .phase⟩, ⟨5, .phase⟩, ⟨6, .phase⟩, ⟨7, .phase⟩, ⟨8, .phase⟩, ⟨9, .phase⟩, ⟨10, .phase⟩], none⟩
set_option maxHeartbeats 8000000 in
theorem implMend_c (cs : List Value) (m : MDisk) (s : ByteArray) (w : World) (hr : rDisk w.heap.size w cs m) (hs : s.size ≤ 9223372036854775807) (hw : wDisk m ≤ 1048576) (hw1 : s.size ≤ 1048576) (ht : TabAt w) :
  Calls Tryz.prog 10 #[.agg cs.toArray, .string s] w fun e w' => ∃ (cs' : List Value) (F0 : List Nat) (v : Value) (F1 : List Nat), e = .returned (.tuple #[.agg cs'.toArray, v, .int .i64 (mendC m s)]) ∧ oDisk w' cs' (mendD m s) F0 ∧ F0.Nodup ∧ (∀ b, b ∈ F0 → w.heap.size ≤ b) ∧ ownS 1 62 oBy w' v (mendL m s) F1 ∧ F1.Nodup ∧ (∀ b, b ∈ F1 → w.heap.size ≤ b) ∧ (∀ b, b ∈ F0 → b ∉ F1) ∧ Below w.heap.size w w' := by
 have hsz := ht.size
 have HTB := Hid.mk ht
 clear ht
 have hq := hr
 obtain ⟨a0, c0, a1, c1, a2, c2, rfl, hI, hNm, hSf, hnx, _⟩ := hq
 have HI := Hid.mk hI
 have HW := Hid.mk hw
 have HR := Hid.mk hr
 clear hr hI hNm hSf hw
 obtain ⟨wq, hwq⟩ : ∃ wq, wq = (w.alloc (.cells #[.slice a0 m.fInodes.length c0, .slice a1 m.fNames.length c1, .slice a2 m.fSafe.length c2, .int .i64 m.fNext] 30)).alloc (.cells #[.slice none 0 0, .slice none 0 0, .slice none 0 0, .int .i64 0] 30) := ⟨_, rfl⟩
 have hzq : wq.heap.size = w.heap.size + 2 := by rw [hwq]; simp
 have hbW : Below w.heap.size w wq := by rw [hwq]; exact ((Below.refl _ _).alloc (Nat.le_refl _) _).alloc (by simp) _
 have hbd : Bw wq w.heap.size 30 [.slice a0 m.fInodes.length c0, .slice a1 m.fNames.length c1, .slice a2 m.fSafe.length c2, .int .i64 m.fNext] := by rw [hwq]; exact (Bw.new _ _ _).alloc _
 have hbr : Bw wq (w.heap.size + 1) 30 [.slice none 0 0, .slice none 0 0, .slice none 0 0, .int .i64 0] := by rw [hwq]; exact Bw.new' _ _ _ (by simp)
 go_enter Tryz.func10, Tryz.ntmps10
 go_wp2_with fail
 rw [← hwq]
 clear hwq
 refine (findFile_any _ m s wq (rDisk_good.mono (rDisk_good.below HR.out hbW) hbW.size) HW.out hs).mono ?_
 rintro e w1 ⟨p, rfl, hfile, hx1⟩
 have hb1 := bthen hbW hx1
 have hd1 := hbd.under hx1
 have hr1 := hbr.under hx1
 have hz1 := hx1.size
 by_cases hc : callP m s = 0
 rotate_left
 ·have HRES := Hid.mk (mend_no hc)
  have hwf : (Lit.int .i64 (callP m s)).wf = true := by rcases call_which m s with h | h | h <;> rw [h] <;> rfl
  generalize callP m s = c at *
  have hcd : decide (c = 0) = false := decide_eq_false hc
  clear hfile
  have hdl := hd1.lt
  have x0 := hd1.cell 0 _ rfl
  have x1 := hd1.cell 1 _ rfl
  have x2 := hd1.cell 2 _ rfl
  have x3 := hd1.cell 3 _ rfl
  go_wp2_with fail
  refine (copyDisk_any _ m w1 (rDisk_good.mono (rDisk_good.below HR.out hb1) hb1.size) HW.out).mono ?_
  rintro e w7 ⟨cs7, F7, rfl, ho7, hN7, hge7, hx7⟩
  obtain ⟨q0, qp0, q1, qp1, q2, qp2, E0, E1, E2, rfl, _, _, _, _, rfl⟩ := oDisk_cells ho7
  have hr7 := hr1.under hx7
  have hz7 := hx7.size
  have hzz := hr1.lt
  have hgF : ∀ b, b ∈ E0 ++ E1 ++ E2 ++ [] → w.heap.size + 2 ≤ b := fun b hb => by have := hge7 b hb; omega
  have HGF := Hid.mk hgF
  have HNF := Hid.mk hN7
  have u0 : w7.cell? ⟨w.heap.size + 1, 0, none⟩ = some (.slice none 0 0) := (hr7).cell 0 _ rfl
  have uf0 : w7.frozen? ⟨w.heap.size + 1, 0, none⟩ = false := (hr7).free 0
  have u1 : w7.cell? ⟨w.heap.size + 1, 1, none⟩ = some (.slice none 0 0) := (hr7).cell 1 _ rfl
  have uf1 : w7.frozen? ⟨w.heap.size + 1, 1, none⟩ = false := (hr7).free 1
  have u2 : w7.cell? ⟨w.heap.size + 1, 2, none⟩ = some (.slice none 0 0) := (hr7).cell 2 _ rfl
  have uf2 : w7.frozen? ⟨w.heap.size + 1, 2, none⟩ = false := (hr7).free 2
  have u3 : w7.cell? ⟨w.heap.size + 1, 3, none⟩ = some (.int .i64 0) := (hr7).cell 3 _ rfl
  have uf3 : w7.frozen? ⟨w.heap.size + 1, 3, none⟩ = false := (hr7).free 3
  have hul := hr7.lt
  have hT := turn4 w7 (w.heap.size + 1) (.slice q0 m.fInodes.length qp0) (.slice q1 m.fNames.length qp1) (.slice q2 m.fSafe.length qp2) (.int .i64 m.fNext)
  have HBF : Hid (Below w.heap.size w ((((w7.setCell ⟨w.heap.size + 1, 0, none⟩ (.slice q0 m.fInodes.length qp0)).setCell ⟨w.heap.size + 1, 1, none⟩ (.slice q1 m.fNames.length qp1)).setCell ⟨w.heap.size + 1, 2, none⟩ (.slice q2 m.fSafe.length qp2)).setCell ⟨w.heap.size + 1, 3, none⟩ (.int .i64 m.fNext))) := (bthen hb1 hx7).trans (hT.below (fun k hk => by simp at hk; omega) (bthen hb1 hx7).size)
  have HOF : Hid (oDisk ((((w7.setCell ⟨w.heap.size + 1, 0, none⟩ (.slice q0 m.fInodes.length qp0)).setCell ⟨w.heap.size + 1, 1, none⟩ (.slice q1 m.fNames.length qp1)).setCell ⟨w.heap.size + 1, 2, none⟩ (.slice q2 m.fSafe.length qp2)).setCell ⟨w.heap.size + 1, 3, none⟩ (.int .i64 m.fNext)) [.slice q0 m.fInodes.length qp0, .slice q1 m.fNames.length qp1, .slice q2 m.fSafe.length qp2, .int .i64 m.fNext] m _) := oDisk_good.frame ho7 (fun b hb => hT.block b (oDisk_good.lt ho7 b hb) (by intro h; simp at h; have := hgF b hb; omega))
  have HLF : Hid (ownS 1 62 oBy ((((w7.setCell ⟨w.heap.size + 1, 0, none⟩ (.slice q0 m.fInodes.length qp0)).setCell ⟨w.heap.size + 1, 1, none⟩ (.slice q1 m.fNames.length qp1)).setCell ⟨w.heap.size + 1, 2, none⟩ (.slice q2 m.fSafe.length qp2)).setCell ⟨w.heap.size + 1, 3, none⟩ (.int .i64 m.fNext)) (.slice none 0 0) [] []) := .inl ⟨rfl, rfl, rfl⟩
  clear hT
  go_wp2_with fail
  exact bodyPost_ret (v := .tuple #[.agg #[.slice q0 m.fInodes.length qp0, .slice q1 m.fNames.length qp1, .slice q2 m.fSafe.length qp2, .int .i64 m.fNext], .slice none 0 0, .int .i64 c]) (by simp [results, Tryz.results10, go_sem, *]) rfl ⟨[.slice q0 m.fInodes.length qp0, .slice q1 m.fNames.length qp1, .slice q2 m.fSafe.length qp2, .int .i64 m.fNext], _, _, _, by rw [show mendC m s = c from congrArg (fun r => r.2.2) HRES.out], by rw [show mendD m s = m from congrArg (fun r => r.1) HRES.out]; exact HOF.out, HNF.out, (fun b hb => by have := HGF.out b hb; omega), by rw [show mendL m s = _ from congrArg (fun r => r.2.1) HRES.out]; exact HLF.out, List.nodup_nil, (fun b hb => by cases hb), (fun b _ hb => by cases hb), HBF.out⟩
 have HC := Hid.mk hc
 rw [hc]
 obtain ⟨hp, hid⟩ := hfile hc
 have hdat := data_eq hc (List.getElem_mem hp) hid
 have x0 := hd1.cell 0 _ rfl
 have x1 := hd1.cell 1 _ rfl
 have x2 := hd1.cell 2 _ rfl
 have x3 := hd1.cell 3 _ rfl
 have hdl := hd1.lt
 obtain ⟨bi, oi, rfl, hBi, csi, _, hci, ad, cd, rfl, _, hlb, _⟩ := (HI.out.below rInode_good hb1).2.2 p hp
 have k1 := hci 1 _ rfl
 rw [← hdat] at k1 hlb
 have hlen : p < m.fInodes.length := hp
 have hil : m.fInodes.length ≤ 1048576 := by have := HW.out; rw [wDisk_eq] at this; omega
 have HLB : Hid (LeafB w1.heap.size w1 ad cd (dataOf m s)) := LeafB.mono hlb hb1.size
 obtain ⟨w2, hw2⟩ : ∃ w2, w2 = w1 := ⟨_, rfl⟩
 have hd2 := hd1
 have hr2 := hr1
 have hb2 := hb1
 clear hw2 hci hlb hid hdat hbd hbr
 have hdl2 : (dataOf m s).length ≤ 1048576 := by
  have hok := ok_weight (call_good HC.out).1
  obtain ⟨hk, hid⟩ := file_at HC.out
  have h1 := sumW_le (f := wInode) hk
  have h2 : dataOf m s = m.fInodes[fileAt m s].fData := by unfold dataOf; have h3 : placeOf m.fInodes (idOf m.fNames s) = fileAt m s := rfl; rw [h3, List.getElem?_eq_getElem hk]; rfl
  rw [h2]
  have h4 : wInode m.fInodes[fileAt m s] = m.fInodes[fileAt m s].fData.length := rfl
  omega
 have HWH := Hid.mk (fun h => mend_whole HC.out h)
 have HGD := Hid.mk (fun h => mend_good HC.out h)
 have HBD := Hid.mk (fun h => mend_bad HC.out h)
 have HFO : Hid (foreP m s = (dataOf m s).take (recsP (dataOf m s)).2.toNat) := rfl
 have HPB := Hid.mk (recs_place HLB.out.2.2.2)
 go_wp2_with fail
 have hW := hb2
 refine (implRecords_any ad (dataOf m s).length cd (dataOf m s) w1 rfl hdl2 HLB.out.1 HLB.out.2.2.2 HLB.out.2.2.1 (HTB.out.below hb2 hsz)).mono ?_
 rintro e w3 ⟨vl, FL, rfl, hol, hNL, hgl, hx3⟩
 obtain ⟨dt, hdt⟩ : ∃ dt, dt = dataOf m s := ⟨_, rfl⟩
 rw [← hdt] at hol HWH HGD HBD HFO HPB HLB hdl2 ⊢
 have HDT := Hid.mk hdt
 clear hdt
 obtain ⟨bo, hbo⟩ : ∃ bo, bo = (recsP dt).1 := ⟨_, rfl⟩
 obtain ⟨pl, hpl⟩ : ∃ pl : Nat, (recsP dt).2 = (pl : Int) := ⟨(recsP dt).2.toNat, by have := HPB.out; omega⟩
 rw [← hbo] at hol HWH HGD
 rw [hpl] at HWH HGD HBD HFO HPB ⊢
 clear hbo hpl
 obtain ⟨la, lc, rfl, _⟩ := rdBs_own hol
 have hpl2 : pl ≤ dt.length := by have := HPB.out; omega
 have hb3 := bthen hb2 hx3
 have hd3 := hd2.under hx3
 have hr3 := hr2.under hx3
 have hz3 := hx3.size
 have hzz2 := hr2.lt
 have HGL : Hid (∀ b, b ∈ FL → w.heap.size + 2 ≤ b) := fun b hb => by have := hgl b hb; omega
 have HNL := Hid.mk hNL
 have HLL : Hid (∀ b, b ∈ FL → b < w3.heap.size) := fun b hb => ownS.lt oBy_good hol b hb
 have HOL := Hid.mk hol
 clear hol hNL hgl
 by_cases hpe : (pl : Int) = (dt.length : Int)
 ·have HRES := Hid.mk (HWH.out hpe)
  have hpd : decide ((pl : Int) = (dt.length : Int)) = true := decide_eq_true hpe
  have hpn : pl = dt.length := by omega
  subst hpn
  have hdl := hd3.lt
  have x0 := hd3.cell 0 _ rfl
  have x1 := hd3.cell 1 _ rfl
  have x2 := hd3.cell 2 _ rfl
  have x3 := hd3.cell 3 _ rfl
  go_wp2_with fail
  refine (copyDisk_any _ m w3 (rDisk_good.mono (rDisk_good.below HR.out hb3) hb3.size) HW.out).mono ?_
  rintro e w7 ⟨cs7, F7, rfl, ho7, hN7, hge7, hx7⟩
  obtain ⟨q0, qp0, q1, qp1, q2, qp2, E0, E1, E2, rfl, _, _, _, _, rfl⟩ := oDisk_cells ho7
  have hr7 := hr3.under hx7
  have hz7 := hx7.size
  have hzz := hr3.lt
  have hgF : ∀ b, b ∈ E0 ++ E1 ++ E2 ++ [] → w.heap.size + 2 ≤ b := fun b hb => by have := hge7 b hb; omega
  have HGF := Hid.mk hgF
  have HNF := Hid.mk hN7
  have hl7 := ownS.frame oBy_good HOL.out (fun b hb => hx7.block b (ownS.lt oBy_good HOL.out b hb))
  have HDIS : Hid (∀ b, b ∈ E0 ++ E1 ++ E2 ++ [] → b ∉ FL) := fun b hb hb2 => by have h1 := hge7 b hb; have h2 := HLL.out b hb2; omega
  have u0 : w7.cell? ⟨w.heap.size + 1, 0, none⟩ = some (.slice none 0 0) := (hr7).cell 0 _ rfl
  have uf0 : w7.frozen? ⟨w.heap.size + 1, 0, none⟩ = false := (hr7).free 0
  have u1 : w7.cell? ⟨w.heap.size + 1, 1, none⟩ = some (.slice none 0 0) := (hr7).cell 1 _ rfl
  have uf1 : w7.frozen? ⟨w.heap.size + 1, 1, none⟩ = false := (hr7).free 1
  have u2 : w7.cell? ⟨w.heap.size + 1, 2, none⟩ = some (.slice none 0 0) := (hr7).cell 2 _ rfl
  have uf2 : w7.frozen? ⟨w.heap.size + 1, 2, none⟩ = false := (hr7).free 2
  have u3 : w7.cell? ⟨w.heap.size + 1, 3, none⟩ = some (.int .i64 0) := (hr7).cell 3 _ rfl
  have uf3 : w7.frozen? ⟨w.heap.size + 1, 3, none⟩ = false := (hr7).free 3
  have hul := hr7.lt
  have hT := turn4 w7 (w.heap.size + 1) (.slice q0 m.fInodes.length qp0) (.slice q1 m.fNames.length qp1) (.slice q2 m.fSafe.length qp2) (.int .i64 m.fNext)
  have HBF : Hid (Below w.heap.size w ((((w7.setCell ⟨w.heap.size + 1, 0, none⟩ (.slice q0 m.fInodes.length qp0)).setCell ⟨w.heap.size + 1, 1, none⟩ (.slice q1 m.fNames.length qp1)).setCell ⟨w.heap.size + 1, 2, none⟩ (.slice q2 m.fSafe.length qp2)).setCell ⟨w.heap.size + 1, 3, none⟩ (.int .i64 m.fNext))) := (bthen hb3 hx7).trans (hT.below (fun k hk => by simp at hk; omega) (bthen hb3 hx7).size)
  have HOF : Hid (oDisk ((((w7.setCell ⟨w.heap.size + 1, 0, none⟩ (.slice q0 m.fInodes.length qp0)).setCell ⟨w.heap.size + 1, 1, none⟩ (.slice q1 m.fNames.length qp1)).setCell ⟨w.heap.size + 1, 2, none⟩ (.slice q2 m.fSafe.length qp2)).setCell ⟨w.heap.size + 1, 3, none⟩ (.int .i64 m.fNext)) [.slice q0 m.fInodes.length qp0, .slice q1 m.fNames.length qp1, .slice q2 m.fSafe.length qp2, .int .i64 m.fNext] m _) := oDisk_good.frame ho7 (fun b hb => hT.block b (oDisk_good.lt ho7 b hb) (by intro h; simp at h; have := hgF b hb; omega))
  have hlf := ownS.frame (w' := ((((w7.setCell ⟨w.heap.size + 1, 0, none⟩ (.slice q0 m.fInodes.length qp0)).setCell ⟨w.heap.size + 1, 1, none⟩ (.slice q1 m.fNames.length qp1)).setCell ⟨w.heap.size + 1, 2, none⟩ (.slice q2 m.fSafe.length qp2)).setCell ⟨w.heap.size + 1, 3, none⟩ (.int .i64 m.fNext))) oBy_good hl7 (fun b hb => hT.block b (ownS.lt oBy_good hl7 b hb) (by intro h; simp at h; have := HGL.out b hb; omega))
  have HLF := Hid.mk hlf
  clear hlf
  clear hT
  go_wp2_with fail
  exact bodyPost_ret (v := .tuple #[.agg #[.slice q0 m.fInodes.length qp0, .slice q1 m.fNames.length qp1, .slice q2 m.fSafe.length qp2, .int .i64 m.fNext], .slice la bo.length lc, .int .i64 0]) (by simp [results, Tryz.results10, go_sem, *]) rfl ⟨[.slice q0 m.fInodes.length qp0, .slice q1 m.fNames.length qp1, .slice q2 m.fSafe.length qp2, .int .i64 m.fNext], _, _, _, by rw [show mendC m s = 0 from congrArg (fun r => r.2.2) HRES.out], by rw [show mendD m s = m from congrArg (fun r => r.1) HRES.out]; exact HOF.out, HNF.out, (fun b hb => by have := HGF.out b hb; omega), by rw [show mendL m s = _ from congrArg (fun r => r.2.1) HRES.out]; exact HLF.out, HNL.out, (fun b hb => by have := HGL.out b hb; omega), HDIS.out, HBF.out⟩
 ·have hpd : decide ((pl : Int) = (dt.length : Int)) = false := decide_eq_false hpe
  have HGD2 := Hid.mk (HGD.out hpe)
  have HBD2 := Hid.mk (HBD.out hpe)
  clear HGD HBD HWH
  have HFO2 : Hid (foreP m s = dt.take pl) := by show _ = _; rw [HFO.out]; simp
  have htk : (dt.take pl).length = pl := by simp; omega
  have HRB : Hid (∀ W, Below w3.heap.size w3 W → rdB W.heap.size W (.slice ad pl cd) (foreP m s)) := fun W hb => by
   have h := (LeafB.mono (HLB.out.below hx3) hx3.size)
   have h2 := LeafB.mono (h.below hb) hb.size
   rw [HFO2.out]
   exact ⟨ad, cd, by rw [htk], by rw [htk]; have := h2.1; omega, h2.2.1, Rd.front h2.2.2.1 pl, fun z hz => h2.2.2.2 z (List.mem_of_mem_take hz)⟩
  have hfl : (foreP m s).length ≤ 1048576 := by rw [HFO2.out, htk]; omega
  have hcap : (pl : Int) ≤ (cd : Int) := by have := HLB.out.1; omega
  generalize foreP m s = fo at *
  have p0 : ∀ W, Bw W w.heap.size 30 [.slice (some ⟨bi, oi, none⟩) m.fInodes.length c0, .slice a1 m.fNames.length c1, .slice a2 m.fSafe.length c2, .int .i64 m.fNext] → W.cell? ⟨w.heap.size, 0, none⟩ = some (.slice (some ⟨bi, oi, none⟩) m.fInodes.length c0) := fun W h => h.cell 0 _ rfl
  have p1 : ∀ W, Bw W w.heap.size 30 [.slice (some ⟨bi, oi, none⟩) m.fInodes.length c0, .slice a1 m.fNames.length c1, .slice a2 m.fSafe.length c2, .int .i64 m.fNext] → W.cell? ⟨w.heap.size, 1, none⟩ = some (.slice a1 m.fNames.length c1) := fun W h => h.cell 1 _ rfl
  have p2 : ∀ W, Bw W w.heap.size 30 [.slice (some ⟨bi, oi, none⟩) m.fInodes.length c0, .slice a1 m.fNames.length c1, .slice a2 m.fSafe.length c2, .int .i64 m.fNext] → W.cell? ⟨w.heap.size, 2, none⟩ = some (.slice a2 m.fSafe.length c2) := fun W h => h.cell 2 _ rfl
  have p3 : ∀ W, Bw W w.heap.size 30 [.slice (some ⟨bi, oi, none⟩) m.fInodes.length c0, .slice a1 m.fNames.length c1, .slice a2 m.fSafe.length c2, .int .i64 m.fNext] → W.cell? ⟨w.heap.size, 3, none⟩ = some (.int .i64 m.fNext) := fun W h => h.cell 3 _ rfl
  have hd3l := hd3.lt
  go_wp2_with fail
  refine wp_region_held_drew (S := fun W => Bw W w.heap.size 30 [.slice (some ⟨bi, oi, none⟩) m.fInodes.length c0, .slice a1 m.fNames.length c1, .slice a2 m.fSafe.length c2, .int .i64 m.fNext]) (by kernel_rfl) (hd3.drew) (fun hHeld => ?_)
  obtain ⟨wS, hwS⟩ : ∃ wS, wS = w3.drew := ⟨_, rfl⟩
  have hbS : Below w3.heap.size w3 wS := by rw [hwS]; exact Below.drew (Below.refl _ _)
  have HOw : Hid (ownS 1 62 oBy wS (.slice la bo.length lc) bo FL) := ownS.frame oBy_good HOL.out (fun b hb => hbS.block b (HLL.out b hb))
  have hrS := hr3.under hbS
  have hdwS : Bw wS w.heap.size 30 [.slice (some ⟨bi, oi, none⟩) m.fInodes.length c0, .slice a1 m.fNames.length c1, .slice a2 m.fSafe.length c2, .int .i64 m.fNext] := hd3.under hbS
  have hbwS := bthen hb3 hbS
  rw [← hwS] at hHeld ⊢
  clear hwS
  refine tq 0 qc7e_10_8_0 43 hHeld ?_; try simp only[Act.put,sa,s0,s1]
  refine tq 1 qc7e_10_8_1 44 hHeld ?_; try simp only[Act.put,sa,s0,s1]
  refine tq 2 qc7e_10_8_2 45 hHeld ?_; try simp only[Act.put,sa,s0,s1]
  refine tq 3 qc7e_10_8_3 46 hHeld ?_; try simp only[Act.put,sa,s0,s1]
  refine tq 4 qc7e_10_8_4 47 hHeld ?_; try simp only[Act.put,sa,s0,s1]
  refine arR [5, 9] ?_
  refine (AllReadyH.cons (o := qc7e_10_8_5) rfl (fun K hK => ?_) (AllReadyH.cons (o := qc7e_10_8_9) rfl (fun K hK => ?_) AllReadyH.nil))
  ·go_simp
   have hfw := (show Below wS.heap.size wS wS from Below.refl _ _)
   have hb5S : w3.heap.size ≤ wS.heap.size := Nat.le_trans hbS.size hfw.size
   refine Calls.mono (switch_any _ m mendN (.slice ad pl cd) fo s wS (rDisk_good.mono (rDisk_good.below HR.out (bthen hbwS hfw)) (bthen hbwS hfw).size) HW.out (by decide) hw1 (HRB.out _ (bthen hbS hfw)) hfl) ?_
   obtain ⟨d5, hd5⟩ : ∃ d5, d5 = (switchP m mendN fo s).1 := ⟨_, rfl⟩
   obtain ⟨c5, hc5⟩ : ∃ c5, c5 = (switchP m mendN fo s).2 := ⟨_, rfl⟩
   rw [← hd5, ← hc5]
   have HD5 := Hid.mk hd5
   have HC5 := Hid.mk hc5
   clear hd5 hc5
   rintro e wE5 ⟨cs5, F5, rfl, ho5, hN5, hge5, hx5⟩
   obtain ⟨z0, zp0, z1, zp1, z2, zp2, E0, E1, E2, rfl, _, _, _, _, rfl⟩ := oDisk_cells ho5
   have hop5 : Below wS.heap.size wS wE5 := hx5
   have hdwE5 := hdwS.under hop5
   go_wp2_with fail
   refine hK.out _ _ (hdwE5) (fun hHeld => ?_)
   clear hK K
   try simp only[Act.put,sa,s0,s1]
   refine tq 6 qc7e_10_8_6 42 hHeld ?_; try simp only[Act.put,sa,s0,s1]
   refine tq 7 qc7e_10_8_7 49 hHeld ?_; try simp only[Act.put,sa,s0,s1]
   refine tq 8 qc7e_10_8_8 50 hHeld ?_; try simp only[Act.put,sa,s0,s1]
   refine arR [9] ?_
   refine (AllReadyH.cons (o := qc7e_10_8_9) rfl (fun K hK => ?_) AllReadyH.nil)
   ·go_simp
    obtain ⟨wE9, hq9⟩ : ∃ q, q = wE5.alloc (.cells #[.slice none 0 0, .slice none 0 0, .slice none 0 0, .int .i64 0] 30) := ⟨_, rfl⟩
    have hop9 : Below wE5.heap.size wE5 wE9 := by rw [hq9]; exact (Below.refl _ _).alloc (Nat.le_refl _) _
    have hdwE9 := hdwE5.under hop9
    obtain ⟨g9, HG9⟩ : ∃ z, Hid (z = wE5.heap.size) := ⟨_, Hid.mk rfl⟩
    have HB9 : Hid (Bw wE9 g9 30 [.slice none 0 0, .slice none 0 0, .slice none 0 0, .int .i64 0]) := by unfold Hid; rw [HG9.out, hq9]; exact Bw.new _ _ _
    have hgp3 : w3.heap.size ≤ g9 := by rw [HG9.out]; exact Nat.le_trans hbS.size (Below.size (show Below wS.heap.size wS wE5 from bthen (Below.refl _ _) hop5))
    have hgp : w.heap.size + 2 ≤ g9 := by have := hr3.lt; omega
    rw [← HG9.out]
    rw [← hq9]
    clear hq9
    refine hK.out _ _ (hdwE9) (fun hHeld => ?_)
    clear hK K
    try simp only[Act.put,sa,s0,s1]
    refine arR [10] ?_
    refine (AllReadyH.cons (o := qc7e_10_8_10) rfl (fun K hK => ?_) AllReadyH.nil)
    ·skip
     have hb9 := HB9.out.under (show Below wE9.heap.size wE9 wE9 from Below.refl _ _)
     have s0 := hb9.cell 0 _ rfl
     have sf0 := hb9.free 0
     have s1 := hb9.cell 1 _ rfl
     have sf1 := hb9.free 1
     have s2 := hb9.cell 2 _ rfl
     have sf2 := hb9.free 2
     have s3 := hb9.cell 3 _ rfl
     have sf3 := hb9.free 3
     have hl9 := hb9.lt
     go_simp
     obtain ⟨wE10, hq10⟩ : ∃ q, q = ((((wE9.setCell ⟨g9, 0, none⟩ (.slice z0 d5.fInodes.length zp0)).setCell ⟨g9, 1, none⟩ (.slice z1 d5.fNames.length zp1)).setCell ⟨g9, 2, none⟩ (.slice z2 d5.fSafe.length zp2)).setCell ⟨g9, 3, none⟩ (.int .i64 d5.fNext)) := ⟨_, rfl⟩
     have hT10 : Turn [g9] wE9 wE10 := by rw [hq10]; exact turn4 _ _ _ _ _ _
     have hbx : Bw wE10 g9 30 [.slice z0 d5.fInodes.length zp0, .slice z1 d5.fNames.length zp1, .slice z2 d5.fSafe.length zp2, .int .i64 d5.fNext] := by rw [hq10]; exact hb9.set4 rfl _ _ _ _
     have hdwE10 : Bw wE10 w.heap.size 30 [.slice (some ⟨bi, oi, none⟩) m.fInodes.length c0, .slice a1 m.fNames.length c1, .slice a2 m.fSafe.length c2, .int .i64 m.fNext] := hdwE9.turn hT10 (by simp; omega)
     have hfp := (show Below wS.heap.size wS wE9 from bthen (bthen (Below.refl _ _) hop5) hop9)
     have hpS := (show Below wE5.heap.size wE5 wE9 from bthen (Below.refl _ _) hop9)
     rw [← hq10]
     clear hq10 hb9 s0 s1 s2 s3 sf0 sf1 sf2 sf3
     refine hK.out _ _ (hdwE10) (fun hHeld => ?_)
     clear hK K
     try simp only[Act.put,sa,s0,s1]
     refine tq 11 qc7e_10_8_11 8 hHeld ?_; try simp only[Act.put,sa,s0,s1]
     refine wpAnyH_done (by kernel_rfl) ?_ _
     have HGE5 : Hid (∀ b, b ∈ E0 ++ E1 ++ E2 ++ [] → w3.heap.size ≤ b) := fun b hb => by have h1 := hge5 b hb; have h2 := hb5S; omega
     have hgne : ∀ b, b ∈ E0 ++ E1 ++ E2 ++ [] → b ≠ g9 := fun b hb h => by have h1 := hge5 b hb; have h2 := oDisk_good.lt ho5 b hb; have h3 := HB9.out.lt; have h4 := HG9.out; omega
     have hbp := bthen hbS hfp
     have HB10 : Below w.heap.size w wE10 := (bthen hb3 hbp).trans (hT10.below (fun k hk => by simp at hk; omega) (bthen hb3 hbp).size)
     have hr10 : Bw wE10 (w.heap.size + 1) 30 [.slice none 0 0, .slice none 0 0, .slice none 0 0, .int .i64 0] := (hr3.under hbp).turn hT10 (by simp; omega)
     have hol10 : ownS 1 62 oBy wE10 (.slice la bo.length lc) bo FL := ownS.frame oBy_good (ownS.frame oBy_good HOL.out (fun b hb => hbp.block b (HLL.out b hb))) (fun b hb => hT10.block b (by have := HLL.out b hb; have := hbp.size; omega) (by intro h; simp at h; have := HLL.out b hb; omega))
     have ho510 : oDisk wE10 [.slice z0 d5.fInodes.length zp0, .slice z1 d5.fNames.length zp1, .slice z2 d5.fSafe.length zp2, .int .i64 d5.fNext] d5 (E0 ++ E1 ++ E2 ++ []) := oDisk_good.frame (oDisk_good.frame ho5 (fun b hb => hpS.block b (oDisk_good.lt ho5 b hb))) (fun b hb => hT10.block b (by have := oDisk_good.lt ho5 b hb; have := hpS.size; omega) (by intro h; simp at h; exact hgne b hb h))
     by_cases hcz : c5 = 0
     rotate_left
     ·have HRES : Hid (mendR m s = (m, [], c5)) := by show _ = _; rw [HBD2.out (by rw [← HC5.out]; exact hcz), ← HC5.out]
      have hczd : decide (c5 = 0) = false := decide_eq_false hcz
      clear HGD2 HBD2 hol10 ho510
      obtain ⟨w6, hw6⟩ : ∃ w6, w6 = wE10 := ⟨_, rfl⟩
      rw [← hw6] at HB10 hr10 hdwE10 ⊢
      clear hw6
      have hdl := hdwE10.lt
      have x0 := hdwE10.cell 0 _ rfl
      have x1 := hdwE10.cell 1 _ rfl
      have x2 := hdwE10.cell 2 _ rfl
      have x3 := hdwE10.cell 3 _ rfl
      go_wp2_with fail
      refine (copyDisk_any _ m w6 (rDisk_good.mono (rDisk_good.below HR.out HB10) HB10.size) HW.out).mono ?_
      rintro e w7 ⟨cs7, F7, rfl, ho7, hN7, hge7, hx7⟩
      obtain ⟨q0, qp0, q1, qp1, q2, qp2, E0, E1, E2, rfl, _, _, _, _, rfl⟩ := oDisk_cells ho7
      have hr7 := hr10.under hx7
      have hz7 := hx7.size
      have hzz := hr10.lt
      have hgF : ∀ b, b ∈ E0 ++ E1 ++ E2 ++ [] → w.heap.size + 2 ≤ b := fun b hb => by have := hge7 b hb; omega
      have HGF := Hid.mk hgF
      have HNF := Hid.mk hN7
      have u0 : w7.cell? ⟨w.heap.size + 1, 0, none⟩ = some (.slice none 0 0) := (hr7).cell 0 _ rfl
      have uf0 : w7.frozen? ⟨w.heap.size + 1, 0, none⟩ = false := (hr7).free 0
      have u1 : w7.cell? ⟨w.heap.size + 1, 1, none⟩ = some (.slice none 0 0) := (hr7).cell 1 _ rfl
      have uf1 : w7.frozen? ⟨w.heap.size + 1, 1, none⟩ = false := (hr7).free 1
      have u2 : w7.cell? ⟨w.heap.size + 1, 2, none⟩ = some (.slice none 0 0) := (hr7).cell 2 _ rfl
      have uf2 : w7.frozen? ⟨w.heap.size + 1, 2, none⟩ = false := (hr7).free 2
      have u3 : w7.cell? ⟨w.heap.size + 1, 3, none⟩ = some (.int .i64 0) := (hr7).cell 3 _ rfl
      have uf3 : w7.frozen? ⟨w.heap.size + 1, 3, none⟩ = false := (hr7).free 3
      have hul := hr7.lt
      have hT := turn4 w7 (w.heap.size + 1) (.slice q0 m.fInodes.length qp0) (.slice q1 m.fNames.length qp1) (.slice q2 m.fSafe.length qp2) (.int .i64 m.fNext)
      have HBF : Hid (Below w.heap.size w ((((w7.setCell ⟨w.heap.size + 1, 0, none⟩ (.slice q0 m.fInodes.length qp0)).setCell ⟨w.heap.size + 1, 1, none⟩ (.slice q1 m.fNames.length qp1)).setCell ⟨w.heap.size + 1, 2, none⟩ (.slice q2 m.fSafe.length qp2)).setCell ⟨w.heap.size + 1, 3, none⟩ (.int .i64 m.fNext))) := (bthen HB10 hx7).trans (hT.below (fun k hk => by simp at hk; omega) (bthen HB10 hx7).size)
      have HOF : Hid (oDisk ((((w7.setCell ⟨w.heap.size + 1, 0, none⟩ (.slice q0 m.fInodes.length qp0)).setCell ⟨w.heap.size + 1, 1, none⟩ (.slice q1 m.fNames.length qp1)).setCell ⟨w.heap.size + 1, 2, none⟩ (.slice q2 m.fSafe.length qp2)).setCell ⟨w.heap.size + 1, 3, none⟩ (.int .i64 m.fNext)) [.slice q0 m.fInodes.length qp0, .slice q1 m.fNames.length qp1, .slice q2 m.fSafe.length qp2, .int .i64 m.fNext] m _) := oDisk_good.frame ho7 (fun b hb => hT.block b (oDisk_good.lt ho7 b hb) (by intro h; simp at h; have := hgF b hb; omega))
      have HLF : Hid (ownS 1 62 oBy ((((w7.setCell ⟨w.heap.size + 1, 0, none⟩ (.slice q0 m.fInodes.length qp0)).setCell ⟨w.heap.size + 1, 1, none⟩ (.slice q1 m.fNames.length qp1)).setCell ⟨w.heap.size + 1, 2, none⟩ (.slice q2 m.fSafe.length qp2)).setCell ⟨w.heap.size + 1, 3, none⟩ (.int .i64 m.fNext)) (.slice none 0 0) [] []) := .inl ⟨rfl, rfl, rfl⟩
      clear hT
      go_wp2_with fail
      exact bodyPost_ret (v := .tuple #[.agg #[.slice q0 m.fInodes.length qp0, .slice q1 m.fNames.length qp1, .slice q2 m.fSafe.length qp2, .int .i64 m.fNext], .slice none 0 0, .int .i64 c5]) (by simp [results, Tryz.results10, go_sem, *]) rfl ⟨[.slice q0 m.fInodes.length qp0, .slice q1 m.fNames.length qp1, .slice q2 m.fSafe.length qp2, .int .i64 m.fNext], _, _, _, by rw [show mendC m s = c5 from congrArg (fun r => r.2.2) HRES.out], by rw [show mendD m s = m from congrArg (fun r => r.1) HRES.out]; exact HOF.out, HNF.out, (fun b hb => by have := HGF.out b hb; omega), by rw [show mendL m s = _ from congrArg (fun r => r.2.1) HRES.out]; exact HLF.out, List.nodup_nil, (fun b hb => by cases hb), (fun b _ hb => by cases hb), HBF.out⟩
     ·have HRES : Hid (mendR m s = (d5, bo, 0)) := by show _ = _; rw [HGD2.out (by rw [← HC5.out]; exact hcz), ← HD5.out]
      clear HGD2 HBD2
      subst hcz
      have u0 : wE10.cell? ⟨w.heap.size + 1, 0, none⟩ = some (.slice none 0 0) := (hr10).cell 0 _ rfl
      have uf0 : wE10.frozen? ⟨w.heap.size + 1, 0, none⟩ = false := (hr10).free 0
      have u1 : wE10.cell? ⟨w.heap.size + 1, 1, none⟩ = some (.slice none 0 0) := (hr10).cell 1 _ rfl
      have uf1 : wE10.frozen? ⟨w.heap.size + 1, 1, none⟩ = false := (hr10).free 1
      have u2 : wE10.cell? ⟨w.heap.size + 1, 2, none⟩ = some (.slice none 0 0) := (hr10).cell 2 _ rfl
      have uf2 : wE10.frozen? ⟨w.heap.size + 1, 2, none⟩ = false := (hr10).free 2
      have u3 : wE10.cell? ⟨w.heap.size + 1, 3, none⟩ = some (.int .i64 0) := (hr10).cell 3 _ rfl
      have uf3 : wE10.frozen? ⟨w.heap.size + 1, 3, none⟩ = false := (hr10).free 3
      have hul := hr10.lt
      have b0 := hbx.cell 0 _ rfl
      have b1 := hbx.cell 1 _ rfl
      have b2 := hbx.cell 2 _ rfl
      have b3 := hbx.cell 3 _ rfl
      have hxl := hbx.lt
      have hgF : ∀ b, b ∈ E0 ++ E1 ++ E2 ++ [] → w.heap.size + 2 ≤ b := fun b hb => by have := HGE5.out b hb; omega
      have HGF := Hid.mk hgF
      have HNF := Hid.mk hN5
      have HDIS : Hid (∀ b, b ∈ E0 ++ E1 ++ E2 ++ [] → b ∉ FL) := fun b hb hb2 => by have h1 := HGE5.out b hb; have h2 := HLL.out b hb2; omega
      have hT := turn4 wE10 (w.heap.size + 1) (.slice z0 d5.fInodes.length zp0) (.slice z1 d5.fNames.length zp1) (.slice z2 d5.fSafe.length zp2) (.int .i64 d5.fNext)
      have HBF : Hid (Below w.heap.size w ((((wE10.setCell ⟨w.heap.size + 1, 0, none⟩ (.slice z0 d5.fInodes.length zp0)).setCell ⟨w.heap.size + 1, 1, none⟩ (.slice z1 d5.fNames.length zp1)).setCell ⟨w.heap.size + 1, 2, none⟩ (.slice z2 d5.fSafe.length zp2)).setCell ⟨w.heap.size + 1, 3, none⟩ (.int .i64 d5.fNext))) := HB10.trans (hT.below (fun k hk => by simp at hk; omega) HB10.size)
      have HOF : Hid (oDisk ((((wE10.setCell ⟨w.heap.size + 1, 0, none⟩ (.slice z0 d5.fInodes.length zp0)).setCell ⟨w.heap.size + 1, 1, none⟩ (.slice z1 d5.fNames.length zp1)).setCell ⟨w.heap.size + 1, 2, none⟩ (.slice z2 d5.fSafe.length zp2)).setCell ⟨w.heap.size + 1, 3, none⟩ (.int .i64 d5.fNext)) [.slice z0 d5.fInodes.length zp0, .slice z1 d5.fNames.length zp1, .slice z2 d5.fSafe.length zp2, .int .i64 d5.fNext] d5 _) := oDisk_good.frame ho510 (fun b hb => hT.block b (oDisk_good.lt ho510 b hb) (by intro h; simp at h; have := hgF b hb; omega))
      have hlf := ownS.frame (w' := ((((wE10.setCell ⟨w.heap.size + 1, 0, none⟩ (.slice z0 d5.fInodes.length zp0)).setCell ⟨w.heap.size + 1, 1, none⟩ (.slice z1 d5.fNames.length zp1)).setCell ⟨w.heap.size + 1, 2, none⟩ (.slice z2 d5.fSafe.length zp2)).setCell ⟨w.heap.size + 1, 3, none⟩ (.int .i64 d5.fNext))) oBy_good hol10 (fun b hb => hT.block b (ownS.lt oBy_good hol10 b hb) (by intro h; simp at h; have := HGL.out b hb; omega))
      have HLF := Hid.mk hlf
      clear hlf
      clear hT
      go_wp2_with fail
      exact bodyPost_ret (v := .tuple #[.agg #[.slice z0 d5.fInodes.length zp0, .slice z1 d5.fNames.length zp1, .slice z2 d5.fSafe.length zp2, .int .i64 d5.fNext], .slice la bo.length lc, .int .i64 0]) (by simp [results, Tryz.results10, go_sem, *]) rfl ⟨[.slice z0 d5.fInodes.length zp0, .slice z1 d5.fNames.length zp1, .slice z2 d5.fSafe.length zp2, .int .i64 d5.fNext], _, _, _, by rw [show mendC m s = 0 from congrArg (fun r => r.2.2) HRES.out], by rw [show mendD m s = d5 from congrArg (fun r => r.1) HRES.out]; exact HOF.out, HNF.out, (fun b hb => by have := HGF.out b hb; omega), by rw [show mendL m s = _ from congrArg (fun r => r.2.1) HRES.out]; exact HLF.out, HNL.out, (fun b hb => by have := HGL.out b hb; omega), HDIS.out, HBF.out⟩
  ·go_simp
   obtain ⟨wE9, hq9⟩ : ∃ q, q = wS.alloc (.cells #[.slice none 0 0, .slice none 0 0, .slice none 0 0, .int .i64 0] 30) := ⟨_, rfl⟩
   have hop9 : Below wS.heap.size wS wE9 := by rw [hq9]; exact (Below.refl _ _).alloc (Nat.le_refl _) _
   have hdwE9 := hdwS.under hop9
   obtain ⟨g9, HG9⟩ : ∃ z, Hid (z = wS.heap.size) := ⟨_, Hid.mk rfl⟩
   have HB9 : Hid (Bw wE9 g9 30 [.slice none 0 0, .slice none 0 0, .slice none 0 0, .int .i64 0]) := by unfold Hid; rw [HG9.out, hq9]; exact Bw.new _ _ _
   have hgp3 : w3.heap.size ≤ g9 := by rw [HG9.out]; exact Nat.le_trans hbS.size (Below.size (show Below wS.heap.size wS wS from Below.refl _ _))
   have hgp : w.heap.size + 2 ≤ g9 := by have := hr3.lt; omega
   rw [← HG9.out]
   rw [← hq9]
   clear hq9
   refine hK.out _ _ (hdwE9) (fun hHeld => ?_)
   clear hK K
   try simp only[Act.put,sa,s0,s1]
   refine arR [5] ?_
   refine (AllReadyH.cons (o := qc7e_10_8_5) rfl (fun K hK => ?_) AllReadyH.nil)
   ·go_simp
    have hfw := (show Below wS.heap.size wS wE9 from bthen (Below.refl _ _) hop9)
    have hb5S : w3.heap.size ≤ wE9.heap.size := Nat.le_trans hbS.size hfw.size
    refine Calls.mono (switch_any _ m mendN (.slice ad pl cd) fo s wE9 (rDisk_good.mono (rDisk_good.below HR.out (bthen hbwS hfw)) (bthen hbwS hfw).size) HW.out (by decide) hw1 (HRB.out _ (bthen hbS hfw)) hfl) ?_
    obtain ⟨d5, hd5⟩ : ∃ d5, d5 = (switchP m mendN fo s).1 := ⟨_, rfl⟩
    obtain ⟨c5, hc5⟩ : ∃ c5, c5 = (switchP m mendN fo s).2 := ⟨_, rfl⟩
    rw [← hd5, ← hc5]
    have HD5 := Hid.mk hd5
    have HC5 := Hid.mk hc5
    clear hd5 hc5
    rintro e wE5 ⟨cs5, F5, rfl, ho5, hN5, hge5, hx5⟩
    obtain ⟨z0, zp0, z1, zp1, z2, zp2, E0, E1, E2, rfl, _, _, _, _, rfl⟩ := oDisk_cells ho5
    have hop5 : Below wE9.heap.size wE9 wE5 := hx5
    have hdwE5 := hdwE9.under hop5
    go_wp2_with fail
    refine hK.out _ _ (hdwE5) (fun hHeld => ?_)
    clear hK K
    try simp only[Act.put,sa,s0,s1]
    refine tq 6 qc7e_10_8_6 42 hHeld ?_; try simp only[Act.put,sa,s0,s1]
    refine tq 7 qc7e_10_8_7 49 hHeld ?_; try simp only[Act.put,sa,s0,s1]
    refine tq 8 qc7e_10_8_8 50 hHeld ?_; try simp only[Act.put,sa,s0,s1]
    refine arR [10] ?_
    refine (AllReadyH.cons (o := qc7e_10_8_10) rfl (fun K hK => ?_) AllReadyH.nil)
    ·skip
     have hb9 := HB9.out.under (show Below wE9.heap.size wE9 wE5 from bthen (Below.refl _ _) hop5)
     have s0 := hb9.cell 0 _ rfl
     have sf0 := hb9.free 0
     have s1 := hb9.cell 1 _ rfl
     have sf1 := hb9.free 1
     have s2 := hb9.cell 2 _ rfl
     have sf2 := hb9.free 2
     have s3 := hb9.cell 3 _ rfl
     have sf3 := hb9.free 3
     have hl9 := hb9.lt
     go_simp
     obtain ⟨wE10, hq10⟩ : ∃ q, q = ((((wE5.setCell ⟨g9, 0, none⟩ (.slice z0 d5.fInodes.length zp0)).setCell ⟨g9, 1, none⟩ (.slice z1 d5.fNames.length zp1)).setCell ⟨g9, 2, none⟩ (.slice z2 d5.fSafe.length zp2)).setCell ⟨g9, 3, none⟩ (.int .i64 d5.fNext)) := ⟨_, rfl⟩
     have hT10 : Turn [g9] wE5 wE10 := by rw [hq10]; exact turn4 _ _ _ _ _ _
     have hbx : Bw wE10 g9 30 [.slice z0 d5.fInodes.length zp0, .slice z1 d5.fNames.length zp1, .slice z2 d5.fSafe.length zp2, .int .i64 d5.fNext] := by rw [hq10]; exact hb9.set4 rfl _ _ _ _
     have hdwE10 : Bw wE10 w.heap.size 30 [.slice (some ⟨bi, oi, none⟩) m.fInodes.length c0, .slice a1 m.fNames.length c1, .slice a2 m.fSafe.length c2, .int .i64 m.fNext] := hdwE5.turn hT10 (by simp; omega)
     have hfp := (show Below wS.heap.size wS wE5 from bthen (bthen (Below.refl _ _) hop9) hop5)
     have hpS := (show Below wE5.heap.size wE5 wE5 from Below.refl _ _)
     rw [← hq10]
     clear hq10 hb9 s0 s1 s2 s3 sf0 sf1 sf2 sf3
     refine hK.out _ _ (hdwE10) (fun hHeld => ?_)
     clear hK K
     try simp only[Act.put,sa,s0,s1]
     refine tq 11 qc7e_10_8_11 8 hHeld ?_; try simp only[Act.put,sa,s0,s1]
     refine wpAnyH_done (by kernel_rfl) ?_ _
     have HGE5 : Hid (∀ b, b ∈ E0 ++ E1 ++ E2 ++ [] → w3.heap.size ≤ b) := fun b hb => by have h1 := hge5 b hb; have h2 := hb5S; omega
     have hgne : ∀ b, b ∈ E0 ++ E1 ++ E2 ++ [] → b ≠ g9 := fun b hb h => by have h1 := hge5 b hb; have h2 := oDisk_good.lt ho5 b hb; have h3 := HB9.out.lt; have h4 := HG9.out; omega
     have hbp := bthen hbS hfp
     have HB10 : Below w.heap.size w wE10 := (bthen hb3 hbp).trans (hT10.below (fun k hk => by simp at hk; omega) (bthen hb3 hbp).size)
     have hr10 : Bw wE10 (w.heap.size + 1) 30 [.slice none 0 0, .slice none 0 0, .slice none 0 0, .int .i64 0] := (hr3.under hbp).turn hT10 (by simp; omega)
     have hol10 : ownS 1 62 oBy wE10 (.slice la bo.length lc) bo FL := ownS.frame oBy_good (ownS.frame oBy_good HOL.out (fun b hb => hbp.block b (HLL.out b hb))) (fun b hb => hT10.block b (by have := HLL.out b hb; have := hbp.size; omega) (by intro h; simp at h; have := HLL.out b hb; omega))
     have ho510 : oDisk wE10 [.slice z0 d5.fInodes.length zp0, .slice z1 d5.fNames.length zp1, .slice z2 d5.fSafe.length zp2, .int .i64 d5.fNext] d5 (E0 ++ E1 ++ E2 ++ []) := oDisk_good.frame (oDisk_good.frame ho5 (fun b hb => hpS.block b (oDisk_good.lt ho5 b hb))) (fun b hb => hT10.block b (by have := oDisk_good.lt ho5 b hb; have := hpS.size; omega) (by intro h; simp at h; exact hgne b hb h))
     by_cases hcz : c5 = 0
     rotate_left
     ·have HRES : Hid (mendR m s = (m, [], c5)) := by show _ = _; rw [HBD2.out (by rw [← HC5.out]; exact hcz), ← HC5.out]
      have hczd : decide (c5 = 0) = false := decide_eq_false hcz
      clear HGD2 HBD2 hol10 ho510
      obtain ⟨w6, hw6⟩ : ∃ w6, w6 = wE10 := ⟨_, rfl⟩
      rw [← hw6] at HB10 hr10 hdwE10 ⊢
      clear hw6
      have hdl := hdwE10.lt
      have x0 := hdwE10.cell 0 _ rfl
      have x1 := hdwE10.cell 1 _ rfl
      have x2 := hdwE10.cell 2 _ rfl
      have x3 := hdwE10.cell 3 _ rfl
      go_wp2_with fail
      refine (copyDisk_any _ m w6 (rDisk_good.mono (rDisk_good.below HR.out HB10) HB10.size) HW.out).mono ?_
      rintro e w7 ⟨cs7, F7, rfl, ho7, hN7, hge7, hx7⟩
      obtain ⟨q0, qp0, q1, qp1, q2, qp2, E0, E1, E2, rfl, _, _, _, _, rfl⟩ := oDisk_cells ho7
      have hr7 := hr10.under hx7
      have hz7 := hx7.size
      have hzz := hr10.lt
      have hgF : ∀ b, b ∈ E0 ++ E1 ++ E2 ++ [] → w.heap.size + 2 ≤ b := fun b hb => by have := hge7 b hb; omega
      have HGF := Hid.mk hgF
      have HNF := Hid.mk hN7
      have u0 : w7.cell? ⟨w.heap.size + 1, 0, none⟩ = some (.slice none 0 0) := (hr7).cell 0 _ rfl
      have uf0 : w7.frozen? ⟨w.heap.size + 1, 0, none⟩ = false := (hr7).free 0
      have u1 : w7.cell? ⟨w.heap.size + 1, 1, none⟩ = some (.slice none 0 0) := (hr7).cell 1 _ rfl
      have uf1 : w7.frozen? ⟨w.heap.size + 1, 1, none⟩ = false := (hr7).free 1
      have u2 : w7.cell? ⟨w.heap.size + 1, 2, none⟩ = some (.slice none 0 0) := (hr7).cell 2 _ rfl
      have uf2 : w7.frozen? ⟨w.heap.size + 1, 2, none⟩ = false := (hr7).free 2
      have u3 : w7.cell? ⟨w.heap.size + 1, 3, none⟩ = some (.int .i64 0) := (hr7).cell 3 _ rfl
      have uf3 : w7.frozen? ⟨w.heap.size + 1, 3, none⟩ = false := (hr7).free 3
      have hul := hr7.lt
      have hT := turn4 w7 (w.heap.size + 1) (.slice q0 m.fInodes.length qp0) (.slice q1 m.fNames.length qp1) (.slice q2 m.fSafe.length qp2) (.int .i64 m.fNext)
      have HBF : Hid (Below w.heap.size w ((((w7.setCell ⟨w.heap.size + 1, 0, none⟩ (.slice q0 m.fInodes.length qp0)).setCell ⟨w.heap.size + 1, 1, none⟩ (.slice q1 m.fNames.length qp1)).setCell ⟨w.heap.size + 1, 2, none⟩ (.slice q2 m.fSafe.length qp2)).setCell ⟨w.heap.size + 1, 3, none⟩ (.int .i64 m.fNext))) := (bthen HB10 hx7).trans (hT.below (fun k hk => by simp at hk; omega) (bthen HB10 hx7).size)
      have HOF : Hid (oDisk ((((w7.setCell ⟨w.heap.size + 1, 0, none⟩ (.slice q0 m.fInodes.length qp0)).setCell ⟨w.heap.size + 1, 1, none⟩ (.slice q1 m.fNames.length qp1)).setCell ⟨w.heap.size + 1, 2, none⟩ (.slice q2 m.fSafe.length qp2)).setCell ⟨w.heap.size + 1, 3, none⟩ (.int .i64 m.fNext)) [.slice q0 m.fInodes.length qp0, .slice q1 m.fNames.length qp1, .slice q2 m.fSafe.length qp2, .int .i64 m.fNext] m _) := oDisk_good.frame ho7 (fun b hb => hT.block b (oDisk_good.lt ho7 b hb) (by intro h; simp at h; have := hgF b hb; omega))
      have HLF : Hid (ownS 1 62 oBy ((((w7.setCell ⟨w.heap.size + 1, 0, none⟩ (.slice q0 m.fInodes.length qp0)).setCell ⟨w.heap.size + 1, 1, none⟩ (.slice q1 m.fNames.length qp1)).setCell ⟨w.heap.size + 1, 2, none⟩ (.slice q2 m.fSafe.length qp2)).setCell ⟨w.heap.size + 1, 3, none⟩ (.int .i64 m.fNext)) (.slice none 0 0) [] []) := .inl ⟨rfl, rfl, rfl⟩
      clear hT
      go_wp2_with fail
      exact bodyPost_ret (v := .tuple #[.agg #[.slice q0 m.fInodes.length qp0, .slice q1 m.fNames.length qp1, .slice q2 m.fSafe.length qp2, .int .i64 m.fNext], .slice none 0 0, .int .i64 c5]) (by simp [results, Tryz.results10, go_sem, *]) rfl ⟨[.slice q0 m.fInodes.length qp0, .slice q1 m.fNames.length qp1, .slice q2 m.fSafe.length qp2, .int .i64 m.fNext], _, _, _, by rw [show mendC m s = c5 from congrArg (fun r => r.2.2) HRES.out], by rw [show mendD m s = m from congrArg (fun r => r.1) HRES.out]; exact HOF.out, HNF.out, (fun b hb => by have := HGF.out b hb; omega), by rw [show mendL m s = _ from congrArg (fun r => r.2.1) HRES.out]; exact HLF.out, List.nodup_nil, (fun b hb => by cases hb), (fun b _ hb => by cases hb), HBF.out⟩
     ·have HRES : Hid (mendR m s = (d5, bo, 0)) := by show _ = _; rw [HGD2.out (by rw [← HC5.out]; exact hcz), ← HD5.out]
      clear HGD2 HBD2
      subst hcz
      have u0 : wE10.cell? ⟨w.heap.size + 1, 0, none⟩ = some (.slice none 0 0) := (hr10).cell 0 _ rfl
      have uf0 : wE10.frozen? ⟨w.heap.size + 1, 0, none⟩ = false := (hr10).free 0
      have u1 : wE10.cell? ⟨w.heap.size + 1, 1, none⟩ = some (.slice none 0 0) := (hr10).cell 1 _ rfl
      have uf1 : wE10.frozen? ⟨w.heap.size + 1, 1, none⟩ = false := (hr10).free 1
      have u2 : wE10.cell? ⟨w.heap.size + 1, 2, none⟩ = some (.slice none 0 0) := (hr10).cell 2 _ rfl
      have uf2 : wE10.frozen? ⟨w.heap.size + 1, 2, none⟩ = false := (hr10).free 2
      have u3 : wE10.cell? ⟨w.heap.size + 1, 3, none⟩ = some (.int .i64 0) := (hr10).cell 3 _ rfl
      have uf3 : wE10.frozen? ⟨w.heap.size + 1, 3, none⟩ = false := (hr10).free 3
      have hul := hr10.lt
      have b0 := hbx.cell 0 _ rfl
      have b1 := hbx.cell 1 _ rfl
      have b2 := hbx.cell 2 _ rfl
      have b3 := hbx.cell 3 _ rfl
      have hxl := hbx.lt
      have hgF : ∀ b, b ∈ E0 ++ E1 ++ E2 ++ [] → w.heap.size + 2 ≤ b := fun b hb => by have := HGE5.out b hb; omega
      have HGF := Hid.mk hgF
      have HNF := Hid.mk hN5
      have HDIS : Hid (∀ b, b ∈ E0 ++ E1 ++ E2 ++ [] → b ∉ FL) := fun b hb hb2 => by have h1 := HGE5.out b hb; have h2 := HLL.out b hb2; omega
      have hT := turn4 wE10 (w.heap.size + 1) (.slice z0 d5.fInodes.length zp0) (.slice z1 d5.fNames.length zp1) (.slice z2 d5.fSafe.length zp2) (.int .i64 d5.fNext)
      have HBF : Hid (Below w.heap.size w ((((wE10.setCell ⟨w.heap.size + 1, 0, none⟩ (.slice z0 d5.fInodes.length zp0)).setCell ⟨w.heap.size + 1, 1, none⟩ (.slice z1 d5.fNames.length zp1)).setCell ⟨w.heap.size + 1, 2, none⟩ (.slice z2 d5.fSafe.length zp2)).setCell ⟨w.heap.size + 1, 3, none⟩ (.int .i64 d5.fNext))) := HB10.trans (hT.below (fun k hk => by simp at hk; omega) HB10.size)
      have HOF : Hid (oDisk ((((wE10.setCell ⟨w.heap.size + 1, 0, none⟩ (.slice z0 d5.fInodes.length zp0)).setCell ⟨w.heap.size + 1, 1, none⟩ (.slice z1 d5.fNames.length zp1)).setCell ⟨w.heap.size + 1, 2, none⟩ (.slice z2 d5.fSafe.length zp2)).setCell ⟨w.heap.size + 1, 3, none⟩ (.int .i64 d5.fNext)) [.slice z0 d5.fInodes.length zp0, .slice z1 d5.fNames.length zp1, .slice z2 d5.fSafe.length zp2, .int .i64 d5.fNext] d5 _) := oDisk_good.frame ho510 (fun b hb => hT.block b (oDisk_good.lt ho510 b hb) (by intro h; simp at h; have := hgF b hb; omega))
      have hlf := ownS.frame (w' := ((((wE10.setCell ⟨w.heap.size + 1, 0, none⟩ (.slice z0 d5.fInodes.length zp0)).setCell ⟨w.heap.size + 1, 1, none⟩ (.slice z1 d5.fNames.length zp1)).setCell ⟨w.heap.size + 1, 2, none⟩ (.slice z2 d5.fSafe.length zp2)).setCell ⟨w.heap.size + 1, 3, none⟩ (.int .i64 d5.fNext))) oBy_good hol10 (fun b hb => hT.block b (ownS.lt oBy_good hol10 b hb) (by intro h; simp at h; have := HGL.out b hb; omega))
      have HLF := Hid.mk hlf
      clear hlf
      clear hT
      go_wp2_with fail
      exact bodyPost_ret (v := .tuple #[.agg #[.slice z0 d5.fInodes.length zp0, .slice z1 d5.fNames.length zp1, .slice z2 d5.fSafe.length zp2, .int .i64 d5.fNext], .slice la bo.length lc, .int .i64 0]) (by simp [results, Tryz.results10, go_sem, *]) rfl ⟨[.slice z0 d5.fInodes.length zp0, .slice z1 d5.fNames.length zp1, .slice z2 d5.fSafe.length zp2, .int .i64 d5.fNext], _, _, _, by rw [show mendC m s = 0 from congrArg (fun r => r.2.2) HRES.out], by rw [show mendD m s = d5 from congrArg (fun r => r.1) HRES.out]; exact HOF.out, HNF.out, (fun b hb => by have := HGF.out b hb; omega), by rw [show mendL m s = _ from congrArg (fun r => r.2.1) HRES.out]; exact HLF.out, HNL.out, (fun b hb => by have := HGL.out b hb; omega), HDIS.out, HBF.out⟩
end Go.Proofs.YtolciaheoanlbaaGreatDoor

/-
  The records of a log: what both sides answer, and how great it can be.
-/
namespace Go.Proofs.YtolciaheoanlbaaGreatDoor
open Go.RowKit
set_option linter.unusedVariables false
set_option linter.unusedSimpArgs false
set_option maxRecDepth 10000
theorem tcntBs_le (l : List (List Int)) : sumW cntBy l ≤ wBs l := by
 have : sumW cntBy l = sumW List.length l := rfl
 unfold wBs
 omega
end Go.Proofs.YtolciaheoanlbaaGreatDoor

/-
  A log that is mended: how great the answer can be.
-/
namespace Go.Proofs.YtolciaheoanlbaaGreatDoor
open Go.RowKit
set_option linter.unusedVariables false
set_option linter.unusedSimpArgs false
theorem rDisk_bytes {B : Nat} {w : World} {cs : List Value} {m : MDisk} (h : rDisk B w cs m) : ∀ x, x ∈ m.fInodes → BytesOk x.fData := by
 obtain ⟨a0, c0, a1, c1, a2, c2, rfl, h0, _⟩ := h
 intro x hx
 obtain ⟨j, hj, rfl⟩ := List.mem_iff_getElem.1 hx
 obtain ⟨_, _, _, _, _, _, _, _, _, _, _, hl, _⟩ := h0.2.2 j hj
 exact hl.2.2.2
theorem boundMend_1 (m : MDisk) (s : ByteArray) (hbo : ∀ x, x ∈ m.fInodes → BytesOk x.fData) (hw : wDisk m ≤ 1048576) (hw1 : s.size ≤ 1048576) : wBs (mendL m s) ≤ 1099511627776 := by
 have hnil : wBs ([] : List (List Int)) ≤ 1099511627776 := by simp [wBs, sumW]
 by_cases hc : callP m s = 0
 rotate_left
 ·rw [show mendL m s = [] from congrArg (fun r => r.2.1) (mend_no hc)]
  exact hnil
 obtain ⟨x, hx, _, hd⟩ := data_has hc
 have hb : BytesOk (dataOf m s) := by rw [hd]; exact hbo x hx
 have hl : (dataOf m s).length ≤ 1048576 := by
  obtain ⟨j, hj, rfl⟩ := List.mem_iff_getElem.1 hx
  have h1 := sumW_le (f := wInode) hj
  have h2 : wInode m.fInodes[j] = m.fInodes[j].fData.length := rfl
  rw [wDisk_eq] at hw
  rw [hd]
  omega
 have h := boundRecords_0 (dataOf m s) hb hl
 unfold mendL mendR
 split
 ·exact hnil
 ·split
  ·exact h
  ·split
   ·exact h
   ·exact hnil
end Go.Proofs.YtolciaheoanlbaaGreatDoor

/-
  Arguments as the form reads them, opened.
-/
namespace Go.Proofs.YtolciaheoanlbaaGreatDoor
open Go.RowKit
set_option linter.unusedVariables false
set_option maxRecDepth 10000
section
variable {H : Type} {enc : TypeId × Value → H} {w : World} {base fuel : Nat} {spare : Nat → Bool} {held : Bool} {cs : List Value} {x : DataW H × List MemPlace}
theorem openBytes {t e : TypeId} (ht : Tryz.prog.underlying t = some (.slice e)) (he : Tryz.prog.underlying e = some (.int .u8)) (hc : Tryz.prog.cellsOf e = 1) (h : DataW.trod enc Tryz.prog w base spare held fuel t cs = some x) :
  ∃ a c, ∃ zs : List Int, cs = [.slice a zs.length c] ∧ LeafB w.heap.size w a c zs := by
 rcases Go.ChangeShapes.open_ints ht he hc h with ⟨rfl, _⟩ | ⟨a, len, cap, zs, rfl, _, hl, hm, hz, _, hcell, hwf⟩
 ·exact ⟨none, 0, [], rfl, by simp, by omega, fun j hj => by simp at hj, fun z hz => by cases hz⟩
 ·have hzl : len ≤ zs.length := by rw [hz]; split <;> omega
  refine ⟨some a, cap, zs.take len, by simp [hzl], by simp; omega, by simpa [maxLen] using hm, ?_, ?_⟩
  ·intro j hj
   have hj' : j < len := by simp at hj; omega
   obtain ⟨b, off, rfl, hcc⟩ := ints_at hcell (by omega)
   have hcj := hcc j (by omega)
   refine ⟨b, off, rfl, World.block_lt_of_cell? _ _ hcj, ?_⟩
   rw [hcj]
   congr 2
   simp only [List.getD_eq_getElem?_getD, List.getElem?_take, hj', if_true]
  ·intro z hz'
   have := hwf z (List.mem_of_mem_take hz')
   simpa [Lit.wf, IntKind.min, IntKind.max, IntKind.signed, IntKind.bits] using this
theorem openList {α : Type} {size : Nat} {R : Rep α} {t e : TypeId} (ht : Tryz.prog.underlying t = some (.slice e)) (hs : Tryz.prog.cellsOf e = size) (h0 : 0 < size)
  (hR : ∀ {fuel : Nat} {cs : List Value} {x : DataW H × List MemPlace}, DataW.trod enc Tryz.prog w base spare held fuel e cs = some x → ∃ m, R w.heap.size w cs m)
  (h : DataW.trod enc Tryz.prog w base spare held fuel t cs = some x) : ∃ a c, ∃ l : List α, cs = [.slice a l.length c] ∧ LeafL size R w.heap.size w a c l := by
 rcases Go.Deep.open_slice ht h with ⟨rfl, _⟩ | ⟨a, len, cap, m, n, D, Pl, rfl, _, hl, hm, hmm, _, hel⟩
 ·exact ⟨none, 0, [], rfl, by simp, by omega, fun j hj => by simp at hj⟩
 ·have hlm : len ≤ m := by rw [hmm]; split <;> omega
  have hex : ∀ i, i < len → ∃ y : α, ∃ cs', w.cells? base (a.add (i * size)) size = some cs' ∧ R w.heap.size w cs' y := by
   intro i hi
   obtain ⟨cs', h1, h2⟩ := hel i (by omega)
   rw [hs] at h1
   obtain ⟨y, hy⟩ := hR h2
   exact ⟨y, cs', h1, hy⟩
  have hli : ∀ k, k ≤ len → ∃ l : List α, l.length = k ∧ ∀ j, (hj : j < l.length) → ∃ cs', w.cells? base (a.add (j * size)) size = some cs' ∧ R w.heap.size w cs' l[j] := by
   intro k
   induction k with
   | zero => intro _; exact ⟨[], rfl, fun j hj => by simp at hj⟩
   | succ k ih =>
    intro hk
    obtain ⟨l, hl1, hl2⟩ := ih (by omega)
    obtain ⟨y, cs', hy1, hy2⟩ := hex k (by omega)
    refine ⟨l ++ [y], by simp [hl1], fun j hj => ?_⟩
    by_cases hjl : j < l.length
    ·rw [List.getElem_append_left hjl]; exact hl2 j hjl
    ·have hjk : j = k := by simp at hj; omega
     subst hjk
     rw [List.getElem_append_right (by omega)]
     simp only [hl1, Nat.sub_self, List.getElem_cons_zero]
     exact ⟨cs', hy1, hy2⟩
  obtain ⟨l, hl1, hl2⟩ := hli len (Nat.le_refl _)
  subst hl1
  refine ⟨some a, cap, l, rfl, hl, by simpa [maxLen] using hm, fun j hj => ?_⟩
  obtain ⟨cs', h1, h2⟩ := hl2 j hj
  obtain ⟨_, hlen, hcc⟩ := World.cells?_some h1
  obtain ⟨b, off, spot⟩ := a
  have hu := hcc 0 h0
  have hsome : ∃ u, cs'[0]? = some u := ⟨_, List.getElem?_eq_getElem (by omega)⟩
  obtain ⟨u, hu0⟩ := hsome
  rw [hu0] at hu
  have hsp : spot = none := by
   obtain ⟨cs0, h10, _⟩ := hl2 0 (by omega)
   obtain ⟨_, hlen0, hcc0⟩ := World.cells?_some h10
   have hu' := hcc0 0 h0
   rw [List.getElem?_eq_getElem (by omega)] at hu'
   simpa [Addr.add] using World.cell?_spot hu'
  subst hsp
  have hadd : ∀ i, ((⟨b, off, none⟩ : Addr).add (j * size)).add i = ⟨b, off + j * size + i, none⟩ := fun i => by rw [Addr.add_lit, Addr.add_lit]
  rw [hadd] at hu
  refine ⟨b, off, rfl, World.block_lt_of_cell? _ _ hu, cs', hlen, fun i v hv => ?_, h2⟩
  have hi : i < size := by
   rcases Nat.lt_or_ge i cs'.length with hh | hh
   ·omega
   ·rw [List.getElem?_eq_none hh] at hv; cases hv
  rw [← hadd, hcc i hi, hv]
theorem openInode (h : DataW.trod enc Tryz.prog w base spare held fuel 101 cs = some x) : ∃ m, rInode w.heap.size w cs m := by
 obtain ⟨xs, n, _, _, hl, hlen, hf⟩ := DataW.trod_struct Tryz.underlying101 h
 have hl' : cs.length = 3 := hl.trans (by kernel_rfl)
 obtain ⟨z0, z1, z2, rfl⟩ : ∃ z0 z1 z2, cs = [z0, z1, z2] := by
  match cs, hl' with
  | [z0, z1, z2], _ => exact ⟨z0, z1, z2, rfl⟩
 obtain ⟨y0, hy0⟩ : ∃ y, xs[0]? = some y := ⟨_, List.getElem?_eq_getElem (by rw [hlen]; decide)⟩
 have e0 := hf 0 _ rfl
 rw [hy0] at e0
 have d0 : DataW.trod enc Tryz.prog w base spare held n 3 [z0] = some y0 := e0
 obtain ⟨m0, he0, _, hw0⟩ := DataW.trod_int Tryz.underlying3 d0
 simp only [List.cons.injEq, and_true] at he0
 subst he0
 obtain ⟨y1, hy1⟩ : ∃ y, xs[1]? = some y := ⟨_, List.getElem?_eq_getElem (by rw [hlen]; decide)⟩
 have e1 := hf 1 _ rfl
 rw [hy1] at e1
 have d1 : DataW.trod enc Tryz.prog w base spare held n 62 [z1] = some y1 := e1
 obtain ⟨a1, c1, m1, he1, hw1⟩ := openBytes Tryz.underlying62 Tryz.underlying5 (by kernel_rfl) d1
 simp only [List.cons.injEq, and_true] at he1
 subst he1
 obtain ⟨y2, hy2⟩ : ∃ y, xs[2]? = some y := ⟨_, List.getElem?_eq_getElem (by rw [hlen]; decide)⟩
 have e2 := hf 2 _ rfl
 rw [hy2] at e2
 have d2 : DataW.trod enc Tryz.prog w base spare held n 3 [z2] = some y2 := e2
 obtain ⟨m2, he2, _, hw2⟩ := DataW.trod_int Tryz.underlying3 d2
 simp only [List.cons.injEq, and_true] at he2
 subst he2
 exact ⟨⟨m0, m1, m2⟩, a1, c1, rfl, hw0, hw1, hw2, trivial⟩
theorem openEntry (h : DataW.trod enc Tryz.prog w base spare held fuel 104 cs = some x) : ∃ m, rEntry w.heap.size w cs m := by
 obtain ⟨xs, n, _, _, hl, hlen, hf⟩ := DataW.trod_struct Tryz.underlying104 h
 have hl' : cs.length = 2 := hl.trans (by kernel_rfl)
 obtain ⟨z0, z1, rfl⟩ : ∃ z0 z1, cs = [z0, z1] := by
  match cs, hl' with
  | [z0, z1], _ => exact ⟨z0, z1, rfl⟩
 obtain ⟨y0, hy0⟩ : ∃ y, xs[0]? = some y := ⟨_, List.getElem?_eq_getElem (by rw [hlen]; decide)⟩
 have e0 := hf 0 _ rfl
 rw [hy0] at e0
 have d0 : DataW.trod enc Tryz.prog w base spare held n 9 [z0] = some y0 := e0
 obtain ⟨m0, he0, _, hw0⟩ := DataW.trod_string Tryz.underlying9 d0
 simp only [List.cons.injEq, and_true] at he0
 subst he0
 obtain ⟨y1, hy1⟩ : ∃ y, xs[1]? = some y := ⟨_, List.getElem?_eq_getElem (by rw [hlen]; decide)⟩
 have e1 := hf 1 _ rfl
 rw [hy1] at e1
 have d1 : DataW.trod enc Tryz.prog w base spare held n 3 [z1] = some y1 := e1
 obtain ⟨m1, he1, _, hw1⟩ := DataW.trod_int Tryz.underlying3 d1
 simp only [List.cons.injEq, and_true] at he1
 subst he1
 exact ⟨⟨m0, m1⟩, rfl, by simpa [maxLen] using hw0, hw1, trivial⟩
theorem openDisk (h : DataW.trod enc Tryz.prog w base spare held fuel 25 cs = some x) : ∃ m, rDisk w.heap.size w cs m := by
 obtain ⟨xs, n, _, _, hl, hlen, hf⟩ := DataW.trod_struct Tryz.underlying25 h
 have hl' : cs.length = 4 := hl.trans (by kernel_rfl)
 obtain ⟨z0, z1, z2, z3, rfl⟩ : ∃ z0 z1 z2 z3, cs = [z0, z1, z2, z3] := by
  match cs, hl' with
  | [z0, z1, z2, z3], _ => exact ⟨z0, z1, z2, z3, rfl⟩
 obtain ⟨y0, hy0⟩ : ∃ y, xs[0]? = some y := ⟨_, List.getElem?_eq_getElem (by rw [hlen]; decide)⟩
 have e0 := hf 0 _ rfl
 rw [hy0] at e0
 have d0 : DataW.trod enc Tryz.prog w base spare held n 22 [z0] = some y0 := e0
 obtain ⟨a0, c0, m0, he0, hw0⟩ := openList (R := rInode) (size := 3) Tryz.underlying22 (by kernel_rfl) (by decide) openInode d0
 simp only [List.cons.injEq, and_true] at he0
 subst he0
 obtain ⟨y1, hy1⟩ : ∃ y, xs[1]? = some y := ⟨_, List.getElem?_eq_getElem (by rw [hlen]; decide)⟩
 have e1 := hf 1 _ rfl
 rw [hy1] at e1
 have d1 : DataW.trod enc Tryz.prog w base spare held n 23 [z1] = some y1 := e1
 obtain ⟨a1, c1, m1, he1, hw1⟩ := openList (R := rEntry) (size := 2) Tryz.underlying23 (by kernel_rfl) (by decide) openEntry d1
 simp only [List.cons.injEq, and_true] at he1
 subst he1
 obtain ⟨y2, hy2⟩ : ∃ y, xs[2]? = some y := ⟨_, List.getElem?_eq_getElem (by rw [hlen]; decide)⟩
 have e2 := hf 2 _ rfl
 rw [hy2] at e2
 have d2 : DataW.trod enc Tryz.prog w base spare held n 23 [z2] = some y2 := e2
 obtain ⟨a2, c2, m2, he2, hw2⟩ := openList (R := rEntry) (size := 2) Tryz.underlying23 (by kernel_rfl) (by decide) openEntry d2
 simp only [List.cons.injEq, and_true] at he2
 subst he2
 obtain ⟨y3, hy3⟩ : ∃ y, xs[3]? = some y := ⟨_, List.getElem?_eq_getElem (by rw [hlen]; decide)⟩
 have e3 := hf 3 _ rfl
 rw [hy3] at e3
 have d3 : DataW.trod enc Tryz.prog w base spare held n 3 [z3] = some y3 := e3
 obtain ⟨m3, he3, _, hw3⟩ := DataW.trod_int Tryz.underlying3 d3
 simp only [List.cons.injEq, and_true] at he3
 subst he3
 exact ⟨⟨m0, m1, m2, m3⟩, a0, c0, a1, c1, a2, c2, rfl, hw0, hw1, hw2, hw3, trivial⟩
end
end Go.Proofs.YtolciaheoanlbaaGreatDoor
