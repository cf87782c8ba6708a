/-
  Part 27 of the texts that the proof leans on.
-/
import Derived.Test.YtegonncmopecnaaGreatDoorMnd0
import Derived.Test.YtegonncmopecnaaGreatDoorMnd24
import Derived.Test.YtegonncmopecnaaGreatDoorMnd25
import Derived.Test.YtegonncmopecnaaGreatDoorMnd10
import Derived.Test.YtegonncmopecnaaGreatDoorMnd1
import Derived.Test.YtegonncmopecnaaGreatDoorMnd22
set_option linter.unusedVariables false
set_option linter.unusedSimpArgs false
set_option maxRecDepth 10000

namespace Go.Proofs.YtegonncmopecnaaGreatDoor
open Go.RowKit
abbrev qc7e_6_8_0 : Oper := ⟨some 43, .load 27 (.tmp 2), 27, "l03_log.go:57", #[], none⟩
abbrev qc7e_6_8_1 : Oper := ⟨some 44, .move (.tmp 9), 22, "l03_log.go:57", #[], none⟩
abbrev qc7e_6_8_2 : Oper := ⟨some 45, .move (.tmp 11), 3, "l03_log.go:57", #[], none⟩
abbrev qc7e_6_8_3 : Oper := ⟨some 46, .slice 22 (.tmp 44) none (some (.tmp 45)) none, 22, "l03_log.go:57", #[⟨1, .data⟩, ⟨2, .data⟩], none⟩
abbrev qc7e_6_8_4 : Oper := ⟨some 47, .move (.tmp 1), 9, "l03_log.go:57", #[], none⟩
abbrev qc7e_6_8_9 : Oper := ⟨some 12, .alloc 27, 0, "l03_log.go:57", #[], none⟩
abbrev qc7e_6_8_5 : Oper := ⟨some 48, .call { callee := .value (.func 19), args := #[.tmp 43, .const (.string { data := #[109, 101, 110, 100] }), .tmp 46, .tmp 47], argTypes := #[27, 9, 22, 9] }, 39, "l03_log.go:57", #[⟨0, .data⟩, ⟨3, .data⟩, ⟨4, .data⟩], none⟩
abbrev qc7e_6_8_6 : Oper := ⟨some 42, .move (.tmp 48), 39, "l03_log.go:57", #[⟨5, .data⟩], none⟩
abbrev qc7e_6_8_7 : Oper := ⟨some 49, .extract (.tmp 42) 0, 27, "l03_log.go:57", #[⟨6, .data⟩], none⟩
abbrev qc7e_6_8_8 : Oper := ⟨some 50, .extract (.tmp 42) 1, 3, "l03_log.go:57", #[⟨6, .data⟩, { on := 10, ground := Ground.gcOnly Departure.lateStores }], none⟩
abbrev qc7e_6_8_10 : Oper := ⟨none, .store 27 (.tmp 12) (.tmp 49), 0, "l03_log.go:57", #[⟨9, .data⟩, ⟨7, .data⟩, ⟨5, .chain⟩, ⟨0, .phase⟩, ⟨1, .phase⟩, ⟨2, .phase⟩, ⟨3, .phase⟩, ⟨4, .phase⟩, ⟨5, .phase⟩, ⟨6, .phase⟩, ⟨7, .phase⟩, { on := 8, ground := Ground.textOnly Departure.lateStores }, ⟨9, .phase⟩], none⟩
abbrev qc7e_6_8_11 : Oper := ⟨some 8, .assign (.tmp 50), 3, "l03_log.go:57", #[⟨8, .data⟩, ⟨10, .chain⟩, ⟨0, .phase⟩, ⟨1, .phase⟩, ⟨2, .phase⟩, ⟨3, .phase⟩, ⟨4, .phase⟩, ⟨5, .phase⟩, ⟨6, .phase⟩, ⟨7, .phase⟩, ⟨8, .phase⟩, ⟨9, .phase⟩, ⟨10, .phase⟩], none⟩
set_option maxHeartbeats 8000000 in
theorem implMend_c (cs : List Value) (m : MDisk) (s : ByteArray) (w : World) (hr : rDisk w.heap.size w cs m) (hs : s.size <= 9223372036854775807) (hw : wDisk m <= 1048576) (hw1 : s.size <= 1048576) (ht : TabAt w) :
  Calls Tryz.prog 6 #[.agg cs.toArray, .string s] w fun e w' => ∃ (cs' : List Value) (F0 : List Nat) (v : Value) (F1 : List Nat), e = .returned (.tuple #[.agg cs'.toArray, v, .int .i64 (mendC m s)]) /\ oDisk w' cs' (mendD m s) F0 /\ F0.Nodup /\ (∀ b, b ∈ F0 -> w.heap.size <= b) /\ ownS 1 22 oBy w' v (mendL m s) F1 /\ F1.Nodup /\ (∀ b, b ∈ F1 -> w.heap.size <= b) /\ (∀ b, b ∈ F0 -> b ∉ F1) /\ Below w.heap.size w w' := by
 have hsz := ht.size
 have HTB := Hm ht
 clear ht
 have hq := hr
 obtain ⟨a0, c0, a1, c1, a2, c2, rfl, hI, hNm, hSf, hnx, _⟩ := hq
 have HI := Hm hI
 have HW := Hm hw
 have HR := Hm hr
 clear hr hI hNm hSf hw
 obtain ⟨wq, hwq⟩ : ∃ wq, wq = (w.alloc (.cells #[.slice a0 m.fInodes.length c0, .slice a1 m.fNames.length c1, .slice a2 m.fSafe.length c2, .int .i64 m.fNext] 27)).alloc (.cells #[.slice none 0 0, .slice none 0 0, .slice none 0 0, .int .i64 0] 27) := ⟨_, rfl⟩
 have hzq : wq.heap.size = w.heap.size + 2 := by rw [hwq]; simp
 have hbW : Below w.heap.size w wq := by rw [hwq]; exact (rB.alloc rN _).alloc (by simp) _
 have hbd : Bw wq w.heap.size 27 [.slice a0 m.fInodes.length c0, .slice a1 m.fNames.length c1, .slice a2 m.fSafe.length c2, .int .i64 m.fNext] := by rw [hwq]; exact (Bw.new _ _ _).alloc _
 have hbr : Bw wq (w.heap.size + 1) 27 [.slice none 0 0, .slice none 0 0, .slice none 0 0, .int .i64 0] := by rw [hwq]; exact Bw.new' _ _ _ (by simp)
 go_enter Tryz.func6, Tryz.ntmps6
 go_wp2_with fail
 rw [<- hwq]
 clear hwq
 refine (findFile_any _ m s wq (rDisk_good.mono (rDisk_good.below HR.out hbW) hbW.size) HW.out hs).mono ?_
 rintro e w1 ⟨p, rfl, hfile, hx1⟩
 have hb1 := bthen hbW hx1
 have hd1 := hbd.under hx1
 have hr1 := hbr.under hx1
 have hz1 := hx1.size
 by_cases hc : callP m s = 0
 rotate_left
 ·have HRES := Hm (mend_no hc)
  have hwf : (Lit.int .i64 (callP m s)).wf = true := by rcases call_which m s with h | h | h <;> rw [h] <;> rfl
  generalize callP m s = c at *
  have hcd : decide (c = 0) = false := decide_eq_false hc
  clear hfile
  have hdl := hd1.lt
  obtain ⟨x0, x1, x2, x3⟩ := hd1.c4
  go_wp2_with fail
  refine (copyDisk_any _ m w1 (rDisk_good.mono (rDisk_good.below HR.out hb1) hb1.size) HW.out).mono ?_
  rintro e w7 ⟨cs7, F7, rfl, ho7, hN7, hge7, hx7⟩
  obtain ⟨q0, qp0, q1, qp1, q2, qp2, E0, E1, E2, rfl, _, _, _, _, rfl⟩ := oDisk_cells ho7
  have hr7 := hr1.under hx7
  have hz7 := hx7.size
  have hzz := hr1.lt
  have hgF : ∀ b, b ∈ E0 ++ E1 ++ E2 ++ [] -> w.heap.size + 2 <= b := fun b hb => by have := hge7 b hb; omega
  have HGF := Hm hgF
  have HNF := Hm hN7
  have u0 : w7.cell? ⟨w.heap.size + 1, 0, none⟩ = some (.slice none 0 0) := (hr7).cell 0 _ rfl
  have uf0 : w7.frozen? ⟨w.heap.size + 1, 0, none⟩ = false := (hr7).free 0
  have u1 : w7.cell? ⟨w.heap.size + 1, 1, none⟩ = some (.slice none 0 0) := (hr7).cell 1 _ rfl
  have uf1 : w7.frozen? ⟨w.heap.size + 1, 1, none⟩ = false := (hr7).free 1
  have u2 : w7.cell? ⟨w.heap.size + 1, 2, none⟩ = some (.slice none 0 0) := (hr7).cell 2 _ rfl
  have uf2 : w7.frozen? ⟨w.heap.size + 1, 2, none⟩ = false := (hr7).free 2
  have u3 : w7.cell? ⟨w.heap.size + 1, 3, none⟩ = some (.int .i64 0) := (hr7).cell 3 _ rfl
  have uf3 : w7.frozen? ⟨w.heap.size + 1, 3, none⟩ = false := (hr7).free 3
  have hul := hr7.lt
  have hT := turn4 w7 (w.heap.size + 1) (.slice q0 m.fInodes.length qp0) (.slice q1 m.fNames.length qp1) (.slice q2 m.fSafe.length qp2) (.int .i64 m.fNext)
  have HBF : Hid (Below w.heap.size w ((((w7.setCell ⟨w.heap.size + 1, 0, none⟩ (.slice q0 m.fInodes.length qp0)).setCell ⟨w.heap.size + 1, 1, none⟩ (.slice q1 m.fNames.length qp1)).setCell ⟨w.heap.size + 1, 2, none⟩ (.slice q2 m.fSafe.length qp2)).setCell ⟨w.heap.size + 1, 3, none⟩ (.int .i64 m.fNext))) := (bthen hb1 hx7).trans (hT.below (fun k hk => by simp at hk; omega) (bthen hb1 hx7).size)
  have HOF : Hid (oDisk ((((w7.setCell ⟨w.heap.size + 1, 0, none⟩ (.slice q0 m.fInodes.length qp0)).setCell ⟨w.heap.size + 1, 1, none⟩ (.slice q1 m.fNames.length qp1)).setCell ⟨w.heap.size + 1, 2, none⟩ (.slice q2 m.fSafe.length qp2)).setCell ⟨w.heap.size + 1, 3, none⟩ (.int .i64 m.fNext)) [.slice q0 m.fInodes.length qp0, .slice q1 m.fNames.length qp1, .slice q2 m.fSafe.length qp2, .int .i64 m.fNext] m _) := oDisk_good.frame ho7 (fun b hb => hT.block b (oDisk_good.lt ho7 b hb) (by intro h; simp at h; have := hgF b hb; omega))
  have HLF : Hid (ownS 1 22 oBy ((((w7.setCell ⟨w.heap.size + 1, 0, none⟩ (.slice q0 m.fInodes.length qp0)).setCell ⟨w.heap.size + 1, 1, none⟩ (.slice q1 m.fNames.length qp1)).setCell ⟨w.heap.size + 1, 2, none⟩ (.slice q2 m.fSafe.length qp2)).setCell ⟨w.heap.size + 1, 3, none⟩ (.int .i64 m.fNext)) (.slice none 0 0) [] []) := .inl ⟨rfl, rfl, rfl⟩
  clear hT
  go_wp2_with fail
  exact bodyPost_ret (v := .tuple #[.agg #[.slice q0 m.fInodes.length qp0, .slice q1 m.fNames.length qp1, .slice q2 m.fSafe.length qp2, .int .i64 m.fNext], .slice none 0 0, .int .i64 c]) (by simp [results, Tryz.results6, go_sem, *]) rfl ⟨[.slice q0 m.fInodes.length qp0, .slice q1 m.fNames.length qp1, .slice q2 m.fSafe.length qp2, .int .i64 m.fNext], _, _, _, by rw [show mendC m s = c from congrArg (fun r => r.2.2) HRES.out], by rw [show mendD m s = m from congrArg (fun r => r.1) HRES.out]; exact HOF.out, HNF.out, (fun b hb => by have := HGF.out b hb; omega), by rw [show mendL m s = _ from congrArg (fun r => r.2.1) HRES.out]; exact HLF.out, List.nodup_nil, (fun b hb => by cases hb), (fun b _ hb => by cases hb), HBF.out⟩
 have HC := Hm hc
 rw [hc]
 obtain ⟨hp, hid⟩ := hfile hc
 have hdat := data_eq hc (List.getElem_mem hp) hid
 obtain ⟨x0, x1, x2, x3⟩ := hd1.c4
 have hdl := hd1.lt
 obtain ⟨bi, oi, rfl, hBi, csi, _, hci, ad, cd, rfl, _, hlb, _⟩ := (HI.out.below rInode_good hb1).2.2 p hp
 have k1 := hci 1 _ rfl
 rw [<- hdat] at k1 hlb
 have hlen : p < m.fInodes.length := hp
 have hil : m.fInodes.length <= 1048576 := by have := HW.out; rw [wDisk_eq] at this; omega
 have HLB : Hid (LeafB w1.heap.size w1 ad cd (dataOf m s)) := LeafB.mono hlb hb1.size
 obtain ⟨w2, hw2⟩ : ∃ w2, w2 = w1 := ⟨_, rfl⟩
 have hd2 := hd1
 have hr2 := hr1
 have hb2 := hb1
 clear hw2 hci hlb hid hdat hbd hbr
 have hdl2 : (dataOf m s).length <= 1048576 := by
  have hok := ok_weight (call_good HC.out).1
  obtain ⟨hk, hid⟩ := file_at HC.out
  have h1 := sumW_le (f := wInode) hk
  have h2 : dataOf m s = m.fInodes[fileAt m s].fData := by unfold dataOf; have h3 : placeOf m.fInodes (idOf m.fNames s) = fileAt m s := rfl; rw [h3, List.getElem?_eq_getElem hk]; rfl
  rw [h2]
  have h4 : wInode m.fInodes[fileAt m s] = m.fInodes[fileAt m s].fData.length := rfl
  omega
 have HWH := Hm (fun h => mend_whole HC.out h)
 have HGD := Hm (fun h => mend_good HC.out h)
 have HBD := Hm (fun h => mend_bad HC.out h)
 have HFO : Hid (foreP m s = (dataOf m s).take (recsP (dataOf m s)).2.toNat) := rfl
 have HPB := Hm (recs_place HLB.out.2.2.2)
 go_wp2_with fail
 have hW := hb2
 refine (implRecords_any ad (dataOf m s).length cd (dataOf m s) w1 rfl hdl2 HLB.out.1 HLB.out.2.2.2 HLB.out.2.2.1 (HTB.out.below hb2 hsz)).mono ?_
 rintro e w3 ⟨vl, FL, rfl, hol, hNL, hgl, hx3⟩
 obtain ⟨dt, hdt⟩ : ∃ dt, dt = dataOf m s := ⟨_, rfl⟩
 rw [<- hdt] at hol HWH HGD HBD HFO HPB HLB hdl2 ⊢
 have HDT := Hm hdt
 clear hdt
 obtain ⟨bo, hbo⟩ : ∃ bo, bo = (recsP dt).1 := ⟨_, rfl⟩
 obtain ⟨pl, hpl⟩ : ∃ pl : Nat, (recsP dt).2 = (pl : Int) := ⟨(recsP dt).2.toNat, by have := HPB.out; omega⟩
 rw [<- hbo] at hol HWH HGD
 rw [hpl] at HWH HGD HBD HFO HPB ⊢
 clear hbo hpl
 obtain ⟨la, lc, rfl, _⟩ := rdBs_own hol
 have hpl2 : pl <= dt.length := by have := HPB.out; omega
 have hb3 := bthen hb2 hx3
 have hd3 := hd2.under hx3
 have hr3 := hr2.under hx3
 have hz3 := hx3.size
 have hzz2 := hr2.lt
 have HGL : Hid (∀ b, b ∈ FL -> w.heap.size + 2 <= b) := fun b hb => by have := hgl b hb; omega
 have HNL := Hm hNL
 have HLL : Hid (∀ b, b ∈ FL -> b < w3.heap.size) := fun b hb => ownS.lt oBy_good hol b hb
 have HOL := Hm hol
 clear hol hNL hgl
 by_cases hpe : (pl : Int) = (dt.length : Int)
 ·have HRES := Hm (HWH.out hpe)
  have hpd : decide ((pl : Int) = (dt.length : Int)) = true := decide_eq_true hpe
  have hpn : pl = dt.length := by omega
  subst hpn
  have hdl := hd3.lt
  obtain ⟨x0, x1, x2, x3⟩ := hd3.c4
  go_wp2_with fail
  refine (copyDisk_any _ m w3 (rDisk_good.mono (rDisk_good.below HR.out hb3) hb3.size) HW.out).mono ?_
  rintro e w7 ⟨cs7, F7, rfl, ho7, hN7, hge7, hx7⟩
  obtain ⟨q0, qp0, q1, qp1, q2, qp2, E0, E1, E2, rfl, _, _, _, _, rfl⟩ := oDisk_cells ho7
  have hr7 := hr3.under hx7
  have hz7 := hx7.size
  have hzz := hr3.lt
  have hgF : ∀ b, b ∈ E0 ++ E1 ++ E2 ++ [] -> w.heap.size + 2 <= b := fun b hb => by have := hge7 b hb; omega
  have HGF := Hm hgF
  have HNF := Hm hN7
  have hl7 := ownS.frame oBy_good HOL.out (fun b hb => hx7.block b (ownS.lt oBy_good HOL.out b hb))
  have HDIS : Hid (∀ b, b ∈ E0 ++ E1 ++ E2 ++ [] -> b ∉ FL) := fun b hb hb2 => by have h1 := hge7 b hb; have h2 := HLL.out b hb2; omega
  have u0 : w7.cell? ⟨w.heap.size + 1, 0, none⟩ = some (.slice none 0 0) := (hr7).cell 0 _ rfl
  have uf0 : w7.frozen? ⟨w.heap.size + 1, 0, none⟩ = false := (hr7).free 0
  have u1 : w7.cell? ⟨w.heap.size + 1, 1, none⟩ = some (.slice none 0 0) := (hr7).cell 1 _ rfl
  have uf1 : w7.frozen? ⟨w.heap.size + 1, 1, none⟩ = false := (hr7).free 1
  have u2 : w7.cell? ⟨w.heap.size + 1, 2, none⟩ = some (.slice none 0 0) := (hr7).cell 2 _ rfl
  have uf2 : w7.frozen? ⟨w.heap.size + 1, 2, none⟩ = false := (hr7).free 2
  have u3 : w7.cell? ⟨w.heap.size + 1, 3, none⟩ = some (.int .i64 0) := (hr7).cell 3 _ rfl
  have uf3 : w7.frozen? ⟨w.heap.size + 1, 3, none⟩ = false := (hr7).free 3
  have hul := hr7.lt
  have hT := turn4 w7 (w.heap.size + 1) (.slice q0 m.fInodes.length qp0) (.slice q1 m.fNames.length qp1) (.slice q2 m.fSafe.length qp2) (.int .i64 m.fNext)
  have HBF : Hid (Below w.heap.size w ((((w7.setCell ⟨w.heap.size + 1, 0, none⟩ (.slice q0 m.fInodes.length qp0)).setCell ⟨w.heap.size + 1, 1, none⟩ (.slice q1 m.fNames.length qp1)).setCell ⟨w.heap.size + 1, 2, none⟩ (.slice q2 m.fSafe.length qp2)).setCell ⟨w.heap.size + 1, 3, none⟩ (.int .i64 m.fNext))) := (bthen hb3 hx7).trans (hT.below (fun k hk => by simp at hk; omega) (bthen hb3 hx7).size)
  have HOF : Hid (oDisk ((((w7.setCell ⟨w.heap.size + 1, 0, none⟩ (.slice q0 m.fInodes.length qp0)).setCell ⟨w.heap.size + 1, 1, none⟩ (.slice q1 m.fNames.length qp1)).setCell ⟨w.heap.size + 1, 2, none⟩ (.slice q2 m.fSafe.length qp2)).setCell ⟨w.heap.size + 1, 3, none⟩ (.int .i64 m.fNext)) [.slice q0 m.fInodes.length qp0, .slice q1 m.fNames.length qp1, .slice q2 m.fSafe.length qp2, .int .i64 m.fNext] m _) := oDisk_good.frame ho7 (fun b hb => hT.block b (oDisk_good.lt ho7 b hb) (by intro h; simp at h; have := hgF b hb; omega))
  have hlf := ownS.frame (w' := ((((w7.setCell ⟨w.heap.size + 1, 0, none⟩ (.slice q0 m.fInodes.length qp0)).setCell ⟨w.heap.size + 1, 1, none⟩ (.slice q1 m.fNames.length qp1)).setCell ⟨w.heap.size + 1, 2, none⟩ (.slice q2 m.fSafe.length qp2)).setCell ⟨w.heap.size + 1, 3, none⟩ (.int .i64 m.fNext))) oBy_good hl7 (fun b hb => hT.block b (ownS.lt oBy_good hl7 b hb) (by intro h; simp at h; have := HGL.out b hb; omega))
  have HLF := Hm hlf
  clear hlf
  clear hT
  go_wp2_with fail
  exact bodyPost_ret (v := .tuple #[.agg #[.slice q0 m.fInodes.length qp0, .slice q1 m.fNames.length qp1, .slice q2 m.fSafe.length qp2, .int .i64 m.fNext], .slice la bo.length lc, .int .i64 0]) (by simp [results, Tryz.results6, go_sem, *]) rfl ⟨[.slice q0 m.fInodes.length qp0, .slice q1 m.fNames.length qp1, .slice q2 m.fSafe.length qp2, .int .i64 m.fNext], _, _, _, by rw [show mendC m s = 0 from congrArg (fun r => r.2.2) HRES.out], by rw [show mendD m s = m from congrArg (fun r => r.1) HRES.out]; exact HOF.out, HNF.out, (fun b hb => by have := HGF.out b hb; omega), by rw [show mendL m s = _ from congrArg (fun r => r.2.1) HRES.out]; exact HLF.out, HNL.out, (fun b hb => by have := HGL.out b hb; omega), HDIS.out, HBF.out⟩
 ·have hpd : decide ((pl : Int) = (dt.length : Int)) = false := decide_eq_false hpe
  have HGD2 := Hm (HGD.out hpe)
  have HBD2 := Hm (HBD.out hpe)
  clear HGD HBD HWH
  have HFO2 : Hid (foreP m s = dt.take pl) := by show _ = _; rw [HFO.out]; simp
  have htk : (dt.take pl).length = pl := by simp; omega
  have HRB : Hid (∀ W, Below w3.heap.size w3 W -> rdB W.heap.size W (.slice ad pl cd) (foreP m s)) := fun W hb => by
   have h := (LeafB.mono (HLB.out.below hx3) hx3.size)
   have h2 := LeafB.mono (h.below hb) hb.size
   rw [HFO2.out]
   exact ⟨ad, cd, by rw [htk], by rw [htk]; have := h2.1; omega, h2.2.1, Rd.front h2.2.2.1 pl, fun z hz => h2.2.2.2 z (List.mem_of_mem_take hz)⟩
  have hfl : (foreP m s).length <= 1048576 := by rw [HFO2.out, htk]; omega
  have hcap : (pl : Int) <= (cd : Int) := by have := HLB.out.1; omega
  generalize foreP m s = fo at *
  have p0 : ∀ W, Bw W w.heap.size 27 [.slice (some ⟨bi, oi, none⟩) m.fInodes.length c0, .slice a1 m.fNames.length c1, .slice a2 m.fSafe.length c2, .int .i64 m.fNext] -> W.cell? ⟨w.heap.size, 0, none⟩ = some (.slice (some ⟨bi, oi, none⟩) m.fInodes.length c0) := fun W h => h.cell 0 _ rfl
  have p1 : ∀ W, Bw W w.heap.size 27 [.slice (some ⟨bi, oi, none⟩) m.fInodes.length c0, .slice a1 m.fNames.length c1, .slice a2 m.fSafe.length c2, .int .i64 m.fNext] -> W.cell? ⟨w.heap.size, 1, none⟩ = some (.slice a1 m.fNames.length c1) := fun W h => h.cell 1 _ rfl
  have p2 : ∀ W, Bw W w.heap.size 27 [.slice (some ⟨bi, oi, none⟩) m.fInodes.length c0, .slice a1 m.fNames.length c1, .slice a2 m.fSafe.length c2, .int .i64 m.fNext] -> W.cell? ⟨w.heap.size, 2, none⟩ = some (.slice a2 m.fSafe.length c2) := fun W h => h.cell 2 _ rfl
  have p3 : ∀ W, Bw W w.heap.size 27 [.slice (some ⟨bi, oi, none⟩) m.fInodes.length c0, .slice a1 m.fNames.length c1, .slice a2 m.fSafe.length c2, .int .i64 m.fNext] -> W.cell? ⟨w.heap.size, 3, none⟩ = some (.int .i64 m.fNext) := fun W h => h.cell 3 _ rfl
  have hd3l := hd3.lt
  go_wp2_with fail
  refine wp_region_held_drew (S := fun W => Bw W w.heap.size 27 [.slice (some ⟨bi, oi, none⟩) m.fInodes.length c0, .slice a1 m.fNames.length c1, .slice a2 m.fSafe.length c2, .int .i64 m.fNext]) (by kernel_rfl) (hd3.drew) (fun hZ => ?_)
  obtain ⟨wS, hwS⟩ : ∃ wS, wS = w3.drew := ⟨_, rfl⟩
  have hbS : Below w3.heap.size w3 wS := by rw [hwS]; exact Below.drew rB
  have HOw : Hid (ownS 1 22 oBy wS (.slice la bo.length lc) bo FL) := ownS.frame oBy_good HOL.out (fun b hb => hbS.block b (HLL.out b hb))
  have hrS := hr3.under hbS
  have hdwS : Bw wS w.heap.size 27 [.slice (some ⟨bi, oi, none⟩) m.fInodes.length c0, .slice a1 m.fNames.length c1, .slice a2 m.fSafe.length c2, .int .i64 m.fNext] := hd3.under hbS
  have hbwS := bthen hb3 hbS
  rw [<- hwS] at hZ ⊢
  clear hwS
  refine uq 0 qc7e_6_8_0 43 hZ ?_
  refine uq 1 qc7e_6_8_1 44 hZ ?_
  refine uq 2 qc7e_6_8_2 45 hZ ?_
  refine uq 3 qc7e_6_8_3 46 hZ ?_
  refine uq 4 qc7e_6_8_4 47 hZ ?_
  refine arR [5, 9] ?_
  refine (AllReadyH.cons (o := qc7e_6_8_5) rfl (fun K hK => ?_) (AllReadyH.cons (o := qc7e_6_8_9) rfl (fun K hK => ?_) AllReadyH.nil))
  ·go_simp
   have hfw := (show Below wS.heap.size wS wS from rB)
   have hb5S : w3.heap.size <= wS.heap.size := Nat.le_trans hbS.size hfw.size
   refine Calls.mono (switch_any _ m mendN (.slice ad pl cd) fo s wS (rDisk_good.mono (rDisk_good.below HR.out (bthen hbwS hfw)) (bthen hbwS hfw).size) HW.out (by decide) hw1 (HRB.out _ (bthen hbS hfw)) hfl) ?_
   obtain ⟨d5, hd5⟩ : ∃ d5, d5 = (switchP m mendN fo s).1 := ⟨_, rfl⟩
   obtain ⟨c5, hc5⟩ : ∃ c5, c5 = (switchP m mendN fo s).2 := ⟨_, rfl⟩
   rw [<- hd5, <- hc5]
   have HD5 := Hm hd5
   have HC5 := Hm hc5
   clear hd5 hc5
   rintro e wE5 ⟨cs5, F5, rfl, ho5, hN5, hge5, hx5⟩
   obtain ⟨z0, zp0, z1, zp1, z2, zp2, E0, E1, E2, rfl, _, _, _, _, rfl⟩ := oDisk_cells ho5
   have hop5 : Below wS.heap.size wS wE5 := hx5
   have hdwE5 := hdwS.under hop5
   go_wp2_with fail
   refine hK.out _ _ (hdwE5) (fun hZ => ?_)
   clear hK K
   try simp only[Act.put,sa,s0,s1]
   refine uq 6 qc7e_6_8_6 42 hZ ?_
   refine uq 7 qc7e_6_8_7 49 hZ ?_
   refine uq 8 qc7e_6_8_8 50 hZ ?_
   refine ar1 9 qc7e_6_8_9 fun K hK => ?_
   ·go_simp
    obtain ⟨wE9, hq9⟩ : ∃ q, q = wE5.alloc (.cells #[.slice none 0 0, .slice none 0 0, .slice none 0 0, .int .i64 0] 27) := ⟨_, rfl⟩
    have hop9 : Below wE5.heap.size wE5 wE9 := by rw [hq9]; exact rB.alloc rN _
    have hdwE9 := hdwE5.under hop9
    obtain ⟨g9, HG9⟩ : ∃ z, Hid (z = wE5.heap.size) := ⟨_, Hm rfl⟩
    have HB9 : Hid (Bw wE9 g9 27 [.slice none 0 0, .slice none 0 0, .slice none 0 0, .int .i64 0]) := by unfold Hid; rw [HG9.out, hq9]; exact Bw.new _ _ _
    have hgp3 : w3.heap.size <= g9 := by rw [HG9.out]; exact Nat.le_trans hbS.size (Below.size (show Below wS.heap.size wS wE5 from bthen rB hop5))
    have hgp : w.heap.size + 2 <= g9 := by have := hr3.lt; omega
    rw [<- HG9.out]
    rw [<- hq9]
    clear hq9
    refine hK.out _ _ (hdwE9) (fun hZ => ?_)
    clear hK K
    try simp only[Act.put,sa,s0,s1]
    refine ar1 10 qc7e_6_8_10 fun K hK => ?_
    ·skip
     have hb9 := HB9.out.under (show Below wE9.heap.size wE9 wE9 from rB)
     obtain ⟨s0, sf0, s1, sf1, s2, sf2, s3, sf3⟩ := hb9.c8
     have hl9 := hb9.lt
     go_simp
     obtain ⟨wE10, hq10⟩ : ∃ q, q = ((((wE9.setCell ⟨g9, 0, none⟩ (.slice z0 d5.fInodes.length zp0)).setCell ⟨g9, 1, none⟩ (.slice z1 d5.fNames.length zp1)).setCell ⟨g9, 2, none⟩ (.slice z2 d5.fSafe.length zp2)).setCell ⟨g9, 3, none⟩ (.int .i64 d5.fNext)) := ⟨_, rfl⟩
     have hT10 : Turn [g9] wE9 wE10 := by rw [hq10]; exact turn4 _ _ _ _ _ _
     have hbx : Bw wE10 g9 27 [.slice z0 d5.fInodes.length zp0, .slice z1 d5.fNames.length zp1, .slice z2 d5.fSafe.length zp2, .int .i64 d5.fNext] := by rw [hq10]; exact hb9.set4 rfl _ _ _ _
     have hdwE10 : Bw wE10 w.heap.size 27 [.slice (some ⟨bi, oi, none⟩) m.fInodes.length c0, .slice a1 m.fNames.length c1, .slice a2 m.fSafe.length c2, .int .i64 m.fNext] := hdwE9.turn hT10 (by simp; omega)
     have hfp := (show Below wS.heap.size wS wE9 from bthen (bthen rB hop5) hop9)
     have hpS := (show Below wE5.heap.size wE5 wE9 from bthen rB hop9)
     rw [<- hq10]
     clear hq10 hb9 s0 s1 s2 s3 sf0 sf1 sf2 sf3
     refine hK.out _ _ (hdwE10) (fun hZ => ?_)
     clear hK K
     try simp only[Act.put,sa,s0,s1]
     refine uq 11 qc7e_6_8_11 8 hZ ?_
     refine wpAnyH_done (by kernel_rfl) ?_ _
     have HGE5 : Hid (∀ b, b ∈ E0 ++ E1 ++ E2 ++ [] -> w3.heap.size <= b) := fun b hb => by have h1 := hge5 b hb; have h2 := hb5S; omega
     have hgne : ∀ b, b ∈ E0 ++ E1 ++ E2 ++ [] -> b ≠ g9 := fun b hb h => by have h1 := hge5 b hb; have h2 := oDisk_good.lt ho5 b hb; have h3 := HB9.out.lt; have h4 := HG9.out; omega
     have hbp := bthen hbS hfp
     have HB10 : Below w.heap.size w wE10 := (bthen hb3 hbp).trans (hT10.below (fun k hk => by simp at hk; omega) (bthen hb3 hbp).size)
     have hr10 : Bw wE10 (w.heap.size + 1) 27 [.slice none 0 0, .slice none 0 0, .slice none 0 0, .int .i64 0] := (hr3.under hbp).turn hT10 (by simp; omega)
     have hol10 : ownS 1 22 oBy wE10 (.slice la bo.length lc) bo FL := ownS.frame oBy_good (ownS.frame oBy_good HOL.out (fun b hb => hbp.block b (HLL.out b hb))) (fun b hb => hT10.block b (by have := HLL.out b hb; have := hbp.size; omega) (by intro h; simp at h; have := HLL.out b hb; omega))
     have ho510 : oDisk wE10 [.slice z0 d5.fInodes.length zp0, .slice z1 d5.fNames.length zp1, .slice z2 d5.fSafe.length zp2, .int .i64 d5.fNext] d5 (E0 ++ E1 ++ E2 ++ []) := oDisk_good.frame (oDisk_good.frame ho5 (fun b hb => hpS.block b (oDisk_good.lt ho5 b hb))) (fun b hb => hT10.block b (by have := oDisk_good.lt ho5 b hb; have := hpS.size; omega) (by intro h; simp at h; exact hgne b hb h))
     by_cases hcz : c5 = 0
     rotate_left
     ·have HRES : Hid (mendR m s = (m, [], c5)) := by show _ = _; rw [HBD2.out (by rw [<- HC5.out]; exact hcz), <- HC5.out]
      have hczd : decide (c5 = 0) = false := decide_eq_false hcz
      clear HGD2 HBD2 hol10 ho510
      obtain ⟨w6, hw6⟩ : ∃ w6, w6 = wE10 := ⟨_, rfl⟩
      rw [<- hw6] at HB10 hr10 hdwE10 ⊢
      clear hw6
      have hdl := hdwE10.lt
      obtain ⟨x0, x1, x2, x3⟩ := hdwE10.c4
      go_wp2_with fail
      refine (copyDisk_any _ m w6 (rDisk_good.mono (rDisk_good.below HR.out HB10) HB10.size) HW.out).mono ?_
      rintro e w7 ⟨cs7, F7, rfl, ho7, hN7, hge7, hx7⟩
      obtain ⟨q0, qp0, q1, qp1, q2, qp2, E0, E1, E2, rfl, _, _, _, _, rfl⟩ := oDisk_cells ho7
      have hr7 := hr10.under hx7
      have hz7 := hx7.size
      have hzz := hr10.lt
      have hgF : ∀ b, b ∈ E0 ++ E1 ++ E2 ++ [] -> w.heap.size + 2 <= b := fun b hb => by have := hge7 b hb; omega
      have HGF := Hm hgF
      have HNF := Hm hN7
      have u0 : w7.cell? ⟨w.heap.size + 1, 0, none⟩ = some (.slice none 0 0) := (hr7).cell 0 _ rfl
      have uf0 : w7.frozen? ⟨w.heap.size + 1, 0, none⟩ = false := (hr7).free 0
      have u1 : w7.cell? ⟨w.heap.size + 1, 1, none⟩ = some (.slice none 0 0) := (hr7).cell 1 _ rfl
      have uf1 : w7.frozen? ⟨w.heap.size + 1, 1, none⟩ = false := (hr7).free 1
      have u2 : w7.cell? ⟨w.heap.size + 1, 2, none⟩ = some (.slice none 0 0) := (hr7).cell 2 _ rfl
      have uf2 : w7.frozen? ⟨w.heap.size + 1, 2, none⟩ = false := (hr7).free 2
      have u3 : w7.cell? ⟨w.heap.size + 1, 3, none⟩ = some (.int .i64 0) := (hr7).cell 3 _ rfl
      have uf3 : w7.frozen? ⟨w.heap.size + 1, 3, none⟩ = false := (hr7).free 3
      have hul := hr7.lt
      have hT := turn4 w7 (w.heap.size + 1) (.slice q0 m.fInodes.length qp0) (.slice q1 m.fNames.length qp1) (.slice q2 m.fSafe.length qp2) (.int .i64 m.fNext)
      have HBF : Hid (Below w.heap.size w ((((w7.setCell ⟨w.heap.size + 1, 0, none⟩ (.slice q0 m.fInodes.length qp0)).setCell ⟨w.heap.size + 1, 1, none⟩ (.slice q1 m.fNames.length qp1)).setCell ⟨w.heap.size + 1, 2, none⟩ (.slice q2 m.fSafe.length qp2)).setCell ⟨w.heap.size + 1, 3, none⟩ (.int .i64 m.fNext))) := (bthen HB10 hx7).trans (hT.below (fun k hk => by simp at hk; omega) (bthen HB10 hx7).size)
      have HOF : Hid (oDisk ((((w7.setCell ⟨w.heap.size + 1, 0, none⟩ (.slice q0 m.fInodes.length qp0)).setCell ⟨w.heap.size + 1, 1, none⟩ (.slice q1 m.fNames.length qp1)).setCell ⟨w.heap.size + 1, 2, none⟩ (.slice q2 m.fSafe.length qp2)).setCell ⟨w.heap.size + 1, 3, none⟩ (.int .i64 m.fNext)) [.slice q0 m.fInodes.length qp0, .slice q1 m.fNames.length qp1, .slice q2 m.fSafe.length qp2, .int .i64 m.fNext] m _) := oDisk_good.frame ho7 (fun b hb => hT.block b (oDisk_good.lt ho7 b hb) (by intro h; simp at h; have := hgF b hb; omega))
      have HLF : Hid (ownS 1 22 oBy ((((w7.setCell ⟨w.heap.size + 1, 0, none⟩ (.slice q0 m.fInodes.length qp0)).setCell ⟨w.heap.size + 1, 1, none⟩ (.slice q1 m.fNames.length qp1)).setCell ⟨w.heap.size + 1, 2, none⟩ (.slice q2 m.fSafe.length qp2)).setCell ⟨w.heap.size + 1, 3, none⟩ (.int .i64 m.fNext)) (.slice none 0 0) [] []) := .inl ⟨rfl, rfl, rfl⟩
      clear hT
      go_wp2_with fail
      exact bodyPost_ret (v := .tuple #[.agg #[.slice q0 m.fInodes.length qp0, .slice q1 m.fNames.length qp1, .slice q2 m.fSafe.length qp2, .int .i64 m.fNext], .slice none 0 0, .int .i64 c5]) (by simp [results, Tryz.results6, go_sem, *]) rfl ⟨[.slice q0 m.fInodes.length qp0, .slice q1 m.fNames.length qp1, .slice q2 m.fSafe.length qp2, .int .i64 m.fNext], _, _, _, by rw [show mendC m s = c5 from congrArg (fun r => r.2.2) HRES.out], by rw [show mendD m s = m from congrArg (fun r => r.1) HRES.out]; exact HOF.out, HNF.out, (fun b hb => by have := HGF.out b hb; omega), by rw [show mendL m s = _ from congrArg (fun r => r.2.1) HRES.out]; exact HLF.out, List.nodup_nil, (fun b hb => by cases hb), (fun b _ hb => by cases hb), HBF.out⟩
     ·have HRES : Hid (mendR m s = (d5, bo, 0)) := by show _ = _; rw [HGD2.out (by rw [<- HC5.out]; exact hcz), <- HD5.out]
      clear HGD2 HBD2
      subst hcz
      have u0 : wE10.cell? ⟨w.heap.size + 1, 0, none⟩ = some (.slice none 0 0) := (hr10).cell 0 _ rfl
      have uf0 : wE10.frozen? ⟨w.heap.size + 1, 0, none⟩ = false := (hr10).free 0
      have u1 : wE10.cell? ⟨w.heap.size + 1, 1, none⟩ = some (.slice none 0 0) := (hr10).cell 1 _ rfl
      have uf1 : wE10.frozen? ⟨w.heap.size + 1, 1, none⟩ = false := (hr10).free 1
      have u2 : wE10.cell? ⟨w.heap.size + 1, 2, none⟩ = some (.slice none 0 0) := (hr10).cell 2 _ rfl
      have uf2 : wE10.frozen? ⟨w.heap.size + 1, 2, none⟩ = false := (hr10).free 2
      have u3 : wE10.cell? ⟨w.heap.size + 1, 3, none⟩ = some (.int .i64 0) := (hr10).cell 3 _ rfl
      have uf3 : wE10.frozen? ⟨w.heap.size + 1, 3, none⟩ = false := (hr10).free 3
      have hul := hr10.lt
      obtain ⟨b0, b1, b2, b3⟩ := hbx.c4
      have hxl := hbx.lt
      have hgF : ∀ b, b ∈ E0 ++ E1 ++ E2 ++ [] -> w.heap.size + 2 <= b := fun b hb => by have := HGE5.out b hb; omega
      have HGF := Hm hgF
      have HNF := Hm hN5
      have HDIS : Hid (∀ b, b ∈ E0 ++ E1 ++ E2 ++ [] -> b ∉ FL) := fun b hb hb2 => by have h1 := HGE5.out b hb; have h2 := HLL.out b hb2; omega
      have hT := turn4 wE10 (w.heap.size + 1) (.slice z0 d5.fInodes.length zp0) (.slice z1 d5.fNames.length zp1) (.slice z2 d5.fSafe.length zp2) (.int .i64 d5.fNext)
      have HBF : Hid (Below w.heap.size w ((((wE10.setCell ⟨w.heap.size + 1, 0, none⟩ (.slice z0 d5.fInodes.length zp0)).setCell ⟨w.heap.size + 1, 1, none⟩ (.slice z1 d5.fNames.length zp1)).setCell ⟨w.heap.size + 1, 2, none⟩ (.slice z2 d5.fSafe.length zp2)).setCell ⟨w.heap.size + 1, 3, none⟩ (.int .i64 d5.fNext))) := HB10.trans (hT.below (fun k hk => by simp at hk; omega) HB10.size)
      have HOF : Hid (oDisk ((((wE10.setCell ⟨w.heap.size + 1, 0, none⟩ (.slice z0 d5.fInodes.length zp0)).setCell ⟨w.heap.size + 1, 1, none⟩ (.slice z1 d5.fNames.length zp1)).setCell ⟨w.heap.size + 1, 2, none⟩ (.slice z2 d5.fSafe.length zp2)).setCell ⟨w.heap.size + 1, 3, none⟩ (.int .i64 d5.fNext)) [.slice z0 d5.fInodes.length zp0, .slice z1 d5.fNames.length zp1, .slice z2 d5.fSafe.length zp2, .int .i64 d5.fNext] d5 _) := oDisk_good.frame ho510 (fun b hb => hT.block b (oDisk_good.lt ho510 b hb) (by intro h; simp at h; have := hgF b hb; omega))
      have hlf := ownS.frame (w' := ((((wE10.setCell ⟨w.heap.size + 1, 0, none⟩ (.slice z0 d5.fInodes.length zp0)).setCell ⟨w.heap.size + 1, 1, none⟩ (.slice z1 d5.fNames.length zp1)).setCell ⟨w.heap.size + 1, 2, none⟩ (.slice z2 d5.fSafe.length zp2)).setCell ⟨w.heap.size + 1, 3, none⟩ (.int .i64 d5.fNext))) oBy_good hol10 (fun b hb => hT.block b (ownS.lt oBy_good hol10 b hb) (by intro h; simp at h; have := HGL.out b hb; omega))
      have HLF := Hm hlf
      clear hlf
      clear hT
      go_wp2_with fail
      exact bodyPost_ret (v := .tuple #[.agg #[.slice z0 d5.fInodes.length zp0, .slice z1 d5.fNames.length zp1, .slice z2 d5.fSafe.length zp2, .int .i64 d5.fNext], .slice la bo.length lc, .int .i64 0]) (by simp [results, Tryz.results6, go_sem, *]) rfl ⟨[.slice z0 d5.fInodes.length zp0, .slice z1 d5.fNames.length zp1, .slice z2 d5.fSafe.length zp2, .int .i64 d5.fNext], _, _, _, by rw [show mendC m s = 0 from congrArg (fun r => r.2.2) HRES.out], by rw [show mendD m s = d5 from congrArg (fun r => r.1) HRES.out]; exact HOF.out, HNF.out, (fun b hb => by have := HGF.out b hb; omega), by rw [show mendL m s = _ from congrArg (fun r => r.2.1) HRES.out]; exact HLF.out, HNL.out, (fun b hb => by have := HGL.out b hb; omega), HDIS.out, HBF.out⟩
  ·go_simp
   obtain ⟨wE9, hq9⟩ : ∃ q, q = wS.alloc (.cells #[.slice none 0 0, .slice none 0 0, .slice none 0 0, .int .i64 0] 27) := ⟨_, rfl⟩
   have hop9 : Below wS.heap.size wS wE9 := by rw [hq9]; exact rB.alloc rN _
   have hdwE9 := hdwS.under hop9
   obtain ⟨g9, HG9⟩ : ∃ z, Hid (z = wS.heap.size) := ⟨_, Hm rfl⟩
   have HB9 : Hid (Bw wE9 g9 27 [.slice none 0 0, .slice none 0 0, .slice none 0 0, .int .i64 0]) := by unfold Hid; rw [HG9.out, hq9]; exact Bw.new _ _ _
   have hgp3 : w3.heap.size <= g9 := by rw [HG9.out]; exact Nat.le_trans hbS.size (Below.size (show Below wS.heap.size wS wS from rB))
   have hgp : w.heap.size + 2 <= g9 := by have := hr3.lt; omega
   rw [<- HG9.out]
   rw [<- hq9]
   clear hq9
   refine hK.out _ _ (hdwE9) (fun hZ => ?_)
   clear hK K
   try simp only[Act.put,sa,s0,s1]
   refine ar1 5 qc7e_6_8_5 fun K hK => ?_
   ·go_simp
    have hfw := (show Below wS.heap.size wS wE9 from bthen rB hop9)
    have hb5S : w3.heap.size <= wE9.heap.size := Nat.le_trans hbS.size hfw.size
    refine Calls.mono (switch_any _ m mendN (.slice ad pl cd) fo s wE9 (rDisk_good.mono (rDisk_good.below HR.out (bthen hbwS hfw)) (bthen hbwS hfw).size) HW.out (by decide) hw1 (HRB.out _ (bthen hbS hfw)) hfl) ?_
    obtain ⟨d5, hd5⟩ : ∃ d5, d5 = (switchP m mendN fo s).1 := ⟨_, rfl⟩
    obtain ⟨c5, hc5⟩ : ∃ c5, c5 = (switchP m mendN fo s).2 := ⟨_, rfl⟩
    rw [<- hd5, <- hc5]
    have HD5 := Hm hd5
    have HC5 := Hm hc5
    clear hd5 hc5
    rintro e wE5 ⟨cs5, F5, rfl, ho5, hN5, hge5, hx5⟩
    obtain ⟨z0, zp0, z1, zp1, z2, zp2, E0, E1, E2, rfl, _, _, _, _, rfl⟩ := oDisk_cells ho5
    have hop5 : Below wE9.heap.size wE9 wE5 := hx5
    have hdwE5 := hdwE9.under hop5
    go_wp2_with fail
    refine hK.out _ _ (hdwE5) (fun hZ => ?_)
    clear hK K
    try simp only[Act.put,sa,s0,s1]
    refine uq 6 qc7e_6_8_6 42 hZ ?_
    refine uq 7 qc7e_6_8_7 49 hZ ?_
    refine uq 8 qc7e_6_8_8 50 hZ ?_
    refine ar1 10 qc7e_6_8_10 fun K hK => ?_
    ·skip
     have hb9 := HB9.out.under (show Below wE9.heap.size wE9 wE5 from bthen rB hop5)
     obtain ⟨s0, sf0, s1, sf1, s2, sf2, s3, sf3⟩ := hb9.c8
     have hl9 := hb9.lt
     go_simp
     obtain ⟨wE10, hq10⟩ : ∃ q, q = ((((wE5.setCell ⟨g9, 0, none⟩ (.slice z0 d5.fInodes.length zp0)).setCell ⟨g9, 1, none⟩ (.slice z1 d5.fNames.length zp1)).setCell ⟨g9, 2, none⟩ (.slice z2 d5.fSafe.length zp2)).setCell ⟨g9, 3, none⟩ (.int .i64 d5.fNext)) := ⟨_, rfl⟩
     have hT10 : Turn [g9] wE5 wE10 := by rw [hq10]; exact turn4 _ _ _ _ _ _
     have hbx : Bw wE10 g9 27 [.slice z0 d5.fInodes.length zp0, .slice z1 d5.fNames.length zp1, .slice z2 d5.fSafe.length zp2, .int .i64 d5.fNext] := by rw [hq10]; exact hb9.set4 rfl _ _ _ _
     have hdwE10 : Bw wE10 w.heap.size 27 [.slice (some ⟨bi, oi, none⟩) m.fInodes.length c0, .slice a1 m.fNames.length c1, .slice a2 m.fSafe.length c2, .int .i64 m.fNext] := hdwE5.turn hT10 (by simp; omega)
     have hfp := (show Below wS.heap.size wS wE5 from bthen (bthen rB hop9) hop5)
     have hpS := (show Below wE5.heap.size wE5 wE5 from rB)
     rw [<- hq10]
     clear hq10 hb9 s0 s1 s2 s3 sf0 sf1 sf2 sf3
     refine hK.out _ _ (hdwE10) (fun hZ => ?_)
     clear hK K
     try simp only[Act.put,sa,s0,s1]
     refine uq 11 qc7e_6_8_11 8 hZ ?_
     refine wpAnyH_done (by kernel_rfl) ?_ _
     have HGE5 : Hid (∀ b, b ∈ E0 ++ E1 ++ E2 ++ [] -> w3.heap.size <= b) := fun b hb => by have h1 := hge5 b hb; have h2 := hb5S; omega
     have hgne : ∀ b, b ∈ E0 ++ E1 ++ E2 ++ [] -> b ≠ g9 := fun b hb h => by have h1 := hge5 b hb; have h2 := oDisk_good.lt ho5 b hb; have h3 := HB9.out.lt; have h4 := HG9.out; omega
     have hbp := bthen hbS hfp
     have HB10 : Below w.heap.size w wE10 := (bthen hb3 hbp).trans (hT10.below (fun k hk => by simp at hk; omega) (bthen hb3 hbp).size)
     have hr10 : Bw wE10 (w.heap.size + 1) 27 [.slice none 0 0, .slice none 0 0, .slice none 0 0, .int .i64 0] := (hr3.under hbp).turn hT10 (by simp; omega)
     have hol10 : ownS 1 22 oBy wE10 (.slice la bo.length lc) bo FL := ownS.frame oBy_good (ownS.frame oBy_good HOL.out (fun b hb => hbp.block b (HLL.out b hb))) (fun b hb => hT10.block b (by have := HLL.out b hb; have := hbp.size; omega) (by intro h; simp at h; have := HLL.out b hb; omega))
     have ho510 : oDisk wE10 [.slice z0 d5.fInodes.length zp0, .slice z1 d5.fNames.length zp1, .slice z2 d5.fSafe.length zp2, .int .i64 d5.fNext] d5 (E0 ++ E1 ++ E2 ++ []) := oDisk_good.frame (oDisk_good.frame ho5 (fun b hb => hpS.block b (oDisk_good.lt ho5 b hb))) (fun b hb => hT10.block b (by have := oDisk_good.lt ho5 b hb; have := hpS.size; omega) (by intro h; simp at h; exact hgne b hb h))
     by_cases hcz : c5 = 0
     rotate_left
     ·have HRES : Hid (mendR m s = (m, [], c5)) := by show _ = _; rw [HBD2.out (by rw [<- HC5.out]; exact hcz), <- HC5.out]
      have hczd : decide (c5 = 0) = false := decide_eq_false hcz
      clear HGD2 HBD2 hol10 ho510
      obtain ⟨w6, hw6⟩ : ∃ w6, w6 = wE10 := ⟨_, rfl⟩
      rw [<- hw6] at HB10 hr10 hdwE10 ⊢
      clear hw6
      have hdl := hdwE10.lt
      obtain ⟨x0, x1, x2, x3⟩ := hdwE10.c4
      go_wp2_with fail
      refine (copyDisk_any _ m w6 (rDisk_good.mono (rDisk_good.below HR.out HB10) HB10.size) HW.out).mono ?_
      rintro e w7 ⟨cs7, F7, rfl, ho7, hN7, hge7, hx7⟩
      obtain ⟨q0, qp0, q1, qp1, q2, qp2, E0, E1, E2, rfl, _, _, _, _, rfl⟩ := oDisk_cells ho7
      have hr7 := hr10.under hx7
      have hz7 := hx7.size
      have hzz := hr10.lt
      have hgF : ∀ b, b ∈ E0 ++ E1 ++ E2 ++ [] -> w.heap.size + 2 <= b := fun b hb => by have := hge7 b hb; omega
      have HGF := Hm hgF
      have HNF := Hm hN7
      have u0 : w7.cell? ⟨w.heap.size + 1, 0, none⟩ = some (.slice none 0 0) := (hr7).cell 0 _ rfl
      have uf0 : w7.frozen? ⟨w.heap.size + 1, 0, none⟩ = false := (hr7).free 0
      have u1 : w7.cell? ⟨w.heap.size + 1, 1, none⟩ = some (.slice none 0 0) := (hr7).cell 1 _ rfl
      have uf1 : w7.frozen? ⟨w.heap.size + 1, 1, none⟩ = false := (hr7).free 1
      have u2 : w7.cell? ⟨w.heap.size + 1, 2, none⟩ = some (.slice none 0 0) := (hr7).cell 2 _ rfl
      have uf2 : w7.frozen? ⟨w.heap.size + 1, 2, none⟩ = false := (hr7).free 2
      have u3 : w7.cell? ⟨w.heap.size + 1, 3, none⟩ = some (.int .i64 0) := (hr7).cell 3 _ rfl
      have uf3 : w7.frozen? ⟨w.heap.size + 1, 3, none⟩ = false := (hr7).free 3
      have hul := hr7.lt
      have hT := turn4 w7 (w.heap.size + 1) (.slice q0 m.fInodes.length qp0) (.slice q1 m.fNames.length qp1) (.slice q2 m.fSafe.length qp2) (.int .i64 m.fNext)
      have HBF : Hid (Below w.heap.size w ((((w7.setCell ⟨w.heap.size + 1, 0, none⟩ (.slice q0 m.fInodes.length qp0)).setCell ⟨w.heap.size + 1, 1, none⟩ (.slice q1 m.fNames.length qp1)).setCell ⟨w.heap.size + 1, 2, none⟩ (.slice q2 m.fSafe.length qp2)).setCell ⟨w.heap.size + 1, 3, none⟩ (.int .i64 m.fNext))) := (bthen HB10 hx7).trans (hT.below (fun k hk => by simp at hk; omega) (bthen HB10 hx7).size)
      have HOF : Hid (oDisk ((((w7.setCell ⟨w.heap.size + 1, 0, none⟩ (.slice q0 m.fInodes.length qp0)).setCell ⟨w.heap.size + 1, 1, none⟩ (.slice q1 m.fNames.length qp1)).setCell ⟨w.heap.size + 1, 2, none⟩ (.slice q2 m.fSafe.length qp2)).setCell ⟨w.heap.size + 1, 3, none⟩ (.int .i64 m.fNext)) [.slice q0 m.fInodes.length qp0, .slice q1 m.fNames.length qp1, .slice q2 m.fSafe.length qp2, .int .i64 m.fNext] m _) := oDisk_good.frame ho7 (fun b hb => hT.block b (oDisk_good.lt ho7 b hb) (by intro h; simp at h; have := hgF b hb; omega))
      have HLF : Hid (ownS 1 22 oBy ((((w7.setCell ⟨w.heap.size + 1, 0, none⟩ (.slice q0 m.fInodes.length qp0)).setCell ⟨w.heap.size + 1, 1, none⟩ (.slice q1 m.fNames.length qp1)).setCell ⟨w.heap.size + 1, 2, none⟩ (.slice q2 m.fSafe.length qp2)).setCell ⟨w.heap.size + 1, 3, none⟩ (.int .i64 m.fNext)) (.slice none 0 0) [] []) := .inl ⟨rfl, rfl, rfl⟩
      clear hT
      go_wp2_with fail
      exact bodyPost_ret (v := .tuple #[.agg #[.slice q0 m.fInodes.length qp0, .slice q1 m.fNames.length qp1, .slice q2 m.fSafe.length qp2, .int .i64 m.fNext], .slice none 0 0, .int .i64 c5]) (by simp [results, Tryz.results6, go_sem, *]) rfl ⟨[.slice q0 m.fInodes.length qp0, .slice q1 m.fNames.length qp1, .slice q2 m.fSafe.length qp2, .int .i64 m.fNext], _, _, _, by rw [show mendC m s = c5 from congrArg (fun r => r.2.2) HRES.out], by rw [show mendD m s = m from congrArg (fun r => r.1) HRES.out]; exact HOF.out, HNF.out, (fun b hb => by have := HGF.out b hb; omega), by rw [show mendL m s = _ from congrArg (fun r => r.2.1) HRES.out]; exact HLF.out, List.nodup_nil, (fun b hb => by cases hb), (fun b _ hb => by cases hb), HBF.out⟩
     ·have HRES : Hid (mendR m s = (d5, bo, 0)) := by show _ = _; rw [HGD2.out (by rw [<- HC5.out]; exact hcz), <- HD5.out]
      clear HGD2 HBD2
      subst hcz
      have u0 : wE10.cell? ⟨w.heap.size + 1, 0, none⟩ = some (.slice none 0 0) := (hr10).cell 0 _ rfl
      have uf0 : wE10.frozen? ⟨w.heap.size + 1, 0, none⟩ = false := (hr10).free 0
      have u1 : wE10.cell? ⟨w.heap.size + 1, 1, none⟩ = some (.slice none 0 0) := (hr10).cell 1 _ rfl
      have uf1 : wE10.frozen? ⟨w.heap.size + 1, 1, none⟩ = false := (hr10).free 1
      have u2 : wE10.cell? ⟨w.heap.size + 1, 2, none⟩ = some (.slice none 0 0) := (hr10).cell 2 _ rfl
      have uf2 : wE10.frozen? ⟨w.heap.size + 1, 2, none⟩ = false := (hr10).free 2
      have u3 : wE10.cell? ⟨w.heap.size + 1, 3, none⟩ = some (.int .i64 0) := (hr10).cell 3 _ rfl
      have uf3 : wE10.frozen? ⟨w.heap.size + 1, 3, none⟩ = false := (hr10).free 3
      have hul := hr10.lt
      obtain ⟨b0, b1, b2, b3⟩ := hbx.c4
      have hxl := hbx.lt
      have hgF : ∀ b, b ∈ E0 ++ E1 ++ E2 ++ [] -> w.heap.size + 2 <= b := fun b hb => by have := HGE5.out b hb; omega
      have HGF := Hm hgF
      have HNF := Hm hN5
      have HDIS : Hid (∀ b, b ∈ E0 ++ E1 ++ E2 ++ [] -> b ∉ FL) := fun b hb hb2 => by have h1 := HGE5.out b hb; have h2 := HLL.out b hb2; omega
      have hT := turn4 wE10 (w.heap.size + 1) (.slice z0 d5.fInodes.length zp0) (.slice z1 d5.fNames.length zp1) (.slice z2 d5.fSafe.length zp2) (.int .i64 d5.fNext)
      have HBF : Hid (Below w.heap.size w ((((wE10.setCell ⟨w.heap.size + 1, 0, none⟩ (.slice z0 d5.fInodes.length zp0)).setCell ⟨w.heap.size + 1, 1, none⟩ (.slice z1 d5.fNames.length zp1)).setCell ⟨w.heap.size + 1, 2, none⟩ (.slice z2 d5.fSafe.length zp2)).setCell ⟨w.heap.size + 1, 3, none⟩ (.int .i64 d5.fNext))) := HB10.trans (hT.below (fun k hk => by simp at hk; omega) HB10.size)
      have HOF : Hid (oDisk ((((wE10.setCell ⟨w.heap.size + 1, 0, none⟩ (.slice z0 d5.fInodes.length zp0)).setCell ⟨w.heap.size + 1, 1, none⟩ (.slice z1 d5.fNames.length zp1)).setCell ⟨w.heap.size + 1, 2, none⟩ (.slice z2 d5.fSafe.length zp2)).setCell ⟨w.heap.size + 1, 3, none⟩ (.int .i64 d5.fNext)) [.slice z0 d5.fInodes.length zp0, .slice z1 d5.fNames.length zp1, .slice z2 d5.fSafe.length zp2, .int .i64 d5.fNext] d5 _) := oDisk_good.frame ho510 (fun b hb => hT.block b (oDisk_good.lt ho510 b hb) (by intro h; simp at h; have := hgF b hb; omega))
      have hlf := ownS.frame (w' := ((((wE10.setCell ⟨w.heap.size + 1, 0, none⟩ (.slice z0 d5.fInodes.length zp0)).setCell ⟨w.heap.size + 1, 1, none⟩ (.slice z1 d5.fNames.length zp1)).setCell ⟨w.heap.size + 1, 2, none⟩ (.slice z2 d5.fSafe.length zp2)).setCell ⟨w.heap.size + 1, 3, none⟩ (.int .i64 d5.fNext))) oBy_good hol10 (fun b hb => hT.block b (ownS.lt oBy_good hol10 b hb) (by intro h; simp at h; have := HGL.out b hb; omega))
      have HLF := Hm hlf
      clear hlf
      clear hT
      go_wp2_with fail
      exact bodyPost_ret (v := .tuple #[.agg #[.slice z0 d5.fInodes.length zp0, .slice z1 d5.fNames.length zp1, .slice z2 d5.fSafe.length zp2, .int .i64 d5.fNext], .slice la bo.length lc, .int .i64 0]) (by simp [results, Tryz.results6, go_sem, *]) rfl ⟨[.slice z0 d5.fInodes.length zp0, .slice z1 d5.fNames.length zp1, .slice z2 d5.fSafe.length zp2, .int .i64 d5.fNext], _, _, _, by rw [show mendC m s = 0 from congrArg (fun r => r.2.2) HRES.out], by rw [show mendD m s = d5 from congrArg (fun r => r.1) HRES.out]; exact HOF.out, HNF.out, (fun b hb => by have := HGF.out b hb; omega), by rw [show mendL m s = _ from congrArg (fun r => r.2.1) HRES.out]; exact HLF.out, HNL.out, (fun b hb => by have := HGL.out b hb; omega), HDIS.out, HBF.out⟩
end Go.Proofs.YtegonncmopecnaaGreatDoor
