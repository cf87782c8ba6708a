/-
  Part 29 of the texts that the proof leans on.
-/
import Derived.Test.YtegonncmopecnaaGreatDoorMnd0
import Derived.Test.YtegonncmopecnaaGreatDoorMnd27
import Derived.Test.YtegonncmopecnaaGreatDoorMnd25
import Derived.Test.YtegonncmopecnaaGreatDoorMnd22
import Derived.Test.YtegonncmopecnaaGreatDoorRows
import Derived.ProofKit
set_option linter.unusedVariables false
set_option linter.unusedSimpArgs false
set_option maxRecDepth 10000

namespace Go.Proofs.YtegonncmopecnaaGreatDoor
open Go.RowKit
abbrev qbc1_7_8_0 : Oper := ⟨some 41, .load 27 (.tmp 2), 27, "l03_log.go:54", #[], none⟩
abbrev qbc1_7_8_1 : Oper := ⟨some 42, .move (.tmp 1), 9, "l03_log.go:54", #[], none⟩
abbrev qbc1_7_8_2 : Oper := ⟨some 43, .move (.tmp 8), 22, "l03_log.go:54", #[], none⟩
abbrev qbc1_7_8_3 : Oper := ⟨some 44, .move (.tmp 11), 3, "l03_log.go:54", #[], none⟩
abbrev qbc1_7_8_4 : Oper := ⟨some 45, .slice 22 (.tmp 43) none (some (.tmp 44)) none, 22, "l03_log.go:54", #[⟨2, .data⟩, ⟨3, .data⟩], none⟩
abbrev qbc1_7_8_9 : Oper := ⟨some 12, .alloc 27, 0, "l03_log.go:54", #[], none⟩
abbrev qbc1_7_8_5 : Oper := ⟨some 46, .call { callee := .value (.func 24), args := #[.tmp 41, .tmp 42, .tmp 45], argTypes := #[27, 9, 22] }, 39, "l03_log.go:54", #[⟨0, .data⟩, ⟨1, .data⟩, ⟨4, .data⟩], none⟩
abbrev qbc1_7_8_6 : Oper := ⟨some 40, .move (.tmp 46), 39, "l03_log.go:54", #[⟨5, .data⟩], none⟩
abbrev qbc1_7_8_7 : Oper := ⟨some 47, .extract (.tmp 40) 0, 27, "l03_log.go:54", #[⟨6, .data⟩], none⟩
abbrev qbc1_7_8_8 : Oper := ⟨some 48, .extract (.tmp 40) 1, 3, "l03_log.go:54", #[⟨6, .data⟩, { on := 10, ground := Ground.gcOnly Departure.lateStores }], none⟩
abbrev qbc1_7_8_10 : Oper := ⟨none, .store 27 (.tmp 12) (.tmp 47), 0, "l03_log.go:54", #[⟨9, .data⟩, ⟨7, .data⟩, ⟨5, .chain⟩, ⟨0, .phase⟩, ⟨1, .phase⟩, ⟨2, .phase⟩, ⟨3, .phase⟩, ⟨4, .phase⟩, ⟨5, .phase⟩, ⟨6, .phase⟩, ⟨7, .phase⟩, { on := 8, ground := Ground.textOnly Departure.lateStores }, ⟨9, .phase⟩], none⟩
abbrev qbc1_7_8_11 : Oper := ⟨some 7, .assign (.tmp 48), 3, "l03_log.go:54", #[⟨8, .data⟩, ⟨10, .chain⟩, ⟨0, .phase⟩, ⟨1, .phase⟩, ⟨2, .phase⟩, ⟨3, .phase⟩, ⟨4, .phase⟩, ⟨5, .phase⟩, ⟨6, .phase⟩, ⟨7, .phase⟩, ⟨8, .phase⟩, ⟨9, .phase⟩, ⟨10, .phase⟩], none⟩
set_option maxHeartbeats 8000000 in
theorem specMend_c (cs : List Value) (m : MDisk) (s : ByteArray) (w : World) (hr : rDisk w.heap.size w cs m) (hs : s.size <= 9223372036854775807) (hw : wDisk m <= 1048576) (hw1 : s.size <= 1048576) (ht : TabAt w) :
  Calls Tryz.prog 7 #[.agg cs.toArray, .string s] w fun e w' => ∃ (cs' : List Value) (v : Value), e = .returned (.tuple #[.agg cs'.toArray, v, .int .i64 (mendC m s)]) /\ rDisk w'.heap.size w' cs' (mendD m s) /\ rdBs w'.heap.size w' v (mendL m s) /\ Below w.heap.size w w' := by
 have hsz := ht.size
 have HTB := Hm ht
 clear ht
 have hq := hr
 obtain ⟨a0, c0, a1, c1, a2, c2, rfl, hI, hNm, hSf, hnx, _⟩ := hq
 have HI := Hm hI
 have HW := Hm hw
 have HR := Hm hr
 clear hr hI hNm hSf hw
 obtain ⟨wq, hwq⟩ : ∃ wq, wq = (w.alloc (.cells #[.slice a0 m.fInodes.length c0, .slice a1 m.fNames.length c1, .slice a2 m.fSafe.length c2, .int .i64 m.fNext] 27)).alloc (.cells #[.slice none 0 0, .slice none 0 0, .slice none 0 0, .int .i64 0] 27) := ⟨_, rfl⟩
 have hzq : wq.heap.size = w.heap.size + 2 := by rw [hwq]; simp
 have hbW : Below w.heap.size w wq := by rw [hwq]; exact (rB.alloc rN _).alloc (by simp) _
 have hbd : Bw wq w.heap.size 27 [.slice a0 m.fInodes.length c0, .slice a1 m.fNames.length c1, .slice a2 m.fSafe.length c2, .int .i64 m.fNext] := by rw [hwq]; exact (Bw.new _ _ _).alloc _
 have hbr : Bw wq (w.heap.size + 1) 27 [.slice none 0 0, .slice none 0 0, .slice none 0 0, .int .i64 0] := by rw [hwq]; exact Bw.new' _ _ _ (by simp)
 go_enter Tryz.func7, Tryz.ntmps7
 go_wp2_with fail
 rw [<- hwq]
 clear hwq
 refine (l2Call_any _ m s wq (rDisk_good.mono (rDisk_good.below HR.out hbW) hbW.size) HW.out hs).mono ?_
 rintro e w1 ⟨rfl, hx1⟩
 have hb1 := bthen hbW hx1
 have hd1 := hbd.under hx1
 have hr1 := hbr.under hx1
 have hz1 := hx1.size
 by_cases hc : callP m s = 0
 rotate_left
 ·have HRES := Hm (mend_no hc)
  have hwf : (Lit.int .i64 (callP m s)).wf = true := by rcases call_which m s with h | h | h <;> rw [h] <;> rfl
  generalize callP m s = c at *
  have hcd : decide (c = 0) = false := decide_eq_false hc
  have hdl := hd1.lt
  obtain ⟨x0, x1, x2, x3⟩ := hd1.c4
  go_wp2_with fail
  refine (l2Copy_any _ m w1 (rDisk_good.mono (rDisk_good.below HR.out hb1) hb1.size) HW.out).mono ?_
  rintro e w7 ⟨cs7, F7, rfl, ho7, hN7, hge7, hx7⟩
  obtain ⟨q0, qp0, q1, qp1, q2, qp2, E0, E1, E2, rfl, _, _, _, _, rfl⟩ := oDisk_cells ho7
  have hr7 := hr1.under hx7
  have hz7 := hx7.size
  have hzz := hr1.lt
  have hgF : ∀ b, b ∈ E0 ++ E1 ++ E2 ++ [] -> w.heap.size + 2 <= b := fun b hb => by have := hge7 b hb; omega
  have HGF := Hm hgF
  have HNF := Hm hN7
  have hal : Below w7.heap.size w7 (w7.alloc (.cells #[] 22)) := rB.alloc rN _
  have ho8 := oDisk_good.frame ho7 (fun b hb => hal.block b (oDisk_good.lt ho7 b hb))
  have hr8 := hr7.under hal
  have u0 : (w7.alloc (.cells #[] 22)).cell? ⟨w.heap.size + 1, 0, none⟩ = some (.slice none 0 0) := (hr8).cell 0 _ rfl
  have uf0 : (w7.alloc (.cells #[] 22)).frozen? ⟨w.heap.size + 1, 0, none⟩ = false := (hr8).free 0
  have u1 : (w7.alloc (.cells #[] 22)).cell? ⟨w.heap.size + 1, 1, none⟩ = some (.slice none 0 0) := (hr8).cell 1 _ rfl
  have uf1 : (w7.alloc (.cells #[] 22)).frozen? ⟨w.heap.size + 1, 1, none⟩ = false := (hr8).free 1
  have u2 : (w7.alloc (.cells #[] 22)).cell? ⟨w.heap.size + 1, 2, none⟩ = some (.slice none 0 0) := (hr8).cell 2 _ rfl
  have uf2 : (w7.alloc (.cells #[] 22)).frozen? ⟨w.heap.size + 1, 2, none⟩ = false := (hr8).free 2
  have u3 : (w7.alloc (.cells #[] 22)).cell? ⟨w.heap.size + 1, 3, none⟩ = some (.int .i64 0) := (hr8).cell 3 _ rfl
  have uf3 : (w7.alloc (.cells #[] 22)).frozen? ⟨w.heap.size + 1, 3, none⟩ = false := (hr8).free 3
  have hul := hr8.lt
  have hT := turn4 (w7.alloc (.cells #[] 22)) (w.heap.size + 1) (.slice q0 m.fInodes.length qp0) (.slice q1 m.fNames.length qp1) (.slice q2 m.fSafe.length qp2) (.int .i64 m.fNext)
  have HBF : Hid (Below w.heap.size w (((((w7.alloc (.cells #[] 22)).setCell ⟨w.heap.size + 1, 0, none⟩ (.slice q0 m.fInodes.length qp0)).setCell ⟨w.heap.size + 1, 1, none⟩ (.slice q1 m.fNames.length qp1)).setCell ⟨w.heap.size + 1, 2, none⟩ (.slice q2 m.fSafe.length qp2)).setCell ⟨w.heap.size + 1, 3, none⟩ (.int .i64 m.fNext))) := (bthen (bthen hb1 hx7) hal).trans (hT.below (fun k hk => by simp at hk; omega) (bthen (bthen hb1 hx7) hal).size)
  have HOF : Hid (rDisk (((((w7.alloc (.cells #[] 22)).setCell ⟨w.heap.size + 1, 0, none⟩ (.slice q0 m.fInodes.length qp0)).setCell ⟨w.heap.size + 1, 1, none⟩ (.slice q1 m.fNames.length qp1)).setCell ⟨w.heap.size + 1, 2, none⟩ (.slice q2 m.fSafe.length qp2)).setCell ⟨w.heap.size + 1, 3, none⟩ (.int .i64 m.fNext)).heap.size (((((w7.alloc (.cells #[] 22)).setCell ⟨w.heap.size + 1, 0, none⟩ (.slice q0 m.fInodes.length qp0)).setCell ⟨w.heap.size + 1, 1, none⟩ (.slice q1 m.fNames.length qp1)).setCell ⟨w.heap.size + 1, 2, none⟩ (.slice q2 m.fSafe.length qp2)).setCell ⟨w.heap.size + 1, 3, none⟩ (.int .i64 m.fNext)) [.slice q0 m.fInodes.length qp0, .slice q1 m.fNames.length qp1, .slice q2 m.fSafe.length qp2, .int .i64 m.fNext] m) := by
   have hz : (((((w7.alloc (.cells #[] 22)).setCell ⟨w.heap.size + 1, 0, none⟩ (.slice q0 m.fInodes.length qp0)).setCell ⟨w.heap.size + 1, 1, none⟩ (.slice q1 m.fNames.length qp1)).setCell ⟨w.heap.size + 1, 2, none⟩ (.slice q2 m.fSafe.length qp2)).setCell ⟨w.heap.size + 1, 3, none⟩ (.int .i64 m.fNext)).heap.size = (w7.alloc (.cells #[] 22)).heap.size := by simp
   unfold Hid
   rw [hz]
   exact rDisk_turn (Bw.dzero hr8) hT (oDisk_good.read ho8)
  have HLF : Hid (rdBs (((((w7.alloc (.cells #[] 22)).setCell ⟨w.heap.size + 1, 0, none⟩ (.slice q0 m.fInodes.length qp0)).setCell ⟨w.heap.size + 1, 1, none⟩ (.slice q1 m.fNames.length qp1)).setCell ⟨w.heap.size + 1, 2, none⟩ (.slice q2 m.fSafe.length qp2)).setCell ⟨w.heap.size + 1, 3, none⟩ (.int .i64 m.fNext)).heap.size (((((w7.alloc (.cells #[] 22)).setCell ⟨w.heap.size + 1, 0, none⟩ (.slice q0 m.fInodes.length qp0)).setCell ⟨w.heap.size + 1, 1, none⟩ (.slice q1 m.fNames.length qp1)).setCell ⟨w.heap.size + 1, 2, none⟩ (.slice q2 m.fSafe.length qp2)).setCell ⟨w.heap.size + 1, 3, none⟩ (.int .i64 m.fNext)) (.slice (some ⟨w7.heap.size, 0, none⟩) 0 0) []) := ⟨_, _, rfl, rN, by omega, fun j hj => by simp at hj⟩
  clear hT
  go_wp2_with fail
  exact bodyPost_ret (v := .tuple #[.agg #[.slice q0 m.fInodes.length qp0, .slice q1 m.fNames.length qp1, .slice q2 m.fSafe.length qp2, .int .i64 m.fNext], .slice (some ⟨w7.heap.size, 0, none⟩) 0 0, .int .i64 c]) (by simp [results, Tryz.results7, go_sem, *]) rfl ⟨[.slice q0 m.fInodes.length qp0, .slice q1 m.fNames.length qp1, .slice q2 m.fSafe.length qp2, .int .i64 m.fNext], _, by rw [show mendC m s = c from congrArg (fun r => r.2.2) HRES.out], by rw [show mendD m s = m from congrArg (fun r => r.1) HRES.out]; exact HOF.out, by rw [show mendL m s = _ from congrArg (fun r => r.2.1) HRES.out]; exact HLF.out, HBF.out⟩
 have HC := Hm hc
 rw [hc]
 obtain ⟨x0, x1, x2, x3⟩ := hd1.c4
 have hdl := hd1.lt
 go_wp2_with fail
 refine (specBytes_c _ m s w1 (rDisk_good.mono (rDisk_good.below HR.out hb1) hb1.size) hs HW.out hw1).mono ?_
 rintro e w2 ⟨v2, rfl, hrb, hx2⟩
 have hbp : bytesP m s = dataOf m s := by unfold bytesP; rw [if_pos HC.out]
 rw [hbp] at hrb
 obtain ⟨ad, cd, rfl, hlb⟩ := hrb
 have hb2 := bthen hb1 hx2
 have hd2 := hd1.under hx2
 have hr2 := hr1.under hx2
 have HLB := Hm hlb
 clear x0 x1 x2 x3 hdl hlb hbp hd1 hr1 hbd hbr
 have hdl2 : (dataOf m s).length <= 1048576 := by
  have hok := ok_weight (call_good HC.out).1
  obtain ⟨hk, hid⟩ := file_at HC.out
  have h1 := sumW_le (f := wInode) hk
  have h2 : dataOf m s = m.fInodes[fileAt m s].fData := by unfold dataOf; have h3 : placeOf m.fInodes (idOf m.fNames s) = fileAt m s := rfl; rw [h3, List.getElem?_eq_getElem hk]; rfl
  rw [h2]
  have h4 : wInode m.fInodes[fileAt m s] = m.fInodes[fileAt m s].fData.length := rfl
  omega
 have HWH := Hm (fun h => mend_whole HC.out h)
 have HGD := Hm (fun h => mend_good HC.out h)
 have HBD := Hm (fun h => mend_bad HC.out h)
 have HFO : Hid (foreP m s = (dataOf m s).take (recsP (dataOf m s)).2.toNat) := rfl
 have HPB := Hm (recs_place HLB.out.2.2.2)
 go_wp2_with fail
 refine (specRecords_any ad (dataOf m s).length cd (dataOf m s) w2 rfl hdl2 HLB.out.1 HLB.out.2.2.2 HLB.out.2.2.1).mono ?_
 rintro e w3 ⟨vl, FL, rfl, hol, hNL, hgl, hx3⟩
 obtain ⟨dt, hdt⟩ : ∃ dt, dt = dataOf m s := ⟨_, rfl⟩
 rw [<- hdt] at hol HWH HGD HBD HFO HPB HLB hdl2 ⊢
 have HDT := Hm hdt
 clear hdt
 obtain ⟨bo, hbo⟩ : ∃ bo, bo = (recsP dt).1 := ⟨_, rfl⟩
 obtain ⟨pl, hpl⟩ : ∃ pl : Nat, (recsP dt).2 = (pl : Int) := ⟨(recsP dt).2.toNat, by have := HPB.out; omega⟩
 rw [<- hbo] at hol HWH HGD
 rw [hpl] at HWH HGD HBD HFO HPB ⊢
 clear hbo hpl
 obtain ⟨la, lc, rfl, _⟩ := rdBs_own hol
 have hpl2 : pl <= dt.length := by have := HPB.out; omega
 have hb3 := bthen hb2 hx3
 have hd3 := hd2.under hx3
 have hr3 := hr2.under hx3
 have hz3 := hx3.size
 have hzz2 := hr2.lt
 have HGL : Hid (∀ b, b ∈ FL -> w.heap.size + 2 <= b) := fun b hb => by have := hgl b hb; omega
 have HNL := Hm hNL
 have HLL : Hid (∀ b, b ∈ FL -> b < w3.heap.size) := fun b hb => ownS.lt oBy_good hol b hb
 have HOL := Hm hol
 clear hol hNL hgl
 by_cases hpe : (pl : Int) = (dt.length : Int)
 ·have HRES := Hm (HWH.out hpe)
  have hpd : decide ((pl : Int) = (dt.length : Int)) = true := decide_eq_true hpe
  have hpn : pl = dt.length := by omega
  subst hpn
  have hdl := hd3.lt
  obtain ⟨x0, x1, x2, x3⟩ := hd3.c4
  go_wp2_with fail
  refine (l2Copy_any _ m w3 (rDisk_good.mono (rDisk_good.below HR.out hb3) hb3.size) HW.out).mono ?_
  rintro e w7 ⟨cs7, F7, rfl, ho7, hN7, hge7, hx7⟩
  obtain ⟨q0, qp0, q1, qp1, q2, qp2, E0, E1, E2, rfl, _, _, _, _, rfl⟩ := oDisk_cells ho7
  have hr7 := hr3.under hx7
  have hz7 := hx7.size
  have hzz := hr3.lt
  have hgF : ∀ b, b ∈ E0 ++ E1 ++ E2 ++ [] -> w.heap.size + 2 <= b := fun b hb => by have := hge7 b hb; omega
  have HGF := Hm hgF
  have HNF := Hm hN7
  have hl7 := ownS.frame oBy_good HOL.out (fun b hb => hx7.block b (ownS.lt oBy_good HOL.out b hb))
  have u0 : w7.cell? ⟨w.heap.size + 1, 0, none⟩ = some (.slice none 0 0) := (hr7).cell 0 _ rfl
  have uf0 : w7.frozen? ⟨w.heap.size + 1, 0, none⟩ = false := (hr7).free 0
  have u1 : w7.cell? ⟨w.heap.size + 1, 1, none⟩ = some (.slice none 0 0) := (hr7).cell 1 _ rfl
  have uf1 : w7.frozen? ⟨w.heap.size + 1, 1, none⟩ = false := (hr7).free 1
  have u2 : w7.cell? ⟨w.heap.size + 1, 2, none⟩ = some (.slice none 0 0) := (hr7).cell 2 _ rfl
  have uf2 : w7.frozen? ⟨w.heap.size + 1, 2, none⟩ = false := (hr7).free 2
  have u3 : w7.cell? ⟨w.heap.size + 1, 3, none⟩ = some (.int .i64 0) := (hr7).cell 3 _ rfl
  have uf3 : w7.frozen? ⟨w.heap.size + 1, 3, none⟩ = false := (hr7).free 3
  have hul := hr7.lt
  have hT := turn4 w7 (w.heap.size + 1) (.slice q0 m.fInodes.length qp0) (.slice q1 m.fNames.length qp1) (.slice q2 m.fSafe.length qp2) (.int .i64 m.fNext)
  have HBF : Hid (Below w.heap.size w ((((w7.setCell ⟨w.heap.size + 1, 0, none⟩ (.slice q0 m.fInodes.length qp0)).setCell ⟨w.heap.size + 1, 1, none⟩ (.slice q1 m.fNames.length qp1)).setCell ⟨w.heap.size + 1, 2, none⟩ (.slice q2 m.fSafe.length qp2)).setCell ⟨w.heap.size + 1, 3, none⟩ (.int .i64 m.fNext))) := (bthen hb3 hx7).trans (hT.below (fun k hk => by simp at hk; omega) (bthen hb3 hx7).size)
  have HOF : Hid (rDisk ((((w7.setCell ⟨w.heap.size + 1, 0, none⟩ (.slice q0 m.fInodes.length qp0)).setCell ⟨w.heap.size + 1, 1, none⟩ (.slice q1 m.fNames.length qp1)).setCell ⟨w.heap.size + 1, 2, none⟩ (.slice q2 m.fSafe.length qp2)).setCell ⟨w.heap.size + 1, 3, none⟩ (.int .i64 m.fNext)).heap.size ((((w7.setCell ⟨w.heap.size + 1, 0, none⟩ (.slice q0 m.fInodes.length qp0)).setCell ⟨w.heap.size + 1, 1, none⟩ (.slice q1 m.fNames.length qp1)).setCell ⟨w.heap.size + 1, 2, none⟩ (.slice q2 m.fSafe.length qp2)).setCell ⟨w.heap.size + 1, 3, none⟩ (.int .i64 m.fNext)) [.slice q0 m.fInodes.length qp0, .slice q1 m.fNames.length qp1, .slice q2 m.fSafe.length qp2, .int .i64 m.fNext] m) := by
   have hz : ((((w7.setCell ⟨w.heap.size + 1, 0, none⟩ (.slice q0 m.fInodes.length qp0)).setCell ⟨w.heap.size + 1, 1, none⟩ (.slice q1 m.fNames.length qp1)).setCell ⟨w.heap.size + 1, 2, none⟩ (.slice q2 m.fSafe.length qp2)).setCell ⟨w.heap.size + 1, 3, none⟩ (.int .i64 m.fNext)).heap.size = w7.heap.size := by simp
   unfold Hid
   rw [hz]
   exact rDisk_turn (Bw.dzero hr7) hT (oDisk_good.read ho7)
  have hlf := ownS.frame (w' := ((((w7.setCell ⟨w.heap.size + 1, 0, none⟩ (.slice q0 m.fInodes.length qp0)).setCell ⟨w.heap.size + 1, 1, none⟩ (.slice q1 m.fNames.length qp1)).setCell ⟨w.heap.size + 1, 2, none⟩ (.slice q2 m.fSafe.length qp2)).setCell ⟨w.heap.size + 1, 3, none⟩ (.int .i64 m.fNext))) oBy_good hl7 (fun b hb => hT.block b (ownS.lt oBy_good hl7 b hb) (by intro h; simp at h; have := HGL.out b hb; omega))
  have HLF : Hid (rdBs ((((w7.setCell ⟨w.heap.size + 1, 0, none⟩ (.slice q0 m.fInodes.length qp0)).setCell ⟨w.heap.size + 1, 1, none⟩ (.slice q1 m.fNames.length qp1)).setCell ⟨w.heap.size + 1, 2, none⟩ (.slice q2 m.fSafe.length qp2)).setCell ⟨w.heap.size + 1, 3, none⟩ (.int .i64 m.fNext)).heap.size ((((w7.setCell ⟨w.heap.size + 1, 0, none⟩ (.slice q0 m.fInodes.length qp0)).setCell ⟨w.heap.size + 1, 1, none⟩ (.slice q1 m.fNames.length qp1)).setCell ⟨w.heap.size + 1, 2, none⟩ (.slice q2 m.fSafe.length qp2)).setCell ⟨w.heap.size + 1, 3, none⟩ (.int .i64 m.fNext)) (.slice la bo.length lc) _) := rdBs_own hlf
  clear hlf
  clear hT
  go_wp2_with fail
  exact bodyPost_ret (v := .tuple #[.agg #[.slice q0 m.fInodes.length qp0, .slice q1 m.fNames.length qp1, .slice q2 m.fSafe.length qp2, .int .i64 m.fNext], .slice la bo.length lc, .int .i64 0]) (by simp [results, Tryz.results7, go_sem, *]) rfl ⟨[.slice q0 m.fInodes.length qp0, .slice q1 m.fNames.length qp1, .slice q2 m.fSafe.length qp2, .int .i64 m.fNext], _, by rw [show mendC m s = 0 from congrArg (fun r => r.2.2) HRES.out], by rw [show mendD m s = m from congrArg (fun r => r.1) HRES.out]; exact HOF.out, by rw [show mendL m s = _ from congrArg (fun r => r.2.1) HRES.out]; exact HLF.out, HBF.out⟩
 ·have hpd : decide ((pl : Int) = (dt.length : Int)) = false := decide_eq_false hpe
  have HGD2 := Hm (HGD.out hpe)
  have HBD2 := Hm (HBD.out hpe)
  clear HGD HBD HWH
  have HFO2 : Hid (foreP m s = dt.take pl) := by show _ = _; rw [HFO.out]; simp
  have htk : (dt.take pl).length = pl := by simp; omega
  have HRB : Hid (∀ W, Below w3.heap.size w3 W -> rdB W.heap.size W (.slice ad pl cd) (foreP m s)) := fun W hb => by
   have h := (LeafB.mono (HLB.out.below hx3) hx3.size)
   have h2 := LeafB.mono (h.below hb) hb.size
   rw [HFO2.out]
   exact ⟨ad, cd, by rw [htk], by rw [htk]; have := h2.1; omega, h2.2.1, Rd.front h2.2.2.1 pl, fun z hz => h2.2.2.2 z (List.mem_of_mem_take hz)⟩
  have hfl : (foreP m s).length <= 1048576 := by rw [HFO2.out, htk]; omega
  have hcap : (pl : Int) <= (cd : Int) := by have := HLB.out.1; omega
  generalize foreP m s = fo at *
  have p0 : ∀ W, Bw W w.heap.size 27 [.slice a0 m.fInodes.length c0, .slice a1 m.fNames.length c1, .slice a2 m.fSafe.length c2, .int .i64 m.fNext] -> W.cell? ⟨w.heap.size, 0, none⟩ = some (.slice a0 m.fInodes.length c0) := fun W h => h.cell 0 _ rfl
  have p1 : ∀ W, Bw W w.heap.size 27 [.slice a0 m.fInodes.length c0, .slice a1 m.fNames.length c1, .slice a2 m.fSafe.length c2, .int .i64 m.fNext] -> W.cell? ⟨w.heap.size, 1, none⟩ = some (.slice a1 m.fNames.length c1) := fun W h => h.cell 1 _ rfl
  have p2 : ∀ W, Bw W w.heap.size 27 [.slice a0 m.fInodes.length c0, .slice a1 m.fNames.length c1, .slice a2 m.fSafe.length c2, .int .i64 m.fNext] -> W.cell? ⟨w.heap.size, 2, none⟩ = some (.slice a2 m.fSafe.length c2) := fun W h => h.cell 2 _ rfl
  have p3 : ∀ W, Bw W w.heap.size 27 [.slice a0 m.fInodes.length c0, .slice a1 m.fNames.length c1, .slice a2 m.fSafe.length c2, .int .i64 m.fNext] -> W.cell? ⟨w.heap.size, 3, none⟩ = some (.int .i64 m.fNext) := fun W h => h.cell 3 _ rfl
  have hd3l := hd3.lt
  go_wp2_with fail
  refine wp_region_held_drew (S := fun W => Bw W w.heap.size 27 [.slice a0 m.fInodes.length c0, .slice a1 m.fNames.length c1, .slice a2 m.fSafe.length c2, .int .i64 m.fNext]) (by kernel_rfl) (hd3.drew) (fun hZ => ?_)
  obtain ⟨wS, hwS⟩ : ∃ wS, wS = w3.drew := ⟨_, rfl⟩
  have hbS : Below w3.heap.size w3 wS := by rw [hwS]; exact Below.drew rB
  have HOw : Hid (ownS 1 22 oBy wS (.slice la bo.length lc) bo FL) := ownS.frame oBy_good HOL.out (fun b hb => hbS.block b (HLL.out b hb))
  have hrS := hr3.under hbS
  have hdwS : Bw wS w.heap.size 27 [.slice a0 m.fInodes.length c0, .slice a1 m.fNames.length c1, .slice a2 m.fSafe.length c2, .int .i64 m.fNext] := hd3.under hbS
  have hbwS := bthen hb3 hbS
  rw [<- hwS] at hZ ⊢
  clear hwS
  refine uq 0 qbc1_7_8_0 41 hZ ?_
  refine uq 1 qbc1_7_8_1 42 hZ ?_
  refine uq 2 qbc1_7_8_2 43 hZ ?_
  refine uq 3 qbc1_7_8_3 44 hZ ?_
  refine uq 4 qbc1_7_8_4 45 hZ ?_
  refine arR [5, 9] ?_
  refine (AllReadyH.cons (o := qbc1_7_8_5) rfl (fun K hK => ?_) (AllReadyH.cons (o := qbc1_7_8_9) rfl (fun K hK => ?_) AllReadyH.nil))
  ·go_simp
   have hfw := (show Below wS.heap.size wS wS from rB)
   have hb5S : w3.heap.size <= wS.heap.size := Nat.le_trans hbS.size hfw.size
   refine Calls.mono (l3Mend_any _ m s (.slice ad pl cd) fo wS (rDisk_good.mono (rDisk_good.below HR.out (bthen hbwS hfw)) (bthen hbwS hfw).size) HW.out hw1 (HRB.out _ (bthen hbS hfw)) hfl) ?_
   obtain ⟨d5, hd5⟩ : ∃ d5, d5 = (switchP m mendN fo s).1 := ⟨_, rfl⟩
   obtain ⟨c5, hc5⟩ : ∃ c5, c5 = (switchP m mendN fo s).2 := ⟨_, rfl⟩
   rw [<- hd5, <- hc5]
   have HD5 := Hm hd5
   have HC5 := Hm hc5
   clear hd5 hc5
   rintro e wE5 ⟨cs5, rfl, hr5, hx5⟩
   obtain ⟨z0, zp0, z1, zp1, z2, zp2, rfl, _⟩ := id hr5
   have hop5 : Below wS.heap.size wS wE5 := hx5
   have hdwE5 := hdwS.under hop5
   go_wp2_with fail
   refine hK.out _ _ (hdwE5) (fun hZ => ?_)
   clear hK K
   try simp only[Act.put,sa,s0,s1]
   refine uq 6 qbc1_7_8_6 40 hZ ?_
   refine uq 7 qbc1_7_8_7 47 hZ ?_
   refine uq 8 qbc1_7_8_8 48 hZ ?_
   refine ar1 9 qbc1_7_8_9 fun K hK => ?_
   ·go_simp
    obtain ⟨wE9, hq9⟩ : ∃ q, q = wE5.alloc (.cells #[.slice none 0 0, .slice none 0 0, .slice none 0 0, .int .i64 0] 27) := ⟨_, rfl⟩
    have hop9 : Below wE5.heap.size wE5 wE9 := by rw [hq9]; exact rB.alloc rN _
    have hdwE9 := hdwE5.under hop9
    obtain ⟨g9, HG9⟩ : ∃ z, Hid (z = wE5.heap.size) := ⟨_, Hm rfl⟩
    have HB9 : Hid (Bw wE9 g9 27 [.slice none 0 0, .slice none 0 0, .slice none 0 0, .int .i64 0]) := by unfold Hid; rw [HG9.out, hq9]; exact Bw.new _ _ _
    have hgp3 : w3.heap.size <= g9 := by rw [HG9.out]; exact Nat.le_trans hbS.size (Below.size (show Below wS.heap.size wS wE5 from bthen rB hop5))
    have hgp : w.heap.size + 2 <= g9 := by have := hr3.lt; omega
    rw [<- HG9.out]
    rw [<- hq9]
    clear hq9
    refine hK.out _ _ (hdwE9) (fun hZ => ?_)
    clear hK K
    try simp only[Act.put,sa,s0,s1]
    refine ar1 10 qbc1_7_8_10 fun K hK => ?_
    ·skip
     have hb9 := HB9.out.under (show Below wE9.heap.size wE9 wE9 from rB)
     obtain ⟨s0, sf0, s1, sf1, s2, sf2, s3, sf3⟩ := hb9.c8
     have hl9 := hb9.lt
     go_simp
     obtain ⟨wE10, hq10⟩ : ∃ q, q = ((((wE9.setCell ⟨g9, 0, none⟩ (.slice z0 d5.fInodes.length zp0)).setCell ⟨g9, 1, none⟩ (.slice z1 d5.fNames.length zp1)).setCell ⟨g9, 2, none⟩ (.slice z2 d5.fSafe.length zp2)).setCell ⟨g9, 3, none⟩ (.int .i64 d5.fNext)) := ⟨_, rfl⟩
     have hT10 : Turn [g9] wE9 wE10 := by rw [hq10]; exact turn4 _ _ _ _ _ _
     have hbx : Bw wE10 g9 27 [.slice z0 d5.fInodes.length zp0, .slice z1 d5.fNames.length zp1, .slice z2 d5.fSafe.length zp2, .int .i64 d5.fNext] := by rw [hq10]; exact hb9.put4 rfl _ _ _ _
     have hdwE10 : Bw wE10 w.heap.size 27 [.slice a0 m.fInodes.length c0, .slice a1 m.fNames.length c1, .slice a2 m.fSafe.length c2, .int .i64 m.fNext] := hdwE9.turn hT10 (by simp; omega)
     have hfp := (show Below wS.heap.size wS wE9 from bthen (bthen rB hop5) hop9)
     have hpS := (show Below wE5.heap.size wE5 wE9 from bthen rB hop9)
     rw [<- hq10]
     clear hq10 hb9 s0 s1 s2 s3 sf0 sf1 sf2 sf3
     refine hK.out _ _ (hdwE10) (fun hZ => ?_)
     clear hK K
     try simp only[Act.put,sa,s0,s1]
     refine uq 11 qbc1_7_8_11 7 hZ ?_
     refine wpAnyH_done (by kernel_rfl) ?_ _
     have hgo := (show Below wE9.heap.size wE9 wE9 from rB)
     have hbp := bthen hbS hfp
     have HB10 : Below w.heap.size w wE10 := (bthen hb3 hbp).trans (hT10.below (fun k hk => by simp at hk; omega) (bthen hb3 hbp).size)
     have hr10 : Bw wE10 (w.heap.size + 1) 27 [.slice none 0 0, .slice none 0 0, .slice none 0 0, .int .i64 0] := (hr3.under hbp).turn hT10 (by simp; omega)
     have hol10 : ownS 1 22 oBy wE10 (.slice la bo.length lc) bo FL := ownS.frame oBy_good (ownS.frame oBy_good HOL.out (fun b hb => hbp.block b (HLL.out b hb))) (fun b hb => hT10.block b (by have := HLL.out b hb; have := hbp.size; omega) (by intro h; simp at h; have := HLL.out b hb; omega))
     have hr510 : rDisk wE10.heap.size wE10 [.slice z0 d5.fInodes.length zp0, .slice z1 d5.fNames.length zp1, .slice z2 d5.fSafe.length zp2, .int .i64 d5.fNext] d5 := by have h := rDisk_turn (Bw.dzero (HB9.out.under hgo)) hT10 (rDisk_good.mono (rDisk_good.below hr5 hpS) hpS.size); exact rDisk_good.mono h hT10.size
     by_cases hcz : c5 = 0
     rotate_left
     ·have HRES : Hid (mendR m s = (m, [], c5)) := by show _ = _; rw [HBD2.out (by rw [<- HC5.out]; exact hcz), <- HC5.out]
      have hczd : decide (c5 = 0) = false := decide_eq_false hcz
      clear HGD2 HBD2 hol10 hr510
      obtain ⟨w6, hw6⟩ : ∃ w6, w6 = wE10 := ⟨_, rfl⟩
      rw [<- hw6] at HB10 hr10 hdwE10 ⊢
      clear hw6
      have hdl := hdwE10.lt
      obtain ⟨x0, x1, x2, x3⟩ := hdwE10.c4
      go_wp2_with fail
      refine (l2Copy_any _ m w6 (rDisk_good.mono (rDisk_good.below HR.out HB10) HB10.size) HW.out).mono ?_
      rintro e w7 ⟨cs7, F7, rfl, ho7, hN7, hge7, hx7⟩
      obtain ⟨q0, qp0, q1, qp1, q2, qp2, E0, E1, E2, rfl, _, _, _, _, rfl⟩ := oDisk_cells ho7
      have hr7 := hr10.under hx7
      have hz7 := hx7.size
      have hzz := hr10.lt
      have hgF : ∀ b, b ∈ E0 ++ E1 ++ E2 ++ [] -> w.heap.size + 2 <= b := fun b hb => by have := hge7 b hb; omega
      have HGF := Hm hgF
      have HNF := Hm hN7
      have hal : Below w7.heap.size w7 (w7.alloc (.cells #[] 22)) := rB.alloc rN _
      have ho8 := oDisk_good.frame ho7 (fun b hb => hal.block b (oDisk_good.lt ho7 b hb))
      have hr8 := hr7.under hal
      have u0 : (w7.alloc (.cells #[] 22)).cell? ⟨w.heap.size + 1, 0, none⟩ = some (.slice none 0 0) := (hr8).cell 0 _ rfl
      have uf0 : (w7.alloc (.cells #[] 22)).frozen? ⟨w.heap.size + 1, 0, none⟩ = false := (hr8).free 0
      have u1 : (w7.alloc (.cells #[] 22)).cell? ⟨w.heap.size + 1, 1, none⟩ = some (.slice none 0 0) := (hr8).cell 1 _ rfl
      have uf1 : (w7.alloc (.cells #[] 22)).frozen? ⟨w.heap.size + 1, 1, none⟩ = false := (hr8).free 1
      have u2 : (w7.alloc (.cells #[] 22)).cell? ⟨w.heap.size + 1, 2, none⟩ = some (.slice none 0 0) := (hr8).cell 2 _ rfl
      have uf2 : (w7.alloc (.cells #[] 22)).frozen? ⟨w.heap.size + 1, 2, none⟩ = false := (hr8).free 2
      have u3 : (w7.alloc (.cells #[] 22)).cell? ⟨w.heap.size + 1, 3, none⟩ = some (.int .i64 0) := (hr8).cell 3 _ rfl
      have uf3 : (w7.alloc (.cells #[] 22)).frozen? ⟨w.heap.size + 1, 3, none⟩ = false := (hr8).free 3
      have hul := hr8.lt
      have hT := turn4 (w7.alloc (.cells #[] 22)) (w.heap.size + 1) (.slice q0 m.fInodes.length qp0) (.slice q1 m.fNames.length qp1) (.slice q2 m.fSafe.length qp2) (.int .i64 m.fNext)
      have HBF : Hid (Below w.heap.size w (((((w7.alloc (.cells #[] 22)).setCell ⟨w.heap.size + 1, 0, none⟩ (.slice q0 m.fInodes.length qp0)).setCell ⟨w.heap.size + 1, 1, none⟩ (.slice q1 m.fNames.length qp1)).setCell ⟨w.heap.size + 1, 2, none⟩ (.slice q2 m.fSafe.length qp2)).setCell ⟨w.heap.size + 1, 3, none⟩ (.int .i64 m.fNext))) := (bthen (bthen HB10 hx7) hal).trans (hT.below (fun k hk => by simp at hk; omega) (bthen (bthen HB10 hx7) hal).size)
      have HOF : Hid (rDisk (((((w7.alloc (.cells #[] 22)).setCell ⟨w.heap.size + 1, 0, none⟩ (.slice q0 m.fInodes.length qp0)).setCell ⟨w.heap.size + 1, 1, none⟩ (.slice q1 m.fNames.length qp1)).setCell ⟨w.heap.size + 1, 2, none⟩ (.slice q2 m.fSafe.length qp2)).setCell ⟨w.heap.size + 1, 3, none⟩ (.int .i64 m.fNext)).heap.size (((((w7.alloc (.cells #[] 22)).setCell ⟨w.heap.size + 1, 0, none⟩ (.slice q0 m.fInodes.length qp0)).setCell ⟨w.heap.size + 1, 1, none⟩ (.slice q1 m.fNames.length qp1)).setCell ⟨w.heap.size + 1, 2, none⟩ (.slice q2 m.fSafe.length qp2)).setCell ⟨w.heap.size + 1, 3, none⟩ (.int .i64 m.fNext)) [.slice q0 m.fInodes.length qp0, .slice q1 m.fNames.length qp1, .slice q2 m.fSafe.length qp2, .int .i64 m.fNext] m) := by
       have hz : (((((w7.alloc (.cells #[] 22)).setCell ⟨w.heap.size + 1, 0, none⟩ (.slice q0 m.fInodes.length qp0)).setCell ⟨w.heap.size + 1, 1, none⟩ (.slice q1 m.fNames.length qp1)).setCell ⟨w.heap.size + 1, 2, none⟩ (.slice q2 m.fSafe.length qp2)).setCell ⟨w.heap.size + 1, 3, none⟩ (.int .i64 m.fNext)).heap.size = (w7.alloc (.cells #[] 22)).heap.size := by simp
       unfold Hid
       rw [hz]
       exact rDisk_turn (Bw.dzero hr8) hT (oDisk_good.read ho8)
      have HLF : Hid (rdBs (((((w7.alloc (.cells #[] 22)).setCell ⟨w.heap.size + 1, 0, none⟩ (.slice q0 m.fInodes.length qp0)).setCell ⟨w.heap.size + 1, 1, none⟩ (.slice q1 m.fNames.length qp1)).setCell ⟨w.heap.size + 1, 2, none⟩ (.slice q2 m.fSafe.length qp2)).setCell ⟨w.heap.size + 1, 3, none⟩ (.int .i64 m.fNext)).heap.size (((((w7.alloc (.cells #[] 22)).setCell ⟨w.heap.size + 1, 0, none⟩ (.slice q0 m.fInodes.length qp0)).setCell ⟨w.heap.size + 1, 1, none⟩ (.slice q1 m.fNames.length qp1)).setCell ⟨w.heap.size + 1, 2, none⟩ (.slice q2 m.fSafe.length qp2)).setCell ⟨w.heap.size + 1, 3, none⟩ (.int .i64 m.fNext)) (.slice (some ⟨w7.heap.size, 0, none⟩) 0 0) []) := ⟨_, _, rfl, rN, by omega, fun j hj => by simp at hj⟩
      clear hT
      go_wp2_with fail
      exact bodyPost_ret (v := .tuple #[.agg #[.slice q0 m.fInodes.length qp0, .slice q1 m.fNames.length qp1, .slice q2 m.fSafe.length qp2, .int .i64 m.fNext], .slice (some ⟨w7.heap.size, 0, none⟩) 0 0, .int .i64 c5]) (by simp [results, Tryz.results7, go_sem, *]) rfl ⟨[.slice q0 m.fInodes.length qp0, .slice q1 m.fNames.length qp1, .slice q2 m.fSafe.length qp2, .int .i64 m.fNext], _, by rw [show mendC m s = c5 from congrArg (fun r => r.2.2) HRES.out], by rw [show mendD m s = m from congrArg (fun r => r.1) HRES.out]; exact HOF.out, by rw [show mendL m s = _ from congrArg (fun r => r.2.1) HRES.out]; exact HLF.out, HBF.out⟩
     ·have HRES : Hid (mendR m s = (d5, bo, 0)) := by show _ = _; rw [HGD2.out (by rw [<- HC5.out]; exact hcz), <- HD5.out]
      clear HGD2 HBD2
      subst hcz
      have u0 : wE10.cell? ⟨w.heap.size + 1, 0, none⟩ = some (.slice none 0 0) := (hr10).cell 0 _ rfl
      have uf0 : wE10.frozen? ⟨w.heap.size + 1, 0, none⟩ = false := (hr10).free 0
      have u1 : wE10.cell? ⟨w.heap.size + 1, 1, none⟩ = some (.slice none 0 0) := (hr10).cell 1 _ rfl
      have uf1 : wE10.frozen? ⟨w.heap.size + 1, 1, none⟩ = false := (hr10).free 1
      have u2 : wE10.cell? ⟨w.heap.size + 1, 2, none⟩ = some (.slice none 0 0) := (hr10).cell 2 _ rfl
      have uf2 : wE10.frozen? ⟨w.heap.size + 1, 2, none⟩ = false := (hr10).free 2
      have u3 : wE10.cell? ⟨w.heap.size + 1, 3, none⟩ = some (.int .i64 0) := (hr10).cell 3 _ rfl
      have uf3 : wE10.frozen? ⟨w.heap.size + 1, 3, none⟩ = false := (hr10).free 3
      have hul := hr10.lt
      obtain ⟨b0, b1, b2, b3⟩ := hbx.c4
      have hxl := hbx.lt
      have hT := turn4 wE10 (w.heap.size + 1) (.slice z0 d5.fInodes.length zp0) (.slice z1 d5.fNames.length zp1) (.slice z2 d5.fSafe.length zp2) (.int .i64 d5.fNext)
      have HBF : Hid (Below w.heap.size w ((((wE10.setCell ⟨w.heap.size + 1, 0, none⟩ (.slice z0 d5.fInodes.length zp0)).setCell ⟨w.heap.size + 1, 1, none⟩ (.slice z1 d5.fNames.length zp1)).setCell ⟨w.heap.size + 1, 2, none⟩ (.slice z2 d5.fSafe.length zp2)).setCell ⟨w.heap.size + 1, 3, none⟩ (.int .i64 d5.fNext))) := HB10.trans (hT.below (fun k hk => by simp at hk; omega) HB10.size)
      have HOF : Hid (rDisk ((((wE10.setCell ⟨w.heap.size + 1, 0, none⟩ (.slice z0 d5.fInodes.length zp0)).setCell ⟨w.heap.size + 1, 1, none⟩ (.slice z1 d5.fNames.length zp1)).setCell ⟨w.heap.size + 1, 2, none⟩ (.slice z2 d5.fSafe.length zp2)).setCell ⟨w.heap.size + 1, 3, none⟩ (.int .i64 d5.fNext)).heap.size ((((wE10.setCell ⟨w.heap.size + 1, 0, none⟩ (.slice z0 d5.fInodes.length zp0)).setCell ⟨w.heap.size + 1, 1, none⟩ (.slice z1 d5.fNames.length zp1)).setCell ⟨w.heap.size + 1, 2, none⟩ (.slice z2 d5.fSafe.length zp2)).setCell ⟨w.heap.size + 1, 3, none⟩ (.int .i64 d5.fNext)) [.slice z0 d5.fInodes.length zp0, .slice z1 d5.fNames.length zp1, .slice z2 d5.fSafe.length zp2, .int .i64 d5.fNext] d5) := by
       have hz : ((((wE10.setCell ⟨w.heap.size + 1, 0, none⟩ (.slice z0 d5.fInodes.length zp0)).setCell ⟨w.heap.size + 1, 1, none⟩ (.slice z1 d5.fNames.length zp1)).setCell ⟨w.heap.size + 1, 2, none⟩ (.slice z2 d5.fSafe.length zp2)).setCell ⟨w.heap.size + 1, 3, none⟩ (.int .i64 d5.fNext)).heap.size = wE10.heap.size := by simp
       unfold Hid
       rw [hz]
       exact rDisk_turn (Bw.dzero hr10) hT hr510
      have hlf := ownS.frame (w' := ((((wE10.setCell ⟨w.heap.size + 1, 0, none⟩ (.slice z0 d5.fInodes.length zp0)).setCell ⟨w.heap.size + 1, 1, none⟩ (.slice z1 d5.fNames.length zp1)).setCell ⟨w.heap.size + 1, 2, none⟩ (.slice z2 d5.fSafe.length zp2)).setCell ⟨w.heap.size + 1, 3, none⟩ (.int .i64 d5.fNext))) oBy_good hol10 (fun b hb => hT.block b (ownS.lt oBy_good hol10 b hb) (by intro h; simp at h; have := HGL.out b hb; omega))
      have HLF : Hid (rdBs ((((wE10.setCell ⟨w.heap.size + 1, 0, none⟩ (.slice z0 d5.fInodes.length zp0)).setCell ⟨w.heap.size + 1, 1, none⟩ (.slice z1 d5.fNames.length zp1)).setCell ⟨w.heap.size + 1, 2, none⟩ (.slice z2 d5.fSafe.length zp2)).setCell ⟨w.heap.size + 1, 3, none⟩ (.int .i64 d5.fNext)).heap.size ((((wE10.setCell ⟨w.heap.size + 1, 0, none⟩ (.slice z0 d5.fInodes.length zp0)).setCell ⟨w.heap.size + 1, 1, none⟩ (.slice z1 d5.fNames.length zp1)).setCell ⟨w.heap.size + 1, 2, none⟩ (.slice z2 d5.fSafe.length zp2)).setCell ⟨w.heap.size + 1, 3, none⟩ (.int .i64 d5.fNext)) (.slice la bo.length lc) _) := rdBs_own hlf
      clear hlf
      clear hT
      go_wp2_with fail
      exact bodyPost_ret (v := .tuple #[.agg #[.slice z0 d5.fInodes.length zp0, .slice z1 d5.fNames.length zp1, .slice z2 d5.fSafe.length zp2, .int .i64 d5.fNext], .slice la bo.length lc, .int .i64 0]) (by simp [results, Tryz.results7, go_sem, *]) rfl ⟨[.slice z0 d5.fInodes.length zp0, .slice z1 d5.fNames.length zp1, .slice z2 d5.fSafe.length zp2, .int .i64 d5.fNext], _, by rw [show mendC m s = 0 from congrArg (fun r => r.2.2) HRES.out], by rw [show mendD m s = d5 from congrArg (fun r => r.1) HRES.out]; exact HOF.out, by rw [show mendL m s = _ from congrArg (fun r => r.2.1) HRES.out]; exact HLF.out, HBF.out⟩
  ·go_simp
   obtain ⟨wE9, hq9⟩ : ∃ q, q = wS.alloc (.cells #[.slice none 0 0, .slice none 0 0, .slice none 0 0, .int .i64 0] 27) := ⟨_, rfl⟩
   have hop9 : Below wS.heap.size wS wE9 := by rw [hq9]; exact rB.alloc rN _
   have hdwE9 := hdwS.under hop9
   obtain ⟨g9, HG9⟩ : ∃ z, Hid (z = wS.heap.size) := ⟨_, Hm rfl⟩
   have HB9 : Hid (Bw wE9 g9 27 [.slice none 0 0, .slice none 0 0, .slice none 0 0, .int .i64 0]) := by unfold Hid; rw [HG9.out, hq9]; exact Bw.new _ _ _
   have hgp3 : w3.heap.size <= g9 := by rw [HG9.out]; exact Nat.le_trans hbS.size (Below.size (show Below wS.heap.size wS wS from rB))
   have hgp : w.heap.size + 2 <= g9 := by have := hr3.lt; omega
   rw [<- HG9.out]
   rw [<- hq9]
   clear hq9
   refine hK.out _ _ (hdwE9) (fun hZ => ?_)
   clear hK K
   try simp only[Act.put,sa,s0,s1]
   refine ar1 5 qbc1_7_8_5 fun K hK => ?_
   ·go_simp
    have hfw := (show Below wS.heap.size wS wE9 from bthen rB hop9)
    have hb5S : w3.heap.size <= wE9.heap.size := Nat.le_trans hbS.size hfw.size
    refine Calls.mono (l3Mend_any _ m s (.slice ad pl cd) fo wE9 (rDisk_good.mono (rDisk_good.below HR.out (bthen hbwS hfw)) (bthen hbwS hfw).size) HW.out hw1 (HRB.out _ (bthen hbS hfw)) hfl) ?_
    obtain ⟨d5, hd5⟩ : ∃ d5, d5 = (switchP m mendN fo s).1 := ⟨_, rfl⟩
    obtain ⟨c5, hc5⟩ : ∃ c5, c5 = (switchP m mendN fo s).2 := ⟨_, rfl⟩
    rw [<- hd5, <- hc5]
    have HD5 := Hm hd5
    have HC5 := Hm hc5
    clear hd5 hc5
    rintro e wE5 ⟨cs5, rfl, hr5, hx5⟩
    obtain ⟨z0, zp0, z1, zp1, z2, zp2, rfl, _⟩ := id hr5
    have hop5 : Below wE9.heap.size wE9 wE5 := hx5
    have hdwE5 := hdwE9.under hop5
    go_wp2_with fail
    refine hK.out _ _ (hdwE5) (fun hZ => ?_)
    clear hK K
    try simp only[Act.put,sa,s0,s1]
    refine uq 6 qbc1_7_8_6 40 hZ ?_
    refine uq 7 qbc1_7_8_7 47 hZ ?_
    refine uq 8 qbc1_7_8_8 48 hZ ?_
    refine ar1 10 qbc1_7_8_10 fun K hK => ?_
    ·skip
     have hb9 := HB9.out.under (show Below wE9.heap.size wE9 wE5 from bthen rB hop5)
     obtain ⟨s0, sf0, s1, sf1, s2, sf2, s3, sf3⟩ := hb9.c8
     have hl9 := hb9.lt
     go_simp
     obtain ⟨wE10, hq10⟩ : ∃ q, q = ((((wE5.setCell ⟨g9, 0, none⟩ (.slice z0 d5.fInodes.length zp0)).setCell ⟨g9, 1, none⟩ (.slice z1 d5.fNames.length zp1)).setCell ⟨g9, 2, none⟩ (.slice z2 d5.fSafe.length zp2)).setCell ⟨g9, 3, none⟩ (.int .i64 d5.fNext)) := ⟨_, rfl⟩
     have hT10 : Turn [g9] wE5 wE10 := by rw [hq10]; exact turn4 _ _ _ _ _ _
     have hbx : Bw wE10 g9 27 [.slice z0 d5.fInodes.length zp0, .slice z1 d5.fNames.length zp1, .slice z2 d5.fSafe.length zp2, .int .i64 d5.fNext] := by rw [hq10]; exact hb9.put4 rfl _ _ _ _
     have hdwE10 : Bw wE10 w.heap.size 27 [.slice a0 m.fInodes.length c0, .slice a1 m.fNames.length c1, .slice a2 m.fSafe.length c2, .int .i64 m.fNext] := hdwE5.turn hT10 (by simp; omega)
     have hfp := (show Below wS.heap.size wS wE5 from bthen (bthen rB hop9) hop5)
     have hpS := (show Below wE5.heap.size wE5 wE5 from rB)
     rw [<- hq10]
     clear hq10 hb9 s0 s1 s2 s3 sf0 sf1 sf2 sf3
     refine hK.out _ _ (hdwE10) (fun hZ => ?_)
     clear hK K
     try simp only[Act.put,sa,s0,s1]
     refine uq 11 qbc1_7_8_11 7 hZ ?_
     refine wpAnyH_done (by kernel_rfl) ?_ _
     have hgo := (show Below wE9.heap.size wE9 wE5 from bthen rB hop5)
     have hbp := bthen hbS hfp
     have HB10 : Below w.heap.size w wE10 := (bthen hb3 hbp).trans (hT10.below (fun k hk => by simp at hk; omega) (bthen hb3 hbp).size)
     have hr10 : Bw wE10 (w.heap.size + 1) 27 [.slice none 0 0, .slice none 0 0, .slice none 0 0, .int .i64 0] := (hr3.under hbp).turn hT10 (by simp; omega)
     have hol10 : ownS 1 22 oBy wE10 (.slice la bo.length lc) bo FL := ownS.frame oBy_good (ownS.frame oBy_good HOL.out (fun b hb => hbp.block b (HLL.out b hb))) (fun b hb => hT10.block b (by have := HLL.out b hb; have := hbp.size; omega) (by intro h; simp at h; have := HLL.out b hb; omega))
     have hr510 : rDisk wE10.heap.size wE10 [.slice z0 d5.fInodes.length zp0, .slice z1 d5.fNames.length zp1, .slice z2 d5.fSafe.length zp2, .int .i64 d5.fNext] d5 := by have h := rDisk_turn (Bw.dzero (HB9.out.under hgo)) hT10 (rDisk_good.mono (rDisk_good.below hr5 hpS) hpS.size); exact rDisk_good.mono h hT10.size
     by_cases hcz : c5 = 0
     rotate_left
     ·have HRES : Hid (mendR m s = (m, [], c5)) := by show _ = _; rw [HBD2.out (by rw [<- HC5.out]; exact hcz), <- HC5.out]
      have hczd : decide (c5 = 0) = false := decide_eq_false hcz
      clear HGD2 HBD2 hol10 hr510
      obtain ⟨w6, hw6⟩ : ∃ w6, w6 = wE10 := ⟨_, rfl⟩
      rw [<- hw6] at HB10 hr10 hdwE10 ⊢
      clear hw6
      have hdl := hdwE10.lt
      obtain ⟨x0, x1, x2, x3⟩ := hdwE10.c4
      go_wp2_with fail
      refine (l2Copy_any _ m w6 (rDisk_good.mono (rDisk_good.below HR.out HB10) HB10.size) HW.out).mono ?_
      rintro e w7 ⟨cs7, F7, rfl, ho7, hN7, hge7, hx7⟩
      obtain ⟨q0, qp0, q1, qp1, q2, qp2, E0, E1, E2, rfl, _, _, _, _, rfl⟩ := oDisk_cells ho7
      have hr7 := hr10.under hx7
      have hz7 := hx7.size
      have hzz := hr10.lt
      have hgF : ∀ b, b ∈ E0 ++ E1 ++ E2 ++ [] -> w.heap.size + 2 <= b := fun b hb => by have := hge7 b hb; omega
      have HGF := Hm hgF
      have HNF := Hm hN7
      have hal : Below w7.heap.size w7 (w7.alloc (.cells #[] 22)) := rB.alloc rN _
      have ho8 := oDisk_good.frame ho7 (fun b hb => hal.block b (oDisk_good.lt ho7 b hb))
      have hr8 := hr7.under hal
      have u0 : (w7.alloc (.cells #[] 22)).cell? ⟨w.heap.size + 1, 0, none⟩ = some (.slice none 0 0) := (hr8).cell 0 _ rfl
      have uf0 : (w7.alloc (.cells #[] 22)).frozen? ⟨w.heap.size + 1, 0, none⟩ = false := (hr8).free 0
      have u1 : (w7.alloc (.cells #[] 22)).cell? ⟨w.heap.size + 1, 1, none⟩ = some (.slice none 0 0) := (hr8).cell 1 _ rfl
      have uf1 : (w7.alloc (.cells #[] 22)).frozen? ⟨w.heap.size + 1, 1, none⟩ = false := (hr8).free 1
      have u2 : (w7.alloc (.cells #[] 22)).cell? ⟨w.heap.size + 1, 2, none⟩ = some (.slice none 0 0) := (hr8).cell 2 _ rfl
      have uf2 : (w7.alloc (.cells #[] 22)).frozen? ⟨w.heap.size + 1, 2, none⟩ = false := (hr8).free 2
      have u3 : (w7.alloc (.cells #[] 22)).cell? ⟨w.heap.size + 1, 3, none⟩ = some (.int .i64 0) := (hr8).cell 3 _ rfl
      have uf3 : (w7.alloc (.cells #[] 22)).frozen? ⟨w.heap.size + 1, 3, none⟩ = false := (hr8).free 3
      have hul := hr8.lt
      have hT := turn4 (w7.alloc (.cells #[] 22)) (w.heap.size + 1) (.slice q0 m.fInodes.length qp0) (.slice q1 m.fNames.length qp1) (.slice q2 m.fSafe.length qp2) (.int .i64 m.fNext)
      have HBF : Hid (Below w.heap.size w (((((w7.alloc (.cells #[] 22)).setCell ⟨w.heap.size + 1, 0, none⟩ (.slice q0 m.fInodes.length qp0)).setCell ⟨w.heap.size + 1, 1, none⟩ (.slice q1 m.fNames.length qp1)).setCell ⟨w.heap.size + 1, 2, none⟩ (.slice q2 m.fSafe.length qp2)).setCell ⟨w.heap.size + 1, 3, none⟩ (.int .i64 m.fNext))) := (bthen (bthen HB10 hx7) hal).trans (hT.below (fun k hk => by simp at hk; omega) (bthen (bthen HB10 hx7) hal).size)
      have HOF : Hid (rDisk (((((w7.alloc (.cells #[] 22)).setCell ⟨w.heap.size + 1, 0, none⟩ (.slice q0 m.fInodes.length qp0)).setCell ⟨w.heap.size + 1, 1, none⟩ (.slice q1 m.fNames.length qp1)).setCell ⟨w.heap.size + 1, 2, none⟩ (.slice q2 m.fSafe.length qp2)).setCell ⟨w.heap.size + 1, 3, none⟩ (.int .i64 m.fNext)).heap.size (((((w7.alloc (.cells #[] 22)).setCell ⟨w.heap.size + 1, 0, none⟩ (.slice q0 m.fInodes.length qp0)).setCell ⟨w.heap.size + 1, 1, none⟩ (.slice q1 m.fNames.length qp1)).setCell ⟨w.heap.size + 1, 2, none⟩ (.slice q2 m.fSafe.length qp2)).setCell ⟨w.heap.size + 1, 3, none⟩ (.int .i64 m.fNext)) [.slice q0 m.fInodes.length qp0, .slice q1 m.fNames.length qp1, .slice q2 m.fSafe.length qp2, .int .i64 m.fNext] m) := by
       have hz : (((((w7.alloc (.cells #[] 22)).setCell ⟨w.heap.size + 1, 0, none⟩ (.slice q0 m.fInodes.length qp0)).setCell ⟨w.heap.size + 1, 1, none⟩ (.slice q1 m.fNames.length qp1)).setCell ⟨w.heap.size + 1, 2, none⟩ (.slice q2 m.fSafe.length qp2)).setCell ⟨w.heap.size + 1, 3, none⟩ (.int .i64 m.fNext)).heap.size = (w7.alloc (.cells #[] 22)).heap.size := by simp
       unfold Hid
       rw [hz]
       exact rDisk_turn (Bw.dzero hr8) hT (oDisk_good.read ho8)
      have HLF : Hid (rdBs (((((w7.alloc (.cells #[] 22)).setCell ⟨w.heap.size + 1, 0, none⟩ (.slice q0 m.fInodes.length qp0)).setCell ⟨w.heap.size + 1, 1, none⟩ (.slice q1 m.fNames.length qp1)).setCell ⟨w.heap.size + 1, 2, none⟩ (.slice q2 m.fSafe.length qp2)).setCell ⟨w.heap.size + 1, 3, none⟩ (.int .i64 m.fNext)).heap.size (((((w7.alloc (.cells #[] 22)).setCell ⟨w.heap.size + 1, 0, none⟩ (.slice q0 m.fInodes.length qp0)).setCell ⟨w.heap.size + 1, 1, none⟩ (.slice q1 m.fNames.length qp1)).setCell ⟨w.heap.size + 1, 2, none⟩ (.slice q2 m.fSafe.length qp2)).setCell ⟨w.heap.size + 1, 3, none⟩ (.int .i64 m.fNext)) (.slice (some ⟨w7.heap.size, 0, none⟩) 0 0) []) := ⟨_, _, rfl, rN, by omega, fun j hj => by simp at hj⟩
      clear hT
      go_wp2_with fail
      exact bodyPost_ret (v := .tuple #[.agg #[.slice q0 m.fInodes.length qp0, .slice q1 m.fNames.length qp1, .slice q2 m.fSafe.length qp2, .int .i64 m.fNext], .slice (some ⟨w7.heap.size, 0, none⟩) 0 0, .int .i64 c5]) (by simp [results, Tryz.results7, go_sem, *]) rfl ⟨[.slice q0 m.fInodes.length qp0, .slice q1 m.fNames.length qp1, .slice q2 m.fSafe.length qp2, .int .i64 m.fNext], _, by rw [show mendC m s = c5 from congrArg (fun r => r.2.2) HRES.out], by rw [show mendD m s = m from congrArg (fun r => r.1) HRES.out]; exact HOF.out, by rw [show mendL m s = _ from congrArg (fun r => r.2.1) HRES.out]; exact HLF.out, HBF.out⟩
     ·have HRES : Hid (mendR m s = (d5, bo, 0)) := by show _ = _; rw [HGD2.out (by rw [<- HC5.out]; exact hcz), <- HD5.out]
      clear HGD2 HBD2
      subst hcz
      have u0 : wE10.cell? ⟨w.heap.size + 1, 0, none⟩ = some (.slice none 0 0) := (hr10).cell 0 _ rfl
      have uf0 : wE10.frozen? ⟨w.heap.size + 1, 0, none⟩ = false := (hr10).free 0
      have u1 : wE10.cell? ⟨w.heap.size + 1, 1, none⟩ = some (.slice none 0 0) := (hr10).cell 1 _ rfl
      have uf1 : wE10.frozen? ⟨w.heap.size + 1, 1, none⟩ = false := (hr10).free 1
      have u2 : wE10.cell? ⟨w.heap.size + 1, 2, none⟩ = some (.slice none 0 0) := (hr10).cell 2 _ rfl
      have uf2 : wE10.frozen? ⟨w.heap.size + 1, 2, none⟩ = false := (hr10).free 2
      have u3 : wE10.cell? ⟨w.heap.size + 1, 3, none⟩ = some (.int .i64 0) := (hr10).cell 3 _ rfl
      have uf3 : wE10.frozen? ⟨w.heap.size + 1, 3, none⟩ = false := (hr10).free 3
      have hul := hr10.lt
      obtain ⟨b0, b1, b2, b3⟩ := hbx.c4
      have hxl := hbx.lt
      have hT := turn4 wE10 (w.heap.size + 1) (.slice z0 d5.fInodes.length zp0) (.slice z1 d5.fNames.length zp1) (.slice z2 d5.fSafe.length zp2) (.int .i64 d5.fNext)
      have HBF : Hid (Below w.heap.size w ((((wE10.setCell ⟨w.heap.size + 1, 0, none⟩ (.slice z0 d5.fInodes.length zp0)).setCell ⟨w.heap.size + 1, 1, none⟩ (.slice z1 d5.fNames.length zp1)).setCell ⟨w.heap.size + 1, 2, none⟩ (.slice z2 d5.fSafe.length zp2)).setCell ⟨w.heap.size + 1, 3, none⟩ (.int .i64 d5.fNext))) := HB10.trans (hT.below (fun k hk => by simp at hk; omega) HB10.size)
      have HOF : Hid (rDisk ((((wE10.setCell ⟨w.heap.size + 1, 0, none⟩ (.slice z0 d5.fInodes.length zp0)).setCell ⟨w.heap.size + 1, 1, none⟩ (.slice z1 d5.fNames.length zp1)).setCell ⟨w.heap.size + 1, 2, none⟩ (.slice z2 d5.fSafe.length zp2)).setCell ⟨w.heap.size + 1, 3, none⟩ (.int .i64 d5.fNext)).heap.size ((((wE10.setCell ⟨w.heap.size + 1, 0, none⟩ (.slice z0 d5.fInodes.length zp0)).setCell ⟨w.heap.size + 1, 1, none⟩ (.slice z1 d5.fNames.length zp1)).setCell ⟨w.heap.size + 1, 2, none⟩ (.slice z2 d5.fSafe.length zp2)).setCell ⟨w.heap.size + 1, 3, none⟩ (.int .i64 d5.fNext)) [.slice z0 d5.fInodes.length zp0, .slice z1 d5.fNames.length zp1, .slice z2 d5.fSafe.length zp2, .int .i64 d5.fNext] d5) := by
       have hz : ((((wE10.setCell ⟨w.heap.size + 1, 0, none⟩ (.slice z0 d5.fInodes.length zp0)).setCell ⟨w.heap.size + 1, 1, none⟩ (.slice z1 d5.fNames.length zp1)).setCell ⟨w.heap.size + 1, 2, none⟩ (.slice z2 d5.fSafe.length zp2)).setCell ⟨w.heap.size + 1, 3, none⟩ (.int .i64 d5.fNext)).heap.size = wE10.heap.size := by simp
       unfold Hid
       rw [hz]
       exact rDisk_turn (Bw.dzero hr10) hT hr510
      have hlf := ownS.frame (w' := ((((wE10.setCell ⟨w.heap.size + 1, 0, none⟩ (.slice z0 d5.fInodes.length zp0)).setCell ⟨w.heap.size + 1, 1, none⟩ (.slice z1 d5.fNames.length zp1)).setCell ⟨w.heap.size + 1, 2, none⟩ (.slice z2 d5.fSafe.length zp2)).setCell ⟨w.heap.size + 1, 3, none⟩ (.int .i64 d5.fNext))) oBy_good hol10 (fun b hb => hT.block b (ownS.lt oBy_good hol10 b hb) (by intro h; simp at h; have := HGL.out b hb; omega))
      have HLF : Hid (rdBs ((((wE10.setCell ⟨w.heap.size + 1, 0, none⟩ (.slice z0 d5.fInodes.length zp0)).setCell ⟨w.heap.size + 1, 1, none⟩ (.slice z1 d5.fNames.length zp1)).setCell ⟨w.heap.size + 1, 2, none⟩ (.slice z2 d5.fSafe.length zp2)).setCell ⟨w.heap.size + 1, 3, none⟩ (.int .i64 d5.fNext)).heap.size ((((wE10.setCell ⟨w.heap.size + 1, 0, none⟩ (.slice z0 d5.fInodes.length zp0)).setCell ⟨w.heap.size + 1, 1, none⟩ (.slice z1 d5.fNames.length zp1)).setCell ⟨w.heap.size + 1, 2, none⟩ (.slice z2 d5.fSafe.length zp2)).setCell ⟨w.heap.size + 1, 3, none⟩ (.int .i64 d5.fNext)) (.slice la bo.length lc) _) := rdBs_own hlf
      clear hlf
      clear hT
      go_wp2_with fail
      exact bodyPost_ret (v := .tuple #[.agg #[.slice z0 d5.fInodes.length zp0, .slice z1 d5.fNames.length zp1, .slice z2 d5.fSafe.length zp2, .int .i64 d5.fNext], .slice la bo.length lc, .int .i64 0]) (by simp [results, Tryz.results7, go_sem, *]) rfl ⟨[.slice z0 d5.fInodes.length zp0, .slice z1 d5.fNames.length zp1, .slice z2 d5.fSafe.length zp2, .int .i64 d5.fNext], _, by rw [show mendC m s = 0 from congrArg (fun r => r.2.2) HRES.out], by rw [show mendD m s = d5 from congrArg (fun r => r.1) HRES.out]; exact HOF.out, by rw [show mendL m s = _ from congrArg (fun r => r.2.1) HRES.out]; exact HLF.out, HBF.out⟩
theorem implRecords_c (v : Value) (zs : List Int) (w : World) (hr : rdB w.heap.size w v zs) (hw : zs.length <= 1048576) (ht : TabAt w) :
  Calls Tryz.prog 9 #[v] w fun e w' => ∃ v' F, e = .returned (.tuple #[v', .int .i64 (recsP zs).2]) /\ ownS 1 22 oBy w' v' (recsP zs).1 F /\ F.Nodup /\ (∀ b, b ∈ F -> w.heap.size <= b) /\ Below w.heap.size w w' := by
 obtain ⟨a, c, rfl, h1, h2, h3, h4⟩ := hr
 exact implRecords_any a _ c zs w rfl hw h1 h4 h3 ht
section
variable {H : Type} {enc : TypeId × Value -> H} {w : World} {base fuel : Nat} {spare : Nat -> Bool} {held : Bool} {cs : List Value} {x : DataW H × List MemPlace}
theorem openBytes {t e : TypeId} (ht : Tryz.prog.underlying t = some (.slice e)) (he : Tryz.prog.underlying e = some (.int .u8)) (hc : Tryz.prog.cellsOf e = 1) (h : DataW.trod enc Tryz.prog w base spare held fuel t cs = some x) :
  ∃ a c, ∃ zs : List Int, cs = [.slice a zs.length c] /\ LeafB w.heap.size w a c zs := by
 rcases Go.ChangeShapes.open_ints ht he hc h with ⟨rfl, _⟩ | ⟨a, len, cap, zs, rfl, _, hl, hm, hz, _, hcell, hwf⟩
 ·exact ⟨none, 0, [], rfl, by simp, by omega, fun j hj => by simp at hj, fun z hz => by cases hz⟩
 ·have hzl : len <= zs.length := by rw [hz]; split <;> omega
  refine ⟨some a, cap, zs.take len, by simp [hzl], by simp; omega, by simpa [maxLen] using hm, ?_, ?_⟩
  ·intro j hj
   have hj' : j < len := by simp at hj; omega
   obtain ⟨b, off, rfl, hcc⟩ := ints_at hcell (by omega)
   have hcj := hcc j (by omega)
   refine ⟨b, off, rfl, World.block_lt_of_cell? _ _ hcj, ?_⟩
   rw [hcj]
   congr 2
   simp only [List.getD_eq_getElem?_getD, List.getElem?_take, hj', if_true]
  ·intro z hz'
   have := hwf z (List.mem_of_mem_take hz')
   simpa [Lit.wf, IntKind.min, IntKind.max, IntKind.signed, IntKind.bits] using this
end
end Go.Proofs.YtegonncmopecnaaGreatDoor
