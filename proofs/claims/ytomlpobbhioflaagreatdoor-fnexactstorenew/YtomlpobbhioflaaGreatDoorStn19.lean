/-
  Part 20 of the texts that the proof leans on.
-/
import Derived.Test.YtomlpobbhioflaaGreatDoorStn0
import Derived.Test.YtomlpobbhioflaaGreatDoorStn16
import Derived.Test.YtomlpobbhioflaaGreatDoorStn6
import Derived.Test.YtomlpobbhioflaaGreatDoorStn17
import Derived.Test.YtomlpobbhioflaaGreatDoorStn18
import Derived.Test.YtomlpobbhioflaaGreatDoorStn9
set_option linter.unusedVariables false
set_option linter.unusedSimpArgs false
set_option maxRecDepth 10000

namespace Go.Proofs.YtomlpobbhioflaaGreatDoor
open Go.RowKit
abbrev q9f2_12_3_0 : Oper := ⟨some 19, .load 25 (.tmp 2), 25, "l06_manifest.go:143", #[], none⟩
abbrev q9f2_12_3_1 : Oper := ⟨some 20, .load 31 (.tmp 3), 31, "l06_manifest.go:143", #[], none⟩
abbrev q9f2_12_3_8 : Oper := ⟨some 6, .alloc 25, 0, "l06_manifest.go:143", #[], none⟩
abbrev q9f2_12_3_2 : Oper := ⟨some 21, .call { callee := .value (.func 34), args := #[.tmp 20], argTypes := #[31] }, 9, "l06_manifest.go:143", #[⟨1, .data⟩], none⟩
abbrev q9f2_12_3_3 : Oper := ⟨some 22, .convert 9 51 (.tmp 21), 51, "l06_manifest.go:143", #[⟨2, .data⟩], none⟩
abbrev q9f2_12_3_4 : Oper := ⟨some 23, .call { callee := .value (.func 33), args := #[.tmp 19, .const (.string { data := #[110, 101, 119] }), .tmp 22], argTypes := #[25, 9, 51] }, 38, "l06_manifest.go:143", #[⟨0, .data⟩, ⟨3, .data⟩, ⟨2, .chain⟩], none⟩
abbrev q9f2_12_3_5 : Oper := ⟨some 18, .move (.tmp 23), 38, "l06_manifest.go:143", #[⟨4, .data⟩], none⟩
abbrev q9f2_12_3_6 : Oper := ⟨some 24, .extract (.tmp 18) 0, 25, "l06_manifest.go:143", #[⟨5, .data⟩], none⟩
abbrev q9f2_12_3_7 : Oper := ⟨some 25, .extract (.tmp 18) 1, 3, "l06_manifest.go:143", #[⟨5, .data⟩, { on := 9, ground := Ground.gcOnly Departure.lateStores }], none⟩
abbrev q9f2_12_3_9 : Oper := ⟨none, .store 25 (.tmp 6) (.tmp 24), 0, "l06_manifest.go:143", #[⟨8, .data⟩, ⟨6, .data⟩, ⟨4, .chain⟩, ⟨0, .phase⟩, ⟨1, .phase⟩, ⟨2, .phase⟩, ⟨3, .phase⟩, ⟨4, .phase⟩, ⟨5, .phase⟩, ⟨6, .phase⟩, { on := 7, ground := Ground.textOnly Departure.lateStores }, ⟨8, .phase⟩], none⟩
abbrev q9f2_12_3_10 : Oper := ⟨some 7, .assign (.tmp 25), 3, "l06_manifest.go:143", #[⟨7, .data⟩, ⟨9, .chain⟩, ⟨0, .phase⟩, ⟨1, .phase⟩, ⟨2, .phase⟩, ⟨3, .phase⟩, ⟨4, .phase⟩, ⟨5, .phase⟩, ⟨6, .phase⟩, ⟨7, .phase⟩, ⟨8, .phase⟩, ⟨9, .phase⟩], none⟩
set_option maxHeartbeats 8000000 in
theorem specInstall_c (cs : List Value) (m : MDisk) (ms : List Value) (M : MManifest) (w : World) (hr : rDisk w.heap.size w cs m) (hrm : rManifest w.heap.size w ms M) (hw : wDisk m ≤ 1048576) (hw1 : wManifest M ≤ 1048576) :
  Calls Tryz.prog 12 #[.agg cs.toArray, .agg ms.toArray] w fun e w' => ∃ cs' : List Value, e = .returned (.tuple #[.agg cs'.toArray, .int .i64 (instC m M)]) ∧ rDisk w'.heap.size w' cs' (instD m M) ∧ Below w.heap.size w w' := by
 have hq := hr
 obtain ⟨a0, c0, a1, c1, a2, c2, rfl, hI, hNm, hSf, hnx, _⟩ := hq
 have HW := Hid.mk hw
 have HR := Hid.mk hr
 have hq2 := hrm
 obtain ⟨t2, k2, rfl, hmf0, hmf1, hLm, _⟩ := hq2
 have HWM := Hid.mk hw1
 have HRM := Hid.mk hrm
 clear hr hI hNm hSf hw hrm hLm hw1
 obtain ⟨wq, hwq⟩ : ∃ wq, wq = ((w.alloc (.cells #[.slice a0 m.fInodes.length c0, .slice a1 m.fNames.length c1, .slice a2 m.fSafe.length c2, .int .i64 m.fNext] 25)).alloc (.cells #[.int .i64 M.fNext, .int .i64 M.fLog, .slice t2 M.fTables.length k2] 31)).alloc (.cells #[.slice none 0 0, .slice none 0 0, .slice none 0 0, .int .i64 0] 25) := ⟨_, rfl⟩
 have hzq : wq.heap.size = w.heap.size + 3 := by rw [hwq]; simp
 have hbW : Below w.heap.size w wq := by rw [hwq]; exact (((Below.refl _ _).alloc (Nat.le_refl _) _).alloc (by simp) _).alloc (by simp; omega) _
 have hbd : B2 wq w.heap.size [.slice a0 m.fInodes.length c0, .slice a1 m.fNames.length c1, .slice a2 m.fSafe.length c2, .int .i64 m.fNext] [.int .i64 M.fNext, .int .i64 M.fLog, .slice t2 M.fTables.length k2] := by rw [hwq]; exact ⟨((Bw.new _ _ _).alloc _).alloc _, (Bw.new' _ _ _ (by simp)).alloc _⟩
 have hbr : Bw wq (w.heap.size + 1 + 1) 25 [.slice none 0 0, .slice none 0 0, .slice none 0 0, .int .i64 0] := by rw [hwq]; exact Bw.new' _ _ _ (by simp)
 go_enter Tryz.func12, Tryz.ntmps12
 go_wp2_with fail
 rw [← hwq]
 clear hwq
 refine (specManOk_c _ M wq (rManifest_good.mono (rManifest_good.below HRM.out hbW) hbW.size) HWM.out).mono ?_
 rintro e w1 ⟨rfl, hx1⟩
 have hb1 := bthen hbW hx1
 have hd1 := hbd.under hx1
 have hr1 := hbr.under hx1
 have hz1 := hx1.size
 by_cases hM : manOkP M = true
 rotate_left
 ·rw [Bool.eq_false_iff.2 hM]
  have HRES := Hid.mk (inst_no (m := m) (Bool.eq_false_iff.2 hM))
  have hdl := (hd1.1).lt
  obtain ⟨x0, x1, x2, x3⟩ := hd1.1.c4
  go_wp2_with fail
  refine (l2Copy_any _ m w1 (rDisk_good.mono (rDisk_good.below HR.out (hb1)) (hb1).size) HW.out).mono ?_
  rintro e w7 ⟨cs7, F7, rfl, ho7, hN7, hge7, hx7⟩
  obtain ⟨q0, qp0, q1, qp1, q2, qp2, E0, E1, E2, rfl, _, _, _, _, rfl⟩ := oDisk_cells ho7
  have hr7 := (hr1).under hx7
  have hz7 := hx7.size
  have hzz := (hr1).lt
  have hgF : ∀ b, b ∈ E0 ++ E1 ++ E2 ++ [] → w.heap.size + 3 ≤ b := fun b hb => by have := hge7 b hb; omega
  have HGF := Hid.mk hgF
  have HNF := Hid.mk hN7
  obtain ⟨u0, uf0, u1, uf1, u2, uf2, u3, uf3⟩ := hr7.c8
  have hul := hr7.lt
  have hT := turn4 w7 (w.heap.size + 1 + 1) (.slice q0 m.fInodes.length qp0) (.slice q1 m.fNames.length qp1) (.slice q2 m.fSafe.length qp2) (.int .i64 m.fNext)
  have HBF : Hid (Below w.heap.size w ((((w7.setCell ⟨w.heap.size + 1 + 1, 0, none⟩ (.slice q0 m.fInodes.length qp0)).setCell ⟨w.heap.size + 1 + 1, 1, none⟩ (.slice q1 m.fNames.length qp1)).setCell ⟨w.heap.size + 1 + 1, 2, none⟩ (.slice q2 m.fSafe.length qp2)).setCell ⟨w.heap.size + 1 + 1, 3, none⟩ (.int .i64 m.fNext))) := (bthen (hb1) hx7).trans (hT.below (fun k hk => by simp at hk; omega) (bthen (hb1) hx7).size)
  have HOF : Hid (rDisk ((((w7.setCell ⟨w.heap.size + 1 + 1, 0, none⟩ (.slice q0 m.fInodes.length qp0)).setCell ⟨w.heap.size + 1 + 1, 1, none⟩ (.slice q1 m.fNames.length qp1)).setCell ⟨w.heap.size + 1 + 1, 2, none⟩ (.slice q2 m.fSafe.length qp2)).setCell ⟨w.heap.size + 1 + 1, 3, none⟩ (.int .i64 m.fNext)).heap.size ((((w7.setCell ⟨w.heap.size + 1 + 1, 0, none⟩ (.slice q0 m.fInodes.length qp0)).setCell ⟨w.heap.size + 1 + 1, 1, none⟩ (.slice q1 m.fNames.length qp1)).setCell ⟨w.heap.size + 1 + 1, 2, none⟩ (.slice q2 m.fSafe.length qp2)).setCell ⟨w.heap.size + 1 + 1, 3, none⟩ (.int .i64 m.fNext)) [.slice q0 m.fInodes.length qp0, .slice q1 m.fNames.length qp1, .slice q2 m.fSafe.length qp2, .int .i64 m.fNext] m) := by
   have hz : ((((w7.setCell ⟨w.heap.size + 1 + 1, 0, none⟩ (.slice q0 m.fInodes.length qp0)).setCell ⟨w.heap.size + 1 + 1, 1, none⟩ (.slice q1 m.fNames.length qp1)).setCell ⟨w.heap.size + 1 + 1, 2, none⟩ (.slice q2 m.fSafe.length qp2)).setCell ⟨w.heap.size + 1 + 1, 3, none⟩ (.int .i64 m.fNext)).heap.size = w7.heap.size := by simp
   unfold Hid
   rw [hz]
   exact rDisk_turn (Bw.dzero hr7) hT (oDisk_good.read ho7)
  clear hT
  go_wp2_with fail
  refine bodyPost_ret (v := .tuple #[.agg #[.slice q0 m.fInodes.length qp0, .slice q1 m.fNames.length qp1, .slice q2 m.fSafe.length qp2, .int .i64 m.fNext], .int .i64 1]) (by simp [results, Tryz.results12, go_sem, *]) rfl ?_
  exact ⟨[.slice q0 m.fInodes.length qp0, .slice q1 m.fNames.length qp1, .slice q2 m.fSafe.length qp2, .int .i64 m.fNext], by rw [show instC m M = 1 from congrArg (fun r => r.2) HRES.out], by rw [show instD m M = m from congrArg (fun r => r.1) HRES.out]; exact HOF.out, HBF.out⟩
 rw [hM]
 have HM := Hid.mk hM
 clear hM
 have hlB : (manB M).length ≤ 1048576 := manB_len HM.out
 have hlT : (manTextP M).size ≤ 1048576 := by have h := hlB; unfold manB at h; rw [byteInts_length] at h; exact h
 have hdl := hd1.1.lt
 obtain ⟨x0, x1, x2, x3⟩ := hd1.1.c4
 go_wp2_with fail
 refine (specDiskOk_c _ m w1 (rDisk_good.mono (rDisk_good.below HR.out hb1) hb1.size) HW.out).mono ?_
 rintro e w2 ⟨rfl, hx2⟩
 clear hdl x0 x1 x2 x3
 have hb2 := bthen hb1 hx2
 have hd2 := hd1.under hx2
 have hr2 := hr1.under hx2
 have hz2 := hx2.size
 by_cases hK : diskOk m = true
 rotate_left
 ·rw [Bool.eq_false_iff.2 hK]
  have HRES : Hid (instR m M = (m, 1)) := by have h := switch_form (t := newN) (b := manB M) (s := curN) (Bool.eq_false_iff.2 hK); have h2 := inst_bad (m := m) HM.out (by rw [h]; decide); rw [h] at h2; exact h2
  have hdl := (hd2.1).lt
  obtain ⟨x0, x1, x2, x3⟩ := hd2.1.c4
  go_wp2_with fail
  refine (l2Copy_any _ m w2 (rDisk_good.mono (rDisk_good.below HR.out (hb2)) (hb2).size) HW.out).mono ?_
  rintro e w7 ⟨cs7, F7, rfl, ho7, hN7, hge7, hx7⟩
  obtain ⟨q0, qp0, q1, qp1, q2, qp2, E0, E1, E2, rfl, _, _, _, _, rfl⟩ := oDisk_cells ho7
  have hr7 := (hr2).under hx7
  have hz7 := hx7.size
  have hzz := (hr2).lt
  have hgF : ∀ b, b ∈ E0 ++ E1 ++ E2 ++ [] → w.heap.size + 3 ≤ b := fun b hb => by have := hge7 b hb; omega
  have HGF := Hid.mk hgF
  have HNF := Hid.mk hN7
  obtain ⟨u0, uf0, u1, uf1, u2, uf2, u3, uf3⟩ := hr7.c8
  have hul := hr7.lt
  have hT := turn4 w7 (w.heap.size + 1 + 1) (.slice q0 m.fInodes.length qp0) (.slice q1 m.fNames.length qp1) (.slice q2 m.fSafe.length qp2) (.int .i64 m.fNext)
  have HBF : Hid (Below w.heap.size w ((((w7.setCell ⟨w.heap.size + 1 + 1, 0, none⟩ (.slice q0 m.fInodes.length qp0)).setCell ⟨w.heap.size + 1 + 1, 1, none⟩ (.slice q1 m.fNames.length qp1)).setCell ⟨w.heap.size + 1 + 1, 2, none⟩ (.slice q2 m.fSafe.length qp2)).setCell ⟨w.heap.size + 1 + 1, 3, none⟩ (.int .i64 m.fNext))) := (bthen (hb2) hx7).trans (hT.below (fun k hk => by simp at hk; omega) (bthen (hb2) hx7).size)
  have HOF : Hid (rDisk ((((w7.setCell ⟨w.heap.size + 1 + 1, 0, none⟩ (.slice q0 m.fInodes.length qp0)).setCell ⟨w.heap.size + 1 + 1, 1, none⟩ (.slice q1 m.fNames.length qp1)).setCell ⟨w.heap.size + 1 + 1, 2, none⟩ (.slice q2 m.fSafe.length qp2)).setCell ⟨w.heap.size + 1 + 1, 3, none⟩ (.int .i64 m.fNext)).heap.size ((((w7.setCell ⟨w.heap.size + 1 + 1, 0, none⟩ (.slice q0 m.fInodes.length qp0)).setCell ⟨w.heap.size + 1 + 1, 1, none⟩ (.slice q1 m.fNames.length qp1)).setCell ⟨w.heap.size + 1 + 1, 2, none⟩ (.slice q2 m.fSafe.length qp2)).setCell ⟨w.heap.size + 1 + 1, 3, none⟩ (.int .i64 m.fNext)) [.slice q0 m.fInodes.length qp0, .slice q1 m.fNames.length qp1, .slice q2 m.fSafe.length qp2, .int .i64 m.fNext] m) := by
   have hz : ((((w7.setCell ⟨w.heap.size + 1 + 1, 0, none⟩ (.slice q0 m.fInodes.length qp0)).setCell ⟨w.heap.size + 1 + 1, 1, none⟩ (.slice q1 m.fNames.length qp1)).setCell ⟨w.heap.size + 1 + 1, 2, none⟩ (.slice q2 m.fSafe.length qp2)).setCell ⟨w.heap.size + 1 + 1, 3, none⟩ (.int .i64 m.fNext)).heap.size = w7.heap.size := by simp
   unfold Hid
   rw [hz]
   exact rDisk_turn (Bw.dzero hr7) hT (oDisk_good.read ho7)
  clear hT
  go_wp2_with fail
  refine bodyPost_ret (v := .tuple #[.agg #[.slice q0 m.fInodes.length qp0, .slice q1 m.fNames.length qp1, .slice q2 m.fSafe.length qp2, .int .i64 m.fNext], .int .i64 1]) (by simp [results, Tryz.results12, go_sem, *]) rfl ?_
  exact ⟨[.slice q0 m.fInodes.length qp0, .slice q1 m.fNames.length qp1, .slice q2 m.fSafe.length qp2, .int .i64 m.fNext], by rw [show instC m M = 1 from congrArg (fun r => r.2) HRES.out], by rw [show instD m M = m from congrArg (fun r => r.1) HRES.out]; exact HOF.out, HBF.out⟩
 rw [hK]
 clear hK
 have HPT := Hid.mk (switch_put m newN (manB M) curN)
 have HBAD := Hid.mk (inst_bad (m := m) HM.out)
 have HGOOD := Hid.mk (inst_good (m := m) HM.out)
 obtain ⟨R5, hR5⟩ : ∃ R5, R5 = (putR m newN (manB M) curN) := ⟨_, rfl⟩
 have HR5 := Hid.mk hR5
 have hwR : wDisk R5.1 ≤ 1048576 := by rw [hR5]; exact putR_small HW.out
 rw [← hR5] at HPT
 clear hR5
 obtain ⟨d5, c5⟩ := R5
 have hd2l := hd2.1.lt
 have hd2m := hd2.2.lt
 have p0 : ∀ W, B2 W w.heap.size [.slice a0 m.fInodes.length c0, .slice a1 m.fNames.length c1, .slice a2 m.fSafe.length c2, .int .i64 m.fNext] [.int .i64 M.fNext, .int .i64 M.fLog, .slice t2 M.fTables.length k2] → W.cell? ⟨w.heap.size, 0, none⟩ = some (.slice a0 m.fInodes.length c0) := fun W h => h.1.cell 0 _ rfl
 have p1 : ∀ W, B2 W w.heap.size [.slice a0 m.fInodes.length c0, .slice a1 m.fNames.length c1, .slice a2 m.fSafe.length c2, .int .i64 m.fNext] [.int .i64 M.fNext, .int .i64 M.fLog, .slice t2 M.fTables.length k2] → W.cell? ⟨w.heap.size, 1, none⟩ = some (.slice a1 m.fNames.length c1) := fun W h => h.1.cell 1 _ rfl
 have p2 : ∀ W, B2 W w.heap.size [.slice a0 m.fInodes.length c0, .slice a1 m.fNames.length c1, .slice a2 m.fSafe.length c2, .int .i64 m.fNext] [.int .i64 M.fNext, .int .i64 M.fLog, .slice t2 M.fTables.length k2] → W.cell? ⟨w.heap.size, 2, none⟩ = some (.slice a2 m.fSafe.length c2) := fun W h => h.1.cell 2 _ rfl
 have p3 : ∀ W, B2 W w.heap.size [.slice a0 m.fInodes.length c0, .slice a1 m.fNames.length c1, .slice a2 m.fSafe.length c2, .int .i64 m.fNext] [.int .i64 M.fNext, .int .i64 M.fLog, .slice t2 M.fTables.length k2] → W.cell? ⟨w.heap.size, 3, none⟩ = some (.int .i64 m.fNext) := fun W h => h.1.cell 3 _ rfl
 have r0 : ∀ W, B2 W w.heap.size [.slice a0 m.fInodes.length c0, .slice a1 m.fNames.length c1, .slice a2 m.fSafe.length c2, .int .i64 m.fNext] [.int .i64 M.fNext, .int .i64 M.fLog, .slice t2 M.fTables.length k2] → W.cell? ⟨w.heap.size + 1, 0, none⟩ = some (.int .i64 M.fNext) := fun W h => h.2.cell 0 _ rfl
 have r1 : ∀ W, B2 W w.heap.size [.slice a0 m.fInodes.length c0, .slice a1 m.fNames.length c1, .slice a2 m.fSafe.length c2, .int .i64 m.fNext] [.int .i64 M.fNext, .int .i64 M.fLog, .slice t2 M.fTables.length k2] → W.cell? ⟨w.heap.size + 1, 1, none⟩ = some (.int .i64 M.fLog) := fun W h => h.2.cell 1 _ rfl
 have r2 : ∀ W, B2 W w.heap.size [.slice a0 m.fInodes.length c0, .slice a1 m.fNames.length c1, .slice a2 m.fSafe.length c2, .int .i64 m.fNext] [.int .i64 M.fNext, .int .i64 M.fLog, .slice t2 M.fTables.length k2] → W.cell? ⟨w.heap.size + 1, 2, none⟩ = some (.slice t2 M.fTables.length k2) := fun W h => h.2.cell 2 _ rfl
 go_wp2_with fail
 refine Code.wp_mono (Q := fun e a' w' => e = .normal ∧ ∃ (y0 y1 y8 y9 y10 y11 y12 y13 y14 y15 y16 y17 y18 y19 y20 y21 y22 y23 y24 y25 y26 y27 y28 y29 y30 y31 y32 y33 y34 y35 y36 y37 y38 y39 y40 y41 y42 y43 y44 y45 y46 : Value) (g : Nat) (z0 z1 z2 : Option Addr) (zp0 zp1 zp2 : Nat), a' = { tmps := #[y0, y1, .pointer (some ⟨w.heap.size, 0, none⟩), .pointer (some ⟨w.heap.size + 1, 0, none⟩), .pointer (some ⟨w.heap.size + 1 + 1, 0, none⟩), .int .i64 0, .pointer (some ⟨g, 0, none⟩), .int .i64 c5, y8, y9, y10, y11, y12, y13, y14, y15, y16, y17, y18, y19, y20, y21, y22, y23, y24, y25, y26, y27, y28, y29, y30, y31, y32, y33, y34, y35, y36, y37, y38, y39, y40, y41, y42, y43, y44, y45, y46], defers := [] } ∧ w.heap.size + 3 ≤ g ∧ Bw w' g 25 [.slice z0 d5.fInodes.length zp0, .slice z1 d5.fNames.length zp1, .slice z2 d5.fSafe.length zp2, .int .i64 d5.fNext] ∧ rDisk w'.heap.size w' [.slice z0 d5.fInodes.length zp0, .slice z1 d5.fNames.length zp1, .slice z2 d5.fSafe.length zp2, .int .i64 d5.fNext] d5 ∧ Bw w' w.heap.size 25 [.slice a0 m.fInodes.length c0, .slice a1 m.fNames.length c1, .slice a2 m.fSafe.length c2, .int .i64 m.fNext] ∧ Bw w' (w.heap.size + 1 + 1) 25 [.slice none 0 0, .slice none 0 0, .slice none 0 0, .int .i64 0] ∧ Below w.heap.size w w') ?mono ?reg
 case reg =>
  refine wp_region_held_drew (S := fun W => B2 W w.heap.size [.slice a0 m.fInodes.length c0, .slice a1 m.fNames.length c1, .slice a2 m.fSafe.length c2, .int .i64 m.fNext] [.int .i64 M.fNext, .int .i64 M.fLog, .slice t2 M.fTables.length k2]) (by kernel_rfl) (hd2.under (Below.drew (Below.refl _ _))) (fun hHeld => ?_)
  obtain ⟨wS, hwS⟩ : ∃ wS, wS = w2.drew := ⟨_, rfl⟩
  have hbS : Below w2.heap.size w2 wS := by rw [hwS]; exact Below.drew (Below.refl _ _)
  have hrS := hr2.under hbS
  have hdwS : B2 wS w.heap.size [.slice a0 m.fInodes.length c0, .slice a1 m.fNames.length c1, .slice a2 m.fSafe.length c2, .int .i64 m.fNext] [.int .i64 M.fNext, .int .i64 M.fLog, .slice t2 M.fTables.length k2] := hd2.under hbS
  have hbwS := bthen hb2 hbS
  rw [← hwS] at hHeld ⊢
  clear hwS
  refine uq 0 q9f2_12_3_0 19 hHeld ?_
  refine uq 1 q9f2_12_3_1 20 hHeld ?_
  refine arR [2, 8] ?_
  refine (AllReadyH.cons (o := q9f2_12_3_2) rfl (fun K hK => ?_) (AllReadyH.cons (o := q9f2_12_3_8) rfl (fun K hK => ?_) AllReadyH.nil))
  ·go_simp
   have hfw2 := (show Below wS.heap.size wS wS from Below.refl _ _)
   refine Calls.mono (specManText_c _ M wS (rManifest_good.mono (rManifest_good.below HRM.out (bthen hbwS hfw2)) (bthen hbwS hfw2).size) HWM.out) ?_
   rintro e wE2 ⟨rfl, hx2e⟩
   have hop2 : Below wS.heap.size wS wE2 := hx2e
   have hdwE2 := hdwS.under hop2
   go_wp2_with fail
   refine hK.out _ _ (hdwE2) (fun hHeld => ?_)
   clear hK K
   try simp only[Act.put,sa,s0,s1]
   refine arR [3, 8] ?_
   refine (AllReadyH.cons (o := q9f2_12_3_3) rfl (fun K hK => ?_) (AllReadyH.cons (o := q9f2_12_3_8) rfl (fun K hK => ?_) AllReadyH.nil))
   ·skip
    obtain ⟨wE3, cap3, hcv3, hx3e, hrd3⟩ := strRdB (manTextP M) wE2 hlT
    have hop3 : Below wE2.heap.size wE2 wE3 := hx3e
    have hdwE3 := hdwE2.under hop3
    go_simp
    refine hK.out _ _ (hdwE3) (fun hHeld => ?_)
    clear hK K
    try simp only[Act.put,sa,s0,s1]
    refine arR [4, 8] ?_
    refine (AllReadyH.cons (o := q9f2_12_3_4) rfl (fun K hK => ?_) (AllReadyH.cons (o := q9f2_12_3_8) rfl (fun K hK => ?_) AllReadyH.nil))
    ·go_simp
     have hfw4 := (show Below wS.heap.size wS wE3 from bthen (bthen (Below.refl _ _) hop2) hop3)
     have hfw3 := (show Below wE3.heap.size wE3 wE3 from Below.refl _ _)
     have hb5S : w2.heap.size ≤ wE3.heap.size := Nat.le_trans hbS.size hfw4.size
     refine Calls.mono (l6Put_any _ m newN curN _ (manB M) wE3 (rDisk_good.mono (rDisk_good.below HR.out (bthen hbwS hfw4)) (bthen hbwS hfw4).size) HW.out (by decide) ((hrd3.below hfw3).mono hfw3.size) hlB) ?_
     rw [← HR5.out]
     rintro e wE4 ⟨cs5, rfl, hr5, hx5⟩
     dsimp only at hr5
     obtain ⟨z0, zp0, z1, zp1, z2, zp2, rfl, _⟩ := id hr5
     have hop4 : Below wE3.heap.size wE3 wE4 := hx5
     have hdwE4 := hdwE3.under hop4
     go_wp2_with fail
     refine hK.out _ _ (hdwE4) (fun hHeld => ?_)
     clear hK K
     try simp only[Act.put,sa,s0,s1]
     refine uq 5 q9f2_12_3_5 18 hHeld ?_
     refine uq 6 q9f2_12_3_6 24 hHeld ?_
     refine uq 7 q9f2_12_3_7 25 hHeld ?_
     refine ar1 8 q9f2_12_3_8 fun K hK => ?_
     ·go_simp
      obtain ⟨wE8, hq8⟩ : ∃ q, q = wE4.alloc (.cells #[.slice none 0 0, .slice none 0 0, .slice none 0 0, .int .i64 0] 25) := ⟨_, rfl⟩
      have hop8 : Below wE4.heap.size wE4 wE8 := by rw [hq8]; exact (Below.refl _ _).alloc (Nat.le_refl _) _
      have hdwE8 := hdwE4.under hop8
      obtain ⟨g8, HG8⟩ : ∃ z, Hid (z = wE4.heap.size) := ⟨_, Hid.mk rfl⟩
      have HB8 : Hid (Bw wE8 g8 25 [.slice none 0 0, .slice none 0 0, .slice none 0 0, .int .i64 0]) := by unfold Hid; rw [HG8.out, hq8]; exact Bw.new _ _ _
      have hgp2 : w2.heap.size ≤ g8 := by rw [HG8.out]; exact Nat.le_trans hbS.size (Below.size (show Below wS.heap.size wS wE4 from bthen (bthen (bthen (Below.refl _ _) hop2) hop3) hop4))
      have hgp : w.heap.size + 3 ≤ g8 := by have := hr2.lt; omega
      rw [← HG8.out]
      rw [← hq8]
      clear hq8
      refine hK.out _ _ (hdwE8) (fun hHeld => ?_)
      clear hK K
      try simp only[Act.put,sa,s0,s1]
      refine ar1 9 q9f2_12_3_9 fun K hK => ?_
      ·skip
       have hb8 := HB8.out.under (show Below wE8.heap.size wE8 wE8 from Below.refl _ _)
       obtain ⟨s0, sf0, s1, sf1, s2, sf2, s3, sf3⟩ := hb8.c8
       have hl8 := hb8.lt
       go_simp
       obtain ⟨wE9, hq9⟩ : ∃ q, q = ((((wE8.setCell ⟨g8, 0, none⟩ (.slice z0 d5.fInodes.length zp0)).setCell ⟨g8, 1, none⟩ (.slice z1 d5.fNames.length zp1)).setCell ⟨g8, 2, none⟩ (.slice z2 d5.fSafe.length zp2)).setCell ⟨g8, 3, none⟩ (.int .i64 d5.fNext)) := ⟨_, rfl⟩
       have hT9 : Turn [g8] wE8 wE9 := by rw [hq9]; exact turn4 _ _ _ _ _ _
       have hbx : Bw wE9 g8 25 [.slice z0 d5.fInodes.length zp0, .slice z1 d5.fNames.length zp1, .slice z2 d5.fSafe.length zp2, .int .i64 d5.fNext] := by rw [hq9]; exact hb8.put4 rfl _ _ _ _
       have hdwE9 : B2 wE9 w.heap.size [.slice a0 m.fInodes.length c0, .slice a1 m.fNames.length c1, .slice a2 m.fSafe.length c2, .int .i64 m.fNext] [.int .i64 M.fNext, .int .i64 M.fLog, .slice t2 M.fTables.length k2] := hdwE8.turn hT9 (by simp; omega) (by simp; omega)
       have hfp := (show Below wS.heap.size wS wE8 from bthen (bthen (bthen (bthen (Below.refl _ _) hop2) hop3) hop4) hop8)
       have hpS := (show Below wE4.heap.size wE4 wE8 from bthen (Below.refl _ _) hop8)
       have hgo := (show Below wE8.heap.size wE8 wE8 from Below.refl _ _)
       rw [← hq9]
       clear hq9 hb8 s0 s1 s2 s3 sf0 sf1 sf2 sf3
       refine hK.out _ _ (hdwE9) (fun hHeld => ?_)
       clear hK K
       try simp only[Act.put,sa,s0,s1]
       refine uq 10 q9f2_12_3_10 7 hHeld ?_
       refine wpAnyH_done (by kernel_rfl) ?_ _
       have hbp := bthen hbS hfp
       have hbp2 := bthen hb2 hbp
       have hr59 : rDisk wE9.heap.size wE9 [.slice z0 d5.fInodes.length zp0, .slice z1 d5.fNames.length zp1, .slice z2 d5.fSafe.length zp2, .int .i64 d5.fNext] d5 := by have h := rDisk_turn (Bw.dzero (HB8.out.under hgo)) hT9 (rDisk_good.mono (rDisk_good.below hr5 hpS) hpS.size); exact rDisk_good.mono h hT9.size
       exact ⟨rfl, _, _, _, _, _, _, _, _, _, _, _, _, _, _, _, _, _, _, _, _, _, _, _, _, _, _, _, _, _, _, _, _, _, _, _, _, _, _, _, _, _, g8, _, _, _, _, _, _, rfl, hgp, hbx, hr59, hdwE9.1, (hr2.under hbp).turn hT9 (by simp; omega), hbp2.trans (hT9.below (fun k hk => by simp at hk; omega) hbp2.size)⟩
    ·go_simp
     obtain ⟨wE8, hq8⟩ : ∃ q, q = wE3.alloc (.cells #[.slice none 0 0, .slice none 0 0, .slice none 0 0, .int .i64 0] 25) := ⟨_, rfl⟩
     have hop8 : Below wE3.heap.size wE3 wE8 := by rw [hq8]; exact (Below.refl _ _).alloc (Nat.le_refl _) _
     have hdwE8 := hdwE3.under hop8
     obtain ⟨g8, HG8⟩ : ∃ z, Hid (z = wE3.heap.size) := ⟨_, Hid.mk rfl⟩
     have HB8 : Hid (Bw wE8 g8 25 [.slice none 0 0, .slice none 0 0, .slice none 0 0, .int .i64 0]) := by unfold Hid; rw [HG8.out, hq8]; exact Bw.new _ _ _
     have hgp2 : w2.heap.size ≤ g8 := by rw [HG8.out]; exact Nat.le_trans hbS.size (Below.size (show Below wS.heap.size wS wE3 from bthen (bthen (Below.refl _ _) hop2) hop3))
     have hgp : w.heap.size + 3 ≤ g8 := by have := hr2.lt; omega
     rw [← HG8.out]
     rw [← hq8]
     clear hq8
     refine hK.out _ _ (hdwE8) (fun hHeld => ?_)
     clear hK K
     try simp only[Act.put,sa,s0,s1]
     refine ar1 4 q9f2_12_3_4 fun K hK => ?_
     ·go_simp
      have hfw4 := (show Below wS.heap.size wS wE8 from bthen (bthen (bthen (Below.refl _ _) hop2) hop3) hop8)
      have hfw3 := (show Below wE3.heap.size wE3 wE8 from bthen (Below.refl _ _) hop8)
      have hb5S : w2.heap.size ≤ wE8.heap.size := Nat.le_trans hbS.size hfw4.size
      refine Calls.mono (l6Put_any _ m newN curN _ (manB M) wE8 (rDisk_good.mono (rDisk_good.below HR.out (bthen hbwS hfw4)) (bthen hbwS hfw4).size) HW.out (by decide) ((hrd3.below hfw3).mono hfw3.size) hlB) ?_
      rw [← HR5.out]
      rintro e wE4 ⟨cs5, rfl, hr5, hx5⟩
      dsimp only at hr5
      obtain ⟨z0, zp0, z1, zp1, z2, zp2, rfl, _⟩ := id hr5
      have hop4 : Below wE8.heap.size wE8 wE4 := hx5
      have hdwE4 := hdwE8.under hop4
      go_wp2_with fail
      refine hK.out _ _ (hdwE4) (fun hHeld => ?_)
      clear hK K
      try simp only[Act.put,sa,s0,s1]
      refine uq 5 q9f2_12_3_5 18 hHeld ?_
      refine uq 6 q9f2_12_3_6 24 hHeld ?_
      refine uq 7 q9f2_12_3_7 25 hHeld ?_
      refine ar1 9 q9f2_12_3_9 fun K hK => ?_
      ·skip
       have hb8 := HB8.out.under (show Below wE8.heap.size wE8 wE4 from bthen (Below.refl _ _) hop4)
       obtain ⟨s0, sf0, s1, sf1, s2, sf2, s3, sf3⟩ := hb8.c8
       have hl8 := hb8.lt
       go_simp
       obtain ⟨wE9, hq9⟩ : ∃ q, q = ((((wE4.setCell ⟨g8, 0, none⟩ (.slice z0 d5.fInodes.length zp0)).setCell ⟨g8, 1, none⟩ (.slice z1 d5.fNames.length zp1)).setCell ⟨g8, 2, none⟩ (.slice z2 d5.fSafe.length zp2)).setCell ⟨g8, 3, none⟩ (.int .i64 d5.fNext)) := ⟨_, rfl⟩
       have hT9 : Turn [g8] wE4 wE9 := by rw [hq9]; exact turn4 _ _ _ _ _ _
       have hbx : Bw wE9 g8 25 [.slice z0 d5.fInodes.length zp0, .slice z1 d5.fNames.length zp1, .slice z2 d5.fSafe.length zp2, .int .i64 d5.fNext] := by rw [hq9]; exact hb8.put4 rfl _ _ _ _
       have hdwE9 : B2 wE9 w.heap.size [.slice a0 m.fInodes.length c0, .slice a1 m.fNames.length c1, .slice a2 m.fSafe.length c2, .int .i64 m.fNext] [.int .i64 M.fNext, .int .i64 M.fLog, .slice t2 M.fTables.length k2] := hdwE4.turn hT9 (by simp; omega) (by simp; omega)
       have hfp := (show Below wS.heap.size wS wE4 from bthen (bthen (bthen (bthen (Below.refl _ _) hop2) hop3) hop8) hop4)
       have hpS := (show Below wE4.heap.size wE4 wE4 from Below.refl _ _)
       have hgo := (show Below wE8.heap.size wE8 wE4 from bthen (Below.refl _ _) hop4)
       rw [← hq9]
       clear hq9 hb8 s0 s1 s2 s3 sf0 sf1 sf2 sf3
       refine hK.out _ _ (hdwE9) (fun hHeld => ?_)
       clear hK K
       try simp only[Act.put,sa,s0,s1]
       refine uq 10 q9f2_12_3_10 7 hHeld ?_
       refine wpAnyH_done (by kernel_rfl) ?_ _
       have hbp := bthen hbS hfp
       have hbp2 := bthen hb2 hbp
       have hr59 : rDisk wE9.heap.size wE9 [.slice z0 d5.fInodes.length zp0, .slice z1 d5.fNames.length zp1, .slice z2 d5.fSafe.length zp2, .int .i64 d5.fNext] d5 := by have h := rDisk_turn (Bw.dzero (HB8.out.under hgo)) hT9 (rDisk_good.mono (rDisk_good.below hr5 hpS) hpS.size); exact rDisk_good.mono h hT9.size
       exact ⟨rfl, _, _, _, _, _, _, _, _, _, _, _, _, _, _, _, _, _, _, _, _, _, _, _, _, _, _, _, _, _, _, _, _, _, _, _, _, _, _, _, _, _, g8, _, _, _, _, _, _, rfl, hgp, hbx, hr59, hdwE9.1, (hr2.under hbp).turn hT9 (by simp; omega), hbp2.trans (hT9.below (fun k hk => by simp at hk; omega) hbp2.size)⟩
   ·go_simp
    obtain ⟨wE8, hq8⟩ : ∃ q, q = wE2.alloc (.cells #[.slice none 0 0, .slice none 0 0, .slice none 0 0, .int .i64 0] 25) := ⟨_, rfl⟩
    have hop8 : Below wE2.heap.size wE2 wE8 := by rw [hq8]; exact (Below.refl _ _).alloc (Nat.le_refl _) _
    have hdwE8 := hdwE2.under hop8
    obtain ⟨g8, HG8⟩ : ∃ z, Hid (z = wE2.heap.size) := ⟨_, Hid.mk rfl⟩
    have HB8 : Hid (Bw wE8 g8 25 [.slice none 0 0, .slice none 0 0, .slice none 0 0, .int .i64 0]) := by unfold Hid; rw [HG8.out, hq8]; exact Bw.new _ _ _
    have hgp2 : w2.heap.size ≤ g8 := by rw [HG8.out]; exact Nat.le_trans hbS.size (Below.size (show Below wS.heap.size wS wE2 from bthen (Below.refl _ _) hop2))
    have hgp : w.heap.size + 3 ≤ g8 := by have := hr2.lt; omega
    rw [← HG8.out]
    rw [← hq8]
    clear hq8
    refine hK.out _ _ (hdwE8) (fun hHeld => ?_)
    clear hK K
    try simp only[Act.put,sa,s0,s1]
    refine ar1 3 q9f2_12_3_3 fun K hK => ?_
    ·skip
     obtain ⟨wE3, cap3, hcv3, hx3e, hrd3⟩ := strRdB (manTextP M) wE8 hlT
     have hop3 : Below wE8.heap.size wE8 wE3 := hx3e
     have hdwE3 := hdwE8.under hop3
     go_simp
     refine hK.out _ _ (hdwE3) (fun hHeld => ?_)
     clear hK K
     try simp only[Act.put,sa,s0,s1]
     refine ar1 4 q9f2_12_3_4 fun K hK => ?_
     ·go_simp
      have hfw4 := (show Below wS.heap.size wS wE3 from bthen (bthen (bthen (Below.refl _ _) hop2) hop8) hop3)
      have hfw3 := (show Below wE3.heap.size wE3 wE3 from Below.refl _ _)
      have hb5S : w2.heap.size ≤ wE3.heap.size := Nat.le_trans hbS.size hfw4.size
      refine Calls.mono (l6Put_any _ m newN curN _ (manB M) wE3 (rDisk_good.mono (rDisk_good.below HR.out (bthen hbwS hfw4)) (bthen hbwS hfw4).size) HW.out (by decide) ((hrd3.below hfw3).mono hfw3.size) hlB) ?_
      rw [← HR5.out]
      rintro e wE4 ⟨cs5, rfl, hr5, hx5⟩
      dsimp only at hr5
      obtain ⟨z0, zp0, z1, zp1, z2, zp2, rfl, _⟩ := id hr5
      have hop4 : Below wE3.heap.size wE3 wE4 := hx5
      have hdwE4 := hdwE3.under hop4
      go_wp2_with fail
      refine hK.out _ _ (hdwE4) (fun hHeld => ?_)
      clear hK K
      try simp only[Act.put,sa,s0,s1]
      refine uq 5 q9f2_12_3_5 18 hHeld ?_
      refine uq 6 q9f2_12_3_6 24 hHeld ?_
      refine uq 7 q9f2_12_3_7 25 hHeld ?_
      refine ar1 9 q9f2_12_3_9 fun K hK => ?_
      ·skip
       have hb8 := HB8.out.under (show Below wE8.heap.size wE8 wE4 from bthen (bthen (Below.refl _ _) hop3) hop4)
       obtain ⟨s0, sf0, s1, sf1, s2, sf2, s3, sf3⟩ := hb8.c8
       have hl8 := hb8.lt
       go_simp
       obtain ⟨wE9, hq9⟩ : ∃ q, q = ((((wE4.setCell ⟨g8, 0, none⟩ (.slice z0 d5.fInodes.length zp0)).setCell ⟨g8, 1, none⟩ (.slice z1 d5.fNames.length zp1)).setCell ⟨g8, 2, none⟩ (.slice z2 d5.fSafe.length zp2)).setCell ⟨g8, 3, none⟩ (.int .i64 d5.fNext)) := ⟨_, rfl⟩
       have hT9 : Turn [g8] wE4 wE9 := by rw [hq9]; exact turn4 _ _ _ _ _ _
       have hbx : Bw wE9 g8 25 [.slice z0 d5.fInodes.length zp0, .slice z1 d5.fNames.length zp1, .slice z2 d5.fSafe.length zp2, .int .i64 d5.fNext] := by rw [hq9]; exact hb8.put4 rfl _ _ _ _
       have hdwE9 : B2 wE9 w.heap.size [.slice a0 m.fInodes.length c0, .slice a1 m.fNames.length c1, .slice a2 m.fSafe.length c2, .int .i64 m.fNext] [.int .i64 M.fNext, .int .i64 M.fLog, .slice t2 M.fTables.length k2] := hdwE4.turn hT9 (by simp; omega) (by simp; omega)
       have hfp := (show Below wS.heap.size wS wE4 from bthen (bthen (bthen (bthen (Below.refl _ _) hop2) hop8) hop3) hop4)
       have hpS := (show Below wE4.heap.size wE4 wE4 from Below.refl _ _)
       have hgo := (show Below wE8.heap.size wE8 wE4 from bthen (bthen (Below.refl _ _) hop3) hop4)
       rw [← hq9]
       clear hq9 hb8 s0 s1 s2 s3 sf0 sf1 sf2 sf3
       refine hK.out _ _ (hdwE9) (fun hHeld => ?_)
       clear hK K
       try simp only[Act.put,sa,s0,s1]
       refine uq 10 q9f2_12_3_10 7 hHeld ?_
       refine wpAnyH_done (by kernel_rfl) ?_ _
       have hbp := bthen hbS hfp
       have hbp2 := bthen hb2 hbp
       have hr59 : rDisk wE9.heap.size wE9 [.slice z0 d5.fInodes.length zp0, .slice z1 d5.fNames.length zp1, .slice z2 d5.fSafe.length zp2, .int .i64 d5.fNext] d5 := by have h := rDisk_turn (Bw.dzero (HB8.out.under hgo)) hT9 (rDisk_good.mono (rDisk_good.below hr5 hpS) hpS.size); exact rDisk_good.mono h hT9.size
       exact ⟨rfl, _, _, _, _, _, _, _, _, _, _, _, _, _, _, _, _, _, _, _, _, _, _, _, _, _, _, _, _, _, _, _, _, _, _, _, _, _, _, _, _, _, g8, _, _, _, _, _, _, rfl, hgp, hbx, hr59, hdwE9.1, (hr2.under hbp).turn hT9 (by simp; omega), hbp2.trans (hT9.below (fun k hk => by simp at hk; omega) hbp2.size)⟩
  ·go_simp
   obtain ⟨wE8, hq8⟩ : ∃ q, q = wS.alloc (.cells #[.slice none 0 0, .slice none 0 0, .slice none 0 0, .int .i64 0] 25) := ⟨_, rfl⟩
   have hop8 : Below wS.heap.size wS wE8 := by rw [hq8]; exact (Below.refl _ _).alloc (Nat.le_refl _) _
   have hdwE8 := hdwS.under hop8
   obtain ⟨g8, HG8⟩ : ∃ z, Hid (z = wS.heap.size) := ⟨_, Hid.mk rfl⟩
   have HB8 : Hid (Bw wE8 g8 25 [.slice none 0 0, .slice none 0 0, .slice none 0 0, .int .i64 0]) := by unfold Hid; rw [HG8.out, hq8]; exact Bw.new _ _ _
   have hgp2 : w2.heap.size ≤ g8 := by rw [HG8.out]; exact Nat.le_trans hbS.size (Below.size (show Below wS.heap.size wS wS from Below.refl _ _))
   have hgp : w.heap.size + 3 ≤ g8 := by have := hr2.lt; omega
   rw [← HG8.out]
   rw [← hq8]
   clear hq8
   refine hK.out _ _ (hdwE8) (fun hHeld => ?_)
   clear hK K
   try simp only[Act.put,sa,s0,s1]
   refine ar1 2 q9f2_12_3_2 fun K hK => ?_
   ·go_simp
    have hfw2 := (show Below wS.heap.size wS wE8 from bthen (Below.refl _ _) hop8)
    refine Calls.mono (specManText_c _ M wE8 (rManifest_good.mono (rManifest_good.below HRM.out (bthen hbwS hfw2)) (bthen hbwS hfw2).size) HWM.out) ?_
    rintro e wE2 ⟨rfl, hx2e⟩
    have hop2 : Below wE8.heap.size wE8 wE2 := hx2e
    have hdwE2 := hdwE8.under hop2
    go_wp2_with fail
    refine hK.out _ _ (hdwE2) (fun hHeld => ?_)
    clear hK K
    try simp only[Act.put,sa,s0,s1]
    refine ar1 3 q9f2_12_3_3 fun K hK => ?_
    ·skip
     obtain ⟨wE3, cap3, hcv3, hx3e, hrd3⟩ := strRdB (manTextP M) wE2 hlT
     have hop3 : Below wE2.heap.size wE2 wE3 := hx3e
     have hdwE3 := hdwE2.under hop3
     go_simp
     refine hK.out _ _ (hdwE3) (fun hHeld => ?_)
     clear hK K
     try simp only[Act.put,sa,s0,s1]
     refine ar1 4 q9f2_12_3_4 fun K hK => ?_
     ·go_simp
      have hfw4 := (show Below wS.heap.size wS wE3 from bthen (bthen (bthen (Below.refl _ _) hop8) hop2) hop3)
      have hfw3 := (show Below wE3.heap.size wE3 wE3 from Below.refl _ _)
      have hb5S : w2.heap.size ≤ wE3.heap.size := Nat.le_trans hbS.size hfw4.size
      refine Calls.mono (l6Put_any _ m newN curN _ (manB M) wE3 (rDisk_good.mono (rDisk_good.below HR.out (bthen hbwS hfw4)) (bthen hbwS hfw4).size) HW.out (by decide) ((hrd3.below hfw3).mono hfw3.size) hlB) ?_
      rw [← HR5.out]
      rintro e wE4 ⟨cs5, rfl, hr5, hx5⟩
      dsimp only at hr5
      obtain ⟨z0, zp0, z1, zp1, z2, zp2, rfl, _⟩ := id hr5
      have hop4 : Below wE3.heap.size wE3 wE4 := hx5
      have hdwE4 := hdwE3.under hop4
      go_wp2_with fail
      refine hK.out _ _ (hdwE4) (fun hHeld => ?_)
      clear hK K
      try simp only[Act.put,sa,s0,s1]
      refine uq 5 q9f2_12_3_5 18 hHeld ?_
      refine uq 6 q9f2_12_3_6 24 hHeld ?_
      refine uq 7 q9f2_12_3_7 25 hHeld ?_
      refine ar1 9 q9f2_12_3_9 fun K hK => ?_
      ·skip
       have hb8 := HB8.out.under (show Below wE8.heap.size wE8 wE4 from bthen (bthen (bthen (Below.refl _ _) hop2) hop3) hop4)
       obtain ⟨s0, sf0, s1, sf1, s2, sf2, s3, sf3⟩ := hb8.c8
       have hl8 := hb8.lt
       go_simp
       obtain ⟨wE9, hq9⟩ : ∃ q, q = ((((wE4.setCell ⟨g8, 0, none⟩ (.slice z0 d5.fInodes.length zp0)).setCell ⟨g8, 1, none⟩ (.slice z1 d5.fNames.length zp1)).setCell ⟨g8, 2, none⟩ (.slice z2 d5.fSafe.length zp2)).setCell ⟨g8, 3, none⟩ (.int .i64 d5.fNext)) := ⟨_, rfl⟩
       have hT9 : Turn [g8] wE4 wE9 := by rw [hq9]; exact turn4 _ _ _ _ _ _
       have hbx : Bw wE9 g8 25 [.slice z0 d5.fInodes.length zp0, .slice z1 d5.fNames.length zp1, .slice z2 d5.fSafe.length zp2, .int .i64 d5.fNext] := by rw [hq9]; exact hb8.put4 rfl _ _ _ _
       have hdwE9 : B2 wE9 w.heap.size [.slice a0 m.fInodes.length c0, .slice a1 m.fNames.length c1, .slice a2 m.fSafe.length c2, .int .i64 m.fNext] [.int .i64 M.fNext, .int .i64 M.fLog, .slice t2 M.fTables.length k2] := hdwE4.turn hT9 (by simp; omega) (by simp; omega)
       have hfp := (show Below wS.heap.size wS wE4 from bthen (bthen (bthen (bthen (Below.refl _ _) hop8) hop2) hop3) hop4)
       have hpS := (show Below wE4.heap.size wE4 wE4 from Below.refl _ _)
       have hgo := (show Below wE8.heap.size wE8 wE4 from bthen (bthen (bthen (Below.refl _ _) hop2) hop3) hop4)
       rw [← hq9]
       clear hq9 hb8 s0 s1 s2 s3 sf0 sf1 sf2 sf3
       refine hK.out _ _ (hdwE9) (fun hHeld => ?_)
       clear hK K
       try simp only[Act.put,sa,s0,s1]
       refine uq 10 q9f2_12_3_10 7 hHeld ?_
       refine wpAnyH_done (by kernel_rfl) ?_ _
       have hbp := bthen hbS hfp
       have hbp2 := bthen hb2 hbp
       have hr59 : rDisk wE9.heap.size wE9 [.slice z0 d5.fInodes.length zp0, .slice z1 d5.fNames.length zp1, .slice z2 d5.fSafe.length zp2, .int .i64 d5.fNext] d5 := by have h := rDisk_turn (Bw.dzero (HB8.out.under hgo)) hT9 (rDisk_good.mono (rDisk_good.below hr5 hpS) hpS.size); exact rDisk_good.mono h hT9.size
       exact ⟨rfl, _, _, _, _, _, _, _, _, _, _, _, _, _, _, _, _, _, _, _, _, _, _, _, _, _, _, _, _, _, _, _, _, _, _, _, _, _, _, _, _, _, g8, _, _, _, _, _, _, rfl, hgp, hbx, hr59, hdwE9.1, (hr2.under hbp).turn hT9 (by simp; omega), hbp2.trans (hT9.below (fun k hk => by simp at hk; omega) hbp2.size)⟩
 case mono =>
  rintro e a' wJ ⟨rfl, y0, y1, y8, y9, y10, y11, y12, y13, y14, y15, y16, y17, y18, y19, y20, y21, y22, y23, y24, y25, y26, y27, y28, y29, y30, y31, y32, y33, y34, y35, y36, y37, y38, y39, y40, y41, y42, y43, y44, y45, y46, g, z0, z1, z2, zp0, zp1, zp2, rfl, hg, hbx, hr5, hdJ, hrJ, hBJ⟩
  have hxl := hbx.lt
  have hdlJ := hdJ.lt
  have hrl := hrJ.lt
  clear p0 p1 p2 p3 r0 r1 r2
  by_cases hcz : c5 = 0
  rotate_left
  ·have HRES : Hid (instR m M = (m, c5)) := by have h := HPT.out.1 hcz; have h2 := HBAD.out (by rw [h]; exact hcz); rw [h] at h2; exact h2
   have hcd : decide (c5 = 0) = false := decide_eq_false hcz
   have hdl := (hdJ).lt
   obtain ⟨x0, x1, x2, x3⟩ := hdJ.c4
   go_wp2_with fail
   refine (l2Copy_any _ m wJ (rDisk_good.mono (rDisk_good.below HR.out (hBJ)) (hBJ).size) HW.out).mono ?_
   rintro e w7 ⟨cs7, F7, rfl, ho7, hN7, hge7, hx7⟩
   obtain ⟨q0, qp0, q1, qp1, q2, qp2, E0, E1, E2, rfl, _, _, _, _, rfl⟩ := oDisk_cells ho7
   have hr7 := (hrJ).under hx7
   have hz7 := hx7.size
   have hzz := (hrJ).lt
   have hgF : ∀ b, b ∈ E0 ++ E1 ++ E2 ++ [] → w.heap.size + 3 ≤ b := fun b hb => by have := hge7 b hb; omega
   have HGF := Hid.mk hgF
   have HNF := Hid.mk hN7
   obtain ⟨u0, uf0, u1, uf1, u2, uf2, u3, uf3⟩ := hr7.c8
   have hul := hr7.lt
   have hT := turn4 w7 (w.heap.size + 1 + 1) (.slice q0 m.fInodes.length qp0) (.slice q1 m.fNames.length qp1) (.slice q2 m.fSafe.length qp2) (.int .i64 m.fNext)
   have HBF : Hid (Below w.heap.size w ((((w7.setCell ⟨w.heap.size + 1 + 1, 0, none⟩ (.slice q0 m.fInodes.length qp0)).setCell ⟨w.heap.size + 1 + 1, 1, none⟩ (.slice q1 m.fNames.length qp1)).setCell ⟨w.heap.size + 1 + 1, 2, none⟩ (.slice q2 m.fSafe.length qp2)).setCell ⟨w.heap.size + 1 + 1, 3, none⟩ (.int .i64 m.fNext))) := (bthen (hBJ) hx7).trans (hT.below (fun k hk => by simp at hk; omega) (bthen (hBJ) hx7).size)
   have HOF : Hid (rDisk ((((w7.setCell ⟨w.heap.size + 1 + 1, 0, none⟩ (.slice q0 m.fInodes.length qp0)).setCell ⟨w.heap.size + 1 + 1, 1, none⟩ (.slice q1 m.fNames.length qp1)).setCell ⟨w.heap.size + 1 + 1, 2, none⟩ (.slice q2 m.fSafe.length qp2)).setCell ⟨w.heap.size + 1 + 1, 3, none⟩ (.int .i64 m.fNext)).heap.size ((((w7.setCell ⟨w.heap.size + 1 + 1, 0, none⟩ (.slice q0 m.fInodes.length qp0)).setCell ⟨w.heap.size + 1 + 1, 1, none⟩ (.slice q1 m.fNames.length qp1)).setCell ⟨w.heap.size + 1 + 1, 2, none⟩ (.slice q2 m.fSafe.length qp2)).setCell ⟨w.heap.size + 1 + 1, 3, none⟩ (.int .i64 m.fNext)) [.slice q0 m.fInodes.length qp0, .slice q1 m.fNames.length qp1, .slice q2 m.fSafe.length qp2, .int .i64 m.fNext] m) := by
    have hz : ((((w7.setCell ⟨w.heap.size + 1 + 1, 0, none⟩ (.slice q0 m.fInodes.length qp0)).setCell ⟨w.heap.size + 1 + 1, 1, none⟩ (.slice q1 m.fNames.length qp1)).setCell ⟨w.heap.size + 1 + 1, 2, none⟩ (.slice q2 m.fSafe.length qp2)).setCell ⟨w.heap.size + 1 + 1, 3, none⟩ (.int .i64 m.fNext)).heap.size = w7.heap.size := by simp
    unfold Hid
    rw [hz]
    exact rDisk_turn (Bw.dzero hr7) hT (oDisk_good.read ho7)
   clear hT
   go_wp2_with fail
   refine bodyPost_ret (v := .tuple #[.agg #[.slice q0 m.fInodes.length qp0, .slice q1 m.fNames.length qp1, .slice q2 m.fSafe.length qp2, .int .i64 m.fNext], .int .i64 c5]) (by simp [results, Tryz.results12, go_sem, *]) rfl ?_
   exact ⟨[.slice q0 m.fInodes.length qp0, .slice q1 m.fNames.length qp1, .slice q2 m.fSafe.length qp2, .int .i64 m.fNext], by rw [show instC m M = c5 from congrArg (fun r => r.2) HRES.out], by rw [show instD m M = m from congrArg (fun r => r.1) HRES.out]; exact HOF.out, HBF.out⟩
  subst hcz
  have HP2 := Hid.mk (HPT.out.2.1 rfl)
  have HP3 := Hid.mk (HPT.out.2.2 rfl)
  clear HPT HR5
  obtain ⟨b0, bf0, b1, bf1, b2, bf2, b3, bf3⟩ := hbx.c8
  go_wp2_with fail
  refine (specRename_c _ d5 newN curN wJ hr5 (by decide) (by decide) hwR (by decide) (by decide)).mono ?_
  have hw6 := small_rename (s := newN) (t := curN) hwR
  try dsimp only at HP2 HP3
  obtain ⟨d6, hd6⟩ : ∃ x, x = renameP d5 newN curN := ⟨_, rfl⟩
  obtain ⟨c6, hc6⟩ : ∃ x, x = renameC d5 newN curN := ⟨_, rfl⟩
  rw [← hd6] at HP2 HP3 hw6 ⊢
  rw [← hc6] at HP2 HP3 ⊢
  clear hd6 hc6
  rintro e u6 ⟨cs6, rfl, hq6, hx6⟩
  obtain ⟨y0, yp0, y1, yp1, y2, yp2, rfl, _⟩ := id hq6
  have hbxk := hbx.under hx6
  have hdk := hdJ.under hx6
  have hrk := hrJ.under hx6
  have hBk := bthen hBJ hx6
  clear b0 b1 b2 b3 bf0 bf1 bf2 bf3 hxl hdlJ hrl
  obtain ⟨b0, bf0, b1, bf1, b2, bf2, b3, bf3⟩ := hbxk.c8
  have hxl := hbxk.lt
  obtain ⟨wK, hwK⟩ : ∃ x, x = ((((u6.setCell ⟨g, 0, none⟩ (.slice y0 d6.fInodes.length yp0)).setCell ⟨g, 1, none⟩ (.slice y1 d6.fNames.length yp1)).setCell ⟨g, 2, none⟩ (.slice y2 d6.fSafe.length yp2)).setCell ⟨g, 3, none⟩ (.int .i64 d6.fNext)) := ⟨_, rfl⟩
  have hTk : Turn [g] u6 wK := by rw [hwK]; exact turn4 _ _ _ _ _ _
  have hbxn : Bw wK g 25 [.slice y0 d6.fInodes.length yp0, .slice y1 d6.fNames.length yp1, .slice y2 d6.fSafe.length yp2, .int .i64 d6.fNext] := by rw [hwK]; exact hbxk.put4 rfl _ _ _ _
  have hdn := hdk.turn hTk (by simp; omega)
  have hrn := hrk.turn hTk (by simp; omega)
  have hBn := hBk.trans (hTk.below (fun k hk => by simp at hk; omega) hBk.size)
  have hqn : rDisk wK.heap.size wK [.slice y0 d6.fInodes.length yp0, .slice y1 d6.fNames.length yp1, .slice y2 d6.fSafe.length yp2, .int .i64 d6.fNext] d6 := rDisk_good.mono (rDisk_turn (hbxk.dbox hr5) hTk hq6) hTk.size
  clear hbx hdJ hrJ hBJ hr5 hbxk hdk hrk hBk hTk hq6 hx6
  have hbx := hbxn
  have hdJ := hdn
  have hrJ := hrn
  have hBJ := hBn
  have hr5 := hqn
  clear hbxn hdn hrn hBn hqn
  by_cases hczc6 : c6 = 0
  rotate_left
  ·have HRES : Hid (instR m M = (m, c6)) := by have h := HP2.out hczc6; have h2 := HBAD.out (by rw [h]; exact hczc6); rw [h] at h2; exact h2
   have hcd : decide (c6 = 0) = false := decide_eq_false hczc6
   have hdl := hdJ.lt
   obtain ⟨x0, x1, x2, x3⟩ := hdJ.c4
   rw [hwK] at x0 x1 x2 x3 hdl
   go_wp2_with fail
   rw [← hwK]
   clear x0 x1 x2 x3 hdl
   refine (l2Copy_any _ m wK (rDisk_good.mono (rDisk_good.below HR.out hBJ) hBJ.size) HW.out).mono ?_
   rintro e w7 ⟨cs7, F7, rfl, ho7, hN7, hge7, hx7⟩
   obtain ⟨q0, qp0, q1, qp1, q2, qp2, E0, E1, E2, rfl, _, _, _, _, rfl⟩ := oDisk_cells ho7
   have hr7 := hrJ.under hx7
   have hz7 := hx7.size
   have hzz := hrJ.lt
   obtain ⟨u0, uf0, u1, uf1, u2, uf2, u3, uf3⟩ := hr7.c8
   have hul := hr7.lt
   have hT := turn4 w7 (w.heap.size + 1 + 1) (.slice q0 m.fInodes.length qp0) (.slice q1 m.fNames.length qp1) (.slice q2 m.fSafe.length qp2) (.int .i64 m.fNext)
   have HBF : Hid (Below w.heap.size w ((((w7.setCell ⟨w.heap.size + 1 + 1, 0, none⟩ (.slice q0 m.fInodes.length qp0)).setCell ⟨w.heap.size + 1 + 1, 1, none⟩ (.slice q1 m.fNames.length qp1)).setCell ⟨w.heap.size + 1 + 1, 2, none⟩ (.slice q2 m.fSafe.length qp2)).setCell ⟨w.heap.size + 1 + 1, 3, none⟩ (.int .i64 m.fNext))) := (bthen hBJ hx7).trans (hT.below (fun k hk => by simp at hk; omega) (bthen hBJ hx7).size)
   have HOF : Hid (rDisk ((((w7.setCell ⟨w.heap.size + 1 + 1, 0, none⟩ (.slice q0 m.fInodes.length qp0)).setCell ⟨w.heap.size + 1 + 1, 1, none⟩ (.slice q1 m.fNames.length qp1)).setCell ⟨w.heap.size + 1 + 1, 2, none⟩ (.slice q2 m.fSafe.length qp2)).setCell ⟨w.heap.size + 1 + 1, 3, none⟩ (.int .i64 m.fNext)).heap.size ((((w7.setCell ⟨w.heap.size + 1 + 1, 0, none⟩ (.slice q0 m.fInodes.length qp0)).setCell ⟨w.heap.size + 1 + 1, 1, none⟩ (.slice q1 m.fNames.length qp1)).setCell ⟨w.heap.size + 1 + 1, 2, none⟩ (.slice q2 m.fSafe.length qp2)).setCell ⟨w.heap.size + 1 + 1, 3, none⟩ (.int .i64 m.fNext)) [.slice q0 m.fInodes.length qp0, .slice q1 m.fNames.length qp1, .slice q2 m.fSafe.length qp2, .int .i64 m.fNext] m) := by
    have hz : ((((w7.setCell ⟨w.heap.size + 1 + 1, 0, none⟩ (.slice q0 m.fInodes.length qp0)).setCell ⟨w.heap.size + 1 + 1, 1, none⟩ (.slice q1 m.fNames.length qp1)).setCell ⟨w.heap.size + 1 + 1, 2, none⟩ (.slice q2 m.fSafe.length qp2)).setCell ⟨w.heap.size + 1 + 1, 3, none⟩ (.int .i64 m.fNext)).heap.size = w7.heap.size := by simp
    unfold Hid
    rw [hz]
    exact rDisk_turn (Bw.dzero hr7) hT (oDisk_good.read ho7)
   clear hT
   go_wp2_with fail
   refine bodyPost_ret (v := .tuple #[.agg #[.slice q0 m.fInodes.length qp0, .slice q1 m.fNames.length qp1, .slice q2 m.fSafe.length qp2, .int .i64 m.fNext], .int .i64 c6]) (by simp [results, Tryz.results12, go_sem, *]) rfl ?_
   exact ⟨[.slice q0 m.fInodes.length qp0, .slice q1 m.fNames.length qp1, .slice q2 m.fSafe.length qp2, .int .i64 m.fNext], by rw [show instC m M = c6 from congrArg (fun r => r.2) HRES.out], by rw [show instD m M = m from congrArg (fun r => r.1) HRES.out]; exact HOF.out, HBF.out⟩
  subst hczc6
  have HP4 := Hid.mk (HP3.out rfl)
  clear HP2 HP3
  go_wp2_with fail
  rw [← hwK]
  clear hwK b0 b1 b2 b3 bf0 bf1 bf2 bf3 hxl
  refine (specSyncDir_c _ d6 wK hr5 hw6).mono ?_
  obtain ⟨d7, hd7⟩ : ∃ x, x = syncDirP d6 := ⟨_, rfl⟩
  obtain ⟨c7, hc7⟩ : ∃ x, x = syncDirC d6 := ⟨_, rfl⟩
  rw [← hd7] at HP4 ⊢
  rw [← hc7] at HP4 ⊢
  clear hd7 hc7
  obtain ⟨b0, b1, b2, b3⟩ := hbx.c4
  obtain ⟨bf0, bf1, bf2, bf3⟩ := hbx.f4
  have hxl := hbx.lt
  have hdlJ := hdJ.lt
  have hrl := hrJ.lt
  rintro e u7 ⟨cs7, rfl, hq7, hx7⟩
  obtain ⟨x0, xp0, x1, xp1, x2, xp2, rfl, _⟩ := id hq7
  have hbxk := hbx.under hx7
  have hdk := hdJ.under hx7
  have hrk := hrJ.under hx7
  have hBk := bthen hBJ hx7
  clear b0 b1 b2 b3 bf0 bf1 bf2 bf3 hxl hdlJ hrl
  obtain ⟨b0, bf0, b1, bf1, b2, bf2, b3, bf3⟩ := hbxk.c8
  have hxl := hbxk.lt
  obtain ⟨wL, hwL⟩ : ∃ x, x = ((((u7.setCell ⟨g, 0, none⟩ (.slice x0 d7.fInodes.length xp0)).setCell ⟨g, 1, none⟩ (.slice x1 d7.fNames.length xp1)).setCell ⟨g, 2, none⟩ (.slice x2 d7.fSafe.length xp2)).setCell ⟨g, 3, none⟩ (.int .i64 d7.fNext)) := ⟨_, rfl⟩
  have hTk : Turn [g] u7 wL := by rw [hwL]; exact turn4 _ _ _ _ _ _
  have hbxn : Bw wL g 25 [.slice x0 d7.fInodes.length xp0, .slice x1 d7.fNames.length xp1, .slice x2 d7.fSafe.length xp2, .int .i64 d7.fNext] := by rw [hwL]; exact hbxk.put4 rfl _ _ _ _
  have hdn := hdk.turn hTk (by simp; omega)
  have hrn := hrk.turn hTk (by simp; omega)
  have hBn := hBk.trans (hTk.below (fun k hk => by simp at hk; omega) hBk.size)
  have hqn : rDisk wL.heap.size wL [.slice x0 d7.fInodes.length xp0, .slice x1 d7.fNames.length xp1, .slice x2 d7.fSafe.length xp2, .int .i64 d7.fNext] d7 := rDisk_good.mono (rDisk_turn (hbxk.dbox hr5) hTk hq7) hTk.size
  clear hbx hdJ hrJ hBJ hr5 hbxk hdk hrk hBk hTk hq7 hx7
  have hbx := hbxn
  have hdJ := hdn
  have hrJ := hrn
  have hBJ := hBn
  have hr5 := hqn
  clear hbxn hdn hrn hBn hqn
  by_cases hczc7 : c7 = 0
  rotate_left
  ·have HRES : Hid (instR m M = (m, c7)) := by have h := HP4.out; have h2 := HBAD.out (by rw [h]; exact hczc7); rw [h] at h2; exact h2
   have hcd : decide (c7 = 0) = false := decide_eq_false hczc7
   have hdl := hdJ.lt
   obtain ⟨x0, x1, x2, x3⟩ := hdJ.c4
   rw [hwL] at x0 x1 x2 x3 hdl
   go_wp2_with fail
   rw [← hwL]
   clear x0 x1 x2 x3 hdl
   refine (l2Copy_any _ m wL (rDisk_good.mono (rDisk_good.below HR.out hBJ) hBJ.size) HW.out).mono ?_
   rintro e w7 ⟨cs7, F7, rfl, ho7, hN7, hge7, hx7⟩
   obtain ⟨q0, qp0, q1, qp1, q2, qp2, E0, E1, E2, rfl, _, _, _, _, rfl⟩ := oDisk_cells ho7
   have hr7 := hrJ.under hx7
   have hz7 := hx7.size
   have hzz := hrJ.lt
   obtain ⟨u0, uf0, u1, uf1, u2, uf2, u3, uf3⟩ := hr7.c8
   have hul := hr7.lt
   have hT := turn4 w7 (w.heap.size + 1 + 1) (.slice q0 m.fInodes.length qp0) (.slice q1 m.fNames.length qp1) (.slice q2 m.fSafe.length qp2) (.int .i64 m.fNext)
   have HBF : Hid (Below w.heap.size w ((((w7.setCell ⟨w.heap.size + 1 + 1, 0, none⟩ (.slice q0 m.fInodes.length qp0)).setCell ⟨w.heap.size + 1 + 1, 1, none⟩ (.slice q1 m.fNames.length qp1)).setCell ⟨w.heap.size + 1 + 1, 2, none⟩ (.slice q2 m.fSafe.length qp2)).setCell ⟨w.heap.size + 1 + 1, 3, none⟩ (.int .i64 m.fNext))) := (bthen hBJ hx7).trans (hT.below (fun k hk => by simp at hk; omega) (bthen hBJ hx7).size)
   have HOF : Hid (rDisk ((((w7.setCell ⟨w.heap.size + 1 + 1, 0, none⟩ (.slice q0 m.fInodes.length qp0)).setCell ⟨w.heap.size + 1 + 1, 1, none⟩ (.slice q1 m.fNames.length qp1)).setCell ⟨w.heap.size + 1 + 1, 2, none⟩ (.slice q2 m.fSafe.length qp2)).setCell ⟨w.heap.size + 1 + 1, 3, none⟩ (.int .i64 m.fNext)).heap.size ((((w7.setCell ⟨w.heap.size + 1 + 1, 0, none⟩ (.slice q0 m.fInodes.length qp0)).setCell ⟨w.heap.size + 1 + 1, 1, none⟩ (.slice q1 m.fNames.length qp1)).setCell ⟨w.heap.size + 1 + 1, 2, none⟩ (.slice q2 m.fSafe.length qp2)).setCell ⟨w.heap.size + 1 + 1, 3, none⟩ (.int .i64 m.fNext)) [.slice q0 m.fInodes.length qp0, .slice q1 m.fNames.length qp1, .slice q2 m.fSafe.length qp2, .int .i64 m.fNext] m) := by
    have hz : ((((w7.setCell ⟨w.heap.size + 1 + 1, 0, none⟩ (.slice q0 m.fInodes.length qp0)).setCell ⟨w.heap.size + 1 + 1, 1, none⟩ (.slice q1 m.fNames.length qp1)).setCell ⟨w.heap.size + 1 + 1, 2, none⟩ (.slice q2 m.fSafe.length qp2)).setCell ⟨w.heap.size + 1 + 1, 3, none⟩ (.int .i64 m.fNext)).heap.size = w7.heap.size := by simp
    unfold Hid
    rw [hz]
    exact rDisk_turn (Bw.dzero hr7) hT (oDisk_good.read ho7)
   clear hT
   go_wp2_with fail
   refine bodyPost_ret (v := .tuple #[.agg #[.slice q0 m.fInodes.length qp0, .slice q1 m.fNames.length qp1, .slice q2 m.fSafe.length qp2, .int .i64 m.fNext], .int .i64 c7]) (by simp [results, Tryz.results12, go_sem, *]) rfl ?_
   exact ⟨[.slice q0 m.fInodes.length qp0, .slice q1 m.fNames.length qp1, .slice q2 m.fSafe.length qp2, .int .i64 m.fNext], by rw [show instC m M = c7 from congrArg (fun r => r.2) HRES.out], by rw [show instD m M = m from congrArg (fun r => r.1) HRES.out]; exact HOF.out, HBF.out⟩
  have HRES : Hid (instR m M = (d7, 0)) := by have h := HP4.out; have h2 := HGOOD.out (by rw [h]; exact hczc7); rw [h] at h2; exact h2
  subst hczc7
  obtain ⟨u0, uf0, u1, uf1, u2, uf2, u3, uf3⟩ := hrJ.c8
  have hul := hrJ.lt
  have hT := turn4 wL (w.heap.size + 1 + 1) (.slice x0 d7.fInodes.length xp0) (.slice x1 d7.fNames.length xp1) (.slice x2 d7.fSafe.length xp2) (.int .i64 d7.fNext)
  have HBF : Hid (Below w.heap.size w ((((wL.setCell ⟨w.heap.size + 1 + 1, 0, none⟩ (.slice x0 d7.fInodes.length xp0)).setCell ⟨w.heap.size + 1 + 1, 1, none⟩ (.slice x1 d7.fNames.length xp1)).setCell ⟨w.heap.size + 1 + 1, 2, none⟩ (.slice x2 d7.fSafe.length xp2)).setCell ⟨w.heap.size + 1 + 1, 3, none⟩ (.int .i64 d7.fNext))) := hBJ.trans (hT.below (fun k hk => by simp at hk; omega) hBJ.size)
  have HOF : Hid (rDisk ((((wL.setCell ⟨w.heap.size + 1 + 1, 0, none⟩ (.slice x0 d7.fInodes.length xp0)).setCell ⟨w.heap.size + 1 + 1, 1, none⟩ (.slice x1 d7.fNames.length xp1)).setCell ⟨w.heap.size + 1 + 1, 2, none⟩ (.slice x2 d7.fSafe.length xp2)).setCell ⟨w.heap.size + 1 + 1, 3, none⟩ (.int .i64 d7.fNext)).heap.size ((((wL.setCell ⟨w.heap.size + 1 + 1, 0, none⟩ (.slice x0 d7.fInodes.length xp0)).setCell ⟨w.heap.size + 1 + 1, 1, none⟩ (.slice x1 d7.fNames.length xp1)).setCell ⟨w.heap.size + 1 + 1, 2, none⟩ (.slice x2 d7.fSafe.length xp2)).setCell ⟨w.heap.size + 1 + 1, 3, none⟩ (.int .i64 d7.fNext)) [.slice x0 d7.fInodes.length xp0, .slice x1 d7.fNames.length xp1, .slice x2 d7.fSafe.length xp2, .int .i64 d7.fNext] d7) := by
   have hz : ((((wL.setCell ⟨w.heap.size + 1 + 1, 0, none⟩ (.slice x0 d7.fInodes.length xp0)).setCell ⟨w.heap.size + 1 + 1, 1, none⟩ (.slice x1 d7.fNames.length xp1)).setCell ⟨w.heap.size + 1 + 1, 2, none⟩ (.slice x2 d7.fSafe.length xp2)).setCell ⟨w.heap.size + 1 + 1, 3, none⟩ (.int .i64 d7.fNext)).heap.size = wL.heap.size := by simp
   unfold Hid
   rw [hz]
   exact rDisk_turn (Bw.dzero hrJ) hT hr5
  clear hT
  rw [hwL] at HBF HOF u0 u1 u2 u3 uf0 uf1 uf2 uf3 hul
  go_wp2_with fail
  exact bodyPost_ret (v := .tuple #[.agg #[.slice x0 d7.fInodes.length xp0, .slice x1 d7.fNames.length xp1, .slice x2 d7.fSafe.length xp2, .int .i64 d7.fNext], .int .i64 0]) (by simp [results, Tryz.results12, go_sem, *]) rfl ⟨[.slice x0 d7.fInodes.length xp0, .slice x1 d7.fNames.length xp1, .slice x2 d7.fSafe.length xp2, .int .i64 d7.fNext], by rw [show instC m M = 0 from congrArg (fun r => r.2) HRES.out], by rw [show instD m M = d7 from congrArg (fun r => r.1) HRES.out]; exact HOF.out, HBF.out⟩
end Go.Proofs.YtomlpobbhioflaaGreatDoor
