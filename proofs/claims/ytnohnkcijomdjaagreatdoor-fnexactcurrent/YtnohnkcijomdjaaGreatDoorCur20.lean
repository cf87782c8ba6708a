/-
  Part 21 of the texts that the proof leans on.
-/
import Derived.Test.YtnohnkcijomdjaaGreatDoorCur15
import Derived.Test.YtnohnkcijomdjaaGreatDoorCur1
import Derived.Test.YtnohnkcijomdjaaGreatDoorCur19
import Derived.Test.YtnohnkcijomdjaaGreatDoorCur0
import Derived.Deep.AppendSrc
import Derived.Test.YtnohnkcijomdjaaGreatDoorCur2
import Derived.Test.YtnohnkcijomdjaaGreatDoorCur14
import Derived.Test.YtnohnkcijomdjaaGreatDoorCur11
import Derived.Test.YtnohnkcijomdjaaGreatDoorCur17
import Derived.Test.YtnohnkcijomdjaaGreatDoorRows
import Derived.ProofKit
import Derived.Deep.Slices
set_option linter.unusedVariables false
set_option linter.unusedSimpArgs false
set_option maxRecDepth 10000

namespace Go.Proofs.YtnohnkcijomdjaaGreatDoor
open Go.RowKit

set_option maxHeartbeats 400000 in
theorem l2At_any (a : Option Addr) (n cap : Nat) (l : List MEntry) (s : ByteArray) (w : World) (B : Nat) (hx : l.length = n) (hlen : n ≤ 1099511627776) (hr : RdS 2 rEntry B w a l) :
    Calls Tryz.prog 58 #[.slice a n cap, .string s] w fun e w' => e = .returned (.int .i64 (nameZ l s)) ∧ w' = w := by
  have HX := Hid.mk hx
  clear hx
  go_enter Tryz.func58, Tryz.ntmps58
  go_wp2
  go_loop [5] (fun i => ∃ k : Nat, k ≤ n ∧ i = .int .i64 k ∧ ∀ j, (hj : j < l.length) → j < k → l[j].fName ≠ s) (fun i => n - (intOf i).toNat)
  case atStart => exact ⟨0, Nat.zero_le _, rfl, fun j _ hj => by omega⟩
  case round =>
    obtain ⟨k, hk, rfl, hno⟩ := hrel
    have HNo := Hid.mk hno
    clear hno
    by_cases hlt : k < n
    · have hkl : k < l.length := by rw [HX.out]; exact hlt
      obtain ⟨b1, o1, rfl, _, cs, hcl, hcell, rfl, _⟩ := hr k hkl
      have k1 := hcell 0 _ rfl
      rw [Nat.add_zero] at k1
      by_cases he : l[k].fName = s
      · have HV := Hid.mk (nameZ_at hkl he HNo.out)
        have heb := str_same he
        generalize l[k].fName = y at k1 heb
        clear hr hcell hcl he HNo
        go_wp2
        go_ret
        exact ⟨by rw [HV.out]; rfl, rfl⟩
      · have heb := str_ne he
        have HNo' : Hid (∀ j, (hj : j < l.length) → j < k + 1 → l[j].fName ≠ s) := fun j hj hjk => by
          by_cases hjk' : j = k
          · subst hjk'; exact he
          · exact HNo.out j hj (by omega)
        generalize l[k].fName = y at k1 heb
        clear hr hcell hcl he HNo
        go_wp2
        go_round
        case rel => exact ⟨k + 1, by omega, by go_num, HNo'.out⟩
        case measure => simp [intOf]; omega
    · have HV := Hid.mk (nameZ_no (l := l) (s := s) (fun j hj => HNo.out j hj (by have := HX.out; omega)))
      clear HNo
      go_wp2
      go_ret
      exact ⟨by rw [HV.out]; rfl, rfl⟩


set_option maxHeartbeats 1000000 in
theorem l2Call_any (cs : List Value) (m : MDisk) (s : ByteArray) (w : World) (hr : rDisk w.heap.size w cs m) (hw : wDisk m ≤ 1048576) (hs : s.size ≤ 9223372036854775807) :
    Calls Tryz.prog 56 #[.agg cs.toArray, .string s] w fun e w' => e = .returned (.int .i64 (callP m s)) ∧ Below w.heap.size w w' := by
  have hq := hr
  obtain ⟨a0, c0, a1, c1, a2, c2, rfl, hI, hNm, hSf, hnx, _⟩ := hq
  have hw2 : m.fInodes.length + sumW wInode m.fInodes + (m.fNames.length + sumW wEntry m.fNames) + (m.fSafe.length + sumW wEntry m.fSafe) ≤ 1048576 := hw
  have HW := Hid.mk hw
  have HR := Hid.mk hr
  have HNL := Hid.mk hNm
  clear hr hI hNm hSf hw
  have hbA := (Below.refl w.heap.size w).alloc (Nat.le_refl _) (.cells #[.slice a0 m.fInodes.length c0, .slice a1 m.fNames.length c1, .slice a2 m.fSafe.length c2, .int .i64 m.fNext] 39)
  have hCd := fun W (hb : Below w.heap.size w W) => specDiskOk_c _ m W (rDisk_good.mono (rDisk_good.below HR.out hb) hb.size) HW.out
  go_enter Tryz.func56, Tryz.ntmps56
  go_wp2_with fail
  refine Calls.mono (hCd _ hbA) ?_
  rintro e w1 ⟨rfl, hx1⟩
  have hb1 := bthen hbA hx1
  have hbx := (Bx.new w [.slice a0 m.fInodes.length c0, .slice a1 m.fNames.length c1, .slice a2 m.fSafe.length c2, .int .i64 m.fNext] 39).under hx1
  have y1 := hbx.2 1 _ rfl
  clear hCd
  by_cases hD : diskOk m = true
  · rw [hD]
    go_wp2_with fail
    refine (l2Name_any s w1 hs).mono ?_
    rintro e w2 ⟨rfl, hw2e⟩
    replace hw2e := hw2e.symm
    subst hw2e
    by_cases hN : nameOk s = true
    · rw [hN]
      have hrd := HNL.out.2.2.below rEntry_good hb1
      by_cases hH : hasName m.fNames s = true
      · have HV : Hid (callP m s = 0) := by show callP m s = 0; unfold callP; rw [hD, hN, hH]; rfl
        have hz : (nameZ m.fNames s < 0) = False := eq_false (by unfold nameZ; rw [hH, if_pos rfl]; omega)
        go_wp2_with fail
        refine (l2At_any a1 _ c1 m.fNames s w1 w.heap.size rfl (by omega) hrd).mono ?_
        rintro e w3 ⟨rfl, hw3⟩
        replace hw3 := hw3.symm
        subst hw3
        generalize nameZ m.fNames s = nz at *
        go_wp2_with fail
        go_ret
        exact ⟨by rw [HV.out]; rfl, hb1⟩
      · have hH2 : hasName m.fNames s = false := Bool.eq_false_iff.2 hH
        have HV : Hid (callP m s = 2) := by show callP m s = 2; unfold callP; rw [hD, hN, hH2]; rfl
        have hz : nameZ m.fNames s < 0 := by unfold nameZ; rw [hH2]; simp
        go_wp2_with fail
        refine (l2At_any a1 _ c1 m.fNames s w1 w.heap.size rfl (by omega) hrd).mono ?_
        rintro e w3 ⟨rfl, hw3⟩
        replace hw3 := hw3.symm
        subst hw3
        generalize nameZ m.fNames s = nz at *
        go_wp2_with fail
        go_ret
        exact ⟨by rw [HV.out]; rfl, hb1⟩
    · have hN2 : nameOk s = false := Bool.eq_false_iff.2 hN
      have HV : Hid (callP m s = 1) := by show callP m s = 1; unfold callP; rw [hD, hN2]; rfl
      rw [hN2]
      go_wp2_with fail
      go_ret
      exact ⟨by rw [HV.out]; rfl, hb1⟩
  · have hD2 : diskOk m = false := Bool.eq_false_iff.2 hD
    have HV : Hid (callP m s = 1) := by show callP m s = 1; unfold callP; rw [hD2]; rfl
    rw [hD2]
    go_wp2_with fail
    go_ret
    exact ⟨by rw [HV.out]; rfl, hb1⟩

abbrev qb4d_29_3_0 : Oper := ⟨some 12, .load 39 (.tmp 2), 39, "l02_files.go:234", #[], none⟩
abbrev qb4d_29_3_1 : Oper := ⟨some 13, .fieldAddr 39 (.tmp 2) 1, 0, "l02_files.go:234", #[], none⟩
abbrev qb4d_29_3_2 : Oper := ⟨some 14, .load 37 (.tmp 13), 37, "l02_files.go:234", #[⟨1, .data⟩], none⟩
abbrev qb4d_29_3_3 : Oper := ⟨some 15, .fieldAddr 39 (.tmp 2) 1, 0, "l02_files.go:234", #[], none⟩
abbrev qb4d_29_3_4 : Oper := ⟨some 16, .load 37 (.tmp 15), 37, "l02_files.go:234", #[⟨3, .data⟩], none⟩
abbrev qb4d_29_3_5 : Oper := ⟨some 17, .move (.tmp 1), 9, "l02_files.go:234", #[], none⟩
abbrev qb4d_29_3_6 : Oper := ⟨some 18, .call { callee := .value (.func 58), args := #[.tmp 16, .tmp 17], argTypes := #[37, 9] }, 3, "l02_files.go:234", #[⟨4, .data⟩, ⟨5, .data⟩], none⟩
abbrev qb4d_29_3_7 : Oper := ⟨some 19, .indexAddr 37 (.tmp 14) (.tmp 18), 0, "l02_files.go:234", #[⟨2, .data⟩, ⟨6, .data⟩], none⟩
abbrev qb4d_29_3_8 : Oper := ⟨some 20, .fieldAddr 90 (.tmp 19) 1, 0, "l02_files.go:234", #[⟨7, .data⟩], none⟩
abbrev qb4d_29_3_9 : Oper := ⟨some 21, .load 3 (.tmp 20), 3, "l02_files.go:234", #[⟨8, .data⟩], none⟩
abbrev qb4d_29_3_10 : Oper := ⟨some 22, .call { callee := .value (.func 57), args := #[.tmp 12, .tmp 21], argTypes := #[39, 3] }, 3, "l02_files.go:234", #[⟨0, .data⟩, ⟨9, .data⟩, ⟨6, .chain⟩], none⟩
abbrev qb4d_29_3_11 : Oper := ⟨some 6, .assign (.tmp 22), 3, "l02_files.go:234", #[⟨10, .data⟩, ⟨10, .chain⟩, ⟨0, .phase⟩, ⟨1, .phase⟩, ⟨2, .phase⟩, ⟨3, .phase⟩, ⟨4, .phase⟩, ⟨5, .phase⟩, ⟨6, .phase⟩, ⟨7, .phase⟩, ⟨8, .phase⟩, ⟨9, .phase⟩, ⟨10, .phase⟩], none⟩

set_option maxHeartbeats 4000000 in
theorem specBytes_c (cs : List Value) (m : MDisk) (s : ByteArray) (w : World) (hr : rDisk w.heap.size w cs m) (hs : s.size ≤ 9223372036854775807) (hw : wDisk m ≤ 1048576) (hw1 : s.size ≤ 1048576) :
    Calls Tryz.prog 29 #[.agg cs.toArray, .string s] w fun e w' => ∃ v : Value, e = .returned (.tuple #[v, .bool (decide (callP m s = 0))]) ∧ rdB w'.heap.size w' v (bytesP m s) ∧ Below w.heap.size w w' := by
  have hq := hr
  obtain ⟨a0, c0, a1, c1, a2, c2, rfl, hI, hNm, hSf, hnx, _⟩ := hq
  have hw2 : m.fInodes.length + sumW wInode m.fInodes + (m.fNames.length + sumW wEntry m.fNames) + (m.fSafe.length + sumW wEntry m.fSafe) ≤ 1048576 := hw
  have HW := Hid.mk hw
  have HR := Hid.mk hr
  have HI := Hid.mk hI
  have HNL := Hid.mk hNm
  clear hr hI hNm hSf hw
  obtain ⟨i0, hi, hz0, hz1, hz2⟩ := info_parts Tryz.info5
  have hbA := (Below.refl w.heap.size w).alloc (Nat.le_refl _) (.cells #[.slice a0 m.fInodes.length c0, .slice a1 m.fNames.length c1, .slice a2 m.fSafe.length c2, .int .i64 m.fNext] 39)
  go_enter Tryz.func29, Tryz.ntmps29
  go_wp2_with fail
  refine (l2Call_any _ m s _ (rDisk_good.mono (rDisk_good.below HR.out hbA) hbA.size) HW.out hs).mono ?_
  rintro e w1 ⟨rfl, hx1⟩
  have hb1 := bthen hbA hx1
  have hbx := (Bx.new w [.slice a0 m.fInodes.length c0, .slice a1 m.fNames.length c1, .slice a2 m.fSafe.length c2, .int .i64 m.fNext] 39).under hx1
  by_cases hC : callP m s = 0
  · have hok : diskOk m = true ∧ hasName m.fNames s = true := by
      unfold callP at hC
      by_cases h : (diskOk m && nameOk s) = true
      · rw [if_pos h] at hC
        rw [Bool.and_eq_true] at h
        by_cases h2 : hasName m.fNames s = true
        · exact ⟨h.1, h2⟩
        · rw [if_neg h2] at hC; cases hC
      · rw [if_neg h] at hC; cases hC
    obtain ⟨hk, hid, hhas⟩ := file_there hok.1 hok.2
    obtain ⟨hpl, hpi⟩ := hasId_at hhas
    have HD : Hid (bytesP m s = m.fInodes[placeOf m.fInodes (idOf m.fNames s)].fData) := by
      show bytesP m s = _
      unfold bytesP dataOf
      rw [if_pos hC, List.getElem?_eq_getElem hpl]
      rfl
    have hnz : nameZ m.fNames s = (nameAt m.fNames s : Int) := by unfold nameZ; rw [hok.2, if_pos rfl]
    have hpz : placeZ m.fInodes (idOf m.fNames s) = (placeOf m.fInodes (idOf m.fNames s) : Int) := by unfold placeZ; rw [hhas, if_pos rfl]
    have HC := Hid.mk hC
    have hwk := sumW_le (f := wInode) hpl
    have hdl : m.fInodes[placeOf m.fInodes (idOf m.fNames s)].fData.length ≤ 1048576 := by have : wInode m.fInodes[placeOf m.fInodes (idOf m.fNames s)] = m.fInodes[placeOf m.fInodes (idOf m.fNames s)].fData.length := rfl; omega
    obtain ⟨b1, o1, rfl, hB1, cs1, hcl1, hcell1, rfl, hrest1⟩ := (HNL.out.2.2.below rEntry_good hb1) (nameAt m.fNames s) hk
    have k1 := hcell1 1 _ rfl
    rw [← hid] at k1
    have hy1 : b1 < w1.heap.size := Nat.lt_of_lt_of_le hB1 hb1.size
    have q1 : ∀ W, Below w1.heap.size w1 W → W.cell? ⟨b1, o1 + nameAt m.fNames s * 2 + 1, none⟩ = some (.int .i64 (idOf m.fNames s)) := fun W hb => (hb.cell (p := ⟨b1, o1 + nameAt m.fNames s * 2 + 1, none⟩) hy1).trans k1
    have hCt := fun W (hb : Below w1.heap.size w1 W) => l2At_any (some ⟨b1, o1, none⟩) _ c1 m.fNames s W w.heap.size rfl (by omega) (HNL.out.2.2.below rEntry_good (bthen hb1 hb))
    have hCi := fun W (hb : Below w1.heap.size w1 W) => l2Inode_any _ m (idOf m.fNames s) W (rDisk_good.mono (rDisk_good.below HR.out (bthen hb1 hb)) (bthen hb1 hb).size) (by omega)
    simp only [hnz] at hCt
    simp only [hpz] at hCi
    rw [hC]
    have p0 : ∀ W, Below w1.heap.size w1 W → W.cell? ⟨w.heap.size, 0, none⟩ = some (.slice a0 m.fInodes.length c0) := fun W hb => (hbx.under hb).2 0 _ rfl
    have p1 : ∀ W, Below w1.heap.size w1 W → W.cell? ⟨w.heap.size, 1, none⟩ = some (.slice (some ⟨b1, o1, none⟩) m.fNames.length c1) := fun W hb => (hbx.under hb).2 1 _ rfl
    have p2 : ∀ W, Below w1.heap.size w1 W → W.cell? ⟨w.heap.size, 2, none⟩ = some (.slice a2 m.fSafe.length c2) := fun W hb => (hbx.under hb).2 2 _ rfl
    have p3 : ∀ W, Below w1.heap.size w1 W → W.cell? ⟨w.heap.size, 3, none⟩ = some (.int .i64 m.fNext) := fun W hb => (hbx.under hb).2 3 _ rfl
    have hu1 : (0 : Int) ≤ (nameAt m.fNames s : Int) := by omega
    have hu2 : (nameAt m.fNames s : Int) < (m.fNames.length : Int) := by omega
    have hu3 : (0 : Int) ≤ (placeOf m.fInodes (idOf m.fNames s) : Int) := by omega
    have hu4 : (placeOf m.fInodes (idOf m.fNames s) : Int) < (m.fInodes.length : Int) := by omega
    obtain ⟨dt, hdt⟩ : ∃ dt, dt = m.fInodes[placeOf m.fInodes (idOf m.fNames s)].fData := ⟨_, rfl⟩
    rw [← hdt] at hdl
    have HD2 : Hid (bytesP m s = dt) := HD.out.trans hdt.symm
    have HPL2 : Hid (∀ W, Below w.heap.size w W → ∃ b off ad cd, a0 = some ⟨b, off, none⟩ ∧ b < w.heap.size ∧ W.cell? ⟨b, off + placeOf m.fInodes (idOf m.fNames s) * 3 + 1, none⟩ = some (.slice ad dt.length cd) ∧ LeafB w.heap.size W ad cd dt) := by
      intro W hb
      obtain ⟨b, off, e, hB, cs2, _, hcell2, ad, cd, rfl, _, hda, _⟩ := (HI.out.2.2.below rInode_good hb) _ hpl
      rw [hdt]
      exact ⟨b, off, ad, cd, e, hB, hcell2 1 _ rfl, hda⟩
    clear hC hok hhas hpi hid hnz hpz hwk hcell1 hcl1 k1 HD hdt hpl hrest1 hk
    generalize nameAt m.fNames s = na at *
    generalize placeOf m.fInodes (idOf m.fNames s) = pa at *
    go_wp2_with fail
    refine wp_region_held_drew (S := fun W => Below w1.heap.size w1 W) (by kernel_rfl) (Below.drew (Below.refl _ _)) (fun hHeld => ?_)
    refine tk 0 qb4d_29_3_0 (some 12) (v := ?v1) rfl rfl (by kernel_rfl) hHeld (by rfl) (fun _ _ _ x => x) (fun w h => ?y1) ?_; (case y1 => (try dsimp only at h); go_simp; try (with_reducible rfl)); try simp only [Act.put, sa, s0, s1]
    refine tk 1 qb4d_29_3_1 (some 13) (v := ?v2) rfl rfl (by kernel_rfl) hHeld (by rfl) (fun _ _ _ x => x) (fun w h => ?y2) ?_; (case y2 => (try dsimp only at h); go_simp; try (with_reducible rfl)); try simp only [Act.put, sa, s0, s1]
    refine tk 2 qb4d_29_3_2 (some 14) (v := ?v3) rfl rfl (by kernel_rfl) hHeld (by rfl) (fun _ _ _ x => x) (fun w h => ?y3) ?_; (case y3 => (try dsimp only at h); go_simp; try (with_reducible rfl)); try simp only [Act.put, sa, s0, s1]
    refine tk 3 qb4d_29_3_3 (some 15) (v := ?v4) rfl rfl (by kernel_rfl) hHeld (by rfl) (fun _ _ _ x => x) (fun w h => ?y4) ?_; (case y4 => (try dsimp only at h); go_simp; try (with_reducible rfl)); try simp only [Act.put, sa, s0, s1]
    refine tk 4 qb4d_29_3_4 (some 16) (v := ?v5) rfl rfl (by kernel_rfl) hHeld (by rfl) (fun _ _ _ x => x) (fun w h => ?y5) ?_; (case y5 => (try dsimp only at h); go_simp; try (with_reducible rfl)); try simp only [Act.put, sa, s0, s1]
    refine tk 5 qb4d_29_3_5 (some 17) (v := ?v6) rfl rfl (by kernel_rfl) hHeld (by rfl) (fun _ _ _ x => x) (fun w h => ?y6) ?_; (case y6 => (try dsimp only at h); go_simp; try (with_reducible rfl)); try simp only [Act.put, sa, s0, s1]
    refine wpAnyH_ready (rs := [6]) (by kernel_rfl) (by simp) ?_
    refine AllReadyH.cons (o := qb4d_29_3_6) rfl (fun K hK => ?_) AllReadyH.nil
    go_simp
    refine Calls.mono (hCt _ hHeld) ?_
    rintro e w1 ⟨rfl, hw1⟩
    have hx1 := below_same hw1
    clear hw1
    go_wp2_with fail
    refine hK.out _ _ (bthen hHeld hx1) (fun hHeld => ?_)
    clear hK K
    try simp only [Act.put, sa, s0, s1]
    refine tk 7 qb4d_29_3_7 (some 19) (v := ?v7) rfl rfl (by kernel_rfl) hHeld (by rfl) (fun _ _ _ x => x) (fun w h => ?y7) ?_; (case y7 => (try dsimp only at h); go_simp; try (with_reducible rfl)); try simp only [Act.put, sa, s0, s1]
    refine tk 8 qb4d_29_3_8 (some 20) (v := ?v8) rfl rfl (by kernel_rfl) hHeld (by rfl) (fun _ _ _ x => x) (fun w h => ?y8) ?_; (case y8 => (try dsimp only at h); go_simp; try (with_reducible rfl)); try simp only [Act.put, sa, s0, s1]
    refine tk 9 qb4d_29_3_9 (some 21) (v := ?v9) rfl rfl (by kernel_rfl) hHeld (by rfl) (fun _ _ _ x => x) (fun w h => ?y9) ?_; (case y9 => (try dsimp only at h); go_simp; try (with_reducible rfl)); try simp only [Act.put, sa, s0, s1]
    refine wpAnyH_ready (rs := [10]) (by kernel_rfl) (by simp) ?_
    refine AllReadyH.cons (o := qb4d_29_3_10) rfl (fun K hK => ?_) AllReadyH.nil
    go_simp
    refine Calls.mono (hCi _ hHeld) ?_
    rintro e w2 ⟨rfl, hx2⟩
    go_wp2_with fail
    refine hK.out _ _ (bthen hHeld hx2) (fun hHeld => ?_)
    clear hK K
    try simp only [Act.put, sa, s0, s1]
    refine tk 11 qb4d_29_3_11 (some 6) (v := ?v10) rfl rfl (by kernel_rfl) hHeld (by rfl) (fun _ _ _ x => x) (fun w h => ?y10) ?_; (case y10 => (try dsimp only at h); go_simp; try (with_reducible rfl)); try simp only [Act.put, sa, s0, s1]
    refine wpAnyH_done (by kernel_rfl) ?_ _
    have hbW := bthen hb1 hHeld
    obtain ⟨b2, o2, ad, cd, ha0, hB2, kd, hda⟩ := HPL2.out _ hbW
    subst ha0
    have y0 := p0 _ hHeld
    have hlz := (hbx.under hHeld).1
    have hB2' : b2 < w2.heap.size := Nat.lt_of_lt_of_le hB2 hbW.size
    have hbq : Below w2.heap.size w2 (w2.alloc (.cells #[] 5)) := (Below.refl _ _).alloc (Nat.le_refl _) _
    have hrd := (hda.below (hbq.mono hbW.size)).2.2.1
    have hbyt := hda.2.2.2
    go_wp2_with (at_builtin; refine wpList_append_src _ rfl _ _ 60 60 rfl w2.heap.size 5 i0 (.int .u8 0) 1 1 Tryz.underlying60 hi hz0 hz1 hz2 rfl (.slice (some ⟨w2.heap.size, 0, none⟩) 0 0) 0 [] rfl (World.ownsRow_lit w2 #[] 0 (Nat.le_refl _) (by decide) rfl) dt.length (dt.map (Value.int .u8)) (Src.rd Tryz.underlying60 rfl hrd) (by unfold maxLen; omega) (by omega) (by simp) ?_; intro v3 w3 hown3 hg3)
    have hb3 : Below w2.heap.size w2 w3 := hbq.trans ((Turn.below (turnOwn hg3) (fun k hk => by simp [Value.ownBlock] at hk; omega) (by simp)))
    have hown4 : w3.ownsRow 0 5 1 v3 dt.length (dt.map (Value.int .u8)) := own_base (own_congr hown3 (by simp) (by simp)) (Nat.zero_le _)
    obtain ⟨ar, cr, hvr, hlr⟩ := (show ownB 5 w3 v3 dt v3.ownBlock.toList from ⟨hown4, hbyt, rfl⟩).read
    subst hvr
    refine bodyPost_ret (v := .tuple #[.slice ar dt.length cr, .bool true]) (by simp [results, Tryz.results29, go_sem, *]) rfl ⟨_, by rw [decide_eq_true HC.out], ?_, bthen hbW hb3⟩
    rw [HD2.out]
    exact ⟨ar, cr, rfl, hlr⟩
  · have HD : Hid (bytesP m s = []) := by show bytesP m s = _; unfold bytesP; rw [if_neg hC]
    have HC := Hid.mk (decide_eq_false hC)
    have hcn : (callP m s == 0) = false := beq_eq_false_iff_ne.2 hC
    have hcn2 : (callP m s != 0) = true := bne_iff_ne.2 hC
    clear hC
    generalize callP m s = cp at hcn hcn2 ⊢
    go_wp2_with fail
    refine bodyPost_ret (v := .tuple #[.slice (some ⟨w1.heap.size, 0, none⟩) 0 0, .bool false]) (by simp [results, Tryz.results29, go_sem, *]) rfl ⟨_, by rw [HC.out], ?_, bthen hb1 ((Below.refl _ _).alloc (Nat.le_refl _) _)⟩
    rw [HD.out]
    exact ⟨_, _, rfl, by simp, by omega, (fun j hj => by simp at hj), (fun z hz => by cases hz)⟩

end Go.Proofs.YtnohnkcijomdjaaGreatDoor

namespace Go.Proofs.YtnohnkcijomdjaaGreatDoor
open Go.RowKit Go.Maps Go.Shelf

def curN : ByteArray := ⟨#[99, 117, 114]⟩
def curP (m : MDisk) : MManifest × Bool := parseP (strOfNums (bytesP m curN))
theorem cur_no {m : MDisk} (h : ¬ callP m curN = 0) : curP m = (⟨0, 0, []⟩, false) := by
  unfold curP bytesP
  rw [if_neg h]
  exact parse_bad (by decide +kernel)
theorem bytes_small (m : MDisk) (s : ByteArray) (hw : wDisk m ≤ 1048576) : (bytesP m s).length ≤ 1048576 := by
  unfold bytesP dataOf
  have hw2 : m.fInodes.length + sumW wInode m.fInodes + (m.fNames.length + sumW wEntry m.fNames) + (m.fSafe.length + sumW wEntry m.fSafe) ≤ 1048576 := hw
  split
  · by_cases h : placeOf m.fInodes (idOf m.fNames s) < m.fInodes.length
    · rw [List.getElem?_eq_getElem h]
      have h1 := sumW_le (f := wInode) h
      have h2 : wInode m.fInodes[placeOf m.fInodes (idOf m.fNames s)] = m.fInodes[placeOf m.fInodes (idOf m.fNames s)].fData.length := rfl
      simp
      omega
    · rw [List.getElem?_eq_none (by omega)]
      simp
  · simp
theorem nums_small (m : MDisk) (s : ByteArray) (hw : wDisk m ≤ 1048576) : (strOfNums (bytesP m s)).size ≤ 1048576 := by
  have := bytes_small m s hw
  simpa [strOfNums, ByteArray.size] using this
theorem conv_rd {B : Nat} {w : World} {v : Value} {bs : List Int} (h : rdB B w v bs) : (convert 60 9 v).run Tryz.prog w = .ok (.string (strOfNums bs)) w := by
  obtain ⟨a, c, rfl, hl⟩ := h
  cases bs with
  | nil =>
    cases a with
    | none => exact run_convert_bytes_nil w 60 5 Tryz.underlying60 Tryz.underlying5 _ _ 9 Tryz.underlying9
    | some ad => exact run_convert_bytes_back w 60 9 5 ad c [] Tryz.underlying60 Tryz.underlying5 Tryz.underlying9 (fun j hj => by simp at hj)
  | cons z r =>
    obtain ⟨b, off, rfl, _, _⟩ := hl.2.2.1 0 (by simp)
    exact run_convert_bytes_arg w 60 5 Tryz.underlying60 Tryz.underlying5 b off _ c (z :: r) rfl (fun i hi => by
      obtain ⟨b', o', e', _, hc⟩ := hl.2.2.1 i hi
      simp only [Option.some.injEq, Addr.mk.injEq, and_true] at e'
      obtain ⟨rfl, rfl⟩ := e'
      exact hc) 9 Tryz.underlying9
/-- A manifest that is read stands where a manifest's own box is written. -/
theorem rManifest_turn {w w' : World} {b B : Nat} {t : TypeId} {x0 x1 x2 : Value} {cs : List Value} {m : MManifest} (hx : Bw w b t [x0, x1, x2]) (h : Turn [b] w w') (hr : rManifest B w cs m) : rManifest B w' cs m := by
  obtain ⟨a2, c2, rfl, h0, h1, hl, _⟩ := hr
  refine ⟨a2, c2, rfl, h0, h1, ⟨hl.1, hl.2.1, fun j hj => ?_⟩, trivial⟩
  obtain ⟨g, off, e, hB, cs, k1, k2, k3⟩ := hl.2.2 j hj
  obtain ⟨rfl, k4⟩ := k3
  have hne : g ≠ b := by
    rintro rfl
    have h4 := k2 3 _ rfl
    have hx' : w.heap[g]? = some (.cells [x0, x1, x2].toArray t (0, 0)) := hx
    simp [World.cell?, hx'] at h4
  exact ⟨g, off, e, hB, _, k1, fun i u hu => (h.cell (p := ⟨g, off + j * 4 + i, none⟩) (World.block_lt_of_cell? _ _ (k2 i u hu)) (by simpa using hne)).trans (k2 i u hu), ⟨rfl, k4⟩⟩

set_option maxHeartbeats 2000000 in
theorem specCurrent_c (cs : List Value) (m : MDisk) (w : World) (hr : rDisk w.heap.size w cs m) (hw : wDisk m ≤ 1048576) :
    Calls Tryz.prog 11 #[.agg cs.toArray] w fun e w' => ∃ cs : List Value, e = .returned (.tuple #[.agg cs.toArray, .bool (curP m).2]) ∧ rManifest w'.heap.size w' cs (curP m).1 ∧ Below w.heap.size w w' := by
  have HR := Hid.mk hr
  have HW := Hid.mk hw
  obtain ⟨a0, c0, a1, c1, a2, c2, rfl, _⟩ := hr
  obtain ⟨w1, hw1⟩ : ∃ q, q = (w.alloc (.cells #[.slice a0 m.fInodes.length c0, .slice a1 m.fNames.length c1, .slice a2 m.fSafe.length c2, .int .i64 m.fNext] 39)).alloc (.cells #[.int .i64 0, .int .i64 0, .slice none 0 0] 24) := ⟨_, rfl⟩
  have hb1 : Below w.heap.size w w1 := by rw [hw1]; exact ((Below.refl _ _).alloc (Nat.le_refl _) _).alloc (by simp) _
  have hq1 : Bw w1 (w.heap.size + 1) 24 [.int .i64 0, .int .i64 0, .slice none 0 0] := by rw [hw1]; exact Bw.new' _ _ _ (by simp)
  have HB1 := Hid.mk hb1
  have HQ1 := Hid.mk hq1
  have HN := Hid.mk (nums_small m curN hw)
  have HCN : Hid (¬ callP m curN = 0 → curP m = (⟨0, 0, []⟩, false)) := cur_no
  have HCY : Hid (curP m = parseP (strOfNums (bytesP m curN))) := rfl
  clear hb1 hq1 hw
  go_enter Tryz.func11, Tryz.ntmps11
  go_wp2_with fail
  rw [← hw1]
  clear hw1
  refine (specBytes_c _ m ⟨#[99, 117, 114]⟩ w1 (rDisk_good.mono (rDisk_good.below HR.out HB1.out) HB1.out.size) (by decide) HW.out (by decide)).mono ?_
  rintro e w2 ⟨v, rfl, hrd, hx2⟩
  have hq2 := HQ1.out.under hx2
  have HB2 : Hid (Below w.heap.size w w2) := bthen HB1.out hx2
  have HQ2 := Hid.mk hq2
  clear hx2 HQ1 HB1
  by_cases hc : callP m ⟨#[99, 117, 114]⟩ = 0
  · have hcv := conv_rd hrd
    rw [decide_eq_true hc]
    clear hrd hc HCN hq2
    have HN : Hid ((strOfNums (bytesP m ⟨#[99, 117, 114]⟩)).size ≤ 1048576) := HN
    have HCY : Hid (curP m = parseP (strOfNums (bytesP m ⟨#[99, 117, 114]⟩))) := HCY
    generalize strOfNums (bytesP m ⟨#[99, 117, 114]⟩) = tx at *
    go_wp2_with fail
    refine (specParseMan_c tx w2 HN.out).mono ?_
    rintro e w3 ⟨cs3, rfl, hrm, hx3⟩
    have HRM := Hid.mk hrm
    obtain ⟨a, c, rfl, _⟩ := hrm
    have hq3 := HQ2.out.under hx3
    have HQ3 := Hid.mk hq3
    have HB3 : Hid (Below w.heap.size w w3) := bthen HB2.out hx3
    have r0 := hq3.cell 0 _ rfl
    have r1 := hq3.cell 1 _ rfl
    have r2 := hq3.cell 2 _ rfl
    have f0 := hq3.free 0
    have f1 := hq3.free 1
    have f2 := hq3.free 2
    have hlr := hq3.lt
    clear hx3 hq3 HQ2 HB2 hcv
    obtain ⟨PM, hPM⟩ : ∃ q, q = parseP tx := ⟨_, rfl⟩
    rw [← hPM] at HRM HCY ⊢
    clear hPM
    go_wp2_with fail
    have hT7 := turn3 w3 (w.heap.size + 1) (.int .i64 PM.1.fNext) (.int .i64 PM.1.fLog) (.slice a PM.1.fTables.length c)
    refine bodyPost_ret (v := .tuple #[.agg #[.int .i64 PM.1.fNext, .int .i64 PM.1.fLog, .slice a PM.1.fTables.length c], .bool PM.2]) (by simp [results, Tryz.results11, go_sem, *]) rfl ?_
    rw [HCY.out]
    exact ⟨[.int .i64 PM.1.fNext, .int .i64 PM.1.fLog, .slice a PM.1.fTables.length c], rfl, rManifest_good.mono (rManifest_turn HQ3.out hT7 HRM.out) hT7.size, HB3.out.trans (hT7.below (fun k hk => by simp at hk; omega) HB3.out.size)⟩
  · have HCE := Hid.mk (HCN.out hc)
    rw [decide_eq_false hc]
    have r0 := hq2.cell 0 _ rfl
    have r1 := hq2.cell 1 _ rfl
    have r2 := hq2.cell 2 _ rfl
    have f0 := hq2.free 0
    have f1 := hq2.free 1
    have f2 := hq2.free 2
    have hlr := hq2.lt
    clear hq2 hrd hc
    go_wp2_with fail
    have hT7 := turn3 w2 (w.heap.size + 1) (.int .i64 0) (.int .i64 0) (.slice none 0 0)
    refine bodyPost_ret (v := .tuple #[.agg #[.int .i64 0, .int .i64 0, .slice none 0 0], .bool false]) (by simp [results, Tryz.results11, go_sem, *]) rfl ?_
    rw [HCE.out]
    exact ⟨[.int .i64 0, .int .i64 0, .slice none 0 0], rfl, ⟨none, 0, rfl, rfl, rfl, ⟨by simp, by simp, fun j hj => by simp at hj⟩, trivial⟩, HB2.out.trans (hT7.below (fun k hk => by simp at hk; omega) HB2.out.size)⟩

set_option maxHeartbeats 2000000 in
theorem implCurrent_c (cs : List Value) (m : MDisk) (w : World) (hr : rDisk w.heap.size w cs m) (hw : wDisk m ≤ 1048576) (hT : PrsT w) :
    Calls Tryz.prog 13 #[.agg cs.toArray] w fun e w' => ∃ (cs : List Value) (F : List Nat), e = .returned (.tuple #[.agg cs.toArray, .bool (curP m).2]) ∧ oManifest w' cs (curP m).1 F ∧ F.Nodup ∧ (∀ b, b ∈ F → w.heap.size ≤ b) ∧ Below w.heap.size w w' := by
  have HR := Hid.mk hr
  have HW := Hid.mk hw
  have HT := Hid.mk hT
  obtain ⟨a0, c0, a1, c1, a2, c2, rfl, _⟩ := hr
  obtain ⟨w1, hw1⟩ : ∃ q, q = (w.alloc (.cells #[.slice a0 m.fInodes.length c0, .slice a1 m.fNames.length c1, .slice a2 m.fSafe.length c2, .int .i64 m.fNext] 39)).alloc (.cells #[.int .i64 0, .int .i64 0, .slice none 0 0] 24) := ⟨_, rfl⟩
  have hb1 : Below w.heap.size w w1 := by rw [hw1]; exact ((Below.refl _ _).alloc (Nat.le_refl _) _).alloc (by simp) _
  have hq1 : Bw w1 (w.heap.size + 1) 24 [.int .i64 0, .int .i64 0, .slice none 0 0] := by rw [hw1]; exact Bw.new' _ _ _ (by simp)
  have HB1 := Hid.mk hb1
  have HQ1 := Hid.mk hq1
  have HN := Hid.mk (nums_small m curN hw)
  have HCY : Hid (curP m = parseP (strOfNums (bytesP m curN))) := rfl
  clear hb1 hq1 hw hT
  go_enter Tryz.func13, Tryz.ntmps13
  go_wp2_with fail
  rw [← hw1]
  clear hw1
  refine (implBytes_c _ m ⟨#[99, 117, 114]⟩ w1 (rDisk_good.mono (rDisk_good.below HR.out HB1.out) HB1.out.size) (by decide) HW.out (by decide)).mono ?_
  rintro e w2 ⟨v, FB, rfl, hob, _, _, hx2⟩
  have hcv := conv_rd (rdB_own hob)
  have hq2 := HQ1.out.under hx2
  have HB2 : Hid (Below w.heap.size w w2) := bthen HB1.out hx2
  have HQ2 := Hid.mk hq2
  clear hx2 HQ1 HB1 hob hq2
  have HN : Hid ((strOfNums (bytesP m ⟨#[99, 117, 114]⟩)).size ≤ 1048576) := HN
  have HCY : Hid (curP m = parseP (strOfNums (bytesP m ⟨#[99, 117, 114]⟩))) := HCY
  generalize strOfNums (bytesP m ⟨#[99, 117, 114]⟩) = tx at *
  generalize decide (callP m ⟨#[99, 117, 114]⟩ = 0) = bo
  go_wp2_with fail
  refine (implParseMan_c tx w2 HN.out (HT.out.below HB2.out)).mono ?_
  rintro e w3 ⟨cs3, F, rfl, ho, hNd, hF, hx3⟩
  have HO := Hid.mk ho
  obtain ⟨v2, F2, rfl, _, _, hos, _⟩ := ho
  obtain ⟨a, c, rfl, _⟩ := ownS.read oMeta_good hos
  clear hos
  have hq3 := HQ2.out.under hx3
  have HQ3 := Hid.mk hq3
  have HB3 : Hid (Below w.heap.size w w3) := bthen HB2.out hx3
  have HF : Hid (∀ b, b ∈ F → w.heap.size + 1 < b) := fun b hb => by have h1 := hF b hb; have h2 := HQ2.out.lt; omega
  have r0 := hq3.cell 0 _ rfl
  have r1 := hq3.cell 1 _ rfl
  have r2 := hq3.cell 2 _ rfl
  have f0 := hq3.free 0
  have f1 := hq3.free 1
  have f2 := hq3.free 2
  have hlr := hq3.lt
  clear hx3 hq3 HQ2 HB2 hcv hF
  obtain ⟨PM, hPM⟩ : ∃ q, q = parseP tx := ⟨_, rfl⟩
  rw [← hPM] at HO HCY ⊢
  clear hPM
  go_wp2_with fail
  have hT7 := turn3 w3 (w.heap.size + 1) (.int .i64 PM.1.fNext) (.int .i64 PM.1.fLog) (.slice a PM.1.fTables.length c)
  refine bodyPost_ret (v := .tuple #[.agg #[.int .i64 PM.1.fNext, .int .i64 PM.1.fLog, .slice a PM.1.fTables.length c], .bool PM.2]) (by simp [results, Tryz.results13, go_sem, *]) rfl ?_
  rw [HCY.out]
  exact ⟨[.int .i64 PM.1.fNext, .int .i64 PM.1.fLog, .slice a PM.1.fTables.length c], F, rfl, oManifest_good.frame HO.out (fun q hq => hT7.block q (oManifest_good.lt HO.out q hq) (by have := HF.out q hq; simp; omega)), hNd, fun b hb => by have := HF.out b hb; omega, HB3.out.trans (hT7.below (fun k hk => by simp at hk; omega) HB3.out.size)⟩

end Go.Proofs.YtnohnkcijomdjaaGreatDoor

namespace Go.Proofs.YtnohnkcijomdjaaGreatDoor
open Go.RowKit

section
variable {H : Type} {enc : TypeId × Value → H} {w : World} {base fuel : Nat} {spare : Nat → Bool} {held : Bool} {cs : List Value} {x : DataW H × List MemPlace}

theorem openBytes {t e : TypeId} (ht : Tryz.prog.underlying t = some (.slice e)) (he : Tryz.prog.underlying e = some (.int .u8)) (hc : Tryz.prog.cellsOf e = 1) (h : DataW.trod enc Tryz.prog w base spare held fuel t cs = some x) :
    ∃ a c, ∃ zs : List Int, cs = [.slice a zs.length c] ∧ LeafB w.heap.size w a c zs := by
  rcases Go.ChangeShapes.open_ints ht he hc h with ⟨rfl, _⟩ | ⟨a, len, cap, zs, rfl, _, hl, hm, hz, _, hcell, hwf⟩
  · exact ⟨none, 0, [], rfl, by simp, by omega, fun j hj => by simp at hj, fun z hz => by cases hz⟩
  · have hzl : len ≤ zs.length := by rw [hz]; split <;> omega
    refine ⟨some a, cap, zs.take len, by simp [hzl], by simp; omega, by simpa [maxLen] using hm, ?_, ?_⟩
    · intro j hj
      have hj' : j < len := by simp at hj; omega
      obtain ⟨b, off, rfl, hcc⟩ := ints_at hcell (by omega)
      have hcj := hcc j (by omega)
      refine ⟨b, off, rfl, World.block_lt_of_cell? _ _ hcj, ?_⟩
      rw [hcj]
      congr 2
      simp only [List.getD_eq_getElem?_getD, List.getElem?_take, hj', if_true]
    · intro z hz'
      have := hwf z (List.mem_of_mem_take hz')
      simpa [Lit.wf, IntKind.min, IntKind.max, IntKind.signed, IntKind.bits] using this

theorem openList {α : Type} {size : Nat} {R : Rep α} {t e : TypeId} (ht : Tryz.prog.underlying t = some (.slice e)) (hs : Tryz.prog.cellsOf e = size) (h0 : 0 < size)
    (hR : ∀ {fuel : Nat} {cs : List Value} {x : DataW H × List MemPlace}, DataW.trod enc Tryz.prog w base spare held fuel e cs = some x → ∃ m, R w.heap.size w cs m)
    (h : DataW.trod enc Tryz.prog w base spare held fuel t cs = some x) : ∃ a c, ∃ l : List α, cs = [.slice a l.length c] ∧ LeafL size R w.heap.size w a c l := by
  rcases Go.Deep.open_slice ht h with ⟨rfl, _⟩ | ⟨a, len, cap, m, n, D, Pl, rfl, _, hl, hm, hmm, _, hel⟩
  · exact ⟨none, 0, [], rfl, by simp, by omega, fun j hj => by simp at hj⟩
  · have hlm : len ≤ m := by rw [hmm]; split <;> omega
    have hex : ∀ i, i < len → ∃ y : α, ∃ cs', w.cells? base (a.add (i * size)) size = some cs' ∧ R w.heap.size w cs' y := by
      intro i hi
      obtain ⟨cs', h1, h2⟩ := hel i (by omega)
      rw [hs] at h1
      obtain ⟨y, hy⟩ := hR h2
      exact ⟨y, cs', h1, hy⟩
    have hli : ∀ k, k ≤ len → ∃ l : List α, l.length = k ∧ ∀ j, (hj : j < l.length) → ∃ cs', w.cells? base (a.add (j * size)) size = some cs' ∧ R w.heap.size w cs' l[j] := by
      intro k
      induction k with
      | zero => intro _; exact ⟨[], rfl, fun j hj => by simp at hj⟩
      | succ k ih =>
        intro hk
        obtain ⟨l, hl1, hl2⟩ := ih (by omega)
        obtain ⟨y, cs', hy1, hy2⟩ := hex k (by omega)
        refine ⟨l ++ [y], by simp [hl1], fun j hj => ?_⟩
        by_cases hjl : j < l.length
        · rw [List.getElem_append_left hjl]; exact hl2 j hjl
        · have hjk : j = k := by simp at hj; omega
          subst hjk
          rw [List.getElem_append_right (by omega)]
          simp only [hl1, Nat.sub_self, List.getElem_cons_zero]
          exact ⟨cs', hy1, hy2⟩
    obtain ⟨l, hl1, hl2⟩ := hli len (Nat.le_refl _)
    subst hl1
    refine ⟨some a, cap, l, rfl, hl, by simpa [maxLen] using hm, fun j hj => ?_⟩
    obtain ⟨cs', h1, h2⟩ := hl2 j hj
    obtain ⟨_, hlen, hcc⟩ := World.cells?_some h1
    obtain ⟨b, off, spot⟩ := a
    have hu := hcc 0 h0
    have hsome : ∃ u, cs'[0]? = some u := ⟨_, List.getElem?_eq_getElem (by omega)⟩
    obtain ⟨u, hu0⟩ := hsome
    rw [hu0] at hu
    have hsp : spot = none := by
      obtain ⟨cs0, h10, _⟩ := hl2 0 (by omega)
      obtain ⟨_, hlen0, hcc0⟩ := World.cells?_some h10
      have hu' := hcc0 0 h0
      rw [List.getElem?_eq_getElem (by omega)] at hu'
      simpa [Addr.add] using World.cell?_spot hu'
    subst hsp
    have hadd : ∀ i, ((⟨b, off, none⟩ : Addr).add (j * size)).add i = ⟨b, off + j * size + i, none⟩ := fun i => by rw [Addr.add_lit, Addr.add_lit]
    rw [hadd] at hu
    refine ⟨b, off, rfl, World.block_lt_of_cell? _ _ hu, cs', hlen, fun i v hv => ?_, h2⟩
    have hi : i < size := by
      rcases Nat.lt_or_ge i cs'.length with hh | hh
      · omega
      · rw [List.getElem?_eq_none hh] at hv; cases hv
    rw [← hadd, hcc i hi, hv]

theorem openInode (h : DataW.trod enc Tryz.prog w base spare held fuel 85 cs = some x) : ∃ m, rInode w.heap.size w cs m := by
  obtain ⟨xs, n, _, _, hl, hlen, hf⟩ := DataW.trod_struct Tryz.underlying85 h
  have hl' : cs.length = 3 := hl.trans (by kernel_rfl)
  obtain ⟨z0, z1, z2, rfl⟩ : ∃ z0 z1 z2, cs = [z0, z1, z2] := by
    match cs, hl' with
    | [z0, z1, z2], _ => exact ⟨z0, z1, z2, rfl⟩
  obtain ⟨y0, hy0⟩ : ∃ y, xs[0]? = some y := ⟨_, List.getElem?_eq_getElem (by rw [hlen]; decide)⟩
  have e0 := hf 0 _ rfl
  rw [hy0] at e0
  have d0 : DataW.trod enc Tryz.prog w base spare held n 3 [z0] = some y0 := e0
  obtain ⟨m0, he0, _, hw0⟩ := DataW.trod_int Tryz.underlying3 d0
  simp only [List.cons.injEq, and_true] at he0
  subst he0
  obtain ⟨y1, hy1⟩ : ∃ y, xs[1]? = some y := ⟨_, List.getElem?_eq_getElem (by rw [hlen]; decide)⟩
  have e1 := hf 1 _ rfl
  rw [hy1] at e1
  have d1 : DataW.trod enc Tryz.prog w base spare held n 60 [z1] = some y1 := e1
  obtain ⟨a1, c1, m1, he1, hw1⟩ := openBytes Tryz.underlying60 Tryz.underlying5 (by kernel_rfl) d1
  simp only [List.cons.injEq, and_true] at he1
  subst he1
  obtain ⟨y2, hy2⟩ : ∃ y, xs[2]? = some y := ⟨_, List.getElem?_eq_getElem (by rw [hlen]; decide)⟩
  have e2 := hf 2 _ rfl
  rw [hy2] at e2
  have d2 : DataW.trod enc Tryz.prog w base spare held n 3 [z2] = some y2 := e2
  obtain ⟨m2, he2, _, hw2⟩ := DataW.trod_int Tryz.underlying3 d2
  simp only [List.cons.injEq, and_true] at he2
  subst he2
  exact ⟨⟨m0, m1, m2⟩, a1, c1, rfl, hw0, hw1, hw2, trivial⟩

theorem openEntry (h : DataW.trod enc Tryz.prog w base spare held fuel 88 cs = some x) : ∃ m, rEntry w.heap.size w cs m := by
  obtain ⟨xs, n, _, _, hl, hlen, hf⟩ := DataW.trod_struct Tryz.underlying88 h
  have hl' : cs.length = 2 := hl.trans (by kernel_rfl)
  obtain ⟨z0, z1, rfl⟩ : ∃ z0 z1, cs = [z0, z1] := by
    match cs, hl' with
    | [z0, z1], _ => exact ⟨z0, z1, rfl⟩
  obtain ⟨y0, hy0⟩ : ∃ y, xs[0]? = some y := ⟨_, List.getElem?_eq_getElem (by rw [hlen]; decide)⟩
  have e0 := hf 0 _ rfl
  rw [hy0] at e0
  have d0 : DataW.trod enc Tryz.prog w base spare held n 9 [z0] = some y0 := e0
  obtain ⟨m0, he0, _, hw0⟩ := DataW.trod_string Tryz.underlying9 d0
  simp only [List.cons.injEq, and_true] at he0
  subst he0
  obtain ⟨y1, hy1⟩ : ∃ y, xs[1]? = some y := ⟨_, List.getElem?_eq_getElem (by rw [hlen]; decide)⟩
  have e1 := hf 1 _ rfl
  rw [hy1] at e1
  have d1 : DataW.trod enc Tryz.prog w base spare held n 3 [z1] = some y1 := e1
  obtain ⟨m1, he1, _, hw1⟩ := DataW.trod_int Tryz.underlying3 d1
  simp only [List.cons.injEq, and_true] at he1
  subst he1
  exact ⟨⟨m0, m1⟩, rfl, by simpa [maxLen] using hw0, hw1, trivial⟩

theorem openDisk (h : DataW.trod enc Tryz.prog w base spare held fuel 33 cs = some x) : ∃ m, rDisk w.heap.size w cs m := by
  obtain ⟨xs, n, _, _, hl, hlen, hf⟩ := DataW.trod_struct Tryz.underlying33 h
  have hl' : cs.length = 4 := hl.trans (by kernel_rfl)
  obtain ⟨z0, z1, z2, z3, rfl⟩ : ∃ z0 z1 z2 z3, cs = [z0, z1, z2, z3] := by
    match cs, hl' with
    | [z0, z1, z2, z3], _ => exact ⟨z0, z1, z2, z3, rfl⟩
  obtain ⟨y0, hy0⟩ : ∃ y, xs[0]? = some y := ⟨_, List.getElem?_eq_getElem (by rw [hlen]; decide)⟩
  have e0 := hf 0 _ rfl
  rw [hy0] at e0
  have d0 : DataW.trod enc Tryz.prog w base spare held n 30 [z0] = some y0 := e0
  obtain ⟨a0, c0, m0, he0, hw0⟩ := openList (R := rInode) (size := 3) Tryz.underlying30 (by kernel_rfl) (by decide) openInode d0
  simp only [List.cons.injEq, and_true] at he0
  subst he0
  obtain ⟨y1, hy1⟩ : ∃ y, xs[1]? = some y := ⟨_, List.getElem?_eq_getElem (by rw [hlen]; decide)⟩
  have e1 := hf 1 _ rfl
  rw [hy1] at e1
  have d1 : DataW.trod enc Tryz.prog w base spare held n 31 [z1] = some y1 := e1
  obtain ⟨a1, c1, m1, he1, hw1⟩ := openList (R := rEntry) (size := 2) Tryz.underlying31 (by kernel_rfl) (by decide) openEntry d1
  simp only [List.cons.injEq, and_true] at he1
  subst he1
  obtain ⟨y2, hy2⟩ : ∃ y, xs[2]? = some y := ⟨_, List.getElem?_eq_getElem (by rw [hlen]; decide)⟩
  have e2 := hf 2 _ rfl
  rw [hy2] at e2
  have d2 : DataW.trod enc Tryz.prog w base spare held n 31 [z2] = some y2 := e2
  obtain ⟨a2, c2, m2, he2, hw2⟩ := openList (R := rEntry) (size := 2) Tryz.underlying31 (by kernel_rfl) (by decide) openEntry d2
  simp only [List.cons.injEq, and_true] at he2
  subst he2
  obtain ⟨y3, hy3⟩ : ∃ y, xs[3]? = some y := ⟨_, List.getElem?_eq_getElem (by rw [hlen]; decide)⟩
  have e3 := hf 3 _ rfl
  rw [hy3] at e3
  have d3 : DataW.trod enc Tryz.prog w base spare held n 3 [z3] = some y3 := e3
  obtain ⟨m3, he3, _, hw3⟩ := DataW.trod_int Tryz.underlying3 d3
  simp only [List.cons.injEq, and_true] at he3
  subst he3
  exact ⟨⟨m0, m1, m2, m3⟩, a0, c0, a1, c1, a2, c2, rfl, hw0, hw1, hw2, hw3, trivial⟩

end
end Go.Proofs.YtnohnkcijomdjaaGreatDoor
