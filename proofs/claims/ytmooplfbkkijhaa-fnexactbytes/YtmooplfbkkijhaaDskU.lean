/-
  The specification's code of a call on a file.
-/
import Derived.Test.YtmooplfbkkijhaaDskO
import Derived.Test.YtmooplfbkkijhaaDskT
import Derived.Test.YtmooplfbkkijhaaDatC
import Derived.Test.YtmooplfbkkijhaaApp
import Derived.Deep.AppendSrc
namespace Go.Proofs.Ytmooplfbkkijhaa
open Go.RowKit
set_option linter.unusedVariables false
set_option linter.unusedSimpArgs false
set_option maxRecDepth 10000

set_option maxHeartbeats 1000000 in
theorem l2Call_any (cs : List Value) (m : MDisk) (s : ByteArray) (w : World) (hr : rDisk w.heap.size w cs m) (hw : wDisk m ≤ 1048576) (hs : s.size ≤ 9223372036854775807) :
    Calls Try.prog 66 #[.agg cs.toArray, .string s] w fun e w' => e = .returned (.int .i64 (callP m s)) ∧ Below w.heap.size w w' := by
  have hq := hr
  obtain ⟨a0, c0, a1, c1, a2, c2, rfl, hI, hNm, hSf, hnx, _⟩ := hq
  have hw2 : m.fInodes.length + sumW wInode m.fInodes + (m.fNames.length + sumW wEntry m.fNames) + (m.fSafe.length + sumW wEntry m.fSafe) ≤ 1048576 := hw
  have HW := Hid.mk hw
  have HR := Hid.mk hr
  have HNL := Hid.mk hNm
  clear hr hI hNm hSf hw
  have hbA := (Below.refl w.heap.size w).alloc (Nat.le_refl _) (.cells #[.slice a0 m.fInodes.length c0, .slice a1 m.fNames.length c1, .slice a2 m.fSafe.length c2, .int .i64 m.fNext] 27)
  have hCd := fun W (hb : Below w.heap.size w W) => specDiskOk_c _ m W (rDisk_good.mono (rDisk_good.below HR.out hb) hb.size) HW.out
  go_enter Try.func66, Try.ntmps66
  go_wp2_with fail
  refine Calls.mono (hCd _ hbA) ?_
  rintro e w1 ⟨rfl, hx1⟩
  have hb1 := bthen hbA hx1
  have hbx := (Bx.new w [.slice a0 m.fInodes.length c0, .slice a1 m.fNames.length c1, .slice a2 m.fSafe.length c2, .int .i64 m.fNext] 27).under hx1
  have y1 := hbx.2 1 _ rfl
  clear hCd
  by_cases hD : diskOk m = true
  · rw [hD]
    go_wp2_with fail
    refine (l2Name_any s w1 hs).mono ?_
    rintro e w2 ⟨rfl, hw2e⟩
    replace hw2e := hw2e.symm
    subst hw2e
    by_cases hN : nameOk s = true
    · rw [hN]
      have hrd := HNL.out.2.2.below rEntry_good hb1
      by_cases hH : hasName m.fNames s = true
      · have HV : Hid (callP m s = 0) := by show callP m s = 0; unfold callP; rw [hD, hN, hH]; rfl
        have hz : (nameZ m.fNames s < 0) = False := eq_false (by unfold nameZ; rw [hH, if_pos rfl]; omega)
        go_wp2_with fail
        refine (l2At_any a1 _ c1 m.fNames s w1 w.heap.size rfl (by omega) hrd).mono ?_
        rintro e w3 ⟨rfl, hw3⟩
        replace hw3 := hw3.symm
        subst hw3
        generalize nameZ m.fNames s = nz at *
        go_wp2_with fail
        go_ret
        exact ⟨by rw [HV.out]; rfl, hb1⟩
      · have hH2 : hasName m.fNames s = false := Bool.eq_false_iff.2 hH
        have HV : Hid (callP m s = 2) := by show callP m s = 2; unfold callP; rw [hD, hN, hH2]; rfl
        have hz : nameZ m.fNames s < 0 := by unfold nameZ; rw [hH2]; simp
        go_wp2_with fail
        refine (l2At_any a1 _ c1 m.fNames s w1 w.heap.size rfl (by omega) hrd).mono ?_
        rintro e w3 ⟨rfl, hw3⟩
        replace hw3 := hw3.symm
        subst hw3
        generalize nameZ m.fNames s = nz at *
        go_wp2_with fail
        go_ret
        exact ⟨by rw [HV.out]; rfl, hb1⟩
    · have hN2 : nameOk s = false := Bool.eq_false_iff.2 hN
      have HV : Hid (callP m s = 1) := by show callP m s = 1; unfold callP; rw [hD, hN2]; rfl
      rw [hN2]
      go_wp2_with fail
      go_ret
      exact ⟨by rw [HV.out]; rfl, hb1⟩
  · have hD2 : diskOk m = false := Bool.eq_false_iff.2 hD
    have HV : Hid (callP m s = 1) := by show callP m s = 1; unfold callP; rw [hD2]; rfl
    rw [hD2]
    go_wp2_with fail
    go_ret
    exact ⟨by rw [HV.out]; rfl, hb1⟩

set_option maxHeartbeats 4000000 in
theorem specBytes_c (cs : List Value) (m : MDisk) (s : ByteArray) (w : World) (hr : rDisk w.heap.size w cs m) (hs : s.size ≤ 9223372036854775807) (hw : wDisk m ≤ 1048576) (hw1 : s.size ≤ 1048576) :
    Calls Try.prog 50 #[.agg cs.toArray, .string s] w fun e w' => ∃ v : Value, e = .returned (.tuple #[v, .bool (decide (callP m s = 0))]) ∧ rdB w'.heap.size w' v (bytesP m s) ∧ Below w.heap.size w w' := by
  have hq := hr
  obtain ⟨a0, c0, a1, c1, a2, c2, rfl, hI, hNm, hSf, hnx, _⟩ := hq
  have hw2 : m.fInodes.length + sumW wInode m.fInodes + (m.fNames.length + sumW wEntry m.fNames) + (m.fSafe.length + sumW wEntry m.fSafe) ≤ 1048576 := hw
  have HW := Hid.mk hw
  have HR := Hid.mk hr
  have HI := Hid.mk hI
  have HNL := Hid.mk hNm
  clear hr hI hNm hSf hw
  obtain ⟨i0, hi, hz0, hz1, hz2⟩ := info_parts Try.info5
  have hbA := (Below.refl w.heap.size w).alloc (Nat.le_refl _) (.cells #[.slice a0 m.fInodes.length c0, .slice a1 m.fNames.length c1, .slice a2 m.fSafe.length c2, .int .i64 m.fNext] 27)
  go_enter Try.func50, Try.ntmps50
  go_wp2_with fail
  refine (l2Call_any _ m s _ (rDisk_good.mono (rDisk_good.below HR.out hbA) hbA.size) HW.out hs).mono ?_
  rintro e w1 ⟨rfl, hx1⟩
  have hb1 := bthen hbA hx1
  have hbx := (Bx.new w [.slice a0 m.fInodes.length c0, .slice a1 m.fNames.length c1, .slice a2 m.fSafe.length c2, .int .i64 m.fNext] 27).under hx1
  by_cases hC : callP m s = 0
  · have hok : diskOk m = true ∧ hasName m.fNames s = true := by
      unfold callP at hC
      by_cases h : (diskOk m && nameOk s) = true
      · rw [if_pos h] at hC
        rw [Bool.and_eq_true] at h
        by_cases h2 : hasName m.fNames s = true
        · exact ⟨h.1, h2⟩
        · rw [if_neg h2] at hC; cases hC
      · rw [if_neg h] at hC; cases hC
    obtain ⟨hk, hid, hhas⟩ := file_there hok.1 hok.2
    obtain ⟨hpl, hpi⟩ := hasId_at hhas
    have HD : Hid (bytesP m s = m.fInodes[placeOf m.fInodes (idOf m.fNames s)].fData) := by
      show bytesP m s = _
      unfold bytesP dataOf
      rw [if_pos hC, List.getElem?_eq_getElem hpl]
      rfl
    have hnz : nameZ m.fNames s = (nameAt m.fNames s : Int) := by unfold nameZ; rw [hok.2, if_pos rfl]
    have hpz : placeZ m.fInodes (idOf m.fNames s) = (placeOf m.fInodes (idOf m.fNames s) : Int) := by unfold placeZ; rw [hhas, if_pos rfl]
    have HC := Hid.mk hC
    have hwk := sumW_le (f := wInode) hpl
    have hdl : m.fInodes[placeOf m.fInodes (idOf m.fNames s)].fData.length ≤ 1048576 := by have : wInode m.fInodes[placeOf m.fInodes (idOf m.fNames s)] = m.fInodes[placeOf m.fInodes (idOf m.fNames s)].fData.length := rfl; omega
    obtain ⟨b1, o1, rfl, hB1, cs1, hcl1, hcell1, rfl, hrest1⟩ := (HNL.out.2.2.below rEntry_good hb1) (nameAt m.fNames s) hk
    have k1 := hcell1 1 _ rfl
    rw [← hid] at k1
    have hy1 : b1 < w1.heap.size := Nat.lt_of_lt_of_le hB1 hb1.size
    have q1 : ∀ W, Below w1.heap.size w1 W → W.cell? ⟨b1, o1 + nameAt m.fNames s * 2 + 1, none⟩ = some (.int .i64 (idOf m.fNames s)) := fun W hb => (hb.cell (p := ⟨b1, o1 + nameAt m.fNames s * 2 + 1, none⟩) hy1).trans k1
    have hCt := fun W (hb : Below w1.heap.size w1 W) => l2At_any (some ⟨b1, o1, none⟩) _ c1 m.fNames s W w.heap.size rfl (by omega) (HNL.out.2.2.below rEntry_good (bthen hb1 hb))
    have hCi := fun W (hb : Below w1.heap.size w1 W) => l2Inode_any _ m (idOf m.fNames s) W (rDisk_good.mono (rDisk_good.below HR.out (bthen hb1 hb)) (bthen hb1 hb).size) (by omega)
    simp only [hnz] at hCt
    simp only [hpz] at hCi
    rw [hC]
    have p0 : ∀ W, Below w1.heap.size w1 W → W.cell? ⟨w.heap.size, 0, none⟩ = some (.slice a0 m.fInodes.length c0) := fun W hb => (hbx.under hb).2 0 _ rfl
    have p1 : ∀ W, Below w1.heap.size w1 W → W.cell? ⟨w.heap.size, 1, none⟩ = some (.slice (some ⟨b1, o1, none⟩) m.fNames.length c1) := fun W hb => (hbx.under hb).2 1 _ rfl
    have p2 : ∀ W, Below w1.heap.size w1 W → W.cell? ⟨w.heap.size, 2, none⟩ = some (.slice a2 m.fSafe.length c2) := fun W hb => (hbx.under hb).2 2 _ rfl
    have p3 : ∀ W, Below w1.heap.size w1 W → W.cell? ⟨w.heap.size, 3, none⟩ = some (.int .i64 m.fNext) := fun W hb => (hbx.under hb).2 3 _ rfl
    have hu1 : (0 : Int) ≤ (nameAt m.fNames s : Int) := by omega
    have hu2 : (nameAt m.fNames s : Int) < (m.fNames.length : Int) := by omega
    have hu3 : (0 : Int) ≤ (placeOf m.fInodes (idOf m.fNames s) : Int) := by omega
    have hu4 : (placeOf m.fInodes (idOf m.fNames s) : Int) < (m.fInodes.length : Int) := by omega
    obtain ⟨dt, hdt⟩ : ∃ dt, dt = m.fInodes[placeOf m.fInodes (idOf m.fNames s)].fData := ⟨_, rfl⟩
    rw [← hdt] at hdl
    have HD2 : Hid (bytesP m s = dt) := HD.out.trans hdt.symm
    have HPL2 : Hid (∀ W, Below w.heap.size w W → ∃ b off ad cd, a0 = some ⟨b, off, none⟩ ∧ b < w.heap.size ∧ W.cell? ⟨b, off + placeOf m.fInodes (idOf m.fNames s) * 3 + 1, none⟩ = some (.slice ad dt.length cd) ∧ LeafB w.heap.size W ad cd dt) := by
      intro W hb
      obtain ⟨b, off, e, hB, cs2, _, hcell2, ad, cd, rfl, _, hda, _⟩ := (HI.out.2.2.below rInode_good hb) _ hpl
      rw [hdt]
      exact ⟨b, off, ad, cd, e, hB, hcell2 1 _ rfl, hda⟩
    clear hC hok hhas hpi hid hnz hpz hwk hcell1 hcl1 k1 HD hdt hpl hrest1 hk
    generalize nameAt m.fNames s = na at *
    generalize placeOf m.fInodes (idOf m.fNames s) = pa at *
    go_wp2_with fail
    refine wp_region_held_drew (S := fun W => Below w1.heap.size w1 W) (by kernel_rfl) (Below.drew (Below.refl _ _)) (fun hHeld => ?_)
    refine wpAnyH_take (i := 0) (oi := ⟨some 12, .load 27 (.tmp 2), 27, "l02_files.go:234", #[], none⟩) (v := ?v1) rfl (by kernel_rfl) (by kernel_rfl) (by kernel_rfl) (fun _ _ _ h => h) (Or.inl ⟨by rfl, ?hy1⟩) (by assumption) ?rest1
    case hy1 => (intro w hSw; (try dsimp only at hSw); go_simp; try (with_reducible rfl))
    try simp only [Act.put, List.setIfInBounds_toArray, List.set_cons_zero, List.set_cons_succ]
    refine wpAnyH_take (i := 1) (oi := ⟨some 13, .fieldAddr 27 (.tmp 2) 1, 0, "l02_files.go:234", #[], none⟩) (v := ?v2) rfl (by kernel_rfl) (by kernel_rfl) (by kernel_rfl) (fun _ _ _ h => h) (Or.inl ⟨by rfl, ?hy2⟩) (by assumption) ?rest2
    case hy2 => (intro w hSw; (try dsimp only at hSw); go_simp; try (with_reducible rfl))
    try simp only [Act.put, List.setIfInBounds_toArray, List.set_cons_zero, List.set_cons_succ]
    refine wpAnyH_take (i := 2) (oi := ⟨some 14, .load 25 (.tmp 13), 25, "l02_files.go:234", #[⟨1, .data⟩], none⟩) (v := ?v3) rfl (by kernel_rfl) (by kernel_rfl) (by kernel_rfl) (fun _ _ _ h => h) (Or.inl ⟨by rfl, ?hy3⟩) (by assumption) ?rest3
    case hy3 => (intro w hSw; (try dsimp only at hSw); go_simp; try (with_reducible rfl))
    try simp only [Act.put, List.setIfInBounds_toArray, List.set_cons_zero, List.set_cons_succ]
    refine wpAnyH_take (i := 3) (oi := ⟨some 15, .fieldAddr 27 (.tmp 2) 1, 0, "l02_files.go:234", #[], none⟩) (v := ?v4) rfl (by kernel_rfl) (by kernel_rfl) (by kernel_rfl) (fun _ _ _ h => h) (Or.inl ⟨by rfl, ?hy4⟩) (by assumption) ?rest4
    case hy4 => (intro w hSw; (try dsimp only at hSw); go_simp; try (with_reducible rfl))
    try simp only [Act.put, List.setIfInBounds_toArray, List.set_cons_zero, List.set_cons_succ]
    refine wpAnyH_take (i := 4) (oi := ⟨some 16, .load 25 (.tmp 15), 25, "l02_files.go:234", #[⟨3, .data⟩], none⟩) (v := ?v5) rfl (by kernel_rfl) (by kernel_rfl) (by kernel_rfl) (fun _ _ _ h => h) (Or.inl ⟨by rfl, ?hy5⟩) (by assumption) ?rest5
    case hy5 => (intro w hSw; (try dsimp only at hSw); go_simp; try (with_reducible rfl))
    try simp only [Act.put, List.setIfInBounds_toArray, List.set_cons_zero, List.set_cons_succ]
    refine wpAnyH_take (i := 5) (oi := ⟨some 17, .move (.tmp 1), 9, "l02_files.go:234", #[], none⟩) (v := ?v6) rfl (by kernel_rfl) (by kernel_rfl) (by kernel_rfl) (fun _ _ _ h => h) (Or.inl ⟨by rfl, ?hy6⟩) (by assumption) ?rest6
    case hy6 => (intro w hSw; (try dsimp only at hSw); go_simp; try (with_reducible rfl))
    try simp only [Act.put, List.setIfInBounds_toArray, List.set_cons_zero, List.set_cons_succ]
    refine wpAnyH_ready (rs := [6]) (by kernel_rfl) (by simp) ?_
    refine AllReadyH.cons (o := ⟨some 18, .call { callee := .value (.func 77), args := #[.tmp 16, .tmp 17], argTypes := #[25, 9] }, 3, "l02_files.go:234", #[⟨4, .data⟩, ⟨5, .data⟩], none⟩) rfl (fun K hK => ?_) AllReadyH.nil
    go_simp
    refine Calls.mono (hCt _ hHeld) ?_
    rintro e w1 ⟨rfl, hw1⟩
    have hx1 := below_same hw1
    clear hw1
    go_wp2_with fail
    refine hK.out _ _ (bthen hHeld hx1) (fun hHeld => ?_)
    clear hK K
    try simp only [Act.put, List.setIfInBounds_toArray, List.set_cons_zero, List.set_cons_succ]
    refine wpAnyH_take (i := 7) (oi := ⟨some 19, .indexAddr 25 (.tmp 14) (.tmp 18), 0, "l02_files.go:234", #[⟨2, .data⟩, ⟨6, .data⟩], none⟩) (v := ?v7) rfl (by kernel_rfl) (by kernel_rfl) (by kernel_rfl) (fun _ _ _ h => h) (Or.inl ⟨by rfl, ?hy7⟩) (by assumption) ?rest7
    case hy7 => (intro w hSw; (try dsimp only at hSw); go_simp; try (with_reducible rfl))
    try simp only [Act.put, List.setIfInBounds_toArray, List.set_cons_zero, List.set_cons_succ]
    refine wpAnyH_take (i := 8) (oi := ⟨some 20, .fieldAddr 78 (.tmp 19) 1, 0, "l02_files.go:234", #[⟨7, .data⟩], none⟩) (v := ?v8) rfl (by kernel_rfl) (by kernel_rfl) (by kernel_rfl) (fun _ _ _ h => h) (Or.inl ⟨by rfl, ?hy8⟩) (by assumption) ?rest8
    case hy8 => (intro w hSw; (try dsimp only at hSw); go_simp; try (with_reducible rfl))
    try simp only [Act.put, List.setIfInBounds_toArray, List.set_cons_zero, List.set_cons_succ]
    refine wpAnyH_take (i := 9) (oi := ⟨some 21, .load 3 (.tmp 20), 3, "l02_files.go:234", #[⟨8, .data⟩], none⟩) (v := ?v9) rfl (by kernel_rfl) (by kernel_rfl) (by kernel_rfl) (fun _ _ _ h => h) (Or.inl ⟨by rfl, ?hy9⟩) (by assumption) ?rest9
    case hy9 => (intro w hSw; (try dsimp only at hSw); go_simp; try (with_reducible rfl))
    try simp only [Act.put, List.setIfInBounds_toArray, List.set_cons_zero, List.set_cons_succ]
    refine wpAnyH_ready (rs := [10]) (by kernel_rfl) (by simp) ?_
    refine AllReadyH.cons (o := ⟨some 22, .call { callee := .value (.func 92), args := #[.tmp 12, .tmp 21], argTypes := #[27, 3] }, 3, "l02_files.go:234", #[⟨0, .data⟩, ⟨9, .data⟩, ⟨6, .chain⟩], none⟩) rfl (fun K hK => ?_) AllReadyH.nil
    go_simp
    refine Calls.mono (hCi _ hHeld) ?_
    rintro e w2 ⟨rfl, hx2⟩
    go_wp2_with fail
    refine hK.out _ _ (bthen hHeld hx2) (fun hHeld => ?_)
    clear hK K
    try simp only [Act.put, List.setIfInBounds_toArray, List.set_cons_zero, List.set_cons_succ]
    refine wpAnyH_take (i := 11) (oi := ⟨some 6, .assign (.tmp 22), 3, "l02_files.go:234", #[⟨10, .data⟩, ⟨10, .chain⟩, ⟨0, .phase⟩, ⟨1, .phase⟩, ⟨2, .phase⟩, ⟨3, .phase⟩, ⟨4, .phase⟩, ⟨5, .phase⟩, ⟨6, .phase⟩, ⟨7, .phase⟩, ⟨8, .phase⟩, ⟨9, .phase⟩, ⟨10, .phase⟩], none⟩) (v := ?v10) rfl (by kernel_rfl) (by kernel_rfl) (by kernel_rfl) (fun _ _ _ h => h) (Or.inl ⟨by rfl, ?hy10⟩) (by assumption) ?rest10
    case hy10 => (intro w hSw; (try dsimp only at hSw); go_simp; try (with_reducible rfl))
    try simp only [Act.put, List.setIfInBounds_toArray, List.set_cons_zero, List.set_cons_succ]
    refine wpAnyH_done (by kernel_rfl) ?_ _
    have hbW := bthen hb1 hHeld
    obtain ⟨b2, o2, ad, cd, ha0, hB2, kd, hda⟩ := HPL2.out _ hbW
    subst ha0
    have y0 := p0 _ hHeld
    have hlz := (hbx.under hHeld).1
    have hB2' : b2 < w2.heap.size := Nat.lt_of_lt_of_le hB2 hbW.size
    have hbq : Below w2.heap.size w2 (w2.alloc (.cells #[] 5)) := (Below.refl _ _).alloc (Nat.le_refl _) _
    have hrd := (hda.below (hbq.mono hbW.size)).2.2.1
    have hbyt := hda.2.2.2
    go_wp2_with (at_builtin; refine wpList_append_src _ rfl _ _ 22 22 rfl w2.heap.size 5 i0 (.int .u8 0) 1 1 Try.underlying22 hi hz0 hz1 hz2 rfl (.slice (some ⟨w2.heap.size, 0, none⟩) 0 0) 0 [] rfl (World.ownsRow_lit w2 #[] 0 (Nat.le_refl _) (by decide) rfl) dt.length (dt.map (Value.int .u8)) (Src.rd Try.underlying22 rfl hrd) (by unfold maxLen; omega) (by omega) (by simp) ?_; intro v3 w3 hown3 hg3)
    have hb3 : Below w2.heap.size w2 w3 := hbq.trans ((Turn.below (turnOwn hg3) (fun k hk => by simp [Value.ownBlock] at hk; omega) (by simp)))
    have hown4 : w3.ownsRow 0 5 1 v3 dt.length (dt.map (Value.int .u8)) := own_base (own_congr hown3 (by simp) (by simp)) (Nat.zero_le _)
    obtain ⟨ar, cr, hvr, hlr⟩ := (show ownB 5 w3 v3 dt v3.ownBlock.toList from ⟨hown4, hbyt, rfl⟩).read
    subst hvr
    refine bodyPost_ret (v := .tuple #[.slice ar dt.length cr, .bool true]) (by simp [results, Try.results50, go_sem, *]) rfl ⟨_, by rw [decide_eq_true HC.out], ?_, bthen hbW hb3⟩
    rw [HD2.out]
    exact ⟨ar, cr, rfl, hlr⟩
  · have HD : Hid (bytesP m s = []) := by show bytesP m s = _; unfold bytesP; rw [if_neg hC]
    have HC := Hid.mk (decide_eq_false hC)
    have hcn : (callP m s == 0) = false := beq_eq_false_iff_ne.2 hC
    have hcn2 : (callP m s != 0) = true := bne_iff_ne.2 hC
    clear hC
    generalize callP m s = cp at hcn hcn2 ⊢
    go_wp2_with fail
    refine bodyPost_ret (v := .tuple #[.slice (some ⟨w1.heap.size, 0, none⟩) 0 0, .bool false]) (by simp [results, Try.results50, go_sem, *]) rfl ⟨_, by rw [HC.out], ?_, bthen hb1 ((Below.refl _ _).alloc (Nat.le_refl _) _)⟩
    rw [HD.out]
    exact ⟨_, _, rfl, by simp, by omega, (fun j hj => by simp at hj), (fun z hz => by cases hz)⟩

end Go.Proofs.Ytmooplfbkkijhaa
