/-
  The specification's Bytes.
-/
import Derived.Test.YtnohnkcijomdjaaGreatDoorRegK
import Derived.Test.YtnohnkcijomdjaaGreatDoorDskU
import Derived.Test.YtnohnkcijomdjaaGreatDoorDskT
import Derived.Test.YtnohnkcijomdjaaGreatDoorByteR
import Derived.Test.YtnohnkcijomdjaaGreatDoorApp
import Derived.Deep.AppendSrc
namespace Go.Proofs.YtnohnkcijomdjaaGreatDoor
open Go.RowKit
set_option linter.unusedVariables false
set_option linter.unusedSimpArgs false
set_option maxRecDepth 10000
abbrev qb4d_29_3_0 : Oper := ⟨some 12, .load 39 (.tmp 2), 39, "l02_files.go:234", #[], none⟩
abbrev qb4d_29_3_1 : Oper := ⟨some 13, .fieldAddr 39 (.tmp 2) 1, 0, "l02_files.go:234", #[], none⟩
abbrev qb4d_29_3_2 : Oper := ⟨some 14, .load 37 (.tmp 13), 37, "l02_files.go:234", #[⟨1, .data⟩], none⟩
abbrev qb4d_29_3_3 : Oper := ⟨some 15, .fieldAddr 39 (.tmp 2) 1, 0, "l02_files.go:234", #[], none⟩
abbrev qb4d_29_3_4 : Oper := ⟨some 16, .load 37 (.tmp 15), 37, "l02_files.go:234", #[⟨3, .data⟩], none⟩
abbrev qb4d_29_3_5 : Oper := ⟨some 17, .move (.tmp 1), 9, "l02_files.go:234", #[], none⟩
abbrev qb4d_29_3_6 : Oper := ⟨some 18, .call { callee := .value (.func 58), args := #[.tmp 16, .tmp 17], argTypes := #[37, 9] }, 3, "l02_files.go:234", #[⟨4, .data⟩, ⟨5, .data⟩], none⟩
abbrev qb4d_29_3_7 : Oper := ⟨some 19, .indexAddr 37 (.tmp 14) (.tmp 18), 0, "l02_files.go:234", #[⟨2, .data⟩, ⟨6, .data⟩], none⟩
abbrev qb4d_29_3_8 : Oper := ⟨some 20, .fieldAddr 90 (.tmp 19) 1, 0, "l02_files.go:234", #[⟨7, .data⟩], none⟩
abbrev qb4d_29_3_9 : Oper := ⟨some 21, .load 3 (.tmp 20), 3, "l02_files.go:234", #[⟨8, .data⟩], none⟩
abbrev qb4d_29_3_10 : Oper := ⟨some 22, .call { callee := .value (.func 57), args := #[.tmp 12, .tmp 21], argTypes := #[39, 3] }, 3, "l02_files.go:234", #[⟨0, .data⟩, ⟨9, .data⟩, ⟨6, .chain⟩], none⟩
abbrev qb4d_29_3_11 : Oper := ⟨some 6, .assign (.tmp 22), 3, "l02_files.go:234", #[⟨10, .data⟩, ⟨10, .chain⟩, ⟨0, .phase⟩, ⟨1, .phase⟩, ⟨2, .phase⟩, ⟨3, .phase⟩, ⟨4, .phase⟩, ⟨5, .phase⟩, ⟨6, .phase⟩, ⟨7, .phase⟩, ⟨8, .phase⟩, ⟨9, .phase⟩, ⟨10, .phase⟩], none⟩

set_option maxHeartbeats 4000000 in
theorem specBytes_c (cs : List Value) (m : MDisk) (s : ByteArray) (w : World) (hr : rDisk w.heap.size w cs m) (hs : s.size ≤ 9223372036854775807) (hw : wDisk m ≤ 1048576) (hw1 : s.size ≤ 1048576) :
    Calls Tryz.prog 29 #[.agg cs.toArray, .string s] w fun e w' => ∃ v : Value, e = .returned (.tuple #[v, .bool (decide (callP m s = 0))]) ∧ rdB w'.heap.size w' v (bytesP m s) ∧ Below w.heap.size w w' := by
  have hq := hr
  obtain ⟨a0, c0, a1, c1, a2, c2, rfl, hI, hNm, hSf, hnx, _⟩ := hq
  have hw2 : m.fInodes.length + sumW wInode m.fInodes + (m.fNames.length + sumW wEntry m.fNames) + (m.fSafe.length + sumW wEntry m.fSafe) ≤ 1048576 := hw
  have HW := Hid.mk hw
  have HR := Hid.mk hr
  have HI := Hid.mk hI
  have HNL := Hid.mk hNm
  clear hr hI hNm hSf hw
  obtain ⟨i0, hi, hz0, hz1, hz2⟩ := info_parts Tryz.info5
  have hbA := (Below.refl w.heap.size w).alloc (Nat.le_refl _) (.cells #[.slice a0 m.fInodes.length c0, .slice a1 m.fNames.length c1, .slice a2 m.fSafe.length c2, .int .i64 m.fNext] 39)
  go_enter Tryz.func29, Tryz.ntmps29
  go_wp2_with fail
  refine (l2Call_any _ m s _ (rDisk_good.mono (rDisk_good.below HR.out hbA) hbA.size) HW.out hs).mono ?_
  rintro e w1 ⟨rfl, hx1⟩
  have hb1 := bthen hbA hx1
  have hbx := (Bx.new w [.slice a0 m.fInodes.length c0, .slice a1 m.fNames.length c1, .slice a2 m.fSafe.length c2, .int .i64 m.fNext] 39).under hx1
  by_cases hC : callP m s = 0
  · have hok : diskOk m = true ∧ hasName m.fNames s = true := by
      unfold callP at hC
      by_cases h : (diskOk m && nameOk s) = true
      · rw [if_pos h] at hC
        rw [Bool.and_eq_true] at h
        by_cases h2 : hasName m.fNames s = true
        · exact ⟨h.1, h2⟩
        · rw [if_neg h2] at hC; cases hC
      · rw [if_neg h] at hC; cases hC
    obtain ⟨hk, hid, hhas⟩ := file_there hok.1 hok.2
    obtain ⟨hpl, hpi⟩ := hasId_at hhas
    have HD : Hid (bytesP m s = m.fInodes[placeOf m.fInodes (idOf m.fNames s)].fData) := by
      show bytesP m s = _
      unfold bytesP dataOf
      rw [if_pos hC, List.getElem?_eq_getElem hpl]
      rfl
    have hnz : nameZ m.fNames s = (nameAt m.fNames s : Int) := by unfold nameZ; rw [hok.2, if_pos rfl]
    have hpz : placeZ m.fInodes (idOf m.fNames s) = (placeOf m.fInodes (idOf m.fNames s) : Int) := by unfold placeZ; rw [hhas, if_pos rfl]
    have HC := Hid.mk hC
    have hwk := sumW_le (f := wInode) hpl
    have hdl : m.fInodes[placeOf m.fInodes (idOf m.fNames s)].fData.length ≤ 1048576 := by have : wInode m.fInodes[placeOf m.fInodes (idOf m.fNames s)] = m.fInodes[placeOf m.fInodes (idOf m.fNames s)].fData.length := rfl; omega
    obtain ⟨b1, o1, rfl, hB1, cs1, hcl1, hcell1, rfl, hrest1⟩ := (HNL.out.2.2.below rEntry_good hb1) (nameAt m.fNames s) hk
    have k1 := hcell1 1 _ rfl
    rw [← hid] at k1
    have hy1 : b1 < w1.heap.size := Nat.lt_of_lt_of_le hB1 hb1.size
    have q1 : ∀ W, Below w1.heap.size w1 W → W.cell? ⟨b1, o1 + nameAt m.fNames s * 2 + 1, none⟩ = some (.int .i64 (idOf m.fNames s)) := fun W hb => (hb.cell (p := ⟨b1, o1 + nameAt m.fNames s * 2 + 1, none⟩) hy1).trans k1
    have hCt := fun W (hb : Below w1.heap.size w1 W) => l2At_any (some ⟨b1, o1, none⟩) _ c1 m.fNames s W w.heap.size rfl (by omega) (HNL.out.2.2.below rEntry_good (bthen hb1 hb))
    have hCi := fun W (hb : Below w1.heap.size w1 W) => l2Inode_any _ m (idOf m.fNames s) W (rDisk_good.mono (rDisk_good.below HR.out (bthen hb1 hb)) (bthen hb1 hb).size) (by omega)
    simp only [hnz] at hCt
    simp only [hpz] at hCi
    rw [hC]
    have p0 : ∀ W, Below w1.heap.size w1 W → W.cell? ⟨w.heap.size, 0, none⟩ = some (.slice a0 m.fInodes.length c0) := fun W hb => (hbx.under hb).2 0 _ rfl
    have p1 : ∀ W, Below w1.heap.size w1 W → W.cell? ⟨w.heap.size, 1, none⟩ = some (.slice (some ⟨b1, o1, none⟩) m.fNames.length c1) := fun W hb => (hbx.under hb).2 1 _ rfl
    have p2 : ∀ W, Below w1.heap.size w1 W → W.cell? ⟨w.heap.size, 2, none⟩ = some (.slice a2 m.fSafe.length c2) := fun W hb => (hbx.under hb).2 2 _ rfl
    have p3 : ∀ W, Below w1.heap.size w1 W → W.cell? ⟨w.heap.size, 3, none⟩ = some (.int .i64 m.fNext) := fun W hb => (hbx.under hb).2 3 _ rfl
    have hu1 : (0 : Int) ≤ (nameAt m.fNames s : Int) := by omega
    have hu2 : (nameAt m.fNames s : Int) < (m.fNames.length : Int) := by omega
    have hu3 : (0 : Int) ≤ (placeOf m.fInodes (idOf m.fNames s) : Int) := by omega
    have hu4 : (placeOf m.fInodes (idOf m.fNames s) : Int) < (m.fInodes.length : Int) := by omega
    obtain ⟨dt, hdt⟩ : ∃ dt, dt = m.fInodes[placeOf m.fInodes (idOf m.fNames s)].fData := ⟨_, rfl⟩
    rw [← hdt] at hdl
    have HD2 : Hid (bytesP m s = dt) := HD.out.trans hdt.symm
    have HPL2 : Hid (∀ W, Below w.heap.size w W → ∃ b off ad cd, a0 = some ⟨b, off, none⟩ ∧ b < w.heap.size ∧ W.cell? ⟨b, off + placeOf m.fInodes (idOf m.fNames s) * 3 + 1, none⟩ = some (.slice ad dt.length cd) ∧ LeafB w.heap.size W ad cd dt) := by
      intro W hb
      obtain ⟨b, off, e, hB, cs2, _, hcell2, ad, cd, rfl, _, hda, _⟩ := (HI.out.2.2.below rInode_good hb) _ hpl
      rw [hdt]
      exact ⟨b, off, ad, cd, e, hB, hcell2 1 _ rfl, hda⟩
    clear hC hok hhas hpi hid hnz hpz hwk hcell1 hcl1 k1 HD hdt hpl hrest1 hk
    generalize nameAt m.fNames s = na at *
    generalize placeOf m.fInodes (idOf m.fNames s) = pa at *
    go_wp2_with fail
    refine wp_region_held_drew (S := fun W => Below w1.heap.size w1 W) (by kernel_rfl) (Below.drew (Below.refl _ _)) (fun hHeld => ?_)
    refine tk 0 qb4d_29_3_0 (some 12) (v := ?v1) rfl rfl (by kernel_rfl) hHeld (by rfl) (fun _ _ _ x => x) (fun w h => ?y1) ?_; (case y1 => (try dsimp only at h); go_simp; try (with_reducible rfl)); try simp only [Act.put, sa, s0, s1]
    refine tk 1 qb4d_29_3_1 (some 13) (v := ?v2) rfl rfl (by kernel_rfl) hHeld (by rfl) (fun _ _ _ x => x) (fun w h => ?y2) ?_; (case y2 => (try dsimp only at h); go_simp; try (with_reducible rfl)); try simp only [Act.put, sa, s0, s1]
    refine tk 2 qb4d_29_3_2 (some 14) (v := ?v3) rfl rfl (by kernel_rfl) hHeld (by rfl) (fun _ _ _ x => x) (fun w h => ?y3) ?_; (case y3 => (try dsimp only at h); go_simp; try (with_reducible rfl)); try simp only [Act.put, sa, s0, s1]
    refine tk 3 qb4d_29_3_3 (some 15) (v := ?v4) rfl rfl (by kernel_rfl) hHeld (by rfl) (fun _ _ _ x => x) (fun w h => ?y4) ?_; (case y4 => (try dsimp only at h); go_simp; try (with_reducible rfl)); try simp only [Act.put, sa, s0, s1]
    refine tk 4 qb4d_29_3_4 (some 16) (v := ?v5) rfl rfl (by kernel_rfl) hHeld (by rfl) (fun _ _ _ x => x) (fun w h => ?y5) ?_; (case y5 => (try dsimp only at h); go_simp; try (with_reducible rfl)); try simp only [Act.put, sa, s0, s1]
    refine tk 5 qb4d_29_3_5 (some 17) (v := ?v6) rfl rfl (by kernel_rfl) hHeld (by rfl) (fun _ _ _ x => x) (fun w h => ?y6) ?_; (case y6 => (try dsimp only at h); go_simp; try (with_reducible rfl)); try simp only [Act.put, sa, s0, s1]
    refine wpAnyH_ready (rs := [6]) (by kernel_rfl) (by simp) ?_
    refine AllReadyH.cons (o := qb4d_29_3_6) rfl (fun K hK => ?_) AllReadyH.nil
    go_simp
    refine Calls.mono (hCt _ hHeld) ?_
    rintro e w1 ⟨rfl, hw1⟩
    have hx1 := below_same hw1
    clear hw1
    go_wp2_with fail
    refine hK.out _ _ (bthen hHeld hx1) (fun hHeld => ?_)
    clear hK K
    try simp only [Act.put, sa, s0, s1]
    refine tk 7 qb4d_29_3_7 (some 19) (v := ?v7) rfl rfl (by kernel_rfl) hHeld (by rfl) (fun _ _ _ x => x) (fun w h => ?y7) ?_; (case y7 => (try dsimp only at h); go_simp; try (with_reducible rfl)); try simp only [Act.put, sa, s0, s1]
    refine tk 8 qb4d_29_3_8 (some 20) (v := ?v8) rfl rfl (by kernel_rfl) hHeld (by rfl) (fun _ _ _ x => x) (fun w h => ?y8) ?_; (case y8 => (try dsimp only at h); go_simp; try (with_reducible rfl)); try simp only [Act.put, sa, s0, s1]
    refine tk 9 qb4d_29_3_9 (some 21) (v := ?v9) rfl rfl (by kernel_rfl) hHeld (by rfl) (fun _ _ _ x => x) (fun w h => ?y9) ?_; (case y9 => (try dsimp only at h); go_simp; try (with_reducible rfl)); try simp only [Act.put, sa, s0, s1]
    refine wpAnyH_ready (rs := [10]) (by kernel_rfl) (by simp) ?_
    refine AllReadyH.cons (o := qb4d_29_3_10) rfl (fun K hK => ?_) AllReadyH.nil
    go_simp
    refine Calls.mono (hCi _ hHeld) ?_
    rintro e w2 ⟨rfl, hx2⟩
    go_wp2_with fail
    refine hK.out _ _ (bthen hHeld hx2) (fun hHeld => ?_)
    clear hK K
    try simp only [Act.put, sa, s0, s1]
    refine tk 11 qb4d_29_3_11 (some 6) (v := ?v10) rfl rfl (by kernel_rfl) hHeld (by rfl) (fun _ _ _ x => x) (fun w h => ?y10) ?_; (case y10 => (try dsimp only at h); go_simp; try (with_reducible rfl)); try simp only [Act.put, sa, s0, s1]
    refine wpAnyH_done (by kernel_rfl) ?_ _
    have hbW := bthen hb1 hHeld
    obtain ⟨b2, o2, ad, cd, ha0, hB2, kd, hda⟩ := HPL2.out _ hbW
    subst ha0
    have y0 := p0 _ hHeld
    have hlz := (hbx.under hHeld).1
    have hB2' : b2 < w2.heap.size := Nat.lt_of_lt_of_le hB2 hbW.size
    have hbq : Below w2.heap.size w2 (w2.alloc (.cells #[] 5)) := (Below.refl _ _).alloc (Nat.le_refl _) _
    have hrd := (hda.below (hbq.mono hbW.size)).2.2.1
    have hbyt := hda.2.2.2
    go_wp2_with (at_builtin; refine wpList_append_src _ rfl _ _ 60 60 rfl w2.heap.size 5 i0 (.int .u8 0) 1 1 Tryz.underlying60 hi hz0 hz1 hz2 rfl (.slice (some ⟨w2.heap.size, 0, none⟩) 0 0) 0 [] rfl (World.ownsRow_lit w2 #[] 0 (Nat.le_refl _) (by decide) rfl) dt.length (dt.map (Value.int .u8)) (Src.rd Tryz.underlying60 rfl hrd) (by unfold maxLen; omega) (by omega) (by simp) ?_; intro v3 w3 hown3 hg3)
    have hb3 : Below w2.heap.size w2 w3 := hbq.trans ((Turn.below (turnOwn hg3) (fun k hk => by simp [Value.ownBlock] at hk; omega) (by simp)))
    have hown4 : w3.ownsRow 0 5 1 v3 dt.length (dt.map (Value.int .u8)) := own_base (own_congr hown3 (by simp) (by simp)) (Nat.zero_le _)
    obtain ⟨ar, cr, hvr, hlr⟩ := (show ownB 5 w3 v3 dt v3.ownBlock.toList from ⟨hown4, hbyt, rfl⟩).read
    subst hvr
    refine bodyPost_ret (v := .tuple #[.slice ar dt.length cr, .bool true]) (by simp [results, Tryz.results29, go_sem, *]) rfl ⟨_, by rw [decide_eq_true HC.out], ?_, bthen hbW hb3⟩
    rw [HD2.out]
    exact ⟨ar, cr, rfl, hlr⟩
  · have HD : Hid (bytesP m s = []) := by show bytesP m s = _; unfold bytesP; rw [if_neg hC]
    have HC := Hid.mk (decide_eq_false hC)
    have hcn : (callP m s == 0) = false := beq_eq_false_iff_ne.2 hC
    have hcn2 : (callP m s != 0) = true := bne_iff_ne.2 hC
    clear hC
    generalize callP m s = cp at hcn hcn2 ⊢
    go_wp2_with fail
    refine bodyPost_ret (v := .tuple #[.slice (some ⟨w1.heap.size, 0, none⟩) 0 0, .bool false]) (by simp [results, Tryz.results29, go_sem, *]) rfl ⟨_, by rw [HC.out], ?_, bthen hb1 ((Below.refl _ _).alloc (Nat.le_refl _) _)⟩
    rw [HD.out]
    exact ⟨_, _, rfl, by simp, by omega, (fun j hj => by simp at hj), (fun z hz => by cases hz)⟩

end Go.Proofs.YtnohnkcijomdjaaGreatDoor
