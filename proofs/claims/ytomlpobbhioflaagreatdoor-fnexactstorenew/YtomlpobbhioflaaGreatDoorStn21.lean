/-
  Part 22 of the texts that the proof leans on.
-/
import Derived.Test.YtomlpobbhioflaaGreatDoorStn14
import Derived.Test.YtomlpobbhioflaaGreatDoorStn20
import Derived.Test.YtomlpobbhioflaaGreatDoorStn13
import Derived.Test.YtomlpobbhioflaaGreatDoorStn1
import Derived.Test.YtomlpobbhioflaaGreatDoorStn10
import Derived.Test.YtomlpobbhioflaaGreatDoorStn4
import Derived.Test.YtomlpobbhioflaaGreatDoorStn5
set_option linter.unusedVariables false
set_option linter.unusedSimpArgs false
set_option maxRecDepth 10000

namespace Go.Proofs.YtomlpobbhioflaaGreatDoor
open Go.RowKit
set_option maxHeartbeats 2000000 in
theorem sw1_any (cs : List Value) (m : MDisk) (t : ByteArray)  (bT : Nat) (w : World) (hr : rDisk w.heap.size w cs m) (hw : wDisk m ≤ 1048576) (ht : t.size ≤ 1048576) (hbT : Bx w bT [.string t]) :
  Calls Tryz.prog 79 #[.agg cs.toArray, .pointer (some ⟨bT, 0, none⟩)] w fun e w' => ∃ (cs' : List Value) (F : List Nat), e = .returned (.tuple #[.agg cs'.toArray, .int .i64 (createC m t)]) ∧ oDisk w' cs' (createP m t) F ∧ F.Nodup ∧ (∀ b, b ∈ F → w.heap.size ≤ b) ∧ Below w.heap.size w w' := by
 have hq := hr
 obtain ⟨a0, c0, a1, c1, a2, c2, rfl, hI, hNm, hSf, hnx, _⟩ := hq
 have HW := Hid.mk hw
 have HR := Hid.mk hr
 clear hr hI hNm hSf hw
 obtain ⟨wq, hwq⟩ : ∃ wq, wq = ((w.alloc (.cells #[.slice a0 m.fInodes.length c0, .slice a1 m.fNames.length c1, .slice a2 m.fSafe.length c2, .int .i64 m.fNext] 25)).alloc (.cells #[.slice none 0 0, .slice none 0 0, .slice none 0 0, .int .i64 0] 25)) := ⟨_, rfl⟩
 have hbW : Below w.heap.size w wq := by rw [hwq]; exact Below.alloc (Below.alloc (Below.refl _ _) (by exact Nat.le_refl _) _) (by simp; try omega) _
 have hbr : Bw wq (w.heap.size + 1) 25 [.slice none 0 0, .slice none 0 0, .slice none 0 0, .int .i64 0] := by rw [hwq]; exact Bw.new' _ _ _ (by simp)
 have k0 : (((w.alloc (.cells #[.slice a0 m.fInodes.length c0, .slice a1 m.fNames.length c1, .slice a2 m.fSafe.length c2, .int .i64 m.fNext] 25)).alloc (.cells #[.slice none 0 0, .slice none 0 0, .slice none 0 0, .int .i64 0] 25))).cell? ⟨bT, 0, none⟩ = some (.string t) := by have h := (hbT.under hbW).2 0 _ rfl; rw [hwq] at h; exact h
 have n0 := hbT.1
 go_enter Tryz.func79, Tryz.ntmps79
 go_wp2_with fail
 rw [← hwq]
 clear hwq k0
 refine (implCreate_c _ m t wq (rDisk_good.mono (rDisk_good.below HR.out hbW) hbW.size) (by omega) HW.out ht).mono ?_
 obtain ⟨D2, hD2⟩ : ∃ D2, D2 = createP m t := ⟨_, rfl⟩
 obtain ⟨C2, hC2⟩ : ∃ C2, C2 = createC m t := ⟨_, rfl⟩
 rw [← hD2, ← hC2]
 have HD2 := Hid.mk hD2
 have HC2 := Hid.mk hC2
 clear hD2 hC2
 rintro e w2 ⟨cs4, F4, rfl, ho4, hN4, hge4, hy2⟩
 obtain ⟨q0, p0', q1, p1', q2, p2', E0, E1, E2, rfl, _, _, _, _, rfl⟩ := oDisk_cells ho4
 have hbr2 := hbr.under hy2
 have hl2 := hbr2.lt
 obtain ⟨e0, f0, e1, f1, e2, f2, e3, f3⟩ := hbr2.c8
 have hzW := hbr.lt
 have hgE : ∀ b, b ∈ E0 ++ E1 ++ E2 ++ [] → w.heap.size + 2 ≤ b := fun b hb => by have := hge4 b hb; omega
 have hT := turn4 w2 (w.heap.size + 1) (.slice q0 D2.fInodes.length p0') (.slice q1 D2.fNames.length p1') (.slice q2 D2.fSafe.length p2') (.int .i64 D2.fNext)
 have HB : Hid (Below w.heap.size w ((((w2.setCell ⟨w.heap.size + 1, 0, none⟩ (.slice q0 D2.fInodes.length p0')).setCell ⟨w.heap.size + 1, 1, none⟩ (.slice q1 D2.fNames.length p1')).setCell ⟨w.heap.size + 1, 2, none⟩ (.slice q2 D2.fSafe.length p2')).setCell ⟨w.heap.size + 1, 3, none⟩ (.int .i64 D2.fNext))) := (bthen hbW hy2).trans (hT.below (fun k hk => by simp at hk; omega) (bthen hbW hy2).size)
 have HO : Hid (oDisk ((((w2.setCell ⟨w.heap.size + 1, 0, none⟩ (.slice q0 D2.fInodes.length p0')).setCell ⟨w.heap.size + 1, 1, none⟩ (.slice q1 D2.fNames.length p1')).setCell ⟨w.heap.size + 1, 2, none⟩ (.slice q2 D2.fSafe.length p2')).setCell ⟨w.heap.size + 1, 3, none⟩ (.int .i64 D2.fNext)) [.slice q0 D2.fInodes.length p0', .slice q1 D2.fNames.length p1', .slice q2 D2.fSafe.length p2', .int .i64 D2.fNext] D2 (E0 ++ E1 ++ E2 ++ [])) := oDisk_good.frame ho4 (fun b hb => hT.block b (oDisk_good.lt ho4 b hb) (by intro h; simp at h; have := hgE b hb; omega))
 have HG := Hid.mk hgE
 have HN := Hid.mk hN4
 clear hgE ho4 hge4 hT hN4 hy2 hbr hbr2
 go_wp2_with fail
 exact bodyPost_ret (v := .tuple #[.agg #[.slice q0 D2.fInodes.length p0', .slice q1 D2.fNames.length p1', .slice q2 D2.fSafe.length p2', .int .i64 D2.fNext], .int .i64 C2]) (by simp [results, Tryz.results79, go_sem, *]) rfl ⟨[.slice q0 D2.fInodes.length p0', .slice q1 D2.fNames.length p1', .slice q2 D2.fSafe.length p2', .int .i64 D2.fNext], _, by rw [← HC2.out], by rw [← HD2.out]; exact HO.out, HN.out, (fun b hb => by have := HG.out b hb; omega), HB.out⟩
set_option maxHeartbeats 2000000 in
theorem sw2_any (cs : List Value) (m : MDisk) (t : ByteArray) (vb : Value) (zb : List Int) (hvb0 : zb.length ≤ 1048576) (bT : Nat) (bB : Nat) (w : World) (hr : rDisk w.heap.size w cs m) (hw : wDisk m ≤ 1048576) (ht : t.size ≤ 1048576) (hvb : rdB w.heap.size w vb zb) (hbT : Bx w bT [.string t]) (hbB : Bx w bB [vb]) :
  Calls Tryz.prog 80 #[.agg cs.toArray, .pointer (some ⟨bT, 0, none⟩), .pointer (some ⟨bB, 0, none⟩)] w fun e w' => ∃ (cs' : List Value) (F : List Nat), e = .returned (.tuple #[.agg cs'.toArray, .int .i64 (appendC m t zb)]) ∧ oDisk w' cs' (appendP m t zb) F ∧ F.Nodup ∧ (∀ b, b ∈ F → w.heap.size ≤ b) ∧ Below w.heap.size w w' := by
 have hq := hr
 obtain ⟨a0, c0, a1, c1, a2, c2, rfl, hI, hNm, hSf, hnx, _⟩ := hq
 have HW := Hid.mk hw
 have HR := Hid.mk hr
 clear hr hI hNm hSf hw
 obtain ⟨wq, hwq⟩ : ∃ wq, wq = ((w.alloc (.cells #[.slice a0 m.fInodes.length c0, .slice a1 m.fNames.length c1, .slice a2 m.fSafe.length c2, .int .i64 m.fNext] 25)).alloc (.cells #[.slice none 0 0, .slice none 0 0, .slice none 0 0, .int .i64 0] 25)) := ⟨_, rfl⟩
 have hbW : Below w.heap.size w wq := by rw [hwq]; exact Below.alloc (Below.alloc (Below.refl _ _) (by exact Nat.le_refl _) _) (by simp; try omega) _
 have hbr : Bw wq (w.heap.size + 1) 25 [.slice none 0 0, .slice none 0 0, .slice none 0 0, .int .i64 0] := by rw [hwq]; exact Bw.new' _ _ _ (by simp)
 have k0 : (((w.alloc (.cells #[.slice a0 m.fInodes.length c0, .slice a1 m.fNames.length c1, .slice a2 m.fSafe.length c2, .int .i64 m.fNext] 25)).alloc (.cells #[.slice none 0 0, .slice none 0 0, .slice none 0 0, .int .i64 0] 25))).cell? ⟨bT, 0, none⟩ = some (.string t) := by have h := (hbT.under hbW).2 0 _ rfl; rw [hwq] at h; exact h
 have n0 := hbT.1
 have k1 : (((w.alloc (.cells #[.slice a0 m.fInodes.length c0, .slice a1 m.fNames.length c1, .slice a2 m.fSafe.length c2, .int .i64 m.fNext] 25)).alloc (.cells #[.slice none 0 0, .slice none 0 0, .slice none 0 0, .int .i64 0] 25))).cell? ⟨bB, 0, none⟩ = some (vb) := by have h := (hbB.under hbW).2 0 _ rfl; rw [hwq] at h; exact h
 have n1 := hbB.1
 go_enter Tryz.func80, Tryz.ntmps80
 go_wp2_with fail
 rw [← hwq]
 clear hwq k0 k1
 refine (implAppend_b _ m t vb zb wq (rDisk_good.mono (rDisk_good.below HR.out hbW) hbW.size) (by omega) ((hvb.below hbW).mono hbW.size) HW.out ht (by omega)).mono ?_
 obtain ⟨D2, hD2⟩ : ∃ D2, D2 = appendP m t zb := ⟨_, rfl⟩
 obtain ⟨C2, hC2⟩ : ∃ C2, C2 = appendC m t zb := ⟨_, rfl⟩
 rw [← hD2, ← hC2]
 have HD2 := Hid.mk hD2
 have HC2 := Hid.mk hC2
 clear hD2 hC2
 rintro e w2 ⟨cs4, F4, rfl, ho4, hN4, hge4, hy2⟩
 obtain ⟨q0, p0', q1, p1', q2, p2', E0, E1, E2, rfl, _, _, _, _, rfl⟩ := oDisk_cells ho4
 have hbr2 := hbr.under hy2
 have hl2 := hbr2.lt
 obtain ⟨e0, f0, e1, f1, e2, f2, e3, f3⟩ := hbr2.c8
 have hzW := hbr.lt
 have hgE : ∀ b, b ∈ E0 ++ E1 ++ E2 ++ [] → w.heap.size + 2 ≤ b := fun b hb => by have := hge4 b hb; omega
 have hT := turn4 w2 (w.heap.size + 1) (.slice q0 D2.fInodes.length p0') (.slice q1 D2.fNames.length p1') (.slice q2 D2.fSafe.length p2') (.int .i64 D2.fNext)
 have HB : Hid (Below w.heap.size w ((((w2.setCell ⟨w.heap.size + 1, 0, none⟩ (.slice q0 D2.fInodes.length p0')).setCell ⟨w.heap.size + 1, 1, none⟩ (.slice q1 D2.fNames.length p1')).setCell ⟨w.heap.size + 1, 2, none⟩ (.slice q2 D2.fSafe.length p2')).setCell ⟨w.heap.size + 1, 3, none⟩ (.int .i64 D2.fNext))) := (bthen hbW hy2).trans (hT.below (fun k hk => by simp at hk; omega) (bthen hbW hy2).size)
 have HO : Hid (oDisk ((((w2.setCell ⟨w.heap.size + 1, 0, none⟩ (.slice q0 D2.fInodes.length p0')).setCell ⟨w.heap.size + 1, 1, none⟩ (.slice q1 D2.fNames.length p1')).setCell ⟨w.heap.size + 1, 2, none⟩ (.slice q2 D2.fSafe.length p2')).setCell ⟨w.heap.size + 1, 3, none⟩ (.int .i64 D2.fNext)) [.slice q0 D2.fInodes.length p0', .slice q1 D2.fNames.length p1', .slice q2 D2.fSafe.length p2', .int .i64 D2.fNext] D2 (E0 ++ E1 ++ E2 ++ [])) := oDisk_good.frame ho4 (fun b hb => hT.block b (oDisk_good.lt ho4 b hb) (by intro h; simp at h; have := hgE b hb; omega))
 have HG := Hid.mk hgE
 have HN := Hid.mk hN4
 clear hgE ho4 hge4 hT hN4 hy2 hbr hbr2
 go_wp2_with fail
 exact bodyPost_ret (v := .tuple #[.agg #[.slice q0 D2.fInodes.length p0', .slice q1 D2.fNames.length p1', .slice q2 D2.fSafe.length p2', .int .i64 D2.fNext], .int .i64 C2]) (by simp [results, Tryz.results80, go_sem, *]) rfl ⟨[.slice q0 D2.fInodes.length p0', .slice q1 D2.fNames.length p1', .slice q2 D2.fSafe.length p2', .int .i64 D2.fNext], _, by rw [← HC2.out], by rw [← HD2.out]; exact HO.out, HN.out, (fun b hb => by have := HG.out b hb; omega), HB.out⟩
set_option maxHeartbeats 2000000 in
theorem sw3_any (cs : List Value) (m : MDisk) (t : ByteArray)  (bT : Nat) (w : World) (hr : rDisk w.heap.size w cs m) (hw : wDisk m ≤ 1048576) (ht : t.size ≤ 1048576) (hbT : Bx w bT [.string t]) :
  Calls Tryz.prog 82 #[.agg cs.toArray, .pointer (some ⟨bT, 0, none⟩)] w fun e w' => ∃ (cs' : List Value) (F : List Nat), e = .returned (.tuple #[.agg cs'.toArray, .int .i64 (callP m t)]) ∧ oDisk w' cs' (syncP m t) F ∧ F.Nodup ∧ (∀ b, b ∈ F → w.heap.size ≤ b) ∧ Below w.heap.size w w' := by
 have hq := hr
 obtain ⟨a0, c0, a1, c1, a2, c2, rfl, hI, hNm, hSf, hnx, _⟩ := hq
 have HW := Hid.mk hw
 have HR := Hid.mk hr
 clear hr hI hNm hSf hw
 obtain ⟨wq, hwq⟩ : ∃ wq, wq = ((w.alloc (.cells #[.slice a0 m.fInodes.length c0, .slice a1 m.fNames.length c1, .slice a2 m.fSafe.length c2, .int .i64 m.fNext] 25)).alloc (.cells #[.slice none 0 0, .slice none 0 0, .slice none 0 0, .int .i64 0] 25)) := ⟨_, rfl⟩
 have hbW : Below w.heap.size w wq := by rw [hwq]; exact Below.alloc (Below.alloc (Below.refl _ _) (by exact Nat.le_refl _) _) (by simp; try omega) _
 have hbr : Bw wq (w.heap.size + 1) 25 [.slice none 0 0, .slice none 0 0, .slice none 0 0, .int .i64 0] := by rw [hwq]; exact Bw.new' _ _ _ (by simp)
 have k0 : (((w.alloc (.cells #[.slice a0 m.fInodes.length c0, .slice a1 m.fNames.length c1, .slice a2 m.fSafe.length c2, .int .i64 m.fNext] 25)).alloc (.cells #[.slice none 0 0, .slice none 0 0, .slice none 0 0, .int .i64 0] 25))).cell? ⟨bT, 0, none⟩ = some (.string t) := by have h := (hbT.under hbW).2 0 _ rfl; rw [hwq] at h; exact h
 have n0 := hbT.1
 go_enter Tryz.func82, Tryz.ntmps82
 go_wp2_with fail
 rw [← hwq]
 clear hwq k0
 refine (implSync_c _ m t wq (rDisk_good.mono (rDisk_good.below HR.out hbW) hbW.size) (by omega) HW.out ht).mono ?_
 obtain ⟨D2, hD2⟩ : ∃ D2, D2 = syncP m t := ⟨_, rfl⟩
 obtain ⟨C2, hC2⟩ : ∃ C2, C2 = callP m t := ⟨_, rfl⟩
 rw [← hD2, ← hC2]
 have HD2 := Hid.mk hD2
 have HC2 := Hid.mk hC2
 clear hD2 hC2
 rintro e w2 ⟨cs4, F4, rfl, ho4, hN4, hge4, hy2⟩
 obtain ⟨q0, p0', q1, p1', q2, p2', E0, E1, E2, rfl, _, _, _, _, rfl⟩ := oDisk_cells ho4
 have hbr2 := hbr.under hy2
 have hl2 := hbr2.lt
 obtain ⟨e0, f0, e1, f1, e2, f2, e3, f3⟩ := hbr2.c8
 have hzW := hbr.lt
 have hgE : ∀ b, b ∈ E0 ++ E1 ++ E2 ++ [] → w.heap.size + 2 ≤ b := fun b hb => by have := hge4 b hb; omega
 have hT := turn4 w2 (w.heap.size + 1) (.slice q0 D2.fInodes.length p0') (.slice q1 D2.fNames.length p1') (.slice q2 D2.fSafe.length p2') (.int .i64 D2.fNext)
 have HB : Hid (Below w.heap.size w ((((w2.setCell ⟨w.heap.size + 1, 0, none⟩ (.slice q0 D2.fInodes.length p0')).setCell ⟨w.heap.size + 1, 1, none⟩ (.slice q1 D2.fNames.length p1')).setCell ⟨w.heap.size + 1, 2, none⟩ (.slice q2 D2.fSafe.length p2')).setCell ⟨w.heap.size + 1, 3, none⟩ (.int .i64 D2.fNext))) := (bthen hbW hy2).trans (hT.below (fun k hk => by simp at hk; omega) (bthen hbW hy2).size)
 have HO : Hid (oDisk ((((w2.setCell ⟨w.heap.size + 1, 0, none⟩ (.slice q0 D2.fInodes.length p0')).setCell ⟨w.heap.size + 1, 1, none⟩ (.slice q1 D2.fNames.length p1')).setCell ⟨w.heap.size + 1, 2, none⟩ (.slice q2 D2.fSafe.length p2')).setCell ⟨w.heap.size + 1, 3, none⟩ (.int .i64 D2.fNext)) [.slice q0 D2.fInodes.length p0', .slice q1 D2.fNames.length p1', .slice q2 D2.fSafe.length p2', .int .i64 D2.fNext] D2 (E0 ++ E1 ++ E2 ++ [])) := oDisk_good.frame ho4 (fun b hb => hT.block b (oDisk_good.lt ho4 b hb) (by intro h; simp at h; have := hgE b hb; omega))
 have HG := Hid.mk hgE
 have HN := Hid.mk hN4
 clear hgE ho4 hge4 hT hN4 hy2 hbr hbr2
 go_wp2_with fail
 exact bodyPost_ret (v := .tuple #[.agg #[.slice q0 D2.fInodes.length p0', .slice q1 D2.fNames.length p1', .slice q2 D2.fSafe.length p2', .int .i64 D2.fNext], .int .i64 C2]) (by simp [results, Tryz.results82, go_sem, *]) rfl ⟨[.slice q0 D2.fInodes.length p0', .slice q1 D2.fNames.length p1', .slice q2 D2.fSafe.length p2', .int .i64 D2.fNext], _, by rw [← HC2.out], by rw [← HD2.out]; exact HO.out, HN.out, (fun b hb => by have := HG.out b hb; omega), HB.out⟩
set_option maxHeartbeats 2000000 in
theorem sw4_any (cs : List Value) (m : MDisk) (t : ByteArray) (s : ByteArray) (hs : s.size ≤ 1048576) (bT : Nat) (bN : Nat) (w : World) (hr : rDisk w.heap.size w cs m) (hw : wDisk m ≤ 1048576) (ht : t.size ≤ 1048576) (hbT : Bx w bT [.string t]) (hbN : Bx w bN [.string s]) :
  Calls Tryz.prog 84 #[.agg cs.toArray, .pointer (some ⟨bT, 0, none⟩), .pointer (some ⟨bN, 0, none⟩)] w fun e w' => ∃ (cs' : List Value) (F : List Nat), e = .returned (.tuple #[.agg cs'.toArray, .int .i64 (renameC m t s)]) ∧ oDisk w' cs' (renameP m t s) F ∧ F.Nodup ∧ (∀ b, b ∈ F → w.heap.size ≤ b) ∧ Below w.heap.size w w' := by
 have hq := hr
 obtain ⟨a0, c0, a1, c1, a2, c2, rfl, hI, hNm, hSf, hnx, _⟩ := hq
 have HW := Hid.mk hw
 have HR := Hid.mk hr
 clear hr hI hNm hSf hw
 obtain ⟨wq, hwq⟩ : ∃ wq, wq = ((w.alloc (.cells #[.slice a0 m.fInodes.length c0, .slice a1 m.fNames.length c1, .slice a2 m.fSafe.length c2, .int .i64 m.fNext] 25)).alloc (.cells #[.slice none 0 0, .slice none 0 0, .slice none 0 0, .int .i64 0] 25)) := ⟨_, rfl⟩
 have hbW : Below w.heap.size w wq := by rw [hwq]; exact Below.alloc (Below.alloc (Below.refl _ _) (by exact Nat.le_refl _) _) (by simp; try omega) _
 have hbr : Bw wq (w.heap.size + 1) 25 [.slice none 0 0, .slice none 0 0, .slice none 0 0, .int .i64 0] := by rw [hwq]; exact Bw.new' _ _ _ (by simp)
 have k0 : (((w.alloc (.cells #[.slice a0 m.fInodes.length c0, .slice a1 m.fNames.length c1, .slice a2 m.fSafe.length c2, .int .i64 m.fNext] 25)).alloc (.cells #[.slice none 0 0, .slice none 0 0, .slice none 0 0, .int .i64 0] 25))).cell? ⟨bT, 0, none⟩ = some (.string t) := by have h := (hbT.under hbW).2 0 _ rfl; rw [hwq] at h; exact h
 have n0 := hbT.1
 have k1 : (((w.alloc (.cells #[.slice a0 m.fInodes.length c0, .slice a1 m.fNames.length c1, .slice a2 m.fSafe.length c2, .int .i64 m.fNext] 25)).alloc (.cells #[.slice none 0 0, .slice none 0 0, .slice none 0 0, .int .i64 0] 25))).cell? ⟨bN, 0, none⟩ = some (.string s) := by have h := (hbN.under hbW).2 0 _ rfl; rw [hwq] at h; exact h
 have n1 := hbN.1
 go_enter Tryz.func84, Tryz.ntmps84
 go_wp2_with fail
 rw [← hwq]
 clear hwq k0 k1
 refine (implRename_c _ m t s wq (rDisk_good.mono (rDisk_good.below HR.out hbW) hbW.size) (by omega) (by omega) HW.out ht hs).mono ?_
 obtain ⟨D2, hD2⟩ : ∃ D2, D2 = renameP m t s := ⟨_, rfl⟩
 obtain ⟨C2, hC2⟩ : ∃ C2, C2 = renameC m t s := ⟨_, rfl⟩
 rw [← hD2, ← hC2]
 have HD2 := Hid.mk hD2
 have HC2 := Hid.mk hC2
 clear hD2 hC2
 rintro e w2 ⟨cs4, F4, rfl, ho4, hN4, hge4, hy2⟩
 obtain ⟨q0, p0', q1, p1', q2, p2', E0, E1, E2, rfl, _, _, _, _, rfl⟩ := oDisk_cells ho4
 have hbr2 := hbr.under hy2
 have hl2 := hbr2.lt
 obtain ⟨e0, f0, e1, f1, e2, f2, e3, f3⟩ := hbr2.c8
 have hzW := hbr.lt
 have hgE : ∀ b, b ∈ E0 ++ E1 ++ E2 ++ [] → w.heap.size + 2 ≤ b := fun b hb => by have := hge4 b hb; omega
 have hT := turn4 w2 (w.heap.size + 1) (.slice q0 D2.fInodes.length p0') (.slice q1 D2.fNames.length p1') (.slice q2 D2.fSafe.length p2') (.int .i64 D2.fNext)
 have HB : Hid (Below w.heap.size w ((((w2.setCell ⟨w.heap.size + 1, 0, none⟩ (.slice q0 D2.fInodes.length p0')).setCell ⟨w.heap.size + 1, 1, none⟩ (.slice q1 D2.fNames.length p1')).setCell ⟨w.heap.size + 1, 2, none⟩ (.slice q2 D2.fSafe.length p2')).setCell ⟨w.heap.size + 1, 3, none⟩ (.int .i64 D2.fNext))) := (bthen hbW hy2).trans (hT.below (fun k hk => by simp at hk; omega) (bthen hbW hy2).size)
 have HO : Hid (oDisk ((((w2.setCell ⟨w.heap.size + 1, 0, none⟩ (.slice q0 D2.fInodes.length p0')).setCell ⟨w.heap.size + 1, 1, none⟩ (.slice q1 D2.fNames.length p1')).setCell ⟨w.heap.size + 1, 2, none⟩ (.slice q2 D2.fSafe.length p2')).setCell ⟨w.heap.size + 1, 3, none⟩ (.int .i64 D2.fNext)) [.slice q0 D2.fInodes.length p0', .slice q1 D2.fNames.length p1', .slice q2 D2.fSafe.length p2', .int .i64 D2.fNext] D2 (E0 ++ E1 ++ E2 ++ [])) := oDisk_good.frame ho4 (fun b hb => hT.block b (oDisk_good.lt ho4 b hb) (by intro h; simp at h; have := hgE b hb; omega))
 have HG := Hid.mk hgE
 have HN := Hid.mk hN4
 clear hgE ho4 hge4 hT hN4 hy2 hbr hbr2
 go_wp2_with fail
 exact bodyPost_ret (v := .tuple #[.agg #[.slice q0 D2.fInodes.length p0', .slice q1 D2.fNames.length p1', .slice q2 D2.fSafe.length p2', .int .i64 D2.fNext], .int .i64 C2]) (by simp [results, Tryz.results84, go_sem, *]) rfl ⟨[.slice q0 D2.fInodes.length p0', .slice q1 D2.fNames.length p1', .slice q2 D2.fSafe.length p2', .int .i64 D2.fNext], _, by rw [← HC2.out], by rw [← HD2.out]; exact HO.out, HN.out, (fun b hb => by have := HG.out b hb; omega), HB.out⟩
end Go.Proofs.YtomlpobbhioflaaGreatDoor

namespace Go.Proofs.YtomlpobbhioflaaGreatDoor
open Go.RowKit Go.Maps
set_option maxHeartbeats 4000000 in
theorem implRemove_c (cs : List Value) (m : MDisk) (s : ByteArray) (w : World) (hr : rDisk w.heap.size w cs m) (hs : s.size ≤ 9223372036854775807) (hw : wDisk m ≤ 1048576) (hw1 : s.size ≤ 1048576) :
  Calls Tryz.prog 78 #[.agg cs.toArray, .string s] w fun e w' => ∃ (cs' : List Value) (F : List Nat), e = .returned (.tuple #[.agg cs'.toArray, .int .i64 (callP m s)]) ∧ oDisk w' cs' (removeP m s) F ∧ F.Nodup ∧ (∀ b, b ∈ F → w.heap.size ≤ b) ∧ Below w.heap.size w w' := by
 have hq := hr
 obtain ⟨a0, c0, a1, c1, a2, c2, rfl, hI, hNm, hSf, hnx, _⟩ := hq
 have hw2 : m.fInodes.length + sumW wInode m.fInodes + (m.fNames.length + sumW wEntry m.fNames) + (m.fSafe.length + sumW wEntry m.fSafe) ≤ 1048576 := hw
 have HW := Hid.mk hw
 have HR := Hid.mk hr
 have HNM := Hid.mk hNm
 clear hr hI hNm hSf hw
 go_enter Tryz.func78, Tryz.ntmps78
 go_wp2_with fail
 obtain ⟨wq, hwq⟩ : ∃ wq, wq = ((w.alloc (.cells #[.slice a0 m.fInodes.length c0, .slice a1 m.fNames.length c1, .slice a2 m.fSafe.length c2, .int .i64 m.fNext] 25)).alloc (.cells #[.slice none 0 0, .slice none 0 0, .slice none 0 0, .int .i64 0] 25)) := ⟨_, rfl⟩
 have hbW : Below w.heap.size w wq := by rw [hwq]; exact Below.alloc (Below.alloc (Below.refl _ _) (by exact Nat.le_refl _) _) (by simp; try omega) _
 have hbd : Bw wq (w.heap.size) 25 [.slice a0 m.fInodes.length c0, .slice a1 m.fNames.length c1, .slice a2 m.fSafe.length c2, .int .i64 m.fNext] := by rw [hwq]; exact Bw.alloc (Bw.new' _ _ _ (by simp)) _
 have hbr : Bw wq (w.heap.size + 1) 25 [.slice none 0 0, .slice none 0 0, .slice none 0 0, .int .i64 0] := by rw [hwq]; exact Bw.new' _ _ _ (by simp)
 rw [← hwq]
 clear hwq
 refine (findFile_any _ m s wq (rDisk_good.mono (rDisk_good.below HR.out hbW) hbW.size) HW.out hs).mono ?_
 rintro e w1 ⟨p, rfl, hp, hx1⟩
 clear hp
 have hb1 := bthen hbW hx1
 have hbd1 := hbd.under hx1
 have hbr1 := hbr.under hx1
 have hl1 := hbd1.lt
 have hl1r := hbr1.lt
 obtain ⟨y0, y1, y2, y3⟩ := hbd1.c4
 clear hbd hbr
 by_cases hC : callP m s = 0
 ·have HCz := Hid.mk hC
  have HV : Hid (removeP m s = keepD { m with fNames := without m.fNames s }) := by show _ = _; unfold removeP removeD; rw [if_pos hC]
  have hDR := diskOk_iff.1 (call_good hC).1
  have hRi : Rise m.fNames := hDR.names.rise
  have hfew := hDR.few
  have hsub : (without m.fNames s).Sublist m.fNames := List.filter_sublist
  have HRI : Hid (Rise (without m.fNames s)) := hRi.sublist hsub
  have HRI0 := Hid.mk hRi
  have HLN : Hid ((without m.fNames s).length ≤ 1000) := by show _ ≤ _; have := hsub.length_le; omega
  have HWN : Hid (wDisk { m with fNames := without m.fNames s } ≤ 1048576) := by
   show _ ≤ _
   have h2 := sumW_sublist (f := wEntry) hsub
   have h3 := hsub.length_le
   rw [wDisk_eq]
   simp only
   omega
  have hkey := keyStr hs
  rw [hC]
  clear hC hDR hRi hsub
  go_wp2_with fail
  refine (nameMap_any a1 m.fNames.length c1 m.fNames w1 rfl (LeafL.mono rEntry_good (HNM.out.below rEntry_good hb1) hb1.size) (by omega)).mono ?_
  rintro e w2 ⟨Dm, rfl, hown, hNM, hx2⟩
  have HM : Hid (MapIs (Dm.del (kS s)) (without m.fNames s)) := (MapIs.ofN rfl hNM HRI0.out).del s
  clear hNM
  have hb2 := bthen hb1 hx2
  have hbd2 := hbd1.under hx2
  have hbr2 := hbr1.under hx2
  have hl2 := hbd2.lt
  have hl2r := hbr2.lt
  have hz2 := hx2.size
  have hzb1 := hb1.size
  obtain ⟨y0, y1, y2, y3⟩ := hbd2.c4
  clear hbd1 hbr1
  go_wp2_with (at_delete; refine wpList_delete_own _ rfl _ _ 65 9 rfl 3 lawStr Tryz.underlying65 _ w1.heap.size m.fNames.length Dm rfl hown _ _ rfl hkey ?_; intro w3 hown3 hturn3; have hT3 : Turn [w1.heap.size] w2 w3 := Turn.ofGrown hturn3.grown (fun k hk => by cases hk; simp); have hbd3 := hbd2.turn hT3 (by simp; omega); have hbr3 := hbr2.turn hT3 (by simp; omega); have yy0 := hbd3.cell 0 _ rfl; have yy1 := hbd3.cell 1 _ rfl; have yy2 := hbd3.cell 2 _ rfl; have yy3 := hbd3.cell 3 _ rfl)
  have hb3 : Below w.heap.size w w3 := hb2.trans (hT3.below (fun k hk => by simp at hk; omega) hb2.size)
  clear y0 y1 y2 y3 hown hturn3
  obtain ⟨kd, hkd⟩ : ∃ kd, kd = keepD { m with fNames := without m.fNames s } := ⟨_, rfl⟩
  have HKD := Hid.mk hkd
  clear hkd
  have hcall := withNames_any _ m w1.heap.size m.fNames.length _ (without m.fNames s) w3 (rDisk_good.mono (rDisk_good.below HR.out hb3) hb3.size) hown3 HM.out HRI.out HLN.out HWN.out
  rw [← HKD.out] at hcall
  clear hown3
  refine hcall.mono ?_
  rintro e w4 ⟨cs3, F3, rfl, ho3, hN3, hge3, hx4⟩
  have hb4 := bthen hb3 hx4
  have hbr4 := hbr3.under hx4
  have hl4 := hbr4.lt
  have hz4 := hb3.size
  have hlq4 := hbr3.lt
  obtain ⟨q0, p0, q1, p1, q2, p2, G0, G1, G2, rfl, _, _, _, _, rfl⟩ := oDisk_cells ho3
  have hkey : ∀ W', Turn [w.heap.size + 1] w4 W' → oDisk W' [.slice q0 (kd).fInodes.length p0, .slice q1 (kd).fNames.length p1, .slice q2 (kd).fSafe.length p2, .int .i64 (kd).fNext] (kd) (G0 ++ G1 ++ G2 ++ []) ∧ Below w.heap.size w W' := fun W' hT =>
   ⟨oDisk_good.frame ho3 (fun b hb => hT.block b (oDisk_good.lt ho3 b hb) (fun h => by simp at h; have := hge3 b hb; omega)), hb4.trans (hT.below (fun k hk => by simp at hk; omega) hb4.size)⟩
  have HKEY := Hid.mk hkey
  have HNQ := Hid.mk hN3
  have HGQ : Hid (∀ b, b ∈ G0 ++ G1 ++ G2 ++ [] → w.heap.size ≤ b) := fun b hb => by have := hge3 b hb; omega
  clear hkey ho3 hN3 hge3 
  obtain ⟨ze0, ze1, ze2, ze3⟩ := hbr4.c4
  obtain ⟨zf0, zf1, zf2, zf3⟩ := hbr4.f4
  go_wp2_with fail
  obtain ⟨h1, h3⟩ := HKEY.out _ (show Turn [w.heap.size + 1] w4 ((((w4.setCell ⟨w.heap.size + 1, 0, none⟩ (.slice q0 (kd).fInodes.length p0)).setCell ⟨w.heap.size + 1, 1, none⟩ (.slice q1 (kd).fNames.length p1)).setCell ⟨w.heap.size + 1, 2, none⟩ (.slice q2 (kd).fSafe.length p2)).setCell ⟨w.heap.size + 1, 3, none⟩ (.int .i64 (kd).fNext)) from turn4 _ _ _ _ _ _)
  exact bodyPost_ret (v := .tuple #[.agg #[.slice q0 (kd).fInodes.length p0, .slice q1 (kd).fNames.length p1, .slice q2 (kd).fSafe.length p2, .int .i64 (kd).fNext], .int .i64 0]) (by simp [results, Tryz.results78, go_sem, *]) rfl ⟨[.slice q0 (kd).fInodes.length p0, .slice q1 (kd).fNames.length p1, .slice q2 (kd).fSafe.length p2, .int .i64 (kd).fNext], _, by rw [HCz.out], by rw [HV.out, ← HKD.out]; exact h1, HNQ.out, HGQ.out, h3⟩
 ·have HV : Hid (removeP m s = m) := by show _ = _; unfold removeP; rw [if_neg hC]
  have hcn : (callP m s == 0) = false := beq_eq_false_iff_ne.2 hC
  obtain ⟨cp, hcp⟩ : ∃ cp, callP m s = cp := ⟨_, rfl⟩
  rw [hcp] at hcn ⊢
  have HCP := Hid.mk hcp
  clear hcp hC
  go_wp2_with fail
  refine (copyDisk_any _ (m) w1 (rDisk_good.mono (rDisk_good.below HR.out hb1) hb1.size) HW.out).mono ?_
  rintro e w2 ⟨cs3, F3, rfl, ho3, hN3, hge3, hx2⟩
  have hb2 := bthen hb1 hx2
  have hbr2 := hbr1.under hx2
  have hl2 := hbr2.lt
  have hz2 := hb1.size
  have hlq2 := hbr1.lt
  obtain ⟨q0, p0, q1, p1, q2, p2, G0, G1, G2, rfl, _, _, _, _, rfl⟩ := oDisk_cells ho3
  have hkey : ∀ W', Turn [w.heap.size + 1] w2 W' → oDisk W' [.slice q0 m.fInodes.length p0, .slice q1 m.fNames.length p1, .slice q2 m.fSafe.length p2, .int .i64 m.fNext] (m) (G0 ++ G1 ++ G2 ++ []) ∧ Below w.heap.size w W' := fun W' hT =>
   ⟨oDisk_good.frame ho3 (fun b hb => hT.block b (oDisk_good.lt ho3 b hb) (fun h => by simp at h; have := hge3 b hb; omega)), hb2.trans (hT.below (fun k hk => by simp at hk; omega) hb2.size)⟩
  have HKEY := Hid.mk hkey
  have HNQ := Hid.mk hN3
  have HGQ : Hid (∀ b, b ∈ G0 ++ G1 ++ G2 ++ [] → w.heap.size ≤ b) := fun b hb => by have := hge3 b hb; omega
  clear hkey ho3 hN3 hge3 
  obtain ⟨ze0, ze1, ze2, ze3⟩ := hbr2.c4
  obtain ⟨zf0, zf1, zf2, zf3⟩ := hbr2.f4
  go_wp2_with fail
  obtain ⟨h1, h3⟩ := HKEY.out _ (show Turn [w.heap.size + 1] w2 ((((w2.setCell ⟨w.heap.size + 1, 0, none⟩ (.slice q0 m.fInodes.length p0)).setCell ⟨w.heap.size + 1, 1, none⟩ (.slice q1 m.fNames.length p1)).setCell ⟨w.heap.size + 1, 2, none⟩ (.slice q2 m.fSafe.length p2)).setCell ⟨w.heap.size + 1, 3, none⟩ (.int .i64 m.fNext)) from turn4 _ _ _ _ _ _)
  exact bodyPost_ret (v := .tuple #[.agg #[.slice q0 m.fInodes.length p0, .slice q1 m.fNames.length p1, .slice q2 m.fSafe.length p2, .int .i64 m.fNext], .int .i64 cp]) (by simp [results, Tryz.results78, go_sem, *]) rfl ⟨[.slice q0 m.fInodes.length p0, .slice q1 m.fNames.length p1, .slice q2 m.fSafe.length p2, .int .i64 m.fNext], _, by rw [HCP.out], by rw [HV.out]; exact h1, HNQ.out, HGQ.out, h3⟩
end Go.Proofs.YtomlpobbhioflaaGreatDoor
