/-
  The specification's Sync.
-/
import Derived.Test.YtcipekagllikjaaDatW
import Derived.Test.YtcipekagllikjaaCopyL
import Derived.Test.YtcipekagllikjaaDskU
import Derived.Test.YtcipekagllikjaaDskT
namespace Go.Proofs.Ytcipekagllikjaa
open Go.RowKit Go.Maps
set_option linter.unusedVariables false
set_option linter.unusedSimpArgs false
set_option maxRecDepth 10000

set_option maxHeartbeats 4000000 in
theorem specSync_c (cs : List Value) (m : MDisk) (s : ByteArray) (w : World) (hr : rDisk w.heap.size w cs m) (hs : s.size ≤ 9223372036854775807) (hw : wDisk m ≤ 1048576) (hw1 : s.size ≤ 1048576) :
    Calls Try.prog 39 #[.agg cs.toArray, .string s] w fun e w' => ∃ cs' : List Value, e = .returned (.tuple #[.agg cs'.toArray, .int .i64 (callP m s)]) ∧ rDisk w'.heap.size w' cs' (syncP m s) ∧ Below w.heap.size w w' := by
  have hq := hr
  obtain ⟨a0, c0, a1, c1, a2, c2, rfl, hI, hNm, hSf, hnx, _⟩ := hq
  have hw2 : m.fInodes.length + sumW wInode m.fInodes + (m.fNames.length + sumW wEntry m.fNames) + (m.fSafe.length + sumW wEntry m.fSafe) ≤ 1048576 := hw
  have HW := Hid.mk hw
  have HR := Hid.mk hr
  clear hr hI hNm hSf hw
  go_enter Try.func39, Try.ntmps39
  go_wp2_with fail
  obtain ⟨wq, hwq⟩ : ∃ wq, wq = ((w.alloc (.cells #[.slice a0 m.fInodes.length c0, .slice a1 m.fNames.length c1, .slice a2 m.fSafe.length c2, .int .i64 m.fNext] 27)).alloc (.cells #[.slice none 0 0, .slice none 0 0, .slice none 0 0, .int .i64 0] 27)) := ⟨_, rfl⟩
  have hbW : Below w.heap.size w wq := by rw [hwq]; exact Below.alloc (Below.alloc (Below.refl _ _) (by exact Nat.le_refl _) _) (by simp; try omega) _
  have hbd : Bw wq (w.heap.size) 27 [.slice a0 m.fInodes.length c0, .slice a1 m.fNames.length c1, .slice a2 m.fSafe.length c2, .int .i64 m.fNext] := by rw [hwq]; exact Bw.alloc (Bw.new' _ _ _ (by simp)) _
  have hbr : Bw wq (w.heap.size + 1) 27 [.slice none 0 0, .slice none 0 0, .slice none 0 0, .int .i64 0] := by rw [hwq]; exact Bw.new' _ _ _ (by simp)
  rw [← hwq]
  clear hwq
  refine (l2Copy_any _ m wq (rDisk_good.mono (rDisk_good.below HR.out hbW) hbW.size) HW.out).mono ?_
  rintro e w1 ⟨cs2, F2, rfl, ho2, hN2, hge2, hx1⟩
  obtain ⟨d0, e0, d1, e1, d2, e2, G0, G1, G2, rfl, o0, o1, o2, _, rfl⟩ := oDisk_cells ho2
  have HO0 := Hid.mk o0
  have HO1 := Hid.mk o1
  have HO2 := Hid.mk o2
  have HO := Hid.mk ho2
  have HN := Hid.mk hN2
  have HGE : Hid (∀ b, b ∈ G0 ++ G1 ++ G2 ++ [] → wq.heap.size ≤ b) := hge2
  have HLT : Hid (∀ b, b ∈ G0 ++ G1 ++ G2 ++ [] → b < w1.heap.size) := fun b hb => oDisk_good.lt ho2 b hb
  clear ho2 hN2 hge2 o0 o1 o2
  have hb1 := bthen hbW hx1
  have hbd1 := hbd.under hx1
  have hbr1 := hbr.under hx1
  have hz1 := hx1.size
  have hl0 := hbr.lt
  have y0 := hbd1.cell 0 _ rfl
  have y1 := hbd1.cell 1 _ rfl
  have y2 := hbd1.cell 2 _ rfl
  have y3 := hbd1.cell 3 _ rfl
  have hl1 := hbd1.lt
  go_wp2_with fail
  obtain ⟨wa, hwa⟩ : ∃ wa, wa = w1.alloc (.cells #[.slice d0 m.fInodes.length e0, .slice d1 m.fNames.length e1, .slice d2 m.fSafe.length e2, .int .i64 m.fNext] 27) := ⟨_, rfl⟩
  have hba : Below w1.heap.size w1 wa := by rw [hwa]; exact (Below.refl _ _).alloc (Nat.le_refl _) _
  have hwb0 : Bw wa w1.heap.size 27 [.slice d0 m.fInodes.length e0, .slice d1 m.fNames.length e1, .slice d2 m.fSafe.length e2, .int .i64 m.fNext] := by rw [hwa]; exact Bw.new _ _ _
  rw [← hwa]
  clear hwa
  have hba1 := bthen hb1 hba
  have hbda := (hbd1.under hba)
  refine (l2Call_any _ m s wa (rDisk_good.mono (rDisk_good.below HR.out hba1) hba1.size) HW.out hs).mono ?_
  rintro e w2 ⟨rfl, hx2⟩
  have hb12 := bthen hba hx2
  have hwb := hwb0.under hx2
  clear hwb0 hbda hbd1 y0 y1 y2 y3
  by_cases hC : callP m s = 0
  · have hCc := hC
    rw [hC]
    have HB2 := Hid.mk hb1
    have HBR2 := Hid.mk hbr1
    have hgd := call_good hC
    obtain ⟨hk, hid, hhas⟩ := file_there hgd.1 hgd.2.2
    obtain ⟨hpl0, hpi⟩ := hasId_at hhas
    have hnz : nameZ m.fNames s = (nameAt m.fNames s : Int) := by unfold nameZ; rw [hgd.2.2, if_pos rfl]
    have hpz : placeZ m.fInodes (idOf m.fNames s) = (placeOf m.fInodes (idOf m.fNames s) : Int) := by unfold placeZ; rw [hhas, if_pos rfl]
    have hfrm : ∀ W', Below w2.heap.size w2 W' → oDisk W' [.slice d0 m.fInodes.length e0, .slice d1 m.fNames.length e1, .slice d2 m.fSafe.length e2, .int .i64 m.fNext] m (G0 ++ G1 ++ G2 ++ []) := fun W' hb => oDisk_good.frame HO.out (fun b hbF => (bthen hb12 hb).block b (HLT.out b hbF))
    have hlfn : ∀ W', Below w2.heap.size w2 W' → LeafL 2 rEntry W'.heap.size W' d1 e1 m.fNames := fun W' hb => ownS.leaf oEntry_good (ownS.frame oEntry_good HO1.out (fun b hbF => (bthen hb12 hb).block b (HLT.out b (by simp [hbF]))))
    obtain ⟨b1, o1, rfl, hB1, cs1, hcl1, hcell1, rfl, hrest1⟩ := (hlfn _ (Below.refl _ _)).2.2 (nameAt m.fNames s) hk
    have k1e := hcell1 1 _ rfl
    rw [← hid] at k1e
    have q1 : ∀ W', Below w2.heap.size w2 W' → W'.cell? ⟨b1, o1 + nameAt m.fNames s * 2 + 1, none⟩ = some (.int .i64 (idOf m.fNames s)) := fun W' hb => (hb.cell (p := ⟨b1, o1 + nameAt m.fNames s * 2 + 1, none⟩) hB1).trans k1e
    have hCt := fun W' (hb : Below w2.heap.size w2 W') => l2At_any (some ⟨b1, o1, none⟩) _ e1 m.fNames s W' W'.heap.size rfl (by omega) (hlfn W' hb).2.2
    have hCi := fun W' (hb : Below w2.heap.size w2 W') => l2Inode_any _ m (idOf m.fNames s) W' (oDisk_good.read (hfrm W' hb)) (by omega)
    simp only [hnz] at hCt
    simp only [hpz] at hCi
    obtain ⟨p, hpv⟩ : ∃ p, p = placeOf m.fInodes (idOf m.fNames s) := ⟨_, rfl⟩
    have HPV : Hid (p = fileAt m s) := hpv
    rw [← hpv] at hCi hpl0
    have hpl : p < m.fInodes.length := hpl0
    have hu1 : (0 : Int) ≤ (nameAt m.fNames s : Int) := by omega
    have hu2 : (nameAt m.fNames s : Int) < (m.fNames.length : Int) := by omega
    have po0 : ∀ W', Below w2.heap.size w2 W' → W'.cell? ⟨w1.heap.size, 0, none⟩ = some (.slice d0 m.fInodes.length e0) := fun W' hb => (hwb.under hb).cell 0 _ rfl
    have po1 : ∀ W', Below w2.heap.size w2 W' → W'.cell? ⟨w1.heap.size, 1, none⟩ = some (.slice (some ⟨b1, o1, none⟩) m.fNames.length e1) := fun W' hb => (hwb.under hb).cell 1 _ rfl
    have po2 : ∀ W', Below w2.heap.size w2 W' → W'.cell? ⟨w1.heap.size, 2, none⟩ = some (.slice d2 m.fSafe.length e2) := fun W' hb => (hwb.under hb).cell 2 _ rfl
    have po3 : ∀ W', Below w2.heap.size w2 W' → W'.cell? ⟨w1.heap.size, 3, none⟩ = some (.int .i64 m.fNext) := fun W' hb => (hwb.under hb).cell 3 _ rfl
    clear hfrm hlfn hcell1 hcl1 k1e hrest1 hid hhas hpi hnz hpz hpl0 hgd
    have HCz := Hid.mk hC
    have HKn := Hid.mk hk
    clear hpv hC hk
    generalize nameAt m.fNames s = na at *
    generalize idOf m.fNames s = idn at *
    go_wp2_with fail
    refine wp_region_held_drew (S := fun W' => Below w2.heap.size w2 W') (by kernel_rfl) (Below.drew (Below.refl _ _)) (fun hHeld => ?_)
    refine wpAnyH_take (i := 0) (oi := ⟨some 16, .load 27 (.tmp 6), 27, "l02_files.go:174", #[], none⟩) (v := ?v1) rfl (by kernel_rfl) (by kernel_rfl) (by kernel_rfl) (fun _ _ _ h => h) (Or.inl ⟨by rfl, ?hy1⟩) (by assumption) ?rest1
    case hy1 => (intro w hSw; (try dsimp only at hSw); go_simp; try (with_reducible rfl))
    try simp only [Act.put, List.setIfInBounds_toArray, List.set_cons_zero, List.set_cons_succ]
    refine wpAnyH_take (i := 1) (oi := ⟨some 17, .fieldAddr 27 (.tmp 6) 1, 0, "l02_files.go:174", #[], none⟩) (v := ?v2) rfl (by kernel_rfl) (by kernel_rfl) (by kernel_rfl) (fun _ _ _ h => h) (Or.inl ⟨by rfl, ?hy2⟩) (by assumption) ?rest2
    case hy2 => (intro w hSw; (try dsimp only at hSw); go_simp; try (with_reducible rfl))
    try simp only [Act.put, List.setIfInBounds_toArray, List.set_cons_zero, List.set_cons_succ]
    refine wpAnyH_take (i := 2) (oi := ⟨some 18, .load 25 (.tmp 17), 25, "l02_files.go:174", #[⟨1, .data⟩], none⟩) (v := ?v3) rfl (by kernel_rfl) (by kernel_rfl) (by kernel_rfl) (fun _ _ _ h => h) (Or.inl ⟨by rfl, ?hy3⟩) (by assumption) ?rest3
    case hy3 => (intro w hSw; (try dsimp only at hSw); go_simp; try (with_reducible rfl))
    try simp only [Act.put, List.setIfInBounds_toArray, List.set_cons_zero, List.set_cons_succ]
    refine wpAnyH_take (i := 3) (oi := ⟨some 19, .fieldAddr 27 (.tmp 6) 1, 0, "l02_files.go:174", #[], none⟩) (v := ?v4) rfl (by kernel_rfl) (by kernel_rfl) (by kernel_rfl) (fun _ _ _ h => h) (Or.inl ⟨by rfl, ?hy4⟩) (by assumption) ?rest4
    case hy4 => (intro w hSw; (try dsimp only at hSw); go_simp; try (with_reducible rfl))
    try simp only [Act.put, List.setIfInBounds_toArray, List.set_cons_zero, List.set_cons_succ]
    refine wpAnyH_take (i := 4) (oi := ⟨some 20, .load 25 (.tmp 19), 25, "l02_files.go:174", #[⟨3, .data⟩], none⟩) (v := ?v5) rfl (by kernel_rfl) (by kernel_rfl) (by kernel_rfl) (fun _ _ _ h => h) (Or.inl ⟨by rfl, ?hy5⟩) (by assumption) ?rest5
    case hy5 => (intro w hSw; (try dsimp only at hSw); go_simp; try (with_reducible rfl))
    try simp only [Act.put, List.setIfInBounds_toArray, List.set_cons_zero, List.set_cons_succ]
    refine wpAnyH_take (i := 5) (oi := ⟨some 21, .move (.tmp 1), 9, "l02_files.go:174", #[], none⟩) (v := ?v6) rfl (by kernel_rfl) (by kernel_rfl) (by kernel_rfl) (fun _ _ _ h => h) (Or.inl ⟨by rfl, ?hy6⟩) (by assumption) ?rest6
    case hy6 => (intro w hSw; (try dsimp only at hSw); go_simp; try (with_reducible rfl))
    try simp only [Act.put, List.setIfInBounds_toArray, List.set_cons_zero, List.set_cons_succ]
    refine wpAnyH_ready (rs := [6]) (by kernel_rfl) (by simp) ?_
    refine AllReadyH.cons (o := ⟨some 22, .call { callee := .value (.func 64), args := #[.tmp 20, .tmp 21], argTypes := #[25, 9] }, 3, "l02_files.go:174", #[⟨4, .data⟩, ⟨5, .data⟩], none⟩) rfl (fun K hK => ?_) AllReadyH.nil
    go_simp
    refine Calls.mono (hCt _ hHeld) ?_
    rintro e wy1 ⟨rfl, hw1⟩
    have hy1 := below_same hw1
    clear hw1
    go_wp2_with fail
    refine hK.out _ _ (bthen hHeld hy1) (fun hHeld => ?_)
    clear hK K
    try simp only [Act.put, List.setIfInBounds_toArray, List.set_cons_zero, List.set_cons_succ]
    refine wpAnyH_take (i := 7) (oi := ⟨some 23, .indexAddr 25 (.tmp 18) (.tmp 22), 0, "l02_files.go:174", #[⟨2, .data⟩, ⟨6, .data⟩], none⟩) (v := ?v7) rfl (by kernel_rfl) (by kernel_rfl) (by kernel_rfl) (fun _ _ _ h => h) (Or.inl ⟨by rfl, ?hy7⟩) (by assumption) ?rest7
    case hy7 => (intro w hSw; (try dsimp only at hSw); go_simp; try (with_reducible rfl))
    try simp only [Act.put, List.setIfInBounds_toArray, List.set_cons_zero, List.set_cons_succ]
    refine wpAnyH_take (i := 8) (oi := ⟨some 24, .fieldAddr 74 (.tmp 23) 1, 0, "l02_files.go:174", #[⟨7, .data⟩], none⟩) (v := ?v8) rfl (by kernel_rfl) (by kernel_rfl) (by kernel_rfl) (fun _ _ _ h => h) (Or.inl ⟨by rfl, ?hy8⟩) (by assumption) ?rest8
    case hy8 => (intro w hSw; (try dsimp only at hSw); go_simp; try (with_reducible rfl))
    try simp only [Act.put, List.setIfInBounds_toArray, List.set_cons_zero, List.set_cons_succ]
    refine wpAnyH_take (i := 9) (oi := ⟨some 25, .load 3 (.tmp 24), 3, "l02_files.go:174", #[⟨8, .data⟩], none⟩) (v := ?v9) rfl (by kernel_rfl) (by kernel_rfl) (by kernel_rfl) (fun _ _ _ h => h) (Or.inl ⟨by rfl, ?hy9⟩) (by assumption) ?rest9
    case hy9 => (intro w hSw; (try dsimp only at hSw); go_simp; try (with_reducible rfl))
    try simp only [Act.put, List.setIfInBounds_toArray, List.set_cons_zero, List.set_cons_succ]
    refine wpAnyH_ready (rs := [10]) (by kernel_rfl) (by simp) ?_
    refine AllReadyH.cons (o := ⟨some 26, .call { callee := .value (.func 76), args := #[.tmp 16, .tmp 25], argTypes := #[27, 3] }, 3, "l02_files.go:174", #[⟨0, .data⟩, ⟨9, .data⟩, ⟨6, .chain⟩], none⟩) rfl (fun K hK => ?_) AllReadyH.nil
    go_simp
    refine Calls.mono (hCi _ hHeld) ?_
    rintro e wy2 ⟨rfl, hy2⟩
    go_wp2_with fail
    refine hK.out _ _ (bthen hHeld hy2) (fun hHeld => ?_)
    clear hK K
    try simp only [Act.put, List.setIfInBounds_toArray, List.set_cons_zero, List.set_cons_succ]
    refine wpAnyH_take (i := 11) (oi := ⟨some 8, .assign (.tmp 26), 3, "l02_files.go:174", #[⟨10, .data⟩, ⟨10, .chain⟩, ⟨0, .phase⟩, ⟨1, .phase⟩, ⟨2, .phase⟩, ⟨3, .phase⟩, ⟨4, .phase⟩, ⟨5, .phase⟩, ⟨6, .phase⟩, ⟨7, .phase⟩, ⟨8, .phase⟩, ⟨9, .phase⟩, ⟨10, .phase⟩], none⟩) (v := ?v10) rfl (by kernel_rfl) (by kernel_rfl) (by kernel_rfl) (fun _ _ _ h => h) (Or.inl ⟨by rfl, ?hy10⟩) (by assumption) ?rest10
    case hy10 => (intro w hSw; (try dsimp only at hSw); go_simp; try (with_reducible rfl))
    try simp only [Act.put, List.setIfInBounds_toArray, List.set_cons_zero, List.set_cons_succ]
    refine wpAnyH_done (by kernel_rfl) ?_ _
    obtain ⟨wo, hwo⟩ : ∃ wo, wo = wy2 := ⟨_, rfl⟩
    rw [← hwo] at hHeld ⊢
    clear hwo hCt hCi po0 po1 po2 po3 q1
    have hbo := bthen hb12 hHeld
    have hwbo := hwb.under hHeld
    have hC := HCz.out
    have HV : Hid (syncP m s = { m with fInodes := updI m.fInodes p sureI }) := by show _ = _; unfold syncP; rw [if_pos hC, HPV.out]
    clear hb12 hHeld hCc
    obtain ⟨g, cap, hv, hgG, hgl⟩ := ownS.shape HO0.out (by omega)
    simp only [Value.slice.injEq, true_and] at hv
    obtain ⟨rfl, rfl⟩ := hv
    obtain ⟨cs3, Fk, o3, f3, n3, c3, z3⟩ := ownS.cells oInode_good HO0.out hpl
    obtain ⟨v3, F3, rfl, i3, b3, s3, rfl⟩ := o3
    obtain ⟨a3, l3, rfl, _⟩ := b3.read
    have k1 := c3 1 _ rfl
    have k2 := c3 2 _ rfl
    have r1 := z3 (p * 3 + 1)
    have r2 := z3 (p * 3 + 2)
    have hge1 := HGE.out g (by simp [hgG])
    have hdl : m.fInodes[p].fData.length ≤ 1048576 := by have h1 := sumW_le (f := wInode) hpl; have h2 : wInode m.fInodes[p] = m.fInodes[p].fData.length := rfl; omega
    obtain ⟨dn, hdn⟩ : ∃ dn, m.fInodes[p].fData.length = dn := ⟨_, rfl⟩
    rw [hdn] at k1 hdl
    have HDN := Hid.mk hdn
    have HPL := Hid.mk hpl
    have hpn : (0 : Int) ≤ (p : Int) := by omega
    have hpn2 : (p : Int) < (m.fInodes.length : Int) := by omega
    clear hdn c3 z3 n3
    clear hwb
    have hwb := hwbo
    go_wp2_with fail
    have k1o := (hbo.cell (p := ⟨g, p * 3 + 1, none⟩) hgl).trans k1
    have k2o := (hbo.cell (p := ⟨g, p * 3 + 2, none⟩) hgl).trans k2
    have r2o := (hbo.frozen (p := ⟨g, p * 3 + 2, none⟩) hgl).trans r2
    have x0 := hwb.cell 0 _ rfl
    clear k1 k2 r2 r1
    have HG1 : Hid (g ≠ w1.heap.size) := by show _ ≠ _; omega
    refine wp_region_held_drew (S := fun W => W.cell? ⟨w1.heap.size, 0, none⟩ = some (.slice (some ⟨g, 0, none⟩) m.fInodes.length e0) ∧ W.cell? ⟨g, p * 3 + 1, none⟩ = some (.slice a3 dn l3) ∧ Turn [g] wo W) (by kernel_rfl) (⟨x0, k1o, Turn.ofBelow (Below.drew (Below.refl _ _))⟩) (fun hHeld => ?_)
    refine wpAnyH_take (i := 0) (oi := ⟨some 27, .fieldAddr 27 (.tmp 6) 0, 0, "l02_files.go:175", #[], none⟩) (v := ?v11) rfl (by kernel_rfl) (by kernel_rfl) (by kernel_rfl) (fun _ _ _ h => h) (Or.inl ⟨by rfl, ?hy11⟩) (by assumption) ?rest11
    case hy11 => (intro w hSw; (try dsimp only at hSw); go_simp; try (with_reducible rfl))
    try simp only [Act.put, List.setIfInBounds_toArray, List.set_cons_zero, List.set_cons_succ]
    refine wpAnyH_take (i := 1) (oi := ⟨some 28, .load 24 (.tmp 27), 24, "l02_files.go:175", #[⟨0, .data⟩], none⟩) (v := ?v12) rfl (by kernel_rfl) (by kernel_rfl) (by kernel_rfl) (fun _ _ _ h => h) (Or.inl ⟨by rfl, ?hy12⟩) (by assumption) ?rest12
    case hy12 => (intro w hSw; (try dsimp only at hSw); go_simp; try (with_reducible rfl))
    try simp only [Act.put, List.setIfInBounds_toArray, List.set_cons_zero, List.set_cons_succ]
    refine wpAnyH_take (i := 2) (oi := ⟨some 29, .move (.tmp 8), 3, "l02_files.go:175", #[], none⟩) (v := ?v13) rfl (by kernel_rfl) (by kernel_rfl) (by kernel_rfl) (fun _ _ _ h => h) (Or.inl ⟨by rfl, ?hy13⟩) (by assumption) ?rest13
    case hy13 => (intro w hSw; (try dsimp only at hSw); go_simp; try (with_reducible rfl))
    try simp only [Act.put, List.setIfInBounds_toArray, List.set_cons_zero, List.set_cons_succ]
    refine wpAnyH_take (i := 3) (oi := ⟨some 30, .fieldAddr 27 (.tmp 6) 0, 0, "l02_files.go:175", #[], none⟩) (v := ?v14) rfl (by kernel_rfl) (by kernel_rfl) (by kernel_rfl) (fun _ _ _ h => h) (Or.inl ⟨by rfl, ?hy14⟩) (by assumption) ?rest14
    case hy14 => (intro w hSw; (try dsimp only at hSw); go_simp; try (with_reducible rfl))
    try simp only [Act.put, List.setIfInBounds_toArray, List.set_cons_zero, List.set_cons_succ]
    refine wpAnyH_take (i := 4) (oi := ⟨some 31, .load 24 (.tmp 30), 24, "l02_files.go:175", #[⟨3, .data⟩], none⟩) (v := ?v15) rfl (by kernel_rfl) (by kernel_rfl) (by kernel_rfl) (fun _ _ _ h => h) (Or.inl ⟨by rfl, ?hy15⟩) (by assumption) ?rest15
    case hy15 => (intro w hSw; (try dsimp only at hSw); go_simp; try (with_reducible rfl))
    try simp only [Act.put, List.setIfInBounds_toArray, List.set_cons_zero, List.set_cons_succ]
    refine wpAnyH_take (i := 5) (oi := ⟨some 32, .move (.tmp 8), 3, "l02_files.go:175", #[], none⟩) (v := ?v16) rfl (by kernel_rfl) (by kernel_rfl) (by kernel_rfl) (fun _ _ _ h => h) (Or.inl ⟨by rfl, ?hy16⟩) (by assumption) ?rest16
    case hy16 => (intro w hSw; (try dsimp only at hSw); go_simp; try (with_reducible rfl))
    try simp only [Act.put, List.setIfInBounds_toArray, List.set_cons_zero, List.set_cons_succ]
    refine wpAnyH_take (i := 6) (oi := ⟨some 33, .indexAddr 24 (.tmp 31) (.tmp 32), 0, "l02_files.go:175", #[⟨4, .data⟩, ⟨5, .data⟩], none⟩) (v := ?v17) rfl (by kernel_rfl) (by kernel_rfl) (by kernel_rfl) (fun _ _ _ h => h) (Or.inl ⟨by rfl, ?hy17⟩) (by assumption) ?rest17
    case hy17 => (intro w hSw; (try dsimp only at hSw); go_simp; try (with_reducible rfl))
    try simp only [Act.put, List.setIfInBounds_toArray, List.set_cons_zero, List.set_cons_succ]
    refine wpAnyH_take (i := 7) (oi := ⟨some 34, .fieldAddr 69 (.tmp 33) 1, 0, "l02_files.go:175", #[⟨6, .data⟩], none⟩) (v := ?v18) rfl (by kernel_rfl) (by kernel_rfl) (by kernel_rfl) (fun _ _ _ h => h) (Or.inl ⟨by rfl, ?hy18⟩) (by assumption) ?rest18
    case hy18 => (intro w hSw; (try dsimp only at hSw); go_simp; try (with_reducible rfl))
    try simp only [Act.put, List.setIfInBounds_toArray, List.set_cons_zero, List.set_cons_succ]
    refine wpAnyH_take (i := 8) (oi := ⟨some 35, .load 22 (.tmp 34), 22, "l02_files.go:175", #[⟨7, .data⟩], none⟩) (v := ?v19) rfl (by kernel_rfl) (by kernel_rfl) (by kernel_rfl) (fun _ _ _ h => h) (Or.inl ⟨by rfl, ?hy19⟩) (by assumption) ?rest19
    case hy19 => (intro w hSw; (try dsimp only at hSw); go_simp; try (with_reducible rfl))
    try simp only [Act.put, List.setIfInBounds_toArray, List.set_cons_zero, List.set_cons_succ]
    refine wpAnyH_take (i := 9) (oi := ⟨some 36, .call { callee := .builtin .len, args := #[.tmp 35], argTypes := #[22] }, 3, "l02_files.go:175", #[⟨8, .data⟩], none⟩) (v := ?v20) rfl (by kernel_rfl) (by kernel_rfl) (by kernel_rfl) (fun _ _ _ h => h) (Or.inl ⟨by rfl, ?hy20⟩) (by assumption) ?rest20
    case hy20 => (intro w hSw; (try dsimp only at hSw); go_simp; try (with_reducible rfl))
    try simp only [Act.put, List.setIfInBounds_toArray, List.set_cons_zero, List.set_cons_succ]
    refine wpAnyH_take (i := 10) (oi := ⟨some 37, .indexAddr 24 (.tmp 28) (.tmp 29), 0, "l02_files.go:175", #[⟨1, .data⟩, ⟨2, .data⟩, ⟨0, .phase⟩, ⟨1, .phase⟩, ⟨2, .phase⟩, ⟨3, .phase⟩, ⟨4, .phase⟩, ⟨5, .phase⟩, ⟨6, .phase⟩, ⟨7, .phase⟩, ⟨8, .phase⟩, ⟨9, .phase⟩], none⟩) (v := ?v21) rfl (by kernel_rfl) (by kernel_rfl) (by kernel_rfl) (fun _ _ _ h => h) (Or.inl ⟨by rfl, ?hy21⟩) (by assumption) ?rest21
    case hy21 => (intro w hSw; (try dsimp only at hSw); go_simp; try (with_reducible rfl))
    try simp only [Act.put, List.setIfInBounds_toArray, List.set_cons_zero, List.set_cons_succ]
    refine wpAnyH_take (i := 11) (oi := ⟨some 38, .fieldAddr 69 (.tmp 37) 2, 0, "l02_files.go:175", #[⟨10, .data⟩, ⟨0, .phase⟩, ⟨1, .phase⟩, ⟨2, .phase⟩, ⟨3, .phase⟩, ⟨4, .phase⟩, ⟨5, .phase⟩, ⟨6, .phase⟩, ⟨7, .phase⟩, ⟨8, .phase⟩, ⟨9, .phase⟩], none⟩) (v := ?v22) rfl (by kernel_rfl) (by kernel_rfl) (by kernel_rfl) (fun _ _ _ h => h) (Or.inl ⟨by rfl, ?hy22⟩) (by assumption) ?rest22
    case hy22 => (intro w hSw; (try dsimp only at hSw); go_simp; try (with_reducible rfl))
    try simp only [Act.put, List.setIfInBounds_toArray, List.set_cons_zero, List.set_cons_succ]
    refine wpAnyH_ready (rs := [12]) (by kernel_rfl) (by simp) ?_
    refine AllReadyH.cons (o := ⟨none, .store 3 (.tmp 38) (.tmp 36), 0, "l02_files.go:175", #[⟨11, .data⟩, ⟨9, .data⟩, ⟨0, .phase⟩, ⟨1, .phase⟩, ⟨2, .phase⟩, ⟨3, .phase⟩, ⟨4, .phase⟩, ⟨5, .phase⟩, ⟨6, .phase⟩, ⟨7, .phase⟩, ⟨8, .phase⟩, ⟨9, .phase⟩], none⟩) rfl (fun K hK => ?_) AllReadyH.nil
    go_simp
    go_simp
    refine hK.out _ _ (⟨(World.cell?_setCell_other _ _ _ _ (fun h => HG1.out (congrArg Addr.block h))).trans x0, (World.cell?_setCell_other _ _ _ _ (fun h => by have := congrArg Addr.off h; simp at this)).trans k1o, Turn.drew (Turn.setCell (F := [g]) (a := wo) (b := wo) (p := ⟨g, p * 3 + 2, none⟩) (Turn.refl _ _) (by simp) (.int .i64 dn))⟩) (fun hHeld => ?_)
    clear hK K
    try simp only [Act.put, List.setIfInBounds_toArray, List.set_cons_zero, List.set_cons_succ]
    refine wpAnyH_done (by kernel_rfl) ?_ _
    obtain ⟨w3, hw3⟩ : ∃ w3, w3 = (wo.setCell ⟨g, p * 3 + 2, none⟩ (.int .i64 dn)).drew := ⟨_, rfl⟩
    have hT3 : Turn [g] wo w3 := by rw [hw3]; exact Turn.drew (Turn.setCell (F := [g]) (a := wo) (b := wo) (p := ⟨g, p * 3 + 2, none⟩) (Turn.refl _ _) (by simp) _)
    have hwb3 := hwb.turn hT3 (by simp; omega)
    have hbr3 := (HBR2.out.under hbo).turn hT3 (by simp; omega)
    have hB3 : Below w.heap.size w w3 := (bthen HB2.out hbo).trans (hT3.below (fun k hk => by simp at hk; have := HB2.out.size; omega) (bthen HB2.out hbo).size)
    have HPL2 := HPL
    have hod : ∃ F', oDisk w3 [.slice (some ⟨g, 0, none⟩) m.fInodes.length e0, .slice (some ⟨b1, o1, none⟩) m.fNames.length e1, .slice d2 m.fSafe.length e2, .int .i64 m.fNext] (syncP m s) F' ∧ F'.Nodup ∧ ∀ b, b ∈ F' → b ∈ G0 ++ G1 ++ G2 := by
      have hfr : ∀ b, b ∈ G0 ++ G1 ++ G2 → b < w1.heap.size := fun b hb => HLT.out b (by simpa using hb)
      have q0 := ownS.frame (w' := wo) oInode_good HO0.out (fun b hb => hbo.block b (hfr b (by simp [hb])))
      have q1 := ownS.frame (w' := wo) oEntry_good HO1.out (fun b hb => hbo.block b (hfr b (by simp [hb])))
      have q2 := ownS.frame (w' := wo) oEntry_good HO2.out (fun b hb => hbo.block b (hfr b (by simp [hb])))
      have hsf : ∀ n : MInode, n.fData.length = dn → (sureI n).fSure = (dn : Int) := fun n h => by unfold sureI; simp [h]
      obtain ⟨F', o1, o2, o3, _⟩ := oDisk_inode q0 q1 q2 hnx HN.out HPL.out (i := 2) (by omega) (.int .i64 dn) sureI [] (fun b hb => by cases hb) (fun cs Fk h hN => by
        obtain ⟨v, F, rfl, q1, q2, q3, rfl⟩ := h
        refine ⟨F ++ [], ⟨v, F, ?_, q1, q2, ?_, rfl⟩, hN, fun b hb => .inl hb⟩
        · rw [hsf _ HDN.out]
          rfl
        · rw [hsf _ HDN.out]
          exact WalkArith.wf_i64 (by omega))
      refine ⟨F', ?_, o2, fun b hb => ?_⟩
      · rw [HV.out, hw3]
        exact o1
      · rcases o3 b hb with h | h
        · exact h
        · cases h
    obtain ⟨F3x, hO3, hN3, hS3⟩ := hod
    have hG3 : ∀ b, b ∈ F3x → w.heap.size + 2 ≤ b := fun b hb => by have := HGE.out b (by simpa using hS3 b hb); have := hbW.size; omega
    rw [← hw3]
    clear hw3 hHeld x0 k1o k2o r2o
    have zo0 := hwb3.cell 0 _ rfl
    have ze0 := hbr3.cell 0 _ rfl
    have zf0 := hbr3.free 0
    have zo1 := hwb3.cell 1 _ rfl
    have ze1 := hbr3.cell 1 _ rfl
    have zf1 := hbr3.free 1
    have zo2 := hwb3.cell 2 _ rfl
    have ze2 := hbr3.cell 2 _ rfl
    have zf2 := hbr3.free 2
    have zo3 := hwb3.cell 3 _ rfl
    have ze3 := hbr3.cell 3 _ rfl
    have zf3 := hbr3.free 3
    have hTf := turn4 w3 (w.heap.size + 1) (.slice (some ⟨g, 0, none⟩) m.fInodes.length e0) (.slice (some ⟨b1, o1, none⟩) m.fNames.length e1) (.slice d2 m.fSafe.length e2) (.int .i64 m.fNext)
    have HTf := Hid.mk hTf
    have HBf := Hid.mk hB3
    clear hTf
    go_wp2_with fail
    refine bodyPost_ret (v := .tuple #[.agg #[.slice (some ⟨g, 0, none⟩) m.fInodes.length e0, .slice (some ⟨b1, o1, none⟩) m.fNames.length e1, .slice d2 m.fSafe.length e2, .int .i64 m.fNext], .int .i64 0]) (by simp [results, Try.results39, go_sem, *]) rfl ⟨[.slice (some ⟨g, 0, none⟩) m.fInodes.length e0, .slice (some ⟨b1, o1, none⟩) m.fNames.length e1, .slice d2 m.fSafe.length e2, .int .i64 m.fNext], by rw [HCz.out], ?_, ?_⟩
    · exact oDisk_good.read (oDisk_good.frame (hO3) (fun b hb => HTf.out.block b (oDisk_good.lt (hO3) b hb) (by intro h; simp at h; have := hG3 b hb; omega)))
    · exact HBf.out.trans (HTf.out.below (fun k hk => by simp at hk; omega) HBf.out.size)
  · have HV : Hid (syncP m s = m) := by show _ = _; unfold syncP; rw [if_neg hC]
    have hcn : (callP m s == 0) = false := beq_eq_false_iff_ne.2 hC
    obtain ⟨cp, hcp⟩ : ∃ cp, callP m s = cp := ⟨_, rfl⟩
    rw [hcp] at hcn ⊢
    have HCP := Hid.mk hcp
    clear hcp hC
    have hb2 := bthen hba1 hx2
    have hbr2 := (hbr1.under hba).under hx2
    have zo0 := hwb.cell 0 _ rfl
    have zo1 := hwb.cell 1 _ rfl
    have zo2 := hwb.cell 2 _ rfl
    have zo3 := hwb.cell 3 _ rfl
    have ze0 := hbr2.cell 0 _ rfl
    have zf0 := hbr2.free 0
    have ze1 := hbr2.cell 1 _ rfl
    have zf1 := hbr2.free 1
    have ze2 := hbr2.cell 2 _ rfl
    have zf2 := hbr2.free 2
    have ze3 := hbr2.cell 3 _ rfl
    have zf3 := hbr2.free 3
    have hlt0 := hbr2.lt
    have hO3 : oDisk w2 [.slice d0 m.fInodes.length e0, .slice d1 m.fNames.length e1, .slice d2 m.fSafe.length e2, .int .i64 m.fNext] (syncP m s) (G0 ++ G1 ++ G2 ++ []) := by rw [HV.out]; exact oDisk_good.frame HO.out (fun b hb => hb12.block b (HLT.out b hb))
    have hG3 : ∀ b, b ∈ G0 ++ G1 ++ G2 ++ [] → w.heap.size + 2 ≤ b := fun b hb => by have := HGE.out b hb; omega
    have HBf := Hid.mk hb2
    have HO3 := Hid.mk hO3
    clear hO3
    go_wp2_with fail
    refine bodyPost_ret (v := .tuple #[.agg #[.slice d0 m.fInodes.length e0, .slice d1 m.fNames.length e1, .slice d2 m.fSafe.length e2, .int .i64 m.fNext], .int .i64 cp]) (by simp [results, Try.results39, go_sem, *]) rfl ⟨[.slice d0 m.fInodes.length e0, .slice d1 m.fNames.length e1, .slice d2 m.fSafe.length e2, .int .i64 m.fNext], by first | rfl | rw [HCP.out], ?_, ?_⟩
    · exact oDisk_good.read (oDisk_good.frame HO3.out (fun b hb => (show Turn [w.heap.size + 1] w2 _ from by repeat (first | with_reducible exact Turn.refl _ _ | with_reducible refine Turn.setCell ?_ (by simp) _ | with_reducible refine Turn.alloc ?_ _ | with_reducible refine Turn.drew ?_)).block b (oDisk_good.lt HO3.out b hb) (by intro h; simp at h; have := hG3 b hb; omega)))
    · exact HBf.out.trans ((show Turn [w.heap.size + 1] w2 _ from by repeat (first | with_reducible exact Turn.refl _ _ | with_reducible refine Turn.setCell ?_ (by simp) _ | with_reducible refine Turn.alloc ?_ _ | with_reducible refine Turn.drew ?_)).below (fun k hk => by simp at hk; omega) HBf.out.size)

end Go.Proofs.Ytcipekagllikjaa
