/-
  The program's Sync.
-/
import Derived.Test.YtcipekagllikjaaDatW
import Derived.Test.YtcipekagllikjaaCopy
import Derived.Test.YtcipekagllikjaaMapS
namespace Go.Proofs.Ytcipekagllikjaa
open Go.RowKit Go.Maps
set_option linter.unusedVariables false
set_option linter.unusedSimpArgs false
set_option maxRecDepth 10000

set_option maxHeartbeats 4000000 in
theorem implSync_c (cs : List Value) (m : MDisk) (s : ByteArray) (w : World) (hr : rDisk w.heap.size w cs m) (hs : s.size ≤ 9223372036854775807) (hw : wDisk m ≤ 1048576) (hw1 : s.size ≤ 1048576) :
    Calls Try.prog 19 #[.agg cs.toArray, .string s] w fun e w' => ∃ (cs' : List Value) (F : List Nat), e = .returned (.tuple #[.agg cs'.toArray, .int .i64 (callP m s)]) ∧ oDisk w' cs' (syncP m s) F ∧ F.Nodup ∧ (∀ b, b ∈ F → w.heap.size ≤ b) ∧ Below w.heap.size w w' := by
  have hq := hr
  obtain ⟨a0, c0, a1, c1, a2, c2, rfl, hI, hNm, hSf, hnx, _⟩ := hq
  have hw2 : m.fInodes.length + sumW wInode m.fInodes + (m.fNames.length + sumW wEntry m.fNames) + (m.fSafe.length + sumW wEntry m.fSafe) ≤ 1048576 := hw
  have HW := Hid.mk hw
  have HR := Hid.mk hr
  clear hr hI hNm hSf hw
  go_enter Try.func19, Try.ntmps19
  go_wp2_with fail
  obtain ⟨wq, hwq⟩ : ∃ wq, wq = ((w.alloc (.cells #[.slice a0 m.fInodes.length c0, .slice a1 m.fNames.length c1, .slice a2 m.fSafe.length c2, .int .i64 m.fNext] 27)).alloc (.cells #[.slice none 0 0, .slice none 0 0, .slice none 0 0, .int .i64 0] 27)) := ⟨_, rfl⟩
  have hbW : Below w.heap.size w wq := by rw [hwq]; exact Below.alloc (Below.alloc (Below.refl _ _) (by exact Nat.le_refl _) _) (by simp; try omega) _
  have hbd : Bw wq (w.heap.size) 27 [.slice a0 m.fInodes.length c0, .slice a1 m.fNames.length c1, .slice a2 m.fSafe.length c2, .int .i64 m.fNext] := by rw [hwq]; exact Bw.alloc (Bw.new' _ _ _ (by simp)) _
  have hbr : Bw wq (w.heap.size + 1) 27 [.slice none 0 0, .slice none 0 0, .slice none 0 0, .int .i64 0] := by rw [hwq]; exact Bw.new' _ _ _ (by simp)
  rw [← hwq]
  clear hwq
  refine (findFile_any _ m s wq (rDisk_good.mono (rDisk_good.below HR.out hbW) hbW.size) HW.out hs).mono ?_
  rintro e w1 ⟨p, rfl, hp, hx1⟩
  have HP := Hid.mk hp
  clear hp
  have hb1 := bthen hbW hx1
  have hbd1 := hbd.under hx1
  have hbr1 := hbr.under hx1
  have y0 := hbd1.cell 0 _ rfl
  have y1 := hbd1.cell 1 _ rfl
  have y2 := hbd1.cell 2 _ rfl
  have y3 := hbd1.cell 3 _ rfl
  clear hbd hbr
  go_wp2_with fail
  refine (copyDisk_any _ m w1 (rDisk_good.mono (rDisk_good.below HR.out hb1) hb1.size) HW.out).mono ?_
  rintro e w2 ⟨cs2, F2, rfl, ho2, hN2, hge2, hx2⟩
  obtain ⟨d0, e0, d1, e1, d2, e2, G0, G1, G2, rfl, o0, o1, o2, _, rfl⟩ := oDisk_cells ho2
  have HO0 := Hid.mk o0
  have HO1 := Hid.mk o1
  have HO2 := Hid.mk o2
  have HO := Hid.mk ho2
  have HN := Hid.mk hN2
  have HGE : Hid (∀ b, b ∈ G0 ++ G1 ++ G2 ++ [] → w1.heap.size ≤ b) := hge2
  have HLT : Hid (∀ b, b ∈ G0 ++ G1 ++ G2 ++ [] → b < w2.heap.size) := fun b hb => oDisk_good.lt ho2 b hb
  clear ho2 hN2 hge2 o0 o1 o2
  have hb2 := bthen hb1 hx2
  have hbr2 := hbr1.under hx2
  have hz2 := hx2.size
  have hl1 := hbr1.lt
  have hB2 := hb2
  have hbd2 := hbd1.under hx2
  by_cases hC : callP m s = 0
  · obtain ⟨hpl, hpi⟩ := HP.out hC
    have HPF := Hid.mk (file_only hC hpl hpi)
    have HV : Hid (syncP m s = { m with fInodes := updI m.fInodes p sureI }) := by show _ = _; unfold syncP; rw [if_pos hC, HPF.out]
    obtain ⟨g, cap, hv, hgG, hgl⟩ := ownS.shape HO0.out (by omega)
    simp only [Value.slice.injEq, true_and] at hv
    obtain ⟨rfl, rfl⟩ := hv
    obtain ⟨cs3, Fk, o3, f3, n3, c3, z3⟩ := ownS.cells oInode_good HO0.out hpl
    obtain ⟨v3, F3, rfl, i3, b3, s3, rfl⟩ := o3
    obtain ⟨a3, l3, rfl, _⟩ := b3.read
    have k1 := c3 1 _ rfl
    have k2 := c3 2 _ rfl
    have r1 := z3 (p * 3 + 1)
    have r2 := z3 (p * 3 + 2)
    have hge1 := HGE.out g (by simp [hgG])
    have hdl : m.fInodes[p].fData.length ≤ 1048576 := by have h1 := sumW_le (f := wInode) hpl; have h2 : wInode m.fInodes[p] = m.fInodes[p].fData.length := rfl; omega
    obtain ⟨dn, hdn⟩ : ∃ dn, m.fInodes[p].fData.length = dn := ⟨_, rfl⟩
    rw [hdn] at k1 hdl
    have HDN := Hid.mk hdn
    have HPL := Hid.mk hpl
    have hpn : (0 : Int) ≤ (p : Int) := by omega
    have hpn2 : (p : Int) < (m.fInodes.length : Int) := by omega
    rw [hC]
    have HB2 := Hid.mk hb2
    have HBR2 := Hid.mk hbr2
    clear hdn c3 z3 n3 hbd1 hbr1 hbr2 hbd2 y0 y1 y2 y3 hpi hb2 hB2
    go_wp2_with fail
    obtain ⟨wo, hwo⟩ : ∃ wo, wo = w2.alloc (.cells #[.slice (some ⟨g, 0, none⟩) m.fInodes.length e0, .slice d1 m.fNames.length e1, .slice d2 m.fSafe.length e2, .int .i64 m.fNext] 27) := ⟨_, rfl⟩
    have hbo : Below w2.heap.size w2 wo := by rw [hwo]; exact (Below.refl _ _).alloc (Nat.le_refl _) _
    have hwb : Bw wo w2.heap.size 27 [.slice (some ⟨g, 0, none⟩) m.fInodes.length e0, .slice d1 m.fNames.length e1, .slice d2 m.fSafe.length e2, .int .i64 m.fNext] := by rw [hwo]; exact Bw.new _ _ _
    rw [← hwo]
    clear hwo
    have k1o := (hbo.cell (p := ⟨g, p * 3 + 1, none⟩) hgl).trans k1
    have k2o := (hbo.cell (p := ⟨g, p * 3 + 2, none⟩) hgl).trans k2
    have r2o := (hbo.frozen (p := ⟨g, p * 3 + 2, none⟩) hgl).trans r2
    have x0 := hwb.cell 0 _ rfl
    clear k1 k2 r2 r1
    have HG1 : Hid (g ≠ w2.heap.size) := by show _ ≠ _; omega
    refine wp_region_held_drew (S := fun W => W.cell? ⟨w2.heap.size, 0, none⟩ = some (.slice (some ⟨g, 0, none⟩) m.fInodes.length e0) ∧ W.cell? ⟨g, p * 3 + 1, none⟩ = some (.slice a3 dn l3) ∧ Turn [g] wo W) (by kernel_rfl) (⟨x0, k1o, Turn.ofBelow (Below.drew (Below.refl _ _))⟩) (fun hHeld => ?_)
    refine wpAnyH_take (i := 0) (oi := ⟨some 19, .fieldAddr 27 (.tmp 8) 0, 0, "l02_files.go:144", #[], none⟩) (v := ?v1) rfl (by kernel_rfl) (by kernel_rfl) (by kernel_rfl) (fun _ _ _ h => h) (Or.inl ⟨by rfl, ?hy1⟩) (by assumption) ?rest1
    case hy1 => (intro w hSw; (try dsimp only at hSw); go_simp; try (with_reducible rfl))
    try simp only [Act.put, List.setIfInBounds_toArray, List.set_cons_zero, List.set_cons_succ]
    refine wpAnyH_take (i := 1) (oi := ⟨some 20, .load 24 (.tmp 19), 24, "l02_files.go:144", #[⟨0, .data⟩], none⟩) (v := ?v2) rfl (by kernel_rfl) (by kernel_rfl) (by kernel_rfl) (fun _ _ _ h => h) (Or.inl ⟨by rfl, ?hy2⟩) (by assumption) ?rest2
    case hy2 => (intro w hSw; (try dsimp only at hSw); go_simp; try (with_reducible rfl))
    try simp only [Act.put, List.setIfInBounds_toArray, List.set_cons_zero, List.set_cons_succ]
    refine wpAnyH_take (i := 2) (oi := ⟨some 21, .move (.tmp 6), 3, "l02_files.go:144", #[], none⟩) (v := ?v3) rfl (by kernel_rfl) (by kernel_rfl) (by kernel_rfl) (fun _ _ _ h => h) (Or.inl ⟨by rfl, ?hy3⟩) (by assumption) ?rest3
    case hy3 => (intro w hSw; (try dsimp only at hSw); go_simp; try (with_reducible rfl))
    try simp only [Act.put, List.setIfInBounds_toArray, List.set_cons_zero, List.set_cons_succ]
    refine wpAnyH_take (i := 3) (oi := ⟨some 22, .fieldAddr 27 (.tmp 8) 0, 0, "l02_files.go:144", #[], none⟩) (v := ?v4) rfl (by kernel_rfl) (by kernel_rfl) (by kernel_rfl) (fun _ _ _ h => h) (Or.inl ⟨by rfl, ?hy4⟩) (by assumption) ?rest4
    case hy4 => (intro w hSw; (try dsimp only at hSw); go_simp; try (with_reducible rfl))
    try simp only [Act.put, List.setIfInBounds_toArray, List.set_cons_zero, List.set_cons_succ]
    refine wpAnyH_take (i := 4) (oi := ⟨some 23, .load 24 (.tmp 22), 24, "l02_files.go:144", #[⟨3, .data⟩], none⟩) (v := ?v5) rfl (by kernel_rfl) (by kernel_rfl) (by kernel_rfl) (fun _ _ _ h => h) (Or.inl ⟨by rfl, ?hy5⟩) (by assumption) ?rest5
    case hy5 => (intro w hSw; (try dsimp only at hSw); go_simp; try (with_reducible rfl))
    try simp only [Act.put, List.setIfInBounds_toArray, List.set_cons_zero, List.set_cons_succ]
    refine wpAnyH_take (i := 5) (oi := ⟨some 24, .move (.tmp 6), 3, "l02_files.go:144", #[], none⟩) (v := ?v6) rfl (by kernel_rfl) (by kernel_rfl) (by kernel_rfl) (fun _ _ _ h => h) (Or.inl ⟨by rfl, ?hy6⟩) (by assumption) ?rest6
    case hy6 => (intro w hSw; (try dsimp only at hSw); go_simp; try (with_reducible rfl))
    try simp only [Act.put, List.setIfInBounds_toArray, List.set_cons_zero, List.set_cons_succ]
    refine wpAnyH_take (i := 6) (oi := ⟨some 25, .indexAddr 24 (.tmp 23) (.tmp 24), 0, "l02_files.go:144", #[⟨4, .data⟩, ⟨5, .data⟩], none⟩) (v := ?v7) rfl (by kernel_rfl) (by kernel_rfl) (by kernel_rfl) (fun _ _ _ h => h) (Or.inl ⟨by rfl, ?hy7⟩) (by assumption) ?rest7
    case hy7 => (intro w hSw; (try dsimp only at hSw); go_simp; try (with_reducible rfl))
    try simp only [Act.put, List.setIfInBounds_toArray, List.set_cons_zero, List.set_cons_succ]
    refine wpAnyH_take (i := 7) (oi := ⟨some 26, .fieldAddr 69 (.tmp 25) 1, 0, "l02_files.go:144", #[⟨6, .data⟩], none⟩) (v := ?v8) rfl (by kernel_rfl) (by kernel_rfl) (by kernel_rfl) (fun _ _ _ h => h) (Or.inl ⟨by rfl, ?hy8⟩) (by assumption) ?rest8
    case hy8 => (intro w hSw; (try dsimp only at hSw); go_simp; try (with_reducible rfl))
    try simp only [Act.put, List.setIfInBounds_toArray, List.set_cons_zero, List.set_cons_succ]
    refine wpAnyH_take (i := 8) (oi := ⟨some 27, .load 22 (.tmp 26), 22, "l02_files.go:144", #[⟨7, .data⟩], none⟩) (v := ?v9) rfl (by kernel_rfl) (by kernel_rfl) (by kernel_rfl) (fun _ _ _ h => h) (Or.inl ⟨by rfl, ?hy9⟩) (by assumption) ?rest9
    case hy9 => (intro w hSw; (try dsimp only at hSw); go_simp; try (with_reducible rfl))
    try simp only [Act.put, List.setIfInBounds_toArray, List.set_cons_zero, List.set_cons_succ]
    refine wpAnyH_take (i := 9) (oi := ⟨some 28, .call { callee := .builtin .len, args := #[.tmp 27], argTypes := #[22] }, 3, "l02_files.go:144", #[⟨8, .data⟩], none⟩) (v := ?v10) rfl (by kernel_rfl) (by kernel_rfl) (by kernel_rfl) (fun _ _ _ h => h) (Or.inl ⟨by rfl, ?hy10⟩) (by assumption) ?rest10
    case hy10 => (intro w hSw; (try dsimp only at hSw); go_simp; try (with_reducible rfl))
    try simp only [Act.put, List.setIfInBounds_toArray, List.set_cons_zero, List.set_cons_succ]
    refine wpAnyH_take (i := 10) (oi := ⟨some 29, .indexAddr 24 (.tmp 20) (.tmp 21), 0, "l02_files.go:144", #[⟨1, .data⟩, ⟨2, .data⟩, ⟨0, .phase⟩, ⟨1, .phase⟩, ⟨2, .phase⟩, ⟨3, .phase⟩, ⟨4, .phase⟩, ⟨5, .phase⟩, ⟨6, .phase⟩, ⟨7, .phase⟩, ⟨8, .phase⟩, ⟨9, .phase⟩], none⟩) (v := ?v11) rfl (by kernel_rfl) (by kernel_rfl) (by kernel_rfl) (fun _ _ _ h => h) (Or.inl ⟨by rfl, ?hy11⟩) (by assumption) ?rest11
    case hy11 => (intro w hSw; (try dsimp only at hSw); go_simp; try (with_reducible rfl))
    try simp only [Act.put, List.setIfInBounds_toArray, List.set_cons_zero, List.set_cons_succ]
    refine wpAnyH_take (i := 11) (oi := ⟨some 30, .fieldAddr 69 (.tmp 29) 2, 0, "l02_files.go:144", #[⟨10, .data⟩, ⟨0, .phase⟩, ⟨1, .phase⟩, ⟨2, .phase⟩, ⟨3, .phase⟩, ⟨4, .phase⟩, ⟨5, .phase⟩, ⟨6, .phase⟩, ⟨7, .phase⟩, ⟨8, .phase⟩, ⟨9, .phase⟩], none⟩) (v := ?v12) rfl (by kernel_rfl) (by kernel_rfl) (by kernel_rfl) (fun _ _ _ h => h) (Or.inl ⟨by rfl, ?hy12⟩) (by assumption) ?rest12
    case hy12 => (intro w hSw; (try dsimp only at hSw); go_simp; try (with_reducible rfl))
    try simp only [Act.put, List.setIfInBounds_toArray, List.set_cons_zero, List.set_cons_succ]
    refine wpAnyH_ready (rs := [12]) (by kernel_rfl) (by simp) ?_
    refine AllReadyH.cons (o := ⟨none, .store 3 (.tmp 30) (.tmp 28), 0, "l02_files.go:144", #[⟨11, .data⟩, ⟨9, .data⟩, ⟨0, .phase⟩, ⟨1, .phase⟩, ⟨2, .phase⟩, ⟨3, .phase⟩, ⟨4, .phase⟩, ⟨5, .phase⟩, ⟨6, .phase⟩, ⟨7, .phase⟩, ⟨8, .phase⟩, ⟨9, .phase⟩], none⟩) rfl (fun K hK => ?_) AllReadyH.nil
    go_simp
    go_simp
    refine hK.out _ _ (⟨(World.cell?_setCell_other _ _ _ _ (fun h => HG1.out (congrArg Addr.block h))).trans x0, (World.cell?_setCell_other _ _ _ _ (fun h => by have := congrArg Addr.off h; simp at this)).trans k1o, Turn.drew (Turn.setCell (F := [g]) (a := wo) (b := wo) (p := ⟨g, p * 3 + 2, none⟩) (Turn.refl _ _) (by simp) (.int .i64 dn))⟩) (fun hHeld => ?_)
    clear hK K
    try simp only [Act.put, List.setIfInBounds_toArray, List.set_cons_zero, List.set_cons_succ]
    refine wpAnyH_done (by kernel_rfl) ?_ _
    obtain ⟨w3, hw3⟩ : ∃ w3, w3 = (wo.setCell ⟨g, p * 3 + 2, none⟩ (.int .i64 dn)).drew := ⟨_, rfl⟩
    have hT3 : Turn [g] wo w3 := by rw [hw3]; exact Turn.drew (Turn.setCell (F := [g]) (a := wo) (b := wo) (p := ⟨g, p * 3 + 2, none⟩) (Turn.refl _ _) (by simp) _)
    have hwb3 := hwb.turn hT3 (by simp; omega)
    have hbr3 := (HBR2.out.under hbo).turn hT3 (by simp; omega)
    have hB3 : Below w.heap.size w w3 := (bthen HB2.out hbo).trans (hT3.below (fun k hk => by simp at hk; have := HB2.out.size; omega) (bthen HB2.out hbo).size)
    have HPL2 := HPL
    have hod : ∃ F', oDisk w3 [.slice (some ⟨g, 0, none⟩) m.fInodes.length e0, .slice d1 m.fNames.length e1, .slice d2 m.fSafe.length e2, .int .i64 m.fNext] (syncP m s) F' ∧ F'.Nodup ∧ ∀ b, b ∈ F' → b ∈ G0 ++ G1 ++ G2 := by
      have hfr : ∀ b, b ∈ G0 ++ G1 ++ G2 → b < w2.heap.size := fun b hb => HLT.out b (by simpa using hb)
      have q0 := ownS.frame (w' := wo) oInode_good HO0.out (fun b hb => hbo.block b (hfr b (by simp [hb])))
      have q1 := ownS.frame (w' := wo) oEntry_good HO1.out (fun b hb => hbo.block b (hfr b (by simp [hb])))
      have q2 := ownS.frame (w' := wo) oEntry_good HO2.out (fun b hb => hbo.block b (hfr b (by simp [hb])))
      have hsf : ∀ n : MInode, n.fData.length = dn → (sureI n).fSure = (dn : Int) := fun n h => by unfold sureI; simp [h]
      obtain ⟨F', o1, o2, o3, _⟩ := oDisk_inode q0 q1 q2 hnx HN.out HPL.out (i := 2) (by omega) (.int .i64 dn) sureI [] (fun b hb => by cases hb) (fun cs Fk h hN => by
        obtain ⟨v, F, rfl, q1, q2, q3, rfl⟩ := h
        refine ⟨F ++ [], ⟨v, F, ?_, q1, q2, ?_, rfl⟩, hN, fun b hb => .inl hb⟩
        · rw [hsf _ HDN.out]
          rfl
        · rw [hsf _ HDN.out]
          exact WalkArith.wf_i64 (by omega))
      refine ⟨F', ?_, o2, fun b hb => ?_⟩
      · rw [HV.out, hw3]
        exact o1
      · rcases o3 b hb with h | h
        · exact h
        · cases h
    obtain ⟨F3x, hO3, hN3, hS3⟩ := hod
    have hG3 : ∀ b, b ∈ F3x → w.heap.size + 2 ≤ b := fun b hb => by have := HGE.out b (by simpa using hS3 b hb); have := hb1.size; omega
    have HCz := Hid.mk hC
    rw [← hw3]
    clear hw3 hC hHeld x0 k1o k2o r2o
    have zo0 := hwb3.cell 0 _ rfl
    have ze0 := hbr3.cell 0 _ rfl
    have zf0 := hbr3.free 0
    have zo1 := hwb3.cell 1 _ rfl
    have ze1 := hbr3.cell 1 _ rfl
    have zf1 := hbr3.free 1
    have zo2 := hwb3.cell 2 _ rfl
    have ze2 := hbr3.cell 2 _ rfl
    have zf2 := hbr3.free 2
    have zo3 := hwb3.cell 3 _ rfl
    have ze3 := hbr3.cell 3 _ rfl
    have zf3 := hbr3.free 3
    have hTf := turn4 w3 (w.heap.size + 1) (.slice (some ⟨g, 0, none⟩) m.fInodes.length e0) (.slice d1 m.fNames.length e1) (.slice d2 m.fSafe.length e2) (.int .i64 m.fNext)
    have HTf := Hid.mk hTf
    have HBf := Hid.mk hB3
    clear hTf
    go_wp2_with fail
    refine bodyPost_ret (v := .tuple #[.agg #[.slice (some ⟨g, 0, none⟩) m.fInodes.length e0, .slice d1 m.fNames.length e1, .slice d2 m.fSafe.length e2, .int .i64 m.fNext], .int .i64 0]) (by simp [results, Try.results19, go_sem, *]) rfl ⟨[.slice (some ⟨g, 0, none⟩) m.fInodes.length e0, .slice d1 m.fNames.length e1, .slice d2 m.fSafe.length e2, .int .i64 m.fNext], F3x, by rw [HCz.out], ?_, hN3, ?_, ?_⟩
    · exact oDisk_good.frame (hO3) (fun b hb => HTf.out.block b (oDisk_good.lt (hO3) b hb) (by intro h; simp at h; have := hG3 b hb; omega))
    · intro b hb
      have := hG3 b hb
      omega
    · exact HBf.out.trans (HTf.out.below (fun k hk => by simp at hk; omega) HBf.out.size)
  · have HV : Hid (syncP m s = m) := by show _ = _; unfold syncP; rw [if_neg hC]
    have hcn : (callP m s == 0) = false := beq_eq_false_iff_ne.2 hC
    clear HP
    obtain ⟨cp, hcp⟩ : ∃ cp, callP m s = cp := ⟨_, rfl⟩
    rw [hcp] at hcn ⊢
    have HCP := Hid.mk hcp
    clear hcp hC
    have ze0 := hbr2.cell 0 _ rfl
    have zf0 := hbr2.free 0
    have ze1 := hbr2.cell 1 _ rfl
    have zf1 := hbr2.free 1
    have ze2 := hbr2.cell 2 _ rfl
    have zf2 := hbr2.free 2
    have ze3 := hbr2.cell 3 _ rfl
    have zf3 := hbr2.free 3
    have hlt0 := hbr2.lt
    have hO3 : oDisk w2 [.slice d0 m.fInodes.length e0, .slice d1 m.fNames.length e1, .slice d2 m.fSafe.length e2, .int .i64 m.fNext] (syncP m s) (G0 ++ G1 ++ G2 ++ []) := by rw [HV.out]; exact HO.out
    have hG3 : ∀ b, b ∈ G0 ++ G1 ++ G2 ++ [] → w.heap.size + 2 ≤ b := fun b hb => by have := HGE.out b hb; omega
    have HBf := Hid.mk hb2
    have HO3 := Hid.mk hO3
    clear hO3
    go_wp2_with fail
    refine bodyPost_ret (v := .tuple #[.agg #[.slice d0 m.fInodes.length e0, .slice d1 m.fNames.length e1, .slice d2 m.fSafe.length e2, .int .i64 m.fNext], .int .i64 cp]) (by simp [results, Try.results19, go_sem, *]) rfl ⟨[.slice d0 m.fInodes.length e0, .slice d1 m.fNames.length e1, .slice d2 m.fSafe.length e2, .int .i64 m.fNext], G0 ++ G1 ++ G2 ++ [], by first | rfl | rw [HCP.out], ?_, HN.out, ?_, ?_⟩
    · exact oDisk_good.frame HO3.out (fun b hb => (show Turn [w.heap.size + 1] w2 _ from by repeat (first | with_reducible exact Turn.refl _ _ | with_reducible refine Turn.setCell ?_ (by simp) _ | with_reducible refine Turn.alloc ?_ _ | with_reducible refine Turn.drew ?_)).block b (oDisk_good.lt HO3.out b hb) (by intro h; simp at h; have := hG3 b hb; omega))
    · intro b hb
      have := hG3 b hb
      omega
    · exact HBf.out.trans ((show Turn [w.heap.size + 1] w2 _ from by repeat (first | with_reducible exact Turn.refl _ _ | with_reducible refine Turn.setCell ?_ (by simp) _ | with_reducible refine Turn.alloc ?_ _ | with_reducible refine Turn.drew ?_)).below (fun k hk => by simp at hk; omega) HBf.out.size)

end Go.Proofs.Ytcipekagllikjaa
