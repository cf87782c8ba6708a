/-
  The specification's Rename.
-/
import Derived.Test.YtcbhmbgmeodjdaaEnds
import Derived.Test.YtcbhmbgmeodjdaaWithL
import Derived.Test.YtcbhmbgmeodjdaaWithF
import Derived.Test.YtcbhmbgmeodjdaaDskU
import Derived.Test.YtcbhmbgmeodjdaaDskT
import Derived.Test.YtcbhmbgmeodjdaaDskG
namespace Go.Proofs.Ytcbhmbgmeodjdaa
open Go.RowKit Go.Maps
set_option linter.unusedVariables false
set_option linter.unusedSimpArgs false
set_option maxRecDepth 10000

set_option maxHeartbeats 4000000 in
theorem specRename_c (cs : List Value) (m : MDisk) (s t : ByteArray) (w : World) (hr : rDisk w.heap.size w cs m) (hs : s.size ≤ 9223372036854775807) (ht : t.size ≤ 9223372036854775807) (hw : wDisk m ≤ 1048576) (hw1 : s.size ≤ 1048576) (hwt1 : t.size ≤ 1048576) :
    Calls Try.prog 25 #[.agg cs.toArray, .string s, .string t] w fun e w' => ∃ cs' : List Value, e = .returned (.tuple #[.agg cs'.toArray, .int .i64 (renameC m s t)]) ∧ rDisk w'.heap.size w' cs' (renameP m s t) ∧ Below w.heap.size w w' := by
  have hq := hr
  obtain ⟨a0, c0, a1, c1, a2, c2, rfl, hI, hNm, hSf, hnx, _⟩ := hq
  have hw2 : m.fInodes.length + sumW wInode m.fInodes + (m.fNames.length + sumW wEntry m.fNames) + (m.fSafe.length + sumW wEntry m.fSafe) ≤ 1048576 := hw
  have HW := Hid.mk hw
  have HR := Hid.mk hr
  clear hr hI hNm hSf hw
  go_enter Try.func25, Try.ntmps25
  go_wp2_with fail
  obtain ⟨wq, hwq⟩ : ∃ wq, wq = ((w.alloc (.cells #[.slice a0 m.fInodes.length c0, .slice a1 m.fNames.length c1, .slice a2 m.fSafe.length c2, .int .i64 m.fNext] 27)).alloc (.cells #[.slice none 0 0, .slice none 0 0, .slice none 0 0, .int .i64 0] 27)) := ⟨_, rfl⟩
  have hbW : Below w.heap.size w wq := by rw [hwq]; exact Below.alloc (Below.alloc (Below.refl _ _) (by exact Nat.le_refl _) _) (by simp; try omega) _
  have hbd : Bw wq (w.heap.size) 27 [.slice a0 m.fInodes.length c0, .slice a1 m.fNames.length c1, .slice a2 m.fSafe.length c2, .int .i64 m.fNext] := by rw [hwq]; exact Bw.alloc (Bw.new' _ _ _ (by simp)) _
  have hbr : Bw wq (w.heap.size + 1) 27 [.slice none 0 0, .slice none 0 0, .slice none 0 0, .int .i64 0] := by rw [hwq]; exact Bw.new' _ _ _ (by simp)
  rw [← hwq]
  clear hwq
  refine (l2Copy_any _ m wq (rDisk_good.mono (rDisk_good.below HR.out hbW) hbW.size) HW.out).mono ?_
  rintro e w1 ⟨cs2, F2, rfl, ho2, hN2, hge2, hx1⟩
  obtain ⟨d0, e0, d1, e1, d2, e2, G0, G1, G2, rfl, o0, o1, o2, _, rfl⟩ := oDisk_cells ho2
  have HO0 := Hid.mk o0
  have HO1 := Hid.mk o1
  have HO2 := Hid.mk o2
  have HO := Hid.mk ho2
  have HN := Hid.mk hN2
  have HGE : Hid (∀ b, b ∈ G0 ++ G1 ++ G2 ++ [] → wq.heap.size ≤ b) := hge2
  have HLT : Hid (∀ b, b ∈ G0 ++ G1 ++ G2 ++ [] → b < w1.heap.size) := fun b hb => oDisk_good.lt ho2 b hb
  clear ho2 hN2 hge2 o0 o1 o2
  have hb1 := bthen hbW hx1
  have hbd1 := hbd.under hx1
  have hbr1 := hbr.under hx1
  have hz1 := hx1.size
  have hzW := hbW.size
  have hl0 := hbr.lt
  have y0 := hbd1.cell 0 _ rfl
  have y1 := hbd1.cell 1 _ rfl
  have y2 := hbd1.cell 2 _ rfl
  have y3 := hbd1.cell 3 _ rfl
  have hl1 := hbd1.lt
  go_wp2_with fail
  obtain ⟨wa, hwa⟩ : ∃ wa, wa = w1.alloc (.cells #[.slice d0 m.fInodes.length e0, .slice d1 m.fNames.length e1, .slice d2 m.fSafe.length e2, .int .i64 m.fNext] 27) := ⟨_, rfl⟩
  have hba : Below w1.heap.size w1 wa := by rw [hwa]; exact (Below.refl _ _).alloc (Nat.le_refl _) _
  have hwb0 : Bw wa w1.heap.size 27 [.slice d0 m.fInodes.length e0, .slice d1 m.fNames.length e1, .slice d2 m.fSafe.length e2, .int .i64 m.fNext] := by rw [hwa]; exact Bw.new _ _ _
  rw [← hwa]
  clear hwa
  have hba1 := bthen hb1 hba
  have hbda := (hbd1.under hba)
  refine (l2Call_any _ m s wa (rDisk_good.mono (rDisk_good.below HR.out hba1) hba1.size) HW.out hs).mono ?_
  rintro e w2 ⟨rfl, hx2⟩
  have hb12 := bthen hba hx2
  have hb2 := bthen hba1 hx2
  have hwb := hwb0.under hx2
  have hbr2 := (hbr1.under hba).under hx2
  have hbd2 := hbda.under hx2
  clear hwb0 hbda hbd1 y0 y1 y2 y3
  have zo0 := hwb.cell 0 _ rfl
  have zo1 := hwb.cell 1 _ rfl
  have zo2 := hwb.cell 2 _ rfl
  have zo3 := hwb.cell 3 _ rfl
  by_cases h1 : callP m s = 1
  · have HCP : Hid (renameC m s t = 1) := by show _ = _; unfold renameC; rw [h1]; split <;> rfl
    have HV : Hid (renameP m s t = m) := by show _ = _; unfold renameP; rw [HCP.out]; rfl
    rw [h1]
    clear h1
    have ze0 := hbr2.cell 0 _ rfl
    have zf0 := hbr2.free 0
    have ze1 := hbr2.cell 1 _ rfl
    have zf1 := hbr2.free 1
    have ze2 := hbr2.cell 2 _ rfl
    have zf2 := hbr2.free 2
    have ze3 := hbr2.cell 3 _ rfl
    have zf3 := hbr2.free 3
    have hlt0 := hbr2.lt
    have hO3 : oDisk w2 [.slice d0 m.fInodes.length e0, .slice d1 m.fNames.length e1, .slice d2 m.fSafe.length e2, .int .i64 m.fNext] (renameP m s t) (G0 ++ G1 ++ G2 ++ []) := by rw [HV.out]; exact oDisk_good.frame HO.out (fun b hb => hb12.block b (HLT.out b hb))
    have hG3 : ∀ b, b ∈ G0 ++ G1 ++ G2 ++ [] → w.heap.size + 2 ≤ b := fun b hb => by have := HGE.out b hb; omega
    have HBf := Hid.mk hb2
    have HO3 := Hid.mk hO3
    clear hO3
    go_wp2_with fail
    refine bodyPost_ret (v := .tuple #[.agg #[.slice d0 m.fInodes.length e0, .slice d1 m.fNames.length e1, .slice d2 m.fSafe.length e2, .int .i64 m.fNext], .int .i64 1]) (by simp [results, Try.results25, go_sem, *]) rfl ⟨[.slice d0 m.fInodes.length e0, .slice d1 m.fNames.length e1, .slice d2 m.fSafe.length e2, .int .i64 m.fNext], by first | rfl | rw [HCP.out], ?_, ?_⟩
    · exact oDisk_good.read (oDisk_good.frame HO3.out (fun b hb => (show Turn [w.heap.size + 1] w2 _ from by repeat (first | with_reducible exact Turn.refl _ _ | with_reducible refine Turn.setCell ?_ (by simp) _ | with_reducible refine Turn.alloc ?_ _ | with_reducible refine Turn.drew ?_)).block b (oDisk_good.lt HO3.out b hb) (by intro h; simp at h; have := hG3 b hb; omega)))
    · exact HBf.out.trans ((show Turn [w.heap.size + 1] w2 _ from by repeat (first | with_reducible exact Turn.refl _ _ | with_reducible refine Turn.setCell ?_ (by simp) _ | with_reducible refine Turn.alloc ?_ _ | with_reducible refine Turn.drew ?_)).below (fun k hk => by simp at hk; omega) HBf.out.size)
  have hcn1 : (callP m s == 1) = false := beq_eq_false_iff_ne.2 h1
  by_cases hN0 : nameOk t = true
  · have HRC : Hid (renameC m s t = callP m s) := by show _ = _; unfold renameC; rw [if_pos hN0]
    have hNt := hN0
    by_cases hC : callP m s = 0
    · by_cases hst : s = t
      · subst hst
        have HCP : Hid (renameC m s s = 0) := by show _ = _; rw [HRC.out, hC]
        have HV : Hid (renameP m s s = m) := by show _ = _; unfold renameP; rw [if_pos HCP.out]; exact rename_self hC
        rw [hC]
        clear hC h1 hcn1 hN0
        go_wp2_with fail
        refine (l2Name_any s _ hs).mono ?_
        rintro e w9 ⟨rfl, hw9⟩
        have hw8 := hw9.symm
        clear hw9
        subst hw8
        rw [hNt]
        have ze0 := hbr2.cell 0 _ rfl
        have zf0 := hbr2.free 0
        have ze1 := hbr2.cell 1 _ rfl
        have zf1 := hbr2.free 1
        have ze2 := hbr2.cell 2 _ rfl
        have zf2 := hbr2.free 2
        have ze3 := hbr2.cell 3 _ rfl
        have zf3 := hbr2.free 3
        have hlt0 := hbr2.lt
        have hO3 : oDisk w2 [.slice d0 m.fInodes.length e0, .slice d1 m.fNames.length e1, .slice d2 m.fSafe.length e2, .int .i64 m.fNext] (renameP m s s) (G0 ++ G1 ++ G2 ++ []) := by rw [HV.out]; exact oDisk_good.frame HO.out (fun b hb => hb12.block b (HLT.out b hb))
        have hG3 : ∀ b, b ∈ G0 ++ G1 ++ G2 ++ [] → w.heap.size + 2 ≤ b := fun b hb => by have := HGE.out b hb; omega
        have HBf := Hid.mk hb2
        have HO3 := Hid.mk hO3
        clear hO3
        go_wp2_with fail
        refine bodyPost_ret (v := .tuple #[.agg #[.slice d0 m.fInodes.length e0, .slice d1 m.fNames.length e1, .slice d2 m.fSafe.length e2, .int .i64 m.fNext], .int .i64 0]) (by simp [results, Try.results25, go_sem, *]) rfl ⟨[.slice d0 m.fInodes.length e0, .slice d1 m.fNames.length e1, .slice d2 m.fSafe.length e2, .int .i64 m.fNext], by first | rfl | rw [HCP.out], ?_, ?_⟩
        · exact oDisk_good.read (oDisk_good.frame HO3.out (fun b hb => (show Turn [w.heap.size + 1] w2 _ from by repeat (first | with_reducible exact Turn.refl _ _ | with_reducible refine Turn.setCell ?_ (by simp) _ | with_reducible refine Turn.alloc ?_ _ | with_reducible refine Turn.drew ?_)).block b (oDisk_good.lt HO3.out b hb) (by intro h; simp at h; have := hG3 b hb; omega)))
        · exact HBf.out.trans ((show Turn [w.heap.size + 1] w2 _ from by repeat (first | with_reducible exact Turn.refl _ _ | with_reducible refine Turn.setCell ?_ (by simp) _ | with_reducible refine Turn.alloc ?_ _ | with_reducible refine Turn.drew ?_)).below (fun k hk => by simp at hk; omega) HBf.out.size)
      · have heb := str_ne hst
        have hgd := (call_good hC).1
        have hhn := (call_good hC).2.2
        have hrok := rename_ok (s := s) (t := t) hC hN0
        have HV : Hid (renameP m s t = keepD { m with fNames := renameN m s t } ∧ renameC m s t = 0) := by
          have h0 : renameC m s t = 0 := HRC.out.trans hC
          refine ⟨?_, h0⟩; unfold renameP renameD; rw [if_pos h0]
        have HE : Hid (endsD m { m with fNames := renameN m s t } = keepD { m with fNames := renameN m s t } ∧ endsC { m with fNames := renameN m s t } = 0) := by
          unfold renameD at hrok
          refine ⟨?_, ?_⟩ <;> simp only [endsD, endsC, hrok, if_true]
        have hDR := diskOk_iff.1 hgd
        have hRi : Rise m.fNames := hDR.names.rise
        have hsub : (without m.fNames s).Sublist m.fNames := List.filter_sublist
        have HRW : Hid (Rise (without m.fNames s)) := hRi.sublist hsub
        have h3 := renameN_ok hDR hhn hN0
        have hwt := ok_weight hgd
        have h7 := sumW_names (fun e he => (h3.1.1 e he).2)
        have h8 := h3.2
        have HRL : Hid ((renameN m s t).length ≤ 1000) := by show _ ≤ _; omega
        have HWK1 : Hid (wDisk { m with fNames := renameN m s t } ≤ 16777216) := by
          show _ ≤ _
          rw [wDisk_eq]
          simp only
          omega
        have HLW : Hid ((without m.fNames s).length ≤ 1048576) := by show _ ≤ _; have := hsub.length_le; omega
        rw [hC]
        clear hC h1 hcn1 hN0 hrok hDR hRi hsub h3 hwt h7 h8
        obtain ⟨hk, hid, _⟩ := file_there hgd hhn
        have hnz : nameZ m.fNames s = (nameAt m.fNames s : Int) := by unfold nameZ; rw [hhn, if_pos rfl]
        have hlfn : ∀ W', Below w2.heap.size w2 W' → LeafL 2 rEntry W'.heap.size W' d1 e1 m.fNames := fun W' hb => ownS.leaf oEntry_good (ownS.frame oEntry_good HO1.out (fun b hbF => (bthen hb12 hb).block b (HLT.out b (by simp [hbF]))))
        obtain ⟨b1, o1, rfl, hB1, cs1, hcl1, hcell1, rfl, hrest1⟩ := (hlfn _ (Below.refl _ _)).2.2 (nameAt m.fNames s) hk
        have k1e := hcell1 1 _ rfl
        have HWF : Hid ((Lit.int .i64 (idOf m.fNames s)).wf = true) := by show _ = _; rw [hid]; exact hrest1.2.1
        rw [← hid] at k1e
        have q1 : ∀ W', Below w2.heap.size w2 W' → W'.cell? ⟨b1, o1 + nameAt m.fNames s * 2 + 1, none⟩ = some (.int .i64 (idOf m.fNames s)) := fun W' hb => (hb.cell (p := ⟨b1, o1 + nameAt m.fNames s * 2 + 1, none⟩) hB1).trans k1e
        have hCt := fun W' (hb : Below w2.heap.size w2 W') => l2At_any (some ⟨b1, o1, none⟩) _ e1 m.fNames s W' W'.heap.size rfl (by omega) (hlfn W' hb).2.2
        simp only [hnz] at hCt
        have hu1 : (0 : Int) ≤ (nameAt m.fNames s : Int) := by omega
        have hu2 : (nameAt m.fNames s : Int) < (m.fNames.length : Int) := by omega
        have po1 : ∀ W', Below w2.heap.size w2 W' → W'.cell? ⟨w1.heap.size, 1, none⟩ = some (.slice (some ⟨b1, o1, none⟩) m.fNames.length e1) := fun W' hb => (hwb.under hb).cell 1 _ rfl
        clear hlfn hcell1 hcl1 k1e hrest1 hid hnz
        have HKn := Hid.mk hk
        clear hk
        obtain ⟨na, hna⟩ : ∃ na, na = nameAt m.fNames s := ⟨_, rfl⟩
        obtain ⟨idn, hidn⟩ : ∃ idn, idn = idOf m.fNames s := ⟨_, rfl⟩
        rw [← hna] at q1 hCt hu1 hu2
        rw [← hidn] at q1
        have HIDN := Hid.mk hidn
        clear hna hidn
        go_wp2_with fail
        refine (l2Name_any t _ ht).mono ?_
        rintro e w9 ⟨rfl, hw9⟩
        have hw8 := hw9.symm
        clear hw9
        subst hw8
        rw [hNt]
        go_wp2_with fail
        refine wp_region_held_drew (S := fun W' => Below w2.heap.size w2 W') (by kernel_rfl) (Below.drew (Below.refl _ _)) (fun hHeld => ?_)
        refine wpAnyH_take (i := 0) (oi := ⟨some 35, .fieldAddr 27 (.tmp 8) 1, 0, "l02_files.go:198", #[], none⟩) (v := ?v1) rfl (by kernel_rfl) (by kernel_rfl) (by kernel_rfl) (fun _ _ _ h => h) (Or.inl ⟨by rfl, ?hy1⟩) (by assumption) ?rest1
        case hy1 => (intro w hSw; (try dsimp only at hSw); go_simp; try (with_reducible rfl))
        try simp only [Act.put, List.setIfInBounds_toArray, List.set_cons_zero, List.set_cons_succ]
        refine wpAnyH_take (i := 1) (oi := ⟨some 36, .load 25 (.tmp 35), 25, "l02_files.go:198", #[⟨0, .data⟩], none⟩) (v := ?v2) rfl (by kernel_rfl) (by kernel_rfl) (by kernel_rfl) (fun _ _ _ h => h) (Or.inl ⟨by rfl, ?hy2⟩) (by assumption) ?rest2
        case hy2 => (intro w hSw; (try dsimp only at hSw); go_simp; try (with_reducible rfl))
        try simp only [Act.put, List.setIfInBounds_toArray, List.set_cons_zero, List.set_cons_succ]
        refine wpAnyH_take (i := 2) (oi := ⟨some 37, .fieldAddr 27 (.tmp 8) 1, 0, "l02_files.go:198", #[], none⟩) (v := ?v3) rfl (by kernel_rfl) (by kernel_rfl) (by kernel_rfl) (fun _ _ _ h => h) (Or.inl ⟨by rfl, ?hy3⟩) (by assumption) ?rest3
        case hy3 => (intro w hSw; (try dsimp only at hSw); go_simp; try (with_reducible rfl))
        try simp only [Act.put, List.setIfInBounds_toArray, List.set_cons_zero, List.set_cons_succ]
        refine wpAnyH_take (i := 3) (oi := ⟨some 38, .load 25 (.tmp 37), 25, "l02_files.go:198", #[⟨2, .data⟩], none⟩) (v := ?v4) rfl (by kernel_rfl) (by kernel_rfl) (by kernel_rfl) (fun _ _ _ h => h) (Or.inl ⟨by rfl, ?hy4⟩) (by assumption) ?rest4
        case hy4 => (intro w hSw; (try dsimp only at hSw); go_simp; try (with_reducible rfl))
        try simp only [Act.put, List.setIfInBounds_toArray, List.set_cons_zero, List.set_cons_succ]
        refine wpAnyH_take (i := 4) (oi := ⟨some 39, .move (.tmp 1), 9, "l02_files.go:198", #[], none⟩) (v := ?v5) rfl (by kernel_rfl) (by kernel_rfl) (by kernel_rfl) (fun _ _ _ h => h) (Or.inl ⟨by rfl, ?hy5⟩) (by assumption) ?rest5
        case hy5 => (intro w hSw; (try dsimp only at hSw); go_simp; try (with_reducible rfl))
        try simp only [Act.put, List.setIfInBounds_toArray, List.set_cons_zero, List.set_cons_succ]
        refine wpAnyH_ready (rs := [5]) (by kernel_rfl) (by simp) ?_
        refine AllReadyH.cons (o := ⟨some 40, .call { callee := .value (.func 63), args := #[.tmp 38, .tmp 39], argTypes := #[25, 9] }, 3, "l02_files.go:198", #[⟨3, .data⟩, ⟨4, .data⟩], none⟩) rfl (fun K hK => ?_) AllReadyH.nil
        go_simp
        refine Calls.mono (hCt _ hHeld) ?_
        rintro e wy1 ⟨rfl, hw1⟩
        have hy1 := below_same hw1
        clear hw1
        go_wp2_with fail
        refine hK.out _ _ (bthen hHeld hy1) (fun hHeld => ?_)
        clear hK K
        try simp only [Act.put, List.setIfInBounds_toArray, List.set_cons_zero, List.set_cons_succ]
        refine wpAnyH_take (i := 6) (oi := ⟨some 41, .indexAddr 25 (.tmp 36) (.tmp 40), 0, "l02_files.go:198", #[⟨1, .data⟩, ⟨5, .data⟩], none⟩) (v := ?v6) rfl (by kernel_rfl) (by kernel_rfl) (by kernel_rfl) (fun _ _ _ h => h) (Or.inl ⟨by rfl, ?hy6⟩) (by assumption) ?rest6
        case hy6 => (intro w hSw; (try dsimp only at hSw); go_simp; try (with_reducible rfl))
        try simp only [Act.put, List.setIfInBounds_toArray, List.set_cons_zero, List.set_cons_succ]
        refine wpAnyH_take (i := 7) (oi := ⟨some 42, .fieldAddr 91 (.tmp 41) 1, 0, "l02_files.go:198", #[⟨6, .data⟩], none⟩) (v := ?v7) rfl (by kernel_rfl) (by kernel_rfl) (by kernel_rfl) (fun _ _ _ h => h) (Or.inl ⟨by rfl, ?hy7⟩) (by assumption) ?rest7
        case hy7 => (intro w hSw; (try dsimp only at hSw); go_simp; try (with_reducible rfl))
        try simp only [Act.put, List.setIfInBounds_toArray, List.set_cons_zero, List.set_cons_succ]
        refine wpAnyH_take (i := 8) (oi := ⟨some 43, .load 3 (.tmp 42), 3, "l02_files.go:198", #[⟨7, .data⟩], none⟩) (v := ?v8) rfl (by kernel_rfl) (by kernel_rfl) (by kernel_rfl) (fun _ _ _ h => h) (Or.inl ⟨by rfl, ?hy8⟩) (by assumption) ?rest8
        case hy8 => (intro w hSw; (try dsimp only at hSw); go_simp; try (with_reducible rfl))
        try simp only [Act.put, List.setIfInBounds_toArray, List.set_cons_zero, List.set_cons_succ]
        refine wpAnyH_take (i := 9) (oi := ⟨some 10, .assign (.tmp 43), 3, "l02_files.go:198", #[⟨8, .data⟩, ⟨5, .chain⟩, ⟨0, .phase⟩, ⟨1, .phase⟩, ⟨2, .phase⟩, ⟨3, .phase⟩, ⟨4, .phase⟩, ⟨5, .phase⟩, ⟨6, .phase⟩, ⟨7, .phase⟩, ⟨8, .phase⟩], none⟩) (v := ?v9) rfl (by kernel_rfl) (by kernel_rfl) (by kernel_rfl) (fun _ _ _ h => h) (Or.inl ⟨by rfl, ?hy9⟩) (by assumption) ?rest9
        case hy9 => (intro w hSw; (try dsimp only at hSw); go_simp; try (with_reducible rfl))
        try simp only [Act.put, List.setIfInBounds_toArray, List.set_cons_zero, List.set_cons_succ]
        refine wpAnyH_done (by kernel_rfl) ?_ _
        obtain ⟨wo, hwo⟩ : ∃ wo, wo = wy1 := ⟨_, rfl⟩
        rw [← hwo] at hHeld ⊢
        clear hwo hCt po1 q1 zo0 zo1 zo2 zo3
        have hbo := bthen hb12 hHeld
        have hb3 := bthen hb2 hHeld
        have hwbo := hwb.under hHeld
        have hbdo := hbd2.under hHeld
        have hbro := hbr2.under hHeld
        clear hwb hbd2 hbr2 hHeld
        have zo0 := hwbo.cell 0 _ rfl
        have zo1 := hwbo.cell 1 _ rfl
        have zo2 := hwbo.cell 2 _ rfl
        have zo3 := hwbo.cell 3 _ rfl
        have hlo := hwbo.lt
        have fo1 := hwbo.free 1
        go_wp2_with fail
        refine (l2Without_any (some ⟨b1, o1, none⟩) m.fNames.length e1 m.fNames s wo rfl (by omega) (ownS.leaf oEntry_good (ownS.frame oEntry_good HO1.out (fun b hbF => hbo.block b (HLT.out b (by simp [hbF])))))).mono ?_
        rintro e w3 ⟨r3, q3, F3, rfl, ho3, hg3, hx3⟩
        have HO3 := Hid.mk ho3
        clear ho3 hg3
        have hwb3 := hwbo.under hx3
        have hbd3 := hbdo.under hx3
        have hbr3 := hbro.under hx3
        have hbt3 := bthen hbo hx3
        have hbu3 := bthen hb3 hx3
        clear hwbo hbdo hbro zo0 zo1 zo2 zo3 fo1 hlo
        have zo0 := hwb3.cell 0 _ rfl
        have zo1 := hwb3.cell 1 _ rfl
        have zo2 := hwb3.cell 2 _ rfl
        have zo3 := hwb3.cell 3 _ rfl
        have hlo := hwb3.lt
        have fo1 := hwb3.free 1
        have HRN : Hid (withE (without m.fNames s) ⟨t, idn⟩ = renameN m s t) := by show _ = _; unfold renameN; rw [HIDN.out]
        go_wp2_with fail
        have hcall := l2With_any r3 _ q3 (without m.fNames s) ⟨t, idn⟩ w3 rfl HLW.out (ownS.leaf oEntry_good HO3.out) HRW.out ht (by rw [HIDN.out]; exact HWF.out)
        rw [HRN.out] at hcall
        refine hcall.mono ?_
        clear hcall
        rintro e w4 ⟨r4, q4, F4, rfl, ho4, hg4, hx4⟩
        have HO4 := Hid.mk ho4
        have HGS := Hid.mk hg4
        clear ho4 hg4
        have hwb4 := hwb3.under hx4
        have zf1 := hwb4.free 1
        have hl3 := hwb4.lt
        have hbd4 := hbd3.under hx4
        have hl3d := hbd4.lt
        have zd0 := hwb4.cell 0 _ rfl
        have zd1 := hwb4.cell 1 _ rfl
        have zd2 := hwb4.cell 2 _ rfl
        have zd3 := hwb4.cell 3 _ rfl
        have yd0 := hbd4.cell 0 _ rfl
        have yd1 := hbd4.cell 1 _ rfl
        have yd2 := hbd4.cell 2 _ rfl
        have yd3 := hbd4.cell 3 _ rfl
        clear zo0 zo1 zo2 zo3 fo1
        have hsz3 := hbt3.size
        go_wp2_with fail
        obtain ⟨ws, hws⟩ : ∃ ws, ws = w4.setCell ⟨w1.heap.size, 1, none⟩ (.slice r4 (renameN m s t).length q4) := ⟨_, rfl⟩
        have hTs : Turn [w1.heap.size] w4 ws := by rw [hws]; exact Turn.setCell (Turn.refl _ _) (by simp) _
        have hwbs : Bw ws w1.heap.size 27 [.slice d0 m.fInodes.length e0, .slice r4 (renameN m s t).length q4, .slice d2 m.fSafe.length e2, .int .i64 m.fNext] := by rw [hws]; exact hwb4.put 1 _
        have hbds := hbd4.turn hTs (by simp; omega)
        have hbrs := (hbr3.under hx4).turn hTs (by simp; omega)
        have hbu4 := bthen hbu3 hx4
        have hbt4 := bthen hbt3 hx4
        have hBs : Below w.heap.size w ws := hbu4.trans (hTs.below (fun k hk => by simp at hk; omega) hbu4.size)
        have hfr : ∀ b, b ∈ G0 ++ G1 ++ G2 ++ [] → ws.heap[b]? = w1.heap[b]? := fun b hb => by
          have h1 := HLT.out b hb
          rw [hTs.block b (by have := hbt4.size; omega) (by simp; omega), hbt4.block b h1]
        have t0 := ownS.frame (w' := ws) oInode_good HO0.out (fun b hb => hfr b (by simp [hb]))
        have t2 := ownS.frame (w' := ws) oEntry_good HO2.out (fun b hb => hfr b (by simp [hb]))
        have t1 := ownS.frame (w' := ws) oEntry_good HO4.out (fun b hb => hTs.block b (ownS.lt oEntry_good HO4.out b hb) (by intro h; simp at h; have := HGS.out b hb; omega))
        have HT0 := Hid.mk t0
        have HT1 := Hid.mk t1
        have HT2 := Hid.mk t2
        have HBS := Hid.mk hBs
        have HSUB : Hid (∀ b, b ∈ G0 ++ F4 ++ G2 → w.heap.size + 2 ≤ b) := by
          intro b hb
          rw [List.mem_append, List.mem_append] at hb
          rcases hb with (hb | hb) | hb
          · have := HGE.out b (by simp [hb]); omega
          · have := HGS.out b hb; omega
          · have := HGE.out b (by simp [hb]); omega
        rw [← hws]
        clear hws t0 t1 t2 hfr hTs zf1 zd0 zd1 zd2 zd3 yd0 yd1 yd2 yd3
        have zs0 := hwbs.cell 0 _ rfl
        have zs1 := hwbs.cell 1 _ rfl
        have zs2 := hwbs.cell 2 _ rfl
        have zs3 := hwbs.cell 3 _ rfl
        have ys0 := hbds.cell 0 _ rfl
        have ys1 := hbds.cell 1 _ rfl
        have ys2 := hbds.cell 2 _ rfl
        have ys3 := hbds.cell 3 _ rfl
        go_wp2_with fail
        refine (l2Ends_any _ d0 r4 d2 e0 q4 e2 m { m with fNames := renameN m s t } G0 _ G2 ws (rDisk_good.mono (rDisk_good.below HR.out HBS.out) HBS.out.size) HW.out HT0.out HT1.out HT2.out hnx HWK1.out (by have := HRL.out; simp only; omega)).mono ?_
        rintro e w5 ⟨cs4, F4, rfl, ho4, hF4, hx5⟩
        have hb5 := bthen HBS.out hx5
        have hbr5 := hbrs.under hx5
        have hl5 := hbr5.lt
        have hzE := HBS.out.size
        have hlE := hbrs.lt
        rw [HE.out.1] at ho4
        obtain ⟨q0, p0, q1, p1, q2, p2, E0, E1, E2, rfl, _, _, _, _, rfl⟩ := oDisk_cells ho4
        have hkey : ∀ W', Turn [w.heap.size + 1] w5 W' → rDisk W'.heap.size W' [.slice q0 (keepD { m with fNames := renameN m s t }).fInodes.length p0, .slice q1 (keepD { m with fNames := renameN m s t }).fNames.length p1, .slice q2 (keepD { m with fNames := renameN m s t }).fSafe.length p2, .int .i64 (keepD { m with fNames := renameN m s t }).fNext] (keepD { m with fNames := renameN m s t }) ∧ Below w.heap.size w W' := fun W' hT =>
          ⟨oDisk_good.read (oDisk_good.frame ho4 (fun b hb => hT.block b (oDisk_good.lt ho4 b hb) (fun h => by simp at h; rcases hF4 b hb with h2 | h2; (have := HSUB.out b h2; omega); omega))), hb5.trans (hT.below (fun k hk => by simp at hk; omega) hb5.size)⟩
        have HKEY := Hid.mk hkey
        clear hkey ho4 hF4
        have ze0 := hbr5.cell 0 _ rfl
        have ze1 := hbr5.cell 1 _ rfl
        have ze2 := hbr5.cell 2 _ rfl
        have ze3 := hbr5.cell 3 _ rfl
        have zf0 := hbr5.free 0
        have zf1 := hbr5.free 1
        have zf2 := hbr5.free 2
        have zf3 := hbr5.free 3
        have HEC : Hid (endsC { m with fNames := renameN m s t } = 0) := HE.out.2
        rw [HEC.out]
        go_wp2_with fail
        obtain ⟨h1, h3⟩ := HKEY.out _ (show Turn [w.heap.size + 1] w5 ((((w5.setCell ⟨w.heap.size + 1, 0, none⟩ (.slice q0 (keepD { m with fNames := renameN m s t }).fInodes.length p0)).setCell ⟨w.heap.size + 1, 1, none⟩ (.slice q1 (keepD { m with fNames := renameN m s t }).fNames.length p1)).setCell ⟨w.heap.size + 1, 2, none⟩ (.slice q2 (keepD { m with fNames := renameN m s t }).fSafe.length p2)).setCell ⟨w.heap.size + 1, 3, none⟩ (.int .i64 (keepD { m with fNames := renameN m s t }).fNext)) from turn4 _ _ _ _ _ _)
        exact bodyPost_ret (v := .tuple #[.agg #[.slice q0 (keepD { m with fNames := renameN m s t }).fInodes.length p0, .slice q1 (keepD { m with fNames := renameN m s t }).fNames.length p1, .slice q2 (keepD { m with fNames := renameN m s t }).fSafe.length p2, .int .i64 (keepD { m with fNames := renameN m s t }).fNext], .int .i64 0]) (by simp [results, Try.results25, go_sem, *]) rfl ⟨[.slice q0 (keepD { m with fNames := renameN m s t }).fInodes.length p0, .slice q1 (keepD { m with fNames := renameN m s t }).fNames.length p1, .slice q2 (keepD { m with fNames := renameN m s t }).fSafe.length p2, .int .i64 (keepD { m with fNames := renameN m s t }).fNext], by rw [HV.out.2], by rw [HV.out.1]; exact h1, h3⟩
    · have HCP : Hid (renameC m s t = callP m s) := HRC
      have HV : Hid (renameP m s t = m) := by show _ = _; unfold renameP; rw [HCP.out, if_neg hC]
      have hcn : (callP m s == 0) = false := beq_eq_false_iff_ne.2 hC
      obtain ⟨cp, hcp⟩ : ∃ cp, callP m s = cp := ⟨_, rfl⟩
      have hcn2 : (callP m s != 0) = true := bne_iff_ne.2 hC
      rw [hcp] at hcn hcn2 hcn1 HCP ⊢
      clear hcp hC h1 hN0 HRC
      go_wp2_with fail
      refine (l2Name_any t _ ht).mono ?_
      rintro e w9 ⟨rfl, hw9⟩
      have hw8 := hw9.symm
      clear hw9
      subst hw8
      rw [hNt]
      have ze0 := hbr2.cell 0 _ rfl
      have zf0 := hbr2.free 0
      have ze1 := hbr2.cell 1 _ rfl
      have zf1 := hbr2.free 1
      have ze2 := hbr2.cell 2 _ rfl
      have zf2 := hbr2.free 2
      have ze3 := hbr2.cell 3 _ rfl
      have zf3 := hbr2.free 3
      have hlt0 := hbr2.lt
      have hO3 : oDisk w2 [.slice d0 m.fInodes.length e0, .slice d1 m.fNames.length e1, .slice d2 m.fSafe.length e2, .int .i64 m.fNext] (renameP m s t) (G0 ++ G1 ++ G2 ++ []) := by rw [HV.out]; exact oDisk_good.frame HO.out (fun b hb => hb12.block b (HLT.out b hb))
      have hG3 : ∀ b, b ∈ G0 ++ G1 ++ G2 ++ [] → w.heap.size + 2 ≤ b := fun b hb => by have := HGE.out b hb; omega
      have HBf := Hid.mk hb2
      have HO3 := Hid.mk hO3
      clear hO3
      go_wp2_with fail
      refine bodyPost_ret (v := .tuple #[.agg #[.slice d0 m.fInodes.length e0, .slice d1 m.fNames.length e1, .slice d2 m.fSafe.length e2, .int .i64 m.fNext], .int .i64 cp]) (by simp [results, Try.results25, go_sem, *]) rfl ⟨[.slice d0 m.fInodes.length e0, .slice d1 m.fNames.length e1, .slice d2 m.fSafe.length e2, .int .i64 m.fNext], by first | rfl | rw [HCP.out], ?_, ?_⟩
      · exact oDisk_good.read (oDisk_good.frame HO3.out (fun b hb => (show Turn [w.heap.size + 1] w2 _ from by repeat (first | with_reducible exact Turn.refl _ _ | with_reducible refine Turn.setCell ?_ (by simp) _ | with_reducible refine Turn.alloc ?_ _ | with_reducible refine Turn.drew ?_)).block b (oDisk_good.lt HO3.out b hb) (by intro h; simp at h; have := hG3 b hb; omega)))
      · exact HBf.out.trans ((show Turn [w.heap.size + 1] w2 _ from by repeat (first | with_reducible exact Turn.refl _ _ | with_reducible refine Turn.setCell ?_ (by simp) _ | with_reducible refine Turn.alloc ?_ _ | with_reducible refine Turn.drew ?_)).below (fun k hk => by simp at hk; omega) HBf.out.size)
  · have hNt : nameOk t = false := Bool.eq_false_iff.2 hN0
    have HCP : Hid (renameC m s t = 1) := by show _ = _; unfold renameC; rw [if_neg hN0]
    have HV : Hid (renameP m s t = m) := by show _ = _; unfold renameP; rw [HCP.out]; rfl
    obtain ⟨cp, hcp⟩ : ∃ cp, callP m s = cp := ⟨_, rfl⟩
    rw [hcp] at hcn1 ⊢
    clear hcp h1 hN0
    go_wp2_with fail
    refine (l2Name_any t _ ht).mono ?_
    rintro e w9 ⟨rfl, hw9⟩
    have hw8 := hw9.symm
    clear hw9
    subst hw8
    rw [hNt]
    have ze0 := hbr2.cell 0 _ rfl
    have zf0 := hbr2.free 0
    have ze1 := hbr2.cell 1 _ rfl
    have zf1 := hbr2.free 1
    have ze2 := hbr2.cell 2 _ rfl
    have zf2 := hbr2.free 2
    have ze3 := hbr2.cell 3 _ rfl
    have zf3 := hbr2.free 3
    have hlt0 := hbr2.lt
    have hO3 : oDisk w2 [.slice d0 m.fInodes.length e0, .slice d1 m.fNames.length e1, .slice d2 m.fSafe.length e2, .int .i64 m.fNext] (renameP m s t) (G0 ++ G1 ++ G2 ++ []) := by rw [HV.out]; exact oDisk_good.frame HO.out (fun b hb => hb12.block b (HLT.out b hb))
    have hG3 : ∀ b, b ∈ G0 ++ G1 ++ G2 ++ [] → w.heap.size + 2 ≤ b := fun b hb => by have := HGE.out b hb; omega
    have HBf := Hid.mk hb2
    have HO3 := Hid.mk hO3
    clear hO3
    go_wp2_with fail
    refine bodyPost_ret (v := .tuple #[.agg #[.slice d0 m.fInodes.length e0, .slice d1 m.fNames.length e1, .slice d2 m.fSafe.length e2, .int .i64 m.fNext], .int .i64 1]) (by simp [results, Try.results25, go_sem, *]) rfl ⟨[.slice d0 m.fInodes.length e0, .slice d1 m.fNames.length e1, .slice d2 m.fSafe.length e2, .int .i64 m.fNext], by first | rfl | rw [HCP.out], ?_, ?_⟩
    · exact oDisk_good.read (oDisk_good.frame HO3.out (fun b hb => (show Turn [w.heap.size + 1] w2 _ from by repeat (first | with_reducible exact Turn.refl _ _ | with_reducible refine Turn.setCell ?_ (by simp) _ | with_reducible refine Turn.alloc ?_ _ | with_reducible refine Turn.drew ?_)).block b (oDisk_good.lt HO3.out b hb) (by intro h; simp at h; have := hG3 b hb; omega)))
    · exact HBf.out.trans ((show Turn [w.heap.size + 1] w2 _ from by repeat (first | with_reducible exact Turn.refl _ _ | with_reducible refine Turn.setCell ?_ (by simp) _ | with_reducible refine Turn.alloc ?_ _ | with_reducible refine Turn.drew ?_)).below (fun k hk => by simp at hk; omega) HBf.out.size)

end Go.Proofs.Ytcbhmbgmeodjdaa
