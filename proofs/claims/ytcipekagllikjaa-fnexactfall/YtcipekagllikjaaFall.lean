/-
  The program's Fall.
-/
import Derived.Test.YtcipekagllikjaaDatU
import Derived.Test.YtcipekagllikjaaSyDir
namespace Go.Proofs.Ytcipekagllikjaa
open Go.RowKit Go.Maps
set_option linter.unusedVariables false
set_option linter.unusedSimpArgs false
set_option maxRecDepth 10000

set_option maxHeartbeats 4000000 in
theorem implFall_c (cs : List Value) (m : MDisk) (kp : Int) (w : World) (hr : rDisk w.heap.size w cs m) (hkw : (Lit.int .i64 kp).wf = true) (hw : wDisk m ≤ 1048576) :
    Calls Try.prog 20 #[.agg cs.toArray, .int .i64 kp] w fun e w' => ∃ (cs' : List Value) (F : List Nat), e = .returned (.agg cs'.toArray) ∧ oDisk w' cs' (fallP m kp) F ∧ F.Nodup ∧ (∀ b, b ∈ F → w.heap.size ≤ b) ∧ Below w.heap.size w w' := by
  have hq := hr
  obtain ⟨a0, c0, a1, c1, a2, c2, rfl, hI, hNm, hSf, hnx, _⟩ := hq
  have hw2 : m.fInodes.length + sumW wInode m.fInodes + (m.fNames.length + sumW wEntry m.fNames) + (m.fSafe.length + sumW wEntry m.fSafe) ≤ 1048576 := hw
  have HW := Hid.mk hw
  have HR := Hid.mk hr
  have HI := Hid.mk hI
  have HSF := Hid.mk hSf
  clear hr hI hNm hSf hw
  have hkb : -9223372036854775808 ≤ kp ∧ kp ≤ 9223372036854775807 := by simpa [Lit.wf, IntKind.min, IntKind.max, IntKind.signed, IntKind.bits] using hkw
  obtain ⟨hkb1, hkb2⟩ := hkb
  go_enter Try.func20, Try.ntmps20
  go_wp2_with fail
  obtain ⟨wq, hwq⟩ : ∃ wq, wq = ((w.alloc (.cells #[.slice a0 m.fInodes.length c0, .slice a1 m.fNames.length c1, .slice a2 m.fSafe.length c2, .int .i64 m.fNext] 27)).alloc (.cells #[.slice none 0 0, .slice none 0 0, .slice none 0 0, .int .i64 0] 27)) := ⟨_, rfl⟩
  have hbW : Below w.heap.size w wq := by rw [hwq]; exact Below.alloc (Below.alloc (Below.refl _ _) (by exact Nat.le_refl _) _) (by simp; try omega) _
  have hbd : Bw wq (w.heap.size) 27 [.slice a0 m.fInodes.length c0, .slice a1 m.fNames.length c1, .slice a2 m.fSafe.length c2, .int .i64 m.fNext] := by rw [hwq]; exact Bw.alloc (Bw.new' _ _ _ (by simp)) _
  have hbr : Bw wq (w.heap.size + 1) 27 [.slice none 0 0, .slice none 0 0, .slice none 0 0, .int .i64 0] := by rw [hwq]; exact Bw.new' _ _ _ (by simp)
  rw [← hwq]
  clear hwq
  refine (implDiskOk_c _ m wq (rDisk_good.mono (rDisk_good.below HR.out hbW) hbW.size) HW.out).mono ?_
  rintro e w1 ⟨rfl, hx1⟩
  have hb1 := bthen hbW hx1
  have hbd1 := hbd.under hx1
  have hbr1 := hbr.under hx1
  have hl1 := hbd1.lt
  have hl1r := hbr1.lt
  have y0 := hbd1.cell 0 _ rfl
  have y1 := hbd1.cell 1 _ rfl
  have y2 := hbd1.cell 2 _ rfl
  have y3 := hbd1.cell 3 _ rfl
  clear hbd hbr
  by_cases hK : diskOk m = true
  · by_cases hkn : kp < 0
    · have HV : Hid (fallP m kp = m) := by show _ = _; unfold fallP; rw [if_neg (by omega)]
      rw [hK]
      clear hK
      go_wp2_with fail
      refine (copyDisk_any _ (m) w1 (rDisk_good.mono (rDisk_good.below HR.out hb1) hb1.size) HW.out).mono ?_
      rintro e w3 ⟨cs3, F3, rfl, ho3, hN3, hge3, hx3⟩
      have hb3 := bthen hb1 hx3
      have hbr3 := hbr1.under hx3
      have hl3 := hbr3.lt
      have hz3 := hb1.size
      have hlq3 := hbr1.lt
      obtain ⟨q0, p0, q1, p1, q2, p2, G0, G1, G2, rfl, _, _, _, _, rfl⟩ := oDisk_cells ho3
      have hkey : ∀ W', Turn [w.heap.size + 1] w3 W' → oDisk W' [.slice q0 m.fInodes.length p0, .slice q1 m.fNames.length p1, .slice q2 m.fSafe.length p2, .int .i64 m.fNext] (m) (G0 ++ G1 ++ G2 ++ []) ∧ Below w.heap.size w W' := fun W' hT =>
        ⟨oDisk_good.frame ho3 (fun b hb => hT.block b (oDisk_good.lt ho3 b hb) (fun h => by simp at h; have := hge3 b hb; omega)), hb3.trans (hT.below (fun k hk => by simp at hk; omega) hb3.size)⟩
      have HKEY := Hid.mk hkey
      have HNQ := Hid.mk hN3
      have HGQ : Hid (∀ b, b ∈ G0 ++ G1 ++ G2 ++ [] → w.heap.size ≤ b) := fun b hb => by have := hge3 b hb; omega
      clear hkey ho3 hN3 hge3 y0 y1 y2 y3
      have ze0 := hbr3.cell 0 _ rfl
      have ze1 := hbr3.cell 1 _ rfl
      have ze2 := hbr3.cell 2 _ rfl
      have ze3 := hbr3.cell 3 _ rfl
      have zf0 := hbr3.free 0
      have zf1 := hbr3.free 1
      have zf2 := hbr3.free 2
      have zf3 := hbr3.free 3
      go_wp2_with fail
      obtain ⟨h1, h3⟩ := HKEY.out _ (show Turn [w.heap.size + 1] w3 ((((w3.setCell ⟨w.heap.size + 1, 0, none⟩ (.slice q0 m.fInodes.length p0)).setCell ⟨w.heap.size + 1, 1, none⟩ (.slice q1 m.fNames.length p1)).setCell ⟨w.heap.size + 1, 2, none⟩ (.slice q2 m.fSafe.length p2)).setCell ⟨w.heap.size + 1, 3, none⟩ (.int .i64 m.fNext)) from turn4 _ _ _ _ _ _)
      exact bodyPost_ret (v := .agg #[.slice q0 m.fInodes.length p0, .slice q1 m.fNames.length p1, .slice q2 m.fSafe.length p2, .int .i64 m.fNext]) (by simp [results, Try.results20, go_sem, *]) rfl ⟨[.slice q0 m.fInodes.length p0, .slice q1 m.fNames.length p1, .slice q2 m.fSafe.length p2, .int .i64 m.fNext], _, rfl, by rw [HV.out]; exact h1, HNQ.out, HGQ.out, h3⟩
    · have hk0 : 0 ≤ kp := by omega
      have hknn : (kp < 0) = False := eq_false hkn
      have hDR := diskOk_iff.1 hK
      have HV : Hid (fallP m kp = { m with fNames := m.fSafe, fInodes := (keepI { m with fNames := m.fSafe }).map (cutI kp) }) := by show _ = _; unfold fallP; rw [if_pos ⟨hK, hk0⟩]
      have hwt := ok_weight hK
      have hwk : wDisk { m with fNames := m.fSafe } ≤ 1048576 := by rw [wDisk_eq]; simp only; omega
      have HWK1 : Hid (wDisk { m with fNames := m.fSafe } ≤ 16777216) := by show _ ≤ _; omega
      have HWF : Hid (wDisk { m with fNames := m.fSafe, fInodes := (keepI { m with fNames := m.fSafe }).map (cutI kp) } ≤ 1048576) := by
        show _ ≤ _
        have h1 := keepD_weight { m with fNames := m.fSafe }
        unfold keepD at h1
        rw [wDisk_eq] at h1 ⊢
        have h2 := sumW_map_le (f := cutI kp) (fun x => by unfold cutI wInode; simp; omega) (keepI { m with fNames := m.fSafe })
        simp only [List.length_map] at h1 ⊢
        omega
      have HEA : Hid (∀ x, x ∈ keepI { m with fNames := m.fSafe } → 0 ≤ x.fSure ∧ x.fSure ≤ x.fData.length ∧ x.fData.length ≤ 60000) := by
        intro x hx
        have hx' : x ∈ m.fInodes := (List.mem_filter.1 hx).1
        obtain ⟨i, hi, rfl⟩ := List.mem_iff_getElem.1 hx'
        have h1 := hDR.each _ hx'
        have h2 := sumW_le (f := wInode) hi
        have h3 : wInode m.fInodes[i] = m.fInodes[i].fData.length := rfl
        omega
      have hkl : (keepI { m with fNames := m.fSafe }).length ≤ 60 := Nat.le_trans (List.length_filter_le _ _) (by show m.fInodes.length ≤ 60; omega)
      rw [hK]
      clear hK hwt hwk hDR
      have f1 := hbd1.free 1
      go_wp2_with fail
      obtain ⟨ws, hws⟩ : ∃ ws, ws = w1.setCell ⟨w.heap.size, 1, none⟩ (.slice a2 m.fSafe.length c2) := ⟨_, rfl⟩
      have hTs : Turn [w.heap.size] w1 ws := by rw [hws]; exact Turn.setCell (Turn.refl _ _) (by simp) _
      have hbds : Bw ws w.heap.size 27 [.slice a0 m.fInodes.length c0, .slice a2 m.fSafe.length c2, .slice a2 m.fSafe.length c2, .int .i64 m.fNext] := by rw [hws]; exact hbd1.put 1 _
      rw [← hws]
      clear hws y0 y1 y2 y3 f1
      have hbrs := hbr1.turn hTs (by simp)
      have hBs : Below w.heap.size w ws := hb1.trans (hTs.below (fun k hk => by simp at hk; omega) hb1.size)
      refine (namedInodes_rowB a0 a2 a2 c0 c2 c2 { m with fNames := m.fSafe } ws w.heap.size hBs.size (HI.out.below rInode_good hBs) (HSF.out.below rEntry_good hBs) (HSF.out.below rEntry_good hBs) HWK1.out).mono ?_
      rintro e w2 ⟨ak, ck, rfl, hrow, _, hx2⟩
      obtain ⟨kl, hkl2⟩ : ∃ kl, kl = keepI { m with fNames := m.fSafe } := ⟨_, rfl⟩
      rw [← hkl2] at hrow hkl HEA HV HWF ⊢
      have HROW := Hid.mk hrow
      have hb2 := bthen hBs hx2
      have hbd2 := hbds.under hx2
      have hbr2 := hbrs.under hx2
      have hl2 := hbd2.lt
      have hl2s := hbds.lt
      have hl2r := hbrs.lt
      have y0 := hbd2.cell 0 _ rfl
      have y1 := hbd2.cell 1 _ rfl
      have y2 := hbd2.cell 2 _ rfl
      have y3 := hbd2.cell 3 _ rfl
      have f0 := hbd2.free 0
      clear hrow hkl2
      have hx2s := hx2.size
      have hBss := hBs.size
      have hcur : ∀ W, Turn [w.heap.size] w2 W → True := fun _ _ => trivial
      clear hcur
      go_wp2_with fail
      obtain ⟨wt, hwt⟩ : ∃ wt, wt = w2.setCell ⟨w.heap.size, 0, none⟩ (.slice ak kl.length ck) := ⟨_, rfl⟩
      have hTt : Turn [w.heap.size] w2 wt := by rw [hwt]; exact Turn.setCell (Turn.refl _ _) (by simp) _
      have hbdt : Bw wt w.heap.size 27 [.slice ak kl.length ck, .slice a2 m.fSafe.length c2, .slice a2 m.fSafe.length c2, .int .i64 m.fNext] := by rw [hwt]; exact hbd2.put 0 _
      rw [← hwt]
      clear hwt y0 y1 y2 y3 f0
      have hbrt := hbr2.turn hTt (by simp)
      have hBt : Below w.heap.size w wt := hb2.trans (hTt.below (fun k hk => by simp at hk; omega) hb2.size)
      have hrt : RowR 3 69 rInode w.heap.size wt ws.heap.size (.slice ak kl.length ck) (partMap (cutI kp) kl 0) := by
        rw [partMap_zero]
        exact RowR.turn rInode_good HROW.out hTt (fun k hk => by simp at hk; omega) hb2.size (Nat.le_refl _)
      go_loopw [26] (fun i wr => ∃ j : Nat, j ≤ kl.length ∧ i = .int .i64 j ∧ RowR 3 69 rInode w.heap.size wr ws.heap.size (.slice ak kl.length ck) (partMap (cutI kp) kl j) ∧ Below w.heap.size w wr ∧ Bw wr w.heap.size 27 [.slice ak kl.length ck, .slice a2 m.fSafe.length c2, .slice a2 m.fSafe.length c2, .int .i64 m.fNext] ∧ Bw wr (w.heap.size + 1) 27 [.slice none 0 0, .slice none 0 0, .slice none 0 0, .int .i64 0]) (fun i _ => kl.length - (intOf i).toNat)
      case atStart => exact ⟨0, Nat.zero_le _, rfl, hrt, hBt, hbdt, hbrt⟩
      case round =>
        obtain ⟨j, hj, rfl, hrow, hbk, hbdk, hbrk⟩ := hrel
        have HRow := Hid.mk hrow
        have HBD := Hid.mk hbdk
        have HBR := Hid.mk hbrk
        have hlx := hbdk.lt
        have hly := hbrk.lt
        clear hrow hbdk hbrk hrt hBt hbdt hbrt HROW
        by_cases hlt : j < kl.length
        · have hpl := partMap_length (cutI kp) kl hj
          obtain ⟨g, cap, cs, hv, hgb, hgl, hcl, hrI, hcell, hfree⟩ := HRow.out.at (j := j) (by rw [hpl]; exact hlt)
          rw [partMap_at _ _ hlt] at hrI
          rw [hpl] at hv
          simp only [Value.slice.injEq, true_and] at hv
          obtain ⟨rfl, rfl⟩ := hv
          have hxe := HEA.out kl[j] (List.getElem_mem hlt)
          obtain ⟨x, hx⟩ : ∃ x, kl[j] = x := ⟨_, rfl⟩
          rw [hx] at hrI hxe
          have HX : Hid (kl[j] = x) := hx
          clear hx
          obtain ⟨ad, cd, rfl, hid, hda, hsu, _⟩ := hrI
          obtain ⟨hx1, hx2, hx3⟩ := hxe
          have k0 := hcell 0 _ rfl
          have k1 := hcell 1 _ rfl
          have k2 := hcell 2 _ rfl
          rw [Nat.add_zero] at k0
          have HFR := Hid.mk hfree
          have HDA := Hid.mk hda
          have HPL := Hid.mk hpl
          obtain ⟨dn, hdn⟩ : ∃ dn, x.fData.length = dn := ⟨_, rfl⟩
          have HDN := Hid.mk hdn
          rw [hdn] at k1 hx2 hx3
          obtain ⟨nl, hnl⟩ : ∃ nl : Nat, (nl : Int) = x.fSure + min kp (dn - x.fSure) := ⟨(x.fSure + min kp (dn - x.fSure)).toNat, by omega⟩
          have hnl2 : nl ≤ dn := by omega
          have HNL := Hid.mk hnl
          have hcd : dn ≤ cd := by have := hda.1; omega
          have hcd2 : cd ≤ 9223372036854775807 := hda.2.1
          clear hcell hfree hda hpl hcl hdn
          by_cases hmn : kp ≤ dn - x.fSure
          · have hnl3 : x.fSure + kp = (nl : Int) := by omega
            clear hnl
            go_wp2_with fail
            obtain ⟨wi, hwi⟩ : ∃ wi, wi = wr.alloc (.cells #[.int .i64 x.fId, .slice ad dn cd, .int .i64 x.fSure] 69) := ⟨_, rfl⟩
            have hbi : Below wr.heap.size wr wi := by rw [hwi]; exact (Below.refl _ _).alloc (Nat.le_refl _) _
            have hbn : Bw wi wr.heap.size 69 [.int .i64 x.fId, .slice ad dn cd, .int .i64 x.fSure] := by rw [hwi]; exact Bw.new _ _ _
            rw [← hwi]
            clear hwi
            have hbk0 := hbk.size
            have hgi : g < wi.heap.size := Nat.lt_of_lt_of_le hgl hbi.size
            have q0 := (hbi.cell (p := ⟨g, j * 3, none⟩) hgl).trans k0
            have q1 := (hbi.cell (p := ⟨g, j * 3 + 1, none⟩) hgl).trans k1
            have q2 := (hbi.cell (p := ⟨g, j * 3 + 2, none⟩) hgl).trans k2
            have r0 := (hbi.frozen (p := ⟨g, j * 3, none⟩) hgl).trans (HFR.out _)
            have r1 := (hbi.frozen (p := ⟨g, j * 3 + 1, none⟩) hgl).trans (HFR.out _)
            have r2 := (hbi.frozen (p := ⟨g, j * 3 + 2, none⟩) hgl).trans (HFR.out _)
            have z0 := (HBD.out.under hbi).cell 0 _ rfl
            have n0 := hbn.cell 0 _ rfl
            have n1 := hbn.cell 1 _ rfl
            have hnlc : (nl : Int) ≤ (cd : Int) := by omega
            have hnl0 : (0 : Int) ≤ (nl : Int) := by omega
            have hgw : g ≠ w.heap.size := by omega
            have hgr : g ≠ wr.heap.size := by omega
            clear k0 k1 k2
            refine wp_region_held_drew (S := fun W => W.cell? ⟨w.heap.size, 0, none⟩ = some (.slice (some ⟨g, 0, none⟩) kl.length ck) ∧ W.cell? ⟨wr.heap.size, 0, none⟩ = some (.int .i64 x.fId) ∧ W.cell? ⟨wr.heap.size, 1, none⟩ = some (.slice ad dn cd)) (by kernel_rfl) (⟨z0, n0, n1⟩) (fun hHeld => ?_)
            refine wpAnyH_take (i := 0) (oi := ⟨some 42, .fieldAddr 27 (.tmp 2) 0, 0, "l02_files.go:191", #[], none⟩) (v := ?v1) rfl (by kernel_rfl) (by kernel_rfl) (by kernel_rfl) (fun _ _ _ h => h) (Or.inl ⟨by rfl, ?hy1⟩) (by assumption) ?rest1
            case hy1 => (intro w hSw; (try dsimp only at hSw); go_simp; try (with_reducible rfl))
            try simp only [Act.put, List.setIfInBounds_toArray, List.set_cons_zero, List.set_cons_succ]
            refine wpAnyH_take (i := 1) (oi := ⟨some 43, .load 24 (.tmp 42), 24, "l02_files.go:191", #[⟨0, .data⟩], none⟩) (v := ?v2) rfl (by kernel_rfl) (by kernel_rfl) (by kernel_rfl) (fun _ _ _ h => h) (Or.inl ⟨by rfl, ?hy2⟩) (by assumption) ?rest2
            case hy2 => (intro w hSw; (try dsimp only at hSw); go_simp; try (with_reducible rfl))
            try simp only [Act.put, List.setIfInBounds_toArray, List.set_cons_zero, List.set_cons_succ]
            refine wpAnyH_take (i := 2) (oi := ⟨some 44, .move (.tmp 5), 3, "l02_files.go:191", #[], none⟩) (v := ?v3) rfl (by kernel_rfl) (by kernel_rfl) (by kernel_rfl) (fun _ _ _ h => h) (Or.inl ⟨by rfl, ?hy3⟩) (by assumption) ?rest3
            case hy3 => (intro w hSw; (try dsimp only at hSw); go_simp; try (with_reducible rfl))
            try simp only [Act.put, List.setIfInBounds_toArray, List.set_cons_zero, List.set_cons_succ]
            refine wpAnyH_take (i := 3) (oi := ⟨some 45, .fieldAddr 69 (.tmp 6) 0, 0, "l02_files.go:191", #[], none⟩) (v := ?v4) rfl (by kernel_rfl) (by kernel_rfl) (by kernel_rfl) (fun _ _ _ h => h) (Or.inl ⟨by rfl, ?hy4⟩) (by assumption) ?rest4
            case hy4 => (intro w hSw; (try dsimp only at hSw); go_simp; try (with_reducible rfl))
            try simp only [Act.put, List.setIfInBounds_toArray, List.set_cons_zero, List.set_cons_succ]
            refine wpAnyH_take (i := 4) (oi := ⟨some 46, .load 3 (.tmp 45), 3, "l02_files.go:191", #[⟨3, .data⟩], none⟩) (v := ?v5) rfl (by kernel_rfl) (by kernel_rfl) (by kernel_rfl) (fun _ _ _ h => h) (Or.inl ⟨by rfl, ?hy5⟩) (by assumption) ?rest5
            case hy5 => (intro w hSw; (try dsimp only at hSw); go_simp; try (with_reducible rfl))
            try simp only [Act.put, List.setIfInBounds_toArray, List.set_cons_zero, List.set_cons_succ]
            refine wpAnyH_take (i := 5) (oi := ⟨some 47, .fieldAddr 69 (.tmp 6) 1, 0, "l02_files.go:191", #[], none⟩) (v := ?v6) rfl (by kernel_rfl) (by kernel_rfl) (by kernel_rfl) (fun _ _ _ h => h) (Or.inl ⟨by rfl, ?hy6⟩) (by assumption) ?rest6
            case hy6 => (intro w hSw; (try dsimp only at hSw); go_simp; try (with_reducible rfl))
            try simp only [Act.put, List.setIfInBounds_toArray, List.set_cons_zero, List.set_cons_succ]
            refine wpAnyH_take (i := 6) (oi := ⟨some 48, .load 22 (.tmp 47), 22, "l02_files.go:191", #[⟨5, .data⟩], none⟩) (v := ?v7) rfl (by kernel_rfl) (by kernel_rfl) (by kernel_rfl) (fun _ _ _ h => h) (Or.inl ⟨by rfl, ?hy7⟩) (by assumption) ?rest7
            case hy7 => (intro w hSw; (try dsimp only at hSw); go_simp; try (with_reducible rfl))
            try simp only [Act.put, List.setIfInBounds_toArray, List.set_cons_zero, List.set_cons_succ]
            refine wpAnyH_take (i := 7) (oi := ⟨some 49, .move (.tmp 7), 3, "l02_files.go:191", #[], none⟩) (v := ?v8) rfl (by kernel_rfl) (by kernel_rfl) (by kernel_rfl) (fun _ _ _ h => h) (Or.inl ⟨by rfl, ?hy8⟩) (by assumption) ?rest8
            case hy8 => (intro w hSw; (try dsimp only at hSw); go_simp; try (with_reducible rfl))
            try simp only [Act.put, List.setIfInBounds_toArray, List.set_cons_zero, List.set_cons_succ]
            refine wpAnyH_take (i := 8) (oi := ⟨some 50, .slice 22 (.tmp 48) none (some (.tmp 49)) none, 22, "l02_files.go:191", #[⟨6, .data⟩, ⟨7, .data⟩], none⟩) (v := ?v9) rfl (by kernel_rfl) (by kernel_rfl) (by kernel_rfl) (fun _ _ _ h => h) (Or.inl ⟨by rfl, ?hy9⟩) (by assumption) ?rest9
            case hy9 => (intro w hSw; (try dsimp only at hSw); go_simp; try (with_reducible rfl))
            try simp only [Act.put, List.setIfInBounds_toArray, List.set_cons_zero, List.set_cons_succ]
            refine wpAnyH_take (i := 9) (oi := ⟨some 51, .move (.tmp 7), 3, "l02_files.go:191", #[], none⟩) (v := ?v10) rfl (by kernel_rfl) (by kernel_rfl) (by kernel_rfl) (fun _ _ _ h => h) (Or.inl ⟨by rfl, ?hy10⟩) (by assumption) ?rest10
            case hy10 => (intro w hSw; (try dsimp only at hSw); go_simp; try (with_reducible rfl))
            try simp only [Act.put, List.setIfInBounds_toArray, List.set_cons_zero, List.set_cons_succ]
            refine wpAnyH_take (i := 10) (oi := ⟨some 52, .build 69 #[(0, .tmp 46), (1, .tmp 50), (2, .tmp 51)], 69, "l02_files.go:191", #[⟨4, .data⟩, ⟨8, .data⟩, ⟨9, .data⟩], none⟩) (v := ?v11) rfl (by kernel_rfl) (by kernel_rfl) (by kernel_rfl) (fun _ _ _ h => h) (Or.inl ⟨by rfl, ?hy11⟩) (by assumption) ?rest11
            case hy11 => (intro w hSw; (try dsimp only at hSw); go_simp; try (with_reducible rfl))
            try simp only [Act.put, List.setIfInBounds_toArray, List.set_cons_zero, List.set_cons_succ]
            refine wpAnyH_take (i := 11) (oi := ⟨some 53, .indexAddr 24 (.tmp 43) (.tmp 44), 0, "l02_files.go:191", #[⟨1, .data⟩, ⟨2, .data⟩, ⟨0, .phase⟩, ⟨1, .phase⟩, ⟨2, .phase⟩, ⟨3, .phase⟩, ⟨4, .phase⟩, ⟨5, .phase⟩, ⟨6, .phase⟩, ⟨7, .phase⟩, ⟨8, .phase⟩, ⟨9, .phase⟩, ⟨10, .phase⟩], none⟩) (v := ?v12) rfl (by kernel_rfl) (by kernel_rfl) (by kernel_rfl) (fun _ _ _ h => h) (Or.inl ⟨by rfl, ?hy12⟩) (by assumption) ?rest12
            case hy12 => (intro w hSw; (try dsimp only at hSw); go_simp; try (with_reducible rfl))
            try simp only [Act.put, List.setIfInBounds_toArray, List.set_cons_zero, List.set_cons_succ]
            refine wpAnyH_ready (rs := [12]) (by kernel_rfl) (by simp) ?_
            refine AllReadyH.cons (o := ⟨none, .store 69 (.tmp 53) (.tmp 52), 0, "l02_files.go:191", #[⟨11, .data⟩, ⟨10, .data⟩, ⟨0, .phase⟩, ⟨1, .phase⟩, ⟨2, .phase⟩, ⟨3, .phase⟩, ⟨4, .phase⟩, ⟨5, .phase⟩, ⟨6, .phase⟩, ⟨7, .phase⟩, ⟨8, .phase⟩, ⟨9, .phase⟩, ⟨10, .phase⟩], none⟩) rfl (fun K hK => ?_) AllReadyH.nil
            go_simp
            have HT3 : Hid (Turn [g] wi (((wi.setCell ⟨g, j * 3, none⟩ (.int .i64 x.fId)).setCell ⟨g, j * 3 + 1, none⟩ (.slice ad nl cd)).setCell ⟨g, j * 3 + 2, none⟩ (.int .i64 nl)).drew) := Turn.drew (Turn.setCell (Turn.setCell (Turn.setCell (Turn.refl _ _) (by simp) _) (by simp) _) (by simp) _)
            have hlw := hbn.lt
            go_simp
            refine hK.out _ _ (⟨(HT3.out.cell (p := ⟨w.heap.size, 0, none⟩) (by simp; omega) (by simp; omega)).trans z0, (HT3.out.cell (p := ⟨wr.heap.size, 0, none⟩) (by simp; omega) (by simp; omega)).trans n0, (HT3.out.cell (p := ⟨wr.heap.size, 1, none⟩) (by simp; omega) (by simp; omega)).trans n1⟩) (fun hHeld => ?_)
            clear hK K
            try simp only [Act.put, List.setIfInBounds_toArray, List.set_cons_zero, List.set_cons_succ]
            refine wpAnyH_done (by kernel_rfl) ?_ _
            obtain ⟨w3, hw3⟩ : ∃ w3, w3 = (((wi.setCell ⟨g, j * 3, none⟩ (.int .i64 x.fId)).setCell ⟨g, j * 3 + 1, none⟩ (.slice ad nl cd)).setCell ⟨g, j * 3 + 2, none⟩ (.int .i64 nl)).drew := ⟨_, rfl⟩
            have hcut : cutI kp x = { x with fData := x.fData.take nl, fSure := (nl : Int) } := by unfold cutI; rw [HDN.out, ← HNL.out, Int.toNat_natCast]
            have hri : RowR 3 69 rInode w.heap.size wi ws.heap.size (.slice (some ⟨g, 0, none⟩) (partMap (cutI kp) kl j).length ck) (partMap (cutI kp) kl j) := by rw [HPL.out]; exact RowR.keep rInode_good HRow.out hbi hbk0
            have htl : (x.fData.take nl).length = nl := by rw [List.length_take, HDN.out]; omega
            have hmR : rInode w.heap.size wi [.int .i64 x.fId, .slice ad nl cd, .int .i64 nl] (cutI kp x) := by
              rw [hcut]
              refine ⟨ad, cd, ?_, hid, LeafB.take (HDA.out.below (hbi.mono hbk0)) nl, ?_, trivial⟩
              · simp only [htl]
              · show (Lit.int .i64 (nl : Int)).wf = true
                exact WalkArith.wf_i64 (by omega)
            obtain ⟨p1, p2, p3⟩ := RowR.put rInode_good hri hBss (Nat.le_trans hbk0 hbi.size) (j := j) (by rw [HPL.out]; exact hlt) rfl hmR
            have e1 : (partMap (cutI kp) kl j).set j (cutI kp x) = partMap (cutI kp) kl (j + 1) := by rw [← HX.out]; exact partMap_succ _ _ hlt
            rw [e1, HPL.out] at p1
            have hT3 : Turn [g] wi w3 := by rw [hw3]; exact HT3.out
            have hR3 : RowR 3 69 rInode w.heap.size w3 ws.heap.size (.slice (some ⟨g, 0, none⟩) kl.length ck) (partMap (cutI kp) kl (j + 1)) := by
              rw [hw3]
              exact RowR.keep rInode_good p1 (Below.drew (Below.refl _ _)) (by have := p2.size; have := hbi.size; omega)
            have HR3 := Hid.mk hR3
            have hB3 : Below w.heap.size w w3 := (bthen hbk hbi).trans (hT3.below (fun k hk => by simp at hk; omega) (bthen hbk hbi).size)
            have hbd3 := (HBD.out.under hbi).turn hT3 (by simp; omega)
            have hbr3 := (HBR.out.under hbi).turn hT3 (by simp; omega)
            have hlw3 : wr.heap.size < w3.heap.size := Nat.lt_of_lt_of_le hbn.lt hT3.size
            rw [← hw3]
            clear hw3 hT3 hR3 p1 p2 hri hmR hHeld q0 q1 q2 r0 r1 r2 z0 n0 n1 e1
            go_wp2_with fail
            go_roundw
            case rel => exact ⟨j + 1, by omega, by go_num, HR3.out, hB3, hbd3, hbr3⟩
            case measure => simp [intOf]; omega
          · have hnl3 : x.fSure + ((dn : Int) - x.fSure) = (nl : Int) := by omega
            have hmn2 : (dn - x.fSure : Int) ≤ kp := by omega
            clear hnl
            go_wp2_with fail
            obtain ⟨wi, hwi⟩ : ∃ wi, wi = wr.alloc (.cells #[.int .i64 x.fId, .slice ad dn cd, .int .i64 x.fSure] 69) := ⟨_, rfl⟩
            have hbi : Below wr.heap.size wr wi := by rw [hwi]; exact (Below.refl _ _).alloc (Nat.le_refl _) _
            have hbn : Bw wi wr.heap.size 69 [.int .i64 x.fId, .slice ad dn cd, .int .i64 x.fSure] := by rw [hwi]; exact Bw.new _ _ _
            rw [← hwi]
            clear hwi
            have hbk0 := hbk.size
            have hgi : g < wi.heap.size := Nat.lt_of_lt_of_le hgl hbi.size
            have q0 := (hbi.cell (p := ⟨g, j * 3, none⟩) hgl).trans k0
            have q1 := (hbi.cell (p := ⟨g, j * 3 + 1, none⟩) hgl).trans k1
            have q2 := (hbi.cell (p := ⟨g, j * 3 + 2, none⟩) hgl).trans k2
            have r0 := (hbi.frozen (p := ⟨g, j * 3, none⟩) hgl).trans (HFR.out _)
            have r1 := (hbi.frozen (p := ⟨g, j * 3 + 1, none⟩) hgl).trans (HFR.out _)
            have r2 := (hbi.frozen (p := ⟨g, j * 3 + 2, none⟩) hgl).trans (HFR.out _)
            have z0 := (HBD.out.under hbi).cell 0 _ rfl
            have n0 := hbn.cell 0 _ rfl
            have n1 := hbn.cell 1 _ rfl
            have hnlc : (nl : Int) ≤ (cd : Int) := by omega
            have hnl0 : (0 : Int) ≤ (nl : Int) := by omega
            have hgw : g ≠ w.heap.size := by omega
            have hgr : g ≠ wr.heap.size := by omega
            clear k0 k1 k2
            refine wp_region_held_drew (S := fun W => W.cell? ⟨w.heap.size, 0, none⟩ = some (.slice (some ⟨g, 0, none⟩) kl.length ck) ∧ W.cell? ⟨wr.heap.size, 0, none⟩ = some (.int .i64 x.fId) ∧ W.cell? ⟨wr.heap.size, 1, none⟩ = some (.slice ad dn cd)) (by kernel_rfl) (⟨z0, n0, n1⟩) (fun hHeld => ?_)
            refine wpAnyH_take (i := 0) (oi := ⟨some 42, .fieldAddr 27 (.tmp 2) 0, 0, "l02_files.go:191", #[], none⟩) (v := ?v13) rfl (by kernel_rfl) (by kernel_rfl) (by kernel_rfl) (fun _ _ _ h => h) (Or.inl ⟨by rfl, ?hy13⟩) (by assumption) ?rest13
            case hy13 => (intro w hSw; (try dsimp only at hSw); go_simp; try (with_reducible rfl))
            try simp only [Act.put, List.setIfInBounds_toArray, List.set_cons_zero, List.set_cons_succ]
            refine wpAnyH_take (i := 1) (oi := ⟨some 43, .load 24 (.tmp 42), 24, "l02_files.go:191", #[⟨0, .data⟩], none⟩) (v := ?v14) rfl (by kernel_rfl) (by kernel_rfl) (by kernel_rfl) (fun _ _ _ h => h) (Or.inl ⟨by rfl, ?hy14⟩) (by assumption) ?rest14
            case hy14 => (intro w hSw; (try dsimp only at hSw); go_simp; try (with_reducible rfl))
            try simp only [Act.put, List.setIfInBounds_toArray, List.set_cons_zero, List.set_cons_succ]
            refine wpAnyH_take (i := 2) (oi := ⟨some 44, .move (.tmp 5), 3, "l02_files.go:191", #[], none⟩) (v := ?v15) rfl (by kernel_rfl) (by kernel_rfl) (by kernel_rfl) (fun _ _ _ h => h) (Or.inl ⟨by rfl, ?hy15⟩) (by assumption) ?rest15
            case hy15 => (intro w hSw; (try dsimp only at hSw); go_simp; try (with_reducible rfl))
            try simp only [Act.put, List.setIfInBounds_toArray, List.set_cons_zero, List.set_cons_succ]
            refine wpAnyH_take (i := 3) (oi := ⟨some 45, .fieldAddr 69 (.tmp 6) 0, 0, "l02_files.go:191", #[], none⟩) (v := ?v16) rfl (by kernel_rfl) (by kernel_rfl) (by kernel_rfl) (fun _ _ _ h => h) (Or.inl ⟨by rfl, ?hy16⟩) (by assumption) ?rest16
            case hy16 => (intro w hSw; (try dsimp only at hSw); go_simp; try (with_reducible rfl))
            try simp only [Act.put, List.setIfInBounds_toArray, List.set_cons_zero, List.set_cons_succ]
            refine wpAnyH_take (i := 4) (oi := ⟨some 46, .load 3 (.tmp 45), 3, "l02_files.go:191", #[⟨3, .data⟩], none⟩) (v := ?v17) rfl (by kernel_rfl) (by kernel_rfl) (by kernel_rfl) (fun _ _ _ h => h) (Or.inl ⟨by rfl, ?hy17⟩) (by assumption) ?rest17
            case hy17 => (intro w hSw; (try dsimp only at hSw); go_simp; try (with_reducible rfl))
            try simp only [Act.put, List.setIfInBounds_toArray, List.set_cons_zero, List.set_cons_succ]
            refine wpAnyH_take (i := 5) (oi := ⟨some 47, .fieldAddr 69 (.tmp 6) 1, 0, "l02_files.go:191", #[], none⟩) (v := ?v18) rfl (by kernel_rfl) (by kernel_rfl) (by kernel_rfl) (fun _ _ _ h => h) (Or.inl ⟨by rfl, ?hy18⟩) (by assumption) ?rest18
            case hy18 => (intro w hSw; (try dsimp only at hSw); go_simp; try (with_reducible rfl))
            try simp only [Act.put, List.setIfInBounds_toArray, List.set_cons_zero, List.set_cons_succ]
            refine wpAnyH_take (i := 6) (oi := ⟨some 48, .load 22 (.tmp 47), 22, "l02_files.go:191", #[⟨5, .data⟩], none⟩) (v := ?v19) rfl (by kernel_rfl) (by kernel_rfl) (by kernel_rfl) (fun _ _ _ h => h) (Or.inl ⟨by rfl, ?hy19⟩) (by assumption) ?rest19
            case hy19 => (intro w hSw; (try dsimp only at hSw); go_simp; try (with_reducible rfl))
            try simp only [Act.put, List.setIfInBounds_toArray, List.set_cons_zero, List.set_cons_succ]
            refine wpAnyH_take (i := 7) (oi := ⟨some 49, .move (.tmp 7), 3, "l02_files.go:191", #[], none⟩) (v := ?v20) rfl (by kernel_rfl) (by kernel_rfl) (by kernel_rfl) (fun _ _ _ h => h) (Or.inl ⟨by rfl, ?hy20⟩) (by assumption) ?rest20
            case hy20 => (intro w hSw; (try dsimp only at hSw); go_simp; try (with_reducible rfl))
            try simp only [Act.put, List.setIfInBounds_toArray, List.set_cons_zero, List.set_cons_succ]
            refine wpAnyH_take (i := 8) (oi := ⟨some 50, .slice 22 (.tmp 48) none (some (.tmp 49)) none, 22, "l02_files.go:191", #[⟨6, .data⟩, ⟨7, .data⟩], none⟩) (v := ?v21) rfl (by kernel_rfl) (by kernel_rfl) (by kernel_rfl) (fun _ _ _ h => h) (Or.inl ⟨by rfl, ?hy21⟩) (by assumption) ?rest21
            case hy21 => (intro w hSw; (try dsimp only at hSw); go_simp; try (with_reducible rfl))
            try simp only [Act.put, List.setIfInBounds_toArray, List.set_cons_zero, List.set_cons_succ]
            refine wpAnyH_take (i := 9) (oi := ⟨some 51, .move (.tmp 7), 3, "l02_files.go:191", #[], none⟩) (v := ?v22) rfl (by kernel_rfl) (by kernel_rfl) (by kernel_rfl) (fun _ _ _ h => h) (Or.inl ⟨by rfl, ?hy22⟩) (by assumption) ?rest22
            case hy22 => (intro w hSw; (try dsimp only at hSw); go_simp; try (with_reducible rfl))
            try simp only [Act.put, List.setIfInBounds_toArray, List.set_cons_zero, List.set_cons_succ]
            refine wpAnyH_take (i := 10) (oi := ⟨some 52, .build 69 #[(0, .tmp 46), (1, .tmp 50), (2, .tmp 51)], 69, "l02_files.go:191", #[⟨4, .data⟩, ⟨8, .data⟩, ⟨9, .data⟩], none⟩) (v := ?v23) rfl (by kernel_rfl) (by kernel_rfl) (by kernel_rfl) (fun _ _ _ h => h) (Or.inl ⟨by rfl, ?hy23⟩) (by assumption) ?rest23
            case hy23 => (intro w hSw; (try dsimp only at hSw); go_simp; try (with_reducible rfl))
            try simp only [Act.put, List.setIfInBounds_toArray, List.set_cons_zero, List.set_cons_succ]
            refine wpAnyH_take (i := 11) (oi := ⟨some 53, .indexAddr 24 (.tmp 43) (.tmp 44), 0, "l02_files.go:191", #[⟨1, .data⟩, ⟨2, .data⟩, ⟨0, .phase⟩, ⟨1, .phase⟩, ⟨2, .phase⟩, ⟨3, .phase⟩, ⟨4, .phase⟩, ⟨5, .phase⟩, ⟨6, .phase⟩, ⟨7, .phase⟩, ⟨8, .phase⟩, ⟨9, .phase⟩, ⟨10, .phase⟩], none⟩) (v := ?v24) rfl (by kernel_rfl) (by kernel_rfl) (by kernel_rfl) (fun _ _ _ h => h) (Or.inl ⟨by rfl, ?hy24⟩) (by assumption) ?rest24
            case hy24 => (intro w hSw; (try dsimp only at hSw); go_simp; try (with_reducible rfl))
            try simp only [Act.put, List.setIfInBounds_toArray, List.set_cons_zero, List.set_cons_succ]
            refine wpAnyH_ready (rs := [12]) (by kernel_rfl) (by simp) ?_
            refine AllReadyH.cons (o := ⟨none, .store 69 (.tmp 53) (.tmp 52), 0, "l02_files.go:191", #[⟨11, .data⟩, ⟨10, .data⟩, ⟨0, .phase⟩, ⟨1, .phase⟩, ⟨2, .phase⟩, ⟨3, .phase⟩, ⟨4, .phase⟩, ⟨5, .phase⟩, ⟨6, .phase⟩, ⟨7, .phase⟩, ⟨8, .phase⟩, ⟨9, .phase⟩, ⟨10, .phase⟩], none⟩) rfl (fun K hK => ?_) AllReadyH.nil
            go_simp
            have HT3 : Hid (Turn [g] wi (((wi.setCell ⟨g, j * 3, none⟩ (.int .i64 x.fId)).setCell ⟨g, j * 3 + 1, none⟩ (.slice ad nl cd)).setCell ⟨g, j * 3 + 2, none⟩ (.int .i64 nl)).drew) := Turn.drew (Turn.setCell (Turn.setCell (Turn.setCell (Turn.refl _ _) (by simp) _) (by simp) _) (by simp) _)
            have hlw := hbn.lt
            go_simp
            refine hK.out _ _ (⟨(HT3.out.cell (p := ⟨w.heap.size, 0, none⟩) (by simp; omega) (by simp; omega)).trans z0, (HT3.out.cell (p := ⟨wr.heap.size, 0, none⟩) (by simp; omega) (by simp; omega)).trans n0, (HT3.out.cell (p := ⟨wr.heap.size, 1, none⟩) (by simp; omega) (by simp; omega)).trans n1⟩) (fun hHeld => ?_)
            clear hK K
            try simp only [Act.put, List.setIfInBounds_toArray, List.set_cons_zero, List.set_cons_succ]
            refine wpAnyH_done (by kernel_rfl) ?_ _
            obtain ⟨w3, hw3⟩ : ∃ w3, w3 = (((wi.setCell ⟨g, j * 3, none⟩ (.int .i64 x.fId)).setCell ⟨g, j * 3 + 1, none⟩ (.slice ad nl cd)).setCell ⟨g, j * 3 + 2, none⟩ (.int .i64 nl)).drew := ⟨_, rfl⟩
            have hcut : cutI kp x = { x with fData := x.fData.take nl, fSure := (nl : Int) } := by unfold cutI; rw [HDN.out, ← HNL.out, Int.toNat_natCast]
            have hri : RowR 3 69 rInode w.heap.size wi ws.heap.size (.slice (some ⟨g, 0, none⟩) (partMap (cutI kp) kl j).length ck) (partMap (cutI kp) kl j) := by rw [HPL.out]; exact RowR.keep rInode_good HRow.out hbi hbk0
            have htl : (x.fData.take nl).length = nl := by rw [List.length_take, HDN.out]; omega
            have hmR : rInode w.heap.size wi [.int .i64 x.fId, .slice ad nl cd, .int .i64 nl] (cutI kp x) := by
              rw [hcut]
              refine ⟨ad, cd, ?_, hid, LeafB.take (HDA.out.below (hbi.mono hbk0)) nl, ?_, trivial⟩
              · simp only [htl]
              · show (Lit.int .i64 (nl : Int)).wf = true
                exact WalkArith.wf_i64 (by omega)
            obtain ⟨p1, p2, p3⟩ := RowR.put rInode_good hri hBss (Nat.le_trans hbk0 hbi.size) (j := j) (by rw [HPL.out]; exact hlt) rfl hmR
            have e1 : (partMap (cutI kp) kl j).set j (cutI kp x) = partMap (cutI kp) kl (j + 1) := by rw [← HX.out]; exact partMap_succ _ _ hlt
            rw [e1, HPL.out] at p1
            have hT3 : Turn [g] wi w3 := by rw [hw3]; exact HT3.out
            have hR3 : RowR 3 69 rInode w.heap.size w3 ws.heap.size (.slice (some ⟨g, 0, none⟩) kl.length ck) (partMap (cutI kp) kl (j + 1)) := by
              rw [hw3]
              exact RowR.keep rInode_good p1 (Below.drew (Below.refl _ _)) (by have := p2.size; have := hbi.size; omega)
            have HR3 := Hid.mk hR3
            have hB3 : Below w.heap.size w w3 := (bthen hbk hbi).trans (hT3.below (fun k hk => by simp at hk; omega) (bthen hbk hbi).size)
            have hbd3 := (HBD.out.under hbi).turn hT3 (by simp; omega)
            have hbr3 := (HBR.out.under hbi).turn hT3 (by simp; omega)
            have hlw3 : wr.heap.size < w3.heap.size := Nat.lt_of_lt_of_le hbn.lt hT3.size
            rw [← hw3]
            clear hw3 hT3 hR3 p1 p2 hri hmR hHeld q0 q1 q2 r0 r1 r2 z0 n0 n1 e1
            go_wp2_with fail
            go_roundw
            case rel => exact ⟨j + 1, by omega, by go_num, HR3.out, hB3, hbd3, hbr3⟩
            case measure => simp [intOf]; omega
        · have hjn : j = kl.length := by omega
          subst hjn
          have hrow := HRow.out
          rw [partMap_all] at hrow
          obtain ⟨ar, cr, hv, hlf⟩ := hrow.leaf rInode_good hbk.size
          rw [List.length_map] at hv
          simp only [Value.slice.injEq, true_and] at hv
          obtain ⟨rfl, rfl⟩ := hv
          have hrk : rDisk wr.heap.size wr [.slice ak kl.length ck, .slice a2 m.fSafe.length c2, .slice a2 m.fSafe.length c2, .int .i64 m.fNext] { m with fNames := m.fSafe, fInodes := kl.map (cutI kp) } := ⟨ak, ck, a2, c2, a2, c2, by simp, hlf, LeafL.mono rEntry_good (HSF.out.below rEntry_good hbk) hbk.size, LeafL.mono rEntry_good (HSF.out.below rEntry_good hbk) hbk.size, hnx, trivial⟩
          have HRK := Hid.mk hrk
          clear hrow hlf hrk
          obtain ⟨fd, hfd⟩ : ∃ fd, fd = { m with fNames := m.fSafe, fInodes := kl.map (cutI kp) } := ⟨_, rfl⟩
          rw [← hfd] at HRK HWF HV
          clear hfd
          have y0 := HBD.out.cell 0 _ rfl
          have y1 := HBD.out.cell 1 _ rfl
          have y2 := HBD.out.cell 2 _ rfl
          have y3 := HBD.out.cell 3 _ rfl
          go_wp2_with fail
          refine (copyDisk_any _ (fd) wr HRK.out HWF.out).mono ?_
          rintro e w3 ⟨cs3, F3, rfl, ho3, hN3, hge3, hx3⟩
          have hb3 := bthen hbk hx3
          have hbr3 := HBR.out.under hx3
          have hl3 := hbr3.lt
          have hz3 := hbk.size
          have hlq3 := HBR.out.lt
          obtain ⟨q0, p0, q1, p1, q2, p2, G0, G1, G2, rfl, _, _, _, _, rfl⟩ := oDisk_cells ho3
          have hkey : ∀ W', Turn [w.heap.size + 1] w3 W' → oDisk W' [.slice q0 (fd).fInodes.length p0, .slice q1 (fd).fNames.length p1, .slice q2 (fd).fSafe.length p2, .int .i64 (fd).fNext] (fd) (G0 ++ G1 ++ G2 ++ []) ∧ Below w.heap.size w W' := fun W' hT =>
            ⟨oDisk_good.frame ho3 (fun b hb => hT.block b (oDisk_good.lt ho3 b hb) (fun h => by simp at h; have := hge3 b hb; omega)), hb3.trans (hT.below (fun k hk => by simp at hk; omega) hb3.size)⟩
          have HKEY := Hid.mk hkey
          have HNQ := Hid.mk hN3
          have HGQ : Hid (∀ b, b ∈ G0 ++ G1 ++ G2 ++ [] → w.heap.size ≤ b) := fun b hb => by have := hge3 b hb; omega
          clear hkey ho3 hN3 hge3 y0 y1 y2 y3
          have ze0 := hbr3.cell 0 _ rfl
          have ze1 := hbr3.cell 1 _ rfl
          have ze2 := hbr3.cell 2 _ rfl
          have ze3 := hbr3.cell 3 _ rfl
          have zf0 := hbr3.free 0
          have zf1 := hbr3.free 1
          have zf2 := hbr3.free 2
          have zf3 := hbr3.free 3
          go_wp2_with fail
          obtain ⟨h1, h3⟩ := HKEY.out _ (show Turn [w.heap.size + 1] w3 ((((w3.setCell ⟨w.heap.size + 1, 0, none⟩ (.slice q0 (fd).fInodes.length p0)).setCell ⟨w.heap.size + 1, 1, none⟩ (.slice q1 (fd).fNames.length p1)).setCell ⟨w.heap.size + 1, 2, none⟩ (.slice q2 (fd).fSafe.length p2)).setCell ⟨w.heap.size + 1, 3, none⟩ (.int .i64 (fd).fNext)) from turn4 _ _ _ _ _ _)
          exact bodyPost_ret (v := .agg #[.slice q0 (fd).fInodes.length p0, .slice q1 (fd).fNames.length p1, .slice q2 (fd).fSafe.length p2, .int .i64 (fd).fNext]) (by simp [results, Try.results20, go_sem, *]) rfl ⟨[.slice q0 (fd).fInodes.length p0, .slice q1 (fd).fNames.length p1, .slice q2 (fd).fSafe.length p2, .int .i64 (fd).fNext], _, rfl, by rw [HV.out]; exact h1, HNQ.out, HGQ.out, h3⟩
  · have HV : Hid (fallP m kp = m) := by show _ = _; unfold fallP; rw [if_neg (by intro h; exact hK h.1)]
    have hK2 : diskOk m = false := Bool.eq_false_iff.2 hK
    rw [hK2]
    clear hK hK2
    go_wp2_with fail
    refine (copyDisk_any _ (m) w1 (rDisk_good.mono (rDisk_good.below HR.out hb1) hb1.size) HW.out).mono ?_
    rintro e w3 ⟨cs3, F3, rfl, ho3, hN3, hge3, hx3⟩
    have hb3 := bthen hb1 hx3
    have hbr3 := hbr1.under hx3
    have hl3 := hbr3.lt
    have hz3 := hb1.size
    have hlq3 := hbr1.lt
    obtain ⟨q0, p0, q1, p1, q2, p2, G0, G1, G2, rfl, _, _, _, _, rfl⟩ := oDisk_cells ho3
    have hkey : ∀ W', Turn [w.heap.size + 1] w3 W' → oDisk W' [.slice q0 m.fInodes.length p0, .slice q1 m.fNames.length p1, .slice q2 m.fSafe.length p2, .int .i64 m.fNext] (m) (G0 ++ G1 ++ G2 ++ []) ∧ Below w.heap.size w W' := fun W' hT =>
      ⟨oDisk_good.frame ho3 (fun b hb => hT.block b (oDisk_good.lt ho3 b hb) (fun h => by simp at h; have := hge3 b hb; omega)), hb3.trans (hT.below (fun k hk => by simp at hk; omega) hb3.size)⟩
    have HKEY := Hid.mk hkey
    have HNQ := Hid.mk hN3
    have HGQ : Hid (∀ b, b ∈ G0 ++ G1 ++ G2 ++ [] → w.heap.size ≤ b) := fun b hb => by have := hge3 b hb; omega
    clear hkey ho3 hN3 hge3 y0 y1 y2 y3
    have ze0 := hbr3.cell 0 _ rfl
    have ze1 := hbr3.cell 1 _ rfl
    have ze2 := hbr3.cell 2 _ rfl
    have ze3 := hbr3.cell 3 _ rfl
    have zf0 := hbr3.free 0
    have zf1 := hbr3.free 1
    have zf2 := hbr3.free 2
    have zf3 := hbr3.free 3
    go_wp2_with fail
    obtain ⟨h1, h3⟩ := HKEY.out _ (show Turn [w.heap.size + 1] w3 ((((w3.setCell ⟨w.heap.size + 1, 0, none⟩ (.slice q0 m.fInodes.length p0)).setCell ⟨w.heap.size + 1, 1, none⟩ (.slice q1 m.fNames.length p1)).setCell ⟨w.heap.size + 1, 2, none⟩ (.slice q2 m.fSafe.length p2)).setCell ⟨w.heap.size + 1, 3, none⟩ (.int .i64 m.fNext)) from turn4 _ _ _ _ _ _)
    exact bodyPost_ret (v := .agg #[.slice q0 m.fInodes.length p0, .slice q1 m.fNames.length p1, .slice q2 m.fSafe.length p2, .int .i64 m.fNext]) (by simp [results, Try.results20, go_sem, *]) rfl ⟨[.slice q0 m.fInodes.length p0, .slice q1 m.fNames.length p1, .slice q2 m.fSafe.length p2, .int .i64 m.fNext], _, rfl, by rw [HV.out]; exact h1, HNQ.out, HGQ.out, h3⟩

end Go.Proofs.Ytcipekagllikjaa
