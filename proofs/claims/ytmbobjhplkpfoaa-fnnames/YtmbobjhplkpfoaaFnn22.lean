/-
  Part 23 of the texts that the proof leans on.
-/
import Derived.Test.YtmbobjhplkpfoaaFnn0
import Derived.Test.YtmbobjhplkpfoaaFnn17
import Derived.Test.YtmbobjhplkpfoaaFnn14
import Derived.Test.YtmbobjhplkpfoaaFnn12
import Derived.Test.YtmbobjhplkpfoaaRows
import Derived.ProofKit
set_option linter.unusedVariables false
set_option linter.unusedSimpArgs false
set_option maxRecDepth 10000

namespace Go.Proofs.Ytmbobjhplkpfoaa
open Go.RowKit Go.Maps
abbrev q4f8_13_9_0 : Oper := ⟨some 42, .fieldAddr 27 (.tmp 2) 0, 0, "l02_files.go:191", #[], none⟩
abbrev q4f8_13_9_1 : Oper := ⟨some 43, .load 24 (.tmp 42), 24, "l02_files.go:191", #[⟨0, .data⟩], none⟩
abbrev q4f8_13_9_2 : Oper := ⟨some 44, .move (.tmp 5), 3, "l02_files.go:191", #[], none⟩
abbrev q4f8_13_9_3 : Oper := ⟨some 45, .fieldAddr 56 (.tmp 6) 0, 0, "l02_files.go:191", #[], none⟩
abbrev q4f8_13_9_4 : Oper := ⟨some 46, .load 3 (.tmp 45), 3, "l02_files.go:191", #[⟨3, .data⟩], none⟩
abbrev q4f8_13_9_5 : Oper := ⟨some 47, .fieldAddr 56 (.tmp 6) 1, 0, "l02_files.go:191", #[], none⟩
abbrev q4f8_13_9_6 : Oper := ⟨some 48, .load 22 (.tmp 47), 22, "l02_files.go:191", #[⟨5, .data⟩], none⟩
abbrev q4f8_13_9_7 : Oper := ⟨some 49, .move (.tmp 7), 3, "l02_files.go:191", #[], none⟩
abbrev q4f8_13_9_8 : Oper := ⟨some 50, .slice 22 (.tmp 48) none (some (.tmp 49)) none, 22, "l02_files.go:191", #[⟨6, .data⟩, ⟨7, .data⟩], none⟩
abbrev q4f8_13_9_9 : Oper := ⟨some 51, .move (.tmp 7), 3, "l02_files.go:191", #[], none⟩
abbrev q4f8_13_9_10 : Oper := ⟨some 52, .build 56 #[(0, .tmp 46), (1, .tmp 50), (2, .tmp 51)], 56, "l02_files.go:191", #[⟨4, .data⟩, ⟨8, .data⟩, ⟨9, .data⟩], none⟩
abbrev q4f8_13_9_11 : Oper := ⟨some 53, .indexAddr 24 (.tmp 43) (.tmp 44), 0, "l02_files.go:191", #[⟨1, .data⟩, ⟨2, .data⟩, ⟨0, .phase⟩, ⟨1, .phase⟩, ⟨2, .phase⟩, ⟨3, .phase⟩, ⟨4, .phase⟩, ⟨5, .phase⟩, ⟨6, .phase⟩, ⟨7, .phase⟩, ⟨8, .phase⟩, ⟨9, .phase⟩, ⟨10, .phase⟩], none⟩
abbrev q4f8_13_9_12 : Oper := ⟨none, .store 56 (.tmp 53) (.tmp 52), 0, "l02_files.go:191", #[⟨11, .data⟩, ⟨10, .data⟩, ⟨0, .phase⟩, ⟨1, .phase⟩, ⟨2, .phase⟩, ⟨3, .phase⟩, ⟨4, .phase⟩, ⟨5, .phase⟩, ⟨6, .phase⟩, ⟨7, .phase⟩, ⟨8, .phase⟩, ⟨9, .phase⟩, ⟨10, .phase⟩], none⟩

set_option maxHeartbeats 4000000 in
theorem implFall_c (cs : List Value) (m : MDisk) (kp : Int) (w : World) (hr : rDisk w.heap.size w cs m) (hkw : (Lit.int .i64 kp).wf = true) (hw : wDisk m ≤ 1048576) :
    Calls Try.prog 13 #[.agg cs.toArray, .int .i64 kp] w fun e w' => ∃ (cs' : List Value) (F : List Nat), e = .returned (.agg cs'.toArray) ∧ oDisk w' cs' (fallP m kp) F ∧ F.Nodup ∧ (∀ b, b ∈ F → w.heap.size ≤ b) ∧ Below w.heap.size w w' := by
  have hq := hr
  obtain ⟨a0, c0, a1, c1, a2, c2, rfl, hI, hNm, hSf, hnx, _⟩ := hq
  have hw2 : m.fInodes.length + sumW wInode m.fInodes + (m.fNames.length + sumW wEntry m.fNames) + (m.fSafe.length + sumW wEntry m.fSafe) ≤ 1048576 := hw
  have HW := Hid.mk hw
  have HR := Hid.mk hr
  have HI := Hid.mk hI
  have HSF := Hid.mk hSf
  clear hr hI hNm hSf hw
  have hkb : -9223372036854775808 ≤ kp ∧ kp ≤ 9223372036854775807 := by simpa [Lit.wf, IntKind.min, IntKind.max, IntKind.signed, IntKind.bits] using hkw
  obtain ⟨hkb1, hkb2⟩ := hkb
  go_enter Try.func13, Try.ntmps13
  go_wp2_with fail
  obtain ⟨wq, hwq⟩ : ∃ wq, wq = ((w.alloc (.cells #[.slice a0 m.fInodes.length c0, .slice a1 m.fNames.length c1, .slice a2 m.fSafe.length c2, .int .i64 m.fNext] 27)).alloc (.cells #[.slice none 0 0, .slice none 0 0, .slice none 0 0, .int .i64 0] 27)) := ⟨_, rfl⟩
  have hbW : Below w.heap.size w wq := by rw [hwq]; exact Below.alloc (Below.alloc (Below.refl _ _) (by exact Nat.le_refl _) _) (by simp; try omega) _
  have hbd : Bw wq (w.heap.size) 27 [.slice a0 m.fInodes.length c0, .slice a1 m.fNames.length c1, .slice a2 m.fSafe.length c2, .int .i64 m.fNext] := by rw [hwq]; exact Bw.alloc (Bw.new' _ _ _ (by simp)) _
  have hbr : Bw wq (w.heap.size + 1) 27 [.slice none 0 0, .slice none 0 0, .slice none 0 0, .int .i64 0] := by rw [hwq]; exact Bw.new' _ _ _ (by simp)
  rw [← hwq]
  clear hwq
  refine (implDiskOk_c _ m wq (rDisk_good.mono (rDisk_good.below HR.out hbW) hbW.size) HW.out).mono ?_
  rintro e w1 ⟨rfl, hx1⟩
  have hb1 := bthen hbW hx1
  have hbd1 := hbd.under hx1
  have hbr1 := hbr.under hx1
  have hl1 := hbd1.lt
  have hl1r := hbr1.lt
  have y0 := hbd1.cell 0 _ rfl
  have y1 := hbd1.cell 1 _ rfl
  have y2 := hbd1.cell 2 _ rfl
  have y3 := hbd1.cell 3 _ rfl
  clear hbd hbr
  by_cases hK : diskOk m = true
  · by_cases hkn : kp < 0
    · have HV : Hid (fallP m kp = m) := by show _ = _; unfold fallP; rw [if_neg (by omega)]
      rw [hK]
      clear hK
      go_wp2_with fail
      refine (copyDisk_any _ (m) w1 (rDisk_good.mono (rDisk_good.below HR.out hb1) hb1.size) HW.out).mono ?_
      rintro e w3 ⟨cs3, F3, rfl, ho3, hN3, hge3, hx3⟩
      have hb3 := bthen hb1 hx3
      have hbr3 := hbr1.under hx3
      have hl3 := hbr3.lt
      have hz3 := hb1.size
      have hlq3 := hbr1.lt
      obtain ⟨q0, p0, q1, p1, q2, p2, G0, G1, G2, rfl, _, _, _, _, rfl⟩ := oDisk_cells ho3
      have hkey : ∀ W', Turn [w.heap.size + 1] w3 W' → oDisk W' [.slice q0 m.fInodes.length p0, .slice q1 m.fNames.length p1, .slice q2 m.fSafe.length p2, .int .i64 m.fNext] (m) (G0 ++ G1 ++ G2 ++ []) ∧ Below w.heap.size w W' := fun W' hT =>
        ⟨oDisk_good.frame ho3 (fun b hb => hT.block b (oDisk_good.lt ho3 b hb) (fun h => by simp at h; have := hge3 b hb; omega)), hb3.trans (hT.below (fun k hk => by simp at hk; omega) hb3.size)⟩
      have HKEY := Hid.mk hkey
      have HNQ := Hid.mk hN3
      have HGQ : Hid (∀ b, b ∈ G0 ++ G1 ++ G2 ++ [] → w.heap.size ≤ b) := fun b hb => by have := hge3 b hb; omega
      clear hkey ho3 hN3 hge3 y0 y1 y2 y3
      have ze0 := hbr3.cell 0 _ rfl
      have ze1 := hbr3.cell 1 _ rfl
      have ze2 := hbr3.cell 2 _ rfl
      have ze3 := hbr3.cell 3 _ rfl
      have zf0 := hbr3.free 0
      have zf1 := hbr3.free 1
      have zf2 := hbr3.free 2
      have zf3 := hbr3.free 3
      go_wp2_with fail
      obtain ⟨h1, h3⟩ := HKEY.out _ (show Turn [w.heap.size + 1] w3 ((((w3.setCell ⟨w.heap.size + 1, 0, none⟩ (.slice q0 m.fInodes.length p0)).setCell ⟨w.heap.size + 1, 1, none⟩ (.slice q1 m.fNames.length p1)).setCell ⟨w.heap.size + 1, 2, none⟩ (.slice q2 m.fSafe.length p2)).setCell ⟨w.heap.size + 1, 3, none⟩ (.int .i64 m.fNext)) from turn4 _ _ _ _ _ _)
      exact bodyPost_ret (v := .agg #[.slice q0 m.fInodes.length p0, .slice q1 m.fNames.length p1, .slice q2 m.fSafe.length p2, .int .i64 m.fNext]) (by simp [results, Try.results13, go_sem, *]) rfl ⟨[.slice q0 m.fInodes.length p0, .slice q1 m.fNames.length p1, .slice q2 m.fSafe.length p2, .int .i64 m.fNext], _, rfl, by rw [HV.out]; exact h1, HNQ.out, HGQ.out, h3⟩
    · have hk0 : 0 ≤ kp := by omega
      have hknn : (kp < 0) = False := eq_false hkn
      have hDR := diskOk_iff.1 hK
      have HV : Hid (fallP m kp = { m with fNames := m.fSafe, fInodes := (keepI { m with fNames := m.fSafe }).map (cutI kp) }) := by show _ = _; unfold fallP; rw [if_pos ⟨hK, hk0⟩]
      have hwt := ok_weight hK
      have hwk : wDisk { m with fNames := m.fSafe } ≤ 1048576 := by rw [wDisk_eq]; simp only; omega
      have HWK1 : Hid (wDisk { m with fNames := m.fSafe } ≤ 16777216) := by show _ ≤ _; omega
      have HWF : Hid (wDisk { m with fNames := m.fSafe, fInodes := (keepI { m with fNames := m.fSafe }).map (cutI kp) } ≤ 1048576) := by
        show _ ≤ _
        have h1 := keepD_weight { m with fNames := m.fSafe }
        unfold keepD at h1
        rw [wDisk_eq] at h1 ⊢
        have h2 := sumW_map_le (f := cutI kp) (fun x => by unfold cutI wInode; simp; omega) (keepI { m with fNames := m.fSafe })
        simp only [List.length_map] at h1 ⊢
        omega
      have HEA : Hid (∀ x, x ∈ keepI { m with fNames := m.fSafe } → 0 ≤ x.fSure ∧ x.fSure ≤ x.fData.length ∧ x.fData.length ≤ 60000) := by
        intro x hx
        have hx' : x ∈ m.fInodes := (List.mem_filter.1 hx).1
        obtain ⟨i, hi, rfl⟩ := List.mem_iff_getElem.1 hx'
        have h1 := hDR.each _ hx'
        have h2 := sumW_le (f := wInode) hi
        have h3 : wInode m.fInodes[i] = m.fInodes[i].fData.length := rfl
        omega
      have hkl : (keepI { m with fNames := m.fSafe }).length ≤ 60 := Nat.le_trans (List.length_filter_le _ _) (by show m.fInodes.length ≤ 60; omega)
      rw [hK]
      clear hK hwt hwk hDR
      have f1 := hbd1.free 1
      go_wp2_with fail
      obtain ⟨ws, hws⟩ : ∃ ws, ws = w1.setCell ⟨w.heap.size, 1, none⟩ (.slice a2 m.fSafe.length c2) := ⟨_, rfl⟩
      have hTs : Turn [w.heap.size] w1 ws := by rw [hws]; exact Turn.setCell (Turn.refl _ _) (by simp) _
      have hbds : Bw ws w.heap.size 27 [.slice a0 m.fInodes.length c0, .slice a2 m.fSafe.length c2, .slice a2 m.fSafe.length c2, .int .i64 m.fNext] := by rw [hws]; exact hbd1.put 1 _
      rw [← hws]
      clear hws y0 y1 y2 y3 f1
      have hbrs := hbr1.turn hTs (by simp)
      have hBs : Below w.heap.size w ws := hb1.trans (hTs.below (fun k hk => by simp at hk; omega) hb1.size)
      refine (namedInodes_rowB a0 a2 a2 c0 c2 c2 { m with fNames := m.fSafe } ws w.heap.size hBs.size (HI.out.below rInode_good hBs) (LeafL.mono rEntry_good (HSF.out.below rEntry_good hBs) hBs.size) (LeafL.mono rEntry_good (HSF.out.below rEntry_good hBs) hBs.size) HWK1.out).mono ?_
      rintro e w2 ⟨ak, ck, rfl, hrow, _, hx2⟩
      obtain ⟨kl, hkl2⟩ : ∃ kl, kl = keepI { m with fNames := m.fSafe } := ⟨_, rfl⟩
      rw [← hkl2] at hrow hkl HEA HV HWF ⊢
      have HROW := Hid.mk hrow
      have hb2 := bthen hBs hx2
      have hbd2 := hbds.under hx2
      have hbr2 := hbrs.under hx2
      have hl2 := hbd2.lt
      have hl2s := hbds.lt
      have hl2r := hbrs.lt
      have y0 := hbd2.cell 0 _ rfl
      have y1 := hbd2.cell 1 _ rfl
      have y2 := hbd2.cell 2 _ rfl
      have y3 := hbd2.cell 3 _ rfl
      have f0 := hbd2.free 0
      clear hrow hkl2
      have hx2s := hx2.size
      have hBss := hBs.size
      have hcur : ∀ W, Turn [w.heap.size] w2 W → True := fun _ _ => trivial
      clear hcur
      go_wp2_with fail
      obtain ⟨wt, hwt⟩ : ∃ wt, wt = w2.setCell ⟨w.heap.size, 0, none⟩ (.slice ak kl.length ck) := ⟨_, rfl⟩
      have hTt : Turn [w.heap.size] w2 wt := by rw [hwt]; exact Turn.setCell (Turn.refl _ _) (by simp) _
      have hbdt : Bw wt w.heap.size 27 [.slice ak kl.length ck, .slice a2 m.fSafe.length c2, .slice a2 m.fSafe.length c2, .int .i64 m.fNext] := by rw [hwt]; exact hbd2.put 0 _
      rw [← hwt]
      clear hwt y0 y1 y2 y3 f0
      have hbrt := hbr2.turn hTt (by simp)
      have hBt : Below w.heap.size w wt := hb2.trans (hTt.below (fun k hk => by simp at hk; omega) hb2.size)
      have hrt : RowR 3 56 rInode w.heap.size wt ws.heap.size (.slice ak kl.length ck) (partMap (cutI kp) kl 0) := by
        rw [partMap_zero]
        exact RowR.turn rInode_good HROW.out hTt (fun k hk => by simp at hk; omega) hb2.size (Nat.le_refl _)
      go_loopw [26] (fun i wr => ∃ j : Nat, j ≤ kl.length ∧ i = .int .i64 j ∧ RowR 3 56 rInode w.heap.size wr ws.heap.size (.slice ak kl.length ck) (partMap (cutI kp) kl j) ∧ Below w.heap.size w wr ∧ Bw wr w.heap.size 27 [.slice ak kl.length ck, .slice a2 m.fSafe.length c2, .slice a2 m.fSafe.length c2, .int .i64 m.fNext] ∧ Bw wr (w.heap.size + 1) 27 [.slice none 0 0, .slice none 0 0, .slice none 0 0, .int .i64 0]) (fun i _ => kl.length - (intOf i).toNat)
      case atStart => exact ⟨0, Nat.zero_le _, rfl, hrt, hBt, hbdt, hbrt⟩
      case round =>
        obtain ⟨j, hj, rfl, hrow, hbk, hbdk, hbrk⟩ := hrel
        have HRow := Hid.mk hrow
        have HBD := Hid.mk hbdk
        have HBR := Hid.mk hbrk
        have hlx := hbdk.lt
        have hly := hbrk.lt
        clear hrow hbdk hbrk hrt hBt hbdt hbrt HROW
        by_cases hlt : j < kl.length
        · have hpl := partMap_length (cutI kp) kl hj
          obtain ⟨g, cap, cs, hv, hgb, hgl, hcl, hrI, hcell, hfree⟩ := HRow.out.at (j := j) (by rw [hpl]; exact hlt)
          rw [partMap_at _ _ hlt] at hrI
          rw [hpl] at hv
          simp only [Value.slice.injEq, true_and] at hv
          obtain ⟨rfl, rfl⟩ := hv
          have hxe := HEA.out kl[j] (List.getElem_mem hlt)
          obtain ⟨x, hx⟩ : ∃ x, kl[j] = x := ⟨_, rfl⟩
          rw [hx] at hrI hxe
          have HX : Hid (kl[j] = x) := hx
          clear hx
          obtain ⟨ad, cd, rfl, hid, hda, hsu, _⟩ := hrI
          obtain ⟨hx1, hx2, hx3⟩ := hxe
          have k0 := hcell 0 _ rfl
          have k1 := hcell 1 _ rfl
          have k2 := hcell 2 _ rfl
          rw [Nat.add_zero] at k0
          have HFR := Hid.mk hfree
          have HDA := Hid.mk hda
          have HPL := Hid.mk hpl
          obtain ⟨dn, hdn⟩ : ∃ dn, x.fData.length = dn := ⟨_, rfl⟩
          have HDN := Hid.mk hdn
          rw [hdn] at k1 hx2 hx3
          obtain ⟨nl, hnl⟩ : ∃ nl : Nat, (nl : Int) = x.fSure + min kp (dn - x.fSure) := ⟨(x.fSure + min kp (dn - x.fSure)).toNat, by omega⟩
          have hnl2 : nl ≤ dn := by omega
          have HNL := Hid.mk hnl
          have hcd : dn ≤ cd := by have := hda.1; omega
          have hcd2 : cd ≤ 9223372036854775807 := hda.2.1
          clear hcell hfree hda hpl hcl hdn
          by_cases hmn : kp ≤ dn - x.fSure
          · have hnl3 : x.fSure + kp = (nl : Int) := by omega
            clear hnl
            go_wp2_with fail
            obtain ⟨wi, hwi⟩ : ∃ wi, wi = wr.alloc (.cells #[.int .i64 x.fId, .slice ad dn cd, .int .i64 x.fSure] 56) := ⟨_, rfl⟩
            have hbi : Below wr.heap.size wr wi := by rw [hwi]; exact (Below.refl _ _).alloc (Nat.le_refl _) _
            have hbn : Bw wi wr.heap.size 56 [.int .i64 x.fId, .slice ad dn cd, .int .i64 x.fSure] := by rw [hwi]; exact Bw.new _ _ _
            rw [← hwi]
            clear hwi
            have hbk0 := hbk.size
            have hgi : g < wi.heap.size := Nat.lt_of_lt_of_le hgl hbi.size
            have q0 := (hbi.cell (p := ⟨g, j * 3, none⟩) hgl).trans k0
            have q1 := (hbi.cell (p := ⟨g, j * 3 + 1, none⟩) hgl).trans k1
            have q2 := (hbi.cell (p := ⟨g, j * 3 + 2, none⟩) hgl).trans k2
            have r0 := (hbi.frozen (p := ⟨g, j * 3, none⟩) hgl).trans (HFR.out _)
            have r1 := (hbi.frozen (p := ⟨g, j * 3 + 1, none⟩) hgl).trans (HFR.out _)
            have r2 := (hbi.frozen (p := ⟨g, j * 3 + 2, none⟩) hgl).trans (HFR.out _)
            have z0 := (HBD.out.under hbi).cell 0 _ rfl
            have n0 := hbn.cell 0 _ rfl
            have n1 := hbn.cell 1 _ rfl
            have hnlc : (nl : Int) ≤ (cd : Int) := by omega
            have hnl0 : (0 : Int) ≤ (nl : Int) := by omega
            have hgw : g ≠ w.heap.size := by omega
            have hgr : g ≠ wr.heap.size := by omega
            clear k0 k1 k2
            refine wp_region_held_drew (S := fun W => W.cell? ⟨w.heap.size, 0, none⟩ = some (.slice (some ⟨g, 0, none⟩) kl.length ck) ∧ W.cell? ⟨wr.heap.size, 0, none⟩ = some (.int .i64 x.fId) ∧ W.cell? ⟨wr.heap.size, 1, none⟩ = some (.slice ad dn cd)) (by kernel_rfl) (⟨z0, n0, n1⟩) (fun hHeld => ?_)
            refine tk 0 q4f8_13_9_0 (some 42) (v := ?v1) rfl rfl (by kernel_rfl) hHeld (by rfl) (fun _ _ _ x => x) (fun w h => ?y1) ?_; (case y1 => (try dsimp only at h); go_simp; try (with_reducible rfl)); try simp only [Act.put, sa, s0, s1]
            refine tk 1 q4f8_13_9_1 (some 43) (v := ?v2) rfl rfl (by kernel_rfl) hHeld (by rfl) (fun _ _ _ x => x) (fun w h => ?y2) ?_; (case y2 => (try dsimp only at h); go_simp; try (with_reducible rfl)); try simp only [Act.put, sa, s0, s1]
            refine tk 2 q4f8_13_9_2 (some 44) (v := ?v3) rfl rfl (by kernel_rfl) hHeld (by rfl) (fun _ _ _ x => x) (fun w h => ?y3) ?_; (case y3 => (try dsimp only at h); go_simp; try (with_reducible rfl)); try simp only [Act.put, sa, s0, s1]
            refine tk 3 q4f8_13_9_3 (some 45) (v := ?v4) rfl rfl (by kernel_rfl) hHeld (by rfl) (fun _ _ _ x => x) (fun w h => ?y4) ?_; (case y4 => (try dsimp only at h); go_simp; try (with_reducible rfl)); try simp only [Act.put, sa, s0, s1]
            refine tk 4 q4f8_13_9_4 (some 46) (v := ?v5) rfl rfl (by kernel_rfl) hHeld (by rfl) (fun _ _ _ x => x) (fun w h => ?y5) ?_; (case y5 => (try dsimp only at h); go_simp; try (with_reducible rfl)); try simp only [Act.put, sa, s0, s1]
            refine tk 5 q4f8_13_9_5 (some 47) (v := ?v6) rfl rfl (by kernel_rfl) hHeld (by rfl) (fun _ _ _ x => x) (fun w h => ?y6) ?_; (case y6 => (try dsimp only at h); go_simp; try (with_reducible rfl)); try simp only [Act.put, sa, s0, s1]
            refine tk 6 q4f8_13_9_6 (some 48) (v := ?v7) rfl rfl (by kernel_rfl) hHeld (by rfl) (fun _ _ _ x => x) (fun w h => ?y7) ?_; (case y7 => (try dsimp only at h); go_simp; try (with_reducible rfl)); try simp only [Act.put, sa, s0, s1]
            refine tk 7 q4f8_13_9_7 (some 49) (v := ?v8) rfl rfl (by kernel_rfl) hHeld (by rfl) (fun _ _ _ x => x) (fun w h => ?y8) ?_; (case y8 => (try dsimp only at h); go_simp; try (with_reducible rfl)); try simp only [Act.put, sa, s0, s1]
            refine tk 8 q4f8_13_9_8 (some 50) (v := ?v9) rfl rfl (by kernel_rfl) hHeld (by rfl) (fun _ _ _ x => x) (fun w h => ?y9) ?_; (case y9 => (try dsimp only at h); go_simp; try (with_reducible rfl)); try simp only [Act.put, sa, s0, s1]
            refine tk 9 q4f8_13_9_9 (some 51) (v := ?v10) rfl rfl (by kernel_rfl) hHeld (by rfl) (fun _ _ _ x => x) (fun w h => ?y10) ?_; (case y10 => (try dsimp only at h); go_simp; try (with_reducible rfl)); try simp only [Act.put, sa, s0, s1]
            refine tk 10 q4f8_13_9_10 (some 52) (v := ?v11) rfl rfl (by kernel_rfl) hHeld (by rfl) (fun _ _ _ x => x) (fun w h => ?y11) ?_; (case y11 => (try dsimp only at h); go_simp; try (with_reducible rfl)); try simp only [Act.put, sa, s0, s1]
            refine tk 11 q4f8_13_9_11 (some 53) (v := ?v12) rfl rfl (by kernel_rfl) hHeld (by rfl) (fun _ _ _ x => x) (fun w h => ?y12) ?_; (case y12 => (try dsimp only at h); go_simp; try (with_reducible rfl)); try simp only [Act.put, sa, s0, s1]
            refine wpAnyH_ready (rs := [12]) (by kernel_rfl) (by simp) ?_
            refine AllReadyH.cons (o := q4f8_13_9_12) rfl (fun K hK => ?_) AllReadyH.nil
            go_simp
            have HT3 : Hid (Turn [g] wi (((wi.setCell ⟨g, j * 3, none⟩ (.int .i64 x.fId)).setCell ⟨g, j * 3 + 1, none⟩ (.slice ad nl cd)).setCell ⟨g, j * 3 + 2, none⟩ (.int .i64 nl)).drew) := Turn.drew (Turn.setCell (Turn.setCell (Turn.setCell (Turn.refl _ _) (by simp) _) (by simp) _) (by simp) _)
            have hlw := hbn.lt
            go_simp
            refine hK.out _ _ (⟨(HT3.out.cell (p := ⟨w.heap.size, 0, none⟩) (by simp; omega) (by simp; omega)).trans z0, (HT3.out.cell (p := ⟨wr.heap.size, 0, none⟩) (by simp; omega) (by simp; omega)).trans n0, (HT3.out.cell (p := ⟨wr.heap.size, 1, none⟩) (by simp; omega) (by simp; omega)).trans n1⟩) (fun hHeld => ?_)
            clear hK K
            try simp only [Act.put, sa, s0, s1]
            refine wpAnyH_done (by kernel_rfl) ?_ _
            obtain ⟨w3, hw3⟩ : ∃ w3, w3 = (((wi.setCell ⟨g, j * 3, none⟩ (.int .i64 x.fId)).setCell ⟨g, j * 3 + 1, none⟩ (.slice ad nl cd)).setCell ⟨g, j * 3 + 2, none⟩ (.int .i64 nl)).drew := ⟨_, rfl⟩
            have hcut : cutI kp x = { x with fData := x.fData.take nl, fSure := (nl : Int) } := by unfold cutI; rw [HDN.out, ← HNL.out, Int.toNat_natCast]
            have hri : RowR 3 56 rInode w.heap.size wi ws.heap.size (.slice (some ⟨g, 0, none⟩) (partMap (cutI kp) kl j).length ck) (partMap (cutI kp) kl j) := by rw [HPL.out]; exact RowR.keep rInode_good HRow.out hbi hbk0
            have htl : (x.fData.take nl).length = nl := by rw [List.length_take, HDN.out]; omega
            have hmR : rInode w.heap.size wi [.int .i64 x.fId, .slice ad nl cd, .int .i64 nl] (cutI kp x) := by
              rw [hcut]
              refine ⟨ad, cd, ?_, hid, LeafB.take (HDA.out.below (hbi.mono hbk0)) nl, ?_, trivial⟩
              · simp only [htl]
              · show (Lit.int .i64 (nl : Int)).wf = true
                exact WalkArith.wf_i64 (by omega)
            obtain ⟨p1, p2, p3⟩ := RowR.put rInode_good hri hBss (Nat.le_trans hbk0 hbi.size) (j := j) (by rw [HPL.out]; exact hlt) rfl hmR
            have e1 : (partMap (cutI kp) kl j).set j (cutI kp x) = partMap (cutI kp) kl (j + 1) := by rw [← HX.out]; exact partMap_succ _ _ hlt
            rw [e1, HPL.out] at p1
            have hT3 : Turn [g] wi w3 := by rw [hw3]; exact HT3.out
            have hR3 : RowR 3 56 rInode w.heap.size w3 ws.heap.size (.slice (some ⟨g, 0, none⟩) kl.length ck) (partMap (cutI kp) kl (j + 1)) := by
              rw [hw3]
              exact RowR.keep rInode_good p1 (Below.drew (Below.refl _ _)) (by have := p2.size; have := hbi.size; omega)
            have HR3 := Hid.mk hR3
            have hB3 : Below w.heap.size w w3 := (bthen hbk hbi).trans (hT3.below (fun k hk => by simp at hk; omega) (bthen hbk hbi).size)
            have hbd3 := (HBD.out.under hbi).turn hT3 (by simp; omega)
            have hbr3 := (HBR.out.under hbi).turn hT3 (by simp; omega)
            have hlw3 : wr.heap.size < w3.heap.size := Nat.lt_of_lt_of_le hbn.lt hT3.size
            rw [← hw3]
            clear hw3 hT3 hR3 p1 p2 hri hmR hHeld q0 q1 q2 r0 r1 r2 z0 n0 n1 e1
            go_wp2_with fail
            go_roundw
            case rel => exact ⟨j + 1, by omega, by go_num, HR3.out, hB3, hbd3, hbr3⟩
            case measure => simp [intOf]; omega
          · have hnl3 : x.fSure + ((dn : Int) - x.fSure) = (nl : Int) := by omega
            have hmn2 : (dn - x.fSure : Int) ≤ kp := by omega
            clear hnl
            go_wp2_with fail
            obtain ⟨wi, hwi⟩ : ∃ wi, wi = wr.alloc (.cells #[.int .i64 x.fId, .slice ad dn cd, .int .i64 x.fSure] 56) := ⟨_, rfl⟩
            have hbi : Below wr.heap.size wr wi := by rw [hwi]; exact (Below.refl _ _).alloc (Nat.le_refl _) _
            have hbn : Bw wi wr.heap.size 56 [.int .i64 x.fId, .slice ad dn cd, .int .i64 x.fSure] := by rw [hwi]; exact Bw.new _ _ _
            rw [← hwi]
            clear hwi
            have hbk0 := hbk.size
            have hgi : g < wi.heap.size := Nat.lt_of_lt_of_le hgl hbi.size
            have q0 := (hbi.cell (p := ⟨g, j * 3, none⟩) hgl).trans k0
            have q1 := (hbi.cell (p := ⟨g, j * 3 + 1, none⟩) hgl).trans k1
            have q2 := (hbi.cell (p := ⟨g, j * 3 + 2, none⟩) hgl).trans k2
            have r0 := (hbi.frozen (p := ⟨g, j * 3, none⟩) hgl).trans (HFR.out _)
            have r1 := (hbi.frozen (p := ⟨g, j * 3 + 1, none⟩) hgl).trans (HFR.out _)
            have r2 := (hbi.frozen (p := ⟨g, j * 3 + 2, none⟩) hgl).trans (HFR.out _)
            have z0 := (HBD.out.under hbi).cell 0 _ rfl
            have n0 := hbn.cell 0 _ rfl
            have n1 := hbn.cell 1 _ rfl
            have hnlc : (nl : Int) ≤ (cd : Int) := by omega
            have hnl0 : (0 : Int) ≤ (nl : Int) := by omega
            have hgw : g ≠ w.heap.size := by omega
            have hgr : g ≠ wr.heap.size := by omega
            clear k0 k1 k2
            refine wp_region_held_drew (S := fun W => W.cell? ⟨w.heap.size, 0, none⟩ = some (.slice (some ⟨g, 0, none⟩) kl.length ck) ∧ W.cell? ⟨wr.heap.size, 0, none⟩ = some (.int .i64 x.fId) ∧ W.cell? ⟨wr.heap.size, 1, none⟩ = some (.slice ad dn cd)) (by kernel_rfl) (⟨z0, n0, n1⟩) (fun hHeld => ?_)
            refine tk 0 q4f8_13_9_0 (some 42) (v := ?v13) rfl rfl (by kernel_rfl) hHeld (by rfl) (fun _ _ _ x => x) (fun w h => ?y13) ?_; (case y13 => (try dsimp only at h); go_simp; try (with_reducible rfl)); try simp only [Act.put, sa, s0, s1]
            refine tk 1 q4f8_13_9_1 (some 43) (v := ?v14) rfl rfl (by kernel_rfl) hHeld (by rfl) (fun _ _ _ x => x) (fun w h => ?y14) ?_; (case y14 => (try dsimp only at h); go_simp; try (with_reducible rfl)); try simp only [Act.put, sa, s0, s1]
            refine tk 2 q4f8_13_9_2 (some 44) (v := ?v15) rfl rfl (by kernel_rfl) hHeld (by rfl) (fun _ _ _ x => x) (fun w h => ?y15) ?_; (case y15 => (try dsimp only at h); go_simp; try (with_reducible rfl)); try simp only [Act.put, sa, s0, s1]
            refine tk 3 q4f8_13_9_3 (some 45) (v := ?v16) rfl rfl (by kernel_rfl) hHeld (by rfl) (fun _ _ _ x => x) (fun w h => ?y16) ?_; (case y16 => (try dsimp only at h); go_simp; try (with_reducible rfl)); try simp only [Act.put, sa, s0, s1]
            refine tk 4 q4f8_13_9_4 (some 46) (v := ?v17) rfl rfl (by kernel_rfl) hHeld (by rfl) (fun _ _ _ x => x) (fun w h => ?y17) ?_; (case y17 => (try dsimp only at h); go_simp; try (with_reducible rfl)); try simp only [Act.put, sa, s0, s1]
            refine tk 5 q4f8_13_9_5 (some 47) (v := ?v18) rfl rfl (by kernel_rfl) hHeld (by rfl) (fun _ _ _ x => x) (fun w h => ?y18) ?_; (case y18 => (try dsimp only at h); go_simp; try (with_reducible rfl)); try simp only [Act.put, sa, s0, s1]
            refine tk 6 q4f8_13_9_6 (some 48) (v := ?v19) rfl rfl (by kernel_rfl) hHeld (by rfl) (fun _ _ _ x => x) (fun w h => ?y19) ?_; (case y19 => (try dsimp only at h); go_simp; try (with_reducible rfl)); try simp only [Act.put, sa, s0, s1]
            refine tk 7 q4f8_13_9_7 (some 49) (v := ?v20) rfl rfl (by kernel_rfl) hHeld (by rfl) (fun _ _ _ x => x) (fun w h => ?y20) ?_; (case y20 => (try dsimp only at h); go_simp; try (with_reducible rfl)); try simp only [Act.put, sa, s0, s1]
            refine tk 8 q4f8_13_9_8 (some 50) (v := ?v21) rfl rfl (by kernel_rfl) hHeld (by rfl) (fun _ _ _ x => x) (fun w h => ?y21) ?_; (case y21 => (try dsimp only at h); go_simp; try (with_reducible rfl)); try simp only [Act.put, sa, s0, s1]
            refine tk 9 q4f8_13_9_9 (some 51) (v := ?v22) rfl rfl (by kernel_rfl) hHeld (by rfl) (fun _ _ _ x => x) (fun w h => ?y22) ?_; (case y22 => (try dsimp only at h); go_simp; try (with_reducible rfl)); try simp only [Act.put, sa, s0, s1]
            refine tk 10 q4f8_13_9_10 (some 52) (v := ?v23) rfl rfl (by kernel_rfl) hHeld (by rfl) (fun _ _ _ x => x) (fun w h => ?y23) ?_; (case y23 => (try dsimp only at h); go_simp; try (with_reducible rfl)); try simp only [Act.put, sa, s0, s1]
            refine tk 11 q4f8_13_9_11 (some 53) (v := ?v24) rfl rfl (by kernel_rfl) hHeld (by rfl) (fun _ _ _ x => x) (fun w h => ?y24) ?_; (case y24 => (try dsimp only at h); go_simp; try (with_reducible rfl)); try simp only [Act.put, sa, s0, s1]
            refine wpAnyH_ready (rs := [12]) (by kernel_rfl) (by simp) ?_
            refine AllReadyH.cons (o := q4f8_13_9_12) rfl (fun K hK => ?_) AllReadyH.nil
            go_simp
            have HT3 : Hid (Turn [g] wi (((wi.setCell ⟨g, j * 3, none⟩ (.int .i64 x.fId)).setCell ⟨g, j * 3 + 1, none⟩ (.slice ad nl cd)).setCell ⟨g, j * 3 + 2, none⟩ (.int .i64 nl)).drew) := Turn.drew (Turn.setCell (Turn.setCell (Turn.setCell (Turn.refl _ _) (by simp) _) (by simp) _) (by simp) _)
            have hlw := hbn.lt
            go_simp
            refine hK.out _ _ (⟨(HT3.out.cell (p := ⟨w.heap.size, 0, none⟩) (by simp; omega) (by simp; omega)).trans z0, (HT3.out.cell (p := ⟨wr.heap.size, 0, none⟩) (by simp; omega) (by simp; omega)).trans n0, (HT3.out.cell (p := ⟨wr.heap.size, 1, none⟩) (by simp; omega) (by simp; omega)).trans n1⟩) (fun hHeld => ?_)
            clear hK K
            try simp only [Act.put, sa, s0, s1]
            refine wpAnyH_done (by kernel_rfl) ?_ _
            obtain ⟨w3, hw3⟩ : ∃ w3, w3 = (((wi.setCell ⟨g, j * 3, none⟩ (.int .i64 x.fId)).setCell ⟨g, j * 3 + 1, none⟩ (.slice ad nl cd)).setCell ⟨g, j * 3 + 2, none⟩ (.int .i64 nl)).drew := ⟨_, rfl⟩
            have hcut : cutI kp x = { x with fData := x.fData.take nl, fSure := (nl : Int) } := by unfold cutI; rw [HDN.out, ← HNL.out, Int.toNat_natCast]
            have hri : RowR 3 56 rInode w.heap.size wi ws.heap.size (.slice (some ⟨g, 0, none⟩) (partMap (cutI kp) kl j).length ck) (partMap (cutI kp) kl j) := by rw [HPL.out]; exact RowR.keep rInode_good HRow.out hbi hbk0
            have htl : (x.fData.take nl).length = nl := by rw [List.length_take, HDN.out]; omega
            have hmR : rInode w.heap.size wi [.int .i64 x.fId, .slice ad nl cd, .int .i64 nl] (cutI kp x) := by
              rw [hcut]
              refine ⟨ad, cd, ?_, hid, LeafB.take (HDA.out.below (hbi.mono hbk0)) nl, ?_, trivial⟩
              · simp only [htl]
              · show (Lit.int .i64 (nl : Int)).wf = true
                exact WalkArith.wf_i64 (by omega)
            obtain ⟨p1, p2, p3⟩ := RowR.put rInode_good hri hBss (Nat.le_trans hbk0 hbi.size) (j := j) (by rw [HPL.out]; exact hlt) rfl hmR
            have e1 : (partMap (cutI kp) kl j).set j (cutI kp x) = partMap (cutI kp) kl (j + 1) := by rw [← HX.out]; exact partMap_succ _ _ hlt
            rw [e1, HPL.out] at p1
            have hT3 : Turn [g] wi w3 := by rw [hw3]; exact HT3.out
            have hR3 : RowR 3 56 rInode w.heap.size w3 ws.heap.size (.slice (some ⟨g, 0, none⟩) kl.length ck) (partMap (cutI kp) kl (j + 1)) := by
              rw [hw3]
              exact RowR.keep rInode_good p1 (Below.drew (Below.refl _ _)) (by have := p2.size; have := hbi.size; omega)
            have HR3 := Hid.mk hR3
            have hB3 : Below w.heap.size w w3 := (bthen hbk hbi).trans (hT3.below (fun k hk => by simp at hk; omega) (bthen hbk hbi).size)
            have hbd3 := (HBD.out.under hbi).turn hT3 (by simp; omega)
            have hbr3 := (HBR.out.under hbi).turn hT3 (by simp; omega)
            have hlw3 : wr.heap.size < w3.heap.size := Nat.lt_of_lt_of_le hbn.lt hT3.size
            rw [← hw3]
            clear hw3 hT3 hR3 p1 p2 hri hmR hHeld q0 q1 q2 r0 r1 r2 z0 n0 n1 e1
            go_wp2_with fail
            go_roundw
            case rel => exact ⟨j + 1, by omega, by go_num, HR3.out, hB3, hbd3, hbr3⟩
            case measure => simp [intOf]; omega
        · have hjn : j = kl.length := by omega
          subst hjn
          have hrow := HRow.out
          rw [partMap_all] at hrow
          obtain ⟨ar, cr, hv, hlf⟩ := hrow.leaf rInode_good hbk.size
          rw [List.length_map] at hv
          simp only [Value.slice.injEq, true_and] at hv
          obtain ⟨rfl, rfl⟩ := hv
          have hrk : rDisk wr.heap.size wr [.slice ak kl.length ck, .slice a2 m.fSafe.length c2, .slice a2 m.fSafe.length c2, .int .i64 m.fNext] { m with fNames := m.fSafe, fInodes := kl.map (cutI kp) } := ⟨ak, ck, a2, c2, a2, c2, by simp, hlf, LeafL.mono rEntry_good (HSF.out.below rEntry_good hbk) hbk.size, LeafL.mono rEntry_good (HSF.out.below rEntry_good hbk) hbk.size, hnx, trivial⟩
          have HRK := Hid.mk hrk
          clear hrow hlf hrk
          obtain ⟨fd, hfd⟩ : ∃ fd, fd = { m with fNames := m.fSafe, fInodes := kl.map (cutI kp) } := ⟨_, rfl⟩
          rw [← hfd] at HRK HWF HV
          clear hfd
          have y0 := HBD.out.cell 0 _ rfl
          have y1 := HBD.out.cell 1 _ rfl
          have y2 := HBD.out.cell 2 _ rfl
          have y3 := HBD.out.cell 3 _ rfl
          go_wp2_with fail
          refine (copyDisk_any _ (fd) wr HRK.out HWF.out).mono ?_
          rintro e w3 ⟨cs3, F3, rfl, ho3, hN3, hge3, hx3⟩
          have hb3 := bthen hbk hx3
          have hbr3 := HBR.out.under hx3
          have hl3 := hbr3.lt
          have hz3 := hbk.size
          have hlq3 := HBR.out.lt
          obtain ⟨q0, p0, q1, p1, q2, p2, G0, G1, G2, rfl, _, _, _, _, rfl⟩ := oDisk_cells ho3
          have hkey : ∀ W', Turn [w.heap.size + 1] w3 W' → oDisk W' [.slice q0 (fd).fInodes.length p0, .slice q1 (fd).fNames.length p1, .slice q2 (fd).fSafe.length p2, .int .i64 (fd).fNext] (fd) (G0 ++ G1 ++ G2 ++ []) ∧ Below w.heap.size w W' := fun W' hT =>
            ⟨oDisk_good.frame ho3 (fun b hb => hT.block b (oDisk_good.lt ho3 b hb) (fun h => by simp at h; have := hge3 b hb; omega)), hb3.trans (hT.below (fun k hk => by simp at hk; omega) hb3.size)⟩
          have HKEY := Hid.mk hkey
          have HNQ := Hid.mk hN3
          have HGQ : Hid (∀ b, b ∈ G0 ++ G1 ++ G2 ++ [] → w.heap.size ≤ b) := fun b hb => by have := hge3 b hb; omega
          clear hkey ho3 hN3 hge3 y0 y1 y2 y3
          have ze0 := hbr3.cell 0 _ rfl
          have ze1 := hbr3.cell 1 _ rfl
          have ze2 := hbr3.cell 2 _ rfl
          have ze3 := hbr3.cell 3 _ rfl
          have zf0 := hbr3.free 0
          have zf1 := hbr3.free 1
          have zf2 := hbr3.free 2
          have zf3 := hbr3.free 3
          go_wp2_with fail
          obtain ⟨h1, h3⟩ := HKEY.out _ (show Turn [w.heap.size + 1] w3 ((((w3.setCell ⟨w.heap.size + 1, 0, none⟩ (.slice q0 (fd).fInodes.length p0)).setCell ⟨w.heap.size + 1, 1, none⟩ (.slice q1 (fd).fNames.length p1)).setCell ⟨w.heap.size + 1, 2, none⟩ (.slice q2 (fd).fSafe.length p2)).setCell ⟨w.heap.size + 1, 3, none⟩ (.int .i64 (fd).fNext)) from turn4 _ _ _ _ _ _)
          exact bodyPost_ret (v := .agg #[.slice q0 (fd).fInodes.length p0, .slice q1 (fd).fNames.length p1, .slice q2 (fd).fSafe.length p2, .int .i64 (fd).fNext]) (by simp [results, Try.results13, go_sem, *]) rfl ⟨[.slice q0 (fd).fInodes.length p0, .slice q1 (fd).fNames.length p1, .slice q2 (fd).fSafe.length p2, .int .i64 (fd).fNext], _, rfl, by rw [HV.out]; exact h1, HNQ.out, HGQ.out, h3⟩
  · have HV : Hid (fallP m kp = m) := by show _ = _; unfold fallP; rw [if_neg (by intro h; exact hK h.1)]
    have hK2 : diskOk m = false := Bool.eq_false_iff.2 hK
    rw [hK2]
    clear hK hK2
    go_wp2_with fail
    refine (copyDisk_any _ (m) w1 (rDisk_good.mono (rDisk_good.below HR.out hb1) hb1.size) HW.out).mono ?_
    rintro e w3 ⟨cs3, F3, rfl, ho3, hN3, hge3, hx3⟩
    have hb3 := bthen hb1 hx3
    have hbr3 := hbr1.under hx3
    have hl3 := hbr3.lt
    have hz3 := hb1.size
    have hlq3 := hbr1.lt
    obtain ⟨q0, p0, q1, p1, q2, p2, G0, G1, G2, rfl, _, _, _, _, rfl⟩ := oDisk_cells ho3
    have hkey : ∀ W', Turn [w.heap.size + 1] w3 W' → oDisk W' [.slice q0 m.fInodes.length p0, .slice q1 m.fNames.length p1, .slice q2 m.fSafe.length p2, .int .i64 m.fNext] (m) (G0 ++ G1 ++ G2 ++ []) ∧ Below w.heap.size w W' := fun W' hT =>
      ⟨oDisk_good.frame ho3 (fun b hb => hT.block b (oDisk_good.lt ho3 b hb) (fun h => by simp at h; have := hge3 b hb; omega)), hb3.trans (hT.below (fun k hk => by simp at hk; omega) hb3.size)⟩
    have HKEY := Hid.mk hkey
    have HNQ := Hid.mk hN3
    have HGQ : Hid (∀ b, b ∈ G0 ++ G1 ++ G2 ++ [] → w.heap.size ≤ b) := fun b hb => by have := hge3 b hb; omega
    clear hkey ho3 hN3 hge3 y0 y1 y2 y3
    have ze0 := hbr3.cell 0 _ rfl
    have ze1 := hbr3.cell 1 _ rfl
    have ze2 := hbr3.cell 2 _ rfl
    have ze3 := hbr3.cell 3 _ rfl
    have zf0 := hbr3.free 0
    have zf1 := hbr3.free 1
    have zf2 := hbr3.free 2
    have zf3 := hbr3.free 3
    go_wp2_with fail
    obtain ⟨h1, h3⟩ := HKEY.out _ (show Turn [w.heap.size + 1] w3 ((((w3.setCell ⟨w.heap.size + 1, 0, none⟩ (.slice q0 m.fInodes.length p0)).setCell ⟨w.heap.size + 1, 1, none⟩ (.slice q1 m.fNames.length p1)).setCell ⟨w.heap.size + 1, 2, none⟩ (.slice q2 m.fSafe.length p2)).setCell ⟨w.heap.size + 1, 3, none⟩ (.int .i64 m.fNext)) from turn4 _ _ _ _ _ _)
    exact bodyPost_ret (v := .agg #[.slice q0 m.fInodes.length p0, .slice q1 m.fNames.length p1, .slice q2 m.fSafe.length p2, .int .i64 m.fNext]) (by simp [results, Try.results13, go_sem, *]) rfl ⟨[.slice q0 m.fInodes.length p0, .slice q1 m.fNames.length p1, .slice q2 m.fSafe.length p2, .int .i64 m.fNext], _, rfl, by rw [HV.out]; exact h1, HNQ.out, HGQ.out, h3⟩


set_option maxHeartbeats 1000000 in
theorem implBytes_c (cs : List Value) (m : MDisk) (s : ByteArray) (w : World) (hr : rDisk w.heap.size w cs m) (hs : s.size ≤ 9223372036854775807) (hw : wDisk m ≤ 1048576) (hw1 : s.size ≤ 1048576) :
    Calls Try.prog 15 #[.agg cs.toArray, .string s] w fun e w' => ∃ (v : Value) (F : List Nat), e = .returned (.tuple #[v, .bool (decide (callP m s = 0))]) ∧ ownB 5 w' v (bytesP m s) F ∧ F.Nodup ∧ (∀ b, b ∈ F → w.heap.size ≤ b) ∧ Below w.heap.size w w' := by
  have hq := hr
  obtain ⟨a0, c0, a1, c1, a2, c2, rfl, hI, hNm, hSf, hnx, _⟩ := hq
  have hw2 : m.fInodes.length + sumW wInode m.fInodes + (m.fNames.length + sumW wEntry m.fNames) + (m.fSafe.length + sumW wEntry m.fSafe) ≤ 1048576 := hw
  have HW := Hid.mk hw
  have HR := Hid.mk hr
  have HI := Hid.mk hI
  clear hr hI hNm hSf hw
  have hbA := (Below.refl w.heap.size w).alloc (Nat.le_refl _) (.cells #[.slice a0 m.fInodes.length c0, .slice a1 m.fNames.length c1, .slice a2 m.fSafe.length c2, .int .i64 m.fNext] 27)
  go_enter Try.func15, Try.ntmps15
  go_wp2_with fail
  refine (findFile_any _ m s _ (rDisk_good.mono (rDisk_good.below HR.out hbA) hbA.size) HW.out hs).mono ?_
  rintro e w1 ⟨p, rfl, hp, hx1⟩
  have hb1 := bthen hbA hx1
  have hbx := (Bx.new w [.slice a0 m.fInodes.length c0, .slice a1 m.fNames.length c1, .slice a2 m.fSafe.length c2, .int .i64 m.fNext] 27).under hx1
  have y0 := hbx.2 0 _ rfl
  by_cases hC : callP m s = 0
  · obtain ⟨hpl, hpi⟩ := hp hC
    have hok : diskOk m = true := by
      unfold callP at hC
      by_cases h : (diskOk m && nameOk s) = true
      · rw [Bool.and_eq_true] at h; exact h.1
      · rw [if_neg h] at hC; cases hC
    have HD : Hid (bytesP m s = m.fInodes[p].fData) := by
      show bytesP m s = _
      unfold bytesP
      rw [if_pos hC, dataOf_at (okI_sorted (diskOk_parts hok).1) hpl hpi]
    have HC := Hid.mk hC
    have hwk := sumW_le (f := wInode) hpl
    obtain ⟨b1, o1, rfl, hB, cs, hcl, hcell, hrI⟩ := (HI.out.2.2.below rInode_good hb1) p hpl
    obtain ⟨ad, cd, rfl, hid, hda, hsu, _⟩ := hrI
    have k1 := hcell 1 _ rfl
    rw [hC]
    have hdl : m.fInodes[p].fData.length ≤ 1048576 := by have : wInode m.fInodes[p] = m.fInodes[p].fData.length := rfl; omega
    generalize m.fInodes[p].fData = dt at *
    clear hp hpi hok hwk hcell hcl hC
    go_wp2_with fail
    refine (joinBytes_any ad none cd 0 dt [] w1 (hda.mono hb1.size) ⟨by simp, by omega, fun j hj => by simp at hj, fun z hz => by cases hz⟩ (by omega) (by simp)).mono ?_
    rintro e w2 ⟨v, F, rfl, ho, hN, hge, hx2⟩
    rw [List.append_nil] at ho
    go_wp2_with fail
    refine bodyPost_ret (v := .tuple #[v, .bool true]) (by simp [results, Try.results15, go_sem, *]) rfl ⟨v, F, by rw [decide_eq_true HC.out], by rw [HD.out]; exact ho, hN, fun b hb => Nat.le_trans hb1.size (hge b hb), bthen hb1 hx2⟩
  · have HD : Hid (bytesP m s = []) := by show bytesP m s = _; unfold bytesP; rw [if_neg hC]
    have HC := Hid.mk (decide_eq_false hC)
    have hcn : (callP m s == 0) = false := beq_eq_false_iff_ne.2 hC
    have hcn2 : (callP m s != 0) = true := bne_iff_ne.2 hC
    clear hp hC
    generalize callP m s = cp at hcn hcn2 ⊢
    go_wp2_with fail
    refine bodyPost_ret (v := .tuple #[.slice none 0 0, .bool false]) (by simp [results, Try.results15, go_sem, *]) rfl ⟨.slice none 0 0, [], by rw [HC.out], ?_, List.nodup_nil, (fun b hb => by cases hb), hb1⟩
    rw [HD.out]
    exact ⟨⟨by simp, .inl ⟨rfl, rfl⟩⟩, (fun z hz => by cases hz), rfl⟩

end Go.Proofs.Ytmbobjhplkpfoaa

namespace Go.Proofs.Ytmbobjhplkpfoaa
open Go.RowKit

theorem k_eq {a b : ByteArray} : (a.toList == b.toList) = true ↔ a = b := by
  rw [beq_iff_eq, ByteArray.toList_eq, ByteArray.toList_eq]
  constructor
  · intro h
    cases a; cases b
    simpa using Array.toList_inj.1 h
  · intro h; rw [h]

theorem k_ne {a b : ByteArray} (h : a ≠ b) : (a.toList == b.toList) = false := by
  rw [Bool.eq_false_iff]
  exact fun e => h (k_eq.1 e)
theorem k_same {a b : ByteArray} (h : a = b) : (a.toList == b.toList) = true := k_eq.2 h



section
variable {H : Type} {enc : TypeId × Value → H} {w : World} {base fuel : Nat} {spare : Nat → Bool} {held : Bool} {cs : List Value} {x : DataW H × List MemPlace}

theorem openBytes {t e : TypeId} (ht : Try.prog.underlying t = some (.slice e)) (he : Try.prog.underlying e = some (.int .u8)) (hc : Try.prog.cellsOf e = 1) (h : DataW.trod enc Try.prog w base spare held fuel t cs = some x) :
    ∃ a c, ∃ zs : List Int, cs = [.slice a zs.length c] ∧ LeafB w.heap.size w a c zs := by
  rcases Go.ChangeShapes.open_ints ht he hc h with ⟨rfl, _⟩ | ⟨a, len, cap, zs, rfl, _, hl, hm, hz, _, hcell, hwf⟩
  · exact ⟨none, 0, [], rfl, by simp, by omega, fun j hj => by simp at hj, fun z hz => by cases hz⟩
  · have hzl : len ≤ zs.length := by rw [hz]; split <;> omega
    refine ⟨some a, cap, zs.take len, by simp [hzl], by simp; omega, by simpa [maxLen] using hm, ?_, ?_⟩
    · intro j hj
      have hj' : j < len := by simp at hj; omega
      obtain ⟨b, off, rfl, hcc⟩ := ints_at hcell (by omega)
      have hcj := hcc j (by omega)
      refine ⟨b, off, rfl, World.block_lt_of_cell? _ _ hcj, ?_⟩
      rw [hcj]
      congr 2
      simp only [List.getD_eq_getElem?_getD, List.getElem?_take, hj', if_true]
    · intro z hz'
      have := hwf z (List.mem_of_mem_take hz')
      simpa [Lit.wf, IntKind.min, IntKind.max, IntKind.signed, IntKind.bits] using this

end

end Go.Proofs.Ytmbobjhplkpfoaa
