/-
  Part 20 of the texts that the proof leans on.
-/
import Derived.Test.YtmbobjhplkpfoaaFfl0
import Derived.Test.YtmbobjhplkpfoaaFfl8
import Derived.Test.YtmbobjhplkpfoaaFfl17
import Derived.Test.YtmbobjhplkpfoaaFfl9
import Derived.Test.YtmbobjhplkpfoaaFfl15
import Derived.Test.YtmbobjhplkpfoaaFfl16
import Derived.Test.YtmbobjhplkpfoaaFfl18
import Derived.Test.YtmbobjhplkpfoaaFfl1
import Derived.Test.YtmbobjhplkpfoaaFfl7
set_option linter.unusedVariables false
set_option linter.unusedSimpArgs false
set_option maxRecDepth 10000

namespace Go.Proofs.Ytmbobjhplkpfoaa
open Go.RowKit Go.Maps
abbrev q630_53_11_0 : Oper := ⟨some 45, .fieldAddr 27 (.tmp 5) 0, 0, "l02_files.go:223", #[], none⟩
abbrev q630_53_11_1 : Oper := ⟨some 46, .load 24 (.tmp 45), 24, "l02_files.go:223", #[⟨0, .data⟩], none⟩
abbrev q630_53_11_2 : Oper := ⟨some 47, .move (.tmp 6), 3, "l02_files.go:223", #[], none⟩
abbrev q630_53_11_3 : Oper := ⟨some 48, .fieldAddr 56 (.tmp 7) 1, 0, "l02_files.go:223", #[], none⟩
abbrev q630_53_11_4 : Oper := ⟨some 49, .load 22 (.tmp 48), 22, "l02_files.go:223", #[⟨3, .data⟩], none⟩
abbrev q630_53_11_5 : Oper := ⟨some 50, .fieldAddr 56 (.tmp 7) 2, 0, "l02_files.go:223", #[], none⟩
abbrev q630_53_11_6 : Oper := ⟨some 51, .load 3 (.tmp 50), 3, "l02_files.go:223", #[⟨5, .data⟩], none⟩
abbrev q630_53_11_7 : Oper := ⟨some 52, .move (.tmp 1), 3, "l02_files.go:223", #[], none⟩
abbrev q630_53_11_8 : Oper := ⟨some 53, .binOp .add 3 (.tmp 51) (.tmp 52) 3, 3, "l02_files.go:223", #[⟨6, .data⟩, ⟨7, .data⟩], none⟩
abbrev q630_53_11_9 : Oper := ⟨some 54, .slice 22 (.tmp 49) none (some (.tmp 53)) none, 22, "l02_files.go:223", #[⟨4, .data⟩, ⟨8, .data⟩], none⟩
abbrev q630_53_11_10 : Oper := ⟨some 55, .indexAddr 24 (.tmp 46) (.tmp 47), 0, "l02_files.go:223", #[⟨1, .data⟩, ⟨2, .data⟩, ⟨0, .phase⟩, ⟨1, .phase⟩, ⟨2, .phase⟩, ⟨3, .phase⟩, ⟨4, .phase⟩, ⟨5, .phase⟩, ⟨6, .phase⟩, ⟨7, .phase⟩, ⟨8, .phase⟩, ⟨9, .phase⟩], none⟩
abbrev q630_53_11_11 : Oper := ⟨some 56, .fieldAddr 56 (.tmp 55) 1, 0, "l02_files.go:223", #[⟨10, .data⟩, ⟨0, .phase⟩, ⟨1, .phase⟩, ⟨2, .phase⟩, ⟨3, .phase⟩, ⟨4, .phase⟩, ⟨5, .phase⟩, ⟨6, .phase⟩, ⟨7, .phase⟩, ⟨8, .phase⟩, ⟨9, .phase⟩], none⟩
abbrev q630_53_11_12 : Oper := ⟨none, .store 22 (.tmp 56) (.tmp 54), 0, "l02_files.go:223", #[⟨11, .data⟩, ⟨9, .data⟩, ⟨0, .phase⟩, ⟨1, .phase⟩, ⟨2, .phase⟩, ⟨3, .phase⟩, ⟨4, .phase⟩, ⟨5, .phase⟩, ⟨6, .phase⟩, ⟨7, .phase⟩, ⟨8, .phase⟩, ⟨9, .phase⟩], none⟩
abbrev q630_53_12_0 : Oper := ⟨some 57, .fieldAddr 27 (.tmp 5) 0, 0, "l02_files.go:225", #[], none⟩
abbrev q630_53_12_1 : Oper := ⟨some 58, .load 24 (.tmp 57), 24, "l02_files.go:225", #[⟨0, .data⟩], none⟩
abbrev q630_53_12_2 : Oper := ⟨some 59, .move (.tmp 6), 3, "l02_files.go:225", #[], none⟩
abbrev q630_53_12_3 : Oper := ⟨some 60, .fieldAddr 27 (.tmp 5) 0, 0, "l02_files.go:225", #[], none⟩
abbrev q630_53_12_4 : Oper := ⟨some 61, .load 24 (.tmp 60), 24, "l02_files.go:225", #[⟨3, .data⟩], none⟩
abbrev q630_53_12_5 : Oper := ⟨some 62, .move (.tmp 6), 3, "l02_files.go:225", #[], none⟩
abbrev q630_53_12_6 : Oper := ⟨some 63, .indexAddr 24 (.tmp 61) (.tmp 62), 0, "l02_files.go:225", #[⟨4, .data⟩, ⟨5, .data⟩], none⟩
abbrev q630_53_12_7 : Oper := ⟨some 64, .fieldAddr 56 (.tmp 63) 1, 0, "l02_files.go:225", #[⟨6, .data⟩], none⟩
abbrev q630_53_12_8 : Oper := ⟨some 65, .load 22 (.tmp 64), 22, "l02_files.go:225", #[⟨7, .data⟩], none⟩
abbrev q630_53_12_9 : Oper := ⟨some 66, .call { callee := .builtin .len, args := #[.tmp 65], argTypes := #[22] }, 3, "l02_files.go:225", #[⟨8, .data⟩], none⟩
abbrev q630_53_12_10 : Oper := ⟨some 67, .indexAddr 24 (.tmp 58) (.tmp 59), 0, "l02_files.go:225", #[⟨1, .data⟩, ⟨2, .data⟩, ⟨0, .phase⟩, ⟨1, .phase⟩, ⟨2, .phase⟩, ⟨3, .phase⟩, ⟨4, .phase⟩, ⟨5, .phase⟩, ⟨6, .phase⟩, ⟨7, .phase⟩, ⟨8, .phase⟩, ⟨9, .phase⟩], none⟩
abbrev q630_53_12_11 : Oper := ⟨some 68, .fieldAddr 56 (.tmp 67) 2, 0, "l02_files.go:225", #[⟨10, .data⟩, ⟨0, .phase⟩, ⟨1, .phase⟩, ⟨2, .phase⟩, ⟨3, .phase⟩, ⟨4, .phase⟩, ⟨5, .phase⟩, ⟨6, .phase⟩, ⟨7, .phase⟩, ⟨8, .phase⟩, ⟨9, .phase⟩], none⟩
abbrev q630_53_12_12 : Oper := ⟨none, .store 3 (.tmp 68) (.tmp 66), 0, "l02_files.go:225", #[⟨11, .data⟩, ⟨9, .data⟩, ⟨0, .phase⟩, ⟨1, .phase⟩, ⟨2, .phase⟩, ⟨3, .phase⟩, ⟨4, .phase⟩, ⟨5, .phase⟩, ⟨6, .phase⟩, ⟨7, .phase⟩, ⟨8, .phase⟩, ⟨9, .phase⟩], none⟩

set_option maxHeartbeats 8000000 in
theorem specFall_o (cs : List Value) (m : MDisk) (kp : Int) (w : World) (hr : rDisk w.heap.size w cs m) (hkw : (Lit.int .i64 kp).wf = true) (hw : wDisk m ≤ 1048576) :
    Calls Try.prog 53 #[.agg cs.toArray, .int .i64 kp] w fun e w' => ∃ cs' : List Value, e = .returned (.agg cs'.toArray) ∧ (∃ F, oDisk w' cs' (fallP m kp) F ∧ ∀ b, b ∈ F → w.heap.size ≤ b) ∧ Below w.heap.size w w' := by
  have hq := hr
  obtain ⟨a0, c0, a1, c1, a2, c2, rfl, hI, hNm, hSf, hnx, _⟩ := hq
  have hw2 : m.fInodes.length + sumW wInode m.fInodes + (m.fNames.length + sumW wEntry m.fNames) + (m.fSafe.length + sumW wEntry m.fSafe) ≤ 1048576 := hw
  have HW := Hid.mk hw
  have HR := Hid.mk hr
  clear hr hI hNm hSf hw
  have hkb : -9223372036854775808 ≤ kp ∧ kp ≤ 9223372036854775807 := by simpa [Lit.wf, IntKind.min, IntKind.max, IntKind.signed, IntKind.bits] using hkw
  obtain ⟨hkb1, hkb2⟩ := hkb
  obtain ⟨iE, hiE, hzE0, hzE1, hzE2⟩ := info_parts Try.infoOfEntry
  go_enter Try.func53, Try.ntmps53
  go_wp2_with fail
  obtain ⟨wq, hwq⟩ : ∃ wq, wq = ((w.alloc (.cells #[.slice a0 m.fInodes.length c0, .slice a1 m.fNames.length c1, .slice a2 m.fSafe.length c2, .int .i64 m.fNext] 27)).alloc (.cells #[.slice none 0 0, .slice none 0 0, .slice none 0 0, .int .i64 0] 27)) := ⟨_, rfl⟩
  have hbW : Below w.heap.size w wq := by rw [hwq]; exact Below.alloc (Below.alloc (Below.refl _ _) (by exact Nat.le_refl _) _) (by simp; try omega) _
  have hbd : Bw wq (w.heap.size) 27 [.slice a0 m.fInodes.length c0, .slice a1 m.fNames.length c1, .slice a2 m.fSafe.length c2, .int .i64 m.fNext] := by rw [hwq]; exact Bw.alloc (Bw.new' _ _ _ (by simp)) _
  have hbr : Bw wq (w.heap.size + 1) 27 [.slice none 0 0, .slice none 0 0, .slice none 0 0, .int .i64 0] := by rw [hwq]; exact Bw.new' _ _ _ (by simp)
  rw [← hwq]
  clear hwq
  refine (l2Copy_any _ m wq (rDisk_good.mono (rDisk_good.below HR.out hbW) hbW.size) HW.out).mono ?_
  rintro e w1 ⟨cs2, F2, rfl, ho2, hN2, hge2, hx1⟩
  obtain ⟨d0, e0, d1, e1, d2, e2, G0, G1, G2, rfl, o0, o1, o2, _, rfl⟩ := oDisk_cells ho2
  have HO0 := Hid.mk o0
  have HO1 := Hid.mk o1
  have HO2 := Hid.mk o2
  have HO := Hid.mk ho2
  have HN := Hid.mk hN2
  have HGE : Hid (∀ b, b ∈ G0 ++ G1 ++ G2 ++ [] → wq.heap.size ≤ b) := hge2
  have HLT : Hid (∀ b, b ∈ G0 ++ G1 ++ G2 ++ [] → b < w1.heap.size) := fun b hb => oDisk_good.lt ho2 b hb
  clear ho2 hN2 hge2 o0 o1 o2
  have hb1 := bthen hbW hx1
  have hbd1 := hbd.under hx1
  have hbr1 := hbr.under hx1
  have hz1 := hx1.size
  have hzW := hbW.size
  have hl0 := hbr.lt
  have y0 := hbd1.cell 0 _ rfl
  have y1 := hbd1.cell 1 _ rfl
  have y2 := hbd1.cell 2 _ rfl
  have y3 := hbd1.cell 3 _ rfl
  have hl1 := hbd1.lt
  go_wp2_with fail
  obtain ⟨wa, hwa⟩ : ∃ wa, wa = w1.alloc (.cells #[.slice d0 m.fInodes.length e0, .slice d1 m.fNames.length e1, .slice d2 m.fSafe.length e2, .int .i64 m.fNext] 27) := ⟨_, rfl⟩
  have hba : Below w1.heap.size w1 wa := by rw [hwa]; exact (Below.refl _ _).alloc (Nat.le_refl _) _
  have hwb0 : Bw wa w1.heap.size 27 [.slice d0 m.fInodes.length e0, .slice d1 m.fNames.length e1, .slice d2 m.fSafe.length e2, .int .i64 m.fNext] := by rw [hwa]; exact Bw.new _ _ _
  rw [← hwa]
  clear hwa
  have hba1 := bthen hb1 hba
  have hbda := (hbd1.under hba)
  refine (specDiskOk_c _ m wa (rDisk_good.mono (rDisk_good.below HR.out hba1) hba1.size) HW.out).mono ?_
  rintro e w2 ⟨rfl, hx2⟩
  have hb12 := bthen hba hx2
  have hb2 := bthen hba1 hx2
  have hwb := hwb0.under hx2
  have hbr2 := (hbr1.under hba).under hx2
  clear hwb0 hbda hbd1 y0 y1 y2 y3
  have zo0 := hwb.cell 0 _ rfl
  have zo1 := hwb.cell 1 _ rfl
  have zo2 := hwb.cell 2 _ rfl
  have zo3 := hwb.cell 3 _ rfl
  by_cases hK : diskOk m = true
  · by_cases hkn : kp < 0
    · have HV : Hid (fallP m kp = m) := by show _ = _; unfold fallP; rw [if_neg (by omega)]
      rw [hK]
      clear hK
      have ze0 := hbr2.cell 0 _ rfl
      have zf0 := hbr2.free 0
      have ze1 := hbr2.cell 1 _ rfl
      have zf1 := hbr2.free 1
      have ze2 := hbr2.cell 2 _ rfl
      have zf2 := hbr2.free 2
      have ze3 := hbr2.cell 3 _ rfl
      have zf3 := hbr2.free 3
      have hlt0 := hbr2.lt
      have hO3 : oDisk w2 [.slice d0 m.fInodes.length e0, .slice d1 m.fNames.length e1, .slice d2 m.fSafe.length e2, .int .i64 m.fNext] (fallP m kp) (G0 ++ G1 ++ G2 ++ []) := by rw [HV.out]; exact oDisk_good.frame HO.out (fun b hb => hb12.block b (HLT.out b hb))
      have hG3 : ∀ b, b ∈ G0 ++ G1 ++ G2 ++ [] → w.heap.size + 2 ≤ b := fun b hb => by have := HGE.out b hb; omega
      have HBf := Hid.mk hb2
      have HO3 := Hid.mk hO3
      clear hO3
      go_wp2_with fail
      refine bodyPost_ret (v := .agg #[.slice d0 m.fInodes.length e0, .slice d1 m.fNames.length e1, .slice d2 m.fSafe.length e2, .int .i64 m.fNext]) (by simp [results, Try.results53, go_sem, *]) rfl ⟨[.slice d0 m.fInodes.length e0, .slice d1 m.fNames.length e1, .slice d2 m.fSafe.length e2, .int .i64 m.fNext], by first | rfl | rw [HCP.out], ?_, ?_⟩
      · exact ⟨_, oDisk_good.frame HO3.out (fun b hb => (show Turn [w.heap.size + 1] w2 _ from by repeat (first | with_reducible exact Turn.refl _ _ | with_reducible refine Turn.setCell ?_ (by simp) _ | with_reducible refine Turn.alloc ?_ _ | with_reducible refine Turn.drew ?_)).block b (oDisk_good.lt HO3.out b hb) (by intro h; simp at h; have := hG3 b hb; omega)), fun b hb => by first | (have := hG3 b hb; omega) | (have := hge b hb; omega) | (rcases hF4 b hb with h2 | h2; (have := HSUB.out b h2; omega); omega)⟩
      · exact HBf.out.trans ((show Turn [w.heap.size + 1] w2 _ from by repeat (first | with_reducible exact Turn.refl _ _ | with_reducible refine Turn.setCell ?_ (by simp) _ | with_reducible refine Turn.alloc ?_ _ | with_reducible refine Turn.drew ?_)).below (fun k hk => by simp at hk; omega) HBf.out.size)
    · have hk0 : 0 ≤ kp := by omega
      have hknn : (kp < 0) = False := eq_false hkn
      have hDR := diskOk_iff.1 hK
      have HV : Hid (fallP m kp = { m with fNames := m.fSafe, fInodes := (keepI { m with fNames := m.fSafe }).map (cutI kp) }) := by show _ = _; unfold fallP; rw [if_pos ⟨hK, hk0⟩]
      have hwt := ok_weight hK
      have HEA : Hid (∀ x, x ∈ keepI { m with fNames := m.fSafe } → 0 ≤ x.fSure ∧ x.fSure ≤ x.fData.length ∧ x.fData.length ≤ 60000) := by
        intro x hx
        have hx' : x ∈ m.fInodes := (List.mem_filter.1 hx).1
        obtain ⟨i, hi, rfl⟩ := List.mem_iff_getElem.1 hx'
        have h1 := hDR.each _ hx'
        have h2 := sumW_le (f := wInode) hi
        have h3 : wInode m.fInodes[i] = m.fInodes[i].fData.length := rfl
        omega
      have hkl : (keepI { m with fNames := m.fSafe }).length ≤ 60 := Nat.le_trans (List.length_filter_le _ _) (by show m.fInodes.length ≤ 60; omega)
      rw [hK]
      clear hK hDR
      have hbL : Below w2.heap.size w2 (w2.alloc (.cells #[] 61)) := (Below.refl _ _).alloc (Nat.le_refl _) _
      have hlf : LeafL 2 rEntry (w2.alloc (.cells #[] 61)).heap.size (w2.alloc (.cells #[] 61)) d2 e2 m.fSafe := ownS.leaf oEntry_good (ownS.frame oEntry_good HO2.out (fun b hbF => (bthen hb12 hbL).block b (HLT.out b (by simp [hbF]))))
      obtain ⟨css, s1, s2, s3, s4⟩ := Src.ents (P := Try.prog) (c := e2) (n := m.fSafe.length) Try.underlying25 rfl hlf.2.2
      have hlo := hwb.lt
      have fo1 := hwb.free 1
      have HBL := Hid.mk hbL
      clear hlf hbL
      go_wp2_with (at_builtin; refine wpList_append_lit _ rfl _ _ 25 25 rfl w2.heap.size 61 iE _ 2 24 Try.underlying25 hiE hzE0 hzE1 hzE2 rfl w2.heap.size rfl (own_lit0 w2 w2.heap.size _ _ (Nat.le_refl _)) (.slice d2 m.fSafe.length e2) rfl m.fSafe.length css.flatten s4 (by unfold maxLen; omega) (by omega) (by simp) ?_; intro v3 w3 hw3 hx3 hat3; obtain ⟨r3, q3, rfl⟩ := own_slice hw3; have hx23 := bthen HBL.out hx3; have zf1 := (hwb.under hx23).free 1; have hl3 := (hwb.under hx23).lt; have zd0 := (hwb.under hx23).cell 0 _ rfl; have zd1 := (hwb.under hx23).cell 1 _ rfl; have zd2 := (hwb.under hx23).cell 2 _ rfl; have zd3 := (hwb.under hx23).cell 3 _ rfl)
      have hos3 := ownS_row rfl s1 s2 s3 hw3
      have HGS : Hid (∀ b, b ∈ (Value.ownBlock (.slice r3 m.fSafe.length q3)).toList → w2.heap.size ≤ b ∧ b < w3.heap.size) := fun b hb => hw3.lt b (by simpa using hb)
      obtain ⟨ws, hws⟩ : ∃ ws, ws = w3.setCell ⟨w1.heap.size, 1, none⟩ (.slice r3 m.fSafe.length q3) := ⟨_, rfl⟩
      have hTs : Turn [w1.heap.size] w3 ws := by rw [hws]; exact Turn.setCell (Turn.refl _ _) (by simp) _
      have hwb3 := hwb.under hx23
      have hwbs : Bw ws w1.heap.size 27 [.slice d0 m.fInodes.length e0, .slice r3 m.fSafe.length q3, .slice d2 m.fSafe.length e2, .int .i64 m.fNext] := by rw [hws]; exact hwb3.put 1 _
      have hbrs := (hbr2.under hx23).turn hTs (by simp; omega)
      have hb3 := bthen hb2 hx23
      have hz12 := hb12.size
      have hz23 := hx23.size
      have hzss := hTs.size
      have hBs : Below w.heap.size w ws := hb3.trans (hTs.below (fun k hk => by simp at hk; omega) hb3.size)
      have h1s : Below w1.heap.size w1 ws := (bthen hb12 hx23).trans (hTs.below (fun k hk => by simp at hk; omega) (bthen hb12 hx23).size)
      have t2 := ownS.frame (w' := ws) oEntry_good hos3 (fun b hb => hTs.block b (ownS.lt oEntry_good hos3 b hb) (by intro h; simp at h; have := HGS.out b hb; omega))
      have HT2 := Hid.mk t2
      have HBS := Hid.mk hBs
      have H1S := Hid.mk h1s
      have HTS : Hid (ownS 2 61 oEntry ws (.slice d2 m.fSafe.length e2) m.fSafe G2) := ownS.frame oEntry_good HO2.out (fun b hb => h1s.block b (HLT.out b (by simp [hb])))
      rw [← hws]
      clear hws t2 hos3 hTs zf1 zo0 zo1 zo2 zo3 fo1 hw3 s4 zd0 zd1 zd2 zd3
      refine (l2Keep_any (repO G0) (repO_good G0) (repO_read G0) d0 r3 d2 e0 q3 e2 { m with fNames := m.fSafe } ws w1.heap.size H1S.out.size (HO0.out.leafO.below (repO_good G0) H1S.out) (ownS.leaf oEntry_good HT2.out) (ownS.leaf oEntry_good HTS.out) (by simp only; omega)).mono ?_
      rintro e w4 ⟨ak, ck, rfl, hrow, hx4⟩
      obtain ⟨kl, hkl2⟩ : ∃ kl, kl = keepI { m with fNames := m.fSafe } := ⟨_, rfl⟩
      rw [← hkl2] at hrow hkl HEA HV ⊢
      have HROW := Hid.mk hrow
      have hb4 := bthen HBS.out hx4
      have h14 := bthen H1S.out hx4
      have hwb4 := hwbs.under hx4
      have hbr4 := hbrs.under hx4
      have hl4 := hwb4.lt
      have hl4r := hbr4.lt
      have hz4 := hx4.size
      have hzs1 := H1S.out.size
      clear hrow hkl2
      have y0 := hwb4.cell 0 _ rfl
      have y1 := hwb4.cell 1 _ rfl
      have y2 := hwb4.cell 2 _ rfl
      have y3 := hwb4.cell 3 _ rfl
      have f0 := hwb4.free 0
      have f1 := hwb4.free 1
      have f2 := hwb4.free 2
      have f3 := hwb4.free 3
      go_wp2_with fail
      obtain ⟨wt, hwt⟩ : ∃ wt, wt = ((((w4.setCell ⟨w1.heap.size, 0, none⟩ (.slice ak kl.length ck)).setCell ⟨w1.heap.size, 1, none⟩ (.slice r3 m.fSafe.length q3)).setCell ⟨w1.heap.size, 2, none⟩ (.slice d2 m.fSafe.length e2)).setCell ⟨w1.heap.size, 3, none⟩ (.int .i64 m.fNext)) := ⟨_, rfl⟩
      have hTt : Turn [w1.heap.size] w4 wt := by rw [hwt]; exact turn4 _ _ _ _ _ _
      have hwbt : Bw wt w1.heap.size 27 [.slice ak kl.length ck, .slice r3 m.fSafe.length q3, .slice d2 m.fSafe.length e2, .int .i64 m.fNext] := by rw [hwt]; exact (((hwb4.put 0 _).put 1 _).put 2 _).put 3 _
      have hbrt := hbr4.turn hTt (by simp; omega)
      have hBt : Below w.heap.size w wt := hb4.trans (hTt.below (fun k hk => by simp at hk; omega) hb4.size)
      have h1t : Below w1.heap.size w1 wt := h14.trans (hTt.below (fun k hk => by simp at hk; omega) h14.size)
      have hrt : RowR 3 56 (repO G0) w1.heap.size wt ws.heap.size (.slice ak kl.length ck) (partMap (cutI kp) kl 0) := by
        rw [partMap_zero]
        exact RowR.turn (repO_good G0) HROW.out hTt (fun k hk => by simp at hk; omega) h14.size (Nat.le_refl _)
      have HT2t : Hid (∀ W, Turn [w1.heap.size] w4 W → ownS 2 61 oEntry W (.slice r3 m.fSafe.length q3) m.fSafe (Value.ownBlock (.slice r3 m.fSafe.length q3)).toList) := fun W hT => ownS.frame oEntry_good HT2.out (fun b hb => (hT.block b (by have := HGS.out b hb; omega) (by have := HGS.out b hb; simp; omega)).trans (hx4.block b (by have := HGS.out b hb; omega)))
      have HTT := Hid.mk hTt
      rw [← hwt]
      clear hwt y0 y1 y2 y3 f0 f1 f2 f3 hTt HROW
      go_wp2_with fail
      go_loopw [6] (fun i wr => ∃ j : Nat, j ≤ kl.length ∧ i = .int .i64 j ∧ RowR 3 56 (repO G0) w1.heap.size wr ws.heap.size (.slice ak kl.length ck) (partMap (cutI kp) kl j) ∧ Below w.heap.size w wr ∧ Bw wr w1.heap.size 27 [.slice ak kl.length ck, .slice r3 m.fSafe.length q3, .slice d2 m.fSafe.length e2, .int .i64 m.fNext] ∧ Bw wr (w.heap.size + 1) 27 [.slice none 0 0, .slice none 0 0, .slice none 0 0, .int .i64 0] ∧ Below w1.heap.size w1 wr ∧ (∀ b, w1.heap.size < b → b < ws.heap.size → wr.heap[b]? = wt.heap[b]?)) (fun i _ => kl.length - (intOf i).toNat)
      case atStart => exact ⟨0, Nat.zero_le _, rfl, hrt, hBt, hwbt, hbrt, h1t, fun _ _ _ => rfl⟩
      case round =>
        obtain ⟨j, hj, rfl, hrow, hbk, hwbk, hbrk, h1k, hmid⟩ := hrel
        have HRow := Hid.mk hrow
        have HWB := Hid.mk hwbk
        have HBR := Hid.mk hbrk
        have H1R := Hid.mk h1k
        have HMID := Hid.mk hmid
        have hlx := hwbk.lt
        have hly := hbrk.lt
        have x0 := hwbk.cell 0 _ rfl
        clear hrow hwbk hbrk hrt hBt hwbt hbrt h1k h1t hmid
        by_cases hlt : j < kl.length
        · have hpl := partMap_length (cutI kp) kl hj
          obtain ⟨g, cap, cs, hv, hgb, hgl, hcl, hrI, hcell, hfree⟩ := HRow.out.at (j := j) (by rw [hpl]; exact hlt)
          rw [partMap_at _ _ hlt] at hrI
          rw [hpl] at hv
          simp only [Value.slice.injEq, true_and] at hv
          obtain ⟨rfl, rfl⟩ := hv
          have hxe := HEA.out kl[j] (List.getElem_mem hlt)
          obtain ⟨x, hx⟩ : ∃ x, kl[j] = x := ⟨_, rfl⟩
          rw [hx] at hrI hxe
          have HX : Hid (kl[j] = x) := hx
          clear hx
          obtain ⟨Fk, ⟨v1, F1x, rfl, hid, hob, hsu, hFk⟩, hFF⟩ := hrI
          obtain ⟨ad, cd, rfl, hlb⟩ := hob.read
          obtain ⟨hx1, hx2, hx3⟩ := hxe
          have k0 := hcell 0 _ rfl
          have k1 := hcell 1 _ rfl
          have k2 := hcell 2 _ rfl
          rw [Nat.add_zero] at k0
          have HFR := Hid.mk hfree
          have HPL := Hid.mk hpl
          have hcdA := hlb.1
          have hcd2 : cd ≤ 9223372036854775807 := hlb.2.1
          obtain ⟨dn, hdn⟩ : ∃ dn, x.fData.length = dn := ⟨_, rfl⟩
          have HDN := Hid.mk hdn
          rw [hdn] at k1 hx2 hx3 hob hcdA
          obtain ⟨nl, hnl⟩ : ∃ nl : Nat, (nl : Int) = x.fSure + min kp (dn - x.fSure) := ⟨(x.fSure + min kp (dn - x.fSure)).toNat, by omega⟩
          have hnl2 : nl ≤ dn := by omega
          have HNL := Hid.mk hnl
          have HCUT : Hid (cutI kp x = { x with fData := x.fData.take nl, fSure := (nl : Int) }) := by show _ = _; unfold cutI; rw [HDN.out, ← HNL.out, Int.toNat_natCast]
          have HKS : Hid ((partMap (cutI kp) kl j).set j (cutI kp x) = partMap (cutI kp) kl (j + 1)) := by show _ = _; rw [← HX.out]; exact partMap_succ _ _ hlt
          have HOB := Hid.mk hob
          have HFF := Hid.mk hFF
          have HFK := Hid.mk hFk
          have h1z := H1R.out.size
          have hgw1 : g ≠ w1.heap.size := by omega
          have HG1 : Hid (g ≠ w1.heap.size) := hgw1
          clear hcell hfree hlb hpl hcl hdn hob hFF hFk
          by_cases hmn : kp < dn - x.fSure
          · have hnl3 : x.fSure + kp = (nl : Int) := by omega
            have hnlc : (nl : Int) ≤ (cd : Int) := by omega
            have hnl0 : (0 : Int) ≤ (nl : Int) := by omega
            have hwrap : IntKind.i64.wrap (nl : Int) = (nl : Int) := by simp [IntKind.wrap, IntKind.bits, IntKind.signed]; omega
            clear hnl
            go_wp2_with fail
            obtain ⟨wi, hwi⟩ : ∃ wi, wi = wr.alloc (.cells #[.int .i64 x.fId, .slice ad dn cd, .int .i64 x.fSure] 56) := ⟨_, rfl⟩
            have hbi : Below wr.heap.size wr wi := by rw [hwi]; exact (Below.refl _ _).alloc (Nat.le_refl _) _
            have hbn : Bw wi wr.heap.size 56 [.int .i64 x.fId, .slice ad dn cd, .int .i64 x.fSure] := by rw [hwi]; exact Bw.new _ _ _
            rw [← hwi]
            clear hwi x0
            have hwbi := HWB.out.under hbi
            have z0 := hwbi.cell 0 _ rfl
            have n1 := hbn.cell 1 _ rfl
            have n2 := hbn.cell 2 _ rfl
            have HG2 : Hid (g ≠ wr.heap.size) := by show _ ≠ _; omega
            have hri := RowR.keep (repO_good G0) HRow.out hbi h1z
            have q1 := (hbi.cell (p := ⟨g, j * 3 + 1, none⟩) hgl).trans k1
            have r1 := (hbi.frozen (p := ⟨g, j * 3 + 1, none⟩) hgl).trans (HFR.out _)
            have q2 := (hbi.cell (p := ⟨g, j * 3 + 2, none⟩) hgl).trans k2
            have r2 := (hbi.frozen (p := ⟨g, j * 3 + 2, none⟩) hgl).trans (HFR.out _)
            clear k0 k1 k2
            refine wp_region_held_drew (S := fun V => V.cell? ⟨w1.heap.size, 0, none⟩ = some (.slice (some ⟨g, 0, none⟩) kl.length ck) ∧ V.cell? ⟨wr.heap.size, 1, none⟩ = some (.slice ad dn cd) ∧ V.cell? ⟨wr.heap.size, 2, none⟩ = some (.int .i64 x.fSure)) (by kernel_rfl) (⟨z0, n1, n2⟩) (fun hHeld => ?_)
            refine tk 0 q630_53_11_0 (some 45) (v := ?v1) rfl rfl (by kernel_rfl) hHeld (by rfl) (fun _ _ _ x => x) (fun w h => ?y1) ?_; (case y1 => (try dsimp only at h); go_simp; try (with_reducible rfl)); try simp only [Act.put, sa, s0, s1]
            refine tk 1 q630_53_11_1 (some 46) (v := ?v2) rfl rfl (by kernel_rfl) hHeld (by rfl) (fun _ _ _ x => x) (fun w h => ?y2) ?_; (case y2 => (try dsimp only at h); go_simp; try (with_reducible rfl)); try simp only [Act.put, sa, s0, s1]
            refine tk 2 q630_53_11_2 (some 47) (v := ?v3) rfl rfl (by kernel_rfl) hHeld (by rfl) (fun _ _ _ x => x) (fun w h => ?y3) ?_; (case y3 => (try dsimp only at h); go_simp; try (with_reducible rfl)); try simp only [Act.put, sa, s0, s1]
            refine tk 3 q630_53_11_3 (some 48) (v := ?v4) rfl rfl (by kernel_rfl) hHeld (by rfl) (fun _ _ _ x => x) (fun w h => ?y4) ?_; (case y4 => (try dsimp only at h); go_simp; try (with_reducible rfl)); try simp only [Act.put, sa, s0, s1]
            refine tk 4 q630_53_11_4 (some 49) (v := ?v5) rfl rfl (by kernel_rfl) hHeld (by rfl) (fun _ _ _ x => x) (fun w h => ?y5) ?_; (case y5 => (try dsimp only at h); go_simp; try (with_reducible rfl)); try simp only [Act.put, sa, s0, s1]
            refine tk 5 q630_53_11_5 (some 50) (v := ?v6) rfl rfl (by kernel_rfl) hHeld (by rfl) (fun _ _ _ x => x) (fun w h => ?y6) ?_; (case y6 => (try dsimp only at h); go_simp; try (with_reducible rfl)); try simp only [Act.put, sa, s0, s1]
            refine tk 6 q630_53_11_6 (some 51) (v := ?v7) rfl rfl (by kernel_rfl) hHeld (by rfl) (fun _ _ _ x => x) (fun w h => ?y7) ?_; (case y7 => (try dsimp only at h); go_simp; try (with_reducible rfl)); try simp only [Act.put, sa, s0, s1]
            refine tk 7 q630_53_11_7 (some 52) (v := ?v8) rfl rfl (by kernel_rfl) hHeld (by rfl) (fun _ _ _ x => x) (fun w h => ?y8) ?_; (case y8 => (try dsimp only at h); go_simp; try (with_reducible rfl)); try simp only [Act.put, sa, s0, s1]
            refine tk 8 q630_53_11_8 (some 53) (v := ?v9) rfl rfl (by kernel_rfl) hHeld (by rfl) (fun _ _ _ x => x) (fun w h => ?y9) ?_; (case y9 => (try dsimp only at h); go_simp; try (with_reducible rfl)); try simp only [Act.put, sa, s0, s1]
            refine tk 9 q630_53_11_9 (some 54) (v := ?v10) rfl rfl (by kernel_rfl) hHeld (by rfl) (fun _ _ _ x => x) (fun w h => ?y10) ?_; (case y10 => (try dsimp only at h); go_simp; try (with_reducible rfl)); try simp only [Act.put, sa, s0, s1]
            refine tk 10 q630_53_11_10 (some 55) (v := ?v11) rfl rfl (by kernel_rfl) hHeld (by rfl) (fun _ _ _ x => x) (fun w h => ?y11) ?_; (case y11 => (try dsimp only at h); go_simp; try (with_reducible rfl)); try simp only [Act.put, sa, s0, s1]
            refine tk 11 q630_53_11_11 (some 56) (v := ?v12) rfl rfl (by kernel_rfl) hHeld (by rfl) (fun _ _ _ x => x) (fun w h => ?y12) ?_; (case y12 => (try dsimp only at h); go_simp; try (with_reducible rfl)); try simp only [Act.put, sa, s0, s1]
            refine wpAnyH_ready (rs := [12]) (by kernel_rfl) (by simp) ?_
            refine AllReadyH.cons (o := q630_53_11_12) rfl (fun K hK => ?_) AllReadyH.nil
            go_simp
            go_simp
            refine hK.out _ _ (⟨(World.cell?_setCell_other _ _ _ _ (fun h => HG1.out (congrArg Addr.block h))).trans z0, (World.cell?_setCell_other _ _ _ _ (fun h => HG2.out (congrArg Addr.block h))).trans n1, (World.cell?_setCell_other _ _ _ _ (fun h => HG2.out (congrArg Addr.block h))).trans n2⟩) (fun hHeld => ?_)
            clear hK K
            try simp only [Act.put, sa, s0, s1]
            refine wpAnyH_done (by kernel_rfl) ?_ _
            obtain ⟨w5, hw5⟩ : ∃ w5, w5 = (wi.setCell ⟨g, j * 3 + 1, none⟩ (.slice ad nl cd)).drew := ⟨_, rfl⟩
            have hT5 : Turn [g] wi w5 := by rw [hw5]; exact Turn.drew (Turn.setCell (Turn.refl _ _) (by simp) _)
            have hR5a : RowR 3 56 (repO G0) w1.heap.size w5 ws.heap.size (.slice (some ⟨g, 0, none⟩) kl.length ck) ((partMap (cutI kp) kl j).set j { x with fData := x.fData.take nl }) := by
              obtain ⟨g', cap', cs', hv', _, _, _, hr', hc', _, hp'⟩ := hri.split (repO_good G0) hzs1 (by have := hbi.size; omega) (j := j) (by rw [HPL.out]; exact hlt)
              rw [HPL.out] at hv'
              simp only [Value.slice.injEq, Option.some.injEq, Addr.mk.injEq, and_true, true_and] at hv'
              obtain ⟨rfl, rfl⟩ := hv'
              rw [partMap_at _ _ hlt, HX.out] at hr'
              obtain ⟨Fk', ⟨v1', F1', rfl, hid', hob', hsu', hFk'⟩, hFF'⟩ := hr'
              have hv1 : v1' = .slice ad dn cd := by have h1 := hc' 1 _ rfl; rw [q1] at h1; exact (Option.some.inj h1).symm
              subst hv1
              have hres := hp' 1 (.slice ad nl cd) { x with fData := x.fData.take nl } (by omega) ⟨Fk', ⟨_, F1', rfl, hid', ownB.cut hob' HDN.out hnl2, hsu', hFk'⟩, hFF'⟩
              rw [hw5]
              exact RowR.keep (repO_good G0) hres (Below.drew (Below.refl _ _)) (by have := hbi.size; simp; omega)
            have zz0 := (hT5.cell (p := ⟨w1.heap.size, 0, none⟩) (by have := hwbi.lt; simp; omega) (by simp; omega)).trans z0
            have zz1 : w5.cell? ⟨g, j * 3 + 1, none⟩ = some (.slice ad nl cd) := by rw [hw5]; exact World.cell?_setCell_same _ _ _ q1
            have zz2 : w5.cell? ⟨g, j * 3 + 2, none⟩ = some (.int .i64 x.fSure) := by rw [hw5]; exact (World.cell?_setCell_other _ _ _ _ (fun h => by have := congrArg Addr.off h; simp at this)).trans q2
            have zr2 : w5.frozen? ⟨g, j * 3 + 2, none⟩ = false := by rw [hw5]; show (wi.setCell _ _).frozen? _ = false; rw [World.frozen?_setCell]; exact r2
            have hz5 := hT5.size
            have hzi := hbi.size
            have HR5 : Hid (RowR 3 56 (repO G0) w1.heap.size (w5.setCell ⟨g, j * 3 + 2, none⟩ (.int .i64 (nl : Nat))) ws.heap.size (.slice (some ⟨g, 0, none⟩) kl.length ck) (partMap (cutI kp) kl (j + 1))) := by
              have hlen5 : ((partMap (cutI kp) kl j).set j { x with fData := x.fData.take nl }).length = kl.length := by rw [List.length_set, HPL.out]
              obtain ⟨g', cap', cs', hv', _, _, _, hr', hc', _, hp'⟩ := hR5a.split (repO_good G0) hzs1 (by omega) (j := j) (by rw [hlen5]; exact hlt)
              rw [hlen5] at hv'
              simp only [Value.slice.injEq, Option.some.injEq, Addr.mk.injEq, and_true, true_and] at hv'
              obtain ⟨rfl, rfl⟩ := hv'
              rw [List.getElem_set_self] at hr'
              obtain ⟨Fk', ⟨v1', F1', rfl, hid', hob', hsu', hFk'⟩, hFF'⟩ := hr'
              have hres := hp' 2 (.int .i64 (nl : Nat)) (cutI kp x) (by omega) (by rw [HCUT.out]; exact ⟨Fk', ⟨_, F1', rfl, hid', hob', (show (Lit.int .i64 (nl : Int)).wf = true from WalkArith.wf_i64 (by omega)), hFk'⟩, hFF'⟩)
              rw [List.set_set, HKS.out] at hres
              exact hres
            have HBW5 : Hid (Below w.heap.size w w5) := (bthen hbk hbi).trans (hT5.below (fun k hk => by simp at hk; omega) (bthen hbk hbi).size)
            have HWB5 := Hid.mk (hwbi.turn hT5 (by simp; omega))
            have HBR5 := Hid.mk ((HBR.out.under hbi).turn hT5 (by simp; omega))
            have H1R5 : Hid (Below w1.heap.size w1 w5) := (H1R.out.trans (hbi.mono h1z)).trans (hT5.below (fun k hk => by simp at hk; omega) (by omega))
            have hlw5 : wr.heap.size < w5.heap.size := Nat.lt_of_lt_of_le hbn.lt hz5
            have HM5 : Hid (ws.heap.size ≤ w5.heap.size ∧ ∀ b, w1.heap.size < b → b < ws.heap.size → w5.heap[b]? = wt.heap[b]?) := ⟨by omega, fun b h1 h2 => (hT5.block b (by omega) (by simp; omega)).trans ((hbi.block b (by omega)).trans (HMID.out b h1 h2))⟩
            rw [← hw5]
            clear hw5 hR5a hHeld z0 n1 n2 q1 q2 r1 r2 hri
            go_wp2_with fail
            refine wp_region_held_drew (S := fun V => V.cell? ⟨w1.heap.size, 0, none⟩ = some (.slice (some ⟨g, 0, none⟩) kl.length ck) ∧ V.cell? ⟨g, j * 3 + 1, none⟩ = some (.slice ad nl cd)) (by kernel_rfl) (⟨zz0, zz1⟩) (fun hHeld => ?_)
            refine tk 0 q630_53_12_0 (some 57) (v := ?v13) rfl rfl (by kernel_rfl) hHeld (by rfl) (fun _ _ _ x => x) (fun w h => ?y13) ?_; (case y13 => (try dsimp only at h); go_simp; try (with_reducible rfl)); try simp only [Act.put, sa, s0, s1]
            refine tk 1 q630_53_12_1 (some 58) (v := ?v14) rfl rfl (by kernel_rfl) hHeld (by rfl) (fun _ _ _ x => x) (fun w h => ?y14) ?_; (case y14 => (try dsimp only at h); go_simp; try (with_reducible rfl)); try simp only [Act.put, sa, s0, s1]
            refine tk 2 q630_53_12_2 (some 59) (v := ?v15) rfl rfl (by kernel_rfl) hHeld (by rfl) (fun _ _ _ x => x) (fun w h => ?y15) ?_; (case y15 => (try dsimp only at h); go_simp; try (with_reducible rfl)); try simp only [Act.put, sa, s0, s1]
            refine tk 3 q630_53_12_3 (some 60) (v := ?v16) rfl rfl (by kernel_rfl) hHeld (by rfl) (fun _ _ _ x => x) (fun w h => ?y16) ?_; (case y16 => (try dsimp only at h); go_simp; try (with_reducible rfl)); try simp only [Act.put, sa, s0, s1]
            refine tk 4 q630_53_12_4 (some 61) (v := ?v17) rfl rfl (by kernel_rfl) hHeld (by rfl) (fun _ _ _ x => x) (fun w h => ?y17) ?_; (case y17 => (try dsimp only at h); go_simp; try (with_reducible rfl)); try simp only [Act.put, sa, s0, s1]
            refine tk 5 q630_53_12_5 (some 62) (v := ?v18) rfl rfl (by kernel_rfl) hHeld (by rfl) (fun _ _ _ x => x) (fun w h => ?y18) ?_; (case y18 => (try dsimp only at h); go_simp; try (with_reducible rfl)); try simp only [Act.put, sa, s0, s1]
            refine tk 6 q630_53_12_6 (some 63) (v := ?v19) rfl rfl (by kernel_rfl) hHeld (by rfl) (fun _ _ _ x => x) (fun w h => ?y19) ?_; (case y19 => (try dsimp only at h); go_simp; try (with_reducible rfl)); try simp only [Act.put, sa, s0, s1]
            refine tk 7 q630_53_12_7 (some 64) (v := ?v20) rfl rfl (by kernel_rfl) hHeld (by rfl) (fun _ _ _ x => x) (fun w h => ?y20) ?_; (case y20 => (try dsimp only at h); go_simp; try (with_reducible rfl)); try simp only [Act.put, sa, s0, s1]
            refine tk 8 q630_53_12_8 (some 65) (v := ?v21) rfl rfl (by kernel_rfl) hHeld (by rfl) (fun _ _ _ x => x) (fun w h => ?y21) ?_; (case y21 => (try dsimp only at h); go_simp; try (with_reducible rfl)); try simp only [Act.put, sa, s0, s1]
            refine tk 9 q630_53_12_9 (some 66) (v := ?v22) rfl rfl (by kernel_rfl) hHeld (by rfl) (fun _ _ _ x => x) (fun w h => ?y22) ?_; (case y22 => (try dsimp only at h); go_simp; try (with_reducible rfl)); try simp only [Act.put, sa, s0, s1]
            refine tk 10 q630_53_12_10 (some 67) (v := ?v23) rfl rfl (by kernel_rfl) hHeld (by rfl) (fun _ _ _ x => x) (fun w h => ?y23) ?_; (case y23 => (try dsimp only at h); go_simp; try (with_reducible rfl)); try simp only [Act.put, sa, s0, s1]
            refine tk 11 q630_53_12_11 (some 68) (v := ?v24) rfl rfl (by kernel_rfl) hHeld (by rfl) (fun _ _ _ x => x) (fun w h => ?y24) ?_; (case y24 => (try dsimp only at h); go_simp; try (with_reducible rfl)); try simp only [Act.put, sa, s0, s1]
            refine wpAnyH_ready (rs := [12]) (by kernel_rfl) (by simp) ?_
            refine AllReadyH.cons (o := q630_53_12_12) rfl (fun K hK => ?_) AllReadyH.nil
            go_simp
            go_simp
            refine hK.out _ _ (⟨(World.cell?_setCell_other _ _ _ _ (fun h => HG1.out (congrArg Addr.block h))).trans zz0, (World.cell?_setCell_other _ _ _ _ (fun h => by have := congrArg Addr.off h; simp at this)).trans zz1⟩) (fun hHeld => ?_)
            clear hK K
            try simp only [Act.put, sa, s0, s1]
            refine wpAnyH_done (by kernel_rfl) ?_ _
            obtain ⟨w6, hw6⟩ : ∃ w6, w6 = (w5.setCell ⟨g, j * 3 + 2, none⟩ (.int .i64 (nl : Nat))).drew := ⟨_, rfl⟩
            have hT6 : Turn [g] w5 w6 := by rw [hw6]; exact Turn.drew (Turn.setCell (Turn.refl _ _) (by simp) _)
            have hR6 : RowR 3 56 (repO G0) w1.heap.size w6 ws.heap.size (.slice (some ⟨g, 0, none⟩) kl.length ck) (partMap (cutI kp) kl (j + 1)) := by
              rw [hw6]
              exact RowR.keep (repO_good G0) HR5.out (Below.drew (Below.refl _ _)) (by have := HBW5.out.size; simp; omega)
            have HR6 := Hid.mk hR6
            have hB6 : Below w.heap.size w w6 := HBW5.out.trans (hT6.below (fun k hk => by simp at hk; omega) HBW5.out.size)
            have hwb6 := HWB5.out.turn hT6 (by simp; omega)
            have hbr6 := HBR5.out.turn hT6 (by simp; omega)
            have hlw6 : wr.heap.size < w6.heap.size := Nat.lt_of_lt_of_le hlw5 hT6.size
            have h1r6 : Below w1.heap.size w1 w6 := H1R5.out.trans (hT6.below (fun k hk => by simp at hk; omega) H1R5.out.size)
            have hmid6 : ∀ b, w1.heap.size < b → b < ws.heap.size → w6.heap[b]? = wt.heap[b]? := fun b h1 h2 => (hT6.block b (by have := HM5.out.1; omega) (by simp; omega)).trans (HM5.out.2 b h1 h2)
            rw [← hw6]
            clear hw6 hT6 hR6 hHeld zz0 zz1
            go_wp2_with fail
            go_roundw
            case rel => exact ⟨j + 1, by omega, by go_num, HR6.out, hB6, hwb6, hbr6, h1r6, hmid6⟩
            case measure => simp [intOf]; omega
          · have hnd : nl = dn := by omega
            subst hnd
            have hmn2 : ¬ (kp < (nl : Int) - x.fSure) := hmn
            clear hnl
            go_wp2_with fail
            obtain ⟨wi, hwi⟩ : ∃ wi, wi = wr.alloc (.cells #[.int .i64 x.fId, .slice ad nl cd, .int .i64 x.fSure] 56) := ⟨_, rfl⟩
            have hbi : Below wr.heap.size wr wi := by rw [hwi]; exact (Below.refl _ _).alloc (Nat.le_refl _) _
            have hbn : Bw wi wr.heap.size 56 [.int .i64 x.fId, .slice ad nl cd, .int .i64 x.fSure] := by rw [hwi]; exact Bw.new _ _ _
            rw [← hwi]
            clear hwi x0
            have hwbi := HWB.out.under hbi
            have z0 := hwbi.cell 0 _ rfl
            have n1 := hbn.cell 1 _ rfl
            have n2 := hbn.cell 2 _ rfl
            have HG2 : Hid (g ≠ wr.heap.size) := by show _ ≠ _; omega
            have hri := RowR.keep (repO_good G0) HRow.out hbi h1z
            have q1 := (hbi.cell (p := ⟨g, j * 3 + 1, none⟩) hgl).trans k1
            have r1 := (hbi.frozen (p := ⟨g, j * 3 + 1, none⟩) hgl).trans (HFR.out _)
            have zz2 := (hbi.cell (p := ⟨g, j * 3 + 2, none⟩) hgl).trans k2
            have zr2 := (hbi.frozen (p := ⟨g, j * 3 + 2, none⟩) hgl).trans (HFR.out _)
            obtain ⟨w5, hw5⟩ : ∃ w5, w5 = wi := ⟨_, rfl⟩
            have hT5 : Turn [g] wi w5 := by rw [hw5]; exact Turn.refl _ _
            have hz5 := hT5.size
            have hzi := hbi.size
            have HR5 : Hid (RowR 3 56 (repO G0) w1.heap.size (w5.setCell ⟨g, j * 3 + 2, none⟩ (.int .i64 (nl : Nat))) ws.heap.size (.slice (some ⟨g, 0, none⟩) kl.length ck) (partMap (cutI kp) kl (j + 1))) := by
              obtain ⟨g', cap', cs', hv', _, _, _, hr', hc', _, hp'⟩ := hri.split (repO_good G0) hzs1 (by omega) (j := j) (by rw [HPL.out]; exact hlt)
              rw [HPL.out] at hv'
              simp only [Value.slice.injEq, Option.some.injEq, Addr.mk.injEq, and_true, true_and] at hv'
              obtain ⟨rfl, rfl⟩ := hv'
              rw [partMap_at _ _ hlt, HX.out] at hr'
              obtain ⟨Fk', ⟨v1', F1', rfl, hid', hob', hsu', hFk'⟩, hFF'⟩ := hr'
              have hres := hp' 2 (.int .i64 (nl : Nat)) (cutI kp x) (by omega) (by rw [HCUT.out, List.take_of_length_le (by rw [HDN.out]; exact Nat.le_refl _)]; exact ⟨Fk', ⟨_, F1', rfl, hid', hob', (show (Lit.int .i64 (nl : Int)).wf = true from WalkArith.wf_i64 (by omega)), hFk'⟩, hFF'⟩)
              rw [HKS.out] at hres
              rw [hw5]
              exact hres
            have zz0 := z0
            have zz1 := q1
            rw [← hw5] at zz0 zz1 zz2 zr2 ⊢
            have HBW5 : Hid (Below w.heap.size w w5) := (bthen hbk hbi).trans (hT5.below (fun k hk => by simp at hk; omega) (bthen hbk hbi).size)
            have HWB5 := Hid.mk (hwbi.turn hT5 (by simp; omega))
            have HBR5 := Hid.mk ((HBR.out.under hbi).turn hT5 (by simp; omega))
            have H1R5 : Hid (Below w1.heap.size w1 w5) := (H1R.out.trans (hbi.mono h1z)).trans (hT5.below (fun k hk => by simp at hk; omega) (by omega))
            have hlw5 : wr.heap.size < w5.heap.size := Nat.lt_of_lt_of_le hbn.lt hz5
            have HM5 : Hid (ws.heap.size ≤ w5.heap.size ∧ ∀ b, w1.heap.size < b → b < ws.heap.size → w5.heap[b]? = wt.heap[b]?) := ⟨by omega, fun b h1 h2 => (hT5.block b (by omega) (by simp; omega)).trans ((hbi.block b (by omega)).trans (HMID.out b h1 h2))⟩
            clear hw5 z0 n1 n2 q1 r1 hri k0 k1 k2
            refine wp_region_held_drew (S := fun V => V.cell? ⟨w1.heap.size, 0, none⟩ = some (.slice (some ⟨g, 0, none⟩) kl.length ck) ∧ V.cell? ⟨g, j * 3 + 1, none⟩ = some (.slice ad nl cd)) (by kernel_rfl) (⟨zz0, zz1⟩) (fun hHeld => ?_)
            refine tk 0 q630_53_12_0 (some 57) (v := ?v25) rfl rfl (by kernel_rfl) hHeld (by rfl) (fun _ _ _ x => x) (fun w h => ?y25) ?_; (case y25 => (try dsimp only at h); go_simp; try (with_reducible rfl)); try simp only [Act.put, sa, s0, s1]
            refine tk 1 q630_53_12_1 (some 58) (v := ?v26) rfl rfl (by kernel_rfl) hHeld (by rfl) (fun _ _ _ x => x) (fun w h => ?y26) ?_; (case y26 => (try dsimp only at h); go_simp; try (with_reducible rfl)); try simp only [Act.put, sa, s0, s1]
            refine tk 2 q630_53_12_2 (some 59) (v := ?v27) rfl rfl (by kernel_rfl) hHeld (by rfl) (fun _ _ _ x => x) (fun w h => ?y27) ?_; (case y27 => (try dsimp only at h); go_simp; try (with_reducible rfl)); try simp only [Act.put, sa, s0, s1]
            refine tk 3 q630_53_12_3 (some 60) (v := ?v28) rfl rfl (by kernel_rfl) hHeld (by rfl) (fun _ _ _ x => x) (fun w h => ?y28) ?_; (case y28 => (try dsimp only at h); go_simp; try (with_reducible rfl)); try simp only [Act.put, sa, s0, s1]
            refine tk 4 q630_53_12_4 (some 61) (v := ?v29) rfl rfl (by kernel_rfl) hHeld (by rfl) (fun _ _ _ x => x) (fun w h => ?y29) ?_; (case y29 => (try dsimp only at h); go_simp; try (with_reducible rfl)); try simp only [Act.put, sa, s0, s1]
            refine tk 5 q630_53_12_5 (some 62) (v := ?v30) rfl rfl (by kernel_rfl) hHeld (by rfl) (fun _ _ _ x => x) (fun w h => ?y30) ?_; (case y30 => (try dsimp only at h); go_simp; try (with_reducible rfl)); try simp only [Act.put, sa, s0, s1]
            refine tk 6 q630_53_12_6 (some 63) (v := ?v31) rfl rfl (by kernel_rfl) hHeld (by rfl) (fun _ _ _ x => x) (fun w h => ?y31) ?_; (case y31 => (try dsimp only at h); go_simp; try (with_reducible rfl)); try simp only [Act.put, sa, s0, s1]
            refine tk 7 q630_53_12_7 (some 64) (v := ?v32) rfl rfl (by kernel_rfl) hHeld (by rfl) (fun _ _ _ x => x) (fun w h => ?y32) ?_; (case y32 => (try dsimp only at h); go_simp; try (with_reducible rfl)); try simp only [Act.put, sa, s0, s1]
            refine tk 8 q630_53_12_8 (some 65) (v := ?v33) rfl rfl (by kernel_rfl) hHeld (by rfl) (fun _ _ _ x => x) (fun w h => ?y33) ?_; (case y33 => (try dsimp only at h); go_simp; try (with_reducible rfl)); try simp only [Act.put, sa, s0, s1]
            refine tk 9 q630_53_12_9 (some 66) (v := ?v34) rfl rfl (by kernel_rfl) hHeld (by rfl) (fun _ _ _ x => x) (fun w h => ?y34) ?_; (case y34 => (try dsimp only at h); go_simp; try (with_reducible rfl)); try simp only [Act.put, sa, s0, s1]
            refine tk 10 q630_53_12_10 (some 67) (v := ?v35) rfl rfl (by kernel_rfl) hHeld (by rfl) (fun _ _ _ x => x) (fun w h => ?y35) ?_; (case y35 => (try dsimp only at h); go_simp; try (with_reducible rfl)); try simp only [Act.put, sa, s0, s1]
            refine tk 11 q630_53_12_11 (some 68) (v := ?v36) rfl rfl (by kernel_rfl) hHeld (by rfl) (fun _ _ _ x => x) (fun w h => ?y36) ?_; (case y36 => (try dsimp only at h); go_simp; try (with_reducible rfl)); try simp only [Act.put, sa, s0, s1]
            refine wpAnyH_ready (rs := [12]) (by kernel_rfl) (by simp) ?_
            refine AllReadyH.cons (o := q630_53_12_12) rfl (fun K hK => ?_) AllReadyH.nil
            go_simp
            go_simp
            refine hK.out _ _ (⟨(World.cell?_setCell_other _ _ _ _ (fun h => HG1.out (congrArg Addr.block h))).trans zz0, (World.cell?_setCell_other _ _ _ _ (fun h => by have := congrArg Addr.off h; simp at this)).trans zz1⟩) (fun hHeld => ?_)
            clear hK K
            try simp only [Act.put, sa, s0, s1]
            refine wpAnyH_done (by kernel_rfl) ?_ _
            obtain ⟨w6, hw6⟩ : ∃ w6, w6 = (w5.setCell ⟨g, j * 3 + 2, none⟩ (.int .i64 (nl : Nat))).drew := ⟨_, rfl⟩
            have hT6 : Turn [g] w5 w6 := by rw [hw6]; exact Turn.drew (Turn.setCell (Turn.refl _ _) (by simp) _)
            have hR6 : RowR 3 56 (repO G0) w1.heap.size w6 ws.heap.size (.slice (some ⟨g, 0, none⟩) kl.length ck) (partMap (cutI kp) kl (j + 1)) := by
              rw [hw6]
              exact RowR.keep (repO_good G0) HR5.out (Below.drew (Below.refl _ _)) (by have := HBW5.out.size; simp; omega)
            have HR6 := Hid.mk hR6
            have hB6 : Below w.heap.size w w6 := HBW5.out.trans (hT6.below (fun k hk => by simp at hk; omega) HBW5.out.size)
            have hwb6 := HWB5.out.turn hT6 (by simp; omega)
            have hbr6 := HBR5.out.turn hT6 (by simp; omega)
            have hlw6 : wr.heap.size < w6.heap.size := Nat.lt_of_lt_of_le hlw5 hT6.size
            have h1r6 : Below w1.heap.size w1 w6 := H1R5.out.trans (hT6.below (fun k hk => by simp at hk; omega) H1R5.out.size)
            have hmid6 : ∀ b, w1.heap.size < b → b < ws.heap.size → w6.heap[b]? = wt.heap[b]? := fun b h1 h2 => (hT6.block b (by have := HM5.out.1; omega) (by simp; omega)).trans (HM5.out.2 b h1 h2)
            rw [← hw6]
            clear hw6 hT6 hR6 hHeld zz0 zz1
            go_wp2_with fail
            go_roundw
            case rel => exact ⟨j + 1, by omega, by go_num, HR6.out, hB6, hwb6, hbr6, h1r6, hmid6⟩
            case measure => simp [intOf]; omega
        · have hjn : j = kl.length := by omega
          subst hjn
          have hrow := HRow.out
          rw [partMap_all] at hrow
          obtain ⟨FR, hown, hFR⟩ := hrow.own
          have oN : ownS 2 61 oEntry wr (.slice r3 m.fSafe.length q3) m.fSafe (Value.ownBlock (.slice r3 m.fSafe.length q3)).toList := ownS.frame oEntry_good (HT2t.out wt HTT.out) (fun b hb => HMID.out b (by have := HGS.out b hb; omega) (by have := HGS.out b hb; omega))
          have oS : ownS 2 61 oEntry wr (.slice d2 m.fSafe.length e2) m.fSafe G2 := ownS.frame oEntry_good HO2.out (fun b hb => H1R.out.block b (HLT.out b (by simp [hb])))
          have hod : oDisk wr [.slice ak kl.length ck, .slice r3 m.fSafe.length q3, .slice d2 m.fSafe.length e2, .int .i64 m.fNext] { m with fNames := m.fSafe, fInodes := kl.map (cutI kp) } (FR ++ (Value.ownBlock (.slice r3 m.fSafe.length q3)).toList ++ G2 ++ []) := ⟨_, FR, _, _, _, G2, rfl, hown, oN, oS, hnx, rfl⟩
          have hge : ∀ b, b ∈ FR ++ (Value.ownBlock (.slice r3 m.fSafe.length q3)).toList ++ G2 ++ [] → w.heap.size + 2 ≤ b := by
            intro b hb
            rw [List.append_nil, List.mem_append, List.mem_append] at hb
            rcases hb with (hb | hb) | hb
            · rcases hFR b hb with h | h
              · have := HGE.out b (by simp [h]); omega
              · omega
            · have := HGS.out b hb; omega
            · have := HGE.out b (by simp [hb]); omega
          have hkey : ∀ W', Turn [w.heap.size + 1] wr W' → (∃ F, oDisk W' [.slice ak kl.length ck, .slice r3 m.fSafe.length q3, .slice d2 m.fSafe.length e2, .int .i64 m.fNext] (fallP m kp) F ∧ ∀ b, b ∈ F → w.heap.size ≤ b) ∧ Below w.heap.size w W' := fun W' hT => by
            rw [HV.out]
            exact ⟨⟨_, oDisk_good.frame hod (fun b hb => hT.block b (oDisk_good.lt hod b hb) (fun h => by simp at h; have := hge b hb; omega)), fun b hb => by first | (have := hG3 b hb; omega) | (have := hge b hb; omega) | (rcases hF4 b hb with h2 | h2; (have := HSUB.out b h2; omega); omega)⟩, hbk.trans (hT.below (fun k hk => by simp at hk; omega) hbk.size)⟩
          have HKEY := Hid.mk hkey
          clear hkey hod hge hown oN oS hrow x0
          have y0 := HWB.out.cell 0 _ rfl
          have y1 := HWB.out.cell 1 _ rfl
          have y2 := HWB.out.cell 2 _ rfl
          have y3 := HWB.out.cell 3 _ rfl
          have ze0 := HBR.out.cell 0 _ rfl
          have ze1 := HBR.out.cell 1 _ rfl
          have ze2 := HBR.out.cell 2 _ rfl
          have ze3 := HBR.out.cell 3 _ rfl
          have zf0 := HBR.out.free 0
          have zf1 := HBR.out.free 1
          have zf2 := HBR.out.free 2
          have zf3 := HBR.out.free 3
          go_wp2_with fail
          obtain ⟨h1, h3⟩ := HKEY.out _ (show Turn [w.heap.size + 1] wr ((((wr.setCell ⟨w.heap.size + 1, 0, none⟩ (.slice ak kl.length ck)).setCell ⟨w.heap.size + 1, 1, none⟩ (.slice r3 m.fSafe.length q3)).setCell ⟨w.heap.size + 1, 2, none⟩ (.slice d2 m.fSafe.length e2)).setCell ⟨w.heap.size + 1, 3, none⟩ (.int .i64 m.fNext)) from turn4 _ _ _ _ _ _)
          exact bodyPost_ret (v := .agg #[.slice ak kl.length ck, .slice r3 m.fSafe.length q3, .slice d2 m.fSafe.length e2, .int .i64 m.fNext]) (by simp [results, Try.results53, go_sem, *]) rfl ⟨[.slice ak kl.length ck, .slice r3 m.fSafe.length q3, .slice d2 m.fSafe.length e2, .int .i64 m.fNext], rfl, h1, h3⟩
  · have HV : Hid (fallP m kp = m) := by show _ = _; unfold fallP; rw [if_neg (by intro h; exact hK h.1)]
    have hK2 : diskOk m = false := Bool.eq_false_iff.2 hK
    rw [hK2]
    clear hK hK2
    have ze0 := hbr2.cell 0 _ rfl
    have zf0 := hbr2.free 0
    have ze1 := hbr2.cell 1 _ rfl
    have zf1 := hbr2.free 1
    have ze2 := hbr2.cell 2 _ rfl
    have zf2 := hbr2.free 2
    have ze3 := hbr2.cell 3 _ rfl
    have zf3 := hbr2.free 3
    have hlt0 := hbr2.lt
    have hO3 : oDisk w2 [.slice d0 m.fInodes.length e0, .slice d1 m.fNames.length e1, .slice d2 m.fSafe.length e2, .int .i64 m.fNext] (fallP m kp) (G0 ++ G1 ++ G2 ++ []) := by rw [HV.out]; exact oDisk_good.frame HO.out (fun b hb => hb12.block b (HLT.out b hb))
    have hG3 : ∀ b, b ∈ G0 ++ G1 ++ G2 ++ [] → w.heap.size + 2 ≤ b := fun b hb => by have := HGE.out b hb; omega
    have HBf := Hid.mk hb2
    have HO3 := Hid.mk hO3
    clear hO3
    go_wp2_with fail
    refine bodyPost_ret (v := .agg #[.slice d0 m.fInodes.length e0, .slice d1 m.fNames.length e1, .slice d2 m.fSafe.length e2, .int .i64 m.fNext]) (by simp [results, Try.results53, go_sem, *]) rfl ⟨[.slice d0 m.fInodes.length e0, .slice d1 m.fNames.length e1, .slice d2 m.fSafe.length e2, .int .i64 m.fNext], by first | rfl | rw [HCP.out], ?_, ?_⟩
    · exact ⟨_, oDisk_good.frame HO3.out (fun b hb => (show Turn [w.heap.size + 1] w2 _ from by repeat (first | with_reducible exact Turn.refl _ _ | with_reducible refine Turn.setCell ?_ (by simp) _ | with_reducible refine Turn.alloc ?_ _ | with_reducible refine Turn.drew ?_)).block b (oDisk_good.lt HO3.out b hb) (by intro h; simp at h; have := hG3 b hb; omega)), fun b hb => by first | (have := hG3 b hb; omega) | (have := hge b hb; omega) | (rcases hF4 b hb with h2 | h2; (have := HSUB.out b h2; omega); omega)⟩
    · exact HBf.out.trans ((show Turn [w.heap.size + 1] w2 _ from by repeat (first | with_reducible exact Turn.refl _ _ | with_reducible refine Turn.setCell ?_ (by simp) _ | with_reducible refine Turn.alloc ?_ _ | with_reducible refine Turn.drew ?_)).below (fun k hk => by simp at hk; omega) HBf.out.size)

end Go.Proofs.Ytmbobjhplkpfoaa

namespace Go.Proofs.Ytmbobjhplkpfoaa
open Go.RowKit
set_option maxHeartbeats 400000 in
theorem specDiskNew_o (w : World) :
    Calls Try.prog 46 #[] w fun e w' => e = .returned (.agg #[.slice none 0 0, .slice none 0 0, .slice none 0 0, .int .i64 1]) ∧ Below w.heap.size w w' := by
  go_enter Try.func46, Try.ntmps46
  go_wp2
  refine bodyPost_ret (v := .agg #[.slice none 0 0, .slice none 0 0, .slice none 0 0, .int .i64 1]) (by simp [results, Try.results46, go_sem, *]) rfl ⟨rfl, ?_⟩
  repeat (first | with_reducible exact Below.refl _ _ | refine Below.setCell ?_ (by simp) _ | refine Below.alloc ?_ (by first | exact Nat.le_refl _ | (simp; omega)) _)
theorem own_new (w : World) : oDisk w [.slice none 0 0, .slice none 0 0, .slice none 0 0, .int .i64 1] ⟨[], [], [], 1⟩ [] :=
  ⟨_, [], _, [], _, [], rfl, .inl ⟨rfl, rfl, rfl⟩, .inl ⟨rfl, rfl, rfl⟩, .inl ⟨rfl, rfl, rfl⟩, rfl, rfl⟩
/-- What a disk's call of the specification leaves, its cells laid open. -/
theorem odisk_four {W' : World} {cs : List Value} {m : MDisk} {B : Nat} (h : ∃ F, oDisk W' cs m F ∧ ∀ b, b ∈ F → B ≤ b) : ∃ a0 n0 c0 a1 n1 c1 a2 n2 c2 z, cs = [.slice a0 n0 c0, .slice a1 n1 c1, .slice a2 n2 c2, .int .i64 z] := by
  obtain ⟨F, ho, _⟩ := h
  obtain ⟨a0, c0, a1, c1, a2, c2, _, _, _, hc, _⟩ := oDisk_cells ho
  exact ⟨a0, _, c0, a1, _, c1, a2, _, c2, _, hc⟩


/-- The strings that a slice's cells hold. -/
def RdT (B : Nat) (w : World) (a : Option Addr) (l : List ByteArray) : Prop :=
  ∀ j, (h : j < l.length) → ∃ b off, a = some ⟨b, off, none⟩ ∧ b < B ∧ w.cell? ⟨b, off + j, none⟩ = some (.string l[j])
def rdT (B : Nat) (w : World) (v : Value) (l : List ByteArray) : Prop := ∃ a c, v = .slice a l.length c ∧ l.length ≤ c ∧ c ≤ 9223372036854775807 ∧ RdT B w a l
def ownT (e : TypeId) (w : World) (v : Value) (l : List ByteArray) (F : List Nat) : Prop := w.ownsRow 0 e 1 v l.length (l.map Value.string) ∧ F = v.ownBlock.toList

theorem RdT.below {B : Nat} {w w' : World} {a : Option Addr} {l : List ByteArray} (h : RdT B w a l) (hb : Below B w w') : RdT B w' a l := by
  intro j hj
  obtain ⟨b, off, e, hB, hc⟩ := h j hj
  exact ⟨b, off, e, hB, (hb.cell (p := ⟨b, off + j, none⟩) hB).trans hc⟩
theorem rdT.below {B : Nat} {w w' : World} {v : Value} {l : List ByteArray} (h : rdT B w v l) (hb : Below B w w') : rdT B w' v l := by
  obtain ⟨a, c, e, h1, h2, h3⟩ := h
  exact ⟨a, c, e, h1, h2, h3.below hb⟩
theorem rdT.mono {B B' : Nat} {w : World} {v : Value} {l : List ByteArray} (h : rdT B w v l) (hB : B ≤ B') : rdT B' w v l := by
  obtain ⟨a, c, e, h1, h2, h3⟩ := h
  refine ⟨a, c, e, h1, h2, fun j hj => ?_⟩
  obtain ⟨b, off, e, hb, hc⟩ := h3 j hj
  exact ⟨b, off, e, by omega, hc⟩
theorem ownT.frame {e : TypeId} {w w' : World} {v : Value} {l : List ByteArray} {F : List Nat} (h : ownT e w v l F) (hb : ∀ k, k ∈ F → w'.heap[k]? = w.heap[k]?) : ownT e w' v l F := by
  obtain ⟨h1, rfl⟩ := h
  exact ⟨own_of_block h1 (fun k hk => hb k (by simp [hk])), rfl⟩
theorem ownT.lt {e : TypeId} {w : World} {v : Value} {l : List ByteArray} {F : List Nat} (h : ownT e w v l F) : ∀ k, k ∈ F → k < w.heap.size := by
  obtain ⟨h1, rfl⟩ := h
  intro k hk
  exact (h1.lt k (by simpa using hk)).2

def listP (m : MDisk) : List ByteArray := if diskOk m then m.fNames.map (·.fName) else []

theorem names_step {l : List MEntry} {k : Nat} (h : k < l.length) : (((l.take k).map (·.fName)).map Value.string) ++ [Value.string l[k].fName] = (((l.take (k + 1)).map (·.fName)).map Value.string) := by
  rw [List.take_succ_eq_append_getElem h, List.map_append, List.map_append]
  rfl

theorem Try.infoOfString : (Try.prog.info? 9).map (fun i => (i.zero, i.size, i.bytes)) = some (some (.string ByteArray.empty), 1, 16) := by kernel_rfl

set_option maxHeartbeats 1000000 in
theorem implList_c (cs : List Value) (m : MDisk) (w : World) (hr : rDisk w.heap.size w cs m) (hw : wDisk m ≤ 1048576) :
    Calls Try.prog 10 #[.agg cs.toArray] w fun e w' => ∃ (v : Value) (F : List Nat), e = .returned v ∧ ownT 9 w' v (listP m) F ∧ F.Nodup ∧ (∀ b, b ∈ F → w.heap.size ≤ b) ∧ Below w.heap.size w w' := by
  obtain ⟨i0, hi, hz0, hz1, hz2⟩ := info_parts Try.infoOfString
  have hq := hr
  obtain ⟨a0, c0, a1, c1, a2, c2, rfl, hI, hNm, hSf, hnx, _⟩ := hq
  have hw2 : m.fInodes.length + sumW wInode m.fInodes + (m.fNames.length + sumW wEntry m.fNames) + (m.fSafe.length + sumW wEntry m.fSafe) ≤ 1048576 := hw
  have HW := Hid.mk hw
  have HR := Hid.mk hr
  have HNL := Hid.mk hNm
  clear hr hI hNm hSf hw
  have hCd := fun W (hb : Below w.heap.size w W) => implDiskOk_c _ m W (rDisk_good.mono (rDisk_good.below HR.out hb) hb.size) HW.out
  go_enter Try.func10, Try.ntmps10
  go_wp2_with fail
  refine Calls.mono (hCd _ ?_) ?_
  · exact (Below.refl _ _).alloc (Nat.le_refl _) _
  rintro e w1 ⟨rfl, hx1⟩
  have hb1 : Below w.heap.size w w1 := bthen ((Below.refl _ _).alloc (Nat.le_refl _) _) hx1
  have hbx := (Bx.new w [.slice a0 m.fInodes.length c0, .slice a1 m.fNames.length c1, .slice a2 m.fSafe.length c2, .int .i64 m.fNext] 27).under hx1
  have y1 := hbx.2 1 _ rfl
  clear hCd
  by_cases hok : diskOk m = true
  · have HL : Hid (listP m = m.fNames.map (·.fName)) := by show listP m = _; unfold listP; rw [if_pos hok]
    rw [hok]
    clear hok
    go_wp2_with fail
    go_loopw [3, 12] (fun v i wr => ∃ k : Nat, k ≤ m.fNames.length ∧ i = .int .i64 k ∧ wr.ownsRow w.heap.size 9 1 v k (((m.fNames.take k).map (·.fName)).map Value.string) ∧ Below w.heap.size w wr) (fun _ i _ => m.fNames.length - (intOf i).toNat)
    case atStart => exact ⟨0, Nat.zero_le _, rfl, ⟨by simp, .inl ⟨rfl, rfl⟩⟩, hb1⟩
    case round =>
      obtain ⟨k, hk, rfl, hown, hbk⟩ := hrel
      by_cases hlt : k < m.fNames.length
      · obtain ⟨b1, o1, rfl, hB, cs, hcl, hcell, rfl, hsz, hwf, _⟩ := (HNL.out.2.2.below rEntry_good hbk) k hlt
        have k0 := hcell 0 _ rfl
        have k1 := hcell 1 _ rfl
        rw [Nat.add_zero] at k0
        have HST := Hid.mk (names_step hlt)
        clear hcell hcl
        generalize m.fNames[k].fName = nm at *
        generalize m.fNames[k].fId = id at *
        have hbs := hbk.size
        go_wp2_with (at_builtin; refine wpList_append_own_at _ rfl _ _ 32 rfl w.heap.size 9 i0 (.string ByteArray.empty) 1 16 Try.underlying32 hi hz0 hz1 hz2 rfl (by decide) _ _ _ rfl (own_below hown (((Below.refl _ _).alloc (Nat.le_refl _) _).alloc (by simp) _)) ⟨wr.heap.size + 1, 0, none⟩ 1 1 [.string nm] rfl rfl (bx_news (by simpa using Bx.new (wr.alloc _) _ _)) (by intro u hu; simp at hu; subst hu; rfl) (by unfold maxLen; omega) (by omega) (by simp; omega) ?_; intro v' w3 hown3 hgrow3 hnil hloc)
        have hT := Turn.after (((Below.refl wr.heap.size wr).alloc (Nat.le_refl _) _).alloc (by simp) _) (turnOwn hgrow3)
        have hge : ∀ k, k ∈ (Value.ownBlock _).toList → w.heap.size ≤ k := fun k hk => (hown.lt k (by simpa using hk)).1
        go_roundw
        case rel => exact ⟨k + 1, by omega, by go_num, own_congr hown3 rfl HST.out, Turn.under hbk hT (fun k hk => hge k hk)⟩
        case measure => simp [intOf]; omega
      · have hkn : k = m.fNames.length := by omega
        subst hkn
        rw [List.take_length] at hown
        have HOW := Hid.mk hown
        go_wp2_with fail
        go_ret
        refine ⟨_, _, rfl, ⟨?_, rfl⟩, ?_, ?_, hbk⟩
        · rw [HL.out]
          exact own_base (own_congr hown (by simp) rfl) (Nat.zero_le _)
        · cases Value.ownBlock _ <;> simp
        · intro b hb
          exact (HOW.out.lt b (by simpa using hb)).1
  · have hok2 : diskOk m = false := Bool.eq_false_iff.2 hok
    have HL : Hid (listP m = []) := by show listP m = _; unfold listP; rw [if_neg hok]
    rw [hok2]
    clear hok
    go_wp2_with fail
    go_ret
    refine ⟨_, [], rfl, ⟨?_, rfl⟩, List.nodup_nil, (fun b hb => by cases hb), hb1⟩
    rw [HL.out]
    exact ⟨by simp, .inl ⟨rfl, rfl⟩⟩

end Go.Proofs.Ytmbobjhplkpfoaa
