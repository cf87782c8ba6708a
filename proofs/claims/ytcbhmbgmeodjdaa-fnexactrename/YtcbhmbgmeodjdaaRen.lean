/-
  The program's Rename.
-/
import Derived.Test.YtcbhmbgmeodjdaaWithN
import Derived.Test.YtcbhmbgmeodjdaaMapS
import Derived.Test.YtcbhmbgmeodjdaaDatW
import Derived.Test.YtcbhmbgmeodjdaaCopy
namespace Go.Proofs.Ytcbhmbgmeodjdaa
open Go.RowKit Go.Maps
set_option linter.unusedVariables false
set_option linter.unusedSimpArgs false
set_option maxRecDepth 10000

set_option maxHeartbeats 2000000 in
theorem formOk2_any (cs : List Value) (m : MDisk) (a : Option Addr) (c : Nat) (s t : ByteArray) (w : World) (hr : rDisk w.heap.size w cs m) (hw : wDisk m ≤ 1048576) (hs : s.size ≤ 9223372036854775807) (ht : t.size ≤ 9223372036854775807) (ha : ∃ b, a = some ⟨b, 0, none⟩ ∧ b < w.heap.size ∧ w.cell? ⟨b, 0, none⟩ = some (.string s) ∧ w.cell? ⟨b, 1, none⟩ = some (.string t)) :
    Calls Try.prog 46 #[.agg cs.toArray, .slice a 2 c] w fun e w' => e = .returned (.bool (diskOk m && nameOk s && nameOk t)) ∧ Below w.heap.size w w' := by
  have hq := hr
  obtain ⟨a0, c0, a1, c1, a2, c2, rfl, _⟩ := hq
  obtain ⟨b, rfl, hbl, hcs, hct⟩ := ha
  have HW := Hid.mk hw
  have HR := Hid.mk hr
  clear hr hw
  have hCd := fun W (hb : Below w.heap.size w W) => implDiskOk_c _ m W (rDisk_good.mono (rDisk_good.below HR.out hb) hb.size) HW.out
  have hbA := (Below.refl w.heap.size w).alloc (Nat.le_refl _) (.cells #[.slice a0 m.fInodes.length c0, .slice a1 m.fNames.length c1, .slice a2 m.fSafe.length c2, .int .i64 m.fNext] 27)
  go_enter Try.func46, Try.ntmps46
  go_wp2_with fail
  refine wp_loop_rounds 3 ?_
  rw [rounds_succ]
  go_wp2_with fail
  refine (implNameOk_any s _ hs).mono ?_
  rintro e w1 ⟨rfl, hx1⟩
  have hb1 := bthen hbA hx1
  have hbx := (Bx.new w [.slice a0 m.fInodes.length c0, .slice a1 m.fNames.length c1, .slice a2 m.fSafe.length c2, .int .i64 m.fNext] 27).under hx1
  have hct1 := (hb1.cell (p := ⟨b, 1, none⟩) hbl).trans hct
  by_cases hN : nameOk s = true
  · rw [hN]
    go_wp2_with fail
    rw [rounds_succ]
    go_wp2_with fail
    refine (implNameOk_any t _ ht).mono ?_
    rintro e w2 ⟨rfl, hx2⟩
    have hb2 := bthen hb1 hx2
    have hbx2 := hbx.under hx2
    have y0 := hbx2.2 0 _ rfl
    have y1 := hbx2.2 1 _ rfl
    have y2 := hbx2.2 2 _ rfl
    have y3 := hbx2.2 3 _ rfl
    by_cases hM : nameOk t = true
    · rw [hM]
      go_wp2_with fail
      rw [rounds_succ]
      go_wp2_with fail
      refine Calls.mono (hCd _ hb2) ?_
      rintro e w3 ⟨rfl, hx3⟩
      go_wp2_with fail
      go_ret
      exact ⟨by rw [hN, hM, Bool.and_true, Bool.and_true]; rfl, bthen hb2 hx3⟩
    · have hM2 : nameOk t = false := Bool.eq_false_iff.2 hM
      rw [hM2]
      go_wp2_with fail
      go_ret
      exact ⟨by rw [hM2, Bool.and_false]; rfl, hb2⟩
  · have hN2 : nameOk s = false := Bool.eq_false_iff.2 hN
    rw [hN2]
    go_wp2_with fail
    go_ret
    exact ⟨by rw [hN2, Bool.and_false, Bool.false_and]; rfl, hb1⟩

set_option maxHeartbeats 4000000 in
theorem implRename_c (cs : List Value) (m : MDisk) (s t : ByteArray) (w : World) (hr : rDisk w.heap.size w cs m) (hs : s.size ≤ 9223372036854775807) (ht : t.size ≤ 9223372036854775807) (hw : wDisk m ≤ 1048576) (hw1 : s.size ≤ 1048576) (hwt1 : t.size ≤ 1048576) :
    Calls Try.prog 24 #[.agg cs.toArray, .string s, .string t] w fun e w' => ∃ (cs' : List Value) (F : List Nat), e = .returned (.tuple #[.agg cs'.toArray, .int .i64 (renameC m s t)]) ∧ oDisk w' cs' (renameP m s t) F ∧ F.Nodup ∧ (∀ b, b ∈ F → w.heap.size ≤ b) ∧ Below w.heap.size w w' := by
  have hq := hr
  obtain ⟨a0, c0, a1, c1, a2, c2, rfl, hI, hNm, hSf, hnx, _⟩ := hq
  have hw2 : m.fInodes.length + sumW wInode m.fInodes + (m.fNames.length + sumW wEntry m.fNames) + (m.fSafe.length + sumW wEntry m.fSafe) ≤ 1048576 := hw
  have HW := Hid.mk hw
  have HR := Hid.mk hr
  have HNM := Hid.mk hNm
  clear hr hI hNm hSf hw
  go_enter Try.func24, Try.ntmps24
  go_wp2_with fail
  obtain ⟨wq, hwq⟩ : ∃ wq, wq = ((w.alloc (.cells #[.slice a0 m.fInodes.length c0, .slice a1 m.fNames.length c1, .slice a2 m.fSafe.length c2, .int .i64 m.fNext] 27)).alloc (.cells #[.slice none 0 0, .slice none 0 0, .slice none 0 0, .int .i64 0] 27)) := ⟨_, rfl⟩
  have hbW : Below w.heap.size w wq := by rw [hwq]; exact Below.alloc (Below.alloc (Below.refl _ _) (by exact Nat.le_refl _) _) (by simp; try omega) _
  have hbd : Bw wq (w.heap.size) 27 [.slice a0 m.fInodes.length c0, .slice a1 m.fNames.length c1, .slice a2 m.fSafe.length c2, .int .i64 m.fNext] := by rw [hwq]; exact Bw.alloc (Bw.new' _ _ _ (by simp)) _
  have hbr : Bw wq (w.heap.size + 1) 27 [.slice none 0 0, .slice none 0 0, .slice none 0 0, .int .i64 0] := by rw [hwq]; exact Bw.new' _ _ _ (by simp)
  have HQS : Hid (wq.heap.size = w.heap.size + 1 + 1) := by show _ = _; rw [hwq]; simp
  rw [← hwq]
  clear hwq
  have hbL : Below wq.heap.size wq (wq.alloc (.cells #[.string s, .string t] 9)) := (Below.refl _ _).alloc (Nat.le_refl _) _
  have hbB := bthen hbW hbL
  have hfa : ∃ b, (some ⟨w.heap.size + 1 + 1, 0, none⟩ : Option Addr) = some ⟨b, 0, none⟩ ∧ b < (wq.alloc (.cells #[.string s, .string t] 9)).heap.size ∧ (wq.alloc (.cells #[.string s, .string t] 9)).cell? ⟨b, 0, none⟩ = some (.string s) ∧ (wq.alloc (.cells #[.string s, .string t] 9)).cell? ⟨b, 1, none⟩ = some (.string t) := by
    rw [← HQS.out]
    exact ⟨wq.heap.size, rfl, by simp, by simp, by simp⟩
  refine (formOk2_any _ m (some ⟨w.heap.size + 1 + 1, 0, none⟩) 2 s t _ (rDisk_good.mono (rDisk_good.below HR.out hbB) hbB.size) HW.out hs ht hfa).mono ?_
  clear hfa
  rintro e w1 ⟨rfl, hx1'⟩
  have hx1 := bthen hbL hx1'
  have hb1 := bthen hbW hx1
  have hbd1 := hbd.under hx1
  have hbr1 := hbr.under hx1
  have hl1 := hbd1.lt
  have hl1r := hbr1.lt
  have y0 := hbd1.cell 0 _ rfl
  have y1 := hbd1.cell 1 _ rfl
  have y2 := hbd1.cell 2 _ rfl
  have y3 := hbd1.cell 3 _ rfl
  clear hbd hbr hbL hbB hx1'
  by_cases hF : (diskOk m && nameOk s && nameOk t) = true
  · have hF2 := hF
    rw [Bool.and_eq_true, Bool.and_eq_true] at hF2
    obtain ⟨⟨hK, hNs⟩, hNt⟩ := hF2
    have hDR := diskOk_iff.1 hK
    have hRi : Rise m.fNames := hDR.names.rise
    have HNO := Hid.mk (fun i j hi hj he => names_once hRi (i := i) (j := j) hi hj he)
    have HRI0 := Hid.mk hRi
    have HDR := Hid.mk hDR
    have HNT := Hid.mk hNt
    have HCA : Hid (renameC m s t = if hasName m.fNames s = true then 0 else 2) := by
      show _ = _
      unfold renameC callP
      rw [if_pos hNt, hK, hNs]
      rfl
    rw [hF]
    clear hF hK hNs hNt hDR hRi
    go_wp2_with fail
    refine (nameMap_any a1 m.fNames.length c1 m.fNames w1 rfl (LeafL.mono rEntry_good (HNM.out.below rEntry_good hb1) hb1.size) (by omega)).mono ?_
    rintro e w2 ⟨Dm, rfl, hown, hNM, hx2⟩
    have HNM2 := Hid.mk hNM
    clear hNM
    have hb2 := bthen hb1 hx2
    have hbd2 := hbd1.under hx2
    have hbr2 := hbr1.under hx2
    have hl2 := hbd2.lt
    have hl2r := hbr2.lt
    have hz2 := hx2.size
    have hzb1 := hb1.size
    clear y0 y1 y2 y3 hbd1 hbr1
    have y0 := hbd2.cell 0 _ rfl
    have y1 := hbd2.cell 1 _ rfl
    have y2 := hbd2.cell 2 _ rfl
    have y3 := hbd2.cell 3 _ rfl
    by_cases hH : hasName m.fNames s = true
    · have HC0 : Hid (renameC m s t = 0) := by show _ = _; rw [HCA.out, if_pos hH]
      have HV : Hid (renameP m s t = keepD { m with fNames := renameN m s t }) := by show _ = _; unfold renameP renameD; rw [if_pos HC0.out]
      obtain ⟨hk, hnm⟩ := hasName_at hH
      have hid : idOf m.fNames s = m.fNames[nameAt m.fNames s].fId := by unfold idOf; rw [List.getElem?_eq_getElem hk]; rfl
      have hhs : Maps.has Dm (kS s) = true := (HNM2.out.2 s).1.2 ⟨_, hk, hk, hnm⟩
      have HC : Hid (Dm.atKey (kS s) (.lit (.int .i64 0)) = .lit (.int .i64 (idOf m.fNames s))) := by
        obtain ⟨j, hj, _, he, ha⟩ := (HNM2.out.2 s).2 hhs
        have : j = nameAt m.fNames s := HNO.out j _ hj hk (he.trans hnm.symm)
        subst this
        show Dm.atKey _ _ = _
        rw [ha, hid]
      have h3 := renameN_ok HDR.out hH HNT.out
      have HRI : Hid (Rise (renameN m s t)) := h3.1.rise
      have HLN : Hid ((renameN m s t).length ≤ 1000) := by show _ ≤ _; have := h3.2; omega
      have hwt := ok_weight (diskOk_iff.2 HDR.out)
      have h7 := sumW_names (fun e he => (h3.1.1 e he).2)
      have h8 := h3.2
      have HWN : Hid (wDisk { m with fNames := renameN m s t } ≤ 1048576) := by
        show _ ≤ _
        rw [wDisk_eq]
        simp only
        omega
      have HM : Hid (MapIs ((Dm.del (kS s)).put (kS t) (.lit (.int .i64 (idOf m.fNames s)))) (renameN m s t)) := ((MapIs.ofN rfl HNM2.out HRI0.out).del s).put ⟨t, idOf m.fNames s⟩
      have hkey := keyStr hs
      have hkeyt := keyStr ht
      have hnl : m.fNames.length ≤ 30 := hwt.2.2.1
      clear hid hk hnm hH h3 h7 h8 hwt
      go_wp2_with first
        | (at_lookup; refine wpList_lookup_own_ok_int _ rfl _ _ 81 rfl 9 3 .i64 lawStr Try.underlying81 Try.underlying3 (zeroInt _) w1.heap.size m.fNames.length Dm rfl hown _ _ rfl hkey ?_; intro c hat hwc; have hce : c = idOf m.fNames s := (by rw [HC.out] at hat; simp only [DataW.lit.injEq, Lit.int.injEq, true_and] at hat; exact hat.symm); subst hce; clear hat)
        | (at_delete; refine wpList_delete_own _ rfl _ _ 81 9 rfl 3 lawStr Try.underlying81 _ w1.heap.size m.fNames.length Dm rfl hown _ _ rfl hkey ?_; intro w3 hown3 hturn3; have hT3 : Turn [w1.heap.size] w2 w3 := Turn.ofGrown hturn3.grown (fun k hk => by cases hk; simp))
        | (at_mapUpdate; refine wpList_mapUpdate_own _ rfl _ _ _ 81 rfl 9 3 lawStr Try.underlying81 _ w1.heap.size m.fNames.length _ rfl hown3 (by unfold maxLen; omega) _ _ _ rfl rfl hkeyt _ [] (plainElem_int Try.underlying3 hwc) ?_; intro w4 hown4 hgrow4; have hT4 : Turn [w1.heap.size] w2 w4 := hT3.trans (Turn.ofGrown hgrow4 (fun k hk => by cases hk; simp)); have hbd3 := hbd2.turn hT4 (by simp; omega); have hbr3 := hbr2.turn hT4 (by simp; omega); have yy0 := hbd3.cell 0 _ rfl; have yy1 := hbd3.cell 1 _ rfl; have yy2 := hbd3.cell 2 _ rfl; have yy3 := hbd3.cell 3 _ rfl)
      have hb3 : Below w.heap.size w w4 := hb2.trans (hT4.below (fun k hk => by simp at hk; omega) hb2.size)
      clear y0 y1 y2 y3 hown hown3 hturn3 hgrow4
      obtain ⟨kd, hkd⟩ : ∃ kd, kd = keepD { m with fNames := renameN m s t } := ⟨_, rfl⟩
      have HKD := Hid.mk hkd
      clear hkd
      have hcall := withNames_any _ m w1.heap.size _ _ (renameN m s t) w4 (rDisk_good.mono (rDisk_good.below HR.out hb3) hb3.size) hown4 HM.out HRI.out HLN.out HWN.out
      rw [← HKD.out] at hcall
      clear hown4
      refine hcall.mono ?_
      rintro e w5 ⟨cs3, F3, rfl, ho3, hN3, hge3, hx5⟩
      have hb5 := bthen hb3 hx5
      have hbr5 := hbr3.under hx5
      have hl5 := hbr5.lt
      have hz5 := hb3.size
      have hlq5 := hbr3.lt
      obtain ⟨q0, p0, q1, p1, q2, p2, G0, G1, G2, rfl, _, _, _, _, rfl⟩ := oDisk_cells ho3
      have hkey : ∀ W', Turn [w.heap.size + 1] w5 W' → oDisk W' [.slice q0 (kd).fInodes.length p0, .slice q1 (kd).fNames.length p1, .slice q2 (kd).fSafe.length p2, .int .i64 (kd).fNext] (kd) (G0 ++ G1 ++ G2 ++ []) ∧ Below w.heap.size w W' := fun W' hT =>
        ⟨oDisk_good.frame ho3 (fun b hb => hT.block b (oDisk_good.lt ho3 b hb) (fun h => by simp at h; have := hge3 b hb; omega)), hb5.trans (hT.below (fun k hk => by simp at hk; omega) hb5.size)⟩
      have HKEY := Hid.mk hkey
      have HNQ := Hid.mk hN3
      have HGQ : Hid (∀ b, b ∈ G0 ++ G1 ++ G2 ++ [] → w.heap.size ≤ b) := fun b hb => by have := hge3 b hb; omega
      clear hkey ho3 hN3 hge3 
      have ze0 := hbr5.cell 0 _ rfl
      have ze1 := hbr5.cell 1 _ rfl
      have ze2 := hbr5.cell 2 _ rfl
      have ze3 := hbr5.cell 3 _ rfl
      have zf0 := hbr5.free 0
      have zf1 := hbr5.free 1
      have zf2 := hbr5.free 2
      have zf3 := hbr5.free 3
      go_wp2_with fail
      obtain ⟨h1, h3⟩ := HKEY.out _ (show Turn [w.heap.size + 1] w5 ((((w5.setCell ⟨w.heap.size + 1, 0, none⟩ (.slice q0 (kd).fInodes.length p0)).setCell ⟨w.heap.size + 1, 1, none⟩ (.slice q1 (kd).fNames.length p1)).setCell ⟨w.heap.size + 1, 2, none⟩ (.slice q2 (kd).fSafe.length p2)).setCell ⟨w.heap.size + 1, 3, none⟩ (.int .i64 (kd).fNext)) from turn4 _ _ _ _ _ _)
      exact bodyPost_ret (v := .tuple #[.agg #[.slice q0 (kd).fInodes.length p0, .slice q1 (kd).fNames.length p1, .slice q2 (kd).fSafe.length p2, .int .i64 (kd).fNext], .int .i64 0]) (by simp [results, Try.results24, go_sem, *]) rfl ⟨[.slice q0 (kd).fInodes.length p0, .slice q1 (kd).fNames.length p1, .slice q2 (kd).fSafe.length p2, .int .i64 (kd).fNext], _, by rw [HC0.out], by rw [HV.out, ← HKD.out]; exact h1, HNQ.out, HGQ.out, h3⟩
    · have HC2 : Hid (renameC m s t = 2) := by show _ = _; rw [HCA.out, if_neg hH]
      have HV : Hid (renameP m s t = m) := by show _ = _; unfold renameP; rw [HC2.out]; rfl
      have hhs : Maps.has Dm (kS s) = false := by
        rw [Bool.eq_false_iff]
        intro h
        obtain ⟨j, hj, _, he⟩ := (HNM2.out.2 s).1.1 h
        exact hH (hasName_yes hj he)
      have hkey := keyStr hs
      clear hH
      go_wp2_with (at_lookup; refine wpList_lookup_own_ok_int _ rfl _ _ 81 rfl 9 3 .i64 lawStr Try.underlying81 Try.underlying3 (zeroInt _) w1.heap.size m.fNames.length Dm rfl hown _ _ rfl hkey ?_; intro c hat hwc)
      refine (copyDisk_any _ (m) w2 (rDisk_good.mono (rDisk_good.below HR.out hb2) hb2.size) HW.out).mono ?_
      rintro e w3 ⟨cs3, F3, rfl, ho3, hN3, hge3, hx3⟩
      have hb3 := bthen hb2 hx3
      have hbr3 := hbr2.under hx3
      have hl3 := hbr3.lt
      have hz3 := hb2.size
      have hlq3 := hbr2.lt
      obtain ⟨q0, p0, q1, p1, q2, p2, G0, G1, G2, rfl, _, _, _, _, rfl⟩ := oDisk_cells ho3
      have hkey : ∀ W', Turn [w.heap.size + 1] w3 W' → oDisk W' [.slice q0 m.fInodes.length p0, .slice q1 m.fNames.length p1, .slice q2 m.fSafe.length p2, .int .i64 m.fNext] (m) (G0 ++ G1 ++ G2 ++ []) ∧ Below w.heap.size w W' := fun W' hT =>
        ⟨oDisk_good.frame ho3 (fun b hb => hT.block b (oDisk_good.lt ho3 b hb) (fun h => by simp at h; have := hge3 b hb; omega)), hb3.trans (hT.below (fun k hk => by simp at hk; omega) hb3.size)⟩
      have HKEY := Hid.mk hkey
      have HNQ := Hid.mk hN3
      have HGQ : Hid (∀ b, b ∈ G0 ++ G1 ++ G2 ++ [] → w.heap.size ≤ b) := fun b hb => by have := hge3 b hb; omega
      clear hkey ho3 hN3 hge3 
      have ze0 := hbr3.cell 0 _ rfl
      have ze1 := hbr3.cell 1 _ rfl
      have ze2 := hbr3.cell 2 _ rfl
      have ze3 := hbr3.cell 3 _ rfl
      have zf0 := hbr3.free 0
      have zf1 := hbr3.free 1
      have zf2 := hbr3.free 2
      have zf3 := hbr3.free 3
      go_wp2_with fail
      obtain ⟨h1, h3⟩ := HKEY.out _ (show Turn [w.heap.size + 1] w3 ((((w3.setCell ⟨w.heap.size + 1, 0, none⟩ (.slice q0 m.fInodes.length p0)).setCell ⟨w.heap.size + 1, 1, none⟩ (.slice q1 m.fNames.length p1)).setCell ⟨w.heap.size + 1, 2, none⟩ (.slice q2 m.fSafe.length p2)).setCell ⟨w.heap.size + 1, 3, none⟩ (.int .i64 m.fNext)) from turn4 _ _ _ _ _ _)
      exact bodyPost_ret (v := .tuple #[.agg #[.slice q0 m.fInodes.length p0, .slice q1 m.fNames.length p1, .slice q2 m.fSafe.length p2, .int .i64 m.fNext], .int .i64 2]) (by simp [results, Try.results24, go_sem, *]) rfl ⟨[.slice q0 m.fInodes.length p0, .slice q1 m.fNames.length p1, .slice q2 m.fSafe.length p2, .int .i64 m.fNext], _, by rw [HC2.out], by rw [HV.out]; exact h1, HNQ.out, HGQ.out, h3⟩
  · have hF2 : (diskOk m && nameOk s && nameOk t) = false := Bool.eq_false_iff.2 hF
    have HC1 : Hid (renameC m s t = 1) := by
      show _ = _
      unfold renameC callP
      by_cases h1 : nameOk t = true
      · rw [h1, Bool.and_true] at hF2
        rw [if_pos h1, hF2]
        rfl
      · rw [if_neg h1]
    have HV : Hid (renameP m s t = m) := by show _ = _; unfold renameP; rw [HC1.out]; rfl
    rw [hF2]
    clear hF hF2
    go_wp2_with fail
    refine (copyDisk_any _ (m) w1 (rDisk_good.mono (rDisk_good.below HR.out hb1) hb1.size) HW.out).mono ?_
    rintro e w2 ⟨cs3, F3, rfl, ho3, hN3, hge3, hx2⟩
    have hb2 := bthen hb1 hx2
    have hbr2 := hbr1.under hx2
    have hl2 := hbr2.lt
    have hz2 := hb1.size
    have hlq2 := hbr1.lt
    obtain ⟨q0, p0, q1, p1, q2, p2, G0, G1, G2, rfl, _, _, _, _, rfl⟩ := oDisk_cells ho3
    have hkey : ∀ W', Turn [w.heap.size + 1] w2 W' → oDisk W' [.slice q0 m.fInodes.length p0, .slice q1 m.fNames.length p1, .slice q2 m.fSafe.length p2, .int .i64 m.fNext] (m) (G0 ++ G1 ++ G2 ++ []) ∧ Below w.heap.size w W' := fun W' hT =>
      ⟨oDisk_good.frame ho3 (fun b hb => hT.block b (oDisk_good.lt ho3 b hb) (fun h => by simp at h; have := hge3 b hb; omega)), hb2.trans (hT.below (fun k hk => by simp at hk; omega) hb2.size)⟩
    have HKEY := Hid.mk hkey
    have HNQ := Hid.mk hN3
    have HGQ : Hid (∀ b, b ∈ G0 ++ G1 ++ G2 ++ [] → w.heap.size ≤ b) := fun b hb => by have := hge3 b hb; omega
    clear hkey ho3 hN3 hge3 
    have ze0 := hbr2.cell 0 _ rfl
    have ze1 := hbr2.cell 1 _ rfl
    have ze2 := hbr2.cell 2 _ rfl
    have ze3 := hbr2.cell 3 _ rfl
    have zf0 := hbr2.free 0
    have zf1 := hbr2.free 1
    have zf2 := hbr2.free 2
    have zf3 := hbr2.free 3
    go_wp2_with fail
    obtain ⟨h1, h3⟩ := HKEY.out _ (show Turn [w.heap.size + 1] w2 ((((w2.setCell ⟨w.heap.size + 1, 0, none⟩ (.slice q0 m.fInodes.length p0)).setCell ⟨w.heap.size + 1, 1, none⟩ (.slice q1 m.fNames.length p1)).setCell ⟨w.heap.size + 1, 2, none⟩ (.slice q2 m.fSafe.length p2)).setCell ⟨w.heap.size + 1, 3, none⟩ (.int .i64 m.fNext)) from turn4 _ _ _ _ _ _)
    exact bodyPost_ret (v := .tuple #[.agg #[.slice q0 m.fInodes.length p0, .slice q1 m.fNames.length p1, .slice q2 m.fSafe.length p2, .int .i64 m.fNext], .int .i64 1]) (by simp [results, Try.results24, go_sem, *]) rfl ⟨[.slice q0 m.fInodes.length p0, .slice q1 m.fNames.length p1, .slice q2 m.fSafe.length p2, .int .i64 m.fNext], _, by rw [HC1.out], by rw [HV.out]; exact h1, HNQ.out, HGQ.out, h3⟩

end Go.Proofs.Ytcbhmbgmeodjdaa
