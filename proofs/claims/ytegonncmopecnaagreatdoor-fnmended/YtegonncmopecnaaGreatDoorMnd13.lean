/-
  Part 14 of the texts that the proof leans on.
-/
import Derived.Test.YtegonncmopecnaaGreatDoorMnd12
import Derived.Test.YtegonncmopecnaaGreatDoorMnd10
import Derived.Test.YtegonncmopecnaaGreatDoorMnd3
import Derived.Test.YtegonncmopecnaaGreatDoorMnd1
import Derived.Test.YtegonncmopecnaaGreatDoorMnd9
import Derived.Test.YtegonncmopecnaaGreatDoorMnd4
import Derived.Test.YtegonncmopecnaaGreatDoorMnd0
import Derived.Deep.AppendSrc
import Derived.Test.YtegonncmopecnaaGreatDoorMnd11
set_option linter.unusedVariables false
set_option linter.unusedSimpArgs false
set_option maxRecDepth 10000

namespace Go.Proofs.YtegonncmopecnaaGreatDoor
open Go.RowKit Go.Maps
theorem rise_withE {l : List MEntry} {e : MEntry} (h : Rise l) : Rise (withE l e) := by
 unfold Rise withE
 rw [List.pairwise_append, List.pairwise_cons]
 refine ⟨List.Pairwise.sublist List.filter_sublist h, ⟨fun y hy => (by simpa using (List.mem_filter.1 hy).2), List.Pairwise.sublist List.filter_sublist h⟩, ?_⟩
 intro x hx y hy
 have hx' : strLt x.fName e.fName = true := by simpa using (List.mem_filter.1 hx).2
 rcases List.mem_cons.1 hy with rfl | hy
 ·exact hx'
 ·exact strLt_trans hx' (by simpa using (List.mem_filter.1 hy).2)
theorem ownS_block {α : Type} {size : Nat} {e : TypeId} {O : ORep α} {w : World} {v : Value} {l : List α} {F : List Nat} (h : ownS size e O w v l F) : ∀ k, v.ownBlock = some k -> k ∈ F := by
 intro k hk
 rcases h with ⟨rfl, _, _⟩ | ⟨g, cap, cur, Fs, rfl, h2, h3, h4, h5, h6, h7, rfl⟩
 ·simp [Value.ownBlock] at hk
 ·simp [Value.ownBlock] at hk
  simp [hk]
theorem newI_own {m : MDisk} (h : (Lit.int .i64 m.fNext).wf = true) (w : World) : oInode w [.int .i64 m.fNext, .slice none 0 0, .int .i64 0] (newI m) [] :=
 ⟨.slice none 0 0, [], rfl, h, ⟨⟨rfl, .inl ⟨rfl, rfl⟩⟩, (by intro z hz; cases hz), rfl⟩, rfl, rfl⟩
theorem create_weight {m : MDisk} {s : ByteArray} (h : diskOk m = true) (hs : s.size <= 12) : wDisk (createD m s) <= 1000000 /\ (withE m.fNames ⟨s, m.fNext⟩).length <= 1000 /\ wDisk { m with fNames := withE m.fNames ⟨s, m.fNext⟩ } <= 1000000 := by
 have h1 := ok_weight h
 have h2 := withE_length (l := m.fNames) (e := ⟨s, m.fNext⟩)
 have h3 := sumW_withE (l := m.fNames) (e := ⟨s, m.fNext⟩)
 have h4 : wEntry ⟨s, m.fNext⟩ = s.size := rfl
 have h5 : sumW wInode [newI m] = 0 := rfl
 refine ⟨?_, by omega, ?_⟩
 ·rw [wDisk_eq]
  unfold createD
  simp only [sumW_append, List.length_append, List.length_cons, List.length_nil]
  omega
 ·rw [wDisk_eq]
  simp only
  omega
set_option maxHeartbeats 4000000 in
theorem implCreate_c (cs : List Value) (m : MDisk) (s : ByteArray) (w : World) (hr : rDisk w.heap.size w cs m) (hs : s.size <= 9223372036854775807) (hw : wDisk m <= 1048576) (hw1 : s.size <= 1048576) :
  Calls Tryz.prog 49 #[.agg cs.toArray, .string s] w fun e w' => ∃ (cs' : List Value) (F : List Nat), e = .returned (.tuple #[.agg cs'.toArray, .int .i64 (createC m s)]) /\ oDisk w' cs' (createP m s) F /\ F.Nodup /\ (∀ b, b ∈ F -> w.heap.size <= b) /\ Below w.heap.size w w' := by
 obtain ⟨iI, hiI, hzI0, hzI1, hzI2⟩ := info_parts Tryz.infoOfInode
 have hq := hr
 obtain ⟨a0, c0, a1, c1, a2, c2, rfl, hI, hNm, hSf, hnx, _⟩ := hq
 have hw2 : m.fInodes.length + sumW wInode m.fInodes + (m.fNames.length + sumW wEntry m.fNames) + (m.fSafe.length + sumW wEntry m.fSafe) <= 1048576 := hw
 have HW := Hm hw
 have HR := Hm hr
 have HNM := Hm hNm
 clear hr hI hNm hSf hw
 go_enter Tryz.func49, Tryz.ntmps49
 go_wp2_with fail
 obtain ⟨wq, hwq⟩ : ∃ wq, wq = ((w.alloc (.cells #[.slice a0 m.fInodes.length c0, .slice a1 m.fNames.length c1, .slice a2 m.fSafe.length c2, .int .i64 m.fNext] 27)).alloc (.cells #[.slice none 0 0, .slice none 0 0, .slice none 0 0, .int .i64 0] 27)) := ⟨_, rfl⟩
 have hbW : Below w.heap.size w wq := by rw [hwq]; exact Below.alloc (Below.alloc rB (by exact rN) _) (by simp; try omega) _
 have hbd : Bw wq (w.heap.size) 27 [.slice a0 m.fInodes.length c0, .slice a1 m.fNames.length c1, .slice a2 m.fSafe.length c2, .int .i64 m.fNext] := by rw [hwq]; exact Bw.alloc (Bw.new' _ _ _ (by simp)) _
 have hbr : Bw wq (w.heap.size + 1) 27 [.slice none 0 0, .slice none 0 0, .slice none 0 0, .int .i64 0] := by rw [hwq]; exact Bw.new' _ _ _ (by simp)
 have HQS : Hid (wq.heap.size = w.heap.size + 1 + 1) := by show _ = _; rw [hwq]; simp
 rw [<- hwq]
 clear hwq
 have hbL : Below wq.heap.size wq (wq.alloc (.cells #[.string s] 9)) := rB.alloc rN _
 have hbB := bthen hbW hbL
 have hfa : ∃ b, (some ⟨w.heap.size + 1 + 1, 0, none⟩ : Option Addr) = some ⟨b, 0, none⟩ /\ b < (wq.alloc (.cells #[.string s] 9)).heap.size /\ (wq.alloc (.cells #[.string s] 9)).cell? ⟨b, 0, none⟩ = some (.string s) := by
  rw [<- HQS.out]
  exact ⟨wq.heap.size, rfl, by simp, by simp⟩
 refine (formOk1_any _ m (some ⟨w.heap.size + 1 + 1, 0, none⟩) 1 s _ (rDisk_good.mono (rDisk_good.below HR.out hbB) hbB.size) HW.out hs hfa).mono ?_
 clear hfa
 rintro e w1 ⟨rfl, hx1'⟩
 have hx1 := bthen hbL hx1'
 have hb1 := bthen hbW hx1
 have hbd1 := hbd.under hx1
 have hbr1 := hbr.under hx1
 have hl1 := hbd1.lt
 have hl1r := hbr1.lt
 obtain ⟨y0, y1, y2, y3⟩ := hbd1.c4
 clear hbd hbr hbL hbB hx1'
 by_cases hF : (diskOk m && nameOk s) = true
 ·have hF2 := hF
  rw [Bool.and_eq_true] at hF2
  obtain ⟨hK, hNs⟩ := hF2
  have hDR := diskOk_iff.1 hK
  have hRi : Rise m.fNames := hDR.names.rise
  have HNO := Hm (fun i j hi hj he => names_once hRi (i := i) (j := j) hi hj he)
  have HRI0 := Hm hRi
  have HK := Hm hK
  have HCA : Hid (callP m s = if hasName m.fNames s = true then 0 else 2) := by
   show _ = _
   unfold callP
   rw [hK, hNs]
   rfl
  have hs12 : s.size <= 12 := by
   unfold nameOk at hNs
   simp at hNs
   omega
  have HS12 := Hm hs12
  rw [hF]
  clear hF hK hNs hRi hs12
  go_wp2_with fail
  refine (nameMap_any a1 m.fNames.length c1 m.fNames w1 rfl (LeafL.mono rEntry_good (HNM.out.below rEntry_good hb1) hb1.size) (by omega)).mono ?_
  rintro e w2 ⟨Dm, rfl, hown, hNM, hx2⟩
  have HNM2 := Hm hNM
  clear hNM
  have hb2 := bthen hb1 hx2
  have hbd2 := hbd1.under hx2
  have hbr2 := hbr1.under hx2
  have hl2 := hbd2.lt
  have hl2r := hbr2.lt
  have hz2 := hx2.size
  have hzb1 := hb1.size
  clear y0 y1 y2 y3 hbd1 hbr1
  obtain ⟨y0, y1, y2, y3⟩ := hbd2.c4
  have hkey := keyStr hs
  by_cases hH : hasName m.fNames s = true
  ·have HC3 : Hid (createC m s = 3) := by show _ = _; unfold createC; rw [HCA.out, if_pos hH]; rfl
   have HV : Hid (createP m s = m) := by show _ = _; unfold createP; rw [HCA.out, if_pos hH]; simp
   obtain ⟨hk, hnm⟩ := hasName_at hH
   have hhs : Maps.has Dm (kS s) = true := (HNM2.out.2 s).1.2 ⟨_, hk, hk, hnm⟩
   clear hH hk hnm hDR
   go_wp2_with (at_lookup; refine wpList_lookup_own_ok_int _ rfl _ _ 77 rfl 9 3 .i64 lawStr Tryz.underlying77 Tryz.underlying3 (zeroInt _) w1.heap.size m.fNames.length Dm rfl hown _ _ rfl hkey ?_; intro c hat hwc)
   refine (copyDisk_any _ (m) w2 (rDisk_good.mono (rDisk_good.below HR.out hb2) hb2.size) HW.out).mono ?_
   rintro e w3 ⟨cs3, F3, rfl, ho3, hN3, hge3, hx3⟩
   have hb3 := bthen hb2 hx3
   have hbr3 := hbr2.under hx3
   have hl3 := hbr3.lt
   have hz3 := hb2.size
   have hlq3 := hbr2.lt
   obtain ⟨q0, p0, q1, p1, q2, p2, G0, G1, G2, rfl, _, _, _, _, rfl⟩ := oDisk_cells ho3
   have hkey : ∀ W', Turn [w.heap.size + 1] w3 W' -> oDisk W' [.slice q0 m.fInodes.length p0, .slice q1 m.fNames.length p1, .slice q2 m.fSafe.length p2, .int .i64 m.fNext] (m) (G0 ++ G1 ++ G2 ++ []) /\ Below w.heap.size w W' := fun W' hT =>
    ⟨oDisk_good.frame ho3 (fun b hb => hT.block b (oDisk_good.lt ho3 b hb) (fun h => by simp at h; have := hge3 b hb; omega)), hb3.trans (hT.below (fun k hk => by simp at hk; omega) hb3.size)⟩
   have HKEY := Hm hkey
   have HNQ := Hm hN3
   have HGQ : Hid (∀ b, b ∈ G0 ++ G1 ++ G2 ++ [] -> w.heap.size <= b) := fun b hb => by have := hge3 b hb; omega
   clear hkey ho3 hN3 hge3 
   obtain ⟨ze0, ze1, ze2, ze3⟩ := hbr3.c4
   obtain ⟨zf0, zf1, zf2, zf3⟩ := hbr3.f4
   go_wp2_with fail
   obtain ⟨h1, h3⟩ := HKEY.out _ (show Turn [w.heap.size + 1] w3 ((((w3.setCell ⟨w.heap.size + 1, 0, none⟩ (.slice q0 m.fInodes.length p0)).setCell ⟨w.heap.size + 1, 1, none⟩ (.slice q1 m.fNames.length p1)).setCell ⟨w.heap.size + 1, 2, none⟩ (.slice q2 m.fSafe.length p2)).setCell ⟨w.heap.size + 1, 3, none⟩ (.int .i64 m.fNext)) from turn4 _ _ _ _ _ _)
   exact bodyPost_ret (v := .tuple #[.agg #[.slice q0 m.fInodes.length p0, .slice q1 m.fNames.length p1, .slice q2 m.fSafe.length p2, .int .i64 m.fNext], .int .i64 3]) (by simp [results, Tryz.results49, go_sem, *]) rfl ⟨[.slice q0 m.fInodes.length p0, .slice q1 m.fNames.length p1, .slice q2 m.fSafe.length p2, .int .i64 m.fNext], _, by rw [HC3.out], by rw [HV.out]; exact h1, HNQ.out, HGQ.out, h3⟩
  ·have HC2 : Hid (callP m s = 2) := by show _ = _; rw [HCA.out, if_neg hH]
   have hhs : Maps.has Dm (kS s) = false := by
    rw [Bool.eq_false_iff]
    intro h
    obtain ⟨j, hj, _, he⟩ := (HNM2.out.2 s).1.1 h
    exact hH (hasName_yes hj he)
   obtain ⟨N, hN⟩ : ∃ N, N = withE m.fNames ⟨s, m.fNext⟩ := ⟨_, rfl⟩
   obtain ⟨n, hn⟩ : ∃ n, n = createD m s := ⟨_, rfl⟩
   obtain ⟨kd, hkd⟩ : ∃ kd, kd = { m with fNames := N } := ⟨_, rfl⟩
   have hwt := create_weight (s := s) HK.out HS12.out
   rw [<- hN, <- hn] at hwt
   have HWN : Hid (wDisk { m with fNames := N } <= 1048576) := by show _ <= _; omega
   have HWF : Hid (wDisk n <= 16777216) := by show _ <= _; omega
   have HLN : Hid (N.length <= 1000) := hwt.2.1
   have HRI : Hid (Rise N) := by show Rise N; rw [hN]; exact rise_withE HRI0.out
   have HM : Hid (MapIs (Dm.put (kS s) (.lit (.int .i64 m.fNext))) N) := by
    show MapIs _ N
    rw [hN]
    exact (MapIs.ofN rfl HNM2.out HRI0.out).put ⟨s, m.fNext⟩
   have HKW : Hid (keepD { m with fNames := N } = kd) := by show _ = _; rw [hkd, hN]; exact create_way HC2.out
   have HV : Hid (createP m s = fullD m n /\ createC m s = fullC n) := by
    refine ⟨?_, ?_⟩
    ·unfold createP fullD; rw [hn, HC2.out]; simp
    ·unfold createC fullC; rw [hn, HC2.out]; simp
   have HNX : Hid (n.fInodes = kd.fInodes ++ [newI m] /\ n.fNames = kd.fNames /\ n.fSafe = kd.fSafe /\ n.fNext = kd.fNext + 1 /\ kd.fNext = m.fNext /\ kd.fInodes = m.fInodes /\ n.fInodes.length = kd.fInodes.length + 1) := by
    rw [hn, hkd, hN]
    refine ⟨rfl, rfl, rfl, rfl, rfl, rfl, ?_⟩
    simp [createD]
   have hkl : kd.fInodes.length <= 1000 := by rw [HNX.out.2.2.2.2.2.1]; have := ok_weight HK.out; omega
   have hkn : kd.fNext <= 1000000 := by rw [HNX.out.2.2.2.2.1]; exact hDR.next.2
   have hkn1 : 1 <= kd.fNext := by rw [HNX.out.2.2.2.2.1]; exact hDR.next.1
   have hnl : m.fNames.length <= 30 := (ok_weight HK.out).2.2.1
   clear hH hDR hwt hN hn hkd HCA
   go_wp2_with first
    | (at_lookup; refine wpList_lookup_own_ok_int _ rfl _ _ 77 rfl 9 3 .i64 lawStr Tryz.underlying77 Tryz.underlying3 (zeroInt _) w1.heap.size m.fNames.length Dm rfl hown _ _ rfl hkey ?_; intro c hat hwc; clear hat hwc)
    | (at_mapUpdate; refine wpList_mapUpdate_own _ rfl _ _ _ 77 rfl 9 3 lawStr Tryz.underlying77 _ w1.heap.size m.fNames.length _ rfl hown (by unfold maxLen; omega) _ _ _ rfl rfl hkey _ [] (plainElem_int Tryz.underlying3 hnx) ?_; intro w3 hown3 hgrow3; have hT3 : Turn [w1.heap.size] w2 w3 := Turn.ofGrown hgrow3 (fun k hk => by cases hk; simp); have hbd3 := hbd2.turn hT3 (by simp; omega); have hbr3 := hbr2.turn hT3 (by simp; omega); have yy0 := hbd3.cell 0 _ rfl; have yy1 := hbd3.cell 1 _ rfl; have yy2 := hbd3.cell 2 _ rfl; have yy3 := hbd3.cell 3 _ rfl)
   have hb3 : Below w.heap.size w w3 := hb2.trans (hT3.below (fun k hk => by simp at hk; omega) hb2.size)
   clear y0 y1 y2 y3 hown hgrow3 yy0 yy1 yy2 yy3
   have hcall := withNames_any _ m w1.heap.size _ _ N w3 (rDisk_good.mono (rDisk_good.below HR.out hb3) hb3.size) hown3 HM.out HRI.out HLN.out HWN.out
   rw [HKW.out] at hcall
   clear hown3
   refine hcall.mono ?_
   clear hcall
   rintro e w4 ⟨cs4, F4, rfl, ho4, hN4, hge4, hx4⟩
   obtain ⟨d0, e0, d1, e1, d2, e2, G0, G1, G2, rfl, o0, o1, o2, _, rfl⟩ := oDisk_cells ho4
   have hNN := hN4
   rw [List.append_nil, List.append_assoc, List.nodup_append] at hNN
   have HNN := Hm hNN
   have HO1 := Hm o1
   have HO2 := Hm o2
   have HGE : Hid (∀ b, b ∈ G0 ++ G1 ++ G2 ++ [] -> w3.heap.size <= b) := hge4
   have HLT : Hid (∀ b, b ∈ G0 ++ G1 ++ G2 ++ [] -> b < w4.heap.size) := fun b hb => oDisk_good.lt ho4 b hb
   have hb4 := bthen hb3 hx4
   have hbd4 := hbd3.under hx4
   have hbr4 := hbr3.under hx4
   have hl4 := hbd4.lt
   have hl4r := hbr4.lt
   have hz4 := hx4.size
   have hz3 := hT3.size
   have hzb4 := hb4.size
   obtain ⟨Wa, hWa⟩ : ∃ Wa, Wa = w4.alloc (.cells #[.slice d0 kd.fInodes.length e0, .slice d1 kd.fNames.length e1, .slice d2 kd.fSafe.length e2, .int .i64 kd.fNext] 27) := ⟨_, rfl⟩
   obtain ⟨Wx, hWx⟩ : ∃ Wx, Wx = (w4.alloc (.cells #[.slice d0 kd.fInodes.length e0, .slice d1 kd.fNames.length e1, .slice d2 kd.fSafe.length e2, .int .i64 kd.fNext] 27)).alloc (.cells #[.int .i64 m.fNext, .slice none 0 0, .int .i64 0] 50) := ⟨_, rfl⟩
   have hWs : Wx.heap.size = w4.heap.size + 1 + 1 := by rw [hWx]; simp
   have hba : Below w4.heap.size w4 Wx := by rw [hWx]; exact (rB.alloc rN _).alloc (by simp; try omega) _
   have hwbx : Bw Wx w4.heap.size 27 [.slice d0 kd.fInodes.length e0, .slice d1 kd.fNames.length e1, .slice d2 kd.fSafe.length e2, .int .i64 kd.fNext] := by rw [hWx]; exact Bw.alloc (Bw.new _ _ _) _
   have hbx : Bx Wx (w4.heap.size + 1) [.int .i64 m.fNext, .slice none 0 0, .int .i64 0] := by rw [hWx]; have := Bx.new (w4.alloc (.cells #[.slice d0 kd.fInodes.length e0, .slice d1 kd.fNames.length e1, .slice d2 kd.fSafe.length e2, .int .i64 kd.fNext] 27)) [.int .i64 m.fNext, .slice none 0 0, .int .i64 0] 50; simpa using this
   have hbdx := hbd4.under hba
   have hbrx := hbr4.under hba
   have hox := ownS.frame (w' := Wx) oInode_good o0 (fun b hb => hba.block b (HLT.out b (by simp [hb])))
   obtain ⟨xs, hxs, hpush⟩ := ownS.push oInode_good hox hNN.1
   have HPUSH := Hm hpush
   have HBA := Hm hba
   have hg0 : ∀ k, (Value.slice d0 kd.fInodes.length e0).ownBlock = some k -> w3.heap.size <= k /\ k < w4.heap.size /\ k ∈ G0 := fun k hk => by
    have hkG := ownS_block hox k hk
    exact ⟨HGE.out k (by simp [hkG]), HLT.out k (by simp [hkG]), hkG⟩
   have HG0 := Hm hg0
   have HWS := Hm hWs
   have HAFT : Hid (∀ (v5 : Value) (w5 : World), w5.ownsRow 0 50 3 v5 (kd.fInodes.length + 1) (xs ++ [.int .i64 m.fNext, .slice none 0 0, .int .i64 0]) -> Wx.grownBy w5 (Value.slice d0 kd.fInodes.length e0).ownBlock -> (v5.ownBlock = (Value.slice d0 kd.fInodes.length e0).ownBlock ∨ v5.ownBlock = some Wx.heap.size) ->
     ∃ r5 q5, v5 = .slice r5 (kd.fInodes.length + 1) q5 /\ Bw w5 w4.heap.size 27 [.slice d0 kd.fInodes.length e0, .slice d1 kd.fNames.length e1, .slice d2 kd.fSafe.length e2, .int .i64 kd.fNext] /\ Bw w5 w.heap.size 27 [.slice a0 m.fInodes.length c0, .slice a1 m.fNames.length c1, .slice a2 m.fSafe.length c2, .int .i64 m.fNext] /\ Bw w5 (w.heap.size + 1) 27 [.slice none 0 0, .slice none 0 0, .slice none 0 0, .int .i64 0] /\ Below w.heap.size w w5 /\
      ∃ F', oDisk w5 [.slice r5 (kd.fInodes.length + 1) q5, .slice d1 kd.fNames.length e1, .slice d2 kd.fSafe.length e2, .int .i64 kd.fNext] { n with fNext := kd.fNext } F' /\ F'.Nodup /\ (∀ b, b ∈ F' -> w3.heap.size <= b /\ b ≠ w4.heap.size)) := by
    intro v5 w5 hown5 hgrow5 hloc5
    obtain ⟨r5, q5, rfl⟩ := own_slice hown5
    have hT5 := turnOwn hgrow5
    have hn : ∀ b, b < w3.heap.size ∨ w4.heap.size <= b -> b ∉ (Value.slice d0 kd.fInodes.length e0).ownBlock.toList := fun b hb h => by
     have := HG0.out b (by simpa using h)
     omega
    have hB5 : Below w3.heap.size Wx w5 := hT5.below (fun k hk => (HG0.out k (by simpa using hk)).1) (by omega)
    obtain ⟨F', p1, p2, p3⟩ := HPUSH.out w5 (.slice r5 (kd.fInodes.length + 1) q5) [.int .i64 m.fNext, .slice none 0 0, .int .i64 0] (newI m) [] hown5 hgrow5 hloc5 (newI_own hnx Wx) List.nodup_nil (fun b hb => by cases hb)
    refine ⟨r5, q5, rfl, hwbx.turn hT5 (hn _ (by omega)), hbdx.turn hT5 (hn _ (by omega)), hbrx.turn hT5 (hn _ (by omega)), (bthen hb4 HBA.out).trans (hB5.mono (by omega)), F' ++ G1 ++ G2 ++ [], ?_, ?_, ?_⟩
    ·have hfr : ∀ b, b ∈ G1 ++ G2 -> w5.heap[b]? = w4.heap[b]? := fun b hb => by
      have hb' : b ∈ G0 ++ G1 ++ G2 ++ [] := by simp at hb ⊢; exact .inr hb
      rw [hT5.block b (by have := HLT.out b hb'; omega) (fun h => HNN.out.2.2 b (HG0.out b (by simpa using h)).2.2 b hb rfl), HBA.out.block b (HLT.out b hb')]
     have t1 := ownS.frame (w' := w5) oEntry_good HO1.out (fun b hb => hfr b (by simp [hb]))
     have t2 := ownS.frame (w' := w5) oEntry_good HO2.out (fun b hb => hfr b (by simp [hb]))
     refine ⟨_, F', _, G1, _, G2, rfl, ?_, ?_, ?_, ?_, rfl⟩
     ·rw [HNX.out.1]; exact p1
     ·rw [HNX.out.2.1]; exact t1
     ·rw [HNX.out.2.2.1]; exact t2
     ·rw [HNX.out.2.2.2.2.1]; exact hnx
    ·rw [List.append_nil, List.append_assoc, List.nodup_append]
     refine ⟨p2, HNN.out.2.1, fun a ha b hb hab => ?_⟩
     subst hab
     have hla := HLT.out a (by simp at hb ⊢; exact .inr hb)
     rcases p3 a ha with h | h | h
     ·exact HNN.out.2.2 a h a hb rfl
     ·cases h
     ·omega
    ·intro b hb
     simp at hb
     rcases hb with hb | hb
     ·rcases p3 b hb with h | h | h
      ·have h1 := HGE.out b (by simp [h]); have h2 := HLT.out b (by simp [h]); omega
      ·cases h
      ·omega
     ·have h1 := HGE.out b (by simp; exact .inr hb); have h2 := HLT.out b (by simp; exact .inr hb); omega
   have y3 := hbd4.cell 3 _ rfl
   clear hNN hN4 hge4 ho4 o0 o1 o2 hpush hg0 hox hWa hba hWs hbd3 hbr3 hbd2 hbr2 hwbx hbdx hbrx
   go_wp2_with (at_builtin; rw [<- hWx]; refine wpList_append_own_at _ rfl _ _ 24 rfl 0 50 iI (.agg #[.int .i64 0, .slice none 0 0, .int .i64 0]) 3 40 Tryz.underlying24 hiI hzI0 hzI1 hzI2 rfl (by decide) _ _ _ rfl hxs ⟨w4.heap.size + 1, 0, none⟩ 1 1 [.int .i64 m.fNext, .slice none 0 0, .int .i64 0] rfl rfl (bx_news hbx) (by intro u hu; simp at hu; rcases hu with rfl | rfl | rfl <;> rfl) (by unfold maxLen; omega) (by omega) (Nat.zero_le _) ?_; intro v5 w5 hown5 hgrow5 hnil5 hloc5; obtain ⟨r5, q5, rfl, hwb5, hbd5, hbr5, hb5, F5, hO5, hN5, hF5⟩ := HAFT.out v5 w5 hown5 hgrow5 hloc5; clear hown5 hgrow5 hloc5 hnil5; have hl5 := hwb5.lt; have hl5d := hbd5.lt; have hl5r := hbr5.lt; have x0 := hwb5.cell 0 _ rfl; have x1 := hwb5.cell 1 _ rfl; have x2 := hwb5.cell 2 _ rfl; have x3 := hwb5.cell 3 _ rfl; have f0 := hwb5.free 0; have f3 := hwb5.free 3; have z0 := hbd5.cell 0 _ rfl; have z1 := hbd5.cell 1 _ rfl; have z2 := hbd5.cell 2 _ rfl; have z3 := hbd5.cell 3 _ rfl)
   obtain ⟨ws, hws⟩ : ∃ ws, ws = (w5.setCell ⟨w4.heap.size, 0, none⟩ (.slice r5 (kd.fInodes.length + 1) q5)).setCell ⟨w4.heap.size, 3, none⟩ (.int .i64 (kd.fNext + 1)) := ⟨_, rfl⟩
   have hTs : Turn [w4.heap.size] w5 ws := by rw [hws]; exact Turn.setCell (Turn.setCell (Turn.refl _ _) (by simp) _) (by simp) _
   have hoS : oDisk ws [.slice r5 (kd.fInodes.length + 1) q5, .slice d1 kd.fNames.length e1, .slice d2 kd.fSafe.length e2, .int .i64 (kd.fNext + 1)] n F5 := by
    have h := oDisk_good.frame (w' := ws) hO5 (fun b hb => hTs.block b (oDisk_good.lt hO5 b hb) (by intro h; simp at h; exact (hF5 b hb).2 h))
    obtain ⟨v0, F0, v1, F1, v2, F2, he, h0, h1, h2, h3, h4⟩ := h
    simp only [List.cons.injEq] at he
    obtain ⟨rfl, rfl, rfl, _⟩ := he
    refine ⟨_, F0, _, F1, _, F2, ?_, h0, h1, h2, ?_, h4⟩
    ·rw [HNX.out.2.2.2.1]
    ·rw [HNX.out.2.2.2.1]; exact WalkArith.wf_i64 (by omega)
   have hbds := hbd5.turn hTs (by simp; omega)
   have hbrs := hbr5.turn hTs (by simp; omega)
   have hBs : Below w.heap.size w ws := hb5.trans (hTs.below (fun k hk => by simp at hk; omega) hb5.size)
   have hgS : ∀ b, b ∈ F5 -> w.heap.size + 2 <= b := fun b hb => by have := (hF5 b hb).1; omega
   rw [<- hws]
   clear hws hTs x0 x1 x2 x3 f0 f3 z0 z1 z2 z3 hwb5 hbd5 hbr5 hO5 hF5
   have hcon := orFull_any _ r5 d1 d2 q5 e1 e2 m n F5 ws (rDisk_good.mono (rDisk_good.below HR.out hBs) hBs.size) HW.out (by rw [HNX.out.2.2.2.2.2.2, HNX.out.2.1, HNX.out.2.2.1, HNX.out.2.2.2.1]; exact hoS) hN5 HWF.out
   rw [HNX.out.2.2.2.2.2.2, HNX.out.2.1, HNX.out.2.2.1, HNX.out.2.2.2.1] at hcon
   refine hcon.mono ?_
   clear hcon
   rintro e w6 ⟨cs6, F6, rfl, ho6, hN6, hF6, hx6⟩
   have hb6 := bthen hBs hx6
   have hbr6 := hbrs.under hx6
   have hl6 := hbr6.lt
   have hlE := hbrs.lt
   obtain ⟨q0, p0, q1, p1, q2, p2, E0, E1, E2, rfl, _, _, _, _, rfl⟩ := oDisk_cells ho6
   have HGQ : Hid (∀ b, b ∈ E0 ++ E1 ++ E2 ++ [] -> w.heap.size + 2 <= b) := fun b hb => by rcases hF6 b hb with h | h; (exact hgS b h); (have := hBs.size; omega)
   have hkey6 : ∀ W', Turn [w.heap.size + 1] w6 W' -> oDisk W' [.slice q0 (fullD m n).fInodes.length p0, .slice q1 (fullD m n).fNames.length p1, .slice q2 (fullD m n).fSafe.length p2, .int .i64 (fullD m n).fNext] (fullD m n) (E0 ++ E1 ++ E2 ++ []) /\ Below w.heap.size w W' := fun W' hT =>
    ⟨oDisk_good.frame ho6 (fun b hb => hT.block b (oDisk_good.lt ho6 b hb) (fun h => by simp at h; have := HGQ.out b hb; omega)), hb6.trans (hT.below (fun k hk => by simp at hk; omega) hb6.size)⟩
   have HKEY := Hm hkey6
   have HNQ := Hm hN6
   clear hkey6 ho6 hN6 hF6
   obtain ⟨ze0, ze1, ze2, ze3⟩ := hbr6.c4
   obtain ⟨zf0, zf1, zf2, zf3⟩ := hbr6.f4
   go_wp2_with fail
   obtain ⟨h1, h3⟩ := HKEY.out _ (show Turn [w.heap.size + 1] w6 ((((w6.setCell ⟨w.heap.size + 1, 0, none⟩ (.slice q0 (fullD m n).fInodes.length p0)).setCell ⟨w.heap.size + 1, 1, none⟩ (.slice q1 (fullD m n).fNames.length p1)).setCell ⟨w.heap.size + 1, 2, none⟩ (.slice q2 (fullD m n).fSafe.length p2)).setCell ⟨w.heap.size + 1, 3, none⟩ (.int .i64 (fullD m n).fNext)) from turn4 _ _ _ _ _ _)
   exact bodyPost_ret (v := .tuple #[.agg #[.slice q0 (fullD m n).fInodes.length p0, .slice q1 (fullD m n).fNames.length p1, .slice q2 (fullD m n).fSafe.length p2, .int .i64 (fullD m n).fNext], .int .i64 (fullC n)]) (by simp [results, Tryz.results49, go_sem, *]) rfl ⟨[.slice q0 (fullD m n).fInodes.length p0, .slice q1 (fullD m n).fNames.length p1, .slice q2 (fullD m n).fSafe.length p2, .int .i64 (fullD m n).fNext], _, by rw [HV.out.2], by rw [HV.out.1]; exact h1, HNQ.out, fun b hb => by have := HGQ.out b hb; omega, h3⟩
 ·have hF2 : (diskOk m && nameOk s) = false := Bool.eq_false_iff.2 hF
  have HCA : Hid (callP m s = 1) := by
   show _ = _
   unfold callP
   rw [hF2]
   rfl
  have HC1 : Hid (createC m s = 1) := by show _ = _; unfold createC; rw [HCA.out]; rfl
  have HV : Hid (createP m s = m) := by show _ = _; unfold createP; rw [HCA.out]; simp
  rw [hF2]
  clear hF hF2
  go_wp2_with fail
  refine (copyDisk_any _ (m) w1 (rDisk_good.mono (rDisk_good.below HR.out hb1) hb1.size) HW.out).mono ?_
  rintro e w2 ⟨cs3, F3, rfl, ho3, hN3, hge3, hx2⟩
  have hb2 := bthen hb1 hx2
  have hbr2 := hbr1.under hx2
  have hl2 := hbr2.lt
  have hz2 := hb1.size
  have hlq2 := hbr1.lt
  obtain ⟨q0, p0, q1, p1, q2, p2, G0, G1, G2, rfl, _, _, _, _, rfl⟩ := oDisk_cells ho3
  have hkey : ∀ W', Turn [w.heap.size + 1] w2 W' -> oDisk W' [.slice q0 m.fInodes.length p0, .slice q1 m.fNames.length p1, .slice q2 m.fSafe.length p2, .int .i64 m.fNext] (m) (G0 ++ G1 ++ G2 ++ []) /\ Below w.heap.size w W' := fun W' hT =>
   ⟨oDisk_good.frame ho3 (fun b hb => hT.block b (oDisk_good.lt ho3 b hb) (fun h => by simp at h; have := hge3 b hb; omega)), hb2.trans (hT.below (fun k hk => by simp at hk; omega) hb2.size)⟩
  have HKEY := Hm hkey
  have HNQ := Hm hN3
  have HGQ : Hid (∀ b, b ∈ G0 ++ G1 ++ G2 ++ [] -> w.heap.size <= b) := fun b hb => by have := hge3 b hb; omega
  clear hkey ho3 hN3 hge3 
  obtain ⟨ze0, ze1, ze2, ze3⟩ := hbr2.c4
  obtain ⟨zf0, zf1, zf2, zf3⟩ := hbr2.f4
  go_wp2_with fail
  obtain ⟨h1, h3⟩ := HKEY.out _ (show Turn [w.heap.size + 1] w2 ((((w2.setCell ⟨w.heap.size + 1, 0, none⟩ (.slice q0 m.fInodes.length p0)).setCell ⟨w.heap.size + 1, 1, none⟩ (.slice q1 m.fNames.length p1)).setCell ⟨w.heap.size + 1, 2, none⟩ (.slice q2 m.fSafe.length p2)).setCell ⟨w.heap.size + 1, 3, none⟩ (.int .i64 m.fNext)) from turn4 _ _ _ _ _ _)
  exact bodyPost_ret (v := .tuple #[.agg #[.slice q0 m.fInodes.length p0, .slice q1 m.fNames.length p1, .slice q2 m.fSafe.length p2, .int .i64 m.fNext], .int .i64 1]) (by simp [results, Tryz.results49, go_sem, *]) rfl ⟨[.slice q0 m.fInodes.length p0, .slice q1 m.fNames.length p1, .slice q2 m.fSafe.length p2, .int .i64 m.fNext], _, by rw [HC1.out], by rw [HV.out]; exact h1, HNQ.out, HGQ.out, h3⟩
end Go.Proofs.YtegonncmopecnaaGreatDoor

namespace Go.Proofs.YtegonncmopecnaaGreatDoor
open Go.RowKit
set_option maxHeartbeats 1000000 in
theorem l2Call_any (cs : List Value) (m : MDisk) (s : ByteArray) (w : World) (hr : rDisk w.heap.size w cs m) (hw : wDisk m <= 1048576) (hs : s.size <= 9223372036854775807) :
  Calls Tryz.prog 20 #[.agg cs.toArray, .string s] w fun e w' => e = .returned (.int .i64 (callP m s)) /\ Below w.heap.size w w' := by
 have hq := hr
 obtain ⟨a0, c0, a1, c1, a2, c2, rfl, hI, hNm, hSf, hnx, _⟩ := hq
 have hw2 : m.fInodes.length + sumW wInode m.fInodes + (m.fNames.length + sumW wEntry m.fNames) + (m.fSafe.length + sumW wEntry m.fSafe) <= 1048576 := hw
 have HW := Hm hw
 have HR := Hm hr
 have HNL := Hm hNm
 clear hr hI hNm hSf hw
 have hbA := (Below.refl w.heap.size w).alloc rN (.cells #[.slice a0 m.fInodes.length c0, .slice a1 m.fNames.length c1, .slice a2 m.fSafe.length c2, .int .i64 m.fNext] 27)
 have hCd := fun W (hb : Below w.heap.size w W) => specDiskOk_c _ m W (rDisk_good.mono (rDisk_good.below HR.out hb) hb.size) HW.out
 go_enter Tryz.func20, Tryz.ntmps20
 go_wp2_with fail
 refine Calls.mono (hCd _ hbA) ?_
 rintro e w1 ⟨rfl, hx1⟩
 have hb1 := bthen hbA hx1
 have hbx := (Bx.new w [.slice a0 m.fInodes.length c0, .slice a1 m.fNames.length c1, .slice a2 m.fSafe.length c2, .int .i64 m.fNext] 27).under hx1
 have y1 := hbx.2 1 _ rfl
 clear hCd
 by_cases hD : diskOk m = true
 ·rw [hD]
  go_wp2_with fail
  refine (l2Name_any s w1 hs).mono ?_
  rintro e w2 ⟨rfl, hw2e⟩
  replace hw2e := hw2e.symm
  subst hw2e
  by_cases hN : nameOk s = true
  ·rw [hN]
   have hrd := HNL.out.2.2.below rEntry_good hb1
   by_cases hH : hasName m.fNames s = true
   ·have HV : Hid (callP m s = 0) := by show callP m s = 0; unfold callP; rw [hD, hN, hH]; rfl
    have hz : (nameZ m.fNames s < 0) = False := eq_false (by unfold nameZ; rw [hH, if_pos rfl]; omega)
    go_wp2_with fail
    refine (l2At_any a1 _ c1 m.fNames s w1 w.heap.size rfl (by omega) hrd).mono ?_
    rintro e w3 ⟨rfl, hw3⟩
    replace hw3 := hw3.symm
    subst hw3
    generalize nameZ m.fNames s = nz at *
    go_wp2_with fail
    go_ret
    exact ⟨by rw [HV.out]; rfl, hb1⟩
   ·have hH2 : hasName m.fNames s = false := Bool.eq_false_iff.2 hH
    have HV : Hid (callP m s = 2) := by show callP m s = 2; unfold callP; rw [hD, hN, hH2]; rfl
    have hz : nameZ m.fNames s < 0 := by unfold nameZ; rw [hH2]; simp
    go_wp2_with fail
    refine (l2At_any a1 _ c1 m.fNames s w1 w.heap.size rfl (by omega) hrd).mono ?_
    rintro e w3 ⟨rfl, hw3⟩
    replace hw3 := hw3.symm
    subst hw3
    generalize nameZ m.fNames s = nz at *
    go_wp2_with fail
    go_ret
    exact ⟨by rw [HV.out]; rfl, hb1⟩
  ·have hN2 : nameOk s = false := Bool.eq_false_iff.2 hN
   have HV : Hid (callP m s = 1) := by show callP m s = 1; unfold callP; rw [hD, hN2]; rfl
   rw [hN2]
   go_wp2_with fail
   go_ret
   exact ⟨by rw [HV.out]; rfl, hb1⟩
 ·have hD2 : diskOk m = false := Bool.eq_false_iff.2 hD
  have HV : Hid (callP m s = 1) := by show callP m s = 1; unfold callP; rw [hD2]; rfl
  rw [hD2]
  go_wp2_with fail
  go_ret
  exact ⟨by rw [HV.out]; rfl, hb1⟩
end Go.Proofs.YtegonncmopecnaaGreatDoor

namespace Go.Proofs.YtegonncmopecnaaGreatDoor
open Go.RowKit Go.Maps
set_option maxHeartbeats 4000000 in
theorem specCreate_o (cs : List Value) (m : MDisk) (s : ByteArray) (w : World) (hr : rDisk w.heap.size w cs m) (hs : s.size <= 9223372036854775807) (hw : wDisk m <= 1048576) (hw1 : s.size <= 1048576) :
  Calls Tryz.prog 34 #[.agg cs.toArray, .string s] w fun e w' => ∃ cs' : List Value, e = .returned (.tuple #[.agg cs'.toArray, .int .i64 (createC m s)]) /\ (∃ F, oDisk w' cs' (createP m s) F /\ ∀ b, b ∈ F -> w.heap.size <= b) /\ Below w.heap.size w w' := by
 obtain ⟨iI, hiI, hzI0, hzI1, hzI2⟩ := info_parts Tryz.infoOfInode
 have hq := hr
 obtain ⟨a0, c0, a1, c1, a2, c2, rfl, hI, hNm, hSf, hnx, _⟩ := hq
 have hw2 : m.fInodes.length + sumW wInode m.fInodes + (m.fNames.length + sumW wEntry m.fNames) + (m.fSafe.length + sumW wEntry m.fSafe) <= 1048576 := hw
 have HW := Hm hw
 have HR := Hm hr
 clear hr hI hNm hSf hw
 go_enter Tryz.func34, Tryz.ntmps34
 go_wp2_with fail
 obtain ⟨wq, hwq⟩ : ∃ wq, wq = ((w.alloc (.cells #[.slice a0 m.fInodes.length c0, .slice a1 m.fNames.length c1, .slice a2 m.fSafe.length c2, .int .i64 m.fNext] 27)).alloc (.cells #[.slice none 0 0, .slice none 0 0, .slice none 0 0, .int .i64 0] 27)) := ⟨_, rfl⟩
 have hbW : Below w.heap.size w wq := by rw [hwq]; exact Below.alloc (Below.alloc rB (by exact rN) _) (by simp; try omega) _
 have hbd : Bw wq (w.heap.size) 27 [.slice a0 m.fInodes.length c0, .slice a1 m.fNames.length c1, .slice a2 m.fSafe.length c2, .int .i64 m.fNext] := by rw [hwq]; exact Bw.alloc (Bw.new' _ _ _ (by simp)) _
 have hbr : Bw wq (w.heap.size + 1) 27 [.slice none 0 0, .slice none 0 0, .slice none 0 0, .int .i64 0] := by rw [hwq]; exact Bw.new' _ _ _ (by simp)
 rw [<- hwq]
 clear hwq
 refine (l2Copy_any _ m wq (rDisk_good.mono (rDisk_good.below HR.out hbW) hbW.size) HW.out).mono ?_
 rintro e w1 ⟨cs2, F2, rfl, ho2, hN2, hge2, hx1⟩
 obtain ⟨d0, e0, d1, e1, d2, e2, G0, G1, G2, rfl, o0, o1, o2, _, rfl⟩ := oDisk_cells ho2
 have HO0 := Hm o0
 have HO1 := Hm o1
 have HO2 := Hm o2
 have HO := Hm ho2
 have HN := Hm hN2
 have HGE : Hid (∀ b, b ∈ G0 ++ G1 ++ G2 ++ [] -> wq.heap.size <= b) := hge2
 have HLT : Hid (∀ b, b ∈ G0 ++ G1 ++ G2 ++ [] -> b < w1.heap.size) := fun b hb => oDisk_good.lt ho2 b hb
 clear ho2 hN2 hge2 o0 o1 o2
 have hb1 := bthen hbW hx1
 have hbd1 := hbd.under hx1
 have hbr1 := hbr.under hx1
 have hz1 := hx1.size
 have hzW := hbW.size
 have hl0 := hbr.lt
 obtain ⟨y0, y1, y2, y3⟩ := hbd1.c4
 have hl1 := hbd1.lt
 go_wp2_with fail
 obtain ⟨wa, hwa⟩ : ∃ wa, wa = w1.alloc (.cells #[.slice d0 m.fInodes.length e0, .slice d1 m.fNames.length e1, .slice d2 m.fSafe.length e2, .int .i64 m.fNext] 27) := ⟨_, rfl⟩
 have hba : Below w1.heap.size w1 wa := by rw [hwa]; exact rB.alloc rN _
 have hwb0 : Bw wa w1.heap.size 27 [.slice d0 m.fInodes.length e0, .slice d1 m.fNames.length e1, .slice d2 m.fSafe.length e2, .int .i64 m.fNext] := by rw [hwa]; exact Bw.new _ _ _
 rw [<- hwa]
 clear hwa
 have hba1 := bthen hb1 hba
 have hbda := (hbd1.under hba)
 refine (l2Call_any _ m s wa (rDisk_good.mono (rDisk_good.below HR.out hba1) hba1.size) HW.out hs).mono ?_
 rintro e w2 ⟨rfl, hx2⟩
 have hb12 := bthen hba hx2
 have hb2 := bthen hba1 hx2
 have hwb := hwb0.under hx2
 have hbr2 := (hbr1.under hba).under hx2
 have hbd2 := hbda.under hx2
 clear hwb0 hbda hbd1 y0 y1 y2 y3
 obtain ⟨zo0, zo1, zo2, zo3⟩ := hwb.c4
 by_cases h1 : callP m s = 1
 ·have HCP : Hid (createC m s = 1) := by show _ = _; unfold createC; rw [h1]; rfl
  have HV : Hid (createP m s = m) := by show _ = _; unfold createP; rw [h1]; simp
  rw [h1]
  clear h1
  obtain ⟨ze0, zf0, ze1, zf1, ze2, zf2, ze3, zf3⟩ := hbr2.c8
  have hlt0 := hbr2.lt
  have hO3 : oDisk w2 [.slice d0 m.fInodes.length e0, .slice d1 m.fNames.length e1, .slice d2 m.fSafe.length e2, .int .i64 m.fNext] (createP m s) (G0 ++ G1 ++ G2 ++ []) := by rw [HV.out]; exact oDisk_good.frame HO.out (fun b hb => hb12.block b (HLT.out b hb))
  have hG3 : ∀ b, b ∈ G0 ++ G1 ++ G2 ++ [] -> w.heap.size + 2 <= b := fun b hb => by have := HGE.out b hb; omega
  have HBf := Hm hb2
  have HO3 := Hm hO3
  clear hO3
  go_wp2_with fail
  refine bodyPost_ret (v := .tuple #[.agg #[.slice d0 m.fInodes.length e0, .slice d1 m.fNames.length e1, .slice d2 m.fSafe.length e2, .int .i64 m.fNext], .int .i64 1]) (by simp [results, Tryz.results34, go_sem, *]) rfl ⟨[.slice d0 m.fInodes.length e0, .slice d1 m.fNames.length e1, .slice d2 m.fSafe.length e2, .int .i64 m.fNext], by first | rfl | rw [HCP.out], ?_, ?_⟩
  ·exact ⟨_, oDisk_good.frame HO3.out (fun b hb => (show Turn [w.heap.size + 1] w2 _ from by repeat (first | with_reducible exact Turn.refl _ _ | with_reducible refine Turn.setCell ?_ (by simp) _ | with_reducible refine Turn.alloc ?_ _ | with_reducible refine Turn.drew ?_)).block b (oDisk_good.lt HO3.out b hb) (by intro h; simp at h; have := hG3 b hb; omega)), fun b hb => by first | (have := hG3 b hb; omega) | (have := hge b hb; omega) | (rcases hF4 b hb with h2 | h2; (have := HSUB.out b h2; omega); omega)⟩
  ·exact HBf.out.trans ((show Turn [w.heap.size + 1] w2 _ from by repeat (first | with_reducible exact Turn.refl _ _ | with_reducible refine Turn.setCell ?_ (by simp) _ | with_reducible refine Turn.alloc ?_ _ | with_reducible refine Turn.drew ?_)).below (fun k hk => by simp at hk; omega) HBf.out.size)
 by_cases h0 : callP m s = 0
 ·have HCP : Hid (createC m s = 3) := by show _ = _; unfold createC; rw [h0]; rfl
  have HV : Hid (createP m s = m) := by show _ = _; unfold createP; rw [h0]; simp
  rw [h0]
  clear h0 h1
  obtain ⟨ze0, zf0, ze1, zf1, ze2, zf2, ze3, zf3⟩ := hbr2.c8
  have hlt0 := hbr2.lt
  have hO3 : oDisk w2 [.slice d0 m.fInodes.length e0, .slice d1 m.fNames.length e1, .slice d2 m.fSafe.length e2, .int .i64 m.fNext] (createP m s) (G0 ++ G1 ++ G2 ++ []) := by rw [HV.out]; exact oDisk_good.frame HO.out (fun b hb => hb12.block b (HLT.out b hb))
  have hG3 : ∀ b, b ∈ G0 ++ G1 ++ G2 ++ [] -> w.heap.size + 2 <= b := fun b hb => by have := HGE.out b hb; omega
  have HBf := Hm hb2
  have HO3 := Hm hO3
  clear hO3
  go_wp2_with fail
  refine bodyPost_ret (v := .tuple #[.agg #[.slice d0 m.fInodes.length e0, .slice d1 m.fNames.length e1, .slice d2 m.fSafe.length e2, .int .i64 m.fNext], .int .i64 3]) (by simp [results, Tryz.results34, go_sem, *]) rfl ⟨[.slice d0 m.fInodes.length e0, .slice d1 m.fNames.length e1, .slice d2 m.fSafe.length e2, .int .i64 m.fNext], by first | rfl | rw [HCP.out], ?_, ?_⟩
  ·exact ⟨_, oDisk_good.frame HO3.out (fun b hb => (show Turn [w.heap.size + 1] w2 _ from by repeat (first | with_reducible exact Turn.refl _ _ | with_reducible refine Turn.setCell ?_ (by simp) _ | with_reducible refine Turn.alloc ?_ _ | with_reducible refine Turn.drew ?_)).block b (oDisk_good.lt HO3.out b hb) (by intro h; simp at h; have := hG3 b hb; omega)), fun b hb => by first | (have := hG3 b hb; omega) | (have := hge b hb; omega) | (rcases hF4 b hb with h2 | h2; (have := HSUB.out b h2; omega); omega)⟩
  ·exact HBf.out.trans ((show Turn [w.heap.size + 1] w2 _ from by repeat (first | with_reducible exact Turn.refl _ _ | with_reducible refine Turn.setCell ?_ (by simp) _ | with_reducible refine Turn.alloc ?_ _ | with_reducible refine Turn.drew ?_)).below (fun k hk => by simp at hk; omega) HBf.out.size)
 have hC2 : callP m s = 2 := by
  unfold callP at h1 h0 ⊢
  by_cases ha : (diskOk m && nameOk s) = true
  ·rw [if_pos ha] at h0 ⊢
   by_cases hb : hasName m.fNames s = true
   ·rw [if_pos hb] at h0; exact absurd rfl h0
   ·rw [if_neg hb]
  ·rw [if_neg ha] at h1; exact absurd rfl h1
 obtain ⟨hgd, hNs, _⟩ := call_none hC2
 have hs12 : s.size <= 12 := by
  unfold nameOk at hNs
  simp at hNs
  omega
 have hDR := diskOk_iff.1 hgd
 have HRI : Hid (Rise m.fNames) := hDR.names.rise
 have hwt := create_weight (s := s) hgd hs12
 have hok := ok_weight hgd
 obtain ⟨N, hN⟩ : ∃ N, N = withE m.fNames ⟨s, m.fNext⟩ := ⟨_, rfl⟩
 obtain ⟨n, hn⟩ : ∃ n, n = createD m s := ⟨_, rfl⟩
 have HNE := Hm hN
 rw [<- hN, <- hn] at hwt
 have HWK : Hid (wDisk n <= 16777216) := by show _ <= _; omega
 have HNX : Hid (n.fInodes = m.fInodes ++ [newI m] /\ n.fNames = N /\ n.fSafe = m.fSafe /\ n.fNext = m.fNext + 1 /\ n.fInodes.length = m.fInodes.length + 1) := by
  rw [hn, hN]
  refine ⟨rfl, rfl, rfl, rfl, ?_⟩
  simp [createD]
 have HLL : Hid (n.fInodes.length <= 1048576 /\ n.fNames.length <= 1048576 /\ n.fSafe.length <= 1048576) := by
  rw [HNX.out.2.2.2.2, HNX.out.2.1, HNX.out.2.2.1]
  have := hwt.2.1
  refine ⟨?_, ?_, ?_⟩ <;> omega
 have HE : Hid (endsD m n = createP m s /\ endsC n = createC m s) := by
  have hk := create_keep hC2
  rw [<- hn] at hk
  refine ⟨?_, ?_⟩
  ·unfold endsD createP; rw [hk, hC2, <- hn]; simp
  ·unfold endsC createC; rw [hk, hC2, <- hn]; simp
 have hil : m.fInodes.length <= 1000 := by omega
 have hnn : m.fNext <= 1000000 := hDR.next.2
 have hnn1 : 1 <= m.fNext := hDR.next.1
 rw [hC2]
 clear hC2 h0 h1 hgd hNs hDR hwt hok hN hn
 have hNN := HN.out
 rw [List.append_nil, List.append_assoc, List.nodup_append] at hNN
 have HNN := Hm hNN
 obtain ⟨Wx, hWx⟩ : ∃ Wx, Wx = w2.alloc (.cells #[.int .i64 m.fNext, .slice none 0 0, .int .i64 0] 50) := ⟨_, rfl⟩
 have hWs : Wx.heap.size = w2.heap.size + 1 := by rw [hWx]; simp
 have hbx0 : Below w2.heap.size w2 Wx := by rw [hWx]; exact rB.alloc rN _
 have hb1x := bthen hb12 hbx0
 have hwbx := hwb.under hbx0
 have hbx : Bx Wx w2.heap.size [.int .i64 m.fNext, .slice none 0 0, .int .i64 0] := by rw [hWx]; exact Bx.new _ _ _
 have hbdx := hbd2.under hbx0
 have hbrx := hbr2.under hbx0
 have hox := ownS.frame (w' := Wx) oInode_good HO0.out (fun b hb => hb1x.block b (HLT.out b (by simp [hb])))
 obtain ⟨xs, hxs, hpush⟩ := ownS.push oInode_good hox hNN.1
 have hg0 : ∀ k, (Value.slice d0 m.fInodes.length e0).ownBlock = some k -> wq.heap.size <= k /\ k < w1.heap.size /\ k ∈ G0 := fun k hk => by
  have hkG := ownS_block hox k hk
  exact ⟨HGE.out k (by simp [hkG]), HLT.out k (by simp [hkG]), hkG⟩
 have hlw := hwb.lt
 have hld := hbd2.lt
 have hlr := hbr2.lt
 have hz12 := hb12.size
 have HAFT : Hid (∀ (v5 : Value) (w5 : World), w5.ownsRow 0 50 3 v5 (m.fInodes.length + 1) (xs ++ [.int .i64 m.fNext, .slice none 0 0, .int .i64 0]) -> Wx.grownBy w5 (Value.slice d0 m.fInodes.length e0).ownBlock -> (v5.ownBlock = (Value.slice d0 m.fInodes.length e0).ownBlock ∨ v5.ownBlock = some Wx.heap.size) ->
   ∃ r5 q5, v5 = .slice r5 (m.fInodes.length + 1) q5 /\ Bw w5 w1.heap.size 27 [.slice d0 m.fInodes.length e0, .slice d1 m.fNames.length e1, .slice d2 m.fSafe.length e2, .int .i64 m.fNext] /\ Bw w5 w.heap.size 27 [.slice a0 m.fInodes.length c0, .slice a1 m.fNames.length c1, .slice a2 m.fSafe.length c2, .int .i64 m.fNext] /\ Bw w5 (w.heap.size + 1) 27 [.slice none 0 0, .slice none 0 0, .slice none 0 0, .int .i64 0] /\ Below w.heap.size w w5 /\ w1.heap.size < w5.heap.size /\
    ∃ F', ownS 3 50 oInode w5 (.slice r5 (m.fInodes.length + 1) q5) (m.fInodes ++ [newI m]) F' /\ ownS 2 74 oEntry w5 (.slice d1 m.fNames.length e1) m.fNames G1 /\ ownS 2 74 oEntry w5 (.slice d2 m.fSafe.length e2) m.fSafe G2 /\ (∀ b, b ∈ F' -> w.heap.size + 2 <= b /\ b ≠ w1.heap.size)) := by
  intro v5 w5 hown5 hgrow5 hloc5
  obtain ⟨r5, q5, rfl⟩ := own_slice hown5
  have hT5 := turnOwn hgrow5
  have hn : ∀ b, b < wq.heap.size ∨ w1.heap.size <= b -> b ∉ (Value.slice d0 m.fInodes.length e0).ownBlock.toList := fun b hb h => by
   have := hg0 b (by simpa using h)
   omega
  have hB5 : Below wq.heap.size Wx w5 := hT5.below (fun k hk => (hg0 k (by simpa using hk)).1) (by omega)
  obtain ⟨F', p1, p2, p3⟩ := hpush w5 (.slice r5 (m.fInodes.length + 1) q5) [.int .i64 m.fNext, .slice none 0 0, .int .i64 0] (newI m) [] hown5 hgrow5 hloc5 (newI_own hnx Wx) List.nodup_nil (fun b hb => by cases hb)
  have hwb5 := hwbx.turn hT5 (hn _ (by omega))
  have hfr : ∀ b, b ∈ G1 ++ G2 -> w5.heap[b]? = w1.heap[b]? := fun b hb => by
   have hb' : b ∈ G0 ++ G1 ++ G2 ++ [] := by simp at hb ⊢; exact .inr hb
   rw [hT5.block b (by have := HLT.out b hb'; omega) (fun h => HNN.out.2.2 b (hg0 b (by simpa using h)).2.2 b hb rfl), hb1x.block b (HLT.out b hb')]
  refine ⟨r5, q5, rfl, hwb5, hbdx.turn hT5 (hn _ (by omega)), hbrx.turn hT5 (hn _ (by omega)), (bthen hb2 hbx0).trans (hB5.mono (by omega)), hwb5.lt, F', p1, ownS.frame (w' := w5) oEntry_good HO1.out (fun b hb => hfr b (by simp [hb])), ownS.frame (w' := w5) oEntry_good HO2.out (fun b hb => hfr b (by simp [hb])), ?_⟩
  intro b hb
  rcases p3 b hb with h | h | h
  ·have h1 := HGE.out b (by simp [h]); have h2 := HLT.out b (by simp [h]); omega
  ·cases h
  ·omega
 have HGF : Hid (∀ b, b ∈ G1 ++ G2 -> w.heap.size + 2 <= b /\ b < w1.heap.size) := fun b hb => by
  have hb' : b ∈ G0 ++ G1 ++ G2 ++ [] := by simp at hb ⊢; exact .inr hb
  have h1 := HGE.out b hb'
  have h2 := HLT.out b hb'
  omega
 obtain ⟨y0, y1, y2, y3⟩ := hbd2.c4
 clear hNN hpush hg0 hox hbx0 hWs hbd2 hbr2 hwbx hbdx hbrx hwb
 go_wp2_with (at_builtin; rw [<- hWx]; refine wpList_append_own_at _ rfl _ _ 24 rfl 0 50 iI (.agg #[.int .i64 0, .slice none 0 0, .int .i64 0]) 3 40 Tryz.underlying24 hiI hzI0 hzI1 hzI2 rfl (by decide) _ _ _ rfl hxs ⟨w2.heap.size, 0, none⟩ 1 1 [.int .i64 m.fNext, .slice none 0 0, .int .i64 0] rfl rfl (bx_news hbx) (by intro u hu; simp at hu; rcases hu with rfl | rfl | rfl <;> rfl) (by unfold maxLen; omega) (by omega) (Nat.zero_le _) ?_; intro v5 w5 hown5 hgrow5 hnil5 hloc5; obtain ⟨r5, q5, rfl, hwb5, hbd5, hbr5, hb5, hl5, F5, hO5, hP5, hS5, hF5⟩ := HAFT.out v5 w5 hown5 hgrow5 hloc5; clear hown5 hgrow5 hloc5 hnil5; have hl5d := hbd5.lt; have hl5r := hbr5.lt; have x0 := hwb5.cell 0 _ rfl; have x1 := hwb5.cell 1 _ rfl; have x2 := hwb5.cell 2 _ rfl; have x3 := hwb5.cell 3 _ rfl; have f0 := hwb5.free 0; have f3 := hwb5.free 3; have z0 := hbd5.cell 0 _ rfl; have z1 := hbd5.cell 1 _ rfl; have z2 := hbd5.cell 2 _ rfl; have z3 := hbd5.cell 3 _ rfl)
 obtain ⟨wr, hwr⟩ : ∃ wr, wr = w5.setCell ⟨w1.heap.size, 0, none⟩ (.slice r5 (m.fInodes.length + 1) q5) := ⟨_, rfl⟩
 have hTr : Turn [w1.heap.size] w5 wr := by rw [hwr]; exact Turn.setCell (Turn.refl _ _) (by simp) _
 have hwbr : Bw wr w1.heap.size 27 [.slice r5 (m.fInodes.length + 1) q5, .slice d1 m.fNames.length e1, .slice d2 m.fSafe.length e2, .int .i64 m.fNext] := by rw [hwr]; exact hwb5.put 0 _
 have hfr5 : ∀ b, b ∈ G1 ++ G2 -> b < w5.heap.size /\ b ∉ [w1.heap.size] := fun b hb => by have := HGF.out b hb; simp; omega
 have hOr := ownS.frame (w' := wr) oInode_good hO5 (fun b hb => hTr.block b (ownS.lt oInode_good hO5 b hb) (by intro h; simp at h; exact (hF5 b hb).2 h))
 have hPr := ownS.frame (w' := wr) oEntry_good hP5 (fun b hb => hTr.block b (hfr5 b (by simp [hb])).1 (hfr5 b (by simp [hb])).2)
 have hSr := ownS.frame (w' := wr) oEntry_good hS5 (fun b hb => hTr.block b (hfr5 b (by simp [hb])).1 (hfr5 b (by simp [hb])).2)
 have hbdr := hbd5.turn hTr (by simp; omega)
 have hbrr := hbr5.turn hTr (by simp; omega)
 have hBr : Below w.heap.size w wr := hb5.trans (hTr.below (fun k hk => by simp at hk; omega) hb5.size)
 have hzr := hTr.size
 have HOR := Hm hOr
 have HPR := Hm hPr
 have HSR := Hm hSr
 have HF5 := Hm hF5
 rw [<- hwr]
 clear hwr hTr x0 x1 x2 x3 f0 f3 z0 z1 z2 z3 hwb5 hbd5 hbr5 hO5 hP5 hS5 hfr5 hOr hPr hSr hF5 hb5
 have hcall := l2With_any d1 _ e1 m.fNames ⟨s, m.fNext⟩ wr rfl (by omega) (ownS.leaf oEntry_good HPR.out) HRI.out hs hnx
 rw [<- HNE.out] at hcall
 refine hcall.mono ?_
 clear hcall
 rintro e w6 ⟨r6, q6, F6, rfl, ho6, hg6, hx6⟩
 have HO6 := Hm ho6
 have HGS := Hm hg6
 clear ho6 hg6
 have hwb6 := hwbr.under hx6
 have hbd6 := hbdr.under hx6
 have hbr6 := hbrr.under hx6
 have hB6 := bthen hBr hx6
 have hl6 := hwb6.lt
 have hl6d := hbd6.lt
 have hz6 := hx6.size
 have g1 := hwb6.free 1
 have g3 := hwb6.free 3
 obtain ⟨zd0, zd1, zd2, zd3⟩ := hwb6.c4
 obtain ⟨yd0, yd1, yd2, yd3⟩ := hbd6.c4
 go_wp2_with fail
 obtain ⟨ws, hws⟩ : ∃ ws, ws = (w6.setCell ⟨w1.heap.size, 1, none⟩ (.slice r6 N.length q6)).setCell ⟨w1.heap.size, 3, none⟩ (.int .i64 (m.fNext + 1)) := ⟨_, rfl⟩
 have hTs : Turn [w1.heap.size] w6 ws := by rw [hws]; exact Turn.setCell (Turn.setCell (Turn.refl _ _) (by simp) _) (by simp) _
 have hbrs := hbr6.turn hTs (by simp; omega)
 have hBs : Below w.heap.size w ws := hB6.trans (hTs.below (fun k hk => by simp at hk; omega) hB6.size)
 have hne : ∀ b, b < wr.heap.size -> b ≠ w1.heap.size -> ws.heap[b]? = wr.heap[b]? := fun b hb h1 => by
  rw [hTs.block b (by omega) (by simpa using h1), hx6.block b hb]
 have t0 := ownS.frame (w' := ws) oInode_good HOR.out (fun b hb => hne b (ownS.lt oInode_good HOR.out b hb) (HF5.out b hb).2)
 have t2 := ownS.frame (w' := ws) oEntry_good HSR.out (fun b hb => hne b (ownS.lt oEntry_good HSR.out b hb) (by have := HGF.out b (by simp [hb]); omega))
 have t1 := ownS.frame (w' := ws) oEntry_good HO6.out (fun b hb => hTs.block b (ownS.lt oEntry_good HO6.out b hb) (by intro h; simp at h; have := HGS.out b hb; omega))
 have HSUB : Hid (∀ b, b ∈ F5 ++ F6 ++ G2 -> w.heap.size + 2 <= b) := by
  intro b hb
  rw [List.mem_append, List.mem_append] at hb
  rcases hb with (hb | hb) | hb
  ·exact (HF5.out b hb).1
  ·have := HGS.out b hb; omega
  ·exact (HGF.out b (by simp [hb])).1
 have HBS := Hm hBs
 rw [<- hws]
 clear hws hTs zd0 zd1 zd2 zd3 yd0 yd1 yd2 yd3 g1 g3 hne
 have hcon := l2Ends_any _ r5 r6 d2 q5 q6 e2 m n F5 F6 G2 ws (rDisk_good.mono (rDisk_good.below HR.out HBS.out) HBS.out.size) HW.out (by rw [HNX.out.2.2.2.2, HNX.out.1]; exact t0) (by rw [HNX.out.2.1]; exact t1) (by rw [HNX.out.2.2.1]; exact t2) (by rw [HNX.out.2.2.2.1]; exact WalkArith.wf_i64 (by omega)) HWK.out HLL.out
 rw [HNX.out.2.2.2.2, HNX.out.2.1, HNX.out.2.2.1, HNX.out.2.2.2.1] at hcon
 clear t0 t1 t2
 refine hcon.mono ?_
 clear hcon
 rintro e w7 ⟨cs4, F4, rfl, ho4, hF4, hx7⟩
 have hb7 := bthen HBS.out hx7
 have hbr7 := hbrs.under hx7
 have hl7 := hbr7.lt
 have hzE := HBS.out.size
 have hlE := hbrs.lt
 rw [HE.out.1] at ho4
 obtain ⟨q0, p0, q1, p1, q2, p2, E0, E1, E2, rfl, _, _, _, _, rfl⟩ := oDisk_cells ho4
 have hkey : ∀ W', Turn [w.heap.size + 1] w7 W' -> (∃ F, oDisk W' [.slice q0 (createP m s).fInodes.length p0, .slice q1 (createP m s).fNames.length p1, .slice q2 (createP m s).fSafe.length p2, .int .i64 (createP m s).fNext] (createP m s) F /\ ∀ b, b ∈ F -> w.heap.size <= b) /\ Below w.heap.size w W' := fun W' hT =>
  ⟨⟨_, oDisk_good.frame ho4 (fun b hb => hT.block b (oDisk_good.lt ho4 b hb) (fun h => by simp at h; rcases hF4 b hb with h2 | h2; (have := HSUB.out b h2; omega); omega)), fun b hb => by first | (have := hG3 b hb; omega) | (have := hge b hb; omega) | (rcases hF4 b hb with h2 | h2; (have := HSUB.out b h2; omega); omega)⟩, hb7.trans (hT.below (fun k hk => by simp at hk; omega) hb7.size)⟩
 have HKEY := Hm hkey
 clear hkey ho4 hF4
 obtain ⟨ze0, ze1, ze2, ze3⟩ := hbr7.c4
 obtain ⟨zf0, zf1, zf2, zf3⟩ := hbr7.f4
 have HEC : Hid (endsC n = createC m s) := HE.out.2
 rw [HEC.out]
 go_wp2_with fail
 obtain ⟨h1, h3⟩ := HKEY.out _ (show Turn [w.heap.size + 1] w7 ((((w7.setCell ⟨w.heap.size + 1, 0, none⟩ (.slice q0 (createP m s).fInodes.length p0)).setCell ⟨w.heap.size + 1, 1, none⟩ (.slice q1 (createP m s).fNames.length p1)).setCell ⟨w.heap.size + 1, 2, none⟩ (.slice q2 (createP m s).fSafe.length p2)).setCell ⟨w.heap.size + 1, 3, none⟩ (.int .i64 (createP m s).fNext)) from turn4 _ _ _ _ _ _)
 exact bodyPost_ret (v := .tuple #[.agg #[.slice q0 (createP m s).fInodes.length p0, .slice q1 (createP m s).fNames.length p1, .slice q2 (createP m s).fSafe.length p2, .int .i64 (createP m s).fNext], .int .i64 (createC m s)]) (by simp [results, Tryz.results34, go_sem, *]) rfl ⟨[.slice q0 (createP m s).fInodes.length p0, .slice q1 (createP m s).fNames.length p1, .slice q2 (createP m s).fSafe.length p2, .int .i64 (createP m s).fNext], rfl, h1, h3⟩
theorem specCreate_c (cs : List Value) (m : MDisk) (s : ByteArray) (w : World) (hr : rDisk w.heap.size w cs m) (hs : s.size <= 9223372036854775807) (hw : wDisk m <= 1048576) (hw1 : s.size <= 1048576) :
  Calls Tryz.prog 34 #[.agg cs.toArray, .string s] w fun e w' => ∃ cs' : List Value, e = .returned (.tuple #[.agg cs'.toArray, .int .i64 (createC m s)]) /\ rDisk w'.heap.size w' cs' (createP m s) /\ Below w.heap.size w w' :=
 (specCreate_o cs m s w hr hs hw hw1).mono fun e w' ⟨cs', he, ⟨F, ho, _⟩, hx⟩ => ⟨cs', he, oDisk_good.read ho, hx⟩
end Go.Proofs.YtegonncmopecnaaGreatDoor
