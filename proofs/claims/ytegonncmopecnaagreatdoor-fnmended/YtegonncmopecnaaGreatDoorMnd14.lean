/-
  Part 15 of the texts that the proof leans on.
-/
import Derived.Test.YtegonncmopecnaaGreatDoorMnd0
import Derived.Test.YtegonncmopecnaaGreatDoorMnd10
import Derived.Test.YtegonncmopecnaaGreatDoorMnd13
import Derived.Test.YtegonncmopecnaaGreatDoorMnd1
import Derived.Test.YtegonncmopecnaaGreatDoorMnd3
import Derived.Test.YtegonncmopecnaaGreatDoorMnd6
set_option linter.unusedVariables false
set_option linter.unusedSimpArgs false
set_option maxRecDepth 10000

namespace Go.Proofs.YtegonncmopecnaaGreatDoor
open Go.RowKit Go.Maps
abbrev qa95_41_5_0 : Oper := ⟨some 20, .load 27 (.tmp 8), 27, "l02_files.go:165", #[], none⟩
abbrev qa95_41_5_1 : Oper := ⟨some 21, .fieldAddr 27 (.tmp 8) 1, 0, "l02_files.go:165", #[], none⟩
abbrev qa95_41_5_2 : Oper := ⟨some 22, .load 25 (.tmp 21), 25, "l02_files.go:165", #[⟨1, .data⟩], none⟩
abbrev qa95_41_5_3 : Oper := ⟨some 23, .fieldAddr 27 (.tmp 8) 1, 0, "l02_files.go:165", #[], none⟩
abbrev qa95_41_5_4 : Oper := ⟨some 24, .load 25 (.tmp 23), 25, "l02_files.go:165", #[⟨3, .data⟩], none⟩
abbrev qa95_41_5_5 : Oper := ⟨some 25, .move (.tmp 1), 9, "l02_files.go:165", #[], none⟩
abbrev qa95_41_5_6 : Oper := ⟨some 26, .call { callee := .value (.func 58), args := #[.tmp 24, .tmp 25], argTypes := #[25, 9] }, 3, "l02_files.go:165", #[⟨4, .data⟩, ⟨5, .data⟩], none⟩
abbrev qa95_41_5_7 : Oper := ⟨some 27, .indexAddr 25 (.tmp 22) (.tmp 26), 0, "l02_files.go:165", #[⟨2, .data⟩, ⟨6, .data⟩], none⟩
abbrev qa95_41_5_8 : Oper := ⟨some 28, .fieldAddr 74 (.tmp 27) 1, 0, "l02_files.go:165", #[⟨7, .data⟩], none⟩
abbrev qa95_41_5_9 : Oper := ⟨some 29, .load 3 (.tmp 28), 3, "l02_files.go:165", #[⟨8, .data⟩], none⟩
abbrev qa95_41_5_10 : Oper := ⟨some 30, .call { callee := .value (.func 59), args := #[.tmp 20, .tmp 29], argTypes := #[27, 3] }, 3, "l02_files.go:165", #[⟨0, .data⟩, ⟨9, .data⟩, ⟨6, .chain⟩], none⟩
abbrev qa95_41_5_11 : Oper := ⟨some 10, .assign (.tmp 30), 3, "l02_files.go:165", #[⟨10, .data⟩, ⟨10, .chain⟩, ⟨0, .phase⟩, ⟨1, .phase⟩, ⟨2, .phase⟩, ⟨3, .phase⟩, ⟨4, .phase⟩, ⟨5, .phase⟩, ⟨6, .phase⟩, ⟨7, .phase⟩, ⟨8, .phase⟩, ⟨9, .phase⟩, ⟨10, .phase⟩], none⟩
abbrev qa95_41_6_0 : Oper := ⟨some 31, .fieldAddr 27 (.tmp 8) 0, 0, "l02_files.go:166", #[], none⟩
abbrev qa95_41_6_1 : Oper := ⟨some 32, .load 24 (.tmp 31), 24, "l02_files.go:166", #[⟨0, .data⟩], none⟩
abbrev qa95_41_6_2 : Oper := ⟨some 33, .move (.tmp 10), 3, "l02_files.go:166", #[], none⟩
abbrev qa95_41_6_3 : Oper := ⟨some 34, .fieldAddr 27 (.tmp 8) 0, 0, "l02_files.go:166", #[], none⟩
abbrev qa95_41_6_4 : Oper := ⟨some 35, .load 24 (.tmp 34), 24, "l02_files.go:166", #[⟨3, .data⟩], none⟩
abbrev qa95_41_6_5 : Oper := ⟨some 36, .move (.tmp 10), 3, "l02_files.go:166", #[], none⟩
abbrev qa95_41_6_6 : Oper := ⟨some 37, .indexAddr 24 (.tmp 35) (.tmp 36), 0, "l02_files.go:166", #[⟨4, .data⟩, ⟨5, .data⟩], none⟩
abbrev qa95_41_6_7 : Oper := ⟨some 38, .fieldAddr 50 (.tmp 37) 1, 0, "l02_files.go:166", #[⟨6, .data⟩], none⟩
abbrev qa95_41_6_9 : Oper := ⟨some 40, .move (.tmp 2), 22, "l02_files.go:166", #[], none⟩
abbrev qa95_41_6_8 : Oper := ⟨some 39, .load 22 (.tmp 38), 22, "l02_files.go:166", #[⟨7, .data⟩], none⟩
abbrev qa95_41_6_10 : Oper := ⟨some 41, .call { callee := .builtin .append, args := #[.tmp 39, .tmp 40], argTypes := #[22, 22] }, 22, "l02_files.go:166", #[⟨8, .data⟩, ⟨9, .data⟩], none⟩
abbrev qa95_41_6_11 : Oper := ⟨some 42, .indexAddr 24 (.tmp 32) (.tmp 33), 0, "l02_files.go:166", #[⟨1, .data⟩, ⟨2, .data⟩, ⟨0, .phase⟩, ⟨1, .phase⟩, ⟨2, .phase⟩, ⟨3, .phase⟩, ⟨4, .phase⟩, ⟨5, .phase⟩, ⟨6, .phase⟩, ⟨7, .phase⟩, ⟨8, .phase⟩, ⟨9, .phase⟩, ⟨10, .phase⟩], none⟩
abbrev qa95_41_6_12 : Oper := ⟨some 43, .fieldAddr 50 (.tmp 42) 1, 0, "l02_files.go:166", #[⟨11, .data⟩, ⟨0, .phase⟩, ⟨1, .phase⟩, ⟨2, .phase⟩, ⟨3, .phase⟩, ⟨4, .phase⟩, ⟨5, .phase⟩, ⟨6, .phase⟩, ⟨7, .phase⟩, ⟨8, .phase⟩, ⟨9, .phase⟩, ⟨10, .phase⟩], none⟩
abbrev qa95_41_6_13 : Oper := ⟨none, .store 22 (.tmp 43) (.tmp 41), 0, "l02_files.go:166", #[⟨12, .data⟩, ⟨10, .data⟩, ⟨10, .chain⟩, ⟨0, .phase⟩, ⟨1, .phase⟩, ⟨2, .phase⟩, ⟨3, .phase⟩, ⟨4, .phase⟩, ⟨5, .phase⟩, ⟨6, .phase⟩, ⟨7, .phase⟩, ⟨8, .phase⟩, ⟨9, .phase⟩, ⟨10, .phase⟩], none⟩
set_option maxHeartbeats 4000000 in
theorem specAppend_o (cs : List Value) (m : MDisk) (s : ByteArray) (vb : Value) (zb : List Int) (w : World) (hr : rDisk w.heap.size w cs m) (hs : s.size <= 9223372036854775807) (hrb : rdB w.heap.size w vb zb) (hw : wDisk m <= 1048576) (hw1 : s.size <= 1048576) (hwb : zb.length <= 2097152) :
  Calls Tryz.prog 41 #[.agg cs.toArray, .string s, vb] w fun e w' => ∃ (cs' : List Value) (F : List Nat), e = .returned (.tuple #[.agg cs'.toArray, .int .i64 (appendC m s zb)]) /\ oDisk w' cs' (appendP m s zb) F /\ (∀ b, b ∈ F -> w.heap.size <= b) /\ Below w.heap.size w w' := by
 obtain ⟨ab, cb, rfl, hlb⟩ := hrb
 have HLB := Hm hlb
 clear hlb
 obtain ⟨iB, hiB, hzB0, hzB1, hzB2⟩ := info_parts Tryz.info5
 have hq := hr
 obtain ⟨a0, c0, a1, c1, a2, c2, rfl, hI, hNm, hSf, hnx, _⟩ := hq
 have hw2 : m.fInodes.length + sumW wInode m.fInodes + (m.fNames.length + sumW wEntry m.fNames) + (m.fSafe.length + sumW wEntry m.fSafe) <= 1048576 := hw
 have HW := Hm hw
 have HR := Hm hr
 clear hr hI hNm hSf hw
 go_enter Tryz.func41, Tryz.ntmps41
 go_wp2_with fail
 obtain ⟨wq, hwq⟩ : ∃ wq, wq = ((w.alloc (.cells #[.slice a0 m.fInodes.length c0, .slice a1 m.fNames.length c1, .slice a2 m.fSafe.length c2, .int .i64 m.fNext] 27)).alloc (.cells #[.slice none 0 0, .slice none 0 0, .slice none 0 0, .int .i64 0] 27)) := ⟨_, rfl⟩
 have hbW : Below w.heap.size w wq := by rw [hwq]; exact Below.alloc (Below.alloc rB (by exact rN) _) (by simp; try omega) _
 have hbd : Bw wq (w.heap.size) 27 [.slice a0 m.fInodes.length c0, .slice a1 m.fNames.length c1, .slice a2 m.fSafe.length c2, .int .i64 m.fNext] := by rw [hwq]; exact Bw.alloc (Bw.new' _ _ _ (by simp)) _
 have hbr : Bw wq (w.heap.size + 1) 27 [.slice none 0 0, .slice none 0 0, .slice none 0 0, .int .i64 0] := by rw [hwq]; exact Bw.new' _ _ _ (by simp)
 rw [<- hwq]
 clear hwq
 refine (l2Copy_any _ m wq (rDisk_good.mono (rDisk_good.below HR.out hbW) hbW.size) HW.out).mono ?_
 rintro e w1 ⟨cs2, F2, rfl, ho2, hN2, hge2, hx1⟩
 obtain ⟨d0, e0, d1, e1, d2, e2, G0, G1, G2, rfl, o0, o1, o2, _, rfl⟩ := oDisk_cells ho2
 have HO0 := Hm o0
 have HO1 := Hm o1
 have HO2 := Hm o2
 have HO := Hm ho2
 have HN := Hm hN2
 have HGE : Hid (∀ b, b ∈ G0 ++ G1 ++ G2 ++ [] -> wq.heap.size <= b) := hge2
 have HLT : Hid (∀ b, b ∈ G0 ++ G1 ++ G2 ++ [] -> b < w1.heap.size) := fun b hb => oDisk_good.lt ho2 b hb
 clear ho2 hN2 hge2 o0 o1 o2
 have hb1 := bthen hbW hx1
 have hbd1 := hbd.under hx1
 have hbr1 := hbr.under hx1
 have hz1 := hx1.size
 have hzW := hbW.size
 have hl0 := hbr.lt
 obtain ⟨y0, y1, y2, y3⟩ := hbd1.c4
 have hl1 := hbd1.lt
 go_wp2_with fail
 obtain ⟨wa, hwa⟩ : ∃ wa, wa = w1.alloc (.cells #[.slice d0 m.fInodes.length e0, .slice d1 m.fNames.length e1, .slice d2 m.fSafe.length e2, .int .i64 m.fNext] 27) := ⟨_, rfl⟩
 have hba : Below w1.heap.size w1 wa := by rw [hwa]; exact rB.alloc rN _
 have hwb0 : Bw wa w1.heap.size 27 [.slice d0 m.fInodes.length e0, .slice d1 m.fNames.length e1, .slice d2 m.fSafe.length e2, .int .i64 m.fNext] := by rw [hwa]; exact Bw.new _ _ _
 rw [<- hwa]
 clear hwa
 have hba1 := bthen hb1 hba
 have hbda := (hbd1.under hba)
 refine (l2Call_any _ m s wa (rDisk_good.mono (rDisk_good.below HR.out hba1) hba1.size) HW.out hs).mono ?_
 rintro e w2 ⟨rfl, hx2⟩
 have hb12 := bthen hba hx2
 have hb2 := bthen hba1 hx2
 have hwb := hwb0.under hx2
 have hbr2 := (hbr1.under hba).under hx2
 have hbd2 := hbda.under hx2
 clear hwb0 hbda hbd1 y0 y1 y2 y3
 by_cases hC : callP m s = 0
 ·have hwt := ok_weight (call_good hC).1
  obtain ⟨n, hn⟩ : ∃ n, n = appendD m s zb := ⟨_, rfl⟩
  have hnl : n.fInodes.length = m.fInodes.length := by rw [hn]; exact updI_length
  have hwn : wDisk n <= 16777216 := by
   rw [hn]
   unfold appendD
   rw [wDisk_eq]
   have h1 := sumW_updI (l := m.fInodes) (k := fileAt m s) (f := longI zb) (c := zb.length) (fun x => by unfold longI wInode; simp)
   have h2 := updI_length (l := m.fInodes) (k := fileAt m s) (f := longI zb)
   simp only [h2]
   omega
  have hke : keepD n = n := by rw [hn]; exact append_keep hC
  have HE : Hid (endsD m n = appendP m s zb /\ endsC n = appendC m s zb) := by
   refine ⟨?_, ?_⟩
   ·unfold endsD appendP; rw [hke, hn, hC]; simp
   ·unfold endsC appendC; rw [hke, hn, hC]; simp
  have HNX0 : Hid (n = appendD m s zb) := hn
  have HNX : Hid (n.fInodes = updI m.fInodes (fileAt m s) (longI zb) /\ n.fNames = m.fNames /\ n.fSafe = m.fSafe /\ n.fNext = m.fNext) := by rw [hn]; exact ⟨rfl, rfl, rfl, rfl⟩
  have HNL := Hm hnl
  have HWN := Hm hwn
  have HWT := Hm hwt
  obtain ⟨ac, hac⟩ : ∃ ac, appendC m s zb = ac := ⟨_, rfl⟩
  have HV : Hid (appendC m s zb = ac) := hac
  have HEC0 : Hid (endsC n = ac) := HE.out.2.trans hac
  clear hn hnl hwn hke hwt hac
  rw [hC]
  have hgd := call_good hC
  obtain ⟨hk, hid, hhas⟩ := file_there hgd.1 hgd.2.2
  obtain ⟨hpl0, hpi⟩ := hasId_at hhas
  have hnz : nameZ m.fNames s = (nameAt m.fNames s : Int) := by unfold nameZ; rw [hgd.2.2, if_pos rfl]
  have hpz : placeZ m.fInodes (idOf m.fNames s) = (placeOf m.fInodes (idOf m.fNames s) : Int) := by unfold placeZ; rw [hhas, if_pos rfl]
  have hfrm : ∀ W', Below w2.heap.size w2 W' -> oDisk W' [.slice d0 m.fInodes.length e0, .slice d1 m.fNames.length e1, .slice d2 m.fSafe.length e2, .int .i64 m.fNext] m (G0 ++ G1 ++ G2 ++ []) := fun W' hb => oDisk_good.frame HO.out (fun b hbF => (bthen hb12 hb).block b (HLT.out b hbF))
  have hlfn : ∀ W', Below w2.heap.size w2 W' -> LeafL 2 rEntry W'.heap.size W' d1 e1 m.fNames := fun W' hb => ownS.leaf oEntry_good (ownS.frame oEntry_good HO1.out (fun b hbF => (bthen hb12 hb).block b (HLT.out b (by simp [hbF]))))
  obtain ⟨b1, o1, rfl, hB1, cs1, hcl1, hcell1, rfl, hrest1⟩ := (hlfn _ rB).2.2 (nameAt m.fNames s) hk
  have k1e := hcell1 1 _ rfl
  rw [<- hid] at k1e
  have q1 : ∀ W', Below w2.heap.size w2 W' -> W'.cell? ⟨b1, o1 + nameAt m.fNames s * 2 + 1, none⟩ = some (.int .i64 (idOf m.fNames s)) := fun W' hb => (hb.cell (p := ⟨b1, o1 + nameAt m.fNames s * 2 + 1, none⟩) hB1).trans k1e
  have hCt := fun W' (hb : Below w2.heap.size w2 W') => l2At_any (some ⟨b1, o1, none⟩) _ e1 m.fNames s W' W'.heap.size rfl (by omega) (hlfn W' hb).2.2
  have hCi := fun W' (hb : Below w2.heap.size w2 W') => l2Inode_any _ m (idOf m.fNames s) W' (oDisk_good.read (hfrm W' hb)) (by omega)
  simp only [hnz] at hCt
  simp only [hpz] at hCi
  obtain ⟨p, hpv⟩ : ∃ p, p = placeOf m.fInodes (idOf m.fNames s) := ⟨_, rfl⟩
  have HPV : Hid (p = fileAt m s) := hpv
  rw [<- hpv] at hCi hpl0
  have hpl : p < m.fInodes.length := hpl0
  have hu1 : (0 : Int) <= (nameAt m.fNames s : Int) := by omega
  have hu2 : (nameAt m.fNames s : Int) < (m.fNames.length : Int) := by omega
  have po0 : ∀ W', Below w2.heap.size w2 W' -> W'.cell? ⟨w1.heap.size, 0, none⟩ = some (.slice d0 m.fInodes.length e0) := fun W' hb => (hwb.under hb).cell 0 _ rfl
  have po1 : ∀ W', Below w2.heap.size w2 W' -> W'.cell? ⟨w1.heap.size, 1, none⟩ = some (.slice (some ⟨b1, o1, none⟩) m.fNames.length e1) := fun W' hb => (hwb.under hb).cell 1 _ rfl
  have po2 : ∀ W', Below w2.heap.size w2 W' -> W'.cell? ⟨w1.heap.size, 2, none⟩ = some (.slice d2 m.fSafe.length e2) := fun W' hb => (hwb.under hb).cell 2 _ rfl
  have po3 : ∀ W', Below w2.heap.size w2 W' -> W'.cell? ⟨w1.heap.size, 3, none⟩ = some (.int .i64 m.fNext) := fun W' hb => (hwb.under hb).cell 3 _ rfl
  clear hfrm hlfn hcell1 hcl1 k1e hrest1 hid hhas hpi hnz hpz hpl0 hgd
  have HCz := Hm hC
  have HKn := Hm hk
  clear hpv hC hk
  generalize nameAt m.fNames s = na at *
  generalize idOf m.fNames s = idn at *
  go_wp2_with fail
  refine wp_region_held_drew (S := fun W' => Below w2.heap.size w2 W') (by kernel_rfl) (Below.drew rB) (fun hZ => ?_)
  refine uq 0 qa95_41_5_0 20 hZ ?_
  refine uq 1 qa95_41_5_1 21 hZ ?_
  refine uq 2 qa95_41_5_2 22 hZ ?_
  refine uq 3 qa95_41_5_3 23 hZ ?_
  refine uq 4 qa95_41_5_4 24 hZ ?_
  refine uq 5 qa95_41_5_5 25 hZ ?_
  refine ar1 6 qa95_41_5_6 fun K hK => ?_
  go_simp
  refine Calls.mono (hCt _ hZ) ?_
  rintro e wy1 ⟨rfl, hw1⟩
  have hy1 := below_same hw1
  clear hw1
  go_wp2_with fail
  refine hK.out _ _ (bthen hZ hy1) (fun hZ => ?_)
  clear hK K
  try simp only[Act.put,sa,s0,s1]
  refine uq 7 qa95_41_5_7 27 hZ ?_
  refine uq 8 qa95_41_5_8 28 hZ ?_
  refine uq 9 qa95_41_5_9 29 hZ ?_
  refine ar1 10 qa95_41_5_10 fun K hK => ?_
  go_simp
  refine Calls.mono (hCi _ hZ) ?_
  rintro e wy2 ⟨rfl, hy2⟩
  go_wp2_with fail
  refine hK.out _ _ (bthen hZ hy2) (fun hZ => ?_)
  clear hK K
  try simp only[Act.put,sa,s0,s1]
  refine uq 11 qa95_41_5_11 10 hZ ?_
  refine wpAnyH_done (by kernel_rfl) ?_ _
  obtain ⟨wo, hwo⟩ : ∃ wo, wo = wy2 := ⟨_, rfl⟩
  rw [<- hwo] at hZ ⊢
  clear hwo hCt hCi po0 po1 po2 po3 q1
  have hbo := bthen hb12 hZ
  have hHeldo := hZ
  have hwbo := hwb.under hZ
  have HPV2 := HPV
  have hb1o := hbo
  have hBo : Below w.heap.size w wo := bthen hb1 hbo
  clear hb12
  obtain ⟨g, cap, hv, hgG, hgl⟩ := ownS.shape HO0.out (by omega)
  simp only [Value.slice.injEq, true_and] at hv
  obtain ⟨rfl, rfl⟩ := hv
  have hNN := HN.out
  rw [List.append_nil, List.append_assoc, List.nodup_append] at hNN
  obtain ⟨cs3, Fk, o3, n3, f3, _, c3, z3, hput⟩ := ownS.split oInode_good HO0.out hNN.1 hpl
  have HNN := Hm hNN
  have HPUT := Hm hput
  have HFK := Hm f3
  have HNK := Hm n3
  obtain ⟨v3, F3, hc3, i3, b3, s3, hF3⟩ := o3
  subst hc3
  obtain ⟨a3, l3, rfl, hlb3⟩ := b3.read
  have k1 := c3 1 _ rfl
  have r1 := z3 (p * 3 + 1)
  have hge1 := HGE.out g (by simp [hgG])
  have hdl : m.fInodes[p].fData.length <= 1048576 := by have h1 := sumW_le (f := wInode) hpl; have h2 : wInode m.fInodes[p] = m.fInodes[p].fData.length := rfl; omega
  have hpn : (0 : Int) <= (p : Int) := by omega
  have hpn2 : (p : Int) < (m.fInodes.length : Int) := by omega
  obtain ⟨nd, hnd⟩ : ∃ nd, nd = m.fInodes[p] := ⟨_, rfl⟩
  have HND := Hm hnd
  rw [<- hnd] at k1 hdl b3 i3 s3 hlb3 HPUT
  have HB3 := Hm b3
  have HLB3 := Hm hlb3
  have HI3 := Hm i3
  have HS3 := Hm s3
  clear c3 z3 hNN hput f3 n3 b3 hlb3 i3 s3 hnd
  have HPL := Hm hpl
  clear hwb
  have k1o := (hbo.cell (p := ⟨g, p * 3 + 1, none⟩) hgl).trans k1
  have r1o := (hbo.frozen (p := ⟨g, p * 3 + 1, none⟩) hgl).trans r1
  have x0 := hwbo.cell 0 _ rfl
  have hfk : Fk = (Value.ownBlock (.slice a3 nd.fData.length l3)).toList := by rw [hF3, List.append_nil]; exact HB3.out.2.2
  have hzo := hbo.size
  have hownD : wo.ownsRow 0 5 1 (.slice a3 nd.fData.length l3) nd.fData.length (nd.fData.map (Value.int .u8)) := (HB3.out.frame (fun b hb => hbo.block b (HLT.out b (by have h := (HFK.out b (by rw [hF3]; simpa using hb)).1; simp [h])))).1
  have hrdB : Rd .u8 w.heap.size wo ab zb := (HLB.out.below hBo).2.2.1
  have HOD := Hm hownD
  have HRB := Hm hrdB
  have HFE := Hm hfk
  have hgk : g ∉ Fk := fun h => (HFK.out g h).2 rfl
  have hok : w1.heap.size ∉ g :: Fk := by
   intro h
   rcases List.mem_cons.1 h with h | h
   ·omega
   ·have h2 := HLT.out _ (show w1.heap.size ∈ G0 ++ G1 ++ G2 ++ [] by have h3 := (HFK.out _ h).1; simp [h3]); omega
  have HG1 : Hid (g ≠ w1.heap.size) := by show _ ≠ _; omega
  clear k1 r1 hownD hrdB hfk
  go_wp2_with fail
  refine wp_region_held_drew (S := fun W => W.cell? ⟨w1.heap.size, 0, none⟩ = some (.slice (some ⟨g, 0, none⟩) m.fInodes.length e0) /\ Turn (g :: Fk) wo W) (by kernel_rfl) (⟨x0, Turn.ofBelow (Below.drew rB)⟩) (fun hZ => ?_)
  refine uq 0 qa95_41_6_0 31 hZ ?_
  refine uq 1 qa95_41_6_1 32 hZ ?_
  refine uq 2 qa95_41_6_2 33 hZ ?_
  refine uq 3 qa95_41_6_3 34 hZ ?_
  refine uq 4 qa95_41_6_4 35 hZ ?_
  refine uq 5 qa95_41_6_5 36 hZ ?_
  refine uq 6 qa95_41_6_6 37 hZ ?_
  refine uq 7 qa95_41_6_7 38 hZ ?_
  refine uq 9 qa95_41_6_9 40 hZ ?_
  refine ar1 8 qa95_41_6_8 fun K hK => ?_
  go_simp
  skip
  refine hK.out _ _ (⟨x0, Turn.ofBelow (Below.drew rB)⟩) (fun hZ => ?_)
  clear hK K
  try simp only[Act.put,sa,s0,s1]
  refine ar1 10 qa95_41_6_10 fun K hK => ?_
  refine step_append_src wo.drew rfl _ _ 22 22 rfl 0 5 iB (.int .u8 0) 1 1 Tryz.underlying22 hiB hzB0 hzB1 hzB2 rfl (.slice a3 nd.fData.length l3) nd.fData.length (nd.fData.map (Value.int .u8)) rfl HOD.out (.slice ab zb.length cb) rfl zb.length (zb.map (Value.int .u8)) (Src.rd Tryz.underlying22 rfl (B := w.heap.size) HRB.out) (by unfold maxLen; omega) (by omega) (Nat.zero_le _) ?_
  intro v9 w9 hw9 hgr9 hat9
  obtain ⟨r9, q9, rfl⟩ := own_slice hw9
  obtain ⟨tl, htl⟩ : ∃ tl, nd.fData.length + zb.length = tl := ⟨_, rfl⟩
  rw [htl] at hw9 hat9 ⊢
  have HTL := Hm htl
  have hT9 : Turn Fk wo w9 := (Turn.ofBelow (Below.drew rB)).trans (Turn.ofGrown hgr9 (fun k hk => by rw [HFE.out]; simp [hk]))
  have x09 := (hT9.cell (p := ⟨w1.heap.size, 0, none⟩) hwbo.lt (fun h => hok (List.mem_cons_of_mem _ h))).trans x0
  have HW9 := Hm hw9
  have HT9 := Hm hT9
  have HAT9 := Hm hat9
  clear hw9 hT9 hat9 htl hgr9
  refine hK.out _ _ (⟨x09, HT9.out.mono (fun k hk => List.mem_cons_of_mem _ hk)⟩) (fun hZ => ?_)
  clear hK K
  try simp only[Act.put,sa,s0,s1]
  refine uq 11 qa95_41_6_11 42 hZ ?_
  refine uq 12 qa95_41_6_12 43 hZ ?_
  refine ar1 13 qa95_41_6_13 fun K hK => ?_
  go_simp
  have k19 := (HT9.out.cell (p := ⟨g, p * 3 + 1, none⟩) (Nat.lt_of_lt_of_le hgl hzo) hgk).trans k1o
  have r19 : w9.frozen? ⟨g, p * 3 + 1, none⟩ = false := (World.frozen?_of_block (w := wo) (HT9.out.block g (Nat.lt_of_lt_of_le hgl hzo) hgk)).trans r1o
  go_simp
  refine hK.out _ _ (⟨(World.cell?_setCell_other _ _ _ _ (fun h => HG1.out (congrArg Addr.block h))).trans x09, Turn.setCell (F := g :: Fk) (HT9.out.mono (fun k hk => List.mem_cons_of_mem _ hk)) (by simp) _⟩) (fun hZ => ?_)
  clear hK K
  try simp only[Act.put,sa,s0,s1]
  refine wpAnyH_done (by kernel_rfl) ?_ _
  obtain ⟨ws, hws⟩ : ∃ ws, ws = w9.setCell ⟨g, p * 3 + 1, none⟩ (.slice r9 tl q9) := ⟨_, rfl⟩
  have hTs : Turn [g] w9 ws := by rw [hws]; exact Turn.setCell (Turn.refl _ _) (by simp) _
  have hTo : Turn (g :: Fk) wo ws := HT9.out.mono (fun k hk => List.mem_cons_of_mem _ hk) |>.trans (hTs.mono (fun k hk => by simp at hk; simp [hk]))
  have hgF : ∀ b, b ∈ g :: Fk -> wq.heap.size <= b := by
   intro b hb
   rcases List.mem_cons.1 hb with h | h
   ·omega
   ·exact HGE.out b (by have h3 := (HFK.out _ h).1; simp [h3])
  have hob : ownB 5 w9 (.slice r9 tl q9) (nd.fData ++ zb) (Value.ownBlock (.slice r9 tl q9)).toList := ⟨own_congr HW9.out (by rw [<- HTL.out]; simp) (by simp), (fun z hz => by rcases List.mem_append.1 hz with h | h; (exact HB3.out.2.1 z h); (exact HLB.out.2.2.2 z h)), rfl⟩
  have hGj : ∀ b, b ∈ (Value.ownBlock (.slice r9 tl q9)).toList -> b ∈ Fk ∨ b ∈ [wo.heap.size] := by
   intro b hb
   rcases HAT9.out with h | h
   ·left; rw [HFE.out, <- h]; exact hb
   ·right; rw [h] at hb; simpa using hb
  obtain ⟨F', p1, p2, p3⟩ := HPUT.out w9 1 (.slice r9 tl q9) (longI zb nd) ((Value.ownBlock (.slice r9 tl q9)).toList ++ []) [wo.heap.size] (by omega) ((Turn.ofBelow hbo).trans HT9.out) ⟨_, _, rfl, HI3.out, hob, HS3.out, rfl⟩ (by rw [List.append_nil]; exact nodup_opt _) (fun b hb => hGj b (by simpa using hb)) (fun b hb hb0 => by simp at hb; have := HLT.out b (by simp [hb0]); omega)
  have hfr : ∀ b, b ∈ G1 ++ G2 -> ws.heap[b]? = w1.heap[b]? := fun b hb => by
   have hb' : b ∈ G0 ++ G1 ++ G2 ++ [] := by simp at hb ⊢; exact .inr hb
   have hbl := HLT.out b hb'
   rw [hTo.block b (by omega) (by
    intro h
    rcases List.mem_cons.1 h with h | h
    ·exact HNN.out.2.2 g hgG b hb h.symm
    ·exact HNN.out.2.2 b (HFK.out b h).1 b hb rfl), hbo.block b hbl]
  have t1 := ownS.frame (w' := ws) oEntry_good HO1.out (fun b hb => hfr b (by simp [hb]))
  have t2 := ownS.frame (w' := ws) oEntry_good HO2.out (fun b hb => hfr b (by simp [hb]))
  rw [<- hws, HND.out] at p1
  have HT0 : Hid (ownS 3 50 oInode ws (.slice (some ⟨g, 0, none⟩) m.fInodes.length e0) n.fInodes F') := by rw [HNX.out.1, <- HPV.out, updI_at HPL.out]; exact p1
  have HT1 := Hm t1
  have HT2 := Hm t2
  have HSUB : Hid (∀ b, b ∈ F' ++ G1 ++ G2 -> w.heap.size + 2 <= b) := by
   intro b hb
   rw [List.append_assoc, List.mem_append] at hb
   rcases hb with hb | hb
   ·rcases p3 b hb with h | h
    ·have := HGE.out b (by simp [h]); omega
    ·simp at h; omega
   ·have := HGE.out b (by simp at hb ⊢; exact .inr hb); omega
  have hbdo := (hbd2.below hHeldo hbd2.lt)
  have hbro := (hbr2.below hHeldo hbr2.lt)
  have hbds := hbdo.turn hTo (fun h => by have := hgF _ h; omega)
  have hbrs := hbro.turn hTo (fun h => by have := hgF _ h; omega)
  have hwbs := hwbo.turn hTo hok
  have hBs : Below w.heap.size w ws := hBo.trans (hTo.below (fun k hk => by have := hgF k hk; omega) hBo.size)
  have HBS := Hm hBs
  rw [<- hws]
  clear hws hTs hTo t1 t2 p1 p3 hfr hob hGj hZ x09 k19 r19 x0 k1o r1o
  obtain ⟨y0, y1, y2, y3⟩ := hbds.c4
  obtain ⟨x0, x1, x2, x3⟩ := hwbs.c4
  go_wp2_with fail
  have hcon := l2Ends_any _ (some ⟨g, 0, none⟩) (some ⟨b1, o1, none⟩) d2 e0 e1 e2 m n F' G1 G2 ws (rDisk_good.mono (rDisk_good.below HR.out HBS.out) HBS.out.size) HW.out (by rw [HNL.out]; exact HT0.out) (by rw [HNX.out.2.1]; exact HT1.out) (by rw [HNX.out.2.2.1]; exact HT2.out) (by rw [HNX.out.2.2.2]; exact hnx) HWN.out (by rw [HNL.out, HNX.out.2.1, HNX.out.2.2.1]; have := HWT.out; omega)
  rw [HNL.out, HNX.out.2.1, HNX.out.2.2.1, HNX.out.2.2.2] at hcon
  refine hcon.mono ?_
  clear hcon
  rintro e w4 ⟨cs4, F4, rfl, ho4, hF4, hx4⟩
  have hb4 := bthen HBS.out hx4
  have hbr4 := hbrs.under hx4
  have hl4 := hbr4.lt
  have hzE := HBS.out.size
  have hlE := hbrs.lt
  rw [HE.out.1] at ho4
  obtain ⟨q0, p0, q1, p1, q2, p2, E0, E1, E2, rfl, _, _, _, _, rfl⟩ := oDisk_cells ho4
  have hkey : ∀ W', Turn [w.heap.size + 1] w4 W' -> oDisk W' [.slice q0 (appendP m s zb).fInodes.length p0, .slice q1 (appendP m s zb).fNames.length p1, .slice q2 (appendP m s zb).fSafe.length p2, .int .i64 (appendP m s zb).fNext] (appendP m s zb) (E0 ++ E1 ++ E2 ++ []) /\ Below w.heap.size w W' := fun W' hT =>
   ⟨(oDisk_good.frame ho4 (fun b hb => hT.block b (oDisk_good.lt ho4 b hb) (fun h => by simp at h; rcases hF4 b hb with h2 | h2; (have := HSUB.out b h2; omega); omega))), hb4.trans (hT.below (fun k hk => by simp at hk; omega) hb4.size)⟩
  have HGQ : Hid (∀ b, b ∈ E0 ++ E1 ++ E2 ++ [] -> w.heap.size <= b) := fun b hb => by rcases hF4 b hb with h2 | h2; (have := HSUB.out b h2; omega); omega
  have HKEY := Hm hkey
  clear hkey ho4 hF4
  obtain ⟨ze0, ze1, ze2, ze3⟩ := hbr4.c4
  obtain ⟨zf0, zf1, zf2, zf3⟩ := hbr4.f4
  have HEC : Hid (endsC n = ac) := HEC0.out
  rw [HEC.out]
  go_wp2_with fail
  obtain ⟨h1, h3⟩ := HKEY.out _ (show Turn [w.heap.size + 1] w4 ((((w4.setCell ⟨w.heap.size + 1, 0, none⟩ (.slice q0 (appendP m s zb).fInodes.length p0)).setCell ⟨w.heap.size + 1, 1, none⟩ (.slice q1 (appendP m s zb).fNames.length p1)).setCell ⟨w.heap.size + 1, 2, none⟩ (.slice q2 (appendP m s zb).fSafe.length p2)).setCell ⟨w.heap.size + 1, 3, none⟩ (.int .i64 (appendP m s zb).fNext)) from turn4 _ _ _ _ _ _)
  exact bodyPost_ret (v := .tuple #[.agg #[.slice q0 (appendP m s zb).fInodes.length p0, .slice q1 (appendP m s zb).fNames.length p1, .slice q2 (appendP m s zb).fSafe.length p2, .int .i64 (appendP m s zb).fNext], .int .i64 ac]) (by simp [results, Tryz.results41, go_sem, *]) rfl ⟨[.slice q0 (appendP m s zb).fInodes.length p0, .slice q1 (appendP m s zb).fNames.length p1, .slice q2 (appendP m s zb).fSafe.length p2, .int .i64 (appendP m s zb).fNext], E0 ++ E1 ++ E2 ++ [], by rw [HV.out], h1, HGQ.out, h3⟩
 ·have HV : Hid (appendP m s zb = m /\ appendC m s zb = callP m s) := by refine ⟨?_, ?_⟩ <;> simp [appendP, appendC, hC]
  have hcn : (callP m s == 0) = false := beq_eq_false_iff_ne.2 hC
  have hcn2 : (callP m s != 0) = true := bne_iff_ne.2 hC
  obtain ⟨cp, hcp⟩ : ∃ cp, callP m s = cp := ⟨_, rfl⟩
  rw [hcp] at hcn hcn2 ⊢
  have HCP : Hid (appendC m s zb = cp) := HV.out.2.trans hcp
  clear hcp hC
  obtain ⟨zo0, zo1, zo2, zo3⟩ := hwb.c4
  obtain ⟨ze0, zf0, ze1, zf1, ze2, zf2, ze3, zf3⟩ := hbr2.c8
  have hlt0 := hbr2.lt
  have hO3 : oDisk w2 [.slice d0 m.fInodes.length e0, .slice d1 m.fNames.length e1, .slice d2 m.fSafe.length e2, .int .i64 m.fNext] (appendP m s zb) (G0 ++ G1 ++ G2 ++ []) := by rw [HV.out.1]; exact oDisk_good.frame HO.out (fun b hb => hb12.block b (HLT.out b hb))
  have hG3 : ∀ b, b ∈ G0 ++ G1 ++ G2 ++ [] -> w.heap.size + 2 <= b := fun b hb => by have := HGE.out b hb; omega
  have HBf := Hm hb2
  have HO3 := Hm hO3
  clear hO3
  go_wp2_with fail
  refine bodyPost_ret (v := .tuple #[.agg #[.slice d0 m.fInodes.length e0, .slice d1 m.fNames.length e1, .slice d2 m.fSafe.length e2, .int .i64 m.fNext], .int .i64 cp]) (by simp [results, Tryz.results41, go_sem, *]) rfl ⟨[.slice d0 m.fInodes.length e0, .slice d1 m.fNames.length e1, .slice d2 m.fSafe.length e2, .int .i64 m.fNext], G0 ++ G1 ++ G2 ++ [], by first | rfl | rw [HCP.out], ?_, (fun b hb => by have := hG3 b hb; omega), ?_⟩
  ·exact (oDisk_good.frame HO3.out (fun b hb => (show Turn [w.heap.size + 1] w2 _ from by repeat (first | with_reducible exact Turn.refl _ _ | with_reducible refine Turn.setCell ?_ (by simp) _ | with_reducible refine Turn.alloc ?_ _ | with_reducible refine Turn.drew ?_)).block b (oDisk_good.lt HO3.out b hb) (by intro h; simp at h; have := hG3 b hb; omega)))
  ·exact HBf.out.trans ((show Turn [w.heap.size + 1] w2 _ from by repeat (first | with_reducible exact Turn.refl _ _ | with_reducible refine Turn.setCell ?_ (by simp) _ | with_reducible refine Turn.alloc ?_ _ | with_reducible refine Turn.drew ?_)).below (fun k hk => by simp at hk; omega) HBf.out.size)
set_option maxHeartbeats 400000 in
theorem specAppend_b (cs : List Value) (m : MDisk) (s : ByteArray) (vb : Value) (zb : List Int) (w : World) (hr : rDisk w.heap.size w cs m) (hs : s.size <= 9223372036854775807) (hrb : rdB w.heap.size w vb zb) (hw : wDisk m <= 1048576) (hw1 : s.size <= 1048576) (hwb : zb.length <= 2097152) :
  Calls Tryz.prog 41 #[.agg cs.toArray, .string s, vb] w fun e w' => ∃ cs' : List Value, e = .returned (.tuple #[.agg cs'.toArray, .int .i64 (appendC m s zb)]) /\ rDisk w'.heap.size w' cs' (appendP m s zb) /\ Below w.heap.size w w' := by
 refine (specAppend_o cs m s vb zb w hr hs hrb hw hw1 hwb).mono ?_
 rintro e w' ⟨cs', F, he, ho, _, hx⟩
 exact ⟨cs', he, oDisk_good.read ho, hx⟩
abbrev q506_38_4_0 : Oper := ⟨some 16, .load 27 (.tmp 6), 27, "l02_files.go:174", #[], none⟩
abbrev q506_38_4_1 : Oper := ⟨some 17, .fieldAddr 27 (.tmp 6) 1, 0, "l02_files.go:174", #[], none⟩
abbrev q506_38_4_2 : Oper := ⟨some 18, .load 25 (.tmp 17), 25, "l02_files.go:174", #[⟨1, .data⟩], none⟩
abbrev q506_38_4_3 : Oper := ⟨some 19, .fieldAddr 27 (.tmp 6) 1, 0, "l02_files.go:174", #[], none⟩
abbrev q506_38_4_4 : Oper := ⟨some 20, .load 25 (.tmp 19), 25, "l02_files.go:174", #[⟨3, .data⟩], none⟩
abbrev q506_38_4_5 : Oper := ⟨some 21, .move (.tmp 1), 9, "l02_files.go:174", #[], none⟩
abbrev q506_38_4_6 : Oper := ⟨some 22, .call { callee := .value (.func 58), args := #[.tmp 20, .tmp 21], argTypes := #[25, 9] }, 3, "l02_files.go:174", #[⟨4, .data⟩, ⟨5, .data⟩], none⟩
abbrev q506_38_4_7 : Oper := ⟨some 23, .indexAddr 25 (.tmp 18) (.tmp 22), 0, "l02_files.go:174", #[⟨2, .data⟩, ⟨6, .data⟩], none⟩
abbrev q506_38_4_8 : Oper := ⟨some 24, .fieldAddr 74 (.tmp 23) 1, 0, "l02_files.go:174", #[⟨7, .data⟩], none⟩
abbrev q506_38_4_9 : Oper := ⟨some 25, .load 3 (.tmp 24), 3, "l02_files.go:174", #[⟨8, .data⟩], none⟩
abbrev q506_38_4_10 : Oper := ⟨some 26, .call { callee := .value (.func 59), args := #[.tmp 16, .tmp 25], argTypes := #[27, 3] }, 3, "l02_files.go:174", #[⟨0, .data⟩, ⟨9, .data⟩, ⟨6, .chain⟩], none⟩
abbrev q506_38_4_11 : Oper := ⟨some 8, .assign (.tmp 26), 3, "l02_files.go:174", #[⟨10, .data⟩, ⟨10, .chain⟩, ⟨0, .phase⟩, ⟨1, .phase⟩, ⟨2, .phase⟩, ⟨3, .phase⟩, ⟨4, .phase⟩, ⟨5, .phase⟩, ⟨6, .phase⟩, ⟨7, .phase⟩, ⟨8, .phase⟩, ⟨9, .phase⟩, ⟨10, .phase⟩], none⟩
abbrev q506_38_5_0 : Oper := ⟨some 27, .fieldAddr 27 (.tmp 6) 0, 0, "l02_files.go:175", #[], none⟩
abbrev q506_38_5_1 : Oper := ⟨some 28, .load 24 (.tmp 27), 24, "l02_files.go:175", #[⟨0, .data⟩], none⟩
abbrev q506_38_5_2 : Oper := ⟨some 29, .move (.tmp 8), 3, "l02_files.go:175", #[], none⟩
abbrev q506_38_5_3 : Oper := ⟨some 30, .fieldAddr 27 (.tmp 6) 0, 0, "l02_files.go:175", #[], none⟩
abbrev q506_38_5_4 : Oper := ⟨some 31, .load 24 (.tmp 30), 24, "l02_files.go:175", #[⟨3, .data⟩], none⟩
abbrev q506_38_5_5 : Oper := ⟨some 32, .move (.tmp 8), 3, "l02_files.go:175", #[], none⟩
abbrev q506_38_5_6 : Oper := ⟨some 33, .indexAddr 24 (.tmp 31) (.tmp 32), 0, "l02_files.go:175", #[⟨4, .data⟩, ⟨5, .data⟩], none⟩
abbrev q506_38_5_7 : Oper := ⟨some 34, .fieldAddr 50 (.tmp 33) 1, 0, "l02_files.go:175", #[⟨6, .data⟩], none⟩
abbrev q506_38_5_8 : Oper := ⟨some 35, .load 22 (.tmp 34), 22, "l02_files.go:175", #[⟨7, .data⟩], none⟩
abbrev q506_38_5_9 : Oper := ⟨some 36, .call { callee := .builtin .len, args := #[.tmp 35], argTypes := #[22] }, 3, "l02_files.go:175", #[⟨8, .data⟩], none⟩
abbrev q506_38_5_10 : Oper := ⟨some 37, .indexAddr 24 (.tmp 28) (.tmp 29), 0, "l02_files.go:175", #[⟨1, .data⟩, ⟨2, .data⟩, ⟨0, .phase⟩, ⟨1, .phase⟩, ⟨2, .phase⟩, ⟨3, .phase⟩, ⟨4, .phase⟩, ⟨5, .phase⟩, ⟨6, .phase⟩, ⟨7, .phase⟩, ⟨8, .phase⟩, ⟨9, .phase⟩], none⟩
abbrev q506_38_5_11 : Oper := ⟨some 38, .fieldAddr 50 (.tmp 37) 2, 0, "l02_files.go:175", #[⟨10, .data⟩, ⟨0, .phase⟩, ⟨1, .phase⟩, ⟨2, .phase⟩, ⟨3, .phase⟩, ⟨4, .phase⟩, ⟨5, .phase⟩, ⟨6, .phase⟩, ⟨7, .phase⟩, ⟨8, .phase⟩, ⟨9, .phase⟩], none⟩
abbrev q506_38_5_12 : Oper := ⟨none, .store 3 (.tmp 38) (.tmp 36), 0, "l02_files.go:175", #[⟨11, .data⟩, ⟨9, .data⟩, ⟨0, .phase⟩, ⟨1, .phase⟩, ⟨2, .phase⟩, ⟨3, .phase⟩, ⟨4, .phase⟩, ⟨5, .phase⟩, ⟨6, .phase⟩, ⟨7, .phase⟩, ⟨8, .phase⟩, ⟨9, .phase⟩], none⟩
set_option maxHeartbeats 4000000 in
theorem specSync_o (cs : List Value) (m : MDisk) (s : ByteArray) (w : World) (hr : rDisk w.heap.size w cs m) (hs : s.size <= 9223372036854775807) (hw : wDisk m <= 1048576) (hw1 : s.size <= 1048576) :
  Calls Tryz.prog 38 #[.agg cs.toArray, .string s] w fun e w' => ∃ cs' : List Value, e = .returned (.tuple #[.agg cs'.toArray, .int .i64 (callP m s)]) /\ (∃ F, oDisk w' cs' (syncP m s) F /\ ∀ b, b ∈ F -> w.heap.size <= b) /\ Below w.heap.size w w' := by
 have hq := hr
 obtain ⟨a0, c0, a1, c1, a2, c2, rfl, hI, hNm, hSf, hnx, _⟩ := hq
 have hw2 : m.fInodes.length + sumW wInode m.fInodes + (m.fNames.length + sumW wEntry m.fNames) + (m.fSafe.length + sumW wEntry m.fSafe) <= 1048576 := hw
 have HW := Hm hw
 have HR := Hm hr
 clear hr hI hNm hSf hw
 go_enter Tryz.func38, Tryz.ntmps38
 go_wp2_with fail
 obtain ⟨wq, hwq⟩ : ∃ wq, wq = ((w.alloc (.cells #[.slice a0 m.fInodes.length c0, .slice a1 m.fNames.length c1, .slice a2 m.fSafe.length c2, .int .i64 m.fNext] 27)).alloc (.cells #[.slice none 0 0, .slice none 0 0, .slice none 0 0, .int .i64 0] 27)) := ⟨_, rfl⟩
 have hbW : Below w.heap.size w wq := by rw [hwq]; exact Below.alloc (Below.alloc rB (by exact rN) _) (by simp; try omega) _
 have hbd : Bw wq (w.heap.size) 27 [.slice a0 m.fInodes.length c0, .slice a1 m.fNames.length c1, .slice a2 m.fSafe.length c2, .int .i64 m.fNext] := by rw [hwq]; exact Bw.alloc (Bw.new' _ _ _ (by simp)) _
 have hbr : Bw wq (w.heap.size + 1) 27 [.slice none 0 0, .slice none 0 0, .slice none 0 0, .int .i64 0] := by rw [hwq]; exact Bw.new' _ _ _ (by simp)
 rw [<- hwq]
 clear hwq
 refine (l2Copy_any _ m wq (rDisk_good.mono (rDisk_good.below HR.out hbW) hbW.size) HW.out).mono ?_
 rintro e w1 ⟨cs2, F2, rfl, ho2, hN2, hge2, hx1⟩
 obtain ⟨d0, e0, d1, e1, d2, e2, G0, G1, G2, rfl, o0, o1, o2, _, rfl⟩ := oDisk_cells ho2
 have HO0 := Hm o0
 have HO1 := Hm o1
 have HO2 := Hm o2
 have HO := Hm ho2
 have HN := Hm hN2
 have HGE : Hid (∀ b, b ∈ G0 ++ G1 ++ G2 ++ [] -> wq.heap.size <= b) := hge2
 have HLT : Hid (∀ b, b ∈ G0 ++ G1 ++ G2 ++ [] -> b < w1.heap.size) := fun b hb => oDisk_good.lt ho2 b hb
 clear ho2 hN2 hge2 o0 o1 o2
 have hb1 := bthen hbW hx1
 have hbd1 := hbd.under hx1
 have hbr1 := hbr.under hx1
 have hz1 := hx1.size
 have hl0 := hbr.lt
 obtain ⟨y0, y1, y2, y3⟩ := hbd1.c4
 have hl1 := hbd1.lt
 go_wp2_with fail
 obtain ⟨wa, hwa⟩ : ∃ wa, wa = w1.alloc (.cells #[.slice d0 m.fInodes.length e0, .slice d1 m.fNames.length e1, .slice d2 m.fSafe.length e2, .int .i64 m.fNext] 27) := ⟨_, rfl⟩
 have hba : Below w1.heap.size w1 wa := by rw [hwa]; exact rB.alloc rN _
 have hwb0 : Bw wa w1.heap.size 27 [.slice d0 m.fInodes.length e0, .slice d1 m.fNames.length e1, .slice d2 m.fSafe.length e2, .int .i64 m.fNext] := by rw [hwa]; exact Bw.new _ _ _
 rw [<- hwa]
 clear hwa
 have hba1 := bthen hb1 hba
 have hbda := (hbd1.under hba)
 refine (l2Call_any _ m s wa (rDisk_good.mono (rDisk_good.below HR.out hba1) hba1.size) HW.out hs).mono ?_
 rintro e w2 ⟨rfl, hx2⟩
 have hb12 := bthen hba hx2
 have hwb := hwb0.under hx2
 clear hwb0 hbda hbd1 y0 y1 y2 y3
 by_cases hC : callP m s = 0
 ·have hCc := hC
  rw [hC]
  have HB2 := Hm hb1
  have HBR2 := Hm hbr1
  have hgd := call_good hC
  obtain ⟨hk, hid, hhas⟩ := file_there hgd.1 hgd.2.2
  obtain ⟨hpl0, hpi⟩ := hasId_at hhas
  have hnz : nameZ m.fNames s = (nameAt m.fNames s : Int) := by unfold nameZ; rw [hgd.2.2, if_pos rfl]
  have hpz : placeZ m.fInodes (idOf m.fNames s) = (placeOf m.fInodes (idOf m.fNames s) : Int) := by unfold placeZ; rw [hhas, if_pos rfl]
  have hfrm : ∀ W', Below w2.heap.size w2 W' -> oDisk W' [.slice d0 m.fInodes.length e0, .slice d1 m.fNames.length e1, .slice d2 m.fSafe.length e2, .int .i64 m.fNext] m (G0 ++ G1 ++ G2 ++ []) := fun W' hb => oDisk_good.frame HO.out (fun b hbF => (bthen hb12 hb).block b (HLT.out b hbF))
  have hlfn : ∀ W', Below w2.heap.size w2 W' -> LeafL 2 rEntry W'.heap.size W' d1 e1 m.fNames := fun W' hb => ownS.leaf oEntry_good (ownS.frame oEntry_good HO1.out (fun b hbF => (bthen hb12 hb).block b (HLT.out b (by simp [hbF]))))
  obtain ⟨b1, o1, rfl, hB1, cs1, hcl1, hcell1, rfl, hrest1⟩ := (hlfn _ rB).2.2 (nameAt m.fNames s) hk
  have k1e := hcell1 1 _ rfl
  rw [<- hid] at k1e
  have q1 : ∀ W', Below w2.heap.size w2 W' -> W'.cell? ⟨b1, o1 + nameAt m.fNames s * 2 + 1, none⟩ = some (.int .i64 (idOf m.fNames s)) := fun W' hb => (hb.cell (p := ⟨b1, o1 + nameAt m.fNames s * 2 + 1, none⟩) hB1).trans k1e
  have hCt := fun W' (hb : Below w2.heap.size w2 W') => l2At_any (some ⟨b1, o1, none⟩) _ e1 m.fNames s W' W'.heap.size rfl (by omega) (hlfn W' hb).2.2
  have hCi := fun W' (hb : Below w2.heap.size w2 W') => l2Inode_any _ m (idOf m.fNames s) W' (oDisk_good.read (hfrm W' hb)) (by omega)
  simp only [hnz] at hCt
  simp only [hpz] at hCi
  obtain ⟨p, hpv⟩ : ∃ p, p = placeOf m.fInodes (idOf m.fNames s) := ⟨_, rfl⟩
  have HPV : Hid (p = fileAt m s) := hpv
  rw [<- hpv] at hCi hpl0
  have hpl : p < m.fInodes.length := hpl0
  have hu1 : (0 : Int) <= (nameAt m.fNames s : Int) := by omega
  have hu2 : (nameAt m.fNames s : Int) < (m.fNames.length : Int) := by omega
  have po0 : ∀ W', Below w2.heap.size w2 W' -> W'.cell? ⟨w1.heap.size, 0, none⟩ = some (.slice d0 m.fInodes.length e0) := fun W' hb => (hwb.under hb).cell 0 _ rfl
  have po1 : ∀ W', Below w2.heap.size w2 W' -> W'.cell? ⟨w1.heap.size, 1, none⟩ = some (.slice (some ⟨b1, o1, none⟩) m.fNames.length e1) := fun W' hb => (hwb.under hb).cell 1 _ rfl
  have po2 : ∀ W', Below w2.heap.size w2 W' -> W'.cell? ⟨w1.heap.size, 2, none⟩ = some (.slice d2 m.fSafe.length e2) := fun W' hb => (hwb.under hb).cell 2 _ rfl
  have po3 : ∀ W', Below w2.heap.size w2 W' -> W'.cell? ⟨w1.heap.size, 3, none⟩ = some (.int .i64 m.fNext) := fun W' hb => (hwb.under hb).cell 3 _ rfl
  clear hfrm hlfn hcell1 hcl1 k1e hrest1 hid hhas hpi hnz hpz hpl0 hgd
  have HCz := Hm hC
  have HKn := Hm hk
  clear hpv hC hk
  generalize nameAt m.fNames s = na at *
  generalize idOf m.fNames s = idn at *
  go_wp2_with fail
  refine wp_region_held_drew (S := fun W' => Below w2.heap.size w2 W') (by kernel_rfl) (Below.drew rB) (fun hZ => ?_)
  refine uq 0 q506_38_4_0 16 hZ ?_
  refine uq 1 q506_38_4_1 17 hZ ?_
  refine uq 2 q506_38_4_2 18 hZ ?_
  refine uq 3 q506_38_4_3 19 hZ ?_
  refine uq 4 q506_38_4_4 20 hZ ?_
  refine uq 5 q506_38_4_5 21 hZ ?_
  refine ar1 6 q506_38_4_6 fun K hK => ?_
  go_simp
  refine Calls.mono (hCt _ hZ) ?_
  rintro e wy1 ⟨rfl, hw1⟩
  have hy1 := below_same hw1
  clear hw1
  go_wp2_with fail
  refine hK.out _ _ (bthen hZ hy1) (fun hZ => ?_)
  clear hK K
  try simp only[Act.put,sa,s0,s1]
  refine uq 7 q506_38_4_7 23 hZ ?_
  refine uq 8 q506_38_4_8 24 hZ ?_
  refine uq 9 q506_38_4_9 25 hZ ?_
  refine ar1 10 q506_38_4_10 fun K hK => ?_
  go_simp
  refine Calls.mono (hCi _ hZ) ?_
  rintro e wy2 ⟨rfl, hy2⟩
  go_wp2_with fail
  refine hK.out _ _ (bthen hZ hy2) (fun hZ => ?_)
  clear hK K
  try simp only[Act.put,sa,s0,s1]
  refine uq 11 q506_38_4_11 8 hZ ?_
  refine wpAnyH_done (by kernel_rfl) ?_ _
  obtain ⟨wo, hwo⟩ : ∃ wo, wo = wy2 := ⟨_, rfl⟩
  rw [<- hwo] at hZ ⊢
  clear hwo hCt hCi po0 po1 po2 po3 q1
  have hbo := bthen hb12 hZ
  have hwbo := hwb.under hZ
  have hC := HCz.out
  have HV : Hid (syncP m s = { m with fInodes := updI m.fInodes p sureI }) := by show _ = _; unfold syncP; rw [if_pos hC, HPV.out]
  clear hb12 hZ hCc
  obtain ⟨g, cap, hv, hgG, hgl⟩ := ownS.shape HO0.out (by omega)
  simp only [Value.slice.injEq, true_and] at hv
  obtain ⟨rfl, rfl⟩ := hv
  obtain ⟨cs3, Fk, o3, f3, n3, c3, z3⟩ := ownS.cells oInode_good HO0.out hpl
  obtain ⟨v3, F3, rfl, i3, b3, s3, rfl⟩ := o3
  obtain ⟨a3, l3, rfl, _⟩ := b3.read
  have k1 := c3 1 _ rfl
  have k2 := c3 2 _ rfl
  have r1 := z3 (p * 3 + 1)
  have r2 := z3 (p * 3 + 2)
  have hge1 := HGE.out g (by simp [hgG])
  have hdl : m.fInodes[p].fData.length <= 1048576 := by have h1 := sumW_le (f := wInode) hpl; have h2 : wInode m.fInodes[p] = m.fInodes[p].fData.length := rfl; omega
  obtain ⟨dn, hdn⟩ : ∃ dn, m.fInodes[p].fData.length = dn := ⟨_, rfl⟩
  rw [hdn] at k1 hdl
  have HDN := Hm hdn
  have HPL := Hm hpl
  have hpn : (0 : Int) <= (p : Int) := by omega
  have hpn2 : (p : Int) < (m.fInodes.length : Int) := by omega
  clear hdn c3 z3 n3
  clear hwb
  have hwb := hwbo
  go_wp2_with fail
  have k1o := (hbo.cell (p := ⟨g, p * 3 + 1, none⟩) hgl).trans k1
  have k2o := (hbo.cell (p := ⟨g, p * 3 + 2, none⟩) hgl).trans k2
  have r2o := (hbo.frozen (p := ⟨g, p * 3 + 2, none⟩) hgl).trans r2
  have x0 := hwb.cell 0 _ rfl
  clear k1 k2 r2 r1
  have HG1 : Hid (g ≠ w1.heap.size) := by show _ ≠ _; omega
  refine wp_region_held_drew (S := fun W => W.cell? ⟨w1.heap.size, 0, none⟩ = some (.slice (some ⟨g, 0, none⟩) m.fInodes.length e0) /\ W.cell? ⟨g, p * 3 + 1, none⟩ = some (.slice a3 dn l3) /\ Turn [g] wo W) (by kernel_rfl) (⟨x0, k1o, Turn.ofBelow (Below.drew rB)⟩) (fun hZ => ?_)
  refine uq 0 q506_38_5_0 27 hZ ?_
  refine uq 1 q506_38_5_1 28 hZ ?_
  refine uq 2 q506_38_5_2 29 hZ ?_
  refine uq 3 q506_38_5_3 30 hZ ?_
  refine uq 4 q506_38_5_4 31 hZ ?_
  refine uq 5 q506_38_5_5 32 hZ ?_
  refine uq 6 q506_38_5_6 33 hZ ?_
  refine uq 7 q506_38_5_7 34 hZ ?_
  refine uq 8 q506_38_5_8 35 hZ ?_
  refine uq 9 q506_38_5_9 36 hZ ?_
  refine uq 10 q506_38_5_10 37 hZ ?_
  refine uq 11 q506_38_5_11 38 hZ ?_
  refine ar1 12 q506_38_5_12 fun K hK => ?_
  go_simp
  go_simp
  refine hK.out _ _ (⟨(World.cell?_setCell_other _ _ _ _ (fun h => HG1.out (congrArg Addr.block h))).trans x0, (World.cell?_setCell_other _ _ _ _ (fun h => by have := congrArg Addr.off h; simp at this)).trans k1o, Turn.drew (Turn.setCell (F := [g]) (a := wo) (b := wo) (p := ⟨g, p * 3 + 2, none⟩) (Turn.refl _ _) (by simp) (.int .i64 dn))⟩) (fun hZ => ?_)
  clear hK K
  try simp only[Act.put,sa,s0,s1]
  refine wpAnyH_done (by kernel_rfl) ?_ _
  obtain ⟨w3, hw3⟩ : ∃ w3, w3 = (wo.setCell ⟨g, p * 3 + 2, none⟩ (.int .i64 dn)).drew := ⟨_, rfl⟩
  have hT3 : Turn [g] wo w3 := by rw [hw3]; exact Turn.drew (Turn.setCell (F := [g]) (a := wo) (b := wo) (p := ⟨g, p * 3 + 2, none⟩) (Turn.refl _ _) (by simp) _)
  have hwb3 := hwb.turn hT3 (by simp; omega)
  have hbr3 := (HBR2.out.under hbo).turn hT3 (by simp; omega)
  have hB3 : Below w.heap.size w w3 := (bthen HB2.out hbo).trans (hT3.below (fun k hk => by simp at hk; have := HB2.out.size; omega) (bthen HB2.out hbo).size)
  have HPL2 := HPL
  have hod : ∃ F', oDisk w3 [.slice (some ⟨g, 0, none⟩) m.fInodes.length e0, .slice (some ⟨b1, o1, none⟩) m.fNames.length e1, .slice d2 m.fSafe.length e2, .int .i64 m.fNext] (syncP m s) F' /\ F'.Nodup /\ ∀ b, b ∈ F' -> b ∈ G0 ++ G1 ++ G2 := by
   have hfr : ∀ b, b ∈ G0 ++ G1 ++ G2 -> b < w1.heap.size := fun b hb => HLT.out b (by simpa using hb)
   have q0 := ownS.frame (w' := wo) oInode_good HO0.out (fun b hb => hbo.block b (hfr b (by simp [hb])))
   have q1 := ownS.frame (w' := wo) oEntry_good HO1.out (fun b hb => hbo.block b (hfr b (by simp [hb])))
   have q2 := ownS.frame (w' := wo) oEntry_good HO2.out (fun b hb => hbo.block b (hfr b (by simp [hb])))
   have hsf : ∀ n : MInode, n.fData.length = dn -> (sureI n).fSure = (dn : Int) := fun n h => by unfold sureI; simp [h]
   obtain ⟨F', o1, o2, o3, _⟩ := oDisk_inode q0 q1 q2 hnx HN.out HPL.out (i := 2) (by omega) (.int .i64 dn) sureI [] (fun b hb => by cases hb) (fun cs Fk h hN => by
    obtain ⟨v, F, rfl, q1, q2, q3, rfl⟩ := h
    refine ⟨F ++ [], ⟨v, F, ?_, q1, q2, ?_, rfl⟩, hN, fun b hb => .inl hb⟩
    ·rw [hsf _ HDN.out]
     rfl
    ·rw [hsf _ HDN.out]
     exact WalkArith.wf_i64 (by omega))
   refine ⟨F', ?_, o2, fun b hb => ?_⟩
   ·rw [HV.out, hw3]
    exact o1
   ·rcases o3 b hb with h | h
    ·exact h
    ·cases h
  obtain ⟨F3x, hO3, hN3, hS3⟩ := hod
  have hG3 : ∀ b, b ∈ F3x -> w.heap.size + 2 <= b := fun b hb => by have := HGE.out b (by simpa using hS3 b hb); have := hbW.size; omega
  rw [<- hw3]
  clear hw3 hZ x0 k1o k2o r2o
  have zo0 := hwb3.cell 0 _ rfl
  have ze0 := hbr3.cell 0 _ rfl
  have zf0 := hbr3.free 0
  have zo1 := hwb3.cell 1 _ rfl
  have ze1 := hbr3.cell 1 _ rfl
  have zf1 := hbr3.free 1
  have zo2 := hwb3.cell 2 _ rfl
  have ze2 := hbr3.cell 2 _ rfl
  have zf2 := hbr3.free 2
  have zo3 := hwb3.cell 3 _ rfl
  have ze3 := hbr3.cell 3 _ rfl
  have zf3 := hbr3.free 3
  have hTf := turn4 w3 (w.heap.size + 1) (.slice (some ⟨g, 0, none⟩) m.fInodes.length e0) (.slice (some ⟨b1, o1, none⟩) m.fNames.length e1) (.slice d2 m.fSafe.length e2) (.int .i64 m.fNext)
  have HTf := Hm hTf
  have HBf := Hm hB3
  clear hTf
  go_wp2_with fail
  refine bodyPost_ret (v := .tuple #[.agg #[.slice (some ⟨g, 0, none⟩) m.fInodes.length e0, .slice (some ⟨b1, o1, none⟩) m.fNames.length e1, .slice d2 m.fSafe.length e2, .int .i64 m.fNext], .int .i64 0]) (by simp [results, Tryz.results38, go_sem, *]) rfl ⟨[.slice (some ⟨g, 0, none⟩) m.fInodes.length e0, .slice (some ⟨b1, o1, none⟩) m.fNames.length e1, .slice d2 m.fSafe.length e2, .int .i64 m.fNext], by rw [HCz.out], ?_, ?_⟩
  ·exact ⟨_, oDisk_good.frame (hO3) (fun b hb => HTf.out.block b (oDisk_good.lt (hO3) b hb) (by intro h; simp at h; have := hG3 b hb; omega)), fun b hb => by first | (have := hG3 b hb; omega) | (have := hge b hb; omega) | (rcases hF4 b hb with h2 | h2; (have := HSUB.out b h2; omega); omega)⟩
  ·exact HBf.out.trans (HTf.out.below (fun k hk => by simp at hk; omega) HBf.out.size)
 ·have HV : Hid (syncP m s = m) := by show _ = _; unfold syncP; rw [if_neg hC]
  have hcn : (callP m s == 0) = false := beq_eq_false_iff_ne.2 hC
  obtain ⟨cp, hcp⟩ : ∃ cp, callP m s = cp := ⟨_, rfl⟩
  rw [hcp] at hcn ⊢
  have HCP := Hm hcp
  clear hcp hC
  have hb2 := bthen hba1 hx2
  have hbr2 := (hbr1.under hba).under hx2
  obtain ⟨zo0, zo1, zo2, zo3⟩ := hwb.c4
  obtain ⟨ze0, zf0, ze1, zf1, ze2, zf2, ze3, zf3⟩ := hbr2.c8
  have hlt0 := hbr2.lt
  have hO3 : oDisk w2 [.slice d0 m.fInodes.length e0, .slice d1 m.fNames.length e1, .slice d2 m.fSafe.length e2, .int .i64 m.fNext] (syncP m s) (G0 ++ G1 ++ G2 ++ []) := by rw [HV.out]; exact oDisk_good.frame HO.out (fun b hb => hb12.block b (HLT.out b hb))
  have hG3 : ∀ b, b ∈ G0 ++ G1 ++ G2 ++ [] -> w.heap.size + 2 <= b := fun b hb => by have := HGE.out b hb; omega
  have HBf := Hm hb2
  have HO3 := Hm hO3
  clear hO3
  go_wp2_with fail
  refine bodyPost_ret (v := .tuple #[.agg #[.slice d0 m.fInodes.length e0, .slice d1 m.fNames.length e1, .slice d2 m.fSafe.length e2, .int .i64 m.fNext], .int .i64 cp]) (by simp [results, Tryz.results38, go_sem, *]) rfl ⟨[.slice d0 m.fInodes.length e0, .slice d1 m.fNames.length e1, .slice d2 m.fSafe.length e2, .int .i64 m.fNext], by first | rfl | rw [HCP.out], ?_, ?_⟩
  ·exact ⟨_, oDisk_good.frame HO3.out (fun b hb => (show Turn [w.heap.size + 1] w2 _ from by repeat (first | with_reducible exact Turn.refl _ _ | with_reducible refine Turn.setCell ?_ (by simp) _ | with_reducible refine Turn.alloc ?_ _ | with_reducible refine Turn.drew ?_)).block b (oDisk_good.lt HO3.out b hb) (by intro h; simp at h; have := hG3 b hb; omega)), fun b hb => by first | (have := hG3 b hb; omega) | (have := hge b hb; omega) | (rcases hF4 b hb with h2 | h2; (have := HSUB.out b h2; omega); omega)⟩
  ·exact HBf.out.trans ((show Turn [w.heap.size + 1] w2 _ from by repeat (first | with_reducible exact Turn.refl _ _ | with_reducible refine Turn.setCell ?_ (by simp) _ | with_reducible refine Turn.alloc ?_ _ | with_reducible refine Turn.drew ?_)).below (fun k hk => by simp at hk; omega) HBf.out.size)
theorem specSync_c (cs : List Value) (m : MDisk) (s : ByteArray) (w : World) (hr : rDisk w.heap.size w cs m) (hs : s.size <= 9223372036854775807) (hw : wDisk m <= 1048576) (hw1 : s.size <= 1048576) :
  Calls Tryz.prog 38 #[.agg cs.toArray, .string s] w fun e w' => ∃ cs' : List Value, e = .returned (.tuple #[.agg cs'.toArray, .int .i64 (callP m s)]) /\ rDisk w'.heap.size w' cs' (syncP m s) /\ Below w.heap.size w w' :=
 (specSync_o cs m s w hr hs hw hw1).mono fun e w' ⟨cs', he, ⟨F, ho, _⟩, hx⟩ => ⟨cs', he, oDisk_good.read ho, hx⟩
end Go.Proofs.YtegonncmopecnaaGreatDoor
