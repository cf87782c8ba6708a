/-
  Part 21 of the texts that the proof leans on.
-/
import Derived.Test.YtomlpobbhioflaaGreatDoorStn3
import Derived.Test.YtomlpobbhioflaaGreatDoorStn4
import Derived.Test.YtomlpobbhioflaaGreatDoorStn19
import Derived.Test.YtomlpobbhioflaaGreatDoorStn14
import Derived.Test.YtomlpobbhioflaaGreatDoorStn13
import Derived.Test.YtomlpobbhioflaaGreatDoorStn10
import Derived.Test.YtomlpobbhioflaaGreatDoorStn2
import Derived.Test.YtomlpobbhioflaaGreatDoorStn1
import Derived.Test.YtomlpobbhioflaaGreatDoorStn0
import Derived.Test.YtomlpobbhioflaaGreatDoorStn5
set_option linter.unusedVariables false
set_option linter.unusedSimpArgs false
set_option maxRecDepth 10000

namespace Go.Proofs.YtomlpobbhioflaaGreatDoor
open Go.RowKit
theorem log_name : (⟨#[108, 111, 103, 45]⟩ : ByteArray) ++ strB (decD 1) = logB := by
 have h : (⟨#[108, 111, 103, 45]⟩ : ByteArray) = strB [108, 111, 103, 45] := rfl
 rw [h, strB_app]
 rfl
theorem man1_read (B : Nat) (w : World) : rManifest B w [.int .i64 2, .int .i64 1, .slice none 0 0] man1 :=
 ⟨none, 0, rfl, rfl, rfl, ⟨Nat.le_refl _, by omega, fun j hj => by cases hj⟩, trivial⟩
set_option maxHeartbeats 400000 in
theorem l7Log_any (w : World) :
  Calls Tryz.prog 11 #[.int .i64 1] w fun e w' => e = .returned (.string logB) ∧ Below w.heap.size w w' := by
 have hsz : (strB (decD 1)).size = 1 := by rw [strB_size, show decD 1 = [49] from decD_small (by omega) (by omega)]; rfl
 have HL := Hid.mk log_name
 have HC := Hid.mk (l6Text_any 2 1 w (by omega) (by decide) (by omega))
 generalize strB (decD 1) = s at HC HL hsz
 have hz : ¬ 9223372036854775807 < 4 + s.size := by omega
 go_enter Tryz.func11, Tryz.ntmps11
 go_wp2_with fail
 refine HC.out.mono ?_
 rintro e w1 ⟨rfl, hx⟩
 go_wp2_with fail
 go_ret
 exact ⟨by rw [← HL.out]; rfl, hx⟩
set_option maxHeartbeats 4000000 in
theorem specStoreNew_c (w : World) :
  Calls Tryz.prog 4 #[] w fun e w' => ∃ cs : List Value, e = .returned (.agg (stoC cs).toArray) ∧ rDisk w'.heap.size w' cs stoD ∧ Below w.heap.size w w' := by
 go_enter Tryz.func4, Tryz.ntmps4
 go_wp2_with fail
 obtain ⟨wq, hwq⟩ : ∃ wq, wq = w.alloc (.cells #[.slice none 0 0, .slice none 0 0, .slice none 0 0, .int .i64 0, .slice none 0 0, .int .i64 0, .int .i64 0, .slice none 0 0] 33) := ⟨_, rfl⟩
 have hbq : Below w.heap.size w wq := by rw [hwq]; exact (Below.refl _ _).alloc (Nat.le_refl _) _
 have hbs : Bw wq w.heap.size 33 stoZ := by rw [hwq]; exact Bw.new _ _ _
 rw [← hwq]
 clear hwq
 refine (specDiskNew_c wq).mono ?_
 rintro e w1 ⟨cs1, rfl, hr1, hx1⟩
 go_wp2_with fail
 refine (l7Log_any w1).mono ?_
 rintro e w2 ⟨rfl, hx2⟩
 replace hr1 := rDisk_good.mono (rDisk_good.below hr1 hx2) hx2.size
 go_wp2_with fail
 refine (specCreate_c cs1 newDisk logB w2 hr1 (by have := logB_size; omega) new_small logB_size).mono ?_
 rintro e w3 ⟨cs3, rfl, hr3, hx3⟩
 have hb3 : Below w.heap.size w w3 := bthen (bthen (bthen hbq hx1) hx2) hx3
 replace hbs := ((hbs.under hx1).under hx2).under hx3
 replace hr3 : rDisk w3.heap.size w3 cs3 logD := hr3
 have HR3 := Hid.mk hr3
 obtain ⟨a0, c0, a1, c1, a2, c2, rfl, _⟩ := hr3
 clear hr1 hx1 hx2 hx3 hbq
 generalize createC newDisk logB = cc
 generalize logD.fInodes.length = n0 at *
 generalize logD.fNames.length = n1 at *
 generalize logD.fSafe.length = n2 at *
 generalize logD.fNext = nx at *
 go_wp2_with fail
 obtain ⟨wa, hwa⟩ : ∃ x, x = (w3.alloc (.cells #[.slice a0 n0 c0, .slice a1 n1 c1, .slice a2 n2 c2, .int .i64 nx] 25)).alloc (.cells #[.int .i64 2, .int .i64 1, .slice none 0 0] 31) := ⟨_, rfl⟩
 have hxa : Below w3.heap.size w3 wa := by rw [hwa]; exact ((Below.refl _ _).alloc (Nat.le_refl _) _).alloc (by simp) _
 have hbd : Bw wa w3.heap.size 25 [.slice a0 n0 c0, .slice a1 n1 c1, .slice a2 n2 c2, .int .i64 nx] := by rw [hwa]; exact (Bw.new _ _ _).alloc _
 have hbm : Bw wa (w3.heap.size + 1) 31 [.int .i64 2, .int .i64 1, .slice none 0 0] := by rw [hwa]; exact Bw.new' _ _ _ (by simp)
 rw [← hwa]
 clear hwa
 have hlt : w.heap.size < w3.heap.size := hbs.lt
 replace HR3 := Hid.mk (rDisk_good.mono (rDisk_good.below HR3.out hxa) hxa.size)
 replace hbs := hbs.under hxa
 replace hb3 := bthen hb3 hxa
 obtain ⟨g, hg⟩ : ∃ g, g = w3.heap.size := ⟨_, rfl⟩
 rw [← hg] at hbd hbm hlt ⊢
 clear hxa hg
 obtain ⟨y0, y1, y2, y3⟩ := hbd.c4
 have z0 := hbm.cell 0 _ rfl
 have z1 := hbm.cell 1 _ rfl
 have z2 := hbm.cell 2 _ rfl
 have l0 := hbd.lt
 have l1 := hbm.lt
 go_wp2_with fail
 refine (specInstall_c _ logD _ man1 wa HR3.out (man1_read _ _) log_small man1_small).mono ?_
 rintro e w5 ⟨cs5, rfl, hr5, hx5⟩
 replace hr5 : rDisk w5.heap.size w5 cs5 stoD := hr5
 have HR5 := Hid.mk hr5
 have hb5 := bthen hb3 hx5
 replace hbs := hbs.under hx5
 replace hbm := hbm.under hx5
 replace hbd := hbd.under hx5
 have HDB : Hid (DBox w5 g) := hbd.dbox (B := wa.heap.size) (W := wa) HR3.out
 obtain ⟨b0, d0, b1, d1, b2, d2, rfl, _⟩ := hr5
 generalize instC logD man1 = ic
 generalize stoD.fInodes.length = k0 at *
 generalize stoD.fNames.length = k1 at *
 generalize stoD.fSafe.length = k2 at *
 generalize stoD.fNext = kx at *
 clear y0 y1 y2 y3 z0 z1 z2 l0 l1 HR3 hx5 hb3
 obtain ⟨y0, y1, y2, y3⟩ := hbd.c4
 obtain ⟨u0, u1, u2, u3⟩ := hbd.f4
 have l0 := hbd.lt
 obtain ⟨w6, hw6⟩ : ∃ x, x = (((w5.setCell ⟨g, 0, none⟩ (.slice b0 k0 d0)).setCell ⟨g, 1, none⟩ (.slice b1 k1 d1)).setCell ⟨g, 2, none⟩ (.slice b2 k2 d2)).setCell ⟨g, 3, none⟩ (.int .i64 kx) := ⟨_, rfl⟩
 have hT6 : Turn [g] w5 w6 := by rw [hw6]; exact turn4 _ _ _ _ _ _
 have hbd6 : Bw w6 g 25 [.slice b0 k0 d0, .slice b1 k1 d1, .slice b2 k2 d2, .int .i64 kx] := by rw [hw6]; exact (((hbd.put 0 _).put 1 _).put 2 _).put 3 _
 have hs6 : w6.heap.size = w5.heap.size := by rw [hw6]; simp
 have HR6 : Hid (rDisk w6.heap.size w6 [.slice b0 k0 d0, .slice b1 k1 d1, .slice b2 k2 d2, .int .i64 kx] stoD) := by unfold Hid; rw [hs6]; exact rDisk_turn HDB.out hT6 HR5.out
 have hbs6 := hbs.turn hT6 (by simp; omega)
 have hbm6 := hbm.turn hT6 (by simp)
 have hb6 : Below w.heap.size w w6 := hb5.trans (hT6.below (fun k hk => by simp at hk; omega) hb5.size)
 have HW6 := Hid.mk hw6
 clear hw6 hs6 hT6
 obtain ⟨p0, p1, p2, p3⟩ := hbd6.c4
 have q0 := hbm6.cell 0 _ rfl
 have q1 := hbm6.cell 1 _ rfl
 have q2 := hbm6.cell 2 _ rfl
 have r0 := hbs6.cell 0 _ rfl
 have r1 := hbs6.cell 1 _ rfl
 have r2 := hbs6.cell 2 _ rfl
 have r3 := hbs6.cell 3 _ rfl
 have r4 := hbs6.cell 4 _ rfl
 have r5 := hbs6.cell 5 _ rfl
 have r6 := hbs6.cell 6 _ rfl
 have r7 := hbs6.cell 7 _ rfl
 obtain ⟨e0, e1, e2, e3⟩ := hbs6.f4
 have e4 := hbs6.free 4
 have e5 := hbs6.free 5
 have e6 := hbs6.free 6
 have e7 := hbs6.free 7
 have l6 := hbs6.lt
 rw [HW6.out] at p0 p1 p2 p3 q0 q1 q2 r0 r1 r2 r3 r4 r5 r6 r7 e0 e1 e2 e3 e4 e5 e6 e7
 have HP := Hid.mk (fun W (hT : Turn [w.heap.size] w6 W) => (show rDisk W.heap.size W _ stoD ∧ Below w.heap.size w W from ⟨rDisk_good.mono (rDisk_turnS ⟨_, hbs6⟩ hT sto_ids HR6.out) hT.size, hb6.trans (hT.below (fun k hk => by simp at hk; omega) hb6.size)⟩))
 rw [HW6.out] at HP
 clear hbs hbm hbd hbs6 hbm6 hbd6 hb5 hb6 HR5 HR6 HDB HW6
 go_wp2_with fail
 refine bodyPost_ret (v := .agg #[.slice b0 k0 d0, .slice b1 k1 d1, .slice b2 k2 d2, .int .i64 kx, .slice none 0 0, .int .i64 2, .int .i64 1, .slice none 0 0]) (by simp [results, Tryz.results4, go_sem, *]) rfl ⟨[.slice b0 k0 d0, .slice b1 k1 d1, .slice b2 k2 d2, .int .i64 kx], rfl, HP.out _ ?_⟩
 repeat (first | with_reducible exact Turn.refl _ _ | with_reducible refine Turn.setCell ?_ (by simp) _)
end Go.Proofs.YtomlpobbhioflaaGreatDoor

namespace Go.Proofs.YtomlpobbhioflaaGreatDoor
open Go.RowKit Go.Maps
set_option maxHeartbeats 4000000 in
theorem implAppend_b (cs : List Value) (m : MDisk) (s : ByteArray) (vb : Value) (zb : List Int) (w : World) (hr : rDisk w.heap.size w cs m) (hs : s.size ≤ 9223372036854775807) (hrb : rdB w.heap.size w vb zb) (hw : wDisk m ≤ 1048576) (hw1 : s.size ≤ 1048576) (hwb : zb.length ≤ 2097152) :
  Calls Tryz.prog 81 #[.agg cs.toArray, .string s, vb] w fun e w' => ∃ (cs' : List Value) (F : List Nat), e = .returned (.tuple #[.agg cs'.toArray, .int .i64 (appendC m s zb)]) ∧ oDisk w' cs' (appendP m s zb) F ∧ F.Nodup ∧ (∀ b, b ∈ F → w.heap.size ≤ b) ∧ Below w.heap.size w w' := by
 obtain ⟨ab, cb, rfl, hlb⟩ := hrb
 have HLB := Hid.mk hlb
 clear hlb
 have hq := hr
 obtain ⟨a0, c0, a1, c1, a2, c2, rfl, hI, hNm, hSf, hnx, _⟩ := hq
 have hw2 : m.fInodes.length + sumW wInode m.fInodes + (m.fNames.length + sumW wEntry m.fNames) + (m.fSafe.length + sumW wEntry m.fSafe) ≤ 1048576 := hw
 have HW := Hid.mk hw
 have HR := Hid.mk hr
 clear hr hI hNm hSf hw
 go_enter Tryz.func81, Tryz.ntmps81
 go_wp2_with fail
 obtain ⟨wq, hwq⟩ : ∃ wq, wq = ((w.alloc (.cells #[.slice a0 m.fInodes.length c0, .slice a1 m.fNames.length c1, .slice a2 m.fSafe.length c2, .int .i64 m.fNext] 25)).alloc (.cells #[.slice none 0 0, .slice none 0 0, .slice none 0 0, .int .i64 0] 25)) := ⟨_, rfl⟩
 have hbW : Below w.heap.size w wq := by rw [hwq]; exact Below.alloc (Below.alloc (Below.refl _ _) (by exact Nat.le_refl _) _) (by simp; try omega) _
 have hbd : Bw wq (w.heap.size) 25 [.slice a0 m.fInodes.length c0, .slice a1 m.fNames.length c1, .slice a2 m.fSafe.length c2, .int .i64 m.fNext] := by rw [hwq]; exact Bw.alloc (Bw.new' _ _ _ (by simp)) _
 have hbr : Bw wq (w.heap.size + 1) 25 [.slice none 0 0, .slice none 0 0, .slice none 0 0, .int .i64 0] := by rw [hwq]; exact Bw.new' _ _ _ (by simp)
 rw [← hwq]
 clear hwq
 refine (findFile_any _ m s wq (rDisk_good.mono (rDisk_good.below HR.out hbW) hbW.size) HW.out hs).mono ?_
 rintro e w1 ⟨p, rfl, hp, hx1⟩
 have HP := Hid.mk hp
 clear hp
 have hb1 := bthen hbW hx1
 have hbd1 := hbd.under hx1
 have hbr1 := hbr.under hx1
 have hl1 := hbr1.lt
 have hl1d := hbd1.lt
 have hzW := hb1.size
 obtain ⟨y0, y1, y2, y3⟩ := hbd1.c4
 clear hbd hbr
 by_cases hC : callP m s = 0
 ·obtain ⟨hpl, hpi⟩ := HP.out hC
  have HPF := Hid.mk (file_only hC hpl hpi)
  have hwt := ok_weight (call_good hC).1
  obtain ⟨n, hn⟩ : ∃ n, n = appendD m s zb := ⟨_, rfl⟩
  have hnl : n.fInodes.length = m.fInodes.length := by rw [hn]; exact updI_length
  have hwn : wDisk n ≤ 16777216 := by
   rw [hn]
   unfold appendD
   rw [wDisk_eq]
   have h1 := sumW_updI (l := m.fInodes) (k := fileAt m s) (f := longI zb) (c := zb.length) (fun x => by unfold longI wInode; simp)
   have h2 := updI_length (l := m.fInodes) (k := fileAt m s) (f := longI zb)
   simp only [h2]
   omega
  have HV : Hid (appendP m s zb = fullD m n ∧ appendC m s zb = fullC n) := by
   refine ⟨?_, ?_⟩
   ·unfold appendP fullD; rw [hn, hC]; simp
   ·unfold appendC fullC; rw [hn, hC]; simp
  have HNX : Hid (n = { m with fInodes := updI m.fInodes p (longI zb) } ∧ n.fNames = m.fNames ∧ n.fSafe = m.fSafe ∧ n.fNext = m.fNext) := by rw [hn]; refine ⟨?_, rfl, rfl, rfl⟩; unfold appendD; rw [HPF.out]
  have HNL := Hid.mk hnl
  have HWN := Hid.mk hwn
  clear hn hnl hwn hpi HPF hwt
  rw [hC]
  go_wp2_with fail
  refine (copyDisk_any _ m w1 (rDisk_good.mono (rDisk_good.below HR.out hb1) hb1.size) HW.out).mono ?_
  rintro e w2 ⟨cs2, F2, rfl, ho2, hN2, hge2, hx2⟩
  obtain ⟨d0, e0, d1, e1, d2, e2, G0, G1, G2, rfl, o0, o1, o2, _, rfl⟩ := oDisk_cells ho2
  have HO0 := Hid.mk o0
  have HO1 := Hid.mk o1
  have HO2 := Hid.mk o2
  have HO := Hid.mk ho2
  have HN := Hid.mk hN2
  have HGE : Hid (∀ b, b ∈ G0 ++ G1 ++ G2 ++ [] → w1.heap.size ≤ b) := hge2
  have HLT : Hid (∀ b, b ∈ G0 ++ G1 ++ G2 ++ [] → b < w2.heap.size) := fun b hb => oDisk_good.lt ho2 b hb
  clear ho2 hN2 hge2 o0 o1 o2
  have hb2 := bthen hb1 hx2
  have hbr2 := hbr1.under hx2
  have hbd2 := hbd1.under hx2
  have hz2 := hx2.size
  obtain ⟨g, cap, hv, hgG, hgl⟩ := ownS.shape HO0.out (by omega)
  simp only [Value.slice.injEq, true_and] at hv
  obtain ⟨rfl, rfl⟩ := hv
  have hNN := HN.out
  rw [List.append_nil, List.append_assoc, List.nodup_append] at hNN
  obtain ⟨cs3, Fk, o3, n3, f3, _, c3, z3, hput⟩ := ownS.split oInode_good HO0.out hNN.1 hpl
  have HNN := Hid.mk hNN
  have HPUT := Hid.mk hput
  have HFK := Hid.mk f3
  have HNK := Hid.mk n3
  obtain ⟨v3, F3, hc3, i3, b3, s3, hF3⟩ := o3
  subst hc3
  obtain ⟨a3, l3, rfl, hlb3⟩ := b3.read
  have k1 := c3 1 _ rfl
  have r1 := z3 (p * 3 + 1)
  have hge1 := HGE.out g (by simp [hgG])
  have hdl : m.fInodes[p].fData.length ≤ 1048576 := by have h1 := sumW_le (f := wInode) hpl; have h2 : wInode m.fInodes[p] = m.fInodes[p].fData.length := rfl; omega
  have hpn : (0 : Int) ≤ (p : Int) := by omega
  have hpn2 : (p : Int) < (m.fInodes.length : Int) := by omega
  obtain ⟨nd, hnd⟩ : ∃ nd, nd = m.fInodes[p] := ⟨_, rfl⟩
  have HND := Hid.mk hnd
  rw [← hnd] at k1 hdl b3 i3 s3 hlb3 HPUT
  have HB3 := Hid.mk b3
  have HLB3 := Hid.mk hlb3
  have HI3 := Hid.mk i3
  have HS3 := Hid.mk s3
  clear c3 z3 hNN hput f3 n3 b3 hlb3 i3 s3 hnd
  have HPL := Hid.mk hpl
  clear y0 y1 y2 y3
  go_wp2_with fail
  obtain ⟨wo, hwo⟩ : ∃ wo, wo = w2.alloc (.cells #[.slice (some ⟨g, 0, none⟩) m.fInodes.length e0, .slice d1 m.fNames.length e1, .slice d2 m.fSafe.length e2, .int .i64 m.fNext] 25) := ⟨_, rfl⟩
  have hbo : Below w2.heap.size w2 wo := by rw [hwo]; exact (Below.refl _ _).alloc (Nat.le_refl _) _
  have hwb : Bw wo w2.heap.size 25 [.slice (some ⟨g, 0, none⟩) m.fInodes.length e0, .slice d1 m.fNames.length e1, .slice d2 m.fSafe.length e2, .int .i64 m.fNext] := by rw [hwo]; exact Bw.new _ _ _
  rw [← hwo]
  clear hwo
  have hbo1 := bthen hb2 hbo
  have hlD : LeafB wo.heap.size wo a3 l3 nd.fData := LeafB.mono (LeafB.below HLB3.out hbo) hbo.size
  have hlB : LeafB wo.heap.size wo ab cb zb := LeafB.mono (HLB.out.below hbo1) hbo1.size
  refine (joinBytes_any a3 ab l3 cb nd.fData zb wo hlD hlB (by omega) (by omega)).mono ?_
  rintro e w3 ⟨vj, Fj, rfl, hoj, hNj, hgej, hx3⟩
  obtain ⟨rj, qj, rfl, _⟩ := hoj.read
  obtain ⟨tl, htl⟩ : ∃ tl, (nd.fData ++ zb).length = tl := ⟨_, rfl⟩
  rw [htl] at hoj ⊢
  clear htl
  have hbo3 := bthen hbo hx3
  have hb3 := bthen hbo1 hx3
  have hwb3 := hwb.under hx3
  have hbd3 := hbd2.under hbo3
  have hbr3 := hbr2.under hbo3
  have k1o := (hbo3.cell (p := ⟨g, p * 3 + 1, none⟩) hgl).trans k1
  have r1o := (hbo3.frozen (p := ⟨g, p * 3 + 1, none⟩) hgl).trans r1
  have hl3 := hwb3.lt
  have hl3d := hbd3.lt
  have hl3g : g < w3.heap.size := Nat.lt_of_lt_of_le hgl hbo3.size
  have hgne : g ≠ w2.heap.size := by omega
  have hgne2 : g ≠ w.heap.size := by omega
  obtain ⟨y0, y1, y2, y3⟩ := hbd3.c4
  obtain ⟨x0, x1, x2, x3⟩ := hwb3.c4
  have HOJ := Hid.mk hoj
  have HNJ := Hid.mk hNj
  have HGJ : Hid (∀ b, b ∈ Fj → w2.heap.size ≤ b) := fun b hb => Nat.le_trans hbo.size (hgej b hb)
  clear hoj hNj hgej k1 r1 hlD hlB
  go_wp2_with fail
  obtain ⟨ws, hws⟩ : ∃ ws, ws = w3.setCell ⟨g, p * 3 + 1, none⟩ (.slice rj tl qj) := ⟨_, rfl⟩
  have hTs : Turn [g] w3 ws := by rw [hws]; exact Turn.setCell (Turn.refl _ _) (by simp) _
  have hod : ∃ F', oDisk ws [.slice (some ⟨g, 0, none⟩) m.fInodes.length e0, .slice d1 m.fNames.length e1, .slice d2 m.fSafe.length e2, .int .i64 m.fNext] n F' ∧ F'.Nodup ∧ ∀ b, b ∈ F' → w1.heap.size ≤ b := by
   obtain ⟨F', p1, p2, p3⟩ := HPUT.out w3 1 (.slice rj tl qj) (longI zb nd) (Fj ++ []) Fj (by omega) (Turn.ofBelow hbo3) ⟨_, Fj, rfl, HI3.out, HOJ.out, HS3.out, rfl⟩ (by rw [List.append_nil]; exact HNJ.out) (fun b hb => .inr (by simpa using hb)) (fun b hb hb0 => by have := HGJ.out b hb; have := HLT.out b (by simp [hb0]); omega)
   have hfr : ∀ b, b ∈ G1 ++ G2 → ws.heap[b]? = w2.heap[b]? := fun b hb => by
    have hb' : b ∈ G0 ++ G1 ++ G2 ++ [] := by simp at hb ⊢; exact .inr hb
    rw [hTs.block b (by have := HLT.out b hb'; have := hbo3.size; omega) (by intro h; simp at h; exact HNN.out.2.2 g hgG b hb h.symm), hbo3.block b (HLT.out b hb')]
   have t1 := ownS.frame (w' := ws) oEntry_good HO1.out (fun b hb => hfr b (by simp [hb]))
   have t2 := ownS.frame (w' := ws) oEntry_good HO2.out (fun b hb => hfr b (by simp [hb]))
   rw [← hws, HND.out] at p1
   refine ⟨F' ++ G1 ++ G2 ++ [], ?_, ?_, ?_⟩
   ·rw [HNX.out.1]
    exact oDisk_put HPL.out p1 t1 t2 hnx
   ·rw [List.append_nil, List.append_assoc, List.nodup_append]
    refine ⟨p2, HNN.out.2.1, fun a ha b hb hab => ?_⟩
    subst hab
    rcases p3 a ha with h | h
    ·exact HNN.out.2.2 a h a hb rfl
    ·have := HGJ.out a h; have := HLT.out a (by simp at hb ⊢; exact .inr hb); omega
   ·intro b hb
    simp at hb
    rcases hb with hb | hb
    ·rcases p3 b hb with h | h
     ·exact HGE.out b (by simp [h])
     ·have := HGJ.out b h; omega
    ·exact HGE.out b (by simp; exact .inr hb)
  obtain ⟨Fs9, hoS, hNS, hgS⟩ := hod
  have hbds := hbd3.turn hTs (by simp; omega)
  have hbrs := hbr3.turn hTs (by simp; omega)
  have hBs : Below w.heap.size w ws := hb3.trans (hTs.below (fun k hk => by simp at hk; omega) hb3.size)
  rw [← hws]
  clear hws hTs k1o r1o y0 y1 y2 y3 x0 x1 x2 x3
  have hcon := orFull_any _ (some ⟨g, 0, none⟩) d1 d2 e0 e1 e2 m n Fs9 ws (rDisk_good.mono (rDisk_good.below HR.out hBs) hBs.size) HW.out (by rw [HNL.out, HNX.out.2.1, HNX.out.2.2.1, HNX.out.2.2.2]; exact hoS) hNS HWN.out
  rw [HNL.out, HNX.out.2.1, HNX.out.2.2.1, HNX.out.2.2.2] at hcon
  refine hcon.mono ?_
  clear hcon
  rintro e w4 ⟨cs4, F4, rfl, ho4, hN4, hF4, hx4⟩
  have hb4 := bthen hBs hx4
  have hbr4 := hbrs.under hx4
  have hl4 := hbr4.lt
  have hlE := hbrs.lt
  obtain ⟨q0, p0, q1, p1, q2, p2, E0, E1, E2, rfl, _, _, _, _, rfl⟩ := oDisk_cells ho4
  have HGQ : Hid (∀ b, b ∈ E0 ++ E1 ++ E2 ++ [] → w.heap.size + 2 ≤ b) := fun b hb => by rcases hF4 b hb with h | h; (have := hgS b h; omega); (have := hBs.size; omega)
  have hkey : ∀ W', Turn [w.heap.size + 1] w4 W' → oDisk W' [.slice q0 (fullD m n).fInodes.length p0, .slice q1 (fullD m n).fNames.length p1, .slice q2 (fullD m n).fSafe.length p2, .int .i64 (fullD m n).fNext] (fullD m n) (E0 ++ E1 ++ E2 ++ []) ∧ Below w.heap.size w W' := fun W' hT =>
   ⟨oDisk_good.frame ho4 (fun b hb => hT.block b (oDisk_good.lt ho4 b hb) (fun h => by simp at h; have := HGQ.out b hb; omega)), hb4.trans (hT.below (fun k hk => by simp at hk; omega) hb4.size)⟩
  have HKEY := Hid.mk hkey
  have HNQ := Hid.mk hN4
  clear hkey ho4 hN4 hF4
  obtain ⟨ze0, ze1, ze2, ze3⟩ := hbr4.c4
  obtain ⟨zf0, zf1, zf2, zf3⟩ := hbr4.f4
  go_wp2_with fail
  obtain ⟨h1, h3⟩ := HKEY.out _ (show Turn [w.heap.size + 1] w4 ((((w4.setCell ⟨w.heap.size + 1, 0, none⟩ (.slice q0 (fullD m n).fInodes.length p0)).setCell ⟨w.heap.size + 1, 1, none⟩ (.slice q1 (fullD m n).fNames.length p1)).setCell ⟨w.heap.size + 1, 2, none⟩ (.slice q2 (fullD m n).fSafe.length p2)).setCell ⟨w.heap.size + 1, 3, none⟩ (.int .i64 (fullD m n).fNext)) from turn4 _ _ _ _ _ _)
  exact bodyPost_ret (v := .tuple #[.agg #[.slice q0 (fullD m n).fInodes.length p0, .slice q1 (fullD m n).fNames.length p1, .slice q2 (fullD m n).fSafe.length p2, .int .i64 (fullD m n).fNext], .int .i64 (fullC n)]) (by simp [results, Tryz.results81, go_sem, *]) rfl ⟨[.slice q0 (fullD m n).fInodes.length p0, .slice q1 (fullD m n).fNames.length p1, .slice q2 (fullD m n).fSafe.length p2, .int .i64 (fullD m n).fNext], _, by rw [HV.out.2], by rw [HV.out.1]; exact h1, HNQ.out, fun b hb => by have := HGQ.out b hb; omega, h3⟩
 ·have HV : Hid (appendP m s zb = m ∧ appendC m s zb = callP m s) := by refine ⟨?_, ?_⟩ <;> simp [appendP, appendC, hC]
  have hcn : (callP m s == 0) = false := beq_eq_false_iff_ne.2 hC
  have hcn2 : (callP m s != 0) = true := bne_iff_ne.2 hC
  obtain ⟨cp, hcp⟩ : ∃ cp, callP m s = cp := ⟨_, rfl⟩
  rw [hcp] at hcn hcn2 ⊢
  have HCP := Hid.mk hcp
  clear hcp hC HP
  go_wp2_with fail
  refine (copyDisk_any _ (m) w1 (rDisk_good.mono (rDisk_good.below HR.out hb1) hb1.size) HW.out).mono ?_
  rintro e w3 ⟨cs3, F3, rfl, ho3, hN3, hge3, hx3⟩
  have hb3 := bthen hb1 hx3
  have hbr3 := hbr1.under hx3
  have hl3 := hbr3.lt
  have hz3 := hb1.size
  have hlq3 := hbr1.lt
  obtain ⟨q0, p0, q1, p1, q2, p2, G0, G1, G2, rfl, _, _, _, _, rfl⟩ := oDisk_cells ho3
  have hkey : ∀ W', Turn [w.heap.size + 1] w3 W' → oDisk W' [.slice q0 m.fInodes.length p0, .slice q1 m.fNames.length p1, .slice q2 m.fSafe.length p2, .int .i64 m.fNext] (m) (G0 ++ G1 ++ G2 ++ []) ∧ Below w.heap.size w W' := fun W' hT =>
   ⟨oDisk_good.frame ho3 (fun b hb => hT.block b (oDisk_good.lt ho3 b hb) (fun h => by simp at h; have := hge3 b hb; omega)), hb3.trans (hT.below (fun k hk => by simp at hk; omega) hb3.size)⟩
  have HKEY := Hid.mk hkey
  have HNQ := Hid.mk hN3
  have HGQ : Hid (∀ b, b ∈ G0 ++ G1 ++ G2 ++ [] → w.heap.size ≤ b) := fun b hb => by have := hge3 b hb; omega
  clear hkey ho3 hN3 hge3 y0 y1 y2 y3
  obtain ⟨ze0, ze1, ze2, ze3⟩ := hbr3.c4
  obtain ⟨zf0, zf1, zf2, zf3⟩ := hbr3.f4
  go_wp2_with fail
  obtain ⟨h1, h3⟩ := HKEY.out _ (show Turn [w.heap.size + 1] w3 ((((w3.setCell ⟨w.heap.size + 1, 0, none⟩ (.slice q0 m.fInodes.length p0)).setCell ⟨w.heap.size + 1, 1, none⟩ (.slice q1 m.fNames.length p1)).setCell ⟨w.heap.size + 1, 2, none⟩ (.slice q2 m.fSafe.length p2)).setCell ⟨w.heap.size + 1, 3, none⟩ (.int .i64 m.fNext)) from turn4 _ _ _ _ _ _)
  exact bodyPost_ret (v := .tuple #[.agg #[.slice q0 m.fInodes.length p0, .slice q1 m.fNames.length p1, .slice q2 m.fSafe.length p2, .int .i64 m.fNext], .int .i64 cp]) (by simp [results, Tryz.results81, go_sem, *]) rfl ⟨[.slice q0 m.fInodes.length p0, .slice q1 m.fNames.length p1, .slice q2 m.fSafe.length p2, .int .i64 m.fNext], _, by rw [HV.out.2, HCP.out], by rw [HV.out.1]; exact h1, HNQ.out, HGQ.out, h3⟩
abbrev q8c8_83_4_0 : Oper := ⟨some 19, .fieldAddr 25 (.tmp 8) 0, 0, "l02_files.go:144", #[], none⟩
abbrev q8c8_83_4_1 : Oper := ⟨some 20, .load 22 (.tmp 19), 22, "l02_files.go:144", #[⟨0, .data⟩], none⟩
abbrev q8c8_83_4_2 : Oper := ⟨some 21, .move (.tmp 6), 3, "l02_files.go:144", #[], none⟩
abbrev q8c8_83_4_3 : Oper := ⟨some 22, .fieldAddr 25 (.tmp 8) 0, 0, "l02_files.go:144", #[], none⟩
abbrev q8c8_83_4_4 : Oper := ⟨some 23, .load 22 (.tmp 22), 22, "l02_files.go:144", #[⟨3, .data⟩], none⟩
abbrev q8c8_83_4_5 : Oper := ⟨some 24, .move (.tmp 6), 3, "l02_files.go:144", #[], none⟩
abbrev q8c8_83_4_6 : Oper := ⟨some 25, .indexAddr 22 (.tmp 23) (.tmp 24), 0, "l02_files.go:144", #[⟨4, .data⟩, ⟨5, .data⟩], none⟩
abbrev q8c8_83_4_7 : Oper := ⟨some 26, .fieldAddr 53 (.tmp 25) 1, 0, "l02_files.go:144", #[⟨6, .data⟩], none⟩
abbrev q8c8_83_4_8 : Oper := ⟨some 27, .load 51 (.tmp 26), 51, "l02_files.go:144", #[⟨7, .data⟩], none⟩
abbrev q8c8_83_4_9 : Oper := ⟨some 28, .call { callee := .builtin .len, args := #[.tmp 27], argTypes := #[51] }, 3, "l02_files.go:144", #[⟨8, .data⟩], none⟩
abbrev q8c8_83_4_10 : Oper := ⟨some 29, .indexAddr 22 (.tmp 20) (.tmp 21), 0, "l02_files.go:144", #[⟨1, .data⟩, ⟨2, .data⟩, ⟨0, .phase⟩, ⟨1, .phase⟩, ⟨2, .phase⟩, ⟨3, .phase⟩, ⟨4, .phase⟩, ⟨5, .phase⟩, ⟨6, .phase⟩, ⟨7, .phase⟩, ⟨8, .phase⟩, ⟨9, .phase⟩], none⟩
abbrev q8c8_83_4_11 : Oper := ⟨some 30, .fieldAddr 53 (.tmp 29) 2, 0, "l02_files.go:144", #[⟨10, .data⟩, ⟨0, .phase⟩, ⟨1, .phase⟩, ⟨2, .phase⟩, ⟨3, .phase⟩, ⟨4, .phase⟩, ⟨5, .phase⟩, ⟨6, .phase⟩, ⟨7, .phase⟩, ⟨8, .phase⟩, ⟨9, .phase⟩], none⟩
abbrev q8c8_83_4_12 : Oper := ⟨none, .store 3 (.tmp 30) (.tmp 28), 0, "l02_files.go:144", #[⟨11, .data⟩, ⟨9, .data⟩, ⟨0, .phase⟩, ⟨1, .phase⟩, ⟨2, .phase⟩, ⟨3, .phase⟩, ⟨4, .phase⟩, ⟨5, .phase⟩, ⟨6, .phase⟩, ⟨7, .phase⟩, ⟨8, .phase⟩, ⟨9, .phase⟩], none⟩
set_option maxHeartbeats 4000000 in
theorem implSync_c (cs : List Value) (m : MDisk) (s : ByteArray) (w : World) (hr : rDisk w.heap.size w cs m) (hs : s.size ≤ 9223372036854775807) (hw : wDisk m ≤ 1048576) (hw1 : s.size ≤ 1048576) :
  Calls Tryz.prog 83 #[.agg cs.toArray, .string s] w fun e w' => ∃ (cs' : List Value) (F : List Nat), e = .returned (.tuple #[.agg cs'.toArray, .int .i64 (callP m s)]) ∧ oDisk w' cs' (syncP m s) F ∧ F.Nodup ∧ (∀ b, b ∈ F → w.heap.size ≤ b) ∧ Below w.heap.size w w' := by
 have hq := hr
 obtain ⟨a0, c0, a1, c1, a2, c2, rfl, hI, hNm, hSf, hnx, _⟩ := hq
 have hw2 : m.fInodes.length + sumW wInode m.fInodes + (m.fNames.length + sumW wEntry m.fNames) + (m.fSafe.length + sumW wEntry m.fSafe) ≤ 1048576 := hw
 have HW := Hid.mk hw
 have HR := Hid.mk hr
 clear hr hI hNm hSf hw
 go_enter Tryz.func83, Tryz.ntmps83
 go_wp2_with fail
 obtain ⟨wq, hwq⟩ : ∃ wq, wq = ((w.alloc (.cells #[.slice a0 m.fInodes.length c0, .slice a1 m.fNames.length c1, .slice a2 m.fSafe.length c2, .int .i64 m.fNext] 25)).alloc (.cells #[.slice none 0 0, .slice none 0 0, .slice none 0 0, .int .i64 0] 25)) := ⟨_, rfl⟩
 have hbW : Below w.heap.size w wq := by rw [hwq]; exact Below.alloc (Below.alloc (Below.refl _ _) (by exact Nat.le_refl _) _) (by simp; try omega) _
 have hbd : Bw wq (w.heap.size) 25 [.slice a0 m.fInodes.length c0, .slice a1 m.fNames.length c1, .slice a2 m.fSafe.length c2, .int .i64 m.fNext] := by rw [hwq]; exact Bw.alloc (Bw.new' _ _ _ (by simp)) _
 have hbr : Bw wq (w.heap.size + 1) 25 [.slice none 0 0, .slice none 0 0, .slice none 0 0, .int .i64 0] := by rw [hwq]; exact Bw.new' _ _ _ (by simp)
 rw [← hwq]
 clear hwq
 refine (findFile_any _ m s wq (rDisk_good.mono (rDisk_good.below HR.out hbW) hbW.size) HW.out hs).mono ?_
 rintro e w1 ⟨p, rfl, hp, hx1⟩
 have HP := Hid.mk hp
 clear hp
 have hb1 := bthen hbW hx1
 have hbd1 := hbd.under hx1
 have hbr1 := hbr.under hx1
 obtain ⟨y0, y1, y2, y3⟩ := hbd1.c4
 clear hbd hbr
 go_wp2_with fail
 refine (copyDisk_any _ m w1 (rDisk_good.mono (rDisk_good.below HR.out hb1) hb1.size) HW.out).mono ?_
 rintro e w2 ⟨cs2, F2, rfl, ho2, hN2, hge2, hx2⟩
 obtain ⟨d0, e0, d1, e1, d2, e2, G0, G1, G2, rfl, o0, o1, o2, _, rfl⟩ := oDisk_cells ho2
 have HO0 := Hid.mk o0
 have HO1 := Hid.mk o1
 have HO2 := Hid.mk o2
 have HO := Hid.mk ho2
 have HN := Hid.mk hN2
 have HGE : Hid (∀ b, b ∈ G0 ++ G1 ++ G2 ++ [] → w1.heap.size ≤ b) := hge2
 have HLT : Hid (∀ b, b ∈ G0 ++ G1 ++ G2 ++ [] → b < w2.heap.size) := fun b hb => oDisk_good.lt ho2 b hb
 clear ho2 hN2 hge2 o0 o1 o2
 have hb2 := bthen hb1 hx2
 have hbr2 := hbr1.under hx2
 have hz2 := hx2.size
 have hl1 := hbr1.lt
 have hB2 := hb2
 have hbd2 := hbd1.under hx2
 by_cases hC : callP m s = 0
 ·obtain ⟨hpl, hpi⟩ := HP.out hC
  have HPF := Hid.mk (file_only hC hpl hpi)
  have HV : Hid (syncP m s = { m with fInodes := updI m.fInodes p sureI }) := by show _ = _; unfold syncP; rw [if_pos hC, HPF.out]
  obtain ⟨g, cap, hv, hgG, hgl⟩ := ownS.shape HO0.out (by omega)
  simp only [Value.slice.injEq, true_and] at hv
  obtain ⟨rfl, rfl⟩ := hv
  obtain ⟨cs3, Fk, o3, f3, n3, c3, z3⟩ := ownS.cells oInode_good HO0.out hpl
  obtain ⟨v3, F3, rfl, i3, b3, s3, rfl⟩ := o3
  obtain ⟨a3, l3, rfl, _⟩ := b3.read
  have k1 := c3 1 _ rfl
  have k2 := c3 2 _ rfl
  have r1 := z3 (p * 3 + 1)
  have r2 := z3 (p * 3 + 2)
  have hge1 := HGE.out g (by simp [hgG])
  have hdl : m.fInodes[p].fData.length ≤ 1048576 := by have h1 := sumW_le (f := wInode) hpl; have h2 : wInode m.fInodes[p] = m.fInodes[p].fData.length := rfl; omega
  obtain ⟨dn, hdn⟩ : ∃ dn, m.fInodes[p].fData.length = dn := ⟨_, rfl⟩
  rw [hdn] at k1 hdl
  have HDN := Hid.mk hdn
  have HPL := Hid.mk hpl
  have hpn : (0 : Int) ≤ (p : Int) := by omega
  have hpn2 : (p : Int) < (m.fInodes.length : Int) := by omega
  rw [hC]
  have HB2 := Hid.mk hb2
  have HBR2 := Hid.mk hbr2
  clear hdn c3 z3 n3 hbd1 hbr1 hbr2 hbd2 y0 y1 y2 y3 hpi hb2 hB2
  go_wp2_with fail
  obtain ⟨wo, hwo⟩ : ∃ wo, wo = w2.alloc (.cells #[.slice (some ⟨g, 0, none⟩) m.fInodes.length e0, .slice d1 m.fNames.length e1, .slice d2 m.fSafe.length e2, .int .i64 m.fNext] 25) := ⟨_, rfl⟩
  have hbo : Below w2.heap.size w2 wo := by rw [hwo]; exact (Below.refl _ _).alloc (Nat.le_refl _) _
  have hwb : Bw wo w2.heap.size 25 [.slice (some ⟨g, 0, none⟩) m.fInodes.length e0, .slice d1 m.fNames.length e1, .slice d2 m.fSafe.length e2, .int .i64 m.fNext] := by rw [hwo]; exact Bw.new _ _ _
  rw [← hwo]
  clear hwo
  have k1o := (hbo.cell (p := ⟨g, p * 3 + 1, none⟩) hgl).trans k1
  have k2o := (hbo.cell (p := ⟨g, p * 3 + 2, none⟩) hgl).trans k2
  have r2o := (hbo.frozen (p := ⟨g, p * 3 + 2, none⟩) hgl).trans r2
  have x0 := hwb.cell 0 _ rfl
  clear k1 k2 r2 r1
  have HG1 : Hid (g ≠ w2.heap.size) := by show _ ≠ _; omega
  refine wp_region_held_drew (S := fun W => W.cell? ⟨w2.heap.size, 0, none⟩ = some (.slice (some ⟨g, 0, none⟩) m.fInodes.length e0) ∧ W.cell? ⟨g, p * 3 + 1, none⟩ = some (.slice a3 dn l3) ∧ Turn [g] wo W) (by kernel_rfl) (⟨x0, k1o, Turn.ofBelow (Below.drew (Below.refl _ _))⟩) (fun hHeld => ?_)
  refine uq 0 q8c8_83_4_0 19 hHeld ?_
  refine uq 1 q8c8_83_4_1 20 hHeld ?_
  refine uq 2 q8c8_83_4_2 21 hHeld ?_
  refine uq 3 q8c8_83_4_3 22 hHeld ?_
  refine uq 4 q8c8_83_4_4 23 hHeld ?_
  refine uq 5 q8c8_83_4_5 24 hHeld ?_
  refine uq 6 q8c8_83_4_6 25 hHeld ?_
  refine uq 7 q8c8_83_4_7 26 hHeld ?_
  refine uq 8 q8c8_83_4_8 27 hHeld ?_
  refine uq 9 q8c8_83_4_9 28 hHeld ?_
  refine uq 10 q8c8_83_4_10 29 hHeld ?_
  refine uq 11 q8c8_83_4_11 30 hHeld ?_
  refine ar1 12 q8c8_83_4_12 fun K hK => ?_
  go_simp
  go_simp
  refine hK.out _ _ (⟨(World.cell?_setCell_other _ _ _ _ (fun h => HG1.out (congrArg Addr.block h))).trans x0, (World.cell?_setCell_other _ _ _ _ (fun h => by have := congrArg Addr.off h; simp at this)).trans k1o, Turn.drew (Turn.setCell (F := [g]) (a := wo) (b := wo) (p := ⟨g, p * 3 + 2, none⟩) (Turn.refl _ _) (by simp) (.int .i64 dn))⟩) (fun hHeld => ?_)
  clear hK K
  try simp only[Act.put,sa,s0,s1]
  refine wpAnyH_done (by kernel_rfl) ?_ _
  obtain ⟨w3, hw3⟩ : ∃ w3, w3 = (wo.setCell ⟨g, p * 3 + 2, none⟩ (.int .i64 dn)).drew := ⟨_, rfl⟩
  have hT3 : Turn [g] wo w3 := by rw [hw3]; exact Turn.drew (Turn.setCell (F := [g]) (a := wo) (b := wo) (p := ⟨g, p * 3 + 2, none⟩) (Turn.refl _ _) (by simp) _)
  have hwb3 := hwb.turn hT3 (by simp; omega)
  have hbr3 := (HBR2.out.under hbo).turn hT3 (by simp; omega)
  have hB3 : Below w.heap.size w w3 := (bthen HB2.out hbo).trans (hT3.below (fun k hk => by simp at hk; have := HB2.out.size; omega) (bthen HB2.out hbo).size)
  have HPL2 := HPL
  have hod : ∃ F', oDisk w3 [.slice (some ⟨g, 0, none⟩) m.fInodes.length e0, .slice d1 m.fNames.length e1, .slice d2 m.fSafe.length e2, .int .i64 m.fNext] (syncP m s) F' ∧ F'.Nodup ∧ ∀ b, b ∈ F' → b ∈ G0 ++ G1 ++ G2 := by
   have hfr : ∀ b, b ∈ G0 ++ G1 ++ G2 → b < w2.heap.size := fun b hb => HLT.out b (by simpa using hb)
   have q0 := ownS.frame (w' := wo) oInode_good HO0.out (fun b hb => hbo.block b (hfr b (by simp [hb])))
   have q1 := ownS.frame (w' := wo) oEntry_good HO1.out (fun b hb => hbo.block b (hfr b (by simp [hb])))
   have q2 := ownS.frame (w' := wo) oEntry_good HO2.out (fun b hb => hbo.block b (hfr b (by simp [hb])))
   have hsf : ∀ n : MInode, n.fData.length = dn → (sureI n).fSure = (dn : Int) := fun n h => by unfold sureI; simp [h]
   obtain ⟨F', o1, o2, o3, _⟩ := oDisk_inode q0 q1 q2 hnx HN.out HPL.out (i := 2) (by omega) (.int .i64 dn) sureI [] (fun b hb => by cases hb) (fun cs Fk h hN => by
    obtain ⟨v, F, rfl, q1, q2, q3, rfl⟩ := h
    refine ⟨F ++ [], ⟨v, F, ?_, q1, q2, ?_, rfl⟩, hN, fun b hb => .inl hb⟩
    ·rw [hsf _ HDN.out]
     rfl
    ·rw [hsf _ HDN.out]
     exact WalkArith.wf_i64 (by omega))
   refine ⟨F', ?_, o2, fun b hb => ?_⟩
   ·rw [HV.out, hw3]
    exact o1
   ·rcases o3 b hb with h | h
    ·exact h
    ·cases h
  obtain ⟨F3x, hO3, hN3, hS3⟩ := hod
  have hG3 : ∀ b, b ∈ F3x → w.heap.size + 2 ≤ b := fun b hb => by have := HGE.out b (by simpa using hS3 b hb); have := hb1.size; omega
  have HCz := Hid.mk hC
  rw [← hw3]
  clear hw3 hC hHeld x0 k1o k2o r2o
  have zo0 := hwb3.cell 0 _ rfl
  have ze0 := hbr3.cell 0 _ rfl
  have zf0 := hbr3.free 0
  have zo1 := hwb3.cell 1 _ rfl
  have ze1 := hbr3.cell 1 _ rfl
  have zf1 := hbr3.free 1
  have zo2 := hwb3.cell 2 _ rfl
  have ze2 := hbr3.cell 2 _ rfl
  have zf2 := hbr3.free 2
  have zo3 := hwb3.cell 3 _ rfl
  have ze3 := hbr3.cell 3 _ rfl
  have zf3 := hbr3.free 3
  have hTf := turn4 w3 (w.heap.size + 1) (.slice (some ⟨g, 0, none⟩) m.fInodes.length e0) (.slice d1 m.fNames.length e1) (.slice d2 m.fSafe.length e2) (.int .i64 m.fNext)
  have HTf := Hid.mk hTf
  have HBf := Hid.mk hB3
  clear hTf
  go_wp2_with fail
  refine bodyPost_ret (v := .tuple #[.agg #[.slice (some ⟨g, 0, none⟩) m.fInodes.length e0, .slice d1 m.fNames.length e1, .slice d2 m.fSafe.length e2, .int .i64 m.fNext], .int .i64 0]) (by simp [results, Tryz.results83, go_sem, *]) rfl ⟨[.slice (some ⟨g, 0, none⟩) m.fInodes.length e0, .slice d1 m.fNames.length e1, .slice d2 m.fSafe.length e2, .int .i64 m.fNext], F3x, by rw [HCz.out], ?_, hN3, ?_, ?_⟩
  ·exact oDisk_good.frame (hO3) (fun b hb => HTf.out.block b (oDisk_good.lt (hO3) b hb) (by intro h; simp at h; have := hG3 b hb; omega))
  ·intro b hb
   have := hG3 b hb
   omega
  ·exact HBf.out.trans (HTf.out.below (fun k hk => by simp at hk; omega) HBf.out.size)
 ·have HV : Hid (syncP m s = m) := by show _ = _; unfold syncP; rw [if_neg hC]
  have hcn : (callP m s == 0) = false := beq_eq_false_iff_ne.2 hC
  clear HP
  obtain ⟨cp, hcp⟩ : ∃ cp, callP m s = cp := ⟨_, rfl⟩
  rw [hcp] at hcn ⊢
  have HCP := Hid.mk hcp
  clear hcp hC
  obtain ⟨ze0, zf0, ze1, zf1, ze2, zf2, ze3, zf3⟩ := hbr2.c8
  have hlt0 := hbr2.lt
  have hO3 : oDisk w2 [.slice d0 m.fInodes.length e0, .slice d1 m.fNames.length e1, .slice d2 m.fSafe.length e2, .int .i64 m.fNext] (syncP m s) (G0 ++ G1 ++ G2 ++ []) := by rw [HV.out]; exact HO.out
  have hG3 : ∀ b, b ∈ G0 ++ G1 ++ G2 ++ [] → w.heap.size + 2 ≤ b := fun b hb => by have := HGE.out b hb; omega
  have HBf := Hid.mk hb2
  have HO3 := Hid.mk hO3
  clear hO3
  go_wp2_with fail
  refine bodyPost_ret (v := .tuple #[.agg #[.slice d0 m.fInodes.length e0, .slice d1 m.fNames.length e1, .slice d2 m.fSafe.length e2, .int .i64 m.fNext], .int .i64 cp]) (by simp [results, Tryz.results83, go_sem, *]) rfl ⟨[.slice d0 m.fInodes.length e0, .slice d1 m.fNames.length e1, .slice d2 m.fSafe.length e2, .int .i64 m.fNext], G0 ++ G1 ++ G2 ++ [], by first | rfl | rw [HCP.out], ?_, HN.out, ?_, ?_⟩
  ·exact oDisk_good.frame HO3.out (fun b hb => (show Turn [w.heap.size + 1] w2 _ from by repeat (first | with_reducible exact Turn.refl _ _ | with_reducible refine Turn.setCell ?_ (by simp) _ | with_reducible refine Turn.alloc ?_ _ | with_reducible refine Turn.drew ?_)).block b (oDisk_good.lt HO3.out b hb) (by intro h; simp at h; have := hG3 b hb; omega))
  ·intro b hb
   have := hG3 b hb
   omega
  ·exact HBf.out.trans ((show Turn [w.heap.size + 1] w2 _ from by repeat (first | with_reducible exact Turn.refl _ _ | with_reducible refine Turn.setCell ?_ (by simp) _ | with_reducible refine Turn.alloc ?_ _ | with_reducible refine Turn.drew ?_)).below (fun k hk => by simp at hk; omega) HBf.out.size)
set_option maxHeartbeats 2000000 in
theorem formOk2_any (cs : List Value) (m : MDisk) (a : Option Addr) (c : Nat) (s t : ByteArray) (w : World) (hr : rDisk w.heap.size w cs m) (hw : wDisk m ≤ 1048576) (hs : s.size ≤ 9223372036854775807) (ht : t.size ≤ 9223372036854775807) (ha : ∃ b, a = some ⟨b, 0, none⟩ ∧ b < w.heap.size ∧ w.cell? ⟨b, 0, none⟩ = some (.string s) ∧ w.cell? ⟨b, 1, none⟩ = some (.string t)) :
  Calls Tryz.prog 37 #[.agg cs.toArray, .slice a 2 c] w fun e w' => e = .returned (.bool (diskOk m && nameOk s && nameOk t)) ∧ Below w.heap.size w w' := by
 have hq := hr
 obtain ⟨a0, c0, a1, c1, a2, c2, rfl, _⟩ := hq
 obtain ⟨b, rfl, hbl, hcs, hct⟩ := ha
 have HW := Hid.mk hw
 have HR := Hid.mk hr
 clear hr hw
 have hCd := fun W (hb : Below w.heap.size w W) => implDiskOk_c _ m W (rDisk_good.mono (rDisk_good.below HR.out hb) hb.size) HW.out
 have hbA := (Below.refl w.heap.size w).alloc (Nat.le_refl _) (.cells #[.slice a0 m.fInodes.length c0, .slice a1 m.fNames.length c1, .slice a2 m.fSafe.length c2, .int .i64 m.fNext] 25)
 go_enter Tryz.func37, Tryz.ntmps37
 go_wp2_with fail
 refine wp_loop_rounds 3 ?_
 rw [rounds_succ]
 go_wp2_with fail
 refine (implNameOk_any s _ hs).mono ?_
 rintro e w1 ⟨rfl, hx1⟩
 have hb1 := bthen hbA hx1
 have hbx := (Bx.new w [.slice a0 m.fInodes.length c0, .slice a1 m.fNames.length c1, .slice a2 m.fSafe.length c2, .int .i64 m.fNext] 25).under hx1
 have hct1 := (hb1.cell (p := ⟨b, 1, none⟩) hbl).trans hct
 by_cases hN : nameOk s = true
 ·rw [hN]
  go_wp2_with fail
  rw [rounds_succ]
  go_wp2_with fail
  refine (implNameOk_any t _ ht).mono ?_
  rintro e w2 ⟨rfl, hx2⟩
  have hb2 := bthen hb1 hx2
  have hbx2 := hbx.under hx2
  have y0 := hbx2.2 0 _ rfl
  have y1 := hbx2.2 1 _ rfl
  have y2 := hbx2.2 2 _ rfl
  have y3 := hbx2.2 3 _ rfl
  by_cases hM : nameOk t = true
  ·rw [hM]
   go_wp2_with fail
   rw [rounds_succ]
   go_wp2_with fail
   refine Calls.mono (hCd _ hb2) ?_
   rintro e w3 ⟨rfl, hx3⟩
   go_wp2_with fail
   go_ret
   exact ⟨by rw [hN, hM, Bool.and_true, Bool.and_true]; rfl, bthen hb2 hx3⟩
  ·have hM2 : nameOk t = false := Bool.eq_false_iff.2 hM
   rw [hM2]
   go_wp2_with fail
   go_ret
   exact ⟨by rw [hM2, Bool.and_false]; rfl, hb2⟩
 ·have hN2 : nameOk s = false := Bool.eq_false_iff.2 hN
  rw [hN2]
  go_wp2_with fail
  go_ret
  exact ⟨by rw [hN2, Bool.and_false, Bool.false_and]; rfl, hb1⟩
set_option maxHeartbeats 4000000 in
theorem implRename_c (cs : List Value) (m : MDisk) (s t : ByteArray) (w : World) (hr : rDisk w.heap.size w cs m) (hs : s.size ≤ 9223372036854775807) (ht : t.size ≤ 9223372036854775807) (hw : wDisk m ≤ 1048576) (hw1 : s.size ≤ 1048576) (hwt1 : t.size ≤ 1048576) :
  Calls Tryz.prog 85 #[.agg cs.toArray, .string s, .string t] w fun e w' => ∃ (cs' : List Value) (F : List Nat), e = .returned (.tuple #[.agg cs'.toArray, .int .i64 (renameC m s t)]) ∧ oDisk w' cs' (renameP m s t) F ∧ F.Nodup ∧ (∀ b, b ∈ F → w.heap.size ≤ b) ∧ Below w.heap.size w w' := by
 have hq := hr
 obtain ⟨a0, c0, a1, c1, a2, c2, rfl, hI, hNm, hSf, hnx, _⟩ := hq
 have hw2 : m.fInodes.length + sumW wInode m.fInodes + (m.fNames.length + sumW wEntry m.fNames) + (m.fSafe.length + sumW wEntry m.fSafe) ≤ 1048576 := hw
 have HW := Hid.mk hw
 have HR := Hid.mk hr
 have HNM := Hid.mk hNm
 clear hr hI hNm hSf hw
 go_enter Tryz.func85, Tryz.ntmps85
 go_wp2_with fail
 obtain ⟨wq, hwq⟩ : ∃ wq, wq = ((w.alloc (.cells #[.slice a0 m.fInodes.length c0, .slice a1 m.fNames.length c1, .slice a2 m.fSafe.length c2, .int .i64 m.fNext] 25)).alloc (.cells #[.slice none 0 0, .slice none 0 0, .slice none 0 0, .int .i64 0] 25)) := ⟨_, rfl⟩
 have hbW : Below w.heap.size w wq := by rw [hwq]; exact Below.alloc (Below.alloc (Below.refl _ _) (by exact Nat.le_refl _) _) (by simp; try omega) _
 have hbd : Bw wq (w.heap.size) 25 [.slice a0 m.fInodes.length c0, .slice a1 m.fNames.length c1, .slice a2 m.fSafe.length c2, .int .i64 m.fNext] := by rw [hwq]; exact Bw.alloc (Bw.new' _ _ _ (by simp)) _
 have hbr : Bw wq (w.heap.size + 1) 25 [.slice none 0 0, .slice none 0 0, .slice none 0 0, .int .i64 0] := by rw [hwq]; exact Bw.new' _ _ _ (by simp)
 have HQS : Hid (wq.heap.size = w.heap.size + 1 + 1) := by show _ = _; rw [hwq]; simp
 rw [← hwq]
 clear hwq
 have hbL : Below wq.heap.size wq (wq.alloc (.cells #[.string s, .string t] 9)) := (Below.refl _ _).alloc (Nat.le_refl _) _
 have hbB := bthen hbW hbL
 have hfa : ∃ b, (some ⟨w.heap.size + 1 + 1, 0, none⟩ : Option Addr) = some ⟨b, 0, none⟩ ∧ b < (wq.alloc (.cells #[.string s, .string t] 9)).heap.size ∧ (wq.alloc (.cells #[.string s, .string t] 9)).cell? ⟨b, 0, none⟩ = some (.string s) ∧ (wq.alloc (.cells #[.string s, .string t] 9)).cell? ⟨b, 1, none⟩ = some (.string t) := by
  rw [← HQS.out]
  exact ⟨wq.heap.size, rfl, by simp, by simp, by simp⟩
 refine (formOk2_any _ m (some ⟨w.heap.size + 1 + 1, 0, none⟩) 2 s t _ (rDisk_good.mono (rDisk_good.below HR.out hbB) hbB.size) HW.out hs ht hfa).mono ?_
 clear hfa
 rintro e w1 ⟨rfl, hx1'⟩
 have hx1 := bthen hbL hx1'
 have hb1 := bthen hbW hx1
 have hbd1 := hbd.under hx1
 have hbr1 := hbr.under hx1
 have hl1 := hbd1.lt
 have hl1r := hbr1.lt
 obtain ⟨y0, y1, y2, y3⟩ := hbd1.c4
 clear hbd hbr hbL hbB hx1'
 by_cases hF : (diskOk m && nameOk s && nameOk t) = true
 ·have hF2 := hF
  rw [Bool.and_eq_true, Bool.and_eq_true] at hF2
  obtain ⟨⟨hK, hNs⟩, hNt⟩ := hF2
  have hDR := diskOk_iff.1 hK
  have hRi : Rise m.fNames := hDR.names.rise
  have HNO := Hid.mk (fun i j hi hj he => names_once hRi (i := i) (j := j) hi hj he)
  have HRI0 := Hid.mk hRi
  have HDR := Hid.mk hDR
  have HNT := Hid.mk hNt
  have HCA : Hid (renameC m s t = if hasName m.fNames s = true then 0 else 2) := by
   show _ = _
   unfold renameC callP
   rw [if_pos hNt, hK, hNs]
   rfl
  rw [hF]
  clear hF hK hNs hNt hDR hRi
  go_wp2_with fail
  refine (nameMap_any a1 m.fNames.length c1 m.fNames w1 rfl (LeafL.mono rEntry_good (HNM.out.below rEntry_good hb1) hb1.size) (by omega)).mono ?_
  rintro e w2 ⟨Dm, rfl, hown, hNM, hx2⟩
  have HNM2 := Hid.mk hNM
  clear hNM
  have hb2 := bthen hb1 hx2
  have hbd2 := hbd1.under hx2
  have hbr2 := hbr1.under hx2
  have hl2 := hbd2.lt
  have hl2r := hbr2.lt
  have hz2 := hx2.size
  have hzb1 := hb1.size
  clear y0 y1 y2 y3 hbd1 hbr1
  obtain ⟨y0, y1, y2, y3⟩ := hbd2.c4
  by_cases hH : hasName m.fNames s = true
  ·have HC0 : Hid (renameC m s t = 0) := by show _ = _; rw [HCA.out, if_pos hH]
   have HV : Hid (renameP m s t = keepD { m with fNames := renameN m s t }) := by show _ = _; unfold renameP renameD; rw [if_pos HC0.out]
   obtain ⟨hk, hnm⟩ := hasName_at hH
   have hid : idOf m.fNames s = m.fNames[nameAt m.fNames s].fId := by unfold idOf; rw [List.getElem?_eq_getElem hk]; rfl
   have hhs : Maps.has Dm (kS s) = true := (HNM2.out.2 s).1.2 ⟨_, hk, hk, hnm⟩
   have HC : Hid (Dm.atKey (kS s) (.lit (.int .i64 0)) = .lit (.int .i64 (idOf m.fNames s))) := by
    obtain ⟨j, hj, _, he, ha⟩ := (HNM2.out.2 s).2 hhs
    have : j = nameAt m.fNames s := HNO.out j _ hj hk (he.trans hnm.symm)
    subst this
    show Dm.atKey _ _ = _
    rw [ha, hid]
   have h3 := renameN_ok HDR.out hH HNT.out
   have HRI : Hid (Rise (renameN m s t)) := h3.1.rise
   have HLN : Hid ((renameN m s t).length ≤ 1000) := by show _ ≤ _; have := h3.2; omega
   have hwt := ok_weight (diskOk_iff.2 HDR.out)
   have h7 := sumW_names (fun e he => (h3.1.1 e he).2)
   have h8 := h3.2
   have HWN : Hid (wDisk { m with fNames := renameN m s t } ≤ 1048576) := by
    show _ ≤ _
    rw [wDisk_eq]
    simp only
    omega
   have HM : Hid (MapIs ((Dm.del (kS s)).put (kS t) (.lit (.int .i64 (idOf m.fNames s)))) (renameN m s t)) := ((MapIs.ofN rfl HNM2.out HRI0.out).del s).put ⟨t, idOf m.fNames s⟩
   have hkey := keyStr hs
   have hkeyt := keyStr ht
   have hnl : m.fNames.length ≤ 30 := hwt.2.2.1
   clear hid hk hnm hH h3 h7 h8 hwt
   go_wp2_with first
    | (at_lookup; refine wpList_lookup_own_ok_int _ rfl _ _ 65 rfl 9 3 .i64 lawStr Tryz.underlying65 Tryz.underlying3 (zeroInt _) w1.heap.size m.fNames.length Dm rfl hown _ _ rfl hkey ?_; intro c hat hwc; have hce : c = idOf m.fNames s := (by rw [HC.out] at hat; simp only [DataW.lit.injEq, Lit.int.injEq, true_and] at hat; exact hat.symm); subst hce; clear hat)
    | (at_delete; refine wpList_delete_own _ rfl _ _ 65 9 rfl 3 lawStr Tryz.underlying65 _ w1.heap.size m.fNames.length Dm rfl hown _ _ rfl hkey ?_; intro w3 hown3 hturn3; have hT3 : Turn [w1.heap.size] w2 w3 := Turn.ofGrown hturn3.grown (fun k hk => by cases hk; simp))
    | (at_mapUpdate; refine wpList_mapUpdate_own _ rfl _ _ _ 65 rfl 9 3 lawStr Tryz.underlying65 _ w1.heap.size m.fNames.length _ rfl hown3 (by unfold maxLen; omega) _ _ _ rfl rfl hkeyt _ [] (plainElem_int Tryz.underlying3 hwc) ?_; intro w4 hown4 hgrow4; have hT4 : Turn [w1.heap.size] w2 w4 := hT3.trans (Turn.ofGrown hgrow4 (fun k hk => by cases hk; simp)); have hbd3 := hbd2.turn hT4 (by simp; omega); have hbr3 := hbr2.turn hT4 (by simp; omega); have yy0 := hbd3.cell 0 _ rfl; have yy1 := hbd3.cell 1 _ rfl; have yy2 := hbd3.cell 2 _ rfl; have yy3 := hbd3.cell 3 _ rfl)
   have hb3 : Below w.heap.size w w4 := hb2.trans (hT4.below (fun k hk => by simp at hk; omega) hb2.size)
   clear y0 y1 y2 y3 hown hown3 hturn3 hgrow4
   obtain ⟨kd, hkd⟩ : ∃ kd, kd = keepD { m with fNames := renameN m s t } := ⟨_, rfl⟩
   have HKD := Hid.mk hkd
   clear hkd
   have hcall := withNames_any _ m w1.heap.size _ _ (renameN m s t) w4 (rDisk_good.mono (rDisk_good.below HR.out hb3) hb3.size) hown4 HM.out HRI.out HLN.out HWN.out
   rw [← HKD.out] at hcall
   clear hown4
   refine hcall.mono ?_
   rintro e w5 ⟨cs3, F3, rfl, ho3, hN3, hge3, hx5⟩
   have hb5 := bthen hb3 hx5
   have hbr5 := hbr3.under hx5
   have hl5 := hbr5.lt
   have hz5 := hb3.size
   have hlq5 := hbr3.lt
   obtain ⟨q0, p0, q1, p1, q2, p2, G0, G1, G2, rfl, _, _, _, _, rfl⟩ := oDisk_cells ho3
   have hkey : ∀ W', Turn [w.heap.size + 1] w5 W' → oDisk W' [.slice q0 (kd).fInodes.length p0, .slice q1 (kd).fNames.length p1, .slice q2 (kd).fSafe.length p2, .int .i64 (kd).fNext] (kd) (G0 ++ G1 ++ G2 ++ []) ∧ Below w.heap.size w W' := fun W' hT =>
    ⟨oDisk_good.frame ho3 (fun b hb => hT.block b (oDisk_good.lt ho3 b hb) (fun h => by simp at h; have := hge3 b hb; omega)), hb5.trans (hT.below (fun k hk => by simp at hk; omega) hb5.size)⟩
   have HKEY := Hid.mk hkey
   have HNQ := Hid.mk hN3
   have HGQ : Hid (∀ b, b ∈ G0 ++ G1 ++ G2 ++ [] → w.heap.size ≤ b) := fun b hb => by have := hge3 b hb; omega
   clear hkey ho3 hN3 hge3 
   obtain ⟨ze0, ze1, ze2, ze3⟩ := hbr5.c4
   obtain ⟨zf0, zf1, zf2, zf3⟩ := hbr5.f4
   go_wp2_with fail
   obtain ⟨h1, h3⟩ := HKEY.out _ (show Turn [w.heap.size + 1] w5 ((((w5.setCell ⟨w.heap.size + 1, 0, none⟩ (.slice q0 (kd).fInodes.length p0)).setCell ⟨w.heap.size + 1, 1, none⟩ (.slice q1 (kd).fNames.length p1)).setCell ⟨w.heap.size + 1, 2, none⟩ (.slice q2 (kd).fSafe.length p2)).setCell ⟨w.heap.size + 1, 3, none⟩ (.int .i64 (kd).fNext)) from turn4 _ _ _ _ _ _)
   exact bodyPost_ret (v := .tuple #[.agg #[.slice q0 (kd).fInodes.length p0, .slice q1 (kd).fNames.length p1, .slice q2 (kd).fSafe.length p2, .int .i64 (kd).fNext], .int .i64 0]) (by simp [results, Tryz.results85, go_sem, *]) rfl ⟨[.slice q0 (kd).fInodes.length p0, .slice q1 (kd).fNames.length p1, .slice q2 (kd).fSafe.length p2, .int .i64 (kd).fNext], _, by rw [HC0.out], by rw [HV.out, ← HKD.out]; exact h1, HNQ.out, HGQ.out, h3⟩
  ·have HC2 : Hid (renameC m s t = 2) := by show _ = _; rw [HCA.out, if_neg hH]
   have HV : Hid (renameP m s t = m) := by show _ = _; unfold renameP; rw [HC2.out]; rfl
   have hhs : Maps.has Dm (kS s) = false := by
    rw [Bool.eq_false_iff]
    intro h
    obtain ⟨j, hj, _, he⟩ := (HNM2.out.2 s).1.1 h
    exact hH (hasName_yes hj he)
   have hkey := keyStr hs
   clear hH
   go_wp2_with (at_lookup; refine wpList_lookup_own_ok_int _ rfl _ _ 65 rfl 9 3 .i64 lawStr Tryz.underlying65 Tryz.underlying3 (zeroInt _) w1.heap.size m.fNames.length Dm rfl hown _ _ rfl hkey ?_; intro c hat hwc)
   refine (copyDisk_any _ (m) w2 (rDisk_good.mono (rDisk_good.below HR.out hb2) hb2.size) HW.out).mono ?_
   rintro e w3 ⟨cs3, F3, rfl, ho3, hN3, hge3, hx3⟩
   have hb3 := bthen hb2 hx3
   have hbr3 := hbr2.under hx3
   have hl3 := hbr3.lt
   have hz3 := hb2.size
   have hlq3 := hbr2.lt
   obtain ⟨q0, p0, q1, p1, q2, p2, G0, G1, G2, rfl, _, _, _, _, rfl⟩ := oDisk_cells ho3
   have hkey : ∀ W', Turn [w.heap.size + 1] w3 W' → oDisk W' [.slice q0 m.fInodes.length p0, .slice q1 m.fNames.length p1, .slice q2 m.fSafe.length p2, .int .i64 m.fNext] (m) (G0 ++ G1 ++ G2 ++ []) ∧ Below w.heap.size w W' := fun W' hT =>
    ⟨oDisk_good.frame ho3 (fun b hb => hT.block b (oDisk_good.lt ho3 b hb) (fun h => by simp at h; have := hge3 b hb; omega)), hb3.trans (hT.below (fun k hk => by simp at hk; omega) hb3.size)⟩
   have HKEY := Hid.mk hkey
   have HNQ := Hid.mk hN3
   have HGQ : Hid (∀ b, b ∈ G0 ++ G1 ++ G2 ++ [] → w.heap.size ≤ b) := fun b hb => by have := hge3 b hb; omega
   clear hkey ho3 hN3 hge3 
   obtain ⟨ze0, ze1, ze2, ze3⟩ := hbr3.c4
   obtain ⟨zf0, zf1, zf2, zf3⟩ := hbr3.f4
   go_wp2_with fail
   obtain ⟨h1, h3⟩ := HKEY.out _ (show Turn [w.heap.size + 1] w3 ((((w3.setCell ⟨w.heap.size + 1, 0, none⟩ (.slice q0 m.fInodes.length p0)).setCell ⟨w.heap.size + 1, 1, none⟩ (.slice q1 m.fNames.length p1)).setCell ⟨w.heap.size + 1, 2, none⟩ (.slice q2 m.fSafe.length p2)).setCell ⟨w.heap.size + 1, 3, none⟩ (.int .i64 m.fNext)) from turn4 _ _ _ _ _ _)
   exact bodyPost_ret (v := .tuple #[.agg #[.slice q0 m.fInodes.length p0, .slice q1 m.fNames.length p1, .slice q2 m.fSafe.length p2, .int .i64 m.fNext], .int .i64 2]) (by simp [results, Tryz.results85, go_sem, *]) rfl ⟨[.slice q0 m.fInodes.length p0, .slice q1 m.fNames.length p1, .slice q2 m.fSafe.length p2, .int .i64 m.fNext], _, by rw [HC2.out], by rw [HV.out]; exact h1, HNQ.out, HGQ.out, h3⟩
 ·have hF2 : (diskOk m && nameOk s && nameOk t) = false := Bool.eq_false_iff.2 hF
  have HC1 : Hid (renameC m s t = 1) := by
   show _ = _
   unfold renameC callP
   by_cases h1 : nameOk t = true
   ·rw [h1, Bool.and_true] at hF2
    rw [if_pos h1, hF2]
    rfl
   ·rw [if_neg h1]
  have HV : Hid (renameP m s t = m) := by show _ = _; unfold renameP; rw [HC1.out]; rfl
  rw [hF2]
  clear hF hF2
  go_wp2_with fail
  refine (copyDisk_any _ (m) w1 (rDisk_good.mono (rDisk_good.below HR.out hb1) hb1.size) HW.out).mono ?_
  rintro e w2 ⟨cs3, F3, rfl, ho3, hN3, hge3, hx2⟩
  have hb2 := bthen hb1 hx2
  have hbr2 := hbr1.under hx2
  have hl2 := hbr2.lt
  have hz2 := hb1.size
  have hlq2 := hbr1.lt
  obtain ⟨q0, p0, q1, p1, q2, p2, G0, G1, G2, rfl, _, _, _, _, rfl⟩ := oDisk_cells ho3
  have hkey : ∀ W', Turn [w.heap.size + 1] w2 W' → oDisk W' [.slice q0 m.fInodes.length p0, .slice q1 m.fNames.length p1, .slice q2 m.fSafe.length p2, .int .i64 m.fNext] (m) (G0 ++ G1 ++ G2 ++ []) ∧ Below w.heap.size w W' := fun W' hT =>
   ⟨oDisk_good.frame ho3 (fun b hb => hT.block b (oDisk_good.lt ho3 b hb) (fun h => by simp at h; have := hge3 b hb; omega)), hb2.trans (hT.below (fun k hk => by simp at hk; omega) hb2.size)⟩
  have HKEY := Hid.mk hkey
  have HNQ := Hid.mk hN3
  have HGQ : Hid (∀ b, b ∈ G0 ++ G1 ++ G2 ++ [] → w.heap.size ≤ b) := fun b hb => by have := hge3 b hb; omega
  clear hkey ho3 hN3 hge3 
  obtain ⟨ze0, ze1, ze2, ze3⟩ := hbr2.c4
  obtain ⟨zf0, zf1, zf2, zf3⟩ := hbr2.f4
  go_wp2_with fail
  obtain ⟨h1, h3⟩ := HKEY.out _ (show Turn [w.heap.size + 1] w2 ((((w2.setCell ⟨w.heap.size + 1, 0, none⟩ (.slice q0 m.fInodes.length p0)).setCell ⟨w.heap.size + 1, 1, none⟩ (.slice q1 m.fNames.length p1)).setCell ⟨w.heap.size + 1, 2, none⟩ (.slice q2 m.fSafe.length p2)).setCell ⟨w.heap.size + 1, 3, none⟩ (.int .i64 m.fNext)) from turn4 _ _ _ _ _ _)
  exact bodyPost_ret (v := .tuple #[.agg #[.slice q0 m.fInodes.length p0, .slice q1 m.fNames.length p1, .slice q2 m.fSafe.length p2, .int .i64 m.fNext], .int .i64 1]) (by simp [results, Tryz.results85, go_sem, *]) rfl ⟨[.slice q0 m.fInodes.length p0, .slice q1 m.fNames.length p1, .slice q2 m.fSafe.length p2, .int .i64 m.fNext], _, by rw [HC1.out], by rw [HV.out]; exact h1, HNQ.out, HGQ.out, h3⟩
end Go.Proofs.YtomlpobbhioflaaGreatDoor
