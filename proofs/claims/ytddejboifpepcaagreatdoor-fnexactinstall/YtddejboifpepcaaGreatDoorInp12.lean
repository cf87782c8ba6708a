/-
  Part 13 of the texts that the proof leans on.
-/
import Derived.Test.YtddejboifpepcaaGreatDoorInp10
import Derived.Test.YtddejboifpepcaaGreatDoorInp7
import Derived.Test.YtddejboifpepcaaGreatDoorInp5
import Derived.Test.YtddejboifpepcaaGreatDoorInp11
import Derived.Shelf.Strconv.Itoa3
import Derived.Shelf.Strings.OnBuilder
import Derived.Test.YtddejboifpepcaaGreatDoorProg
import Derived.Test.YtddejboifpepcaaGreatDoorInp0
set_option linter.unusedVariables false
set_option linter.unusedSimpArgs false
set_option maxRecDepth 10000

namespace Go.Proofs.YtddejboifpepcaaGreatDoor
open Go.RowKit Go.Maps
set_option maxHeartbeats 4000000 in
theorem implRemove_c (cs : List Value) (m : MDisk) (s : ByteArray) (w : World) (hr : rDisk w.heap.size w cs m) (hs : s.size ≤ 9223372036854775807) (hw : wDisk m ≤ 1048576) (hw1 : s.size ≤ 1048576) :
  Calls Tryz.prog 80 #[.agg cs.toArray, .string s] w fun e w' => ∃ (cs' : List Value) (F : List Nat), e = .returned (.tuple #[.agg cs'.toArray, .int .i64 (callP m s)]) ∧ oDisk w' cs' (removeP m s) F ∧ F.Nodup ∧ (∀ b, b ∈ F → w.heap.size ≤ b) ∧ Below w.heap.size w w' := by
 have hq := hr
 obtain ⟨a0, c0, a1, c1, a2, c2, rfl, hI, hNm, hSf, hnx, _⟩ := hq
 have hw2 : m.fInodes.length + sumW wInode m.fInodes + (m.fNames.length + sumW wEntry m.fNames) + (m.fSafe.length + sumW wEntry m.fSafe) ≤ 1048576 := hw
 have HW := Hid.mk hw
 have HR := Hid.mk hr
 have HNM := Hid.mk hNm
 clear hr hI hNm hSf hw
 go_enter Tryz.func80, Tryz.ntmps80
 go_wp2_with fail
 obtain ⟨wq, hwq⟩ : ∃ wq, wq = ((w.alloc (.cells #[.slice a0 m.fInodes.length c0, .slice a1 m.fNames.length c1, .slice a2 m.fSafe.length c2, .int .i64 m.fNext] 34)).alloc (.cells #[.slice none 0 0, .slice none 0 0, .slice none 0 0, .int .i64 0] 34)) := ⟨_, rfl⟩
 have hbW : Below w.heap.size w wq := by rw [hwq]; exact Below.alloc (Below.alloc (Below.refl _ _) (by exact Nat.le_refl _) _) (by simp; try omega) _
 have hbd : Bw wq (w.heap.size) 34 [.slice a0 m.fInodes.length c0, .slice a1 m.fNames.length c1, .slice a2 m.fSafe.length c2, .int .i64 m.fNext] := by rw [hwq]; exact Bw.alloc (Bw.new' _ _ _ (by simp)) _
 have hbr : Bw wq (w.heap.size + 1) 34 [.slice none 0 0, .slice none 0 0, .slice none 0 0, .int .i64 0] := by rw [hwq]; exact Bw.new' _ _ _ (by simp)
 rw [← hwq]
 clear hwq
 refine (findFile_any _ m s wq (rDisk_good.mono (rDisk_good.below HR.out hbW) hbW.size) HW.out hs).mono ?_
 rintro e w1 ⟨p, rfl, hp, hx1⟩
 clear hp
 have hb1 := bthen hbW hx1
 have hbd1 := hbd.under hx1
 have hbr1 := hbr.under hx1
 have hl1 := hbd1.lt
 have hl1r := hbr1.lt
 obtain ⟨y0, y1, y2, y3⟩ := hbd1.c4
 clear hbd hbr
 by_cases hC : callP m s = 0
 ·have HCz := Hid.mk hC
  have HV : Hid (removeP m s = keepD { m with fNames := without m.fNames s }) := by show _ = _; unfold removeP removeD; rw [if_pos hC]
  have hDR := diskOk_iff.1 (call_good hC).1
  have hRi : Rise m.fNames := hDR.names.rise
  have hfew := hDR.few
  have hsub : (without m.fNames s).Sublist m.fNames := List.filter_sublist
  have HRI : Hid (Rise (without m.fNames s)) := hRi.sublist hsub
  have HRI0 := Hid.mk hRi
  have HLN : Hid ((without m.fNames s).length ≤ 1000) := by show _ ≤ _; have := hsub.length_le; omega
  have HWN : Hid (wDisk { m with fNames := without m.fNames s } ≤ 1048576) := by
   show _ ≤ _
   have h2 := sumW_sublist (f := wEntry) hsub
   have h3 := hsub.length_le
   rw [wDisk_eq]
   simp only
   omega
  have hkey := keyStr hs
  rw [hC]
  clear hC hDR hRi hsub
  go_wp2_with fail
  refine (nameMap_any a1 m.fNames.length c1 m.fNames w1 rfl (LeafL.mono rEntry_good (HNM.out.below rEntry_good hb1) hb1.size) (by omega)).mono ?_
  rintro e w2 ⟨Dm, rfl, hown, hNM, hx2⟩
  have HM : Hid (MapIs (Dm.del (kS s)) (without m.fNames s)) := (MapIs.ofN rfl hNM HRI0.out).del s
  clear hNM
  have hb2 := bthen hb1 hx2
  have hbd2 := hbd1.under hx2
  have hbr2 := hbr1.under hx2
  have hl2 := hbd2.lt
  have hl2r := hbr2.lt
  have hz2 := hx2.size
  have hzb1 := hb1.size
  obtain ⟨y0, y1, y2, y3⟩ := hbd2.c4
  clear hbd1 hbr1
  go_wp2_with (at_delete; refine wpList_delete_own _ rfl _ _ 120 9 rfl 3 lawStr Tryz.underlying120 _ w1.heap.size m.fNames.length Dm rfl hown _ _ rfl hkey ?_; intro w3 hown3 hturn3; have hT3 : Turn [w1.heap.size] w2 w3 := Turn.ofGrown hturn3.grown (fun k hk => by cases hk; simp); have hbd3 := hbd2.turn hT3 (by simp; omega); have hbr3 := hbr2.turn hT3 (by simp; omega); have yy0 := hbd3.cell 0 _ rfl; have yy1 := hbd3.cell 1 _ rfl; have yy2 := hbd3.cell 2 _ rfl; have yy3 := hbd3.cell 3 _ rfl)
  have hb3 : Below w.heap.size w w3 := hb2.trans (hT3.below (fun k hk => by simp at hk; omega) hb2.size)
  clear y0 y1 y2 y3 hown hturn3
  obtain ⟨kd, hkd⟩ : ∃ kd, kd = keepD { m with fNames := without m.fNames s } := ⟨_, rfl⟩
  have HKD := Hid.mk hkd
  clear hkd
  have hcall := withNames_any _ m w1.heap.size m.fNames.length _ (without m.fNames s) w3 (rDisk_good.mono (rDisk_good.below HR.out hb3) hb3.size) hown3 HM.out HRI.out HLN.out HWN.out
  rw [← HKD.out] at hcall
  clear hown3
  refine hcall.mono ?_
  rintro e w4 ⟨cs3, F3, rfl, ho3, hN3, hge3, hx4⟩
  have hb4 := bthen hb3 hx4
  have hbr4 := hbr3.under hx4
  have hl4 := hbr4.lt
  have hz4 := hb3.size
  have hlq4 := hbr3.lt
  obtain ⟨q0, p0, q1, p1, q2, p2, G0, G1, G2, rfl, _, _, _, _, rfl⟩ := oDisk_cells ho3
  have hkey : ∀ W', Turn [w.heap.size + 1] w4 W' → oDisk W' [.slice q0 (kd).fInodes.length p0, .slice q1 (kd).fNames.length p1, .slice q2 (kd).fSafe.length p2, .int .i64 (kd).fNext] (kd) (G0 ++ G1 ++ G2 ++ []) ∧ Below w.heap.size w W' := fun W' hT =>
   ⟨oDisk_good.frame ho3 (fun b hb => hT.block b (oDisk_good.lt ho3 b hb) (fun h => by simp at h; have := hge3 b hb; omega)), hb4.trans (hT.below (fun k hk => by simp at hk; omega) hb4.size)⟩
  have HKEY := Hid.mk hkey
  have HNQ := Hid.mk hN3
  have HGQ : Hid (∀ b, b ∈ G0 ++ G1 ++ G2 ++ [] → w.heap.size ≤ b) := fun b hb => by have := hge3 b hb; omega
  clear hkey ho3 hN3 hge3 
  obtain ⟨ze0, ze1, ze2, ze3⟩ := hbr4.c4
  obtain ⟨zf0, zf1, zf2, zf3⟩ := hbr4.f4
  go_wp2_with fail
  obtain ⟨h1, h3⟩ := HKEY.out _ (show Turn [w.heap.size + 1] w4 ((((w4.setCell ⟨w.heap.size + 1, 0, none⟩ (.slice q0 (kd).fInodes.length p0)).setCell ⟨w.heap.size + 1, 1, none⟩ (.slice q1 (kd).fNames.length p1)).setCell ⟨w.heap.size + 1, 2, none⟩ (.slice q2 (kd).fSafe.length p2)).setCell ⟨w.heap.size + 1, 3, none⟩ (.int .i64 (kd).fNext)) from turn4 _ _ _ _ _ _)
  exact bodyPost_ret (v := .tuple #[.agg #[.slice q0 (kd).fInodes.length p0, .slice q1 (kd).fNames.length p1, .slice q2 (kd).fSafe.length p2, .int .i64 (kd).fNext], .int .i64 0]) (by simp [results, Tryz.results80, go_sem, *]) rfl ⟨[.slice q0 (kd).fInodes.length p0, .slice q1 (kd).fNames.length p1, .slice q2 (kd).fSafe.length p2, .int .i64 (kd).fNext], _, by rw [HCz.out], by rw [HV.out, ← HKD.out]; exact h1, HNQ.out, HGQ.out, h3⟩
 ·have HV : Hid (removeP m s = m) := by show _ = _; unfold removeP; rw [if_neg hC]
  have hcn : (callP m s == 0) = false := beq_eq_false_iff_ne.2 hC
  obtain ⟨cp, hcp⟩ : ∃ cp, callP m s = cp := ⟨_, rfl⟩
  rw [hcp] at hcn ⊢
  have HCP := Hid.mk hcp
  clear hcp hC
  go_wp2_with fail
  refine (copyDisk_any _ (m) w1 (rDisk_good.mono (rDisk_good.below HR.out hb1) hb1.size) HW.out).mono ?_
  rintro e w2 ⟨cs3, F3, rfl, ho3, hN3, hge3, hx2⟩
  have hb2 := bthen hb1 hx2
  have hbr2 := hbr1.under hx2
  have hl2 := hbr2.lt
  have hz2 := hb1.size
  have hlq2 := hbr1.lt
  obtain ⟨q0, p0, q1, p1, q2, p2, G0, G1, G2, rfl, _, _, _, _, rfl⟩ := oDisk_cells ho3
  have hkey : ∀ W', Turn [w.heap.size + 1] w2 W' → oDisk W' [.slice q0 m.fInodes.length p0, .slice q1 m.fNames.length p1, .slice q2 m.fSafe.length p2, .int .i64 m.fNext] (m) (G0 ++ G1 ++ G2 ++ []) ∧ Below w.heap.size w W' := fun W' hT =>
   ⟨oDisk_good.frame ho3 (fun b hb => hT.block b (oDisk_good.lt ho3 b hb) (fun h => by simp at h; have := hge3 b hb; omega)), hb2.trans (hT.below (fun k hk => by simp at hk; omega) hb2.size)⟩
  have HKEY := Hid.mk hkey
  have HNQ := Hid.mk hN3
  have HGQ : Hid (∀ b, b ∈ G0 ++ G1 ++ G2 ++ [] → w.heap.size ≤ b) := fun b hb => by have := hge3 b hb; omega
  clear hkey ho3 hN3 hge3 
  obtain ⟨ze0, ze1, ze2, ze3⟩ := hbr2.c4
  obtain ⟨zf0, zf1, zf2, zf3⟩ := hbr2.f4
  go_wp2_with fail
  obtain ⟨h1, h3⟩ := HKEY.out _ (show Turn [w.heap.size + 1] w2 ((((w2.setCell ⟨w.heap.size + 1, 0, none⟩ (.slice q0 m.fInodes.length p0)).setCell ⟨w.heap.size + 1, 1, none⟩ (.slice q1 m.fNames.length p1)).setCell ⟨w.heap.size + 1, 2, none⟩ (.slice q2 m.fSafe.length p2)).setCell ⟨w.heap.size + 1, 3, none⟩ (.int .i64 m.fNext)) from turn4 _ _ _ _ _ _)
  exact bodyPost_ret (v := .tuple #[.agg #[.slice q0 m.fInodes.length p0, .slice q1 m.fNames.length p1, .slice q2 m.fSafe.length p2, .int .i64 m.fNext], .int .i64 cp]) (by simp [results, Tryz.results80, go_sem, *]) rfl ⟨[.slice q0 m.fInodes.length p0, .slice q1 m.fNames.length p1, .slice q2 m.fSafe.length p2, .int .i64 m.fNext], _, by rw [HCP.out], by rw [HV.out]; exact h1, HNQ.out, HGQ.out, h3⟩
end Go.Proofs.YtddejboifpepcaaGreatDoor

namespace Go.Proofs.YtddejboifpepcaaGreatDoor
open Go.RowKit
theorem Bx.new' (w : World) (vs : List Value) (t : TypeId) {b : Nat} (hb : b = w.heap.size) : Bx (w.alloc (.cells vs.toArray t)) b vs := by
 rw [hb]
 exact Bx.new w vs t
theorem Bw.set4 {w : World} {b : Nat} {t : TypeId} {vs : List Value} (h : Bw w b t vs) (hl : vs.length = 4) (x0 x1 x2 x3 : Value) : Bw ((((w.setCell ⟨b, 0, none⟩ x0).setCell ⟨b, 1, none⟩ x1).setCell ⟨b, 2, none⟩ x2).setCell ⟨b, 3, none⟩ x3) b t [x0, x1, x2, x3] := by
 have h4 := (((h.put 0 x0).put 1 x1).put 2 x2).put 3 x3
 obtain ⟨y0, y1, y2, y3, rfl⟩ : ∃ y0 y1 y2 y3, vs = [y0, y1, y2, y3] := by
  match vs, hl with
  | [y0, y1, y2, y3], _ => exact ⟨y0, y1, y2, y3, rfl⟩
 exact h4
def SwW (w : World) (t : ByteArray) (vb : Value) (s : ByteArray) (g : Nat) (W : World) (cs : List Value) (d : MDisk) (F : List Nat) : Prop :=
 Bw W w.heap.size 34 cs ∧ oDisk W cs d F ∧ F.Nodup ∧ (∀ b, b ∈ F → w.heap.size + 5 ≤ b) ∧
 Bx W (w.heap.size + 1) [.string t] ∧ Bx W (w.heap.size + 1 + 1) [vb] ∧ Bx W (w.heap.size + 1 + 1 + 1) [.string s] ∧ Bw W (w.heap.size + 1 + 1 + 1 + 1) 34 [.slice none 0 0, .slice none 0 0, .slice none 0 0, .int .i64 0] ∧
 (w.heap.size + 5 ≤ g ∧ Bx W g [.func (.func 81) #[] #[.pointer (some ⟨w.heap.size + 1, 0, none⟩)], .func (.func 82) #[] #[.pointer (some ⟨w.heap.size + 1, 0, none⟩), .pointer (some ⟨w.heap.size + 1 + 1, 0, none⟩)], .func (.func 84) #[] #[.pointer (some ⟨w.heap.size + 1, 0, none⟩)], .func (.func 86) #[] #[.pointer (some ⟨w.heap.size + 1, 0, none⟩), .pointer (some ⟨w.heap.size + 1 + 1 + 1, 0, none⟩)], .func (.func 88) #[] #[]]) ∧ Below w.heap.size w W
theorem SwW.size {w : World} {t : ByteArray} {vb : Value} {s : ByteArray} {g : Nat} {W : World} {cs : List Value} {d : MDisk} {F : List Nat} (h : SwW w t vb s g W cs d F) : w.heap.size + 5 ≤ W.heap.size := by
 have := h.2.2.2.2.2.2.2.1.lt
 omega
theorem SwW.step {w : World} {t : ByteArray} {vb : Value} {s : ByteArray} {g : Nat} {W W' : World} {cs : List Value} {d d' : MDisk} {F F' : List Nat} {x0 x1 x2 x3 : Value} (h : SwW w t vb s g W cs d F) (hl : cs.length = 4) (hx : Below W.heap.size W W')
  (ho : oDisk W' [x0, x1, x2, x3] d' F') (hN : F'.Nodup) (hge : ∀ b, b ∈ F' → W.heap.size ≤ b) :
  SwW w t vb s g ((((W'.setCell ⟨w.heap.size, 0, none⟩ x0).setCell ⟨w.heap.size, 1, none⟩ x1).setCell ⟨w.heap.size, 2, none⟩ x2).setCell ⟨w.heap.size, 3, none⟩ x3) [x0, x1, x2, x3] d' F' := by
 have hsz := h.size
 obtain ⟨h1, h2, h3, h4, h5, h6, h7, h8, ⟨h9, h10⟩, h11⟩ := h
 have hT := turn4 W' w.heap.size x0 x1 x2 x3
 have hb := bthen h11 hx
 refine ⟨(h1.under hx).set4 hl x0 x1 x2 x3, oDisk_good.frame ho (fun b hb => hT.block b (oDisk_good.lt ho b hb) (by intro hh; simp at hh; have := hge b hb; omega)), hN, fun b hb => by have := hge b hb; omega,
  (h5.under hx).turn hT (by simp), (h6.under hx).turn hT (by simp; omega), (h7.under hx).turn hT (by simp; omega), (h8.under hx).turn hT (by simp; omega), ⟨h9, (h10.under hx).turn hT (by simp; omega)⟩, hb.trans (hT.below (fun k hk => by simp at hk; omega) hb.size)⟩
set_option maxHeartbeats 8000000 in
theorem switch_any (cs : List Value) (m : MDisk) (t : ByteArray) (vb : Value) (zb : List Int) (s : ByteArray) (w : World) (hr : rDisk w.heap.size w cs m) (hw : wDisk m ≤ 1048576) (ht : t.size ≤ 1048576) (hs : s.size ≤ 1048576) (hvb : rdB w.heap.size w vb zb) (hzb : zb.length ≤ 1048576) :
  Calls Tryz.prog 36 #[.agg cs.toArray, .string t, vb, .string s] w fun e w' => ∃ (cs' : List Value) (F : List Nat), e = .returned (.tuple #[.agg cs'.toArray, .int .i64 (switchP m t zb s).2]) ∧ oDisk w' cs' (switchP m t zb s).1 F ∧ F.Nodup ∧ (∀ b, b ∈ F → w.heap.size ≤ b) ∧ Below w.heap.size w w' := by
 have hq := hr
 obtain ⟨a0, c0, a1, c1, a2, c2, rfl, hI, hNm, hSf, hnx, _⟩ := hq
 obtain ⟨ab, cb, rfl, hlb⟩ := hvb
 have HVB : Hid (rdB w.heap.size w (.slice ab zb.length cb) zb) := ⟨ab, cb, rfl, hlb⟩
 have HW := Hid.mk hw
 have HR := Hid.mk hr
 clear hr hI hNm hSf hw hlb
 obtain ⟨wq, hwq⟩ : ∃ wq, wq = ((((w.alloc (.cells #[.slice a0 m.fInodes.length c0, .slice a1 m.fNames.length c1, .slice a2 m.fSafe.length c2, .int .i64 m.fNext] 34)).alloc (.cells #[.string t] 9)).alloc (.cells #[.slice ab zb.length cb] 63)).alloc (.cells #[.string s] 9)).alloc (.cells #[.slice none 0 0, .slice none 0 0, .slice none 0 0, .int .i64 0] 34) := ⟨_, rfl⟩
 have hzq : wq.heap.size = w.heap.size + 5 := by rw [hwq]; simp
 have hbW : Below w.heap.size w wq := by rw [hwq]; exact ((((Below.refl _ _).alloc (Nat.le_refl _) _).alloc (by simp) _ |>.alloc (by simp; omega) _).alloc (by simp; omega) _).alloc (by simp; omega) _
 have hbd : Bw wq w.heap.size 34 [.slice a0 m.fInodes.length c0, .slice a1 m.fNames.length c1, .slice a2 m.fSafe.length c2, .int .i64 m.fNext] := by rw [hwq]; exact ((((Bw.new _ _ _).alloc _).alloc _).alloc _).alloc _
 have hbt : Bx wq (w.heap.size + 1) [.string t] := by rw [hwq]; exact (((Bx.new' _ _ _ (by simp)).alloc _).alloc _).alloc _
 have hbb : Bx wq (w.heap.size + 1 + 1) [.slice ab zb.length cb] := by rw [hwq]; exact ((Bx.new' _ _ _ (by simp)).alloc _).alloc _
 have hbs : Bx wq (w.heap.size + 1 + 1 + 1) [.string s] := by rw [hwq]; exact (Bx.new' _ _ _ (by simp)).alloc _
 have hbr : Bw wq (w.heap.size + 1 + 1 + 1 + 1) 34 [.slice none 0 0, .slice none 0 0, .slice none 0 0, .int .i64 0] := by rw [hwq]; exact Bw.new' _ _ _ (by simp)
 go_enter Tryz.func36, Tryz.ntmps36
 go_wp2_with fail
 rw [← hwq]
 clear hwq
 refine (implRemove_c _ m t wq (rDisk_good.mono (rDisk_good.below HR.out hbW) hbW.size) (by omega) HW.out ht).mono ?_
 obtain ⟨mr, hmr⟩ : ∃ mr, mr = removeP m t := ⟨_, rfl⟩
 rw [← hmr]
 have HMR := Hid.mk hmr
 have hwr : wDisk mr ≤ 1048576 := by rw [hmr]; exact small_remove HW.out
 clear hmr
 rintro e w1 ⟨cs1, F1, rfl, ho1, hN1, hge1, hx1⟩
 obtain ⟨q0, qp0, q1, qp1, q2, qp2, E0, E1, E2, rfl, _, _, _, _, rfl⟩ := oDisk_cells ho1
 have hd1 := hbd.under hx1
 have hz1 := hx1.size
 obtain ⟨e0, f0, e1, f1, e2, f2, e3, f3⟩ := hd1.c8
 have hlt1 := hd1.lt
 obtain ⟨wg, hwg⟩ : ∃ wg, wg = ((((w1.setCell ⟨w.heap.size, 0, none⟩ (.slice q0 mr.fInodes.length qp0)).setCell ⟨w.heap.size, 1, none⟩ (.slice q1 mr.fNames.length qp1)).setCell ⟨w.heap.size, 2, none⟩ (.slice q2 mr.fSafe.length qp2)).setCell ⟨w.heap.size, 3, none⟩ (.int .i64 mr.fNext)) := ⟨_, rfl⟩
 have hzg : wg.heap.size = w1.heap.size := by rw [hwg]; simp
 obtain ⟨wf, hwf⟩ : ∃ wf, wf = wg.alloc (.cells #[.func (.func 81) #[] #[.pointer (some ⟨w.heap.size + 1, 0, none⟩)], .func (.func 82) #[] #[.pointer (some ⟨w.heap.size + 1, 0, none⟩), .pointer (some ⟨w.heap.size + 1 + 1, 0, none⟩)], .func (.func 84) #[] #[.pointer (some ⟨w.heap.size + 1, 0, none⟩)], .func (.func 86) #[] #[.pointer (some ⟨w.heap.size + 1, 0, none⟩), .pointer (some ⟨w.heap.size + 1 + 1 + 1, 0, none⟩)], .func (.func 88) #[] #[]] 66) := ⟨_, rfl⟩
 have hS0 : SwW w t (.slice ab zb.length cb) s w1.heap.size wf [.slice q0 mr.fInodes.length qp0, .slice q1 mr.fNames.length qp1, .slice q2 mr.fSafe.length qp2, .int .i64 mr.fNext] mr (E0 ++ E1 ++ E2 ++ []) := by
  have hT := turn4 w1 w.heap.size (.slice q0 mr.fInodes.length qp0) (.slice q1 mr.fNames.length qp1) (.slice q2 mr.fSafe.length qp2) (.int .i64 mr.fNext)
  rw [← hwg] at hT
  have hbq := bthen hbW hx1
  have hB := hbq.trans (hT.below (fun k hk => by simp at hk; omega) hbq.size)
  have hf : Below wg.heap.size wg wf := by rw [hwf]; exact (Below.refl _ _).alloc (Nat.le_refl _) _
  have ho : oDisk wg [.slice q0 mr.fInodes.length qp0, .slice q1 mr.fNames.length qp1, .slice q2 mr.fSafe.length qp2, .int .i64 mr.fNext] mr (E0 ++ E1 ++ E2 ++ []) := oDisk_good.frame ho1 (fun b hb => hT.block b (oDisk_good.lt ho1 b hb) (by intro hh; simp at hh; have := hge1 b hb; omega))
  have h4 := hd1.set4 rfl (.slice q0 mr.fInodes.length qp0) (.slice q1 mr.fNames.length qp1) (.slice q2 mr.fSafe.length qp2) (.int .i64 mr.fNext)
  rw [← hwg] at h4
  refine ⟨h4.under hf, oDisk_good.frame ho (fun b hb => hf.block b (oDisk_good.lt ho b hb)), hN1, fun b hb => by have := hge1 b hb; omega, ((hbt.under hx1).turn hT (by simp)).under hf, ((hbb.under hx1).turn hT (by simp; omega)).under hf, ((hbs.under hx1).turn hT (by simp; omega)).under hf, ((hbr.under hx1).turn hT (by simp; omega)).under hf, ⟨by omega, ?_⟩, bthen hB hf⟩
  rw [← hzg, hwf]
  exact Bx.new _ _ _
 clear hd1 hbd hbt hbb hbs hbr ho1 hN1 hge1
 go_wp2_with fail
 rw [← hwg, ← hwf]
 clear hwg hwf e0 e1 e2 e3 f0 f1 f2 f3
 generalize w1.heap.size = g at *
 go_loopw [10, 25] (fun cv kv wr => ∃ (k : Nat) (cs2 : List Value) (F2 : List Nat), k ≤ 5 ∧ kv = .int .i64 k ∧ cv = .int .i64 0 ∧ SwAt m t zb s k ∧ SwW w t (.slice ab zb.length cb) s g wr cs2 (swD mr t zb s k) F2) (fun _ kv _ => 5 - (intOf kv).toNat)
 case atStart => exact ⟨0, _, _, by omega, rfl, rfl, SwAt.start _ _ _ _, hS0⟩
 case round =>
  obtain ⟨k, cs2, F2, hk, rfl, rfl, hat, hS⟩ := hrel
  clear hS0
  have hsm := swD_small (t := t) (b := zb) (s := s) hwr k
  have hsz := hS.size
  have HAT := Hid.mk hat
  have HS := Hid.mk hS
  clear hat hS
  by_cases h5 : k = 5
  ·subst h5
   have HRES := Hid.mk (SwAt.done HAT.out)
   rw [← HMR.out] at HRES
   generalize swD mr t zb s 5 = d2 at *
   obtain ⟨y0, yp0, y1, yp1, y2, yp2, Y0, Y1, Y2, rfl, _, _, _, _, rfl⟩ := oDisk_cells HS.out.2.1
   have r1 := HS.out.2.2.2.2.2.2.2.1
   have x0 := HS.out.1.cell 0 _ rfl
   have r10 := r1.cell 0 _ rfl
   have rf0 := r1.free 0
   have x1 := HS.out.1.cell 1 _ rfl
   have r11 := r1.cell 1 _ rfl
   have rf1 := r1.free 1
   have x2 := HS.out.1.cell 2 _ rfl
   have r12 := r1.cell 2 _ rfl
   have rf2 := r1.free 2
   have x3 := HS.out.1.cell 3 _ rfl
   have r13 := r1.cell 3 _ rfl
   have rf3 := r1.free 3
   have hlr := r1.lt
   have hld := HS.out.1.lt
   have hT := turn4 wr (w.heap.size + 1 + 1 + 1 + 1) (.slice y0 d2.fInodes.length yp0) (.slice y1 d2.fNames.length yp1) (.slice y2 d2.fSafe.length yp2) (.int .i64 d2.fNext)
   have HB : Hid (Below w.heap.size w ((((wr.setCell ⟨w.heap.size + 1 + 1 + 1 + 1, 0, none⟩ (.slice y0 d2.fInodes.length yp0)).setCell ⟨w.heap.size + 1 + 1 + 1 + 1, 1, none⟩ (.slice y1 d2.fNames.length yp1)).setCell ⟨w.heap.size + 1 + 1 + 1 + 1, 2, none⟩ (.slice y2 d2.fSafe.length yp2)).setCell ⟨w.heap.size + 1 + 1 + 1 + 1, 3, none⟩ (.int .i64 d2.fNext))) := HS.out.2.2.2.2.2.2.2.2.2.trans (hT.below (fun k hk => by simp at hk; omega) HS.out.2.2.2.2.2.2.2.2.2.size)
   have HO : Hid (oDisk ((((wr.setCell ⟨w.heap.size + 1 + 1 + 1 + 1, 0, none⟩ (.slice y0 d2.fInodes.length yp0)).setCell ⟨w.heap.size + 1 + 1 + 1 + 1, 1, none⟩ (.slice y1 d2.fNames.length yp1)).setCell ⟨w.heap.size + 1 + 1 + 1 + 1, 2, none⟩ (.slice y2 d2.fSafe.length yp2)).setCell ⟨w.heap.size + 1 + 1 + 1 + 1, 3, none⟩ (.int .i64 d2.fNext)) [.slice y0 d2.fInodes.length yp0, .slice y1 d2.fNames.length yp1, .slice y2 d2.fSafe.length yp2, .int .i64 d2.fNext] d2 _) := oDisk_good.frame HS.out.2.1 (fun b hb => hT.block b (oDisk_good.lt HS.out.2.1 b hb) (by intro h; simp at h; have := HS.out.2.2.2.1 b hb; omega))
   have HN := Hid.mk HS.out.2.2.1
   have HG := Hid.mk HS.out.2.2.2.1
   clear hT r1
   go_wp2_with fail
   exact bodyPost_ret (v := .tuple #[.agg #[.slice y0 d2.fInodes.length yp0, .slice y1 d2.fNames.length yp1, .slice y2 d2.fSafe.length yp2, .int .i64 d2.fNext], .int .i64 0]) (by simp [results, Tryz.results36, go_sem, *]) rfl ⟨[.slice y0 d2.fInodes.length yp0, .slice y1 d2.fNames.length yp1, .slice y2 d2.fSafe.length yp2, .int .i64 d2.fNext], _, by rw [HRES.out], by rw [HRES.out]; exact HO.out, HN.out, (fun b hb => by have := HG.out b hb; omega), HB.out⟩
  ·have h5l : k < 5 := by omega
   have HON := Hid.mk (fun h => SwAt.on HAT.out h5l h)
   have HOU := Hid.mk (fun h => SwAt.out HAT.out h5l h)
   rw [← HMR.out] at HON HOU
   rcases (show k = 0 ∨ k = 1 ∨ k = 2 ∨ k = 3 ∨ k = 4 from by omega) with rfl | rfl | rfl | rfl | rfl
   ·have HD : Hid (swD mr t zb s (0 + 1) = createP (swD mr t zb s 0) t) := rfl
    have HC : Hid (swC mr t zb s 0 = createC (swD mr t zb s 0) t) := rfl
    generalize swD mr t zb s 0 = d2 at *
    obtain ⟨y0, yp0, y1, yp1, y2, yp2, Y0, Y1, Y2, rfl, _, _, _, _, rfl⟩ := oDisk_cells HS.out.2.1
    obtain ⟨x0, x1, x2, x3⟩ := HS.out.1.c4
    have hfn := HS.out.2.2.2.2.2.2.2.2.1.2.2 0 _ rfl
    have hfl := HS.out.2.2.2.2.2.2.2.2.1.2.1
    have hrd := oDisk_good.read HS.out.2.1
    have hBw := HS.out.2.2.2.2.2.2.2.2.2
    go_wp2_with fail
    refine (sw1_any _ d2 t (w.heap.size + 1) wr hrd hsm ht HS.out.2.2.2.2.1).mono ?_
    rw [← HD.out, ← HC.out]
    generalize hd3 : swD mr t zb s (0 + 1) = d3 at *
    have HD3 := Hid.mk hd3
    clear hd3
    generalize swC mr t zb s 0 = c3 at *
    rintro e w3 ⟨cs3, F3, rfl, ho3, hN3, hge3, hx3⟩
    obtain ⟨z0, zp0, z1, zp1, z2, zp2, Z0, Z1, Z2, rfl, _, _, _, _, rfl⟩ := oDisk_cells ho3
    have hb3 := HS.out.1.under hx3
    obtain ⟨v0, g0, v1, g1, v2, g2, v3, g3⟩ := hb3.c8
    have hl3 := hb3.lt
    have HS3 := Hid.mk (HS.out.step rfl hx3 ho3 hN3 hge3)
    obtain ⟨w4, hw4⟩ : ∃ w4, w4 = ((((w3.setCell ⟨w.heap.size, 0, none⟩ (.slice z0 d3.fInodes.length zp0)).setCell ⟨w.heap.size, 1, none⟩ (.slice z1 d3.fNames.length zp1)).setCell ⟨w.heap.size, 2, none⟩ (.slice z2 d3.fSafe.length zp2)).setCell ⟨w.heap.size, 3, none⟩ (.int .i64 d3.fNext)) := ⟨_, rfl⟩
    rw [← hw4] at HS3
    clear ho3 hN3 hge3 hb3 hrd x0 x1 x2 x3 hfn
    by_cases hc0 : c3 = 0
    ·have HN4 := Hid.mk (HON.out hc0)
     subst hc0
     go_wp2_with fail
     rw [← hw4]
     clear hw4
     go_roundw
     case rel => exact ⟨1, _, _, by omega, by go_num, rfl, HN4.out, by rw [HD3.out]; exact HS3.out⟩
     case measure => simp [intOf]
    ·have HRES := Hid.mk (HOU.out hc0)
     have hs4 := HS3.out.size
     have hz4 : w4.heap.size = w3.heap.size := by rw [hw4]; simp
     clear HON HOU HAT
     have r1 := HS3.out.2.2.2.2.2.2.2.1
     have x0 := HS3.out.1.cell 0 _ rfl
     have r10 := r1.cell 0 _ rfl
     have rf0 := r1.free 0
     have x1 := HS3.out.1.cell 1 _ rfl
     have r11 := r1.cell 1 _ rfl
     have rf1 := r1.free 1
     have x2 := HS3.out.1.cell 2 _ rfl
     have r12 := r1.cell 2 _ rfl
     have rf2 := r1.free 2
     have x3 := HS3.out.1.cell 3 _ rfl
     have r13 := r1.cell 3 _ rfl
     have rf3 := r1.free 3
     have hlr := r1.lt
     have hld := HS3.out.1.lt
     have hT := turn4 w4 (w.heap.size + 1 + 1 + 1 + 1) (.slice z0 d3.fInodes.length zp0) (.slice z1 d3.fNames.length zp1) (.slice z2 d3.fSafe.length zp2) (.int .i64 d3.fNext)
     have HB : Hid (Below w.heap.size w ((((w4.setCell ⟨w.heap.size + 1 + 1 + 1 + 1, 0, none⟩ (.slice z0 d3.fInodes.length zp0)).setCell ⟨w.heap.size + 1 + 1 + 1 + 1, 1, none⟩ (.slice z1 d3.fNames.length zp1)).setCell ⟨w.heap.size + 1 + 1 + 1 + 1, 2, none⟩ (.slice z2 d3.fSafe.length zp2)).setCell ⟨w.heap.size + 1 + 1 + 1 + 1, 3, none⟩ (.int .i64 d3.fNext))) := HS3.out.2.2.2.2.2.2.2.2.2.trans (hT.below (fun k hk => by simp at hk; omega) HS3.out.2.2.2.2.2.2.2.2.2.size)
     have HO : Hid (oDisk ((((w4.setCell ⟨w.heap.size + 1 + 1 + 1 + 1, 0, none⟩ (.slice z0 d3.fInodes.length zp0)).setCell ⟨w.heap.size + 1 + 1 + 1 + 1, 1, none⟩ (.slice z1 d3.fNames.length zp1)).setCell ⟨w.heap.size + 1 + 1 + 1 + 1, 2, none⟩ (.slice z2 d3.fSafe.length zp2)).setCell ⟨w.heap.size + 1 + 1 + 1 + 1, 3, none⟩ (.int .i64 d3.fNext)) [.slice z0 d3.fInodes.length zp0, .slice z1 d3.fNames.length zp1, .slice z2 d3.fSafe.length zp2, .int .i64 d3.fNext] d3 _) := oDisk_good.frame HS3.out.2.1 (fun b hb => hT.block b (oDisk_good.lt HS3.out.2.1 b hb) (by intro h; simp at h; have := HS3.out.2.2.2.1 b hb; omega))
     have HN := Hid.mk HS3.out.2.2.1
     have HG := Hid.mk HS3.out.2.2.2.1
     clear hT r1
     simp only [hw4] at x0 x1 x2 x3 r10 r11 r12 r13 rf0 rf1 rf2 rf3
     simp only [hw4] at HB HO
     go_wp2_with fail
     exact bodyPost_ret (v := .tuple #[.agg #[.slice z0 d3.fInodes.length zp0, .slice z1 d3.fNames.length zp1, .slice z2 d3.fSafe.length zp2, .int .i64 d3.fNext], .int .i64 c3]) (by simp [results, Tryz.results36, go_sem, *]) rfl ⟨[.slice z0 d3.fInodes.length zp0, .slice z1 d3.fNames.length zp1, .slice z2 d3.fSafe.length zp2, .int .i64 d3.fNext], _, by rw [HRES.out], by rw [HRES.out]; exact HO.out, HN.out, (fun b hb => by have := HG.out b hb; omega), HB.out⟩
   ·have HD : Hid (swD mr t zb s (1 + 1) = appendP (swD mr t zb s 1) t zb) := rfl
    have HC : Hid (swC mr t zb s 1 = appendC (swD mr t zb s 1) t zb) := rfl
    generalize swD mr t zb s 1 = d2 at *
    obtain ⟨y0, yp0, y1, yp1, y2, yp2, Y0, Y1, Y2, rfl, _, _, _, _, rfl⟩ := oDisk_cells HS.out.2.1
    obtain ⟨x0, x1, x2, x3⟩ := HS.out.1.c4
    have hfn := HS.out.2.2.2.2.2.2.2.2.1.2.2 1 _ rfl
    have hfl := HS.out.2.2.2.2.2.2.2.2.1.2.1
    have hrd := oDisk_good.read HS.out.2.1
    have hBw := HS.out.2.2.2.2.2.2.2.2.2
    go_wp2_with fail
    refine (sw2_any _ d2 t (.slice ab zb.length cb) zb hzb (w.heap.size + 1) (w.heap.size + 1 + 1) wr hrd hsm ht ((HVB.out.below hBw).mono hBw.size) HS.out.2.2.2.2.1 HS.out.2.2.2.2.2.1).mono ?_
    rw [← HD.out, ← HC.out]
    generalize hd3 : swD mr t zb s (1 + 1) = d3 at *
    have HD3 := Hid.mk hd3
    clear hd3
    generalize swC mr t zb s 1 = c3 at *
    rintro e w3 ⟨cs3, F3, rfl, ho3, hN3, hge3, hx3⟩
    obtain ⟨z0, zp0, z1, zp1, z2, zp2, Z0, Z1, Z2, rfl, _, _, _, _, rfl⟩ := oDisk_cells ho3
    have hb3 := HS.out.1.under hx3
    obtain ⟨v0, g0, v1, g1, v2, g2, v3, g3⟩ := hb3.c8
    have hl3 := hb3.lt
    have HS3 := Hid.mk (HS.out.step rfl hx3 ho3 hN3 hge3)
    obtain ⟨w4, hw4⟩ : ∃ w4, w4 = ((((w3.setCell ⟨w.heap.size, 0, none⟩ (.slice z0 d3.fInodes.length zp0)).setCell ⟨w.heap.size, 1, none⟩ (.slice z1 d3.fNames.length zp1)).setCell ⟨w.heap.size, 2, none⟩ (.slice z2 d3.fSafe.length zp2)).setCell ⟨w.heap.size, 3, none⟩ (.int .i64 d3.fNext)) := ⟨_, rfl⟩
    rw [← hw4] at HS3
    clear ho3 hN3 hge3 hb3 hrd x0 x1 x2 x3 hfn
    by_cases hc0 : c3 = 0
    ·have HN4 := Hid.mk (HON.out hc0)
     subst hc0
     go_wp2_with fail
     rw [← hw4]
     clear hw4
     go_roundw
     case rel => exact ⟨2, _, _, by omega, by go_num, rfl, HN4.out, by rw [HD3.out]; exact HS3.out⟩
     case measure => simp [intOf]
    ·have HRES := Hid.mk (HOU.out hc0)
     have hs4 := HS3.out.size
     have hz4 : w4.heap.size = w3.heap.size := by rw [hw4]; simp
     clear HON HOU HAT
     have r1 := HS3.out.2.2.2.2.2.2.2.1
     have x0 := HS3.out.1.cell 0 _ rfl
     have r10 := r1.cell 0 _ rfl
     have rf0 := r1.free 0
     have x1 := HS3.out.1.cell 1 _ rfl
     have r11 := r1.cell 1 _ rfl
     have rf1 := r1.free 1
     have x2 := HS3.out.1.cell 2 _ rfl
     have r12 := r1.cell 2 _ rfl
     have rf2 := r1.free 2
     have x3 := HS3.out.1.cell 3 _ rfl
     have r13 := r1.cell 3 _ rfl
     have rf3 := r1.free 3
     have hlr := r1.lt
     have hld := HS3.out.1.lt
     have hT := turn4 w4 (w.heap.size + 1 + 1 + 1 + 1) (.slice z0 d3.fInodes.length zp0) (.slice z1 d3.fNames.length zp1) (.slice z2 d3.fSafe.length zp2) (.int .i64 d3.fNext)
     have HB : Hid (Below w.heap.size w ((((w4.setCell ⟨w.heap.size + 1 + 1 + 1 + 1, 0, none⟩ (.slice z0 d3.fInodes.length zp0)).setCell ⟨w.heap.size + 1 + 1 + 1 + 1, 1, none⟩ (.slice z1 d3.fNames.length zp1)).setCell ⟨w.heap.size + 1 + 1 + 1 + 1, 2, none⟩ (.slice z2 d3.fSafe.length zp2)).setCell ⟨w.heap.size + 1 + 1 + 1 + 1, 3, none⟩ (.int .i64 d3.fNext))) := HS3.out.2.2.2.2.2.2.2.2.2.trans (hT.below (fun k hk => by simp at hk; omega) HS3.out.2.2.2.2.2.2.2.2.2.size)
     have HO : Hid (oDisk ((((w4.setCell ⟨w.heap.size + 1 + 1 + 1 + 1, 0, none⟩ (.slice z0 d3.fInodes.length zp0)).setCell ⟨w.heap.size + 1 + 1 + 1 + 1, 1, none⟩ (.slice z1 d3.fNames.length zp1)).setCell ⟨w.heap.size + 1 + 1 + 1 + 1, 2, none⟩ (.slice z2 d3.fSafe.length zp2)).setCell ⟨w.heap.size + 1 + 1 + 1 + 1, 3, none⟩ (.int .i64 d3.fNext)) [.slice z0 d3.fInodes.length zp0, .slice z1 d3.fNames.length zp1, .slice z2 d3.fSafe.length zp2, .int .i64 d3.fNext] d3 _) := oDisk_good.frame HS3.out.2.1 (fun b hb => hT.block b (oDisk_good.lt HS3.out.2.1 b hb) (by intro h; simp at h; have := HS3.out.2.2.2.1 b hb; omega))
     have HN := Hid.mk HS3.out.2.2.1
     have HG := Hid.mk HS3.out.2.2.2.1
     clear hT r1
     simp only [hw4] at x0 x1 x2 x3 r10 r11 r12 r13 rf0 rf1 rf2 rf3
     simp only [hw4] at HB HO
     go_wp2_with fail
     exact bodyPost_ret (v := .tuple #[.agg #[.slice z0 d3.fInodes.length zp0, .slice z1 d3.fNames.length zp1, .slice z2 d3.fSafe.length zp2, .int .i64 d3.fNext], .int .i64 c3]) (by simp [results, Tryz.results36, go_sem, *]) rfl ⟨[.slice z0 d3.fInodes.length zp0, .slice z1 d3.fNames.length zp1, .slice z2 d3.fSafe.length zp2, .int .i64 d3.fNext], _, by rw [HRES.out], by rw [HRES.out]; exact HO.out, HN.out, (fun b hb => by have := HG.out b hb; omega), HB.out⟩
   ·have HD : Hid (swD mr t zb s (2 + 1) = syncP (swD mr t zb s 2) t) := rfl
    have HC : Hid (swC mr t zb s 2 = callP (swD mr t zb s 2) t) := rfl
    generalize swD mr t zb s 2 = d2 at *
    obtain ⟨y0, yp0, y1, yp1, y2, yp2, Y0, Y1, Y2, rfl, _, _, _, _, rfl⟩ := oDisk_cells HS.out.2.1
    obtain ⟨x0, x1, x2, x3⟩ := HS.out.1.c4
    have hfn := HS.out.2.2.2.2.2.2.2.2.1.2.2 2 _ rfl
    have hfl := HS.out.2.2.2.2.2.2.2.2.1.2.1
    have hrd := oDisk_good.read HS.out.2.1
    have hBw := HS.out.2.2.2.2.2.2.2.2.2
    go_wp2_with fail
    refine (sw3_any _ d2 t (w.heap.size + 1) wr hrd hsm ht HS.out.2.2.2.2.1).mono ?_
    rw [← HD.out, ← HC.out]
    generalize hd3 : swD mr t zb s (2 + 1) = d3 at *
    have HD3 := Hid.mk hd3
    clear hd3
    generalize swC mr t zb s 2 = c3 at *
    rintro e w3 ⟨cs3, F3, rfl, ho3, hN3, hge3, hx3⟩
    obtain ⟨z0, zp0, z1, zp1, z2, zp2, Z0, Z1, Z2, rfl, _, _, _, _, rfl⟩ := oDisk_cells ho3
    have hb3 := HS.out.1.under hx3
    obtain ⟨v0, g0, v1, g1, v2, g2, v3, g3⟩ := hb3.c8
    have hl3 := hb3.lt
    have HS3 := Hid.mk (HS.out.step rfl hx3 ho3 hN3 hge3)
    obtain ⟨w4, hw4⟩ : ∃ w4, w4 = ((((w3.setCell ⟨w.heap.size, 0, none⟩ (.slice z0 d3.fInodes.length zp0)).setCell ⟨w.heap.size, 1, none⟩ (.slice z1 d3.fNames.length zp1)).setCell ⟨w.heap.size, 2, none⟩ (.slice z2 d3.fSafe.length zp2)).setCell ⟨w.heap.size, 3, none⟩ (.int .i64 d3.fNext)) := ⟨_, rfl⟩
    rw [← hw4] at HS3
    clear ho3 hN3 hge3 hb3 hrd x0 x1 x2 x3 hfn
    by_cases hc0 : c3 = 0
    ·have HN4 := Hid.mk (HON.out hc0)
     subst hc0
     go_wp2_with fail
     rw [← hw4]
     clear hw4
     go_roundw
     case rel => exact ⟨3, _, _, by omega, by go_num, rfl, HN4.out, by rw [HD3.out]; exact HS3.out⟩
     case measure => simp [intOf]
    ·have HRES := Hid.mk (HOU.out hc0)
     have hs4 := HS3.out.size
     have hz4 : w4.heap.size = w3.heap.size := by rw [hw4]; simp
     clear HON HOU HAT
     have r1 := HS3.out.2.2.2.2.2.2.2.1
     have x0 := HS3.out.1.cell 0 _ rfl
     have r10 := r1.cell 0 _ rfl
     have rf0 := r1.free 0
     have x1 := HS3.out.1.cell 1 _ rfl
     have r11 := r1.cell 1 _ rfl
     have rf1 := r1.free 1
     have x2 := HS3.out.1.cell 2 _ rfl
     have r12 := r1.cell 2 _ rfl
     have rf2 := r1.free 2
     have x3 := HS3.out.1.cell 3 _ rfl
     have r13 := r1.cell 3 _ rfl
     have rf3 := r1.free 3
     have hlr := r1.lt
     have hld := HS3.out.1.lt
     have hT := turn4 w4 (w.heap.size + 1 + 1 + 1 + 1) (.slice z0 d3.fInodes.length zp0) (.slice z1 d3.fNames.length zp1) (.slice z2 d3.fSafe.length zp2) (.int .i64 d3.fNext)
     have HB : Hid (Below w.heap.size w ((((w4.setCell ⟨w.heap.size + 1 + 1 + 1 + 1, 0, none⟩ (.slice z0 d3.fInodes.length zp0)).setCell ⟨w.heap.size + 1 + 1 + 1 + 1, 1, none⟩ (.slice z1 d3.fNames.length zp1)).setCell ⟨w.heap.size + 1 + 1 + 1 + 1, 2, none⟩ (.slice z2 d3.fSafe.length zp2)).setCell ⟨w.heap.size + 1 + 1 + 1 + 1, 3, none⟩ (.int .i64 d3.fNext))) := HS3.out.2.2.2.2.2.2.2.2.2.trans (hT.below (fun k hk => by simp at hk; omega) HS3.out.2.2.2.2.2.2.2.2.2.size)
     have HO : Hid (oDisk ((((w4.setCell ⟨w.heap.size + 1 + 1 + 1 + 1, 0, none⟩ (.slice z0 d3.fInodes.length zp0)).setCell ⟨w.heap.size + 1 + 1 + 1 + 1, 1, none⟩ (.slice z1 d3.fNames.length zp1)).setCell ⟨w.heap.size + 1 + 1 + 1 + 1, 2, none⟩ (.slice z2 d3.fSafe.length zp2)).setCell ⟨w.heap.size + 1 + 1 + 1 + 1, 3, none⟩ (.int .i64 d3.fNext)) [.slice z0 d3.fInodes.length zp0, .slice z1 d3.fNames.length zp1, .slice z2 d3.fSafe.length zp2, .int .i64 d3.fNext] d3 _) := oDisk_good.frame HS3.out.2.1 (fun b hb => hT.block b (oDisk_good.lt HS3.out.2.1 b hb) (by intro h; simp at h; have := HS3.out.2.2.2.1 b hb; omega))
     have HN := Hid.mk HS3.out.2.2.1
     have HG := Hid.mk HS3.out.2.2.2.1
     clear hT r1
     simp only [hw4] at x0 x1 x2 x3 r10 r11 r12 r13 rf0 rf1 rf2 rf3
     simp only [hw4] at HB HO
     go_wp2_with fail
     exact bodyPost_ret (v := .tuple #[.agg #[.slice z0 d3.fInodes.length zp0, .slice z1 d3.fNames.length zp1, .slice z2 d3.fSafe.length zp2, .int .i64 d3.fNext], .int .i64 c3]) (by simp [results, Tryz.results36, go_sem, *]) rfl ⟨[.slice z0 d3.fInodes.length zp0, .slice z1 d3.fNames.length zp1, .slice z2 d3.fSafe.length zp2, .int .i64 d3.fNext], _, by rw [HRES.out], by rw [HRES.out]; exact HO.out, HN.out, (fun b hb => by have := HG.out b hb; omega), HB.out⟩
   ·have HD : Hid (swD mr t zb s (3 + 1) = renameP (swD mr t zb s 3) t s) := rfl
    have HC : Hid (swC mr t zb s 3 = renameC (swD mr t zb s 3) t s) := rfl
    generalize swD mr t zb s 3 = d2 at *
    obtain ⟨y0, yp0, y1, yp1, y2, yp2, Y0, Y1, Y2, rfl, _, _, _, _, rfl⟩ := oDisk_cells HS.out.2.1
    obtain ⟨x0, x1, x2, x3⟩ := HS.out.1.c4
    have hfn := HS.out.2.2.2.2.2.2.2.2.1.2.2 3 _ rfl
    have hfl := HS.out.2.2.2.2.2.2.2.2.1.2.1
    have hrd := oDisk_good.read HS.out.2.1
    have hBw := HS.out.2.2.2.2.2.2.2.2.2
    go_wp2_with fail
    refine (sw4_any _ d2 t s hs (w.heap.size + 1) (w.heap.size + 1 + 1 + 1) wr hrd hsm ht HS.out.2.2.2.2.1 HS.out.2.2.2.2.2.2.1).mono ?_
    rw [← HD.out, ← HC.out]
    generalize hd3 : swD mr t zb s (3 + 1) = d3 at *
    have HD3 := Hid.mk hd3
    clear hd3
    generalize swC mr t zb s 3 = c3 at *
    rintro e w3 ⟨cs3, F3, rfl, ho3, hN3, hge3, hx3⟩
    obtain ⟨z0, zp0, z1, zp1, z2, zp2, Z0, Z1, Z2, rfl, _, _, _, _, rfl⟩ := oDisk_cells ho3
    have hb3 := HS.out.1.under hx3
    obtain ⟨v0, g0, v1, g1, v2, g2, v3, g3⟩ := hb3.c8
    have hl3 := hb3.lt
    have HS3 := Hid.mk (HS.out.step rfl hx3 ho3 hN3 hge3)
    obtain ⟨w4, hw4⟩ : ∃ w4, w4 = ((((w3.setCell ⟨w.heap.size, 0, none⟩ (.slice z0 d3.fInodes.length zp0)).setCell ⟨w.heap.size, 1, none⟩ (.slice z1 d3.fNames.length zp1)).setCell ⟨w.heap.size, 2, none⟩ (.slice z2 d3.fSafe.length zp2)).setCell ⟨w.heap.size, 3, none⟩ (.int .i64 d3.fNext)) := ⟨_, rfl⟩
    rw [← hw4] at HS3
    clear ho3 hN3 hge3 hb3 hrd x0 x1 x2 x3 hfn
    by_cases hc0 : c3 = 0
    ·have HN4 := Hid.mk (HON.out hc0)
     subst hc0
     go_wp2_with fail
     rw [← hw4]
     clear hw4
     go_roundw
     case rel => exact ⟨4, _, _, by omega, by go_num, rfl, HN4.out, by rw [HD3.out]; exact HS3.out⟩
     case measure => simp [intOf]
    ·have HRES := Hid.mk (HOU.out hc0)
     have hs4 := HS3.out.size
     have hz4 : w4.heap.size = w3.heap.size := by rw [hw4]; simp
     clear HON HOU HAT
     have r1 := HS3.out.2.2.2.2.2.2.2.1
     have x0 := HS3.out.1.cell 0 _ rfl
     have r10 := r1.cell 0 _ rfl
     have rf0 := r1.free 0
     have x1 := HS3.out.1.cell 1 _ rfl
     have r11 := r1.cell 1 _ rfl
     have rf1 := r1.free 1
     have x2 := HS3.out.1.cell 2 _ rfl
     have r12 := r1.cell 2 _ rfl
     have rf2 := r1.free 2
     have x3 := HS3.out.1.cell 3 _ rfl
     have r13 := r1.cell 3 _ rfl
     have rf3 := r1.free 3
     have hlr := r1.lt
     have hld := HS3.out.1.lt
     have hT := turn4 w4 (w.heap.size + 1 + 1 + 1 + 1) (.slice z0 d3.fInodes.length zp0) (.slice z1 d3.fNames.length zp1) (.slice z2 d3.fSafe.length zp2) (.int .i64 d3.fNext)
     have HB : Hid (Below w.heap.size w ((((w4.setCell ⟨w.heap.size + 1 + 1 + 1 + 1, 0, none⟩ (.slice z0 d3.fInodes.length zp0)).setCell ⟨w.heap.size + 1 + 1 + 1 + 1, 1, none⟩ (.slice z1 d3.fNames.length zp1)).setCell ⟨w.heap.size + 1 + 1 + 1 + 1, 2, none⟩ (.slice z2 d3.fSafe.length zp2)).setCell ⟨w.heap.size + 1 + 1 + 1 + 1, 3, none⟩ (.int .i64 d3.fNext))) := HS3.out.2.2.2.2.2.2.2.2.2.trans (hT.below (fun k hk => by simp at hk; omega) HS3.out.2.2.2.2.2.2.2.2.2.size)
     have HO : Hid (oDisk ((((w4.setCell ⟨w.heap.size + 1 + 1 + 1 + 1, 0, none⟩ (.slice z0 d3.fInodes.length zp0)).setCell ⟨w.heap.size + 1 + 1 + 1 + 1, 1, none⟩ (.slice z1 d3.fNames.length zp1)).setCell ⟨w.heap.size + 1 + 1 + 1 + 1, 2, none⟩ (.slice z2 d3.fSafe.length zp2)).setCell ⟨w.heap.size + 1 + 1 + 1 + 1, 3, none⟩ (.int .i64 d3.fNext)) [.slice z0 d3.fInodes.length zp0, .slice z1 d3.fNames.length zp1, .slice z2 d3.fSafe.length zp2, .int .i64 d3.fNext] d3 _) := oDisk_good.frame HS3.out.2.1 (fun b hb => hT.block b (oDisk_good.lt HS3.out.2.1 b hb) (by intro h; simp at h; have := HS3.out.2.2.2.1 b hb; omega))
     have HN := Hid.mk HS3.out.2.2.1
     have HG := Hid.mk HS3.out.2.2.2.1
     clear hT r1
     simp only [hw4] at x0 x1 x2 x3 r10 r11 r12 r13 rf0 rf1 rf2 rf3
     simp only [hw4] at HB HO
     go_wp2_with fail
     exact bodyPost_ret (v := .tuple #[.agg #[.slice z0 d3.fInodes.length zp0, .slice z1 d3.fNames.length zp1, .slice z2 d3.fSafe.length zp2, .int .i64 d3.fNext], .int .i64 c3]) (by simp [results, Tryz.results36, go_sem, *]) rfl ⟨[.slice z0 d3.fInodes.length zp0, .slice z1 d3.fNames.length zp1, .slice z2 d3.fSafe.length zp2, .int .i64 d3.fNext], _, by rw [HRES.out], by rw [HRES.out]; exact HO.out, HN.out, (fun b hb => by have := HG.out b hb; omega), HB.out⟩
   ·have HD : Hid (swD mr t zb s (4 + 1) = syncDirP (swD mr t zb s 4)) := rfl
    have HC : Hid (swC mr t zb s 4 = syncDirC (swD mr t zb s 4)) := rfl
    generalize swD mr t zb s 4 = d2 at *
    obtain ⟨y0, yp0, y1, yp1, y2, yp2, Y0, Y1, Y2, rfl, _, _, _, _, rfl⟩ := oDisk_cells HS.out.2.1
    obtain ⟨x0, x1, x2, x3⟩ := HS.out.1.c4
    have hfn := HS.out.2.2.2.2.2.2.2.2.1.2.2 4 _ rfl
    have hfl := HS.out.2.2.2.2.2.2.2.2.1.2.1
    have hrd := oDisk_good.read HS.out.2.1
    have hBw := HS.out.2.2.2.2.2.2.2.2.2
    go_wp2_with fail
    refine (implSyncDir_c _ d2 wr hrd hsm).mono ?_
    rw [← HD.out, ← HC.out]
    generalize hd3 : swD mr t zb s (4 + 1) = d3 at *
    have HD3 := Hid.mk hd3
    clear hd3
    generalize swC mr t zb s 4 = c3 at *
    rintro e w3 ⟨cs3, F3, rfl, ho3, hN3, hge3, hx3⟩
    obtain ⟨z0, zp0, z1, zp1, z2, zp2, Z0, Z1, Z2, rfl, _, _, _, _, rfl⟩ := oDisk_cells ho3
    have hb3 := HS.out.1.under hx3
    obtain ⟨v0, g0, v1, g1, v2, g2, v3, g3⟩ := hb3.c8
    have hl3 := hb3.lt
    have HS3 := Hid.mk (HS.out.step rfl hx3 ho3 hN3 hge3)
    obtain ⟨w4, hw4⟩ : ∃ w4, w4 = ((((w3.setCell ⟨w.heap.size, 0, none⟩ (.slice z0 d3.fInodes.length zp0)).setCell ⟨w.heap.size, 1, none⟩ (.slice z1 d3.fNames.length zp1)).setCell ⟨w.heap.size, 2, none⟩ (.slice z2 d3.fSafe.length zp2)).setCell ⟨w.heap.size, 3, none⟩ (.int .i64 d3.fNext)) := ⟨_, rfl⟩
    rw [← hw4] at HS3
    clear ho3 hN3 hge3 hb3 hrd x0 x1 x2 x3 hfn
    by_cases hc0 : c3 = 0
    ·have HN4 := Hid.mk (HON.out hc0)
     subst hc0
     go_wp2_with fail
     rw [← hw4]
     clear hw4
     go_roundw
     case rel => exact ⟨5, _, _, by omega, by go_num, rfl, HN4.out, by rw [HD3.out]; exact HS3.out⟩
     case measure => simp [intOf]
    ·have HRES := Hid.mk (HOU.out hc0)
     have hs4 := HS3.out.size
     have hz4 : w4.heap.size = w3.heap.size := by rw [hw4]; simp
     clear HON HOU HAT
     have r1 := HS3.out.2.2.2.2.2.2.2.1
     have x0 := HS3.out.1.cell 0 _ rfl
     have r10 := r1.cell 0 _ rfl
     have rf0 := r1.free 0
     have x1 := HS3.out.1.cell 1 _ rfl
     have r11 := r1.cell 1 _ rfl
     have rf1 := r1.free 1
     have x2 := HS3.out.1.cell 2 _ rfl
     have r12 := r1.cell 2 _ rfl
     have rf2 := r1.free 2
     have x3 := HS3.out.1.cell 3 _ rfl
     have r13 := r1.cell 3 _ rfl
     have rf3 := r1.free 3
     have hlr := r1.lt
     have hld := HS3.out.1.lt
     have hT := turn4 w4 (w.heap.size + 1 + 1 + 1 + 1) (.slice z0 d3.fInodes.length zp0) (.slice z1 d3.fNames.length zp1) (.slice z2 d3.fSafe.length zp2) (.int .i64 d3.fNext)
     have HB : Hid (Below w.heap.size w ((((w4.setCell ⟨w.heap.size + 1 + 1 + 1 + 1, 0, none⟩ (.slice z0 d3.fInodes.length zp0)).setCell ⟨w.heap.size + 1 + 1 + 1 + 1, 1, none⟩ (.slice z1 d3.fNames.length zp1)).setCell ⟨w.heap.size + 1 + 1 + 1 + 1, 2, none⟩ (.slice z2 d3.fSafe.length zp2)).setCell ⟨w.heap.size + 1 + 1 + 1 + 1, 3, none⟩ (.int .i64 d3.fNext))) := HS3.out.2.2.2.2.2.2.2.2.2.trans (hT.below (fun k hk => by simp at hk; omega) HS3.out.2.2.2.2.2.2.2.2.2.size)
     have HO : Hid (oDisk ((((w4.setCell ⟨w.heap.size + 1 + 1 + 1 + 1, 0, none⟩ (.slice z0 d3.fInodes.length zp0)).setCell ⟨w.heap.size + 1 + 1 + 1 + 1, 1, none⟩ (.slice z1 d3.fNames.length zp1)).setCell ⟨w.heap.size + 1 + 1 + 1 + 1, 2, none⟩ (.slice z2 d3.fSafe.length zp2)).setCell ⟨w.heap.size + 1 + 1 + 1 + 1, 3, none⟩ (.int .i64 d3.fNext)) [.slice z0 d3.fInodes.length zp0, .slice z1 d3.fNames.length zp1, .slice z2 d3.fSafe.length zp2, .int .i64 d3.fNext] d3 _) := oDisk_good.frame HS3.out.2.1 (fun b hb => hT.block b (oDisk_good.lt HS3.out.2.1 b hb) (by intro h; simp at h; have := HS3.out.2.2.2.1 b hb; omega))
     have HN := Hid.mk HS3.out.2.2.1
     have HG := Hid.mk HS3.out.2.2.2.1
     clear hT r1
     simp only [hw4] at x0 x1 x2 x3 r10 r11 r12 r13 rf0 rf1 rf2 rf3
     simp only [hw4] at HB HO
     go_wp2_with fail
     exact bodyPost_ret (v := .tuple #[.agg #[.slice z0 d3.fInodes.length zp0, .slice z1 d3.fNames.length zp1, .slice z2 d3.fSafe.length zp2, .int .i64 d3.fNext], .int .i64 c3]) (by simp [results, Tryz.results36, go_sem, *]) rfl ⟨[.slice z0 d3.fInodes.length zp0, .slice z1 d3.fNames.length zp1, .slice z2 d3.fSafe.length zp2, .int .i64 d3.fNext], _, by rw [HRES.out], by rw [HRES.out]; exact HO.out, HN.out, (fun b hb => by have := HG.out b hb; omega), HB.out⟩
end Go.Proofs.YtddejboifpepcaaGreatDoor

namespace Go.Proofs.YtddejboifpepcaaGreatDoor
open Go.Proofs Go.Shelf
def layItoa_ren : Go.Shelf.Ren := ⟨fun | 171 => 89 | 243 => 116 | 246 => 128 | 283 => 138 | 284 => 139 | 285 => 140 | 286 => 141 | 129 => 149 | 317 => 148 | 318 => 150 | 319 => 151 | 320 => 152 | 337 => 162 | 338 => 163 | n => n, fun | 3 => 3 | 9 => 9 | 2 => 2 | 4 => 4 | 171 => 162 | 0 => 0 | 53 => 163 | 37 => 63 | 5 => 5 | 173 => 166 | 212 => 176 | 51 => 177 | 20 => 20 | 213 => 178 | 46 => 126 | 232 => 193 | 233 => 194 | n => n, fun | 17 => 0 | 18 => 2 | 19 => 3 | n => n⟩
theorem layItoa : Go.Proofs.LaysM.n171 Tryz.prog layItoa_ren := {
 mixed := by kernel_rfl
 f129 := Tryz.func149.trans (congrArg some (by kernel_rfl))
 f171 := Tryz.func89.trans (congrArg some (by kernel_rfl))
 f243 := Tryz.func116.trans (congrArg some (by kernel_rfl))
 f246 := Tryz.func128.trans (congrArg some (by kernel_rfl))
 f283 := Tryz.func138.trans (congrArg some (by kernel_rfl))
 f284 := Tryz.func139.trans (congrArg some (by kernel_rfl))
 f285 := Tryz.func140.trans (congrArg some (by kernel_rfl))
 f286 := Tryz.func141.trans (congrArg some (by kernel_rfl))
 f317 := Tryz.func148.trans (congrArg some (by kernel_rfl))
 f318 := Tryz.func150.trans (congrArg some (by kernel_rfl))
 f319 := Tryz.func151.trans (congrArg some (by kernel_rfl))
 f320 := Tryz.func152.trans (congrArg some (by kernel_rfl))
 f337 := Tryz.func162.trans (congrArg some (by kernel_rfl))
 f338 := Tryz.func163.trans (congrArg some (by kernel_rfl))
 t0 := Tryz.underlying0
 a0 := Tryz.isAgg0
 z0 := Tryz.sizeOf0
 v0 := Tryz.zeroValue0
 t2 := Tryz.underlying2
 a2 := Tryz.isAgg2
 z2 := Tryz.sizeOf2
 v2 := Tryz.zeroValue2
 t3 := Tryz.underlying3
 a3 := Tryz.isAgg3
 z3 := Tryz.sizeOf3
 v3 := Tryz.zeroValue3
 t4 := Tryz.underlying4
 a4 := Tryz.isAgg4
 z4 := Tryz.sizeOf4
 v4 := Tryz.zeroValue4
 t5 := Tryz.underlying5
 a5 := Tryz.isAgg5
 z5 := Tryz.sizeOf5
 v5 := Tryz.zeroValue5
 t9 := Tryz.underlying9
 a9 := Tryz.isAgg9
 z9 := Tryz.sizeOf9
 v9 := Tryz.zeroValue9
 t20 := Tryz.underlying20
 a20 := Tryz.isAgg20
 z20 := Tryz.sizeOf20
 v20 := Tryz.zeroValue20
 t37 := Tryz.underlying63
 a37 := Tryz.isAgg63
 z37 := Tryz.sizeOf63
 v37 := Tryz.zeroValue63
 t46 := Tryz.underlying126
 a46 := Tryz.isAgg126
 z46 := Tryz.sizeOf126
 v46 := Tryz.zeroValue126
 t51 := Tryz.underlying177
 a51 := Tryz.isAgg177
 z51 := Tryz.sizeOf177
 v51 := Tryz.zeroValue177
 t53 := Tryz.underlying163
 a53 := Tryz.isAgg163
 z53 := Tryz.sizeOf163
 v53 := Tryz.zeroValue163
 t171 := Tryz.underlying162
 a171 := Tryz.isAgg162
 z171 := Tryz.sizeOf162
 v171 := Tryz.zeroValue162
 t173 := Tryz.underlying166
 a173 := Tryz.isAgg166
 z173 := Tryz.sizeOf166
 v173 := Tryz.zeroValue166
 t212 := Tryz.underlying176
 a212 := Tryz.isAgg176
 z212 := Tryz.sizeOf176
 v212 := Tryz.zeroValue176
 t213 := Tryz.underlying178
 a213 := Tryz.isAgg178
 z213 := Tryz.sizeOf178
 t232 := Tryz.underlying193
 a232 := Tryz.isAgg193
 z232 := Tryz.sizeOf193
 v232 := Tryz.zeroValue193
 t233 := Tryz.underlying194
 a233 := Tryz.isAgg194
 z233 := Tryz.sizeOf194
 v233 := Tryz.zeroValue194
 g17 := by kernel_rfl
 g18 := by kernel_rfl
 g19 := by kernel_rfl
 i0 := by kernel_rfl
 i2 := by kernel_rfl
 i3 := by kernel_rfl
 i4 := by kernel_rfl
 i5 := by kernel_rfl
 i9 := by kernel_rfl
 i20 := by kernel_rfl
 i37 := by kernel_rfl
 i46 := by kernel_rfl
 i51 := by kernel_rfl
 i53 := by kernel_rfl
 i171 := by kernel_rfl
 i173 := by kernel_rfl
 i212 := by kernel_rfl
 i232 := by kernel_rfl
 i233 := by kernel_rfl
 m17 := by kernel_rfl
 m18 := by kernel_rfl
 m19 := by kernel_rfl }
def layJoin_ren : Go.Shelf.Ren := ⟨fun | 156 => 91 | 165 => 118 | 166 => 119 | 169 => 120 | 240 => 129 | 241 => 130 | 276 => 142 | 277 => 143 | n => n, fun | 31 => 112 | 9 => 9 | 3 => 3 | 4 => 4 | 0 => 0 | 20 => 20 | 72 => 135 | 76 => 139 | 70 => 133 | 37 => 63 | 75 => 138 | 127 => 154 | 164 => 168 | 5 => 5 | 80 => 141 | n => n, fun | n => n⟩
theorem layJoin : Go.Proofs.Lays.n156 Tryz.prog layJoin_ren := {
 mixed := by kernel_rfl
 f156 := Tryz.func91.trans (congrArg some (by kernel_rfl))
 f165 := Tryz.func118.trans (congrArg some (by kernel_rfl))
 f166 := Tryz.func119.trans (congrArg some (by kernel_rfl))
 f169 := Tryz.func120.trans (congrArg some (by kernel_rfl))
 f240 := Tryz.func129.trans (congrArg some (by kernel_rfl))
 f241 := Tryz.func130.trans (congrArg some (by kernel_rfl))
 f276 := Tryz.func142.trans (congrArg some (by kernel_rfl))
 f277 := Tryz.func143.trans (congrArg some (by kernel_rfl))
 t0 := Tryz.underlying0
 a0 := Tryz.isAgg0
 z0 := Tryz.sizeOf0
 v0 := Tryz.zeroValue0
 t3 := Tryz.underlying3
 a3 := Tryz.isAgg3
 z3 := Tryz.sizeOf3
 v3 := Tryz.zeroValue3
 t4 := Tryz.underlying4
 a4 := Tryz.isAgg4
 z4 := Tryz.sizeOf4
 v4 := Tryz.zeroValue4
 t9 := Tryz.underlying9
 a9 := Tryz.isAgg9
 z9 := Tryz.sizeOf9
 v9 := Tryz.zeroValue9
 t20 := Tryz.underlying20
 a20 := Tryz.isAgg20
 z20 := Tryz.sizeOf20
 v20 := Tryz.zeroValue20
 t31 := Tryz.underlying112
 a31 := Tryz.isAgg112
 z31 := Tryz.sizeOf112
 v31 := Tryz.zeroValue112
 t37 := Tryz.underlying63
 a37 := Tryz.isAgg63
 z37 := Tryz.sizeOf63
 v37 := Tryz.zeroValue63
 t70 := Tryz.underlying133
 a70 := Tryz.isAgg133
 z70 := Tryz.sizeOf133
 v70 := Tryz.zeroValue133
 t72 := Tryz.underlying135
 a72 := Tryz.isAgg135
 z72 := Tryz.sizeOf135
 v72 := Tryz.zeroValue135
 t75 := Tryz.underlying138
 a75 := Tryz.isAgg138
 z75 := Tryz.sizeOf138
 v75 := Tryz.zeroValue138
 t76 := Tryz.underlying139
 a76 := Tryz.isAgg139
 z76 := Tryz.sizeOf139
 v76 := Tryz.zeroValue139
 t127 := Tryz.underlying154
 a127 := Tryz.isAgg154
 z127 := Tryz.sizeOf154
 v127 := Tryz.zeroValue154
 t164 := Tryz.underlying168
 a164 := Tryz.isAgg168
 z164 := Tryz.sizeOf168
 v164 := Tryz.zeroValue168 }
end Go.Proofs.YtddejboifpepcaaGreatDoor

namespace Go.Proofs.YtddejboifpepcaaGreatDoor
open Go.RowKit
def kLt (a b : ByteArray) : Bool := Op.bytesLess a.toList b.toList
theorem kl_asymm : ∀ {x y : List UInt8}, Op.bytesLess x y = true → Op.bytesLess y x = false
 | _, [], h => by simp [Op.bytesLess] at h
 | [], _ :: _, _ => by simp [Op.bytesLess]
 | a :: x, b :: y, h => by
  simp only [Op.bytesLess, Bool.or_eq_true, Bool.and_eq_true, decide_eq_true_eq, beq_iff_eq, Bool.or_eq_false_iff, Bool.and_eq_false_iff, decide_eq_false_iff_not, beq_eq_false_iff_ne] at h ⊢
  rcases h with h | ⟨rfl, h⟩
  ·exact ⟨fun h2 => absurd (UInt8.lt_trans h h2) (UInt8.lt_irrefl _), .inl (fun e => by subst e; exact UInt8.lt_irrefl _ h)⟩
  ·exact ⟨UInt8.lt_irrefl _, .inr (kl_asymm h)⟩
theorem kl_irrefl (x : List UInt8) : Op.bytesLess x x = false := by
 cases h : Op.bytesLess x x with
 | false => rfl
 | true => have := kl_asymm h; rw [h] at this; cases this
theorem kl_total : ∀ {x y : List UInt8}, Op.bytesLess x y = false → x ≠ y → Op.bytesLess y x = true
 | [], [], _, hn => absurd rfl hn
 | _ :: _, [], _, _ => by simp [Op.bytesLess]
 | [], _ :: _, h, _ => by simp [Op.bytesLess] at h
 | a :: x, b :: y, h, hn => by
  simp only [Op.bytesLess, Bool.or_eq_true, Bool.and_eq_true, decide_eq_true_eq, beq_iff_eq, Bool.or_eq_false_iff, Bool.and_eq_false_iff, decide_eq_false_iff_not, beq_eq_false_iff_ne] at h ⊢
  by_cases hab : a = b
  ·subst hab
   right
   refine ⟨rfl, kl_total ?_ (fun e => hn (by rw [e]))⟩
   rcases h.2 with h2 | h2
   ·exact absurd rfl h2
   ·exact h2
  ·left
   rcases UInt8.lt_or_lt_of_ne hab with h1 | h1
   ·exact absurd h1 h.1
   ·exact h1
theorem kl_trans : ∀ {x y z : List UInt8}, Op.bytesLess x y = true → Op.bytesLess y z = true → Op.bytesLess x z = true
 | _, [], _, h, _ => by simp [Op.bytesLess] at h
 | _, _ :: _, [], _, h => by simp [Op.bytesLess] at h
 | [], _ :: _, _ :: _, _, _ => by simp [Op.bytesLess]
 | a :: x, b :: y, c :: z, h1, h2 => by
  simp only [Op.bytesLess, Bool.or_eq_true, Bool.and_eq_true, decide_eq_true_eq, beq_iff_eq] at h1 h2 ⊢
  rcases h1 with h1 | ⟨rfl, h1⟩
  ·rcases h2 with h2 | ⟨rfl, h2⟩
   ·exact .inl (UInt8.lt_trans h1 h2)
   ·exact .inl h1
  ·rcases h2 with h2 | ⟨rfl, h2⟩
   ·exact .inl h2
   ·exact .inr ⟨rfl, kl_trans h1 h2⟩
theorem k_eq {a b : ByteArray} : (a.toList == b.toList) = true ↔ a = b := by
 rw [beq_iff_eq, ByteArray.toList_eq, ByteArray.toList_eq]
 constructor
 ·intro h
  cases a; cases b
  simpa using Array.toList_inj.1 h
 ·intro h; rw [h]
theorem k_ne {a b : ByteArray} (h : a ≠ b) : (a.toList == b.toList) = false := by
 rw [Bool.eq_false_iff]
 exact fun e => h (k_eq.1 e)
theorem kLt_irrefl (s : ByteArray) : kLt s s = false := kl_irrefl _
theorem kLt_asymm {a b : ByteArray} (h : kLt a b = true) : kLt b a = false := kl_asymm h
theorem kLt_trans {a b c : ByteArray} (h1 : kLt a b = true) (h2 : kLt b c = true) : kLt a c = true := kl_trans h1 h2
theorem kLt_tri {a b : ByteArray} (h1 : kLt a b = false) (h2 : a ≠ b) : kLt b a = true := kl_total h1 (fun e => h2 (k_eq.1 (by rw [e]; simp)))
theorem k_len (s : ByteArray) : s.toList.length = s.size := by
 rw [ByteArray.toList_eq]
 simp
theorem k_emp {s : ByteArray} (h : s.size = 0) : s.toList.isEmpty = true := by
 rw [List.isEmpty_iff]
 apply List.eq_nil_of_length_eq_zero
 rw [k_len]
 exact h
theorem k_nemp {s : ByteArray} (h : s.size ≠ 0) : s.toList.isEmpty = false := by
 rw [List.isEmpty_eq_false_iff]
 intro e
 have := k_len s
 rw [e] at this
 exact h this.symm
end Go.Proofs.YtddejboifpepcaaGreatDoor
