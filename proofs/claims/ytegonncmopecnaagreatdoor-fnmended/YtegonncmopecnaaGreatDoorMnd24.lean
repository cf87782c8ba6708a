/-
  Part 25 of the texts that the proof leans on.
-/
import Derived.Test.YtegonncmopecnaaGreatDoorMnd12
import Derived.Test.YtegonncmopecnaaGreatDoorMnd10
import Derived.Test.YtegonncmopecnaaGreatDoorMnd3
import Derived.Test.YtegonncmopecnaaGreatDoorMnd5
import Derived.Test.YtegonncmopecnaaGreatDoorMnd23
import Derived.RangeFuncNested
import Derived.RangeFuncCalls
import Derived.RangeFuncLeaves
import Derived.Shelf.Abstract
import Derived.Shelf.RegionOpen
import Derived.WalkKit
import Derived.OwnWalkIn
import Derived.TacticsInMore
import Derived.LoopNIn
import Derived.LoopIn
import Derived.Maps.OwnIn
import Derived.Test.YtegonncmopecnaaGreatDoorMnd0
import Derived.Test.YtegonncmopecnaaGreatDoorMnd22
set_option linter.unusedVariables false
set_option linter.unusedSimpArgs false
set_option maxRecDepth 10000

namespace Go.Proofs.YtegonncmopecnaaGreatDoor
open Go.RowKit Go.Maps
set_option maxHeartbeats 4000000 in
theorem implRemove_c (cs : List Value) (m : MDisk) (s : ByteArray) (w : World) (hr : rDisk w.heap.size w cs m) (hs : s.size <= 9223372036854775807) (hw : wDisk m <= 1048576) (hw1 : s.size <= 1048576) :
  Calls Tryz.prog 47 #[.agg cs.toArray, .string s] w fun e w' => ∃ (cs' : List Value) (F : List Nat), e = .returned (.tuple #[.agg cs'.toArray, .int .i64 (callP m s)]) /\ oDisk w' cs' (removeP m s) F /\ F.Nodup /\ (∀ b, b ∈ F -> w.heap.size <= b) /\ Below w.heap.size w w' := by
 have hq := hr
 obtain ⟨a0, c0, a1, c1, a2, c2, rfl, hI, hNm, hSf, hnx, _⟩ := hq
 have hw2 : m.fInodes.length + sumW wInode m.fInodes + (m.fNames.length + sumW wEntry m.fNames) + (m.fSafe.length + sumW wEntry m.fSafe) <= 1048576 := hw
 have HW := Hm hw
 have HR := Hm hr
 have HNM := Hm hNm
 clear hr hI hNm hSf hw
 go_enter Tryz.func47, Tryz.ntmps47
 go_wp2_with fail
 obtain ⟨wq, hwq⟩ : ∃ wq, wq = ((w.alloc (.cells #[.slice a0 m.fInodes.length c0, .slice a1 m.fNames.length c1, .slice a2 m.fSafe.length c2, .int .i64 m.fNext] 27)).alloc (.cells #[.slice none 0 0, .slice none 0 0, .slice none 0 0, .int .i64 0] 27)) := ⟨_, rfl⟩
 have hbW : Below w.heap.size w wq := by rw [hwq]; exact Below.alloc (Below.alloc rB (by exact rN) _) (by simp; try omega) _
 have hbd : Bw wq (w.heap.size) 27 [.slice a0 m.fInodes.length c0, .slice a1 m.fNames.length c1, .slice a2 m.fSafe.length c2, .int .i64 m.fNext] := by rw [hwq]; exact Bw.alloc (Bw.new' _ _ _ (by simp)) _
 have hbr : Bw wq (w.heap.size + 1) 27 [.slice none 0 0, .slice none 0 0, .slice none 0 0, .int .i64 0] := by rw [hwq]; exact Bw.new' _ _ _ (by simp)
 rw [<- hwq]
 clear hwq
 refine (findFile_any _ m s wq (rDisk_good.mono (rDisk_good.below HR.out hbW) hbW.size) HW.out hs).mono ?_
 rintro e w1 ⟨p, rfl, hp, hx1⟩
 clear hp
 have hb1 := bthen hbW hx1
 have hbd1 := hbd.under hx1
 have hbr1 := hbr.under hx1
 have hl1 := hbd1.lt
 have hl1r := hbr1.lt
 obtain ⟨y0, y1, y2, y3⟩ := hbd1.c4
 clear hbd hbr
 by_cases hC : callP m s = 0
 ·have HCz := Hm hC
  have HV : Hid (removeP m s = keepD { m with fNames := without m.fNames s }) := by show _ = _; unfold removeP removeD; rw [if_pos hC]
  have hDR := diskOk_iff.1 (call_good hC).1
  have hRi : Rise m.fNames := hDR.names.rise
  have hfew := hDR.few
  have hsub : (without m.fNames s).Sublist m.fNames := List.filter_sublist
  have HRI : Hid (Rise (without m.fNames s)) := hRi.sublist hsub
  have HRI0 := Hm hRi
  have HLN : Hid ((without m.fNames s).length <= 1000) := by show _ <= _; have := hsub.length_le; omega
  have HWN : Hid (wDisk { m with fNames := without m.fNames s } <= 1048576) := by
   show _ <= _
   have h2 := sumW_sublist (f := wEntry) hsub
   have h3 := hsub.length_le
   rw [wDisk_eq]
   simp only
   omega
  have hkey := keyStr hs
  rw [hC]
  clear hC hDR hRi hsub
  go_wp2_with fail
  refine (nameMap_any a1 m.fNames.length c1 m.fNames w1 rfl (LeafL.mono rEntry_good (HNM.out.below rEntry_good hb1) hb1.size) (by omega)).mono ?_
  rintro e w2 ⟨Dm, rfl, hown, hNM, hx2⟩
  have HM : Hid (MapIs (Dm.del (kS s)) (without m.fNames s)) := (MapIs.ofN rfl hNM HRI0.out).del s
  clear hNM
  have hb2 := bthen hb1 hx2
  have hbd2 := hbd1.under hx2
  have hbr2 := hbr1.under hx2
  have hl2 := hbd2.lt
  have hl2r := hbr2.lt
  have hz2 := hx2.size
  have hzb1 := hb1.size
  obtain ⟨y0, y1, y2, y3⟩ := hbd2.c4
  clear hbd1 hbr1
  go_wp2_with (at_delete; refine wpList_delete_own _ rfl _ _ 77 9 rfl 3 lawStr Tryz.underlying77 _ w1.heap.size m.fNames.length Dm rfl hown _ _ rfl hkey ?_; intro w3 hown3 hturn3; have hT3 : Turn [w1.heap.size] w2 w3 := Turn.ofGrown hturn3.grown (fun k hk => by cases hk; simp); have hbd3 := hbd2.turn hT3 (by simp; omega); have hbr3 := hbr2.turn hT3 (by simp; omega); have yy0 := hbd3.cell 0 _ rfl; have yy1 := hbd3.cell 1 _ rfl; have yy2 := hbd3.cell 2 _ rfl; have yy3 := hbd3.cell 3 _ rfl)
  have hb3 : Below w.heap.size w w3 := hb2.trans (hT3.below (fun k hk => by simp at hk; omega) hb2.size)
  clear y0 y1 y2 y3 hown hturn3
  obtain ⟨kd, hkd⟩ : ∃ kd, kd = keepD { m with fNames := without m.fNames s } := ⟨_, rfl⟩
  have HKD := Hm hkd
  clear hkd
  have hcall := withNames_any _ m w1.heap.size m.fNames.length _ (without m.fNames s) w3 (rDisk_good.mono (rDisk_good.below HR.out hb3) hb3.size) hown3 HM.out HRI.out HLN.out HWN.out
  rw [<- HKD.out] at hcall
  clear hown3
  refine hcall.mono ?_
  rintro e w4 ⟨cs3, F3, rfl, ho3, hN3, hge3, hx4⟩
  have hb4 := bthen hb3 hx4
  have hbr4 := hbr3.under hx4
  have hl4 := hbr4.lt
  have hz4 := hb3.size
  have hlq4 := hbr3.lt
  obtain ⟨q0, p0, q1, p1, q2, p2, G0, G1, G2, rfl, _, _, _, _, rfl⟩ := oDisk_cells ho3
  have hkey : ∀ W', Turn [w.heap.size + 1] w4 W' -> oDisk W' [.slice q0 (kd).fInodes.length p0, .slice q1 (kd).fNames.length p1, .slice q2 (kd).fSafe.length p2, .int .i64 (kd).fNext] (kd) (G0 ++ G1 ++ G2 ++ []) /\ Below w.heap.size w W' := fun W' hT =>
   ⟨oDisk_good.frame ho3 (fun b hb => hT.block b (oDisk_good.lt ho3 b hb) (fun h => by simp at h; have := hge3 b hb; omega)), hb4.trans (hT.below (fun k hk => by simp at hk; omega) hb4.size)⟩
  have HKEY := Hm hkey
  have HNQ := Hm hN3
  have HGQ : Hid (∀ b, b ∈ G0 ++ G1 ++ G2 ++ [] -> w.heap.size <= b) := fun b hb => by have := hge3 b hb; omega
  clear hkey ho3 hN3 hge3 
  obtain ⟨ze0, ze1, ze2, ze3⟩ := hbr4.c4
  obtain ⟨zf0, zf1, zf2, zf3⟩ := hbr4.f4
  go_wp2_with fail
  obtain ⟨h1, h3⟩ := HKEY.out _ (show Turn [w.heap.size + 1] w4 ((((w4.setCell ⟨w.heap.size + 1, 0, none⟩ (.slice q0 (kd).fInodes.length p0)).setCell ⟨w.heap.size + 1, 1, none⟩ (.slice q1 (kd).fNames.length p1)).setCell ⟨w.heap.size + 1, 2, none⟩ (.slice q2 (kd).fSafe.length p2)).setCell ⟨w.heap.size + 1, 3, none⟩ (.int .i64 (kd).fNext)) from turn4 _ _ _ _ _ _)
  exact bodyPost_ret (v := .tuple #[.agg #[.slice q0 (kd).fInodes.length p0, .slice q1 (kd).fNames.length p1, .slice q2 (kd).fSafe.length p2, .int .i64 (kd).fNext], .int .i64 0]) (by simp [results, Tryz.results47, go_sem, *]) rfl ⟨[.slice q0 (kd).fInodes.length p0, .slice q1 (kd).fNames.length p1, .slice q2 (kd).fSafe.length p2, .int .i64 (kd).fNext], _, by rw [HCz.out], by rw [HV.out, <- HKD.out]; exact h1, HNQ.out, HGQ.out, h3⟩
 ·have HV : Hid (removeP m s = m) := by show _ = _; unfold removeP; rw [if_neg hC]
  have hcn : (callP m s == 0) = false := beq_eq_false_iff_ne.2 hC
  obtain ⟨cp, hcp⟩ : ∃ cp, callP m s = cp := ⟨_, rfl⟩
  rw [hcp] at hcn ⊢
  have HCP := Hm hcp
  clear hcp hC
  go_wp2_with fail
  refine (copyDisk_any _ (m) w1 (rDisk_good.mono (rDisk_good.below HR.out hb1) hb1.size) HW.out).mono ?_
  rintro e w2 ⟨cs3, F3, rfl, ho3, hN3, hge3, hx2⟩
  have hb2 := bthen hb1 hx2
  have hbr2 := hbr1.under hx2
  have hl2 := hbr2.lt
  have hz2 := hb1.size
  have hlq2 := hbr1.lt
  obtain ⟨q0, p0, q1, p1, q2, p2, G0, G1, G2, rfl, _, _, _, _, rfl⟩ := oDisk_cells ho3
  have hkey : ∀ W', Turn [w.heap.size + 1] w2 W' -> oDisk W' [.slice q0 m.fInodes.length p0, .slice q1 m.fNames.length p1, .slice q2 m.fSafe.length p2, .int .i64 m.fNext] (m) (G0 ++ G1 ++ G2 ++ []) /\ Below w.heap.size w W' := fun W' hT =>
   ⟨oDisk_good.frame ho3 (fun b hb => hT.block b (oDisk_good.lt ho3 b hb) (fun h => by simp at h; have := hge3 b hb; omega)), hb2.trans (hT.below (fun k hk => by simp at hk; omega) hb2.size)⟩
  have HKEY := Hm hkey
  have HNQ := Hm hN3
  have HGQ : Hid (∀ b, b ∈ G0 ++ G1 ++ G2 ++ [] -> w.heap.size <= b) := fun b hb => by have := hge3 b hb; omega
  clear hkey ho3 hN3 hge3 
  obtain ⟨ze0, ze1, ze2, ze3⟩ := hbr2.c4
  obtain ⟨zf0, zf1, zf2, zf3⟩ := hbr2.f4
  go_wp2_with fail
  obtain ⟨h1, h3⟩ := HKEY.out _ (show Turn [w.heap.size + 1] w2 ((((w2.setCell ⟨w.heap.size + 1, 0, none⟩ (.slice q0 m.fInodes.length p0)).setCell ⟨w.heap.size + 1, 1, none⟩ (.slice q1 m.fNames.length p1)).setCell ⟨w.heap.size + 1, 2, none⟩ (.slice q2 m.fSafe.length p2)).setCell ⟨w.heap.size + 1, 3, none⟩ (.int .i64 m.fNext)) from turn4 _ _ _ _ _ _)
  exact bodyPost_ret (v := .tuple #[.agg #[.slice q0 m.fInodes.length p0, .slice q1 m.fNames.length p1, .slice q2 m.fSafe.length p2, .int .i64 m.fNext], .int .i64 cp]) (by simp [results, Tryz.results47, go_sem, *]) rfl ⟨[.slice q0 m.fInodes.length p0, .slice q1 m.fNames.length p1, .slice q2 m.fSafe.length p2, .int .i64 m.fNext], _, by rw [HCP.out], by rw [HV.out]; exact h1, HNQ.out, HGQ.out, h3⟩
end Go.Proofs.YtegonncmopecnaaGreatDoor

namespace Go.Proofs.YtegonncmopecnaaGreatDoor
open Go.RowKit
theorem Bx.new' (w : World) (vs : List Value) (t : TypeId) {b : Nat} (hb : b = w.heap.size) : Bx (w.alloc (.cells vs.toArray t)) b vs := by
 rw [hb]
 exact Bx.new w vs t
theorem Bw.set4 {w : World} {b : Nat} {t : TypeId} {vs : List Value} (h : Bw w b t vs) (hl : vs.length = 4) (x0 x1 x2 x3 : Value) : Bw ((((w.setCell ⟨b, 0, none⟩ x0).setCell ⟨b, 1, none⟩ x1).setCell ⟨b, 2, none⟩ x2).setCell ⟨b, 3, none⟩ x3) b t [x0, x1, x2, x3] := by
 have h4 := (((h.put 0 x0).put 1 x1).put 2 x2).put 3 x3
 obtain ⟨y0, y1, y2, y3, rfl⟩ : ∃ y0 y1 y2 y3, vs = [y0, y1, y2, y3] := by
  match vs, hl with
  | [y0, y1, y2, y3], _ => exact ⟨y0, y1, y2, y3, rfl⟩
 exact h4
def SwW (w : World) (t : ByteArray) (vb : Value) (s : ByteArray) (g : Nat) (W : World) (cs : List Value) (d : MDisk) (F : List Nat) : Prop :=
 Bw W w.heap.size 27 cs /\ oDisk W cs d F /\ F.Nodup /\ (∀ b, b ∈ F -> w.heap.size + 5 <= b) /\
 Bx W (w.heap.size + 1) [.string t] /\ Bx W (w.heap.size + 1 + 1) [vb] /\ Bx W (w.heap.size + 1 + 1 + 1) [.string s] /\ Bw W (w.heap.size + 1 + 1 + 1 + 1) 27 [.slice none 0 0, .slice none 0 0, .slice none 0 0, .int .i64 0] /\
 (w.heap.size + 5 <= g /\ Bx W g [.func (.func 48) #[] #[.pointer (some ⟨w.heap.size + 1, 0, none⟩)], .func (.func 50) #[] #[.pointer (some ⟨w.heap.size + 1, 0, none⟩), .pointer (some ⟨w.heap.size + 1 + 1, 0, none⟩)], .func (.func 51) #[] #[.pointer (some ⟨w.heap.size + 1, 0, none⟩)], .func (.func 53) #[] #[.pointer (some ⟨w.heap.size + 1, 0, none⟩), .pointer (some ⟨w.heap.size + 1 + 1 + 1, 0, none⟩)], .func (.func 55) #[] #[]]) /\ Below w.heap.size w W
theorem SwW.size {w : World} {t : ByteArray} {vb : Value} {s : ByteArray} {g : Nat} {W : World} {cs : List Value} {d : MDisk} {F : List Nat} (h : SwW w t vb s g W cs d F) : w.heap.size + 5 <= W.heap.size := by
 have := h.2.2.2.2.2.2.2.1.lt
 omega
theorem SwW.step {w : World} {t : ByteArray} {vb : Value} {s : ByteArray} {g : Nat} {W W' : World} {cs : List Value} {d d' : MDisk} {F F' : List Nat} {x0 x1 x2 x3 : Value} (h : SwW w t vb s g W cs d F) (hl : cs.length = 4) (hx : Below W.heap.size W W')
  (ho : oDisk W' [x0, x1, x2, x3] d' F') (hN : F'.Nodup) (hge : ∀ b, b ∈ F' -> W.heap.size <= b) :
  SwW w t vb s g ((((W'.setCell ⟨w.heap.size, 0, none⟩ x0).setCell ⟨w.heap.size, 1, none⟩ x1).setCell ⟨w.heap.size, 2, none⟩ x2).setCell ⟨w.heap.size, 3, none⟩ x3) [x0, x1, x2, x3] d' F' := by
 have hsz := h.size
 obtain ⟨h1, h2, h3, h4, h5, h6, h7, h8, ⟨h9, h10⟩, h11⟩ := h
 have hT := turn4 W' w.heap.size x0 x1 x2 x3
 have hb := bthen h11 hx
 refine ⟨(h1.under hx).set4 hl x0 x1 x2 x3, oDisk_good.frame ho (fun b hb => hT.block b (oDisk_good.lt ho b hb) (by intro hh; simp at hh; have := hge b hb; omega)), hN, fun b hb => by have := hge b hb; omega,
  (h5.under hx).turn hT (by simp), (h6.under hx).turn hT (by simp; omega), (h7.under hx).turn hT (by simp; omega), (h8.under hx).turn hT (by simp; omega), ⟨h9, (h10.under hx).turn hT (by simp; omega)⟩, hb.trans (hT.below (fun k hk => by simp at hk; omega) hb.size)⟩
set_option maxHeartbeats 8000000 in
theorem switch_any (cs : List Value) (m : MDisk) (t : ByteArray) (vb : Value) (zb : List Int) (s : ByteArray) (w : World) (hr : rDisk w.heap.size w cs m) (hw : wDisk m <= 1048576) (ht : t.size <= 1048576) (hs : s.size <= 1048576) (hvb : rdB w.heap.size w vb zb) (hzb : zb.length <= 1048576) :
  Calls Tryz.prog 19 #[.agg cs.toArray, .string t, vb, .string s] w fun e w' => ∃ (cs' : List Value) (F : List Nat), e = .returned (.tuple #[.agg cs'.toArray, .int .i64 (switchP m t zb s).2]) /\ oDisk w' cs' (switchP m t zb s).1 F /\ F.Nodup /\ (∀ b, b ∈ F -> w.heap.size <= b) /\ Below w.heap.size w w' := by
 have hq := hr
 obtain ⟨a0, c0, a1, c1, a2, c2, rfl, hI, hNm, hSf, hnx, _⟩ := hq
 obtain ⟨ab, cb, rfl, hlb⟩ := hvb
 have HVB : Hid (rdB w.heap.size w (.slice ab zb.length cb) zb) := ⟨ab, cb, rfl, hlb⟩
 have HW := Hm hw
 have HR := Hm hr
 clear hr hI hNm hSf hw hlb
 obtain ⟨wq, hwq⟩ : ∃ wq, wq = ((((w.alloc (.cells #[.slice a0 m.fInodes.length c0, .slice a1 m.fNames.length c1, .slice a2 m.fSafe.length c2, .int .i64 m.fNext] 27)).alloc (.cells #[.string t] 9)).alloc (.cells #[.slice ab zb.length cb] 22)).alloc (.cells #[.string s] 9)).alloc (.cells #[.slice none 0 0, .slice none 0 0, .slice none 0 0, .int .i64 0] 27) := ⟨_, rfl⟩
 have hzq : wq.heap.size = w.heap.size + 5 := by rw [hwq]; simp
 have hbW : Below w.heap.size w wq := by rw [hwq]; exact (((rB.alloc rN _).alloc (by simp) _ |>.alloc (by simp; omega) _).alloc (by simp; omega) _).alloc (by simp; omega) _
 have hbd : Bw wq w.heap.size 27 [.slice a0 m.fInodes.length c0, .slice a1 m.fNames.length c1, .slice a2 m.fSafe.length c2, .int .i64 m.fNext] := by rw [hwq]; exact ((((Bw.new _ _ _).alloc _).alloc _).alloc _).alloc _
 have hbt : Bx wq (w.heap.size + 1) [.string t] := by rw [hwq]; exact (((Bx.new' _ _ _ (by simp)).alloc _).alloc _).alloc _
 have hbb : Bx wq (w.heap.size + 1 + 1) [.slice ab zb.length cb] := by rw [hwq]; exact ((Bx.new' _ _ _ (by simp)).alloc _).alloc _
 have hbs : Bx wq (w.heap.size + 1 + 1 + 1) [.string s] := by rw [hwq]; exact (Bx.new' _ _ _ (by simp)).alloc _
 have hbr : Bw wq (w.heap.size + 1 + 1 + 1 + 1) 27 [.slice none 0 0, .slice none 0 0, .slice none 0 0, .int .i64 0] := by rw [hwq]; exact Bw.new' _ _ _ (by simp)
 go_enter Tryz.func19, Tryz.ntmps19
 go_wp2_with fail
 rw [<- hwq]
 clear hwq
 refine (implRemove_c _ m t wq (rDisk_good.mono (rDisk_good.below HR.out hbW) hbW.size) (by omega) HW.out ht).mono ?_
 obtain ⟨mr, hmr⟩ : ∃ mr, mr = removeP m t := ⟨_, rfl⟩
 rw [<- hmr]
 have HMR := Hm hmr
 have hwr : wDisk mr <= 1048576 := by rw [hmr]; exact small_remove HW.out
 clear hmr
 rintro e w1 ⟨cs1, F1, rfl, ho1, hN1, hge1, hx1⟩
 obtain ⟨q0, qp0, q1, qp1, q2, qp2, E0, E1, E2, rfl, _, _, _, _, rfl⟩ := oDisk_cells ho1
 have hd1 := hbd.under hx1
 have hz1 := hx1.size
 obtain ⟨e0, f0, e1, f1, e2, f2, e3, f3⟩ := hd1.c8
 have hlt1 := hd1.lt
 obtain ⟨wg, hwg⟩ : ∃ wg, wg = ((((w1.setCell ⟨w.heap.size, 0, none⟩ (.slice q0 mr.fInodes.length qp0)).setCell ⟨w.heap.size, 1, none⟩ (.slice q1 mr.fNames.length qp1)).setCell ⟨w.heap.size, 2, none⟩ (.slice q2 mr.fSafe.length qp2)).setCell ⟨w.heap.size, 3, none⟩ (.int .i64 mr.fNext)) := ⟨_, rfl⟩
 have hzg : wg.heap.size = w1.heap.size := by rw [hwg]; simp
 obtain ⟨wf, hwf⟩ : ∃ wf, wf = wg.alloc (.cells #[.func (.func 48) #[] #[.pointer (some ⟨w.heap.size + 1, 0, none⟩)], .func (.func 50) #[] #[.pointer (some ⟨w.heap.size + 1, 0, none⟩), .pointer (some ⟨w.heap.size + 1 + 1, 0, none⟩)], .func (.func 51) #[] #[.pointer (some ⟨w.heap.size + 1, 0, none⟩)], .func (.func 53) #[] #[.pointer (some ⟨w.heap.size + 1, 0, none⟩), .pointer (some ⟨w.heap.size + 1 + 1 + 1, 0, none⟩)], .func (.func 55) #[] #[]] 69) := ⟨_, rfl⟩
 have hS0 : SwW w t (.slice ab zb.length cb) s w1.heap.size wf [.slice q0 mr.fInodes.length qp0, .slice q1 mr.fNames.length qp1, .slice q2 mr.fSafe.length qp2, .int .i64 mr.fNext] mr (E0 ++ E1 ++ E2 ++ []) := by
  have hT := turn4 w1 w.heap.size (.slice q0 mr.fInodes.length qp0) (.slice q1 mr.fNames.length qp1) (.slice q2 mr.fSafe.length qp2) (.int .i64 mr.fNext)
  rw [<- hwg] at hT
  have hbq := bthen hbW hx1
  have hB := hbq.trans (hT.below (fun k hk => by simp at hk; omega) hbq.size)
  have hf : Below wg.heap.size wg wf := by rw [hwf]; exact rB.alloc rN _
  have ho : oDisk wg [.slice q0 mr.fInodes.length qp0, .slice q1 mr.fNames.length qp1, .slice q2 mr.fSafe.length qp2, .int .i64 mr.fNext] mr (E0 ++ E1 ++ E2 ++ []) := oDisk_good.frame ho1 (fun b hb => hT.block b (oDisk_good.lt ho1 b hb) (by intro hh; simp at hh; have := hge1 b hb; omega))
  have h4 := hd1.set4 rfl (.slice q0 mr.fInodes.length qp0) (.slice q1 mr.fNames.length qp1) (.slice q2 mr.fSafe.length qp2) (.int .i64 mr.fNext)
  rw [<- hwg] at h4
  refine ⟨h4.under hf, oDisk_good.frame ho (fun b hb => hf.block b (oDisk_good.lt ho b hb)), hN1, fun b hb => by have := hge1 b hb; omega, ((hbt.under hx1).turn hT (by simp)).under hf, ((hbb.under hx1).turn hT (by simp; omega)).under hf, ((hbs.under hx1).turn hT (by simp; omega)).under hf, ((hbr.under hx1).turn hT (by simp; omega)).under hf, ⟨by omega, ?_⟩, bthen hB hf⟩
  rw [<- hzg, hwf]
  exact Bx.new _ _ _
 clear hd1 hbd hbt hbb hbs hbr ho1 hN1 hge1
 go_wp2_with fail
 rw [<- hwg, <- hwf]
 clear hwg hwf e0 e1 e2 e3 f0 f1 f2 f3
 generalize w1.heap.size = g at *
 go_loopw [10, 25] (fun cv kv wr => ∃ (k : Nat) (cs2 : List Value) (F2 : List Nat), k <= 5 /\ kv = .int .i64 k /\ cv = .int .i64 0 /\ SwAt m t zb s k /\ SwW w t (.slice ab zb.length cb) s g wr cs2 (swD mr t zb s k) F2) (fun _ kv _ => 5 - (intOf kv).toNat)
 case atStart => exact ⟨0, _, _, by omega, rfl, rfl, SwAt.start _ _ _ _, hS0⟩
 case round =>
  obtain ⟨k, cs2, F2, hk, rfl, rfl, hat, hS⟩ := hrel
  clear hS0
  have hsm := swD_small (t := t) (b := zb) (s := s) hwr k
  have hsz := hS.size
  have HAT := Hm hat
  have HS := Hm hS
  clear hat hS
  by_cases h5 : k = 5
  ·subst h5
   have HRES := Hm (SwAt.done HAT.out)
   rw [<- HMR.out] at HRES
   generalize swD mr t zb s 5 = d2 at *
   obtain ⟨y0, yp0, y1, yp1, y2, yp2, Y0, Y1, Y2, rfl, _, _, _, _, rfl⟩ := oDisk_cells HS.out.2.1
   have r1 := HS.out.2.2.2.2.2.2.2.1
   have x0 := HS.out.1.cell 0 _ rfl
   have r10 := r1.cell 0 _ rfl
   have rf0 := r1.free 0
   have x1 := HS.out.1.cell 1 _ rfl
   have r11 := r1.cell 1 _ rfl
   have rf1 := r1.free 1
   have x2 := HS.out.1.cell 2 _ rfl
   have r12 := r1.cell 2 _ rfl
   have rf2 := r1.free 2
   have x3 := HS.out.1.cell 3 _ rfl
   have r13 := r1.cell 3 _ rfl
   have rf3 := r1.free 3
   have hlr := r1.lt
   have hld := HS.out.1.lt
   have hT := turn4 wr (w.heap.size + 1 + 1 + 1 + 1) (.slice y0 d2.fInodes.length yp0) (.slice y1 d2.fNames.length yp1) (.slice y2 d2.fSafe.length yp2) (.int .i64 d2.fNext)
   have HB : Hid (Below w.heap.size w ((((wr.setCell ⟨w.heap.size + 1 + 1 + 1 + 1, 0, none⟩ (.slice y0 d2.fInodes.length yp0)).setCell ⟨w.heap.size + 1 + 1 + 1 + 1, 1, none⟩ (.slice y1 d2.fNames.length yp1)).setCell ⟨w.heap.size + 1 + 1 + 1 + 1, 2, none⟩ (.slice y2 d2.fSafe.length yp2)).setCell ⟨w.heap.size + 1 + 1 + 1 + 1, 3, none⟩ (.int .i64 d2.fNext))) := HS.out.2.2.2.2.2.2.2.2.2.trans (hT.below (fun k hk => by simp at hk; omega) HS.out.2.2.2.2.2.2.2.2.2.size)
   have HO : Hid (oDisk ((((wr.setCell ⟨w.heap.size + 1 + 1 + 1 + 1, 0, none⟩ (.slice y0 d2.fInodes.length yp0)).setCell ⟨w.heap.size + 1 + 1 + 1 + 1, 1, none⟩ (.slice y1 d2.fNames.length yp1)).setCell ⟨w.heap.size + 1 + 1 + 1 + 1, 2, none⟩ (.slice y2 d2.fSafe.length yp2)).setCell ⟨w.heap.size + 1 + 1 + 1 + 1, 3, none⟩ (.int .i64 d2.fNext)) [.slice y0 d2.fInodes.length yp0, .slice y1 d2.fNames.length yp1, .slice y2 d2.fSafe.length yp2, .int .i64 d2.fNext] d2 _) := oDisk_good.frame HS.out.2.1 (fun b hb => hT.block b (oDisk_good.lt HS.out.2.1 b hb) (by intro h; simp at h; have := HS.out.2.2.2.1 b hb; omega))
   have HN := Hm HS.out.2.2.1
   have HG := Hm HS.out.2.2.2.1
   clear hT r1
   go_wp2_with fail
   exact bodyPost_ret (v := .tuple #[.agg #[.slice y0 d2.fInodes.length yp0, .slice y1 d2.fNames.length yp1, .slice y2 d2.fSafe.length yp2, .int .i64 d2.fNext], .int .i64 0]) (by simp [results, Tryz.results19, go_sem, *]) rfl ⟨[.slice y0 d2.fInodes.length yp0, .slice y1 d2.fNames.length yp1, .slice y2 d2.fSafe.length yp2, .int .i64 d2.fNext], _, by rw [HRES.out], by rw [HRES.out]; exact HO.out, HN.out, (fun b hb => by have := HG.out b hb; omega), HB.out⟩
  ·have h5l : k < 5 := by omega
   have HON := Hm (fun h => SwAt.on HAT.out h5l h)
   have HOU := Hm (fun h => SwAt.out HAT.out h5l h)
   rw [<- HMR.out] at HON HOU
   rcases (show k = 0 ∨ k = 1 ∨ k = 2 ∨ k = 3 ∨ k = 4 from by omega) with rfl | rfl | rfl | rfl | rfl
   ·have HD : Hid (swD mr t zb s (0 + 1) = createP (swD mr t zb s 0) t) := rfl
    have HC : Hid (swC mr t zb s 0 = createC (swD mr t zb s 0) t) := rfl
    generalize swD mr t zb s 0 = d2 at *
    obtain ⟨y0, yp0, y1, yp1, y2, yp2, Y0, Y1, Y2, rfl, _, _, _, _, rfl⟩ := oDisk_cells HS.out.2.1
    obtain ⟨x0, x1, x2, x3⟩ := HS.out.1.c4
    have hfn := HS.out.2.2.2.2.2.2.2.2.1.2.2 0 _ rfl
    have hfl := HS.out.2.2.2.2.2.2.2.2.1.2.1
    have hrd := oDisk_good.read HS.out.2.1
    have hBw := HS.out.2.2.2.2.2.2.2.2.2
    go_wp2_with fail
    refine (sw1_any _ d2 t (w.heap.size + 1) wr hrd hsm ht HS.out.2.2.2.2.1).mono ?_
    rw [<- HD.out, <- HC.out]
    generalize hd3 : swD mr t zb s (0 + 1) = d3 at *
    have HD3 := Hm hd3
    clear hd3
    generalize swC mr t zb s 0 = c3 at *
    rintro e w3 ⟨cs3, F3, rfl, ho3, hN3, hge3, hx3⟩
    obtain ⟨z0, zp0, z1, zp1, z2, zp2, Z0, Z1, Z2, rfl, _, _, _, _, rfl⟩ := oDisk_cells ho3
    have hb3 := HS.out.1.under hx3
    obtain ⟨v0, g0, v1, g1, v2, g2, v3, g3⟩ := hb3.c8
    have hl3 := hb3.lt
    have HS3 := Hm (HS.out.step rfl hx3 ho3 hN3 hge3)
    obtain ⟨w4, hw4⟩ : ∃ w4, w4 = ((((w3.setCell ⟨w.heap.size, 0, none⟩ (.slice z0 d3.fInodes.length zp0)).setCell ⟨w.heap.size, 1, none⟩ (.slice z1 d3.fNames.length zp1)).setCell ⟨w.heap.size, 2, none⟩ (.slice z2 d3.fSafe.length zp2)).setCell ⟨w.heap.size, 3, none⟩ (.int .i64 d3.fNext)) := ⟨_, rfl⟩
    rw [<- hw4] at HS3
    clear ho3 hN3 hge3 hb3 hrd x0 x1 x2 x3 hfn
    by_cases hc0 : c3 = 0
    ·have HN4 := Hm (HON.out hc0)
     subst hc0
     go_wp2_with fail
     rw [<- hw4]
     clear hw4
     go_roundw
     case rel => exact ⟨1, _, _, by omega, by go_num, rfl, HN4.out, by rw [HD3.out]; exact HS3.out⟩
     case measure => simp [intOf]
    ·have HRES := Hm (HOU.out hc0)
     have hs4 := HS3.out.size
     have hz4 : w4.heap.size = w3.heap.size := by rw [hw4]; simp
     clear HON HOU HAT
     have r1 := HS3.out.2.2.2.2.2.2.2.1
     have x0 := HS3.out.1.cell 0 _ rfl
     have r10 := r1.cell 0 _ rfl
     have rf0 := r1.free 0
     have x1 := HS3.out.1.cell 1 _ rfl
     have r11 := r1.cell 1 _ rfl
     have rf1 := r1.free 1
     have x2 := HS3.out.1.cell 2 _ rfl
     have r12 := r1.cell 2 _ rfl
     have rf2 := r1.free 2
     have x3 := HS3.out.1.cell 3 _ rfl
     have r13 := r1.cell 3 _ rfl
     have rf3 := r1.free 3
     have hlr := r1.lt
     have hld := HS3.out.1.lt
     have hT := turn4 w4 (w.heap.size + 1 + 1 + 1 + 1) (.slice z0 d3.fInodes.length zp0) (.slice z1 d3.fNames.length zp1) (.slice z2 d3.fSafe.length zp2) (.int .i64 d3.fNext)
     have HB : Hid (Below w.heap.size w ((((w4.setCell ⟨w.heap.size + 1 + 1 + 1 + 1, 0, none⟩ (.slice z0 d3.fInodes.length zp0)).setCell ⟨w.heap.size + 1 + 1 + 1 + 1, 1, none⟩ (.slice z1 d3.fNames.length zp1)).setCell ⟨w.heap.size + 1 + 1 + 1 + 1, 2, none⟩ (.slice z2 d3.fSafe.length zp2)).setCell ⟨w.heap.size + 1 + 1 + 1 + 1, 3, none⟩ (.int .i64 d3.fNext))) := HS3.out.2.2.2.2.2.2.2.2.2.trans (hT.below (fun k hk => by simp at hk; omega) HS3.out.2.2.2.2.2.2.2.2.2.size)
     have HO : Hid (oDisk ((((w4.setCell ⟨w.heap.size + 1 + 1 + 1 + 1, 0, none⟩ (.slice z0 d3.fInodes.length zp0)).setCell ⟨w.heap.size + 1 + 1 + 1 + 1, 1, none⟩ (.slice z1 d3.fNames.length zp1)).setCell ⟨w.heap.size + 1 + 1 + 1 + 1, 2, none⟩ (.slice z2 d3.fSafe.length zp2)).setCell ⟨w.heap.size + 1 + 1 + 1 + 1, 3, none⟩ (.int .i64 d3.fNext)) [.slice z0 d3.fInodes.length zp0, .slice z1 d3.fNames.length zp1, .slice z2 d3.fSafe.length zp2, .int .i64 d3.fNext] d3 _) := oDisk_good.frame HS3.out.2.1 (fun b hb => hT.block b (oDisk_good.lt HS3.out.2.1 b hb) (by intro h; simp at h; have := HS3.out.2.2.2.1 b hb; omega))
     have HN := Hm HS3.out.2.2.1
     have HG := Hm HS3.out.2.2.2.1
     clear hT r1
     simp only [hw4] at x0 x1 x2 x3 r10 r11 r12 r13 rf0 rf1 rf2 rf3
     simp only [hw4] at HB HO
     go_wp2_with fail
     exact bodyPost_ret (v := .tuple #[.agg #[.slice z0 d3.fInodes.length zp0, .slice z1 d3.fNames.length zp1, .slice z2 d3.fSafe.length zp2, .int .i64 d3.fNext], .int .i64 c3]) (by simp [results, Tryz.results19, go_sem, *]) rfl ⟨[.slice z0 d3.fInodes.length zp0, .slice z1 d3.fNames.length zp1, .slice z2 d3.fSafe.length zp2, .int .i64 d3.fNext], _, by rw [HRES.out], by rw [HRES.out]; exact HO.out, HN.out, (fun b hb => by have := HG.out b hb; omega), HB.out⟩
   ·have HD : Hid (swD mr t zb s (1 + 1) = appendP (swD mr t zb s 1) t zb) := rfl
    have HC : Hid (swC mr t zb s 1 = appendC (swD mr t zb s 1) t zb) := rfl
    generalize swD mr t zb s 1 = d2 at *
    obtain ⟨y0, yp0, y1, yp1, y2, yp2, Y0, Y1, Y2, rfl, _, _, _, _, rfl⟩ := oDisk_cells HS.out.2.1
    obtain ⟨x0, x1, x2, x3⟩ := HS.out.1.c4
    have hfn := HS.out.2.2.2.2.2.2.2.2.1.2.2 1 _ rfl
    have hfl := HS.out.2.2.2.2.2.2.2.2.1.2.1
    have hrd := oDisk_good.read HS.out.2.1
    have hBw := HS.out.2.2.2.2.2.2.2.2.2
    go_wp2_with fail
    refine (sw2_any _ d2 t (.slice ab zb.length cb) zb hzb (w.heap.size + 1) (w.heap.size + 1 + 1) wr hrd hsm ht ((HVB.out.below hBw).mono hBw.size) HS.out.2.2.2.2.1 HS.out.2.2.2.2.2.1).mono ?_
    rw [<- HD.out, <- HC.out]
    generalize hd3 : swD mr t zb s (1 + 1) = d3 at *
    have HD3 := Hm hd3
    clear hd3
    generalize swC mr t zb s 1 = c3 at *
    rintro e w3 ⟨cs3, F3, rfl, ho3, hN3, hge3, hx3⟩
    obtain ⟨z0, zp0, z1, zp1, z2, zp2, Z0, Z1, Z2, rfl, _, _, _, _, rfl⟩ := oDisk_cells ho3
    have hb3 := HS.out.1.under hx3
    obtain ⟨v0, g0, v1, g1, v2, g2, v3, g3⟩ := hb3.c8
    have hl3 := hb3.lt
    have HS3 := Hm (HS.out.step rfl hx3 ho3 hN3 hge3)
    obtain ⟨w4, hw4⟩ : ∃ w4, w4 = ((((w3.setCell ⟨w.heap.size, 0, none⟩ (.slice z0 d3.fInodes.length zp0)).setCell ⟨w.heap.size, 1, none⟩ (.slice z1 d3.fNames.length zp1)).setCell ⟨w.heap.size, 2, none⟩ (.slice z2 d3.fSafe.length zp2)).setCell ⟨w.heap.size, 3, none⟩ (.int .i64 d3.fNext)) := ⟨_, rfl⟩
    rw [<- hw4] at HS3
    clear ho3 hN3 hge3 hb3 hrd x0 x1 x2 x3 hfn
    by_cases hc0 : c3 = 0
    ·have HN4 := Hm (HON.out hc0)
     subst hc0
     go_wp2_with fail
     rw [<- hw4]
     clear hw4
     go_roundw
     case rel => exact ⟨2, _, _, by omega, by go_num, rfl, HN4.out, by rw [HD3.out]; exact HS3.out⟩
     case measure => simp [intOf]
    ·have HRES := Hm (HOU.out hc0)
     have hs4 := HS3.out.size
     have hz4 : w4.heap.size = w3.heap.size := by rw [hw4]; simp
     clear HON HOU HAT
     have r1 := HS3.out.2.2.2.2.2.2.2.1
     have x0 := HS3.out.1.cell 0 _ rfl
     have r10 := r1.cell 0 _ rfl
     have rf0 := r1.free 0
     have x1 := HS3.out.1.cell 1 _ rfl
     have r11 := r1.cell 1 _ rfl
     have rf1 := r1.free 1
     have x2 := HS3.out.1.cell 2 _ rfl
     have r12 := r1.cell 2 _ rfl
     have rf2 := r1.free 2
     have x3 := HS3.out.1.cell 3 _ rfl
     have r13 := r1.cell 3 _ rfl
     have rf3 := r1.free 3
     have hlr := r1.lt
     have hld := HS3.out.1.lt
     have hT := turn4 w4 (w.heap.size + 1 + 1 + 1 + 1) (.slice z0 d3.fInodes.length zp0) (.slice z1 d3.fNames.length zp1) (.slice z2 d3.fSafe.length zp2) (.int .i64 d3.fNext)
     have HB : Hid (Below w.heap.size w ((((w4.setCell ⟨w.heap.size + 1 + 1 + 1 + 1, 0, none⟩ (.slice z0 d3.fInodes.length zp0)).setCell ⟨w.heap.size + 1 + 1 + 1 + 1, 1, none⟩ (.slice z1 d3.fNames.length zp1)).setCell ⟨w.heap.size + 1 + 1 + 1 + 1, 2, none⟩ (.slice z2 d3.fSafe.length zp2)).setCell ⟨w.heap.size + 1 + 1 + 1 + 1, 3, none⟩ (.int .i64 d3.fNext))) := HS3.out.2.2.2.2.2.2.2.2.2.trans (hT.below (fun k hk => by simp at hk; omega) HS3.out.2.2.2.2.2.2.2.2.2.size)
     have HO : Hid (oDisk ((((w4.setCell ⟨w.heap.size + 1 + 1 + 1 + 1, 0, none⟩ (.slice z0 d3.fInodes.length zp0)).setCell ⟨w.heap.size + 1 + 1 + 1 + 1, 1, none⟩ (.slice z1 d3.fNames.length zp1)).setCell ⟨w.heap.size + 1 + 1 + 1 + 1, 2, none⟩ (.slice z2 d3.fSafe.length zp2)).setCell ⟨w.heap.size + 1 + 1 + 1 + 1, 3, none⟩ (.int .i64 d3.fNext)) [.slice z0 d3.fInodes.length zp0, .slice z1 d3.fNames.length zp1, .slice z2 d3.fSafe.length zp2, .int .i64 d3.fNext] d3 _) := oDisk_good.frame HS3.out.2.1 (fun b hb => hT.block b (oDisk_good.lt HS3.out.2.1 b hb) (by intro h; simp at h; have := HS3.out.2.2.2.1 b hb; omega))
     have HN := Hm HS3.out.2.2.1
     have HG := Hm HS3.out.2.2.2.1
     clear hT r1
     simp only [hw4] at x0 x1 x2 x3 r10 r11 r12 r13 rf0 rf1 rf2 rf3
     simp only [hw4] at HB HO
     go_wp2_with fail
     exact bodyPost_ret (v := .tuple #[.agg #[.slice z0 d3.fInodes.length zp0, .slice z1 d3.fNames.length zp1, .slice z2 d3.fSafe.length zp2, .int .i64 d3.fNext], .int .i64 c3]) (by simp [results, Tryz.results19, go_sem, *]) rfl ⟨[.slice z0 d3.fInodes.length zp0, .slice z1 d3.fNames.length zp1, .slice z2 d3.fSafe.length zp2, .int .i64 d3.fNext], _, by rw [HRES.out], by rw [HRES.out]; exact HO.out, HN.out, (fun b hb => by have := HG.out b hb; omega), HB.out⟩
   ·have HD : Hid (swD mr t zb s (2 + 1) = syncP (swD mr t zb s 2) t) := rfl
    have HC : Hid (swC mr t zb s 2 = callP (swD mr t zb s 2) t) := rfl
    generalize swD mr t zb s 2 = d2 at *
    obtain ⟨y0, yp0, y1, yp1, y2, yp2, Y0, Y1, Y2, rfl, _, _, _, _, rfl⟩ := oDisk_cells HS.out.2.1
    obtain ⟨x0, x1, x2, x3⟩ := HS.out.1.c4
    have hfn := HS.out.2.2.2.2.2.2.2.2.1.2.2 2 _ rfl
    have hfl := HS.out.2.2.2.2.2.2.2.2.1.2.1
    have hrd := oDisk_good.read HS.out.2.1
    have hBw := HS.out.2.2.2.2.2.2.2.2.2
    go_wp2_with fail
    refine (sw3_any _ d2 t (w.heap.size + 1) wr hrd hsm ht HS.out.2.2.2.2.1).mono ?_
    rw [<- HD.out, <- HC.out]
    generalize hd3 : swD mr t zb s (2 + 1) = d3 at *
    have HD3 := Hm hd3
    clear hd3
    generalize swC mr t zb s 2 = c3 at *
    rintro e w3 ⟨cs3, F3, rfl, ho3, hN3, hge3, hx3⟩
    obtain ⟨z0, zp0, z1, zp1, z2, zp2, Z0, Z1, Z2, rfl, _, _, _, _, rfl⟩ := oDisk_cells ho3
    have hb3 := HS.out.1.under hx3
    obtain ⟨v0, g0, v1, g1, v2, g2, v3, g3⟩ := hb3.c8
    have hl3 := hb3.lt
    have HS3 := Hm (HS.out.step rfl hx3 ho3 hN3 hge3)
    obtain ⟨w4, hw4⟩ : ∃ w4, w4 = ((((w3.setCell ⟨w.heap.size, 0, none⟩ (.slice z0 d3.fInodes.length zp0)).setCell ⟨w.heap.size, 1, none⟩ (.slice z1 d3.fNames.length zp1)).setCell ⟨w.heap.size, 2, none⟩ (.slice z2 d3.fSafe.length zp2)).setCell ⟨w.heap.size, 3, none⟩ (.int .i64 d3.fNext)) := ⟨_, rfl⟩
    rw [<- hw4] at HS3
    clear ho3 hN3 hge3 hb3 hrd x0 x1 x2 x3 hfn
    by_cases hc0 : c3 = 0
    ·have HN4 := Hm (HON.out hc0)
     subst hc0
     go_wp2_with fail
     rw [<- hw4]
     clear hw4
     go_roundw
     case rel => exact ⟨3, _, _, by omega, by go_num, rfl, HN4.out, by rw [HD3.out]; exact HS3.out⟩
     case measure => simp [intOf]
    ·have HRES := Hm (HOU.out hc0)
     have hs4 := HS3.out.size
     have hz4 : w4.heap.size = w3.heap.size := by rw [hw4]; simp
     clear HON HOU HAT
     have r1 := HS3.out.2.2.2.2.2.2.2.1
     have x0 := HS3.out.1.cell 0 _ rfl
     have r10 := r1.cell 0 _ rfl
     have rf0 := r1.free 0
     have x1 := HS3.out.1.cell 1 _ rfl
     have r11 := r1.cell 1 _ rfl
     have rf1 := r1.free 1
     have x2 := HS3.out.1.cell 2 _ rfl
     have r12 := r1.cell 2 _ rfl
     have rf2 := r1.free 2
     have x3 := HS3.out.1.cell 3 _ rfl
     have r13 := r1.cell 3 _ rfl
     have rf3 := r1.free 3
     have hlr := r1.lt
     have hld := HS3.out.1.lt
     have hT := turn4 w4 (w.heap.size + 1 + 1 + 1 + 1) (.slice z0 d3.fInodes.length zp0) (.slice z1 d3.fNames.length zp1) (.slice z2 d3.fSafe.length zp2) (.int .i64 d3.fNext)
     have HB : Hid (Below w.heap.size w ((((w4.setCell ⟨w.heap.size + 1 + 1 + 1 + 1, 0, none⟩ (.slice z0 d3.fInodes.length zp0)).setCell ⟨w.heap.size + 1 + 1 + 1 + 1, 1, none⟩ (.slice z1 d3.fNames.length zp1)).setCell ⟨w.heap.size + 1 + 1 + 1 + 1, 2, none⟩ (.slice z2 d3.fSafe.length zp2)).setCell ⟨w.heap.size + 1 + 1 + 1 + 1, 3, none⟩ (.int .i64 d3.fNext))) := HS3.out.2.2.2.2.2.2.2.2.2.trans (hT.below (fun k hk => by simp at hk; omega) HS3.out.2.2.2.2.2.2.2.2.2.size)
     have HO : Hid (oDisk ((((w4.setCell ⟨w.heap.size + 1 + 1 + 1 + 1, 0, none⟩ (.slice z0 d3.fInodes.length zp0)).setCell ⟨w.heap.size + 1 + 1 + 1 + 1, 1, none⟩ (.slice z1 d3.fNames.length zp1)).setCell ⟨w.heap.size + 1 + 1 + 1 + 1, 2, none⟩ (.slice z2 d3.fSafe.length zp2)).setCell ⟨w.heap.size + 1 + 1 + 1 + 1, 3, none⟩ (.int .i64 d3.fNext)) [.slice z0 d3.fInodes.length zp0, .slice z1 d3.fNames.length zp1, .slice z2 d3.fSafe.length zp2, .int .i64 d3.fNext] d3 _) := oDisk_good.frame HS3.out.2.1 (fun b hb => hT.block b (oDisk_good.lt HS3.out.2.1 b hb) (by intro h; simp at h; have := HS3.out.2.2.2.1 b hb; omega))
     have HN := Hm HS3.out.2.2.1
     have HG := Hm HS3.out.2.2.2.1
     clear hT r1
     simp only [hw4] at x0 x1 x2 x3 r10 r11 r12 r13 rf0 rf1 rf2 rf3
     simp only [hw4] at HB HO
     go_wp2_with fail
     exact bodyPost_ret (v := .tuple #[.agg #[.slice z0 d3.fInodes.length zp0, .slice z1 d3.fNames.length zp1, .slice z2 d3.fSafe.length zp2, .int .i64 d3.fNext], .int .i64 c3]) (by simp [results, Tryz.results19, go_sem, *]) rfl ⟨[.slice z0 d3.fInodes.length zp0, .slice z1 d3.fNames.length zp1, .slice z2 d3.fSafe.length zp2, .int .i64 d3.fNext], _, by rw [HRES.out], by rw [HRES.out]; exact HO.out, HN.out, (fun b hb => by have := HG.out b hb; omega), HB.out⟩
   ·have HD : Hid (swD mr t zb s (3 + 1) = renameP (swD mr t zb s 3) t s) := rfl
    have HC : Hid (swC mr t zb s 3 = renameC (swD mr t zb s 3) t s) := rfl
    generalize swD mr t zb s 3 = d2 at *
    obtain ⟨y0, yp0, y1, yp1, y2, yp2, Y0, Y1, Y2, rfl, _, _, _, _, rfl⟩ := oDisk_cells HS.out.2.1
    obtain ⟨x0, x1, x2, x3⟩ := HS.out.1.c4
    have hfn := HS.out.2.2.2.2.2.2.2.2.1.2.2 3 _ rfl
    have hfl := HS.out.2.2.2.2.2.2.2.2.1.2.1
    have hrd := oDisk_good.read HS.out.2.1
    have hBw := HS.out.2.2.2.2.2.2.2.2.2
    go_wp2_with fail
    refine (sw4_any _ d2 t s hs (w.heap.size + 1) (w.heap.size + 1 + 1 + 1) wr hrd hsm ht HS.out.2.2.2.2.1 HS.out.2.2.2.2.2.2.1).mono ?_
    rw [<- HD.out, <- HC.out]
    generalize hd3 : swD mr t zb s (3 + 1) = d3 at *
    have HD3 := Hm hd3
    clear hd3
    generalize swC mr t zb s 3 = c3 at *
    rintro e w3 ⟨cs3, F3, rfl, ho3, hN3, hge3, hx3⟩
    obtain ⟨z0, zp0, z1, zp1, z2, zp2, Z0, Z1, Z2, rfl, _, _, _, _, rfl⟩ := oDisk_cells ho3
    have hb3 := HS.out.1.under hx3
    obtain ⟨v0, g0, v1, g1, v2, g2, v3, g3⟩ := hb3.c8
    have hl3 := hb3.lt
    have HS3 := Hm (HS.out.step rfl hx3 ho3 hN3 hge3)
    obtain ⟨w4, hw4⟩ : ∃ w4, w4 = ((((w3.setCell ⟨w.heap.size, 0, none⟩ (.slice z0 d3.fInodes.length zp0)).setCell ⟨w.heap.size, 1, none⟩ (.slice z1 d3.fNames.length zp1)).setCell ⟨w.heap.size, 2, none⟩ (.slice z2 d3.fSafe.length zp2)).setCell ⟨w.heap.size, 3, none⟩ (.int .i64 d3.fNext)) := ⟨_, rfl⟩
    rw [<- hw4] at HS3
    clear ho3 hN3 hge3 hb3 hrd x0 x1 x2 x3 hfn
    by_cases hc0 : c3 = 0
    ·have HN4 := Hm (HON.out hc0)
     subst hc0
     go_wp2_with fail
     rw [<- hw4]
     clear hw4
     go_roundw
     case rel => exact ⟨4, _, _, by omega, by go_num, rfl, HN4.out, by rw [HD3.out]; exact HS3.out⟩
     case measure => simp [intOf]
    ·have HRES := Hm (HOU.out hc0)
     have hs4 := HS3.out.size
     have hz4 : w4.heap.size = w3.heap.size := by rw [hw4]; simp
     clear HON HOU HAT
     have r1 := HS3.out.2.2.2.2.2.2.2.1
     have x0 := HS3.out.1.cell 0 _ rfl
     have r10 := r1.cell 0 _ rfl
     have rf0 := r1.free 0
     have x1 := HS3.out.1.cell 1 _ rfl
     have r11 := r1.cell 1 _ rfl
     have rf1 := r1.free 1
     have x2 := HS3.out.1.cell 2 _ rfl
     have r12 := r1.cell 2 _ rfl
     have rf2 := r1.free 2
     have x3 := HS3.out.1.cell 3 _ rfl
     have r13 := r1.cell 3 _ rfl
     have rf3 := r1.free 3
     have hlr := r1.lt
     have hld := HS3.out.1.lt
     have hT := turn4 w4 (w.heap.size + 1 + 1 + 1 + 1) (.slice z0 d3.fInodes.length zp0) (.slice z1 d3.fNames.length zp1) (.slice z2 d3.fSafe.length zp2) (.int .i64 d3.fNext)
     have HB : Hid (Below w.heap.size w ((((w4.setCell ⟨w.heap.size + 1 + 1 + 1 + 1, 0, none⟩ (.slice z0 d3.fInodes.length zp0)).setCell ⟨w.heap.size + 1 + 1 + 1 + 1, 1, none⟩ (.slice z1 d3.fNames.length zp1)).setCell ⟨w.heap.size + 1 + 1 + 1 + 1, 2, none⟩ (.slice z2 d3.fSafe.length zp2)).setCell ⟨w.heap.size + 1 + 1 + 1 + 1, 3, none⟩ (.int .i64 d3.fNext))) := HS3.out.2.2.2.2.2.2.2.2.2.trans (hT.below (fun k hk => by simp at hk; omega) HS3.out.2.2.2.2.2.2.2.2.2.size)
     have HO : Hid (oDisk ((((w4.setCell ⟨w.heap.size + 1 + 1 + 1 + 1, 0, none⟩ (.slice z0 d3.fInodes.length zp0)).setCell ⟨w.heap.size + 1 + 1 + 1 + 1, 1, none⟩ (.slice z1 d3.fNames.length zp1)).setCell ⟨w.heap.size + 1 + 1 + 1 + 1, 2, none⟩ (.slice z2 d3.fSafe.length zp2)).setCell ⟨w.heap.size + 1 + 1 + 1 + 1, 3, none⟩ (.int .i64 d3.fNext)) [.slice z0 d3.fInodes.length zp0, .slice z1 d3.fNames.length zp1, .slice z2 d3.fSafe.length zp2, .int .i64 d3.fNext] d3 _) := oDisk_good.frame HS3.out.2.1 (fun b hb => hT.block b (oDisk_good.lt HS3.out.2.1 b hb) (by intro h; simp at h; have := HS3.out.2.2.2.1 b hb; omega))
     have HN := Hm HS3.out.2.2.1
     have HG := Hm HS3.out.2.2.2.1
     clear hT r1
     simp only [hw4] at x0 x1 x2 x3 r10 r11 r12 r13 rf0 rf1 rf2 rf3
     simp only [hw4] at HB HO
     go_wp2_with fail
     exact bodyPost_ret (v := .tuple #[.agg #[.slice z0 d3.fInodes.length zp0, .slice z1 d3.fNames.length zp1, .slice z2 d3.fSafe.length zp2, .int .i64 d3.fNext], .int .i64 c3]) (by simp [results, Tryz.results19, go_sem, *]) rfl ⟨[.slice z0 d3.fInodes.length zp0, .slice z1 d3.fNames.length zp1, .slice z2 d3.fSafe.length zp2, .int .i64 d3.fNext], _, by rw [HRES.out], by rw [HRES.out]; exact HO.out, HN.out, (fun b hb => by have := HG.out b hb; omega), HB.out⟩
   ·have HD : Hid (swD mr t zb s (4 + 1) = syncDirP (swD mr t zb s 4)) := rfl
    have HC : Hid (swC mr t zb s 4 = syncDirC (swD mr t zb s 4)) := rfl
    generalize swD mr t zb s 4 = d2 at *
    obtain ⟨y0, yp0, y1, yp1, y2, yp2, Y0, Y1, Y2, rfl, _, _, _, _, rfl⟩ := oDisk_cells HS.out.2.1
    obtain ⟨x0, x1, x2, x3⟩ := HS.out.1.c4
    have hfn := HS.out.2.2.2.2.2.2.2.2.1.2.2 4 _ rfl
    have hfl := HS.out.2.2.2.2.2.2.2.2.1.2.1
    have hrd := oDisk_good.read HS.out.2.1
    have hBw := HS.out.2.2.2.2.2.2.2.2.2
    go_wp2_with fail
    refine (implSyncDir_c _ d2 wr hrd hsm).mono ?_
    rw [<- HD.out, <- HC.out]
    generalize hd3 : swD mr t zb s (4 + 1) = d3 at *
    have HD3 := Hm hd3
    clear hd3
    generalize swC mr t zb s 4 = c3 at *
    rintro e w3 ⟨cs3, F3, rfl, ho3, hN3, hge3, hx3⟩
    obtain ⟨z0, zp0, z1, zp1, z2, zp2, Z0, Z1, Z2, rfl, _, _, _, _, rfl⟩ := oDisk_cells ho3
    have hb3 := HS.out.1.under hx3
    obtain ⟨v0, g0, v1, g1, v2, g2, v3, g3⟩ := hb3.c8
    have hl3 := hb3.lt
    have HS3 := Hm (HS.out.step rfl hx3 ho3 hN3 hge3)
    obtain ⟨w4, hw4⟩ : ∃ w4, w4 = ((((w3.setCell ⟨w.heap.size, 0, none⟩ (.slice z0 d3.fInodes.length zp0)).setCell ⟨w.heap.size, 1, none⟩ (.slice z1 d3.fNames.length zp1)).setCell ⟨w.heap.size, 2, none⟩ (.slice z2 d3.fSafe.length zp2)).setCell ⟨w.heap.size, 3, none⟩ (.int .i64 d3.fNext)) := ⟨_, rfl⟩
    rw [<- hw4] at HS3
    clear ho3 hN3 hge3 hb3 hrd x0 x1 x2 x3 hfn
    by_cases hc0 : c3 = 0
    ·have HN4 := Hm (HON.out hc0)
     subst hc0
     go_wp2_with fail
     rw [<- hw4]
     clear hw4
     go_roundw
     case rel => exact ⟨5, _, _, by omega, by go_num, rfl, HN4.out, by rw [HD3.out]; exact HS3.out⟩
     case measure => simp [intOf]
    ·have HRES := Hm (HOU.out hc0)
     have hs4 := HS3.out.size
     have hz4 : w4.heap.size = w3.heap.size := by rw [hw4]; simp
     clear HON HOU HAT
     have r1 := HS3.out.2.2.2.2.2.2.2.1
     have x0 := HS3.out.1.cell 0 _ rfl
     have r10 := r1.cell 0 _ rfl
     have rf0 := r1.free 0
     have x1 := HS3.out.1.cell 1 _ rfl
     have r11 := r1.cell 1 _ rfl
     have rf1 := r1.free 1
     have x2 := HS3.out.1.cell 2 _ rfl
     have r12 := r1.cell 2 _ rfl
     have rf2 := r1.free 2
     have x3 := HS3.out.1.cell 3 _ rfl
     have r13 := r1.cell 3 _ rfl
     have rf3 := r1.free 3
     have hlr := r1.lt
     have hld := HS3.out.1.lt
     have hT := turn4 w4 (w.heap.size + 1 + 1 + 1 + 1) (.slice z0 d3.fInodes.length zp0) (.slice z1 d3.fNames.length zp1) (.slice z2 d3.fSafe.length zp2) (.int .i64 d3.fNext)
     have HB : Hid (Below w.heap.size w ((((w4.setCell ⟨w.heap.size + 1 + 1 + 1 + 1, 0, none⟩ (.slice z0 d3.fInodes.length zp0)).setCell ⟨w.heap.size + 1 + 1 + 1 + 1, 1, none⟩ (.slice z1 d3.fNames.length zp1)).setCell ⟨w.heap.size + 1 + 1 + 1 + 1, 2, none⟩ (.slice z2 d3.fSafe.length zp2)).setCell ⟨w.heap.size + 1 + 1 + 1 + 1, 3, none⟩ (.int .i64 d3.fNext))) := HS3.out.2.2.2.2.2.2.2.2.2.trans (hT.below (fun k hk => by simp at hk; omega) HS3.out.2.2.2.2.2.2.2.2.2.size)
     have HO : Hid (oDisk ((((w4.setCell ⟨w.heap.size + 1 + 1 + 1 + 1, 0, none⟩ (.slice z0 d3.fInodes.length zp0)).setCell ⟨w.heap.size + 1 + 1 + 1 + 1, 1, none⟩ (.slice z1 d3.fNames.length zp1)).setCell ⟨w.heap.size + 1 + 1 + 1 + 1, 2, none⟩ (.slice z2 d3.fSafe.length zp2)).setCell ⟨w.heap.size + 1 + 1 + 1 + 1, 3, none⟩ (.int .i64 d3.fNext)) [.slice z0 d3.fInodes.length zp0, .slice z1 d3.fNames.length zp1, .slice z2 d3.fSafe.length zp2, .int .i64 d3.fNext] d3 _) := oDisk_good.frame HS3.out.2.1 (fun b hb => hT.block b (oDisk_good.lt HS3.out.2.1 b hb) (by intro h; simp at h; have := HS3.out.2.2.2.1 b hb; omega))
     have HN := Hm HS3.out.2.2.1
     have HG := Hm HS3.out.2.2.2.1
     clear hT r1
     simp only [hw4] at x0 x1 x2 x3 r10 r11 r12 r13 rf0 rf1 rf2 rf3
     simp only [hw4] at HB HO
     go_wp2_with fail
     exact bodyPost_ret (v := .tuple #[.agg #[.slice z0 d3.fInodes.length zp0, .slice z1 d3.fNames.length zp1, .slice z2 d3.fSafe.length zp2, .int .i64 d3.fNext], .int .i64 c3]) (by simp [results, Tryz.results19, go_sem, *]) rfl ⟨[.slice z0 d3.fInodes.length zp0, .slice z1 d3.fNames.length zp1, .slice z2 d3.fSafe.length zp2, .int .i64 d3.fNext], _, by rw [HRES.out], by rw [HRES.out]; exact HO.out, HN.out, (fun b hb => by have := HG.out b hb; omega), HB.out⟩
end Go.Proofs.YtegonncmopecnaaGreatDoor

namespace Go.Proofs.YtegonncmopecnaaGreatDoor
open Go.RowKit Go.Shelf
def goesOn (n : Nat) (P : Program) (Q : Exit -> Act -> World -> Prop) (a : Act) (W : World) : Option Code -> Prop
 | none => Q .normal a W
 | some c => c.wpIn Fence.wide n P Q a W
theorem range_begins {P : Program} {n : Nat} {g : Operand} {ps : Array Tmp} {assign body : Code} {Q : Exit -> Act -> World -> Prop} {a : Act} {w : World} {gf : Nat} {lb : Array Value}
  (hg : a.eval g = .func (.func gf) #[] lb) (eg : ∀ args w, (callFunc gf args).run P w = .ok (.enter gf args) w)
  (h : ∀ (fn : FuncId) (r : Loop), r.state = .ready -> r.pending = none -> r.params = ps -> r.tmps = a.tmps -> r.assign = assign -> r.body = body -> ∀ W1 : World, W1.heap[w.heap.size + 1]? = some (.loop r) -> W1.heap[w.heap.size]? = some (.deferred (some [])) -> W1.heap.size = w.heap.size + 2 -> Below w.heap.size w W1 ->
   Calls P gf (#[.func (.yield (w.heap.size + 1)) #[] #[]] ++ lb) W1 fun e W2 => (∃ v, e = .returned v) /\ ∃ r2 : Loop, W2.heap[w.heap.size + 1]? = some (.loop r2) /\ r2.state ≠ .busy /\ W2.heap[w.heap.size]? = some (.deferred (some [])) /\
    goesOn n P Q { a with defers := { target := .collected w.heap.size, args := #[] } :: a.defers } (W2.putObj (w.heap.size + 1) (.loop { r2 with state := .exhausted })) r2.pending)
  (hn : 1 <= n) :
  (Code.rangeFunc g ps assign body).wpIn Fence.wide n P Q a w := by
 refine wpIn_rangeFunc fun fn _ => ?_
 obtain ⟨r, hr⟩ : ∃ r : Loop, r = { state := .ready, pending := none, fn, tmps := a.tmps, params := ps, assign, body, defers := w.heap.size } := ⟨_, rfl⟩
 obtain ⟨W1, hW1⟩ : ∃ W1, W1 = (w.alloc (.deferred (some []))).alloc (.loop r) := ⟨_, rfl⟩
 have he : (Instr.enterLoop fn a.tmps ps assign body none).run P w = .ok (w.heap.size + 1, [{ target := .collected w.heap.size, args := #[] }]) W1 := by rw [hW1, hr]; exact run_enterLoop_outer fn a.tmps ps assign body
 refine ⟨_, _, W1, { target := .fn (.func gf) lb, args := #[.func (.yield (w.heap.size + 1)) #[] #[]] }, W1, gf, #[.func (.yield (w.heap.size + 1)) #[] #[]] ++ lb, W1, he, ?_, fun _ _ => trivial, ?_, fun _ => hn, ?_⟩
 ·simp only [resolve, hg]
  simp [go_sem]
 ·simp [invoke, go_sem, eg]
 ·refine (callsIn_wide.2 (h fn r (by rw [hr]) (by rw [hr]) (by rw [hr]) (by rw [hr]) (by rw [hr]) (by rw [hr]) W1 ?_ ?_ ?_ ?_)).mono ?_
  ·rw [hW1]
   have := World.alloc_heap_new (w.alloc (.deferred (some []))) (.loop r)
   rwa [World.size_alloc] at this
  ·rw [hW1]; exact (Below.heap_alloc _ _ _ (by simp)).trans (World.alloc_heap_new w _)
  ·rw [hW1]; simp
  ·rw [hW1]; exact ((Below.refl _ w).alloc rN _).alloc (by simp) _
  ·rintro e W2 ⟨⟨v, rfl⟩, r2, hl, hs, hd, hgo⟩
   refine ⟨r2.pending, _, run_endLoop hl hs, ?_⟩
   revert hgo
   cases r2.pending with
   | none => exact id
   | some c => exact id
def roundEnd (l : Nat) (r : Loop) (R : Ending -> World -> Prop) : Exit -> Act -> World -> Prop
 | .normal, _, W => W.heap[l]? = some (.loop { r with state := .busy }) /\ R (.returned (.bool true)) (W.putObj l (.loop { r with state := .ready, pending := none }))
 | .ret, _, W => W.heap[l]? = some (.loop { r with state := .busy }) /\ R (.returned (.bool false)) (W.putObj l (.loop { r with state := .done, pending := some .ret }))
 | .exit id, _, W => W.heap[l]? = some (.loop { r with state := .busy }) /\ R (.returned (.bool false)) (W.putObj l (.loop { r with state := .done, pending := some (.exit id) }))
 | .goto t, _, W => W.heap[l]? = some (.loop { r with state := .busy }) /\ R (.returned (.bool false)) (W.putObj l (.loop { r with state := .done, pending := some (.goto t) }))
 | .panic _, _, _ => False
 | .outgrown, _, _ => False
theorem round_runs {P : Program} {n l : Nat} {r : Loop} {f : FuncId} {tmps : Array Value} {assign body : Code} {W : World} {R : Ending -> World -> Prop} (hr : r.state = .ready)
  (h : assign.wpIn (Fence.wide.inRound l) n P (Exit.then (fun a1 W1 => W1.heap[l]? = some (.loop r) /\ body.wpIn (Fence.wide.inRound l) n P (roundEnd l r R) a1 (W1.putObj l (.loop { r with state := .busy }))) (fun _ _ _ => False))
   { tmps := tmps, defers := [] } W) :
  RoundIn Fence.wide n P l f tmps assign body W R := by
 refine roundIn_of_wpIn trivial (wpIn_mono h ?_)
 rintro e a1 W1 hp
 cases e with
 | normal =>
  obtain ⟨hl1, hb⟩ := hp
  refine ⟨_, run_beginRound hl1 hr, wpIn_mono hb ?_⟩
  rintro e a3 W3 hp3
  cases e with
  | normal => exact ⟨_, _, run_endRound none hp3.1, hp3.2⟩
  | ret => exact ⟨_, _, run_endRound (some .ret) hp3.1, hp3.2⟩
  | exit id => exact ⟨_, _, run_endRound (some (.exit id)) hp3.1, hp3.2⟩
  | goto t => exact ⟨_, _, run_endRound (some (.goto t)) hp3.1, hp3.2⟩
  | panic c => exact hp3.elim
  | outgrown => exact hp3.elim
 | ret => exact hp.elim
 | exit id => exact hp.elim
 | goto t => exact hp.elim
 | panic c => exact hp.elim
 | outgrown => exact hp.elim
end Go.Proofs.YtegonncmopecnaaGreatDoor

namespace Go.Proofs.YtegonncmopecnaaGreatDoor
open Go.RowKit
set_option maxHeartbeats 800000 in
theorem implUnframe_any (a : Option Addr) (n cap : Nat) (zs : List Int) (p : Int) (w : World) (hx : zs.length = n) (hlen : n <= 35184372088832) (hcap : n <= cap) (hb : BytesOk zs) (hr : Rd .u8 w.heap.size w a zs) (ht : TabAt w) :
  Calls Tryz.prog 64 #[.slice a n cap, .int .i64 p] w (UnfPost w (unframe zs p)) := by
 obtain ⟨i0, hi, hz0, hz1, hz2⟩ := info_parts Tryz.info5
 have HX : Hid (zs.length = n) := hx
 clear hx
 have hsz : 0 < w.heap.size := ht.size
 by_cases hout : p < 0 ∨ (n : Int) - 4 < p
 ·have HV : Hid (unframe zs p = ([], p, false)) := unframe_out (by rw [HX.out]; exact hout)
  by_cases h0 : p < 0
  ·clear hout
   go_enter Tryz.func64, Tryz.ntmps64
   go_wp2
   go_ret3
   rw [HV.out]
   exact unf_nil rB
  ·have h1 : (n : Int) - 4 < p := by omega
   clear hout
   go_enter Tryz.func64, Tryz.ntmps64
   go_wp2
   go_ret3
   rw [HV.out]
   exact unf_nil rB
 ·obtain ⟨p, rfl⟩ := Int.eq_ofNat_of_zero_le (show 0 <= p by omega)
  have hp : p + 4 <= n := by omega
  clear hout
  have hN := implGetNum_any a n cap zs ((p : Int) + 4) w w.heap.size HX.out (by omega) hb hr
  go_enter Tryz.func64, Tryz.ntmps64
  go_wp2_with fail
  refine hN.mono ?_
  rintro e w1 ⟨rfl, rfl⟩
  clear hN
  rcases text_cases zs ((p : Int) + 4) with ⟨r0, r1, hR, hv⟩ | ⟨m, f, hR, hf, hm, hout, hv⟩ | ⟨m, f, hR, hf, hm, hin, hv⟩
  ·have HV := Hm (unframe_no (by rw [HX.out]; exact hp) hv)
   rw [hR]
   unfold numVal
   clear hR hv
   go_wp2
   go_ret3
   rw [HV.out]
   exact unf_nil rB
  ·have HV := Hm (unframe_no (by rw [HX.out]; exact hp) hv)
   rw [hR]
   unfold numVal
   clear hR hv
   rw [HX.out] at hf hout
   go_wp2
   go_ret3
   rw [HV.out]
   exact unf_nil rB
  ·have HYes := fun h => Hm (unframe_yes (by rw [HX.out]; exact hp) hv h)
   have HNo := fun h => Hm (unframe_sum (by rw [HX.out]; exact hp) hv h)
   rw [hR]
   unfold numVal
   clear hR hv
   have hbody := getText_ok hb f m
   have hbl : ((zs.drop f).take m).length = m := take_drop_length hin
   obtain ⟨b1, o1, rfl, _, _⟩ := hr 0 (by omega)
   have hsub : Rd .u8 w1.heap.size w1 (some ⟨b1, o1 + f, none⟩) ((zs.drop f).take (n - f)) := hr.sub (by have := HX.out; omega)
   have hfour : Rd .u8 w1.heap.size w1 (some ⟨b1, o1 + p, none⟩) ((zs.drop p).take 4) := hr.sub (by rw [HX.out]; exact hp)
   have h4l : ((zs.drop p).take 4).length = 4 := take_drop_length (by rw [HX.out]; exact hp)
   have h4b := getText_ok hb p 4
   have HR4 := Hm (rdN_four (zs := zs) (p := p) (by rw [HX.out]; exact hp))
   have hsubl : ((zs.drop f).take (n - f)).length = n - f := take_drop_length (by have := HX.out; omega)
   have HBody : Hid (((zs.drop f).take (n - f)).take m = (zs.drop f).take m) := by
    unfold Hid
    rw [List.take_take, Nat.min_eq_left (by have := HX.out; omega)]
   generalize (zs.drop f).take (n - f) = src at hsub hsubl HBody
   generalize (zs.drop f).take m = body at hbody hbl HYes HNo HBody
   generalize (zs.drop p).take 4 = fr at hfour h4l h4b HR4
   rw [HX.out] at hin
   have hcapf : f < cap ∨ (cap = f /\ m = 0 /\ n = f) := by omega
   have HBL := Hm hbl
   have HSL := Hm hsubl
   have H4L := Hm h4l
   clear hbl hsubl h4l
   rcases hcapf with hcf | ⟨hc1, hc2, hc3⟩
   ·have hcf' : ¬ cap = f := by omega
    go_wp2_with (at_make; refine wpList_make_full _ rfl _ _ 22 rfl w1.heap.size 5 i0 (.int .u8 0) 1 Tryz.underlying22 hi hz0 hz1 .i64 .i64 _ _ m rfl rfl rfl rfl (by rw [hz2]; omega) (by unfold maxLen; omega) rN ?_)
    intro w2 hown2 hgr2
    have hB2 : Below w1.heap.size w1 w2 := rB.grown hgr2 rN (fun k h => by cases h)
    clear hgr2
    go_wp2_with (refine wpList_copy_le rfl _ _ 22 22 rfl 5 i0 Tryz.underlying22 hi hz1 w1.heap.size w1.heap.size m m (n - f) (cap - f) (some ⟨b1, o1 + f, none⟩) rfl rfl _ hown2 .u8 src w1.heap.size HSL.out (by omega) (hsub.below hB2) ?_)
    intro w3 hown3 hgr3
    have hB3 : Below w1.heap.size w1 w3 := hB2.grown hgr3 hB2.size (fun k h => by simp at h; omega)
    rw [<- List.map_take, HBody.out] at hown3
    clear hgr3 hown2 hB2
    have hq3 := Rd.own HBL.out hown3
    have ht3 := ht.below hB3 hsz
    have hf3 := hfour.below hB3
    by_cases hc : crc body = rd4 zs p
    ·have HV := HYes hc
     have hcb : (crc body != rdN fr) = false := by rw [HR4.out]; simp [hc]
     clear HYes HNo hc
     go_wp2_with fail
     go_quiet (first | (go_at_call 69; exact Calls.quiet_of_same (implSum_any _ m m body _ _ HBL.out (by omega) hbody (by exact hq3) (by exact ht3))) | (go_at_call 90; exact Calls.quiet_of_same (readFour_any _ _ fr _ _ H4L.out h4b (by exact hf3))))
     go_wp2
     go_ret3
     rw [HV.out]
     exact ⟨_, rfl, own_drewN (own_congr hown3 HBL.out.symm rfl), below_drewN hB3 _⟩
    ·have HV := HNo hc
     have hcb : (crc body != rdN fr) = true := by rw [HR4.out]; simp [hc]
     clear HYes HNo hc
     go_wp2_with fail
     go_quiet (first | (go_at_call 69; exact Calls.quiet_of_same (implSum_any _ m m body _ _ HBL.out (by omega) hbody (by exact hq3) (by exact ht3))) | (go_at_call 90; exact Calls.quiet_of_same (readFour_any _ _ fr _ _ H4L.out h4b (by exact hf3))))
     go_wp2
     go_ret3
     rw [HV.out]
     exact unf_nil (below_drewN hB3 _)
   ·subst hc1
    subst hc2
    subst hc3
    have hsrc : src = [] := List.eq_nil_of_length_eq_zero (by rw [HSL.out]; omega)
    subst hsrc
    go_wp2_with (at_make; refine wpList_make_full _ rfl _ _ 22 rfl w1.heap.size 5 i0 (.int .u8 0) 1 Tryz.underlying22 hi hz0 hz1 .i64 .i64 _ _ 0 rfl rfl rfl rfl (by rw [hz2]; omega) (by unfold maxLen; omega) rN ?_)
    intro w2 hown2 hgr2
    have hB2 : Below w1.heap.size w1 w2 := rB.grown hgr2 rN (fun k h => by cases h)
    clear hgr2
    go_wp2_with (refine wpList_copy_le rfl _ _ 22 22 rfl 5 i0 Tryz.underlying22 hi hz1 w1.heap.size w1.heap.size 0 0 0 0 (some ⟨b1, o1, none⟩) rfl rfl _ hown2 .u8 [] 0 rfl (by omega) Rd.nil ?_)
    intro w3 hown3 hgr3
    have hB3 : Below w1.heap.size w1 w3 := hB2.grown hgr3 hB2.size (fun k h => by simp at h; omega)
    have hbn : body = [] := List.eq_nil_of_length_eq_zero HBL.out
    clear hgr3 hown2 hB2
    have hq3 : Rd .u8 w3.heap.size w3 (some ⟨w1.heap.size, 0, none⟩) body := by rw [hbn]; exact Rd.nil
    have hown3' : w3.ownsRow w1.heap.size 5 1 (.slice (some ⟨w1.heap.size, 0, none⟩) 0 0) body.length (body.map (Value.int .u8)) := by rw [hbn]; exact hown3
    clear hbn
    have ht3 := ht.below hB3 hsz
    have hf3 := hfour.below hB3
    by_cases hc : crc body = rd4 zs p
    ·have HV := HYes hc
     have hcb : (crc body != rdN fr) = false := by rw [HR4.out]; simp [hc]
     clear HYes HNo hc
     go_wp2_with fail
     go_quiet (first | (go_at_call 69; exact Calls.quiet_of_same (implSum_any _ 0 0 body _ _ HBL.out (by omega) hbody (by exact hq3) (by exact ht3))) | (go_at_call 90; exact Calls.quiet_of_same (readFour_any _ _ fr _ _ H4L.out h4b (by exact hf3))))
     go_wp2
     go_ret3
     rw [HV.out]
     exact ⟨_, rfl, own_drewN hown3', below_drewN hB3 _⟩
    ·have HV := HNo hc
     have hcb : (crc body != rdN fr) = true := by rw [HR4.out]; simp [hc]
     clear HYes HNo hc
     go_wp2_with fail
     go_quiet (first | (go_at_call 69; exact Calls.quiet_of_same (implSum_any _ 0 0 body _ _ HBL.out (by omega) hbody (by exact hq3) (by exact ht3))) | (go_at_call 90; exact Calls.quiet_of_same (readFour_any _ _ fr _ _ H4L.out h4b (by exact hf3))))
     go_wp2
     go_ret3
     rw [HV.out]
     exact unf_nil (below_drewN hB3 _)
end Go.Proofs.YtegonncmopecnaaGreatDoor
