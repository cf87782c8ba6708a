/-
  Part 23 of the texts that the proof leans on.
-/
import Derived.Test.YtomlpobbhioflaaGreatDoorStn21
import Derived.Shelf.Strconv.Itoa3
import Derived.Shelf.Strings.OnBuilder
import Derived.Test.YtomlpobbhioflaaGreatDoorProg
import Derived.Test.YtomlpobbhioflaaGreatDoorStn1
import Derived.Test.YtomlpobbhioflaaGreatDoorStn2
import Derived.Test.YtomlpobbhioflaaGreatDoorRows
import Derived.Test.YtomlpobbhioflaaGreatDoorStn0
import Derived.Test.YtomlpobbhioflaaGreatDoorStn4
import Derived.Test.YtomlpobbhioflaaGreatDoorChecked
set_option linter.unusedVariables false
set_option linter.unusedSimpArgs false
set_option maxRecDepth 10000

namespace Go.Proofs.YtomlpobbhioflaaGreatDoor
open Go.RowKit
theorem Bx.new' (w : World) (vs : List Value) (t : TypeId) {b : Nat} (hb : b = w.heap.size) : Bx (w.alloc (.cells vs.toArray t)) b vs := by
 rw [hb]
 exact Bx.new w vs t
theorem Bw.set4 {w : World} {b : Nat} {t : TypeId} {vs : List Value} (h : Bw w b t vs) (hl : vs.length = 4) (x0 x1 x2 x3 : Value) : Bw ((((w.setCell ⟨b, 0, none⟩ x0).setCell ⟨b, 1, none⟩ x1).setCell ⟨b, 2, none⟩ x2).setCell ⟨b, 3, none⟩ x3) b t [x0, x1, x2, x3] := by
 have h4 := (((h.put 0 x0).put 1 x1).put 2 x2).put 3 x3
 obtain ⟨y0, y1, y2, y3, rfl⟩ : ∃ y0 y1 y2 y3, vs = [y0, y1, y2, y3] := by
  match vs, hl with
  | [y0, y1, y2, y3], _ => exact ⟨y0, y1, y2, y3, rfl⟩
 exact h4
def SwW (w : World) (t : ByteArray) (vb : Value) (s : ByteArray) (g : Nat) (W : World) (cs : List Value) (d : MDisk) (F : List Nat) : Prop :=
 Bw W w.heap.size 25 cs ∧ oDisk W cs d F ∧ F.Nodup ∧ (∀ b, b ∈ F → w.heap.size + 5 ≤ b) ∧
 Bx W (w.heap.size + 1) [.string t] ∧ Bx W (w.heap.size + 1 + 1) [vb] ∧ Bx W (w.heap.size + 1 + 1 + 1) [.string s] ∧ Bw W (w.heap.size + 1 + 1 + 1 + 1) 25 [.slice none 0 0, .slice none 0 0, .slice none 0 0, .int .i64 0] ∧
 (w.heap.size + 5 ≤ g ∧ Bx W g [.func (.func 79) #[] #[.pointer (some ⟨w.heap.size + 1, 0, none⟩)], .func (.func 80) #[] #[.pointer (some ⟨w.heap.size + 1, 0, none⟩), .pointer (some ⟨w.heap.size + 1 + 1, 0, none⟩)], .func (.func 82) #[] #[.pointer (some ⟨w.heap.size + 1, 0, none⟩)], .func (.func 84) #[] #[.pointer (some ⟨w.heap.size + 1, 0, none⟩), .pointer (some ⟨w.heap.size + 1 + 1 + 1, 0, none⟩)], .func (.func 86) #[] #[]]) ∧ Below w.heap.size w W
theorem SwW.size {w : World} {t : ByteArray} {vb : Value} {s : ByteArray} {g : Nat} {W : World} {cs : List Value} {d : MDisk} {F : List Nat} (h : SwW w t vb s g W cs d F) : w.heap.size + 5 ≤ W.heap.size := by
 have := h.2.2.2.2.2.2.2.1.lt
 omega
theorem SwW.step {w : World} {t : ByteArray} {vb : Value} {s : ByteArray} {g : Nat} {W W' : World} {cs : List Value} {d d' : MDisk} {F F' : List Nat} {x0 x1 x2 x3 : Value} (h : SwW w t vb s g W cs d F) (hl : cs.length = 4) (hx : Below W.heap.size W W')
  (ho : oDisk W' [x0, x1, x2, x3] d' F') (hN : F'.Nodup) (hge : ∀ b, b ∈ F' → W.heap.size ≤ b) :
  SwW w t vb s g ((((W'.setCell ⟨w.heap.size, 0, none⟩ x0).setCell ⟨w.heap.size, 1, none⟩ x1).setCell ⟨w.heap.size, 2, none⟩ x2).setCell ⟨w.heap.size, 3, none⟩ x3) [x0, x1, x2, x3] d' F' := by
 have hsz := h.size
 obtain ⟨h1, h2, h3, h4, h5, h6, h7, h8, ⟨h9, h10⟩, h11⟩ := h
 have hT := turn4 W' w.heap.size x0 x1 x2 x3
 have hb := bthen h11 hx
 refine ⟨(h1.under hx).set4 hl x0 x1 x2 x3, oDisk_good.frame ho (fun b hb => hT.block b (oDisk_good.lt ho b hb) (by intro hh; simp at hh; have := hge b hb; omega)), hN, fun b hb => by have := hge b hb; omega,
  (h5.under hx).turn hT (by simp), (h6.under hx).turn hT (by simp; omega), (h7.under hx).turn hT (by simp; omega), (h8.under hx).turn hT (by simp; omega), ⟨h9, (h10.under hx).turn hT (by simp; omega)⟩, hb.trans (hT.below (fun k hk => by simp at hk; omega) hb.size)⟩
set_option maxHeartbeats 8000000 in
theorem switch_any (cs : List Value) (m : MDisk) (t : ByteArray) (vb : Value) (zb : List Int) (s : ByteArray) (w : World) (hr : rDisk w.heap.size w cs m) (hw : wDisk m ≤ 1048576) (ht : t.size ≤ 1048576) (hs : s.size ≤ 1048576) (hvb : rdB w.heap.size w vb zb) (hzb : zb.length ≤ 1048576) :
  Calls Tryz.prog 44 #[.agg cs.toArray, .string t, vb, .string s] w fun e w' => ∃ (cs' : List Value) (F : List Nat), e = .returned (.tuple #[.agg cs'.toArray, .int .i64 (switchP m t zb s).2]) ∧ oDisk w' cs' (switchP m t zb s).1 F ∧ F.Nodup ∧ (∀ b, b ∈ F → w.heap.size ≤ b) ∧ Below w.heap.size w w' := by
 have hq := hr
 obtain ⟨a0, c0, a1, c1, a2, c2, rfl, hI, hNm, hSf, hnx, _⟩ := hq
 obtain ⟨ab, cb, rfl, hlb⟩ := hvb
 have HVB : Hid (rdB w.heap.size w (.slice ab zb.length cb) zb) := ⟨ab, cb, rfl, hlb⟩
 have HW := Hid.mk hw
 have HR := Hid.mk hr
 clear hr hI hNm hSf hw hlb
 obtain ⟨wq, hwq⟩ : ∃ wq, wq = ((((w.alloc (.cells #[.slice a0 m.fInodes.length c0, .slice a1 m.fNames.length c1, .slice a2 m.fSafe.length c2, .int .i64 m.fNext] 25)).alloc (.cells #[.string t] 9)).alloc (.cells #[.slice ab zb.length cb] 51)).alloc (.cells #[.string s] 9)).alloc (.cells #[.slice none 0 0, .slice none 0 0, .slice none 0 0, .int .i64 0] 25) := ⟨_, rfl⟩
 have hzq : wq.heap.size = w.heap.size + 5 := by rw [hwq]; simp
 have hbW : Below w.heap.size w wq := by rw [hwq]; exact ((((Below.refl _ _).alloc (Nat.le_refl _) _).alloc (by simp) _ |>.alloc (by simp; omega) _).alloc (by simp; omega) _).alloc (by simp; omega) _
 have hbd : Bw wq w.heap.size 25 [.slice a0 m.fInodes.length c0, .slice a1 m.fNames.length c1, .slice a2 m.fSafe.length c2, .int .i64 m.fNext] := by rw [hwq]; exact ((((Bw.new _ _ _).alloc _).alloc _).alloc _).alloc _
 have hbt : Bx wq (w.heap.size + 1) [.string t] := by rw [hwq]; exact (((Bx.new' _ _ _ (by simp)).alloc _).alloc _).alloc _
 have hbb : Bx wq (w.heap.size + 1 + 1) [.slice ab zb.length cb] := by rw [hwq]; exact ((Bx.new' _ _ _ (by simp)).alloc _).alloc _
 have hbs : Bx wq (w.heap.size + 1 + 1 + 1) [.string s] := by rw [hwq]; exact (Bx.new' _ _ _ (by simp)).alloc _
 have hbr : Bw wq (w.heap.size + 1 + 1 + 1 + 1) 25 [.slice none 0 0, .slice none 0 0, .slice none 0 0, .int .i64 0] := by rw [hwq]; exact Bw.new' _ _ _ (by simp)
 go_enter Tryz.func44, Tryz.ntmps44
 go_wp2_with fail
 rw [← hwq]
 clear hwq
 refine (implRemove_c _ m t wq (rDisk_good.mono (rDisk_good.below HR.out hbW) hbW.size) (by omega) HW.out ht).mono ?_
 obtain ⟨mr, hmr⟩ : ∃ mr, mr = removeP m t := ⟨_, rfl⟩
 rw [← hmr]
 have HMR := Hid.mk hmr
 have hwr : wDisk mr ≤ 1048576 := by rw [hmr]; exact small_remove HW.out
 clear hmr
 rintro e w1 ⟨cs1, F1, rfl, ho1, hN1, hge1, hx1⟩
 obtain ⟨q0, qp0, q1, qp1, q2, qp2, E0, E1, E2, rfl, _, _, _, _, rfl⟩ := oDisk_cells ho1
 have hd1 := hbd.under hx1
 have hz1 := hx1.size
 obtain ⟨e0, f0, e1, f1, e2, f2, e3, f3⟩ := hd1.c8
 have hlt1 := hd1.lt
 obtain ⟨wg, hwg⟩ : ∃ wg, wg = ((((w1.setCell ⟨w.heap.size, 0, none⟩ (.slice q0 mr.fInodes.length qp0)).setCell ⟨w.heap.size, 1, none⟩ (.slice q1 mr.fNames.length qp1)).setCell ⟨w.heap.size, 2, none⟩ (.slice q2 mr.fSafe.length qp2)).setCell ⟨w.heap.size, 3, none⟩ (.int .i64 mr.fNext)) := ⟨_, rfl⟩
 have hzg : wg.heap.size = w1.heap.size := by rw [hwg]; simp
 obtain ⟨wf, hwf⟩ : ∃ wf, wf = wg.alloc (.cells #[.func (.func 79) #[] #[.pointer (some ⟨w.heap.size + 1, 0, none⟩)], .func (.func 80) #[] #[.pointer (some ⟨w.heap.size + 1, 0, none⟩), .pointer (some ⟨w.heap.size + 1 + 1, 0, none⟩)], .func (.func 82) #[] #[.pointer (some ⟨w.heap.size + 1, 0, none⟩)], .func (.func 84) #[] #[.pointer (some ⟨w.heap.size + 1, 0, none⟩), .pointer (some ⟨w.heap.size + 1 + 1 + 1, 0, none⟩)], .func (.func 86) #[] #[]] 63) := ⟨_, rfl⟩
 have hS0 : SwW w t (.slice ab zb.length cb) s w1.heap.size wf [.slice q0 mr.fInodes.length qp0, .slice q1 mr.fNames.length qp1, .slice q2 mr.fSafe.length qp2, .int .i64 mr.fNext] mr (E0 ++ E1 ++ E2 ++ []) := by
  have hT := turn4 w1 w.heap.size (.slice q0 mr.fInodes.length qp0) (.slice q1 mr.fNames.length qp1) (.slice q2 mr.fSafe.length qp2) (.int .i64 mr.fNext)
  rw [← hwg] at hT
  have hbq := bthen hbW hx1
  have hB := hbq.trans (hT.below (fun k hk => by simp at hk; omega) hbq.size)
  have hf : Below wg.heap.size wg wf := by rw [hwf]; exact (Below.refl _ _).alloc (Nat.le_refl _) _
  have ho : oDisk wg [.slice q0 mr.fInodes.length qp0, .slice q1 mr.fNames.length qp1, .slice q2 mr.fSafe.length qp2, .int .i64 mr.fNext] mr (E0 ++ E1 ++ E2 ++ []) := oDisk_good.frame ho1 (fun b hb => hT.block b (oDisk_good.lt ho1 b hb) (by intro hh; simp at hh; have := hge1 b hb; omega))
  have h4 := hd1.set4 rfl (.slice q0 mr.fInodes.length qp0) (.slice q1 mr.fNames.length qp1) (.slice q2 mr.fSafe.length qp2) (.int .i64 mr.fNext)
  rw [← hwg] at h4
  refine ⟨h4.under hf, oDisk_good.frame ho (fun b hb => hf.block b (oDisk_good.lt ho b hb)), hN1, fun b hb => by have := hge1 b hb; omega, ((hbt.under hx1).turn hT (by simp)).under hf, ((hbb.under hx1).turn hT (by simp; omega)).under hf, ((hbs.under hx1).turn hT (by simp; omega)).under hf, ((hbr.under hx1).turn hT (by simp; omega)).under hf, ⟨by omega, ?_⟩, bthen hB hf⟩
  rw [← hzg, hwf]
  exact Bx.new _ _ _
 clear hd1 hbd hbt hbb hbs hbr ho1 hN1 hge1
 go_wp2_with fail
 rw [← hwg, ← hwf]
 clear hwg hwf e0 e1 e2 e3 f0 f1 f2 f3
 generalize w1.heap.size = g at *
 go_loopw [10, 25] (fun cv kv wr => ∃ (k : Nat) (cs2 : List Value) (F2 : List Nat), k ≤ 5 ∧ kv = .int .i64 k ∧ cv = .int .i64 0 ∧ SwAt m t zb s k ∧ SwW w t (.slice ab zb.length cb) s g wr cs2 (swD mr t zb s k) F2) (fun _ kv _ => 5 - (intOf kv).toNat)
 case atStart => exact ⟨0, _, _, by omega, rfl, rfl, SwAt.start _ _ _ _, hS0⟩
 case round =>
  obtain ⟨k, cs2, F2, hk, rfl, rfl, hat, hS⟩ := hrel
  clear hS0
  have hsm := swD_small (t := t) (b := zb) (s := s) hwr k
  have hsz := hS.size
  have HAT := Hid.mk hat
  have HS := Hid.mk hS
  clear hat hS
  by_cases h5 : k = 5
  ·subst h5
   have HRES := Hid.mk (SwAt.done HAT.out)
   rw [← HMR.out] at HRES
   generalize swD mr t zb s 5 = d2 at *
   obtain ⟨y0, yp0, y1, yp1, y2, yp2, Y0, Y1, Y2, rfl, _, _, _, _, rfl⟩ := oDisk_cells HS.out.2.1
   have r1 := HS.out.2.2.2.2.2.2.2.1
   have x0 := HS.out.1.cell 0 _ rfl
   have r10 := r1.cell 0 _ rfl
   have rf0 := r1.free 0
   have x1 := HS.out.1.cell 1 _ rfl
   have r11 := r1.cell 1 _ rfl
   have rf1 := r1.free 1
   have x2 := HS.out.1.cell 2 _ rfl
   have r12 := r1.cell 2 _ rfl
   have rf2 := r1.free 2
   have x3 := HS.out.1.cell 3 _ rfl
   have r13 := r1.cell 3 _ rfl
   have rf3 := r1.free 3
   have hlr := r1.lt
   have hld := HS.out.1.lt
   have hT := turn4 wr (w.heap.size + 1 + 1 + 1 + 1) (.slice y0 d2.fInodes.length yp0) (.slice y1 d2.fNames.length yp1) (.slice y2 d2.fSafe.length yp2) (.int .i64 d2.fNext)
   have HB : Hid (Below w.heap.size w ((((wr.setCell ⟨w.heap.size + 1 + 1 + 1 + 1, 0, none⟩ (.slice y0 d2.fInodes.length yp0)).setCell ⟨w.heap.size + 1 + 1 + 1 + 1, 1, none⟩ (.slice y1 d2.fNames.length yp1)).setCell ⟨w.heap.size + 1 + 1 + 1 + 1, 2, none⟩ (.slice y2 d2.fSafe.length yp2)).setCell ⟨w.heap.size + 1 + 1 + 1 + 1, 3, none⟩ (.int .i64 d2.fNext))) := HS.out.2.2.2.2.2.2.2.2.2.trans (hT.below (fun k hk => by simp at hk; omega) HS.out.2.2.2.2.2.2.2.2.2.size)
   have HO : Hid (oDisk ((((wr.setCell ⟨w.heap.size + 1 + 1 + 1 + 1, 0, none⟩ (.slice y0 d2.fInodes.length yp0)).setCell ⟨w.heap.size + 1 + 1 + 1 + 1, 1, none⟩ (.slice y1 d2.fNames.length yp1)).setCell ⟨w.heap.size + 1 + 1 + 1 + 1, 2, none⟩ (.slice y2 d2.fSafe.length yp2)).setCell ⟨w.heap.size + 1 + 1 + 1 + 1, 3, none⟩ (.int .i64 d2.fNext)) [.slice y0 d2.fInodes.length yp0, .slice y1 d2.fNames.length yp1, .slice y2 d2.fSafe.length yp2, .int .i64 d2.fNext] d2 _) := oDisk_good.frame HS.out.2.1 (fun b hb => hT.block b (oDisk_good.lt HS.out.2.1 b hb) (by intro h; simp at h; have := HS.out.2.2.2.1 b hb; omega))
   have HN := Hid.mk HS.out.2.2.1
   have HG := Hid.mk HS.out.2.2.2.1
   clear hT r1
   go_wp2_with fail
   exact bodyPost_ret (v := .tuple #[.agg #[.slice y0 d2.fInodes.length yp0, .slice y1 d2.fNames.length yp1, .slice y2 d2.fSafe.length yp2, .int .i64 d2.fNext], .int .i64 0]) (by simp [results, Tryz.results44, go_sem, *]) rfl ⟨[.slice y0 d2.fInodes.length yp0, .slice y1 d2.fNames.length yp1, .slice y2 d2.fSafe.length yp2, .int .i64 d2.fNext], _, by rw [HRES.out], by rw [HRES.out]; exact HO.out, HN.out, (fun b hb => by have := HG.out b hb; omega), HB.out⟩
  ·have h5l : k < 5 := by omega
   have HON := Hid.mk (fun h => SwAt.on HAT.out h5l h)
   have HOU := Hid.mk (fun h => SwAt.out HAT.out h5l h)
   rw [← HMR.out] at HON HOU
   rcases (show k = 0 ∨ k = 1 ∨ k = 2 ∨ k = 3 ∨ k = 4 from by omega) with rfl | rfl | rfl | rfl | rfl
   ·have HD : Hid (swD mr t zb s (0 + 1) = createP (swD mr t zb s 0) t) := rfl
    have HC : Hid (swC mr t zb s 0 = createC (swD mr t zb s 0) t) := rfl
    generalize swD mr t zb s 0 = d2 at *
    obtain ⟨y0, yp0, y1, yp1, y2, yp2, Y0, Y1, Y2, rfl, _, _, _, _, rfl⟩ := oDisk_cells HS.out.2.1
    obtain ⟨x0, x1, x2, x3⟩ := HS.out.1.c4
    have hfn := HS.out.2.2.2.2.2.2.2.2.1.2.2 0 _ rfl
    have hfl := HS.out.2.2.2.2.2.2.2.2.1.2.1
    have hrd := oDisk_good.read HS.out.2.1
    have hBw := HS.out.2.2.2.2.2.2.2.2.2
    go_wp2_with fail
    refine (sw1_any _ d2 t (w.heap.size + 1) wr hrd hsm ht HS.out.2.2.2.2.1).mono ?_
    rw [← HD.out, ← HC.out]
    generalize hd3 : swD mr t zb s (0 + 1) = d3 at *
    have HD3 := Hid.mk hd3
    clear hd3
    generalize swC mr t zb s 0 = c3 at *
    rintro e w3 ⟨cs3, F3, rfl, ho3, hN3, hge3, hx3⟩
    obtain ⟨z0, zp0, z1, zp1, z2, zp2, Z0, Z1, Z2, rfl, _, _, _, _, rfl⟩ := oDisk_cells ho3
    have hb3 := HS.out.1.under hx3
    obtain ⟨v0, g0, v1, g1, v2, g2, v3, g3⟩ := hb3.c8
    have hl3 := hb3.lt
    have HS3 := Hid.mk (HS.out.step rfl hx3 ho3 hN3 hge3)
    obtain ⟨w4, hw4⟩ : ∃ w4, w4 = ((((w3.setCell ⟨w.heap.size, 0, none⟩ (.slice z0 d3.fInodes.length zp0)).setCell ⟨w.heap.size, 1, none⟩ (.slice z1 d3.fNames.length zp1)).setCell ⟨w.heap.size, 2, none⟩ (.slice z2 d3.fSafe.length zp2)).setCell ⟨w.heap.size, 3, none⟩ (.int .i64 d3.fNext)) := ⟨_, rfl⟩
    rw [← hw4] at HS3
    clear ho3 hN3 hge3 hb3 hrd x0 x1 x2 x3 hfn
    by_cases hc0 : c3 = 0
    ·have HN4 := Hid.mk (HON.out hc0)
     subst hc0
     go_wp2_with fail
     rw [← hw4]
     clear hw4
     go_roundw
     case rel => exact ⟨1, _, _, by omega, by go_num, rfl, HN4.out, by rw [HD3.out]; exact HS3.out⟩
     case measure => simp [intOf]
    ·have HRES := Hid.mk (HOU.out hc0)
     have hs4 := HS3.out.size
     have hz4 : w4.heap.size = w3.heap.size := by rw [hw4]; simp
     clear HON HOU HAT
     have r1 := HS3.out.2.2.2.2.2.2.2.1
     have x0 := HS3.out.1.cell 0 _ rfl
     have r10 := r1.cell 0 _ rfl
     have rf0 := r1.free 0
     have x1 := HS3.out.1.cell 1 _ rfl
     have r11 := r1.cell 1 _ rfl
     have rf1 := r1.free 1
     have x2 := HS3.out.1.cell 2 _ rfl
     have r12 := r1.cell 2 _ rfl
     have rf2 := r1.free 2
     have x3 := HS3.out.1.cell 3 _ rfl
     have r13 := r1.cell 3 _ rfl
     have rf3 := r1.free 3
     have hlr := r1.lt
     have hld := HS3.out.1.lt
     have hT := turn4 w4 (w.heap.size + 1 + 1 + 1 + 1) (.slice z0 d3.fInodes.length zp0) (.slice z1 d3.fNames.length zp1) (.slice z2 d3.fSafe.length zp2) (.int .i64 d3.fNext)
     have HB : Hid (Below w.heap.size w ((((w4.setCell ⟨w.heap.size + 1 + 1 + 1 + 1, 0, none⟩ (.slice z0 d3.fInodes.length zp0)).setCell ⟨w.heap.size + 1 + 1 + 1 + 1, 1, none⟩ (.slice z1 d3.fNames.length zp1)).setCell ⟨w.heap.size + 1 + 1 + 1 + 1, 2, none⟩ (.slice z2 d3.fSafe.length zp2)).setCell ⟨w.heap.size + 1 + 1 + 1 + 1, 3, none⟩ (.int .i64 d3.fNext))) := HS3.out.2.2.2.2.2.2.2.2.2.trans (hT.below (fun k hk => by simp at hk; omega) HS3.out.2.2.2.2.2.2.2.2.2.size)
     have HO : Hid (oDisk ((((w4.setCell ⟨w.heap.size + 1 + 1 + 1 + 1, 0, none⟩ (.slice z0 d3.fInodes.length zp0)).setCell ⟨w.heap.size + 1 + 1 + 1 + 1, 1, none⟩ (.slice z1 d3.fNames.length zp1)).setCell ⟨w.heap.size + 1 + 1 + 1 + 1, 2, none⟩ (.slice z2 d3.fSafe.length zp2)).setCell ⟨w.heap.size + 1 + 1 + 1 + 1, 3, none⟩ (.int .i64 d3.fNext)) [.slice z0 d3.fInodes.length zp0, .slice z1 d3.fNames.length zp1, .slice z2 d3.fSafe.length zp2, .int .i64 d3.fNext] d3 _) := oDisk_good.frame HS3.out.2.1 (fun b hb => hT.block b (oDisk_good.lt HS3.out.2.1 b hb) (by intro h; simp at h; have := HS3.out.2.2.2.1 b hb; omega))
     have HN := Hid.mk HS3.out.2.2.1
     have HG := Hid.mk HS3.out.2.2.2.1
     clear hT r1
     simp only [hw4] at x0 x1 x2 x3 r10 r11 r12 r13 rf0 rf1 rf2 rf3
     simp only [hw4] at HB HO
     go_wp2_with fail
     exact bodyPost_ret (v := .tuple #[.agg #[.slice z0 d3.fInodes.length zp0, .slice z1 d3.fNames.length zp1, .slice z2 d3.fSafe.length zp2, .int .i64 d3.fNext], .int .i64 c3]) (by simp [results, Tryz.results44, go_sem, *]) rfl ⟨[.slice z0 d3.fInodes.length zp0, .slice z1 d3.fNames.length zp1, .slice z2 d3.fSafe.length zp2, .int .i64 d3.fNext], _, by rw [HRES.out], by rw [HRES.out]; exact HO.out, HN.out, (fun b hb => by have := HG.out b hb; omega), HB.out⟩
   ·have HD : Hid (swD mr t zb s (1 + 1) = appendP (swD mr t zb s 1) t zb) := rfl
    have HC : Hid (swC mr t zb s 1 = appendC (swD mr t zb s 1) t zb) := rfl
    generalize swD mr t zb s 1 = d2 at *
    obtain ⟨y0, yp0, y1, yp1, y2, yp2, Y0, Y1, Y2, rfl, _, _, _, _, rfl⟩ := oDisk_cells HS.out.2.1
    obtain ⟨x0, x1, x2, x3⟩ := HS.out.1.c4
    have hfn := HS.out.2.2.2.2.2.2.2.2.1.2.2 1 _ rfl
    have hfl := HS.out.2.2.2.2.2.2.2.2.1.2.1
    have hrd := oDisk_good.read HS.out.2.1
    have hBw := HS.out.2.2.2.2.2.2.2.2.2
    go_wp2_with fail
    refine (sw2_any _ d2 t (.slice ab zb.length cb) zb hzb (w.heap.size + 1) (w.heap.size + 1 + 1) wr hrd hsm ht ((HVB.out.below hBw).mono hBw.size) HS.out.2.2.2.2.1 HS.out.2.2.2.2.2.1).mono ?_
    rw [← HD.out, ← HC.out]
    generalize hd3 : swD mr t zb s (1 + 1) = d3 at *
    have HD3 := Hid.mk hd3
    clear hd3
    generalize swC mr t zb s 1 = c3 at *
    rintro e w3 ⟨cs3, F3, rfl, ho3, hN3, hge3, hx3⟩
    obtain ⟨z0, zp0, z1, zp1, z2, zp2, Z0, Z1, Z2, rfl, _, _, _, _, rfl⟩ := oDisk_cells ho3
    have hb3 := HS.out.1.under hx3
    obtain ⟨v0, g0, v1, g1, v2, g2, v3, g3⟩ := hb3.c8
    have hl3 := hb3.lt
    have HS3 := Hid.mk (HS.out.step rfl hx3 ho3 hN3 hge3)
    obtain ⟨w4, hw4⟩ : ∃ w4, w4 = ((((w3.setCell ⟨w.heap.size, 0, none⟩ (.slice z0 d3.fInodes.length zp0)).setCell ⟨w.heap.size, 1, none⟩ (.slice z1 d3.fNames.length zp1)).setCell ⟨w.heap.size, 2, none⟩ (.slice z2 d3.fSafe.length zp2)).setCell ⟨w.heap.size, 3, none⟩ (.int .i64 d3.fNext)) := ⟨_, rfl⟩
    rw [← hw4] at HS3
    clear ho3 hN3 hge3 hb3 hrd x0 x1 x2 x3 hfn
    by_cases hc0 : c3 = 0
    ·have HN4 := Hid.mk (HON.out hc0)
     subst hc0
     go_wp2_with fail
     rw [← hw4]
     clear hw4
     go_roundw
     case rel => exact ⟨2, _, _, by omega, by go_num, rfl, HN4.out, by rw [HD3.out]; exact HS3.out⟩
     case measure => simp [intOf]
    ·have HRES := Hid.mk (HOU.out hc0)
     have hs4 := HS3.out.size
     have hz4 : w4.heap.size = w3.heap.size := by rw [hw4]; simp
     clear HON HOU HAT
     have r1 := HS3.out.2.2.2.2.2.2.2.1
     have x0 := HS3.out.1.cell 0 _ rfl
     have r10 := r1.cell 0 _ rfl
     have rf0 := r1.free 0
     have x1 := HS3.out.1.cell 1 _ rfl
     have r11 := r1.cell 1 _ rfl
     have rf1 := r1.free 1
     have x2 := HS3.out.1.cell 2 _ rfl
     have r12 := r1.cell 2 _ rfl
     have rf2 := r1.free 2
     have x3 := HS3.out.1.cell 3 _ rfl
     have r13 := r1.cell 3 _ rfl
     have rf3 := r1.free 3
     have hlr := r1.lt
     have hld := HS3.out.1.lt
     have hT := turn4 w4 (w.heap.size + 1 + 1 + 1 + 1) (.slice z0 d3.fInodes.length zp0) (.slice z1 d3.fNames.length zp1) (.slice z2 d3.fSafe.length zp2) (.int .i64 d3.fNext)
     have HB : Hid (Below w.heap.size w ((((w4.setCell ⟨w.heap.size + 1 + 1 + 1 + 1, 0, none⟩ (.slice z0 d3.fInodes.length zp0)).setCell ⟨w.heap.size + 1 + 1 + 1 + 1, 1, none⟩ (.slice z1 d3.fNames.length zp1)).setCell ⟨w.heap.size + 1 + 1 + 1 + 1, 2, none⟩ (.slice z2 d3.fSafe.length zp2)).setCell ⟨w.heap.size + 1 + 1 + 1 + 1, 3, none⟩ (.int .i64 d3.fNext))) := HS3.out.2.2.2.2.2.2.2.2.2.trans (hT.below (fun k hk => by simp at hk; omega) HS3.out.2.2.2.2.2.2.2.2.2.size)
     have HO : Hid (oDisk ((((w4.setCell ⟨w.heap.size + 1 + 1 + 1 + 1, 0, none⟩ (.slice z0 d3.fInodes.length zp0)).setCell ⟨w.heap.size + 1 + 1 + 1 + 1, 1, none⟩ (.slice z1 d3.fNames.length zp1)).setCell ⟨w.heap.size + 1 + 1 + 1 + 1, 2, none⟩ (.slice z2 d3.fSafe.length zp2)).setCell ⟨w.heap.size + 1 + 1 + 1 + 1, 3, none⟩ (.int .i64 d3.fNext)) [.slice z0 d3.fInodes.length zp0, .slice z1 d3.fNames.length zp1, .slice z2 d3.fSafe.length zp2, .int .i64 d3.fNext] d3 _) := oDisk_good.frame HS3.out.2.1 (fun b hb => hT.block b (oDisk_good.lt HS3.out.2.1 b hb) (by intro h; simp at h; have := HS3.out.2.2.2.1 b hb; omega))
     have HN := Hid.mk HS3.out.2.2.1
     have HG := Hid.mk HS3.out.2.2.2.1
     clear hT r1
     simp only [hw4] at x0 x1 x2 x3 r10 r11 r12 r13 rf0 rf1 rf2 rf3
     simp only [hw4] at HB HO
     go_wp2_with fail
     exact bodyPost_ret (v := .tuple #[.agg #[.slice z0 d3.fInodes.length zp0, .slice z1 d3.fNames.length zp1, .slice z2 d3.fSafe.length zp2, .int .i64 d3.fNext], .int .i64 c3]) (by simp [results, Tryz.results44, go_sem, *]) rfl ⟨[.slice z0 d3.fInodes.length zp0, .slice z1 d3.fNames.length zp1, .slice z2 d3.fSafe.length zp2, .int .i64 d3.fNext], _, by rw [HRES.out], by rw [HRES.out]; exact HO.out, HN.out, (fun b hb => by have := HG.out b hb; omega), HB.out⟩
   ·have HD : Hid (swD mr t zb s (2 + 1) = syncP (swD mr t zb s 2) t) := rfl
    have HC : Hid (swC mr t zb s 2 = callP (swD mr t zb s 2) t) := rfl
    generalize swD mr t zb s 2 = d2 at *
    obtain ⟨y0, yp0, y1, yp1, y2, yp2, Y0, Y1, Y2, rfl, _, _, _, _, rfl⟩ := oDisk_cells HS.out.2.1
    obtain ⟨x0, x1, x2, x3⟩ := HS.out.1.c4
    have hfn := HS.out.2.2.2.2.2.2.2.2.1.2.2 2 _ rfl
    have hfl := HS.out.2.2.2.2.2.2.2.2.1.2.1
    have hrd := oDisk_good.read HS.out.2.1
    have hBw := HS.out.2.2.2.2.2.2.2.2.2
    go_wp2_with fail
    refine (sw3_any _ d2 t (w.heap.size + 1) wr hrd hsm ht HS.out.2.2.2.2.1).mono ?_
    rw [← HD.out, ← HC.out]
    generalize hd3 : swD mr t zb s (2 + 1) = d3 at *
    have HD3 := Hid.mk hd3
    clear hd3
    generalize swC mr t zb s 2 = c3 at *
    rintro e w3 ⟨cs3, F3, rfl, ho3, hN3, hge3, hx3⟩
    obtain ⟨z0, zp0, z1, zp1, z2, zp2, Z0, Z1, Z2, rfl, _, _, _, _, rfl⟩ := oDisk_cells ho3
    have hb3 := HS.out.1.under hx3
    obtain ⟨v0, g0, v1, g1, v2, g2, v3, g3⟩ := hb3.c8
    have hl3 := hb3.lt
    have HS3 := Hid.mk (HS.out.step rfl hx3 ho3 hN3 hge3)
    obtain ⟨w4, hw4⟩ : ∃ w4, w4 = ((((w3.setCell ⟨w.heap.size, 0, none⟩ (.slice z0 d3.fInodes.length zp0)).setCell ⟨w.heap.size, 1, none⟩ (.slice z1 d3.fNames.length zp1)).setCell ⟨w.heap.size, 2, none⟩ (.slice z2 d3.fSafe.length zp2)).setCell ⟨w.heap.size, 3, none⟩ (.int .i64 d3.fNext)) := ⟨_, rfl⟩
    rw [← hw4] at HS3
    clear ho3 hN3 hge3 hb3 hrd x0 x1 x2 x3 hfn
    by_cases hc0 : c3 = 0
    ·have HN4 := Hid.mk (HON.out hc0)
     subst hc0
     go_wp2_with fail
     rw [← hw4]
     clear hw4
     go_roundw
     case rel => exact ⟨3, _, _, by omega, by go_num, rfl, HN4.out, by rw [HD3.out]; exact HS3.out⟩
     case measure => simp [intOf]
    ·have HRES := Hid.mk (HOU.out hc0)
     have hs4 := HS3.out.size
     have hz4 : w4.heap.size = w3.heap.size := by rw [hw4]; simp
     clear HON HOU HAT
     have r1 := HS3.out.2.2.2.2.2.2.2.1
     have x0 := HS3.out.1.cell 0 _ rfl
     have r10 := r1.cell 0 _ rfl
     have rf0 := r1.free 0
     have x1 := HS3.out.1.cell 1 _ rfl
     have r11 := r1.cell 1 _ rfl
     have rf1 := r1.free 1
     have x2 := HS3.out.1.cell 2 _ rfl
     have r12 := r1.cell 2 _ rfl
     have rf2 := r1.free 2
     have x3 := HS3.out.1.cell 3 _ rfl
     have r13 := r1.cell 3 _ rfl
     have rf3 := r1.free 3
     have hlr := r1.lt
     have hld := HS3.out.1.lt
     have hT := turn4 w4 (w.heap.size + 1 + 1 + 1 + 1) (.slice z0 d3.fInodes.length zp0) (.slice z1 d3.fNames.length zp1) (.slice z2 d3.fSafe.length zp2) (.int .i64 d3.fNext)
     have HB : Hid (Below w.heap.size w ((((w4.setCell ⟨w.heap.size + 1 + 1 + 1 + 1, 0, none⟩ (.slice z0 d3.fInodes.length zp0)).setCell ⟨w.heap.size + 1 + 1 + 1 + 1, 1, none⟩ (.slice z1 d3.fNames.length zp1)).setCell ⟨w.heap.size + 1 + 1 + 1 + 1, 2, none⟩ (.slice z2 d3.fSafe.length zp2)).setCell ⟨w.heap.size + 1 + 1 + 1 + 1, 3, none⟩ (.int .i64 d3.fNext))) := HS3.out.2.2.2.2.2.2.2.2.2.trans (hT.below (fun k hk => by simp at hk; omega) HS3.out.2.2.2.2.2.2.2.2.2.size)
     have HO : Hid (oDisk ((((w4.setCell ⟨w.heap.size + 1 + 1 + 1 + 1, 0, none⟩ (.slice z0 d3.fInodes.length zp0)).setCell ⟨w.heap.size + 1 + 1 + 1 + 1, 1, none⟩ (.slice z1 d3.fNames.length zp1)).setCell ⟨w.heap.size + 1 + 1 + 1 + 1, 2, none⟩ (.slice z2 d3.fSafe.length zp2)).setCell ⟨w.heap.size + 1 + 1 + 1 + 1, 3, none⟩ (.int .i64 d3.fNext)) [.slice z0 d3.fInodes.length zp0, .slice z1 d3.fNames.length zp1, .slice z2 d3.fSafe.length zp2, .int .i64 d3.fNext] d3 _) := oDisk_good.frame HS3.out.2.1 (fun b hb => hT.block b (oDisk_good.lt HS3.out.2.1 b hb) (by intro h; simp at h; have := HS3.out.2.2.2.1 b hb; omega))
     have HN := Hid.mk HS3.out.2.2.1
     have HG := Hid.mk HS3.out.2.2.2.1
     clear hT r1
     simp only [hw4] at x0 x1 x2 x3 r10 r11 r12 r13 rf0 rf1 rf2 rf3
     simp only [hw4] at HB HO
     go_wp2_with fail
     exact bodyPost_ret (v := .tuple #[.agg #[.slice z0 d3.fInodes.length zp0, .slice z1 d3.fNames.length zp1, .slice z2 d3.fSafe.length zp2, .int .i64 d3.fNext], .int .i64 c3]) (by simp [results, Tryz.results44, go_sem, *]) rfl ⟨[.slice z0 d3.fInodes.length zp0, .slice z1 d3.fNames.length zp1, .slice z2 d3.fSafe.length zp2, .int .i64 d3.fNext], _, by rw [HRES.out], by rw [HRES.out]; exact HO.out, HN.out, (fun b hb => by have := HG.out b hb; omega), HB.out⟩
   ·have HD : Hid (swD mr t zb s (3 + 1) = renameP (swD mr t zb s 3) t s) := rfl
    have HC : Hid (swC mr t zb s 3 = renameC (swD mr t zb s 3) t s) := rfl
    generalize swD mr t zb s 3 = d2 at *
    obtain ⟨y0, yp0, y1, yp1, y2, yp2, Y0, Y1, Y2, rfl, _, _, _, _, rfl⟩ := oDisk_cells HS.out.2.1
    obtain ⟨x0, x1, x2, x3⟩ := HS.out.1.c4
    have hfn := HS.out.2.2.2.2.2.2.2.2.1.2.2 3 _ rfl
    have hfl := HS.out.2.2.2.2.2.2.2.2.1.2.1
    have hrd := oDisk_good.read HS.out.2.1
    have hBw := HS.out.2.2.2.2.2.2.2.2.2
    go_wp2_with fail
    refine (sw4_any _ d2 t s hs (w.heap.size + 1) (w.heap.size + 1 + 1 + 1) wr hrd hsm ht HS.out.2.2.2.2.1 HS.out.2.2.2.2.2.2.1).mono ?_
    rw [← HD.out, ← HC.out]
    generalize hd3 : swD mr t zb s (3 + 1) = d3 at *
    have HD3 := Hid.mk hd3
    clear hd3
    generalize swC mr t zb s 3 = c3 at *
    rintro e w3 ⟨cs3, F3, rfl, ho3, hN3, hge3, hx3⟩
    obtain ⟨z0, zp0, z1, zp1, z2, zp2, Z0, Z1, Z2, rfl, _, _, _, _, rfl⟩ := oDisk_cells ho3
    have hb3 := HS.out.1.under hx3
    obtain ⟨v0, g0, v1, g1, v2, g2, v3, g3⟩ := hb3.c8
    have hl3 := hb3.lt
    have HS3 := Hid.mk (HS.out.step rfl hx3 ho3 hN3 hge3)
    obtain ⟨w4, hw4⟩ : ∃ w4, w4 = ((((w3.setCell ⟨w.heap.size, 0, none⟩ (.slice z0 d3.fInodes.length zp0)).setCell ⟨w.heap.size, 1, none⟩ (.slice z1 d3.fNames.length zp1)).setCell ⟨w.heap.size, 2, none⟩ (.slice z2 d3.fSafe.length zp2)).setCell ⟨w.heap.size, 3, none⟩ (.int .i64 d3.fNext)) := ⟨_, rfl⟩
    rw [← hw4] at HS3
    clear ho3 hN3 hge3 hb3 hrd x0 x1 x2 x3 hfn
    by_cases hc0 : c3 = 0
    ·have HN4 := Hid.mk (HON.out hc0)
     subst hc0
     go_wp2_with fail
     rw [← hw4]
     clear hw4
     go_roundw
     case rel => exact ⟨4, _, _, by omega, by go_num, rfl, HN4.out, by rw [HD3.out]; exact HS3.out⟩
     case measure => simp [intOf]
    ·have HRES := Hid.mk (HOU.out hc0)
     have hs4 := HS3.out.size
     have hz4 : w4.heap.size = w3.heap.size := by rw [hw4]; simp
     clear HON HOU HAT
     have r1 := HS3.out.2.2.2.2.2.2.2.1
     have x0 := HS3.out.1.cell 0 _ rfl
     have r10 := r1.cell 0 _ rfl
     have rf0 := r1.free 0
     have x1 := HS3.out.1.cell 1 _ rfl
     have r11 := r1.cell 1 _ rfl
     have rf1 := r1.free 1
     have x2 := HS3.out.1.cell 2 _ rfl
     have r12 := r1.cell 2 _ rfl
     have rf2 := r1.free 2
     have x3 := HS3.out.1.cell 3 _ rfl
     have r13 := r1.cell 3 _ rfl
     have rf3 := r1.free 3
     have hlr := r1.lt
     have hld := HS3.out.1.lt
     have hT := turn4 w4 (w.heap.size + 1 + 1 + 1 + 1) (.slice z0 d3.fInodes.length zp0) (.slice z1 d3.fNames.length zp1) (.slice z2 d3.fSafe.length zp2) (.int .i64 d3.fNext)
     have HB : Hid (Below w.heap.size w ((((w4.setCell ⟨w.heap.size + 1 + 1 + 1 + 1, 0, none⟩ (.slice z0 d3.fInodes.length zp0)).setCell ⟨w.heap.size + 1 + 1 + 1 + 1, 1, none⟩ (.slice z1 d3.fNames.length zp1)).setCell ⟨w.heap.size + 1 + 1 + 1 + 1, 2, none⟩ (.slice z2 d3.fSafe.length zp2)).setCell ⟨w.heap.size + 1 + 1 + 1 + 1, 3, none⟩ (.int .i64 d3.fNext))) := HS3.out.2.2.2.2.2.2.2.2.2.trans (hT.below (fun k hk => by simp at hk; omega) HS3.out.2.2.2.2.2.2.2.2.2.size)
     have HO : Hid (oDisk ((((w4.setCell ⟨w.heap.size + 1 + 1 + 1 + 1, 0, none⟩ (.slice z0 d3.fInodes.length zp0)).setCell ⟨w.heap.size + 1 + 1 + 1 + 1, 1, none⟩ (.slice z1 d3.fNames.length zp1)).setCell ⟨w.heap.size + 1 + 1 + 1 + 1, 2, none⟩ (.slice z2 d3.fSafe.length zp2)).setCell ⟨w.heap.size + 1 + 1 + 1 + 1, 3, none⟩ (.int .i64 d3.fNext)) [.slice z0 d3.fInodes.length zp0, .slice z1 d3.fNames.length zp1, .slice z2 d3.fSafe.length zp2, .int .i64 d3.fNext] d3 _) := oDisk_good.frame HS3.out.2.1 (fun b hb => hT.block b (oDisk_good.lt HS3.out.2.1 b hb) (by intro h; simp at h; have := HS3.out.2.2.2.1 b hb; omega))
     have HN := Hid.mk HS3.out.2.2.1
     have HG := Hid.mk HS3.out.2.2.2.1
     clear hT r1
     simp only [hw4] at x0 x1 x2 x3 r10 r11 r12 r13 rf0 rf1 rf2 rf3
     simp only [hw4] at HB HO
     go_wp2_with fail
     exact bodyPost_ret (v := .tuple #[.agg #[.slice z0 d3.fInodes.length zp0, .slice z1 d3.fNames.length zp1, .slice z2 d3.fSafe.length zp2, .int .i64 d3.fNext], .int .i64 c3]) (by simp [results, Tryz.results44, go_sem, *]) rfl ⟨[.slice z0 d3.fInodes.length zp0, .slice z1 d3.fNames.length zp1, .slice z2 d3.fSafe.length zp2, .int .i64 d3.fNext], _, by rw [HRES.out], by rw [HRES.out]; exact HO.out, HN.out, (fun b hb => by have := HG.out b hb; omega), HB.out⟩
   ·have HD : Hid (swD mr t zb s (4 + 1) = syncDirP (swD mr t zb s 4)) := rfl
    have HC : Hid (swC mr t zb s 4 = syncDirC (swD mr t zb s 4)) := rfl
    generalize swD mr t zb s 4 = d2 at *
    obtain ⟨y0, yp0, y1, yp1, y2, yp2, Y0, Y1, Y2, rfl, _, _, _, _, rfl⟩ := oDisk_cells HS.out.2.1
    obtain ⟨x0, x1, x2, x3⟩ := HS.out.1.c4
    have hfn := HS.out.2.2.2.2.2.2.2.2.1.2.2 4 _ rfl
    have hfl := HS.out.2.2.2.2.2.2.2.2.1.2.1
    have hrd := oDisk_good.read HS.out.2.1
    have hBw := HS.out.2.2.2.2.2.2.2.2.2
    go_wp2_with fail
    refine (implSyncDir_c _ d2 wr hrd hsm).mono ?_
    rw [← HD.out, ← HC.out]
    generalize hd3 : swD mr t zb s (4 + 1) = d3 at *
    have HD3 := Hid.mk hd3
    clear hd3
    generalize swC mr t zb s 4 = c3 at *
    rintro e w3 ⟨cs3, F3, rfl, ho3, hN3, hge3, hx3⟩
    obtain ⟨z0, zp0, z1, zp1, z2, zp2, Z0, Z1, Z2, rfl, _, _, _, _, rfl⟩ := oDisk_cells ho3
    have hb3 := HS.out.1.under hx3
    obtain ⟨v0, g0, v1, g1, v2, g2, v3, g3⟩ := hb3.c8
    have hl3 := hb3.lt
    have HS3 := Hid.mk (HS.out.step rfl hx3 ho3 hN3 hge3)
    obtain ⟨w4, hw4⟩ : ∃ w4, w4 = ((((w3.setCell ⟨w.heap.size, 0, none⟩ (.slice z0 d3.fInodes.length zp0)).setCell ⟨w.heap.size, 1, none⟩ (.slice z1 d3.fNames.length zp1)).setCell ⟨w.heap.size, 2, none⟩ (.slice z2 d3.fSafe.length zp2)).setCell ⟨w.heap.size, 3, none⟩ (.int .i64 d3.fNext)) := ⟨_, rfl⟩
    rw [← hw4] at HS3
    clear ho3 hN3 hge3 hb3 hrd x0 x1 x2 x3 hfn
    by_cases hc0 : c3 = 0
    ·have HN4 := Hid.mk (HON.out hc0)
     subst hc0
     go_wp2_with fail
     rw [← hw4]
     clear hw4
     go_roundw
     case rel => exact ⟨5, _, _, by omega, by go_num, rfl, HN4.out, by rw [HD3.out]; exact HS3.out⟩
     case measure => simp [intOf]
    ·have HRES := Hid.mk (HOU.out hc0)
     have hs4 := HS3.out.size
     have hz4 : w4.heap.size = w3.heap.size := by rw [hw4]; simp
     clear HON HOU HAT
     have r1 := HS3.out.2.2.2.2.2.2.2.1
     have x0 := HS3.out.1.cell 0 _ rfl
     have r10 := r1.cell 0 _ rfl
     have rf0 := r1.free 0
     have x1 := HS3.out.1.cell 1 _ rfl
     have r11 := r1.cell 1 _ rfl
     have rf1 := r1.free 1
     have x2 := HS3.out.1.cell 2 _ rfl
     have r12 := r1.cell 2 _ rfl
     have rf2 := r1.free 2
     have x3 := HS3.out.1.cell 3 _ rfl
     have r13 := r1.cell 3 _ rfl
     have rf3 := r1.free 3
     have hlr := r1.lt
     have hld := HS3.out.1.lt
     have hT := turn4 w4 (w.heap.size + 1 + 1 + 1 + 1) (.slice z0 d3.fInodes.length zp0) (.slice z1 d3.fNames.length zp1) (.slice z2 d3.fSafe.length zp2) (.int .i64 d3.fNext)
     have HB : Hid (Below w.heap.size w ((((w4.setCell ⟨w.heap.size + 1 + 1 + 1 + 1, 0, none⟩ (.slice z0 d3.fInodes.length zp0)).setCell ⟨w.heap.size + 1 + 1 + 1 + 1, 1, none⟩ (.slice z1 d3.fNames.length zp1)).setCell ⟨w.heap.size + 1 + 1 + 1 + 1, 2, none⟩ (.slice z2 d3.fSafe.length zp2)).setCell ⟨w.heap.size + 1 + 1 + 1 + 1, 3, none⟩ (.int .i64 d3.fNext))) := HS3.out.2.2.2.2.2.2.2.2.2.trans (hT.below (fun k hk => by simp at hk; omega) HS3.out.2.2.2.2.2.2.2.2.2.size)
     have HO : Hid (oDisk ((((w4.setCell ⟨w.heap.size + 1 + 1 + 1 + 1, 0, none⟩ (.slice z0 d3.fInodes.length zp0)).setCell ⟨w.heap.size + 1 + 1 + 1 + 1, 1, none⟩ (.slice z1 d3.fNames.length zp1)).setCell ⟨w.heap.size + 1 + 1 + 1 + 1, 2, none⟩ (.slice z2 d3.fSafe.length zp2)).setCell ⟨w.heap.size + 1 + 1 + 1 + 1, 3, none⟩ (.int .i64 d3.fNext)) [.slice z0 d3.fInodes.length zp0, .slice z1 d3.fNames.length zp1, .slice z2 d3.fSafe.length zp2, .int .i64 d3.fNext] d3 _) := oDisk_good.frame HS3.out.2.1 (fun b hb => hT.block b (oDisk_good.lt HS3.out.2.1 b hb) (by intro h; simp at h; have := HS3.out.2.2.2.1 b hb; omega))
     have HN := Hid.mk HS3.out.2.2.1
     have HG := Hid.mk HS3.out.2.2.2.1
     clear hT r1
     simp only [hw4] at x0 x1 x2 x3 r10 r11 r12 r13 rf0 rf1 rf2 rf3
     simp only [hw4] at HB HO
     go_wp2_with fail
     exact bodyPost_ret (v := .tuple #[.agg #[.slice z0 d3.fInodes.length zp0, .slice z1 d3.fNames.length zp1, .slice z2 d3.fSafe.length zp2, .int .i64 d3.fNext], .int .i64 c3]) (by simp [results, Tryz.results44, go_sem, *]) rfl ⟨[.slice z0 d3.fInodes.length zp0, .slice z1 d3.fNames.length zp1, .slice z2 d3.fSafe.length zp2, .int .i64 d3.fNext], _, by rw [HRES.out], by rw [HRES.out]; exact HO.out, HN.out, (fun b hb => by have := HG.out b hb; omega), HB.out⟩
end Go.Proofs.YtomlpobbhioflaaGreatDoor

namespace Go.Proofs.YtomlpobbhioflaaGreatDoor
open Go.Proofs Go.Shelf
def layItoa_ren : Go.Shelf.Ren := ⟨fun | 171 => 42 | 243 => 75 | 246 => 103 | 283 => 117 | 284 => 118 | 285 => 119 | 286 => 120 | 129 => 135 | 317 => 136 | 318 => 137 | 319 => 138 | 320 => 139 | 337 => 148 | 338 => 149 | n => n, fun | 3 => 3 | 9 => 9 | 2 => 2 | 4 => 4 | 171 => 132 | 0 => 0 | 53 => 133 | 37 => 51 | 5 => 5 | 173 => 136 | 212 => 153 | 51 => 150 | 20 => 20 | 213 => 154 | 46 => 106 | 232 => 167 | 233 => 168 | n => n, fun | 17 => 0 | 18 => 2 | 19 => 3 | n => n⟩
theorem layItoa : Go.Proofs.LaysM.n171 Tryz.prog layItoa_ren := {
 mixed := by kernel_rfl
 f129 := Tryz.func135.trans (congrArg some (by kernel_rfl))
 f171 := Tryz.func42.trans (congrArg some (by kernel_rfl))
 f243 := Tryz.func75.trans (congrArg some (by kernel_rfl))
 f246 := Tryz.func103.trans (congrArg some (by kernel_rfl))
 f283 := Tryz.func117.trans (congrArg some (by kernel_rfl))
 f284 := Tryz.func118.trans (congrArg some (by kernel_rfl))
 f285 := Tryz.func119.trans (congrArg some (by kernel_rfl))
 f286 := Tryz.func120.trans (congrArg some (by kernel_rfl))
 f317 := Tryz.func136.trans (congrArg some (by kernel_rfl))
 f318 := Tryz.func137.trans (congrArg some (by kernel_rfl))
 f319 := Tryz.func138.trans (congrArg some (by kernel_rfl))
 f320 := Tryz.func139.trans (congrArg some (by kernel_rfl))
 f337 := Tryz.func148.trans (congrArg some (by kernel_rfl))
 f338 := Tryz.func149.trans (congrArg some (by kernel_rfl))
 t0 := Tryz.underlying0
 a0 := Tryz.isAgg0
 z0 := Tryz.sizeOf0
 v0 := Tryz.zeroValue0
 t2 := Tryz.underlying2
 a2 := Tryz.isAgg2
 z2 := Tryz.sizeOf2
 v2 := Tryz.zeroValue2
 t3 := Tryz.underlying3
 a3 := Tryz.isAgg3
 z3 := Tryz.sizeOf3
 v3 := Tryz.zeroValue3
 t4 := Tryz.underlying4
 a4 := Tryz.isAgg4
 z4 := Tryz.sizeOf4
 v4 := Tryz.zeroValue4
 t5 := Tryz.underlying5
 a5 := Tryz.isAgg5
 z5 := Tryz.sizeOf5
 v5 := Tryz.zeroValue5
 t9 := Tryz.underlying9
 a9 := Tryz.isAgg9
 z9 := Tryz.sizeOf9
 v9 := Tryz.zeroValue9
 t20 := Tryz.underlying20
 a20 := Tryz.isAgg20
 z20 := Tryz.sizeOf20
 v20 := Tryz.zeroValue20
 t37 := Tryz.underlying51
 a37 := Tryz.isAgg51
 z37 := Tryz.sizeOf51
 v37 := Tryz.zeroValue51
 t46 := Tryz.underlying106
 a46 := Tryz.isAgg106
 z46 := Tryz.sizeOf106
 v46 := Tryz.zeroValue106
 t51 := Tryz.underlying150
 a51 := Tryz.isAgg150
 z51 := Tryz.sizeOf150
 v51 := Tryz.zeroValue150
 t53 := Tryz.underlying133
 a53 := Tryz.isAgg133
 z53 := Tryz.sizeOf133
 v53 := Tryz.zeroValue133
 t171 := Tryz.underlying132
 a171 := Tryz.isAgg132
 z171 := Tryz.sizeOf132
 v171 := Tryz.zeroValue132
 t173 := Tryz.underlying136
 a173 := Tryz.isAgg136
 z173 := Tryz.sizeOf136
 v173 := Tryz.zeroValue136
 t212 := Tryz.underlying153
 a212 := Tryz.isAgg153
 z212 := Tryz.sizeOf153
 v212 := Tryz.zeroValue153
 t213 := Tryz.underlying154
 a213 := Tryz.isAgg154
 z213 := Tryz.sizeOf154
 t232 := Tryz.underlying167
 a232 := Tryz.isAgg167
 z232 := Tryz.sizeOf167
 v232 := Tryz.zeroValue167
 t233 := Tryz.underlying168
 a233 := Tryz.isAgg168
 z233 := Tryz.sizeOf168
 v233 := Tryz.zeroValue168
 g17 := by kernel_rfl
 g18 := by kernel_rfl
 g19 := by kernel_rfl
 i0 := by kernel_rfl
 i2 := by kernel_rfl
 i3 := by kernel_rfl
 i4 := by kernel_rfl
 i5 := by kernel_rfl
 i9 := by kernel_rfl
 i20 := by kernel_rfl
 i37 := by kernel_rfl
 i46 := by kernel_rfl
 i51 := by kernel_rfl
 i53 := by kernel_rfl
 i171 := by kernel_rfl
 i173 := by kernel_rfl
 i212 := by kernel_rfl
 i232 := by kernel_rfl
 i233 := by kernel_rfl
 m17 := by kernel_rfl
 m18 := by kernel_rfl
 m19 := by kernel_rfl }
def layJoin_ren : Go.Shelf.Ren := ⟨fun | 156 => 88 | 165 => 108 | 166 => 109 | 169 => 110 | 240 => 121 | 241 => 122 | 276 => 140 | 277 => 141 | n => n, fun | 31 => 88 | 9 => 9 | 3 => 3 | 4 => 4 | 0 => 0 | 20 => 20 | 72 => 120 | 76 => 124 | 70 => 118 | 37 => 51 | 75 => 123 | 127 => 138 | 164 => 156 | 5 => 5 | 80 => 126 | n => n, fun | n => n⟩
theorem layJoin : Go.Proofs.Lays.n156 Tryz.prog layJoin_ren := {
 mixed := by kernel_rfl
 f156 := Tryz.func88.trans (congrArg some (by kernel_rfl))
 f165 := Tryz.func108.trans (congrArg some (by kernel_rfl))
 f166 := Tryz.func109.trans (congrArg some (by kernel_rfl))
 f169 := Tryz.func110.trans (congrArg some (by kernel_rfl))
 f240 := Tryz.func121.trans (congrArg some (by kernel_rfl))
 f241 := Tryz.func122.trans (congrArg some (by kernel_rfl))
 f276 := Tryz.func140.trans (congrArg some (by kernel_rfl))
 f277 := Tryz.func141.trans (congrArg some (by kernel_rfl))
 t0 := Tryz.underlying0
 a0 := Tryz.isAgg0
 z0 := Tryz.sizeOf0
 v0 := Tryz.zeroValue0
 t3 := Tryz.underlying3
 a3 := Tryz.isAgg3
 z3 := Tryz.sizeOf3
 v3 := Tryz.zeroValue3
 t4 := Tryz.underlying4
 a4 := Tryz.isAgg4
 z4 := Tryz.sizeOf4
 v4 := Tryz.zeroValue4
 t9 := Tryz.underlying9
 a9 := Tryz.isAgg9
 z9 := Tryz.sizeOf9
 v9 := Tryz.zeroValue9
 t20 := Tryz.underlying20
 a20 := Tryz.isAgg20
 z20 := Tryz.sizeOf20
 v20 := Tryz.zeroValue20
 t31 := Tryz.underlying88
 a31 := Tryz.isAgg88
 z31 := Tryz.sizeOf88
 v31 := Tryz.zeroValue88
 t37 := Tryz.underlying51
 a37 := Tryz.isAgg51
 z37 := Tryz.sizeOf51
 v37 := Tryz.zeroValue51
 t70 := Tryz.underlying118
 a70 := Tryz.isAgg118
 z70 := Tryz.sizeOf118
 v70 := Tryz.zeroValue118
 t72 := Tryz.underlying120
 a72 := Tryz.isAgg120
 z72 := Tryz.sizeOf120
 v72 := Tryz.zeroValue120
 t75 := Tryz.underlying123
 a75 := Tryz.isAgg123
 z75 := Tryz.sizeOf123
 v75 := Tryz.zeroValue123
 t76 := Tryz.underlying124
 a76 := Tryz.isAgg124
 z76 := Tryz.sizeOf124
 v76 := Tryz.zeroValue124
 t127 := Tryz.underlying138
 a127 := Tryz.isAgg138
 z127 := Tryz.sizeOf138
 v127 := Tryz.zeroValue138
 t164 := Tryz.underlying156
 a164 := Tryz.isAgg156
 z164 := Tryz.sizeOf156
 v164 := Tryz.zeroValue156 }
end Go.Proofs.YtomlpobbhioflaaGreatDoor

namespace Go.Proofs.YtomlpobbhioflaaGreatDoor
open Go.RowKit Go.Maps
set_option maxHeartbeats 400000 in
theorem reaches_any (t : MMeta) (lo hi : ByteArray) (w : World) :
  Calls Tryz.prog 105 #[.agg #[.int .i64 t.fNo, .int .i64 t.fLevel, .string t.fLo, .string t.fHi], .string lo, .string hi] w fun e w' => e = .returned (.bool (reachP t lo hi)) ∧ Below w.heap.size w w' := by
 have HV : Hid (reachP t lo hi = kLe (maxK t.fLo lo) (minK t.fHi hi)) := rfl
 have hbx := Bx.new w [.int .i64 t.fNo, .int .i64 t.fLevel, .string t.fLo, .string t.fHi] 82
 have y2 := hbx.2 2 _ rfl
 have y3 := hbx.2 3 _ rfl
 have HB : Hid (Below w.heap.size w (w.alloc (.cells #[.int .i64 t.fNo, .int .i64 t.fLevel, .string t.fLo, .string t.fHi] 82))) := (Below.refl _ _).alloc (Nat.le_refl _) _
 have hmx := fun (W : World) => run_max_k (P := Tryz.prog) (w := W) #[9, 9] 9 t.fLo lo
 have hmn := fun (W : World) => run_min_k (P := Tryz.prog) (w := W) #[9, 9] 9 t.fHi hi
 generalize maxK t.fLo lo = a at *
 generalize minK t.fHi hi = b at *
 go_enter Tryz.func105, Tryz.ntmps105
 by_cases hk : kLe a b = true
 ·have HV2 : Hid (reachP t lo hi = true) := by show _ = _; rw [HV.out, hk]
  have hq := kLe_yes hk
  rcases hq with hq | hq
  ·go_wp2_with fail
   go_ret
   exact ⟨by rw [HV2.out]; rfl, HB.out⟩
  ·go_wp2_with fail
   go_ret
   exact ⟨by rw [HV2.out]; rfl, HB.out⟩
 ·have hk2 := Bool.eq_false_iff.2 hk
  have HV2 : Hid (reachP t lo hi = false) := by show _ = _; rw [HV.out, hk2]
  obtain ⟨hq1, hq2⟩ := kLe_no hk2
  go_wp2_with fail
  go_ret
  exact ⟨by rw [HV2.out]; rfl, HB.out⟩
set_option maxHeartbeats 400000 in
theorem mkey_any (s : ByteArray) (w : World) (hs : s.size ≤ 9223372036854775807) :
  Calls Tryz.prog 104 #[.string s] w fun e w' => e = .returned (.bool (mKeyP s)) ∧ w' = w := by
 by_cases h0 : s.size = 0
 ·have HV : Hid (mKeyP s = false) := decide_eq_false (fun h => by omega)
  have he := k_emp h0
  go_enter Tryz.func104, Tryz.ntmps104
  go_wp2
  go_ret
  exact ⟨by rw [HV.out]; rfl, rfl⟩
 ·have he := k_nemp h0
  by_cases h1 : s.size ≤ 20
  ·have HV : Hid (mKeyP s = true) := decide_eq_true ⟨by omega, h1⟩
   have h2 : (s.size : Int) ≤ 20 := by omega
   go_enter Tryz.func104, Tryz.ntmps104
   go_wp2
   go_ret
   exact ⟨by rw [HV.out]; rfl, rfl⟩
  ·have HV : Hid (mKeyP s = false) := decide_eq_false (fun h => by omega)
   have h2 : ¬ (s.size : Int) ≤ 20 := by omega
   go_enter Tryz.func104, Tryz.ntmps104
   go_wp2
   go_ret
   exact ⟨by rw [HV.out]; rfl, rfl⟩
set_option maxHeartbeats 1000000 in
theorem metaOk_any (t : MMeta) (w : World) (h2 : t.fLo.size ≤ 9223372036854775807) (h3 : t.fHi.size ≤ 9223372036854775807) :
  Calls Tryz.prog 76 #[.agg #[.int .i64 t.fNo, .int .i64 t.fLevel, .string t.fLo, .string t.fHi]] w fun e w' => e = .returned (.bool (spanP t)) ∧ Below w.heap.size w w' := by
 have HV : Hid (spanP t = (decide (0 ≤ t.fLevel ∧ t.fLevel ≤ 3) && mKeyP t.fLo && mKeyP t.fHi && kLe t.fLo t.fHi)) := rfl
 have hbx := Bx.new w [.int .i64 t.fNo, .int .i64 t.fLevel, .string t.fLo, .string t.fHi] 82
 have y1 := hbx.2 1 _ rfl
 have y2 := hbx.2 2 _ rfl
 have y3 := hbx.2 3 _ rfl
 have HB : Hid (Below w.heap.size w (w.alloc (.cells #[.int .i64 t.fNo, .int .i64 t.fLevel, .string t.fLo, .string t.fHi] 82))) := (Below.refl _ _).alloc (Nat.le_refl _) _
 have hk1 := fun W => mkey_any t.fLo W h2
 have hk2 := fun W => mkey_any t.fHi W h3
 generalize mKeyP t.fLo = a at *
 generalize mKeyP t.fHi = b at *
 go_enter Tryz.func76, Tryz.ntmps76
 by_cases hl : 0 ≤ t.fLevel ∧ t.fLevel ≤ 3
 rotate_left
 ·have HV2 : Hid (spanP t = false) := by show _ = _; rw [HV.out, decide_eq_false hl]; simp
  by_cases hl0 : 0 ≤ t.fLevel
  ·have hl1 : ¬ t.fLevel ≤ 3 := fun h => hl ⟨hl0, h⟩
   go_wp2_with fail
   go_ret
   exact ⟨by rw [HV2.out]; rfl, HB.out⟩
  ·go_wp2_with fail
   go_ret
   exact ⟨by rw [HV2.out]; rfl, HB.out⟩
 obtain ⟨hl0, hl1⟩ := hl
 have HV3 : Hid (spanP t = (a && b && kLe t.fLo t.fHi)) := by show _ = _; rw [HV.out, decide_eq_true (show 0 ≤ t.fLevel ∧ t.fLevel ≤ 3 from ⟨hl0, hl1⟩)]; simp
 cases a with
 | false =>
  have HV2 : Hid (spanP t = false) := by show _ = _; rw [HV3.out]; simp
  go_wp2_with fail
  refine (hk1 _).mono ?_
  rintro e w1 ⟨rfl, hw1⟩
  subst hw1
  go_wp2_with fail
  go_ret
  exact ⟨by rw [HV2.out]; rfl, HB.out⟩
 | true =>
  cases b with
  | false =>
   have HV2 : Hid (spanP t = false) := by show _ = _; rw [HV3.out]; simp
   go_wp2_with fail
   refine (hk1 _).mono ?_
   rintro e w1 ⟨rfl, hw1⟩
   subst hw1
   go_wp2_with fail
   refine (hk2 _).mono ?_
   rintro e w1 ⟨rfl, hw1⟩
   subst hw1
   go_wp2_with fail
   go_ret
   exact ⟨by rw [HV2.out]; rfl, HB.out⟩
  | true =>
   by_cases hk : kLe t.fLo t.fHi = true
   ·have HV2 : Hid (spanP t = true) := by show _ = _; rw [HV3.out, hk]; rfl
    rcases kLe_yes hk with hq | hq
    ·go_wp2_with fail
     refine (hk1 _).mono ?_
     rintro e w1 ⟨rfl, hw1⟩
     subst hw1
     go_wp2_with fail
     refine (hk2 _).mono ?_
     rintro e w1 ⟨rfl, hw1⟩
     subst hw1
     go_wp2_with fail
     go_ret
     exact ⟨by rw [HV2.out]; rfl, HB.out⟩
    ·go_wp2_with fail
     refine (hk1 _).mono ?_
     rintro e w1 ⟨rfl, hw1⟩
     subst hw1
     go_wp2_with fail
     refine (hk2 _).mono ?_
     rintro e w1 ⟨rfl, hw1⟩
     subst hw1
     go_wp2_with fail
     go_ret
     exact ⟨by rw [HV2.out]; rfl, HB.out⟩
   ·have hkf := Bool.eq_false_iff.2 hk
    have HV2 : Hid (spanP t = false) := by show _ = _; rw [HV3.out, hkf]; rfl
    obtain ⟨hq1, hq2⟩ := kLe_no hkf
    go_wp2_with fail
    refine (hk1 _).mono ?_
    rintro e w1 ⟨rfl, hw1⟩
    subst hw1
    go_wp2_with fail
    refine (hk2 _).mono ?_
    rintro e w1 ⟨rfl, hw1⟩
    subst hw1
    go_wp2_with fail
    go_ret
    exact ⟨by rw [HV2.out]; rfl, HB.out⟩
theorem all_take {α : Type} {f : α → Bool} {l : List α} {k : Nat} (h : k < l.length) : (l.take (k + 1)).all f = ((l.take k).all f && f l[k]) := by
 rw [List.take_succ_eq_append_getElem h, List.all_append]; simp
theorem all_bad {α : Type} {f : α → Bool} {l : List α} {k : Nat} (h : k < l.length) (hb : f l[k] = false) : l.all f = false := by
 rw [List.all_eq_false]; exact ⟨l[k], List.getElem_mem h, by rw [hb]; simp⟩
set_option maxHeartbeats 4000000 in
theorem liesApart_any (t : MMeta) (a : Option Addr) (n c : Nat) (l : List MMeta) (w : World) (hx : l.length = n) (hn : n ≤ 1048576) (hL : LeafL 4 rMeta w.heap.size w a c l) :
  Calls Tryz.prog 77 #[.agg #[.int .i64 t.fNo, .int .i64 t.fLevel, .string t.fLo, .string t.fHi], .slice a n c] w fun e w' => e = .returned (.bool (apartI t l)) ∧ Below w.heap.size w w' := by
 have HX := Hid.mk hx
 have HL := Hid.mk hL
 have HV : Hid (apartI t l = (decide (t.fLevel = 0) || l.all (fun o => !(decide (o.fLevel = t.fLevel) && reachP o t.fLo t.fHi)))) := rfl
 obtain ⟨f, hf⟩ : ∃ f : MMeta → Bool, f = (fun o => !(decide (o.fLevel = t.fLevel) && reachP o t.fLo t.fHi)) := ⟨_, rfl⟩
 rw [← hf] at HV
 have HF := Hid.mk hf
 clear hx hL hf
 go_enter Tryz.func77, Tryz.ntmps77
 obtain ⟨wq, hwq⟩ : ∃ wq, wq = w.alloc (.cells #[.int .i64 t.fNo, .int .i64 t.fLevel, .string t.fLo, .string t.fHi] 82) := ⟨_, rfl⟩
 have hbq : Below w.heap.size w wq := by rw [hwq]; exact (Below.refl _ _).alloc (Nat.le_refl _) _
 have hbx : Bx wq w.heap.size [.int .i64 t.fNo, .int .i64 t.fLevel, .string t.fLo, .string t.fHi] := by rw [hwq]; exact Bx.new _ _ _
 by_cases h0 : t.fLevel = 0
 ·have HV2 : Hid (apartI t l = true) := by show _ = _; rw [HV.out, decide_eq_true h0]; rfl
  have y1 := hbx.2 1 _ rfl
  rw [h0] at y1
  go_wp2_with fail
  go_ret
  exact ⟨by rw [HV2.out]; rfl, (Below.refl _ _).alloc (Nat.le_refl _) _⟩
 have HV2 : Hid (apartI t l = l.all f) := by show _ = _; rw [HV.out, decide_eq_false h0]; rfl
 clear HV
 have y1 := hbx.2 1 _ rfl
 rw [hwq] at y1
 go_wp2_with fail
 rw [← hwq]
 simp only [show (t.fLevel == 0) = false from by simpa using h0]
 clear y1 hwq h0
 go_loopw [12] (fun i wr => ∃ k : Nat, k ≤ n ∧ i = .int .i64 k ∧ Hid ((l.take k).all f = true) ∧ Below wq.heap.size wq wr) (fun i _ => n - (intOf i).toNat)
 case atStart => exact ⟨0, Nat.zero_le _, rfl, rfl, Below.refl _ _⟩
 case round =>
  obtain ⟨k, hk, rfl, HI, hbk⟩ := hrel
  have hbw := bthen hbq hbk
  have hbz := hbw.size
  by_cases hlt : k < n
  ·have hkl : k < l.length := by rw [HX.out]; exact hlt
   obtain ⟨b1, o1, rfl, hB, cs, hcl, hcell, rfl, g0, g1, g2, g3, _⟩ := (HL.out.2.2.below rMeta_good hbw) k hkl
   have hB' : b1 < wr.heap.size := by omega
   have k0 := hcell 0 _ rfl
   have k1 := hcell 1 _ rfl
   have k2 := hcell 2 _ rfl
   have k3 := hcell 3 _ rfl
   rw [Nat.add_zero] at k0
   have HT : Hid (f l[k] = true → (l.take (k + 1)).all f = true) := fun h => by rw [all_take hkl, HI.out, h]; rfl
   have HBad : Hid (f l[k] = false → apartI t l = false) := fun h => by rw [HV2.out]; exact all_bad hkl h
   have HFk : Hid (f l[k] = !(decide (l[k].fLevel = t.fLevel) && reachP l[k] t.fLo t.fHi)) := by show _ = _; rw [HF.out]
   clear hcell hcl
   generalize f l[k] = fk at *
   generalize l[k] = x at *
   have hbxr := hbx.under hbk
   have t1 := hbxr.2 1 _ rfl
   have t2 := hbxr.2 2 _ rfl
   have t3 := hbxr.2 3 _ rfl
   have hlr := hbxr.1
   by_cases hv : x.fLevel = t.fLevel
   ·have HF2 : Hid (fk = !reachP x t.fLo t.fHi) := by show _ = _; rw [HFk.out, decide_eq_true hv]; rfl
    have hC := fun W => reaches_any x t.fLo t.fHi W
    rw [hv] at k1
    simp only [hv] at hC
    clear hv HFk
    generalize reachP x t.fLo t.fHi = rc at *
    go_wp2_with fail
    refine (hC _).mono ?_
    rintro e w2 ⟨rfl, hx2⟩
    have hb2 := bthen hbk (bthen ((Below.refl _ _).alloc (Nat.le_refl _) _) hx2)
    clear hC t1 t2 t3 hx2
    cases rc with
    | false =>
     have HD := HT.out HF2.out
     go_wp2_with fail
     go_roundw
     case rel => exact ⟨k + 1, by omega, by go_num, HD, hb2⟩
     case measure => simp [intOf]; omega
    | true =>
     have HD := Hid.mk (HBad.out HF2.out)
     go_wp2_with fail
     go_ret
     exact ⟨by rw [HD.out]; rfl, bthen hbq hb2⟩
   ·have HF2 : Hid (fk = true) := by show _ = _; rw [HFk.out, decide_eq_false hv]; rfl
    have HD := Hid.mk (HT.out HF2.out)
    go_wp2_with fail
    go_roundw
    case rel => exact ⟨k + 1, by omega, by go_num, HD, bthen hbk ((Below.refl _ _).alloc (Nat.le_refl _) _)⟩
    case measure => simp [intOf]; omega
  ·have HD : Hid (apartI t l = true) := by show _ = _; rw [HV2.out]; have h := HI.out; rw [show k = l.length by rw [HX.out]; omega, List.take_length] at h; exact h
   go_wp2_with fail
   go_ret
   exact ⟨by rw [HD.out]; rfl, hbw⟩
end Go.Proofs.YtomlpobbhioflaaGreatDoor
