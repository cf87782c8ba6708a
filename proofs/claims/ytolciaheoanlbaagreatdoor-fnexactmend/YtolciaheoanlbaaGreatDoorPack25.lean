/-
  Part 26 of the texts that the proof leans on.
-/
import Derived.Test.YtolciaheoanlbaaGreatDoorPack24
import Derived.Test.YtolciaheoanlbaaGreatDoorPack18
import Derived.Test.YtolciaheoanlbaaGreatDoorPack4

/-
  A file that is made anew and switched at once: the program's steps, one behind the other.
-/
namespace Go.Proofs.YtolciaheoanlbaaGreatDoor
open Go.RowKit
set_option linter.unusedVariables false
set_option linter.unusedSimpArgs false
set_option maxRecDepth 10000
theorem Bx.new' (w : World) (vs : List Value) (t : TypeId) {b : Nat} (hb : b = w.heap.size) : Bx (w.alloc (.cells vs.toArray t)) b vs := by
 rw [hb]
 exact Bx.new w vs t
theorem Bw.set4 {w : World} {b : Nat} {t : TypeId} {vs : List Value} (h : Bw w b t vs) (hl : vs.length = 4) (x0 x1 x2 x3 : Value) : Bw ((((w.setCell ⟨b, 0, none⟩ x0).setCell ⟨b, 1, none⟩ x1).setCell ⟨b, 2, none⟩ x2).setCell ⟨b, 3, none⟩ x3) b t [x0, x1, x2, x3] := by
 have h4 := (((h.put 0 x0).put 1 x1).put 2 x2).put 3 x3
 obtain ⟨y0, y1, y2, y3, rfl⟩ : ∃ y0 y1 y2 y3, vs = [y0, y1, y2, y3] := by
  match vs, hl with
  | [y0, y1, y2, y3], _ => exact ⟨y0, y1, y2, y3, rfl⟩
 exact h4
def SwW (w : World) (t : ByteArray) (vb : Value) (s : ByteArray) (g : Nat) (W : World) (cs : List Value) (d : MDisk) (F : List Nat) : Prop :=
 Bw W w.heap.size 30 cs ∧ oDisk W cs d F ∧ F.Nodup ∧ (∀ b, b ∈ F → w.heap.size + 5 ≤ b) ∧
 Bx W (w.heap.size + 1) [.string t] ∧ Bx W (w.heap.size + 1 + 1) [vb] ∧ Bx W (w.heap.size + 1 + 1 + 1) [.string s] ∧ Bw W (w.heap.size + 1 + 1 + 1 + 1) 30 [.slice none 0 0, .slice none 0 0, .slice none 0 0, .int .i64 0] ∧
 (w.heap.size + 5 ≤ g ∧ Bx W g [.func (.func 87) #[] #[.pointer (some ⟨w.heap.size + 1, 0, none⟩)], .func (.func 89) #[] #[.pointer (some ⟨w.heap.size + 1, 0, none⟩), .pointer (some ⟨w.heap.size + 1 + 1, 0, none⟩)], .func (.func 91) #[] #[.pointer (some ⟨w.heap.size + 1, 0, none⟩)], .func (.func 93) #[] #[.pointer (some ⟨w.heap.size + 1, 0, none⟩), .pointer (some ⟨w.heap.size + 1 + 1 + 1, 0, none⟩)], .func (.func 95) #[] #[]]) ∧ Below w.heap.size w W
theorem SwW.size {w : World} {t : ByteArray} {vb : Value} {s : ByteArray} {g : Nat} {W : World} {cs : List Value} {d : MDisk} {F : List Nat} (h : SwW w t vb s g W cs d F) : w.heap.size + 5 ≤ W.heap.size := by
 have := h.2.2.2.2.2.2.2.1.lt
 omega
theorem SwW.step {w : World} {t : ByteArray} {vb : Value} {s : ByteArray} {g : Nat} {W W' : World} {cs : List Value} {d d' : MDisk} {F F' : List Nat} {x0 x1 x2 x3 : Value} (h : SwW w t vb s g W cs d F) (hl : cs.length = 4) (hx : Below W.heap.size W W')
  (ho : oDisk W' [x0, x1, x2, x3] d' F') (hN : F'.Nodup) (hge : ∀ b, b ∈ F' → W.heap.size ≤ b) :
  SwW w t vb s g ((((W'.setCell ⟨w.heap.size, 0, none⟩ x0).setCell ⟨w.heap.size, 1, none⟩ x1).setCell ⟨w.heap.size, 2, none⟩ x2).setCell ⟨w.heap.size, 3, none⟩ x3) [x0, x1, x2, x3] d' F' := by
 have hsz := h.size
 obtain ⟨h1, h2, h3, h4, h5, h6, h7, h8, ⟨h9, h10⟩, h11⟩ := h
 have hT := turn4 W' w.heap.size x0 x1 x2 x3
 have hb := bthen h11 hx
 refine ⟨(h1.under hx).set4 hl x0 x1 x2 x3, oDisk_good.frame ho (fun b hb => hT.block b (oDisk_good.lt ho b hb) (by intro hh; simp at hh; have := hge b hb; omega)), hN, fun b hb => by have := hge b hb; omega,
  (h5.under hx).turn hT (by simp), (h6.under hx).turn hT (by simp; omega), (h7.under hx).turn hT (by simp; omega), (h8.under hx).turn hT (by simp; omega), ⟨h9, (h10.under hx).turn hT (by simp; omega)⟩, hb.trans (hT.below (fun k hk => by simp at hk; omega) hb.size)⟩
set_option maxHeartbeats 8000000 in
theorem switch_any (cs : List Value) (m : MDisk) (t : ByteArray) (vb : Value) (zb : List Int) (s : ByteArray) (w : World) (hr : rDisk w.heap.size w cs m) (hw : wDisk m ≤ 1048576) (ht : t.size ≤ 1048576) (hs : s.size ≤ 1048576) (hvb : rdB w.heap.size w vb zb) (hzb : zb.length ≤ 1048576) :
  Calls Tryz.prog 40 #[.agg cs.toArray, .string t, vb, .string s] w fun e w' => ∃ (cs' : List Value) (F : List Nat), e = .returned (.tuple #[.agg cs'.toArray, .int .i64 (switchP m t zb s).2]) ∧ oDisk w' cs' (switchP m t zb s).1 F ∧ F.Nodup ∧ (∀ b, b ∈ F → w.heap.size ≤ b) ∧ Below w.heap.size w w' := by
 have hq := hr
 obtain ⟨a0, c0, a1, c1, a2, c2, rfl, hI, hNm, hSf, hnx, _⟩ := hq
 obtain ⟨ab, cb, rfl, hlb⟩ := hvb
 have HVB : Hid (rdB w.heap.size w (.slice ab zb.length cb) zb) := ⟨ab, cb, rfl, hlb⟩
 have HW := Hid.mk hw
 have HR := Hid.mk hr
 clear hr hI hNm hSf hw hlb
 obtain ⟨wq, hwq⟩ : ∃ wq, wq = ((((w.alloc (.cells #[.slice a0 m.fInodes.length c0, .slice a1 m.fNames.length c1, .slice a2 m.fSafe.length c2, .int .i64 m.fNext] 30)).alloc (.cells #[.string t] 9)).alloc (.cells #[.slice ab zb.length cb] 62)).alloc (.cells #[.string s] 9)).alloc (.cells #[.slice none 0 0, .slice none 0 0, .slice none 0 0, .int .i64 0] 30) := ⟨_, rfl⟩
 have hzq : wq.heap.size = w.heap.size + 5 := by rw [hwq]; simp
 have hbW : Below w.heap.size w wq := by rw [hwq]; exact ((((Below.refl _ _).alloc (Nat.le_refl _) _).alloc (by simp) _ |>.alloc (by simp; omega) _).alloc (by simp; omega) _).alloc (by simp; omega) _
 have hbd : Bw wq w.heap.size 30 [.slice a0 m.fInodes.length c0, .slice a1 m.fNames.length c1, .slice a2 m.fSafe.length c2, .int .i64 m.fNext] := by rw [hwq]; exact ((((Bw.new _ _ _).alloc _).alloc _).alloc _).alloc _
 have hbt : Bx wq (w.heap.size + 1) [.string t] := by rw [hwq]; exact (((Bx.new' _ _ _ (by simp)).alloc _).alloc _).alloc _
 have hbb : Bx wq (w.heap.size + 1 + 1) [.slice ab zb.length cb] := by rw [hwq]; exact ((Bx.new' _ _ _ (by simp)).alloc _).alloc _
 have hbs : Bx wq (w.heap.size + 1 + 1 + 1) [.string s] := by rw [hwq]; exact (Bx.new' _ _ _ (by simp)).alloc _
 have hbr : Bw wq (w.heap.size + 1 + 1 + 1 + 1) 30 [.slice none 0 0, .slice none 0 0, .slice none 0 0, .int .i64 0] := by rw [hwq]; exact Bw.new' _ _ _ (by simp)
 go_enter Tryz.func40, Tryz.ntmps40
 go_wp2_with fail
 rw [← hwq]
 clear hwq
 refine (implRemove_c _ m t wq (rDisk_good.mono (rDisk_good.below HR.out hbW) hbW.size) (by omega) HW.out ht).mono ?_
 obtain ⟨mr, hmr⟩ : ∃ mr, mr = removeP m t := ⟨_, rfl⟩
 rw [← hmr]
 have HMR := Hid.mk hmr
 have hwr : wDisk mr ≤ 1048576 := by rw [hmr]; exact small_remove HW.out
 clear hmr
 rintro e w1 ⟨cs1, F1, rfl, ho1, hN1, hge1, hx1⟩
 obtain ⟨q0, qp0, q1, qp1, q2, qp2, E0, E1, E2, rfl, _, _, _, _, rfl⟩ := oDisk_cells ho1
 have hd1 := hbd.under hx1
 have hz1 := hx1.size
 have e0 := hd1.cell 0 _ rfl
 have f0 := hd1.free 0
 have e1 := hd1.cell 1 _ rfl
 have f1 := hd1.free 1
 have e2 := hd1.cell 2 _ rfl
 have f2 := hd1.free 2
 have e3 := hd1.cell 3 _ rfl
 have f3 := hd1.free 3
 have hlt1 := hd1.lt
 obtain ⟨wg, hwg⟩ : ∃ wg, wg = ((((w1.setCell ⟨w.heap.size, 0, none⟩ (.slice q0 mr.fInodes.length qp0)).setCell ⟨w.heap.size, 1, none⟩ (.slice q1 mr.fNames.length qp1)).setCell ⟨w.heap.size, 2, none⟩ (.slice q2 mr.fSafe.length qp2)).setCell ⟨w.heap.size, 3, none⟩ (.int .i64 mr.fNext)) := ⟨_, rfl⟩
 have hzg : wg.heap.size = w1.heap.size := by rw [hwg]; simp
 obtain ⟨wf, hwf⟩ : ∃ wf, wf = wg.alloc (.cells #[.func (.func 87) #[] #[.pointer (some ⟨w.heap.size + 1, 0, none⟩)], .func (.func 89) #[] #[.pointer (some ⟨w.heap.size + 1, 0, none⟩), .pointer (some ⟨w.heap.size + 1 + 1, 0, none⟩)], .func (.func 91) #[] #[.pointer (some ⟨w.heap.size + 1, 0, none⟩)], .func (.func 93) #[] #[.pointer (some ⟨w.heap.size + 1, 0, none⟩), .pointer (some ⟨w.heap.size + 1 + 1 + 1, 0, none⟩)], .func (.func 95) #[] #[]] 86) := ⟨_, rfl⟩
 have hS0 : SwW w t (.slice ab zb.length cb) s w1.heap.size wf [.slice q0 mr.fInodes.length qp0, .slice q1 mr.fNames.length qp1, .slice q2 mr.fSafe.length qp2, .int .i64 mr.fNext] mr (E0 ++ E1 ++ E2 ++ []) := by
  have hT := turn4 w1 w.heap.size (.slice q0 mr.fInodes.length qp0) (.slice q1 mr.fNames.length qp1) (.slice q2 mr.fSafe.length qp2) (.int .i64 mr.fNext)
  rw [← hwg] at hT
  have hbq := bthen hbW hx1
  have hB := hbq.trans (hT.below (fun k hk => by simp at hk; omega) hbq.size)
  have hf : Below wg.heap.size wg wf := by rw [hwf]; exact (Below.refl _ _).alloc (Nat.le_refl _) _
  have ho : oDisk wg [.slice q0 mr.fInodes.length qp0, .slice q1 mr.fNames.length qp1, .slice q2 mr.fSafe.length qp2, .int .i64 mr.fNext] mr (E0 ++ E1 ++ E2 ++ []) := oDisk_good.frame ho1 (fun b hb => hT.block b (oDisk_good.lt ho1 b hb) (by intro hh; simp at hh; have := hge1 b hb; omega))
  have h4 := hd1.set4 rfl (.slice q0 mr.fInodes.length qp0) (.slice q1 mr.fNames.length qp1) (.slice q2 mr.fSafe.length qp2) (.int .i64 mr.fNext)
  rw [← hwg] at h4
  refine ⟨h4.under hf, oDisk_good.frame ho (fun b hb => hf.block b (oDisk_good.lt ho b hb)), hN1, fun b hb => by have := hge1 b hb; omega, ((hbt.under hx1).turn hT (by simp)).under hf, ((hbb.under hx1).turn hT (by simp; omega)).under hf, ((hbs.under hx1).turn hT (by simp; omega)).under hf, ((hbr.under hx1).turn hT (by simp; omega)).under hf, ⟨by omega, ?_⟩, bthen hB hf⟩
  rw [← hzg, hwf]
  exact Bx.new _ _ _
 clear hd1 hbd hbt hbb hbs hbr ho1 hN1 hge1
 go_wp2_with fail
 rw [← hwg, ← hwf]
 clear hwg hwf e0 e1 e2 e3 f0 f1 f2 f3
 generalize w1.heap.size = g at *
 go_loopw [10, 25] (fun cv kv wr => ∃ (k : Nat) (cs2 : List Value) (F2 : List Nat), k ≤ 5 ∧ kv = .int .i64 k ∧ cv = .int .i64 0 ∧ SwAt m t zb s k ∧ SwW w t (.slice ab zb.length cb) s g wr cs2 (swD mr t zb s k) F2) (fun _ kv _ => 5 - (intOf kv).toNat)
 case atStart => exact ⟨0, _, _, by omega, rfl, rfl, SwAt.start _ _ _ _, hS0⟩
 case round =>
  obtain ⟨k, cs2, F2, hk, rfl, rfl, hat, hS⟩ := hrel
  clear hS0
  have hsm := swD_small (t := t) (b := zb) (s := s) hwr k
  have hsz := hS.size
  have HAT := Hid.mk hat
  have HS := Hid.mk hS
  clear hat hS
  by_cases h5 : k = 5
  ·subst h5
   have HRES := Hid.mk (SwAt.done HAT.out)
   rw [← HMR.out] at HRES
   generalize swD mr t zb s 5 = d2 at *
   obtain ⟨y0, yp0, y1, yp1, y2, yp2, Y0, Y1, Y2, rfl, _, _, _, _, rfl⟩ := oDisk_cells HS.out.2.1
   have r1 := HS.out.2.2.2.2.2.2.2.1
   have x0 := HS.out.1.cell 0 _ rfl
   have r10 := r1.cell 0 _ rfl
   have rf0 := r1.free 0
   have x1 := HS.out.1.cell 1 _ rfl
   have r11 := r1.cell 1 _ rfl
   have rf1 := r1.free 1
   have x2 := HS.out.1.cell 2 _ rfl
   have r12 := r1.cell 2 _ rfl
   have rf2 := r1.free 2
   have x3 := HS.out.1.cell 3 _ rfl
   have r13 := r1.cell 3 _ rfl
   have rf3 := r1.free 3
   have hlr := r1.lt
   have hld := HS.out.1.lt
   have hT := turn4 wr (w.heap.size + 1 + 1 + 1 + 1) (.slice y0 d2.fInodes.length yp0) (.slice y1 d2.fNames.length yp1) (.slice y2 d2.fSafe.length yp2) (.int .i64 d2.fNext)
   have HB : Hid (Below w.heap.size w ((((wr.setCell ⟨w.heap.size + 1 + 1 + 1 + 1, 0, none⟩ (.slice y0 d2.fInodes.length yp0)).setCell ⟨w.heap.size + 1 + 1 + 1 + 1, 1, none⟩ (.slice y1 d2.fNames.length yp1)).setCell ⟨w.heap.size + 1 + 1 + 1 + 1, 2, none⟩ (.slice y2 d2.fSafe.length yp2)).setCell ⟨w.heap.size + 1 + 1 + 1 + 1, 3, none⟩ (.int .i64 d2.fNext))) := HS.out.2.2.2.2.2.2.2.2.2.trans (hT.below (fun k hk => by simp at hk; omega) HS.out.2.2.2.2.2.2.2.2.2.size)
   have HO : Hid (oDisk ((((wr.setCell ⟨w.heap.size + 1 + 1 + 1 + 1, 0, none⟩ (.slice y0 d2.fInodes.length yp0)).setCell ⟨w.heap.size + 1 + 1 + 1 + 1, 1, none⟩ (.slice y1 d2.fNames.length yp1)).setCell ⟨w.heap.size + 1 + 1 + 1 + 1, 2, none⟩ (.slice y2 d2.fSafe.length yp2)).setCell ⟨w.heap.size + 1 + 1 + 1 + 1, 3, none⟩ (.int .i64 d2.fNext)) [.slice y0 d2.fInodes.length yp0, .slice y1 d2.fNames.length yp1, .slice y2 d2.fSafe.length yp2, .int .i64 d2.fNext] d2 _) := oDisk_good.frame HS.out.2.1 (fun b hb => hT.block b (oDisk_good.lt HS.out.2.1 b hb) (by intro h; simp at h; have := HS.out.2.2.2.1 b hb; omega))
   have HN := Hid.mk HS.out.2.2.1
   have HG := Hid.mk HS.out.2.2.2.1
   clear hT r1
   go_wp2_with fail
   exact bodyPost_ret (v := .tuple #[.agg #[.slice y0 d2.fInodes.length yp0, .slice y1 d2.fNames.length yp1, .slice y2 d2.fSafe.length yp2, .int .i64 d2.fNext], .int .i64 0]) (by simp [results, Tryz.results40, go_sem, *]) rfl ⟨[.slice y0 d2.fInodes.length yp0, .slice y1 d2.fNames.length yp1, .slice y2 d2.fSafe.length yp2, .int .i64 d2.fNext], _, by rw [HRES.out], by rw [HRES.out]; exact HO.out, HN.out, (fun b hb => by have := HG.out b hb; omega), HB.out⟩
  ·have h5l : k < 5 := by omega
   have HON := Hid.mk (fun h => SwAt.on HAT.out h5l h)
   have HOU := Hid.mk (fun h => SwAt.out HAT.out h5l h)
   rw [← HMR.out] at HON HOU
   rcases (show k = 0 ∨ k = 1 ∨ k = 2 ∨ k = 3 ∨ k = 4 from by omega) with rfl | rfl | rfl | rfl | rfl
   ·have HD : Hid (swD mr t zb s (0 + 1) = createP (swD mr t zb s 0) t) := rfl
    have HC : Hid (swC mr t zb s 0 = createC (swD mr t zb s 0) t) := rfl
    generalize swD mr t zb s 0 = d2 at *
    obtain ⟨y0, yp0, y1, yp1, y2, yp2, Y0, Y1, Y2, rfl, _, _, _, _, rfl⟩ := oDisk_cells HS.out.2.1
    have x0 := HS.out.1.cell 0 _ rfl
    have x1 := HS.out.1.cell 1 _ rfl
    have x2 := HS.out.1.cell 2 _ rfl
    have x3 := HS.out.1.cell 3 _ rfl
    have hfn := HS.out.2.2.2.2.2.2.2.2.1.2.2 0 _ rfl
    have hfl := HS.out.2.2.2.2.2.2.2.2.1.2.1
    have hrd := oDisk_good.read HS.out.2.1
    have hBw := HS.out.2.2.2.2.2.2.2.2.2
    go_wp2_with fail
    refine (sw1_any _ d2 t (w.heap.size + 1) wr hrd hsm ht HS.out.2.2.2.2.1).mono ?_
    rw [← HD.out, ← HC.out]
    generalize hd3 : swD mr t zb s (0 + 1) = d3 at *
    have HD3 := Hid.mk hd3
    clear hd3
    generalize swC mr t zb s 0 = c3 at *
    rintro e w3 ⟨cs3, F3, rfl, ho3, hN3, hge3, hx3⟩
    obtain ⟨z0, zp0, z1, zp1, z2, zp2, Z0, Z1, Z2, rfl, _, _, _, _, rfl⟩ := oDisk_cells ho3
    have hb3 := HS.out.1.under hx3
    have v0 := hb3.cell 0 _ rfl
    have g0 := hb3.free 0
    have v1 := hb3.cell 1 _ rfl
    have g1 := hb3.free 1
    have v2 := hb3.cell 2 _ rfl
    have g2 := hb3.free 2
    have v3 := hb3.cell 3 _ rfl
    have g3 := hb3.free 3
    have hl3 := hb3.lt
    have HS3 := Hid.mk (HS.out.step rfl hx3 ho3 hN3 hge3)
    obtain ⟨w4, hw4⟩ : ∃ w4, w4 = ((((w3.setCell ⟨w.heap.size, 0, none⟩ (.slice z0 d3.fInodes.length zp0)).setCell ⟨w.heap.size, 1, none⟩ (.slice z1 d3.fNames.length zp1)).setCell ⟨w.heap.size, 2, none⟩ (.slice z2 d3.fSafe.length zp2)).setCell ⟨w.heap.size, 3, none⟩ (.int .i64 d3.fNext)) := ⟨_, rfl⟩
    rw [← hw4] at HS3
    clear ho3 hN3 hge3 hb3 hrd x0 x1 x2 x3 hfn
    by_cases hc0 : c3 = 0
    ·have HN4 := Hid.mk (HON.out hc0)
     subst hc0
     go_wp2_with fail
     rw [← hw4]
     clear hw4
     go_roundw
     case rel => exact ⟨1, _, _, by omega, by go_num, rfl, HN4.out, by rw [HD3.out]; exact HS3.out⟩
     case measure => simp [intOf]
    ·have HRES := Hid.mk (HOU.out hc0)
     have hs4 := HS3.out.size
     have hz4 : w4.heap.size = w3.heap.size := by rw [hw4]; simp
     clear HON HOU HAT
     have r1 := HS3.out.2.2.2.2.2.2.2.1
     have x0 := HS3.out.1.cell 0 _ rfl
     have r10 := r1.cell 0 _ rfl
     have rf0 := r1.free 0
     have x1 := HS3.out.1.cell 1 _ rfl
     have r11 := r1.cell 1 _ rfl
     have rf1 := r1.free 1
     have x2 := HS3.out.1.cell 2 _ rfl
     have r12 := r1.cell 2 _ rfl
     have rf2 := r1.free 2
     have x3 := HS3.out.1.cell 3 _ rfl
     have r13 := r1.cell 3 _ rfl
     have rf3 := r1.free 3
     have hlr := r1.lt
     have hld := HS3.out.1.lt
     have hT := turn4 w4 (w.heap.size + 1 + 1 + 1 + 1) (.slice z0 d3.fInodes.length zp0) (.slice z1 d3.fNames.length zp1) (.slice z2 d3.fSafe.length zp2) (.int .i64 d3.fNext)
     have HB : Hid (Below w.heap.size w ((((w4.setCell ⟨w.heap.size + 1 + 1 + 1 + 1, 0, none⟩ (.slice z0 d3.fInodes.length zp0)).setCell ⟨w.heap.size + 1 + 1 + 1 + 1, 1, none⟩ (.slice z1 d3.fNames.length zp1)).setCell ⟨w.heap.size + 1 + 1 + 1 + 1, 2, none⟩ (.slice z2 d3.fSafe.length zp2)).setCell ⟨w.heap.size + 1 + 1 + 1 + 1, 3, none⟩ (.int .i64 d3.fNext))) := HS3.out.2.2.2.2.2.2.2.2.2.trans (hT.below (fun k hk => by simp at hk; omega) HS3.out.2.2.2.2.2.2.2.2.2.size)
     have HO : Hid (oDisk ((((w4.setCell ⟨w.heap.size + 1 + 1 + 1 + 1, 0, none⟩ (.slice z0 d3.fInodes.length zp0)).setCell ⟨w.heap.size + 1 + 1 + 1 + 1, 1, none⟩ (.slice z1 d3.fNames.length zp1)).setCell ⟨w.heap.size + 1 + 1 + 1 + 1, 2, none⟩ (.slice z2 d3.fSafe.length zp2)).setCell ⟨w.heap.size + 1 + 1 + 1 + 1, 3, none⟩ (.int .i64 d3.fNext)) [.slice z0 d3.fInodes.length zp0, .slice z1 d3.fNames.length zp1, .slice z2 d3.fSafe.length zp2, .int .i64 d3.fNext] d3 _) := oDisk_good.frame HS3.out.2.1 (fun b hb => hT.block b (oDisk_good.lt HS3.out.2.1 b hb) (by intro h; simp at h; have := HS3.out.2.2.2.1 b hb; omega))
     have HN := Hid.mk HS3.out.2.2.1
     have HG := Hid.mk HS3.out.2.2.2.1
     clear hT r1
     simp only [hw4] at x0 x1 x2 x3 r10 r11 r12 r13 rf0 rf1 rf2 rf3
     simp only [hw4] at HB HO
     go_wp2_with fail
     exact bodyPost_ret (v := .tuple #[.agg #[.slice z0 d3.fInodes.length zp0, .slice z1 d3.fNames.length zp1, .slice z2 d3.fSafe.length zp2, .int .i64 d3.fNext], .int .i64 c3]) (by simp [results, Tryz.results40, go_sem, *]) rfl ⟨[.slice z0 d3.fInodes.length zp0, .slice z1 d3.fNames.length zp1, .slice z2 d3.fSafe.length zp2, .int .i64 d3.fNext], _, by rw [HRES.out], by rw [HRES.out]; exact HO.out, HN.out, (fun b hb => by have := HG.out b hb; omega), HB.out⟩
   ·have HD : Hid (swD mr t zb s (1 + 1) = appendP (swD mr t zb s 1) t zb) := rfl
    have HC : Hid (swC mr t zb s 1 = appendC (swD mr t zb s 1) t zb) := rfl
    generalize swD mr t zb s 1 = d2 at *
    obtain ⟨y0, yp0, y1, yp1, y2, yp2, Y0, Y1, Y2, rfl, _, _, _, _, rfl⟩ := oDisk_cells HS.out.2.1
    have x0 := HS.out.1.cell 0 _ rfl
    have x1 := HS.out.1.cell 1 _ rfl
    have x2 := HS.out.1.cell 2 _ rfl
    have x3 := HS.out.1.cell 3 _ rfl
    have hfn := HS.out.2.2.2.2.2.2.2.2.1.2.2 1 _ rfl
    have hfl := HS.out.2.2.2.2.2.2.2.2.1.2.1
    have hrd := oDisk_good.read HS.out.2.1
    have hBw := HS.out.2.2.2.2.2.2.2.2.2
    go_wp2_with fail
    refine (sw2_any _ d2 t (.slice ab zb.length cb) zb hzb (w.heap.size + 1) (w.heap.size + 1 + 1) wr hrd hsm ht ((HVB.out.below hBw).mono hBw.size) HS.out.2.2.2.2.1 HS.out.2.2.2.2.2.1).mono ?_
    rw [← HD.out, ← HC.out]
    generalize hd3 : swD mr t zb s (1 + 1) = d3 at *
    have HD3 := Hid.mk hd3
    clear hd3
    generalize swC mr t zb s 1 = c3 at *
    rintro e w3 ⟨cs3, F3, rfl, ho3, hN3, hge3, hx3⟩
    obtain ⟨z0, zp0, z1, zp1, z2, zp2, Z0, Z1, Z2, rfl, _, _, _, _, rfl⟩ := oDisk_cells ho3
    have hb3 := HS.out.1.under hx3
    have v0 := hb3.cell 0 _ rfl
    have g0 := hb3.free 0
    have v1 := hb3.cell 1 _ rfl
    have g1 := hb3.free 1
    have v2 := hb3.cell 2 _ rfl
    have g2 := hb3.free 2
    have v3 := hb3.cell 3 _ rfl
    have g3 := hb3.free 3
    have hl3 := hb3.lt
    have HS3 := Hid.mk (HS.out.step rfl hx3 ho3 hN3 hge3)
    obtain ⟨w4, hw4⟩ : ∃ w4, w4 = ((((w3.setCell ⟨w.heap.size, 0, none⟩ (.slice z0 d3.fInodes.length zp0)).setCell ⟨w.heap.size, 1, none⟩ (.slice z1 d3.fNames.length zp1)).setCell ⟨w.heap.size, 2, none⟩ (.slice z2 d3.fSafe.length zp2)).setCell ⟨w.heap.size, 3, none⟩ (.int .i64 d3.fNext)) := ⟨_, rfl⟩
    rw [← hw4] at HS3
    clear ho3 hN3 hge3 hb3 hrd x0 x1 x2 x3 hfn
    by_cases hc0 : c3 = 0
    ·have HN4 := Hid.mk (HON.out hc0)
     subst hc0
     go_wp2_with fail
     rw [← hw4]
     clear hw4
     go_roundw
     case rel => exact ⟨2, _, _, by omega, by go_num, rfl, HN4.out, by rw [HD3.out]; exact HS3.out⟩
     case measure => simp [intOf]
    ·have HRES := Hid.mk (HOU.out hc0)
     have hs4 := HS3.out.size
     have hz4 : w4.heap.size = w3.heap.size := by rw [hw4]; simp
     clear HON HOU HAT
     have r1 := HS3.out.2.2.2.2.2.2.2.1
     have x0 := HS3.out.1.cell 0 _ rfl
     have r10 := r1.cell 0 _ rfl
     have rf0 := r1.free 0
     have x1 := HS3.out.1.cell 1 _ rfl
     have r11 := r1.cell 1 _ rfl
     have rf1 := r1.free 1
     have x2 := HS3.out.1.cell 2 _ rfl
     have r12 := r1.cell 2 _ rfl
     have rf2 := r1.free 2
     have x3 := HS3.out.1.cell 3 _ rfl
     have r13 := r1.cell 3 _ rfl
     have rf3 := r1.free 3
     have hlr := r1.lt
     have hld := HS3.out.1.lt
     have hT := turn4 w4 (w.heap.size + 1 + 1 + 1 + 1) (.slice z0 d3.fInodes.length zp0) (.slice z1 d3.fNames.length zp1) (.slice z2 d3.fSafe.length zp2) (.int .i64 d3.fNext)
     have HB : Hid (Below w.heap.size w ((((w4.setCell ⟨w.heap.size + 1 + 1 + 1 + 1, 0, none⟩ (.slice z0 d3.fInodes.length zp0)).setCell ⟨w.heap.size + 1 + 1 + 1 + 1, 1, none⟩ (.slice z1 d3.fNames.length zp1)).setCell ⟨w.heap.size + 1 + 1 + 1 + 1, 2, none⟩ (.slice z2 d3.fSafe.length zp2)).setCell ⟨w.heap.size + 1 + 1 + 1 + 1, 3, none⟩ (.int .i64 d3.fNext))) := HS3.out.2.2.2.2.2.2.2.2.2.trans (hT.below (fun k hk => by simp at hk; omega) HS3.out.2.2.2.2.2.2.2.2.2.size)
     have HO : Hid (oDisk ((((w4.setCell ⟨w.heap.size + 1 + 1 + 1 + 1, 0, none⟩ (.slice z0 d3.fInodes.length zp0)).setCell ⟨w.heap.size + 1 + 1 + 1 + 1, 1, none⟩ (.slice z1 d3.fNames.length zp1)).setCell ⟨w.heap.size + 1 + 1 + 1 + 1, 2, none⟩ (.slice z2 d3.fSafe.length zp2)).setCell ⟨w.heap.size + 1 + 1 + 1 + 1, 3, none⟩ (.int .i64 d3.fNext)) [.slice z0 d3.fInodes.length zp0, .slice z1 d3.fNames.length zp1, .slice z2 d3.fSafe.length zp2, .int .i64 d3.fNext] d3 _) := oDisk_good.frame HS3.out.2.1 (fun b hb => hT.block b (oDisk_good.lt HS3.out.2.1 b hb) (by intro h; simp at h; have := HS3.out.2.2.2.1 b hb; omega))
     have HN := Hid.mk HS3.out.2.2.1
     have HG := Hid.mk HS3.out.2.2.2.1
     clear hT r1
     simp only [hw4] at x0 x1 x2 x3 r10 r11 r12 r13 rf0 rf1 rf2 rf3
     simp only [hw4] at HB HO
     go_wp2_with fail
     exact bodyPost_ret (v := .tuple #[.agg #[.slice z0 d3.fInodes.length zp0, .slice z1 d3.fNames.length zp1, .slice z2 d3.fSafe.length zp2, .int .i64 d3.fNext], .int .i64 c3]) (by simp [results, Tryz.results40, go_sem, *]) rfl ⟨[.slice z0 d3.fInodes.length zp0, .slice z1 d3.fNames.length zp1, .slice z2 d3.fSafe.length zp2, .int .i64 d3.fNext], _, by rw [HRES.out], by rw [HRES.out]; exact HO.out, HN.out, (fun b hb => by have := HG.out b hb; omega), HB.out⟩
   ·have HD : Hid (swD mr t zb s (2 + 1) = syncP (swD mr t zb s 2) t) := rfl
    have HC : Hid (swC mr t zb s 2 = callP (swD mr t zb s 2) t) := rfl
    generalize swD mr t zb s 2 = d2 at *
    obtain ⟨y0, yp0, y1, yp1, y2, yp2, Y0, Y1, Y2, rfl, _, _, _, _, rfl⟩ := oDisk_cells HS.out.2.1
    have x0 := HS.out.1.cell 0 _ rfl
    have x1 := HS.out.1.cell 1 _ rfl
    have x2 := HS.out.1.cell 2 _ rfl
    have x3 := HS.out.1.cell 3 _ rfl
    have hfn := HS.out.2.2.2.2.2.2.2.2.1.2.2 2 _ rfl
    have hfl := HS.out.2.2.2.2.2.2.2.2.1.2.1
    have hrd := oDisk_good.read HS.out.2.1
    have hBw := HS.out.2.2.2.2.2.2.2.2.2
    go_wp2_with fail
    refine (sw3_any _ d2 t (w.heap.size + 1) wr hrd hsm ht HS.out.2.2.2.2.1).mono ?_
    rw [← HD.out, ← HC.out]
    generalize hd3 : swD mr t zb s (2 + 1) = d3 at *
    have HD3 := Hid.mk hd3
    clear hd3
    generalize swC mr t zb s 2 = c3 at *
    rintro e w3 ⟨cs3, F3, rfl, ho3, hN3, hge3, hx3⟩
    obtain ⟨z0, zp0, z1, zp1, z2, zp2, Z0, Z1, Z2, rfl, _, _, _, _, rfl⟩ := oDisk_cells ho3
    have hb3 := HS.out.1.under hx3
    have v0 := hb3.cell 0 _ rfl
    have g0 := hb3.free 0
    have v1 := hb3.cell 1 _ rfl
    have g1 := hb3.free 1
    have v2 := hb3.cell 2 _ rfl
    have g2 := hb3.free 2
    have v3 := hb3.cell 3 _ rfl
    have g3 := hb3.free 3
    have hl3 := hb3.lt
    have HS3 := Hid.mk (HS.out.step rfl hx3 ho3 hN3 hge3)
    obtain ⟨w4, hw4⟩ : ∃ w4, w4 = ((((w3.setCell ⟨w.heap.size, 0, none⟩ (.slice z0 d3.fInodes.length zp0)).setCell ⟨w.heap.size, 1, none⟩ (.slice z1 d3.fNames.length zp1)).setCell ⟨w.heap.size, 2, none⟩ (.slice z2 d3.fSafe.length zp2)).setCell ⟨w.heap.size, 3, none⟩ (.int .i64 d3.fNext)) := ⟨_, rfl⟩
    rw [← hw4] at HS3
    clear ho3 hN3 hge3 hb3 hrd x0 x1 x2 x3 hfn
    by_cases hc0 : c3 = 0
    ·have HN4 := Hid.mk (HON.out hc0)
     subst hc0
     go_wp2_with fail
     rw [← hw4]
     clear hw4
     go_roundw
     case rel => exact ⟨3, _, _, by omega, by go_num, rfl, HN4.out, by rw [HD3.out]; exact HS3.out⟩
     case measure => simp [intOf]
    ·have HRES := Hid.mk (HOU.out hc0)
     have hs4 := HS3.out.size
     have hz4 : w4.heap.size = w3.heap.size := by rw [hw4]; simp
     clear HON HOU HAT
     have r1 := HS3.out.2.2.2.2.2.2.2.1
     have x0 := HS3.out.1.cell 0 _ rfl
     have r10 := r1.cell 0 _ rfl
     have rf0 := r1.free 0
     have x1 := HS3.out.1.cell 1 _ rfl
     have r11 := r1.cell 1 _ rfl
     have rf1 := r1.free 1
     have x2 := HS3.out.1.cell 2 _ rfl
     have r12 := r1.cell 2 _ rfl
     have rf2 := r1.free 2
     have x3 := HS3.out.1.cell 3 _ rfl
     have r13 := r1.cell 3 _ rfl
     have rf3 := r1.free 3
     have hlr := r1.lt
     have hld := HS3.out.1.lt
     have hT := turn4 w4 (w.heap.size + 1 + 1 + 1 + 1) (.slice z0 d3.fInodes.length zp0) (.slice z1 d3.fNames.length zp1) (.slice z2 d3.fSafe.length zp2) (.int .i64 d3.fNext)
     have HB : Hid (Below w.heap.size w ((((w4.setCell ⟨w.heap.size + 1 + 1 + 1 + 1, 0, none⟩ (.slice z0 d3.fInodes.length zp0)).setCell ⟨w.heap.size + 1 + 1 + 1 + 1, 1, none⟩ (.slice z1 d3.fNames.length zp1)).setCell ⟨w.heap.size + 1 + 1 + 1 + 1, 2, none⟩ (.slice z2 d3.fSafe.length zp2)).setCell ⟨w.heap.size + 1 + 1 + 1 + 1, 3, none⟩ (.int .i64 d3.fNext))) := HS3.out.2.2.2.2.2.2.2.2.2.trans (hT.below (fun k hk => by simp at hk; omega) HS3.out.2.2.2.2.2.2.2.2.2.size)
     have HO : Hid (oDisk ((((w4.setCell ⟨w.heap.size + 1 + 1 + 1 + 1, 0, none⟩ (.slice z0 d3.fInodes.length zp0)).setCell ⟨w.heap.size + 1 + 1 + 1 + 1, 1, none⟩ (.slice z1 d3.fNames.length zp1)).setCell ⟨w.heap.size + 1 + 1 + 1 + 1, 2, none⟩ (.slice z2 d3.fSafe.length zp2)).setCell ⟨w.heap.size + 1 + 1 + 1 + 1, 3, none⟩ (.int .i64 d3.fNext)) [.slice z0 d3.fInodes.length zp0, .slice z1 d3.fNames.length zp1, .slice z2 d3.fSafe.length zp2, .int .i64 d3.fNext] d3 _) := oDisk_good.frame HS3.out.2.1 (fun b hb => hT.block b (oDisk_good.lt HS3.out.2.1 b hb) (by intro h; simp at h; have := HS3.out.2.2.2.1 b hb; omega))
     have HN := Hid.mk HS3.out.2.2.1
     have HG := Hid.mk HS3.out.2.2.2.1
     clear hT r1
     simp only [hw4] at x0 x1 x2 x3 r10 r11 r12 r13 rf0 rf1 rf2 rf3
     simp only [hw4] at HB HO
     go_wp2_with fail
     exact bodyPost_ret (v := .tuple #[.agg #[.slice z0 d3.fInodes.length zp0, .slice z1 d3.fNames.length zp1, .slice z2 d3.fSafe.length zp2, .int .i64 d3.fNext], .int .i64 c3]) (by simp [results, Tryz.results40, go_sem, *]) rfl ⟨[.slice z0 d3.fInodes.length zp0, .slice z1 d3.fNames.length zp1, .slice z2 d3.fSafe.length zp2, .int .i64 d3.fNext], _, by rw [HRES.out], by rw [HRES.out]; exact HO.out, HN.out, (fun b hb => by have := HG.out b hb; omega), HB.out⟩
   ·have HD : Hid (swD mr t zb s (3 + 1) = renameP (swD mr t zb s 3) t s) := rfl
    have HC : Hid (swC mr t zb s 3 = renameC (swD mr t zb s 3) t s) := rfl
    generalize swD mr t zb s 3 = d2 at *
    obtain ⟨y0, yp0, y1, yp1, y2, yp2, Y0, Y1, Y2, rfl, _, _, _, _, rfl⟩ := oDisk_cells HS.out.2.1
    have x0 := HS.out.1.cell 0 _ rfl
    have x1 := HS.out.1.cell 1 _ rfl
    have x2 := HS.out.1.cell 2 _ rfl
    have x3 := HS.out.1.cell 3 _ rfl
    have hfn := HS.out.2.2.2.2.2.2.2.2.1.2.2 3 _ rfl
    have hfl := HS.out.2.2.2.2.2.2.2.2.1.2.1
    have hrd := oDisk_good.read HS.out.2.1
    have hBw := HS.out.2.2.2.2.2.2.2.2.2
    go_wp2_with fail
    refine (sw4_any _ d2 t s hs (w.heap.size + 1) (w.heap.size + 1 + 1 + 1) wr hrd hsm ht HS.out.2.2.2.2.1 HS.out.2.2.2.2.2.2.1).mono ?_
    rw [← HD.out, ← HC.out]
    generalize hd3 : swD mr t zb s (3 + 1) = d3 at *
    have HD3 := Hid.mk hd3
    clear hd3
    generalize swC mr t zb s 3 = c3 at *
    rintro e w3 ⟨cs3, F3, rfl, ho3, hN3, hge3, hx3⟩
    obtain ⟨z0, zp0, z1, zp1, z2, zp2, Z0, Z1, Z2, rfl, _, _, _, _, rfl⟩ := oDisk_cells ho3
    have hb3 := HS.out.1.under hx3
    have v0 := hb3.cell 0 _ rfl
    have g0 := hb3.free 0
    have v1 := hb3.cell 1 _ rfl
    have g1 := hb3.free 1
    have v2 := hb3.cell 2 _ rfl
    have g2 := hb3.free 2
    have v3 := hb3.cell 3 _ rfl
    have g3 := hb3.free 3
    have hl3 := hb3.lt
    have HS3 := Hid.mk (HS.out.step rfl hx3 ho3 hN3 hge3)
    obtain ⟨w4, hw4⟩ : ∃ w4, w4 = ((((w3.setCell ⟨w.heap.size, 0, none⟩ (.slice z0 d3.fInodes.length zp0)).setCell ⟨w.heap.size, 1, none⟩ (.slice z1 d3.fNames.length zp1)).setCell ⟨w.heap.size, 2, none⟩ (.slice z2 d3.fSafe.length zp2)).setCell ⟨w.heap.size, 3, none⟩ (.int .i64 d3.fNext)) := ⟨_, rfl⟩
    rw [← hw4] at HS3
    clear ho3 hN3 hge3 hb3 hrd x0 x1 x2 x3 hfn
    by_cases hc0 : c3 = 0
    ·have HN4 := Hid.mk (HON.out hc0)
     subst hc0
     go_wp2_with fail
     rw [← hw4]
     clear hw4
     go_roundw
     case rel => exact ⟨4, _, _, by omega, by go_num, rfl, HN4.out, by rw [HD3.out]; exact HS3.out⟩
     case measure => simp [intOf]
    ·have HRES := Hid.mk (HOU.out hc0)
     have hs4 := HS3.out.size
     have hz4 : w4.heap.size = w3.heap.size := by rw [hw4]; simp
     clear HON HOU HAT
     have r1 := HS3.out.2.2.2.2.2.2.2.1
     have x0 := HS3.out.1.cell 0 _ rfl
     have r10 := r1.cell 0 _ rfl
     have rf0 := r1.free 0
     have x1 := HS3.out.1.cell 1 _ rfl
     have r11 := r1.cell 1 _ rfl
     have rf1 := r1.free 1
     have x2 := HS3.out.1.cell 2 _ rfl
     have r12 := r1.cell 2 _ rfl
     have rf2 := r1.free 2
     have x3 := HS3.out.1.cell 3 _ rfl
     have r13 := r1.cell 3 _ rfl
     have rf3 := r1.free 3
     have hlr := r1.lt
     have hld := HS3.out.1.lt
     have hT := turn4 w4 (w.heap.size + 1 + 1 + 1 + 1) (.slice z0 d3.fInodes.length zp0) (.slice z1 d3.fNames.length zp1) (.slice z2 d3.fSafe.length zp2) (.int .i64 d3.fNext)
     have HB : Hid (Below w.heap.size w ((((w4.setCell ⟨w.heap.size + 1 + 1 + 1 + 1, 0, none⟩ (.slice z0 d3.fInodes.length zp0)).setCell ⟨w.heap.size + 1 + 1 + 1 + 1, 1, none⟩ (.slice z1 d3.fNames.length zp1)).setCell ⟨w.heap.size + 1 + 1 + 1 + 1, 2, none⟩ (.slice z2 d3.fSafe.length zp2)).setCell ⟨w.heap.size + 1 + 1 + 1 + 1, 3, none⟩ (.int .i64 d3.fNext))) := HS3.out.2.2.2.2.2.2.2.2.2.trans (hT.below (fun k hk => by simp at hk; omega) HS3.out.2.2.2.2.2.2.2.2.2.size)
     have HO : Hid (oDisk ((((w4.setCell ⟨w.heap.size + 1 + 1 + 1 + 1, 0, none⟩ (.slice z0 d3.fInodes.length zp0)).setCell ⟨w.heap.size + 1 + 1 + 1 + 1, 1, none⟩ (.slice z1 d3.fNames.length zp1)).setCell ⟨w.heap.size + 1 + 1 + 1 + 1, 2, none⟩ (.slice z2 d3.fSafe.length zp2)).setCell ⟨w.heap.size + 1 + 1 + 1 + 1, 3, none⟩ (.int .i64 d3.fNext)) [.slice z0 d3.fInodes.length zp0, .slice z1 d3.fNames.length zp1, .slice z2 d3.fSafe.length zp2, .int .i64 d3.fNext] d3 _) := oDisk_good.frame HS3.out.2.1 (fun b hb => hT.block b (oDisk_good.lt HS3.out.2.1 b hb) (by intro h; simp at h; have := HS3.out.2.2.2.1 b hb; omega))
     have HN := Hid.mk HS3.out.2.2.1
     have HG := Hid.mk HS3.out.2.2.2.1
     clear hT r1
     simp only [hw4] at x0 x1 x2 x3 r10 r11 r12 r13 rf0 rf1 rf2 rf3
     simp only [hw4] at HB HO
     go_wp2_with fail
     exact bodyPost_ret (v := .tuple #[.agg #[.slice z0 d3.fInodes.length zp0, .slice z1 d3.fNames.length zp1, .slice z2 d3.fSafe.length zp2, .int .i64 d3.fNext], .int .i64 c3]) (by simp [results, Tryz.results40, go_sem, *]) rfl ⟨[.slice z0 d3.fInodes.length zp0, .slice z1 d3.fNames.length zp1, .slice z2 d3.fSafe.length zp2, .int .i64 d3.fNext], _, by rw [HRES.out], by rw [HRES.out]; exact HO.out, HN.out, (fun b hb => by have := HG.out b hb; omega), HB.out⟩
   ·have HD : Hid (swD mr t zb s (4 + 1) = syncDirP (swD mr t zb s 4)) := rfl
    have HC : Hid (swC mr t zb s 4 = syncDirC (swD mr t zb s 4)) := rfl
    generalize swD mr t zb s 4 = d2 at *
    obtain ⟨y0, yp0, y1, yp1, y2, yp2, Y0, Y1, Y2, rfl, _, _, _, _, rfl⟩ := oDisk_cells HS.out.2.1
    have x0 := HS.out.1.cell 0 _ rfl
    have x1 := HS.out.1.cell 1 _ rfl
    have x2 := HS.out.1.cell 2 _ rfl
    have x3 := HS.out.1.cell 3 _ rfl
    have hfn := HS.out.2.2.2.2.2.2.2.2.1.2.2 4 _ rfl
    have hfl := HS.out.2.2.2.2.2.2.2.2.1.2.1
    have hrd := oDisk_good.read HS.out.2.1
    have hBw := HS.out.2.2.2.2.2.2.2.2.2
    go_wp2_with fail
    refine (implSyncDir_c _ d2 wr hrd hsm).mono ?_
    rw [← HD.out, ← HC.out]
    generalize hd3 : swD mr t zb s (4 + 1) = d3 at *
    have HD3 := Hid.mk hd3
    clear hd3
    generalize swC mr t zb s 4 = c3 at *
    rintro e w3 ⟨cs3, F3, rfl, ho3, hN3, hge3, hx3⟩
    obtain ⟨z0, zp0, z1, zp1, z2, zp2, Z0, Z1, Z2, rfl, _, _, _, _, rfl⟩ := oDisk_cells ho3
    have hb3 := HS.out.1.under hx3
    have v0 := hb3.cell 0 _ rfl
    have g0 := hb3.free 0
    have v1 := hb3.cell 1 _ rfl
    have g1 := hb3.free 1
    have v2 := hb3.cell 2 _ rfl
    have g2 := hb3.free 2
    have v3 := hb3.cell 3 _ rfl
    have g3 := hb3.free 3
    have hl3 := hb3.lt
    have HS3 := Hid.mk (HS.out.step rfl hx3 ho3 hN3 hge3)
    obtain ⟨w4, hw4⟩ : ∃ w4, w4 = ((((w3.setCell ⟨w.heap.size, 0, none⟩ (.slice z0 d3.fInodes.length zp0)).setCell ⟨w.heap.size, 1, none⟩ (.slice z1 d3.fNames.length zp1)).setCell ⟨w.heap.size, 2, none⟩ (.slice z2 d3.fSafe.length zp2)).setCell ⟨w.heap.size, 3, none⟩ (.int .i64 d3.fNext)) := ⟨_, rfl⟩
    rw [← hw4] at HS3
    clear ho3 hN3 hge3 hb3 hrd x0 x1 x2 x3 hfn
    by_cases hc0 : c3 = 0
    ·have HN4 := Hid.mk (HON.out hc0)
     subst hc0
     go_wp2_with fail
     rw [← hw4]
     clear hw4
     go_roundw
     case rel => exact ⟨5, _, _, by omega, by go_num, rfl, HN4.out, by rw [HD3.out]; exact HS3.out⟩
     case measure => simp [intOf]
    ·have HRES := Hid.mk (HOU.out hc0)
     have hs4 := HS3.out.size
     have hz4 : w4.heap.size = w3.heap.size := by rw [hw4]; simp
     clear HON HOU HAT
     have r1 := HS3.out.2.2.2.2.2.2.2.1
     have x0 := HS3.out.1.cell 0 _ rfl
     have r10 := r1.cell 0 _ rfl
     have rf0 := r1.free 0
     have x1 := HS3.out.1.cell 1 _ rfl
     have r11 := r1.cell 1 _ rfl
     have rf1 := r1.free 1
     have x2 := HS3.out.1.cell 2 _ rfl
     have r12 := r1.cell 2 _ rfl
     have rf2 := r1.free 2
     have x3 := HS3.out.1.cell 3 _ rfl
     have r13 := r1.cell 3 _ rfl
     have rf3 := r1.free 3
     have hlr := r1.lt
     have hld := HS3.out.1.lt
     have hT := turn4 w4 (w.heap.size + 1 + 1 + 1 + 1) (.slice z0 d3.fInodes.length zp0) (.slice z1 d3.fNames.length zp1) (.slice z2 d3.fSafe.length zp2) (.int .i64 d3.fNext)
     have HB : Hid (Below w.heap.size w ((((w4.setCell ⟨w.heap.size + 1 + 1 + 1 + 1, 0, none⟩ (.slice z0 d3.fInodes.length zp0)).setCell ⟨w.heap.size + 1 + 1 + 1 + 1, 1, none⟩ (.slice z1 d3.fNames.length zp1)).setCell ⟨w.heap.size + 1 + 1 + 1 + 1, 2, none⟩ (.slice z2 d3.fSafe.length zp2)).setCell ⟨w.heap.size + 1 + 1 + 1 + 1, 3, none⟩ (.int .i64 d3.fNext))) := HS3.out.2.2.2.2.2.2.2.2.2.trans (hT.below (fun k hk => by simp at hk; omega) HS3.out.2.2.2.2.2.2.2.2.2.size)
     have HO : Hid (oDisk ((((w4.setCell ⟨w.heap.size + 1 + 1 + 1 + 1, 0, none⟩ (.slice z0 d3.fInodes.length zp0)).setCell ⟨w.heap.size + 1 + 1 + 1 + 1, 1, none⟩ (.slice z1 d3.fNames.length zp1)).setCell ⟨w.heap.size + 1 + 1 + 1 + 1, 2, none⟩ (.slice z2 d3.fSafe.length zp2)).setCell ⟨w.heap.size + 1 + 1 + 1 + 1, 3, none⟩ (.int .i64 d3.fNext)) [.slice z0 d3.fInodes.length zp0, .slice z1 d3.fNames.length zp1, .slice z2 d3.fSafe.length zp2, .int .i64 d3.fNext] d3 _) := oDisk_good.frame HS3.out.2.1 (fun b hb => hT.block b (oDisk_good.lt HS3.out.2.1 b hb) (by intro h; simp at h; have := HS3.out.2.2.2.1 b hb; omega))
     have HN := Hid.mk HS3.out.2.2.1
     have HG := Hid.mk HS3.out.2.2.2.1
     clear hT r1
     simp only [hw4] at x0 x1 x2 x3 r10 r11 r12 r13 rf0 rf1 rf2 rf3
     simp only [hw4] at HB HO
     go_wp2_with fail
     exact bodyPost_ret (v := .tuple #[.agg #[.slice z0 d3.fInodes.length zp0, .slice z1 d3.fNames.length zp1, .slice z2 d3.fSafe.length zp2, .int .i64 d3.fNext], .int .i64 c3]) (by simp [results, Tryz.results40, go_sem, *]) rfl ⟨[.slice z0 d3.fInodes.length zp0, .slice z1 d3.fNames.length zp1, .slice z2 d3.fSafe.length zp2, .int .i64 d3.fNext], _, by rw [HRES.out], by rw [HRES.out]; exact HO.out, HN.out, (fun b hb => by have := HG.out b hb; omega), HB.out⟩
end Go.Proofs.YtolciaheoanlbaaGreatDoor

/-
  A file that is renamed, and then removed, plainly: what the law of names asks of it.
-/
namespace Go.Proofs.YtolciaheoanlbaaGreatDoor
open Go.RowKit
set_option linter.unusedVariables false
set_option linter.unusedSimpArgs false
theorem data_eq {m : MDisk} {s : ByteArray} (h : callP m s = 0) {x : MInode} (hx : x ∈ m.fInodes) (he : x.fId = idOf m.fNames s) : dataOf m s = x.fData := by
 obtain ⟨p, hp, rfl⟩ := List.mem_iff_getElem.1 hx
 have h1 := file_only h hp he
 unfold dataOf
 have h2 : placeOf m.fInodes (idOf m.fNames s) = p := by rw [h1]; rfl
 rw [h2, List.getElem?_eq_getElem hp]
 rfl
theorem data_has {m : MDisk} {s : ByteArray} (h : callP m s = 0) : ∃ x, x ∈ m.fInodes ∧ x.fId = idOf m.fNames s ∧ dataOf m s = x.fData := by
 obtain ⟨hk, hid⟩ := file_at h
 exact ⟨_, List.getElem_mem hk, hid, data_eq h (List.getElem_mem hk) hid⟩
section
variable {m : MDisk} {s t : ByteArray}
end
end Go.Proofs.YtolciaheoanlbaaGreatDoor
