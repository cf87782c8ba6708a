/-
  The program's end of a call that may be too much.
-/
import Derived.Test.YtcbhmbgmeodjdaaDoorDatV
import Derived.Test.YtcbhmbgmeodjdaaDoorCopy
import Derived.Test.YtcbhmbgmeodjdaaDoorDskQ
namespace Go.Proofs.YtcbhmbgmeodjdaaDoor
open Go.RowKit Go.Maps
set_option linter.unusedVariables false
set_option linter.unusedSimpArgs false
set_option maxRecDepth 10000

def fullD (m n : MDisk) : MDisk := if diskOk n then n else m
def fullC (n : MDisk) : Int := if diskOk n then 0 else 4

set_option maxHeartbeats 4000000 in
theorem orFull_any (cs : List Value) (b0 b1 b2 : Option Addr) (d0 d1 d2 : Nat) (m n : MDisk) (F : List Nat) (w : World) (hr : rDisk w.heap.size w cs m) (hw : wDisk m ≤ 1048576) (ho : oDisk w [.slice b0 n.fInodes.length d0, .slice b1 n.fNames.length d1, .slice b2 n.fSafe.length d2, .int .i64 n.fNext] n F) (hN : F.Nodup) (hwn : wDisk n ≤ 16777216) :
    Calls Tryd.prog 146 #[.agg cs.toArray, .agg #[.slice b0 n.fInodes.length d0, .slice b1 n.fNames.length d1, .slice b2 n.fSafe.length d2, .int .i64 n.fNext]] w fun e w' => ∃ (cs' : List Value) (F' : List Nat), e = .returned (.tuple #[.agg cs'.toArray, .int .i64 (fullC n)]) ∧ oDisk w' cs' (fullD m n) F' ∧ F'.Nodup ∧ (∀ b, b ∈ F' → b ∈ F ∨ w.heap.size ≤ b) ∧ Below w.heap.size w w' := by
  have hq := hr
  obtain ⟨a0, c0, a1, c1, a2, c2, rfl, hI, hNm, hSf, hnx, _⟩ := hq
  have hw2 : m.fInodes.length + sumW wInode m.fInodes + (m.fNames.length + sumW wEntry m.fNames) + (m.fSafe.length + sumW wEntry m.fSafe) ≤ 1048576 := hw
  have HW := Hid.mk hw
  have HR := Hid.mk hr
  clear hr hI hNm hSf hw
  have HO := Hid.mk ho
  have HN := Hid.mk hN
  clear ho hN
  go_enter Tryd.func146, Tryd.ntmps146
  go_wp2_with fail
  obtain ⟨wq, hwq⟩ : ∃ wq, wq = (((w.alloc (.cells #[.slice a0 m.fInodes.length c0, .slice a1 m.fNames.length c1, .slice a2 m.fSafe.length c2, .int .i64 m.fNext] 43)).alloc (.cells #[.slice b0 n.fInodes.length d0, .slice b1 n.fNames.length d1, .slice b2 n.fSafe.length d2, .int .i64 n.fNext] 43)).alloc (.cells #[.slice none 0 0, .slice none 0 0, .slice none 0 0, .int .i64 0] 43)) := ⟨_, rfl⟩
  have hbW : Below w.heap.size w wq := by rw [hwq]; exact Below.alloc (Below.alloc (Below.alloc (Below.refl _ _) (by exact Nat.le_refl _) _) (by simp; try omega) _) (by simp; try omega) _
  have hbd : Bw wq (w.heap.size) 43 [.slice a0 m.fInodes.length c0, .slice a1 m.fNames.length c1, .slice a2 m.fSafe.length c2, .int .i64 m.fNext] := by rw [hwq]; exact Bw.alloc (Bw.alloc (Bw.new' _ _ _ (by simp)) _) _
  have hbn : Bw wq (w.heap.size + 1) 43 [.slice b0 n.fInodes.length d0, .slice b1 n.fNames.length d1, .slice b2 n.fSafe.length d2, .int .i64 n.fNext] := by rw [hwq]; exact Bw.alloc (Bw.new' _ _ _ (by simp)) _
  have hbr : Bw wq (w.heap.size + 2) 43 [.slice none 0 0, .slice none 0 0, .slice none 0 0, .int .i64 0] := by rw [hwq]; exact Bw.new' _ _ _ (by simp)
  rw [← hwq]
  clear hwq
  have hq0 := hbW.size
  refine (implDiskOk_b [.slice b0 n.fInodes.length d0, .slice b1 n.fNames.length d1, .slice b2 n.fSafe.length d2, .int .i64 n.fNext] n wq (rDisk_good.mono (rDisk_good.below (oDisk_good.read HO.out) hbW) hbW.size) hwn).mono ?_
  rintro e w1 ⟨rfl, hx1⟩
  have hb1 := bthen hbW hx1
  have hbd1 := hbd.under hx1
  have hbn1 := hbn.under hx1
  have hbr1 := hbr.under hx1
  have hl1 := hbn1.lt
  have hl2 := hbr1.lt
  have hl3 := hbd1.lt
  clear hbd hbn hbr
  by_cases hK : diskOk n = true
  · have HV : Hid (fullD m n = n ∧ fullC n = 0) := by refine ⟨?_, ?_⟩ <;> simp [fullD, fullC, hK]
    rw [hK]
    clear hK
    have y0 := hbn1.cell 0 _ rfl
    have y1 := hbn1.cell 1 _ rfl
    have y2 := hbn1.cell 2 _ rfl
    have y3 := hbn1.cell 3 _ rfl
    have ze0 := hbr1.cell 0 _ rfl
    have ze1 := hbr1.cell 1 _ rfl
    have ze2 := hbr1.cell 2 _ rfl
    have ze3 := hbr1.cell 3 _ rfl
    have zf0 := hbr1.free 0
    have zf1 := hbr1.free 1
    have zf2 := hbr1.free 2
    have zf3 := hbr1.free 3
    have hkey : ∀ W', Turn [w.heap.size + 2] w1 W' → oDisk W' [.slice b0 n.fInodes.length d0, .slice b1 n.fNames.length d1, .slice b2 n.fSafe.length d2, .int .i64 n.fNext] n F ∧ Below w.heap.size w W' := fun W' hT => by
      have hBf : Below w.heap.size w W' := hb1.trans (hT.below (fun k hk => by simp at hk; omega) hb1.size)
      exact ⟨oDisk_good.frame HO.out (fun b hb => hBf.block b (oDisk_good.lt HO.out b hb)), hBf⟩
    have HKEY := Hid.mk hkey
    clear hkey
    go_wp2_with fail
    obtain ⟨h1, h3⟩ := HKEY.out _ (show Turn [w.heap.size + 2] w1 ((((w1.setCell ⟨w.heap.size + 2, 0, none⟩ (.slice b0 n.fInodes.length d0)).setCell ⟨w.heap.size + 2, 1, none⟩ (.slice b1 n.fNames.length d1)).setCell ⟨w.heap.size + 2, 2, none⟩ (.slice b2 n.fSafe.length d2)).setCell ⟨w.heap.size + 2, 3, none⟩ (.int .i64 n.fNext)) from turn4 _ _ _ _ _ _)
    exact bodyPost_ret (v := .tuple #[.agg #[.slice b0 n.fInodes.length d0, .slice b1 n.fNames.length d1, .slice b2 n.fSafe.length d2, .int .i64 n.fNext], .int .i64 0]) (by simp [results, Tryd.results146, go_sem, *]) rfl ⟨[.slice b0 n.fInodes.length d0, .slice b1 n.fNames.length d1, .slice b2 n.fSafe.length d2, .int .i64 n.fNext], F, by rw [HV.out.2], by rw [HV.out.1]; exact h1, HN.out, fun b hb => .inl hb, h3⟩
  · have hK2 : diskOk n = false := Bool.eq_false_iff.2 hK
    have HV : Hid (fullD m n = m ∧ fullC n = 4) := by refine ⟨?_, ?_⟩ <;> simp [fullD, fullC, hK2]
    rw [hK2]
    clear hK hK2
    have y0 := hbd1.cell 0 _ rfl
    have y1 := hbd1.cell 1 _ rfl
    have y2 := hbd1.cell 2 _ rfl
    have y3 := hbd1.cell 3 _ rfl
    go_wp2_with fail
    refine (copyDisk_any _ m w1 (rDisk_good.mono (rDisk_good.below HR.out hb1) hb1.size) HW.out).mono ?_
    rintro e w3 ⟨cs3, F3, rfl, ho3, hN3, hge3, hx3⟩
    have hb3 := bthen hb1 hx3
    have hbr3 := hbr1.under hx3
    have hl5 := hbr3.lt
    obtain ⟨q0, p0, q1, p1, q2, p2, G0, G1, G2, rfl, _, _, _, _, rfl⟩ := oDisk_cells ho3
    have hkey : ∀ W', Turn [w.heap.size + 2] w3 W' → oDisk W' [.slice q0 m.fInodes.length p0, .slice q1 m.fNames.length p1, .slice q2 m.fSafe.length p2, .int .i64 m.fNext] m (G0 ++ G1 ++ G2 ++ []) ∧ Below w.heap.size w W' := fun W' hT =>
      ⟨oDisk_good.frame ho3 (fun b hb => hT.block b (oDisk_good.lt ho3 b hb) (fun h => by simp at h; have := hge3 b hb; omega)), hb3.trans (hT.below (fun k hk => by simp at hk; omega) hb3.size)⟩
    have HKEY := Hid.mk hkey
    have HGE := Hid.mk hge3
    have HN3 := Hid.mk hN3
    clear hkey ho3 hN3 hge3 y0 y1 y2 y3
    have ze0 := hbr3.cell 0 _ rfl
    have ze1 := hbr3.cell 1 _ rfl
    have ze2 := hbr3.cell 2 _ rfl
    have ze3 := hbr3.cell 3 _ rfl
    have zf0 := hbr3.free 0
    have zf1 := hbr3.free 1
    have zf2 := hbr3.free 2
    have zf3 := hbr3.free 3
    go_wp2_with fail
    obtain ⟨h1, h3⟩ := HKEY.out _ (show Turn [w.heap.size + 2] w3 ((((w3.setCell ⟨w.heap.size + 2, 0, none⟩ (.slice q0 m.fInodes.length p0)).setCell ⟨w.heap.size + 2, 1, none⟩ (.slice q1 m.fNames.length p1)).setCell ⟨w.heap.size + 2, 2, none⟩ (.slice q2 m.fSafe.length p2)).setCell ⟨w.heap.size + 2, 3, none⟩ (.int .i64 m.fNext)) from turn4 _ _ _ _ _ _)
    exact bodyPost_ret (v := .tuple #[.agg #[.slice q0 m.fInodes.length p0, .slice q1 m.fNames.length p1, .slice q2 m.fSafe.length p2, .int .i64 m.fNext], .int .i64 4]) (by simp [results, Tryd.results146, go_sem, *]) rfl ⟨[.slice q0 m.fInodes.length p0, .slice q1 m.fNames.length p1, .slice q2 m.fSafe.length p2, .int .i64 m.fNext], _, by rw [HV.out.2], by rw [HV.out.1]; exact h1, HN3.out, fun b hb => .inr (by have := HGE.out b hb; have := hb1.size; omega), h3⟩

end Go.Proofs.YtcbhmbgmeodjdaaDoor
