/-
  The program's SyncDir.
-/
import Derived.Test.YtcbhmbgmeodjdaaDatW
import Derived.Test.YtcbhmbgmeodjdaaCopy
import Derived.Test.YtcbhmbgmeodjdaaDskQ
import Derived.Test.YtcbhmbgmeodjdaaKeep
import Derived.Test.YtcbhmbgmeodjdaaDskG
namespace Go.Proofs.Ytcbhmbgmeodjdaa
open Go.RowKit Go.Maps
set_option linter.unusedVariables false
set_option linter.unusedSimpArgs false
set_option maxRecDepth 10000

theorem rKeepR {B base : Nat} {W : World} {ak b1 b2 : Option Addr} {ck d1 d2 : Nat} {n : MDisk} (h : RowR 3 86 rInode B W base (.slice ak (keepI n).length ck) (keepI n)) (hB : B ≤ W.heap.size) (hN : LeafL 2 rEntry B W b1 d1 n.fNames) (hS : LeafL 2 rEntry B W b2 d2 n.fSafe) (hx : (Lit.int .i64 n.fNext).wf = true) :
    rDisk W.heap.size W [.slice ak (keepI n).length ck, .slice b1 n.fNames.length d1, .slice b2 n.fSafe.length d2, .int .i64 n.fNext] (keepD n) := by
  obtain ⟨a', c', he, h1⟩ := h.leaf rInode_good hB
  simp only [Value.slice.injEq, true_and] at he
  obtain ⟨rfl, rfl⟩ := he
  exact ⟨ak, ck, b1, d1, b2, d2, rfl, h1, LeafL.mono rEntry_good hN hB, LeafL.mono rEntry_good hS hB, hx, trivial⟩

set_option maxHeartbeats 4000000 in
theorem implSyncDir_c (cs : List Value) (m : MDisk) (w : World) (hr : rDisk w.heap.size w cs m) (hw : wDisk m ≤ 1048576) :
    Calls Try.prog 20 #[.agg cs.toArray] w fun e w' => ∃ (cs' : List Value) (F : List Nat), e = .returned (.tuple #[.agg cs'.toArray, .int .i64 (syncDirC m)]) ∧ oDisk w' cs' (syncDirP m) F ∧ F.Nodup ∧ (∀ b, b ∈ F → w.heap.size ≤ b) ∧ Below w.heap.size w w' := by
  have hq := hr
  obtain ⟨a0, c0, a1, c1, a2, c2, rfl, hI, hNm, hSf, hnx, _⟩ := hq
  have hw2 : m.fInodes.length + sumW wInode m.fInodes + (m.fNames.length + sumW wEntry m.fNames) + (m.fSafe.length + sumW wEntry m.fSafe) ≤ 1048576 := hw
  have HW := Hid.mk hw
  have HR := Hid.mk hr
  have HI := Hid.mk hI
  have HNM := Hid.mk hNm
  clear hr hI hNm hSf hw
  go_enter Try.func20, Try.ntmps20
  go_wp2_with fail
  obtain ⟨wq, hwq⟩ : ∃ wq, wq = ((w.alloc (.cells #[.slice a0 m.fInodes.length c0, .slice a1 m.fNames.length c1, .slice a2 m.fSafe.length c2, .int .i64 m.fNext] 27)).alloc (.cells #[.slice none 0 0, .slice none 0 0, .slice none 0 0, .int .i64 0] 27)) := ⟨_, rfl⟩
  have hbW : Below w.heap.size w wq := by rw [hwq]; exact Below.alloc (Below.alloc (Below.refl _ _) (by exact Nat.le_refl _) _) (by simp; try omega) _
  have hbd : Bw wq (w.heap.size) 27 [.slice a0 m.fInodes.length c0, .slice a1 m.fNames.length c1, .slice a2 m.fSafe.length c2, .int .i64 m.fNext] := by rw [hwq]; exact Bw.alloc (Bw.new' _ _ _ (by simp)) _
  have hbr : Bw wq (w.heap.size + 1) 27 [.slice none 0 0, .slice none 0 0, .slice none 0 0, .int .i64 0] := by rw [hwq]; exact Bw.new' _ _ _ (by simp)
  rw [← hwq]
  clear hwq
  refine (implDiskOk_c _ m wq (rDisk_good.mono (rDisk_good.below HR.out hbW) hbW.size) HW.out).mono ?_
  rintro e w1 ⟨rfl, hx1⟩
  have hb1 := bthen hbW hx1
  have hbd1 := hbd.under hx1
  have hbr1 := hbr.under hx1
  have hl1 := hbd1.lt
  have hl1r := hbr1.lt
  have y0 := hbd1.cell 0 _ rfl
  have y1 := hbd1.cell 1 _ rfl
  have y2 := hbd1.cell 2 _ rfl
  have y3 := hbd1.cell 3 _ rfl
  clear hbd hbr
  by_cases hK : diskOk m = true
  · have HV : Hid (syncDirP m = keepD { m with fSafe := m.fNames } ∧ syncDirC m = 0) := by refine ⟨?_, ?_⟩ <;> simp [syncDirP, syncDirC, hK]
    have hwt := ok_weight hK
    have hwk : wDisk { m with fSafe := m.fNames } ≤ 1048576 := by rw [wDisk_eq]; simp only; omega
    have HWK1 : Hid (wDisk { m with fSafe := m.fNames } ≤ 16777216) := by show _ ≤ _; omega
    have HWK : Hid (wDisk (keepD { m with fSafe := m.fNames }) ≤ 1048576) := Nat.le_trans (keepD_weight _) hwk
    rw [hK]
    clear hK hwt hwk
    have f2 := hbd1.free 2
    go_wp2_with fail
    obtain ⟨ws, hws⟩ : ∃ ws, ws = w1.setCell ⟨w.heap.size, 2, none⟩ (.slice a1 m.fNames.length c1) := ⟨_, rfl⟩
    have hTs : Turn [w.heap.size] w1 ws := by rw [hws]; exact Turn.setCell (Turn.refl _ _) (by simp) _
    have hbds : Bw ws w.heap.size 27 [.slice a0 m.fInodes.length c0, .slice a1 m.fNames.length c1, .slice a1 m.fNames.length c1, .int .i64 m.fNext] := by rw [hws]; exact hbd1.put 2 _
    rw [← hws]
    clear hws y0 y1 y2 y3 f2
    have hbrs := hbr1.turn hTs (by simp)
    have hBs : Below w.heap.size w ws := hb1.trans (hTs.below (fun k hk => by simp at hk; omega) hb1.size)
    refine (namedInodes_rowB a0 a1 a1 c0 c1 c1 { m with fSafe := m.fNames } ws w.heap.size hBs.size (HI.out.below rInode_good hBs) (LeafL.mono rEntry_good (HNM.out.below rEntry_good hBs) hBs.size) (LeafL.mono rEntry_good (HNM.out.below rEntry_good hBs) hBs.size) HWK1.out).mono ?_
    rintro e w2 ⟨ak, ck, rfl, hrow, _, hx2⟩
    have HROW := Hid.mk hrow
    have hb2 := bthen hBs hx2
    have hbd2 := hbds.under hx2
    have hbr2 := hbrs.under hx2
    have hl2 := hbd2.lt
    have hl2s := hbds.lt
    have hl2r := hbrs.lt
    have y0 := hbd2.cell 0 _ rfl
    have y1 := hbd2.cell 1 _ rfl
    have y2 := hbd2.cell 2 _ rfl
    have y3 := hbd2.cell 3 _ rfl
    have f0 := hbd2.free 0
    clear hrow
    go_wp2_with fail
    obtain ⟨wt, hwt⟩ : ∃ wt, wt = w2.setCell ⟨w.heap.size, 0, none⟩ (.slice ak (keepI { m with fSafe := m.fNames }).length ck) := ⟨_, rfl⟩
    have hTt : Turn [w.heap.size] w2 wt := by rw [hwt]; exact Turn.setCell (Turn.refl _ _) (by simp) _
    rw [← hwt]
    clear hwt y0 y1 y2 y3 f0
    have hbrt := hbr2.turn hTt (by simp)
    have hBt : Below w.heap.size w wt := hb2.trans (hTt.below (fun k hk => by simp at hk; omega) hb2.size)
    have hrk := rKeepR (RowR.turn rInode_good HROW.out hTt (fun k hk => by simp at hk; omega) hb2.size (Nat.le_refl _)) hBt.size (HNM.out.below rEntry_good hBt) (HNM.out.below rEntry_good hBt) hnx
    refine (copyDisk_any _ (keepD { m with fSafe := m.fNames }) wt hrk HWK.out).mono ?_
    rintro e w3 ⟨cs3, F3, rfl, ho3, hN3, hge3, hx3⟩
    have hb3 := bthen hBt hx3
    have hbr3 := hbrt.under hx3
    have hl3 := hbr3.lt
    have hz3 := hBt.size
    have hlq3 := hbrt.lt
    obtain ⟨q0, p0, q1, p1, q2, p2, G0, G1, G2, rfl, _, _, _, _, rfl⟩ := oDisk_cells ho3
    have hkey : ∀ W', Turn [w.heap.size + 1] w3 W' → oDisk W' [.slice q0 (keepD { m with fSafe := m.fNames }).fInodes.length p0, .slice q1 (keepD { m with fSafe := m.fNames }).fNames.length p1, .slice q2 (keepD { m with fSafe := m.fNames }).fSafe.length p2, .int .i64 (keepD { m with fSafe := m.fNames }).fNext] (keepD { m with fSafe := m.fNames }) (G0 ++ G1 ++ G2 ++ []) ∧ Below w.heap.size w W' := fun W' hT =>
      ⟨oDisk_good.frame ho3 (fun b hb => hT.block b (oDisk_good.lt ho3 b hb) (fun h => by simp at h; have := hge3 b hb; omega)), hb3.trans (hT.below (fun k hk => by simp at hk; omega) hb3.size)⟩
    have HKEY := Hid.mk hkey
    have HNQ := Hid.mk hN3
    have HGQ : Hid (∀ b, b ∈ G0 ++ G1 ++ G2 ++ [] → w.heap.size ≤ b) := fun b hb => by have := hge3 b hb; omega
    clear hkey ho3 hN3 hge3 
    have ze0 := hbr3.cell 0 _ rfl
    have ze1 := hbr3.cell 1 _ rfl
    have ze2 := hbr3.cell 2 _ rfl
    have ze3 := hbr3.cell 3 _ rfl
    have zf0 := hbr3.free 0
    have zf1 := hbr3.free 1
    have zf2 := hbr3.free 2
    have zf3 := hbr3.free 3
    go_wp2_with fail
    obtain ⟨h1, h3⟩ := HKEY.out _ (show Turn [w.heap.size + 1] w3 ((((w3.setCell ⟨w.heap.size + 1, 0, none⟩ (.slice q0 (keepD { m with fSafe := m.fNames }).fInodes.length p0)).setCell ⟨w.heap.size + 1, 1, none⟩ (.slice q1 (keepD { m with fSafe := m.fNames }).fNames.length p1)).setCell ⟨w.heap.size + 1, 2, none⟩ (.slice q2 (keepD { m with fSafe := m.fNames }).fSafe.length p2)).setCell ⟨w.heap.size + 1, 3, none⟩ (.int .i64 (keepD { m with fSafe := m.fNames }).fNext)) from turn4 _ _ _ _ _ _)
    exact bodyPost_ret (v := .tuple #[.agg #[.slice q0 (keepD { m with fSafe := m.fNames }).fInodes.length p0, .slice q1 (keepD { m with fSafe := m.fNames }).fNames.length p1, .slice q2 (keepD { m with fSafe := m.fNames }).fSafe.length p2, .int .i64 (keepD { m with fSafe := m.fNames }).fNext], .int .i64 0]) (by simp [results, Try.results20, go_sem, *]) rfl ⟨[.slice q0 (keepD { m with fSafe := m.fNames }).fInodes.length p0, .slice q1 (keepD { m with fSafe := m.fNames }).fNames.length p1, .slice q2 (keepD { m with fSafe := m.fNames }).fSafe.length p2, .int .i64 (keepD { m with fSafe := m.fNames }).fNext], _, by rw [HV.out.2], by rw [HV.out.1]; exact h1, HNQ.out, HGQ.out, h3⟩
  · have hK2 : diskOk m = false := Bool.eq_false_iff.2 hK
    have HV : Hid (syncDirP m = m ∧ syncDirC m = 1) := by refine ⟨?_, ?_⟩ <;> simp [syncDirP, syncDirC, hK2]
    rw [hK2]
    clear hK hK2
    go_wp2_with fail
    refine (copyDisk_any _ (m) w1 (rDisk_good.mono (rDisk_good.below HR.out hb1) hb1.size) HW.out).mono ?_
    rintro e w3 ⟨cs3, F3, rfl, ho3, hN3, hge3, hx3⟩
    have hb3 := bthen hb1 hx3
    have hbr3 := hbr1.under hx3
    have hl3 := hbr3.lt
    have hz3 := hb1.size
    have hlq3 := hbr1.lt
    obtain ⟨q0, p0, q1, p1, q2, p2, G0, G1, G2, rfl, _, _, _, _, rfl⟩ := oDisk_cells ho3
    have hkey : ∀ W', Turn [w.heap.size + 1] w3 W' → oDisk W' [.slice q0 m.fInodes.length p0, .slice q1 m.fNames.length p1, .slice q2 m.fSafe.length p2, .int .i64 m.fNext] (m) (G0 ++ G1 ++ G2 ++ []) ∧ Below w.heap.size w W' := fun W' hT =>
      ⟨oDisk_good.frame ho3 (fun b hb => hT.block b (oDisk_good.lt ho3 b hb) (fun h => by simp at h; have := hge3 b hb; omega)), hb3.trans (hT.below (fun k hk => by simp at hk; omega) hb3.size)⟩
    have HKEY := Hid.mk hkey
    have HNQ := Hid.mk hN3
    have HGQ : Hid (∀ b, b ∈ G0 ++ G1 ++ G2 ++ [] → w.heap.size ≤ b) := fun b hb => by have := hge3 b hb; omega
    clear hkey ho3 hN3 hge3 y0 y1 y2 y3
    have ze0 := hbr3.cell 0 _ rfl
    have ze1 := hbr3.cell 1 _ rfl
    have ze2 := hbr3.cell 2 _ rfl
    have ze3 := hbr3.cell 3 _ rfl
    have zf0 := hbr3.free 0
    have zf1 := hbr3.free 1
    have zf2 := hbr3.free 2
    have zf3 := hbr3.free 3
    go_wp2_with fail
    obtain ⟨h1, h3⟩ := HKEY.out _ (show Turn [w.heap.size + 1] w3 ((((w3.setCell ⟨w.heap.size + 1, 0, none⟩ (.slice q0 m.fInodes.length p0)).setCell ⟨w.heap.size + 1, 1, none⟩ (.slice q1 m.fNames.length p1)).setCell ⟨w.heap.size + 1, 2, none⟩ (.slice q2 m.fSafe.length p2)).setCell ⟨w.heap.size + 1, 3, none⟩ (.int .i64 m.fNext)) from turn4 _ _ _ _ _ _)
    exact bodyPost_ret (v := .tuple #[.agg #[.slice q0 m.fInodes.length p0, .slice q1 m.fNames.length p1, .slice q2 m.fSafe.length p2, .int .i64 m.fNext], .int .i64 1]) (by simp [results, Try.results20, go_sem, *]) rfl ⟨[.slice q0 m.fInodes.length p0, .slice q1 m.fNames.length p1, .slice q2 m.fSafe.length p2, .int .i64 m.fNext], _, by rw [HV.out.2], by rw [HV.out.1]; exact h1, HNQ.out, HGQ.out, h3⟩

end Go.Proofs.Ytcbhmbgmeodjdaa
