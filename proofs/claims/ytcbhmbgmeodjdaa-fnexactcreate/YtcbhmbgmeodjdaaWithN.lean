/-
  The program's disk with other names.
-/
import Derived.Test.YtcbhmbgmeodjdaaEntM
import Derived.Test.YtcbhmbgmeodjdaaSyDir
namespace Go.Proofs.Ytcbhmbgmeodjdaa
open Go.RowKit Go.Maps
set_option linter.unusedVariables false
set_option linter.unusedSimpArgs false
set_option maxRecDepth 10000

set_option maxHeartbeats 4000000 in
theorem withNames_any (cs : List Value) (m : MDisk) (b nn : Nat) (Dm : DataW Unit) (N : List MEntry) (w : World) (hr : rDisk w.heap.size w cs m) (hown : w.ownsMap Try.prog 9 (plainElem Try.prog 3) b nn Dm) (hM : MapIs Dm N) (hRi : Rise N) (hNl : N.length ≤ 1000) (hw : wDisk { m with fNames := N } ≤ 1048576) :
    Calls Try.prog 49 #[.agg cs.toArray, .map (some b)] w fun e w' => ∃ (cs' : List Value) (F : List Nat), e = .returned (.agg cs'.toArray) ∧ oDisk w' cs' (keepD { m with fNames := N }) F ∧ F.Nodup ∧ (∀ x, x ∈ F → w.heap.size ≤ x) ∧ Below w.heap.size w w' := by
  have hq := hr
  obtain ⟨a0, c0, a1, c1, a2, c2, rfl, hI, hNm, hSf, hnx, _⟩ := hq
  have HW := Hid.mk hw
  have HI := Hid.mk hI
  have HSF := Hid.mk hSf
  have HM := Hid.mk hM
  have HRi := Hid.mk hRi
  have HWK : Hid (wDisk (keepD { m with fNames := N }) ≤ 1048576) := Nat.le_trans (keepD_weight _) hw
  clear hr hI hNm hSf hw hM hRi
  go_enter Try.func49, Try.ntmps49
  go_wp2_with fail
  obtain ⟨wq, hwq⟩ : ∃ wq, wq = ((w.alloc (.cells #[.slice a0 m.fInodes.length c0, .slice a1 m.fNames.length c1, .slice a2 m.fSafe.length c2, .int .i64 m.fNext] 27)).alloc (.cells #[.slice none 0 0, .slice none 0 0, .slice none 0 0, .int .i64 0] 27)) := ⟨_, rfl⟩
  have hbW : Below w.heap.size w wq := by rw [hwq]; exact Below.alloc (Below.alloc (Below.refl _ _) (by exact Nat.le_refl _) _) (by simp; try omega) _
  have hbd : Bw wq (w.heap.size) 27 [.slice a0 m.fInodes.length c0, .slice a1 m.fNames.length c1, .slice a2 m.fSafe.length c2, .int .i64 m.fNext] := by rw [hwq]; exact Bw.alloc (Bw.new' _ _ _ (by simp)) _
  have hbr : Bw wq (w.heap.size + 1) 27 [.slice none 0 0, .slice none 0 0, .slice none 0 0, .int .i64 0] := by rw [hwq]; exact Bw.new' _ _ _ (by simp)
  rw [← hwq]
  clear hwq
  have hq0 := hbW.size
  have hlr := hbr.lt
  refine (entryList_any b nn Dm N wq (ownsMap_below hown hbW) HM.out HRi.out hNl).mono ?_
  rintro e w1 ⟨an, cn, FN, rfl, hoN, hgN, hx1⟩
  have hb1 := bthen hbW hx1
  have hbd1 := hbd.under hx1
  have hbr1 := hbr.under hx1
  have hl1 := hbd1.lt
  have hl1r := hbr1.lt
  have HON := Hid.mk hoN
  have HGN := Hid.mk hgN
  have f1 := hbd1.free 1
  have y0 := hbd1.cell 0 _ rfl
  have y1 := hbd1.cell 1 _ rfl
  have y2 := hbd1.cell 2 _ rfl
  have y3 := hbd1.cell 3 _ rfl
  clear hbd hbr hoN hgN hown
  go_wp2_with fail
  obtain ⟨ws, hws⟩ : ∃ ws, ws = w1.setCell ⟨w.heap.size, 1, none⟩ (.slice an N.length cn) := ⟨_, rfl⟩
  have hTs : Turn [w.heap.size] w1 ws := by rw [hws]; exact Turn.setCell (Turn.refl _ _) (by simp) _
  have hbds : Bw ws w.heap.size 27 [.slice a0 m.fInodes.length c0, .slice an N.length cn, .slice a2 m.fSafe.length c2, .int .i64 m.fNext] := by rw [hws]; exact hbd1.put 1 _
  rw [← hws]
  clear hws y0 y1 y2 y3 f1
  have hbrs := hbr1.turn hTs (by simp)
  have hBs : Below w.heap.size w ws := hb1.trans (hTs.below (fun k hk => by simp at hk; omega) hb1.size)
  have hoNs := ownS.frame (w' := ws) oEntry_good HON.out (fun x hx => hTs.block x (ownS.lt oEntry_good HON.out x hx) (by have := HGN.out x hx; simp; omega))
  have HONS := Hid.mk hoNs
  refine (namedInodes_rowB a0 an a2 c0 cn c2 { m with fNames := N } ws w.heap.size hBs.size (HI.out.below rInode_good hBs) (ownS.leaf oEntry_good hoNs) (LeafL.mono rEntry_good (HSF.out.below rEntry_good hBs) hBs.size) (by have := HW.out; omega)).mono ?_
  rintro e w2 ⟨ak, ck, rfl, hrow, _, hx2⟩
  have HROW := Hid.mk hrow
  have hb2 := bthen hBs hx2
  have hbd2 := hbds.under hx2
  have hbr2 := hbrs.under hx2
  have hl2 := hbd2.lt
  have hl2s := hbds.lt
  have hl2r := hbrs.lt
  have y0 := hbd2.cell 0 _ rfl
  have y1 := hbd2.cell 1 _ rfl
  have y2 := hbd2.cell 2 _ rfl
  have y3 := hbd2.cell 3 _ rfl
  have f0 := hbd2.free 0
  clear hrow hoNs
  go_wp2_with fail
  obtain ⟨wt, hwt⟩ : ∃ wt, wt = w2.setCell ⟨w.heap.size, 0, none⟩ (.slice ak (keepI { m with fNames := N }).length ck) := ⟨_, rfl⟩
  have hTt : Turn [w.heap.size] w2 wt := by rw [hwt]; exact Turn.setCell (Turn.refl _ _) (by simp) _
  rw [← hwt]
  clear hwt y0 y1 y2 y3 f0
  have hbrt := hbr2.turn hTt (by simp)
  have hBt : Below w.heap.size w wt := hb2.trans (hTt.below (fun k hk => by simp at hk; omega) hb2.size)
  have hoNt := ownS.frame (w' := wt) oEntry_good HONS.out (fun x hx => (hTt.block x (Nat.lt_of_lt_of_le (ownS.lt oEntry_good HONS.out x hx) hx2.size) (by have := HGN.out x hx; simp; omega)).trans (hx2.block x (ownS.lt oEntry_good HONS.out x hx)))
  have hrk : rDisk wt.heap.size wt [.slice ak (keepI { m with fNames := N }).length ck, .slice an N.length cn, .slice a2 m.fSafe.length c2, .int .i64 m.fNext] (keepD { m with fNames := N }) := by
    obtain ⟨a', c', he, h1⟩ := (RowR.turn rInode_good HROW.out hTt (fun k hk => by simp at hk; omega) hb2.size (Nat.le_refl _)).leaf rInode_good hBt.size
    simp only [Value.slice.injEq, true_and] at he
    obtain ⟨rfl, rfl⟩ := he
    exact ⟨ak, ck, an, cn, a2, c2, rfl, h1, ownS.leaf oEntry_good hoNt, LeafL.mono rEntry_good (HSF.out.below rEntry_good hBt) hBt.size, hnx, trivial⟩
  clear hoNt
  obtain ⟨kd, hkd⟩ : ∃ kd, kd = keepD { m with fNames := N } := ⟨_, rfl⟩
  rw [← hkd] at hrk HWK
  have HKD := Hid.mk hkd
  clear hkd
  refine (copyDisk_any _ (kd) wt hrk HWK.out).mono ?_
  rintro e w3 ⟨cs3, F3, rfl, ho3, hN3, hge3, hx3⟩
  have hb3 := bthen hBt hx3
  have hbr3 := hbrt.under hx3
  have hl3 := hbr3.lt
  have hz3 := hBt.size
  have hlq3 := hbrt.lt
  obtain ⟨q0, p0, q1, p1, q2, p2, G0, G1, G2, rfl, _, _, _, _, rfl⟩ := oDisk_cells ho3
  have hkey : ∀ W', Turn [w.heap.size + 1] w3 W' → oDisk W' [.slice q0 (kd).fInodes.length p0, .slice q1 (kd).fNames.length p1, .slice q2 (kd).fSafe.length p2, .int .i64 (kd).fNext] (kd) (G0 ++ G1 ++ G2 ++ []) ∧ Below w.heap.size w W' := fun W' hT =>
    ⟨oDisk_good.frame ho3 (fun b hb => hT.block b (oDisk_good.lt ho3 b hb) (fun h => by simp at h; have := hge3 b hb; omega)), hb3.trans (hT.below (fun k hk => by simp at hk; omega) hb3.size)⟩
  have HKEY := Hid.mk hkey
  have HNQ := Hid.mk hN3
  have HGQ : Hid (∀ b, b ∈ G0 ++ G1 ++ G2 ++ [] → w.heap.size ≤ b) := fun b hb => by have := hge3 b hb; omega
  clear hkey ho3 hN3 hge3 
  have ze0 := hbr3.cell 0 _ rfl
  have ze1 := hbr3.cell 1 _ rfl
  have ze2 := hbr3.cell 2 _ rfl
  have ze3 := hbr3.cell 3 _ rfl
  have zf0 := hbr3.free 0
  have zf1 := hbr3.free 1
  have zf2 := hbr3.free 2
  have zf3 := hbr3.free 3
  go_wp2_with fail
  obtain ⟨h1, h3⟩ := HKEY.out _ (show Turn [w.heap.size + 1] w3 ((((w3.setCell ⟨w.heap.size + 1, 0, none⟩ (.slice q0 (kd).fInodes.length p0)).setCell ⟨w.heap.size + 1, 1, none⟩ (.slice q1 (kd).fNames.length p1)).setCell ⟨w.heap.size + 1, 2, none⟩ (.slice q2 (kd).fSafe.length p2)).setCell ⟨w.heap.size + 1, 3, none⟩ (.int .i64 (kd).fNext)) from turn4 _ _ _ _ _ _)
  exact bodyPost_ret (v := .agg #[.slice q0 (kd).fInodes.length p0, .slice q1 (kd).fNames.length p1, .slice q2 (kd).fSafe.length p2, .int .i64 (kd).fNext]) (by simp [results, Try.results49, go_sem, *]) rfl ⟨[.slice q0 (kd).fInodes.length p0, .slice q1 (kd).fNames.length p1, .slice q2 (kd).fSafe.length p2, .int .i64 (kd).fNext], _, rfl, by rw [← HKD.out]; exact h1, HNQ.out, HGQ.out, h3⟩

end Go.Proofs.Ytcbhmbgmeodjdaa
