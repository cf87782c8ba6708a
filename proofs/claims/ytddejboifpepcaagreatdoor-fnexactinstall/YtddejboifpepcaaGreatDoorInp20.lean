/-
  Part 21 of the texts that the proof leans on.
-/
import Derived.Test.YtddejboifpepcaaGreatDoorInp18
import Derived.Test.YtddejboifpepcaaGreatDoorInp19
import Derived.Test.YtddejboifpepcaaGreatDoorInp10
import Derived.Test.YtddejboifpepcaaGreatDoorInp9
import Derived.Test.YtddejboifpepcaaGreatDoorInp3
import Derived.Test.YtddejboifpepcaaGreatDoorInp5
set_option linter.unusedVariables false
set_option linter.unusedSimpArgs false
set_option maxRecDepth 10000

namespace Go.Proofs.YtddejboifpepcaaGreatDoor
open Go.RowKit Go.Maps
set_option maxHeartbeats 4000000 in
theorem specCreate_c (cs : List Value) (m : MDisk) (s : ByteArray) (w : World) (hr : rDisk w.heap.size w cs m) (hs : s.size ≤ 9223372036854775807) (hw : wDisk m ≤ 1048576) (hw1 : s.size ≤ 1048576) :
  Calls Tryz.prog 46 #[.agg cs.toArray, .string s] w fun e w' => ∃ cs' : List Value, e = .returned (.tuple #[.agg cs'.toArray, .int .i64 (createC m s)]) ∧ rDisk w'.heap.size w' cs' (createP m s) ∧ Below w.heap.size w w' := by
 obtain ⟨iI, hiI, hzI0, hzI1, hzI2⟩ := info_parts Tryz.infoOfInode
 have hq := hr
 obtain ⟨a0, c0, a1, c1, a2, c2, rfl, hI, hNm, hSf, hnx, _⟩ := hq
 have hw2 : m.fInodes.length + sumW wInode m.fInodes + (m.fNames.length + sumW wEntry m.fNames) + (m.fSafe.length + sumW wEntry m.fSafe) ≤ 1048576 := hw
 have HW := Hid.mk hw
 have HR := Hid.mk hr
 clear hr hI hNm hSf hw
 go_enter Tryz.func46, Tryz.ntmps46
 go_wp2_with fail
 obtain ⟨wq, hwq⟩ : ∃ wq, wq = ((w.alloc (.cells #[.slice a0 m.fInodes.length c0, .slice a1 m.fNames.length c1, .slice a2 m.fSafe.length c2, .int .i64 m.fNext] 34)).alloc (.cells #[.slice none 0 0, .slice none 0 0, .slice none 0 0, .int .i64 0] 34)) := ⟨_, rfl⟩
 have hbW : Below w.heap.size w wq := by rw [hwq]; exact Below.alloc (Below.alloc (Below.refl _ _) (by exact Nat.le_refl _) _) (by simp; try omega) _
 have hbd : Bw wq (w.heap.size) 34 [.slice a0 m.fInodes.length c0, .slice a1 m.fNames.length c1, .slice a2 m.fSafe.length c2, .int .i64 m.fNext] := by rw [hwq]; exact Bw.alloc (Bw.new' _ _ _ (by simp)) _
 have hbr : Bw wq (w.heap.size + 1) 34 [.slice none 0 0, .slice none 0 0, .slice none 0 0, .int .i64 0] := by rw [hwq]; exact Bw.new' _ _ _ (by simp)
 rw [← hwq]
 clear hwq
 refine (l2Copy_any _ m wq (rDisk_good.mono (rDisk_good.below HR.out hbW) hbW.size) HW.out).mono ?_
 rintro e w1 ⟨cs2, F2, rfl, ho2, hN2, hge2, hx1⟩
 obtain ⟨d0, e0, d1, e1, d2, e2, G0, G1, G2, rfl, o0, o1, o2, _, rfl⟩ := oDisk_cells ho2
 have HO0 := Hid.mk o0
 have HO1 := Hid.mk o1
 have HO2 := Hid.mk o2
 have HO := Hid.mk ho2
 have HN := Hid.mk hN2
 have HGE : Hid (∀ b, b ∈ G0 ++ G1 ++ G2 ++ [] → wq.heap.size ≤ b) := hge2
 have HLT : Hid (∀ b, b ∈ G0 ++ G1 ++ G2 ++ [] → b < w1.heap.size) := fun b hb => oDisk_good.lt ho2 b hb
 clear ho2 hN2 hge2 o0 o1 o2
 have hb1 := bthen hbW hx1
 have hbd1 := hbd.under hx1
 have hbr1 := hbr.under hx1
 have hz1 := hx1.size
 have hzW := hbW.size
 have hl0 := hbr.lt
 obtain ⟨y0, y1, y2, y3⟩ := hbd1.c4
 have hl1 := hbd1.lt
 go_wp2_with fail
 obtain ⟨wa, hwa⟩ : ∃ wa, wa = w1.alloc (.cells #[.slice d0 m.fInodes.length e0, .slice d1 m.fNames.length e1, .slice d2 m.fSafe.length e2, .int .i64 m.fNext] 34) := ⟨_, rfl⟩
 have hba : Below w1.heap.size w1 wa := by rw [hwa]; exact (Below.refl _ _).alloc (Nat.le_refl _) _
 have hwb0 : Bw wa w1.heap.size 34 [.slice d0 m.fInodes.length e0, .slice d1 m.fNames.length e1, .slice d2 m.fSafe.length e2, .int .i64 m.fNext] := by rw [hwa]; exact Bw.new _ _ _
 rw [← hwa]
 clear hwa
 have hba1 := bthen hb1 hba
 have hbda := (hbd1.under hba)
 refine (l2Call_any _ m s wa (rDisk_good.mono (rDisk_good.below HR.out hba1) hba1.size) HW.out hs).mono ?_
 rintro e w2 ⟨rfl, hx2⟩
 have hb12 := bthen hba hx2
 have hb2 := bthen hba1 hx2
 have hwb := hwb0.under hx2
 have hbr2 := (hbr1.under hba).under hx2
 have hbd2 := hbda.under hx2
 clear hwb0 hbda hbd1 y0 y1 y2 y3
 obtain ⟨zo0, zo1, zo2, zo3⟩ := hwb.c4
 by_cases h1 : callP m s = 1
 ·have HCP : Hid (createC m s = 1) := by show _ = _; unfold createC; rw [h1]; rfl
  have HV : Hid (createP m s = m) := by show _ = _; unfold createP; rw [h1]; simp
  rw [h1]
  clear h1
  obtain ⟨ze0, zf0, ze1, zf1, ze2, zf2, ze3, zf3⟩ := hbr2.c8
  have hlt0 := hbr2.lt
  have hO3 : oDisk w2 [.slice d0 m.fInodes.length e0, .slice d1 m.fNames.length e1, .slice d2 m.fSafe.length e2, .int .i64 m.fNext] (createP m s) (G0 ++ G1 ++ G2 ++ []) := by rw [HV.out]; exact oDisk_good.frame HO.out (fun b hb => hb12.block b (HLT.out b hb))
  have hG3 : ∀ b, b ∈ G0 ++ G1 ++ G2 ++ [] → w.heap.size + 2 ≤ b := fun b hb => by have := HGE.out b hb; omega
  have HBf := Hid.mk hb2
  have HO3 := Hid.mk hO3
  clear hO3
  go_wp2_with fail
  refine bodyPost_ret (v := .tuple #[.agg #[.slice d0 m.fInodes.length e0, .slice d1 m.fNames.length e1, .slice d2 m.fSafe.length e2, .int .i64 m.fNext], .int .i64 1]) (by simp [results, Tryz.results46, go_sem, *]) rfl ⟨[.slice d0 m.fInodes.length e0, .slice d1 m.fNames.length e1, .slice d2 m.fSafe.length e2, .int .i64 m.fNext], by first | rfl | rw [HCP.out], ?_, ?_⟩
  ·exact oDisk_good.read (oDisk_good.frame HO3.out (fun b hb => (show Turn [w.heap.size + 1] w2 _ from by repeat (first | with_reducible exact Turn.refl _ _ | with_reducible refine Turn.setCell ?_ (by simp) _ | with_reducible refine Turn.alloc ?_ _ | with_reducible refine Turn.drew ?_)).block b (oDisk_good.lt HO3.out b hb) (by intro h; simp at h; have := hG3 b hb; omega)))
  ·exact HBf.out.trans ((show Turn [w.heap.size + 1] w2 _ from by repeat (first | with_reducible exact Turn.refl _ _ | with_reducible refine Turn.setCell ?_ (by simp) _ | with_reducible refine Turn.alloc ?_ _ | with_reducible refine Turn.drew ?_)).below (fun k hk => by simp at hk; omega) HBf.out.size)
 by_cases h0 : callP m s = 0
 ·have HCP : Hid (createC m s = 3) := by show _ = _; unfold createC; rw [h0]; rfl
  have HV : Hid (createP m s = m) := by show _ = _; unfold createP; rw [h0]; simp
  rw [h0]
  clear h0 h1
  obtain ⟨ze0, zf0, ze1, zf1, ze2, zf2, ze3, zf3⟩ := hbr2.c8
  have hlt0 := hbr2.lt
  have hO3 : oDisk w2 [.slice d0 m.fInodes.length e0, .slice d1 m.fNames.length e1, .slice d2 m.fSafe.length e2, .int .i64 m.fNext] (createP m s) (G0 ++ G1 ++ G2 ++ []) := by rw [HV.out]; exact oDisk_good.frame HO.out (fun b hb => hb12.block b (HLT.out b hb))
  have hG3 : ∀ b, b ∈ G0 ++ G1 ++ G2 ++ [] → w.heap.size + 2 ≤ b := fun b hb => by have := HGE.out b hb; omega
  have HBf := Hid.mk hb2
  have HO3 := Hid.mk hO3
  clear hO3
  go_wp2_with fail
  refine bodyPost_ret (v := .tuple #[.agg #[.slice d0 m.fInodes.length e0, .slice d1 m.fNames.length e1, .slice d2 m.fSafe.length e2, .int .i64 m.fNext], .int .i64 3]) (by simp [results, Tryz.results46, go_sem, *]) rfl ⟨[.slice d0 m.fInodes.length e0, .slice d1 m.fNames.length e1, .slice d2 m.fSafe.length e2, .int .i64 m.fNext], by first | rfl | rw [HCP.out], ?_, ?_⟩
  ·exact oDisk_good.read (oDisk_good.frame HO3.out (fun b hb => (show Turn [w.heap.size + 1] w2 _ from by repeat (first | with_reducible exact Turn.refl _ _ | with_reducible refine Turn.setCell ?_ (by simp) _ | with_reducible refine Turn.alloc ?_ _ | with_reducible refine Turn.drew ?_)).block b (oDisk_good.lt HO3.out b hb) (by intro h; simp at h; have := hG3 b hb; omega)))
  ·exact HBf.out.trans ((show Turn [w.heap.size + 1] w2 _ from by repeat (first | with_reducible exact Turn.refl _ _ | with_reducible refine Turn.setCell ?_ (by simp) _ | with_reducible refine Turn.alloc ?_ _ | with_reducible refine Turn.drew ?_)).below (fun k hk => by simp at hk; omega) HBf.out.size)
 have hC2 : callP m s = 2 := by
  unfold callP at h1 h0 ⊢
  by_cases ha : (diskOk m && nameOk s) = true
  ·rw [if_pos ha] at h0 ⊢
   by_cases hb : hasName m.fNames s = true
   ·rw [if_pos hb] at h0; exact absurd rfl h0
   ·rw [if_neg hb]
  ·rw [if_neg ha] at h1; exact absurd rfl h1
 obtain ⟨hgd, hNs, _⟩ := call_none hC2
 have hs12 : s.size ≤ 12 := by
  unfold nameOk at hNs
  simp at hNs
  omega
 have hDR := diskOk_iff.1 hgd
 have HRI : Hid (Rise m.fNames) := hDR.names.rise
 have hwt := create_weight (s := s) hgd hs12
 have hok := ok_weight hgd
 obtain ⟨N, hN⟩ : ∃ N, N = withE m.fNames ⟨s, m.fNext⟩ := ⟨_, rfl⟩
 obtain ⟨n, hn⟩ : ∃ n, n = createD m s := ⟨_, rfl⟩
 have HNE := Hid.mk hN
 rw [← hN, ← hn] at hwt
 have HWK : Hid (wDisk n ≤ 16777216) := by show _ ≤ _; omega
 have HNX : Hid (n.fInodes = m.fInodes ++ [newI m] ∧ n.fNames = N ∧ n.fSafe = m.fSafe ∧ n.fNext = m.fNext + 1 ∧ n.fInodes.length = m.fInodes.length + 1) := by
  rw [hn, hN]
  refine ⟨rfl, rfl, rfl, rfl, ?_⟩
  simp [createD]
 have HLL : Hid (n.fInodes.length ≤ 1048576 ∧ n.fNames.length ≤ 1048576 ∧ n.fSafe.length ≤ 1048576) := by
  rw [HNX.out.2.2.2.2, HNX.out.2.1, HNX.out.2.2.1]
  have := hwt.2.1
  refine ⟨?_, ?_, ?_⟩ <;> omega
 have HE : Hid (endsD m n = createP m s ∧ endsC n = createC m s) := by
  have hk := create_keep hC2
  rw [← hn] at hk
  refine ⟨?_, ?_⟩
  ·unfold endsD createP; rw [hk, hC2, ← hn]; simp
  ·unfold endsC createC; rw [hk, hC2, ← hn]; simp
 have hil : m.fInodes.length ≤ 1000 := by omega
 have hnn : m.fNext ≤ 1000000 := hDR.next.2
 have hnn1 : 1 ≤ m.fNext := hDR.next.1
 rw [hC2]
 clear hC2 h0 h1 hgd hNs hDR hwt hok hN hn
 have hNN := HN.out
 rw [List.append_nil, List.append_assoc, List.nodup_append] at hNN
 have HNN := Hid.mk hNN
 obtain ⟨Wx, hWx⟩ : ∃ Wx, Wx = w2.alloc (.cells #[.int .i64 m.fNext, .slice none 0 0, .int .i64 0] 94) := ⟨_, rfl⟩
 have hWs : Wx.heap.size = w2.heap.size + 1 := by rw [hWx]; simp
 have hbx0 : Below w2.heap.size w2 Wx := by rw [hWx]; exact (Below.refl _ _).alloc (Nat.le_refl _) _
 have hb1x := bthen hb12 hbx0
 have hwbx := hwb.under hbx0
 have hbx : Bx Wx w2.heap.size [.int .i64 m.fNext, .slice none 0 0, .int .i64 0] := by rw [hWx]; exact Bx.new _ _ _
 have hbdx := hbd2.under hbx0
 have hbrx := hbr2.under hbx0
 have hox := ownS.frame (w' := Wx) oInode_good HO0.out (fun b hb => hb1x.block b (HLT.out b (by simp [hb])))
 obtain ⟨xs, hxs, hpush⟩ := ownS.push oInode_good hox hNN.1
 have hg0 : ∀ k, (Value.slice d0 m.fInodes.length e0).ownBlock = some k → wq.heap.size ≤ k ∧ k < w1.heap.size ∧ k ∈ G0 := fun k hk => by
  have hkG := ownS_block hox k hk
  exact ⟨HGE.out k (by simp [hkG]), HLT.out k (by simp [hkG]), hkG⟩
 have hlw := hwb.lt
 have hld := hbd2.lt
 have hlr := hbr2.lt
 have hz12 := hb12.size
 have HAFT : Hid (∀ (v5 : Value) (w5 : World), w5.ownsRow 0 94 3 v5 (m.fInodes.length + 1) (xs ++ [.int .i64 m.fNext, .slice none 0 0, .int .i64 0]) → Wx.grownBy w5 (Value.slice d0 m.fInodes.length e0).ownBlock → (v5.ownBlock = (Value.slice d0 m.fInodes.length e0).ownBlock ∨ v5.ownBlock = some Wx.heap.size) →
   ∃ r5 q5, v5 = .slice r5 (m.fInodes.length + 1) q5 ∧ Bw w5 w1.heap.size 34 [.slice d0 m.fInodes.length e0, .slice d1 m.fNames.length e1, .slice d2 m.fSafe.length e2, .int .i64 m.fNext] ∧ Bw w5 w.heap.size 34 [.slice a0 m.fInodes.length c0, .slice a1 m.fNames.length c1, .slice a2 m.fSafe.length c2, .int .i64 m.fNext] ∧ Bw w5 (w.heap.size + 1) 34 [.slice none 0 0, .slice none 0 0, .slice none 0 0, .int .i64 0] ∧ Below w.heap.size w w5 ∧ w1.heap.size < w5.heap.size ∧
    ∃ F', ownS 3 94 oInode w5 (.slice r5 (m.fInodes.length + 1) q5) (m.fInodes ++ [newI m]) F' ∧ ownS 2 101 oEntry w5 (.slice d1 m.fNames.length e1) m.fNames G1 ∧ ownS 2 101 oEntry w5 (.slice d2 m.fSafe.length e2) m.fSafe G2 ∧ (∀ b, b ∈ F' → w.heap.size + 2 ≤ b ∧ b ≠ w1.heap.size)) := by
  intro v5 w5 hown5 hgrow5 hloc5
  obtain ⟨r5, q5, rfl⟩ := own_slice hown5
  have hT5 := turnOwn hgrow5
  have hn : ∀ b, b < wq.heap.size ∨ w1.heap.size ≤ b → b ∉ (Value.slice d0 m.fInodes.length e0).ownBlock.toList := fun b hb h => by
   have := hg0 b (by simpa using h)
   omega
  have hB5 : Below wq.heap.size Wx w5 := hT5.below (fun k hk => (hg0 k (by simpa using hk)).1) (by omega)
  obtain ⟨F', p1, p2, p3⟩ := hpush w5 (.slice r5 (m.fInodes.length + 1) q5) [.int .i64 m.fNext, .slice none 0 0, .int .i64 0] (newI m) [] hown5 hgrow5 hloc5 (newI_own hnx Wx) List.nodup_nil (fun b hb => by cases hb)
  have hwb5 := hwbx.turn hT5 (hn _ (by omega))
  have hfr : ∀ b, b ∈ G1 ++ G2 → w5.heap[b]? = w1.heap[b]? := fun b hb => by
   have hb' : b ∈ G0 ++ G1 ++ G2 ++ [] := by simp at hb ⊢; exact .inr hb
   rw [hT5.block b (by have := HLT.out b hb'; omega) (fun h => HNN.out.2.2 b (hg0 b (by simpa using h)).2.2 b hb rfl), hb1x.block b (HLT.out b hb')]
  refine ⟨r5, q5, rfl, hwb5, hbdx.turn hT5 (hn _ (by omega)), hbrx.turn hT5 (hn _ (by omega)), (bthen hb2 hbx0).trans (hB5.mono (by omega)), hwb5.lt, F', p1, ownS.frame (w' := w5) oEntry_good HO1.out (fun b hb => hfr b (by simp [hb])), ownS.frame (w' := w5) oEntry_good HO2.out (fun b hb => hfr b (by simp [hb])), ?_⟩
  intro b hb
  rcases p3 b hb with h | h | h
  ·have h1 := HGE.out b (by simp [h]); have h2 := HLT.out b (by simp [h]); omega
  ·cases h
  ·omega
 have HGF : Hid (∀ b, b ∈ G1 ++ G2 → w.heap.size + 2 ≤ b ∧ b < w1.heap.size) := fun b hb => by
  have hb' : b ∈ G0 ++ G1 ++ G2 ++ [] := by simp at hb ⊢; exact .inr hb
  have h1 := HGE.out b hb'
  have h2 := HLT.out b hb'
  omega
 obtain ⟨y0, y1, y2, y3⟩ := hbd2.c4
 clear hNN hpush hg0 hox hbx0 hWs hbd2 hbr2 hwbx hbdx hbrx hwb
 go_wp2_with (at_builtin; rw [← hWx]; refine wpList_append_own_at _ rfl _ _ 31 rfl 0 94 iI (.agg #[.int .i64 0, .slice none 0 0, .int .i64 0]) 3 40 Tryz.underlying31 hiI hzI0 hzI1 hzI2 rfl (by decide) _ _ _ rfl hxs ⟨w2.heap.size, 0, none⟩ 1 1 [.int .i64 m.fNext, .slice none 0 0, .int .i64 0] rfl rfl (bx_news hbx) (by intro u hu; simp at hu; rcases hu with rfl | rfl | rfl <;> rfl) (by unfold maxLen; omega) (by omega) (Nat.zero_le _) ?_; intro v5 w5 hown5 hgrow5 hnil5 hloc5; obtain ⟨r5, q5, rfl, hwb5, hbd5, hbr5, hb5, hl5, F5, hO5, hP5, hS5, hF5⟩ := HAFT.out v5 w5 hown5 hgrow5 hloc5; clear hown5 hgrow5 hloc5 hnil5; have hl5d := hbd5.lt; have hl5r := hbr5.lt; have x0 := hwb5.cell 0 _ rfl; have x1 := hwb5.cell 1 _ rfl; have x2 := hwb5.cell 2 _ rfl; have x3 := hwb5.cell 3 _ rfl; have f0 := hwb5.free 0; have f3 := hwb5.free 3; have z0 := hbd5.cell 0 _ rfl; have z1 := hbd5.cell 1 _ rfl; have z2 := hbd5.cell 2 _ rfl; have z3 := hbd5.cell 3 _ rfl)
 obtain ⟨wr, hwr⟩ : ∃ wr, wr = w5.setCell ⟨w1.heap.size, 0, none⟩ (.slice r5 (m.fInodes.length + 1) q5) := ⟨_, rfl⟩
 have hTr : Turn [w1.heap.size] w5 wr := by rw [hwr]; exact Turn.setCell (Turn.refl _ _) (by simp) _
 have hwbr : Bw wr w1.heap.size 34 [.slice r5 (m.fInodes.length + 1) q5, .slice d1 m.fNames.length e1, .slice d2 m.fSafe.length e2, .int .i64 m.fNext] := by rw [hwr]; exact hwb5.put 0 _
 have hfr5 : ∀ b, b ∈ G1 ++ G2 → b < w5.heap.size ∧ b ∉ [w1.heap.size] := fun b hb => by have := HGF.out b hb; simp; omega
 have hOr := ownS.frame (w' := wr) oInode_good hO5 (fun b hb => hTr.block b (ownS.lt oInode_good hO5 b hb) (by intro h; simp at h; exact (hF5 b hb).2 h))
 have hPr := ownS.frame (w' := wr) oEntry_good hP5 (fun b hb => hTr.block b (hfr5 b (by simp [hb])).1 (hfr5 b (by simp [hb])).2)
 have hSr := ownS.frame (w' := wr) oEntry_good hS5 (fun b hb => hTr.block b (hfr5 b (by simp [hb])).1 (hfr5 b (by simp [hb])).2)
 have hbdr := hbd5.turn hTr (by simp; omega)
 have hbrr := hbr5.turn hTr (by simp; omega)
 have hBr : Below w.heap.size w wr := hb5.trans (hTr.below (fun k hk => by simp at hk; omega) hb5.size)
 have hzr := hTr.size
 have HOR := Hid.mk hOr
 have HPR := Hid.mk hPr
 have HSR := Hid.mk hSr
 have HF5 := Hid.mk hF5
 rw [← hwr]
 clear hwr hTr x0 x1 x2 x3 f0 f3 z0 z1 z2 z3 hwb5 hbd5 hbr5 hO5 hP5 hS5 hfr5 hOr hPr hSr hF5 hb5
 have hcall := l2With_any d1 _ e1 m.fNames ⟨s, m.fNext⟩ wr rfl (by omega) (ownS.leaf oEntry_good HPR.out) HRI.out hs hnx
 rw [← HNE.out] at hcall
 refine hcall.mono ?_
 clear hcall
 rintro e w6 ⟨r6, q6, F6, rfl, ho6, hg6, hx6⟩
 have HO6 := Hid.mk ho6
 have HGS := Hid.mk hg6
 clear ho6 hg6
 have hwb6 := hwbr.under hx6
 have hbd6 := hbdr.under hx6
 have hbr6 := hbrr.under hx6
 have hB6 := bthen hBr hx6
 have hl6 := hwb6.lt
 have hl6d := hbd6.lt
 have hz6 := hx6.size
 have g1 := hwb6.free 1
 have g3 := hwb6.free 3
 obtain ⟨zd0, zd1, zd2, zd3⟩ := hwb6.c4
 obtain ⟨yd0, yd1, yd2, yd3⟩ := hbd6.c4
 go_wp2_with fail
 obtain ⟨ws, hws⟩ : ∃ ws, ws = (w6.setCell ⟨w1.heap.size, 1, none⟩ (.slice r6 N.length q6)).setCell ⟨w1.heap.size, 3, none⟩ (.int .i64 (m.fNext + 1)) := ⟨_, rfl⟩
 have hTs : Turn [w1.heap.size] w6 ws := by rw [hws]; exact Turn.setCell (Turn.setCell (Turn.refl _ _) (by simp) _) (by simp) _
 have hbrs := hbr6.turn hTs (by simp; omega)
 have hBs : Below w.heap.size w ws := hB6.trans (hTs.below (fun k hk => by simp at hk; omega) hB6.size)
 have hne : ∀ b, b < wr.heap.size → b ≠ w1.heap.size → ws.heap[b]? = wr.heap[b]? := fun b hb h1 => by
  rw [hTs.block b (by omega) (by simpa using h1), hx6.block b hb]
 have t0 := ownS.frame (w' := ws) oInode_good HOR.out (fun b hb => hne b (ownS.lt oInode_good HOR.out b hb) (HF5.out b hb).2)
 have t2 := ownS.frame (w' := ws) oEntry_good HSR.out (fun b hb => hne b (ownS.lt oEntry_good HSR.out b hb) (by have := HGF.out b (by simp [hb]); omega))
 have t1 := ownS.frame (w' := ws) oEntry_good HO6.out (fun b hb => hTs.block b (ownS.lt oEntry_good HO6.out b hb) (by intro h; simp at h; have := HGS.out b hb; omega))
 have HSUB : Hid (∀ b, b ∈ F5 ++ F6 ++ G2 → w.heap.size + 2 ≤ b) := by
  intro b hb
  rw [List.mem_append, List.mem_append] at hb
  rcases hb with (hb | hb) | hb
  ·exact (HF5.out b hb).1
  ·have := HGS.out b hb; omega
  ·exact (HGF.out b (by simp [hb])).1
 have HBS := Hid.mk hBs
 rw [← hws]
 clear hws hTs zd0 zd1 zd2 zd3 yd0 yd1 yd2 yd3 g1 g3 hne
 have hcon := l2Ends_any _ r5 r6 d2 q5 q6 e2 m n F5 F6 G2 ws (rDisk_good.mono (rDisk_good.below HR.out HBS.out) HBS.out.size) HW.out (by rw [HNX.out.2.2.2.2, HNX.out.1]; exact t0) (by rw [HNX.out.2.1]; exact t1) (by rw [HNX.out.2.2.1]; exact t2) (by rw [HNX.out.2.2.2.1]; exact WalkArith.wf_i64 (by omega)) HWK.out HLL.out
 rw [HNX.out.2.2.2.2, HNX.out.2.1, HNX.out.2.2.1, HNX.out.2.2.2.1] at hcon
 clear t0 t1 t2
 refine hcon.mono ?_
 clear hcon
 rintro e w7 ⟨cs4, F4, rfl, ho4, hF4, hx7⟩
 have hb7 := bthen HBS.out hx7
 have hbr7 := hbrs.under hx7
 have hl7 := hbr7.lt
 have hzE := HBS.out.size
 have hlE := hbrs.lt
 rw [HE.out.1] at ho4
 obtain ⟨q0, p0, q1, p1, q2, p2, E0, E1, E2, rfl, _, _, _, _, rfl⟩ := oDisk_cells ho4
 have hkey : ∀ W', Turn [w.heap.size + 1] w7 W' → rDisk W'.heap.size W' [.slice q0 (createP m s).fInodes.length p0, .slice q1 (createP m s).fNames.length p1, .slice q2 (createP m s).fSafe.length p2, .int .i64 (createP m s).fNext] (createP m s) ∧ Below w.heap.size w W' := fun W' hT =>
  ⟨oDisk_good.read (oDisk_good.frame ho4 (fun b hb => hT.block b (oDisk_good.lt ho4 b hb) (fun h => by simp at h; rcases hF4 b hb with h2 | h2; (have := HSUB.out b h2; omega); omega))), hb7.trans (hT.below (fun k hk => by simp at hk; omega) hb7.size)⟩
 have HKEY := Hid.mk hkey
 clear hkey ho4 hF4
 obtain ⟨ze0, ze1, ze2, ze3⟩ := hbr7.c4
 obtain ⟨zf0, zf1, zf2, zf3⟩ := hbr7.f4
 have HEC : Hid (endsC n = createC m s) := HE.out.2
 rw [HEC.out]
 go_wp2_with fail
 obtain ⟨h1, h3⟩ := HKEY.out _ (show Turn [w.heap.size + 1] w7 ((((w7.setCell ⟨w.heap.size + 1, 0, none⟩ (.slice q0 (createP m s).fInodes.length p0)).setCell ⟨w.heap.size + 1, 1, none⟩ (.slice q1 (createP m s).fNames.length p1)).setCell ⟨w.heap.size + 1, 2, none⟩ (.slice q2 (createP m s).fSafe.length p2)).setCell ⟨w.heap.size + 1, 3, none⟩ (.int .i64 (createP m s).fNext)) from turn4 _ _ _ _ _ _)
 exact bodyPost_ret (v := .tuple #[.agg #[.slice q0 (createP m s).fInodes.length p0, .slice q1 (createP m s).fNames.length p1, .slice q2 (createP m s).fSafe.length p2, .int .i64 (createP m s).fNext], .int .i64 (createC m s)]) (by simp [results, Tryz.results46, go_sem, *]) rfl ⟨[.slice q0 (createP m s).fInodes.length p0, .slice q1 (createP m s).fNames.length p1, .slice q2 (createP m s).fSafe.length p2, .int .i64 (createP m s).fNext], rfl, h1, h3⟩
abbrev qa95_65_5_0 : Oper := ⟨some 20, .load 34 (.tmp 8), 34, "l02_files.go:165", #[], none⟩
abbrev qa95_65_5_1 : Oper := ⟨some 21, .fieldAddr 34 (.tmp 8) 1, 0, "l02_files.go:165", #[], none⟩
abbrev qa95_65_5_2 : Oper := ⟨some 22, .load 32 (.tmp 21), 32, "l02_files.go:165", #[⟨1, .data⟩], none⟩
abbrev qa95_65_5_3 : Oper := ⟨some 23, .fieldAddr 34 (.tmp 8) 1, 0, "l02_files.go:165", #[], none⟩
abbrev qa95_65_5_4 : Oper := ⟨some 24, .load 32 (.tmp 23), 32, "l02_files.go:165", #[⟨3, .data⟩], none⟩
abbrev qa95_65_5_5 : Oper := ⟨some 25, .move (.tmp 1), 9, "l02_files.go:165", #[], none⟩
abbrev qa95_65_5_6 : Oper := ⟨some 26, .call { callee := .value (.func 63), args := #[.tmp 24, .tmp 25], argTypes := #[32, 9] }, 3, "l02_files.go:165", #[⟨4, .data⟩, ⟨5, .data⟩], none⟩
abbrev qa95_65_5_7 : Oper := ⟨some 27, .indexAddr 32 (.tmp 22) (.tmp 26), 0, "l02_files.go:165", #[⟨2, .data⟩, ⟨6, .data⟩], none⟩
abbrev qa95_65_5_8 : Oper := ⟨some 28, .fieldAddr 101 (.tmp 27) 1, 0, "l02_files.go:165", #[⟨7, .data⟩], none⟩
abbrev qa95_65_5_9 : Oper := ⟨some 29, .load 3 (.tmp 28), 3, "l02_files.go:165", #[⟨8, .data⟩], none⟩
abbrev qa95_65_5_10 : Oper := ⟨some 30, .call { callee := .value (.func 108), args := #[.tmp 20, .tmp 29], argTypes := #[34, 3] }, 3, "l02_files.go:165", #[⟨0, .data⟩, ⟨9, .data⟩, ⟨6, .chain⟩], none⟩
abbrev qa95_65_5_11 : Oper := ⟨some 10, .assign (.tmp 30), 3, "l02_files.go:165", #[⟨10, .data⟩, ⟨10, .chain⟩, ⟨0, .phase⟩, ⟨1, .phase⟩, ⟨2, .phase⟩, ⟨3, .phase⟩, ⟨4, .phase⟩, ⟨5, .phase⟩, ⟨6, .phase⟩, ⟨7, .phase⟩, ⟨8, .phase⟩, ⟨9, .phase⟩, ⟨10, .phase⟩], none⟩
abbrev qa95_65_6_0 : Oper := ⟨some 31, .fieldAddr 34 (.tmp 8) 0, 0, "l02_files.go:166", #[], none⟩
abbrev qa95_65_6_1 : Oper := ⟨some 32, .load 31 (.tmp 31), 31, "l02_files.go:166", #[⟨0, .data⟩], none⟩
abbrev qa95_65_6_2 : Oper := ⟨some 33, .move (.tmp 10), 3, "l02_files.go:166", #[], none⟩
abbrev qa95_65_6_3 : Oper := ⟨some 34, .fieldAddr 34 (.tmp 8) 0, 0, "l02_files.go:166", #[], none⟩
abbrev qa95_65_6_4 : Oper := ⟨some 35, .load 31 (.tmp 34), 31, "l02_files.go:166", #[⟨3, .data⟩], none⟩
abbrev qa95_65_6_5 : Oper := ⟨some 36, .move (.tmp 10), 3, "l02_files.go:166", #[], none⟩
abbrev qa95_65_6_6 : Oper := ⟨some 37, .indexAddr 31 (.tmp 35) (.tmp 36), 0, "l02_files.go:166", #[⟨4, .data⟩, ⟨5, .data⟩], none⟩
abbrev qa95_65_6_7 : Oper := ⟨some 38, .fieldAddr 94 (.tmp 37) 1, 0, "l02_files.go:166", #[⟨6, .data⟩], none⟩
abbrev qa95_65_6_9 : Oper := ⟨some 40, .move (.tmp 2), 63, "l02_files.go:166", #[], none⟩
abbrev qa95_65_6_8 : Oper := ⟨some 39, .load 63 (.tmp 38), 63, "l02_files.go:166", #[⟨7, .data⟩], none⟩
abbrev qa95_65_6_10 : Oper := ⟨some 41, .call { callee := .builtin .append, args := #[.tmp 39, .tmp 40], argTypes := #[63, 63] }, 63, "l02_files.go:166", #[⟨8, .data⟩, ⟨9, .data⟩], none⟩
abbrev qa95_65_6_11 : Oper := ⟨some 42, .indexAddr 31 (.tmp 32) (.tmp 33), 0, "l02_files.go:166", #[⟨1, .data⟩, ⟨2, .data⟩, ⟨0, .phase⟩, ⟨1, .phase⟩, ⟨2, .phase⟩, ⟨3, .phase⟩, ⟨4, .phase⟩, ⟨5, .phase⟩, ⟨6, .phase⟩, ⟨7, .phase⟩, ⟨8, .phase⟩, ⟨9, .phase⟩, ⟨10, .phase⟩], none⟩
abbrev qa95_65_6_12 : Oper := ⟨some 43, .fieldAddr 94 (.tmp 42) 1, 0, "l02_files.go:166", #[⟨11, .data⟩, ⟨0, .phase⟩, ⟨1, .phase⟩, ⟨2, .phase⟩, ⟨3, .phase⟩, ⟨4, .phase⟩, ⟨5, .phase⟩, ⟨6, .phase⟩, ⟨7, .phase⟩, ⟨8, .phase⟩, ⟨9, .phase⟩, ⟨10, .phase⟩], none⟩
abbrev qa95_65_6_13 : Oper := ⟨none, .store 63 (.tmp 43) (.tmp 41), 0, "l02_files.go:166", #[⟨12, .data⟩, ⟨10, .data⟩, ⟨10, .chain⟩, ⟨0, .phase⟩, ⟨1, .phase⟩, ⟨2, .phase⟩, ⟨3, .phase⟩, ⟨4, .phase⟩, ⟨5, .phase⟩, ⟨6, .phase⟩, ⟨7, .phase⟩, ⟨8, .phase⟩, ⟨9, .phase⟩, ⟨10, .phase⟩], none⟩
set_option maxHeartbeats 4000000 in
theorem specAppend_o (cs : List Value) (m : MDisk) (s : ByteArray) (vb : Value) (zb : List Int) (w : World) (hr : rDisk w.heap.size w cs m) (hs : s.size ≤ 9223372036854775807) (hrb : rdB w.heap.size w vb zb) (hw : wDisk m ≤ 1048576) (hw1 : s.size ≤ 1048576) (hwb : zb.length ≤ 2097152) :
  Calls Tryz.prog 65 #[.agg cs.toArray, .string s, vb] w fun e w' => ∃ (cs' : List Value) (F : List Nat), e = .returned (.tuple #[.agg cs'.toArray, .int .i64 (appendC m s zb)]) ∧ oDisk w' cs' (appendP m s zb) F ∧ (∀ b, b ∈ F → w.heap.size ≤ b) ∧ Below w.heap.size w w' := by
 obtain ⟨ab, cb, rfl, hlb⟩ := hrb
 have HLB := Hid.mk hlb
 clear hlb
 obtain ⟨iB, hiB, hzB0, hzB1, hzB2⟩ := info_parts Tryz.info5
 have hq := hr
 obtain ⟨a0, c0, a1, c1, a2, c2, rfl, hI, hNm, hSf, hnx, _⟩ := hq
 have hw2 : m.fInodes.length + sumW wInode m.fInodes + (m.fNames.length + sumW wEntry m.fNames) + (m.fSafe.length + sumW wEntry m.fSafe) ≤ 1048576 := hw
 have HW := Hid.mk hw
 have HR := Hid.mk hr
 clear hr hI hNm hSf hw
 go_enter Tryz.func65, Tryz.ntmps65
 go_wp2_with fail
 obtain ⟨wq, hwq⟩ : ∃ wq, wq = ((w.alloc (.cells #[.slice a0 m.fInodes.length c0, .slice a1 m.fNames.length c1, .slice a2 m.fSafe.length c2, .int .i64 m.fNext] 34)).alloc (.cells #[.slice none 0 0, .slice none 0 0, .slice none 0 0, .int .i64 0] 34)) := ⟨_, rfl⟩
 have hbW : Below w.heap.size w wq := by rw [hwq]; exact Below.alloc (Below.alloc (Below.refl _ _) (by exact Nat.le_refl _) _) (by simp; try omega) _
 have hbd : Bw wq (w.heap.size) 34 [.slice a0 m.fInodes.length c0, .slice a1 m.fNames.length c1, .slice a2 m.fSafe.length c2, .int .i64 m.fNext] := by rw [hwq]; exact Bw.alloc (Bw.new' _ _ _ (by simp)) _
 have hbr : Bw wq (w.heap.size + 1) 34 [.slice none 0 0, .slice none 0 0, .slice none 0 0, .int .i64 0] := by rw [hwq]; exact Bw.new' _ _ _ (by simp)
 rw [← hwq]
 clear hwq
 refine (l2Copy_any _ m wq (rDisk_good.mono (rDisk_good.below HR.out hbW) hbW.size) HW.out).mono ?_
 rintro e w1 ⟨cs2, F2, rfl, ho2, hN2, hge2, hx1⟩
 obtain ⟨d0, e0, d1, e1, d2, e2, G0, G1, G2, rfl, o0, o1, o2, _, rfl⟩ := oDisk_cells ho2
 have HO0 := Hid.mk o0
 have HO1 := Hid.mk o1
 have HO2 := Hid.mk o2
 have HO := Hid.mk ho2
 have HN := Hid.mk hN2
 have HGE : Hid (∀ b, b ∈ G0 ++ G1 ++ G2 ++ [] → wq.heap.size ≤ b) := hge2
 have HLT : Hid (∀ b, b ∈ G0 ++ G1 ++ G2 ++ [] → b < w1.heap.size) := fun b hb => oDisk_good.lt ho2 b hb
 clear ho2 hN2 hge2 o0 o1 o2
 have hb1 := bthen hbW hx1
 have hbd1 := hbd.under hx1
 have hbr1 := hbr.under hx1
 have hz1 := hx1.size
 have hzW := hbW.size
 have hl0 := hbr.lt
 obtain ⟨y0, y1, y2, y3⟩ := hbd1.c4
 have hl1 := hbd1.lt
 go_wp2_with fail
 obtain ⟨wa, hwa⟩ : ∃ wa, wa = w1.alloc (.cells #[.slice d0 m.fInodes.length e0, .slice d1 m.fNames.length e1, .slice d2 m.fSafe.length e2, .int .i64 m.fNext] 34) := ⟨_, rfl⟩
 have hba : Below w1.heap.size w1 wa := by rw [hwa]; exact (Below.refl _ _).alloc (Nat.le_refl _) _
 have hwb0 : Bw wa w1.heap.size 34 [.slice d0 m.fInodes.length e0, .slice d1 m.fNames.length e1, .slice d2 m.fSafe.length e2, .int .i64 m.fNext] := by rw [hwa]; exact Bw.new _ _ _
 rw [← hwa]
 clear hwa
 have hba1 := bthen hb1 hba
 have hbda := (hbd1.under hba)
 refine (l2Call_any _ m s wa (rDisk_good.mono (rDisk_good.below HR.out hba1) hba1.size) HW.out hs).mono ?_
 rintro e w2 ⟨rfl, hx2⟩
 have hb12 := bthen hba hx2
 have hb2 := bthen hba1 hx2
 have hwb := hwb0.under hx2
 have hbr2 := (hbr1.under hba).under hx2
 have hbd2 := hbda.under hx2
 clear hwb0 hbda hbd1 y0 y1 y2 y3
 by_cases hC : callP m s = 0
 ·have hwt := ok_weight (call_good hC).1
  obtain ⟨n, hn⟩ : ∃ n, n = appendD m s zb := ⟨_, rfl⟩
  have hnl : n.fInodes.length = m.fInodes.length := by rw [hn]; exact updI_length
  have hwn : wDisk n ≤ 16777216 := by
   rw [hn]
   unfold appendD
   rw [wDisk_eq]
   have h1 := sumW_updI (l := m.fInodes) (k := fileAt m s) (f := longI zb) (c := zb.length) (fun x => by unfold longI wInode; simp)
   have h2 := updI_length (l := m.fInodes) (k := fileAt m s) (f := longI zb)
   simp only [h2]
   omega
  have hke : keepD n = n := by rw [hn]; exact append_keep hC
  have HE : Hid (endsD m n = appendP m s zb ∧ endsC n = appendC m s zb) := by
   refine ⟨?_, ?_⟩
   ·unfold endsD appendP; rw [hke, hn, hC]; simp
   ·unfold endsC appendC; rw [hke, hn, hC]; simp
  have HNX0 : Hid (n = appendD m s zb) := hn
  have HNX : Hid (n.fInodes = updI m.fInodes (fileAt m s) (longI zb) ∧ n.fNames = m.fNames ∧ n.fSafe = m.fSafe ∧ n.fNext = m.fNext) := by rw [hn]; exact ⟨rfl, rfl, rfl, rfl⟩
  have HNL := Hid.mk hnl
  have HWN := Hid.mk hwn
  have HWT := Hid.mk hwt
  obtain ⟨ac, hac⟩ : ∃ ac, appendC m s zb = ac := ⟨_, rfl⟩
  have HV : Hid (appendC m s zb = ac) := hac
  have HEC0 : Hid (endsC n = ac) := HE.out.2.trans hac
  clear hn hnl hwn hke hwt hac
  rw [hC]
  have hgd := call_good hC
  obtain ⟨hk, hid, hhas⟩ := file_there hgd.1 hgd.2.2
  obtain ⟨hpl0, hpi⟩ := hasId_at hhas
  have hnz : nameZ m.fNames s = (nameAt m.fNames s : Int) := by unfold nameZ; rw [hgd.2.2, if_pos rfl]
  have hpz : placeZ m.fInodes (idOf m.fNames s) = (placeOf m.fInodes (idOf m.fNames s) : Int) := by unfold placeZ; rw [hhas, if_pos rfl]
  have hfrm : ∀ W', Below w2.heap.size w2 W' → oDisk W' [.slice d0 m.fInodes.length e0, .slice d1 m.fNames.length e1, .slice d2 m.fSafe.length e2, .int .i64 m.fNext] m (G0 ++ G1 ++ G2 ++ []) := fun W' hb => oDisk_good.frame HO.out (fun b hbF => (bthen hb12 hb).block b (HLT.out b hbF))
  have hlfn : ∀ W', Below w2.heap.size w2 W' → LeafL 2 rEntry W'.heap.size W' d1 e1 m.fNames := fun W' hb => ownS.leaf oEntry_good (ownS.frame oEntry_good HO1.out (fun b hbF => (bthen hb12 hb).block b (HLT.out b (by simp [hbF]))))
  obtain ⟨b1, o1, rfl, hB1, cs1, hcl1, hcell1, rfl, hrest1⟩ := (hlfn _ (Below.refl _ _)).2.2 (nameAt m.fNames s) hk
  have k1e := hcell1 1 _ rfl
  rw [← hid] at k1e
  have q1 : ∀ W', Below w2.heap.size w2 W' → W'.cell? ⟨b1, o1 + nameAt m.fNames s * 2 + 1, none⟩ = some (.int .i64 (idOf m.fNames s)) := fun W' hb => (hb.cell (p := ⟨b1, o1 + nameAt m.fNames s * 2 + 1, none⟩) hB1).trans k1e
  have hCt := fun W' (hb : Below w2.heap.size w2 W') => l2At_any (some ⟨b1, o1, none⟩) _ e1 m.fNames s W' W'.heap.size rfl (by omega) (hlfn W' hb).2.2
  have hCi := fun W' (hb : Below w2.heap.size w2 W') => l2Inode_any _ m (idOf m.fNames s) W' (oDisk_good.read (hfrm W' hb)) (by omega)
  simp only [hnz] at hCt
  simp only [hpz] at hCi
  obtain ⟨p, hpv⟩ : ∃ p, p = placeOf m.fInodes (idOf m.fNames s) := ⟨_, rfl⟩
  have HPV : Hid (p = fileAt m s) := hpv
  rw [← hpv] at hCi hpl0
  have hpl : p < m.fInodes.length := hpl0
  have hu1 : (0 : Int) ≤ (nameAt m.fNames s : Int) := by omega
  have hu2 : (nameAt m.fNames s : Int) < (m.fNames.length : Int) := by omega
  have po0 : ∀ W', Below w2.heap.size w2 W' → W'.cell? ⟨w1.heap.size, 0, none⟩ = some (.slice d0 m.fInodes.length e0) := fun W' hb => (hwb.under hb).cell 0 _ rfl
  have po1 : ∀ W', Below w2.heap.size w2 W' → W'.cell? ⟨w1.heap.size, 1, none⟩ = some (.slice (some ⟨b1, o1, none⟩) m.fNames.length e1) := fun W' hb => (hwb.under hb).cell 1 _ rfl
  have po2 : ∀ W', Below w2.heap.size w2 W' → W'.cell? ⟨w1.heap.size, 2, none⟩ = some (.slice d2 m.fSafe.length e2) := fun W' hb => (hwb.under hb).cell 2 _ rfl
  have po3 : ∀ W', Below w2.heap.size w2 W' → W'.cell? ⟨w1.heap.size, 3, none⟩ = some (.int .i64 m.fNext) := fun W' hb => (hwb.under hb).cell 3 _ rfl
  clear hfrm hlfn hcell1 hcl1 k1e hrest1 hid hhas hpi hnz hpz hpl0 hgd
  have HCz := Hid.mk hC
  have HKn := Hid.mk hk
  clear hpv hC hk
  generalize nameAt m.fNames s = na at *
  generalize idOf m.fNames s = idn at *
  go_wp2_with fail
  refine wp_region_held_drew (S := fun W' => Below w2.heap.size w2 W') (by kernel_rfl) (Below.drew (Below.refl _ _)) (fun hHeld => ?_)
  refine uq 0 qa95_65_5_0 20 hHeld ?_
  refine uq 1 qa95_65_5_1 21 hHeld ?_
  refine uq 2 qa95_65_5_2 22 hHeld ?_
  refine uq 3 qa95_65_5_3 23 hHeld ?_
  refine uq 4 qa95_65_5_4 24 hHeld ?_
  refine uq 5 qa95_65_5_5 25 hHeld ?_
  refine ar1 6 qa95_65_5_6 fun K hK => ?_
  go_simp
  refine Calls.mono (hCt _ hHeld) ?_
  rintro e wy1 ⟨rfl, hw1⟩
  have hy1 := below_same hw1
  clear hw1
  go_wp2_with fail
  refine hK.out _ _ (bthen hHeld hy1) (fun hHeld => ?_)
  clear hK K
  try simp only[Act.put,sa,s0,s1]
  refine uq 7 qa95_65_5_7 27 hHeld ?_
  refine uq 8 qa95_65_5_8 28 hHeld ?_
  refine uq 9 qa95_65_5_9 29 hHeld ?_
  refine ar1 10 qa95_65_5_10 fun K hK => ?_
  go_simp
  refine Calls.mono (hCi _ hHeld) ?_
  rintro e wy2 ⟨rfl, hy2⟩
  go_wp2_with fail
  refine hK.out _ _ (bthen hHeld hy2) (fun hHeld => ?_)
  clear hK K
  try simp only[Act.put,sa,s0,s1]
  refine uq 11 qa95_65_5_11 10 hHeld ?_
  refine wpAnyH_done (by kernel_rfl) ?_ _
  obtain ⟨wo, hwo⟩ : ∃ wo, wo = wy2 := ⟨_, rfl⟩
  rw [← hwo] at hHeld ⊢
  clear hwo hCt hCi po0 po1 po2 po3 q1
  have hbo := bthen hb12 hHeld
  have hHeldo := hHeld
  have hwbo := hwb.under hHeld
  have HPV2 := HPV
  have hb1o := hbo
  have hBo : Below w.heap.size w wo := bthen hb1 hbo
  clear hb12
  obtain ⟨g, cap, hv, hgG, hgl⟩ := ownS.shape HO0.out (by omega)
  simp only [Value.slice.injEq, true_and] at hv
  obtain ⟨rfl, rfl⟩ := hv
  have hNN := HN.out
  rw [List.append_nil, List.append_assoc, List.nodup_append] at hNN
  obtain ⟨cs3, Fk, o3, n3, f3, _, c3, z3, hput⟩ := ownS.split oInode_good HO0.out hNN.1 hpl
  have HNN := Hid.mk hNN
  have HPUT := Hid.mk hput
  have HFK := Hid.mk f3
  have HNK := Hid.mk n3
  obtain ⟨v3, F3, hc3, i3, b3, s3, hF3⟩ := o3
  subst hc3
  obtain ⟨a3, l3, rfl, hlb3⟩ := b3.read
  have k1 := c3 1 _ rfl
  have r1 := z3 (p * 3 + 1)
  have hge1 := HGE.out g (by simp [hgG])
  have hdl : m.fInodes[p].fData.length ≤ 1048576 := by have h1 := sumW_le (f := wInode) hpl; have h2 : wInode m.fInodes[p] = m.fInodes[p].fData.length := rfl; omega
  have hpn : (0 : Int) ≤ (p : Int) := by omega
  have hpn2 : (p : Int) < (m.fInodes.length : Int) := by omega
  obtain ⟨nd, hnd⟩ : ∃ nd, nd = m.fInodes[p] := ⟨_, rfl⟩
  have HND := Hid.mk hnd
  rw [← hnd] at k1 hdl b3 i3 s3 hlb3 HPUT
  have HB3 := Hid.mk b3
  have HLB3 := Hid.mk hlb3
  have HI3 := Hid.mk i3
  have HS3 := Hid.mk s3
  clear c3 z3 hNN hput f3 n3 b3 hlb3 i3 s3 hnd
  have HPL := Hid.mk hpl
  clear hwb
  have k1o := (hbo.cell (p := ⟨g, p * 3 + 1, none⟩) hgl).trans k1
  have r1o := (hbo.frozen (p := ⟨g, p * 3 + 1, none⟩) hgl).trans r1
  have x0 := hwbo.cell 0 _ rfl
  have hfk : Fk = (Value.ownBlock (.slice a3 nd.fData.length l3)).toList := by rw [hF3, List.append_nil]; exact HB3.out.2.2
  have hzo := hbo.size
  have hownD : wo.ownsRow 0 5 1 (.slice a3 nd.fData.length l3) nd.fData.length (nd.fData.map (Value.int .u8)) := (HB3.out.frame (fun b hb => hbo.block b (HLT.out b (by have h := (HFK.out b (by rw [hF3]; simpa using hb)).1; simp [h])))).1
  have hrdB : Rd .u8 w.heap.size wo ab zb := (HLB.out.below hBo).2.2.1
  have HOD := Hid.mk hownD
  have HRB := Hid.mk hrdB
  have HFE := Hid.mk hfk
  have hgk : g ∉ Fk := fun h => (HFK.out g h).2 rfl
  have hok : w1.heap.size ∉ g :: Fk := by
   intro h
   rcases List.mem_cons.1 h with h | h
   ·omega
   ·have h2 := HLT.out _ (show w1.heap.size ∈ G0 ++ G1 ++ G2 ++ [] by have h3 := (HFK.out _ h).1; simp [h3]); omega
  have HG1 : Hid (g ≠ w1.heap.size) := by show _ ≠ _; omega
  clear k1 r1 hownD hrdB hfk
  go_wp2_with fail
  refine wp_region_held_drew (S := fun W => W.cell? ⟨w1.heap.size, 0, none⟩ = some (.slice (some ⟨g, 0, none⟩) m.fInodes.length e0) ∧ Turn (g :: Fk) wo W) (by kernel_rfl) (⟨x0, Turn.ofBelow (Below.drew (Below.refl _ _))⟩) (fun hHeld => ?_)
  refine uq 0 qa95_65_6_0 31 hHeld ?_
  refine uq 1 qa95_65_6_1 32 hHeld ?_
  refine uq 2 qa95_65_6_2 33 hHeld ?_
  refine uq 3 qa95_65_6_3 34 hHeld ?_
  refine uq 4 qa95_65_6_4 35 hHeld ?_
  refine uq 5 qa95_65_6_5 36 hHeld ?_
  refine uq 6 qa95_65_6_6 37 hHeld ?_
  refine uq 7 qa95_65_6_7 38 hHeld ?_
  refine uq 9 qa95_65_6_9 40 hHeld ?_
  refine ar1 8 qa95_65_6_8 fun K hK => ?_
  go_simp
  skip
  refine hK.out _ _ (⟨x0, Turn.ofBelow (Below.drew (Below.refl _ _))⟩) (fun hHeld => ?_)
  clear hK K
  try simp only[Act.put,sa,s0,s1]
  refine ar1 10 qa95_65_6_10 fun K hK => ?_
  refine step_append_src wo.drew rfl _ _ 63 63 rfl 0 5 iB (.int .u8 0) 1 1 Tryz.underlying63 hiB hzB0 hzB1 hzB2 rfl (.slice a3 nd.fData.length l3) nd.fData.length (nd.fData.map (Value.int .u8)) rfl HOD.out (.slice ab zb.length cb) rfl zb.length (zb.map (Value.int .u8)) (Src.rd Tryz.underlying63 rfl (B := w.heap.size) HRB.out) (by unfold maxLen; omega) (by omega) (Nat.zero_le _) ?_
  intro v9 w9 hw9 hgr9 hat9
  obtain ⟨r9, q9, rfl⟩ := own_slice hw9
  obtain ⟨tl, htl⟩ : ∃ tl, nd.fData.length + zb.length = tl := ⟨_, rfl⟩
  rw [htl] at hw9 hat9 ⊢
  have HTL := Hid.mk htl
  have hT9 : Turn Fk wo w9 := (Turn.ofBelow (Below.drew (Below.refl _ _))).trans (Turn.ofGrown hgr9 (fun k hk => by rw [HFE.out]; simp [hk]))
  have x09 := (hT9.cell (p := ⟨w1.heap.size, 0, none⟩) hwbo.lt (fun h => hok (List.mem_cons_of_mem _ h))).trans x0
  have HW9 := Hid.mk hw9
  have HT9 := Hid.mk hT9
  have HAT9 := Hid.mk hat9
  clear hw9 hT9 hat9 htl hgr9
  refine hK.out _ _ (⟨x09, HT9.out.mono (fun k hk => List.mem_cons_of_mem _ hk)⟩) (fun hHeld => ?_)
  clear hK K
  try simp only[Act.put,sa,s0,s1]
  refine uq 11 qa95_65_6_11 42 hHeld ?_
  refine uq 12 qa95_65_6_12 43 hHeld ?_
  refine ar1 13 qa95_65_6_13 fun K hK => ?_
  go_simp
  have k19 := (HT9.out.cell (p := ⟨g, p * 3 + 1, none⟩) (Nat.lt_of_lt_of_le hgl hzo) hgk).trans k1o
  have r19 : w9.frozen? ⟨g, p * 3 + 1, none⟩ = false := (World.frozen?_of_block (w := wo) (HT9.out.block g (Nat.lt_of_lt_of_le hgl hzo) hgk)).trans r1o
  go_simp
  refine hK.out _ _ (⟨(World.cell?_setCell_other _ _ _ _ (fun h => HG1.out (congrArg Addr.block h))).trans x09, Turn.setCell (F := g :: Fk) (HT9.out.mono (fun k hk => List.mem_cons_of_mem _ hk)) (by simp) _⟩) (fun hHeld => ?_)
  clear hK K
  try simp only[Act.put,sa,s0,s1]
  refine wpAnyH_done (by kernel_rfl) ?_ _
  obtain ⟨ws, hws⟩ : ∃ ws, ws = w9.setCell ⟨g, p * 3 + 1, none⟩ (.slice r9 tl q9) := ⟨_, rfl⟩
  have hTs : Turn [g] w9 ws := by rw [hws]; exact Turn.setCell (Turn.refl _ _) (by simp) _
  have hTo : Turn (g :: Fk) wo ws := HT9.out.mono (fun k hk => List.mem_cons_of_mem _ hk) |>.trans (hTs.mono (fun k hk => by simp at hk; simp [hk]))
  have hgF : ∀ b, b ∈ g :: Fk → wq.heap.size ≤ b := by
   intro b hb
   rcases List.mem_cons.1 hb with h | h
   ·omega
   ·exact HGE.out b (by have h3 := (HFK.out _ h).1; simp [h3])
  have hob : ownB 5 w9 (.slice r9 tl q9) (nd.fData ++ zb) (Value.ownBlock (.slice r9 tl q9)).toList := ⟨own_congr HW9.out (by rw [← HTL.out]; simp) (by simp), (fun z hz => by rcases List.mem_append.1 hz with h | h; (exact HB3.out.2.1 z h); (exact HLB.out.2.2.2 z h)), rfl⟩
  have hGj : ∀ b, b ∈ (Value.ownBlock (.slice r9 tl q9)).toList → b ∈ Fk ∨ b ∈ [wo.heap.size] := by
   intro b hb
   rcases HAT9.out with h | h
   ·left; rw [HFE.out, ← h]; exact hb
   ·right; rw [h] at hb; simpa using hb
  obtain ⟨F', p1, p2, p3⟩ := HPUT.out w9 1 (.slice r9 tl q9) (longI zb nd) ((Value.ownBlock (.slice r9 tl q9)).toList ++ []) [wo.heap.size] (by omega) ((Turn.ofBelow hbo).trans HT9.out) ⟨_, _, rfl, HI3.out, hob, HS3.out, rfl⟩ (by rw [List.append_nil]; exact nodup_opt _) (fun b hb => hGj b (by simpa using hb)) (fun b hb hb0 => by simp at hb; have := HLT.out b (by simp [hb0]); omega)
  have hfr : ∀ b, b ∈ G1 ++ G2 → ws.heap[b]? = w1.heap[b]? := fun b hb => by
   have hb' : b ∈ G0 ++ G1 ++ G2 ++ [] := by simp at hb ⊢; exact .inr hb
   have hbl := HLT.out b hb'
   rw [hTo.block b (by omega) (by
    intro h
    rcases List.mem_cons.1 h with h | h
    ·exact HNN.out.2.2 g hgG b hb h.symm
    ·exact HNN.out.2.2 b (HFK.out b h).1 b hb rfl), hbo.block b hbl]
  have t1 := ownS.frame (w' := ws) oEntry_good HO1.out (fun b hb => hfr b (by simp [hb]))
  have t2 := ownS.frame (w' := ws) oEntry_good HO2.out (fun b hb => hfr b (by simp [hb]))
  rw [← hws, HND.out] at p1
  have HT0 : Hid (ownS 3 94 oInode ws (.slice (some ⟨g, 0, none⟩) m.fInodes.length e0) n.fInodes F') := by rw [HNX.out.1, ← HPV.out, updI_at HPL.out]; exact p1
  have HT1 := Hid.mk t1
  have HT2 := Hid.mk t2
  have HSUB : Hid (∀ b, b ∈ F' ++ G1 ++ G2 → w.heap.size + 2 ≤ b) := by
   intro b hb
   rw [List.append_assoc, List.mem_append] at hb
   rcases hb with hb | hb
   ·rcases p3 b hb with h | h
    ·have := HGE.out b (by simp [h]); omega
    ·simp at h; omega
   ·have := HGE.out b (by simp at hb ⊢; exact .inr hb); omega
  have hbdo := (hbd2.below hHeldo hbd2.lt)
  have hbro := (hbr2.below hHeldo hbr2.lt)
  have hbds := hbdo.turn hTo (fun h => by have := hgF _ h; omega)
  have hbrs := hbro.turn hTo (fun h => by have := hgF _ h; omega)
  have hwbs := hwbo.turn hTo hok
  have hBs : Below w.heap.size w ws := hBo.trans (hTo.below (fun k hk => by have := hgF k hk; omega) hBo.size)
  have HBS := Hid.mk hBs
  rw [← hws]
  clear hws hTs hTo t1 t2 p1 p3 hfr hob hGj hHeld x09 k19 r19 x0 k1o r1o
  obtain ⟨y0, y1, y2, y3⟩ := hbds.c4
  obtain ⟨x0, x1, x2, x3⟩ := hwbs.c4
  go_wp2_with fail
  have hcon := l2Ends_any _ (some ⟨g, 0, none⟩) (some ⟨b1, o1, none⟩) d2 e0 e1 e2 m n F' G1 G2 ws (rDisk_good.mono (rDisk_good.below HR.out HBS.out) HBS.out.size) HW.out (by rw [HNL.out]; exact HT0.out) (by rw [HNX.out.2.1]; exact HT1.out) (by rw [HNX.out.2.2.1]; exact HT2.out) (by rw [HNX.out.2.2.2]; exact hnx) HWN.out (by rw [HNL.out, HNX.out.2.1, HNX.out.2.2.1]; have := HWT.out; omega)
  rw [HNL.out, HNX.out.2.1, HNX.out.2.2.1, HNX.out.2.2.2] at hcon
  refine hcon.mono ?_
  clear hcon
  rintro e w4 ⟨cs4, F4, rfl, ho4, hF4, hx4⟩
  have hb4 := bthen HBS.out hx4
  have hbr4 := hbrs.under hx4
  have hl4 := hbr4.lt
  have hzE := HBS.out.size
  have hlE := hbrs.lt
  rw [HE.out.1] at ho4
  obtain ⟨q0, p0, q1, p1, q2, p2, E0, E1, E2, rfl, _, _, _, _, rfl⟩ := oDisk_cells ho4
  have hkey : ∀ W', Turn [w.heap.size + 1] w4 W' → oDisk W' [.slice q0 (appendP m s zb).fInodes.length p0, .slice q1 (appendP m s zb).fNames.length p1, .slice q2 (appendP m s zb).fSafe.length p2, .int .i64 (appendP m s zb).fNext] (appendP m s zb) (E0 ++ E1 ++ E2 ++ []) ∧ Below w.heap.size w W' := fun W' hT =>
   ⟨(oDisk_good.frame ho4 (fun b hb => hT.block b (oDisk_good.lt ho4 b hb) (fun h => by simp at h; rcases hF4 b hb with h2 | h2; (have := HSUB.out b h2; omega); omega))), hb4.trans (hT.below (fun k hk => by simp at hk; omega) hb4.size)⟩
  have HGQ : Hid (∀ b, b ∈ E0 ++ E1 ++ E2 ++ [] → w.heap.size ≤ b) := fun b hb => by rcases hF4 b hb with h2 | h2; (have := HSUB.out b h2; omega); omega
  have HKEY := Hid.mk hkey
  clear hkey ho4 hF4
  obtain ⟨ze0, ze1, ze2, ze3⟩ := hbr4.c4
  obtain ⟨zf0, zf1, zf2, zf3⟩ := hbr4.f4
  have HEC : Hid (endsC n = ac) := HEC0.out
  rw [HEC.out]
  go_wp2_with fail
  obtain ⟨h1, h3⟩ := HKEY.out _ (show Turn [w.heap.size + 1] w4 ((((w4.setCell ⟨w.heap.size + 1, 0, none⟩ (.slice q0 (appendP m s zb).fInodes.length p0)).setCell ⟨w.heap.size + 1, 1, none⟩ (.slice q1 (appendP m s zb).fNames.length p1)).setCell ⟨w.heap.size + 1, 2, none⟩ (.slice q2 (appendP m s zb).fSafe.length p2)).setCell ⟨w.heap.size + 1, 3, none⟩ (.int .i64 (appendP m s zb).fNext)) from turn4 _ _ _ _ _ _)
  exact bodyPost_ret (v := .tuple #[.agg #[.slice q0 (appendP m s zb).fInodes.length p0, .slice q1 (appendP m s zb).fNames.length p1, .slice q2 (appendP m s zb).fSafe.length p2, .int .i64 (appendP m s zb).fNext], .int .i64 ac]) (by simp [results, Tryz.results65, go_sem, *]) rfl ⟨[.slice q0 (appendP m s zb).fInodes.length p0, .slice q1 (appendP m s zb).fNames.length p1, .slice q2 (appendP m s zb).fSafe.length p2, .int .i64 (appendP m s zb).fNext], E0 ++ E1 ++ E2 ++ [], by rw [HV.out], h1, HGQ.out, h3⟩
 ·have HV : Hid (appendP m s zb = m ∧ appendC m s zb = callP m s) := by refine ⟨?_, ?_⟩ <;> simp [appendP, appendC, hC]
  have hcn : (callP m s == 0) = false := beq_eq_false_iff_ne.2 hC
  have hcn2 : (callP m s != 0) = true := bne_iff_ne.2 hC
  obtain ⟨cp, hcp⟩ : ∃ cp, callP m s = cp := ⟨_, rfl⟩
  rw [hcp] at hcn hcn2 ⊢
  have HCP : Hid (appendC m s zb = cp) := HV.out.2.trans hcp
  clear hcp hC
  obtain ⟨zo0, zo1, zo2, zo3⟩ := hwb.c4
  obtain ⟨ze0, zf0, ze1, zf1, ze2, zf2, ze3, zf3⟩ := hbr2.c8
  have hlt0 := hbr2.lt
  have hO3 : oDisk w2 [.slice d0 m.fInodes.length e0, .slice d1 m.fNames.length e1, .slice d2 m.fSafe.length e2, .int .i64 m.fNext] (appendP m s zb) (G0 ++ G1 ++ G2 ++ []) := by rw [HV.out.1]; exact oDisk_good.frame HO.out (fun b hb => hb12.block b (HLT.out b hb))
  have hG3 : ∀ b, b ∈ G0 ++ G1 ++ G2 ++ [] → w.heap.size + 2 ≤ b := fun b hb => by have := HGE.out b hb; omega
  have HBf := Hid.mk hb2
  have HO3 := Hid.mk hO3
  clear hO3
  go_wp2_with fail
  refine bodyPost_ret (v := .tuple #[.agg #[.slice d0 m.fInodes.length e0, .slice d1 m.fNames.length e1, .slice d2 m.fSafe.length e2, .int .i64 m.fNext], .int .i64 cp]) (by simp [results, Tryz.results65, go_sem, *]) rfl ⟨[.slice d0 m.fInodes.length e0, .slice d1 m.fNames.length e1, .slice d2 m.fSafe.length e2, .int .i64 m.fNext], G0 ++ G1 ++ G2 ++ [], by first | rfl | rw [HCP.out], ?_, (fun b hb => by have := hG3 b hb; omega), ?_⟩
  ·exact (oDisk_good.frame HO3.out (fun b hb => (show Turn [w.heap.size + 1] w2 _ from by repeat (first | with_reducible exact Turn.refl _ _ | with_reducible refine Turn.setCell ?_ (by simp) _ | with_reducible refine Turn.alloc ?_ _ | with_reducible refine Turn.drew ?_)).block b (oDisk_good.lt HO3.out b hb) (by intro h; simp at h; have := hG3 b hb; omega)))
  ·exact HBf.out.trans ((show Turn [w.heap.size + 1] w2 _ from by repeat (first | with_reducible exact Turn.refl _ _ | with_reducible refine Turn.setCell ?_ (by simp) _ | with_reducible refine Turn.alloc ?_ _ | with_reducible refine Turn.drew ?_)).below (fun k hk => by simp at hk; omega) HBf.out.size)
set_option maxHeartbeats 400000 in
theorem specAppend_b (cs : List Value) (m : MDisk) (s : ByteArray) (vb : Value) (zb : List Int) (w : World) (hr : rDisk w.heap.size w cs m) (hs : s.size ≤ 9223372036854775807) (hrb : rdB w.heap.size w vb zb) (hw : wDisk m ≤ 1048576) (hw1 : s.size ≤ 1048576) (hwb : zb.length ≤ 2097152) :
  Calls Tryz.prog 65 #[.agg cs.toArray, .string s, vb] w fun e w' => ∃ cs' : List Value, e = .returned (.tuple #[.agg cs'.toArray, .int .i64 (appendC m s zb)]) ∧ rDisk w'.heap.size w' cs' (appendP m s zb) ∧ Below w.heap.size w w' := by
 refine (specAppend_o cs m s vb zb w hr hs hrb hw hw1 hwb).mono ?_
 rintro e w' ⟨cs', F, he, ho, _, hx⟩
 exact ⟨cs', he, oDisk_good.read ho, hx⟩
end Go.Proofs.YtddejboifpepcaaGreatDoor
