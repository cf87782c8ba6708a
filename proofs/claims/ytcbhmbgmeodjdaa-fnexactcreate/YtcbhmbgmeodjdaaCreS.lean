/-
  The specification's Create.
-/
import Derived.Test.YtcbhmbgmeodjdaaEnds
import Derived.Test.YtcbhmbgmeodjdaaWithF
import Derived.Test.YtcbhmbgmeodjdaaCre
import Derived.Test.YtcbhmbgmeodjdaaDskU
import Derived.Test.YtcbhmbgmeodjdaaDskT
import Derived.Test.YtcbhmbgmeodjdaaDskG
namespace Go.Proofs.Ytcbhmbgmeodjdaa
open Go.RowKit Go.Maps
set_option linter.unusedVariables false
set_option linter.unusedSimpArgs false
set_option maxRecDepth 10000

set_option maxHeartbeats 4000000 in
theorem specCreate_c (cs : List Value) (m : MDisk) (s : ByteArray) (w : World) (hr : rDisk w.heap.size w cs m) (hs : s.size ≤ 9223372036854775807) (hw : wDisk m ≤ 1048576) (hw1 : s.size ≤ 1048576) :
    Calls Try.prog 13 #[.agg cs.toArray, .string s] w fun e w' => ∃ cs' : List Value, e = .returned (.tuple #[.agg cs'.toArray, .int .i64 (createC m s)]) ∧ rDisk w'.heap.size w' cs' (createP m s) ∧ Below w.heap.size w w' := by
  obtain ⟨iI, hiI, hzI0, hzI1, hzI2⟩ := info_parts Try.infoOfInode
  have hq := hr
  obtain ⟨a0, c0, a1, c1, a2, c2, rfl, hI, hNm, hSf, hnx, _⟩ := hq
  have hw2 : m.fInodes.length + sumW wInode m.fInodes + (m.fNames.length + sumW wEntry m.fNames) + (m.fSafe.length + sumW wEntry m.fSafe) ≤ 1048576 := hw
  have HW := Hid.mk hw
  have HR := Hid.mk hr
  clear hr hI hNm hSf hw
  go_enter Try.func13, Try.ntmps13
  go_wp2_with fail
  obtain ⟨wq, hwq⟩ : ∃ wq, wq = ((w.alloc (.cells #[.slice a0 m.fInodes.length c0, .slice a1 m.fNames.length c1, .slice a2 m.fSafe.length c2, .int .i64 m.fNext] 27)).alloc (.cells #[.slice none 0 0, .slice none 0 0, .slice none 0 0, .int .i64 0] 27)) := ⟨_, rfl⟩
  have hbW : Below w.heap.size w wq := by rw [hwq]; exact Below.alloc (Below.alloc (Below.refl _ _) (by exact Nat.le_refl _) _) (by simp; try omega) _
  have hbd : Bw wq (w.heap.size) 27 [.slice a0 m.fInodes.length c0, .slice a1 m.fNames.length c1, .slice a2 m.fSafe.length c2, .int .i64 m.fNext] := by rw [hwq]; exact Bw.alloc (Bw.new' _ _ _ (by simp)) _
  have hbr : Bw wq (w.heap.size + 1) 27 [.slice none 0 0, .slice none 0 0, .slice none 0 0, .int .i64 0] := by rw [hwq]; exact Bw.new' _ _ _ (by simp)
  rw [← hwq]
  clear hwq
  refine (l2Copy_any _ m wq (rDisk_good.mono (rDisk_good.below HR.out hbW) hbW.size) HW.out).mono ?_
  rintro e w1 ⟨cs2, F2, rfl, ho2, hN2, hge2, hx1⟩
  obtain ⟨d0, e0, d1, e1, d2, e2, G0, G1, G2, rfl, o0, o1, o2, _, rfl⟩ := oDisk_cells ho2
  have HO0 := Hid.mk o0
  have HO1 := Hid.mk o1
  have HO2 := Hid.mk o2
  have HO := Hid.mk ho2
  have HN := Hid.mk hN2
  have HGE : Hid (∀ b, b ∈ G0 ++ G1 ++ G2 ++ [] → wq.heap.size ≤ b) := hge2
  have HLT : Hid (∀ b, b ∈ G0 ++ G1 ++ G2 ++ [] → b < w1.heap.size) := fun b hb => oDisk_good.lt ho2 b hb
  clear ho2 hN2 hge2 o0 o1 o2
  have hb1 := bthen hbW hx1
  have hbd1 := hbd.under hx1
  have hbr1 := hbr.under hx1
  have hz1 := hx1.size
  have hzW := hbW.size
  have hl0 := hbr.lt
  have y0 := hbd1.cell 0 _ rfl
  have y1 := hbd1.cell 1 _ rfl
  have y2 := hbd1.cell 2 _ rfl
  have y3 := hbd1.cell 3 _ rfl
  have hl1 := hbd1.lt
  go_wp2_with fail
  obtain ⟨wa, hwa⟩ : ∃ wa, wa = w1.alloc (.cells #[.slice d0 m.fInodes.length e0, .slice d1 m.fNames.length e1, .slice d2 m.fSafe.length e2, .int .i64 m.fNext] 27) := ⟨_, rfl⟩
  have hba : Below w1.heap.size w1 wa := by rw [hwa]; exact (Below.refl _ _).alloc (Nat.le_refl _) _
  have hwb0 : Bw wa w1.heap.size 27 [.slice d0 m.fInodes.length e0, .slice d1 m.fNames.length e1, .slice d2 m.fSafe.length e2, .int .i64 m.fNext] := by rw [hwa]; exact Bw.new _ _ _
  rw [← hwa]
  clear hwa
  have hba1 := bthen hb1 hba
  have hbda := (hbd1.under hba)
  refine (l2Call_any _ m s wa (rDisk_good.mono (rDisk_good.below HR.out hba1) hba1.size) HW.out hs).mono ?_
  rintro e w2 ⟨rfl, hx2⟩
  have hb12 := bthen hba hx2
  have hb2 := bthen hba1 hx2
  have hwb := hwb0.under hx2
  have hbr2 := (hbr1.under hba).under hx2
  have hbd2 := hbda.under hx2
  clear hwb0 hbda hbd1 y0 y1 y2 y3
  have zo0 := hwb.cell 0 _ rfl
  have zo1 := hwb.cell 1 _ rfl
  have zo2 := hwb.cell 2 _ rfl
  have zo3 := hwb.cell 3 _ rfl
  by_cases h1 : callP m s = 1
  · have HCP : Hid (createC m s = 1) := by show _ = _; unfold createC; rw [h1]; rfl
    have HV : Hid (createP m s = m) := by show _ = _; unfold createP; rw [h1]; simp
    rw [h1]
    clear h1
    have ze0 := hbr2.cell 0 _ rfl
    have zf0 := hbr2.free 0
    have ze1 := hbr2.cell 1 _ rfl
    have zf1 := hbr2.free 1
    have ze2 := hbr2.cell 2 _ rfl
    have zf2 := hbr2.free 2
    have ze3 := hbr2.cell 3 _ rfl
    have zf3 := hbr2.free 3
    have hlt0 := hbr2.lt
    have hO3 : oDisk w2 [.slice d0 m.fInodes.length e0, .slice d1 m.fNames.length e1, .slice d2 m.fSafe.length e2, .int .i64 m.fNext] (createP m s) (G0 ++ G1 ++ G2 ++ []) := by rw [HV.out]; exact oDisk_good.frame HO.out (fun b hb => hb12.block b (HLT.out b hb))
    have hG3 : ∀ b, b ∈ G0 ++ G1 ++ G2 ++ [] → w.heap.size + 2 ≤ b := fun b hb => by have := HGE.out b hb; omega
    have HBf := Hid.mk hb2
    have HO3 := Hid.mk hO3
    clear hO3
    go_wp2_with fail
    refine bodyPost_ret (v := .tuple #[.agg #[.slice d0 m.fInodes.length e0, .slice d1 m.fNames.length e1, .slice d2 m.fSafe.length e2, .int .i64 m.fNext], .int .i64 1]) (by simp [results, Try.results13, go_sem, *]) rfl ⟨[.slice d0 m.fInodes.length e0, .slice d1 m.fNames.length e1, .slice d2 m.fSafe.length e2, .int .i64 m.fNext], by first | rfl | rw [HCP.out], ?_, ?_⟩
    · exact oDisk_good.read (oDisk_good.frame HO3.out (fun b hb => (show Turn [w.heap.size + 1] w2 _ from by repeat (first | with_reducible exact Turn.refl _ _ | with_reducible refine Turn.setCell ?_ (by simp) _ | with_reducible refine Turn.alloc ?_ _ | with_reducible refine Turn.drew ?_)).block b (oDisk_good.lt HO3.out b hb) (by intro h; simp at h; have := hG3 b hb; omega)))
    · exact HBf.out.trans ((show Turn [w.heap.size + 1] w2 _ from by repeat (first | with_reducible exact Turn.refl _ _ | with_reducible refine Turn.setCell ?_ (by simp) _ | with_reducible refine Turn.alloc ?_ _ | with_reducible refine Turn.drew ?_)).below (fun k hk => by simp at hk; omega) HBf.out.size)
  by_cases h0 : callP m s = 0
  · have HCP : Hid (createC m s = 3) := by show _ = _; unfold createC; rw [h0]; rfl
    have HV : Hid (createP m s = m) := by show _ = _; unfold createP; rw [h0]; simp
    rw [h0]
    clear h0 h1
    have ze0 := hbr2.cell 0 _ rfl
    have zf0 := hbr2.free 0
    have ze1 := hbr2.cell 1 _ rfl
    have zf1 := hbr2.free 1
    have ze2 := hbr2.cell 2 _ rfl
    have zf2 := hbr2.free 2
    have ze3 := hbr2.cell 3 _ rfl
    have zf3 := hbr2.free 3
    have hlt0 := hbr2.lt
    have hO3 : oDisk w2 [.slice d0 m.fInodes.length e0, .slice d1 m.fNames.length e1, .slice d2 m.fSafe.length e2, .int .i64 m.fNext] (createP m s) (G0 ++ G1 ++ G2 ++ []) := by rw [HV.out]; exact oDisk_good.frame HO.out (fun b hb => hb12.block b (HLT.out b hb))
    have hG3 : ∀ b, b ∈ G0 ++ G1 ++ G2 ++ [] → w.heap.size + 2 ≤ b := fun b hb => by have := HGE.out b hb; omega
    have HBf := Hid.mk hb2
    have HO3 := Hid.mk hO3
    clear hO3
    go_wp2_with fail
    refine bodyPost_ret (v := .tuple #[.agg #[.slice d0 m.fInodes.length e0, .slice d1 m.fNames.length e1, .slice d2 m.fSafe.length e2, .int .i64 m.fNext], .int .i64 3]) (by simp [results, Try.results13, go_sem, *]) rfl ⟨[.slice d0 m.fInodes.length e0, .slice d1 m.fNames.length e1, .slice d2 m.fSafe.length e2, .int .i64 m.fNext], by first | rfl | rw [HCP.out], ?_, ?_⟩
    · exact oDisk_good.read (oDisk_good.frame HO3.out (fun b hb => (show Turn [w.heap.size + 1] w2 _ from by repeat (first | with_reducible exact Turn.refl _ _ | with_reducible refine Turn.setCell ?_ (by simp) _ | with_reducible refine Turn.alloc ?_ _ | with_reducible refine Turn.drew ?_)).block b (oDisk_good.lt HO3.out b hb) (by intro h; simp at h; have := hG3 b hb; omega)))
    · exact HBf.out.trans ((show Turn [w.heap.size + 1] w2 _ from by repeat (first | with_reducible exact Turn.refl _ _ | with_reducible refine Turn.setCell ?_ (by simp) _ | with_reducible refine Turn.alloc ?_ _ | with_reducible refine Turn.drew ?_)).below (fun k hk => by simp at hk; omega) HBf.out.size)
  have hC2 : callP m s = 2 := by
    unfold callP at h1 h0 ⊢
    by_cases ha : (diskOk m && nameOk s) = true
    · rw [if_pos ha] at h0 ⊢
      by_cases hb : hasName m.fNames s = true
      · rw [if_pos hb] at h0; exact absurd rfl h0
      · rw [if_neg hb]
    · rw [if_neg ha] at h1; exact absurd rfl h1
  obtain ⟨hgd, hNs, _⟩ := call_none hC2
  have hs12 : s.size ≤ 12 := by
    unfold nameOk at hNs
    simp at hNs
    omega
  have hDR := diskOk_iff.1 hgd
  have HRI : Hid (Rise m.fNames) := hDR.names.rise
  have hwt := create_weight (s := s) hgd hs12
  have hok := ok_weight hgd
  obtain ⟨N, hN⟩ : ∃ N, N = withE m.fNames ⟨s, m.fNext⟩ := ⟨_, rfl⟩
  obtain ⟨n, hn⟩ : ∃ n, n = createD m s := ⟨_, rfl⟩
  have HNE := Hid.mk hN
  rw [← hN, ← hn] at hwt
  have HWK : Hid (wDisk n ≤ 16777216) := by show _ ≤ _; omega
  have HNX : Hid (n.fInodes = m.fInodes ++ [newI m] ∧ n.fNames = N ∧ n.fSafe = m.fSafe ∧ n.fNext = m.fNext + 1 ∧ n.fInodes.length = m.fInodes.length + 1) := by
    rw [hn, hN]
    refine ⟨rfl, rfl, rfl, rfl, ?_⟩
    simp [createD]
  have HLL : Hid (n.fInodes.length ≤ 1048576 ∧ n.fNames.length ≤ 1048576 ∧ n.fSafe.length ≤ 1048576) := by
    rw [HNX.out.2.2.2.2, HNX.out.2.1, HNX.out.2.2.1]
    have := hwt.2.1
    refine ⟨?_, ?_, ?_⟩ <;> omega
  have HE : Hid (endsD m n = createP m s ∧ endsC n = createC m s) := by
    have hk := create_keep hC2
    rw [← hn] at hk
    refine ⟨?_, ?_⟩
    · unfold endsD createP; rw [hk, hC2, ← hn]; simp
    · unfold endsC createC; rw [hk, hC2, ← hn]; simp
  have hil : m.fInodes.length ≤ 1000 := by omega
  have hnn : m.fNext ≤ 1000000 := hDR.next.2
  have hnn1 : 1 ≤ m.fNext := hDR.next.1
  rw [hC2]
  clear hC2 h0 h1 hgd hNs hDR hwt hok hN hn
  have hNN := HN.out
  rw [List.append_nil, List.append_assoc, List.nodup_append] at hNN
  have HNN := Hid.mk hNN
  obtain ⟨Wx, hWx⟩ : ∃ Wx, Wx = w2.alloc (.cells #[.int .i64 m.fNext, .slice none 0 0, .int .i64 0] 86) := ⟨_, rfl⟩
  have hWs : Wx.heap.size = w2.heap.size + 1 := by rw [hWx]; simp
  have hbx0 : Below w2.heap.size w2 Wx := by rw [hWx]; exact (Below.refl _ _).alloc (Nat.le_refl _) _
  have hb1x := bthen hb12 hbx0
  have hwbx := hwb.under hbx0
  have hbx : Bx Wx w2.heap.size [.int .i64 m.fNext, .slice none 0 0, .int .i64 0] := by rw [hWx]; exact Bx.new _ _ _
  have hbdx := hbd2.under hbx0
  have hbrx := hbr2.under hbx0
  have hox := ownS.frame (w' := Wx) oInode_good HO0.out (fun b hb => hb1x.block b (HLT.out b (by simp [hb])))
  obtain ⟨xs, hxs, hpush⟩ := ownS.push oInode_good hox hNN.1
  have hg0 : ∀ k, (Value.slice d0 m.fInodes.length e0).ownBlock = some k → wq.heap.size ≤ k ∧ k < w1.heap.size ∧ k ∈ G0 := fun k hk => by
    have hkG := ownS_block hox k hk
    exact ⟨HGE.out k (by simp [hkG]), HLT.out k (by simp [hkG]), hkG⟩
  have hlw := hwb.lt
  have hld := hbd2.lt
  have hlr := hbr2.lt
  have hz12 := hb12.size
  have HAFT : Hid (∀ (v5 : Value) (w5 : World), w5.ownsRow 0 86 3 v5 (m.fInodes.length + 1) (xs ++ [.int .i64 m.fNext, .slice none 0 0, .int .i64 0]) → Wx.grownBy w5 (Value.slice d0 m.fInodes.length e0).ownBlock → (v5.ownBlock = (Value.slice d0 m.fInodes.length e0).ownBlock ∨ v5.ownBlock = some Wx.heap.size) →
      ∃ r5 q5, v5 = .slice r5 (m.fInodes.length + 1) q5 ∧ Bw w5 w1.heap.size 27 [.slice d0 m.fInodes.length e0, .slice d1 m.fNames.length e1, .slice d2 m.fSafe.length e2, .int .i64 m.fNext] ∧ Bw w5 w.heap.size 27 [.slice a0 m.fInodes.length c0, .slice a1 m.fNames.length c1, .slice a2 m.fSafe.length c2, .int .i64 m.fNext] ∧ Bw w5 (w.heap.size + 1) 27 [.slice none 0 0, .slice none 0 0, .slice none 0 0, .int .i64 0] ∧ Below w.heap.size w w5 ∧ w1.heap.size < w5.heap.size ∧
        ∃ F', ownS 3 86 oInode w5 (.slice r5 (m.fInodes.length + 1) q5) (m.fInodes ++ [newI m]) F' ∧ ownS 2 91 oEntry w5 (.slice d1 m.fNames.length e1) m.fNames G1 ∧ ownS 2 91 oEntry w5 (.slice d2 m.fSafe.length e2) m.fSafe G2 ∧ (∀ b, b ∈ F' → w.heap.size + 2 ≤ b ∧ b ≠ w1.heap.size)) := by
    intro v5 w5 hown5 hgrow5 hloc5
    obtain ⟨r5, q5, rfl⟩ := own_slice hown5
    have hT5 := turnOwn hgrow5
    have hn : ∀ b, b < wq.heap.size ∨ w1.heap.size ≤ b → b ∉ (Value.slice d0 m.fInodes.length e0).ownBlock.toList := fun b hb h => by
      have := hg0 b (by simpa using h)
      omega
    have hB5 : Below wq.heap.size Wx w5 := hT5.below (fun k hk => (hg0 k (by simpa using hk)).1) (by omega)
    obtain ⟨F', p1, p2, p3⟩ := hpush w5 (.slice r5 (m.fInodes.length + 1) q5) [.int .i64 m.fNext, .slice none 0 0, .int .i64 0] (newI m) [] hown5 hgrow5 hloc5 (newI_own hnx Wx) List.nodup_nil (fun b hb => by cases hb)
    have hwb5 := hwbx.turn hT5 (hn _ (by omega))
    have hfr : ∀ b, b ∈ G1 ++ G2 → w5.heap[b]? = w1.heap[b]? := fun b hb => by
      have hb' : b ∈ G0 ++ G1 ++ G2 ++ [] := by simp at hb ⊢; exact .inr hb
      rw [hT5.block b (by have := HLT.out b hb'; omega) (fun h => HNN.out.2.2 b (hg0 b (by simpa using h)).2.2 b hb rfl), hb1x.block b (HLT.out b hb')]
    refine ⟨r5, q5, rfl, hwb5, hbdx.turn hT5 (hn _ (by omega)), hbrx.turn hT5 (hn _ (by omega)), (bthen hb2 hbx0).trans (hB5.mono (by omega)), hwb5.lt, F', p1, ownS.frame (w' := w5) oEntry_good HO1.out (fun b hb => hfr b (by simp [hb])), ownS.frame (w' := w5) oEntry_good HO2.out (fun b hb => hfr b (by simp [hb])), ?_⟩
    intro b hb
    rcases p3 b hb with h | h | h
    · have h1 := HGE.out b (by simp [h]); have h2 := HLT.out b (by simp [h]); omega
    · cases h
    · omega
  have HGF : Hid (∀ b, b ∈ G1 ++ G2 → w.heap.size + 2 ≤ b ∧ b < w1.heap.size) := fun b hb => by
    have hb' : b ∈ G0 ++ G1 ++ G2 ++ [] := by simp at hb ⊢; exact .inr hb
    have h1 := HGE.out b hb'
    have h2 := HLT.out b hb'
    omega
  have y0 := hbd2.cell 0 _ rfl
  have y1 := hbd2.cell 1 _ rfl
  have y2 := hbd2.cell 2 _ rfl
  have y3 := hbd2.cell 3 _ rfl
  clear hNN hpush hg0 hox hbx0 hWs hbd2 hbr2 hwbx hbdx hbrx hwb
  go_wp2_with (at_builtin; rw [← hWx]; refine wpList_append_own_at _ rfl _ _ 24 rfl 0 86 iI (.agg #[.int .i64 0, .slice none 0 0, .int .i64 0]) 3 40 Try.underlying24 hiI hzI0 hzI1 hzI2 rfl (by decide) _ _ _ rfl hxs ⟨w2.heap.size, 0, none⟩ 1 1 [.int .i64 m.fNext, .slice none 0 0, .int .i64 0] rfl rfl (bx_news hbx) (by intro u hu; simp at hu; rcases hu with rfl | rfl | rfl <;> rfl) (by unfold maxLen; omega) (by omega) (Nat.zero_le _) ?_; intro v5 w5 hown5 hgrow5 hnil5 hloc5; obtain ⟨r5, q5, rfl, hwb5, hbd5, hbr5, hb5, hl5, F5, hO5, hP5, hS5, hF5⟩ := HAFT.out v5 w5 hown5 hgrow5 hloc5; clear hown5 hgrow5 hloc5 hnil5; have hl5d := hbd5.lt; have hl5r := hbr5.lt; have x0 := hwb5.cell 0 _ rfl; have x1 := hwb5.cell 1 _ rfl; have x2 := hwb5.cell 2 _ rfl; have x3 := hwb5.cell 3 _ rfl; have f0 := hwb5.free 0; have f3 := hwb5.free 3; have z0 := hbd5.cell 0 _ rfl; have z1 := hbd5.cell 1 _ rfl; have z2 := hbd5.cell 2 _ rfl; have z3 := hbd5.cell 3 _ rfl)
  obtain ⟨wr, hwr⟩ : ∃ wr, wr = w5.setCell ⟨w1.heap.size, 0, none⟩ (.slice r5 (m.fInodes.length + 1) q5) := ⟨_, rfl⟩
  have hTr : Turn [w1.heap.size] w5 wr := by rw [hwr]; exact Turn.setCell (Turn.refl _ _) (by simp) _
  have hwbr : Bw wr w1.heap.size 27 [.slice r5 (m.fInodes.length + 1) q5, .slice d1 m.fNames.length e1, .slice d2 m.fSafe.length e2, .int .i64 m.fNext] := by rw [hwr]; exact hwb5.put 0 _
  have hfr5 : ∀ b, b ∈ G1 ++ G2 → b < w5.heap.size ∧ b ∉ [w1.heap.size] := fun b hb => by have := HGF.out b hb; simp; omega
  have hOr := ownS.frame (w' := wr) oInode_good hO5 (fun b hb => hTr.block b (ownS.lt oInode_good hO5 b hb) (by intro h; simp at h; exact (hF5 b hb).2 h))
  have hPr := ownS.frame (w' := wr) oEntry_good hP5 (fun b hb => hTr.block b (hfr5 b (by simp [hb])).1 (hfr5 b (by simp [hb])).2)
  have hSr := ownS.frame (w' := wr) oEntry_good hS5 (fun b hb => hTr.block b (hfr5 b (by simp [hb])).1 (hfr5 b (by simp [hb])).2)
  have hbdr := hbd5.turn hTr (by simp; omega)
  have hbrr := hbr5.turn hTr (by simp; omega)
  have hBr : Below w.heap.size w wr := hb5.trans (hTr.below (fun k hk => by simp at hk; omega) hb5.size)
  have hzr := hTr.size
  have HOR := Hid.mk hOr
  have HPR := Hid.mk hPr
  have HSR := Hid.mk hSr
  have HF5 := Hid.mk hF5
  rw [← hwr]
  clear hwr hTr x0 x1 x2 x3 f0 f3 z0 z1 z2 z3 hwb5 hbd5 hbr5 hO5 hP5 hS5 hfr5 hOr hPr hSr hF5 hb5
  have hcall := l2With_any d1 _ e1 m.fNames ⟨s, m.fNext⟩ wr rfl (by omega) (ownS.leaf oEntry_good HPR.out) HRI.out hs hnx
  rw [← HNE.out] at hcall
  refine hcall.mono ?_
  clear hcall
  rintro e w6 ⟨r6, q6, F6, rfl, ho6, hg6, hx6⟩
  have HO6 := Hid.mk ho6
  have HGS := Hid.mk hg6
  clear ho6 hg6
  have hwb6 := hwbr.under hx6
  have hbd6 := hbdr.under hx6
  have hbr6 := hbrr.under hx6
  have hB6 := bthen hBr hx6
  have hl6 := hwb6.lt
  have hl6d := hbd6.lt
  have hz6 := hx6.size
  have g1 := hwb6.free 1
  have g3 := hwb6.free 3
  have zd0 := hwb6.cell 0 _ rfl
  have zd1 := hwb6.cell 1 _ rfl
  have zd2 := hwb6.cell 2 _ rfl
  have zd3 := hwb6.cell 3 _ rfl
  have yd0 := hbd6.cell 0 _ rfl
  have yd1 := hbd6.cell 1 _ rfl
  have yd2 := hbd6.cell 2 _ rfl
  have yd3 := hbd6.cell 3 _ rfl
  go_wp2_with fail
  obtain ⟨ws, hws⟩ : ∃ ws, ws = (w6.setCell ⟨w1.heap.size, 1, none⟩ (.slice r6 N.length q6)).setCell ⟨w1.heap.size, 3, none⟩ (.int .i64 (m.fNext + 1)) := ⟨_, rfl⟩
  have hTs : Turn [w1.heap.size] w6 ws := by rw [hws]; exact Turn.setCell (Turn.setCell (Turn.refl _ _) (by simp) _) (by simp) _
  have hbrs := hbr6.turn hTs (by simp; omega)
  have hBs : Below w.heap.size w ws := hB6.trans (hTs.below (fun k hk => by simp at hk; omega) hB6.size)
  have hne : ∀ b, b < wr.heap.size → b ≠ w1.heap.size → ws.heap[b]? = wr.heap[b]? := fun b hb h1 => by
    rw [hTs.block b (by omega) (by simpa using h1), hx6.block b hb]
  have t0 := ownS.frame (w' := ws) oInode_good HOR.out (fun b hb => hne b (ownS.lt oInode_good HOR.out b hb) (HF5.out b hb).2)
  have t2 := ownS.frame (w' := ws) oEntry_good HSR.out (fun b hb => hne b (ownS.lt oEntry_good HSR.out b hb) (by have := HGF.out b (by simp [hb]); omega))
  have t1 := ownS.frame (w' := ws) oEntry_good HO6.out (fun b hb => hTs.block b (ownS.lt oEntry_good HO6.out b hb) (by intro h; simp at h; have := HGS.out b hb; omega))
  have HSUB : Hid (∀ b, b ∈ F5 ++ F6 ++ G2 → w.heap.size + 2 ≤ b) := by
    intro b hb
    rw [List.mem_append, List.mem_append] at hb
    rcases hb with (hb | hb) | hb
    · exact (HF5.out b hb).1
    · have := HGS.out b hb; omega
    · exact (HGF.out b (by simp [hb])).1
  have HBS := Hid.mk hBs
  rw [← hws]
  clear hws hTs zd0 zd1 zd2 zd3 yd0 yd1 yd2 yd3 g1 g3 hne
  have hcon := l2Ends_any _ r5 r6 d2 q5 q6 e2 m n F5 F6 G2 ws (rDisk_good.mono (rDisk_good.below HR.out HBS.out) HBS.out.size) HW.out (by rw [HNX.out.2.2.2.2, HNX.out.1]; exact t0) (by rw [HNX.out.2.1]; exact t1) (by rw [HNX.out.2.2.1]; exact t2) (by rw [HNX.out.2.2.2.1]; exact WalkArith.wf_i64 (by omega)) HWK.out HLL.out
  rw [HNX.out.2.2.2.2, HNX.out.2.1, HNX.out.2.2.1, HNX.out.2.2.2.1] at hcon
  clear t0 t1 t2
  refine hcon.mono ?_
  clear hcon
  rintro e w7 ⟨cs4, F4, rfl, ho4, hF4, hx7⟩
  have hb7 := bthen HBS.out hx7
  have hbr7 := hbrs.under hx7
  have hl7 := hbr7.lt
  have hzE := HBS.out.size
  have hlE := hbrs.lt
  rw [HE.out.1] at ho4
  obtain ⟨q0, p0, q1, p1, q2, p2, E0, E1, E2, rfl, _, _, _, _, rfl⟩ := oDisk_cells ho4
  have hkey : ∀ W', Turn [w.heap.size + 1] w7 W' → rDisk W'.heap.size W' [.slice q0 (createP m s).fInodes.length p0, .slice q1 (createP m s).fNames.length p1, .slice q2 (createP m s).fSafe.length p2, .int .i64 (createP m s).fNext] (createP m s) ∧ Below w.heap.size w W' := fun W' hT =>
    ⟨oDisk_good.read (oDisk_good.frame ho4 (fun b hb => hT.block b (oDisk_good.lt ho4 b hb) (fun h => by simp at h; rcases hF4 b hb with h2 | h2; (have := HSUB.out b h2; omega); omega))), hb7.trans (hT.below (fun k hk => by simp at hk; omega) hb7.size)⟩
  have HKEY := Hid.mk hkey
  clear hkey ho4 hF4
  have ze0 := hbr7.cell 0 _ rfl
  have ze1 := hbr7.cell 1 _ rfl
  have ze2 := hbr7.cell 2 _ rfl
  have ze3 := hbr7.cell 3 _ rfl
  have zf0 := hbr7.free 0
  have zf1 := hbr7.free 1
  have zf2 := hbr7.free 2
  have zf3 := hbr7.free 3
  have HEC : Hid (endsC n = createC m s) := HE.out.2
  rw [HEC.out]
  go_wp2_with fail
  obtain ⟨h1, h3⟩ := HKEY.out _ (show Turn [w.heap.size + 1] w7 ((((w7.setCell ⟨w.heap.size + 1, 0, none⟩ (.slice q0 (createP m s).fInodes.length p0)).setCell ⟨w.heap.size + 1, 1, none⟩ (.slice q1 (createP m s).fNames.length p1)).setCell ⟨w.heap.size + 1, 2, none⟩ (.slice q2 (createP m s).fSafe.length p2)).setCell ⟨w.heap.size + 1, 3, none⟩ (.int .i64 (createP m s).fNext)) from turn4 _ _ _ _ _ _)
  exact bodyPost_ret (v := .tuple #[.agg #[.slice q0 (createP m s).fInodes.length p0, .slice q1 (createP m s).fNames.length p1, .slice q2 (createP m s).fSafe.length p2, .int .i64 (createP m s).fNext], .int .i64 (createC m s)]) (by simp [results, Try.results13, go_sem, *]) rfl ⟨[.slice q0 (createP m s).fInodes.length p0, .slice q1 (createP m s).fNames.length p1, .slice q2 (createP m s).fSafe.length p2, .int .i64 (createP m s).fNext], rfl, h1, h3⟩

end Go.Proofs.Ytcbhmbgmeodjdaa
