/-
  The program's Append.
-/
import Derived.Test.YtcipekagllikjaaFull
import Derived.Test.YtcipekagllikjaaMapS
import Derived.Test.YtcipekagllikjaaDatC
import Derived.Test.YtcipekagllikjaaDskG
namespace Go.Proofs.Ytcipekagllikjaa
open Go.RowKit Go.Maps
set_option linter.unusedVariables false
set_option linter.unusedSimpArgs false
set_option maxRecDepth 10000

set_option maxHeartbeats 4000000 in
theorem implAppend_c (cs : List Value) (m : MDisk) (s : ByteArray) (vb : Value) (zb : List Int) (w : World) (hr : rDisk w.heap.size w cs m) (hs : s.size ≤ 9223372036854775807) (hrb : rdB w.heap.size w vb zb) (hw : wDisk m ≤ 1048576) (hw1 : s.size ≤ 1048576) (hwb : zb.length ≤ 1048576) :
    Calls Try.prog 18 #[.agg cs.toArray, .string s, vb] w fun e w' => ∃ (cs' : List Value) (F : List Nat), e = .returned (.tuple #[.agg cs'.toArray, .int .i64 (appendC m s zb)]) ∧ oDisk w' cs' (appendP m s zb) F ∧ F.Nodup ∧ (∀ b, b ∈ F → w.heap.size ≤ b) ∧ Below w.heap.size w w' := by
  obtain ⟨ab, cb, rfl, hlb⟩ := hrb
  have HLB := Hid.mk hlb
  clear hlb
  have hq := hr
  obtain ⟨a0, c0, a1, c1, a2, c2, rfl, hI, hNm, hSf, hnx, _⟩ := hq
  have hw2 : m.fInodes.length + sumW wInode m.fInodes + (m.fNames.length + sumW wEntry m.fNames) + (m.fSafe.length + sumW wEntry m.fSafe) ≤ 1048576 := hw
  have HW := Hid.mk hw
  have HR := Hid.mk hr
  clear hr hI hNm hSf hw
  go_enter Try.func18, Try.ntmps18
  go_wp2_with fail
  obtain ⟨wq, hwq⟩ : ∃ wq, wq = ((w.alloc (.cells #[.slice a0 m.fInodes.length c0, .slice a1 m.fNames.length c1, .slice a2 m.fSafe.length c2, .int .i64 m.fNext] 27)).alloc (.cells #[.slice none 0 0, .slice none 0 0, .slice none 0 0, .int .i64 0] 27)) := ⟨_, rfl⟩
  have hbW : Below w.heap.size w wq := by rw [hwq]; exact Below.alloc (Below.alloc (Below.refl _ _) (by exact Nat.le_refl _) _) (by simp; try omega) _
  have hbd : Bw wq (w.heap.size) 27 [.slice a0 m.fInodes.length c0, .slice a1 m.fNames.length c1, .slice a2 m.fSafe.length c2, .int .i64 m.fNext] := by rw [hwq]; exact Bw.alloc (Bw.new' _ _ _ (by simp)) _
  have hbr : Bw wq (w.heap.size + 1) 27 [.slice none 0 0, .slice none 0 0, .slice none 0 0, .int .i64 0] := by rw [hwq]; exact Bw.new' _ _ _ (by simp)
  rw [← hwq]
  clear hwq
  refine (findFile_any _ m s wq (rDisk_good.mono (rDisk_good.below HR.out hbW) hbW.size) HW.out hs).mono ?_
  rintro e w1 ⟨p, rfl, hp, hx1⟩
  have HP := Hid.mk hp
  clear hp
  have hb1 := bthen hbW hx1
  have hbd1 := hbd.under hx1
  have hbr1 := hbr.under hx1
  have hl1 := hbr1.lt
  have hl1d := hbd1.lt
  have hzW := hb1.size
  have y0 := hbd1.cell 0 _ rfl
  have y1 := hbd1.cell 1 _ rfl
  have y2 := hbd1.cell 2 _ rfl
  have y3 := hbd1.cell 3 _ rfl
  clear hbd hbr
  by_cases hC : callP m s = 0
  · obtain ⟨hpl, hpi⟩ := HP.out hC
    have HPF := Hid.mk (file_only hC hpl hpi)
    have hwt := ok_weight (call_good hC).1
    obtain ⟨n, hn⟩ : ∃ n, n = appendD m s zb := ⟨_, rfl⟩
    have hnl : n.fInodes.length = m.fInodes.length := by rw [hn]; exact updI_length
    have hwn : wDisk n ≤ 16777216 := by
      rw [hn]
      unfold appendD
      rw [wDisk_eq]
      have h1 := sumW_updI (l := m.fInodes) (k := fileAt m s) (f := longI zb) (c := zb.length) (fun x => by unfold longI wInode; simp)
      have h2 := updI_length (l := m.fInodes) (k := fileAt m s) (f := longI zb)
      simp only [h2]
      omega
    have HV : Hid (appendP m s zb = fullD m n ∧ appendC m s zb = fullC n) := by
      refine ⟨?_, ?_⟩
      · unfold appendP fullD; rw [hn, hC]; simp
      · unfold appendC fullC; rw [hn, hC]; simp
    have HNX : Hid (n = { m with fInodes := updI m.fInodes p (longI zb) } ∧ n.fNames = m.fNames ∧ n.fSafe = m.fSafe ∧ n.fNext = m.fNext) := by rw [hn]; refine ⟨?_, rfl, rfl, rfl⟩; unfold appendD; rw [HPF.out]
    have HNL := Hid.mk hnl
    have HWN := Hid.mk hwn
    clear hn hnl hwn hpi HPF hwt
    rw [hC]
    go_wp2_with fail
    refine (copyDisk_any _ m w1 (rDisk_good.mono (rDisk_good.below HR.out hb1) hb1.size) HW.out).mono ?_
    rintro e w2 ⟨cs2, F2, rfl, ho2, hN2, hge2, hx2⟩
    obtain ⟨d0, e0, d1, e1, d2, e2, G0, G1, G2, rfl, o0, o1, o2, _, rfl⟩ := oDisk_cells ho2
    have HO0 := Hid.mk o0
    have HO1 := Hid.mk o1
    have HO2 := Hid.mk o2
    have HO := Hid.mk ho2
    have HN := Hid.mk hN2
    have HGE : Hid (∀ b, b ∈ G0 ++ G1 ++ G2 ++ [] → w1.heap.size ≤ b) := hge2
    have HLT : Hid (∀ b, b ∈ G0 ++ G1 ++ G2 ++ [] → b < w2.heap.size) := fun b hb => oDisk_good.lt ho2 b hb
    clear ho2 hN2 hge2 o0 o1 o2
    have hb2 := bthen hb1 hx2
    have hbr2 := hbr1.under hx2
    have hbd2 := hbd1.under hx2
    have hz2 := hx2.size
    obtain ⟨g, cap, hv, hgG, hgl⟩ := ownS.shape HO0.out (by omega)
    simp only [Value.slice.injEq, true_and] at hv
    obtain ⟨rfl, rfl⟩ := hv
    have hNN := HN.out
    rw [List.append_nil, List.append_assoc, List.nodup_append] at hNN
    obtain ⟨cs3, Fk, o3, n3, f3, _, c3, z3, hput⟩ := ownS.split oInode_good HO0.out hNN.1 hpl
    have HNN := Hid.mk hNN
    have HPUT := Hid.mk hput
    have HFK := Hid.mk f3
    have HNK := Hid.mk n3
    obtain ⟨v3, F3, hc3, i3, b3, s3, hF3⟩ := o3
    subst hc3
    obtain ⟨a3, l3, rfl, hlb3⟩ := b3.read
    have k1 := c3 1 _ rfl
    have r1 := z3 (p * 3 + 1)
    have hge1 := HGE.out g (by simp [hgG])
    have hdl : m.fInodes[p].fData.length ≤ 1048576 := by have h1 := sumW_le (f := wInode) hpl; have h2 : wInode m.fInodes[p] = m.fInodes[p].fData.length := rfl; omega
    have hpn : (0 : Int) ≤ (p : Int) := by omega
    have hpn2 : (p : Int) < (m.fInodes.length : Int) := by omega
    obtain ⟨nd, hnd⟩ : ∃ nd, nd = m.fInodes[p] := ⟨_, rfl⟩
    have HND := Hid.mk hnd
    rw [← hnd] at k1 hdl b3 i3 s3 hlb3 HPUT
    have HB3 := Hid.mk b3
    have HLB3 := Hid.mk hlb3
    have HI3 := Hid.mk i3
    have HS3 := Hid.mk s3
    clear c3 z3 hNN hput f3 n3 b3 hlb3 i3 s3 hnd
    have HPL := Hid.mk hpl
    clear y0 y1 y2 y3
    go_wp2_with fail
    obtain ⟨wo, hwo⟩ : ∃ wo, wo = w2.alloc (.cells #[.slice (some ⟨g, 0, none⟩) m.fInodes.length e0, .slice d1 m.fNames.length e1, .slice d2 m.fSafe.length e2, .int .i64 m.fNext] 27) := ⟨_, rfl⟩
    have hbo : Below w2.heap.size w2 wo := by rw [hwo]; exact (Below.refl _ _).alloc (Nat.le_refl _) _
    have hwb : Bw wo w2.heap.size 27 [.slice (some ⟨g, 0, none⟩) m.fInodes.length e0, .slice d1 m.fNames.length e1, .slice d2 m.fSafe.length e2, .int .i64 m.fNext] := by rw [hwo]; exact Bw.new _ _ _
    rw [← hwo]
    clear hwo
    have hbo1 := bthen hb2 hbo
    have hlD : LeafB wo.heap.size wo a3 l3 nd.fData := LeafB.mono (LeafB.below HLB3.out hbo) hbo.size
    have hlB : LeafB wo.heap.size wo ab cb zb := LeafB.mono (HLB.out.below hbo1) hbo1.size
    refine (joinBytes_any a3 ab l3 cb nd.fData zb wo hlD hlB (by omega) (by omega)).mono ?_
    rintro e w3 ⟨vj, Fj, rfl, hoj, hNj, hgej, hx3⟩
    obtain ⟨rj, qj, rfl, _⟩ := hoj.read
    obtain ⟨tl, htl⟩ : ∃ tl, (nd.fData ++ zb).length = tl := ⟨_, rfl⟩
    rw [htl] at hoj ⊢
    clear htl
    have hbo3 := bthen hbo hx3
    have hb3 := bthen hbo1 hx3
    have hwb3 := hwb.under hx3
    have hbd3 := hbd2.under hbo3
    have hbr3 := hbr2.under hbo3
    have k1o := (hbo3.cell (p := ⟨g, p * 3 + 1, none⟩) hgl).trans k1
    have r1o := (hbo3.frozen (p := ⟨g, p * 3 + 1, none⟩) hgl).trans r1
    have hl3 := hwb3.lt
    have hl3d := hbd3.lt
    have hl3g : g < w3.heap.size := Nat.lt_of_lt_of_le hgl hbo3.size
    have hgne : g ≠ w2.heap.size := by omega
    have hgne2 : g ≠ w.heap.size := by omega
    have y0 := hbd3.cell 0 _ rfl
    have y1 := hbd3.cell 1 _ rfl
    have y2 := hbd3.cell 2 _ rfl
    have y3 := hbd3.cell 3 _ rfl
    have x0 := hwb3.cell 0 _ rfl
    have x1 := hwb3.cell 1 _ rfl
    have x2 := hwb3.cell 2 _ rfl
    have x3 := hwb3.cell 3 _ rfl
    have HOJ := Hid.mk hoj
    have HNJ := Hid.mk hNj
    have HGJ : Hid (∀ b, b ∈ Fj → w2.heap.size ≤ b) := fun b hb => Nat.le_trans hbo.size (hgej b hb)
    clear hoj hNj hgej k1 r1 hlD hlB
    go_wp2_with fail
    obtain ⟨ws, hws⟩ : ∃ ws, ws = w3.setCell ⟨g, p * 3 + 1, none⟩ (.slice rj tl qj) := ⟨_, rfl⟩
    have hTs : Turn [g] w3 ws := by rw [hws]; exact Turn.setCell (Turn.refl _ _) (by simp) _
    have hod : ∃ F', oDisk ws [.slice (some ⟨g, 0, none⟩) m.fInodes.length e0, .slice d1 m.fNames.length e1, .slice d2 m.fSafe.length e2, .int .i64 m.fNext] n F' ∧ F'.Nodup ∧ ∀ b, b ∈ F' → w1.heap.size ≤ b := by
      obtain ⟨F', p1, p2, p3⟩ := HPUT.out w3 1 (.slice rj tl qj) (longI zb nd) (Fj ++ []) Fj (by omega) (Turn.ofBelow hbo3) ⟨_, Fj, rfl, HI3.out, HOJ.out, HS3.out, rfl⟩ (by rw [List.append_nil]; exact HNJ.out) (fun b hb => .inr (by simpa using hb)) (fun b hb hb0 => by have := HGJ.out b hb; have := HLT.out b (by simp [hb0]); omega)
      have hfr : ∀ b, b ∈ G1 ++ G2 → ws.heap[b]? = w2.heap[b]? := fun b hb => by
        have hb' : b ∈ G0 ++ G1 ++ G2 ++ [] := by simp at hb ⊢; exact .inr hb
        rw [hTs.block b (by have := HLT.out b hb'; have := hbo3.size; omega) (by intro h; simp at h; exact HNN.out.2.2 g hgG b hb h.symm), hbo3.block b (HLT.out b hb')]
      have t1 := ownS.frame (w' := ws) oEntry_good HO1.out (fun b hb => hfr b (by simp [hb]))
      have t2 := ownS.frame (w' := ws) oEntry_good HO2.out (fun b hb => hfr b (by simp [hb]))
      rw [← hws, HND.out] at p1
      refine ⟨F' ++ G1 ++ G2 ++ [], ?_, ?_, ?_⟩
      · rw [HNX.out.1]
        exact oDisk_put HPL.out p1 t1 t2 hnx
      · rw [List.append_nil, List.append_assoc, List.nodup_append]
        refine ⟨p2, HNN.out.2.1, fun a ha b hb hab => ?_⟩
        subst hab
        rcases p3 a ha with h | h
        · exact HNN.out.2.2 a h a hb rfl
        · have := HGJ.out a h; have := HLT.out a (by simp at hb ⊢; exact .inr hb); omega
      · intro b hb
        simp at hb
        rcases hb with hb | hb
        · rcases p3 b hb with h | h
          · exact HGE.out b (by simp [h])
          · have := HGJ.out b h; omega
        · exact HGE.out b (by simp; exact .inr hb)
    obtain ⟨Fs9, hoS, hNS, hgS⟩ := hod
    have hbds := hbd3.turn hTs (by simp; omega)
    have hbrs := hbr3.turn hTs (by simp; omega)
    have hBs : Below w.heap.size w ws := hb3.trans (hTs.below (fun k hk => by simp at hk; omega) hb3.size)
    rw [← hws]
    clear hws hTs k1o r1o y0 y1 y2 y3 x0 x1 x2 x3
    have hcon := orFull_any _ (some ⟨g, 0, none⟩) d1 d2 e0 e1 e2 m n Fs9 ws (rDisk_good.mono (rDisk_good.below HR.out hBs) hBs.size) HW.out (by rw [HNL.out, HNX.out.2.1, HNX.out.2.2.1, HNX.out.2.2.2]; exact hoS) hNS HWN.out
    rw [HNL.out, HNX.out.2.1, HNX.out.2.2.1, HNX.out.2.2.2] at hcon
    refine hcon.mono ?_
    clear hcon
    rintro e w4 ⟨cs4, F4, rfl, ho4, hN4, hF4, hx4⟩
    have hb4 := bthen hBs hx4
    have hbr4 := hbrs.under hx4
    have hl4 := hbr4.lt
    have hlE := hbrs.lt
    obtain ⟨q0, p0, q1, p1, q2, p2, E0, E1, E2, rfl, _, _, _, _, rfl⟩ := oDisk_cells ho4
    have HGQ : Hid (∀ b, b ∈ E0 ++ E1 ++ E2 ++ [] → w.heap.size + 2 ≤ b) := fun b hb => by rcases hF4 b hb with h | h; (have := hgS b h; omega); (have := hBs.size; omega)
    have hkey : ∀ W', Turn [w.heap.size + 1] w4 W' → oDisk W' [.slice q0 (fullD m n).fInodes.length p0, .slice q1 (fullD m n).fNames.length p1, .slice q2 (fullD m n).fSafe.length p2, .int .i64 (fullD m n).fNext] (fullD m n) (E0 ++ E1 ++ E2 ++ []) ∧ Below w.heap.size w W' := fun W' hT =>
      ⟨oDisk_good.frame ho4 (fun b hb => hT.block b (oDisk_good.lt ho4 b hb) (fun h => by simp at h; have := HGQ.out b hb; omega)), hb4.trans (hT.below (fun k hk => by simp at hk; omega) hb4.size)⟩
    have HKEY := Hid.mk hkey
    have HNQ := Hid.mk hN4
    clear hkey ho4 hN4 hF4
    have ze0 := hbr4.cell 0 _ rfl
    have ze1 := hbr4.cell 1 _ rfl
    have ze2 := hbr4.cell 2 _ rfl
    have ze3 := hbr4.cell 3 _ rfl
    have zf0 := hbr4.free 0
    have zf1 := hbr4.free 1
    have zf2 := hbr4.free 2
    have zf3 := hbr4.free 3
    go_wp2_with fail
    obtain ⟨h1, h3⟩ := HKEY.out _ (show Turn [w.heap.size + 1] w4 ((((w4.setCell ⟨w.heap.size + 1, 0, none⟩ (.slice q0 (fullD m n).fInodes.length p0)).setCell ⟨w.heap.size + 1, 1, none⟩ (.slice q1 (fullD m n).fNames.length p1)).setCell ⟨w.heap.size + 1, 2, none⟩ (.slice q2 (fullD m n).fSafe.length p2)).setCell ⟨w.heap.size + 1, 3, none⟩ (.int .i64 (fullD m n).fNext)) from turn4 _ _ _ _ _ _)
    exact bodyPost_ret (v := .tuple #[.agg #[.slice q0 (fullD m n).fInodes.length p0, .slice q1 (fullD m n).fNames.length p1, .slice q2 (fullD m n).fSafe.length p2, .int .i64 (fullD m n).fNext], .int .i64 (fullC n)]) (by simp [results, Try.results18, go_sem, *]) rfl ⟨[.slice q0 (fullD m n).fInodes.length p0, .slice q1 (fullD m n).fNames.length p1, .slice q2 (fullD m n).fSafe.length p2, .int .i64 (fullD m n).fNext], _, by rw [HV.out.2], by rw [HV.out.1]; exact h1, HNQ.out, fun b hb => by have := HGQ.out b hb; omega, h3⟩
  · have HV : Hid (appendP m s zb = m ∧ appendC m s zb = callP m s) := by refine ⟨?_, ?_⟩ <;> simp [appendP, appendC, hC]
    have hcn : (callP m s == 0) = false := beq_eq_false_iff_ne.2 hC
    have hcn2 : (callP m s != 0) = true := bne_iff_ne.2 hC
    obtain ⟨cp, hcp⟩ : ∃ cp, callP m s = cp := ⟨_, rfl⟩
    rw [hcp] at hcn hcn2 ⊢
    have HCP := Hid.mk hcp
    clear hcp hC HP
    go_wp2_with fail
    refine (copyDisk_any _ (m) w1 (rDisk_good.mono (rDisk_good.below HR.out hb1) hb1.size) HW.out).mono ?_
    rintro e w3 ⟨cs3, F3, rfl, ho3, hN3, hge3, hx3⟩
    have hb3 := bthen hb1 hx3
    have hbr3 := hbr1.under hx3
    have hl3 := hbr3.lt
    have hz3 := hb1.size
    have hlq3 := hbr1.lt
    obtain ⟨q0, p0, q1, p1, q2, p2, G0, G1, G2, rfl, _, _, _, _, rfl⟩ := oDisk_cells ho3
    have hkey : ∀ W', Turn [w.heap.size + 1] w3 W' → oDisk W' [.slice q0 m.fInodes.length p0, .slice q1 m.fNames.length p1, .slice q2 m.fSafe.length p2, .int .i64 m.fNext] (m) (G0 ++ G1 ++ G2 ++ []) ∧ Below w.heap.size w W' := fun W' hT =>
      ⟨oDisk_good.frame ho3 (fun b hb => hT.block b (oDisk_good.lt ho3 b hb) (fun h => by simp at h; have := hge3 b hb; omega)), hb3.trans (hT.below (fun k hk => by simp at hk; omega) hb3.size)⟩
    have HKEY := Hid.mk hkey
    have HNQ := Hid.mk hN3
    have HGQ : Hid (∀ b, b ∈ G0 ++ G1 ++ G2 ++ [] → w.heap.size ≤ b) := fun b hb => by have := hge3 b hb; omega
    clear hkey ho3 hN3 hge3 y0 y1 y2 y3
    have ze0 := hbr3.cell 0 _ rfl
    have ze1 := hbr3.cell 1 _ rfl
    have ze2 := hbr3.cell 2 _ rfl
    have ze3 := hbr3.cell 3 _ rfl
    have zf0 := hbr3.free 0
    have zf1 := hbr3.free 1
    have zf2 := hbr3.free 2
    have zf3 := hbr3.free 3
    go_wp2_with fail
    obtain ⟨h1, h3⟩ := HKEY.out _ (show Turn [w.heap.size + 1] w3 ((((w3.setCell ⟨w.heap.size + 1, 0, none⟩ (.slice q0 m.fInodes.length p0)).setCell ⟨w.heap.size + 1, 1, none⟩ (.slice q1 m.fNames.length p1)).setCell ⟨w.heap.size + 1, 2, none⟩ (.slice q2 m.fSafe.length p2)).setCell ⟨w.heap.size + 1, 3, none⟩ (.int .i64 m.fNext)) from turn4 _ _ _ _ _ _)
    exact bodyPost_ret (v := .tuple #[.agg #[.slice q0 m.fInodes.length p0, .slice q1 m.fNames.length p1, .slice q2 m.fSafe.length p2, .int .i64 m.fNext], .int .i64 cp]) (by simp [results, Try.results18, go_sem, *]) rfl ⟨[.slice q0 m.fInodes.length p0, .slice q1 m.fNames.length p1, .slice q2 m.fSafe.length p2, .int .i64 m.fNext], _, by rw [HV.out.2, HCP.out], by rw [HV.out.1]; exact h1, HNQ.out, HGQ.out, h3⟩

end Go.Proofs.Ytcipekagllikjaa
