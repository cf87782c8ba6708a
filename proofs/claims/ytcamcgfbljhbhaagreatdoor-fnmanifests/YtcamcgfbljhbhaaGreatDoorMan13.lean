/-
  Part 14 of the texts that the proof leans on.
-/
import Derived.Test.YtcamcgfbljhbhaaGreatDoorMan10
import Derived.Test.YtcamcgfbljhbhaaGreatDoorMan11
import Derived.Test.YtcamcgfbljhbhaaGreatDoorMan12
import Derived.Test.YtcamcgfbljhbhaaGreatDoorMan1
import Derived.Test.YtcamcgfbljhbhaaGreatDoorMan0
import Derived.Test.YtcamcgfbljhbhaaGreatDoorMan2
import Derived.Test.YtcamcgfbljhbhaaGreatDoorMan4
set_option linter.unusedVariables false
set_option linter.unusedSimpArgs false
set_option maxRecDepth 10000
set_option maxHeartbeats 20000000

namespace Go.Proofs.YtcamcgfbljhbhaaGreatDoor
open Go.RowKit Go.Maps
theorem wl {F : List Nat} {w w1 : World} (h : aw F w w1 := by repeat (first | with_reducible exact aw.refl _ _ | with_reducible refine aw.setCell ?_ (by simp) _ | with_reducible refine aw.alloc ?_ _ | with_reducible refine aw.drew ?_)) : aw F w w1 := h
theorem lW (cs : List Value) (m : az) (s : ByteArray) (w : World) (hr : bg w.heap.size w cs m) (hs : s.size <= 9223372036854775807) (hw : aZ m <= 1048576) (di : s.size <= 1048576) :
  Calls Tryz.prog 65 #[.agg cs.toArray, .string s] w fun e w' => ∃ cs' : List Value, e = .returned (.tuple #[.agg cs'.toArray, .int .i64 (cK m s)]) /\ (∃ F, ba w' cs' (aX m s) F /\ ∀ b, b ∈ F -> w.heap.size <= b) /\ Below w.heap.size w w' := by
 obtain ⟨iI, Jm, wY, wZ, xa⟩ := info_parts Tryz.jE; have hq := hr; obtain ⟨a0, c0, a1, c1, a2, c2, rfl, hI, gf, gT, kX, _⟩ := hq; have hw2 : m.aa.length + aP aJ m.aa + (m.ae.length + aP a7 m.ae) + (m.ag.length + aP a7 m.ag) <= 1048576 := hw; have HW := Hm hw; have HR := Hm hr; clear hr hI gf gT hw; go_enter Tryz.func65, Tryz.ntmps65; go_wp2_with fail; obtain ⟨wq, bI⟩ : ∃ wq, wq = ((w.alloc (.cells #[.slice a0 m.aa.length c0, .slice a1 m.ae.length c1, .slice a2 m.ag.length c2, .int .i64 m.ah] 27)).alloc (.cells #[.slice none 0 0, .slice none 0 0, .slice none 0 0, .int .i64 0] 27)) := ⟨_, rfl⟩
 have cJ : Below w.heap.size w wq := by rw [bI]; exact Below.alloc (Below.alloc rB (by exact rN) _) (by simp; try omega) _
 have dl : Bw wq (w.heap.size) 27 (cj a0 c0 a1 c1 a2 c2 m) := by rw [bI]; exact Bw.alloc (Bw.dX _ _ _ (by simp)) _
 have hbr : Bw wq (w.heap.size + 1) 27 oz := by rw [bI]; exact Bw.dX _ _ _ (by simp)
 rw [<- bI]; clear bI; refine (eC _ m wq (aq.mono (aq.below HR.out cJ) cJ.size) HW.out).mono ?_; rintro e w1 ⟨FH, F2, rfl, mm, nW, jT, hx1⟩; obtain ⟨d0, e0, d1, e1, d2, e2, G0, G1, G2, rfl, o0, o1, o2, _, rfl⟩ := aC mm; have sH := Hm o0; have vO := Hm o1; have zG := Hm o2; have HO := Hm mm; have HN := Hm nW; have jH : Hid (∀ b, b ∈ G0 ++ G1 ++ G2 ++ [] -> wq.heap.size <= b) := jT; have gZ : Hid (∀ b, b ∈ G0 ++ G1 ++ G2 ++ [] -> b < w1.heap.size) := fun b hb => aj.lt mm b hb
 clear mm nW jT o0 o1 o2; have hb1 := af cJ hx1; have df := dl.under hx1; have dB := hbr.under hx1; have hz1 := hx1.size; have Ln := cJ.size; have hl0 := hbr.lt; obtain ⟨y0, y1, y2, y3⟩ := df.c4; have sF := df.lt; go_wp2_with fail; obtain ⟨wa, gY⟩ : ∃ wa, wa = w1.alloc (.cells #[.slice d0 m.aa.length e0, .slice d1 m.ae.length e1, .slice d2 m.ag.length e2, .int .i64 m.ah] 27) := ⟨_, rfl⟩
 have jL : Below w1.heap.size w1 wa := by rw [gY]; exact rB.alloc rN _
 have oq : Bw wa w1.heap.size 27 (cj d0 e0 d1 e1 d2 e2 m) := by rw [gY]; exact Bw.new _ _ _
 rw [<- gY]; clear gY; have kJ := af hb1 jL; have pD := (df.under jL)
 refine (mE _ m s wa (aq.mono (aq.below HR.out kJ) kJ.size) HW.out hs).mono ?_; rintro e w2 ⟨rfl, hx2⟩; have aQ := af jL hx2; have hb2 := af kJ hx2; have gj := oq.under hx2; have bZ := (dB.under jL).under hx2; have eT := pD.under hx2; clear oq pD df y0 y1 y2 y3; obtain ⟨Du, Dv, Dw, Dx⟩ := gj.c4
 by_cases h1 : aS m s = 1
 ·have ry : Hid (cK m s = 1) := by show _ = _; unfold cK; rw [h1]; rfl
  have HV : Hid (aX m s = m) := by show _ = _; unfold aX; rw [h1]; simp
  rw [h1]; clear h1; obtain ⟨oa, oc, od, mz, og, nL, oh, ol⟩ := bZ.c8; have tB := bZ.lt; have nw : ba w2 (cj d0 e0 d1 e1 d2 e2 m) (aX m s) (G0 ++ G1 ++ G2 ++ []) := by rw [HV.out]; exact aj.frame HO.out (fun b hb => aQ.block b (gZ.out b hb))
  have lX : ∀ b, b ∈ G0 ++ G1 ++ G2 ++ [] -> w.heap.size + 2 <= b := fun b hb => by have := jH.out b hb; omega
  have ny := Hm hb2; have m4 := Hm nw; clear nw; go_wp2_with fail; refine bodyPost_ret (v := .tuple #[.agg #[.slice d0 m.aa.length e0, .slice d1 m.ae.length e1, .slice d2 m.ag.length e2, .int .i64 m.ah], .int .i64 1]) (by simp [results, Tryz.results65, go_sem, *]) rfl ⟨(cj d0 e0 d1 e1 d2 e2 m), by first | rfl | rw [ry.out], ?_, ?_⟩
  ·exact ⟨_, aj.frame m4.out (fun b hb => (show aw [w.heap.size + 1] w2 _ from wl).block b (aj.lt m4.out b hb) (by intro h; simp at h; have := lX b hb; omega)), fun b hb => by first | (have := lX b hb; omega) | (have := lx b hb; omega) | (rcases pq b hb with h2 | h2; (have := kK.out b h2; omega); omega)⟩
  ·exact ny.out.trans ((show aw [w.heap.size + 1] w2 _ from wl).below (fun k hk => by simp at hk; omega) ny.out.size)
 by_cases h0 : aS m s = 0
 ·have ry : Hid (cK m s = 3) := by show _ = _; unfold cK; rw [h0]; rfl
  have HV : Hid (aX m s = m) := by show _ = _; unfold aX; rw [h0]; simp
  rw [h0]; clear h0 h1; obtain ⟨oa, oc, od, mz, og, nL, oh, ol⟩ := bZ.c8; have tB := bZ.lt; have nw : ba w2 (cj d0 e0 d1 e1 d2 e2 m) (aX m s) (G0 ++ G1 ++ G2 ++ []) := by rw [HV.out]; exact aj.frame HO.out (fun b hb => aQ.block b (gZ.out b hb))
  have lX : ∀ b, b ∈ G0 ++ G1 ++ G2 ++ [] -> w.heap.size + 2 <= b := fun b hb => by have := jH.out b hb; omega
  have ny := Hm hb2; have m4 := Hm nw; clear nw; go_wp2_with fail; refine bodyPost_ret (v := .tuple #[.agg #[.slice d0 m.aa.length e0, .slice d1 m.ae.length e1, .slice d2 m.ag.length e2, .int .i64 m.ah], .int .i64 3]) (by simp [results, Tryz.results65, go_sem, *]) rfl ⟨(cj d0 e0 d1 e1 d2 e2 m), by first | rfl | rw [ry.out], ?_, ?_⟩
  ·exact ⟨_, aj.frame m4.out (fun b hb => (show aw [w.heap.size + 1] w2 _ from wl).block b (aj.lt m4.out b hb) (by intro h; simp at h; have := lX b hb; omega)), fun b hb => by first | (have := lX b hb; omega) | (have := lx b hb; omega) | (rcases pq b hb with h2 | h2; (have := kK.out b h2; omega); omega)⟩
  ·exact ny.out.trans ((show aw [w.heap.size + 1] w2 _ from wl).below (fun k hk => by simp at hk; omega) ny.out.size)
 have nt : aS m s = 2 := by
  unfold aS at h1 h0 ⊢
  by_cases ha : (bc m && bH s) = true
  ·rw [if_pos ha] at h0 ⊢
   by_cases hb : hasName m.ae s = true
   ·rw [if_pos hb] at h0; exact absurd rfl h0
   ·rw [if_neg hb]
  ·rw [if_neg ha] at h1; exact absurd rfl h1
 obtain ⟨hgd, JO, _⟩ := ui nt
 have Mh : s.size <= 12 := by
  unfold bH at JO; simp at JO; omega
 have ua := bM.1 hgd; have FD : Hid (kr m.ae) := ua.names.px; have hwt := ru (s := s) hgd Mh; have mW := eB hgd; obtain ⟨N, hN⟩ : ∃ N, N = dV m.ae ⟨s, m.ah⟩ := ⟨_, rfl⟩
 obtain ⟨n, hn⟩ : ∃ n, n = gh m s := ⟨_, rfl⟩
 have HNE := Hm hN; rw [<- hN, <- hn] at hwt; have NG : Hid (aZ n <= 16777216) := by show _ <= _; omega
 have kn : Hid (n.aa = m.aa ++ [yN m] /\ n.ae = N /\ n.ag = m.ag /\ n.ah = m.ah + 1 /\ n.aa.length = m.aa.length + 1) := by
  rw [hn, hN]; refine ⟨rfl, rfl, rfl, rfl, ?_⟩; simp [gh]
 have UB : Hid (n.aa.length <= 1048576 /\ n.ae.length <= 1048576 /\ n.ag.length <= 1048576) := by
  rw [kn.out.2.2.2.2, kn.out.2.1, kn.out.2.2.1]; have := hwt.2.1; refine ⟨?_, ?_, ?_⟩ <;> omega
 have HE : Hid (mB m n = aX m s /\ jo n = cK m s) := by
  have hk := BL nt; rw [<- hn] at hk; refine ⟨?_, ?_⟩
  ·unfold mB aX; rw [hk, nt, <- hn]; simp
  ·unfold jo cK; rw [hk, nt, <- hn]; simp
 have Jx : m.aa.length <= 1000 := by omega
 have hnn : m.ah <= 1000000 := ua.next.2; have abB : 1 <= m.ah := ua.next.1; rw [nt]; clear nt h0 h1 hgd JO ua hwt mW hN hn; have AP := HN.out; rw [List.append_nil, List.append_assoc, List.nodup_append] at AP; have Ds := Hm AP; obtain ⟨Wx, Ll⟩ : ∃ Wx, Wx = w2.alloc (.cells #[.int .i64 m.ah, .slice none 0 0, .int .i64 0] 73) := ⟨_, rfl⟩
 have UA : Wx.heap.size = w2.heap.size + 1 := by rw [Ll]; simp
 have Hk : Below w2.heap.size w2 Wx := by rw [Ll]; exact rB.alloc rN _
 have Sq := af aQ Hk; have JP := gj.under Hk; have cg : Bx Wx w2.heap.size [.int .i64 m.ah, .slice none 0 0, .int .i64 0] := by rw [Ll]; exact Bx.new _ _ _
 have JQ := eT.under Hk; have JR := bZ.under Hk; have O4 := aF.frame (w' := Wx) aH sH.out (fun b hb => Sq.block b (gZ.out b (by simp [hb]))); obtain ⟨xs, nJ, cS⟩ := aF.push aH O4 AP.1
 have hg0 : ∀ k, (Value.slice d0 m.aa.length e0).ownBlock = some k -> wq.heap.size <= k /\ k < w1.heap.size /\ k ∈ G0 := fun k hk => by
  have O5 := xE O4 k hk; exact ⟨jH.out k (by simp [O5]), gZ.out k (by simp [O5]), O5⟩
 have B9 := gj.lt; have QS := eT.lt; have oA := bZ.lt; have O9 := aQ.size
 have O6 : Hid (∀ (v5 : Value) (w5 : World), w5.ownsRow 0 73 3 v5 (m.aa.length + 1) (xs ++ [.int .i64 m.ah, .slice none 0 0, .int .i64 0]) -> Wx.grownBy w5 (Value.slice d0 m.aa.length e0).ownBlock -> (v5.ownBlock = (Value.slice d0 m.aa.length e0).ownBlock ∨ v5.ownBlock = some Wx.heap.size) ->
   ∃ r5 q5, v5 = .slice r5 (m.aa.length + 1) q5 /\ Bw w5 w1.heap.size 27 (cj d0 e0 d1 e1 d2 e2 m) /\ Bw w5 w.heap.size 27 (cj a0 c0 a1 c1 a2 c2 m) /\ Bw w5 (w.heap.size + 1) 27 oz /\ Below w.heap.size w w5 /\ w1.heap.size < w5.heap.size /\
    ∃ F', aF 3 73 fX w5 (.slice r5 (m.aa.length + 1) q5) (m.aa ++ [yN m]) F' /\ aF 2 68 cN w5 (.slice d1 m.ae.length e1) m.ae G1 /\ aF 2 68 cN w5 (.slice d2 m.ag.length e2) m.ag G2 /\ (∀ b, b ∈ F' -> w.heap.size + 2 <= b /\ b ≠ w1.heap.size)) := by
  intro v5 w5 gK fH lh; obtain ⟨r5, q5, rfl⟩ := bk gK; have kR := dE fH
  have hn : ∀ b, b < wq.heap.size ∨ w1.heap.size <= b -> b ∉ (Value.slice d0 m.aa.length e0).ownBlock.toList := fun b hb h => by
   have := hg0 b (by simpa using h); omega
  have QQ : Below wq.heap.size Wx w5 := kR.below (fun k hk => (hg0 k (by simpa using hk)).1) (by omega); obtain ⟨F', p1, p2, p3⟩ := cS w5 (.slice r5 (m.aa.length + 1) q5) [.int .i64 m.ah, .slice none 0 0, .int .i64 0] (yN m) [] gK fH lh (Cf kX Wx) List.nodup_nil (fun b hb => by cases hb); have oo := JP.turn kR (hn _ (by omega))
  have m6 : ∀ b, b ∈ G1 ++ G2 -> w5.heap[b]? = w1.heap[b]? := fun b hb => by
   have hb' : b ∈ G0 ++ G1 ++ G2 ++ [] := by simp at hb ⊢; exact .inr hb
   rw [kR.block b (by have := gZ.out b hb'; omega) (fun h => Ds.out.2.2 b (hg0 b (by simpa using h)).2.2 b hb rfl), Sq.block b (gZ.out b hb')]
  refine ⟨r5, q5, rfl, oo, JQ.turn kR (hn _ (by omega)), JR.turn kR (hn _ (by omega)), (af hb2 Hk).trans (QQ.mono (by omega)), oo.lt, F', p1, aF.frame (w' := w5) ay vO.out (fun b hb => m6 b (by simp [hb])), aF.frame (w' := w5) ay zG.out (fun b hb => m6 b (by simp [hb])), ?_⟩; intro b hb; rcases p3 b hb with h | h | h
  ·have h1 := jH.out b (by simp [h]); have h2 := gZ.out b (by simp [h]); omega
  ·cases h
  ·omega
 have IZ : Hid (∀ b, b ∈ G1 ++ G2 -> w.heap.size + 2 <= b /\ b < w1.heap.size) := fun b hb => by
  have hb' : b ∈ G0 ++ G1 ++ G2 ++ [] := by simp at hb ⊢; exact .inr hb
  have h1 := jH.out b hb'; have h2 := gZ.out b hb'; omega
 obtain ⟨y0, y1, y2, y3⟩ := eT.c4; clear AP cS hg0 O4 Hk UA eT bZ JP JQ JR gj; go_wp2_with (at_builtin; rw [<- Ll]; refine wpList_append_own_at _ rfl _ _ 24 rfl 0 73 iI (.agg #[.int .i64 0, .slice none 0 0, .int .i64 0]) 3 40 Tryz.underlying24 Jm wY wZ xa rfl (by decide) _ _ _ rfl nJ ⟨w2.heap.size, 0, none⟩ 1 1 [.int .i64 m.ah, .slice none 0 0, .int .i64 0] rfl rfl (b8 cg) (by intro u hu; simp at hu; rcases hu with rfl | rfl | rfl <;> rfl) (by unfold maxLen; omega) (by omega) (Nat.zero_le _) ?_; intro v5 w5 gK fH pU lh; obtain ⟨r5, q5, rfl, oo, rX, rY, Br, R7, F5, O7, YK, YL, Lm⟩ := O6.out v5 w5 gK fH lh; clear gK fH lh pU; have Wt := rX.lt; have Wu := rY.lt; have x0 := oo.cell 0 _ rfl; have x1 := oo.cell 1 _ rfl; have x2 := oo.cell 2 _ rfl; have x3 := oo.cell 3 _ rfl; have f0 := oo.free 0; have f3 := oo.free 3; have z0 := rX.cell 0 _ rfl; have z1 := rX.cell 1 _ rfl; have z2 := rX.cell 2 _ rfl; have z3 := rX.cell 3 _ rfl); obtain ⟨wr, hwr⟩ : ∃ wr, wr = w5.setCell ⟨w1.heap.size, 0, none⟩ (.slice r5 (m.aa.length + 1) q5) := ⟨_, rfl⟩
 have NK : aw [w1.heap.size] w5 wr := by rw [hwr]; exact aw.setCell (aw.refl _ _) (by simp) _
 have Ww : Bw wr w1.heap.size 27 [.slice r5 (m.aa.length + 1) q5, .slice d1 m.ae.length e1, .slice d2 m.ag.length e2, .int .i64 m.ah] := by rw [hwr]; exact oo.put 0 _
 have JT : ∀ b, b ∈ G1 ++ G2 -> b < w5.heap.size /\ b ∉ [w1.heap.size] := fun b hb => by have := IZ.out b hb; simp; omega
 have hOr := aF.frame (w' := wr) aH O7 (fun b hb => NK.block b (aF.lt aH O7 b hb) (by intro h; simp at h; exact (Lm b hb).2 h)); have YM := aF.frame (w' := wr) ay YK (fun b hb => NK.block b (JT b (by simp [hb])).1 (JT b (by simp [hb])).2); have Ui := aF.frame (w' := wr) ay YL (fun b hb => NK.block b (JT b (by simp [hb])).1 (JT b (by simp [hb])).2); have Wy := rX.turn NK (by simp; omega); have Wz := rY.turn NK (by simp; omega); have hBr : Below w.heap.size w wr := Br.trans (NK.below (fun k hk => by simp at hk; omega) Br.size); have hzr := NK.size; have YN := Hm hOr; have Uv := Hm YM; have YO := Hm Ui; have YP := Hm Lm; rw [<- hwr]; clear hwr NK x0 x1 x2 x3 f0 f3 z0 z1 z2 z3 oo rX rY O7 YK YL JT hOr YM Ui Lm Br; have li := xy d1 _ e1 m.ae ⟨s, m.ah⟩ wr rfl (by omega) (aF.leaf ay Uv.out) FD.out hs kX; rw [<- HNE.out] at li; refine li.mono ?_; clear li; rintro e w6 ⟨r6, q6, F6, rfl, gL, Lp, eA⟩; have I0 := Hm gL; have wj := Hm Lp; clear gL Lp; have Ch := Ww.under eA; have Sr := Wy.under eA; have AQ := Wz.under eA; have QT := af hBr eA; have Mj := Ch.lt; have abD := Sr.lt; have hz6 := eA.size; have g1 := Ch.free 1; have g3 := Ch.free 3; obtain ⟨Mk, Ml, Mm, Mn⟩ := Ch.c4; obtain ⟨Pa, Pb, Pc, Pf⟩ := Sr.c4; go_wp2_with fail; obtain ⟨ws, jh⟩ : ∃ ws, ws = (w6.setCell ⟨w1.heap.size, 1, none⟩ (.slice r6 N.length q6)).setCell ⟨w1.heap.size, 3, none⟩ (.int .i64 (m.ah + 1)) := ⟨_, rfl⟩
 have jw : aw [w1.heap.size] w6 ws := by rw [jh]; exact aw.setCell (aw.setCell (aw.refl _ _) (by simp) _) (by simp) _
 have jd := AQ.turn jw (by simp; omega); have l8 : Below w.heap.size w ws := QT.trans (jw.below (fun k hk => by simp at hk; omega) QT.size)
 have hne : ∀ b, b < wr.heap.size -> b ≠ w1.heap.size -> ws.heap[b]? = wr.heap[b]? := fun b hb h1 => by
  rw [jw.block b (by omega) (by simpa using h1), eA.block b hb]
 have t0 := aF.frame (w' := ws) aH YN.out (fun b hb => hne b (aF.lt aH YN.out b hb) (YP.out b hb).2); have t2 := aF.frame (w' := ws) ay YO.out (fun b hb => hne b (aF.lt ay YO.out b hb) (by have := IZ.out b (by simp [hb]); omega)); have t1 := aF.frame (w' := ws) ay I0.out (fun b hb => jw.block b (aF.lt ay I0.out b hb) (by intro h; simp at h; have := wj.out b hb; omega))
 have kK : Hid (∀ b, b ∈ F5 ++ F6 ++ G2 -> w.heap.size + 2 <= b) := by
  intro b hb; rw [List.mem_append, List.mem_append] at hb; rcases hb with (hb | hb) | hb
  ·exact (YP.out b hb).1
  ·have := wj.out b hb; omega
  ·exact (IZ.out b (by simp [hb])).1
 have tv := Hm l8; rw [<- jh]; clear jh jw Mk Ml Mm Mn Pa Pb Pc Pf g1 g3 hne; have hcon := mC _ r5 r6 d2 q5 q6 e2 m n F5 F6 G2 ws (aq.mono (aq.below HR.out tv.out) tv.out.size) HW.out (by rw [kn.out.2.2.2.2, kn.out.1]; exact t0) (by rw [kn.out.2.1]; exact t1) (by rw [kn.out.2.2.1]; exact t2) (by rw [kn.out.2.2.2.1]; exact WalkArith.wf_i64 (by omega)) NG.out UB.out; rw [kn.out.2.2.2.2, kn.out.2.1, kn.out.2.2.1, kn.out.2.2.2.1] at hcon; clear t0 t1 t2; refine hcon.mono ?_; clear hcon; rintro e w7 ⟨Hj, F4, rfl, jc, pq, j5⟩; have FO := af tv.out j5; have Pg := jd.under j5; have hl7 := Pg.lt; have UC := tv.out.size; have QR := jd.lt; rw [HE.out.1] at jc; obtain ⟨q0, p0, q1, p1, q2, p2, E0, E1, E2, rfl, _, _, _, _, rfl⟩ := aC jc
 have hkey : ∀ W', aw [w.heap.size + 1] w7 W' -> (∃ F, ba W' [.slice q0 (aX m s).aa.length p0, .slice q1 (aX m s).ae.length p1, .slice q2 (aX m s).ag.length p2, .int .i64 (aX m s).ah] (aX m s) F /\ ∀ b, b ∈ F -> w.heap.size <= b) /\ Below w.heap.size w W' := fun W' hT =>
  ⟨⟨_, aj.frame jc (fun b hb => hT.block b (aj.lt jc b hb) (fun h => by simp at h; rcases pq b hb with h2 | h2; (have := kK.out b h2; omega); omega)), fun b hb => by first | (have := lX b hb; omega) | (have := lx b hb; omega) | (rcases pq b hb with h2 | h2; (have := kK.out b h2; omega); omega)⟩, FO.trans (hT.below (fun k hk => by simp at hk; omega) FO.size)⟩
 have HKEY := Hm hkey; clear hkey jc pq; obtain ⟨oa, od, og, oh⟩ := Pg.c4; obtain ⟨oc, mz, nL, ol⟩ := Pg.f4; have Mo : Hid (jo n = cK m s) := HE.out.2; rw [Mo.out]; go_wp2_with fail; obtain ⟨h1, h3⟩ := HKEY.out _ (show aw [w.heap.size + 1] w7 ((((w7.setCell ⟨w.heap.size + 1, 0, none⟩ (.slice q0 (aX m s).aa.length p0)).setCell ⟨w.heap.size + 1, 1, none⟩ (.slice q1 (aX m s).ae.length p1)).setCell ⟨w.heap.size + 1, 2, none⟩ (.slice q2 (aX m s).ag.length p2)).setCell ⟨w.heap.size + 1, 3, none⟩ (.int .i64 (aX m s).ah)) from bE _ _ _ _ _ _); exact bodyPost_ret (v := .tuple #[.agg #[.slice q0 (aX m s).aa.length p0, .slice q1 (aX m s).ae.length p1, .slice q2 (aX m s).ag.length p2, .int .i64 (aX m s).ah], .int .i64 (cK m s)]) (by simp [results, Tryz.results65, go_sem, *]) rfl ⟨[.slice q0 (aX m s).aa.length p0, .slice q1 (aX m s).ae.length p1, .slice q2 (aX m s).ag.length p2, .int .i64 (aX m s).ah], rfl, h1, h3⟩
theorem tE (cs : List Value) (m : az) (s : ByteArray) (w : World) (hr : bg w.heap.size w cs m) (hs : s.size <= 9223372036854775807) (hw : aZ m <= 1048576) (di : s.size <= 1048576) :
  Calls Tryz.prog 65 #[.agg cs.toArray, .string s] w fun e w' => ∃ cs' : List Value, e = .returned (.tuple #[.agg cs'.toArray, .int .i64 (cK m s)]) /\ bg w'.heap.size w' cs' (aX m s) /\ Below w.heap.size w w' :=
 (lW cs m s w hr hs hw di).mono fun e w' ⟨cs', he, ⟨F, ho, _⟩, hx⟩ => ⟨cs', he, aj.read ho, hx⟩
theorem j6 (cs : List Value) (m : az) (s : ByteArray) (vb : Value) (zb : List Int) (w : World) (hr : bg w.heap.size w cs m) (hs : s.size <= 9223372036854775807) (Ss : Av w.heap.size w vb zb) (hw : aZ m <= 1048576) (di : s.size <= 1048576) (gj : zb.length <= 2097152) :
  Calls Tryz.prog 66 #[.agg cs.toArray, .string s, vb] w fun e w' => ∃ (cs' : List Value) (F : List Nat), e = .returned (.tuple #[.agg cs'.toArray, .int .i64 (dD m s zb)]) /\ ba w' cs' (bh m s zb) F /\ (∀ b, b ∈ F -> w.heap.size <= b) /\ Below w.heap.size w w' := by
 obtain ⟨ab, cb, rfl, zw⟩ := Ss; have UD := Hm zw; clear zw; obtain ⟨iB, RB, Jq, Jr, Js⟩ := info_parts Tryz.wI; have hq := hr; obtain ⟨a0, c0, a1, c1, a2, c2, rfl, hI, gf, gT, kX, _⟩ := hq; have hw2 : m.aa.length + aP aJ m.aa + (m.ae.length + aP a7 m.ae) + (m.ag.length + aP a7 m.ag) <= 1048576 := hw; have HW := Hm hw; have HR := Hm hr; clear hr hI gf gT hw; go_enter Tryz.func66, Tryz.ntmps66; go_wp2_with fail; obtain ⟨wq, bI⟩ : ∃ wq, wq = ((w.alloc (.cells #[.slice a0 m.aa.length c0, .slice a1 m.ae.length c1, .slice a2 m.ag.length c2, .int .i64 m.ah] 27)).alloc (.cells #[.slice none 0 0, .slice none 0 0, .slice none 0 0, .int .i64 0] 27)) := ⟨_, rfl⟩
 have cJ : Below w.heap.size w wq := by rw [bI]; exact Below.alloc (Below.alloc rB (by exact rN) _) (by simp; try omega) _
 have dl : Bw wq (w.heap.size) 27 (cj a0 c0 a1 c1 a2 c2 m) := by rw [bI]; exact Bw.alloc (Bw.dX _ _ _ (by simp)) _
 have hbr : Bw wq (w.heap.size + 1) 27 oz := by rw [bI]; exact Bw.dX _ _ _ (by simp)
 rw [<- bI]; clear bI; refine (eC _ m wq (aq.mono (aq.below HR.out cJ) cJ.size) HW.out).mono ?_; rintro e w1 ⟨FH, F2, rfl, mm, nW, jT, hx1⟩; obtain ⟨d0, e0, d1, e1, d2, e2, G0, G1, G2, rfl, o0, o1, o2, _, rfl⟩ := aC mm; have sH := Hm o0; have vO := Hm o1; have zG := Hm o2; have HO := Hm mm; have HN := Hm nW; have jH : Hid (∀ b, b ∈ G0 ++ G1 ++ G2 ++ [] -> wq.heap.size <= b) := jT; have gZ : Hid (∀ b, b ∈ G0 ++ G1 ++ G2 ++ [] -> b < w1.heap.size) := fun b hb => aj.lt mm b hb
 clear mm nW jT o0 o1 o2; have hb1 := af cJ hx1; have df := dl.under hx1; have dB := hbr.under hx1; have hz1 := hx1.size; have Ln := cJ.size; have hl0 := hbr.lt; obtain ⟨y0, y1, y2, y3⟩ := df.c4; have sF := df.lt; go_wp2_with fail; obtain ⟨wa, gY⟩ : ∃ wa, wa = w1.alloc (.cells #[.slice d0 m.aa.length e0, .slice d1 m.ae.length e1, .slice d2 m.ag.length e2, .int .i64 m.ah] 27) := ⟨_, rfl⟩
 have jL : Below w1.heap.size w1 wa := by rw [gY]; exact rB.alloc rN _
 have oq : Bw wa w1.heap.size 27 (cj d0 e0 d1 e1 d2 e2 m) := by rw [gY]; exact Bw.new _ _ _
 rw [<- gY]; clear gY; have kJ := af hb1 jL; have pD := (df.under jL)
 refine (mE _ m s wa (aq.mono (aq.below HR.out kJ) kJ.size) HW.out hs).mono ?_; rintro e w2 ⟨rfl, hx2⟩; have aQ := af jL hx2; have hb2 := af kJ hx2; have gj := oq.under hx2; have bZ := (dB.under jL).under hx2; have eT := pD.under hx2; clear oq pD df y0 y1 y2 y3
 by_cases hC : aS m s = 0
 ·have hwt := eB (cW hC).1
  obtain ⟨n, hn⟩ : ∃ n, n = ir m s zb := ⟨_, rfl⟩
  have Dp : n.aa.length = m.aa.length := by rw [hn]; exact jD
  have AJ : aZ n <= 16777216 := by
   rw [hn]; unfold ir; rw [cR]; have h1 := nU (l := m.aa) (k := fileAt m s) (f := ni zb) (c := zb.length) (fun x => by unfold ni aJ; simp); have h2 := jD (l := m.aa) (k := fileAt m s) (f := ni zb); simp only [h2]; omega
  have WA : aY n = n := by rw [hn]; exact BI hC
  have HE : Hid (mB m n = bh m s zb /\ jo n = dD m s zb) := by
   refine ⟨?_, ?_⟩
   ·unfold mB bh; rw [WA, hn, hC]; simp
   ·unfold jo dD; rw [WA, hn, hC]; simp
  have abE : Hid (n = ir m s zb) := hn; have kn : Hid (n.aa = jQ m.aa (fileAt m s) (ni zb) /\ n.ae = m.ae /\ n.ag = m.ag /\ n.ah = m.ah) := by rw [hn]; exact ⟨rfl, rfl, rfl, rfl⟩
  have yE := Hm Dp; have Mi := Hm AJ; have HWT := Hm hwt; obtain ⟨ac, WB⟩ : ∃ ac, dD m s zb = ac := ⟨_, rfl⟩
  have HV : Hid (dD m s zb = ac) := WB; have WC : Hid (jo n = ac) := HE.out.2.trans WB; clear hn Dp AJ WA hwt WB; rw [hC]; have hgd := cW hC; obtain ⟨hk, hid, yV⟩ := mh hgd.1 hgd.2.2; obtain ⟨Eg, I1⟩ := wE yV; have hnz : iq m.ae s = (nameAt m.ae s : Int) := by unfold iq; rw [hgd.2.2, if_pos rfl]
  have OP : ij m.aa (eK m.ae s) = (placeOf m.aa (eK m.ae s) : Int) := by unfold ij; rw [yV, if_pos rfl]
  have JU : ∀ W', Below w2.heap.size w2 W' -> ba W' (cj d0 e0 d1 e1 d2 e2 m) m (G0 ++ G1 ++ G2 ++ []) := fun W' hb => aj.frame HO.out (fun b kB => (af aQ hb).block b (gZ.out b kB))
  have xF : ∀ W', Below w2.heap.size w2 W' -> bw 2 cy W'.heap.size W' d1 e1 m.ae := fun W' hb => aF.leaf ay (aF.frame ay vO.out (fun b kB => (af aQ hb).block b (gZ.out b (by simp [kB]))))
  obtain ⟨b1, o1, rfl, eH, cs1, JV, nI, rfl, uE⟩ := (xF _ rB).2.2 (nameAt m.ae s) hk; have JW := nI 1 _ rfl; rw [<- hid] at JW; have q1 : ∀ W', Below w2.heap.size w2 W' -> W'.cell? ⟨b1, o1 + nameAt m.ae s * 2 + 1, none⟩ = some (.int .i64 (eK m.ae s)) := fun W' hb => (hb.cell (p := ⟨b1, o1 + nameAt m.ae s * 2 + 1, none⟩) eH).trans JW
  have I2 := fun W' (hb : Below w2.heap.size w2 W') => om (some ⟨b1, o1, none⟩) _ e1 m.ae s W' W'.heap.size rfl (by omega) (xF W' hb).2.2
  have zC := fun W' (hb : Below w2.heap.size w2 W') => pP _ m (eK m.ae s) W' (aj.read (JU W' hb)) (by omega)
  simp only [hnz] at I2; simp only [OP] at zC; obtain ⟨p, Lj⟩ : ∃ p, p = placeOf m.aa (eK m.ae s) := ⟨_, rfl⟩
  have QM : Hid (p = fileAt m s) := Lj; rw [<- Lj] at zC Eg; have hpl : p < m.aa.length := Eg; have RM : (0 : Int) <= (nameAt m.ae s : Int) := by omega
  have IY : (nameAt m.ae s : Int) < (m.ae.length : Int) := by omega
  have WD : ∀ W', Below w2.heap.size w2 W' -> W'.cell? ⟨w1.heap.size, 0, none⟩ = some (.slice d0 m.aa.length e0) := fun W' hb => (gj.under hb).cell 0 _ rfl
  have Su : ∀ W', Below w2.heap.size w2 W' -> W'.cell? ⟨w1.heap.size, 1, none⟩ = some (.slice (some ⟨b1, o1, none⟩) m.ae.length e1) := fun W' hb => (gj.under hb).cell 1 _ rfl
  have WE : ∀ W', Below w2.heap.size w2 W' -> W'.cell? ⟨w1.heap.size, 2, none⟩ = some (.slice d2 m.ag.length e2) := fun W' hb => (gj.under hb).cell 2 _ rfl
  have WF : ∀ W', Below w2.heap.size w2 W' -> W'.cell? ⟨w1.heap.size, 3, none⟩ = some (.int .i64 m.ah) := fun W' hb => (gj.under hb).cell 3 _ rfl
  clear JU xF nI JV JW uE hid yV I1 hnz OP Eg hgd; have Ph := Hm hC; have YQ := Hm hk; clear Lj hC hk; generalize nameAt m.ae s = na at *; generalize eK m.ae s = QU at *; go_wp2_with fail; refine kz w2 (fun hZ => ?_); refine uq 0 ?_; refine uq 1 ?_; refine uq 2 ?_; refine uq 3 ?_; refine uq 4 ?_; refine uq 5 ?_; refine bf 6 rfl fun K hK => ?_
  go_simp; refine Calls.mono (I2 _ hZ) ?_; rintro e OI ⟨rfl, di⟩; have B5 := a8 di; clear di; go_wp2_with fail; refine aL hK (af hZ B5) (fun hZ => ?_); clear hK K; refine uq 7 ?_; refine uq 8 ?_; refine uq 9 ?_; refine bf 10 rfl fun K hK => ?_
  go_simp; refine Calls.mono (zC _ hZ) ?_; rintro e OM ⟨rfl, uA⟩; go_wp2_with fail; refine aL hK (af hZ uA) (fun hZ => ?_); clear hK K; refine uq 11 ?_; refine dC ?_; obtain ⟨wo, Bu⟩ : ∃ wo, wo = OM := ⟨_, rfl⟩
  rw [<- Bu] at hZ ⊢; clear Bu I2 zC WD Su WE WF q1; have ej := af aQ hZ; have JX := hZ; have xG := gj.under hZ; have abG := QM; have abH := ej; have WG : Below w.heap.size w wo := af hb1 ej; clear aQ; obtain ⟨g, cap, hv, Mp, iV⟩ := aF.shape sH.out (by omega); simp only [Value.slice.injEq, true_and] at hv; obtain ⟨rfl, rfl⟩ := hv; have AP := HN.out; rw [List.append_nil, List.append_assoc, List.nodup_append] at AP; obtain ⟨uB, Fk, o3, n3, f3, _, c3, z3, hput⟩ := aF.split aH sH.out AP.1 hpl; have Ds := Hm AP; have JY := Hm hput; have Pi := Hm f3; have HNK := Hm n3; obtain ⟨v3, F3, hc3, i3, b3, s3, WH⟩ := o3; subst hc3; obtain ⟨a3, l3, rfl, Eh⟩ := b3.read; have k1 := c3 1 _ rfl; have r1 := z3 (p * 3 + 1); have Ei := jH.out g (by simp [Mp]); have vG : m.aa[p].aG.length <= 1048576 := by have h1 := jt (f := aJ) hpl; have h2 : aJ m.aa[p] = m.aa[p].aG.length := rfl; omega
  have RO : (0 : Int) <= (p : Int) := by omega
  have Pj : (p : Int) < (m.aa.length : Int) := by omega
  obtain ⟨nd, zz⟩ : ∃ nd, nd = m.aa[p] := ⟨_, rfl⟩
  have WI := Hm zz; rw [<- zz] at k1 vG b3 i3 s3 Eh JY; have FP := Hm b3; have Sv := Hm Eh; have WJ := Hm i3; have dx := Hm s3; clear c3 z3 AP hput f3 n3 b3 Eh i3 s3 zz; have cQ := Hm hpl; clear gj; have I3 := (ej.cell (p := ⟨g, p * 3 + 1, none⟩) iV).trans k1; have UE := (ej.frozen (p := ⟨g, p * 3 + 1, none⟩) iV).trans r1; have x0 := xG.cell 0 _ rfl; have YR : Fk = (Value.ownBlock (.slice a3 nd.aG.length l3)).toList := by rw [WH, List.append_nil]; exact FP.out.2.2
  have YS := ej.size; have NL : wo.ownsRow 0 5 1 (.slice a3 nd.aG.length l3) nd.aG.length (nd.aG.map (Value.int .u8)) := (FP.out.frame (fun b hb => ej.block b (gZ.out b (by have h := (Pi.out b (by rw [WH]; simpa using hb)).1; simp [h])))).1; have Sw : Rd .u8 w.heap.size wo ab zb := (UD.out.below WG).2.2.1; have HOD := Hm NL; have HRB := Hm Sw; have YT := Hm YR; have BP : g ∉ Fk := fun h => (Pi.out g h).2 rfl
  have mW : w1.heap.size ∉ g :: Fk := by
   intro h; rcases List.mem_cons.1 h with h | h
   ·omega
   ·have h2 := gZ.out _ (show w1.heap.size ∈ G0 ++ G1 ++ G2 ++ [] by have h3 := (Pi.out _ h).1; simp [h3]); omega
  have Jn : Hid (g ≠ w1.heap.size) := by show _ ≠ _; omega
  clear k1 r1 NL Sw YR; go_wp2_with fail; refine vE (fun W => W.cell? ⟨w1.heap.size, 0, none⟩ = some (.slice (some ⟨g, 0, none⟩) m.aa.length e0) /\ aw (g :: Fk) wo W) (⟨x0, aw.bz (Below.drew rB)⟩) (fun hZ => ?_); refine uq 0 ?_; refine uq 1 ?_; refine uq 2 ?_; refine uq 3 ?_; refine uq 4 ?_; refine uq 5 ?_; refine uq 6 ?_; refine uq 7 ?_; refine uq 9 ?_; refine bf 8 rfl fun K hK => ?_
  go_simp
  skip
  refine aL hK (⟨x0, aw.bz (Below.drew rB)⟩) (fun hZ => ?_); clear hK K; refine bf 10 rfl fun K hK => ?_
  refine a6 wo.drew rfl _ _ 22 22 rfl 0 5 iB (.int .u8 0) 1 1 Tryz.underlying22 RB Jq Jr Js rfl (.slice a3 nd.aG.length l3) nd.aG.length (nd.aG.map (Value.int .u8)) rfl HOD.out (.slice ab zb.length cb) rfl zb.length (zb.map (Value.int .u8)) (Src.rd Tryz.underlying22 rfl (B := w.heap.size) HRB.out) (by unfold maxLen; omega) (by omega) (Nat.zero_le _) ?_; intro v9 w9 zI Sx AR; obtain ⟨r9, q9, rfl⟩ := bk zI; obtain ⟨tl, GZ⟩ : ∃ tl, nd.aG.length + zb.length = tl := ⟨_, rfl⟩
  rw [GZ] at zI AR ⊢; have HTL := Hm GZ; have mF : aw Fk wo w9 := (aw.bz (Below.drew rB)).trans (aw.eZ Sx (fun k hk => by rw [YT.out]; simp [hk])); have WK := (mF.cell (p := ⟨w1.heap.size, 0, none⟩) xG.lt (fun h => mW (List.mem_cons_of_mem _ h))).trans x0; have HW9 := Hm zI; have QV := Hm mF; have WL := Hm AR; clear zI mF AR GZ Sx; refine aL hK (⟨WK, QV.out.mono (fun k hk => List.mem_cons_of_mem _ hk)⟩) (fun hZ => ?_); clear hK K; refine uq 11 ?_; refine uq 12 ?_; refine bf 13 rfl fun K hK => ?_
  go_simp; have k19 := (QV.out.cell (p := ⟨g, p * 3 + 1, none⟩) (Nat.lt_of_lt_of_le iV YS) BP).trans I3; have r19 : w9.frozen? ⟨g, p * 3 + 1, none⟩ = false := (World.frozen?_of_block (w := wo) (QV.out.block g (Nat.lt_of_lt_of_le iV YS) BP)).trans UE; go_simp; refine aL hK (⟨(World.cell?_setCell_other _ _ _ _ (fun h => Jn.out (congrArg Addr.block h))).trans WK, aw.setCell (F := g :: Fk) (QV.out.mono (fun k hk => List.mem_cons_of_mem _ hk)) (by simp) _⟩) (fun hZ => ?_); clear hK K; refine dC ?_; obtain ⟨ws, jh⟩ : ∃ ws, ws = w9.setCell ⟨g, p * 3 + 1, none⟩ (.slice r9 tl q9) := ⟨_, rfl⟩
  have jw : aw [g] w9 ws := by rw [jh]; exact aw.setCell (aw.refl _ _) (by simp) _
  have QW : aw (g :: Fk) wo ws := QV.out.mono (fun k hk => List.mem_cons_of_mem _ hk) |>.trans (jw.mono (fun k hk => by simp at hk; simp [hk]))
  have ut : ∀ b, b ∈ g :: Fk -> wq.heap.size <= b := by
   intro b hb; rcases List.mem_cons.1 hb with h | h
   ·omega
   ·exact jH.out b (by have h3 := (Pi.out _ h).1; simp [h3])
  have vp : lO 5 w9 (.slice r9 tl q9) (nd.aG ++ zb) (Value.ownBlock (.slice r9 tl q9)).toList := ⟨cM HW9.out (by rw [<- HTL.out]; simp) (by simp), (fun z hz => by rcases List.mem_append.1 hz with h | h; (exact FP.out.2.1 z h); (exact UD.out.2.2.2 z h)), rfl⟩
  have YU : ∀ b, b ∈ (Value.ownBlock (.slice r9 tl q9)).toList -> b ∈ Fk ∨ b ∈ [wo.heap.size] := by
   intro b hb; rcases WL.out with h | h
   ·left; rw [YT.out, <- h]; exact hb
   ·right; rw [h] at hb; simpa using hb
  obtain ⟨F', p1, p2, p3⟩ := JY.out w9 1 (.slice r9 tl q9) (ni zb nd) ((Value.ownBlock (.slice r9 tl q9)).toList ++ []) [wo.heap.size] (by omega) ((aw.bz ej).trans QV.out) ⟨_, _, rfl, WJ.out, vp, dx.out, rfl⟩ (by rw [List.append_nil]; exact bD _) (fun b hb => YU b (by simpa using hb)) (fun b hb hb0 => by simp at hb; have := gZ.out b (by simp [hb0]); omega)
  have m6 : ∀ b, b ∈ G1 ++ G2 -> ws.heap[b]? = w1.heap[b]? := fun b hb => by
   have hb' : b ∈ G0 ++ G1 ++ G2 ++ [] := by simp at hb ⊢; exact .inr hb
   have hbl := gZ.out b hb'
   rw [QW.block b (by omega) (by
    intro h; rcases List.mem_cons.1 h with h | h
    ·exact Ds.out.2.2 g Mp b hb h.symm
    ·exact Ds.out.2.2 b (Pi.out b h).1 b hb rfl), ej.block b hbl]
  have t1 := aF.frame (w' := ws) ay vO.out (fun b hb => m6 b (by simp [hb])); have t2 := aF.frame (w' := ws) ay zG.out (fun b hb => m6 b (by simp [hb])); rw [<- jh, WI.out] at p1; have Pk : Hid (aF 3 73 fX ws (.slice (some ⟨g, 0, none⟩) m.aa.length e0) n.aa F') := by rw [kn.out.1, <- QM.out, sR cQ.out]; exact p1
  have Ej := Hm t1; have vk := Hm t2
  have kK : Hid (∀ b, b ∈ F' ++ G1 ++ G2 -> w.heap.size + 2 <= b) := by
   intro b hb; rw [List.append_assoc, List.mem_append] at hb; rcases hb with hb | hb
   ·rcases p3 b hb with h | h
    ·have := jH.out b (by simp [h]); omega
    ·simp at h; omega
   ·have := jH.out b (by simp at hb ⊢; exact .inr hb); omega
  have Mq := (eT.below JX eT.lt)
  have Mr := (bZ.below JX bZ.lt)
  have oT := Mq.turn QW (fun h => by have := ut _ h; omega); have jd := Mr.turn QW (fun h => by have := ut _ h; omega); have Ci := xG.turn QW mW; have l8 : Below w.heap.size w ws := WG.trans (QW.below (fun k hk => by have := ut k hk; omega) WG.size); have tv := Hm l8; rw [<- jh]; clear jh jw QW t1 t2 p1 p3 m6 vp YU hZ WK k19 r19 x0 I3 UE; obtain ⟨y0, y1, y2, y3⟩ := oT.c4; obtain ⟨x0, x1, x2, x3⟩ := Ci.c4; go_wp2_with fail; have hcon := mC _ (some ⟨g, 0, none⟩) (some ⟨b1, o1, none⟩) d2 e0 e1 e2 m n F' G1 G2 ws (aq.mono (aq.below HR.out tv.out) tv.out.size) HW.out (by rw [yE.out]; exact Pk.out) (by rw [kn.out.2.1]; exact Ej.out) (by rw [kn.out.2.2.1]; exact vk.out) (by rw [kn.out.2.2.2]; exact kX) Mi.out (by rw [yE.out, kn.out.2.1, kn.out.2.2.1]; have := HWT.out; omega); rw [yE.out, kn.out.2.1, kn.out.2.2.1, kn.out.2.2.2] at hcon; refine hcon.mono ?_; clear hcon; rintro e w4 ⟨Hj, F4, rfl, jc, pq, mX⟩; have hb4 := af tv.out mX; have lD := jd.under mX; have hl4 := lD.lt; have UC := tv.out.size; have QR := jd.lt; rw [HE.out.1] at jc; obtain ⟨q0, p0, q1, p1, q2, p2, E0, E1, E2, rfl, _, _, _, _, rfl⟩ := aC jc
  have hkey : ∀ W', aw [w.heap.size + 1] w4 W' -> ba W' [.slice q0 (bh m s zb).aa.length p0, .slice q1 (bh m s zb).ae.length p1, .slice q2 (bh m s zb).ag.length p2, .int .i64 (bh m s zb).ah] (bh m s zb) (E0 ++ E1 ++ E2 ++ []) /\ Below w.heap.size w W' := fun W' hT =>
   ⟨(aj.frame jc (fun b hb => hT.block b (aj.lt jc b hb) (fun h => by simp at h; rcases pq b hb with h2 | h2; (have := kK.out b h2; omega); omega))), hb4.trans (hT.below (fun k hk => by simp at hk; omega) hb4.size)⟩
  have pW : Hid (∀ b, b ∈ E0 ++ E1 ++ E2 ++ [] -> w.heap.size <= b) := fun b hb => by rcases pq b hb with h2 | h2; (have := kK.out b h2; omega); omega
  have HKEY := Hm hkey; clear hkey jc pq; obtain ⟨oa, od, og, oh⟩ := lD.c4; obtain ⟨oc, mz, nL, ol⟩ := lD.f4; have Mo : Hid (jo n = ac) := WC.out; rw [Mo.out]; go_wp2_with fail; obtain ⟨h1, h3⟩ := HKEY.out _ (show aw [w.heap.size + 1] w4 ((((w4.setCell ⟨w.heap.size + 1, 0, none⟩ (.slice q0 (bh m s zb).aa.length p0)).setCell ⟨w.heap.size + 1, 1, none⟩ (.slice q1 (bh m s zb).ae.length p1)).setCell ⟨w.heap.size + 1, 2, none⟩ (.slice q2 (bh m s zb).ag.length p2)).setCell ⟨w.heap.size + 1, 3, none⟩ (.int .i64 (bh m s zb).ah)) from bE _ _ _ _ _ _); exact bodyPost_ret (v := .tuple #[.agg #[.slice q0 (bh m s zb).aa.length p0, .slice q1 (bh m s zb).ae.length p1, .slice q2 (bh m s zb).ag.length p2, .int .i64 (bh m s zb).ah], .int .i64 ac]) (by simp [results, Tryz.results66, go_sem, *]) rfl ⟨[.slice q0 (bh m s zb).aa.length p0, .slice q1 (bh m s zb).ae.length p1, .slice q2 (bh m s zb).ag.length p2, .int .i64 (bh m s zb).ah], E0 ++ E1 ++ E2 ++ [], by rw [HV.out], h1, pW.out, h3⟩
 ·have HV : Hid (bh m s zb = m /\ dD m s zb = aS m s) := by refine ⟨?_, ?_⟩ <;> simp [bh, dD, hC]
  have Ek : (aS m s == 0) = false := beq_eq_false_iff_ne.2 hC; have El : (aS m s != 0) = true := bne_iff_ne.2 hC; obtain ⟨cp, rq⟩ : ∃ cp, aS m s = cp := ⟨_, rfl⟩
  rw [rq] at Ek El ⊢; have ry : Hid (dD m s zb = cp) := HV.out.2.trans rq; clear rq hC; obtain ⟨Du, Dv, Dw, Dx⟩ := gj.c4; obtain ⟨oa, oc, od, mz, og, nL, oh, ol⟩ := bZ.c8; have tB := bZ.lt; have nw : ba w2 (cj d0 e0 d1 e1 d2 e2 m) (bh m s zb) (G0 ++ G1 ++ G2 ++ []) := by rw [HV.out.1]; exact aj.frame HO.out (fun b hb => aQ.block b (gZ.out b hb))
  have lX : ∀ b, b ∈ G0 ++ G1 ++ G2 ++ [] -> w.heap.size + 2 <= b := fun b hb => by have := jH.out b hb; omega
  have ny := Hm hb2; have m4 := Hm nw; clear nw; go_wp2_with fail; refine bodyPost_ret (v := .tuple #[.agg #[.slice d0 m.aa.length e0, .slice d1 m.ae.length e1, .slice d2 m.ag.length e2, .int .i64 m.ah], .int .i64 cp]) (by simp [results, Tryz.results66, go_sem, *]) rfl ⟨(cj d0 e0 d1 e1 d2 e2 m), G0 ++ G1 ++ G2 ++ [], by first | rfl | rw [ry.out], ?_, (fun b hb => by have := lX b hb; omega), ?_⟩
  ·exact (aj.frame m4.out (fun b hb => (show aw [w.heap.size + 1] w2 _ from by repeat (first | with_reducible exact aw.refl _ _ | with_reducible refine aw.setCell ?_ (by simp) _ | with_reducible refine aw.alloc ?_ _ | with_reducible refine aw.drew ?_)).block b (aj.lt m4.out b hb) (by intro h; simp at h; have := lX b hb; omega)))
  ·exact ny.out.trans ((show aw [w.heap.size + 1] w2 _ from by repeat (first | with_reducible exact aw.refl _ _ | with_reducible refine aw.setCell ?_ (by simp) _ | with_reducible refine aw.alloc ?_ _ | with_reducible refine aw.drew ?_)).below (fun k hk => by simp at hk; omega) ny.out.size)
theorem tF (cs : List Value) (m : az) (s : ByteArray) (vb : Value) (zb : List Int) (w : World) (hr : bg w.heap.size w cs m) (hs : s.size <= 9223372036854775807) (Ss : Av w.heap.size w vb zb) (hw : aZ m <= 1048576) (di : s.size <= 1048576) (gj : zb.length <= 2097152) :
  Calls Tryz.prog 66 #[.agg cs.toArray, .string s, vb] w fun e w' => ∃ cs' : List Value, e = .returned (.tuple #[.agg cs'.toArray, .int .i64 (dD m s zb)]) /\ bg w'.heap.size w' cs' (bh m s zb) /\ Below w.heap.size w w' := by
 refine (j6 cs m s vb zb w hr hs Ss hw di gj).mono ?_; rintro e w' ⟨cs', F, he, ho, _, hx⟩; exact ⟨cs', he, aj.read ho, hx⟩
theorem xH (cs : List Value) (m : az) (s : ByteArray) (w : World) (hr : bg w.heap.size w cs m) (hs : s.size <= 9223372036854775807) (hw : aZ m <= 1048576) (di : s.size <= 1048576) :
  Calls Tryz.prog 67 #[.agg cs.toArray, .string s] w fun e w' => ∃ cs' : List Value, e = .returned (.tuple #[.agg cs'.toArray, .int .i64 (aS m s)]) /\ (∃ F, ba w' cs' (dW m s) F /\ ∀ b, b ∈ F -> w.heap.size <= b) /\ Below w.heap.size w w' := by
 have hq := hr; obtain ⟨a0, c0, a1, c1, a2, c2, rfl, hI, gf, gT, kX, _⟩ := hq; have hw2 : m.aa.length + aP aJ m.aa + (m.ae.length + aP a7 m.ae) + (m.ag.length + aP a7 m.ag) <= 1048576 := hw; have HW := Hm hw; have HR := Hm hr; clear hr hI gf gT hw; go_enter Tryz.func67, Tryz.ntmps67; go_wp2_with fail; obtain ⟨wq, bI⟩ : ∃ wq, wq = ((w.alloc (.cells #[.slice a0 m.aa.length c0, .slice a1 m.ae.length c1, .slice a2 m.ag.length c2, .int .i64 m.ah] 27)).alloc (.cells #[.slice none 0 0, .slice none 0 0, .slice none 0 0, .int .i64 0] 27)) := ⟨_, rfl⟩
 have cJ : Below w.heap.size w wq := by rw [bI]; exact Below.alloc (Below.alloc rB (by exact rN) _) (by simp; try omega) _
 have dl : Bw wq (w.heap.size) 27 (cj a0 c0 a1 c1 a2 c2 m) := by rw [bI]; exact Bw.alloc (Bw.dX _ _ _ (by simp)) _
 have hbr : Bw wq (w.heap.size + 1) 27 oz := by rw [bI]; exact Bw.dX _ _ _ (by simp)
 rw [<- bI]; clear bI; refine (eC _ m wq (aq.mono (aq.below HR.out cJ) cJ.size) HW.out).mono ?_; rintro e w1 ⟨FH, F2, rfl, mm, nW, jT, hx1⟩; obtain ⟨d0, e0, d1, e1, d2, e2, G0, G1, G2, rfl, o0, o1, o2, _, rfl⟩ := aC mm; have sH := Hm o0; have vO := Hm o1; have zG := Hm o2; have HO := Hm mm; have HN := Hm nW; have jH : Hid (∀ b, b ∈ G0 ++ G1 ++ G2 ++ [] -> wq.heap.size <= b) := jT; have gZ : Hid (∀ b, b ∈ G0 ++ G1 ++ G2 ++ [] -> b < w1.heap.size) := fun b hb => aj.lt mm b hb
 clear mm nW jT o0 o1 o2; have hb1 := af cJ hx1; have df := dl.under hx1; have dB := hbr.under hx1; have hz1 := hx1.size; have hl0 := hbr.lt; obtain ⟨y0, y1, y2, y3⟩ := df.c4; have sF := df.lt; go_wp2_with fail; obtain ⟨wa, gY⟩ : ∃ wa, wa = w1.alloc (.cells #[.slice d0 m.aa.length e0, .slice d1 m.ae.length e1, .slice d2 m.ag.length e2, .int .i64 m.ah] 27) := ⟨_, rfl⟩
 have jL : Below w1.heap.size w1 wa := by rw [gY]; exact rB.alloc rN _
 have oq : Bw wa w1.heap.size 27 (cj d0 e0 d1 e1 d2 e2 m) := by rw [gY]; exact Bw.new _ _ _
 rw [<- gY]; clear gY; have kJ := af hb1 jL; have pD := (df.under jL)
 refine (mE _ m s wa (aq.mono (aq.below HR.out kJ) kJ.size) HW.out hs).mono ?_; rintro e w2 ⟨rfl, hx2⟩; have aQ := af jL hx2; have gj := oq.under hx2; clear oq pD df y0 y1 y2 y3
 by_cases hC : aS m s = 0
 ·have hCc := hC
  rw [hC]; have sJ := Hm hb1; have Pl := Hm dB; have hgd := cW hC; obtain ⟨hk, hid, yV⟩ := mh hgd.1 hgd.2.2; obtain ⟨Eg, I1⟩ := wE yV; have hnz : iq m.ae s = (nameAt m.ae s : Int) := by unfold iq; rw [hgd.2.2, if_pos rfl]
  have OP : ij m.aa (eK m.ae s) = (placeOf m.aa (eK m.ae s) : Int) := by unfold ij; rw [yV, if_pos rfl]
  have JU : ∀ W', Below w2.heap.size w2 W' -> ba W' (cj d0 e0 d1 e1 d2 e2 m) m (G0 ++ G1 ++ G2 ++ []) := fun W' hb => aj.frame HO.out (fun b kB => (af aQ hb).block b (gZ.out b kB))
  have xF : ∀ W', Below w2.heap.size w2 W' -> bw 2 cy W'.heap.size W' d1 e1 m.ae := fun W' hb => aF.leaf ay (aF.frame ay vO.out (fun b kB => (af aQ hb).block b (gZ.out b (by simp [kB]))))
  obtain ⟨b1, o1, rfl, eH, cs1, JV, nI, rfl, uE⟩ := (xF _ rB).2.2 (nameAt m.ae s) hk; have JW := nI 1 _ rfl; rw [<- hid] at JW; have q1 : ∀ W', Below w2.heap.size w2 W' -> W'.cell? ⟨b1, o1 + nameAt m.ae s * 2 + 1, none⟩ = some (.int .i64 (eK m.ae s)) := fun W' hb => (hb.cell (p := ⟨b1, o1 + nameAt m.ae s * 2 + 1, none⟩) eH).trans JW
  have I2 := fun W' (hb : Below w2.heap.size w2 W') => om (some ⟨b1, o1, none⟩) _ e1 m.ae s W' W'.heap.size rfl (by omega) (xF W' hb).2.2
  have zC := fun W' (hb : Below w2.heap.size w2 W') => pP _ m (eK m.ae s) W' (aj.read (JU W' hb)) (by omega)
  simp only [hnz] at I2; simp only [OP] at zC; obtain ⟨p, Lj⟩ : ∃ p, p = placeOf m.aa (eK m.ae s) := ⟨_, rfl⟩
  have QM : Hid (p = fileAt m s) := Lj; rw [<- Lj] at zC Eg; have hpl : p < m.aa.length := Eg; have RM : (0 : Int) <= (nameAt m.ae s : Int) := by omega
  have IY : (nameAt m.ae s : Int) < (m.ae.length : Int) := by omega
  have WD : ∀ W', Below w2.heap.size w2 W' -> W'.cell? ⟨w1.heap.size, 0, none⟩ = some (.slice d0 m.aa.length e0) := fun W' hb => (gj.under hb).cell 0 _ rfl
  have Su : ∀ W', Below w2.heap.size w2 W' -> W'.cell? ⟨w1.heap.size, 1, none⟩ = some (.slice (some ⟨b1, o1, none⟩) m.ae.length e1) := fun W' hb => (gj.under hb).cell 1 _ rfl
  have WE : ∀ W', Below w2.heap.size w2 W' -> W'.cell? ⟨w1.heap.size, 2, none⟩ = some (.slice d2 m.ag.length e2) := fun W' hb => (gj.under hb).cell 2 _ rfl
  have WF : ∀ W', Below w2.heap.size w2 W' -> W'.cell? ⟨w1.heap.size, 3, none⟩ = some (.int .i64 m.ah) := fun W' hb => (gj.under hb).cell 3 _ rfl
  clear JU xF nI JV JW uE hid yV I1 hnz OP Eg hgd; have Ph := Hm hC; have YQ := Hm hk; clear Lj hC hk; generalize nameAt m.ae s = na at *; generalize eK m.ae s = QU at *; go_wp2_with fail; refine kz w2 (fun hZ => ?_); refine uq 0 ?_; refine uq 1 ?_; refine uq 2 ?_; refine uq 3 ?_; refine uq 4 ?_; refine uq 5 ?_; refine bf 6 rfl fun K hK => ?_
  go_simp; refine Calls.mono (I2 _ hZ) ?_; rintro e OI ⟨rfl, di⟩; have B5 := a8 di; clear di; go_wp2_with fail; refine aL hK (af hZ B5) (fun hZ => ?_); clear hK K; refine uq 7 ?_; refine uq 8 ?_; refine uq 9 ?_; refine bf 10 rfl fun K hK => ?_
  go_simp; refine Calls.mono (zC _ hZ) ?_; rintro e OM ⟨rfl, uA⟩; go_wp2_with fail; refine aL hK (af hZ uA) (fun hZ => ?_); clear hK K; refine uq 11 ?_; refine dC ?_; obtain ⟨wo, Bu⟩ : ∃ wo, wo = OM := ⟨_, rfl⟩
  rw [<- Bu] at hZ ⊢; clear Bu I2 zC WD Su WE WF q1; have ej := af aQ hZ; have xG := gj.under hZ; have hC := Ph.out; have HV : Hid (dW m s = { m with aa := jQ m.aa p jR }) := by show _ = _; unfold dW; rw [if_pos hC, QM.out]
  clear aQ hZ hCc; obtain ⟨g, cap, hv, Mp, iV⟩ := aF.shape sH.out (by omega); simp only [Value.slice.injEq, true_and] at hv; obtain ⟨rfl, rfl⟩ := hv; obtain ⟨uB, Fk, o3, f3, n3, c3, z3⟩ := aF.cells aH sH.out hpl; obtain ⟨v3, F3, rfl, i3, b3, s3, rfl⟩ := o3; obtain ⟨a3, l3, rfl, _⟩ := b3.read; have k1 := c3 1 _ rfl; have k2 := c3 2 _ rfl; have r1 := z3 (p * 3 + 1); have r2 := z3 (p * 3 + 2); have Ei := jH.out g (by simp [Mp]); have vG : m.aa[p].aG.length <= 1048576 := by have h1 := jt (f := aJ) hpl; have h2 : aJ m.aa[p] = m.aa[p].aG.length := rfl; omega
  obtain ⟨dn, y5⟩ : ∃ dn, m.aa[p].aG.length = dn := ⟨_, rfl⟩
  rw [y5] at k1 vG; have xA := Hm y5; have cQ := Hm hpl; have RO : (0 : Int) <= (p : Int) := by omega
  have Pj : (p : Int) < (m.aa.length : Int) := by omega
  clear y5 c3 z3 n3; clear gj; have gj := xG; go_wp2_with fail; have I3 := (ej.cell (p := ⟨g, p * 3 + 1, none⟩) iV).trans k1; have WM := (ej.cell (p := ⟨g, p * 3 + 2, none⟩) iV).trans k2; have WN := (ej.frozen (p := ⟨g, p * 3 + 2, none⟩) iV).trans r2; have x0 := gj.cell 0 _ rfl; clear k1 k2 r2 r1; have Jn : Hid (g ≠ w1.heap.size) := by show _ ≠ _; omega
  refine vE (fun W => W.cell? ⟨w1.heap.size, 0, none⟩ = some (.slice (some ⟨g, 0, none⟩) m.aa.length e0) /\ W.cell? ⟨g, p * 3 + 1, none⟩ = some (.slice a3 dn l3) /\ aw [g] wo W) (⟨x0, I3, aw.bz (Below.drew rB)⟩) (fun hZ => ?_); refine uq 0 ?_; refine uq 1 ?_; refine uq 2 ?_; refine uq 3 ?_; refine uq 4 ?_; refine uq 5 ?_; refine uq 6 ?_; refine uq 7 ?_; refine uq 8 ?_; refine uq 9 ?_; refine uq 10 ?_; refine uq 11 ?_; refine bf 12 rfl fun K hK => ?_
  go_simp; go_simp; refine aL hK (⟨(World.cell?_setCell_other _ _ _ _ (fun h => Jn.out (congrArg Addr.block h))).trans x0, (World.cell?_setCell_other _ _ _ _ (fun h => by have := congrArg Addr.off h; simp at this)).trans I3, aw.drew (aw.setCell (F := [g]) (a := wo) (b := wo) (p := ⟨g, p * 3 + 2, none⟩) (aw.refl _ _) (by simp) (.int .i64 dn))⟩) (fun hZ => ?_); clear hK K; refine dC ?_; obtain ⟨w3, hw3⟩ : ∃ w3, w3 = (wo.setCell ⟨g, p * 3 + 2, none⟩ (.int .i64 dn)).drew := ⟨_, rfl⟩
  have mY : aw [g] wo w3 := by rw [hw3]; exact aw.drew (aw.setCell (F := [g]) (a := wo) (b := wo) (p := ⟨g, p * 3 + 2, none⟩) (aw.refl _ _) (by simp) _)
  have lj := gj.turn mY (by simp; omega); have dc := (Pl.out.under ej).turn mY (by simp; omega); have zy : Below w.heap.size w w3 := (af sJ.out ej).trans (mY.below (fun k hk => by simp at hk; have := sJ.out.size; omega) (af sJ.out ej).size); have WO := cQ
  have Ms : ∃ F', ba w3 (cj (some ⟨g, 0, none⟩) e0 (some ⟨b1, o1, none⟩) e1 d2 e2 m) (dW m s) F' /\ F'.Nodup /\ ∀ b, b ∈ F' -> b ∈ G0 ++ G1 ++ G2 := by
   have m6 : ∀ b, b ∈ G0 ++ G1 ++ G2 -> b < w1.heap.size := fun b hb => gZ.out b (by simpa using hb)
   have q0 := aF.frame (w' := wo) aH sH.out (fun b hb => ej.block b (m6 b (by simp [hb]))); have q1 := aF.frame (w' := wo) ay vO.out (fun b hb => ej.block b (m6 b (by simp [hb]))); have q2 := aF.frame (w' := wo) ay zG.out (fun b hb => ej.block b (m6 b (by simp [hb]))); have Sy : ∀ n : aI, n.aG.length = dn -> (jR n).aW = (dn : Int) := fun n h => by unfold jR; simp [h]
   obtain ⟨F', o1, o2, o3, _⟩ := ve q0 q1 q2 kX HN.out cQ.out (i := 2) (by omega) (.int .i64 dn) jR [] (fun b hb => by cases hb) (fun cs Fk h hN => by
    obtain ⟨v, F, rfl, q1, q2, q3, rfl⟩ := h; refine ⟨F ++ [], ⟨v, F, ?_, q1, q2, ?_, rfl⟩, hN, fun b hb => .inl hb⟩
    ·rw [Sy _ xA.out]
     rfl
    ·rw [Sy _ xA.out]
     exact WalkArith.wf_i64 (by omega))
   refine ⟨F', ?_, o2, fun b hb => ?_⟩
   ·rw [HV.out, hw3]
    exact o1
   ·rcases o3 b hb with h | h
    ·exact h
    ·cases h
  obtain ⟨UF, nw, jx, Pm⟩ := Ms; have lX : ∀ b, b ∈ UF -> w.heap.size + 2 <= b := fun b hb => by have := jH.out b (by simpa using Pm b hb); have := cJ.size; omega
  rw [<- hw3]; clear hw3 hZ x0 I3 WM WN; have Du := lj.cell 0 _ rfl; have oa := dc.cell 0 _ rfl; have oc := dc.free 0; have Dv := lj.cell 1 _ rfl; have od := dc.cell 1 _ rfl; have mz := dc.free 1; have Dw := lj.cell 2 _ rfl; have og := dc.cell 2 _ rfl; have nL := dc.free 2; have Dx := lj.cell 3 _ rfl; have oh := dc.cell 3 _ rfl; have ol := dc.free 3; have Sz := bE w3 (w.heap.size + 1) (.slice (some ⟨g, 0, none⟩) m.aa.length e0) (.slice (some ⟨b1, o1, none⟩) m.ae.length e1) (.slice d2 m.ag.length e2) (.int .i64 m.ah); have SA := Hm Sz; have ny := Hm zy; clear Sz; go_wp2_with fail; refine bodyPost_ret (v := .tuple #[.agg #[.slice (some ⟨g, 0, none⟩) m.aa.length e0, .slice (some ⟨b1, o1, none⟩) m.ae.length e1, .slice d2 m.ag.length e2, .int .i64 m.ah], .int .i64 0]) (by simp [results, Tryz.results67, go_sem, *]) rfl ⟨(cj (some ⟨g, 0, none⟩) e0 (some ⟨b1, o1, none⟩) e1 d2 e2 m), by rw [Ph.out], ?_, ?_⟩
  ·exact ⟨_, aj.frame (nw) (fun b hb => SA.out.block b (aj.lt (nw) b hb) (by intro h; simp at h; have := lX b hb; omega)), fun b hb => by first | (have := lX b hb; omega) | (have := lx b hb; omega) | (rcases pq b hb with h2 | h2; (have := kK.out b h2; omega); omega)⟩
  ·exact ny.out.trans (SA.out.below (fun k hk => by simp at hk; omega) ny.out.size)
 ·have HV : Hid (dW m s = m) := by show _ = _; unfold dW; rw [if_neg hC]
  have Ek : (aS m s == 0) = false := beq_eq_false_iff_ne.2 hC; obtain ⟨cp, rq⟩ : ∃ cp, aS m s = cp := ⟨_, rfl⟩
  rw [rq] at Ek ⊢; have ry := Hm rq; clear rq hC; have hb2 := af kJ hx2; have bZ := (dB.under jL).under hx2; obtain ⟨Du, Dv, Dw, Dx⟩ := gj.c4; obtain ⟨oa, oc, od, mz, og, nL, oh, ol⟩ := bZ.c8; have tB := bZ.lt; have nw : ba w2 (cj d0 e0 d1 e1 d2 e2 m) (dW m s) (G0 ++ G1 ++ G2 ++ []) := by rw [HV.out]; exact aj.frame HO.out (fun b hb => aQ.block b (gZ.out b hb))
  have lX : ∀ b, b ∈ G0 ++ G1 ++ G2 ++ [] -> w.heap.size + 2 <= b := fun b hb => by have := jH.out b hb; omega
  have ny := Hm hb2; have m4 := Hm nw; clear nw; go_wp2_with fail; refine bodyPost_ret (v := .tuple #[.agg #[.slice d0 m.aa.length e0, .slice d1 m.ae.length e1, .slice d2 m.ag.length e2, .int .i64 m.ah], .int .i64 cp]) (by simp [results, Tryz.results67, go_sem, *]) rfl ⟨(cj d0 e0 d1 e1 d2 e2 m), by first | rfl | rw [ry.out], ?_, ?_⟩
  ·exact ⟨_, aj.frame m4.out (fun b hb => (show aw [w.heap.size + 1] w2 _ from by repeat (first | with_reducible exact aw.refl _ _ | with_reducible refine aw.setCell ?_ (by simp) _ | with_reducible refine aw.alloc ?_ _ | with_reducible refine aw.drew ?_)).block b (aj.lt m4.out b hb) (by intro h; simp at h; have := lX b hb; omega)), fun b hb => by first | (have := lX b hb; omega) | (have := lx b hb; omega) | (rcases pq b hb with h2 | h2; (have := kK.out b h2; omega); omega)⟩
  ·exact ny.out.trans ((show aw [w.heap.size + 1] w2 _ from by repeat (first | with_reducible exact aw.refl _ _ | with_reducible refine aw.setCell ?_ (by simp) _ | with_reducible refine aw.alloc ?_ _ | with_reducible refine aw.drew ?_)).below (fun k hk => by simp at hk; omega) ny.out.size)
theorem xI (cs : List Value) (m : az) (s : ByteArray) (w : World) (hr : bg w.heap.size w cs m) (hs : s.size <= 9223372036854775807) (hw : aZ m <= 1048576) (di : s.size <= 1048576) :
  Calls Tryz.prog 67 #[.agg cs.toArray, .string s] w fun e w' => ∃ cs' : List Value, e = .returned (.tuple #[.agg cs'.toArray, .int .i64 (aS m s)]) /\ bg w'.heap.size w' cs' (dW m s) /\ Below w.heap.size w w' :=
 (xH cs m s w hr hs hw di).mono fun e w' ⟨cs', he, ⟨F, ho, _⟩, hx⟩ => ⟨cs', he, aj.read ho, hx⟩
end Go.Proofs.YtcamcgfbljhbhaaGreatDoor
