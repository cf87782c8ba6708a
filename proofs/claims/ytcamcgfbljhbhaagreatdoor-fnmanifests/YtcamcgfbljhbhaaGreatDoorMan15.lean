/-
  Part 16 of the texts that the proof leans on.
-/
import Derived.Test.YtcamcgfbljhbhaaGreatDoorMan0
import Derived.Test.YtcamcgfbljhbhaaGreatDoorMan6
import Derived.Test.YtcamcgfbljhbhaaGreatDoorMan14
import Derived.Test.YtcamcgfbljhbhaaGreatDoorMan8
import Derived.Test.YtcamcgfbljhbhaaGreatDoorMan13
set_option linter.unusedVariables false
set_option linter.unusedSimpArgs false
set_option maxRecDepth 10000
set_option maxHeartbeats 20000000

namespace Go.Proofs.YtcamcgfbljhbhaaGreatDoor
open Go.RowKit Go.Maps
theorem tJ {F : List Nat} {w w1 : World} (h : aw F w w1 := by repeat (first | with_reducible exact aw.refl _ _ | with_reducible refine aw.setCell ?_ (by simp) _ | with_reducible refine aw.alloc ?_ _ | with_reducible refine aw.drew ?_)) : aw F w w1 := h
theorem xJ (cs : List Value) (m : az) (kp : Int) (w : World) (hr : bg w.heap.size w cs m) (Mv : (Lit.int .i64 kp).wf = true) (hw : aZ m <= 1048576) :
  Calls Tryz.prog 90 #[.agg cs.toArray, .int .i64 kp] w fun e w' => ∃ cs' : List Value, e = .returned (.agg cs'.toArray) /\ (∃ F, ba w' cs' (ei m kp) F /\ ∀ b, b ∈ F -> w.heap.size <= b) /\ Below w.heap.size w w' := by
 have hq := hr; obtain ⟨a0, c0, a1, c1, a2, c2, rfl, hI, gf, gT, kX, _⟩ := hq; have hw2 : m.aa.length + aP aJ m.aa + (m.ae.length + aP a7 m.ae) + (m.ag.length + aP a7 m.ag) <= 1048576 := hw; have HW := Hm hw; have HR := Hm hr; clear hr hI gf gT hw; have hkb : -9223372036854775808 <= kp /\ kp <= 9223372036854775807 := by simpa [Lit.wf, IntKind.min, IntKind.max, IntKind.signed, IntKind.bits] using Mv
 obtain ⟨WS, WT⟩ := hkb; obtain ⟨iE, mV, fJ, fK, fL⟩ := info_parts Tryz.gG; go_enter Tryz.func90, Tryz.ntmps90; go_wp2_with fail; obtain ⟨wq, bI⟩ : ∃ wq, wq = ((w.alloc (.cells #[.slice a0 m.aa.length c0, .slice a1 m.ae.length c1, .slice a2 m.ag.length c2, .int .i64 m.ah] 27)).alloc (.cells #[.slice none 0 0, .slice none 0 0, .slice none 0 0, .int .i64 0] 27)) := ⟨_, rfl⟩
 have cJ : Below w.heap.size w wq := by rw [bI]; exact Below.alloc (Below.alloc rB (by exact rN) _) (by simp; try omega) _
 have dl : Bw wq (w.heap.size) 27 (cj a0 c0 a1 c1 a2 c2 m) := by rw [bI]; exact Bw.alloc (Bw.dX _ _ _ (by simp)) _
 have hbr : Bw wq (w.heap.size + 1) 27 oz := by rw [bI]; exact Bw.dX _ _ _ (by simp)
 rw [<- bI]; clear bI; refine (eC _ m wq (aq.mono (aq.below HR.out cJ) cJ.size) HW.out).mono ?_; rintro e w1 ⟨FH, F2, rfl, mm, nW, jT, hx1⟩; obtain ⟨d0, e0, d1, e1, d2, e2, G0, G1, G2, rfl, o0, o1, o2, _, rfl⟩ := aC mm; have sH := Hm o0; have vO := Hm o1; have zG := Hm o2; have HO := Hm mm; have HN := Hm nW; have jH : Hid (∀ b, b ∈ G0 ++ G1 ++ G2 ++ [] -> wq.heap.size <= b) := jT; have gZ : Hid (∀ b, b ∈ G0 ++ G1 ++ G2 ++ [] -> b < w1.heap.size) := fun b hb => aj.lt mm b hb
 clear mm nW jT o0 o1 o2; have hb1 := af cJ hx1; have df := dl.under hx1; have dB := hbr.under hx1; have hz1 := hx1.size; have Ln := cJ.size; have hl0 := hbr.lt; obtain ⟨y0, y1, y2, y3⟩ := df.c4; have sF := df.lt; go_wp2_with fail; obtain ⟨wa, gY⟩ : ∃ wa, wa = w1.alloc (.cells #[.slice d0 m.aa.length e0, .slice d1 m.ae.length e1, .slice d2 m.ag.length e2, .int .i64 m.ah] 27) := ⟨_, rfl⟩
 have jL : Below w1.heap.size w1 wa := by rw [gY]; exact rB.alloc rN _
 have oq : Bw wa w1.heap.size 27 (cj d0 e0 d1 e1 d2 e2 m) := by rw [gY]; exact Bw.new _ _ _
 rw [<- gY]; clear gY; have kJ := af hb1 jL; have pD := (df.under jL)
 refine (lU _ m wa (aq.mono (aq.below HR.out kJ) kJ.size) HW.out).mono ?_; rintro e w2 ⟨rfl, hx2⟩; have aQ := af jL hx2; have hb2 := af kJ hx2; have gj := oq.under hx2; have bZ := (dB.under jL).under hx2; clear oq pD df y0 y1 y2 y3; obtain ⟨Du, Dv, Dw, Dx⟩ := gj.c4
 by_cases hK : bc m = true
 ·by_cases qZ : kp < 0
  ·have HV : Hid (ei m kp = m) := by show _ = _; unfold ei; rw [if_neg (by omega)]
   rw [hK]; clear hK; obtain ⟨oa, oc, od, mz, og, nL, oh, ol⟩ := bZ.c8; have tB := bZ.lt; have nw : ba w2 (cj d0 e0 d1 e1 d2 e2 m) (ei m kp) (G0 ++ G1 ++ G2 ++ []) := by rw [HV.out]; exact aj.frame HO.out (fun b hb => aQ.block b (gZ.out b hb))
   have lX : ∀ b, b ∈ G0 ++ G1 ++ G2 ++ [] -> w.heap.size + 2 <= b := fun b hb => by have := jH.out b hb; omega
   have ny := Hm hb2; have m4 := Hm nw; clear nw; go_wp2_with fail; refine bodyPost_ret (v := .agg #[.slice d0 m.aa.length e0, .slice d1 m.ae.length e1, .slice d2 m.ag.length e2, .int .i64 m.ah]) (by simp [results, Tryz.results90, go_sem, *]) rfl ⟨(cj d0 e0 d1 e1 d2 e2 m), by first | rfl | rw [ry.out], ?_, ?_⟩
   ·exact ⟨_, aj.frame m4.out (fun b hb => (show aw [w.heap.size + 1] w2 _ from tJ).block b (aj.lt m4.out b hb) (by intro h; simp at h; have := lX b hb; omega)), fun b hb => by first | (have := lX b hb; omega) | (have := lx b hb; omega) | (rcases pq b hb with h2 | h2; (have := kK.out b h2; omega); omega)⟩
   ·exact ny.out.trans ((show aw [w.heap.size + 1] w2 _ from tJ).below (fun k hk => by simp at hk; omega) ny.out.size)
  ·have LQ : 0 <= kp := by omega
   have WU : (kp < 0) = False := eq_false qZ; have ua := bM.1 hK; have HV : Hid (ei m kp = { m with ae := m.ag, aa := (bV { m with ae := m.ag }).map (eb kp) }) := by show _ = _; unfold ei; rw [if_pos ⟨hK, LQ⟩]
   have hwt := eB hK
   have SH : Hid (∀ x, x ∈ bV { m with ae := m.ag } -> 0 <= x.aW /\ x.aW <= x.aG.length /\ x.aG.length <= 60000) := by
    intro x hx; have yM : x ∈ m.aa := (List.mem_filter.1 hx).1; obtain ⟨i, hi, rfl⟩ := List.mem_iff_getElem.1 yM; have h1 := ua.each _ yM; have h2 := jt (f := aJ) hi; have h3 : aJ m.aa[i] = m.aa[i].aG.length := rfl; omega
   have gH : (bV { m with ae := m.ag }).length <= 60 := Nat.le_trans (List.length_filter_le _ _) (by show m.aa.length <= 60; omega); rw [hK]; clear hK ua; have Ee : Below w2.heap.size w2 (w2.alloc (.cells #[] 68)) := rB.alloc rN _; have wV : bw 2 cy (w2.alloc (.cells #[] 68)).heap.size (w2.alloc (.cells #[] 68)) d2 e2 m.ag := aF.leaf ay (aF.frame ay zG.out (fun b kB => (af aQ Ee).block b (gZ.out b (by simp [kB])))); obtain ⟨css, s1, s2, s3, s4⟩ := Src.Oj (P := Tryz.prog) (c := e2) (n := m.ag.length) Tryz.underlying25 rfl wV.2.2; have Jw := gj.lt; have Pr := gj.free 1; have qF := Hm Ee; clear wV Ee; go_wp2_with (at_builtin; refine nA _ rfl _ _ 25 25 rfl w2.heap.size 68 iE _ 2 24 Tryz.underlying25 mV fJ fK fL rfl w2.heap.size rfl (kY w2 w2.heap.size _ _ rN) (.slice d2 m.ag.length e2) rfl m.ag.length css.flatten s4 (by unfold maxLen; omega) (by omega) (by simp) ?_; intro v3 w3 hw3 hx3 iX; obtain ⟨r3, q3, rfl⟩ := bk hw3; have jK := af qF.out hx3; have mz := (gj.under jK).free 1; have sI := (gj.under jK).lt; have Mk := (gj.under jK).cell 0 _ rfl; have Ml := (gj.under jK).cell 1 _ rfl; have Mm := (gj.under jK).cell 2 _ rfl; have Mn := (gj.under jK).cell 3 _ rfl); have gB := kW rfl s1 s2 s3 hw3; have wj : Hid (∀ b, b ∈ (Value.ownBlock (.slice r3 m.ag.length q3)).toList -> w2.heap.size <= b /\ b < w3.heap.size) := fun b hb => hw3.lt b (by simpa using hb)
   obtain ⟨ws, jh⟩ : ∃ ws, ws = w3.setCell ⟨w1.heap.size, 1, none⟩ (.slice r3 m.ag.length q3) := ⟨_, rfl⟩
   have jw : aw [w1.heap.size] w3 ws := by rw [jh]; exact aw.setCell (aw.refl _ _) (by simp) _
   have lj := gj.under jK; have Ci : Bw ws w1.heap.size 27 [.slice d0 m.aa.length e0, .slice r3 m.ag.length q3, .slice d2 m.ag.length e2, .int .i64 m.ah] := by rw [jh]; exact lj.put 1 _
   have jd := (bZ.under jK).turn jw (by simp; omega); have hb3 := af hb2 jK; have O9 := aQ.size; have ab2 := jK.size; have ab3 := jw.size; have l8 : Below w.heap.size w ws := hb3.trans (jw.below (fun k hk => by simp at hk; omega) hb3.size); have YZ : Below w1.heap.size w1 ws := (af aQ jK).trans (jw.below (fun k hk => by simp at hk; omega) (af aQ jK).size); have t2 := aF.frame (w' := ws) ay gB (fun b hb => jw.block b (aF.lt ay gB b hb) (by intro h; simp at h; have := wj.out b hb; omega)); have vk := Hm t2; have tv := Hm l8; have UH := Hm YZ; have HTS : Hid (aF 2 68 cN ws (.slice d2 m.ag.length e2) m.ag G2) := aF.frame ay zG.out (fun b hb => YZ.block b (gZ.out b (by simp [hb]))); rw [<- jh]; clear jh t2 gB jw mz Du Dv Dw Dx Pr hw3 s4 Mk Ml Mm Mn; refine (xo (qT G0) (d9 G0) (zB G0) d0 r3 d2 e0 q3 e2 { m with ae := m.ag } ws w1.heap.size UH.out.size (sH.out.NC.below (d9 G0) UH.out) (aF.leaf ay vk.out) (aF.leaf ay HTS.out) (by simp only; omega)).mono ?_; rintro e w4 ⟨ak, ck, rfl, hrow, mX⟩; obtain ⟨kl, JZ⟩ : ∃ kl, kl = bV { m with ae := m.ag } := ⟨_, rfl⟩
   rw [<- JZ] at hrow gH SH HV ⊢; have oQ := Hm hrow; have hb4 := af tv.out mX; have WV := af UH.out mX; have AU := Ci.under mX; have lD := jd.under mX; have hl4 := AU.lt; have Ws := lD.lt; have L9 := mX.size; have Pt := UH.out.size; clear hrow JZ; obtain ⟨y0, y1, y2, y3⟩ := AU.c4; obtain ⟨f0, f1, f2, f3⟩ := AU.f4; go_wp2_with fail; obtain ⟨wt, hwt⟩ : ∃ wt, wt = ((((w4.setCell ⟨w1.heap.size, 0, none⟩ (.slice ak kl.length ck)).setCell ⟨w1.heap.size, 1, none⟩ (.slice r3 m.ag.length q3)).setCell ⟨w1.heap.size, 2, none⟩ (.slice d2 m.ag.length e2)).setCell ⟨w1.heap.size, 3, none⟩ (.int .i64 m.ah)) := ⟨_, rfl⟩
   have AL : aw [w1.heap.size] w4 wt := by rw [hwt]; exact bE _ _ _ _ _ _
   have SI : Bw wt w1.heap.size 27 [.slice ak kl.length ck, .slice r3 m.ag.length q3, .slice d2 m.ag.length e2, .int .i64 m.ah] := by rw [hwt]; exact (((AU.put 0 _).put 1 _).put 2 _).put 3 _
   have xD := lD.turn AL (by simp; omega); have Cc : Below w.heap.size w wt := hb4.trans (AL.below (fun k hk => by simp at hk; omega) hb4.size); have Y3 : Below w1.heap.size w1 wt := WV.trans (AL.below (fun k hk => by simp at hk; omega) WV.size)
   have hrt : bS 3 73 (qT G0) w1.heap.size wt ws.heap.size (.slice ak kl.length ck) (cG (eb kp) kl 0) := by
    rw [tI]; exact bS.turn (d9 G0) oQ.out AL (fun k hk => by simp at hk; omega) WV.size rN
   have WX : Hid (∀ W, aw [w1.heap.size] w4 W -> aF 2 68 cN W (.slice r3 m.ag.length q3) m.ag (Value.ownBlock (.slice r3 m.ag.length q3)).toList) := fun W hT => aF.frame ay vk.out (fun b hb => (hT.block b (by have := wj.out b hb; omega) (by have := wj.out b hb; simp; omega)).trans (mX.block b (by have := wj.out b hb; omega)))
   have HTT := Hm AL; rw [<- hwt]; clear hwt y0 y1 y2 y3 f0 f1 f2 f3 AL oQ; go_wp2_with fail
   go_loopw [6] (fun i wr => ∃ j : Nat, j <= kl.length /\ i = .int .i64 j /\ bS 3 73 (qT G0) w1.heap.size wr ws.heap.size (.slice ak kl.length ck) (cG (eb kp) kl j) /\ Below w.heap.size w wr /\ Bw wr w1.heap.size 27 [.slice ak kl.length ck, .slice r3 m.ag.length q3, .slice d2 m.ag.length e2, .int .i64 m.ah] /\ Bw wr (w.heap.size + 1) 27 oz /\ Below w1.heap.size w1 wr /\ (∀ b, w1.heap.size < b -> b < ws.heap.size -> wr.heap[b]? = wt.heap[b]?)) (fun i _ => kl.length - (intOf i).toNat)
   case atStart => exact ⟨0, Nat.zero_le _, rfl, hrt, Cc, SI, xD, Y3, fun _ _ _ => rfl⟩
   case round =>
    obtain ⟨j, hj, rfl, hrow, bF, Mw, En, Y4, L1⟩ := hrel; have cO := Hm hrow; have WY := Hm Mw; have zx := Hm En; have UI := Hm Y4; have Pu := Hm L1; have hlx := Mw.lt; have Yw := En.lt; have x0 := Mw.cell 0 _ rfl; clear hrow Mw En hrt Cc SI xD Y4 Y3 L1
    by_cases hlt : j < kl.length
    ·have hpl := pX (eb kp) kl hj
     obtain ⟨g, cap, cs, hv, hgb, iV, iw, t8, hcell, Cj⟩ := cO.out.at (j := j) (by rw [hpl]; exact hlt); rw [oV _ _ hlt] at t8; rw [hpl] at hv; simp only [Value.slice.injEq, true_and] at hv; obtain ⟨rfl, rfl⟩ := hv; have Jd := SH.out kl[j] (List.getElem_mem hlt); obtain ⟨x, hx⟩ : ∃ x, kl[j] = x := ⟨_, rfl⟩
     rw [hx] at t8 Jd; have HX : Hid (kl[j] = x) := hx; clear hx; obtain ⟨Fk, ⟨v1, F1x, rfl, hid, vp, hsu, Rz⟩, Y5⟩ := t8; obtain ⟨ad, cd, rfl, zw⟩ := vp.read; obtain ⟨hx1, hx2, hx3⟩ := Jd; have k0 := hcell 0 _ rfl; have k1 := hcell 1 _ rfl; have k2 := hcell 2 _ rfl; rw [Nat.add_zero] at k0; have J0 := Hm Cj; have cQ := Hm hpl; have WZ := zw.1; have W4 : cd <= 9223372036854775807 := zw.2.1; obtain ⟨dn, y5⟩ : ∃ dn, x.aG.length = dn := ⟨_, rfl⟩
     have xA := Hm y5; rw [y5] at k1 hx2 hx3 vp WZ; obtain ⟨nl, Dp⟩ : ∃ nl : Nat, (nl : Int) = x.aW + min kp (dn - x.aW) := ⟨(x.aW + min kp (dn - x.aW)).toNat, by omega⟩
     have SJ : nl <= dn := by omega
     have yE := Hm Dp; have SK : Hid (eb kp x = { x with aG := x.aG.take nl, aW := (nl : Int) }) := by show _ = _; unfold eb; rw [xA.out, <- yE.out, Int.toNat_natCast]
     have Y6 : Hid ((cG (eb kp) kl j).set j (eb kp x) = cG (eb kp) kl (j + 1)) := by show _ = _; rw [<- HX.out]; exact oW _ _ hlt
     have Dy := Hm vp; have HFF := Hm Y5; have Pi := Hm Rz; have UJ := UI.out.size; have W5 : g ≠ w1.heap.size := by omega
     have Jn : Hid (g ≠ w1.heap.size) := W5; clear hcell Cj zw hpl iw y5 vp Y5 Rz
     by_cases W6 : kp < dn - x.aW
     ·have SL : x.aW + kp = (nl : Int) := by omega
      have SM : (nl : Int) <= (cd : Int) := by omega
      have SN : (0 : Int) <= (nl : Int) := by omega
      have Y7 : IntKind.i64.wrap (nl : Int) = (nl : Int) := by simp [IntKind.wrap, IntKind.bits, IntKind.signed]; omega
      clear Dp; go_wp2_with fail; obtain ⟨wi, rO⟩ : ∃ wi, wi = wr.alloc (.cells #[.int .i64 x.bi, .slice ad dn cd, .int .i64 x.aW] 73) := ⟨_, rfl⟩
      have gU : Below wr.heap.size wr wi := by rw [rO]; exact rB.alloc rN _
      have nk : Bw wi wr.heap.size 73 [.int .i64 x.bi, .slice ad dn cd, .int .i64 x.aW] := by rw [rO]; exact Bw.new _ _ _
      rw [<- rO]; clear rO x0; have Hn := WY.out.under gU; have z0 := Hn.cell 0 _ rfl; have n1 := nk.cell 1 _ rfl; have n2 := nk.cell 2 _ rfl; have Ot : Hid (g ≠ wr.heap.size) := by show _ ≠ _; omega
      have J1 := bS.keep (d9 G0) cO.out gU UJ; have q1 := (gU.cell (p := ⟨g, j * 3 + 1, none⟩) iV).trans k1; have r1 := (gU.frozen (p := ⟨g, j * 3 + 1, none⟩) iV).trans (J0.out _); have q2 := (gU.cell (p := ⟨g, j * 3 + 2, none⟩) iV).trans k2; have r2 := (gU.frozen (p := ⟨g, j * 3 + 2, none⟩) iV).trans (J0.out _); clear k0 k1 k2; refine wp_region_held_drew (S := fun V => V.cell? ⟨w1.heap.size, 0, none⟩ = some (.slice (some ⟨g, 0, none⟩) kl.length ck) /\ V.cell? ⟨wr.heap.size, 1, none⟩ = some (.slice ad dn cd) /\ V.cell? ⟨wr.heap.size, 2, none⟩ = some (.int .i64 x.aW)) (by kernel_rfl) (⟨z0, n1, n2⟩) (fun hZ => ?_); refine uq 0 ?_; refine uq 1 ?_; refine uq 2 ?_; refine uq 3 ?_; refine uq 4 ?_; refine uq 5 ?_; refine uq 6 ?_; refine uq 7 ?_; refine uq 8 ?_; refine uq 9 ?_; refine uq 10 ?_; refine uq 11 ?_; refine bf 12 rfl fun K hK => ?_
      go_simp; go_simp; refine aL hK (⟨(World.cell?_setCell_other _ _ _ _ (fun h => Jn.out (congrArg Addr.block h))).trans z0, (World.cell?_setCell_other _ _ _ _ (fun h => Ot.out (congrArg Addr.block h))).trans n1, (World.cell?_setCell_other _ _ _ _ (fun h => Ot.out (congrArg Addr.block h))).trans n2⟩) (fun hZ => ?_); clear hK K; refine dC ?_; obtain ⟨w5, pF⟩ : ∃ w5, w5 = (wi.setCell ⟨g, j * 3 + 1, none⟩ (.slice ad nl cd)).drew := ⟨_, rfl⟩
      have kR : aw [g] wi w5 := by rw [pF]; exact aw.drew (aw.setCell (aw.refl _ _) (by simp) _)
      have SP : bS 3 73 (qT G0) w1.heap.size w5 ws.heap.size (.slice (some ⟨g, 0, none⟩) kl.length ck) ((cG (eb kp) kl j).set j { x with aG := x.aG.take nl }) := by
       obtain ⟨g', cap', cs', hv', _, _, _, NM, hc', _, SQ⟩ := J1.split (d9 G0) Pt (by have := gU.size; omega) (j := j) (by rw [cQ.out]; exact hlt); rw [cQ.out] at hv'; simp only [Value.slice.injEq, Option.some.injEq, Addr.mk.injEq, and_true, true_and] at hv'; obtain ⟨rfl, rfl⟩ := hv'; rw [oV _ _ hlt, HX.out] at NM; obtain ⟨SR, ⟨W7, SS, rfl, DG, J2, Pv, J3⟩, J4⟩ := NM; have Uj : W7 = .slice ad dn cd := by have h1 := hc' 1 _ rfl; rw [q1] at h1; exact (Option.some.inj h1).symm
       subst Uj; have hres := SQ 1 (.slice ad nl cd) { x with aG := x.aG.take nl } (by omega) ⟨SR, ⟨_, SS, rfl, DG, lO.cut J2 xA.out SJ, Pv, J3⟩, J4⟩; rw [pF]; exact bS.keep (d9 G0) hres (Below.drew rB) (by have := gU.size; simp; omega)
      have NN := (kR.cell (p := ⟨w1.heap.size, 0, none⟩) (by have := Hn.lt; simp; omega) (by simp; omega)).trans z0; have NP : w5.cell? ⟨g, j * 3 + 1, none⟩ = some (.slice ad nl cd) := by rw [pF]; exact World.cell?_setCell_same _ _ _ q1
      have Y8 : w5.cell? ⟨g, j * 3 + 2, none⟩ = some (.int .i64 x.aW) := by rw [pF]; exact (World.cell?_setCell_other _ _ _ _ (fun h => by have := congrArg Addr.off h; simp at this)).trans q2
      have Y9 : w5.frozen? ⟨g, j * 3 + 2, none⟩ = false := by rw [pF]; show (wi.setCell _ _).frozen? _ = false; rw [World.frozen?_setCell]; exact r2
      have R3 := kR.size; have VC := gU.size
      have y7 : Hid (bS 3 73 (qT G0) w1.heap.size (w5.setCell ⟨g, j * 3 + 2, none⟩ (.int .i64 (nl : Nat))) ws.heap.size (.slice (some ⟨g, 0, none⟩) kl.length ck) (cG (eb kp) kl (j + 1))) := by
       have NQ : ((cG (eb kp) kl j).set j { x with aG := x.aG.take nl }).length = kl.length := by rw [List.length_set, cQ.out]
       obtain ⟨g', cap', cs', hv', _, _, _, NM, hc', _, SQ⟩ := SP.split (d9 G0) Pt (by omega) (j := j) (by rw [NQ]; exact hlt); rw [NQ] at hv'; simp only [Value.slice.injEq, Option.some.injEq, Addr.mk.injEq, and_true, true_and] at hv'; obtain ⟨rfl, rfl⟩ := hv'; rw [List.getElem_set_self] at NM; obtain ⟨SR, ⟨W7, SS, rfl, DG, J2, Pv, J3⟩, J4⟩ := NM; have hres := SQ 2 (.int .i64 (nl : Nat)) (eb kp x) (by omega) (by rw [SK.out]; exact ⟨SR, ⟨_, SS, rfl, DG, J2, (show (Lit.int .i64 (nl : Int)).wf = true from WalkArith.wf_i64 (by omega)), J3⟩, J4⟩); rw [List.set_set, Y6.out] at hres; exact hres
      have Eo : Hid (Below w.heap.size w w5) := (af bF gU).trans (kR.below (fun k hk => by simp at hk; omega) (af bF gU).size); have Pw := Hm (Hn.turn kR (by simp; omega)); have Px := Hm ((zx.out.under gU).turn kR (by simp; omega)); have J5 : Hid (Below w1.heap.size w1 w5) := (UI.out.trans (gU.mono UJ)).trans (kR.below (fun k hk => by simp at hk; omega) (by omega)); have Py : wr.heap.size < w5.heap.size := Nat.lt_of_lt_of_le nk.lt R3; have NR : Hid (ws.heap.size <= w5.heap.size /\ ∀ b, w1.heap.size < b -> b < ws.heap.size -> w5.heap[b]? = wt.heap[b]?) := ⟨by omega, fun b h1 h2 => (kR.block b (by omega) (by simp; omega)).trans ((gU.block b (by omega)).trans (Pu.out b h1 h2))⟩
      rw [<- pF]; clear pF SP hZ z0 n1 n2 q1 q2 r1 r2 J1; go_wp2_with fail; refine wp_region_held_drew (S := fun V => V.cell? ⟨w1.heap.size, 0, none⟩ = some (.slice (some ⟨g, 0, none⟩) kl.length ck) /\ V.cell? ⟨g, j * 3 + 1, none⟩ = some (.slice ad nl cd)) (by kernel_rfl) (⟨NN, NP⟩) (fun hZ => ?_); refine uq 0 ?_; refine uq 1 ?_; refine uq 2 ?_; refine uq 3 ?_; refine uq 4 ?_; refine uq 5 ?_; refine uq 6 ?_; refine uq 7 ?_; refine uq 8 ?_; refine uq 9 ?_; refine uq 10 ?_; refine uq 11 ?_; refine bf 12 rfl fun K hK => ?_
      go_simp; go_simp; refine aL hK (⟨(World.cell?_setCell_other _ _ _ _ (fun h => Jn.out (congrArg Addr.block h))).trans NN, (World.cell?_setCell_other _ _ _ _ (fun h => by have := congrArg Addr.off h; simp at this)).trans NP⟩) (fun hZ => ?_); clear hK K; refine dC ?_; obtain ⟨w6, l9⟩ : ∃ w6, w6 = (w5.setCell ⟨g, j * 3 + 2, none⟩ (.int .i64 (nl : Nat))).drew := ⟨_, rfl⟩
      have Ep : aw [g] w5 w6 := by rw [l9]; exact aw.drew (aw.setCell (aw.refl _ _) (by simp) _)
      have SU : bS 3 73 (qT G0) w1.heap.size w6 ws.heap.size (.slice (some ⟨g, 0, none⟩) kl.length ck) (cG (eb kp) kl (j + 1)) := by
       rw [l9]; exact bS.keep (d9 G0) y7.out (Below.drew rB) (by have := Eo.out.size; simp; omega)
      have yF := Hm SU; have QT : Below w.heap.size w w6 := Eo.out.trans (Ep.below (fun k hk => by simp at hk; omega) Eo.out.size); have Ch := Pw.out.turn Ep (by simp; omega); have AQ := Px.out.turn Ep (by simp; omega); have W8 : wr.heap.size < w6.heap.size := Nat.lt_of_lt_of_le Py Ep.size; have Pz : Below w1.heap.size w1 w6 := J5.out.trans (Ep.below (fun k hk => by simp at hk; omega) J5.out.size); have J6 : ∀ b, w1.heap.size < b -> b < ws.heap.size -> w6.heap[b]? = wt.heap[b]? := fun b h1 h2 => (Ep.block b (by have := NR.out.1; omega) (by simp; omega)).trans (NR.out.2 b h1 h2)
      rw [<- l9]; clear l9 Ep SU hZ NN NP; go_wp2_with fail
      go_roundw
      case rel => exact ⟨j + 1, by omega, by go_num, yF.out, QT, Ch, AQ, Pz, J6⟩
      case measure => simp [intOf]; omega
     ·have zz : nl = dn := by omega
      subst zz; have Xa : ¬ (kp < (nl : Int) - x.aW) := W6; clear Dp; go_wp2_with fail; obtain ⟨wi, rO⟩ : ∃ wi, wi = wr.alloc (.cells #[.int .i64 x.bi, .slice ad nl cd, .int .i64 x.aW] 73) := ⟨_, rfl⟩
      have gU : Below wr.heap.size wr wi := by rw [rO]; exact rB.alloc rN _
      have nk : Bw wi wr.heap.size 73 [.int .i64 x.bi, .slice ad nl cd, .int .i64 x.aW] := by rw [rO]; exact Bw.new _ _ _
      rw [<- rO]; clear rO x0; have Hn := WY.out.under gU; have z0 := Hn.cell 0 _ rfl; have n1 := nk.cell 1 _ rfl; have n2 := nk.cell 2 _ rfl; have Ot : Hid (g ≠ wr.heap.size) := by show _ ≠ _; omega
      have J1 := bS.keep (d9 G0) cO.out gU UJ; have q1 := (gU.cell (p := ⟨g, j * 3 + 1, none⟩) iV).trans k1; have r1 := (gU.frozen (p := ⟨g, j * 3 + 1, none⟩) iV).trans (J0.out _); have Y8 := (gU.cell (p := ⟨g, j * 3 + 2, none⟩) iV).trans k2; have Y9 := (gU.frozen (p := ⟨g, j * 3 + 2, none⟩) iV).trans (J0.out _); obtain ⟨w5, pF⟩ : ∃ w5, w5 = wi := ⟨_, rfl⟩
      have kR : aw [g] wi w5 := by rw [pF]; exact aw.refl _ _
      have R3 := kR.size; have VC := gU.size
      have y7 : Hid (bS 3 73 (qT G0) w1.heap.size (w5.setCell ⟨g, j * 3 + 2, none⟩ (.int .i64 (nl : Nat))) ws.heap.size (.slice (some ⟨g, 0, none⟩) kl.length ck) (cG (eb kp) kl (j + 1))) := by
       obtain ⟨g', cap', cs', hv', _, _, _, NM, hc', _, SQ⟩ := J1.split (d9 G0) Pt (by omega) (j := j) (by rw [cQ.out]; exact hlt); rw [cQ.out] at hv'; simp only [Value.slice.injEq, Option.some.injEq, Addr.mk.injEq, and_true, true_and] at hv'; obtain ⟨rfl, rfl⟩ := hv'; rw [oV _ _ hlt, HX.out] at NM; obtain ⟨SR, ⟨W7, SS, rfl, DG, J2, Pv, J3⟩, J4⟩ := NM; have hres := SQ 2 (.int .i64 (nl : Nat)) (eb kp x) (by omega) (by rw [SK.out, List.take_of_length_le (by rw [xA.out]; exact rN)]; exact ⟨SR, ⟨_, SS, rfl, DG, J2, (show (Lit.int .i64 (nl : Int)).wf = true from WalkArith.wf_i64 (by omega)), J3⟩, J4⟩); rw [Y6.out] at hres; rw [pF]; exact hres
      have NN := z0; have NP := q1; rw [<- pF] at NN NP Y8 Y9 ⊢; have Eo : Hid (Below w.heap.size w w5) := (af bF gU).trans (kR.below (fun k hk => by simp at hk; omega) (af bF gU).size); have Pw := Hm (Hn.turn kR (by simp; omega)); have Px := Hm ((zx.out.under gU).turn kR (by simp; omega)); have J5 : Hid (Below w1.heap.size w1 w5) := (UI.out.trans (gU.mono UJ)).trans (kR.below (fun k hk => by simp at hk; omega) (by omega)); have Py : wr.heap.size < w5.heap.size := Nat.lt_of_lt_of_le nk.lt R3; have NR : Hid (ws.heap.size <= w5.heap.size /\ ∀ b, w1.heap.size < b -> b < ws.heap.size -> w5.heap[b]? = wt.heap[b]?) := ⟨by omega, fun b h1 h2 => (kR.block b (by omega) (by simp; omega)).trans ((gU.block b (by omega)).trans (Pu.out b h1 h2))⟩
      clear pF z0 n1 n2 q1 r1 J1 k0 k1 k2; refine wp_region_held_drew (S := fun V => V.cell? ⟨w1.heap.size, 0, none⟩ = some (.slice (some ⟨g, 0, none⟩) kl.length ck) /\ V.cell? ⟨g, j * 3 + 1, none⟩ = some (.slice ad nl cd)) (by kernel_rfl) (⟨NN, NP⟩) (fun hZ => ?_); refine uq 0 ?_; refine uq 1 ?_; refine uq 2 ?_; refine uq 3 ?_; refine uq 4 ?_; refine uq 5 ?_; refine uq 6 ?_; refine uq 7 ?_; refine uq 8 ?_; refine uq 9 ?_; refine uq 10 ?_; refine uq 11 ?_; refine bf 12 rfl fun K hK => ?_
      go_simp; go_simp; refine aL hK (⟨(World.cell?_setCell_other _ _ _ _ (fun h => Jn.out (congrArg Addr.block h))).trans NN, (World.cell?_setCell_other _ _ _ _ (fun h => by have := congrArg Addr.off h; simp at this)).trans NP⟩) (fun hZ => ?_); clear hK K; refine dC ?_; obtain ⟨w6, l9⟩ : ∃ w6, w6 = (w5.setCell ⟨g, j * 3 + 2, none⟩ (.int .i64 (nl : Nat))).drew := ⟨_, rfl⟩
      have Ep : aw [g] w5 w6 := by rw [l9]; exact aw.drew (aw.setCell (aw.refl _ _) (by simp) _)
      have SU : bS 3 73 (qT G0) w1.heap.size w6 ws.heap.size (.slice (some ⟨g, 0, none⟩) kl.length ck) (cG (eb kp) kl (j + 1)) := by
       rw [l9]; exact bS.keep (d9 G0) y7.out (Below.drew rB) (by have := Eo.out.size; simp; omega)
      have yF := Hm SU; have QT : Below w.heap.size w w6 := Eo.out.trans (Ep.below (fun k hk => by simp at hk; omega) Eo.out.size); have Ch := Pw.out.turn Ep (by simp; omega); have AQ := Px.out.turn Ep (by simp; omega); have W8 : wr.heap.size < w6.heap.size := Nat.lt_of_lt_of_le Py Ep.size; have Pz : Below w1.heap.size w1 w6 := J5.out.trans (Ep.below (fun k hk => by simp at hk; omega) J5.out.size); have J6 : ∀ b, w1.heap.size < b -> b < ws.heap.size -> w6.heap[b]? = wt.heap[b]? := fun b h1 h2 => (Ep.block b (by have := NR.out.1; omega) (by simp; omega)).trans (NR.out.2 b h1 h2)
      rw [<- l9]; clear l9 Ep SU hZ NN NP; go_wp2_with fail
      go_roundw
      case rel => exact ⟨j + 1, by omega, by go_num, yF.out, QT, Ch, AQ, Pz, J6⟩
      case measure => simp [intOf]; omega
    ·have LO : j = kl.length := by omega
     subst LO; have hrow := cO.out; rw [vt] at hrow; obtain ⟨FR, hown, hFR⟩ := hrow.own; have oN : aF 2 68 cN wr (.slice r3 m.ag.length q3) m.ag (Value.ownBlock (.slice r3 m.ag.length q3)).toList := aF.frame ay (WX.out wt HTT.out) (fun b hb => Pu.out b (by have := wj.out b hb; omega) (by have := wj.out b hb; omega)); have oS : aF 2 68 cN wr (.slice d2 m.ag.length e2) m.ag G2 := aF.frame ay zG.out (fun b hb => UI.out.block b (gZ.out b (by simp [hb]))); have Ms : ba wr [.slice ak kl.length ck, .slice r3 m.ag.length q3, .slice d2 m.ag.length e2, .int .i64 m.ah] { m with ae := m.ag, aa := kl.map (eb kp) } (FR ++ (Value.ownBlock (.slice r3 m.ag.length q3)).toList ++ G2 ++ []) := ⟨_, FR, _, _, _, G2, rfl, hown, oN, oS, kX, rfl⟩
     have lx : ∀ b, b ∈ FR ++ (Value.ownBlock (.slice r3 m.ag.length q3)).toList ++ G2 ++ [] -> w.heap.size + 2 <= b := by
      intro b hb; rw [List.append_nil, List.mem_append, List.mem_append] at hb; rcases hb with (hb | hb) | hb
      ·rcases hFR b hb with h | h
       ·have := jH.out b (by simp [h]); omega
       ·omega
      ·have := wj.out b hb; omega
      ·have := jH.out b (by simp [hb]); omega
     have hkey : ∀ W', aw [w.heap.size + 1] wr W' -> (∃ F, ba W' [.slice ak kl.length ck, .slice r3 m.ag.length q3, .slice d2 m.ag.length e2, .int .i64 m.ah] (ei m kp) F /\ ∀ b, b ∈ F -> w.heap.size <= b) /\ Below w.heap.size w W' := fun W' hT => by
      rw [HV.out]; exact ⟨⟨_, aj.frame Ms (fun b hb => hT.block b (aj.lt Ms b hb) (fun h => by simp at h; have := lx b hb; omega)), fun b hb => by first | (have := lX b hb; omega) | (have := lx b hb; omega) | (rcases pq b hb with h2 | h2; (have := kK.out b h2; omega); omega)⟩, bF.trans (hT.below (fun k hk => by simp at hk; omega) bF.size)⟩
     have HKEY := Hm hkey; clear hkey Ms lx hown oN oS hrow x0; obtain ⟨y0, y1, y2, y3⟩ := WY.out.c4; obtain ⟨oa, od, og, oh⟩ := zx.out.c4; obtain ⟨oc, mz, nL, ol⟩ := zx.out.f4; go_wp2_with fail; obtain ⟨h1, h3⟩ := HKEY.out _ (show aw [w.heap.size + 1] wr ((((wr.setCell ⟨w.heap.size + 1, 0, none⟩ (.slice ak kl.length ck)).setCell ⟨w.heap.size + 1, 1, none⟩ (.slice r3 m.ag.length q3)).setCell ⟨w.heap.size + 1, 2, none⟩ (.slice d2 m.ag.length e2)).setCell ⟨w.heap.size + 1, 3, none⟩ (.int .i64 m.ah)) from bE _ _ _ _ _ _); exact bodyPost_ret (v := .agg #[.slice ak kl.length ck, .slice r3 m.ag.length q3, .slice d2 m.ag.length e2, .int .i64 m.ah]) (by simp [results, Tryz.results90, go_sem, *]) rfl ⟨[.slice ak kl.length ck, .slice r3 m.ag.length q3, .slice d2 m.ag.length e2, .int .i64 m.ah], rfl, h1, h3⟩
 ·have HV : Hid (ei m kp = m) := by show _ = _; unfold ei; rw [if_neg (by intro h; exact hK h.1)]
  have hK2 : bc m = false := Bool.eq_false_iff.2 hK; rw [hK2]; clear hK hK2; obtain ⟨oa, oc, od, mz, og, nL, oh, ol⟩ := bZ.c8; have tB := bZ.lt; have nw : ba w2 (cj d0 e0 d1 e1 d2 e2 m) (ei m kp) (G0 ++ G1 ++ G2 ++ []) := by rw [HV.out]; exact aj.frame HO.out (fun b hb => aQ.block b (gZ.out b hb))
  have lX : ∀ b, b ∈ G0 ++ G1 ++ G2 ++ [] -> w.heap.size + 2 <= b := fun b hb => by have := jH.out b hb; omega
  have ny := Hm hb2; have m4 := Hm nw; clear nw; go_wp2_with fail; refine bodyPost_ret (v := .agg #[.slice d0 m.aa.length e0, .slice d1 m.ae.length e1, .slice d2 m.ag.length e2, .int .i64 m.ah]) (by simp [results, Tryz.results90, go_sem, *]) rfl ⟨(cj d0 e0 d1 e1 d2 e2 m), by first | rfl | rw [ry.out], ?_, ?_⟩
  ·exact ⟨_, aj.frame m4.out (fun b hb => (show aw [w.heap.size + 1] w2 _ from tJ).block b (aj.lt m4.out b hb) (by intro h; simp at h; have := lX b hb; omega)), fun b hb => by first | (have := lX b hb; omega) | (have := lx b hb; omega) | (rcases pq b hb with h2 | h2; (have := kK.out b h2; omega); omega)⟩
  ·exact ny.out.trans ((show aw [w.heap.size + 1] w2 _ from tJ).below (fun k hk => by simp at hk; omega) ny.out.size)
end Go.Proofs.YtcamcgfbljhbhaaGreatDoor

namespace Go.Proofs.YtcamcgfbljhbhaaGreatDoor
open Go.RowKit
theorem ze (w : World) :
  Calls Tryz.prog 87 #[] w fun e w' => e = .returned (.agg #[.slice none 0 0, .slice none 0 0, .slice none 0 0, .int .i64 1]) /\ Below w.heap.size w w' := by
 go_enter Tryz.func87, Tryz.ntmps87
 go_wp2
 refine bodyPost_ret (v := .agg #[.slice none 0 0, .slice none 0 0, .slice none 0 0, .int .i64 1]) (by simp [results, Tryz.results87, go_sem, *]) rfl ⟨rfl, ?_⟩
 repeat (first | with_reducible exact rB | refine Below.setCell ?_ (by simp) _ | refine Below.alloc ?_ (by first | exact rN | (simp; omega)) _)
theorem Mx (w : World) : ba w [.slice none 0 0, .slice none 0 0, .slice none 0 0, .int .i64 1] ⟨[], [], [], 1⟩ [] :=
 ⟨_, [], _, [], _, [], rfl, .inl ⟨rfl, rfl, rfl⟩, .inl ⟨rfl, rfl, rfl⟩, .inl ⟨rfl, rfl, rfl⟩, rfl, rfl⟩
theorem dN {W' : World} {cs : List Value} {m : az} {B : Nat} (h : ∃ F, ba W' cs m F /\ ∀ b, b ∈ F -> B <= b) : ∃ a0 n0 c0 a1 n1 c1 a2 n2 c2 z, cs = [.slice a0 n0 c0, .slice a1 n1 c1, .slice a2 n2 c2, .int .i64 z] := by
 obtain ⟨F, ho, _⟩ := h; obtain ⟨a0, c0, a1, c1, a2, c2, _, _, _, hc, _⟩ := aC ho; exact ⟨a0, _, c0, a1, _, c1, a2, _, c2, _, hc⟩
theorem Ho {g : Nat} {w : World} (q : Int) (hc : b5 w g) (hq : q <= 100) :
  Calls Tryz.prog 39 #[.pointer (some ⟨g, 0, none⟩), .int .i64 q] w fun e w' => ∃ (cs : List Value) (m : az), e = .returned (.agg cs.toArray) /\ (∃ F, ba w' cs m F /\ ∀ b, b ∈ F -> w.heap.size <= b) /\ Fit m /\ b5 w' g /\ aw [g] w w' := by
 have iV := hc.lt; have HC := Hm hc; clear hc; go_enter Tryz.func39, Tryz.ntmps39; go_wp2_with fail; obtain ⟨wq, bI⟩ : ∃ wq, wq = w.alloc (.cells #[.slice none 0 0, .slice none 0 0, .slice none 0 0, .int .i64 0] 27) := ⟨_, rfl⟩
 have kH : Below w.heap.size w wq := by rw [bI]; exact rB.alloc rN _
 have hbr : Bw wq w.heap.size 27 dZ := by rw [bI]; exact Bw.new _ _ _
 rw [<- bI]; clear bI; refine (ze wq).mono ?_; rintro e w1 ⟨rfl, hx1⟩; replace hbr := hbr.under hx1; replace kH := af kH hx1; have QX := hbr.lt; clear hx1; go_wp2_with fail; obtain ⟨w2, hw2⟩ : ∃ x, x = w1.alloc (.cells #[.slice none 0 0, .slice none 0 0, .slice none 0 0, .int .i64 1] 27) := ⟨_, rfl⟩
 have hx2 : Below w1.heap.size w1 w2 := by rw [hw2]; exact rB.alloc rN _
 have dl : Bw w2 w1.heap.size 27 [.slice none 0 0, .slice none 0 0, .slice none 0 0, .int .i64 1] := by rw [hw2]; exact Bw.new _ _ _
 rw [<- hw2]; obtain ⟨bd, Ck⟩ : ∃ z, z = w1.heap.size := ⟨_, rfl⟩
 rw [<- Ck] at dl ⊢; obtain ⟨br, vN⟩ : ∃ z, z = w.heap.size := ⟨_, rfl⟩
 have HST : Hid (ez w g br bd w2 [.slice none 0 0, .slice none 0 0, .slice none 0 0, .int .i64 1] ⟨[], [], [], 1⟩) := by
  rw [vN]; exact ⟨dl, hbr.under hx2, ⟨[], Mx _, fun b hb => by cases hb⟩, LL, HC.out.below (af kH hx2), aw.bz (af kH hx2)⟩
 have cQ : Hid (LM w g br bd) := ⟨iV, by omega, by have := kH.size; omega, by omega⟩
 rw [<- vN]; clear hw2 hx2 dl Ck vN hbr kH QX iV HC; refine (cz q HST.out.c).mono ?_; rintro e w3 ⟨x, rfl, hx, hc3, hg3⟩; have hx0 : 0 <= x := hx.1
 have J7 : x <= 100 := by
  obtain ⟨_, _, h1, h2⟩ := hx
  by_cases h : 0 < q
  ·have := h1 h; omega
  ·have := h2 (by omega); omega
 replace HST := Hm (HST.out.cur cQ.out hg3 hc3); clear hx hc3 hg3 hq; go_wp2_with fail
 go_loopw [6] (fun i wr => ∃ (x : Int) (a0 a1 a2 : Option Addr) (n0 c0 n1 c1 n2 c2 : Nat) (z : Int) (m : az), i = .int .i64 x /\ 0 <= x /\ x <= 100 /\ Hid (ez w g br bd wr [.slice a0 n0 c0, .slice a1 n1 c1, .slice a2 n2 c2, .int .i64 z] m)) (fun i _ => (intOf i).toNat)
 case atStart => exact ⟨x, none, none, none, 0, 0, 0, 0, 0, 0, 1, _, rfl, hx0, J7, HST⟩
 case round =>
  clear HST hx0 J7; obtain ⟨x, a0, a1, a2, n0, c0, n1, c1, n2, c2, z, m, rfl, hx0, J7, HST⟩ := hrel
  by_cases hlt : 0 < x
  ·go_wp2_with fail
   refine (kQ HST.out.c).mono ?_; rintro e w4 ⟨s, ⟨rfl, hs⟩, G5, hg4⟩; have Hp := lT s hs; replace HST := Hm (HST.out.cur cQ.out hg4 G5); clear hs G5 hg4; go_wp2_with fail; refine (cz 10 HST.out.c).mono ?_; rintro e w5 ⟨y, rfl, hy, Ut, Za⟩; have NS := hy.1; have Xb : y < 10 := hy.2.2.1 (by omega); replace HST := Hm (HST.out.cur cQ.out Za Ut); clear hy Ut Za; have dl := HST.out.d; obtain ⟨p0, p1, p2, p3⟩ := dl.c4; have hs1 : s.size <= 1048576 := by omega
   have hs2 : s.size <= 9223372036854775807 := by omega
   have rC := Hm HST.out.read; have FQ := Hm HST.out.f.small; have FT := Hm HST.out.f; clear dl; have SV : y = 0 ∨ y = 1 ∨ y = 2 ∨ y = 3 ∨ y = 4 ∨ y = 5 ∨ y = 6 ∨ y = 7 ∨ y = 8 ∨ y = 9 := by omega
   clear NS Xb; rcases SV with rfl | rfl | rfl | rfl | rfl | rfl | rfl | rfl | rfl | rfl
   ·go_wp2_with fail
    refine (lW _ m s w5 rC.out hs2 FQ.out hs1).mono ?_; rintro e w6 ⟨zH, rfl, gL, eA⟩; obtain ⟨d0, k0, e0, d1, k1, e1, d2, k2, e2, z2, sK⟩ := dN gL; subst sK; have HN := Hm (HST.out.put cQ.out rfl eA gL (rM FT.out)); have dl := HST.out.d.under eA; clear p0 p1 p2 p3 gL eA rC; obtain ⟨p0, p1, p2, p3⟩ := dl.c4; obtain ⟨f0, f1, f2, f3⟩ := dl.f4; have l0 := dl.lt; clear dl; go_wp2_with fail
    go_roundw
    case rel => exact ⟨x - 1, d0, d1, d2, k0, e0, k1, e1, k2, e2, z2, _, rfl, by omega, by omega, HN⟩
    case measure => simp [intOf]; omega
   ·go_wp2_with fail
    refine (lW _ m s w5 rC.out hs2 FQ.out hs1).mono ?_; rintro e w6 ⟨zH, rfl, gL, eA⟩; obtain ⟨d0, k0, e0, d1, k1, e1, d2, k2, e2, z2, sK⟩ := dN gL; subst sK; have HN := Hm (HST.out.put cQ.out rfl eA gL (rM FT.out)); have dl := HST.out.d.under eA; clear p0 p1 p2 p3 gL eA rC; obtain ⟨p0, p1, p2, p3⟩ := dl.c4; obtain ⟨f0, f1, f2, f3⟩ := dl.f4; have l0 := dl.lt; clear dl; go_wp2_with fail
    go_roundw
    case rel => exact ⟨x - 1, d0, d1, d2, k0, e0, k1, e1, k2, e2, z2, _, rfl, by omega, by omega, HN⟩
    case measure => simp [intOf]; omega
   ·go_wp2_with fail
    refine (lW _ m s w5 rC.out hs2 FQ.out hs1).mono ?_; rintro e w6 ⟨zH, rfl, gL, eA⟩; obtain ⟨d0, k0, e0, d1, k1, e1, d2, k2, e2, z2, sK⟩ := dN gL; subst sK; have HN := Hm (HST.out.put cQ.out rfl eA gL (rM FT.out)); have dl := HST.out.d.under eA; clear p0 p1 p2 p3 gL eA rC; obtain ⟨p0, p1, p2, p3⟩ := dl.c4; obtain ⟨f0, f1, f2, f3⟩ := dl.f4; have l0 := dl.lt; clear dl; go_wp2_with fail
    go_roundw
    case rel => exact ⟨x - 1, d0, d1, d2, k0, e0, k1, e1, k2, e2, z2, _, rfl, by omega, by omega, HN⟩
    case measure => simp [intOf]; omega
   ·go_wp2_with fail
    refine vE (fun W => True) (trivial) (fun hZ => ?_); obtain ⟨wS, jU⟩ : ∃ wS, wS = w5.drew := ⟨_, rfl⟩
    have ie : Hid (ez w g br bd wS [.slice a0 n0 c0, .slice a1 n1 c1, .slice a2 n2 c2, .int .i64 z] m) := by unfold Hid; rw [jU]; exact HST.out.drew
    rw [<- jU]; clear jU p0 p1 p2 p3 rC; refine uq 1 ?_; refine uq 2 ?_; refine lM [0, 3] ?_; refine (AllReadyH.cons (aM rfl) (fun K hK => ?_) (AllReadyH.cons (aM rfl) (fun K hK => ?_) AllReadyH.nil))
    ·go_simp
     have hD : ez w g br bd wS [.slice a0 n0 c0, .slice a1 n1 c1, .slice a2 n2 c2, .int .i64 z] m := by first | exact iZ.out | exact ie.out
     obtain ⟨p0, p1, p2, p3⟩ := hD.d.c4; go_simp; obtain ⟨gi, fA⟩ : ∃ x, x = wS := ⟨_, rfl⟩
     have tK : Hid (ez w g br bd gi [.slice a0 n0 c0, .slice a1 n1 c1, .slice a2 n2 c2, .int .i64 z] m) := by unfold Hid; rw [fA]; exact hD
     have gq : True := trivial
     (try rw [<- fA] at Dy)
     rw [<- fA]; clear fA p0 p1 p2 p3 hD; refine aL hK (trivial) (fun hZ => ?_); clear hK K; refine bf 3 rfl fun K hK => ?_
     go_simp; have hD : ez w g br bd gi [.slice a0 n0 c0, .slice a1 n1 c1, .slice a2 n2 c2, .int .i64 z] m := by first | exact tK.out | exact ie.out
     refine (qG hD.c).mono ?_; rintro e bX ⟨vb, rfl, bs, vP, Er, vp, d8, hgx⟩; obtain ⟨ab, cb, rfl⟩ := bk vp; have Dy := Hm vp; clear vp; have iZ : Hid (ez w g br bd bX [.slice a0 n0 c0, .slice a1 n1 c1, .slice a2 n2 c2, .int .i64 z] m) := hD.cur cQ.out hgx d8; clear hD hgx d8; go_wp2_with fail; refine aL hK (trivial) (fun hZ => ?_); clear hK K; refine bf 4 rfl fun K hK => ?_
     go_simp; have HST : Hid (ez w g br bd bX [.slice a0 n0 c0, .slice a1 n1 c1, .slice a2 n2 c2, .int .i64 z] m) := by first | exact iZ | exact tK
     refine (j6 _ m s _ bs bX HST.out.read hs2 (lO.read (e := 5) (F := _) ⟨ep Dy.out (Nat.zero_le _), Er, rfl⟩) FQ.out hs1 (by omega)).mono ?_; rintro e bK ⟨zH, F6, rfl, gL, Lp, eA⟩; replace gL : ∃ F, ba bK zH _ F /\ ∀ b, b ∈ F -> bX.heap.size <= b := ⟨F6, gL, Lp⟩
     obtain ⟨d0, k0, e0, d1, k1, e1, d2, k2, e2, z2, sK⟩ := dN gL; subst sK; have HN := Hm (HST.out.put cQ.out rfl eA gL (oJ FT.out)); have zJ := Hm (HST.out.d.under eA); clear gL eA; go_wp2_with fail; refine aL hK (trivial) (fun hZ => ?_); clear hK K; refine uq 5 ?_; refine uq 6 ?_; refine uq 7 ?_; refine bf 8 rfl fun K hK => ?_
     have dl := zJ.out; obtain ⟨p0, p1, p2, p3⟩ := dl.c4; obtain ⟨f0, f1, f2, f3⟩ := dl.f4; have l0 := dl.lt; clear dl; go_simp; refine aL hK (trivial) (fun hZ => ?_); clear hK K; refine dC ?_; clear p0 p1 p2 p3 f0 f1 f2 f3 l0; go_wp2_with fail
     go_roundw
     case rel => exact ⟨x - 1, d0, d1, d2, k0, e0, k1, e1, k2, e2, z2, _, rfl, by omega, by omega, HN⟩
     case measure => simp [intOf]; omega
    ·go_simp
     have hD : ez w g br bd wS [.slice a0 n0 c0, .slice a1 n1 c1, .slice a2 n2 c2, .int .i64 z] m := by first | exact tK.out | exact ie.out
     refine (qG hD.c).mono ?_; rintro e bX ⟨vb, rfl, bs, vP, Er, vp, d8, hgx⟩; obtain ⟨ab, cb, rfl⟩ := bk vp; have Dy := Hm vp; clear vp; have iZ : Hid (ez w g br bd bX [.slice a0 n0 c0, .slice a1 n1 c1, .slice a2 n2 c2, .int .i64 z] m) := hD.cur cQ.out hgx d8; clear hD hgx d8; go_wp2_with fail; refine aL hK (trivial) (fun hZ => ?_); clear hK K; refine bf 0 rfl fun K hK => ?_
     go_simp; have hD : ez w g br bd bX [.slice a0 n0 c0, .slice a1 n1 c1, .slice a2 n2 c2, .int .i64 z] m := by first | exact iZ.out | exact ie.out
     obtain ⟨p0, p1, p2, p3⟩ := hD.d.c4; go_simp; obtain ⟨gi, fA⟩ : ∃ x, x = bX := ⟨_, rfl⟩
     have tK : Hid (ez w g br bd gi [.slice a0 n0 c0, .slice a1 n1 c1, .slice a2 n2 c2, .int .i64 z] m) := by unfold Hid; rw [fA]; exact hD
     have gq : True := trivial
     (try rw [<- fA] at Dy)
     rw [<- fA]; clear fA p0 p1 p2 p3 hD; refine aL hK (trivial) (fun hZ => ?_); clear hK K; refine bf 4 rfl fun K hK => ?_
     go_simp; have HST : Hid (ez w g br bd gi [.slice a0 n0 c0, .slice a1 n1 c1, .slice a2 n2 c2, .int .i64 z] m) := by first | exact iZ | exact tK
     refine (j6 _ m s _ bs gi HST.out.read hs2 (lO.read (e := 5) (F := _) ⟨ep Dy.out (Nat.zero_le _), Er, rfl⟩) FQ.out hs1 (by omega)).mono ?_; rintro e bK ⟨zH, F6, rfl, gL, Lp, eA⟩; replace gL : ∃ F, ba bK zH _ F /\ ∀ b, b ∈ F -> gi.heap.size <= b := ⟨F6, gL, Lp⟩
     obtain ⟨d0, k0, e0, d1, k1, e1, d2, k2, e2, z2, sK⟩ := dN gL; subst sK; have HN := Hm (HST.out.put cQ.out rfl eA gL (oJ FT.out)); have zJ := Hm (HST.out.d.under eA); clear gL eA; go_wp2_with fail; refine aL hK (trivial) (fun hZ => ?_); clear hK K; refine uq 5 ?_; refine uq 6 ?_; refine uq 7 ?_; refine bf 8 rfl fun K hK => ?_
     have dl := zJ.out; obtain ⟨p0, p1, p2, p3⟩ := dl.c4; obtain ⟨f0, f1, f2, f3⟩ := dl.f4; have l0 := dl.lt; clear dl; go_simp; refine aL hK (trivial) (fun hZ => ?_); clear hK K; refine dC ?_; clear p0 p1 p2 p3 f0 f1 f2 f3 l0; go_wp2_with fail
     go_roundw
     case rel => exact ⟨x - 1, d0, d1, d2, k0, e0, k1, e1, k2, e2, z2, _, rfl, by omega, by omega, HN⟩
     case measure => simp [intOf]; omega
   ·go_wp2_with fail
    refine vE (fun W => True) (trivial) (fun hZ => ?_); obtain ⟨wS, jU⟩ : ∃ wS, wS = w5.drew := ⟨_, rfl⟩
    have ie : Hid (ez w g br bd wS [.slice a0 n0 c0, .slice a1 n1 c1, .slice a2 n2 c2, .int .i64 z] m) := by unfold Hid; rw [jU]; exact HST.out.drew
    rw [<- jU]; clear jU p0 p1 p2 p3 rC; refine uq 1 ?_; refine uq 2 ?_; refine lM [0, 3] ?_; refine (AllReadyH.cons (aM rfl) (fun K hK => ?_) (AllReadyH.cons (aM rfl) (fun K hK => ?_) AllReadyH.nil))
    ·go_simp
     have hD : ez w g br bd wS [.slice a0 n0 c0, .slice a1 n1 c1, .slice a2 n2 c2, .int .i64 z] m := by first | exact iZ.out | exact ie.out
     obtain ⟨p0, p1, p2, p3⟩ := hD.d.c4; go_simp; obtain ⟨gi, fA⟩ : ∃ x, x = wS := ⟨_, rfl⟩
     have tK : Hid (ez w g br bd gi [.slice a0 n0 c0, .slice a1 n1 c1, .slice a2 n2 c2, .int .i64 z] m) := by unfold Hid; rw [fA]; exact hD
     have gq : True := trivial
     (try rw [<- fA] at Dy)
     rw [<- fA]; clear fA p0 p1 p2 p3 hD; refine aL hK (trivial) (fun hZ => ?_); clear hK K; refine bf 3 rfl fun K hK => ?_
     go_simp; have hD : ez w g br bd gi [.slice a0 n0 c0, .slice a1 n1 c1, .slice a2 n2 c2, .int .i64 z] m := by first | exact tK.out | exact ie.out
     refine (qG hD.c).mono ?_; rintro e bX ⟨vb, rfl, bs, vP, Er, vp, d8, hgx⟩; obtain ⟨ab, cb, rfl⟩ := bk vp; have Dy := Hm vp; clear vp; have iZ : Hid (ez w g br bd bX [.slice a0 n0 c0, .slice a1 n1 c1, .slice a2 n2 c2, .int .i64 z] m) := hD.cur cQ.out hgx d8; clear hD hgx d8; go_wp2_with fail; refine aL hK (trivial) (fun hZ => ?_); clear hK K; refine bf 4 rfl fun K hK => ?_
     go_simp; have HST : Hid (ez w g br bd bX [.slice a0 n0 c0, .slice a1 n1 c1, .slice a2 n2 c2, .int .i64 z] m) := by first | exact iZ | exact tK
     refine (j6 _ m s _ bs bX HST.out.read hs2 (lO.read (e := 5) (F := _) ⟨ep Dy.out (Nat.zero_le _), Er, rfl⟩) FQ.out hs1 (by omega)).mono ?_; rintro e bK ⟨zH, F6, rfl, gL, Lp, eA⟩; replace gL : ∃ F, ba bK zH _ F /\ ∀ b, b ∈ F -> bX.heap.size <= b := ⟨F6, gL, Lp⟩
     obtain ⟨d0, k0, e0, d1, k1, e1, d2, k2, e2, z2, sK⟩ := dN gL; subst sK; have HN := Hm (HST.out.put cQ.out rfl eA gL (oJ FT.out)); have zJ := Hm (HST.out.d.under eA); clear gL eA; go_wp2_with fail; refine aL hK (trivial) (fun hZ => ?_); clear hK K; refine uq 5 ?_; refine uq 6 ?_; refine uq 7 ?_; refine bf 8 rfl fun K hK => ?_
     have dl := zJ.out; obtain ⟨p0, p1, p2, p3⟩ := dl.c4; obtain ⟨f0, f1, f2, f3⟩ := dl.f4; have l0 := dl.lt; clear dl; go_simp; refine aL hK (trivial) (fun hZ => ?_); clear hK K; refine dC ?_; clear p0 p1 p2 p3 f0 f1 f2 f3 l0; go_wp2_with fail
     go_roundw
     case rel => exact ⟨x - 1, d0, d1, d2, k0, e0, k1, e1, k2, e2, z2, _, rfl, by omega, by omega, HN⟩
     case measure => simp [intOf]; omega
    ·go_simp
     have hD : ez w g br bd wS [.slice a0 n0 c0, .slice a1 n1 c1, .slice a2 n2 c2, .int .i64 z] m := by first | exact tK.out | exact ie.out
     refine (qG hD.c).mono ?_; rintro e bX ⟨vb, rfl, bs, vP, Er, vp, d8, hgx⟩; obtain ⟨ab, cb, rfl⟩ := bk vp; have Dy := Hm vp; clear vp; have iZ : Hid (ez w g br bd bX [.slice a0 n0 c0, .slice a1 n1 c1, .slice a2 n2 c2, .int .i64 z] m) := hD.cur cQ.out hgx d8; clear hD hgx d8; go_wp2_with fail; refine aL hK (trivial) (fun hZ => ?_); clear hK K; refine bf 0 rfl fun K hK => ?_
     go_simp; have hD : ez w g br bd bX [.slice a0 n0 c0, .slice a1 n1 c1, .slice a2 n2 c2, .int .i64 z] m := by first | exact iZ.out | exact ie.out
     obtain ⟨p0, p1, p2, p3⟩ := hD.d.c4; go_simp; obtain ⟨gi, fA⟩ : ∃ x, x = bX := ⟨_, rfl⟩
     have tK : Hid (ez w g br bd gi [.slice a0 n0 c0, .slice a1 n1 c1, .slice a2 n2 c2, .int .i64 z] m) := by unfold Hid; rw [fA]; exact hD
     have gq : True := trivial
     (try rw [<- fA] at Dy)
     rw [<- fA]; clear fA p0 p1 p2 p3 hD; refine aL hK (trivial) (fun hZ => ?_); clear hK K; refine bf 4 rfl fun K hK => ?_
     go_simp; have HST : Hid (ez w g br bd gi [.slice a0 n0 c0, .slice a1 n1 c1, .slice a2 n2 c2, .int .i64 z] m) := by first | exact iZ | exact tK
     refine (j6 _ m s _ bs gi HST.out.read hs2 (lO.read (e := 5) (F := _) ⟨ep Dy.out (Nat.zero_le _), Er, rfl⟩) FQ.out hs1 (by omega)).mono ?_; rintro e bK ⟨zH, F6, rfl, gL, Lp, eA⟩; replace gL : ∃ F, ba bK zH _ F /\ ∀ b, b ∈ F -> gi.heap.size <= b := ⟨F6, gL, Lp⟩
     obtain ⟨d0, k0, e0, d1, k1, e1, d2, k2, e2, z2, sK⟩ := dN gL; subst sK; have HN := Hm (HST.out.put cQ.out rfl eA gL (oJ FT.out)); have zJ := Hm (HST.out.d.under eA); clear gL eA; go_wp2_with fail; refine aL hK (trivial) (fun hZ => ?_); clear hK K; refine uq 5 ?_; refine uq 6 ?_; refine uq 7 ?_; refine bf 8 rfl fun K hK => ?_
     have dl := zJ.out; obtain ⟨p0, p1, p2, p3⟩ := dl.c4; obtain ⟨f0, f1, f2, f3⟩ := dl.f4; have l0 := dl.lt; clear dl; go_simp; refine aL hK (trivial) (fun hZ => ?_); clear hK K; refine dC ?_; clear p0 p1 p2 p3 f0 f1 f2 f3 l0; go_wp2_with fail
     go_roundw
     case rel => exact ⟨x - 1, d0, d1, d2, k0, e0, k1, e1, k2, e2, z2, _, rfl, by omega, by omega, HN⟩
     case measure => simp [intOf]; omega
   ·go_wp2_with fail
    refine (xH _ m s w5 rC.out hs2 FQ.out hs1).mono ?_; rintro e w6 ⟨zH, rfl, gL, eA⟩; obtain ⟨d0, k0, e0, d1, k1, e1, d2, k2, e2, z2, sK⟩ := dN gL; subst sK; have HN := Hm (HST.out.put cQ.out rfl eA gL (Jk FT.out)); have dl := HST.out.d.under eA; clear p0 p1 p2 p3 gL eA rC; obtain ⟨p0, p1, p2, p3⟩ := dl.c4; obtain ⟨f0, f1, f2, f3⟩ := dl.f4; have l0 := dl.lt; clear dl; go_wp2_with fail
    go_roundw
    case rel => exact ⟨x - 1, d0, d1, d2, k0, e0, k1, e1, k2, e2, z2, _, rfl, by omega, by omega, HN⟩
    case measure => simp [intOf]; omega
   ·go_wp2_with fail
    refine (rz _ m w5 rC.out FQ.out).mono ?_; rintro e w6 ⟨zH, rfl, gL, eA⟩; obtain ⟨d0, k0, e0, d1, k1, e1, d2, k2, e2, z2, sK⟩ := dN gL; subst sK; have HN := Hm (HST.out.put cQ.out rfl eA gL (BV FT.out)); have dl := HST.out.d.under eA; clear p0 p1 p2 p3 gL eA rC; obtain ⟨p0, p1, p2, p3⟩ := dl.c4; obtain ⟨f0, f1, f2, f3⟩ := dl.f4; have l0 := dl.lt; clear dl; go_wp2_with fail
    go_roundw
    case rel => exact ⟨x - 1, d0, d1, d2, k0, e0, k1, e1, k2, e2, z2, _, rfl, by omega, by omega, HN⟩
    case measure => simp [intOf]; omega
   ·go_wp2_with fail
    refine vE (fun W => True) (trivial) (fun hZ => ?_); obtain ⟨wS, jU⟩ : ∃ wS, wS = w5.drew := ⟨_, rfl⟩
    have ie : Hid (ez w g br bd wS [.slice a0 n0 c0, .slice a1 n1 c1, .slice a2 n2 c2, .int .i64 z] m) := by unfold Hid; rw [jU]; exact HST.out.drew
    rw [<- jU]; clear jU p0 p1 p2 p3 rC; refine uq 1 ?_; refine uq 2 ?_; refine lM [0, 3] ?_; refine (AllReadyH.cons (aM rfl) (fun K hK => ?_) (AllReadyH.cons (aM rfl) (fun K hK => ?_) AllReadyH.nil))
    ·go_simp
     have hD : ez w g br bd wS [.slice a0 n0 c0, .slice a1 n1 c1, .slice a2 n2 c2, .int .i64 z] m := by first | exact iZ.out | exact ie.out
     obtain ⟨p0, p1, p2, p3⟩ := hD.d.c4; go_simp; obtain ⟨gi, fA⟩ : ∃ x, x = wS := ⟨_, rfl⟩
     have tK : Hid (ez w g br bd gi [.slice a0 n0 c0, .slice a1 n1 c1, .slice a2 n2 c2, .int .i64 z] m) := by unfold Hid; rw [fA]; exact hD
     have gq : True := trivial
     (try rw [<- fA] at Dy)
     rw [<- fA]; clear fA p0 p1 p2 p3 hD; refine aL hK (trivial) (fun hZ => ?_); clear hK K; refine bf 3 rfl fun K hK => ?_
     go_simp; have hD : ez w g br bd gi [.slice a0 n0 c0, .slice a1 n1 c1, .slice a2 n2 c2, .int .i64 z] m := by first | exact tK.out | exact ie.out
     refine (kQ hD.c).mono ?_; rintro e bX ⟨t, ⟨rfl, ht⟩, d8, hgx⟩; have Xc := lT t ht; clear ht; have iZ : Hid (ez w g br bd bX [.slice a0 n0 c0, .slice a1 n1 c1, .slice a2 n2 c2, .int .i64 z] m) := hD.cur cQ.out hgx d8; clear hD hgx d8; go_wp2_with fail; refine aL hK (trivial) (fun hZ => ?_); clear hK K; refine bf 4 rfl fun K hK => ?_
     go_simp; have HST : Hid (ez w g br bd bX [.slice a0 n0 c0, .slice a1 n1 c1, .slice a2 n2 c2, .int .i64 z] m) := by first | exact iZ | exact tK
     refine (oU _ m s t bX HST.out.read hs2 (by omega) FQ.out hs1 (by omega)).mono ?_; rintro e bK ⟨zH, rfl, gL, eA⟩; obtain ⟨d0, k0, e0, d1, k1, e1, d2, k2, e2, z2, sK⟩ := dN gL; subst sK; have HN := Hm (HST.out.put cQ.out rfl eA gL (wR FT.out)); have zJ := Hm (HST.out.d.under eA); clear gL eA; go_wp2_with fail; refine aL hK (trivial) (fun hZ => ?_); clear hK K; refine uq 5 ?_; refine uq 6 ?_; refine uq 7 ?_; refine bf 8 rfl fun K hK => ?_
     have dl := zJ.out; obtain ⟨p0, p1, p2, p3⟩ := dl.c4; obtain ⟨f0, f1, f2, f3⟩ := dl.f4; have l0 := dl.lt; clear dl; go_simp; refine aL hK (trivial) (fun hZ => ?_); clear hK K; refine dC ?_; clear p0 p1 p2 p3 f0 f1 f2 f3 l0; go_wp2_with fail
     go_roundw
     case rel => exact ⟨x - 1, d0, d1, d2, k0, e0, k1, e1, k2, e2, z2, _, rfl, by omega, by omega, HN⟩
     case measure => simp [intOf]; omega
    ·go_simp
     have hD : ez w g br bd wS [.slice a0 n0 c0, .slice a1 n1 c1, .slice a2 n2 c2, .int .i64 z] m := by first | exact tK.out | exact ie.out
     refine (kQ hD.c).mono ?_; rintro e bX ⟨t, ⟨rfl, ht⟩, d8, hgx⟩; have Xc := lT t ht; clear ht; have iZ : Hid (ez w g br bd bX [.slice a0 n0 c0, .slice a1 n1 c1, .slice a2 n2 c2, .int .i64 z] m) := hD.cur cQ.out hgx d8; clear hD hgx d8; go_wp2_with fail; refine aL hK (trivial) (fun hZ => ?_); clear hK K; refine bf 0 rfl fun K hK => ?_
     go_simp; have hD : ez w g br bd bX [.slice a0 n0 c0, .slice a1 n1 c1, .slice a2 n2 c2, .int .i64 z] m := by first | exact iZ.out | exact ie.out
     obtain ⟨p0, p1, p2, p3⟩ := hD.d.c4; go_simp; obtain ⟨gi, fA⟩ : ∃ x, x = bX := ⟨_, rfl⟩
     have tK : Hid (ez w g br bd gi [.slice a0 n0 c0, .slice a1 n1 c1, .slice a2 n2 c2, .int .i64 z] m) := by unfold Hid; rw [fA]; exact hD
     have gq : True := trivial
     (try rw [<- fA] at Dy)
     rw [<- fA]; clear fA p0 p1 p2 p3 hD; refine aL hK (trivial) (fun hZ => ?_); clear hK K; refine bf 4 rfl fun K hK => ?_
     go_simp; have HST : Hid (ez w g br bd gi [.slice a0 n0 c0, .slice a1 n1 c1, .slice a2 n2 c2, .int .i64 z] m) := by first | exact iZ | exact tK
     refine (oU _ m s t gi HST.out.read hs2 (by omega) FQ.out hs1 (by omega)).mono ?_; rintro e bK ⟨zH, rfl, gL, eA⟩; obtain ⟨d0, k0, e0, d1, k1, e1, d2, k2, e2, z2, sK⟩ := dN gL; subst sK; have HN := Hm (HST.out.put cQ.out rfl eA gL (wR FT.out)); have zJ := Hm (HST.out.d.under eA); clear gL eA; go_wp2_with fail; refine aL hK (trivial) (fun hZ => ?_); clear hK K; refine uq 5 ?_; refine uq 6 ?_; refine uq 7 ?_; refine bf 8 rfl fun K hK => ?_
     have dl := zJ.out; obtain ⟨p0, p1, p2, p3⟩ := dl.c4; obtain ⟨f0, f1, f2, f3⟩ := dl.f4; have l0 := dl.lt; clear dl; go_simp; refine aL hK (trivial) (fun hZ => ?_); clear hK K; refine dC ?_; clear p0 p1 p2 p3 f0 f1 f2 f3 l0; go_wp2_with fail
     go_roundw
     case rel => exact ⟨x - 1, d0, d1, d2, k0, e0, k1, e1, k2, e2, z2, _, rfl, by omega, by omega, HN⟩
     case measure => simp [intOf]; omega
   ·go_wp2_with fail
    refine (tG _ m s w5 rC.out hs2 FQ.out hs1).mono ?_; rintro e w6 ⟨zH, rfl, gL, eA⟩; obtain ⟨d0, k0, e0, d1, k1, e1, d2, k2, e2, z2, sK⟩ := dN gL; subst sK; have HN := Hm (HST.out.put cQ.out rfl eA gL (DV FT.out)); have dl := HST.out.d.under eA; clear p0 p1 p2 p3 gL eA rC; obtain ⟨p0, p1, p2, p3⟩ := dl.c4; obtain ⟨f0, f1, f2, f3⟩ := dl.f4; have l0 := dl.lt; clear dl; go_wp2_with fail
    go_roundw
    case rel => exact ⟨x - 1, d0, d1, d2, k0, e0, k1, e1, k2, e2, z2, _, rfl, by omega, by omega, HN⟩
    case measure => simp [intOf]; omega
   ·go_wp2_with fail
    refine vE (fun W => True) (trivial) (fun hZ => ?_); obtain ⟨wS, jU⟩ : ∃ wS, wS = w5.drew := ⟨_, rfl⟩
    have ie : Hid (ez w g br bd wS [.slice a0 n0 c0, .slice a1 n1 c1, .slice a2 n2 c2, .int .i64 z] m) := by unfold Hid; rw [jU]; exact HST.out.drew
    rw [<- jU]; clear jU p0 p1 p2 p3 rC; refine uq 1 ?_; refine lM [0, 2] ?_; refine (AllReadyH.cons (aM rfl) (fun K hK => ?_) (AllReadyH.cons (aM rfl) (fun K hK => ?_) AllReadyH.nil))
    ·go_simp
     have hD : ez w g br bd wS [.slice a0 n0 c0, .slice a1 n1 c1, .slice a2 n2 c2, .int .i64 z] m := by first | exact uD.out | exact ie.out
     obtain ⟨p0, p1, p2, p3⟩ := hD.d.c4; go_simp; obtain ⟨gi, fA⟩ : ∃ x, x = wS := ⟨_, rfl⟩
     have tK : Hid (ez w g br bd gi [.slice a0 n0 c0, .slice a1 n1 c1, .slice a2 n2 c2, .int .i64 z] m) := by unfold Hid; rw [fA]; exact hD
     have gq : True := trivial
     (try rw [<- fA] at Dy)
     rw [<- fA]; clear fA p0 p1 p2 p3 hD; refine aL hK (trivial) (fun hZ => ?_); clear hK K; refine bf 2 rfl fun K hK => ?_
     go_simp; have hD : ez w g br bd gi [.slice a0 n0 c0, .slice a1 n1 c1, .slice a2 n2 c2, .int .i64 z] m := by first | exact tK.out | exact ie.out
     refine (cz 4 hD.c).mono ?_; rintro e ku ⟨kf, rfl, Hq, d8, hgx⟩; have Xd : 0 <= kf /\ kf < 16777216 := ⟨Hq.1, Hq.2.1⟩
     clear Hq; have uD : Hid (ez w g br bd ku [.slice a0 n0 c0, .slice a1 n1 c1, .slice a2 n2 c2, .int .i64 z] m) := hD.cur cQ.out hgx d8; clear hD hgx d8; go_wp2_with fail; refine aL hK (trivial) (fun hZ => ?_); clear hK K; refine bf 3 rfl fun K hK => ?_
     go_simp; have HST : Hid (ez w g br bd ku [.slice a0 n0 c0, .slice a1 n1 c1, .slice a2 n2 c2, .int .i64 z] m) := by first | exact uD | exact tK
     refine (xJ _ m kf ku HST.out.read (WalkArith.wf_i64 (by omega)) FQ.out).mono ?_; rintro e bX ⟨zH, rfl, gL, eA⟩; obtain ⟨d0, k0, e0, d1, k1, e1, d2, k2, e2, z2, sK⟩ := dN gL; subst sK; have HN := Hm (HST.out.put cQ.out rfl eA gL (wT FT.out)); have zJ := Hm (HST.out.d.under eA); clear gL eA; go_wp2_with fail; refine aL hK (trivial) (fun hZ => ?_); clear hK K; refine bf 4 rfl fun K hK => ?_
     have dl := zJ.out; obtain ⟨p0, p1, p2, p3⟩ := dl.c4; obtain ⟨f0, f1, f2, f3⟩ := dl.f4; have l0 := dl.lt; clear dl; go_simp; refine aL hK (trivial) (fun hZ => ?_); clear hK K; refine dC ?_; clear p0 p1 p2 p3 f0 f1 f2 f3 l0; go_wp2_with fail
     go_roundw
     case rel => exact ⟨x - 1, d0, d1, d2, k0, e0, k1, e1, k2, e2, z2, _, rfl, by omega, by omega, HN⟩
     case measure => simp [intOf]; omega
    ·go_simp
     have hD : ez w g br bd wS [.slice a0 n0 c0, .slice a1 n1 c1, .slice a2 n2 c2, .int .i64 z] m := by first | exact tK.out | exact ie.out
     refine (cz 4 hD.c).mono ?_; rintro e ku ⟨kf, rfl, Hq, d8, hgx⟩; have Xd : 0 <= kf /\ kf < 16777216 := ⟨Hq.1, Hq.2.1⟩
     clear Hq; have uD : Hid (ez w g br bd ku [.slice a0 n0 c0, .slice a1 n1 c1, .slice a2 n2 c2, .int .i64 z] m) := hD.cur cQ.out hgx d8; clear hD hgx d8; go_wp2_with fail; refine aL hK (trivial) (fun hZ => ?_); clear hK K; refine bf 0 rfl fun K hK => ?_
     go_simp; have hD : ez w g br bd ku [.slice a0 n0 c0, .slice a1 n1 c1, .slice a2 n2 c2, .int .i64 z] m := by first | exact uD.out | exact ie.out
     obtain ⟨p0, p1, p2, p3⟩ := hD.d.c4; go_simp; obtain ⟨gi, fA⟩ : ∃ x, x = ku := ⟨_, rfl⟩
     have tK : Hid (ez w g br bd gi [.slice a0 n0 c0, .slice a1 n1 c1, .slice a2 n2 c2, .int .i64 z] m) := by unfold Hid; rw [fA]; exact hD
     have gq : True := trivial
     (try rw [<- fA] at Dy)
     rw [<- fA]; clear fA p0 p1 p2 p3 hD; refine aL hK (trivial) (fun hZ => ?_); clear hK K; refine bf 3 rfl fun K hK => ?_
     go_simp; have HST : Hid (ez w g br bd gi [.slice a0 n0 c0, .slice a1 n1 c1, .slice a2 n2 c2, .int .i64 z] m) := by first | exact uD | exact tK
     refine (xJ _ m kf gi HST.out.read (WalkArith.wf_i64 (by omega)) FQ.out).mono ?_; rintro e bX ⟨zH, rfl, gL, eA⟩; obtain ⟨d0, k0, e0, d1, k1, e1, d2, k2, e2, z2, sK⟩ := dN gL; subst sK; have HN := Hm (HST.out.put cQ.out rfl eA gL (wT FT.out)); have zJ := Hm (HST.out.d.under eA); clear gL eA; go_wp2_with fail; refine aL hK (trivial) (fun hZ => ?_); clear hK K; refine bf 4 rfl fun K hK => ?_
     have dl := zJ.out; obtain ⟨p0, p1, p2, p3⟩ := dl.c4; obtain ⟨f0, f1, f2, f3⟩ := dl.f4; have l0 := dl.lt; clear dl; go_simp; refine aL hK (trivial) (fun hZ => ?_); clear hK K; refine dC ?_; clear p0 p1 p2 p3 f0 f1 f2 f3 l0; go_wp2_with fail
     go_roundw
     case rel => exact ⟨x - 1, d0, d1, d2, k0, e0, k1, e1, k2, e2, z2, _, rfl, by omega, by omega, HN⟩
     case measure => simp [intOf]; omega
  ·have dl := HST.out.d
   have hbr := HST.out.r; obtain ⟨p0, p1, p2, p3⟩ := dl.c4; obtain ⟨q0, q1, q2, q3⟩ := hbr.c4; obtain ⟨e0, e1, e2, e3⟩ := hbr.f4; have l0 := hbr.lt; have HP := Hm (fun W (hT : aw [br] wr W) => (show (∃ F, ba W [.slice a0 n0 c0, .slice a1 n1 c1, .slice a2 n2 c2, .int .i64 z] m F /\ ∀ b, b ∈ F -> w.heap.size <= b) /\ Fit m /\ b5 W g /\ aw [g] w W from HST.out.leave cQ.out hT)); clear dl hbr HST; go_wp2_with fail; refine bodyPost_ret (v := .agg #[.slice a0 n0 c0, .slice a1 n1 c1, .slice a2 n2 c2, .int .i64 z]) (by simp [results, Tryz.results39, go_sem, *]) rfl ⟨[.slice a0 n0 c0, .slice a1 n1 c1, .slice a2 n2 c2, .int .i64 z], rfl, m, HP.out _ ?_⟩; exact bE _ _ _ _ _ _
end Go.Proofs.YtcamcgfbljhbhaaGreatDoor
