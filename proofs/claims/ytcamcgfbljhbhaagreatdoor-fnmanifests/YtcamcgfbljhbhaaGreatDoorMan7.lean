/-
  Part 8 of the texts that the proof leans on.
-/
import Derived.Test.YtcamcgfbljhbhaaGreatDoorMan0
import Derived.Test.YtcamcgfbljhbhaaGreatDoorMan6
set_option linter.unusedVariables false
set_option linter.unusedSimpArgs false
set_option maxRecDepth 10000
set_option maxHeartbeats 20000000

namespace Go.Proofs.YtcamcgfbljhbhaaGreatDoor
open Go.RowKit Go.Maps
theorem sB (cs : List Value) (m : az) (kp : Int) (w : World) (hr : bg w.heap.size w cs m) (Mv : (Lit.int .i64 kp).wf = true) (hw : aZ m <= 1048576) :
  Calls Tryz.prog 14 #[.agg cs.toArray, .int .i64 kp] w fun e w' => ∃ (cs' : List Value) (F : List Nat), e = .returned (.agg cs'.toArray) /\ ba w' cs' (ei m kp) F /\ F.Nodup /\ (∀ b, b ∈ F -> w.heap.size <= b) /\ Below w.heap.size w w' := by
 have hq := hr; obtain ⟨a0, c0, a1, c1, a2, c2, rfl, hI, gf, gT, kX, _⟩ := hq; have hw2 : m.aa.length + aP aJ m.aa + (m.ae.length + aP a7 m.ae) + (m.ag.length + aP a7 m.ag) <= 1048576 := hw; have HW := Hm hw; have HR := Hm hr; have HI := Hm hI; have OZ := Hm gT; clear hr hI gf gT hw; have hkb : -9223372036854775808 <= kp /\ kp <= 9223372036854775807 := by simpa [Lit.wf, IntKind.min, IntKind.max, IntKind.signed, IntKind.bits] using Mv
 obtain ⟨WS, WT⟩ := hkb; go_enter Tryz.func14, Tryz.ntmps14; go_wp2_with fail; obtain ⟨wq, bI⟩ : ∃ wq, wq = ((w.alloc (.cells #[.slice a0 m.aa.length c0, .slice a1 m.ae.length c1, .slice a2 m.ag.length c2, .int .i64 m.ah] 27)).alloc (.cells #[.slice none 0 0, .slice none 0 0, .slice none 0 0, .int .i64 0] 27)) := ⟨_, rfl⟩
 have cJ : Below w.heap.size w wq := by rw [bI]; exact Below.alloc (Below.alloc rB (by exact rN) _) (by simp; try omega) _
 have dl : Bw wq (w.heap.size) 27 (cj a0 c0 a1 c1 a2 c2 m) := by rw [bI]; exact Bw.alloc (Bw.dX _ _ _ (by simp)) _
 have hbr : Bw wq (w.heap.size + 1) 27 oz := by rw [bI]; exact Bw.dX _ _ _ (by simp)
 rw [<- bI]; clear bI; refine (jZ _ m wq (aq.mono (aq.below HR.out cJ) cJ.size) HW.out).mono ?_; rintro e w1 ⟨rfl, hx1⟩; have hb1 := af cJ hx1; have df := dl.under hx1; have dB := hbr.under hx1; have sF := df.lt; have JL := dB.lt; obtain ⟨y0, y1, y2, y3⟩ := df.c4; clear dl hbr
 by_cases hK : bc m = true
 ·by_cases qZ : kp < 0
  ·have HV : Hid (ei m kp = m) := by show _ = _; unfold ei; rw [if_neg (by omega)]
   rw [hK]; clear hK; go_wp2_with fail; refine (cE _ (m) w1 (aq.mono (aq.below HR.out hb1) hb1.size) HW.out).mono ?_; rintro e w3 ⟨uB, F3, rfl, eU, jx, cm, hx3⟩; have hb3 := af hb1 hx3; have dc := dB.under hx3; have sI := dc.lt; have hz3 := hb1.size; have Ce := dB.lt; obtain ⟨q0, p0, q1, p1, q2, p2, G0, G1, G2, rfl, _, _, _, _, rfl⟩ := aC eU
   have hkey : ∀ W', aw [w.heap.size + 1] w3 W' -> ba W' (cj q0 p0 q1 p1 q2 p2 m) (m) (G0 ++ G1 ++ G2 ++ []) /\ Below w.heap.size w W' := fun W' hT =>
    ⟨aj.frame eU (fun b hb => hT.block b (aj.lt eU b hb) (fun h => by simp at h; have := cm b hb; omega)), hb3.trans (hT.below (fun k hk => by simp at hk; omega) hb3.size)⟩
   have HKEY := Hm hkey; have rW := Hm jx; have pW : Hid (∀ b, b ∈ G0 ++ G1 ++ G2 ++ [] -> w.heap.size <= b) := fun b hb => by have := cm b hb; omega
   clear hkey eU jx cm y0 y1 y2 y3; obtain ⟨oa, od, og, oh⟩ := dc.c4; obtain ⟨oc, mz, nL, ol⟩ := dc.f4; go_wp2_with fail; obtain ⟨h1, h3⟩ := HKEY.out _ (show aw [w.heap.size + 1] w3 ((((w3.setCell ⟨w.heap.size + 1, 0, none⟩ (.slice q0 m.aa.length p0)).setCell ⟨w.heap.size + 1, 1, none⟩ (.slice q1 m.ae.length p1)).setCell ⟨w.heap.size + 1, 2, none⟩ (.slice q2 m.ag.length p2)).setCell ⟨w.heap.size + 1, 3, none⟩ (.int .i64 m.ah)) from bE _ _ _ _ _ _); exact bodyPost_ret (v := .agg #[.slice q0 m.aa.length p0, .slice q1 m.ae.length p1, .slice q2 m.ag.length p2, .int .i64 m.ah]) (by simp [results, Tryz.results14, go_sem, *]) rfl ⟨(cj q0 p0 q1 p1 q2 p2 m), _, rfl, by rw [HV.out]; exact h1, rW.out, pW.out, h3⟩
  ·have LQ : 0 <= kp := by omega
   have WU : (kp < 0) = False := eq_false qZ; have ua := bM.1 hK; have HV : Hid (ei m kp = { m with ae := m.ag, aa := (bV { m with ae := m.ag }).map (eb kp) }) := by show _ = _; unfold ei; rw [if_pos ⟨hK, LQ⟩]
   have hwt := eB hK; have Aw : aZ { m with ae := m.ag } <= 1048576 := by rw [cR]; simp only; omega
   have AK : Hid (aZ { m with ae := m.ag } <= 16777216) := by show _ <= _; omega
   have O3 : Hid (aZ { m with ae := m.ag, aa := (bV { m with ae := m.ag }).map (eb kp) } <= 1048576) := by
    show _ <= _; have h1 := jS { m with ae := m.ag }; unfold aY at h1; rw [cR] at h1 ⊢; have h2 := nj (f := eb kp) (fun x => by unfold eb aJ; simp; omega) (bV { m with ae := m.ag }); simp only [List.length_map] at h1 ⊢; omega
   have SH : Hid (∀ x, x ∈ bV { m with ae := m.ag } -> 0 <= x.aW /\ x.aW <= x.aG.length /\ x.aG.length <= 60000) := by
    intro x hx; have yM : x ∈ m.aa := (List.mem_filter.1 hx).1; obtain ⟨i, hi, rfl⟩ := List.mem_iff_getElem.1 yM; have h1 := ua.each _ yM; have h2 := jt (f := aJ) hi; have h3 : aJ m.aa[i] = m.aa[i].aG.length := rfl; omega
   have gH : (bV { m with ae := m.ag }).length <= 60 := Nat.le_trans (List.length_filter_le _ _) (by show m.aa.length <= 60; omega); rw [hK]; clear hK hwt Aw ua; have f1 := df.free 1; go_wp2_with fail; obtain ⟨ws, jh⟩ : ∃ ws, ws = w1.setCell ⟨w.heap.size, 1, none⟩ (.slice a2 m.ag.length c2) := ⟨_, rfl⟩
   have jw : aw [w.heap.size] w1 ws := by rw [jh]; exact aw.setCell (aw.refl _ _) (by simp) _
   have oT : Bw ws w.heap.size 27 [.slice a0 m.aa.length c0, .slice a2 m.ag.length c2, .slice a2 m.ag.length c2, .int .i64 m.ah] := by rw [jh]; exact df.put 1 _
   rw [<- jh]; clear jh y0 y1 y2 y3 f1; have jd := dB.turn jw (by simp); have l8 : Below w.heap.size w ws := hb1.trans (jw.below (fun k hk => by simp at hk; omega) hb1.size); refine (iY a0 a2 a2 c0 c2 c2 { m with ae := m.ag } ws w.heap.size l8.size (HI.out.below aV l8) (bw.mono au (OZ.out.below au l8) l8.size) (bw.mono au (OZ.out.below au l8) l8.size) AK.out).mono ?_; rintro e w2 ⟨ak, ck, rfl, hrow, _, hx2⟩; obtain ⟨kl, JZ⟩ : ∃ kl, kl = bV { m with ae := m.ag } := ⟨_, rfl⟩
   rw [<- JZ] at hrow gH SH HV O3 ⊢; have oQ := Hm hrow; have hb2 := af l8 hx2; have eT := oT.under hx2; have bZ := jd.under hx2; have hl2 := eT.lt; have Sk := oT.lt; have JM := jd.lt; obtain ⟨y0, y1, y2, y3⟩ := eT.c4; have f0 := eT.free 0; clear hrow JZ; have acN := hx2.size; have TP := l8.size; have DO : ∀ W, aw [w.heap.size] w2 W -> True := fun _ _ => trivial
   clear DO; go_wp2_with fail; obtain ⟨wt, hwt⟩ : ∃ wt, wt = w2.setCell ⟨w.heap.size, 0, none⟩ (.slice ak kl.length ck) := ⟨_, rfl⟩
   have AL : aw [w.heap.size] w2 wt := by rw [hwt]; exact aw.setCell (aw.refl _ _) (by simp) _
   have TQ : Bw wt w.heap.size 27 [.slice ak kl.length ck, .slice a2 m.ag.length c2, .slice a2 m.ag.length c2, .int .i64 m.ah] := by rw [hwt]; exact eT.put 0 _
   rw [<- hwt]; clear hwt y0 y1 y2 y3 f0; have xD := bZ.turn AL (by simp); have Cc : Below w.heap.size w wt := hb2.trans (AL.below (fun k hk => by simp at hk; omega) hb2.size)
   have hrt : bS 3 73 dL w.heap.size wt ws.heap.size (.slice ak kl.length ck) (cG (eb kp) kl 0) := by
    rw [tI]; exact bS.turn aV oQ.out AL (fun k hk => by simp at hk; omega) hb2.size rN
   go_loopw [26] (fun i wr => ∃ j : Nat, j <= kl.length /\ i = .int .i64 j /\ bS 3 73 dL w.heap.size wr ws.heap.size (.slice ak kl.length ck) (cG (eb kp) kl j) /\ Below w.heap.size w wr /\ Bw wr w.heap.size 27 [.slice ak kl.length ck, .slice a2 m.ag.length c2, .slice a2 m.ag.length c2, .int .i64 m.ah] /\ Bw wr (w.heap.size + 1) 27 oz) (fun i _ => kl.length - (intOf i).toNat)
   case atStart => exact ⟨0, Nat.zero_le _, rfl, hrt, Cc, TQ, xD⟩
   case round =>
    obtain ⟨j, hj, rfl, hrow, bF, Qn, En⟩ := hrel; have cO := Hm hrow; have Bq := Hm Qn; have zx := Hm En; have hlx := Qn.lt; have Yw := En.lt; clear hrow Qn En hrt Cc TQ xD oQ
    by_cases hlt : j < kl.length
    ·have hpl := pX (eb kp) kl hj
     obtain ⟨g, cap, cs, hv, hgb, iV, iw, t8, hcell, Cj⟩ := cO.out.at (j := j) (by rw [hpl]; exact hlt); rw [oV _ _ hlt] at t8; rw [hpl] at hv; simp only [Value.slice.injEq, true_and] at hv; obtain ⟨rfl, rfl⟩ := hv; have Jd := SH.out kl[j] (List.getElem_mem hlt); obtain ⟨x, hx⟩ : ∃ x, kl[j] = x := ⟨_, rfl⟩
     rw [hx] at t8 Jd; have HX : Hid (kl[j] = x) := hx; clear hx; obtain ⟨ad, cd, rfl, hid, Bn, hsu, _⟩ := t8; obtain ⟨hx1, hx2, hx3⟩ := Jd; have k0 := hcell 0 _ rfl; have k1 := hcell 1 _ rfl; have k2 := hcell 2 _ rfl; rw [Nat.add_zero] at k0; have J0 := Hm Cj; have IW := Hm Bn; have cQ := Hm hpl; obtain ⟨dn, y5⟩ : ∃ dn, x.aG.length = dn := ⟨_, rfl⟩
     have xA := Hm y5; rw [y5] at k1 hx2 hx3; obtain ⟨nl, Dp⟩ : ∃ nl : Nat, (nl : Int) = x.aW + min kp (dn - x.aW) := ⟨(x.aW + min kp (dn - x.aW)).toNat, by omega⟩
     have SJ : nl <= dn := by omega
     have yE := Hm Dp; have MS : dn <= cd := by have := Bn.1; omega
     have W4 : cd <= 9223372036854775807 := Bn.2.1; clear hcell Cj Bn hpl iw y5
     by_cases W6 : kp <= dn - x.aW
     ·have SL : x.aW + kp = (nl : Int) := by omega
      clear Dp; go_wp2_with fail; obtain ⟨wi, rO⟩ : ∃ wi, wi = wr.alloc (.cells #[.int .i64 x.bi, .slice ad dn cd, .int .i64 x.aW] 73) := ⟨_, rfl⟩
      have gU : Below wr.heap.size wr wi := by rw [rO]; exact rB.alloc rN _
      have nk : Bw wi wr.heap.size 73 [.int .i64 x.bi, .slice ad dn cd, .int .i64 x.aW] := by rw [rO]; exact Bw.new _ _ _
      rw [<- rO]; clear rO; have Fc := bF.size; have hgi : g < wi.heap.size := Nat.lt_of_lt_of_le iV gU.size; have q0 := (gU.cell (p := ⟨g, j * 3, none⟩) iV).trans k0; have q1 := (gU.cell (p := ⟨g, j * 3 + 1, none⟩) iV).trans k1; have q2 := (gU.cell (p := ⟨g, j * 3 + 2, none⟩) iV).trans k2; have r0 := (gU.frozen (p := ⟨g, j * 3, none⟩) iV).trans (J0.out _); have r1 := (gU.frozen (p := ⟨g, j * 3 + 1, none⟩) iV).trans (J0.out _); have r2 := (gU.frozen (p := ⟨g, j * 3 + 2, none⟩) iV).trans (J0.out _); have z0 := (Bq.out.under gU).cell 0 _ rfl; have n0 := nk.cell 0 _ rfl; have n1 := nk.cell 1 _ rfl; have SM : (nl : Int) <= (cd : Int) := by omega
      have SN : (0 : Int) <= (nl : Int) := by omega
      have Yf : g ≠ w.heap.size := by omega
      have hgr : g ≠ wr.heap.size := by omega
      clear k0 k1 k2; refine vE (fun W => W.cell? ⟨w.heap.size, 0, none⟩ = some (.slice (some ⟨g, 0, none⟩) kl.length ck) /\ W.cell? ⟨wr.heap.size, 0, none⟩ = some (.int .i64 x.bi) /\ W.cell? ⟨wr.heap.size, 1, none⟩ = some (.slice ad dn cd)) (⟨z0, n0, n1⟩) (fun hZ => ?_); refine uq 0 ?_; refine uq 1 ?_; refine uq 2 ?_; refine uq 3 ?_; refine uq 4 ?_; refine uq 5 ?_; refine uq 6 ?_; refine uq 7 ?_; refine uq 8 ?_; refine uq 9 ?_; refine uq 10 ?_; refine uq 11 ?_; refine bf 12 rfl fun K hK => ?_
      go_simp; have Np : Hid (aw [g] wi (((wi.setCell ⟨g, j * 3, none⟩ (.int .i64 x.bi)).setCell ⟨g, j * 3 + 1, none⟩ (.slice ad nl cd)).setCell ⟨g, j * 3 + 2, none⟩ (.int .i64 nl)).drew) := aw.drew (aw.setCell (aw.setCell (aw.setCell (aw.refl _ _) (by simp) _) (by simp) _) (by simp) _); have B9 := nk.lt; go_simp; refine aL hK (⟨(Np.out.cell (p := ⟨w.heap.size, 0, none⟩) (by simp; omega) (by simp; omega)).trans z0, (Np.out.cell (p := ⟨wr.heap.size, 0, none⟩) (by simp; omega) (by simp; omega)).trans n0, (Np.out.cell (p := ⟨wr.heap.size, 1, none⟩) (by simp; omega) (by simp; omega)).trans n1⟩) (fun hZ => ?_); clear hK K; refine dC ?_; obtain ⟨w3, hw3⟩ : ∃ w3, w3 = (((wi.setCell ⟨g, j * 3, none⟩ (.int .i64 x.bi)).setCell ⟨g, j * 3 + 1, none⟩ (.slice ad nl cd)).setCell ⟨g, j * 3 + 2, none⟩ (.int .i64 nl)).drew := ⟨_, rfl⟩
      have hcut : eb kp x = { x with aG := x.aG.take nl, aW := (nl : Int) } := by unfold eb; rw [xA.out, <- yE.out, Int.toNat_natCast]
      have J1 : bS 3 73 dL w.heap.size wi ws.heap.size (.slice (some ⟨g, 0, none⟩) (cG (eb kp) kl j).length ck) (cG (eb kp) kl j) := by rw [cQ.out]; exact bS.keep aV cO.out gU Fc
      have GZ : (x.aG.take nl).length = nl := by rw [List.length_take, xA.out]; omega
      have TR : dL w.heap.size wi [.int .i64 x.bi, .slice ad nl cd, .int .i64 nl] (eb kp x) := by
       rw [hcut]; refine ⟨ad, cd, ?_, hid, fM.take (IW.out.below (gU.mono Fc)) nl, ?_, trivial⟩
       ·simp only [GZ]
       ·show (Lit.int .i64 (nl : Int)).wf = true
        exact WalkArith.wf_i64 (by omega)
      obtain ⟨p1, p2, p3⟩ := bS.put aV J1 TP (Nat.le_trans Fc gU.size) (j := j) (by rw [cQ.out]; exact hlt) rfl TR; have e1 : (cG (eb kp) kl j).set j (eb kp x) = cG (eb kp) kl (j + 1) := by rw [<- HX.out]; exact oW _ _ hlt
      rw [e1, cQ.out] at p1; have mY : aw [g] wi w3 := by rw [hw3]; exact Np.out
      have TS : bS 3 73 dL w.heap.size w3 ws.heap.size (.slice (some ⟨g, 0, none⟩) kl.length ck) (cG (eb kp) kl (j + 1)) := by
       rw [hw3]; exact bS.keep aV p1 (Below.drew rB) (by have := p2.size; have := gU.size; omega)
      have P9 := Hm TS; have zy : Below w.heap.size w w3 := (af bF gU).trans (mY.below (fun k hk => by simp at hk; omega) (af bF gU).size); have jJ := (Bq.out.under gU).turn mY (by simp; omega); have dc := (zx.out.under gU).turn mY (by simp; omega); have XZ : wr.heap.size < w3.heap.size := Nat.lt_of_lt_of_le nk.lt mY.size; rw [<- hw3]; clear hw3 mY TS p1 p2 J1 TR hZ q0 q1 q2 r0 r1 r2 z0 n0 n1 e1; go_wp2_with fail
      go_roundw
      case rel => exact ⟨j + 1, by omega, by go_num, P9.out, zy, jJ, dc⟩
      case measure => simp [intOf]; omega
     ·have SL : x.aW + ((dn : Int) - x.aW) = (nl : Int) := by omega
      have Xa : (dn - x.aW : Int) <= kp := by omega
      clear Dp; go_wp2_with fail; obtain ⟨wi, rO⟩ : ∃ wi, wi = wr.alloc (.cells #[.int .i64 x.bi, .slice ad dn cd, .int .i64 x.aW] 73) := ⟨_, rfl⟩
      have gU : Below wr.heap.size wr wi := by rw [rO]; exact rB.alloc rN _
      have nk : Bw wi wr.heap.size 73 [.int .i64 x.bi, .slice ad dn cd, .int .i64 x.aW] := by rw [rO]; exact Bw.new _ _ _
      rw [<- rO]; clear rO; have Fc := bF.size; have hgi : g < wi.heap.size := Nat.lt_of_lt_of_le iV gU.size; have q0 := (gU.cell (p := ⟨g, j * 3, none⟩) iV).trans k0; have q1 := (gU.cell (p := ⟨g, j * 3 + 1, none⟩) iV).trans k1; have q2 := (gU.cell (p := ⟨g, j * 3 + 2, none⟩) iV).trans k2; have r0 := (gU.frozen (p := ⟨g, j * 3, none⟩) iV).trans (J0.out _); have r1 := (gU.frozen (p := ⟨g, j * 3 + 1, none⟩) iV).trans (J0.out _); have r2 := (gU.frozen (p := ⟨g, j * 3 + 2, none⟩) iV).trans (J0.out _); have z0 := (Bq.out.under gU).cell 0 _ rfl; have n0 := nk.cell 0 _ rfl; have n1 := nk.cell 1 _ rfl; have SM : (nl : Int) <= (cd : Int) := by omega
      have SN : (0 : Int) <= (nl : Int) := by omega
      have Yf : g ≠ w.heap.size := by omega
      have hgr : g ≠ wr.heap.size := by omega
      clear k0 k1 k2; refine vE (fun W => W.cell? ⟨w.heap.size, 0, none⟩ = some (.slice (some ⟨g, 0, none⟩) kl.length ck) /\ W.cell? ⟨wr.heap.size, 0, none⟩ = some (.int .i64 x.bi) /\ W.cell? ⟨wr.heap.size, 1, none⟩ = some (.slice ad dn cd)) (⟨z0, n0, n1⟩) (fun hZ => ?_); refine uq 0 ?_; refine uq 1 ?_; refine uq 2 ?_; refine uq 3 ?_; refine uq 4 ?_; refine uq 5 ?_; refine uq 6 ?_; refine uq 7 ?_; refine uq 8 ?_; refine uq 9 ?_; refine uq 10 ?_; refine uq 11 ?_; refine bf 12 rfl fun K hK => ?_
      go_simp; have Np : Hid (aw [g] wi (((wi.setCell ⟨g, j * 3, none⟩ (.int .i64 x.bi)).setCell ⟨g, j * 3 + 1, none⟩ (.slice ad nl cd)).setCell ⟨g, j * 3 + 2, none⟩ (.int .i64 nl)).drew) := aw.drew (aw.setCell (aw.setCell (aw.setCell (aw.refl _ _) (by simp) _) (by simp) _) (by simp) _); have B9 := nk.lt; go_simp; refine aL hK (⟨(Np.out.cell (p := ⟨w.heap.size, 0, none⟩) (by simp; omega) (by simp; omega)).trans z0, (Np.out.cell (p := ⟨wr.heap.size, 0, none⟩) (by simp; omega) (by simp; omega)).trans n0, (Np.out.cell (p := ⟨wr.heap.size, 1, none⟩) (by simp; omega) (by simp; omega)).trans n1⟩) (fun hZ => ?_); clear hK K; refine dC ?_; obtain ⟨w3, hw3⟩ : ∃ w3, w3 = (((wi.setCell ⟨g, j * 3, none⟩ (.int .i64 x.bi)).setCell ⟨g, j * 3 + 1, none⟩ (.slice ad nl cd)).setCell ⟨g, j * 3 + 2, none⟩ (.int .i64 nl)).drew := ⟨_, rfl⟩
      have hcut : eb kp x = { x with aG := x.aG.take nl, aW := (nl : Int) } := by unfold eb; rw [xA.out, <- yE.out, Int.toNat_natCast]
      have J1 : bS 3 73 dL w.heap.size wi ws.heap.size (.slice (some ⟨g, 0, none⟩) (cG (eb kp) kl j).length ck) (cG (eb kp) kl j) := by rw [cQ.out]; exact bS.keep aV cO.out gU Fc
      have GZ : (x.aG.take nl).length = nl := by rw [List.length_take, xA.out]; omega
      have TR : dL w.heap.size wi [.int .i64 x.bi, .slice ad nl cd, .int .i64 nl] (eb kp x) := by
       rw [hcut]; refine ⟨ad, cd, ?_, hid, fM.take (IW.out.below (gU.mono Fc)) nl, ?_, trivial⟩
       ·simp only [GZ]
       ·show (Lit.int .i64 (nl : Int)).wf = true
        exact WalkArith.wf_i64 (by omega)
      obtain ⟨p1, p2, p3⟩ := bS.put aV J1 TP (Nat.le_trans Fc gU.size) (j := j) (by rw [cQ.out]; exact hlt) rfl TR; have e1 : (cG (eb kp) kl j).set j (eb kp x) = cG (eb kp) kl (j + 1) := by rw [<- HX.out]; exact oW _ _ hlt
      rw [e1, cQ.out] at p1; have mY : aw [g] wi w3 := by rw [hw3]; exact Np.out
      have TS : bS 3 73 dL w.heap.size w3 ws.heap.size (.slice (some ⟨g, 0, none⟩) kl.length ck) (cG (eb kp) kl (j + 1)) := by
       rw [hw3]; exact bS.keep aV p1 (Below.drew rB) (by have := p2.size; have := gU.size; omega)
      have P9 := Hm TS; have zy : Below w.heap.size w w3 := (af bF gU).trans (mY.below (fun k hk => by simp at hk; omega) (af bF gU).size); have jJ := (Bq.out.under gU).turn mY (by simp; omega); have dc := (zx.out.under gU).turn mY (by simp; omega); have XZ : wr.heap.size < w3.heap.size := Nat.lt_of_lt_of_le nk.lt mY.size; rw [<- hw3]; clear hw3 mY TS p1 p2 J1 TR hZ q0 q1 q2 r0 r1 r2 z0 n0 n1 e1; go_wp2_with fail
      go_roundw
      case rel => exact ⟨j + 1, by omega, by go_num, P9.out, zy, jJ, dc⟩
      case measure => simp [intOf]; omega
    ·have LO : j = kl.length := by omega
     subst LO; have hrow := cO.out; rw [vt] at hrow; obtain ⟨ar, cr, hv, wV⟩ := hrow.leaf aV bF.size; rw [List.length_map] at hv; simp only [Value.slice.injEq, true_and] at hv; obtain ⟨rfl, rfl⟩ := hv; have Hg : bg wr.heap.size wr [.slice ak kl.length ck, .slice a2 m.ag.length c2, .slice a2 m.ag.length c2, .int .i64 m.ah] { m with ae := m.ag, aa := kl.map (eb kp) } := ⟨ak, ck, a2, c2, a2, c2, by simp, wV, bw.mono au (OZ.out.below au bF) bF.size, bw.mono au (OZ.out.below au bF) bF.size, kX, trivial⟩
     have Uy := Hm Hg; clear hrow wV Hg; obtain ⟨fd, hfd⟩ : ∃ fd, fd = { m with ae := m.ag, aa := kl.map (eb kp) } := ⟨_, rfl⟩
     rw [<- hfd] at Uy O3 HV; clear hfd; obtain ⟨y0, y1, y2, y3⟩ := Bq.out.c4; go_wp2_with fail; refine (cE _ (fd) wr Uy.out O3.out).mono ?_; rintro e w3 ⟨uB, F3, rfl, eU, jx, cm, hx3⟩; have hb3 := af bF hx3; have dc := zx.out.under hx3; have sI := dc.lt; have hz3 := bF.size; have Ce := zx.out.lt; obtain ⟨q0, p0, q1, p1, q2, p2, G0, G1, G2, rfl, _, _, _, _, rfl⟩ := aC eU
     have hkey : ∀ W', aw [w.heap.size + 1] w3 W' -> ba W' [.slice q0 (fd).aa.length p0, .slice q1 (fd).ae.length p1, .slice q2 (fd).ag.length p2, .int .i64 (fd).ah] (fd) (G0 ++ G1 ++ G2 ++ []) /\ Below w.heap.size w W' := fun W' hT =>
      ⟨aj.frame eU (fun b hb => hT.block b (aj.lt eU b hb) (fun h => by simp at h; have := cm b hb; omega)), hb3.trans (hT.below (fun k hk => by simp at hk; omega) hb3.size)⟩
     have HKEY := Hm hkey; have rW := Hm jx; have pW : Hid (∀ b, b ∈ G0 ++ G1 ++ G2 ++ [] -> w.heap.size <= b) := fun b hb => by have := cm b hb; omega
     clear hkey eU jx cm y0 y1 y2 y3; obtain ⟨oa, od, og, oh⟩ := dc.c4; obtain ⟨oc, mz, nL, ol⟩ := dc.f4; go_wp2_with fail; obtain ⟨h1, h3⟩ := HKEY.out _ (show aw [w.heap.size + 1] w3 ((((w3.setCell ⟨w.heap.size + 1, 0, none⟩ (.slice q0 (fd).aa.length p0)).setCell ⟨w.heap.size + 1, 1, none⟩ (.slice q1 (fd).ae.length p1)).setCell ⟨w.heap.size + 1, 2, none⟩ (.slice q2 (fd).ag.length p2)).setCell ⟨w.heap.size + 1, 3, none⟩ (.int .i64 (fd).ah)) from bE _ _ _ _ _ _); exact bodyPost_ret (v := .agg #[.slice q0 (fd).aa.length p0, .slice q1 (fd).ae.length p1, .slice q2 (fd).ag.length p2, .int .i64 (fd).ah]) (by simp [results, Tryz.results14, go_sem, *]) rfl ⟨[.slice q0 (fd).aa.length p0, .slice q1 (fd).ae.length p1, .slice q2 (fd).ag.length p2, .int .i64 (fd).ah], _, rfl, by rw [HV.out]; exact h1, rW.out, pW.out, h3⟩
 ·have HV : Hid (ei m kp = m) := by show _ = _; unfold ei; rw [if_neg (by intro h; exact hK h.1)]
  have hK2 : bc m = false := Bool.eq_false_iff.2 hK; rw [hK2]; clear hK hK2; go_wp2_with fail; refine (cE _ (m) w1 (aq.mono (aq.below HR.out hb1) hb1.size) HW.out).mono ?_; rintro e w3 ⟨uB, F3, rfl, eU, jx, cm, hx3⟩; have hb3 := af hb1 hx3; have dc := dB.under hx3; have sI := dc.lt; have hz3 := hb1.size; have Ce := dB.lt; obtain ⟨q0, p0, q1, p1, q2, p2, G0, G1, G2, rfl, _, _, _, _, rfl⟩ := aC eU
  have hkey : ∀ W', aw [w.heap.size + 1] w3 W' -> ba W' (cj q0 p0 q1 p1 q2 p2 m) (m) (G0 ++ G1 ++ G2 ++ []) /\ Below w.heap.size w W' := fun W' hT =>
   ⟨aj.frame eU (fun b hb => hT.block b (aj.lt eU b hb) (fun h => by simp at h; have := cm b hb; omega)), hb3.trans (hT.below (fun k hk => by simp at hk; omega) hb3.size)⟩
  have HKEY := Hm hkey; have rW := Hm jx; have pW : Hid (∀ b, b ∈ G0 ++ G1 ++ G2 ++ [] -> w.heap.size <= b) := fun b hb => by have := cm b hb; omega
  clear hkey eU jx cm y0 y1 y2 y3; obtain ⟨oa, od, og, oh⟩ := dc.c4; obtain ⟨oc, mz, nL, ol⟩ := dc.f4; go_wp2_with fail; obtain ⟨h1, h3⟩ := HKEY.out _ (show aw [w.heap.size + 1] w3 ((((w3.setCell ⟨w.heap.size + 1, 0, none⟩ (.slice q0 m.aa.length p0)).setCell ⟨w.heap.size + 1, 1, none⟩ (.slice q1 m.ae.length p1)).setCell ⟨w.heap.size + 1, 2, none⟩ (.slice q2 m.ag.length p2)).setCell ⟨w.heap.size + 1, 3, none⟩ (.int .i64 m.ah)) from bE _ _ _ _ _ _); exact bodyPost_ret (v := .agg #[.slice q0 m.aa.length p0, .slice q1 m.ae.length p1, .slice q2 m.ag.length p2, .int .i64 m.ah]) (by simp [results, Tryz.results14, go_sem, *]) rfl ⟨(cj q0 p0 q1 p1 q2 p2 m), _, rfl, by rw [HV.out]; exact h1, rW.out, pW.out, h3⟩
end Go.Proofs.YtcamcgfbljhbhaaGreatDoor
