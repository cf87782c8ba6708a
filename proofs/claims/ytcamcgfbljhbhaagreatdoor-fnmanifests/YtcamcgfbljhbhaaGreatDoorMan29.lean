/-
  Part 30 of the texts that the proof leans on.
-/
import Derived.Test.YtcamcgfbljhbhaaGreatDoorMan0
import Derived.Test.YtcamcgfbljhbhaaGreatDoorMan19
import Derived.Test.YtcamcgfbljhbhaaGreatDoorMan24
import Derived.Test.YtcamcgfbljhbhaaGreatDoorMan26
import Derived.Test.YtcamcgfbljhbhaaGreatDoorMan28
import Derived.Test.YtcamcgfbljhbhaaGreatDoorMan7
import Derived.Deep.DeepCutAuto
set_option linter.unusedVariables false
set_option linter.unusedSimpArgs false
set_option maxRecDepth 10000
set_option maxHeartbeats 20000000

namespace Go.Proofs.YtcamcgfbljhbhaaGreatDoor
open Go.RowKit Go.Maps
theorem Lb (a : Option Addr) (n cap : Nat) (w : World) :
  Calls Tryz.prog 4 #[.slice a n cap] w fun e w' => e = .returned (.bool (decide (1048576 < (n : Int)))) /\ w' = w := by
 go_enter Tryz.func4, Tryz.ntmps4; go_wp2_with fail; go_ret; exact ⟨rfl, rfl⟩
theorem Gs (a : Option Addr) (n cap i : Nat) (zs : List Int) (w : World) (hx : zs.length = n) (hlen : n <= 1048576) (hi : i <= 1000) (hb : nc zs) (hr : Rd .u8 w.heap.size w a zs) :
  Calls Tryz.prog 15 #[.slice a n cap, .int .i64 i] w fun e w' => ∃ x : Nat, (e = .returned (.int .i64 x) /\ x <= 255) /\ w' = w := by
 have HX := Hm hx; clear hx
 by_cases hlt : i < n
 ·obtain ⟨b1, o1, rfl, _, hc1⟩ := hr i (by rw [HX.out]; exact hlt)
  have dl : 0 <= zs.getD i 0 /\ zs.getD i 0 <= 255 := by
   have h : i < zs.length := by rw [HX.out]; exact hlt
   rw [List.getD_eq_getElem?_getD, List.getElem?_eq_getElem h]; exact hb _ (List.getElem_mem h)
  generalize zs.getD i 0 = z at hc1 dl; go_enter Tryz.func15, Tryz.ntmps15; go_wp2_with fail; go_ret; obtain ⟨x, rfl⟩ := Int.eq_ofNat_of_zero_le dl.1; exact ⟨x, ⟨by go_num, by omega⟩, rfl⟩
 ·go_enter Tryz.func15, Tryz.ntmps15
  go_wp2_with fail; go_ret; exact ⟨(i * 31 + n * 7) % 256, ⟨by go_num, by omega⟩, rfl⟩
structure Qo (W : World) (b : Nat) (cs : List Value) (m : az) : Prop where
 b : Bw W b 27 cs
 r : bg W.heap.size W cs m
theorem Qo.under {W W' : World} {b : Nat} {cs : List Value} {m : az} (h : Qo W b cs m) (hx : Below W.heap.size W W') : Qo W' b cs m := ⟨h.b.under hx, aq.mono (aq.below h.r hx) hx.size⟩
structure Dk (W : World) (b : Nat) (cs : List Value) (M : aK) : Prop where
 b : Bw W b 30 cs
 r : ct W.heap.size W cs M
theorem Dk.under {W W' : World} {b : Nat} {cs : List Value} {M : aK} (h : Dk W b cs M) (hx : Below W.heap.size W W') : Dk W' b cs M := ⟨h.b.under hx, aR.mono (aR.below h.r hx) hx.size⟩
theorem Dk.made {W : World} {b : Nat} {x0 x1 x2 : Value} {M : aK} (hb : Bw W b 30 [.int .i64 0, .int .i64 0, .slice none 0 0]) (hr : ct W.heap.size W [x0, x1, x2] M) : Dk (((W.setCell ⟨b, 0, none⟩ x0).setCell ⟨b, 1, none⟩ x1).setCell ⟨b, 2, none⟩ x2) b [x0, x1, x2] M := by
 have hT : aw [b] W (((W.setCell ⟨b, 0, none⟩ x0).setCell ⟨b, 1, none⟩ x1).setCell ⟨b, 2, none⟩ x2) := (((aw.refl _ _).setCell (by simp) _).setCell (by simp) _).setCell (by simp) _; exact ⟨((hb.put 0 _).put 1 _).put 2 _, aR.mono (yq hb hT hr) hT.size⟩
theorem kP {W : World} {cs : List Value} {M : aK} {B : Nat} (h : ct B W cs M) : ∃ x y a n c, cs = [.int .i64 x, .int .i64 y, .slice a n c] := by
 obtain ⟨a, c, h, _⟩ := h; exact ⟨_, _, a, _, c, h⟩
theorem tY (a : Option Addr) (n cap : Nat) (zs : List Int) (w : World) (hx : zs.length = n) (eI : nc zs) (hr : Rd .u8 w.heap.size w a zs) (hT : vU w) :
  Calls Tryz.prog 3 #[.slice a n cap] w fun e w' => e = .returned (.bool true) /\ Below w.heap.size w w' := by
 have HX := Hm hx; have ud := Hm eI; have X0 : Hid (∀ W : World, Below w.heap.size w W -> Rd .u8 W.heap.size W a zs) := fun W h => (hr.below h).mono h.size
 have MZ : Hid (∀ W : World, Below w.heap.size w W -> vU W) := fun W h => hT.below h
 clear hx eI hr hT; go_enter Tryz.func3, Tryz.ntmps3; go_wp2_with fail; refine (Lb a n cap w).mono ?_; rintro e w0 ⟨rfl, hw0⟩; have Qk := hw0.symm; clear hw0; subst Qk
 by_cases Qp : 1048576 < (n : Int)
 ·rw [decide_eq_true Qp]
  go_wp2_with fail; go_ret; exact ⟨rfl, rB⟩
 rw [decide_eq_false Qp]; have KH : n <= 1048576 := by omega
 clear Qp; go_wp2_with fail; refine (xY a n cap zs w HX.out KH (X0.out _ rB)).mono ?_; rintro e w1 ⟨cs1, m, ms1, M, rfl, Ko, hsm, Ns, N8, hB⟩; obtain ⟨d0, X1, X2, d1, X3, X4, d2, X5, X6, dz, rfl⟩ := o8 Ko; obtain ⟨mx, my, ma, mn, mc, rfl⟩ := kP Ns; obtain ⟨w2, hw2⟩ : ∃ W2, W2 = (w1.alloc (.cells #[.slice d0 X1 X2, .slice d1 X3 X4, .slice d2 X5 X6, .int .i64 dz] 27)).alloc (.cells #[.int .i64 mx, .int .i64 my, .slice ma mn mc] 30) := ⟨_, rfl⟩
 have hx2 : Below w1.heap.size w1 w2 := by rw [hw2]; exact (rB.alloc rN _).alloc (by simp) _
 have HD : Hid (∀ W, Below w2.heap.size w2 W -> Qo W w1.heap.size [.slice d0 X1 X2, .slice d1 X3 X4, .slice d2 X5 X6, .int .i64 dz] m) := fun W h => Qo.under (W := w2) ⟨by rw [hw2]; exact (Bw.new _ _ _).alloc _, aq.mono (aq.below Ko hx2) hx2.size⟩ h
 have HM : Hid (∀ W, Below w2.heap.size w2 W -> Dk W (w1.heap.size + 1) [.int .i64 mx, .int .i64 my, .slice ma mn mc] M) := fun W h => Dk.under (W := w2) ⟨by rw [hw2]; exact Bw.dX _ _ _ (by simp), aR.mono (aR.below Ns hx2) hx2.size⟩ h
 have sJ := Hm (af hB hx2); go_wp2_with (rw [<- hw2])
 try rw [<- hw2]
 clear Ko Ns hB hw2 hx2; generalize w1.heap.size = gd at *; obtain ⟨gm, hgm⟩ : ∃ x, x = gd + 1 := ⟨_, rfl⟩
 rw [<- hgm] at HM ⊢; clear hgm; have HP := Hm (fun W h => (MZ.out W h).pw)
 -- its text
 have m0 := (HM.out _ rB).b.cell 0 _ rfl; have m1 := (HM.out _ rB).b.cell 1 _ rfl; have m2 := (HM.out _ rB).b.cell 2 _ rfl; refine Calls.mono (ig _ M w2 (HM.out _ rB).r N8 (HP.out _ sJ.out)) ?_; rintro e w3 ⟨rfl, hb3⟩; obtain ⟨tx, TT⟩ : ∃ s, s = cH M := ⟨_, rfl⟩
 have TU := Hm TT; rw [<- TT]; clear TT m0 m1 m2; have m0 := (HM.out _ hb3).b.cell 0 _ rfl; have m1 := (HM.out _ hb3).b.cell 1 _ rfl; have m2 := (HM.out _ hb3).b.cell 2 _ rfl; have p0 := (HD.out _ hb3).b.cell 0 _ rfl; have p1 := (HD.out _ hb3).b.cell 1 _ rfl; have p2 := (HD.out _ hb3).b.cell 2 _ rfl; have p3 := (HD.out _ hb3).b.cell 3 _ rfl; have yS := Hm (zi _ m _ M w3 (HD.out _ hb3).r (HM.out _ hb3).r hsm N8 (HP.out _ (af sJ.out hb3))); obtain ⟨C, hC⟩ : ∃ z, z = ky m M := ⟨_, rfl⟩
 have TV := Hm hC; go_wp2_with fail; refine Calls.mono yS.out ?_; clear yS; rintro e w4 ⟨Hj, F4, rfl, jc, _, _, hb4⟩; rw [<- hC]; clear hC m0 m1 m2 p0 p1 p2 p3; have hk4 := aj.read jc; obtain ⟨f0, Va, Vb, f1, Vc, Vd, f2, Ve, Vf, fz, rfl⟩ := o8 hk4; clear jc; have TW := af hb3 hb4; obtain ⟨w5, pF⟩ : ∃ W2, W2 = w4.alloc (.cells #[.slice f0 Va Vb, .slice f1 Vc Vd, .slice f2 Ve Vf, .int .i64 fz] 27) := ⟨_, rfl⟩
 have pE : Below w4.heap.size w4 w5 := by rw [pF]; exact rB.alloc rN _
 have HN : Hid (∀ W, Below w5.heap.size w5 W -> Qo W w4.heap.size [.slice f0 Va Vb, .slice f1 Vc Vd, .slice f2 Ve Vf, .int .i64 fz] (fU m M)) := fun W h => Qo.under (W := w5) ⟨by rw [pF]; exact Bw.new _ _ _, aq.mono (aq.below hk4 pE) pE.size⟩ h
 have yC := af TW pE; have m0 := (HM.out _ yC).b.cell 0 _ rfl; have m1 := (HM.out _ yC).b.cell 1 _ rfl; have m2 := (HM.out _ yC).b.cell 2 _ rfl; have p0 := (HD.out _ yC).b.cell 0 _ rfl; have p1 := (HD.out _ yC).b.cell 1 _ rfl; have p2 := (HD.out _ yC).b.cell 2 _ rfl; have p3 := (HD.out _ yC).b.cell 3 _ rfl; have rv := Hm (zk _ m _ M w5 (HD.out _ yC).r (HM.out _ yC).r hsm N8); rw [pF] at m0 m1 m2 p0 p1 p2 p3; have Ti := Hm pF; clear pF; go_wp2_with fail; rw [<- Ti.out]; refine Calls.mono rv.out ?_; clear rv m0 m1 m2 p0 p1 p2 p3; rintro e w6 ⟨zH, rfl, N7, rZ⟩; rw [<- TV.out]; obtain ⟨q0, qn0, qc0, q1, qn1, qc1, q2, qn2, qc2, qz, rfl⟩ := o8 N7; clear N7 Ti; generalize w4.heap.size = gn at *; have X7 := Hm rZ; have TX := Hm (af yC rZ); obtain ⟨w7, Dr⟩ : ∃ W2, W2 = w6.alloc (.cells #[.slice q0 qn0 qc0, .slice q1 qn1 qc1, .slice q2 qn2 qc2, .int .i64 qz] 27) := ⟨_, rfl⟩
 have j5 : Below w6.heap.size w6 w7 := by rw [Dr]; exact rB.alloc rN _
 have TY := Hm (af rZ j5); have IP := Hm (af TX.out j5); have m0 := (HM.out _ IP.out).b.cell 0 _ rfl; have m1 := (HM.out _ IP.out).b.cell 1 _ rfl; have m2 := (HM.out _ IP.out).b.cell 2 _ rfl; have QP := Hm (nC _ M w7 (HM.out _ IP.out).r N8); rw [Dr] at m0 m1 m2; have GY := Hm Dr; clear Dr j5 rZ yC pE TW hb4 hb3 hk4; go_wp2_with fail; rw [<- GY.out]; refine Calls.mono QP.out ?_; clear QP m0 m1 m2 GY; rintro e w8 ⟨rfl, nP⟩; have Dl := Hm (af IP.out nP); have TZ := Hm (af TY.out nP); clear nP TX IP X7 TY; cases mW : bO M with
 | false =>
  have JE := Hm mW; clear mW; have hc1 := TV.out.trans (II JE.out).1; have TT := TU.out.trans (nD JE.out); subst hc1; subst TT; have m0 := (HM.out _ Dl.out).b.cell 0 _ rfl; have m1 := (HM.out _ Dl.out).b.cell 1 _ rfl; have m2 := (HM.out _ Dl.out).b.cell 2 _ rfl; have HC4 := Hm (nE _ M w8 (HM.out _ Dl.out).r N8); rw [JE.out] at HC4; go_wp2_with fail; refine Calls.mono HC4.out ?_; rintro e w9 ⟨rfl, vP⟩; go_wp2_with fail; go_ret; exact ⟨rfl, af sJ.out (af Dl.out vP)⟩
 | true =>
  have JE := Hm mW; clear mW; have hp : io tx = (M, true) := by rw [TU.out]; exact uN JE.out
  have hts : tx.size <= 1048576 := by
   have := ye JE.out; rw [TU.out]; unfold jB at this
   rwa [cf] at this
  have T1 := qr tx w8 hts (MZ.out _ (af sJ.out Dl.out)); rw [hp] at T1; replace T1 := Hm T1; clear hp hts; go_wp2_with fail; refine Calls.mono T1.out ?_; clear T1; rintro e w9 ⟨cs9, F9, rfl, Kw, _, _, vP⟩; have X8 : ct w9.heap.size w9 cs9 M := fI.read Kw; obtain ⟨x0, x1, x2, x3, x4, rfl⟩ := kP X8; clear Kw; obtain ⟨wa, gY⟩ : ∃ W2, W2 = w9.alloc (.cells #[.int .i64 x0, .int .i64 x1, .slice x2 x3 x4] 30) := ⟨_, rfl⟩
  have T2 : Below w9.heap.size w9 wa := by rw [gY]; exact rB.alloc rN _
  have T3 : Dk wa w9.heap.size [.int .i64 x0, .int .i64 x1, .slice x2 x3 x4] M := ⟨by rw [gY]; exact Bw.new _ _ _, aR.mono (aR.below X8 T2) T2.size⟩
  have Qq := Hm (af Dl.out (af vP T2)); have T4 := Hm (af TZ.out (af vP T2)); have m0 := T3.b.cell 0 _ rfl; have m1 := T3.b.cell 1 _ rfl; have m2 := T3.b.cell 2 _ rfl; have T5 := ig _ M wa T3.r N8 (HP.out _ (af sJ.out Qq.out)); rw [<- TU.out] at T5; replace T5 := Hm T5; rw [gY] at m0 m1 m2; have HWA := Hm gY; clear gY T2 T3 X8 vP Dl TZ; go_wp2_with fail; rw [<- HWA.out]; refine Calls.mono T5.out ?_; clear T5 m0 m1 m2 HWA; rintro e wb ⟨rfl, uI⟩; have tZ := Hm (af Qq.out uI); have vX := Hm (af T4.out uI); clear uI Qq T4
  by_cases hc0 : C = 0
  ·subst hc0
   have Lc := Hm (fun (k : Int) (hk : 0 <= k) => K3 (m := m) JE.out TV.out.symm hk); clear TV
   go_upto_region 16 with fail
   go_cut [12, 13] (fun yv bv wc => ∃ (gy : Nat) (x0 x1 : Int) (x2 : Option Addr) (x3 x4 : Nat), yv = .pointer (some ⟨gy, 0, none⟩) /\ bv = .bool true /\ Hid (Dk wc gy [.int .i64 x0, .int .i64 x1, .slice x2 x3 x4] M) /\ Hid (Below wb.heap.size wb wc))
   case first =>
    have n0 : ∀ W, Below wb.heap.size wb W -> W.cell? ⟨gn, 0, none⟩ = some (.slice f0 Va Vb) := fun W h => (HN.out W (af vX.out h)).b.cell 0 _ rfl
    have n1 : ∀ W, Below wb.heap.size wb W -> W.cell? ⟨gn, 1, none⟩ = some (.slice f1 Vc Vd) := fun W h => (HN.out W (af vX.out h)).b.cell 1 _ rfl
    have n2 : ∀ W, Below wb.heap.size wb W -> W.cell? ⟨gn, 2, none⟩ = some (.slice f2 Ve Vf) := fun W h => (HN.out W (af vX.out h)).b.cell 2 _ rfl
    have n3 : ∀ W, Below wb.heap.size wb W -> W.cell? ⟨gn, 3, none⟩ = some (.int .i64 fz) := fun W h => (HN.out W (af vX.out h)).b.cell 3 _ rfl
    refine kz wb (fun hZ => ?_); obtain ⟨wS, jU⟩ : ∃ wS, wS = wb.drew := ⟨_, rfl⟩
    rw [<- jU] at hZ ⊢; clear jU; refine uq 0 ?_; refine uq 1 ?_; refine lM [2, 9] ?_; refine (AllReadyH.cons (aM rfl) (fun K hK => ?_) (AllReadyH.cons (aM rfl) (fun K hK => ?_) AllReadyH.nil))
    ·go_simp
     refine Calls.mono (Gs a n cap 2 zs wS HX.out KH (by omega) ud.out (X0.out _ (af sJ.out (af tZ.out hZ)))) ?_; rintro e ku ⟨x9, ⟨rfl, yI⟩, T6⟩; have dU : Below wS.heap.size wS ku := by rw [T6]; exact rB
     clear T6; go_wp2_with fail; refine aL hK (af hZ dU) (fun hZ => ?_); clear hK K; refine uq 3 ?_; refine lM [4, 9] ?_; refine (AllReadyH.cons (aM rfl) (fun K hK => ?_) (AllReadyH.cons (aM rfl) (fun K hK => ?_) AllReadyH.nil))
     ·go_simp
      obtain ⟨kq, GK⟩ : ∃ z : Int, z = Int.tmod (x9 : Int) 9 := ⟨_, rfl⟩
      have uV : 0 <= kq /\ kq < 9 := by rw [GK, Int.tmod_eq_emod_of_nonneg (by omega)]; omega
      have Mv : (Lit.int .i64 kq).wf = true := WalkArith.wf_i64 (by omega); rw [<- GK]; clear GK; refine Calls.mono (sB _ (fU m M) kq _ (HN.out _ (af vX.out hZ)).r Mv (Lc.out kq uV.1).2.1) ?_; rintro e bK ⟨IQ, F4', rfl, Dn, _, _, bL⟩; have C7 := Hm (aj.read Dn); clear Dn; go_wp2_with fail; refine aL hK (af hZ bL) (fun hZ => ?_); clear hK K; refine lM [5, 9] ?_; refine (AllReadyH.cons (aM rfl) (fun K hK => ?_) (AllReadyH.cons (aM rfl) (fun K hK => ?_) AllReadyH.nil))
      ·go_simp
       have hC := kU IQ (ei (fU m M) kq) bK (aq.mono (aq.below C7.out (show Below bK.heap.size bK bK from rB)) ((show Below bK.heap.size bK bK from rB)).size) (Lc.out kq uV.1).2.2 (MZ.out _ (af sJ.out (af tZ.out hZ))); rw [(Lc.out kq uV.1).1] at hC; refine Calls.mono hC ?_; clear hC; rintro e gw ⟨Fe, X9, rfl, yD, _, _, sr⟩; have zj : ct gw.heap.size gw Fe M := fI.read yD; obtain ⟨y0, y1, y2, y3, y4, rfl⟩ := kP zj; have Qr := Hm zj; clear yD zj; go_wp2_with fail; refine aL hK (af hZ sr) (fun hZ => ?_); clear hK K; refine uq 6 ?_; refine uq 7 ?_; refine uq 8 ?_; refine bf 9 rfl fun K hK => ?_
       go_simp; obtain ⟨cB, jM⟩ : ∃ x, x = gw.alloc (.cells (List.toArray [.int .i64 0, .int .i64 0, .slice none 0 0]) 30) := ⟨_, rfl⟩
       have o6 : Below gw.heap.size gw cB := by rw [jM]; exact rB.alloc rN _
       have vP : Bw cB gw.heap.size 30 [.int .i64 0, .int .i64 0, .slice none 0 0] := (by rw [jM]; exact Bw.new _ _ _)
       have DB : wb.heap.size <= gw.heap.size := hZ.size; obtain ⟨g9, Qs⟩ : ∃ g, Hid (g = gw.heap.size) := ⟨_, Hm rfl⟩
       rw [<- Qs.out] at vP DB ⊢; rw [<- jM]; have Qt := Hm vP; have ue := Hm DB; clear jM vP DB; refine aL hK (af hZ o6) (fun hZ => ?_); clear hK K; refine bf 10 rfl fun K hK => ?_
       go_simp; have cg : Bw cB g9 30 [.int .i64 0, .int .i64 0, .slice none 0 0] := Qt.out.under (show Below cB.heap.size cB cB from rB); have p0 := cg.cell 0 _ rfl; have p1 := cg.cell 1 _ rfl; have p2 := cg.cell 2 _ rfl; have q0 := cg.free 0; have q1 := cg.free 1; have q2 := cg.free 2; have le := cg.lt; go_simp; obtain ⟨kL, iG⟩ : ∃ x, x = ((cB.setCell ⟨g9, 0, none⟩ (.int .i64 y0)).setCell ⟨g9, 1, none⟩ (.int .i64 y1)).setCell ⟨g9, 2, none⟩ (.slice y2 y3 y4) := ⟨_, rfl⟩
       have HE : Hid (Dk kL g9 [.int .i64 y0, .int .i64 y1, .slice y2 y3 y4] M) := by unfold Hid; rw [iG]; exact Dk.made cg (aR.mono (aR.below Qr.out (show Below gw.heap.size gw cB from af rB o6)) ((show Below gw.heap.size gw cB from af rB o6)).size)
       have hbl : Below wb.heap.size wb kL := by rw [iG]; exact ((hZ.setCell ue.out _).setCell ue.out _).setCell ue.out _
       have qF := Hm hbl; rw [<- iG]; clear iG p0 p1 p2 q0 q1 q2 le cg; refine aL hK (hbl) (fun hZ => ?_); clear hK K; refine uq 11 ?_; refine dC ?_; go_wp2_with fail
       go_meet
       case rel => exact ⟨g9, y0, y1, y2, y3, y4, rfl, rfl, HE, qF⟩
      ·go_simp
       obtain ⟨cB, jM⟩ : ∃ x, x = bK.alloc (.cells (List.toArray [.int .i64 0, .int .i64 0, .slice none 0 0]) 30) := ⟨_, rfl⟩
       have o6 : Below bK.heap.size bK cB := by rw [jM]; exact rB.alloc rN _
       have vP : Bw cB bK.heap.size 30 [.int .i64 0, .int .i64 0, .slice none 0 0] := (by rw [jM]; exact Bw.new _ _ _)
       have DB : wb.heap.size <= bK.heap.size := hZ.size; obtain ⟨g9, Qs⟩ : ∃ g, Hid (g = bK.heap.size) := ⟨_, Hm rfl⟩
       rw [<- Qs.out] at vP DB ⊢; rw [<- jM]; have Qt := Hm vP; have ue := Hm DB; clear jM vP DB; refine aL hK (af hZ o6) (fun hZ => ?_); clear hK K; refine bf 5 rfl fun K hK => ?_
       go_simp; have hC := kU IQ (ei (fU m M) kq) cB (aq.mono (aq.below C7.out (show Below bK.heap.size bK cB from af rB o6)) ((show Below bK.heap.size bK cB from af rB o6)).size) (Lc.out kq uV.1).2.2 (MZ.out _ (af sJ.out (af tZ.out hZ))); rw [(Lc.out kq uV.1).1] at hC; refine Calls.mono hC ?_; clear hC; rintro e gw ⟨Fe, X9, rfl, yD, _, _, sr⟩; have zj : ct gw.heap.size gw Fe M := fI.read yD; obtain ⟨y0, y1, y2, y3, y4, rfl⟩ := kP zj; have Qr := Hm zj; clear yD zj; go_wp2_with fail; refine aL hK (af hZ sr) (fun hZ => ?_); clear hK K; refine uq 6 ?_; refine uq 7 ?_; refine uq 8 ?_; refine bf 10 rfl fun K hK => ?_
       go_simp; have cg : Bw gw g9 30 [.int .i64 0, .int .i64 0, .slice none 0 0] := Qt.out.under (show Below cB.heap.size cB gw from af rB sr); have p0 := cg.cell 0 _ rfl; have p1 := cg.cell 1 _ rfl; have p2 := cg.cell 2 _ rfl; have q0 := cg.free 0; have q1 := cg.free 1; have q2 := cg.free 2; have le := cg.lt; go_simp; obtain ⟨kL, iG⟩ : ∃ x, x = ((gw.setCell ⟨g9, 0, none⟩ (.int .i64 y0)).setCell ⟨g9, 1, none⟩ (.int .i64 y1)).setCell ⟨g9, 2, none⟩ (.slice y2 y3 y4) := ⟨_, rfl⟩
       have HE : Hid (Dk kL g9 [.int .i64 y0, .int .i64 y1, .slice y2 y3 y4] M) := by unfold Hid; rw [iG]; exact Dk.made cg (aR.mono (aR.below Qr.out (show Below gw.heap.size gw gw from rB)) ((show Below gw.heap.size gw gw from rB)).size)
       have hbl : Below wb.heap.size wb kL := by rw [iG]; exact ((hZ.setCell ue.out _).setCell ue.out _).setCell ue.out _
       have qF := Hm hbl; rw [<- iG]; clear iG p0 p1 p2 q0 q1 q2 le cg; refine aL hK (hbl) (fun hZ => ?_); clear hK K; refine uq 11 ?_; refine dC ?_; go_wp2_with fail
       go_meet
       case rel => exact ⟨g9, y0, y1, y2, y3, y4, rfl, rfl, HE, qF⟩
     ·go_simp
      obtain ⟨cB, jM⟩ : ∃ x, x = ku.alloc (.cells (List.toArray [.int .i64 0, .int .i64 0, .slice none 0 0]) 30) := ⟨_, rfl⟩
      have o6 : Below ku.heap.size ku cB := by rw [jM]; exact rB.alloc rN _
      have vP : Bw cB ku.heap.size 30 [.int .i64 0, .int .i64 0, .slice none 0 0] := (by rw [jM]; exact Bw.new _ _ _)
      have DB : wb.heap.size <= ku.heap.size := hZ.size; obtain ⟨g9, Qs⟩ : ∃ g, Hid (g = ku.heap.size) := ⟨_, Hm rfl⟩
      rw [<- Qs.out] at vP DB ⊢; rw [<- jM]; have Qt := Hm vP; have ue := Hm DB; clear jM vP DB; refine aL hK (af hZ o6) (fun hZ => ?_); clear hK K; refine bf 4 rfl fun K hK => ?_
      go_simp; obtain ⟨kq, GK⟩ : ∃ z : Int, z = Int.tmod (x9 : Int) 9 := ⟨_, rfl⟩
      have uV : 0 <= kq /\ kq < 9 := by rw [GK, Int.tmod_eq_emod_of_nonneg (by omega)]; omega
      have Mv : (Lit.int .i64 kq).wf = true := WalkArith.wf_i64 (by omega); rw [<- GK]; clear GK; refine Calls.mono (sB _ (fU m M) kq _ (HN.out _ (af vX.out hZ)).r Mv (Lc.out kq uV.1).2.1) ?_; rintro e bK ⟨IQ, F4', rfl, Dn, _, _, bL⟩; have C7 := Hm (aj.read Dn); clear Dn; go_wp2_with fail; refine aL hK (af hZ bL) (fun hZ => ?_); clear hK K; refine bf 5 rfl fun K hK => ?_
      go_simp; have hC := kU IQ (ei (fU m M) kq) bK (aq.mono (aq.below C7.out (show Below bK.heap.size bK bK from rB)) ((show Below bK.heap.size bK bK from rB)).size) (Lc.out kq uV.1).2.2 (MZ.out _ (af sJ.out (af tZ.out hZ))); rw [(Lc.out kq uV.1).1] at hC; refine Calls.mono hC ?_; clear hC; rintro e gw ⟨Fe, X9, rfl, yD, _, _, sr⟩; have zj : ct gw.heap.size gw Fe M := fI.read yD; obtain ⟨y0, y1, y2, y3, y4, rfl⟩ := kP zj; have Qr := Hm zj; clear yD zj; go_wp2_with fail; refine aL hK (af hZ sr) (fun hZ => ?_); clear hK K; refine uq 6 ?_; refine uq 7 ?_; refine uq 8 ?_; refine bf 10 rfl fun K hK => ?_
      go_simp; have cg : Bw gw g9 30 [.int .i64 0, .int .i64 0, .slice none 0 0] := Qt.out.under (show Below cB.heap.size cB gw from af (af rB bL) sr); have p0 := cg.cell 0 _ rfl; have p1 := cg.cell 1 _ rfl; have p2 := cg.cell 2 _ rfl; have q0 := cg.free 0; have q1 := cg.free 1; have q2 := cg.free 2; have le := cg.lt; go_simp; obtain ⟨kL, iG⟩ : ∃ x, x = ((gw.setCell ⟨g9, 0, none⟩ (.int .i64 y0)).setCell ⟨g9, 1, none⟩ (.int .i64 y1)).setCell ⟨g9, 2, none⟩ (.slice y2 y3 y4) := ⟨_, rfl⟩
      have HE : Hid (Dk kL g9 [.int .i64 y0, .int .i64 y1, .slice y2 y3 y4] M) := by unfold Hid; rw [iG]; exact Dk.made cg (aR.mono (aR.below Qr.out (show Below gw.heap.size gw gw from rB)) ((show Below gw.heap.size gw gw from rB)).size)
      have hbl : Below wb.heap.size wb kL := by rw [iG]; exact ((hZ.setCell ue.out _).setCell ue.out _).setCell ue.out _
      have qF := Hm hbl; rw [<- iG]; clear iG p0 p1 p2 q0 q1 q2 le cg; refine aL hK (hbl) (fun hZ => ?_); clear hK K; refine uq 11 ?_; refine dC ?_; go_wp2_with fail
      go_meet
      case rel => exact ⟨g9, y0, y1, y2, y3, y4, rfl, rfl, HE, qF⟩
    ·go_simp
     obtain ⟨cB, jM⟩ : ∃ x, x = wS.alloc (.cells (List.toArray [.int .i64 0, .int .i64 0, .slice none 0 0]) 30) := ⟨_, rfl⟩
     have o6 : Below wS.heap.size wS cB := by rw [jM]; exact rB.alloc rN _
     have vP : Bw cB wS.heap.size 30 [.int .i64 0, .int .i64 0, .slice none 0 0] := (by rw [jM]; exact Bw.new _ _ _)
     have DB : wb.heap.size <= wS.heap.size := hZ.size; obtain ⟨g9, Qs⟩ : ∃ g, Hid (g = wS.heap.size) := ⟨_, Hm rfl⟩
     rw [<- Qs.out] at vP DB ⊢; rw [<- jM]; have Qt := Hm vP; have ue := Hm DB; clear jM vP DB; refine aL hK (af hZ o6) (fun hZ => ?_); clear hK K; refine bf 2 rfl fun K hK => ?_
     go_simp; refine Calls.mono (Gs a n cap 2 zs cB HX.out KH (by omega) ud.out (X0.out _ (af sJ.out (af tZ.out hZ)))) ?_; rintro e ku ⟨x9, ⟨rfl, yI⟩, T6⟩; have dU : Below cB.heap.size cB ku := by rw [T6]; exact rB
     clear T6; go_wp2_with fail; refine aL hK (af hZ dU) (fun hZ => ?_); clear hK K; refine uq 3 ?_; refine bf 4 rfl fun K hK => ?_
     go_simp; obtain ⟨kq, GK⟩ : ∃ z : Int, z = Int.tmod (x9 : Int) 9 := ⟨_, rfl⟩
     have uV : 0 <= kq /\ kq < 9 := by rw [GK, Int.tmod_eq_emod_of_nonneg (by omega)]; omega
     have Mv : (Lit.int .i64 kq).wf = true := WalkArith.wf_i64 (by omega); rw [<- GK]; clear GK; refine Calls.mono (sB _ (fU m M) kq _ (HN.out _ (af vX.out hZ)).r Mv (Lc.out kq uV.1).2.1) ?_; rintro e bK ⟨IQ, F4', rfl, Dn, _, _, bL⟩; have C7 := Hm (aj.read Dn); clear Dn; go_wp2_with fail; refine aL hK (af hZ bL) (fun hZ => ?_); clear hK K; refine bf 5 rfl fun K hK => ?_
     go_simp; have hC := kU IQ (ei (fU m M) kq) bK (aq.mono (aq.below C7.out (show Below bK.heap.size bK bK from rB)) ((show Below bK.heap.size bK bK from rB)).size) (Lc.out kq uV.1).2.2 (MZ.out _ (af sJ.out (af tZ.out hZ))); rw [(Lc.out kq uV.1).1] at hC; refine Calls.mono hC ?_; clear hC; rintro e gw ⟨Fe, X9, rfl, yD, _, _, sr⟩; have zj : ct gw.heap.size gw Fe M := fI.read yD; obtain ⟨y0, y1, y2, y3, y4, rfl⟩ := kP zj; have Qr := Hm zj; clear yD zj; go_wp2_with fail; refine aL hK (af hZ sr) (fun hZ => ?_); clear hK K; refine uq 6 ?_; refine uq 7 ?_; refine uq 8 ?_; refine bf 10 rfl fun K hK => ?_
     go_simp; have cg : Bw gw g9 30 [.int .i64 0, .int .i64 0, .slice none 0 0] := Qt.out.under (show Below cB.heap.size cB gw from af (af (af rB dU) bL) sr); have p0 := cg.cell 0 _ rfl; have p1 := cg.cell 1 _ rfl; have p2 := cg.cell 2 _ rfl; have q0 := cg.free 0; have q1 := cg.free 1; have q2 := cg.free 2; have le := cg.lt; go_simp; obtain ⟨kL, iG⟩ : ∃ x, x = ((gw.setCell ⟨g9, 0, none⟩ (.int .i64 y0)).setCell ⟨g9, 1, none⟩ (.int .i64 y1)).setCell ⟨g9, 2, none⟩ (.slice y2 y3 y4) := ⟨_, rfl⟩
     have HE : Hid (Dk kL g9 [.int .i64 y0, .int .i64 y1, .slice y2 y3 y4] M) := by unfold Hid; rw [iG]; exact Dk.made cg (aR.mono (aR.below Qr.out (show Below gw.heap.size gw gw from rB)) ((show Below gw.heap.size gw gw from rB)).size)
     have hbl : Below wb.heap.size wb kL := by rw [iG]; exact ((hZ.setCell ue.out _).setCell ue.out _).setCell ue.out _
     have qF := Hm hbl; rw [<- iG]; clear iG p0 p1 p2 q0 q1 q2 le cg; refine aL hK (hbl) (fun hZ => ?_); clear hK K; refine uq 11 ?_; refine dC ?_; go_wp2_with fail
     go_meet
     case rel => exact ⟨g9, y0, y1, y2, y3, y4, rfl, rfl, HE, qF⟩
   case rest =>
    obtain ⟨gy, z0, z1, z2, z3, z4, rfl, rfl, HE, qF⟩ := hcut; generalize wc = wv at *; have m0 := HE.out.b.cell 0 _ rfl; have m1 := HE.out.b.cell 1 _ rfl; have m2 := HE.out.b.cell 2 _ rfl; have T7 := ig _ M wv HE.out.r N8 (HP.out _ (af sJ.out (af tZ.out qF.out))); rw [<- TU.out] at T7; replace T7 := Hm T7; go_wp2_with fail; refine Calls.mono T7.out ?_; clear T7 m0 m1 m2; rintro e wx ⟨rfl, cg⟩; have T8 := HE.out.under cg; have m0 := T8.b.cell 0 _ rfl; have m1 := T8.b.cell 1 _ rfl; have m2 := T8.b.cell 2 _ rfl; have Hs := nE _ M wx T8.r N8; rw [JE.out] at Hs; replace Hs := Hm Hs; have OA := Hm (af qF.out cg); clear T8 cg HE; go_wp2_with fail; refine Calls.mono Hs.out ?_; clear Hs m0 m1 m2; rintro e wy ⟨rfl, hby⟩; go_wp2_with fail; go_ret; exact ⟨rfl, af sJ.out (af tZ.out (af OA.out hby))⟩
  ·have hDM : fU m M = m := IJ JE.out (by rw [<- TV.out]; exact hc0)
   rw [hDM] at HN; clear hDM; have n0 : ∀ W, Below wb.heap.size wb W -> W.cell? ⟨gn, 0, none⟩ = some (.slice f0 Va Vb) := fun W h => (HN.out W (af vX.out h)).b.cell 0 _ rfl
   have n1 : ∀ W, Below wb.heap.size wb W -> W.cell? ⟨gn, 1, none⟩ = some (.slice f1 Vc Vd) := fun W h => (HN.out W (af vX.out h)).b.cell 1 _ rfl
   have n2 : ∀ W, Below wb.heap.size wb W -> W.cell? ⟨gn, 2, none⟩ = some (.slice f2 Ve Vf) := fun W h => (HN.out W (af vX.out h)).b.cell 2 _ rfl
   have n3 : ∀ W, Below wb.heap.size wb W -> W.cell? ⟨gn, 3, none⟩ = some (.int .i64 fz) := fun W h => (HN.out W (af vX.out h)).b.cell 3 _ rfl
   have e0 : ∀ W, Below wb.heap.size wb W -> W.cell? ⟨gd, 0, none⟩ = some (.slice d0 X1 X2) := fun W h => (HD.out W (af tZ.out h)).b.cell 0 _ rfl
   have e1 : ∀ W, Below wb.heap.size wb W -> W.cell? ⟨gd, 1, none⟩ = some (.slice d1 X3 X4) := fun W h => (HD.out W (af tZ.out h)).b.cell 1 _ rfl
   have e2 : ∀ W, Below wb.heap.size wb W -> W.cell? ⟨gd, 2, none⟩ = some (.slice d2 X5 X6) := fun W h => (HD.out W (af tZ.out h)).b.cell 2 _ rfl
   have e3 : ∀ W, Below wb.heap.size wb W -> W.cell? ⟨gd, 3, none⟩ = some (.int .i64 dz) := fun W h => (HD.out W (af tZ.out h)).b.cell 3 _ rfl
   go_wp2_with fail; refine kz wb (fun hZ => ?_); refine uq 0 ?_; refine uq 3 ?_; refine bf 1 rfl fun K hK => ?_
   go_simp; refine Calls.mono (yB _ m _ (HN.out _ (af vX.out hZ)).r hsm) ?_; rintro e wL1 ⟨vL, FL, rfl, T9, _, _, Ya⟩; obtain ⟨aL1, cL1, rfl⟩ := bk T9.1; clear T9; go_wp2_with fail; refine aL hK (af hZ Ya) (fun hZ => ?_); clear hK K; refine uq 2 ?_; refine bf 4 rfl fun K hK => ?_
   go_simp; refine Calls.mono (yB _ m _ (HD.out _ (af tZ.out hZ)).r hsm) ?_; rintro e wL2 ⟨vL, FL, rfl, T9, _, _, Yb⟩; obtain ⟨aL2, cL2, rfl⟩ := bk T9.1; clear T9; go_wp2_with fail; refine aL hK (af hZ Yb) (fun hZ => ?_); clear hK K; refine uq 5 ?_; refine uq 6 ?_; refine uq 7 ?_; refine dC ?_; go_wp2_with fail; go_ret; exact ⟨by simp, af sJ.out (af tZ.out hZ)⟩
theorem vY (cs0 : Value) (m0 : List Int) (w : World) (UO : Av w.heap.size w cs0 m0) (hT : vU w) :
  Calls Tryz.prog 3 #[cs0] w fun e w' => e = .returned (.bool true) /\ Below w.heap.size w w' := by
 obtain ⟨a, c, rfl, h⟩ := UO; exact tY a m0.length c m0 w rfl h.2.2.2 h.2.2.1 hT
end Go.Proofs.YtcamcgfbljhbhaaGreatDoor
