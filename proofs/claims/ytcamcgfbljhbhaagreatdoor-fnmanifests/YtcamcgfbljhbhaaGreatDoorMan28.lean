/-
  Part 29 of the texts that the proof leans on.
-/
import Derived.Test.YtcamcgfbljhbhaaGreatDoorMan0
import Derived.Test.YtcamcgfbljhbhaaGreatDoorMan27
import Derived.Test.YtcamcgfbljhbhaaGreatDoorMan4
import Derived.Test.YtcamcgfbljhbhaaGreatDoorMan14
import Derived.Test.YtcamcgfbljhbhaaGreatDoorMan22
import Derived.Test.YtcamcgfbljhbhaaGreatDoorMan17
import Derived.Test.YtcamcgfbljhbhaaGreatDoorMan10
import Derived.Test.YtcamcgfbljhbhaaGreatDoorMan26
import Derived.Test.YtcamcgfbljhbhaaGreatDoorMan1
import Derived.Test.YtcamcgfbljhbhaaGreatDoorMan6
import Derived.Test.YtcamcgfbljhbhaaGreatDoorRows
import Derived.ProofKit
set_option linter.unusedVariables false
set_option linter.unusedSimpArgs false
set_option maxRecDepth 10000
set_option maxHeartbeats 20000000

namespace Go.Proofs.YtcamcgfbljhbhaaGreatDoor
open Go.RowKit
theorem zk (cs : List Value) (m : az) (ms : List Value) (M : aK) (w : World) (hr : bg w.heap.size w cs m) (Qd : ct w.heap.size w ms M) (hw : aZ m <= 1048576) (di : fP M <= 1048576) :
  Calls Tryz.prog 8 #[.agg cs.toArray, .agg ms.toArray] w fun e w' => ∃ cs' : List Value, e = .returned (.tuple #[.agg cs'.toArray, .int .i64 (ky m M)]) /\ bg w'.heap.size w' cs' (fU m M) /\ Below w.heap.size w w' := by
 have hq := hr; obtain ⟨a0, c0, a1, c1, a2, c2, rfl, hI, gf, gT, kX, _⟩ := hq; have HW := Hm hw; have HR := Hm hr; have Cu := Qd; obtain ⟨t2, k2, rfl, XR, XS, XT, _⟩ := Cu; have I6 := Hm di; have Lu := Hm Qd; clear hr hI gf gT hw Qd XT di; obtain ⟨wq, bI⟩ : ∃ wq, wq = ((w.alloc (.cells #[.slice a0 m.aa.length c0, .slice a1 m.ae.length c1, .slice a2 m.ag.length c2, .int .i64 m.ah] 27)).alloc (.cells #[.int .i64 M.ah, .int .i64 M.ce, .slice t2 M.aD.length k2] 30)).alloc (.cells #[.slice none 0 0, .slice none 0 0, .slice none 0 0, .int .i64 0] 27) := ⟨_, rfl⟩
 have Ux : wq.heap.size = w.heap.size + 3 := by rw [bI]; simp
 have cJ : Below w.heap.size w wq := by rw [bI]; exact ((rB.alloc rN _).alloc (by simp) _).alloc (by simp; omega) _
 have dl : B2 wq w.heap.size (cj a0 c0 a1 c1 a2 c2 m) [.int .i64 M.ah, .int .i64 M.ce, .slice t2 M.aD.length k2] := by rw [bI]; exact ⟨((Bw.new _ _ _).alloc _).alloc _, (Bw.dX _ _ _ (by simp)).alloc _⟩
 have hbr : Bw wq (w.heap.size + 1 + 1) 27 oz := by rw [bI]; exact Bw.dX _ _ _ (by simp)
 go_enter Tryz.func8, Tryz.ntmps8; go_wp2_with fail; rw [<- bI]; clear bI; refine (nC _ M wq (aR.mono (aR.below Lu.out cJ) cJ.size) I6.out).mono ?_; rintro e w1 ⟨rfl, hx1⟩; have hb1 := af cJ hx1; have sG := dl.under hx1; have hr1 := hbr.under hx1; have hz1 := hx1.size
 by_cases hM : bO M = true
 rotate_left
 ·rw [Bool.eq_false_iff.2 hM]
  have dy := Hm (A8 (m := m) (Bool.eq_false_iff.2 hM)); have vG := (sG.1).lt; obtain ⟨x0, x1, x2, x3⟩ := sG.1.c4; go_wp2_with fail; refine (eC _ m w1 (aq.mono (aq.below HR.out (hb1)) (hb1).size) HW.out).mono ?_; rintro e w7 ⟨Qe, F7, rfl, yK, K7, yt, j5⟩; obtain ⟨q0, ji, q1, jk, q2, jl, E0, E1, E2, rfl, _, _, _, _, rfl⟩ := aC yK; have vW := (hr1).under j5; have Q9 := j5.size; have hzz := (hr1).lt; have ut : ∀ b, b ∈ E0 ++ E1 ++ E2 ++ [] -> w.heap.size + 3 <= b := fun b hb => by have := yt b hb; omega
  have IZ := Hm ut; have N5 := Hm K7; obtain ⟨u0, Nb, u1, Nc, u2, Nd, u3, Nf⟩ := vW.c8; have N6 := vW.lt; have hT := bE w7 (w.heap.size + 1 + 1) (.slice q0 m.aa.length ji) (.slice q1 m.ae.length jk) (.slice q2 m.ag.length jl) (.int .i64 m.ah); have BB : Hid (Below w.heap.size w ((((w7.setCell ⟨w.heap.size + 1 + 1, 0, none⟩ (.slice q0 m.aa.length ji)).setCell ⟨w.heap.size + 1 + 1, 1, none⟩ (.slice q1 m.ae.length jk)).setCell ⟨w.heap.size + 1 + 1, 2, none⟩ (.slice q2 m.ag.length jl)).setCell ⟨w.heap.size + 1 + 1, 3, none⟩ (.int .i64 m.ah))) := (af (hb1) j5).trans (hT.below (fun k hk => by simp at hk; omega) (af (hb1) j5).size)
  have BC : Hid (bg ((((w7.setCell ⟨w.heap.size + 1 + 1, 0, none⟩ (.slice q0 m.aa.length ji)).setCell ⟨w.heap.size + 1 + 1, 1, none⟩ (.slice q1 m.ae.length jk)).setCell ⟨w.heap.size + 1 + 1, 2, none⟩ (.slice q2 m.ag.length jl)).setCell ⟨w.heap.size + 1 + 1, 3, none⟩ (.int .i64 m.ah)).heap.size ((((w7.setCell ⟨w.heap.size + 1 + 1, 0, none⟩ (.slice q0 m.aa.length ji)).setCell ⟨w.heap.size + 1 + 1, 1, none⟩ (.slice q1 m.ae.length jk)).setCell ⟨w.heap.size + 1 + 1, 2, none⟩ (.slice q2 m.ag.length jl)).setCell ⟨w.heap.size + 1 + 1, 3, none⟩ (.int .i64 m.ah)) (cj q0 ji q1 jk q2 jl m) m) := by
   have hz : ((((w7.setCell ⟨w.heap.size + 1 + 1, 0, none⟩ (.slice q0 m.aa.length ji)).setCell ⟨w.heap.size + 1 + 1, 1, none⟩ (.slice q1 m.ae.length jk)).setCell ⟨w.heap.size + 1 + 1, 2, none⟩ (.slice q2 m.ag.length jl)).setCell ⟨w.heap.size + 1 + 1, 3, none⟩ (.int .i64 m.ah)).heap.size = w7.heap.size := by simp
   unfold Hid; rw [hz]; exact cA (Bw.kV vW) hT (aj.read yK)
  clear hT; go_wp2_with fail; refine bodyPost_ret (v := .tuple #[.agg #[.slice q0 m.aa.length ji, .slice q1 m.ae.length jk, .slice q2 m.ag.length jl, .int .i64 m.ah], .int .i64 1]) (by simp [results, Tryz.results8, go_sem, *]) rfl ?_; exact ⟨(cj q0 ji q1 jk q2 jl m), by rw [show ky m M = 1 from congrArg (fun r => r.2) dy.out], by rw [show fU m M = m from congrArg (fun r => r.1) dy.out]; exact BC.out, BB.out⟩
 rw [hM]; have HM := Hm hM; clear hM; have Gn : (jB M).length <= 1048576 := ye HM.out; have Qf : (cH M).size <= 1048576 := by have h := Gn; unfold jB at h; rw [cf] at h; exact h
 have vG := sG.1.lt; obtain ⟨x0, x1, x2, x3⟩ := sG.1.c4; go_wp2_with fail; refine (lU _ m w1 (aq.mono (aq.below HR.out hb1) hb1.size) HW.out).mono ?_; rintro e w2 ⟨rfl, hx2⟩; clear vG x0 x1 x2 x3; have hb2 := af hb1 hx2; have vg := sG.under hx2; have hr2 := hr1.under hx2; have hz2 := hx2.size
 by_cases hK : bc m = true
 rotate_left
 ·rw [Bool.eq_false_iff.2 hK]
  have dy : Hid (mM m M = (m, 1)) := by have h := CK (t := kN) (b := jB M) (s := kt) (Bool.eq_false_iff.2 hK); have h2 := qb (m := m) HM.out (by rw [h]; decide); rw [h] at h2; exact h2
  have vG := (vg.1).lt; obtain ⟨x0, x1, x2, x3⟩ := vg.1.c4; go_wp2_with fail; refine (eC _ m w2 (aq.mono (aq.below HR.out (hb2)) (hb2).size) HW.out).mono ?_; rintro e w7 ⟨Qe, F7, rfl, yK, K7, yt, j5⟩; obtain ⟨q0, ji, q1, jk, q2, jl, E0, E1, E2, rfl, _, _, _, _, rfl⟩ := aC yK; have vW := (hr2).under j5; have Q9 := j5.size; have hzz := (hr2).lt; have ut : ∀ b, b ∈ E0 ++ E1 ++ E2 ++ [] -> w.heap.size + 3 <= b := fun b hb => by have := yt b hb; omega
  have IZ := Hm ut; have N5 := Hm K7; obtain ⟨u0, Nb, u1, Nc, u2, Nd, u3, Nf⟩ := vW.c8; have N6 := vW.lt; have hT := bE w7 (w.heap.size + 1 + 1) (.slice q0 m.aa.length ji) (.slice q1 m.ae.length jk) (.slice q2 m.ag.length jl) (.int .i64 m.ah); have BB : Hid (Below w.heap.size w ((((w7.setCell ⟨w.heap.size + 1 + 1, 0, none⟩ (.slice q0 m.aa.length ji)).setCell ⟨w.heap.size + 1 + 1, 1, none⟩ (.slice q1 m.ae.length jk)).setCell ⟨w.heap.size + 1 + 1, 2, none⟩ (.slice q2 m.ag.length jl)).setCell ⟨w.heap.size + 1 + 1, 3, none⟩ (.int .i64 m.ah))) := (af (hb2) j5).trans (hT.below (fun k hk => by simp at hk; omega) (af (hb2) j5).size)
  have BC : Hid (bg ((((w7.setCell ⟨w.heap.size + 1 + 1, 0, none⟩ (.slice q0 m.aa.length ji)).setCell ⟨w.heap.size + 1 + 1, 1, none⟩ (.slice q1 m.ae.length jk)).setCell ⟨w.heap.size + 1 + 1, 2, none⟩ (.slice q2 m.ag.length jl)).setCell ⟨w.heap.size + 1 + 1, 3, none⟩ (.int .i64 m.ah)).heap.size ((((w7.setCell ⟨w.heap.size + 1 + 1, 0, none⟩ (.slice q0 m.aa.length ji)).setCell ⟨w.heap.size + 1 + 1, 1, none⟩ (.slice q1 m.ae.length jk)).setCell ⟨w.heap.size + 1 + 1, 2, none⟩ (.slice q2 m.ag.length jl)).setCell ⟨w.heap.size + 1 + 1, 3, none⟩ (.int .i64 m.ah)) (cj q0 ji q1 jk q2 jl m) m) := by
   have hz : ((((w7.setCell ⟨w.heap.size + 1 + 1, 0, none⟩ (.slice q0 m.aa.length ji)).setCell ⟨w.heap.size + 1 + 1, 1, none⟩ (.slice q1 m.ae.length jk)).setCell ⟨w.heap.size + 1 + 1, 2, none⟩ (.slice q2 m.ag.length jl)).setCell ⟨w.heap.size + 1 + 1, 3, none⟩ (.int .i64 m.ah)).heap.size = w7.heap.size := by simp
   unfold Hid; rw [hz]; exact cA (Bw.kV vW) hT (aj.read yK)
  clear hT; go_wp2_with fail; refine bodyPost_ret (v := .tuple #[.agg #[.slice q0 m.aa.length ji, .slice q1 m.ae.length jk, .slice q2 m.ag.length jl, .int .i64 m.ah], .int .i64 1]) (by simp [results, Tryz.results8, go_sem, *]) rfl ?_; exact ⟨(cj q0 ji q1 jk q2 jl m), by rw [show ky m M = 1 from congrArg (fun r => r.2) dy.out], by rw [show fU m M = m from congrArg (fun r => r.1) dy.out]; exact BC.out, BB.out⟩
 rw [hK]; clear hK; have TI := Hm (EG m kN (jB M) kt); have IK := Hm (qb (m := m) HM.out); have Gp := Hm (qM (m := m) HM.out); obtain ⟨R5, Ng⟩ : ∃ R5, R5 = (nO m kN (jB M) kt) := ⟨_, rfl⟩
 have y7 := Hm Ng; have XU : aZ R5.1 <= 1048576 := by rw [Ng]; exact EF HW.out
 rw [<- Ng] at TI; clear Ng; obtain ⟨d5, c5⟩ := R5; have XV := vg.1.lt; have XW := vg.2.lt; have p0 : ∀ W, B2 W w.heap.size (cj a0 c0 a1 c1 a2 c2 m) [.int .i64 M.ah, .int .i64 M.ce, .slice t2 M.aD.length k2] -> W.cell? ⟨w.heap.size, 0, none⟩ = some (.slice a0 m.aa.length c0) := fun W h => h.1.cell 0 _ rfl
 have p1 : ∀ W, B2 W w.heap.size (cj a0 c0 a1 c1 a2 c2 m) [.int .i64 M.ah, .int .i64 M.ce, .slice t2 M.aD.length k2] -> W.cell? ⟨w.heap.size, 1, none⟩ = some (.slice a1 m.ae.length c1) := fun W h => h.1.cell 1 _ rfl
 have p2 : ∀ W, B2 W w.heap.size (cj a0 c0 a1 c1 a2 c2 m) [.int .i64 M.ah, .int .i64 M.ce, .slice t2 M.aD.length k2] -> W.cell? ⟨w.heap.size, 2, none⟩ = some (.slice a2 m.ag.length c2) := fun W h => h.1.cell 2 _ rfl
 have p3 : ∀ W, B2 W w.heap.size (cj a0 c0 a1 c1 a2 c2 m) [.int .i64 M.ah, .int .i64 M.ce, .slice t2 M.aD.length k2] -> W.cell? ⟨w.heap.size, 3, none⟩ = some (.int .i64 m.ah) := fun W h => h.1.cell 3 _ rfl
 have r0 : ∀ W, B2 W w.heap.size (cj a0 c0 a1 c1 a2 c2 m) [.int .i64 M.ah, .int .i64 M.ce, .slice t2 M.aD.length k2] -> W.cell? ⟨w.heap.size + 1, 0, none⟩ = some (.int .i64 M.ah) := fun W h => h.2.cell 0 _ rfl
 have r1 : ∀ W, B2 W w.heap.size (cj a0 c0 a1 c1 a2 c2 m) [.int .i64 M.ah, .int .i64 M.ce, .slice t2 M.aD.length k2] -> W.cell? ⟨w.heap.size + 1, 1, none⟩ = some (.int .i64 M.ce) := fun W h => h.2.cell 1 _ rfl
 have r2 : ∀ W, B2 W w.heap.size (cj a0 c0 a1 c1 a2 c2 m) [.int .i64 M.ah, .int .i64 M.ce, .slice t2 M.aD.length k2] -> W.cell? ⟨w.heap.size + 1, 2, none⟩ = some (.slice t2 M.aD.length k2) := fun W h => h.2.cell 2 _ rfl
 go_wp2_with fail; refine Code.wp_mono (Q := fun e a' w' => e = .normal /\ ∃ (y0 y1 y8 y9 Tq Tr Ts Tt Tu Tv Tw Tx Ty Tz TA TB TC TD TE TF TH ZV ZW ZX ZY ZZ Z3 Z4 Z5 Z6 Z7 Z8 Z9 y39 y40 y41 y42 y43 y44 y45 y46 : Value) (g : Nat) (z0 z1 z2 : Option Addr) (eW eX eY : Nat), a' = { tmps := #[y0, y1, .pointer (some ⟨w.heap.size, 0, none⟩), .pointer (some ⟨w.heap.size + 1, 0, none⟩), .pointer (some ⟨w.heap.size + 1 + 1, 0, none⟩), .int .i64 0, .pointer (some ⟨g, 0, none⟩), .int .i64 c5, y8, y9, Tq, Tr, Ts, Tt, Tu, Tv, Tw, Tx, Ty, Tz, TA, TB, TC, TD, TE, TF, TH, ZV, ZW, ZX, ZY, ZZ, Z3, Z4, Z5, Z6, Z7, Z8, Z9, y39, y40, y41, y42, y43, y44, y45, y46], defers := [] } /\ w.heap.size + 3 <= g /\ Bw w' g 27 (cj z0 eW z1 eX z2 eY d5) /\ bg w'.heap.size w' (cj z0 eW z1 eX z2 eY d5) d5 /\ Bw w' w.heap.size 27 (cj a0 c0 a1 c1 a2 c2 m) /\ Bw w' (w.heap.size + 1 + 1) 27 oz /\ Below w.heap.size w w') ?mono ?Om
 case Om =>
  refine vE (fun W => B2 W w.heap.size (cj a0 c0 a1 c1 a2 c2 m) [.int .i64 M.ah, .int .i64 M.ce, .slice t2 M.aD.length k2]) (vg.under (Below.drew rB)) (fun hZ => ?_); obtain ⟨wS, jU⟩ : ∃ wS, wS = w2.drew := ⟨_, rfl⟩
  have sw : Below w2.heap.size w2 wS := by rw [jU]; exact Below.drew rB
  have hrS := hr2.under sw; have K8 : B2 wS w.heap.size (cj a0 c0 a1 c1 a2 c2 m) [.int .i64 M.ah, .int .i64 M.ce, .slice t2 M.aD.length k2] := vg.under sw; have kO := af hb2 sw; rw [<- jU] at hZ ⊢; clear jU; refine uq 0 ?_; refine uq 1 ?_; refine lM [2, 8] ?_; refine (AllReadyH.cons (aM rfl) (fun K hK => ?_) (AllReadyH.cons (aM rfl) (fun K hK => ?_) AllReadyH.nil))
  ·go_simp
   have uS := (show Below wS.heap.size wS wS from rB)
   refine Calls.mono (rG _ M wS (aR.mono (aR.below Lu.out (af kO uS)) (af kO uS).size) I6.out) ?_; rintro e ku ⟨rfl, EW⟩; have dU : Below wS.heap.size wS ku := EW; have oy := K8.under dU; go_wp2_with fail; refine aL hK (oy) (fun hZ => ?_); clear hK K; refine lM [3, 8] ?_; refine (AllReadyH.cons (aM rfl) (fun K hK => ?_) (AllReadyH.cons (aM rfl) (fun K hK => ?_) AllReadyH.nil))
   ·skip
    obtain ⟨bX, GX, K9, yu, uT⟩ := uR (cH M) ku Qf; have bU : Below ku.heap.size ku bX := yu; have kj := oy.under bU; go_simp; refine aL hK (kj) (fun hZ => ?_); clear hK K; refine lM [4, 8] ?_; refine (AllReadyH.cons (aM rfl) (fun K hK => ?_) (AllReadyH.cons (aM rfl) (fun K hK => ?_) AllReadyH.nil))
    ·go_simp
     have jC := (show Below wS.heap.size wS bX from af (af rB dU) bU)
     have mR := (show Below bX.heap.size bX bX from rB)
     have yw : w2.heap.size <= bX.heap.size := Nat.le_trans sw.size jC.size; refine Calls.mono (qP _ m kN kt _ (jB M) bX (aq.mono (aq.below HR.out (af kO jC)) (af kO jC).size) HW.out (by decide) ((uT.below mR).mono mR.size) Gn) ?_; rw [<- y7.out]; rintro e bK ⟨Nh, rfl, uf, pE⟩; dsimp only at uf; obtain ⟨z0, eW, z1, eX, z2, eY, rfl, _⟩ := id uf; have bL : Below bX.heap.size bX bK := pE; have iO := kj.under bL; go_wp2_with fail; refine aL hK (iO) (fun hZ => ?_); clear hK K; refine uq 5 ?_; refine uq 6 ?_; refine uq 7 ?_; refine bf 8 rfl fun K hK => ?_
     go_simp; obtain ⟨eV, pk⟩ : ∃ q, q = bK.alloc (.cells #[.slice none 0 0, .slice none 0 0, .slice none 0 0, .int .i64 0] 27) := ⟨_, rfl⟩
     have gX : Below bK.heap.size bK eV := by rw [pk]; exact rB.alloc rN _
     have iP := iO.under gX; obtain ⟨g8, qx⟩ : ∃ z, Hid (z = bK.heap.size) := ⟨_, Hm rfl⟩
     have yx : Hid (Bw eV g8 27 oz) := by unfold Hid; rw [qx.out, pk]; exact Bw.new _ _ _
     have EX : w2.heap.size <= g8 := by rw [qx.out]; exact Nat.le_trans sw.size (Below.size (show Below wS.heap.size wS bK from af (af (af rB dU) bU) bL))
     have EY : w.heap.size + 3 <= g8 := by have := hr2.lt; omega
     rw [<- qx.out]; rw [<- pk]; clear pk; refine aL hK (iP) (fun hZ => ?_); clear hK K; refine bf 9 rfl fun K hK => ?_
     have nP := yx.out.under (show Below eV.heap.size eV eV from rB); obtain ⟨s0, EZ, s1, E3, s2, E4, s3, E5⟩ := nP.c8; have MX := nP.lt; go_simp; obtain ⟨cB, jM⟩ : ∃ q, q = ((((eV.setCell ⟨g8, 0, none⟩ (.slice z0 d5.aa.length eW)).setCell ⟨g8, 1, none⟩ (.slice z1 d5.ae.length eX)).setCell ⟨g8, 2, none⟩ (.slice z2 d5.ag.length eY)).setCell ⟨g8, 3, none⟩ (.int .i64 d5.ah)) := ⟨_, rfl⟩
     have mF : aw [g8] eV cB := by rw [jM]; exact bE _ _ _ _ _ _
     have cg : Bw cB g8 27 (cj z0 eW z1 eX z2 eY d5) := by rw [jM]; exact nP.uw rfl _ _ _ _
     have iQ : B2 cB w.heap.size (cj a0 c0 a1 c1 a2 c2 m) [.int .i64 M.ah, .int .i64 M.ce, .slice t2 M.aD.length k2] := iP.turn mF (by simp; omega) (by simp; omega); have E6 := (show Below wS.heap.size wS eV from af (af (af (af rB dU) bU) bL) gX)
     have yy := (show Below bK.heap.size bK eV from af rB gX)
     have hgo := (show Below eV.heap.size eV eV from rB)
     rw [<- jM]; clear jM nP s0 s1 s2 s3 EZ E3 E4 E5; refine aL hK (iQ) (fun hZ => ?_); clear hK K; refine uq 10 ?_; refine dC ?_; have ll := af sw E6; have mS := af hb2 ll; have Fa : bg cB.heap.size cB (cj z0 eW z1 eX z2 eY d5) d5 := by have h := cA (Bw.kV (yx.out.under hgo)) mF (aq.mono (aq.below uf yy) yy.size); exact aq.mono h mF.size
     exact ⟨rfl, _, _, _, _, _, _, _, _, _, _, _, _, _, _, _, _, _, _, _, _, _, _, _, _, _, _, _, _, _, _, _, _, _, _, _, _, _, _, _, _, _, g8, _, _, _, _, _, _, rfl, EY, cg, Fa, iQ.1, (hr2.under ll).turn mF (by simp; omega), mS.trans (mF.below (fun k hk => by simp at hk; omega) mS.size)⟩
    ·go_simp
     obtain ⟨eV, pk⟩ : ∃ q, q = bX.alloc (.cells #[.slice none 0 0, .slice none 0 0, .slice none 0 0, .int .i64 0] 27) := ⟨_, rfl⟩
     have gX : Below bX.heap.size bX eV := by rw [pk]; exact rB.alloc rN _
     have iP := kj.under gX; obtain ⟨g8, qx⟩ : ∃ z, Hid (z = bX.heap.size) := ⟨_, Hm rfl⟩
     have yx : Hid (Bw eV g8 27 oz) := by unfold Hid; rw [qx.out, pk]; exact Bw.new _ _ _
     have EX : w2.heap.size <= g8 := by rw [qx.out]; exact Nat.le_trans sw.size (Below.size (show Below wS.heap.size wS bX from af (af rB dU) bU))
     have EY : w.heap.size + 3 <= g8 := by have := hr2.lt; omega
     rw [<- qx.out]; rw [<- pk]; clear pk; refine aL hK (iP) (fun hZ => ?_); clear hK K; refine bf 4 rfl fun K hK => ?_
     go_simp; have jC := (show Below wS.heap.size wS eV from af (af (af rB dU) bU) gX)
     have mR := (show Below bX.heap.size bX eV from af rB gX)
     have yw : w2.heap.size <= eV.heap.size := Nat.le_trans sw.size jC.size; refine Calls.mono (qP _ m kN kt _ (jB M) eV (aq.mono (aq.below HR.out (af kO jC)) (af kO jC).size) HW.out (by decide) ((uT.below mR).mono mR.size) Gn) ?_; rw [<- y7.out]; rintro e bK ⟨Nh, rfl, uf, pE⟩; dsimp only at uf; obtain ⟨z0, eW, z1, eX, z2, eY, rfl, _⟩ := id uf; have bL : Below eV.heap.size eV bK := pE; have iO := iP.under bL; go_wp2_with fail; refine aL hK (iO) (fun hZ => ?_); clear hK K; refine uq 5 ?_; refine uq 6 ?_; refine uq 7 ?_; refine bf 9 rfl fun K hK => ?_
     have nP := yx.out.under (show Below eV.heap.size eV bK from af rB bL); obtain ⟨s0, EZ, s1, E3, s2, E4, s3, E5⟩ := nP.c8; have MX := nP.lt; go_simp; obtain ⟨cB, jM⟩ : ∃ q, q = ((((bK.setCell ⟨g8, 0, none⟩ (.slice z0 d5.aa.length eW)).setCell ⟨g8, 1, none⟩ (.slice z1 d5.ae.length eX)).setCell ⟨g8, 2, none⟩ (.slice z2 d5.ag.length eY)).setCell ⟨g8, 3, none⟩ (.int .i64 d5.ah)) := ⟨_, rfl⟩
     have mF : aw [g8] bK cB := by rw [jM]; exact bE _ _ _ _ _ _
     have cg : Bw cB g8 27 (cj z0 eW z1 eX z2 eY d5) := by rw [jM]; exact nP.uw rfl _ _ _ _
     have iQ : B2 cB w.heap.size (cj a0 c0 a1 c1 a2 c2 m) [.int .i64 M.ah, .int .i64 M.ce, .slice t2 M.aD.length k2] := iO.turn mF (by simp; omega) (by simp; omega); have E6 := (show Below wS.heap.size wS bK from af (af (af (af rB dU) bU) gX) bL)
     have yy := (show Below bK.heap.size bK bK from rB)
     have hgo := (show Below eV.heap.size eV bK from af rB bL)
     rw [<- jM]; clear jM nP s0 s1 s2 s3 EZ E3 E4 E5; refine aL hK (iQ) (fun hZ => ?_); clear hK K; refine uq 10 ?_; refine dC ?_; have ll := af sw E6; have mS := af hb2 ll; have Fa : bg cB.heap.size cB (cj z0 eW z1 eX z2 eY d5) d5 := by have h := cA (Bw.kV (yx.out.under hgo)) mF (aq.mono (aq.below uf yy) yy.size); exact aq.mono h mF.size
     exact ⟨rfl, _, _, _, _, _, _, _, _, _, _, _, _, _, _, _, _, _, _, _, _, _, _, _, _, _, _, _, _, _, _, _, _, _, _, _, _, _, _, _, _, _, g8, _, _, _, _, _, _, rfl, EY, cg, Fa, iQ.1, (hr2.under ll).turn mF (by simp; omega), mS.trans (mF.below (fun k hk => by simp at hk; omega) mS.size)⟩
   ·go_simp
    obtain ⟨eV, pk⟩ : ∃ q, q = ku.alloc (.cells #[.slice none 0 0, .slice none 0 0, .slice none 0 0, .int .i64 0] 27) := ⟨_, rfl⟩
    have gX : Below ku.heap.size ku eV := by rw [pk]; exact rB.alloc rN _
    have iP := oy.under gX; obtain ⟨g8, qx⟩ : ∃ z, Hid (z = ku.heap.size) := ⟨_, Hm rfl⟩
    have yx : Hid (Bw eV g8 27 oz) := by unfold Hid; rw [qx.out, pk]; exact Bw.new _ _ _
    have EX : w2.heap.size <= g8 := by rw [qx.out]; exact Nat.le_trans sw.size (Below.size (show Below wS.heap.size wS ku from af rB dU))
    have EY : w.heap.size + 3 <= g8 := by have := hr2.lt; omega
    rw [<- qx.out]; rw [<- pk]; clear pk; refine aL hK (iP) (fun hZ => ?_); clear hK K; refine bf 3 rfl fun K hK => ?_
    obtain ⟨bX, GX, K9, yu, uT⟩ := uR (cH M) eV Qf; have bU : Below eV.heap.size eV bX := yu; have kj := iP.under bU; go_simp; refine aL hK (kj) (fun hZ => ?_); clear hK K; refine bf 4 rfl fun K hK => ?_
    go_simp; have jC := (show Below wS.heap.size wS bX from af (af (af rB dU) gX) bU)
    have mR := (show Below bX.heap.size bX bX from rB)
    have yw : w2.heap.size <= bX.heap.size := Nat.le_trans sw.size jC.size; refine Calls.mono (qP _ m kN kt _ (jB M) bX (aq.mono (aq.below HR.out (af kO jC)) (af kO jC).size) HW.out (by decide) ((uT.below mR).mono mR.size) Gn) ?_; rw [<- y7.out]; rintro e bK ⟨Nh, rfl, uf, pE⟩; dsimp only at uf; obtain ⟨z0, eW, z1, eX, z2, eY, rfl, _⟩ := id uf; have bL : Below bX.heap.size bX bK := pE; have iO := kj.under bL; go_wp2_with fail; refine aL hK (iO) (fun hZ => ?_); clear hK K; refine uq 5 ?_; refine uq 6 ?_; refine uq 7 ?_; refine bf 9 rfl fun K hK => ?_
    have nP := yx.out.under (show Below eV.heap.size eV bK from af (af rB bU) bL); obtain ⟨s0, EZ, s1, E3, s2, E4, s3, E5⟩ := nP.c8; have MX := nP.lt; go_simp; obtain ⟨cB, jM⟩ : ∃ q, q = ((((bK.setCell ⟨g8, 0, none⟩ (.slice z0 d5.aa.length eW)).setCell ⟨g8, 1, none⟩ (.slice z1 d5.ae.length eX)).setCell ⟨g8, 2, none⟩ (.slice z2 d5.ag.length eY)).setCell ⟨g8, 3, none⟩ (.int .i64 d5.ah)) := ⟨_, rfl⟩
    have mF : aw [g8] bK cB := by rw [jM]; exact bE _ _ _ _ _ _
    have cg : Bw cB g8 27 (cj z0 eW z1 eX z2 eY d5) := by rw [jM]; exact nP.uw rfl _ _ _ _
    have iQ : B2 cB w.heap.size (cj a0 c0 a1 c1 a2 c2 m) [.int .i64 M.ah, .int .i64 M.ce, .slice t2 M.aD.length k2] := iO.turn mF (by simp; omega) (by simp; omega); have E6 := (show Below wS.heap.size wS bK from af (af (af (af rB dU) gX) bU) bL)
    have yy := (show Below bK.heap.size bK bK from rB)
    have hgo := (show Below eV.heap.size eV bK from af (af rB bU) bL)
    rw [<- jM]; clear jM nP s0 s1 s2 s3 EZ E3 E4 E5; refine aL hK (iQ) (fun hZ => ?_); clear hK K; refine uq 10 ?_; refine dC ?_; have ll := af sw E6; have mS := af hb2 ll; have Fa : bg cB.heap.size cB (cj z0 eW z1 eX z2 eY d5) d5 := by have h := cA (Bw.kV (yx.out.under hgo)) mF (aq.mono (aq.below uf yy) yy.size); exact aq.mono h mF.size
    exact ⟨rfl, _, _, _, _, _, _, _, _, _, _, _, _, _, _, _, _, _, _, _, _, _, _, _, _, _, _, _, _, _, _, _, _, _, _, _, _, _, _, _, _, _, g8, _, _, _, _, _, _, rfl, EY, cg, Fa, iQ.1, (hr2.under ll).turn mF (by simp; omega), mS.trans (mF.below (fun k hk => by simp at hk; omega) mS.size)⟩
  ·go_simp
   obtain ⟨eV, pk⟩ : ∃ q, q = wS.alloc (.cells #[.slice none 0 0, .slice none 0 0, .slice none 0 0, .int .i64 0] 27) := ⟨_, rfl⟩
   have gX : Below wS.heap.size wS eV := by rw [pk]; exact rB.alloc rN _
   have iP := K8.under gX; obtain ⟨g8, qx⟩ : ∃ z, Hid (z = wS.heap.size) := ⟨_, Hm rfl⟩
   have yx : Hid (Bw eV g8 27 oz) := by unfold Hid; rw [qx.out, pk]; exact Bw.new _ _ _
   have EX : w2.heap.size <= g8 := by rw [qx.out]; exact Nat.le_trans sw.size (Below.size (show Below wS.heap.size wS wS from rB))
   have EY : w.heap.size + 3 <= g8 := by have := hr2.lt; omega
   rw [<- qx.out]; rw [<- pk]; clear pk; refine aL hK (iP) (fun hZ => ?_); clear hK K; refine bf 2 rfl fun K hK => ?_
   go_simp; have uS := (show Below wS.heap.size wS eV from af rB gX)
   refine Calls.mono (rG _ M eV (aR.mono (aR.below Lu.out (af kO uS)) (af kO uS).size) I6.out) ?_; rintro e ku ⟨rfl, EW⟩; have dU : Below eV.heap.size eV ku := EW; have oy := iP.under dU; go_wp2_with fail; refine aL hK (oy) (fun hZ => ?_); clear hK K; refine bf 3 rfl fun K hK => ?_
   obtain ⟨bX, GX, K9, yu, uT⟩ := uR (cH M) ku Qf; have bU : Below ku.heap.size ku bX := yu; have kj := oy.under bU; go_simp; refine aL hK (kj) (fun hZ => ?_); clear hK K; refine bf 4 rfl fun K hK => ?_
   go_simp; have jC := (show Below wS.heap.size wS bX from af (af (af rB gX) dU) bU)
   have mR := (show Below bX.heap.size bX bX from rB)
   have yw : w2.heap.size <= bX.heap.size := Nat.le_trans sw.size jC.size; refine Calls.mono (qP _ m kN kt _ (jB M) bX (aq.mono (aq.below HR.out (af kO jC)) (af kO jC).size) HW.out (by decide) ((uT.below mR).mono mR.size) Gn) ?_; rw [<- y7.out]; rintro e bK ⟨Nh, rfl, uf, pE⟩; dsimp only at uf; obtain ⟨z0, eW, z1, eX, z2, eY, rfl, _⟩ := id uf; have bL : Below bX.heap.size bX bK := pE; have iO := kj.under bL; go_wp2_with fail; refine aL hK (iO) (fun hZ => ?_); clear hK K; refine uq 5 ?_; refine uq 6 ?_; refine uq 7 ?_; refine bf 9 rfl fun K hK => ?_
   have nP := yx.out.under (show Below eV.heap.size eV bK from af (af (af rB dU) bU) bL); obtain ⟨s0, EZ, s1, E3, s2, E4, s3, E5⟩ := nP.c8; have MX := nP.lt; go_simp; obtain ⟨cB, jM⟩ : ∃ q, q = ((((bK.setCell ⟨g8, 0, none⟩ (.slice z0 d5.aa.length eW)).setCell ⟨g8, 1, none⟩ (.slice z1 d5.ae.length eX)).setCell ⟨g8, 2, none⟩ (.slice z2 d5.ag.length eY)).setCell ⟨g8, 3, none⟩ (.int .i64 d5.ah)) := ⟨_, rfl⟩
   have mF : aw [g8] bK cB := by rw [jM]; exact bE _ _ _ _ _ _
   have cg : Bw cB g8 27 (cj z0 eW z1 eX z2 eY d5) := by rw [jM]; exact nP.uw rfl _ _ _ _
   have iQ : B2 cB w.heap.size (cj a0 c0 a1 c1 a2 c2 m) [.int .i64 M.ah, .int .i64 M.ce, .slice t2 M.aD.length k2] := iO.turn mF (by simp; omega) (by simp; omega); have E6 := (show Below wS.heap.size wS bK from af (af (af (af rB gX) dU) bU) bL)
   have yy := (show Below bK.heap.size bK bK from rB)
   have hgo := (show Below eV.heap.size eV bK from af (af (af rB dU) bU) bL)
   rw [<- jM]; clear jM nP s0 s1 s2 s3 EZ E3 E4 E5; refine aL hK (iQ) (fun hZ => ?_); clear hK K; refine uq 10 ?_; refine dC ?_; have ll := af sw E6; have mS := af hb2 ll; have Fa : bg cB.heap.size cB (cj z0 eW z1 eX z2 eY d5) d5 := by have h := cA (Bw.kV (yx.out.under hgo)) mF (aq.mono (aq.below uf yy) yy.size); exact aq.mono h mF.size
   exact ⟨rfl, _, _, _, _, _, _, _, _, _, _, _, _, _, _, _, _, _, _, _, _, _, _, _, _, _, _, _, _, _, _, _, _, _, _, _, _, _, _, _, _, _, g8, _, _, _, _, _, _, rfl, EY, cg, Fa, iQ.1, (hr2.under ll).turn mF (by simp; omega), mS.trans (mF.below (fun k hk => by simp at hk; omega) mS.size)⟩
 case mono =>
  rintro e a' wJ ⟨rfl, y0, y1, y8, y9, Tq, Tr, Ts, Tt, Tu, Tv, Tw, Tx, Ty, Tz, TA, TB, TC, TD, TE, TF, TH, ZV, ZW, ZX, ZY, ZZ, Z3, Z4, Z5, Z6, Z7, Z8, Z9, y39, y40, y41, y42, y43, y44, y45, y46, g, z0, z1, z2, eW, eX, eY, rfl, hg, cg, uf, BD, yL, uU⟩; have Jf := cg.lt; have Ni := BD.lt; have QX := yL.lt; clear p0 p1 p2 p3 r0 r1 r2
  by_cases Jz : c5 = 0
  rotate_left
  ·have dy : Hid (mM m M = (m, c5)) := by have h := TI.out.1 Jz; have h2 := IK.out (by rw [h]; exact Jz); rw [h] at h2; exact h2
   have MS : decide (c5 = 0) = false := decide_eq_false Jz; have vG := (BD).lt; obtain ⟨x0, x1, x2, x3⟩ := BD.c4; go_wp2_with fail; refine (eC _ m wJ (aq.mono (aq.below HR.out (uU)) (uU).size) HW.out).mono ?_; rintro e w7 ⟨Qe, F7, rfl, yK, K7, yt, j5⟩; obtain ⟨q0, ji, q1, jk, q2, jl, E0, E1, E2, rfl, _, _, _, _, rfl⟩ := aC yK; have vW := (yL).under j5; have Q9 := j5.size; have hzz := (yL).lt; have ut : ∀ b, b ∈ E0 ++ E1 ++ E2 ++ [] -> w.heap.size + 3 <= b := fun b hb => by have := yt b hb; omega
   have IZ := Hm ut; have N5 := Hm K7; obtain ⟨u0, Nb, u1, Nc, u2, Nd, u3, Nf⟩ := vW.c8; have N6 := vW.lt; have hT := bE w7 (w.heap.size + 1 + 1) (.slice q0 m.aa.length ji) (.slice q1 m.ae.length jk) (.slice q2 m.ag.length jl) (.int .i64 m.ah); have BB : Hid (Below w.heap.size w ((((w7.setCell ⟨w.heap.size + 1 + 1, 0, none⟩ (.slice q0 m.aa.length ji)).setCell ⟨w.heap.size + 1 + 1, 1, none⟩ (.slice q1 m.ae.length jk)).setCell ⟨w.heap.size + 1 + 1, 2, none⟩ (.slice q2 m.ag.length jl)).setCell ⟨w.heap.size + 1 + 1, 3, none⟩ (.int .i64 m.ah))) := (af (uU) j5).trans (hT.below (fun k hk => by simp at hk; omega) (af (uU) j5).size)
   have BC : Hid (bg ((((w7.setCell ⟨w.heap.size + 1 + 1, 0, none⟩ (.slice q0 m.aa.length ji)).setCell ⟨w.heap.size + 1 + 1, 1, none⟩ (.slice q1 m.ae.length jk)).setCell ⟨w.heap.size + 1 + 1, 2, none⟩ (.slice q2 m.ag.length jl)).setCell ⟨w.heap.size + 1 + 1, 3, none⟩ (.int .i64 m.ah)).heap.size ((((w7.setCell ⟨w.heap.size + 1 + 1, 0, none⟩ (.slice q0 m.aa.length ji)).setCell ⟨w.heap.size + 1 + 1, 1, none⟩ (.slice q1 m.ae.length jk)).setCell ⟨w.heap.size + 1 + 1, 2, none⟩ (.slice q2 m.ag.length jl)).setCell ⟨w.heap.size + 1 + 1, 3, none⟩ (.int .i64 m.ah)) (cj q0 ji q1 jk q2 jl m) m) := by
    have hz : ((((w7.setCell ⟨w.heap.size + 1 + 1, 0, none⟩ (.slice q0 m.aa.length ji)).setCell ⟨w.heap.size + 1 + 1, 1, none⟩ (.slice q1 m.ae.length jk)).setCell ⟨w.heap.size + 1 + 1, 2, none⟩ (.slice q2 m.ag.length jl)).setCell ⟨w.heap.size + 1 + 1, 3, none⟩ (.int .i64 m.ah)).heap.size = w7.heap.size := by simp
    unfold Hid; rw [hz]; exact cA (Bw.kV vW) hT (aj.read yK)
   clear hT; go_wp2_with fail; refine bodyPost_ret (v := .tuple #[.agg #[.slice q0 m.aa.length ji, .slice q1 m.ae.length jk, .slice q2 m.ag.length jl, .int .i64 m.ah], .int .i64 c5]) (by simp [results, Tryz.results8, go_sem, *]) rfl ?_; exact ⟨(cj q0 ji q1 jk q2 jl m), by rw [show ky m M = c5 from congrArg (fun r => r.2) dy.out], by rw [show fU m M = m from congrArg (fun r => r.1) dy.out]; exact BC.out, BB.out⟩
  subst Jz; have TJ := Hm (TI.out.2.1 rfl); have rQ := Hm (TI.out.2.2 rfl); clear TI y7; obtain ⟨b0, Qg, b1, Qh, b2, Qi, b3, Qj⟩ := cg.c8; go_wp2_with fail; refine (AV _ d5 kN kt wJ uf (by decide) (by decide) XU (by decide) (by decide)).mono ?_; have l9 := oH (s := kN) (t := kt) XU
  try dsimp only at TJ rQ
  obtain ⟨d6, LS⟩ : ∃ x, x = bQ d5 kN kt := ⟨_, rfl⟩
  obtain ⟨c6, sK⟩ : ∃ x, x = cD d5 kN kt := ⟨_, rfl⟩
  rw [<- LS] at TJ rQ l9 ⊢; rw [<- sK] at TJ rQ ⊢; clear LS sK; rintro e u6 ⟨zH, rfl, H5, eA⟩; obtain ⟨y0, qs, y1, qu, y2, qw, rfl, _⟩ := id H5; have yz := cg.under eA; have TK := BD.under eA; have Hg := yL.under eA; have Qm := af uU eA; clear b0 b1 b2 b3 Qg Qh Qi Qj Jf Ni QX; obtain ⟨b0, Qg, b1, Qh, b2, Qi, b3, Qj⟩ := yz.c8; have Jf := yz.lt; obtain ⟨wK, Ra⟩ : ∃ x, x = ((((u6.setCell ⟨g, 0, none⟩ (.slice y0 d6.aa.length qs)).setCell ⟨g, 1, none⟩ (.slice y1 d6.ae.length qu)).setCell ⟨g, 2, none⟩ (.slice y2 d6.ag.length qw)).setCell ⟨g, 3, none⟩ (.int .i64 d6.ah)) := ⟨_, rfl⟩
  have pN : aw [g] u6 wK := by rw [Ra]; exact bE _ _ _ _ _ _
  have La : Bw wK g 27 (cj y0 qs y1 qu y2 qw d6) := by rw [Ra]; exact yz.uw rfl _ _ _ _
  have y5 := TK.turn pN (by simp; omega); have Ov := Hg.turn pN (by simp; omega); have TL := Qm.trans (pN.below (fun k hk => by simp at hk; omega) Qm.size); have TM : bg wK.heap.size wK (cj y0 qs y1 qu y2 qw d6) d6 := aq.mono (cA (yz.Oi uf) pN H5) pN.size; clear cg BD yL uU uf yz TK Hg Qm pN H5 eA; have cg := La; have BD := y5; have yL := Ov; have uU := TL; have uf := TM; clear La y5 Ov TL TM
  by_cases Gq : c6 = 0
  rotate_left
  ·have dy : Hid (mM m M = (m, c6)) := by have h := TJ.out Gq; have h2 := IK.out (by rw [h]; exact Gq); rw [h] at h2; exact h2
   have MS : decide (c6 = 0) = false := decide_eq_false Gq; have vG := BD.lt; obtain ⟨x0, x1, x2, x3⟩ := BD.c4; rw [Ra] at x0 x1 x2 x3 vG; go_wp2_with fail; rw [<- Ra]; clear x0 x1 x2 x3 vG; refine (eC _ m wK (aq.mono (aq.below HR.out uU) uU.size) HW.out).mono ?_; rintro e w7 ⟨Qe, F7, rfl, yK, K7, yt, j5⟩; obtain ⟨q0, ji, q1, jk, q2, jl, E0, E1, E2, rfl, _, _, _, _, rfl⟩ := aC yK; have vW := yL.under j5; have Q9 := j5.size; have hzz := yL.lt; obtain ⟨u0, Nb, u1, Nc, u2, Nd, u3, Nf⟩ := vW.c8; have N6 := vW.lt; have hT := bE w7 (w.heap.size + 1 + 1) (.slice q0 m.aa.length ji) (.slice q1 m.ae.length jk) (.slice q2 m.ag.length jl) (.int .i64 m.ah); have BB : Hid (Below w.heap.size w ((((w7.setCell ⟨w.heap.size + 1 + 1, 0, none⟩ (.slice q0 m.aa.length ji)).setCell ⟨w.heap.size + 1 + 1, 1, none⟩ (.slice q1 m.ae.length jk)).setCell ⟨w.heap.size + 1 + 1, 2, none⟩ (.slice q2 m.ag.length jl)).setCell ⟨w.heap.size + 1 + 1, 3, none⟩ (.int .i64 m.ah))) := (af uU j5).trans (hT.below (fun k hk => by simp at hk; omega) (af uU j5).size)
   have BC : Hid (bg ((((w7.setCell ⟨w.heap.size + 1 + 1, 0, none⟩ (.slice q0 m.aa.length ji)).setCell ⟨w.heap.size + 1 + 1, 1, none⟩ (.slice q1 m.ae.length jk)).setCell ⟨w.heap.size + 1 + 1, 2, none⟩ (.slice q2 m.ag.length jl)).setCell ⟨w.heap.size + 1 + 1, 3, none⟩ (.int .i64 m.ah)).heap.size ((((w7.setCell ⟨w.heap.size + 1 + 1, 0, none⟩ (.slice q0 m.aa.length ji)).setCell ⟨w.heap.size + 1 + 1, 1, none⟩ (.slice q1 m.ae.length jk)).setCell ⟨w.heap.size + 1 + 1, 2, none⟩ (.slice q2 m.ag.length jl)).setCell ⟨w.heap.size + 1 + 1, 3, none⟩ (.int .i64 m.ah)) (cj q0 ji q1 jk q2 jl m) m) := by
    have hz : ((((w7.setCell ⟨w.heap.size + 1 + 1, 0, none⟩ (.slice q0 m.aa.length ji)).setCell ⟨w.heap.size + 1 + 1, 1, none⟩ (.slice q1 m.ae.length jk)).setCell ⟨w.heap.size + 1 + 1, 2, none⟩ (.slice q2 m.ag.length jl)).setCell ⟨w.heap.size + 1 + 1, 3, none⟩ (.int .i64 m.ah)).heap.size = w7.heap.size := by simp
    unfold Hid; rw [hz]; exact cA (Bw.kV vW) hT (aj.read yK)
   clear hT; go_wp2_with fail; refine bodyPost_ret (v := .tuple #[.agg #[.slice q0 m.aa.length ji, .slice q1 m.ae.length jk, .slice q2 m.ag.length jl, .int .i64 m.ah], .int .i64 c6]) (by simp [results, Tryz.results8, go_sem, *]) rfl ?_; exact ⟨(cj q0 ji q1 jk q2 jl m), by rw [show ky m M = c6 from congrArg (fun r => r.2) dy.out], by rw [show fU m M = m from congrArg (fun r => r.1) dy.out]; exact BC.out, BB.out⟩
  subst Gq; have U8 := Hm (rQ.out rfl); clear TJ rQ; go_wp2_with fail; rw [<- Ra]; clear Ra b0 b1 b2 b3 Qg Qh Qi Qj Jf; refine (y6 _ d6 wK uf l9).mono ?_; obtain ⟨d7, hd7⟩ : ∃ x, x = cC d6 := ⟨_, rfl⟩
  obtain ⟨c7, UY⟩ : ∃ x, x = eL d6 := ⟨_, rfl⟩
  rw [<- hd7] at U8 ⊢; rw [<- UY] at U8 ⊢; clear hd7 UY; obtain ⟨b0, b1, b2, b3⟩ := cg.c4; obtain ⟨Qg, Qh, Qi, Qj⟩ := cg.f4; have Jf := cg.lt; have Ni := BD.lt; have QX := yL.lt; rintro e u7 ⟨Qe, rfl, pY, j5⟩; obtain ⟨x0, sx, x1, sy, x2, sA, rfl, _⟩ := id pY; have yz := cg.under j5; have TK := BD.under j5; have Hg := yL.under j5; have Qm := af uU j5; clear b0 b1 b2 b3 Qg Qh Qi Qj Jf Ni QX; obtain ⟨b0, Qg, b1, Qh, b2, Qi, b3, Qj⟩ := yz.c8; have Jf := yz.lt; obtain ⟨wL, TN⟩ : ∃ x, x = ((((u7.setCell ⟨g, 0, none⟩ (.slice x0 d7.aa.length sx)).setCell ⟨g, 1, none⟩ (.slice x1 d7.ae.length sy)).setCell ⟨g, 2, none⟩ (.slice x2 d7.ag.length sA)).setCell ⟨g, 3, none⟩ (.int .i64 d7.ah)) := ⟨_, rfl⟩
  have pN : aw [g] u7 wL := by rw [TN]; exact bE _ _ _ _ _ _
  have La : Bw wL g 27 (cj x0 sx x1 sy x2 sA d7) := by rw [TN]; exact yz.uw rfl _ _ _ _
  have y5 := TK.turn pN (by simp; omega); have Ov := Hg.turn pN (by simp; omega); have TL := Qm.trans (pN.below (fun k hk => by simp at hk; omega) Qm.size); have TM : bg wL.heap.size wL (cj x0 sx x1 sy x2 sA d7) d7 := aq.mono (cA (yz.Oi uf) pN pY) pN.size; clear cg BD yL uU uf yz TK Hg Qm pN pY j5; have cg := La; have BD := y5; have yL := Ov; have uU := TL; have uf := TM; clear La y5 Ov TL TM
  by_cases Gr : c7 = 0
  rotate_left
  ·have dy : Hid (mM m M = (m, c7)) := by have h := U8.out; have h2 := IK.out (by rw [h]; exact Gr); rw [h] at h2; exact h2
   have MS : decide (c7 = 0) = false := decide_eq_false Gr; have vG := BD.lt; obtain ⟨x0, x1, x2, x3⟩ := BD.c4; rw [TN] at x0 x1 x2 x3 vG; go_wp2_with fail; rw [<- TN]; clear x0 x1 x2 x3 vG; refine (eC _ m wL (aq.mono (aq.below HR.out uU) uU.size) HW.out).mono ?_; rintro e w7 ⟨Qe, F7, rfl, yK, K7, yt, j5⟩; obtain ⟨q0, ji, q1, jk, q2, jl, E0, E1, E2, rfl, _, _, _, _, rfl⟩ := aC yK; have vW := yL.under j5; have Q9 := j5.size; have hzz := yL.lt; obtain ⟨u0, Nb, u1, Nc, u2, Nd, u3, Nf⟩ := vW.c8; have N6 := vW.lt; have hT := bE w7 (w.heap.size + 1 + 1) (.slice q0 m.aa.length ji) (.slice q1 m.ae.length jk) (.slice q2 m.ag.length jl) (.int .i64 m.ah); have BB : Hid (Below w.heap.size w ((((w7.setCell ⟨w.heap.size + 1 + 1, 0, none⟩ (.slice q0 m.aa.length ji)).setCell ⟨w.heap.size + 1 + 1, 1, none⟩ (.slice q1 m.ae.length jk)).setCell ⟨w.heap.size + 1 + 1, 2, none⟩ (.slice q2 m.ag.length jl)).setCell ⟨w.heap.size + 1 + 1, 3, none⟩ (.int .i64 m.ah))) := (af uU j5).trans (hT.below (fun k hk => by simp at hk; omega) (af uU j5).size)
   have BC : Hid (bg ((((w7.setCell ⟨w.heap.size + 1 + 1, 0, none⟩ (.slice q0 m.aa.length ji)).setCell ⟨w.heap.size + 1 + 1, 1, none⟩ (.slice q1 m.ae.length jk)).setCell ⟨w.heap.size + 1 + 1, 2, none⟩ (.slice q2 m.ag.length jl)).setCell ⟨w.heap.size + 1 + 1, 3, none⟩ (.int .i64 m.ah)).heap.size ((((w7.setCell ⟨w.heap.size + 1 + 1, 0, none⟩ (.slice q0 m.aa.length ji)).setCell ⟨w.heap.size + 1 + 1, 1, none⟩ (.slice q1 m.ae.length jk)).setCell ⟨w.heap.size + 1 + 1, 2, none⟩ (.slice q2 m.ag.length jl)).setCell ⟨w.heap.size + 1 + 1, 3, none⟩ (.int .i64 m.ah)) (cj q0 ji q1 jk q2 jl m) m) := by
    have hz : ((((w7.setCell ⟨w.heap.size + 1 + 1, 0, none⟩ (.slice q0 m.aa.length ji)).setCell ⟨w.heap.size + 1 + 1, 1, none⟩ (.slice q1 m.ae.length jk)).setCell ⟨w.heap.size + 1 + 1, 2, none⟩ (.slice q2 m.ag.length jl)).setCell ⟨w.heap.size + 1 + 1, 3, none⟩ (.int .i64 m.ah)).heap.size = w7.heap.size := by simp
    unfold Hid; rw [hz]; exact cA (Bw.kV vW) hT (aj.read yK)
   clear hT; go_wp2_with fail; refine bodyPost_ret (v := .tuple #[.agg #[.slice q0 m.aa.length ji, .slice q1 m.ae.length jk, .slice q2 m.ag.length jl, .int .i64 m.ah], .int .i64 c7]) (by simp [results, Tryz.results8, go_sem, *]) rfl ?_; exact ⟨(cj q0 ji q1 jk q2 jl m), by rw [show ky m M = c7 from congrArg (fun r => r.2) dy.out], by rw [show fU m M = m from congrArg (fun r => r.1) dy.out]; exact BC.out, BB.out⟩
  have dy : Hid (mM m M = (d7, 0)) := by have h := U8.out; have h2 := Gp.out (by rw [h]; exact Gr); rw [h] at h2; exact h2
  subst Gr; obtain ⟨u0, Nb, u1, Nc, u2, Nd, u3, Nf⟩ := yL.c8; have N6 := yL.lt; have hT := bE wL (w.heap.size + 1 + 1) (.slice x0 d7.aa.length sx) (.slice x1 d7.ae.length sy) (.slice x2 d7.ag.length sA) (.int .i64 d7.ah); have BB : Hid (Below w.heap.size w ((((wL.setCell ⟨w.heap.size + 1 + 1, 0, none⟩ (.slice x0 d7.aa.length sx)).setCell ⟨w.heap.size + 1 + 1, 1, none⟩ (.slice x1 d7.ae.length sy)).setCell ⟨w.heap.size + 1 + 1, 2, none⟩ (.slice x2 d7.ag.length sA)).setCell ⟨w.heap.size + 1 + 1, 3, none⟩ (.int .i64 d7.ah))) := uU.trans (hT.below (fun k hk => by simp at hk; omega) uU.size)
  have BC : Hid (bg ((((wL.setCell ⟨w.heap.size + 1 + 1, 0, none⟩ (.slice x0 d7.aa.length sx)).setCell ⟨w.heap.size + 1 + 1, 1, none⟩ (.slice x1 d7.ae.length sy)).setCell ⟨w.heap.size + 1 + 1, 2, none⟩ (.slice x2 d7.ag.length sA)).setCell ⟨w.heap.size + 1 + 1, 3, none⟩ (.int .i64 d7.ah)).heap.size ((((wL.setCell ⟨w.heap.size + 1 + 1, 0, none⟩ (.slice x0 d7.aa.length sx)).setCell ⟨w.heap.size + 1 + 1, 1, none⟩ (.slice x1 d7.ae.length sy)).setCell ⟨w.heap.size + 1 + 1, 2, none⟩ (.slice x2 d7.ag.length sA)).setCell ⟨w.heap.size + 1 + 1, 3, none⟩ (.int .i64 d7.ah)) (cj x0 sx x1 sy x2 sA d7) d7) := by
   have hz : ((((wL.setCell ⟨w.heap.size + 1 + 1, 0, none⟩ (.slice x0 d7.aa.length sx)).setCell ⟨w.heap.size + 1 + 1, 1, none⟩ (.slice x1 d7.ae.length sy)).setCell ⟨w.heap.size + 1 + 1, 2, none⟩ (.slice x2 d7.ag.length sA)).setCell ⟨w.heap.size + 1 + 1, 3, none⟩ (.int .i64 d7.ah)).heap.size = wL.heap.size := by simp
   unfold Hid; rw [hz]; exact cA (Bw.kV yL) hT uf
  clear hT; rw [TN] at BB BC u0 u1 u2 u3 Nb Nc Nd Nf N6; go_wp2_with fail; exact bodyPost_ret (v := .tuple #[.agg #[.slice x0 d7.aa.length sx, .slice x1 d7.ae.length sy, .slice x2 d7.ag.length sA, .int .i64 d7.ah], .int .i64 0]) (by simp [results, Tryz.results8, go_sem, *]) rfl ⟨(cj x0 sx x1 sy x2 sA d7), by rw [show ky m M = 0 from congrArg (fun r => r.2) dy.out], by rw [show fU m M = d7 from congrArg (fun r => r.1) dy.out]; exact BC.out, BB.out⟩
def U9 (B : Nat) (w : World) (a : Option Addr) (l : List ByteArray) : Prop :=
 ∀ j, (h : j < l.length) -> ∃ b off, a = some ⟨b, off, none⟩ /\ b < B /\ w.cell? ⟨b, off + j, none⟩ = some (.string l[j])
def Rb (B : Nat) (w : World) (v : Value) (l : List ByteArray) : Prop := ∃ a c, v = .slice a l.length c /\ l.length <= c /\ c <= 9223372036854775807 /\ U9 B w a l
def IL (e : TypeId) (w : World) (v : Value) (l : List ByteArray) (F : List Nat) : Prop := w.ownsRow 0 e 1 v l.length (l.map Value.string) /\ F = v.ownBlock.toList
theorem U9.below {B : Nat} {w w' : World} {a : Option Addr} {l : List ByteArray} (h : U9 B w a l) (hb : Below B w w') : U9 B w' a l := by
 intro j hj; obtain ⟨b, off, e, hB, hc⟩ := h j hj; exact ⟨b, off, e, hB, (hb.cell (p := ⟨b, off + j, none⟩) hB).trans hc⟩
theorem Rb.below {B : Nat} {w w' : World} {v : Value} {l : List ByteArray} (h : Rb B w v l) (hb : Below B w w') : Rb B w' v l := by
 obtain ⟨a, c, e, h1, h2, h3⟩ := h; exact ⟨a, c, e, h1, h2, h3.below hb⟩
theorem Rb.mono {B B' : Nat} {w : World} {v : Value} {l : List ByteArray} (h : Rb B w v l) (hB : B <= B') : Rb B' w v l := by
 obtain ⟨a, c, e, h1, h2, h3⟩ := h; refine ⟨a, c, e, h1, h2, fun j hj => ?_⟩; obtain ⟨b, off, e, hb, hc⟩ := h3 j hj; exact ⟨b, off, e, by omega, hc⟩
theorem IL.frame {e : TypeId} {w w' : World} {v : Value} {l : List ByteArray} {F : List Nat} (h : IL e w v l F) (hb : ∀ k, k ∈ F -> w'.heap[k]? = w.heap[k]?) : IL e w' v l F := by
 obtain ⟨h1, rfl⟩ := h; exact ⟨fQ h1 (fun k hk => hb k (by simp [hk])), rfl⟩
theorem IL.lt {e : TypeId} {w : World} {v : Value} {l : List ByteArray} {F : List Nat} (h : IL e w v l F) : ∀ k, k ∈ F -> k < w.heap.size := by
 obtain ⟨h1, rfl⟩ := h; intro k hk; exact (h1.lt k (by simpa using hk)).2
def yA (m : az) : List ByteArray := if bc m then m.ae.map (·.ax) else []
theorem Fb {l : List aB} {k : Nat} (h : k < l.length) : (((l.take k).map (·.ax)).map Value.string) ++ [Value.string l[k].ax] = (((l.take (k + 1)).map (·.ax)).map Value.string) := by
 rw [List.take_succ_eq_append_getElem h, List.map_append, List.map_append]; rfl
theorem Tryz.Bi : (Tryz.prog.info? 9).map (fun i => (i.zero, i.size, i.bytes)) = some (some (.string ByteArray.empty), 1, 16) := by kernel_rfl
theorem yB (cs : List Value) (m : az) (w : World) (hr : bg w.heap.size w cs m) (hw : aZ m <= 1048576) :
  Calls Tryz.prog 12 #[.agg cs.toArray] w fun e w' => ∃ (v : Value) (F : List Nat), e = .returned v /\ IL 9 w' v (yA m) F /\ F.Nodup /\ (∀ b, b ∈ F -> w.heap.size <= b) /\ Below w.heap.size w w' := by
 obtain ⟨i0, hi, hz0, hz1, hz2⟩ := info_parts Tryz.Bi; have hq := hr; obtain ⟨a0, c0, a1, c1, a2, c2, rfl, hI, gf, gT, kX, _⟩ := hq; have hw2 : m.aa.length + aP aJ m.aa + (m.ae.length + aP a7 m.ae) + (m.ag.length + aP a7 m.ag) <= 1048576 := hw; have HW := Hm hw; have HR := Hm hr; have yE := Hm gf; clear hr hI gf gT hw; have Mb := fun W (hb : Below w.heap.size w W) => jZ _ m W (aq.mono (aq.below HR.out hb) hb.size) HW.out
 go_enter Tryz.func12, Tryz.ntmps12; go_wp2_with fail; refine Calls.mono (Mb _ ?_) ?_
 ·exact rB.alloc rN _
 rintro e w1 ⟨rfl, hx1⟩; have hb1 : Below w.heap.size w w1 := af (rB.alloc rN _) hx1; have cg := (Bx.new w (cj a0 c0 a1 c1 a2 c2 m) 27).under hx1; have y1 := cg.2 1 _ rfl; clear Mb
 by_cases mW : bc m = true
 ·have HL : Hid (yA m = m.ae.map (·.ax)) := by show yA m = _; unfold yA; rw [if_pos mW]
  rw [mW]; clear mW; go_wp2_with fail
  go_loopw [3, 12] (fun v i wr => ∃ k : Nat, k <= m.ae.length /\ i = .int .i64 k /\ wr.ownsRow w.heap.size 9 1 v k (((m.ae.take k).map (·.ax)).map Value.string) /\ Below w.heap.size w wr) (fun _ i _ => m.ae.length - (intOf i).toNat)
  case atStart => exact ⟨0, Nat.zero_le _, rfl, ⟨by simp, .inl ⟨rfl, rfl⟩⟩, hb1⟩
  case round =>
   obtain ⟨k, hk, rfl, hown, bF⟩ := hrel
   by_cases hlt : k < m.ae.length
   ·obtain ⟨b1, o1, rfl, hB, cs, iw, hcell, rfl, hsz, qJ, _⟩ := (yE.out.2.2.below au bF) k hlt
    have k0 := hcell 0 _ rfl; have k1 := hcell 1 _ rfl; rw [Nat.add_zero] at k0; have HST := Hm (Fb hlt); clear hcell iw; generalize m.ae[k].ax = nm at *; generalize m.ae[k].bi = id at *; have Jp := bF.size; go_wp2_with (at_builtin; refine wpList_append_own_at _ rfl _ _ 39 rfl w.heap.size 9 i0 (.string ByteArray.empty) 1 16 Tryz.underlying39 hi hz0 hz1 hz2 rfl (by decide) _ _ _ rfl (aA hown ((rB.alloc rN _).alloc (by simp) _)) ⟨wr.heap.size + 1, 0, none⟩ 1 1 [.string nm] rfl rfl (b8 (by simpa using Bx.new (wr.alloc _) _ _)) (by intro u hu; simp at hu; subst hu; rfl) (by unfold maxLen; omega) (by omega) (by simp; omega) ?_; intro v' w3 ek dI hnil hloc); have hT := aw.after (((Below.refl wr.heap.size wr).alloc rN _).alloc (by simp) _) (dE dI); have lx : ∀ k, k ∈ (Value.ownBlock _).toList -> w.heap.size <= k := fun k hk => (hown.lt k (by simpa using hk)).1
    go_roundw
    case rel => exact ⟨k + 1, by omega, by go_num, cM ek rfl HST.out, aw.under bF hT (fun k hk => lx k hk)⟩
    case measure => simp [intOf]; omega
   ·have qZ : k = m.ae.length := by omega
    subst qZ; rw [List.take_length] at hown; have HOW := Hm hown; go_wp2_with fail; go_ret; refine ⟨_, _, rfl, ⟨?_, rfl⟩, ?_, ?_, bF⟩
    ·rw [HL.out]
     exact ep (cM hown (by simp) rfl) (Nat.zero_le _)
    ·cases Value.ownBlock _ <;> simp
    ·intro b hb
     exact (HOW.out.lt b (by simpa using hb)).1
 ·have XY : bc m = false := Bool.eq_false_iff.2 mW
  have HL : Hid (yA m = []) := by show yA m = _; unfold yA; rw [if_neg mW]
  rw [XY]; clear mW; go_wp2_with fail; go_ret; refine ⟨_, [], rfl, ⟨?_, rfl⟩, List.nodup_nil, (fun b hb => by cases hb), hb1⟩; rw [HL.out]; exact ⟨by simp, .inl ⟨rfl, rfl⟩⟩
section
variable {H : Type} {enc : TypeId × Value -> H} {w : World} {base fuel : Nat} {spare : Nat -> Bool} {held : Bool} {cs : List Value} {x : DataW H × List MemPlace}
theorem IM {t e : TypeId} (ht : Tryz.prog.underlying t = some (.slice e)) (he : Tryz.prog.underlying e = some (.int .u8)) (hc : Tryz.prog.cellsOf e = 1) (h : DataW.trod enc Tryz.prog w base spare held fuel t cs = some x) :
  ∃ a c, ∃ zs : List Int, cs = [.slice a zs.length c] /\ fM w.heap.size w a c zs := by
 rcases Go.ChangeShapes.open_ints ht he hc h with ⟨rfl, _⟩ | ⟨a, len, cap, zs, rfl, _, hl, hm, hz, _, hcell, qJ⟩
 ·exact ⟨none, 0, [], rfl, by simp, by omega, fun j hj => by simp at hj, fun z hz => by cases hz⟩
 ·have hzl : len <= zs.length := by rw [hz]; split <;> omega
  refine ⟨some a, cap, zs.take len, by simp [hzl], by simp; omega, by simpa [maxLen] using hm, ?_, ?_⟩
  ·intro j hj
   have hj' : j < len := by simp at hj; omega
   obtain ⟨b, off, rfl, hcc⟩ := ints_at hcell (by omega); have hcj := hcc j (by omega); refine ⟨b, off, rfl, World.block_lt_of_cell? _ _ hcj, ?_⟩; rw [hcj]
   congr 2
   simp only [List.getD_eq_getElem?_getD, List.getElem?_take, hj', if_true]
  ·intro z hz'
   have := qJ z (List.mem_of_mem_take hz')
   simpa [Lit.wf, IntKind.min, IntKind.max, IntKind.signed, IntKind.bits] using this
end
end Go.Proofs.YtcamcgfbljhbhaaGreatDoor
