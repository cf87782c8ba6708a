/-
  Part 19 of the texts that the proof leans on.
-/
import Derived.Test.YtcamcgfbljhbhaaGreatDoorMan0
import Derived.Test.YtcamcgfbljhbhaaGreatDoorMan17
set_option linter.unusedVariables false
set_option linter.unusedSimpArgs false
set_option maxRecDepth 10000
set_option maxHeartbeats 20000000

namespace Go.Proofs.YtcamcgfbljhbhaaGreatDoor
open Go.RowKit Go.Maps
theorem H4 {g : Nat} {w : World} (hc : b5 w g) :
  Calls Tryz.prog 43 #[.pointer (some ⟨g, 0, none⟩)] w fun e w' => vQ w g 6 e w' := by
 obtain ⟨iT, Cl, hz0, hz1, hz2⟩ := info_parts Tryz.xT; have HI : Hid (_ /\ _ /\ _ /\ _) := ⟨Cl, hz0, hz1, hz2⟩
 clear Cl hz0 hz1 hz2; have iV := hc.lt; obtain ⟨w0, hw0⟩ : ∃ x, x = (w.alloc (.cells #[.int .i64 0, .int .i64 0, .slice none 0 0] 30)).alloc (.cells #[.int .i64 2, .int .i64 1, .slice none 0 0] 30) := ⟨_, rfl⟩
 have hx0 : Below w.heap.size w w0 := by rw [hw0]; exact (rB.alloc rN _).alloc (by simp) _
 obtain ⟨br, hbr⟩ : ∃ x, x = w.heap.size := ⟨_, rfl⟩
 obtain ⟨bm, Hz⟩ : ∃ x, x = w.heap.size + 1 := ⟨_, rfl⟩
 have cQ : Hid (Kt w g br bm) := ⟨iV, by omega, by omega, by omega⟩
 have Li : Hid (eJ w g br bm w0 2 1 (.slice none 0 0) []) := by
  refine ⟨hc.below hx0, aw.bz hx0, ?_, ?_, Ks _ _⟩
  ·rw [hw0, hbr]; exact (Bw.new _ _ _).alloc _
  ·rw [hw0]; exact Bw.dX _ _ _ (by rw [Hz]; simp)
 go_enter Tryz.func43, Tryz.ntmps43; go_wp2_with (rw [<- hw0, <- hbr, <- Hz])
 try rw [<- hw0]
 try rw [<- Hz]
 try rw [<- hbr]
 clear hw0 hx0 hbr Hz hc iV; refine (cz 6 Li.out.c).mono ?_; rintro e w1 ⟨x, rfl, hx, hc1, hg1⟩; have hx0 := hx.1; have eA : x < 6 := hx.2.2.1 (by omega); have MA := Hm (Li.out.cur cQ.out hg1 hc1); clear hx hc1 hg1 Li; go_wp2_with fail
 go_loopw [4] (fun iv wr => ∃ (i : Nat) (nx lg : Int) (v : Value) (l : List aT), iv = .int .i64 i /\ Hid (eJ w g br bm wr nx lg v l) /\ i + l.length <= 5 /\ 0 <= nx /\ nx + 2 * i <= 20 /\ 0 <= lg /\ lg <= 20) (fun iv _ => (intOf iv).toNat)
 case atStart => exact ⟨x.toNat, 2, 1, .slice none 0 0, [], by rw [show ((x.toNat : Nat) : Int) = x by omega], MA, by simp; omega, by omega, by omega, by omega, by omega⟩
 case round =>
  obtain ⟨i, nx, lg, v, l, rfl, HS, Jx, Ki, LP, hl0, sF⟩ := hrel; clear MA; obtain ⟨al, cl, rfl, _⟩ := HS.out.o.leaf
  by_cases hlt : 0 < i
  ·have Xk : (0 : Int) < (i : Int) := by omega
   obtain ⟨j, rfl⟩ : ∃ j, i = j + 1 := ⟨i - 1, by omega⟩
   go_wp2_with fail; refine (gz HS.out.c).mono ?_; rintro e w1' ⟨sa, ⟨rfl, Xl⟩, d8, hgx⟩; have Xm := Hm (HS.out.cur cQ.out hgx d8); clear d8 hgx HS; go_wp2_with fail; refine (gz Xm.out.c).mono ?_; rintro e w2 ⟨sb, ⟨rfl, OD⟩, d8, hgx⟩; have S1 := Hm (Xm.out.cur cQ.out hgx d8); clear d8 hgx Xm; have Ur : Hid True := Hm trivial
   go_upto_if 21 with fail
   go_cut [5, 6] (fun av bv wc => ∃ s1 s2 : ByteArray, av = .string s1 /\ bv = .string s2 /\ s1.size <= 20 /\ s2.size <= 20 /\ wc = w2)
   case first =>
    cases h1 : Op.bytesLess sa.toList sb.toList <;> cases h2 : (sa.toList == sb.toList)
    all_goals
     go_wp2_with fail
     go_meet
     case rel => first | exact ⟨sa, sb, rfl, rfl, Xl, OD, rfl⟩ | exact ⟨sb, sa, rfl, rfl, OD, Xl, rfl⟩
   case rest =>
    clear Xl OD; obtain ⟨s1, s2, rfl, rfl, hs1, hs2, rfl⟩ := hcut; have Ku := S1; clear S1; generalize wc = w2 at *
    go_upto_region 9 with fail
    go_cut [7] (fun xv wc => ∃ (gx : Nat) (I4 I5 : Int) (v' : Value) (l' : List aT), xv = .pointer (some ⟨gx, 0, none⟩) /\ Hid (Bv w g br bm wc nx lg (.slice al l.length cl) l gx I4 I5 v' l') /\ l'.length = l.length + 1 /\ I4 = nx + 2 /\ I5 = nx + 1)
    case first =>
     have k0 : ∀ W, Bw W bm 30 [.int .i64 nx, .int .i64 lg, .slice al l.length cl] -> W.cell? ⟨bm, 0, none⟩ = some (.int .i64 nx) := fun W h => h.cell 0 _ rfl
     have k2 : ∀ W, Bw W bm 30 [.int .i64 nx, .int .i64 lg, .slice al l.length cl] -> W.cell? ⟨bm, 2, none⟩ = some (.slice al l.length cl) := fun W h => h.cell 2 _ rfl
     have Kv : l.length <= 5 := by omega
     have Cu : IntKind.i64.wrap (nx + 2) = nx + 2 := by rw [IntKind.wrap_i64]; omega
     have km : IntKind.i64.wrap (nx + 1) = nx + 1 := by rw [IntKind.wrap_i64]; omega
     have AJ : (Lit.int .i64 nx).wf = true := WalkArith.wf_i64 (by omega); refine vE (fun W => Bw W bm 30 [.int .i64 nx, .int .i64 lg, .slice al l.length cl]) (Ku.out.m) (fun hZ => ?_); obtain ⟨wS, jU⟩ : ∃ wS, wS = w2.drew := ⟨_, rfl⟩
     have ie : Hid (eJ w g br bm wS nx lg (.slice al l.length cl) l) := by unfold Hid; rw [jU]; exact Ku.out.below (Below.drew rB)
     rw [<- jU] at hZ ⊢; obtain ⟨zS, RH⟩ : ∃ z, z = wS.heap.size := ⟨_, rfl⟩
     have LW : Hid (zS <= wS.heap.size) := by show _ <= _; omega
     have ud : Hid (br < zS /\ bm < zS) := by show _ /\ _; rw [RH]; exact ⟨ie.out.r.lt, ie.out.m.lt⟩
     have PO : Hid (w.heap.size <= zS) := by show _ <= _; have := ud.out.1; have := cQ.out.r; omega
     have UM : Hid (g < zS) := by show _ < _; have := PO.out; have := cQ.out.g; omega
     have Q0 : Hid (∀ k, (Value.slice al l.length cl).ownBlock = some k -> k < zS) := fun k hk => by rw [RH]; exact (ie.out.o.1.lt k hk).2
     obtain ⟨lY, MB⟩ : ∃ z, Hid (z = jq l) := ⟨_, Hm rfl⟩
     clear jU RH Ku; refine uq 0 ?_; refine uq 1 ?_; refine uq 2 ?_; refine uq 3 ?_; refine uq 4 ?_; refine uq 5 ?_; refine uq 7 ?_; refine uq 8 ?_; refine uq 10 ?_; refine uq 11 ?_; refine uq 12 ?_; refine uq 14 ?_; refine uq 15 ?_; refine lM [6, 20] ?_; refine (AllReadyH.cons (aM rfl) (fun K hK => ?_) (AllReadyH.cons (aM rfl) (fun K hK => ?_) AllReadyH.nil))
     ·go_simp
      have hD : eJ w g br bm wS nx lg (.slice al l.length cl) l := (by first | exact fZ.out | exact f9.out | exact iJ.out | exact jf.out | exact mb.out | exact tN.out | exact ie.out)
      obtain ⟨se, H5⟩ : ∃ x, x = wS.alloc (.cells (List.toArray []) 50) := ⟨_, rfl⟩
      have eA : Below wS.heap.size wS se := by rw [H5]; exact rB.alloc rN _
      have hzz : zS <= wS.heap.size := (by first | exact lG.out | exact LW.out)
      have Mj : se.ownsRow zS 50 4 (.slice (some ⟨wS.heap.size, 0, none⟩) 0 0) 0 [] := (by rw [H5]; exact NY _ _ hzz)
      obtain ⟨g6, Xn⟩ : ∃ g, Hid (g = wS.heap.size) := ⟨_, Hm rfl⟩
      rw [<- Xn.out] at Mj ⊢; rw [<- H5]; clear H5; have tN := Hm (hD.below eA)
      (try have yG := Hm (aA (show wS.ownsRow zS 50 4 (.slice (some ⟨g6, 0, none⟩) 0 0) 0 [] from (by first | exact lZ.out | exact sf.out | exact ou.out | exact sg.out | exact Bz.out | exact yG.out)) eA))
      (try have yF := Hm (aA (show wS.ownsRow zS 50 4 r9 l.length lY from (by first | exact gW.out | exact si.out | exact lp.out | exact oZ.out | exact qV.out | exact yF.out)) eA))
      (try have Cw := Hm ((show Bw wS g20 30 [.int .i64 0, .int .i64 0, .slice none 0 0] from (by first | exact fu.out | exact kM.out | exact jr.out | exact o5.out | exact yH.out | exact Cw.out)).under eA))
      have yG := Hm Mj; have Lr : Hid (zS <= se.heap.size) := Nat.le_trans hzz eA.size; have MC : True := trivial; clear Mj hzz hD eA; refine aL hK (tN.out.m) (fun hZ => ?_); clear hK K; refine lM [9, 20] ?_; refine (AllReadyH.cons (aM rfl) (fun K hK => ?_) (AllReadyH.cons (aM rfl) (fun K hK => ?_) AllReadyH.nil))
      ·skip
       have hD : eJ w g br bm se nx lg (.slice al l.length cl) l := (by first | exact fZ.out | exact f9.out | exact iJ.out | exact jf.out | exact mb.out | exact tN.out | exact ie.out)
       have hzz : zS <= se.heap.size := (by first | exact lG.out | exact Lr.out)
       have oA : se.ownsRow zS 50 4 (.slice (some ⟨g6, 0, none⟩) 0 0) 0 [] := (by first | exact lZ.out | exact yG.out)
       refine fc _ rfl _ _ 28 28 rfl zS 50 iT (.agg (List.toArray [.int .i64 0, .int .i64 0, .string ⟨List.toArray []⟩, .string ⟨List.toArray []⟩])) 4 48 Tryz.underlying28 HI.out.1 HI.out.2.1 HI.out.2.2.1 HI.out.2.2.2 rfl g6 rfl oA (.slice al l.length cl) rfl l.length lY (hD.o.src MB.out) (by unfold maxLen; omega) (by omega) hzz ?_; intro r9 cB Kw yI AR; have mb := Hm (hD.below yI)
       (try have Bz := Hm (aA (show se.ownsRow zS 50 4 (.slice (some ⟨g6, 0, none⟩) 0 0) 0 [] from (by first | exact lZ.out | exact sf.out | exact ou.out | exact sg.out | exact Bz.out | exact yG.out)) yI))
       (try have qV := Hm (aA (show se.ownsRow zS 50 4 r9 l.length lY from (by first | exact gW.out | exact si.out | exact lp.out | exact oZ.out | exact qV.out | exact yF.out)) yI))
       (try have yH := Hm ((show Bw se g20 30 [.int .i64 0, .int .i64 0, .slice none 0 0] from (by first | exact fu.out | exact kM.out | exact jr.out | exact o5.out | exact yH.out | exact Cw.out)).under yI))
       have qV := Hm Kw; have ue : Hid (zS <= cB.heap.size) := Nat.le_trans hzz yI.size; have o6 : True := trivial; clear Kw hzz hD yI AR oA; refine aL hK (mb.out.m) (fun hZ => ?_); clear hK K; refine lM [13, 20] ?_; refine (AllReadyH.cons (aM rfl) (fun K hK => ?_) (AllReadyH.cons (aM rfl) (fun K hK => ?_) AllReadyH.nil))
       ·go_simp
        have hD : eJ w g br bm cB nx lg (.slice al l.length cl) l := (by first | exact fZ.out | exact f9.out | exact iJ.out | exact jf.out | exact mb.out | exact tN.out | exact ie.out)
        have hzz : zS <= cB.heap.size := (by first | exact lG.out | exact ue.out)
        refine (cz 4 hD.c).mono ?_; rintro e dO ⟨tw, rfl, Ky, d8, hgx⟩; have sj : aw [g] cB dO := aw.eZ hgx (fun k hk => by simp at hk; simp [hk]); have PP : 0 <= tw /\ tw < 4 := (by have h := Ky.2.2.1 (by omega); omega)
        have hwt : (Lit.int .i64 tw).wf = true := WalkArith.wf_i64 (by omega); have jf := Hm (hD.cur cQ.out hgx d8); have Xo : g < zS := UM.out; have oZ := Hm (fQ (show cB.ownsRow zS 50 4 r9 l.length lY from (by first | exact gW.out | exact qV.out)) (fun k hk => sj.block k ((show cB.ownsRow zS 50 4 r9 l.length lY from (by first | exact gW.out | exact qV.out)).lt k hk).2 (by have := ((show cB.ownsRow zS 50 4 r9 l.length lY from (by first | exact gW.out | exact qV.out)).lt k hk).1; simp; omega)))
        (try have o5 := Hm ((show Bw cB g20 30 [.int .i64 0, .int .i64 0, .slice none 0 0] from (by first | exact fu.out | exact yH.out)).turn sj (by have := sk.out; simp; omega)))
        have tO : Hid (zS <= dO.heap.size) := Nat.le_trans hzz hgx.size; have Kz : True := trivial; clear hD hgx d8 Ky sj hzz; go_wp2_with fail; refine aL hK (jf.out.m) (fun hZ => ?_); clear hK K; refine uq 16 ?_; refine lM [17, 20] ?_; refine (AllReadyH.cons (aM rfl) (fun K hK => ?_) (AllReadyH.cons (aM rfl) (fun K hK => ?_) AllReadyH.nil))
        ·go_simp
         have hD : eJ w g br bm dO nx lg (.slice al l.length cl) l := (by first | exact fZ.out | exact f9.out | exact iJ.out | exact jf.out | exact mb.out | exact tN.out | exact ie.out)
         obtain ⟨dS, l4⟩ : ∃ x, x = dO.alloc (.cells (List.toArray [.int .i64 nx, .int .i64 tw, .string s1, .string s2]) 50) := ⟨_, rfl⟩
         have i6 : Below dO.heap.size dO dS := by rw [l4]; exact rB.alloc rN _
         have hzz : zS <= dO.heap.size := (by first | exact lG.out | exact tO.out)
         have o7 : Bx dS dO.heap.size [.int .i64 nx, .int .i64 tw, .string s1, .string s2] := (by rw [l4]; exact Bx.new _ _ _)
         obtain ⟨g17, A5⟩ : ∃ g, Hid (g = dO.heap.size) := ⟨_, Hm rfl⟩
         rw [<- A5.out] at o7 ⊢; rw [<- l4]; clear l4; have iJ := Hm (hD.below i6)
         (try have ou := Hm (aA (show dO.ownsRow zS 50 4 (.slice (some ⟨g6, 0, none⟩) 0 0) 0 [] from (by first | exact lZ.out | exact sf.out | exact ou.out | exact sg.out | exact Bz.out | exact yG.out)) i6))
         (try have lp := Hm (aA (show dO.ownsRow zS 50 4 r9 l.length lY from (by first | exact gW.out | exact si.out | exact lp.out | exact oZ.out | exact qV.out | exact yF.out)) i6))
         (try have jr := Hm ((show Bw dO g20 30 [.int .i64 0, .int .i64 0, .slice none 0 0] from (by first | exact fu.out | exact kM.out | exact jr.out | exact o5.out | exact yH.out | exact Cw.out)).under i6))
         have qW := Hm o7; have qX : Hid (zS <= dS.heap.size) := Nat.le_trans hzz i6.size; have FW : True := trivial; clear o7 hzz hD i6; refine aL hK (iJ.out.m) (fun hZ => ?_); clear hK K; refine lM [18, 20] ?_; refine (AllReadyH.cons (aM rfl) (fun K hK => ?_) (AllReadyH.cons (aM rfl) (fun K hK => ?_) AllReadyH.nil))
         ·skip
          have hD : eJ w g br bm dS nx lg (.slice al l.length cl) l := (by first | exact fZ.out | exact f9.out | exact iJ.out | exact jf.out | exact mb.out | exact tN.out | exact ie.out)
          have hzz : zS <= dS.heap.size := (by first | exact lG.out | exact qX.out)
          have ew : dS.ownsRow zS 50 4 r9 l.length lY := (by first | exact gW.out | exact lp.out)
          have uI : Bx dS g17 [.int .i64 nx, .int .i64 tw, .string s1, .string s2] := (by first | exact xU.out | exact qW.out)
          refine a6 _ rfl _ _ 28 28 rfl zS 50 iT (.agg (List.toArray [.int .i64 0, .int .i64 0, .string ⟨List.toArray []⟩, .string ⟨List.toArray []⟩])) 4 48 Tryz.underlying28 HI.out.1 HI.out.2.1 HI.out.2.2.1 HI.out.2.2.2 rfl r9 l.length lY rfl ew (.slice (some ⟨g17, 0, none⟩) 1 1) rfl 1 [.int .i64 nx, .int .i64 tw, .string s1, .string s2] (Src.ofSlice _ Tryz.underlying28 ⟨g17, 0, none⟩ 1 1 _ rfl (b8 uI) (by intro u hu; simp at hu; rcases hu with rfl | rfl | rfl | rfl <;> rfl)) (by unfold maxLen; omega) (by omega) hzz ?_; intro v18 fw mH j7 pZ; obtain ⟨ov, ow, rfl⟩ := bk mH; have Cx : ∀ k, r9.ownBlock = some k -> zS <= k := fun k hk => (ew.lt k hk).1
          have f9 := Hm (hD.row cQ.out j7 Cx ud.out.1 ud.out.2 Q0.out)
          (try have kM := Hm ((show Bw dS g20 30 [.int .i64 0, .int .i64 0, .slice none 0 0] from (by first | exact fu.out | exact jr.out)).turn (dE j7) (fun hm => ea (show Bw dS g20 30 _ from (by first | exact fu.out | exact jr.out)) ew (by decide) (by simpa using hm))))
          have p6 : Hid (eu fw w.heap.size (.slice ov (l.length + 1) ow) (l ++ [⟨nx, tw, s1, s2⟩])) := Hm (eu.snoc mH PO.out MB.out hD.o.2 ⟨AJ, hwt, hs1, hs2⟩); have xV : Hid (zS <= fw.heap.size) := Nat.le_trans hzz j7.size; have Cy : True := trivial; clear mH j7 pZ hzz hD ew uI Cx; refine aL hK (f9.out.m) (fun hZ => ?_); clear hK K; refine uq 19 ?_; refine bf 20 rfl fun K hK => ?_
          go_simp; have hD : eJ w g br bm fw nx lg (.slice al l.length cl) l := (by first | exact fZ.out | exact f9.out | exact iJ.out | exact jf.out | exact mb.out | exact tN.out | exact ie.out)
          obtain ⟨dH, j8⟩ : ∃ x, x = fw.alloc (.cells (List.toArray [.int .i64 0, .int .i64 0, .slice none 0 0]) 30) := ⟨_, rfl⟩
          have eQ : Below fw.heap.size fw dH := by rw [j8]; exact rB.alloc rN _
          have hzz : zS <= fw.heap.size := (by first | exact xV.out | exact qX.out | exact tO.out | exact ue.out | exact Lr.out | exact LW.out)
          have mI : Bw dH fw.heap.size 30 [.int .i64 0, .int .i64 0, .slice none 0 0] := (by rw [j8]; exact Bw.new _ _ _)
          obtain ⟨g20, p7⟩ : ∃ g, Hid (g = fw.heap.size) := ⟨_, Hm rfl⟩
          rw [<- p7.out] at mI ⊢; rw [<- j8]; clear j8; have fZ := Hm (hD.below eQ)
          (try have lZ := Hm (aA (show fw.ownsRow zS 50 4 (.slice (some ⟨g6, 0, none⟩) 0 0) 0 [] from (by first | exact lZ.out | exact sf.out | exact ou.out | exact sg.out | exact Bz.out | exact yG.out)) eQ))
          (try have gW := Hm (aA (show fw.ownsRow zS 50 4 r9 l.length lY from (by first | exact gW.out | exact si.out | exact lp.out | exact oZ.out | exact qV.out | exact yF.out)) eQ))
          (try have fu := Hm ((show Bw fw g20 30 [.int .i64 0, .int .i64 0, .slice none 0 0] from (by first | exact fu.out | exact kM.out | exact jr.out | exact o5.out | exact yH.out | exact Cw.out)).under eQ))
          (try have xW := Hm ((show eu fw w.heap.size (.slice ov (l.length + 1) ow) (l ++ [⟨nx, tw, s1, s2⟩]) from p6.out).turn (F := []) (aw.bz eQ) (fun k _ h => by cases h)))
          (try have xU := Hm ((show Bx fw g17 [.int .i64 nx, .int .i64 tw, .string s1, .string s2] from qW.out).under eQ))
          have fu := Hm mI; have sk : Hid (zS <= g20) := by show _ <= _; rw [p7.out]; exact hzz
          have lG : Hid (zS <= dH.heap.size) := Nat.le_trans hzz eQ.size; have Cz : True := trivial; clear mI hzz hD eQ; refine aL hK (fZ.out.m) (fun hZ => ?_); clear hK K; refine bf 21 rfl fun K hK => ?_
          go_simp; have j9 : Bw dH g20 30 [.int .i64 0, .int .i64 0, .slice none 0 0] := (by first | exact kM.out | exact fu.out)
          have hD : eJ w g br bm dH nx lg (.slice al l.length cl) l := (by first | exact fZ.out | exact f9.out)
          have hV : eu dH w.heap.size (.slice ov (l.length + 1) ow) (l ++ [⟨nx, tw, s1, s2⟩]) := (by first | exact xW.out | exact p6.out)
          have x0 := j9.cell 0 _ rfl; have x1 := j9.cell 1 _ rfl; have x2 := j9.cell 2 _ rfl; have e0 := j9.free 0; have e1 := j9.free 1; have e2 := j9.free 2; have le := j9.lt; go_simp; obtain ⟨xX, mJ⟩ : ∃ x, x = ((dH.setCell ⟨g20, 0, none⟩ (.int .i64 (nx + 2))).setCell ⟨g20, 1, none⟩ (.int .i64 (nx + 1))).setCell ⟨g20, 2, none⟩ (.slice ov (l.length + 1) ow) := ⟨_, rfl⟩
          have HE : Hid (Bv w g br bm xX nx lg (.slice al l.length cl) l g20 (nx + 2) (nx + 1) (.slice ov (l.length + 1) ow) (l ++ [⟨nx, tw, s1, s2⟩])) := by unfold Hid; rw [mJ]; exact Bv.made cQ.out hD j9 hV ud.out.1 ud.out.2 sk.out
          rw [<- mJ]; have CA : True := trivial; clear mJ x0 x1 x2 e0 e1 e2 le j9 hD hV; refine aL hK (HE.out.s.m) (fun hZ => ?_); clear hK K; refine dC ?_; go_wp2_with fail
          go_meet
          case rel => exact ⟨g20, nx + 2, nx + 1, (.slice ov (l.length + 1) ow), l ++ [⟨nx, tw, s1, s2⟩], rfl, HE, by simp, rfl, rfl⟩
         ·go_simp
          have hD : eJ w g br bm dS nx lg (.slice al l.length cl) l := (by first | exact fZ.out | exact f9.out | exact iJ.out | exact jf.out | exact mb.out | exact tN.out | exact ie.out)
          obtain ⟨dH, j8⟩ : ∃ x, x = dS.alloc (.cells (List.toArray [.int .i64 0, .int .i64 0, .slice none 0 0]) 30) := ⟨_, rfl⟩
          have eQ : Below dS.heap.size dS dH := by rw [j8]; exact rB.alloc rN _
          have hzz : zS <= dS.heap.size := (by first | exact xV.out | exact qX.out | exact tO.out | exact ue.out | exact Lr.out | exact LW.out)
          have mI : Bw dH dS.heap.size 30 [.int .i64 0, .int .i64 0, .slice none 0 0] := (by rw [j8]; exact Bw.new _ _ _)
          obtain ⟨g20, p7⟩ : ∃ g, Hid (g = dS.heap.size) := ⟨_, Hm rfl⟩
          rw [<- p7.out] at mI ⊢; rw [<- j8]; clear j8; have fZ := Hm (hD.below eQ)
          (try have lZ := Hm (aA (show dS.ownsRow zS 50 4 (.slice (some ⟨g6, 0, none⟩) 0 0) 0 [] from (by first | exact lZ.out | exact sf.out | exact ou.out | exact sg.out | exact Bz.out | exact yG.out)) eQ))
          (try have gW := Hm (aA (show dS.ownsRow zS 50 4 r9 l.length lY from (by first | exact gW.out | exact si.out | exact lp.out | exact oZ.out | exact qV.out | exact yF.out)) eQ))
          (try have fu := Hm ((show Bw dS g20 30 [.int .i64 0, .int .i64 0, .slice none 0 0] from (by first | exact fu.out | exact kM.out | exact jr.out | exact o5.out | exact yH.out | exact Cw.out)).under eQ))
          (try have xW := Hm ((show eu dS w.heap.size (.slice ov (l.length + 1) ow) (l ++ [⟨nx, tw, s1, s2⟩]) from p6.out).turn (F := []) (aw.bz eQ) (fun k _ h => by cases h)))
          (try have xU := Hm ((show Bx dS g17 [.int .i64 nx, .int .i64 tw, .string s1, .string s2] from qW.out).under eQ))
          have fu := Hm mI; have sk : Hid (zS <= g20) := by show _ <= _; rw [p7.out]; exact hzz
          have lG : Hid (zS <= dH.heap.size) := Nat.le_trans hzz eQ.size; have Cz : True := trivial; clear mI hzz hD eQ; refine aL hK (fZ.out.m) (fun hZ => ?_); clear hK K; refine bf 18 rfl fun K hK => ?_
          have hD : eJ w g br bm dH nx lg (.slice al l.length cl) l := (by first | exact fZ.out | exact f9.out | exact iJ.out | exact jf.out | exact mb.out | exact tN.out | exact ie.out)
          have hzz : zS <= dH.heap.size := (by first | exact lG.out | exact qX.out)
          have ew : dH.ownsRow zS 50 4 r9 l.length lY := (by first | exact gW.out | exact lp.out)
          have uI : Bx dH g17 [.int .i64 nx, .int .i64 tw, .string s1, .string s2] := (by first | exact xU.out | exact qW.out)
          refine a6 _ rfl _ _ 28 28 rfl zS 50 iT (.agg (List.toArray [.int .i64 0, .int .i64 0, .string ⟨List.toArray []⟩, .string ⟨List.toArray []⟩])) 4 48 Tryz.underlying28 HI.out.1 HI.out.2.1 HI.out.2.2.1 HI.out.2.2.2 rfl r9 l.length lY rfl ew (.slice (some ⟨g17, 0, none⟩) 1 1) rfl 1 [.int .i64 nx, .int .i64 tw, .string s1, .string s2] (Src.ofSlice _ Tryz.underlying28 ⟨g17, 0, none⟩ 1 1 _ rfl (b8 uI) (by intro u hu; simp at hu; rcases hu with rfl | rfl | rfl | rfl <;> rfl)) (by unfold maxLen; omega) (by omega) hzz ?_; intro v18 fw mH j7 pZ; obtain ⟨ov, ow, rfl⟩ := bk mH; have Cx : ∀ k, r9.ownBlock = some k -> zS <= k := fun k hk => (ew.lt k hk).1
          have f9 := Hm (hD.row cQ.out j7 Cx ud.out.1 ud.out.2 Q0.out)
          (try have kM := Hm ((show Bw dH g20 30 [.int .i64 0, .int .i64 0, .slice none 0 0] from (by first | exact fu.out | exact jr.out)).turn (dE j7) (fun hm => ea (show Bw dH g20 30 _ from (by first | exact fu.out | exact jr.out)) ew (by decide) (by simpa using hm))))
          have p6 : Hid (eu fw w.heap.size (.slice ov (l.length + 1) ow) (l ++ [⟨nx, tw, s1, s2⟩])) := Hm (eu.snoc mH PO.out MB.out hD.o.2 ⟨AJ, hwt, hs1, hs2⟩); have xV : Hid (zS <= fw.heap.size) := Nat.le_trans hzz j7.size; have Cy : True := trivial; clear mH j7 pZ hzz hD ew uI Cx; refine aL hK (f9.out.m) (fun hZ => ?_); clear hK K; refine uq 19 ?_; refine bf 21 rfl fun K hK => ?_
          go_simp; have j9 : Bw fw g20 30 [.int .i64 0, .int .i64 0, .slice none 0 0] := (by first | exact kM.out | exact fu.out)
          have hD : eJ w g br bm fw nx lg (.slice al l.length cl) l := (by first | exact fZ.out | exact f9.out)
          have hV : eu fw w.heap.size (.slice ov (l.length + 1) ow) (l ++ [⟨nx, tw, s1, s2⟩]) := (by first | exact xW.out | exact p6.out)
          have x0 := j9.cell 0 _ rfl; have x1 := j9.cell 1 _ rfl; have x2 := j9.cell 2 _ rfl; have e0 := j9.free 0; have e1 := j9.free 1; have e2 := j9.free 2; have le := j9.lt; go_simp; obtain ⟨xX, mJ⟩ : ∃ x, x = ((fw.setCell ⟨g20, 0, none⟩ (.int .i64 (nx + 2))).setCell ⟨g20, 1, none⟩ (.int .i64 (nx + 1))).setCell ⟨g20, 2, none⟩ (.slice ov (l.length + 1) ow) := ⟨_, rfl⟩
          have HE : Hid (Bv w g br bm xX nx lg (.slice al l.length cl) l g20 (nx + 2) (nx + 1) (.slice ov (l.length + 1) ow) (l ++ [⟨nx, tw, s1, s2⟩])) := by unfold Hid; rw [mJ]; exact Bv.made cQ.out hD j9 hV ud.out.1 ud.out.2 sk.out
          rw [<- mJ]; have CA : True := trivial; clear mJ x0 x1 x2 e0 e1 e2 le j9 hD hV; refine aL hK (HE.out.s.m) (fun hZ => ?_); clear hK K; refine dC ?_; go_wp2_with fail
          go_meet
          case rel => exact ⟨g20, nx + 2, nx + 1, (.slice ov (l.length + 1) ow), l ++ [⟨nx, tw, s1, s2⟩], rfl, HE, by simp, rfl, rfl⟩
        ·go_simp
         have hD : eJ w g br bm dO nx lg (.slice al l.length cl) l := (by first | exact fZ.out | exact f9.out | exact iJ.out | exact jf.out | exact mb.out | exact tN.out | exact ie.out)
         obtain ⟨dH, j8⟩ : ∃ x, x = dO.alloc (.cells (List.toArray [.int .i64 0, .int .i64 0, .slice none 0 0]) 30) := ⟨_, rfl⟩
         have eQ : Below dO.heap.size dO dH := by rw [j8]; exact rB.alloc rN _
         have hzz : zS <= dO.heap.size := (by first | exact xV.out | exact qX.out | exact tO.out | exact ue.out | exact Lr.out | exact LW.out)
         have mI : Bw dH dO.heap.size 30 [.int .i64 0, .int .i64 0, .slice none 0 0] := (by rw [j8]; exact Bw.new _ _ _)
         obtain ⟨g20, p7⟩ : ∃ g, Hid (g = dO.heap.size) := ⟨_, Hm rfl⟩
         rw [<- p7.out] at mI ⊢; rw [<- j8]; clear j8; have fZ := Hm (hD.below eQ)
         (try have lZ := Hm (aA (show dO.ownsRow zS 50 4 (.slice (some ⟨g6, 0, none⟩) 0 0) 0 [] from (by first | exact lZ.out | exact sf.out | exact ou.out | exact sg.out | exact Bz.out | exact yG.out)) eQ))
         (try have gW := Hm (aA (show dO.ownsRow zS 50 4 r9 l.length lY from (by first | exact gW.out | exact si.out | exact lp.out | exact oZ.out | exact qV.out | exact yF.out)) eQ))
         (try have fu := Hm ((show Bw dO g20 30 [.int .i64 0, .int .i64 0, .slice none 0 0] from (by first | exact fu.out | exact kM.out | exact jr.out | exact o5.out | exact yH.out | exact Cw.out)).under eQ))
         (try have xW := Hm ((show eu dO w.heap.size (.slice ov (l.length + 1) ow) (l ++ [⟨nx, tw, s1, s2⟩]) from p6.out).turn (F := []) (aw.bz eQ) (fun k _ h => by cases h)))
         (try have xU := Hm ((show Bx dO g17 [.int .i64 nx, .int .i64 tw, .string s1, .string s2] from qW.out).under eQ))
         have fu := Hm mI; have sk : Hid (zS <= g20) := by show _ <= _; rw [p7.out]; exact hzz
         have lG : Hid (zS <= dH.heap.size) := Nat.le_trans hzz eQ.size; have Cz : True := trivial; clear mI hzz hD eQ; refine aL hK (fZ.out.m) (fun hZ => ?_); clear hK K; refine bf 17 rfl fun K hK => ?_
         go_simp; have hD : eJ w g br bm dH nx lg (.slice al l.length cl) l := (by first | exact fZ.out | exact f9.out | exact iJ.out | exact jf.out | exact mb.out | exact tN.out | exact ie.out)
         obtain ⟨dS, l4⟩ : ∃ x, x = dH.alloc (.cells (List.toArray [.int .i64 nx, .int .i64 tw, .string s1, .string s2]) 50) := ⟨_, rfl⟩
         have i6 : Below dH.heap.size dH dS := by rw [l4]; exact rB.alloc rN _
         have hzz : zS <= dH.heap.size := (by first | exact lG.out | exact tO.out)
         have o7 : Bx dS dH.heap.size [.int .i64 nx, .int .i64 tw, .string s1, .string s2] := (by rw [l4]; exact Bx.new _ _ _)
         obtain ⟨g17, A5⟩ : ∃ g, Hid (g = dH.heap.size) := ⟨_, Hm rfl⟩
         rw [<- A5.out] at o7 ⊢; rw [<- l4]; clear l4; have iJ := Hm (hD.below i6)
         (try have ou := Hm (aA (show dH.ownsRow zS 50 4 (.slice (some ⟨g6, 0, none⟩) 0 0) 0 [] from (by first | exact lZ.out | exact sf.out | exact ou.out | exact sg.out | exact Bz.out | exact yG.out)) i6))
         (try have lp := Hm (aA (show dH.ownsRow zS 50 4 r9 l.length lY from (by first | exact gW.out | exact si.out | exact lp.out | exact oZ.out | exact qV.out | exact yF.out)) i6))
         (try have jr := Hm ((show Bw dH g20 30 [.int .i64 0, .int .i64 0, .slice none 0 0] from (by first | exact fu.out | exact kM.out | exact jr.out | exact o5.out | exact yH.out | exact Cw.out)).under i6))
         have qW := Hm o7; have qX : Hid (zS <= dS.heap.size) := Nat.le_trans hzz i6.size; have FW : True := trivial; clear o7 hzz hD i6; refine aL hK (iJ.out.m) (fun hZ => ?_); clear hK K; refine bf 18 rfl fun K hK => ?_
         have hD : eJ w g br bm dS nx lg (.slice al l.length cl) l := (by first | exact fZ.out | exact f9.out | exact iJ.out | exact jf.out | exact mb.out | exact tN.out | exact ie.out)
         have hzz : zS <= dS.heap.size := (by first | exact lG.out | exact qX.out)
         have ew : dS.ownsRow zS 50 4 r9 l.length lY := (by first | exact gW.out | exact lp.out)
         have uI : Bx dS g17 [.int .i64 nx, .int .i64 tw, .string s1, .string s2] := (by first | exact xU.out | exact qW.out)
         refine a6 _ rfl _ _ 28 28 rfl zS 50 iT (.agg (List.toArray [.int .i64 0, .int .i64 0, .string ⟨List.toArray []⟩, .string ⟨List.toArray []⟩])) 4 48 Tryz.underlying28 HI.out.1 HI.out.2.1 HI.out.2.2.1 HI.out.2.2.2 rfl r9 l.length lY rfl ew (.slice (some ⟨g17, 0, none⟩) 1 1) rfl 1 [.int .i64 nx, .int .i64 tw, .string s1, .string s2] (Src.ofSlice _ Tryz.underlying28 ⟨g17, 0, none⟩ 1 1 _ rfl (b8 uI) (by intro u hu; simp at hu; rcases hu with rfl | rfl | rfl | rfl <;> rfl)) (by unfold maxLen; omega) (by omega) hzz ?_; intro v18 fw mH j7 pZ; obtain ⟨ov, ow, rfl⟩ := bk mH; have Cx : ∀ k, r9.ownBlock = some k -> zS <= k := fun k hk => (ew.lt k hk).1
         have f9 := Hm (hD.row cQ.out j7 Cx ud.out.1 ud.out.2 Q0.out)
         (try have kM := Hm ((show Bw dS g20 30 [.int .i64 0, .int .i64 0, .slice none 0 0] from (by first | exact fu.out | exact jr.out)).turn (dE j7) (fun hm => ea (show Bw dS g20 30 _ from (by first | exact fu.out | exact jr.out)) ew (by decide) (by simpa using hm))))
         have p6 : Hid (eu fw w.heap.size (.slice ov (l.length + 1) ow) (l ++ [⟨nx, tw, s1, s2⟩])) := Hm (eu.snoc mH PO.out MB.out hD.o.2 ⟨AJ, hwt, hs1, hs2⟩); have xV : Hid (zS <= fw.heap.size) := Nat.le_trans hzz j7.size; have Cy : True := trivial; clear mH j7 pZ hzz hD ew uI Cx; refine aL hK (f9.out.m) (fun hZ => ?_); clear hK K; refine uq 19 ?_; refine bf 21 rfl fun K hK => ?_
         go_simp; have j9 : Bw fw g20 30 [.int .i64 0, .int .i64 0, .slice none 0 0] := (by first | exact kM.out | exact fu.out)
         have hD : eJ w g br bm fw nx lg (.slice al l.length cl) l := (by first | exact fZ.out | exact f9.out)
         have hV : eu fw w.heap.size (.slice ov (l.length + 1) ow) (l ++ [⟨nx, tw, s1, s2⟩]) := (by first | exact xW.out | exact p6.out)
         have x0 := j9.cell 0 _ rfl; have x1 := j9.cell 1 _ rfl; have x2 := j9.cell 2 _ rfl; have e0 := j9.free 0; have e1 := j9.free 1; have e2 := j9.free 2; have le := j9.lt; go_simp; obtain ⟨xX, mJ⟩ : ∃ x, x = ((fw.setCell ⟨g20, 0, none⟩ (.int .i64 (nx + 2))).setCell ⟨g20, 1, none⟩ (.int .i64 (nx + 1))).setCell ⟨g20, 2, none⟩ (.slice ov (l.length + 1) ow) := ⟨_, rfl⟩
         have HE : Hid (Bv w g br bm xX nx lg (.slice al l.length cl) l g20 (nx + 2) (nx + 1) (.slice ov (l.length + 1) ow) (l ++ [⟨nx, tw, s1, s2⟩])) := by unfold Hid; rw [mJ]; exact Bv.made cQ.out hD j9 hV ud.out.1 ud.out.2 sk.out
         rw [<- mJ]; have CA : True := trivial; clear mJ x0 x1 x2 e0 e1 e2 le j9 hD hV; refine aL hK (HE.out.s.m) (fun hZ => ?_); clear hK K; refine dC ?_; go_wp2_with fail
         go_meet
         case rel => exact ⟨g20, nx + 2, nx + 1, (.slice ov (l.length + 1) ow), l ++ [⟨nx, tw, s1, s2⟩], rfl, HE, by simp, rfl, rfl⟩
       ·go_simp
        have hD : eJ w g br bm cB nx lg (.slice al l.length cl) l := (by first | exact fZ.out | exact f9.out | exact iJ.out | exact jf.out | exact mb.out | exact tN.out | exact ie.out)
        obtain ⟨dH, j8⟩ : ∃ x, x = cB.alloc (.cells (List.toArray [.int .i64 0, .int .i64 0, .slice none 0 0]) 30) := ⟨_, rfl⟩
        have eQ : Below cB.heap.size cB dH := by rw [j8]; exact rB.alloc rN _
        have hzz : zS <= cB.heap.size := (by first | exact xV.out | exact qX.out | exact tO.out | exact ue.out | exact Lr.out | exact LW.out)
        have mI : Bw dH cB.heap.size 30 [.int .i64 0, .int .i64 0, .slice none 0 0] := (by rw [j8]; exact Bw.new _ _ _)
        obtain ⟨g20, p7⟩ : ∃ g, Hid (g = cB.heap.size) := ⟨_, Hm rfl⟩
        rw [<- p7.out] at mI ⊢; rw [<- j8]; clear j8; have fZ := Hm (hD.below eQ)
        (try have lZ := Hm (aA (show cB.ownsRow zS 50 4 (.slice (some ⟨g6, 0, none⟩) 0 0) 0 [] from (by first | exact lZ.out | exact sf.out | exact ou.out | exact sg.out | exact Bz.out | exact yG.out)) eQ))
        (try have gW := Hm (aA (show cB.ownsRow zS 50 4 r9 l.length lY from (by first | exact gW.out | exact si.out | exact lp.out | exact oZ.out | exact qV.out | exact yF.out)) eQ))
        (try have fu := Hm ((show Bw cB g20 30 [.int .i64 0, .int .i64 0, .slice none 0 0] from (by first | exact fu.out | exact kM.out | exact jr.out | exact o5.out | exact yH.out | exact Cw.out)).under eQ))
        (try have xW := Hm ((show eu cB w.heap.size (.slice ov (l.length + 1) ow) (l ++ [⟨nx, tw, s1, s2⟩]) from p6.out).turn (F := []) (aw.bz eQ) (fun k _ h => by cases h)))
        (try have xU := Hm ((show Bx cB g17 [.int .i64 nx, .int .i64 tw, .string s1, .string s2] from qW.out).under eQ))
        have fu := Hm mI; have sk : Hid (zS <= g20) := by show _ <= _; rw [p7.out]; exact hzz
        have lG : Hid (zS <= dH.heap.size) := Nat.le_trans hzz eQ.size; have Cz : True := trivial; clear mI hzz hD eQ; refine aL hK (fZ.out.m) (fun hZ => ?_); clear hK K; refine bf 13 rfl fun K hK => ?_
        go_simp; have hD : eJ w g br bm dH nx lg (.slice al l.length cl) l := (by first | exact fZ.out | exact f9.out | exact iJ.out | exact jf.out | exact mb.out | exact tN.out | exact ie.out)
        have hzz : zS <= dH.heap.size := (by first | exact lG.out | exact ue.out)
        refine (cz 4 hD.c).mono ?_; rintro e dO ⟨tw, rfl, Ky, d8, hgx⟩; have sj : aw [g] dH dO := aw.eZ hgx (fun k hk => by simp at hk; simp [hk]); have PP : 0 <= tw /\ tw < 4 := (by have h := Ky.2.2.1 (by omega); omega)
        have hwt : (Lit.int .i64 tw).wf = true := WalkArith.wf_i64 (by omega); have jf := Hm (hD.cur cQ.out hgx d8); have Xo : g < zS := UM.out; have oZ := Hm (fQ (show dH.ownsRow zS 50 4 r9 l.length lY from (by first | exact gW.out | exact qV.out)) (fun k hk => sj.block k ((show dH.ownsRow zS 50 4 r9 l.length lY from (by first | exact gW.out | exact qV.out)).lt k hk).2 (by have := ((show dH.ownsRow zS 50 4 r9 l.length lY from (by first | exact gW.out | exact qV.out)).lt k hk).1; simp; omega)))
        (try have o5 := Hm ((show Bw dH g20 30 [.int .i64 0, .int .i64 0, .slice none 0 0] from (by first | exact fu.out | exact yH.out)).turn sj (by have := sk.out; simp; omega)))
        have tO : Hid (zS <= dO.heap.size) := Nat.le_trans hzz hgx.size; have Kz : True := trivial; clear hD hgx d8 Ky sj hzz; go_wp2_with fail; refine aL hK (jf.out.m) (fun hZ => ?_); clear hK K; refine uq 16 ?_; refine bf 17 rfl fun K hK => ?_
        go_simp; have hD : eJ w g br bm dO nx lg (.slice al l.length cl) l := (by first | exact fZ.out | exact f9.out | exact iJ.out | exact jf.out | exact mb.out | exact tN.out | exact ie.out)
        obtain ⟨dS, l4⟩ : ∃ x, x = dO.alloc (.cells (List.toArray [.int .i64 nx, .int .i64 tw, .string s1, .string s2]) 50) := ⟨_, rfl⟩
        have i6 : Below dO.heap.size dO dS := by rw [l4]; exact rB.alloc rN _
        have hzz : zS <= dO.heap.size := (by first | exact lG.out | exact tO.out)
        have o7 : Bx dS dO.heap.size [.int .i64 nx, .int .i64 tw, .string s1, .string s2] := (by rw [l4]; exact Bx.new _ _ _)
        obtain ⟨g17, A5⟩ : ∃ g, Hid (g = dO.heap.size) := ⟨_, Hm rfl⟩
        rw [<- A5.out] at o7 ⊢; rw [<- l4]; clear l4; have iJ := Hm (hD.below i6)
        (try have ou := Hm (aA (show dO.ownsRow zS 50 4 (.slice (some ⟨g6, 0, none⟩) 0 0) 0 [] from (by first | exact lZ.out | exact sf.out | exact ou.out | exact sg.out | exact Bz.out | exact yG.out)) i6))
        (try have lp := Hm (aA (show dO.ownsRow zS 50 4 r9 l.length lY from (by first | exact gW.out | exact si.out | exact lp.out | exact oZ.out | exact qV.out | exact yF.out)) i6))
        (try have jr := Hm ((show Bw dO g20 30 [.int .i64 0, .int .i64 0, .slice none 0 0] from (by first | exact fu.out | exact kM.out | exact jr.out | exact o5.out | exact yH.out | exact Cw.out)).under i6))
        have qW := Hm o7; have qX : Hid (zS <= dS.heap.size) := Nat.le_trans hzz i6.size; have FW : True := trivial; clear o7 hzz hD i6; refine aL hK (iJ.out.m) (fun hZ => ?_); clear hK K; refine bf 18 rfl fun K hK => ?_
        have hD : eJ w g br bm dS nx lg (.slice al l.length cl) l := (by first | exact fZ.out | exact f9.out | exact iJ.out | exact jf.out | exact mb.out | exact tN.out | exact ie.out)
        have hzz : zS <= dS.heap.size := (by first | exact lG.out | exact qX.out)
        have ew : dS.ownsRow zS 50 4 r9 l.length lY := (by first | exact gW.out | exact lp.out)
        have uI : Bx dS g17 [.int .i64 nx, .int .i64 tw, .string s1, .string s2] := (by first | exact xU.out | exact qW.out)
        refine a6 _ rfl _ _ 28 28 rfl zS 50 iT (.agg (List.toArray [.int .i64 0, .int .i64 0, .string ⟨List.toArray []⟩, .string ⟨List.toArray []⟩])) 4 48 Tryz.underlying28 HI.out.1 HI.out.2.1 HI.out.2.2.1 HI.out.2.2.2 rfl r9 l.length lY rfl ew (.slice (some ⟨g17, 0, none⟩) 1 1) rfl 1 [.int .i64 nx, .int .i64 tw, .string s1, .string s2] (Src.ofSlice _ Tryz.underlying28 ⟨g17, 0, none⟩ 1 1 _ rfl (b8 uI) (by intro u hu; simp at hu; rcases hu with rfl | rfl | rfl | rfl <;> rfl)) (by unfold maxLen; omega) (by omega) hzz ?_; intro v18 fw mH j7 pZ; obtain ⟨ov, ow, rfl⟩ := bk mH; have Cx : ∀ k, r9.ownBlock = some k -> zS <= k := fun k hk => (ew.lt k hk).1
        have f9 := Hm (hD.row cQ.out j7 Cx ud.out.1 ud.out.2 Q0.out)
        (try have kM := Hm ((show Bw dS g20 30 [.int .i64 0, .int .i64 0, .slice none 0 0] from (by first | exact fu.out | exact jr.out)).turn (dE j7) (fun hm => ea (show Bw dS g20 30 _ from (by first | exact fu.out | exact jr.out)) ew (by decide) (by simpa using hm))))
        have p6 : Hid (eu fw w.heap.size (.slice ov (l.length + 1) ow) (l ++ [⟨nx, tw, s1, s2⟩])) := Hm (eu.snoc mH PO.out MB.out hD.o.2 ⟨AJ, hwt, hs1, hs2⟩); have xV : Hid (zS <= fw.heap.size) := Nat.le_trans hzz j7.size; have Cy : True := trivial; clear mH j7 pZ hzz hD ew uI Cx; refine aL hK (f9.out.m) (fun hZ => ?_); clear hK K; refine uq 19 ?_; refine bf 21 rfl fun K hK => ?_
        go_simp; have j9 : Bw fw g20 30 [.int .i64 0, .int .i64 0, .slice none 0 0] := (by first | exact kM.out | exact fu.out)
        have hD : eJ w g br bm fw nx lg (.slice al l.length cl) l := (by first | exact fZ.out | exact f9.out)
        have hV : eu fw w.heap.size (.slice ov (l.length + 1) ow) (l ++ [⟨nx, tw, s1, s2⟩]) := (by first | exact xW.out | exact p6.out)
        have x0 := j9.cell 0 _ rfl; have x1 := j9.cell 1 _ rfl; have x2 := j9.cell 2 _ rfl; have e0 := j9.free 0; have e1 := j9.free 1; have e2 := j9.free 2; have le := j9.lt; go_simp; obtain ⟨xX, mJ⟩ : ∃ x, x = ((fw.setCell ⟨g20, 0, none⟩ (.int .i64 (nx + 2))).setCell ⟨g20, 1, none⟩ (.int .i64 (nx + 1))).setCell ⟨g20, 2, none⟩ (.slice ov (l.length + 1) ow) := ⟨_, rfl⟩
        have HE : Hid (Bv w g br bm xX nx lg (.slice al l.length cl) l g20 (nx + 2) (nx + 1) (.slice ov (l.length + 1) ow) (l ++ [⟨nx, tw, s1, s2⟩])) := by unfold Hid; rw [mJ]; exact Bv.made cQ.out hD j9 hV ud.out.1 ud.out.2 sk.out
        rw [<- mJ]; have CA : True := trivial; clear mJ x0 x1 x2 e0 e1 e2 le j9 hD hV; refine aL hK (HE.out.s.m) (fun hZ => ?_); clear hK K; refine dC ?_; go_wp2_with fail
        go_meet
        case rel => exact ⟨g20, nx + 2, nx + 1, (.slice ov (l.length + 1) ow), l ++ [⟨nx, tw, s1, s2⟩], rfl, HE, by simp, rfl, rfl⟩
      ·go_simp
       have hD : eJ w g br bm se nx lg (.slice al l.length cl) l := (by first | exact fZ.out | exact f9.out | exact iJ.out | exact jf.out | exact mb.out | exact tN.out | exact ie.out)
       obtain ⟨dH, j8⟩ : ∃ x, x = se.alloc (.cells (List.toArray [.int .i64 0, .int .i64 0, .slice none 0 0]) 30) := ⟨_, rfl⟩
       have eQ : Below se.heap.size se dH := by rw [j8]; exact rB.alloc rN _
       have hzz : zS <= se.heap.size := (by first | exact xV.out | exact qX.out | exact tO.out | exact ue.out | exact Lr.out | exact LW.out)
       have mI : Bw dH se.heap.size 30 [.int .i64 0, .int .i64 0, .slice none 0 0] := (by rw [j8]; exact Bw.new _ _ _)
       obtain ⟨g20, p7⟩ : ∃ g, Hid (g = se.heap.size) := ⟨_, Hm rfl⟩
       rw [<- p7.out] at mI ⊢; rw [<- j8]; clear j8; have fZ := Hm (hD.below eQ)
       (try have lZ := Hm (aA (show se.ownsRow zS 50 4 (.slice (some ⟨g6, 0, none⟩) 0 0) 0 [] from (by first | exact lZ.out | exact sf.out | exact ou.out | exact sg.out | exact Bz.out | exact yG.out)) eQ))
       (try have gW := Hm (aA (show se.ownsRow zS 50 4 r9 l.length lY from (by first | exact gW.out | exact si.out | exact lp.out | exact oZ.out | exact qV.out | exact yF.out)) eQ))
       (try have fu := Hm ((show Bw se g20 30 [.int .i64 0, .int .i64 0, .slice none 0 0] from (by first | exact fu.out | exact kM.out | exact jr.out | exact o5.out | exact yH.out | exact Cw.out)).under eQ))
       (try have xW := Hm ((show eu se w.heap.size (.slice ov (l.length + 1) ow) (l ++ [⟨nx, tw, s1, s2⟩]) from p6.out).turn (F := []) (aw.bz eQ) (fun k _ h => by cases h)))
       (try have xU := Hm ((show Bx se g17 [.int .i64 nx, .int .i64 tw, .string s1, .string s2] from qW.out).under eQ))
       have fu := Hm mI; have sk : Hid (zS <= g20) := by show _ <= _; rw [p7.out]; exact hzz
       have lG : Hid (zS <= dH.heap.size) := Nat.le_trans hzz eQ.size; have Cz : True := trivial; clear mI hzz hD eQ; refine aL hK (fZ.out.m) (fun hZ => ?_); clear hK K; refine bf 9 rfl fun K hK => ?_
       have hD : eJ w g br bm dH nx lg (.slice al l.length cl) l := (by first | exact fZ.out | exact f9.out | exact iJ.out | exact jf.out | exact mb.out | exact tN.out | exact ie.out)
       have hzz : zS <= dH.heap.size := (by first | exact lG.out | exact Lr.out)
       have oA : dH.ownsRow zS 50 4 (.slice (some ⟨g6, 0, none⟩) 0 0) 0 [] := (by first | exact lZ.out | exact yG.out)
       refine fc _ rfl _ _ 28 28 rfl zS 50 iT (.agg (List.toArray [.int .i64 0, .int .i64 0, .string ⟨List.toArray []⟩, .string ⟨List.toArray []⟩])) 4 48 Tryz.underlying28 HI.out.1 HI.out.2.1 HI.out.2.2.1 HI.out.2.2.2 rfl g6 rfl oA (.slice al l.length cl) rfl l.length lY (hD.o.src MB.out) (by unfold maxLen; omega) (by omega) hzz ?_; intro r9 cB Kw yI AR; have mb := Hm (hD.below yI)
       (try have Bz := Hm (aA (show dH.ownsRow zS 50 4 (.slice (some ⟨g6, 0, none⟩) 0 0) 0 [] from (by first | exact lZ.out | exact sf.out | exact ou.out | exact sg.out | exact Bz.out | exact yG.out)) yI))
       (try have qV := Hm (aA (show dH.ownsRow zS 50 4 r9 l.length lY from (by first | exact gW.out | exact si.out | exact lp.out | exact oZ.out | exact qV.out | exact yF.out)) yI))
       (try have yH := Hm ((show Bw dH g20 30 [.int .i64 0, .int .i64 0, .slice none 0 0] from (by first | exact fu.out | exact kM.out | exact jr.out | exact o5.out | exact yH.out | exact Cw.out)).under yI))
       have qV := Hm Kw; have ue : Hid (zS <= cB.heap.size) := Nat.le_trans hzz yI.size; have o6 : True := trivial; clear Kw hzz hD yI AR oA; refine aL hK (mb.out.m) (fun hZ => ?_); clear hK K; refine bf 13 rfl fun K hK => ?_
       go_simp; have hD : eJ w g br bm cB nx lg (.slice al l.length cl) l := (by first | exact fZ.out | exact f9.out | exact iJ.out | exact jf.out | exact mb.out | exact tN.out | exact ie.out)
       have hzz : zS <= cB.heap.size := (by first | exact lG.out | exact ue.out)
       refine (cz 4 hD.c).mono ?_; rintro e dO ⟨tw, rfl, Ky, d8, hgx⟩; have sj : aw [g] cB dO := aw.eZ hgx (fun k hk => by simp at hk; simp [hk]); have PP : 0 <= tw /\ tw < 4 := (by have h := Ky.2.2.1 (by omega); omega)
       have hwt : (Lit.int .i64 tw).wf = true := WalkArith.wf_i64 (by omega); have jf := Hm (hD.cur cQ.out hgx d8); have Xo : g < zS := UM.out; have oZ := Hm (fQ (show cB.ownsRow zS 50 4 r9 l.length lY from (by first | exact gW.out | exact qV.out)) (fun k hk => sj.block k ((show cB.ownsRow zS 50 4 r9 l.length lY from (by first | exact gW.out | exact qV.out)).lt k hk).2 (by have := ((show cB.ownsRow zS 50 4 r9 l.length lY from (by first | exact gW.out | exact qV.out)).lt k hk).1; simp; omega)))
       (try have o5 := Hm ((show Bw cB g20 30 [.int .i64 0, .int .i64 0, .slice none 0 0] from (by first | exact fu.out | exact yH.out)).turn sj (by have := sk.out; simp; omega)))
       have tO : Hid (zS <= dO.heap.size) := Nat.le_trans hzz hgx.size; have Kz : True := trivial; clear hD hgx d8 Ky sj hzz; go_wp2_with fail; refine aL hK (jf.out.m) (fun hZ => ?_); clear hK K; refine uq 16 ?_; refine bf 17 rfl fun K hK => ?_
       go_simp; have hD : eJ w g br bm dO nx lg (.slice al l.length cl) l := (by first | exact fZ.out | exact f9.out | exact iJ.out | exact jf.out | exact mb.out | exact tN.out | exact ie.out)
       obtain ⟨dS, l4⟩ : ∃ x, x = dO.alloc (.cells (List.toArray [.int .i64 nx, .int .i64 tw, .string s1, .string s2]) 50) := ⟨_, rfl⟩
       have i6 : Below dO.heap.size dO dS := by rw [l4]; exact rB.alloc rN _
       have hzz : zS <= dO.heap.size := (by first | exact lG.out | exact tO.out)
       have o7 : Bx dS dO.heap.size [.int .i64 nx, .int .i64 tw, .string s1, .string s2] := (by rw [l4]; exact Bx.new _ _ _)
       obtain ⟨g17, A5⟩ : ∃ g, Hid (g = dO.heap.size) := ⟨_, Hm rfl⟩
       rw [<- A5.out] at o7 ⊢; rw [<- l4]; clear l4; have iJ := Hm (hD.below i6)
       (try have ou := Hm (aA (show dO.ownsRow zS 50 4 (.slice (some ⟨g6, 0, none⟩) 0 0) 0 [] from (by first | exact lZ.out | exact sf.out | exact ou.out | exact sg.out | exact Bz.out | exact yG.out)) i6))
       (try have lp := Hm (aA (show dO.ownsRow zS 50 4 r9 l.length lY from (by first | exact gW.out | exact si.out | exact lp.out | exact oZ.out | exact qV.out | exact yF.out)) i6))
       (try have jr := Hm ((show Bw dO g20 30 [.int .i64 0, .int .i64 0, .slice none 0 0] from (by first | exact fu.out | exact kM.out | exact jr.out | exact o5.out | exact yH.out | exact Cw.out)).under i6))
       have qW := Hm o7; have qX : Hid (zS <= dS.heap.size) := Nat.le_trans hzz i6.size; have FW : True := trivial; clear o7 hzz hD i6; refine aL hK (iJ.out.m) (fun hZ => ?_); clear hK K; refine bf 18 rfl fun K hK => ?_
       have hD : eJ w g br bm dS nx lg (.slice al l.length cl) l := (by first | exact fZ.out | exact f9.out | exact iJ.out | exact jf.out | exact mb.out | exact tN.out | exact ie.out)
       have hzz : zS <= dS.heap.size := (by first | exact lG.out | exact qX.out)
       have ew : dS.ownsRow zS 50 4 r9 l.length lY := (by first | exact gW.out | exact lp.out)
       have uI : Bx dS g17 [.int .i64 nx, .int .i64 tw, .string s1, .string s2] := (by first | exact xU.out | exact qW.out)
       refine a6 _ rfl _ _ 28 28 rfl zS 50 iT (.agg (List.toArray [.int .i64 0, .int .i64 0, .string ⟨List.toArray []⟩, .string ⟨List.toArray []⟩])) 4 48 Tryz.underlying28 HI.out.1 HI.out.2.1 HI.out.2.2.1 HI.out.2.2.2 rfl r9 l.length lY rfl ew (.slice (some ⟨g17, 0, none⟩) 1 1) rfl 1 [.int .i64 nx, .int .i64 tw, .string s1, .string s2] (Src.ofSlice _ Tryz.underlying28 ⟨g17, 0, none⟩ 1 1 _ rfl (b8 uI) (by intro u hu; simp at hu; rcases hu with rfl | rfl | rfl | rfl <;> rfl)) (by unfold maxLen; omega) (by omega) hzz ?_; intro v18 fw mH j7 pZ; obtain ⟨ov, ow, rfl⟩ := bk mH; have Cx : ∀ k, r9.ownBlock = some k -> zS <= k := fun k hk => (ew.lt k hk).1
       have f9 := Hm (hD.row cQ.out j7 Cx ud.out.1 ud.out.2 Q0.out)
       (try have kM := Hm ((show Bw dS g20 30 [.int .i64 0, .int .i64 0, .slice none 0 0] from (by first | exact fu.out | exact jr.out)).turn (dE j7) (fun hm => ea (show Bw dS g20 30 _ from (by first | exact fu.out | exact jr.out)) ew (by decide) (by simpa using hm))))
       have p6 : Hid (eu fw w.heap.size (.slice ov (l.length + 1) ow) (l ++ [⟨nx, tw, s1, s2⟩])) := Hm (eu.snoc mH PO.out MB.out hD.o.2 ⟨AJ, hwt, hs1, hs2⟩); have xV : Hid (zS <= fw.heap.size) := Nat.le_trans hzz j7.size; have Cy : True := trivial; clear mH j7 pZ hzz hD ew uI Cx; refine aL hK (f9.out.m) (fun hZ => ?_); clear hK K; refine uq 19 ?_; refine bf 21 rfl fun K hK => ?_
       go_simp; have j9 : Bw fw g20 30 [.int .i64 0, .int .i64 0, .slice none 0 0] := (by first | exact kM.out | exact fu.out)
       have hD : eJ w g br bm fw nx lg (.slice al l.length cl) l := (by first | exact fZ.out | exact f9.out)
       have hV : eu fw w.heap.size (.slice ov (l.length + 1) ow) (l ++ [⟨nx, tw, s1, s2⟩]) := (by first | exact xW.out | exact p6.out)
       have x0 := j9.cell 0 _ rfl; have x1 := j9.cell 1 _ rfl; have x2 := j9.cell 2 _ rfl; have e0 := j9.free 0; have e1 := j9.free 1; have e2 := j9.free 2; have le := j9.lt; go_simp; obtain ⟨xX, mJ⟩ : ∃ x, x = ((fw.setCell ⟨g20, 0, none⟩ (.int .i64 (nx + 2))).setCell ⟨g20, 1, none⟩ (.int .i64 (nx + 1))).setCell ⟨g20, 2, none⟩ (.slice ov (l.length + 1) ow) := ⟨_, rfl⟩
       have HE : Hid (Bv w g br bm xX nx lg (.slice al l.length cl) l g20 (nx + 2) (nx + 1) (.slice ov (l.length + 1) ow) (l ++ [⟨nx, tw, s1, s2⟩])) := by unfold Hid; rw [mJ]; exact Bv.made cQ.out hD j9 hV ud.out.1 ud.out.2 sk.out
       rw [<- mJ]; have CA : True := trivial; clear mJ x0 x1 x2 e0 e1 e2 le j9 hD hV; refine aL hK (HE.out.s.m) (fun hZ => ?_); clear hK K; refine dC ?_; go_wp2_with fail
       go_meet
       case rel => exact ⟨g20, nx + 2, nx + 1, (.slice ov (l.length + 1) ow), l ++ [⟨nx, tw, s1, s2⟩], rfl, HE, by simp, rfl, rfl⟩
     ·go_simp
      have hD : eJ w g br bm wS nx lg (.slice al l.length cl) l := (by first | exact fZ.out | exact f9.out | exact iJ.out | exact jf.out | exact mb.out | exact tN.out | exact ie.out)
      obtain ⟨dH, j8⟩ : ∃ x, x = wS.alloc (.cells (List.toArray [.int .i64 0, .int .i64 0, .slice none 0 0]) 30) := ⟨_, rfl⟩
      have eQ : Below wS.heap.size wS dH := by rw [j8]; exact rB.alloc rN _
      have hzz : zS <= wS.heap.size := (by first | exact xV.out | exact qX.out | exact tO.out | exact ue.out | exact Lr.out | exact LW.out)
      have mI : Bw dH wS.heap.size 30 [.int .i64 0, .int .i64 0, .slice none 0 0] := (by rw [j8]; exact Bw.new _ _ _)
      obtain ⟨g20, p7⟩ : ∃ g, Hid (g = wS.heap.size) := ⟨_, Hm rfl⟩
      rw [<- p7.out] at mI ⊢; rw [<- j8]; clear j8; have fZ := Hm (hD.below eQ)
      (try have lZ := Hm (aA (show wS.ownsRow zS 50 4 (.slice (some ⟨g6, 0, none⟩) 0 0) 0 [] from (by first | exact lZ.out | exact sf.out | exact ou.out | exact sg.out | exact Bz.out | exact yG.out)) eQ))
      (try have gW := Hm (aA (show wS.ownsRow zS 50 4 r9 l.length lY from (by first | exact gW.out | exact si.out | exact lp.out | exact oZ.out | exact qV.out | exact yF.out)) eQ))
      (try have fu := Hm ((show Bw wS g20 30 [.int .i64 0, .int .i64 0, .slice none 0 0] from (by first | exact fu.out | exact kM.out | exact jr.out | exact o5.out | exact yH.out | exact Cw.out)).under eQ))
      (try have xW := Hm ((show eu wS w.heap.size (.slice ov (l.length + 1) ow) (l ++ [⟨nx, tw, s1, s2⟩]) from p6.out).turn (F := []) (aw.bz eQ) (fun k _ h => by cases h)))
      (try have xU := Hm ((show Bx wS g17 [.int .i64 nx, .int .i64 tw, .string s1, .string s2] from qW.out).under eQ))
      have fu := Hm mI; have sk : Hid (zS <= g20) := by show _ <= _; rw [p7.out]; exact hzz
      have lG : Hid (zS <= dH.heap.size) := Nat.le_trans hzz eQ.size; have Cz : True := trivial; clear mI hzz hD eQ; refine aL hK (fZ.out.m) (fun hZ => ?_); clear hK K; refine bf 6 rfl fun K hK => ?_
      go_simp; have hD : eJ w g br bm dH nx lg (.slice al l.length cl) l := (by first | exact fZ.out | exact f9.out | exact iJ.out | exact jf.out | exact mb.out | exact tN.out | exact ie.out)
      obtain ⟨se, H5⟩ : ∃ x, x = dH.alloc (.cells (List.toArray []) 50) := ⟨_, rfl⟩
      have eA : Below dH.heap.size dH se := by rw [H5]; exact rB.alloc rN _
      have hzz : zS <= dH.heap.size := (by first | exact lG.out | exact LW.out)
      have Mj : se.ownsRow zS 50 4 (.slice (some ⟨dH.heap.size, 0, none⟩) 0 0) 0 [] := (by rw [H5]; exact NY _ _ hzz)
      obtain ⟨g6, Xn⟩ : ∃ g, Hid (g = dH.heap.size) := ⟨_, Hm rfl⟩
      rw [<- Xn.out] at Mj ⊢; rw [<- H5]; clear H5; have tN := Hm (hD.below eA)
      (try have yG := Hm (aA (show dH.ownsRow zS 50 4 (.slice (some ⟨g6, 0, none⟩) 0 0) 0 [] from (by first | exact lZ.out | exact sf.out | exact ou.out | exact sg.out | exact Bz.out | exact yG.out)) eA))
      (try have yF := Hm (aA (show dH.ownsRow zS 50 4 r9 l.length lY from (by first | exact gW.out | exact si.out | exact lp.out | exact oZ.out | exact qV.out | exact yF.out)) eA))
      (try have Cw := Hm ((show Bw dH g20 30 [.int .i64 0, .int .i64 0, .slice none 0 0] from (by first | exact fu.out | exact kM.out | exact jr.out | exact o5.out | exact yH.out | exact Cw.out)).under eA))
      have yG := Hm Mj; have Lr : Hid (zS <= se.heap.size) := Nat.le_trans hzz eA.size; have MC : True := trivial; clear Mj hzz hD eA; refine aL hK (tN.out.m) (fun hZ => ?_); clear hK K; refine bf 9 rfl fun K hK => ?_
      have hD : eJ w g br bm se nx lg (.slice al l.length cl) l := (by first | exact fZ.out | exact f9.out | exact iJ.out | exact jf.out | exact mb.out | exact tN.out | exact ie.out)
      have hzz : zS <= se.heap.size := (by first | exact lG.out | exact Lr.out)
      have oA : se.ownsRow zS 50 4 (.slice (some ⟨g6, 0, none⟩) 0 0) 0 [] := (by first | exact lZ.out | exact yG.out)
      refine fc _ rfl _ _ 28 28 rfl zS 50 iT (.agg (List.toArray [.int .i64 0, .int .i64 0, .string ⟨List.toArray []⟩, .string ⟨List.toArray []⟩])) 4 48 Tryz.underlying28 HI.out.1 HI.out.2.1 HI.out.2.2.1 HI.out.2.2.2 rfl g6 rfl oA (.slice al l.length cl) rfl l.length lY (hD.o.src MB.out) (by unfold maxLen; omega) (by omega) hzz ?_; intro r9 cB Kw yI AR; have mb := Hm (hD.below yI)
      (try have Bz := Hm (aA (show se.ownsRow zS 50 4 (.slice (some ⟨g6, 0, none⟩) 0 0) 0 [] from (by first | exact lZ.out | exact sf.out | exact ou.out | exact sg.out | exact Bz.out | exact yG.out)) yI))
      (try have qV := Hm (aA (show se.ownsRow zS 50 4 r9 l.length lY from (by first | exact gW.out | exact si.out | exact lp.out | exact oZ.out | exact qV.out | exact yF.out)) yI))
      (try have yH := Hm ((show Bw se g20 30 [.int .i64 0, .int .i64 0, .slice none 0 0] from (by first | exact fu.out | exact kM.out | exact jr.out | exact o5.out | exact yH.out | exact Cw.out)).under yI))
      have qV := Hm Kw; have ue : Hid (zS <= cB.heap.size) := Nat.le_trans hzz yI.size; have o6 : True := trivial; clear Kw hzz hD yI AR oA; refine aL hK (mb.out.m) (fun hZ => ?_); clear hK K; refine bf 13 rfl fun K hK => ?_
      go_simp; have hD : eJ w g br bm cB nx lg (.slice al l.length cl) l := (by first | exact fZ.out | exact f9.out | exact iJ.out | exact jf.out | exact mb.out | exact tN.out | exact ie.out)
      have hzz : zS <= cB.heap.size := (by first | exact lG.out | exact ue.out)
      refine (cz 4 hD.c).mono ?_; rintro e dO ⟨tw, rfl, Ky, d8, hgx⟩; have sj : aw [g] cB dO := aw.eZ hgx (fun k hk => by simp at hk; simp [hk]); have PP : 0 <= tw /\ tw < 4 := (by have h := Ky.2.2.1 (by omega); omega)
      have hwt : (Lit.int .i64 tw).wf = true := WalkArith.wf_i64 (by omega); have jf := Hm (hD.cur cQ.out hgx d8); have Xo : g < zS := UM.out; have oZ := Hm (fQ (show cB.ownsRow zS 50 4 r9 l.length lY from (by first | exact gW.out | exact qV.out)) (fun k hk => sj.block k ((show cB.ownsRow zS 50 4 r9 l.length lY from (by first | exact gW.out | exact qV.out)).lt k hk).2 (by have := ((show cB.ownsRow zS 50 4 r9 l.length lY from (by first | exact gW.out | exact qV.out)).lt k hk).1; simp; omega)))
      (try have o5 := Hm ((show Bw cB g20 30 [.int .i64 0, .int .i64 0, .slice none 0 0] from (by first | exact fu.out | exact yH.out)).turn sj (by have := sk.out; simp; omega)))
      have tO : Hid (zS <= dO.heap.size) := Nat.le_trans hzz hgx.size; have Kz : True := trivial; clear hD hgx d8 Ky sj hzz; go_wp2_with fail; refine aL hK (jf.out.m) (fun hZ => ?_); clear hK K; refine uq 16 ?_; refine bf 17 rfl fun K hK => ?_
      go_simp; have hD : eJ w g br bm dO nx lg (.slice al l.length cl) l := (by first | exact fZ.out | exact f9.out | exact iJ.out | exact jf.out | exact mb.out | exact tN.out | exact ie.out)
      obtain ⟨dS, l4⟩ : ∃ x, x = dO.alloc (.cells (List.toArray [.int .i64 nx, .int .i64 tw, .string s1, .string s2]) 50) := ⟨_, rfl⟩
      have i6 : Below dO.heap.size dO dS := by rw [l4]; exact rB.alloc rN _
      have hzz : zS <= dO.heap.size := (by first | exact lG.out | exact tO.out)
      have o7 : Bx dS dO.heap.size [.int .i64 nx, .int .i64 tw, .string s1, .string s2] := (by rw [l4]; exact Bx.new _ _ _)
      obtain ⟨g17, A5⟩ : ∃ g, Hid (g = dO.heap.size) := ⟨_, Hm rfl⟩
      rw [<- A5.out] at o7 ⊢; rw [<- l4]; clear l4; have iJ := Hm (hD.below i6)
      (try have ou := Hm (aA (show dO.ownsRow zS 50 4 (.slice (some ⟨g6, 0, none⟩) 0 0) 0 [] from (by first | exact lZ.out | exact sf.out | exact ou.out | exact sg.out | exact Bz.out | exact yG.out)) i6))
      (try have lp := Hm (aA (show dO.ownsRow zS 50 4 r9 l.length lY from (by first | exact gW.out | exact si.out | exact lp.out | exact oZ.out | exact qV.out | exact yF.out)) i6))
      (try have jr := Hm ((show Bw dO g20 30 [.int .i64 0, .int .i64 0, .slice none 0 0] from (by first | exact fu.out | exact kM.out | exact jr.out | exact o5.out | exact yH.out | exact Cw.out)).under i6))
      have qW := Hm o7; have qX : Hid (zS <= dS.heap.size) := Nat.le_trans hzz i6.size; have FW : True := trivial; clear o7 hzz hD i6; refine aL hK (iJ.out.m) (fun hZ => ?_); clear hK K; refine bf 18 rfl fun K hK => ?_
      have hD : eJ w g br bm dS nx lg (.slice al l.length cl) l := (by first | exact fZ.out | exact f9.out | exact iJ.out | exact jf.out | exact mb.out | exact tN.out | exact ie.out)
      have hzz : zS <= dS.heap.size := (by first | exact lG.out | exact qX.out)
      have ew : dS.ownsRow zS 50 4 r9 l.length lY := (by first | exact gW.out | exact lp.out)
      have uI : Bx dS g17 [.int .i64 nx, .int .i64 tw, .string s1, .string s2] := (by first | exact xU.out | exact qW.out)
      refine a6 _ rfl _ _ 28 28 rfl zS 50 iT (.agg (List.toArray [.int .i64 0, .int .i64 0, .string ⟨List.toArray []⟩, .string ⟨List.toArray []⟩])) 4 48 Tryz.underlying28 HI.out.1 HI.out.2.1 HI.out.2.2.1 HI.out.2.2.2 rfl r9 l.length lY rfl ew (.slice (some ⟨g17, 0, none⟩) 1 1) rfl 1 [.int .i64 nx, .int .i64 tw, .string s1, .string s2] (Src.ofSlice _ Tryz.underlying28 ⟨g17, 0, none⟩ 1 1 _ rfl (b8 uI) (by intro u hu; simp at hu; rcases hu with rfl | rfl | rfl | rfl <;> rfl)) (by unfold maxLen; omega) (by omega) hzz ?_; intro v18 fw mH j7 pZ; obtain ⟨ov, ow, rfl⟩ := bk mH; have Cx : ∀ k, r9.ownBlock = some k -> zS <= k := fun k hk => (ew.lt k hk).1
      have f9 := Hm (hD.row cQ.out j7 Cx ud.out.1 ud.out.2 Q0.out)
      (try have kM := Hm ((show Bw dS g20 30 [.int .i64 0, .int .i64 0, .slice none 0 0] from (by first | exact fu.out | exact jr.out)).turn (dE j7) (fun hm => ea (show Bw dS g20 30 _ from (by first | exact fu.out | exact jr.out)) ew (by decide) (by simpa using hm))))
      have p6 : Hid (eu fw w.heap.size (.slice ov (l.length + 1) ow) (l ++ [⟨nx, tw, s1, s2⟩])) := Hm (eu.snoc mH PO.out MB.out hD.o.2 ⟨AJ, hwt, hs1, hs2⟩); have xV : Hid (zS <= fw.heap.size) := Nat.le_trans hzz j7.size; have Cy : True := trivial; clear mH j7 pZ hzz hD ew uI Cx; refine aL hK (f9.out.m) (fun hZ => ?_); clear hK K; refine uq 19 ?_; refine bf 21 rfl fun K hK => ?_
      go_simp; have j9 : Bw fw g20 30 [.int .i64 0, .int .i64 0, .slice none 0 0] := (by first | exact kM.out | exact fu.out)
      have hD : eJ w g br bm fw nx lg (.slice al l.length cl) l := (by first | exact fZ.out | exact f9.out)
      have hV : eu fw w.heap.size (.slice ov (l.length + 1) ow) (l ++ [⟨nx, tw, s1, s2⟩]) := (by first | exact xW.out | exact p6.out)
      have x0 := j9.cell 0 _ rfl; have x1 := j9.cell 1 _ rfl; have x2 := j9.cell 2 _ rfl; have e0 := j9.free 0; have e1 := j9.free 1; have e2 := j9.free 2; have le := j9.lt; go_simp; obtain ⟨xX, mJ⟩ : ∃ x, x = ((fw.setCell ⟨g20, 0, none⟩ (.int .i64 (nx + 2))).setCell ⟨g20, 1, none⟩ (.int .i64 (nx + 1))).setCell ⟨g20, 2, none⟩ (.slice ov (l.length + 1) ow) := ⟨_, rfl⟩
      have HE : Hid (Bv w g br bm xX nx lg (.slice al l.length cl) l g20 (nx + 2) (nx + 1) (.slice ov (l.length + 1) ow) (l ++ [⟨nx, tw, s1, s2⟩])) := by unfold Hid; rw [mJ]; exact Bv.made cQ.out hD j9 hV ud.out.1 ud.out.2 sk.out
      rw [<- mJ]; have CA : True := trivial; clear mJ x0 x1 x2 e0 e1 e2 le j9 hD hV; refine aL hK (HE.out.s.m) (fun hZ => ?_); clear hK K; refine dC ?_; go_wp2_with fail
      go_meet
      case rel => exact ⟨g20, nx + 2, nx + 1, (.slice ov (l.length + 1) ow), l ++ [⟨nx, tw, s1, s2⟩], rfl, HE, by simp, rfl, rfl⟩
    case rest =>
     obtain ⟨gx, I4, I5, v', l', rfl, HE, hl', rfl, rfl⟩ := hcut; generalize wc = w3 at *; obtain ⟨a', c', rfl, Zg⟩ := HE.out.o.leaf; have Zh := Hm hl'; clear hl'; have A0 : (Lit.int .i64 (nx + 2)).wf = true := WalkArith.wf_i64 (by omega); have Xp : (Lit.int .i64 (nx + 1)).wf = true := WalkArith.wf_i64 (by omega); have Zi : ct w3.heap.size w3 [.int .i64 (nx + 2), .int .i64 (nx + 1), .slice a' l'.length c'] ⟨nx + 2, nx + 1, l'⟩ := ⟨a', c', rfl, A0, Xp, Zg, trivial⟩
     have Zj : fP ⟨nx + 2, nx + 1, l'⟩ <= 1048576 := by
      have := vx HE.out.o.2; have := Zh.out
      show l'.length + aP kw l' <= _; omega
     have hC := nC _ _ w3 Zi Zj; have x0 := HE.out.x.cell 0 _ rfl; have x1 := HE.out.x.cell 1 _ rfl; have x2 := HE.out.x.cell 2 _ rfl; clear Zi Zj Zg Ku; go_wp2_with fail; refine Calls.mono hC ?_; rintro e w4 ⟨rfl, hb4⟩; have vR := Hm (HE.out.below hb4); clear hC hb4 x0 x1 x2 HE; generalize bO ⟨nx + 2, nx + 1, l'⟩ = B at *; cases B with
     | false =>
      go_wp2_with fail
      go_roundw
      case rel => exact ⟨j, nx, lg, .slice al l.length cl, l, rfl, vR.out.s, by omega, by omega, by omega, by omega, by omega⟩
      case measure => simp [intOf]
     | true =>
      have x0 := vR.out.x.cell 0 _ rfl; have x1 := vR.out.x.cell 1 _ rfl; have x2 := vR.out.x.cell 2 _ rfl; have y0 := vR.out.s.m.cell 0 _ rfl; have y1 := vR.out.s.m.cell 1 _ rfl; have y2 := vR.out.s.m.cell 2 _ rfl; have f0 := vR.out.s.m.free 0; have f1 := vR.out.s.m.free 1; have f2 := vR.out.s.m.free 2; have le := vR.out.s.m.lt; have HN := Hm (eJ.put (x0 := nx + 2) (x1 := nx + 1) cQ.out vR.out.s vR.out.o); go_wp2_with fail
      go_roundw
      case rel => exact ⟨j, nx + 2, nx + 1, .slice a' l'.length c', l', rfl, HN, by have := Zh.out; omega, by omega, by omega, by omega, by omega⟩
      case measure => simp [intOf]
  ·have Xk : ¬ (0 : Int) < (i : Int) := by omega
   have AJ : (Lit.int .i64 nx).wf = true := WalkArith.wf_i64 (by omega); have OB : (Lit.int .i64 lg).wf = true := WalkArith.wf_i64 (by omega); have y0 := HS.out.m.cell 0 _ rfl; have y1 := HS.out.m.cell 1 _ rfl; have y2 := HS.out.m.cell 2 _ rfl; have f0 := HS.out.r.free 0; have f1 := HS.out.r.free 1; have f2 := HS.out.r.free 2; have q0 := HS.out.r.cell 0 _ rfl; have q1 := HS.out.r.cell 1 _ rfl; have q2 := HS.out.r.cell 2 _ rfl; have le := HS.out.r.lt; have HF := Hm (HS.out.leave cQ.out (.int .i64 nx) (.int .i64 lg) (.slice al l.length cl)); go_wp2_with fail; refine bodyPost_ret (v := .agg #[.int .i64 nx, .int .i64 lg, .slice al l.length cl]) (by simp [results, Tryz.results43, go_sem, *]) rfl (show vQ w g 6 _ _ from ⟨nx, lg, _, l, rfl, ⟨AJ, OB⟩, HF.out.1, by omega, HF.out.2.1, HF.out.2.2⟩)
end Go.Proofs.YtcamcgfbljhbhaaGreatDoor
