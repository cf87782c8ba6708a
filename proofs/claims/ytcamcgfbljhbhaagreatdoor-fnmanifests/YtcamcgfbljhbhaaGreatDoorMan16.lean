/-
  Part 17 of the texts that the proof leans on.
-/
import Derived.Test.YtcamcgfbljhbhaaGreatDoorMan0
import Derived.Test.YtcamcgfbljhbhaaGreatDoorMan9
import Derived.Test.YtcamcgfbljhbhaaGreatDoorMan15
set_option linter.unusedVariables false
set_option linter.unusedSimpArgs false
set_option maxRecDepth 10000
set_option maxHeartbeats 20000000

namespace Go.Proofs.YtcamcgfbljhbhaaGreatDoor
open Go.RowKit
def fO (w : World) (g : Nat) (e : Ending) (w' : World) : Prop :=
 ∃ (cs : List Value) (m : az), e = .returned (.agg cs.toArray) /\ bg w'.heap.size w' cs m /\ aZ m <= 1048576 /\ b5 w' g /\ aw [g] w w'
theorem ez.below {w : World} {g br bd : Nat} {W W' : World} {cs : List Value} {m : az} (h : ez w g br bd W cs m) (hx : Below W.heap.size W W') : ez w g br bd W' cs m := by
 refine ⟨h.d.under hx, h.r.under hx, ?_, h.f, h.c.below hx, h.t.trans (aw.bz hx)⟩; obtain ⟨F, ho, hF⟩ := h.o; exact ⟨F, aj.frame ho (fun b hb => hx.block b (aj.lt ho b hb)), hF⟩
theorem SX (j : Nat) (h : j < 4) : (Lit.int .i64 (([0, 1, 1000000, 1000001] : List Int).getD j 0)).wf = true := by
 match j, h with
 | 0, _ => rfl
 | 1, _ => rfl
 | 2, _ => rfl
 | 3, _ => rfl
theorem J8 (j : Nat) (h : j < 3) : (Lit.int .i64 (([-1, 0, 100] : List Int).getD j 0)).wf = true := by
 match j, h with
 | 0, _ => rfl
 | 1, _ => rfl
 | 2, _ => rfl
theorem Src.entry {P : Program} {w : World} {g tx e' : Nat} {s : ByteArray} {x : Int} (hk : P.underlying tx = some (.slice e')) (hb : Bx w g [.string s, .int .i64 x]) : Src P 2 tx (.slice (some ⟨g, 0, none⟩) 1 1) 1 [.string s, .int .i64 x] w :=
 Src.ofSlice w hk ⟨g, 0, none⟩ 1 1 _ rfl (b8 hb) (by intro u hu; simp at hu; rcases hu with rfl | rfl <;> rfl)
theorem AX {g : Nat} {w : World} (q : Int) (hc : b5 w g) (hq : q <= 100) :
  Calls Tryz.prog 17 #[.pointer (some ⟨g, 0, none⟩), .int .i64 q] w fun e w' => fO w g e w' := by
 obtain ⟨iT, Cl, hz0, hz1, hz2⟩ := info_parts Tryz.gG; have iV := hc.lt; have HC := Hm hc; clear hc; go_enter Tryz.func17, Tryz.ntmps17; go_wp2_with fail; obtain ⟨wq, bI⟩ : ∃ wq, wq = w.alloc (.cells #[.slice none 0 0, .slice none 0 0, .slice none 0 0, .int .i64 0] 27) := ⟨_, rfl⟩
 have kH : Below w.heap.size w wq := by rw [bI]; exact rB.alloc rN _
 have hqs : w.heap.size < wq.heap.size := by rw [bI]; simp
 have hbr : Bw wq w.heap.size 27 dZ := by rw [bI]; exact Bw.new _ _ _
 rw [<- bI]; clear bI; refine (Ho q (HC.out.below kH) hq).mono ?_; rintro e w1 ⟨cs1, m, rfl, Hr, Zb, hc1, qU⟩; obtain ⟨a0, n0, c0, a1, n1, c1, a2, n2, c2, z, hcs⟩ := dN Hr; subst hcs; have vO := Hm Hr; clear Hr; have dB := hbr.turn qU (by simp; omega); have Xe := qU.size; have tL : aw [g] w w1 := (aw.bz kH).trans qU; go_wp2_with fail; obtain ⟨w2, hw2⟩ : ∃ x, x = w1.alloc (.cells #[.slice a0 n0 c0, .slice a1 n1 c1, .slice a2 n2 c2, .int .i64 z] 27) := ⟨_, rfl⟩
 have hx2 : Below w1.heap.size w1 w2 := by rw [hw2]; exact rB.alloc rN _
 have dl : Bw w2 w1.heap.size 27 [.slice a0 n0 c0, .slice a1 n1 c1, .slice a2 n2 c2, .int .i64 z] := by rw [hw2]; exact Bw.new _ _ _
 rw [<- hw2]; obtain ⟨bd, Ck⟩ : ∃ x, x = w1.heap.size := ⟨_, rfl⟩
 rw [<- Ck] at dl ⊢; obtain ⟨br, vN⟩ : ∃ x, x = w.heap.size := ⟨_, rfl⟩
 have HST : Hid (ez w g br bd w2 [.slice a0 n0 c0, .slice a1 n1 c1, .slice a2 n2 c2, .int .i64 z] m) := by
  rw [vN]; obtain ⟨F, ho, hF⟩ := vO.out; refine ⟨dl, dB.under hx2, ⟨F, aj.frame ho (fun b hb => hx2.block b (aj.lt ho b hb)), fun b hb => ?_⟩, Zb, hc1.below hx2, tL.trans (aw.bz hx2)⟩; have h1 := hF b hb; have h2 := aj.lt ho b hb; omega
 have cQ : Hid (LM w g br bd) := ⟨iV, by omega, by omega, by omega⟩
 rw [<- vN]; clear hw2 hx2 dl Ck vN hbr dB kH hqs iV HC vO Zb hc1 qU tL Xe hq; refine (cz 12 HST.out.c).mono ?_; rintro e w3 ⟨y, rfl, hy, hc3, hg3⟩; have NS := hy.1; have PA : y < 12 := hy.2.2.1 (by omega); replace HST := Hm (HST.out.cur cQ.out hg3 hc3); clear hy hc3 hg3; have iV := HST.out.c.lt
 by_cases y0 : y = 0
 ·subst y0
  have jL : Below w3.heap.size w3 (w3.alloc (.cells (([0, 1, 1000000, 1000001] : List Int).map (Value.int .i64)).toArray 3)) := rB.alloc rN _; have J9 := Hm (HST.out.below jL); have qQ := uo .i64 w3 [0, 1, 1000000, 1000001] 3; have xb := Hm (mj _ 4 4 [0, 1, 1000000, 1000001] J9.out.c rfl (by omega) (by omega) _ qQ (by intro b o h; simp at h; omega)); clear qQ jL HST; go_wp2_with fail; refine xb.out.mono ?_; rintro e w4 ⟨k, ⟨hk, rfl⟩, G5, hg4⟩; have qJ := SX k hk; generalize ([0, 1, 1000000, 1000001] : List Int).getD k 0 = jv at *; have xK := Hm (J9.out.cur cQ.out hg4 G5); clear xb J9 G5 hg4 hk; have ej := xK.out.d; have o3 := ej.cell 3 _ rfl; have f3 := ej.free 3; have lo := ej.lt; obtain ⟨WW, Es⟩ : ∃ x, x = w4.setCell ⟨bd, 3, none⟩ (.int .i64 jv) := ⟨_, rfl⟩
  have HE : Hid (yR w g br bd WW [.slice a0 n0 c0, .slice a1 n1 c1, .slice a2 n2 c2, .int .i64 jv] { m with ah := jv }) := by
   unfold Hid; rw [Es]; exact yR.put cQ.out ej xK.out.r (xK.out.next qJ).1 (xK.out.next qJ).2 xK.out.c xK.out.t rfl
  clear ej xK; have rD := HE.out.d; have kT := HE.out.r; obtain ⟨p0, p1, p2, p3⟩ := rD.c4; obtain ⟨q0, q1, q2, q3⟩ := kT.c4; obtain ⟨e0, e1, e2, e3⟩ := kT.f4; have le := kT.lt; have HP := Hm (fun W (hT : aw [br] WW W) (hz : W.heap.size = WW.heap.size) => HE.out.leave cQ.out hT hz); clear rD kT HE; rw [Es] at p0 p1 p2 p3 q0 q1 q2 q3 e0 e1 e2 e3 le HP; clear Es; go_wp2_with fail; refine bodyPost_ret (v := .agg #[.slice a0 n0 c0, .slice a1 n1 c1, .slice a2 n2 c2, .int .i64 jv]) (by simp [results, Tryz.results17, go_sem, *]) rfl (show fO w g _ _ from ⟨[.slice a0 n0 c0, .slice a1 n1 c1, .slice a2 n2 c2, .int .i64 jv], _, rfl, HP.out _ (bE _ _ _ _ _ _) (by simp)⟩)
 by_cases y1 : y = 1
 ·subst y1
  clear y0 NS PA; go_wp2_with fail; refine vE (fun W => True) (trivial) (fun hZ => ?_); obtain ⟨wS, jU⟩ : ∃ wS, wS = w3.drew := ⟨_, rfl⟩
  have ie : Hid (ez w g br bd wS [.slice a0 n0 c0, .slice a1 n1 c1, .slice a2 n2 c2, .int .i64 z] m) := by unfold Hid; rw [jU]; exact HST.out.drew
  rw [<- jU]; clear jU HST iV; refine uq 0 ?_; refine uq 2 ?_; refine uq 4 ?_; refine lM [1, 3] ?_; refine (AllReadyH.cons (aM rfl) (fun K hK => ?_) (AllReadyH.cons (aM rfl) (fun K hK => ?_) AllReadyH.nil))
  ·go_simp
   have hD : ez w g br bd wS [.slice a0 n0 c0, .slice a1 n1 c1, .slice a2 n2 c2, .int .i64 z] m := by first | exact vu.out | exact ub.out | exact iZ.out | exact ie.out
   have p1 := hD.d.cell 1 _ rfl; go_simp; obtain ⟨fy, fA⟩ : ∃ x, x = wS := ⟨_, rfl⟩
   have gV : Hid (ez w g br bd fy [.slice a0 n0 c0, .slice a1 n1 c1, .slice a2 n2 c2, .int .i64 z] m) := by unfold Hid; rw [fA]; exact hD
   have eD : True := trivial
   (try rw [<- fA] at xf)
   rw [<- fA]; clear fA p1 hD; refine aL hK (trivial) (fun hZ => ?_); clear hK K; refine bf 3 rfl fun K hK => ?_
   go_simp; have hD : ez w g br bd fy [.slice a0 n0 c0, .slice a1 n1 c1, .slice a2 n2 c2, .int .i64 z] m := by first | exact gV.out | exact ie.out
   refine (sW hD.c).mono ?_; rintro e bX ⟨s, ⟨rfl, Hp⟩, d8, hgx⟩; have iZ := Hm (hD.cur cQ.out hgx d8); clear hD hgx d8; go_wp2_with fail; refine aL hK (trivial) (fun hZ => ?_); clear hK K; refine bf 5 rfl fun K hK => ?_
   go_simp; have hD : ez w g br bd bX [.slice a0 n0 c0, .slice a1 n1 c1, .slice a2 n2 c2, .int .i64 z] m := by first | exact iZ.out | exact gV.out
   refine (cz 4 hD.c).mono ?_; rintro e gw ⟨xv, rfl, SY, d8, hgx⟩; have QY : (Lit.int .i64 xv).wf = true := WalkArith.wf_i64 (by omega); have ub := Hm (hD.cur cQ.out hgx d8); clear hD hgx d8 SY; go_wp2_with fail; refine aL hK (trivial) (fun hZ => ?_); clear hK K; refine uq 6 ?_; refine bf 7 rfl fun K hK => ?_
   go_simp; have hD : ez w g br bd gw [.slice a0 n0 c0, .slice a1 n1 c1, .slice a2 n2 c2, .int .i64 z] m := by first | exact ub.out | exact gV.out
   obtain ⟨bR, pY⟩ : ∃ x, x = gw.alloc (.cells (List.toArray [.string s, .int .i64 xv]) 68) := ⟨_, rfl⟩
   have j5 : Below gw.heap.size gw bR := by rw [pY]; exact rB.alloc rN _
   have vu := Hm (hD.below j5); have xf : Hid (Bx bR gw.heap.size [.string s, .int .i64 xv]) := by unfold Hid; rw [pY]; exact Bx.new _ _ _
   obtain ⟨g7, PB⟩ : ∃ x, Hid (x = gw.heap.size) := ⟨_, Hm rfl⟩
   rw [<- PB.out] at xf ⊢; rw [<- pY]; clear pY j5 hD; refine aL hK (trivial) (fun hZ => ?_); clear hK K; refine bf 8 rfl fun K hK => ?_
   have hD : ez w g br bd bR [.slice a0 n0 c0, .slice a1 n1 c1, .slice a2 n2 c2, .int .i64 z] m := by first | exact vu.out | exact gV.out
   obtain ⟨LP, xs, nJ, cS⟩ := hD.push cQ.out; have AY := Hm cS; clear cS; refine ju _ rfl _ _ 25 25 rfl 0 68 iT (.agg #[.string ByteArray.empty, .int .i64 0]) 2 24 Tryz.underlying25 Cl hz0 hz1 hz2 rfl (.slice a1 n1 c1) n1 xs rfl nJ (.slice (some ⟨g7, 0, none⟩) 1 1) rfl 1 [.string s, .int .i64 xv] (Src.entry Tryz.underlying25 xf.out) (by omega) (by unfold maxLen; omega) (by omega) (Nat.zero_le _) ?_; intro v8 eV Ka xL xM xN; obtain ⟨r8, q8, m8, rfl, Kb, Kc, Kd, Ke, Kf, Kg⟩ := AY.out v8 eV s xv Hp QY Ka xL xM xN; have PC := Hm Kb; have PD := Hm Kc; have PE := Hm Kd; have Kh := Hm Ke; have Hs := Hm Kf; have PF := Hm Kg; clear Ka xL xM xN nJ hD Kb Kc Kd Ke Kf Kg; refine aL hK (trivial) (fun hZ => ?_); clear hK K; refine uq 9 ?_; refine bf 10 rfl fun K hK => ?_
   have ej := PC.out; have o1 := ej.cell 1 _ rfl; have f1 := ej.free 1; have lo := ej.lt; go_simp; obtain ⟨kL, iG⟩ : ∃ x, x = eV.setCell ⟨bd, 1, none⟩ (.slice r8 (n1 + 1) q8) := ⟨_, rfl⟩
   have HE : Hid (yR w g br bd kL [.slice a0 n0 c0, .slice r8 (n1 + 1) q8, .slice a2 n2 c2, .int .i64 z] m8) := by unfold Hid; rw [iG]; exact yR.put cQ.out ej PD.out PE.out Kh.out Hs.out PF.out rfl
   rw [<- iG]; clear iG ej o1 f1 lo; refine aL hK (trivial) (fun hZ => ?_); clear hK K; refine dC ?_; have rD := HE.out.d; have kT := HE.out.r; obtain ⟨p0, p1, p2, p3⟩ := rD.c4; obtain ⟨q0, q1, q2, q3⟩ := kT.c4; obtain ⟨e0, e1, e2, e3⟩ := kT.f4; have le := kT.lt; have HP := Hm (fun W (hT : aw [br] kL W) (hz : W.heap.size = kL.heap.size) => HE.out.leave cQ.out hT hz); clear rD kT HE; go_wp2_with fail; refine bodyPost_ret (v := .agg #[.slice a0 n0 c0, .slice r8 (n1 + 1) q8, .slice a2 n2 c2, .int .i64 z]) (by simp [results, Tryz.results17, go_sem, *]) rfl (show fO w g _ _ from ⟨[.slice a0 n0 c0, .slice r8 (n1 + 1) q8, .slice a2 n2 c2, .int .i64 z], _, rfl, HP.out _ (bE _ _ _ _ _ _) (by simp)⟩)
  ·go_simp
   have hD : ez w g br bd wS [.slice a0 n0 c0, .slice a1 n1 c1, .slice a2 n2 c2, .int .i64 z] m := by first | exact gV.out | exact ie.out
   refine (sW hD.c).mono ?_; rintro e bX ⟨s, ⟨rfl, Hp⟩, d8, hgx⟩; have iZ := Hm (hD.cur cQ.out hgx d8); clear hD hgx d8; go_wp2_with fail; refine aL hK (trivial) (fun hZ => ?_); clear hK K; refine lM [1, 5] ?_; refine (AllReadyH.cons (aM rfl) (fun K hK => ?_) (AllReadyH.cons (aM rfl) (fun K hK => ?_) AllReadyH.nil))
   ·go_simp
    have hD : ez w g br bd bX [.slice a0 n0 c0, .slice a1 n1 c1, .slice a2 n2 c2, .int .i64 z] m := by first | exact vu.out | exact ub.out | exact iZ.out | exact ie.out
    have p1 := hD.d.cell 1 _ rfl; go_simp; obtain ⟨fy, fA⟩ : ∃ x, x = bX := ⟨_, rfl⟩
    have gV : Hid (ez w g br bd fy [.slice a0 n0 c0, .slice a1 n1 c1, .slice a2 n2 c2, .int .i64 z] m) := by unfold Hid; rw [fA]; exact hD
    have eD : True := trivial
    (try rw [<- fA] at xf)
    rw [<- fA]; clear fA p1 hD; refine aL hK (trivial) (fun hZ => ?_); clear hK K; refine bf 5 rfl fun K hK => ?_
    go_simp; have hD : ez w g br bd fy [.slice a0 n0 c0, .slice a1 n1 c1, .slice a2 n2 c2, .int .i64 z] m := by first | exact iZ.out | exact gV.out
    refine (cz 4 hD.c).mono ?_; rintro e gw ⟨xv, rfl, SY, d8, hgx⟩; have QY : (Lit.int .i64 xv).wf = true := WalkArith.wf_i64 (by omega); have ub := Hm (hD.cur cQ.out hgx d8); clear hD hgx d8 SY; go_wp2_with fail; refine aL hK (trivial) (fun hZ => ?_); clear hK K; refine uq 6 ?_; refine bf 7 rfl fun K hK => ?_
    go_simp; have hD : ez w g br bd gw [.slice a0 n0 c0, .slice a1 n1 c1, .slice a2 n2 c2, .int .i64 z] m := by first | exact ub.out | exact gV.out
    obtain ⟨bR, pY⟩ : ∃ x, x = gw.alloc (.cells (List.toArray [.string s, .int .i64 xv]) 68) := ⟨_, rfl⟩
    have j5 : Below gw.heap.size gw bR := by rw [pY]; exact rB.alloc rN _
    have vu := Hm (hD.below j5); have xf : Hid (Bx bR gw.heap.size [.string s, .int .i64 xv]) := by unfold Hid; rw [pY]; exact Bx.new _ _ _
    obtain ⟨g7, PB⟩ : ∃ x, Hid (x = gw.heap.size) := ⟨_, Hm rfl⟩
    rw [<- PB.out] at xf ⊢; rw [<- pY]; clear pY j5 hD; refine aL hK (trivial) (fun hZ => ?_); clear hK K; refine bf 8 rfl fun K hK => ?_
    have hD : ez w g br bd bR [.slice a0 n0 c0, .slice a1 n1 c1, .slice a2 n2 c2, .int .i64 z] m := by first | exact vu.out | exact gV.out
    obtain ⟨LP, xs, nJ, cS⟩ := hD.push cQ.out; have AY := Hm cS; clear cS; refine ju _ rfl _ _ 25 25 rfl 0 68 iT (.agg #[.string ByteArray.empty, .int .i64 0]) 2 24 Tryz.underlying25 Cl hz0 hz1 hz2 rfl (.slice a1 n1 c1) n1 xs rfl nJ (.slice (some ⟨g7, 0, none⟩) 1 1) rfl 1 [.string s, .int .i64 xv] (Src.entry Tryz.underlying25 xf.out) (by omega) (by unfold maxLen; omega) (by omega) (Nat.zero_le _) ?_; intro v8 eV Ka xL xM xN; obtain ⟨r8, q8, m8, rfl, Kb, Kc, Kd, Ke, Kf, Kg⟩ := AY.out v8 eV s xv Hp QY Ka xL xM xN; have PC := Hm Kb; have PD := Hm Kc; have PE := Hm Kd; have Kh := Hm Ke; have Hs := Hm Kf; have PF := Hm Kg; clear Ka xL xM xN nJ hD Kb Kc Kd Ke Kf Kg; refine aL hK (trivial) (fun hZ => ?_); clear hK K; refine uq 9 ?_; refine bf 10 rfl fun K hK => ?_
    have ej := PC.out; have o1 := ej.cell 1 _ rfl; have f1 := ej.free 1; have lo := ej.lt; go_simp; obtain ⟨kL, iG⟩ : ∃ x, x = eV.setCell ⟨bd, 1, none⟩ (.slice r8 (n1 + 1) q8) := ⟨_, rfl⟩
    have HE : Hid (yR w g br bd kL [.slice a0 n0 c0, .slice r8 (n1 + 1) q8, .slice a2 n2 c2, .int .i64 z] m8) := by unfold Hid; rw [iG]; exact yR.put cQ.out ej PD.out PE.out Kh.out Hs.out PF.out rfl
    rw [<- iG]; clear iG ej o1 f1 lo; refine aL hK (trivial) (fun hZ => ?_); clear hK K; refine dC ?_; have rD := HE.out.d; have kT := HE.out.r; obtain ⟨p0, p1, p2, p3⟩ := rD.c4; obtain ⟨q0, q1, q2, q3⟩ := kT.c4; obtain ⟨e0, e1, e2, e3⟩ := kT.f4; have le := kT.lt; have HP := Hm (fun W (hT : aw [br] kL W) (hz : W.heap.size = kL.heap.size) => HE.out.leave cQ.out hT hz); clear rD kT HE; go_wp2_with fail; refine bodyPost_ret (v := .agg #[.slice a0 n0 c0, .slice r8 (n1 + 1) q8, .slice a2 n2 c2, .int .i64 z]) (by simp [results, Tryz.results17, go_sem, *]) rfl (show fO w g _ _ from ⟨[.slice a0 n0 c0, .slice r8 (n1 + 1) q8, .slice a2 n2 c2, .int .i64 z], _, rfl, HP.out _ (bE _ _ _ _ _ _) (by simp)⟩)
   ·go_simp
    have hD : ez w g br bd bX [.slice a0 n0 c0, .slice a1 n1 c1, .slice a2 n2 c2, .int .i64 z] m := by first | exact iZ.out | exact gV.out
    refine (cz 4 hD.c).mono ?_; rintro e gw ⟨xv, rfl, SY, d8, hgx⟩; have QY : (Lit.int .i64 xv).wf = true := WalkArith.wf_i64 (by omega); have ub := Hm (hD.cur cQ.out hgx d8); clear hD hgx d8 SY; go_wp2_with fail; refine aL hK (trivial) (fun hZ => ?_); clear hK K; refine uq 6 ?_; refine lM [1, 7] ?_; refine (AllReadyH.cons (aM rfl) (fun K hK => ?_) (AllReadyH.cons (aM rfl) (fun K hK => ?_) AllReadyH.nil))
    ·go_simp
     have hD : ez w g br bd gw [.slice a0 n0 c0, .slice a1 n1 c1, .slice a2 n2 c2, .int .i64 z] m := by first | exact vu.out | exact ub.out | exact iZ.out | exact ie.out
     have p1 := hD.d.cell 1 _ rfl; go_simp; obtain ⟨fy, fA⟩ : ∃ x, x = gw := ⟨_, rfl⟩
     have gV : Hid (ez w g br bd fy [.slice a0 n0 c0, .slice a1 n1 c1, .slice a2 n2 c2, .int .i64 z] m) := by unfold Hid; rw [fA]; exact hD
     have eD : True := trivial
     (try rw [<- fA] at xf)
     rw [<- fA]; clear fA p1 hD; refine aL hK (trivial) (fun hZ => ?_); clear hK K; refine bf 7 rfl fun K hK => ?_
     go_simp; have hD : ez w g br bd fy [.slice a0 n0 c0, .slice a1 n1 c1, .slice a2 n2 c2, .int .i64 z] m := by first | exact ub.out | exact gV.out
     obtain ⟨bR, pY⟩ : ∃ x, x = fy.alloc (.cells (List.toArray [.string s, .int .i64 xv]) 68) := ⟨_, rfl⟩
     have j5 : Below fy.heap.size fy bR := by rw [pY]; exact rB.alloc rN _
     have vu := Hm (hD.below j5); have xf : Hid (Bx bR fy.heap.size [.string s, .int .i64 xv]) := by unfold Hid; rw [pY]; exact Bx.new _ _ _
     obtain ⟨g7, PB⟩ : ∃ x, Hid (x = fy.heap.size) := ⟨_, Hm rfl⟩
     rw [<- PB.out] at xf ⊢; rw [<- pY]; clear pY j5 hD; refine aL hK (trivial) (fun hZ => ?_); clear hK K; refine bf 8 rfl fun K hK => ?_
     have hD : ez w g br bd bR [.slice a0 n0 c0, .slice a1 n1 c1, .slice a2 n2 c2, .int .i64 z] m := by first | exact vu.out | exact gV.out
     obtain ⟨LP, xs, nJ, cS⟩ := hD.push cQ.out; have AY := Hm cS; clear cS; refine ju _ rfl _ _ 25 25 rfl 0 68 iT (.agg #[.string ByteArray.empty, .int .i64 0]) 2 24 Tryz.underlying25 Cl hz0 hz1 hz2 rfl (.slice a1 n1 c1) n1 xs rfl nJ (.slice (some ⟨g7, 0, none⟩) 1 1) rfl 1 [.string s, .int .i64 xv] (Src.entry Tryz.underlying25 xf.out) (by omega) (by unfold maxLen; omega) (by omega) (Nat.zero_le _) ?_; intro v8 eV Ka xL xM xN; obtain ⟨r8, q8, m8, rfl, Kb, Kc, Kd, Ke, Kf, Kg⟩ := AY.out v8 eV s xv Hp QY Ka xL xM xN; have PC := Hm Kb; have PD := Hm Kc; have PE := Hm Kd; have Kh := Hm Ke; have Hs := Hm Kf; have PF := Hm Kg; clear Ka xL xM xN nJ hD Kb Kc Kd Ke Kf Kg; refine aL hK (trivial) (fun hZ => ?_); clear hK K; refine uq 9 ?_; refine bf 10 rfl fun K hK => ?_
     have ej := PC.out; have o1 := ej.cell 1 _ rfl; have f1 := ej.free 1; have lo := ej.lt; go_simp; obtain ⟨kL, iG⟩ : ∃ x, x = eV.setCell ⟨bd, 1, none⟩ (.slice r8 (n1 + 1) q8) := ⟨_, rfl⟩
     have HE : Hid (yR w g br bd kL [.slice a0 n0 c0, .slice r8 (n1 + 1) q8, .slice a2 n2 c2, .int .i64 z] m8) := by unfold Hid; rw [iG]; exact yR.put cQ.out ej PD.out PE.out Kh.out Hs.out PF.out rfl
     rw [<- iG]; clear iG ej o1 f1 lo; refine aL hK (trivial) (fun hZ => ?_); clear hK K; refine dC ?_; have rD := HE.out.d; have kT := HE.out.r; obtain ⟨p0, p1, p2, p3⟩ := rD.c4; obtain ⟨q0, q1, q2, q3⟩ := kT.c4; obtain ⟨e0, e1, e2, e3⟩ := kT.f4; have le := kT.lt; have HP := Hm (fun W (hT : aw [br] kL W) (hz : W.heap.size = kL.heap.size) => HE.out.leave cQ.out hT hz); clear rD kT HE; go_wp2_with fail; refine bodyPost_ret (v := .agg #[.slice a0 n0 c0, .slice r8 (n1 + 1) q8, .slice a2 n2 c2, .int .i64 z]) (by simp [results, Tryz.results17, go_sem, *]) rfl (show fO w g _ _ from ⟨[.slice a0 n0 c0, .slice r8 (n1 + 1) q8, .slice a2 n2 c2, .int .i64 z], _, rfl, HP.out _ (bE _ _ _ _ _ _) (by simp)⟩)
    ·go_simp
     have hD : ez w g br bd gw [.slice a0 n0 c0, .slice a1 n1 c1, .slice a2 n2 c2, .int .i64 z] m := by first | exact ub.out | exact gV.out
     obtain ⟨bR, pY⟩ : ∃ x, x = gw.alloc (.cells (List.toArray [.string s, .int .i64 xv]) 68) := ⟨_, rfl⟩
     have j5 : Below gw.heap.size gw bR := by rw [pY]; exact rB.alloc rN _
     have vu := Hm (hD.below j5); have xf : Hid (Bx bR gw.heap.size [.string s, .int .i64 xv]) := by unfold Hid; rw [pY]; exact Bx.new _ _ _
     obtain ⟨g7, PB⟩ : ∃ x, Hid (x = gw.heap.size) := ⟨_, Hm rfl⟩
     rw [<- PB.out] at xf ⊢; rw [<- pY]; clear pY j5 hD; refine aL hK (trivial) (fun hZ => ?_); clear hK K; refine bf 1 rfl fun K hK => ?_
     go_simp; have hD : ez w g br bd bR [.slice a0 n0 c0, .slice a1 n1 c1, .slice a2 n2 c2, .int .i64 z] m := by first | exact vu.out | exact ub.out | exact iZ.out | exact ie.out
     have p1 := hD.d.cell 1 _ rfl; go_simp; obtain ⟨fy, fA⟩ : ∃ x, x = bR := ⟨_, rfl⟩
     have gV : Hid (ez w g br bd fy [.slice a0 n0 c0, .slice a1 n1 c1, .slice a2 n2 c2, .int .i64 z] m) := by unfold Hid; rw [fA]; exact hD
     have eD : True := trivial
     (try rw [<- fA] at xf)
     rw [<- fA]; clear fA p1 hD; refine aL hK (trivial) (fun hZ => ?_); clear hK K; refine bf 8 rfl fun K hK => ?_
     have hD : ez w g br bd fy [.slice a0 n0 c0, .slice a1 n1 c1, .slice a2 n2 c2, .int .i64 z] m := by first | exact vu.out | exact gV.out
     obtain ⟨LP, xs, nJ, cS⟩ := hD.push cQ.out; have AY := Hm cS; clear cS; refine ju _ rfl _ _ 25 25 rfl 0 68 iT (.agg #[.string ByteArray.empty, .int .i64 0]) 2 24 Tryz.underlying25 Cl hz0 hz1 hz2 rfl (.slice a1 n1 c1) n1 xs rfl nJ (.slice (some ⟨g7, 0, none⟩) 1 1) rfl 1 [.string s, .int .i64 xv] (Src.entry Tryz.underlying25 xf.out) (by omega) (by unfold maxLen; omega) (by omega) (Nat.zero_le _) ?_; intro v8 eV Ka xL xM xN; obtain ⟨r8, q8, m8, rfl, Kb, Kc, Kd, Ke, Kf, Kg⟩ := AY.out v8 eV s xv Hp QY Ka xL xM xN; have PC := Hm Kb; have PD := Hm Kc; have PE := Hm Kd; have Kh := Hm Ke; have Hs := Hm Kf; have PF := Hm Kg; clear Ka xL xM xN nJ hD Kb Kc Kd Ke Kf Kg; refine aL hK (trivial) (fun hZ => ?_); clear hK K; refine uq 9 ?_; refine bf 10 rfl fun K hK => ?_
     have ej := PC.out; have o1 := ej.cell 1 _ rfl; have f1 := ej.free 1; have lo := ej.lt; go_simp; obtain ⟨kL, iG⟩ : ∃ x, x = eV.setCell ⟨bd, 1, none⟩ (.slice r8 (n1 + 1) q8) := ⟨_, rfl⟩
     have HE : Hid (yR w g br bd kL [.slice a0 n0 c0, .slice r8 (n1 + 1) q8, .slice a2 n2 c2, .int .i64 z] m8) := by unfold Hid; rw [iG]; exact yR.put cQ.out ej PD.out PE.out Kh.out Hs.out PF.out rfl
     rw [<- iG]; clear iG ej o1 f1 lo; refine aL hK (trivial) (fun hZ => ?_); clear hK K; refine dC ?_; have rD := HE.out.d; have kT := HE.out.r; obtain ⟨p0, p1, p2, p3⟩ := rD.c4; obtain ⟨q0, q1, q2, q3⟩ := kT.c4; obtain ⟨e0, e1, e2, e3⟩ := kT.f4; have le := kT.lt; have HP := Hm (fun W (hT : aw [br] kL W) (hz : W.heap.size = kL.heap.size) => HE.out.leave cQ.out hT hz); clear rD kT HE; go_wp2_with fail; refine bodyPost_ret (v := .agg #[.slice a0 n0 c0, .slice r8 (n1 + 1) q8, .slice a2 n2 c2, .int .i64 z]) (by simp [results, Tryz.results17, go_sem, *]) rfl (show fO w g _ _ from ⟨[.slice a0 n0 c0, .slice r8 (n1 + 1) q8, .slice a2 n2 c2, .int .i64 z], _, rfl, HP.out _ (bE _ _ _ _ _ _) (by simp)⟩)
 by_cases y2 : y = 2
 ·subst y2
  clear y0 y1 NS PA; have ej := HST.out.d; have o2 := ej.cell 2 _ rfl; have f2 := ej.free 2; have lo := ej.lt; obtain ⟨WW, Es⟩ : ∃ x, x = w3.setCell ⟨bd, 2, none⟩ (.slice none 0 0) := ⟨_, rfl⟩
  have HE : Hid (yR w g br bd WW [.slice a0 n0 c0, .slice a1 n1 c1, .slice none 0 0, .int .i64 z] { m with ag := [] }) := by
   unfold Hid; rw [Es]; exact yR.put cQ.out ej HST.out.r HST.out.loose.1 HST.out.loose.2 HST.out.c HST.out.t rfl
  clear ej HST; have rD := HE.out.d; have kT := HE.out.r; obtain ⟨p0, p1, p2, p3⟩ := rD.c4; obtain ⟨q0, q1, q2, q3⟩ := kT.c4; obtain ⟨e0, e1, e2, e3⟩ := kT.f4; have le := kT.lt; have HP := Hm (fun W (hT : aw [br] WW W) (hz : W.heap.size = WW.heap.size) => HE.out.leave cQ.out hT hz); clear rD kT HE; rw [Es] at p0 p1 p2 p3 q0 q1 q2 q3 e0 e1 e2 e3 le HP; clear Es; go_wp2_with fail; refine bodyPost_ret (v := .agg #[.slice a0 n0 c0, .slice a1 n1 c1, .slice none 0 0, .int .i64 z]) (by simp [results, Tryz.results17, go_sem, *]) rfl (show fO w g _ _ from ⟨[.slice a0 n0 c0, .slice a1 n1 c1, .slice none 0 0, .int .i64 z], _, rfl, HP.out _ (bE _ _ _ _ _ _) (by simp)⟩)
 by_cases y3 : y = 3
 ·subst y3
  clear y0 y1 y2 NS PA
  by_cases Ki : 0 < n0
  ·obtain ⟨gI, hgI, ⟨u2, IY⟩, NT, Et, rE⟩ := HST.out.sure cQ.out Ki
   clear IY NT Et rE; subst hgI; have p0 := HST.out.d.cell 0 _ rfl; go_wp2_with fail; clear p0; refine vE (fun W => True) (trivial) (fun hZ => ?_); obtain ⟨wS, jU⟩ : ∃ wS, wS = w3.drew := ⟨_, rfl⟩
   have ie : Hid (ez w g br bd wS [.slice (some ⟨gI, 0, none⟩) n0 c0, .slice a1 n1 c1, .slice a2 n2 c2, .int .i64 z] m) := by unfold Hid; rw [jU]; exact HST.out.drew
   rw [<- jU]; clear jU HST iV; refine uq 0 ?_; refine uq 2 ?_; refine lM [1, 3] ?_; refine (AllReadyH.cons (aM rfl) (fun K hK => ?_) (AllReadyH.cons (aM rfl) (fun K hK => ?_) AllReadyH.nil))
   ·go_simp
    have hD : ez w g br bd wS [.slice (some ⟨gI, 0, none⟩) n0 c0, .slice a1 n1 c1, .slice a2 n2 c2, .int .i64 z] m := by first | exact Ht.out | exact iZ.out | exact ie.out
    have p0 := hD.d.cell 0 _ rfl; go_simp; obtain ⟨fy, fA⟩ : ∃ x, x = wS := ⟨_, rfl⟩
    have gV : Hid (ez w g br bd fy [.slice (some ⟨gI, 0, none⟩) n0 c0, .slice a1 n1 c1, .slice a2 n2 c2, .int .i64 z] m) := by unfold Hid; rw [fA]; exact hD
    have eD : True := trivial
    (try rw [<- fA] at rC)
    rw [<- fA]; clear fA p0 hD; refine aL hK (trivial) (fun hZ => ?_); clear hK K; refine bf 3 rfl fun K hK => ?_
    go_simp; have hD : ez w g br bd fy [.slice (some ⟨gI, 0, none⟩) n0 c0, .slice a1 n1 c1, .slice a2 n2 c2, .int .i64 z] m := by first | exact gV.out | exact ie.out
    obtain ⟨bX, rF⟩ : ∃ x, x = fy.alloc (.cells (([-1, 0, 100] : List Int).map (Value.int .i64)).toArray 3) := ⟨_, rfl⟩
    have hx3 : Below fy.heap.size fy bX := by rw [rF]; exact rB.alloc rN _
    have iZ := Hm (hD.below hx3); have rC : Hid (Rd .i64 (fy.heap.size + 1) bX (some ⟨fy.heap.size, 0, none⟩) [-1, 0, 100]) := by unfold Hid; rw [rF]; exact uo .i64 fy [-1, 0, 100] 3
    have PG := hD.c.lt; obtain ⟨g3, Xf⟩ : ∃ x, Hid (x = fy.heap.size) := ⟨_, Hm rfl⟩
    rw [<- Xf.out] at rC PG ⊢; have Kj : bX = fy.alloc (.cells #[.int .i64 (-1), .int .i64 0, .int .i64 100] 3) := rF; rw [<- Kj]; clear rF Kj hx3 hD; refine aL hK (trivial) (fun hZ => ?_); clear hK K; refine bf 4 rfl fun K hK => ?_
    go_simp; have hD : ez w g br bd bX [.slice (some ⟨gI, 0, none⟩) n0 c0, .slice a1 n1 c1, .slice a2 n2 c2, .int .i64 z] m := by first | exact iZ.out | exact gV.out
    refine (mj _ 3 3 [-1, 0, 100] hD.c rfl (by omega) (by omega) _ rC.out (by intro b o h; simp at h; omega)).mono ?_; rintro e bK ⟨k, ⟨hk, rfl⟩, d8, hgx⟩; have qJ := J8 k hk; generalize ([-1, 0, 100] : List Int).getD k 0 = jv at *; have Ht := Hm (hD.cur cQ.out hgx d8); clear hD hgx d8 hk; go_wp2_with fail; refine aL hK (trivial) (fun hZ => ?_); clear hK K; refine uq 5 ?_; refine uq 6 ?_; refine bf 7 rfl fun K hK => ?_
    have hD : ez w g br bd bK [.slice (some ⟨gI, 0, none⟩) n0 c0, .slice a1 n1 c1, .slice a2 n2 c2, .int .i64 z] m := by first | exact Ht.out | exact gV.out
    obtain ⟨gJ, Cm, ⟨u2, IY⟩, NT, Et, rE⟩ := hD.sure cQ.out Ki; injection Cm with Cm
    injection Cm with Cm _
    subst Cm; obtain ⟨m7, NU⟩ := rE jv qJ; have NV := Hm NU; clear rE NU; go_simp; obtain ⟨bR, pY⟩ : ∃ x, x = bK.setCell ⟨gI, 2, none⟩ (.int .i64 jv) := ⟨_, rfl⟩
    have HE : Hid (yR w g br bd bR [.slice (some ⟨gI, 0, none⟩) n0 c0, .slice a1 n1 c1, .slice a2 n2 c2, .int .i64 z] m7) := by unfold Hid; rw [pY]; exact NV.out
    rw [<- pY]; clear pY NV IY NT Et hD; refine aL hK (trivial) (fun hZ => ?_); clear hK K; refine dC ?_; have rD := HE.out.d; have kT := HE.out.r; obtain ⟨p0, p1, p2, p3⟩ := rD.c4; obtain ⟨q0, q1, q2, q3⟩ := kT.c4; obtain ⟨e0, e1, e2, e3⟩ := kT.f4; have le := kT.lt; have HP := Hm (fun W (hT : aw [br] bR W) (hz : W.heap.size = bR.heap.size) => HE.out.leave cQ.out hT hz); clear rD kT HE; go_wp2_with fail; refine bodyPost_ret (v := .agg #[.slice (some ⟨gI, 0, none⟩) n0 c0, .slice a1 n1 c1, .slice a2 n2 c2, .int .i64 z]) (by simp [results, Tryz.results17, go_sem, *]) rfl (show fO w g _ _ from ⟨[.slice (some ⟨gI, 0, none⟩) n0 c0, .slice a1 n1 c1, .slice a2 n2 c2, .int .i64 z], _, rfl, HP.out _ (bE _ _ _ _ _ _) (by simp)⟩)
   ·go_simp
    have hD : ez w g br bd wS [.slice (some ⟨gI, 0, none⟩) n0 c0, .slice a1 n1 c1, .slice a2 n2 c2, .int .i64 z] m := by first | exact gV.out | exact ie.out
    obtain ⟨bX, rF⟩ : ∃ x, x = wS.alloc (.cells (([-1, 0, 100] : List Int).map (Value.int .i64)).toArray 3) := ⟨_, rfl⟩
    have hx3 : Below wS.heap.size wS bX := by rw [rF]; exact rB.alloc rN _
    have iZ := Hm (hD.below hx3); have rC : Hid (Rd .i64 (wS.heap.size + 1) bX (some ⟨wS.heap.size, 0, none⟩) [-1, 0, 100]) := by unfold Hid; rw [rF]; exact uo .i64 wS [-1, 0, 100] 3
    have PG := hD.c.lt; obtain ⟨g3, Xf⟩ : ∃ x, Hid (x = wS.heap.size) := ⟨_, Hm rfl⟩
    rw [<- Xf.out] at rC PG ⊢; have Kj : bX = wS.alloc (.cells #[.int .i64 (-1), .int .i64 0, .int .i64 100] 3) := rF; rw [<- Kj]; clear rF Kj hx3 hD; refine aL hK (trivial) (fun hZ => ?_); clear hK K; refine lM [1, 4] ?_; refine (AllReadyH.cons (aM rfl) (fun K hK => ?_) (AllReadyH.cons (aM rfl) (fun K hK => ?_) AllReadyH.nil))
    ·go_simp
     have hD : ez w g br bd bX [.slice (some ⟨gI, 0, none⟩) n0 c0, .slice a1 n1 c1, .slice a2 n2 c2, .int .i64 z] m := by first | exact Ht.out | exact iZ.out | exact ie.out
     have p0 := hD.d.cell 0 _ rfl; go_simp; obtain ⟨fy, fA⟩ : ∃ x, x = bX := ⟨_, rfl⟩
     have gV : Hid (ez w g br bd fy [.slice (some ⟨gI, 0, none⟩) n0 c0, .slice a1 n1 c1, .slice a2 n2 c2, .int .i64 z] m) := by unfold Hid; rw [fA]; exact hD
     have eD : True := trivial
     (try rw [<- fA] at rC)
     rw [<- fA]; clear fA p0 hD; refine aL hK (trivial) (fun hZ => ?_); clear hK K; refine bf 4 rfl fun K hK => ?_
     go_simp; have hD : ez w g br bd fy [.slice (some ⟨gI, 0, none⟩) n0 c0, .slice a1 n1 c1, .slice a2 n2 c2, .int .i64 z] m := by first | exact iZ.out | exact gV.out
     refine (mj _ 3 3 [-1, 0, 100] hD.c rfl (by omega) (by omega) _ rC.out (by intro b o h; simp at h; omega)).mono ?_; rintro e bK ⟨k, ⟨hk, rfl⟩, d8, hgx⟩; have qJ := J8 k hk; generalize ([-1, 0, 100] : List Int).getD k 0 = jv at *; have Ht := Hm (hD.cur cQ.out hgx d8); clear hD hgx d8 hk; go_wp2_with fail; refine aL hK (trivial) (fun hZ => ?_); clear hK K; refine uq 5 ?_; refine uq 6 ?_; refine bf 7 rfl fun K hK => ?_
     have hD : ez w g br bd bK [.slice (some ⟨gI, 0, none⟩) n0 c0, .slice a1 n1 c1, .slice a2 n2 c2, .int .i64 z] m := by first | exact Ht.out | exact gV.out
     obtain ⟨gJ, Cm, ⟨u2, IY⟩, NT, Et, rE⟩ := hD.sure cQ.out Ki; injection Cm with Cm
     injection Cm with Cm _
     subst Cm; obtain ⟨m7, NU⟩ := rE jv qJ; have NV := Hm NU; clear rE NU; go_simp; obtain ⟨bR, pY⟩ : ∃ x, x = bK.setCell ⟨gI, 2, none⟩ (.int .i64 jv) := ⟨_, rfl⟩
     have HE : Hid (yR w g br bd bR [.slice (some ⟨gI, 0, none⟩) n0 c0, .slice a1 n1 c1, .slice a2 n2 c2, .int .i64 z] m7) := by unfold Hid; rw [pY]; exact NV.out
     rw [<- pY]; clear pY NV IY NT Et hD; refine aL hK (trivial) (fun hZ => ?_); clear hK K; refine dC ?_; have rD := HE.out.d; have kT := HE.out.r; obtain ⟨p0, p1, p2, p3⟩ := rD.c4; obtain ⟨q0, q1, q2, q3⟩ := kT.c4; obtain ⟨e0, e1, e2, e3⟩ := kT.f4; have le := kT.lt; have HP := Hm (fun W (hT : aw [br] bR W) (hz : W.heap.size = bR.heap.size) => HE.out.leave cQ.out hT hz); clear rD kT HE; go_wp2_with fail; refine bodyPost_ret (v := .agg #[.slice (some ⟨gI, 0, none⟩) n0 c0, .slice a1 n1 c1, .slice a2 n2 c2, .int .i64 z]) (by simp [results, Tryz.results17, go_sem, *]) rfl (show fO w g _ _ from ⟨[.slice (some ⟨gI, 0, none⟩) n0 c0, .slice a1 n1 c1, .slice a2 n2 c2, .int .i64 z], _, rfl, HP.out _ (bE _ _ _ _ _ _) (by simp)⟩)
    ·go_simp
     have hD : ez w g br bd bX [.slice (some ⟨gI, 0, none⟩) n0 c0, .slice a1 n1 c1, .slice a2 n2 c2, .int .i64 z] m := by first | exact iZ.out | exact gV.out
     refine (mj _ 3 3 [-1, 0, 100] hD.c rfl (by omega) (by omega) _ rC.out (by intro b o h; simp at h; omega)).mono ?_; rintro e bK ⟨k, ⟨hk, rfl⟩, d8, hgx⟩; have qJ := J8 k hk; generalize ([-1, 0, 100] : List Int).getD k 0 = jv at *; have Ht := Hm (hD.cur cQ.out hgx d8); clear hD hgx d8 hk; go_wp2_with fail; refine aL hK (trivial) (fun hZ => ?_); clear hK K; refine bf 1 rfl fun K hK => ?_
     go_simp; have hD : ez w g br bd bK [.slice (some ⟨gI, 0, none⟩) n0 c0, .slice a1 n1 c1, .slice a2 n2 c2, .int .i64 z] m := by first | exact Ht.out | exact iZ.out | exact ie.out
     have p0 := hD.d.cell 0 _ rfl; go_simp; obtain ⟨fy, fA⟩ : ∃ x, x = bK := ⟨_, rfl⟩
     have gV : Hid (ez w g br bd fy [.slice (some ⟨gI, 0, none⟩) n0 c0, .slice a1 n1 c1, .slice a2 n2 c2, .int .i64 z] m) := by unfold Hid; rw [fA]; exact hD
     have eD : True := trivial
     (try rw [<- fA] at rC)
     rw [<- fA]; clear fA p0 hD; refine aL hK (trivial) (fun hZ => ?_); clear hK K; refine uq 5 ?_; refine uq 6 ?_; refine bf 7 rfl fun K hK => ?_
     have hD : ez w g br bd fy [.slice (some ⟨gI, 0, none⟩) n0 c0, .slice a1 n1 c1, .slice a2 n2 c2, .int .i64 z] m := by first | exact Ht.out | exact gV.out
     obtain ⟨gJ, Cm, ⟨u2, IY⟩, NT, Et, rE⟩ := hD.sure cQ.out Ki; injection Cm with Cm
     injection Cm with Cm _
     subst Cm; obtain ⟨m7, NU⟩ := rE jv qJ; have NV := Hm NU; clear rE NU; go_simp; obtain ⟨bR, pY⟩ : ∃ x, x = fy.setCell ⟨gI, 2, none⟩ (.int .i64 jv) := ⟨_, rfl⟩
     have HE : Hid (yR w g br bd bR [.slice (some ⟨gI, 0, none⟩) n0 c0, .slice a1 n1 c1, .slice a2 n2 c2, .int .i64 z] m7) := by unfold Hid; rw [pY]; exact NV.out
     rw [<- pY]; clear pY NV IY NT Et hD; refine aL hK (trivial) (fun hZ => ?_); clear hK K; refine dC ?_; have rD := HE.out.d; have kT := HE.out.r; obtain ⟨p0, p1, p2, p3⟩ := rD.c4; obtain ⟨q0, q1, q2, q3⟩ := kT.c4; obtain ⟨e0, e1, e2, e3⟩ := kT.f4; have le := kT.lt; have HP := Hm (fun W (hT : aw [br] bR W) (hz : W.heap.size = bR.heap.size) => HE.out.leave cQ.out hT hz); clear rD kT HE; go_wp2_with fail; refine bodyPost_ret (v := .agg #[.slice (some ⟨gI, 0, none⟩) n0 c0, .slice a1 n1 c1, .slice a2 n2 c2, .int .i64 z]) (by simp [results, Tryz.results17, go_sem, *]) rfl (show fO w g _ _ from ⟨[.slice (some ⟨gI, 0, none⟩) n0 c0, .slice a1 n1 c1, .slice a2 n2 c2, .int .i64 z], _, rfl, HP.out _ (bE _ _ _ _ _ _) (by simp)⟩)
  ·have Xg : n0 = 0 := by omega
   subst Xg; have HE := Hm HST.out.e; clear HST; have rD := HE.out.d; have kT := HE.out.r; obtain ⟨p0, p1, p2, p3⟩ := rD.c4; obtain ⟨q0, q1, q2, q3⟩ := kT.c4; obtain ⟨e0, e1, e2, e3⟩ := kT.f4; have le := kT.lt; have HP := Hm (fun W (hT : aw [br] w3 W) (hz : W.heap.size = w3.heap.size) => HE.out.leave cQ.out hT hz); clear rD kT HE; go_wp2_with fail; refine bodyPost_ret (v := .agg #[.slice a0 0 c0, .slice a1 n1 c1, .slice a2 n2 c2, .int .i64 z]) (by simp [results, Tryz.results17, go_sem, *]) rfl (show fO w g _ _ from ⟨[.slice a0 0 c0, .slice a1 n1 c1, .slice a2 n2 c2, .int .i64 z], _, rfl, HP.out _ (bE _ _ _ _ _ _) (by simp)⟩)
 ·have HE := Hm HST.out.e
  clear HST; have rD := HE.out.d; have kT := HE.out.r; obtain ⟨p0, p1, p2, p3⟩ := rD.c4; obtain ⟨q0, q1, q2, q3⟩ := kT.c4; obtain ⟨e0, e1, e2, e3⟩ := kT.f4; have le := kT.lt; have HP := Hm (fun W (hT : aw [br] w3 W) (hz : W.heap.size = w3.heap.size) => HE.out.leave cQ.out hT hz); clear rD kT HE; go_wp2_with fail; refine bodyPost_ret (v := .agg #[.slice a0 n0 c0, .slice a1 n1 c1, .slice a2 n2 c2, .int .i64 z]) (by simp [results, Tryz.results17, go_sem, *]) rfl (show fO w g _ _ from ⟨[.slice a0 n0 c0, .slice a1 n1 c1, .slice a2 n2 c2, .int .i64 z], _, rfl, HP.out _ (bE _ _ _ _ _ _) (by simp)⟩)
def zK (a b : ByteArray) : Bool := Op.bytesLess a.toList b.toList
theorem xO : ∀ {x y : List UInt8}, Op.bytesLess x y = true -> Op.bytesLess y x = false
 | _, [], h => by simp [Op.bytesLess] at h
 | [], _ :: _, _ => by simp [Op.bytesLess]
 | a :: x, b :: y, h => by
  simp only [Op.bytesLess, Bool.or_eq_true, Bool.and_eq_true, decide_eq_true_eq, beq_iff_eq, Bool.or_eq_false_iff, Bool.and_eq_false_iff, decide_eq_false_iff_not, beq_eq_false_iff_ne] at h ⊢; rcases h with h | ⟨rfl, h⟩
  ·exact ⟨fun h2 => absurd (UInt8.lt_trans h h2) (UInt8.lt_irrefl _), .inl (fun e => by subst e; exact UInt8.lt_irrefl _ h)⟩
  ·exact ⟨UInt8.lt_irrefl _, .inr (xO h)⟩
theorem Hu (x : List UInt8) : Op.bytesLess x x = false := by
 cases h : Op.bytesLess x x with
 | false => rfl
 | true => have := xO h; rw [h] at this; cases this
theorem Cn : ∀ {x y : List UInt8}, Op.bytesLess x y = false -> x ≠ y -> Op.bytesLess y x = true
 | [], [], _, hn => absurd rfl hn
 | _ :: _, [], _, _ => by simp [Op.bytesLess]
 | [], _ :: _, h, _ => by simp [Op.bytesLess] at h
 | a :: x, b :: y, h, hn => by
  simp only [Op.bytesLess, Bool.or_eq_true, Bool.and_eq_true, decide_eq_true_eq, beq_iff_eq, Bool.or_eq_false_iff, Bool.and_eq_false_iff, decide_eq_false_iff_not, beq_eq_false_iff_ne] at h ⊢
  by_cases hab : a = b
  ·subst hab
   right; refine ⟨rfl, Cn ?_ (fun e => hn (by rw [e]))⟩; rcases h.2 with h2 | h2
   ·exact absurd rfl h2
   ·exact h2
  ·left
   rcases UInt8.lt_or_lt_of_ne hab with h1 | h1
   ·exact absurd h1 h.1
   ·exact h1
theorem Co : ∀ {x y z : List UInt8}, Op.bytesLess x y = true -> Op.bytesLess y z = true -> Op.bytesLess x z = true
 | _, [], _, h, _ => by simp [Op.bytesLess] at h
 | _, _ :: _, [], _, h => by simp [Op.bytesLess] at h
 | [], _ :: _, _ :: _, _, _ => by simp [Op.bytesLess]
 | a :: x, b :: y, c :: z, h1, h2 => by
  simp only [Op.bytesLess, Bool.or_eq_true, Bool.and_eq_true, decide_eq_true_eq, beq_iff_eq] at h1 h2 ⊢; rcases h1 with h1 | ⟨rfl, h1⟩
  ·rcases h2 with h2 | ⟨rfl, h2⟩
   ·exact .inl (UInt8.lt_trans h1 h2)
   ·exact .inl h1
  ·rcases h2 with h2 | ⟨rfl, h2⟩
   ·exact .inl h2
   ·exact .inr ⟨rfl, Co h1 h2⟩
theorem PH {a b : ByteArray} : (a.toList == b.toList) = true ↔ a = b := by
 rw [beq_iff_eq, ByteArray.toList_eq, ByteArray.toList_eq]; constructor
 ·intro h
  cases a; cases b
  simpa using Array.toList_inj.1 h
 ·intro h; rw [h]
theorem k_ne {a b : ByteArray} (h : a ≠ b) : (a.toList == b.toList) = false := by
 rw [Bool.eq_false_iff]; exact fun e => h (PH.1 e)
theorem Kk {a b : ByteArray} (h : a = b) : (a.toList == b.toList) = true := PH.2 h
theorem Eu (s : ByteArray) : zK s s = false := Hu _
theorem zL {a b : ByteArray} (h : zK a b = true) : zK b a = false := xO h
theorem Hv {a b c : ByteArray} (h1 : zK a b = true) (h2 : zK b c = true) : zK a c = true := Co h1 h2
theorem FU {a b : ByteArray} (h1 : zK a b = false) (h2 : a ≠ b) : zK b a = true := Cn h1 (fun e => h2 (PH.1 (by rw [e]; simp)))
theorem NW (s : ByteArray) : s.toList.length = s.size := by
 rw [ByteArray.toList_eq]; simp
theorem SZ {s : ByteArray} (h : s.size = 0) : s.toList.isEmpty = true := by
 rw [List.isEmpty_iff]; apply List.eq_nil_of_length_eq_zero; rw [NW]; exact h
theorem Kl {s : ByteArray} (h : s.size ≠ 0) : s.toList.isEmpty = false := by
 rw [List.isEmpty_eq_false_iff]; intro e; have := NW s; rw [e] at this; exact h this.symm
structure aT where
 fD : Int
 aN : Int
 eo : ByteArray
 em : ByteArray
def xP : nS aT := fun B w cs m => cs = [.int .i64 m.fD, .int .i64 m.aN, .string m.eo, .string m.em] /\ (Lit.int .i64 m.fD).wf = true /\ (Lit.int .i64 m.aN).wf = true /\ m.eo.size <= 9223372036854775807 /\ m.em.size <= 9223372036854775807 /\ True
theorem fe : xP.Good :=
 ⟨fun ⟨h, h0, h1, h2, h3, _⟩ hb => ⟨h, h0, h1, h2, h3, trivial⟩, fun ⟨h, h0, h1, h2, h3, _⟩ hB => ⟨h, h0, h1, h2, h3, trivial⟩⟩
def vv : jy aT := fun w cs m F => cs = [.int .i64 m.fD, .int .i64 m.aN, .string m.eo, .string m.em] /\ (Lit.int .i64 m.fD).wf = true /\ (Lit.int .i64 m.aN).wf = true /\ m.eo.size <= 9223372036854775807 /\ m.em.size <= 9223372036854775807 /\ F = []
theorem bq : vv.Good xP 4 := by
 refine ⟨?_, ?_, ?_, ?_⟩
 ·rintro w w' cs m F ⟨rfl, h0, h1, h2, h3, rfl⟩ hb
  exact ⟨rfl, h0, h1, h2, h3, rfl⟩
 ·rintro w cs m F ⟨rfl, h0, h1, h2, h3, rfl⟩ k hk
  cases hk
 ·rintro w cs m F ⟨rfl, h0, h1, h2, h3, rfl⟩
  exact ⟨rfl, h0, h1, h2, h3, trivial⟩
 ·rintro w cs m F ⟨rfl, h0, h1, h2, h3, rfl⟩
  rfl
def kw (m : aT) : Nat := m.eo.size + m.em.size
structure aK where
 ah : Int
 ce : Int
 aD : List aT
def ct : nS aK := fun B w cs m => ∃ a2 : Option Addr, ∃ c2 : Nat, cs = [.int .i64 m.ah, .int .i64 m.ce, .slice a2 m.aD.length c2] /\ (Lit.int .i64 m.ah).wf = true /\ (Lit.int .i64 m.ce).wf = true /\ bw 4 xP B w a2 c2 m.aD /\ True
theorem aR : ct.Good :=
 ⟨fun ⟨a2, c2, h, h0, h1, h2, _⟩ hb => ⟨a2, c2, h, h0, h1, h2.below fe hb, trivial⟩, fun ⟨a2, c2, h, h0, h1, h2, _⟩ hB => ⟨a2, c2, h, h0, h1, h2.mono fe hB, trivial⟩⟩
def uF : jy aK := fun w cs m F => ∃ v2 : Value, ∃ F2 : List Nat, cs = [.int .i64 m.ah, .int .i64 m.ce, v2] /\ (Lit.int .i64 m.ah).wf = true /\ (Lit.int .i64 m.ce).wf = true /\ aF 4 50 vv w v2 m.aD F2 /\ F = F2 ++ []
theorem fI : uF.Good ct 3 := by
 refine ⟨?_, ?_, ?_, ?_⟩
 ·rintro w w' cs m F ⟨v2, F2, rfl, h0, h1, h2, rfl⟩ hb
  exact ⟨v2, F2, rfl, h0, h1, aF.frame bq h2 (fun k hk => hb k (by simp [hk])), rfl⟩
 ·rintro w cs m F ⟨v2, F2, rfl, h0, h1, h2, rfl⟩ k hk
  simp only [List.mem_append, List.not_mem_nil, or_false] at hk; exact aF.lt bq h2 k hk
 ·rintro w cs m F ⟨v2, F2, rfl, h0, h1, h2, rfl⟩
  obtain ⟨a2, c2, rfl, g2⟩ := aF.read bq h2; exact ⟨a2, c2, rfl, h0, h1, g2, trivial⟩
 ·rintro w cs m F ⟨v2, F2, rfl, h0, h1, h2, rfl⟩
  rfl
def fP (m : aK) : Nat := (m.aD.length + aP kw m.aD)
def jp (s : ByteArray) : Bool := decide (1 <= s.size /\ s.size <= 20)
def ko (a b : ByteArray) : Bool := !zK b a
theorem qL {a b c : ByteArray} (h1 : ko a b = true) (h2 : ko b c = true) : ko a c = true := by
 unfold ko at *; cases h : zK c a with
 | false => rfl
 | true =>
  exfalso
  by_cases hab : a = b
  ·subst hab; rw [h] at h2; cases h2
  ·have h3 : zK b a = false := by cases hx : zK b a with | false => rfl | true => rw [hx] at h1; cases h1
   have h4 := Hv h (FU h3 (fun e => hab e.symm)); rw [h4] at h2; cases h2
def iH (next : Int) (t : aT) : Bool :=
 decide (1 <= t.fD /\ t.fD <= next - 1) && decide (0 <= t.aN /\ t.aN <= 3) && jp t.eo && jp t.em && ko t.eo t.em
def lJ (t u : aT) : Bool := decide (0 < t.aN) && decide (u.aN = t.aN) && ko u.eo t.em && ko t.eo u.em
def je (l : List aT) : Int := (l.getLast?.map aT.fD).getD 0
theorem Cp (l : List aT) (t : aT) : je (l ++ [t]) = t.fD := by simp [je]
def dA (next : Int) : List aT -> List aT -> Bool
 | _, [] => true
 | seen, t :: r => iH next t && decide (je seen < t.fD) && seen.all (fun u => !lJ t u) && dA next (seen ++ [t]) r
def bO (m : aK) : Bool :=
 decide (1 <= m.ah /\ m.ah <= 100000) && decide (0 <= m.ce /\ m.ce <= m.ah - 1) && decide (m.aD.length <= 20) && dA m.ah [] m.aD
def kx (next : Int) (l : List aT) (k : Nat) (t : aT) : Bool := iH next t && decide (je (l.take k) < t.fD) && (l.take k).all (fun u => !lJ t u)
theorem zM {next : Int} {l : List aT} {k : Nat} (h : k < l.length) : dA next (l.take k) (l.drop k) = (kx next l k l[k] && dA next (l.take (k + 1)) (l.drop (k + 1))) := by
 rw [List.drop_eq_getElem_cons h, List.take_succ_eq_append_getElem h]; rfl
theorem Cq {next : Int} {l : List aT} {k : Nat} (h : l.length <= k) : dA next (l.take k) (l.drop k) = true := by
 rw [List.drop_eq_nil_of_le h]; rfl
theorem Cr {next : Int} {l : List aT} {k : Nat} (h : k < l.length) (hb : kx next l k l[k] = false) : dA next (l.take k) (l.drop k) = false := by
 rw [zM h, hb, Bool.false_and]
theorem zN {next : Int} {l : List aT} {k : Nat} (h : k < l.length) (hb : kx next l k l[k] = true) : dA next (l.take k) (l.drop k) = dA next (l.take (k + 1)) (l.drop (k + 1)) := by
 rw [zM h, hb, Bool.true_and]
theorem Ev {next : Int} {l : List aT} {k : Nat} {t : aT} (h : iH next t = false) : kx next l k t = false := by
 unfold kx; rw [h, Bool.false_and, Bool.false_and]
theorem Ew {next : Int} {l : List aT} {k : Nat} {t : aT} (h : t.fD <= je (l.take k)) : kx next l k t = false := by
 unfold kx; rw [decide_eq_false (by omega), Bool.and_false, Bool.false_and]
theorem Ex {next : Int} {l : List aT} {k j : Nat} {t : aT} (hj : j < k) (ur : j < l.length) (h : lJ t l[j] = true) : kx next l k t = false := by
 unfold kx
 have : (l.take k).all (fun u => !lJ t u) = false := by
  rw [List.all_eq_false]; refine ⟨l[j], ?_, by rw [h]; simp⟩; rw [List.mem_iff_getElem]; exact ⟨j, by simp; omega, by simp⟩
 rw [this, Bool.and_false]
theorem xQ {next : Int} {l : List aT} {k : Nat} {t : aT} (h1 : iH next t = true) (h2 : je (l.take k) < t.fD) (h3 : ∀ j, (hj : j < l.length) -> j < k -> lJ t l[j] = false) : kx next l k t = true := by
 unfold kx; rw [h1, decide_eq_true h2, Bool.true_and, Bool.true_and, List.all_eq_true]; intro u hu; obtain ⟨j, hj, rfl⟩ := List.mem_iff_getElem.1 hu; have ur : j < l.length /\ j < k := by simp at hj; omega
 have := h3 j ur.1 ur.2; simp [this]
theorem vw {l : List aT} {k : Nat} (h : k < l.length) : je (l.take (k + 1)) = l[k].fD := by
 rw [List.take_succ_eq_append_getElem h, Cp]
theorem Km {next : Int} {t : aT} (h : ¬ (1 <= t.fD /\ t.fD <= next - 1)) : iH next t = false := by unfold iH; rw [decide_eq_false h]; simp
def lK (t : aT) : Bool := decide (0 <= t.aN /\ t.aN <= 3) && jp t.eo && jp t.em && ko t.eo t.em
theorem Cs {next : Int} {t : aT} (h : 1 <= t.fD /\ t.fD <= next - 1) : iH next t = lK t := by unfold iH lK; rw [decide_eq_true h]; simp
def Ey (a b : ByteArray) : ByteArray := if zK a b then b else a
def AZ (a b : ByteArray) : ByteArray := if zK b a then b else a
theorem zO {a b : ByteArray} (h : zK a b = true) : ko a b = true := by unfold ko; rw [zL h]; rfl
theorem My (a c x : ByteArray) : ko (Ey a c) x = (ko a x && ko c x) := by
 unfold Ey
 by_cases h : zK a c = true
 ·rw [if_pos h]
  cases hc : ko c x with
  | false => simp
  | true => rw [qL (zO h) hc]; rfl
 ·rw [if_neg h]
  have h2 : ko c a = true := by unfold ko; rw [Bool.eq_false_iff.2 h]; rfl
  cases ha : ko a x with
  | false => simp
  | true => rw [qL h2 ha]; rfl
theorem FV (x b d : ByteArray) : ko x (AZ b d) = (ko x b && ko x d) := by
 unfold AZ
 by_cases h : zK d b = true
 ·rw [if_pos h]
  cases hc : ko x d with
  | false => simp
  | true => rw [qL hc (zO h)]; rfl
 ·rw [if_neg h]
  have h2 : ko b d = true := by unfold ko; rw [Bool.eq_false_iff.2 h]; rfl
  cases ha : ko x b with
  | false => simp
  | true => rw [qL ha h2]; rfl
theorem Kn (a b : ByteArray) : (Op.bytesLess a.toList b.toList || a.toList == b.toList) = ko a b := by
 unfold ko
 by_cases h : zK a b = true
 ·rw [zL h, show Op.bytesLess a.toList b.toList = true from h]; rfl
 ·have h' : Op.bytesLess a.toList b.toList = false := Bool.eq_false_iff.2 h
  rw [h', Bool.false_or]
  by_cases he : a = b
  ·rw [he, Eu]; simp
  ·rw [k_ne he, FU h' he]; rfl
theorem oX {a b : ByteArray} (h : ko a b = true) : Op.bytesLess a.toList b.toList = true ∨ (a.toList == b.toList) = true := by
 rw [<- Kn, Bool.or_eq_true] at h; exact h
theorem uG {a b : ByteArray} (h : ko a b = false) : Op.bytesLess a.toList b.toList = false /\ (a.toList == b.toList) = false := by
 rw [<- Kn, Bool.or_eq_false_iff] at h; exact h
theorem Hw {P : Program} {w : World} (ts : Array TypeId) (t : TypeId) (x y : ByteArray) : (Builtin.max_ ts t #[.string x, .string y]).run P w = .ok (.string (Ey x y)) w := by
 cases h : Op.bytesLess x.toList y.toList <;> simp [Builtin.max_, Builtin.max2, Op.stringOp, asBool, Ey, zK, h]
theorem Hx {P : Program} {w : World} (ts : Array TypeId) (t : TypeId) (x y : ByteArray) : (Builtin.min_ ts t #[.string x, .string y]).run P w = .ok (.string (AZ x y)) w := by
 have hx : (ko x y = true /\ AZ x y = x) ∨ (ko x y = false /\ AZ x y = y) := by
  unfold ko AZ; cases h : zK y x <;> simp
 rcases hx with ⟨h1, h2⟩ | ⟨h1, h2⟩
 ·rw [h2]
  rcases oX h1 with h | h
  ·simp [Builtin.min_, Builtin.min2, Op.stringOp, asBool, h]
  ·simp only [beq_iff_eq] at h
   simp [Builtin.min_, Builtin.min2, Op.stringOp, asBool, h]
 ·rw [h2]
  obtain ⟨h3, h4⟩ := uG h1; simp only [beq_eq_false_iff_ne, ne_eq] at h4; simp [Builtin.min_, Builtin.min2, Op.stringOp, asBool, h3, h4]
def lF (t : aT) (lo hi : ByteArray) : Bool := ko (Ey t.eo lo) (AZ t.em hi)
theorem xR {t u : aT} (ht : ko t.eo t.em = true) (hu : ko u.eo u.em = true) : lF u t.eo t.em = (ko u.eo t.em && ko t.eo u.em) := by
 unfold lF; rw [My, FV, FV, ht, hu]; simp
def nN (t : aT) (l : List aT) : Bool := decide (t.aN = 0) || l.all (fun o => !(decide (o.aN = t.aN) && lF o t.eo t.em))
theorem Hy {t : aT} {l : List aT} (ht : ko t.eo t.em = true) (hl : 0 <= t.aN) (hu : ∀ u, u ∈ l -> ko u.eo u.em = true) : nN t l = l.all (fun u => !lJ t u) := by
 unfold nN
 by_cases h0 : t.aN = 0
 ·rw [decide_eq_true h0, Bool.true_or]
  symm
  rw [List.all_eq_true]; intro u _; simp [lJ, h0]
 ·rw [decide_eq_false h0, Bool.false_or, Bool.eq_iff_iff, List.all_eq_true, List.all_eq_true]
  have h1 : decide (0 < t.aN) = true := decide_eq_true (by omega); constructor
  ·intro h u hm
   have := h u hm; rw [xR ht (hu u hm)] at this; unfold lJ; rw [h1, Bool.true_and, Bool.and_assoc]; exact this
  ·intro h u hm
   have := h u hm; unfold lJ at this; rw [h1, Bool.true_and, Bool.and_assoc] at this; rw [xR ht (hu u hm)]; exact this
theorem Ct {t : aT} (h : lK t = true) : ko t.eo t.em = true /\ 0 <= t.aN := by
 simp only [lK, Bool.and_eq_true, decide_eq_true_eq] at h; exact ⟨h.2, h.1.1.1.1⟩
theorem Ez {next : Int} {l : List aT} {k : Nat} {t : aT} (h0 : 0 <= je (l.take k)) (hu : ∀ u, u ∈ l.take k -> ko u.eo u.em = true) :
  kx next l k t = (decide (je (l.take k) < t.fD) && decide (t.fD < next) && lK t && nN t (l.take k)) := by
 unfold kx
 by_cases h1 : je (l.take k) < t.fD
 ·by_cases h2 : t.fD < next
  ·rw [Cs ⟨by omega, by omega⟩, decide_eq_true h1, decide_eq_true h2]
   cases hr : lK t with
   | false => simp
   | true =>
    obtain ⟨h3, h4⟩ := Ct hr; rw [Hy h3 h4 hu]; simp
  ·rw [Km (by omega), decide_eq_false h2]; simp
 ·rw [decide_eq_false h1]; simp
end Go.Proofs.YtcamcgfbljhbhaaGreatDoor
