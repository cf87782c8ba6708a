/-
  Part 20 of the texts that the proof leans on.
-/
import Derived.Test.YtcamcgfbljhbhaaGreatDoorMan0
import Derived.Test.YtcamcgfbljhbhaaGreatDoorMan18
import Derived.Test.YtcamcgfbljhbhaaGreatDoorMan9
import Derived.Test.YtcamcgfbljhbhaaGreatDoorMan8
set_option linter.unusedVariables false
set_option linter.unusedSimpArgs false
set_option maxRecDepth 10000
set_option maxHeartbeats 20000000

namespace Go.Proofs.YtcamcgfbljhbhaaGreatDoor
open Go.RowKit Go.Maps
theorem S2 (j : Nat) (h : j < 4) : (Lit.int .i64 (([0, 1, 100000, 100001] : List Int).getD j 0)).wf = true := by
 match j, h with
 | 0, _ => rfl
 | 1, _ => rfl
 | 2, _ => rfl
 | 3, _ => rfl
section
variable {w : World} {g br bm : Nat} {W W' : World} {nx lg : Int} {v v' : Value} {l l' : List aT}
theorem eJ.PQ (hp : Kt w g br bm) (h : eJ w g br bm W nx lg v l) (x : Int) : eJ w g br bm (W.setCell ⟨bm, 0, none⟩ (.int .i64 x)) x lg v l := by
 have hT : aw [bm] W (W.setCell ⟨bm, 0, none⟩ (.int .i64 x)) := (aw.refl _ _).setCell (by simp) _; have h1 := hp.g; have h2 := hp.r; have h3 := hp.m; have h4 := hp.n; refine ⟨h.c.turn hT (by omega), h.t.join hT (fun k hk => by simp at hk; right; omega), h.r.turn hT (by simp; omega), h.m.put 0 _, h.o.turn hT (fun k hk hm => ?_)⟩; simp at hm; subst hm; exact ea h.m h.o.1 (by decide) hk
theorem eJ.PR (hp : Kt w g br bm) (h : eJ w g br bm W nx lg v l) (x : Int) : eJ w g br bm (W.setCell ⟨bm, 1, none⟩ (.int .i64 x)) nx x v l := by
 have hT : aw [bm] W (W.setCell ⟨bm, 1, none⟩ (.int .i64 x)) := (aw.refl _ _).setCell (by simp) _; have h1 := hp.g; have h2 := hp.r; have h3 := hp.m; have h4 := hp.n; refine ⟨h.c.turn hT (by omega), h.t.join hT (fun k hk => by simp at hk; right; omega), h.r.turn hT (by simp; omega), h.m.put 1 _, h.o.turn hT (fun k hk hm => ?_)⟩; simp at hm; subst hm; exact ea h.m h.o.1 (by decide) hk
structure Dz (w : World) (g br bm : Nat) (W : World) (nx lg : Int) (v v' : Value) (l' : List aT) : Prop where
 c : b5 W g
 t : aw [g] w W
 r : Bw W br 30 [.int .i64 0, .int .i64 0, .slice none 0 0]
 m : Bw W bm 30 [.int .i64 nx, .int .i64 lg, v]
 o : eu W w.heap.size v' l'
theorem Dz.grow (hp : Kt w g br bm) (h : eJ w g br bm W nx lg v l) (hg : W.grownBy W' v.ownBlock) (ho : eu W' w.heap.size v' l') : Dz w g br bm W' nx lg v v' l' := by
 have hT : aw v.ownBlock.toList W W' := dE hg; have h1 := hp.g; have h2 := hp.r; have h3 := hp.m; have hk : ∀ k, v.ownBlock = some k -> w.heap.size <= k := fun k hk => (h.o.1.lt k hk).1
 refine ⟨h.c.grown hg (fun k e => by have := hk k e; omega), h.t.join hT (fun k hm => .inr (hk k (by simpa using hm))), h.r.turn hT (fun hm => ea h.r h.o.1 (by decide) (by simpa using hm)), h.m.turn hT (fun hm => ea h.m h.o.1 (by decide) (by simpa using hm)), ho⟩
theorem Dz.H6 (hp : Kt w g br bm) (h : Dz w g br bm W nx lg v v' l') : eJ w g br bm (W.setCell ⟨bm, 2, none⟩ v') nx lg v' l' := by
 have hT : aw [bm] W (W.setCell ⟨bm, 2, none⟩ v') := (aw.refl _ _).setCell (by simp) _; have h1 := hp.g; have h2 := hp.r; have h3 := hp.m; have h4 := hp.n; refine ⟨h.c.turn hT (by omega), h.t.join hT (fun k hk => by simp at hk; right; omega), h.r.turn hT (by simp; omega), h.m.put 2 _, h.o.turn hT (fun k hk hm => ?_)⟩; simp at hm; subst hm; exact ea h.m h.o.1 (by decide) hk
end
theorem S3 (nx : Int) (hw : (Lit.int .i64 nx).wf = true) (j : Nat) (h : j < 3) : (Lit.int .i64 (([-1, 0, nx] : List Int).getD j 0)).wf = true := by
 match j, h with
 | 0, _ => rfl
 | 1, _ => rfl
 | 2, _ => exact hw
theorem tP {g : Nat} {w : World} (hc : b5 w g) :
  Calls Tryz.prog 18 #[.pointer (some ⟨g, 0, none⟩)] w fun e w' => vQ w g 7 e w' := by
 obtain ⟨iT, Cl, hz0, hz1, hz2⟩ := info_parts Tryz.xT; have HI : Hid (_ /\ _ /\ _ /\ _) := ⟨Cl, hz0, hz1, hz2⟩
 clear Cl hz0 hz1 hz2; have iV := hc.lt; obtain ⟨w0, hw0⟩ : ∃ x, x = w.alloc (.cells #[.int .i64 0, .int .i64 0, .slice none 0 0] 30) := ⟨_, rfl⟩
 have hx0 : Below w.heap.size w w0 := by rw [hw0]; exact rB.alloc rN _
 have hbr : Bw w0 w.heap.size 30 [.int .i64 0, .int .i64 0, .slice none 0 0] := by rw [hw0]; exact Bw.new _ _ _
 have hz0 : w.heap.size < w0.heap.size := hbr.lt; go_enter Tryz.func18, Tryz.ntmps18; go_wp2_with (rw [<- hw0])
 try rw [<- hw0]
 clear hw0; refine (H4 (hc.below hx0)).mono ?_; rintro e w1 ⟨nx, lg, v, l, rfl, ⟨B0, B9⟩, Hr, Kv, hc1, qU⟩; obtain ⟨al, cl, rfl, _⟩ := Hr.leaf; have hsz := qU.size; go_wp2_with fail; obtain ⟨w2, hw2⟩ : ∃ x, x = w1.alloc (.cells #[.int .i64 nx, .int .i64 lg, .slice al l.length cl] 30) := ⟨_, rfl⟩
 have hx2 : Below w1.heap.size w1 w2 := by rw [hw2]; exact rB.alloc rN _
 have dl : Bw w2 w1.heap.size 30 [.int .i64 nx, .int .i64 lg, .slice al l.length cl] := by rw [hw2]; exact Bw.new _ _ _
 rw [<- hw2]; obtain ⟨bm, Hz⟩ : ∃ x, x = w1.heap.size := ⟨_, rfl⟩
 rw [<- Hz] at dl ⊢; obtain ⟨br, vN⟩ : ∃ x, x = w.heap.size := ⟨_, rfl⟩
 have cQ : Hid (Kt w g br bm) := ⟨iV, by omega, by omega, by omega⟩
 have Ku : Hid (eJ w g br bm w2 nx lg (.slice al l.length cl) l) := by
  rw [vN]; exact ⟨hc1.below hx2, ((aw.bz hx0).trans qU).trans (aw.bz hx2), (hbr.turn qU (by simp; omega)).under hx2, dl, ⟨aA (ep Hr.1 (by omega)) hx2, Hr.2⟩⟩
 rw [<- vN]; clear hw2 hx2 Hz hx0 hbr vN hz0 Hr hc1 qU hsz hc iV dl; refine (cz 10 Ku.out.c).mono ?_; rintro e w3 ⟨y, rfl, hy, d8, hgx⟩; have NS := hy.1; have dx := Hm (Ku.out.cur cQ.out hgx d8); clear hy d8 hgx Ku
 by_cases y0 : y = 0
 ·subst y0
  have jL : Below w3.heap.size w3 (w3.alloc (.cells (([0, 1, 100000, 100001] : List Int).map (Value.int .i64)).toArray 3)) := rB.alloc rN _; have J9 := Hm (dx.out.below jL); have iV := dx.out.c.lt; have qQ := uo .i64 w3 [0, 1, 100000, 100001] 3; have xb := Hm (mj _ 4 4 [0, 1, 100000, 100001] J9.out.c rfl (by omega) (by omega) _ qQ (by intro b o h; simp at h; omega)); have yn := dx.out.m.cell 0 _ rfl; clear qQ jL dx; go_wp2_with fail; refine Calls.mono xb.out ?_; rintro e w4 ⟨k, ⟨hk, rfl⟩, G5, hg4⟩; have qJ := S2 k hk; generalize ([0, 1, 100000, 100001] : List Int).getD k 0 = jv at *; have xK := Hm (J9.out.cur cQ.out hg4 G5); clear xb J9 G5 hg4 hk yn iV; have o0 := xK.out.m.cell 0 _ rfl; have g0 := xK.out.m.free 0; have lm := xK.out.m.lt; obtain ⟨WW, Es⟩ : ∃ x, x = w4.setCell ⟨bm, 0, none⟩ (.int .i64 jv) := ⟨_, rfl⟩
  have HE : Hid (eJ w g br bm WW jv lg (.slice al l.length cl) l) := by unfold Hid; rw [Es]; exact xK.out.PQ cQ.out jv
  clear xK; have y0 := HE.out.m.cell 0 _ rfl; have f0 := HE.out.r.free 0; have q0 := HE.out.r.cell 0 _ rfl; have y1 := HE.out.m.cell 1 _ rfl; have f1 := HE.out.r.free 1; have q1 := HE.out.r.cell 1 _ rfl; have y2 := HE.out.m.cell 2 _ rfl; have f2 := HE.out.r.free 2; have q2 := HE.out.r.cell 2 _ rfl; have le := HE.out.r.lt; have HF := Hm (HE.out.leave cQ.out (.int .i64 jv) (.int .i64 lg) (.slice al l.length cl)); clear HE; rw [Es] at y0 y1 y2 f0 f1 f2 q0 q1 q2 le HF; clear Es; go_wp2_with fail; refine bodyPost_ret (v := .agg #[.int .i64 jv, .int .i64 lg, (.slice al l.length cl)]) (by simp [results, Tryz.results18, go_sem, *]) rfl (show vQ w g 7 _ _ from ⟨jv, lg, _, l, rfl, ⟨qJ, B9⟩, HF.out.1, by omega, HF.out.2.1, HF.out.2.2⟩)
 by_cases y1 : y = 1
 ·subst y1
  clear y0 NS; have jL : Below w3.heap.size w3 (w3.alloc (.cells (([-1, 0, nx] : List Int).map (Value.int .i64)).toArray 3)) := rB.alloc rN _; have J9 := Hm (dx.out.below jL); have iV := dx.out.c.lt; have qQ := uo .i64 w3 [-1, 0, nx] 3; have xb := Hm (mj _ 3 3 [-1, 0, nx] J9.out.c rfl (by omega) (by omega) _ qQ (by intro b o h; simp at h; omega)); have yn := dx.out.m.cell 0 _ rfl; clear qQ jL dx; go_wp2_with fail; refine Calls.mono xb.out ?_; rintro e w4 ⟨k, ⟨hk, rfl⟩, G5, hg4⟩; have qJ := S3 nx B0 k hk; generalize ([-1, 0, nx] : List Int).getD k 0 = jv at *; have xK := Hm (J9.out.cur cQ.out hg4 G5); clear xb J9 G5 hg4 hk yn iV; have o1 := xK.out.m.cell 1 _ rfl; have g1 := xK.out.m.free 1; have lm := xK.out.m.lt; obtain ⟨WW, Es⟩ : ∃ x, x = w4.setCell ⟨bm, 1, none⟩ (.int .i64 jv) := ⟨_, rfl⟩
  have HE : Hid (eJ w g br bm WW nx jv (.slice al l.length cl) l) := by unfold Hid; rw [Es]; exact xK.out.PR cQ.out jv
  clear xK; have y0 := HE.out.m.cell 0 _ rfl; have f0 := HE.out.r.free 0; have q0 := HE.out.r.cell 0 _ rfl; have y1 := HE.out.m.cell 1 _ rfl; have f1 := HE.out.r.free 1; have q1 := HE.out.r.cell 1 _ rfl; have y2 := HE.out.m.cell 2 _ rfl; have f2 := HE.out.r.free 2; have q2 := HE.out.r.cell 2 _ rfl; have le := HE.out.r.lt; have HF := Hm (HE.out.leave cQ.out (.int .i64 nx) (.int .i64 jv) (.slice al l.length cl)); clear HE; rw [Es] at y0 y1 y2 f0 f1 f2 q0 q1 q2 le HF; clear Es; go_wp2_with fail; refine bodyPost_ret (v := .agg #[.int .i64 nx, .int .i64 jv, (.slice al l.length cl)]) (by simp [results, Tryz.results18, go_sem, *]) rfl (show vQ w g 7 _ _ from ⟨nx, jv, _, l, rfl, ⟨B0, qJ⟩, HF.out.1, by omega, HF.out.2.1, HF.out.2.2⟩)
 by_cases y2 : y = 2
 ·subst y2
  clear y0 y1 NS; go_wp2_with fail; refine vE (fun W => True) (trivial) (fun hZ => ?_); obtain ⟨wS, jU⟩ : ∃ wS, wS = w3.drew := ⟨_, rfl⟩
  have ie : Hid (eJ w g br bm wS nx lg (.slice al l.length cl) l) := by unfold Hid; rw [jU]; exact dx.out.below (Below.drew rB)
  rw [<- jU]; clear jU dx; refine uq 0 ?_; refine uq 2 ?_; refine uq 4 ?_; refine uq 6 ?_; refine uq 8 ?_; refine lM [1, 3] ?_; refine (AllReadyH.cons (aM rfl) (fun K hK => ?_) (AllReadyH.cons (aM rfl) (fun K hK => ?_) AllReadyH.nil))
  ·go_simp
   have hD : eJ w g br bm wS nx lg (.slice al l.length cl) l := (by first | exact iK.out | exact mb.out | exact vu.out | exact ub.out | exact iZ.out | exact ie.out)
   have p2 := hD.m.cell 2 _ rfl; go_simp; obtain ⟨fy, km⟩ : ∃ x, x = wS := ⟨_, rfl⟩
   have gV : Hid (eJ w g br bm fy nx lg (.slice al l.length cl) l) := by unfold Hid; rw [km]; exact hD
   (try rw [<- km] at bW)
   rw [<- km]; clear km p2 hD; refine aL hK (trivial) (fun hZ => ?_); clear hK K; refine bf 3 rfl fun K hK => ?_
   go_simp; have hD : eJ w g br bm fy nx lg (.slice al l.length cl) l := (by first | exact gV.out | exact ie.out)
   refine (cz 4 hD.c).mono ?_; rintro e bX ⟨t1, rfl, qU, d8, hgx⟩; have di : (Lit.int .i64 t1).wf = true := WalkArith.wf_i64 (by omega); have iZ := Hm (hD.cur cQ.out hgx d8); clear hD hgx d8 qU; go_wp2_with fail; refine aL hK (trivial) (fun hZ => ?_); clear hK K; refine bf 5 rfl fun K hK => ?_
   go_simp; have hD : eJ w g br bm bX nx lg (.slice al l.length cl) l := (by first | exact gV.out | exact iZ.out)
   refine (cz 5 hD.c).mono ?_; rintro e gw ⟨t2, rfl, tL, d8, hgx⟩; have hw2 : (Lit.int .i64 t2).wf = true := WalkArith.wf_i64 (by omega); have ub := Hm (hD.cur cQ.out hgx d8); clear hD hgx d8 tL; go_wp2_with fail; refine aL hK (trivial) (fun hZ => ?_); clear hK K; refine bf 7 rfl fun K hK => ?_
   go_simp; have hD : eJ w g br bm gw nx lg (.slice al l.length cl) l := (by first | exact gV.out | exact ub.out)
   refine (gz hD.c).mono ?_; rintro e bR ⟨s1, ⟨rfl, hs1⟩, d8, hgx⟩; have vu := Hm (hD.cur cQ.out hgx d8); clear hD hgx d8; go_wp2_with fail; refine aL hK (trivial) (fun hZ => ?_); clear hK K; refine bf 9 rfl fun K hK => ?_
   go_simp; have hD : eJ w g br bm bR nx lg (.slice al l.length cl) l := (by first | exact gV.out | exact vu.out)
   refine (gz hD.c).mono ?_; rintro e cB ⟨s2, ⟨rfl, hs2⟩, d8, hgx⟩; have mb := Hm (hD.cur cQ.out hgx d8); clear hD hgx d8; go_wp2_with fail; refine aL hK (trivial) (fun hZ => ?_); clear hK K; refine uq 10 ?_; refine bf 11 rfl fun K hK => ?_
   go_simp; have hD : eJ w g br bm cB nx lg (.slice al l.length cl) l := (by first | exact gV.out | exact mb.out)
   obtain ⟨aO, bp⟩ : ∃ x, x = cB.alloc (.cells (List.toArray [.int .i64 t1, .int .i64 t2, .string s1, .string s2]) 50) := ⟨_, rfl⟩
   have iL : Below cB.heap.size cB aO := by rw [bp]; exact rB.alloc rN _
   have mK : Bx aO cB.heap.size [.int .i64 t1, .int .i64 t2, .string s1, .string s2] := (by rw [bp]; exact Bx.new _ _ _)
   obtain ⟨g11, jz⟩ : ∃ g, Hid (g = cB.heap.size) := ⟨_, Hm rfl⟩
   rw [<- jz.out] at mK ⊢; rw [<- bp]; have iK := Hm (hD.below iL); have bW := Hm mK; clear bp mK iL hD; refine aL hK (trivial) (fun hZ => ?_); clear hK K; refine bf 12 rfl fun K hK => ?_
   have hD : eJ w g br bm aO nx lg (.slice al l.length cl) l := (by first | exact gV.out | exact iK.out)
   have ew := hD.o.1; refine a6 _ rfl _ _ 28 28 rfl w.heap.size 50 iT (.agg (List.toArray [.int .i64 0, .int .i64 0, .string ⟨List.toArray []⟩, .string ⟨List.toArray []⟩])) 4 48 Tryz.underlying28 HI.out.1 HI.out.2.1 HI.out.2.2.1 HI.out.2.2.2 rfl (.slice al l.length cl) l.length (jq l) rfl ew (.slice (some ⟨g11, 0, none⟩) 1 1) rfl 1 [.int .i64 t1, .int .i64 t2, .string s1, .string s2] (Src.ofSlice _ Tryz.underlying28 ⟨g11, 0, none⟩ 1 1 _ rfl (b8 bW.out) (by intro u hu; simp at hu; rcases hu with rfl | rfl | rfl | rfl <;> rfl)) (by unfold maxLen; omega) (by omega) (Nat.le_trans cQ.out.r (Nat.le_of_lt hD.r.lt)) ?_; intro v12 cZ dY p8 dP; obtain ⟨ic, jn, rfl⟩ := bk dY; have ik : Hid (Dz w g br bm cZ nx lg (.slice al l.length cl) (.slice ic (l.length + 1) jn) (l ++ [⟨t1, t2, s1, s2⟩])) := Hm (Dz.grow cQ.out hD p8 (eu.snoc dY rN rfl hD.o.2 ⟨di, hw2, hs1, hs2⟩)); clear dY p8 dP hD ew; refine aL hK (trivial) (fun hZ => ?_); clear hK K; refine uq 13 ?_; refine bf 14 rfl fun K hK => ?_
   go_simp; have hN := ik.out; have p2 := hN.m.cell 2 _ rfl; have e2 := hN.m.free 2; have le := hN.m.lt; go_simp; obtain ⟨im, dR⟩ : ∃ x, x = cZ.setCell ⟨bm, 2, none⟩ (.slice ic (l.length + 1) jn) := ⟨_, rfl⟩
   have HE : Hid (eJ w g br bm im nx lg (.slice ic (l.length + 1) jn) (l ++ [⟨t1, t2, s1, s2⟩])) := by unfold Hid; rw [dR]; exact hN.H6 cQ.out
   rw [<- dR]; clear dR p2 e2 le hN; refine aL hK (trivial) (fun hZ => ?_); clear hK K; refine dC ?_; have y0 := HE.out.m.cell 0 _ rfl; have f0 := HE.out.r.free 0; have q0 := HE.out.r.cell 0 _ rfl; have y1 := HE.out.m.cell 1 _ rfl; have f1 := HE.out.r.free 1; have q1 := HE.out.r.cell 1 _ rfl; have y2 := HE.out.m.cell 2 _ rfl; have f2 := HE.out.r.free 2; have q2 := HE.out.r.cell 2 _ rfl; have le := HE.out.r.lt; have HF := Hm (HE.out.leave cQ.out (.int .i64 nx) (.int .i64 lg) (.slice ic (l.length + 1) jn)); clear HE; go_wp2_with fail; refine bodyPost_ret (v := .agg #[.int .i64 nx, .int .i64 lg, (.slice ic (l.length + 1) jn)]) (by simp [results, Tryz.results18, go_sem, *]) rfl (show vQ w g 7 _ _ from ⟨nx, lg, _, l ++ [⟨t1, t2, s1, s2⟩], rfl, ⟨B0, B9⟩, HF.out.1, by simp; omega, HF.out.2.1, HF.out.2.2⟩)
  ·go_simp
   have hD : eJ w g br bm wS nx lg (.slice al l.length cl) l := (by first | exact gV.out | exact ie.out)
   refine (cz 4 hD.c).mono ?_; rintro e bX ⟨t1, rfl, qU, d8, hgx⟩; have di : (Lit.int .i64 t1).wf = true := WalkArith.wf_i64 (by omega); have iZ := Hm (hD.cur cQ.out hgx d8); clear hD hgx d8 qU; go_wp2_with fail; refine aL hK (trivial) (fun hZ => ?_); clear hK K; refine lM [1, 5] ?_; refine (AllReadyH.cons (aM rfl) (fun K hK => ?_) (AllReadyH.cons (aM rfl) (fun K hK => ?_) AllReadyH.nil))
   ·go_simp
    have hD : eJ w g br bm bX nx lg (.slice al l.length cl) l := (by first | exact iK.out | exact mb.out | exact vu.out | exact ub.out | exact iZ.out | exact ie.out)
    have p2 := hD.m.cell 2 _ rfl; go_simp; obtain ⟨fy, km⟩ : ∃ x, x = bX := ⟨_, rfl⟩
    have gV : Hid (eJ w g br bm fy nx lg (.slice al l.length cl) l) := by unfold Hid; rw [km]; exact hD
    (try rw [<- km] at bW)
    rw [<- km]; clear km p2 hD; refine aL hK (trivial) (fun hZ => ?_); clear hK K; refine bf 5 rfl fun K hK => ?_
    go_simp; have hD : eJ w g br bm fy nx lg (.slice al l.length cl) l := (by first | exact gV.out | exact iZ.out)
    refine (cz 5 hD.c).mono ?_; rintro e gw ⟨t2, rfl, tL, d8, hgx⟩; have hw2 : (Lit.int .i64 t2).wf = true := WalkArith.wf_i64 (by omega); have ub := Hm (hD.cur cQ.out hgx d8); clear hD hgx d8 tL; go_wp2_with fail; refine aL hK (trivial) (fun hZ => ?_); clear hK K; refine bf 7 rfl fun K hK => ?_
    go_simp; have hD : eJ w g br bm gw nx lg (.slice al l.length cl) l := (by first | exact gV.out | exact ub.out)
    refine (gz hD.c).mono ?_; rintro e bR ⟨s1, ⟨rfl, hs1⟩, d8, hgx⟩; have vu := Hm (hD.cur cQ.out hgx d8); clear hD hgx d8; go_wp2_with fail; refine aL hK (trivial) (fun hZ => ?_); clear hK K; refine bf 9 rfl fun K hK => ?_
    go_simp; have hD : eJ w g br bm bR nx lg (.slice al l.length cl) l := (by first | exact gV.out | exact vu.out)
    refine (gz hD.c).mono ?_; rintro e cB ⟨s2, ⟨rfl, hs2⟩, d8, hgx⟩; have mb := Hm (hD.cur cQ.out hgx d8); clear hD hgx d8; go_wp2_with fail; refine aL hK (trivial) (fun hZ => ?_); clear hK K; refine uq 10 ?_; refine bf 11 rfl fun K hK => ?_
    go_simp; have hD : eJ w g br bm cB nx lg (.slice al l.length cl) l := (by first | exact gV.out | exact mb.out)
    obtain ⟨aO, bp⟩ : ∃ x, x = cB.alloc (.cells (List.toArray [.int .i64 t1, .int .i64 t2, .string s1, .string s2]) 50) := ⟨_, rfl⟩
    have iL : Below cB.heap.size cB aO := by rw [bp]; exact rB.alloc rN _
    have mK : Bx aO cB.heap.size [.int .i64 t1, .int .i64 t2, .string s1, .string s2] := (by rw [bp]; exact Bx.new _ _ _)
    obtain ⟨g11, jz⟩ : ∃ g, Hid (g = cB.heap.size) := ⟨_, Hm rfl⟩
    rw [<- jz.out] at mK ⊢; rw [<- bp]; have iK := Hm (hD.below iL); have bW := Hm mK; clear bp mK iL hD; refine aL hK (trivial) (fun hZ => ?_); clear hK K; refine bf 12 rfl fun K hK => ?_
    have hD : eJ w g br bm aO nx lg (.slice al l.length cl) l := (by first | exact gV.out | exact iK.out)
    have ew := hD.o.1; refine a6 _ rfl _ _ 28 28 rfl w.heap.size 50 iT (.agg (List.toArray [.int .i64 0, .int .i64 0, .string ⟨List.toArray []⟩, .string ⟨List.toArray []⟩])) 4 48 Tryz.underlying28 HI.out.1 HI.out.2.1 HI.out.2.2.1 HI.out.2.2.2 rfl (.slice al l.length cl) l.length (jq l) rfl ew (.slice (some ⟨g11, 0, none⟩) 1 1) rfl 1 [.int .i64 t1, .int .i64 t2, .string s1, .string s2] (Src.ofSlice _ Tryz.underlying28 ⟨g11, 0, none⟩ 1 1 _ rfl (b8 bW.out) (by intro u hu; simp at hu; rcases hu with rfl | rfl | rfl | rfl <;> rfl)) (by unfold maxLen; omega) (by omega) (Nat.le_trans cQ.out.r (Nat.le_of_lt hD.r.lt)) ?_; intro v12 cZ dY p8 dP; obtain ⟨ic, jn, rfl⟩ := bk dY; have ik : Hid (Dz w g br bm cZ nx lg (.slice al l.length cl) (.slice ic (l.length + 1) jn) (l ++ [⟨t1, t2, s1, s2⟩])) := Hm (Dz.grow cQ.out hD p8 (eu.snoc dY rN rfl hD.o.2 ⟨di, hw2, hs1, hs2⟩)); clear dY p8 dP hD ew; refine aL hK (trivial) (fun hZ => ?_); clear hK K; refine uq 13 ?_; refine bf 14 rfl fun K hK => ?_
    go_simp; have hN := ik.out; have p2 := hN.m.cell 2 _ rfl; have e2 := hN.m.free 2; have le := hN.m.lt; go_simp; obtain ⟨im, dR⟩ : ∃ x, x = cZ.setCell ⟨bm, 2, none⟩ (.slice ic (l.length + 1) jn) := ⟨_, rfl⟩
    have HE : Hid (eJ w g br bm im nx lg (.slice ic (l.length + 1) jn) (l ++ [⟨t1, t2, s1, s2⟩])) := by unfold Hid; rw [dR]; exact hN.H6 cQ.out
    rw [<- dR]; clear dR p2 e2 le hN; refine aL hK (trivial) (fun hZ => ?_); clear hK K; refine dC ?_; have y0 := HE.out.m.cell 0 _ rfl; have f0 := HE.out.r.free 0; have q0 := HE.out.r.cell 0 _ rfl; have y1 := HE.out.m.cell 1 _ rfl; have f1 := HE.out.r.free 1; have q1 := HE.out.r.cell 1 _ rfl; have y2 := HE.out.m.cell 2 _ rfl; have f2 := HE.out.r.free 2; have q2 := HE.out.r.cell 2 _ rfl; have le := HE.out.r.lt; have HF := Hm (HE.out.leave cQ.out (.int .i64 nx) (.int .i64 lg) (.slice ic (l.length + 1) jn)); clear HE; go_wp2_with fail; refine bodyPost_ret (v := .agg #[.int .i64 nx, .int .i64 lg, (.slice ic (l.length + 1) jn)]) (by simp [results, Tryz.results18, go_sem, *]) rfl (show vQ w g 7 _ _ from ⟨nx, lg, _, l ++ [⟨t1, t2, s1, s2⟩], rfl, ⟨B0, B9⟩, HF.out.1, by simp; omega, HF.out.2.1, HF.out.2.2⟩)
   ·go_simp
    have hD : eJ w g br bm bX nx lg (.slice al l.length cl) l := (by first | exact gV.out | exact iZ.out)
    refine (cz 5 hD.c).mono ?_; rintro e gw ⟨t2, rfl, tL, d8, hgx⟩; have hw2 : (Lit.int .i64 t2).wf = true := WalkArith.wf_i64 (by omega); have ub := Hm (hD.cur cQ.out hgx d8); clear hD hgx d8 tL; go_wp2_with fail; refine aL hK (trivial) (fun hZ => ?_); clear hK K; refine lM [1, 7] ?_; refine (AllReadyH.cons (aM rfl) (fun K hK => ?_) (AllReadyH.cons (aM rfl) (fun K hK => ?_) AllReadyH.nil))
    ·go_simp
     have hD : eJ w g br bm gw nx lg (.slice al l.length cl) l := (by first | exact iK.out | exact mb.out | exact vu.out | exact ub.out | exact iZ.out | exact ie.out)
     have p2 := hD.m.cell 2 _ rfl; go_simp; obtain ⟨fy, km⟩ : ∃ x, x = gw := ⟨_, rfl⟩
     have gV : Hid (eJ w g br bm fy nx lg (.slice al l.length cl) l) := by unfold Hid; rw [km]; exact hD
     (try rw [<- km] at bW)
     rw [<- km]; clear km p2 hD; refine aL hK (trivial) (fun hZ => ?_); clear hK K; refine bf 7 rfl fun K hK => ?_
     go_simp; have hD : eJ w g br bm fy nx lg (.slice al l.length cl) l := (by first | exact gV.out | exact ub.out)
     refine (gz hD.c).mono ?_; rintro e bR ⟨s1, ⟨rfl, hs1⟩, d8, hgx⟩; have vu := Hm (hD.cur cQ.out hgx d8); clear hD hgx d8; go_wp2_with fail; refine aL hK (trivial) (fun hZ => ?_); clear hK K; refine bf 9 rfl fun K hK => ?_
     go_simp; have hD : eJ w g br bm bR nx lg (.slice al l.length cl) l := (by first | exact gV.out | exact vu.out)
     refine (gz hD.c).mono ?_; rintro e cB ⟨s2, ⟨rfl, hs2⟩, d8, hgx⟩; have mb := Hm (hD.cur cQ.out hgx d8); clear hD hgx d8; go_wp2_with fail; refine aL hK (trivial) (fun hZ => ?_); clear hK K; refine uq 10 ?_; refine bf 11 rfl fun K hK => ?_
     go_simp; have hD : eJ w g br bm cB nx lg (.slice al l.length cl) l := (by first | exact gV.out | exact mb.out)
     obtain ⟨aO, bp⟩ : ∃ x, x = cB.alloc (.cells (List.toArray [.int .i64 t1, .int .i64 t2, .string s1, .string s2]) 50) := ⟨_, rfl⟩
     have iL : Below cB.heap.size cB aO := by rw [bp]; exact rB.alloc rN _
     have mK : Bx aO cB.heap.size [.int .i64 t1, .int .i64 t2, .string s1, .string s2] := (by rw [bp]; exact Bx.new _ _ _)
     obtain ⟨g11, jz⟩ : ∃ g, Hid (g = cB.heap.size) := ⟨_, Hm rfl⟩
     rw [<- jz.out] at mK ⊢; rw [<- bp]; have iK := Hm (hD.below iL); have bW := Hm mK; clear bp mK iL hD; refine aL hK (trivial) (fun hZ => ?_); clear hK K; refine bf 12 rfl fun K hK => ?_
     have hD : eJ w g br bm aO nx lg (.slice al l.length cl) l := (by first | exact gV.out | exact iK.out)
     have ew := hD.o.1; refine a6 _ rfl _ _ 28 28 rfl w.heap.size 50 iT (.agg (List.toArray [.int .i64 0, .int .i64 0, .string ⟨List.toArray []⟩, .string ⟨List.toArray []⟩])) 4 48 Tryz.underlying28 HI.out.1 HI.out.2.1 HI.out.2.2.1 HI.out.2.2.2 rfl (.slice al l.length cl) l.length (jq l) rfl ew (.slice (some ⟨g11, 0, none⟩) 1 1) rfl 1 [.int .i64 t1, .int .i64 t2, .string s1, .string s2] (Src.ofSlice _ Tryz.underlying28 ⟨g11, 0, none⟩ 1 1 _ rfl (b8 bW.out) (by intro u hu; simp at hu; rcases hu with rfl | rfl | rfl | rfl <;> rfl)) (by unfold maxLen; omega) (by omega) (Nat.le_trans cQ.out.r (Nat.le_of_lt hD.r.lt)) ?_; intro v12 cZ dY p8 dP; obtain ⟨ic, jn, rfl⟩ := bk dY; have ik : Hid (Dz w g br bm cZ nx lg (.slice al l.length cl) (.slice ic (l.length + 1) jn) (l ++ [⟨t1, t2, s1, s2⟩])) := Hm (Dz.grow cQ.out hD p8 (eu.snoc dY rN rfl hD.o.2 ⟨di, hw2, hs1, hs2⟩)); clear dY p8 dP hD ew; refine aL hK (trivial) (fun hZ => ?_); clear hK K; refine uq 13 ?_; refine bf 14 rfl fun K hK => ?_
     go_simp; have hN := ik.out; have p2 := hN.m.cell 2 _ rfl; have e2 := hN.m.free 2; have le := hN.m.lt; go_simp; obtain ⟨im, dR⟩ : ∃ x, x = cZ.setCell ⟨bm, 2, none⟩ (.slice ic (l.length + 1) jn) := ⟨_, rfl⟩
     have HE : Hid (eJ w g br bm im nx lg (.slice ic (l.length + 1) jn) (l ++ [⟨t1, t2, s1, s2⟩])) := by unfold Hid; rw [dR]; exact hN.H6 cQ.out
     rw [<- dR]; clear dR p2 e2 le hN; refine aL hK (trivial) (fun hZ => ?_); clear hK K; refine dC ?_; have y0 := HE.out.m.cell 0 _ rfl; have f0 := HE.out.r.free 0; have q0 := HE.out.r.cell 0 _ rfl; have y1 := HE.out.m.cell 1 _ rfl; have f1 := HE.out.r.free 1; have q1 := HE.out.r.cell 1 _ rfl; have y2 := HE.out.m.cell 2 _ rfl; have f2 := HE.out.r.free 2; have q2 := HE.out.r.cell 2 _ rfl; have le := HE.out.r.lt; have HF := Hm (HE.out.leave cQ.out (.int .i64 nx) (.int .i64 lg) (.slice ic (l.length + 1) jn)); clear HE; go_wp2_with fail; refine bodyPost_ret (v := .agg #[.int .i64 nx, .int .i64 lg, (.slice ic (l.length + 1) jn)]) (by simp [results, Tryz.results18, go_sem, *]) rfl (show vQ w g 7 _ _ from ⟨nx, lg, _, l ++ [⟨t1, t2, s1, s2⟩], rfl, ⟨B0, B9⟩, HF.out.1, by simp; omega, HF.out.2.1, HF.out.2.2⟩)
    ·go_simp
     have hD : eJ w g br bm gw nx lg (.slice al l.length cl) l := (by first | exact gV.out | exact ub.out)
     refine (gz hD.c).mono ?_; rintro e bR ⟨s1, ⟨rfl, hs1⟩, d8, hgx⟩; have vu := Hm (hD.cur cQ.out hgx d8); clear hD hgx d8; go_wp2_with fail; refine aL hK (trivial) (fun hZ => ?_); clear hK K; refine lM [1, 9] ?_; refine (AllReadyH.cons (aM rfl) (fun K hK => ?_) (AllReadyH.cons (aM rfl) (fun K hK => ?_) AllReadyH.nil))
     ·go_simp
      have hD : eJ w g br bm bR nx lg (.slice al l.length cl) l := (by first | exact iK.out | exact mb.out | exact vu.out | exact ub.out | exact iZ.out | exact ie.out)
      have p2 := hD.m.cell 2 _ rfl; go_simp; obtain ⟨fy, km⟩ : ∃ x, x = bR := ⟨_, rfl⟩
      have gV : Hid (eJ w g br bm fy nx lg (.slice al l.length cl) l) := by unfold Hid; rw [km]; exact hD
      (try rw [<- km] at bW)
      rw [<- km]; clear km p2 hD; refine aL hK (trivial) (fun hZ => ?_); clear hK K; refine bf 9 rfl fun K hK => ?_
      go_simp; have hD : eJ w g br bm fy nx lg (.slice al l.length cl) l := (by first | exact gV.out | exact vu.out)
      refine (gz hD.c).mono ?_; rintro e cB ⟨s2, ⟨rfl, hs2⟩, d8, hgx⟩; have mb := Hm (hD.cur cQ.out hgx d8); clear hD hgx d8; go_wp2_with fail; refine aL hK (trivial) (fun hZ => ?_); clear hK K; refine uq 10 ?_; refine bf 11 rfl fun K hK => ?_
      go_simp; have hD : eJ w g br bm cB nx lg (.slice al l.length cl) l := (by first | exact gV.out | exact mb.out)
      obtain ⟨aO, bp⟩ : ∃ x, x = cB.alloc (.cells (List.toArray [.int .i64 t1, .int .i64 t2, .string s1, .string s2]) 50) := ⟨_, rfl⟩
      have iL : Below cB.heap.size cB aO := by rw [bp]; exact rB.alloc rN _
      have mK : Bx aO cB.heap.size [.int .i64 t1, .int .i64 t2, .string s1, .string s2] := (by rw [bp]; exact Bx.new _ _ _)
      obtain ⟨g11, jz⟩ : ∃ g, Hid (g = cB.heap.size) := ⟨_, Hm rfl⟩
      rw [<- jz.out] at mK ⊢; rw [<- bp]; have iK := Hm (hD.below iL); have bW := Hm mK; clear bp mK iL hD; refine aL hK (trivial) (fun hZ => ?_); clear hK K; refine bf 12 rfl fun K hK => ?_
      have hD : eJ w g br bm aO nx lg (.slice al l.length cl) l := (by first | exact gV.out | exact iK.out)
      have ew := hD.o.1; refine a6 _ rfl _ _ 28 28 rfl w.heap.size 50 iT (.agg (List.toArray [.int .i64 0, .int .i64 0, .string ⟨List.toArray []⟩, .string ⟨List.toArray []⟩])) 4 48 Tryz.underlying28 HI.out.1 HI.out.2.1 HI.out.2.2.1 HI.out.2.2.2 rfl (.slice al l.length cl) l.length (jq l) rfl ew (.slice (some ⟨g11, 0, none⟩) 1 1) rfl 1 [.int .i64 t1, .int .i64 t2, .string s1, .string s2] (Src.ofSlice _ Tryz.underlying28 ⟨g11, 0, none⟩ 1 1 _ rfl (b8 bW.out) (by intro u hu; simp at hu; rcases hu with rfl | rfl | rfl | rfl <;> rfl)) (by unfold maxLen; omega) (by omega) (Nat.le_trans cQ.out.r (Nat.le_of_lt hD.r.lt)) ?_; intro v12 cZ dY p8 dP; obtain ⟨ic, jn, rfl⟩ := bk dY; have ik : Hid (Dz w g br bm cZ nx lg (.slice al l.length cl) (.slice ic (l.length + 1) jn) (l ++ [⟨t1, t2, s1, s2⟩])) := Hm (Dz.grow cQ.out hD p8 (eu.snoc dY rN rfl hD.o.2 ⟨di, hw2, hs1, hs2⟩)); clear dY p8 dP hD ew; refine aL hK (trivial) (fun hZ => ?_); clear hK K; refine uq 13 ?_; refine bf 14 rfl fun K hK => ?_
      go_simp; have hN := ik.out; have p2 := hN.m.cell 2 _ rfl; have e2 := hN.m.free 2; have le := hN.m.lt; go_simp; obtain ⟨im, dR⟩ : ∃ x, x = cZ.setCell ⟨bm, 2, none⟩ (.slice ic (l.length + 1) jn) := ⟨_, rfl⟩
      have HE : Hid (eJ w g br bm im nx lg (.slice ic (l.length + 1) jn) (l ++ [⟨t1, t2, s1, s2⟩])) := by unfold Hid; rw [dR]; exact hN.H6 cQ.out
      rw [<- dR]; clear dR p2 e2 le hN; refine aL hK (trivial) (fun hZ => ?_); clear hK K; refine dC ?_; have y0 := HE.out.m.cell 0 _ rfl; have f0 := HE.out.r.free 0; have q0 := HE.out.r.cell 0 _ rfl; have y1 := HE.out.m.cell 1 _ rfl; have f1 := HE.out.r.free 1; have q1 := HE.out.r.cell 1 _ rfl; have y2 := HE.out.m.cell 2 _ rfl; have f2 := HE.out.r.free 2; have q2 := HE.out.r.cell 2 _ rfl; have le := HE.out.r.lt; have HF := Hm (HE.out.leave cQ.out (.int .i64 nx) (.int .i64 lg) (.slice ic (l.length + 1) jn)); clear HE; go_wp2_with fail; refine bodyPost_ret (v := .agg #[.int .i64 nx, .int .i64 lg, (.slice ic (l.length + 1) jn)]) (by simp [results, Tryz.results18, go_sem, *]) rfl (show vQ w g 7 _ _ from ⟨nx, lg, _, l ++ [⟨t1, t2, s1, s2⟩], rfl, ⟨B0, B9⟩, HF.out.1, by simp; omega, HF.out.2.1, HF.out.2.2⟩)
     ·go_simp
      have hD : eJ w g br bm bR nx lg (.slice al l.length cl) l := (by first | exact gV.out | exact vu.out)
      refine (gz hD.c).mono ?_; rintro e cB ⟨s2, ⟨rfl, hs2⟩, d8, hgx⟩; have mb := Hm (hD.cur cQ.out hgx d8); clear hD hgx d8; go_wp2_with fail; refine aL hK (trivial) (fun hZ => ?_); clear hK K; refine uq 10 ?_; refine lM [1, 11] ?_; refine (AllReadyH.cons (aM rfl) (fun K hK => ?_) (AllReadyH.cons (aM rfl) (fun K hK => ?_) AllReadyH.nil))
      ·go_simp
       have hD : eJ w g br bm cB nx lg (.slice al l.length cl) l := (by first | exact iK.out | exact mb.out | exact vu.out | exact ub.out | exact iZ.out | exact ie.out)
       have p2 := hD.m.cell 2 _ rfl; go_simp; obtain ⟨fy, km⟩ : ∃ x, x = cB := ⟨_, rfl⟩
       have gV : Hid (eJ w g br bm fy nx lg (.slice al l.length cl) l) := by unfold Hid; rw [km]; exact hD
       (try rw [<- km] at bW)
       rw [<- km]; clear km p2 hD; refine aL hK (trivial) (fun hZ => ?_); clear hK K; refine bf 11 rfl fun K hK => ?_
       go_simp; have hD : eJ w g br bm fy nx lg (.slice al l.length cl) l := (by first | exact gV.out | exact mb.out)
       obtain ⟨aO, bp⟩ : ∃ x, x = fy.alloc (.cells (List.toArray [.int .i64 t1, .int .i64 t2, .string s1, .string s2]) 50) := ⟨_, rfl⟩
       have iL : Below fy.heap.size fy aO := by rw [bp]; exact rB.alloc rN _
       have mK : Bx aO fy.heap.size [.int .i64 t1, .int .i64 t2, .string s1, .string s2] := (by rw [bp]; exact Bx.new _ _ _)
       obtain ⟨g11, jz⟩ : ∃ g, Hid (g = fy.heap.size) := ⟨_, Hm rfl⟩
       rw [<- jz.out] at mK ⊢; rw [<- bp]; have iK := Hm (hD.below iL); have bW := Hm mK; clear bp mK iL hD; refine aL hK (trivial) (fun hZ => ?_); clear hK K; refine bf 12 rfl fun K hK => ?_
       have hD : eJ w g br bm aO nx lg (.slice al l.length cl) l := (by first | exact gV.out | exact iK.out)
       have ew := hD.o.1; refine a6 _ rfl _ _ 28 28 rfl w.heap.size 50 iT (.agg (List.toArray [.int .i64 0, .int .i64 0, .string ⟨List.toArray []⟩, .string ⟨List.toArray []⟩])) 4 48 Tryz.underlying28 HI.out.1 HI.out.2.1 HI.out.2.2.1 HI.out.2.2.2 rfl (.slice al l.length cl) l.length (jq l) rfl ew (.slice (some ⟨g11, 0, none⟩) 1 1) rfl 1 [.int .i64 t1, .int .i64 t2, .string s1, .string s2] (Src.ofSlice _ Tryz.underlying28 ⟨g11, 0, none⟩ 1 1 _ rfl (b8 bW.out) (by intro u hu; simp at hu; rcases hu with rfl | rfl | rfl | rfl <;> rfl)) (by unfold maxLen; omega) (by omega) (Nat.le_trans cQ.out.r (Nat.le_of_lt hD.r.lt)) ?_; intro v12 cZ dY p8 dP; obtain ⟨ic, jn, rfl⟩ := bk dY; have ik : Hid (Dz w g br bm cZ nx lg (.slice al l.length cl) (.slice ic (l.length + 1) jn) (l ++ [⟨t1, t2, s1, s2⟩])) := Hm (Dz.grow cQ.out hD p8 (eu.snoc dY rN rfl hD.o.2 ⟨di, hw2, hs1, hs2⟩)); clear dY p8 dP hD ew; refine aL hK (trivial) (fun hZ => ?_); clear hK K; refine uq 13 ?_; refine bf 14 rfl fun K hK => ?_
       go_simp; have hN := ik.out; have p2 := hN.m.cell 2 _ rfl; have e2 := hN.m.free 2; have le := hN.m.lt; go_simp; obtain ⟨im, dR⟩ : ∃ x, x = cZ.setCell ⟨bm, 2, none⟩ (.slice ic (l.length + 1) jn) := ⟨_, rfl⟩
       have HE : Hid (eJ w g br bm im nx lg (.slice ic (l.length + 1) jn) (l ++ [⟨t1, t2, s1, s2⟩])) := by unfold Hid; rw [dR]; exact hN.H6 cQ.out
       rw [<- dR]; clear dR p2 e2 le hN; refine aL hK (trivial) (fun hZ => ?_); clear hK K; refine dC ?_; have y0 := HE.out.m.cell 0 _ rfl; have f0 := HE.out.r.free 0; have q0 := HE.out.r.cell 0 _ rfl; have y1 := HE.out.m.cell 1 _ rfl; have f1 := HE.out.r.free 1; have q1 := HE.out.r.cell 1 _ rfl; have y2 := HE.out.m.cell 2 _ rfl; have f2 := HE.out.r.free 2; have q2 := HE.out.r.cell 2 _ rfl; have le := HE.out.r.lt; have HF := Hm (HE.out.leave cQ.out (.int .i64 nx) (.int .i64 lg) (.slice ic (l.length + 1) jn)); clear HE; go_wp2_with fail; refine bodyPost_ret (v := .agg #[.int .i64 nx, .int .i64 lg, (.slice ic (l.length + 1) jn)]) (by simp [results, Tryz.results18, go_sem, *]) rfl (show vQ w g 7 _ _ from ⟨nx, lg, _, l ++ [⟨t1, t2, s1, s2⟩], rfl, ⟨B0, B9⟩, HF.out.1, by simp; omega, HF.out.2.1, HF.out.2.2⟩)
      ·go_simp
       have hD : eJ w g br bm cB nx lg (.slice al l.length cl) l := (by first | exact gV.out | exact mb.out)
       obtain ⟨aO, bp⟩ : ∃ x, x = cB.alloc (.cells (List.toArray [.int .i64 t1, .int .i64 t2, .string s1, .string s2]) 50) := ⟨_, rfl⟩
       have iL : Below cB.heap.size cB aO := by rw [bp]; exact rB.alloc rN _
       have mK : Bx aO cB.heap.size [.int .i64 t1, .int .i64 t2, .string s1, .string s2] := (by rw [bp]; exact Bx.new _ _ _)
       obtain ⟨g11, jz⟩ : ∃ g, Hid (g = cB.heap.size) := ⟨_, Hm rfl⟩
       rw [<- jz.out] at mK ⊢; rw [<- bp]; have iK := Hm (hD.below iL); have bW := Hm mK; clear bp mK iL hD; refine aL hK (trivial) (fun hZ => ?_); clear hK K; refine bf 1 rfl fun K hK => ?_
       go_simp; have hD : eJ w g br bm aO nx lg (.slice al l.length cl) l := (by first | exact iK.out | exact mb.out | exact vu.out | exact ub.out | exact iZ.out | exact ie.out)
       have p2 := hD.m.cell 2 _ rfl; go_simp; obtain ⟨fy, km⟩ : ∃ x, x = aO := ⟨_, rfl⟩
       have gV : Hid (eJ w g br bm fy nx lg (.slice al l.length cl) l) := by unfold Hid; rw [km]; exact hD
       (try rw [<- km] at bW)
       rw [<- km]; clear km p2 hD; refine aL hK (trivial) (fun hZ => ?_); clear hK K; refine bf 12 rfl fun K hK => ?_
       have hD : eJ w g br bm fy nx lg (.slice al l.length cl) l := (by first | exact gV.out | exact iK.out)
       have ew := hD.o.1; refine a6 _ rfl _ _ 28 28 rfl w.heap.size 50 iT (.agg (List.toArray [.int .i64 0, .int .i64 0, .string ⟨List.toArray []⟩, .string ⟨List.toArray []⟩])) 4 48 Tryz.underlying28 HI.out.1 HI.out.2.1 HI.out.2.2.1 HI.out.2.2.2 rfl (.slice al l.length cl) l.length (jq l) rfl ew (.slice (some ⟨g11, 0, none⟩) 1 1) rfl 1 [.int .i64 t1, .int .i64 t2, .string s1, .string s2] (Src.ofSlice _ Tryz.underlying28 ⟨g11, 0, none⟩ 1 1 _ rfl (b8 bW.out) (by intro u hu; simp at hu; rcases hu with rfl | rfl | rfl | rfl <;> rfl)) (by unfold maxLen; omega) (by omega) (Nat.le_trans cQ.out.r (Nat.le_of_lt hD.r.lt)) ?_; intro v12 cZ dY p8 dP; obtain ⟨ic, jn, rfl⟩ := bk dY; have ik : Hid (Dz w g br bm cZ nx lg (.slice al l.length cl) (.slice ic (l.length + 1) jn) (l ++ [⟨t1, t2, s1, s2⟩])) := Hm (Dz.grow cQ.out hD p8 (eu.snoc dY rN rfl hD.o.2 ⟨di, hw2, hs1, hs2⟩)); clear dY p8 dP hD ew; refine aL hK (trivial) (fun hZ => ?_); clear hK K; refine uq 13 ?_; refine bf 14 rfl fun K hK => ?_
       go_simp; have hN := ik.out; have p2 := hN.m.cell 2 _ rfl; have e2 := hN.m.free 2; have le := hN.m.lt; go_simp; obtain ⟨im, dR⟩ : ∃ x, x = cZ.setCell ⟨bm, 2, none⟩ (.slice ic (l.length + 1) jn) := ⟨_, rfl⟩
       have HE : Hid (eJ w g br bm im nx lg (.slice ic (l.length + 1) jn) (l ++ [⟨t1, t2, s1, s2⟩])) := by unfold Hid; rw [dR]; exact hN.H6 cQ.out
       rw [<- dR]; clear dR p2 e2 le hN; refine aL hK (trivial) (fun hZ => ?_); clear hK K; refine dC ?_; have y0 := HE.out.m.cell 0 _ rfl; have f0 := HE.out.r.free 0; have q0 := HE.out.r.cell 0 _ rfl; have y1 := HE.out.m.cell 1 _ rfl; have f1 := HE.out.r.free 1; have q1 := HE.out.r.cell 1 _ rfl; have y2 := HE.out.m.cell 2 _ rfl; have f2 := HE.out.r.free 2; have q2 := HE.out.r.cell 2 _ rfl; have le := HE.out.r.lt; have HF := Hm (HE.out.leave cQ.out (.int .i64 nx) (.int .i64 lg) (.slice ic (l.length + 1) jn)); clear HE; go_wp2_with fail; refine bodyPost_ret (v := .agg #[.int .i64 nx, .int .i64 lg, (.slice ic (l.length + 1) jn)]) (by simp [results, Tryz.results18, go_sem, *]) rfl (show vQ w g 7 _ _ from ⟨nx, lg, _, l ++ [⟨t1, t2, s1, s2⟩], rfl, ⟨B0, B9⟩, HF.out.1, by simp; omega, HF.out.2.1, HF.out.2.2⟩)
 ·skip
  have y0 := dx.out.m.cell 0 _ rfl; have f0 := dx.out.r.free 0; have q0 := dx.out.r.cell 0 _ rfl; have y1 := dx.out.m.cell 1 _ rfl; have f1 := dx.out.r.free 1; have q1 := dx.out.r.cell 1 _ rfl; have y2 := dx.out.m.cell 2 _ rfl; have f2 := dx.out.r.free 2; have q2 := dx.out.r.cell 2 _ rfl; have le := dx.out.r.lt; have HF := Hm (dx.out.leave cQ.out (.int .i64 nx) (.int .i64 lg) (.slice al l.length cl)); clear dx; go_wp2_with fail; refine bodyPost_ret (v := .agg #[.int .i64 nx, .int .i64 lg, (.slice al l.length cl)]) (by simp [results, Tryz.results18, go_sem, *]) rfl (show vQ w g 7 _ _ from ⟨nx, lg, _, l, rfl, ⟨B0, B9⟩, HF.out.1, by omega, HF.out.2.1, HF.out.2.2⟩)
end Go.Proofs.YtcamcgfbljhbhaaGreatDoor

namespace Go.Proofs.YtcamcgfbljhbhaaGreatDoor
open Go.RowKit
section
variable {B : Nat} {W W' : World} {g : Nat}
theorem b5.at (h : b5 W g) (k : Nat) : (k = 0 /\ ∃ a n c, W.cell? ⟨g, k, none⟩ = some (.slice a n c)) ∨ ((k = 1 ∨ k = 2) /\ ∃ z, W.cell? ⟨g, k, none⟩ = some (.int .i64 z)) ∨ (3 <= k /\ W.cell? ⟨g, k, none⟩ = none) := by
 obtain ⟨a, n, cap, B, zs, _, _, _, _, ⟨i, q, _, _, hg⟩, _⟩ := h; have hc := cell_of_row W g k _ _ (0, 0) hg; rw [hc]
 match k with
 | 0 => exact .inl ⟨rfl, _, _, _, rfl⟩
 | 1 => exact .inr (.inl ⟨.inl rfl, _, rfl⟩)
 | 2 => exact .inr (.inl ⟨.inr rfl, _, rfl⟩)
 | k + 3 => exact .inr (.inr ⟨by omega, rfl⟩)
theorem H7 (hx : b5 W g) (h : aw [g] W W') {a : Option Addr} {c : Nat} {zs : List Int} (hl : fM B W a c zs) : fM B W' a c zs := by
 refine ⟨hl.1, hl.2.1, fun j hj => ?_, hl.2.2.2⟩; obtain ⟨b, off, e, hB, hc⟩ := hl.2.2.1 j hj; refine ⟨b, off, e, hB, iW h ?_ hc⟩; rintro rfl; rcases hx.at (off + j) with ⟨_, _, _, _, h1⟩ | ⟨_, z, h1⟩ | ⟨_, h1⟩ <;> rw [hc] at h1 <;> cases h1
theorem zR (hx : b5 W g) (h : aw [g] W W') {a : Option Addr} {c : Nat} {l : List aB} (hl : bw 2 cy B W a c l) : bw 2 cy B W' a c l := by
 refine ⟨hl.1, hl.2.1, fun j hj => ?_⟩; obtain ⟨b, off, e, hB, cs, h1, h2, h3⟩ := hl.2.2 j hj; have Rk := h3; obtain ⟨rfl, _⟩ := h3
 have hne : b ≠ g := by
  rintro rfl; have h4 := h2 0 _ rfl; rcases hx.at (off + j * 2 + 0) with ⟨_, _, _, _, h5⟩ | ⟨_, z, h5⟩ | ⟨_, h5⟩ <;> rw [h4] at h5 <;> cases h5
 exact ⟨b, off, e, hB, _, h1, fun i u hu => iW h hne (h2 i u hu), Rk⟩
theorem H8 (hx : b5 W g) (h : aw [g] W W') {a : Option Addr} {c : Nat} {l : List aI} (hl : bw 3 dL B W a c l) : bw 3 dL B W' a c l := by
 refine ⟨hl.1, hl.2.1, fun j hj => ?_⟩; obtain ⟨b, off, e, hB, cs, h1, h2, a1, c1, rfl, h3, h4, h5, _⟩ := hl.2.2 j hj
 have hne : b ≠ g := by
  rintro rfl; have h6 := h2 0 _ rfl; have h7 := h2 1 _ rfl; rcases hx.at (off + j * 3 + 0) with ⟨_, _, _, _, h8⟩ | ⟨hk, z, h8⟩ | ⟨_, h8⟩
  ·rw [h6] at h8; cases h8
  ·rcases hx.at (off + j * 3 + 1) with ⟨hk2, _, _, _, h9⟩ | ⟨_, z, h9⟩ | ⟨_, h9⟩
   ·omega
   ·rw [h7] at h9; cases h9
   ·rw [h7] at h9; cases h9
  ·rw [h6] at h8; cases h8
 exact ⟨b, off, e, hB, _, h1, fun i u hu => iW h hne (h2 i u hu), a1, c1, rfl, h3, H7 hx h h4, h5, trivial⟩
theorem H9 {cs : List Value} {m : az} (hx : b5 W g) (h : aw [g] W W') (hr : bg B W cs m) : bg B W' cs m := by
 obtain ⟨a0, c0, a1, c1, a2, c2, rfl, h0, h1, h2, h3, _⟩ := hr; exact ⟨a0, c0, a1, c1, a2, c2, rfl, H8 hx h h0, zR hx h h1, zR hx h h2, h3, trivial⟩
end
theorem o8 {W : World} {cs : List Value} {m : az} {B : Nat} (h : bg B W cs m) : ∃ a0 n0 c0 a1 n1 c1 a2 n2 c2 z, cs = [.slice a0 n0 c0, .slice a1 n1 c1, .slice a2 n2 c2, .int .i64 z] := by
 obtain ⟨a0, c0, a1, c1, a2, c2, hc, _⟩ := h; exact ⟨a0, _, c0, a1, _, c1, a2, _, c2, _, hc⟩
end Go.Proofs.YtcamcgfbljhbhaaGreatDoor

namespace Go.Proofs.YtcamcgfbljhbhaaGreatDoor
open Go.RowKit Go.Maps
def Ia (w : World) (b : Nat) : Prop := ∃ (t : TypeId) (x y : Int) (a : Option Addr) (n c : Nat), Bw w b t [.int .i64 x, .int .i64 y, .slice a n c]
theorem Ia.at {w : World} {b : Nat} (h : Ia w b) (k : Nat) : ((k = 0 ∨ k = 1) /\ ∃ z, w.cell? ⟨b, k, none⟩ = some (.int .i64 z)) ∨ (k = 2 /\ ∃ a n c, w.cell? ⟨b, k, none⟩ = some (.slice a n c)) ∨ (3 <= k /\ w.cell? ⟨b, k, none⟩ = none) := by
 obtain ⟨t, x, y, a, n, c, hb⟩ := h; have hc := cell_of_row w b k _ t (0, 0) hb; rw [hc]
 match k with
 | 0 => exact .inl ⟨.inl rfl, _, rfl⟩
 | 1 => exact .inl ⟨.inr rfl, _, rfl⟩
 | 2 => exact .inr (.inl ⟨rfl, _, _, _, rfl⟩)
 | k + 3 => exact .inr (.inr ⟨by omega, rfl⟩)
section
variable {B : Nat} {w w' : World} {b : Nat}
theorem Ib (hx : Ia w b) (h : aw [b] w w') {a : Option Addr} {c : Nat} {zs : List Int} (hl : fM B w a c zs) : fM B w' a c zs := by
 refine ⟨hl.1, hl.2.1, fun j hj => ?_, hl.2.2.2⟩; obtain ⟨g, off, e, hB, hc⟩ := hl.2.2.1 j hj; refine ⟨g, off, e, hB, iW h ?_ hc⟩; rintro rfl; rcases hx.at (off + j) with ⟨_, z, h1⟩ | ⟨_, _, _, _, h1⟩ | ⟨_, h1⟩ <;> rw [hc] at h1 <;> cases h1
theorem zT (hx : Ia w b) (h : aw [b] w w') {a : Option Addr} {c : Nat} {l : List aB} (hl : bw 2 cy B w a c l) : bw 2 cy B w' a c l := by
 refine ⟨hl.1, hl.2.1, fun j hj => ?_⟩; obtain ⟨g, off, e, hB, cs, h1, h2, h3⟩ := hl.2.2 j hj; have Rk := h3; obtain ⟨rfl, _⟩ := h3
 have hne : g ≠ b := by
  rintro rfl; have h4 := h2 0 _ rfl; rcases hx.at (off + j * 2 + 0) with ⟨_, z, h5⟩ | ⟨_, _, _, _, h5⟩ | ⟨_, h5⟩ <;> rw [h4] at h5 <;> cases h5
 exact ⟨g, off, e, hB, _, h1, fun i u hu => iW h hne (h2 i u hu), Rk⟩
theorem Ic (hx : Ia w b) (h : aw [b] w w') {a : Option Addr} {c : Nat} {l : List aI} (hl : bw 3 dL B w a c l) : bw 3 dL B w' a c l := by
 refine ⟨hl.1, hl.2.1, fun j hj => ?_⟩; obtain ⟨g, off, e, hB, cs, h1, h2, a1, c1, rfl, h3, h4, h5, _⟩ := hl.2.2 j hj
 have hne : g ≠ b := by
  rintro rfl; have h6 := h2 1 _ rfl; have h7 := h2 2 _ rfl; rcases hx.at (off + j * 3 + 1) with ⟨_, z, h8⟩ | ⟨hk, _, _, _, h8⟩ | ⟨_, h8⟩
  ·rw [h6] at h8; cases h8
  ·rcases hx.at (off + j * 3 + 2) with ⟨hk2, z, h9⟩ | ⟨hk2, _, _, _, h9⟩ | ⟨_, h9⟩
   ·omega
   ·omega
   ·rw [h7] at h9; cases h9
  ·rw [h6] at h8; cases h8
 exact ⟨g, off, e, hB, _, h1, fun i u hu => iW h hne (h2 i u hu), a1, c1, rfl, h3, Ib hx h h4, h5, trivial⟩
theorem Ie {cs : List Value} {m : az} (hx : Ia w b) (h : aw [b] w w') (hr : bg B w cs m) : bg B w' cs m := by
 obtain ⟨a0, c0, a1, c1, a2, c2, rfl, h0, h1, h2, h3, _⟩ := hr; exact ⟨a0, c0, a1, c1, a2, c2, rfl, Ic hx h h0, zT hx h h1, zT hx h h2, h3, trivial⟩
end
def mZ : List Value := [.int .i64 0, .int .i64 0, .slice none 0 0]
structure CB (w : World) (g b0 b1 bd : Nat) (W : World) (cs : List Value) (m : az) : Prop where
 c : b5 W g
 t : Below w.heap.size w W
 r0 : Bw W b0 27 dZ
 r1 : Bw W b1 30 mZ
 d : Bw W bd 27 cs
 k : bg W.heap.size W cs m
structure UN (w : World) (g b0 b1 bd : Nat) : Prop where
 gg : w.heap.size <= g
 z0 : w.heap.size <= b0
 z1 : w.heap.size <= b1
 n0 : b0 ≠ g
 n1 : b1 ≠ g
 nd : bd ≠ g
 n : b0 ≠ b1
section
variable {w : World} {g b0 b1 bd : Nat} {W W' : World} {cs : List Value} {m : az} {nx lg : Int} {v : Value} {l : List aT}
theorem CB.below (h : CB w g b0 b1 bd W cs m) (hx : Below W.heap.size W W') : CB w g b0 b1 bd W' cs m :=
 ⟨h.c.below hx, af h.t hx, h.r0.under hx, h.r1.under hx, h.d.under hx, aq.mono (aq.below h.k hx) hx.size⟩
theorem CB.cur (hp : UN w g b0 b1 bd) (h : CB w g b0 b1 bd W cs m) (hT : aw [g] W W') (hc : b5 W' g) : CB w g b0 b1 bd W' cs m :=
 ⟨hc, aw.under h.t hT (fun k hk => by simp at hk; rw [hk]; exact hp.gg), h.r0.turn hT (by have := hp.n0; simpa using this), h.r1.turn hT (by have := hp.n1; simpa using this), h.d.turn hT (by have := hp.nd; simpa using this), aq.mono (H9 h.c hT h.k) hT.size⟩
structure PS (w : World) (b0 b1 : Nat) (W : World) (cs : List Value) (m : az) (v : Value) (l : List aT) : Prop where
 t : Below w.heap.size w W
 r0 : Bw W b0 27 cs
 r1 : Bw W b1 30 mZ
 k : bg W.heap.size W cs m
 o : eu W 0 v l
theorem PS.made {x0 x1 x2 x3 : Value} (hp : UN w g b0 b1 bd) (h : CB w g b0 b1 bd W [x0, x1, x2, x3] m) (ho : eu W 0 v l) :
  PS w b0 b1 ((((W.setCell ⟨b0, 0, none⟩ x0).setCell ⟨b0, 1, none⟩ x1).setCell ⟨b0, 2, none⟩ x2).setCell ⟨b0, 3, none⟩ x3) [x0, x1, x2, x3] m v l := by
 have hT := bE W b0 x0 x1 x2 x3; refine ⟨aw.under h.t hT (fun k hk => by simp at hk; rw [hk]; exact hp.z0), h.r0.uw rfl x0 x1 x2 x3, h.r1.turn hT (by have := hp.n; simp; omega), aq.mono (cA ⟨_, _, _, _, _, _, _, _, _, _, _, h.r0⟩ hT h.k) hT.size, ho.turn hT (fun k hk hm => ?_)⟩; simp at hm; subst hm; exact ea h.r0 ho.1 (by decide) hk
structure NZ (w : World) (b0 b1 : Nat) (W : World) (cs : List Value) (m : az) (nx lg : Int) (v : Value) (l : List aT) : Prop where
 t : Below w.heap.size w W
 r0 : Bw W b0 27 cs
 r1 : Bw W b1 30 [.int .i64 nx, .int .i64 lg, v]
 k : bg W.heap.size W cs m
 o : eu W 0 v l
theorem NZ.made (hp : UN w g b0 b1 bd) (h : PS w b0 b1 W cs m v l) : NZ w b0 b1 (((W.setCell ⟨b1, 0, none⟩ (.int .i64 nx)).setCell ⟨b1, 1, none⟩ (.int .i64 lg)).setCell ⟨b1, 2, none⟩ v) cs m nx lg v l := by
 have hT : aw [b1] W (((W.setCell ⟨b1, 0, none⟩ (.int .i64 nx)).setCell ⟨b1, 1, none⟩ (.int .i64 lg)).setCell ⟨b1, 2, none⟩ v) := (((aw.refl _ _).setCell (by simp) _).setCell (by simp) _).setCell (by simp) _; refine ⟨aw.under h.t hT (fun k hk => by simp at hk; rw [hk]; exact hp.z1), h.r0.turn hT (by have := hp.n; simpa using this), ((h.r1.put 0 _).put 1 _).put 2 _, aq.mono (Ie ⟨_, _, _, _, _, _, h.r1⟩ hT h.k) hT.size, h.o.turn hT (fun k hk hm => ?_)⟩; simp at hm; subst hm; exact ea h.r1 h.o.1 (by decide) hk
theorem NZ.fin {al : Option Addr} {cl : Nat} (h : NZ w b0 b1 W cs m nx lg (.slice al l.length cl) l) (h1 : (Lit.int .i64 nx).wf = true) (h2 : (Lit.int .i64 lg).wf = true) (hl : l.length <= 7) :
  bg W.heap.size W cs m /\ ct W.heap.size W [.int .i64 nx, .int .i64 lg, .slice al l.length cl] ⟨nx, lg, l⟩ /\ fP ⟨nx, lg, l⟩ <= 1048576 /\ Below w.heap.size w W := by
 obtain ⟨a', c', e, hL⟩ := h.o.leaf; injection e with e1 e2 e3
 subst e1; subst e3; refine ⟨h.k, ⟨al, cl, rfl, h1, h2, hL, trivial⟩, ?_, h.t⟩; have := vx h.o.2
 show l.length + aP kw l <= _; omega
end
def PT (w : World) (e : Ending) (w' : World) : Prop :=
 ∃ (cs : List Value) (m : az) (ms : List Value) (M : aK), e = .returned (.tuple #[.agg cs.toArray, .agg ms.toArray]) /\ bg w'.heap.size w' cs m /\ aZ m <= 1048576 /\ ct w'.heap.size w' ms M /\ fP M <= 1048576 /\ Below w.heap.size w w'
theorem xY (a : Option Addr) (n cap : Nat) (zs : List Int) (w : World) (hx : zs.length = n) (hlen : n <= 1048576) (hr : Rd .u8 w.heap.size w a zs) :
  Calls Tryz.prog 5 #[.slice a n cap] w (PT w) := by
 obtain ⟨w0, hw0⟩ : ∃ x, x = (w.alloc (.cells #[.slice none 0 0, .slice none 0 0, .slice none 0 0, .int .i64 0] 27)).alloc (.cells #[.int .i64 0, .int .i64 0, .slice none 0 0] 30) := ⟨_, rfl⟩
 have hx0 : Below w.heap.size w w0 := by rw [hw0]; exact (rB.alloc rN _).alloc (by simp) _
 have UO : Bw w0 w.heap.size 27 dZ := by rw [hw0]; exact (Bw.new _ _ _).alloc _
 have hr1 : Bw w0 (w.heap.size + 1) 30 mZ := by rw [hw0]; exact Bw.dX _ _ _ (by simp)
 have hz0 : w.heap.size + 1 < w0.heap.size := hr1.lt; go_enter Tryz.func5, Tryz.ntmps5; go_wp2_with (rw [<- hw0])
 try rw [<- hw0]
 clear hw0; refine (GL a n cap zs w0 hx (by omega) ((hr.below hx0).mono hx0.size)).mono ?_; rintro e w1 ⟨rfl, hc1, hb1⟩; have hz1 := hb1.size; go_wp2_with fail; refine (AX 10 hc1 (by omega)).mono ?_; rintro e w2 ⟨cs, m, rfl, hk2, Zk, hc2, tL⟩; obtain ⟨a0, n0, c0, a1, n1, c1, a2, n2, c2, z, rfl⟩ := o8 hk2; have hz2 := tL.size; have hg1 := hc1.lt; go_wp2_with fail; obtain ⟨w3, hw3⟩ : ∃ x, x = w2.alloc (.cells #[.slice a0 n0 c0, .slice a1 n1 c1, .slice a2 n2 c2, .int .i64 z] 27) := ⟨_, rfl⟩
 have hx3 : Below w2.heap.size w2 w3 := by rw [hw3]; exact rB.alloc rN _
 have dl : Bw w3 w2.heap.size 27 [.slice a0 n0 c0, .slice a1 n1 c1, .slice a2 n2 c2, .int .i64 z] := by rw [hw3]; exact Bw.new _ _ _
 try rw [<- hw3]
 obtain ⟨bd, Ck⟩ : ∃ x, x = w2.heap.size := ⟨_, rfl⟩
 obtain ⟨g, Zl⟩ : ∃ x, x = w0.heap.size := ⟨_, rfl⟩
 obtain ⟨b1, PU⟩ : ∃ x, x = w.heap.size + 1 := ⟨_, rfl⟩
 obtain ⟨b0, PV⟩ : ∃ x, x = w.heap.size := ⟨_, rfl⟩
 rw [<- Ck] at dl ⊢; rw [<- Zl] at hc1 hc2 tL hg1 ⊢; have cQ : Hid (UN w g b0 b1 bd) := ⟨by omega, by omega, by omega, by omega, by omega, by omega, by omega⟩
 have dx : Hid (CB w g b0 b1 bd w3 [.slice a0 n0 c0, .slice a1 n1 c1, .slice a2 n2 c2, .int .i64 z] m) := by
  rw [PV, PU]; exact ⟨hc2.below hx3, af (aw.under (af hx0 hb1) tL (fun k hk => by simp at hk; omega)) hx3, ((UO.under hb1).turn tL (by simp; omega)).under hx3, ((hr1.under hb1).turn tL (by simp; omega)).under hx3, dl, aq.mono (aq.below hk2 hx3) hx3.size⟩
 have I6 := Hm Zk; rw [<- PU]; rw [<- PV]; clear hw3 hx3 dl Ck Zl PV PU UO hr1 hz0 hz1 hz2 hx0 hb1 hc1 hc2 tL hg1 hk2 Zk hr hx; refine vE (fun W => True) (trivial) (fun hZ => ?_); obtain ⟨wS, jU⟩ : ∃ wS, wS = w3.drew := ⟨_, rfl⟩
 have ie : Hid (CB w g b0 b1 bd wS [.slice a0 n0 c0, .slice a1 n1 c1, .slice a2 n2 c2, .int .i64 z] m) := by unfold Hid; rw [jU]; exact dx.out.below (Below.drew rB)
 rw [<- jU]; clear jU dx; refine uq 1 ?_; refine lM [0, 2] ?_; refine (AllReadyH.cons (aM rfl) (fun K hK => ?_) (AllReadyH.cons (aM rfl) (fun K hK => ?_) AllReadyH.nil))
 ·go_simp
  have hD : CB w g b0 b1 bd wS [.slice a0 n0 c0, .slice a1 n1 c1, .slice a2 n2 c2, .int .i64 z] m := (by first | exact uD.out | exact ie.out)
  obtain ⟨p0, p1, p2, p3⟩ := hD.d.c4; go_simp; obtain ⟨gi, sD⟩ : ∃ x, x = wS := ⟨_, rfl⟩
  have tK : Hid (CB w g b0 b1 bd gi [.slice a0 n0 c0, .slice a1 n1 c1, .slice a2 n2 c2, .int .i64 z] m) := by unfold Hid; rw [sD]; exact hD
  (try rw [<- sD] at vk)
  rw [<- sD]; clear sD p0 p1 p2 p3 hD; refine aL hK (trivial) (fun hZ => ?_); clear hK K; refine bf 2 rfl fun K hK => ?_
  go_simp; have hD : CB w g b0 b1 bd gi [.slice a0 n0 c0, .slice a1 n1 c1, .slice a2 n2 c2, .int .i64 z] m := (by first | exact tK.out | exact ie.out)
  refine (tP hD.c).mono ?_; rintro e ku ⟨nx, lg, v, l, rfl, ⟨B0, B9⟩, ht, Kv, d8, hgx⟩; have uD := Hm (hD.cur cQ.out hgx d8); obtain ⟨al, cl, rfl, _⟩ := ht.leaf; have vk : Hid (eu ku 0 (.slice al l.length cl) l) := Hm ⟨ep ht.1 (Nat.zero_le _), ht.2⟩; clear hD hgx d8 ht; go_wp2_with fail; refine aL hK (trivial) (fun hZ => ?_); clear hK K; refine bf 3 rfl fun K hK => ?_
  go_simp; have hD : CB w g b0 b1 bd ku [.slice a0 n0 c0, .slice a1 n1 c1, .slice a2 n2 c2, .int .i64 z] m := (by first | exact tK.out | exact uD.out)
  have hT : eu ku 0 (.slice al l.length cl) l := vk.out; obtain ⟨p0, p1, p2, p3⟩ := hD.r0.c4; obtain ⟨e0, e1, e2, e3⟩ := hD.r0.f4; have le := hD.r0.lt; go_simp; obtain ⟨bX, rF⟩ : ∃ x, x = (((ku.setCell ⟨b0, 0, none⟩ (.slice a0 n0 c0)).setCell ⟨b0, 1, none⟩ (.slice a1 n1 c1)).setCell ⟨b0, 2, none⟩ (.slice a2 n2 c2)).setCell ⟨b0, 3, none⟩ (.int .i64 z) := ⟨_, rfl⟩
  have Xq : Hid (PS w b0 b1 bX [.slice a0 n0 c0, .slice a1 n1 c1, .slice a2 n2 c2, .int .i64 z] m (.slice al l.length cl) l) := by unfold Hid; rw [rF]; exact PS.made cQ.out hD hT
  rw [<- rF]; clear rF p0 p1 p2 p3 e0 e1 e2 e3 le hD hT; refine aL hK (trivial) (fun hZ => ?_); clear hK K; refine bf 4 rfl fun K hK => ?_
  go_simp; have hE := Xq.out; have p0 := hE.r1.cell 0 _ rfl; have p1 := hE.r1.cell 1 _ rfl; have p2 := hE.r1.cell 2 _ rfl; have e0 := hE.r1.free 0; have e1 := hE.r1.free 1; have e2 := hE.r1.free 2; have le := hE.r1.lt; go_simp; obtain ⟨bK, np⟩ : ∃ x, x = ((bX.setCell ⟨b1, 0, none⟩ (.int .i64 nx)).setCell ⟨b1, 1, none⟩ (.int .i64 lg)).setCell ⟨b1, 2, none⟩ (.slice al l.length cl) := ⟨_, rfl⟩
  have vR : Hid (NZ w b0 b1 bK [.slice a0 n0 c0, .slice a1 n1 c1, .slice a2 n2 c2, .int .i64 z] m nx lg (.slice al l.length cl) l) := by unfold Hid; rw [np]; exact NZ.made cQ.out hE
  rw [<- np]; clear np p0 p1 p2 e0 e1 e2 le hE; refine aL hK (trivial) (fun hZ => ?_); clear hK K; refine dC ?_; obtain ⟨y0, y1, y2, y3⟩ := vR.out.r0.c4; have z0 := vR.out.r1.cell 0 _ rfl; have z1 := vR.out.r1.cell 1 _ rfl; have z2 := vR.out.r1.cell 2 _ rfl; have HF := Hm (vR.out.fin B0 B9 Kv); go_wp2_with fail; refine bodyPost_ret (v := .tuple (List.toArray [.agg (List.toArray [.slice a0 n0 c0, .slice a1 n1 c1, .slice a2 n2 c2, .int .i64 z]), .agg (List.toArray [.int .i64 nx, .int .i64 lg, .slice al l.length cl])])) (by simp [results, Tryz.results5, go_sem, *]) rfl (show PT w _ _ from ⟨_, m, _, ⟨nx, lg, l⟩, rfl, HF.out.1, I6.out, HF.out.2⟩)
 ·go_simp
  have hD : CB w g b0 b1 bd wS [.slice a0 n0 c0, .slice a1 n1 c1, .slice a2 n2 c2, .int .i64 z] m := (by first | exact tK.out | exact ie.out)
  refine (tP hD.c).mono ?_; rintro e ku ⟨nx, lg, v, l, rfl, ⟨B0, B9⟩, ht, Kv, d8, hgx⟩; have uD := Hm (hD.cur cQ.out hgx d8); obtain ⟨al, cl, rfl, _⟩ := ht.leaf; have vk : Hid (eu ku 0 (.slice al l.length cl) l) := Hm ⟨ep ht.1 (Nat.zero_le _), ht.2⟩; clear hD hgx d8 ht; go_wp2_with fail; refine aL hK (trivial) (fun hZ => ?_); clear hK K; refine bf 0 rfl fun K hK => ?_
  go_simp; have hD : CB w g b0 b1 bd ku [.slice a0 n0 c0, .slice a1 n1 c1, .slice a2 n2 c2, .int .i64 z] m := (by first | exact uD.out | exact ie.out)
  obtain ⟨p0, p1, p2, p3⟩ := hD.d.c4; go_simp; obtain ⟨gi, sD⟩ : ∃ x, x = ku := ⟨_, rfl⟩
  have tK : Hid (CB w g b0 b1 bd gi [.slice a0 n0 c0, .slice a1 n1 c1, .slice a2 n2 c2, .int .i64 z] m) := by unfold Hid; rw [sD]; exact hD
  (try rw [<- sD] at vk)
  rw [<- sD]; clear sD p0 p1 p2 p3 hD; refine aL hK (trivial) (fun hZ => ?_); clear hK K; refine bf 3 rfl fun K hK => ?_
  go_simp; have hD : CB w g b0 b1 bd gi [.slice a0 n0 c0, .slice a1 n1 c1, .slice a2 n2 c2, .int .i64 z] m := (by first | exact tK.out | exact uD.out)
  have hT : eu gi 0 (.slice al l.length cl) l := vk.out; obtain ⟨p0, p1, p2, p3⟩ := hD.r0.c4; obtain ⟨e0, e1, e2, e3⟩ := hD.r0.f4; have le := hD.r0.lt; go_simp; obtain ⟨bX, rF⟩ : ∃ x, x = (((gi.setCell ⟨b0, 0, none⟩ (.slice a0 n0 c0)).setCell ⟨b0, 1, none⟩ (.slice a1 n1 c1)).setCell ⟨b0, 2, none⟩ (.slice a2 n2 c2)).setCell ⟨b0, 3, none⟩ (.int .i64 z) := ⟨_, rfl⟩
  have Xq : Hid (PS w b0 b1 bX [.slice a0 n0 c0, .slice a1 n1 c1, .slice a2 n2 c2, .int .i64 z] m (.slice al l.length cl) l) := by unfold Hid; rw [rF]; exact PS.made cQ.out hD hT
  rw [<- rF]; clear rF p0 p1 p2 p3 e0 e1 e2 e3 le hD hT; refine aL hK (trivial) (fun hZ => ?_); clear hK K; refine bf 4 rfl fun K hK => ?_
  go_simp; have hE := Xq.out; have p0 := hE.r1.cell 0 _ rfl; have p1 := hE.r1.cell 1 _ rfl; have p2 := hE.r1.cell 2 _ rfl; have e0 := hE.r1.free 0; have e1 := hE.r1.free 1; have e2 := hE.r1.free 2; have le := hE.r1.lt; go_simp; obtain ⟨bK, np⟩ : ∃ x, x = ((bX.setCell ⟨b1, 0, none⟩ (.int .i64 nx)).setCell ⟨b1, 1, none⟩ (.int .i64 lg)).setCell ⟨b1, 2, none⟩ (.slice al l.length cl) := ⟨_, rfl⟩
  have vR : Hid (NZ w b0 b1 bK [.slice a0 n0 c0, .slice a1 n1 c1, .slice a2 n2 c2, .int .i64 z] m nx lg (.slice al l.length cl) l) := by unfold Hid; rw [np]; exact NZ.made cQ.out hE
  rw [<- np]; clear np p0 p1 p2 e0 e1 e2 le hE; refine aL hK (trivial) (fun hZ => ?_); clear hK K; refine dC ?_; obtain ⟨y0, y1, y2, y3⟩ := vR.out.r0.c4; have z0 := vR.out.r1.cell 0 _ rfl; have z1 := vR.out.r1.cell 1 _ rfl; have z2 := vR.out.r1.cell 2 _ rfl; have HF := Hm (vR.out.fin B0 B9 Kv); go_wp2_with fail; refine bodyPost_ret (v := .tuple (List.toArray [.agg (List.toArray [.slice a0 n0 c0, .slice a1 n1 c1, .slice a2 n2 c2, .int .i64 z]), .agg (List.toArray [.int .i64 nx, .int .i64 lg, .slice al l.length cl])])) (by simp [results, Tryz.results5, go_sem, *]) rfl (show PT w _ _ from ⟨_, m, _, ⟨nx, lg, l⟩, rfl, HF.out.1, I6.out, HF.out.2⟩)
end Go.Proofs.YtcamcgfbljhbhaaGreatDoor

namespace Go.Proofs.YtcamcgfbljhbhaaGreatDoor
open Go.RowKit
theorem zU {k i : Int} : ∀ l : List aI, ee (l.map (eb k)) i = ee l i := by
 intro l; unfold ee; rw [List.any_map]; rfl
theorem MD {m : az} {k : Int} (h : bc m = true) (hk : 0 <= k) : bc (ei m k) = true := by
 have hr := bM.1 h; have h1 := vZ (N := m.ag) (S := m.ag) hr hr.DF hr.DF hr.safe hr.safe; have hd : ei m k = { m with ae := m.ag, aa := (bV { m with ae := m.ag }).map (eb k) } := by unfold ei; rw [if_pos ⟨h, hk⟩]
 rw [hd]; refine bM.2 ⟨h1.next, ?_, ?_, ?_, h1.few, h1.DF, ?_, ?_, ?_⟩
 ·intro n hn
  obtain ⟨x, hx, rfl⟩ := List.mem_map.1 hn; have h2 := h1.each x hx; have h3 := BM (k := k) (n := x) hk h2.2.2.1 h2.2.2.2; refine ⟨h2.1, h2.2.1, ?_, by omega⟩
  show 0 <= x.aW + min k (x.aG.length - x.aW); omega
 ·exact List.pairwise_map.2 h1.px
 ·have h2 := nj (f := eb k) (fun n => by unfold eb aJ; simp; omega) (bV { m with ae := m.ag })
  exact Nat.le_trans h2 h1.size
 ·exact ⟨fun e he => by rw [zU]; exact h1.names.1 e he, h1.names.2⟩
 ·exact ⟨fun e he => by rw [zU]; exact h1.safe.1 e he, h1.safe.2⟩
 ·intro n hn
  obtain ⟨x, hx, rfl⟩ := List.mem_map.1 hn; exact h1.all x hx
end Go.Proofs.YtcamcgfbljhbhaaGreatDoor
