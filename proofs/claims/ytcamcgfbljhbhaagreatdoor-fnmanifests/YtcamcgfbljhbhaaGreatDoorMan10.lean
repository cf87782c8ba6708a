/-
  Part 11 of the texts that the proof leans on.
-/
import Derived.Test.YtcamcgfbljhbhaaGreatDoorMan0
import Derived.Test.YtcamcgfbljhbhaaGreatDoorMan9
import Derived.Test.YtcamcgfbljhbhaaGreatDoorMan6
import Derived.Test.YtcamcgfbljhbhaaGreatDoorMan2
import Derived.Shelf.SlSortCmp.WholeK
import Derived.Shelf.SlGeneric
import Derived.Ground.SlsfProg
import Derived.Test.YtcamcgfbljhbhaaGreatDoorProg
import Derived.Test.YtcamcgfbljhbhaaGreatDoorMan1
set_option linter.unusedVariables false
set_option linter.unusedSimpArgs false
set_option maxRecDepth 10000
set_option maxHeartbeats 20000000

namespace Go.Proofs.YtcamcgfbljhbhaaGreatDoor
open Go.RowKit
theorem G6 {d : az} {l : List aI} {k : Nat} (h : k < l.length) : (nQ d.ah (ft l k) (l.drop k) && (l.drop k).all (isNamed d)) = (rf d.ah (ft l k) l[k] && isNamed d l[k] && (nQ d.ah (ft l (k + 1)) (l.drop (k + 1)) && (l.drop (k + 1)).all (isNamed d))) := by
 rw [BF h]; rw [show (l.drop k).all (isNamed d) = (isNamed d l[k] && (l.drop (k + 1)).all (isNamed d)) from by rw [List.drop_eq_getElem_cons h, List.all_cons]]; cases rf d.ah (ft l k) l[k] <;> cases isNamed d l[k] <;> simp
def gv (d : az) : Bool :=
 dm d.ah 1 1000000 && decide (d.aa.length <= 60) && (nQ d.ah 0 d.aa && d.aa.all (isNamed d)) && decide (aP aJ d.aa <= 60000) &&
  (ly d.aa [] ByteArray.empty d.ae && decide (d.ae.length <= 30)) && (ly d.aa [] ByteArray.empty d.ag && decide (d.ag.length <= 30))
theorem G7 (d : az) : gv d = bc d := by
 unfold gv bc dm; cases h1 : nQ d.ah 0 d.aa
 ·simp
 ·cases h2 : d.aa.all (isNamed d)
  ·simp
  ·have h3 := zo h1 h2
   by_cases h4 : d.ae.length <= 30
   ·by_cases h5 : d.ag.length <= 30
    ·have h6 : d.aa.length <= 60 := by omega
     simp [h4, h5, h6]
    ·simp [h5]
   ·simp [h4]
theorem xt (cs : List Value) (m : az) (w : World) (hr : bg w.heap.size w cs m) (hw : aZ m <= 16777216) :
  Calls Tryz.prog 24 #[.agg cs.toArray] w fun e w' => e = .returned (.bool (gv m)) /\ Below w.heap.size w w' := by
 have hq := hr; obtain ⟨a0, c0, a1, c1, a2, c2, rfl, hI, gf, gT, kX, _⟩ := hq; have hw2 : m.aa.length + aP aJ m.aa + (m.ae.length + aP a7 m.ae) + (m.ag.length + aP a7 m.ag) <= 16777216 := hw; have HR := Hm hr; have HI := Hm hI.2.2; have yE := Hm gf; have AG := Hm gT; clear hr hI gf gT hw; have Ny : -9223372036854775808 <= m.ah /\ m.ah <= 9223372036854775807 := by simpa [Lit.wf, IntKind.min, IntKind.max, IntKind.signed, IntKind.bits] using kX
 obtain ⟨V4, V5⟩ := Ny
 by_cases NE : 1 <= m.ah /\ m.ah <= 1000000
 ·have e0 : dm m.ah 1 1000000 = true := gC NE.1 NE.2
  obtain ⟨NE, nW⟩ := NE
  by_cases hL : m.aa.length <= 60
  ·have G8 : Hid (gv m = ((nQ m.ah 0 m.aa && m.aa.all (isNamed m)) && decide (aP aJ m.aa <= 60000) && (ly m.aa [] ByteArray.empty m.ae && decide (m.ae.length <= 30)) && (ly m.aa [] ByteArray.empty m.ag && decide (m.ag.length <= 30)))) := by
    show gv m = _; unfold gv; rw [e0, decide_eq_true hL, Bool.true_and, Bool.true_and]
   go_enter Tryz.func24, Tryz.ntmps24; go_wp2_with (go_at_call 30; refine (bY _ _ _ _).mono ?_; rintro e w' ⟨rfl, rfl⟩)
   go_loopw [3, 4] (fun sv i wr => ∃ k : Nat, k <= m.aa.length /\ i = .int .i64 k /\ sv = .int .i64 (aP aJ (m.aa.take k) : Nat) /\ 0 <= ft m.aa k /\ (nQ m.ah 0 m.aa && m.aa.all (isNamed m)) = (nQ m.ah (ft m.aa k) (m.aa.drop k) && (m.aa.drop k).all (isNamed m)) /\ Below w.heap.size w wr /\ Bx wr w.heap.size (cj a0 c0 a1 c1 a2 c2 m)) (fun _ i _ => m.aa.length - (intOf i).toNat)
   case atStart => exact ⟨0, Nat.zero_le _, rfl, rfl, Int.le_refl _, rfl, rB.alloc rN _, Bx.new _ _ _⟩
   case round =>
    obtain ⟨k, hk, rfl, rfl, wk, hinv, bF, cg⟩ := hrel; have rS := Hm hinv; clear hinv; have RS := cg.2 0 _ rfl; have RT := cg.2 1 _ rfl; have RU := cg.2 2 _ rfl; have RV := cg.2 3 _ rfl; have hyb := cg.1
    by_cases hlt : k < m.aa.length
    ·obtain ⟨b1, o1, ha0, hB, cs, iw, hcell, t8⟩ := (HI.out.below aV bF) k hlt
     subst ha0; have Aw := jt (f := aJ) hlt; have jh := mf (f := aJ) hlt; have OB := oB aJ m.aa (k + 1); have HST := Hm (G6 (d := m) hlt); have LZ := Hm (ng hlt); have B5 : b1 < wr.heap.size := Nat.lt_of_lt_of_le hB bF.size
     have Uv : Hid (∀ j, k = j + 1 -> (hj : j < m.aa.length) -> wr.cell? ⟨b1, o1 + j * 3, none⟩ = some (.int .i64 (ft m.aa k))) := by
      intro j hj ur; obtain ⟨b2, o2, ha2, _, FH, _, mA, a2', c2', rfl, _⟩ := (HI.out.below aV bF) j ur; simp only [Option.some.injEq, Addr.mk.injEq, and_true] at ha2; obtain ⟨rfl, rfl⟩ := ha2; have := mA 0 _ rfl; subst hj; rw [Nat.add_zero] at this; rw [ng ur]; exact this
     obtain ⟨n, hn⟩ : ∃ n, m.aa[k] = n := ⟨_, rfl⟩
     rw [hn] at t8 Aw jh; have uy : Hid (m.aa[k] = n) := hn; clear hn; obtain ⟨ad, cd, rfl, hid, Bn, hsu, _⟩ := t8; have k0 := hcell 0 _ rfl; have k1 := hcell 1 _ rfl; have k2 := hcell 2 _ rfl; rw [Nat.add_zero] at k0; have vG : n.aG.length <= 16777216 := by have : aJ n = n.aG.length := rfl; omega
     have hkb : (aP aJ (m.aa.take k) : Int) + n.aG.length <= 16777216 := by have : aJ n = n.aG.length := rfl; omega
     have OC : Hid (aP aJ (m.aa.take (k + 1)) = aP aJ (m.aa.take k) + n.aG.length) := jh; have abh : k <= 60 := by omega
     clear hcell iw Bn jh OB Aw
     have gu : Hid ((rf m.ah (ft m.aa k) n && isNamed m n) = false -> gv m = false) := by
      intro h; rw [G8.out, rS.out, HST.out, uy.out, h]; simp
     have vH : Hid ((rf m.ah (ft m.aa k) n && isNamed m n) = true -> (nQ m.ah 0 m.aa && m.aa.all (isNamed m)) = (nQ m.ah (ft m.aa (k + 1)) (m.aa.drop (k + 1)) && (m.aa.drop (k + 1)).all (isNamed m))) := by
      intro h; rw [rS.out, HST.out, uy.out, h, Bool.true_and]
     have QG : Hid (ft m.aa (k + 1) = n.bi) := by show _ = _; rw [LZ.out, uy.out]
     clear HST LZ uy rS; have hz1 : (0 : Int) <= (k : Int) := by omega
     have hz2 : (k : Int) < (m.aa.length : Int) := by omega
     have hib : -9223372036854775808 <= n.bi /\ n.bi <= 9223372036854775807 := by simpa [Lit.wf, IntKind.min, IntKind.max, IntKind.signed, IntKind.bits] using hid
     have OD : -9223372036854775808 <= n.aW /\ n.aW <= 9223372036854775807 := by simpa [Lit.wf, IntKind.min, IntKind.max, IntKind.signed, IntKind.bits] using hsu
     obtain ⟨RJ, RL⟩ := hib; obtain ⟨VO, VP⟩ := OD; clear hid hsu; generalize Lj : ft m.aa k = pv at *; have QM := Hm Lj; clear Lj; go_wp2_with fail
     -- the element lies in a new block
     obtain ⟨wq, bI⟩ : ∃ wq, wq = wr.alloc (.cells #[.int .i64 n.bi, .slice ad n.aG.length cd, .int .i64 n.aW] 73) := ⟨_, rfl⟩
     have kH : Below wr.heap.size wr wq := by rw [bI]; exact rB.alloc rN _
     have nk : Bx wq wr.heap.size [.int .i64 n.bi, .slice ad n.aG.length cd, .int .i64 n.aW] := by rw [bI]; exact Bx.new _ _ _
     rw [<- bI]; clear bI; have cJ := af bF kH; have rU := cg.under kH; have p0 : ∀ W, Below wq.heap.size wq W -> W.cell? ⟨w.heap.size, 0, none⟩ = some (.slice (some ⟨b1, o1, none⟩) m.aa.length c0) := fun W hb => (rU.under hb).2 0 _ rfl
     have p1 : ∀ W, Below wq.heap.size wq W -> W.cell? ⟨w.heap.size, 1, none⟩ = some (.slice a1 m.ae.length c1) := fun W hb => (rU.under hb).2 1 _ rfl
     have p2 : ∀ W, Below wq.heap.size wq W -> W.cell? ⟨w.heap.size, 2, none⟩ = some (.slice a2 m.ag.length c2) := fun W hb => (rU.under hb).2 2 _ rfl
     have p3 : ∀ W, Below wq.heap.size wq W -> W.cell? ⟨w.heap.size, 3, none⟩ = some (.int .i64 m.ah) := fun W hb => (rU.under hb).2 3 _ rfl
     have q0 : ∀ W, Below wq.heap.size wq W -> W.cell? ⟨wr.heap.size, 0, none⟩ = some (.int .i64 n.bi) := fun W hb => (nk.under hb).2 0 _ rfl
     have q1 : ∀ W, Below wq.heap.size wq W -> W.cell? ⟨wr.heap.size, 1, none⟩ = some (.slice ad n.aG.length cd) := fun W hb => (nk.under hb).2 1 _ rfl
     have q2 : ∀ W, Below wq.heap.size wq W -> W.cell? ⟨wr.heap.size, 2, none⟩ = some (.int .i64 n.aW) := fun W hb => (nk.under hb).2 2 _ rfl
     have AH := fun W (hb : Below wq.heap.size wq W) => nr a1 _ c1 m.ae n.bi W w.heap.size rfl (by omega) (yE.out.2.2.below au ((af cJ hb).mono rN))
     have B7 := fun W (hb : Below wq.heap.size wq W) => nr a2 _ c2 m.ag n.bi W w.heap.size rfl (by omega) (AG.out.2.2.below au ((af cJ hb).mono rN))
     have AJ : IntKind.i64.wrap (m.ah - 1) = m.ah - 1 := by simp (disch := omega) only [IntWalk.i64_in]
     have zD : Hid (rf m.ah pv n = decide (pv < n.bi /\ n.bi < m.ah /\ 0 <= n.aW /\ n.aW <= n.aG.length)) := rfl; have qK : Hid (isNamed m n = (named m.ae n.bi || named m.ag n.bi)) := rfl
     by_cases h1 : 1 <= n.bi /\ n.bi <= m.ah - 1
     ·have e1 : dm n.bi 1 (m.ah - 1) = true := gC h1.1 h1.2
      obtain ⟨h11, h12⟩ := h1
      by_cases h0 : k = 0
      ·have abj : pv = 0 := by rw [<- QM.out, h0]; rfl
       have BP : ((0 : Int) < (k : Int)) = False := eq_false (by omega); have abk : (0 < k) = False := eq_false (by omega); clear h0
       by_cases JD : 0 <= n.aW /\ n.aW <= n.aG.length
       ·have e3 : dm n.aW 0 n.aG.length = true := gC JD.1 JD.2
        obtain ⟨V6, V7⟩ := JD
        by_cases hA : named m.ae n.bi = true
        ·have Jv := vH.out (by rw [zD.out, qK.out, hA, decide_eq_true (by omega)]; rfl)
         simp only [hA] at AH; clear B7 gu vH zD qK hA G8; refine kz wq (fun hZ => ?_); refine uq 0 ?_; refine uq 1 ?_; refine uq 2 ?_; refine uq 3 ?_; refine uq 4 ?_; refine bf 5 rfl fun K hK => ?_
         go_simp; refine Calls.mono (bY _ _ _ _) ?_; rintro e w1 ⟨rfl, di⟩; have hx1 := a8 di; clear di
         (try simp only [e1, e3])
         go_wp2_with fail; refine aL hK (af hZ hx1) (fun hZ => ?_); clear hK K; refine uq 6 ?_; refine uq 7 ?_; refine uq 8 ?_; refine uq 9 ?_; refine uq 10 ?_; refine um 11 ?_; refine um 12 ?_; refine um 13 ?_; refine um 14 ?_; refine um 15 ?_; refine um 16 ?_; refine um 17 ?_; refine um 18 ?_; refine um 19 ?_; refine um 20 ?_; refine uq 21 ?_; refine uq 22 ?_; refine uq 23 ?_; refine uq 24 ?_; refine uq 25 ?_; refine uq 26 ?_; refine uq 27 ?_; refine uq 28 ?_; refine bf 29 rfl fun K hK => ?_
         go_simp; refine Calls.mono (bY _ _ _ _) ?_; rintro e w2 ⟨rfl, hw2⟩; have hx2 := a8 hw2; clear hw2
         (try simp only [e1, e3])
         go_wp2_with fail; refine aL hK (af hZ hx2) (fun hZ => ?_); clear hK K; refine uq 30 ?_; refine uq 31 ?_; refine uq 32 ?_; refine uq 33 ?_; refine uq 34 ?_; refine uq 35 ?_; refine uq 36 ?_; refine bf 37 rfl fun K hK => ?_
         go_simp; refine Calls.mono (AH _ hZ) ?_; rintro e w3 ⟨rfl, hw3⟩; have hx3 := a8 hw3; clear hw3; go_wp2_with fail; refine aL hK (af hZ hx3) (fun hZ => ?_); clear hK K; refine uq 38 ?_; refine uq 39 ?_; refine um 40 ?_; refine um 41 ?_; refine um 42 ?_; refine um 43 ?_; refine um 44 ?_; refine um 45 ?_; refine uq 46 ?_; refine uq 47 ?_; refine dC ?_; have r1 := q1 _ hZ; have r0 := p0 _ hZ; go_wp2_with fail
         go_roundw
         case rel => exact ⟨k + 1, by omega, by go_num, by rw [OC.out]; go_num, by rw [QG.out]; omega, Jv, af cJ hZ, rU.under hZ⟩
         case measure => simp [intOf]; omega
        ·have yU : named m.ae n.bi = false := by simpa using hA
         simp only [yU] at AH
         by_cases AE : named m.ag n.bi = true
         ·have Jv := vH.out (by rw [zD.out, qK.out, AE, decide_eq_true (by omega)]; simp)
          simp only [AE] at B7; clear gu vH zD qK hA yU AE G8; refine kz wq (fun hZ => ?_); refine uq 0 ?_; refine uq 1 ?_; refine uq 2 ?_; refine uq 3 ?_; refine uq 4 ?_; refine bf 5 rfl fun K hK => ?_
          go_simp; refine Calls.mono (bY _ _ _ _) ?_; rintro e w1 ⟨rfl, di⟩; have hx1 := a8 di; clear di
          (try simp only [e1, e3])
          go_wp2_with fail; refine aL hK (af hZ hx1) (fun hZ => ?_); clear hK K; refine uq 6 ?_; refine uq 7 ?_; refine uq 8 ?_; refine uq 9 ?_; refine uq 10 ?_; refine um 11 ?_; refine um 12 ?_; refine um 13 ?_; refine um 14 ?_; refine um 15 ?_; refine um 16 ?_; refine um 17 ?_; refine um 18 ?_; refine um 19 ?_; refine um 20 ?_; refine uq 21 ?_; refine uq 22 ?_; refine uq 23 ?_; refine uq 24 ?_; refine uq 25 ?_; refine uq 26 ?_; refine uq 27 ?_; refine uq 28 ?_; refine bf 29 rfl fun K hK => ?_
          go_simp; refine Calls.mono (bY _ _ _ _) ?_; rintro e w2 ⟨rfl, hw2⟩; have hx2 := a8 hw2; clear hw2
          (try simp only [e1, e3])
          go_wp2_with fail; refine aL hK (af hZ hx2) (fun hZ => ?_); clear hK K; refine uq 30 ?_; refine uq 31 ?_; refine uq 32 ?_; refine uq 33 ?_; refine uq 34 ?_; refine uq 35 ?_; refine uq 36 ?_; refine bf 37 rfl fun K hK => ?_
          go_simp; refine Calls.mono (AH _ hZ) ?_; rintro e w3 ⟨rfl, hw3⟩; have hx3 := a8 hw3; clear hw3; go_wp2_with fail; refine aL hK (af hZ hx3) (fun hZ => ?_); clear hK K; refine uq 38 ?_; refine uq 39 ?_; refine uq 40 ?_; refine uq 41 ?_; refine uq 42 ?_; refine uq 43 ?_; refine bf 44 rfl fun K hK => ?_
          go_simp; refine Calls.mono (B7 _ hZ) ?_; rintro e w4 ⟨rfl, hw4⟩; have mX := a8 hw4; clear hw4; go_wp2_with fail; refine aL hK (af hZ mX) (fun hZ => ?_); clear hK K; refine uq 45 ?_; refine uq 46 ?_; refine uq 47 ?_; refine dC ?_; have r1 := q1 _ hZ; have r0 := p0 _ hZ; go_wp2_with fail
          go_roundw
          case rel => exact ⟨k + 1, by omega, by go_num, by rw [OC.out]; go_num, by rw [QG.out]; omega, Jv, af cJ hZ, rU.under hZ⟩
          case measure => simp [intOf]; omega
         ·have zy : named m.ag n.bi = false := by simpa using AE
          simp only [zy] at B7; have HV : Hid (gv m = false) := gu.out (by rw [zD.out, qK.out]; rw [yU, zy]; simp); clear gu vH zD qK hA yU AE zy G8; refine kz wq (fun hZ => ?_); refine uq 0 ?_; refine uq 1 ?_; refine uq 2 ?_; refine uq 3 ?_; refine uq 4 ?_; refine bf 5 rfl fun K hK => ?_
          go_simp; refine Calls.mono (bY _ _ _ _) ?_; rintro e w1 ⟨rfl, di⟩; have hx1 := a8 di; clear di
          (try simp only [e1, e3])
          go_wp2_with fail; refine aL hK (af hZ hx1) (fun hZ => ?_); clear hK K; refine uq 6 ?_; refine uq 7 ?_; refine uq 8 ?_; refine uq 9 ?_; refine uq 10 ?_; refine um 11 ?_; refine um 12 ?_; refine um 13 ?_; refine um 14 ?_; refine um 15 ?_; refine um 16 ?_; refine um 17 ?_; refine um 18 ?_; refine um 19 ?_; refine um 20 ?_; refine uq 21 ?_; refine uq 22 ?_; refine uq 23 ?_; refine uq 24 ?_; refine uq 25 ?_; refine uq 26 ?_; refine uq 27 ?_; refine uq 28 ?_; refine bf 29 rfl fun K hK => ?_
          go_simp; refine Calls.mono (bY _ _ _ _) ?_; rintro e w2 ⟨rfl, hw2⟩; have hx2 := a8 hw2; clear hw2
          (try simp only [e1, e3])
          go_wp2_with fail; refine aL hK (af hZ hx2) (fun hZ => ?_); clear hK K; refine uq 30 ?_; refine uq 31 ?_; refine uq 32 ?_; refine uq 33 ?_; refine uq 34 ?_; refine uq 35 ?_; refine uq 36 ?_; refine bf 37 rfl fun K hK => ?_
          go_simp; refine Calls.mono (AH _ hZ) ?_; rintro e w3 ⟨rfl, hw3⟩; have hx3 := a8 hw3; clear hw3; go_wp2_with fail; refine aL hK (af hZ hx3) (fun hZ => ?_); clear hK K; refine uq 38 ?_; refine uq 39 ?_; refine uq 40 ?_; refine uq 41 ?_; refine uq 42 ?_; refine uq 43 ?_; refine bf 44 rfl fun K hK => ?_
          go_simp; refine Calls.mono (B7 _ hZ) ?_; rintro e w4 ⟨rfl, hw4⟩; have mX := a8 hw4; clear hw4; go_wp2_with fail; refine aL hK (af hZ mX) (fun hZ => ?_); clear hK K; refine uq 45 ?_; refine uq 46 ?_; refine uq 47 ?_; refine dC ?_; go_wp2_with fail; go_ret; exact ⟨by rw [HV.out]; rfl, af cJ hZ⟩
       ·have e3 : dm n.aW 0 n.aG.length = false := gO JD
        have HV : Hid (gv m = false) := gu.out (by rw [zD.out, qK.out]; rw [decide_eq_false (by omega)]; rfl); clear gu vH zD qK JD G8; refine kz wq (fun hZ => ?_); refine uq 0 ?_; refine uq 1 ?_; refine uq 2 ?_; refine uq 3 ?_; refine uq 4 ?_; refine bf 5 rfl fun K hK => ?_
        go_simp; refine Calls.mono (bY _ _ _ _) ?_; rintro e w1 ⟨rfl, di⟩; have hx1 := a8 di; clear di
        (try simp only [e1, e3])
        go_wp2_with fail; refine aL hK (af hZ hx1) (fun hZ => ?_); clear hK K; refine uq 6 ?_; refine uq 7 ?_; refine uq 8 ?_; refine uq 9 ?_; refine uq 10 ?_; refine um 11 ?_; refine um 12 ?_; refine um 13 ?_; refine um 14 ?_; refine um 15 ?_; refine um 16 ?_; refine um 17 ?_; refine um 18 ?_; refine um 19 ?_; refine um 20 ?_; refine uq 21 ?_; refine uq 22 ?_; refine uq 23 ?_; refine uq 24 ?_; refine uq 25 ?_; refine uq 26 ?_; refine uq 27 ?_; refine uq 28 ?_; refine bf 29 rfl fun K hK => ?_
        go_simp; refine Calls.mono (bY _ _ _ _) ?_; rintro e w2 ⟨rfl, hw2⟩; have hx2 := a8 hw2; clear hw2
        (try simp only [e1, e3])
        go_wp2_with fail; refine aL hK (af hZ hx2) (fun hZ => ?_); clear hK K; refine uq 30 ?_; refine uq 31 ?_; refine uq 32 ?_; refine um 33 ?_; refine um 34 ?_; refine um 35 ?_; refine um 36 ?_; refine um 37 ?_; refine um 38 ?_; refine um 39 ?_; refine um 40 ?_; refine um 41 ?_; refine um 42 ?_; refine um 43 ?_; refine um 44 ?_; refine um 45 ?_; refine um 46 ?_; refine uq 47 ?_; refine dC ?_; go_wp2_with fail; go_ret; exact ⟨by rw [HV.out]; rfl, af cJ hZ⟩
      ·obtain ⟨j, rfl⟩ : ∃ j, k = j + 1 := ⟨k - 1, by omega⟩
       have ur : j < m.aa.length := by omega
       have kp := Uv.out j rfl ur; have qp : ∀ W, Below wq.heap.size wq W -> W.cell? ⟨b1, o1 + j * 3, none⟩ = some (.int .i64 pv) := fun W hb => ((af kH hb).cell (p := ⟨b1, o1 + j * 3, none⟩) B5).trans kp
       have hz3 : (0 : Int) < (j : Int) + 1 := by omega
       have L9 : (j : Int) < (m.aa.length : Int) := by omega
       have R3 : (0 : Int) <= (j : Int) + 1 := by omega
       have hwr : IntKind.i64.wrap (j : Int) = j := by simp (disch := omega) only [IntWalk.i64_in]
       clear kp Uv h0
       by_cases hp : pv < n.bi
       ·have hp2 : (n.bi <= pv) = False := eq_false (by omega)
        by_cases JD : 0 <= n.aW /\ n.aW <= n.aG.length
        ·have e3 : dm n.aW 0 n.aG.length = true := gC JD.1 JD.2
         obtain ⟨V6, V7⟩ := JD
         by_cases hA : named m.ae n.bi = true
         ·have Jv := vH.out (by rw [zD.out, qK.out, hA, decide_eq_true (by omega)]; rfl)
          simp only [hA] at AH; clear B7 gu vH zD qK hA G8; refine kz wq (fun hZ => ?_); refine uq 0 ?_; refine uq 1 ?_; refine uq 2 ?_; refine uq 3 ?_; refine uq 4 ?_; refine bf 5 rfl fun K hK => ?_
          go_simp; refine Calls.mono (bY _ _ _ _) ?_; rintro e w1 ⟨rfl, di⟩; have hx1 := a8 di; clear di
          (try simp only [e1, e3])
          go_wp2_with fail; refine aL hK (af hZ hx1) (fun hZ => ?_); clear hK K; refine uq 6 ?_; refine uq 7 ?_; refine uq 8 ?_; refine uq 9 ?_; refine uq 10 ?_; refine uq 11 ?_; refine uq 12 ?_; refine uq 13 ?_; refine uq 14 ?_; refine uq 15 ?_; refine uq 16 ?_; refine uq 17 ?_; refine uq 18 ?_; refine uq 19 ?_; refine uq 20 ?_; refine uq 21 ?_; refine uq 22 ?_; refine uq 23 ?_; refine uq 24 ?_; refine uq 25 ?_; refine uq 26 ?_; refine uq 27 ?_; refine uq 28 ?_; refine bf 29 rfl fun K hK => ?_
          go_simp; refine Calls.mono (bY _ _ _ _) ?_; rintro e w2 ⟨rfl, hw2⟩; have hx2 := a8 hw2; clear hw2
          (try simp only [e1, e3])
          go_wp2_with fail; refine aL hK (af hZ hx2) (fun hZ => ?_); clear hK K; refine uq 30 ?_; refine uq 31 ?_; refine uq 32 ?_; refine uq 33 ?_; refine uq 34 ?_; refine uq 35 ?_; refine uq 36 ?_; refine bf 37 rfl fun K hK => ?_
          go_simp; refine Calls.mono (AH _ hZ) ?_; rintro e w3 ⟨rfl, hw3⟩; have hx3 := a8 hw3; clear hw3; go_wp2_with fail; refine aL hK (af hZ hx3) (fun hZ => ?_); clear hK K; refine uq 38 ?_; refine uq 39 ?_; refine um 40 ?_; refine um 41 ?_; refine um 42 ?_; refine um 43 ?_; refine um 44 ?_; refine um 45 ?_; refine uq 46 ?_; refine uq 47 ?_; refine dC ?_; have r1 := q1 _ hZ; have r0 := p0 _ hZ; go_wp2_with fail
          go_roundw
          case rel => exact ⟨j + 1 + 1, by omega, by go_num, by rw [OC.out]; go_num, by rw [QG.out]; omega, Jv, af cJ hZ, rU.under hZ⟩
          case measure => simp [intOf]; omega
         ·have yU : named m.ae n.bi = false := by simpa using hA
          simp only [yU] at AH
          by_cases AE : named m.ag n.bi = true
          ·have Jv := vH.out (by rw [zD.out, qK.out, AE, decide_eq_true (by omega)]; simp)
           simp only [AE] at B7; clear gu vH zD qK hA yU AE G8; refine kz wq (fun hZ => ?_); refine uq 0 ?_; refine uq 1 ?_; refine uq 2 ?_; refine uq 3 ?_; refine uq 4 ?_; refine bf 5 rfl fun K hK => ?_
           go_simp; refine Calls.mono (bY _ _ _ _) ?_; rintro e w1 ⟨rfl, di⟩; have hx1 := a8 di; clear di
           (try simp only [e1, e3])
           go_wp2_with fail; refine aL hK (af hZ hx1) (fun hZ => ?_); clear hK K; refine uq 6 ?_; refine uq 7 ?_; refine uq 8 ?_; refine uq 9 ?_; refine uq 10 ?_; refine uq 11 ?_; refine uq 12 ?_; refine uq 13 ?_; refine uq 14 ?_; refine uq 15 ?_; refine uq 16 ?_; refine uq 17 ?_; refine uq 18 ?_; refine uq 19 ?_; refine uq 20 ?_; refine uq 21 ?_; refine uq 22 ?_; refine uq 23 ?_; refine uq 24 ?_; refine uq 25 ?_; refine uq 26 ?_; refine uq 27 ?_; refine uq 28 ?_; refine bf 29 rfl fun K hK => ?_
           go_simp; refine Calls.mono (bY _ _ _ _) ?_; rintro e w2 ⟨rfl, hw2⟩; have hx2 := a8 hw2; clear hw2
           (try simp only [e1, e3])
           go_wp2_with fail; refine aL hK (af hZ hx2) (fun hZ => ?_); clear hK K; refine uq 30 ?_; refine uq 31 ?_; refine uq 32 ?_; refine uq 33 ?_; refine uq 34 ?_; refine uq 35 ?_; refine uq 36 ?_; refine bf 37 rfl fun K hK => ?_
           go_simp; refine Calls.mono (AH _ hZ) ?_; rintro e w3 ⟨rfl, hw3⟩; have hx3 := a8 hw3; clear hw3; go_wp2_with fail; refine aL hK (af hZ hx3) (fun hZ => ?_); clear hK K; refine uq 38 ?_; refine uq 39 ?_; refine uq 40 ?_; refine uq 41 ?_; refine uq 42 ?_; refine uq 43 ?_; refine bf 44 rfl fun K hK => ?_
           go_simp; refine Calls.mono (B7 _ hZ) ?_; rintro e w4 ⟨rfl, hw4⟩; have mX := a8 hw4; clear hw4; go_wp2_with fail; refine aL hK (af hZ mX) (fun hZ => ?_); clear hK K; refine uq 45 ?_; refine uq 46 ?_; refine uq 47 ?_; refine dC ?_; have r1 := q1 _ hZ; have r0 := p0 _ hZ; go_wp2_with fail
           go_roundw
           case rel => exact ⟨j + 1 + 1, by omega, by go_num, by rw [OC.out]; go_num, by rw [QG.out]; omega, Jv, af cJ hZ, rU.under hZ⟩
           case measure => simp [intOf]; omega
          ·have zy : named m.ag n.bi = false := by simpa using AE
           simp only [zy] at B7; have HV : Hid (gv m = false) := gu.out (by rw [zD.out, qK.out]; rw [yU, zy]; simp); clear gu vH zD qK hA yU AE zy G8; refine kz wq (fun hZ => ?_); refine uq 0 ?_; refine uq 1 ?_; refine uq 2 ?_; refine uq 3 ?_; refine uq 4 ?_; refine bf 5 rfl fun K hK => ?_
           go_simp; refine Calls.mono (bY _ _ _ _) ?_; rintro e w1 ⟨rfl, di⟩; have hx1 := a8 di; clear di
           (try simp only [e1, e3])
           go_wp2_with fail; refine aL hK (af hZ hx1) (fun hZ => ?_); clear hK K; refine uq 6 ?_; refine uq 7 ?_; refine uq 8 ?_; refine uq 9 ?_; refine uq 10 ?_; refine uq 11 ?_; refine uq 12 ?_; refine uq 13 ?_; refine uq 14 ?_; refine uq 15 ?_; refine uq 16 ?_; refine uq 17 ?_; refine uq 18 ?_; refine uq 19 ?_; refine uq 20 ?_; refine uq 21 ?_; refine uq 22 ?_; refine uq 23 ?_; refine uq 24 ?_; refine uq 25 ?_; refine uq 26 ?_; refine uq 27 ?_; refine uq 28 ?_; refine bf 29 rfl fun K hK => ?_
           go_simp; refine Calls.mono (bY _ _ _ _) ?_; rintro e w2 ⟨rfl, hw2⟩; have hx2 := a8 hw2; clear hw2
           (try simp only [e1, e3])
           go_wp2_with fail; refine aL hK (af hZ hx2) (fun hZ => ?_); clear hK K; refine uq 30 ?_; refine uq 31 ?_; refine uq 32 ?_; refine uq 33 ?_; refine uq 34 ?_; refine uq 35 ?_; refine uq 36 ?_; refine bf 37 rfl fun K hK => ?_
           go_simp; refine Calls.mono (AH _ hZ) ?_; rintro e w3 ⟨rfl, hw3⟩; have hx3 := a8 hw3; clear hw3; go_wp2_with fail; refine aL hK (af hZ hx3) (fun hZ => ?_); clear hK K; refine uq 38 ?_; refine uq 39 ?_; refine uq 40 ?_; refine uq 41 ?_; refine uq 42 ?_; refine uq 43 ?_; refine bf 44 rfl fun K hK => ?_
           go_simp; refine Calls.mono (B7 _ hZ) ?_; rintro e w4 ⟨rfl, hw4⟩; have mX := a8 hw4; clear hw4; go_wp2_with fail; refine aL hK (af hZ mX) (fun hZ => ?_); clear hK K; refine uq 45 ?_; refine uq 46 ?_; refine uq 47 ?_; refine dC ?_; go_wp2_with fail; go_ret; exact ⟨by rw [HV.out]; rfl, af cJ hZ⟩
        ·have e3 : dm n.aW 0 n.aG.length = false := gO JD
         have HV : Hid (gv m = false) := gu.out (by rw [zD.out, qK.out]; rw [decide_eq_false (by omega)]; rfl); clear gu vH zD qK JD G8; refine kz wq (fun hZ => ?_); refine uq 0 ?_; refine uq 1 ?_; refine uq 2 ?_; refine uq 3 ?_; refine uq 4 ?_; refine bf 5 rfl fun K hK => ?_
         go_simp; refine Calls.mono (bY _ _ _ _) ?_; rintro e w1 ⟨rfl, di⟩; have hx1 := a8 di; clear di
         (try simp only [e1, e3])
         go_wp2_with fail; refine aL hK (af hZ hx1) (fun hZ => ?_); clear hK K; refine uq 6 ?_; refine uq 7 ?_; refine uq 8 ?_; refine uq 9 ?_; refine uq 10 ?_; refine uq 11 ?_; refine uq 12 ?_; refine uq 13 ?_; refine uq 14 ?_; refine uq 15 ?_; refine uq 16 ?_; refine uq 17 ?_; refine uq 18 ?_; refine uq 19 ?_; refine uq 20 ?_; refine uq 21 ?_; refine uq 22 ?_; refine uq 23 ?_; refine uq 24 ?_; refine uq 25 ?_; refine uq 26 ?_; refine uq 27 ?_; refine uq 28 ?_; refine bf 29 rfl fun K hK => ?_
         go_simp; refine Calls.mono (bY _ _ _ _) ?_; rintro e w2 ⟨rfl, hw2⟩; have hx2 := a8 hw2; clear hw2
         (try simp only [e1, e3])
         go_wp2_with fail; refine aL hK (af hZ hx2) (fun hZ => ?_); clear hK K; refine uq 30 ?_; refine uq 31 ?_; refine uq 32 ?_; refine um 33 ?_; refine um 34 ?_; refine um 35 ?_; refine um 36 ?_; refine um 37 ?_; refine um 38 ?_; refine um 39 ?_; refine um 40 ?_; refine um 41 ?_; refine um 42 ?_; refine um 43 ?_; refine um 44 ?_; refine um 45 ?_; refine um 46 ?_; refine uq 47 ?_; refine dC ?_; go_wp2_with fail; go_ret; exact ⟨by rw [HV.out]; rfl, af cJ hZ⟩
       ·have hp2 : n.bi <= pv := by omega
        have HV : Hid (gv m = false) := gu.out (by rw [zD.out, qK.out]; rw [decide_eq_false (by omega)]; rfl); have e3 := e1; clear gu vH zD qK hp G8; refine kz wq (fun hZ => ?_); refine uq 0 ?_; refine uq 1 ?_; refine uq 2 ?_; refine uq 3 ?_; refine uq 4 ?_; refine bf 5 rfl fun K hK => ?_
        go_simp; refine Calls.mono (bY _ _ _ _) ?_; rintro e w1 ⟨rfl, di⟩; have hx1 := a8 di; clear di
        (try simp only [e1, e3])
        go_wp2_with fail; refine aL hK (af hZ hx1) (fun hZ => ?_); clear hK K; refine uq 6 ?_; refine uq 7 ?_; refine uq 8 ?_; refine uq 9 ?_; refine uq 10 ?_; refine uq 11 ?_; refine uq 12 ?_; refine uq 13 ?_; refine uq 14 ?_; refine uq 15 ?_; refine uq 16 ?_; refine uq 17 ?_; refine uq 18 ?_; refine uq 19 ?_; refine uq 20 ?_; refine uq 21 ?_; refine uq 22 ?_; refine uq 23 ?_; refine um 24 ?_; refine um 25 ?_; refine um 26 ?_; refine um 27 ?_; refine um 28 ?_; refine um 29 ?_; refine um 30 ?_; refine uq 31 ?_; refine uq 32 ?_; refine um 33 ?_; refine um 34 ?_; refine um 35 ?_; refine um 36 ?_; refine um 37 ?_; refine um 38 ?_; refine um 39 ?_; refine um 40 ?_; refine um 41 ?_; refine um 42 ?_; refine um 43 ?_; refine um 44 ?_; refine um 45 ?_; refine um 46 ?_; refine uq 47 ?_; refine dC ?_; go_wp2_with fail; go_ret; exact ⟨by rw [HV.out]; rfl, af cJ hZ⟩
     ·have e1 : dm n.bi 1 (m.ah - 1) = false := gO h1
      have HV : Hid (gv m = false) := gu.out (by rw [zD.out, qK.out]; rw [decide_eq_false (by omega)]; rfl); have e3 := e1; clear gu vH zD qK h1 G8; refine kz wq (fun hZ => ?_); refine uq 0 ?_; refine uq 1 ?_; refine uq 2 ?_; refine uq 3 ?_; refine uq 4 ?_; refine bf 5 rfl fun K hK => ?_
      go_simp; refine Calls.mono (bY _ _ _ _) ?_; rintro e w1 ⟨rfl, di⟩; have hx1 := a8 di; clear di
      (try simp only [e1, e3])
      go_wp2_with fail; refine aL hK (af hZ hx1) (fun hZ => ?_); clear hK K; refine uq 6 ?_; refine uq 7 ?_; refine um 8 ?_; refine um 9 ?_; refine um 10 ?_; refine um 11 ?_; refine um 12 ?_; refine um 13 ?_; refine um 14 ?_; refine um 15 ?_; refine um 16 ?_; refine um 17 ?_; refine um 18 ?_; refine um 19 ?_; refine um 20 ?_; refine um 21 ?_; refine uq 22 ?_; refine uq 23 ?_; refine um 24 ?_; refine um 25 ?_; refine um 26 ?_; refine um 27 ?_; refine um 28 ?_; refine um 29 ?_; refine um 30 ?_; refine uq 31 ?_; refine uq 32 ?_; refine um 33 ?_; refine um 34 ?_; refine um 35 ?_; refine um 36 ?_; refine um 37 ?_; refine um 38 ?_; refine um 39 ?_; refine um 40 ?_; refine um 41 ?_; refine um 42 ?_; refine um 43 ?_; refine um 44 ?_; refine um 45 ?_; refine um 46 ?_; refine uq 47 ?_; refine dC ?_; go_wp2_with fail; go_ret; exact ⟨by rw [HV.out]; rfl, af cJ hZ⟩
    ·have qZ : k = m.aa.length := by omega
     subst qZ; rw [List.take_length]
     have YA : Hid ((nQ m.ah 0 m.aa && m.aa.all (isNamed m)) = true) := by
      show _ = true; rw [rS.out, List.drop_length]; rfl
     have AH := fun W (hb : Below wr.heap.size wr W) => rr _ m a1 _ c1 m.ae W (aq.mono (aq.below HR.out (af bF hb)) (af bF hb).size) (by omega) rfl (by omega) (bw.mono au (yE.out.below au (af bF hb)) (af bF hb).size)
     have B7 := fun W (hb : Below wr.heap.size wr W) => rr _ m a2 _ c2 m.ag W (aq.mono (aq.below HR.out (af bF hb)) (af bF hb).size) (by omega) rfl (by omega) (bw.mono au (AG.out.below au (af bF hb)) (af bF hb).size)
     obtain ⟨sm, hsm⟩ : ∃ sm : Nat, aP aJ m.aa = sm := ⟨_, rfl⟩
     obtain ⟨E1, V8⟩ : ∃ E1 : Bool, (ly m.aa [] ByteArray.empty m.ae && decide (m.ae.length <= 30)) = E1 := ⟨_, rfl⟩
     obtain ⟨E2, V9⟩ : ∃ E2 : Bool, (ly m.aa [] ByteArray.empty m.ag && decide (m.ag.length <= 30)) = E2 := ⟨_, rfl⟩
     have OQ : Hid (gv m = (decide (sm <= 60000) && E1 && E2)) := by
      show _ = _; rw [G8.out, YA.out, V8, V9, hsm, Bool.true_and]
     simp only [V8] at AH; simp only [V9] at B7; rw [hsm] at hw2 ⊢; clear V8 V9 hsm G8 YA rS
     by_cases h6 : sm <= 60000
     ·have HD := Hm (decide_eq_true h6)
      cases E1
      ·go_wp2_with fail
       refine Calls.mono (AH _ rB) ?_; rintro e w1 ⟨rfl, hx1⟩; go_wp2_with fail; go_ret; exact ⟨by rw [OQ.out]; simp, af bF hx1⟩
      ·go_wp2_with fail
       refine Calls.mono (AH _ rB) ?_; rintro e w1 ⟨rfl, hx1⟩; have hb1 := cg.under hx1; have y0 := hb1.2 0 _ rfl; have y1 := hb1.2 1 _ rfl; have y2 := hb1.2 2 _ rfl; have y3 := hb1.2 3 _ rfl; go_wp2_with fail; refine Calls.mono (B7 _ hx1) ?_; rintro e w2 ⟨rfl, hx2⟩; go_wp2_with fail; go_ret; exact ⟨by rw [OQ.out, HD.out]; rfl, af bF (af hx1 hx2)⟩
     ·have HD := Hm (decide_eq_false h6)
      go_wp2_with fail; go_ret; exact ⟨by rw [OQ.out, HD.out]; rfl, bF⟩
  ·have HV : Hid (gv m = false) := by
    show gv m = false; unfold gv; rw [decide_eq_false hL]; simp
   have hL2 : (60 : Int) < (m.aa.length : Int) := by omega
   go_enter Tryz.func24, Tryz.ntmps24; go_wp2_with (go_at_call 30; refine (bY _ _ _ _).mono ?_; rintro e w' ⟨rfl, rfl⟩); go_ret; exact ⟨by rw [HV.out]; rfl, rB.alloc rN _⟩
 ·have e0 : dm m.ah 1 1000000 = false := gO NE
  have HV : Hid (gv m = false) := by
   show gv m = false; unfold gv; rw [e0]; simp
  go_enter Tryz.func24, Tryz.ntmps24; go_wp2_with (go_at_call 30; refine (bY _ _ _ _).mono ?_; rintro e w' ⟨rfl, rfl⟩); go_ret; exact ⟨by rw [HV.out]; rfl, rB.alloc rN _⟩
theorem tu (cs : List Value) (m : az) (w : World) (hr : bg w.heap.size w cs m) (hw : aZ m <= 16777216) :
  Calls Tryz.prog 24 #[.agg cs.toArray] w fun e w' => e = .returned (.bool (bc m)) /\ Below w.heap.size w w' := by
 rw [<- G7]; exact xt cs m w hr hw
theorem lU (cs : List Value) (m : az) (w : World) (hr : bg w.heap.size w cs m) (hw : aZ m <= 1048576) :
  Calls Tryz.prog 24 #[.agg cs.toArray] w fun e w' => e = .returned (.bool (bc m)) /\ Below w.heap.size w w' :=
 tu cs m w hr (by omega)
end Go.Proofs.YtcamcgfbljhbhaaGreatDoor

namespace Go.Proofs.YtcamcgfbljhbhaaGreatDoor
open Go.RowKit Go.Maps
def mB (m n : az) : az := if bc (aY n) then aY n else m
def jo (n : az) : Int := if bc (aY n) then 0 else 4
theorem NF {F0 F1 F2 : List Nat} {B base : Nat} {W : World} {ak b1 b2 : Option Addr} {ck d1 d2 : Nat} {n : az} (h : bS 3 73 (qT F0) B W base (.slice ak (bV n).length ck) (bV n)) (hN : aF 2 68 cN W (.slice b1 n.ae.length d1) n.ae F1) (hS : aF 2 68 cN W (.slice b2 n.ag.length d2) n.ag F2) (hx : (Lit.int .i64 n.ah).wf = true) :
  ∃ F', ba W [.slice ak (bV n).length ck, .slice b1 n.ae.length d1, .slice b2 n.ag.length d2, .int .i64 n.ah] (aY n) F' /\ ∀ b, b ∈ F' -> b ∈ F0 ++ F1 ++ F2 ∨ base <= b := by
 obtain ⟨F', h1, h2⟩ := h.own; refine ⟨F' ++ F1 ++ F2 ++ [], ⟨_, F', _, F1, _, F2, rfl, h1, hN, hS, hx, rfl⟩, fun b hb => ?_⟩; simp at hb; rcases hb with hb | hb | hb
 ·rcases h2 b hb with h | h
  ·exact .inl (by simp [h])
  ·exact .inr h
 ·exact .inl (by simp [hb])
 ·exact .inl (by simp [hb])
theorem mC (cs : List Value) (b0 b1 b2 : Option Addr) (d0 d1 d2 : Nat) (m n : az) (F0 F1 F2 : List Nat) (w : World) (hr : bg w.heap.size w cs m) (hw : aZ m <= 1048576) (Uh : aF 3 73 fX w (.slice b0 n.aa.length d0) n.aa F0) (YB : aF 2 68 cN w (.slice b1 n.ae.length d1) n.ae F1) (YC : aF 2 68 cN w (.slice b2 n.ag.length d2) n.ag F2) (R4 : (Lit.int .i64 n.ah).wf = true) (AJ : aZ n <= 16777216) (OB : n.aa.length <= 1048576 /\ n.ae.length <= 1048576 /\ n.ag.length <= 1048576) :
  Calls Tryz.prog 74 #[.agg cs.toArray, .agg #[.slice b0 n.aa.length d0, .slice b1 n.ae.length d1, .slice b2 n.ag.length d2, .int .i64 n.ah]] w fun e w' => ∃ (cs' : List Value) (F : List Nat), e = .returned (.tuple #[.agg cs'.toArray, .int .i64 (jo n)]) /\ ba w' cs' (mB m n) F /\ (∀ b, b ∈ F -> b ∈ F0 ++ F1 ++ F2 ∨ w.heap.size <= b) /\ Below w.heap.size w w' := by
 have hq := hr; obtain ⟨a0, c0, a1, c1, a2, c2, rfl, hI, gf, gT, kX, _⟩ := hq; have hw2 : m.aa.length + aP aJ m.aa + (m.ae.length + aP a7 m.ae) + (m.ag.length + aP a7 m.ag) <= 1048576 := hw; have HW := Hm hw; have HR := Hm hr; clear hr hI gf gT hw; have qK := Hm Uh; have Ds := Hm YB; have Wb := Hm YC; clear Uh YB YC; have NG : Hid (aZ (aY n) <= 16777216) := Nat.le_trans (jS n) AJ; go_enter Tryz.func74, Tryz.ntmps74; go_wp2_with fail; obtain ⟨wq, bI⟩ : ∃ wq, wq = (((w.alloc (.cells #[.slice a0 m.aa.length c0, .slice a1 m.ae.length c1, .slice a2 m.ag.length c2, .int .i64 m.ah] 27)).alloc (.cells #[.slice b0 n.aa.length d0, .slice b1 n.ae.length d1, .slice b2 n.ag.length d2, .int .i64 n.ah] 27)).alloc (.cells #[.slice none 0 0, .slice none 0 0, .slice none 0 0, .int .i64 0] 27)) := ⟨_, rfl⟩
 have cJ : Below w.heap.size w wq := by rw [bI]; exact Below.alloc (Below.alloc (Below.alloc rB (by exact rN) _) (by simp; try omega) _) (by simp; try omega) _
 have dl : Bw wq (w.heap.size) 27 (cj a0 c0 a1 c1 a2 c2 m) := by rw [bI]; exact Bw.alloc (Bw.alloc (Bw.dX _ _ _ (by simp)) _) _
 have nk : Bw wq (w.heap.size + 1) 27 (cj b0 d0 b1 d1 b2 d2 n) := by rw [bI]; exact Bw.alloc (Bw.dX _ _ _ (by simp)) _
 have hbr : Bw wq (w.heap.size + 2) 27 oz := by rw [bI]; exact Bw.dX _ _ _ (by simp)
 rw [<- bI]; clear bI; have YD : ∀ W, Below w.heap.size w W -> aF 2 68 cN W (.slice b1 n.ae.length d1) n.ae F1 := fun W hb => aF.frame ay Ds.out (fun b kB => hb.block b (aF.lt ay Ds.out b kB))
 have YE : ∀ W, Below w.heap.size w W -> aF 2 68 cN W (.slice b2 n.ag.length d2) n.ag F2 := fun W hb => aF.frame ay Wb.out (fun b kB => hb.block b (aF.lt ay Wb.out b kB))
 have Um := Hm YD; have Uw := Hm YE; clear YD YE; refine (xo (qT F0) (d9 F0) (zB F0) b0 b1 b2 d0 d1 d2 n wq w.heap.size cJ.size (qK.out.NC.below (d9 F0) cJ) (bw.mono au ((aF.leaf ay Ds.out).below au cJ) cJ.size) (bw.mono au ((aF.leaf ay Wb.out).below au cJ) cJ.size) OB).mono ?_; rintro e w1 ⟨ak, ck, rfl, hrow, hx1⟩; have oQ := Hm hrow; have hb1 := af cJ hx1; have df := dl.under hx1; have vJ := nk.under hx1; have dB := hbr.under hx1; have sF := vJ.lt; have hz1 := hx1.size; have Ux := cJ.size; have oA := dB.lt; have RP := nk.lt; have vN := hbr.lt; clear hrow dl nk hbr; obtain ⟨y0, y1, y2, y3⟩ := vJ.c4; obtain ⟨f0, f1, f2, f3⟩ := vJ.f4; go_wp2_with fail; obtain ⟨ws, jh⟩ : ∃ ws, ws = ((((w1.setCell ⟨w.heap.size + 1, 0, none⟩ (.slice ak (bV n).length ck)).setCell ⟨w.heap.size + 1, 1, none⟩ (.slice b1 n.ae.length d1)).setCell ⟨w.heap.size + 1, 2, none⟩ (.slice b2 n.ag.length d2)).setCell ⟨w.heap.size + 1, 3, none⟩ (.int .i64 n.ah)) := ⟨_, rfl⟩
 have jw : aw [w.heap.size + 1] w1 ws := by rw [jh]; exact bE _ _ _ _ _ _
 have R6 : Bw ws (w.heap.size + 1) 27 [.slice ak (bV n).length ck, .slice b1 n.ae.length d1, .slice b2 n.ag.length d2, .int .i64 n.ah] := by rw [jh]; exact (((vJ.put 0 _).put 1 _).put 2 _).put 3 _
 rw [<- jh]; clear jh y0 y1 y2 y3 f0 f1 f2 f3; have oT := df.turn jw (by simp); have jd := dB.turn jw (by simp); have l8 : Below w.heap.size w ws := hb1.trans (jw.below (fun k hk => by simp at hk; omega) hb1.size); have IX : bS 3 73 (qT F0) w.heap.size ws wq.heap.size (.slice ak (bV n).length ck) (bV n) := bS.turn (d9 F0) oQ.out jw (fun k hk => by simp at hk; omega) hb1.size rN; have G4 := Hm IX
 have Uy : Hid (bg ws.heap.size ws [.slice ak (bV n).length ck, .slice b1 n.ae.length d1, .slice b2 n.ag.length d2, .int .i64 n.ah] (aY n)) := by
  obtain ⟨F', h1, _⟩ := NF IX (Um.out _ l8) (Uw.out _ l8) R4; exact aj.read h1
 have tv := Hm l8; clear IX oQ jw; obtain ⟨z0, z1, z2, z3⟩ := R6.c4; refine (tu [.slice ak (bV n).length ck, .slice b1 n.ae.length d1, .slice b2 n.ag.length d2, .int .i64 n.ah] (aY n) ws Uy.out NG.out).mono ?_; rintro e w2 ⟨rfl, hx2⟩; have hb2 := af tv.out hx2; have eT := oT.under hx2; have JA := R6.under hx2; have bZ := jd.under hx2; have hl2 := JA.lt; have sI := bZ.lt; have hl4 := eT.lt; clear z0 z1 z2 z3
 by_cases hK : bc (aY n) = true
 ·have HV : Hid (mB m n = aY n /\ jo n = 0) := by refine ⟨?_, ?_⟩ <;> simp [mB, jo, hK]
  rw [hK]; clear hK; obtain ⟨y0, y1, y2, y3⟩ := JA.c4; obtain ⟨oa, od, og, oh⟩ := bZ.c4; obtain ⟨oc, mz, nL, ol⟩ := bZ.f4
  have hkey : ∀ W', aw [w.heap.size + 2] w2 W' -> (∃ F', ba W' [.slice ak (bV n).length ck, .slice b1 n.ae.length d1, .slice b2 n.ag.length d2, .int .i64 n.ah] (aY n) F' /\ ∀ b, b ∈ F' -> b ∈ F0 ++ F1 ++ F2 ∨ w.heap.size <= b) /\ Below w.heap.size w W' := fun W' hT => by
   have QN : Below w.heap.size w W' := hb2.trans (hT.below (fun k hk => by simp at hk; omega) hb2.size); obtain ⟨F', h1, h2⟩ := NF (bS.turn (d9 F0) (F := [w.heap.size + 2]) (bS.keep (d9 F0) G4.out hx2 tv.out.size) hT (fun k hk => by simp at hk; omega) hb2.size rN) (Um.out _ QN) (Uw.out _ QN) R4; exact ⟨⟨F', h1, fun b hb => (h2 b hb).imp id (fun h => by omega)⟩, QN⟩
  have HKEY := Hm hkey; clear hkey; go_wp2_with fail; obtain ⟨⟨F', h1, h2⟩, h3⟩ := HKEY.out _ (show aw [w.heap.size + 2] w2 ((((w2.setCell ⟨w.heap.size + 2, 0, none⟩ (.slice ak (bV n).length ck)).setCell ⟨w.heap.size + 2, 1, none⟩ (.slice b1 n.ae.length d1)).setCell ⟨w.heap.size + 2, 2, none⟩ (.slice b2 n.ag.length d2)).setCell ⟨w.heap.size + 2, 3, none⟩ (.int .i64 n.ah)) from bE _ _ _ _ _ _); exact bodyPost_ret (v := .tuple #[.agg #[.slice ak (bV n).length ck, .slice b1 n.ae.length d1, .slice b2 n.ag.length d2, .int .i64 n.ah], .int .i64 0]) (by simp [results, Tryz.results74, go_sem, *]) rfl ⟨[.slice ak (bV n).length ck, .slice b1 n.ae.length d1, .slice b2 n.ag.length d2, .int .i64 n.ah], F', by rw [HV.out.2], by rw [HV.out.1]; exact h1, h2, h3⟩
 ·have hK2 : bc (aY n) = false := Bool.eq_false_iff.2 hK
  have HV : Hid (mB m n = m /\ jo n = 4) := by refine ⟨?_, ?_⟩ <;> simp [mB, jo, hK2]
  rw [hK2]; clear hK hK2; obtain ⟨y0, y1, y2, y3⟩ := eT.c4; go_wp2_with fail; refine (eC _ m w2 (aq.mono (aq.below HR.out hb2) hb2.size) HW.out).mono ?_; rintro e w3 ⟨uB, F3, rfl, eU, jx, cm, hx3⟩; have hb3 := af hb2 hx3; have dc := bZ.under hx3; have R7 := dc.lt; obtain ⟨q0, p0, q1, p1, q2, p2, G0, G1, G2, rfl, _, _, _, _, rfl⟩ := aC eU
  have hkey : ∀ W', aw [w.heap.size + 2] w3 W' -> ba W' (cj q0 p0 q1 p1 q2 p2 m) m (G0 ++ G1 ++ G2 ++ []) /\ Below w.heap.size w W' := fun W' hT =>
   ⟨aj.frame eU (fun b hb => hT.block b (aj.lt eU b hb) (fun h => by simp at h; have := cm b hb; omega)), hb3.trans (hT.below (fun k hk => by simp at hk; omega) hb3.size)⟩
  have HKEY := Hm hkey; have jH := Hm cm; clear hkey eU jx cm y0 y1 y2 y3; obtain ⟨oa, od, og, oh⟩ := dc.c4; obtain ⟨oc, mz, nL, ol⟩ := dc.f4; go_wp2_with fail; obtain ⟨h1, h3⟩ := HKEY.out _ (show aw [w.heap.size + 2] w3 ((((w3.setCell ⟨w.heap.size + 2, 0, none⟩ (.slice q0 m.aa.length p0)).setCell ⟨w.heap.size + 2, 1, none⟩ (.slice q1 m.ae.length p1)).setCell ⟨w.heap.size + 2, 2, none⟩ (.slice q2 m.ag.length p2)).setCell ⟨w.heap.size + 2, 3, none⟩ (.int .i64 m.ah)) from bE _ _ _ _ _ _); exact bodyPost_ret (v := .tuple #[.agg #[.slice q0 m.aa.length p0, .slice q1 m.ae.length p1, .slice q2 m.ag.length p2, .int .i64 m.ah], .int .i64 4]) (by simp [results, Tryz.results74, go_sem, *]) rfl ⟨(cj q0 p0 q1 p1 q2 p2 m), _, by rw [HV.out.2], by rw [HV.out.1]; exact h1, fun b hb => .inr (by have := jH.out b hb; have := hb2.size; omega), h3⟩
end Go.Proofs.YtcamcgfbljhbhaaGreatDoor

namespace Go.Proofs.YtcamcgfbljhbhaaGreatDoor
open Go.RowKit
theorem om (a : Option Addr) (n cap : Nat) (l : List aB) (s : ByteArray) (w : World) (B : Nat) (hx : l.length = n) (hlen : n <= 1099511627776) (hr : Bk 2 cy B w a l) :
  Calls Tryz.prog 63 #[.slice a n cap, .string s] w fun e w' => e = .returned (.int .i64 (iq l s)) /\ w' = w := by
 have HX := Hm hx; clear hx; go_enter Tryz.func63, Tryz.ntmps63
 go_wp2
 go_loop [5] (fun i => ∃ k : Nat, k <= n /\ i = .int .i64 k /\ ∀ j, (hj : j < l.length) -> j < k -> l[j].ax ≠ s) (fun i => n - (intOf i).toNat)
 case atStart => exact ⟨0, Nat.zero_le _, rfl, fun j _ hj => by omega⟩
 case round =>
  obtain ⟨k, hk, rfl, hno⟩ := hrel; have mo := Hm hno; clear hno
  by_cases hlt : k < n
  ·have gH : k < l.length := by rw [HX.out]; exact hlt
   obtain ⟨b1, o1, rfl, _, cs, iw, hcell, rfl, _⟩ := hr k gH; have k1 := hcell 0 _ rfl; rw [Nat.add_zero] at k1
   by_cases he : l[k].ax = s
   ·have HV := Hm (Jb gH he mo.out)
    have Bp := nT he; generalize l[k].ax = y at k1 Bp; clear hr hcell iw he mo
    go_wp2
    go_ret; exact ⟨by rw [HV.out]; rfl, rfl⟩
   ·have Bp := rI he
    have D4 : Hid (∀ j, (hj : j < l.length) -> j < k + 1 -> l[j].ax ≠ s) := fun j hj hjk => by
     by_cases ug : j = k
     ·subst ug; exact he
     ·exact mo.out j hj (by omega)
    generalize l[k].ax = y at k1 Bp; clear hr hcell iw he mo
    go_wp2
    go_round
    case rel => exact ⟨k + 1, by omega, by go_num, D4.out⟩
    case measure => simp [intOf]; omega
  ·have HV := Hm (Jc (l := l) (s := s) (fun j hj => mo.out j hj (by have := HX.out; omega)))
   clear mo
   go_wp2
   go_ret; exact ⟨by rw [HV.out]; rfl, rfl⟩
end Go.Proofs.YtcamcgfbljhbhaaGreatDoor

namespace Go.Proofs.YtcamcgfbljhbhaaGreatDoor
open Go.Proofs Go.Shelf
def vn : Go.Shelf.Ren := ⟨fun | 6 => 131 | 15 => 145 | 14 => 144 | 28 => 165 | 29 => 127 | 20 => 157 | 21 => 158 | 22 => 159 | 23 => 160 | 24 => 161 | 25 => 162 | 26 => 163 | 27 => 164 | 46 => 172 | 47 => 173 | 48 => 174 | 49 => 175 | 50 => 176 | 57 => 180 | n => n, fun | 22 => 25 | 24 => 68 | 25 => 176 | 3 => 3 | 39 => 127 | 0 => 0 | 53 => 131 | 55 => 143 | 4 => 4 | 46 => 204 | 45 => 203 | 50 => 124 | 5 => 5 | 9 => 9 | 66 => 217 | 70 => 221 | 76 => 224 | 77 => 110 | n => n, fun | n => n⟩
theorem FI : Go.Proofs.SlLaysF0.n6 Tryz.prog vn := {
 mixed := by kernel_rfl
 f6 := ⟨Tryz.f131.name, by decide, Tryz.func131.trans (congrArg some (by kernel_rfl))⟩
 f14 := ⟨Tryz.f144.name, by decide, Tryz.func144.trans (congrArg some (by kernel_rfl))⟩
 f15 := Tryz.func145.trans (congrArg some (by kernel_rfl))
 f20 := ⟨Tryz.f157.name, by decide, Tryz.func157.trans (congrArg some (by kernel_rfl))⟩
 f21 := ⟨Tryz.f158.name, by decide, Tryz.func158.trans (congrArg some (by kernel_rfl))⟩
 f22 := ⟨Tryz.f159.name, by decide, Tryz.func159.trans (congrArg some (by kernel_rfl))⟩
 f23 := ⟨Tryz.f160.name, by decide, Tryz.func160.trans (congrArg some (by kernel_rfl))⟩
 f24 := ⟨Tryz.f161.name, by decide, Tryz.func161.trans (congrArg some (by kernel_rfl))⟩
 f25 := ⟨Tryz.f162.name, by decide, Tryz.func162.trans (congrArg some (by kernel_rfl))⟩
 f26 := ⟨Tryz.f163.name, by decide, Tryz.func163.trans (congrArg some (by kernel_rfl))⟩
 f27 := ⟨Tryz.f164.name, by decide, Tryz.func164.trans (congrArg some (by kernel_rfl))⟩
 f28 := Tryz.func165.trans (congrArg some (by kernel_rfl))
 f29 := Tryz.func127.trans (congrArg some (by kernel_rfl))
 f46 := ⟨Tryz.f172.name, by decide, Tryz.func172.trans (congrArg some (by kernel_rfl))⟩
 f47 := Tryz.func173.trans (congrArg some (by kernel_rfl))
 f48 := Tryz.func174.trans (congrArg some (by kernel_rfl))
 f49 := ⟨Tryz.f175.name, by decide, Tryz.func175.trans (congrArg some (by kernel_rfl))⟩
 f50 := ⟨Tryz.f176.name, by decide, Tryz.func176.trans (congrArg some (by kernel_rfl))⟩
 f57 := ⟨Tryz.f180.name, by decide, Tryz.func180.trans (congrArg some (by kernel_rfl))⟩
 t0 := Tryz.underlying0
 a0 := Tryz.isAgg0
 z0 := Tryz.sizeOf0
 v0 := Tryz.zeroValue0
 t3 := Tryz.underlying3
 a3 := Tryz.isAgg3
 z3 := Tryz.sizeOf3
 v3 := Tryz.zeroValue3
 t4 := Tryz.underlying4
 a4 := Tryz.isAgg4
 z4 := Tryz.sizeOf4
 v4 := Tryz.zeroValue4
 t5 := Tryz.underlying5
 a5 := Tryz.isAgg5
 z5 := Tryz.sizeOf5
 v5 := Tryz.zeroValue5
 t9 := Tryz.underlying9
 a9 := Tryz.isAgg9
 z9 := Tryz.sizeOf9
 v9 := Tryz.zeroValue9
 t22 := Tryz.underlying25
 a22 := Tryz.isAgg25
 z22 := Tryz.sizeOf25
 v22 := Tryz.zeroValue25
 t25 := Tryz.underlying176
 a25 := Tryz.isAgg176
 z25 := Tryz.sizeOf176
 v25 := Tryz.zeroValue176
 t39 := Tryz.underlying127
 a39 := Tryz.isAgg127
 z39 := Tryz.sizeOf127
 v39 := Tryz.zeroValue127
 t45 := Tryz.underlying203
 a45 := Tryz.isAgg203
 z45 := Tryz.sizeOf203
 v45 := Tryz.zeroValue203
 t46 := Tryz.underlying204
 a46 := Tryz.isAgg204
 z46 := Tryz.sizeOf204
 v46 := Tryz.zeroValue204
 t50 := Tryz.underlying124
 a50 := Tryz.isAgg124
 z50 := Tryz.sizeOf124
 v50 := Tryz.zeroValue124
 t53 := Tryz.underlying131
 a53 := Tryz.isAgg131
 z53 := Tryz.sizeOf131
 v53 := Tryz.zeroValue131
 t55 := Tryz.underlying143
 a55 := Tryz.isAgg143
 z55 := Tryz.sizeOf143
 v55 := Tryz.zeroValue143
 t66 := Tryz.underlying217
 a66 := Tryz.isAgg217
 z66 := Tryz.sizeOf217
 v66 := Tryz.zeroValue217
 t70 := Tryz.underlying221
 a70 := Tryz.isAgg221
 z70 := Tryz.sizeOf221
 v70 := Tryz.zeroValue221
 t76 := Tryz.underlying224
 a76 := Tryz.isAgg224
 z76 := Tryz.sizeOf224
 v76 := Tryz.zeroValue224
 t77 := Tryz.underlying110
 a77 := Tryz.isAgg110
 z77 := Tryz.sizeOf110
 v77 := Tryz.zeroValue110 }
end Go.Proofs.YtcamcgfbljhbhaaGreatDoor

namespace Go.Proofs.YtcamcgfbljhbhaaGreatDoor
open Go.RowKit Go.Maps
theorem kI : Keyed Tryz.prog 9 := string_keyed Tryz.underlying9
theorem pT {s : ByteArray} (h : s.size <= 9223372036854775807) : keyOf Tryz.prog 9 (.string s) = some (kS s) := WideMaps.keyOf_string_mk Tryz.underlying9 (by simpa [maxLen] using h)
theorem nu (a : Option Addr) (n cap : Nat) (l : List aB) (w : World) (hx : l.length = n) (hl : bw 2 cy w.heap.size w a cap l) (hn : n <= 1048576) :
  Calls Tryz.prog 97 #[.slice a n cap] w fun e w' => ∃ D : DataW Unit, e = .returned (.map (some w.heap.size)) /\ w'.ownsMap Tryz.prog 9 (plainElem Tryz.prog 3) w.heap.size n D /\ Am D l n /\ Below w.heap.size w w' := by
 have HX := Hm hx; have G4 := Hm hl.2.2; clear hx hl; have QH := @run_makeMap Tryz.prog; go_enter Tryz.func97, Tryz.ntmps97; go_wp2_with fail
 go_loopw [9] (fun i wr => ∃ (k : Nat) (D : DataW Unit), k <= n /\ i = .int .i64 k /\ wr.ownsMap Tryz.prog 9 (plainElem Tryz.prog 3) w.heap.size k D /\ Am D l k /\ Below w.heap.size w wr) (fun i _ => n - (intOf i).toNat)
 case atStart => exact ⟨0, .map [], Nat.zero_le _, rfl, World.ownsMap_made _ _ _ _, Am.start _, rB.alloc rN _⟩
 case round =>
  obtain ⟨k, D, hk, rfl, hown, hU, bF⟩ := hrel; have HU := Hm hU; clear hU QH
  by_cases hlt : k < n
  ·have gH : k < l.length := by rw [HX.out]; exact hlt
   obtain ⟨b1, o1, rfl, hB, cs, iw, hcell, rfl, hsz, qJ, _⟩ := (G4.out.below au bF) k gH; have k0 := hcell 0 _ rfl; have k1 := hcell 1 _ rfl; rw [Nat.add_zero] at k0; clear hcell iw; have hkey := pT hsz; have OH := Hm (HU.out.put gH); generalize l[k].ax = nm at *; generalize l[k].bi = id at *; have RQ := jA hown; have rp := fY hown (rB.alloc rN (.cells #[.string nm, .int .i64 id] 68)); go_wp2_with (at_mapUpdate; refine wpList_mapUpdate_own _ rfl _ _ _ 120 rfl 9 3 kI Tryz.underlying120 _ w.heap.size k _ rfl rp (by unfold maxLen; omega) _ _ _ rfl rfl hkey _ [] (plainElem_int Tryz.underlying3 qJ) ?_; intro w3 ek dI); have hT : aw [w.heap.size] wr w3 := aw.after (rB.alloc rN _) (aw.eZ dI (fun k hk => by cases hk; simp))
   go_roundw
   case rel => exact ⟨k + 1, _, by omega, by go_num, ek, OH.out, aw.under bF hT (fun k hk => by simp at hk; omega)⟩
   case measure => simp [intOf]; omega
  ·have qZ : k = n := by omega
   subst qZ; go_wp2_with fail; go_ret; exact ⟨D, rfl, hown, HU.out, bF⟩
theorem vo (cs : List Value) (m : az) (a : Option Addr) (c : Nat) (s : ByteArray) (w : World) (hr : bg w.heap.size w cs m) (hw : aZ m <= 1048576) (hs : s.size <= 9223372036854775807) (ha : ∃ b, a = some ⟨b, 0, none⟩ /\ b < w.heap.size /\ w.cell? ⟨b, 0, none⟩ = some (.string s)) :
  Calls Tryz.prog 99 #[.agg cs.toArray, .slice a 1 c] w fun e w' => e = .returned (.bool (bc m && bH s)) /\ Below w.heap.size w w' := by
 have hq := hr; obtain ⟨a0, c0, a1, c1, a2, c2, rfl, _⟩ := hq; obtain ⟨b, rfl, hbl, hcs⟩ := ha; have HW := Hm hw; have HR := Hm hr; clear hr hw; have Mb := fun W (hb : Below w.heap.size w W) => jZ _ m W (aq.mono (aq.below HR.out hb) hb.size) HW.out
 have t6 := (Below.refl w.heap.size w).alloc rN (.cells #[.slice a0 m.aa.length c0, .slice a1 m.ae.length c1, .slice a2 m.ag.length c2, .int .i64 m.ah] 27); go_enter Tryz.func99, Tryz.ntmps99; go_wp2_with fail; refine wp_loop_rounds 2 ?_; rw [rounds_succ]; go_wp2_with fail; refine (jX s _ hs).mono ?_; rintro e w1 ⟨rfl, hx1⟩; have hb1 := af t6 hx1; have cg := (Bx.new w (cj a0 c0 a1 c1 a2 c2 m) 27).under hx1; have y0 := cg.2 0 _ rfl; have y1 := cg.2 1 _ rfl; have y2 := cg.2 2 _ rfl; have y3 := cg.2 3 _ rfl
 by_cases hN : bH s = true
 ·rw [hN]
  go_wp2_with fail; rw [rounds_succ]; go_wp2_with fail; refine Calls.mono (Mb _ hb1) ?_; rintro e w2 ⟨rfl, hx2⟩; go_wp2_with fail; go_ret; exact ⟨by rw [hN, Bool.and_true]; rfl, af hb1 hx2⟩
 ·have nW : bH s = false := Bool.eq_false_iff.2 hN
  rw [nW]; go_wp2_with fail; go_ret; exact ⟨by rw [nW, Bool.and_false]; rfl, hb1⟩
theorem lV (cs : List Value) (m : az) (s : ByteArray) (w : World) (hr : bg w.heap.size w cs m) (hw : aZ m <= 1048576) (hs : s.size <= 9223372036854775807) :
  Calls Tryz.prog 86 #[.agg cs.toArray, .string s] w fun e w' => ∃ p : Nat, e = .returned (.tuple #[.int .i64 p, .int .i64 (aS m s)]) /\ (aS m s = 0 -> ∃ h : p < m.aa.length, m.aa[p].bi = eK m.ae s) /\ Below w.heap.size w w' := by
 have hq := hr; obtain ⟨a0, c0, a1, c1, a2, c2, rfl, hI, gf, gT, kX, _⟩ := hq; have hw2 : m.aa.length + aP aJ m.aa + (m.ae.length + aP a7 m.ae) + (m.ag.length + aP a7 m.ag) <= 1048576 := hw; have HW := Hm hw; have HR := Hm hr; have HI := Hm hI; have yE := Hm gf; clear hr hI gf gT hw; have t6 := (Below.refl w.heap.size w).alloc rN (.cells #[.slice a0 m.aa.length c0, .slice a1 m.ae.length c1, .slice a2 m.ag.length c2, .int .i64 m.ah] 27); have FJ := t6.alloc (by simp) (.cells #[.string s] 9); go_enter Tryz.func86, Tryz.ntmps86; go_wp2_with fail; refine (vo _ m _ 1 s _ (aq.mono (aq.below HR.out FJ) FJ.size) HW.out hs ⟨w.heap.size + 1, rfl, by simp, by simp⟩).mono ?_; rintro e w1 ⟨rfl, hx1⟩; have hb1 := af FJ hx1; have cg := ((Bx.new w (cj a0 c0 a1 c1 a2 c2 m) 27).alloc (.cells #[.string s] 9)).under hx1; have y0 := cg.2 0 _ rfl; have y1 := cg.2 1 _ rfl
 by_cases hF : (bc m && bH s) = true
 ·rw [hF]
  have hF2 := hF; rw [Bool.and_eq_true] at hF2; obtain ⟨q1, q2, _⟩ := lQ hF2.1; have QO := Hm (rT q1); have Lh := Hm (fun i j hi hj he => kE (zr q2).2 (i := i) (j := j) hi hj he); have JE := Hm hF2.1; clear q1 q2 hF2; go_wp2_with fail; refine (nu a1 _ c1 m.ae w1 rfl (bw.mono au (yE.out.below au hb1) hb1.size) (by omega)).mono ?_; rintro e w2 ⟨D, rfl, hown, JF, hx2⟩; have Dt := Hm JF; clear JF; have hb2 := af hb1 hx2; have rU := cg.under hx2; have z0 := rU.2 0 _ rfl
  by_cases hH : hasName m.ae s = true
  ·have HV : Hid (aS m s = 0) := by show aS m s = 0; unfold aS; rw [hF, if_pos rfl, if_pos hH]
   obtain ⟨hk, hid, yV⟩ := mh JE.out hH; obtain ⟨_, Lk⟩ := kC hH; have OS : Maps.has D (kS s) = true := (Dt.out.2 s).1.2 ⟨_, hk, hk, Lk⟩
   have HC : Hid (D.atKey (kS s) (.lit (.int .i64 0)) = .lit (.int .i64 (eK m.ae s))) := by
    obtain ⟨j, hj, _, he, ha⟩ := (Dt.out.2 s).2 OS; have : j = nameAt m.ae s := Lh.out j _ hj hk (he.trans Lk.symm); subst this
    show D.atKey _ _ = _; rw [ha, hid]
   have R9 := Hm yV; clear hF hH hk hid yV Lk; go_wp2_with (at_lookup; refine wpList_lookup_own_ok_int _ rfl _ _ 120 rfl 9 3 .i64 kI Tryz.underlying120 Tryz.underlying3 (jY _) w1.heap.size m.ae.length D rfl hown _ _ rfl (pT hs) ?_; intro c hat hwc)
   have hce : c = eK m.ae s := by
    rw [HC.out] at hat; simp only [DataW.lit.injEq, Lit.int.injEq, true_and] at hat; exact hat.symm
   subst hce; refine (pR a0 c0 m.aa (eK m.ae s) w2 (bw.mono aV (HI.out.below aV hb2) hb2.size) (by omega) QO.out).mono ?_; rintro e w3 ⟨p, rfl, hp, hx3⟩; have HP := Hm (hp R9.out); rw [R9.out]; clear hp; go_wp2_with fail; refine bodyPost_ret (v := .tuple #[.int .i64 p, .int .i64 0]) (by simp [results, Tryz.results86, go_sem, *]) rfl ⟨p, by rw [HV.out], fun _ => HP.out, af hb2 hx3⟩
  ·have HV : Hid (aS m s = 2) := by show aS m s = 2; unfold aS; rw [hF, if_pos rfl, if_neg hH]
   have OS : Maps.has D (kS s) = false := by
    rw [Bool.eq_false_iff]; intro h; obtain ⟨j, hj, _, he⟩ := (Dt.out.2 s).1.1 h; exact hH (nh hj he)
   go_wp2_with (at_lookup; refine wpList_lookup_own_ok_int _ rfl _ _ 120 rfl 9 3 .i64 kI Tryz.underlying120 Tryz.underlying3 (jY _) w1.heap.size m.ae.length D rfl hown _ _ rfl (pT hs) ?_; intro c hat hwc); refine bodyPost_ret (v := .tuple #[.int .i64 0, .int .i64 2]) (by simp [results, Tryz.results86, go_sem, *]) rfl ⟨0, by rw [HV.out]; rfl, (fun h => by rw [HV.out] at h; cases h), hb2⟩
 ·have hF2 : (bc m && bH s) = false := Bool.eq_false_iff.2 hF
  have HV : Hid (aS m s = 1) := by show aS m s = 1; unfold aS; rw [hF2]; rfl
  rw [hF2]; go_wp2_with fail; refine bodyPost_ret (v := .tuple #[.int .i64 0, .int .i64 1]) (by simp [results, Tryz.results86, go_sem, *]) rfl ⟨0, by rw [HV.out]; rfl, (fun h => by rw [HV.out] at h; cases h), hb1⟩
theorem Ha {m : az} {s : ByteArray} {p : Nat} (Uz : m.aa.Pairwise fun x y => x.bi < y.bi) (h : p < m.aa.length) (he : m.aa[p].bi = eK m.ae s) : rJ m s = m.aa[p].aG := by
 unfold rJ
 have : placeOf m.aa (eK m.ae s) = p := by
  unfold placeOf; rw [List.findIdx_eq h]; refine ⟨decide_eq_true he, fun j hj => ?_⟩; have := qI Uz h hj; simp; omega
 rw [this, List.getElem?_eq_getElem h]; rfl
end Go.Proofs.YtcamcgfbljhbhaaGreatDoor
