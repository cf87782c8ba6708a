/-
  Part 4 of the texts that the proof leans on.
-/
import Derived.Test.YtcamcgfbljhbhaaGreatDoorMan0
import Derived.Test.YtcamcgfbljhbhaaGreatDoorMan2
import Derived.Test.YtcamcgfbljhbhaaGreatDoorMan1
import Derived.Deep.RegionHeld3
set_option linter.unusedVariables false
set_option linter.unusedSimpArgs false
set_option maxRecDepth 10000
set_option maxHeartbeats 20000000

namespace Go.Proofs.YtcamcgfbljhbhaaGreatDoor
open Go.RowKit
theorem dQ (w : World) (o : Obj) (k : Nat) : (w.alloc o).heap[k]? = if k = w.heap.size then some o else w.heap[k]? := by
 show (w.heap.push o)[k]? = _; rw [Array.getElem?_push]
theorem qH (w : World) : w.drew.heap = w.heap := rfl
theorem Ru (w : World) (a b c d : Obj) : ((((w.alloc a).alloc b).alloc c).alloc d).drew.heap[w.heap.size]? = some a := by
 rw [qH, dQ, if_neg (by simp; omega), dQ, if_neg (by simp; omega), dQ, if_neg (by simp), dQ, if_pos rfl]
theorem Rv (w : World) (a b c d : Obj) : ((((w.alloc a).alloc b).alloc c).alloc d).drew.heap[w.heap.size + 1]? = some b := by
 rw [qH, dQ, if_neg (by simp), dQ, if_neg (by simp), dQ, if_pos (by simp)]
theorem Rw (w : World) (a b c d : Obj) : ((((w.alloc a).alloc b).alloc c).alloc d).drew.heap[w.heap.size + 1 + 1]? = some c := by
 rw [qH, dQ, if_neg (by simp), dQ, if_pos (by simp)]
theorem Rx (w : World) (a b c d : Obj) : ((((w.alloc a).alloc b).alloc c).alloc d).drew.heap[w.heap.size + 1 + 1 + 1]? = some d := by
 rw [qH, dQ, if_pos (by simp)]
theorem cE (cs : List Value) (m : az) (w : World) (hr : bg w.heap.size w cs m) (hw : aZ m <= 1048576) :
  Calls Tryz.prog 22 #[.agg cs.toArray] w fun e w' => ∃ (cs' : List Value) (F : List Nat), e = .returned (.agg cs'.toArray) /\ ba w' cs' m F /\ F.Nodup /\ (∀ b, b ∈ F -> w.heap.size <= b) /\ Below w.heap.size w w' := by
 have hq := hr; obtain ⟨a0, c0, a1, c1, a2, c2, rfl, hI, gf, gT, kX, _⟩ := hq; have hw2 : m.aa.length + aP aJ m.aa + (m.ae.length + aP a7 m.ae) + (m.ag.length + aP a7 m.ag) <= 1048576 := hw; obtain ⟨iI, Jm, wY, wZ, xa⟩ := info_parts Tryz.jE; obtain ⟨iE, mV, fJ, fK, fL⟩ := info_parts Tryz.gG
 have mk0 : ∀ W : World, (Instr.makeSlice 24 (.int .i64 (m.aa.length : Int)) (.int .i64 (m.aa.length : Int))).run Tryz.prog W = .ok (.slice (some ⟨W.heap.size, 0, none⟩) m.aa.length m.aa.length) (W.alloc (.cells (madeCells #[.int .i64 0, .slice none 0 0, .int .i64 0] (m.aa.length * 3)) 73)) := fun W => by
  have h := run_make (P := Tryz.prog) W 24 73 iI _ Tryz.underlying24 Jm wY .i64 .i64 (m.aa.length : Int) (m.aa.length : Int) (by omega) (by omega) (by rw [xa]; omega) (by omega); rw [wZ] at h
  simpa [Value.cells] using h
 have mk1 : ∀ W : World, (Instr.makeSlice 25 (.int .i64 (m.ae.length : Int)) (.int .i64 (m.ae.length : Int))).run Tryz.prog W = .ok (.slice (some ⟨W.heap.size, 0, none⟩) m.ae.length m.ae.length) (W.alloc (.cells (madeCells #[.string ⟨#[]⟩, .int .i64 0] (m.ae.length * 2)) 68)) := fun W => by
  have h := run_make (P := Tryz.prog) W 25 68 iE _ Tryz.underlying25 mV fJ .i64 .i64 (m.ae.length : Int) (m.ae.length : Int) (by omega) (by omega) (by rw [fL]; omega) (by omega); rw [fK] at h
  simpa [Value.cells] using h
 have mk2 : ∀ W : World, (Instr.makeSlice 25 (.int .i64 (m.ag.length : Int)) (.int .i64 (m.ag.length : Int))).run Tryz.prog W = .ok (.slice (some ⟨W.heap.size, 0, none⟩) m.ag.length m.ag.length) (W.alloc (.cells (madeCells #[.string ⟨#[]⟩, .int .i64 0] (m.ag.length * 2)) 68)) := fun W => by
  have h := run_make (P := Tryz.prog) W 25 68 iE _ Tryz.underlying25 mV fJ .i64 .i64 (m.ag.length : Int) (m.ag.length : Int) (by omega) (by omega) (by rw [fL]; omega) (by omega); rw [fK] at h
  simpa [Value.cells] using h
 clear Jm wY wZ xa mV fJ fK fL; go_enter Tryz.func22, Tryz.ntmps22; go_wp2_with fail; obtain ⟨wq, bI⟩ : ∃ wq, wq = (w.alloc (.cells #[.slice a0 m.aa.length c0, .slice a1 m.ae.length c1, .slice a2 m.ag.length c2, .int .i64 m.ah] 27)).alloc (.cells #[.slice none 0 0, .slice none 0 0, .slice none 0 0, .int .i64 0] 27) := ⟨_, rfl⟩
 have cJ : Below w.heap.size w wq := by rw [bI]; exact (rB.alloc rN _).alloc (by simp) _
 have cg : Bx wq w.heap.size (cj a0 c0 a1 c1 a2 c2 m) := by rw [bI]; exact (Bx.new _ _ _).alloc _
 have hres : wq.heap[w.heap.size + 1]? = some (.cells #[.slice none 0 0, .slice none 0 0, .slice none 0 0, .int .i64 0] 27 (0, 0)) := by rw [bI, dQ, if_pos (by simp)]
 have dy := Hm hres; clear hres; rw [<- bI]; clear bI; have p0 : ∀ W, Below wq.heap.size wq W -> W.cell? ⟨w.heap.size, 0, none⟩ = some (.slice a0 m.aa.length c0) := fun W hb => (cg.under hb).2 0 _ rfl
 have p1 : ∀ W, Below wq.heap.size wq W -> W.cell? ⟨w.heap.size, 1, none⟩ = some (.slice a1 m.ae.length c1) := fun W hb => (cg.under hb).2 1 _ rfl
 have p2 : ∀ W, Below wq.heap.size wq W -> W.cell? ⟨w.heap.size, 2, none⟩ = some (.slice a2 m.ag.length c2) := fun W hb => (cg.under hb).2 2 _ rfl
 have p3 : ∀ W, Below wq.heap.size wq W -> W.cell? ⟨w.heap.size, 3, none⟩ = some (.int .i64 m.ah) := fun W hb => (cg.under hb).2 3 _ rfl
 refine Code.wp_mono (Q := fun e a' w' => e = .normal /\ ∃ g0 g1 g2 gb : Nat, a' = { tmps := #[.agg #[.slice a0 m.aa.length c0, .slice a1 m.ae.length c1, .slice a2 m.ag.length c2, .int .i64 m.ah], .pointer (some ⟨w.heap.size, 0, none⟩), .pointer (some ⟨w.heap.size + 1, 0, none⟩), .pointer (some ⟨gb, 0, none⟩), undef, undef, .pointer (some ⟨w.heap.size, 0, none⟩), .slice a0 m.aa.length c0, .int .i64 m.aa.length, .slice (some ⟨g0, 0, none⟩) m.aa.length m.aa.length, .pointer (some ⟨w.heap.size, 1, none⟩), .slice a1 m.ae.length c1, .int .i64 m.ae.length, .slice (some ⟨g1, 0, none⟩) m.ae.length m.ae.length, .pointer (some ⟨w.heap.size, 2, none⟩), .slice a2 m.ag.length c2, .int .i64 m.ag.length, .slice (some ⟨g2, 0, none⟩) m.ag.length m.ag.length, .pointer (some ⟨w.heap.size, 3, none⟩), .int .i64 m.ah, .agg #[.slice (some ⟨g0, 0, none⟩) m.aa.length m.aa.length, .slice (some ⟨g1, 0, none⟩) m.ae.length m.ae.length, .slice (some ⟨g2, 0, none⟩) m.ag.length m.ag.length, .int .i64 m.ah], undef, undef, undef, undef, undef, undef, undef, undef, undef, undef, undef, undef, undef, undef, undef, undef, undef, undef, undef, undef, undef, undef, undef, undef, undef, undef, undef, undef, undef, undef, undef, undef], defers := [] } /\ (wq.heap.size <= g0 /\ wq.heap.size <= g1 /\ wq.heap.size <= g2 /\ wq.heap.size <= gb /\ g0 ≠ g1 /\ g0 ≠ g2 /\ g1 ≠ g2 /\ gb ≠ g0 /\ gb ≠ g1 /\ gb ≠ g2) /\
   w'.heap[g0]? = some (.cells (madeCells #[.int .i64 0, .slice none 0 0, .int .i64 0] (m.aa.length * 3)) 73 (0, 0)) /\ w'.heap[g1]? = some (.cells (madeCells #[.string ⟨#[]⟩, .int .i64 0] (m.ae.length * 2)) 68 (0, 0)) /\ w'.heap[g2]? = some (.cells (madeCells #[.string ⟨#[]⟩, .int .i64 0] (m.ag.length * 2)) 68 (0, 0)) /\
   w'.heap[gb]? = some (.cells #[.slice (some ⟨g0, 0, none⟩) m.aa.length m.aa.length, .slice (some ⟨g1, 0, none⟩) m.ae.length m.ae.length, .slice (some ⟨g2, 0, none⟩) m.ag.length m.ag.length, .int .i64 m.ah] 27 (0, 0)) /\ Below wq.heap.size wq w') ?mono ?Om
 case Om =>
  go_region_held3 (fun W => Below wq.heap.size wq W) (first | exact Below.drew rB | (repeat (first | with_reducible assumption | with_reducible refine Below.setCell ?_ (by first | (simp; done) | (simp; omega)) _ | with_reducible refine Below.alloc ?_ (by first | exact rN | (simp; done) | (simp; omega)) _ | with_reducible refine Below.drew ?_ | with_reducible exact rB))) (fail)
  all_goals
   refine ⟨rfl, _, _, _, _, rfl, by omega, ?_, ?_, ?_, ?_, by repeat (first | with_reducible assumption | with_reducible refine Below.alloc ?_ (by first | exact rN | (simp; done) | (simp; omega)) _ | with_reducible refine Below.drew ?_ | with_reducible exact rB)⟩
   all_goals first | exact Ru _ _ _ _ _ | exact Rv _ _ _ _ _ | exact Rw _ _ _ _ _ | exact Rx _ _ _ _ _
 case mono =>
  rintro e a' w1 ⟨rfl, g0, g1, g2, gb, rfl, hgs, hg0, hg1, hg2, hgb, hb1⟩; obtain ⟨hs0, hs1, hs2, hs3, sG, vg, Dq, Oo, Qy, LS⟩ := hgs; have t6 := af cJ hb1; have km := hb1.size; have sD := cJ.size; have l0 : g0 < w1.heap.size := (Array.getElem?_eq_some_iff.1 hg0).1; have l1 : g1 < w1.heap.size := (Array.getElem?_eq_some_iff.1 hg1).1; have l2 : g2 < w1.heap.size := (Array.getElem?_eq_some_iff.1 hg2).1; have lb : gb < w1.heap.size := (Array.getElem?_eq_some_iff.1 hgb).1; have Yj : pG 3 73 fX w1 g0 m.aa.length m.aa 0 [] := ⟨⟨_, hg0, by rw [size_madeCells], (fun j _ hj => by omega)⟩, rfl, (fun b hb => by simp at hb), by simp⟩
  have Ry := cg.under hb1; have hlx := cg.1; have Fm := Hm hb1; have Oq : Hid (w.heap.size + 1 < wq.heap.size) := (Array.getElem?_eq_some_iff.1 dy.out).1; have Yk := Oq.out; have Ul := Hm hg0; have Jn := Hm hg1; have Ot := Hm hg2; have VB := Hm hgb; have HI := Hm hI; have HN := Hm gf; have HS := Hm gT; have Le := Hm t6; have HX := Hm Ry; have HF0 := Hm Yj; have cb := fun (W : World) (hT : aw [g0] w1 W) (j : Nat) (u : Value) (hu : (#[Value.slice (some ⟨g0, 0, none⟩) m.aa.length m.aa.length, .slice (some ⟨g1, 0, none⟩) m.ae.length m.ae.length, .slice (some ⟨g2, 0, none⟩) m.ag.length m.ag.length, .int .i64 m.ah] : Array Value)[j]? = some u) => (show W.cell? ⟨gb, j, none⟩ = some u by rw [hT.cell (p := ⟨gb, j, none⟩) lb (by simp; omega), cell_of_row w1 gb j _ _ (0, 0) VB.out]; exact hu)
  have ca := fun (W : World) (hT : aw [g0] w1 W) => HX.out.turn hT (by simp; omega)
  have Qz := Hm cb; have xb := Hm ca; clear hr hI gf gT hg0 hg1 hg2 hgb t6 cg Ry p0 p1 p2 p3 mk0 mk1 mk2 hb1 cJ Yj cb ca hw; have x0 := (xb.out w1 (aw.refl _ _)).2 0 _ rfl; go_wp2_with fail
  go_loopw [24] (fun i wr => ∃ (k : Nat) (Fs : List (List Nat)), k <= m.aa.length /\ i = .int .i64 k /\ pG 3 73 fX wr g0 m.aa.length m.aa k Fs /\ (∀ b, b ∈ Fs.flatten -> w1.heap.size <= b) /\ aw [g0] w1 wr) (fun i _ => m.aa.length - (intOf i).toNat)
  case atStart => exact ⟨0, [], Nat.zero_le _, rfl, HF0.out, (fun b hb => by simp at hb), aw.refl _ _⟩
  case round =>
   obtain ⟨k, Fs, hk, rfl, Rz, Jo, pN⟩ := hrel; have Ou := Hm Rz; have HTk := Hm pN; have hsz := pN.size; have jH := Hm Jo; clear Rz Jo x0
   by_cases hlt : k < m.aa.length
   ·have DY := aw.under Le.out pN (fun k hk => by simp at hk; omega)
    have Aw := jt (f := aJ) hlt; obtain ⟨b1, o1, rfl, hB, cs, iw, hcell, RA⟩ := (HI.out.2.2.below aV DY) k hlt; obtain ⟨n, hn⟩ : ∃ n, m.aa[k] = n := ⟨_, rfl⟩
    rw [hn] at RA Aw; have uy : Hid (m.aa[k] = n) := hn; clear hn; obtain ⟨ad, cd, rfl, hid, Bn, hsu, _⟩ := RA; have k0 := hcell 0 _ rfl; have k1 := hcell 1 _ rfl; have k2 := hcell 2 _ rfl; rw [Nat.add_zero] at k0; have vG : n.aG.length <= 1048576 := by have : aJ n = n.aG.length := rfl; omega
    have IW := Hm Bn; have zx := Hm DY; clear hcell iw Aw Bn DY pN; go_wp2_with fail; obtain ⟨wi, rO⟩ : ∃ wi, wi = wr.alloc (.cells #[.int .i64 n.bi, .slice ad n.aG.length cd, .int .i64 n.aW] 73) := ⟨_, rfl⟩
    have gU : Below wr.heap.size wr wi := by rw [rO]; exact rB.alloc rN _
    have nk : Bx wi wr.heap.size [.int .i64 n.bi, .slice ad n.aG.length cd, .int .i64 n.aW] := by rw [rO]; exact Bx.new _ _ _
    have VC : wi.heap.size = wr.heap.size + 1 := by rw [rO]; simp
    rw [<- rO]; clear rO k0 k1 k2; have VD : aw [g0] w1 wi := HTk.out.trans (aw.bz gU); have y0 : ∀ W, aw [g0] wi W -> W.cell? ⟨gb, 0, none⟩ = some (.slice (some ⟨g0, 0, none⟩) m.aa.length m.aa.length) := fun W hT => Qz.out W (VD.trans hT) 0 _ rfl
    have n0 : ∀ W, aw [g0] wi W -> W.cell? ⟨wr.heap.size, 0, none⟩ = some (.int .i64 n.bi) := fun W hT => (nk.turn hT (by simp; omega)).2 0 _ rfl
    have n1 : ∀ W, aw [g0] wi W -> W.cell? ⟨wr.heap.size, 1, none⟩ = some (.slice ad n.aG.length cd) := fun W hT => (nk.turn hT (by simp; omega)).2 1 _ rfl
    have n2 : ∀ W, aw [g0] wi W -> W.cell? ⟨wr.heap.size, 2, none⟩ = some (.int .i64 n.aW) := fun W hT => (nk.turn hT (by simp; omega)).2 2 _ rfl
    have Yl := fun (W : World) (hT : aw [g0] wi W) => nK ad none cd 0 n.aG [] W (fM.mono (IW.out.below ((gU.mono zx.out.size).trans (hT.below (fun k hk => by simp at hk; omega) (by omega)))) (by have := hT.size; have := zx.out.size; omega)) ⟨by simp, by omega, (fun j hj => by simp at hj), (fun z hz => by cases hz)⟩ (by omega) (by simp)
    simp only [List.append_nil, List.length_nil] at Yl; have QA := Hm VD; have QB := Hm gU; clear nk VD gU; refine vE (fun W => aw [g0] wi W) (aw.bz (Below.drew rB)) (fun hZ => ?_); refine uq 0 ?_; refine uq 1 ?_; refine uq 2 ?_; refine uq 3 ?_; refine uq 4 ?_; refine uq 5 ?_; refine uq 6 ?_; refine uq 8 ?_; refine uq 9 ?_; refine bf 7 rfl fun K hK => ?_
    go_simp; refine Calls.mono (Yl _ hZ) ?_; rintro e w2 ⟨v2, F2, rfl, mm, nW, jT, hx1⟩; have Nz : ∀ b, b ∈ F2 -> wi.heap.size <= b := fun b hb => Nat.le_trans (hZ.size) (jT b hb)
    clear jT; obtain ⟨ar, cr, rfl, _⟩ := id mm.read; go_wp2_with fail; refine aL hK (hZ.trans (aw.bz hx1)) (fun hZ => ?_); clear hK K; refine uq 10 ?_; refine uq 11 ?_; refine bf 12 rfl fun K hK => ?_
    go_simp; have Jp : Below wi.heap.size wi w2 := af (Below.drew rB) hx1; have LN := Ou.out.keep aH (by omega) (af QB.out Jp); obtain ⟨u0, q0⟩ := LN.cells hlt 0 (by omega); have r0 := LN.free (k * 3 + 0); obtain ⟨u1, q1⟩ := LN.cells hlt 1 (by omega); have r1 := LN.free (k * 3 + 1); obtain ⟨u2, q2⟩ := LN.cells hlt 2 (by omega); have r2 := LN.free (k * 3 + 2); rw [Nat.add_zero] at q0 r0; go_simp; refine aL hK (aw.setCell (aw.setCell (aw.setCell (aw.bz Jp) (by simp) _) (by simp) _) (by simp) _) (fun hZ => ?_); clear hK K; refine dC ?_; have hst := pG.step (w1 := w2) aH Ou.out (by omega) hlt hlt (af QB.out Jp) (cs := [.int .i64 n.bi, .slice ar n.aG.length cr, .int .i64 n.aW]) (F := F2 ++ []) (by rw [uy.out]; exact ⟨_, F2, rfl, hid, mm, hsu, rfl⟩) (fun b hb => by have := Nz b (by simpa using hb); omega) (by simpa using nW); have Lf : aw [g0] w1 (w2.setCells g0 (k * 3) [.int .i64 n.bi, .slice ar n.aG.length cr, .int .i64 n.aW]) := QA.out.trans hZ
    have cm : ∀ b, b ∈ (Fs ++ [F2 ++ []]).flatten -> w1.heap.size <= b := by
     intro b hb; rw [List.flatten_append, List.mem_append] at hb; rcases hb with hb | hb
     ·exact jH.out b hb
     ·have := Nz b (by simpa using hb); omega
    clear hZ LN q0 q1 q2 r0 r1 r2; go_wp2_with fail
    go_roundw
    case rel => exact ⟨k + 1, Fs ++ [F2 ++ []], by omega, by go_num, hst, cm, Lf⟩
    case measure => simp [intOf]; omega
   ·have qZ : k = m.aa.length := by omega
    subst qZ; have hd := Ou.out.done rfl (by unfold maxLen; omega); have DY := aw.under Le.out pN (fun k hk => by simp at hk; omega); have x1 := (xb.out wr pN).2 1 _ rfl; have x2 := (xb.out wr pN).2 2 _ rfl; have z1 := Qz.out wr pN 1 _ rfl; have z2 := Qz.out wr pN 2 _ rfl; have VE : wr.heap[g1]? = _ := (pN.block g1 l1 (by simp; omega)).trans Jn.out; have Ov := HN.out.2.2.below au DY; have HD := Hm hd; have aaP := jH; clear hd; have VF := fun (W : World) (hT : aw [g1] wr W) (j : Nat) (u : Value) (hu : wr.cell? ⟨gb, j, none⟩ = some u) => (hT.cell (p := ⟨gb, j, none⟩) (by simp; omega) (by simp; omega)).trans hu
    have Ym := fun (W : World) (hT : aw [g1] wr W) (j : Nat) (u : Value) (hu : wr.cell? ⟨w.heap.size, j, none⟩ = some u) => (hT.cell (p := ⟨w.heap.size, j, none⟩) (by simp; omega) (by simp; omega)).trans hu
    have BQ : ∀ W, aw [g1] wr W -> W.heap[g2]? = some (.cells (madeCells #[.string ⟨#[]⟩, .int .i64 0] (m.ag.length * 2)) 68 (0, 0)) := fun W hT => (hT.block g2 (by omega) (by simp; omega)).trans ((pN.block g2 l2 (by simp; omega)).trans Ot.out)
    have IX : ∀ W, aw [g1] wr W -> Bk 2 cy w.heap.size W a2 m.ag := fun W hT => HS.out.2.2.below au (DY.trans (hT.below (fun k hk => by simp at hk; omega) DY.size))
    have hall := fun (W W2 : World) (pM : aw [g1] wr W) (Lf : aw [g2] W W2) => (show W2.cell? ⟨gb, 0, none⟩ = some (.slice (some ⟨g0, 0, none⟩) m.aa.length m.aa.length) /\ W2.cell? ⟨gb, 1, none⟩ = some (.slice (some ⟨g1, 0, none⟩) m.ae.length m.ae.length) /\ W2.cell? ⟨gb, 2, none⟩ = some (.slice (some ⟨g2, 0, none⟩) m.ag.length m.ag.length) /\ W2.cell? ⟨gb, 3, none⟩ = some (.int .i64 m.ah) /\ W2.cell? ⟨w.heap.size + 1, 0, none⟩ = some (.slice none 0 0) /\ W2.cell? ⟨w.heap.size + 1, 1, none⟩ = some (.slice none 0 0) /\ W2.cell? ⟨w.heap.size + 1, 2, none⟩ = some (.slice none 0 0) /\ W2.cell? ⟨w.heap.size + 1, 3, none⟩ = some (.int .i64 0) /\ W2.frozen? ⟨w.heap.size + 1, 0, none⟩ = false /\ W2.frozen? ⟨w.heap.size + 1, 1, none⟩ = false /\ W2.frozen? ⟨w.heap.size + 1, 2, none⟩ = false /\ W2.frozen? ⟨w.heap.size + 1, 3, none⟩ = false from by
     have hz1 := pM.size; have cc : ∀ j u, wr.cell? ⟨gb, j, none⟩ = some u -> W2.cell? ⟨gb, j, none⟩ = some u := fun j u hu => (Lf.cell (p := ⟨gb, j, none⟩) (by simp; omega) (by simp; omega)).trans (VF W pM j u hu)
     have hr2 : W2.heap[w.heap.size + 1]? = some (.cells #[.slice none 0 0, .slice none 0 0, .slice none 0 0, .int .i64 0] 27 (0, 0)) := by
      rw [Lf.block _ (by omega) (by simp; omega), pM.block _ (by omega) (by simp; omega), pN.block _ (by omega) (by simp; omega), Fm.out.block _ Oq.out]; exact dy.out
     refine ⟨cc 0 _ (Qz.out wr pN 0 _ rfl), cc 1 _ z1, cc 2 _ z2, cc 3 _ (Qz.out wr pN 3 _ rfl), ?_, ?_, ?_, ?_, frozen_of_row _ _ _ _ _ hr2, frozen_of_row _ _ _ _ _ hr2, frozen_of_row _ _ _ _ _ hr2, frozen_of_row _ _ _ _ _ hr2⟩
     all_goals (rw [cell_of_row _ _ _ _ _ (0, 0) hr2]; rfl))
    have VG := Hm hall; clear hall; have yS := Hm VF; have gV := Hm Ym; have VH := Hm BQ; have VI := Hm IX; clear VF Ym BQ IX
    go_wp2_with (first
     | (refine pp rfl _ _ 25 25 rfl 68 Tryz.underlying25 (by kernel_rfl) g1 m.ae.length c1 a1 rfl rfl _ VE (by rw [size_madeCells]) m.ae rfl w.heap.size Ov (by unfold maxLen; omega) ?_; intro w2 VJ pM; have x2' := gV.out w2 pM 2 _ x2; have z2' := yS.out w2 pM 2 _ z2; have BQ := VH.out w2 pM; have IX := VI.out w2 pM)
     | (refine pp rfl _ _ 25 25 rfl 68 Tryz.underlying25 (by kernel_rfl) g2 m.ag.length c2 a2 rfl rfl _ BQ (by rw [size_madeCells]) m.ag rfl w.heap.size IX (by unfold maxLen; omega) ?_; intro w3 VK Lf; have LU := VG.out w2 w3 pM Lf; obtain ⟨v0, v1, v2, v3, e0, e1, e2, e3, f0, f1, f2, f3⟩ := LU))
    have yT : mg (w.heap.size + 2) w3 ((((w3.setCell ⟨w.heap.size + 1, 0, none⟩ (.slice (some ⟨g0, 0, none⟩) m.aa.length m.aa.length)).setCell ⟨w.heap.size + 1, 1, none⟩ (.slice (some ⟨g1, 0, none⟩) m.ae.length m.ae.length)).setCell ⟨w.heap.size + 1, 2, none⟩ (.slice (some ⟨g2, 0, none⟩) m.ag.length m.ag.length)).setCell ⟨w.heap.size + 1, 3, none⟩ (.int .i64 m.ah)) := (((((mg.refl _ _).setCell (by simp) _).setCell (by simp) _).setCell (by simp) _).setCell (by simp) _)
    have hz2 := pM.size; have hz3 := Lf.size; have LV := Oq.out; refine bodyPost_ret (v := .agg #[.slice (some ⟨g0, 0, none⟩) m.aa.length m.aa.length, .slice (some ⟨g1, 0, none⟩) m.ae.length m.ae.length, .slice (some ⟨g2, 0, none⟩) m.ag.length m.ag.length, .int .i64 m.ah]) (by simp [results, Tryz.results22, go_sem, *]) rfl ⟨[.slice (some ⟨g0, 0, none⟩) m.aa.length m.aa.length, .slice (some ⟨g1, 0, none⟩) m.ae.length m.ae.length, .slice (some ⟨g2, 0, none⟩) m.ag.length m.ag.length, .int .i64 m.ah], (g0 :: Fs.flatten) ++ [g1] ++ [g2] ++ [], rfl, ?_, ?_, ?_, ?_⟩
    ·refine ⟨_, g0 :: Fs.flatten, _, [g1], _, [g2], rfl, ?_, ?_, ?_, kX, rfl⟩
     ·refine aF.frame aH HD.out.1 (fun b hb => ?_)
      have hbl : b < wr.heap.size := aF.lt aH HD.out.1 b hb
      have hbg : w.heap.size + 2 <= b /\ b ≠ g1 /\ b ≠ g2 := by
       rcases List.mem_cons.1 hb with rfl | hb
       ·omega
       ·have := jH.out b hb; omega
      rw [yT.block b hbg.1 (by omega), Lf.block b (by omega) (by simp; omega), pM.block b hbl (by simp; omega)]
     ·refine aF.frame ay VJ (fun b hb => ?_)
      have hb : b = g1 := by simpa using hb
      subst hb; rw [yT.block b (by omega) (by omega), Lf.block b (by omega) (by simp; omega)]
     ·refine aF.frame ay VK (fun b hb => ?_)
      have hb : b = g2 := by simpa using hb
      subst hb; rw [yT.block b (by omega) (by omega)]
    ·rw [List.append_nil, List.append_assoc]
     refine List.nodup_append.2 ⟨HD.out.2, by simp; omega, fun x hx y hy Nt => ?_⟩; subst Nt; simp at hy; rcases List.mem_cons.1 hx with rfl | hx
     ·omega
     ·have := jH.out x hx; omega
    ·intro b hb
     simp at hb; rcases hb with rfl | hb | rfl | rfl
     ·omega
     ·obtain ⟨G, hG, hbG⟩ := hb
      have := jH.out b (List.mem_flatten.2 ⟨G, hG, hbG⟩); omega
     ·omega
     ·omega
    ·have zy : Below w.heap.size w w3 := (DY.trans (pM.below (fun k hk => by simp at hk; omega) DY.size)).trans (Lf.below (fun k hk => by simp at hk; omega) (by omega))
     repeat (first | with_reducible exact zy | refine Below.setCell ?_ (by simp) _)
theorem kY (w : World) (base e size : Nat) (h : base <= w.heap.size) : (w.alloc (.cells #[] e)).ownsRow base e size (.slice (some ⟨w.heap.size, 0, none⟩) 0 0) 0 [] :=
 ⟨by simp, .inr ⟨w.heap.size, 0, #[], rfl, h, heap_alloc_new w _, by omega, by simp [maxLen], by simp, by simp⟩⟩
theorem iu {wq p : World} (e size : Nat) (h : wq.heap.size <= p.heap.size) : ∃ (x : World) (g : Nat), x = p.alloc (.cells #[] e) /\ g = p.heap.size /\ Below p.heap.size p x /\ x.ownsRow wq.heap.size e size (.slice (some ⟨g, 0, none⟩) 0 0) 0 [] /\ g < x.heap.size /\ wq.heap.size <= g :=
 ⟨_, _, rfl, rfl, rB.alloc rN _, kY _ _ _ _ h, by simp, h⟩
theorem cq {P : Program} {w : World} {ops : Array Oper} {o : Oper} {a : Act} {K : Act -> World -> Prop} {Q : Exit -> Act -> World -> Prop} {E : Prop} (hgd : o.guard = none) (s x : Operand) (t : TypeId)
  (ho : o.op = .call { callee := .builtin .append, args := #[s, x], argTypes := #[t, t] })
  {base : Nat} {e : TypeId} {i : TypeInfo} {z : Value} (ht : P.underlying t = some (.slice e)) (hi : P.info? e = some i) (hz : i.zero = some z)
  (hsize : i.size = 2) (hby : i.bytes = 24) (hzs : z.cells.size = 2)
  (g : Nat) (hs : a.eval s = .slice (some ⟨g, 0, none⟩) 0 0) (hown : w.ownsRow base e 2 (.slice (some ⟨g, 0, none⟩) 0 0) 0 [])
  {ao : Option Addr} {n c B : Nat} {l : List aB} (hy : a.eval x = .slice ao n c) (hn : l.length = n) (hr : Bk 2 cy B w ao l) (h63 : n <= 1048576) (hbase : base <= w.heap.size)
  (h : ∀ r q w', aF 2 e cN w' (.slice r n q) l (Value.ownBlock (.slice r n q)).toList -> Below w.heap.size w w' -> (∀ j, j ∈ (Value.ownBlock (.slice r n q)).toList -> (j = g ∨ j = w.heap.size) /\ j < w'.heap.size) -> K (a.put o.dst (.slice r n q)) w') :
  if Region.wanted o (yielded ops a.tmps) = true then Oper.wp P o a w K Q else E := by
 obtain ⟨css, sa, sb, sc, sd⟩ := Src.Oj (P := P) (c := c) ht hn hr; refine fc w hgd s x t t ho base e i z 2 24 ht hi hz hsize hby hzs g hs hown _ hy n css.flatten sd (by unfold maxLen; omega) (by omega) hbase ?_; intro v w' hw hb hat; obtain ⟨r, q, rfl⟩ := bk hw; refine h r q w' (kW hn sa sb sc hw) hb (fun j hj => ?_); have h1 := (hw.lt j (by simpa using hj)).2; rcases hat with hh | hh <;> (rw [hh] at hj; simp at hj; subst hj; exact ⟨by simp, h1⟩)
theorem dK {w : World} {g : Nat} {cs : Array Value} {t : TypeId} (h : w.heap[g]? = some (.cells cs t (0, 0))) (j : Nat) {v : Value} (hv : cs[j]? = some v) : w.cell? ⟨g, j, none⟩ = some v := by rw [cell_of_row _ _ _ _ _ (0, 0) h]; exact hv
theorem fF {w : World} {g : Nat} {t : TypeId} {y0 y1 y2 y3 : Value} (h : w.heap[g]? = some (.cells #[y0, y1, y2, y3] t (0, 0))) (x0 x1 x2 x3 : Value) :
  ∃ x, x = ((((w.setCell ⟨g, 0, none⟩ x0).setCell ⟨g, 1, none⟩ x1).setCell ⟨g, 2, none⟩ x2).setCell ⟨g, 3, none⟩ x3) /\ x.heap[g]? = some (.cells #[x0, x1, x2, x3] t (0, 0)) /\ aw [g] w x :=
 ⟨_, rfl, heap_setCell_same _ g 3 _ _ _ (heap_setCell_same _ g 2 _ _ _ (heap_setCell_same _ g 1 _ _ _ (heap_setCell_same _ g 0 _ _ _ h))), aw.setCell (aw.setCell (aw.setCell (aw.setCell (aw.refl _ _) (by simp) _) (by simp) _) (by simp) _) (by simp) _⟩
theorem fG {B gb : Nat} {e : TypeId} {w3 w7 p x : World} {v3 v7 : Value} {l3 l7 : List aB} {F3 F7 : List Nat} (h3 : aF 2 e cN w3 v3 l3 F3) (h7 : aF 2 e cN w7 v7 l7 F7) (f3 : Below w3.heap.size w3 p) (f7 : Below w7.heap.size w7 p) (hT : aw [gb] p x) (n3 : F3.Nodup) (n7 : F7.Nodup)
  (t3 : ∀ j, j ∈ F3 -> B <= j /\ j ≠ gb) (t7 : ∀ j, j ∈ F7 -> B <= j /\ j ≠ gb) (hd : ∀ a, a ∈ F3 -> ∀ b, b ∈ F7 -> a ≠ b) : aF 2 e cN x v3 l3 F3 /\ aF 2 e cN x v7 l7 F7 /\ (F3 ++ F7).Nodup /\ ∀ b, b ∈ F3 ++ F7 -> B <= b /\ b ≠ gb := by
 refine ⟨aF.frame ay h3 (fun b hb => ?_), aF.frame ay h7 (fun b hb => ?_), List.nodup_append.2 ⟨n3, n7, hd⟩, fun b hb => ?_⟩
 ·have hl := aF.lt ay h3 b hb
  exact (hT.block b (Nat.lt_of_lt_of_le hl f3.size) (by simpa using (t3 b hb).2)).trans (f3.block b hl)
 ·have hl := aF.lt ay h7 b hb
  exact (hT.block b (Nat.lt_of_lt_of_le hl f7.size) (by simpa using (t7 b hb).2)).trans (f7.block b hl)
 ·rcases List.mem_append.1 hb with hb | hb
  ·exact t3 b hb
  ·exact t7 b hb
end Go.Proofs.YtcamcgfbljhbhaaGreatDoor
