/-
  Part 10 of the texts that the proof leans on.
-/
import Derived.Test.YtcamcgfbljhbhaaGreatDoorMan8
import Derived.Test.YtcamcgfbljhbhaaGreatDoorMan0
import Derived.Test.YtcamcgfbljhbhaaGreatDoorMan5
import Derived.Test.YtcamcgfbljhbhaaGreatDoorMan1
import Derived.Deep.RegionHeld3
set_option linter.unusedVariables false
set_option linter.unusedSimpArgs false
set_option maxRecDepth 10000
set_option maxHeartbeats 20000000

namespace Go.Proofs.YtcamcgfbljhbhaaGreatDoor
open Go.RowKit
structure yR (w : World) (g br bd : Nat) (W : World) (cs : List Value) (m : az) : Prop where
 d : Bw W bd 27 cs
 r : Bw W br 27 dZ
 k : bg W.heap.size W cs m
 s : aZ m <= 1048576
 c : b5 W g
 t : aw [g] w W
section
variable {w : World} {g br bd : Nat} {W W' : World} {cs : List Value} {m : az} {a0 a1 a2 : Option Addr} {n0 c0 n1 c1 n2 c2 : Nat} {z : Int}
theorem ez.e (h : ez w g br bd W cs m) : yR w g br bd W cs m := ⟨h.d, h.r, h.read, h.f.small, h.c, h.t⟩
theorem ez.rows (h : ez w g br bd W [.slice a0 n0 c0, .slice a1 n1 c1, .slice a2 n2 c2, .int .i64 z] m) :
  n0 = m.aa.length /\ n1 = m.ae.length /\ n2 = m.ag.length /\ z = m.ah /\ ∃ F0 F1 F2, aF 3 73 fX W (.slice a0 n0 c0) m.aa F0 /\ aF 2 68 cN W (.slice a1 n1 c1) m.ae F1 /\ aF 2 68 cN W (.slice a2 n2 c2) m.ag F2 /\ (Lit.int .i64 m.ah).wf = true /\ ∀ b, b ∈ F0 ++ F1 ++ F2 -> w.heap.size <= b /\ b ≠ bd /\ b ≠ br := by
 obtain ⟨F, ho, hF⟩ := h.o; obtain ⟨Vs, nR, Vt, c1', a2', c2', F0, F1, F2, hc, h0, h1, h2, h3, rfl⟩ := aC ho; injection hc with e0 hc
 injection hc with e1 hc
 injection hc with e2 hc
 injection hc with e3 _
 injection e0 with x0 y0 z0
 injection e1 with x1 y1 z1
 injection e2 with x2 y2 z2
 injection e3 with _ e3
 refine ⟨y0, y1, y2, e3, F0, F1, F2, ?_, ?_, ?_, h3, fun b hb => hF b (by simpa using hb)⟩
 ·rw [x0, y0, z0]; exact h0
 ·rw [x1, y1, z1]; exact h1
 ·rw [x2, y2, z2]; exact h2
theorem Rl {t : TypeId} (h : Bw W bd t [.slice a0 n0 c0, .slice a1 n1 c1, .slice a2 n2 c2, .int .i64 z]) : Au W bd := ⟨t, _, _, _, _, _, _, _, _, _, _, h⟩
theorem BZ (w : World) (b i : Nat) (u : Value) : aw [b] w (w.setCell ⟨b, i, none⟩ u) := (aw.refl _ _).setCell (by simp) _
theorem yR.put {i : Nat} {u : Value} {cs' : List Value} {m' : az} (hp : LM w g br bd) (hd : Bw W bd 27 [.slice a0 n0 c0, .slice a1 n1 c1, .slice a2 n2 c2, .int .i64 z]) (hr : Bw W br 27 dZ) (hk : bg W.heap.size W cs' m') (hs : aZ m' <= 1048576) (hc : b5 W g) (ht : aw [g] w W) (hcs : [.slice a0 n0 c0, .slice a1 n1 c1, .slice a2 n2 c2, .int .i64 z].set i u = cs') :
  yR w g br bd (W.setCell ⟨bd, i, none⟩ u) cs' m' := by
 have h1 := hp.g; have h2 := hp.r; have h3 := hp.d; have h4 := hp.n; have hT := BZ W bd i u; refine ⟨by rw [<- hcs]; exact hd.put i u, hr.turn hT (by simp; omega), ?_, hs, hc.turn hT (by omega), ht.join hT (fun k hk => by simp at hk; right; omega)⟩; have hz : (W.setCell ⟨bd, i, none⟩ u).heap.size = W.heap.size := by simp
 rw [hz]; exact cA (Rl hd) hT hk
theorem yR.leave (hp : LM w g br bd) (h : yR w g br bd W cs m) (hT : aw [br] W W') (hz : W'.heap.size = W.heap.size) : bg W'.heap.size W' cs m /\ aZ m <= 1048576 /\ b5 W' g /\ aw [g] w W' := by
 have h1 := hp.g; have h2 := hp.r; refine ⟨?_, h.s, h.c.turn hT (by omega), h.t.join hT (fun k hk => by simp at hk; right; omega)⟩; rw [hz]; exact cA (Bw.kV h.r) hT h.k
theorem ez.next (h : ez w g br bd W [.slice a0 n0 c0, .slice a1 n1 c1, .slice a2 n2 c2, .int .i64 z] m) {j : Int} (hj : (Lit.int .i64 j).wf = true) : bg W.heap.size W [.slice a0 n0 c0, .slice a1 n1 c1, .slice a2 n2 c2, .int .i64 j] { m with ah := j } /\ aZ { m with ah := j } <= 1048576 := by
 obtain ⟨b0, d0, b1, d1, b2, d2, hc, h0, h1, h2, h3, _⟩ := h.read; injection hc with e0 hc
 injection hc with e1 hc
 injection hc with e2 hc
 exact ⟨⟨b0, d0, b1, d1, b2, d2, by rw [e0, e1, e2], h0, h1, h2, hj, trivial⟩, h.f.small⟩
theorem ez.loose (h : ez w g br bd W [.slice a0 n0 c0, .slice a1 n1 c1, .slice a2 n2 c2, .int .i64 z] m) : bg W.heap.size W [.slice a0 n0 c0, .slice a1 n1 c1, .slice none 0 0, .int .i64 z] { m with ag := [] } /\ aZ { m with ag := [] } <= 1048576 := by
 obtain ⟨b0, d0, b1, d1, b2, d2, hc, h0, h1, h2, h3, _⟩ := h.read; injection hc with e0 hc
 injection hc with e1 hc
 injection hc with e2 hc
 injection hc with e3 _
 refine ⟨⟨b0, d0, b1, d1, none, 0, by rw [e0, e1, e3]; rfl, h0, h1, ⟨rN, by omega, fun j hj => by cases hj⟩, h3, trivial⟩, ?_⟩; have := h.f; unfold Fit at this; rw [cR] at this ⊢; simp only [List.length_nil, aP]; omega
theorem sX (g : Nat) (e : TypeId) : ∀ (news : List Value) (o : Nat) (w : World) (cur : Array Value), w.heap[g]? = some (.cells cur e (0, 0)) -> ∃ cur' : Array Value, (w.setCells g o news).heap[g]? = some (.cells cur' e (0, 0)) /\ cur'.size = cur.size
 | [], o, w, cur, hg => ⟨cur, hg, rfl⟩
 | u :: r, o, w, cur, hg => by
  obtain ⟨cur', h2, h3⟩ := sX g e r (o + 1) (w.setCell ⟨g, o, none⟩ u) (cur.setIfInBounds o u) (heap_setCell_same w g o cur e u hg); exact ⟨cur', h2, by simpa using h3⟩
theorem ez.push (hp : LM w g br bd) (h : ez w g br bd W [.slice a0 n0 c0, .slice a1 n1 c1, .slice a2 n2 c2, .int .i64 z] m) : n1 <= 1000000 /\ ∃ xs, W.ownsRow 0 68 2 (.slice a1 n1 c1) n1 xs /\
  ∀ (v' : Value) (W' : World) (s : ByteArray) (x : Int), s.size <= 20 -> (Lit.int .i64 x).wf = true -> W'.ownsRow 0 68 2 v' (n1 + 1) (xs ++ [.string s, .int .i64 x]) -> W.grownBy W' (Value.ownBlock (.slice a1 n1 c1)) -> (v'.ownBlock = Value.ownBlock (.slice a1 n1 c1) ∨ v'.ownBlock = some W.heap.size) ->
   ((∃ gg cap, Value.slice a1 n1 c1 = .slice (some ⟨gg, 0, none⟩) n1 cap /\ W' = W.setCells gg (n1 * 2) [.string s, .int .i64 x]) ∨ Below W.heap.size W W') ->
   ∃ (r : Option Addr) (q : Nat) (m' : az), v' = .slice r (n1 + 1) q /\ Bw W' bd 27 [.slice a0 n0 c0, .slice a1 n1 c1, .slice a2 n2 c2, .int .i64 z] /\ Bw W' br 27 dZ /\ bg W'.heap.size W' [.slice a0 n0 c0, .slice r (n1 + 1) q, .slice a2 n2 c2, .int .i64 z] m' /\ aZ m' <= 1048576 /\ b5 W' g /\ aw [g] w W' := by
 have lz := h.f; unfold Fit at lz; rw [cR] at lz; obtain ⟨e0, e1, e2, e3, F0, F1, F2, hI, hN, hS, Vu, hF⟩ := h.rows; have LP := hp.g; have DX := hp.r; have hn3 := hp.d; refine ⟨by omega, ?_⟩; obtain ⟨xs, nJ, cS⟩ := aF.push ay hN (BX hN); rw [<- e1] at nJ; refine ⟨xs, nJ, ?_⟩; intro v' W' s x hs hx hown hgr hat Vv; obtain ⟨r, q, rfl⟩ := bk hown; obtain ⟨F', I9, _, _⟩ := cS W' _ _ ⟨s, x⟩ [] (by rw [<- e1]; exact hown) hgr hat ⟨rfl, (show s.size <= 9223372036854775807 by omega), hx, rfl⟩ (by simp) (fun b hb => by cases hb); have hblk : ∀ b, Value.ownBlock (.slice a1 n1 c1) = some b -> w.heap.size <= b /\ b ≠ bd /\ b ≠ br := fun b hb => hF b (by have := (ux hN b hb).1; simp [this])
 have pM : aw (Value.ownBlock (.slice a1 n1 c1)).toList W W' := dE hgr
 have Uh : ∀ b, b ∈ F0 -> b ∉ (Value.ownBlock (.slice a1 n1 c1)).toList := by
  intro b hb hm; have hm : Value.ownBlock (.slice a1 n1 c1) = some b := by simpa using hm
  obtain ⟨cur, hc1⟩ := (ux hN b hm).2; obtain ⟨Vr, e, hc2, hne⟩ := BW hI b hb; rw [hc1] at hc2; injection hc2 with hc2
  injection hc2 with _ hc2
  exact hne hc2.symm
 have hI' := aF.frame (w' := W') aH hI (fun b hb => pM.block b (aF.lt aH hI b hb) (Uh b hb))
 have Rm : ∃ S', S'.length = m.ag.length /\ bw 2 cy W'.heap.size W' a2 c2 S' /\ aP a7 S' <= aP a7 m.ag + s.size := by
  rcases Vv with ⟨gg, cap, hv, rfl⟩ | hb
  ·obtain ⟨cur, Yh⟩ := (ux hN gg (by rw [hv]; rfl)).2
   have Rn : n1 * 2 + 2 <= cur.size := by
    rcases hown.2 with ⟨_, h0⟩ | ⟨g3, GX, Vw, h3, _, hg3, aaC, _, hs3, _⟩
    ·omega
    ·injection h3 with h3 _ h5
     rw [h3] at hat
     have hg : g3 = gg := by
      rcases hat with h6 | h6
      ·rw [hv] at h6
       simpa [Value.ownBlock] using h6
      ·have h7 : g3 = W.heap.size := by simpa [Value.ownBlock] using h6
       rw [h7] at hg3; have := (Array.getElem?_eq_some_iff.1 hg3).1; rw [js] at this; omega
     subst hg
     have hzz : Vw.size = cur.size := by
      have hk := sX g3 _ [.string s, .int .i64 x] (n1 * 2) W cur Yh; obtain ⟨aaD, h8, h9⟩ := hk; rw [h8] at hg3; injection hg3 with hg3
      injection hg3 with hg3
      rw [<- hg3, h9]
     omega
   have := GV (x := ⟨s, x⟩) (n := n1) (g := gg) (cur := cur) (by rw [<- e2]; exact hS) ⟨by show s.size <= _; omega, hx⟩ Yh Rn; obtain ⟨l', hl', wV, hsw⟩ := this; exact ⟨l', hl', by rw [js]; exact wV, hsw⟩
  ·refine ⟨m.ag, rfl, ?_, by omega⟩
   have wV := aF.leaf ay (by rw [<- e2]; exact hS); exact bw.mono au (bw.below au wV hb) hb.size
 obtain ⟨S', hSl, Ui, hSw⟩ := Rm; refine ⟨r, q, { m with ae := m.ae ++ [⟨s, x⟩], ag := S' }, rfl, ?_, ?_, ?_, ?_, ?_, ?_⟩
 ·exact h.d.turn pM (fun hm => (hblk bd (by simpa using hm)).2.1 rfl)
 ·exact h.r.turn pM (fun hm => (hblk br (by simpa using hm)).2.2 rfl)
 ·obtain ⟨Vs, nR, hv0, hl0⟩ := aF.read aH hI'
  obtain ⟨Vt, c1', Uj, sF⟩ := aF.read ay I9; injection hv0 with x0 y0 z0
  injection Uj with x1 y1 z1
  refine ⟨Vs, nR, Vt, c1', a2, c2, ?_, hl0, sF, Ui, Vu, trivial⟩
  show _ = [Value.slice Vs m.aa.length nR, .slice Vt (m.ae ++ [(⟨s, x⟩ : aB)]).length c1', .slice a2 S'.length c2, .int .i64 m.ah]; rw [x0, y0, z0, x1, y1, z1, hSl, e2, e3]
 ·have Vx : aP a7 (m.ae ++ [⟨s, x⟩]) = aP a7 m.ae + s.size := by
   have key : ∀ l : List aB, aP a7 (l ++ [⟨s, x⟩]) = aP a7 l + s.size := by
    intro l
    induction l with
    | nil => simp [aP, a7]
    | cons y r ih => simp only [List.cons_append, aP, ih]; omega
   exact key _
  rw [cR]; simp only [List.length_append, List.length_cons, List.length_nil]; rw [Vx]; omega
 ·obtain ⟨a, n, cap, B, zs, f1, f2, f3, f4, ⟨i, qq, f5, f6, f7⟩, f8⟩ := h.c
  have hz := h.t.size; refine ⟨a, n, cap, B, zs, f1, f2, f3, f4.below (pM.below (fun k hk => by have := (hblk k (by simpa using hk)).1; omega) (by omega)), ⟨i, qq, f5, f6, ?_⟩, Nat.lt_of_lt_of_le f8 pM.size⟩; rw [pM.block g f8 (fun hm => by have := (hblk g (by simpa using hm)).1; omega)]; exact f7
 ·exact h.t.join pM (fun k hk => .inr (hblk k (by simpa using hk)).1)
theorem wW {B : Nat} {p : Addr} {y : Int} {u : Value} {a : Option Addr} {c : Nat} {zs : List Int} (hc : W.cell? p = some (.int .i64 y)) (hl : fM B W a c zs) : fM B (W.setCell p u) a c zs := by
 refine ⟨hl.1, hl.2.1, fun j hj => ?_, hl.2.2.2⟩; obtain ⟨b, off, e, hB, h1⟩ := hl.2.2.1 j hj; refine ⟨b, off, e, hB, ?_⟩; rw [World.cell?_setCell_other _ _ _ _ (fun h => by rw [h, h1] at hc; cases hc)]; exact h1
theorem wX {B gI : Nat} {y : Int} {u : Value} {ad : Option Addr} {k q : Nat} {a : Option Addr} {c : Nat} {l : List aB} (hc : W.cell? ⟨gI, 2, none⟩ = some (.int .i64 y)) (hd : W.cell? ⟨gI, 1, none⟩ = some (.slice ad k q)) (hl : bw 2 cy B W a c l) : bw 2 cy B (W.setCell ⟨gI, 2, none⟩ u) a c l := by
 refine ⟨hl.1, hl.2.1, fun j hj => ?_⟩; obtain ⟨b, off, e, hB, cs, h1, h2, h3⟩ := hl.2.2 j hj; obtain ⟨rfl, h4, h5, _⟩ := h3; have k0 := h2 0 _ rfl; have k1 := h2 1 _ rfl; refine ⟨b, off, e, hB, _, h1, fun i v hv => ?_, rfl, h4, h5, trivial⟩; rw [World.cell?_setCell_other _ _ _ _ (fun h => ?_)]
 ·exact h2 i v hv
 ·injection h with hb ho
  subst hb
  match i, hv with
  | 0, hv => rw [<- ho, hc] at k0; cases k0
  | 1, hv =>
   have : off + j * 2 + 0 = 1 := by omega
   rw [this, hd] at k0; cases k0
theorem ez.sure (hp : LM w g br bd) (h : ez w g br bd W [.slice a0 n0 c0, .slice a1 n1 c1, .slice a2 n2 c2, .int .i64 z] m) (h0 : 0 < n0) : ∃ gI, a0 = some ⟨gI, 0, none⟩ /\ (∃ u, W.cell? ⟨gI, 2, none⟩ = some u) /\ W.frozen? ⟨gI, 2, none⟩ = false /\ gI < W.heap.size /\
  ∀ j : Int, (Lit.int .i64 j).wf = true -> ∃ m', yR w g br bd (W.setCell ⟨gI, 2, none⟩ (.int .i64 j)) [.slice a0 n0 c0, .slice a1 n1 c1, .slice a2 n2 c2, .int .i64 z] m' := by
 obtain ⟨e0, e1, e2, e3, F0, F1, F2, hI, hN, hS, Vu, hF⟩ := h.rows; have LP := hp.g; have DX := hp.r; have hn3 := hp.d; have Uk := aF.leaf aH (by rw [<- e0]; exact hI); have Yi := aF.leaf ay (by rw [<- e1]; exact hN); have hlS := aF.leaf ay (by rw [<- e2]; exact hS); rcases hI with ⟨_, hl, _⟩ | ⟨gI, cap, cur, Fs, hv, hg, _, _, _, _, _, hFe⟩
 ·rw [e0, hl] at h0; simp at h0
 ·injection hv with hv _ _
  subst hv; have ut := hF gI (by simp [hFe]); obtain ⟨b, off, he, hB, cs, h1, h2, ad, cd, rfl, i1, i2, i3, _⟩ := Uk.2.2 0 (by omega); injection he with he
  injection he with IV DW
  subst IV; subst DW; have k1 := h2 1 _ rfl; have k2 := h2 2 _ rfl; simp only [Nat.zero_mul, Nat.zero_add] at k1 k2; refine ⟨gI, rfl, ⟨_, k2⟩, frozen_of_row W gI 2 _ _ hg, hB, fun j hj => ?_⟩; have hT := BZ W gI 2 (.int .i64 j); have hz : (W.setCell ⟨gI, 2, none⟩ (.int .i64 j)).heap.size = W.heap.size := by simp
  refine ⟨{ m with aa := m.aa.set 0 { m.aa[0] with aW := j } }, h.d.turn hT (by simp; exact fun h => ut.2.1 h.symm), h.r.turn hT (by simp; exact fun h => ut.2.2 h.symm), ?_, ?_, h.c.turn hT (by omega), h.t.join hT (fun k hk => by simp at hk; right; omega)⟩
  ·rw [hz]
   refine ⟨some ⟨gI, 0, none⟩, c0, a1, c1, a2, c2, ?_, ⟨by simpa using Uk.1, Uk.2.1, fun k hk => ?_⟩, wX k2 k1 Yi, wX k2 k1 hlS, Vu, trivial⟩
   ·show _ = [Value.slice (some ⟨gI, 0, none⟩) (m.aa.set 0 _).length c0, .slice a1 m.ae.length c1, .slice a2 m.ag.length c2, .int .i64 m.ah]
    rw [List.length_set, e0, e1, e2, e3]
   ·have hk' : k < m.aa.length := by simpa using hk
    obtain ⟨b', Ri, Qu, Qx, cs', g1, g2, Vy, Vz, rfl, j1, j2, j3, _⟩ := Uk.2.2 k hk'; injection Qu with Qu
    injection Qu with q1 q2
    subst q1; subst q2
    by_cases LQ : k = 0
    ·subst LQ
     refine ⟨gI, 0, rfl, hB, [.int .i64 m.aa[0].bi, .slice Vy m.aa[0].aG.length Vz, .int .i64 j], rfl, ?_, ?_⟩
     ·intro i v hv
      match i, hv with
      | 0, hv => rw [World.cell?_setCell_other _ _ _ _ (by simp)]; exact g2 0 v hv
      | 1, hv => rw [World.cell?_setCell_other _ _ _ _ (by simp)]; exact g2 1 v hv
      | 2, hv =>
       simp at hv; subst hv; exact World.cell?_setCell_same _ _ _ k2
     ·have hx : (m.aa.set 0 { m.aa[0] with aW := j })[0] = { m.aa[0] with aW := j } := by simp
      rw [hx]; exact ⟨Vy, Vz, rfl, j1, wW k2 j2, hj, trivial⟩
    ·refine ⟨gI, 0, rfl, hB, _, g1, ?_, ?_⟩
     ·intro i v hv
      rw [World.cell?_setCell_other _ _ _ _ (by intro hh; injection hh with _ hh; omega)]; exact g2 i v hv
     ·have hx : (m.aa.set 0 { m.aa[0] with aW := j })[k] = m.aa[k] := List.getElem_set_ne (fun hh => LQ hh.symm) _
      rw [hx]; exact ⟨Vy, Vz, rfl, j1, wW k2 j2, j3, trivial⟩
  ·have lz := h.f.small
   rw [cR] at lz ⊢
   have hs : aP aJ (m.aa.set 0 { m.aa[0] with aW := j }) = aP aJ m.aa := by
    have key : ∀ (l : List aI) (hl : 0 < l.length), aP aJ (l.set 0 { l[0] with aW := j }) = aP aJ l := by
     intro l hl; cases l with
     | nil => simp at hl
     | cons y r => rfl
    exact key _ _
   simp only [List.length_set]; rw [hs]; exact lz
end
end Go.Proofs.YtcamcgfbljhbhaaGreatDoor

namespace Go.Proofs.YtcamcgfbljhbhaaGreatDoor
open Go.RowKit
theorem OO {ins : List aI} {l : List aB} {k : Nat} (h : k < l.length) (hs : jO ins (cP l k) (bP l k) l[k] = false) : ly ins (cP l k) (bP l k) (l.drop k) = false := by
 rw [sN h, hs]; rfl
theorem L8 {ins : List aI} {l : List aB} {k : Nat} (h : k < l.length) (hs : jO ins (cP l k) (bP l k) l[k] = true) : ly ins (cP l k) (bP l k) (l.drop k) = ly ins (cP l (k + 1)) (bP l (k + 1)) (l.drop (k + 1)) := by
 rw [sN h, hs]; rfl
theorem rr (cs : List Value) (m : az) (a : Option Addr) (n cap : Nat) (l : List aB) (w : World) (hr : bg w.heap.size w cs m) (hm : m.aa.length <= 16777216) (hx : l.length = n) (hn : n <= 16777216) (hl : bw 2 cy w.heap.size w a cap l) :
  Calls Tryz.prog 62 #[.agg cs.toArray, .slice a n cap] w fun e w' => e = .returned (.bool (ly m.aa [] ByteArray.empty l && decide (l.length <= 30))) /\ Below w.heap.size w w' := by
 have hq := hr; obtain ⟨a0, c0, a1, c1, a2, c2, rfl, _⟩ := hq; have HX := Hm hx; clear hx; have G4 := Hm hl.2.2; clear hl; have HR := Hm hr; clear hr; go_enter Tryz.func62, Tryz.ntmps62; go_wp2_with fail
 go_loopw [5, 6] (fun i j wr => ∃ k : Nat, k <= n /\ i = .int .i64 k /\ ly m.aa [] ByteArray.empty l = ly m.aa (cP l k) (bP l k) (l.drop k) /\ Below w.heap.size w wr /\ Bx wr w.heap.size (cj a0 c0 a1 c1 a2 c2 m)) (fun i _ _ => n - (intOf i).toNat)
 case atStart => exact ⟨0, Nat.zero_le _, rfl, rfl, rB.alloc rN _, Bx.new _ _ _⟩
 case round =>
  obtain ⟨k, hk, rfl, hI, bF, cg⟩ := hrel; have HI := Hm hI; clear hI; have RS := cg.2 0 _ rfl; have RT := cg.2 1 _ rfl; have RU := cg.2 2 _ rfl; have RV := cg.2 3 _ rfl
  by_cases hlt : k < n
  ·have gH : k < l.length := by rw [HX.out]; exact hlt
   obtain ⟨b1, o1, rfl, hB, cs, iw, hcell, rfl, hsz, qJ, _⟩ := (G4.out.below au bF) k gH; have k0 := hcell 0 _ rfl; have k1 := hcell 1 _ rfl; rw [Nat.add_zero] at k0; clear hcell iw; have FA := fun W => kG l[k].ax W hsz
   have zC := fun W (hb : Below wr.heap.size wr W) => pP _ m l[k].bi W (aq.mono (aq.below HR.out (af bF hb)) (af bF hb).size) (by omega)
   have B5 : b1 < wr.heap.size := Nat.lt_of_lt_of_le hB bF.size; have q0 : ∀ W, Below wr.heap.size wr W -> W.cell? ⟨b1, o1 + k * 2, none⟩ = some (.string l[k].ax) := fun W hb => (hb.cell (p := ⟨b1, o1 + k * 2, none⟩) B5).trans k0
   have q1 : ∀ W, Below wr.heap.size wr W -> W.cell? ⟨b1, o1 + k * 2 + 1, none⟩ = some (.int .i64 l[k].bi) := fun W hb => (hb.cell (p := ⟨b1, o1 + k * 2 + 1, none⟩) B5).trans k1
   have p0 : ∀ W, Below wr.heap.size wr W -> W.cell? ⟨w.heap.size, 0, none⟩ = some (.slice a0 m.aa.length c0) := fun W hb => (cg.under hb).2 0 _ rfl
   have p1 : ∀ W, Below wr.heap.size wr W -> W.cell? ⟨w.heap.size, 1, none⟩ = some (.slice a1 m.ae.length c1) := fun W hb => (cg.under hb).2 1 _ rfl
   have p2 : ∀ W, Below wr.heap.size wr W -> W.cell? ⟨w.heap.size, 2, none⟩ = some (.slice a2 m.ag.length c2) := fun W hb => (cg.under hb).2 2 _ rfl
   have p3 : ∀ W, Below wr.heap.size wr W -> W.cell? ⟨w.heap.size, 3, none⟩ = some (.int .i64 m.ah) := fun W hb => (cg.under hb).2 3 _ rfl
   have Yy := Hm (OO (ins := m.aa) gH); clear RS RT RU RV k0 k1; have B6 : Hid (jO m.aa (cP l k) (bP l k) l[k] = false -> ly m.aa [] ByteArray.empty l = false) := fun h => by rw [HI.out]; exact Yy.out h
   have nZ : Hid (jO m.aa (cP l k) (bP l k) l[k] = true -> ly m.aa [] ByteArray.empty l = ly m.aa (cP l (k + 1)) (bP l (k + 1)) (l.drop (k + 1))) := fun h => by rw [HI.out]; exact L8 gH h
   have mq : Hid (jO m.aa (cP l k) (bP l k) l[k] = (ee m.aa l[k].bi && !(cP l k).contains l[k].bi && strLt (bP l k) l[k].ax && bH l[k].ax)) := rfl; clear Yy HI
   by_cases hN : bH l[k].ax = true
   ·by_cases hH : ee m.aa l[k].bi = true
    ·have OP : decide (ij m.aa l[k].bi < 0) = false := decide_eq_false (by rw [rH, hH]; simp)
     have abe : (ij m.aa l[k].bi < 0) = False := eq_false (by rw [rH, hH]; simp); simp only [hN] at FA
     have xq : Hid (strLt (bP l k) l[k].ax = true -> (∀ j, (hj : j < l.length) -> j < k -> l[j].bi ≠ l[k].bi) -> jO m.aa (cP l k) (bP l k) l[k] = true) := fun h1 h2 => by
      rw [mq.out, hH, h1, hN, GA h2]; rfl
     have D8 : Hid (∀ j, (hj : j < l.length) -> j < k -> l[j].bi = l[k].bi -> jO m.aa (cP l k) (bP l k) l[k] = false) := fun j hj hjk he => by
      rw [mq.out, Ob hj hjk he]; simp
     have AD : Hid (strLt (bP l k) l[k].ax = false -> jO m.aa (cP l k) (bP l k) l[k] = false) := fun h1 => by
      rw [mq.out, h1]; simp
     have V1 : Hid (1 <= l[k].ax.size) := wD hN; clear mq; have RZ : Hid (l[k].ax.size <= 9223372036854775807) := hsz; obtain ⟨p, hp⟩ : ∃ p, p = (if h0 : k = 0 then strLt ByteArray.empty l[k].ax else strLt (l[k - 1]'(by omega)).ax l[k].ax) := ⟨_, rfl⟩
     by_cases h0 : k = 0
     ·have Li : Hid (strLt (bP l k) l[k].ax = true) := by subst h0; exact BG V1.out
      clear hp hN hH; have FE := Hm (nZ.out (xq.out Li.out (fun j _ hj => by omega))); clear Li xq D8 AD nZ B6; subst h0; simp only [Nat.zero_mul, Nat.add_zero, Nat.zero_add] at q0 q1 FE; generalize l[0].ax = nm at *; generalize l[0].bi = id at *; generalize ij m.aa id = pz at *; go_wp2_with fail; refine kz wr (fun hZ => ?_); refine uq 0 ?_; refine uq 1 ?_; refine uq 2 ?_; refine uq 3 ?_; refine uq 4 ?_; refine bf 5 rfl fun K hK => ?_
      go_simp; refine Calls.mono (FA _) ?_; rintro e w1 ⟨rfl, di⟩; have hx1 := a8 di; clear di; go_wp2_with fail; refine aL hK (af hZ hx1) (fun hZ => ?_); clear hK K; refine uq 6 ?_; refine uq 7 ?_; refine uq 8 ?_; refine uq 9 ?_; refine uq 10 ?_; refine uq 11 ?_; refine uq 12 ?_; refine uq 13 ?_; refine bf 14 rfl fun K hK => ?_
      go_simp; refine Calls.mono (zC _ hZ) ?_; rintro e w2 ⟨rfl, hx2⟩; go_wp2_with fail; refine aL hK (af hZ hx2) (fun hZ => ?_); clear hK K; refine uq 15 ?_; refine uq 16 ?_; refine uq 17 ?_; refine uq 18 ?_; refine uq 19 ?_; refine uq 20 ?_; refine um 21 ?_; refine um 22 ?_; refine um 23 ?_; refine um 24 ?_; refine um 25 ?_; refine um 26 ?_; refine um 27 ?_; refine um 28 ?_; refine um 29 ?_; refine um 30 ?_; refine um 31 ?_; refine um 32 ?_; refine uq 33 ?_; refine uq 34 ?_; refine dC ?_; go_wp2_with fail; refine wp_loop_rounds 1 ?_; rw [rounds_succ]; go_wp2_with fail
      go_roundw
      case rel => exact ⟨1, by omega, by go_num, FE.out, af bF hZ, cg.under hZ⟩
      case measure => simp [intOf]; omega
     ·obtain ⟨j, rfl⟩ : ∃ j, k = j + 1 := ⟨k - 1, by omega⟩
      have ur : j < l.length := by omega
      obtain ⟨Ys, o1', IV, _, cs', G3, xr, rfl, hsz', _⟩ := (G4.out.below au bF) j ur; simp only [Option.some.injEq, Addr.mk.injEq, and_true] at IV; obtain ⟨rfl, rfl⟩ := IV; have kp := xr 0 _ rfl; rw [Nat.add_zero] at kp; have qp : ∀ W, Below wr.heap.size wr W -> W.cell? ⟨b1, o1 + j * 2, none⟩ = some (.string l[j].ax) := fun W hb => (hb.cell (p := ⟨b1, o1 + j * 2, none⟩) B5).trans kp
      have QI : Hid (bP l (j + 1) = l[j].ax) := nH ur; clear kp xr G3 h0 hp; have hz1 : (0 : Int) <= (j : Int) + 1 := by omega
      have hz2 : (j : Int) + 1 < (n : Int) := by omega
      have hz3 : (0 : Int) < (j : Int) + 1 := by omega
      have L9 : (j : Int) < (n : Int) := by omega
      have hwr : IntKind.i64.wrap (j : Int) = j := by simp (disch := omega) only [IntWalk.i64_in]
      by_cases hS : strLt l[j].ax l[j + 1].ax = true
      ·have HOk : Hid ((∀ i, (hi : i < l.length) -> i < j + 1 -> l[i].bi ≠ l[j + 1].bi) -> jO m.aa (cP l (j + 1)) (bP l (j + 1)) l[j + 1] = true) := fun h => xq.out (by rw [QI.out]; exact hS) h
       clear hN hH xq AD QI; unfold strLt at hS; generalize l[j].ax = pn at *; generalize l[j + 1].ax = nm at *; have HId : Hid (l[j + 1].bi = l[j + 1].bi) := rfl; generalize l[j + 1].bi = id at *; generalize ij m.aa id = pz at *; go_wp2_with fail; refine kz wr (fun hZ => ?_); refine uq 0 ?_; refine uq 1 ?_; refine uq 2 ?_; refine uq 3 ?_; refine uq 4 ?_; refine bf 5 rfl fun K hK => ?_
       go_simp; refine Calls.mono (FA _) ?_; rintro e w1 ⟨rfl, di⟩; have hx1 := a8 di; clear di; go_wp2_with fail; refine aL hK (af hZ hx1) (fun hZ => ?_); clear hK K; refine uq 6 ?_; refine uq 7 ?_; refine uq 8 ?_; refine uq 9 ?_; refine uq 10 ?_; refine uq 11 ?_; refine uq 12 ?_; refine uq 13 ?_; refine bf 14 rfl fun K hK => ?_
       go_simp; refine Calls.mono (zC _ hZ) ?_; rintro e w2 ⟨rfl, hx2⟩; go_wp2_with fail; refine aL hK (af hZ hx2) (fun hZ => ?_); clear hK K; refine uq 15 ?_; refine uq 16 ?_; refine uq 17 ?_; refine uq 18 ?_; refine uq 19 ?_; refine uq 20 ?_; refine uq 21 ?_; refine uq 22 ?_; refine uq 23 ?_; refine uq 24 ?_; refine uq 25 ?_; refine uq 26 ?_; refine uq 27 ?_; refine uq 28 ?_; refine uq 29 ?_; refine uq 30 ?_; refine uq 31 ?_; refine uq 32 ?_; refine uq 33 ?_; refine uq 34 ?_; refine dC ?_; have cJ : Below wr.heap.size wr w2 := hZ; go_wp2_with fail
       go_loopw [6] (fun jv wv => ∃ i : Nat, i <= j + 1 /\ jv = .int .i64 i /\ (∀ x, (hx : x < l.length) -> x < i -> l[x].bi ≠ id) /\ Below wr.heap.size wr wv) (fun jv _ => j + 1 - (intOf jv).toNat)
       case atStart => exact ⟨0, Nat.zero_le _, rfl, fun x _ hx => by omega, cJ⟩
       case round =>
        obtain ⟨i, hi, rfl, hno, gU⟩ := hrel; have mo := Hm hno; clear hno; have hc1 := q1 _ gU
        by_cases Jx : i < j + 1
        ·have R2 : i < l.length := by omega
         obtain ⟨b2, o2, DW, AE, FH, Ma, mA, rfl, _⟩ := (G4.out.below au (af bF gU)) i R2; simp only [Option.some.injEq, Addr.mk.injEq, and_true] at DW; obtain ⟨rfl, rfl⟩ := DW; have hc2 := mA 1 _ rfl; have RM : (0 : Int) <= (i : Int) := by omega
         have IY : (i : Int) < (n : Int) := by omega
         have hu3 : (i : Int) < (j : Int) + 1 := by omega
         by_cases he : l[i].bi = id
         ·have HV : Hid (ly m.aa [] ByteArray.empty l = false) := B6.out (D8.out i R2 Jx he)
          have Bp : (l[i].bi == id) = true := by simp [he]
          generalize l[i].bi = y at hc2 Bp; clear mA Ma he mo; go_wp2_with fail
          go_region
          all_goals
           go_wp2_with fail; go_ret; exact ⟨by rw [HV.out]; rfl, Below.trans bF (Below.mono (Below.drew gU) bF.size)⟩
         ·have Bp : (l[i].bi == id) = false := by simp [he]
          have D4 : Hid (∀ x, (hx : x < l.length) -> x < i + 1 -> l[x].bi ≠ id) := fun x hx Qw => by
           by_cases V2 : x = i
           ·subst V2; exact he
           ·exact mo.out x hx (by omega)
          generalize l[i].bi = y at hc2 Bp; clear mA Ma he mo; go_wp2_with fail
          go_region
          all_goals
           go_wp2_with fail
           go_roundw
           case rel => exact ⟨i + 1, by omega, by go_num, D4.out, Below.drew gU⟩
           case measure => simp [intOf]; omega
        ·have FE := Hm (nZ.out (HOk.out (fun x hx IU => mo.out x hx (by omega))))
         clear mo; go_wp2_with fail
         go_roundw
         case rel => exact ⟨j + 1 + 1, by omega, by go_num, FE.out, af bF gU, cg.under gU⟩
         case measure => simp [intOf]; omega
      ·have Yz : strLt l[j].ax l[j + 1].ax = false := by simpa using hS
       have HV : Hid (ly m.aa [] ByteArray.empty l = false) := B6.out (AD.out (by rw [QI.out]; exact Yz)); clear hN hH xq D8 AD nZ B6 QI hS; unfold strLt at Yz; generalize l[j].ax = pn at *; generalize l[j + 1].ax = nm at *; generalize l[j + 1].bi = id at *; generalize ij m.aa id = pz at *; go_wp2_with fail; refine kz wr (fun hZ => ?_); refine uq 0 ?_; refine uq 1 ?_; refine uq 2 ?_; refine uq 3 ?_; refine uq 4 ?_; refine bf 5 rfl fun K hK => ?_
       go_simp; refine Calls.mono (FA _) ?_; rintro e w1 ⟨rfl, di⟩; have hx1 := a8 di; clear di; go_wp2_with fail; refine aL hK (af hZ hx1) (fun hZ => ?_); clear hK K; refine uq 6 ?_; refine uq 7 ?_; refine uq 8 ?_; refine uq 9 ?_; refine uq 10 ?_; refine uq 11 ?_; refine uq 12 ?_; refine uq 13 ?_; refine bf 14 rfl fun K hK => ?_
       go_simp; refine Calls.mono (zC _ hZ) ?_; rintro e w2 ⟨rfl, hx2⟩; go_wp2_with fail; refine aL hK (af hZ hx2) (fun hZ => ?_); clear hK K; refine uq 15 ?_; refine uq 16 ?_; refine uq 17 ?_; refine uq 18 ?_; refine uq 19 ?_; refine uq 20 ?_; refine uq 21 ?_; refine uq 22 ?_; refine uq 23 ?_; refine uq 24 ?_; refine uq 25 ?_; refine uq 26 ?_; refine uq 27 ?_; refine uq 28 ?_; refine uq 29 ?_; refine uq 30 ?_; refine uq 31 ?_; refine uq 32 ?_; refine uq 33 ?_; refine uq 34 ?_; refine dC ?_; go_wp2_with fail; go_ret; exact ⟨by rw [HV.out]; rfl, af bF hZ⟩
    ·have V3 : ee m.aa l[k].bi = false := by simpa using hH
     have OP : ij m.aa l[k].bi < 0 := rH.2 V3; have HV : Hid (ly m.aa [] ByteArray.empty l = false) := B6.out (by rw [mq.out, V3]; simp); simp only [hN] at FA; clear hN hH V3 B6 nZ mq; generalize l[k].ax = nm at *; generalize l[k].bi = id at *; generalize ij m.aa id = pz at *; go_wp2_with fail; refine kz wr (fun hZ => ?_); refine uq 0 ?_; refine uq 1 ?_; refine uq 2 ?_; refine uq 3 ?_; refine uq 4 ?_; refine bf 5 rfl fun K hK => ?_
     go_simp; refine Calls.mono (FA _) ?_; rintro e w1 ⟨rfl, di⟩; have hx1 := a8 di; clear di; go_wp2_with fail; refine aL hK (af hZ hx1) (fun hZ => ?_); clear hK K; refine uq 6 ?_; refine uq 7 ?_; refine uq 8 ?_; refine uq 9 ?_; refine uq 10 ?_; refine uq 11 ?_; refine uq 12 ?_; refine uq 13 ?_; refine bf 14 rfl fun K hK => ?_
     go_simp; refine Calls.mono (zC _ hZ) ?_; rintro e w2 ⟨rfl, hx2⟩; go_wp2_with fail; refine aL hK (af hZ hx2) (fun hZ => ?_); clear hK K; refine uq 15 ?_; refine uq 16 ?_; refine uq 17 ?_; refine um 18 ?_; refine um 19 ?_; refine um 20 ?_; refine um 21 ?_; refine um 22 ?_; refine um 23 ?_; refine um 24 ?_; refine um 25 ?_; refine um 26 ?_; refine um 27 ?_; refine um 28 ?_; refine um 29 ?_; refine um 30 ?_; refine um 31 ?_; refine um 32 ?_; refine um 33 ?_; refine uq 34 ?_; refine dC ?_; go_wp2_with fail; go_ret; exact ⟨by rw [HV.out]; rfl, af bF hZ⟩
   ·have QL : bH l[k].ax = false := by simpa using hN
    have HV : Hid (ly m.aa [] ByteArray.empty l = false) := B6.out (by rw [mq.out, QL]; simp); simp only [QL] at FA; clear hN B6 nZ mq; generalize l[k].ax = nm at *; generalize l[k].bi = id at *; go_wp2_with fail; refine kz wr (fun hZ => ?_); refine uq 0 ?_; refine uq 1 ?_; refine uq 2 ?_; refine uq 3 ?_; refine uq 4 ?_; refine bf 5 rfl fun K hK => ?_
    go_simp; refine Calls.mono (FA _) ?_; rintro e w1 ⟨rfl, di⟩; have hx1 := a8 di; clear di; go_wp2_with fail; refine aL hK (af hZ hx1) (fun hZ => ?_); clear hK K; refine uq 6 ?_; refine uq 7 ?_; refine um 8 ?_; refine um 9 ?_; refine um 10 ?_; refine um 11 ?_; refine um 12 ?_; refine um 13 ?_; refine um 14 ?_; refine um 15 ?_; refine uq 16 ?_; refine uq 17 ?_; refine um 18 ?_; refine um 19 ?_; refine um 20 ?_; refine um 21 ?_; refine um 22 ?_; refine um 23 ?_; refine um 24 ?_; refine um 25 ?_; refine um 26 ?_; refine um 27 ?_; refine um 28 ?_; refine um 29 ?_; refine um 30 ?_; refine um 31 ?_; refine um 32 ?_; refine um 33 ?_; refine uq 34 ?_; refine dC ?_; go_wp2_with fail; go_ret; exact ⟨by rw [HV.out]; rfl, af bF hZ⟩
  ·have qZ : k = n := by omega
   have vk : Hid (l.drop k = []) := List.drop_of_length_le (by rw [HX.out]; omega)
   have HV : Hid (ly m.aa [] ByteArray.empty l = true) := by
    show _ = true; rw [HI.out, vk.out]; rfl
   have HL : Hid ((ly m.aa [] ByteArray.empty l && decide (l.length <= 30)) = decide (n <= 30)) := by
    show _ = _; rw [HV.out, HX.out, Bool.true_and]
   go_wp2_with fail; go_ret; have HD : Hid (decide ((n : Int) <= 30) = decide (n <= 30)) := decide_eq_decide.2 (by omega); exact ⟨by rw [HL.out, <- HD.out]; rfl, bF⟩
end Go.Proofs.YtcamcgfbljhbhaaGreatDoor
