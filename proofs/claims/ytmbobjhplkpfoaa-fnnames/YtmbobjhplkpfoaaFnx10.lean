/-
  Part 11 of the texts that the proof leans on.
-/
import Derived.Test.YtmbobjhplkpfoaaFnx9
set_option linter.unusedVariables false
set_option linter.unusedSimpArgs false
set_option maxRecDepth 10000

namespace Go.Proofs.Ytmbobjhplkpfoaa
open Go.RowKit

/-- The disk in its box, as it is read. -/
structure ESt (w : World) (g br bd : Nat) (W : World) (cs : List Value) (m : MDisk) : Prop where
  d : Bw W bd 27 cs
  r : Bw W br 27 dZ
  k : rDisk W.heap.size W cs m
  s : wDisk m ≤ 1048576
  c : CurOk W g
  t : Turn [g] w W
section
variable {w : World} {g br bd : Nat} {W W' : World} {cs : List Value} {m : MDisk} {a0 a1 a2 : Option Addr} {n0 c0 n1 c1 n2 c2 : Nat} {z : Int}
theorem DSt.e (h : DSt w g br bd W cs m) : ESt w g br bd W cs m := ⟨h.d, h.r, h.read, h.f.small, h.c, h.t⟩
theorem DSt.rows (h : DSt w g br bd W [.slice a0 n0 c0, .slice a1 n1 c1, .slice a2 n2 c2, .int .i64 z] m) :
    n0 = m.fInodes.length ∧ n1 = m.fNames.length ∧ n2 = m.fSafe.length ∧ z = m.fNext ∧ ∃ F0 F1 F2, ownS 3 56 oInode W (.slice a0 n0 c0) m.fInodes F0 ∧ ownS 2 61 oEntry W (.slice a1 n1 c1) m.fNames F1 ∧ ownS 2 61 oEntry W (.slice a2 n2 c2) m.fSafe F2 ∧ (Lit.int .i64 m.fNext).wf = true ∧ ∀ b, b ∈ F0 ++ F1 ++ F2 → w.heap.size ≤ b ∧ b ≠ bd ∧ b ≠ br := by
  obtain ⟨F, ho, hF⟩ := h.o
  obtain ⟨a0', c0', a1', c1', a2', c2', F0, F1, F2, hc, h0, h1, h2, h3, rfl⟩ := oDisk_cells ho
  injection hc with e0 hc
  injection hc with e1 hc
  injection hc with e2 hc
  injection hc with e3 _
  injection e0 with x0 y0 z0
  injection e1 with x1 y1 z1
  injection e2 with x2 y2 z2
  injection e3 with _ e3
  refine ⟨y0, y1, y2, e3, F0, F1, F2, ?_, ?_, ?_, h3, fun b hb => hF b (by simpa using hb)⟩
  · rw [x0, y0, z0]; exact h0
  · rw [x1, y1, z1]; exact h1
  · rw [x2, y2, z2]; exact h2
theorem dbox4 {t : TypeId} (h : Bw W bd t [.slice a0 n0 c0, .slice a1 n1 c1, .slice a2 n2 c2, .int .i64 z]) : DBox W bd := ⟨t, _, _, _, _, _, _, _, _, _, _, h⟩
theorem turn_one (w : World) (b i : Nat) (u : Value) : Turn [b] w (w.setCell ⟨b, i, none⟩ u) := (Turn.refl _ _).setCell (by simp) _
/-- One cell of the disk's box is written. -/
theorem ESt.put {i : Nat} {u : Value} {cs' : List Value} {m' : MDisk} (hp : DPl w g br bd) (hd : Bw W bd 27 [.slice a0 n0 c0, .slice a1 n1 c1, .slice a2 n2 c2, .int .i64 z]) (hr : Bw W br 27 dZ) (hk : rDisk W.heap.size W cs' m') (hs : wDisk m' ≤ 1048576) (hc : CurOk W g) (ht : Turn [g] w W) (hcs : [.slice a0 n0 c0, .slice a1 n1 c1, .slice a2 n2 c2, .int .i64 z].set i u = cs') :
    ESt w g br bd (W.setCell ⟨bd, i, none⟩ u) cs' m' := by
  have h1 := hp.g
  have h2 := hp.r
  have h3 := hp.d
  have h4 := hp.n
  have hT := turn_one W bd i u
  refine ⟨by rw [← hcs]; exact hd.put i u, hr.turn hT (by simp; omega), ?_, hs, hc.turn hT (by omega), ht.join hT (fun k hk => by simp at hk; right; omega)⟩
  have hz : (W.setCell ⟨bd, i, none⟩ u).heap.size = W.heap.size := by simp
  rw [hz]
  exact rDisk_turn (dbox4 hd) hT hk
theorem ESt.leave (hp : DPl w g br bd) (h : ESt w g br bd W cs m) (hT : Turn [br] W W') (hz : W'.heap.size = W.heap.size) : rDisk W'.heap.size W' cs m ∧ wDisk m ≤ 1048576 ∧ CurOk W' g ∧ Turn [g] w W' := by
  have h1 := hp.g
  have h2 := hp.r
  refine ⟨?_, h.s, h.c.turn hT (by omega), h.t.join hT (fun k hk => by simp at hk; right; omega)⟩
  rw [hz]
  exact rDisk_turn (Bw.dzero h.r) hT h.k
theorem DSt.next (h : DSt w g br bd W [.slice a0 n0 c0, .slice a1 n1 c1, .slice a2 n2 c2, .int .i64 z] m) {j : Int} (hj : (Lit.int .i64 j).wf = true) : rDisk W.heap.size W [.slice a0 n0 c0, .slice a1 n1 c1, .slice a2 n2 c2, .int .i64 j] { m with fNext := j } ∧ wDisk { m with fNext := j } ≤ 1048576 := by
  obtain ⟨b0, d0, b1, d1, b2, d2, hc, h0, h1, h2, h3, _⟩ := h.read
  injection hc with e0 hc
  injection hc with e1 hc
  injection hc with e2 hc
  exact ⟨⟨b0, d0, b1, d1, b2, d2, by rw [e0, e1, e2], h0, h1, h2, hj, trivial⟩, h.f.small⟩
theorem DSt.loose (h : DSt w g br bd W [.slice a0 n0 c0, .slice a1 n1 c1, .slice a2 n2 c2, .int .i64 z] m) : rDisk W.heap.size W [.slice a0 n0 c0, .slice a1 n1 c1, .slice none 0 0, .int .i64 z] { m with fSafe := [] } ∧ wDisk { m with fSafe := [] } ≤ 1048576 := by
  obtain ⟨b0, d0, b1, d1, b2, d2, hc, h0, h1, h2, h3, _⟩ := h.read
  injection hc with e0 hc
  injection hc with e1 hc
  injection hc with e2 hc
  injection hc with e3 _
  refine ⟨⟨b0, d0, b1, d1, none, 0, by rw [e0, e1, e3]; rfl, h0, h1, ⟨Nat.le_refl _, by omega, fun j hj => by cases hj⟩, h3, trivial⟩, ?_⟩
  have := h.f
  unfold Fit at this
  rw [wDisk_eq] at this ⊢
  simp only [List.length_nil, sumW]
  omega
theorem setCells_len (g : Nat) (e : TypeId) : ∀ (news : List Value) (o : Nat) (w : World) (cur : Array Value), w.heap[g]? = some (.cells cur e (0, 0)) → ∃ cur' : Array Value, (w.setCells g o news).heap[g]? = some (.cells cur' e (0, 0)) ∧ cur'.size = cur.size
  | [], o, w, cur, hg => ⟨cur, hg, rfl⟩
  | u :: r, o, w, cur, hg => by
    obtain ⟨cur', h2, h3⟩ := setCells_len g e r (o + 1) (w.setCell ⟨g, o, none⟩ u) (cur.setIfInBounds o u) (heap_setCell_same w g o cur e u hg)
    exact ⟨cur', h2, by simpa using h3⟩
/-- One more name. -/
theorem DSt.push (hp : DPl w g br bd) (h : DSt w g br bd W [.slice a0 n0 c0, .slice a1 n1 c1, .slice a2 n2 c2, .int .i64 z] m) : n1 ≤ 1000000 ∧ ∃ xs, W.ownsRow 0 61 2 (.slice a1 n1 c1) n1 xs ∧
    ∀ (v' : Value) (W' : World) (s : ByteArray) (x : Int), s.size ≤ 20 → (Lit.int .i64 x).wf = true → W'.ownsRow 0 61 2 v' (n1 + 1) (xs ++ [.string s, .int .i64 x]) → W.grownBy W' (Value.ownBlock (.slice a1 n1 c1)) → (v'.ownBlock = Value.ownBlock (.slice a1 n1 c1) ∨ v'.ownBlock = some W.heap.size) →
      ((∃ gg cap, Value.slice a1 n1 c1 = .slice (some ⟨gg, 0, none⟩) n1 cap ∧ W' = W.setCells gg (n1 * 2) [.string s, .int .i64 x]) ∨ Below W.heap.size W W') →
      ∃ (r : Option Addr) (q : Nat) (m' : MDisk), v' = .slice r (n1 + 1) q ∧ Bw W' bd 27 [.slice a0 n0 c0, .slice a1 n1 c1, .slice a2 n2 c2, .int .i64 z] ∧ Bw W' br 27 dZ ∧ rDisk W'.heap.size W' [.slice a0 n0 c0, .slice r (n1 + 1) q, .slice a2 n2 c2, .int .i64 z] m' ∧ wDisk m' ≤ 1048576 ∧ CurOk W' g ∧ Turn [g] w W' := by
  have hfit := h.f
  unfold Fit at hfit
  rw [wDisk_eq] at hfit
  obtain ⟨e0, e1, e2, e3, F0, F1, F2, hI, hN, hS, hzw, hF⟩ := h.rows
  have hn1 := hp.g
  have hn2 := hp.r
  have hn3 := hp.d
  refine ⟨by omega, ?_⟩
  obtain ⟨xs, hxs, hpush⟩ := ownS.push oEntry_good hN (entry_nodup hN)
  rw [← e1] at hxs
  refine ⟨xs, hxs, ?_⟩
  intro v' W' s x hs hx hown hgr hat htwo
  obtain ⟨r, q, rfl⟩ := own_slice hown
  obtain ⟨F', ho', _, _⟩ := hpush W' _ _ ⟨s, x⟩ [] (by rw [← e1]; exact hown) hgr hat ⟨rfl, (show s.size ≤ 9223372036854775807 by omega), hx, rfl⟩ (by simp) (fun b hb => by cases hb)
  have hblk : ∀ b, Value.ownBlock (.slice a1 n1 c1) = some b → w.heap.size ≤ b ∧ b ≠ bd ∧ b ≠ br := fun b hb => hF b (by have := (own_typed hN b hb).1; simp [this])
  have hT1 : Turn (Value.ownBlock (.slice a1 n1 c1)).toList W W' := turnOwn hgr
  have hnI : ∀ b, b ∈ F0 → b ∉ (Value.ownBlock (.slice a1 n1 c1)).toList := by
    intro b hb hm
    have hm : Value.ownBlock (.slice a1 n1 c1) = some b := by simpa using hm
    obtain ⟨cur, hc1⟩ := (own_typed hN b hm).2
    obtain ⟨cur2, e, hc2, hne⟩ := inode_typed hI b hb
    rw [hc1] at hc2
    injection hc2 with hc2
    injection hc2 with _ hc2
    exact hne hc2.symm
  have hI' := ownS.frame (w' := W') oInode_good hI (fun b hb => hT1.block b (ownS.lt oInode_good hI b hb) (hnI b hb))
  have hsafe : ∃ S', S'.length = m.fSafe.length ∧ LeafL 2 rEntry W'.heap.size W' a2 c2 S' ∧ sumW wEntry S' ≤ sumW wEntry m.fSafe + s.size := by
    rcases htwo with ⟨gg, cap, hv, rfl⟩ | hb
    · obtain ⟨cur, hgc⟩ := (own_typed hN gg (by rw [hv]; rfl)).2
      have hfit2 : n1 * 2 + 2 ≤ cur.size := by
        rcases hown.2 with ⟨_, h0⟩ | ⟨g3, cap3, cur3, h3, _, hg3, hle3, _, hs3, _⟩
        · omega
        · injection h3 with h3 _ h5
          rw [h3] at hat
          have hg : g3 = gg := by
            rcases hat with h6 | h6
            · rw [hv] at h6
              simpa [Value.ownBlock] using h6
            · have h7 : g3 = W.heap.size := by simpa [Value.ownBlock] using h6
              rw [h7] at hg3
              have := (Array.getElem?_eq_some_iff.1 hg3).1
              rw [size_setCells_w] at this
              omega
          subst hg
          have hzz : cur3.size = cur.size := by
            have hk := setCells_len g3 _ [.string s, .int .i64 x] (n1 * 2) W cur hgc
            obtain ⟨cur4, h8, h9⟩ := hk
            rw [h8] at hg3
            injection hg3 with hg3
            injection hg3 with hg3
            rw [← hg3, h9]
          omega
      have := leafE_set (x := ⟨s, x⟩) (n := n1) (g := gg) (cur := cur) (by rw [← e2]; exact hS) ⟨by show s.size ≤ _; omega, hx⟩ hgc hfit2
      obtain ⟨l', hl', hlf, hsw⟩ := this
      exact ⟨l', hl', by rw [size_setCells_w]; exact hlf, hsw⟩
    · refine ⟨m.fSafe, rfl, ?_, by omega⟩
      have hlf := ownS.leaf oEntry_good (by rw [← e2]; exact hS)
      exact LeafL.mono rEntry_good (LeafL.below rEntry_good hlf hb) hb.size
  obtain ⟨S', hSl, hSr, hSw⟩ := hsafe
  refine ⟨r, q, { m with fNames := m.fNames ++ [⟨s, x⟩], fSafe := S' }, rfl, ?_, ?_, ?_, ?_, ?_, ?_⟩
  · exact h.d.turn hT1 (fun hm => (hblk bd (by simpa using hm)).2.1 rfl)
  · exact h.r.turn hT1 (fun hm => (hblk br (by simpa using hm)).2.2 rfl)
  · obtain ⟨a0', c0', hv0, hl0⟩ := ownS.read oInode_good hI'
    obtain ⟨a1', c1', hv1, hl1⟩ := ownS.read oEntry_good ho'
    injection hv0 with x0 y0 z0
    injection hv1 with x1 y1 z1
    refine ⟨a0', c0', a1', c1', a2, c2, ?_, hl0, hl1, hSr, hzw, trivial⟩
    show _ = [Value.slice a0' m.fInodes.length c0', .slice a1' (m.fNames ++ [(⟨s, x⟩ : MEntry)]).length c1', .slice a2 S'.length c2, .int .i64 m.fNext]
    rw [x0, y0, z0, x1, y1, z1, hSl, e2, e3]
  · have hsum : sumW wEntry (m.fNames ++ [⟨s, x⟩]) = sumW wEntry m.fNames + s.size := by
      have key : ∀ l : List MEntry, sumW wEntry (l ++ [⟨s, x⟩]) = sumW wEntry l + s.size := by
        intro l
        induction l with
        | nil => simp [sumW, wEntry]
        | cons y r ih => simp only [List.cons_append, sumW, ih]; omega
      exact key _
    rw [wDisk_eq]
    simp only [List.length_append, List.length_cons, List.length_nil]
    rw [hsum]
    omega
  · obtain ⟨a, n, cap, B, zs, f1, f2, f3, f4, ⟨i, qq, f5, f6, f7⟩, f8⟩ := h.c
    have hz := h.t.size
    refine ⟨a, n, cap, B, zs, f1, f2, f3, f4.below (hT1.below (fun k hk => by have := (hblk k (by simpa using hk)).1; omega) (by omega)), ⟨i, qq, f5, f6, ?_⟩, Nat.lt_of_lt_of_le f8 hT1.size⟩
    rw [hT1.block g f8 (fun hm => by have := (hblk g (by simpa using hm)).1; omega)]
    exact f7
  · exact h.t.join hT1 (fun k hk => .inr (hblk k (by simpa using hk)).1)
theorem leafB_cell {B : Nat} {p : Addr} {y : Int} {u : Value} {a : Option Addr} {c : Nat} {zs : List Int} (hc : W.cell? p = some (.int .i64 y)) (hl : LeafB B W a c zs) : LeafB B (W.setCell p u) a c zs := by
  refine ⟨hl.1, hl.2.1, fun j hj => ?_, hl.2.2.2⟩
  obtain ⟨b, off, e, hB, h1⟩ := hl.2.2.1 j hj
  refine ⟨b, off, e, hB, ?_⟩
  rw [World.cell?_setCell_other _ _ _ _ (fun h => by rw [h, h1] at hc; cases hc)]
  exact h1
theorem leafE_cell {B gI : Nat} {y : Int} {u : Value} {ad : Option Addr} {k q : Nat} {a : Option Addr} {c : Nat} {l : List MEntry} (hc : W.cell? ⟨gI, 2, none⟩ = some (.int .i64 y)) (hd : W.cell? ⟨gI, 1, none⟩ = some (.slice ad k q)) (hl : LeafL 2 rEntry B W a c l) : LeafL 2 rEntry B (W.setCell ⟨gI, 2, none⟩ u) a c l := by
  refine ⟨hl.1, hl.2.1, fun j hj => ?_⟩
  obtain ⟨b, off, e, hB, cs, h1, h2, h3⟩ := hl.2.2 j hj
  obtain ⟨rfl, h4, h5, _⟩ := h3
  have k0 := h2 0 _ rfl
  have k1 := h2 1 _ rfl
  refine ⟨b, off, e, hB, _, h1, fun i v hv => ?_, rfl, h4, h5, trivial⟩
  rw [World.cell?_setCell_other _ _ _ _ (fun h => ?_)]
  · exact h2 i v hv
  · injection h with hb ho
    subst hb
    match i, hv with
    | 0, hv => rw [← ho, hc] at k0; cases k0
    | 1, hv =>
      have : off + j * 2 + 0 = 1 := by omega
      rw [this, hd] at k0
      cases k0
/-- The first inode's number of sure bytes is written. -/
theorem DSt.sure (hp : DPl w g br bd) (h : DSt w g br bd W [.slice a0 n0 c0, .slice a1 n1 c1, .slice a2 n2 c2, .int .i64 z] m) (h0 : 0 < n0) : ∃ gI, a0 = some ⟨gI, 0, none⟩ ∧ (∃ u, W.cell? ⟨gI, 2, none⟩ = some u) ∧ W.frozen? ⟨gI, 2, none⟩ = false ∧ gI < W.heap.size ∧
    ∀ j : Int, (Lit.int .i64 j).wf = true → ∃ m', ESt w g br bd (W.setCell ⟨gI, 2, none⟩ (.int .i64 j)) [.slice a0 n0 c0, .slice a1 n1 c1, .slice a2 n2 c2, .int .i64 z] m' := by
  obtain ⟨e0, e1, e2, e3, F0, F1, F2, hI, hN, hS, hzw, hF⟩ := h.rows
  have hn1 := hp.g
  have hn2 := hp.r
  have hn3 := hp.d
  have hlI := ownS.leaf oInode_good (by rw [← e0]; exact hI)
  have hlN := ownS.leaf oEntry_good (by rw [← e1]; exact hN)
  have hlS := ownS.leaf oEntry_good (by rw [← e2]; exact hS)
  rcases hI with ⟨_, hl, _⟩ | ⟨gI, cap, cur, Fs, hv, hg, _, _, _, _, _, hFe⟩
  · rw [e0, hl] at h0; simp at h0
  · injection hv with hv _ _
    subst hv
    have hgF := hF gI (by simp [hFe])
    obtain ⟨b, off, he, hB, cs, h1, h2, ad, cd, rfl, i1, i2, i3, _⟩ := hlI.2.2 0 (by omega)
    injection he with he
    injection he with he1 he2
    subst he1
    subst he2
    have k1 := h2 1 _ rfl
    have k2 := h2 2 _ rfl
    simp only [Nat.zero_mul, Nat.zero_add] at k1 k2
    refine ⟨gI, rfl, ⟨_, k2⟩, frozen_of_row W gI 2 _ _ hg, hB, fun j hj => ?_⟩
    have hT := turn_one W gI 2 (.int .i64 j)
    have hz : (W.setCell ⟨gI, 2, none⟩ (.int .i64 j)).heap.size = W.heap.size := by simp
    refine ⟨{ m with fInodes := m.fInodes.set 0 { m.fInodes[0] with fSure := j } }, h.d.turn hT (by simp; exact fun h => hgF.2.1 h.symm), h.r.turn hT (by simp; exact fun h => hgF.2.2 h.symm), ?_, ?_, h.c.turn hT (by omega), h.t.join hT (fun k hk => by simp at hk; right; omega)⟩
    · rw [hz]
      refine ⟨some ⟨gI, 0, none⟩, c0, a1, c1, a2, c2, ?_, ⟨by simpa using hlI.1, hlI.2.1, fun k hk => ?_⟩, leafE_cell k2 k1 hlN, leafE_cell k2 k1 hlS, hzw, trivial⟩
      · show _ = [Value.slice (some ⟨gI, 0, none⟩) (m.fInodes.set 0 _).length c0, .slice a1 m.fNames.length c1, .slice a2 m.fSafe.length c2, .int .i64 m.fNext]
        rw [List.length_set, e0, e1, e2, e3]
      · have hk' : k < m.fInodes.length := by simpa using hk
        obtain ⟨b', off', he', hB', cs', g1, g2, ad', cd', rfl, j1, j2, j3, _⟩ := hlI.2.2 k hk'
        injection he' with he'
        injection he' with q1 q2
        subst q1
        subst q2
        by_cases hk0 : k = 0
        · subst hk0
          refine ⟨gI, 0, rfl, hB, [.int .i64 m.fInodes[0].fId, .slice ad' m.fInodes[0].fData.length cd', .int .i64 j], rfl, ?_, ?_⟩
          · intro i v hv
            match i, hv with
            | 0, hv => rw [World.cell?_setCell_other _ _ _ _ (by simp)]; exact g2 0 v hv
            | 1, hv => rw [World.cell?_setCell_other _ _ _ _ (by simp)]; exact g2 1 v hv
            | 2, hv =>
              simp at hv
              subst hv
              exact World.cell?_setCell_same _ _ _ k2
          · have hx : (m.fInodes.set 0 { m.fInodes[0] with fSure := j })[0] = { m.fInodes[0] with fSure := j } := by simp
            rw [hx]
            exact ⟨ad', cd', rfl, j1, leafB_cell k2 j2, hj, trivial⟩
        · refine ⟨gI, 0, rfl, hB, _, g1, ?_, ?_⟩
          · intro i v hv
            rw [World.cell?_setCell_other _ _ _ _ (by intro hh; injection hh with _ hh; omega)]
            exact g2 i v hv
          · have hx : (m.fInodes.set 0 { m.fInodes[0] with fSure := j })[k] = m.fInodes[k] := List.getElem_set_ne (fun hh => hk0 hh.symm) _
            rw [hx]
            exact ⟨ad', cd', rfl, j1, leafB_cell k2 j2, j3, trivial⟩
    · have hfit := h.f.small
      rw [wDisk_eq] at hfit ⊢
      have hs : sumW wInode (m.fInodes.set 0 { m.fInodes[0] with fSure := j }) = sumW wInode m.fInodes := by
        have key : ∀ (l : List MInode) (hl : 0 < l.length), sumW wInode (l.set 0 { l[0] with fSure := j }) = sumW wInode l := by
          intro l hl
          cases l with
          | nil => simp at hl
          | cons y r => rfl
        exact key _ _
      simp only [List.length_set]
      rw [hs]
      exact hfit
end

end Go.Proofs.Ytmbobjhplkpfoaa
