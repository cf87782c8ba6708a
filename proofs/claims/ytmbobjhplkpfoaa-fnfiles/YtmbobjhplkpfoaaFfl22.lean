/-
  Part 23 of the texts that the proof leans on.
-/
import Derived.Test.YtmbobjhplkpfoaaFfl9
import Derived.Test.YtmbobjhplkpfoaaFfl0
import Derived.Test.YtmbobjhplkpfoaaFfl19
import Derived.Test.YtmbobjhplkpfoaaFfl14
import Derived.Test.YtmbobjhplkpfoaaFfl12
import Derived.Test.YtmbobjhplkpfoaaFfl2
import Derived.Test.YtmbobjhplkpfoaaFfl1
import Derived.Test.YtmbobjhplkpfoaaFfl3
import Derived.Test.YtmbobjhplkpfoaaRows
import Derived.ProofKit
set_option linter.unusedVariables false
set_option linter.unusedSimpArgs false
set_option maxRecDepth 10000

namespace Go.Proofs.Ytmbobjhplkpfoaa
open Go.RowKit

/-- What the rows of one's own are made of. -/
theorem own_typed {α : Type} {size : Nat} {e : TypeId} {O : ORep α} {w : World} {v : Value} {l : List α} {F : List Nat} (h : ownS size e O w v l F) : ∀ b, v.ownBlock = some b → b ∈ F ∧ ∃ cur, w.heap[b]? = some (.cells cur e (0, 0)) := by
  rcases h with ⟨rfl, _, _⟩ | ⟨g, cap, cur, Fs, rfl, hg, _, _, _, _, _, rfl⟩
  · intro b hb; simp [Value.ownBlock] at hb
  · intro b hb; simp [Value.ownBlock] at hb; subst hb; exact ⟨by simp, cur, hg⟩
theorem inode_typed {w : World} {v : Value} {l : List MInode} {F : List Nat} (h : ownS 3 56 oInode w v l F) : ∀ b, b ∈ F → ∃ cur e, w.heap[b]? = some (.cells cur e (0, 0)) ∧ e ≠ 61 := by
  rcases h with ⟨rfl, _, rfl⟩ | ⟨g, cap, cur, Fs, rfl, hg, _, _, _, hfl, heach, rfl⟩
  · intro b hb; cases hb
  · intro b hb
    rcases List.mem_cons.1 hb with rfl | hb
    · exact ⟨cur, _, hg, by decide⟩
    · obtain ⟨j, hj, hjb⟩ := of_mem_flatten hb
      obtain ⟨v1, F1, _, _, ⟨ho, _, hF1⟩, _, hF⟩ := heach j (by omega)
      rw [hF, List.append_nil, hF1] at hjb
      rcases ho.2 with ⟨rfl, _⟩ | ⟨g1, cap1, cur1, rfl, _, hg1, _⟩
      · simp [Value.ownBlock] at hjb
      · simp [Value.ownBlock] at hjb
        subst hjb
        exact ⟨cur1, _, hg1, by decide⟩
theorem entry_nodup {w : World} {v : Value} {l : List MEntry} {F : List Nat} (h : ownS 2 61 oEntry w v l F) : F.Nodup := by
  rcases h with ⟨rfl, _, rfl⟩ | ⟨g, cap, cur, Fs, rfl, hg, _, _, _, hfl, heach, rfl⟩
  · simp
  · have hz : Fs.flatten = [] := by
      cases hF : Fs.flatten with
      | nil => rfl
      | cons x r =>
        obtain ⟨j, hj, hjb⟩ := of_mem_flatten (show x ∈ Fs.flatten by rw [hF]; simp)
        obtain ⟨_, _, _, he⟩ := heach j (by omega)
        rw [he] at hjb
        cases hjb
    rw [hz]
    simp

/-- A row of entries into which one entry is written somewhere: entries still. -/
theorem leafE_set {w : World} {a : Option Addr} {c : Nat} {l : List MEntry} {F : List Nat} {g n : Nat} {cur : Array Value} {x : MEntry} (ho : ownS 2 61 oEntry w (.slice a l.length c) l F) (hx : x.fName.size ≤ 9223372036854775807 ∧ (Lit.int .i64 x.fId).wf = true) (hg : w.heap[g]? = some (.cells cur 61 (0, 0))) (hfit : n * 2 + 2 ≤ cur.size) :
    ∃ l', l'.length = l.length ∧ LeafL 2 rEntry w.heap.size (w.setCells g (n * 2) [.string x.fName, .int .i64 x.fId]) a c l' ∧ sumW wEntry l' ≤ sumW wEntry l + x.fName.size := by
  have hlf := ownS.leaf oEntry_good ho
  by_cases hag : ∃ o, a = some ⟨g, o, none⟩
  · obtain ⟨o, rfl⟩ := hag
    have ho0 : l ≠ [] → o = 0 := by
      intro hne
      rcases ho with ⟨h, hl, _⟩ | ⟨g2, cap2, cur2, Fs2, h, _⟩
      · exact absurd hl hne
      · injection h with h1; injection h1 with h1; injection h1
    refine ⟨l.set n x, by simp, ⟨by simpa using hlf.1, hlf.2.1, fun j hj => ?_⟩, ?_⟩
    · have hj' : j < l.length := by simpa using hj
      have hoz : o = 0 := ho0 (by intro h; subst h; simp at hj')
      subst hoz
      obtain ⟨b, off, he, hB, cs, h1, h2, h3⟩ := hlf.2.2 j hj'
      injection he with he
      injection he with he1 he2
      subst he1
      subst he2
      have hin := World.cell?_setCells_in g [.string x.fName, .int .i64 x.fId] (n * 2) w (fun k hk => by
        rw [cell_of_row w g _ cur _ (0, 0) hg, Array.getElem?_eq_getElem (by simp at hk; omega)]; rfl)
      by_cases hjn : j = n
      · subst hjn
        refine ⟨g, 0, rfl, hB, [.string x.fName, .int .i64 x.fId], rfl, ?_, ?_⟩
        · intro i u hu
          match i, hu with
          | 0, hu => simp at hu; subst hu; have := hin 0 (by simp); simpa using this
          | 1, hu => simp at hu; subst hu; have := hin 1 (by simp); simpa using this
        · have : (l.set j x)[j] = x := by simp
          rw [this]
          exact ⟨rfl, hx.1, hx.2, trivial⟩
      · refine ⟨g, 0, rfl, hB, cs, h1, ?_, ?_⟩
        · intro i u hu
          have hi : i < 2 := by rw [← h1]; exact (List.getElem?_eq_some_iff.1 hu).1
          rw [World.cell?_setCells_out g _ _ w ⟨g, 0 + j * 2 + i, none⟩ (fun _ _ => by simp; omega)]
          exact h2 i u hu
        · have : (l.set n x)[j] = l[j] := List.getElem_set_ne (fun h => hjn h.symm) _
          rw [this]
          obtain ⟨e1, e2, e3, _⟩ := h3
          exact ⟨e1, e2, e3, trivial⟩
    · have key : ∀ (q : List MEntry) (k : Nat), sumW wEntry (q.set k x) ≤ sumW wEntry q + x.fName.size := by
        intro q
        induction q with
        | nil => intro k; simp [sumW]
        | cons y r ih =>
          intro k
          cases k with
          | zero => simp only [List.set_cons_zero, sumW, wEntry]; omega
          | succ k => have := ih k; simp only [List.set_cons_succ, sumW]; omega
      exact key l n
  · refine ⟨l, rfl, ⟨hlf.1, hlf.2.1, fun j hj => ?_⟩, by omega⟩
    obtain ⟨b, off, he, hB, cs, h1, h2, h3⟩ := hlf.2.2 j hj
    have hbg : b ≠ g := fun h => hag ⟨off, by rw [he, h]⟩
    refine ⟨b, off, he, hB, cs, h1, fun i u hu => ?_, ?_⟩
    · rw [World.cell?_setCells_out g _ _ w ⟨b, _, none⟩ (fun h _ => absurd h hbg)]
      exact h2 i u hu
    · obtain ⟨e1, e2, e3, _⟩ := h3
      exact ⟨e1, e2, e3, trivial⟩


/-- The disk in its box, as it is read. -/
structure ESt (w : World) (g br bd : Nat) (W : World) (cs : List Value) (m : MDisk) : Prop where
  d : Bw W bd 27 cs
  r : Bw W br 27 dZ
  k : rDisk W.heap.size W cs m
  s : wDisk m ≤ 1048576
  c : CurOk W g
  t : Turn [g] w W
section
variable {w : World} {g br bd : Nat} {W W' : World} {cs : List Value} {m : MDisk} {a0 a1 a2 : Option Addr} {n0 c0 n1 c1 n2 c2 : Nat} {z : Int}
theorem DSt.e (h : DSt w g br bd W cs m) : ESt w g br bd W cs m := ⟨h.d, h.r, h.read, h.f.small, h.c, h.t⟩
theorem DSt.rows (h : DSt w g br bd W [.slice a0 n0 c0, .slice a1 n1 c1, .slice a2 n2 c2, .int .i64 z] m) :
    n0 = m.fInodes.length ∧ n1 = m.fNames.length ∧ n2 = m.fSafe.length ∧ z = m.fNext ∧ ∃ F0 F1 F2, ownS 3 56 oInode W (.slice a0 n0 c0) m.fInodes F0 ∧ ownS 2 61 oEntry W (.slice a1 n1 c1) m.fNames F1 ∧ ownS 2 61 oEntry W (.slice a2 n2 c2) m.fSafe F2 ∧ (Lit.int .i64 m.fNext).wf = true ∧ ∀ b, b ∈ F0 ++ F1 ++ F2 → w.heap.size ≤ b ∧ b ≠ bd ∧ b ≠ br := by
  obtain ⟨F, ho, hF⟩ := h.o
  obtain ⟨a0', c0', a1', c1', a2', c2', F0, F1, F2, hc, h0, h1, h2, h3, rfl⟩ := oDisk_cells ho
  injection hc with e0 hc
  injection hc with e1 hc
  injection hc with e2 hc
  injection hc with e3 _
  injection e0 with x0 y0 z0
  injection e1 with x1 y1 z1
  injection e2 with x2 y2 z2
  injection e3 with _ e3
  refine ⟨y0, y1, y2, e3, F0, F1, F2, ?_, ?_, ?_, h3, fun b hb => hF b (by simpa using hb)⟩
  · rw [x0, y0, z0]; exact h0
  · rw [x1, y1, z1]; exact h1
  · rw [x2, y2, z2]; exact h2
theorem dbox4 {t : TypeId} (h : Bw W bd t [.slice a0 n0 c0, .slice a1 n1 c1, .slice a2 n2 c2, .int .i64 z]) : DBox W bd := ⟨t, _, _, _, _, _, _, _, _, _, _, h⟩
theorem turn_one (w : World) (b i : Nat) (u : Value) : Turn [b] w (w.setCell ⟨b, i, none⟩ u) := (Turn.refl _ _).setCell (by simp) _
/-- One cell of the disk's box is written. -/
theorem ESt.put {i : Nat} {u : Value} {cs' : List Value} {m' : MDisk} (hp : DPl w g br bd) (hd : Bw W bd 27 [.slice a0 n0 c0, .slice a1 n1 c1, .slice a2 n2 c2, .int .i64 z]) (hr : Bw W br 27 dZ) (hk : rDisk W.heap.size W cs' m') (hs : wDisk m' ≤ 1048576) (hc : CurOk W g) (ht : Turn [g] w W) (hcs : [.slice a0 n0 c0, .slice a1 n1 c1, .slice a2 n2 c2, .int .i64 z].set i u = cs') :
    ESt w g br bd (W.setCell ⟨bd, i, none⟩ u) cs' m' := by
  have h1 := hp.g
  have h2 := hp.r
  have h3 := hp.d
  have h4 := hp.n
  have hT := turn_one W bd i u
  refine ⟨by rw [← hcs]; exact hd.put i u, hr.turn hT (by simp; omega), ?_, hs, hc.turn hT (by omega), ht.join hT (fun k hk => by simp at hk; right; omega)⟩
  have hz : (W.setCell ⟨bd, i, none⟩ u).heap.size = W.heap.size := by simp
  rw [hz]
  exact rDisk_turn (dbox4 hd) hT hk
theorem ESt.leave (hp : DPl w g br bd) (h : ESt w g br bd W cs m) (hT : Turn [br] W W') (hz : W'.heap.size = W.heap.size) : rDisk W'.heap.size W' cs m ∧ wDisk m ≤ 1048576 ∧ CurOk W' g ∧ Turn [g] w W' := by
  have h1 := hp.g
  have h2 := hp.r
  refine ⟨?_, h.s, h.c.turn hT (by omega), h.t.join hT (fun k hk => by simp at hk; right; omega)⟩
  rw [hz]
  exact rDisk_turn (Bw.dzero h.r) hT h.k
theorem DSt.next (h : DSt w g br bd W [.slice a0 n0 c0, .slice a1 n1 c1, .slice a2 n2 c2, .int .i64 z] m) {j : Int} (hj : (Lit.int .i64 j).wf = true) : rDisk W.heap.size W [.slice a0 n0 c0, .slice a1 n1 c1, .slice a2 n2 c2, .int .i64 j] { m with fNext := j } ∧ wDisk { m with fNext := j } ≤ 1048576 := by
  obtain ⟨b0, d0, b1, d1, b2, d2, hc, h0, h1, h2, h3, _⟩ := h.read
  injection hc with e0 hc
  injection hc with e1 hc
  injection hc with e2 hc
  exact ⟨⟨b0, d0, b1, d1, b2, d2, by rw [e0, e1, e2], h0, h1, h2, hj, trivial⟩, h.f.small⟩
theorem setCells_len (g : Nat) (e : TypeId) : ∀ (news : List Value) (o : Nat) (w : World) (cur : Array Value), w.heap[g]? = some (.cells cur e (0, 0)) → ∃ cur' : Array Value, (w.setCells g o news).heap[g]? = some (.cells cur' e (0, 0)) ∧ cur'.size = cur.size
  | [], o, w, cur, hg => ⟨cur, hg, rfl⟩
  | u :: r, o, w, cur, hg => by
    obtain ⟨cur', h2, h3⟩ := setCells_len g e r (o + 1) (w.setCell ⟨g, o, none⟩ u) (cur.setIfInBounds o u) (heap_setCell_same w g o cur e u hg)
    exact ⟨cur', h2, by simpa using h3⟩
/-- One more name. -/
theorem DSt.push (hp : DPl w g br bd) (h : DSt w g br bd W [.slice a0 n0 c0, .slice a1 n1 c1, .slice a2 n2 c2, .int .i64 z] m) : n1 ≤ 1000000 ∧ ∃ xs, W.ownsRow 0 61 2 (.slice a1 n1 c1) n1 xs ∧
    ∀ (v' : Value) (W' : World) (s : ByteArray) (x : Int), s.size ≤ 20 → (Lit.int .i64 x).wf = true → W'.ownsRow 0 61 2 v' (n1 + 1) (xs ++ [.string s, .int .i64 x]) → W.grownBy W' (Value.ownBlock (.slice a1 n1 c1)) → (v'.ownBlock = Value.ownBlock (.slice a1 n1 c1) ∨ v'.ownBlock = some W.heap.size) →
      ((∃ gg cap, Value.slice a1 n1 c1 = .slice (some ⟨gg, 0, none⟩) n1 cap ∧ W' = W.setCells gg (n1 * 2) [.string s, .int .i64 x]) ∨ Below W.heap.size W W') →
      ∃ (r : Option Addr) (q : Nat) (m' : MDisk), v' = .slice r (n1 + 1) q ∧ Bw W' bd 27 [.slice a0 n0 c0, .slice a1 n1 c1, .slice a2 n2 c2, .int .i64 z] ∧ Bw W' br 27 dZ ∧ rDisk W'.heap.size W' [.slice a0 n0 c0, .slice r (n1 + 1) q, .slice a2 n2 c2, .int .i64 z] m' ∧ wDisk m' ≤ 1048576 ∧ CurOk W' g ∧ Turn [g] w W' := by
  have hfit := h.f
  unfold Fit at hfit
  rw [wDisk_eq] at hfit
  obtain ⟨e0, e1, e2, e3, F0, F1, F2, hI, hN, hS, hzw, hF⟩ := h.rows
  have hn1 := hp.g
  have hn2 := hp.r
  have hn3 := hp.d
  refine ⟨by omega, ?_⟩
  obtain ⟨xs, hxs, hpush⟩ := ownS.push oEntry_good hN (entry_nodup hN)
  rw [← e1] at hxs
  refine ⟨xs, hxs, ?_⟩
  intro v' W' s x hs hx hown hgr hat htwo
  obtain ⟨r, q, rfl⟩ := own_slice hown
  obtain ⟨F', ho', _, _⟩ := hpush W' _ _ ⟨s, x⟩ [] (by rw [← e1]; exact hown) hgr hat ⟨rfl, (show s.size ≤ 9223372036854775807 by omega), hx, rfl⟩ (by simp) (fun b hb => by cases hb)
  have hblk : ∀ b, Value.ownBlock (.slice a1 n1 c1) = some b → w.heap.size ≤ b ∧ b ≠ bd ∧ b ≠ br := fun b hb => hF b (by have := (own_typed hN b hb).1; simp [this])
  have hT1 : Turn (Value.ownBlock (.slice a1 n1 c1)).toList W W' := turnOwn hgr
  have hnI : ∀ b, b ∈ F0 → b ∉ (Value.ownBlock (.slice a1 n1 c1)).toList := by
    intro b hb hm
    have hm : Value.ownBlock (.slice a1 n1 c1) = some b := by simpa using hm
    obtain ⟨cur, hc1⟩ := (own_typed hN b hm).2
    obtain ⟨cur2, e, hc2, hne⟩ := inode_typed hI b hb
    rw [hc1] at hc2
    injection hc2 with hc2
    injection hc2 with _ hc2
    exact hne hc2.symm
  have hI' := ownS.frame (w' := W') oInode_good hI (fun b hb => hT1.block b (ownS.lt oInode_good hI b hb) (hnI b hb))
  have hsafe : ∃ S', S'.length = m.fSafe.length ∧ LeafL 2 rEntry W'.heap.size W' a2 c2 S' ∧ sumW wEntry S' ≤ sumW wEntry m.fSafe + s.size := by
    rcases htwo with ⟨gg, cap, hv, rfl⟩ | hb
    · obtain ⟨cur, hgc⟩ := (own_typed hN gg (by rw [hv]; rfl)).2
      have hfit2 : n1 * 2 + 2 ≤ cur.size := by
        rcases hown.2 with ⟨_, h0⟩ | ⟨g3, cap3, cur3, h3, _, hg3, hle3, _, hs3, _⟩
        · omega
        · injection h3 with h3 _ h5
          rw [h3] at hat
          have hg : g3 = gg := by
            rcases hat with h6 | h6
            · rw [hv] at h6
              simpa [Value.ownBlock] using h6
            · have h7 : g3 = W.heap.size := by simpa [Value.ownBlock] using h6
              rw [h7] at hg3
              have := (Array.getElem?_eq_some_iff.1 hg3).1
              rw [size_setCells_w] at this
              omega
          subst hg
          have hzz : cur3.size = cur.size := by
            have hk := setCells_len g3 _ [.string s, .int .i64 x] (n1 * 2) W cur hgc
            obtain ⟨cur4, h8, h9⟩ := hk
            rw [h8] at hg3
            injection hg3 with hg3
            injection hg3 with hg3
            rw [← hg3, h9]
          omega
      have := leafE_set (x := ⟨s, x⟩) (n := n1) (g := gg) (cur := cur) (by rw [← e2]; exact hS) ⟨by show s.size ≤ _; omega, hx⟩ hgc hfit2
      obtain ⟨l', hl', hlf, hsw⟩ := this
      exact ⟨l', hl', by rw [size_setCells_w]; exact hlf, hsw⟩
    · refine ⟨m.fSafe, rfl, ?_, by omega⟩
      have hlf := ownS.leaf oEntry_good (by rw [← e2]; exact hS)
      exact LeafL.mono rEntry_good (LeafL.below rEntry_good hlf hb) hb.size
  obtain ⟨S', hSl, hSr, hSw⟩ := hsafe
  refine ⟨r, q, { m with fNames := m.fNames ++ [⟨s, x⟩], fSafe := S' }, rfl, ?_, ?_, ?_, ?_, ?_, ?_⟩
  · exact h.d.turn hT1 (fun hm => (hblk bd (by simpa using hm)).2.1 rfl)
  · exact h.r.turn hT1 (fun hm => (hblk br (by simpa using hm)).2.2 rfl)
  · obtain ⟨a0', c0', hv0, hl0⟩ := ownS.read oInode_good hI'
    obtain ⟨a1', c1', hv1, hl1⟩ := ownS.read oEntry_good ho'
    injection hv0 with x0 y0 z0
    injection hv1 with x1 y1 z1
    refine ⟨a0', c0', a1', c1', a2, c2, ?_, hl0, hl1, hSr, hzw, trivial⟩
    show _ = [Value.slice a0' m.fInodes.length c0', .slice a1' (m.fNames ++ [(⟨s, x⟩ : MEntry)]).length c1', .slice a2 S'.length c2, .int .i64 m.fNext]
    rw [x0, y0, z0, x1, y1, z1, hSl, e2, e3]
  · have hsum : sumW wEntry (m.fNames ++ [⟨s, x⟩]) = sumW wEntry m.fNames + s.size := by
      have key : ∀ l : List MEntry, sumW wEntry (l ++ [⟨s, x⟩]) = sumW wEntry l + s.size := by
        intro l
        induction l with
        | nil => simp [sumW, wEntry]
        | cons y r ih => simp only [List.cons_append, sumW, ih]; omega
      exact key _
    rw [wDisk_eq]
    simp only [List.length_append, List.length_cons, List.length_nil]
    rw [hsum]
    omega
  · obtain ⟨a, n, cap, B, zs, f1, f2, f3, f4, ⟨i, qq, f5, f6, f7⟩, f8⟩ := h.c
    have hz := h.t.size
    refine ⟨a, n, cap, B, zs, f1, f2, f3, f4.below (hT1.below (fun k hk => by have := (hblk k (by simpa using hk)).1; omega) (by omega)), ⟨i, qq, f5, f6, ?_⟩, Nat.lt_of_lt_of_le f8 hT1.size⟩
    rw [hT1.block g f8 (fun hm => by have := (hblk g (by simpa using hm)).1; omega)]
    exact f7
  · exact h.t.join hT1 (fun k hk => .inr (hblk k (by simpa using hk)).1)
end

end Go.Proofs.Ytmbobjhplkpfoaa

namespace Go.Proofs.Ytmbobjhplkpfoaa
open Go.RowKit
theorem DSt.below {w : World} {g br bd : Nat} {W W' : World} {cs : List Value} {m : MDisk} (h : DSt w g br bd W cs m) (hx : Below W.heap.size W W') : DSt w g br bd W' cs m := by
  refine ⟨h.d.under hx, h.r.under hx, ?_, h.f, h.c.below hx, h.t.trans (Turn.ofBelow hx)⟩
  obtain ⟨F, ho, hF⟩ := h.o
  exact ⟨F, oDisk_good.frame ho (fun b hb => hx.block b (oDisk_good.lt ho b hb)), hF⟩
section
variable {B : Nat} {W W' : World} {g : Nat}
theorem CurOk.at (h : CurOk W g) (k : Nat) : (k = 0 ∧ ∃ a n c, W.cell? ⟨g, k, none⟩ = some (.slice a n c)) ∨ ((k = 1 ∨ k = 2) ∧ ∃ z, W.cell? ⟨g, k, none⟩ = some (.int .i64 z)) ∨ (3 ≤ k ∧ W.cell? ⟨g, k, none⟩ = none) := by
  obtain ⟨a, n, cap, B, zs, _, _, _, _, ⟨i, q, _, _, hg⟩, _⟩ := h
  have hc := cell_of_row W g k _ _ (0, 0) hg
  rw [hc]
  match k with
  | 0 => exact .inl ⟨rfl, _, _, _, rfl⟩
  | 1 => exact .inr (.inl ⟨.inl rfl, _, rfl⟩)
  | 2 => exact .inr (.inl ⟨.inr rfl, _, rfl⟩)
  | k + 3 => exact .inr (.inr ⟨by omega, rfl⟩)
end
theorem rdisk_four {W : World} {cs : List Value} {m : MDisk} {B : Nat} (h : rDisk B W cs m) : ∃ a0 n0 c0 a1 n1 c1 a2 n2 c2 z, cs = [.slice a0 n0 c0, .slice a1 n1 c1, .slice a2 n2 c2, .int .i64 z] := by
  obtain ⟨a0, c0, a1, c1, a2, c2, hc, _⟩ := h
  exact ⟨a0, _, c0, a1, _, c1, a2, _, c2, _, hc⟩

end Go.Proofs.Ytmbobjhplkpfoaa

namespace Go.Proofs.Ytmbobjhplkpfoaa
open Go.RowKit Go.Maps

set_option maxHeartbeats 4000000 in
theorem implAppend_b (cs : List Value) (m : MDisk) (s : ByteArray) (vb : Value) (zb : List Int) (w : World) (hr : rDisk w.heap.size w cs m) (hs : s.size ≤ 9223372036854775807) (hrb : rdB w.heap.size w vb zb) (hw : wDisk m ≤ 1048576) (hw1 : s.size ≤ 1048576) (hwb : zb.length ≤ 2097152) :
    Calls Try.prog 11 #[.agg cs.toArray, .string s, vb] w fun e w' => ∃ (cs' : List Value) (F : List Nat), e = .returned (.tuple #[.agg cs'.toArray, .int .i64 (appendC m s zb)]) ∧ oDisk w' cs' (appendP m s zb) F ∧ F.Nodup ∧ (∀ b, b ∈ F → w.heap.size ≤ b) ∧ Below w.heap.size w w' := by
  obtain ⟨ab, cb, rfl, hlb⟩ := hrb
  have HLB := Hid.mk hlb
  clear hlb
  have hq := hr
  obtain ⟨a0, c0, a1, c1, a2, c2, rfl, hI, hNm, hSf, hnx, _⟩ := hq
  have hw2 : m.fInodes.length + sumW wInode m.fInodes + (m.fNames.length + sumW wEntry m.fNames) + (m.fSafe.length + sumW wEntry m.fSafe) ≤ 1048576 := hw
  have HW := Hid.mk hw
  have HR := Hid.mk hr
  clear hr hI hNm hSf hw
  go_enter Try.func11, Try.ntmps11
  go_wp2_with fail
  obtain ⟨wq, hwq⟩ : ∃ wq, wq = ((w.alloc (.cells #[.slice a0 m.fInodes.length c0, .slice a1 m.fNames.length c1, .slice a2 m.fSafe.length c2, .int .i64 m.fNext] 27)).alloc (.cells #[.slice none 0 0, .slice none 0 0, .slice none 0 0, .int .i64 0] 27)) := ⟨_, rfl⟩
  have hbW : Below w.heap.size w wq := by rw [hwq]; exact Below.alloc (Below.alloc (Below.refl _ _) (by exact Nat.le_refl _) _) (by simp; try omega) _
  have hbd : Bw wq (w.heap.size) 27 [.slice a0 m.fInodes.length c0, .slice a1 m.fNames.length c1, .slice a2 m.fSafe.length c2, .int .i64 m.fNext] := by rw [hwq]; exact Bw.alloc (Bw.new' _ _ _ (by simp)) _
  have hbr : Bw wq (w.heap.size + 1) 27 [.slice none 0 0, .slice none 0 0, .slice none 0 0, .int .i64 0] := by rw [hwq]; exact Bw.new' _ _ _ (by simp)
  rw [← hwq]
  clear hwq
  refine (findFile_any _ m s wq (rDisk_good.mono (rDisk_good.below HR.out hbW) hbW.size) HW.out hs).mono ?_
  rintro e w1 ⟨p, rfl, hp, hx1⟩
  have HP := Hid.mk hp
  clear hp
  have hb1 := bthen hbW hx1
  have hbd1 := hbd.under hx1
  have hbr1 := hbr.under hx1
  have hl1 := hbr1.lt
  have hl1d := hbd1.lt
  have hzW := hb1.size
  have y0 := hbd1.cell 0 _ rfl
  have y1 := hbd1.cell 1 _ rfl
  have y2 := hbd1.cell 2 _ rfl
  have y3 := hbd1.cell 3 _ rfl
  clear hbd hbr
  by_cases hC : callP m s = 0
  · obtain ⟨hpl, hpi⟩ := HP.out hC
    have HPF := Hid.mk (file_only hC hpl hpi)
    have hwt := ok_weight (call_good hC).1
    obtain ⟨n, hn⟩ : ∃ n, n = appendD m s zb := ⟨_, rfl⟩
    have hnl : n.fInodes.length = m.fInodes.length := by rw [hn]; exact updI_length
    have hwn : wDisk n ≤ 16777216 := by
      rw [hn]
      unfold appendD
      rw [wDisk_eq]
      have h1 := sumW_updI (l := m.fInodes) (k := fileAt m s) (f := longI zb) (c := zb.length) (fun x => by unfold longI wInode; simp)
      have h2 := updI_length (l := m.fInodes) (k := fileAt m s) (f := longI zb)
      simp only [h2]
      omega
    have HV : Hid (appendP m s zb = fullD m n ∧ appendC m s zb = fullC n) := by
      refine ⟨?_, ?_⟩
      · unfold appendP fullD; rw [hn, hC]; simp
      · unfold appendC fullC; rw [hn, hC]; simp
    have HNX : Hid (n = { m with fInodes := updI m.fInodes p (longI zb) } ∧ n.fNames = m.fNames ∧ n.fSafe = m.fSafe ∧ n.fNext = m.fNext) := by rw [hn]; refine ⟨?_, rfl, rfl, rfl⟩; unfold appendD; rw [HPF.out]
    have HNL := Hid.mk hnl
    have HWN := Hid.mk hwn
    clear hn hnl hwn hpi HPF hwt
    rw [hC]
    go_wp2_with fail
    refine (copyDisk_any _ m w1 (rDisk_good.mono (rDisk_good.below HR.out hb1) hb1.size) HW.out).mono ?_
    rintro e w2 ⟨cs2, F2, rfl, ho2, hN2, hge2, hx2⟩
    obtain ⟨d0, e0, d1, e1, d2, e2, G0, G1, G2, rfl, o0, o1, o2, _, rfl⟩ := oDisk_cells ho2
    have HO0 := Hid.mk o0
    have HO1 := Hid.mk o1
    have HO2 := Hid.mk o2
    have HO := Hid.mk ho2
    have HN := Hid.mk hN2
    have HGE : Hid (∀ b, b ∈ G0 ++ G1 ++ G2 ++ [] → w1.heap.size ≤ b) := hge2
    have HLT : Hid (∀ b, b ∈ G0 ++ G1 ++ G2 ++ [] → b < w2.heap.size) := fun b hb => oDisk_good.lt ho2 b hb
    clear ho2 hN2 hge2 o0 o1 o2
    have hb2 := bthen hb1 hx2
    have hbr2 := hbr1.under hx2
    have hbd2 := hbd1.under hx2
    have hz2 := hx2.size
    obtain ⟨g, cap, hv, hgG, hgl⟩ := ownS.shape HO0.out (by omega)
    simp only [Value.slice.injEq, true_and] at hv
    obtain ⟨rfl, rfl⟩ := hv
    have hNN := HN.out
    rw [List.append_nil, List.append_assoc, List.nodup_append] at hNN
    obtain ⟨cs3, Fk, o3, n3, f3, _, c3, z3, hput⟩ := ownS.split oInode_good HO0.out hNN.1 hpl
    have HNN := Hid.mk hNN
    have HPUT := Hid.mk hput
    have HFK := Hid.mk f3
    have HNK := Hid.mk n3
    obtain ⟨v3, F3, hc3, i3, b3, s3, hF3⟩ := o3
    subst hc3
    obtain ⟨a3, l3, rfl, hlb3⟩ := b3.read
    have k1 := c3 1 _ rfl
    have r1 := z3 (p * 3 + 1)
    have hge1 := HGE.out g (by simp [hgG])
    have hdl : m.fInodes[p].fData.length ≤ 1048576 := by have h1 := sumW_le (f := wInode) hpl; have h2 : wInode m.fInodes[p] = m.fInodes[p].fData.length := rfl; omega
    have hpn : (0 : Int) ≤ (p : Int) := by omega
    have hpn2 : (p : Int) < (m.fInodes.length : Int) := by omega
    obtain ⟨nd, hnd⟩ : ∃ nd, nd = m.fInodes[p] := ⟨_, rfl⟩
    have HND := Hid.mk hnd
    rw [← hnd] at k1 hdl b3 i3 s3 hlb3 HPUT
    have HB3 := Hid.mk b3
    have HLB3 := Hid.mk hlb3
    have HI3 := Hid.mk i3
    have HS3 := Hid.mk s3
    clear c3 z3 hNN hput f3 n3 b3 hlb3 i3 s3 hnd
    have HPL := Hid.mk hpl
    clear y0 y1 y2 y3
    go_wp2_with fail
    obtain ⟨wo, hwo⟩ : ∃ wo, wo = w2.alloc (.cells #[.slice (some ⟨g, 0, none⟩) m.fInodes.length e0, .slice d1 m.fNames.length e1, .slice d2 m.fSafe.length e2, .int .i64 m.fNext] 27) := ⟨_, rfl⟩
    have hbo : Below w2.heap.size w2 wo := by rw [hwo]; exact (Below.refl _ _).alloc (Nat.le_refl _) _
    have hwb : Bw wo w2.heap.size 27 [.slice (some ⟨g, 0, none⟩) m.fInodes.length e0, .slice d1 m.fNames.length e1, .slice d2 m.fSafe.length e2, .int .i64 m.fNext] := by rw [hwo]; exact Bw.new _ _ _
    rw [← hwo]
    clear hwo
    have hbo1 := bthen hb2 hbo
    have hlD : LeafB wo.heap.size wo a3 l3 nd.fData := LeafB.mono (LeafB.below HLB3.out hbo) hbo.size
    have hlB : LeafB wo.heap.size wo ab cb zb := LeafB.mono (HLB.out.below hbo1) hbo1.size
    refine (joinBytes_any a3 ab l3 cb nd.fData zb wo hlD hlB (by omega) (by omega)).mono ?_
    rintro e w3 ⟨vj, Fj, rfl, hoj, hNj, hgej, hx3⟩
    obtain ⟨rj, qj, rfl, _⟩ := hoj.read
    obtain ⟨tl, htl⟩ : ∃ tl, (nd.fData ++ zb).length = tl := ⟨_, rfl⟩
    rw [htl] at hoj ⊢
    clear htl
    have hbo3 := bthen hbo hx3
    have hb3 := bthen hbo1 hx3
    have hwb3 := hwb.under hx3
    have hbd3 := hbd2.under hbo3
    have hbr3 := hbr2.under hbo3
    have k1o := (hbo3.cell (p := ⟨g, p * 3 + 1, none⟩) hgl).trans k1
    have r1o := (hbo3.frozen (p := ⟨g, p * 3 + 1, none⟩) hgl).trans r1
    have hl3 := hwb3.lt
    have hl3d := hbd3.lt
    have hl3g : g < w3.heap.size := Nat.lt_of_lt_of_le hgl hbo3.size
    have hgne : g ≠ w2.heap.size := by omega
    have hgne2 : g ≠ w.heap.size := by omega
    have y0 := hbd3.cell 0 _ rfl
    have y1 := hbd3.cell 1 _ rfl
    have y2 := hbd3.cell 2 _ rfl
    have y3 := hbd3.cell 3 _ rfl
    have x0 := hwb3.cell 0 _ rfl
    have x1 := hwb3.cell 1 _ rfl
    have x2 := hwb3.cell 2 _ rfl
    have x3 := hwb3.cell 3 _ rfl
    have HOJ := Hid.mk hoj
    have HNJ := Hid.mk hNj
    have HGJ : Hid (∀ b, b ∈ Fj → w2.heap.size ≤ b) := fun b hb => Nat.le_trans hbo.size (hgej b hb)
    clear hoj hNj hgej k1 r1 hlD hlB
    go_wp2_with fail
    obtain ⟨ws, hws⟩ : ∃ ws, ws = w3.setCell ⟨g, p * 3 + 1, none⟩ (.slice rj tl qj) := ⟨_, rfl⟩
    have hTs : Turn [g] w3 ws := by rw [hws]; exact Turn.setCell (Turn.refl _ _) (by simp) _
    have hod : ∃ F', oDisk ws [.slice (some ⟨g, 0, none⟩) m.fInodes.length e0, .slice d1 m.fNames.length e1, .slice d2 m.fSafe.length e2, .int .i64 m.fNext] n F' ∧ F'.Nodup ∧ ∀ b, b ∈ F' → w1.heap.size ≤ b := by
      obtain ⟨F', p1, p2, p3⟩ := HPUT.out w3 1 (.slice rj tl qj) (longI zb nd) (Fj ++ []) Fj (by omega) (Turn.ofBelow hbo3) ⟨_, Fj, rfl, HI3.out, HOJ.out, HS3.out, rfl⟩ (by rw [List.append_nil]; exact HNJ.out) (fun b hb => .inr (by simpa using hb)) (fun b hb hb0 => by have := HGJ.out b hb; have := HLT.out b (by simp [hb0]); omega)
      have hfr : ∀ b, b ∈ G1 ++ G2 → ws.heap[b]? = w2.heap[b]? := fun b hb => by
        have hb' : b ∈ G0 ++ G1 ++ G2 ++ [] := by simp at hb ⊢; exact .inr hb
        rw [hTs.block b (by have := HLT.out b hb'; have := hbo3.size; omega) (by intro h; simp at h; exact HNN.out.2.2 g hgG b hb h.symm), hbo3.block b (HLT.out b hb')]
      have t1 := ownS.frame (w' := ws) oEntry_good HO1.out (fun b hb => hfr b (by simp [hb]))
      have t2 := ownS.frame (w' := ws) oEntry_good HO2.out (fun b hb => hfr b (by simp [hb]))
      rw [← hws, HND.out] at p1
      refine ⟨F' ++ G1 ++ G2 ++ [], ?_, ?_, ?_⟩
      · rw [HNX.out.1]
        exact oDisk_put HPL.out p1 t1 t2 hnx
      · rw [List.append_nil, List.append_assoc, List.nodup_append]
        refine ⟨p2, HNN.out.2.1, fun a ha b hb hab => ?_⟩
        subst hab
        rcases p3 a ha with h | h
        · exact HNN.out.2.2 a h a hb rfl
        · have := HGJ.out a h; have := HLT.out a (by simp at hb ⊢; exact .inr hb); omega
      · intro b hb
        simp at hb
        rcases hb with hb | hb
        · rcases p3 b hb with h | h
          · exact HGE.out b (by simp [h])
          · have := HGJ.out b h; omega
        · exact HGE.out b (by simp; exact .inr hb)
    obtain ⟨Fs9, hoS, hNS, hgS⟩ := hod
    have hbds := hbd3.turn hTs (by simp; omega)
    have hbrs := hbr3.turn hTs (by simp; omega)
    have hBs : Below w.heap.size w ws := hb3.trans (hTs.below (fun k hk => by simp at hk; omega) hb3.size)
    rw [← hws]
    clear hws hTs k1o r1o y0 y1 y2 y3 x0 x1 x2 x3
    have hcon := orFull_any _ (some ⟨g, 0, none⟩) d1 d2 e0 e1 e2 m n Fs9 ws (rDisk_good.mono (rDisk_good.below HR.out hBs) hBs.size) HW.out (by rw [HNL.out, HNX.out.2.1, HNX.out.2.2.1, HNX.out.2.2.2]; exact hoS) hNS HWN.out
    rw [HNL.out, HNX.out.2.1, HNX.out.2.2.1, HNX.out.2.2.2] at hcon
    refine hcon.mono ?_
    clear hcon
    rintro e w4 ⟨cs4, F4, rfl, ho4, hN4, hF4, hx4⟩
    have hb4 := bthen hBs hx4
    have hbr4 := hbrs.under hx4
    have hl4 := hbr4.lt
    have hlE := hbrs.lt
    obtain ⟨q0, p0, q1, p1, q2, p2, E0, E1, E2, rfl, _, _, _, _, rfl⟩ := oDisk_cells ho4
    have HGQ : Hid (∀ b, b ∈ E0 ++ E1 ++ E2 ++ [] → w.heap.size + 2 ≤ b) := fun b hb => by rcases hF4 b hb with h | h; (have := hgS b h; omega); (have := hBs.size; omega)
    have hkey : ∀ W', Turn [w.heap.size + 1] w4 W' → oDisk W' [.slice q0 (fullD m n).fInodes.length p0, .slice q1 (fullD m n).fNames.length p1, .slice q2 (fullD m n).fSafe.length p2, .int .i64 (fullD m n).fNext] (fullD m n) (E0 ++ E1 ++ E2 ++ []) ∧ Below w.heap.size w W' := fun W' hT =>
      ⟨oDisk_good.frame ho4 (fun b hb => hT.block b (oDisk_good.lt ho4 b hb) (fun h => by simp at h; have := HGQ.out b hb; omega)), hb4.trans (hT.below (fun k hk => by simp at hk; omega) hb4.size)⟩
    have HKEY := Hid.mk hkey
    have HNQ := Hid.mk hN4
    clear hkey ho4 hN4 hF4
    have ze0 := hbr4.cell 0 _ rfl
    have ze1 := hbr4.cell 1 _ rfl
    have ze2 := hbr4.cell 2 _ rfl
    have ze3 := hbr4.cell 3 _ rfl
    have zf0 := hbr4.free 0
    have zf1 := hbr4.free 1
    have zf2 := hbr4.free 2
    have zf3 := hbr4.free 3
    go_wp2_with fail
    obtain ⟨h1, h3⟩ := HKEY.out _ (show Turn [w.heap.size + 1] w4 ((((w4.setCell ⟨w.heap.size + 1, 0, none⟩ (.slice q0 (fullD m n).fInodes.length p0)).setCell ⟨w.heap.size + 1, 1, none⟩ (.slice q1 (fullD m n).fNames.length p1)).setCell ⟨w.heap.size + 1, 2, none⟩ (.slice q2 (fullD m n).fSafe.length p2)).setCell ⟨w.heap.size + 1, 3, none⟩ (.int .i64 (fullD m n).fNext)) from turn4 _ _ _ _ _ _)
    exact bodyPost_ret (v := .tuple #[.agg #[.slice q0 (fullD m n).fInodes.length p0, .slice q1 (fullD m n).fNames.length p1, .slice q2 (fullD m n).fSafe.length p2, .int .i64 (fullD m n).fNext], .int .i64 (fullC n)]) (by simp [results, Try.results11, go_sem, *]) rfl ⟨[.slice q0 (fullD m n).fInodes.length p0, .slice q1 (fullD m n).fNames.length p1, .slice q2 (fullD m n).fSafe.length p2, .int .i64 (fullD m n).fNext], _, by rw [HV.out.2], by rw [HV.out.1]; exact h1, HNQ.out, fun b hb => by have := HGQ.out b hb; omega, h3⟩
  · have HV : Hid (appendP m s zb = m ∧ appendC m s zb = callP m s) := by refine ⟨?_, ?_⟩ <;> simp [appendP, appendC, hC]
    have hcn : (callP m s == 0) = false := beq_eq_false_iff_ne.2 hC
    have hcn2 : (callP m s != 0) = true := bne_iff_ne.2 hC
    obtain ⟨cp, hcp⟩ : ∃ cp, callP m s = cp := ⟨_, rfl⟩
    rw [hcp] at hcn hcn2 ⊢
    have HCP := Hid.mk hcp
    clear hcp hC HP
    go_wp2_with fail
    refine (copyDisk_any _ (m) w1 (rDisk_good.mono (rDisk_good.below HR.out hb1) hb1.size) HW.out).mono ?_
    rintro e w3 ⟨cs3, F3, rfl, ho3, hN3, hge3, hx3⟩
    have hb3 := bthen hb1 hx3
    have hbr3 := hbr1.under hx3
    have hl3 := hbr3.lt
    have hz3 := hb1.size
    have hlq3 := hbr1.lt
    obtain ⟨q0, p0, q1, p1, q2, p2, G0, G1, G2, rfl, _, _, _, _, rfl⟩ := oDisk_cells ho3
    have hkey : ∀ W', Turn [w.heap.size + 1] w3 W' → oDisk W' [.slice q0 m.fInodes.length p0, .slice q1 m.fNames.length p1, .slice q2 m.fSafe.length p2, .int .i64 m.fNext] (m) (G0 ++ G1 ++ G2 ++ []) ∧ Below w.heap.size w W' := fun W' hT =>
      ⟨oDisk_good.frame ho3 (fun b hb => hT.block b (oDisk_good.lt ho3 b hb) (fun h => by simp at h; have := hge3 b hb; omega)), hb3.trans (hT.below (fun k hk => by simp at hk; omega) hb3.size)⟩
    have HKEY := Hid.mk hkey
    have HNQ := Hid.mk hN3
    have HGQ : Hid (∀ b, b ∈ G0 ++ G1 ++ G2 ++ [] → w.heap.size ≤ b) := fun b hb => by have := hge3 b hb; omega
    clear hkey ho3 hN3 hge3 y0 y1 y2 y3
    have ze0 := hbr3.cell 0 _ rfl
    have ze1 := hbr3.cell 1 _ rfl
    have ze2 := hbr3.cell 2 _ rfl
    have ze3 := hbr3.cell 3 _ rfl
    have zf0 := hbr3.free 0
    have zf1 := hbr3.free 1
    have zf2 := hbr3.free 2
    have zf3 := hbr3.free 3
    go_wp2_with fail
    obtain ⟨h1, h3⟩ := HKEY.out _ (show Turn [w.heap.size + 1] w3 ((((w3.setCell ⟨w.heap.size + 1, 0, none⟩ (.slice q0 m.fInodes.length p0)).setCell ⟨w.heap.size + 1, 1, none⟩ (.slice q1 m.fNames.length p1)).setCell ⟨w.heap.size + 1, 2, none⟩ (.slice q2 m.fSafe.length p2)).setCell ⟨w.heap.size + 1, 3, none⟩ (.int .i64 m.fNext)) from turn4 _ _ _ _ _ _)
    exact bodyPost_ret (v := .tuple #[.agg #[.slice q0 m.fInodes.length p0, .slice q1 m.fNames.length p1, .slice q2 m.fSafe.length p2, .int .i64 m.fNext], .int .i64 cp]) (by simp [results, Try.results11, go_sem, *]) rfl ⟨[.slice q0 m.fInodes.length p0, .slice q1 m.fNames.length p1, .slice q2 m.fSafe.length p2, .int .i64 m.fNext], _, by rw [HV.out.2, HCP.out], by rw [HV.out.1]; exact h1, HNQ.out, HGQ.out, h3⟩

set_option maxHeartbeats 400000 in
theorem implAppend_c (cs : List Value) (m : MDisk) (s : ByteArray) (vb : Value) (zb : List Int) (w : World) (hr : rDisk w.heap.size w cs m) (hs : s.size ≤ 9223372036854775807) (hrb : rdB w.heap.size w vb zb) (hw : wDisk m ≤ 1048576) (hw1 : s.size ≤ 1048576) (hwb : zb.length ≤ 1048576) :
    Calls Try.prog 11 #[.agg cs.toArray, .string s, vb] w fun e w' => ∃ (cs' : List Value) (F : List Nat), e = .returned (.tuple #[.agg cs'.toArray, .int .i64 (appendC m s zb)]) ∧ oDisk w' cs' (appendP m s zb) F ∧ F.Nodup ∧ (∀ b, b ∈ F → w.heap.size ≤ b) ∧ Below w.heap.size w w' := by
  exact implAppend_b cs m s vb zb w hr hs hrb hw hw1 (Nat.le_trans hwb (by decide))

abbrev q8c8_12_4_0 : Oper := ⟨some 19, .fieldAddr 27 (.tmp 8) 0, 0, "l02_files.go:144", #[], none⟩
abbrev q8c8_12_4_1 : Oper := ⟨some 20, .load 24 (.tmp 19), 24, "l02_files.go:144", #[⟨0, .data⟩], none⟩
abbrev q8c8_12_4_2 : Oper := ⟨some 21, .move (.tmp 6), 3, "l02_files.go:144", #[], none⟩
abbrev q8c8_12_4_3 : Oper := ⟨some 22, .fieldAddr 27 (.tmp 8) 0, 0, "l02_files.go:144", #[], none⟩
abbrev q8c8_12_4_4 : Oper := ⟨some 23, .load 24 (.tmp 22), 24, "l02_files.go:144", #[⟨3, .data⟩], none⟩
abbrev q8c8_12_4_5 : Oper := ⟨some 24, .move (.tmp 6), 3, "l02_files.go:144", #[], none⟩
abbrev q8c8_12_4_6 : Oper := ⟨some 25, .indexAddr 24 (.tmp 23) (.tmp 24), 0, "l02_files.go:144", #[⟨4, .data⟩, ⟨5, .data⟩], none⟩
abbrev q8c8_12_4_7 : Oper := ⟨some 26, .fieldAddr 56 (.tmp 25) 1, 0, "l02_files.go:144", #[⟨6, .data⟩], none⟩
abbrev q8c8_12_4_8 : Oper := ⟨some 27, .load 22 (.tmp 26), 22, "l02_files.go:144", #[⟨7, .data⟩], none⟩
abbrev q8c8_12_4_9 : Oper := ⟨some 28, .call { callee := .builtin .len, args := #[.tmp 27], argTypes := #[22] }, 3, "l02_files.go:144", #[⟨8, .data⟩], none⟩
abbrev q8c8_12_4_10 : Oper := ⟨some 29, .indexAddr 24 (.tmp 20) (.tmp 21), 0, "l02_files.go:144", #[⟨1, .data⟩, ⟨2, .data⟩, ⟨0, .phase⟩, ⟨1, .phase⟩, ⟨2, .phase⟩, ⟨3, .phase⟩, ⟨4, .phase⟩, ⟨5, .phase⟩, ⟨6, .phase⟩, ⟨7, .phase⟩, ⟨8, .phase⟩, ⟨9, .phase⟩], none⟩
abbrev q8c8_12_4_11 : Oper := ⟨some 30, .fieldAddr 56 (.tmp 29) 2, 0, "l02_files.go:144", #[⟨10, .data⟩, ⟨0, .phase⟩, ⟨1, .phase⟩, ⟨2, .phase⟩, ⟨3, .phase⟩, ⟨4, .phase⟩, ⟨5, .phase⟩, ⟨6, .phase⟩, ⟨7, .phase⟩, ⟨8, .phase⟩, ⟨9, .phase⟩], none⟩
abbrev q8c8_12_4_12 : Oper := ⟨none, .store 3 (.tmp 30) (.tmp 28), 0, "l02_files.go:144", #[⟨11, .data⟩, ⟨9, .data⟩, ⟨0, .phase⟩, ⟨1, .phase⟩, ⟨2, .phase⟩, ⟨3, .phase⟩, ⟨4, .phase⟩, ⟨5, .phase⟩, ⟨6, .phase⟩, ⟨7, .phase⟩, ⟨8, .phase⟩, ⟨9, .phase⟩], none⟩

set_option maxHeartbeats 4000000 in
theorem implSync_c (cs : List Value) (m : MDisk) (s : ByteArray) (w : World) (hr : rDisk w.heap.size w cs m) (hs : s.size ≤ 9223372036854775807) (hw : wDisk m ≤ 1048576) (hw1 : s.size ≤ 1048576) :
    Calls Try.prog 12 #[.agg cs.toArray, .string s] w fun e w' => ∃ (cs' : List Value) (F : List Nat), e = .returned (.tuple #[.agg cs'.toArray, .int .i64 (callP m s)]) ∧ oDisk w' cs' (syncP m s) F ∧ F.Nodup ∧ (∀ b, b ∈ F → w.heap.size ≤ b) ∧ Below w.heap.size w w' := by
  have hq := hr
  obtain ⟨a0, c0, a1, c1, a2, c2, rfl, hI, hNm, hSf, hnx, _⟩ := hq
  have hw2 : m.fInodes.length + sumW wInode m.fInodes + (m.fNames.length + sumW wEntry m.fNames) + (m.fSafe.length + sumW wEntry m.fSafe) ≤ 1048576 := hw
  have HW := Hid.mk hw
  have HR := Hid.mk hr
  clear hr hI hNm hSf hw
  go_enter Try.func12, Try.ntmps12
  go_wp2_with fail
  obtain ⟨wq, hwq⟩ : ∃ wq, wq = ((w.alloc (.cells #[.slice a0 m.fInodes.length c0, .slice a1 m.fNames.length c1, .slice a2 m.fSafe.length c2, .int .i64 m.fNext] 27)).alloc (.cells #[.slice none 0 0, .slice none 0 0, .slice none 0 0, .int .i64 0] 27)) := ⟨_, rfl⟩
  have hbW : Below w.heap.size w wq := by rw [hwq]; exact Below.alloc (Below.alloc (Below.refl _ _) (by exact Nat.le_refl _) _) (by simp; try omega) _
  have hbd : Bw wq (w.heap.size) 27 [.slice a0 m.fInodes.length c0, .slice a1 m.fNames.length c1, .slice a2 m.fSafe.length c2, .int .i64 m.fNext] := by rw [hwq]; exact Bw.alloc (Bw.new' _ _ _ (by simp)) _
  have hbr : Bw wq (w.heap.size + 1) 27 [.slice none 0 0, .slice none 0 0, .slice none 0 0, .int .i64 0] := by rw [hwq]; exact Bw.new' _ _ _ (by simp)
  rw [← hwq]
  clear hwq
  refine (findFile_any _ m s wq (rDisk_good.mono (rDisk_good.below HR.out hbW) hbW.size) HW.out hs).mono ?_
  rintro e w1 ⟨p, rfl, hp, hx1⟩
  have HP := Hid.mk hp
  clear hp
  have hb1 := bthen hbW hx1
  have hbd1 := hbd.under hx1
  have hbr1 := hbr.under hx1
  have y0 := hbd1.cell 0 _ rfl
  have y1 := hbd1.cell 1 _ rfl
  have y2 := hbd1.cell 2 _ rfl
  have y3 := hbd1.cell 3 _ rfl
  clear hbd hbr
  go_wp2_with fail
  refine (copyDisk_any _ m w1 (rDisk_good.mono (rDisk_good.below HR.out hb1) hb1.size) HW.out).mono ?_
  rintro e w2 ⟨cs2, F2, rfl, ho2, hN2, hge2, hx2⟩
  obtain ⟨d0, e0, d1, e1, d2, e2, G0, G1, G2, rfl, o0, o1, o2, _, rfl⟩ := oDisk_cells ho2
  have HO0 := Hid.mk o0
  have HO1 := Hid.mk o1
  have HO2 := Hid.mk o2
  have HO := Hid.mk ho2
  have HN := Hid.mk hN2
  have HGE : Hid (∀ b, b ∈ G0 ++ G1 ++ G2 ++ [] → w1.heap.size ≤ b) := hge2
  have HLT : Hid (∀ b, b ∈ G0 ++ G1 ++ G2 ++ [] → b < w2.heap.size) := fun b hb => oDisk_good.lt ho2 b hb
  clear ho2 hN2 hge2 o0 o1 o2
  have hb2 := bthen hb1 hx2
  have hbr2 := hbr1.under hx2
  have hz2 := hx2.size
  have hl1 := hbr1.lt
  have hB2 := hb2
  have hbd2 := hbd1.under hx2
  by_cases hC : callP m s = 0
  · obtain ⟨hpl, hpi⟩ := HP.out hC
    have HPF := Hid.mk (file_only hC hpl hpi)
    have HV : Hid (syncP m s = { m with fInodes := updI m.fInodes p sureI }) := by show _ = _; unfold syncP; rw [if_pos hC, HPF.out]
    obtain ⟨g, cap, hv, hgG, hgl⟩ := ownS.shape HO0.out (by omega)
    simp only [Value.slice.injEq, true_and] at hv
    obtain ⟨rfl, rfl⟩ := hv
    obtain ⟨cs3, Fk, o3, f3, n3, c3, z3⟩ := ownS.cells oInode_good HO0.out hpl
    obtain ⟨v3, F3, rfl, i3, b3, s3, rfl⟩ := o3
    obtain ⟨a3, l3, rfl, _⟩ := b3.read
    have k1 := c3 1 _ rfl
    have k2 := c3 2 _ rfl
    have r1 := z3 (p * 3 + 1)
    have r2 := z3 (p * 3 + 2)
    have hge1 := HGE.out g (by simp [hgG])
    have hdl : m.fInodes[p].fData.length ≤ 1048576 := by have h1 := sumW_le (f := wInode) hpl; have h2 : wInode m.fInodes[p] = m.fInodes[p].fData.length := rfl; omega
    obtain ⟨dn, hdn⟩ : ∃ dn, m.fInodes[p].fData.length = dn := ⟨_, rfl⟩
    rw [hdn] at k1 hdl
    have HDN := Hid.mk hdn
    have HPL := Hid.mk hpl
    have hpn : (0 : Int) ≤ (p : Int) := by omega
    have hpn2 : (p : Int) < (m.fInodes.length : Int) := by omega
    rw [hC]
    have HB2 := Hid.mk hb2
    have HBR2 := Hid.mk hbr2
    clear hdn c3 z3 n3 hbd1 hbr1 hbr2 hbd2 y0 y1 y2 y3 hpi hb2 hB2
    go_wp2_with fail
    obtain ⟨wo, hwo⟩ : ∃ wo, wo = w2.alloc (.cells #[.slice (some ⟨g, 0, none⟩) m.fInodes.length e0, .slice d1 m.fNames.length e1, .slice d2 m.fSafe.length e2, .int .i64 m.fNext] 27) := ⟨_, rfl⟩
    have hbo : Below w2.heap.size w2 wo := by rw [hwo]; exact (Below.refl _ _).alloc (Nat.le_refl _) _
    have hwb : Bw wo w2.heap.size 27 [.slice (some ⟨g, 0, none⟩) m.fInodes.length e0, .slice d1 m.fNames.length e1, .slice d2 m.fSafe.length e2, .int .i64 m.fNext] := by rw [hwo]; exact Bw.new _ _ _
    rw [← hwo]
    clear hwo
    have k1o := (hbo.cell (p := ⟨g, p * 3 + 1, none⟩) hgl).trans k1
    have k2o := (hbo.cell (p := ⟨g, p * 3 + 2, none⟩) hgl).trans k2
    have r2o := (hbo.frozen (p := ⟨g, p * 3 + 2, none⟩) hgl).trans r2
    have x0 := hwb.cell 0 _ rfl
    clear k1 k2 r2 r1
    have HG1 : Hid (g ≠ w2.heap.size) := by show _ ≠ _; omega
    refine wp_region_held_drew (S := fun W => W.cell? ⟨w2.heap.size, 0, none⟩ = some (.slice (some ⟨g, 0, none⟩) m.fInodes.length e0) ∧ W.cell? ⟨g, p * 3 + 1, none⟩ = some (.slice a3 dn l3) ∧ Turn [g] wo W) (by kernel_rfl) (⟨x0, k1o, Turn.ofBelow (Below.drew (Below.refl _ _))⟩) (fun hHeld => ?_)
    refine tk 0 q8c8_12_4_0 (some 19) (v := ?v1) rfl rfl (by kernel_rfl) hHeld (by rfl) (fun _ _ _ x => x) (fun w h => ?y1) ?_; (case y1 => (try dsimp only at h); go_simp; try (with_reducible rfl)); try simp only [Act.put, sa, s0, s1]
    refine tk 1 q8c8_12_4_1 (some 20) (v := ?v2) rfl rfl (by kernel_rfl) hHeld (by rfl) (fun _ _ _ x => x) (fun w h => ?y2) ?_; (case y2 => (try dsimp only at h); go_simp; try (with_reducible rfl)); try simp only [Act.put, sa, s0, s1]
    refine tk 2 q8c8_12_4_2 (some 21) (v := ?v3) rfl rfl (by kernel_rfl) hHeld (by rfl) (fun _ _ _ x => x) (fun w h => ?y3) ?_; (case y3 => (try dsimp only at h); go_simp; try (with_reducible rfl)); try simp only [Act.put, sa, s0, s1]
    refine tk 3 q8c8_12_4_3 (some 22) (v := ?v4) rfl rfl (by kernel_rfl) hHeld (by rfl) (fun _ _ _ x => x) (fun w h => ?y4) ?_; (case y4 => (try dsimp only at h); go_simp; try (with_reducible rfl)); try simp only [Act.put, sa, s0, s1]
    refine tk 4 q8c8_12_4_4 (some 23) (v := ?v5) rfl rfl (by kernel_rfl) hHeld (by rfl) (fun _ _ _ x => x) (fun w h => ?y5) ?_; (case y5 => (try dsimp only at h); go_simp; try (with_reducible rfl)); try simp only [Act.put, sa, s0, s1]
    refine tk 5 q8c8_12_4_5 (some 24) (v := ?v6) rfl rfl (by kernel_rfl) hHeld (by rfl) (fun _ _ _ x => x) (fun w h => ?y6) ?_; (case y6 => (try dsimp only at h); go_simp; try (with_reducible rfl)); try simp only [Act.put, sa, s0, s1]
    refine tk 6 q8c8_12_4_6 (some 25) (v := ?v7) rfl rfl (by kernel_rfl) hHeld (by rfl) (fun _ _ _ x => x) (fun w h => ?y7) ?_; (case y7 => (try dsimp only at h); go_simp; try (with_reducible rfl)); try simp only [Act.put, sa, s0, s1]
    refine tk 7 q8c8_12_4_7 (some 26) (v := ?v8) rfl rfl (by kernel_rfl) hHeld (by rfl) (fun _ _ _ x => x) (fun w h => ?y8) ?_; (case y8 => (try dsimp only at h); go_simp; try (with_reducible rfl)); try simp only [Act.put, sa, s0, s1]
    refine tk 8 q8c8_12_4_8 (some 27) (v := ?v9) rfl rfl (by kernel_rfl) hHeld (by rfl) (fun _ _ _ x => x) (fun w h => ?y9) ?_; (case y9 => (try dsimp only at h); go_simp; try (with_reducible rfl)); try simp only [Act.put, sa, s0, s1]
    refine tk 9 q8c8_12_4_9 (some 28) (v := ?v10) rfl rfl (by kernel_rfl) hHeld (by rfl) (fun _ _ _ x => x) (fun w h => ?y10) ?_; (case y10 => (try dsimp only at h); go_simp; try (with_reducible rfl)); try simp only [Act.put, sa, s0, s1]
    refine tk 10 q8c8_12_4_10 (some 29) (v := ?v11) rfl rfl (by kernel_rfl) hHeld (by rfl) (fun _ _ _ x => x) (fun w h => ?y11) ?_; (case y11 => (try dsimp only at h); go_simp; try (with_reducible rfl)); try simp only [Act.put, sa, s0, s1]
    refine tk 11 q8c8_12_4_11 (some 30) (v := ?v12) rfl rfl (by kernel_rfl) hHeld (by rfl) (fun _ _ _ x => x) (fun w h => ?y12) ?_; (case y12 => (try dsimp only at h); go_simp; try (with_reducible rfl)); try simp only [Act.put, sa, s0, s1]
    refine wpAnyH_ready (rs := [12]) (by kernel_rfl) (by simp) ?_
    refine AllReadyH.cons (o := q8c8_12_4_12) rfl (fun K hK => ?_) AllReadyH.nil
    go_simp
    go_simp
    refine hK.out _ _ (⟨(World.cell?_setCell_other _ _ _ _ (fun h => HG1.out (congrArg Addr.block h))).trans x0, (World.cell?_setCell_other _ _ _ _ (fun h => by have := congrArg Addr.off h; simp at this)).trans k1o, Turn.drew (Turn.setCell (F := [g]) (a := wo) (b := wo) (p := ⟨g, p * 3 + 2, none⟩) (Turn.refl _ _) (by simp) (.int .i64 dn))⟩) (fun hHeld => ?_)
    clear hK K
    try simp only [Act.put, sa, s0, s1]
    refine wpAnyH_done (by kernel_rfl) ?_ _
    obtain ⟨w3, hw3⟩ : ∃ w3, w3 = (wo.setCell ⟨g, p * 3 + 2, none⟩ (.int .i64 dn)).drew := ⟨_, rfl⟩
    have hT3 : Turn [g] wo w3 := by rw [hw3]; exact Turn.drew (Turn.setCell (F := [g]) (a := wo) (b := wo) (p := ⟨g, p * 3 + 2, none⟩) (Turn.refl _ _) (by simp) _)
    have hwb3 := hwb.turn hT3 (by simp; omega)
    have hbr3 := (HBR2.out.under hbo).turn hT3 (by simp; omega)
    have hB3 : Below w.heap.size w w3 := (bthen HB2.out hbo).trans (hT3.below (fun k hk => by simp at hk; have := HB2.out.size; omega) (bthen HB2.out hbo).size)
    have HPL2 := HPL
    have hod : ∃ F', oDisk w3 [.slice (some ⟨g, 0, none⟩) m.fInodes.length e0, .slice d1 m.fNames.length e1, .slice d2 m.fSafe.length e2, .int .i64 m.fNext] (syncP m s) F' ∧ F'.Nodup ∧ ∀ b, b ∈ F' → b ∈ G0 ++ G1 ++ G2 := by
      have hfr : ∀ b, b ∈ G0 ++ G1 ++ G2 → b < w2.heap.size := fun b hb => HLT.out b (by simpa using hb)
      have q0 := ownS.frame (w' := wo) oInode_good HO0.out (fun b hb => hbo.block b (hfr b (by simp [hb])))
      have q1 := ownS.frame (w' := wo) oEntry_good HO1.out (fun b hb => hbo.block b (hfr b (by simp [hb])))
      have q2 := ownS.frame (w' := wo) oEntry_good HO2.out (fun b hb => hbo.block b (hfr b (by simp [hb])))
      have hsf : ∀ n : MInode, n.fData.length = dn → (sureI n).fSure = (dn : Int) := fun n h => by unfold sureI; simp [h]
      obtain ⟨F', o1, o2, o3, _⟩ := oDisk_inode q0 q1 q2 hnx HN.out HPL.out (i := 2) (by omega) (.int .i64 dn) sureI [] (fun b hb => by cases hb) (fun cs Fk h hN => by
        obtain ⟨v, F, rfl, q1, q2, q3, rfl⟩ := h
        refine ⟨F ++ [], ⟨v, F, ?_, q1, q2, ?_, rfl⟩, hN, fun b hb => .inl hb⟩
        · rw [hsf _ HDN.out]
          rfl
        · rw [hsf _ HDN.out]
          exact WalkArith.wf_i64 (by omega))
      refine ⟨F', ?_, o2, fun b hb => ?_⟩
      · rw [HV.out, hw3]
        exact o1
      · rcases o3 b hb with h | h
        · exact h
        · cases h
    obtain ⟨F3x, hO3, hN3, hS3⟩ := hod
    have hG3 : ∀ b, b ∈ F3x → w.heap.size + 2 ≤ b := fun b hb => by have := HGE.out b (by simpa using hS3 b hb); have := hb1.size; omega
    have HCz := Hid.mk hC
    rw [← hw3]
    clear hw3 hC hHeld x0 k1o k2o r2o
    have zo0 := hwb3.cell 0 _ rfl
    have ze0 := hbr3.cell 0 _ rfl
    have zf0 := hbr3.free 0
    have zo1 := hwb3.cell 1 _ rfl
    have ze1 := hbr3.cell 1 _ rfl
    have zf1 := hbr3.free 1
    have zo2 := hwb3.cell 2 _ rfl
    have ze2 := hbr3.cell 2 _ rfl
    have zf2 := hbr3.free 2
    have zo3 := hwb3.cell 3 _ rfl
    have ze3 := hbr3.cell 3 _ rfl
    have zf3 := hbr3.free 3
    have hTf := turn4 w3 (w.heap.size + 1) (.slice (some ⟨g, 0, none⟩) m.fInodes.length e0) (.slice d1 m.fNames.length e1) (.slice d2 m.fSafe.length e2) (.int .i64 m.fNext)
    have HTf := Hid.mk hTf
    have HBf := Hid.mk hB3
    clear hTf
    go_wp2_with fail
    refine bodyPost_ret (v := .tuple #[.agg #[.slice (some ⟨g, 0, none⟩) m.fInodes.length e0, .slice d1 m.fNames.length e1, .slice d2 m.fSafe.length e2, .int .i64 m.fNext], .int .i64 0]) (by simp [results, Try.results12, go_sem, *]) rfl ⟨[.slice (some ⟨g, 0, none⟩) m.fInodes.length e0, .slice d1 m.fNames.length e1, .slice d2 m.fSafe.length e2, .int .i64 m.fNext], F3x, by rw [HCz.out], ?_, hN3, ?_, ?_⟩
    · exact oDisk_good.frame (hO3) (fun b hb => HTf.out.block b (oDisk_good.lt (hO3) b hb) (by intro h; simp at h; have := hG3 b hb; omega))
    · intro b hb
      have := hG3 b hb
      omega
    · exact HBf.out.trans (HTf.out.below (fun k hk => by simp at hk; omega) HBf.out.size)
  · have HV : Hid (syncP m s = m) := by show _ = _; unfold syncP; rw [if_neg hC]
    have hcn : (callP m s == 0) = false := beq_eq_false_iff_ne.2 hC
    clear HP
    obtain ⟨cp, hcp⟩ : ∃ cp, callP m s = cp := ⟨_, rfl⟩
    rw [hcp] at hcn ⊢
    have HCP := Hid.mk hcp
    clear hcp hC
    have ze0 := hbr2.cell 0 _ rfl
    have zf0 := hbr2.free 0
    have ze1 := hbr2.cell 1 _ rfl
    have zf1 := hbr2.free 1
    have ze2 := hbr2.cell 2 _ rfl
    have zf2 := hbr2.free 2
    have ze3 := hbr2.cell 3 _ rfl
    have zf3 := hbr2.free 3
    have hlt0 := hbr2.lt
    have hO3 : oDisk w2 [.slice d0 m.fInodes.length e0, .slice d1 m.fNames.length e1, .slice d2 m.fSafe.length e2, .int .i64 m.fNext] (syncP m s) (G0 ++ G1 ++ G2 ++ []) := by rw [HV.out]; exact HO.out
    have hG3 : ∀ b, b ∈ G0 ++ G1 ++ G2 ++ [] → w.heap.size + 2 ≤ b := fun b hb => by have := HGE.out b hb; omega
    have HBf := Hid.mk hb2
    have HO3 := Hid.mk hO3
    clear hO3
    go_wp2_with fail
    refine bodyPost_ret (v := .tuple #[.agg #[.slice d0 m.fInodes.length e0, .slice d1 m.fNames.length e1, .slice d2 m.fSafe.length e2, .int .i64 m.fNext], .int .i64 cp]) (by simp [results, Try.results12, go_sem, *]) rfl ⟨[.slice d0 m.fInodes.length e0, .slice d1 m.fNames.length e1, .slice d2 m.fSafe.length e2, .int .i64 m.fNext], G0 ++ G1 ++ G2 ++ [], by first | rfl | rw [HCP.out], ?_, HN.out, ?_, ?_⟩
    · exact oDisk_good.frame HO3.out (fun b hb => (show Turn [w.heap.size + 1] w2 _ from by repeat (first | with_reducible exact Turn.refl _ _ | with_reducible refine Turn.setCell ?_ (by simp) _ | with_reducible refine Turn.alloc ?_ _ | with_reducible refine Turn.drew ?_)).block b (oDisk_good.lt HO3.out b hb) (by intro h; simp at h; have := hG3 b hb; omega))
    · intro b hb
      have := hG3 b hb
      omega
    · exact HBf.out.trans ((show Turn [w.heap.size + 1] w2 _ from by repeat (first | with_reducible exact Turn.refl _ _ | with_reducible refine Turn.setCell ?_ (by simp) _ | with_reducible refine Turn.alloc ?_ _ | with_reducible refine Turn.drew ?_)).below (fun k hk => by simp at hk; omega) HBf.out.size)


set_option maxHeartbeats 1000000 in
theorem implBytes_c (cs : List Value) (m : MDisk) (s : ByteArray) (w : World) (hr : rDisk w.heap.size w cs m) (hs : s.size ≤ 9223372036854775807) (hw : wDisk m ≤ 1048576) (hw1 : s.size ≤ 1048576) :
    Calls Try.prog 15 #[.agg cs.toArray, .string s] w fun e w' => ∃ (v : Value) (F : List Nat), e = .returned (.tuple #[v, .bool (decide (callP m s = 0))]) ∧ ownB 5 w' v (bytesP m s) F ∧ F.Nodup ∧ (∀ b, b ∈ F → w.heap.size ≤ b) ∧ Below w.heap.size w w' := by
  have hq := hr
  obtain ⟨a0, c0, a1, c1, a2, c2, rfl, hI, hNm, hSf, hnx, _⟩ := hq
  have hw2 : m.fInodes.length + sumW wInode m.fInodes + (m.fNames.length + sumW wEntry m.fNames) + (m.fSafe.length + sumW wEntry m.fSafe) ≤ 1048576 := hw
  have HW := Hid.mk hw
  have HR := Hid.mk hr
  have HI := Hid.mk hI
  clear hr hI hNm hSf hw
  have hbA := (Below.refl w.heap.size w).alloc (Nat.le_refl _) (.cells #[.slice a0 m.fInodes.length c0, .slice a1 m.fNames.length c1, .slice a2 m.fSafe.length c2, .int .i64 m.fNext] 27)
  go_enter Try.func15, Try.ntmps15
  go_wp2_with fail
  refine (findFile_any _ m s _ (rDisk_good.mono (rDisk_good.below HR.out hbA) hbA.size) HW.out hs).mono ?_
  rintro e w1 ⟨p, rfl, hp, hx1⟩
  have hb1 := bthen hbA hx1
  have hbx := (Bx.new w [.slice a0 m.fInodes.length c0, .slice a1 m.fNames.length c1, .slice a2 m.fSafe.length c2, .int .i64 m.fNext] 27).under hx1
  have y0 := hbx.2 0 _ rfl
  by_cases hC : callP m s = 0
  · obtain ⟨hpl, hpi⟩ := hp hC
    have hok : diskOk m = true := by
      unfold callP at hC
      by_cases h : (diskOk m && nameOk s) = true
      · rw [Bool.and_eq_true] at h; exact h.1
      · rw [if_neg h] at hC; cases hC
    have HD : Hid (bytesP m s = m.fInodes[p].fData) := by
      show bytesP m s = _
      unfold bytesP
      rw [if_pos hC, dataOf_at (okI_sorted (diskOk_parts hok).1) hpl hpi]
    have HC := Hid.mk hC
    have hwk := sumW_le (f := wInode) hpl
    obtain ⟨b1, o1, rfl, hB, cs, hcl, hcell, hrI⟩ := (HI.out.2.2.below rInode_good hb1) p hpl
    obtain ⟨ad, cd, rfl, hid, hda, hsu, _⟩ := hrI
    have k1 := hcell 1 _ rfl
    rw [hC]
    have hdl : m.fInodes[p].fData.length ≤ 1048576 := by have : wInode m.fInodes[p] = m.fInodes[p].fData.length := rfl; omega
    generalize m.fInodes[p].fData = dt at *
    clear hp hpi hok hwk hcell hcl hC
    go_wp2_with fail
    refine (joinBytes_any ad none cd 0 dt [] w1 (hda.mono hb1.size) ⟨by simp, by omega, fun j hj => by simp at hj, fun z hz => by cases hz⟩ (by omega) (by simp)).mono ?_
    rintro e w2 ⟨v, F, rfl, ho, hN, hge, hx2⟩
    rw [List.append_nil] at ho
    go_wp2_with fail
    refine bodyPost_ret (v := .tuple #[v, .bool true]) (by simp [results, Try.results15, go_sem, *]) rfl ⟨v, F, by rw [decide_eq_true HC.out], by rw [HD.out]; exact ho, hN, fun b hb => Nat.le_trans hb1.size (hge b hb), bthen hb1 hx2⟩
  · have HD : Hid (bytesP m s = []) := by show bytesP m s = _; unfold bytesP; rw [if_neg hC]
    have HC := Hid.mk (decide_eq_false hC)
    have hcn : (callP m s == 0) = false := beq_eq_false_iff_ne.2 hC
    have hcn2 : (callP m s != 0) = true := bne_iff_ne.2 hC
    clear hp hC
    generalize callP m s = cp at hcn hcn2 ⊢
    go_wp2_with fail
    refine bodyPost_ret (v := .tuple #[.slice none 0 0, .bool false]) (by simp [results, Try.results15, go_sem, *]) rfl ⟨.slice none 0 0, [], by rw [HC.out], ?_, List.nodup_nil, (fun b hb => by cases hb), hb1⟩
    rw [HD.out]
    exact ⟨⟨by simp, .inl ⟨rfl, rfl⟩⟩, (fun z hz => by cases hz), rfl⟩

end Go.Proofs.Ytmbobjhplkpfoaa

namespace Go.Proofs.Ytmbobjhplkpfoaa
open Go.RowKit


section
variable {H : Type} {enc : TypeId × Value → H} {w : World} {base fuel : Nat} {spare : Nat → Bool} {held : Bool} {cs : List Value} {x : DataW H × List MemPlace}

theorem openBytes {t e : TypeId} (ht : Try.prog.underlying t = some (.slice e)) (he : Try.prog.underlying e = some (.int .u8)) (hc : Try.prog.cellsOf e = 1) (h : DataW.trod enc Try.prog w base spare held fuel t cs = some x) :
    ∃ a c, ∃ zs : List Int, cs = [.slice a zs.length c] ∧ LeafB w.heap.size w a c zs := by
  rcases Go.ChangeShapes.open_ints ht he hc h with ⟨rfl, _⟩ | ⟨a, len, cap, zs, rfl, _, hl, hm, hz, _, hcell, hwf⟩
  · exact ⟨none, 0, [], rfl, by simp, by omega, fun j hj => by simp at hj, fun z hz => by cases hz⟩
  · have hzl : len ≤ zs.length := by rw [hz]; split <;> omega
    refine ⟨some a, cap, zs.take len, by simp [hzl], by simp; omega, by simpa [maxLen] using hm, ?_, ?_⟩
    · intro j hj
      have hj' : j < len := by simp at hj; omega
      obtain ⟨b, off, rfl, hcc⟩ := ints_at hcell (by omega)
      have hcj := hcc j (by omega)
      refine ⟨b, off, rfl, World.block_lt_of_cell? _ _ hcj, ?_⟩
      rw [hcj]
      congr 2
      simp only [List.getD_eq_getElem?_getD, List.getElem?_take, hj', if_true]
    · intro z hz'
      have := hwf z (List.mem_of_mem_take hz')
      simpa [Lit.wf, IntKind.min, IntKind.max, IntKind.signed, IntKind.bits] using this

end

end Go.Proofs.Ytmbobjhplkpfoaa
