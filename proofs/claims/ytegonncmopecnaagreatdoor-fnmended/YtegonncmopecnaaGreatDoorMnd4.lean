/-
  Part 5 of the texts that the proof leans on.
-/
import Derived.Test.YtegonncmopecnaaGreatDoorMnd3
import Derived.Test.YtegonncmopecnaaGreatDoorMnd0
import Derived.Test.YtegonncmopecnaaGreatDoorMnd2
import Derived.Test.YtegonncmopecnaaGreatDoorMnd1
set_option linter.unusedVariables false
set_option linter.unusedSimpArgs false
set_option maxRecDepth 10000

namespace Go.Proofs.YtegonncmopecnaaGreatDoor
open Go.RowKit
theorem run_append_two {P : Program} (w : World) (base : Nat) (t tx ty e : TypeId) (i : TypeInfo) (z : Value) (size bytes : Nat) (ht : P.underlying t = some (.slice e)) (hi : P.info? e = some i) (hz : i.zero = some z)
  (hsize : i.size = size) (hby : i.bytes = bytes) (hzs : z.cells.size = size)
  (v : Value) (n : Nat) (xs : List Value) (hown : w.ownsRow base e size v n xs) (x : Value) (m : Nat) (news : List Value) (hs : Src P size tx x m news w) (hm0 : 0 < m)
  (h63 : n + m <= maxLen) (hbytes : (n + m) * bytes <= 140737488355328) (hbase : base <= w.heap.size) :
  ∃ v' w', (Builtin.append_ #[t, tx] ty #[v, x]).run P w = .ok v' w' /\ w'.ownsRow base e size v' (n + m) (xs ++ news) /\ w.grownBy w' v.ownBlock /\ (v'.ownBlock = v.ownBlock ∨ v'.ownBlock = some w.heap.size) /\
   ((∃ g cap, v = .slice (some ⟨g, 0, none⟩) n cap /\ w' = w.setCells g (n * size) news) ∨ Below w.heap.size w w') := by
 subst hsize
 subst hby
 have hl := hs.newsLen
 have hsmall : n + m <= 9223372036854775807 := by simp only [maxLen] at h63; omega
 have hlen : (xs ++ news).length = (n + m) * i.size := by rw [List.length_append, hown.1, hl, Nat.add_mul]
 have grown : ∀ (old : Nat), old < n + m -> ∀ (row : Option Nat),
   (w.drew.alloc (.cells ((xs ++ news).toArray ++ Builtin.zeroCells z.cells (grownCap w (n + m) old e - (n + m))) e)).ownsRow base e i.size
    (.slice (some ⟨w.heap.size, 0, none⟩) (n + m) (grownCap w (n + m) old e)) (n + m) (xs ++ news) /\
   w.grownBy (w.drew.alloc (.cells ((xs ++ news).toArray ++ Builtin.zeroCells z.cells (grownCap w (n + m) old e - (n + m))) e)) row := by
  intro old ho row
  have hge := grownCap_ge w (n + m) old e
  have hcm : grownCap w (n + m) old e <= maxLen := grownCap_le_maxLen w (n + m) old e h63
  refine ⟨⟨hlen, .inr ⟨w.heap.size, _, _, rfl, hbase, heap_alloc_new w.drew _, hge, hcm, ?_, ?_⟩⟩, ⟨rfl, rfl, rfl, by simp, fun k hk _ => Go.heap_alloc_old w.drew _ hk⟩⟩
  ·rw [Array.size_append, List.size_toArray, size_zeroCells, hzs, hlen, <- Nat.add_mul]
   congr 1
   omega
  ·rw [Array.toList_append, <- hlen]
   exact List.take_left
 rcases hown.2 with ⟨rfl, rfl⟩ | ⟨g, cap, cur, rfl, hbg, hg, hnc, hcm, hcs, htake⟩
 ·have hx : xs = [] := List.eq_nil_of_length_eq_zero (by simpa using hown.1)
  subst hx
  have hr := run_append_grow_src (P := P) w t tx ty e i z ht hi hz none 0 0 [] (run_firstCells_none w.drew i.size 0 0 0) x m news hs (by omega) (by omega) (growslice_fits (by omega) hbytes)
  have hgr := grown 0 (by omega) (Value.ownBlock (.slice none 0 0))
  exact ⟨_, _, hr, hgr.1, hgr.2, .inr rfl, .inr (Below.alloc (Below.drew rB) rN _)⟩
 ·by_cases hroom : n + m <= cap
  ·have hfit : n * i.size + news.length <= cur.size := by rw [hl, hcs, <- Nat.add_mul]; exact Nat.mul_le_mul_right _ hroom
   have hr := run_append_room_src (P := P) w t tx ty e i ht hi g 0 n cap x m news hs hroom
    (fun j hj => by rw [Nat.zero_add, cell_of_row w g _ cur e (0, 0) hg, Array.getElem?_eq_getElem (by omega)]; rfl) (fun j hj => frozen_of_row w g _ cur e hg)
   rw [Nat.zero_add] at hr
   obtain ⟨⟨cur', h2, h3, h4⟩, h5⟩ := setCells_row g e news (n * i.size) w cur hg hfit
   refine ⟨_, _, hr, ⟨hlen, .inr ⟨g, cap, cur', rfl, hbg, h2, hroom, hcm, by rw [h3, hcs], ?_⟩⟩, h5, .inl rfl, .inl ⟨g, cap, rfl, rfl⟩⟩
   rw [Nat.add_mul, <- hl, h4, htake]
  ·have holds : (Builtin.firstCells i.size n (.slice (some ⟨g, 0, none⟩) n cap)).run P w.drew = .ok xs.toArray w.drew :=
    run_firstCells_some w.drew i.size n ⟨g, 0, none⟩ n cap xs hown.1 (by simpa using hown.cells (g := g) rfl)
   have hr := run_append_grow_src (P := P) w t tx ty e i z ht hi hz (some ⟨g, 0, none⟩) n cap xs holds x m news hs (by omega) (by omega) (growslice_fits (by omega) hbytes)
   have hgr := grown cap (by omega) (Value.ownBlock (.slice (some ⟨g, 0, none⟩) n cap))
   exact ⟨_, _, hr, hgr.1, hgr.2, .inr rfl, .inr (Below.alloc (Below.drew rB) rN _)⟩
theorem step_append_two {P : Program} (w : World) {ops : Array Oper} {o : Oper} {a : Act} {K : Act -> World -> Prop} {Q : Exit -> Act -> World -> Prop} {E : Prop} (hgd : o.guard = none) (s x : Operand) (t tx : TypeId)
  (ho : o.op = .call { callee := .builtin .append, args := #[s, x], argTypes := #[t, tx] })
  (base : Nat) (e : TypeId) (i : TypeInfo) (z : Value) (size bytes : Nat) (ht : P.underlying t = some (.slice e)) (hi : P.info? e = some i) (hz : i.zero = some z)
  (hsize : i.size = size) (hby : i.bytes = bytes) (hzs : z.cells.size = size)
  (v : Value) (n : Nat) (xs : List Value) (hs : a.eval s = v) (hown : w.ownsRow base e size v n xs)
  (y : Value) (hy : a.eval x = y) (m : Nat) (news : List Value) (hx : Src P size tx y m news w) (hm0 : 0 < m)
  (h63 : n + m <= maxLen) (hbytes : (n + m) * bytes <= 140737488355328) (hbase : base <= w.heap.size)
  (h : ∀ v' w', w'.ownsRow base e size v' (n + m) (xs ++ news) -> w.grownBy w' v.ownBlock -> (v'.ownBlock = v.ownBlock ∨ v'.ownBlock = some w.heap.size) ->
   ((∃ g cap, v = .slice (some ⟨g, 0, none⟩) n cap /\ w' = w.setCells g (n * size) news) ∨ Below w.heap.size w w') -> K (a.put o.dst v') w') :
  if Region.wanted o (yielded ops a.tmps) = true then Oper.wp P o a w K Q else E := by
 have hw : Region.wanted o (yielded ops a.tmps) = true := by simp [Region.wanted, hgd]
 rw [if_pos hw]
 subst hy
 obtain ⟨v', w', hr, h2, h3, h4, h5⟩ := run_append_two (P := P) w base t tx o.type e i z size bytes ht hi hz hsize hby hzs v n xs hown (a.eval x) m news hx hm0 h63 hbytes hbase
 unfold Oper.wp execOp
 simp only [ho, resolve, invoke, builtin, Sem.run_bind, Sem.run_pure, Result.andThen_ok, List.map_toArray, List.map_cons, List.map_nil, hs, hr]
 exact h v' w' h2 h3 h4 h5
theorem own_typed {α : Type} {size : Nat} {e : TypeId} {O : ORep α} {w : World} {v : Value} {l : List α} {F : List Nat} (h : ownS size e O w v l F) : ∀ b, v.ownBlock = some b -> b ∈ F /\ ∃ cur, w.heap[b]? = some (.cells cur e (0, 0)) := by
 rcases h with ⟨rfl, _, _⟩ | ⟨g, cap, cur, Fs, rfl, hg, _, _, _, _, _, rfl⟩
 ·intro b hb; simp [Value.ownBlock] at hb
 ·intro b hb; simp [Value.ownBlock] at hb; subst hb; exact ⟨by simp, cur, hg⟩
theorem inode_typed {w : World} {v : Value} {l : List MInode} {F : List Nat} (h : ownS 3 50 oInode w v l F) : ∀ b, b ∈ F -> ∃ cur e, w.heap[b]? = some (.cells cur e (0, 0)) /\ e ≠ 74 := by
 rcases h with ⟨rfl, _, rfl⟩ | ⟨g, cap, cur, Fs, rfl, hg, _, _, _, hfl, heach, rfl⟩
 ·intro b hb; cases hb
 ·intro b hb
  rcases List.mem_cons.1 hb with rfl | hb
  ·exact ⟨cur, _, hg, by decide⟩
  ·obtain ⟨j, hj, hjb⟩ := of_mem_flatten hb
   obtain ⟨v1, F1, _, _, ⟨ho, _, hF1⟩, _, hF⟩ := heach j (by omega)
   rw [hF, List.append_nil, hF1] at hjb
   rcases ho.2 with ⟨rfl, _⟩ | ⟨g1, cap1, cur1, rfl, _, hg1, _⟩
   ·simp [Value.ownBlock] at hjb
   ·simp [Value.ownBlock] at hjb
    subst hjb
    exact ⟨cur1, _, hg1, by decide⟩
theorem entry_nodup {w : World} {v : Value} {l : List MEntry} {F : List Nat} (h : ownS 2 74 oEntry w v l F) : F.Nodup := by
 rcases h with ⟨rfl, _, rfl⟩ | ⟨g, cap, cur, Fs, rfl, hg, _, _, _, hfl, heach, rfl⟩
 ·simp
 ·have hz : Fs.flatten = [] := by
   cases hF : Fs.flatten with
   | nil => rfl
   | cons x r =>
    obtain ⟨j, hj, hjb⟩ := of_mem_flatten (show x ∈ Fs.flatten by rw [hF]; simp)
    obtain ⟨_, _, _, he⟩ := heach j (by omega)
    rw [he] at hjb
    cases hjb
  rw [hz]
  simp
theorem leafE_set {w : World} {a : Option Addr} {c : Nat} {l : List MEntry} {F : List Nat} {g n : Nat} {cur : Array Value} {x : MEntry} (ho : ownS 2 74 oEntry w (.slice a l.length c) l F) (hx : x.fName.size <= 9223372036854775807 /\ (Lit.int .i64 x.fId).wf = true) (hg : w.heap[g]? = some (.cells cur 74 (0, 0))) (hfit : n * 2 + 2 <= cur.size) :
  ∃ l', l'.length = l.length /\ LeafL 2 rEntry w.heap.size (w.setCells g (n * 2) [.string x.fName, .int .i64 x.fId]) a c l' /\ sumW wEntry l' <= sumW wEntry l + x.fName.size := by
 have hlf := ownS.leaf oEntry_good ho
 by_cases hag : ∃ o, a = some ⟨g, o, none⟩
 ·obtain ⟨o, rfl⟩ := hag
  have ho0 : l ≠ [] -> o = 0 := by
   intro hne
   rcases ho with ⟨h, hl, _⟩ | ⟨g2, cap2, cur2, Fs2, h, _⟩
   ·exact absurd hl hne
   ·injection h with h1; injection h1 with h1; injection h1
  refine ⟨l.set n x, by simp, ⟨by simpa using hlf.1, hlf.2.1, fun j hj => ?_⟩, ?_⟩
  ·have hj' : j < l.length := by simpa using hj
   have hoz : o = 0 := ho0 (by intro h; subst h; simp at hj')
   subst hoz
   obtain ⟨b, off, he, hB, cs, h1, h2, h3⟩ := hlf.2.2 j hj'
   injection he with he
   injection he with he1 he2
   subst he1
   subst he2
   have hin := World.cell?_setCells_in g [.string x.fName, .int .i64 x.fId] (n * 2) w (fun k hk => by
    rw [cell_of_row w g _ cur _ (0, 0) hg, Array.getElem?_eq_getElem (by simp at hk; omega)]; rfl)
   by_cases hjn : j = n
   ·subst hjn
    refine ⟨g, 0, rfl, hB, [.string x.fName, .int .i64 x.fId], rfl, ?_, ?_⟩
    ·intro i u hu
     match i, hu with
     | 0, hu => simp at hu; subst hu; have := hin 0 (by simp); simpa using this
     | 1, hu => simp at hu; subst hu; have := hin 1 (by simp); simpa using this
    ·have : (l.set j x)[j] = x := by simp
     rw [this]
     exact ⟨rfl, hx.1, hx.2, trivial⟩
   ·refine ⟨g, 0, rfl, hB, cs, h1, ?_, ?_⟩
    ·intro i u hu
     have hi : i < 2 := by rw [<- h1]; exact (List.getElem?_eq_some_iff.1 hu).1
     rw [World.cell?_setCells_out g _ _ w ⟨g, 0 + j * 2 + i, none⟩ (fun _ _ => by simp; omega)]
     exact h2 i u hu
    ·have : (l.set n x)[j] = l[j] := List.getElem_set_ne (fun h => hjn h.symm) _
     rw [this]
     obtain ⟨e1, e2, e3, _⟩ := h3
     exact ⟨e1, e2, e3, trivial⟩
  ·have key : ∀ (q : List MEntry) (k : Nat), sumW wEntry (q.set k x) <= sumW wEntry q + x.fName.size := by
    intro q
    induction q with
    | nil => intro k; simp [sumW]
    | cons y r ih =>
     intro k
     cases k with
     | zero => simp only [List.set_cons_zero, sumW, wEntry]; omega
     | succ k => have := ih k; simp only [List.set_cons_succ, sumW]; omega
   exact key l n
 ·refine ⟨l, rfl, ⟨hlf.1, hlf.2.1, fun j hj => ?_⟩, by omega⟩
  obtain ⟨b, off, he, hB, cs, h1, h2, h3⟩ := hlf.2.2 j hj
  have hbg : b ≠ g := fun h => hag ⟨off, by rw [he, h]⟩
  refine ⟨b, off, he, hB, cs, h1, fun i u hu => ?_, ?_⟩
  ·rw [World.cell?_setCells_out g _ _ w ⟨b, _, none⟩ (fun h _ => absurd h hbg)]
   exact h2 i u hu
  ·obtain ⟨e1, e2, e3, _⟩ := h3
   exact ⟨e1, e2, e3, trivial⟩
structure ESt (w : World) (g br bd : Nat) (W : World) (cs : List Value) (m : MDisk) : Prop where
 d : Bw W bd 27 cs
 r : Bw W br 27 dZ
 k : rDisk W.heap.size W cs m
 s : wDisk m <= 1048576
 c : CurOk W g
 t : Turn [g] w W
section
variable {w : World} {g br bd : Nat} {W W' : World} {cs : List Value} {m : MDisk} {a0 a1 a2 : Option Addr} {n0 c0 n1 c1 n2 c2 : Nat} {z : Int}
theorem DSt.e (h : DSt w g br bd W cs m) : ESt w g br bd W cs m := ⟨h.d, h.r, h.read, h.f.small, h.c, h.t⟩
theorem DSt.rows (h : DSt w g br bd W [.slice a0 n0 c0, .slice a1 n1 c1, .slice a2 n2 c2, .int .i64 z] m) :
  n0 = m.fInodes.length /\ n1 = m.fNames.length /\ n2 = m.fSafe.length /\ z = m.fNext /\ ∃ F0 F1 F2, ownS 3 50 oInode W (.slice a0 n0 c0) m.fInodes F0 /\ ownS 2 74 oEntry W (.slice a1 n1 c1) m.fNames F1 /\ ownS 2 74 oEntry W (.slice a2 n2 c2) m.fSafe F2 /\ (Lit.int .i64 m.fNext).wf = true /\ ∀ b, b ∈ F0 ++ F1 ++ F2 -> w.heap.size <= b /\ b ≠ bd /\ b ≠ br := by
 obtain ⟨F, ho, hF⟩ := h.o
 obtain ⟨a0', c0', a1', c1', a2', c2', F0, F1, F2, hc, h0, h1, h2, h3, rfl⟩ := oDisk_cells ho
 injection hc with e0 hc
 injection hc with e1 hc
 injection hc with e2 hc
 injection hc with e3 _
 injection e0 with x0 y0 z0
 injection e1 with x1 y1 z1
 injection e2 with x2 y2 z2
 injection e3 with _ e3
 refine ⟨y0, y1, y2, e3, F0, F1, F2, ?_, ?_, ?_, h3, fun b hb => hF b (by simpa using hb)⟩
 ·rw [x0, y0, z0]; exact h0
 ·rw [x1, y1, z1]; exact h1
 ·rw [x2, y2, z2]; exact h2
theorem dbox4 {t : TypeId} (h : Bw W bd t [.slice a0 n0 c0, .slice a1 n1 c1, .slice a2 n2 c2, .int .i64 z]) : DBox W bd := ⟨t, _, _, _, _, _, _, _, _, _, _, h⟩
theorem turn_one (w : World) (b i : Nat) (u : Value) : Turn [b] w (w.setCell ⟨b, i, none⟩ u) := (Turn.refl _ _).setCell (by simp) _
theorem ESt.put {i : Nat} {u : Value} {cs' : List Value} {m' : MDisk} (hp : DPl w g br bd) (hd : Bw W bd 27 [.slice a0 n0 c0, .slice a1 n1 c1, .slice a2 n2 c2, .int .i64 z]) (hr : Bw W br 27 dZ) (hk : rDisk W.heap.size W cs' m') (hs : wDisk m' <= 1048576) (hc : CurOk W g) (ht : Turn [g] w W) (hcs : [.slice a0 n0 c0, .slice a1 n1 c1, .slice a2 n2 c2, .int .i64 z].set i u = cs') :
  ESt w g br bd (W.setCell ⟨bd, i, none⟩ u) cs' m' := by
 have h1 := hp.g
 have h2 := hp.r
 have h3 := hp.d
 have h4 := hp.n
 have hT := turn_one W bd i u
 refine ⟨by rw [<- hcs]; exact hd.put i u, hr.turn hT (by simp; omega), ?_, hs, hc.turn hT (by omega), ht.join hT (fun k hk => by simp at hk; right; omega)⟩
 have hz : (W.setCell ⟨bd, i, none⟩ u).heap.size = W.heap.size := by simp
 rw [hz]
 exact rDisk_turn (dbox4 hd) hT hk
theorem ESt.leave (hp : DPl w g br bd) (h : ESt w g br bd W cs m) (hT : Turn [br] W W') (hz : W'.heap.size = W.heap.size) : rDisk W'.heap.size W' cs m /\ wDisk m <= 1048576 /\ CurOk W' g /\ Turn [g] w W' := by
 have h1 := hp.g
 have h2 := hp.r
 refine ⟨?_, h.s, h.c.turn hT (by omega), h.t.join hT (fun k hk => by simp at hk; right; omega)⟩
 rw [hz]
 exact rDisk_turn (Bw.dzero h.r) hT h.k
theorem DSt.next (h : DSt w g br bd W [.slice a0 n0 c0, .slice a1 n1 c1, .slice a2 n2 c2, .int .i64 z] m) {j : Int} (hj : (Lit.int .i64 j).wf = true) : rDisk W.heap.size W [.slice a0 n0 c0, .slice a1 n1 c1, .slice a2 n2 c2, .int .i64 j] { m with fNext := j } /\ wDisk { m with fNext := j } <= 1048576 := by
 obtain ⟨b0, d0, b1, d1, b2, d2, hc, h0, h1, h2, h3, _⟩ := h.read
 injection hc with e0 hc
 injection hc with e1 hc
 injection hc with e2 hc
 exact ⟨⟨b0, d0, b1, d1, b2, d2, by rw [e0, e1, e2], h0, h1, h2, hj, trivial⟩, h.f.small⟩
theorem DSt.loose (h : DSt w g br bd W [.slice a0 n0 c0, .slice a1 n1 c1, .slice a2 n2 c2, .int .i64 z] m) : rDisk W.heap.size W [.slice a0 n0 c0, .slice a1 n1 c1, .slice none 0 0, .int .i64 z] { m with fSafe := [] } /\ wDisk { m with fSafe := [] } <= 1048576 := by
 obtain ⟨b0, d0, b1, d1, b2, d2, hc, h0, h1, h2, h3, _⟩ := h.read
 injection hc with e0 hc
 injection hc with e1 hc
 injection hc with e2 hc
 injection hc with e3 _
 refine ⟨⟨b0, d0, b1, d1, none, 0, by rw [e0, e1, e3]; rfl, h0, h1, ⟨rN, by omega, fun j hj => by cases hj⟩, h3, trivial⟩, ?_⟩
 have := h.f
 unfold Fit at this
 rw [wDisk_eq] at this ⊢
 simp only [List.length_nil, sumW]
 omega
theorem setCells_len (g : Nat) (e : TypeId) : ∀ (news : List Value) (o : Nat) (w : World) (cur : Array Value), w.heap[g]? = some (.cells cur e (0, 0)) -> ∃ cur' : Array Value, (w.setCells g o news).heap[g]? = some (.cells cur' e (0, 0)) /\ cur'.size = cur.size
 | [], o, w, cur, hg => ⟨cur, hg, rfl⟩
 | u :: r, o, w, cur, hg => by
  obtain ⟨cur', h2, h3⟩ := setCells_len g e r (o + 1) (w.setCell ⟨g, o, none⟩ u) (cur.setIfInBounds o u) (heap_setCell_same w g o cur e u hg)
  exact ⟨cur', h2, by simpa using h3⟩
theorem DSt.push (hp : DPl w g br bd) (h : DSt w g br bd W [.slice a0 n0 c0, .slice a1 n1 c1, .slice a2 n2 c2, .int .i64 z] m) : n1 <= 1000000 /\ ∃ xs, W.ownsRow 0 74 2 (.slice a1 n1 c1) n1 xs /\
  ∀ (v' : Value) (W' : World) (s : ByteArray) (x : Int), s.size <= 20 -> (Lit.int .i64 x).wf = true -> W'.ownsRow 0 74 2 v' (n1 + 1) (xs ++ [.string s, .int .i64 x]) -> W.grownBy W' (Value.ownBlock (.slice a1 n1 c1)) -> (v'.ownBlock = Value.ownBlock (.slice a1 n1 c1) ∨ v'.ownBlock = some W.heap.size) ->
   ((∃ gg cap, Value.slice a1 n1 c1 = .slice (some ⟨gg, 0, none⟩) n1 cap /\ W' = W.setCells gg (n1 * 2) [.string s, .int .i64 x]) ∨ Below W.heap.size W W') ->
   ∃ (r : Option Addr) (q : Nat) (m' : MDisk), v' = .slice r (n1 + 1) q /\ Bw W' bd 27 [.slice a0 n0 c0, .slice a1 n1 c1, .slice a2 n2 c2, .int .i64 z] /\ Bw W' br 27 dZ /\ rDisk W'.heap.size W' [.slice a0 n0 c0, .slice r (n1 + 1) q, .slice a2 n2 c2, .int .i64 z] m' /\ wDisk m' <= 1048576 /\ CurOk W' g /\ Turn [g] w W' := by
 have hfit := h.f
 unfold Fit at hfit
 rw [wDisk_eq] at hfit
 obtain ⟨e0, e1, e2, e3, F0, F1, F2, hI, hN, hS, hzw, hF⟩ := h.rows
 have hn1 := hp.g
 have hn2 := hp.r
 have hn3 := hp.d
 refine ⟨by omega, ?_⟩
 obtain ⟨xs, hxs, hpush⟩ := ownS.push oEntry_good hN (entry_nodup hN)
 rw [<- e1] at hxs
 refine ⟨xs, hxs, ?_⟩
 intro v' W' s x hs hx hown hgr hat htwo
 obtain ⟨r, q, rfl⟩ := own_slice hown
 obtain ⟨F', ho', _, _⟩ := hpush W' _ _ ⟨s, x⟩ [] (by rw [<- e1]; exact hown) hgr hat ⟨rfl, (show s.size <= 9223372036854775807 by omega), hx, rfl⟩ (by simp) (fun b hb => by cases hb)
 have hblk : ∀ b, Value.ownBlock (.slice a1 n1 c1) = some b -> w.heap.size <= b /\ b ≠ bd /\ b ≠ br := fun b hb => hF b (by have := (own_typed hN b hb).1; simp [this])
 have hT1 : Turn (Value.ownBlock (.slice a1 n1 c1)).toList W W' := turnOwn hgr
 have hnI : ∀ b, b ∈ F0 -> b ∉ (Value.ownBlock (.slice a1 n1 c1)).toList := by
  intro b hb hm
  have hm : Value.ownBlock (.slice a1 n1 c1) = some b := by simpa using hm
  obtain ⟨cur, hc1⟩ := (own_typed hN b hm).2
  obtain ⟨cur2, e, hc2, hne⟩ := inode_typed hI b hb
  rw [hc1] at hc2
  injection hc2 with hc2
  injection hc2 with _ hc2
  exact hne hc2.symm
 have hI' := ownS.frame (w' := W') oInode_good hI (fun b hb => hT1.block b (ownS.lt oInode_good hI b hb) (hnI b hb))
 have hsafe : ∃ S', S'.length = m.fSafe.length /\ LeafL 2 rEntry W'.heap.size W' a2 c2 S' /\ sumW wEntry S' <= sumW wEntry m.fSafe + s.size := by
  rcases htwo with ⟨gg, cap, hv, rfl⟩ | hb
  ·obtain ⟨cur, hgc⟩ := (own_typed hN gg (by rw [hv]; rfl)).2
   have hfit2 : n1 * 2 + 2 <= cur.size := by
    rcases hown.2 with ⟨_, h0⟩ | ⟨g3, cap3, cur3, h3, _, hg3, hle3, _, hs3, _⟩
    ·omega
    ·injection h3 with h3 _ h5
     rw [h3] at hat
     have hg : g3 = gg := by
      rcases hat with h6 | h6
      ·rw [hv] at h6
       simpa [Value.ownBlock] using h6
      ·have h7 : g3 = W.heap.size := by simpa [Value.ownBlock] using h6
       rw [h7] at hg3
       have := (Array.getElem?_eq_some_iff.1 hg3).1
       rw [size_setCells_w] at this
       omega
     subst hg
     have hzz : cur3.size = cur.size := by
      have hk := setCells_len g3 _ [.string s, .int .i64 x] (n1 * 2) W cur hgc
      obtain ⟨cur4, h8, h9⟩ := hk
      rw [h8] at hg3
      injection hg3 with hg3
      injection hg3 with hg3
      rw [<- hg3, h9]
     omega
   have := leafE_set (x := ⟨s, x⟩) (n := n1) (g := gg) (cur := cur) (by rw [<- e2]; exact hS) ⟨by show s.size <= _; omega, hx⟩ hgc hfit2
   obtain ⟨l', hl', hlf, hsw⟩ := this
   exact ⟨l', hl', by rw [size_setCells_w]; exact hlf, hsw⟩
  ·refine ⟨m.fSafe, rfl, ?_, by omega⟩
   have hlf := ownS.leaf oEntry_good (by rw [<- e2]; exact hS)
   exact LeafL.mono rEntry_good (LeafL.below rEntry_good hlf hb) hb.size
 obtain ⟨S', hSl, hSr, hSw⟩ := hsafe
 refine ⟨r, q, { m with fNames := m.fNames ++ [⟨s, x⟩], fSafe := S' }, rfl, ?_, ?_, ?_, ?_, ?_, ?_⟩
 ·exact h.d.turn hT1 (fun hm => (hblk bd (by simpa using hm)).2.1 rfl)
 ·exact h.r.turn hT1 (fun hm => (hblk br (by simpa using hm)).2.2 rfl)
 ·obtain ⟨a0', c0', hv0, hl0⟩ := ownS.read oInode_good hI'
  obtain ⟨a1', c1', hv1, hl1⟩ := ownS.read oEntry_good ho'
  injection hv0 with x0 y0 z0
  injection hv1 with x1 y1 z1
  refine ⟨a0', c0', a1', c1', a2, c2, ?_, hl0, hl1, hSr, hzw, trivial⟩
  show _ = [Value.slice a0' m.fInodes.length c0', .slice a1' (m.fNames ++ [(⟨s, x⟩ : MEntry)]).length c1', .slice a2 S'.length c2, .int .i64 m.fNext]
  rw [x0, y0, z0, x1, y1, z1, hSl, e2, e3]
 ·have hsum : sumW wEntry (m.fNames ++ [⟨s, x⟩]) = sumW wEntry m.fNames + s.size := by
   have key : ∀ l : List MEntry, sumW wEntry (l ++ [⟨s, x⟩]) = sumW wEntry l + s.size := by
    intro l
    induction l with
    | nil => simp [sumW, wEntry]
    | cons y r ih => simp only [List.cons_append, sumW, ih]; omega
   exact key _
  rw [wDisk_eq]
  simp only [List.length_append, List.length_cons, List.length_nil]
  rw [hsum]
  omega
 ·obtain ⟨a, n, cap, B, zs, f1, f2, f3, f4, ⟨i, qq, f5, f6, f7⟩, f8⟩ := h.c
  have hz := h.t.size
  refine ⟨a, n, cap, B, zs, f1, f2, f3, f4.below (hT1.below (fun k hk => by have := (hblk k (by simpa using hk)).1; omega) (by omega)), ⟨i, qq, f5, f6, ?_⟩, Nat.lt_of_lt_of_le f8 hT1.size⟩
  rw [hT1.block g f8 (fun hm => by have := (hblk g (by simpa using hm)).1; omega)]
  exact f7
 ·exact h.t.join hT1 (fun k hk => .inr (hblk k (by simpa using hk)).1)
theorem leafB_cell {B : Nat} {p : Addr} {y : Int} {u : Value} {a : Option Addr} {c : Nat} {zs : List Int} (hc : W.cell? p = some (.int .i64 y)) (hl : LeafB B W a c zs) : LeafB B (W.setCell p u) a c zs := by
 refine ⟨hl.1, hl.2.1, fun j hj => ?_, hl.2.2.2⟩
 obtain ⟨b, off, e, hB, h1⟩ := hl.2.2.1 j hj
 refine ⟨b, off, e, hB, ?_⟩
 rw [World.cell?_setCell_other _ _ _ _ (fun h => by rw [h, h1] at hc; cases hc)]
 exact h1
theorem leafE_cell {B gI : Nat} {y : Int} {u : Value} {ad : Option Addr} {k q : Nat} {a : Option Addr} {c : Nat} {l : List MEntry} (hc : W.cell? ⟨gI, 2, none⟩ = some (.int .i64 y)) (hd : W.cell? ⟨gI, 1, none⟩ = some (.slice ad k q)) (hl : LeafL 2 rEntry B W a c l) : LeafL 2 rEntry B (W.setCell ⟨gI, 2, none⟩ u) a c l := by
 refine ⟨hl.1, hl.2.1, fun j hj => ?_⟩
 obtain ⟨b, off, e, hB, cs, h1, h2, h3⟩ := hl.2.2 j hj
 obtain ⟨rfl, h4, h5, _⟩ := h3
 have k0 := h2 0 _ rfl
 have k1 := h2 1 _ rfl
 refine ⟨b, off, e, hB, _, h1, fun i v hv => ?_, rfl, h4, h5, trivial⟩
 rw [World.cell?_setCell_other _ _ _ _ (fun h => ?_)]
 ·exact h2 i v hv
 ·injection h with hb ho
  subst hb
  match i, hv with
  | 0, hv => rw [<- ho, hc] at k0; cases k0
  | 1, hv =>
   have : off + j * 2 + 0 = 1 := by omega
   rw [this, hd] at k0
   cases k0
theorem DSt.sure (hp : DPl w g br bd) (h : DSt w g br bd W [.slice a0 n0 c0, .slice a1 n1 c1, .slice a2 n2 c2, .int .i64 z] m) (h0 : 0 < n0) : ∃ gI, a0 = some ⟨gI, 0, none⟩ /\ (∃ u, W.cell? ⟨gI, 2, none⟩ = some u) /\ W.frozen? ⟨gI, 2, none⟩ = false /\ gI < W.heap.size /\
  ∀ j : Int, (Lit.int .i64 j).wf = true -> ∃ m', ESt w g br bd (W.setCell ⟨gI, 2, none⟩ (.int .i64 j)) [.slice a0 n0 c0, .slice a1 n1 c1, .slice a2 n2 c2, .int .i64 z] m' := by
 obtain ⟨e0, e1, e2, e3, F0, F1, F2, hI, hN, hS, hzw, hF⟩ := h.rows
 have hn1 := hp.g
 have hn2 := hp.r
 have hn3 := hp.d
 have hlI := ownS.leaf oInode_good (by rw [<- e0]; exact hI)
 have hlN := ownS.leaf oEntry_good (by rw [<- e1]; exact hN)
 have hlS := ownS.leaf oEntry_good (by rw [<- e2]; exact hS)
 rcases hI with ⟨_, hl, _⟩ | ⟨gI, cap, cur, Fs, hv, hg, _, _, _, _, _, hFe⟩
 ·rw [e0, hl] at h0; simp at h0
 ·injection hv with hv _ _
  subst hv
  have hgF := hF gI (by simp [hFe])
  obtain ⟨b, off, he, hB, cs, h1, h2, ad, cd, rfl, i1, i2, i3, _⟩ := hlI.2.2 0 (by omega)
  injection he with he
  injection he with he1 he2
  subst he1
  subst he2
  have k1 := h2 1 _ rfl
  have k2 := h2 2 _ rfl
  simp only [Nat.zero_mul, Nat.zero_add] at k1 k2
  refine ⟨gI, rfl, ⟨_, k2⟩, frozen_of_row W gI 2 _ _ hg, hB, fun j hj => ?_⟩
  have hT := turn_one W gI 2 (.int .i64 j)
  have hz : (W.setCell ⟨gI, 2, none⟩ (.int .i64 j)).heap.size = W.heap.size := by simp
  refine ⟨{ m with fInodes := m.fInodes.set 0 { m.fInodes[0] with fSure := j } }, h.d.turn hT (by simp; exact fun h => hgF.2.1 h.symm), h.r.turn hT (by simp; exact fun h => hgF.2.2 h.symm), ?_, ?_, h.c.turn hT (by omega), h.t.join hT (fun k hk => by simp at hk; right; omega)⟩
  ·rw [hz]
   refine ⟨some ⟨gI, 0, none⟩, c0, a1, c1, a2, c2, ?_, ⟨by simpa using hlI.1, hlI.2.1, fun k hk => ?_⟩, leafE_cell k2 k1 hlN, leafE_cell k2 k1 hlS, hzw, trivial⟩
   ·show _ = [Value.slice (some ⟨gI, 0, none⟩) (m.fInodes.set 0 _).length c0, .slice a1 m.fNames.length c1, .slice a2 m.fSafe.length c2, .int .i64 m.fNext]
    rw [List.length_set, e0, e1, e2, e3]
   ·have hk' : k < m.fInodes.length := by simpa using hk
    obtain ⟨b', off', he', hB', cs', g1, g2, ad', cd', rfl, j1, j2, j3, _⟩ := hlI.2.2 k hk'
    injection he' with he'
    injection he' with q1 q2
    subst q1
    subst q2
    by_cases hk0 : k = 0
    ·subst hk0
     refine ⟨gI, 0, rfl, hB, [.int .i64 m.fInodes[0].fId, .slice ad' m.fInodes[0].fData.length cd', .int .i64 j], rfl, ?_, ?_⟩
     ·intro i v hv
      match i, hv with
      | 0, hv => rw [World.cell?_setCell_other _ _ _ _ (by simp)]; exact g2 0 v hv
      | 1, hv => rw [World.cell?_setCell_other _ _ _ _ (by simp)]; exact g2 1 v hv
      | 2, hv =>
       simp at hv
       subst hv
       exact World.cell?_setCell_same _ _ _ k2
     ·have hx : (m.fInodes.set 0 { m.fInodes[0] with fSure := j })[0] = { m.fInodes[0] with fSure := j } := by simp
      rw [hx]
      exact ⟨ad', cd', rfl, j1, leafB_cell k2 j2, hj, trivial⟩
    ·refine ⟨gI, 0, rfl, hB, _, g1, ?_, ?_⟩
     ·intro i v hv
      rw [World.cell?_setCell_other _ _ _ _ (by intro hh; injection hh with _ hh; omega)]
      exact g2 i v hv
     ·have hx : (m.fInodes.set 0 { m.fInodes[0] with fSure := j })[k] = m.fInodes[k] := List.getElem_set_ne (fun hh => hk0 hh.symm) _
      rw [hx]
      exact ⟨ad', cd', rfl, j1, leafB_cell k2 j2, j3, trivial⟩
  ·have hfit := h.f.small
   rw [wDisk_eq] at hfit ⊢
   have hs : sumW wInode (m.fInodes.set 0 { m.fInodes[0] with fSure := j }) = sumW wInode m.fInodes := by
    have key : ∀ (l : List MInode) (hl : 0 < l.length), sumW wInode (l.set 0 { l[0] with fSure := j }) = sumW wInode l := by
     intro l hl
     cases l with
     | nil => simp at hl
     | cons y r => rfl
    exact key _ _
   simp only [List.length_set]
   rw [hs]
   exact hfit
end
end Go.Proofs.YtegonncmopecnaaGreatDoor

namespace Go.Proofs.YtegonncmopecnaaGreatDoor
open Go.RowKit
theorem Tryz.infoOfInode : (Tryz.prog.info? 50).map (fun i => (i.zero, i.size, i.bytes)) = some (some (.agg #[.int .i64 0, .slice none 0 0, .int .i64 0]), 3, 40) := by kernel_rfl
theorem Tryz.infoOfEntry : (Tryz.prog.info? 74).map (fun i => (i.zero, i.size, i.bytes)) = some (some (.agg #[.string ⟨#[]⟩, .int .i64 0]), 2, 24) := by kernel_rfl
def rdB (B : Nat) (w : World) (v : Value) (zs : List Int) : Prop := ∃ a c, v = .slice a zs.length c /\ LeafB B w a c zs
theorem rdB.below {B : Nat} {w w' : World} {v : Value} {zs : List Int} (h : rdB B w v zs) (hb : Below B w w') : rdB B w' v zs := by
 obtain ⟨a, c, e, h1⟩ := h
 exact ⟨a, c, e, h1.below hb⟩
theorem rdB.mono {B B' : Nat} {w : World} {v : Value} {zs : List Int} (h : rdB B w v zs) (hB : B <= B') : rdB B' w v zs := by
 obtain ⟨a, c, e, h1⟩ := h
 exact ⟨a, c, e, h1.mono hB⟩
theorem rdB_own {e : TypeId} {w : World} {v : Value} {zs : List Int} {F : List Nat} (h : ownB e w v zs F) : rdB w.heap.size w v zs := h.read
theorem wpList_copy_in {P : Program} {w : World} {ops : Array Oper} {rest : List Oper} {o : Oper} {a : Act} {Q : Exit -> Act -> World -> Prop} (hgd : o.guard = none) (d s : Operand) (dT sT : TypeId)
  (ho : o.op = .call { callee := .builtin .copy, args := #[d, s], argTypes := #[dT, sT] }) (e : TypeId) (i : TypeInfo) (hu : P.underlying dT = some (.slice e)) (hi : P.info? e = some i) (hsz : i.size = 1)
  (base g off tot cap n dcap sl scap : Nat) (ao : Option Addr) (hd : a.eval d = .slice (some ⟨g, off, none⟩) n dcap) (hs : a.eval s = .slice ao sl scap)
  (xs : List Value) (hown : w.ownsRow base e 1 (.slice (some ⟨g, 0, none⟩) tot cap) tot xs)
  (k : IntKind) (zs : List Int) (B : Nat) (hz : zs.length = sl) (hle : sl <= n) (hfit : off + sl <= tot) (hr : Rd k B w ao zs)
  (h : ∀ w', w'.ownsRow base e 1 (.slice (some ⟨g, 0, none⟩) tot cap) tot (xs.take off ++ (zs.map (Value.int k) ++ xs.drop (off + sl))) -> w.grownBy w' (some g) -> wpList P ops Q rest (a.put o.dst (goInt sl)) w') : wpList P ops Q (o :: rest) a w := by
 have hsz' : (P.info? e).map (·.size) = some 1 := by rw [hi]; simp [hsz]
 by_cases h0 : sl = 0
 ·subst h0
  have hz' : zs = [] := List.eq_nil_of_length_eq_zero hz
  subst hz'
  refine wpList_copy_nothing hgd d s dT sT ho e hu hsz' _ _ _ _ _ _ hd hs (by simp) (h w ?_ (World.grownBy.refl _ _))
  simpa using hown
 ·obtain ⟨b, so, rfl, _, _⟩ := hr 0 (by omega)
  rcases hown.2 with ⟨h', _⟩ | ⟨g', cap', cur, h', hb, hg, hnc, hcm, hcs, htake⟩
  ·simp at h'
  ·simp only [Value.slice.injEq, Option.some.injEq, Addr.mk.injEq, and_true, true_and] at h'
   obtain ⟨rfl, rfl⟩ := h'
   have hl : (zs.map (Value.int k)).length = sl := by simp [hz]
   refine wpList_copy_own hgd d s dT sT ho e hu hsz' g off n dcap ⟨b, so, none⟩ sl scap hd hs cur e hg (zs.map (Value.int k)) (by rw [hl]; exact (Nat.min_eq_left hle).symm) ?_ (by rw [hl]; omega) (ints_oneCell k _) ?_
   ·intro j u hu
    have hj : j < zs.length := by
     rcases Nat.lt_or_ge j zs.length with h | h
     ·exact h
     ·rw [List.getElem?_eq_none (by simpa using h)] at hu; cases hu
    obtain ⟨b', off', e', _, hc⟩ := hr j hj
    simp only [Option.some.injEq, Addr.mk.injEq, and_true] at e'
    obtain ⟨rfl, rfl⟩ := e'
    rw [Addr.add_lit, hc]
    simp [List.getElem?_eq_getElem hj] at hu
    simp [List.getElem?_eq_getElem hj, hu]
   ·rw [hl]
    have hlen := hown.1
    simp only [Nat.mul_one] at hlen hcs htake
    have hct : cur.toList.length = cap := by simpa using hcs
    refine h _ ⟨by simp [hz]; omega, .inr ⟨g, cap, _, rfl, hb, setRow_heap w g cur _ e _ hg, hnc, hcm, ?_, ?_⟩⟩ ⟨rfl, rfl, rfl, by simp [World.setRow], fun k _ hk => setRow_other w g k _ (fun e => hk (by simp [e]))⟩
    ·simp [hz]; omega
    ·rw [List.toList_toArray, Nat.mul_one, <- htake]
     have e1 : min off cap = off := by omega
     have e2 : min off (min tot cap) = off := by omega
     apply List.ext_getElem?
     intro j
     simp only [List.getElem?_take, List.getElem?_append, List.length_take, List.getElem?_drop, List.length_map, hz, hct, e1, e2]
     by_cases h1 : j < off
     ·have hj : j < tot := by omega
      simp [h1, hj]
     ·by_cases h2 : j - off < sl
      ·have hj : j < tot := by omega
       simp [h1, h2, hj]
      ·have e3 : off + sl + (j - off - sl) = j := by omega
       simp [h1, h2, e3]
set_option maxHeartbeats 400000 in
theorem joinBytes_any (a b : Option Addr) (ca cb : Nat) (za zb : List Int) (w : World) (ha : LeafB w.heap.size w a ca za) (hb : LeafB w.heap.size w b cb zb) (hla : za.length <= 2097152) (hlb : zb.length <= 2097152) :
  Calls Tryz.prog 25 #[.slice a za.length ca, .slice b zb.length cb] w fun e w' => ∃ (v : Value) (F : List Nat), e = .returned v /\ ownB 5 w' v (za ++ zb) F /\ F.Nodup /\ (∀ b, b ∈ F -> w.heap.size <= b) /\ Below w.heap.size w w' := by
 obtain ⟨i0, hi, hz0, hz1, hz2⟩ := info_parts Tryz.info5
 have HA := Hm ha
 have HB := Hm hb
 clear ha hb
 obtain ⟨na, hna⟩ : ∃ n, za.length = n := ⟨_, rfl⟩
 obtain ⟨nb, hnb⟩ : ∃ n, zb.length = n := ⟨_, rfl⟩
 have HNA := Hm hna
 have HNB := Hm hnb
 rw [hna] at hla ⊢
 rw [hnb] at hlb ⊢
 clear hna hnb
 go_enter Tryz.func25, Tryz.ntmps25
 go_wp2_with (at_make; refine wpList_make_full _ rfl _ _ 22 rfl w.heap.size 5 i0 (.int .u8 0) 1 Tryz.underlying22 hi hz0 hz1 .i64 .i64 _ _ (na + nb) rfl rfl (by first | rfl | (push_cast; rfl) | simp) rfl (by rw [hz2]; omega) (by unfold maxLen; omega) rN ?_)
 intro w1 hown hgr
 have hb1 : Below w.heap.size w w1 := rB.grown hgr rN (fun k h => by cases h)
 rw [toList_madeCells_one] at hown
 have ra := (HA.out.below hb1).2.2.1
 have hlt1 : w.heap.size < w1.heap.size := (hown.lt w.heap.size rfl).2
 by_cases h0 : nb = 0
 ·subst h0
  have hzb : zb = [] := List.eq_nil_of_length_eq_zero HNB.out
  subst hzb
  rw [Nat.add_zero] at *
  go_wp2_with (first
   | (refine wpList_copy_in rfl _ _ 22 22 rfl 5 i0 Tryz.underlying22 hi hz1 w.heap.size w.heap.size 0 (na) (na) (na) (na) na ca _ rfl rfl _ hown .u8 za w.heap.size HNA.out (by omega) (by omega) ra ?_; intro w2 hown2 hg2)
   | (refine wpList_copy_nothing rfl _ _ 22 22 rfl 5 Tryz.underlying22 (by rw [hi]; simp [hz1]) _ _ _ _ _ _ rfl rfl (by simp) ?_))
  have hb2 : Below w.heap.size w w2 := hb1.grown hg2 (Nat.le_of_lt hlt1) (fun k h => by cases h; exact rN)
  go_ret
  refine ⟨_, [w.heap.size], rfl, ⟨?_, ?_, rfl⟩, by simp, (fun b hb => by simp at hb; omega), hb2⟩
  ·refine own_base (own_congr hown2 (by simp [HNA.out]) ?_) (Nat.zero_le _)
   simp
  ·rw [List.append_nil]
   exact HA.out.2.2.2
 ·have hnb0 : 0 < nb := by omega
  go_wp2_with (first
   | (refine wpList_copy_in rfl _ _ 22 22 rfl 5 i0 Tryz.underlying22 hi hz1 w.heap.size w.heap.size 0 (na + nb) (na + nb) (na + nb) (na + nb) na ca _ rfl rfl _ hown .u8 za w.heap.size HNA.out (by omega) (by omega) ra ?_; intro w2 hown2 hg2; have hb2 : Below w.heap.size w w2 := hb1.grown hg2 (Nat.le_of_lt hlt1) (fun k h => by cases h; exact rN); have hlt2 : w.heap.size < w2.heap.size := (hown2.lt w.heap.size rfl).2; have rb := (HB.out.below hb2).2.2.1)
   | (refine wpList_copy_in rfl _ _ 22 22 rfl 5 i0 Tryz.underlying22 hi hz1 w.heap.size w.heap.size na (na + nb) (na + nb) nb nb nb cb _ rfl rfl _ hown2 .u8 zb w.heap.size HNB.out (by omega) (by omega) rb ?_; intro w3 hown3 hg3))
  have hb3 : Below w.heap.size w w3 := hb2.grown hg3 (Nat.le_of_lt hlt2) (fun k h => by cases h; exact rN)
  go_ret
  refine ⟨_, [w.heap.size], rfl, ⟨?_, ?_, rfl⟩, by simp, (fun b hb => by simp at hb; omega), hb3⟩
  ·refine own_base (own_congr hown3 (by simp [HNA.out, HNB.out]) ?_) (Nat.zero_le _)
   have hna := HNA.out
   simp [hna]
   done
  ·intro z hz
   rcases List.mem_append.1 hz with h | h
   ·exact HA.out.2.2.2 z h
   ·exact HB.out.2.2.2 z h
end Go.Proofs.YtegonncmopecnaaGreatDoor
