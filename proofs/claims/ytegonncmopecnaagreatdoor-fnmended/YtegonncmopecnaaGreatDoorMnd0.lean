/-
  Part 1 of the texts that the proof leans on.
-/
import Derived.Deep.RegionHeld3
import Derived.WalkKit
import Derived.WalkSpells
import Derived.WalkLawsBesides
import Derived.Deep.QuietTactic
import Derived.BigQuiet
import Derived.OpenShut
import Derived.Deep.AppendSrc
import Derived.Laws.CopyOwn
import Derived.Test.YtegonncmopecnaaGreatDoorRows
import Derived.Test.YtegonncmopecnaaGreatDoorChecked
set_option linter.unusedVariables false
set_option linter.unusedSimpArgs false
set_option maxRecDepth 10000

namespace Go.Proofs.YtegonncmopecnaaGreatDoor
open Go
section
variable {P : Program} {md : Region.Mode} {ops : Array Oper} {Q : Exit -> Act -> World -> Prop} {S : World -> Prop}
theorem tk (i : Nat) (oi : Oper) (d : Option Tmp) {v : Value} {fuel : Nat} {listed : Array Bool} {a : Act} {w : World} (hi : ops[i]? = some oi) (hd : oi.dst = d)
  (hc : (Region.noSelect ops && (Region.free md ops listed i && (Region.ready md ops listed).contains i)) = true) (hS : S w) (hw : Region.wanted oi (yielded ops a.tmps) = true)
  (hQ : ∀ c a w, Q (.panic c) (a.put d v) w -> Q (.panic c) a w) (hy : ∀ w, S w -> (execOp a.eval oi).run P w = .ok (.value v) w)
  (h : wpAnyH P md ops Q S fuel (listed.setIfInBounds i true) (a.put d v) w) : wpAnyH P md ops Q S (fuel + 1) listed a w := by
 subst hd
 simp only [Bool.and_eq_true] at hc
 exact wpAnyH_take hi hc.1 hc.2.1 hc.2.2 hQ (.inl ⟨hw, hy⟩) hS h
theorem tn (i : Nat) (oi : Oper) (d : Option Tmp) {fuel : Nat} {listed : Array Bool} {a : Act} {w : World} (hi : ops[i]? = some oi) (hd : oi.dst = d)
  (hc : (Region.noSelect ops && (Region.free md ops listed i && (Region.ready md ops listed).contains i)) = true) (hS : S w) (hw : Region.wanted oi (yielded ops a.tmps) = false)
  (hQ : ∀ c a w, Q (.panic c) (a.put d undef) w -> Q (.panic c) a w)
  (h : wpAnyH P md ops Q S fuel (listed.setIfInBounds i true) (a.put d undef) w) : wpAnyH P md ops Q S (fuel + 1) listed a w := by
 subst hd
 simp only [Bool.and_eq_true] at hc
 exact wpAnyH_take hi hc.1 hc.2.1 hc.2.2 hQ (.inr ⟨hw, rfl⟩) hS h
theorem tq (i : Nat) (oi : Oper) (t : Tmp) {v : Value} {fuel : Nat} {listed : Array Bool} {a : Act} {w : World} (hS : S w)
 (h : wpAnyH P md ops Q S fuel (listed.setIfInBounds i true) (a.put (some t) v) w) (hi : ops[i]? = some oi := by rfl) (hd : oi.dst = some t := by rfl)
 (hc : (Region.noSelect ops && (Region.free md ops listed i && (Region.ready md ops listed).contains i)) = true := by kernel_rfl) (hw : Region.wanted oi (yielded ops a.tmps) = true := by rfl)
 (hy : ∀ w, S w -> (execOp a.eval oi).run P w = .ok (.value v) w := by intro w h; (try dsimp only at h); go_simp; try (with_reducible rfl))
 (hQ : ∀ c a w, Q (.panic c) (a.put (some t) v) w -> Q (.panic c) a w := by first | exact fun _ _ _ x => x | exact fun _ _ _ h => by cases h.1) : wpAnyH P md ops Q S (fuel + 1) listed a w :=
 tk i oi (some t) hi hd hc hS hw hQ hy h
theorem tm (i : Nat) (oi : Oper) (t : Tmp) {fuel : Nat} {listed : Array Bool} {a : Act} {w : World} (hS : S w)
 (h : wpAnyH P md ops Q S fuel (listed.setIfInBounds i true) (a.put (some t) undef) w) (hi : ops[i]? = some oi := by rfl) (hd : oi.dst = some t := by rfl)
 (hc : (Region.noSelect ops && (Region.free md ops listed i && (Region.ready md ops listed).contains i)) = true := by kernel_rfl) (hw : Region.wanted oi (yielded ops a.tmps) = false := by rfl)
 (hQ : ∀ c a w, Q (.panic c) (a.put (some t) undef) w -> Q (.panic c) a w := by first | exact fun _ _ _ x => x | exact fun _ _ _ h => by cases h.1) : wpAnyH P md ops Q S (fuel + 1) listed a w :=
 tn i oi (some t) hi hd hc hS hw hQ h
theorem arR (rs : List Nat) {fuel : Nat} {listed : Array Bool} {a : Act} {w : World} (h : AllReadyH P md ops Q S fuel listed a w rs) (hr : Region.ready md ops listed = rs := by kernel_rfl) (hne : rs ≠ [] := by simp) : wpAnyH P md ops Q S (fuel + 1) listed a w := wpAnyH_ready hr hne h
theorem ar1 (i : Nat) (o : Oper) {fuel : Nat} {listed : Array Bool} {a : Act} {w : World} (h : ∀ K' : Act -> World -> Prop, Shut (∀ a w, S w -> (S w -> wpAnyH P md ops Q S fuel (listed.setIfInBounds i true) a w) -> K' a w) -> if Region.wanted o (yielded ops a.tmps) = true then Oper.wp P o a w K' Q else K' (a.put o.dst undef) w) (ho : ops[i]? = some o := by rfl) (hr : Region.ready md ops listed = [i] := by kernel_rfl) : wpAnyH P md ops Q S (fuel + 1) listed a w := wpAnyH_ready hr (by simp) (AllReadyH.cons ho h AllReadyH.nil)
end
theorem sa {α : Type} (l : List α) (i : Nat) (a : α) : l.toArray.setIfInBounds i a = (l.set i a).toArray := List.setIfInBounds_toArray ..
theorem s0 {α : Type} (a b : α) (l : List α) : (a :: l).set 0 b = b :: l := rfl
theorem s1 {α : Type} (a b : α) (l : List α) (i : Nat) : (a :: l).set (i + 1) b = a :: l.set i b := rfl

theorem uq {P : Program} {md : Region.Mode} {ops : Array Oper} {Q : Exit -> Act -> World -> Prop} {S : World -> Prop} (i : Nat) (oi : Oper) (t : Tmp) {v : Value} {fuel : Nat} {listed : Array Bool} {a b : Act} {w : World} (hS : S w)
 (h : wpAnyH P md ops Q S fuel (listed.setIfInBounds i true) b w) (hi : ops[i]? = some oi := by rfl) (hd : oi.dst = some t := by rfl)
 (hc : (Region.noSelect ops && (Region.free md ops listed i && (Region.ready md ops listed).contains i)) = true := by kernel_rfl) (hw : Region.wanted oi (yielded ops a.tmps) = true := by rfl)
 (hy : ∀ w, S w -> (execOp a.eval oi).run P w = .ok (.value v) w := by intro w h; (try dsimp only at h); go_simp; try (with_reducible rfl))
 (hb : a.put (some t) v = b := by first | (simp only [Act.put, sa, s0, s1]; done) | (simp only [Act.put, sa, s0, s1]; rfl) | rfl)
 (hQ : ∀ c a w, Q (.panic c) (a.put (some t) v) w -> Q (.panic c) a w := by first | exact fun _ _ _ x => x | exact fun _ _ _ h => by cases h.1) : wpAnyH P md ops Q S (fuel + 1) listed a w :=
 tk i oi (some t) hi hd hc hS hw hQ hy (hb ▸ h)
theorem um {P : Program} {md : Region.Mode} {ops : Array Oper} {Q : Exit -> Act -> World -> Prop} {S : World -> Prop} (i : Nat) (oi : Oper) (t : Tmp) {fuel : Nat} {listed : Array Bool} {a b : Act} {w : World} (hS : S w)
 (h : wpAnyH P md ops Q S fuel (listed.setIfInBounds i true) b w) (hi : ops[i]? = some oi := by rfl) (hd : oi.dst = some t := by rfl)
 (hc : (Region.noSelect ops && (Region.free md ops listed i && (Region.ready md ops listed).contains i)) = true := by kernel_rfl) (hw : Region.wanted oi (yielded ops a.tmps) = false := by rfl)
 (hb : a.put (some t) undef = b := by first | (simp only [Act.put, sa, s0, s1]; done) | (simp only [Act.put, sa, s0, s1]; rfl) | rfl)
 (hQ : ∀ c a w, Q (.panic c) (a.put (some t) undef) w -> Q (.panic c) a w := by first | exact fun _ _ _ x => x | exact fun _ _ _ h => by cases h.1) : wpAnyH P md ops Q S (fuel + 1) listed a w :=
 tn i oi (some t) hi hd hc hS hw hQ (hb ▸ h)
end Go.Proofs.YtegonncmopecnaaGreatDoor

namespace Go.Proofs.YtegonncmopecnaaGreatDoor
open Go.RowKit
theorem rB {B : Nat} {w : World} : Below B w w := Below.refl B w
theorem rN {n : Nat} : n <= n := Nat.le_refl n
def Rd (k : IntKind) (B : Nat) (w : World) (a : Option Addr) (zs : List Int) : Prop :=
 ∀ j, j < zs.length -> ∃ b off, a = some ⟨b, off, none⟩ /\ b < B /\ w.cell? ⟨b, off + j, none⟩ = some (.int k (zs.getD j 0))
theorem Rd.below {k : IntKind} {B : Nat} {w w' : World} {a : Option Addr} {zs : List Int} (h : Rd k B w a zs) (hb : Below B w w') : Rd k B w' a zs := by
 intro j hj
 obtain ⟨b, off, e, hlt, hc⟩ := h j hj
 exact ⟨b, off, e, hlt, (hb.cell (p := ⟨b, off + j, none⟩) hlt).trans hc⟩
theorem Rd.mono {k : IntKind} {B B' : Nat} {w : World} {a : Option Addr} {zs : List Int} (h : Rd k B w a zs) (hB : B <= B') : Rd k B' w a zs := by
 intro j hj
 obtain ⟨b, off, e, hlt, hc⟩ := h j hj
 exact ⟨b, off, e, by omega, hc⟩
theorem Rd.own {k : IntKind} {w : World} {base e g cap n : Nat} {zs : List Int} (hn : zs.length = n)
  (h : w.ownsRow base e 1 (.slice (some ⟨g, 0, none⟩) n cap) n (zs.map (Value.int k))) : Rd k w.heap.size w (some ⟨g, 0, none⟩) zs := by
 intro j hj
 refine ⟨g, 0, rfl, (h.lt g rfl).2, ?_⟩
 have := h.cellAt j (by omega)
 rw [Nat.zero_add, this]
 simp [hj]
theorem grown_trans {a b c : World} {r : Option Nat} (h : a.grownBy b r) (k : b.grownBy c r) : a.grownBy c r :=
 ⟨k.os.trans h.os, k.tape.trans h.tape, k.output.trans h.output, Nat.le_trans h.size k.size, fun i hi hne => (k.block i (Nat.lt_of_lt_of_le hi h.size) hne).trans (h.block i hi hne)⟩
def BytesOk (zs : List Int) : Prop := ∀ z, z ∈ zs -> 0 <= z /\ z <= 255
theorem Hid.mk {p : Prop} (h : p) : Hid p := h
theorem Hm {p : Prop} (h : p) : Hid p := h
theorem oneInt (k : IntKind) (x : Int) : ∀ u ∈ [Value.int k x], u.oneCell' = true := by
 intro u hu
 simp at hu
 subst hu
 rfl
theorem below_app {B e size n : Nat} {w wr w2 : World} {o : Obj} {v : Value} {xs : List Value} (hb : Below B w wr) (hB : B <= w.heap.size) (hown : wr.ownsRow B e size v n xs) (hg : (wr.alloc o).grownBy w2 v.ownBlock) : Below B w w2 :=
 (hb.alloc (Nat.le_trans hB hb.size) o).grown hg (by have := hb.size; simp; omega) (fun k h => (hown.lt k h).1)
theorem own_congr {w : World} {base e size : Nat} {v : Value} {n n' : Nat} {xs ys : List Value} (h : w.ownsRow base e size v n xs) (hn : n = n') (hx : xs = ys) : w.ownsRow base e size v n' ys := by
 subst hn
 subst hx
 exact h
theorem own_base {w : World} {base base' e size : Nat} {v : Value} {n : Nat} {xs : List Value} (h : w.ownsRow base e size v n xs) (hb : base' <= base) : w.ownsRow base' e size v n xs := by
 refine ⟨h.1, ?_⟩
 rcases h.2 with h' | ⟨g, cap, cur, rfl, hg, rest⟩
 ·exact .inl h'
 ·exact .inr ⟨g, cap, cur, rfl, by omega, rest⟩
theorem rd_one (k : IntKind) (w : World) (x : Int) (t : TypeId) : Rd k (w.heap.size + 1) (w.alloc (.cells #[.int k x] t)) (some ⟨w.heap.size, 0, none⟩) [x] := by
 intro j hj
 simp only [List.length_cons, List.length_nil] at hj
 have hj0 : j = 0 := by omega
 subst hj0
 exact ⟨w.heap.size, 0, rfl, by omega, by simp⟩
theorem own_rd {k : IntKind} {w : World} {base e n : Nat} {v : Value} {zs : List Int} (hn : zs.length = n) (h : w.ownsRow base e 1 v n (zs.map (Value.int k))) :
  ∃ a c, v = .slice a n c /\ n <= c /\ Rd k w.heap.size w a zs := by
 rcases h.2 with ⟨rfl, h'⟩ | ⟨g, cap, cur, rfl, hb, hg, hnc, _⟩
 ·subst h'
  exact ⟨none, 0, rfl, Nat.le_refl _, fun j hj => by omega⟩
 ·exact ⟨_, cap, rfl, hnc, Rd.own hn h⟩
theorem own_below {w w' : World} {base e size n : Nat} {v : Value} {xs : List Value} (h : w.ownsRow base e size v n xs) (hb : Below w.heap.size w w') : w'.ownsRow base e size v n xs := by
 refine ⟨h.1, ?_⟩
 rcases h.2 with h' | ⟨g, cap, cur, rfl, hg, hh, rest⟩
 ·exact .inl h'
 ·exact .inr ⟨g, cap, cur, rfl, hg, by rw [hb.block g (h.lt g rfl).2]; exact hh, rest⟩
theorem own_drewN {w : World} {base e size n d : Nat} {v : Value} {xs : List Value} (h : w.ownsRow base e size v n xs) : (w.drewN d).ownsRow base e size v n xs := h
theorem Rd.drewN {k : IntKind} {B d : Nat} {w : World} {a : Option Addr} {zs : List Int} (h : Rd k B w a zs) : Rd k B (w.drewN d) a zs := h
theorem Rd.grown {k : IntKind} {B : Nat} {w w' : World} {r : Option Nat} {a : Option Addr} {zs : List Int} (h : Rd k B w a zs) (hg : w.grownBy w' r) (hr : ∀ i, r = some i -> B <= i) : Rd k B w' a zs := by
 intro j hj
 obtain ⟨b, off, e, hlt, hc⟩ := h j hj
 exact ⟨b, off, e, hlt, hg.cell hc (fun e => by have := hr b e.symm; omega)⟩
def byteInts (s : ByteArray) : List Int := s.data.toList.map fun b => (b.toNat : Int)
theorem byteInts_length (s : ByteArray) : (byteInts s).length = s.size := by simp [byteInts]
theorem setCells_row (g : Nat) (e : TypeId) : ∀ (news : List Value) (o : Nat) (w : World) (cur : Array Value), w.heap[g]? = some (.cells cur e (0, 0)) -> o + news.length <= cur.size ->
  (∃ cur', (w.setCells g o news).heap[g]? = some (.cells cur' e (0, 0)) /\ cur'.size = cur.size /\ cur'.toList.take (o + news.length) = cur.toList.take o ++ news) /\ w.grownBy (w.setCells g o news) (some g)
 | [], o, w, cur, hg, _ => ⟨⟨cur, hg, rfl, by simp⟩, World.grownBy.refl _ _⟩
 | u :: r, o, w, cur, hg, hfit => by
  have h1 := heap_setCell_same w g o cur e u hg
  obtain ⟨⟨cur', h2, h3, h4⟩, h5⟩ := setCells_row g e r (o + 1) (w.setCell ⟨g, o, none⟩ u) (cur.setIfInBounds o u) h1 (by simp at hfit ⊢; omega)
  refine ⟨⟨cur', h2, by simpa using h3, ?_⟩, ?_⟩
  ·have e1 : o + (u :: r).length = o + 1 + r.length := by simp; omega
   rw [e1, h4, Array.toList_setIfInBounds]
   have ho : o < cur.toList.length := by simp at hfit ⊢; omega
   rw [List.take_set, List.take_succ_eq_append_getElem ho, List.set_append_right _ _ (by simp; omega)]
   have e2 : o - (cur.toList.take o).length = 0 := by simp; omega
   rw [e2]
   simp
  ·exact grown_trans (b := w.setCell ⟨g, o, none⟩ u) ⟨rfl, rfl, rfl, by simp, fun k _ hk => heap_setCell_other w ⟨g, o, none⟩ k u (fun e => hk (by simp [e]))⟩ h5
section
variable {P : Program} (w : World)
theorem run_append_src (base : Nat) (t tx ty e : TypeId) (i : TypeInfo) (z : Value) (size bytes : Nat) (ht : P.underlying t = some (.slice e)) (hi : P.info? e = some i) (hz : i.zero = some z)
  (hsize : i.size = size) (hby : i.bytes = bytes) (hzs : z.cells.size = size)
  (v : Value) (n : Nat) (xs : List Value) (hown : w.ownsRow base e size v n xs) (x : Value) (m : Nat) (news : List Value) (hs : Src P size tx x m news w)
  (h63 : n + m <= maxLen) (hbytes : (n + m) * bytes <= 140737488355328) (hbase : base <= w.heap.size) :
  ∃ v' w', (Builtin.append_ #[t, tx] ty #[v, x]).run P w = .ok v' w' /\ w'.ownsRow base e size v' (n + m) (xs ++ news) /\ w.grownBy w' v.ownBlock := by
 subst hsize
 subst hby
 have hl := hs.newsLen
 have hsmall : n + m <= 9223372036854775807 := by simp only [maxLen] at h63; omega
 have hlen : (xs ++ news).length = (n + m) * i.size := by rw [List.length_append, hown.1, hl, Nat.add_mul]
 have grown : ∀ (old : Nat), old < n + m -> ∀ (row : Option Nat),
   (w.drew.alloc (.cells ((xs ++ news).toArray ++ Builtin.zeroCells z.cells (grownCap w (n + m) old e - (n + m))) e)).ownsRow base e i.size
    (.slice (some ⟨w.heap.size, 0, none⟩) (n + m) (grownCap w (n + m) old e)) (n + m) (xs ++ news) /\
   w.grownBy (w.drew.alloc (.cells ((xs ++ news).toArray ++ Builtin.zeroCells z.cells (grownCap w (n + m) old e - (n + m))) e)) row := by
  intro old ho row
  have hge := grownCap_ge w (n + m) old e
  have hcm : grownCap w (n + m) old e <= maxLen := grownCap_le_maxLen w (n + m) old e h63
  refine ⟨⟨hlen, .inr ⟨w.heap.size, _, _, rfl, hbase, heap_alloc_new w.drew _, hge, hcm, ?_, ?_⟩⟩, ⟨rfl, rfl, rfl, by simp, fun k hk _ => Go.heap_alloc_old w.drew _ hk⟩⟩
  ·rw [Array.size_append, List.size_toArray, size_zeroCells, hzs, hlen, <- Nat.add_mul]
   congr 1
   omega
  ·rw [Array.toList_append, <- hlen]
   exact List.take_left
 rcases hown.2 with ⟨rfl, rfl⟩ | ⟨g, cap, cur, rfl, hbg, hg, hnc, hcm, hcs, htake⟩
 ·have hx : xs = [] := List.eq_nil_of_length_eq_zero (by simpa using hown.1)
  subst hx
  by_cases hm : m = 0
  ·subst hm
   have hn : news = [] := List.eq_nil_of_length_eq_zero (by simpa using hl)
   subst hn
   refine ⟨.slice none 0 0, w, ?_, World.ownsRow_nil w base e i.size, World.grownBy.refl _ _⟩
   rcases hs.kind with ⟨e', hk⟩ | hk <;> simp [Builtin.append_, run_underlying ht, run_underlying hk, sizeOf, typeInfo, hi, hs.len, hs.cells]
  ·have hr := run_append_grow_src (P := P) w t tx ty e i z ht hi hz none 0 0 [] (run_firstCells_none w.drew i.size 0 0 0) x m news hs (by omega) (by omega) (growslice_fits (by omega) hbytes)
   have hgr := grown 0 (by omega) (Value.ownBlock (.slice none 0 0))
   exact ⟨_, _, hr, hgr.1, hgr.2⟩
 ·by_cases hroom : n + m <= cap
  ·have hfit : n * i.size + news.length <= cur.size := by rw [hl, hcs, <- Nat.add_mul]; exact Nat.mul_le_mul_right _ hroom
   have hr := run_append_room_src (P := P) w t tx ty e i ht hi g 0 n cap x m news hs hroom
    (fun j hj => by rw [Nat.zero_add, cell_of_row w g _ cur e (0, 0) hg, Array.getElem?_eq_getElem (by omega)]; rfl) (fun j hj => frozen_of_row w g _ cur e hg)
   rw [Nat.zero_add] at hr
   obtain ⟨⟨cur', h2, h3, h4⟩, h5⟩ := setCells_row g e news (n * i.size) w cur hg hfit
   refine ⟨_, _, hr, ⟨hlen, .inr ⟨g, cap, cur', rfl, hbg, h2, hroom, hcm, by rw [h3, hcs], ?_⟩⟩, h5⟩
   rw [Nat.add_mul, <- hl, h4, htake]
  ·have holds : (Builtin.firstCells i.size n (.slice (some ⟨g, 0, none⟩) n cap)).run P w.drew = .ok xs.toArray w.drew :=
    run_firstCells_some w.drew i.size n ⟨g, 0, none⟩ n cap xs hown.1 (by simpa using hown.cells (g := g) rfl)
   have hr := run_append_grow_src (P := P) w t tx ty e i z ht hi hz (some ⟨g, 0, none⟩) n cap xs holds x m news hs (by omega) (by omega) (growslice_fits (by omega) hbytes)
   have hgr := grown cap (by omega) (Value.ownBlock (.slice (some ⟨g, 0, none⟩) n cap))
   exact ⟨_, _, hr, hgr.1, hgr.2⟩
theorem wpList_append_src {ops : Array Oper} {rest : List Oper} {o : Oper} {a : Act} {Q : Exit -> Act -> World -> Prop} (hgd : o.guard = none) (s x : Operand) (t tx : TypeId)
  (ho : o.op = .call { callee := .builtin .append, args := #[s, x], argTypes := #[t, tx] })
  (base : Nat) (e : TypeId) (i : TypeInfo) (z : Value) (size bytes : Nat) (ht : P.underlying t = some (.slice e)) (hi : P.info? e = some i) (hz : i.zero = some z)
  (hsize : i.size = size) (hby : i.bytes = bytes) (hzs : z.cells.size = size)
  (v : Value) (n : Nat) (xs : List Value) (hs : a.eval s = v) (hown : w.ownsRow base e size v n xs)
  (m : Nat) (news : List Value) (hx : Src P size tx (a.eval x) m news w)
  (h63 : n + m <= maxLen) (hbytes : (n + m) * bytes <= 140737488355328) (hbase : base <= w.heap.size)
  (h : ∀ v' w', w'.ownsRow base e size v' (n + m) (xs ++ news) -> w.grownBy w' v.ownBlock -> wpList P ops Q rest (a.put o.dst v') w') : wpList P ops Q (o :: rest) a w := by
 refine wpList_plain hgd fun K hK => ?_
 obtain ⟨v', w', hr, h2, h3⟩ := run_append_src (P := P) w base t tx o.type e i z size bytes ht hi hz hsize hby hzs v n xs hown (a.eval x) m news hx h63 hbytes hbase
 unfold Oper.wp execOp
 simp only [ho, resolve, invoke, builtin, Sem.run_bind, Sem.run_pure, Result.andThen_ok, List.map_toArray, List.map_cons, List.map_nil, hs, hr]
 exact hK _ _ (h v' w' h2 h3)
end
theorem Src.rd {P : Program} {w : World} {k : IntKind} {B : Nat} {a : Option Addr} {zs : List Int} {tx e' : TypeId} {n c : Nat} (hk : P.underlying tx = some (.slice e')) (hn : zs.length = n) (hr : Rd k B w a zs) :
  Src P 1 tx (.slice a n c) n (zs.map (Value.int k)) w := by
 cases a with
 | none =>
  have hz : zs = [] := by
   cases zs with
   | nil => rfl
   | cons z r =>
    obtain ⟨_, _, h, _⟩ := hr 0 (by simp)
    cases h
  subst hz
  simp only [List.length_nil] at hn
  subst hn
  exact Src.ofNil w hk c
 | some ad =>
  refine Src.ofSlice w hk ad n c _ (by simp [hn]) (fun j u hu => ?_) (ints_oneCell k zs)
  have hj : j < zs.length := by
   rcases Nat.lt_or_ge j zs.length with h | h
   ·exact h
   ·simp [List.getElem?_eq_none h] at hu
  obtain ⟨b, off, e, _, hc⟩ := hr j hj
  simp only [Option.some.injEq] at e
  subst e
  rw [Addr.add_lit, hc]
  simp [List.getElem?_eq_getElem hj] at hu
  simp [List.getElem?_eq_getElem hj, hu]
theorem wpList_make_any {P : Program} (w : World) {ops : Array Oper} {rest : List Oper} {o : Oper} {a : Act} {Q : Exit -> Act -> World -> Prop}
  (hg : o.guard = none) (l c : Operand) (t : TypeId) (hop : o.op = Op.makeSlice t l c)
  (base : Nat) (e : TypeId) (i : TypeInfo) (z : Value) (h1 : P.underlying t = some (.slice e)) (h2 : P.info? e = some i) (h3 : i.zero = some z) (h4 : i.size = 1) (h5 : z.cells = #[z])
  (kl kc : IntKind) (L C : Int) (n m : Nat) (hl : a.eval l = .int kl L) (hc : a.eval c = .int kc C) (hL : L = (n : Int)) (hC : C = (m : Int)) (hnm : n <= m) (b2 : i.bytes * m <= 281474976710656) (b3 : m <= maxLen) (b4 : base <= w.heap.size)
  (hK : ∀ w', w'.ownsRow base e 1 (.slice (some ⟨w.heap.size, 0, none⟩) n m) n (List.replicate n z) -> w.grownBy w' none -> wpList P ops Q rest (a.put o.dst (.slice (some ⟨w.heap.size, 0, none⟩) n m)) w') :
  wpList P ops Q (o :: rest) a w := by
 refine wpList_plain hg fun K hK' => ?_
 have hb' : (i.bytes : Int) * (m : Int) <= 281474976710656 := by
  have h : ((i.bytes * m : Nat) : Int) <= 281474976710656 := by omega
  rwa [Int.natCast_mul] at h
 have hrun := run_make (P := P) w t e i z h1 h2 h3 kl kc n m (by omega) (by omega) hb' (by simp [maxLen] at b3; omega)
 simp only [Int.toNat_natCast, h4, Nat.mul_one, h5] at hrun
 subst hL
 subst hC
 unfold Oper.wp
 simp [execOp, hop, hl, hc, hrun, Result.andThen]
 refine hK' _ _ (hK _ ⟨by simp, .inr ⟨w.heap.size, m, _, rfl, b4, heap_alloc_new w _, hnm, b3, by simp [size_madeCells], ?_⟩⟩ (World.grownBy_alloc w _ none))
 rw [toList_madeCells_one]
 simp [hnm]
theorem wpList_copy_le {P : Program} {w : World} {ops : Array Oper} {rest : List Oper} {o : Oper} {a : Act} {Q : Exit -> Act -> World -> Prop} (hgd : o.guard = none) (d s : Operand) (dT sT : TypeId)
  (ho : o.op = .call { callee := .builtin .copy, args := #[d, s], argTypes := #[dT, sT] }) (e : TypeId) (i : TypeInfo) (hu : P.underlying dT = some (.slice e)) (hi : P.info? e = some i) (hsz : i.size = 1)
  (base g n cap sl scap : Nat) (ao : Option Addr) (hd : a.eval d = .slice (some ⟨g, 0, none⟩) n cap) (hs : a.eval s = .slice ao sl scap)
  (xs : List Value) (hown : w.ownsRow base e 1 (.slice (some ⟨g, 0, none⟩) n cap) n xs)
  (k : IntKind) (zs : List Int) (B : Nat) (hz : zs.length = sl) (hle : n <= sl) (hr : Rd k B w ao zs)
  (h : ∀ w', w'.ownsRow base e 1 (.slice (some ⟨g, 0, none⟩) n cap) n ((zs.take n).map (Value.int k)) -> w.grownBy w' (some g) -> wpList P ops Q rest (a.put o.dst (goInt n)) w') : wpList P ops Q (o :: rest) a w := by
 have hsz' : (P.info? e).map (·.size) = some 1 := by rw [hi]; simp [hsz]
 by_cases h0 : n = 0
 ·subst h0
  have hx' : xs = [] := List.eq_nil_of_length_eq_zero (by simpa using hown.1)
  subst hx'
  exact wpList_copy_nothing hgd d s dT sT ho e hu hsz' _ _ _ _ _ _ hd hs (by simp) (h w (by simpa using hown) (World.grownBy.refl _ _))
 ·obtain ⟨b, off, rfl, _, _⟩ := hr 0 (by omega)
  rcases hown.2 with ⟨h', _⟩ | ⟨g', cap', cur, h', hb, hg, hnc, hcm, hcs, htake⟩
  ·simp at h'
  ·simp only [Value.slice.injEq, Option.some.injEq, Addr.mk.injEq, and_true, true_and] at h'
   obtain ⟨rfl, rfl⟩ := h'
   have hl : ((zs.take n).map (Value.int k)).length = n := by simp [hz, hle]
   refine wpList_copy_own hgd d s dT sT ho e hu hsz' g 0 n cap ⟨b, off, none⟩ sl scap hd hs cur e hg ((zs.take n).map (Value.int k)) (by rw [hl]; exact (Nat.min_eq_right hle).symm) ?_ (by rw [hl]; omega) (ints_oneCell k _) ?_
   ·intro j u hu
    have hjn : j < n := by
     rcases Nat.lt_or_ge j n with h | h
     ·exact h
     ·rw [List.getElem?_eq_none (by rw [hl]; exact h)] at hu; cases hu
    have hj : j < zs.length := by omega
    obtain ⟨b', off', e', _, hc⟩ := hr j hj
    simp only [Option.some.injEq, Addr.mk.injEq, and_true] at e'
    obtain ⟨rfl, rfl⟩ := e'
    rw [Addr.add_lit, hc]
    simp [hjn, List.getElem?_eq_getElem hj] at hu
    simp [List.getElem?_eq_getElem hj, hu]
   ·rw [hl]
    refine h _ ⟨by rw [hl, Nat.mul_one], .inr ⟨g, cap, _, rfl, hb, setRow_heap w g cur _ e _ hg, hnc, hcm, ?_, ?_⟩⟩ ⟨rfl, rfl, rfl, by simp [World.setRow], fun k _ hk => setRow_other w g k _ (fun e => hk (by simp [e]))⟩
    ·simp [hz]; omega
    ·simp [hz, hle]
theorem wpList_copy_rd {P : Program} {w : World} {ops : Array Oper} {rest : List Oper} {o : Oper} {a : Act} {Q : Exit -> Act -> World -> Prop} (hgd : o.guard = none) (d s : Operand) (dT sT : TypeId)
  (ho : o.op = .call { callee := .builtin .copy, args := #[d, s], argTypes := #[dT, sT] }) (e : TypeId) (i : TypeInfo) (hu : P.underlying dT = some (.slice e)) (hi : P.info? e = some i) (hsz : i.size = 1)
  (base g n cap scap : Nat) (ao : Option Addr) (hd : a.eval d = .slice (some ⟨g, 0, none⟩) n cap) (hs : a.eval s = .slice ao n scap)
  (xs : List Value) (hown : w.ownsRow base e 1 (.slice (some ⟨g, 0, none⟩) n cap) n xs)
  (k : IntKind) (zs : List Int) (B : Nat) (hz : zs.length = n) (hr : Rd k B w ao zs)
  (h : ∀ w', w'.ownsRow base e 1 (.slice (some ⟨g, 0, none⟩) n cap) n (zs.map (Value.int k)) -> w.grownBy w' (some g) -> wpList P ops Q rest (a.put o.dst (goInt n)) w') : wpList P ops Q (o :: rest) a w :=
 wpList_copy_le hgd d s dT sT ho e i hu hi hsz base g n cap n scap ao hd hs xs hown k zs B hz rN hr (fun w' h1 h2 => h w' (by rwa [List.take_of_length_le (Nat.le_of_eq hz)] at h1) h2)
end Go.Proofs.YtegonncmopecnaaGreatDoor

namespace Go.Proofs.YtegonncmopecnaaGreatDoor
open Go.RowKit
abbrev Rep (α : Type) := Nat -> World -> List Value -> α -> Prop
abbrev ORep (α : Type) := World -> List Value -> α -> List Nat -> Prop
structure Rep.Good {α : Type} (R : Rep α) : Prop where
 below : ∀ {B w w' cs m}, R B w cs m -> Below B w w' -> R B w' cs m
 mono : ∀ {B B' w cs m}, R B w cs m -> B <= B' -> R B' w cs m
structure ORep.Good {α : Type} (O : ORep α) (R : Rep α) (size : Nat) : Prop where
 frame : ∀ {w w' cs m F}, O w cs m F -> (∀ k, k ∈ F -> w'.heap[k]? = w.heap[k]?) -> O w' cs m F
 lt : ∀ {w cs m F}, O w cs m F -> ∀ k, k ∈ F -> k < w.heap.size
 read : ∀ {w cs m F}, O w cs m F -> R w.heap.size w cs m
 len : ∀ {w cs m F}, O w cs m F -> cs.length = size
def RdS {α : Type} (size : Nat) (R : Rep α) (B : Nat) (w : World) (a : Option Addr) (l : List α) : Prop :=
 ∀ j, (h : j < l.length) -> ∃ b off, a = some ⟨b, off, none⟩ /\ b < B /\ ∃ cs : List Value, cs.length = size /\ (∀ i u, cs[i]? = some u -> w.cell? ⟨b, off + j * size + i, none⟩ = some u) /\ R B w cs l[j]
theorem RdS.below {α : Type} {size : Nat} {R : Rep α} (hR : R.Good) {B : Nat} {w w' : World} {a : Option Addr} {l : List α} (h : RdS size R B w a l) (hb : Below B w w') : RdS size R B w' a l := by
 intro j hj
 obtain ⟨b, off, e, hB, cs, h1, h2, h3⟩ := h j hj
 exact ⟨b, off, e, hB, cs, h1, fun i u hu => (hb.cell (p := ⟨b, off + j * size + i, none⟩) hB).trans (h2 i u hu), hR.below h3 hb⟩
theorem RdS.mono {α : Type} {size : Nat} {R : Rep α} (hR : R.Good) {B B' : Nat} {w : World} {a : Option Addr} {l : List α} (h : RdS size R B w a l) (hB : B <= B') : RdS size R B' w a l := by
 intro j hj
 obtain ⟨b, off, e, hb, cs, h1, h2, h3⟩ := h j hj
 exact ⟨b, off, e, by omega, cs, h1, h2, hR.mono h3 hB⟩
theorem own_of_block {w w' : World} {base e size n : Nat} {v : Value} {xs : List Value} (h : w.ownsRow base e size v n xs) (hb : ∀ k, v.ownBlock = some k -> w'.heap[k]? = w.heap[k]?) : w'.ownsRow base e size v n xs := by
 refine ⟨h.1, ?_⟩
 rcases h.2 with h' | ⟨g, cap, cur, rfl, hg, hh, rest⟩
 ·exact .inl h'
 ·exact .inr ⟨g, cap, cur, rfl, hg, by rw [hb g rfl]; exact hh, rest⟩
def ownB (e : TypeId) (w : World) (v : Value) (zs : List Int) (F : List Nat) : Prop :=
 w.ownsRow 0 e 1 v zs.length (zs.map (Value.int .u8)) /\ BytesOk zs /\ F = v.ownBlock.toList
theorem ownB.frame {e : TypeId} {w w' : World} {v : Value} {zs : List Int} {F : List Nat} (h : ownB e w v zs F) (hb : ∀ k, k ∈ F -> w'.heap[k]? = w.heap[k]?) : ownB e w' v zs F := by
 obtain ⟨h1, h2, rfl⟩ := h
 exact ⟨own_of_block h1 (fun k hk => hb k (by simp [hk])), h2, rfl⟩
theorem ownB.lt {e : TypeId} {w : World} {v : Value} {zs : List Int} {F : List Nat} (h : ownB e w v zs F) : ∀ k, k ∈ F -> k < w.heap.size := by
 obtain ⟨h1, h2, rfl⟩ := h
 intro k hk
 exact (h1.lt k (by simpa using hk)).2
theorem ownB.read {e : TypeId} {w : World} {v : Value} {zs : List Int} {F : List Nat} (h : ownB e w v zs F) :
  ∃ a c, v = .slice a zs.length c /\ zs.length <= c /\ c <= 9223372036854775807 /\ Rd .u8 w.heap.size w a zs /\ BytesOk zs := by
 obtain ⟨h1, h2, rfl⟩ := h
 rcases h1.2 with ⟨rfl, h'⟩ | ⟨g, cap, cur, rfl, hb, hg, hnc, hm, _⟩
 ·exact ⟨none, 0, by rw [h'], by omega, by omega, fun j hj => by omega, h2⟩
 ·exact ⟨_, cap, rfl, hnc, by simpa [maxLen] using hm, Rd.own rfl h1, h2⟩
def ownS {α : Type} (size : Nat) (e : TypeId) (O : ORep α) (w : World) (v : Value) (l : List α) (F : List Nat) : Prop :=
 (v = .slice none 0 0 /\ l = [] /\ F = []) ∨
 ∃ g cap, ∃ cur : Array Value, ∃ Fs : List (List Nat), v = .slice (some ⟨g, 0, none⟩) l.length cap /\ w.heap[g]? = some (.cells cur e (0, 0)) /\ l.length <= cap /\ cap <= maxLen /\ cur.size = cap * size /\ Fs.length = l.length /\
  (∀ j, (h : j < l.length) -> O w ((cur.toList.drop (j * size)).take size) l[j] (Fs.getD j [])) /\ F = g :: Fs.flatten
theorem mem_flatten_getD {Fs : List (List Nat)} {j k : Nat} (hj : j < Fs.length) (h : k ∈ Fs.getD j []) : k ∈ Fs.flatten := by
 rw [List.getD_eq_getElem?_getD, List.getElem?_eq_getElem hj] at h
 exact List.mem_flatten.2 ⟨_, List.getElem_mem hj, h⟩
theorem of_mem_flatten {Fs : List (List Nat)} {k : Nat} (h : k ∈ Fs.flatten) : ∃ j, j < Fs.length /\ k ∈ Fs.getD j [] := by
 obtain ⟨l, hl, hk⟩ := List.mem_flatten.1 h
 obtain ⟨j, hj, rfl⟩ := List.mem_iff_getElem.1 hl
 exact ⟨j, hj, by rw [List.getD_eq_getElem?_getD, List.getElem?_eq_getElem hj]; exact hk⟩
theorem ownS.frame {α : Type} {size : Nat} {e : TypeId} {O : ORep α} {R : Rep α} (hO : O.Good R size) {w w' : World} {v : Value} {l : List α} {F : List Nat} (h : ownS size e O w v l F) (hb : ∀ k, k ∈ F -> w'.heap[k]? = w.heap[k]?) : ownS size e O w' v l F := by
 rcases h with h | ⟨g, cap, cur, Fs, h1, h2, h3, h4, h5, h6, h7, rfl⟩
 ·exact .inl h
 ·refine .inr ⟨g, cap, cur, Fs, h1, by rw [hb g (by simp)]; exact h2, h3, h4, h5, h6, fun j hj => hO.frame (h7 j hj) (fun k hk => hb k ?_), rfl⟩
  exact List.mem_cons_of_mem _ (mem_flatten_getD (by omega) hk)
theorem ownS.lt {α : Type} {size : Nat} {e : TypeId} {O : ORep α} {R : Rep α} (hO : O.Good R size) {w : World} {v : Value} {l : List α} {F : List Nat} (h : ownS size e O w v l F) : ∀ k, k ∈ F -> k < w.heap.size := by
 rcases h with ⟨_, _, rfl⟩ | ⟨g, cap, cur, Fs, h1, h2, h3, h4, h5, h6, h7, rfl⟩
 ·intro k hk; cases hk
 ·intro k hk
  rcases List.mem_cons.1 hk with rfl | hk
  ·exact (Array.getElem?_eq_some_iff.1 h2).1
  ·obtain ⟨j, hj, hkj⟩ := of_mem_flatten hk
   exact hO.lt (h7 j (by omega)) k hkj
theorem ownS.read {α : Type} {size : Nat} {e : TypeId} {O : ORep α} {R : Rep α} (hO : O.Good R size) {w : World} {v : Value} {l : List α} {F : List Nat} (h : ownS size e O w v l F) :
  ∃ a c, v = .slice a l.length c /\ l.length <= c /\ c <= 9223372036854775807 /\ RdS size R w.heap.size w a l := by
 rcases h with ⟨rfl, rfl, _⟩ | ⟨g, cap, cur, Fs, rfl, h2, h3, h4, h5, h6, h7, rfl⟩
 ·exact ⟨none, 0, rfl, by simp, by omega, fun j hj => by simp at hj⟩
 ·refine ⟨_, cap, rfl, h3, by simpa [maxLen] using h4, fun j hj => ⟨g, 0, rfl, (Array.getElem?_eq_some_iff.1 h2).1, _, hO.len (h7 j hj), ?_, hO.read (h7 j hj)⟩⟩
  intro i u hu
  rw [Nat.zero_add, cell_of_row w g _ cur e (0, 0) h2]
  rw [List.getElem?_take] at hu
  split at hu
  ·rw [List.getElem?_drop] at hu
   simpa using hu
  ·cases hu
structure Fill {α : Type} (size : Nat) (e : TypeId) (O : ORep α) (w : World) (g n : Nat) (l : List α) (k : Nat) (Fs : List (List Nat)) : Prop where
 row : ∃ cur : Array Value, w.heap[g]? = some (.cells cur e (0, 0)) /\ cur.size = n * size /\ ∀ j, (h : j < l.length) -> j < k -> O w ((cur.toList.drop (j * size)).take size) l[j] (Fs.getD j [])
 flen : Fs.length = k
 over : ∀ b, b ∈ Fs.flatten -> g < b /\ b < w.heap.size
 nodup : Fs.flatten.Nodup
theorem setCells_row' (g : Nat) (e : TypeId) : ∀ (news : List Value) (o : Nat) (w : World) (cur : Array Value), w.heap[g]? = some (.cells cur e (0, 0)) -> o + news.length <= cur.size ->
  ∃ cur' : Array Value, (w.setCells g o news).heap[g]? = some (.cells cur' e (0, 0)) /\ cur'.size = cur.size /\ cur'.toList = cur.toList.take o ++ news ++ cur.toList.drop (o + news.length)
 | [], o, w, cur, hg, _ => ⟨cur, hg, rfl, by simp⟩
 | u :: r, o, w, cur, hg, hfit => by
  have h1 := heap_setCell_same w g o cur e u hg
  obtain ⟨cur', h2, h3, h4⟩ := setCells_row' g e r (o + 1) (w.setCell ⟨g, o, none⟩ u) (cur.setIfInBounds o u) h1 (by simp at hfit ⊢; omega)
  refine ⟨cur', h2, by simpa using h3, ?_⟩
  have ho : o < cur.toList.length := by simp at hfit ⊢; omega
  have e0 : (cur.toList.set o u).take (o + 1) = cur.toList.take o ++ [u] := by
   rw [List.take_set, List.take_succ_eq_append_getElem ho, List.set_append_right _ _ (by simp; omega)]
   have e2 : o - (cur.toList.take o).length = 0 := by simp; omega
   rw [e2]
   simp
  have e3 : (cur.toList.set o u).drop (o + 1 + r.length) = cur.toList.drop (o + (u :: r).length) := by
   rw [List.drop_set_of_lt (by omega)]
   congr 1
   simp; omega
  rw [h4, Array.toList_setIfInBounds, e0, e3]
  simp
theorem heap_setCells_ne (g : Nat) : ∀ (news : List Value) (o : Nat) (w : World) (k : Nat), k ≠ g -> (w.setCells g o news).heap[k]? = w.heap[k]?
 | [], _, _, _, _ => rfl
 | u :: r, o, w, k, hk => by
  show ((w.setCell ⟨g, o, none⟩ u).setCells g (o + 1) r).heap[k]? = _
  rw [heap_setCells_ne g r (o + 1) _ k hk]
  exact heap_setCell_other w ⟨g, o, none⟩ k u (fun e => hk e)
theorem size_setCells_w (g : Nat) : ∀ (news : List Value) (o : Nat) (w : World), (w.setCells g o news).heap.size = w.heap.size
 | [], _, _ => rfl
 | u :: r, o, w => by
  show ((w.setCell ⟨g, o, none⟩ u).setCells g (o + 1) r).heap.size = _
  rw [size_setCells_w g r (o + 1) _]
  simp
theorem Fill.step {α : Type} {size : Nat} {e : TypeId} {O : ORep α} {R : Rep α} (hO : O.Good R size) {w w1 : World} {g n k : Nat} {l : List α} {Fs : List (List Nat)} (h : Fill size e O w g n l k Fs) (hg : g < w.heap.size) (hk : k < l.length) (hkn : k < n)
  (hb : Below w.heap.size w w1) {cs : List Value} {F : List Nat} (ho : O w1 cs l[k] F) (hF : ∀ b, b ∈ F -> w.heap.size <= b) (hN : F.Nodup) :
  Fill size e O (w1.setCells g (k * size) cs) g n l (k + 1) (Fs ++ [F]) := by
 obtain ⟨⟨cur, c1, c2, c3⟩, f1, f2, f3⟩ := h
 have hcl := hO.len ho
 have hfit : k * size + cs.length <= cur.size := by
  rw [hcl, c2, <- Nat.succ_mul]
  exact Nat.mul_le_mul_right _ hkn
 have c1' : w1.heap[g]? = some (.cells cur e (0, 0)) := by rw [hb.block g hg]; exact c1
 obtain ⟨cur', d1, d2, d3⟩ := setCells_row' g e cs (k * size) w1 cur c1' hfit
 have hFlt : ∀ b, b ∈ F -> b < w1.heap.size := fun b hbF => hO.lt ho b hbF
 refine ⟨⟨cur', d1, by rw [d2, c2], ?_⟩, by simp [f1], ?_, ?_⟩
 ·intro j hj hjk
  have hlen : cur.toList.length = n * size := by simpa using c2
  by_cases hjk' : j = k
  ·subst hjk'
   have e1 : (cur'.toList.drop (j * size)).take size = cs := by
    rw [d3, List.append_assoc, List.drop_append, List.drop_eq_nil_of_le (by simp; omega), List.nil_append]
    have : j * size - (cur.toList.take (j * size)).length = 0 := by simp; omega
    rw [this, List.drop_zero, List.take_append, List.take_of_length_le (by omega), hcl, Nat.sub_self, List.take_zero, List.append_nil]
   have e2 : (Fs ++ [F]).getD j [] = F := by rw [List.getD_eq_getElem?_getD, List.getElem?_append_right (by omega), f1, Nat.sub_self]; rfl
   rw [e1, e2]
   exact hO.frame ho (fun b hbF => heap_setCells_ne g cs _ w1 b (by have := hF b hbF; omega))
  ·have hlt : j < k := by omega
   have hmul : (j + 1) * size <= k * size := Nat.mul_le_mul_right _ hlt
   rw [Nat.succ_mul] at hmul
   have e1 : (cur'.toList.drop (j * size)).take size = (cur.toList.drop (j * size)).take size := by
    rw [d3, List.append_assoc]
    apply List.ext_getElem?
    intro i
    rw [List.getElem?_take, List.getElem?_take, List.getElem?_drop, List.getElem?_drop]
    by_cases hi : i < size
    ·rw [if_pos hi, if_pos hi, List.getElem?_append_left (by simp; omega), List.getElem?_take, if_pos (by omega)]
    ·rw [if_neg hi, if_neg hi]
   have e2 : (Fs ++ [F]).getD j [] = Fs.getD j [] := by rw [List.getD_eq_getElem?_getD, List.getD_eq_getElem?_getD, List.getElem?_append_left (by omega)]
   rw [e1, e2]
   have ho' := hO.frame (c3 j hj hlt) (w' := w1) (fun b hbF => hb.block b (hO.lt (c3 j hj hlt) b hbF))
   exact hO.frame ho' (fun b hbF => heap_setCells_ne g cs _ w1 b (by have := f2 b (mem_flatten_getD (by omega) hbF); omega))
 ·intro b hbF
  rw [size_setCells_w]
  rw [List.flatten_append, List.mem_append] at hbF
  rcases hbF with hbF | hbF
  ·have := f2 b hbF; have := hb.size; omega
  ·have hbF : b ∈ F := by simpa using hbF
   have := hF b hbF; have := hFlt b hbF; omega
 ·rw [List.flatten_append]
  refine List.nodup_append.2 ⟨f3, by simpa using hN, ?_⟩
  intro a ha b hb' hab
  subst hab
  have h1 := f2 a ha
  have h2 := hF a (by simpa using hb')
  omega
theorem Fill.done {α : Type} {size : Nat} {e : TypeId} {O : ORep α} {w : World} {g n : Nat} {l : List α} {Fs : List (List Nat)} (h : Fill size e O w g n l n Fs) (hn : l.length = n) (hm : n <= maxLen) :
  ownS size e O w (.slice (some ⟨g, 0, none⟩) n n) l (g :: Fs.flatten) /\ (g :: Fs.flatten).Nodup := by
 obtain ⟨⟨cur, c1, c2, c3⟩, f1, f2, f3⟩ := h
 refine ⟨.inr ⟨g, n, cur, Fs, by rw [hn], c1, by omega, hm, c2, by rw [f1, hn], fun j hj => c3 j hj (by omega), rfl⟩, List.nodup_cons.2 ⟨fun hg => by have := f2 g hg; omega, f3⟩⟩
def LeafB (B : Nat) (w : World) (a : Option Addr) (c : Nat) (zs : List Int) : Prop := zs.length <= c /\ c <= 9223372036854775807 /\ Rd .u8 B w a zs /\ BytesOk zs
def LeafL {α : Type} (size : Nat) (R : Rep α) (B : Nat) (w : World) (a : Option Addr) (c : Nat) (l : List α) : Prop := l.length <= c /\ c <= 9223372036854775807 /\ RdS size R B w a l
theorem LeafB.below {B : Nat} {w w' : World} {a : Option Addr} {c : Nat} {zs : List Int} (h : LeafB B w a c zs) (hb : Below B w w') : LeafB B w' a c zs := ⟨h.1, h.2.1, h.2.2.1.below hb, h.2.2.2⟩
theorem LeafB.mono {B B' : Nat} {w : World} {a : Option Addr} {c : Nat} {zs : List Int} (h : LeafB B w a c zs) (hB : B <= B') : LeafB B' w a c zs := ⟨h.1, h.2.1, h.2.2.1.mono hB, h.2.2.2⟩
theorem LeafL.below {α : Type} {size : Nat} {R : Rep α} (hR : R.Good) {B : Nat} {w w' : World} {a : Option Addr} {c : Nat} {l : List α} (h : LeafL size R B w a c l) (hb : Below B w w') : LeafL size R B w' a c l := ⟨h.1, h.2.1, h.2.2.below hR hb⟩
theorem LeafL.mono {α : Type} {size : Nat} {R : Rep α} (hR : R.Good) {B B' : Nat} {w : World} {a : Option Addr} {c : Nat} {l : List α} (h : LeafL size R B w a c l) (hB : B <= B') : LeafL size R B' w a c l := ⟨h.1, h.2.1, h.2.2.mono hR hB⟩
def sumW {α : Type} (f : α -> Nat) : List α -> Nat
 | [] => 0
 | m :: r => f m + sumW f r
theorem sumW_take_succ {α : Type} {f : α -> Nat} {l : List α} {k : Nat} (h : k < l.length) : sumW f (l.take (k + 1)) = sumW f (l.take k) + f l[k] := by
 induction l generalizing k with
 | nil => simp at h
 | cons m r ih =>
  cases k with
  | zero => simp [sumW]
  | succ k => simp only [List.take_succ_cons, sumW, List.getElem_cons_succ]; rw [ih (by simpa using h)]; omega
theorem sumW_take_le {α : Type} (f : α -> Nat) (l : List α) (k : Nat) : sumW f (l.take k) <= sumW f l := by
 induction l generalizing k with
 | nil => simp [sumW]
 | cons m r ih =>
  cases k with
  | zero => simp [sumW]
  | succ k => simp only [List.take_succ_cons, sumW]; have := ih k; omega
theorem sumW_le {α : Type} {f : α -> Nat} {l : List α} {k : Nat} (h : k < l.length) : f l[k] <= sumW f l := by
 have h1 := sumW_take_succ (f := f) h
 have h2 := sumW_take_le f l (k + 1)
 omega
structure Above (X : Nat) (w w' : World) : Prop where
 size : w.heap.size <= w'.heap.size
 block : ∀ b, X <= b -> b < w.heap.size -> w'.heap[b]? = w.heap[b]?
theorem Above.refl (X : Nat) (w : World) : Above X w w := ⟨rN, fun _ _ _ => rfl⟩
theorem Above.trans {X : Nat} {a b c : World} (h : Above X a b) (k : Above X b c) : Above X a c := ⟨Nat.le_trans h.size k.size, fun i hX hi => (k.block i hX (Nat.lt_of_lt_of_le hi h.size)).trans (h.block i hX hi)⟩
theorem Above.setCell {X : Nat} {a w : World} (h : Above X a w) {p : Addr} (hp : p.block < X) (u : Value) : Above X a (w.setCell p u) :=
 h.trans ⟨by simp, fun k hX _ => Below.heap_setCell _ _ _ _ (by omega)⟩
theorem Above.below {X : Nat} {w w' : World} (h : Below w.heap.size w w') : Above X w w' := ⟨h.size, fun b _ hb => h.block b hb⟩
theorem Fill.start {α : Type} {size : Nat} {e : TypeId} {O : ORep α} {w : World} {g n base : Nat} {l : List α} {xs : List Value} (h : w.ownsRow base e size (.slice (some ⟨g, 0, none⟩) n n) n xs) : Fill size e O w g n l 0 [] := by
 rcases h.2 with ⟨h', _⟩ | ⟨g', cap, cur, h', hb, hg, hnc, hm, hs, _⟩
 ·simp at h'
 ·simp only [Value.slice.injEq, Option.some.injEq, Addr.mk.injEq, and_true, true_and] at h'
  obtain ⟨rfl, rfl⟩ := h'
  exact ⟨⟨cur, hg, hs, fun j _ hj => by omega⟩, rfl, fun b hb => by simp at hb, by simp⟩
theorem Fill.keep {α : Type} {size : Nat} {e : TypeId} {O : ORep α} {R : Rep α} (hO : O.Good R size) {w w1 : World} {g n k : Nat} {l : List α} {Fs : List (List Nat)} (h : Fill size e O w g n l k Fs) (hg : g < w.heap.size) (hb : Below w.heap.size w w1) : Fill size e O w1 g n l k Fs := by
 obtain ⟨⟨cur, c1, c2, c3⟩, f1, f2, f3⟩ := h
 exact ⟨⟨cur, by rw [hb.block g hg]; exact c1, c2, fun j hj hjk => hO.frame (c3 j hj hjk) (fun b hbF => hb.block b (hO.lt (c3 j hj hjk) b hbF))⟩, f1, fun b hbF => ⟨(f2 b hbF).1, Nat.lt_of_lt_of_le (f2 b hbF).2 hb.size⟩, f3⟩
theorem Fill.cells {α : Type} {size : Nat} {e : TypeId} {O : ORep α} {w : World} {g n k : Nat} {l : List α} {Fs : List (List Nat)} (h : Fill size e O w g n l k Fs) (hk : k < n) (i : Nat) (hi : i < size) : ∃ u, w.cell? ⟨g, k * size + i, none⟩ = some u := by
 obtain ⟨⟨cur, c1, c2, _⟩, _, _, _⟩ := h
 have hm : (k + 1) * size <= n * size := Nat.mul_le_mul_right _ hk
 rw [Nat.succ_mul] at hm
 exact ⟨_, by rw [cell_of_row w g _ cur e (0, 0) c1]; exact Array.getElem?_eq_getElem (by omega)⟩
theorem Fill.free {α : Type} {size : Nat} {e : TypeId} {O : ORep α} {w : World} {g n k : Nat} {l : List α} {Fs : List (List Nat)} (h : Fill size e O w g n l k Fs) (j : Nat) : w.frozen? ⟨g, j, none⟩ = false := by
 obtain ⟨⟨cur, c1, _, _⟩, _, _, _⟩ := h
 exact frozen_of_row w g j cur e c1
structure MInode where
 fId : Int
 fData : List Int
 fSure : Int
def rInode : Rep MInode := fun B w cs m => ∃ a1 : Option Addr, ∃ c1 : Nat, cs = [.int .i64 m.fId, .slice a1 m.fData.length c1, .int .i64 m.fSure] /\ (Lit.int .i64 m.fId).wf = true /\ LeafB B w a1 c1 m.fData /\ (Lit.int .i64 m.fSure).wf = true /\ True
theorem rInode_good : rInode.Good :=
 ⟨fun ⟨a1, c1, h, h0, h1, h2, _⟩ hb => ⟨a1, c1, h, h0, h1.below hb, h2, trivial⟩, fun ⟨a1, c1, h, h0, h1, h2, _⟩ hB => ⟨a1, c1, h, h0, h1.mono hB, h2, trivial⟩⟩
def oInode : ORep MInode := fun w cs m F => ∃ v1 : Value, ∃ F1 : List Nat, cs = [.int .i64 m.fId, v1, .int .i64 m.fSure] /\ (Lit.int .i64 m.fId).wf = true /\ ownB 5 w v1 m.fData F1 /\ (Lit.int .i64 m.fSure).wf = true /\ F = F1 ++ []
theorem oInode_good : oInode.Good rInode 3 := by
 refine ⟨?_, ?_, ?_, ?_⟩
 ·rintro w w' cs m F ⟨v1, F1, rfl, h0, h1, h2, rfl⟩ hb
  exact ⟨v1, F1, rfl, h0, h1.frame (fun k hk => hb k (by simp [hk])), h2, rfl⟩
 ·rintro w cs m F ⟨v1, F1, rfl, h0, h1, h2, rfl⟩ k hk
  simp only [List.mem_append, List.not_mem_nil, or_false] at hk
  exact h1.lt k hk
 ·rintro w cs m F ⟨v1, F1, rfl, h0, h1, h2, rfl⟩
  obtain ⟨a1, c1, rfl, g1⟩ := h1.read
  exact ⟨a1, c1, rfl, h0, g1, h2, trivial⟩
 ·rintro w cs m F ⟨v1, F1, rfl, h0, h1, h2, rfl⟩
  rfl
def wInode (m : MInode) : Nat := m.fData.length
structure MEntry where
 fName : ByteArray
 fId : Int
def rEntry : Rep MEntry := fun B w cs m => cs = [.string m.fName, .int .i64 m.fId] /\ m.fName.size <= 9223372036854775807 /\ (Lit.int .i64 m.fId).wf = true /\ True
theorem rEntry_good : rEntry.Good :=
 ⟨fun ⟨h, h0, h1, _⟩ hb => ⟨h, h0, h1, trivial⟩, fun ⟨h, h0, h1, _⟩ hB => ⟨h, h0, h1, trivial⟩⟩
def oEntry : ORep MEntry := fun w cs m F => cs = [.string m.fName, .int .i64 m.fId] /\ m.fName.size <= 9223372036854775807 /\ (Lit.int .i64 m.fId).wf = true /\ F = []
theorem oEntry_good : oEntry.Good rEntry 2 := by
 refine ⟨?_, ?_, ?_, ?_⟩
 ·rintro w w' cs m F ⟨rfl, h0, h1, rfl⟩ hb
  exact ⟨rfl, h0, h1, rfl⟩
 ·rintro w cs m F ⟨rfl, h0, h1, rfl⟩ k hk
  cases hk
 ·rintro w cs m F ⟨rfl, h0, h1, rfl⟩
  exact ⟨rfl, h0, h1, trivial⟩
 ·rintro w cs m F ⟨rfl, h0, h1, rfl⟩
  rfl
def wEntry (m : MEntry) : Nat := m.fName.size
structure MDisk where
 fInodes : List MInode
 fNames : List MEntry
 fSafe : List MEntry
 fNext : Int
def rDisk : Rep MDisk := fun B w cs m => ∃ a0 : Option Addr, ∃ c0 : Nat, ∃ a1 : Option Addr, ∃ c1 : Nat, ∃ a2 : Option Addr, ∃ c2 : Nat, cs = [.slice a0 m.fInodes.length c0, .slice a1 m.fNames.length c1, .slice a2 m.fSafe.length c2, .int .i64 m.fNext] /\ LeafL 3 rInode B w a0 c0 m.fInodes /\ LeafL 2 rEntry B w a1 c1 m.fNames /\ LeafL 2 rEntry B w a2 c2 m.fSafe /\ (Lit.int .i64 m.fNext).wf = true /\ True
theorem rDisk_good : rDisk.Good :=
 ⟨fun ⟨a0, c0, a1, c1, a2, c2, h, h0, h1, h2, h3, _⟩ hb => ⟨a0, c0, a1, c1, a2, c2, h, h0.below rInode_good hb, h1.below rEntry_good hb, h2.below rEntry_good hb, h3, trivial⟩, fun ⟨a0, c0, a1, c1, a2, c2, h, h0, h1, h2, h3, _⟩ hB => ⟨a0, c0, a1, c1, a2, c2, h, h0.mono rInode_good hB, h1.mono rEntry_good hB, h2.mono rEntry_good hB, h3, trivial⟩⟩
def oDisk : ORep MDisk := fun w cs m F => ∃ v0 : Value, ∃ F0 : List Nat, ∃ v1 : Value, ∃ F1 : List Nat, ∃ v2 : Value, ∃ F2 : List Nat, cs = [v0, v1, v2, .int .i64 m.fNext] /\ ownS 3 50 oInode w v0 m.fInodes F0 /\ ownS 2 74 oEntry w v1 m.fNames F1 /\ ownS 2 74 oEntry w v2 m.fSafe F2 /\ (Lit.int .i64 m.fNext).wf = true /\ F = F0 ++ F1 ++ F2 ++ []
theorem oDisk_good : oDisk.Good rDisk 4 := by
 refine ⟨?_, ?_, ?_, ?_⟩
 ·rintro w w' cs m F ⟨v0, F0, v1, F1, v2, F2, rfl, h0, h1, h2, h3, rfl⟩ hb
  exact ⟨v0, F0, v1, F1, v2, F2, rfl, ownS.frame oInode_good h0 (fun k hk => hb k (by simp [hk])), ownS.frame oEntry_good h1 (fun k hk => hb k (by simp [hk])), ownS.frame oEntry_good h2 (fun k hk => hb k (by simp [hk])), h3, rfl⟩
 ·rintro w cs m F ⟨v0, F0, v1, F1, v2, F2, rfl, h0, h1, h2, h3, rfl⟩ k hk
  simp only [List.mem_append, List.not_mem_nil, or_false] at hk
  rcases hk with (hk | hk) | hk
  ·exact ownS.lt oInode_good h0 k hk
  ·exact ownS.lt oEntry_good h1 k hk
  ·exact ownS.lt oEntry_good h2 k hk
 ·rintro w cs m F ⟨v0, F0, v1, F1, v2, F2, rfl, h0, h1, h2, h3, rfl⟩
  obtain ⟨a0, c0, rfl, g0⟩ := ownS.read oInode_good h0
  obtain ⟨a1, c1, rfl, g1⟩ := ownS.read oEntry_good h1
  obtain ⟨a2, c2, rfl, g2⟩ := ownS.read oEntry_good h2
  exact ⟨a0, c0, a1, c1, a2, c2, rfl, g0, g1, g2, h3, trivial⟩
 ·rintro w cs m F ⟨v0, F0, v1, F1, v2, F2, rfl, h0, h1, h2, h3, rfl⟩
  rfl
def wDisk (m : MDisk) : Nat := (m.fInodes.length + sumW wInode m.fInodes) + (m.fNames.length + sumW wEntry m.fNames) + (m.fSafe.length + sumW wEntry m.fSafe)
def inRange (x a b : Int) : Bool := decide (a <= x /\ x <= b)
theorem inRange_yes {x a b : Int} (h1 : a <= x) (h2 : x <= b) : inRange x a b = true := decide_eq_true ⟨h1, h2⟩
theorem inRange_no {x a b : Int} (h : ¬ (a <= x /\ x <= b)) : inRange x a b = false := decide_eq_false h
set_option maxHeartbeats 400000 in
theorem l1In_any (x a b : Int) (w : World) :
  Calls Tryz.prog 82 #[.int .i64 x, .int .i64 a, .int .i64 b] w fun e w' => e = .returned (.bool (inRange x a b)) /\ w' = w := by
 by_cases h1 : a <= x
 ·by_cases h2 : x <= b
  ·have HV := Hm (inRange_yes h1 h2)
   go_enter Tryz.func82, Tryz.ntmps82
   go_wp2
   go_ret
   exact ⟨by rw [HV.out]; rfl, rfl⟩
  ·have HV := Hm (inRange_no (x := x) (a := a) (b := b) (by omega))
   go_enter Tryz.func82, Tryz.ntmps82
   go_wp2
   go_ret
   exact ⟨by rw [HV.out]; rfl, rfl⟩
 ·have HV := Hm (inRange_no (x := x) (a := a) (b := b) (by omega))
  go_enter Tryz.func82, Tryz.ntmps82
  go_wp2
  go_ret
  exact ⟨by rw [HV.out]; rfl, rfl⟩
end Go.Proofs.YtegonncmopecnaaGreatDoor
