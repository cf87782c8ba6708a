/-
  Part 1 of the texts that the proof leans on.
-/
import Derived.Deep.RegionHeld3
import Derived.WalkKit
import Derived.Below
import Derived.WalkSpells
import Derived.WalkLawsBesides
import Derived.Deep.QuietTactic
import Derived.BigQuiet
import Derived.OpenShut
import Derived.Deep.AppendSrc
import Derived.Laws.CopyOwn
import Derived.Test.YtcamcgfbljhbhaaGreatDoorRows
import Derived.Test.YtcamcgfbljhbhaaGreatDoorChecked
set_option linter.unusedVariables false
set_option linter.unusedSimpArgs false
set_option maxRecDepth 10000
set_option maxHeartbeats 20000000

namespace Go.Proofs.YtcamcgfbljhbhaaGreatDoor
open Go
def nth {α : Type} : List α -> Nat -> Option α
 | [], _ => none
 | a :: _, 0 => some a
 | _ :: l, n + 1 => nth l n
theorem aM {α : Type} {l : Array α} {i : Nat} {a : α} (h : nth l.toList i = some a) : l[i]? = some a := by
 have k : ∀ (l : List α) (i : Nat), nth l i = l[i]? := by
  intro l
  induction l with
  | nil => intro i; simp [nth]
  | cons x l ih => intro i; cases i with
   | zero => simp [nth]
   | succ i => simp [nth, ih]
 rw [k] at h
 simpa using h
section
variable {P : Program} {md : Region.Mode} {ops : Array Oper} {Q : Exit -> Act -> World -> Prop} {S : World -> Prop}
theorem tk (i : Nat) (oi : Oper) (d : Option Tmp) {v : Value} {fuel : Nat} {listed : Array Bool} {a : Act} {w : World} (hi : ops[i]? = some oi) (hd : oi.dst = d)
  (hc : (Region.noSelect ops && (Region.free md ops listed i && (Region.ready md ops listed).contains i)) = true) (hS : S w) (hw : Region.wanted oi (yielded ops a.tmps) = true)
  (hQ : ∀ c a w, Q (.panic c) (a.put d v) w -> Q (.panic c) a w) (hy : ∀ w, S w -> (execOp a.eval oi).run P w = .ok (.value v) w)
  (h : wpAnyH P md ops Q S fuel (listed.setIfInBounds i true) (a.put d v) w) : wpAnyH P md ops Q S (fuel + 1) listed a w := by
 subst hd; simp only [Bool.and_eq_true] at hc; exact wpAnyH_take hi hc.1 hc.2.1 hc.2.2 hQ (.inl ⟨hw, hy⟩) hS h
theorem tn (i : Nat) (oi : Oper) (d : Option Tmp) {fuel : Nat} {listed : Array Bool} {a : Act} {w : World} (hi : ops[i]? = some oi) (hd : oi.dst = d)
  (hc : (Region.noSelect ops && (Region.free md ops listed i && (Region.ready md ops listed).contains i)) = true) (hS : S w) (hw : Region.wanted oi (yielded ops a.tmps) = false)
  (hQ : ∀ c a w, Q (.panic c) (a.put d undef) w -> Q (.panic c) a w)
  (h : wpAnyH P md ops Q S fuel (listed.setIfInBounds i true) (a.put d undef) w) : wpAnyH P md ops Q S (fuel + 1) listed a w := by
 subst hd; simp only [Bool.and_eq_true] at hc; exact wpAnyH_take hi hc.1 hc.2.1 hc.2.2 hQ (.inr ⟨hw, rfl⟩) hS h
theorem tq (i : Nat) (oi : Oper) (t : Tmp) {v : Value} {fuel : Nat} {listed : Array Bool} {a : Act} {w : World} (hS : S w)
 (h : wpAnyH P md ops Q S fuel (listed.setIfInBounds i true) (a.put (some t) v) w) (hi : ops[i]? = some oi := by rfl) (hd : oi.dst = some t := by rfl)
 (hc : (Region.noSelect ops && (Region.free md ops listed i && (Region.ready md ops listed).contains i)) = true := by kernel_rfl) (hw : Region.wanted oi (yielded ops a.tmps) = true := by rfl)
 (hy : ∀ w, S w -> (execOp a.eval oi).run P w = .ok (.value v) w := by intro w h; (try dsimp only at h); go_simp; try (with_reducible rfl))
 (hQ : ∀ c a w, Q (.panic c) (a.put (some t) v) w -> Q (.panic c) a w := by first | exact fun _ _ _ x => x | exact fun _ _ _ h => by cases h.1) : wpAnyH P md ops Q S (fuel + 1) listed a w :=
 tk i oi (some t) hi hd hc hS hw hQ hy h
theorem tm (i : Nat) (oi : Oper) (t : Tmp) {fuel : Nat} {listed : Array Bool} {a : Act} {w : World} (hS : S w)
 (h : wpAnyH P md ops Q S fuel (listed.setIfInBounds i true) (a.put (some t) undef) w) (hi : ops[i]? = some oi := by rfl) (hd : oi.dst = some t := by rfl)
 (hc : (Region.noSelect ops && (Region.free md ops listed i && (Region.ready md ops listed).contains i)) = true := by kernel_rfl) (hw : Region.wanted oi (yielded ops a.tmps) = false := by rfl)
 (hQ : ∀ c a w, Q (.panic c) (a.put (some t) undef) w -> Q (.panic c) a w := by first | exact fun _ _ _ x => x | exact fun _ _ _ h => by cases h.1) : wpAnyH P md ops Q S (fuel + 1) listed a w :=
 tn i oi (some t) hi hd hc hS hw hQ h
theorem lM (rs : List Nat) {fuel : Nat} {listed : Array Bool} {a : Act} {w : World} (h : AllReadyH P md ops Q S fuel listed a w rs) (hr : Region.ready md ops listed = rs := by kernel_rfl) (hne : rs ≠ [] := by simp) : wpAnyH P md ops Q S (fuel + 1) listed a w := wpAnyH_ready hr hne h
theorem bf (i : Nat) {o : Oper} {fuel : Nat} {listed : Array Bool} {a : Act} {w : World} (ho : nth ops.toList i = some o) (h : ∀ K' : Act -> World -> Prop, Shut (∀ a w, S w -> (S w -> wpAnyH P md ops Q S fuel (listed.setIfInBounds i true) a w) -> K' a w) -> if Region.wanted o (yielded ops a.tmps) = true then Oper.wp P o a w K' Q else K' (a.put o.dst undef) w) (hr : Region.ready md ops listed = [i] := by kernel_rfl) : wpAnyH P md ops Q S (fuel + 1) listed a w := wpAnyH_ready hr (by simp) (AllReadyH.cons (aM ho) h AllReadyH.nil)
end
theorem sa {α : Type} (l : List α) (i : Nat) (a : α) : l.toArray.setIfInBounds i a = (l.set i a).toArray := List.setIfInBounds_toArray ..
theorem s0 {α : Type} (a b : α) (l : List α) : (a :: l).set 0 b = b :: l := rfl
theorem s1 {α : Type} (a b : α) (l : List α) (i : Nat) : (a :: l).set (i + 1) b = a :: l.set i b := rfl

theorem uq {P : Program} {md : Region.Mode} {ops : Array Oper} {Q : Exit -> Act -> World -> Prop} {S : World -> Prop} (i : Nat) {oi : Oper} {t : Tmp} {v : Value} {fuel : Nat} {listed : Array Bool} {a b : Act} {w : World}
 (h : wpAnyH P md ops Q S fuel (listed.setIfInBounds i true) b w) (hS : S w := by assumption) (hi : nth ops.toList i = some oi := by rfl) (hd : oi.dst = some t := by rfl)
 (hc : (Region.noSelect ops && (Region.free md ops listed i && (Region.ready md ops listed).contains i)) = true := by kernel_rfl) (hw : Region.wanted oi (yielded ops a.tmps) = true := by rfl)
 (hy : ∀ w, S w -> (execOp a.eval oi).run P w = .ok (.value v) w := by intro w h; (try dsimp only at h); go_simp; try (with_reducible rfl))
 (hb : a.put (some t) v = b := by first | (simp only [Act.put, sa, s0, s1]; done) | (simp only [Act.put, sa, s0, s1]; rfl) | rfl)
 (hQ : ∀ c a w, Q (.panic c) (a.put (some t) v) w -> Q (.panic c) a w := by first | exact fun _ _ _ x => x | exact fun _ _ _ h => by cases h.1) : wpAnyH P md ops Q S (fuel + 1) listed a w :=
 tk i oi (some t) (aM hi) hd hc hS hw hQ hy (hb ▸ h)
theorem um {P : Program} {md : Region.Mode} {ops : Array Oper} {Q : Exit -> Act -> World -> Prop} {S : World -> Prop} (i : Nat) {oi : Oper} {t : Tmp} {fuel : Nat} {listed : Array Bool} {a b : Act} {w : World}
 (h : wpAnyH P md ops Q S fuel (listed.setIfInBounds i true) b w) (hS : S w := by assumption) (hi : nth ops.toList i = some oi := by rfl) (hd : oi.dst = some t := by rfl)
 (hc : (Region.noSelect ops && (Region.free md ops listed i && (Region.ready md ops listed).contains i)) = true := by kernel_rfl) (hw : Region.wanted oi (yielded ops a.tmps) = false := by rfl)
 (hb : a.put (some t) undef = b := by first | (simp only [Act.put, sa, s0, s1]; done) | (simp only [Act.put, sa, s0, s1]; rfl) | rfl)
 (hQ : ∀ c a w, Q (.panic c) (a.put (some t) undef) w -> Q (.panic c) a w := by first | exact fun _ _ _ x => x | exact fun _ _ _ h => by cases h.1) : wpAnyH P md ops Q S (fuel + 1) listed a w :=
 tn i oi (some t) (aM hi) hd hc hS hw hQ (hb ▸ h)
theorem aL {P : Program} {md : Region.Mode} {ops : Array Oper} {Q : Exit -> Act -> World -> Prop} {S : World -> Prop} {fuel : Nat} {listed : Array Bool} {K : Act -> World -> Prop} (hK : Shut (∀ a w, S w -> (S w -> wpAnyH P md ops Q S fuel listed a w) -> K a w)) {a b : Act} {w : World} (hS : S w)
 (h : S w -> wpAnyH P md ops Q S fuel listed b w) (hb : a = b := by first | (simp only [Act.put, sa, s0, s1]; done) | (simp only [Act.put, sa, s0, s1]; rfl) | rfl) : K a w := hK.out a w hS (hb ▸ h)
theorem dC {P : Program} {md : Region.Mode} {ops : Array Oper} {Q : Exit -> Act -> World -> Prop} {S : World -> Prop} {listed : Array Bool} {a : Act} {w : World} {fuel : Nat} (h : Q .normal a w) (hr : Region.ready md ops listed = [] := by kernel_rfl) : wpAnyH P md ops Q S fuel listed a w := wpAnyH_done hr h fuel
theorem vE {P : Program} {ops : Array Oper} {Q : Exit -> Act -> World -> Prop} (S : World -> Prop) {id : Nat} {a : Act} {w : World} (hS : S w.drew) (h : S w.drew -> wpAnyH P .any ops Q S ops.size (Array.replicate ops.size false) a w.drew) (hm : P.follows .mixedOrders = true := by kernel_rfl) : (Code.region id ops true).wp P Q a w := wp_region_held_drew hm hS h
theorem kz (v : World) {P : Program} {ops : Array Oper} {Q : Exit -> Act -> World -> Prop} {id : Nat} {a : Act} {w : World} (h : RowKit.Below v.heap.size v w.drew -> wpAnyH P .any ops Q (fun W => RowKit.Below v.heap.size v W) ops.size (Array.replicate ops.size false) a w.drew) (hS : RowKit.Below v.heap.size v w.drew := by exact RowKit.Below.drew (RowKit.Below.refl _ _)) (hm : P.follows .mixedOrders = true := by kernel_rfl) : (Code.region id ops true).wp P Q a w := wp_region_held_drew hm hS h
end Go.Proofs.YtcamcgfbljhbhaaGreatDoor

namespace Go.Proofs.YtcamcgfbljhbhaaGreatDoor
open Go.RowKit
theorem rB {B : Nat} {w : World} : Below B w w := Below.refl B w
theorem rN {n : Nat} : n <= n := Nat.le_refl n
def Rd (k : IntKind) (B : Nat) (w : World) (a : Option Addr) (zs : List Int) : Prop :=
 ∀ j, j < zs.length -> ∃ b off, a = some ⟨b, off, none⟩ /\ b < B /\ w.cell? ⟨b, off + j, none⟩ = some (.int k (zs.getD j 0))
theorem Rd.below {k : IntKind} {B : Nat} {w w' : World} {a : Option Addr} {zs : List Int} (h : Rd k B w a zs) (hb : Below B w w') : Rd k B w' a zs := by
 intro j hj; obtain ⟨b, off, e, hlt, hc⟩ := h j hj; exact ⟨b, off, e, hlt, (hb.cell (p := ⟨b, off + j, none⟩) hlt).trans hc⟩
theorem Rd.mono {k : IntKind} {B B' : Nat} {w : World} {a : Option Addr} {zs : List Int} (h : Rd k B w a zs) (hB : B <= B') : Rd k B' w a zs := by
 intro j hj; obtain ⟨b, off, e, hlt, hc⟩ := h j hj; exact ⟨b, off, e, by omega, hc⟩
theorem Rd.own {k : IntKind} {w : World} {base e g cap n : Nat} {zs : List Int} (hn : zs.length = n)
  (h : w.ownsRow base e 1 (.slice (some ⟨g, 0, none⟩) n cap) n (zs.map (Value.int k))) : Rd k w.heap.size w (some ⟨g, 0, none⟩) zs := by
 intro j hj; refine ⟨g, 0, rfl, (h.lt g rfl).2, ?_⟩; have := h.cellAt j (by omega); rw [Nat.zero_add, this]; simp [hj]
theorem ed {a b c : World} {r : Option Nat} (h : a.grownBy b r) (k : b.grownBy c r) : a.grownBy c r :=
 ⟨k.os.trans h.os, k.tape.trans h.tape, k.output.trans h.output, Nat.le_trans h.size k.size, fun i hi hne => (k.block i (Nat.lt_of_lt_of_le hi h.size) hne).trans (h.block i hi hne)⟩
def nc (zs : List Int) : Prop := ∀ z, z ∈ zs -> 0 <= z /\ z <= 255
theorem Hid.mk {p : Prop} (h : p) : Hid p := h
theorem Hm {p : Prop} (h : p) : Hid p := h
theorem N9 (k : IntKind) (x : Int) : ∀ u ∈ [Value.int k x], u.oneCell' = true := by
 intro u hu; simp at hu; subst hu; rfl
theorem cM {w : World} {base e size : Nat} {v : Value} {n n' : Nat} {xs ys : List Value} (h : w.ownsRow base e size v n xs) (hn : n = n') (hx : xs = ys) : w.ownsRow base e size v n' ys := by
 subst hn; subst hx; exact h
theorem ep {w : World} {base base' e size : Nat} {v : Value} {n : Nat} {xs : List Value} (h : w.ownsRow base e size v n xs) (hb : base' <= base) : w.ownsRow base' e size v n xs := by
 refine ⟨h.1, ?_⟩; rcases h.2 with h' | ⟨g, cap, cur, rfl, hg, rest⟩
 ·exact .inl h'
 ·exact .inr ⟨g, cap, cur, rfl, by omega, rest⟩
theorem Gu {w : World} {base e n : Nat} {v : Value} {xs : List Value} (h : w.ownsRow base e 1 v n xs) (hn : 0 < n) : ∃ g cap, v = .slice (some ⟨g, 0, none⟩) n cap /\ n <= cap /\ base <= g /\ g < w.heap.size := by
 rcases h.2 with ⟨_, h'⟩ | ⟨g, cap, cur, rfl, hb, hg, po, _⟩
 ·omega
 ·exact ⟨g, cap, rfl, po, hb, (h.lt g rfl).2⟩
theorem Oa {k : IntKind} {w : World} {base e n : Nat} {v : Value} {zs : List Int} (hn : zs.length = n) (h : w.ownsRow base e 1 v n (zs.map (Value.int k))) :
  ∃ a c, v = .slice a n c /\ n <= c /\ Rd k w.heap.size w a zs := by
 rcases h.2 with ⟨rfl, h'⟩ | ⟨g, cap, cur, rfl, hb, hg, po, _⟩
 ·subst h'
  exact ⟨none, 0, rfl, Nat.le_refl _, fun j hj => by omega⟩
 ·exact ⟨_, cap, rfl, po, Rd.own hn h⟩
theorem aA {w w' : World} {base e size n : Nat} {v : Value} {xs : List Value} (h : w.ownsRow base e size v n xs) (hb : Below w.heap.size w w') : w'.ownsRow base e size v n xs := by
 refine ⟨h.1, ?_⟩; rcases h.2 with h' | ⟨g, cap, cur, rfl, hg, hh, rest⟩
 ·exact .inl h'
 ·exact .inr ⟨g, cap, cur, rfl, hg, by rw [hb.block g (h.lt g rfl).2]; exact hh, rest⟩
theorem Rd.drewN {k : IntKind} {B d : Nat} {w : World} {a : Option Addr} {zs : List Int} (h : Rd k B w a zs) : Rd k B (w.drewN d) a zs := h
theorem Rd.grown {k : IntKind} {B : Nat} {w w' : World} {r : Option Nat} {a : Option Addr} {zs : List Int} (h : Rd k B w a zs) (hg : w.grownBy w' r) (hr : ∀ i, r = some i -> B <= i) : Rd k B w' a zs := by
 intro j hj; obtain ⟨b, off, e, hlt, hc⟩ := h j hj; exact ⟨b, off, e, hlt, hg.cell hc (fun e => by have := hr b e.symm; omega)⟩
def bu (s : ByteArray) : List Int := s.data.toList.map fun b => (b.toNat : Int)
theorem cf (s : ByteArray) : (bu s).length = s.size := by simp [bu]
theorem lN (g : Nat) (e : TypeId) : ∀ (news : List Value) (o : Nat) (w : World) (cur : Array Value), w.heap[g]? = some (.cells cur e (0, 0)) -> o + news.length <= cur.size ->
  (∃ cur', (w.setCells g o news).heap[g]? = some (.cells cur' e (0, 0)) /\ cur'.size = cur.size /\ cur'.toList.take (o + news.length) = cur.toList.take o ++ news) /\ w.grownBy (w.setCells g o news) (some g)
 | [], o, w, cur, hg, _ => ⟨⟨cur, hg, rfl, by simp⟩, World.grownBy.refl _ _⟩
 | u :: r, o, w, cur, hg, lz => by
  have h1 := heap_setCell_same w g o cur e u hg; obtain ⟨⟨cur', h2, h3, h4⟩, h5⟩ := lN g e r (o + 1) (w.setCell ⟨g, o, none⟩ u) (cur.setIfInBounds o u) h1 (by simp at lz ⊢; omega); refine ⟨⟨cur', h2, by simpa using h3, ?_⟩, ?_⟩
  ·have e1 : o + (u :: r).length = o + 1 + r.length := by simp; omega
   rw [e1, h4, Array.toList_setIfInBounds]; have ho : o < cur.toList.length := by simp at lz ⊢; omega
   rw [List.take_set, List.take_succ_eq_append_getElem ho, List.set_append_right _ _ (by simp; omega)]; have e2 : o - (cur.toList.take o).length = 0 := by simp; omega
   rw [e2]; simp
  ·exact ed (b := w.setCell ⟨g, o, none⟩ u) ⟨rfl, rfl, rfl, by simp, fun k _ hk => heap_setCell_other w ⟨g, o, none⟩ k u (fun e => hk (by simp [e]))⟩ h5
section
variable {P : Program} (w : World)
theorem wz (base : Nat) (t tx ty e : TypeId) (i : TypeInfo) (z : Value) (size bytes : Nat) (ht : P.underlying t = some (.slice e)) (hi : P.info? e = some i) (hz : i.zero = some z)
  (hsize : i.size = size) (hby : i.bytes = bytes) (hzs : z.cells.size = size)
  (v : Value) (n : Nat) (xs : List Value) (hown : w.ownsRow base e size v n xs) (x : Value) (m : Nat) (news : List Value) (hs : Src P size tx x m news w)
  (h63 : n + m <= maxLen) (hbytes : (n + m) * bytes <= 140737488355328) (hbase : base <= w.heap.size) :
  ∃ v' w', (Builtin.append_ #[t, tx] ty #[v, x]).run P w = .ok v' w' /\ w'.ownsRow base e size v' (n + m) (xs ++ news) /\ w.grownBy w' v.ownBlock := by
 subst hsize; subst hby; have hl := hs.newsLen; have I8 : n + m <= 9223372036854775807 := by simp only [maxLen] at h63; omega
 have hlen : (xs ++ news).length = (n + m) * i.size := by rw [List.length_append, hown.1, hl, Nat.add_mul]
 have grown : ∀ (old : Nat), old < n + m -> ∀ (row : Option Nat),
   (w.drew.alloc (.cells ((xs ++ news).toArray ++ Builtin.zeroCells z.cells (grownCap w (n + m) old e - (n + m))) e)).ownsRow base e i.size
    (.slice (some ⟨w.heap.size, 0, none⟩) (n + m) (grownCap w (n + m) old e)) (n + m) (xs ++ news) /\
   w.grownBy (w.drew.alloc (.cells ((xs ++ news).toArray ++ Builtin.zeroCells z.cells (grownCap w (n + m) old e - (n + m))) e)) row := by
  intro old ho row; have lx := grownCap_ge w (n + m) old e; have hcm : grownCap w (n + m) old e <= maxLen := grownCap_le_maxLen w (n + m) old e h63; refine ⟨⟨hlen, .inr ⟨w.heap.size, _, _, rfl, hbase, heap_alloc_new w.drew _, lx, hcm, ?_, ?_⟩⟩, ⟨rfl, rfl, rfl, by simp, fun k hk _ => Go.heap_alloc_old w.drew _ hk⟩⟩
  ·rw [Array.size_append, List.size_toArray, size_zeroCells, hzs, hlen, <- Nat.add_mul]
   congr 1
   omega
  ·rw [Array.toList_append, <- hlen]
   exact List.take_left
 rcases hown.2 with ⟨rfl, rfl⟩ | ⟨g, cap, cur, rfl, hbg, hg, po, hcm, hcs, sL⟩
 ·have hx : xs = [] := List.eq_nil_of_length_eq_zero (by simpa using hown.1)
  subst hx
  by_cases hm : m = 0
  ·subst hm
   have hn : news = [] := List.eq_nil_of_length_eq_zero (by simpa using hl); subst hn; refine ⟨.slice none 0 0, w, ?_, World.ownsRow_nil w base e i.size, World.grownBy.refl _ _⟩; rcases hs.kind with ⟨e', hk⟩ | hk <;> simp [Builtin.append_, run_underlying ht, run_underlying hk, sizeOf, typeInfo, hi, hs.len, hs.cells]
  ·have hr := run_append_grow_src (P := P) w t tx ty e i z ht hi hz none 0 0 [] (run_firstCells_none w.drew i.size 0 0 0) x m news hs (by omega) (by omega) (growslice_fits (by omega) hbytes)
   have hgr := grown 0 (by omega) (Value.ownBlock (.slice none 0 0)); exact ⟨_, _, hr, hgr.1, hgr.2⟩
 ·by_cases hroom : n + m <= cap
  ·have lz : n * i.size + news.length <= cur.size := by rw [hl, hcs, <- Nat.add_mul]; exact Nat.mul_le_mul_right _ hroom
   have hr := run_append_room_src (P := P) w t tx ty e i ht hi g 0 n cap x m news hs hroom
    (fun j hj => by rw [Nat.zero_add, cell_of_row w g _ cur e (0, 0) hg, Array.getElem?_eq_getElem (by omega)]; rfl) (fun j hj => frozen_of_row w g _ cur e hg)
   rw [Nat.zero_add] at hr; obtain ⟨⟨cur', h2, h3, h4⟩, h5⟩ := lN g e news (n * i.size) w cur hg lz; refine ⟨_, _, hr, ⟨hlen, .inr ⟨g, cap, cur', rfl, hbg, h2, hroom, hcm, by rw [h3, hcs], ?_⟩⟩, h5⟩; rw [Nat.add_mul, <- hl, h4, sL]
  ·have holds : (Builtin.firstCells i.size n (.slice (some ⟨g, 0, none⟩) n cap)).run P w.drew = .ok xs.toArray w.drew :=
    run_firstCells_some w.drew i.size n ⟨g, 0, none⟩ n cap xs hown.1 (by simpa using hown.cells (g := g) rfl)
   have hr := run_append_grow_src (P := P) w t tx ty e i z ht hi hz (some ⟨g, 0, none⟩) n cap xs holds x m news hs (by omega) (by omega) (growslice_fits (by omega) hbytes); have hgr := grown cap (by omega) (Value.ownBlock (.slice (some ⟨g, 0, none⟩) n cap)); exact ⟨_, _, hr, hgr.1, hgr.2⟩
theorem sM {ops : Array Oper} {rest : List Oper} {o : Oper} {a : Act} {Q : Exit -> Act -> World -> Prop} (hgd : o.guard = none) (s x : Operand) (t tx : TypeId)
  (ho : o.op = .call { callee := .builtin .append, args := #[s, x], argTypes := #[t, tx] })
  (base : Nat) (e : TypeId) (i : TypeInfo) (z : Value) (size bytes : Nat) (ht : P.underlying t = some (.slice e)) (hi : P.info? e = some i) (hz : i.zero = some z)
  (hsize : i.size = size) (hby : i.bytes = bytes) (hzs : z.cells.size = size)
  (v : Value) (n : Nat) (xs : List Value) (hs : a.eval s = v) (hown : w.ownsRow base e size v n xs)
  (m : Nat) (news : List Value) (hx : Src P size tx (a.eval x) m news w)
  (h63 : n + m <= maxLen) (hbytes : (n + m) * bytes <= 140737488355328) (hbase : base <= w.heap.size)
  (h : ∀ v' w', w'.ownsRow base e size v' (n + m) (xs ++ news) -> w.grownBy w' v.ownBlock -> wpList P ops Q rest (a.put o.dst v') w') : wpList P ops Q (o :: rest) a w := by
 refine wpList_plain hgd fun K hK => ?_
 obtain ⟨v', w', hr, h2, h3⟩ := wz (P := P) w base t tx o.type e i z size bytes ht hi hz hsize hby hzs v n xs hown (a.eval x) m news hx h63 hbytes hbase; unfold Oper.wp execOp; simp only [ho, resolve, invoke, builtin, Sem.run_bind, Sem.run_pure, Result.andThen_ok, List.map_toArray, List.map_cons, List.map_nil, hs, hr]; exact hK _ _ (h v' w' h2 h3)
end
theorem Src.rd {P : Program} {w : World} {k : IntKind} {B : Nat} {a : Option Addr} {zs : List Int} {tx e' : TypeId} {n c : Nat} (hk : P.underlying tx = some (.slice e')) (hn : zs.length = n) (hr : Rd k B w a zs) :
  Src P 1 tx (.slice a n c) n (zs.map (Value.int k)) w := by
 cases a with
 | none =>
  have hz : zs = [] := by
   cases zs with
   | nil => rfl
   | cons z r =>
    obtain ⟨_, _, h, _⟩ := hr 0 (by simp); cases h
  subst hz; simp only [List.length_nil] at hn; subst hn; exact Src.ofNil w hk c
 | some ad =>
  refine Src.ofSlice w hk ad n c _ (by simp [hn]) (fun j u hu => ?_) (ints_oneCell k zs)
  have hj : j < zs.length := by
   rcases Nat.lt_or_ge j zs.length with h | h
   ·exact h
   ·simp [List.getElem?_eq_none h] at hu
  obtain ⟨b, off, e, _, hc⟩ := hr j hj; simp only [Option.some.injEq] at e; subst e; rw [Addr.add_lit, hc]; simp [List.getElem?_eq_getElem hj] at hu; simp [List.getElem?_eq_getElem hj, hu]
end Go.Proofs.YtcamcgfbljhbhaaGreatDoor

namespace Go.Proofs.YtcamcgfbljhbhaaGreatDoor
open Go.RowKit
abbrev nS (α : Type) := Nat -> World -> List Value -> α -> Prop
abbrev jy (α : Type) := World -> List Value -> α -> List Nat -> Prop
structure nS.Good {α : Type} (R : nS α) : Prop where
 below : ∀ {B w w' cs m}, R B w cs m -> Below B w w' -> R B w' cs m
 mono : ∀ {B B' w cs m}, R B w cs m -> B <= B' -> R B' w cs m
structure jy.Good {α : Type} (O : jy α) (R : nS α) (size : Nat) : Prop where
 frame : ∀ {w w' cs m F}, O w cs m F -> (∀ k, k ∈ F -> w'.heap[k]? = w.heap[k]?) -> O w' cs m F
 lt : ∀ {w cs m F}, O w cs m F -> ∀ k, k ∈ F -> k < w.heap.size
 read : ∀ {w cs m F}, O w cs m F -> R w.heap.size w cs m
 len : ∀ {w cs m F}, O w cs m F -> cs.length = size
def Bk {α : Type} (size : Nat) (R : nS α) (B : Nat) (w : World) (a : Option Addr) (l : List α) : Prop :=
 ∀ j, (h : j < l.length) -> ∃ b off, a = some ⟨b, off, none⟩ /\ b < B /\ ∃ cs : List Value, cs.length = size /\ (∀ i u, cs[i]? = some u -> w.cell? ⟨b, off + j * size + i, none⟩ = some u) /\ R B w cs l[j]
theorem Bk.below {α : Type} {size : Nat} {R : nS α} (hR : R.Good) {B : Nat} {w w' : World} {a : Option Addr} {l : List α} (h : Bk size R B w a l) (hb : Below B w w') : Bk size R B w' a l := by
 intro j hj; obtain ⟨b, off, e, hB, cs, h1, h2, h3⟩ := h j hj; exact ⟨b, off, e, hB, cs, h1, fun i u hu => (hb.cell (p := ⟨b, off + j * size + i, none⟩) hB).trans (h2 i u hu), hR.below h3 hb⟩
theorem Bk.mono {α : Type} {size : Nat} {R : nS α} (hR : R.Good) {B B' : Nat} {w : World} {a : Option Addr} {l : List α} (h : Bk size R B w a l) (hB : B <= B') : Bk size R B' w a l := by
 intro j hj; obtain ⟨b, off, e, hb, cs, h1, h2, h3⟩ := h j hj; exact ⟨b, off, e, by omega, cs, h1, h2, hR.mono h3 hB⟩
theorem fQ {w w' : World} {base e size n : Nat} {v : Value} {xs : List Value} (h : w.ownsRow base e size v n xs) (hb : ∀ k, v.ownBlock = some k -> w'.heap[k]? = w.heap[k]?) : w'.ownsRow base e size v n xs := by
 refine ⟨h.1, ?_⟩; rcases h.2 with h' | ⟨g, cap, cur, rfl, hg, hh, rest⟩
 ·exact .inl h'
 ·exact .inr ⟨g, cap, cur, rfl, hg, by rw [hb g rfl]; exact hh, rest⟩
def lO (e : TypeId) (w : World) (v : Value) (zs : List Int) (F : List Nat) : Prop :=
 w.ownsRow 0 e 1 v zs.length (zs.map (Value.int .u8)) /\ nc zs /\ F = v.ownBlock.toList
theorem lO.frame {e : TypeId} {w w' : World} {v : Value} {zs : List Int} {F : List Nat} (h : lO e w v zs F) (hb : ∀ k, k ∈ F -> w'.heap[k]? = w.heap[k]?) : lO e w' v zs F := by
 obtain ⟨h1, h2, rfl⟩ := h; exact ⟨fQ h1 (fun k hk => hb k (by simp [hk])), h2, rfl⟩
theorem lO.lt {e : TypeId} {w : World} {v : Value} {zs : List Int} {F : List Nat} (h : lO e w v zs F) : ∀ k, k ∈ F -> k < w.heap.size := by
 obtain ⟨h1, h2, rfl⟩ := h; intro k hk; exact (h1.lt k (by simpa using hk)).2
theorem lO.read {e : TypeId} {w : World} {v : Value} {zs : List Int} {F : List Nat} (h : lO e w v zs F) :
  ∃ a c, v = .slice a zs.length c /\ zs.length <= c /\ c <= 9223372036854775807 /\ Rd .u8 w.heap.size w a zs /\ nc zs := by
 obtain ⟨h1, h2, rfl⟩ := h; rcases h1.2 with ⟨rfl, h'⟩ | ⟨g, cap, cur, rfl, hb, hg, po, hm, _⟩
 ·exact ⟨none, 0, by rw [h'], by omega, by omega, fun j hj => by omega, h2⟩
 ·exact ⟨_, cap, rfl, po, by simpa [maxLen] using hm, Rd.own rfl h1, h2⟩
def aF {α : Type} (size : Nat) (e : TypeId) (O : jy α) (w : World) (v : Value) (l : List α) (F : List Nat) : Prop :=
 (v = .slice none 0 0 /\ l = [] /\ F = []) ∨
 ∃ g cap, ∃ cur : Array Value, ∃ Fs : List (List Nat), v = .slice (some ⟨g, 0, none⟩) l.length cap /\ w.heap[g]? = some (.cells cur e (0, 0)) /\ l.length <= cap /\ cap <= maxLen /\ cur.size = cap * size /\ Fs.length = l.length /\
  (∀ j, (h : j < l.length) -> O w ((cur.toList.drop (j * size)).take size) l[j] (Fs.getD j [])) /\ F = g :: Fs.flatten
theorem dh {Fs : List (List Nat)} {j k : Nat} (hj : j < Fs.length) (h : k ∈ Fs.getD j []) : k ∈ Fs.flatten := by
 rw [List.getD_eq_getElem?_getD, List.getElem?_eq_getElem hj] at h; exact List.mem_flatten.2 ⟨_, List.getElem_mem hj, h⟩
theorem jN {Fs : List (List Nat)} {k : Nat} (h : k ∈ Fs.flatten) : ∃ j, j < Fs.length /\ k ∈ Fs.getD j [] := by
 obtain ⟨l, hl, hk⟩ := List.mem_flatten.1 h; obtain ⟨j, hj, rfl⟩ := List.mem_iff_getElem.1 hl; exact ⟨j, hj, by rw [List.getD_eq_getElem?_getD, List.getElem?_eq_getElem hj]; exact hk⟩
theorem aF.frame {α : Type} {size : Nat} {e : TypeId} {O : jy α} {R : nS α} (hO : O.Good R size) {w w' : World} {v : Value} {l : List α} {F : List Nat} (h : aF size e O w v l F) (hb : ∀ k, k ∈ F -> w'.heap[k]? = w.heap[k]?) : aF size e O w' v l F := by
 rcases h with h | ⟨g, cap, cur, Fs, h1, h2, h3, h4, h5, h6, h7, rfl⟩
 ·exact .inl h
 ·refine .inr ⟨g, cap, cur, Fs, h1, by rw [hb g (by simp)]; exact h2, h3, h4, h5, h6, fun j hj => hO.frame (h7 j hj) (fun k hk => hb k ?_), rfl⟩
  exact List.mem_cons_of_mem _ (dh (by omega) hk)
theorem aF.lt {α : Type} {size : Nat} {e : TypeId} {O : jy α} {R : nS α} (hO : O.Good R size) {w : World} {v : Value} {l : List α} {F : List Nat} (h : aF size e O w v l F) : ∀ k, k ∈ F -> k < w.heap.size := by
 rcases h with ⟨_, _, rfl⟩ | ⟨g, cap, cur, Fs, h1, h2, h3, h4, h5, h6, h7, rfl⟩
 ·intro k hk; cases hk
 ·intro k hk
  rcases List.mem_cons.1 hk with rfl | hk
  ·exact (Array.getElem?_eq_some_iff.1 h2).1
  ·obtain ⟨j, hj, hkj⟩ := jN hk
   exact hO.lt (h7 j (by omega)) k hkj
theorem aF.read {α : Type} {size : Nat} {e : TypeId} {O : jy α} {R : nS α} (hO : O.Good R size) {w : World} {v : Value} {l : List α} {F : List Nat} (h : aF size e O w v l F) :
  ∃ a c, v = .slice a l.length c /\ l.length <= c /\ c <= 9223372036854775807 /\ Bk size R w.heap.size w a l := by
 rcases h with ⟨rfl, rfl, _⟩ | ⟨g, cap, cur, Fs, rfl, h2, h3, h4, h5, h6, h7, rfl⟩
 ·exact ⟨none, 0, rfl, by simp, by omega, fun j hj => by simp at hj⟩
 ·refine ⟨_, cap, rfl, h3, by simpa [maxLen] using h4, fun j hj => ⟨g, 0, rfl, (Array.getElem?_eq_some_iff.1 h2).1, _, hO.len (h7 j hj), ?_, hO.read (h7 j hj)⟩⟩
  intro i u hu; rw [Nat.zero_add, cell_of_row w g _ cur e (0, 0) h2]; rw [List.getElem?_take] at hu
  split at hu
  ·rw [List.getElem?_drop] at hu
   simpa using hu
  ·cases hu
structure pG {α : Type} (size : Nat) (e : TypeId) (O : jy α) (w : World) (g n : Nat) (l : List α) (k : Nat) (Fs : List (List Nat)) : Prop where
 row : ∃ cur : Array Value, w.heap[g]? = some (.cells cur e (0, 0)) /\ cur.size = n * size /\ ∀ j, (h : j < l.length) -> j < k -> O w ((cur.toList.drop (j * size)).take size) l[j] (Fs.getD j [])
 Vg : Fs.length = k
 over : ∀ b, b ∈ Fs.flatten -> g < b /\ b < w.heap.size
 nodup : Fs.flatten.Nodup
theorem nG (g : Nat) (e : TypeId) : ∀ (news : List Value) (o : Nat) (w : World) (cur : Array Value), w.heap[g]? = some (.cells cur e (0, 0)) -> o + news.length <= cur.size ->
  ∃ cur' : Array Value, (w.setCells g o news).heap[g]? = some (.cells cur' e (0, 0)) /\ cur'.size = cur.size /\ cur'.toList = cur.toList.take o ++ news ++ cur.toList.drop (o + news.length)
 | [], o, w, cur, hg, _ => ⟨cur, hg, rfl, by simp⟩
 | u :: r, o, w, cur, hg, lz => by
  have h1 := heap_setCell_same w g o cur e u hg; obtain ⟨cur', h2, h3, h4⟩ := nG g e r (o + 1) (w.setCell ⟨g, o, none⟩ u) (cur.setIfInBounds o u) h1 (by simp at lz ⊢; omega); refine ⟨cur', h2, by simpa using h3, ?_⟩; have ho : o < cur.toList.length := by simp at lz ⊢; omega
  have e0 : (cur.toList.set o u).take (o + 1) = cur.toList.take o ++ [u] := by
   rw [List.take_set, List.take_succ_eq_append_getElem ho, List.set_append_right _ _ (by simp; omega)]; have e2 : o - (cur.toList.take o).length = 0 := by simp; omega
   rw [e2]; simp
  have e3 : (cur.toList.set o u).drop (o + 1 + r.length) = cur.toList.drop (o + (u :: r).length) := by
   rw [List.drop_set_of_lt (by omega)]
   congr 1
   simp; omega
  rw [h4, Array.toList_setIfInBounds, e0, e3]; simp
theorem kA (g : Nat) : ∀ (news : List Value) (o : Nat) (w : World) (k : Nat), k ≠ g -> (w.setCells g o news).heap[k]? = w.heap[k]?
 | [], _, _, _, _ => rfl
 | u :: r, o, w, k, hk => by
  show ((w.setCell ⟨g, o, none⟩ u).setCells g (o + 1) r).heap[k]? = _; rw [kA g r (o + 1) _ k hk]; exact heap_setCell_other w ⟨g, o, none⟩ k u (fun e => hk e)
theorem js (g : Nat) : ∀ (news : List Value) (o : Nat) (w : World), (w.setCells g o news).heap.size = w.heap.size
 | [], _, _ => rfl
 | u :: r, o, w => by
  show ((w.setCell ⟨g, o, none⟩ u).setCells g (o + 1) r).heap.size = _; rw [js g r (o + 1) _]; simp
theorem pG.step {α : Type} {size : Nat} {e : TypeId} {O : jy α} {R : nS α} (hO : O.Good R size) {w w1 : World} {g n k : Nat} {l : List α} {Fs : List (List Nat)} (h : pG size e O w g n l k Fs) (hg : g < w.heap.size) (hk : k < l.length) (qZ : k < n)
  (hb : Below w.heap.size w w1) {cs : List Value} {F : List Nat} (ho : O w1 cs l[k] F) (hF : ∀ b, b ∈ F -> w.heap.size <= b) (hN : F.Nodup) :
  pG size e O (w1.setCells g (k * size) cs) g n l (k + 1) (Fs ++ [F]) := by
 obtain ⟨⟨cur, c1, c2, c3⟩, f1, f2, f3⟩ := h; have iw := hO.len ho
 have lz : k * size + cs.length <= cur.size := by
  rw [iw, c2, <- Nat.succ_mul]; exact Nat.mul_le_mul_right _ qZ
 have c1' : w1.heap[g]? = some (.cells cur e (0, 0)) := by rw [hb.block g hg]; exact c1
 obtain ⟨cur', d1, d2, d3⟩ := nG g e cs (k * size) w1 cur c1' lz; have LA : ∀ b, b ∈ F -> b < w1.heap.size := fun b kB => hO.lt ho b kB
 refine ⟨⟨cur', d1, by rw [d2, c2], ?_⟩, by simp [f1], ?_, ?_⟩
 ·intro j hj hjk
  have hlen : cur.toList.length = n * size := by simpa using c2
  by_cases ug : j = k
  ·subst ug
   have e1 : (cur'.toList.drop (j * size)).take size = cs := by
    rw [d3, List.append_assoc, List.drop_append, List.drop_eq_nil_of_le (by simp; omega), List.nil_append]; have : j * size - (cur.toList.take (j * size)).length = 0 := by simp; omega
    rw [this, List.drop_zero, List.take_append, List.take_of_length_le (by omega), iw, Nat.sub_self, List.take_zero, List.append_nil]
   have e2 : (Fs ++ [F]).getD j [] = F := by rw [List.getD_eq_getElem?_getD, List.getElem?_append_right (by omega), f1, Nat.sub_self]; rfl
   rw [e1, e2]; exact hO.frame ho (fun b kB => kA g cs _ w1 b (by have := hF b kB; omega))
  ·have hlt : j < k := by omega
   have hmul : (j + 1) * size <= k * size := Nat.mul_le_mul_right _ hlt; rw [Nat.succ_mul] at hmul
   have e1 : (cur'.toList.drop (j * size)).take size = (cur.toList.drop (j * size)).take size := by
    rw [d3, List.append_assoc]; apply List.ext_getElem?; intro i; rw [List.getElem?_take, List.getElem?_take, List.getElem?_drop, List.getElem?_drop]
    by_cases hi : i < size
    ·rw [if_pos hi, if_pos hi, List.getElem?_append_left (by simp; omega), List.getElem?_take, if_pos (by omega)]
    ·rw [if_neg hi, if_neg hi]
   have e2 : (Fs ++ [F]).getD j [] = Fs.getD j [] := by rw [List.getD_eq_getElem?_getD, List.getD_eq_getElem?_getD, List.getElem?_append_left (by omega)]
   rw [e1, e2]; have I9 := hO.frame (c3 j hj hlt) (w' := w1) (fun b kB => hb.block b (hO.lt (c3 j hj hlt) b kB)); exact hO.frame I9 (fun b kB => kA g cs _ w1 b (by have := f2 b (dh (by omega) kB); omega))
 ·intro b kB
  rw [js]; rw [List.flatten_append, List.mem_append] at kB; rcases kB with kB | kB
  ·have := f2 b kB; have := hb.size; omega
  ·have kB : b ∈ F := by simpa using kB
   have := hF b kB; have := LA b kB; omega
 ·rw [List.flatten_append]
  refine List.nodup_append.2 ⟨f3, by simpa using hN, ?_⟩; intro a ha b hb' hab; subst hab; have h1 := f2 a ha; have h2 := hF a (by simpa using hb'); omega
theorem pG.done {α : Type} {size : Nat} {e : TypeId} {O : jy α} {w : World} {g n : Nat} {l : List α} {Fs : List (List Nat)} (h : pG size e O w g n l n Fs) (hn : l.length = n) (hm : n <= maxLen) :
  aF size e O w (.slice (some ⟨g, 0, none⟩) n n) l (g :: Fs.flatten) /\ (g :: Fs.flatten).Nodup := by
 obtain ⟨⟨cur, c1, c2, c3⟩, f1, f2, f3⟩ := h; refine ⟨.inr ⟨g, n, cur, Fs, by rw [hn], c1, by omega, hm, c2, by rw [f1, hn], fun j hj => c3 j hj (by omega), rfl⟩, List.nodup_cons.2 ⟨fun hg => by have := f2 g hg; omega, f3⟩⟩
def fM (B : Nat) (w : World) (a : Option Addr) (c : Nat) (zs : List Int) : Prop := zs.length <= c /\ c <= 9223372036854775807 /\ Rd .u8 B w a zs /\ nc zs
def bw {α : Type} (size : Nat) (R : nS α) (B : Nat) (w : World) (a : Option Addr) (c : Nat) (l : List α) : Prop := l.length <= c /\ c <= 9223372036854775807 /\ Bk size R B w a l
theorem fM.below {B : Nat} {w w' : World} {a : Option Addr} {c : Nat} {zs : List Int} (h : fM B w a c zs) (hb : Below B w w') : fM B w' a c zs := ⟨h.1, h.2.1, h.2.2.1.below hb, h.2.2.2⟩
theorem fM.mono {B B' : Nat} {w : World} {a : Option Addr} {c : Nat} {zs : List Int} (h : fM B w a c zs) (hB : B <= B') : fM B' w a c zs := ⟨h.1, h.2.1, h.2.2.1.mono hB, h.2.2.2⟩
theorem bw.below {α : Type} {size : Nat} {R : nS α} (hR : R.Good) {B : Nat} {w w' : World} {a : Option Addr} {c : Nat} {l : List α} (h : bw size R B w a c l) (hb : Below B w w') : bw size R B w' a c l := ⟨h.1, h.2.1, h.2.2.below hR hb⟩
theorem bw.mono {α : Type} {size : Nat} {R : nS α} (hR : R.Good) {B B' : Nat} {w : World} {a : Option Addr} {c : Nat} {l : List α} (h : bw size R B w a c l) (hB : B <= B') : bw size R B' w a c l := ⟨h.1, h.2.1, h.2.2.mono hR hB⟩
def aP {α : Type} (f : α -> Nat) : List α -> Nat
 | [] => 0
 | m :: r => f m + aP f r
theorem mf {α : Type} {f : α -> Nat} {l : List α} {k : Nat} (h : k < l.length) : aP f (l.take (k + 1)) = aP f (l.take k) + f l[k] := by
 induction l generalizing k with
 | nil => simp at h
 | cons m r ih =>
  cases k with
  | zero => simp [aP]
  | succ k => simp only [List.take_succ_cons, aP, List.getElem_cons_succ]; rw [ih (by simpa using h)]; omega
theorem oB {α : Type} (f : α -> Nat) (l : List α) (k : Nat) : aP f (l.take k) <= aP f l := by
 induction l generalizing k with
 | nil => simp [aP]
 | cons m r ih =>
  cases k with
  | zero => simp [aP]
  | succ k => simp only [List.take_succ_cons, aP]; have := ih k; omega
theorem jt {α : Type} {f : α -> Nat} {l : List α} {k : Nat} (h : k < l.length) : f l[k] <= aP f l := by
 have h1 := mf (f := f) h; have h2 := oB f l (k + 1); omega
structure mg (X : Nat) (w w' : World) : Prop where
 size : w.heap.size <= w'.heap.size
 block : ∀ b, X <= b -> b < w.heap.size -> w'.heap[b]? = w.heap[b]?
theorem mg.refl (X : Nat) (w : World) : mg X w w := ⟨rN, fun _ _ _ => rfl⟩
theorem mg.trans {X : Nat} {a b c : World} (h : mg X a b) (k : mg X b c) : mg X a c := ⟨Nat.le_trans h.size k.size, fun i hX hi => (k.block i hX (Nat.lt_of_lt_of_le hi h.size)).trans (h.block i hX hi)⟩
theorem mg.setCell {X : Nat} {a w : World} (h : mg X a w) {p : Addr} (hp : p.block < X) (u : Value) : mg X a (w.setCell p u) :=
 h.trans ⟨by simp, fun k hX _ => Below.heap_setCell _ _ _ _ (by omega)⟩
theorem mg.below {X : Nat} {w w' : World} (h : Below w.heap.size w w') : mg X w w' := ⟨h.size, fun b _ hb => h.block b hb⟩
theorem pG.start {α : Type} {size : Nat} {e : TypeId} {O : jy α} {w : World} {g n base : Nat} {l : List α} {xs : List Value} (h : w.ownsRow base e size (.slice (some ⟨g, 0, none⟩) n n) n xs) : pG size e O w g n l 0 [] := by
 rcases h.2 with ⟨h', _⟩ | ⟨g', cap, cur, h', hb, hg, po, hm, hs, _⟩
 ·simp at h'
 ·simp only [Value.slice.injEq, Option.some.injEq, Addr.mk.injEq, and_true, true_and] at h'
  obtain ⟨rfl, rfl⟩ := h'; exact ⟨⟨cur, hg, hs, fun j _ hj => by omega⟩, rfl, fun b hb => by simp at hb, by simp⟩
theorem pG.keep {α : Type} {size : Nat} {e : TypeId} {O : jy α} {R : nS α} (hO : O.Good R size) {w w1 : World} {g n k : Nat} {l : List α} {Fs : List (List Nat)} (h : pG size e O w g n l k Fs) (hg : g < w.heap.size) (hb : Below w.heap.size w w1) : pG size e O w1 g n l k Fs := by
 obtain ⟨⟨cur, c1, c2, c3⟩, f1, f2, f3⟩ := h; exact ⟨⟨cur, by rw [hb.block g hg]; exact c1, c2, fun j hj hjk => hO.frame (c3 j hj hjk) (fun b kB => hb.block b (hO.lt (c3 j hj hjk) b kB))⟩, f1, fun b kB => ⟨(f2 b kB).1, Nat.lt_of_lt_of_le (f2 b kB).2 hb.size⟩, f3⟩
theorem pG.cells {α : Type} {size : Nat} {e : TypeId} {O : jy α} {w : World} {g n k : Nat} {l : List α} {Fs : List (List Nat)} (h : pG size e O w g n l k Fs) (hk : k < n) (i : Nat) (hi : i < size) : ∃ u, w.cell? ⟨g, k * size + i, none⟩ = some u := by
 obtain ⟨⟨cur, c1, c2, _⟩, _, _, _⟩ := h; have hm : (k + 1) * size <= n * size := Nat.mul_le_mul_right _ hk; rw [Nat.succ_mul] at hm; exact ⟨_, by rw [cell_of_row w g _ cur e (0, 0) c1]; exact Array.getElem?_eq_getElem (by omega)⟩
theorem pG.free {α : Type} {size : Nat} {e : TypeId} {O : jy α} {w : World} {g n k : Nat} {l : List α} {Fs : List (List Nat)} (h : pG size e O w g n l k Fs) (j : Nat) : w.frozen? ⟨g, j, none⟩ = false := by
 obtain ⟨⟨cur, c1, _, _⟩, _, _, _⟩ := h; exact frozen_of_row w g j cur e c1
structure aI where
 bi : Int
 aG : List Int
 aW : Int
def dL : nS aI := fun B w cs m => ∃ a1 : Option Addr, ∃ c1 : Nat, cs = [.int .i64 m.bi, .slice a1 m.aG.length c1, .int .i64 m.aW] /\ (Lit.int .i64 m.bi).wf = true /\ fM B w a1 c1 m.aG /\ (Lit.int .i64 m.aW).wf = true /\ True
theorem aV : dL.Good :=
 ⟨fun ⟨a1, c1, h, h0, h1, h2, _⟩ hb => ⟨a1, c1, h, h0, h1.below hb, h2, trivial⟩, fun ⟨a1, c1, h, h0, h1, h2, _⟩ hB => ⟨a1, c1, h, h0, h1.mono hB, h2, trivial⟩⟩
def fX : jy aI := fun w cs m F => ∃ v1 : Value, ∃ F1 : List Nat, cs = [.int .i64 m.bi, v1, .int .i64 m.aW] /\ (Lit.int .i64 m.bi).wf = true /\ lO 5 w v1 m.aG F1 /\ (Lit.int .i64 m.aW).wf = true /\ F = F1 ++ []
theorem aH : fX.Good dL 3 := by
 refine ⟨?_, ?_, ?_, ?_⟩
 ·rintro w w' cs m F ⟨v1, F1, rfl, h0, h1, h2, rfl⟩ hb
  exact ⟨v1, F1, rfl, h0, h1.frame (fun k hk => hb k (by simp [hk])), h2, rfl⟩
 ·rintro w cs m F ⟨v1, F1, rfl, h0, h1, h2, rfl⟩ k hk
  simp only [List.mem_append, List.not_mem_nil, or_false] at hk; exact h1.lt k hk
 ·rintro w cs m F ⟨v1, F1, rfl, h0, h1, h2, rfl⟩
  obtain ⟨a1, c1, rfl, g1⟩ := h1.read; exact ⟨a1, c1, rfl, h0, g1, h2, trivial⟩
 ·rintro w cs m F ⟨v1, F1, rfl, h0, h1, h2, rfl⟩
  rfl
def aJ (m : aI) : Nat := m.aG.length
structure aB where
 ax : ByteArray
 bi : Int
def cy : nS aB := fun B w cs m => cs = [.string m.ax, .int .i64 m.bi] /\ m.ax.size <= 9223372036854775807 /\ (Lit.int .i64 m.bi).wf = true /\ True
theorem au : cy.Good :=
 ⟨fun ⟨h, h0, h1, _⟩ hb => ⟨h, h0, h1, trivial⟩, fun ⟨h, h0, h1, _⟩ hB => ⟨h, h0, h1, trivial⟩⟩
def cN : jy aB := fun w cs m F => cs = [.string m.ax, .int .i64 m.bi] /\ m.ax.size <= 9223372036854775807 /\ (Lit.int .i64 m.bi).wf = true /\ F = []
theorem ay : cN.Good cy 2 := by
 refine ⟨?_, ?_, ?_, ?_⟩
 ·rintro w w' cs m F ⟨rfl, h0, h1, rfl⟩ hb
  exact ⟨rfl, h0, h1, rfl⟩
 ·rintro w cs m F ⟨rfl, h0, h1, rfl⟩ k hk
  cases hk
 ·rintro w cs m F ⟨rfl, h0, h1, rfl⟩
  exact ⟨rfl, h0, h1, trivial⟩
 ·rintro w cs m F ⟨rfl, h0, h1, rfl⟩
  rfl
def a7 (m : aB) : Nat := m.ax.size
structure az where
 aa : List aI
 ae : List aB
 ag : List aB
 ah : Int
abbrev cj (a : Option Addr) (c : Nat) (b : Option Addr) (e : Nat) (f : Option Addr) (g : Nat) (m : az) : List Value := [.slice a m.aa.length c, .slice b m.ae.length e, .slice f m.ag.length g, .int .i64 m.ah]
abbrev oz : List Value := [.slice none 0 0, .slice none 0 0, .slice none 0 0, .int .i64 0]
def bg : nS az := fun B w cs m => ∃ a0 : Option Addr, ∃ c0 : Nat, ∃ a1 : Option Addr, ∃ c1 : Nat, ∃ a2 : Option Addr, ∃ c2 : Nat, cs = [.slice a0 m.aa.length c0, .slice a1 m.ae.length c1, .slice a2 m.ag.length c2, .int .i64 m.ah] /\ bw 3 dL B w a0 c0 m.aa /\ bw 2 cy B w a1 c1 m.ae /\ bw 2 cy B w a2 c2 m.ag /\ (Lit.int .i64 m.ah).wf = true /\ True
theorem aq : bg.Good :=
 ⟨fun ⟨a0, c0, a1, c1, a2, c2, h, h0, h1, h2, h3, _⟩ hb => ⟨a0, c0, a1, c1, a2, c2, h, h0.below aV hb, h1.below au hb, h2.below au hb, h3, trivial⟩, fun ⟨a0, c0, a1, c1, a2, c2, h, h0, h1, h2, h3, _⟩ hB => ⟨a0, c0, a1, c1, a2, c2, h, h0.mono aV hB, h1.mono au hB, h2.mono au hB, h3, trivial⟩⟩
def ba : jy az := fun w cs m F => ∃ v0 : Value, ∃ F0 : List Nat, ∃ v1 : Value, ∃ F1 : List Nat, ∃ v2 : Value, ∃ F2 : List Nat, cs = [v0, v1, v2, .int .i64 m.ah] /\ aF 3 73 fX w v0 m.aa F0 /\ aF 2 68 cN w v1 m.ae F1 /\ aF 2 68 cN w v2 m.ag F2 /\ (Lit.int .i64 m.ah).wf = true /\ F = F0 ++ F1 ++ F2 ++ []
theorem aj : ba.Good bg 4 := by
 refine ⟨?_, ?_, ?_, ?_⟩
 ·rintro w w' cs m F ⟨v0, F0, v1, F1, v2, F2, rfl, h0, h1, h2, h3, rfl⟩ hb
  exact ⟨v0, F0, v1, F1, v2, F2, rfl, aF.frame aH h0 (fun k hk => hb k (by simp [hk])), aF.frame ay h1 (fun k hk => hb k (by simp [hk])), aF.frame ay h2 (fun k hk => hb k (by simp [hk])), h3, rfl⟩
 ·rintro w cs m F ⟨v0, F0, v1, F1, v2, F2, rfl, h0, h1, h2, h3, rfl⟩ k hk
  simp only [List.mem_append, List.not_mem_nil, or_false] at hk; rcases hk with (hk | hk) | hk
  ·exact aF.lt aH h0 k hk
  ·exact aF.lt ay h1 k hk
  ·exact aF.lt ay h2 k hk
 ·rintro w cs m F ⟨v0, F0, v1, F1, v2, F2, rfl, h0, h1, h2, h3, rfl⟩
  obtain ⟨a0, c0, rfl, g0⟩ := aF.read aH h0; obtain ⟨a1, c1, rfl, g1⟩ := aF.read ay h1; obtain ⟨a2, c2, rfl, g2⟩ := aF.read ay h2; exact ⟨a0, c0, a1, c1, a2, c2, rfl, g0, g1, g2, h3, trivial⟩
 ·rintro w cs m F ⟨v0, F0, v1, F1, v2, F2, rfl, h0, h1, h2, h3, rfl⟩
  rfl
def aZ (m : az) : Nat := (m.aa.length + aP aJ m.aa) + (m.ae.length + aP a7 m.ae) + (m.ag.length + aP a7 m.ag)
def dm (x a b : Int) : Bool := decide (a <= x /\ x <= b)
theorem gC {x a b : Int} (h1 : a <= x) (h2 : x <= b) : dm x a b = true := decide_eq_true ⟨h1, h2⟩
theorem gO {x a b : Int} (h : ¬ (a <= x /\ x <= b)) : dm x a b = false := decide_eq_false h
theorem bY (x a b : Int) (w : World) :
  Calls Tryz.prog 30 #[.int .i64 x, .int .i64 a, .int .i64 b] w fun e w' => e = .returned (.bool (dm x a b)) /\ w' = w := by
 by_cases h1 : a <= x
 ·by_cases h2 : x <= b
  ·have HV := Hm (gC h1 h2)
   go_enter Tryz.func30, Tryz.ntmps30
   go_wp2
   go_ret; exact ⟨by rw [HV.out]; rfl, rfl⟩
  ·have HV := Hm (gO (x := x) (a := a) (b := b) (by omega))
   go_enter Tryz.func30, Tryz.ntmps30
   go_wp2
   go_ret; exact ⟨by rw [HV.out]; rfl, rfl⟩
 ·have HV := Hm (gO (x := x) (a := a) (b := b) (by omega))
  go_enter Tryz.func30, Tryz.ntmps30
  go_wp2
  go_ret; exact ⟨by rw [HV.out]; rfl, rfl⟩
def dw (c : Int) : Bool := decide (97 <= c /\ c <= 122 ∨ 48 <= c /\ c <= 57 ∨ c = 45 ∨ c = 46)
def bH (s : ByteArray) : Bool := decide (1 <= s.size /\ s.size <= 12) && (bu s).all dw
theorem uW {s : ByteArray} (h : ¬ (1 <= s.size /\ s.size <= 12)) : bH s = false := by
 unfold bH; rw [decide_eq_false h]; rfl
theorem wA {s : ByteArray} {k : Nat} (hk : k < (bu s).length) (h : dw (bu s)[k] = false) : bH s = false := by
 unfold bH; rw [Bool.and_eq_false_iff]; right; rw [List.all_eq_false]; exact ⟨_, List.getElem_mem hk, by simp [h]⟩
theorem uX {s : ByteArray} (h : 1 <= s.size /\ s.size <= 12) (ha : ∀ k, (hk : k < (bu s).length) -> dw (bu s)[k] = true) : bH s = true := by
 unfold bH; rw [decide_eq_true h, Bool.true_and, List.all_eq_true]; intro x hx; obtain ⟨k, hk, rfl⟩ := List.mem_iff_getElem.1 hx; exact ha k hk
def named (l : List aB) (id : Int) : Bool := l.any fun e => decide (e.bi = id)
theorem zl {l : List aB} {id : Int} {k : Nat} (h : k < l.length) (he : l[k].bi = id) : named l id = true := by
 unfold named; rw [List.any_eq_true]; exact ⟨l[k], List.getElem_mem h, by simp [he]⟩
theorem Ja {l : List aB} {id : Int} (h : ∀ k, (hk : k < l.length) -> l[k].bi ≠ id) : named l id = false := by
 unfold named; rw [List.any_eq_false]; intro e he; obtain ⟨k, hk, rfl⟩ := List.mem_iff_getElem.1 he; simp [h k hk]
def placeOf (l : List aI) (id : Int) : Nat := l.findIdx fun n => decide (n.bi = id)
def ee (l : List aI) (id : Int) : Bool := l.any fun n => decide (n.bi = id)
def ij (l : List aI) (id : Int) : Int := if ee l id then (placeOf l id : Int) else -1
theorem zm {l : List aI} {id : Int} {k : Nat} (h : k < l.length) (he : l[k].bi = id) : ee l id = true := by
 unfold ee; rw [List.any_eq_true]; exact ⟨l[k], List.getElem_mem h, by simp [he]⟩
theorem wB {l : List aI} {id : Int} (h : ∀ k, (hk : k < l.length) -> l[k].bi ≠ id) : ee l id = false := by
 unfold ee; rw [List.any_eq_false]; intro e he; obtain ⟨k, hk, rfl⟩ := List.mem_iff_getElem.1 he; simp [h k hk]
theorem Gv {l : List aI} {id : Int} {k : Nat} (h : k < l.length) (he : l[k].bi = id) (hn : ∀ j, (hj : j < l.length) -> j < k -> l[j].bi ≠ id) : ij l id = k := by
 unfold ij; rw [zm h he, if_pos rfl]
 have : placeOf l id = k := by
  unfold placeOf; rw [List.findIdx_eq h]; exact ⟨decide_eq_true he, fun j hj => by simp [hn j (by omega) hj]⟩
 rw [this]
theorem Gw {l : List aI} {id : Int} (hn : ∀ j, (hj : j < l.length) -> l[j].bi ≠ id) : ij l id = -1 := by
 unfold ij; rw [wB hn]; rfl
theorem rH {l : List aI} {id : Int} : ij l id < 0 ↔ ee l id = false := by
 unfold ij; cases ee l id
 ·simp
 ·simp
def strLt (a b : ByteArray) : Bool := Op.bytesLess a.toList b.toList
def rf (next prev : Int) (n : aI) : Bool := decide (prev < n.bi /\ n.bi < next /\ 0 <= n.aW /\ n.aW <= n.aG.length)
def nQ (next : Int) : Int -> List aI -> Bool
 | _, [] => true
 | prev, n :: r => rf next prev n && nQ next n.bi r
def jO (l : List aI) (seen : List Int) (prev : ByteArray) (e : aB) : Bool := ee l e.bi && !seen.contains e.bi && strLt prev e.ax && bH e.ax
def ly (l : List aI) : List Int -> ByteArray -> List aB -> Bool
 | _, _, [] => true
 | seen, prev, e :: r => jO l seen prev e && ly l (seen ++ [e.bi]) e.ax r
def isNamed (d : az) (n : aI) : Bool := named d.ae n.bi || named d.ag n.bi
def bc (d : az) : Bool :=
 decide (1 <= d.ah /\ d.ah <= 1000000) && nQ d.ah 0 d.aa && decide (aP aJ d.aa <= 60000) &&
  decide (d.ae.length <= 30) && ly d.aa [] ByteArray.empty d.ae && decide (d.ag.length <= 30) && ly d.aa [] ByteArray.empty d.ag && d.aa.all (isNamed d)
def bV (d : az) : List aI := d.aa.filter (isNamed d)
def ft (l : List aI) (k : Nat) : Int := match k with | 0 => 0 | k + 1 => (l[k]?.map (·.bi)).getD 0
def bP (l : List aB) (k : Nat) : ByteArray := match k with | 0 => ByteArray.empty | k + 1 => (l[k]?.map (·.ax)).getD ByteArray.empty
def cP (l : List aB) (k : Nat) : List Int := (l.take k).map (·.bi)
theorem ng {l : List aI} {k : Nat} (h : k < l.length) : ft l (k + 1) = l[k].bi := by simp [ft, h]
theorem nH {l : List aB} {k : Nat} (h : k < l.length) : bP l (k + 1) = l[k].ax := by simp [bP, h]
theorem oC {l : List aB} {k : Nat} (h : k < l.length) : cP l (k + 1) = cP l k ++ [l[k].bi] := by
 unfold cP; rw [List.take_succ_eq_append_getElem h, List.map_append]; rfl
theorem BF {next : Int} {l : List aI} {k : Nat} (h : k < l.length) : nQ next (ft l k) (l.drop k) = (rf next (ft l k) l[k] && nQ next (ft l (k + 1)) (l.drop (k + 1))) := by
 rw [List.drop_eq_getElem_cons h, nQ, ng h]
theorem sN {ins : List aI} {l : List aB} {k : Nat} (h : k < l.length) : ly ins (cP l k) (bP l k) (l.drop k) = (jO ins (cP l k) (bP l k) l[k] && ly ins (cP l (k + 1)) (bP l (k + 1)) (l.drop (k + 1))) := by
 rw [List.drop_eq_getElem_cons h, ly, nH h, oC h]
theorem Gx {l m : List Int} (h : l.Nodup) (hs : ∀ x, x ∈ l -> x ∈ m) : l.length <= m.length := by
 induction l generalizing m with
 | nil => simp
 | cons x r ih =>
  have hn := List.nodup_cons.1 h; have hx := hs x (by simp); have h1 := ih hn.2 (m := m.erase x) (fun y hy => (List.mem_erase_of_ne (fun (e : y = x) => hn.1 (by rw [<- e]; exact hy))).2 (hs y (by simp [hy]))); have h2 := List.length_erase_of_mem hx; have h3 : 0 < m.length := List.length_pos_of_mem hx; simp only [List.length_cons]; omega
theorem zn {next : Int} {l : List aI} : ∀ {prev : Int}, nQ next prev l = true -> ∀ n, n ∈ l -> prev < n.bi := by
 induction l with
 | nil => intro prev _ n hn; cases hn
 | cons x r ih =>
  intro prev h n hn; rw [nQ, Bool.and_eq_true] at h; have hx : prev < x.bi := by have := of_decide_eq_true h.1; omega
  rcases List.mem_cons.1 hn with rfl | hn
  ·exact hx
  ·have := ih h.2 n hn; omega
theorem Gy {next : Int} {l : List aI} : ∀ {prev : Int}, nQ next prev l = true -> (l.map (·.bi)).Nodup := by
 induction l with
 | nil => intro _ _; simp
 | cons x r ih =>
  intro prev h; rw [nQ, Bool.and_eq_true] at h; rw [List.map_cons, List.nodup_cons]; refine ⟨fun hm => ?_, ih h.2⟩; obtain ⟨y, hy, he⟩ := List.mem_map.1 hm; have := zn h.2 y hy; omega
theorem uh {l : List aB} {id : Int} (h : named l id = true) : id ∈ l.map (·.bi) := by
 unfold named at h; rw [List.any_eq_true] at h; obtain ⟨e, he, h2⟩ := h; exact List.mem_map.2 ⟨e, he, of_decide_eq_true h2⟩
theorem zo {d : az} {prev : Int} (h1 : nQ d.ah prev d.aa = true) (h2 : d.aa.all (isNamed d) = true) : d.aa.length <= d.ae.length + d.ag.length := by
 have h3 := Gx (Gy h1) (m := d.ae.map (·.bi) ++ d.ag.map (·.bi)) (by
  intro x hx; obtain ⟨n, hn, rfl⟩ := List.mem_map.1 hx; have h4 := List.all_eq_true.1 h2 n hn; unfold isNamed at h4; rw [Bool.or_eq_true] at h4; rw [List.mem_append]; exact h4.imp uh uh)
 simpa using h3
theorem sO : ∀ {x y : List UInt8}, Op.bytesLess x y = true -> Op.bytesLess y x = false
 | _, [], h => by simp [Op.bytesLess] at h
 | [], _ :: _, _ => by simp [Op.bytesLess]
 | a :: x, b :: y, h => by
  simp only [Op.bytesLess, Bool.or_eq_true, Bool.and_eq_true, decide_eq_true_eq, beq_iff_eq, Bool.or_eq_false_iff, Bool.and_eq_false_iff, decide_eq_false_iff_not, beq_eq_false_iff_ne] at h ⊢; rcases h with h | ⟨rfl, h⟩
  ·exact ⟨fun h2 => absurd (UInt8.lt_trans h h2) (UInt8.lt_irrefl _), .inl (fun e => by subst e; exact UInt8.lt_irrefl _ h)⟩
  ·exact ⟨UInt8.lt_irrefl _, .inr (sO h)⟩
theorem qy (x : List UInt8) : Op.bytesLess x x = false := by
 cases h : Op.bytesLess x x with
 | false => rfl
 | true => have := sO h; rw [h] at this; cases this
theorem sP : ∀ {x y : List UInt8}, Op.bytesLess x y = false -> x ≠ y -> Op.bytesLess y x = true
 | [], [], _, hn => absurd rfl hn
 | _ :: _, [], _, _ => by simp [Op.bytesLess]
 | [], _ :: _, h, _ => by simp [Op.bytesLess] at h
 | a :: x, b :: y, h, hn => by
  simp only [Op.bytesLess, Bool.or_eq_true, Bool.and_eq_true, decide_eq_true_eq, beq_iff_eq, Bool.or_eq_false_iff, Bool.and_eq_false_iff, decide_eq_false_iff_not, beq_eq_false_iff_ne] at h ⊢
  by_cases hab : a = b
  ·subst hab
   right; refine ⟨rfl, sP ?_ (fun e => hn (by rw [e]))⟩; rcases h.2 with h2 | h2
   ·exact absurd rfl h2
   ·exact h2
  ·left
   rcases UInt8.lt_or_lt_of_ne hab with h1 | h1
   ·exact absurd h1 h.1
   ·exact h1
theorem ix {a b : ByteArray} (h : strLt a b = true) : Op.bytesLess a.toList b.toList = true /\ Op.bytesLess b.toList a.toList = false /\ (b.toList == a.toList) = false := by
 refine ⟨h, sO h, ?_⟩; rw [beq_eq_false_iff_ne]; intro e; have h2 : Op.bytesLess a.toList b.toList = true := h; rw [e, qy] at h2; cases h2
theorem Gz {a b : ByteArray} (h : strLt a b = false) : Op.bytesLess b.toList a.toList = true ∨ (b.toList == a.toList) = true := by
 by_cases e : a.toList = b.toList
 ·right; rw [beq_iff_eq]; exact e.symm
 ·left; exact sP h e
theorem wC (s : ByteArray) : s.toList.length = s.size := by
 rw [ByteArray.toList_eq]; simp
theorem BG {s : ByteArray} (h : 1 <= s.size) : strLt ByteArray.empty s = true := by
 unfold strLt; have hl : 1 <= s.toList.length := by rw [wC]; exact h
 match hs : s.toList, hl with
 | x :: r, _ =>
  rw [show ByteArray.empty.toList = [] from by rw [ByteArray.toList_eq]; rfl]; rfl
theorem wD {s : ByteArray} (h : bH s = true) : 1 <= s.size := by
 unfold bH at h; rw [Bool.and_eq_true] at h; exact (of_decide_eq_true h.1).1
theorem Ob {l : List aB} {k j : Nat} {id : Int} (hj : j < l.length) (hjk : j < k) (he : l[j].bi = id) : (cP l k).contains id = true := by
 unfold cP; rw [List.contains_iff_mem]; refine List.mem_map.2 ⟨l[j], ?_, he⟩; rw [List.mem_iff_getElem]; exact ⟨j, by simp; omega, by simp⟩
theorem GA {l : List aB} {k : Nat} {id : Int} (h : ∀ j, (hj : j < l.length) -> j < k -> l[j].bi ≠ id) : (cP l k).contains id = false := by
 unfold cP; rw [Bool.eq_false_iff]; intro hc; rw [List.contains_iff_mem] at hc; obtain ⟨e, he, hi⟩ := List.mem_map.1 hc; obtain ⟨j, hj, rfl⟩ := List.mem_iff_getElem.1 he; simp at hj; rw [List.getElem_take] at hi; exact h j (by omega) (by omega) hi
theorem BH : ∀ {x y z : List UInt8}, Op.bytesLess x y = true -> Op.bytesLess y z = true -> Op.bytesLess x z = true
 | _, [], _, h, _ => by simp [Op.bytesLess] at h
 | _, _ :: _, [], _, h => by simp [Op.bytesLess] at h
 | [], _ :: _, _ :: _, _, _ => by simp [Op.bytesLess]
 | a :: x, b :: y, c :: z, h1, h2 => by
  simp only [Op.bytesLess, Bool.or_eq_true, Bool.and_eq_true, decide_eq_true_eq, beq_iff_eq] at h1 h2 ⊢; rcases h1 with h1 | ⟨rfl, h1⟩
  ·rcases h2 with h2 | ⟨rfl, h2⟩
   ·exact .inl (UInt8.lt_trans h1 h2)
   ·exact .inl h1
  ·rcases h2 with h2 | ⟨rfl, h2⟩
   ·exact .inl h2
   ·exact .inr ⟨rfl, BH h1 h2⟩
theorem gD {a b c : ByteArray} (h1 : strLt a b = true) (h2 : strLt b c = true) : strLt a c = true := BH h1 h2
theorem DC {a b : ByteArray} : (a.toList == b.toList) = true ↔ a = b := by
 rw [beq_iff_eq, ByteArray.toList_eq, ByteArray.toList_eq]; constructor
 ·intro h
  cases a; cases b
  simpa using Array.toList_inj.1 h
 ·intro h; rw [h]
theorem rI {a b : ByteArray} (h : a ≠ b) : (a.toList == b.toList) = false := by
 rw [Bool.eq_false_iff]; exact fun e => h (DC.1 e)
theorem nT {a b : ByteArray} (h : a = b) : (a.toList == b.toList) = true := DC.2 h
def hasName (l : List aB) (s : ByteArray) : Bool := l.any fun e => decide (e.ax = s)
def nameAt (l : List aB) (s : ByteArray) : Nat := l.findIdx fun e => decide (e.ax = s)
def iq (l : List aB) (s : ByteArray) : Int := if hasName l s then (nameAt l s : Int) else -1
def eK (l : List aB) (s : ByteArray) : Int := ((l[nameAt l s]?).map (·.bi)).getD 0
theorem nh {l : List aB} {s : ByteArray} {k : Nat} (h : k < l.length) (he : l[k].ax = s) : hasName l s = true := by
 unfold hasName; rw [List.any_eq_true]; exact ⟨l[k], List.getElem_mem h, by simp [he]⟩
theorem DD {l : List aB} {s : ByteArray} (h : ∀ k, (hk : k < l.length) -> l[k].ax ≠ s) : hasName l s = false := by
 unfold hasName; rw [List.any_eq_false]; intro e he; obtain ⟨k, hk, rfl⟩ := List.mem_iff_getElem.1 he; simp [h k hk]
theorem GC {l : List aB} {s : ByteArray} {k : Nat} (h : k < l.length) (he : l[k].ax = s) (hn : ∀ j, (hj : j < l.length) -> j < k -> l[j].ax ≠ s) : nameAt l s = k := by
 unfold nameAt; rw [List.findIdx_eq h]; exact ⟨decide_eq_true he, fun j hj => by simp [hn j (by omega) hj]⟩
theorem Jb {l : List aB} {s : ByteArray} {k : Nat} (h : k < l.length) (he : l[k].ax = s) (hn : ∀ j, (hj : j < l.length) -> j < k -> l[j].ax ≠ s) : iq l s = k := by
 unfold iq; rw [nh h he, if_pos rfl, GC h he hn]
theorem Jc {l : List aB} {s : ByteArray} (hn : ∀ j, (hj : j < l.length) -> l[j].ax ≠ s) : iq l s = -1 := by
 unfold iq; rw [DD hn]; rfl
theorem kC {l : List aB} {s : ByteArray} (h : hasName l s = true) : ∃ hk : nameAt l s < l.length, l[nameAt l s].ax = s := by
 unfold hasName at h; rw [List.any_eq_true] at h; obtain ⟨e, he, h2⟩ := h; have hk : nameAt l s < l.length := List.findIdx_lt_length_of_exists ⟨e, he, h2⟩; exact ⟨hk, of_decide_eq_true (List.findIdx_getElem (w := hk))⟩
def aS (m : az) (s : ByteArray) : Int := if bc m && bH s then (if hasName m.ae s then 0 else 2) else 1
def rJ (m : az) (s : ByteArray) : List Int := ((m.aa[placeOf m.aa (eK m.ae s)]?).map (·.aG)).getD []
def gQ (m : az) (s : ByteArray) : List Int := if aS m s = 0 then rJ m s else []
theorem Ff {ins : List aI} : ∀ {l : List aB} {seen : List Int} {prev : ByteArray}, ly ins seen prev l = true -> ∀ e, e ∈ l -> ee ins e.bi = true
 | [], _, _, _, e, he => by cases he
 | x :: r, seen, prev, h, e, he => by
  rw [ly, Bool.and_eq_true] at h; rcases List.mem_cons.1 he with rfl | he
  ·have h1 := h.1
   unfold jO at h1; simp only [Bool.and_eq_true] at h1; exact h1.1.1.1
  ·exact Ff h.2 e he
theorem lQ {m : az} (h : bc m = true) : nQ m.ah 0 m.aa = true /\ ly m.aa [] ByteArray.empty m.ae = true /\ ly m.aa [] ByteArray.empty m.ag = true := by
 unfold bc at h; simp only [Bool.and_eq_true] at h; exact ⟨h.1.1.1.1.1.1.2, h.1.1.1.2, h.1.2⟩
theorem mh {m : az} {s : ByteArray} (h : bc m = true) (hn : hasName m.ae s = true) : ∃ hk : nameAt m.ae s < m.ae.length, eK m.ae s = m.ae[nameAt m.ae s].bi /\ ee m.aa (eK m.ae s) = true := by
 obtain ⟨hk, he⟩ := kC hn; have hid : eK m.ae s = m.ae[nameAt m.ae s].bi := by unfold eK; rw [List.getElem?_eq_getElem hk]; rfl
 exact ⟨hk, hid, by rw [hid]; exact Ff (lQ h).2.1 _ (List.getElem_mem hk)⟩
theorem wE {l : List aI} {id : Int} (h : ee l id = true) : ∃ hk : placeOf l id < l.length, l[placeOf l id].bi = id := by
 unfold ee at h; rw [List.any_eq_true] at h; obtain ⟨e, he, h2⟩ := h; have hk : placeOf l id < l.length := List.findIdx_lt_length_of_exists ⟨e, he, h2⟩; exact ⟨hk, of_decide_eq_true (List.findIdx_getElem (w := hk))⟩
end Go.Proofs.YtcamcgfbljhbhaaGreatDoor
