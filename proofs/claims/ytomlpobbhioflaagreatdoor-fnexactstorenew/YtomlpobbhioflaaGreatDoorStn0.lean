/-
  Part 1 of the texts that the proof leans on.
-/
import Derived.Deep.RegionHeld3
import Derived.WalkKit
import Derived.WalkSpells
import Derived.WalkLawsBesides
import Derived.Deep.QuietTactic
import Derived.BigQuiet
import Derived.OpenShut
import Derived.Deep.AppendSrc
import Derived.Laws.CopyOwn
import Derived.Test.YtomlpobbhioflaaGreatDoorRows
import Derived.Test.YtomlpobbhioflaaGreatDoorChecked
set_option linter.unusedVariables false
set_option linter.unusedSimpArgs false
set_option maxRecDepth 10000

namespace Go.Proofs.YtomlpobbhioflaaGreatDoor
open Go
section
variable {P : Program} {md : Region.Mode} {ops : Array Oper} {Q : Exit → Act → World → Prop} {S : World → Prop}
theorem tk (i : Nat) (oi : Oper) (d : Option Tmp) {v : Value} {fuel : Nat} {listed : Array Bool} {a : Act} {w : World} (hi : ops[i]? = some oi) (hd : oi.dst = d)
  (hc : (Region.noSelect ops && (Region.free md ops listed i && (Region.ready md ops listed).contains i)) = true) (hS : S w) (hw : Region.wanted oi (yielded ops a.tmps) = true)
  (hQ : ∀ c a w, Q (.panic c) (a.put d v) w → Q (.panic c) a w) (hy : ∀ w, S w → (execOp a.eval oi).run P w = .ok (.value v) w)
  (h : wpAnyH P md ops Q S fuel (listed.setIfInBounds i true) (a.put d v) w) : wpAnyH P md ops Q S (fuel + 1) listed a w := by
 subst hd
 simp only [Bool.and_eq_true] at hc
 exact wpAnyH_take hi hc.1 hc.2.1 hc.2.2 hQ (.inl ⟨hw, hy⟩) hS h
theorem tn (i : Nat) (oi : Oper) (d : Option Tmp) {fuel : Nat} {listed : Array Bool} {a : Act} {w : World} (hi : ops[i]? = some oi) (hd : oi.dst = d)
  (hc : (Region.noSelect ops && (Region.free md ops listed i && (Region.ready md ops listed).contains i)) = true) (hS : S w) (hw : Region.wanted oi (yielded ops a.tmps) = false)
  (hQ : ∀ c a w, Q (.panic c) (a.put d undef) w → Q (.panic c) a w)
  (h : wpAnyH P md ops Q S fuel (listed.setIfInBounds i true) (a.put d undef) w) : wpAnyH P md ops Q S (fuel + 1) listed a w := by
 subst hd
 simp only [Bool.and_eq_true] at hc
 exact wpAnyH_take hi hc.1 hc.2.1 hc.2.2 hQ (.inr ⟨hw, rfl⟩) hS h
theorem tq (i : Nat) (oi : Oper) (t : Tmp) {v : Value} {fuel : Nat} {listed : Array Bool} {a : Act} {w : World} (hS : S w)
 (h : wpAnyH P md ops Q S fuel (listed.setIfInBounds i true) (a.put (some t) v) w) (hi : ops[i]? = some oi := by rfl) (hd : oi.dst = some t := by rfl)
 (hc : (Region.noSelect ops && (Region.free md ops listed i && (Region.ready md ops listed).contains i)) = true := by kernel_rfl) (hw : Region.wanted oi (yielded ops a.tmps) = true := by rfl)
 (hy : ∀ w, S w → (execOp a.eval oi).run P w = .ok (.value v) w := by intro w h; (try dsimp only at h); go_simp; try (with_reducible rfl))
 (hQ : ∀ c a w, Q (.panic c) (a.put (some t) v) w → Q (.panic c) a w := by first | exact fun _ _ _ x => x | exact fun _ _ _ h => by cases h.1) : wpAnyH P md ops Q S (fuel + 1) listed a w :=
 tk i oi (some t) hi hd hc hS hw hQ hy h
theorem tm (i : Nat) (oi : Oper) (t : Tmp) {fuel : Nat} {listed : Array Bool} {a : Act} {w : World} (hS : S w)
 (h : wpAnyH P md ops Q S fuel (listed.setIfInBounds i true) (a.put (some t) undef) w) (hi : ops[i]? = some oi := by rfl) (hd : oi.dst = some t := by rfl)
 (hc : (Region.noSelect ops && (Region.free md ops listed i && (Region.ready md ops listed).contains i)) = true := by kernel_rfl) (hw : Region.wanted oi (yielded ops a.tmps) = false := by rfl)
 (hQ : ∀ c a w, Q (.panic c) (a.put (some t) undef) w → Q (.panic c) a w := by first | exact fun _ _ _ x => x | exact fun _ _ _ h => by cases h.1) : wpAnyH P md ops Q S (fuel + 1) listed a w :=
 tn i oi (some t) hi hd hc hS hw hQ h
theorem arR (rs : List Nat) {fuel : Nat} {listed : Array Bool} {a : Act} {w : World} (h : AllReadyH P md ops Q S fuel listed a w rs) (hr : Region.ready md ops listed = rs := by kernel_rfl) (hne : rs ≠ [] := by simp) : wpAnyH P md ops Q S (fuel + 1) listed a w := wpAnyH_ready hr hne h
theorem ar1 (i : Nat) (o : Oper) {fuel : Nat} {listed : Array Bool} {a : Act} {w : World} (h : ∀ K' : Act → World → Prop, Shut (∀ a w, S w → (S w → wpAnyH P md ops Q S fuel (listed.setIfInBounds i true) a w) → K' a w) → if Region.wanted o (yielded ops a.tmps) = true then Oper.wp P o a w K' Q else K' (a.put o.dst undef) w) (ho : ops[i]? = some o := by rfl) (hr : Region.ready md ops listed = [i] := by kernel_rfl) : wpAnyH P md ops Q S (fuel + 1) listed a w := wpAnyH_ready hr (by simp) (AllReadyH.cons ho h AllReadyH.nil)
end
theorem sa {α : Type} (l : List α) (i : Nat) (a : α) : l.toArray.setIfInBounds i a = (l.set i a).toArray := List.setIfInBounds_toArray ..
theorem s0 {α : Type} (a b : α) (l : List α) : (a :: l).set 0 b = b :: l := rfl
theorem s1 {α : Type} (a b : α) (l : List α) (i : Nat) : (a :: l).set (i + 1) b = a :: l.set i b := rfl

theorem uq {P : Program} {md : Region.Mode} {ops : Array Oper} {Q : Exit → Act → World → Prop} {S : World → Prop} (i : Nat) (oi : Oper) (t : Tmp) {v : Value} {fuel : Nat} {listed : Array Bool} {a b : Act} {w : World} (hS : S w)
 (h : wpAnyH P md ops Q S fuel (listed.setIfInBounds i true) b w) (hi : ops[i]? = some oi := by rfl) (hd : oi.dst = some t := by rfl)
 (hc : (Region.noSelect ops && (Region.free md ops listed i && (Region.ready md ops listed).contains i)) = true := by kernel_rfl) (hw : Region.wanted oi (yielded ops a.tmps) = true := by rfl)
 (hy : ∀ w, S w → (execOp a.eval oi).run P w = .ok (.value v) w := by intro w h; (try dsimp only at h); go_simp; try (with_reducible rfl))
 (hb : a.put (some t) v = b := by first | (simp only [Act.put, sa, s0, s1]; done) | (simp only [Act.put, sa, s0, s1]; rfl) | rfl)
 (hQ : ∀ c a w, Q (.panic c) (a.put (some t) v) w → Q (.panic c) a w := by first | exact fun _ _ _ x => x | exact fun _ _ _ h => by cases h.1) : wpAnyH P md ops Q S (fuel + 1) listed a w :=
 tk i oi (some t) hi hd hc hS hw hQ hy (hb ▸ h)
theorem um {P : Program} {md : Region.Mode} {ops : Array Oper} {Q : Exit → Act → World → Prop} {S : World → Prop} (i : Nat) (oi : Oper) (t : Tmp) {fuel : Nat} {listed : Array Bool} {a b : Act} {w : World} (hS : S w)
 (h : wpAnyH P md ops Q S fuel (listed.setIfInBounds i true) b w) (hi : ops[i]? = some oi := by rfl) (hd : oi.dst = some t := by rfl)
 (hc : (Region.noSelect ops && (Region.free md ops listed i && (Region.ready md ops listed).contains i)) = true := by kernel_rfl) (hw : Region.wanted oi (yielded ops a.tmps) = false := by rfl)
 (hb : a.put (some t) undef = b := by first | (simp only [Act.put, sa, s0, s1]; done) | (simp only [Act.put, sa, s0, s1]; rfl) | rfl)
 (hQ : ∀ c a w, Q (.panic c) (a.put (some t) undef) w → Q (.panic c) a w := by first | exact fun _ _ _ x => x | exact fun _ _ _ h => by cases h.1) : wpAnyH P md ops Q S (fuel + 1) listed a w :=
 tn i oi (some t) hi hd hc hS hw hQ (hb ▸ h)
end Go.Proofs.YtomlpobbhioflaaGreatDoor

namespace Go.Proofs.YtomlpobbhioflaaGreatDoor
open Go.RowKit
def Rd (k : IntKind) (B : Nat) (w : World) (a : Option Addr) (zs : List Int) : Prop :=
 ∀ j, j < zs.length → ∃ b off, a = some ⟨b, off, none⟩ ∧ b < B ∧ w.cell? ⟨b, off + j, none⟩ = some (.int k (zs.getD j 0))
theorem Rd.below {k : IntKind} {B : Nat} {w w' : World} {a : Option Addr} {zs : List Int} (h : Rd k B w a zs) (hb : Below B w w') : Rd k B w' a zs := by
 intro j hj
 obtain ⟨b, off, e, hlt, hc⟩ := h j hj
 exact ⟨b, off, e, hlt, (hb.cell (p := ⟨b, off + j, none⟩) hlt).trans hc⟩
theorem Rd.mono {k : IntKind} {B B' : Nat} {w : World} {a : Option Addr} {zs : List Int} (h : Rd k B w a zs) (hB : B ≤ B') : Rd k B' w a zs := by
 intro j hj
 obtain ⟨b, off, e, hlt, hc⟩ := h j hj
 exact ⟨b, off, e, by omega, hc⟩
theorem Rd.own {k : IntKind} {w : World} {base e g cap n : Nat} {zs : List Int} (hn : zs.length = n)
  (h : w.ownsRow base e 1 (.slice (some ⟨g, 0, none⟩) n cap) n (zs.map (Value.int k))) : Rd k w.heap.size w (some ⟨g, 0, none⟩) zs := by
 intro j hj
 refine ⟨g, 0, rfl, (h.lt g rfl).2, ?_⟩
 have := h.cellAt j (by omega)
 rw [Nat.zero_add, this]
 simp [hj]
theorem take_eq_succ {xs ys : List Int} {k n : Nat} (hx : xs.length = n) (hy : ys.length = n) (hk : k < n) (h : xs.take k = ys.take k) (he : xs.getD k 0 = ys.getD k 0) : xs.take (k + 1) = ys.take (k + 1) := by
 apply List.ext_getElem?
 intro j
 have hj := congrArg (fun l => l[j]?) h
 simp only [List.getElem?_take] at hj ⊢
 by_cases h1 : j < k
 ·rw [if_pos (by omega), if_pos (by omega)]
  simpa [h1] using hj
 ·by_cases h2 : j = k
  ·subst h2
   rw [if_pos (by omega), if_pos (by omega)]
   simp only [List.getD_eq_getElem?_getD] at he
   rw [List.getElem?_eq_getElem (by omega), List.getElem?_eq_getElem (by omega)] at he ⊢
   simpa using he
  ·rw [if_neg (by omega), if_neg (by omega)]
def marks (k : Int) : Nat → List Int
 | 0 => []
 | n + 1 => k % 256 :: marks (k + 1) n
theorem marks_length (k : Int) (n : Nat) : (marks k n).length = n := by
 induction n generalizing k with
 | zero => rfl
 | succ n ih => simp [marks, ih]
theorem marks_getD (k : Int) (n i : Nat) (h : i < n) : (marks k n).getD i 0 = (k + i) % 256 := by
 induction n generalizing k i with
 | zero => omega
 | succ n ih =>
  cases i with
  | zero => simp [marks]
  | succ i =>
   have := ih (k + 1) i (by omega)
   simp only [marks, List.getD_cons_succ, this]
   congr 1
   omega
theorem mark_step {ks : IntKind} {xs : List Int} {k : Int} {n i : Nat} (hn : xs.length = n) (hi : i < n) :
  ((((marks k n).take i) ++ xs.drop i).map (Value.int ks)).set i (Value.int ks ((k + i) % 256)) = (((marks k n).take (i + 1)) ++ xs.drop (i + 1)).map (Value.int ks) := by
 rw [← marks_getD k n i hi]
 have hl := marks_length k n
 generalize marks k n = ms at *
 rw [← List.map_set]
 congr 1
 have hx : i < xs.length := by omega
 have hm : i < ms.length := by omega
 rw [List.drop_eq_getElem_cons hx, List.set_append_right _ _ (by simp; omega), show i - (ms.take i).length = 0 from by simp; omega, List.set_cons_zero, List.take_succ_eq_append_getElem hm, List.append_assoc, List.getD_eq_getElem?_getD, List.getElem?_eq_getElem hm]
 rfl
theorem grown_trans {a b c : World} {r : Option Nat} (h : a.grownBy b r) (k : b.grownBy c r) : a.grownBy c r :=
 ⟨k.os.trans h.os, k.tape.trans h.tape, k.output.trans h.output, Nat.le_trans h.size k.size, fun i hi hne => (k.block i (Nat.lt_of_lt_of_le hi h.size) hne).trans (h.block i hi hne)⟩
def BytesOk (zs : List Int) : Prop := ∀ z, z ∈ zs → 0 ≤ z ∧ z ≤ 255
theorem Hid.mk {p : Prop} (h : p) : Hid p := h
theorem own_congr {w : World} {base e size : Nat} {v : Value} {n n' : Nat} {xs ys : List Value} (h : w.ownsRow base e size v n xs) (hn : n = n') (hx : xs = ys) : w.ownsRow base e size v n' ys := by
 subst hn
 subst hx
 exact h
theorem own_base {w : World} {base base' e size : Nat} {v : Value} {n : Nat} {xs : List Value} (h : w.ownsRow base e size v n xs) (hb : base' ≤ base) : w.ownsRow base' e size v n xs := by
 refine ⟨h.1, ?_⟩
 rcases h.2 with h' | ⟨g, cap, cur, rfl, hg, rest⟩
 ·exact .inl h'
 ·exact .inr ⟨g, cap, cur, rfl, by omega, rest⟩
theorem own_shape {w : World} {base e n : Nat} {v : Value} {xs : List Value} (h : w.ownsRow base e 1 v n xs) (hn : 0 < n) : ∃ g cap, v = .slice (some ⟨g, 0, none⟩) n cap ∧ n ≤ cap ∧ base ≤ g ∧ g < w.heap.size := by
 rcases h.2 with ⟨_, h'⟩ | ⟨g, cap, cur, rfl, hb, hg, hnc, _⟩
 ·omega
 ·exact ⟨g, cap, rfl, hnc, hb, (h.lt g rfl).2⟩
theorem own_rd {k : IntKind} {w : World} {base e n : Nat} {v : Value} {zs : List Int} (hn : zs.length = n) (h : w.ownsRow base e 1 v n (zs.map (Value.int k))) :
  ∃ a c, v = .slice a n c ∧ n ≤ c ∧ Rd k w.heap.size w a zs := by
 rcases h.2 with ⟨rfl, h'⟩ | ⟨g, cap, cur, rfl, hb, hg, hnc, _⟩
 ·subst h'
  exact ⟨none, 0, rfl, Nat.le_refl _, fun j hj => by omega⟩
 ·exact ⟨_, cap, rfl, hnc, Rd.own hn h⟩
theorem own_below {w w' : World} {base e size n : Nat} {v : Value} {xs : List Value} (h : w.ownsRow base e size v n xs) (hb : Below w.heap.size w w') : w'.ownsRow base e size v n xs := by
 refine ⟨h.1, ?_⟩
 rcases h.2 with h' | ⟨g, cap, cur, rfl, hg, hh, rest⟩
 ·exact .inl h'
 ·exact .inr ⟨g, cap, cur, rfl, hg, by rw [hb.block g (h.lt g rfl).2]; exact hh, rest⟩
theorem Rd.drewN {k : IntKind} {B d : Nat} {w : World} {a : Option Addr} {zs : List Int} (h : Rd k B w a zs) : Rd k B (w.drewN d) a zs := h
theorem Rd.grown {k : IntKind} {B : Nat} {w w' : World} {r : Option Nat} {a : Option Addr} {zs : List Int} (h : Rd k B w a zs) (hg : w.grownBy w' r) (hr : ∀ i, r = some i → B ≤ i) : Rd k B w' a zs := by
 intro j hj
 obtain ⟨b, off, e, hlt, hc⟩ := h j hj
 exact ⟨b, off, e, hlt, hg.cell hc (fun e => by have := hr b e.symm; omega)⟩
def byteInts (s : ByteArray) : List Int := s.data.toList.map fun b => (b.toNat : Int)
theorem byteInts_length (s : ByteArray) : (byteInts s).length = s.size := by simp [byteInts]
theorem setCells_row (g : Nat) (e : TypeId) : ∀ (news : List Value) (o : Nat) (w : World) (cur : Array Value), w.heap[g]? = some (.cells cur e (0, 0)) → o + news.length ≤ cur.size →
  (∃ cur', (w.setCells g o news).heap[g]? = some (.cells cur' e (0, 0)) ∧ cur'.size = cur.size ∧ cur'.toList.take (o + news.length) = cur.toList.take o ++ news) ∧ w.grownBy (w.setCells g o news) (some g)
 | [], o, w, cur, hg, _ => ⟨⟨cur, hg, rfl, by simp⟩, World.grownBy.refl _ _⟩
 | u :: r, o, w, cur, hg, hfit => by
  have h1 := heap_setCell_same w g o cur e u hg
  obtain ⟨⟨cur', h2, h3, h4⟩, h5⟩ := setCells_row g e r (o + 1) (w.setCell ⟨g, o, none⟩ u) (cur.setIfInBounds o u) h1 (by simp at hfit ⊢; omega)
  refine ⟨⟨cur', h2, by simpa using h3, ?_⟩, ?_⟩
  ·have e1 : o + (u :: r).length = o + 1 + r.length := by simp; omega
   rw [e1, h4, Array.toList_setIfInBounds]
   have ho : o < cur.toList.length := by simp at hfit ⊢; omega
   rw [List.take_set, List.take_succ_eq_append_getElem ho, List.set_append_right _ _ (by simp; omega)]
   have e2 : o - (cur.toList.take o).length = 0 := by simp; omega
   rw [e2]
   simp
  ·exact grown_trans (b := w.setCell ⟨g, o, none⟩ u) ⟨rfl, rfl, rfl, by simp, fun k _ hk => heap_setCell_other w ⟨g, o, none⟩ k u (fun e => hk (by simp [e]))⟩ h5
section
variable {P : Program} (w : World)
end
theorem Src.rd {P : Program} {w : World} {k : IntKind} {B : Nat} {a : Option Addr} {zs : List Int} {tx e' : TypeId} {n c : Nat} (hk : P.underlying tx = some (.slice e')) (hn : zs.length = n) (hr : Rd k B w a zs) :
  Src P 1 tx (.slice a n c) n (zs.map (Value.int k)) w := by
 cases a with
 | none =>
  have hz : zs = [] := by
   cases zs with
   | nil => rfl
   | cons z r =>
    obtain ⟨_, _, h, _⟩ := hr 0 (by simp)
    cases h
  subst hz
  simp only [List.length_nil] at hn
  subst hn
  exact Src.ofNil w hk c
 | some ad =>
  refine Src.ofSlice w hk ad n c _ (by simp [hn]) (fun j u hu => ?_) (ints_oneCell k zs)
  have hj : j < zs.length := by
   rcases Nat.lt_or_ge j zs.length with h | h
   ·exact h
   ·simp [List.getElem?_eq_none h] at hu
  obtain ⟨b, off, e, _, hc⟩ := hr j hj
  simp only [Option.some.injEq] at e
  subst e
  rw [Addr.add_lit, hc]
  simp [List.getElem?_eq_getElem hj] at hu
  simp [List.getElem?_eq_getElem hj, hu]
end Go.Proofs.YtomlpobbhioflaaGreatDoor

namespace Go.Proofs.YtomlpobbhioflaaGreatDoor
open Go.RowKit
abbrev Rep (α : Type) := Nat → World → List Value → α → Prop
abbrev ORep (α : Type) := World → List Value → α → List Nat → Prop
structure Rep.Good {α : Type} (R : Rep α) : Prop where
 below : ∀ {B w w' cs m}, R B w cs m → Below B w w' → R B w' cs m
 mono : ∀ {B B' w cs m}, R B w cs m → B ≤ B' → R B' w cs m
structure ORep.Good {α : Type} (O : ORep α) (R : Rep α) (size : Nat) : Prop where
 frame : ∀ {w w' cs m F}, O w cs m F → (∀ k, k ∈ F → w'.heap[k]? = w.heap[k]?) → O w' cs m F
 lt : ∀ {w cs m F}, O w cs m F → ∀ k, k ∈ F → k < w.heap.size
 read : ∀ {w cs m F}, O w cs m F → R w.heap.size w cs m
 len : ∀ {w cs m F}, O w cs m F → cs.length = size
def RdS {α : Type} (size : Nat) (R : Rep α) (B : Nat) (w : World) (a : Option Addr) (l : List α) : Prop :=
 ∀ j, (h : j < l.length) → ∃ b off, a = some ⟨b, off, none⟩ ∧ b < B ∧ ∃ cs : List Value, cs.length = size ∧ (∀ i u, cs[i]? = some u → w.cell? ⟨b, off + j * size + i, none⟩ = some u) ∧ R B w cs l[j]
theorem RdS.below {α : Type} {size : Nat} {R : Rep α} (hR : R.Good) {B : Nat} {w w' : World} {a : Option Addr} {l : List α} (h : RdS size R B w a l) (hb : Below B w w') : RdS size R B w' a l := by
 intro j hj
 obtain ⟨b, off, e, hB, cs, h1, h2, h3⟩ := h j hj
 exact ⟨b, off, e, hB, cs, h1, fun i u hu => (hb.cell (p := ⟨b, off + j * size + i, none⟩) hB).trans (h2 i u hu), hR.below h3 hb⟩
theorem RdS.mono {α : Type} {size : Nat} {R : Rep α} (hR : R.Good) {B B' : Nat} {w : World} {a : Option Addr} {l : List α} (h : RdS size R B w a l) (hB : B ≤ B') : RdS size R B' w a l := by
 intro j hj
 obtain ⟨b, off, e, hb, cs, h1, h2, h3⟩ := h j hj
 exact ⟨b, off, e, by omega, cs, h1, h2, hR.mono h3 hB⟩
theorem own_of_block {w w' : World} {base e size n : Nat} {v : Value} {xs : List Value} (h : w.ownsRow base e size v n xs) (hb : ∀ k, v.ownBlock = some k → w'.heap[k]? = w.heap[k]?) : w'.ownsRow base e size v n xs := by
 refine ⟨h.1, ?_⟩
 rcases h.2 with h' | ⟨g, cap, cur, rfl, hg, hh, rest⟩
 ·exact .inl h'
 ·exact .inr ⟨g, cap, cur, rfl, hg, by rw [hb g rfl]; exact hh, rest⟩
def ownB (e : TypeId) (w : World) (v : Value) (zs : List Int) (F : List Nat) : Prop :=
 w.ownsRow 0 e 1 v zs.length (zs.map (Value.int .u8)) ∧ BytesOk zs ∧ F = v.ownBlock.toList
theorem ownB.frame {e : TypeId} {w w' : World} {v : Value} {zs : List Int} {F : List Nat} (h : ownB e w v zs F) (hb : ∀ k, k ∈ F → w'.heap[k]? = w.heap[k]?) : ownB e w' v zs F := by
 obtain ⟨h1, h2, rfl⟩ := h
 exact ⟨own_of_block h1 (fun k hk => hb k (by simp [hk])), h2, rfl⟩
theorem ownB.lt {e : TypeId} {w : World} {v : Value} {zs : List Int} {F : List Nat} (h : ownB e w v zs F) : ∀ k, k ∈ F → k < w.heap.size := by
 obtain ⟨h1, h2, rfl⟩ := h
 intro k hk
 exact (h1.lt k (by simpa using hk)).2
theorem ownB.read {e : TypeId} {w : World} {v : Value} {zs : List Int} {F : List Nat} (h : ownB e w v zs F) :
  ∃ a c, v = .slice a zs.length c ∧ zs.length ≤ c ∧ c ≤ 9223372036854775807 ∧ Rd .u8 w.heap.size w a zs ∧ BytesOk zs := by
 obtain ⟨h1, h2, rfl⟩ := h
 rcases h1.2 with ⟨rfl, h'⟩ | ⟨g, cap, cur, rfl, hb, hg, hnc, hm, _⟩
 ·exact ⟨none, 0, by rw [h'], by omega, by omega, fun j hj => by omega, h2⟩
 ·exact ⟨_, cap, rfl, hnc, by simpa [maxLen] using hm, Rd.own rfl h1, h2⟩
def ownS {α : Type} (size : Nat) (e : TypeId) (O : ORep α) (w : World) (v : Value) (l : List α) (F : List Nat) : Prop :=
 (v = .slice none 0 0 ∧ l = [] ∧ F = []) ∨
 ∃ g cap, ∃ cur : Array Value, ∃ Fs : List (List Nat), v = .slice (some ⟨g, 0, none⟩) l.length cap ∧ w.heap[g]? = some (.cells cur e (0, 0)) ∧ l.length ≤ cap ∧ cap ≤ maxLen ∧ cur.size = cap * size ∧ Fs.length = l.length ∧
  (∀ j, (h : j < l.length) → O w ((cur.toList.drop (j * size)).take size) l[j] (Fs.getD j [])) ∧ F = g :: Fs.flatten
theorem mem_flatten_getD {Fs : List (List Nat)} {j k : Nat} (hj : j < Fs.length) (h : k ∈ Fs.getD j []) : k ∈ Fs.flatten := by
 rw [List.getD_eq_getElem?_getD, List.getElem?_eq_getElem hj] at h
 exact List.mem_flatten.2 ⟨_, List.getElem_mem hj, h⟩
theorem of_mem_flatten {Fs : List (List Nat)} {k : Nat} (h : k ∈ Fs.flatten) : ∃ j, j < Fs.length ∧ k ∈ Fs.getD j [] := by
 obtain ⟨l, hl, hk⟩ := List.mem_flatten.1 h
 obtain ⟨j, hj, rfl⟩ := List.mem_iff_getElem.1 hl
 exact ⟨j, hj, by rw [List.getD_eq_getElem?_getD, List.getElem?_eq_getElem hj]; exact hk⟩
theorem ownS.frame {α : Type} {size : Nat} {e : TypeId} {O : ORep α} {R : Rep α} (hO : O.Good R size) {w w' : World} {v : Value} {l : List α} {F : List Nat} (h : ownS size e O w v l F) (hb : ∀ k, k ∈ F → w'.heap[k]? = w.heap[k]?) : ownS size e O w' v l F := by
 rcases h with h | ⟨g, cap, cur, Fs, h1, h2, h3, h4, h5, h6, h7, rfl⟩
 ·exact .inl h
 ·refine .inr ⟨g, cap, cur, Fs, h1, by rw [hb g (by simp)]; exact h2, h3, h4, h5, h6, fun j hj => hO.frame (h7 j hj) (fun k hk => hb k ?_), rfl⟩
  exact List.mem_cons_of_mem _ (mem_flatten_getD (by omega) hk)
theorem ownS.lt {α : Type} {size : Nat} {e : TypeId} {O : ORep α} {R : Rep α} (hO : O.Good R size) {w : World} {v : Value} {l : List α} {F : List Nat} (h : ownS size e O w v l F) : ∀ k, k ∈ F → k < w.heap.size := by
 rcases h with ⟨_, _, rfl⟩ | ⟨g, cap, cur, Fs, h1, h2, h3, h4, h5, h6, h7, rfl⟩
 ·intro k hk; cases hk
 ·intro k hk
  rcases List.mem_cons.1 hk with rfl | hk
  ·exact (Array.getElem?_eq_some_iff.1 h2).1
  ·obtain ⟨j, hj, hkj⟩ := of_mem_flatten hk
   exact hO.lt (h7 j (by omega)) k hkj
theorem ownS.read {α : Type} {size : Nat} {e : TypeId} {O : ORep α} {R : Rep α} (hO : O.Good R size) {w : World} {v : Value} {l : List α} {F : List Nat} (h : ownS size e O w v l F) :
  ∃ a c, v = .slice a l.length c ∧ l.length ≤ c ∧ c ≤ 9223372036854775807 ∧ RdS size R w.heap.size w a l := by
 rcases h with ⟨rfl, rfl, _⟩ | ⟨g, cap, cur, Fs, rfl, h2, h3, h4, h5, h6, h7, rfl⟩
 ·exact ⟨none, 0, rfl, by simp, by omega, fun j hj => by simp at hj⟩
 ·refine ⟨_, cap, rfl, h3, by simpa [maxLen] using h4, fun j hj => ⟨g, 0, rfl, (Array.getElem?_eq_some_iff.1 h2).1, _, hO.len (h7 j hj), ?_, hO.read (h7 j hj)⟩⟩
  intro i u hu
  rw [Nat.zero_add, cell_of_row w g _ cur e (0, 0) h2]
  rw [List.getElem?_take] at hu
  split at hu
  ·rw [List.getElem?_drop] at hu
   simpa using hu
  ·cases hu
structure Fill {α : Type} (size : Nat) (e : TypeId) (O : ORep α) (w : World) (g n : Nat) (l : List α) (k : Nat) (Fs : List (List Nat)) : Prop where
 row : ∃ cur : Array Value, w.heap[g]? = some (.cells cur e (0, 0)) ∧ cur.size = n * size ∧ ∀ j, (h : j < l.length) → j < k → O w ((cur.toList.drop (j * size)).take size) l[j] (Fs.getD j [])
 flen : Fs.length = k
 over : ∀ b, b ∈ Fs.flatten → g < b ∧ b < w.heap.size
 nodup : Fs.flatten.Nodup
theorem setCells_row' (g : Nat) (e : TypeId) : ∀ (news : List Value) (o : Nat) (w : World) (cur : Array Value), w.heap[g]? = some (.cells cur e (0, 0)) → o + news.length ≤ cur.size →
  ∃ cur' : Array Value, (w.setCells g o news).heap[g]? = some (.cells cur' e (0, 0)) ∧ cur'.size = cur.size ∧ cur'.toList = cur.toList.take o ++ news ++ cur.toList.drop (o + news.length)
 | [], o, w, cur, hg, _ => ⟨cur, hg, rfl, by simp⟩
 | u :: r, o, w, cur, hg, hfit => by
  have h1 := heap_setCell_same w g o cur e u hg
  obtain ⟨cur', h2, h3, h4⟩ := setCells_row' g e r (o + 1) (w.setCell ⟨g, o, none⟩ u) (cur.setIfInBounds o u) h1 (by simp at hfit ⊢; omega)
  refine ⟨cur', h2, by simpa using h3, ?_⟩
  have ho : o < cur.toList.length := by simp at hfit ⊢; omega
  have e0 : (cur.toList.set o u).take (o + 1) = cur.toList.take o ++ [u] := by
   rw [List.take_set, List.take_succ_eq_append_getElem ho, List.set_append_right _ _ (by simp; omega)]
   have e2 : o - (cur.toList.take o).length = 0 := by simp; omega
   rw [e2]
   simp
  have e3 : (cur.toList.set o u).drop (o + 1 + r.length) = cur.toList.drop (o + (u :: r).length) := by
   rw [List.drop_set_of_lt (by omega)]
   congr 1
   simp; omega
  rw [h4, Array.toList_setIfInBounds, e0, e3]
  simp
theorem heap_setCells_ne (g : Nat) : ∀ (news : List Value) (o : Nat) (w : World) (k : Nat), k ≠ g → (w.setCells g o news).heap[k]? = w.heap[k]?
 | [], _, _, _, _ => rfl
 | u :: r, o, w, k, hk => by
  show ((w.setCell ⟨g, o, none⟩ u).setCells g (o + 1) r).heap[k]? = _
  rw [heap_setCells_ne g r (o + 1) _ k hk]
  exact heap_setCell_other w ⟨g, o, none⟩ k u (fun e => hk e)
theorem size_setCells_w (g : Nat) : ∀ (news : List Value) (o : Nat) (w : World), (w.setCells g o news).heap.size = w.heap.size
 | [], _, _ => rfl
 | u :: r, o, w => by
  show ((w.setCell ⟨g, o, none⟩ u).setCells g (o + 1) r).heap.size = _
  rw [size_setCells_w g r (o + 1) _]
  simp
theorem Fill.step {α : Type} {size : Nat} {e : TypeId} {O : ORep α} {R : Rep α} (hO : O.Good R size) {w w1 : World} {g n k : Nat} {l : List α} {Fs : List (List Nat)} (h : Fill size e O w g n l k Fs) (hg : g < w.heap.size) (hk : k < l.length) (hkn : k < n)
  (hb : Below w.heap.size w w1) {cs : List Value} {F : List Nat} (ho : O w1 cs l[k] F) (hF : ∀ b, b ∈ F → w.heap.size ≤ b) (hN : F.Nodup) :
  Fill size e O (w1.setCells g (k * size) cs) g n l (k + 1) (Fs ++ [F]) := by
 obtain ⟨⟨cur, c1, c2, c3⟩, f1, f2, f3⟩ := h
 have hcl := hO.len ho
 have hfit : k * size + cs.length ≤ cur.size := by
  rw [hcl, c2, ← Nat.succ_mul]
  exact Nat.mul_le_mul_right _ hkn
 have c1' : w1.heap[g]? = some (.cells cur e (0, 0)) := by rw [hb.block g hg]; exact c1
 obtain ⟨cur', d1, d2, d3⟩ := setCells_row' g e cs (k * size) w1 cur c1' hfit
 have hFlt : ∀ b, b ∈ F → b < w1.heap.size := fun b hbF => hO.lt ho b hbF
 refine ⟨⟨cur', d1, by rw [d2, c2], ?_⟩, by simp [f1], ?_, ?_⟩
 ·intro j hj hjk
  have hlen : cur.toList.length = n * size := by simpa using c2
  by_cases hjk' : j = k
  ·subst hjk'
   have e1 : (cur'.toList.drop (j * size)).take size = cs := by
    rw [d3, List.append_assoc, List.drop_append, List.drop_eq_nil_of_le (by simp; omega), List.nil_append]
    have : j * size - (cur.toList.take (j * size)).length = 0 := by simp; omega
    rw [this, List.drop_zero, List.take_append, List.take_of_length_le (by omega), hcl, Nat.sub_self, List.take_zero, List.append_nil]
   have e2 : (Fs ++ [F]).getD j [] = F := by rw [List.getD_eq_getElem?_getD, List.getElem?_append_right (by omega), f1, Nat.sub_self]; rfl
   rw [e1, e2]
   exact hO.frame ho (fun b hbF => heap_setCells_ne g cs _ w1 b (by have := hF b hbF; omega))
  ·have hlt : j < k := by omega
   have hmul : (j + 1) * size ≤ k * size := Nat.mul_le_mul_right _ hlt
   rw [Nat.succ_mul] at hmul
   have e1 : (cur'.toList.drop (j * size)).take size = (cur.toList.drop (j * size)).take size := by
    rw [d3, List.append_assoc]
    apply List.ext_getElem?
    intro i
    rw [List.getElem?_take, List.getElem?_take, List.getElem?_drop, List.getElem?_drop]
    by_cases hi : i < size
    ·rw [if_pos hi, if_pos hi, List.getElem?_append_left (by simp; omega), List.getElem?_take, if_pos (by omega)]
    ·rw [if_neg hi, if_neg hi]
   have e2 : (Fs ++ [F]).getD j [] = Fs.getD j [] := by rw [List.getD_eq_getElem?_getD, List.getD_eq_getElem?_getD, List.getElem?_append_left (by omega)]
   rw [e1, e2]
   have ho' := hO.frame (c3 j hj hlt) (w' := w1) (fun b hbF => hb.block b (hO.lt (c3 j hj hlt) b hbF))
   exact hO.frame ho' (fun b hbF => heap_setCells_ne g cs _ w1 b (by have := f2 b (mem_flatten_getD (by omega) hbF); omega))
 ·intro b hbF
  rw [size_setCells_w]
  rw [List.flatten_append, List.mem_append] at hbF
  rcases hbF with hbF | hbF
  ·have := f2 b hbF; have := hb.size; omega
  ·have hbF : b ∈ F := by simpa using hbF
   have := hF b hbF; have := hFlt b hbF; omega
 ·rw [List.flatten_append]
  refine List.nodup_append.2 ⟨f3, by simpa using hN, ?_⟩
  intro a ha b hb' hab
  subst hab
  have h1 := f2 a ha
  have h2 := hF a (by simpa using hb')
  omega
theorem Fill.done {α : Type} {size : Nat} {e : TypeId} {O : ORep α} {w : World} {g n : Nat} {l : List α} {Fs : List (List Nat)} (h : Fill size e O w g n l n Fs) (hn : l.length = n) (hm : n ≤ maxLen) :
  ownS size e O w (.slice (some ⟨g, 0, none⟩) n n) l (g :: Fs.flatten) ∧ (g :: Fs.flatten).Nodup := by
 obtain ⟨⟨cur, c1, c2, c3⟩, f1, f2, f3⟩ := h
 refine ⟨.inr ⟨g, n, cur, Fs, by rw [hn], c1, by omega, hm, c2, by rw [f1, hn], fun j hj => c3 j hj (by omega), rfl⟩, List.nodup_cons.2 ⟨fun hg => by have := f2 g hg; omega, f3⟩⟩
def LeafB (B : Nat) (w : World) (a : Option Addr) (c : Nat) (zs : List Int) : Prop := zs.length ≤ c ∧ c ≤ 9223372036854775807 ∧ Rd .u8 B w a zs ∧ BytesOk zs
def LeafL {α : Type} (size : Nat) (R : Rep α) (B : Nat) (w : World) (a : Option Addr) (c : Nat) (l : List α) : Prop := l.length ≤ c ∧ c ≤ 9223372036854775807 ∧ RdS size R B w a l
theorem LeafB.below {B : Nat} {w w' : World} {a : Option Addr} {c : Nat} {zs : List Int} (h : LeafB B w a c zs) (hb : Below B w w') : LeafB B w' a c zs := ⟨h.1, h.2.1, h.2.2.1.below hb, h.2.2.2⟩
theorem LeafB.mono {B B' : Nat} {w : World} {a : Option Addr} {c : Nat} {zs : List Int} (h : LeafB B w a c zs) (hB : B ≤ B') : LeafB B' w a c zs := ⟨h.1, h.2.1, h.2.2.1.mono hB, h.2.2.2⟩
theorem LeafL.below {α : Type} {size : Nat} {R : Rep α} (hR : R.Good) {B : Nat} {w w' : World} {a : Option Addr} {c : Nat} {l : List α} (h : LeafL size R B w a c l) (hb : Below B w w') : LeafL size R B w' a c l := ⟨h.1, h.2.1, h.2.2.below hR hb⟩
theorem LeafL.mono {α : Type} {size : Nat} {R : Rep α} (hR : R.Good) {B B' : Nat} {w : World} {a : Option Addr} {c : Nat} {l : List α} (h : LeafL size R B w a c l) (hB : B ≤ B') : LeafL size R B' w a c l := ⟨h.1, h.2.1, h.2.2.mono hR hB⟩
def sumW {α : Type} (f : α → Nat) : List α → Nat
 | [] => 0
 | m :: r => f m + sumW f r
theorem sumW_take_succ {α : Type} {f : α → Nat} {l : List α} {k : Nat} (h : k < l.length) : sumW f (l.take (k + 1)) = sumW f (l.take k) + f l[k] := by
 induction l generalizing k with
 | nil => simp at h
 | cons m r ih =>
  cases k with
  | zero => simp [sumW]
  | succ k => simp only [List.take_succ_cons, sumW, List.getElem_cons_succ]; rw [ih (by simpa using h)]; omega
theorem sumW_take_le {α : Type} (f : α → Nat) (l : List α) (k : Nat) : sumW f (l.take k) ≤ sumW f l := by
 induction l generalizing k with
 | nil => simp [sumW]
 | cons m r ih =>
  cases k with
  | zero => simp [sumW]
  | succ k => simp only [List.take_succ_cons, sumW]; have := ih k; omega
theorem sumW_le {α : Type} {f : α → Nat} {l : List α} {k : Nat} (h : k < l.length) : f l[k] ≤ sumW f l := by
 have h1 := sumW_take_succ (f := f) h
 have h2 := sumW_take_le f l (k + 1)
 omega
theorem bcell {W w1 : World} (hb : Below W.heap.size W w1) : (∀ b o, b < W.heap.size → w1.cell? ⟨b, o, none⟩ = W.cell? ⟨b, o, none⟩) ∧ (∀ b o, b < W.heap.size → w1.frozen? ⟨b, o, none⟩ = W.frozen? ⟨b, o, none⟩) :=
 ⟨fun b o h => hb.cell (p := ⟨b, o, none⟩) h, fun b o h => hb.frozen (p := ⟨b, o, none⟩) h⟩
structure Above (X : Nat) (w w' : World) : Prop where
 size : w.heap.size ≤ w'.heap.size
 block : ∀ b, X ≤ b → b < w.heap.size → w'.heap[b]? = w.heap[b]?
theorem Above.refl (X : Nat) (w : World) : Above X w w := ⟨Nat.le_refl _, fun _ _ _ => rfl⟩
theorem Above.trans {X : Nat} {a b c : World} (h : Above X a b) (k : Above X b c) : Above X a c := ⟨Nat.le_trans h.size k.size, fun i hX hi => (k.block i hX (Nat.lt_of_lt_of_le hi h.size)).trans (h.block i hX hi)⟩
theorem Above.setCell {X : Nat} {a w : World} (h : Above X a w) {p : Addr} (hp : p.block < X) (u : Value) : Above X a (w.setCell p u) :=
 h.trans ⟨by simp, fun k hX _ => Below.heap_setCell _ _ _ _ (by omega)⟩
theorem Above.below {X : Nat} {w w' : World} (h : Below w.heap.size w w') : Above X w w' := ⟨h.size, fun b _ hb => h.block b hb⟩
theorem Fill.start {α : Type} {size : Nat} {e : TypeId} {O : ORep α} {w : World} {g n base : Nat} {l : List α} {xs : List Value} (h : w.ownsRow base e size (.slice (some ⟨g, 0, none⟩) n n) n xs) : Fill size e O w g n l 0 [] := by
 rcases h.2 with ⟨h', _⟩ | ⟨g', cap, cur, h', hb, hg, hnc, hm, hs, _⟩
 ·simp at h'
 ·simp only [Value.slice.injEq, Option.some.injEq, Addr.mk.injEq, and_true, true_and] at h'
  obtain ⟨rfl, rfl⟩ := h'
  exact ⟨⟨cur, hg, hs, fun j _ hj => by omega⟩, rfl, fun b hb => by simp at hb, by simp⟩
theorem Fill.keep {α : Type} {size : Nat} {e : TypeId} {O : ORep α} {R : Rep α} (hO : O.Good R size) {w w1 : World} {g n k : Nat} {l : List α} {Fs : List (List Nat)} (h : Fill size e O w g n l k Fs) (hg : g < w.heap.size) (hb : Below w.heap.size w w1) : Fill size e O w1 g n l k Fs := by
 obtain ⟨⟨cur, c1, c2, c3⟩, f1, f2, f3⟩ := h
 exact ⟨⟨cur, by rw [hb.block g hg]; exact c1, c2, fun j hj hjk => hO.frame (c3 j hj hjk) (fun b hbF => hb.block b (hO.lt (c3 j hj hjk) b hbF))⟩, f1, fun b hbF => ⟨(f2 b hbF).1, Nat.lt_of_lt_of_le (f2 b hbF).2 hb.size⟩, f3⟩
theorem Fill.cells {α : Type} {size : Nat} {e : TypeId} {O : ORep α} {w : World} {g n k : Nat} {l : List α} {Fs : List (List Nat)} (h : Fill size e O w g n l k Fs) (hk : k < n) (i : Nat) (hi : i < size) : ∃ u, w.cell? ⟨g, k * size + i, none⟩ = some u := by
 obtain ⟨⟨cur, c1, c2, _⟩, _, _, _⟩ := h
 have hm : (k + 1) * size ≤ n * size := Nat.mul_le_mul_right _ hk
 rw [Nat.succ_mul] at hm
 exact ⟨_, by rw [cell_of_row w g _ cur e (0, 0) c1]; exact Array.getElem?_eq_getElem (by omega)⟩
theorem Fill.free {α : Type} {size : Nat} {e : TypeId} {O : ORep α} {w : World} {g n k : Nat} {l : List α} {Fs : List (List Nat)} (h : Fill size e O w g n l k Fs) (j : Nat) : w.frozen? ⟨g, j, none⟩ = false := by
 obtain ⟨⟨cur, c1, _, _⟩, _, _, _⟩ := h
 exact frozen_of_row w g j cur e c1
structure MInode where
 fId : Int
 fData : List Int
 fSure : Int
def rInode : Rep MInode := fun B w cs m => ∃ a1 : Option Addr, ∃ c1 : Nat, cs = [.int .i64 m.fId, .slice a1 m.fData.length c1, .int .i64 m.fSure] ∧ (Lit.int .i64 m.fId).wf = true ∧ LeafB B w a1 c1 m.fData ∧ (Lit.int .i64 m.fSure).wf = true ∧ True
theorem rInode_good : rInode.Good :=
 ⟨fun ⟨a1, c1, h, h0, h1, h2, _⟩ hb => ⟨a1, c1, h, h0, h1.below hb, h2, trivial⟩, fun ⟨a1, c1, h, h0, h1, h2, _⟩ hB => ⟨a1, c1, h, h0, h1.mono hB, h2, trivial⟩⟩
def oInode : ORep MInode := fun w cs m F => ∃ v1 : Value, ∃ F1 : List Nat, cs = [.int .i64 m.fId, v1, .int .i64 m.fSure] ∧ (Lit.int .i64 m.fId).wf = true ∧ ownB 5 w v1 m.fData F1 ∧ (Lit.int .i64 m.fSure).wf = true ∧ F = F1 ++ []
theorem oInode_good : oInode.Good rInode 3 := by
 refine ⟨?_, ?_, ?_, ?_⟩
 ·rintro w w' cs m F ⟨v1, F1, rfl, h0, h1, h2, rfl⟩ hb
  exact ⟨v1, F1, rfl, h0, h1.frame (fun k hk => hb k (by simp [hk])), h2, rfl⟩
 ·rintro w cs m F ⟨v1, F1, rfl, h0, h1, h2, rfl⟩ k hk
  simp only [List.mem_append, List.not_mem_nil, or_false] at hk
  exact h1.lt k hk
 ·rintro w cs m F ⟨v1, F1, rfl, h0, h1, h2, rfl⟩
  obtain ⟨a1, c1, rfl, g1⟩ := h1.read
  exact ⟨a1, c1, rfl, h0, g1, h2, trivial⟩
 ·rintro w cs m F ⟨v1, F1, rfl, h0, h1, h2, rfl⟩
  rfl
def wInode (m : MInode) : Nat := m.fData.length
structure MEntry where
 fName : ByteArray
 fId : Int
def rEntry : Rep MEntry := fun B w cs m => cs = [.string m.fName, .int .i64 m.fId] ∧ m.fName.size ≤ 9223372036854775807 ∧ (Lit.int .i64 m.fId).wf = true ∧ True
theorem rEntry_good : rEntry.Good :=
 ⟨fun ⟨h, h0, h1, _⟩ hb => ⟨h, h0, h1, trivial⟩, fun ⟨h, h0, h1, _⟩ hB => ⟨h, h0, h1, trivial⟩⟩
def oEntry : ORep MEntry := fun w cs m F => cs = [.string m.fName, .int .i64 m.fId] ∧ m.fName.size ≤ 9223372036854775807 ∧ (Lit.int .i64 m.fId).wf = true ∧ F = []
theorem oEntry_good : oEntry.Good rEntry 2 := by
 refine ⟨?_, ?_, ?_, ?_⟩
 ·rintro w w' cs m F ⟨rfl, h0, h1, rfl⟩ hb
  exact ⟨rfl, h0, h1, rfl⟩
 ·rintro w cs m F ⟨rfl, h0, h1, rfl⟩ k hk
  cases hk
 ·rintro w cs m F ⟨rfl, h0, h1, rfl⟩
  exact ⟨rfl, h0, h1, trivial⟩
 ·rintro w cs m F ⟨rfl, h0, h1, rfl⟩
  rfl
def wEntry (m : MEntry) : Nat := m.fName.size
structure MDisk where
 fInodes : List MInode
 fNames : List MEntry
 fSafe : List MEntry
 fNext : Int
def rDisk : Rep MDisk := fun B w cs m => ∃ a0 : Option Addr, ∃ c0 : Nat, ∃ a1 : Option Addr, ∃ c1 : Nat, ∃ a2 : Option Addr, ∃ c2 : Nat, cs = [.slice a0 m.fInodes.length c0, .slice a1 m.fNames.length c1, .slice a2 m.fSafe.length c2, .int .i64 m.fNext] ∧ LeafL 3 rInode B w a0 c0 m.fInodes ∧ LeafL 2 rEntry B w a1 c1 m.fNames ∧ LeafL 2 rEntry B w a2 c2 m.fSafe ∧ (Lit.int .i64 m.fNext).wf = true ∧ True
theorem rDisk_good : rDisk.Good :=
 ⟨fun ⟨a0, c0, a1, c1, a2, c2, h, h0, h1, h2, h3, _⟩ hb => ⟨a0, c0, a1, c1, a2, c2, h, h0.below rInode_good hb, h1.below rEntry_good hb, h2.below rEntry_good hb, h3, trivial⟩, fun ⟨a0, c0, a1, c1, a2, c2, h, h0, h1, h2, h3, _⟩ hB => ⟨a0, c0, a1, c1, a2, c2, h, h0.mono rInode_good hB, h1.mono rEntry_good hB, h2.mono rEntry_good hB, h3, trivial⟩⟩
def oDisk : ORep MDisk := fun w cs m F => ∃ v0 : Value, ∃ F0 : List Nat, ∃ v1 : Value, ∃ F1 : List Nat, ∃ v2 : Value, ∃ F2 : List Nat, cs = [v0, v1, v2, .int .i64 m.fNext] ∧ ownS 3 53 oInode w v0 m.fInodes F0 ∧ ownS 2 56 oEntry w v1 m.fNames F1 ∧ ownS 2 56 oEntry w v2 m.fSafe F2 ∧ (Lit.int .i64 m.fNext).wf = true ∧ F = F0 ++ F1 ++ F2 ++ []
theorem oDisk_good : oDisk.Good rDisk 4 := by
 refine ⟨?_, ?_, ?_, ?_⟩
 ·rintro w w' cs m F ⟨v0, F0, v1, F1, v2, F2, rfl, h0, h1, h2, h3, rfl⟩ hb
  exact ⟨v0, F0, v1, F1, v2, F2, rfl, ownS.frame oInode_good h0 (fun k hk => hb k (by simp [hk])), ownS.frame oEntry_good h1 (fun k hk => hb k (by simp [hk])), ownS.frame oEntry_good h2 (fun k hk => hb k (by simp [hk])), h3, rfl⟩
 ·rintro w cs m F ⟨v0, F0, v1, F1, v2, F2, rfl, h0, h1, h2, h3, rfl⟩ k hk
  simp only [List.mem_append, List.not_mem_nil, or_false] at hk
  rcases hk with (hk | hk) | hk
  ·exact ownS.lt oInode_good h0 k hk
  ·exact ownS.lt oEntry_good h1 k hk
  ·exact ownS.lt oEntry_good h2 k hk
 ·rintro w cs m F ⟨v0, F0, v1, F1, v2, F2, rfl, h0, h1, h2, h3, rfl⟩
  obtain ⟨a0, c0, rfl, g0⟩ := ownS.read oInode_good h0
  obtain ⟨a1, c1, rfl, g1⟩ := ownS.read oEntry_good h1
  obtain ⟨a2, c2, rfl, g2⟩ := ownS.read oEntry_good h2
  exact ⟨a0, c0, a1, c1, a2, c2, rfl, g0, g1, g2, h3, trivial⟩
 ·rintro w cs m F ⟨v0, F0, v1, F1, v2, F2, rfl, h0, h1, h2, h3, rfl⟩
  rfl
def wDisk (m : MDisk) : Nat := (m.fInodes.length + sumW wInode m.fInodes) + (m.fNames.length + sumW wEntry m.fNames) + (m.fSafe.length + sumW wEntry m.fSafe)
def inRange (x a b : Int) : Bool := decide (a ≤ x ∧ x ≤ b)
theorem inRange_yes {x a b : Int} (h1 : a ≤ x) (h2 : x ≤ b) : inRange x a b = true := decide_eq_true ⟨h1, h2⟩
theorem inRange_no {x a b : Int} (h : ¬ (a ≤ x ∧ x ≤ b)) : inRange x a b = false := decide_eq_false h
set_option maxHeartbeats 400000 in
theorem l1In_any (x a b : Int) (w : World) :
  Calls Tryz.prog 61 #[.int .i64 x, .int .i64 a, .int .i64 b] w fun e w' => e = .returned (.bool (inRange x a b)) ∧ w' = w := by
 by_cases h1 : a ≤ x
 ·by_cases h2 : x ≤ b
  ·have HV := Hid.mk (inRange_yes h1 h2)
   go_enter Tryz.func61, Tryz.ntmps61
   go_wp2
   go_ret
   exact ⟨by rw [HV.out]; rfl, rfl⟩
  ·have HV := Hid.mk (inRange_no (x := x) (a := a) (b := b) (by omega))
   go_enter Tryz.func61, Tryz.ntmps61
   go_wp2
   go_ret
   exact ⟨by rw [HV.out]; rfl, rfl⟩
 ·have HV := Hid.mk (inRange_no (x := x) (a := a) (b := b) (by omega))
  go_enter Tryz.func61, Tryz.ntmps61
  go_wp2
  go_ret
  exact ⟨by rw [HV.out]; rfl, rfl⟩
def nameByte (c : Int) : Bool := decide (97 ≤ c ∧ c ≤ 122 ∨ 48 ≤ c ∧ c ≤ 57 ∨ c = 45 ∨ c = 46)
def nameOk (s : ByteArray) : Bool := decide (1 ≤ s.size ∧ s.size ≤ 12) && (byteInts s).all nameByte
theorem nameOk_long {s : ByteArray} (h : ¬ (1 ≤ s.size ∧ s.size ≤ 12)) : nameOk s = false := by
 unfold nameOk
 rw [decide_eq_false h]
 rfl
theorem nameOk_bad {s : ByteArray} {k : Nat} (hk : k < (byteInts s).length) (h : nameByte (byteInts s)[k] = false) : nameOk s = false := by
 unfold nameOk
 rw [Bool.and_eq_false_iff]
 right
 rw [List.all_eq_false]
 exact ⟨_, List.getElem_mem hk, by simp [h]⟩
theorem nameOk_good {s : ByteArray} (h : 1 ≤ s.size ∧ s.size ≤ 12) (ha : ∀ k, (hk : k < (byteInts s).length) → nameByte (byteInts s)[k] = true) : nameOk s = true := by
 unfold nameOk
 rw [decide_eq_true h, Bool.true_and, List.all_eq_true]
 intro x hx
 obtain ⟨k, hk, rfl⟩ := List.mem_iff_getElem.1 hx
 exact ha k hk
def named (l : List MEntry) (id : Int) : Bool := l.any fun e => decide (e.fId = id)
theorem named_yes {l : List MEntry} {id : Int} {k : Nat} (h : k < l.length) (he : l[k].fId = id) : named l id = true := by
 unfold named
 rw [List.any_eq_true]
 exact ⟨l[k], List.getElem_mem h, by simp [he]⟩
theorem named_no {l : List MEntry} {id : Int} (h : ∀ k, (hk : k < l.length) → l[k].fId ≠ id) : named l id = false := by
 unfold named
 rw [List.any_eq_false]
 intro e he
 obtain ⟨k, hk, rfl⟩ := List.mem_iff_getElem.1 he
 simp [h k hk]
def placeOf (l : List MInode) (id : Int) : Nat := l.findIdx fun n => decide (n.fId = id)
def hasId (l : List MInode) (id : Int) : Bool := l.any fun n => decide (n.fId = id)
def placeZ (l : List MInode) (id : Int) : Int := if hasId l id then (placeOf l id : Int) else -1
theorem hasId_yes {l : List MInode} {id : Int} {k : Nat} (h : k < l.length) (he : l[k].fId = id) : hasId l id = true := by
 unfold hasId
 rw [List.any_eq_true]
 exact ⟨l[k], List.getElem_mem h, by simp [he]⟩
theorem hasId_no {l : List MInode} {id : Int} (h : ∀ k, (hk : k < l.length) → l[k].fId ≠ id) : hasId l id = false := by
 unfold hasId
 rw [List.any_eq_false]
 intro e he
 obtain ⟨k, hk, rfl⟩ := List.mem_iff_getElem.1 he
 simp [h k hk]
theorem placeZ_at {l : List MInode} {id : Int} {k : Nat} (h : k < l.length) (he : l[k].fId = id) (hn : ∀ j, (hj : j < l.length) → j < k → l[j].fId ≠ id) : placeZ l id = k := by
 unfold placeZ
 rw [hasId_yes h he, if_pos rfl]
 have : placeOf l id = k := by
  unfold placeOf
  rw [List.findIdx_eq h]
  exact ⟨decide_eq_true he, fun j hj => by simp [hn j (by omega) hj]⟩
 rw [this]
theorem placeZ_no {l : List MInode} {id : Int} (hn : ∀ j, (hj : j < l.length) → l[j].fId ≠ id) : placeZ l id = -1 := by
 unfold placeZ
 rw [hasId_no hn]
 rfl
theorem placeZ_neg {l : List MInode} {id : Int} : placeZ l id < 0 ↔ hasId l id = false := by
 unfold placeZ
 cases hasId l id
 ·simp
 ·simp
def strLt (a b : ByteArray) : Bool := Op.bytesLess a.toList b.toList
def stepI (next prev : Int) (n : MInode) : Bool := decide (prev < n.fId ∧ n.fId < next ∧ 0 ≤ n.fSure ∧ n.fSure ≤ n.fData.length)
def okI (next : Int) : Int → List MInode → Bool
 | _, [] => true
 | prev, n :: r => stepI next prev n && okI next n.fId r
def stepE (l : List MInode) (seen : List Int) (prev : ByteArray) (e : MEntry) : Bool := hasId l e.fId && !seen.contains e.fId && strLt prev e.fName && nameOk e.fName
def okE (l : List MInode) : List Int → ByteArray → List MEntry → Bool
 | _, _, [] => true
 | seen, prev, e :: r => stepE l seen prev e && okE l (seen ++ [e.fId]) e.fName r
def isNamed (d : MDisk) (n : MInode) : Bool := named d.fNames n.fId || named d.fSafe n.fId
def diskOk (d : MDisk) : Bool :=
 decide (1 ≤ d.fNext ∧ d.fNext ≤ 1000000) && okI d.fNext 0 d.fInodes && decide (sumW wInode d.fInodes ≤ 60000) &&
  decide (d.fNames.length ≤ 30) && okE d.fInodes [] ByteArray.empty d.fNames && decide (d.fSafe.length ≤ 30) && okE d.fInodes [] ByteArray.empty d.fSafe && d.fInodes.all (isNamed d)
def keepI (d : MDisk) : List MInode := d.fInodes.filter (isNamed d)
def prevId (l : List MInode) (k : Nat) : Int := match k with | 0 => 0 | k + 1 => (l[k]?.map (·.fId)).getD 0
def prevName (l : List MEntry) (k : Nat) : ByteArray := match k with | 0 => ByteArray.empty | k + 1 => (l[k]?.map (·.fName)).getD ByteArray.empty
def idsTo (l : List MEntry) (k : Nat) : List Int := (l.take k).map (·.fId)
theorem prevId_succ {l : List MInode} {k : Nat} (h : k < l.length) : prevId l (k + 1) = l[k].fId := by simp [prevId, h]
theorem prevName_succ {l : List MEntry} {k : Nat} (h : k < l.length) : prevName l (k + 1) = l[k].fName := by simp [prevName, h]
theorem idsTo_succ {l : List MEntry} {k : Nat} (h : k < l.length) : idsTo l (k + 1) = idsTo l k ++ [l[k].fId] := by
 unfold idsTo
 rw [List.take_succ_eq_append_getElem h, List.map_append]
 rfl
theorem okI_step {next : Int} {l : List MInode} {k : Nat} (h : k < l.length) : okI next (prevId l k) (l.drop k) = (stepI next (prevId l k) l[k] && okI next (prevId l (k + 1)) (l.drop (k + 1))) := by
 rw [List.drop_eq_getElem_cons h, okI, prevId_succ h]
theorem okE_step {ins : List MInode} {l : List MEntry} {k : Nat} (h : k < l.length) : okE ins (idsTo l k) (prevName l k) (l.drop k) = (stepE ins (idsTo l k) (prevName l k) l[k] && okE ins (idsTo l (k + 1)) (prevName l (k + 1)) (l.drop (k + 1))) := by
 rw [List.drop_eq_getElem_cons h, okE, prevName_succ h, idsTo_succ h]
theorem nodup_fit {l m : List Int} (h : l.Nodup) (hs : ∀ x, x ∈ l → x ∈ m) : l.length ≤ m.length := by
 induction l generalizing m with
 | nil => simp
 | cons x r ih =>
  have hn := List.nodup_cons.1 h
  have hx := hs x (by simp)
  have h1 := ih hn.2 (m := m.erase x) (fun y hy => (List.mem_erase_of_ne (fun (e : y = x) => hn.1 (by rw [← e]; exact hy))).2 (hs y (by simp [hy])))
  have h2 := List.length_erase_of_mem hx
  have h3 : 0 < m.length := List.length_pos_of_mem hx
  simp only [List.length_cons]
  omega
theorem okI_lower {next : Int} {l : List MInode} : ∀ {prev : Int}, okI next prev l = true → ∀ n, n ∈ l → prev < n.fId := by
 induction l with
 | nil => intro prev _ n hn; cases hn
 | cons x r ih =>
  intro prev h n hn
  rw [okI, Bool.and_eq_true] at h
  have hx : prev < x.fId := by have := of_decide_eq_true h.1; omega
  rcases List.mem_cons.1 hn with rfl | hn
  ·exact hx
  ·have := ih h.2 n hn; omega
theorem okI_nodup {next : Int} {l : List MInode} : ∀ {prev : Int}, okI next prev l = true → (l.map (·.fId)).Nodup := by
 induction l with
 | nil => intro _ _; simp
 | cons x r ih =>
  intro prev h
  rw [okI, Bool.and_eq_true] at h
  rw [List.map_cons, List.nodup_cons]
  refine ⟨fun hm => ?_, ih h.2⟩
  obtain ⟨y, hy, he⟩ := List.mem_map.1 hm
  have := okI_lower h.2 y hy
  omega
theorem named_mem {l : List MEntry} {id : Int} (h : named l id = true) : id ∈ l.map (·.fId) := by
 unfold named at h
 rw [List.any_eq_true] at h
 obtain ⟨e, he, h2⟩ := h
 exact List.mem_map.2 ⟨e, he, of_decide_eq_true h2⟩
theorem named_fit {d : MDisk} {prev : Int} (h1 : okI d.fNext prev d.fInodes = true) (h2 : d.fInodes.all (isNamed d) = true) : d.fInodes.length ≤ d.fNames.length + d.fSafe.length := by
 have h3 := nodup_fit (okI_nodup h1) (m := d.fNames.map (·.fId) ++ d.fSafe.map (·.fId)) (by
  intro x hx
  obtain ⟨n, hn, rfl⟩ := List.mem_map.1 hx
  have h4 := List.all_eq_true.1 h2 n hn
  unfold isNamed at h4
  rw [Bool.or_eq_true] at h4
  rw [List.mem_append]
  exact h4.imp named_mem named_mem)
 simpa using h3
theorem bl_asymm : ∀ {x y : List UInt8}, Op.bytesLess x y = true → Op.bytesLess y x = false
 | _, [], h => by simp [Op.bytesLess] at h
 | [], _ :: _, _ => by simp [Op.bytesLess]
 | a :: x, b :: y, h => by
  simp only [Op.bytesLess, Bool.or_eq_true, Bool.and_eq_true, decide_eq_true_eq, beq_iff_eq, Bool.or_eq_false_iff, Bool.and_eq_false_iff, decide_eq_false_iff_not, beq_eq_false_iff_ne] at h ⊢
  rcases h with h | ⟨rfl, h⟩
  ·exact ⟨fun h2 => absurd (UInt8.lt_trans h h2) (UInt8.lt_irrefl _), .inl (fun e => by subst e; exact UInt8.lt_irrefl _ h)⟩
  ·exact ⟨UInt8.lt_irrefl _, .inr (bl_asymm h)⟩
theorem bl_irrefl (x : List UInt8) : Op.bytesLess x x = false := by
 cases h : Op.bytesLess x x with
 | false => rfl
 | true => have := bl_asymm h; rw [h] at this; cases this
theorem bl_total : ∀ {x y : List UInt8}, Op.bytesLess x y = false → x ≠ y → Op.bytesLess y x = true
 | [], [], _, hn => absurd rfl hn
 | _ :: _, [], _, _ => by simp [Op.bytesLess]
 | [], _ :: _, h, _ => by simp [Op.bytesLess] at h
 | a :: x, b :: y, h, hn => by
  simp only [Op.bytesLess, Bool.or_eq_true, Bool.and_eq_true, decide_eq_true_eq, beq_iff_eq, Bool.or_eq_false_iff, Bool.and_eq_false_iff, decide_eq_false_iff_not, beq_eq_false_iff_ne] at h ⊢
  by_cases hab : a = b
  ·subst hab
   right
   refine ⟨rfl, bl_total ?_ (fun e => hn (by rw [e]))⟩
   rcases h.2 with h2 | h2
   ·exact absurd rfl h2
   ·exact h2
  ·left
   rcases UInt8.lt_or_lt_of_ne hab with h1 | h1
   ·exact absurd h1 h.1
   ·exact h1
theorem strLt_facts {a b : ByteArray} (h : strLt a b = true) : Op.bytesLess a.toList b.toList = true ∧ Op.bytesLess b.toList a.toList = false ∧ (b.toList == a.toList) = false := by
 refine ⟨h, bl_asymm h, ?_⟩
 rw [beq_eq_false_iff_ne]
 intro e
 have h2 : Op.bytesLess a.toList b.toList = true := h
 rw [e, bl_irrefl] at h2
 cases h2
theorem strLt_not {a b : ByteArray} (h : strLt a b = false) : Op.bytesLess b.toList a.toList = true ∨ (b.toList == a.toList) = true := by
 by_cases e : a.toList = b.toList
 ·right; rw [beq_iff_eq]; exact e.symm
 ·left; exact bl_total h e
theorem toList_length' (s : ByteArray) : s.toList.length = s.size := by
 rw [ByteArray.toList_eq]
 simp
theorem empty_lt {s : ByteArray} (h : 1 ≤ s.size) : strLt ByteArray.empty s = true := by
 unfold strLt
 have hl : 1 ≤ s.toList.length := by rw [toList_length']; exact h
 match hs : s.toList, hl with
 | x :: r, _ =>
  rw [show ByteArray.empty.toList = [] from by rw [ByteArray.toList_eq]; rfl]
  rfl
theorem nameOk_pos {s : ByteArray} (h : nameOk s = true) : 1 ≤ s.size := by
 unfold nameOk at h
 rw [Bool.and_eq_true] at h
 exact (of_decide_eq_true h.1).1
theorem in_ids {l : List MEntry} {k j : Nat} {id : Int} (hj : j < l.length) (hjk : j < k) (he : l[j].fId = id) : (idsTo l k).contains id = true := by
 unfold idsTo
 rw [List.contains_iff_mem]
 refine List.mem_map.2 ⟨l[j], ?_, he⟩
 rw [List.mem_iff_getElem]
 exact ⟨j, by simp; omega, by simp⟩
theorem notin_ids {l : List MEntry} {k : Nat} {id : Int} (h : ∀ j, (hj : j < l.length) → j < k → l[j].fId ≠ id) : (idsTo l k).contains id = false := by
 unfold idsTo
 rw [Bool.eq_false_iff]
 intro hc
 rw [List.contains_iff_mem] at hc
 obtain ⟨e, he, hi⟩ := List.mem_map.1 hc
 obtain ⟨j, hj, rfl⟩ := List.mem_iff_getElem.1 he
 simp at hj
 rw [List.getElem_take] at hi
 exact h j (by omega) (by omega) hi
theorem bl_trans : ∀ {x y z : List UInt8}, Op.bytesLess x y = true → Op.bytesLess y z = true → Op.bytesLess x z = true
 | _, [], _, h, _ => by simp [Op.bytesLess] at h
 | _, _ :: _, [], _, h => by simp [Op.bytesLess] at h
 | [], _ :: _, _ :: _, _, _ => by simp [Op.bytesLess]
 | a :: x, b :: y, c :: z, h1, h2 => by
  simp only [Op.bytesLess, Bool.or_eq_true, Bool.and_eq_true, decide_eq_true_eq, beq_iff_eq] at h1 h2 ⊢
  rcases h1 with h1 | ⟨rfl, h1⟩
  ·rcases h2 with h2 | ⟨rfl, h2⟩
   ·exact .inl (UInt8.lt_trans h1 h2)
   ·exact .inl h1
  ·rcases h2 with h2 | ⟨rfl, h2⟩
   ·exact .inl h2
   ·exact .inr ⟨rfl, bl_trans h1 h2⟩
theorem strLt_trans {a b c : ByteArray} (h1 : strLt a b = true) (h2 : strLt b c = true) : strLt a c = true := bl_trans h1 h2
theorem str_eq {a b : ByteArray} : (a.toList == b.toList) = true ↔ a = b := by
 rw [beq_iff_eq, ByteArray.toList_eq, ByteArray.toList_eq]
 constructor
 ·intro h
  cases a; cases b
  simpa using Array.toList_inj.1 h
 ·intro h; rw [h]
theorem str_ne {a b : ByteArray} (h : a ≠ b) : (a.toList == b.toList) = false := by
 rw [Bool.eq_false_iff]
 exact fun e => h (str_eq.1 e)
theorem str_same {a b : ByteArray} (h : a = b) : (a.toList == b.toList) = true := str_eq.2 h
def hasName (l : List MEntry) (s : ByteArray) : Bool := l.any fun e => decide (e.fName = s)
def nameAt (l : List MEntry) (s : ByteArray) : Nat := l.findIdx fun e => decide (e.fName = s)
def nameZ (l : List MEntry) (s : ByteArray) : Int := if hasName l s then (nameAt l s : Int) else -1
def idOf (l : List MEntry) (s : ByteArray) : Int := ((l[nameAt l s]?).map (·.fId)).getD 0
theorem hasName_yes {l : List MEntry} {s : ByteArray} {k : Nat} (h : k < l.length) (he : l[k].fName = s) : hasName l s = true := by
 unfold hasName
 rw [List.any_eq_true]
 exact ⟨l[k], List.getElem_mem h, by simp [he]⟩
theorem hasName_no {l : List MEntry} {s : ByteArray} (h : ∀ k, (hk : k < l.length) → l[k].fName ≠ s) : hasName l s = false := by
 unfold hasName
 rw [List.any_eq_false]
 intro e he
 obtain ⟨k, hk, rfl⟩ := List.mem_iff_getElem.1 he
 simp [h k hk]
theorem nameAt_is {l : List MEntry} {s : ByteArray} {k : Nat} (h : k < l.length) (he : l[k].fName = s) (hn : ∀ j, (hj : j < l.length) → j < k → l[j].fName ≠ s) : nameAt l s = k := by
 unfold nameAt
 rw [List.findIdx_eq h]
 exact ⟨decide_eq_true he, fun j hj => by simp [hn j (by omega) hj]⟩
theorem nameZ_at {l : List MEntry} {s : ByteArray} {k : Nat} (h : k < l.length) (he : l[k].fName = s) (hn : ∀ j, (hj : j < l.length) → j < k → l[j].fName ≠ s) : nameZ l s = k := by
 unfold nameZ
 rw [hasName_yes h he, if_pos rfl, nameAt_is h he hn]
theorem nameZ_no {l : List MEntry} {s : ByteArray} (hn : ∀ j, (hj : j < l.length) → l[j].fName ≠ s) : nameZ l s = -1 := by
 unfold nameZ
 rw [hasName_no hn]
 rfl
theorem hasName_at {l : List MEntry} {s : ByteArray} (h : hasName l s = true) : ∃ hk : nameAt l s < l.length, l[nameAt l s].fName = s := by
 unfold hasName at h
 rw [List.any_eq_true] at h
 obtain ⟨e, he, h2⟩ := h
 have hk : nameAt l s < l.length := List.findIdx_lt_length_of_exists ⟨e, he, h2⟩
 exact ⟨hk, of_decide_eq_true (List.findIdx_getElem (w := hk))⟩
def callP (m : MDisk) (s : ByteArray) : Int := if diskOk m && nameOk s then (if hasName m.fNames s then 0 else 2) else 1
theorem okE_has {ins : List MInode} : ∀ {l : List MEntry} {seen : List Int} {prev : ByteArray}, okE ins seen prev l = true → ∀ e, e ∈ l → hasId ins e.fId = true
 | [], _, _, _, e, he => by cases he
 | x :: r, seen, prev, h, e, he => by
  rw [okE, Bool.and_eq_true] at h
  rcases List.mem_cons.1 he with rfl | he
  ·have h1 := h.1
   unfold stepE at h1
   simp only [Bool.and_eq_true] at h1
   exact h1.1.1.1
  ·exact okE_has h.2 e he
theorem diskOk_parts {m : MDisk} (h : diskOk m = true) : okI m.fNext 0 m.fInodes = true ∧ okE m.fInodes [] ByteArray.empty m.fNames = true ∧ okE m.fInodes [] ByteArray.empty m.fSafe = true := by
 unfold diskOk at h
 simp only [Bool.and_eq_true] at h
 exact ⟨h.1.1.1.1.1.1.2, h.1.1.1.2, h.1.2⟩
theorem file_there {m : MDisk} {s : ByteArray} (h : diskOk m = true) (hn : hasName m.fNames s = true) : ∃ hk : nameAt m.fNames s < m.fNames.length, idOf m.fNames s = m.fNames[nameAt m.fNames s].fId ∧ hasId m.fInodes (idOf m.fNames s) = true := by
 obtain ⟨hk, he⟩ := hasName_at hn
 have hid : idOf m.fNames s = m.fNames[nameAt m.fNames s].fId := by unfold idOf; rw [List.getElem?_eq_getElem hk]; rfl
 exact ⟨hk, hid, by rw [hid]; exact okE_has (diskOk_parts h).2.1 _ (List.getElem_mem hk)⟩
theorem hasId_at {l : List MInode} {id : Int} (h : hasId l id = true) : ∃ hk : placeOf l id < l.length, l[placeOf l id].fId = id := by
 unfold hasId at h
 rw [List.any_eq_true] at h
 obtain ⟨e, he, h2⟩ := h
 have hk : placeOf l id < l.length := List.findIdx_lt_length_of_exists ⟨e, he, h2⟩
 exact ⟨hk, of_decide_eq_true (List.findIdx_getElem (w := hk))⟩
end Go.Proofs.YtomlpobbhioflaaGreatDoor
