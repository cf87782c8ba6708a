/-
  Part 2 of the texts that the proof leans on.
-/
import Derived.Test.YtmigamgcmhdncaaDoorStb0
import Derived.Test.YtmigamgcmhdncaaDoorRows
import Derived.Test.YtmigamgcmhdncaaDoorChecked
import Derived.Deep.RegionWith
set_option linter.unusedVariables false
set_option linter.unusedSimpArgs false
set_option maxRecDepth 10000

namespace Go.Proofs.YtmigamgcmhdncaaDoor
open Go.RowKit

/-- Blocks of F alone have turned; new ones may have come. -/
structure Turn (F : List Nat) (w w' : World) : Prop where
  os : w'.os = w.os
  tape : w'.tape = w.tape
  output : w'.output = w.output
  size : w.heap.size ≤ w'.heap.size
  block : ∀ b, b < w.heap.size → b ∉ F → w'.heap[b]? = w.heap[b]?

theorem Turn.refl (F : List Nat) (w : World) : Turn F w w := ⟨rfl, rfl, rfl, Nat.le_refl _, fun _ _ _ => rfl⟩
theorem Turn.trans {F : List Nat} {a b c : World} (h : Turn F a b) (k : Turn F b c) : Turn F a c :=
  ⟨k.os.trans h.os, k.tape.trans h.tape, k.output.trans h.output, Nat.le_trans h.size k.size, fun i hi hF => (k.block i (Nat.lt_of_lt_of_le hi h.size) hF).trans (h.block i hi hF)⟩
theorem Turn.mono {F G : List Nat} {a b : World} (h : Turn F a b) (hF : ∀ k, k ∈ F → k ∈ G) : Turn G a b :=
  ⟨h.os, h.tape, h.output, h.size, fun i hi hG => h.block i hi (fun hk => hG (hF i hk))⟩
theorem Turn.ofBelow {F : List Nat} {a b : World} (h : Below a.heap.size a b) : Turn F a b := ⟨h.os, h.tape, h.output, h.size, fun i hi _ => h.block i hi⟩
theorem Turn.below {F : List Nat} {B : Nat} {a b : World} (h : Turn F a b) (hF : ∀ k, k ∈ F → B ≤ k) (hB : B ≤ a.heap.size) : Below B a b :=
  ⟨h.os, h.tape, h.output, h.size, fun i hi => h.block i (Nat.lt_of_lt_of_le hi hB) (fun hk => by have := hF i hk; omega)⟩
theorem Turn.setCell {F : List Nat} {a b : World} (h : Turn F a b) {p : Addr} (hp : p.block ∈ F) (u : Value) : Turn F a (b.setCell p u) := by
  refine h.trans ⟨?_, ?_, ?_, by simp, fun i hi hF => heap_setCell_other b p i u (fun e => hF (e ▸ hp))⟩
  all_goals
    have hb := (Below.refl 0 b).setCell (p := p) (Nat.zero_le _) u
  · exact hb.os
  · exact hb.tape
  · exact hb.output
theorem Turn.cell {F : List Nat} {w w' : World} (h : Turn F w w') {p : Addr} (hp : p.block < w.heap.size) (hF : p.block ∉ F) : w'.cell? p = w.cell? p := World.cell?_of_block (w := w) (h.block p.block hp hF)

theorem below_same {w w' : World} (h : w' = w) : Below w.heap.size w w' := by subst h; exact Below.refl _ _
theorem bthen {w w1 w2 : World} (h : Below w.heap.size w w1) (hx : Below w1.heap.size w1 w2) : Below w.heap.size w w2 := h.trans (hx.mono h.size)
theorem Turn.under {F : List Nat} {w w1 w2 : World} (h : Below w.heap.size w w1) (hx : Turn F w1 w2) (hF : ∀ k, k ∈ F → w.heap.size ≤ k) : Below w.heap.size w w2 := h.trans (hx.below hF h.size)

/-- A variable's block, cell by cell. -/
def Bx (w : World) (b : Nat) (vs : List Value) : Prop := b < w.heap.size ∧ ∀ i u, vs[i]? = some u → w.cell? ⟨b, i, none⟩ = some u

theorem Bx.new (w : World) (vs : List Value) (t : TypeId) : Bx (w.alloc (.cells vs.toArray t)) w.heap.size vs := by
  refine ⟨by simp, fun i u hu => ?_⟩
  rw [cell_of_row (w.alloc (.cells vs.toArray t)) w.heap.size i vs.toArray t (0, 0) (by show (w.heap.push _)[w.heap.size]? = _; rw [Array.getElem?_push_size])]
  simpa using hu
theorem Bx.alloc {w : World} {b : Nat} {vs : List Value} (h : Bx w b vs) (o : Obj) : Bx (w.alloc o) b vs :=
  ⟨by have := h.1; simp; omega, fun i u hu => by
    have hb := (Below.refl w.heap.size w).alloc (Nat.le_refl _) o
    exact (hb.cell (p := ⟨b, i, none⟩) h.1).trans (h.2 i u hu)⟩
theorem Bx.drewN {w : World} {b : Nat} {vs : List Value} (h : Bx w b vs) (d : Nat) : Bx (w.drewN d) b vs := h
theorem Bx.drew {w : World} {b : Nat} {vs : List Value} (h : Bx w b vs) : Bx w.drew b vs := h
theorem Bx.below {B : Nat} {w w' : World} {b : Nat} {vs : List Value} (h : Bx w b vs) (hb : Below B w w') (hB : b < B) : Bx w' b vs :=
  ⟨Nat.lt_of_lt_of_le h.1 hb.size, fun i u hu => (hb.cell (p := ⟨b, i, none⟩) hB).trans (h.2 i u hu)⟩
theorem Bx.under {w w' : World} {b : Nat} {vs : List Value} (h : Bx w b vs) (hb : Below w.heap.size w w') : Bx w' b vs := h.below hb h.1
theorem Bx.turn {F : List Nat} {w w' : World} {b : Nat} {vs : List Value} (h : Bx w b vs) (ht : Turn F w w') (hF : b ∉ F) : Bx w' b vs :=
  ⟨Nat.lt_of_lt_of_le h.1 ht.size, fun i u hu => (ht.cell (p := ⟨b, i, none⟩) h.1 hF).trans (h.2 i u hu)⟩

/-- The cells of element j. -/
def seg (size : Nat) (cur : Array Value) (j : Nat) : List Value := (cur.toList.drop (j * size)).take size

theorem seg_get {size : Nat} {cur : Array Value} {j i : Nat} (hi : i < size) : (seg size cur j)[i]? = cur[j * size + i]? := by
  unfold seg
  rw [List.getElem?_take, if_pos hi, List.getElem?_drop]
  simp

theorem seg_set {size : Nat} {cur : Array Value} {k i : Nat} (hi : i < size) (u : Value) : seg size (cur.setIfInBounds (k * size + i) u) k = (seg size cur k).set i u := by
  unfold seg
  rw [Array.toList_setIfInBounds]
  apply List.ext_getElem?
  intro j
  simp only [List.getElem?_take, List.getElem?_drop, List.getElem?_set, List.length_take, List.length_drop]
  by_cases hj : j < size
  · by_cases hij : i = j
    · subst hij
      by_cases hb : k * size + i < cur.toList.length
      · have hb' : i < min size (cur.toList.length - k * size) := by omega
        rw [if_pos hj, if_pos rfl, if_pos rfl, if_pos hb, if_pos hb']
      · have hb' : ¬ i < min size (cur.toList.length - k * size) := by omega
        rw [if_pos hj, if_pos rfl, if_pos rfl, if_neg hb, if_neg hb']
    · rw [if_pos hj, if_neg (by omega), if_neg hij, if_pos hj]
  · rw [if_neg hj, if_neg hj]
    split
    · split
      · omega
      · rfl
    · rfl

theorem seg_set_other {size : Nat} {cur : Array Value} {k i j : Nat} (hi : i < size) (hjk : j ≠ k) (u : Value) : seg size (cur.setIfInBounds (k * size + i) u) j = seg size cur j := by
  unfold seg
  rw [Array.toList_setIfInBounds]
  apply List.ext_getElem?
  intro x
  simp only [List.getElem?_take, List.getElem?_drop, List.getElem?_set]
  by_cases hx : x < size
  · rw [if_pos hx, if_pos hx, if_neg]
    intro h
    rcases Nat.lt_or_gt_of_ne hjk with h1 | h1
    · have := Nat.mul_le_mul_right size h1
      rw [Nat.succ_mul] at this
      omega
    · have := Nat.mul_le_mul_right size h1
      rw [Nat.succ_mul] at this
      omega
  · rw [if_neg hx, if_neg hx]

/-- A row of structs of one's own, laid open. -/
structure OwnRow {α : Type} (size : Nat) (e : TypeId) (O : ORep α) (w : World) (g cap : Nat) (l : List α) (cur : Array Value) (Fs : List (List Nat)) : Prop where
  heap : w.heap[g]? = some (.cells cur e (0, 0))
  le : l.length ≤ cap
  max : cap ≤ maxLen
  fit : cur.size = cap * size
  flen : Fs.length = l.length
  each : ∀ j, (h : j < l.length) → O w (seg size cur j) l[j] (Fs.getD j [])
  nodup : (g :: Fs.flatten).Nodup

theorem ownS.open {α : Type} {size : Nat} {e : TypeId} {O : ORep α} {w : World} {v : Value} {l : List α} {F : List Nat} (h : ownS size e O w v l F) (hN : F.Nodup) :
    (v = .slice none 0 0 ∧ l = [] ∧ F = []) ∨ ∃ g cap cur Fs, v = .slice (some ⟨g, 0, none⟩) l.length cap ∧ OwnRow size e O w g cap l cur Fs ∧ F = g :: Fs.flatten := by
  rcases h with h | ⟨g, cap, cur, Fs, h1, h2, h3, h4, h5, h6, h7, rfl⟩
  · exact .inl h
  · exact .inr ⟨g, cap, cur, Fs, h1, ⟨h2, h3, h4, h5, h6, h7, hN⟩, rfl⟩

theorem OwnRow.lt {α : Type} {size : Nat} {e : TypeId} {O : ORep α} {w : World} {g cap : Nat} {l : List α} {cur : Array Value} {Fs : List (List Nat)} (h : OwnRow size e O w g cap l cur Fs) : g < w.heap.size := (Array.getElem?_eq_some_iff.1 h.heap).1

/-- Element k is being edited: the world's row is as it was but for that element, which reads as cs. -/
structure Edit (size : Nat) (e : TypeId) (g k : Nat) (F : List Nat) (cur : Array Value) (w w' : World) (cs : List Value) : Prop where
  row : ∃ cur' : Array Value, w'.heap[g]? = some (.cells cur' e (0, 0)) ∧ cur'.size = cur.size ∧ (∀ j, j ≠ k → seg size cur' j = seg size cur j) ∧ seg size cur' k = cs
  turn : Turn (g :: F) w w'

theorem Edit.start {α : Type} {size : Nat} {e : TypeId} {O : ORep α} {w : World} {g cap : Nat} {l : List α} {cur : Array Value} {Fs : List (List Nat)} (h : OwnRow size e O w g cap l cur Fs) (k : Nat) (F : List Nat) : Edit size e g k F cur w w (seg size cur k) :=
  ⟨⟨cur, h.heap, rfl, fun _ _ => rfl, rfl⟩, Turn.refl _ _⟩

theorem Edit.set {size : Nat} {e : TypeId} {g k : Nat} {F : List Nat} {cur : Array Value} {w w' : World} {cs : List Value} (h : Edit size e g k F cur w w' cs) {i : Nat} (hi : i < size) (u : Value) :
    Edit size e g k F cur w (w'.setCell ⟨g, k * size + i, none⟩ u) (cs.set i u) := by
  obtain ⟨⟨cur', c1, c2, c3, c4⟩, ht⟩ := h
  refine ⟨⟨_, heap_setCell_same w' g _ cur' e u c1, by simpa using c2, fun j hj => ?_, ?_⟩, ht.setCell (by simp) u⟩
  · rw [seg_set_other hi hj]; exact c3 j hj
  · rw [seg_set hi, c4]

theorem Edit.keep {size : Nat} {e : TypeId} {g k : Nat} {F : List Nat} {cur : Array Value} {w w1 w2 : World} {cs : List Value} (h : Edit size e g k F cur w w1 cs) (ht : Turn F w1 w2) (hg : g ∉ F) :
    Edit size e g k F cur w w2 cs := by
  obtain ⟨⟨cur', c1, c2, c3, c4⟩, ht'⟩ := h
  exact ⟨⟨cur', by rw [ht.block g (Array.getElem?_eq_some_iff.1 c1).1 hg]; exact c1, c2, c3, c4⟩, ht'.trans (ht.mono (fun k hk => List.mem_cons_of_mem _ hk))⟩

theorem Edit.cellAt {size : Nat} {e : TypeId} {g k : Nat} {F : List Nat} {cur : Array Value} {w w' : World} {cs : List Value} (h : Edit size e g k F cur w w' cs) {i : Nat} (hi : i < size) {u : Value} (hu : cs[i]? = some u) :
    w'.cell? ⟨g, k * size + i, none⟩ = some u := by
  obtain ⟨⟨cur', c1, c2, c3, c4⟩, _⟩ := h
  rw [cell_of_row w' g _ cur' e (0, 0) c1, ← seg_get hi, c4, hu]

theorem Edit.free {size : Nat} {e : TypeId} {g k : Nat} {F : List Nat} {cur : Array Value} {w w' : World} {cs : List Value} (h : Edit size e g k F cur w w' cs) (j : Nat) :
    w'.frozen? ⟨g, j, none⟩ = false := by
  obtain ⟨⟨cur', c1, c2, c3, c4⟩, _⟩ := h
  exact frozen_of_row w' g j cur' e c1

theorem OwnRow.part {α : Type} {size : Nat} {e : TypeId} {O : ORep α} {w : World} {g cap : Nat} {l : List α} {cur : Array Value} {Fs : List (List Nat)} (h : OwnRow size e O w g cap l cur Fs) {k : Nat} (hk : k < l.length) :
    g ∉ Fs.getD k [] ∧ (Fs.getD k []).Nodup := by
  have hk' : k < Fs.length := by rw [h.flen]; exact hk
  have hn := List.nodup_cons.1 h.nodup
  refine ⟨fun hm => hn.1 (mem_flatten_getD hk' hm), ?_⟩
  rw [List.getD_eq_getElem?_getD, List.getElem?_eq_getElem hk']
  exact (List.pairwise_flatten.1 hn.2).1 _ (List.getElem_mem hk')


structure MDot where
  fR : Int
  fN : Int

def rDot : Rep MDot := fun B w cs m => cs = [.int .i64 m.fR, .int .i64 m.fN] ∧ (Lit.int .i64 m.fR).wf = true ∧ (Lit.int .i64 m.fN).wf = true ∧ True

theorem rDot_good : rDot.Good :=
  ⟨fun ⟨h, h0, h1, _⟩ hb => ⟨h, h0, h1, trivial⟩, fun ⟨h, h0, h1, _⟩ hB => ⟨h, h0, h1, trivial⟩⟩

def oDot : ORep MDot := fun w cs m F => cs = [.int .i64 m.fR, .int .i64 m.fN] ∧ (Lit.int .i64 m.fR).wf = true ∧ (Lit.int .i64 m.fN).wf = true ∧ F = []

theorem oDot_good : oDot.Good rDot 2 := by
  refine ⟨?_, ?_, ?_, ?_⟩
  · rintro w w' cs m F ⟨rfl, h0, h1, rfl⟩ hb
    exact ⟨rfl, h0, h1, rfl⟩
  · rintro w cs m F ⟨rfl, h0, h1, rfl⟩ k hk
    cases hk
  · rintro w cs m F ⟨rfl, h0, h1, rfl⟩
    exact ⟨rfl, h0, h1, trivial⟩
  · rintro w cs m F ⟨rfl, h0, h1, rfl⟩
    rfl

def wDot (m : MDot) : Nat := 0

structure MItem where
  fD : MDot
  fDeps : List MDot

def rItem : Rep MItem := fun B w cs m => ∃ a2 : Option Addr, ∃ c2 : Nat, cs = [.int .i64 m.fD.fR, .int .i64 m.fD.fN, .slice a2 m.fDeps.length c2] ∧ (Lit.int .i64 m.fD.fR).wf = true ∧ (Lit.int .i64 m.fD.fN).wf = true ∧ LeafL 2 rDot B w a2 c2 m.fDeps ∧ True

theorem rItem_good : rItem.Good :=
  ⟨fun ⟨a2, c2, h, h0, h1, h2, _⟩ hb => ⟨a2, c2, h, h0, h1, h2.below rDot_good hb, trivial⟩, fun ⟨a2, c2, h, h0, h1, h2, _⟩ hB => ⟨a2, c2, h, h0, h1, h2.mono rDot_good hB, trivial⟩⟩

def oItem : ORep MItem := fun w cs m F => ∃ v2 : Value, ∃ F2 : List Nat, cs = [.int .i64 m.fD.fR, .int .i64 m.fD.fN, v2] ∧ (Lit.int .i64 m.fD.fR).wf = true ∧ (Lit.int .i64 m.fD.fN).wf = true ∧ ownS 2 40 oDot w v2 m.fDeps F2 ∧ F = F2 ++ []

theorem oItem_good : oItem.Good rItem 3 := by
  refine ⟨?_, ?_, ?_, ?_⟩
  · rintro w w' cs m F ⟨v2, F2, rfl, h0, h1, h2, rfl⟩ hb
    exact ⟨v2, F2, rfl, h0, h1, ownS.frame oDot_good h2 (fun k hk => hb k (by simp [hk])), rfl⟩
  · rintro w cs m F ⟨v2, F2, rfl, h0, h1, h2, rfl⟩ k hk
    simp only [List.mem_append, List.not_mem_nil, or_false] at hk
    exact ownS.lt oDot_good h2 k hk
  · rintro w cs m F ⟨v2, F2, rfl, h0, h1, h2, rfl⟩
    obtain ⟨a2, c2, rfl, g2⟩ := ownS.read oDot_good h2
    exact ⟨a2, c2, rfl, h0, h1, g2, trivial⟩
  · rintro w cs m F ⟨v2, F2, rfl, h0, h1, h2, rfl⟩
    rfl

def wItem (m : MItem) : Nat := (m.fDeps.length + sumW wDot m.fDeps)

structure MGraph where
  fItems : List MItem

def rGraph : Rep MGraph := fun B w cs m => ∃ a0 : Option Addr, ∃ c0 : Nat, cs = [.slice a0 m.fItems.length c0] ∧ LeafL 3 rItem B w a0 c0 m.fItems ∧ True

theorem rGraph_good : rGraph.Good :=
  ⟨fun ⟨a0, c0, h, h0, _⟩ hb => ⟨a0, c0, h, h0.below rItem_good hb, trivial⟩, fun ⟨a0, c0, h, h0, _⟩ hB => ⟨a0, c0, h, h0.mono rItem_good hB, trivial⟩⟩

def oGraph : ORep MGraph := fun w cs m F => ∃ v0 : Value, ∃ F0 : List Nat, cs = [v0] ∧ ownS 3 52 oItem w v0 m.fItems F0 ∧ F = F0 ++ []

theorem oGraph_good : oGraph.Good rGraph 1 := by
  refine ⟨?_, ?_, ?_, ?_⟩
  · rintro w w' cs m F ⟨v0, F0, rfl, h0, rfl⟩ hb
    exact ⟨v0, F0, rfl, ownS.frame oItem_good h0 (fun k hk => hb k (by simp [hk])), rfl⟩
  · rintro w cs m F ⟨v0, F0, rfl, h0, rfl⟩ k hk
    simp only [List.mem_append, List.not_mem_nil, or_false] at hk
    exact ownS.lt oItem_good h0 k hk
  · rintro w cs m F ⟨v0, F0, rfl, h0, rfl⟩
    obtain ⟨a0, c0, rfl, g0⟩ := ownS.read oItem_good h0
    exact ⟨a0, c0, rfl, g0, trivial⟩
  · rintro w cs m F ⟨v0, F0, rfl, h0, rfl⟩
    rfl

def wGraph (m : MGraph) : Nat := (m.fItems.length + sumW wItem m.fItems)



def inRange (x a b : Int) : Bool := decide (a ≤ x ∧ x ≤ b)
theorem inRange_yes {x a b : Int} (h1 : a ≤ x) (h2 : x ≤ b) : inRange x a b = true := decide_eq_true ⟨h1, h2⟩
theorem inRange_no {x a b : Int} (h : ¬ (a ≤ x ∧ x ≤ b)) : inRange x a b = false := decide_eq_false h

set_option maxHeartbeats 400000 in
theorem l1In_any (x a b : Int) (w : World) :
    Calls Tryd.prog 108 #[.int .i64 x, .int .i64 a, .int .i64 b] w fun e w' => e = .returned (.bool (inRange x a b)) ∧ w' = w := by
  by_cases h1 : a ≤ x
  · by_cases h2 : x ≤ b
    · have HV := Hid.mk (inRange_yes h1 h2)
      go_enter Tryd.func108, Tryd.ntmps108
      go_wp2
      go_ret
      exact ⟨by rw [HV.out]; rfl, rfl⟩
    · have HV := Hid.mk (inRange_no (x := x) (a := a) (b := b) (by omega))
      go_enter Tryd.func108, Tryd.ntmps108
      go_wp2
      go_ret
      exact ⟨by rw [HV.out]; rfl, rfl⟩
  · have HV := Hid.mk (inRange_no (x := x) (a := a) (b := b) (by omega))
    go_enter Tryd.func108, Tryd.ntmps108
    go_wp2
    go_ret
    exact ⟨by rw [HV.out]; rfl, rfl⟩

abbrev q402_40_1_0 : Oper := ⟨some 5, .fieldAddr 40 (.tmp 2) 0, 0, "l08_graph.go:51", #[], none⟩
abbrev q402_40_1_1 : Oper := ⟨some 6, .load 3 (.tmp 5), 3, "l08_graph.go:51", #[⟨0, .data⟩], none⟩
abbrev q402_40_1_2 : Oper := ⟨some 7, .fieldAddr 40 (.tmp 3) 0, 0, "l08_graph.go:51", #[], none⟩
abbrev q402_40_1_3 : Oper := ⟨some 8, .load 3 (.tmp 7), 3, "l08_graph.go:51", #[⟨2, .data⟩], none⟩
abbrev q402_40_1_5 : Oper := ⟨some 10, .fieldAddr 40 (.tmp 2) 1, 0, "l08_graph.go:51", #[], none⟩
abbrev q402_40_1_6 : Oper := ⟨some 11, .load 3 (.tmp 10), 3, "l08_graph.go:51", #[⟨5, .data⟩], none⟩
abbrev q402_40_1_7 : Oper := ⟨some 12, .fieldAddr 40 (.tmp 3) 1, 0, "l08_graph.go:51", #[], none⟩
abbrev q402_40_1_8 : Oper := ⟨some 13, .load 3 (.tmp 12), 3, "l08_graph.go:51", #[⟨7, .data⟩], none⟩
abbrev q402_40_1_4 : Oper := ⟨some 9, .call { callee := .value (.func 72), args := #[.tmp 6, .tmp 8], argTypes := #[3, 3] }, 3, "l08_graph.go:51", #[⟨1, .data⟩, ⟨3, .data⟩], none⟩
abbrev q402_40_1_9 : Oper := ⟨some 14, .call { callee := .value (.func 72), args := #[.tmp 11, .tmp 13], argTypes := #[3, 3] }, 3, "l08_graph.go:51", #[⟨6, .data⟩, ⟨8, .data⟩, ⟨4, .chain⟩], none⟩
abbrev q402_40_1_10 : Oper := ⟨some 15, .buildSlice 117 2 #[(0, .tmp 9), (1, .tmp 14)], 117, "l08_graph.go:51", #[⟨4, .data⟩, ⟨9, .data⟩], none⟩
abbrev q402_40_1_11 : Oper := ⟨some 16, .call { callee := .value (.func 71), args := #[.tmp 15], argTypes := #[117] }, 3, "l08_graph.go:51", #[⟨10, .data⟩, ⟨9, .chain⟩], none⟩
abbrev q402_40_1_12 : Oper := ⟨some 4, .assign (.tmp 16), 3, "l08_graph.go:51", #[⟨11, .data⟩, ⟨11, .chain⟩, ⟨0, .phase⟩, ⟨1, .phase⟩, ⟨2, .phase⟩, ⟨3, .phase⟩, ⟨4, .phase⟩, ⟨5, .phase⟩, ⟨6, .phase⟩, ⟨7, .phase⟩, ⟨8, .phase⟩, ⟨9, .phase⟩, ⟨10, .phase⟩, ⟨11, .phase⟩], none⟩

def dotOkP (m : MDot) : Bool := inRange m.fR 1 7 && inRange m.fN 1 999
def ordI (a b : Int) : Int := if a < b then -1 else if b < a then 1 else 0
def orI (x y : Int) : Int := if x ≠ 0 then x else y
def ordD (a b : MDot) : Int := orI (ordI a.fR b.fR) (ordI a.fN b.fN)
def dotLt (a b : MDot) : Bool := decide (a.fR < b.fR ∨ (a.fR = b.fR ∧ a.fN < b.fN))
theorem ordI_lt {a b : Int} (h : a < b) : ordI a b = -1 := by unfold ordI; rw [if_pos h]
theorem ordI_gt {a b : Int} (h : b < a) : ordI a b = 1 := by unfold ordI; rw [if_neg (by omega), if_pos h]
theorem ordI_eq {a b : Int} (h : a = b) : ordI a b = 0 := by unfold ordI; rw [if_neg (by omega), if_neg (by omega)]
theorem ordI_wf (a b : Int) : (Lit.int .i64 (ordI a b)).wf = true := by unfold ordI; split; rfl; split <;> rfl
theorem ordD_lt (a b : MDot) : (ordD a b < 0) ↔ dotLt a b = true := by
  unfold ordD dotLt orI
  rcases Int.lt_trichotomy a.fR b.fR with h | h | h
  · rw [ordI_lt h]; simp [h]
  · rw [ordI_eq h]
    rcases Int.lt_trichotomy a.fN b.fN with g | g | g
    · rw [ordI_lt g]; simp [h, g]
    · rw [ordI_eq g]; simp [h, g]
    · rw [ordI_gt g]; simp [h]; omega
  · rw [ordI_gt h]; simp; omega

set_option maxHeartbeats 400000 in
theorem isNaN_any (x : Int) (w : World) :
    Calls Tryd.prog 102 #[.int .i64 x] w fun e w' => e = .returned (.bool false) ∧ w' = w := by
  go_enter Tryd.func102, Tryd.ntmps102
  go_wp2
  go_ret
  exact ⟨rfl, rfl⟩

set_option maxHeartbeats 1000000 in
theorem cmpI_any (x y : Int) (w : World) :
    Calls Tryd.prog 72 #[.int .i64 x, .int .i64 y] w fun e w' => e = .returned (.int .i64 (ordI x y)) ∧ w' = w := by
  rcases Int.lt_trichotomy x y with h | h | h
  · have HV := Hid.mk (ordI_lt h)
    go_enter Tryd.func72, Tryd.ntmps72
    go_wp2_with fail
    refine (isNaN_any x w).mono ?_
    rintro e w1 ⟨rfl, rfl⟩
    go_wp2_with fail
    refine (isNaN_any y w1).mono ?_
    rintro e w2 ⟨rfl, rfl⟩
    go_wp2_with fail
    go_ret
    exact ⟨by rw [HV.out]; rfl, rfl⟩
  · have HV := Hid.mk (ordI_eq h)
    have h1 : ¬ x < y := by omega
    have h2 : ¬ y < x := by omega
    clear h
    go_enter Tryd.func72, Tryd.ntmps72
    go_wp2_with fail
    refine (isNaN_any x w).mono ?_
    rintro e w1 ⟨rfl, rfl⟩
    go_wp2_with fail
    refine (isNaN_any y w1).mono ?_
    rintro e w2 ⟨rfl, rfl⟩
    go_wp2_with fail
    go_ret
    exact ⟨by rw [HV.out]; rfl, rfl⟩
  · have HV := Hid.mk (ordI_gt h)
    have h1 : ¬ x < y := by omega
    go_enter Tryd.func72, Tryd.ntmps72
    go_wp2_with fail
    refine (isNaN_any x w).mono ?_
    rintro e w1 ⟨rfl, rfl⟩
    go_wp2_with fail
    refine (isNaN_any y w1).mono ?_
    rintro e w2 ⟨rfl, rfl⟩
    go_wp2_with fail
    go_ret
    exact ⟨by rw [HV.out]; rfl, rfl⟩

set_option maxHeartbeats 1000000 in
theorem cmpOr_any (x y : Int) (b : Nat) (w : World) (hx : (Lit.int .i64 x).wf = true) (hy : (Lit.int .i64 y).wf = true) (k0 : w.cell? ⟨b, 0, none⟩ = some (.int .i64 x)) (k1 : w.cell? ⟨b, 1, none⟩ = some (.int .i64 y)) :
    Calls Tryd.prog 71 #[.slice (some ⟨b, 0, none⟩) 2 2] w fun e w' => e = .returned (.int .i64 (orI x y)) ∧ w' = w := by
  have HV : Hid (∀ z, (x ≠ 0 → z = x) → (x = 0 → z = y) → z = orI x y) := fun z h1 h2 => by
    unfold orI
    by_cases h : x = 0
    · rw [if_neg (fun g => g h)]; exact h2 h
    · rw [if_pos h]; exact h1 h
  generalize orI x y = r at *
  go_enter Tryd.func71, Tryd.ntmps71
  go_wp2_with fail
  go_loopw [8] (fun i wr => ∃ k : Nat, k ≤ 2 ∧ i = .int .i64 k ∧ (1 ≤ k → x = 0) ∧ (2 ≤ k → y = 0) ∧ wr = w) (fun i _ => 2 - (intOf i).toNat)
  case atStart => exact ⟨0, by omega, rfl, by omega, by omega, rfl⟩
  case round =>
    obtain ⟨k, hk, rfl, h1, h2, rfl⟩ := hrel
    rcases (by omega : k = 0 ∨ k = 1 ∨ k = 2) with rfl | rfl | rfl
    · by_cases hz : x = 0
      · subst hz
        go_wp2_with fail
        go_roundw
        case rel => exact ⟨1, by omega, by go_num, fun _ => by trivial, by omega, by trivial⟩
        case measure => simp [intOf]
      · have HR := Hid.mk (HV.out x (fun _ => rfl) (fun g => absurd g hz))
        go_wp2_with fail
        go_ret
        exact ⟨by rw [← HR.out]; rfl, rfl⟩
    · have hx0 := h1 (Nat.le_refl _)
      subst hx0
      by_cases hz : y = 0
      · subst hz
        go_wp2_with fail
        go_roundw
        case rel => exact ⟨2, by omega, by go_num, fun _ => by trivial, fun _ => by trivial, by trivial⟩
        case measure => simp [intOf]
      · have HR := Hid.mk (HV.out y (fun g => absurd rfl g) (fun _ => rfl))
        go_wp2_with fail
        go_ret
        exact ⟨by rw [← HR.out]; rfl, rfl⟩
    · have hx0 := h1 (by omega)
      have hy0 := h2 (Nat.le_refl _)
      subst hx0 hy0
      have HR := Hid.mk (HV.out 0 (fun _ => rfl) (fun _ => rfl))
      go_wp2_with fail
      go_ret
      exact ⟨by rw [← HR.out]; rfl, rfl⟩

set_option maxHeartbeats 1000000 in
theorem dotOrder_any (cs ds : List Value) (a b : MDot) (w : World) (hra : rDot w.heap.size w cs a) (hrb : rDot w.heap.size w ds b) :
    Calls Tryd.prog 40 #[.agg cs.toArray, .agg ds.toArray] w fun e w' => e = .returned (.int .i64 (ordD a b)) ∧ Below w.heap.size w w' := by
  obtain ⟨rfl, ha0, ha1, _⟩ := hra
  obtain ⟨rfl, hb0, hb1, _⟩ := hrb
  have HV : Hid (ordD a b = orI (ordI a.fR b.fR) (ordI a.fN b.fN)) := rfl
  go_enter Tryd.func40, Tryd.ntmps40
  go_wp2_with fail
  obtain ⟨wq, hwq⟩ : ∃ wq, wq = (w.alloc (.cells #[.int .i64 a.fR, .int .i64 a.fN] 40)).alloc (.cells #[.int .i64 b.fR, .int .i64 b.fN] 40) := ⟨_, rfl⟩
  have hbW : Below w.heap.size w wq := by rw [hwq]; exact ((Below.refl _ _).alloc (Nat.le_refl _) _).alloc (by simp) _
  have hbx1 : Bx wq w.heap.size [.int .i64 a.fR, .int .i64 a.fN] := by rw [hwq]; exact (Bx.new _ _ _).under ((Below.refl _ _).alloc (Nat.le_refl _) _)
  have hbx2 : Bx wq (w.heap.size + 1) [.int .i64 b.fR, .int .i64 b.fN] := by rw [hwq]; have h := Bx.new (w.alloc (.cells #[.int .i64 a.fR, .int .i64 a.fN] 40)) [.int .i64 b.fR, .int .i64 b.fN] 40; simpa using h
  rw [← hwq]
  clear hwq
  have y0 : ∀ W, Below wq.heap.size wq W → W.cell? ⟨w.heap.size, 0, none⟩ = some (.int .i64 a.fR) := fun W h => (hbx1.under h).2 0 _ rfl
  have y1 : ∀ W, Below wq.heap.size wq W → W.cell? ⟨w.heap.size, 1, none⟩ = some (.int .i64 a.fN) := fun W h => (hbx1.under h).2 1 _ rfl
  have z0 : ∀ W, Below wq.heap.size wq W → W.cell? ⟨w.heap.size + 1, 0, none⟩ = some (.int .i64 b.fR) := fun W h => (hbx2.under h).2 0 _ rfl
  have z1 : ∀ W, Below wq.heap.size wq W → W.cell? ⟨w.heap.size + 1, 1, none⟩ = some (.int .i64 b.fN) := fun W h => (hbx2.under h).2 1 _ rfl
  refine wp_region_held_drew (S := fun W => Below wq.heap.size wq W) (by kernel_rfl) (Below.drew (Below.refl _ _)) (fun hHeld => ?_)
  refine tk 0 q402_40_1_0 (some 5) (v := ?v1) rfl rfl (by kernel_rfl) hHeld (by rfl) (fun _ _ _ x => x) (fun w h => ?y1) ?_; (case y1 => (try dsimp only at h); go_simp; try (with_reducible rfl)); try simp only [Act.put, sa, s0, s1]
  refine tk 1 q402_40_1_1 (some 6) (v := ?v2) rfl rfl (by kernel_rfl) hHeld (by rfl) (fun _ _ _ x => x) (fun w h => ?y2) ?_; (case y2 => (try dsimp only at h); go_simp; try (with_reducible rfl)); try simp only [Act.put, sa, s0, s1]
  refine tk 2 q402_40_1_2 (some 7) (v := ?v3) rfl rfl (by kernel_rfl) hHeld (by rfl) (fun _ _ _ x => x) (fun w h => ?y3) ?_; (case y3 => (try dsimp only at h); go_simp; try (with_reducible rfl)); try simp only [Act.put, sa, s0, s1]
  refine tk 3 q402_40_1_3 (some 8) (v := ?v4) rfl rfl (by kernel_rfl) hHeld (by rfl) (fun _ _ _ x => x) (fun w h => ?y4) ?_; (case y4 => (try dsimp only at h); go_simp; try (with_reducible rfl)); try simp only [Act.put, sa, s0, s1]
  refine tk 5 q402_40_1_5 (some 10) (v := ?v5) rfl rfl (by kernel_rfl) hHeld (by rfl) (fun _ _ _ x => x) (fun w h => ?y5) ?_; (case y5 => (try dsimp only at h); go_simp; try (with_reducible rfl)); try simp only [Act.put, sa, s0, s1]
  refine tk 6 q402_40_1_6 (some 11) (v := ?v6) rfl rfl (by kernel_rfl) hHeld (by rfl) (fun _ _ _ x => x) (fun w h => ?y6) ?_; (case y6 => (try dsimp only at h); go_simp; try (with_reducible rfl)); try simp only [Act.put, sa, s0, s1]
  refine tk 7 q402_40_1_7 (some 12) (v := ?v7) rfl rfl (by kernel_rfl) hHeld (by rfl) (fun _ _ _ x => x) (fun w h => ?y7) ?_; (case y7 => (try dsimp only at h); go_simp; try (with_reducible rfl)); try simp only [Act.put, sa, s0, s1]
  refine tk 8 q402_40_1_8 (some 13) (v := ?v8) rfl rfl (by kernel_rfl) hHeld (by rfl) (fun _ _ _ x => x) (fun w h => ?y8) ?_; (case y8 => (try dsimp only at h); go_simp; try (with_reducible rfl)); try simp only [Act.put, sa, s0, s1]
  refine wpAnyH_ready (rs := [4]) (by kernel_rfl) (by simp) ?_
  refine AllReadyH.cons (o := q402_40_1_4) rfl (fun K hK => ?_) AllReadyH.nil
  go_simp
  refine Calls.mono (cmpI_any _ _ _) ?_
  rintro e w1 ⟨rfl, hw1⟩
  have hx1 := below_same hw1
  clear hw1
  go_wp2_with fail
  refine hK.out _ _ (bthen hHeld hx1) (fun hHeld => ?_)
  clear hK K
  try simp only [Act.put, sa, s0, s1]
  refine wpAnyH_ready (rs := [9]) (by kernel_rfl) (by simp) ?_
  refine AllReadyH.cons (o := q402_40_1_9) rfl (fun K hK => ?_) AllReadyH.nil
  go_simp
  refine Calls.mono (cmpI_any _ _ _) ?_
  rintro e w2 ⟨rfl, hw2⟩
  have hx2 := below_same hw2
  clear hw2
  go_wp2_with fail
  refine hK.out _ _ (bthen hHeld hx2) (fun hHeld => ?_)
  clear hK K
  try simp only [Act.put, sa, s0, s1]
  refine wpAnyH_ready (rs := [10]) (by kernel_rfl) (by simp) ?_
  refine AllReadyH.cons (o := q402_40_1_10) rfl (fun K hK => ?_) AllReadyH.nil
  go_simp
  obtain ⟨w5, hq5⟩ : ∃ x, x = w2.alloc (.cells (List.toArray [Value.int .i64 (ordI a.fR b.fR), Value.int .i64 (ordI a.fN b.fN)]) 3) := ⟨_, rfl⟩
  have hx3 : Below w2.heap.size w2 w5 := by rw [hq5]; exact (Below.refl _ _).alloc (Nat.le_refl _) _
  have HB5 : Hid (Bx w5 w2.heap.size [.int .i64 (ordI a.fR b.fR), .int .i64 (ordI a.fN b.fN)]) := by unfold Hid; rw [hq5]; exact Bx.new _ _ _
  rw [← hq5]
  clear hq5
  refine hK.out _ _ (bthen hHeld hx3) (fun hHeld => ?_)
  clear hK K
  try simp only [Act.put, sa, s0, s1]
  refine wpAnyH_ready (rs := [11]) (by kernel_rfl) (by simp) ?_
  refine AllReadyH.cons (o := q402_40_1_11) rfl (fun K hK => ?_) AllReadyH.nil
  go_simp
  refine Calls.mono (cmpOr_any (ordI a.fR b.fR) (ordI a.fN b.fN) w2.heap.size _ (ordI_wf _ _) (ordI_wf _ _) (HB5.out.2 0 _ rfl) (HB5.out.2 1 _ rfl)) ?_
  rintro e w4 ⟨rfl, hw4⟩
  have hx4 := below_same hw4
  clear hw4
  rw [← HV.out]
  go_wp2_with fail
  refine hK.out _ _ (bthen hHeld hx4) (fun hHeld => ?_)
  clear hK K
  try simp only [Act.put, sa, s0, s1]
  refine tk 12 q402_40_1_12 (some 4) (v := ?v9) rfl rfl (by kernel_rfl) hHeld (by rfl) (fun _ _ _ x => x) (fun w h => ?y9) ?_; (case y9 => (try dsimp only at h); go_simp; try (with_reducible rfl)); try simp only [Act.put, sa, s0, s1]
  refine wpAnyH_done (by kernel_rfl) ?_ _
  have hb4 := bthen hbW hHeld
  go_wp2_with fail
  go_ret
  exact ⟨rfl, hb4⟩

set_option maxHeartbeats 1000000 in
theorem implDotLess_any (cs ds : List Value) (a b : MDot) (w : World) (hra : rDot w.heap.size w cs a) (hrb : rDot w.heap.size w ds b) :
    Calls Tryd.prog 27 #[.agg cs.toArray, .agg ds.toArray] w fun e w' => e = .returned (.bool (dotLt a b)) ∧ Below w.heap.size w w' := by
  obtain ⟨rfl, ha0, ha1, _⟩ := hra
  obtain ⟨rfl, hb0, hb1, _⟩ := hrb
  have HV : Hid (decide (ordD a b < 0) = dotLt a b) := by
    show _ = _
    by_cases h : dotLt a b = true
    · rw [h]; exact decide_eq_true ((ordD_lt a b).2 h)
    · rw [Bool.eq_false_iff.2 h]; exact decide_eq_false (fun g => h ((ordD_lt a b).1 g))
  go_enter Tryd.func27, Tryd.ntmps27
  go_wp2_with fail
  obtain ⟨wq, hwq⟩ : ∃ wq, wq = (w.alloc (.cells #[.int .i64 a.fR, .int .i64 a.fN] 40)).alloc (.cells #[.int .i64 b.fR, .int .i64 b.fN] 40) := ⟨_, rfl⟩
  have hbW : Below w.heap.size w wq := by rw [hwq]; exact ((Below.refl _ _).alloc (Nat.le_refl _) _).alloc (by simp) _
  rw [← hwq]
  clear hwq
  refine (dotOrder_any [.int .i64 a.fR, .int .i64 a.fN] [.int .i64 b.fR, .int .i64 b.fN] a b wq ⟨rfl, ha0, ha1, trivial⟩ ⟨rfl, hb0, hb1, trivial⟩).mono ?_
  rintro e w1 ⟨rfl, hx1⟩
  have hb1 := bthen hbW hx1
  generalize ordD a b = z at *
  go_wp2_with fail
  go_ret
  exact ⟨by rw [← HV.out]; rfl, hb1⟩

set_option maxHeartbeats 1000000 in
theorem specDotLess_any (cs ds : List Value) (a b : MDot) (w : World) (hra : rDot w.heap.size w cs a) (hrb : rDot w.heap.size w ds b) :
    Calls Tryd.prog 63 #[.agg cs.toArray, .agg ds.toArray] w fun e w' => e = .returned (.bool (dotLt a b)) ∧ Below w.heap.size w w' := by
  obtain ⟨rfl, ha0, ha1, _⟩ := hra
  obtain ⟨rfl, hb0, hb1, _⟩ := hrb
  have hbA : ∀ o1 o2, Below w.heap.size w ((w.alloc o1).alloc o2) := fun o1 o2 => ((Below.refl _ _).alloc (Nat.le_refl _) o1).alloc (by simp) o2
  have HV : Hid (dotLt a b = (decide (a.fR < b.fR) || (decide (a.fR = b.fR) && decide (a.fN < b.fN)))) := by
    show _ = _
    unfold dotLt
    by_cases h1 : a.fR < b.fR <;> by_cases h2 : a.fR = b.fR <;> by_cases h3 : a.fN < b.fN <;> simp [h1, h2, h3]
  by_cases h1 : a.fR < b.fR
  · have HW : Hid (dotLt a b = true) := by show _ = _; rw [HV.out, decide_eq_true h1]; rfl
    go_enter Tryd.func63, Tryd.ntmps63
    go_wp2_with fail
    go_ret
    exact ⟨by rw [HW.out]; rfl, hbA _ _⟩
  · by_cases h2 : a.fR = b.fR
    · by_cases h3 : a.fN < b.fN
      · have HW : Hid (dotLt a b = true) := by show _ = _; rw [HV.out, decide_eq_false h1, decide_eq_true h2, decide_eq_true h3]; rfl
        go_enter Tryd.func63, Tryd.ntmps63
        go_wp2_with fail
        go_ret
        exact ⟨by rw [HW.out]; rfl, hbA _ _⟩
      · have HW : Hid (dotLt a b = false) := by show _ = _; rw [HV.out, decide_eq_false h1, decide_eq_true h2, decide_eq_false h3]; rfl
        go_enter Tryd.func63, Tryd.ntmps63
        go_wp2_with fail
        go_ret
        exact ⟨by rw [HW.out]; rfl, hbA _ _⟩
    · have HW : Hid (dotLt a b = false) := by show _ = _; rw [HV.out, decide_eq_false h1, decide_eq_false h2]; rfl
      go_enter Tryd.func63, Tryd.ntmps63
      go_wp2_with fail
      go_ret
      exact ⟨by rw [HW.out]; rfl, hbA _ _⟩

set_option maxHeartbeats 1000000 in
theorem specDotOk_any (cs : List Value) (a : MDot) (w : World) (hra : rDot w.heap.size w cs a) :
    Calls Tryd.prog 87 #[.agg cs.toArray] w fun e w' => e = .returned (.bool (dotOkP a)) ∧ Below w.heap.size w w' := by
  obtain ⟨rfl, ha0, ha1, _⟩ := hra
  have hbA : ∀ o1, Below w.heap.size w (w.alloc o1) := fun o1 => (Below.refl _ _).alloc (Nat.le_refl _) o1
  have HV : Hid (dotOkP a = (inRange a.fR 1 7 && inRange a.fN 1 999)) := rfl
  go_enter Tryd.func87, Tryd.ntmps87
  go_wp2_with fail
  refine (l1In_any _ _ _ _).mono ?_
  rintro e w1 ⟨rfl, hw1⟩
  cases h1 : inRange a.fR 1 7
  · have HW : Hid (dotOkP a = false) := by show _ = _; rw [HV.out, h1]; rfl
    subst hw1
    go_wp2_with fail
    go_ret
    exact ⟨by rw [HW.out]; rfl, hbA _⟩
  · have HW : Hid (dotOkP a = inRange a.fN 1 999) := by show _ = _; rw [HV.out, h1]; rfl
    subst hw1
    go_wp2_with fail
    refine (l1In_any _ _ _ _).mono ?_
    rintro e w2 ⟨rfl, hw2⟩
    subst hw2
    rw [← HW.out]
    go_wp2_with fail
    go_ret
    exact ⟨rfl, hbA _⟩

set_option maxHeartbeats 1000000 in
theorem implDotOk_any (cs : List Value) (a : MDot) (w : World) (hra : rDot w.heap.size w cs a) :
    Calls Tryd.prog 80 #[.agg cs.toArray] w fun e w' => e = .returned (.bool (dotOkP a)) ∧ Below w.heap.size w w' := by
  obtain ⟨rfl, ha0, ha1, _⟩ := hra
  have hbA : ∀ o1, Below w.heap.size w (w.alloc o1) := fun o1 => (Below.refl _ _).alloc (Nat.le_refl _) o1
  have HV : Hid (dotOkP a = (decide (1 ≤ a.fR) && decide (a.fR ≤ 7) && decide (1 ≤ a.fN) && decide (a.fN ≤ 999))) := by
    show _ = _
    unfold dotOkP inRange
    by_cases h1 : 1 ≤ a.fR <;> by_cases h2 : a.fR ≤ 7 <;> by_cases h3 : 1 ≤ a.fN <;> by_cases h4 : a.fN ≤ 999 <;> simp [h1, h2, h3, h4]
  by_cases h1 : 1 ≤ a.fR
  · by_cases h2 : a.fR ≤ 7
    · by_cases h3 : 1 ≤ a.fN
      · by_cases h4 : a.fN ≤ 999
        · have HW : Hid (dotOkP a = true) := by show _ = _; rw [HV.out, decide_eq_true h1, decide_eq_true h2, decide_eq_true h3, decide_eq_true h4]; rfl
          go_enter Tryd.func80, Tryd.ntmps80
          go_wp2_with fail
          go_ret
          exact ⟨by rw [HW.out]; rfl, hbA _⟩
        · have HW : Hid (dotOkP a = false) := by show _ = _; rw [HV.out, decide_eq_false h4, Bool.and_false]
          go_enter Tryd.func80, Tryd.ntmps80
          go_wp2_with fail
          go_ret
          exact ⟨by rw [HW.out]; rfl, hbA _⟩
      · have HW : Hid (dotOkP a = false) := by show _ = _; rw [HV.out, decide_eq_false h3, Bool.and_false]; rfl
        go_enter Tryd.func80, Tryd.ntmps80
        go_wp2_with fail
        go_ret
        exact ⟨by rw [HW.out]; rfl, hbA _⟩
    · have HW : Hid (dotOkP a = false) := by show _ = _; rw [HV.out, decide_eq_false h2, Bool.and_false]; rfl
      go_enter Tryd.func80, Tryd.ntmps80
      go_wp2_with fail
      go_ret
      exact ⟨by rw [HW.out]; rfl, hbA _⟩
  · have HW : Hid (dotOkP a = false) := by show _ = _; rw [HV.out, decide_eq_false h1]; rfl
    go_enter Tryd.func80, Tryd.ntmps80
    go_wp2_with fail
    go_ret
    exact ⟨by rw [HW.out]; rfl, hbA _⟩


/-- Whether the k-th of a list is right, and behind the one ahead of it. -/
def stepOk {α : Type} (f : α → Bool) (lt : α → α → Bool) (l : List α) (k : Nat) : Bool :=
  match l[k]? with
  | none => true
  | some x => f x && (match k with | 0 => true | j + 1 => (match l[j]? with | none => true | some y => lt y x))
def upOk {α : Type} (f : α → Bool) (lt : α → α → Bool) (l : List α) : Bool := (List.range l.length).all (stepOk f lt l)

theorem stepOk_bad {α : Type} {f : α → Bool} {lt : α → α → Bool} {l : List α} {k : Nat} (hk : k < l.length) (h : f l[k] = false) : stepOk f lt l k = false := by
  unfold stepOk; rw [List.getElem?_eq_getElem hk]; simp only [h, Bool.false_and]
theorem stepOk_zero {α : Type} {f : α → Bool} {lt : α → α → Bool} {l : List α} (hk : 0 < l.length) (h : f l[0] = true) : stepOk f lt l 0 = true := by
  unfold stepOk; rw [List.getElem?_eq_getElem hk]; simp only [h, Bool.true_and]
theorem stepOk_succ {α : Type} {f : α → Bool} {lt : α → α → Bool} {l : List α} {j : Nat} (hj : j < l.length) (hk : j + 1 < l.length) (h : f l[j + 1] = true) : stepOk f lt l (j + 1) = lt l[j] l[j + 1] := by
  unfold stepOk; rw [List.getElem?_eq_getElem hk]; simp only [h, Bool.true_and, List.getElem?_eq_getElem hj]
theorem upOk_no {α : Type} {f : α → Bool} {lt : α → α → Bool} {l : List α} {k : Nat} (hk : k < l.length) (h : stepOk f lt l k = false) : upOk f lt l = false := by
  unfold upOk; rw [List.all_eq_false]; exact ⟨k, List.mem_range.2 hk, by rw [h]; decide⟩
theorem upOk_yes {α : Type} {f : α → Bool} {lt : α → α → Bool} {l : List α} (h : ∀ j, j < l.length → stepOk f lt l j = true) : upOk f lt l = true := by
  unfold upOk; rw [List.all_eq_true]; exact fun j hj => h j (List.mem_range.1 hj)
theorem all_next {p : Nat → Prop} {k : Nat} (h : ∀ j, j < k → p j) (hk : p k) : ∀ j, j < k + 1 → p j := fun j hj => by
  rcases Nat.lt_succ_iff_lt_or_eq.1 hj with g | g
  · exact h j g
  · rw [g]; exact hk

def sameD (a b : MDot) : Bool := decide (a.fR = b.fR ∧ a.fN = b.fN)
def hasD (l : List MDot) (d : MDot) : Bool := l.any (fun e => sameD e d)
theorem hasD_yes {l : List MDot} {d : MDot} {k : Nat} (hk : k < l.length) (h : sameD l[k] d = true) : hasD l d = true := by
  unfold hasD; rw [List.any_eq_true]; exact ⟨l[k], List.getElem_mem hk, h⟩
theorem hasD_no {l : List MDot} {d : MDot} (h : ∀ j, (hj : j < l.length) → sameD l[j] d = false) : hasD l d = false := by
  unfold hasD; rw [List.any_eq_false]
  intro x hx
  obtain ⟨j, hj, rfl⟩ := List.mem_iff_getElem.1 hx
  rw [h j hj]; decide

def depsP (l : List MDot) : Bool := decide (l.length ≤ 60) && upOk dotOkP dotLt l
def itemP (m : MItem) : Bool := dotOkP m.fD && depsP m.fDeps && !hasD m.fDeps m.fD
def itemLt (a b : MItem) : Bool := dotLt a.fD b.fD
def graphP (m : MGraph) : Bool := decide (m.fItems.length ≤ 100) && upOk itemP itemLt m.fItems

end Go.Proofs.YtmigamgcmhdncaaDoor
