/-
  Part 2 of the texts that the proof leans on.
-/
import Derived.Test.YtocgbeoglgkibaaDoorTbp0
import Derived.Test.YtocgbeoglgkibaaDoorRows
import Derived.Maps.AppendAt
import Derived.Laws.CopyOwn
import Derived.Test.YtocgbeoglgkibaaDoorChecked
import Derived.Deep.RegionWith
set_option linter.unusedVariables false
set_option linter.unusedSimpArgs false
set_option maxRecDepth 10000

namespace Go.Proofs.YtocgbeoglgkibaaDoor
open Go.RowKit

/-- Blocks of F alone have turned; new ones may have come. -/
structure Turn (F : List Nat) (w w' : World) : Prop where
  os : w'.os = w.os
  tape : w'.tape = w.tape
  output : w'.output = w.output
  size : w.heap.size ≤ w'.heap.size
  block : ∀ b, b < w.heap.size → b ∉ F → w'.heap[b]? = w.heap[b]?

theorem Turn.refl (F : List Nat) (w : World) : Turn F w w := ⟨rfl, rfl, rfl, Nat.le_refl _, fun _ _ _ => rfl⟩
theorem Turn.trans {F : List Nat} {a b c : World} (h : Turn F a b) (k : Turn F b c) : Turn F a c :=
  ⟨k.os.trans h.os, k.tape.trans h.tape, k.output.trans h.output, Nat.le_trans h.size k.size, fun i hi hF => (k.block i (Nat.lt_of_lt_of_le hi h.size) hF).trans (h.block i hi hF)⟩
theorem Turn.mono {F G : List Nat} {a b : World} (h : Turn F a b) (hF : ∀ k, k ∈ F → k ∈ G) : Turn G a b :=
  ⟨h.os, h.tape, h.output, h.size, fun i hi hG => h.block i hi (fun hk => hG (hF i hk))⟩
theorem Turn.ofBelow {F : List Nat} {a b : World} (h : Below a.heap.size a b) : Turn F a b := ⟨h.os, h.tape, h.output, h.size, fun i hi _ => h.block i hi⟩
theorem Turn.below {F : List Nat} {B : Nat} {a b : World} (h : Turn F a b) (hF : ∀ k, k ∈ F → B ≤ k) (hB : B ≤ a.heap.size) : Below B a b :=
  ⟨h.os, h.tape, h.output, h.size, fun i hi => h.block i (Nat.lt_of_lt_of_le hi hB) (fun hk => by have := hF i hk; omega)⟩
theorem Turn.setCell {F : List Nat} {a b : World} (h : Turn F a b) {p : Addr} (hp : p.block ∈ F) (u : Value) : Turn F a (b.setCell p u) := by
  refine h.trans ⟨?_, ?_, ?_, by simp, fun i hi hF => heap_setCell_other b p i u (fun e => hF (e ▸ hp))⟩
  all_goals
    have hb := (Below.refl 0 b).setCell (p := p) (Nat.zero_le _) u
  · exact hb.os
  · exact hb.tape
  · exact hb.output
theorem Turn.ofGrown {F : List Nat} {a b : World} {r : Option Nat} (h : a.grownBy b r) (hr : ∀ k, r = some k → k ∈ F) : Turn F a b :=
  ⟨h.os, h.tape, h.output, h.size, fun i hi hF => h.block i hi (fun e => hF (hr i e.symm))⟩

theorem Turn.cell {F : List Nat} {w w' : World} (h : Turn F w w') {p : Addr} (hp : p.block < w.heap.size) (hF : p.block ∉ F) : w'.cell? p = w.cell? p := World.cell?_of_block (w := w) (h.block p.block hp hF)

theorem below_same {w w' : World} (h : w' = w) : Below w.heap.size w w' := by subst h; exact Below.refl _ _
theorem bthen {w w1 w2 : World} (h : Below w.heap.size w w1) (hx : Below w1.heap.size w1 w2) : Below w.heap.size w w2 := h.trans (hx.mono h.size)
theorem Turn.after {F : List Nat} {w w1 w2 : World} (h : Below w.heap.size w w1) (hx : Turn F w1 w2) : Turn F w w2 := (Turn.ofBelow h).trans hx
theorem Turn.under {F : List Nat} {w w1 w2 : World} (h : Below w.heap.size w w1) (hx : Turn F w1 w2) (hF : ∀ k, k ∈ F → w.heap.size ≤ k) : Below w.heap.size w w2 := h.trans (hx.below hF h.size)

theorem turnOwn {a b : World} {r : Option Nat} (h : a.grownBy b r) : Turn r.toList a b := Turn.ofGrown h (fun k hk => by simp [hk])

/-- A variable's block, cell by cell. -/
def Bx (w : World) (b : Nat) (vs : List Value) : Prop := b < w.heap.size ∧ ∀ i u, vs[i]? = some u → w.cell? ⟨b, i, none⟩ = some u

theorem Bx.new (w : World) (vs : List Value) (t : TypeId) : Bx (w.alloc (.cells vs.toArray t)) w.heap.size vs := by
  refine ⟨by simp, fun i u hu => ?_⟩
  rw [cell_of_row (w.alloc (.cells vs.toArray t)) w.heap.size i vs.toArray t (0, 0) (by show (w.heap.push _)[w.heap.size]? = _; rw [Array.getElem?_push_size])]
  simpa using hu
theorem Bx.alloc {w : World} {b : Nat} {vs : List Value} (h : Bx w b vs) (o : Obj) : Bx (w.alloc o) b vs :=
  ⟨by have := h.1; simp; omega, fun i u hu => by
    have hb := (Below.refl w.heap.size w).alloc (Nat.le_refl _) o
    exact (hb.cell (p := ⟨b, i, none⟩) h.1).trans (h.2 i u hu)⟩
theorem Bx.drewN {w : World} {b : Nat} {vs : List Value} (h : Bx w b vs) (d : Nat) : Bx (w.drewN d) b vs := h
theorem Bx.drew {w : World} {b : Nat} {vs : List Value} (h : Bx w b vs) : Bx w.drew b vs := h
theorem Bx.below {B : Nat} {w w' : World} {b : Nat} {vs : List Value} (h : Bx w b vs) (hb : Below B w w') (hB : b < B) : Bx w' b vs :=
  ⟨Nat.lt_of_lt_of_le h.1 hb.size, fun i u hu => (hb.cell (p := ⟨b, i, none⟩) hB).trans (h.2 i u hu)⟩
theorem Bx.under {w w' : World} {b : Nat} {vs : List Value} (h : Bx w b vs) (hb : Below w.heap.size w w') : Bx w' b vs := h.below hb h.1
theorem Bx.turn {F : List Nat} {w w' : World} {b : Nat} {vs : List Value} (h : Bx w b vs) (ht : Turn F w w') (hF : b ∉ F) : Bx w' b vs :=
  ⟨Nat.lt_of_lt_of_le h.1 ht.size, fun i u hu => (ht.cell (p := ⟨b, i, none⟩) h.1 hF).trans (h.2 i u hu)⟩

/-- The cells of element j. -/
def seg (size : Nat) (cur : Array Value) (j : Nat) : List Value := (cur.toList.drop (j * size)).take size

theorem seg_get {size : Nat} {cur : Array Value} {j i : Nat} (hi : i < size) : (seg size cur j)[i]? = cur[j * size + i]? := by
  unfold seg
  rw [List.getElem?_take, if_pos hi, List.getElem?_drop]
  simp

theorem seg_set {size : Nat} {cur : Array Value} {k i : Nat} (hi : i < size) (u : Value) : seg size (cur.setIfInBounds (k * size + i) u) k = (seg size cur k).set i u := by
  unfold seg
  rw [Array.toList_setIfInBounds]
  apply List.ext_getElem?
  intro j
  simp only [List.getElem?_take, List.getElem?_drop, List.getElem?_set, List.length_take, List.length_drop]
  by_cases hj : j < size
  · by_cases hij : i = j
    · subst hij
      by_cases hb : k * size + i < cur.toList.length
      · have hb' : i < min size (cur.toList.length - k * size) := by omega
        rw [if_pos hj, if_pos rfl, if_pos rfl, if_pos hb, if_pos hb']
      · have hb' : ¬ i < min size (cur.toList.length - k * size) := by omega
        rw [if_pos hj, if_pos rfl, if_pos rfl, if_neg hb, if_neg hb']
    · rw [if_pos hj, if_neg (by omega), if_neg hij, if_pos hj]
  · rw [if_neg hj, if_neg hj]
    split
    · split
      · omega
      · rfl
    · rfl

theorem seg_set_other {size : Nat} {cur : Array Value} {k i j : Nat} (hi : i < size) (hjk : j ≠ k) (u : Value) : seg size (cur.setIfInBounds (k * size + i) u) j = seg size cur j := by
  unfold seg
  rw [Array.toList_setIfInBounds]
  apply List.ext_getElem?
  intro x
  simp only [List.getElem?_take, List.getElem?_drop, List.getElem?_set]
  by_cases hx : x < size
  · rw [if_pos hx, if_pos hx, if_neg]
    intro h
    rcases Nat.lt_or_gt_of_ne hjk with h1 | h1
    · have := Nat.mul_le_mul_right size h1
      rw [Nat.succ_mul] at this
      omega
    · have := Nat.mul_le_mul_right size h1
      rw [Nat.succ_mul] at this
      omega
  · rw [if_neg hx, if_neg hx]

/-- A row of structs of one's own, laid open. -/
structure OwnRow {α : Type} (size : Nat) (e : TypeId) (O : ORep α) (w : World) (g cap : Nat) (l : List α) (cur : Array Value) (Fs : List (List Nat)) : Prop where
  heap : w.heap[g]? = some (.cells cur e (0, 0))
  le : l.length ≤ cap
  max : cap ≤ maxLen
  fit : cur.size = cap * size
  flen : Fs.length = l.length
  each : ∀ j, (h : j < l.length) → O w (seg size cur j) l[j] (Fs.getD j [])
  nodup : (g :: Fs.flatten).Nodup

theorem ownS.open {α : Type} {size : Nat} {e : TypeId} {O : ORep α} {w : World} {v : Value} {l : List α} {F : List Nat} (h : ownS size e O w v l F) (hN : F.Nodup) :
    (v = .slice none 0 0 ∧ l = [] ∧ F = []) ∨ ∃ g cap cur Fs, v = .slice (some ⟨g, 0, none⟩) l.length cap ∧ OwnRow size e O w g cap l cur Fs ∧ F = g :: Fs.flatten := by
  rcases h with h | ⟨g, cap, cur, Fs, h1, h2, h3, h4, h5, h6, h7, rfl⟩
  · exact .inl h
  · exact .inr ⟨g, cap, cur, Fs, h1, ⟨h2, h3, h4, h5, h6, h7, hN⟩, rfl⟩

theorem OwnRow.shut {α : Type} {size : Nat} {e : TypeId} {O : ORep α} {w : World} {g cap : Nat} {l : List α} {cur : Array Value} {Fs : List (List Nat)} (h : OwnRow size e O w g cap l cur Fs) :
    ownS size e O w (.slice (some ⟨g, 0, none⟩) l.length cap) l (g :: Fs.flatten) :=
  .inr ⟨g, cap, cur, Fs, rfl, h.heap, h.le, h.max, h.fit, h.flen, h.each, rfl⟩

theorem OwnRow.lt {α : Type} {size : Nat} {e : TypeId} {O : ORep α} {w : World} {g cap : Nat} {l : List α} {cur : Array Value} {Fs : List (List Nat)} (h : OwnRow size e O w g cap l cur Fs) : g < w.heap.size := (Array.getElem?_eq_some_iff.1 h.heap).1

/-- Element k is being edited: the world's row is as it was but for that element, which reads as cs. -/
structure Edit (size : Nat) (e : TypeId) (g k : Nat) (F : List Nat) (cur : Array Value) (w w' : World) (cs : List Value) : Prop where
  row : ∃ cur' : Array Value, w'.heap[g]? = some (.cells cur' e (0, 0)) ∧ cur'.size = cur.size ∧ (∀ j, j ≠ k → seg size cur' j = seg size cur j) ∧ seg size cur' k = cs
  turn : Turn (g :: F) w w'

theorem Edit.start {α : Type} {size : Nat} {e : TypeId} {O : ORep α} {w : World} {g cap : Nat} {l : List α} {cur : Array Value} {Fs : List (List Nat)} (h : OwnRow size e O w g cap l cur Fs) (k : Nat) (F : List Nat) : Edit size e g k F cur w w (seg size cur k) :=
  ⟨⟨cur, h.heap, rfl, fun _ _ => rfl, rfl⟩, Turn.refl _ _⟩

theorem Edit.set {size : Nat} {e : TypeId} {g k : Nat} {F : List Nat} {cur : Array Value} {w w' : World} {cs : List Value} (h : Edit size e g k F cur w w' cs) {i : Nat} (hi : i < size) (u : Value) :
    Edit size e g k F cur w (w'.setCell ⟨g, k * size + i, none⟩ u) (cs.set i u) := by
  obtain ⟨⟨cur', c1, c2, c3, c4⟩, ht⟩ := h
  refine ⟨⟨_, heap_setCell_same w' g _ cur' e u c1, by simpa using c2, fun j hj => ?_, ?_⟩, ht.setCell (by simp) u⟩
  · rw [seg_set_other hi hj]; exact c3 j hj
  · rw [seg_set hi, c4]

theorem Edit.keep {size : Nat} {e : TypeId} {g k : Nat} {F : List Nat} {cur : Array Value} {w w1 w2 : World} {cs : List Value} (h : Edit size e g k F cur w w1 cs) (ht : Turn F w1 w2) (hg : g ∉ F) :
    Edit size e g k F cur w w2 cs := by
  obtain ⟨⟨cur', c1, c2, c3, c4⟩, ht'⟩ := h
  exact ⟨⟨cur', by rw [ht.block g (Array.getElem?_eq_some_iff.1 c1).1 hg]; exact c1, c2, c3, c4⟩, ht'.trans (ht.mono (fun k hk => List.mem_cons_of_mem _ hk))⟩

theorem Edit.cellAt {size : Nat} {e : TypeId} {g k : Nat} {F : List Nat} {cur : Array Value} {w w' : World} {cs : List Value} (h : Edit size e g k F cur w w' cs) {i : Nat} (hi : i < size) {u : Value} (hu : cs[i]? = some u) :
    w'.cell? ⟨g, k * size + i, none⟩ = some u := by
  obtain ⟨⟨cur', c1, c2, c3, c4⟩, _⟩ := h
  rw [cell_of_row w' g _ cur' e (0, 0) c1, ← seg_get hi, c4, hu]

theorem Edit.free {size : Nat} {e : TypeId} {g k : Nat} {F : List Nat} {cur : Array Value} {w w' : World} {cs : List Value} (h : Edit size e g k F cur w w' cs) (j : Nat) :
    w'.frozen? ⟨g, j, none⟩ = false := by
  obtain ⟨⟨cur', c1, c2, c3, c4⟩, _⟩ := h
  exact frozen_of_row w' g j cur' e c1

theorem nodup_getD_disj {Fs : List (List Nat)} (h : Fs.flatten.Nodup) {j k : Nat} (hj : j < Fs.length) (hk : k < Fs.length) (hjk : j ≠ k) : ∀ b, b ∈ Fs.getD j [] → b ∉ Fs.getD k [] := by
  intro b hb hb'
  rw [List.getD_eq_getElem?_getD, List.getElem?_eq_getElem hj] at hb
  rw [List.getD_eq_getElem?_getD, List.getElem?_eq_getElem hk] at hb'
  have hp := (List.pairwise_flatten.1 h).2
  have hb : b ∈ Fs[j] := hb
  have hb' : b ∈ Fs[k] := hb'
  rcases Nat.lt_or_gt_of_ne hjk with h1 | h1
  · exact (List.pairwise_iff_getElem.1 hp j k hj hk h1) b hb b hb' rfl
  · exact (List.pairwise_iff_getElem.1 hp k j hk hj h1) b hb' b hb rfl

theorem OwnRow.edit {α : Type} {size : Nat} {e : TypeId} {O : ORep α} {R : Rep α} (hO : O.Good R size) {w w' : World} {g cap k : Nat} {l : List α} {cur : Array Value} {Fs : List (List Nat)} {cs : List Value} {m' : α}
    (h : OwnRow size e O w g cap l cur Fs) (hk : k < l.length) (he : Edit size e g k (Fs.getD k []) cur w w' cs) (ho : O w' cs m' (Fs.getD k [])) :
    (∃ cur', OwnRow size e O w' g cap (l.set k m') cur' Fs) ∧ Turn (g :: Fs.flatten) w w' := by
  obtain ⟨⟨cur', c1, c2, c3, c4⟩, ht⟩ := he
  have hsub : ∀ b, b ∈ g :: Fs.getD k [] → b ∈ g :: Fs.flatten := by
    intro b hb
    rcases List.mem_cons.1 hb with rfl | hb
    · simp
    · exact List.mem_cons_of_mem _ (mem_flatten_getD (by rw [h.flen]; exact hk) hb)
  refine ⟨⟨cur', c1, by simpa using h.le, h.max, by rw [c2, h.fit], by simpa using h.flen, ?_, h.nodup⟩, ht.mono hsub⟩
  intro j hj
  have hj' : j < l.length := by simpa using hj
  by_cases hjk : j = k
  · subst hjk
    rw [c4]
    simpa using ho
  · rw [c3 j hjk, List.getElem_set_ne (fun e => hjk e.symm)]
    refine hO.frame (h.each j hj') (fun b hb => ht.block b (hO.lt (h.each j hj') b hb) ?_)
    intro hm
    have hbf := mem_flatten_getD (by rw [h.flen]; exact hj') hb
    rcases List.mem_cons.1 hm with rfl | hm
    · exact (List.nodup_cons.1 h.nodup).1 hbf
    · exact nodup_getD_disj (List.nodup_cons.1 h.nodup).2 (by rw [h.flen]; exact hj') (by rw [h.flen]; exact hk) hjk b hb hm

theorem OwnRow.part {α : Type} {size : Nat} {e : TypeId} {O : ORep α} {w : World} {g cap : Nat} {l : List α} {cur : Array Value} {Fs : List (List Nat)} (h : OwnRow size e O w g cap l cur Fs) {k : Nat} (hk : k < l.length) :
    g ∉ Fs.getD k [] ∧ (Fs.getD k []).Nodup := by
  have hk' : k < Fs.length := by rw [h.flen]; exact hk
  have hn := List.nodup_cons.1 h.nodup
  refine ⟨fun hm => hn.1 (mem_flatten_getD hk' hm), ?_⟩
  rw [List.getD_eq_getElem?_getD, List.getElem?_eq_getElem hk']
  exact (List.pairwise_flatten.1 hn.2).1 _ (List.getElem_mem hk')

/-- What is left of marks, element behind element: from number q on, up to q'. -/
def hdS {α : Type} (hd : α → Int → Int → Prop) : List α → Int → Int → Prop
  | [], q, q' => q' = q
  | x :: r, q, q' => ∃ q1, hd x q q1 ∧ hdS hd r q1 q'

theorem hdS_snoc {α : Type} {hd : α → Int → Int → Prop} {l : List α} {x : α} {q q1 q2 : Int} (h : hdS hd l q q1) (hx : hd x q1 q2) : hdS hd (l ++ [x]) q q2 := by
  induction l generalizing q with
  | nil => simp only [hdS] at h; subst h; exact ⟨q2, hx, rfl⟩
  | cons y r ih => obtain ⟨q3, h1, h2⟩ := h; exact ⟨q3, h1, ih h2⟩

theorem hdS_end {α : Type} {hd : α → Int → Int → Prop} {cnt : α → Nat} (hc : ∀ m q q', hd m q q' → q' = q + cnt m) {l : List α} {q q' : Int} (h : hdS hd l q q') : q' = q + sumW cnt l := by
  induction l generalizing q with
  | nil => simp only [hdS] at h; subst h; simp [sumW]
  | cons y r ih => obtain ⟨q3, h1, h2⟩ := h; have h3 := hc _ _ _ h1; have h4 := ih h2; simp only [sumW]; omega

theorem sumW_cnt_le {α : Type} {f g : α → Nat} (h : ∀ x, f x ≤ 32 * (1 + g x)) (l : List α) : sumW f l ≤ 32 * (l.length + sumW g l) := by
  induction l with
  | nil => simp [sumW]
  | cons x r ih => have := h x; simp only [sumW, List.length_cons]; omega

/-- Marks in a row of bytes. -/
def hdB (zs : List Int) (q q' : Int) : Prop := zs = marks q zs.length ∧ q' = q + zs.length

theorem set_mid {α : Type} {l l' : List α} {k : Nat} (hl : l'.length = k) (hk : k < l.length) (m' : α) : (l' ++ l.drop k).set k m' = (l' ++ [m']) ++ l.drop (k + 1) := by
  rw [List.set_append_right _ _ (by omega), hl, Nat.sub_self, List.drop_eq_getElem_cons hk, List.set_cons_zero, List.append_assoc]
  rfl

theorem get_mid {α : Type} {l l' : List α} {k : Nat} (hl : l'.length = k) (hk : k < l.length) (h : k < (l' ++ l.drop k).length) : (l' ++ l.drop k)[k] = l[k] := by
  rw [List.getElem_append_right (by omega)]
  simp [hl]


def rdB (B : Nat) (w : World) (v : Value) (zs : List Int) : Prop := ∃ a c, v = .slice a zs.length c ∧ LeafB B w a c zs
theorem rdB.below {B : Nat} {w w' : World} {v : Value} {zs : List Int} (h : rdB B w v zs) (hb : Below B w w') : rdB B w' v zs := by
  obtain ⟨a, c, e, h1⟩ := h
  exact ⟨a, c, e, h1.below hb⟩
theorem rdB.mono {B B' : Nat} {w : World} {v : Value} {zs : List Int} (h : rdB B w v zs) (hB : B ≤ B') : rdB B' w v zs := by
  obtain ⟨a, c, e, h1⟩ := h
  exact ⟨a, c, e, h1.mono hB⟩
theorem rdB_own {e : TypeId} {w : World} {v : Value} {zs : List Int} {F : List Nat} (h : ownB e w v zs F) : rdB w.heap.size w v zs := h.read


theorem markByteS_o (v : Value) (zs : List Int) (F : List Nat) (q : Int) (w : World) (hq : 0 ≤ q) (hq2 : q + zs.length ≤ 70368744177664) (ho : ownB 5 w v zs F) :
    Calls Tryd.prog 9 #[v, .int .i64 q] w fun e w' => e = .returned (.int .i64 (q + zs.length)) ∧ ownB 5 w' v (marks q zs.length) F ∧ Turn F w w' := by
  obtain ⟨a, c, rfl, hc, hcm, hrd, hby⟩ := ho.read
  obtain ⟨h1, h2, rfl⟩ := ho
  refine (markByteS_gen a zs.length c 0 zs q w hq (by omega) (by omega) rfl h1).mono ?_
  rintro e w' ⟨rfl, hown, hg⟩
  refine ⟨rfl, ⟨own_congr hown (marks_length _ _).symm rfl, ?_, rfl⟩, Turn.ofGrown hg (fun k hk => by simp [hk])⟩
  intro z hz
  obtain ⟨j, hj, rfl⟩ := List.mem_iff_getElem.1 hz
  have := marks_getD q zs.length j (by simpa [marks_length] using hj)
  rw [List.getD_eq_getElem?_getD, List.getElem?_eq_getElem hj] at this
  simp only [Option.getD_some] at this
  rw [this]
  omega

theorem eqByteS_yes_r (v1 v2 : Value) (zs : List Int) (w : World) (h1 : rdB w.heap.size w v1 zs) (h2 : rdB w.heap.size w v2 zs) (hsz : zs.length ≤ 1099511627776) :
    Calls Tryd.prog 8 #[v1, v2] w fun e w' => e = .returned (.bool true) ∧ Below w.heap.size w w' := by
  obtain ⟨a, ca, rfl, ha⟩ := h1
  obtain ⟨b, cb, rfl, hb⟩ := h2
  refine (eqByteS_any a b _ _ ca cb zs zs w w.heap.size rfl rfl (by omega) ha.2.2.1 hb.2.2.1).mono ?_
  rintro e w' ⟨rfl, d, rfl⟩
  exact ⟨by simp, below_drewN (Below.refl _ _) d⟩

theorem markByteS_r (v : Value) (zs : List Int) (F : List Nat) (q : Int) (w : World) (hq : 0 ≤ q) (hq2 : q + zs.length ≤ 70368744177664) (ho : ownB 5 w v zs F) (hN : F.Nodup) :
    Calls Tryd.prog 9 #[v, .int .i64 q] w fun e w' => ∃ (m' : List Int) (q' : Int), e = .returned (.int .i64 q') ∧ q ≤ q' ∧ q' ≤ 70368744177664 ∧ ownB 5 w' v m' F ∧ hdB m' q q' ∧ Turn F w w' := by
  refine (markByteS_o v zs F q w hq hq2 ho).mono ?_
  rintro e w' ⟨rfl, h1, h2⟩
  exact ⟨marks q zs.length, _, rfl, by omega, hq2, h1, ⟨by rw [marks_length], by rw [marks_length]⟩, h2⟩



set_option maxHeartbeats 400000 in
theorem toByteS_any (a : Option Addr) (n cap : Nat) (zs : List Int) (w : World) (hn : zs.length = n) (hlen : n ≤ 140737488351232) (hr : Rd .u8 w.heap.size w a zs) :
    Calls Tryd.prog 5 #[.slice a n cap] w fun e w' => e = .returned (.slice (some ⟨w.heap.size, 0, none⟩) n n) ∧
      w'.ownsRow w.heap.size 5 1 (.slice (some ⟨w.heap.size, 0, none⟩) n n) n (zs.map (Value.int .u8)) ∧ Below w.heap.size w w' := by
  obtain ⟨i0, hi, hz0, hz1, hz2⟩ := info_parts Tryd.info5
  have HN : Hid (zs.length = n) := hn
  clear hn
  go_enter Tryd.func5, Tryd.ntmps5
  go_wp2_with (at_make; refine wpList_make_full _ rfl _ _ 22 rfl w.heap.size 5 i0 (.int .u8 0) 1 Tryd.underlying22 hi hz0 hz1 .i64 .i64 _ _ n rfl rfl rfl rfl ?c1 ?c2 (Nat.le_refl _) ?_)
  case c1 => rw [hz2]; omega
  case c2 => unfold maxLen; omega
  intro w1 hown hgr
  have hb1 : Below w.heap.size w w1 := (Below.refl _ _).grown hgr (Nat.le_refl _) (fun k h => by cases h)
  rw [toList_madeCells_one] at hown
  clear hgr hi hz0 hz1 hz2
  go_wp2_with fail
  go_loopw [4] (fun i wr => ∃ k : Nat, k ≤ n ∧ i = .int .i64 k ∧ wr.ownsRow w.heap.size 5 1 (.slice (some ⟨w.heap.size, 0, none⟩) n n) n (((zs.take k).map (Value.int .u8)) ++ List.replicate (n - k) (.int .u8 0)) ∧ Below w.heap.size w wr) (fun i _ => n - (intOf i).toNat)
  case atStart => exact ⟨0, Nat.zero_le _, rfl, by simpa using hown, hb1⟩
  case round =>
    obtain ⟨k, hk, rfl, hownk, hbk⟩ := hrel
    clear hown hb1
    by_cases hlt : k < n
    · obtain ⟨b, off, rfl, hbB, hcell⟩ := hr k (by rw [HN.out]; exact hlt)
      have hc1 : wr.cell? ⟨b, off + k, none⟩ = some (.int .u8 (zs.getD k 0)) := (hbk.cell hbB).trans hcell
      obtain ⟨x, hx⟩ : ∃ x, zs.getD k 0 = x := ⟨_, rfl⟩
      rw [hx] at hc1
      have hc2 : ∃ v, wr.cell? ⟨w.heap.size, k, none⟩ = some v := by rw [hownk.cellAt k (by omega)]; exact ⟨_, List.getElem?_eq_getElem (by simp; have := HN.out; omega)⟩
      obtain ⟨v, hc2⟩ := hc2
      have hf2 := hownk.frozenAt k
      have hst := hownk.stored k (.int .u8 x)
      have HX : Hid (zs.getD k 0 = x) := hx
      clear hx hr hcell hownk
      go_wp2
      go_roundw
      case rel =>
        have hx := HX.out
        subst hx
        refine ⟨k + 1, by omega, by go_num, ?_, hbk.setCell (Nat.le_refl _) _⟩
        rw [← fill_step HN.out hlt]
        exact hst.1
      case measure => simp [intOf]; omega
    · go_wp2
      go_ret
      have hkn : k = n := by omega
      subst hkn
      refine ⟨rfl, ?_, hbk⟩
      have h := hownk
      rw [List.take_of_length_le (by rw [HN.out]; exact Nat.le_refl _)] at h
      simpa using h


theorem toByteS_own (a : Option Addr) (n cap : Nat) (zs : List Int) (w : World) (hx : zs.length = n) (hr : LeafB w.heap.size w a cap zs) (hlen : n ≤ 1048576) :
    Calls Tryd.prog 5 #[.slice a n cap] w fun e w' => ∃ (v : Value) (F : List Nat), e = .returned v ∧ ownB 5 w' v zs F ∧ F.Nodup ∧ (∀ b, b ∈ F → w.heap.size ≤ b) ∧ Below w.heap.size w w' := by
  refine (toByteS_any a n cap zs w hx (by omega) hr.2.2.1).mono ?_
  rintro e w1 ⟨rfl, ho, hb⟩
  refine ⟨_, [w.heap.size], rfl, ⟨own_base (own_congr ho hx.symm rfl) (Nat.zero_le _), hr.2.2.2, rfl⟩, by simp, ?_, hb⟩
  intro b hbm
  simp at hbm
  omega

theorem toByteS_r (v : Value) (zs : List Int) (w : World) (hr : rdB w.heap.size w v zs) (hlen : zs.length ≤ 1048576) :
    Calls Tryd.prog 5 #[v] w fun e w' => ∃ (v : Value) (F : List Nat), e = .returned v ∧ ownB 5 w' v zs F ∧ F.Nodup ∧ (∀ b, b ∈ F → w.heap.size ≤ b) ∧ Below w.heap.size w w' := by
  obtain ⟨a, c, rfl, h1⟩ := hr
  exact toByteS_own a _ c zs w rfl h1 hlen


structure MPair where
  fKey : ByteArray
  fVal : ByteArray
  fGone : Bool

def rPair : Rep MPair := fun B w cs m => cs = [.string m.fKey, .string m.fVal, .bool m.fGone] ∧ m.fKey.size ≤ 9223372036854775807 ∧ m.fVal.size ≤ 9223372036854775807 ∧ True ∧ True

theorem rPair_good : rPair.Good :=
  ⟨fun ⟨h, h0, h1, h2, _⟩ hb => ⟨h, h0, h1, h2, trivial⟩, fun ⟨h, h0, h1, h2, _⟩ hB => ⟨h, h0, h1, h2, trivial⟩⟩

def oPair : ORep MPair := fun w cs m F => cs = [.string m.fKey, .string m.fVal, .bool m.fGone] ∧ m.fKey.size ≤ 9223372036854775807 ∧ m.fVal.size ≤ 9223372036854775807 ∧ True ∧ F = []

theorem oPair_good : oPair.Good rPair 3 := by
  refine ⟨?_, ?_, ?_, ?_⟩
  · rintro w w' cs m F ⟨rfl, h0, h1, h2, rfl⟩ hb
    exact ⟨rfl, h0, h1, h2, rfl⟩
  · rintro w cs m F ⟨rfl, h0, h1, h2, rfl⟩ k hk
    cases hk
  · rintro w cs m F ⟨rfl, h0, h1, h2, rfl⟩
    exact ⟨rfl, h0, h1, h2, trivial⟩
  · rintro w cs m F ⟨rfl, h0, h1, h2, rfl⟩
    rfl

def wPair (m : MPair) : Nat := m.fKey.size + m.fVal.size


theorem flatten_at {size : Nat} : ∀ {css : List (List Value)}, (∀ c, c ∈ css → c.length = size) → ∀ {j i : Nat}, i < size → css.flatten[j * size + i]? = (css[j]?).bind (fun c => c[i]?)
  | [], _, j, i, _ => by simp
  | c :: r, h, 0, i, hi => by
    have hc := h c (by simp)
    simp only [List.flatten_cons, Nat.zero_mul, Nat.zero_add, List.getElem?_cons_zero, Option.bind_some]
    rw [List.getElem?_append_left (by omega)]
  | c :: r, h, j + 1, i, hi => by
    have hc := h c (by simp)
    have ih := flatten_at (css := r) (fun x hx => h x (by simp [hx])) (j := j) hi
    simp only [List.flatten_cons, List.getElem?_cons_succ]
    rw [List.getElem?_append_right (by rw [Nat.succ_mul]; omega), ← ih]
    congr 1
    rw [Nat.succ_mul]
    omega

/-- A row of one's own whose elements read, below block B, as l. -/
def RowR {α : Type} (size : Nat) (e : TypeId) (R : Rep α) (B : Nat) (w : World) (base : Nat) (v : Value) (l : List α) : Prop :=
  ∃ css : List (List Value), css.length = l.length ∧ (∀ c, c ∈ css → c.length = size) ∧ (∀ j, (h : j < l.length) → (h2 : j < css.length) → R B w css[j] l[j]) ∧ w.ownsRow base e size v l.length css.flatten

theorem RowR.start {α : Type} {size : Nat} {e : TypeId} {R : Rep α} {B : Nat} {w : World} {base : Nat} : RowR size e R B w base (.slice none 0 0) [] :=
  ⟨[], rfl, (fun _ h => by cases h), (fun _ h => by simp at h), by simp, .inl ⟨rfl, rfl⟩⟩

theorem RowR.leaf {α : Type} {size : Nat} {e : TypeId} {R : Rep α} (hR : R.Good) {B : Nat} {w : World} {base : Nat} {v : Value} {l : List α} (h : RowR size e R B w base v l) (hB : B ≤ w.heap.size) :
    ∃ a c, v = .slice a l.length c ∧ LeafL size R w.heap.size w a c l := by
  obtain ⟨css, h1, h2, h3, h4⟩ := h
  rcases h4.2 with ⟨rfl, h0⟩ | ⟨g, cap, cur, rfl, hb, hg, hnc, hm, hs, ht⟩
  · have : l = [] := List.eq_nil_of_length_eq_zero h0
    subst this
    exact ⟨none, 0, rfl, by simp, by omega, fun j hj => by simp at hj⟩
  · refine ⟨_, cap, rfl, hnc, by simpa [maxLen] using hm, fun j hj => ?_⟩
    have hj2 : j < css.length := by omega
    refine ⟨g, 0, rfl, (Array.getElem?_eq_some_iff.1 hg).1, css[j], h2 _ (List.getElem_mem hj2), fun i u hu => ?_, hR.mono (h3 j hj hj2) hB⟩
    have hi : i < size := by
      have := (List.getElem?_eq_some_iff.1 hu).1
      rw [h2 _ (List.getElem_mem hj2)] at this
      exact this
    have hf := flatten_at h2 (j := j) hi
    rw [List.getElem?_eq_getElem hj2, Option.bind_some, hu, ← ht, List.getElem?_take] at hf
    split at hf
    · rw [Nat.zero_add, cell_of_row w g _ cur e (0, 0) hg]
      simpa using hf
    · cases hf

theorem RowR.push {α : Type} {size : Nat} {e : TypeId} {R : Rep α} (hR : R.Good) {B : Nat} {w w' : World} {base : Nat} {v' : Value} {l : List α} {m : α} {cs : List Value} {css : List (List Value)}
    (h1 : css.length = l.length) (h2 : ∀ c, c ∈ css → c.length = size) (h3 : ∀ j, (h : j < l.length) → (h2 : j < css.length) → R B w css[j] l[j]) (hb : Below B w w') (hc : cs.length = size) (hr : R B w' cs m)
    (ho : w'.ownsRow base e size v' (l.length + 1) (css.flatten ++ cs)) : RowR size e R B w' base v' (l ++ [m]) := by
  refine ⟨css ++ [cs], by simp [h1], ?_, ?_, by simpa using ho⟩
  · intro c hcm
    rcases List.mem_append.1 hcm with h | h
    · exact h2 c h
    · simp at h; subst h; exact hc
  · intro j hj hj2
    by_cases hjl : j < l.length
    · rw [List.getElem_append_left (by omega), List.getElem_append_left hjl]
      exact hR.below (h3 j hjl (by omega)) hb
    · have hje : j = l.length := by simp at hj; omega
      subst hje
      rw [List.getElem_append_right (by omega), List.getElem_append_right (Nat.le_refl _)]
      simp [h1, hr]

theorem bx_news {w : World} {b : Nat} {vs : List Value} (h : Bx w b vs) : ∀ j u, vs[j]? = some u → w.cell? ((⟨b, 0, none⟩ : Addr).add j) = some u := by
  intro j u hu
  have h2 := h.2 j u hu
  have e : ((⟨b, 0, none⟩ : Addr).add j) = ⟨b, j, none⟩ := by
    unfold Addr.add
    split
    · next h0 => subst h0; rfl
    · simp
  rw [e]
  exact h2

theorem RowR.lt {α : Type} {size : Nat} {e : TypeId} {R : Rep α} {B : Nat} {w : World} {base : Nat} {v : Value} {l : List α} (h : RowR size e R B w base v l) : ∀ k, v.ownBlock = some k → base ≤ k ∧ k < w.heap.size := by
  obtain ⟨css, h1, h2, h3, h4⟩ := h
  exact fun k hk => h4.lt k hk

theorem RowR.base {α : Type} {size : Nat} {e : TypeId} {R : Rep α} {B : Nat} {w : World} {base base' : Nat} {v : Value} {l : List α} (h : RowR size e R B w base v l) (hb : base' ≤ base) : RowR size e R B w base' v l := by
  obtain ⟨css, h1, h2, h3, h4⟩ := h
  exact ⟨css, h1, h2, h3, own_base h4 hb⟩

theorem RowR.keep {α : Type} {size : Nat} {e : TypeId} {R : Rep α} (hR : R.Good) {B : Nat} {w w' : World} {base : Nat} {v : Value} {l : List α} (h : RowR size e R B w base v l) (hb : Below w.heap.size w w') (hB : B ≤ w.heap.size) : RowR size e R B w' base v l := by
  obtain ⟨css, h1, h2, h3, h4⟩ := h
  exact ⟨css, h1, h2, fun j hj hj2 => hR.below (h3 j hj hj2) (hb.mono hB), own_below h4 hb⟩


theorem flatten_nodup_iff : ∀ {Fs : List (List Nat)}, Fs.flatten.Nodup ↔ (∀ F, F ∈ Fs → F.Nodup) ∧ Fs.Pairwise (fun F G => ∀ x, x ∈ F → x ∉ G)
  | [] => by simp
  | F :: r => by
    rw [List.flatten_cons, List.nodup_append, flatten_nodup_iff, List.pairwise_cons]
    constructor
    · rintro ⟨h1, ⟨h2, h3⟩, h4⟩
      refine ⟨?_, fun G hG x hx hxG => h4 x hx x (List.mem_flatten.2 ⟨G, hG, hxG⟩) rfl, h3⟩
      intro G hG
      rcases List.mem_cons.1 hG with rfl | hG
      · exact h1
      · exact h2 G hG
    · rintro ⟨h1, h2, h3⟩
      refine ⟨h1 F (by simp), ⟨fun G hG => h1 G (by simp [hG]), h3⟩, ?_⟩
      intro x hx y hy hxy
      subst hxy
      obtain ⟨G, hG, hxG⟩ := List.mem_flatten.1 hy
      exact h2 G hG x hx hxG

/-- What one element's cells are. -/
theorem ownS.cells {α : Type} {size : Nat} {e : TypeId} {O : ORep α} {R : Rep α} (hO : O.Good R size) {w : World} {g cap : Nat} {l : List α} {F : List Nat} (h : ownS size e O w (.slice (some ⟨g, 0, none⟩) l.length cap) l F) {k : Nat} (hk : k < l.length) :
    ∃ cs Fk, O w cs l[k] Fk ∧ (∀ b, b ∈ Fk → b ∈ F) ∧ (F.Nodup → Fk.Nodup) ∧ (∀ i u, cs[i]? = some u → w.cell? ⟨g, k * size + i, none⟩ = some u) ∧ ∀ i, w.frozen? ⟨g, i, none⟩ = false := by
  rcases h with ⟨h0, _, _⟩ | ⟨g', cap', cur, Fs, h1, h2, h3, h4, h5, h6, h7, rfl⟩
  · cases h0
  · simp only [Value.slice.injEq, Option.some.injEq, Addr.mk.injEq, and_true, true_and] at h1
    obtain ⟨rfl, rfl⟩ := h1
    have hkF : k < Fs.length := by omega
    have hgk : Fs.getD k [] = Fs[k] := by rw [List.getD_eq_getElem?_getD, List.getElem?_eq_getElem hkF]; rfl
    refine ⟨_, _, h7 k hk, fun b hb => List.mem_cons_of_mem _ (mem_flatten_getD hkF hb), fun hN => ?_, fun i u hu => ?_, fun i => frozen_of_row w g i cur e h2⟩
    · rw [hgk]
      exact (flatten_nodup_iff.1 (List.nodup_cons.1 hN).2).1 _ (List.getElem_mem hkF)
    · rw [cell_of_row w g _ cur e (0, 0) h2]
      rw [List.getElem?_take] at hu
      split at hu
      · rw [List.getElem?_drop] at hu
        simpa using hu
      · cases hu


/-- The cells of a list that is read, one behind the other. -/
theorem RdS.cells {α : Type} {size : Nat} {R : Rep α} {B : Nat} {w : World} {b off : Nat} {l : List α} (h : RdS size R B w (some ⟨b, off, none⟩) l) : ∀ k, k ≤ l.length →
    ∃ css : List (List Value), css.length = k ∧ (∀ c, c ∈ css → c.length = size) ∧ (∀ j, (h1 : j < l.length) → (h2 : j < css.length) → R B w css[j] l[j]) ∧ ∀ i u, css.flatten[i]? = some u → w.cell? ⟨b, off + i, none⟩ = some u
  | 0, _ => ⟨[], rfl, (fun _ hc => by cases hc), (fun _ _ h2 => by simp at h2), (fun i u hu => by simp at hu)⟩
  | k + 1, hk => by
    obtain ⟨css, h1, h2, h3, h4⟩ := RdS.cells h k (by omega)
    obtain ⟨b', off', e, _, cs, hc1, hc2, hc3⟩ := h k (by omega)
    simp only [Option.some.injEq, Addr.mk.injEq, and_true] at e
    obtain ⟨rfl, rfl⟩ := e
    have hfl : css.flatten.length = k * size := by
      rw [List.length_flatten]
      have : css.map List.length = List.replicate k size := by
        apply List.ext_getElem
        · simp [h1]
        · intro i hi1 hi2
          simp only [List.getElem_map, List.getElem_replicate]
          exact h2 _ (List.getElem_mem _)
      rw [this]
      simp
    refine ⟨css ++ [cs], by simp [h1], ?_, ?_, ?_⟩
    · intro c hc
      rcases List.mem_append.1 hc with hc | hc
      · exact h2 c hc
      · simp at hc; subst hc; exact hc1
    · intro j hj hj2
      by_cases hjk : j < k
      · rw [List.getElem_append_left (by omega)]
        exact h3 j hj (by omega)
      · have hje : j = k := by simp at hj2; omega
        subst hje
        rw [List.getElem_append_right (by omega)]
        simpa [h1] using hc3
    · intro i u hu
      rw [List.flatten_append] at hu
      by_cases hi : i < k * size
      · rw [List.getElem?_append_left (by omega)] at hu
        exact h4 i u hu
      · rw [List.getElem?_append_right (by omega), hfl] at hu
        have h5 := hc2 (i - k * size) u (by simpa using hu)
        rw [show off + k * size + (i - k * size) = off + i from by omega] at h5
        exact h5

theorem flat_part {size : Nat} {css : List (List Value)} (h : ∀ c, c ∈ css → c.length = size) {j : Nat} (hj : j < css.length) : (css.flatten.drop (j * size)).take size = css[j] := by
  apply List.ext_getElem?
  intro i
  rw [List.getElem?_take, List.getElem?_drop]
  by_cases hi : i < size
  · rw [if_pos hi, flatten_at h hi, List.getElem?_eq_getElem hj, Option.bind_some]
  · rw [if_neg hi, List.getElem?_eq_none (by rw [h _ (List.getElem_mem hj)]; omega)]

theorem flat_len {size : Nat} : ∀ {css : List (List Value)}, (∀ c, c ∈ css → c.length = size) → css.flatten.length = css.length * size
  | [], _ => by simp
  | c :: r, h => by
    rw [List.flatten_cons, List.length_append, h c (by simp), flat_len (fun x hx => h x (by simp [hx])), List.length_cons, Nat.succ_mul]
    omega

section
variable {P : Program} (w : World)

theorem run_append_src_at (base : Nat) (t tx ty e : TypeId) (i : TypeInfo) (z : Value) (size bytes : Nat) (ht : P.underlying t = some (.slice e)) (hi : P.info? e = some i) (hz : i.zero = some z)
    (hsize : i.size = size) (hby : i.bytes = bytes) (hzs : z.cells.size = size)
    (v : Value) (n : Nat) (xs : List Value) (hown : w.ownsRow base e size v n xs) (x : Value) (m : Nat) (news : List Value) (hs : Src P size tx x m news w)
    (h63 : n + m ≤ maxLen) (hbytes : (n + m) * bytes ≤ 140737488355328) (hbase : base ≤ w.heap.size) :
    ∃ v' w', (Builtin.append_ #[t, tx] ty #[v, x]).run P w = .ok v' w' ∧ w'.ownsRow base e size v' (n + m) (xs ++ news) ∧ w.grownBy w' v.ownBlock ∧ (v'.ownBlock = v.ownBlock ∨ v'.ownBlock = some w.heap.size) := by
  subst hsize
  subst hby
  have hl := hs.newsLen
  have hsmall : n + m ≤ 9223372036854775807 := by simp only [maxLen] at h63; omega
  have hlen : (xs ++ news).length = (n + m) * i.size := by rw [List.length_append, hown.1, hl, Nat.add_mul]
  have grown : ∀ (old : Nat), old < n + m → ∀ (row : Option Nat),
      (w.drew.alloc (.cells ((xs ++ news).toArray ++ Builtin.zeroCells z.cells (grownCap w (n + m) old e - (n + m))) e)).ownsRow base e i.size
        (.slice (some ⟨w.heap.size, 0, none⟩) (n + m) (grownCap w (n + m) old e)) (n + m) (xs ++ news) ∧
      w.grownBy (w.drew.alloc (.cells ((xs ++ news).toArray ++ Builtin.zeroCells z.cells (grownCap w (n + m) old e - (n + m))) e)) row := by
    intro old ho row
    have hge := grownCap_ge w (n + m) old e
    have hcm : grownCap w (n + m) old e ≤ maxLen := grownCap_le_maxLen w (n + m) old e h63
    refine ⟨⟨hlen, .inr ⟨w.heap.size, _, _, rfl, hbase, heap_alloc_new w.drew _, hge, hcm, ?_, ?_⟩⟩, ⟨rfl, rfl, rfl, by simp, fun k hk _ => Go.heap_alloc_old w.drew _ hk⟩⟩
    · rw [Array.size_append, List.size_toArray, size_zeroCells, hzs, hlen, ← Nat.add_mul]
      congr 1
      omega
    · rw [Array.toList_append, ← hlen]
      exact List.take_left
  rcases hown.2 with ⟨rfl, rfl⟩ | ⟨g, cap, cur, rfl, hbg, hg, hnc, hcm, hcs, htake⟩
  · have hx : xs = [] := List.eq_nil_of_length_eq_zero (by simpa using hown.1)
    subst hx
    by_cases hm : m = 0
    · subst hm
      have hn : news = [] := List.eq_nil_of_length_eq_zero (by simpa using hl)
      subst hn
      refine ⟨.slice none 0 0, w, ?_, World.ownsRow_nil w base e i.size, World.grownBy.refl _ _, .inl rfl⟩
      rcases hs.kind with ⟨e', hk⟩ | hk <;> simp [Builtin.append_, run_underlying ht, run_underlying hk, sizeOf, typeInfo, hi, hs.len, hs.cells]
    · have hr := run_append_grow_src (P := P) w t tx ty e i z ht hi hz none 0 0 [] (run_firstCells_none w.drew i.size 0 0 0) x m news hs (by omega) (by omega) (growslice_fits (by omega) hbytes)
      have hgr := grown 0 (by omega) (Value.ownBlock (.slice none 0 0))
      exact ⟨_, _, hr, hgr.1, hgr.2, .inr rfl⟩
  · by_cases hroom : n + m ≤ cap
    · have hfit : n * i.size + news.length ≤ cur.size := by rw [hl, hcs, ← Nat.add_mul]; exact Nat.mul_le_mul_right _ hroom
      have hr := run_append_room_src (P := P) w t tx ty e i ht hi g 0 n cap x m news hs hroom
        (fun j hj => by rw [Nat.zero_add, cell_of_row w g _ cur e (0, 0) hg, Array.getElem?_eq_getElem (by omega)]; rfl) (fun j hj => frozen_of_row w g _ cur e hg)
      rw [Nat.zero_add] at hr
      obtain ⟨⟨cur', h2, h3, h4⟩, h5⟩ := setCells_row g e news (n * i.size) w cur hg hfit
      refine ⟨_, _, hr, ⟨hlen, .inr ⟨g, cap, cur', rfl, hbg, h2, hroom, hcm, by rw [h3, hcs], ?_⟩⟩, h5, .inl rfl⟩
      rw [Nat.add_mul, ← hl, h4, htake]
    · have holds : (Builtin.firstCells i.size n (.slice (some ⟨g, 0, none⟩) n cap)).run P w.drew = .ok xs.toArray w.drew :=
        run_firstCells_some w.drew i.size n ⟨g, 0, none⟩ n cap xs hown.1 (by simpa using hown.cells (g := g) rfl)
      have hr := run_append_grow_src (P := P) w t tx ty e i z ht hi hz (some ⟨g, 0, none⟩) n cap xs holds x m news hs (by omega) (by omega) (growslice_fits (by omega) hbytes)
      have hgr := grown cap (by omega) (Value.ownBlock (.slice (some ⟨g, 0, none⟩) n cap))
      exact ⟨_, _, hr, hgr.1, hgr.2, .inr rfl⟩

/-- As one step of a region that draws its order. -/
theorem step_append_src {ops : Array Oper} {o : Oper} {a : Act} {K : Act → World → Prop} {Q : Exit → Act → World → Prop} {E : Prop} (hgd : o.guard = none) (s x : Operand) (t tx : TypeId)
    (ho : o.op = .call { callee := .builtin .append, args := #[s, x], argTypes := #[t, tx] })
    (base : Nat) (e : TypeId) (i : TypeInfo) (z : Value) (size bytes : Nat) (ht : P.underlying t = some (.slice e)) (hi : P.info? e = some i) (hz : i.zero = some z)
    (hsize : i.size = size) (hby : i.bytes = bytes) (hzs : z.cells.size = size)
    (v : Value) (n : Nat) (xs : List Value) (hs : a.eval s = v) (hown : w.ownsRow base e size v n xs)
    (y : Value) (hy : a.eval x = y) (m : Nat) (news : List Value) (hx : Src P size tx y m news w)
    (h63 : n + m ≤ maxLen) (hbytes : (n + m) * bytes ≤ 140737488355328) (hbase : base ≤ w.heap.size)
    (h : ∀ v' w', w'.ownsRow base e size v' (n + m) (xs ++ news) → w.grownBy w' v.ownBlock → (v'.ownBlock = v.ownBlock ∨ v'.ownBlock = some w.heap.size) → K (a.put o.dst v') w') :
    if Region.wanted o (yielded ops a.tmps) = true then Oper.wp P o a w K Q else E := by
  have hw : Region.wanted o (yielded ops a.tmps) = true := by simp [Region.wanted, hgd]
  rw [if_pos hw]
  subst hy
  obtain ⟨v', w', hr, h2, h3, h4⟩ := run_append_src_at (P := P) w base t tx o.type e i z size bytes ht hi hz hsize hby hzs v n xs hown (a.eval x) m news hx h63 hbytes hbase
  unfold Oper.wp execOp
  simp only [ho, resolve, invoke, builtin, Sem.run_bind, Sem.run_pure, Result.andThen_ok, List.map_toArray, List.map_cons, List.map_nil, hs, hr]
  exact h v' w' h2 h3 h4

end

theorem Turn.drew {F : List Nat} {a b : World} (h : Turn F a b) : Turn F a b.drew := h.trans (Turn.ofBelow (Below.drew (Below.refl _ _)))

theorem Turn.alloc {F : List Nat} {a b : World} (h : Turn F a b) (o : Obj) : Turn F a (b.alloc o) := h.trans (Turn.ofBelow (Below.alloc (Below.refl _ _) (Nat.le_refl _) o))

theorem own_slice {w : World} {base e size n : Nat} {v : Value} {xs : List Value} (h : w.ownsRow base e size v n xs) : ∃ a c, v = .slice a n c := by
  rcases h.2 with ⟨rfl, h0⟩ | ⟨g, cap, cur, rfl, _⟩
  · exact ⟨none, 0, by rw [h0]⟩
  · exact ⟨_, cap, rfl⟩

/-- One more element behind a list of one's own. -/
theorem ownS.push {α : Type} {size : Nat} {e : TypeId} {O : ORep α} {R : Rep α} (hO : O.Good R size) {w : World} {v : Value} {l : List α} {F : List Nat} (h : ownS size e O w v l F) (hN : F.Nodup) :
    ∃ xs, w.ownsRow 0 e size v l.length xs ∧ ∀ (w' : World) (v' : Value) (news : List Value) (m' : α) (Fx : List Nat), w'.ownsRow 0 e size v' (l.length + 1) (xs ++ news) → w.grownBy w' v.ownBlock → (v'.ownBlock = v.ownBlock ∨ v'.ownBlock = some w.heap.size) → O w news m' Fx → Fx.Nodup → (∀ b, b ∈ Fx → b ∉ F) →
      ∃ F', ownS size e O w' v' (l ++ [m']) F' ∧ F'.Nodup ∧ ∀ b, b ∈ F' → b ∈ F ∨ b ∈ Fx ∨ b = w.heap.size := by
  have key : ∀ (Fs : List (List Nat)) (xs : List Value), Fs.length = l.length → (∀ j, (h : j < l.length) → O w ((xs.drop (j * size)).take size) l[j] (Fs.getD j [])) → (∀ b, b ∈ Fs.flatten → b ∈ F) → Fs.flatten.Nodup → (∀ k, v.ownBlock = some k → k ∈ F ∧ k ∉ Fs.flatten) → xs.length = l.length * size → 
      ∀ (w' : World) (v' : Value) (news : List Value) (m' : α) (Fx : List Nat), w'.ownsRow 0 e size v' (l.length + 1) (xs ++ news) → w.grownBy w' v.ownBlock → (v'.ownBlock = v.ownBlock ∨ v'.ownBlock = some w.heap.size) → O w news m' Fx → Fx.Nodup → (∀ b, b ∈ Fx → b ∉ F) →
      ∃ F', ownS size e O w' v' (l ++ [m']) F' ∧ F'.Nodup ∧ ∀ b, b ∈ F' → b ∈ F ∨ b ∈ Fx ∨ b = w.heap.size := by
    intro Fs xs f1 f2 f3 f4 f5 hxl w' v' news m' Fx ho hg hat hx hxN hxF
    have hnl := hO.len hx
    have hfr : ∀ b, b < w.heap.size → (∀ k, v.ownBlock = some k → b ≠ k) → w'.heap[b]? = w.heap[b]? := fun b hb hne => hg.block b hb (fun hh => hne b hh.symm rfl)
    have hFlt : ∀ j, (h : j < l.length) → ∀ b, b ∈ Fs.getD j [] → b < w.heap.size := fun j hj b hb => hO.lt (f2 j hj) b hb
    have hFin : ∀ j, (h : j < l.length) → ∀ b, b ∈ Fs.getD j [] → b ∈ Fs.flatten := fun j hj b hb => mem_flatten_getD (by omega) hb
    rcases ho.2 with ⟨_, h0⟩ | ⟨g, cap, cur, rfl, hb, hg', hnc, hm, hs, ht⟩
    · omega
    · have hgb : g ∈ F ∨ g = w.heap.size := by
        rcases hat with h | h
        · exact .inl (f5 g h.symm).1
        · right; simpa [Value.ownBlock] using h
      have hgn : g ∉ (Fs ++ [Fx]).flatten := by
        rw [List.flatten_append, List.mem_append]
        rintro (h | h)
        · rcases hat with h' | h'
          · exact (f5 g h'.symm).2 h
          · have hgw : g = w.heap.size := by simpa [Value.ownBlock] using h'
            obtain ⟨j, hj, hjb⟩ := of_mem_flatten h
            have := hFlt j (by omega) g hjb
            omega
        · have h : g ∈ Fx := by simpa using h
          rcases hgb with h' | h'
          · exact hxF g h h'
          · have := hO.lt hx g h; omega
      refine ⟨g :: (Fs ++ [Fx]).flatten, .inr ⟨g, cap, cur, Fs ++ [Fx], by simp, hg', by simpa using hnc, hm, hs, by simp [f1], ?_, rfl⟩, List.nodup_cons.2 ⟨hgn, ?_⟩, ?_⟩
      · intro j hj
        have hj1 : j ≤ l.length := by simp at hj; omega
        have hpart : ∀ j, j ≤ l.length → (cur.toList.drop (j * size)).take size = ((xs ++ news).drop (j * size)).take size := by
          intro j hj
          rw [← ht]
          have hmul : (j + 1) * size ≤ (l.length + 1) * size := Nat.mul_le_mul_right _ (by omega)
          rw [Nat.succ_mul] at hmul
          apply List.ext_getElem?
          intro i
          rw [List.getElem?_take, List.getElem?_take, List.getElem?_drop, List.getElem?_drop, List.getElem?_take]
          by_cases hi : i < size
          · rw [if_pos hi, if_pos hi, if_pos (by omega)]
          · rw [if_neg hi, if_neg hi]
        by_cases hjl : j < l.length
        · have e1 : ((xs ++ news).drop (j * size)).take size = (xs.drop (j * size)).take size := by
            have hmul : (j + 1) * size ≤ l.length * size := Nat.mul_le_mul_right _ hjl
            rw [Nat.succ_mul] at hmul
            apply List.ext_getElem?
            intro i
            rw [List.getElem?_take, List.getElem?_take, List.getElem?_drop, List.getElem?_drop]
            by_cases hi : i < size
            · rw [if_pos hi, if_pos hi, List.getElem?_append_left (by omega)]
            · rw [if_neg hi, if_neg hi]
          have e2 : (Fs ++ [Fx]).getD j [] = Fs.getD j [] := by rw [List.getD_eq_getElem?_getD, List.getD_eq_getElem?_getD, List.getElem?_append_left (by omega)]
          rw [hpart j hj1, e1, e2, List.getElem_append_left hjl]
          refine hO.frame (f2 j hjl) (fun b hb => hfr b (hFlt j hjl b hb) (fun k hk hbk => ?_))
          subst hbk
          exact (f5 b hk).2 (hFin j hjl b hb)
        · have hje : j = l.length := by omega
          subst hje
          have e1 : ((xs ++ news).drop (l.length * size)).take size = news := by
            rw [← hxl, List.drop_left, List.take_of_length_le (by omega)]
          have e2 : (Fs ++ [Fx]).getD l.length [] = Fx := by rw [List.getD_eq_getElem?_getD, List.getElem?_append_right (by omega), f1, Nat.sub_self]; rfl
          rw [hpart _ hj1, e1, e2]
          have e3 : (l ++ [m'])[l.length] = m' := by simp
          rw [e3]
          refine hO.frame hx (fun b hb => hfr b (hO.lt hx b hb) (fun k hk hbk => ?_))
          subst hbk
          exact hxF b hb (f5 b hk).1
      · rw [List.flatten_append]
        refine List.nodup_append.2 ⟨f4, by simpa using hxN, ?_⟩
        intro a ha b hb' hab
        subst hab
        exact hxF a (by simpa using hb') (f3 a ha)
      · intro b hb
        rcases List.mem_cons.1 hb with rfl | hb
        · rcases hgb with h | h
          · exact .inl h
          · exact .inr (.inr h)
        · rw [List.flatten_append, List.mem_append] at hb
          rcases hb with hb | hb
          · exact .inl (f3 b hb)
          · exact .inr (.inl (by simpa using hb))
  rcases h with ⟨rfl, rfl, rfl⟩ | ⟨g, cap, cur, Fs, rfl, h2, h3, h4, h5, h6, h7, rfl⟩
  · exact ⟨[], World.ownsRow_nil w 0 e size, key [] [] rfl (fun j hj => by simp at hj) (fun b hb => by simp at hb) (by simp) (fun k hk => by simp [Value.ownBlock] at hk) (by simp)⟩
  · rw [List.nodup_cons] at hN
    have hcl : cur.toList.length = cap * size := by simpa using h5
    have hle : l.length * size ≤ cap * size := Nat.mul_le_mul_right _ h3
    refine ⟨cur.toList.take (l.length * size), ⟨by rw [List.length_take]; omega, .inr ⟨g, cap, cur, rfl, Nat.zero_le _, h2, h3, h4, h5, rfl⟩⟩, key Fs _ h6 ?_ (fun b hb => List.mem_cons_of_mem _ hb) hN.2 (fun k hk => by simp [Value.ownBlock] at hk; subst hk; exact ⟨by simp, hN.1⟩) (by rw [List.length_take]; omega)⟩
    intro j hj
    have hmul : (j + 1) * size ≤ l.length * size := Nat.mul_le_mul_right _ hj
    rw [Nat.succ_mul] at hmul
    have e1 : ((cur.toList.take (l.length * size)).drop (j * size)).take size = (cur.toList.drop (j * size)).take size := by
      apply List.ext_getElem?
      intro i
      rw [List.getElem?_take, List.getElem?_take, List.getElem?_drop, List.getElem?_drop, List.getElem?_take]
      by_cases hi : i < size
      · rw [if_pos hi, if_pos hi, if_pos (by omega)]
      · rw [if_neg hi, if_neg hi]
    rw [e1]
    exact h7 j hj

def Bw (w : World) (b : Nat) (t : TypeId) (vs : List Value) : Prop := w.heap[b]? = some (.cells vs.toArray t (0, 0))

theorem Bw.lt {w : World} {b : Nat} {t : TypeId} {vs : List Value} (h : Bw w b t vs) : b < w.heap.size := (Array.getElem?_eq_some_iff.1 h).1

theorem Bw.cell {w : World} {b : Nat} {t : TypeId} {vs : List Value} (h : Bw w b t vs) (i : Nat) (u : Value) (hu : vs[i]? = some u) : w.cell? ⟨b, i, none⟩ = some u := by
  rw [cell_of_row w b i vs.toArray t (0, 0) h]
  simpa using hu

theorem Bw.free {w : World} {b : Nat} {t : TypeId} {vs : List Value} (h : Bw w b t vs) (i : Nat) : w.frozen? ⟨b, i, none⟩ = false := frozen_of_row w b i _ t h

theorem Bw.below {B : Nat} {w w' : World} {b : Nat} {t : TypeId} {vs : List Value} (h : Bw w b t vs) (hb : Below B w w') (hB : b < B) : Bw w' b t vs := (hb.block b hB).trans h

theorem Bw.under {w w' : World} {b : Nat} {t : TypeId} {vs : List Value} (h : Bw w b t vs) (hb : Below w.heap.size w w') : Bw w' b t vs := h.below hb h.lt

theorem Bw.turn {F : List Nat} {w w' : World} {b : Nat} {t : TypeId} {vs : List Value} (h : Bw w b t vs) (ht : Turn F w w') (hF : b ∉ F) : Bw w' b t vs := (ht.block b h.lt hF).trans h

theorem Bw.alloc {w : World} {b : Nat} {t : TypeId} {vs : List Value} (h : Bw w b t vs) (o : Obj) : Bw (w.alloc o) b t vs := h.under ((Below.refl _ _).alloc (Nat.le_refl _) o)

theorem Bw.new (w : World) (t : TypeId) (vs : List Value) : Bw (w.alloc (.cells vs.toArray t)) w.heap.size t vs := by
  show (w.heap.push _)[w.heap.size]? = _
  rw [Array.getElem?_push_size]

theorem Bw.new' (w : World) (t : TypeId) (vs : List Value) {b : Nat} (hb : b = w.heap.size) : Bw (w.alloc (.cells vs.toArray t)) b t vs := by
  subst hb
  exact Bw.new w t vs

theorem Bw.drew {w : World} {b : Nat} {t : TypeId} {vs : List Value} (h : Bw w b t vs) : Bw w.drew b t vs := h

theorem Bw.put {w : World} {b : Nat} {t : TypeId} {vs : List Value} (h : Bw w b t vs) (i : Nat) (u : Value) : Bw (w.setCell ⟨b, i, none⟩ u) b t (vs.set i u) := by
  have := heap_setCell_same w b i vs.toArray t u h
  unfold Bw
  rw [this]
  simp

theorem ownS.leaf {α : Type} {size : Nat} {e : TypeId} {O : ORep α} {R : Rep α} (hO : O.Good R size) {w : World} {a : Option Addr} {c : Nat} {l : List α} {F : List Nat} (h : ownS size e O w (.slice a l.length c) l F) : LeafL size R w.heap.size w a c l := by
  obtain ⟨a', c', he, h1, h2, h3⟩ := ownS.read hO h
  simp only [Value.slice.injEq, true_and] at he
  obtain ⟨rfl, rfl⟩ := he
  exact ⟨h1, h2, h3⟩

end Go.Proofs.YtocgbeoglgkibaaDoor

namespace Go.Proofs.YtocgbeoglgkibaaDoor
open Go.RowKit Go.Maps

def wPs (l : List MPair) : Nat := l.length + sumW wPair l
def rdPs (B : Nat) (w : World) (v : Value) (l : List MPair) : Prop := ∃ a c, v = .slice a l.length c ∧ LeafL 3 rPair B w a c l
theorem rdPs.below {B : Nat} {w w' : World} {v : Value} {l : List MPair} (h : rdPs B w v l) (hb : Below B w w') : rdPs B w' v l := by
  obtain ⟨a, c, e, h1⟩ := h
  exact ⟨a, c, e, h1.below rPair_good hb⟩
theorem rdPs.mono {B B' : Nat} {w : World} {v : Value} {l : List MPair} (h : rdPs B w v l) (hB : B ≤ B') : rdPs B' w v l := by
  obtain ⟨a, c, e, h1⟩ := h
  exact ⟨a, c, e, LeafL.mono rPair_good h1 hB⟩
theorem rdPs_own {e : TypeId} {w : World} {v : Value} {l : List MPair} {F : List Nat} (h : ownS 3 e oPair w v l F) : rdPs w.heap.size w v l := ownS.read oPair_good h
theorem sumW_sublist' {α : Type} {f : α → Nat} {l k : List α} (h : l.Sublist k) : sumW f l ≤ sumW f k := by
  induction h with
  | slnil => exact Nat.le_refl _
  | cons a _ ih => simp only [sumW]; omega
  | cons_cons a _ ih => simp only [sumW]; omega

/-- A row that was made is one's own. -/
theorem pairs_own {B base elem : Nat} {w : World} {v : Value} {l : List MPair} (h : RowR 3 elem rPair B w base v l) : ownS 3 elem oPair w v l v.ownBlock.toList ∧ v.ownBlock.toList.Nodup ∧ ∀ b, b ∈ v.ownBlock.toList → base ≤ b := by
  obtain ⟨css, h1, h2, h3, h4⟩ := h
  have hge : ∀ b, b ∈ v.ownBlock.toList → base ≤ b := fun b hb => (h4.lt b (by simpa using hb)).1
  refine ⟨?_, by cases v.ownBlock <;> simp, hge⟩
  rcases h4.2 with ⟨rfl, h0⟩ | ⟨g, cap, cur, rfl, hb, hg, hnc, hm, hs, ht⟩
  · exact .inl ⟨rfl, List.eq_nil_of_length_eq_zero h0, rfl⟩
  · refine .inr ⟨g, cap, cur, List.replicate l.length [], rfl, hg, hnc, hm, hs, by simp, ?_, by simp [Value.ownBlock]⟩
    intro j hj
    have hj2 : j < css.length := by omega
    have e0 : (cur.toList.drop (j * 3)).take 3 = css[j] := by
      rw [← flat_part h2 hj2, ← ht]
      apply List.ext_getElem?
      intro i
      rw [List.getElem?_take, List.getElem?_take, List.getElem?_drop, List.getElem?_drop, List.getElem?_take]
      by_cases hi : i < 3
      · rw [if_pos hi, if_pos hi, if_pos (by omega)]
      · rw [if_neg hi, if_neg hi]
    rw [e0]
    obtain ⟨e1, e2, e3, e4, _⟩ := h3 j hj hj2
    refine ⟨e1, e2, e3, trivial, ?_⟩
    rw [List.getD_eq_getElem?_getD]
    simp [hj]


theorem own_lit1 (w : World) (base e size : Nat) (h : base ≤ w.heap.size) : (w.alloc (.cells #[] e)).ownsRow base e size (.slice (some ⟨w.heap.size, 0, none⟩) 0 0) 0 [] :=
  ⟨by simp, .inr ⟨w.heap.size, 0, #[], rfl, h, (show (w.heap.push _)[w.heap.size]? = _ from Array.getElem?_push_size), by omega, by simp [maxLen], by simp, by simp⟩⟩

end Go.Proofs.YtocgbeoglgkibaaDoor

namespace Go.Proofs.YtocgbeoglgkibaaDoor
open Go.RowKit

set_option maxHeartbeats 1000000 in
theorem eqPair_yes (cs1 cs2 : List Value) (m : MPair) (w : World) (hr1 : rPair w.heap.size w cs1 m) (hr2 : rPair w.heap.size w cs2 m) (hsz : wPair m ≤ 1099511627776) :
    Calls Tryd.prog 20 #[.agg cs1.toArray, .agg cs2.toArray] w fun e w' => e = .returned (.bool true) ∧ Below w.heap.size w w' := by
  obtain ⟨rfl, h0, h1, h2, _⟩ := hr1
  obtain ⟨rfl, g0, g1, g2, _⟩ := hr2
  have hsz' : m.fKey.size + m.fVal.size ≤ 1099511627776 := hsz
  clear hsz
  have hbA : ∀ o1 o2, Below w.heap.size w ((w.alloc o1).alloc o2) := fun o1 o2 => ((Below.refl _ _).alloc (Nat.le_refl _) o1).alloc (by simp) o2
  go_enter Tryd.func20, Tryd.ntmps20
  go_wp2_with fail
  go_ret
  exact ⟨rfl, (hbA _ _)⟩

set_option maxHeartbeats 1000000 in
theorem eqPairS_yes (a b : Option Addr) (n ca cb : Nat) (l : List MPair) (w : World) (hx : l.length = n) (hra : LeafL 3 rPair w.heap.size w a ca l) (hrb : LeafL 3 rPair w.heap.size w b cb l) (hsz : n + sumW wPair l ≤ 1099511627776) :
    Calls Tryd.prog 7 #[.slice a n ca, .slice b n cb] w fun e w' => e = .returned (.bool true) ∧ Below w.heap.size w w' := by
  have HX := Hid.mk hx
  clear hx
  replace hra := hra.2.2
  replace hrb := hrb.2.2
  go_enter Tryd.func7, Tryd.ntmps7
  go_wp2_with fail
  go_loopw [5] (fun i wr => ∃ k : Nat, k ≤ n ∧ i = .int .i64 k ∧ Below w.heap.size w wr) (fun i _ => n - (intOf i).toNat)
  case atStart => exact ⟨0, Nat.zero_le _, rfl, Below.refl _ _⟩
  case round =>
    obtain ⟨k, hk, rfl, hbk⟩ := hrel
    by_cases hlt : k < n
    · have hkl : k < l.length := by rw [HX.out]; exact hlt
      have hwk := sumW_le (f := wPair) hkl
      obtain ⟨bA, oA, rfl, hBA, csA, hlA, hcA, hrA⟩ := (hra.below rPair_good hbk) k hkl
      obtain ⟨bB, oB, rfl, hBB, csB, hlB, hcB, hrB⟩ := (hrb.below rPair_good hbk) k hkl
      have hrA' := rPair_good.mono hrA hbk.size
      have hrB' := rPair_good.mono hrB hbk.size
      generalize l[k] = m at *
      obtain ⟨rfl, h0, h1, h2, _⟩ := hrA
      obtain ⟨rfl, g0, g1, g2, _⟩ := hrB
      have k0 := hcA 0 _ rfl
      have j0 := hcB 0 _ rfl
      have k1 := hcA 1 _ rfl
      have j1 := hcB 1 _ rfl
      have k2 := hcA 2 _ rfl
      have j2 := hcB 2 _ rfl
      rw [Nat.add_zero] at k0 j0
      have hm : wPair m ≤ 1099511627776 := by omega
      clear hcA hcB hlA hlB hra hrb hwk
      go_wp2_with fail
      go_region_with (go_at_call 20; refine (eqPair_yes _ _ m _ (by exact hrA') (by exact hrB') hm).mono ?_; rintro e w1 ⟨rfl, hb1⟩)
      all_goals
        have hb2 : Below w.heap.size w w1 := Below.trans hbk (Below.mono (Below.trans (Below.drew (Below.refl _ _)) hb1) hbk.size)
        go_wp2_with fail
        go_roundw
        case rel => exact ⟨k + 1, by omega, by go_num, hb2⟩
        case measure => simp [intOf]; omega
    · go_wp2_with fail
      go_ret
      exact ⟨rfl, hbk⟩

end Go.Proofs.YtocgbeoglgkibaaDoor
