/-
  Structs that are written over in place: which blocks turn, which element is edited, what marks are left; no program is named here.
-/
import Derived.Test.YtembioiaeimegaaDatK
namespace Go.Proofs.Ytembioiaeimegaa
open Go.RowKit

/-- Blocks of F alone have turned; new ones may have come. -/
structure Turn (F : List Nat) (w w' : World) : Prop where
  os : w'.os = w.os
  tape : w'.tape = w.tape
  output : w'.output = w.output
  size : w.heap.size ≤ w'.heap.size
  block : ∀ b, b < w.heap.size → b ∉ F → w'.heap[b]? = w.heap[b]?

theorem Turn.refl (F : List Nat) (w : World) : Turn F w w := ⟨rfl, rfl, rfl, Nat.le_refl _, fun _ _ _ => rfl⟩
theorem Turn.trans {F : List Nat} {a b c : World} (h : Turn F a b) (k : Turn F b c) : Turn F a c :=
  ⟨k.os.trans h.os, k.tape.trans h.tape, k.output.trans h.output, Nat.le_trans h.size k.size, fun i hi hF => (k.block i (Nat.lt_of_lt_of_le hi h.size) hF).trans (h.block i hi hF)⟩
theorem Turn.mono {F G : List Nat} {a b : World} (h : Turn F a b) (hF : ∀ k, k ∈ F → k ∈ G) : Turn G a b :=
  ⟨h.os, h.tape, h.output, h.size, fun i hi hG => h.block i hi (fun hk => hG (hF i hk))⟩
theorem Turn.ofBelow {F : List Nat} {a b : World} (h : Below a.heap.size a b) : Turn F a b := ⟨h.os, h.tape, h.output, h.size, fun i hi _ => h.block i hi⟩
theorem Turn.below {F : List Nat} {B : Nat} {a b : World} (h : Turn F a b) (hF : ∀ k, k ∈ F → B ≤ k) (hB : B ≤ a.heap.size) : Below B a b :=
  ⟨h.os, h.tape, h.output, h.size, fun i hi => h.block i (Nat.lt_of_lt_of_le hi hB) (fun hk => by have := hF i hk; omega)⟩
theorem Turn.setCell {F : List Nat} {a b : World} (h : Turn F a b) {p : Addr} (hp : p.block ∈ F) (u : Value) : Turn F a (b.setCell p u) := by
  refine h.trans ⟨?_, ?_, ?_, by simp, fun i hi hF => heap_setCell_other b p i u (fun e => hF (e ▸ hp))⟩
  all_goals
    have hb := (Below.refl 0 b).setCell (p := p) (Nat.zero_le _) u
  · exact hb.os
  · exact hb.tape
  · exact hb.output
theorem Turn.ofGrown {F : List Nat} {a b : World} {r : Option Nat} (h : a.grownBy b r) (hr : ∀ k, r = some k → k ∈ F) : Turn F a b :=
  ⟨h.os, h.tape, h.output, h.size, fun i hi hF => h.block i hi (fun e => hF (hr i e.symm))⟩

theorem Turn.cell {F : List Nat} {w w' : World} (h : Turn F w w') {p : Addr} (hp : p.block < w.heap.size) (hF : p.block ∉ F) : w'.cell? p = w.cell? p := World.cell?_of_block (w := w) (h.block p.block hp hF)

theorem below_same {w w' : World} (h : w' = w) : Below w.heap.size w w' := by subst h; exact Below.refl _ _
theorem bthen {w w1 w2 : World} (h : Below w.heap.size w w1) (hx : Below w1.heap.size w1 w2) : Below w.heap.size w w2 := h.trans (hx.mono h.size)
theorem Turn.after {F : List Nat} {w w1 w2 : World} (h : Below w.heap.size w w1) (hx : Turn F w1 w2) : Turn F w w2 := (Turn.ofBelow h).trans hx
theorem Turn.under {F : List Nat} {w w1 w2 : World} (h : Below w.heap.size w w1) (hx : Turn F w1 w2) (hF : ∀ k, k ∈ F → w.heap.size ≤ k) : Below w.heap.size w w2 := h.trans (hx.below hF h.size)

theorem turnOwn {a b : World} {r : Option Nat} (h : a.grownBy b r) : Turn r.toList a b := Turn.ofGrown h (fun k hk => by simp [hk])

/-- A variable's block, cell by cell. -/
def Bx (w : World) (b : Nat) (vs : List Value) : Prop := b < w.heap.size ∧ ∀ i u, vs[i]? = some u → w.cell? ⟨b, i, none⟩ = some u

theorem Bx.new (w : World) (vs : List Value) (t : TypeId) : Bx (w.alloc (.cells vs.toArray t)) w.heap.size vs := by
  refine ⟨by simp, fun i u hu => ?_⟩
  rw [cell_of_row (w.alloc (.cells vs.toArray t)) w.heap.size i vs.toArray t (0, 0) (by show (w.heap.push _)[w.heap.size]? = _; rw [Array.getElem?_push_size])]
  simpa using hu
theorem Bx.alloc {w : World} {b : Nat} {vs : List Value} (h : Bx w b vs) (o : Obj) : Bx (w.alloc o) b vs :=
  ⟨by have := h.1; simp; omega, fun i u hu => by
    have hb := (Below.refl w.heap.size w).alloc (Nat.le_refl _) o
    exact (hb.cell (p := ⟨b, i, none⟩) h.1).trans (h.2 i u hu)⟩
theorem Bx.drewN {w : World} {b : Nat} {vs : List Value} (h : Bx w b vs) (d : Nat) : Bx (w.drewN d) b vs := h
theorem Bx.drew {w : World} {b : Nat} {vs : List Value} (h : Bx w b vs) : Bx w.drew b vs := h
theorem Bx.below {B : Nat} {w w' : World} {b : Nat} {vs : List Value} (h : Bx w b vs) (hb : Below B w w') (hB : b < B) : Bx w' b vs :=
  ⟨Nat.lt_of_lt_of_le h.1 hb.size, fun i u hu => (hb.cell (p := ⟨b, i, none⟩) hB).trans (h.2 i u hu)⟩
theorem Bx.under {w w' : World} {b : Nat} {vs : List Value} (h : Bx w b vs) (hb : Below w.heap.size w w') : Bx w' b vs := h.below hb h.1
theorem Bx.turn {F : List Nat} {w w' : World} {b : Nat} {vs : List Value} (h : Bx w b vs) (ht : Turn F w w') (hF : b ∉ F) : Bx w' b vs :=
  ⟨Nat.lt_of_lt_of_le h.1 ht.size, fun i u hu => (ht.cell (p := ⟨b, i, none⟩) h.1 hF).trans (h.2 i u hu)⟩

/-- The cells of element j. -/
def seg (size : Nat) (cur : Array Value) (j : Nat) : List Value := (cur.toList.drop (j * size)).take size

theorem seg_get {size : Nat} {cur : Array Value} {j i : Nat} (hi : i < size) : (seg size cur j)[i]? = cur[j * size + i]? := by
  unfold seg
  rw [List.getElem?_take, if_pos hi, List.getElem?_drop]
  simp

theorem seg_set {size : Nat} {cur : Array Value} {k i : Nat} (hi : i < size) (u : Value) : seg size (cur.setIfInBounds (k * size + i) u) k = (seg size cur k).set i u := by
  unfold seg
  rw [Array.toList_setIfInBounds]
  apply List.ext_getElem?
  intro j
  simp only [List.getElem?_take, List.getElem?_drop, List.getElem?_set, List.length_take, List.length_drop]
  by_cases hj : j < size
  · by_cases hij : i = j
    · subst hij
      by_cases hb : k * size + i < cur.toList.length
      · have hb' : i < min size (cur.toList.length - k * size) := by omega
        rw [if_pos hj, if_pos rfl, if_pos rfl, if_pos hb, if_pos hb']
      · have hb' : ¬ i < min size (cur.toList.length - k * size) := by omega
        rw [if_pos hj, if_pos rfl, if_pos rfl, if_neg hb, if_neg hb']
    · rw [if_pos hj, if_neg (by omega), if_neg hij, if_pos hj]
  · rw [if_neg hj, if_neg hj]
    split
    · split
      · omega
      · rfl
    · rfl

theorem seg_set_other {size : Nat} {cur : Array Value} {k i j : Nat} (hi : i < size) (hjk : j ≠ k) (u : Value) : seg size (cur.setIfInBounds (k * size + i) u) j = seg size cur j := by
  unfold seg
  rw [Array.toList_setIfInBounds]
  apply List.ext_getElem?
  intro x
  simp only [List.getElem?_take, List.getElem?_drop, List.getElem?_set]
  by_cases hx : x < size
  · rw [if_pos hx, if_pos hx, if_neg]
    intro h
    rcases Nat.lt_or_gt_of_ne hjk with h1 | h1
    · have := Nat.mul_le_mul_right size h1
      rw [Nat.succ_mul] at this
      omega
    · have := Nat.mul_le_mul_right size h1
      rw [Nat.succ_mul] at this
      omega
  · rw [if_neg hx, if_neg hx]

/-- A row of structs of one's own, laid open. -/
structure OwnRow {α : Type} (size : Nat) (e : TypeId) (O : ORep α) (w : World) (g cap : Nat) (l : List α) (cur : Array Value) (Fs : List (List Nat)) : Prop where
  heap : w.heap[g]? = some (.cells cur e (0, 0))
  le : l.length ≤ cap
  max : cap ≤ maxLen
  fit : cur.size = cap * size
  flen : Fs.length = l.length
  each : ∀ j, (h : j < l.length) → O w (seg size cur j) l[j] (Fs.getD j [])
  nodup : (g :: Fs.flatten).Nodup

theorem ownS.open {α : Type} {size : Nat} {e : TypeId} {O : ORep α} {w : World} {v : Value} {l : List α} {F : List Nat} (h : ownS size e O w v l F) (hN : F.Nodup) :
    (v = .slice none 0 0 ∧ l = [] ∧ F = []) ∨ ∃ g cap cur Fs, v = .slice (some ⟨g, 0, none⟩) l.length cap ∧ OwnRow size e O w g cap l cur Fs ∧ F = g :: Fs.flatten := by
  rcases h with h | ⟨g, cap, cur, Fs, h1, h2, h3, h4, h5, h6, h7, rfl⟩
  · exact .inl h
  · exact .inr ⟨g, cap, cur, Fs, h1, ⟨h2, h3, h4, h5, h6, h7, hN⟩, rfl⟩

theorem OwnRow.shut {α : Type} {size : Nat} {e : TypeId} {O : ORep α} {w : World} {g cap : Nat} {l : List α} {cur : Array Value} {Fs : List (List Nat)} (h : OwnRow size e O w g cap l cur Fs) :
    ownS size e O w (.slice (some ⟨g, 0, none⟩) l.length cap) l (g :: Fs.flatten) :=
  .inr ⟨g, cap, cur, Fs, rfl, h.heap, h.le, h.max, h.fit, h.flen, h.each, rfl⟩

theorem OwnRow.lt {α : Type} {size : Nat} {e : TypeId} {O : ORep α} {w : World} {g cap : Nat} {l : List α} {cur : Array Value} {Fs : List (List Nat)} (h : OwnRow size e O w g cap l cur Fs) : g < w.heap.size := (Array.getElem?_eq_some_iff.1 h.heap).1

/-- Element k is being edited: the world's row is as it was but for that element, which reads as cs. -/
structure Edit (size : Nat) (e : TypeId) (g k : Nat) (F : List Nat) (cur : Array Value) (w w' : World) (cs : List Value) : Prop where
  row : ∃ cur' : Array Value, w'.heap[g]? = some (.cells cur' e (0, 0)) ∧ cur'.size = cur.size ∧ (∀ j, j ≠ k → seg size cur' j = seg size cur j) ∧ seg size cur' k = cs
  turn : Turn (g :: F) w w'

theorem Edit.start {α : Type} {size : Nat} {e : TypeId} {O : ORep α} {w : World} {g cap : Nat} {l : List α} {cur : Array Value} {Fs : List (List Nat)} (h : OwnRow size e O w g cap l cur Fs) (k : Nat) (F : List Nat) : Edit size e g k F cur w w (seg size cur k) :=
  ⟨⟨cur, h.heap, rfl, fun _ _ => rfl, rfl⟩, Turn.refl _ _⟩

theorem Edit.set {size : Nat} {e : TypeId} {g k : Nat} {F : List Nat} {cur : Array Value} {w w' : World} {cs : List Value} (h : Edit size e g k F cur w w' cs) {i : Nat} (hi : i < size) (u : Value) :
    Edit size e g k F cur w (w'.setCell ⟨g, k * size + i, none⟩ u) (cs.set i u) := by
  obtain ⟨⟨cur', c1, c2, c3, c4⟩, ht⟩ := h
  refine ⟨⟨_, heap_setCell_same w' g _ cur' e u c1, by simpa using c2, fun j hj => ?_, ?_⟩, ht.setCell (by simp) u⟩
  · rw [seg_set_other hi hj]; exact c3 j hj
  · rw [seg_set hi, c4]

theorem Edit.keep {size : Nat} {e : TypeId} {g k : Nat} {F : List Nat} {cur : Array Value} {w w1 w2 : World} {cs : List Value} (h : Edit size e g k F cur w w1 cs) (ht : Turn F w1 w2) (hg : g ∉ F) :
    Edit size e g k F cur w w2 cs := by
  obtain ⟨⟨cur', c1, c2, c3, c4⟩, ht'⟩ := h
  exact ⟨⟨cur', by rw [ht.block g (Array.getElem?_eq_some_iff.1 c1).1 hg]; exact c1, c2, c3, c4⟩, ht'.trans (ht.mono (fun k hk => List.mem_cons_of_mem _ hk))⟩

theorem Edit.cellAt {size : Nat} {e : TypeId} {g k : Nat} {F : List Nat} {cur : Array Value} {w w' : World} {cs : List Value} (h : Edit size e g k F cur w w' cs) {i : Nat} (hi : i < size) {u : Value} (hu : cs[i]? = some u) :
    w'.cell? ⟨g, k * size + i, none⟩ = some u := by
  obtain ⟨⟨cur', c1, c2, c3, c4⟩, _⟩ := h
  rw [cell_of_row w' g _ cur' e (0, 0) c1, ← seg_get hi, c4, hu]

theorem Edit.free {size : Nat} {e : TypeId} {g k : Nat} {F : List Nat} {cur : Array Value} {w w' : World} {cs : List Value} (h : Edit size e g k F cur w w' cs) (j : Nat) :
    w'.frozen? ⟨g, j, none⟩ = false := by
  obtain ⟨⟨cur', c1, c2, c3, c4⟩, _⟩ := h
  exact frozen_of_row w' g j cur' e c1

theorem nodup_getD_disj {Fs : List (List Nat)} (h : Fs.flatten.Nodup) {j k : Nat} (hj : j < Fs.length) (hk : k < Fs.length) (hjk : j ≠ k) : ∀ b, b ∈ Fs.getD j [] → b ∉ Fs.getD k [] := by
  intro b hb hb'
  rw [List.getD_eq_getElem?_getD, List.getElem?_eq_getElem hj] at hb
  rw [List.getD_eq_getElem?_getD, List.getElem?_eq_getElem hk] at hb'
  have hp := (List.pairwise_flatten.1 h).2
  have hb : b ∈ Fs[j] := hb
  have hb' : b ∈ Fs[k] := hb'
  rcases Nat.lt_or_gt_of_ne hjk with h1 | h1
  · exact (List.pairwise_iff_getElem.1 hp j k hj hk h1) b hb b hb' rfl
  · exact (List.pairwise_iff_getElem.1 hp k j hk hj h1) b hb' b hb rfl

theorem OwnRow.edit {α : Type} {size : Nat} {e : TypeId} {O : ORep α} {R : Rep α} (hO : O.Good R size) {w w' : World} {g cap k : Nat} {l : List α} {cur : Array Value} {Fs : List (List Nat)} {cs : List Value} {m' : α}
    (h : OwnRow size e O w g cap l cur Fs) (hk : k < l.length) (he : Edit size e g k (Fs.getD k []) cur w w' cs) (ho : O w' cs m' (Fs.getD k [])) :
    (∃ cur', OwnRow size e O w' g cap (l.set k m') cur' Fs) ∧ Turn (g :: Fs.flatten) w w' := by
  obtain ⟨⟨cur', c1, c2, c3, c4⟩, ht⟩ := he
  have hsub : ∀ b, b ∈ g :: Fs.getD k [] → b ∈ g :: Fs.flatten := by
    intro b hb
    rcases List.mem_cons.1 hb with rfl | hb
    · simp
    · exact List.mem_cons_of_mem _ (mem_flatten_getD (by rw [h.flen]; exact hk) hb)
  refine ⟨⟨cur', c1, by simpa using h.le, h.max, by rw [c2, h.fit], by simpa using h.flen, ?_, h.nodup⟩, ht.mono hsub⟩
  intro j hj
  have hj' : j < l.length := by simpa using hj
  by_cases hjk : j = k
  · subst hjk
    rw [c4]
    simpa using ho
  · rw [c3 j hjk, List.getElem_set_ne (fun e => hjk e.symm)]
    refine hO.frame (h.each j hj') (fun b hb => ht.block b (hO.lt (h.each j hj') b hb) ?_)
    intro hm
    have hbf := mem_flatten_getD (by rw [h.flen]; exact hj') hb
    rcases List.mem_cons.1 hm with rfl | hm
    · exact (List.nodup_cons.1 h.nodup).1 hbf
    · exact nodup_getD_disj (List.nodup_cons.1 h.nodup).2 (by rw [h.flen]; exact hj') (by rw [h.flen]; exact hk) hjk b hb hm

theorem OwnRow.part {α : Type} {size : Nat} {e : TypeId} {O : ORep α} {w : World} {g cap : Nat} {l : List α} {cur : Array Value} {Fs : List (List Nat)} (h : OwnRow size e O w g cap l cur Fs) {k : Nat} (hk : k < l.length) :
    g ∉ Fs.getD k [] ∧ (Fs.getD k []).Nodup := by
  have hk' : k < Fs.length := by rw [h.flen]; exact hk
  have hn := List.nodup_cons.1 h.nodup
  refine ⟨fun hm => hn.1 (mem_flatten_getD hk' hm), ?_⟩
  rw [List.getD_eq_getElem?_getD, List.getElem?_eq_getElem hk']
  exact (List.pairwise_flatten.1 hn.2).1 _ (List.getElem_mem hk')

/-- What is left of marks, element behind element: from number q on, up to q'. -/
def hdS {α : Type} (hd : α → Int → Int → Prop) : List α → Int → Int → Prop
  | [], q, q' => q' = q
  | x :: r, q, q' => ∃ q1, hd x q q1 ∧ hdS hd r q1 q'

theorem hdS_snoc {α : Type} {hd : α → Int → Int → Prop} {l : List α} {x : α} {q q1 q2 : Int} (h : hdS hd l q q1) (hx : hd x q1 q2) : hdS hd (l ++ [x]) q q2 := by
  induction l generalizing q with
  | nil => simp only [hdS] at h; subst h; exact ⟨q2, hx, rfl⟩
  | cons y r ih => obtain ⟨q3, h1, h2⟩ := h; exact ⟨q3, h1, ih h2⟩

theorem hdS_end {α : Type} {hd : α → Int → Int → Prop} {cnt : α → Nat} (hc : ∀ m q q', hd m q q' → q' = q + cnt m) {l : List α} {q q' : Int} (h : hdS hd l q q') : q' = q + sumW cnt l := by
  induction l generalizing q with
  | nil => simp only [hdS] at h; subst h; simp [sumW]
  | cons y r ih => obtain ⟨q3, h1, h2⟩ := h; have h3 := hc _ _ _ h1; have h4 := ih h2; simp only [sumW]; omega

theorem sumW_cnt_le {α : Type} {f g : α → Nat} (h : ∀ x, f x ≤ 32 * (1 + g x)) (l : List α) : sumW f l ≤ 32 * (l.length + sumW g l) := by
  induction l with
  | nil => simp [sumW]
  | cons x r ih => have := h x; simp only [sumW, List.length_cons]; omega

/-- Marks in a row of bytes. -/
def hdB (zs : List Int) (q q' : Int) : Prop := zs = marks q zs.length ∧ q' = q + zs.length

theorem set_mid {α : Type} {l l' : List α} {k : Nat} (hl : l'.length = k) (hk : k < l.length) (m' : α) : (l' ++ l.drop k).set k m' = (l' ++ [m']) ++ l.drop (k + 1) := by
  rw [List.set_append_right _ _ (by omega), hl, Nat.sub_self, List.drop_eq_getElem_cons hk, List.set_cons_zero, List.append_assoc]
  rfl

theorem get_mid {α : Type} {l l' : List α} {k : Nat} (hl : l'.length = k) (hk : k < l.length) (h : k < (l' ++ l.drop k).length) : (l' ++ l.drop k)[k] = l[k] := by
  rw [List.getElem_append_right (by omega)]
  simp [hl]

/-- A digit ahead of what is there, till nothing is left. -/
def digits : Nat → Int → List UInt8 → List UInt8
  | 0, _, out => out
  | f + 1, k, out => if k ≤ 0 then out else digits f (k / 10) (UInt8.ofNat (48 + k % 10).toNat :: out)

end Go.Proofs.Ytembioiaeimegaa
