/-
  Rows of structs of which one element is written over; slices of bytes cut shorter; no program is named here.
-/
import Derived.Test.YtcipekagllikjaaKeep
namespace Go.Proofs.Ytcipekagllikjaa
open Go.RowKit
set_option linter.unusedVariables false
set_option linter.unusedSimpArgs false

theorem flatten_set {size : Nat} : ∀ {css : List (List Value)} {j : Nat} {cs' : List Value}, (∀ c, c ∈ css → c.length = size) → j < css.length → cs'.length = size →
    (css.set j cs').flatten = css.flatten.take (j * size) ++ cs' ++ css.flatten.drop (j * size + size)
  | [], j, cs', _, h, _ => by simp at h
  | c :: r, 0, cs', hc, _, hl => by
    have h1 := hc c (by simp)
    simp only [List.set_cons_zero, List.flatten_cons, Nat.zero_mul, List.take_zero, List.nil_append, Nat.zero_add]
    rw [← h1, List.drop_left]
  | c :: r, j + 1, cs', hc, hj, hl => by
    have h1 := hc c (by simp)
    have ih := flatten_set (css := r) (j := j) (cs' := cs') (fun x hx => hc x (by simp [hx])) (by simpa using hj) hl
    simp only [List.set_cons_succ, List.flatten_cons, ih]
    have e1 : (j + 1) * size = c.length + j * size := by rw [Nat.succ_mul, h1]; omega
    have e2 : (j + 1) * size + size = c.length + (j * size + size) := by omega
    rw [e2, e1, List.take_append, List.drop_append]
    simp [List.take_of_length_le, List.drop_eq_nil_of_le]

/-- One element of the row is written over. -/
theorem RowR.put {α : Type} {size : Nat} {e : TypeId} {R : Rep α} (hR : R.Good) {B base : Nat} {w : World} {g cap : Nat} {l : List α} (h : RowR size e R B w base (.slice (some ⟨g, 0, none⟩) l.length cap) l) (hB : B ≤ base) (hBw : B ≤ w.heap.size) {j : Nat} (hj : j < l.length) {cs' : List Value} {m' : α} (hc : cs'.length = size) (hm : R B w cs' m') :
    RowR size e R B (w.setCells g (j * size) cs') base (.slice (some ⟨g, 0, none⟩) l.length cap) (l.set j m') ∧ Turn [g] w (w.setCells g (j * size) cs') ∧ base ≤ g := by
  obtain ⟨css, r1, r2, r3, r4⟩ := h
  have hfl := flat_len r2
  rcases r4.2 with ⟨h0, _⟩ | ⟨g', cap', cur, h0, hb, hg, hnc, hmx, hs, ht⟩
  · cases h0
  · simp only [Value.slice.injEq, Option.some.injEq, Addr.mk.injEq, and_true, true_and] at h0
    obtain ⟨rfl, rfl⟩ := h0
    have hjc : j < css.length := by omega
    have hmul : (j + 1) * size ≤ l.length * size := Nat.mul_le_mul_right _ hj
    rw [Nat.succ_mul] at hmul
    have hmul2 : l.length * size ≤ cap * size := Nat.mul_le_mul_right _ hnc
    have hT : ∀ (vs : List Value) (o : Nat) (W : World), Turn [g] w W → Turn [g] w (W.setCells g o vs) := by
      intro vs
      induction vs with
      | nil => intro o W h; exact h
      | cons v r ih => intro o W h; exact ih (o + 1) _ (Turn.setCell h (by simp) v)
    have hTT := hT cs' (j * size) w (Turn.refl _ _)
    obtain ⟨cur', d1, d2, d3⟩ := setCells_row' g e cs' (j * size) w cur hg (by rw [hc]; omega)
    have hgB : B ≤ g := Nat.le_trans hB hb
    refine ⟨⟨css.set j cs', by simp [r1], ?_, ?_, ?_⟩, hTT, hb⟩
    · intro c hcm
      rcases List.mem_or_eq_of_mem_set hcm with h | h
      · exact r2 c h
      · rw [h]; exact hc
    · intro i h1 h2
      have hbl := hTT.below (B := B) (fun k hk => by simp at hk; omega) hBw
      simp only [List.length_set] at h1 h2
      by_cases hij : i = j
      · subst hij
        rw [List.getElem_set_self, List.getElem_set_self]
        exact hR.below hm hbl
      · rw [List.getElem_set_ne (Ne.symm hij), List.getElem_set_ne (Ne.symm hij)]
        exact hR.below (r3 i h1 h2) hbl
    · refine ⟨?_, .inr ⟨g, cap, cur', by simp, hb, d1, by simpa using hnc, hmx, by rw [d2, hs], ?_⟩⟩
      · rw [flat_len (size := size)]
        · simp [r1]
        · intro c hcm
          rcases List.mem_or_eq_of_mem_set hcm with h | h
          · exact r2 c h
          · rw [h]; exact hc
      · rw [flatten_set r2 hjc hc, ← ht, d3]
        have hcl : cur.toList.length = cap * size := by simpa using hs
        apply List.ext_getElem?
        intro i
        simp only [List.getElem?_take, List.getElem?_append, List.length_append, List.length_take, List.getElem?_drop, hc, List.length_set, hcl]
        have e1 : min (j * size) (cap * size) = j * size := by omega
        have e2 : min (j * size) (min (l.length * size) (cap * size)) = j * size := by omega
        rw [e1, e2]
        by_cases h1 : i < j * size
        · have h2 : i < l.length * size := by omega
          have h3 : i < j * size + size := by omega
          simp [h1, h2, h3]
        · by_cases h3 : i < j * size + size
          · have h2 : i < l.length * size := by omega
            have h4 : i - j * size < size := by omega
            simp [h1, h2, h3, h4]
          · have e3 : j * size + size + (i - (j * size + size)) = i := by omega
            simp [h1, h3, e3]

/-- What one element's cells are. -/
theorem RowR.at {α : Type} {size : Nat} {e : TypeId} {R : Rep α} {B base : Nat} {w : World} {v : Value} {l : List α} (h : RowR size e R B w base v l) {j : Nat} (hj : j < l.length) :
    ∃ g cap cs, v = .slice (some ⟨g, 0, none⟩) l.length cap ∧ base ≤ g ∧ g < w.heap.size ∧ cs.length = size ∧ R B w cs l[j] ∧ (∀ i u, cs[i]? = some u → w.cell? ⟨g, j * size + i, none⟩ = some u) ∧ ∀ i, w.frozen? ⟨g, i, none⟩ = false := by
  obtain ⟨css, r1, r2, r3, r4⟩ := h
  have hjc : j < css.length := by omega
  rcases r4.2 with ⟨_, h0⟩ | ⟨g, cap, cur, rfl, hb, hg, hnc, hmx, hs, ht⟩
  · omega
  · refine ⟨g, cap, css[j], rfl, hb, (Array.getElem?_eq_some_iff.1 hg).1, r2 _ (List.getElem_mem hjc), r3 j hj hjc, fun i u hu => ?_, fun i => frozen_of_row w g i cur e hg⟩
    have hi : i < size := by
      have := (List.getElem?_eq_some_iff.1 hu).1
      rw [r2 _ (List.getElem_mem hjc)] at this
      exact this
    have hf := flatten_at r2 (j := j) hi
    rw [List.getElem?_eq_getElem hjc, Option.bind_some, hu, ← ht, List.getElem?_take] at hf
    split at hf
    · rw [cell_of_row w g _ cur e (0, 0) hg]
      simpa using hf
    · cases hf

theorem flatten_set1 {size : Nat} : ∀ {css : List (List Value)} {j i : Nat} {u : Value} (hj : j < css.length), (∀ c, c ∈ css → c.length = size) → i < size → (css.set j (css[j].set i u)).flatten = css.flatten.set (j * size + i) u
  | [], j, i, u, h, _, _ => by simp at h
  | c :: r, 0, i, u, _, hc, hi => by
    have h1 := hc c (by simp)
    simp only [List.set_cons_zero, List.flatten_cons, Nat.zero_mul, Nat.zero_add, List.getElem_cons_zero]
    rw [List.set_append_left _ _ (by omega)]
  | c :: r, j + 1, i, u, hj, hc, hi => by
    have h1 := hc c (by simp)
    have ih := flatten_set1 (css := r) (j := j) (i := i) (u := u) (by simpa using hj) (fun x hx => hc x (by simp [hx])) hi
    simp only [List.set_cons_succ, List.flatten_cons, List.getElem_cons_succ, ih]
    rw [List.set_append_right _ _ (by rw [h1, Nat.succ_mul]; omega)]
    congr 2
    rw [h1, Nat.succ_mul]
    omega

/-- One element of the row: its cells, and the row once one of them is written. -/
theorem RowR.split {α : Type} {size : Nat} {e : TypeId} {R : Rep α} (hR : R.Good) {B base : Nat} {w : World} {v : Value} {l : List α} (h : RowR size e R B w base v l) (hB : B ≤ base) (hBw : B ≤ w.heap.size) {j : Nat} (hj : j < l.length) :
    ∃ g cap cs, v = .slice (some ⟨g, 0, none⟩) l.length cap ∧ base ≤ g ∧ g < w.heap.size ∧ cs.length = size ∧ R B w cs l[j] ∧ (∀ i u, cs[i]? = some u → w.cell? ⟨g, j * size + i, none⟩ = some u) ∧ (∀ i, w.frozen? ⟨g, i, none⟩ = false) ∧
      ∀ (i : Nat) (u : Value) (m' : α), i < size → R B w (cs.set i u) m' → RowR size e R B (w.setCell ⟨g, j * size + i, none⟩ u) base v (l.set j m') := by
  have hat := h.at hj
  obtain ⟨css, r1, r2, r3, r4⟩ := h
  have hjc : j < css.length := by omega
  rcases r4.2 with ⟨_, h0⟩ | ⟨g, cap, cur, rfl, hb, hg, hnc, hmx, hs, ht⟩
  · omega
  · have hcells : ∀ i u, css[j][i]? = some u → w.cell? ⟨g, j * size + i, none⟩ = some u := by
      intro i u hu
      have hi : i < size := by
        have := (List.getElem?_eq_some_iff.1 hu).1
        rw [r2 _ (List.getElem_mem hjc)] at this
        exact this
      have hf := flatten_at r2 (j := j) hi
      rw [List.getElem?_eq_getElem hjc, Option.bind_some, hu, ← ht, List.getElem?_take] at hf
      split at hf
      · rw [cell_of_row w g _ cur e (0, 0) hg]
        simpa using hf
      · cases hf
    refine ⟨g, cap, css[j], rfl, hb, (Array.getElem?_eq_some_iff.1 hg).1, r2 _ (List.getElem_mem hjc), r3 j hj hjc, hcells, fun i => frozen_of_row w g i cur e hg, ?_⟩
    intro i u m' hi hm
    have hT : Turn [g] w (w.setCell ⟨g, j * size + i, none⟩ u) := Turn.setCell (Turn.refl _ _) (by simp) _
    have hbl := hT.below (B := B) (fun k hk => by simp at hk; omega) hBw
    have hl2 : ∀ c, c ∈ css.set j (css[j].set i u) → c.length = size := by
      intro c hcm
      rcases List.mem_or_eq_of_mem_set hcm with h | h
      · exact r2 c h
      · rw [h, List.length_set]; exact r2 _ (List.getElem_mem hjc)
    refine ⟨css.set j (css[j].set i u), by simp [r1], hl2, ?_, ?_⟩
    · intro x h1 h2
      simp only [List.length_set] at h1 h2
      by_cases hxj : x = j
      · subst hxj
        rw [List.getElem_set_self, List.getElem_set_self]
        exact hR.below hm hbl
      · rw [List.getElem_set_ne (Ne.symm hxj), List.getElem_set_ne (Ne.symm hxj)]
        exact hR.below (r3 x h1 h2) hbl
    · refine ⟨by rw [flat_len hl2]; simp [r1], .inr ⟨g, cap, cur.setIfInBounds (j * size + i) u, by simp, hb, heap_setCell_same w g _ cur e u hg, by simpa using hnc, hmx, by simpa using hs, ?_⟩⟩
      rw [flatten_set1 hjc r2 hi, ← ht, Array.toList_setIfInBounds, List.take_set, List.length_set]

/-- A slice of bytes of one's own that is cut shorter. -/
theorem ownB.cut {e : TypeId} {w : World} {a : Option Addr} {n c : Nat} {zs : List Int} {F : List Nat} (h : ownB e w (.slice a n c) zs F) (hn : zs.length = n) {k : Nat} (hk : k ≤ n) : ownB e w (.slice a k c) (zs.take k) F := by
  obtain ⟨h1, h2, rfl⟩ := h
  have hl : (zs.take k).length = k := by simp; omega
  refine ⟨⟨by simp, ?_⟩, fun z hz => h2 z (List.mem_of_mem_take hz), by cases a <;> rfl⟩
  rcases h1.2 with ⟨h0, h0'⟩ | ⟨g, cap, cur, h0, hb, hg, hnc, hm, hs, ht⟩
  · simp only [Value.slice.injEq] at h0
    obtain ⟨rfl, rfl, rfl⟩ := h0
    left
    have : k = 0 := by omega
    subst this
    exact ⟨rfl, by simp⟩
  · simp only [Value.slice.injEq] at h0
    obtain ⟨rfl, h0n, rfl⟩ := h0
    right
    refine ⟨g, c, cur, by rw [hl], hb, hg, by omega, hm, hs, ?_⟩
    rw [hl, Nat.mul_one, List.map_take, ← ht, Nat.mul_one, List.take_take]
    congr 1
    omega

/-- The first of what is read. -/
theorem LeafB.take {B : Nat} {w : World} {a : Option Addr} {c : Nat} {zs : List Int} (h : LeafB B w a c zs) (n : Nat) : LeafB B w a c (zs.take n) := by
  refine ⟨by have := h.1; simp; omega, h.2.1, fun j hj => ?_, fun z hz => h.2.2.2 z (List.mem_of_mem_take hz)⟩
  have hj2 : j < zs.length := by simp at hj; omega
  obtain ⟨b, off, e, hb, hc⟩ := h.2.2.1 j hj2
  refine ⟨b, off, e, hb, ?_⟩
  rw [hc]
  have hjn : j < n := by simp at hj; omega
  simp [List.getD_eq_getElem?_getD, List.getElem?_take, hjn]

/-- A list of which the first k are turned. -/
def partMap {α : Type} (f : α → α) (l : List α) (k : Nat) : List α := (l.take k).map f ++ l.drop k
theorem partMap_zero {α : Type} (f : α → α) (l : List α) : partMap f l 0 = l := by simp [partMap]
theorem partMap_all {α : Type} (f : α → α) (l : List α) : partMap f l l.length = l.map f := by simp [partMap]
theorem partMap_length {α : Type} (f : α → α) (l : List α) {k : Nat} (h : k ≤ l.length) : (partMap f l k).length = l.length := by simp [partMap]; omega
theorem partMap_at {α : Type} (f : α → α) (l : List α) {k : Nat} (h : k < l.length) (h2 : k < (partMap f l k).length) : (partMap f l k)[k] = l[k] := by
  have h3 : (partMap f l k)[k]? = some l[k] := by
    unfold partMap
    have hm : min k l.length = k := by omega
    rw [List.getElem?_append_right (by simp; omega)]
    simp only [List.length_map, List.length_take, hm, Nat.sub_self, List.getElem?_drop, Nat.add_zero]
    exact List.getElem?_eq_getElem h
  rw [List.getElem?_eq_getElem h2] at h3
  exact Option.some.inj h3
theorem partMap_succ {α : Type} (f : α → α) (l : List α) {k : Nat} (h : k < l.length) : (partMap f l k).set k (f l[k]) = partMap f l (k + 1) := by
  unfold partMap
  have hm : min k l.length = k := by omega
  rw [List.set_append_right _ _ (by simp; omega)]
  simp only [List.length_map, List.length_take, hm, Nat.sub_self]
  rw [List.drop_eq_getElem_cons h, List.set_cons_zero, List.take_succ_eq_append_getElem h, List.map_append, List.append_assoc]
  rfl

end Go.Proofs.Ytcipekagllikjaa
