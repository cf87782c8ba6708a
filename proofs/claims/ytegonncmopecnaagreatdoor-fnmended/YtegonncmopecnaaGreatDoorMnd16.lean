/-
  Part 17 of the texts that the proof leans on.
-/
import Derived.Test.YtegonncmopecnaaGreatDoorMnd8
import Derived.Test.YtegonncmopecnaaGreatDoorMnd0
import Derived.Test.YtegonncmopecnaaGreatDoorMnd15
set_option linter.unusedVariables false
set_option linter.unusedSimpArgs false
set_option maxRecDepth 10000

namespace Go.Proofs.YtegonncmopecnaaGreatDoor
open Go.RowKit
theorem flatten_set {size : Nat} : ∀ {css : List (List Value)} {j : Nat} {cs' : List Value}, (∀ c, c ∈ css -> c.length = size) -> j < css.length -> cs'.length = size ->
  (css.set j cs').flatten = css.flatten.take (j * size) ++ cs' ++ css.flatten.drop (j * size + size)
 | [], j, cs', _, h, _ => by simp at h
 | c :: r, 0, cs', hc, _, hl => by
  have h1 := hc c (by simp)
  simp only [List.set_cons_zero, List.flatten_cons, Nat.zero_mul, List.take_zero, List.nil_append, Nat.zero_add]
  rw [<- h1, List.drop_left]
 | c :: r, j + 1, cs', hc, hj, hl => by
  have h1 := hc c (by simp)
  have ih := flatten_set (css := r) (j := j) (cs' := cs') (fun x hx => hc x (by simp [hx])) (by simpa using hj) hl
  simp only [List.set_cons_succ, List.flatten_cons, ih]
  have e1 : (j + 1) * size = c.length + j * size := by rw [Nat.succ_mul, h1]; omega
  have e2 : (j + 1) * size + size = c.length + (j * size + size) := by omega
  rw [e2, e1, List.take_append, List.drop_append]
  simp [List.take_of_length_le, List.drop_eq_nil_of_le]
theorem RowR.put {α : Type} {size : Nat} {e : TypeId} {R : Rep α} (hR : R.Good) {B base : Nat} {w : World} {g cap : Nat} {l : List α} (h : RowR size e R B w base (.slice (some ⟨g, 0, none⟩) l.length cap) l) (hB : B <= base) (hBw : B <= w.heap.size) {j : Nat} (hj : j < l.length) {cs' : List Value} {m' : α} (hc : cs'.length = size) (hm : R B w cs' m') :
  RowR size e R B (w.setCells g (j * size) cs') base (.slice (some ⟨g, 0, none⟩) l.length cap) (l.set j m') /\ Turn [g] w (w.setCells g (j * size) cs') /\ base <= g := by
 obtain ⟨css, r1, r2, r3, r4⟩ := h
 have hfl := flat_len r2
 rcases r4.2 with ⟨h0, _⟩ | ⟨g', cap', cur, h0, hb, hg, hnc, hmx, hs, ht⟩
 ·cases h0
 ·simp only [Value.slice.injEq, Option.some.injEq, Addr.mk.injEq, and_true, true_and] at h0
  obtain ⟨rfl, rfl⟩ := h0
  have hjc : j < css.length := by omega
  have hmul : (j + 1) * size <= l.length * size := Nat.mul_le_mul_right _ hj
  rw [Nat.succ_mul] at hmul
  have hmul2 : l.length * size <= cap * size := Nat.mul_le_mul_right _ hnc
  have hT : ∀ (vs : List Value) (o : Nat) (W : World), Turn [g] w W -> Turn [g] w (W.setCells g o vs) := by
   intro vs
   induction vs with
   | nil => intro o W h; exact h
   | cons v r ih => intro o W h; exact ih (o + 1) _ (Turn.setCell h (by simp) v)
  have hTT := hT cs' (j * size) w (Turn.refl _ _)
  obtain ⟨cur', d1, d2, d3⟩ := setCells_row' g e cs' (j * size) w cur hg (by rw [hc]; omega)
  have hgB : B <= g := Nat.le_trans hB hb
  refine ⟨⟨css.set j cs', by simp [r1], ?_, ?_, ?_⟩, hTT, hb⟩
  ·intro c hcm
   rcases List.mem_or_eq_of_mem_set hcm with h | h
   ·exact r2 c h
   ·rw [h]; exact hc
  ·intro i h1 h2
   have hbl := hTT.below (B := B) (fun k hk => by simp at hk; omega) hBw
   simp only [List.length_set] at h1 h2
   by_cases hij : i = j
   ·subst hij
    rw [List.getElem_set_self, List.getElem_set_self]
    exact hR.below hm hbl
   ·rw [List.getElem_set_ne (Ne.symm hij), List.getElem_set_ne (Ne.symm hij)]
    exact hR.below (r3 i h1 h2) hbl
  ·refine ⟨?_, .inr ⟨g, cap, cur', by simp, hb, d1, by simpa using hnc, hmx, by rw [d2, hs], ?_⟩⟩
   ·rw [flat_len (size := size)]
    ·simp [r1]
    ·intro c hcm
     rcases List.mem_or_eq_of_mem_set hcm with h | h
     ·exact r2 c h
     ·rw [h]; exact hc
   ·rw [flatten_set r2 hjc hc, <- ht, d3]
    have hcl : cur.toList.length = cap * size := by simpa using hs
    apply List.ext_getElem?
    intro i
    simp only [List.getElem?_take, List.getElem?_append, List.length_append, List.length_take, List.getElem?_drop, hc, List.length_set, hcl]
    have e1 : min (j * size) (cap * size) = j * size := by omega
    have e2 : min (j * size) (min (l.length * size) (cap * size)) = j * size := by omega
    rw [e1, e2]
    by_cases h1 : i < j * size
    ·have h2 : i < l.length * size := by omega
     have h3 : i < j * size + size := by omega
     simp [h1, h2, h3]
    ·by_cases h3 : i < j * size + size
     ·have h2 : i < l.length * size := by omega
      have h4 : i - j * size < size := by omega
      simp [h1, h2, h3, h4]
     ·have e3 : j * size + size + (i - (j * size + size)) = i := by omega
      simp [h1, h3, e3]
theorem RowR.at {α : Type} {size : Nat} {e : TypeId} {R : Rep α} {B base : Nat} {w : World} {v : Value} {l : List α} (h : RowR size e R B w base v l) {j : Nat} (hj : j < l.length) :
  ∃ g cap cs, v = .slice (some ⟨g, 0, none⟩) l.length cap /\ base <= g /\ g < w.heap.size /\ cs.length = size /\ R B w cs l[j] /\ (∀ i u, cs[i]? = some u -> w.cell? ⟨g, j * size + i, none⟩ = some u) /\ ∀ i, w.frozen? ⟨g, i, none⟩ = false := by
 obtain ⟨css, r1, r2, r3, r4⟩ := h
 have hjc : j < css.length := by omega
 rcases r4.2 with ⟨_, h0⟩ | ⟨g, cap, cur, rfl, hb, hg, hnc, hmx, hs, ht⟩
 ·omega
 ·refine ⟨g, cap, css[j], rfl, hb, (Array.getElem?_eq_some_iff.1 hg).1, r2 _ (List.getElem_mem hjc), r3 j hj hjc, fun i u hu => ?_, fun i => frozen_of_row w g i cur e hg⟩
  have hi : i < size := by
   have := (List.getElem?_eq_some_iff.1 hu).1
   rw [r2 _ (List.getElem_mem hjc)] at this
   exact this
  have hf := flatten_at r2 (j := j) hi
  rw [List.getElem?_eq_getElem hjc, Option.bind_some, hu, <- ht, List.getElem?_take] at hf
  split at hf
  ·rw [cell_of_row w g _ cur e (0, 0) hg]
   simpa using hf
  ·cases hf
theorem flatten_set1 {size : Nat} : ∀ {css : List (List Value)} {j i : Nat} {u : Value} (hj : j < css.length), (∀ c, c ∈ css -> c.length = size) -> i < size -> (css.set j (css[j].set i u)).flatten = css.flatten.set (j * size + i) u
 | [], j, i, u, h, _, _ => by simp at h
 | c :: r, 0, i, u, _, hc, hi => by
  have h1 := hc c (by simp)
  simp only [List.set_cons_zero, List.flatten_cons, Nat.zero_mul, Nat.zero_add, List.getElem_cons_zero]
  rw [List.set_append_left _ _ (by omega)]
 | c :: r, j + 1, i, u, hj, hc, hi => by
  have h1 := hc c (by simp)
  have ih := flatten_set1 (css := r) (j := j) (i := i) (u := u) (by simpa using hj) (fun x hx => hc x (by simp [hx])) hi
  simp only [List.set_cons_succ, List.flatten_cons, List.getElem_cons_succ, ih]
  rw [List.set_append_right _ _ (by rw [h1, Nat.succ_mul]; omega)]
  congr 2
  rw [h1, Nat.succ_mul]
  omega
theorem RowR.split {α : Type} {size : Nat} {e : TypeId} {R : Rep α} (hR : R.Good) {B base : Nat} {w : World} {v : Value} {l : List α} (h : RowR size e R B w base v l) (hB : B <= base) (hBw : B <= w.heap.size) {j : Nat} (hj : j < l.length) :
  ∃ g cap cs, v = .slice (some ⟨g, 0, none⟩) l.length cap /\ base <= g /\ g < w.heap.size /\ cs.length = size /\ R B w cs l[j] /\ (∀ i u, cs[i]? = some u -> w.cell? ⟨g, j * size + i, none⟩ = some u) /\ (∀ i, w.frozen? ⟨g, i, none⟩ = false) /\
   ∀ (i : Nat) (u : Value) (m' : α), i < size -> R B w (cs.set i u) m' -> RowR size e R B (w.setCell ⟨g, j * size + i, none⟩ u) base v (l.set j m') := by
 have hat := h.at hj
 obtain ⟨css, r1, r2, r3, r4⟩ := h
 have hjc : j < css.length := by omega
 rcases r4.2 with ⟨_, h0⟩ | ⟨g, cap, cur, rfl, hb, hg, hnc, hmx, hs, ht⟩
 ·omega
 ·have hcells : ∀ i u, css[j][i]? = some u -> w.cell? ⟨g, j * size + i, none⟩ = some u := by
   intro i u hu
   have hi : i < size := by
    have := (List.getElem?_eq_some_iff.1 hu).1
    rw [r2 _ (List.getElem_mem hjc)] at this
    exact this
   have hf := flatten_at r2 (j := j) hi
   rw [List.getElem?_eq_getElem hjc, Option.bind_some, hu, <- ht, List.getElem?_take] at hf
   split at hf
   ·rw [cell_of_row w g _ cur e (0, 0) hg]
    simpa using hf
   ·cases hf
  refine ⟨g, cap, css[j], rfl, hb, (Array.getElem?_eq_some_iff.1 hg).1, r2 _ (List.getElem_mem hjc), r3 j hj hjc, hcells, fun i => frozen_of_row w g i cur e hg, ?_⟩
  intro i u m' hi hm
  have hT : Turn [g] w (w.setCell ⟨g, j * size + i, none⟩ u) := Turn.setCell (Turn.refl _ _) (by simp) _
  have hbl := hT.below (B := B) (fun k hk => by simp at hk; omega) hBw
  have hl2 : ∀ c, c ∈ css.set j (css[j].set i u) -> c.length = size := by
   intro c hcm
   rcases List.mem_or_eq_of_mem_set hcm with h | h
   ·exact r2 c h
   ·rw [h, List.length_set]; exact r2 _ (List.getElem_mem hjc)
  refine ⟨css.set j (css[j].set i u), by simp [r1], hl2, ?_, ?_⟩
  ·intro x h1 h2
   simp only [List.length_set] at h1 h2
   by_cases hxj : x = j
   ·subst hxj
    rw [List.getElem_set_self, List.getElem_set_self]
    exact hR.below hm hbl
   ·rw [List.getElem_set_ne (Ne.symm hxj), List.getElem_set_ne (Ne.symm hxj)]
    exact hR.below (r3 x h1 h2) hbl
  ·refine ⟨by rw [flat_len hl2]; simp [r1], .inr ⟨g, cap, cur.setIfInBounds (j * size + i) u, by simp, hb, heap_setCell_same w g _ cur e u hg, by simpa using hnc, hmx, by simpa using hs, ?_⟩⟩
   rw [flatten_set1 hjc r2 hi, <- ht, Array.toList_setIfInBounds, List.take_set, List.length_set]
theorem ownB.cut {e : TypeId} {w : World} {a : Option Addr} {n c : Nat} {zs : List Int} {F : List Nat} (h : ownB e w (.slice a n c) zs F) (hn : zs.length = n) {k : Nat} (hk : k <= n) : ownB e w (.slice a k c) (zs.take k) F := by
 obtain ⟨h1, h2, rfl⟩ := h
 have hl : (zs.take k).length = k := by simp; omega
 refine ⟨⟨by simp, ?_⟩, fun z hz => h2 z (List.mem_of_mem_take hz), by cases a <;> rfl⟩
 rcases h1.2 with ⟨h0, h0'⟩ | ⟨g, cap, cur, h0, hb, hg, hnc, hm, hs, ht⟩
 ·simp only [Value.slice.injEq] at h0
  obtain ⟨rfl, rfl, rfl⟩ := h0
  left
  have : k = 0 := by omega
  subst this
  exact ⟨rfl, by simp⟩
 ·simp only [Value.slice.injEq] at h0
  obtain ⟨rfl, h0n, rfl⟩ := h0
  right
  refine ⟨g, c, cur, by rw [hl], hb, hg, by omega, hm, hs, ?_⟩
  rw [hl, Nat.mul_one, List.map_take, <- ht, Nat.mul_one, List.take_take]
  congr 1
  omega
theorem LeafB.take {B : Nat} {w : World} {a : Option Addr} {c : Nat} {zs : List Int} (h : LeafB B w a c zs) (n : Nat) : LeafB B w a c (zs.take n) := by
 refine ⟨by have := h.1; simp; omega, h.2.1, fun j hj => ?_, fun z hz => h.2.2.2 z (List.mem_of_mem_take hz)⟩
 have hj2 : j < zs.length := by simp at hj; omega
 obtain ⟨b, off, e, hb, hc⟩ := h.2.2.1 j hj2
 refine ⟨b, off, e, hb, ?_⟩
 rw [hc]
 have hjn : j < n := by simp at hj; omega
 simp [List.getD_eq_getElem?_getD, List.getElem?_take, hjn]
def partMap {α : Type} (f : α -> α) (l : List α) (k : Nat) : List α := (l.take k).map f ++ l.drop k
theorem partMap_zero {α : Type} (f : α -> α) (l : List α) : partMap f l 0 = l := by simp [partMap]
theorem partMap_all {α : Type} (f : α -> α) (l : List α) : partMap f l l.length = l.map f := by simp [partMap]
theorem partMap_length {α : Type} (f : α -> α) (l : List α) {k : Nat} (h : k <= l.length) : (partMap f l k).length = l.length := by simp [partMap]; omega
theorem partMap_at {α : Type} (f : α -> α) (l : List α) {k : Nat} (h : k < l.length) (h2 : k < (partMap f l k).length) : (partMap f l k)[k] = l[k] := by
 have h3 : (partMap f l k)[k]? = some l[k] := by
  unfold partMap
  have hm : min k l.length = k := by omega
  rw [List.getElem?_append_right (by simp; omega)]
  simp only [List.length_map, List.length_take, hm, Nat.sub_self, List.getElem?_drop, Nat.add_zero]
  exact List.getElem?_eq_getElem h
 rw [List.getElem?_eq_getElem h2] at h3
 exact Option.some.inj h3
theorem partMap_succ {α : Type} (f : α -> α) (l : List α) {k : Nat} (h : k < l.length) : (partMap f l k).set k (f l[k]) = partMap f l (k + 1) := by
 unfold partMap
 have hm : min k l.length = k := by omega
 rw [List.set_append_right _ _ (by simp; omega)]
 simp only [List.length_map, List.length_take, hm, Nat.sub_self]
 rw [List.drop_eq_getElem_cons h, List.set_cons_zero, List.take_succ_eq_append_getElem h, List.map_append, List.append_assoc]
 rfl
end Go.Proofs.YtegonncmopecnaaGreatDoor

namespace Go.Proofs.YtegonncmopecnaaGreatDoor
open Go.RowKit Go.Maps
abbrev q630_40_11_0 : Oper := ⟨some 45, .fieldAddr 27 (.tmp 5) 0, 0, "l02_files.go:223", #[], none⟩
abbrev q630_40_11_1 : Oper := ⟨some 46, .load 24 (.tmp 45), 24, "l02_files.go:223", #[⟨0, .data⟩], none⟩
abbrev q630_40_11_2 : Oper := ⟨some 47, .move (.tmp 6), 3, "l02_files.go:223", #[], none⟩
abbrev q630_40_11_3 : Oper := ⟨some 48, .fieldAddr 50 (.tmp 7) 1, 0, "l02_files.go:223", #[], none⟩
abbrev q630_40_11_4 : Oper := ⟨some 49, .load 22 (.tmp 48), 22, "l02_files.go:223", #[⟨3, .data⟩], none⟩
abbrev q630_40_11_5 : Oper := ⟨some 50, .fieldAddr 50 (.tmp 7) 2, 0, "l02_files.go:223", #[], none⟩
abbrev q630_40_11_6 : Oper := ⟨some 51, .load 3 (.tmp 50), 3, "l02_files.go:223", #[⟨5, .data⟩], none⟩
abbrev q630_40_11_7 : Oper := ⟨some 52, .move (.tmp 1), 3, "l02_files.go:223", #[], none⟩
abbrev q630_40_11_8 : Oper := ⟨some 53, .binOp .add 3 (.tmp 51) (.tmp 52) 3, 3, "l02_files.go:223", #[⟨6, .data⟩, ⟨7, .data⟩], none⟩
abbrev q630_40_11_9 : Oper := ⟨some 54, .slice 22 (.tmp 49) none (some (.tmp 53)) none, 22, "l02_files.go:223", #[⟨4, .data⟩, ⟨8, .data⟩], none⟩
abbrev q630_40_11_10 : Oper := ⟨some 55, .indexAddr 24 (.tmp 46) (.tmp 47), 0, "l02_files.go:223", #[⟨1, .data⟩, ⟨2, .data⟩, ⟨0, .phase⟩, ⟨1, .phase⟩, ⟨2, .phase⟩, ⟨3, .phase⟩, ⟨4, .phase⟩, ⟨5, .phase⟩, ⟨6, .phase⟩, ⟨7, .phase⟩, ⟨8, .phase⟩, ⟨9, .phase⟩], none⟩
abbrev q630_40_11_11 : Oper := ⟨some 56, .fieldAddr 50 (.tmp 55) 1, 0, "l02_files.go:223", #[⟨10, .data⟩, ⟨0, .phase⟩, ⟨1, .phase⟩, ⟨2, .phase⟩, ⟨3, .phase⟩, ⟨4, .phase⟩, ⟨5, .phase⟩, ⟨6, .phase⟩, ⟨7, .phase⟩, ⟨8, .phase⟩, ⟨9, .phase⟩], none⟩
abbrev q630_40_11_12 : Oper := ⟨none, .store 22 (.tmp 56) (.tmp 54), 0, "l02_files.go:223", #[⟨11, .data⟩, ⟨9, .data⟩, ⟨0, .phase⟩, ⟨1, .phase⟩, ⟨2, .phase⟩, ⟨3, .phase⟩, ⟨4, .phase⟩, ⟨5, .phase⟩, ⟨6, .phase⟩, ⟨7, .phase⟩, ⟨8, .phase⟩, ⟨9, .phase⟩], none⟩
abbrev q630_40_12_0 : Oper := ⟨some 57, .fieldAddr 27 (.tmp 5) 0, 0, "l02_files.go:225", #[], none⟩
abbrev q630_40_12_1 : Oper := ⟨some 58, .load 24 (.tmp 57), 24, "l02_files.go:225", #[⟨0, .data⟩], none⟩
abbrev q630_40_12_2 : Oper := ⟨some 59, .move (.tmp 6), 3, "l02_files.go:225", #[], none⟩
abbrev q630_40_12_3 : Oper := ⟨some 60, .fieldAddr 27 (.tmp 5) 0, 0, "l02_files.go:225", #[], none⟩
abbrev q630_40_12_4 : Oper := ⟨some 61, .load 24 (.tmp 60), 24, "l02_files.go:225", #[⟨3, .data⟩], none⟩
abbrev q630_40_12_5 : Oper := ⟨some 62, .move (.tmp 6), 3, "l02_files.go:225", #[], none⟩
abbrev q630_40_12_6 : Oper := ⟨some 63, .indexAddr 24 (.tmp 61) (.tmp 62), 0, "l02_files.go:225", #[⟨4, .data⟩, ⟨5, .data⟩], none⟩
abbrev q630_40_12_7 : Oper := ⟨some 64, .fieldAddr 50 (.tmp 63) 1, 0, "l02_files.go:225", #[⟨6, .data⟩], none⟩
abbrev q630_40_12_8 : Oper := ⟨some 65, .load 22 (.tmp 64), 22, "l02_files.go:225", #[⟨7, .data⟩], none⟩
abbrev q630_40_12_9 : Oper := ⟨some 66, .call { callee := .builtin .len, args := #[.tmp 65], argTypes := #[22] }, 3, "l02_files.go:225", #[⟨8, .data⟩], none⟩
abbrev q630_40_12_10 : Oper := ⟨some 67, .indexAddr 24 (.tmp 58) (.tmp 59), 0, "l02_files.go:225", #[⟨1, .data⟩, ⟨2, .data⟩, ⟨0, .phase⟩, ⟨1, .phase⟩, ⟨2, .phase⟩, ⟨3, .phase⟩, ⟨4, .phase⟩, ⟨5, .phase⟩, ⟨6, .phase⟩, ⟨7, .phase⟩, ⟨8, .phase⟩, ⟨9, .phase⟩], none⟩
abbrev q630_40_12_11 : Oper := ⟨some 68, .fieldAddr 50 (.tmp 67) 2, 0, "l02_files.go:225", #[⟨10, .data⟩, ⟨0, .phase⟩, ⟨1, .phase⟩, ⟨2, .phase⟩, ⟨3, .phase⟩, ⟨4, .phase⟩, ⟨5, .phase⟩, ⟨6, .phase⟩, ⟨7, .phase⟩, ⟨8, .phase⟩, ⟨9, .phase⟩], none⟩
abbrev q630_40_12_12 : Oper := ⟨none, .store 3 (.tmp 68) (.tmp 66), 0, "l02_files.go:225", #[⟨11, .data⟩, ⟨9, .data⟩, ⟨0, .phase⟩, ⟨1, .phase⟩, ⟨2, .phase⟩, ⟨3, .phase⟩, ⟨4, .phase⟩, ⟨5, .phase⟩, ⟨6, .phase⟩, ⟨7, .phase⟩, ⟨8, .phase⟩, ⟨9, .phase⟩], none⟩
set_option maxHeartbeats 8000000 in
theorem specFall_o (cs : List Value) (m : MDisk) (kp : Int) (w : World) (hr : rDisk w.heap.size w cs m) (hkw : (Lit.int .i64 kp).wf = true) (hw : wDisk m <= 1048576) :
  Calls Tryz.prog 40 #[.agg cs.toArray, .int .i64 kp] w fun e w' => ∃ cs' : List Value, e = .returned (.agg cs'.toArray) /\ (∃ F, oDisk w' cs' (fallP m kp) F /\ ∀ b, b ∈ F -> w.heap.size <= b) /\ Below w.heap.size w w' := by
 have hq := hr
 obtain ⟨a0, c0, a1, c1, a2, c2, rfl, hI, hNm, hSf, hnx, _⟩ := hq
 have hw2 : m.fInodes.length + sumW wInode m.fInodes + (m.fNames.length + sumW wEntry m.fNames) + (m.fSafe.length + sumW wEntry m.fSafe) <= 1048576 := hw
 have HW := Hm hw
 have HR := Hm hr
 clear hr hI hNm hSf hw
 have hkb : -9223372036854775808 <= kp /\ kp <= 9223372036854775807 := by simpa [Lit.wf, IntKind.min, IntKind.max, IntKind.signed, IntKind.bits] using hkw
 obtain ⟨hkb1, hkb2⟩ := hkb
 obtain ⟨iE, hiE, hzE0, hzE1, hzE2⟩ := info_parts Tryz.infoOfEntry
 go_enter Tryz.func40, Tryz.ntmps40
 go_wp2_with fail
 obtain ⟨wq, hwq⟩ : ∃ wq, wq = ((w.alloc (.cells #[.slice a0 m.fInodes.length c0, .slice a1 m.fNames.length c1, .slice a2 m.fSafe.length c2, .int .i64 m.fNext] 27)).alloc (.cells #[.slice none 0 0, .slice none 0 0, .slice none 0 0, .int .i64 0] 27)) := ⟨_, rfl⟩
 have hbW : Below w.heap.size w wq := by rw [hwq]; exact Below.alloc (Below.alloc rB (by exact rN) _) (by simp; try omega) _
 have hbd : Bw wq (w.heap.size) 27 [.slice a0 m.fInodes.length c0, .slice a1 m.fNames.length c1, .slice a2 m.fSafe.length c2, .int .i64 m.fNext] := by rw [hwq]; exact Bw.alloc (Bw.new' _ _ _ (by simp)) _
 have hbr : Bw wq (w.heap.size + 1) 27 [.slice none 0 0, .slice none 0 0, .slice none 0 0, .int .i64 0] := by rw [hwq]; exact Bw.new' _ _ _ (by simp)
 rw [<- hwq]
 clear hwq
 refine (l2Copy_any _ m wq (rDisk_good.mono (rDisk_good.below HR.out hbW) hbW.size) HW.out).mono ?_
 rintro e w1 ⟨cs2, F2, rfl, ho2, hN2, hge2, hx1⟩
 obtain ⟨d0, e0, d1, e1, d2, e2, G0, G1, G2, rfl, o0, o1, o2, _, rfl⟩ := oDisk_cells ho2
 have HO0 := Hm o0
 have HO1 := Hm o1
 have HO2 := Hm o2
 have HO := Hm ho2
 have HN := Hm hN2
 have HGE : Hid (∀ b, b ∈ G0 ++ G1 ++ G2 ++ [] -> wq.heap.size <= b) := hge2
 have HLT : Hid (∀ b, b ∈ G0 ++ G1 ++ G2 ++ [] -> b < w1.heap.size) := fun b hb => oDisk_good.lt ho2 b hb
 clear ho2 hN2 hge2 o0 o1 o2
 have hb1 := bthen hbW hx1
 have hbd1 := hbd.under hx1
 have hbr1 := hbr.under hx1
 have hz1 := hx1.size
 have hzW := hbW.size
 have hl0 := hbr.lt
 obtain ⟨y0, y1, y2, y3⟩ := hbd1.c4
 have hl1 := hbd1.lt
 go_wp2_with fail
 obtain ⟨wa, hwa⟩ : ∃ wa, wa = w1.alloc (.cells #[.slice d0 m.fInodes.length e0, .slice d1 m.fNames.length e1, .slice d2 m.fSafe.length e2, .int .i64 m.fNext] 27) := ⟨_, rfl⟩
 have hba : Below w1.heap.size w1 wa := by rw [hwa]; exact rB.alloc rN _
 have hwb0 : Bw wa w1.heap.size 27 [.slice d0 m.fInodes.length e0, .slice d1 m.fNames.length e1, .slice d2 m.fSafe.length e2, .int .i64 m.fNext] := by rw [hwa]; exact Bw.new _ _ _
 rw [<- hwa]
 clear hwa
 have hba1 := bthen hb1 hba
 have hbda := (hbd1.under hba)
 refine (specDiskOk_c _ m wa (rDisk_good.mono (rDisk_good.below HR.out hba1) hba1.size) HW.out).mono ?_
 rintro e w2 ⟨rfl, hx2⟩
 have hb12 := bthen hba hx2
 have hb2 := bthen hba1 hx2
 have hwb := hwb0.under hx2
 have hbr2 := (hbr1.under hba).under hx2
 clear hwb0 hbda hbd1 y0 y1 y2 y3
 obtain ⟨zo0, zo1, zo2, zo3⟩ := hwb.c4
 by_cases hK : diskOk m = true
 ·by_cases hkn : kp < 0
  ·have HV : Hid (fallP m kp = m) := by show _ = _; unfold fallP; rw [if_neg (by omega)]
   rw [hK]
   clear hK
   obtain ⟨ze0, zf0, ze1, zf1, ze2, zf2, ze3, zf3⟩ := hbr2.c8
   have hlt0 := hbr2.lt
   have hO3 : oDisk w2 [.slice d0 m.fInodes.length e0, .slice d1 m.fNames.length e1, .slice d2 m.fSafe.length e2, .int .i64 m.fNext] (fallP m kp) (G0 ++ G1 ++ G2 ++ []) := by rw [HV.out]; exact oDisk_good.frame HO.out (fun b hb => hb12.block b (HLT.out b hb))
   have hG3 : ∀ b, b ∈ G0 ++ G1 ++ G2 ++ [] -> w.heap.size + 2 <= b := fun b hb => by have := HGE.out b hb; omega
   have HBf := Hm hb2
   have HO3 := Hm hO3
   clear hO3
   go_wp2_with fail
   refine bodyPost_ret (v := .agg #[.slice d0 m.fInodes.length e0, .slice d1 m.fNames.length e1, .slice d2 m.fSafe.length e2, .int .i64 m.fNext]) (by simp [results, Tryz.results40, go_sem, *]) rfl ⟨[.slice d0 m.fInodes.length e0, .slice d1 m.fNames.length e1, .slice d2 m.fSafe.length e2, .int .i64 m.fNext], by first | rfl | rw [HCP.out], ?_, ?_⟩
   ·exact ⟨_, oDisk_good.frame HO3.out (fun b hb => (show Turn [w.heap.size + 1] w2 _ from by repeat (first | with_reducible exact Turn.refl _ _ | with_reducible refine Turn.setCell ?_ (by simp) _ | with_reducible refine Turn.alloc ?_ _ | with_reducible refine Turn.drew ?_)).block b (oDisk_good.lt HO3.out b hb) (by intro h; simp at h; have := hG3 b hb; omega)), fun b hb => by first | (have := hG3 b hb; omega) | (have := hge b hb; omega) | (rcases hF4 b hb with h2 | h2; (have := HSUB.out b h2; omega); omega)⟩
   ·exact HBf.out.trans ((show Turn [w.heap.size + 1] w2 _ from by repeat (first | with_reducible exact Turn.refl _ _ | with_reducible refine Turn.setCell ?_ (by simp) _ | with_reducible refine Turn.alloc ?_ _ | with_reducible refine Turn.drew ?_)).below (fun k hk => by simp at hk; omega) HBf.out.size)
  ·have hk0 : 0 <= kp := by omega
   have hknn : (kp < 0) = False := eq_false hkn
   have hDR := diskOk_iff.1 hK
   have HV : Hid (fallP m kp = { m with fNames := m.fSafe, fInodes := (keepI { m with fNames := m.fSafe }).map (cutI kp) }) := by show _ = _; unfold fallP; rw [if_pos ⟨hK, hk0⟩]
   have hwt := ok_weight hK
   have HEA : Hid (∀ x, x ∈ keepI { m with fNames := m.fSafe } -> 0 <= x.fSure /\ x.fSure <= x.fData.length /\ x.fData.length <= 60000) := by
    intro x hx
    have hx' : x ∈ m.fInodes := (List.mem_filter.1 hx).1
    obtain ⟨i, hi, rfl⟩ := List.mem_iff_getElem.1 hx'
    have h1 := hDR.each _ hx'
    have h2 := sumW_le (f := wInode) hi
    have h3 : wInode m.fInodes[i] = m.fInodes[i].fData.length := rfl
    omega
   have hkl : (keepI { m with fNames := m.fSafe }).length <= 60 := Nat.le_trans (List.length_filter_le _ _) (by show m.fInodes.length <= 60; omega)
   rw [hK]
   clear hK hDR
   have hbL : Below w2.heap.size w2 (w2.alloc (.cells #[] 74)) := rB.alloc rN _
   have hlf : LeafL 2 rEntry (w2.alloc (.cells #[] 74)).heap.size (w2.alloc (.cells #[] 74)) d2 e2 m.fSafe := ownS.leaf oEntry_good (ownS.frame oEntry_good HO2.out (fun b hbF => (bthen hb12 hbL).block b (HLT.out b (by simp [hbF]))))
   obtain ⟨css, s1, s2, s3, s4⟩ := Src.ents (P := Tryz.prog) (c := e2) (n := m.fSafe.length) Tryz.underlying25 rfl hlf.2.2
   have hlo := hwb.lt
   have fo1 := hwb.free 1
   have HBL := Hm hbL
   clear hlf hbL
   go_wp2_with (at_builtin; refine wpList_append_lit _ rfl _ _ 25 25 rfl w2.heap.size 74 iE _ 2 24 Tryz.underlying25 hiE hzE0 hzE1 hzE2 rfl w2.heap.size rfl (own_lit0 w2 w2.heap.size _ _ rN) (.slice d2 m.fSafe.length e2) rfl m.fSafe.length css.flatten s4 (by unfold maxLen; omega) (by omega) (by simp) ?_; intro v3 w3 hw3 hx3 hat3; obtain ⟨r3, q3, rfl⟩ := own_slice hw3; have hx23 := bthen HBL.out hx3; have zf1 := (hwb.under hx23).free 1; have hl3 := (hwb.under hx23).lt; have zd0 := (hwb.under hx23).cell 0 _ rfl; have zd1 := (hwb.under hx23).cell 1 _ rfl; have zd2 := (hwb.under hx23).cell 2 _ rfl; have zd3 := (hwb.under hx23).cell 3 _ rfl)
   have hos3 := ownS_row rfl s1 s2 s3 hw3
   have HGS : Hid (∀ b, b ∈ (Value.ownBlock (.slice r3 m.fSafe.length q3)).toList -> w2.heap.size <= b /\ b < w3.heap.size) := fun b hb => hw3.lt b (by simpa using hb)
   obtain ⟨ws, hws⟩ : ∃ ws, ws = w3.setCell ⟨w1.heap.size, 1, none⟩ (.slice r3 m.fSafe.length q3) := ⟨_, rfl⟩
   have hTs : Turn [w1.heap.size] w3 ws := by rw [hws]; exact Turn.setCell (Turn.refl _ _) (by simp) _
   have hwb3 := hwb.under hx23
   have hwbs : Bw ws w1.heap.size 27 [.slice d0 m.fInodes.length e0, .slice r3 m.fSafe.length q3, .slice d2 m.fSafe.length e2, .int .i64 m.fNext] := by rw [hws]; exact hwb3.put 1 _
   have hbrs := (hbr2.under hx23).turn hTs (by simp; omega)
   have hb3 := bthen hb2 hx23
   have hz12 := hb12.size
   have hz23 := hx23.size
   have hzss := hTs.size
   have hBs : Below w.heap.size w ws := hb3.trans (hTs.below (fun k hk => by simp at hk; omega) hb3.size)
   have h1s : Below w1.heap.size w1 ws := (bthen hb12 hx23).trans (hTs.below (fun k hk => by simp at hk; omega) (bthen hb12 hx23).size)
   have t2 := ownS.frame (w' := ws) oEntry_good hos3 (fun b hb => hTs.block b (ownS.lt oEntry_good hos3 b hb) (by intro h; simp at h; have := HGS.out b hb; omega))
   have HT2 := Hm t2
   have HBS := Hm hBs
   have H1S := Hm h1s
   have HTS : Hid (ownS 2 74 oEntry ws (.slice d2 m.fSafe.length e2) m.fSafe G2) := ownS.frame oEntry_good HO2.out (fun b hb => h1s.block b (HLT.out b (by simp [hb])))
   rw [<- hws]
   clear hws t2 hos3 hTs zf1 zo0 zo1 zo2 zo3 fo1 hw3 s4 zd0 zd1 zd2 zd3
   refine (l2Keep_any (repO G0) (repO_good G0) (repO_read G0) d0 r3 d2 e0 q3 e2 { m with fNames := m.fSafe } ws w1.heap.size H1S.out.size (HO0.out.leafO.below (repO_good G0) H1S.out) (ownS.leaf oEntry_good HT2.out) (ownS.leaf oEntry_good HTS.out) (by simp only; omega)).mono ?_
   rintro e w4 ⟨ak, ck, rfl, hrow, hx4⟩
   obtain ⟨kl, hkl2⟩ : ∃ kl, kl = keepI { m with fNames := m.fSafe } := ⟨_, rfl⟩
   rw [<- hkl2] at hrow hkl HEA HV ⊢
   have HROW := Hm hrow
   have hb4 := bthen HBS.out hx4
   have h14 := bthen H1S.out hx4
   have hwb4 := hwbs.under hx4
   have hbr4 := hbrs.under hx4
   have hl4 := hwb4.lt
   have hl4r := hbr4.lt
   have hz4 := hx4.size
   have hzs1 := H1S.out.size
   clear hrow hkl2
   obtain ⟨y0, y1, y2, y3⟩ := hwb4.c4
   obtain ⟨f0, f1, f2, f3⟩ := hwb4.f4
   go_wp2_with fail
   obtain ⟨wt, hwt⟩ : ∃ wt, wt = ((((w4.setCell ⟨w1.heap.size, 0, none⟩ (.slice ak kl.length ck)).setCell ⟨w1.heap.size, 1, none⟩ (.slice r3 m.fSafe.length q3)).setCell ⟨w1.heap.size, 2, none⟩ (.slice d2 m.fSafe.length e2)).setCell ⟨w1.heap.size, 3, none⟩ (.int .i64 m.fNext)) := ⟨_, rfl⟩
   have hTt : Turn [w1.heap.size] w4 wt := by rw [hwt]; exact turn4 _ _ _ _ _ _
   have hwbt : Bw wt w1.heap.size 27 [.slice ak kl.length ck, .slice r3 m.fSafe.length q3, .slice d2 m.fSafe.length e2, .int .i64 m.fNext] := by rw [hwt]; exact (((hwb4.put 0 _).put 1 _).put 2 _).put 3 _
   have hbrt := hbr4.turn hTt (by simp; omega)
   have hBt : Below w.heap.size w wt := hb4.trans (hTt.below (fun k hk => by simp at hk; omega) hb4.size)
   have h1t : Below w1.heap.size w1 wt := h14.trans (hTt.below (fun k hk => by simp at hk; omega) h14.size)
   have hrt : RowR 3 50 (repO G0) w1.heap.size wt ws.heap.size (.slice ak kl.length ck) (partMap (cutI kp) kl 0) := by
    rw [partMap_zero]
    exact RowR.turn (repO_good G0) HROW.out hTt (fun k hk => by simp at hk; omega) h14.size rN
   have HT2t : Hid (∀ W, Turn [w1.heap.size] w4 W -> ownS 2 74 oEntry W (.slice r3 m.fSafe.length q3) m.fSafe (Value.ownBlock (.slice r3 m.fSafe.length q3)).toList) := fun W hT => ownS.frame oEntry_good HT2.out (fun b hb => (hT.block b (by have := HGS.out b hb; omega) (by have := HGS.out b hb; simp; omega)).trans (hx4.block b (by have := HGS.out b hb; omega)))
   have HTT := Hm hTt
   rw [<- hwt]
   clear hwt y0 y1 y2 y3 f0 f1 f2 f3 hTt HROW
   go_wp2_with fail
   go_loopw [6] (fun i wr => ∃ j : Nat, j <= kl.length /\ i = .int .i64 j /\ RowR 3 50 (repO G0) w1.heap.size wr ws.heap.size (.slice ak kl.length ck) (partMap (cutI kp) kl j) /\ Below w.heap.size w wr /\ Bw wr w1.heap.size 27 [.slice ak kl.length ck, .slice r3 m.fSafe.length q3, .slice d2 m.fSafe.length e2, .int .i64 m.fNext] /\ Bw wr (w.heap.size + 1) 27 [.slice none 0 0, .slice none 0 0, .slice none 0 0, .int .i64 0] /\ Below w1.heap.size w1 wr /\ (∀ b, w1.heap.size < b -> b < ws.heap.size -> wr.heap[b]? = wt.heap[b]?)) (fun i _ => kl.length - (intOf i).toNat)
   case atStart => exact ⟨0, Nat.zero_le _, rfl, hrt, hBt, hwbt, hbrt, h1t, fun _ _ _ => rfl⟩
   case round =>
    obtain ⟨j, hj, rfl, hrow, hbk, hwbk, hbrk, h1k, hmid⟩ := hrel
    have HRow := Hm hrow
    have HWB := Hm hwbk
    have HBR := Hm hbrk
    have H1R := Hm h1k
    have HMID := Hm hmid
    have hlx := hwbk.lt
    have hly := hbrk.lt
    have x0 := hwbk.cell 0 _ rfl
    clear hrow hwbk hbrk hrt hBt hwbt hbrt h1k h1t hmid
    by_cases hlt : j < kl.length
    ·have hpl := partMap_length (cutI kp) kl hj
     obtain ⟨g, cap, cs, hv, hgb, hgl, hcl, hrI, hcell, hfree⟩ := HRow.out.at (j := j) (by rw [hpl]; exact hlt)
     rw [partMap_at _ _ hlt] at hrI
     rw [hpl] at hv
     simp only [Value.slice.injEq, true_and] at hv
     obtain ⟨rfl, rfl⟩ := hv
     have hxe := HEA.out kl[j] (List.getElem_mem hlt)
     obtain ⟨x, hx⟩ : ∃ x, kl[j] = x := ⟨_, rfl⟩
     rw [hx] at hrI hxe
     have HX : Hid (kl[j] = x) := hx
     clear hx
     obtain ⟨Fk, ⟨v1, F1x, rfl, hid, hob, hsu, hFk⟩, hFF⟩ := hrI
     obtain ⟨ad, cd, rfl, hlb⟩ := hob.read
     obtain ⟨hx1, hx2, hx3⟩ := hxe
     have k0 := hcell 0 _ rfl
     have k1 := hcell 1 _ rfl
     have k2 := hcell 2 _ rfl
     rw [Nat.add_zero] at k0
     have HFR := Hm hfree
     have HPL := Hm hpl
     have hcdA := hlb.1
     have hcd2 : cd <= 9223372036854775807 := hlb.2.1
     obtain ⟨dn, hdn⟩ : ∃ dn, x.fData.length = dn := ⟨_, rfl⟩
     have HDN := Hm hdn
     rw [hdn] at k1 hx2 hx3 hob hcdA
     obtain ⟨nl, hnl⟩ : ∃ nl : Nat, (nl : Int) = x.fSure + min kp (dn - x.fSure) := ⟨(x.fSure + min kp (dn - x.fSure)).toNat, by omega⟩
     have hnl2 : nl <= dn := by omega
     have HNL := Hm hnl
     have HCUT : Hid (cutI kp x = { x with fData := x.fData.take nl, fSure := (nl : Int) }) := by show _ = _; unfold cutI; rw [HDN.out, <- HNL.out, Int.toNat_natCast]
     have HKS : Hid ((partMap (cutI kp) kl j).set j (cutI kp x) = partMap (cutI kp) kl (j + 1)) := by show _ = _; rw [<- HX.out]; exact partMap_succ _ _ hlt
     have HOB := Hm hob
     have HFF := Hm hFF
     have HFK := Hm hFk
     have h1z := H1R.out.size
     have hgw1 : g ≠ w1.heap.size := by omega
     have HG1 : Hid (g ≠ w1.heap.size) := hgw1
     clear hcell hfree hlb hpl hcl hdn hob hFF hFk
     by_cases hmn : kp < dn - x.fSure
     ·have hnl3 : x.fSure + kp = (nl : Int) := by omega
      have hnlc : (nl : Int) <= (cd : Int) := by omega
      have hnl0 : (0 : Int) <= (nl : Int) := by omega
      have hwrap : IntKind.i64.wrap (nl : Int) = (nl : Int) := by simp [IntKind.wrap, IntKind.bits, IntKind.signed]; omega
      clear hnl
      go_wp2_with fail
      obtain ⟨wi, hwi⟩ : ∃ wi, wi = wr.alloc (.cells #[.int .i64 x.fId, .slice ad dn cd, .int .i64 x.fSure] 50) := ⟨_, rfl⟩
      have hbi : Below wr.heap.size wr wi := by rw [hwi]; exact rB.alloc rN _
      have hbn : Bw wi wr.heap.size 50 [.int .i64 x.fId, .slice ad dn cd, .int .i64 x.fSure] := by rw [hwi]; exact Bw.new _ _ _
      rw [<- hwi]
      clear hwi x0
      have hwbi := HWB.out.under hbi
      have z0 := hwbi.cell 0 _ rfl
      have n1 := hbn.cell 1 _ rfl
      have n2 := hbn.cell 2 _ rfl
      have HG2 : Hid (g ≠ wr.heap.size) := by show _ ≠ _; omega
      have hri := RowR.keep (repO_good G0) HRow.out hbi h1z
      have q1 := (hbi.cell (p := ⟨g, j * 3 + 1, none⟩) hgl).trans k1
      have r1 := (hbi.frozen (p := ⟨g, j * 3 + 1, none⟩) hgl).trans (HFR.out _)
      have q2 := (hbi.cell (p := ⟨g, j * 3 + 2, none⟩) hgl).trans k2
      have r2 := (hbi.frozen (p := ⟨g, j * 3 + 2, none⟩) hgl).trans (HFR.out _)
      clear k0 k1 k2
      refine wp_region_held_drew (S := fun V => V.cell? ⟨w1.heap.size, 0, none⟩ = some (.slice (some ⟨g, 0, none⟩) kl.length ck) /\ V.cell? ⟨wr.heap.size, 1, none⟩ = some (.slice ad dn cd) /\ V.cell? ⟨wr.heap.size, 2, none⟩ = some (.int .i64 x.fSure)) (by kernel_rfl) (⟨z0, n1, n2⟩) (fun hZ => ?_)
      refine uq 0 q630_40_11_0 45 hZ ?_
      refine uq 1 q630_40_11_1 46 hZ ?_
      refine uq 2 q630_40_11_2 47 hZ ?_
      refine uq 3 q630_40_11_3 48 hZ ?_
      refine uq 4 q630_40_11_4 49 hZ ?_
      refine uq 5 q630_40_11_5 50 hZ ?_
      refine uq 6 q630_40_11_6 51 hZ ?_
      refine uq 7 q630_40_11_7 52 hZ ?_
      refine uq 8 q630_40_11_8 53 hZ ?_
      refine uq 9 q630_40_11_9 54 hZ ?_
      refine uq 10 q630_40_11_10 55 hZ ?_
      refine uq 11 q630_40_11_11 56 hZ ?_
      refine ar1 12 q630_40_11_12 fun K hK => ?_
      go_simp
      go_simp
      refine hK.out _ _ (⟨(World.cell?_setCell_other _ _ _ _ (fun h => HG1.out (congrArg Addr.block h))).trans z0, (World.cell?_setCell_other _ _ _ _ (fun h => HG2.out (congrArg Addr.block h))).trans n1, (World.cell?_setCell_other _ _ _ _ (fun h => HG2.out (congrArg Addr.block h))).trans n2⟩) (fun hZ => ?_)
      clear hK K
      try simp only[Act.put,sa,s0,s1]
      refine wpAnyH_done (by kernel_rfl) ?_ _
      obtain ⟨w5, hw5⟩ : ∃ w5, w5 = (wi.setCell ⟨g, j * 3 + 1, none⟩ (.slice ad nl cd)).drew := ⟨_, rfl⟩
      have hT5 : Turn [g] wi w5 := by rw [hw5]; exact Turn.drew (Turn.setCell (Turn.refl _ _) (by simp) _)
      have hR5a : RowR 3 50 (repO G0) w1.heap.size w5 ws.heap.size (.slice (some ⟨g, 0, none⟩) kl.length ck) ((partMap (cutI kp) kl j).set j { x with fData := x.fData.take nl }) := by
       obtain ⟨g', cap', cs', hv', _, _, _, hr', hc', _, hp'⟩ := hri.split (repO_good G0) hzs1 (by have := hbi.size; omega) (j := j) (by rw [HPL.out]; exact hlt)
       rw [HPL.out] at hv'
       simp only [Value.slice.injEq, Option.some.injEq, Addr.mk.injEq, and_true, true_and] at hv'
       obtain ⟨rfl, rfl⟩ := hv'
       rw [partMap_at _ _ hlt, HX.out] at hr'
       obtain ⟨Fk', ⟨v1', F1', rfl, hid', hob', hsu', hFk'⟩, hFF'⟩ := hr'
       have hv1 : v1' = .slice ad dn cd := by have h1 := hc' 1 _ rfl; rw [q1] at h1; exact (Option.some.inj h1).symm
       subst hv1
       have hres := hp' 1 (.slice ad nl cd) { x with fData := x.fData.take nl } (by omega) ⟨Fk', ⟨_, F1', rfl, hid', ownB.cut hob' HDN.out hnl2, hsu', hFk'⟩, hFF'⟩
       rw [hw5]
       exact RowR.keep (repO_good G0) hres (Below.drew rB) (by have := hbi.size; simp; omega)
      have zz0 := (hT5.cell (p := ⟨w1.heap.size, 0, none⟩) (by have := hwbi.lt; simp; omega) (by simp; omega)).trans z0
      have zz1 : w5.cell? ⟨g, j * 3 + 1, none⟩ = some (.slice ad nl cd) := by rw [hw5]; exact World.cell?_setCell_same _ _ _ q1
      have zz2 : w5.cell? ⟨g, j * 3 + 2, none⟩ = some (.int .i64 x.fSure) := by rw [hw5]; exact (World.cell?_setCell_other _ _ _ _ (fun h => by have := congrArg Addr.off h; simp at this)).trans q2
      have zr2 : w5.frozen? ⟨g, j * 3 + 2, none⟩ = false := by rw [hw5]; show (wi.setCell _ _).frozen? _ = false; rw [World.frozen?_setCell]; exact r2
      have hz5 := hT5.size
      have hzi := hbi.size
      have HR5 : Hid (RowR 3 50 (repO G0) w1.heap.size (w5.setCell ⟨g, j * 3 + 2, none⟩ (.int .i64 (nl : Nat))) ws.heap.size (.slice (some ⟨g, 0, none⟩) kl.length ck) (partMap (cutI kp) kl (j + 1))) := by
       have hlen5 : ((partMap (cutI kp) kl j).set j { x with fData := x.fData.take nl }).length = kl.length := by rw [List.length_set, HPL.out]
       obtain ⟨g', cap', cs', hv', _, _, _, hr', hc', _, hp'⟩ := hR5a.split (repO_good G0) hzs1 (by omega) (j := j) (by rw [hlen5]; exact hlt)
       rw [hlen5] at hv'
       simp only [Value.slice.injEq, Option.some.injEq, Addr.mk.injEq, and_true, true_and] at hv'
       obtain ⟨rfl, rfl⟩ := hv'
       rw [List.getElem_set_self] at hr'
       obtain ⟨Fk', ⟨v1', F1', rfl, hid', hob', hsu', hFk'⟩, hFF'⟩ := hr'
       have hres := hp' 2 (.int .i64 (nl : Nat)) (cutI kp x) (by omega) (by rw [HCUT.out]; exact ⟨Fk', ⟨_, F1', rfl, hid', hob', (show (Lit.int .i64 (nl : Int)).wf = true from WalkArith.wf_i64 (by omega)), hFk'⟩, hFF'⟩)
       rw [List.set_set, HKS.out] at hres
       exact hres
      have HBW5 : Hid (Below w.heap.size w w5) := (bthen hbk hbi).trans (hT5.below (fun k hk => by simp at hk; omega) (bthen hbk hbi).size)
      have HWB5 := Hm (hwbi.turn hT5 (by simp; omega))
      have HBR5 := Hm ((HBR.out.under hbi).turn hT5 (by simp; omega))
      have H1R5 : Hid (Below w1.heap.size w1 w5) := (H1R.out.trans (hbi.mono h1z)).trans (hT5.below (fun k hk => by simp at hk; omega) (by omega))
      have hlw5 : wr.heap.size < w5.heap.size := Nat.lt_of_lt_of_le hbn.lt hz5
      have HM5 : Hid (ws.heap.size <= w5.heap.size /\ ∀ b, w1.heap.size < b -> b < ws.heap.size -> w5.heap[b]? = wt.heap[b]?) := ⟨by omega, fun b h1 h2 => (hT5.block b (by omega) (by simp; omega)).trans ((hbi.block b (by omega)).trans (HMID.out b h1 h2))⟩
      rw [<- hw5]
      clear hw5 hR5a hZ z0 n1 n2 q1 q2 r1 r2 hri
      go_wp2_with fail
      refine wp_region_held_drew (S := fun V => V.cell? ⟨w1.heap.size, 0, none⟩ = some (.slice (some ⟨g, 0, none⟩) kl.length ck) /\ V.cell? ⟨g, j * 3 + 1, none⟩ = some (.slice ad nl cd)) (by kernel_rfl) (⟨zz0, zz1⟩) (fun hZ => ?_)
      refine uq 0 q630_40_12_0 57 hZ ?_
      refine uq 1 q630_40_12_1 58 hZ ?_
      refine uq 2 q630_40_12_2 59 hZ ?_
      refine uq 3 q630_40_12_3 60 hZ ?_
      refine uq 4 q630_40_12_4 61 hZ ?_
      refine uq 5 q630_40_12_5 62 hZ ?_
      refine uq 6 q630_40_12_6 63 hZ ?_
      refine uq 7 q630_40_12_7 64 hZ ?_
      refine uq 8 q630_40_12_8 65 hZ ?_
      refine uq 9 q630_40_12_9 66 hZ ?_
      refine uq 10 q630_40_12_10 67 hZ ?_
      refine uq 11 q630_40_12_11 68 hZ ?_
      refine ar1 12 q630_40_12_12 fun K hK => ?_
      go_simp
      go_simp
      refine hK.out _ _ (⟨(World.cell?_setCell_other _ _ _ _ (fun h => HG1.out (congrArg Addr.block h))).trans zz0, (World.cell?_setCell_other _ _ _ _ (fun h => by have := congrArg Addr.off h; simp at this)).trans zz1⟩) (fun hZ => ?_)
      clear hK K
      try simp only[Act.put,sa,s0,s1]
      refine wpAnyH_done (by kernel_rfl) ?_ _
      obtain ⟨w6, hw6⟩ : ∃ w6, w6 = (w5.setCell ⟨g, j * 3 + 2, none⟩ (.int .i64 (nl : Nat))).drew := ⟨_, rfl⟩
      have hT6 : Turn [g] w5 w6 := by rw [hw6]; exact Turn.drew (Turn.setCell (Turn.refl _ _) (by simp) _)
      have hR6 : RowR 3 50 (repO G0) w1.heap.size w6 ws.heap.size (.slice (some ⟨g, 0, none⟩) kl.length ck) (partMap (cutI kp) kl (j + 1)) := by
       rw [hw6]
       exact RowR.keep (repO_good G0) HR5.out (Below.drew rB) (by have := HBW5.out.size; simp; omega)
      have HR6 := Hm hR6
      have hB6 : Below w.heap.size w w6 := HBW5.out.trans (hT6.below (fun k hk => by simp at hk; omega) HBW5.out.size)
      have hwb6 := HWB5.out.turn hT6 (by simp; omega)
      have hbr6 := HBR5.out.turn hT6 (by simp; omega)
      have hlw6 : wr.heap.size < w6.heap.size := Nat.lt_of_lt_of_le hlw5 hT6.size
      have h1r6 : Below w1.heap.size w1 w6 := H1R5.out.trans (hT6.below (fun k hk => by simp at hk; omega) H1R5.out.size)
      have hmid6 : ∀ b, w1.heap.size < b -> b < ws.heap.size -> w6.heap[b]? = wt.heap[b]? := fun b h1 h2 => (hT6.block b (by have := HM5.out.1; omega) (by simp; omega)).trans (HM5.out.2 b h1 h2)
      rw [<- hw6]
      clear hw6 hT6 hR6 hZ zz0 zz1
      go_wp2_with fail
      go_roundw
      case rel => exact ⟨j + 1, by omega, by go_num, HR6.out, hB6, hwb6, hbr6, h1r6, hmid6⟩
      case measure => simp [intOf]; omega
     ·have hnd : nl = dn := by omega
      subst hnd
      have hmn2 : ¬ (kp < (nl : Int) - x.fSure) := hmn
      clear hnl
      go_wp2_with fail
      obtain ⟨wi, hwi⟩ : ∃ wi, wi = wr.alloc (.cells #[.int .i64 x.fId, .slice ad nl cd, .int .i64 x.fSure] 50) := ⟨_, rfl⟩
      have hbi : Below wr.heap.size wr wi := by rw [hwi]; exact rB.alloc rN _
      have hbn : Bw wi wr.heap.size 50 [.int .i64 x.fId, .slice ad nl cd, .int .i64 x.fSure] := by rw [hwi]; exact Bw.new _ _ _
      rw [<- hwi]
      clear hwi x0
      have hwbi := HWB.out.under hbi
      have z0 := hwbi.cell 0 _ rfl
      have n1 := hbn.cell 1 _ rfl
      have n2 := hbn.cell 2 _ rfl
      have HG2 : Hid (g ≠ wr.heap.size) := by show _ ≠ _; omega
      have hri := RowR.keep (repO_good G0) HRow.out hbi h1z
      have q1 := (hbi.cell (p := ⟨g, j * 3 + 1, none⟩) hgl).trans k1
      have r1 := (hbi.frozen (p := ⟨g, j * 3 + 1, none⟩) hgl).trans (HFR.out _)
      have zz2 := (hbi.cell (p := ⟨g, j * 3 + 2, none⟩) hgl).trans k2
      have zr2 := (hbi.frozen (p := ⟨g, j * 3 + 2, none⟩) hgl).trans (HFR.out _)
      obtain ⟨w5, hw5⟩ : ∃ w5, w5 = wi := ⟨_, rfl⟩
      have hT5 : Turn [g] wi w5 := by rw [hw5]; exact Turn.refl _ _
      have hz5 := hT5.size
      have hzi := hbi.size
      have HR5 : Hid (RowR 3 50 (repO G0) w1.heap.size (w5.setCell ⟨g, j * 3 + 2, none⟩ (.int .i64 (nl : Nat))) ws.heap.size (.slice (some ⟨g, 0, none⟩) kl.length ck) (partMap (cutI kp) kl (j + 1))) := by
       obtain ⟨g', cap', cs', hv', _, _, _, hr', hc', _, hp'⟩ := hri.split (repO_good G0) hzs1 (by omega) (j := j) (by rw [HPL.out]; exact hlt)
       rw [HPL.out] at hv'
       simp only [Value.slice.injEq, Option.some.injEq, Addr.mk.injEq, and_true, true_and] at hv'
       obtain ⟨rfl, rfl⟩ := hv'
       rw [partMap_at _ _ hlt, HX.out] at hr'
       obtain ⟨Fk', ⟨v1', F1', rfl, hid', hob', hsu', hFk'⟩, hFF'⟩ := hr'
       have hres := hp' 2 (.int .i64 (nl : Nat)) (cutI kp x) (by omega) (by rw [HCUT.out, List.take_of_length_le (by rw [HDN.out]; exact rN)]; exact ⟨Fk', ⟨_, F1', rfl, hid', hob', (show (Lit.int .i64 (nl : Int)).wf = true from WalkArith.wf_i64 (by omega)), hFk'⟩, hFF'⟩)
       rw [HKS.out] at hres
       rw [hw5]
       exact hres
      have zz0 := z0
      have zz1 := q1
      rw [<- hw5] at zz0 zz1 zz2 zr2 ⊢
      have HBW5 : Hid (Below w.heap.size w w5) := (bthen hbk hbi).trans (hT5.below (fun k hk => by simp at hk; omega) (bthen hbk hbi).size)
      have HWB5 := Hm (hwbi.turn hT5 (by simp; omega))
      have HBR5 := Hm ((HBR.out.under hbi).turn hT5 (by simp; omega))
      have H1R5 : Hid (Below w1.heap.size w1 w5) := (H1R.out.trans (hbi.mono h1z)).trans (hT5.below (fun k hk => by simp at hk; omega) (by omega))
      have hlw5 : wr.heap.size < w5.heap.size := Nat.lt_of_lt_of_le hbn.lt hz5
      have HM5 : Hid (ws.heap.size <= w5.heap.size /\ ∀ b, w1.heap.size < b -> b < ws.heap.size -> w5.heap[b]? = wt.heap[b]?) := ⟨by omega, fun b h1 h2 => (hT5.block b (by omega) (by simp; omega)).trans ((hbi.block b (by omega)).trans (HMID.out b h1 h2))⟩
      clear hw5 z0 n1 n2 q1 r1 hri k0 k1 k2
      refine wp_region_held_drew (S := fun V => V.cell? ⟨w1.heap.size, 0, none⟩ = some (.slice (some ⟨g, 0, none⟩) kl.length ck) /\ V.cell? ⟨g, j * 3 + 1, none⟩ = some (.slice ad nl cd)) (by kernel_rfl) (⟨zz0, zz1⟩) (fun hZ => ?_)
      refine uq 0 q630_40_12_0 57 hZ ?_
      refine uq 1 q630_40_12_1 58 hZ ?_
      refine uq 2 q630_40_12_2 59 hZ ?_
      refine uq 3 q630_40_12_3 60 hZ ?_
      refine uq 4 q630_40_12_4 61 hZ ?_
      refine uq 5 q630_40_12_5 62 hZ ?_
      refine uq 6 q630_40_12_6 63 hZ ?_
      refine uq 7 q630_40_12_7 64 hZ ?_
      refine uq 8 q630_40_12_8 65 hZ ?_
      refine uq 9 q630_40_12_9 66 hZ ?_
      refine uq 10 q630_40_12_10 67 hZ ?_
      refine uq 11 q630_40_12_11 68 hZ ?_
      refine ar1 12 q630_40_12_12 fun K hK => ?_
      go_simp
      go_simp
      refine hK.out _ _ (⟨(World.cell?_setCell_other _ _ _ _ (fun h => HG1.out (congrArg Addr.block h))).trans zz0, (World.cell?_setCell_other _ _ _ _ (fun h => by have := congrArg Addr.off h; simp at this)).trans zz1⟩) (fun hZ => ?_)
      clear hK K
      try simp only[Act.put,sa,s0,s1]
      refine wpAnyH_done (by kernel_rfl) ?_ _
      obtain ⟨w6, hw6⟩ : ∃ w6, w6 = (w5.setCell ⟨g, j * 3 + 2, none⟩ (.int .i64 (nl : Nat))).drew := ⟨_, rfl⟩
      have hT6 : Turn [g] w5 w6 := by rw [hw6]; exact Turn.drew (Turn.setCell (Turn.refl _ _) (by simp) _)
      have hR6 : RowR 3 50 (repO G0) w1.heap.size w6 ws.heap.size (.slice (some ⟨g, 0, none⟩) kl.length ck) (partMap (cutI kp) kl (j + 1)) := by
       rw [hw6]
       exact RowR.keep (repO_good G0) HR5.out (Below.drew rB) (by have := HBW5.out.size; simp; omega)
      have HR6 := Hm hR6
      have hB6 : Below w.heap.size w w6 := HBW5.out.trans (hT6.below (fun k hk => by simp at hk; omega) HBW5.out.size)
      have hwb6 := HWB5.out.turn hT6 (by simp; omega)
      have hbr6 := HBR5.out.turn hT6 (by simp; omega)
      have hlw6 : wr.heap.size < w6.heap.size := Nat.lt_of_lt_of_le hlw5 hT6.size
      have h1r6 : Below w1.heap.size w1 w6 := H1R5.out.trans (hT6.below (fun k hk => by simp at hk; omega) H1R5.out.size)
      have hmid6 : ∀ b, w1.heap.size < b -> b < ws.heap.size -> w6.heap[b]? = wt.heap[b]? := fun b h1 h2 => (hT6.block b (by have := HM5.out.1; omega) (by simp; omega)).trans (HM5.out.2 b h1 h2)
      rw [<- hw6]
      clear hw6 hT6 hR6 hZ zz0 zz1
      go_wp2_with fail
      go_roundw
      case rel => exact ⟨j + 1, by omega, by go_num, HR6.out, hB6, hwb6, hbr6, h1r6, hmid6⟩
      case measure => simp [intOf]; omega
    ·have hjn : j = kl.length := by omega
     subst hjn
     have hrow := HRow.out
     rw [partMap_all] at hrow
     obtain ⟨FR, hown, hFR⟩ := hrow.own
     have oN : ownS 2 74 oEntry wr (.slice r3 m.fSafe.length q3) m.fSafe (Value.ownBlock (.slice r3 m.fSafe.length q3)).toList := ownS.frame oEntry_good (HT2t.out wt HTT.out) (fun b hb => HMID.out b (by have := HGS.out b hb; omega) (by have := HGS.out b hb; omega))
     have oS : ownS 2 74 oEntry wr (.slice d2 m.fSafe.length e2) m.fSafe G2 := ownS.frame oEntry_good HO2.out (fun b hb => H1R.out.block b (HLT.out b (by simp [hb])))
     have hod : oDisk wr [.slice ak kl.length ck, .slice r3 m.fSafe.length q3, .slice d2 m.fSafe.length e2, .int .i64 m.fNext] { m with fNames := m.fSafe, fInodes := kl.map (cutI kp) } (FR ++ (Value.ownBlock (.slice r3 m.fSafe.length q3)).toList ++ G2 ++ []) := ⟨_, FR, _, _, _, G2, rfl, hown, oN, oS, hnx, rfl⟩
     have hge : ∀ b, b ∈ FR ++ (Value.ownBlock (.slice r3 m.fSafe.length q3)).toList ++ G2 ++ [] -> w.heap.size + 2 <= b := by
      intro b hb
      rw [List.append_nil, List.mem_append, List.mem_append] at hb
      rcases hb with (hb | hb) | hb
      ·rcases hFR b hb with h | h
       ·have := HGE.out b (by simp [h]); omega
       ·omega
      ·have := HGS.out b hb; omega
      ·have := HGE.out b (by simp [hb]); omega
     have hkey : ∀ W', Turn [w.heap.size + 1] wr W' -> (∃ F, oDisk W' [.slice ak kl.length ck, .slice r3 m.fSafe.length q3, .slice d2 m.fSafe.length e2, .int .i64 m.fNext] (fallP m kp) F /\ ∀ b, b ∈ F -> w.heap.size <= b) /\ Below w.heap.size w W' := fun W' hT => by
      rw [HV.out]
      exact ⟨⟨_, oDisk_good.frame hod (fun b hb => hT.block b (oDisk_good.lt hod b hb) (fun h => by simp at h; have := hge b hb; omega)), fun b hb => by first | (have := hG3 b hb; omega) | (have := hge b hb; omega) | (rcases hF4 b hb with h2 | h2; (have := HSUB.out b h2; omega); omega)⟩, hbk.trans (hT.below (fun k hk => by simp at hk; omega) hbk.size)⟩
     have HKEY := Hm hkey
     clear hkey hod hge hown oN oS hrow x0
     obtain ⟨y0, y1, y2, y3⟩ := HWB.out.c4
     obtain ⟨ze0, ze1, ze2, ze3⟩ := HBR.out.c4
     obtain ⟨zf0, zf1, zf2, zf3⟩ := HBR.out.f4
     go_wp2_with fail
     obtain ⟨h1, h3⟩ := HKEY.out _ (show Turn [w.heap.size + 1] wr ((((wr.setCell ⟨w.heap.size + 1, 0, none⟩ (.slice ak kl.length ck)).setCell ⟨w.heap.size + 1, 1, none⟩ (.slice r3 m.fSafe.length q3)).setCell ⟨w.heap.size + 1, 2, none⟩ (.slice d2 m.fSafe.length e2)).setCell ⟨w.heap.size + 1, 3, none⟩ (.int .i64 m.fNext)) from turn4 _ _ _ _ _ _)
     exact bodyPost_ret (v := .agg #[.slice ak kl.length ck, .slice r3 m.fSafe.length q3, .slice d2 m.fSafe.length e2, .int .i64 m.fNext]) (by simp [results, Tryz.results40, go_sem, *]) rfl ⟨[.slice ak kl.length ck, .slice r3 m.fSafe.length q3, .slice d2 m.fSafe.length e2, .int .i64 m.fNext], rfl, h1, h3⟩
 ·have HV : Hid (fallP m kp = m) := by show _ = _; unfold fallP; rw [if_neg (by intro h; exact hK h.1)]
  have hK2 : diskOk m = false := Bool.eq_false_iff.2 hK
  rw [hK2]
  clear hK hK2
  obtain ⟨ze0, zf0, ze1, zf1, ze2, zf2, ze3, zf3⟩ := hbr2.c8
  have hlt0 := hbr2.lt
  have hO3 : oDisk w2 [.slice d0 m.fInodes.length e0, .slice d1 m.fNames.length e1, .slice d2 m.fSafe.length e2, .int .i64 m.fNext] (fallP m kp) (G0 ++ G1 ++ G2 ++ []) := by rw [HV.out]; exact oDisk_good.frame HO.out (fun b hb => hb12.block b (HLT.out b hb))
  have hG3 : ∀ b, b ∈ G0 ++ G1 ++ G2 ++ [] -> w.heap.size + 2 <= b := fun b hb => by have := HGE.out b hb; omega
  have HBf := Hm hb2
  have HO3 := Hm hO3
  clear hO3
  go_wp2_with fail
  refine bodyPost_ret (v := .agg #[.slice d0 m.fInodes.length e0, .slice d1 m.fNames.length e1, .slice d2 m.fSafe.length e2, .int .i64 m.fNext]) (by simp [results, Tryz.results40, go_sem, *]) rfl ⟨[.slice d0 m.fInodes.length e0, .slice d1 m.fNames.length e1, .slice d2 m.fSafe.length e2, .int .i64 m.fNext], by first | rfl | rw [HCP.out], ?_, ?_⟩
  ·exact ⟨_, oDisk_good.frame HO3.out (fun b hb => (show Turn [w.heap.size + 1] w2 _ from by repeat (first | with_reducible exact Turn.refl _ _ | with_reducible refine Turn.setCell ?_ (by simp) _ | with_reducible refine Turn.alloc ?_ _ | with_reducible refine Turn.drew ?_)).block b (oDisk_good.lt HO3.out b hb) (by intro h; simp at h; have := hG3 b hb; omega)), fun b hb => by first | (have := hG3 b hb; omega) | (have := hge b hb; omega) | (rcases hF4 b hb with h2 | h2; (have := HSUB.out b h2; omega); omega)⟩
  ·exact HBf.out.trans ((show Turn [w.heap.size + 1] w2 _ from by repeat (first | with_reducible exact Turn.refl _ _ | with_reducible refine Turn.setCell ?_ (by simp) _ | with_reducible refine Turn.alloc ?_ _ | with_reducible refine Turn.drew ?_)).below (fun k hk => by simp at hk; omega) HBf.out.size)
end Go.Proofs.YtegonncmopecnaaGreatDoor
