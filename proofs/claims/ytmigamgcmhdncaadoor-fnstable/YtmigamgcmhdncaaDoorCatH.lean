/-
  A row whose first elements are one's own already, the others only read; no program is named here.
-/
import Derived.Test.YtmigamgcmhdncaaDoorCatG
namespace Go.Proofs.YtmigamgcmhdncaaDoor
open Go.RowKit
set_option linter.unusedVariables false
set_option linter.unusedSimpArgs false

structure Half {α : Type} (size : Nat) (e : TypeId) (O : ORep α) (R : Rep α) (B : Nat) (w : World) (g cap : Nat) (l : List α) (k : Nat) (Fs : List (List Nat)) : Prop where
  row : ∃ cur : Array Value, w.heap[g]? = some (.cells cur e (0, 0)) ∧ cur.size = cap * size ∧ (∀ j, (h : j < l.length) → j < k → O w (seg size cur j) l[j] (Fs.getD j [])) ∧ ∀ j, (h : j < l.length) → k ≤ j → R B w (seg size cur j) l[j] ∧ (seg size cur j).length = size
  le : l.length ≤ cap
  max : cap ≤ maxLen
  flen : Fs.length = k
  over : ∀ b, b ∈ Fs.flatten → g < b ∧ b < w.heap.size
  nodup : Fs.flatten.Nodup

theorem Half.start {α : Type} {size : Nat} {e : TypeId} {O : ORep α} {R : Rep α} {B : Nat} {w : World} {base g cap : Nat} {l : List α} (h : RowR size e R B w base (.slice (some ⟨g, 0, none⟩) l.length cap) l) : Half size e O R B w g cap l 0 [] ∧ base ≤ g ∧ g < w.heap.size := by
  obtain ⟨css, h1, h2, h3, h4⟩ := h
  rcases h4.2 with ⟨hv, _⟩ | ⟨g', cap', cur, hv, hb, hg, hnc, hm, hs, ht⟩
  · cases hv
  · simp only [Value.slice.injEq, Option.some.injEq, Addr.mk.injEq, and_true, true_and] at hv
    obtain ⟨rfl, rfl⟩ := hv
    refine ⟨⟨⟨cur, hg, hs, fun j hj hk => by omega, fun j hj _ => ?_⟩, hnc, hm, rfl, fun b hb => by simp at hb, by simp⟩, hb, (Array.getElem?_eq_some_iff.1 hg).1⟩
    have hj2 : j < css.length := by omega
    have hmul : (j + 1) * size ≤ l.length * size := Nat.mul_le_mul_right _ hj
    rw [Nat.succ_mul] at hmul
    have e0 : seg size cur j = css[j] := by
      unfold seg
      rw [← flat_part h2 hj2, ← ht]
      apply List.ext_getElem?
      intro i
      rw [List.getElem?_take, List.getElem?_take, List.getElem?_drop, List.getElem?_drop, List.getElem?_take]
      by_cases hi : i < size
      · rw [if_pos hi, if_pos hi, if_pos (by omega)]
      · rw [if_neg hi, if_neg hi]
    rw [e0]
    exact ⟨h3 j hj hj2, h2 _ (List.getElem_mem hj2)⟩

theorem Half.at {α : Type} {size : Nat} {e : TypeId} {O : ORep α} {R : Rep α} {B : Nat} {w : World} {g cap : Nat} {l : List α} {k : Nat} {Fs : List (List Nat)} (h : Half size e O R B w g cap l k Fs) (hk : k < l.length) :
    ∃ cs, R B w cs l[k] ∧ cs.length = size ∧ (∀ i u, cs[i]? = some u → w.cell? ⟨g, k * size + i, none⟩ = some u) ∧ (∀ i, w.frozen? ⟨g, i, none⟩ = false) ∧
      ∀ (w1 : World) (i : Nat) (u : Value) (F : List Nat), B ≤ g → g < w.heap.size → Below w.heap.size w w1 → i < size → R.Good → O.Good R size → O w1 (cs.set i u) l[k] F → F.Nodup → (∀ b, b ∈ F → w.heap.size ≤ b) → B ≤ w.heap.size → Half size e O R B (w1.setCell ⟨g, k * size + i, none⟩ u) g cap l (k + 1) (Fs ++ [F]) := by
  obtain ⟨⟨cur, c1, c2, c3, c4⟩, hle, hmax, f1, f2, f3⟩ := h
  refine ⟨seg size cur k, (c4 k hk (Nat.le_refl _)).1, (c4 k hk (Nat.le_refl _)).2, ?_, fun i => frozen_of_row w g i cur e c1, ?_⟩
  · intro i u hu
    rw [cell_of_row w g _ cur e (0, 0) c1]
    have hi : i < size := by
      have h1 := (List.getElem?_eq_some_iff.1 hu).1
      rw [(c4 k hk (Nat.le_refl _)).2] at h1
      exact h1
    rw [seg_get hi] at hu
    exact hu
  · intro w1 i u F hBg hg hb hi hR hO ho hN hF hBw
    have c1' : w1.heap[g]? = some (.cells cur e (0, 0)) := by rw [hb.block g hg]; exact c1
    have hbk : ∀ b, b ≠ g → (w1.setCell ⟨g, k * size + i, none⟩ u).heap[b]? = w1.heap[b]? := fun b hne => heap_setCell_other w1 ⟨g, k * size + i, none⟩ b u hne
    have hBl : Below B w (w1.setCell ⟨g, k * size + i, none⟩ u) := (hb.mono hBw).setCell hBg u
    refine ⟨⟨cur.setIfInBounds (k * size + i) u, heap_setCell_same w1 g _ cur e u c1', by simpa using c2, ?_, ?_⟩, hle, hmax, by simp [f1], ?_, ?_⟩
    · intro j hj hjk
      by_cases hje : j = k
      · subst hje
        rw [seg_set hi]
        have e2 : (Fs ++ [F]).getD j [] = F := by rw [List.getD_eq_getElem?_getD, List.getElem?_append_right (by omega), f1, Nat.sub_self]; rfl
        rw [e2]
        exact hO.frame ho (fun b hb' => hbk b (by have := hF b hb'; omega))
      · have hlt : j < k := by omega
        rw [seg_set_other hi hje]
        have e2 : (Fs ++ [F]).getD j [] = Fs.getD j [] := by rw [List.getD_eq_getElem?_getD, List.getD_eq_getElem?_getD, List.getElem?_append_left (by omega)]
        rw [e2]
        refine hO.frame (c3 j hj hlt) (fun b hb' => ?_)
        have h2 := f2 b (mem_flatten_getD (by omega) hb')
        rw [hbk b (by omega), hb.block b h2.2]
    · intro j hj hjk
      rw [seg_set_other hi (by omega)]
      exact ⟨hR.below (c4 j hj (by omega)).1 hBl, (c4 j hj (by omega)).2⟩
    · intro b hbF
      rw [List.flatten_append, List.mem_append] at hbF
      have hsz : (w1.setCell ⟨g, k * size + i, none⟩ u).heap.size = w1.heap.size := by simp
      rw [hsz]
      rcases hbF with hbF | hbF
      · have := f2 b hbF; have := hb.size; omega
      · have hbF : b ∈ F := by simpa using hbF
        have h1 := hF b hbF; have h2 := hO.lt ho b hbF; omega
    · rw [List.flatten_append]
      refine List.nodup_append.2 ⟨f3, by simpa using hN, ?_⟩
      intro a ha b hb' hab
      subst hab
      have h1 := f2 a ha
      have h2 := hF a (by simpa using hb')
      omega

theorem Half.done {α : Type} {size : Nat} {e : TypeId} {O : ORep α} {R : Rep α} {B : Nat} {w : World} {g cap : Nat} {l : List α} {k : Nat} {Fs : List (List Nat)} (h : Half size e O R B w g cap l k Fs) (hk : l.length ≤ k) (hkl : k ≤ l.length) :
    ownS size e O w (.slice (some ⟨g, 0, none⟩) l.length cap) l (g :: Fs.flatten) ∧ (g :: Fs.flatten).Nodup := by
  obtain ⟨⟨cur, c1, c2, c3, c4⟩, hle, hmax, f1, f2, f3⟩ := h
  refine ⟨.inr ⟨g, cap, cur, Fs, rfl, c1, hle, hmax, c2, by omega, fun j hj => c3 j hj (by omega), rfl⟩, List.nodup_cons.2 ⟨fun hm => ?_, f3⟩⟩
  have := f2 g hm
  omega

end Go.Proofs.YtmigamgcmhdncaaDoor
