/-
  A list of structs of one's own of which one cell is written, or that is made longer; no program is named here.
-/
import Derived.Test.YtembioiaeimegaaDatK
namespace Go.Proofs.Ytembioiaeimegaa
open Go.RowKit
set_option linter.unusedVariables false
set_option linter.unusedSimpArgs false

theorem flatten_nodup_iff : ∀ {Fs : List (List Nat)}, Fs.flatten.Nodup ↔ (∀ F, F ∈ Fs → F.Nodup) ∧ Fs.Pairwise (fun F G => ∀ x, x ∈ F → x ∉ G)
  | [] => by simp
  | F :: r => by
    rw [List.flatten_cons, List.nodup_append, flatten_nodup_iff, List.pairwise_cons]
    constructor
    · rintro ⟨h1, ⟨h2, h3⟩, h4⟩
      refine ⟨?_, fun G hG x hx hxG => h4 x hx x (List.mem_flatten.2 ⟨G, hG, hxG⟩) rfl, h3⟩
      intro G hG
      rcases List.mem_cons.1 hG with rfl | hG
      · exact h1
      · exact h2 G hG
    · rintro ⟨h1, h2, h3⟩
      refine ⟨h1 F (by simp), ⟨fun G hG => h1 G (by simp [hG]), h3⟩, ?_⟩
      intro x hx y hy hxy
      subst hxy
      obtain ⟨G, hG, hxG⟩ := List.mem_flatten.1 hy
      exact h2 G hG x hx hxG

/-- One list of the footprint is put in another's place: what is new is met nowhere else. -/
theorem set_nodup {Fs : List (List Nat)} {k : Nat} {G Fn : List Nat} (hk : k < Fs.length) (h : Fs.flatten.Nodup) (hG : G.Nodup) (hsub : ∀ b, b ∈ G → b ∈ Fs.getD k [] ∨ b ∈ Fn) (hnew : ∀ b, b ∈ Fn → b ∉ Fs.flatten) :
    (Fs.set k G).flatten.Nodup ∧ ∀ b, b ∈ (Fs.set k G).flatten → b ∈ Fs.flatten ∨ b ∈ Fn := by
  have hgd : Fs.getD k [] = Fs[k] := by rw [List.getD_eq_getElem?_getD, List.getElem?_eq_getElem hk]; rfl
  rw [hgd] at hsub
  rw [flatten_nodup_iff] at h
  have hp := List.pairwise_iff_getElem.1 h.2
  refine ⟨flatten_nodup_iff.2 ⟨?_, ?_⟩, ?_⟩
  · intro F hF
    obtain ⟨i, hi, rfl⟩ := List.mem_iff_getElem.1 hF
    rw [List.getElem_set]
    split
    · exact hG
    · exact h.1 _ (List.getElem_mem _)
  · rw [List.pairwise_iff_getElem]
    intro i j hi hj hij x hx hxj
    simp only [List.length_set] at hi hj
    rw [List.getElem_set] at hx hxj
    split at hx
    · next hik =>
      subst hik
      rw [if_neg (by omega)] at hxj
      rcases hsub x hx with h1 | h1
      · exact hp k j hk hj hij x h1 hxj
      · exact hnew x h1 (List.mem_flatten.2 ⟨_, List.getElem_mem hj, hxj⟩)
    · split at hxj
      · next hjk =>
        subst hjk
        rcases hsub x hxj with h1 | h1
        · exact hp i k hi hk hij x hx h1
        · exact hnew x h1 (List.mem_flatten.2 ⟨_, List.getElem_mem hi, hx⟩)
      · exact hp i j hi hj hij x hx hxj
  · intro b hb
    obtain ⟨F, hF, hbF⟩ := List.mem_flatten.1 hb
    obtain ⟨i, hi, rfl⟩ := List.mem_iff_getElem.1 hF
    rw [List.getElem_set] at hbF
    split at hbF
    · rcases hsub b hbF with h1 | h1
      · exact .inl (List.mem_flatten.2 ⟨_, List.getElem_mem hk, h1⟩)
      · exact .inr h1
    · exact .inl (List.mem_flatten.2 ⟨_, List.getElem_mem _, hbF⟩)

theorem ownS.shape {α : Type} {size : Nat} {e : TypeId} {O : ORep α} {w : World} {v : Value} {l : List α} {F : List Nat} (h : ownS size e O w v l F) (hl : 0 < l.length) :
    ∃ g cap, v = .slice (some ⟨g, 0, none⟩) l.length cap ∧ g ∈ F ∧ g < w.heap.size := by
  rcases h with ⟨_, rfl, _⟩ | ⟨g, cap, cur, Fs, h1, h2, h3, h4, h5, h6, h7, rfl⟩
  · simp at hl
  · exact ⟨g, cap, h1, by simp, (Array.getElem?_eq_some_iff.1 h2).1⟩

/-- One cell of one element is written. -/
theorem ownS.cellPut {α : Type} {size : Nat} {e : TypeId} {O : ORep α} {R : Rep α} (hO : O.Good R size) {w : World} {g cap : Nat} {l : List α} {F : List Nat} (h : ownS size e O w (.slice (some ⟨g, 0, none⟩) l.length cap) l F) (hN : F.Nodup)
    {k i : Nat} (hk : k < l.length) (hi : i < size) (u : Value) (m' : α) (Fn : List Nat) (hFn : ∀ b, b ∈ Fn → b ∉ F)
    (hm : ∀ cs Fk, O w cs l[k] Fk → Fk.Nodup → ∃ G, O w (cs.set i u) m' G ∧ G.Nodup ∧ ∀ b, b ∈ G → b ∈ Fk ∨ b ∈ Fn) :
    ∃ F', ownS size e O (w.setCell ⟨g, k * size + i, none⟩ u) (.slice (some ⟨g, 0, none⟩) l.length cap) (l.set k m') F' ∧ F'.Nodup ∧ (∀ b, b ∈ F' → b ∈ F ∨ b ∈ Fn) ∧ g ∈ F := by
  rcases h with ⟨h0, _, _⟩ | ⟨g', cap', cur, Fs, h1, h2, h3, h4, h5, h6, h7, rfl⟩
  · cases h0
  · simp only [Value.slice.injEq, Option.some.injEq, Addr.mk.injEq, and_true, true_and] at h1
    obtain ⟨rfl, rfl⟩ := h1
    rw [List.nodup_cons] at hN
    have hkF : k < Fs.length := by omega
    have hgk : Fs.getD k [] = Fs[k] := by rw [List.getD_eq_getElem?_getD, List.getElem?_eq_getElem hkF]; rfl
    have hnk : (Fs.getD k []).Nodup := by rw [hgk]; exact (flatten_nodup_iff.1 hN.2).1 _ (List.getElem_mem hkF)
    obtain ⟨G, g1, g2, g3⟩ := hm _ _ (h7 k hk) hnk
    have hFn' : ∀ b, b ∈ Fn → b ∉ Fs.flatten := fun b hb hb2 => hFn b hb (List.mem_cons_of_mem _ hb2)
    obtain ⟨n1, n2⟩ := set_nodup hkF hN.2 g2 g3 hFn'
    have hgF : g ∉ (Fs.set k G).flatten := by
      intro hg
      rcases n2 g hg with hg | hg
      · exact hN.1 hg
      · exact hFn g hg (by simp)
    have hs := heap_setCell_same w g (k * size + i) cur e u h2
    refine ⟨g :: (Fs.set k G).flatten, .inr ⟨g, cap, cur.setIfInBounds (k * size + i) u, Fs.set k G, by simp, hs, by simpa using h3, h4, by simpa using h5, by simp [h6], ?_, rfl⟩, List.nodup_cons.2 ⟨hgF, n1⟩, ?_, by simp⟩
    · intro j hj
      have hj' : j < l.length := by simpa using hj
      have hfr : ∀ b, b ∈ (Fs.set k G).getD j [] → (w.setCell ⟨g, k * size + i, none⟩ u).heap[b]? = w.heap[b]? := by
        intro b hb
        have hbf : b ∈ (Fs.set k G).flatten := mem_flatten_getD (by simp; omega) hb
        exact heap_setCell_other w ⟨g, k * size + i, none⟩ b u (fun hh => hgF (by have : b = g := hh; rw [← this]; exact hbf))
      have hlen : cur.toList.length = cap * size := by simpa using h5
      by_cases hjk : j = k
      · subst hjk
        have e1 : ((cur.setIfInBounds (j * size + i) u).toList.drop (j * size)).take size = ((cur.toList.drop (j * size)).take size).set i u := by
          rw [Array.toList_setIfInBounds]
          apply List.ext_getElem?
          intro x
          rw [List.getElem?_take, List.getElem?_drop, List.getElem?_set, List.getElem?_set, List.getElem?_take, List.getElem?_drop]
          by_cases hx : x < size
          · rw [if_pos hx, if_pos hx]
            by_cases hxi : i = x
            · subst hxi
              have hmul : (j + 1) * size ≤ cap * size := Nat.mul_le_mul_right _ (by omega)
              rw [Nat.succ_mul] at hmul
              rw [if_pos rfl, if_pos rfl, if_pos (by omega), if_pos (by simp; omega)]
            · rw [if_neg (by omega), if_neg hxi]
          · rw [if_neg hx, if_neg (by omega), if_neg hx]
        have e2 : (Fs.set j G).getD j [] = G := by rw [List.getD_eq_getElem?_getD, List.getElem?_set_self (by omega)]; rfl
        rw [List.getElem_set_self, e1]
        rw [e2] at hfr ⊢
        exact hO.frame g1 hfr
      · have e1 : ((cur.setIfInBounds (k * size + i) u).toList.drop (j * size)).take size = (cur.toList.drop (j * size)).take size := by
          rw [Array.toList_setIfInBounds]
          apply List.ext_getElem?
          intro x
          rw [List.getElem?_take, List.getElem?_drop, List.getElem?_set, List.getElem?_take, List.getElem?_drop]
          by_cases hx : x < size
          · rw [if_pos hx, if_pos hx]
            have : k * size + i ≠ j * size + x := by
              intro hh
              rcases Nat.lt_or_gt_of_ne hjk with hlt | hlt
              · have hmul : (j + 1) * size ≤ k * size := Nat.mul_le_mul_right _ hlt
                rw [Nat.succ_mul] at hmul; omega
              · have hmul : (k + 1) * size ≤ j * size := Nat.mul_le_mul_right _ hlt
                rw [Nat.succ_mul] at hmul; omega
            rw [if_neg this]
          · rw [if_neg hx, if_neg hx]
        have e2 : (Fs.set k G).getD j [] = Fs.getD j [] := by rw [List.getD_eq_getElem?_getD, List.getD_eq_getElem?_getD, List.getElem?_set_ne (Ne.symm hjk)]
        rw [List.getElem_set_ne (Ne.symm hjk), e1]
        rw [e2] at hfr ⊢
        exact hO.frame (h7 j hj') hfr
    · intro b hb
      rcases List.mem_cons.1 hb with rfl | hb
      · exact .inl (by simp)
      · rcases n2 b hb with h | h
        · exact .inl (List.mem_cons_of_mem _ h)
        · exact .inr h

/-- What one element's cells are. -/
theorem ownS.cells {α : Type} {size : Nat} {e : TypeId} {O : ORep α} {R : Rep α} (hO : O.Good R size) {w : World} {g cap : Nat} {l : List α} {F : List Nat} (h : ownS size e O w (.slice (some ⟨g, 0, none⟩) l.length cap) l F) {k : Nat} (hk : k < l.length) :
    ∃ cs Fk, O w cs l[k] Fk ∧ (∀ b, b ∈ Fk → b ∈ F) ∧ (F.Nodup → Fk.Nodup) ∧ (∀ i u, cs[i]? = some u → w.cell? ⟨g, k * size + i, none⟩ = some u) ∧ ∀ i, w.frozen? ⟨g, i, none⟩ = false := by
  rcases h with ⟨h0, _, _⟩ | ⟨g', cap', cur, Fs, h1, h2, h3, h4, h5, h6, h7, rfl⟩
  · cases h0
  · simp only [Value.slice.injEq, Option.some.injEq, Addr.mk.injEq, and_true, true_and] at h1
    obtain ⟨rfl, rfl⟩ := h1
    have hkF : k < Fs.length := by omega
    have hgk : Fs.getD k [] = Fs[k] := by rw [List.getD_eq_getElem?_getD, List.getElem?_eq_getElem hkF]; rfl
    refine ⟨_, _, h7 k hk, fun b hb => List.mem_cons_of_mem _ (mem_flatten_getD hkF hb), fun hN => ?_, fun i u hu => ?_, fun i => frozen_of_row w g i cur e h2⟩
    · rw [hgk]
      exact (flatten_nodup_iff.1 (List.nodup_cons.1 hN).2).1 _ (List.getElem_mem hkF)
    · rw [cell_of_row w g _ cur e (0, 0) h2]
      rw [List.getElem?_take] at hu
      split at hu
      · rw [List.getElem?_drop] at hu
        simpa using hu
      · cases hu

end Go.Proofs.Ytembioiaeimegaa
