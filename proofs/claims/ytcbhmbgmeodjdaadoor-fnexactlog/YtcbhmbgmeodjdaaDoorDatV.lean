/-
  One element of a list of structs of one's own, apart from the others; no program is named here.
-/
import Derived.Test.YtcbhmbgmeodjdaaDoorDatW
namespace Go.Proofs.YtcbhmbgmeodjdaaDoor
open Go.RowKit
set_option linter.unusedVariables false
set_option linter.unusedSimpArgs false

/-- One element: what it leads to, and what the list is once one of its cells is written, in a world in which what it led to may have turned. -/
theorem ownS.split {α : Type} {size : Nat} {e : TypeId} {O : ORep α} {R : Rep α} (hO : O.Good R size) {w : World} {g cap : Nat} {l : List α} {F : List Nat} (h : ownS size e O w (.slice (some ⟨g, 0, none⟩) l.length cap) l F) (hN : F.Nodup) {k : Nat} (hk : k < l.length) :
    ∃ cs Fk, O w cs l[k] Fk ∧ Fk.Nodup ∧ (∀ b, b ∈ Fk → b ∈ F ∧ b ≠ g) ∧ g ∈ F ∧ (∀ i u, cs[i]? = some u → w.cell? ⟨g, k * size + i, none⟩ = some u) ∧ (∀ i, w.frozen? ⟨g, i, none⟩ = false) ∧
      ∀ (W : World) (i : Nat) (u : Value) (m' : α) (G Fn : List Nat), i < size → Turn Fk w W → O W (cs.set i u) m' G → G.Nodup → (∀ b, b ∈ G → b ∈ Fk ∨ b ∈ Fn) → (∀ b, b ∈ Fn → b ∉ F) →
        ∃ F', ownS size e O (W.setCell ⟨g, k * size + i, none⟩ u) (.slice (some ⟨g, 0, none⟩) l.length cap) (l.set k m') F' ∧ F'.Nodup ∧ ∀ b, b ∈ F' → b ∈ F ∨ b ∈ Fn := by
  rcases h with ⟨h0, _, _⟩ | ⟨g', cap', cur, Fs, h1, h2, h3, h4, h5, h6, h7, rfl⟩
  · cases h0
  · simp only [Value.slice.injEq, Option.some.injEq, Addr.mk.injEq, and_true, true_and] at h1
    obtain ⟨rfl, rfl⟩ := h1
    rw [List.nodup_cons] at hN
    have hkF : k < Fs.length := by omega
    have hgk : Fs.getD k [] = Fs[k] := by rw [List.getD_eq_getElem?_getD, List.getElem?_eq_getElem hkF]; rfl
    have hfn := flatten_nodup_iff.1 hN.2
    have hnk : (Fs.getD k []).Nodup := by rw [hgk]; exact hfn.1 _ (List.getElem_mem hkF)
    refine ⟨_, _, h7 k hk, hnk, fun b hb => ⟨List.mem_cons_of_mem _ (mem_flatten_getD hkF hb), fun e => hN.1 (by rw [← e]; exact mem_flatten_getD hkF hb)⟩, by simp, fun i u hu => ?_, fun i => frozen_of_row w g i cur e h2, ?_⟩
    · rw [cell_of_row w g _ cur e (0, 0) h2]
      rw [List.getElem?_take] at hu
      split at hu
      · rw [List.getElem?_drop] at hu
        simpa using hu
      · cases hu
    intro W i u m' G Fn hi hT g1 g2 g3 hFn
    have hFn' : ∀ b, b ∈ Fn → b ∉ Fs.flatten := fun b hb hb2 => hFn b hb (List.mem_cons_of_mem _ hb2)
    obtain ⟨n1, n2⟩ := set_nodup hkF hN.2 g2 g3 hFn'
    have hgF : g ∉ (Fs.set k G).flatten := by
      intro hg
      rcases n2 g hg with hg | hg
      · exact hN.1 hg
      · exact hFn g hg (by simp)
    have hgW : W.heap[g]? = some (.cells cur e (0, 0)) := (hT.block g (Array.getElem?_eq_some_iff.1 h2).1 (fun hm => hN.1 (mem_flatten_getD hkF hm))).trans h2
    have hs := heap_setCell_same W g (k * size + i) cur e u hgW
    refine ⟨g :: (Fs.set k G).flatten, .inr ⟨g, cap, cur.setIfInBounds (k * size + i) u, Fs.set k G, by simp, hs, by simpa using h3, h4, by simpa using h5, by simp [h6], ?_, rfl⟩, List.nodup_cons.2 ⟨hgF, n1⟩, ?_⟩
    · intro j hj
      have hj' : j < l.length := by simpa using hj
      have hfr : ∀ b, b ∈ (Fs.set k G).getD j [] → (W.setCell ⟨g, k * size + i, none⟩ u).heap[b]? = W.heap[b]? := by
        intro b hb
        have hbf : b ∈ (Fs.set k G).flatten := mem_flatten_getD (by simp; omega) hb
        exact heap_setCell_other W ⟨g, k * size + i, none⟩ b u (fun hh => hgF (by have : b = g := hh; rw [← this]; exact hbf))
      have hlen : cur.toList.length = cap * size := by simpa using h5
      by_cases hjk : j = k
      · subst hjk
        have e1 : ((cur.setIfInBounds (j * size + i) u).toList.drop (j * size)).take size = ((cur.toList.drop (j * size)).take size).set i u := by
          rw [Array.toList_setIfInBounds]
          apply List.ext_getElem?
          intro x
          rw [List.getElem?_take, List.getElem?_drop, List.getElem?_set, List.getElem?_set, List.getElem?_take, List.getElem?_drop]
          by_cases hx : x < size
          · rw [if_pos hx, if_pos hx]
            by_cases hxi : i = x
            · subst hxi
              have hmul : (j + 1) * size ≤ cap * size := Nat.mul_le_mul_right _ (by omega)
              rw [Nat.succ_mul] at hmul
              rw [if_pos rfl, if_pos rfl, if_pos (by omega), if_pos (by simp; omega)]
            · rw [if_neg (by omega), if_neg hxi]
          · rw [if_neg hx, if_neg (by omega), if_neg hx]
        have e2 : (Fs.set j G).getD j [] = G := by rw [List.getD_eq_getElem?_getD, List.getElem?_set_self (by omega)]; rfl
        rw [List.getElem_set_self, e1]
        rw [e2] at hfr ⊢
        exact hO.frame g1 hfr
      · have e1 : ((cur.setIfInBounds (k * size + i) u).toList.drop (j * size)).take size = (cur.toList.drop (j * size)).take size := by
          rw [Array.toList_setIfInBounds]
          apply List.ext_getElem?
          intro x
          rw [List.getElem?_take, List.getElem?_drop, List.getElem?_set, List.getElem?_take, List.getElem?_drop]
          by_cases hx : x < size
          · rw [if_pos hx, if_pos hx]
            have : k * size + i ≠ j * size + x := by
              intro hh
              rcases Nat.lt_or_gt_of_ne hjk with hlt | hlt
              · have hmul : (j + 1) * size ≤ k * size := Nat.mul_le_mul_right _ hlt
                rw [Nat.succ_mul] at hmul; omega
              · have hmul : (k + 1) * size ≤ j * size := Nat.mul_le_mul_right _ hlt
                rw [Nat.succ_mul] at hmul; omega
            rw [if_neg this]
          · rw [if_neg hx, if_neg hx]
        have e2 : (Fs.set k G).getD j [] = Fs.getD j [] := by rw [List.getD_eq_getElem?_getD, List.getD_eq_getElem?_getD, List.getElem?_set_ne (Ne.symm hjk)]
        rw [List.getElem_set_ne (Ne.symm hjk), e1]
        rw [e2] at hfr ⊢
        have hjF : j < Fs.length := by omega
        have hgj : Fs.getD j [] = Fs[j] := by rw [List.getD_eq_getElem?_getD, List.getElem?_eq_getElem hjF]; rfl
        have hW : O W ((cur.toList.drop (j * size)).take size) l[j] (Fs.getD j []) := hO.frame (h7 j hj') (fun b hb => hT.block b (hO.lt (h7 j hj') b hb) (fun hm => by
          rw [hgj] at hb
          rw [hgk] at hm
          have hp := List.pairwise_iff_getElem.1 hfn.2
          rcases Nat.lt_or_gt_of_ne hjk with hlt | hlt
          · exact hp j k hjF hkF hlt b hb hm
          · exact hp k j hkF hjF hlt b hm hb))
        exact hO.frame hW hfr
    · intro b hb
      rcases List.mem_cons.1 hb with rfl | hb
      · exact .inl (by simp)
      · rcases n2 b hb with h | h
        · exact .inl (List.mem_cons_of_mem _ h)
        · exact .inr h


/-- The disk with one inode changed. -/
theorem oDisk_put {W : World} {g c0 : Nat} {a1 a2 : Option Addr} {c1 c2 : Nat} {m : MDisk} {F0 F1 F2 : List Nat} {p : Nat} {f : MInode → MInode} (hp : p < m.fInodes.length) (h0 : ownS 3 171 oInode W (.slice (some ⟨g, 0, none⟩) m.fInodes.length c0) (m.fInodes.set p (f m.fInodes[p])) F0) (h1 : ownS 2 169 oEntry W (.slice a1 m.fNames.length c1) m.fNames F1) (h2 : ownS 2 169 oEntry W (.slice a2 m.fSafe.length c2) m.fSafe F2)
    (h3 : (Lit.int .i64 m.fNext).wf = true) : oDisk W [.slice (some ⟨g, 0, none⟩) m.fInodes.length c0, .slice a1 m.fNames.length c1, .slice a2 m.fSafe.length c2, .int .i64 m.fNext] { m with fInodes := updI m.fInodes p f } (F0 ++ F1 ++ F2 ++ []) :=
  ⟨_, F0, _, F1, _, F2, rfl, by rw [updI_at hp]; exact h0, h1, h2, h3, rfl⟩

end Go.Proofs.YtcbhmbgmeodjdaaDoor
