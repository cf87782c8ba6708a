/-
  Lists of pairs merged: keys rise, and each pair is of the first list that has its key: plainly.
-/
import Derived.Test.YtiahmcclmlmgpaaDoorMergeM
namespace Go.Proofs.YtiahmcclmlmgpaaDoor
open Go.RowKit
set_option linter.unusedVariables false
set_option linter.unusedSimpArgs false

/-- Keys rise. -/
def Asc (l : List MPair) : Prop := l.Pairwise fun x y => kLt x.fKey y.fKey = true
theorem asc_ok : ∀ {l : List MPair} {pv : Option ByteArray}, upFrom pv l = true → Asc l ∧ ∀ x, x ∈ l → okPrev pv x.fKey = true
  | [], _, _ => ⟨List.Pairwise.nil, fun _ h => by cases h⟩
  | p :: r, pv, h => by
    simp only [upFrom, Bool.and_eq_true] at h
    obtain ⟨h1, h2⟩ := asc_ok h.2
    refine ⟨List.pairwise_cons.2 ⟨fun x hx => h2 x hx, h1⟩, fun x hx => ?_⟩
    rcases List.mem_cons.1 hx with rfl | hx
    · exact h.1.2
    · cases pv with
      | none => rfl
      | some s => exact kLt_trans h.1.2 (h2 x hx)
theorem kLt_ne {a b : ByteArray} (h : kLt a b = true) : a ≠ b := fun e => by rw [e, kLt_irrefl] at h; cases h

theorem mergeP_all : ∀ (n : Nat) (a b : List MPair), a.length + b.length ≤ n → Asc a → Asc b →
    Asc (mergeP a b) ∧ ∀ x, x ∈ mergeP a b ↔ x ∈ a ∨ (x ∈ b ∧ ∀ y, y ∈ a → y.fKey ≠ x.fKey)
  | _, [], b, _, _, hb => by
    rw [mergeP_nil]
    exact ⟨hb, fun x => ⟨fun h => .inr ⟨h, fun y hy => by cases hy⟩, fun h => h.elim (fun h => by cases h) (fun h => h.1)⟩⟩
  | _, x :: a, [], _, ha, _ => by
    rw [mergeP_nil']
    exact ⟨ha, fun z => ⟨fun h => .inl h, fun h => h.elim id (fun h => by cases h.1)⟩⟩
  | 0, x :: a, y :: b, hn, _, _ => by simp at hn
  | n + 1, x :: a, y :: b, hn, ha, hb => by
    simp only [List.length_cons] at hn
    obtain ⟨ha1, ha2⟩ := List.pairwise_cons.1 ha
    obtain ⟨hb1, hb2⟩ := List.pairwise_cons.1 hb
    by_cases h1 : kLt x.fKey y.fKey = true
    · obtain ⟨c1, c2⟩ := mergeP_all n a (y :: b) (by simp; omega) ha2 hb
      rw [mergeP_less h1]
      refine ⟨List.pairwise_cons.2 ⟨fun z hz => ?_, c1⟩, fun z => ?_⟩
      · rcases (c2 z).1 hz with h | ⟨h, _⟩
        · exact ha1 z h
        · rcases List.mem_cons.1 h with rfl | h
          · exact h1
          · exact kLt_trans h1 (hb1 z h)
      · rw [List.mem_cons, c2, List.mem_cons (a := z) (l := a)]
        constructor
        · rintro (rfl | h | ⟨h, h2⟩)
          · exact .inl (.inl rfl)
          · exact .inl (.inr h)
          · refine .inr ⟨h, fun u hu => ?_⟩
            rcases List.mem_cons.1 hu with rfl | hu
            · have : kLt u.fKey z.fKey = true := by
                rcases List.mem_cons.1 h with rfl | h
                · exact h1
                · exact kLt_trans h1 (hb1 z h)
              exact kLt_ne this
            · exact h2 u hu
        · rintro ((rfl | h) | ⟨h, h2⟩)
          · exact .inl rfl
          · exact .inr (.inl h)
          · exact .inr (.inr ⟨h, fun u hu => h2 u (List.mem_cons_of_mem _ hu)⟩)
    · have h1f := Bool.eq_false_iff.2 h1
      by_cases h2 : kLt y.fKey x.fKey = true
      · obtain ⟨c1, c2⟩ := mergeP_all n (x :: a) b (by simp; omega) ha hb2
        rw [mergeP_more h2]
        have hyx : ∀ u, u ∈ x :: a → kLt y.fKey u.fKey = true := fun u hu => by
          rcases List.mem_cons.1 hu with rfl | hu
          · exact h2
          · exact kLt_trans h2 (ha1 u hu)
        refine ⟨List.pairwise_cons.2 ⟨fun z hz => ?_, c1⟩, fun z => ?_⟩
        · rcases (c2 z).1 hz with h | ⟨h, _⟩
          · exact hyx z h
          · exact hb1 z h
        · rw [List.mem_cons, c2, List.mem_cons (a := z) (l := b)]
          constructor
          · rintro (rfl | h | ⟨h, h3⟩)
            · exact .inr ⟨.inl rfl, fun u hu e => kLt_ne (hyx u hu) e.symm⟩
            · exact .inl h
            · exact .inr ⟨.inr h, h3⟩
          · rintro (h | ⟨rfl | h, h3⟩)
            · exact .inr (.inl h)
            · exact .inl rfl
            · exact .inr (.inr ⟨h, h3⟩)
      · have h2f := Bool.eq_false_iff.2 h2
        have hxy : x.fKey = y.fKey := by
          by_cases he : x.fKey = y.fKey
          · exact he
          · rw [kLt_tri h1f he] at h2f; cases h2f
        obtain ⟨c1, c2⟩ := mergeP_all n a b (by omega) ha2 hb2
        rw [mergeP_same h1f h2f]
        refine ⟨List.pairwise_cons.2 ⟨fun z hz => ?_, c1⟩, fun z => ?_⟩
        · rcases (c2 z).1 hz with h | ⟨h, _⟩
          · exact ha1 z h
          · rw [hxy]; exact hb1 z h
        · rw [List.mem_cons, c2, List.mem_cons (a := z) (l := a), List.mem_cons (a := z) (l := b)]
          constructor
          · rintro (rfl | h | ⟨h, h3⟩)
            · exact .inl (.inl rfl)
            · exact .inl (.inr h)
            · refine .inr ⟨.inr h, fun u hu => ?_⟩
              rcases List.mem_cons.1 hu with rfl | hu
              · rw [hxy]; exact kLt_ne (hb1 z h)
              · exact h3 u hu
          · rintro ((rfl | h) | ⟨rfl | h, h3⟩)
            · exact .inl rfl
            · exact .inr (.inl h)
            · exact absurd hxy (h3 x (List.mem_cons_self ..))
            · exact .inr (.inr ⟨h, fun u hu => h3 u (List.mem_cons_of_mem _ hu)⟩)

/-- All lists merged, one behind the other. -/
theorem fold_all (ll : List (List MPair)) (hll : ∀ a, a ∈ ll → Asc a) : ∀ k, k ≤ ll.length →
    Asc ((ll.take k).foldl mergeP []) ∧ ∀ x, x ∈ (ll.take k).foldl mergeP [] ↔ ∃ j, ∃ h : j < ll.length, j < k ∧ x ∈ ll[j] ∧ ∀ i, (hi : i < ll.length) → i < j → ∀ y, y ∈ ll[i] → y.fKey ≠ x.fKey
  | 0, _ => ⟨List.Pairwise.nil, fun x => ⟨fun h => (List.not_mem_nil h).elim, fun ⟨j, _, h, _⟩ => by omega⟩⟩
  | k + 1, hk => by
    have hkl : k < ll.length := by omega
    obtain ⟨a1, a2⟩ := fold_all ll hll k (by omega)
    have e : (ll.take (k + 1)).foldl mergeP [] = mergeP ((ll.take k).foldl mergeP []) ll[k] := by
      rw [List.take_succ_eq_append_getElem hkl, List.foldl_append]; rfl
    obtain ⟨b1, b2⟩ := mergeP_all _ _ _ (Nat.le_refl _) a1 (hll _ (List.getElem_mem hkl))
    rw [e]
    refine ⟨b1, fun x => ?_⟩
    rw [b2, a2]
    constructor
    · rintro (⟨j, hj, h1, h2, h3⟩ | ⟨h, h2⟩)
      · exact ⟨j, hj, by omega, h2, h3⟩
      · by_cases hex : ∃ i, ∃ hi : i < ll.length, i < k ∧ ∃ y, y ∈ ll[i] ∧ y.fKey = x.fKey
        · exfalso
          -- the first such list
          have key : ∀ m, ∀ i, (hi : i < ll.length) → i < k → i ≤ m → ∀ y, y ∈ ll[i] → y.fKey = x.fKey → False := by
            intro m
            induction m with
            | zero =>
              intro i hi hik him y hy hyx
              obtain rfl : i = 0 := by omega
              exact h2 y ((a2 y).2 ⟨0, hi, hik, hy, fun i' hi' h' => by omega⟩) hyx
            | succ m ih =>
              intro i hi hik him y hy hyx
              refine h2 y ((a2 y).2 ⟨i, hi, hik, hy, fun i' hi' h' z hz e => ?_⟩) hyx
              exact ih i' hi' (by omega) (by omega) z hz (e.trans hyx)
          obtain ⟨i, hi, hik, y, hy, hyx⟩ := hex
          exact key i i hi hik (Nat.le_refl _) y hy hyx
        · exact ⟨k, hkl, by omega, h, fun i hi hik y hy e => hex ⟨i, hi, hik, y, hy, e⟩⟩
    · rintro ⟨j, hj, h1, h2, h3⟩
      by_cases hjk : j < k
      · exact .inl ⟨j, hj, hjk, h2, h3⟩
      · obtain rfl : j = k := by omega
        refine .inr ⟨h2, fun y hy e => ?_⟩
        obtain ⟨i, hi, hij, hy2, _⟩ := (a2 y).1 hy
        exact h3 i hi hij y hy2 e

end Go.Proofs.YtiahmcclmlmgpaaDoor
