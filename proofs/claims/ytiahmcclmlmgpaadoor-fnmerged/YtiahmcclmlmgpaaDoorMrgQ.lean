/-
  What merged lists hold, plainly.
-/
import Derived.Test.YtiahmcclmlmgpaaDoorMrgP
import Derived.Test.YtiahmcclmlmgpaaDoorMergeC
namespace Go.Proofs.YtiahmcclmlmgpaaDoor
open Go.RowKit Go.Maps
set_option linter.unusedVariables false
set_option linter.unusedSimpArgs false

theorem asc_one {l : List MPair} (h : Asc l) {x y : MPair} (hx : x ∈ l) (hy : y ∈ l) (e : y.fKey = x.fKey) : y = x := by
  obtain ⟨i, hi, rfl⟩ := List.getElem_of_mem hx
  obtain ⟨j, hj, rfl⟩ := List.getElem_of_mem hy
  rcases Nat.lt_trichotomy i j with h1 | h1 | h1
  · exact absurd e.symm (kLt_ne (List.pairwise_iff_getElem.1 h i j hi hj h1))
  · subst h1; rfl
  · exact absurd e (kLt_ne (List.pairwise_iff_getElem.1 h j i hj hi h1))

/-- Where a pair of merged lists is from: the first list that has its key has it so. -/
def FromL (ll : List (List MPair)) (x : MPair) : Prop :=
  ∃ j, ∃ h : j < ll.length, x ∈ ll[j] ∧ (∀ i, (hi : i < ll.length) → i < j → ∀ y, y ∈ ll[i] → y.fKey ≠ x.fKey) ∧ ∀ y, y ∈ ll[j] → y.fKey = x.fKey → y = x

theorem mrg_all (ll : List (List MPair)) (drop : Bool) : Asc (mrgP ll drop) ∧ (drop = true → ∀ x, x ∈ mrgP ll drop → x.fGone = false) ∧ ∀ x, x ∈ mrgP ll drop → FromL ll x := by
  unfold mrgP
  split
  · rename_i hok
    have hall : ∀ a, a ∈ ll → Asc a := by
      intro a ha
      unfold mrgOk at hok
      simp only [Bool.and_eq_true, List.all_eq_true] at hok
      have h := hok.2 a ha
      exact (asc_ok (pv := none) h).1
    obtain ⟨h1, h2⟩ := fold_all ll hall ll.length (Nat.le_refl _)
    rw [List.take_length] at h1 h2
    have hfrom : ∀ x, x ∈ foldM ll → FromL ll x := fun x hx => by
      obtain ⟨j, hj, _, hm, hf⟩ := (h2 x).1 hx
      exact ⟨j, hj, hm, hf, fun y hy e => asc_one (hall _ (List.getElem_mem hj)) hm hy e⟩
    cases drop with
    | true =>
      refine ⟨List.Pairwise.sublist List.filter_sublist h1, fun _ x hx => ?_, fun x hx => hfrom x (List.mem_filter.1 hx).1⟩
      have := (List.mem_filter.1 hx).2
      simpa using this
    | false => exact ⟨h1, fun h => (by cases h), hfrom⟩
  · exact ⟨List.Pairwise.nil, fun _ x hx => (List.not_mem_nil hx).elim, fun x hx => (List.not_mem_nil hx).elim⟩

end Go.Proofs.YtiahmcclmlmgpaaDoor
