/-
  What is whole: the contracts that the exact law asks for.
-/
import Derived.Test.YtmigamgcmhdncaaDoorWhlI
import Derived.Test.YtmigamgcmhdncaaDoorDotL
namespace Go.Proofs.YtmigamgcmhdncaaDoor
open Go.RowKit
set_option linter.unusedVariables false
set_option linter.unusedSimpArgs false

theorem WholeL.len {m : MGraph} {L : List MDot} (h : WholeL m L) : L.length ≤ m.fItems.length := by
  rcases h with ⟨_, rfl⟩ | ⟨_, P, _, rfl⟩
  · simp
  · exact pickT_len P _ _
theorem whole_ex (m : MGraph) : ∃ L, WholeL m L := by
  rcases h : graphP m with _ | _
  · exact ⟨[], .inl ⟨h, rfl⟩⟩
  · obtain ⟨P, hP⟩ := whole_set m.fItems
    exact ⟨_, .inr ⟨h, P, fun j _ => hP j, rfl⟩⟩
theorem boundWhole_0 (m : MGraph) (R : List MDot) (hR : WholeL m R) (hw : wGraph m ≤ 1048576) : wDs R ≤ 1099511627776 := by
  have h1 := hR.len
  have h2 : m.fItems.length + sumW wItem m.fItems ≤ 1048576 := hw
  unfold wDs
  rw [sumW_dots]
  omega
theorem specWhole_c (R : List MDot) (cs : List Value) (m : MGraph) (hR : WholeL m R) (w : World) (hr : rGraph w.heap.size w cs m) (hw : wGraph m ≤ 1048576) :
    Calls Tryd.prog 10 #[.agg cs.toArray] w fun e w' => ∃ v : Value, e = .returned v ∧ rdDs w'.heap.size w' v R ∧ Below w.heap.size w w' := by
  refine (specWhole_any cs m w hr hw).mono ?_
  rintro e w' ⟨v, L, rfl, hL, hrow, hb⟩
  rw [hL.one hR] at hrow
  exact ⟨v, rfl, rdDs_row hrow hb.size, hb⟩
theorem implWhole_c (R : List MDot) (cs : List Value) (m : MGraph) (hR : WholeL m R) (w : World) (hr : rGraph w.heap.size w cs m) (hw : wGraph m ≤ 1048576) (hT : TzAt w) :
    Calls Tryd.prog 12 #[.agg cs.toArray] w fun e w' => ∃ (v : Value) (F : List Nat), e = .returned v ∧ ownS 2 40 oDot w' v R F ∧ F.Nodup ∧ (∀ b, b ∈ F → w.heap.size ≤ b) ∧ Below w.heap.size w w' := by
  refine (implWhole_any cs m w hr hw hT).mono ?_
  rintro e w' ⟨v, L, rfl, hL, hrow, hb⟩
  rw [hL.one hR] at hrow
  obtain ⟨h1, h2, h3⟩ := dots_own hrow
  exact ⟨v, _, rfl, h1, h2, h3, hb⟩

end Go.Proofs.YtmigamgcmhdncaaDoor
