/-
  The group of a command: the contracts that the exact law asks for.
-/
import Derived.Test.YtmigamgcmhdncaaDoorGrpJ
import Derived.Test.YtmigamgcmhdncaaDoorDotL
namespace Go.Proofs.YtmigamgcmhdncaaDoor
open Go.RowKit
set_option linter.unusedVariables false
set_option linter.unusedSimpArgs false

theorem boundGroup_0 (m : MGraph) (d : MDot) (R : List MDot) (hR : PickL m.fItems (InGroup m d) R) (hw : wGraph m ≤ 1048576) : wDs R ≤ 1099511627776 := by
  have h1 := hR.len
  have h2 : m.fItems.length + sumW wItem m.fItems ≤ 1048576 := hw
  unfold wDs
  rw [sumW_dots]
  omega
theorem specGroup_c (R : List MDot) (cs : List Value) (m : MGraph) (ds : List Value) (d : MDot) (hR : PickL m.fItems (InGroup m d) R) (w : World) (hr : rGraph w.heap.size w cs m) (hw : wGraph m ≤ 1048576) (hd : rDot w.heap.size w ds d) :
    Calls Tryd.prog 18 #[.agg cs.toArray, .agg ds.toArray] w fun e w' => ∃ v : Value, e = .returned v ∧ rdDs w'.heap.size w' v R ∧ Below w.heap.size w w' := by
  refine (specGroup_any cs m ds d w hr hw hd).mono ?_
  rintro e w' ⟨v, L, rfl, hL, hrow, hb⟩
  rw [hL.one hR] at hrow
  exact ⟨v, rfl, rdDs_row hrow hb.size, hb⟩
theorem implGroup_c (R : List MDot) (cs : List Value) (m : MGraph) (ds : List Value) (d : MDot) (hR : PickL m.fItems (InGroup m d) R) (w : World) (hr : rGraph w.heap.size w cs m) (hw : wGraph m ≤ 1048576) (hd : rDot w.heap.size w ds d) (hT : TzAt w) :
    Calls Tryd.prog 20 #[.agg cs.toArray, .agg ds.toArray] w fun e w' => ∃ (v : Value) (F : List Nat), e = .returned v ∧ ownS 2 40 oDot w' v R F ∧ F.Nodup ∧ (∀ b, b ∈ F → w.heap.size ≤ b) ∧ Below w.heap.size w w' := by
  refine (implGroup_any cs m ds d w hr hw hd hT).mono ?_
  rintro e w' ⟨v, L, rfl, hL, hrow, hb⟩
  rw [hL.one hR] at hrow
  obtain ⟨h1, h2, h3⟩ := dots_own hrow
  exact ⟨v, _, rfl, h1, h2, h3, hb⟩

end Go.Proofs.YtmigamgcmhdncaaDoor
