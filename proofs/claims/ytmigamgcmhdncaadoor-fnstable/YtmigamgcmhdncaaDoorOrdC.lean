/-
  The order: the contracts that the exact law asks for.
-/
import Derived.Test.YtmigamgcmhdncaaDoorOrdI
import Derived.Test.YtmigamgcmhdncaaDoorOrdS
import Derived.Test.YtmigamgcmhdncaaDoorDotL
namespace Go.Proofs.YtmigamgcmhdncaaDoor
open Go.RowKit
set_option linter.unusedVariables false
set_option linter.unusedSimpArgs false

theorem boundOrderOf_0 (m : MGraph) (R : List MDot) (hR : OrderL m R) (hw : wGraph m ≤ 1048576) : wDs R ≤ 1099511627776 := by
  have h1 := hR.len
  unfold wDs
  rw [sumW_dots]
  omega
theorem specOrderOf_c (R : List MDot) (cs : List Value) (m : MGraph) (hR : OrderL m R) (w : World) (hr : rGraph w.heap.size w cs m) (hw : wGraph m ≤ 1048576) :
    Calls Tryd.prog 21 #[.agg cs.toArray] w fun e w' => ∃ v : Value, e = .returned v ∧ rdDs w'.heap.size w' v R ∧ Below w.heap.size w w' := by
  refine (specOrderOf_any cs m w hr hw).mono ?_
  rintro e w' ⟨v, L, rfl, hL, hrow, hb⟩
  rw [hL.one hR] at hrow
  exact ⟨v, rfl, rdDs_row hrow hb.size, hb⟩
theorem implOrderOf_c (R : List MDot) (cs : List Value) (m : MGraph) (hR : OrderL m R) (w : World) (hr : rGraph w.heap.size w cs m) (hw : wGraph m ≤ 1048576) (hT : TzAt w) :
    Calls Tryd.prog 22 #[.agg cs.toArray] w fun e w' => ∃ (v : Value) (F : List Nat), e = .returned v ∧ ownS 2 40 oDot w' v R F ∧ F.Nodup ∧ (∀ b, b ∈ F → w.heap.size ≤ b) ∧ Below w.heap.size w w' := by
  refine (implOrderOf_any cs m w hr hw hT).mono ?_
  rintro e w' ⟨v, L, rfl, hL, hrow, hb⟩
  rw [hL.one hR] at hrow
  obtain ⟨h1, h2, h3⟩ := dots_own hrow
  exact ⟨v, _, rfl, h1, h2, h3, hb⟩

end Go.Proofs.YtmigamgcmhdncaaDoor
