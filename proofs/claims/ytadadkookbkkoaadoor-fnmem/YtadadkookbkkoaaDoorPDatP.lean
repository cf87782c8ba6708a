/-
  Pairs: models, how cells stand for them, what they weigh.
-/
import Derived.Test.YtadadkookbkkoaaDoorDatK
namespace Go.Proofs.YtadadkookbkkoaaDoor
open Go.RowKit
set_option linter.unusedVariables false

structure MPair where
  fKey : ByteArray
  fVal : ByteArray
  fGone : Bool

def rPair : Rep MPair := fun B w cs m => cs = [.string m.fKey, .string m.fVal, .bool m.fGone] ∧ m.fKey.size ≤ 9223372036854775807 ∧ m.fVal.size ≤ 9223372036854775807 ∧ True ∧ True

theorem rPair_good : rPair.Good :=
  ⟨fun ⟨h, h0, h1, h2, _⟩ hb => ⟨h, h0, h1, h2, trivial⟩, fun ⟨h, h0, h1, h2, _⟩ hB => ⟨h, h0, h1, h2, trivial⟩⟩

def oPair : ORep MPair := fun w cs m F => cs = [.string m.fKey, .string m.fVal, .bool m.fGone] ∧ m.fKey.size ≤ 9223372036854775807 ∧ m.fVal.size ≤ 9223372036854775807 ∧ True ∧ F = []

theorem oPair_good : oPair.Good rPair 3 := by
  refine ⟨?_, ?_, ?_, ?_⟩
  · rintro w w' cs m F ⟨rfl, h0, h1, h2, rfl⟩ hb
    exact ⟨rfl, h0, h1, h2, rfl⟩
  · rintro w cs m F ⟨rfl, h0, h1, h2, rfl⟩ k hk
    cases hk
  · rintro w cs m F ⟨rfl, h0, h1, h2, rfl⟩
    exact ⟨rfl, h0, h1, h2, trivial⟩
  · rintro w cs m F ⟨rfl, h0, h1, h2, rfl⟩
    rfl

def wPair (m : MPair) : Nat := m.fKey.size + m.fVal.size

end Go.Proofs.YtadadkookbkkoaaDoor
