/-
  Pairs, nodes, tables in memory: models, how cells stand for them, what they weigh.
-/
import Derived.Test.YtnomigomjhhccaaDatK
namespace Go.Proofs.Ytnomigomjhhccaa
open Go.RowKit
set_option linter.unusedVariables false

structure MCmd where
  fKind : Int
  fKey : ByteArray
  fVal : ByteArray

def rCmd : Rep MCmd := fun B w cs m => cs = [.int .i64 m.fKind, .string m.fKey, .string m.fVal] ∧ (Lit.int .i64 m.fKind).wf = true ∧ m.fKey.size ≤ 9223372036854775807 ∧ m.fVal.size ≤ 9223372036854775807 ∧ True

theorem rCmd_good : rCmd.Good :=
  ⟨fun ⟨h, h0, h1, h2, _⟩ hb => ⟨h, h0, h1, h2, trivial⟩, fun ⟨h, h0, h1, h2, _⟩ hB => ⟨h, h0, h1, h2, trivial⟩⟩

def oCmd : ORep MCmd := fun w cs m F => cs = [.int .i64 m.fKind, .string m.fKey, .string m.fVal] ∧ (Lit.int .i64 m.fKind).wf = true ∧ m.fKey.size ≤ 9223372036854775807 ∧ m.fVal.size ≤ 9223372036854775807 ∧ F = []

theorem oCmd_good : oCmd.Good rCmd 3 := by
  refine ⟨?_, ?_, ?_, ?_⟩
  · rintro w w' cs m F ⟨rfl, h0, h1, h2, rfl⟩ hb
    exact ⟨rfl, h0, h1, h2, rfl⟩
  · rintro w cs m F ⟨rfl, h0, h1, h2, rfl⟩ k hk
    cases hk
  · rintro w cs m F ⟨rfl, h0, h1, h2, rfl⟩
    exact ⟨rfl, h0, h1, h2, trivial⟩
  · rintro w cs m F ⟨rfl, h0, h1, h2, rfl⟩
    rfl

def wCmd (m : MCmd) : Nat := m.fKey.size + m.fVal.size

end Go.Proofs.Ytnomigomjhhccaa
