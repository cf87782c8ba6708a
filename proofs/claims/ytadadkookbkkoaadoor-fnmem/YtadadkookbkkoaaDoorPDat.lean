/-
  Pairs, nodes, tables in memory: models, how cells stand for them, what they weigh.
-/
import Derived.Test.YtadadkookbkkoaaDoorPDatP
namespace Go.Proofs.YtadadkookbkkoaaDoor
open Go.RowKit
set_option linter.unusedVariables false

structure MNode where
  fP : MPair
  fTower : Int

def rNode : Rep MNode := fun B w cs m => cs = [.string m.fP.fKey, .string m.fP.fVal, .bool m.fP.fGone, .int .i64 m.fTower] ∧ m.fP.fKey.size ≤ 9223372036854775807 ∧ m.fP.fVal.size ≤ 9223372036854775807 ∧ True ∧ (Lit.int .i64 m.fTower).wf = true ∧ True

theorem rNode_good : rNode.Good :=
  ⟨fun ⟨h, h0, h1, h2, h3, _⟩ hb => ⟨h, h0, h1, h2, h3, trivial⟩, fun ⟨h, h0, h1, h2, h3, _⟩ hB => ⟨h, h0, h1, h2, h3, trivial⟩⟩

def oNode : ORep MNode := fun w cs m F => cs = [.string m.fP.fKey, .string m.fP.fVal, .bool m.fP.fGone, .int .i64 m.fTower] ∧ m.fP.fKey.size ≤ 9223372036854775807 ∧ m.fP.fVal.size ≤ 9223372036854775807 ∧ True ∧ (Lit.int .i64 m.fTower).wf = true ∧ F = []

theorem oNode_good : oNode.Good rNode 4 := by
  refine ⟨?_, ?_, ?_, ?_⟩
  · rintro w w' cs m F ⟨rfl, h0, h1, h2, h3, rfl⟩ hb
    exact ⟨rfl, h0, h1, h2, h3, rfl⟩
  · rintro w cs m F ⟨rfl, h0, h1, h2, h3, rfl⟩ k hk
    cases hk
  · rintro w cs m F ⟨rfl, h0, h1, h2, h3, rfl⟩
    exact ⟨rfl, h0, h1, h2, h3, trivial⟩
  · rintro w cs m F ⟨rfl, h0, h1, h2, h3, rfl⟩
    rfl

def wNode (m : MNode) : Nat := m.fP.fKey.size + m.fP.fVal.size

structure MMem where
  fNodes : List MNode

def rMem : Rep MMem := fun B w cs m => ∃ a0 : Option Addr, ∃ c0 : Nat, cs = [.slice a0 m.fNodes.length c0] ∧ LeafL 4 rNode B w a0 c0 m.fNodes ∧ True

theorem rMem_good : rMem.Good :=
  ⟨fun ⟨a0, c0, h, h0, _⟩ hb => ⟨a0, c0, h, h0.below rNode_good hb, trivial⟩, fun ⟨a0, c0, h, h0, _⟩ hB => ⟨a0, c0, h, h0.mono rNode_good hB, trivial⟩⟩

def oMem : ORep MMem := fun w cs m F => ∃ v0 : Value, ∃ F0 : List Nat, cs = [v0] ∧ ownS 4 36 oNode w v0 m.fNodes F0 ∧ F = F0 ++ []

theorem oMem_good : oMem.Good rMem 1 := by
  refine ⟨?_, ?_, ?_, ?_⟩
  · rintro w w' cs m F ⟨v0, F0, rfl, h0, rfl⟩ hb
    exact ⟨v0, F0, rfl, ownS.frame oNode_good h0 (fun k hk => hb k (by simp [hk])), rfl⟩
  · rintro w cs m F ⟨v0, F0, rfl, h0, rfl⟩ k hk
    simp only [List.mem_append, List.not_mem_nil, or_false] at hk
    exact ownS.lt oNode_good h0 k hk
  · rintro w cs m F ⟨v0, F0, rfl, h0, rfl⟩
    obtain ⟨a0, c0, rfl, g0⟩ := ownS.read oNode_good h0
    exact ⟨a0, c0, rfl, g0, trivial⟩
  · rintro w cs m F ⟨v0, F0, rfl, h0, rfl⟩
    rfl

def wMem (m : MMem) : Nat := (m.fNodes.length + sumW wNode m.fNodes)

end Go.Proofs.YtadadkookbkkoaaDoor
