/-
  Pairs, nodes, tables in memory: models, how cells stand for them, what they weigh.
-/
import Derived.Test.YtmigamgcmhdncaaDoorDatK
namespace Go.Proofs.YtmigamgcmhdncaaDoor
open Go.RowKit
set_option linter.unusedVariables false

structure MDot where
  fR : Int
  fN : Int

def rDot : Rep MDot := fun B w cs m => cs = [.int .i64 m.fR, .int .i64 m.fN] ∧ (Lit.int .i64 m.fR).wf = true ∧ (Lit.int .i64 m.fN).wf = true ∧ True

theorem rDot_good : rDot.Good :=
  ⟨fun ⟨h, h0, h1, _⟩ hb => ⟨h, h0, h1, trivial⟩, fun ⟨h, h0, h1, _⟩ hB => ⟨h, h0, h1, trivial⟩⟩

def oDot : ORep MDot := fun w cs m F => cs = [.int .i64 m.fR, .int .i64 m.fN] ∧ (Lit.int .i64 m.fR).wf = true ∧ (Lit.int .i64 m.fN).wf = true ∧ F = []

theorem oDot_good : oDot.Good rDot 2 := by
  refine ⟨?_, ?_, ?_, ?_⟩
  · rintro w w' cs m F ⟨rfl, h0, h1, rfl⟩ hb
    exact ⟨rfl, h0, h1, rfl⟩
  · rintro w cs m F ⟨rfl, h0, h1, rfl⟩ k hk
    cases hk
  · rintro w cs m F ⟨rfl, h0, h1, rfl⟩
    exact ⟨rfl, h0, h1, trivial⟩
  · rintro w cs m F ⟨rfl, h0, h1, rfl⟩
    rfl

def wDot (m : MDot) : Nat := 0

structure MItem where
  fD : MDot
  fDeps : List MDot

def rItem : Rep MItem := fun B w cs m => ∃ a2 : Option Addr, ∃ c2 : Nat, cs = [.int .i64 m.fD.fR, .int .i64 m.fD.fN, .slice a2 m.fDeps.length c2] ∧ (Lit.int .i64 m.fD.fR).wf = true ∧ (Lit.int .i64 m.fD.fN).wf = true ∧ LeafL 2 rDot B w a2 c2 m.fDeps ∧ True

theorem rItem_good : rItem.Good :=
  ⟨fun ⟨a2, c2, h, h0, h1, h2, _⟩ hb => ⟨a2, c2, h, h0, h1, h2.below rDot_good hb, trivial⟩, fun ⟨a2, c2, h, h0, h1, h2, _⟩ hB => ⟨a2, c2, h, h0, h1, h2.mono rDot_good hB, trivial⟩⟩

def oItem : ORep MItem := fun w cs m F => ∃ v2 : Value, ∃ F2 : List Nat, cs = [.int .i64 m.fD.fR, .int .i64 m.fD.fN, v2] ∧ (Lit.int .i64 m.fD.fR).wf = true ∧ (Lit.int .i64 m.fD.fN).wf = true ∧ ownS 2 40 oDot w v2 m.fDeps F2 ∧ F = F2 ++ []

theorem oItem_good : oItem.Good rItem 3 := by
  refine ⟨?_, ?_, ?_, ?_⟩
  · rintro w w' cs m F ⟨v2, F2, rfl, h0, h1, h2, rfl⟩ hb
    exact ⟨v2, F2, rfl, h0, h1, ownS.frame oDot_good h2 (fun k hk => hb k (by simp [hk])), rfl⟩
  · rintro w cs m F ⟨v2, F2, rfl, h0, h1, h2, rfl⟩ k hk
    simp only [List.mem_append, List.not_mem_nil, or_false] at hk
    exact ownS.lt oDot_good h2 k hk
  · rintro w cs m F ⟨v2, F2, rfl, h0, h1, h2, rfl⟩
    obtain ⟨a2, c2, rfl, g2⟩ := ownS.read oDot_good h2
    exact ⟨a2, c2, rfl, h0, h1, g2, trivial⟩
  · rintro w cs m F ⟨v2, F2, rfl, h0, h1, h2, rfl⟩
    rfl

def wItem (m : MItem) : Nat := (m.fDeps.length + sumW wDot m.fDeps)

structure MGraph where
  fItems : List MItem

def rGraph : Rep MGraph := fun B w cs m => ∃ a0 : Option Addr, ∃ c0 : Nat, cs = [.slice a0 m.fItems.length c0] ∧ LeafL 3 rItem B w a0 c0 m.fItems ∧ True

theorem rGraph_good : rGraph.Good :=
  ⟨fun ⟨a0, c0, h, h0, _⟩ hb => ⟨a0, c0, h, h0.below rItem_good hb, trivial⟩, fun ⟨a0, c0, h, h0, _⟩ hB => ⟨a0, c0, h, h0.mono rItem_good hB, trivial⟩⟩

def oGraph : ORep MGraph := fun w cs m F => ∃ v0 : Value, ∃ F0 : List Nat, cs = [v0] ∧ ownS 3 52 oItem w v0 m.fItems F0 ∧ F = F0 ++ []

theorem oGraph_good : oGraph.Good rGraph 1 := by
  refine ⟨?_, ?_, ?_, ?_⟩
  · rintro w w' cs m F ⟨v0, F0, rfl, h0, rfl⟩ hb
    exact ⟨v0, F0, rfl, ownS.frame oItem_good h0 (fun k hk => hb k (by simp [hk])), rfl⟩
  · rintro w cs m F ⟨v0, F0, rfl, h0, rfl⟩ k hk
    simp only [List.mem_append, List.not_mem_nil, or_false] at hk
    exact ownS.lt oItem_good h0 k hk
  · rintro w cs m F ⟨v0, F0, rfl, h0, rfl⟩
    obtain ⟨a0, c0, rfl, g0⟩ := ownS.read oItem_good h0
    exact ⟨a0, c0, rfl, g0, trivial⟩
  · rintro w cs m F ⟨v0, F0, rfl, h0, rfl⟩
    rfl

def wGraph (m : MGraph) : Nat := (m.fItems.length + sumW wItem m.fItems)

end Go.Proofs.YtmigamgcmhdncaaDoor
