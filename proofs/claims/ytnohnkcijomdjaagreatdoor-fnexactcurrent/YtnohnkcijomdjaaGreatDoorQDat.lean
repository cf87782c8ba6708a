/-
  Manifests and their tables: models, how cells stand for them, what they weigh.
-/
import Derived.Test.YtnohnkcijomdjaaGreatDoorDatK
namespace Go.Proofs.YtnohnkcijomdjaaGreatDoor
open Go.RowKit
set_option linter.unusedVariables false

structure MMeta where
  fNo : Int
  fLevel : Int
  fLo : ByteArray
  fHi : ByteArray

def rMeta : Rep MMeta := fun B w cs m => cs = [.int .i64 m.fNo, .int .i64 m.fLevel, .string m.fLo, .string m.fHi] ∧ (Lit.int .i64 m.fNo).wf = true ∧ (Lit.int .i64 m.fLevel).wf = true ∧ m.fLo.size ≤ 9223372036854775807 ∧ m.fHi.size ≤ 9223372036854775807 ∧ True

theorem rMeta_good : rMeta.Good :=
  ⟨fun ⟨h, h0, h1, h2, h3, _⟩ hb => ⟨h, h0, h1, h2, h3, trivial⟩, fun ⟨h, h0, h1, h2, h3, _⟩ hB => ⟨h, h0, h1, h2, h3, trivial⟩⟩

def oMeta : ORep MMeta := fun w cs m F => cs = [.int .i64 m.fNo, .int .i64 m.fLevel, .string m.fLo, .string m.fHi] ∧ (Lit.int .i64 m.fNo).wf = true ∧ (Lit.int .i64 m.fLevel).wf = true ∧ m.fLo.size ≤ 9223372036854775807 ∧ m.fHi.size ≤ 9223372036854775807 ∧ F = []

theorem oMeta_good : oMeta.Good rMeta 4 := by
  refine ⟨?_, ?_, ?_, ?_⟩
  · rintro w w' cs m F ⟨rfl, h0, h1, h2, h3, rfl⟩ hb
    exact ⟨rfl, h0, h1, h2, h3, rfl⟩
  · rintro w cs m F ⟨rfl, h0, h1, h2, h3, rfl⟩ k hk
    cases hk
  · rintro w cs m F ⟨rfl, h0, h1, h2, h3, rfl⟩
    exact ⟨rfl, h0, h1, h2, h3, trivial⟩
  · rintro w cs m F ⟨rfl, h0, h1, h2, h3, rfl⟩
    rfl

def wMeta (m : MMeta) : Nat := m.fLo.size + m.fHi.size

structure MManifest where
  fNext : Int
  fLog : Int
  fTables : List MMeta

def rManifest : Rep MManifest := fun B w cs m => ∃ a2 : Option Addr, ∃ c2 : Nat, cs = [.int .i64 m.fNext, .int .i64 m.fLog, .slice a2 m.fTables.length c2] ∧ (Lit.int .i64 m.fNext).wf = true ∧ (Lit.int .i64 m.fLog).wf = true ∧ LeafL 4 rMeta B w a2 c2 m.fTables ∧ True

theorem rManifest_good : rManifest.Good :=
  ⟨fun ⟨a2, c2, h, h0, h1, h2, _⟩ hb => ⟨a2, c2, h, h0, h1, h2.below rMeta_good hb, trivial⟩, fun ⟨a2, c2, h, h0, h1, h2, _⟩ hB => ⟨a2, c2, h, h0, h1, h2.mono rMeta_good hB, trivial⟩⟩

def oManifest : ORep MManifest := fun w cs m F => ∃ v2 : Value, ∃ F2 : List Nat, cs = [.int .i64 m.fNext, .int .i64 m.fLog, v2] ∧ (Lit.int .i64 m.fNext).wf = true ∧ (Lit.int .i64 m.fLog).wf = true ∧ ownS 4 49 oMeta w v2 m.fTables F2 ∧ F = F2 ++ []

theorem oManifest_good : oManifest.Good rManifest 3 := by
  refine ⟨?_, ?_, ?_, ?_⟩
  · rintro w w' cs m F ⟨v2, F2, rfl, h0, h1, h2, rfl⟩ hb
    exact ⟨v2, F2, rfl, h0, h1, ownS.frame oMeta_good h2 (fun k hk => hb k (by simp [hk])), rfl⟩
  · rintro w cs m F ⟨v2, F2, rfl, h0, h1, h2, rfl⟩ k hk
    simp only [List.mem_append, List.not_mem_nil, or_false] at hk
    exact ownS.lt oMeta_good h2 k hk
  · rintro w cs m F ⟨v2, F2, rfl, h0, h1, h2, rfl⟩
    obtain ⟨a2, c2, rfl, g2⟩ := ownS.read oMeta_good h2
    exact ⟨a2, c2, rfl, h0, h1, g2, trivial⟩
  · rintro w cs m F ⟨v2, F2, rfl, h0, h1, h2, rfl⟩
    rfl

def wManifest (m : MManifest) : Nat := (m.fTables.length + sumW wMeta m.fTables)

end Go.Proofs.YtnohnkcijomdjaaGreatDoor
