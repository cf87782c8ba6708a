/-
  Inodes, entries, disks and their like: models, how cells stand for them, what they weigh.
-/
import Derived.Test.YtnohnkcijomdjaaGreatDoorDatK
namespace Go.Proofs.YtnohnkcijomdjaaGreatDoor
open Go.RowKit
set_option linter.unusedVariables false

structure MInode where
  fId : Int
  fData : List Int
  fSure : Int

def rInode : Rep MInode := fun B w cs m => ∃ a1 : Option Addr, ∃ c1 : Nat, cs = [.int .i64 m.fId, .slice a1 m.fData.length c1, .int .i64 m.fSure] ∧ (Lit.int .i64 m.fId).wf = true ∧ LeafB B w a1 c1 m.fData ∧ (Lit.int .i64 m.fSure).wf = true ∧ True

theorem rInode_good : rInode.Good :=
  ⟨fun ⟨a1, c1, h, h0, h1, h2, _⟩ hb => ⟨a1, c1, h, h0, h1.below hb, h2, trivial⟩, fun ⟨a1, c1, h, h0, h1, h2, _⟩ hB => ⟨a1, c1, h, h0, h1.mono hB, h2, trivial⟩⟩

def oInode : ORep MInode := fun w cs m F => ∃ v1 : Value, ∃ F1 : List Nat, cs = [.int .i64 m.fId, v1, .int .i64 m.fSure] ∧ (Lit.int .i64 m.fId).wf = true ∧ ownB 5 w v1 m.fData F1 ∧ (Lit.int .i64 m.fSure).wf = true ∧ F = F1 ++ []

theorem oInode_good : oInode.Good rInode 3 := by
  refine ⟨?_, ?_, ?_, ?_⟩
  · rintro w w' cs m F ⟨v1, F1, rfl, h0, h1, h2, rfl⟩ hb
    exact ⟨v1, F1, rfl, h0, h1.frame (fun k hk => hb k (by simp [hk])), h2, rfl⟩
  · rintro w cs m F ⟨v1, F1, rfl, h0, h1, h2, rfl⟩ k hk
    simp only [List.mem_append, List.not_mem_nil, or_false] at hk
    exact h1.lt k hk
  · rintro w cs m F ⟨v1, F1, rfl, h0, h1, h2, rfl⟩
    obtain ⟨a1, c1, rfl, g1⟩ := h1.read
    exact ⟨a1, c1, rfl, h0, g1, h2, trivial⟩
  · rintro w cs m F ⟨v1, F1, rfl, h0, h1, h2, rfl⟩
    rfl

def wInode (m : MInode) : Nat := m.fData.length

structure MEntry where
  fName : ByteArray
  fId : Int

def rEntry : Rep MEntry := fun B w cs m => cs = [.string m.fName, .int .i64 m.fId] ∧ m.fName.size ≤ 9223372036854775807 ∧ (Lit.int .i64 m.fId).wf = true ∧ True

theorem rEntry_good : rEntry.Good :=
  ⟨fun ⟨h, h0, h1, _⟩ hb => ⟨h, h0, h1, trivial⟩, fun ⟨h, h0, h1, _⟩ hB => ⟨h, h0, h1, trivial⟩⟩

def oEntry : ORep MEntry := fun w cs m F => cs = [.string m.fName, .int .i64 m.fId] ∧ m.fName.size ≤ 9223372036854775807 ∧ (Lit.int .i64 m.fId).wf = true ∧ F = []

theorem oEntry_good : oEntry.Good rEntry 2 := by
  refine ⟨?_, ?_, ?_, ?_⟩
  · rintro w w' cs m F ⟨rfl, h0, h1, rfl⟩ hb
    exact ⟨rfl, h0, h1, rfl⟩
  · rintro w cs m F ⟨rfl, h0, h1, rfl⟩ k hk
    cases hk
  · rintro w cs m F ⟨rfl, h0, h1, rfl⟩
    exact ⟨rfl, h0, h1, trivial⟩
  · rintro w cs m F ⟨rfl, h0, h1, rfl⟩
    rfl

def wEntry (m : MEntry) : Nat := m.fName.size

structure MDisk where
  fInodes : List MInode
  fNames : List MEntry
  fSafe : List MEntry
  fNext : Int

def rDisk : Rep MDisk := fun B w cs m => ∃ a0 : Option Addr, ∃ c0 : Nat, ∃ a1 : Option Addr, ∃ c1 : Nat, ∃ a2 : Option Addr, ∃ c2 : Nat, cs = [.slice a0 m.fInodes.length c0, .slice a1 m.fNames.length c1, .slice a2 m.fSafe.length c2, .int .i64 m.fNext] ∧ LeafL 3 rInode B w a0 c0 m.fInodes ∧ LeafL 2 rEntry B w a1 c1 m.fNames ∧ LeafL 2 rEntry B w a2 c2 m.fSafe ∧ (Lit.int .i64 m.fNext).wf = true ∧ True

theorem rDisk_good : rDisk.Good :=
  ⟨fun ⟨a0, c0, a1, c1, a2, c2, h, h0, h1, h2, h3, _⟩ hb => ⟨a0, c0, a1, c1, a2, c2, h, h0.below rInode_good hb, h1.below rEntry_good hb, h2.below rEntry_good hb, h3, trivial⟩, fun ⟨a0, c0, a1, c1, a2, c2, h, h0, h1, h2, h3, _⟩ hB => ⟨a0, c0, a1, c1, a2, c2, h, h0.mono rInode_good hB, h1.mono rEntry_good hB, h2.mono rEntry_good hB, h3, trivial⟩⟩

def oDisk : ORep MDisk := fun w cs m F => ∃ v0 : Value, ∃ F0 : List Nat, ∃ v1 : Value, ∃ F1 : List Nat, ∃ v2 : Value, ∃ F2 : List Nat, cs = [v0, v1, v2, .int .i64 m.fNext] ∧ ownS 3 92 oInode w v0 m.fInodes F0 ∧ ownS 2 90 oEntry w v1 m.fNames F1 ∧ ownS 2 90 oEntry w v2 m.fSafe F2 ∧ (Lit.int .i64 m.fNext).wf = true ∧ F = F0 ++ F1 ++ F2 ++ []

theorem oDisk_good : oDisk.Good rDisk 4 := by
  refine ⟨?_, ?_, ?_, ?_⟩
  · rintro w w' cs m F ⟨v0, F0, v1, F1, v2, F2, rfl, h0, h1, h2, h3, rfl⟩ hb
    exact ⟨v0, F0, v1, F1, v2, F2, rfl, ownS.frame oInode_good h0 (fun k hk => hb k (by simp [hk])), ownS.frame oEntry_good h1 (fun k hk => hb k (by simp [hk])), ownS.frame oEntry_good h2 (fun k hk => hb k (by simp [hk])), h3, rfl⟩
  · rintro w cs m F ⟨v0, F0, v1, F1, v2, F2, rfl, h0, h1, h2, h3, rfl⟩ k hk
    simp only [List.mem_append, List.not_mem_nil, or_false] at hk
    rcases hk with (hk | hk) | hk
    · exact ownS.lt oInode_good h0 k hk
    · exact ownS.lt oEntry_good h1 k hk
    · exact ownS.lt oEntry_good h2 k hk
  · rintro w cs m F ⟨v0, F0, v1, F1, v2, F2, rfl, h0, h1, h2, h3, rfl⟩
    obtain ⟨a0, c0, rfl, g0⟩ := ownS.read oInode_good h0
    obtain ⟨a1, c1, rfl, g1⟩ := ownS.read oEntry_good h1
    obtain ⟨a2, c2, rfl, g2⟩ := ownS.read oEntry_good h2
    exact ⟨a0, c0, a1, c1, a2, c2, rfl, g0, g1, g2, h3, trivial⟩
  · rintro w cs m F ⟨v0, F0, v1, F1, v2, F2, rfl, h0, h1, h2, h3, rfl⟩
    rfl

def wDisk (m : MDisk) : Nat := (m.fInodes.length + sumW wInode m.fInodes) + (m.fNames.length + sumW wEntry m.fNames) + (m.fSafe.length + sumW wEntry m.fSafe)

end Go.Proofs.YtnohnkcijomdjaaGreatDoor
