/-
  Pairs, nodes, tables in memory: models, how cells stand for them, what they weigh.
-/
import Derived.Test.YtembioiaeimegaaDatK
namespace Go.Proofs.Ytembioiaeimegaa
open Go.RowKit
set_option linter.unusedVariables false

structure MDot where
  fR : Int
  fN : Int

def rDot : Rep MDot := fun B w cs m => cs = [.int .i64 m.fR, .int .i64 m.fN] ∧ (Lit.int .i64 m.fR).wf = true ∧ (Lit.int .i64 m.fN).wf = true ∧ True

theorem rDot_good : rDot.Good :=
  ⟨fun ⟨h, h0, h1, _⟩ hb => ⟨h, h0, h1, trivial⟩, fun ⟨h, h0, h1, _⟩ hB => ⟨h, h0, h1, trivial⟩⟩

def oDot : ORep MDot := fun w cs m F => cs = [.int .i64 m.fR, .int .i64 m.fN] ∧ (Lit.int .i64 m.fR).wf = true ∧ (Lit.int .i64 m.fN).wf = true ∧ F = []

theorem oDot_good : oDot.Good rDot 2 := by
  refine ⟨?_, ?_, ?_, ?_⟩
  · rintro w w' cs m F ⟨rfl, h0, h1, rfl⟩ hb
    exact ⟨rfl, h0, h1, rfl⟩
  · rintro w cs m F ⟨rfl, h0, h1, rfl⟩ k hk
    cases hk
  · rintro w cs m F ⟨rfl, h0, h1, rfl⟩
    exact ⟨rfl, h0, h1, trivial⟩
  · rintro w cs m F ⟨rfl, h0, h1, rfl⟩
    rfl

def wDot (m : MDot) : Nat := 0

structure MCmd where
  fKind : Int
  fKey : ByteArray
  fVal : ByteArray

def rCmd : Rep MCmd := fun B w cs m => cs = [.int .i64 m.fKind, .string m.fKey, .string m.fVal] ∧ (Lit.int .i64 m.fKind).wf = true ∧ m.fKey.size ≤ 9223372036854775807 ∧ m.fVal.size ≤ 9223372036854775807 ∧ True

theorem rCmd_good : rCmd.Good :=
  ⟨fun ⟨h, h0, h1, h2, _⟩ hb => ⟨h, h0, h1, h2, trivial⟩, fun ⟨h, h0, h1, h2, _⟩ hB => ⟨h, h0, h1, h2, trivial⟩⟩

def oCmd : ORep MCmd := fun w cs m F => cs = [.int .i64 m.fKind, .string m.fKey, .string m.fVal] ∧ (Lit.int .i64 m.fKind).wf = true ∧ m.fKey.size ≤ 9223372036854775807 ∧ m.fVal.size ≤ 9223372036854775807 ∧ F = []

theorem oCmd_good : oCmd.Good rCmd 3 := by
  refine ⟨?_, ?_, ?_, ?_⟩
  · rintro w w' cs m F ⟨rfl, h0, h1, h2, rfl⟩ hb
    exact ⟨rfl, h0, h1, h2, rfl⟩
  · rintro w cs m F ⟨rfl, h0, h1, h2, rfl⟩ k hk
    cases hk
  · rintro w cs m F ⟨rfl, h0, h1, h2, rfl⟩
    exact ⟨rfl, h0, h1, h2, trivial⟩
  · rintro w cs m F ⟨rfl, h0, h1, h2, rfl⟩
    rfl

def wCmd (m : MCmd) : Nat := m.fKey.size + m.fVal.size

structure MRec where
  fD : MDot
  fC : MCmd
  fDeps : List MDot
  fSure : Bool

def rRec : Rep MRec := fun B w cs m => ∃ a5 : Option Addr, ∃ c5 : Nat, cs = [.int .i64 m.fD.fR, .int .i64 m.fD.fN, .int .i64 m.fC.fKind, .string m.fC.fKey, .string m.fC.fVal, .slice a5 m.fDeps.length c5, .bool m.fSure] ∧ (Lit.int .i64 m.fD.fR).wf = true ∧ (Lit.int .i64 m.fD.fN).wf = true ∧ (Lit.int .i64 m.fC.fKind).wf = true ∧ m.fC.fKey.size ≤ 9223372036854775807 ∧ m.fC.fVal.size ≤ 9223372036854775807 ∧ LeafL 2 rDot B w a5 c5 m.fDeps ∧ True ∧ True

theorem rRec_good : rRec.Good :=
  ⟨fun ⟨a5, c5, h, h0, h1, h2, h3, h4, h5, h6, _⟩ hb => ⟨a5, c5, h, h0, h1, h2, h3, h4, h5.below rDot_good hb, h6, trivial⟩, fun ⟨a5, c5, h, h0, h1, h2, h3, h4, h5, h6, _⟩ hB => ⟨a5, c5, h, h0, h1, h2, h3, h4, h5.mono rDot_good hB, h6, trivial⟩⟩

def oRec : ORep MRec := fun w cs m F => ∃ v5 : Value, ∃ F5 : List Nat, cs = [.int .i64 m.fD.fR, .int .i64 m.fD.fN, .int .i64 m.fC.fKind, .string m.fC.fKey, .string m.fC.fVal, v5, .bool m.fSure] ∧ (Lit.int .i64 m.fD.fR).wf = true ∧ (Lit.int .i64 m.fD.fN).wf = true ∧ (Lit.int .i64 m.fC.fKind).wf = true ∧ m.fC.fKey.size ≤ 9223372036854775807 ∧ m.fC.fVal.size ≤ 9223372036854775807 ∧ ownS 2 83 oDot w v5 m.fDeps F5 ∧ True ∧ F = F5 ++ []

theorem oRec_good : oRec.Good rRec 7 := by
  refine ⟨?_, ?_, ?_, ?_⟩
  · rintro w w' cs m F ⟨v5, F5, rfl, h0, h1, h2, h3, h4, h5, h6, rfl⟩ hb
    exact ⟨v5, F5, rfl, h0, h1, h2, h3, h4, ownS.frame oDot_good h5 (fun k hk => hb k (by simp [hk])), h6, rfl⟩
  · rintro w cs m F ⟨v5, F5, rfl, h0, h1, h2, h3, h4, h5, h6, rfl⟩ k hk
    simp only [List.mem_append, List.not_mem_nil, or_false] at hk
    exact ownS.lt oDot_good h5 k hk
  · rintro w cs m F ⟨v5, F5, rfl, h0, h1, h2, h3, h4, h5, h6, rfl⟩
    obtain ⟨a5, c5, rfl, g5⟩ := ownS.read oDot_good h5
    exact ⟨a5, c5, rfl, h0, h1, h2, h3, h4, g5, h6, trivial⟩
  · rintro w cs m F ⟨v5, F5, rfl, h0, h1, h2, h3, h4, h5, h6, rfl⟩
    rfl

def wRec (m : MRec) : Nat := m.fC.fKey.size + m.fC.fVal.size + (m.fDeps.length + sumW wDot m.fDeps)

structure MAck where
  fD : MDot
  fFrom : Int

def rAck : Rep MAck := fun B w cs m => cs = [.int .i64 m.fD.fR, .int .i64 m.fD.fN, .int .i64 m.fFrom] ∧ (Lit.int .i64 m.fD.fR).wf = true ∧ (Lit.int .i64 m.fD.fN).wf = true ∧ (Lit.int .i64 m.fFrom).wf = true ∧ True

theorem rAck_good : rAck.Good :=
  ⟨fun ⟨h, h0, h1, h2, _⟩ hb => ⟨h, h0, h1, h2, trivial⟩, fun ⟨h, h0, h1, h2, _⟩ hB => ⟨h, h0, h1, h2, trivial⟩⟩

def oAck : ORep MAck := fun w cs m F => cs = [.int .i64 m.fD.fR, .int .i64 m.fD.fN, .int .i64 m.fFrom] ∧ (Lit.int .i64 m.fD.fR).wf = true ∧ (Lit.int .i64 m.fD.fN).wf = true ∧ (Lit.int .i64 m.fFrom).wf = true ∧ F = []

theorem oAck_good : oAck.Good rAck 3 := by
  refine ⟨?_, ?_, ?_, ?_⟩
  · rintro w w' cs m F ⟨rfl, h0, h1, h2, rfl⟩ hb
    exact ⟨rfl, h0, h1, h2, rfl⟩
  · rintro w cs m F ⟨rfl, h0, h1, h2, rfl⟩ k hk
    cases hk
  · rintro w cs m F ⟨rfl, h0, h1, h2, rfl⟩
    exact ⟨rfl, h0, h1, h2, trivial⟩
  · rintro w cs m F ⟨rfl, h0, h1, h2, rfl⟩
    rfl

def wAck (m : MAck) : Nat := 0

structure MPair where
  fKey : ByteArray
  fVal : ByteArray
  fGone : Bool

def rPair : Rep MPair := fun B w cs m => cs = [.string m.fKey, .string m.fVal, .bool m.fGone] ∧ m.fKey.size ≤ 9223372036854775807 ∧ m.fVal.size ≤ 9223372036854775807 ∧ True ∧ True

theorem rPair_good : rPair.Good :=
  ⟨fun ⟨h, h0, h1, h2, _⟩ hb => ⟨h, h0, h1, h2, trivial⟩, fun ⟨h, h0, h1, h2, _⟩ hB => ⟨h, h0, h1, h2, trivial⟩⟩

def oPair : ORep MPair := fun w cs m F => cs = [.string m.fKey, .string m.fVal, .bool m.fGone] ∧ m.fKey.size ≤ 9223372036854775807 ∧ m.fVal.size ≤ 9223372036854775807 ∧ True ∧ F = []

theorem oPair_good : oPair.Good rPair 3 := by
  refine ⟨?_, ?_, ?_, ?_⟩
  · rintro w w' cs m F ⟨rfl, h0, h1, h2, rfl⟩ hb
    exact ⟨rfl, h0, h1, h2, rfl⟩
  · rintro w cs m F ⟨rfl, h0, h1, h2, rfl⟩ k hk
    cases hk
  · rintro w cs m F ⟨rfl, h0, h1, h2, rfl⟩
    exact ⟨rfl, h0, h1, h2, trivial⟩
  · rintro w cs m F ⟨rfl, h0, h1, h2, rfl⟩
    rfl

def wPair (m : MPair) : Nat := m.fKey.size + m.fVal.size

structure MAnswer where
  fD : MDot
  fVal : ByteArray
  fHas : Bool

def rAnswer : Rep MAnswer := fun B w cs m => cs = [.int .i64 m.fD.fR, .int .i64 m.fD.fN, .string m.fVal, .bool m.fHas] ∧ (Lit.int .i64 m.fD.fR).wf = true ∧ (Lit.int .i64 m.fD.fN).wf = true ∧ m.fVal.size ≤ 9223372036854775807 ∧ True ∧ True

theorem rAnswer_good : rAnswer.Good :=
  ⟨fun ⟨h, h0, h1, h2, h3, _⟩ hb => ⟨h, h0, h1, h2, h3, trivial⟩, fun ⟨h, h0, h1, h2, h3, _⟩ hB => ⟨h, h0, h1, h2, h3, trivial⟩⟩

def oAnswer : ORep MAnswer := fun w cs m F => cs = [.int .i64 m.fD.fR, .int .i64 m.fD.fN, .string m.fVal, .bool m.fHas] ∧ (Lit.int .i64 m.fD.fR).wf = true ∧ (Lit.int .i64 m.fD.fN).wf = true ∧ m.fVal.size ≤ 9223372036854775807 ∧ True ∧ F = []

theorem oAnswer_good : oAnswer.Good rAnswer 4 := by
  refine ⟨?_, ?_, ?_, ?_⟩
  · rintro w w' cs m F ⟨rfl, h0, h1, h2, h3, rfl⟩ hb
    exact ⟨rfl, h0, h1, h2, h3, rfl⟩
  · rintro w cs m F ⟨rfl, h0, h1, h2, h3, rfl⟩ k hk
    cases hk
  · rintro w cs m F ⟨rfl, h0, h1, h2, h3, rfl⟩
    exact ⟨rfl, h0, h1, h2, h3, trivial⟩
  · rintro w cs m F ⟨rfl, h0, h1, h2, h3, rfl⟩
    rfl

def wAnswer (m : MAnswer) : Nat := m.fVal.size

structure MReplica where
  fId : Int
  fN : Int
  fNext : Int
  fRecs : List MRec
  fAcks : List MAck
  fDone : List MDot
  fMap : List MPair
  fSaid : List MAnswer

def rReplica : Rep MReplica := fun B w cs m => ∃ a3 : Option Addr, ∃ c3 : Nat, ∃ a4 : Option Addr, ∃ c4 : Nat, ∃ a5 : Option Addr, ∃ c5 : Nat, ∃ a6 : Option Addr, ∃ c6 : Nat, ∃ a7 : Option Addr, ∃ c7 : Nat, cs = [.int .i64 m.fId, .int .i64 m.fN, .int .i64 m.fNext, .slice a3 m.fRecs.length c3, .slice a4 m.fAcks.length c4, .slice a5 m.fDone.length c5, .slice a6 m.fMap.length c6, .slice a7 m.fSaid.length c7] ∧ (Lit.int .i64 m.fId).wf = true ∧ (Lit.int .i64 m.fN).wf = true ∧ (Lit.int .i64 m.fNext).wf = true ∧ LeafL 7 rRec B w a3 c3 m.fRecs ∧ LeafL 3 rAck B w a4 c4 m.fAcks ∧ LeafL 2 rDot B w a5 c5 m.fDone ∧ LeafL 3 rPair B w a6 c6 m.fMap ∧ LeafL 4 rAnswer B w a7 c7 m.fSaid ∧ True

theorem rReplica_good : rReplica.Good :=
  ⟨fun ⟨a3, c3, a4, c4, a5, c5, a6, c6, a7, c7, h, h0, h1, h2, h3, h4, h5, h6, h7, _⟩ hb => ⟨a3, c3, a4, c4, a5, c5, a6, c6, a7, c7, h, h0, h1, h2, h3.below rRec_good hb, h4.below rAck_good hb, h5.below rDot_good hb, h6.below rPair_good hb, h7.below rAnswer_good hb, trivial⟩, fun ⟨a3, c3, a4, c4, a5, c5, a6, c6, a7, c7, h, h0, h1, h2, h3, h4, h5, h6, h7, _⟩ hB => ⟨a3, c3, a4, c4, a5, c5, a6, c6, a7, c7, h, h0, h1, h2, h3.mono rRec_good hB, h4.mono rAck_good hB, h5.mono rDot_good hB, h6.mono rPair_good hB, h7.mono rAnswer_good hB, trivial⟩⟩

def oReplica : ORep MReplica := fun w cs m F => ∃ v3 : Value, ∃ F3 : List Nat, ∃ v4 : Value, ∃ F4 : List Nat, ∃ v5 : Value, ∃ F5 : List Nat, ∃ v6 : Value, ∃ F6 : List Nat, ∃ v7 : Value, ∃ F7 : List Nat, cs = [.int .i64 m.fId, .int .i64 m.fN, .int .i64 m.fNext, v3, v4, v5, v6, v7] ∧ (Lit.int .i64 m.fId).wf = true ∧ (Lit.int .i64 m.fN).wf = true ∧ (Lit.int .i64 m.fNext).wf = true ∧ ownS 7 121 oRec w v3 m.fRecs F3 ∧ ownS 3 123 oAck w v4 m.fAcks F4 ∧ ownS 2 83 oDot w v5 m.fDone F5 ∧ ownS 3 55 oPair w v6 m.fMap F6 ∧ ownS 4 125 oAnswer w v7 m.fSaid F7 ∧ F = F3 ++ F4 ++ F5 ++ F6 ++ F7 ++ []

theorem oReplica_good : oReplica.Good rReplica 8 := by
  refine ⟨?_, ?_, ?_, ?_⟩
  · rintro w w' cs m F ⟨v3, F3, v4, F4, v5, F5, v6, F6, v7, F7, rfl, h0, h1, h2, h3, h4, h5, h6, h7, rfl⟩ hb
    exact ⟨v3, F3, v4, F4, v5, F5, v6, F6, v7, F7, rfl, h0, h1, h2, ownS.frame oRec_good h3 (fun k hk => hb k (by simp [hk])), ownS.frame oAck_good h4 (fun k hk => hb k (by simp [hk])), ownS.frame oDot_good h5 (fun k hk => hb k (by simp [hk])), ownS.frame oPair_good h6 (fun k hk => hb k (by simp [hk])), ownS.frame oAnswer_good h7 (fun k hk => hb k (by simp [hk])), rfl⟩
  · rintro w cs m F ⟨v3, F3, v4, F4, v5, F5, v6, F6, v7, F7, rfl, h0, h1, h2, h3, h4, h5, h6, h7, rfl⟩ k hk
    simp only [List.mem_append, List.not_mem_nil, or_false] at hk
    rcases hk with (((hk | hk) | hk) | hk) | hk
    · exact ownS.lt oRec_good h3 k hk
    · exact ownS.lt oAck_good h4 k hk
    · exact ownS.lt oDot_good h5 k hk
    · exact ownS.lt oPair_good h6 k hk
    · exact ownS.lt oAnswer_good h7 k hk
  · rintro w cs m F ⟨v3, F3, v4, F4, v5, F5, v6, F6, v7, F7, rfl, h0, h1, h2, h3, h4, h5, h6, h7, rfl⟩
    obtain ⟨a3, c3, rfl, g3⟩ := ownS.read oRec_good h3
    obtain ⟨a4, c4, rfl, g4⟩ := ownS.read oAck_good h4
    obtain ⟨a5, c5, rfl, g5⟩ := ownS.read oDot_good h5
    obtain ⟨a6, c6, rfl, g6⟩ := ownS.read oPair_good h6
    obtain ⟨a7, c7, rfl, g7⟩ := ownS.read oAnswer_good h7
    exact ⟨a3, c3, a4, c4, a5, c5, a6, c6, a7, c7, rfl, h0, h1, h2, g3, g4, g5, g6, g7, trivial⟩
  · rintro w cs m F ⟨v3, F3, v4, F4, v5, F5, v6, F6, v7, F7, rfl, h0, h1, h2, h3, h4, h5, h6, h7, rfl⟩
    rfl

def wReplica (m : MReplica) : Nat := (m.fRecs.length + sumW wRec m.fRecs) + (m.fAcks.length + sumW wAck m.fAcks) + (m.fDone.length + sumW wDot m.fDone) + (m.fMap.length + sumW wPair m.fMap) + (m.fSaid.length + sumW wAnswer m.fSaid)

structure MMsg where
  fKind : Int
  fFrom : Int
  fTo : Int
  fD : MDot
  fC : MCmd
  fDeps : List MDot

def rMsg : Rep MMsg := fun B w cs m => ∃ a8 : Option Addr, ∃ c8 : Nat, cs = [.int .i64 m.fKind, .int .i64 m.fFrom, .int .i64 m.fTo, .int .i64 m.fD.fR, .int .i64 m.fD.fN, .int .i64 m.fC.fKind, .string m.fC.fKey, .string m.fC.fVal, .slice a8 m.fDeps.length c8] ∧ (Lit.int .i64 m.fKind).wf = true ∧ (Lit.int .i64 m.fFrom).wf = true ∧ (Lit.int .i64 m.fTo).wf = true ∧ (Lit.int .i64 m.fD.fR).wf = true ∧ (Lit.int .i64 m.fD.fN).wf = true ∧ (Lit.int .i64 m.fC.fKind).wf = true ∧ m.fC.fKey.size ≤ 9223372036854775807 ∧ m.fC.fVal.size ≤ 9223372036854775807 ∧ LeafL 2 rDot B w a8 c8 m.fDeps ∧ True

theorem rMsg_good : rMsg.Good :=
  ⟨fun ⟨a8, c8, h, h0, h1, h2, h3, h4, h5, h6, h7, h8, _⟩ hb => ⟨a8, c8, h, h0, h1, h2, h3, h4, h5, h6, h7, h8.below rDot_good hb, trivial⟩, fun ⟨a8, c8, h, h0, h1, h2, h3, h4, h5, h6, h7, h8, _⟩ hB => ⟨a8, c8, h, h0, h1, h2, h3, h4, h5, h6, h7, h8.mono rDot_good hB, trivial⟩⟩

def oMsg : ORep MMsg := fun w cs m F => ∃ v8 : Value, ∃ F8 : List Nat, cs = [.int .i64 m.fKind, .int .i64 m.fFrom, .int .i64 m.fTo, .int .i64 m.fD.fR, .int .i64 m.fD.fN, .int .i64 m.fC.fKind, .string m.fC.fKey, .string m.fC.fVal, v8] ∧ (Lit.int .i64 m.fKind).wf = true ∧ (Lit.int .i64 m.fFrom).wf = true ∧ (Lit.int .i64 m.fTo).wf = true ∧ (Lit.int .i64 m.fD.fR).wf = true ∧ (Lit.int .i64 m.fD.fN).wf = true ∧ (Lit.int .i64 m.fC.fKind).wf = true ∧ m.fC.fKey.size ≤ 9223372036854775807 ∧ m.fC.fVal.size ≤ 9223372036854775807 ∧ ownS 2 83 oDot w v8 m.fDeps F8 ∧ F = F8 ++ []

theorem oMsg_good : oMsg.Good rMsg 9 := by
  refine ⟨?_, ?_, ?_, ?_⟩
  · rintro w w' cs m F ⟨v8, F8, rfl, h0, h1, h2, h3, h4, h5, h6, h7, h8, rfl⟩ hb
    exact ⟨v8, F8, rfl, h0, h1, h2, h3, h4, h5, h6, h7, ownS.frame oDot_good h8 (fun k hk => hb k (by simp [hk])), rfl⟩
  · rintro w cs m F ⟨v8, F8, rfl, h0, h1, h2, h3, h4, h5, h6, h7, h8, rfl⟩ k hk
    simp only [List.mem_append, List.not_mem_nil, or_false] at hk
    exact ownS.lt oDot_good h8 k hk
  · rintro w cs m F ⟨v8, F8, rfl, h0, h1, h2, h3, h4, h5, h6, h7, h8, rfl⟩
    obtain ⟨a8, c8, rfl, g8⟩ := ownS.read oDot_good h8
    exact ⟨a8, c8, rfl, h0, h1, h2, h3, h4, h5, h6, h7, g8, trivial⟩
  · rintro w cs m F ⟨v8, F8, rfl, h0, h1, h2, h3, h4, h5, h6, h7, h8, rfl⟩
    rfl

def wMsg (m : MMsg) : Nat := m.fC.fKey.size + m.fC.fVal.size + (m.fDeps.length + sumW wDot m.fDeps)

structure MAsked where
  fD : MDot
  fC : MCmd
  fBefore : List MDot

def rAsked : Rep MAsked := fun B w cs m => ∃ a5 : Option Addr, ∃ c5 : Nat, cs = [.int .i64 m.fD.fR, .int .i64 m.fD.fN, .int .i64 m.fC.fKind, .string m.fC.fKey, .string m.fC.fVal, .slice a5 m.fBefore.length c5] ∧ (Lit.int .i64 m.fD.fR).wf = true ∧ (Lit.int .i64 m.fD.fN).wf = true ∧ (Lit.int .i64 m.fC.fKind).wf = true ∧ m.fC.fKey.size ≤ 9223372036854775807 ∧ m.fC.fVal.size ≤ 9223372036854775807 ∧ LeafL 2 rDot B w a5 c5 m.fBefore ∧ True

theorem rAsked_good : rAsked.Good :=
  ⟨fun ⟨a5, c5, h, h0, h1, h2, h3, h4, h5, _⟩ hb => ⟨a5, c5, h, h0, h1, h2, h3, h4, h5.below rDot_good hb, trivial⟩, fun ⟨a5, c5, h, h0, h1, h2, h3, h4, h5, _⟩ hB => ⟨a5, c5, h, h0, h1, h2, h3, h4, h5.mono rDot_good hB, trivial⟩⟩

def oAsked : ORep MAsked := fun w cs m F => ∃ v5 : Value, ∃ F5 : List Nat, cs = [.int .i64 m.fD.fR, .int .i64 m.fD.fN, .int .i64 m.fC.fKind, .string m.fC.fKey, .string m.fC.fVal, v5] ∧ (Lit.int .i64 m.fD.fR).wf = true ∧ (Lit.int .i64 m.fD.fN).wf = true ∧ (Lit.int .i64 m.fC.fKind).wf = true ∧ m.fC.fKey.size ≤ 9223372036854775807 ∧ m.fC.fVal.size ≤ 9223372036854775807 ∧ ownS 2 83 oDot w v5 m.fBefore F5 ∧ F = F5 ++ []

theorem oAsked_good : oAsked.Good rAsked 6 := by
  refine ⟨?_, ?_, ?_, ?_⟩
  · rintro w w' cs m F ⟨v5, F5, rfl, h0, h1, h2, h3, h4, h5, rfl⟩ hb
    exact ⟨v5, F5, rfl, h0, h1, h2, h3, h4, ownS.frame oDot_good h5 (fun k hk => hb k (by simp [hk])), rfl⟩
  · rintro w cs m F ⟨v5, F5, rfl, h0, h1, h2, h3, h4, h5, rfl⟩ k hk
    simp only [List.mem_append, List.not_mem_nil, or_false] at hk
    exact ownS.lt oDot_good h5 k hk
  · rintro w cs m F ⟨v5, F5, rfl, h0, h1, h2, h3, h4, h5, rfl⟩
    obtain ⟨a5, c5, rfl, g5⟩ := ownS.read oDot_good h5
    exact ⟨a5, c5, rfl, h0, h1, h2, h3, h4, g5, trivial⟩
  · rintro w cs m F ⟨v5, F5, rfl, h0, h1, h2, h3, h4, h5, rfl⟩
    rfl

def wAsked (m : MAsked) : Nat := m.fC.fKey.size + m.fC.fVal.size + (m.fBefore.length + sumW wDot m.fBefore)

structure MCluster where
  fReps : List MReplica
  fNet : List MMsg
  fAsked : List MAsked

def rCluster : Rep MCluster := fun B w cs m => ∃ a0 : Option Addr, ∃ c0 : Nat, ∃ a1 : Option Addr, ∃ c1 : Nat, ∃ a2 : Option Addr, ∃ c2 : Nat, cs = [.slice a0 m.fReps.length c0, .slice a1 m.fNet.length c1, .slice a2 m.fAsked.length c2] ∧ LeafL 8 rReplica B w a0 c0 m.fReps ∧ LeafL 9 rMsg B w a1 c1 m.fNet ∧ LeafL 6 rAsked B w a2 c2 m.fAsked ∧ True

theorem rCluster_good : rCluster.Good :=
  ⟨fun ⟨a0, c0, a1, c1, a2, c2, h, h0, h1, h2, _⟩ hb => ⟨a0, c0, a1, c1, a2, c2, h, h0.below rReplica_good hb, h1.below rMsg_good hb, h2.below rAsked_good hb, trivial⟩, fun ⟨a0, c0, a1, c1, a2, c2, h, h0, h1, h2, _⟩ hB => ⟨a0, c0, a1, c1, a2, c2, h, h0.mono rReplica_good hB, h1.mono rMsg_good hB, h2.mono rAsked_good hB, trivial⟩⟩

def oCluster : ORep MCluster := fun w cs m F => ∃ v0 : Value, ∃ F0 : List Nat, ∃ v1 : Value, ∃ F1 : List Nat, ∃ v2 : Value, ∃ F2 : List Nat, cs = [v0, v1, v2] ∧ ownS 8 49 oReplica w v0 m.fReps F0 ∧ ownS 9 86 oMsg w v1 m.fNet F1 ∧ ownS 6 89 oAsked w v2 m.fAsked F2 ∧ F = F0 ++ F1 ++ F2 ++ []

theorem oCluster_good : oCluster.Good rCluster 3 := by
  refine ⟨?_, ?_, ?_, ?_⟩
  · rintro w w' cs m F ⟨v0, F0, v1, F1, v2, F2, rfl, h0, h1, h2, rfl⟩ hb
    exact ⟨v0, F0, v1, F1, v2, F2, rfl, ownS.frame oReplica_good h0 (fun k hk => hb k (by simp [hk])), ownS.frame oMsg_good h1 (fun k hk => hb k (by simp [hk])), ownS.frame oAsked_good h2 (fun k hk => hb k (by simp [hk])), rfl⟩
  · rintro w cs m F ⟨v0, F0, v1, F1, v2, F2, rfl, h0, h1, h2, rfl⟩ k hk
    simp only [List.mem_append, List.not_mem_nil, or_false] at hk
    rcases hk with (hk | hk) | hk
    · exact ownS.lt oReplica_good h0 k hk
    · exact ownS.lt oMsg_good h1 k hk
    · exact ownS.lt oAsked_good h2 k hk
  · rintro w cs m F ⟨v0, F0, v1, F1, v2, F2, rfl, h0, h1, h2, rfl⟩
    obtain ⟨a0, c0, rfl, g0⟩ := ownS.read oReplica_good h0
    obtain ⟨a1, c1, rfl, g1⟩ := ownS.read oMsg_good h1
    obtain ⟨a2, c2, rfl, g2⟩ := ownS.read oAsked_good h2
    exact ⟨a0, c0, a1, c1, a2, c2, rfl, g0, g1, g2, trivial⟩
  · rintro w cs m F ⟨v0, F0, v1, F1, v2, F2, rfl, h0, h1, h2, rfl⟩
    rfl

def wCluster (m : MCluster) : Nat := (m.fReps.length + sumW wReplica m.fReps) + (m.fNet.length + sumW wMsg m.fNet) + (m.fAsked.length + sumW wAsked m.fAsked)

end Go.Proofs.Ytembioiaeimegaa
