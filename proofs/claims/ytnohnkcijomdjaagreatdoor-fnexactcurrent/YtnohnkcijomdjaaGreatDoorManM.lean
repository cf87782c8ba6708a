/-
  Manifests, as plain functions: which are right; no program is named here.
-/
import Derived.Test.YtnohnkcijomdjaaGreatDoorStrM
import Derived.Test.YtnohnkcijomdjaaGreatDoorQDat
namespace Go.Proofs.YtnohnkcijomdjaaGreatDoor
open Go.RowKit
set_option linter.unusedVariables false
set_option linter.unusedSimpArgs false

/-- A key of a table's range: 1 to 20 bytes. -/
def mKeyP (s : ByteArray) : Bool := decide (1 ≤ s.size ∧ s.size ≤ 20)
/-- A text is not above another. -/
def kLe (a b : ByteArray) : Bool := !kLt b a
theorem kLe_trans {a b c : ByteArray} (h1 : kLe a b = true) (h2 : kLe b c = true) : kLe a c = true := by
  unfold kLe at *
  cases h : kLt c a with
  | false => rfl
  | true =>
    exfalso
    by_cases hab : a = b
    · subst hab; rw [h] at h2; cases h2
    · have h3 : kLt b a = false := by cases hx : kLt b a with | false => rfl | true => rw [hx] at h1; cases h1
      have h4 := kLt_trans h (kLt_tri h3 (fun e => hab e.symm))
      rw [h4] at h2; cases h2
/-- What stands in a table's own line is right, below this number. -/
def metaP (next : Int) (t : MMeta) : Bool :=
  decide (1 ≤ t.fNo ∧ t.fNo ≤ next - 1) && decide (0 ≤ t.fLevel ∧ t.fLevel ≤ 3) && mKeyP t.fLo && mKeyP t.fHi && kLe t.fLo t.fHi
/-- Two tables of one level of 1 or more with a place in common. -/
def meetP (t u : MMeta) : Bool := decide (0 < t.fLevel) && decide (u.fLevel = t.fLevel) && kLe u.fLo t.fHi && kLe t.fLo u.fHi
def lastNo (l : List MMeta) : Int := (l.getLast?.map MMeta.fNo).getD 0
theorem lastNo_snoc (l : List MMeta) (t : MMeta) : lastNo (l ++ [t]) = t.fNo := by simp [lastNo]
/-- The tables from here on, behind those that were seen. -/
def tabsFrom (next : Int) : List MMeta → List MMeta → Bool
  | _, [] => true
  | seen, t :: r => metaP next t && decide (lastNo seen < t.fNo) && seen.all (fun u => !meetP t u) && tabsFrom next (seen ++ [t]) r
def manOkP (m : MManifest) : Bool :=
  decide (1 ≤ m.fNext ∧ m.fNext ≤ 100000) && decide (0 ≤ m.fLog ∧ m.fLog ≤ m.fNext - 1) && decide (m.fTables.length ≤ 20) && tabsFrom m.fNext [] m.fTables
/-- One table behind those ahead of it. -/
def tabAt (next : Int) (l : List MMeta) (k : Nat) (t : MMeta) : Bool := metaP next t && decide (lastNo (l.take k) < t.fNo) && (l.take k).all (fun u => !meetP t u)
theorem tabs_step {next : Int} {l : List MMeta} {k : Nat} (h : k < l.length) : tabsFrom next (l.take k) (l.drop k) = (tabAt next l k l[k] && tabsFrom next (l.take (k + 1)) (l.drop (k + 1))) := by
  rw [List.drop_eq_getElem_cons h, List.take_succ_eq_append_getElem h]
  rfl
theorem tabs_end {next : Int} {l : List MMeta} {k : Nat} (h : l.length ≤ k) : tabsFrom next (l.take k) (l.drop k) = true := by
  rw [List.drop_eq_nil_of_le h]
  rfl
theorem tabs_bad {next : Int} {l : List MMeta} {k : Nat} (h : k < l.length) (hb : tabAt next l k l[k] = false) : tabsFrom next (l.take k) (l.drop k) = false := by
  rw [tabs_step h, hb, Bool.false_and]
theorem tabs_good {next : Int} {l : List MMeta} {k : Nat} (h : k < l.length) (hb : tabAt next l k l[k] = true) : tabsFrom next (l.take k) (l.drop k) = tabsFrom next (l.take (k + 1)) (l.drop (k + 1)) := by
  rw [tabs_step h, hb, Bool.true_and]
theorem tabAt_bad1 {next : Int} {l : List MMeta} {k : Nat} {t : MMeta} (h : metaP next t = false) : tabAt next l k t = false := by
  unfold tabAt; rw [h, Bool.false_and, Bool.false_and]
theorem tabAt_bad2 {next : Int} {l : List MMeta} {k : Nat} {t : MMeta} (h : t.fNo ≤ lastNo (l.take k)) : tabAt next l k t = false := by
  unfold tabAt; rw [decide_eq_false (by omega), Bool.and_false, Bool.false_and]
theorem tabAt_bad3 {next : Int} {l : List MMeta} {k j : Nat} {t : MMeta} (hj : j < k) (hjl : j < l.length) (h : meetP t l[j] = true) : tabAt next l k t = false := by
  unfold tabAt
  have : (l.take k).all (fun u => !meetP t u) = false := by
    rw [List.all_eq_false]
    refine ⟨l[j], ?_, by rw [h]; simp⟩
    rw [List.mem_iff_getElem]
    exact ⟨j, by simp; omega, by simp⟩
  rw [this, Bool.and_false]
theorem tabAt_good {next : Int} {l : List MMeta} {k : Nat} {t : MMeta} (h1 : metaP next t = true) (h2 : lastNo (l.take k) < t.fNo) (h3 : ∀ j, (hj : j < l.length) → j < k → meetP t l[j] = false) : tabAt next l k t = true := by
  unfold tabAt
  rw [h1, decide_eq_true h2, Bool.true_and, Bool.true_and, List.all_eq_true]
  intro u hu
  obtain ⟨j, hj, rfl⟩ := List.mem_iff_getElem.1 hu
  have hjl : j < l.length ∧ j < k := by simp at hj; omega
  have := h3 j hjl.1 hjl.2
  simp [this]
theorem lastNo_take {l : List MMeta} {k : Nat} (h : k < l.length) : lastNo (l.take (k + 1)) = l[k].fNo := by
  rw [List.take_succ_eq_append_getElem h, lastNo_snoc]
theorem metaP_no {next : Int} {t : MMeta} (h : ¬ (1 ≤ t.fNo ∧ t.fNo ≤ next - 1)) : metaP next t = false := by unfold metaP; rw [decide_eq_false h]; simp
/-- The range's own part. -/
def spanP (t : MMeta) : Bool := decide (0 ≤ t.fLevel ∧ t.fLevel ≤ 3) && mKeyP t.fLo && mKeyP t.fHi && kLe t.fLo t.fHi
theorem metaP_range {next : Int} {t : MMeta} (h : 1 ≤ t.fNo ∧ t.fNo ≤ next - 1) : metaP next t = spanP t := by unfold metaP spanP; rw [decide_eq_true h]; simp

def maxK (a b : ByteArray) : ByteArray := if kLt a b then b else a
def minK (a b : ByteArray) : ByteArray := if kLt b a then b else a
theorem kLe_of_lt {a b : ByteArray} (h : kLt a b = true) : kLe a b = true := by unfold kLe; rw [kLt_asymm h]; rfl
theorem kLe_max (a c x : ByteArray) : kLe (maxK a c) x = (kLe a x && kLe c x) := by
  unfold maxK
  by_cases h : kLt a c = true
  · rw [if_pos h]
    cases hc : kLe c x with
    | false => simp
    | true => rw [kLe_trans (kLe_of_lt h) hc]; rfl
  · rw [if_neg h]
    have h2 : kLe c a = true := by unfold kLe; rw [Bool.eq_false_iff.2 h]; rfl
    cases ha : kLe a x with
    | false => simp
    | true => rw [kLe_trans h2 ha]; rfl
theorem kLe_min (x b d : ByteArray) : kLe x (minK b d) = (kLe x b && kLe x d) := by
  unfold minK
  by_cases h : kLt d b = true
  · rw [if_pos h]
    cases hc : kLe x d with
    | false => simp
    | true => rw [kLe_trans hc (kLe_of_lt h)]; rfl
  · rw [if_neg h]
    have h2 : kLe b d = true := by unfold kLe; rw [Bool.eq_false_iff.2 h]; rfl
    cases ha : kLe x b with
    | false => simp
    | true => rw [kLe_trans ha h2]; rfl
theorem kLe_or (a b : ByteArray) : (Op.bytesLess a.toList b.toList || a.toList == b.toList) = kLe a b := by
  unfold kLe
  by_cases h : kLt a b = true
  · rw [kLt_asymm h, show Op.bytesLess a.toList b.toList = true from h]; rfl
  · have h' : Op.bytesLess a.toList b.toList = false := Bool.eq_false_iff.2 h
    rw [h', Bool.false_or]
    by_cases he : a = b
    · rw [he, kLt_irrefl]; simp
    · rw [k_ne he, kLt_tri h' he]; rfl
theorem kLe_yes {a b : ByteArray} (h : kLe a b = true) : Op.bytesLess a.toList b.toList = true ∨ (a.toList == b.toList) = true := by
  rw [← kLe_or, Bool.or_eq_true] at h; exact h
theorem kLe_no {a b : ByteArray} (h : kLe a b = false) : Op.bytesLess a.toList b.toList = false ∧ (a.toList == b.toList) = false := by
  rw [← kLe_or, Bool.or_eq_false_iff] at h; exact h
theorem run_max_k {P : Program} {w : World} (ts : Array TypeId) (t : TypeId) (x y : ByteArray) : (Builtin.max_ ts t #[.string x, .string y]).run P w = .ok (.string (maxK x y)) w := by
  cases h : Op.bytesLess x.toList y.toList <;> simp [Builtin.max_, Builtin.max2, Op.stringOp, asBool, maxK, kLt, h]
theorem run_min_k {P : Program} {w : World} (ts : Array TypeId) (t : TypeId) (x y : ByteArray) : (Builtin.min_ ts t #[.string x, .string y]).run P w = .ok (.string (minK x y)) w := by
  have hx : (kLe x y = true ∧ minK x y = x) ∨ (kLe x y = false ∧ minK x y = y) := by
    unfold kLe minK
    cases h : kLt y x <;> simp
  rcases hx with ⟨h1, h2⟩ | ⟨h1, h2⟩
  · rw [h2]
    rcases kLe_yes h1 with h | h
    · simp [Builtin.min_, Builtin.min2, Op.stringOp, asBool, h]
    · simp only [beq_iff_eq] at h
      simp [Builtin.min_, Builtin.min2, Op.stringOp, asBool, h]
  · rw [h2]
    obtain ⟨h3, h4⟩ := kLe_no h1
    simp only [beq_eq_false_iff_ne, ne_eq] at h4
    simp [Builtin.min_, Builtin.min2, Op.stringOp, asBool, h3, h4]
/-- A range has a place in common with what lies from lo to hi, as the program asks it. -/
def reachP (t : MMeta) (lo hi : ByteArray) : Bool := kLe (maxK t.fLo lo) (minK t.fHi hi)
theorem reach_meet {t u : MMeta} (ht : kLe t.fLo t.fHi = true) (hu : kLe u.fLo u.fHi = true) : reachP u t.fLo t.fHi = (kLe u.fLo t.fHi && kLe t.fLo u.fHi) := by
  unfold reachP
  rw [kLe_max, kLe_min, kLe_min, ht, hu]
  simp
/-- The program's question of one table against those ahead. -/
def apartI (t : MMeta) (l : List MMeta) : Bool := decide (t.fLevel = 0) || l.all (fun o => !(decide (o.fLevel = t.fLevel) && reachP o t.fLo t.fHi))
theorem apart_all {t : MMeta} {l : List MMeta} (ht : kLe t.fLo t.fHi = true) (hl : 0 ≤ t.fLevel) (hu : ∀ u, u ∈ l → kLe u.fLo u.fHi = true) : apartI t l = l.all (fun u => !meetP t u) := by
  unfold apartI
  by_cases h0 : t.fLevel = 0
  · rw [decide_eq_true h0, Bool.true_or]
    symm
    rw [List.all_eq_true]
    intro u _
    simp [meetP, h0]
  · rw [decide_eq_false h0, Bool.false_or, Bool.eq_iff_iff, List.all_eq_true, List.all_eq_true]
    have h1 : decide (0 < t.fLevel) = true := decide_eq_true (by omega)
    constructor
    · intro h u hm
      have := h u hm
      rw [reach_meet ht (hu u hm)] at this
      unfold meetP
      rw [h1, Bool.true_and, Bool.and_assoc]
      exact this
    · intro h u hm
      have := h u hm
      unfold meetP at this
      rw [h1, Bool.true_and, Bool.and_assoc] at this
      rw [reach_meet ht (hu u hm)]
      exact this
theorem spanP_le {t : MMeta} (h : spanP t = true) : kLe t.fLo t.fHi = true ∧ 0 ≤ t.fLevel := by
  simp only [spanP, Bool.and_eq_true, decide_eq_true_eq] at h
  exact ⟨h.2, h.1.1.1.1⟩
/-- One table, as the program asks. -/
theorem tabAt_impl {next : Int} {l : List MMeta} {k : Nat} {t : MMeta} (h0 : 0 ≤ lastNo (l.take k)) (hu : ∀ u, u ∈ l.take k → kLe u.fLo u.fHi = true) :
    tabAt next l k t = (decide (lastNo (l.take k) < t.fNo) && decide (t.fNo < next) && spanP t && apartI t (l.take k)) := by
  unfold tabAt
  by_cases h1 : lastNo (l.take k) < t.fNo
  · by_cases h2 : t.fNo < next
    · rw [metaP_range ⟨by omega, by omega⟩, decide_eq_true h1, decide_eq_true h2]
      cases hr : spanP t with
      | false => simp
      | true =>
        obtain ⟨h3, h4⟩ := spanP_le hr
        rw [apart_all h3 h4 hu]
        simp
    · rw [metaP_no (by omega), decide_eq_false h2]; simp
  · rw [decide_eq_false h1]; simp

end Go.Proofs.YtnohnkcijomdjaaGreatDoor
