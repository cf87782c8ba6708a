/-
  Part 14 of the texts that the proof leans on.
-/
import Derived.Test.YtddejboifpepcaaGreatDoorInp12
import Derived.Test.YtddejboifpepcaaGreatDoorInp2
import Derived.Lib.ItoaNum
import Derived.Lib.Join
import Derived.Laws.BytesArg
import Derived.Test.YtddejboifpepcaaGreatDoorInp3
import Derived.Test.YtddejboifpepcaaGreatDoorInp5
import Derived.Test.YtddejboifpepcaaGreatDoorInp0
import Derived.Test.YtddejboifpepcaaGreatDoorChecked
set_option linter.unusedVariables false
set_option linter.unusedSimpArgs false
set_option maxRecDepth 10000

namespace Go.Proofs.YtddejboifpepcaaGreatDoor
open Go.RowKit
def mKeyP (s : ByteArray) : Bool := decide (1 ≤ s.size ∧ s.size ≤ 20)
def kLe (a b : ByteArray) : Bool := !kLt b a
theorem kLe_trans {a b c : ByteArray} (h1 : kLe a b = true) (h2 : kLe b c = true) : kLe a c = true := by
 unfold kLe at *
 cases h : kLt c a with
 | false => rfl
 | true =>
  exfalso
  by_cases hab : a = b
  ·subst hab; rw [h] at h2; cases h2
  ·have h3 : kLt b a = false := by cases hx : kLt b a with | false => rfl | true => rw [hx] at h1; cases h1
   have h4 := kLt_trans h (kLt_tri h3 (fun e => hab e.symm))
   rw [h4] at h2; cases h2
def metaP (next : Int) (t : MMeta) : Bool :=
 decide (1 ≤ t.fNo ∧ t.fNo ≤ next - 1) && decide (0 ≤ t.fLevel ∧ t.fLevel ≤ 3) && mKeyP t.fLo && mKeyP t.fHi && kLe t.fLo t.fHi
def meetP (t u : MMeta) : Bool := decide (0 < t.fLevel) && decide (u.fLevel = t.fLevel) && kLe u.fLo t.fHi && kLe t.fLo u.fHi
def lastNo (l : List MMeta) : Int := (l.getLast?.map MMeta.fNo).getD 0
theorem lastNo_snoc (l : List MMeta) (t : MMeta) : lastNo (l ++ [t]) = t.fNo := by simp [lastNo]
def tabsFrom (next : Int) : List MMeta → List MMeta → Bool
 | _, [] => true
 | seen, t :: r => metaP next t && decide (lastNo seen < t.fNo) && seen.all (fun u => !meetP t u) && tabsFrom next (seen ++ [t]) r
def manOkP (m : MManifest) : Bool :=
 decide (1 ≤ m.fNext ∧ m.fNext ≤ 100000) && decide (0 ≤ m.fLog ∧ m.fLog ≤ m.fNext - 1) && decide (m.fTables.length ≤ 20) && tabsFrom m.fNext [] m.fTables
def tabAt (next : Int) (l : List MMeta) (k : Nat) (t : MMeta) : Bool := metaP next t && decide (lastNo (l.take k) < t.fNo) && (l.take k).all (fun u => !meetP t u)
theorem tabs_step {next : Int} {l : List MMeta} {k : Nat} (h : k < l.length) : tabsFrom next (l.take k) (l.drop k) = (tabAt next l k l[k] && tabsFrom next (l.take (k + 1)) (l.drop (k + 1))) := by
 rw [List.drop_eq_getElem_cons h, List.take_succ_eq_append_getElem h]
 rfl
theorem tabs_end {next : Int} {l : List MMeta} {k : Nat} (h : l.length ≤ k) : tabsFrom next (l.take k) (l.drop k) = true := by
 rw [List.drop_eq_nil_of_le h]
 rfl
theorem tabs_bad {next : Int} {l : List MMeta} {k : Nat} (h : k < l.length) (hb : tabAt next l k l[k] = false) : tabsFrom next (l.take k) (l.drop k) = false := by
 rw [tabs_step h, hb, Bool.false_and]
theorem tabs_good {next : Int} {l : List MMeta} {k : Nat} (h : k < l.length) (hb : tabAt next l k l[k] = true) : tabsFrom next (l.take k) (l.drop k) = tabsFrom next (l.take (k + 1)) (l.drop (k + 1)) := by
 rw [tabs_step h, hb, Bool.true_and]
theorem tabAt_bad1 {next : Int} {l : List MMeta} {k : Nat} {t : MMeta} (h : metaP next t = false) : tabAt next l k t = false := by
 unfold tabAt; rw [h, Bool.false_and, Bool.false_and]
theorem tabAt_bad2 {next : Int} {l : List MMeta} {k : Nat} {t : MMeta} (h : t.fNo ≤ lastNo (l.take k)) : tabAt next l k t = false := by
 unfold tabAt; rw [decide_eq_false (by omega), Bool.and_false, Bool.false_and]
theorem tabAt_bad3 {next : Int} {l : List MMeta} {k j : Nat} {t : MMeta} (hj : j < k) (hjl : j < l.length) (h : meetP t l[j] = true) : tabAt next l k t = false := by
 unfold tabAt
 have : (l.take k).all (fun u => !meetP t u) = false := by
  rw [List.all_eq_false]
  refine ⟨l[j], ?_, by rw [h]; simp⟩
  rw [List.mem_iff_getElem]
  exact ⟨j, by simp; omega, by simp⟩
 rw [this, Bool.and_false]
theorem tabAt_good {next : Int} {l : List MMeta} {k : Nat} {t : MMeta} (h1 : metaP next t = true) (h2 : lastNo (l.take k) < t.fNo) (h3 : ∀ j, (hj : j < l.length) → j < k → meetP t l[j] = false) : tabAt next l k t = true := by
 unfold tabAt
 rw [h1, decide_eq_true h2, Bool.true_and, Bool.true_and, List.all_eq_true]
 intro u hu
 obtain ⟨j, hj, rfl⟩ := List.mem_iff_getElem.1 hu
 have hjl : j < l.length ∧ j < k := by simp at hj; omega
 have := h3 j hjl.1 hjl.2
 simp [this]
theorem lastNo_take {l : List MMeta} {k : Nat} (h : k < l.length) : lastNo (l.take (k + 1)) = l[k].fNo := by
 rw [List.take_succ_eq_append_getElem h, lastNo_snoc]
theorem metaP_no {next : Int} {t : MMeta} (h : ¬ (1 ≤ t.fNo ∧ t.fNo ≤ next - 1)) : metaP next t = false := by unfold metaP; rw [decide_eq_false h]; simp
def spanP (t : MMeta) : Bool := decide (0 ≤ t.fLevel ∧ t.fLevel ≤ 3) && mKeyP t.fLo && mKeyP t.fHi && kLe t.fLo t.fHi
theorem metaP_range {next : Int} {t : MMeta} (h : 1 ≤ t.fNo ∧ t.fNo ≤ next - 1) : metaP next t = spanP t := by unfold metaP spanP; rw [decide_eq_true h]; simp
def maxK (a b : ByteArray) : ByteArray := if kLt a b then b else a
def minK (a b : ByteArray) : ByteArray := if kLt b a then b else a
theorem kLe_of_lt {a b : ByteArray} (h : kLt a b = true) : kLe a b = true := by unfold kLe; rw [kLt_asymm h]; rfl
theorem kLe_max (a c x : ByteArray) : kLe (maxK a c) x = (kLe a x && kLe c x) := by
 unfold maxK
 by_cases h : kLt a c = true
 ·rw [if_pos h]
  cases hc : kLe c x with
  | false => simp
  | true => rw [kLe_trans (kLe_of_lt h) hc]; rfl
 ·rw [if_neg h]
  have h2 : kLe c a = true := by unfold kLe; rw [Bool.eq_false_iff.2 h]; rfl
  cases ha : kLe a x with
  | false => simp
  | true => rw [kLe_trans h2 ha]; rfl
theorem kLe_min (x b d : ByteArray) : kLe x (minK b d) = (kLe x b && kLe x d) := by
 unfold minK
 by_cases h : kLt d b = true
 ·rw [if_pos h]
  cases hc : kLe x d with
  | false => simp
  | true => rw [kLe_trans hc (kLe_of_lt h)]; rfl
 ·rw [if_neg h]
  have h2 : kLe b d = true := by unfold kLe; rw [Bool.eq_false_iff.2 h]; rfl
  cases ha : kLe x b with
  | false => simp
  | true => rw [kLe_trans ha h2]; rfl
theorem kLe_or (a b : ByteArray) : (Op.bytesLess a.toList b.toList || a.toList == b.toList) = kLe a b := by
 unfold kLe
 by_cases h : kLt a b = true
 ·rw [kLt_asymm h, show Op.bytesLess a.toList b.toList = true from h]; rfl
 ·have h' : Op.bytesLess a.toList b.toList = false := Bool.eq_false_iff.2 h
  rw [h', Bool.false_or]
  by_cases he : a = b
  ·rw [he, kLt_irrefl]; simp
  ·rw [k_ne he, kLt_tri h' he]; rfl
theorem kLe_yes {a b : ByteArray} (h : kLe a b = true) : Op.bytesLess a.toList b.toList = true ∨ (a.toList == b.toList) = true := by
 rw [← kLe_or, Bool.or_eq_true] at h; exact h
theorem kLe_no {a b : ByteArray} (h : kLe a b = false) : Op.bytesLess a.toList b.toList = false ∧ (a.toList == b.toList) = false := by
 rw [← kLe_or, Bool.or_eq_false_iff] at h; exact h
theorem run_max_k {P : Program} {w : World} (ts : Array TypeId) (t : TypeId) (x y : ByteArray) : (Builtin.max_ ts t #[.string x, .string y]).run P w = .ok (.string (maxK x y)) w := by
 cases h : Op.bytesLess x.toList y.toList <;> simp [Builtin.max_, Builtin.max2, Op.stringOp, asBool, maxK, kLt, h]
theorem run_min_k {P : Program} {w : World} (ts : Array TypeId) (t : TypeId) (x y : ByteArray) : (Builtin.min_ ts t #[.string x, .string y]).run P w = .ok (.string (minK x y)) w := by
 have hx : (kLe x y = true ∧ minK x y = x) ∨ (kLe x y = false ∧ minK x y = y) := by
  unfold kLe minK
  cases h : kLt y x <;> simp
 rcases hx with ⟨h1, h2⟩ | ⟨h1, h2⟩
 ·rw [h2]
  rcases kLe_yes h1 with h | h
  ·simp [Builtin.min_, Builtin.min2, Op.stringOp, asBool, h]
  ·simp only [beq_iff_eq] at h
   simp [Builtin.min_, Builtin.min2, Op.stringOp, asBool, h]
 ·rw [h2]
  obtain ⟨h3, h4⟩ := kLe_no h1
  simp only [beq_eq_false_iff_ne, ne_eq] at h4
  simp [Builtin.min_, Builtin.min2, Op.stringOp, asBool, h3, h4]
def reachP (t : MMeta) (lo hi : ByteArray) : Bool := kLe (maxK t.fLo lo) (minK t.fHi hi)
theorem reach_meet {t u : MMeta} (ht : kLe t.fLo t.fHi = true) (hu : kLe u.fLo u.fHi = true) : reachP u t.fLo t.fHi = (kLe u.fLo t.fHi && kLe t.fLo u.fHi) := by
 unfold reachP
 rw [kLe_max, kLe_min, kLe_min, ht, hu]
 simp
def apartI (t : MMeta) (l : List MMeta) : Bool := decide (t.fLevel = 0) || l.all (fun o => !(decide (o.fLevel = t.fLevel) && reachP o t.fLo t.fHi))
theorem apart_all {t : MMeta} {l : List MMeta} (ht : kLe t.fLo t.fHi = true) (hl : 0 ≤ t.fLevel) (hu : ∀ u, u ∈ l → kLe u.fLo u.fHi = true) : apartI t l = l.all (fun u => !meetP t u) := by
 unfold apartI
 by_cases h0 : t.fLevel = 0
 ·rw [decide_eq_true h0, Bool.true_or]
  symm
  rw [List.all_eq_true]
  intro u _
  simp [meetP, h0]
 ·rw [decide_eq_false h0, Bool.false_or, Bool.eq_iff_iff, List.all_eq_true, List.all_eq_true]
  have h1 : decide (0 < t.fLevel) = true := decide_eq_true (by omega)
  constructor
  ·intro h u hm
   have := h u hm
   rw [reach_meet ht (hu u hm)] at this
   unfold meetP
   rw [h1, Bool.true_and, Bool.and_assoc]
   exact this
  ·intro h u hm
   have := h u hm
   unfold meetP at this
   rw [h1, Bool.true_and, Bool.and_assoc] at this
   rw [reach_meet ht (hu u hm)]
   exact this
theorem spanP_le {t : MMeta} (h : spanP t = true) : kLe t.fLo t.fHi = true ∧ 0 ≤ t.fLevel := by
 simp only [spanP, Bool.and_eq_true, decide_eq_true_eq] at h
 exact ⟨h.2, h.1.1.1.1⟩
theorem tabAt_impl {next : Int} {l : List MMeta} {k : Nat} {t : MMeta} (h0 : 0 ≤ lastNo (l.take k)) (hu : ∀ u, u ∈ l.take k → kLe u.fLo u.fHi = true) :
  tabAt next l k t = (decide (lastNo (l.take k) < t.fNo) && decide (t.fNo < next) && spanP t && apartI t (l.take k)) := by
 unfold tabAt
 by_cases h1 : lastNo (l.take k) < t.fNo
 ·by_cases h2 : t.fNo < next
  ·rw [metaP_range ⟨by omega, by omega⟩, decide_eq_true h1, decide_eq_true h2]
   cases hr : spanP t with
   | false => simp
   | true =>
    obtain ⟨h3, h4⟩ := spanP_le hr
    rw [apart_all h3 h4 hu]
    simp
  ·rw [metaP_no (by omega), decide_eq_false h2]; simp
 ·rw [decide_eq_false h1]; simp
def strB (l : List UInt8) : ByteArray := ⟨l.toArray⟩
theorem strB_data (l : List UInt8) : (strB l).data.toList = l := by simp [strB]
theorem strB_size (l : List UInt8) : (strB l).size = l.length := by simp [strB, ByteArray.size]
theorem strB_app (a b : List UInt8) : strB a ++ strB b = strB (a ++ b) := by
 apply ByteArray.ext
 rw [ByteArray.data_append]
 simp [strB]
theorem strB_nums (l : List Int) : strOfNums l = strB (l.map fun n => UInt8.ofNat n.toNat) := rfl
theorem strB_inj {a b : List UInt8} (h : a = b) : strB a = strB b := by rw [h]
def decD (n : Int) : List UInt8 := Lib.decDigits n.toNat
theorem decD_itoa {n : Int} (h : 0 ≤ n) : Lib.itoa n = decD n := by unfold Lib.itoa decD; rw [if_neg (by omega)]
theorem dec_len (n : Nat) : (Lib.decDigits n).length ≤ n + 1 := by
 induction n using Nat.strongRecOn with
 | _ n ih =>
  rw [Lib.decDigits]
  split
  ·simp
  ·rw [List.length_append]
   have := ih (n / 10) (by omega)
   simp
   omega
theorem decD_len {n : Int} (h : n ≤ 100000) : (decD n).length ≤ 100001 := by
 have := dec_len n.toNat
 unfold decD
 omega
theorem decD_small {n : Int} (h0 : 0 ≤ n) (h : n < 10) : decD n = [UInt8.ofNat (48 + n.toNat)] := by
 unfold decD
 rw [Lib.decDigits, dif_pos (by omega)]
theorem decD_big {n : Int} (h : 10 ≤ n) : decD n = decD (n / 10) ++ [UInt8.ofNat (48 + (n % 10).toNat)] := by
 unfold decD
 rw [Lib.decDigits, dif_neg (by omega), show (n / 10).toNat = n.toNat / 10 by omega, show (n % 10).toNat = n.toNat % 10 by omega]
def hexL : List UInt8 := [48, 49, 50, 51, 52, 53, 54, 55, 56, 57, 97, 98, 99, 100, 101, 102]
def hexD (x : Nat) : UInt8 := hexL.getD x 0
def hexB (b : UInt8) : List UInt8 := [hexD (b.toNat / 16), hexD (b.toNat % 16)]
def hexT (s : ByteArray) : List UInt8 := s.data.toList.flatMap hexB
theorem hexT_len (s : ByteArray) : (hexT s).length = 2 * s.size := by
 unfold hexT
 have h : ∀ l : List UInt8, (l.flatMap hexB).length = 2 * l.length := by
  intro l
  induction l with
  | nil => rfl
  | cons x r ih => rw [List.flatMap_cons, List.length_append, ih]; simp [hexB]; omega
 rw [h, Array.length_toList]
 rfl
def tabW : List UInt8 := [116, 97, 98]
def endW : List UInt8 := [101, 110, 100]
def nextW : List UInt8 := [110, 101, 120, 116, 32]
def logW : List UInt8 := [32, 108, 111, 103, 32]
def lineT (t : MMeta) : List UInt8 := tabW ++ [32] ++ decD t.fNo ++ [32] ++ decD t.fLevel ++ [32] ++ hexT t.fLo ++ [32] ++ hexT t.fHi
def headT (m : MManifest) : List UInt8 := nextW ++ decD m.fNext ++ logW ++ decD m.fLog
def linesT (l : List MMeta) : List UInt8 := l.flatMap fun t => lineT t ++ [10]
def manTextL (m : MManifest) : List UInt8 := headT m ++ [10] ++ linesT m.fTables ++ endW ++ [10]
def manTextP (m : MManifest) : ByteArray := if manOkP m = true then strB (manTextL m) else ⟨#[]⟩
theorem manTextP_yes {m : MManifest} (h : manOkP m = true) : manTextP m = strB (manTextL m) := if_pos h
theorem manTextP_no {m : MManifest} (h : manOkP m = false) : manTextP m = ⟨#[]⟩ := if_neg (by rw [h]; simp)
theorem linesT_take {l : List MMeta} {k : Nat} (h : k < l.length) : linesT (l.take (k + 1)) = linesT (l.take k) ++ lineT l[k] ++ [10] := by
 unfold linesT
 rw [List.take_succ_eq_append_getElem h, List.flatMap_append]
 simp
theorem tabs_all {next : Int} : ∀ {seen l : List MMeta}, tabsFrom next seen l = true → ∀ t, t ∈ l → metaP next t = true
 | _, [], _, t, ht => by cases ht
 | seen, x :: r, h, t, ht => by
  simp only [tabsFrom, Bool.and_eq_true] at h
  rcases List.mem_cons.1 ht with rfl | ht
  ·exact h.1.1.1
  ·exact tabs_all h.2 t ht
structure MetaOk (next : Int) (t : MMeta) : Prop where
 no0 : 1 ≤ t.fNo
 no1 : t.fNo ≤ next - 1
 lv0 : 0 ≤ t.fLevel
 lv1 : t.fLevel ≤ 3
 lo : t.fLo.size ≤ 20
 hi : t.fHi.size ≤ 20
 le : kLe t.fLo t.fHi = true
theorem metaP_facts {next : Int} {t : MMeta} (h : metaP next t = true) : MetaOk next t := by
 simp only [metaP, mKeyP, Bool.and_eq_true, decide_eq_true_eq] at h
 exact ⟨h.1.1.1.1.1, h.1.1.1.1.2, h.1.1.1.2.1, h.1.1.1.2.2, h.1.1.2.2, h.1.2.2, h.2⟩
structure ManFacts (m : MManifest) : Prop where
 nx0 : 1 ≤ m.fNext
 nx1 : m.fNext ≤ 100000
 lg0 : 0 ≤ m.fLog
 lg1 : m.fLog ≤ m.fNext - 1
 len : m.fTables.length ≤ 20
 each : ∀ t, t ∈ m.fTables → MetaOk m.fNext t
theorem manOkP_facts {m : MManifest} (h : manOkP m = true) : ManFacts m := by
 simp only [manOkP, Bool.and_eq_true, decide_eq_true_eq] at h
 exact ⟨h.1.1.1.1, h.1.1.1.2, h.1.1.2.1, h.1.1.2.2, h.1.2, fun t ht => metaP_facts (tabs_all h.2 t ht)⟩
theorem lineT_len {next : Int} {t : MMeta} (h : MetaOk next t) (hn : next ≤ 100000) : (lineT t).length ≤ 300000 := by
 have h1 := decD_len (n := t.fNo) (by have := h.no1; omega)
 have h2 := decD_len (n := t.fLevel) (by have := h.lv1; omega)
 have h3 := hexT_len t.fLo
 have h4 := hexT_len t.fHi
 have h5 := h.lo
 have h6 := h.hi
 simp only [lineT, tabW, List.length_append, List.length_cons, List.length_nil]
 omega
theorem linesT_len {next : Int} {l : List MMeta} (h : ∀ t, t ∈ l → MetaOk next t) (hn : next ≤ 100000) : (linesT l).length ≤ l.length * 300001 := by
 induction l with
 | nil => simp [linesT]
 | cons x r ih =>
  have h1 := lineT_len (h x (List.mem_cons_self ..)) hn
  have h2 := ih (fun t ht => h t (List.mem_cons_of_mem _ ht))
  unfold linesT at h2 ⊢
  rw [List.flatMap_cons]
  simp only [List.length_append, List.length_cons, List.length_nil]
  omega
theorem headT_len {m : MManifest} (h : ManFacts m) : (headT m).length ≤ 300000 := by
 have h1 := decD_len h.nx1
 have h2 := decD_len (n := m.fLog) (by have := h.lg1; have := h.nx1; omega)
 simp only [headT, nextW, logW, List.length_append, List.length_cons, List.length_nil]
 omega
def lineS (m : MManifest) (l : List MMeta) : List (List UInt8) := headT m :: l.map lineT
theorem joinTail_lines (l : List MMeta) : Lib.joinTail [10] (l.map lineT ++ [endW, []]) = (l.flatMap fun t => [10] ++ lineT t) ++ [10] ++ endW ++ [10] := by
 unfold Lib.joinTail
 induction l with
 | nil => rfl
 | cons x r ih => rw [List.map_cons, List.cons_append, List.map_cons, List.flatten_cons, ih, List.flatMap_cons]; simp only [List.append_assoc]
theorem lines_shift (l : List MMeta) : (l.flatMap fun t => [10] ++ lineT t) ++ [(10 : UInt8)] = [10] ++ linesT l := by
 unfold linesT
 induction l with
 | nil => rfl
 | cons x r ih => simp only [List.flatMap_cons, List.append_assoc, ih]
theorem join_lines (m : MManifest) (l : List MMeta) : Lib.join (lineS m l ++ [endW, []]) [10] = headT m ++ [10] ++ linesT l ++ endW ++ [10] := by
 unfold lineS
 rw [List.cons_append, Lib.join_cons, joinTail_lines, lines_shift]
 simp only [List.append_assoc]
theorem join_line (t : MMeta) : Lib.join [tabW, decD t.fNo, decD t.fLevel, hexT t.fLo, hexT t.fHi] [32] = lineT t := by
 rw [Lib.join_cons]
 simp [Lib.joinTail, lineT]
theorem lineS_take {m : MManifest} {l : List MMeta} {k : Nat} (h : k < l.length) : lineS m (l.take (k + 1)) = lineS m (l.take k) ++ [lineT l[k]] := by
 unfold lineS
 rw [List.take_succ_eq_append_getElem h, List.map_append]
 rfl
end Go.Proofs.YtddejboifpepcaaGreatDoor

namespace Go.Proofs.YtddejboifpepcaaGreatDoor
open Go.RowKit Go.Maps
abbrev q15c_117_5_0 : Oper := ⟨some 13, .move (.tmp 3), 63, "l06_manifest.go:96", #[], none⟩
abbrev q15c_117_5_1 : Oper := ⟨some 14, .move (.tmp 5), 5, "l06_manifest.go:96", #[], none⟩
abbrev q15c_117_5_2 : Oper := ⟨some 15, .binOp .quo 5 (.tmp 14) (.const (.int .u8 16)) 5, 5, "l06_manifest.go:96", #[⟨1, .data⟩], none⟩
abbrev q15c_117_5_3 : Oper := ⟨some 16, .index 9 (.const (.string { data := #[48, 49, 50, 51, 52, 53, 54, 55, 56, 57, 97, 98, 99, 100, 101, 102] })) (.tmp 15), 5, "l06_manifest.go:96", #[⟨2, .data⟩], none⟩
abbrev q15c_117_5_4 : Oper := ⟨some 17, .move (.tmp 5), 5, "l06_manifest.go:96", #[], none⟩
abbrev q15c_117_5_5 : Oper := ⟨some 18, .binOp .rem 5 (.tmp 17) (.const (.int .u8 16)) 5, 5, "l06_manifest.go:96", #[⟨4, .data⟩], none⟩
abbrev q15c_117_5_6 : Oper := ⟨some 19, .index 9 (.const (.string { data := #[48, 49, 50, 51, 52, 53, 54, 55, 56, 57, 97, 98, 99, 100, 101, 102] })) (.tmp 18), 5, "l06_manifest.go:96", #[⟨5, .data⟩], none⟩
abbrev q15c_117_5_7 : Oper := ⟨some 20, .buildSlice 63 2 #[(0, .tmp 16), (1, .tmp 19)], 63, "l06_manifest.go:96", #[⟨3, .data⟩, ⟨6, .data⟩], none⟩
abbrev q15c_117_5_8 : Oper := ⟨some 21, .call { callee := .builtin .append, args := #[.tmp 13, .tmp 20], argTypes := #[63, 63] }, 63, "l06_manifest.go:96", #[⟨0, .data⟩, ⟨7, .data⟩], none⟩
abbrev q15c_117_5_9 : Oper := ⟨some 3, .assign (.tmp 21), 63, "l06_manifest.go:96", #[⟨8, .data⟩, ⟨8, .chain⟩, ⟨0, .phase⟩, ⟨1, .phase⟩, ⟨2, .phase⟩, ⟨3, .phase⟩, ⟨4, .phase⟩, ⟨5, .phase⟩, ⟨6, .phase⟩, ⟨7, .phase⟩, ⟨8, .phase⟩], none⟩
abbrev q15c_68_6_0 : Oper := ⟨some 13, .move (.tmp 4), 63, "l06_manifest.go:41", #[], none⟩
abbrev q15c_68_6_1 : Oper := ⟨some 14, .move (.tmp 3), 9, "l06_manifest.go:41", #[], none⟩
abbrev q15c_68_6_2 : Oper := ⟨some 15, .move (.tmp 0), 9, "l06_manifest.go:41", #[], none⟩
abbrev q15c_68_6_3 : Oper := ⟨some 16, .move (.tmp 5), 3, "l06_manifest.go:41", #[], none⟩
abbrev q15c_68_6_4 : Oper := ⟨some 17, .index 9 (.tmp 15) (.tmp 16), 5, "l06_manifest.go:41", #[⟨2, .data⟩, ⟨3, .data⟩], none⟩
abbrev q15c_68_6_5 : Oper := ⟨some 18, .binOp .shr 5 (.tmp 17) (.const (.int .u64 4)) 126, 5, "l06_manifest.go:41", #[⟨4, .data⟩], none⟩
abbrev q15c_68_6_6 : Oper := ⟨some 19, .index 9 (.tmp 14) (.tmp 18), 5, "l06_manifest.go:41", #[⟨1, .data⟩, ⟨5, .data⟩], none⟩
abbrev q15c_68_6_7 : Oper := ⟨some 20, .move (.tmp 3), 9, "l06_manifest.go:41", #[], none⟩
abbrev q15c_68_6_8 : Oper := ⟨some 21, .move (.tmp 0), 9, "l06_manifest.go:41", #[], none⟩
abbrev q15c_68_6_9 : Oper := ⟨some 22, .move (.tmp 5), 3, "l06_manifest.go:41", #[], none⟩
abbrev q15c_68_6_10 : Oper := ⟨some 23, .index 9 (.tmp 21) (.tmp 22), 5, "l06_manifest.go:41", #[⟨8, .data⟩, ⟨9, .data⟩], none⟩
abbrev q15c_68_6_11 : Oper := ⟨some 24, .binOp .and 5 (.tmp 23) (.const (.int .u8 15)) 5, 5, "l06_manifest.go:41", #[⟨10, .data⟩], none⟩
abbrev q15c_68_6_12 : Oper := ⟨some 25, .index 9 (.tmp 20) (.tmp 24), 5, "l06_manifest.go:41", #[⟨7, .data⟩, ⟨11, .data⟩], none⟩
abbrev q15c_68_6_13 : Oper := ⟨some 26, .buildSlice 63 2 #[(0, .tmp 19), (1, .tmp 25)], 63, "l06_manifest.go:41", #[⟨6, .data⟩, ⟨12, .data⟩], none⟩
abbrev q15c_68_6_14 : Oper := ⟨some 27, .call { callee := .builtin .append, args := #[.tmp 13, .tmp 26], argTypes := #[63, 63] }, 63, "l06_manifest.go:41", #[⟨0, .data⟩, ⟨13, .data⟩], none⟩
abbrev q15c_68_6_15 : Oper := ⟨some 4, .assign (.tmp 27), 63, "l06_manifest.go:41", #[⟨14, .data⟩, ⟨14, .chain⟩, ⟨0, .phase⟩, ⟨1, .phase⟩, ⟨2, .phase⟩, ⟨3, .phase⟩, ⟨4, .phase⟩, ⟨5, .phase⟩, ⟨6, .phase⟩, ⟨7, .phase⟩, ⟨8, .phase⟩, ⟨9, .phase⟩, ⟨10, .phase⟩, ⟨11, .phase⟩, ⟨12, .phase⟩, ⟨13, .phase⟩, ⟨14, .phase⟩], none⟩
def hexZ (zs : List Int) : List Int := zs.flatMap fun c => [((hexD (c / 16).toNat).toNat : Int), ((hexD (c % 16).toNat).toNat : Int)]
theorem hexZ_take {zs : List Int} {k : Nat} (h : k < zs.length) : hexZ (zs.take (k + 1)) = hexZ (zs.take k) ++ [((hexD (zs[k] / 16).toNat).toNat : Int), ((hexD (zs[k] % 16).toNat).toNat : Int)] := by
 unfold hexZ
 rw [List.take_succ_eq_append_getElem h, List.flatMap_append]
 simp
theorem hexZ_len (zs : List Int) : (hexZ zs).length = 2 * zs.length := by
 induction zs with
 | nil => rfl
 | cons x r ih => unfold hexZ at ih ⊢; rw [List.flatMap_cons, List.length_append, ih]; simp; omega
theorem hexZ_str (s : ByteArray) : strOfNums (hexZ (byteInts s)) = strB (hexT s) := by
 rw [strB_nums]
 apply strB_inj
 unfold hexZ byteInts hexT
 induction s.data.toList with
 | nil => rfl
 | cons x r ih =>
  rw [List.map_cons, List.flatMap_cons, List.flatMap_cons, List.map_append, ih]
  congr 1
  simp only [hexB, List.map_cons, List.map_nil]
  have h1 : (((x.toNat : Nat) : Int) / 16).toNat = x.toNat / 16 := by omega
  have h2 : (((x.toNat : Nat) : Int) % 16).toNat = x.toNat % 16 := by omega
  rw [h1, h2]
  simp
theorem conv_hex {w : World} {base e : Nat} {v : Value} {bs : List Int} (h : w.ownsRow base e 1 v bs.length (bs.map (Value.int .u8))) :
  (convert 63 9 v).run Tryz.prog w = .ok (.string (strOfNums bs)) w := by
 obtain ⟨a, c, rfl, _, hr⟩ := own_rd rfl h
 cases a with
 | none =>
  have hz : bs = [] := by
   cases bs with
   | nil => rfl
   | cons z r =>
    obtain ⟨_, _, h, _⟩ := hr 0 (by simp)
    cases h
  subst hz
  exact run_convert_bytes_nil w 63 5 Tryz.underlying63 Tryz.underlying5 _ _ 9 Tryz.underlying9
 | some ad =>
  rcases h.2 with ⟨h', _⟩ | ⟨g, cap, cur, h', _⟩
  ·simp at h'
  ·simp only [Value.slice.injEq, Option.some.injEq, true_and] at h'
   obtain ⟨rfl, rfl⟩ := h'
   exact run_convert_bytes_arg w 63 5 Tryz.underlying63 Tryz.underlying5 g 0 bs.length c bs rfl (fun i hi => by
    obtain ⟨b', o', e', _, hc⟩ := hr i hi
    simp only [Option.some.injEq, Addr.mk.injEq, and_true] at e'
    obtain ⟨rfl, rfl⟩ := e'
    exact hc) 9 Tryz.underlying9
theorem rd_two (k : IntKind) (w : World) (x y : Int) (t : TypeId) : Rd k (w.heap.size + 1) (w.alloc (.cells #[.int k x, .int k y] t)) (some ⟨w.heap.size, 0, none⟩) [x, y] := by
 intro j hj
 simp only [List.length_cons, List.length_nil] at hj
 have hj0 : j = 0 ∨ j = 1 := by omega
 rcases hj0 with rfl | rfl
 ·exact ⟨w.heap.size, 0, rfl, by omega, by simp⟩
 ·exact ⟨w.heap.size, 0, rfl, by omega, by simp⟩
theorem hexAt (c : Int) (w : World) (h0 : 0 ≤ c) (h1 : c < 16) :
  (Instr.index 9 (.string ⟨#[48, 49, 50, 51, 52, 53, 54, 55, 56, 57, 97, 98, 99, 100, 101, 102]⟩) (.int .u8 c)).run Tryz.prog w = .ok (.int .u8 ((hexD c.toNat).toNat : Int)) w := by
 have hh : ∀ i : Fin 16, (Instr.index 9 (.string ⟨#[48, 49, 50, 51, 52, 53, 54, 55, 56, 57, 97, 98, 99, 100, 101, 102]⟩) (.int .u8 (i.val : Int))).run Tryz.prog w = .ok (.int .u8 ((hexD i.val).toNat : Int)) w := by
  intro i
  rw [run_index_string w 9 _ .u8 _ Tryz.underlying9]
  have hi : (0 : Int) ≤ (i.val : Int) ∧ (i.val : Int) < ((⟨#[48, 49, 50, 51, 52, 53, 54, 55, 56, 57, 97, 98, 99, 100, 101, 102]⟩ : ByteArray).size : Int) := ⟨by omega, by have := i.isLt; show (i.val : Int) < 16; omega⟩
  rw [dif_pos hi]
  congr 3
  revert i
  decide
 obtain ⟨i, hi⟩ : ∃ i : Nat, c = (i : Int) := ⟨c.toNat, by omega⟩
 subst hi
 exact hh ⟨i, by omega⟩
set_option maxHeartbeats 2000000 in
theorem digitsOf_any (s : ByteArray) (w : World) (hs : s.size ≤ 1048576) :
  Calls Tryz.prog 117 #[.string s] w fun e w' => e = .returned (.string (strB (hexT s))) ∧ Below w.heap.size w w' := by
 obtain ⟨i0, hi0⟩ := info_parts Tryz.info5
 have HI := Hid.mk hi0
 clear hi0
 obtain ⟨w1, cap, hcv, hb1, hr1⟩ := strRd s w
 have HR := Hid.mk hr1
 have HO := Hid.mk (byteInts_ok s)
 have HS := Hid.mk (hexZ_str s)
 obtain ⟨zs, hzs⟩ : ∃ z, z = byteInts s := ⟨_, rfl⟩
 have hzl : zs.length = s.size := by rw [hzs]; exact byteInts_length s
 rw [← hzs] at HR HO HS
 obtain ⟨n, hn⟩ : ∃ n, n = s.size := ⟨_, rfl⟩
 rw [← hn] at hzl hs hcv
 have HX := Hid.mk hzl
 clear hzs hzl hr1 hn
 go_enter Tryz.func117, Tryz.ntmps117
 go_wp2_with fail
 clear hcv
 go_loopw [3, 9] (fun v i wr => ∃ k : Nat, k ≤ n ∧ i = .int .i64 k ∧ wr.ownsRow w1.heap.size 5 1 v (hexZ (zs.take k)).length ((hexZ (zs.take k)).map (Value.int .u8)) ∧ Below w1.heap.size w1 wr) (fun _ i _ => n - (intOf i).toNat)
 case atStart => exact ⟨0, Nat.zero_le _, rfl, ⟨rfl, .inl ⟨rfl, rfl⟩⟩, Below.refl _ _⟩
 case round =>
  obtain ⟨k, hk, rfl, hown, hbk⟩ := hrel
  by_cases hlt : k < n
  ·have hkl : k < zs.length := by rw [HX.out]; exact hlt
   obtain ⟨b2, o2, he2, hB2, hc2⟩ := (HR.out.below hbk) k hkl
   simp only [Option.some.injEq, Addr.mk.injEq, and_true] at he2
   obtain ⟨rfl, rfl⟩ := he2
   have hcb := HO.out zs[k] (List.getElem_mem hkl)
   have HZ := Hid.mk (hexZ_take hkl)
   rw [List.getD_eq_getElem?_getD, List.getElem?_eq_getElem hkl, Option.getD_some, Nat.zero_add] at hc2
   generalize zs[k] = c at *
   have hl2 : (hexZ (zs.take k)).length ≤ 2097152 := by rw [hexZ_len]; simp; omega
   generalize hexZ (zs.take k) = out at *
   have hB3 : w.heap.size < wr.heap.size := Nat.lt_of_lt_of_le hB2 hbk.size
   have e1 : c.tdiv 16 = c / 16 := Int.tdiv_eq_ediv_of_nonneg hcb.1
   have e2 : c.tmod 16 = c % 16 := Int.tmod_eq_emod_of_nonneg hcb.1
   have hd1 : 0 ≤ c / 16 ∧ c / 16 < 16 := by omega
   have hd2 : 0 ≤ c % 16 ∧ c % 16 < 16 := by omega
   have hw1 : IntKind.u8.wrap (c / 16) = c / 16 := by rw [IntKind.wrap_u8]; omega
   have hw2 : IntKind.u8.wrap (c % 16) = c % 16 := by rw [IntKind.wrap_u8]; omega
   have hx1 := fun (W : World) => hexAt (c / 16) W hd1.1 hd1.2
   have hx2 := fun (W : World) => hexAt (c % 16) W hd2.1 hd2.2
   generalize ((hexD (c / 16).toNat).toNat : Int) = x1 at *
   generalize ((hexD (c % 16).toNat).toNat : Int) = x2 at *
   go_wp2_with fail
   refine wp_region_held_drew (S := fun W => Below w1.heap.size w1 W) (by kernel_rfl) (Below.drew hbk) (fun hHeld => ?_)
   refine uq 0 q15c_117_5_0 13 hHeld ?_
   refine uq 1 q15c_117_5_1 14 hHeld ?_
   refine uq 2 q15c_117_5_2 15 hHeld ?_
   refine uq 3 q15c_117_5_3 16 hHeld ?_
   refine uq 4 q15c_117_5_4 17 hHeld ?_
   refine uq 5 q15c_117_5_5 18 hHeld ?_
   refine uq 6 q15c_117_5_6 19 hHeld ?_
   refine ar1 7 q15c_117_5_7 fun K hK => ?_
   go_simp
   obtain ⟨w5, hq5⟩ : ∃ x, x = (wr.alloc (.cells (List.toArray [Value.int .u8 x1, Value.int .u8 x2]) 5)).drew := ⟨_, rfl⟩
   have hx1 : Below wr.heap.size wr w5 := by rw [hq5]; exact Below.drew ((Below.refl _ _).alloc (Nat.le_refl _) _)
   have hop1 : Below w1.heap.size w1 w5 := hbk.trans (hx1.mono hbk.size)
   have HR5 : Hid (Rd .u8 (wr.heap.size + 1) w5 (some ⟨wr.heap.size, 0, none⟩) [x1, x2]) := by rw [hq5]; exact rd_two .u8 wr x1 x2 5
   have HO5 := Hid.mk (own_below hown hx1)
   rw [← hq5]
   clear hq5
   refine hK.out _ _ (hop1) (fun hHeld => ?_)
   clear hK K
   try simp only[Act.put,sa,s0,s1]
   refine ar1 8 q15c_117_5_8 fun K hK => ?_
   refine step_append_src w5 rfl _ _ 63 63 rfl w1.heap.size 5 i0 (.int .u8 0) 1 1 Tryz.underlying63 HI.out.1 HI.out.2.1 HI.out.2.2.1 HI.out.2.2.2 rfl u3 out.length (out.map (Value.int .u8)) rfl HO5.out (.slice (some ⟨wr.heap.size, 0, none⟩) 2 2) rfl 2 ([x1, x2].map (Value.int .u8)) (Src.rd Tryz.underlying63 rfl HR5.out) (by unfold maxLen; omega) (by omega) hop1.size ?_
   intro v6 w6 ho6 hgr6 hat6
   have hop2 : Below w1.heap.size w1 w6 := hop1.grown hgr6 hop1.size (fun k h => (HO5.out.lt k h).1)
   have HO6 : Hid (w6.ownsRow w1.heap.size 5 1 v6 (out ++ [x1, x2]).length ((out ++ [x1, x2]).map (Value.int .u8))) := own_congr ho6 (by simp) (by simp)
   clear ho6 hgr6 hat6
   refine hK.out _ _ (hop2) (fun hHeld => ?_)
   clear hK K
   try simp only[Act.put,sa,s0,s1]
   refine uq 9 q15c_117_5_9 3 hHeld ?_
   refine wpAnyH_done (by kernel_rfl) ?_ _
   go_wp2_with fail
   go_roundw
   case rel => exact ⟨k + 1, by omega, by go_num, by rw [HZ.out]; exact HO6.out, hop2⟩
   case measure => simp [intOf]; omega
  ·have HT1 : Hid (zs.take k = zs) := List.take_of_length_le (by rw [HX.out]; omega)
   rw [HT1.out] at hown
   have hcv := conv_hex hown
   rw [HS.out] at hcv
   go_wp2_with fail
   go_ret
   exact ⟨rfl, bthen hb1 hbk⟩
theorem and15_u8 {x : Int} (h0 : 0 ≤ x) (h1 : x ≤ 255) : bits .and .u8 x 15 = x % 16 := by
 rw [u8_and x 15 h0 (by omega) (by omega) (by omega)]
 have : x.toNat &&& (15 : Int).toNat = x.toNat % 16 := Nat.and_two_pow_sub_one_eq_mod x.toNat 4
 omega
theorem strAt (s : ByteArray) {k : Nat} (w : World) (h : k < (byteInts s).length) :
  (Instr.index 9 (.string s) (.int .i64 k)).run Tryz.prog w = .ok (.int .u8 (byteInts s)[k]) w := by
 have hs : k < s.size := by rw [← byteInts_length]; exact h
 rw [run_index_string w 9 _ .i64 _ Tryz.underlying9, dif_pos ⟨by omega, by omega⟩]
 congr 2
 simp [byteInts]
 rfl
set_option maxHeartbeats 2000000 in
theorem l6Hex_any (s : ByteArray) (w : World) (hs : s.size ≤ 1048576) :
  Calls Tryz.prog 68 #[.string s] w fun e w' => e = .returned (.string (strB (hexT s))) ∧ Below w.heap.size w w' := by
 obtain ⟨i0, hi0⟩ := info_parts Tryz.info5
 have HI := Hid.mk hi0
 clear hi0
 have HO := Hid.mk (byteInts_ok s)
 have HS := Hid.mk (hexZ_str s)
 obtain ⟨zs, hzs⟩ : ∃ z, z = byteInts s := ⟨_, rfl⟩
 have hzl : zs.length = s.size := by rw [hzs]; exact byteInts_length s
 rw [← hzs] at HO HS
 have HA : Hid (∀ (k : Nat) (W : World) (h : k < zs.length), (Instr.index 9 (.string s) (.int .i64 k)).run Tryz.prog W = .ok (.int .u8 zs[k]) W) := by subst hzs; exact fun k W h => strAt s W h
 have HX := Hid.mk hzl
 clear hzs hzl
 go_enter Tryz.func68, Tryz.ntmps68
 go_wp2_with fail
 obtain ⟨wq, hwq⟩ : ∃ x, x = w.alloc (.cells #[] 5) := ⟨_, rfl⟩
 have hbq : Below w.heap.size w wq := by rw [hwq]; exact (Below.refl _ _).alloc (Nat.le_refl _) _
 have hoo : wq.ownsRow w.heap.size 5 1 (.slice (some ⟨w.heap.size, 0, none⟩) 0 0) 0 [] := by
  rw [hwq]
  exact ⟨by simp, .inr ⟨w.heap.size, 0, #[], rfl, Nat.le_refl _, (show (w.heap.push _)[w.heap.size]? = _ from Array.getElem?_push_size), by omega, by simp [maxLen], by simp, by simp⟩⟩
 rw [← hwq]
 clear hwq
 go_loopw [4, 5] (fun v i wr => ∃ k : Nat, k ≤ s.size ∧ i = .int .i64 k ∧ wr.ownsRow w.heap.size 5 1 v (hexZ (zs.take k)).length ((hexZ (zs.take k)).map (Value.int .u8)) ∧ Below w.heap.size w wr) (fun _ i _ => s.size - (intOf i).toNat)
 case atStart => exact ⟨0, Nat.zero_le _, rfl, hoo, hbq⟩
 case round =>
  obtain ⟨k, hk, rfl, hown, hbk⟩ := hrel
  clear hoo hbq
  by_cases hlt : k < s.size
  ·have hkl : k < zs.length := by rw [HX.out]; exact hlt
   have hcb := HO.out zs[k] (List.getElem_mem hkl)
   have HZ := Hid.mk (hexZ_take hkl)
   have hsk := fun W => HA.out k W hkl
   generalize zs[k] = c at *
   have hl2 : (hexZ (zs.take k)).length ≤ 2097152 := by rw [hexZ_len]; simp; omega
   generalize hexZ (zs.take k) = out at *
   have hd1 : 0 ≤ c / 16 ∧ c / 16 < 16 := by omega
   have hd2 : 0 ≤ c % 16 ∧ c % 16 < 16 := by omega
   have hw1 : IntKind.u8.wrap (c / 16) = c / 16 := by rw [IntKind.wrap_u8]; omega
   have hw2 : IntKind.u8.wrap (c % 16) = c % 16 := by rw [IntKind.wrap_u8]; omega
   have hx1 := fun (W : World) => hexAt (c / 16) W hd1.1 hd1.2
   have hx2 := fun (W : World) => hexAt (c % 16) W hd2.1 hd2.2
   have ha2 := and15_u8 hcb.1 hcb.2
   generalize ((hexD (c / 16).toNat).toNat : Int) = x1 at *
   generalize ((hexD (c % 16).toNat).toNat : Int) = x2 at *
   go_wp2_with fail
   refine wp_region_held_drew (S := fun W => Below w.heap.size w W) (by kernel_rfl) (Below.drew hbk) (fun hHeld => ?_)
   refine uq 0 q15c_68_6_0 13 hHeld ?_
   refine uq 1 q15c_68_6_1 14 hHeld ?_
   refine uq 2 q15c_68_6_2 15 hHeld ?_
   refine uq 3 q15c_68_6_3 16 hHeld ?_
   refine uq 4 q15c_68_6_4 17 hHeld ?_
   refine uq 5 q15c_68_6_5 18 hHeld ?_
   refine uq 6 q15c_68_6_6 19 hHeld ?_
   refine uq 7 q15c_68_6_7 20 hHeld ?_
   refine uq 8 q15c_68_6_8 21 hHeld ?_
   refine uq 9 q15c_68_6_9 22 hHeld ?_
   refine uq 10 q15c_68_6_10 23 hHeld ?_
   refine uq 11 q15c_68_6_11 24 hHeld ?_
   refine uq 12 q15c_68_6_12 25 hHeld ?_
   refine ar1 13 q15c_68_6_13 fun K hK => ?_
   go_simp
   obtain ⟨w5, hq5⟩ : ∃ x, x = (wr.alloc (.cells (List.toArray [Value.int .u8 x1, Value.int .u8 x2]) 5)).drew := ⟨_, rfl⟩
   have hx1 : Below wr.heap.size wr w5 := by rw [hq5]; exact Below.drew ((Below.refl _ _).alloc (Nat.le_refl _) _)
   have hop1 : Below w.heap.size w w5 := hbk.trans (hx1.mono hbk.size)
   have HR5 : Hid (Rd .u8 (wr.heap.size + 1) w5 (some ⟨wr.heap.size, 0, none⟩) [x1, x2]) := by rw [hq5]; exact rd_two .u8 wr x1 x2 5
   have HO5 := Hid.mk (own_below hown hx1)
   rw [← hq5]
   clear hq5
   refine hK.out _ _ (hop1) (fun hHeld => ?_)
   clear hK K
   try simp only[Act.put,sa,s0,s1]
   refine ar1 14 q15c_68_6_14 fun K hK => ?_
   refine step_append_src w5 rfl _ _ 63 63 rfl w.heap.size 5 i0 (.int .u8 0) 1 1 Tryz.underlying63 HI.out.1 HI.out.2.1 HI.out.2.2.1 HI.out.2.2.2 rfl u4 out.length (out.map (Value.int .u8)) rfl HO5.out (.slice (some ⟨wr.heap.size, 0, none⟩) 2 2) rfl 2 ([x1, x2].map (Value.int .u8)) (Src.rd Tryz.underlying63 rfl HR5.out) (by unfold maxLen; omega) (by omega) hop1.size ?_
   intro v6 w6 ho6 hgr6 hat6
   have hop2 : Below w.heap.size w w6 := hop1.grown hgr6 hop1.size (fun k h => (HO5.out.lt k h).1)
   have HO6 : Hid (w6.ownsRow w.heap.size 5 1 v6 (out ++ [x1, x2]).length ((out ++ [x1, x2]).map (Value.int .u8))) := own_congr ho6 (by simp) (by simp)
   clear ho6 hgr6 hat6
   refine hK.out _ _ (hop2) (fun hHeld => ?_)
   clear hK K
   try simp only[Act.put,sa,s0,s1]
   refine uq 15 q15c_68_6_15 4 hHeld ?_
   refine wpAnyH_done (by kernel_rfl) ?_ _
   go_wp2_with fail
   go_roundw
   case rel => exact ⟨k + 1, by omega, by go_num, by rw [HZ.out]; exact HO6.out, hop2⟩
   case measure => simp [intOf]; omega
  ·have HT1 : Hid (zs.take k = zs) := List.take_of_length_le (by rw [HX.out]; omega)
   rw [HT1.out] at hown
   have hcv := conv_hex hown
   rw [HS.out] at hcv
   go_wp2_with fail
   go_ret
   exact ⟨rfl, hbk⟩
set_option maxHeartbeats 400000 in
theorem reaches_any (t : MMeta) (lo hi : ByteArray) (w : World) :
  Calls Tryz.prog 112 #[.agg #[.int .i64 t.fNo, .int .i64 t.fLevel, .string t.fLo, .string t.fHi], .string lo, .string hi] w fun e w' => e = .returned (.bool (reachP t lo hi)) ∧ Below w.heap.size w w' := by
 have HV : Hid (reachP t lo hi = kLe (maxK t.fLo lo) (minK t.fHi hi)) := rfl
 have hbx := Bx.new w [.int .i64 t.fNo, .int .i64 t.fLevel, .string t.fLo, .string t.fHi] 92
 have y2 := hbx.2 2 _ rfl
 have y3 := hbx.2 3 _ rfl
 have HB : Hid (Below w.heap.size w (w.alloc (.cells #[.int .i64 t.fNo, .int .i64 t.fLevel, .string t.fLo, .string t.fHi] 92))) := (Below.refl _ _).alloc (Nat.le_refl _) _
 have hmx := fun (W : World) => run_max_k (P := Tryz.prog) (w := W) #[9, 9] 9 t.fLo lo
 have hmn := fun (W : World) => run_min_k (P := Tryz.prog) (w := W) #[9, 9] 9 t.fHi hi
 generalize maxK t.fLo lo = a at *
 generalize minK t.fHi hi = b at *
 go_enter Tryz.func112, Tryz.ntmps112
 by_cases hk : kLe a b = true
 ·have HV2 : Hid (reachP t lo hi = true) := by show _ = _; rw [HV.out, hk]
  have hq := kLe_yes hk
  rcases hq with hq | hq
  ·go_wp2_with fail
   go_ret
   exact ⟨by rw [HV2.out]; rfl, HB.out⟩
  ·go_wp2_with fail
   go_ret
   exact ⟨by rw [HV2.out]; rfl, HB.out⟩
 ·have hk2 := Bool.eq_false_iff.2 hk
  have HV2 : Hid (reachP t lo hi = false) := by show _ = _; rw [HV.out, hk2]
  obtain ⟨hq1, hq2⟩ := kLe_no hk2
  go_wp2_with fail
  go_ret
  exact ⟨by rw [HV2.out]; rfl, HB.out⟩
set_option maxHeartbeats 400000 in
theorem mkey_any (s : ByteArray) (w : World) (hs : s.size ≤ 9223372036854775807) :
  Calls Tryz.prog 111 #[.string s] w fun e w' => e = .returned (.bool (mKeyP s)) ∧ w' = w := by
 by_cases h0 : s.size = 0
 ·have HV : Hid (mKeyP s = false) := decide_eq_false (fun h => by omega)
  have he := k_emp h0
  go_enter Tryz.func111, Tryz.ntmps111
  go_wp2
  go_ret
  exact ⟨by rw [HV.out]; rfl, rfl⟩
 ·have he := k_nemp h0
  by_cases h1 : s.size ≤ 20
  ·have HV : Hid (mKeyP s = true) := decide_eq_true ⟨by omega, h1⟩
   have h2 : (s.size : Int) ≤ 20 := by omega
   go_enter Tryz.func111, Tryz.ntmps111
   go_wp2
   go_ret
   exact ⟨by rw [HV.out]; rfl, rfl⟩
  ·have HV : Hid (mKeyP s = false) := decide_eq_false (fun h => by omega)
   have h2 : ¬ (s.size : Int) ≤ 20 := by omega
   go_enter Tryz.func111, Tryz.ntmps111
   go_wp2
   go_ret
   exact ⟨by rw [HV.out]; rfl, rfl⟩
set_option maxHeartbeats 1000000 in
theorem metaOk_any (t : MMeta) (w : World) (h2 : t.fLo.size ≤ 9223372036854775807) (h3 : t.fHi.size ≤ 9223372036854775807) :
  Calls Tryz.prog 77 #[.agg #[.int .i64 t.fNo, .int .i64 t.fLevel, .string t.fLo, .string t.fHi]] w fun e w' => e = .returned (.bool (spanP t)) ∧ Below w.heap.size w w' := by
 have HV : Hid (spanP t = (decide (0 ≤ t.fLevel ∧ t.fLevel ≤ 3) && mKeyP t.fLo && mKeyP t.fHi && kLe t.fLo t.fHi)) := rfl
 have hbx := Bx.new w [.int .i64 t.fNo, .int .i64 t.fLevel, .string t.fLo, .string t.fHi] 92
 have y1 := hbx.2 1 _ rfl
 have y2 := hbx.2 2 _ rfl
 have y3 := hbx.2 3 _ rfl
 have HB : Hid (Below w.heap.size w (w.alloc (.cells #[.int .i64 t.fNo, .int .i64 t.fLevel, .string t.fLo, .string t.fHi] 92))) := (Below.refl _ _).alloc (Nat.le_refl _) _
 have hk1 := fun W => mkey_any t.fLo W h2
 have hk2 := fun W => mkey_any t.fHi W h3
 generalize mKeyP t.fLo = a at *
 generalize mKeyP t.fHi = b at *
 go_enter Tryz.func77, Tryz.ntmps77
 by_cases hl : 0 ≤ t.fLevel ∧ t.fLevel ≤ 3
 rotate_left
 ·have HV2 : Hid (spanP t = false) := by show _ = _; rw [HV.out, decide_eq_false hl]; simp
  by_cases hl0 : 0 ≤ t.fLevel
  ·have hl1 : ¬ t.fLevel ≤ 3 := fun h => hl ⟨hl0, h⟩
   go_wp2_with fail
   go_ret
   exact ⟨by rw [HV2.out]; rfl, HB.out⟩
  ·go_wp2_with fail
   go_ret
   exact ⟨by rw [HV2.out]; rfl, HB.out⟩
 obtain ⟨hl0, hl1⟩ := hl
 have HV3 : Hid (spanP t = (a && b && kLe t.fLo t.fHi)) := by show _ = _; rw [HV.out, decide_eq_true (show 0 ≤ t.fLevel ∧ t.fLevel ≤ 3 from ⟨hl0, hl1⟩)]; simp
 cases a with
 | false =>
  have HV2 : Hid (spanP t = false) := by show _ = _; rw [HV3.out]; simp
  go_wp2_with fail
  refine (hk1 _).mono ?_
  rintro e w1 ⟨rfl, hw1⟩
  subst hw1
  go_wp2_with fail
  go_ret
  exact ⟨by rw [HV2.out]; rfl, HB.out⟩
 | true =>
  cases b with
  | false =>
   have HV2 : Hid (spanP t = false) := by show _ = _; rw [HV3.out]; simp
   go_wp2_with fail
   refine (hk1 _).mono ?_
   rintro e w1 ⟨rfl, hw1⟩
   subst hw1
   go_wp2_with fail
   refine (hk2 _).mono ?_
   rintro e w1 ⟨rfl, hw1⟩
   subst hw1
   go_wp2_with fail
   go_ret
   exact ⟨by rw [HV2.out]; rfl, HB.out⟩
  | true =>
   by_cases hk : kLe t.fLo t.fHi = true
   ·have HV2 : Hid (spanP t = true) := by show _ = _; rw [HV3.out, hk]; rfl
    rcases kLe_yes hk with hq | hq
    ·go_wp2_with fail
     refine (hk1 _).mono ?_
     rintro e w1 ⟨rfl, hw1⟩
     subst hw1
     go_wp2_with fail
     refine (hk2 _).mono ?_
     rintro e w1 ⟨rfl, hw1⟩
     subst hw1
     go_wp2_with fail
     go_ret
     exact ⟨by rw [HV2.out]; rfl, HB.out⟩
    ·go_wp2_with fail
     refine (hk1 _).mono ?_
     rintro e w1 ⟨rfl, hw1⟩
     subst hw1
     go_wp2_with fail
     refine (hk2 _).mono ?_
     rintro e w1 ⟨rfl, hw1⟩
     subst hw1
     go_wp2_with fail
     go_ret
     exact ⟨by rw [HV2.out]; rfl, HB.out⟩
   ·have hkf := Bool.eq_false_iff.2 hk
    have HV2 : Hid (spanP t = false) := by show _ = _; rw [HV3.out, hkf]; rfl
    obtain ⟨hq1, hq2⟩ := kLe_no hkf
    go_wp2_with fail
    refine (hk1 _).mono ?_
    rintro e w1 ⟨rfl, hw1⟩
    subst hw1
    go_wp2_with fail
    refine (hk2 _).mono ?_
    rintro e w1 ⟨rfl, hw1⟩
    subst hw1
    go_wp2_with fail
    go_ret
    exact ⟨by rw [HV2.out]; rfl, HB.out⟩
theorem all_take {α : Type} {f : α → Bool} {l : List α} {k : Nat} (h : k < l.length) : (l.take (k + 1)).all f = ((l.take k).all f && f l[k]) := by
 rw [List.take_succ_eq_append_getElem h, List.all_append]; simp
theorem all_bad {α : Type} {f : α → Bool} {l : List α} {k : Nat} (h : k < l.length) (hb : f l[k] = false) : l.all f = false := by
 rw [List.all_eq_false]; exact ⟨l[k], List.getElem_mem h, by rw [hb]; simp⟩
set_option maxHeartbeats 4000000 in
theorem liesApart_any (t : MMeta) (a : Option Addr) (n c : Nat) (l : List MMeta) (w : World) (hx : l.length = n) (hn : n ≤ 1048576) (hL : LeafL 4 rMeta w.heap.size w a c l) :
  Calls Tryz.prog 78 #[.agg #[.int .i64 t.fNo, .int .i64 t.fLevel, .string t.fLo, .string t.fHi], .slice a n c] w fun e w' => e = .returned (.bool (apartI t l)) ∧ Below w.heap.size w w' := by
 have HX := Hid.mk hx
 have HL := Hid.mk hL
 have HV : Hid (apartI t l = (decide (t.fLevel = 0) || l.all (fun o => !(decide (o.fLevel = t.fLevel) && reachP o t.fLo t.fHi)))) := rfl
 obtain ⟨f, hf⟩ : ∃ f : MMeta → Bool, f = (fun o => !(decide (o.fLevel = t.fLevel) && reachP o t.fLo t.fHi)) := ⟨_, rfl⟩
 rw [← hf] at HV
 have HF := Hid.mk hf
 clear hx hL hf
 go_enter Tryz.func78, Tryz.ntmps78
 obtain ⟨wq, hwq⟩ : ∃ wq, wq = w.alloc (.cells #[.int .i64 t.fNo, .int .i64 t.fLevel, .string t.fLo, .string t.fHi] 92) := ⟨_, rfl⟩
 have hbq : Below w.heap.size w wq := by rw [hwq]; exact (Below.refl _ _).alloc (Nat.le_refl _) _
 have hbx : Bx wq w.heap.size [.int .i64 t.fNo, .int .i64 t.fLevel, .string t.fLo, .string t.fHi] := by rw [hwq]; exact Bx.new _ _ _
 by_cases h0 : t.fLevel = 0
 ·have HV2 : Hid (apartI t l = true) := by show _ = _; rw [HV.out, decide_eq_true h0]; rfl
  have y1 := hbx.2 1 _ rfl
  rw [h0] at y1
  go_wp2_with fail
  go_ret
  exact ⟨by rw [HV2.out]; rfl, (Below.refl _ _).alloc (Nat.le_refl _) _⟩
 have HV2 : Hid (apartI t l = l.all f) := by show _ = _; rw [HV.out, decide_eq_false h0]; rfl
 clear HV
 have y1 := hbx.2 1 _ rfl
 rw [hwq] at y1
 go_wp2_with fail
 rw [← hwq]
 simp only [show (t.fLevel == 0) = false from by simpa using h0]
 clear y1 hwq h0
 go_loopw [12] (fun i wr => ∃ k : Nat, k ≤ n ∧ i = .int .i64 k ∧ Hid ((l.take k).all f = true) ∧ Below wq.heap.size wq wr) (fun i _ => n - (intOf i).toNat)
 case atStart => exact ⟨0, Nat.zero_le _, rfl, rfl, Below.refl _ _⟩
 case round =>
  obtain ⟨k, hk, rfl, HI, hbk⟩ := hrel
  have hbw := bthen hbq hbk
  have hbz := hbw.size
  by_cases hlt : k < n
  ·have hkl : k < l.length := by rw [HX.out]; exact hlt
   obtain ⟨b1, o1, rfl, hB, cs, hcl, hcell, rfl, g0, g1, g2, g3, _⟩ := (HL.out.2.2.below rMeta_good hbw) k hkl
   have hB' : b1 < wr.heap.size := by omega
   have k0 := hcell 0 _ rfl
   have k1 := hcell 1 _ rfl
   have k2 := hcell 2 _ rfl
   have k3 := hcell 3 _ rfl
   rw [Nat.add_zero] at k0
   have HT : Hid (f l[k] = true → (l.take (k + 1)).all f = true) := fun h => by rw [all_take hkl, HI.out, h]; rfl
   have HBad : Hid (f l[k] = false → apartI t l = false) := fun h => by rw [HV2.out]; exact all_bad hkl h
   have HFk : Hid (f l[k] = !(decide (l[k].fLevel = t.fLevel) && reachP l[k] t.fLo t.fHi)) := by show _ = _; rw [HF.out]
   clear hcell hcl
   generalize f l[k] = fk at *
   generalize l[k] = x at *
   have hbxr := hbx.under hbk
   have t1 := hbxr.2 1 _ rfl
   have t2 := hbxr.2 2 _ rfl
   have t3 := hbxr.2 3 _ rfl
   have hlr := hbxr.1
   by_cases hv : x.fLevel = t.fLevel
   ·have HF2 : Hid (fk = !reachP x t.fLo t.fHi) := by show _ = _; rw [HFk.out, decide_eq_true hv]; rfl
    have hC := fun W => reaches_any x t.fLo t.fHi W
    rw [hv] at k1
    simp only [hv] at hC
    clear hv HFk
    generalize reachP x t.fLo t.fHi = rc at *
    go_wp2_with fail
    refine (hC _).mono ?_
    rintro e w2 ⟨rfl, hx2⟩
    have hb2 := bthen hbk (bthen ((Below.refl _ _).alloc (Nat.le_refl _) _) hx2)
    clear hC t1 t2 t3 hx2
    cases rc with
    | false =>
     have HD := HT.out HF2.out
     go_wp2_with fail
     go_roundw
     case rel => exact ⟨k + 1, by omega, by go_num, HD, hb2⟩
     case measure => simp [intOf]; omega
    | true =>
     have HD := Hid.mk (HBad.out HF2.out)
     go_wp2_with fail
     go_ret
     exact ⟨by rw [HD.out]; rfl, bthen hbq hb2⟩
   ·have HF2 : Hid (fk = true) := by show _ = _; rw [HFk.out, decide_eq_false hv]; rfl
    have HD := Hid.mk (HT.out HF2.out)
    go_wp2_with fail
    go_roundw
    case rel => exact ⟨k + 1, by omega, by go_num, HD, bthen hbk ((Below.refl _ _).alloc (Nat.le_refl _) _)⟩
    case measure => simp [intOf]; omega
  ·have HD : Hid (apartI t l = true) := by show _ = _; rw [HV2.out]; have h := HI.out; rw [show k = l.length by rw [HX.out]; omega, List.take_length] at h; exact h
   go_wp2_with fail
   go_ret
   exact ⟨by rw [HD.out]; rfl, hbw⟩
end Go.Proofs.YtddejboifpepcaaGreatDoor
