/-
  The text of a manifest, as a plain function; no program is named here.
-/
import Derived.Test.YtnohnkcijomdjaaGreatDoorManM
import Derived.Lib.ItoaNum
import Derived.Lib.Join
import Derived.Laws.BytesArg
namespace Go.Proofs.YtnohnkcijomdjaaGreatDoor
open Go.RowKit
set_option linter.unusedVariables false
set_option linter.unusedSimpArgs false

/-- A text of these bytes. -/
def strB (l : List UInt8) : ByteArray := ⟨l.toArray⟩
theorem strB_data (l : List UInt8) : (strB l).data.toList = l := by simp [strB]
theorem strB_of (s : ByteArray) : strB s.data.toList = s := by cases s; simp [strB]
theorem strB_size (l : List UInt8) : (strB l).size = l.length := by simp [strB, ByteArray.size]
theorem strB_app (a b : List UInt8) : strB a ++ strB b = strB (a ++ b) := by
  apply ByteArray.ext
  rw [ByteArray.data_append]
  simp [strB]
theorem strB_nums (l : List Int) : strOfNums l = strB (l.map fun n => UInt8.ofNat n.toNat) := rfl
theorem strB_inj {a b : List UInt8} (h : a = b) : strB a = strB b := by rw [h]

def decD (n : Int) : List UInt8 := Lib.decDigits n.toNat
theorem decD_itoa {n : Int} (h : 0 ≤ n) : Lib.itoa n = decD n := by unfold Lib.itoa decD; rw [if_neg (by omega)]
theorem dec_len (n : Nat) : (Lib.decDigits n).length ≤ n + 1 := by
  induction n using Nat.strongRecOn with
  | _ n ih =>
    rw [Lib.decDigits]
    split
    · simp
    · rw [List.length_append]
      have := ih (n / 10) (by omega)
      simp
      omega
theorem decD_len {n : Int} (h : n ≤ 100000) : (decD n).length ≤ 100001 := by
  have := dec_len n.toNat
  unfold decD
  omega
theorem decD_small {n : Int} (h0 : 0 ≤ n) (h : n < 10) : decD n = [UInt8.ofNat (48 + n.toNat)] := by
  unfold decD
  rw [Lib.decDigits, dif_pos (by omega)]
theorem decD_big {n : Int} (h : 10 ≤ n) : decD n = decD (n / 10) ++ [UInt8.ofNat (48 + (n % 10).toNat)] := by
  unfold decD
  rw [Lib.decDigits, dif_neg (by omega), show (n / 10).toNat = n.toNat / 10 by omega, show (n % 10).toNat = n.toNat % 10 by omega]

def hexL : List UInt8 := [48, 49, 50, 51, 52, 53, 54, 55, 56, 57, 97, 98, 99, 100, 101, 102]
def hexD (x : Nat) : UInt8 := hexL.getD x 0
def hexB (b : UInt8) : List UInt8 := [hexD (b.toNat / 16), hexD (b.toNat % 16)]
def hexT (s : ByteArray) : List UInt8 := s.data.toList.flatMap hexB
theorem hexT_len (s : ByteArray) : (hexT s).length = 2 * s.size := by
  unfold hexT
  have h : ∀ l : List UInt8, (l.flatMap hexB).length = 2 * l.length := by
    intro l
    induction l with
    | nil => rfl
    | cons x r ih => rw [List.flatMap_cons, List.length_append, ih]; simp [hexB]; omega
  rw [h, Array.length_toList]
  rfl

def tabW : List UInt8 := [116, 97, 98]
def endW : List UInt8 := [101, 110, 100]
def nextW : List UInt8 := [110, 101, 120, 116, 32]
def logW : List UInt8 := [32, 108, 111, 103, 32]
def lineT (t : MMeta) : List UInt8 := tabW ++ [32] ++ decD t.fNo ++ [32] ++ decD t.fLevel ++ [32] ++ hexT t.fLo ++ [32] ++ hexT t.fHi
def headT (m : MManifest) : List UInt8 := nextW ++ decD m.fNext ++ logW ++ decD m.fLog
def linesT (l : List MMeta) : List UInt8 := l.flatMap fun t => lineT t ++ [10]
def manTextL (m : MManifest) : List UInt8 := headT m ++ [10] ++ linesT m.fTables ++ endW ++ [10]
def manTextP (m : MManifest) : ByteArray := if manOkP m = true then strB (manTextL m) else ⟨#[]⟩
theorem manTextP_yes {m : MManifest} (h : manOkP m = true) : manTextP m = strB (manTextL m) := if_pos h
theorem manTextP_no {m : MManifest} (h : manOkP m = false) : manTextP m = ⟨#[]⟩ := if_neg (by rw [h]; simp)
theorem linesT_take {l : List MMeta} {k : Nat} (h : k < l.length) : linesT (l.take (k + 1)) = linesT (l.take k) ++ lineT l[k] ++ [10] := by
  unfold linesT
  rw [List.take_succ_eq_append_getElem h, List.flatMap_append]
  simp
/-- What a right table's numbers and keys may be. -/
theorem tabs_all {next : Int} : ∀ {seen l : List MMeta}, tabsFrom next seen l = true → ∀ t, t ∈ l → metaP next t = true
  | _, [], _, t, ht => by cases ht
  | seen, x :: r, h, t, ht => by
    simp only [tabsFrom, Bool.and_eq_true] at h
    rcases List.mem_cons.1 ht with rfl | ht
    · exact h.1.1.1
    · exact tabs_all h.2 t ht
structure MetaOk (next : Int) (t : MMeta) : Prop where
  no0 : 1 ≤ t.fNo
  no1 : t.fNo ≤ next - 1
  lv0 : 0 ≤ t.fLevel
  lv1 : t.fLevel ≤ 3
  lo : t.fLo.size ≤ 20
  hi : t.fHi.size ≤ 20
  le : kLe t.fLo t.fHi = true
theorem metaP_facts {next : Int} {t : MMeta} (h : metaP next t = true) : MetaOk next t := by
  simp only [metaP, mKeyP, Bool.and_eq_true, decide_eq_true_eq] at h
  exact ⟨h.1.1.1.1.1, h.1.1.1.1.2, h.1.1.1.2.1, h.1.1.1.2.2, h.1.1.2.2, h.1.2.2, h.2⟩
structure ManFacts (m : MManifest) : Prop where
  nx0 : 1 ≤ m.fNext
  nx1 : m.fNext ≤ 100000
  lg0 : 0 ≤ m.fLog
  lg1 : m.fLog ≤ m.fNext - 1
  len : m.fTables.length ≤ 20
  each : ∀ t, t ∈ m.fTables → MetaOk m.fNext t
theorem manOkP_facts {m : MManifest} (h : manOkP m = true) : ManFacts m := by
  simp only [manOkP, Bool.and_eq_true, decide_eq_true_eq] at h
  exact ⟨h.1.1.1.1, h.1.1.1.2, h.1.1.2.1, h.1.1.2.2, h.1.2, fun t ht => metaP_facts (tabs_all h.2 t ht)⟩
theorem lineT_len {next : Int} {t : MMeta} (h : MetaOk next t) (hn : next ≤ 100000) : (lineT t).length ≤ 300000 := by
  have h1 := decD_len (n := t.fNo) (by have := h.no1; omega)
  have h2 := decD_len (n := t.fLevel) (by have := h.lv1; omega)
  have h3 := hexT_len t.fLo
  have h4 := hexT_len t.fHi
  have h5 := h.lo
  have h6 := h.hi
  simp only [lineT, tabW, List.length_append, List.length_cons, List.length_nil]
  omega
theorem linesT_len {next : Int} {l : List MMeta} (h : ∀ t, t ∈ l → MetaOk next t) (hn : next ≤ 100000) : (linesT l).length ≤ l.length * 300001 := by
  induction l with
  | nil => simp [linesT]
  | cons x r ih =>
    have h1 := lineT_len (h x (List.mem_cons_self ..)) hn
    have h2 := ih (fun t ht => h t (List.mem_cons_of_mem _ ht))
    unfold linesT at h2 ⊢
    rw [List.flatMap_cons]
    simp only [List.length_append, List.length_cons, List.length_nil]
    omega
theorem headT_len {m : MManifest} (h : ManFacts m) : (headT m).length ≤ 300000 := by
  have h1 := decD_len h.nx1
  have h2 := decD_len (n := m.fLog) (by have := h.lg1; have := h.nx1; omega)
  simp only [headT, nextW, logW, List.length_append, List.length_cons, List.length_nil]
  omega

/-- The same text out of lines, joined by the byte 10: 'end' and an empty line behind them. -/
def lineS (m : MManifest) (l : List MMeta) : List (List UInt8) := headT m :: l.map lineT
theorem joinTail_lines (l : List MMeta) : Lib.joinTail [10] (l.map lineT ++ [endW, []]) = (l.flatMap fun t => [10] ++ lineT t) ++ [10] ++ endW ++ [10] := by
  unfold Lib.joinTail
  induction l with
  | nil => rfl
  | cons x r ih => rw [List.map_cons, List.cons_append, List.map_cons, List.flatten_cons, ih, List.flatMap_cons]; simp only [List.append_assoc]
theorem lines_shift (l : List MMeta) : (l.flatMap fun t => [10] ++ lineT t) ++ [(10 : UInt8)] = [10] ++ linesT l := by
  unfold linesT
  induction l with
  | nil => rfl
  | cons x r ih => simp only [List.flatMap_cons, List.append_assoc, ih]
theorem join_lines (m : MManifest) (l : List MMeta) : Lib.join (lineS m l ++ [endW, []]) [10] = headT m ++ [10] ++ linesT l ++ endW ++ [10] := by
  unfold lineS
  rw [List.cons_append, Lib.join_cons, joinTail_lines, lines_shift]
  simp only [List.append_assoc]
theorem join_line (t : MMeta) : Lib.join [tabW, decD t.fNo, decD t.fLevel, hexT t.fLo, hexT t.fHi] [32] = lineT t := by
  rw [Lib.join_cons]
  simp [Lib.joinTail, lineT]
theorem lineS_take {m : MManifest} {l : List MMeta} {k : Nat} (h : k < l.length) : lineS m (l.take (k + 1)) = lineS m (l.take k) ++ [lineT l[k]] := by
  unfold lineS
  rw [List.take_succ_eq_append_getElem h, List.map_append]
  rfl

end Go.Proofs.YtnohnkcijomdjaaGreatDoor
