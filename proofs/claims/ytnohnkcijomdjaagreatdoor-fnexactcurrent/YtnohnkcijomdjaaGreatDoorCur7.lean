/-
  Part 8 of the texts that the proof leans on.
-/
import Derived.Test.YtnohnkcijomdjaaGreatDoorCur6
import Derived.Test.YtnohnkcijomdjaaGreatDoorRows
import Derived.Test.YtnohnkcijomdjaaGreatDoorCur0
import Derived.Test.YtnohnkcijomdjaaGreatDoorChecked
import Derived.Test.YtnohnkcijomdjaaGreatDoorCur2
import Derived.Test.YtnohnkcijomdjaaGreatDoorCur3
import Derived.Test.YtnohnkcijomdjaaGreatDoorCur1
import Derived.Test.YtnohnkcijomdjaaGreatDoorCur4
set_option linter.unusedVariables false
set_option linter.unusedSimpArgs false
set_option maxRecDepth 10000

namespace Go.Proofs.YtnohnkcijomdjaaGreatDoor
open Go.RowKit

/-- A text is split as far as i: the pieces D are done, the next begins at fr. -/
structure SpI (b : UInt8) (l : List UInt8) (D : List (List UInt8)) (fr i : Nat) : Prop where
  le : fr ≤ i
  il : i ≤ l.length
  eq : splitP b l = D ++ splitP b (l.drop fr)
  no : b ∉ (l.drop fr).take (i - fr)
section
variable {b : UInt8} {l : List UInt8} {D : List (List UInt8)} {fr i : Nat}
theorem SpI.start (b : UInt8) (l : List UInt8) : SpI b l [] 0 0 := ⟨Nat.le_refl _, Nat.zero_le _, rfl, by simp⟩
theorem drop_at (h : fr ≤ i) (hi : i < l.length) : l.drop fr = (l.drop fr).take (i - fr) ++ l[i] :: l.drop (i + 1) := by
  have h1 : i - fr < (l.drop fr).length := by rw [List.length_drop]; omega
  have h2 := List.take_append_drop (i - fr) (l.drop fr)
  rw [List.drop_drop, show fr + (i - fr) = i by omega] at h2
  rw [List.drop_eq_getElem_cons hi] at h2
  exact h2.symm
theorem SpI.skip (h : SpI b l D fr i) (hi : i < l.length) (hne : l[i] ≠ b) : SpI b l D fr (i + 1) := by
  refine ⟨by have := h.le; omega, hi, h.eq, ?_⟩
  have h1 : i - fr < (l.drop fr).length := by rw [List.length_drop]; have := h.le; omega
  rw [show i + 1 - fr = (i - fr) + 1 by have := h.le; omega, List.take_succ_eq_append_getElem h1]
  intro hm
  rcases List.mem_append.1 hm with hm | hm
  · exact h.no hm
  · rw [List.mem_singleton, List.getElem_drop] at hm
    have e : fr + (i - fr) = i := by have := h.le; omega
    simp only [e] at hm
    exact hne hm.symm
theorem SpI.cut (h : SpI b l D fr i) (hi : i < l.length) (he : l[i] = b) : SpI b l (D ++ [(l.drop fr).take (i - fr)]) (i + 1) (i + 1) := by
  refine ⟨Nat.le_refl _, hi, ?_, by simp⟩
  have h2 := h.eq
  rw [drop_at h.le hi, he, splitP_cut h.no] at h2
  rw [h2, List.append_assoc]
  rfl
theorem SpI.fin (h : SpI b l D fr l.length) : splitP b l = D ++ [(l.drop fr).take (l.length - fr)] := by
  have h1 : (l.drop fr).take (l.length - fr) = l.drop fr := List.take_of_length_le (by rw [List.length_drop]; omega)
  have h2 := h.no
  rw [h1] at h2 ⊢
  rw [h.eq, splitP_one h2]
end
theorem str_part (s : ByteArray) (fr i : Nat) (h : i ≤ s.size) : s.extract fr i = strB ((s.data.toList.drop fr).take (i - fr)) := by
  have h1 : (s.extract fr i).data.toList = (s.data.toList.drop fr).take (i - fr) := by
    rw [ByteArray.data_extract]
    simp [Array.toList_extract, List.extract]
  rw [← strB_of (s.extract fr i), h1]
theorem unhex_take : ∀ (k : Nat) (l : List UInt8), (h : 2 * k + 1 < l.length) → unhexP (l.take (2 * k + 2)) = unhexP (l.take (2 * k)) ++ [UInt8.ofNat ((digP l[2 * k] * 16 + digP l[2 * k + 1]) % 256).toNat]
  | 0, a :: b :: r, h => by simp [unhexP]
  | k + 1, a :: b :: r, h => by
    have h1 : 2 * k + 1 < r.length := by simp at h; omega
    have h2 := unhex_take k r h1
    have e1 : (a :: b :: r).take (2 * (k + 1) + 2) = a :: b :: r.take (2 * k + 2) := by
      rw [show 2 * (k + 1) + 2 = (2 * k + 2) + 1 + 1 by omega, List.take_succ_cons, List.take_succ_cons]
    have e2 : (a :: b :: r).take (2 * (k + 1)) = a :: b :: r.take (2 * k) := by
      rw [show 2 * (k + 1) = (2 * k) + 1 + 1 by omega, List.take_succ_cons, List.take_succ_cons]
    rw [e1, e2]
    simp only [unhexP, h2, List.cons_append]
    congr 2
  | 0, [], h => by simp at h
  | 0, [a], h => by simp at h
  | k + 1, [], h => by simp at h
  | k + 1, [a], h => by simp at h
theorem unhex_all (k : Nat) (l : List UInt8) (h : ¬ 2 * k + 1 < l.length) (h2 : 2 * k ≤ l.length) : unhexP (l.take (2 * k)) = unhexP l := by
  have key : ∀ (k : Nat) (l : List UInt8), 2 * k ≤ l.length → l.length ≤ 2 * k + 1 → unhexP (l.take (2 * k)) = unhexP l := by
    intro k
    induction k with
    | zero =>
      intro l h1 h2
      match l, h2 with
      | [], _ => rfl
      | [a], _ => rfl
    | succ k ih =>
      intro l h1 h2
      match l, h1 with
      | a :: b :: r, h1 =>
        rw [show 2 * (k + 1) = (2 * k) + 1 + 1 by omega, List.take_succ_cons, List.take_succ_cons]
        simp only [unhexP]
        rw [ih r (by simp at h1; omega) (by simp at h2; omega)]
  exact key k l h2 (by omega)
theorem val_take {l : List UInt8} {k : Nat} (h : k < l.length) : valD (l.take (k + 1)) 0 = valD (l.take k) 0 * 10 + ((l[k].toNat : Int) - 48) := by
  rw [List.take_succ_eq_append_getElem h]
  unfold valD
  rw [List.foldl_append]
  rfl
theorem val_bound (l : List UInt8) (h : l.all isDig = true) : 0 ≤ valD l 0 ∧ valD l 0 < 10 ^ l.length := by
  have key : ∀ (l : List UInt8) (n : Int) (k : Nat), l.all isDig = true → 0 ≤ n → n < 10 ^ k → 0 ≤ valD l n ∧ valD l n < 10 ^ (k + l.length) := by
    intro l
    induction l with
    | nil => intro n k _ h0 h1; exact ⟨h0, by simpa [valD] using h1⟩
    | cons x r ih =>
      intro n k ha h0 h1
      simp only [List.all_cons, Bool.and_eq_true] at ha
      have hx := of_decide_eq_true ha.1
      have := ih (n * 10 + ((x.toNat : Int) - 48)) (k + 1) ha.2 (by omega) (by rw [Int.pow_succ]; omega)
      refine ⟨this.1, ?_⟩
      have e : k + (x :: r).length = k + 1 + r.length := by simp; omega
      rw [e]
      exact this.2
  have := key l 0 0 h (by omega) (by decide)
  rw [Nat.zero_add] at this
  exact this

end Go.Proofs.YtnohnkcijomdjaaGreatDoor

namespace Go.Proofs.YtnohnkcijomdjaaGreatDoor
open Go.RowKit

def inRange (x a b : Int) : Bool := decide (a ≤ x ∧ x ≤ b)
theorem inRange_yes {x a b : Int} (h1 : a ≤ x) (h2 : x ≤ b) : inRange x a b = true := decide_eq_true ⟨h1, h2⟩
theorem inRange_no {x a b : Int} (h : ¬ (a ≤ x ∧ x ≤ b)) : inRange x a b = false := decide_eq_false h

set_option maxHeartbeats 400000 in
theorem l1In_any (x a b : Int) (w : World) :
    Calls Tryz.prog 37 #[.int .i64 x, .int .i64 a, .int .i64 b] w fun e w' => e = .returned (.bool (inRange x a b)) ∧ w' = w := by
  by_cases h1 : a ≤ x
  · by_cases h2 : x ≤ b
    · have HV := Hid.mk (inRange_yes h1 h2)
      go_enter Tryz.func37, Tryz.ntmps37
      go_wp2
      go_ret
      exact ⟨by rw [HV.out]; rfl, rfl⟩
    · have HV := Hid.mk (inRange_no (x := x) (a := a) (b := b) (by omega))
      go_enter Tryz.func37, Tryz.ntmps37
      go_wp2
      go_ret
      exact ⟨by rw [HV.out]; rfl, rfl⟩
  · have HV := Hid.mk (inRange_no (x := x) (a := a) (b := b) (by omega))
    go_enter Tryz.func37, Tryz.ntmps37
    go_wp2
    go_ret
    exact ⟨by rw [HV.out]; rfl, rfl⟩

end Go.Proofs.YtnohnkcijomdjaaGreatDoor

namespace Go.Proofs.YtnohnkcijomdjaaGreatDoor
open Go.RowKit Go.Maps
abbrev qd9b_19_7_0 : Oper := ⟨some 38, .load 24 (.tmp 1), 24, "l06_manifest.go:17", #[], none⟩
abbrev qd9b_19_7_1 : Oper := ⟨some 39, .load 49 (.tmp 4), 49, "l06_manifest.go:17", #[], none⟩
abbrev qd9b_19_7_2 : Oper := ⟨some 40, .call { callee := .value (.func 39), args := #[.tmp 38, .tmp 39], argTypes := #[24, 49] }, 4, "l06_manifest.go:17", #[⟨0, .data⟩, ⟨1, .data⟩], none⟩
abbrev qd9b_19_7_3 : Oper := ⟨some 41, .unOp .not 4 (.tmp 40), 4, "l06_manifest.go:17", #[⟨2, .data⟩], none⟩
abbrev qd9b_19_7_4 : Oper := ⟨some 42, .move (.tmp 41), 4, "l06_manifest.go:17", #[⟨3, .data⟩, ⟨2, .chain⟩], none⟩
abbrev qd9b_19_7_5 : Oper := ⟨some 43, .move (.tmp 3), 3, "l06_manifest.go:17", #[⟨4, .guard⟩], some (4, false)⟩
abbrev qd9b_19_7_6 : Oper := ⟨some 44, .binOp .gtr 3 (.tmp 43) (.const (.int .i64 0)) 3, 4, "l06_manifest.go:17", #[⟨5, .data⟩, ⟨4, .guard⟩], some (4, false)⟩
abbrev qd9b_19_7_7 : Oper := ⟨some 45, .move (.tmp 44), 4, "l06_manifest.go:17", #[⟨6, .data⟩, ⟨4, .chain⟩, ⟨4, .guard⟩], some (4, false)⟩
abbrev qd9b_19_7_8 : Oper := ⟨some 46, .fieldAddr 24 (.tmp 1) 2, 0, "l06_manifest.go:17", #[⟨7, .guard⟩], some (7, true)⟩
abbrev qd9b_19_7_9 : Oper := ⟨some 47, .load 22 (.tmp 46), 22, "l06_manifest.go:17", #[⟨8, .data⟩, ⟨7, .guard⟩], some (7, true)⟩
abbrev qd9b_19_7_10 : Oper := ⟨some 48, .move (.tmp 3), 3, "l06_manifest.go:17", #[⟨7, .guard⟩], some (7, true)⟩
abbrev qd9b_19_7_11 : Oper := ⟨some 49, .binOp .sub 3 (.tmp 48) (.const (.int .i64 1)) 3, 3, "l06_manifest.go:17", #[⟨10, .data⟩, ⟨7, .guard⟩], some (7, true)⟩
abbrev qd9b_19_7_12 : Oper := ⟨some 50, .indexAddr 22 (.tmp 47) (.tmp 49), 0, "l06_manifest.go:17", #[⟨9, .data⟩, ⟨11, .data⟩, ⟨7, .guard⟩], some (7, true)⟩
abbrev qd9b_19_7_13 : Oper := ⟨some 51, .fieldAddr 49 (.tmp 50) 0, 0, "l06_manifest.go:17", #[⟨12, .data⟩, ⟨7, .guard⟩], some (7, true)⟩
abbrev qd9b_19_7_14 : Oper := ⟨some 52, .load 3 (.tmp 51), 3, "l06_manifest.go:17", #[⟨13, .data⟩, ⟨7, .guard⟩], some (7, true)⟩
abbrev qd9b_19_7_15 : Oper := ⟨some 53, .fieldAddr 49 (.tmp 4) 0, 0, "l06_manifest.go:17", #[⟨7, .guard⟩], some (7, true)⟩
abbrev qd9b_19_7_16 : Oper := ⟨some 54, .load 3 (.tmp 53), 3, "l06_manifest.go:17", #[⟨15, .data⟩, ⟨7, .guard⟩], some (7, true)⟩
abbrev qd9b_19_7_17 : Oper := ⟨some 55, .binOp .geq 3 (.tmp 52) (.tmp 54) 3, 4, "l06_manifest.go:17", #[⟨14, .data⟩, ⟨16, .data⟩, ⟨7, .guard⟩], some (7, true)⟩
abbrev qd9b_19_7_18 : Oper := ⟨some 56, .pick (.tmp 45) (.tmp 55) (.const (.bool false)), 4, "l06_manifest.go:17", #[⟨7, .data⟩, ⟨17, .data⟩, ⟨4, .guard⟩], some (4, false)⟩
abbrev qd9b_19_7_19 : Oper := ⟨some 57, .pick (.tmp 42) (.const (.bool true)) (.tmp 56), 4, "l06_manifest.go:17", #[⟨4, .data⟩, ⟨18, .data⟩], none⟩

set_option maxHeartbeats 400000 in
theorem l6Key_any (s : ByteArray) (w : World) (hs : s.size ≤ 9223372036854775807) :
    Calls Tryz.prog 66 #[.string s] w fun e w' => e = .returned (.bool (mKeyP s)) ∧ w' = w := by
  have HV : Hid (inRange (s.size : Int) 1 20 = mKeyP s) := by show _ = _; unfold inRange mKeyP; congr 1; apply propext; omega
  go_enter Tryz.func66, Tryz.ntmps66
  go_wp2_with fail
  refine (l1In_any _ _ _ _).mono ?_
  rintro e w1 ⟨rfl, hw1⟩
  subst hw1
  rw [HV.out]
  go_wp2_with fail
  go_ret
  exact ⟨rfl, rfl⟩

set_option maxHeartbeats 2000000 in
theorem l6Meta_any (nx lg : Int) (a0 : Option Addr) (n c0 : Nat) (t : MMeta) (w : World) (hn1 : 1 ≤ nx) (hn2 : nx ≤ 100000) (h2 : t.fLo.size ≤ 9223372036854775807) (h3 : t.fHi.size ≤ 9223372036854775807) :
    Calls Tryz.prog 39 #[.agg #[.int .i64 nx, .int .i64 lg, .slice a0 n c0], .agg #[.int .i64 t.fNo, .int .i64 t.fLevel, .string t.fLo, .string t.fHi]] w fun e w' => e = .returned (.bool (metaP nx t)) ∧ Below w.heap.size w w' := by
  have HV : Hid (metaP nx t = (inRange t.fNo 1 (nx - 1) && inRange t.fLevel 0 3 && mKeyP t.fLo && mKeyP t.fHi && kLe t.fLo t.fHi)) := rfl
  obtain ⟨wp, hwp⟩ : ∃ wp, wp = (w.alloc (.cells #[.int .i64 nx, .int .i64 lg, .slice a0 n c0] 24)).alloc (.cells #[.int .i64 t.fNo, .int .i64 t.fLevel, .string t.fLo, .string t.fHi] 49) := ⟨_, rfl⟩
  have hbp : Below w.heap.size w wp := by rw [hwp]; exact ((Below.refl _ _).alloc (Nat.le_refl _) _).alloc (by simp) _
  have hbx : Bx wp (w.heap.size + 1) [.int .i64 t.fNo, .int .i64 t.fLevel, .string t.fLo, .string t.fHi] := by rw [hwp]; have h := Bx.new (w.alloc (.cells #[.int .i64 nx, .int .i64 lg, .slice a0 n c0] 24)) [.int .i64 t.fNo, .int .i64 t.fLevel, .string t.fLo, .string t.fHi] 49; simpa using h
  have hbm : Bx wp w.heap.size [.int .i64 nx, .int .i64 lg, .slice a0 n c0] := by rw [hwp]; exact (Bx.new w [.int .i64 nx, .int .i64 lg, .slice a0 n c0] 24).under ((Below.refl _ _).alloc (Nat.le_refl _) _)
  have y0 := hbx.2 0 _ rfl
  have y1 := hbx.2 1 _ rfl
  have y2 := hbx.2 2 _ rfl
  have y3 := hbx.2 3 _ rfl
  have m0 := hbm.2 0 _ rfl
  have hz := hbx.1
  have hz2 := hbm.1
  have hk1 := fun W => l6Key_any t.fLo W h2
  have hk2 := fun W => l6Key_any t.fHi W h3
  have hi1 := fun W => l1In_any t.fNo 1 (nx - 1) W
  have hi2 := fun W => l1In_any t.fLevel 0 3 W
  generalize mKeyP t.fLo = a at *
  generalize mKeyP t.fHi = b at *
  generalize inRange t.fNo 1 (nx - 1) = r1 at *
  generalize inRange t.fLevel 0 3 = r2 at *
  go_enter Tryz.func39, Tryz.ntmps39
  go_wp2_with (rw [← hwp])
  refine (hi1 _).mono ?_
  rintro e w1 ⟨rfl, hw1⟩
  subst hw1
  clear hwp
  cases r1 with
  | false =>
    have HD : Hid (metaP nx t = false) := by show _ = _; rw [HV.out]; simp
    go_wp2_with fail
    go_ret
    exact ⟨by rw [HD.out]; rfl, hbp⟩
  | true =>
    go_wp2_with fail
    refine (hi2 _).mono ?_
    rintro e w1 ⟨rfl, hw1⟩
    subst hw1
    cases r2 with
    | false =>
      have HD : Hid (metaP nx t = false) := by show _ = _; rw [HV.out]; simp
      go_wp2_with fail
      go_ret
      exact ⟨by rw [HD.out]; rfl, hbp⟩
    | true =>
      go_wp2_with fail
      refine (hk1 _).mono ?_
      rintro e w1 ⟨rfl, hw1⟩
      subst hw1
      cases a with
      | false =>
        have HD : Hid (metaP nx t = false) := by show _ = _; rw [HV.out]; simp
        go_wp2_with fail
        go_ret
        exact ⟨by rw [HD.out]; rfl, hbp⟩
      | true =>
        go_wp2_with fail
        refine (hk2 _).mono ?_
        rintro e w1 ⟨rfl, hw1⟩
        subst hw1
        cases b with
        | false =>
          have HD : Hid (metaP nx t = false) := by show _ = _; rw [HV.out]; simp
          go_wp2_with fail
          go_ret
          exact ⟨by rw [HD.out]; rfl, hbp⟩
        | true =>
          by_cases hk : kLe t.fLo t.fHi = true
          · have HD : Hid (metaP nx t = true) := by show _ = _; rw [HV.out, hk]; rfl
            rcases kLe_yes hk with hq | hq
            · go_wp2_with fail
              go_ret
              exact ⟨by rw [HD.out]; rfl, hbp⟩
            · go_wp2_with fail
              go_ret
              exact ⟨by rw [HD.out]; rfl, hbp⟩
          · have hkf := Bool.eq_false_iff.2 hk
            have HD : Hid (metaP nx t = false) := by show _ = _; rw [HV.out, hkf]; rfl
            obtain ⟨hq1, hq2⟩ := kLe_no hkf
            go_wp2_with fail
            go_ret
            exact ⟨by rw [HD.out]; rfl, hbp⟩

theorem metaP_pos {next : Int} {t : MMeta} (h : metaP next t = true) : 1 ≤ t.fNo := by
  simp only [metaP, Bool.and_eq_true, decide_eq_true_eq] at h
  exact h.1.1.1.1.1

set_option maxHeartbeats 8000000 in
theorem specManOk_c (cs : List Value) (m : MManifest) (w : World) (hr : rManifest w.heap.size w cs m) (hw : wManifest m ≤ 1048576) :
    Calls Tryz.prog 19 #[.agg cs.toArray] w fun e w' => e = .returned (.bool (manOkP m)) ∧ Below w.heap.size w w' := by
  obtain ⟨a0, c0, rfl, hwf0, hwf1, hL, _⟩ := hr
  have HL := Hid.mk hL
  obtain ⟨l, hl⟩ : ∃ l, l = m.fTables := ⟨_, rfl⟩
  obtain ⟨n, hx⟩ : ∃ n, n = l.length := ⟨_, rfl⟩
  have HV : Hid (manOkP m = (inRange m.fNext 1 100000 && inRange m.fLog 0 (m.fNext - 1) && decide (n ≤ 20) && tabsFrom m.fNext [] l)) := by show _ = _; rw [hx, hl]; rfl
  have hn : n ≤ 1048576 := by have h : m.fTables.length + sumW wMeta m.fTables ≤ 1048576 := hw; rw [hx, hl]; omega
  rw [← hl] at HL ⊢
  rw [← hx]
  have HX := Hid.mk hx.symm
  generalize m.fNext = nx at *
  generalize m.fLog = lg at *
  clear hL hw hl hx hwf0 hwf1
  go_enter Tryz.func19, Tryz.ntmps19
  obtain ⟨wq, hwq⟩ : ∃ wq, wq = w.alloc (.cells #[.int .i64 nx, .int .i64 lg, .slice a0 n c0] 24) := ⟨_, rfl⟩
  have hbq : Below w.heap.size w wq := by rw [hwq]; exact (Below.refl _ _).alloc (Nat.le_refl _) _
  have hbx : Bx wq w.heap.size [.int .i64 nx, .int .i64 lg, .slice a0 n c0] := by rw [hwq]; exact Bx.new _ _ _
  have y0 := hbx.2 0 _ rfl
  have y1 := hbx.2 1 _ rfl
  have y2 := hbx.2 2 _ rfl
  have hz := hbx.1
  go_wp2_with (rw [← hwq])
  refine (l1In_any nx 1 100000 _).mono ?_
  rintro e w1 ⟨rfl, hw1⟩
  have hw2 := hw1.symm
  clear hw1
  subst hw2
  clear hwq
  by_cases h1 : inRange nx 1 100000 = true
  rotate_left
  · have h1f := Bool.eq_false_iff.2 h1
    have HD : Hid (manOkP m = false) := by show _ = _; rw [HV.out, h1f]; rfl
    rw [h1f]
    go_wp2_with fail
    go_ret
    exact ⟨by rw [HD.out]; rfl, hbq⟩
  have hnx1 : 1 ≤ nx := (of_decide_eq_true h1).1
  have hnx2 : nx ≤ 100000 := (of_decide_eq_true h1).2
  rw [h1] at HV ⊢
  go_wp2_with fail
  refine (l1In_any lg 0 (nx - 1) _).mono ?_
  rintro e w1 ⟨rfl, hw1⟩
  have hw2 := hw1.symm
  clear hw1
  subst hw2
  by_cases h2 : inRange lg 0 (nx - 1) = true
  rotate_left
  · have h2f := Bool.eq_false_iff.2 h2
    have HD : Hid (manOkP m = false) := by show _ = _; rw [HV.out, h2f]; simp
    rw [h2f]
    go_wp2_with fail
    go_ret
    exact ⟨by rw [HD.out]; rfl, hbq⟩
  rw [h2] at HV ⊢
  by_cases h5 : n ≤ 20
  rotate_left
  · have HD : Hid (manOkP m = false) := by show _ = _; rw [HV.out, decide_eq_false h5]; simp
    have h6 : (20 : Int) < (n : Int) := by omega
    go_wp2_with fail
    go_ret
    exact ⟨by rw [HD.out]; rfl, hbq⟩
  have h6 : ¬ (20 : Int) < (n : Int) := by omega
  have HV2 : Hid (manOkP m = tabsFrom nx [] l) := by show _ = _; rw [HV.out, decide_eq_true h5]; rfl
  clear HV h1 h2
  go_wp2_with fail
  clear y0 y1 y2
  go_loopw [3] (fun i wr => ∃ k : Nat, k ≤ n ∧ i = .int .i64 k ∧ Hid (tabsFrom nx [] l = tabsFrom nx (l.take k) (l.drop k)) ∧ Below wq.heap.size wq wr) (fun i _ => n - (intOf i).toNat)
  case atStart => exact ⟨0, Nat.zero_le _, rfl, rfl, Below.refl _ _⟩
  case round =>
    obtain ⟨k, hk, rfl, HI, hbk⟩ := hrel
    have hbw := bthen hbq hbk
    have hbz := hbw.size
    have hbxr := hbx.under hbk
    have y2 := hbxr.2 2 _ rfl
    have hlr := hbxr.1
    by_cases hlt : k < n
    · have hkl : k < l.length := by rw [HX.out]; exact hlt
      obtain ⟨b1, o1, rfl, hB, cs, hcl, hcell, rfl, g0, g1, g2, g3, _⟩ := (HL.out.2.2.below rMeta_good hbw) k hkl
      have hB' : b1 < wr.heap.size := by omega
      have k0 := hcell 0 _ rfl
      have k1 := hcell 1 _ rfl
      have k2 := hcell 2 _ rfl
      have k3 := hcell 3 _ rfl
      rw [Nat.add_zero] at k0
      have HG : Hid (tabAt nx l k l[k] = true → tabsFrom nx [] l = tabsFrom nx (l.take (k + 1)) (l.drop (k + 1))) := fun h => by rw [HI.out]; exact tabs_good hkl h
      have HBad : Hid (tabAt nx l k l[k] = false → manOkP m = false) := fun h => by rw [HV2.out, HI.out]; exact tabs_bad hkl h
      clear hcell hcl HI
      obtain ⟨x, hxk⟩ : ∃ x, x = l[k] := ⟨_, rfl⟩
      rw [← hxk] at k0 k1 k2 k3 g0 g1 g2 g3 HG HBad
      clear hxk
      obtain ⟨wp, hwp⟩ : ∃ wp, wp = wr.alloc (.cells #[.int .i64 x.fNo, .int .i64 x.fLevel, .string x.fLo, .string x.fHi] 49) := ⟨_, rfl⟩
      have hbp : Below wr.heap.size wr wp := by rw [hwp]; exact (Below.refl _ _).alloc (Nat.le_refl _) _
      have hbxp : Bx wp wr.heap.size [.int .i64 x.fNo, .int .i64 x.fLevel, .string x.fLo, .string x.fHi] := by rw [hwp]; exact Bx.new _ _ _
      have hbkp := bthen hbk hbp
      have p0 : ∀ W, Below wp.heap.size wp W → W.cell? ⟨wr.heap.size, 0, none⟩ = some (.int .i64 x.fNo) := fun W hb => (hbxp.under hb).2 0 _ rfl
      have p1 : ∀ W, Below wp.heap.size wp W → W.cell? ⟨wr.heap.size, 1, none⟩ = some (.int .i64 x.fLevel) := fun W hb => (hbxp.under hb).2 1 _ rfl
      have p2 : ∀ W, Below wp.heap.size wp W → W.cell? ⟨wr.heap.size, 2, none⟩ = some (.string x.fLo) := fun W hb => (hbxp.under hb).2 2 _ rfl
      have p3 : ∀ W, Below wp.heap.size wp W → W.cell? ⟨wr.heap.size, 3, none⟩ = some (.string x.fHi) := fun W hb => (hbxp.under hb).2 3 _ rfl
      have q0 : ∀ W, Below wp.heap.size wp W → W.cell? ⟨w.heap.size, 0, none⟩ = some (.int .i64 nx) := fun W hb => ((hbxr.under hbp).under hb).2 0 _ rfl
      have q1 : ∀ W, Below wp.heap.size wp W → W.cell? ⟨w.heap.size, 1, none⟩ = some (.int .i64 lg) := fun W hb => ((hbxr.under hbp).under hb).2 1 _ rfl
      have q2 : ∀ W, Below wp.heap.size wp W → W.cell? ⟨w.heap.size, 2, none⟩ = some (.slice (some ⟨b1, o1, none⟩) n c0) := fun W hb => ((hbxr.under hbp).under hb).2 2 _ rfl
      have hCm := fun W => l6Meta_any nx lg (some ⟨b1, o1, none⟩) n c0 x W hnx1 hnx2 g2 g3
      by_cases hM : metaP nx x = true
      rotate_left
      · have hMf := Bool.eq_false_iff.2 hM
        have HD : Hid (manOkP m = false) := HBad.out (tabAt_bad1 hMf)
        simp only [hMf] at hCm
        go_wp2_with fail
        rw [← hwp]
        clear hwp
        refine wp_region_held_drew (S := fun W => Below wp.heap.size wp W) (by kernel_rfl) (Below.drew (Below.refl _ _)) (fun hHeld => ?_)
        refine tk 0 qd9b_19_7_0 (some 38) (v := ?v1) rfl rfl (by kernel_rfl) hHeld (by rfl) (fun _ _ _ x => x) (fun w h => ?y1) ?_; (case y1 => (try dsimp only at h); go_simp; try (with_reducible rfl)); try simp only [Act.put, sa, s0, s1]
        refine tk 1 qd9b_19_7_1 (some 39) (v := ?v2) rfl rfl (by kernel_rfl) hHeld (by rfl) (fun _ _ _ x => x) (fun w h => ?y2) ?_; (case y2 => (try dsimp only at h); go_simp; try (with_reducible rfl)); try simp only [Act.put, sa, s0, s1]
        refine wpAnyH_ready (rs := [2]) (by kernel_rfl) (by simp) ?_
        refine AllReadyH.cons (o := qd9b_19_7_2) rfl (fun K hK => ?_) AllReadyH.nil
        go_simp
        refine Calls.mono (hCm _) ?_
        rintro e w1 ⟨rfl, hx1⟩
        go_wp2_with fail
        refine hK.out _ _ (bthen hHeld hx1) (fun hHeld => ?_)
        clear hK K
        try simp only [Act.put, sa, s0, s1]
        refine tk 3 qd9b_19_7_3 (some 41) (v := ?v3) rfl rfl (by kernel_rfl) hHeld (by rfl) (fun _ _ _ x => x) (fun w h => ?y3) ?_; (case y3 => (try dsimp only at h); go_simp; try (with_reducible rfl)); try simp only [Act.put, sa, s0, s1]
        refine tk 4 qd9b_19_7_4 (some 42) (v := ?v4) rfl rfl (by kernel_rfl) hHeld (by rfl) (fun _ _ _ x => x) (fun w h => ?y4) ?_; (case y4 => (try dsimp only at h); go_simp; try (with_reducible rfl)); try simp only [Act.put, sa, s0, s1]
        refine tn 5 qd9b_19_7_5 (some 43) rfl rfl (by kernel_rfl) hHeld (by rfl) (fun _ _ _ x => x) ?_; try simp only [Act.put, sa, s0, s1]
        refine tn 6 qd9b_19_7_6 (some 44) rfl rfl (by kernel_rfl) hHeld (by rfl) (fun _ _ _ x => x) ?_; try simp only [Act.put, sa, s0, s1]
        refine tn 7 qd9b_19_7_7 (some 45) rfl rfl (by kernel_rfl) hHeld (by rfl) (fun _ _ _ x => x) ?_; try simp only [Act.put, sa, s0, s1]
        refine tn 8 qd9b_19_7_8 (some 46) rfl rfl (by kernel_rfl) hHeld (by rfl) (fun _ _ _ x => x) ?_; try simp only [Act.put, sa, s0, s1]
        refine tn 9 qd9b_19_7_9 (some 47) rfl rfl (by kernel_rfl) hHeld (by rfl) (fun _ _ _ x => x) ?_; try simp only [Act.put, sa, s0, s1]
        refine tn 10 qd9b_19_7_10 (some 48) rfl rfl (by kernel_rfl) hHeld (by rfl) (fun _ _ _ x => x) ?_; try simp only [Act.put, sa, s0, s1]
        refine tn 11 qd9b_19_7_11 (some 49) rfl rfl (by kernel_rfl) hHeld (by rfl) (fun _ _ _ x => x) ?_; try simp only [Act.put, sa, s0, s1]
        refine tn 12 qd9b_19_7_12 (some 50) rfl rfl (by kernel_rfl) hHeld (by rfl) (fun _ _ _ x => x) ?_; try simp only [Act.put, sa, s0, s1]
        refine tn 13 qd9b_19_7_13 (some 51) rfl rfl (by kernel_rfl) hHeld (by rfl) (fun _ _ _ x => x) ?_; try simp only [Act.put, sa, s0, s1]
        refine tn 14 qd9b_19_7_14 (some 52) rfl rfl (by kernel_rfl) hHeld (by rfl) (fun _ _ _ x => x) ?_; try simp only [Act.put, sa, s0, s1]
        refine tn 15 qd9b_19_7_15 (some 53) rfl rfl (by kernel_rfl) hHeld (by rfl) (fun _ _ _ x => x) ?_; try simp only [Act.put, sa, s0, s1]
        refine tn 16 qd9b_19_7_16 (some 54) rfl rfl (by kernel_rfl) hHeld (by rfl) (fun _ _ _ x => x) ?_; try simp only [Act.put, sa, s0, s1]
        refine tn 17 qd9b_19_7_17 (some 55) rfl rfl (by kernel_rfl) hHeld (by rfl) (fun _ _ _ x => x) ?_; try simp only [Act.put, sa, s0, s1]
        refine tn 18 qd9b_19_7_18 (some 56) rfl rfl (by kernel_rfl) hHeld (by rfl) (fun _ _ _ x => x) ?_; try simp only [Act.put, sa, s0, s1]
        refine tk 19 qd9b_19_7_19 (some 57) (v := ?v19) rfl rfl (by kernel_rfl) hHeld (by rfl) (fun _ _ _ x => x) (fun w h => ?y19) ?_; (case y19 => (try dsimp only at h); go_simp; try (with_reducible rfl)); try simp only [Act.put, sa, s0, s1]
        refine wpAnyH_done (by kernel_rfl) ?_ _
        go_wp2_with fail
        go_ret
        exact ⟨by rw [HD.out]; rfl, bthen hbq (bthen hbkp hHeld)⟩
      have HM := Hid.mk hM
      simp only [hM] at hCm
      clear hM
      by_cases hk0 : k = 0
      · subst hk0
        have HLT : Hid (lastNo (l.take 0) < x.fNo) := by have h := metaP_pos HM.out; show (0 : Int) < _; omega
        simp only [Nat.zero_mul, Nat.add_zero] at k0 k1 k2 k3
        go_wp2_with fail
        rw [← hwp]
        clear hwp
        refine wp_region_held_drew (S := fun W => Below wp.heap.size wp W) (by kernel_rfl) (Below.drew (Below.refl _ _)) (fun hHeld => ?_)
        refine tk 0 qd9b_19_7_0 (some 38) (v := ?v20) rfl rfl (by kernel_rfl) hHeld (by rfl) (fun _ _ _ x => x) (fun w h => ?y20) ?_; (case y20 => (try dsimp only at h); go_simp; try (with_reducible rfl)); try simp only [Act.put, sa, s0, s1]
        refine tk 1 qd9b_19_7_1 (some 39) (v := ?v21) rfl rfl (by kernel_rfl) hHeld (by rfl) (fun _ _ _ x => x) (fun w h => ?y21) ?_; (case y21 => (try dsimp only at h); go_simp; try (with_reducible rfl)); try simp only [Act.put, sa, s0, s1]
        refine wpAnyH_ready (rs := [2]) (by kernel_rfl) (by simp) ?_
        refine AllReadyH.cons (o := qd9b_19_7_2) rfl (fun K hK => ?_) AllReadyH.nil
        go_simp
        refine Calls.mono (hCm _) ?_
        rintro e w1 ⟨rfl, hx1⟩
        go_wp2_with fail
        refine hK.out _ _ (bthen hHeld hx1) (fun hHeld => ?_)
        clear hK K
        try simp only [Act.put, sa, s0, s1]
        refine tk 3 qd9b_19_7_3 (some 41) (v := ?v22) rfl rfl (by kernel_rfl) hHeld (by rfl) (fun _ _ _ x => x) (fun w h => ?y22) ?_; (case y22 => (try dsimp only at h); go_simp; try (with_reducible rfl)); try simp only [Act.put, sa, s0, s1]
        refine tk 4 qd9b_19_7_4 (some 42) (v := ?v23) rfl rfl (by kernel_rfl) hHeld (by rfl) (fun _ _ _ x => x) (fun w h => ?y23) ?_; (case y23 => (try dsimp only at h); go_simp; try (with_reducible rfl)); try simp only [Act.put, sa, s0, s1]
        refine tk 5 qd9b_19_7_5 (some 43) (v := ?v24) rfl rfl (by kernel_rfl) hHeld (by rfl) (fun _ _ _ x => x) (fun w h => ?y24) ?_; (case y24 => (try dsimp only at h); go_simp; try (with_reducible rfl)); try simp only [Act.put, sa, s0, s1]
        refine tk 6 qd9b_19_7_6 (some 44) (v := ?v25) rfl rfl (by kernel_rfl) hHeld (by rfl) (fun _ _ _ x => x) (fun w h => ?y25) ?_; (case y25 => (try dsimp only at h); go_simp; try (with_reducible rfl)); try simp only [Act.put, sa, s0, s1]
        refine tk 7 qd9b_19_7_7 (some 45) (v := ?v26) rfl rfl (by kernel_rfl) hHeld (by rfl) (fun _ _ _ x => x) (fun w h => ?y26) ?_; (case y26 => (try dsimp only at h); go_simp; try (with_reducible rfl)); try simp only [Act.put, sa, s0, s1]
        refine tn 8 qd9b_19_7_8 (some 46) rfl rfl (by kernel_rfl) hHeld (by rfl) (fun _ _ _ x => x) ?_; try simp only [Act.put, sa, s0, s1]
        refine tn 9 qd9b_19_7_9 (some 47) rfl rfl (by kernel_rfl) hHeld (by rfl) (fun _ _ _ x => x) ?_; try simp only [Act.put, sa, s0, s1]
        refine tn 10 qd9b_19_7_10 (some 48) rfl rfl (by kernel_rfl) hHeld (by rfl) (fun _ _ _ x => x) ?_; try simp only [Act.put, sa, s0, s1]
        refine tn 11 qd9b_19_7_11 (some 49) rfl rfl (by kernel_rfl) hHeld (by rfl) (fun _ _ _ x => x) ?_; try simp only [Act.put, sa, s0, s1]
        refine tn 12 qd9b_19_7_12 (some 50) rfl rfl (by kernel_rfl) hHeld (by rfl) (fun _ _ _ x => x) ?_; try simp only [Act.put, sa, s0, s1]
        refine tn 13 qd9b_19_7_13 (some 51) rfl rfl (by kernel_rfl) hHeld (by rfl) (fun _ _ _ x => x) ?_; try simp only [Act.put, sa, s0, s1]
        refine tn 14 qd9b_19_7_14 (some 52) rfl rfl (by kernel_rfl) hHeld (by rfl) (fun _ _ _ x => x) ?_; try simp only [Act.put, sa, s0, s1]
        refine tn 15 qd9b_19_7_15 (some 53) rfl rfl (by kernel_rfl) hHeld (by rfl) (fun _ _ _ x => x) ?_; try simp only [Act.put, sa, s0, s1]
        refine tn 16 qd9b_19_7_16 (some 54) rfl rfl (by kernel_rfl) hHeld (by rfl) (fun _ _ _ x => x) ?_; try simp only [Act.put, sa, s0, s1]
        refine tn 17 qd9b_19_7_17 (some 55) rfl rfl (by kernel_rfl) hHeld (by rfl) (fun _ _ _ x => x) ?_; try simp only [Act.put, sa, s0, s1]
        refine tk 18 qd9b_19_7_18 (some 56) (v := ?v37) rfl rfl (by kernel_rfl) hHeld (by rfl) (fun _ _ _ x => x) (fun w h => ?y37) ?_; (case y37 => (try dsimp only at h); go_simp; try (with_reducible rfl)); try simp only [Act.put, sa, s0, s1]
        refine tk 19 qd9b_19_7_19 (some 57) (v := ?v38) rfl rfl (by kernel_rfl) hHeld (by rfl) (fun _ _ _ x => x) (fun w h => ?y38) ?_; (case y38 => (try dsimp only at h); go_simp; try (with_reducible rfl)); try simp only [Act.put, sa, s0, s1]
        refine wpAnyH_done (by kernel_rfl) ?_ _
        generalize wr = wo at *
        go_wp2_with fail
        go_loopw [5] (fun i wr => ∃ j : Nat, j ≤ 0 ∧ i = .int .i64 j ∧ Hid (∀ i, (hi : i < l.length) → i < j → meetP x l[i] = false) ∧ Below wp.heap.size wp wr) (fun i _ => 0 - (intOf i).toNat)
        case atStart => exact ⟨0, Nat.zero_le _, rfl, fun i _ h => by omega, hHeld⟩
        case round =>
          obtain ⟨j, hj, rfl, HJ, hbv⟩ := hrel
          have hj0 : j = 0 := by omega
          subst hj0
          have HGD := Hid.mk (HG.out (tabAt_good HM.out HLT.out (fun i hi hlt => HJ.out i hi (by omega))))
          go_wp2_with fail
          go_roundw
          case rel => exact ⟨0 + 1, by omega, by go_num, HGD, bthen hbkp hbv⟩
          case measure => simp [intOf]; omega
      · obtain ⟨jj, rfl⟩ : ∃ j, k = j + 1 := ⟨k - 1, by omega⟩
        have hjl : jj < l.length := by omega
        obtain ⟨b1', o1', he1, _, cs', hcl', hcell', rfl, g0', g1', _, _⟩ := (HL.out.2.2.below rMeta_good hbw) jj hjl
        simp only [Option.some.injEq, Addr.mk.injEq, and_true] at he1
        obtain ⟨rfl, rfl⟩ := he1
        have j0 := hcell' 0 _ rfl
        rw [Nat.add_zero] at j0
        have qj : ∀ W, Below wp.heap.size wp W → W.cell? ⟨b1, o1 + jj * 4, none⟩ = some (.int .i64 l[jj].fNo) := fun W hb => ((bthen hbp hb).cell (p := ⟨b1, o1 + jj * 4, none⟩) hB').trans j0
        have HLN : Hid (lastNo (l.take (jj + 1)) = l[jj].fNo) := lastNo_take hjl
        have hwr : IntKind.i64.wrap (jj : Int) = (jj : Int) := by rw [IntKind.wrap_i64]; omega
        have hj1 : (0 : Int) ≤ (jj : Int) := by omega
        have hj2 : (jj : Int) < (n : Int) := by omega
        clear hcell' hcl' j0 g0' g1'
        generalize l[jj].fNo = pn at *
        by_cases hP : pn < x.fNo
        · have HLT : Hid (lastNo (l.take (jj + 1)) < x.fNo) := by show _ < _; rw [HLN.out]; exact hP
          have hP2 : decide (x.fNo ≤ pn) = false := decide_eq_false (by omega)
          go_wp2_with fail
          rw [← hwp]
          clear hwp
          refine wp_region_held_drew (S := fun W => Below wp.heap.size wp W) (by kernel_rfl) (Below.drew (Below.refl _ _)) (fun hHeld => ?_)
          refine tk 0 qd9b_19_7_0 (some 38) (v := ?v39) rfl rfl (by kernel_rfl) hHeld (by rfl) (fun _ _ _ x => x) (fun w h => ?y39) ?_; (case y39 => (try dsimp only at h); go_simp; try (with_reducible rfl)); try simp only [Act.put, sa, s0, s1]
          refine tk 1 qd9b_19_7_1 (some 39) (v := ?v40) rfl rfl (by kernel_rfl) hHeld (by rfl) (fun _ _ _ x => x) (fun w h => ?y40) ?_; (case y40 => (try dsimp only at h); go_simp; try (with_reducible rfl)); try simp only [Act.put, sa, s0, s1]
          refine wpAnyH_ready (rs := [2]) (by kernel_rfl) (by simp) ?_
          refine AllReadyH.cons (o := qd9b_19_7_2) rfl (fun K hK => ?_) AllReadyH.nil
          go_simp
          refine Calls.mono (hCm _) ?_
          rintro e w1 ⟨rfl, hx1⟩
          go_wp2_with fail
          refine hK.out _ _ (bthen hHeld hx1) (fun hHeld => ?_)
          clear hK K
          try simp only [Act.put, sa, s0, s1]
          refine tk 3 qd9b_19_7_3 (some 41) (v := ?v41) rfl rfl (by kernel_rfl) hHeld (by rfl) (fun _ _ _ x => x) (fun w h => ?y41) ?_; (case y41 => (try dsimp only at h); go_simp; try (with_reducible rfl)); try simp only [Act.put, sa, s0, s1]
          refine tk 4 qd9b_19_7_4 (some 42) (v := ?v42) rfl rfl (by kernel_rfl) hHeld (by rfl) (fun _ _ _ x => x) (fun w h => ?y42) ?_; (case y42 => (try dsimp only at h); go_simp; try (with_reducible rfl)); try simp only [Act.put, sa, s0, s1]
          refine tk 5 qd9b_19_7_5 (some 43) (v := ?v43) rfl rfl (by kernel_rfl) hHeld (by rfl) (fun _ _ _ x => x) (fun w h => ?y43) ?_; (case y43 => (try dsimp only at h); go_simp; try (with_reducible rfl)); try simp only [Act.put, sa, s0, s1]
          refine tk 6 qd9b_19_7_6 (some 44) (v := ?v44) rfl rfl (by kernel_rfl) hHeld (by rfl) (fun _ _ _ x => x) (fun w h => ?y44) ?_; (case y44 => (try dsimp only at h); go_simp; try (with_reducible rfl)); try simp only [Act.put, sa, s0, s1]
          refine tk 7 qd9b_19_7_7 (some 45) (v := ?v45) rfl rfl (by kernel_rfl) hHeld (by rfl) (fun _ _ _ x => x) (fun w h => ?y45) ?_; (case y45 => (try dsimp only at h); go_simp; try (with_reducible rfl)); try simp only [Act.put, sa, s0, s1]
          refine tk 8 qd9b_19_7_8 (some 46) (v := ?v46) rfl rfl (by kernel_rfl) hHeld (by rfl) (fun _ _ _ x => x) (fun w h => ?y46) ?_; (case y46 => (try dsimp only at h); go_simp; try (with_reducible rfl)); try simp only [Act.put, sa, s0, s1]
          refine tk 9 qd9b_19_7_9 (some 47) (v := ?v47) rfl rfl (by kernel_rfl) hHeld (by rfl) (fun _ _ _ x => x) (fun w h => ?y47) ?_; (case y47 => (try dsimp only at h); go_simp; try (with_reducible rfl)); try simp only [Act.put, sa, s0, s1]
          refine tk 10 qd9b_19_7_10 (some 48) (v := ?v48) rfl rfl (by kernel_rfl) hHeld (by rfl) (fun _ _ _ x => x) (fun w h => ?y48) ?_; (case y48 => (try dsimp only at h); go_simp; try (with_reducible rfl)); try simp only [Act.put, sa, s0, s1]
          refine tk 11 qd9b_19_7_11 (some 49) (v := ?v49) rfl rfl (by kernel_rfl) hHeld (by rfl) (fun _ _ _ x => x) (fun w h => ?y49) ?_; (case y49 => (try dsimp only at h); go_simp; try (with_reducible rfl)); try simp only [Act.put, sa, s0, s1]
          refine tk 12 qd9b_19_7_12 (some 50) (v := ?v50) rfl rfl (by kernel_rfl) hHeld (by rfl) (fun _ _ _ x => x) (fun w h => ?y50) ?_; (case y50 => (try dsimp only at h); go_simp; try (with_reducible rfl)); try simp only [Act.put, sa, s0, s1]
          refine tk 13 qd9b_19_7_13 (some 51) (v := ?v51) rfl rfl (by kernel_rfl) hHeld (by rfl) (fun _ _ _ x => x) (fun w h => ?y51) ?_; (case y51 => (try dsimp only at h); go_simp; try (with_reducible rfl)); try simp only [Act.put, sa, s0, s1]
          refine tk 14 qd9b_19_7_14 (some 52) (v := ?v52) rfl rfl (by kernel_rfl) hHeld (by rfl) (fun _ _ _ x => x) (fun w h => ?y52) ?_; (case y52 => (try dsimp only at h); go_simp; try (with_reducible rfl)); try simp only [Act.put, sa, s0, s1]
          refine tk 15 qd9b_19_7_15 (some 53) (v := ?v53) rfl rfl (by kernel_rfl) hHeld (by rfl) (fun _ _ _ x => x) (fun w h => ?y53) ?_; (case y53 => (try dsimp only at h); go_simp; try (with_reducible rfl)); try simp only [Act.put, sa, s0, s1]
          refine tk 16 qd9b_19_7_16 (some 54) (v := ?v54) rfl rfl (by kernel_rfl) hHeld (by rfl) (fun _ _ _ x => x) (fun w h => ?y54) ?_; (case y54 => (try dsimp only at h); go_simp; try (with_reducible rfl)); try simp only [Act.put, sa, s0, s1]
          refine tk 17 qd9b_19_7_17 (some 55) (v := ?v55) rfl rfl (by kernel_rfl) hHeld (by rfl) (fun _ _ _ x => x) (fun w h => ?y55) ?_; (case y55 => (try dsimp only at h); go_simp; try (with_reducible rfl)); try simp only [Act.put, sa, s0, s1]
          refine tk 18 qd9b_19_7_18 (some 56) (v := ?v56) rfl rfl (by kernel_rfl) hHeld (by rfl) (fun _ _ _ x => x) (fun w h => ?y56) ?_; (case y56 => (try dsimp only at h); go_simp; try (with_reducible rfl)); try simp only [Act.put, sa, s0, s1]
          refine tk 19 qd9b_19_7_19 (some 57) (v := ?v57) rfl rfl (by kernel_rfl) hHeld (by rfl) (fun _ _ _ x => x) (fun w h => ?y57) ?_; (case y57 => (try dsimp only at h); go_simp; try (with_reducible rfl)); try simp only [Act.put, sa, s0, s1]
          refine wpAnyH_done (by kernel_rfl) ?_ _
          generalize wr = wo at *
          go_wp2_with fail
          go_loopw [5] (fun i wr => ∃ j : Nat, j ≤ (jj + 1) ∧ i = .int .i64 j ∧ Hid (∀ i, (hi : i < l.length) → i < j → meetP x l[i] = false) ∧ Below wp.heap.size wp wr) (fun i _ => (jj + 1) - (intOf i).toNat)
          case atStart => exact ⟨0, Nat.zero_le _, rfl, fun i _ h => by omega, hHeld⟩
          case round =>
            obtain ⟨j, hj, rfl, HJ, hbv⟩ := hrel
            by_cases hlt2 : j < (jj + 1)
            · have hjl2 : j < l.length := by omega
              obtain ⟨b2, o2, he2, _, cs2, hcl2, hcell2, rfl, e0, e1, e2, e3, _⟩ := (HL.out.2.2.below rMeta_good (bthen (bthen hbw hbp) hbv)) j hjl2
              simp only [Option.some.injEq, Addr.mk.injEq, and_true] at he2
              obtain ⟨rfl, rfl⟩ := he2
              have c0' := hcell2 0 _ rfl
              have c1 := hcell2 1 _ rfl
              have c2 := hcell2 2 _ rfl
              have c3 := hcell2 3 _ rfl
              rw [Nat.add_zero] at c0'
              have HN0 : Hid (meetP x l[j] = false → ∀ i, (hi : i < l.length) → i < j + 1 → meetP x l[i] = false) := fun h i hi hlt => by
                by_cases he : i = j
                · subst he; exact h
                · exact HJ.out i hi (by omega)
              have HB0 : Hid (meetP x l[j] = true → manOkP m = false) := fun h => HBad.out (tabAt_bad3 (by omega) hjl2 h)
              have HMU : Hid (meetP x l[j] = (decide (0 < x.fLevel) && decide (l[j].fLevel = x.fLevel) && kLe l[j].fLo x.fHi && kLe x.fLo l[j].fHi)) := rfl
              clear hcell2 hcl2 p0 q0 q1 qj hCm
              replace p1 := p1 _ hbv
              replace p2 := p2 _ hbv
              replace p3 := p3 _ hbv
              replace q2 := q2 _ hbv
              have hv1 : w.heap.size < wr.heap.size := Nat.lt_of_lt_of_le hlr (Nat.le_trans hbp.size hbv.size)
              have hv2 : wo.heap.size < wr.heap.size := Nat.lt_of_lt_of_le hbxp.1 hbv.size
              have hv3 : b1 < wr.heap.size := by omega
              generalize meetP x l[j] = mt at *
              generalize l[j] = u at *
              by_cases hL0 : 0 < x.fLevel
              rotate_left
              · have HN := Hid.mk (HN0.out (by rw [HMU.out, decide_eq_false hL0]; rfl))
                go_wp2_with fail
                go_roundw
                case rel => exact ⟨j + 1, by omega, by go_num, HN, bthen hbv ((Below.refl _ _).alloc (Nat.le_refl _) _)⟩
                case measure => simp [intOf]; omega
              by_cases hL1 : u.fLevel = x.fLevel
              rotate_left
              · have HN := Hid.mk (HN0.out (by rw [HMU.out, decide_eq_false hL1]; simp))
                go_wp2_with fail
                go_roundw
                case rel => exact ⟨j + 1, by omega, by go_num, HN, bthen hbv ((Below.refl _ _).alloc (Nat.le_refl _) _)⟩
                case measure => simp [intOf]; omega
              have HMU2 : Hid (mt = (kLe u.fLo x.fHi && kLe x.fLo u.fHi)) := by show _ = _; rw [HMU.out, decide_eq_true hL0, decide_eq_true hL1]; rfl
              clear HMU
              rw [hL1] at c1
              clear hL1
              by_cases hK1 : kLe u.fLo x.fHi = true
              rotate_left
              · have hK1f := Bool.eq_false_iff.2 hK1
                have HN := Hid.mk (HN0.out (by rw [HMU2.out, hK1f]; rfl))
                obtain ⟨hq1, hq2⟩ := kLe_no hK1f
                clear hK1 hK1f
                go_wp2_with fail
                go_roundw
                case rel => exact ⟨j + 1, by omega, by go_num, HN, bthen hbv ((Below.refl _ _).alloc (Nat.le_refl _) _)⟩
                case measure => simp [intOf]; omega
              by_cases hK2 : kLe x.fLo u.fHi = true
              rotate_left
              · have hK2f := Bool.eq_false_iff.2 hK2
                have HN := Hid.mk (HN0.out (by rw [HMU2.out, hK2f]; simp))
                obtain ⟨hq1, hq2⟩ := kLe_no hK2f
                have hr := kLe_yes hK1
                clear hK1 hK2 hK2f
                rcases hr with hr | hr
                · go_wp2_with fail
                  go_roundw
                  case rel => exact ⟨j + 1, by omega, by go_num, HN, bthen hbv ((Below.refl _ _).alloc (Nat.le_refl _) _)⟩
                  case measure => simp [intOf]; omega
                · go_wp2_with fail
                  go_roundw
                  case rel => exact ⟨j + 1, by omega, by go_num, HN, bthen hbv ((Below.refl _ _).alloc (Nat.le_refl _) _)⟩
                  case measure => simp [intOf]; omega
              have HD : Hid (manOkP m = false) := HB0.out (by rw [HMU2.out, hK1, hK2]; rfl)
              have hr := kLe_yes hK1
              have hs := kLe_yes hK2
              clear hK1 hK2
              rcases hr with hr | hr
              · rcases hs with hs | hs
                · go_wp2_with fail
                  go_ret
                  exact ⟨by rw [HD.out]; rfl, bthen hbq (bthen hbkp (bthen hbv ((Below.refl _ _).alloc (Nat.le_refl _) _)))⟩
                · go_wp2_with fail
                  go_ret
                  exact ⟨by rw [HD.out]; rfl, bthen hbq (bthen hbkp (bthen hbv ((Below.refl _ _).alloc (Nat.le_refl _) _)))⟩
              · rcases hs with hs | hs
                · go_wp2_with fail
                  go_ret
                  exact ⟨by rw [HD.out]; rfl, bthen hbq (bthen hbkp (bthen hbv ((Below.refl _ _).alloc (Nat.le_refl _) _)))⟩
                · go_wp2_with fail
                  go_ret
                  exact ⟨by rw [HD.out]; rfl, bthen hbq (bthen hbkp (bthen hbv ((Below.refl _ _).alloc (Nat.le_refl _) _)))⟩
            · have hje : j = (jj + 1) := by omega
              subst hje
              have HGD := Hid.mk (HG.out (tabAt_good HM.out HLT.out (fun i hi hlt => HJ.out i hi (by omega))))
              go_wp2_with fail
              go_roundw
              case rel => exact ⟨(jj + 1) + 1, by omega, by go_num, HGD, bthen hbkp hbv⟩
              case measure => simp [intOf]; omega
        · have HD : Hid (manOkP m = false) := HBad.out (tabAt_bad2 (by rw [HLN.out]; omega))
          have hP2 : x.fNo ≤ pn := by omega
          go_wp2_with fail
          rw [← hwp]
          clear hwp
          refine wp_region_held_drew (S := fun W => Below wp.heap.size wp W) (by kernel_rfl) (Below.drew (Below.refl _ _)) (fun hHeld => ?_)
          refine tk 0 qd9b_19_7_0 (some 38) (v := ?v58) rfl rfl (by kernel_rfl) hHeld (by rfl) (fun _ _ _ x => x) (fun w h => ?y58) ?_; (case y58 => (try dsimp only at h); go_simp; try (with_reducible rfl)); try simp only [Act.put, sa, s0, s1]
          refine tk 1 qd9b_19_7_1 (some 39) (v := ?v59) rfl rfl (by kernel_rfl) hHeld (by rfl) (fun _ _ _ x => x) (fun w h => ?y59) ?_; (case y59 => (try dsimp only at h); go_simp; try (with_reducible rfl)); try simp only [Act.put, sa, s0, s1]
          refine wpAnyH_ready (rs := [2]) (by kernel_rfl) (by simp) ?_
          refine AllReadyH.cons (o := qd9b_19_7_2) rfl (fun K hK => ?_) AllReadyH.nil
          go_simp
          refine Calls.mono (hCm _) ?_
          rintro e w1 ⟨rfl, hx1⟩
          go_wp2_with fail
          refine hK.out _ _ (bthen hHeld hx1) (fun hHeld => ?_)
          clear hK K
          try simp only [Act.put, sa, s0, s1]
          refine tk 3 qd9b_19_7_3 (some 41) (v := ?v60) rfl rfl (by kernel_rfl) hHeld (by rfl) (fun _ _ _ x => x) (fun w h => ?y60) ?_; (case y60 => (try dsimp only at h); go_simp; try (with_reducible rfl)); try simp only [Act.put, sa, s0, s1]
          refine tk 4 qd9b_19_7_4 (some 42) (v := ?v61) rfl rfl (by kernel_rfl) hHeld (by rfl) (fun _ _ _ x => x) (fun w h => ?y61) ?_; (case y61 => (try dsimp only at h); go_simp; try (with_reducible rfl)); try simp only [Act.put, sa, s0, s1]
          refine tk 5 qd9b_19_7_5 (some 43) (v := ?v62) rfl rfl (by kernel_rfl) hHeld (by rfl) (fun _ _ _ x => x) (fun w h => ?y62) ?_; (case y62 => (try dsimp only at h); go_simp; try (with_reducible rfl)); try simp only [Act.put, sa, s0, s1]
          refine tk 6 qd9b_19_7_6 (some 44) (v := ?v63) rfl rfl (by kernel_rfl) hHeld (by rfl) (fun _ _ _ x => x) (fun w h => ?y63) ?_; (case y63 => (try dsimp only at h); go_simp; try (with_reducible rfl)); try simp only [Act.put, sa, s0, s1]
          refine tk 7 qd9b_19_7_7 (some 45) (v := ?v64) rfl rfl (by kernel_rfl) hHeld (by rfl) (fun _ _ _ x => x) (fun w h => ?y64) ?_; (case y64 => (try dsimp only at h); go_simp; try (with_reducible rfl)); try simp only [Act.put, sa, s0, s1]
          refine tk 8 qd9b_19_7_8 (some 46) (v := ?v65) rfl rfl (by kernel_rfl) hHeld (by rfl) (fun _ _ _ x => x) (fun w h => ?y65) ?_; (case y65 => (try dsimp only at h); go_simp; try (with_reducible rfl)); try simp only [Act.put, sa, s0, s1]
          refine tk 9 qd9b_19_7_9 (some 47) (v := ?v66) rfl rfl (by kernel_rfl) hHeld (by rfl) (fun _ _ _ x => x) (fun w h => ?y66) ?_; (case y66 => (try dsimp only at h); go_simp; try (with_reducible rfl)); try simp only [Act.put, sa, s0, s1]
          refine tk 10 qd9b_19_7_10 (some 48) (v := ?v67) rfl rfl (by kernel_rfl) hHeld (by rfl) (fun _ _ _ x => x) (fun w h => ?y67) ?_; (case y67 => (try dsimp only at h); go_simp; try (with_reducible rfl)); try simp only [Act.put, sa, s0, s1]
          refine tk 11 qd9b_19_7_11 (some 49) (v := ?v68) rfl rfl (by kernel_rfl) hHeld (by rfl) (fun _ _ _ x => x) (fun w h => ?y68) ?_; (case y68 => (try dsimp only at h); go_simp; try (with_reducible rfl)); try simp only [Act.put, sa, s0, s1]
          refine tk 12 qd9b_19_7_12 (some 50) (v := ?v69) rfl rfl (by kernel_rfl) hHeld (by rfl) (fun _ _ _ x => x) (fun w h => ?y69) ?_; (case y69 => (try dsimp only at h); go_simp; try (with_reducible rfl)); try simp only [Act.put, sa, s0, s1]
          refine tk 13 qd9b_19_7_13 (some 51) (v := ?v70) rfl rfl (by kernel_rfl) hHeld (by rfl) (fun _ _ _ x => x) (fun w h => ?y70) ?_; (case y70 => (try dsimp only at h); go_simp; try (with_reducible rfl)); try simp only [Act.put, sa, s0, s1]
          refine tk 14 qd9b_19_7_14 (some 52) (v := ?v71) rfl rfl (by kernel_rfl) hHeld (by rfl) (fun _ _ _ x => x) (fun w h => ?y71) ?_; (case y71 => (try dsimp only at h); go_simp; try (with_reducible rfl)); try simp only [Act.put, sa, s0, s1]
          refine tk 15 qd9b_19_7_15 (some 53) (v := ?v72) rfl rfl (by kernel_rfl) hHeld (by rfl) (fun _ _ _ x => x) (fun w h => ?y72) ?_; (case y72 => (try dsimp only at h); go_simp; try (with_reducible rfl)); try simp only [Act.put, sa, s0, s1]
          refine tk 16 qd9b_19_7_16 (some 54) (v := ?v73) rfl rfl (by kernel_rfl) hHeld (by rfl) (fun _ _ _ x => x) (fun w h => ?y73) ?_; (case y73 => (try dsimp only at h); go_simp; try (with_reducible rfl)); try simp only [Act.put, sa, s0, s1]
          refine tk 17 qd9b_19_7_17 (some 55) (v := ?v74) rfl rfl (by kernel_rfl) hHeld (by rfl) (fun _ _ _ x => x) (fun w h => ?y74) ?_; (case y74 => (try dsimp only at h); go_simp; try (with_reducible rfl)); try simp only [Act.put, sa, s0, s1]
          refine tk 18 qd9b_19_7_18 (some 56) (v := ?v75) rfl rfl (by kernel_rfl) hHeld (by rfl) (fun _ _ _ x => x) (fun w h => ?y75) ?_; (case y75 => (try dsimp only at h); go_simp; try (with_reducible rfl)); try simp only [Act.put, sa, s0, s1]
          refine tk 19 qd9b_19_7_19 (some 57) (v := ?v76) rfl rfl (by kernel_rfl) hHeld (by rfl) (fun _ _ _ x => x) (fun w h => ?y76) ?_; (case y76 => (try dsimp only at h); go_simp; try (with_reducible rfl)); try simp only [Act.put, sa, s0, s1]
          refine wpAnyH_done (by kernel_rfl) ?_ _
          go_wp2_with fail
          go_ret
          exact ⟨by rw [HD.out]; rfl, bthen hbq (bthen hbkp hHeld)⟩
    · have HD : Hid (manOkP m = true) := by show _ = _; rw [HV2.out, HI.out]; exact tabs_end (by rw [HX.out]; omega)
      go_wp2_with fail
      go_ret
      exact ⟨by rw [HD.out]; rfl, hbw⟩

end Go.Proofs.YtnohnkcijomdjaaGreatDoor
