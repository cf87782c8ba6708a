/-
  Commands: what both sides say of one, and of two.
-/
import Derived.Test.YtnomigomjhhccaaPairOk
import Derived.Test.YtnomigomjhhccaaCDat
namespace Go.Proofs.Ytnomigomjhhccaa
open Go.RowKit Go.Maps
set_option linter.unusedVariables false
set_option linter.unusedSimpArgs false
set_option maxRecDepth 10000

def cmdPair (m : MCmd) : MPair := ⟨m.fKey, m.fVal, decide (m.fKind ≠ 1)⟩
def cmdOkP (m : MCmd) : Bool := inR m.fKind 1 3 && pairOkP (cmdPair m)
def meetP (a b : MCmd) : Bool := (a.fKey.toList == b.fKey.toList) && !(decide (a.fKind = 3) && decide (b.fKind = 3))

theorem cmdPair_r {B : Nat} {w : World} {m : MCmd} {g : Bool} (h1 : m.fKey.size ≤ 9223372036854775807) (h2 : m.fVal.size ≤ 9223372036854775807) : rPair B w [.string m.fKey, .string m.fVal, .bool g] ⟨m.fKey, m.fVal, g⟩ := ⟨rfl, h1, h2, trivial, trivial⟩

set_option maxHeartbeats 1000000 in
theorem implCmdOk_any (cs : List Value) (m : MCmd) (w : World) (hr : rCmd w.heap.size w cs m) (hw : wCmd m ≤ 1048576) :
    Calls Try.prog 14 #[.agg cs.toArray] w fun e w' => e = .returned (.bool (cmdOkP m)) ∧ Below w.heap.size w w' := by
  obtain ⟨rfl, h0, h1, h2, _⟩ := hr
  obtain ⟨wq, hwq⟩ : ∃ wq, wq = w.alloc (.cells #[.int .i64 m.fKind, .string m.fKey, .string m.fVal] 26) := ⟨_, rfl⟩
  have hbW : Below w.heap.size w wq := by rw [hwq]; exact (Below.refl _ _).alloc (Nat.le_refl _) _
  have hbx : Bx wq w.heap.size [.int .i64 m.fKind, .string m.fKey, .string m.fVal] := by rw [hwq]; exact Bx.new _ _ _
  have y0 := hbx.2 0 _ rfl
  have y1 := hbx.2 1 _ rfl
  have y2 := hbx.2 2 _ rfl
  have hww : m.fKey.size + m.fVal.size ≤ 1048576 := hw
  by_cases hk : m.fKind = 1
  · have HV : Hid (cmdOkP m = pairOkP ⟨m.fKey, m.fVal, false⟩) := by show _ = _; unfold cmdOkP cmdPair; rw [hk]; simp [inR]
    rw [hk] at hwq y0
    rw [hk]
    go_enter Try.func14, Try.ntmps14
    go_wp2_with fail
    rw [← hwq]
    clear hwq
    go_wp2_with fail
    refine (implPairOk_c _ ⟨m.fKey, m.fVal, false⟩ wq (cmdPair_r h1 h2) hww).mono ?_
    rintro e w1 ⟨rfl, hx1⟩
    rw [← HV.out]
    go_wp2_with fail
    go_ret
    exact ⟨rfl, bthen hbW hx1⟩
  · by_cases hk2 : m.fKind = 2
    · have HV : Hid (cmdOkP m = pairOkP ⟨m.fKey, m.fVal, true⟩) := by show _ = _; unfold cmdOkP cmdPair; rw [hk2]; simp [inR]
      rw [hk2] at hwq y0
      rw [hk2]
      go_enter Try.func14, Try.ntmps14
      go_wp2_with fail
      rw [← hwq]
      clear hwq
      go_wp2_with fail
      refine (implPairOk_c _ ⟨m.fKey, m.fVal, true⟩ wq (cmdPair_r h1 h2) hww).mono ?_
      rintro e w1 ⟨rfl, hx1⟩
      rw [← HV.out]
      go_wp2_with fail
      go_ret
      exact ⟨rfl, bthen hbW hx1⟩
    · by_cases hk3 : m.fKind = 3
      · have HV : Hid (cmdOkP m = pairOkP ⟨m.fKey, m.fVal, true⟩) := by show _ = _; unfold cmdOkP cmdPair; rw [hk3]; simp [inR]
        rw [hk3] at hwq y0
        rw [hk3]
        go_enter Try.func14, Try.ntmps14
        go_wp2_with fail
        rw [← hwq]
        clear hwq
        go_wp2_with fail
        refine (implPairOk_c _ ⟨m.fKey, m.fVal, true⟩ wq (cmdPair_r h1 h2) hww).mono ?_
        rintro e w1 ⟨rfl, hx1⟩
        rw [← HV.out]
        go_wp2_with fail
        go_ret
        exact ⟨rfl, bthen hbW hx1⟩
      · have HV : Hid (cmdOkP m = false) := by
          show _ = _
          unfold cmdOkP
          have : inR m.fKind 1 3 = false := decide_eq_false (by omega)
          rw [this, Bool.false_and]
        go_enter Try.func14, Try.ntmps14
        go_wp2_with fail
        rw [← hwq]
        clear hwq
        go_wp2_with fail
        go_ret
        exact ⟨by rw [HV.out]; rfl, hbW⟩

set_option maxHeartbeats 1000000 in
theorem specCmdOk_any (cs : List Value) (m : MCmd) (w : World) (hr : rCmd w.heap.size w cs m) (hw : wCmd m ≤ 1048576) :
    Calls Try.prog 12 #[.agg cs.toArray] w fun e w' => e = .returned (.bool (cmdOkP m)) ∧ Below w.heap.size w w' := by
  obtain ⟨rfl, h0, h1, h2, _⟩ := hr
  obtain ⟨wq, hwq⟩ : ∃ wq, wq = w.alloc (.cells #[.int .i64 m.fKind, .string m.fKey, .string m.fVal] 26) := ⟨_, rfl⟩
  have hbW : Below w.heap.size w wq := by rw [hwq]; exact (Below.refl _ _).alloc (Nat.le_refl _) _
  have hbx : Bx wq w.heap.size [.int .i64 m.fKind, .string m.fKey, .string m.fVal] := by rw [hwq]; exact Bx.new _ _ _
  have y0 := hbx.2 0 _ rfl
  have y1 := hbx.2 1 _ rfl
  have y2 := hbx.2 2 _ rfl
  have hww : m.fKey.size + m.fVal.size ≤ 1048576 := hw
  have HE : Hid (cmdOkP m = (inR m.fKind 1 3 && pairOkP ⟨m.fKey, m.fVal, false⟩ && (decide (m.fKind = 1) || decide (m.fVal.size = 0)))) := by
    show _ = _
    unfold cmdOkP cmdPair pairOkP
    by_cases hk : m.fKind = 1
    · simp [hk]
    · simp [hk, Bool.and_assoc]
  go_enter Try.func12, Try.ntmps12
  go_wp2_with fail
  rw [← hwq]
  clear hwq
  go_wp2_with fail
  refine (inR_any m.fKind 1 3 wq).mono ?_
  rintro e w1 ⟨rfl, hw1⟩
  subst hw1
  by_cases hi : inR m.fKind 1 3 = true
  · rw [hi]
    go_wp2_with fail
    refine (specPairOk_c _ ⟨m.fKey, m.fVal, false⟩ w1 (cmdPair_r h1 h2) hww).mono ?_
    rintro e w2 ⟨rfl, hx2⟩
    have hbx2 := hbx.under hx2
    have z0 := hbx2.2 0 _ rfl
    have z2 := hbx2.2 2 _ rfl
    clear y0 y1 y2
    by_cases hp : pairOkP ⟨m.fKey, m.fVal, false⟩ = true
    · rw [hp]
      by_cases hk : m.fKind = 1
      · have HV : Hid (cmdOkP m = true) := by show _ = _; rw [HE.out, hi, hp, decide_eq_true hk]; rfl
        go_wp2_with fail
        go_ret
        exact ⟨by rw [HV.out]; rfl, bthen hbW hx2⟩
      · by_cases hv : m.fVal.size = 0
        · have HV : Hid (cmdOkP m = true) := by show _ = _; rw [HE.out, hi, hp, decide_eq_true hv, Bool.or_true]; rfl
          have hs := k_emp hv
          go_wp2_with fail
          go_ret
          exact ⟨by rw [HV.out]; rfl, bthen hbW hx2⟩
        · have HV : Hid (cmdOkP m = false) := by show _ = _; rw [HE.out, hi, hp, decide_eq_false hk, decide_eq_false hv]; rfl
          have hs := k_nemp hv
          have hkb : (m.fKind == 1) = false := by simp [hk]
          go_wp2_with fail
          go_ret
          exact ⟨by rw [HV.out]; simp [results, Try.results12, go_sem, hkb], bthen hbW hx2⟩
    · have hp2 := Bool.eq_false_iff.2 hp
      have HV : Hid (cmdOkP m = false) := by show _ = _; rw [HE.out, hp2, Bool.and_false, Bool.false_and]
      rw [hp2]
      go_wp2_with fail
      go_ret
      exact ⟨by rw [HV.out]; rfl, bthen hbW hx2⟩
  · have hi2 := Bool.eq_false_iff.2 hi
    have HV : Hid (cmdOkP m = false) := by show _ = _; rw [HE.out, hi2, Bool.false_and, Bool.false_and]
    rw [hi2]
    go_wp2_with fail
    go_ret
    exact ⟨by rw [HV.out]; rfl, hbW⟩

set_option maxHeartbeats 1000000 in
theorem implMeet_any (cs ds : List Value) (a b : MCmd) (w : World) (hr : rCmd w.heap.size w cs a) (hs : rCmd w.heap.size w ds b) :
    Calls Try.prog 16 #[.agg cs.toArray, .agg ds.toArray] w fun e w' => e = .returned (.bool (meetP a b)) ∧ Below w.heap.size w w' := by
  obtain ⟨rfl, h0, h1, h2, _⟩ := hr
  obtain ⟨rfl, g0, g1, g2, _⟩ := hs
  obtain ⟨wq, hwq⟩ : ∃ wq, wq = (w.alloc (.cells #[.int .i64 a.fKind, .string a.fKey, .string a.fVal] 26)).alloc (.cells #[.int .i64 b.fKind, .string b.fKey, .string b.fVal] 26) := ⟨_, rfl⟩
  have hbW : Below w.heap.size w wq := by rw [hwq]; exact ((Below.refl _ _).alloc (Nat.le_refl _) _).alloc (by simp) _
  have hbx : Bx wq w.heap.size [.int .i64 a.fKind, .string a.fKey, .string a.fVal] := by rw [hwq]; exact (Bx.new _ _ _).alloc _
  have hby : Bx wq (w.heap.size + 1) [.int .i64 b.fKind, .string b.fKey, .string b.fVal] := by rw [hwq]; have h := Bx.new (w.alloc (.cells #[.int .i64 a.fKind, .string a.fKey, .string a.fVal] 26)) [.int .i64 b.fKind, .string b.fKey, .string b.fVal] 26; simpa using h
  have y0 := hbx.2 0 _ rfl
  have y1 := hbx.2 1 _ rfl
  have z0 := hby.2 0 _ rfl
  have z1 := hby.2 1 _ rfl
  subst hwq
  cases hk : (a.fKey.toList == b.fKey.toList) with
  | false =>
    have HV : Hid (meetP a b = false) := by show _ = _; unfold meetP; rw [hk, Bool.false_and]
    go_enter Try.func16, Try.ntmps16
    go_wp2_with fail
    go_ret
    exact ⟨by rw [HV.out]; rfl, hbW⟩
  | true =>
    by_cases h3 : a.fKind = 3
    · by_cases g3 : b.fKind = 3
      · have HV : Hid (meetP a b = false) := by show _ = _; unfold meetP; rw [hk, decide_eq_true h3, decide_eq_true g3]; rfl
        go_enter Try.func16, Try.ntmps16
        go_wp2_with fail
        go_ret
        exact ⟨by rw [HV.out]; rfl, (by rw [h3, g3] at hbW; exact hbW)⟩
      · have HV : Hid (meetP a b = true) := by show _ = _; unfold meetP; rw [hk, decide_eq_false g3, Bool.and_false]; rfl
        have hgb : (b.fKind == 3) = false := by simp [g3]
        go_enter Try.func16, Try.ntmps16
        go_wp2_with fail
        go_ret
        exact ⟨by rw [HV.out]; simp [results, Try.results16, go_sem, hgb], (by rw [h3] at hbW; exact hbW)⟩
    · have HV : Hid (meetP a b = true) := by show _ = _; unfold meetP; rw [hk, decide_eq_false h3, Bool.false_and]; rfl
      have hab : (a.fKind == 3) = false := by simp [h3]
      go_enter Try.func16, Try.ntmps16
      go_wp2_with fail
      go_ret
      exact ⟨by rw [HV.out]; simp [results, Try.results16, go_sem, hab], hbW⟩

set_option maxHeartbeats 1000000 in
theorem specMeet_any (cs ds : List Value) (a b : MCmd) (w : World) (hr : rCmd w.heap.size w cs a) (hs : rCmd w.heap.size w ds b) :
    Calls Try.prog 15 #[.agg cs.toArray, .agg ds.toArray] w fun e w' => e = .returned (.bool (meetP a b)) ∧ Below w.heap.size w w' := by
  obtain ⟨rfl, h0, h1, h2, _⟩ := hr
  obtain ⟨rfl, g0, g1, g2, _⟩ := hs
  obtain ⟨wq, hwq⟩ : ∃ wq, wq = (w.alloc (.cells #[.int .i64 a.fKind, .string a.fKey, .string a.fVal] 26)).alloc (.cells #[.int .i64 b.fKind, .string b.fKey, .string b.fVal] 26) := ⟨_, rfl⟩
  have hbW : Below w.heap.size w wq := by rw [hwq]; exact ((Below.refl _ _).alloc (Nat.le_refl _) _).alloc (by simp) _
  have hbx : Bx wq w.heap.size [.int .i64 a.fKind, .string a.fKey, .string a.fVal] := by rw [hwq]; exact (Bx.new _ _ _).alloc _
  have hby : Bx wq (w.heap.size + 1) [.int .i64 b.fKind, .string b.fKey, .string b.fVal] := by rw [hwq]; have h := Bx.new (w.alloc (.cells #[.int .i64 a.fKind, .string a.fKey, .string a.fVal] 26)) [.int .i64 b.fKind, .string b.fKey, .string b.fVal] 26; simpa using h
  have y0 := hbx.2 0 _ rfl
  have y1 := hbx.2 1 _ rfl
  have z0 := hby.2 0 _ rfl
  have z1 := hby.2 1 _ rfl
  subst hwq
  cases hk : (a.fKey.toList == b.fKey.toList) with
  | false =>
    have HV : Hid (meetP a b = false) := by show _ = _; unfold meetP; rw [hk, Bool.false_and]
    go_enter Try.func15, Try.ntmps15
    go_wp2_with fail
    go_ret
    exact ⟨by rw [HV.out]; rfl, hbW⟩
  | true =>
    by_cases h3 : a.fKind = 3
    · by_cases g3 : b.fKind = 3
      · have HV : Hid (meetP a b = false) := by show _ = _; unfold meetP; rw [hk, decide_eq_true h3, decide_eq_true g3]; rfl
        go_enter Try.func15, Try.ntmps15
        go_wp2_with fail
        go_ret
        exact ⟨by rw [HV.out]; rfl, (by rw [h3, g3] at hbW; exact hbW)⟩
      · have HV : Hid (meetP a b = true) := by show _ = _; unfold meetP; rw [hk, decide_eq_false g3, Bool.and_false]; rfl
        have hgb : (b.fKind == 3) = false := by simp [g3]
        go_enter Try.func15, Try.ntmps15
        go_wp2_with fail
        go_ret
        exact ⟨by rw [HV.out]; simp [results, Try.results15, go_sem, hgb], (by rw [h3] at hbW; exact hbW)⟩
    · have HV : Hid (meetP a b = true) := by show _ = _; unfold meetP; rw [hk, decide_eq_false h3, Bool.false_and]; rfl
      have hab : (a.fKind == 3) = false := by simp [h3]
      go_enter Try.func15, Try.ntmps15
      go_wp2_with fail
      go_ret
      exact ⟨by rw [HV.out]; simp [results, Try.results15, go_sem, hab], hbW⟩

end Go.Proofs.Ytnomigomjhhccaa
