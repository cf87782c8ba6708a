/-
  Whether a pair is right: what both sides say.
-/
import Derived.Test.YtadadkookbkkoaaDoorMemP
import Derived.Test.YtadadkookbkkoaaDoorDatN
import Derived.Test.YtadadkookbkkoaaDoorChecked
namespace Go.Proofs.YtadadkookbkkoaaDoor
open Go.RowKit Go.Maps
set_option linter.unusedVariables false
set_option linter.unusedSimpArgs false
set_option maxRecDepth 10000

set_option maxHeartbeats 400000 in
theorem inR_any (x a b : Int) (w : World) :
    Calls Tryd.prog 36 #[.int .i64 x, .int .i64 a, .int .i64 b] w fun e w' => e = .returned (.bool (inR x a b)) ∧ w' = w := by
  by_cases h1 : a ≤ x
  · by_cases h2 : x ≤ b
    · have HV : Hid (inR x a b = true) := decide_eq_true ⟨h1, h2⟩
      go_enter Tryd.func36, Tryd.ntmps36
      go_wp2
      go_ret
      exact ⟨by rw [HV.out]; rfl, rfl⟩
    · have HV : Hid (inR x a b = false) := decide_eq_false (fun h => h2 h.2)
      go_enter Tryd.func36, Tryd.ntmps36
      go_wp2
      go_ret
      exact ⟨by rw [HV.out]; rfl, rfl⟩
  · have HV : Hid (inR x a b = false) := decide_eq_false (fun h => h1 h.1)
    go_enter Tryd.func36, Tryd.ntmps36
    go_wp2
    go_ret
    exact ⟨by rw [HV.out]; rfl, rfl⟩

set_option maxHeartbeats 400000 in
theorem keyOk_any (s : ByteArray) (w : World) (hs : s.size ≤ 9223372036854775807) :
    Calls Tryd.prog 39 #[.string s] w fun e w' => e = .returned (.bool (keyOkP s)) ∧ w' = w := by
  by_cases h0 : s.size = 0
  · have HV : Hid (keyOkP s = false) := decide_eq_false (fun h => by omega)
    have he := k_emp h0
    go_enter Tryd.func39, Tryd.ntmps39
    go_wp2
    go_ret
    exact ⟨by rw [HV.out]; rfl, rfl⟩
  · have he := k_nemp h0
    by_cases h1 : s.size ≤ 20
    · have HV : Hid (keyOkP s = true) := decide_eq_true ⟨by omega, h1⟩
      have h2 : (s.size : Int) ≤ 20 := by omega
      go_enter Tryd.func39, Tryd.ntmps39
      go_wp2
      go_ret
      exact ⟨by rw [HV.out]; rfl, rfl⟩
    · have HV : Hid (keyOkP s = false) := decide_eq_false (fun h => by omega)
      have h2 : ¬ (s.size : Int) ≤ 20 := by omega
      go_enter Tryd.func39, Tryd.ntmps39
      go_wp2
      go_ret
      exact ⟨by rw [HV.out]; rfl, rfl⟩

set_option maxHeartbeats 1000000 in
theorem implPairOk_c (cs : List Value) (m : MPair) (w : World) (hr : rPair w.heap.size w cs m) (hw : wPair m ≤ 1048576) :
    Calls Tryd.prog 13 #[.agg cs.toArray] w fun e w' => e = .returned (.bool (pairOkP m)) ∧ Below w.heap.size w w' := by
  obtain ⟨rfl, h0, h1, h2, _⟩ := hr
  have hbA := (Below.refl w.heap.size w).alloc (Nat.le_refl _) (.cells #[.string m.fKey, .string m.fVal, .bool m.fGone] 28)
  have HV : Hid (pairOkP m = (keyOkP m.fKey && decide (m.fVal.size ≤ 20) && (!m.fGone || decide (m.fVal.size = 0)))) := rfl
  have hbx := Bx.new w [.string m.fKey, .string m.fVal, .bool m.fGone] 28
  have y0 := hbx.2 0 _ rfl
  have y1 := hbx.2 1 _ rfl
  have y2 := hbx.2 2 _ rfl
  go_enter Tryd.func13, Tryd.ntmps13
  go_wp2_with fail
  refine (keyOk_any m.fKey _ h0).mono ?_
  rintro e w1 ⟨rfl, hw1⟩
  subst hw1
  by_cases hk : keyOkP m.fKey = true
  · rw [hk]
    by_cases hv : m.fVal.size ≤ 20
    · have hv2 : (m.fVal.size : Int) ≤ 20 := by omega
      have HV2 : Hid (pairOkP m = (!m.fGone || decide (m.fVal.size = 0))) := by show _ = _; rw [HV.out, hk, decide_eq_true hv]; rfl
      by_cases hg : m.fGone = true
      · rw [hg] at HV2 y2 hbA
        by_cases he : m.fVal.size = 0
        · have HV3 : Hid (pairOkP m = true) := by show _ = _; rw [HV2.out, decide_eq_true he]; rfl
          have hs := k_emp he
          rw [hg]
          clear hg
          go_wp2_with fail
          go_ret
          exact ⟨by rw [HV3.out]; rfl, hbA⟩
        · have HV3 : Hid (pairOkP m = false) := by show _ = _; rw [HV2.out, decide_eq_false he]; rfl
          have hs := k_nemp he
          rw [hg]
          clear hg
          go_wp2_with fail
          go_ret
          exact ⟨by rw [HV3.out]; rfl, hbA⟩
      · have hg2 : m.fGone = false := Bool.eq_false_iff.2 hg
        have HV3 : Hid (pairOkP m = true) := by show _ = _; rw [HV2.out, hg2]; rfl
        rw [hg2]
        rw [hg2] at hbA
        clear hg hg2
        go_wp2_with fail
        go_ret
        exact ⟨by rw [HV3.out]; rfl, hbA⟩
    · have hv2 : ¬ (m.fVal.size : Int) ≤ 20 := by omega
      have HV3 : Hid (pairOkP m = false) := by show _ = _; rw [HV.out, decide_eq_false hv, Bool.and_false, Bool.false_and]
      go_wp2_with fail
      go_ret
      exact ⟨by rw [HV3.out]; rfl, hbA⟩
  · have hk2 : keyOkP m.fKey = false := Bool.eq_false_iff.2 hk
    have HV3 : Hid (pairOkP m = false) := by show _ = _; rw [HV.out, hk2, Bool.false_and, Bool.false_and]
    rw [hk2]
    go_wp2_with fail
    go_ret
    exact ⟨by rw [HV3.out]; rfl, hbA⟩

set_option maxHeartbeats 1000000 in
theorem specPairOk_c (cs : List Value) (m : MPair) (w : World) (hr : rPair w.heap.size w cs m) (hw : wPair m ≤ 1048576) :
    Calls Tryd.prog 35 #[.agg cs.toArray] w fun e w' => e = .returned (.bool (pairOkP m)) ∧ Below w.heap.size w w' := by
  obtain ⟨rfl, h0, h1, h2, _⟩ := hr
  have hbA := (Below.refl w.heap.size w).alloc (Nat.le_refl _) (.cells #[.string m.fKey, .string m.fVal, .bool m.fGone] 28)
  have HV : Hid (pairOkP m = (keyOkP m.fKey && decide (m.fVal.size ≤ 20) && (!m.fGone || decide (m.fVal.size = 0)))) := rfl
  have hbx := Bx.new w [.string m.fKey, .string m.fVal, .bool m.fGone] 28
  have y0 := hbx.2 0 _ rfl
  have y1 := hbx.2 1 _ rfl
  have y2 := hbx.2 2 _ rfl
  go_enter Tryd.func35, Tryd.ntmps35
  go_wp2_with fail
  refine (inR_any _ _ _ _).mono ?_
  rintro e w1 ⟨rfl, hw1⟩
  subst hw1
  have hin : inR (m.fKey.size : Int) 1 20 = keyOkP m.fKey := by unfold inR keyOkP; congr 1; exact propext ⟨fun h => by omega, fun h => by omega⟩
  rw [hin]
  clear hin
  by_cases hk : keyOkP m.fKey = true
  · rw [hk]
    by_cases hv : m.fVal.size ≤ 20
    · have hv2 : (m.fVal.size : Int) ≤ 20 := by omega
      have HV2 : Hid (pairOkP m = (!m.fGone || decide (m.fVal.size = 0))) := by show _ = _; rw [HV.out, hk, decide_eq_true hv]; rfl
      by_cases hg : m.fGone = true
      · rw [hg] at HV2 y2 hbA
        by_cases he : m.fVal.size = 0
        · have HV3 : Hid (pairOkP m = true) := by show _ = _; rw [HV2.out, decide_eq_true he]; rfl
          have hs := k_emp he
          rw [hg]
          clear hg
          go_wp2_with fail
          go_ret
          exact ⟨by rw [HV3.out]; rfl, hbA⟩
        · have HV3 : Hid (pairOkP m = false) := by show _ = _; rw [HV2.out, decide_eq_false he]; rfl
          have hs := k_nemp he
          rw [hg]
          clear hg
          go_wp2_with fail
          go_ret
          exact ⟨by rw [HV3.out]; rfl, hbA⟩
      · have hg2 : m.fGone = false := Bool.eq_false_iff.2 hg
        have HV3 : Hid (pairOkP m = true) := by show _ = _; rw [HV2.out, hg2]; rfl
        rw [hg2]
        rw [hg2] at hbA
        clear hg hg2
        go_wp2_with fail
        go_ret
        exact ⟨by rw [HV3.out]; rfl, hbA⟩
    · have hv2 : ¬ (m.fVal.size : Int) ≤ 20 := by omega
      have HV3 : Hid (pairOkP m = false) := by show _ = _; rw [HV.out, decide_eq_false hv, Bool.and_false, Bool.false_and]
      go_wp2_with fail
      go_ret
      exact ⟨by rw [HV3.out]; rfl, hbA⟩
  · have hk2 : keyOkP m.fKey = false := Bool.eq_false_iff.2 hk
    have HV3 : Hid (pairOkP m = false) := by show _ = _; rw [HV.out, hk2, Bool.false_and, Bool.false_and]
    rw [hk2]
    go_wp2_with fail
    go_ret
    exact ⟨by rw [HV3.out]; rfl, hbA⟩

end Go.Proofs.YtadadkookbkkoaaDoor
