/-
  Whether two commands meet: the program and the specification.
-/
import Derived.Test.YtjipinjdfeihjaaRows
import Derived.Test.YtjipinjdfeihjaaKit
import Derived.Test.YtjipinjdfeihjaaDatN
import Derived.Test.YtjipinjdfeihjaaChecked
import Derived.Test.YtjipinjdfeihjaaUDat
namespace Go.Proofs.Ytjipinjdfeihjaa
open Go.RowKit
set_option linter.unusedVariables false
set_option linter.unusedSimpArgs false
set_option maxRecDepth 10000

def meetP (a b : MCmd) : Bool := (a.fKey.toList == b.fKey.toList) && !(decide (a.fKind = 3) && decide (b.fKind = 3))

set_option maxHeartbeats 1000000 in
theorem implMeet_any (cs ds : List Value) (a b : MCmd) (w : World) (hr : rCmd w.heap.size w cs a) (hs : rCmd w.heap.size w ds b) :
    Calls Try.prog 48 #[.agg cs.toArray, .agg ds.toArray] w fun e w' => e = .returned (.bool (meetP a b)) ∧ Below w.heap.size w w' := by
  obtain ⟨rfl, h0, h1, h2, _⟩ := hr
  obtain ⟨rfl, g0, g1, g2, _⟩ := hs
  obtain ⟨wq, hwq⟩ : ∃ wq, wq = (w.alloc (.cells #[.int .i64 a.fKind, .string a.fKey, .string a.fVal] 45)).alloc (.cells #[.int .i64 b.fKind, .string b.fKey, .string b.fVal] 45) := ⟨_, rfl⟩
  have hbW : Below w.heap.size w wq := by rw [hwq]; exact ((Below.refl _ _).alloc (Nat.le_refl _) _).alloc (by simp) _
  have hbx : Bx wq w.heap.size [.int .i64 a.fKind, .string a.fKey, .string a.fVal] := by rw [hwq]; exact (Bx.new _ _ _).alloc _
  have hby : Bx wq (w.heap.size + 1) [.int .i64 b.fKind, .string b.fKey, .string b.fVal] := by rw [hwq]; have h := Bx.new (w.alloc (.cells #[.int .i64 a.fKind, .string a.fKey, .string a.fVal] 45)) [.int .i64 b.fKind, .string b.fKey, .string b.fVal] 45; simpa using h
  have y0 := hbx.2 0 _ rfl
  have y1 := hbx.2 1 _ rfl
  have z0 := hby.2 0 _ rfl
  have z1 := hby.2 1 _ rfl
  subst hwq
  cases hk : (a.fKey.toList == b.fKey.toList) with
  | false =>
    have HV : Hid (meetP a b = false) := by show _ = _; unfold meetP; rw [hk, Bool.false_and]
    go_enter Try.func48, Try.ntmps48
    go_wp2_with fail
    go_ret
    exact ⟨by rw [HV.out]; rfl, hbW⟩
  | true =>
    by_cases h3 : a.fKind = 3
    · by_cases g3 : b.fKind = 3
      · have HV : Hid (meetP a b = false) := by show _ = _; unfold meetP; rw [hk, decide_eq_true h3, decide_eq_true g3]; rfl
        go_enter Try.func48, Try.ntmps48
        go_wp2_with fail
        go_ret
        exact ⟨by rw [HV.out]; rfl, (by rw [h3, g3] at hbW; exact hbW)⟩
      · have HV : Hid (meetP a b = true) := by show _ = _; unfold meetP; rw [hk, decide_eq_false g3, Bool.and_false]; rfl
        have hgb : (b.fKind == 3) = false := by simp [g3]
        go_enter Try.func48, Try.ntmps48
        go_wp2_with fail
        go_ret
        exact ⟨by rw [HV.out]; simp [results, Try.results48, go_sem, hgb], (by rw [h3] at hbW; exact hbW)⟩
    · have HV : Hid (meetP a b = true) := by show _ = _; unfold meetP; rw [hk, decide_eq_false h3, Bool.false_and]; rfl
      have hab : (a.fKind == 3) = false := by simp [h3]
      go_enter Try.func48, Try.ntmps48
      go_wp2_with fail
      go_ret
      exact ⟨by rw [HV.out]; simp [results, Try.results48, go_sem, hab], hbW⟩

set_option maxHeartbeats 1000000 in
theorem specMeet_any (cs ds : List Value) (a b : MCmd) (w : World) (hr : rCmd w.heap.size w cs a) (hs : rCmd w.heap.size w ds b) :
    Calls Try.prog 20 #[.agg cs.toArray, .agg ds.toArray] w fun e w' => e = .returned (.bool (meetP a b)) ∧ Below w.heap.size w w' := by
  obtain ⟨rfl, h0, h1, h2, _⟩ := hr
  obtain ⟨rfl, g0, g1, g2, _⟩ := hs
  obtain ⟨wq, hwq⟩ : ∃ wq, wq = (w.alloc (.cells #[.int .i64 a.fKind, .string a.fKey, .string a.fVal] 45)).alloc (.cells #[.int .i64 b.fKind, .string b.fKey, .string b.fVal] 45) := ⟨_, rfl⟩
  have hbW : Below w.heap.size w wq := by rw [hwq]; exact ((Below.refl _ _).alloc (Nat.le_refl _) _).alloc (by simp) _
  have hbx : Bx wq w.heap.size [.int .i64 a.fKind, .string a.fKey, .string a.fVal] := by rw [hwq]; exact (Bx.new _ _ _).alloc _
  have hby : Bx wq (w.heap.size + 1) [.int .i64 b.fKind, .string b.fKey, .string b.fVal] := by rw [hwq]; have h := Bx.new (w.alloc (.cells #[.int .i64 a.fKind, .string a.fKey, .string a.fVal] 45)) [.int .i64 b.fKind, .string b.fKey, .string b.fVal] 45; simpa using h
  have y0 := hbx.2 0 _ rfl
  have y1 := hbx.2 1 _ rfl
  have z0 := hby.2 0 _ rfl
  have z1 := hby.2 1 _ rfl
  subst hwq
  cases hk : (a.fKey.toList == b.fKey.toList) with
  | false =>
    have HV : Hid (meetP a b = false) := by show _ = _; unfold meetP; rw [hk, Bool.false_and]
    go_enter Try.func20, Try.ntmps20
    go_wp2_with fail
    go_ret
    exact ⟨by rw [HV.out]; rfl, hbW⟩
  | true =>
    by_cases h3 : a.fKind = 3
    · by_cases g3 : b.fKind = 3
      · have HV : Hid (meetP a b = false) := by show _ = _; unfold meetP; rw [hk, decide_eq_true h3, decide_eq_true g3]; rfl
        go_enter Try.func20, Try.ntmps20
        go_wp2_with fail
        go_ret
        exact ⟨by rw [HV.out]; rfl, (by rw [h3, g3] at hbW; exact hbW)⟩
      · have HV : Hid (meetP a b = true) := by show _ = _; unfold meetP; rw [hk, decide_eq_false g3, Bool.and_false]; rfl
        have hgb : (b.fKind == 3) = false := by simp [g3]
        go_enter Try.func20, Try.ntmps20
        go_wp2_with fail
        go_ret
        exact ⟨by rw [HV.out]; simp [results, Try.results20, go_sem, hgb], (by rw [h3] at hbW; exact hbW)⟩
    · have HV : Hid (meetP a b = true) := by show _ = _; unfold meetP; rw [hk, decide_eq_false h3, Bool.false_and]; rfl
      have hab : (a.fKind == 3) = false := by simp [h3]
      go_enter Try.func20, Try.ntmps20
      go_wp2_with fail
      go_ret
      exact ⟨by rw [HV.out]; simp [results, Try.results20, go_sem, hab], hbW⟩

end Go.Proofs.Ytjipinjdfeihjaa
