/-
  A new replica: what both sides answer, and what the laws ask of it.
-/
import Derived.Test.YtiefmjjhedmkpaaDatN
import Derived.Test.YtiefmjjhedmkpaaRows
import Derived.Test.YtiefmjjhedmkpaaKit
import Derived.Test.YtiefmjjhedmkpaaChecked
namespace Go.Proofs.Ytiefmjjhedmkpaa
open Go.RowKit Go.Maps
set_option linter.unusedVariables false
set_option linter.unusedSimpArgs false
set_option maxRecDepth 10000

def inR (x a b : Int) : Bool := decide (a ≤ x ∧ x ≤ b)
set_option maxHeartbeats 400000 in
theorem inR_any (x a b : Int) (w : World) :
    Calls Try.prog 45 #[.int .i64 x, .int .i64 a, .int .i64 b] w fun e w' => e = .returned (.bool (inR x a b)) ∧ w' = w := by
  by_cases h1 : a ≤ x
  · by_cases h2 : x ≤ b
    · have HV : Hid (inR x a b = true) := decide_eq_true ⟨h1, h2⟩
      go_enter Try.func45, Try.ntmps45
      go_wp2
      go_ret
      exact ⟨by rw [HV.out]; rfl, rfl⟩
    · have HV : Hid (inR x a b = false) := decide_eq_false (fun h => h2 h.2)
      go_enter Try.func45, Try.ntmps45
      go_wp2
      go_ret
      exact ⟨by rw [HV.out]; rfl, rfl⟩
  · have HV : Hid (inR x a b = false) := decide_eq_false (fun h => h1 h.1)
    go_enter Try.func45, Try.ntmps45
    go_wp2
    go_ret
    exact ⟨by rw [HV.out]; rfl, rfl⟩

def seatP (id n : Int) : Bool := inR n 1 7 && inR id 1 n
def rnA (id n : Int) : Int := bif seatP id n then id else 0
def rnB (id n : Int) : Int := bif seatP id n then n else 0
def rnC (id n : Int) : Int := bif seatP id n then 1 else 0
def repL (a b c : Int) : List Value := [.int .i64 a, .int .i64 b, .int .i64 c, .slice none 0 0, .slice none 0 0, .slice none 0 0, .slice none 0 0, .slice none 0 0]

set_option maxHeartbeats 400000 in
theorem isOneOf_any (x b : Int) (w : World) :
    Calls Try.prog 41 #[.int .i64 x, .int .i64 b] w fun e w' => e = .returned (.bool (inR x 1 b)) ∧ w' = w := by
  by_cases h1 : 1 ≤ x
  · by_cases h2 : x ≤ b
    · have HV : Hid (inR x 1 b = true) := decide_eq_true ⟨h1, h2⟩
      go_enter Try.func41, Try.ntmps41
      go_wp2
      go_ret
      exact ⟨by rw [HV.out]; rfl, rfl⟩
    · have HV : Hid (inR x 1 b = false) := decide_eq_false (fun h => h2 h.2)
      go_enter Try.func41, Try.ntmps41
      go_wp2
      go_ret
      exact ⟨by rw [HV.out]; rfl, rfl⟩
  · have HV : Hid (inR x 1 b = false) := decide_eq_false (fun h => h1 h.1)
    go_enter Try.func41, Try.ntmps41
    go_wp2
    go_ret
    exact ⟨by rw [HV.out]; rfl, rfl⟩

set_option maxHeartbeats 400000 in
theorem seatOk_any (id n : Int) (w : World) :
    Calls Try.prog 15 #[.int .i64 id, .int .i64 n] w fun e w' => e = .returned (.bool (seatP id n)) ∧ w' = w := by
  go_enter Try.func15, Try.ntmps15
  go_wp2_with fail
  refine (isOneOf_any n 7 w).mono ?_
  rintro e w1 ⟨rfl, hw1⟩
  subst hw1
  by_cases h1 : inR n 1 7 = true
  · have HV : Hid (seatP id n = inR id 1 n) := by show _ = _; unfold seatP; rw [h1, Bool.true_and]
    rw [h1]
    go_wp2_with fail
    refine (isOneOf_any id n w1).mono ?_
    rintro e w2 ⟨rfl, hw2⟩
    subst hw2
    rw [← HV.out]
    go_wp2_with fail
    go_ret
    exact ⟨rfl, rfl⟩
  · have h2 := Bool.eq_false_iff.2 h1
    have HV : Hid (seatP id n = false) := by show _ = _; unfold seatP; rw [h2, Bool.false_and]
    rw [h2]
    go_wp2_with fail
    go_ret
    exact ⟨by rw [HV.out]; rfl, rfl⟩

set_option maxHeartbeats 400000 in
theorem l9Ids_any (id n : Int) (w : World) :
    Calls Try.prog 25 #[.int .i64 id, .int .i64 n] w fun e w' => e = .returned (.bool (seatP id n)) ∧ w' = w := by
  go_enter Try.func25, Try.ntmps25
  go_wp2_with fail
  refine (inR_any n 1 7 w).mono ?_
  rintro e w1 ⟨rfl, hw1⟩
  subst hw1
  by_cases h1 : inR n 1 7 = true
  · have HV : Hid (seatP id n = inR id 1 n) := by show _ = _; unfold seatP; rw [h1, Bool.true_and]
    rw [h1]
    go_wp2_with fail
    refine (inR_any id 1 n w1).mono ?_
    rintro e w2 ⟨rfl, hw2⟩
    subst hw2
    rw [← HV.out]
    go_wp2_with fail
    go_ret
    exact ⟨rfl, rfl⟩
  · have h2 := Bool.eq_false_iff.2 h1
    have HV : Hid (seatP id n = false) := by show _ = _; unfold seatP; rw [h2, Bool.false_and]
    rw [h2]
    go_wp2_with fail
    go_ret
    exact ⟨by rw [HV.out]; rfl, rfl⟩

set_option maxHeartbeats 1000000 in
theorem implReplicaNew_any (id n : Int) (w : World) :
    Calls Try.prog 11 #[.int .i64 id, .int .i64 n] w fun e w' => e = .returned (.agg (repL (rnA id n) (rnB id n) (rnC id n)).toArray) ∧ Below w.heap.size w w' := by
  go_enter Try.func11, Try.ntmps11
  go_wp2_with fail
  refine (seatOk_any id n _).mono ?_
  rintro e w1 ⟨rfl, hw1⟩
  subst hw1
  by_cases hs : seatP id n = true
  · have HA : Hid (rnA id n = id) := by show _ = _; unfold rnA; rw [hs]; rfl
    have HB : Hid (rnB id n = n) := by show _ = _; unfold rnB; rw [hs]; rfl
    have HC : Hid (rnC id n = 1) := by show _ = _; unfold rnC; rw [hs]; rfl
    rw [hs]
    go_wp2_with fail
    refine bodyPost_ret (v := .agg (repL id n 1).toArray) (by simp [results, Try.results11, go_sem, repL]) rfl ⟨by rw [HA.out, HB.out, HC.out], ?_⟩
    exact (Below.refl _ _).alloc (Nat.le_refl _) _
  · have hs2 := Bool.eq_false_iff.2 hs
    have HA : Hid (rnA id n = 0) := by show _ = _; unfold rnA; rw [hs2]; rfl
    have HB : Hid (rnB id n = 0) := by show _ = _; unfold rnB; rw [hs2]; rfl
    have HC : Hid (rnC id n = 0) := by show _ = _; unfold rnC; rw [hs2]; rfl
    rw [hs2]
    go_wp2_with fail
    refine bodyPost_ret (v := .agg (repL 0 0 0).toArray) (by simp [results, Try.results11, go_sem, repL]) rfl ⟨by rw [HA.out, HB.out, HC.out], ?_⟩
    exact (Below.refl _ _).alloc (Nat.le_refl _) _

set_option maxHeartbeats 1000000 in
theorem specReplicaNew_any (id n : Int) (w : World) :
    Calls Try.prog 10 #[.int .i64 id, .int .i64 n] w fun e w' => e = .returned (.agg (repL (rnA id n) (rnB id n) (rnC id n)).toArray) ∧ Below w.heap.size w w' := by
  go_enter Try.func10, Try.ntmps10
  go_wp2_with fail
  refine (l9Ids_any id n _).mono ?_
  rintro e w1 ⟨rfl, hw1⟩
  subst hw1
  by_cases hs : seatP id n = true
  · have HA : Hid (rnA id n = id) := by show _ = _; unfold rnA; rw [hs]; rfl
    have HB : Hid (rnB id n = n) := by show _ = _; unfold rnB; rw [hs]; rfl
    have HC : Hid (rnC id n = 1) := by show _ = _; unfold rnC; rw [hs]; rfl
    rw [hs]
    go_wp2_with fail
    refine bodyPost_ret (v := .agg (repL id n 1).toArray) (by simp [results, Try.results10, go_sem, repL]) rfl ⟨by rw [HA.out, HB.out, HC.out], ?_⟩
    exact (Below.refl _ _).alloc (Nat.le_refl _) _
  · have hs2 := Bool.eq_false_iff.2 hs
    have HA : Hid (rnA id n = 0) := by show _ = _; unfold rnA; rw [hs2]; rfl
    have HB : Hid (rnB id n = 0) := by show _ = _; unfold rnB; rw [hs2]; rfl
    have HC : Hid (rnC id n = 0) := by show _ = _; unfold rnC; rw [hs2]; rfl
    rw [hs2]
    go_wp2_with fail
    refine bodyPost_ret (v := .agg (repL 0 0 0).toArray) (by simp [results, Try.results10, go_sem, repL]) rfl ⟨by rw [HA.out, HB.out, HC.out], ?_⟩
    exact (Below.refl _ _).alloc (Nat.le_refl _) _

set_option maxHeartbeats 400000 in
theorem eqRecS_nil (w : World) :
    Calls Try.prog 26 #[.slice none 0 0, .slice none 0 0] w fun e w' => e = .returned (.bool true) ∧ w' = w := by
  go_enter Try.func26, Try.ntmps26
  go_wp2
  refine wp_loop_rounds 1 ?_
  rw [rounds_succ]
  go_wp2
  go_ret
  exact ⟨rfl, rfl⟩

set_option maxHeartbeats 400000 in
theorem markRecS_nil (q : Int) (w : World) :
    Calls Try.prog 31 #[.slice none 0 0, .int .i64 q] w fun e w' => e = .returned (.int .i64 q) ∧ w' = w := by
  go_enter Try.func31, Try.ntmps31
  go_wp2
  refine wp_loop_rounds 1 ?_
  rw [rounds_succ]
  go_wp2
  go_ret
  exact ⟨rfl, rfl⟩

set_option maxHeartbeats 400000 in
theorem heldRecS_nil (q : Int) (w : World) :
    Calls Try.prog 36 #[.slice none 0 0, .int .i64 q] w fun e w' => e = .returned (.int .i64 q) ∧ w' = w := by
  go_enter Try.func36, Try.ntmps36
  go_wp2
  refine wp_loop_rounds 1 ?_
  rw [rounds_succ]
  go_wp2
  go_ret
  exact ⟨rfl, rfl⟩

set_option maxHeartbeats 400000 in
theorem eqAckS_nil (w : World) :
    Calls Try.prog 27 #[.slice none 0 0, .slice none 0 0] w fun e w' => e = .returned (.bool true) ∧ w' = w := by
  go_enter Try.func27, Try.ntmps27
  go_wp2
  refine wp_loop_rounds 1 ?_
  rw [rounds_succ]
  go_wp2
  go_ret
  exact ⟨rfl, rfl⟩

set_option maxHeartbeats 400000 in
theorem markAckS_nil (q : Int) (w : World) :
    Calls Try.prog 32 #[.slice none 0 0, .int .i64 q] w fun e w' => e = .returned (.int .i64 q) ∧ w' = w := by
  go_enter Try.func32, Try.ntmps32
  go_wp2
  refine wp_loop_rounds 1 ?_
  rw [rounds_succ]
  go_wp2
  go_ret
  exact ⟨rfl, rfl⟩

set_option maxHeartbeats 400000 in
theorem heldAckS_nil (q : Int) (w : World) :
    Calls Try.prog 37 #[.slice none 0 0, .int .i64 q] w fun e w' => e = .returned (.int .i64 q) ∧ w' = w := by
  go_enter Try.func37, Try.ntmps37
  go_wp2
  refine wp_loop_rounds 1 ?_
  rw [rounds_succ]
  go_wp2
  go_ret
  exact ⟨rfl, rfl⟩

set_option maxHeartbeats 400000 in
theorem eqDotS_nil (w : World) :
    Calls Try.prog 28 #[.slice none 0 0, .slice none 0 0] w fun e w' => e = .returned (.bool true) ∧ w' = w := by
  go_enter Try.func28, Try.ntmps28
  go_wp2
  refine wp_loop_rounds 1 ?_
  rw [rounds_succ]
  go_wp2
  go_ret
  exact ⟨rfl, rfl⟩

set_option maxHeartbeats 400000 in
theorem markDotS_nil (q : Int) (w : World) :
    Calls Try.prog 33 #[.slice none 0 0, .int .i64 q] w fun e w' => e = .returned (.int .i64 q) ∧ w' = w := by
  go_enter Try.func33, Try.ntmps33
  go_wp2
  refine wp_loop_rounds 1 ?_
  rw [rounds_succ]
  go_wp2
  go_ret
  exact ⟨rfl, rfl⟩

set_option maxHeartbeats 400000 in
theorem heldDotS_nil (q : Int) (w : World) :
    Calls Try.prog 38 #[.slice none 0 0, .int .i64 q] w fun e w' => e = .returned (.int .i64 q) ∧ w' = w := by
  go_enter Try.func38, Try.ntmps38
  go_wp2
  refine wp_loop_rounds 1 ?_
  rw [rounds_succ]
  go_wp2
  go_ret
  exact ⟨rfl, rfl⟩

set_option maxHeartbeats 400000 in
theorem eqPairS_nil (w : World) :
    Calls Try.prog 29 #[.slice none 0 0, .slice none 0 0] w fun e w' => e = .returned (.bool true) ∧ w' = w := by
  go_enter Try.func29, Try.ntmps29
  go_wp2
  refine wp_loop_rounds 1 ?_
  rw [rounds_succ]
  go_wp2
  go_ret
  exact ⟨rfl, rfl⟩

set_option maxHeartbeats 400000 in
theorem markPairS_nil (q : Int) (w : World) :
    Calls Try.prog 34 #[.slice none 0 0, .int .i64 q] w fun e w' => e = .returned (.int .i64 q) ∧ w' = w := by
  go_enter Try.func34, Try.ntmps34
  go_wp2
  refine wp_loop_rounds 1 ?_
  rw [rounds_succ]
  go_wp2
  go_ret
  exact ⟨rfl, rfl⟩

set_option maxHeartbeats 400000 in
theorem heldPairS_nil (q : Int) (w : World) :
    Calls Try.prog 39 #[.slice none 0 0, .int .i64 q] w fun e w' => e = .returned (.int .i64 q) ∧ w' = w := by
  go_enter Try.func39, Try.ntmps39
  go_wp2
  refine wp_loop_rounds 1 ?_
  rw [rounds_succ]
  go_wp2
  go_ret
  exact ⟨rfl, rfl⟩

set_option maxHeartbeats 400000 in
theorem eqAnswerS_nil (w : World) :
    Calls Try.prog 30 #[.slice none 0 0, .slice none 0 0] w fun e w' => e = .returned (.bool true) ∧ w' = w := by
  go_enter Try.func30, Try.ntmps30
  go_wp2
  refine wp_loop_rounds 1 ?_
  rw [rounds_succ]
  go_wp2
  go_ret
  exact ⟨rfl, rfl⟩

set_option maxHeartbeats 400000 in
theorem markAnswerS_nil (q : Int) (w : World) :
    Calls Try.prog 35 #[.slice none 0 0, .int .i64 q] w fun e w' => e = .returned (.int .i64 q) ∧ w' = w := by
  go_enter Try.func35, Try.ntmps35
  go_wp2
  refine wp_loop_rounds 1 ?_
  rw [rounds_succ]
  go_wp2
  go_ret
  exact ⟨rfl, rfl⟩

set_option maxHeartbeats 400000 in
theorem heldAnswerS_nil (q : Int) (w : World) :
    Calls Try.prog 40 #[.slice none 0 0, .int .i64 q] w fun e w' => e = .returned (.int .i64 q) ∧ w' = w := by
  go_enter Try.func40, Try.ntmps40
  go_wp2
  refine wp_loop_rounds 1 ?_
  rw [rounds_succ]
  go_wp2
  go_ret
  exact ⟨rfl, rfl⟩

set_option maxHeartbeats 4000000 in
theorem eqReplica_new (a b c : Int) (w : World) :
    Calls Try.prog 12 #[.agg (repL a b c).toArray, .agg (repL a b c).toArray] w fun e w' => e = .returned (.bool true) ∧ Below w.heap.size w w' := by
  unfold repL
  obtain ⟨wq, hwq⟩ : ∃ wq, wq = (w.alloc (.cells #[.int .i64 a, .int .i64 b, .int .i64 c, .slice none 0 0, .slice none 0 0, .slice none 0 0, .slice none 0 0, .slice none 0 0] 37)).alloc (.cells #[.int .i64 a, .int .i64 b, .int .i64 c, .slice none 0 0, .slice none 0 0, .slice none 0 0, .slice none 0 0, .slice none 0 0] 37) := ⟨_, rfl⟩
  have hbW : Below w.heap.size w wq := by rw [hwq]; exact ((Below.refl _ _).alloc (Nat.le_refl _) _).alloc (by simp) _
  have hbx : Bx wq w.heap.size [.int .i64 a, .int .i64 b, .int .i64 c, .slice none 0 0, .slice none 0 0, .slice none 0 0, .slice none 0 0, .slice none 0 0] := by rw [hwq]; exact (Bx.new _ _ _).alloc _
  have hby : Bx wq (w.heap.size + 1) [.int .i64 a, .int .i64 b, .int .i64 c, .slice none 0 0, .slice none 0 0, .slice none 0 0, .slice none 0 0, .slice none 0 0] := by rw [hwq]; have h := Bx.new (w.alloc (.cells #[.int .i64 a, .int .i64 b, .int .i64 c, .slice none 0 0, .slice none 0 0, .slice none 0 0, .slice none 0 0, .slice none 0 0] 37)) [.int .i64 a, .int .i64 b, .int .i64 c, .slice none 0 0, .slice none 0 0, .slice none 0 0, .slice none 0 0, .slice none 0 0] 37; simpa using h
  have y0 := hbx.2 0 _ rfl
  have z0 := hby.2 0 _ rfl
  have y1 := hbx.2 1 _ rfl
  have z1 := hby.2 1 _ rfl
  have y2 := hbx.2 2 _ rfl
  have z2 := hby.2 2 _ rfl
  have y3 := hbx.2 3 _ rfl
  have z3 := hby.2 3 _ rfl
  have y4 := hbx.2 4 _ rfl
  have z4 := hby.2 4 _ rfl
  have y5 := hbx.2 5 _ rfl
  have z5 := hby.2 5 _ rfl
  have y6 := hbx.2 6 _ rfl
  have z6 := hby.2 6 _ rfl
  have y7 := hbx.2 7 _ rfl
  have z7 := hby.2 7 _ rfl
  go_enter Try.func12, Try.ntmps12
  subst hwq
  go_wp2_with fail
  refine (eqRecS_nil _).mono ?_
  rintro e w1 ⟨rfl, hw1⟩
  subst hw1
  go_wp2_with fail
  refine (eqAckS_nil _).mono ?_
  rintro e w1 ⟨rfl, hw1⟩
  subst hw1
  go_wp2_with fail
  refine (eqDotS_nil _).mono ?_
  rintro e w1 ⟨rfl, hw1⟩
  subst hw1
  go_wp2_with fail
  refine (eqPairS_nil _).mono ?_
  rintro e w1 ⟨rfl, hw1⟩
  subst hw1
  go_wp2_with fail
  refine (eqAnswerS_nil _).mono ?_
  rintro e w1 ⟨rfl, hw1⟩
  subst hw1
  go_wp2_with fail
  go_ret
  exact ⟨rfl, hbW⟩

set_option maxHeartbeats 4000000 in
theorem markReplica_new (a b c q : Int) (w : World) (hq : 0 ≤ q) :
    Calls Try.prog 13 #[.agg (repL a b c).toArray, .int .i64 q] w fun e w' => e = .returned (.int .i64 q) ∧ Below w.heap.size w w' := by
  unfold repL
  obtain ⟨wq, hwq⟩ : ∃ wq, wq = w.alloc (.cells #[.int .i64 a, .int .i64 b, .int .i64 c, .slice none 0 0, .slice none 0 0, .slice none 0 0, .slice none 0 0, .slice none 0 0] 37) := ⟨_, rfl⟩
  have hbW : Below w.heap.size w wq := by rw [hwq]; exact (Below.refl _ _).alloc (Nat.le_refl _) _
  have hbx : Bx wq w.heap.size [.int .i64 a, .int .i64 b, .int .i64 c, .slice none 0 0, .slice none 0 0, .slice none 0 0, .slice none 0 0, .slice none 0 0] := by rw [hwq]; exact Bx.new _ _ _
  have y0 := hbx.2 0 _ rfl
  have y1 := hbx.2 1 _ rfl
  have y2 := hbx.2 2 _ rfl
  have y3 := hbx.2 3 _ rfl
  have y4 := hbx.2 4 _ rfl
  have y5 := hbx.2 5 _ rfl
  have y6 := hbx.2 6 _ rfl
  have y7 := hbx.2 7 _ rfl
  go_enter Try.func13, Try.ntmps13
  subst hwq
  go_wp2_with fail
  refine (markRecS_nil q _).mono ?_
  rintro e w1 ⟨rfl, hw1⟩
  subst hw1
  go_wp2_with fail
  refine (markAckS_nil q _).mono ?_
  rintro e w1 ⟨rfl, hw1⟩
  subst hw1
  go_wp2_with fail
  refine (markDotS_nil q _).mono ?_
  rintro e w1 ⟨rfl, hw1⟩
  subst hw1
  go_wp2_with fail
  refine (markPairS_nil q _).mono ?_
  rintro e w1 ⟨rfl, hw1⟩
  subst hw1
  go_wp2_with fail
  refine (markAnswerS_nil q _).mono ?_
  rintro e w1 ⟨rfl, hw1⟩
  subst hw1
  go_wp2_with fail
  go_ret
  exact ⟨rfl, hbW⟩

set_option maxHeartbeats 4000000 in
theorem heldReplica_new (a b c q : Int) (w : World) (hq : 0 ≤ q) :
    Calls Try.prog 14 #[.agg (repL a b c).toArray, .int .i64 q] w fun e w' => e = .returned (.int .i64 q) ∧ Below w.heap.size w w' := by
  unfold repL
  obtain ⟨wq, hwq⟩ : ∃ wq, wq = w.alloc (.cells #[.int .i64 a, .int .i64 b, .int .i64 c, .slice none 0 0, .slice none 0 0, .slice none 0 0, .slice none 0 0, .slice none 0 0] 37) := ⟨_, rfl⟩
  have hbW : Below w.heap.size w wq := by rw [hwq]; exact (Below.refl _ _).alloc (Nat.le_refl _) _
  have hbx : Bx wq w.heap.size [.int .i64 a, .int .i64 b, .int .i64 c, .slice none 0 0, .slice none 0 0, .slice none 0 0, .slice none 0 0, .slice none 0 0] := by rw [hwq]; exact Bx.new _ _ _
  have y0 := hbx.2 0 _ rfl
  have y1 := hbx.2 1 _ rfl
  have y2 := hbx.2 2 _ rfl
  have y3 := hbx.2 3 _ rfl
  have y4 := hbx.2 4 _ rfl
  have y5 := hbx.2 5 _ rfl
  have y6 := hbx.2 6 _ rfl
  have y7 := hbx.2 7 _ rfl
  go_enter Try.func14, Try.ntmps14
  subst hwq
  go_wp2_with fail
  refine (heldRecS_nil q _).mono ?_
  rintro e w1 ⟨rfl, hw1⟩
  subst hw1
  go_wp2_with fail
  refine (heldAckS_nil q _).mono ?_
  rintro e w1 ⟨rfl, hw1⟩
  subst hw1
  go_wp2_with fail
  refine (heldDotS_nil q _).mono ?_
  rintro e w1 ⟨rfl, hw1⟩
  subst hw1
  go_wp2_with fail
  refine (heldPairS_nil q _).mono ?_
  rintro e w1 ⟨rfl, hw1⟩
  subst hw1
  go_wp2_with fail
  refine (heldAnswerS_nil q _).mono ?_
  rintro e w1 ⟨rfl, hw1⟩
  subst hw1
  go_wp2_with fail
  go_ret
  exact ⟨rfl, hbW⟩

end Go.Proofs.Ytiefmjjhedmkpaa
