/-
  Replicas without lists, in a row: how cells stand for them; the laws find two such rows the same.
-/
import Derived.Test.YtiefmjjhedmkpaaRepQ
import Derived.Test.YtiefmjjhedmkpaaRowG
import Derived.Deep.RegionWith
namespace Go.Proofs.Ytiefmjjhedmkpaa
open Go.RowKit Go.Maps
set_option linter.unusedVariables false
set_option linter.unusedSimpArgs false
set_option maxRecDepth 10000

structure MRn where
  fA : Int
  fB : Int
  fC : Int

def rRn : Rep MRn := fun B w cs m => cs = [.int .i64 m.fA, .int .i64 m.fB, .int .i64 m.fC, .slice none 0 0, .slice none 0 0, .slice none 0 0, .slice none 0 0, .slice none 0 0] ∧ (Lit.int .i64 m.fA).wf = true ∧ (Lit.int .i64 m.fB).wf = true ∧ (Lit.int .i64 m.fC).wf = true ∧ True

theorem rRn_good : rRn.Good :=
  ⟨fun ⟨h, h0, h1, h2, _⟩ hb => ⟨h, h0, h1, h2, trivial⟩, fun ⟨h, h0, h1, h2, _⟩ hB => ⟨h, h0, h1, h2, trivial⟩⟩

def oRn : ORep MRn := fun w cs m F => cs = [.int .i64 m.fA, .int .i64 m.fB, .int .i64 m.fC, .slice none 0 0, .slice none 0 0, .slice none 0 0, .slice none 0 0, .slice none 0 0] ∧ (Lit.int .i64 m.fA).wf = true ∧ (Lit.int .i64 m.fB).wf = true ∧ (Lit.int .i64 m.fC).wf = true ∧ F = []

theorem oRn_good : oRn.Good rRn 8 := by
  refine ⟨?_, ?_, ?_, ?_⟩
  · rintro w w' cs m F ⟨rfl, h0, h1, h2, rfl⟩ hb
    exact ⟨rfl, h0, h1, h2, rfl⟩
  · rintro w cs m F ⟨rfl, h0, h1, h2, rfl⟩ k hk
    cases hk
  · rintro w cs m F ⟨rfl, h0, h1, h2, rfl⟩
    exact ⟨rfl, h0, h1, h2, trivial⟩
  · rintro w cs m F ⟨rfl, h0, h1, h2, rfl⟩
    rfl

set_option maxHeartbeats 400000 in
theorem eqMsgS_nil (w : World) :
    Calls Try.prog 17 #[.slice none 0 0, .slice none 0 0] w fun e w' => e = .returned (.bool true) ∧ w' = w := by
  go_enter Try.func17, Try.ntmps17
  go_wp2
  refine wp_loop_rounds 1 ?_
  rw [rounds_succ]
  go_wp2
  go_ret
  exact ⟨rfl, rfl⟩

set_option maxHeartbeats 400000 in
theorem markMsgS_nil (q : Int) (w : World) :
    Calls Try.prog 20 #[.slice none 0 0, .int .i64 q] w fun e w' => e = .returned (.int .i64 q) ∧ w' = w := by
  go_enter Try.func20, Try.ntmps20
  go_wp2
  refine wp_loop_rounds 1 ?_
  rw [rounds_succ]
  go_wp2
  go_ret
  exact ⟨rfl, rfl⟩

set_option maxHeartbeats 400000 in
theorem heldMsgS_nil (q : Int) (w : World) :
    Calls Try.prog 23 #[.slice none 0 0, .int .i64 q] w fun e w' => e = .returned (.int .i64 q) ∧ w' = w := by
  go_enter Try.func23, Try.ntmps23
  go_wp2
  refine wp_loop_rounds 1 ?_
  rw [rounds_succ]
  go_wp2
  go_ret
  exact ⟨rfl, rfl⟩

set_option maxHeartbeats 400000 in
theorem eqAskedS_nil (w : World) :
    Calls Try.prog 18 #[.slice none 0 0, .slice none 0 0] w fun e w' => e = .returned (.bool true) ∧ w' = w := by
  go_enter Try.func18, Try.ntmps18
  go_wp2
  refine wp_loop_rounds 1 ?_
  rw [rounds_succ]
  go_wp2
  go_ret
  exact ⟨rfl, rfl⟩

set_option maxHeartbeats 400000 in
theorem markAskedS_nil (q : Int) (w : World) :
    Calls Try.prog 21 #[.slice none 0 0, .int .i64 q] w fun e w' => e = .returned (.int .i64 q) ∧ w' = w := by
  go_enter Try.func21, Try.ntmps21
  go_wp2
  refine wp_loop_rounds 1 ?_
  rw [rounds_succ]
  go_wp2
  go_ret
  exact ⟨rfl, rfl⟩

set_option maxHeartbeats 400000 in
theorem heldAskedS_nil (q : Int) (w : World) :
    Calls Try.prog 24 #[.slice none 0 0, .int .i64 q] w fun e w' => e = .returned (.int .i64 q) ∧ w' = w := by
  go_enter Try.func24, Try.ntmps24
  go_wp2
  refine wp_loop_rounds 1 ?_
  rw [rounds_succ]
  go_wp2
  go_ret
  exact ⟨rfl, rfl⟩

set_option maxHeartbeats 400000 in
theorem eqReplicaS_nil (w : World) :
    Calls Try.prog 16 #[.slice none 0 0, .slice none 0 0] w fun e w' => e = .returned (.bool true) ∧ w' = w := by
  go_enter Try.func16, Try.ntmps16
  go_wp2
  refine wp_loop_rounds 1 ?_
  rw [rounds_succ]
  go_wp2
  go_ret
  exact ⟨rfl, rfl⟩

set_option maxHeartbeats 400000 in
theorem markReplicaS_nil (q : Int) (w : World) :
    Calls Try.prog 19 #[.slice none 0 0, .int .i64 q] w fun e w' => e = .returned (.int .i64 q) ∧ w' = w := by
  go_enter Try.func19, Try.ntmps19
  go_wp2
  refine wp_loop_rounds 1 ?_
  rw [rounds_succ]
  go_wp2
  go_ret
  exact ⟨rfl, rfl⟩

set_option maxHeartbeats 400000 in
theorem heldReplicaS_nil (q : Int) (w : World) :
    Calls Try.prog 22 #[.slice none 0 0, .int .i64 q] w fun e w' => e = .returned (.int .i64 q) ∧ w' = w := by
  go_enter Try.func22, Try.ntmps22
  go_wp2
  refine wp_loop_rounds 1 ?_
  rw [rounds_succ]
  go_wp2
  go_ret
  exact ⟨rfl, rfl⟩

set_option maxHeartbeats 2000000 in
theorem eqReplicaS_yes (a b : Option Addr) (n ca cb : Nat) (l : List MRn) (w : World) (hx : l.length = n) (hra : LeafL 8 rRn w.heap.size w a ca l) (hrb : LeafL 8 rRn w.heap.size w b cb l) :
    Calls Try.prog 16 #[.slice a n ca, .slice b n cb] w fun e w' => e = .returned (.bool true) ∧ Below w.heap.size w w' := by
  have hcap : n ≤ 9223372036854775807 := by have h1 := hra.1; have h2 := hra.2.1; omega
  have HX := Hid.mk hx
  clear hx
  replace hra := hra.2.2
  replace hrb := hrb.2.2
  go_enter Try.func16, Try.ntmps16
  go_wp2_with fail
  go_loopw [5] (fun i wr => ∃ k : Nat, k ≤ n ∧ i = .int .i64 k ∧ Below w.heap.size w wr) (fun i _ => n - (intOf i).toNat)
  case atStart => exact ⟨0, Nat.zero_le _, rfl, Below.refl _ _⟩
  case round =>
    obtain ⟨k, hk, rfl, hbk⟩ := hrel
    by_cases hlt : k < n
    · have hkl : k < l.length := by rw [HX.out]; exact hlt
      obtain ⟨bA, oA, rfl, hBA, csA, hlA, hcA, hrA⟩ := (hra.below rRn_good hbk) k hkl
      obtain ⟨bB, oB, rfl, hBB, csB, hlB, hcB, hrB⟩ := (hrb.below rRn_good hbk) k hkl
      generalize l[k] = m at *
      obtain ⟨rfl, h0, h1, h2, _⟩ := hrA
      obtain ⟨rfl, g0, g1, g2, _⟩ := hrB
      have k0 := hcA 0 _ rfl
      have j0 := hcB 0 _ rfl
      have k1 := hcA 1 _ rfl
      have j1 := hcB 1 _ rfl
      have k2 := hcA 2 _ rfl
      have j2 := hcB 2 _ rfl
      have k3 := hcA 3 _ rfl
      have j3 := hcB 3 _ rfl
      have k4 := hcA 4 _ rfl
      have j4 := hcB 4 _ rfl
      have k5 := hcA 5 _ rfl
      have j5 := hcB 5 _ rfl
      have k6 := hcA 6 _ rfl
      have j6 := hcB 6 _ rfl
      have k7 := hcA 7 _ rfl
      have j7 := hcB 7 _ rfl
      rw [Nat.add_zero] at k0 j0
      clear hcA hcB hlA hlB hra hrb
      have HE := Hid.mk (fun W => eqReplica_new m.fA m.fB m.fC W)
      unfold repL at HE
      go_wp2_with fail
      go_region_with (go_at_call 12; refine (HE.out _).mono ?_; rintro e w1 ⟨rfl, hb1⟩)
      all_goals
        have hb2 : Below w.heap.size w w1 := Below.trans hbk (Below.mono (Below.trans (Below.drew (Below.refl _ _)) hb1) hbk.size)
        go_wp2_with fail
        go_roundw
        case rel => exact ⟨k + 1, by omega, by go_num, hb2⟩
        case measure => simp [intOf]; omega
    · go_wp2_with fail
      go_ret
      exact ⟨rfl, hbk⟩

end Go.Proofs.Ytiefmjjhedmkpaa
