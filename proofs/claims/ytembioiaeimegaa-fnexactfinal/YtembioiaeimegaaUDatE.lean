/-
  The laws compare: two that stand for the same are found the same.
-/
import Derived.Test.YtembioiaeimegaaRows
import Derived.Test.YtembioiaeimegaaKit
import Derived.Test.YtembioiaeimegaaDatN
import Derived.Test.YtembioiaeimegaaChecked
import Derived.Test.YtembioiaeimegaaUDatZ
import Derived.Deep.RegionWith
namespace Go.Proofs.Ytembioiaeimegaa
open Go.RowKit
set_option linter.unusedVariables false

set_option maxHeartbeats 1000000 in
theorem eqDot_yes (cs1 cs2 : List Value) (m : MDot) (w : World) (hr1 : rDot w.heap.size w cs1 m) (hr2 : rDot w.heap.size w cs2 m) (hsz : wDot m ≤ 1099511627776) :
    Calls Try.prog 59 #[.agg cs1.toArray, .agg cs2.toArray] w fun e w' => e = .returned (.bool true) ∧ Below w.heap.size w w' := by
  obtain ⟨rfl, h0, h1, _⟩ := hr1
  obtain ⟨rfl, g0, g1, _⟩ := hr2
  have hsz' : 0 ≤ 1099511627776 := hsz
  clear hsz
  have hbA : ∀ o1 o2, Below w.heap.size w ((w.alloc o1).alloc o2) := fun o1 o2 => ((Below.refl _ _).alloc (Nat.le_refl _) o1).alloc (by simp) o2
  go_enter Try.func59, Try.ntmps59
  go_wp2_with fail
  go_ret
  exact ⟨rfl, (hbA _ _)⟩

set_option maxHeartbeats 1000000 in
theorem eqDotS_yes (a b : Option Addr) (n ca cb : Nat) (l : List MDot) (w : World) (hx : l.length = n) (hra : LeafL 2 rDot w.heap.size w a ca l) (hrb : LeafL 2 rDot w.heap.size w b cb l) (hsz : n + sumW wDot l ≤ 1099511627776) :
    Calls Try.prog 57 #[.slice a n ca, .slice b n cb] w fun e w' => e = .returned (.bool true) ∧ Below w.heap.size w w' := by
  have HX := Hid.mk hx
  clear hx
  replace hra := hra.2.2
  replace hrb := hrb.2.2
  go_enter Try.func57, Try.ntmps57
  go_wp2_with fail
  go_loopw [5] (fun i wr => ∃ k : Nat, k ≤ n ∧ i = .int .i64 k ∧ Below w.heap.size w wr) (fun i _ => n - (intOf i).toNat)
  case atStart => exact ⟨0, Nat.zero_le _, rfl, Below.refl _ _⟩
  case round =>
    obtain ⟨k, hk, rfl, hbk⟩ := hrel
    by_cases hlt : k < n
    · have hkl : k < l.length := by rw [HX.out]; exact hlt
      have hwk := sumW_le (f := wDot) hkl
      obtain ⟨bA, oA, rfl, hBA, csA, hlA, hcA, hrA⟩ := (hra.below rDot_good hbk) k hkl
      obtain ⟨bB, oB, rfl, hBB, csB, hlB, hcB, hrB⟩ := (hrb.below rDot_good hbk) k hkl
      have hrA' := rDot_good.mono hrA hbk.size
      have hrB' := rDot_good.mono hrB hbk.size
      generalize l[k] = m at *
      obtain ⟨rfl, h0, h1, _⟩ := hrA
      obtain ⟨rfl, g0, g1, _⟩ := hrB
      have k0 := hcA 0 _ rfl
      have j0 := hcB 0 _ rfl
      have k1 := hcA 1 _ rfl
      have j1 := hcB 1 _ rfl
      rw [Nat.add_zero] at k0 j0
      have hm : wDot m ≤ 1099511627776 := by omega
      clear hcA hcB hlA hlB hra hrb hwk
      go_wp2_with fail
      go_region_with (go_at_call 59; refine (eqDot_yes _ _ m _ (by exact hrA') (by exact hrB') hm).mono ?_; rintro e w1 ⟨rfl, hb1⟩)
      all_goals
        have hb2 : Below w.heap.size w w1 := Below.trans hbk (Below.mono (Below.trans (Below.drew (Below.refl _ _)) hb1) hbk.size)
        go_wp2_with fail
        go_roundw
        case rel => exact ⟨k + 1, by omega, by go_num, hb2⟩
        case measure => simp [intOf]; omega
    · go_wp2_with fail
      go_ret
      exact ⟨rfl, hbk⟩

set_option maxHeartbeats 1000000 in
theorem eqCmd_yes (cs1 cs2 : List Value) (m : MCmd) (w : World) (hr1 : rCmd w.heap.size w cs1 m) (hr2 : rCmd w.heap.size w cs2 m) (hsz : wCmd m ≤ 1099511627776) :
    Calls Try.prog 60 #[.agg cs1.toArray, .agg cs2.toArray] w fun e w' => e = .returned (.bool true) ∧ Below w.heap.size w w' := by
  obtain ⟨rfl, h0, h1, h2, _⟩ := hr1
  obtain ⟨rfl, g0, g1, g2, _⟩ := hr2
  have hsz' : m.fKey.size + m.fVal.size ≤ 1099511627776 := hsz
  clear hsz
  have hbA : ∀ o1 o2, Below w.heap.size w ((w.alloc o1).alloc o2) := fun o1 o2 => ((Below.refl _ _).alloc (Nat.le_refl _) o1).alloc (by simp) o2
  go_enter Try.func60, Try.ntmps60
  go_wp2_with fail
  go_ret
  exact ⟨rfl, (hbA _ _)⟩

set_option maxHeartbeats 1000000 in
theorem eqRec_yes (cs1 cs2 : List Value) (m : MRec) (w : World) (hr1 : rRec w.heap.size w cs1 m) (hr2 : rRec w.heap.size w cs2 m) (hsz : wRec m ≤ 1099511627776) :
    Calls Try.prog 68 #[.agg cs1.toArray, .agg cs2.toArray] w fun e w' => e = .returned (.bool true) ∧ Below w.heap.size w w' := by
  obtain ⟨a5, c5, rfl, h0, h1, h2, h3, h4, h5, h6, _⟩ := hr1
  obtain ⟨b5, d5, rfl, g0, g1, g2, g3, g4, g5, g6, _⟩ := hr2
  have hsz' : m.fC.fKey.size + m.fC.fVal.size + (m.fDeps.length + sumW wDot m.fDeps) ≤ 1099511627776 := hsz
  clear hsz
  have hbA : ∀ o1 o2, Below w.heap.size w ((w.alloc o1).alloc o2) := fun o1 o2 => ((Below.refl _ _).alloc (Nat.le_refl _) o1).alloc (by simp) o2
  go_enter Try.func68, Try.ntmps68
  have hC1 := fun (W : World) (hb : Below w.heap.size w W) => eqDot_yes [.int .i64 m.fD.fR, .int .i64 m.fD.fN] [.int .i64 m.fD.fR, .int .i64 m.fD.fN] m.fD W ⟨rfl, h0, h1, trivial⟩ ⟨rfl, g0, g1, trivial⟩ (by have h : wDot m.fD = 0 := rfl; omega)
  go_wp2_with fail
  refine Calls.mono (hC1 _ ?_) ?_
  · exact (hbA _ _)
  rintro e w1 ⟨rfl, hx1⟩
  obtain ⟨hc1, hf1⟩ := bcell hx1
  have hz1 : w.heap.size + 1 + 1 ≤ w1.heap.size := by have h := hx1.size; first | omega | (simp at h; omega)
  have hy1a : w.heap.size < w1.heap.size := by omega
  have hy1b : w.heap.size + 1 < w1.heap.size := by omega
  have hB1 : Below w.heap.size w w1 := Below.trans (hbA _ _) (hx1.mono (by first | (simp; omega) | simp | omega))
  clear hC1
  have hC2 := fun (W : World) (hb : Below w.heap.size w W) => eqCmd_yes [.int .i64 m.fC.fKind, .string m.fC.fKey, .string m.fC.fVal] [.int .i64 m.fC.fKind, .string m.fC.fKey, .string m.fC.fVal] m.fC W ⟨rfl, h2, h3, h4, trivial⟩ ⟨rfl, g2, g3, g4, trivial⟩ (by have h : wCmd m.fC = m.fC.fKey.size + m.fC.fVal.size := rfl; omega)
  go_wp2_with fail
  refine Calls.mono (hC2 _ ?_) ?_
  · exact hB1
  rintro e w2 ⟨rfl, hx2⟩
  obtain ⟨hc2, hf2⟩ := bcell hx2
  have hz2 : w.heap.size + 1 + 1 ≤ w2.heap.size := by have h := hx2.size; first | omega | (simp at h; omega)
  have hy2a : w.heap.size < w2.heap.size := by omega
  have hy2b : w.heap.size + 1 < w2.heap.size := by omega
  have hB2 : Below w.heap.size w w2 := Below.trans hB1 (hx2.mono (by first | (simp; omega) | simp | omega))
  clear hC2
  have hC3 := fun (W : World) (hb : Below w.heap.size w W) => eqDotS_yes a5 b5 _ c5 d5 m.fDeps W rfl (LeafL.mono rDot_good (h5.below rDot_good hb) hb.size) (LeafL.mono rDot_good (g5.below rDot_good hb) hb.size) (by omega)
  go_wp2_with fail
  refine Calls.mono (hC3 _ ?_) ?_
  · exact hB2
  rintro e w3 ⟨rfl, hx3⟩
  obtain ⟨hc3, hf3⟩ := bcell hx3
  have hz3 : w.heap.size + 1 + 1 ≤ w3.heap.size := by have h := hx3.size; first | omega | (simp at h; omega)
  have hy3a : w.heap.size < w3.heap.size := by omega
  have hy3b : w.heap.size + 1 < w3.heap.size := by omega
  have hB3 : Below w.heap.size w w3 := Below.trans hB2 (hx3.mono (by first | (simp; omega) | simp | omega))
  clear hC3
  go_wp2_with fail
  go_ret
  exact ⟨rfl, hB3⟩

set_option maxHeartbeats 1000000 in
theorem eqRecS_yes (a b : Option Addr) (n ca cb : Nat) (l : List MRec) (w : World) (hx : l.length = n) (hra : LeafL 7 rRec w.heap.size w a ca l) (hrb : LeafL 7 rRec w.heap.size w b cb l) (hsz : n + sumW wRec l ≤ 1099511627776) :
    Calls Try.prog 55 #[.slice a n ca, .slice b n cb] w fun e w' => e = .returned (.bool true) ∧ Below w.heap.size w w' := by
  have HX := Hid.mk hx
  clear hx
  replace hra := hra.2.2
  replace hrb := hrb.2.2
  go_enter Try.func55, Try.ntmps55
  go_wp2_with fail
  go_loopw [5] (fun i wr => ∃ k : Nat, k ≤ n ∧ i = .int .i64 k ∧ Below w.heap.size w wr) (fun i _ => n - (intOf i).toNat)
  case atStart => exact ⟨0, Nat.zero_le _, rfl, Below.refl _ _⟩
  case round =>
    obtain ⟨k, hk, rfl, hbk⟩ := hrel
    by_cases hlt : k < n
    · have hkl : k < l.length := by rw [HX.out]; exact hlt
      have hwk := sumW_le (f := wRec) hkl
      obtain ⟨bA, oA, rfl, hBA, csA, hlA, hcA, hrA⟩ := (hra.below rRec_good hbk) k hkl
      obtain ⟨bB, oB, rfl, hBB, csB, hlB, hcB, hrB⟩ := (hrb.below rRec_good hbk) k hkl
      have hrA' := rRec_good.mono hrA hbk.size
      have hrB' := rRec_good.mono hrB hbk.size
      generalize l[k] = m at *
      obtain ⟨a5, c5, rfl, h0, h1, h2, h3, h4, h5, h6, _⟩ := hrA
      obtain ⟨b5, d5, rfl, g0, g1, g2, g3, g4, g5, g6, _⟩ := hrB
      have k0 := hcA 0 _ rfl
      have j0 := hcB 0 _ rfl
      have k1 := hcA 1 _ rfl
      have j1 := hcB 1 _ rfl
      have k2 := hcA 2 _ rfl
      have j2 := hcB 2 _ rfl
      have k3 := hcA 3 _ rfl
      have j3 := hcB 3 _ rfl
      have k4 := hcA 4 _ rfl
      have j4 := hcB 4 _ rfl
      have k5 := hcA 5 _ rfl
      have j5 := hcB 5 _ rfl
      have k6 := hcA 6 _ rfl
      have j6 := hcB 6 _ rfl
      rw [Nat.add_zero] at k0 j0
      have hm : wRec m ≤ 1099511627776 := by omega
      clear hcA hcB hlA hlB hra hrb hwk
      go_wp2_with fail
      go_region_with (go_at_call 68; refine (eqRec_yes _ _ m _ (by exact hrA') (by exact hrB') hm).mono ?_; rintro e w1 ⟨rfl, hb1⟩)
      all_goals
        have hb2 : Below w.heap.size w w1 := Below.trans hbk (Below.mono (Below.trans (Below.drew (Below.refl _ _)) hb1) hbk.size)
        go_wp2_with fail
        go_roundw
        case rel => exact ⟨k + 1, by omega, by go_num, hb2⟩
        case measure => simp [intOf]; omega
    · go_wp2_with fail
      go_ret
      exact ⟨rfl, hbk⟩

set_option maxHeartbeats 1000000 in
theorem eqAck_yes (cs1 cs2 : List Value) (m : MAck) (w : World) (hr1 : rAck w.heap.size w cs1 m) (hr2 : rAck w.heap.size w cs2 m) (hsz : wAck m ≤ 1099511627776) :
    Calls Try.prog 69 #[.agg cs1.toArray, .agg cs2.toArray] w fun e w' => e = .returned (.bool true) ∧ Below w.heap.size w w' := by
  obtain ⟨rfl, h0, h1, h2, _⟩ := hr1
  obtain ⟨rfl, g0, g1, g2, _⟩ := hr2
  have hsz' : 0 ≤ 1099511627776 := hsz
  clear hsz
  have hbA : ∀ o1 o2, Below w.heap.size w ((w.alloc o1).alloc o2) := fun o1 o2 => ((Below.refl _ _).alloc (Nat.le_refl _) o1).alloc (by simp) o2
  go_enter Try.func69, Try.ntmps69
  have hC1 := fun (W : World) (hb : Below w.heap.size w W) => eqDot_yes [.int .i64 m.fD.fR, .int .i64 m.fD.fN] [.int .i64 m.fD.fR, .int .i64 m.fD.fN] m.fD W ⟨rfl, h0, h1, trivial⟩ ⟨rfl, g0, g1, trivial⟩ (by have h : wDot m.fD = 0 := rfl; omega)
  go_wp2_with fail
  refine Calls.mono (hC1 _ ?_) ?_
  · exact (hbA _ _)
  rintro e w1 ⟨rfl, hx1⟩
  obtain ⟨hc1, hf1⟩ := bcell hx1
  have hz1 : w.heap.size + 1 + 1 ≤ w1.heap.size := by have h := hx1.size; first | omega | (simp at h; omega)
  have hy1a : w.heap.size < w1.heap.size := by omega
  have hy1b : w.heap.size + 1 < w1.heap.size := by omega
  have hB1 : Below w.heap.size w w1 := Below.trans (hbA _ _) (hx1.mono (by first | (simp; omega) | simp | omega))
  clear hC1
  go_wp2_with fail
  go_ret
  exact ⟨rfl, hB1⟩

set_option maxHeartbeats 1000000 in
theorem eqAckS_yes (a b : Option Addr) (n ca cb : Nat) (l : List MAck) (w : World) (hx : l.length = n) (hra : LeafL 3 rAck w.heap.size w a ca l) (hrb : LeafL 3 rAck w.heap.size w b cb l) (hsz : n + sumW wAck l ≤ 1099511627776) :
    Calls Try.prog 56 #[.slice a n ca, .slice b n cb] w fun e w' => e = .returned (.bool true) ∧ Below w.heap.size w w' := by
  have HX := Hid.mk hx
  clear hx
  replace hra := hra.2.2
  replace hrb := hrb.2.2
  go_enter Try.func56, Try.ntmps56
  go_wp2_with fail
  go_loopw [5] (fun i wr => ∃ k : Nat, k ≤ n ∧ i = .int .i64 k ∧ Below w.heap.size w wr) (fun i _ => n - (intOf i).toNat)
  case atStart => exact ⟨0, Nat.zero_le _, rfl, Below.refl _ _⟩
  case round =>
    obtain ⟨k, hk, rfl, hbk⟩ := hrel
    by_cases hlt : k < n
    · have hkl : k < l.length := by rw [HX.out]; exact hlt
      have hwk := sumW_le (f := wAck) hkl
      obtain ⟨bA, oA, rfl, hBA, csA, hlA, hcA, hrA⟩ := (hra.below rAck_good hbk) k hkl
      obtain ⟨bB, oB, rfl, hBB, csB, hlB, hcB, hrB⟩ := (hrb.below rAck_good hbk) k hkl
      have hrA' := rAck_good.mono hrA hbk.size
      have hrB' := rAck_good.mono hrB hbk.size
      generalize l[k] = m at *
      obtain ⟨rfl, h0, h1, h2, _⟩ := hrA
      obtain ⟨rfl, g0, g1, g2, _⟩ := hrB
      have k0 := hcA 0 _ rfl
      have j0 := hcB 0 _ rfl
      have k1 := hcA 1 _ rfl
      have j1 := hcB 1 _ rfl
      have k2 := hcA 2 _ rfl
      have j2 := hcB 2 _ rfl
      rw [Nat.add_zero] at k0 j0
      have hm : wAck m ≤ 1099511627776 := by omega
      clear hcA hcB hlA hlB hra hrb hwk
      go_wp2_with fail
      go_region_with (go_at_call 69; refine (eqAck_yes _ _ m _ (by exact hrA') (by exact hrB') hm).mono ?_; rintro e w1 ⟨rfl, hb1⟩)
      all_goals
        have hb2 : Below w.heap.size w w1 := Below.trans hbk (Below.mono (Below.trans (Below.drew (Below.refl _ _)) hb1) hbk.size)
        go_wp2_with fail
        go_roundw
        case rel => exact ⟨k + 1, by omega, by go_num, hb2⟩
        case measure => simp [intOf]; omega
    · go_wp2_with fail
      go_ret
      exact ⟨rfl, hbk⟩

set_option maxHeartbeats 1000000 in
theorem eqPair_yes (cs1 cs2 : List Value) (m : MPair) (w : World) (hr1 : rPair w.heap.size w cs1 m) (hr2 : rPair w.heap.size w cs2 m) (hsz : wPair m ≤ 1099511627776) :
    Calls Try.prog 20 #[.agg cs1.toArray, .agg cs2.toArray] w fun e w' => e = .returned (.bool true) ∧ Below w.heap.size w w' := by
  obtain ⟨rfl, h0, h1, h2, _⟩ := hr1
  obtain ⟨rfl, g0, g1, g2, _⟩ := hr2
  have hsz' : m.fKey.size + m.fVal.size ≤ 1099511627776 := hsz
  clear hsz
  have hbA : ∀ o1 o2, Below w.heap.size w ((w.alloc o1).alloc o2) := fun o1 o2 => ((Below.refl _ _).alloc (Nat.le_refl _) o1).alloc (by simp) o2
  go_enter Try.func20, Try.ntmps20
  go_wp2_with fail
  go_ret
  exact ⟨rfl, (hbA _ _)⟩

set_option maxHeartbeats 1000000 in
theorem eqPairS_yes (a b : Option Addr) (n ca cb : Nat) (l : List MPair) (w : World) (hx : l.length = n) (hra : LeafL 3 rPair w.heap.size w a ca l) (hrb : LeafL 3 rPair w.heap.size w b cb l) (hsz : n + sumW wPair l ≤ 1099511627776) :
    Calls Try.prog 8 #[.slice a n ca, .slice b n cb] w fun e w' => e = .returned (.bool true) ∧ Below w.heap.size w w' := by
  have HX := Hid.mk hx
  clear hx
  replace hra := hra.2.2
  replace hrb := hrb.2.2
  go_enter Try.func8, Try.ntmps8
  go_wp2_with fail
  go_loopw [5] (fun i wr => ∃ k : Nat, k ≤ n ∧ i = .int .i64 k ∧ Below w.heap.size w wr) (fun i _ => n - (intOf i).toNat)
  case atStart => exact ⟨0, Nat.zero_le _, rfl, Below.refl _ _⟩
  case round =>
    obtain ⟨k, hk, rfl, hbk⟩ := hrel
    by_cases hlt : k < n
    · have hkl : k < l.length := by rw [HX.out]; exact hlt
      have hwk := sumW_le (f := wPair) hkl
      obtain ⟨bA, oA, rfl, hBA, csA, hlA, hcA, hrA⟩ := (hra.below rPair_good hbk) k hkl
      obtain ⟨bB, oB, rfl, hBB, csB, hlB, hcB, hrB⟩ := (hrb.below rPair_good hbk) k hkl
      have hrA' := rPair_good.mono hrA hbk.size
      have hrB' := rPair_good.mono hrB hbk.size
      generalize l[k] = m at *
      obtain ⟨rfl, h0, h1, h2, _⟩ := hrA
      obtain ⟨rfl, g0, g1, g2, _⟩ := hrB
      have k0 := hcA 0 _ rfl
      have j0 := hcB 0 _ rfl
      have k1 := hcA 1 _ rfl
      have j1 := hcB 1 _ rfl
      have k2 := hcA 2 _ rfl
      have j2 := hcB 2 _ rfl
      rw [Nat.add_zero] at k0 j0
      have hm : wPair m ≤ 1099511627776 := by omega
      clear hcA hcB hlA hlB hra hrb hwk
      go_wp2_with fail
      go_region_with (go_at_call 20; refine (eqPair_yes _ _ m _ (by exact hrA') (by exact hrB') hm).mono ?_; rintro e w1 ⟨rfl, hb1⟩)
      all_goals
        have hb2 : Below w.heap.size w w1 := Below.trans hbk (Below.mono (Below.trans (Below.drew (Below.refl _ _)) hb1) hbk.size)
        go_wp2_with fail
        go_roundw
        case rel => exact ⟨k + 1, by omega, by go_num, hb2⟩
        case measure => simp [intOf]; omega
    · go_wp2_with fail
      go_ret
      exact ⟨rfl, hbk⟩

set_option maxHeartbeats 1000000 in
theorem eqAnswer_yes (cs1 cs2 : List Value) (m : MAnswer) (w : World) (hr1 : rAnswer w.heap.size w cs1 m) (hr2 : rAnswer w.heap.size w cs2 m) (hsz : wAnswer m ≤ 1099511627776) :
    Calls Try.prog 70 #[.agg cs1.toArray, .agg cs2.toArray] w fun e w' => e = .returned (.bool true) ∧ Below w.heap.size w w' := by
  obtain ⟨rfl, h0, h1, h2, h3, _⟩ := hr1
  obtain ⟨rfl, g0, g1, g2, g3, _⟩ := hr2
  have hsz' : m.fVal.size ≤ 1099511627776 := hsz
  clear hsz
  have hbA : ∀ o1 o2, Below w.heap.size w ((w.alloc o1).alloc o2) := fun o1 o2 => ((Below.refl _ _).alloc (Nat.le_refl _) o1).alloc (by simp) o2
  go_enter Try.func70, Try.ntmps70
  have hC1 := fun (W : World) (hb : Below w.heap.size w W) => eqDot_yes [.int .i64 m.fD.fR, .int .i64 m.fD.fN] [.int .i64 m.fD.fR, .int .i64 m.fD.fN] m.fD W ⟨rfl, h0, h1, trivial⟩ ⟨rfl, g0, g1, trivial⟩ (by have h : wDot m.fD = 0 := rfl; omega)
  go_wp2_with fail
  refine Calls.mono (hC1 _ ?_) ?_
  · exact (hbA _ _)
  rintro e w1 ⟨rfl, hx1⟩
  obtain ⟨hc1, hf1⟩ := bcell hx1
  have hz1 : w.heap.size + 1 + 1 ≤ w1.heap.size := by have h := hx1.size; first | omega | (simp at h; omega)
  have hy1a : w.heap.size < w1.heap.size := by omega
  have hy1b : w.heap.size + 1 < w1.heap.size := by omega
  have hB1 : Below w.heap.size w w1 := Below.trans (hbA _ _) (hx1.mono (by first | (simp; omega) | simp | omega))
  clear hC1
  go_wp2_with fail
  go_ret
  exact ⟨rfl, hB1⟩

set_option maxHeartbeats 1000000 in
theorem eqAnswerS_yes (a b : Option Addr) (n ca cb : Nat) (l : List MAnswer) (w : World) (hx : l.length = n) (hra : LeafL 4 rAnswer w.heap.size w a ca l) (hrb : LeafL 4 rAnswer w.heap.size w b cb l) (hsz : n + sumW wAnswer l ≤ 1099511627776) :
    Calls Try.prog 58 #[.slice a n ca, .slice b n cb] w fun e w' => e = .returned (.bool true) ∧ Below w.heap.size w w' := by
  have HX := Hid.mk hx
  clear hx
  replace hra := hra.2.2
  replace hrb := hrb.2.2
  go_enter Try.func58, Try.ntmps58
  go_wp2_with fail
  go_loopw [5] (fun i wr => ∃ k : Nat, k ≤ n ∧ i = .int .i64 k ∧ Below w.heap.size w wr) (fun i _ => n - (intOf i).toNat)
  case atStart => exact ⟨0, Nat.zero_le _, rfl, Below.refl _ _⟩
  case round =>
    obtain ⟨k, hk, rfl, hbk⟩ := hrel
    by_cases hlt : k < n
    · have hkl : k < l.length := by rw [HX.out]; exact hlt
      have hwk := sumW_le (f := wAnswer) hkl
      obtain ⟨bA, oA, rfl, hBA, csA, hlA, hcA, hrA⟩ := (hra.below rAnswer_good hbk) k hkl
      obtain ⟨bB, oB, rfl, hBB, csB, hlB, hcB, hrB⟩ := (hrb.below rAnswer_good hbk) k hkl
      have hrA' := rAnswer_good.mono hrA hbk.size
      have hrB' := rAnswer_good.mono hrB hbk.size
      generalize l[k] = m at *
      obtain ⟨rfl, h0, h1, h2, h3, _⟩ := hrA
      obtain ⟨rfl, g0, g1, g2, g3, _⟩ := hrB
      have k0 := hcA 0 _ rfl
      have j0 := hcB 0 _ rfl
      have k1 := hcA 1 _ rfl
      have j1 := hcB 1 _ rfl
      have k2 := hcA 2 _ rfl
      have j2 := hcB 2 _ rfl
      have k3 := hcA 3 _ rfl
      have j3 := hcB 3 _ rfl
      rw [Nat.add_zero] at k0 j0
      have hm : wAnswer m ≤ 1099511627776 := by omega
      clear hcA hcB hlA hlB hra hrb hwk
      go_wp2_with fail
      go_region_with (go_at_call 70; refine (eqAnswer_yes _ _ m _ (by exact hrA') (by exact hrB') hm).mono ?_; rintro e w1 ⟨rfl, hb1⟩)
      all_goals
        have hb2 : Below w.heap.size w w1 := Below.trans hbk (Below.mono (Below.trans (Below.drew (Below.refl _ _)) hb1) hbk.size)
        go_wp2_with fail
        go_roundw
        case rel => exact ⟨k + 1, by omega, by go_num, hb2⟩
        case measure => simp [intOf]; omega
    · go_wp2_with fail
      go_ret
      exact ⟨rfl, hbk⟩

set_option maxHeartbeats 1000000 in
theorem eqReplica_yes (cs1 cs2 : List Value) (m : MReplica) (w : World) (hr1 : rReplica w.heap.size w cs1 m) (hr2 : rReplica w.heap.size w cs2 m) (hsz : wReplica m ≤ 1099511627776) :
    Calls Try.prog 35 #[.agg cs1.toArray, .agg cs2.toArray] w fun e w' => e = .returned (.bool true) ∧ Below w.heap.size w w' := by
  obtain ⟨a3, c3, a4, c4, a5, c5, a6, c6, a7, c7, rfl, h0, h1, h2, h3, h4, h5, h6, h7, _⟩ := hr1
  obtain ⟨b3, d3, b4, d4, b5, d5, b6, d6, b7, d7, rfl, g0, g1, g2, g3, g4, g5, g6, g7, _⟩ := hr2
  have hsz' : (m.fRecs.length + sumW wRec m.fRecs) + (m.fAcks.length + sumW wAck m.fAcks) + (m.fDone.length + sumW wDot m.fDone) + (m.fMap.length + sumW wPair m.fMap) + (m.fSaid.length + sumW wAnswer m.fSaid) ≤ 1099511627776 := hsz
  clear hsz
  have hbA : ∀ o1 o2, Below w.heap.size w ((w.alloc o1).alloc o2) := fun o1 o2 => ((Below.refl _ _).alloc (Nat.le_refl _) o1).alloc (by simp) o2
  go_enter Try.func35, Try.ntmps35
  have hC1 := fun (W : World) (hb : Below w.heap.size w W) => eqRecS_yes a3 b3 _ c3 d3 m.fRecs W rfl (LeafL.mono rRec_good (h3.below rRec_good hb) hb.size) (LeafL.mono rRec_good (g3.below rRec_good hb) hb.size) (by omega)
  go_wp2_with fail
  refine Calls.mono (hC1 _ ?_) ?_
  · exact (hbA _ _)
  rintro e w1 ⟨rfl, hx1⟩
  obtain ⟨hc1, hf1⟩ := bcell hx1
  have hz1 : w.heap.size + 1 + 1 ≤ w1.heap.size := by have h := hx1.size; first | omega | (simp at h; omega)
  have hy1a : w.heap.size < w1.heap.size := by omega
  have hy1b : w.heap.size + 1 < w1.heap.size := by omega
  have hB1 : Below w.heap.size w w1 := Below.trans (hbA _ _) (hx1.mono (by first | (simp; omega) | simp | omega))
  clear hC1
  have hC2 := fun (W : World) (hb : Below w.heap.size w W) => eqAckS_yes a4 b4 _ c4 d4 m.fAcks W rfl (LeafL.mono rAck_good (h4.below rAck_good hb) hb.size) (LeafL.mono rAck_good (g4.below rAck_good hb) hb.size) (by omega)
  go_wp2_with fail
  refine Calls.mono (hC2 _ ?_) ?_
  · exact hB1
  rintro e w2 ⟨rfl, hx2⟩
  obtain ⟨hc2, hf2⟩ := bcell hx2
  have hz2 : w.heap.size + 1 + 1 ≤ w2.heap.size := by have h := hx2.size; first | omega | (simp at h; omega)
  have hy2a : w.heap.size < w2.heap.size := by omega
  have hy2b : w.heap.size + 1 < w2.heap.size := by omega
  have hB2 : Below w.heap.size w w2 := Below.trans hB1 (hx2.mono (by first | (simp; omega) | simp | omega))
  clear hC2
  have hC3 := fun (W : World) (hb : Below w.heap.size w W) => eqDotS_yes a5 b5 _ c5 d5 m.fDone W rfl (LeafL.mono rDot_good (h5.below rDot_good hb) hb.size) (LeafL.mono rDot_good (g5.below rDot_good hb) hb.size) (by omega)
  go_wp2_with fail
  refine Calls.mono (hC3 _ ?_) ?_
  · exact hB2
  rintro e w3 ⟨rfl, hx3⟩
  obtain ⟨hc3, hf3⟩ := bcell hx3
  have hz3 : w.heap.size + 1 + 1 ≤ w3.heap.size := by have h := hx3.size; first | omega | (simp at h; omega)
  have hy3a : w.heap.size < w3.heap.size := by omega
  have hy3b : w.heap.size + 1 < w3.heap.size := by omega
  have hB3 : Below w.heap.size w w3 := Below.trans hB2 (hx3.mono (by first | (simp; omega) | simp | omega))
  clear hC3
  have hC4 := fun (W : World) (hb : Below w.heap.size w W) => eqPairS_yes a6 b6 _ c6 d6 m.fMap W rfl (LeafL.mono rPair_good (h6.below rPair_good hb) hb.size) (LeafL.mono rPair_good (g6.below rPair_good hb) hb.size) (by omega)
  go_wp2_with fail
  refine Calls.mono (hC4 _ ?_) ?_
  · exact hB3
  rintro e w4 ⟨rfl, hx4⟩
  obtain ⟨hc4, hf4⟩ := bcell hx4
  have hz4 : w.heap.size + 1 + 1 ≤ w4.heap.size := by have h := hx4.size; first | omega | (simp at h; omega)
  have hy4a : w.heap.size < w4.heap.size := by omega
  have hy4b : w.heap.size + 1 < w4.heap.size := by omega
  have hB4 : Below w.heap.size w w4 := Below.trans hB3 (hx4.mono (by first | (simp; omega) | simp | omega))
  clear hC4
  have hC5 := fun (W : World) (hb : Below w.heap.size w W) => eqAnswerS_yes a7 b7 _ c7 d7 m.fSaid W rfl (LeafL.mono rAnswer_good (h7.below rAnswer_good hb) hb.size) (LeafL.mono rAnswer_good (g7.below rAnswer_good hb) hb.size) (by omega)
  go_wp2_with fail
  refine Calls.mono (hC5 _ ?_) ?_
  · exact hB4
  rintro e w5 ⟨rfl, hx5⟩
  obtain ⟨hc5, hf5⟩ := bcell hx5
  have hz5 : w.heap.size + 1 + 1 ≤ w5.heap.size := by have h := hx5.size; first | omega | (simp at h; omega)
  have hy5a : w.heap.size < w5.heap.size := by omega
  have hy5b : w.heap.size + 1 < w5.heap.size := by omega
  have hB5 : Below w.heap.size w w5 := Below.trans hB4 (hx5.mono (by first | (simp; omega) | simp | omega))
  clear hC5
  go_wp2_with fail
  go_ret
  exact ⟨rfl, hB5⟩

set_option maxHeartbeats 1000000 in
theorem eqReplicaS_yes (a b : Option Addr) (n ca cb : Nat) (l : List MReplica) (w : World) (hx : l.length = n) (hra : LeafL 8 rReplica w.heap.size w a ca l) (hrb : LeafL 8 rReplica w.heap.size w b cb l) (hsz : n + sumW wReplica l ≤ 1099511627776) :
    Calls Try.prog 21 #[.slice a n ca, .slice b n cb] w fun e w' => e = .returned (.bool true) ∧ Below w.heap.size w w' := by
  have HX := Hid.mk hx
  clear hx
  replace hra := hra.2.2
  replace hrb := hrb.2.2
  go_enter Try.func21, Try.ntmps21
  go_wp2_with fail
  go_loopw [5] (fun i wr => ∃ k : Nat, k ≤ n ∧ i = .int .i64 k ∧ Below w.heap.size w wr) (fun i _ => n - (intOf i).toNat)
  case atStart => exact ⟨0, Nat.zero_le _, rfl, Below.refl _ _⟩
  case round =>
    obtain ⟨k, hk, rfl, hbk⟩ := hrel
    by_cases hlt : k < n
    · have hkl : k < l.length := by rw [HX.out]; exact hlt
      have hwk := sumW_le (f := wReplica) hkl
      obtain ⟨bA, oA, rfl, hBA, csA, hlA, hcA, hrA⟩ := (hra.below rReplica_good hbk) k hkl
      obtain ⟨bB, oB, rfl, hBB, csB, hlB, hcB, hrB⟩ := (hrb.below rReplica_good hbk) k hkl
      have hrA' := rReplica_good.mono hrA hbk.size
      have hrB' := rReplica_good.mono hrB hbk.size
      generalize l[k] = m at *
      obtain ⟨a3, c3, a4, c4, a5, c5, a6, c6, a7, c7, rfl, h0, h1, h2, h3, h4, h5, h6, h7, _⟩ := hrA
      obtain ⟨b3, d3, b4, d4, b5, d5, b6, d6, b7, d7, rfl, g0, g1, g2, g3, g4, g5, g6, g7, _⟩ := hrB
      have k0 := hcA 0 _ rfl
      have j0 := hcB 0 _ rfl
      have k1 := hcA 1 _ rfl
      have j1 := hcB 1 _ rfl
      have k2 := hcA 2 _ rfl
      have j2 := hcB 2 _ rfl
      have k3 := hcA 3 _ rfl
      have j3 := hcB 3 _ rfl
      have k4 := hcA 4 _ rfl
      have j4 := hcB 4 _ rfl
      have k5 := hcA 5 _ rfl
      have j5 := hcB 5 _ rfl
      have k6 := hcA 6 _ rfl
      have j6 := hcB 6 _ rfl
      have k7 := hcA 7 _ rfl
      have j7 := hcB 7 _ rfl
      rw [Nat.add_zero] at k0 j0
      have hm : wReplica m ≤ 1099511627776 := by omega
      clear hcA hcB hlA hlB hra hrb hwk
      go_wp2_with fail
      go_region_with (go_at_call 35; refine (eqReplica_yes _ _ m _ (by exact hrA') (by exact hrB') hm).mono ?_; rintro e w1 ⟨rfl, hb1⟩)
      all_goals
        have hb2 : Below w.heap.size w w1 := Below.trans hbk (Below.mono (Below.trans (Below.drew (Below.refl _ _)) hb1) hbk.size)
        go_wp2_with fail
        go_roundw
        case rel => exact ⟨k + 1, by omega, by go_num, hb2⟩
        case measure => simp [intOf]; omega
    · go_wp2_with fail
      go_ret
      exact ⟨rfl, hbk⟩

set_option maxHeartbeats 1000000 in
theorem eqMsg_yes (cs1 cs2 : List Value) (m : MMsg) (w : World) (hr1 : rMsg w.heap.size w cs1 m) (hr2 : rMsg w.heap.size w cs2 m) (hsz : wMsg m ≤ 1099511627776) :
    Calls Try.prog 36 #[.agg cs1.toArray, .agg cs2.toArray] w fun e w' => e = .returned (.bool true) ∧ Below w.heap.size w w' := by
  obtain ⟨a8, c8, rfl, h0, h1, h2, h3, h4, h5, h6, h7, h8, _⟩ := hr1
  obtain ⟨b8, d8, rfl, g0, g1, g2, g3, g4, g5, g6, g7, g8, _⟩ := hr2
  have hsz' : m.fC.fKey.size + m.fC.fVal.size + (m.fDeps.length + sumW wDot m.fDeps) ≤ 1099511627776 := hsz
  clear hsz
  have hbA : ∀ o1 o2, Below w.heap.size w ((w.alloc o1).alloc o2) := fun o1 o2 => ((Below.refl _ _).alloc (Nat.le_refl _) o1).alloc (by simp) o2
  go_enter Try.func36, Try.ntmps36
  have hC1 := fun (W : World) (hb : Below w.heap.size w W) => eqDot_yes [.int .i64 m.fD.fR, .int .i64 m.fD.fN] [.int .i64 m.fD.fR, .int .i64 m.fD.fN] m.fD W ⟨rfl, h3, h4, trivial⟩ ⟨rfl, g3, g4, trivial⟩ (by have h : wDot m.fD = 0 := rfl; omega)
  go_wp2_with fail
  refine Calls.mono (hC1 _ ?_) ?_
  · exact (hbA _ _)
  rintro e w1 ⟨rfl, hx1⟩
  obtain ⟨hc1, hf1⟩ := bcell hx1
  have hz1 : w.heap.size + 1 + 1 ≤ w1.heap.size := by have h := hx1.size; first | omega | (simp at h; omega)
  have hy1a : w.heap.size < w1.heap.size := by omega
  have hy1b : w.heap.size + 1 < w1.heap.size := by omega
  have hB1 : Below w.heap.size w w1 := Below.trans (hbA _ _) (hx1.mono (by first | (simp; omega) | simp | omega))
  clear hC1
  have hC2 := fun (W : World) (hb : Below w.heap.size w W) => eqCmd_yes [.int .i64 m.fC.fKind, .string m.fC.fKey, .string m.fC.fVal] [.int .i64 m.fC.fKind, .string m.fC.fKey, .string m.fC.fVal] m.fC W ⟨rfl, h5, h6, h7, trivial⟩ ⟨rfl, g5, g6, g7, trivial⟩ (by have h : wCmd m.fC = m.fC.fKey.size + m.fC.fVal.size := rfl; omega)
  go_wp2_with fail
  refine Calls.mono (hC2 _ ?_) ?_
  · exact hB1
  rintro e w2 ⟨rfl, hx2⟩
  obtain ⟨hc2, hf2⟩ := bcell hx2
  have hz2 : w.heap.size + 1 + 1 ≤ w2.heap.size := by have h := hx2.size; first | omega | (simp at h; omega)
  have hy2a : w.heap.size < w2.heap.size := by omega
  have hy2b : w.heap.size + 1 < w2.heap.size := by omega
  have hB2 : Below w.heap.size w w2 := Below.trans hB1 (hx2.mono (by first | (simp; omega) | simp | omega))
  clear hC2
  have hC3 := fun (W : World) (hb : Below w.heap.size w W) => eqDotS_yes a8 b8 _ c8 d8 m.fDeps W rfl (LeafL.mono rDot_good (h8.below rDot_good hb) hb.size) (LeafL.mono rDot_good (g8.below rDot_good hb) hb.size) (by omega)
  go_wp2_with fail
  refine Calls.mono (hC3 _ ?_) ?_
  · exact hB2
  rintro e w3 ⟨rfl, hx3⟩
  obtain ⟨hc3, hf3⟩ := bcell hx3
  have hz3 : w.heap.size + 1 + 1 ≤ w3.heap.size := by have h := hx3.size; first | omega | (simp at h; omega)
  have hy3a : w.heap.size < w3.heap.size := by omega
  have hy3b : w.heap.size + 1 < w3.heap.size := by omega
  have hB3 : Below w.heap.size w w3 := Below.trans hB2 (hx3.mono (by first | (simp; omega) | simp | omega))
  clear hC3
  go_wp2_with fail
  go_ret
  exact ⟨rfl, hB3⟩

set_option maxHeartbeats 1000000 in
theorem eqMsgS_yes (a b : Option Addr) (n ca cb : Nat) (l : List MMsg) (w : World) (hx : l.length = n) (hra : LeafL 9 rMsg w.heap.size w a ca l) (hrb : LeafL 9 rMsg w.heap.size w b cb l) (hsz : n + sumW wMsg l ≤ 1099511627776) :
    Calls Try.prog 22 #[.slice a n ca, .slice b n cb] w fun e w' => e = .returned (.bool true) ∧ Below w.heap.size w w' := by
  have HX := Hid.mk hx
  clear hx
  replace hra := hra.2.2
  replace hrb := hrb.2.2
  go_enter Try.func22, Try.ntmps22
  go_wp2_with fail
  go_loopw [5] (fun i wr => ∃ k : Nat, k ≤ n ∧ i = .int .i64 k ∧ Below w.heap.size w wr) (fun i _ => n - (intOf i).toNat)
  case atStart => exact ⟨0, Nat.zero_le _, rfl, Below.refl _ _⟩
  case round =>
    obtain ⟨k, hk, rfl, hbk⟩ := hrel
    by_cases hlt : k < n
    · have hkl : k < l.length := by rw [HX.out]; exact hlt
      have hwk := sumW_le (f := wMsg) hkl
      obtain ⟨bA, oA, rfl, hBA, csA, hlA, hcA, hrA⟩ := (hra.below rMsg_good hbk) k hkl
      obtain ⟨bB, oB, rfl, hBB, csB, hlB, hcB, hrB⟩ := (hrb.below rMsg_good hbk) k hkl
      have hrA' := rMsg_good.mono hrA hbk.size
      have hrB' := rMsg_good.mono hrB hbk.size
      generalize l[k] = m at *
      obtain ⟨a8, c8, rfl, h0, h1, h2, h3, h4, h5, h6, h7, h8, _⟩ := hrA
      obtain ⟨b8, d8, rfl, g0, g1, g2, g3, g4, g5, g6, g7, g8, _⟩ := hrB
      have k0 := hcA 0 _ rfl
      have j0 := hcB 0 _ rfl
      have k1 := hcA 1 _ rfl
      have j1 := hcB 1 _ rfl
      have k2 := hcA 2 _ rfl
      have j2 := hcB 2 _ rfl
      have k3 := hcA 3 _ rfl
      have j3 := hcB 3 _ rfl
      have k4 := hcA 4 _ rfl
      have j4 := hcB 4 _ rfl
      have k5 := hcA 5 _ rfl
      have j5 := hcB 5 _ rfl
      have k6 := hcA 6 _ rfl
      have j6 := hcB 6 _ rfl
      have k7 := hcA 7 _ rfl
      have j7 := hcB 7 _ rfl
      have k8 := hcA 8 _ rfl
      have j8 := hcB 8 _ rfl
      rw [Nat.add_zero] at k0 j0
      have hm : wMsg m ≤ 1099511627776 := by omega
      clear hcA hcB hlA hlB hra hrb hwk
      go_wp2_with fail
      go_region_with (go_at_call 36; refine (eqMsg_yes _ _ m _ (by exact hrA') (by exact hrB') hm).mono ?_; rintro e w1 ⟨rfl, hb1⟩)
      all_goals
        have hb2 : Below w.heap.size w w1 := Below.trans hbk (Below.mono (Below.trans (Below.drew (Below.refl _ _)) hb1) hbk.size)
        go_wp2_with fail
        go_roundw
        case rel => exact ⟨k + 1, by omega, by go_num, hb2⟩
        case measure => simp [intOf]; omega
    · go_wp2_with fail
      go_ret
      exact ⟨rfl, hbk⟩

set_option maxHeartbeats 1000000 in
theorem eqAsked_yes (cs1 cs2 : List Value) (m : MAsked) (w : World) (hr1 : rAsked w.heap.size w cs1 m) (hr2 : rAsked w.heap.size w cs2 m) (hsz : wAsked m ≤ 1099511627776) :
    Calls Try.prog 37 #[.agg cs1.toArray, .agg cs2.toArray] w fun e w' => e = .returned (.bool true) ∧ Below w.heap.size w w' := by
  obtain ⟨a5, c5, rfl, h0, h1, h2, h3, h4, h5, _⟩ := hr1
  obtain ⟨b5, d5, rfl, g0, g1, g2, g3, g4, g5, _⟩ := hr2
  have hsz' : m.fC.fKey.size + m.fC.fVal.size + (m.fBefore.length + sumW wDot m.fBefore) ≤ 1099511627776 := hsz
  clear hsz
  have hbA : ∀ o1 o2, Below w.heap.size w ((w.alloc o1).alloc o2) := fun o1 o2 => ((Below.refl _ _).alloc (Nat.le_refl _) o1).alloc (by simp) o2
  go_enter Try.func37, Try.ntmps37
  have hC1 := fun (W : World) (hb : Below w.heap.size w W) => eqDot_yes [.int .i64 m.fD.fR, .int .i64 m.fD.fN] [.int .i64 m.fD.fR, .int .i64 m.fD.fN] m.fD W ⟨rfl, h0, h1, trivial⟩ ⟨rfl, g0, g1, trivial⟩ (by have h : wDot m.fD = 0 := rfl; omega)
  go_wp2_with fail
  refine Calls.mono (hC1 _ ?_) ?_
  · exact (hbA _ _)
  rintro e w1 ⟨rfl, hx1⟩
  obtain ⟨hc1, hf1⟩ := bcell hx1
  have hz1 : w.heap.size + 1 + 1 ≤ w1.heap.size := by have h := hx1.size; first | omega | (simp at h; omega)
  have hy1a : w.heap.size < w1.heap.size := by omega
  have hy1b : w.heap.size + 1 < w1.heap.size := by omega
  have hB1 : Below w.heap.size w w1 := Below.trans (hbA _ _) (hx1.mono (by first | (simp; omega) | simp | omega))
  clear hC1
  have hC2 := fun (W : World) (hb : Below w.heap.size w W) => eqCmd_yes [.int .i64 m.fC.fKind, .string m.fC.fKey, .string m.fC.fVal] [.int .i64 m.fC.fKind, .string m.fC.fKey, .string m.fC.fVal] m.fC W ⟨rfl, h2, h3, h4, trivial⟩ ⟨rfl, g2, g3, g4, trivial⟩ (by have h : wCmd m.fC = m.fC.fKey.size + m.fC.fVal.size := rfl; omega)
  go_wp2_with fail
  refine Calls.mono (hC2 _ ?_) ?_
  · exact hB1
  rintro e w2 ⟨rfl, hx2⟩
  obtain ⟨hc2, hf2⟩ := bcell hx2
  have hz2 : w.heap.size + 1 + 1 ≤ w2.heap.size := by have h := hx2.size; first | omega | (simp at h; omega)
  have hy2a : w.heap.size < w2.heap.size := by omega
  have hy2b : w.heap.size + 1 < w2.heap.size := by omega
  have hB2 : Below w.heap.size w w2 := Below.trans hB1 (hx2.mono (by first | (simp; omega) | simp | omega))
  clear hC2
  have hC3 := fun (W : World) (hb : Below w.heap.size w W) => eqDotS_yes a5 b5 _ c5 d5 m.fBefore W rfl (LeafL.mono rDot_good (h5.below rDot_good hb) hb.size) (LeafL.mono rDot_good (g5.below rDot_good hb) hb.size) (by omega)
  go_wp2_with fail
  refine Calls.mono (hC3 _ ?_) ?_
  · exact hB2
  rintro e w3 ⟨rfl, hx3⟩
  obtain ⟨hc3, hf3⟩ := bcell hx3
  have hz3 : w.heap.size + 1 + 1 ≤ w3.heap.size := by have h := hx3.size; first | omega | (simp at h; omega)
  have hy3a : w.heap.size < w3.heap.size := by omega
  have hy3b : w.heap.size + 1 < w3.heap.size := by omega
  have hB3 : Below w.heap.size w w3 := Below.trans hB2 (hx3.mono (by first | (simp; omega) | simp | omega))
  clear hC3
  go_wp2_with fail
  go_ret
  exact ⟨rfl, hB3⟩

set_option maxHeartbeats 1000000 in
theorem eqAskedS_yes (a b : Option Addr) (n ca cb : Nat) (l : List MAsked) (w : World) (hx : l.length = n) (hra : LeafL 6 rAsked w.heap.size w a ca l) (hrb : LeafL 6 rAsked w.heap.size w b cb l) (hsz : n + sumW wAsked l ≤ 1099511627776) :
    Calls Try.prog 23 #[.slice a n ca, .slice b n cb] w fun e w' => e = .returned (.bool true) ∧ Below w.heap.size w w' := by
  have HX := Hid.mk hx
  clear hx
  replace hra := hra.2.2
  replace hrb := hrb.2.2
  go_enter Try.func23, Try.ntmps23
  go_wp2_with fail
  go_loopw [5] (fun i wr => ∃ k : Nat, k ≤ n ∧ i = .int .i64 k ∧ Below w.heap.size w wr) (fun i _ => n - (intOf i).toNat)
  case atStart => exact ⟨0, Nat.zero_le _, rfl, Below.refl _ _⟩
  case round =>
    obtain ⟨k, hk, rfl, hbk⟩ := hrel
    by_cases hlt : k < n
    · have hkl : k < l.length := by rw [HX.out]; exact hlt
      have hwk := sumW_le (f := wAsked) hkl
      obtain ⟨bA, oA, rfl, hBA, csA, hlA, hcA, hrA⟩ := (hra.below rAsked_good hbk) k hkl
      obtain ⟨bB, oB, rfl, hBB, csB, hlB, hcB, hrB⟩ := (hrb.below rAsked_good hbk) k hkl
      have hrA' := rAsked_good.mono hrA hbk.size
      have hrB' := rAsked_good.mono hrB hbk.size
      generalize l[k] = m at *
      obtain ⟨a5, c5, rfl, h0, h1, h2, h3, h4, h5, _⟩ := hrA
      obtain ⟨b5, d5, rfl, g0, g1, g2, g3, g4, g5, _⟩ := hrB
      have k0 := hcA 0 _ rfl
      have j0 := hcB 0 _ rfl
      have k1 := hcA 1 _ rfl
      have j1 := hcB 1 _ rfl
      have k2 := hcA 2 _ rfl
      have j2 := hcB 2 _ rfl
      have k3 := hcA 3 _ rfl
      have j3 := hcB 3 _ rfl
      have k4 := hcA 4 _ rfl
      have j4 := hcB 4 _ rfl
      have k5 := hcA 5 _ rfl
      have j5 := hcB 5 _ rfl
      rw [Nat.add_zero] at k0 j0
      have hm : wAsked m ≤ 1099511627776 := by omega
      clear hcA hcB hlA hlB hra hrb hwk
      go_wp2_with fail
      go_region_with (go_at_call 37; refine (eqAsked_yes _ _ m _ (by exact hrA') (by exact hrB') hm).mono ?_; rintro e w1 ⟨rfl, hb1⟩)
      all_goals
        have hb2 : Below w.heap.size w w1 := Below.trans hbk (Below.mono (Below.trans (Below.drew (Below.refl _ _)) hb1) hbk.size)
        go_wp2_with fail
        go_roundw
        case rel => exact ⟨k + 1, by omega, by go_num, hb2⟩
        case measure => simp [intOf]; omega
    · go_wp2_with fail
      go_ret
      exact ⟨rfl, hbk⟩

set_option maxHeartbeats 1000000 in
theorem eqCluster_yes (cs1 cs2 : List Value) (m : MCluster) (w : World) (hr1 : rCluster w.heap.size w cs1 m) (hr2 : rCluster w.heap.size w cs2 m) (hsz : wCluster m ≤ 1099511627776) :
    Calls Try.prog 9 #[.agg cs1.toArray, .agg cs2.toArray] w fun e w' => e = .returned (.bool true) ∧ Below w.heap.size w w' := by
  obtain ⟨a0, c0, a1, c1, a2, c2, rfl, h0, h1, h2, _⟩ := hr1
  obtain ⟨b0, d0, b1, d1, b2, d2, rfl, g0, g1, g2, _⟩ := hr2
  have hsz' : (m.fReps.length + sumW wReplica m.fReps) + (m.fNet.length + sumW wMsg m.fNet) + (m.fAsked.length + sumW wAsked m.fAsked) ≤ 1099511627776 := hsz
  clear hsz
  have hbA : ∀ o1 o2, Below w.heap.size w ((w.alloc o1).alloc o2) := fun o1 o2 => ((Below.refl _ _).alloc (Nat.le_refl _) o1).alloc (by simp) o2
  go_enter Try.func9, Try.ntmps9
  have hC1 := fun (W : World) (hb : Below w.heap.size w W) => eqReplicaS_yes a0 b0 _ c0 d0 m.fReps W rfl (LeafL.mono rReplica_good (h0.below rReplica_good hb) hb.size) (LeafL.mono rReplica_good (g0.below rReplica_good hb) hb.size) (by omega)
  go_wp2_with fail
  refine Calls.mono (hC1 _ ?_) ?_
  · exact (hbA _ _)
  rintro e w1 ⟨rfl, hx1⟩
  obtain ⟨hc1, hf1⟩ := bcell hx1
  have hz1 : w.heap.size + 1 + 1 ≤ w1.heap.size := by have h := hx1.size; first | omega | (simp at h; omega)
  have hy1a : w.heap.size < w1.heap.size := by omega
  have hy1b : w.heap.size + 1 < w1.heap.size := by omega
  have hB1 : Below w.heap.size w w1 := Below.trans (hbA _ _) (hx1.mono (by first | (simp; omega) | simp | omega))
  clear hC1
  have hC2 := fun (W : World) (hb : Below w.heap.size w W) => eqMsgS_yes a1 b1 _ c1 d1 m.fNet W rfl (LeafL.mono rMsg_good (h1.below rMsg_good hb) hb.size) (LeafL.mono rMsg_good (g1.below rMsg_good hb) hb.size) (by omega)
  go_wp2_with fail
  refine Calls.mono (hC2 _ ?_) ?_
  · exact hB1
  rintro e w2 ⟨rfl, hx2⟩
  obtain ⟨hc2, hf2⟩ := bcell hx2
  have hz2 : w.heap.size + 1 + 1 ≤ w2.heap.size := by have h := hx2.size; first | omega | (simp at h; omega)
  have hy2a : w.heap.size < w2.heap.size := by omega
  have hy2b : w.heap.size + 1 < w2.heap.size := by omega
  have hB2 : Below w.heap.size w w2 := Below.trans hB1 (hx2.mono (by first | (simp; omega) | simp | omega))
  clear hC2
  have hC3 := fun (W : World) (hb : Below w.heap.size w W) => eqAskedS_yes a2 b2 _ c2 d2 m.fAsked W rfl (LeafL.mono rAsked_good (h2.below rAsked_good hb) hb.size) (LeafL.mono rAsked_good (g2.below rAsked_good hb) hb.size) (by omega)
  go_wp2_with fail
  refine Calls.mono (hC3 _ ?_) ?_
  · exact hB2
  rintro e w3 ⟨rfl, hx3⟩
  obtain ⟨hc3, hf3⟩ := bcell hx3
  have hz3 : w.heap.size + 1 + 1 ≤ w3.heap.size := by have h := hx3.size; first | omega | (simp at h; omega)
  have hy3a : w.heap.size < w3.heap.size := by omega
  have hy3b : w.heap.size + 1 < w3.heap.size := by omega
  have hB3 : Below w.heap.size w w3 := Below.trans hB2 (hx3.mono (by first | (simp; omega) | simp | omega))
  clear hC3
  go_wp2_with fail
  go_ret
  exact ⟨rfl, hB3⟩

end Go.Proofs.Ytembioiaeimegaa
