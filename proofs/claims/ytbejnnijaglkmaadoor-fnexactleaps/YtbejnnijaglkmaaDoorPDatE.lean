/-
  The laws compare: two that stand for the same are found the same.
-/
import Derived.Test.YtbejnnijaglkmaaDoorPDatZ
import Derived.Deep.RegionWith
namespace Go.Proofs.YtbejnnijaglkmaaDoor
open Go.RowKit
set_option linter.unusedVariables false

set_option maxHeartbeats 1000000 in
theorem eqPair_yes (cs1 cs2 : List Value) (m : MPair) (w : World) (hr1 : rPair w.heap.size w cs1 m) (hr2 : rPair w.heap.size w cs2 m) (hsz : wPair m ≤ 1099511627776) :
    Calls Tryd.prog 59 #[.agg cs1.toArray, .agg cs2.toArray] w fun e w' => e = .returned (.bool true) ∧ Below w.heap.size w w' := by
  obtain ⟨rfl, h0, h1, h2, _⟩ := hr1
  obtain ⟨rfl, g0, g1, g2, _⟩ := hr2
  have hsz' : m.fKey.size + m.fVal.size ≤ 1099511627776 := hsz
  clear hsz
  have hbA : ∀ o1 o2, Below w.heap.size w ((w.alloc o1).alloc o2) := fun o1 o2 => ((Below.refl _ _).alloc (Nat.le_refl _) o1).alloc (by simp) o2
  go_enter Tryd.func59, Tryd.ntmps59
  go_wp2_with fail
  go_ret
  exact ⟨rfl, (hbA _ _)⟩

set_option maxHeartbeats 1000000 in
theorem eqPairS_yes (a b : Option Addr) (n ca cb : Nat) (l : List MPair) (w : World) (hx : l.length = n) (hra : LeafL 3 rPair w.heap.size w a ca l) (hrb : LeafL 3 rPair w.heap.size w b cb l) (hsz : n + sumW wPair l ≤ 1099511627776) :
    Calls Tryd.prog 24 #[.slice a n ca, .slice b n cb] w fun e w' => e = .returned (.bool true) ∧ Below w.heap.size w w' := by
  have HX := Hid.mk hx
  clear hx
  replace hra := hra.2.2
  replace hrb := hrb.2.2
  go_enter Tryd.func24, Tryd.ntmps24
  go_wp2_with fail
  go_loopw [5] (fun i wr => ∃ k : Nat, k ≤ n ∧ i = .int .i64 k ∧ Below w.heap.size w wr) (fun i _ => n - (intOf i).toNat)
  case atStart => exact ⟨0, Nat.zero_le _, rfl, Below.refl _ _⟩
  case round =>
    obtain ⟨k, hk, rfl, hbk⟩ := hrel
    by_cases hlt : k < n
    · have hkl : k < l.length := by rw [HX.out]; exact hlt
      have hwk := sumW_le (f := wPair) hkl
      obtain ⟨bA, oA, rfl, hBA, csA, hlA, hcA, hrA⟩ := (hra.below rPair_good hbk) k hkl
      obtain ⟨bB, oB, rfl, hBB, csB, hlB, hcB, hrB⟩ := (hrb.below rPair_good hbk) k hkl
      have hrA' := rPair_good.mono hrA hbk.size
      have hrB' := rPair_good.mono hrB hbk.size
      generalize l[k] = m at *
      obtain ⟨rfl, h0, h1, h2, _⟩ := hrA
      obtain ⟨rfl, g0, g1, g2, _⟩ := hrB
      have k0 := hcA 0 _ rfl
      have j0 := hcB 0 _ rfl
      have k1 := hcA 1 _ rfl
      have j1 := hcB 1 _ rfl
      have k2 := hcA 2 _ rfl
      have j2 := hcB 2 _ rfl
      rw [Nat.add_zero] at k0 j0
      have hm : wPair m ≤ 1099511627776 := by omega
      clear hcA hcB hlA hlB hra hrb hwk
      go_wp2_with fail
      go_region_with (go_at_call 59; refine (eqPair_yes _ _ m _ (by exact hrA') (by exact hrB') hm).mono ?_; rintro e w1 ⟨rfl, hb1⟩)
      all_goals
        have hb2 : Below w.heap.size w w1 := Below.trans hbk (Below.mono (Below.trans (Below.drew (Below.refl _ _)) hb1) hbk.size)
        go_wp2_with fail
        go_roundw
        case rel => exact ⟨k + 1, by omega, by go_num, hb2⟩
        case measure => simp [intOf]; omega
    · go_wp2_with fail
      go_ret
      exact ⟨rfl, hbk⟩

set_option maxHeartbeats 1000000 in
theorem eqNode_yes (cs1 cs2 : List Value) (m : MNode) (w : World) (hr1 : rNode w.heap.size w cs1 m) (hr2 : rNode w.heap.size w cs2 m) (hsz : wNode m ≤ 1099511627776) :
    Calls Tryd.prog 82 #[.agg cs1.toArray, .agg cs2.toArray] w fun e w' => e = .returned (.bool true) ∧ Below w.heap.size w w' := by
  obtain ⟨rfl, h0, h1, h2, h3, _⟩ := hr1
  obtain ⟨rfl, g0, g1, g2, g3, _⟩ := hr2
  have hsz' : m.fP.fKey.size + m.fP.fVal.size ≤ 1099511627776 := hsz
  clear hsz
  have hbA : ∀ o1 o2, Below w.heap.size w ((w.alloc o1).alloc o2) := fun o1 o2 => ((Below.refl _ _).alloc (Nat.le_refl _) o1).alloc (by simp) o2
  go_enter Tryd.func82, Tryd.ntmps82
  have hC1 := fun (W : World) (hb : Below w.heap.size w W) => eqPair_yes [.string m.fP.fKey, .string m.fP.fVal, .bool m.fP.fGone] [.string m.fP.fKey, .string m.fP.fVal, .bool m.fP.fGone] m.fP W ⟨rfl, h0, h1, h2, trivial⟩ ⟨rfl, g0, g1, g2, trivial⟩ (by have h : wPair m.fP = m.fP.fKey.size + m.fP.fVal.size := rfl; omega)
  go_wp2_with fail
  refine Calls.mono (hC1 _ ?_) ?_
  · exact (hbA _ _)
  rintro e w1 ⟨rfl, hx1⟩
  obtain ⟨hc1, hf1⟩ := bcell hx1
  have hz1 : w.heap.size + 1 + 1 ≤ w1.heap.size := by have h := hx1.size; first | omega | (simp at h; omega)
  have hy1a : w.heap.size < w1.heap.size := by omega
  have hy1b : w.heap.size + 1 < w1.heap.size := by omega
  have hB1 : Below w.heap.size w w1 := Below.trans (hbA _ _) (hx1.mono (by first | (simp; omega) | simp | omega))
  clear hC1
  go_wp2_with fail
  go_ret
  exact ⟨rfl, hB1⟩

set_option maxHeartbeats 1000000 in
theorem eqNodeS_yes (a b : Option Addr) (n ca cb : Nat) (l : List MNode) (w : World) (hx : l.length = n) (hra : LeafL 4 rNode w.heap.size w a ca l) (hrb : LeafL 4 rNode w.heap.size w b cb l) (hsz : n + sumW wNode l ≤ 1099511627776) :
    Calls Tryd.prog 49 #[.slice a n ca, .slice b n cb] w fun e w' => e = .returned (.bool true) ∧ Below w.heap.size w w' := by
  have HX := Hid.mk hx
  clear hx
  replace hra := hra.2.2
  replace hrb := hrb.2.2
  go_enter Tryd.func49, Tryd.ntmps49
  go_wp2_with fail
  go_loopw [5] (fun i wr => ∃ k : Nat, k ≤ n ∧ i = .int .i64 k ∧ Below w.heap.size w wr) (fun i _ => n - (intOf i).toNat)
  case atStart => exact ⟨0, Nat.zero_le _, rfl, Below.refl _ _⟩
  case round =>
    obtain ⟨k, hk, rfl, hbk⟩ := hrel
    by_cases hlt : k < n
    · have hkl : k < l.length := by rw [HX.out]; exact hlt
      have hwk := sumW_le (f := wNode) hkl
      obtain ⟨bA, oA, rfl, hBA, csA, hlA, hcA, hrA⟩ := (hra.below rNode_good hbk) k hkl
      obtain ⟨bB, oB, rfl, hBB, csB, hlB, hcB, hrB⟩ := (hrb.below rNode_good hbk) k hkl
      have hrA' := rNode_good.mono hrA hbk.size
      have hrB' := rNode_good.mono hrB hbk.size
      generalize l[k] = m at *
      obtain ⟨rfl, h0, h1, h2, h3, _⟩ := hrA
      obtain ⟨rfl, g0, g1, g2, g3, _⟩ := hrB
      have k0 := hcA 0 _ rfl
      have j0 := hcB 0 _ rfl
      have k1 := hcA 1 _ rfl
      have j1 := hcB 1 _ rfl
      have k2 := hcA 2 _ rfl
      have j2 := hcB 2 _ rfl
      have k3 := hcA 3 _ rfl
      have j3 := hcB 3 _ rfl
      rw [Nat.add_zero] at k0 j0
      have hm : wNode m ≤ 1099511627776 := by omega
      clear hcA hcB hlA hlB hra hrb hwk
      go_wp2_with fail
      go_region_with (go_at_call 82; refine (eqNode_yes _ _ m _ (by exact hrA') (by exact hrB') hm).mono ?_; rintro e w1 ⟨rfl, hb1⟩)
      all_goals
        have hb2 : Below w.heap.size w w1 := Below.trans hbk (Below.mono (Below.trans (Below.drew (Below.refl _ _)) hb1) hbk.size)
        go_wp2_with fail
        go_roundw
        case rel => exact ⟨k + 1, by omega, by go_num, hb2⟩
        case measure => simp [intOf]; omega
    · go_wp2_with fail
      go_ret
      exact ⟨rfl, hbk⟩

set_option maxHeartbeats 1000000 in
theorem eqMem_yes (cs1 cs2 : List Value) (m : MMem) (w : World) (hr1 : rMem w.heap.size w cs1 m) (hr2 : rMem w.heap.size w cs2 m) (hsz : wMem m ≤ 1099511627776) :
    Calls Tryd.prog 17 #[.agg cs1.toArray, .agg cs2.toArray] w fun e w' => e = .returned (.bool true) ∧ Below w.heap.size w w' := by
  obtain ⟨a0, c0, rfl, h0, _⟩ := hr1
  obtain ⟨b0, d0, rfl, g0, _⟩ := hr2
  have hsz' : (m.fNodes.length + sumW wNode m.fNodes) ≤ 1099511627776 := hsz
  clear hsz
  have hbA : ∀ o1 o2, Below w.heap.size w ((w.alloc o1).alloc o2) := fun o1 o2 => ((Below.refl _ _).alloc (Nat.le_refl _) o1).alloc (by simp) o2
  go_enter Tryd.func17, Tryd.ntmps17
  have hC1 := fun (W : World) (hb : Below w.heap.size w W) => eqNodeS_yes a0 b0 _ c0 d0 m.fNodes W rfl (LeafL.mono rNode_good (h0.below rNode_good hb) hb.size) (LeafL.mono rNode_good (g0.below rNode_good hb) hb.size) (by omega)
  go_wp2_with fail
  refine Calls.mono (hC1 _ ?_) ?_
  · exact (hbA _ _)
  rintro e w1 ⟨rfl, hx1⟩
  obtain ⟨hc1, hf1⟩ := bcell hx1
  have hz1 : w.heap.size + 1 + 1 ≤ w1.heap.size := by have h := hx1.size; first | omega | (simp at h; omega)
  have hy1a : w.heap.size < w1.heap.size := by omega
  have hy1b : w.heap.size + 1 < w1.heap.size := by omega
  have hB1 : Below w.heap.size w w1 := Below.trans (hbA _ _) (hx1.mono (by first | (simp; omega) | simp | omega))
  clear hC1
  go_wp2_with fail
  go_ret
  exact ⟨rfl, hB1⟩

end Go.Proofs.YtbejnnijaglkmaaDoor
