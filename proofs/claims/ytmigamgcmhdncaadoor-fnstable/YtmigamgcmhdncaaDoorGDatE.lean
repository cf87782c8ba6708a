/-
  The laws compare: two that stand for the same are found the same.
-/
import Derived.Test.YtmigamgcmhdncaaDoorGDatZ
import Derived.Deep.RegionWith
namespace Go.Proofs.YtmigamgcmhdncaaDoor
open Go.RowKit
set_option linter.unusedVariables false

set_option maxHeartbeats 1000000 in
theorem eqDot_yes (cs1 cs2 : List Value) (m : MDot) (w : World) (hr1 : rDot w.heap.size w cs1 m) (hr2 : rDot w.heap.size w cs2 m) (hsz : wDot m ≤ 1099511627776) :
    Calls Tryd.prog 41 #[.agg cs1.toArray, .agg cs2.toArray] w fun e w' => e = .returned (.bool true) ∧ Below w.heap.size w w' := by
  obtain ⟨rfl, h0, h1, _⟩ := hr1
  obtain ⟨rfl, g0, g1, _⟩ := hr2
  have hsz' : 0 ≤ 1099511627776 := hsz
  clear hsz
  have hbA : ∀ o1 o2, Below w.heap.size w ((w.alloc o1).alloc o2) := fun o1 o2 => ((Below.refl _ _).alloc (Nat.le_refl _) o1).alloc (by simp) o2
  go_enter Tryd.func41, Tryd.ntmps41
  go_wp2_with fail
  go_ret
  exact ⟨rfl, (hbA _ _)⟩

set_option maxHeartbeats 1000000 in
theorem eqDotS_yes (a b : Option Addr) (n ca cb : Nat) (l : List MDot) (w : World) (hx : l.length = n) (hra : LeafL 2 rDot w.heap.size w a ca l) (hrb : LeafL 2 rDot w.heap.size w b cb l) (hsz : n + sumW wDot l ≤ 1099511627776) :
    Calls Tryd.prog 13 #[.slice a n ca, .slice b n cb] w fun e w' => e = .returned (.bool true) ∧ Below w.heap.size w w' := by
  have HX := Hid.mk hx
  clear hx
  replace hra := hra.2.2
  replace hrb := hrb.2.2
  go_enter Tryd.func13, Tryd.ntmps13
  go_wp2_with fail
  go_loopw [5] (fun i wr => ∃ k : Nat, k ≤ n ∧ i = .int .i64 k ∧ Below w.heap.size w wr) (fun i _ => n - (intOf i).toNat)
  case atStart => exact ⟨0, Nat.zero_le _, rfl, Below.refl _ _⟩
  case round =>
    obtain ⟨k, hk, rfl, hbk⟩ := hrel
    by_cases hlt : k < n
    · have hkl : k < l.length := by rw [HX.out]; exact hlt
      have hwk := sumW_le (f := wDot) hkl
      obtain ⟨bA, oA, rfl, hBA, csA, hlA, hcA, hrA⟩ := (hra.below rDot_good hbk) k hkl
      obtain ⟨bB, oB, rfl, hBB, csB, hlB, hcB, hrB⟩ := (hrb.below rDot_good hbk) k hkl
      have hrA' := rDot_good.mono hrA hbk.size
      have hrB' := rDot_good.mono hrB hbk.size
      generalize l[k] = m at *
      obtain ⟨rfl, h0, h1, _⟩ := hrA
      obtain ⟨rfl, g0, g1, _⟩ := hrB
      have k0 := hcA 0 _ rfl
      have j0 := hcB 0 _ rfl
      have k1 := hcA 1 _ rfl
      have j1 := hcB 1 _ rfl
      rw [Nat.add_zero] at k0 j0
      have hm : wDot m ≤ 1099511627776 := by omega
      clear hcA hcB hlA hlB hra hrb hwk
      go_wp2_with fail
      go_region_with (go_at_call 41; refine (eqDot_yes _ _ m _ (by exact hrA') (by exact hrB') hm).mono ?_; rintro e w1 ⟨rfl, hb1⟩)
      all_goals
        have hb2 : Below w.heap.size w w1 := Below.trans hbk (Below.mono (Below.trans (Below.drew (Below.refl _ _)) hb1) hbk.size)
        go_wp2_with fail
        go_roundw
        case rel => exact ⟨k + 1, by omega, by go_num, hb2⟩
        case measure => simp [intOf]; omega
    · go_wp2_with fail
      go_ret
      exact ⟨rfl, hbk⟩

set_option maxHeartbeats 1000000 in
theorem eqItem_yes (cs1 cs2 : List Value) (m : MItem) (w : World) (hr1 : rItem w.heap.size w cs1 m) (hr2 : rItem w.heap.size w cs2 m) (hsz : wItem m ≤ 1099511627776) :
    Calls Tryd.prog 73 #[.agg cs1.toArray, .agg cs2.toArray] w fun e w' => e = .returned (.bool true) ∧ Below w.heap.size w w' := by
  obtain ⟨a2, c2, rfl, h0, h1, h2, _⟩ := hr1
  obtain ⟨b2, d2, rfl, g0, g1, g2, _⟩ := hr2
  have hsz' : (m.fDeps.length + sumW wDot m.fDeps) ≤ 1099511627776 := hsz
  clear hsz
  have hbA : ∀ o1 o2, Below w.heap.size w ((w.alloc o1).alloc o2) := fun o1 o2 => ((Below.refl _ _).alloc (Nat.le_refl _) o1).alloc (by simp) o2
  go_enter Tryd.func73, Tryd.ntmps73
  have hC1 := fun (W : World) (hb : Below w.heap.size w W) => eqDot_yes [.int .i64 m.fD.fR, .int .i64 m.fD.fN] [.int .i64 m.fD.fR, .int .i64 m.fD.fN] m.fD W ⟨rfl, h0, h1, trivial⟩ ⟨rfl, g0, g1, trivial⟩ (by have h : wDot m.fD = 0 := rfl; omega)
  go_wp2_with fail
  refine Calls.mono (hC1 _ ?_) ?_
  · exact (hbA _ _)
  rintro e w1 ⟨rfl, hx1⟩
  obtain ⟨hc1, hf1⟩ := bcell hx1
  have hz1 : w.heap.size + 1 + 1 ≤ w1.heap.size := by have h := hx1.size; first | omega | (simp at h; omega)
  have hy1a : w.heap.size < w1.heap.size := by omega
  have hy1b : w.heap.size + 1 < w1.heap.size := by omega
  have hB1 : Below w.heap.size w w1 := Below.trans (hbA _ _) (hx1.mono (by first | (simp; omega) | simp | omega))
  clear hC1
  have hC2 := fun (W : World) (hb : Below w.heap.size w W) => eqDotS_yes a2 b2 _ c2 d2 m.fDeps W rfl (LeafL.mono rDot_good (h2.below rDot_good hb) hb.size) (LeafL.mono rDot_good (g2.below rDot_good hb) hb.size) (by omega)
  go_wp2_with fail
  refine Calls.mono (hC2 _ ?_) ?_
  · exact hB1
  rintro e w2 ⟨rfl, hx2⟩
  obtain ⟨hc2, hf2⟩ := bcell hx2
  have hz2 : w.heap.size + 1 + 1 ≤ w2.heap.size := by have h := hx2.size; first | omega | (simp at h; omega)
  have hy2a : w.heap.size < w2.heap.size := by omega
  have hy2b : w.heap.size + 1 < w2.heap.size := by omega
  have hB2 : Below w.heap.size w w2 := Below.trans hB1 (hx2.mono (by first | (simp; omega) | simp | omega))
  clear hC2
  go_wp2_with fail
  go_ret
  exact ⟨rfl, hB2⟩

set_option maxHeartbeats 1000000 in
theorem eqItemS_yes (a b : Option Addr) (n ca cb : Nat) (l : List MItem) (w : World) (hx : l.length = n) (hra : LeafL 3 rItem w.heap.size w a ca l) (hrb : LeafL 3 rItem w.heap.size w b cb l) (hsz : n + sumW wItem l ≤ 1099511627776) :
    Calls Tryd.prog 42 #[.slice a n ca, .slice b n cb] w fun e w' => e = .returned (.bool true) ∧ Below w.heap.size w w' := by
  have HX := Hid.mk hx
  clear hx
  replace hra := hra.2.2
  replace hrb := hrb.2.2
  go_enter Tryd.func42, Tryd.ntmps42
  go_wp2_with fail
  go_loopw [5] (fun i wr => ∃ k : Nat, k ≤ n ∧ i = .int .i64 k ∧ Below w.heap.size w wr) (fun i _ => n - (intOf i).toNat)
  case atStart => exact ⟨0, Nat.zero_le _, rfl, Below.refl _ _⟩
  case round =>
    obtain ⟨k, hk, rfl, hbk⟩ := hrel
    by_cases hlt : k < n
    · have hkl : k < l.length := by rw [HX.out]; exact hlt
      have hwk := sumW_le (f := wItem) hkl
      obtain ⟨bA, oA, rfl, hBA, csA, hlA, hcA, hrA⟩ := (hra.below rItem_good hbk) k hkl
      obtain ⟨bB, oB, rfl, hBB, csB, hlB, hcB, hrB⟩ := (hrb.below rItem_good hbk) k hkl
      have hrA' := rItem_good.mono hrA hbk.size
      have hrB' := rItem_good.mono hrB hbk.size
      generalize l[k] = m at *
      obtain ⟨a2, c2, rfl, h0, h1, h2, _⟩ := hrA
      obtain ⟨b2, d2, rfl, g0, g1, g2, _⟩ := hrB
      have k0 := hcA 0 _ rfl
      have j0 := hcB 0 _ rfl
      have k1 := hcA 1 _ rfl
      have j1 := hcB 1 _ rfl
      have k2 := hcA 2 _ rfl
      have j2 := hcB 2 _ rfl
      rw [Nat.add_zero] at k0 j0
      have hm : wItem m ≤ 1099511627776 := by omega
      clear hcA hcB hlA hlB hra hrb hwk
      go_wp2_with fail
      go_region_with (go_at_call 73; refine (eqItem_yes _ _ m _ (by exact hrA') (by exact hrB') hm).mono ?_; rintro e w1 ⟨rfl, hb1⟩)
      all_goals
        have hb2 : Below w.heap.size w w1 := Below.trans hbk (Below.mono (Below.trans (Below.drew (Below.refl _ _)) hb1) hbk.size)
        go_wp2_with fail
        go_roundw
        case rel => exact ⟨k + 1, by omega, by go_num, hb2⟩
        case measure => simp [intOf]; omega
    · go_wp2_with fail
      go_ret
      exact ⟨rfl, hbk⟩

set_option maxHeartbeats 1000000 in
theorem eqGraph_yes (cs1 cs2 : List Value) (m : MGraph) (w : World) (hr1 : rGraph w.heap.size w cs1 m) (hr2 : rGraph w.heap.size w cs2 m) (hsz : wGraph m ≤ 1099511627776) :
    Calls Tryd.prog 14 #[.agg cs1.toArray, .agg cs2.toArray] w fun e w' => e = .returned (.bool true) ∧ Below w.heap.size w w' := by
  obtain ⟨a0, c0, rfl, h0, _⟩ := hr1
  obtain ⟨b0, d0, rfl, g0, _⟩ := hr2
  have hsz' : (m.fItems.length + sumW wItem m.fItems) ≤ 1099511627776 := hsz
  clear hsz
  have hbA : ∀ o1 o2, Below w.heap.size w ((w.alloc o1).alloc o2) := fun o1 o2 => ((Below.refl _ _).alloc (Nat.le_refl _) o1).alloc (by simp) o2
  go_enter Tryd.func14, Tryd.ntmps14
  have hC1 := fun (W : World) (hb : Below w.heap.size w W) => eqItemS_yes a0 b0 _ c0 d0 m.fItems W rfl (LeafL.mono rItem_good (h0.below rItem_good hb) hb.size) (LeafL.mono rItem_good (g0.below rItem_good hb) hb.size) (by omega)
  go_wp2_with fail
  refine Calls.mono (hC1 _ ?_) ?_
  · exact (hbA _ _)
  rintro e w1 ⟨rfl, hx1⟩
  obtain ⟨hc1, hf1⟩ := bcell hx1
  have hz1 : w.heap.size + 1 + 1 ≤ w1.heap.size := by have h := hx1.size; first | omega | (simp at h; omega)
  have hy1a : w.heap.size < w1.heap.size := by omega
  have hy1b : w.heap.size + 1 < w1.heap.size := by omega
  have hB1 : Below w.heap.size w w1 := Below.trans (hbA _ _) (hx1.mono (by first | (simp; omega) | simp | omega))
  clear hC1
  go_wp2_with fail
  go_ret
  exact ⟨rfl, hB1⟩

end Go.Proofs.YtmigamgcmhdncaaDoor
