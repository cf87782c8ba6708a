/-
  The laws compare: two that stand for the same are found the same.
-/
import Derived.Test.YtnohnkcijomdjaaGreatDoorBasE
import Derived.Test.YtnohnkcijomdjaaGreatDoorDat
import Derived.Deep.RegionWith
namespace Go.Proofs.YtnohnkcijomdjaaGreatDoor
open Go.RowKit
set_option linter.unusedVariables false

set_option maxHeartbeats 1000000 in
theorem eqInode_yes (cs1 cs2 : List Value) (m : MInode) (w : World) (hr1 : rInode w.heap.size w cs1 m) (hr2 : rInode w.heap.size w cs2 m) (hsz : wInode m ≤ 1099511627776) :
    Calls Tryz.prog 63 #[.agg cs1.toArray, .agg cs2.toArray] w fun e w' => e = .returned (.bool true) ∧ Below w.heap.size w w' := by
  obtain ⟨a1, c1, rfl, h0, h1, h2, _⟩ := hr1
  obtain ⟨b1, d1, rfl, g0, g1, g2, _⟩ := hr2
  have hsz' : m.fData.length ≤ 1099511627776 := hsz
  clear hsz
  have hbA : ∀ o1 o2, Below w.heap.size w ((w.alloc o1).alloc o2) := fun o1 o2 => ((Below.refl _ _).alloc (Nat.le_refl _) o1).alloc (by simp) o2
  go_enter Tryz.func63, Tryz.ntmps63
  have hC1 := fun (W : World) (hb : Below w.heap.size w W) => eqByteS_any a1 b1 _ _ c1 d1 m.fData m.fData W w.heap.size rfl rfl (by omega) (h1.2.2.1.below hb) (g1.2.2.1.below hb)
  go_wp2_with fail
  refine Calls.mono (hC1 _ ?_) ?_
  · exact (hbA _ _)
  rintro e w1 ⟨rfl, d, hw1⟩
  rw [decide_eq_true trivial]
  have hB1 : Below w.heap.size w w1 := by rw [hw1]; exact below_drewN (hbA _ _) d
  subst hw1
  clear hC1
  go_wp2_with fail
  go_ret
  exact ⟨rfl, hB1⟩

set_option maxHeartbeats 1000000 in
theorem eqInodeS_yes (a b : Option Addr) (n ca cb : Nat) (l : List MInode) (w : World) (hx : l.length = n) (hra : LeafL 3 rInode w.heap.size w a ca l) (hrb : LeafL 3 rInode w.heap.size w b cb l) (hsz : n + sumW wInode l ≤ 1099511627776) :
    Calls Tryz.prog 33 #[.slice a n ca, .slice b n cb] w fun e w' => e = .returned (.bool true) ∧ Below w.heap.size w w' := by
  have HX := Hid.mk hx
  clear hx
  replace hra := hra.2.2
  replace hrb := hrb.2.2
  go_enter Tryz.func33, Tryz.ntmps33
  go_wp2_with fail
  go_loopw [5] (fun i wr => ∃ k : Nat, k ≤ n ∧ i = .int .i64 k ∧ Below w.heap.size w wr) (fun i _ => n - (intOf i).toNat)
  case atStart => exact ⟨0, Nat.zero_le _, rfl, Below.refl _ _⟩
  case round =>
    obtain ⟨k, hk, rfl, hbk⟩ := hrel
    by_cases hlt : k < n
    · have hkl : k < l.length := by rw [HX.out]; exact hlt
      have hwk := sumW_le (f := wInode) hkl
      obtain ⟨bA, oA, rfl, hBA, csA, hlA, hcA, hrA⟩ := (hra.below rInode_good hbk) k hkl
      obtain ⟨bB, oB, rfl, hBB, csB, hlB, hcB, hrB⟩ := (hrb.below rInode_good hbk) k hkl
      have hrA' := rInode_good.mono hrA hbk.size
      have hrB' := rInode_good.mono hrB hbk.size
      generalize l[k] = m at *
      obtain ⟨a1, c1, rfl, h0, h1, h2, _⟩ := hrA
      obtain ⟨b1, d1, rfl, g0, g1, g2, _⟩ := hrB
      have k0 := hcA 0 _ rfl
      have j0 := hcB 0 _ rfl
      have k1 := hcA 1 _ rfl
      have j1 := hcB 1 _ rfl
      have k2 := hcA 2 _ rfl
      have j2 := hcB 2 _ rfl
      rw [Nat.add_zero] at k0 j0
      have hm : wInode m ≤ 1099511627776 := by omega
      clear hcA hcB hlA hlB hra hrb hwk
      go_wp2_with fail
      go_region_with (go_at_call 63; refine (eqInode_yes _ _ m _ (by exact hrA') (by exact hrB') hm).mono ?_; rintro e w1 ⟨rfl, hb1⟩)
      all_goals
        have hb2 : Below w.heap.size w w1 := Below.trans hbk (Below.mono (Below.trans (Below.drew (Below.refl _ _)) hb1) hbk.size)
        go_wp2_with fail
        go_roundw
        case rel => exact ⟨k + 1, by omega, by go_num, hb2⟩
        case measure => simp [intOf]; omega
    · go_wp2_with fail
      go_ret
      exact ⟨rfl, hbk⟩

set_option maxHeartbeats 1000000 in
theorem eqEntry_yes (cs1 cs2 : List Value) (m : MEntry) (w : World) (hr1 : rEntry w.heap.size w cs1 m) (hr2 : rEntry w.heap.size w cs2 m) (hsz : wEntry m ≤ 1099511627776) :
    Calls Tryz.prog 64 #[.agg cs1.toArray, .agg cs2.toArray] w fun e w' => e = .returned (.bool true) ∧ Below w.heap.size w w' := by
  obtain ⟨rfl, h0, h1, _⟩ := hr1
  obtain ⟨rfl, g0, g1, _⟩ := hr2
  have hsz' : m.fName.size ≤ 1099511627776 := hsz
  clear hsz
  have hbA : ∀ o1 o2, Below w.heap.size w ((w.alloc o1).alloc o2) := fun o1 o2 => ((Below.refl _ _).alloc (Nat.le_refl _) o1).alloc (by simp) o2
  go_enter Tryz.func64, Tryz.ntmps64
  go_wp2_with fail
  go_ret
  exact ⟨rfl, (hbA _ _)⟩

set_option maxHeartbeats 1000000 in
theorem eqEntryS_yes (a b : Option Addr) (n ca cb : Nat) (l : List MEntry) (w : World) (hx : l.length = n) (hra : LeafL 2 rEntry w.heap.size w a ca l) (hrb : LeafL 2 rEntry w.heap.size w b cb l) (hsz : n + sumW wEntry l ≤ 1099511627776) :
    Calls Tryz.prog 34 #[.slice a n ca, .slice b n cb] w fun e w' => e = .returned (.bool true) ∧ Below w.heap.size w w' := by
  have HX := Hid.mk hx
  clear hx
  replace hra := hra.2.2
  replace hrb := hrb.2.2
  go_enter Tryz.func34, Tryz.ntmps34
  go_wp2_with fail
  go_loopw [5] (fun i wr => ∃ k : Nat, k ≤ n ∧ i = .int .i64 k ∧ Below w.heap.size w wr) (fun i _ => n - (intOf i).toNat)
  case atStart => exact ⟨0, Nat.zero_le _, rfl, Below.refl _ _⟩
  case round =>
    obtain ⟨k, hk, rfl, hbk⟩ := hrel
    by_cases hlt : k < n
    · have hkl : k < l.length := by rw [HX.out]; exact hlt
      have hwk := sumW_le (f := wEntry) hkl
      obtain ⟨bA, oA, rfl, hBA, csA, hlA, hcA, hrA⟩ := (hra.below rEntry_good hbk) k hkl
      obtain ⟨bB, oB, rfl, hBB, csB, hlB, hcB, hrB⟩ := (hrb.below rEntry_good hbk) k hkl
      have hrA' := rEntry_good.mono hrA hbk.size
      have hrB' := rEntry_good.mono hrB hbk.size
      generalize l[k] = m at *
      obtain ⟨rfl, h0, h1, _⟩ := hrA
      obtain ⟨rfl, g0, g1, _⟩ := hrB
      have k0 := hcA 0 _ rfl
      have j0 := hcB 0 _ rfl
      have k1 := hcA 1 _ rfl
      have j1 := hcB 1 _ rfl
      rw [Nat.add_zero] at k0 j0
      have hm : wEntry m ≤ 1099511627776 := by omega
      clear hcA hcB hlA hlB hra hrb hwk
      go_wp2_with fail
      go_region_with (go_at_call 64; refine (eqEntry_yes _ _ m _ (by exact hrA') (by exact hrB') hm).mono ?_; rintro e w1 ⟨rfl, hb1⟩)
      all_goals
        have hb2 : Below w.heap.size w w1 := Below.trans hbk (Below.mono (Below.trans (Below.drew (Below.refl _ _)) hb1) hbk.size)
        go_wp2_with fail
        go_roundw
        case rel => exact ⟨k + 1, by omega, by go_num, hb2⟩
        case measure => simp [intOf]; omega
    · go_wp2_with fail
      go_ret
      exact ⟨rfl, hbk⟩

set_option maxHeartbeats 1000000 in
theorem eqDisk_yes (cs1 cs2 : List Value) (m : MDisk) (w : World) (hr1 : rDisk w.heap.size w cs1 m) (hr2 : rDisk w.heap.size w cs2 m) (hsz : wDisk m ≤ 1099511627776) :
    Calls Tryz.prog 14 #[.agg cs1.toArray, .agg cs2.toArray] w fun e w' => e = .returned (.bool true) ∧ Below w.heap.size w w' := by
  obtain ⟨a0, c0, a1, c1, a2, c2, rfl, h0, h1, h2, h3, _⟩ := hr1
  obtain ⟨b0, d0, b1, d1, b2, d2, rfl, g0, g1, g2, g3, _⟩ := hr2
  have hsz' : (m.fInodes.length + sumW wInode m.fInodes) + (m.fNames.length + sumW wEntry m.fNames) + (m.fSafe.length + sumW wEntry m.fSafe) ≤ 1099511627776 := hsz
  clear hsz
  have hbA : ∀ o1 o2, Below w.heap.size w ((w.alloc o1).alloc o2) := fun o1 o2 => ((Below.refl _ _).alloc (Nat.le_refl _) o1).alloc (by simp) o2
  go_enter Tryz.func14, Tryz.ntmps14
  have hC1 := fun (W : World) (hb : Below w.heap.size w W) => eqInodeS_yes a0 b0 _ c0 d0 m.fInodes W rfl (LeafL.mono rInode_good (h0.below rInode_good hb) hb.size) (LeafL.mono rInode_good (g0.below rInode_good hb) hb.size) (by omega)
  go_wp2_with fail
  refine Calls.mono (hC1 _ ?_) ?_
  · exact (hbA _ _)
  rintro e w1 ⟨rfl, hx1⟩
  obtain ⟨hc1, hf1⟩ := bcell hx1
  have hz1 : w.heap.size + 1 + 1 ≤ w1.heap.size := by have h := hx1.size; first | omega | (simp at h; omega)
  have hy1a : w.heap.size < w1.heap.size := by omega
  have hy1b : w.heap.size + 1 < w1.heap.size := by omega
  have hB1 : Below w.heap.size w w1 := Below.trans (hbA _ _) (hx1.mono (by first | (simp; omega) | simp | omega))
  clear hC1
  have hC2 := fun (W : World) (hb : Below w.heap.size w W) => eqEntryS_yes a1 b1 _ c1 d1 m.fNames W rfl (LeafL.mono rEntry_good (h1.below rEntry_good hb) hb.size) (LeafL.mono rEntry_good (g1.below rEntry_good hb) hb.size) (by omega)
  go_wp2_with fail
  refine Calls.mono (hC2 _ ?_) ?_
  · exact hB1
  rintro e w2 ⟨rfl, hx2⟩
  obtain ⟨hc2, hf2⟩ := bcell hx2
  have hz2 : w.heap.size + 1 + 1 ≤ w2.heap.size := by have h := hx2.size; first | omega | (simp at h; omega)
  have hy2a : w.heap.size < w2.heap.size := by omega
  have hy2b : w.heap.size + 1 < w2.heap.size := by omega
  have hB2 : Below w.heap.size w w2 := Below.trans hB1 (hx2.mono (by first | (simp; omega) | simp | omega))
  clear hC2
  have hC3 := fun (W : World) (hb : Below w.heap.size w W) => eqEntryS_yes a2 b2 _ c2 d2 m.fSafe W rfl (LeafL.mono rEntry_good (h2.below rEntry_good hb) hb.size) (LeafL.mono rEntry_good (g2.below rEntry_good hb) hb.size) (by omega)
  go_wp2_with fail
  refine Calls.mono (hC3 _ ?_) ?_
  · exact hB2
  rintro e w3 ⟨rfl, hx3⟩
  obtain ⟨hc3, hf3⟩ := bcell hx3
  have hz3 : w.heap.size + 1 + 1 ≤ w3.heap.size := by have h := hx3.size; first | omega | (simp at h; omega)
  have hy3a : w.heap.size < w3.heap.size := by omega
  have hy3b : w.heap.size + 1 < w3.heap.size := by omega
  have hB3 : Below w.heap.size w w3 := Below.trans hB2 (hx3.mono (by first | (simp; omega) | simp | omega))
  clear hC3
  go_wp2_with fail
  go_ret
  exact ⟨rfl, hB3⟩

end Go.Proofs.YtnohnkcijomdjaaGreatDoor
