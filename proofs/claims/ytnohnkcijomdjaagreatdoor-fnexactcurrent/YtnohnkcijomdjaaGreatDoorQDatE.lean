/-
  The laws compare: two that stand for the same are found the same.
-/
import Derived.Test.YtnohnkcijomdjaaGreatDoorRows
import Derived.Test.YtnohnkcijomdjaaGreatDoorKit
import Derived.Test.YtnohnkcijomdjaaGreatDoorDatN
import Derived.Test.YtnohnkcijomdjaaGreatDoorChecked
import Derived.Test.YtnohnkcijomdjaaGreatDoorQDat
import Derived.Deep.RegionWith
namespace Go.Proofs.YtnohnkcijomdjaaGreatDoor
open Go.RowKit
set_option linter.unusedVariables false

set_option maxHeartbeats 1000000 in
theorem eqMeta_yes (cs1 cs2 : List Value) (m : MMeta) (w : World) (hr1 : rMeta w.heap.size w cs1 m) (hr2 : rMeta w.heap.size w cs2 m) (hsz : wMeta m ≤ 1099511627776) :
    Calls Tryz.prog 52 #[.agg cs1.toArray, .agg cs2.toArray] w fun e w' => e = .returned (.bool true) ∧ Below w.heap.size w w' := by
  obtain ⟨rfl, h0, h1, h2, h3, _⟩ := hr1
  obtain ⟨rfl, g0, g1, g2, g3, _⟩ := hr2
  have hsz' : m.fLo.size + m.fHi.size ≤ 1099511627776 := hsz
  clear hsz
  have hbA : ∀ o1 o2, Below w.heap.size w ((w.alloc o1).alloc o2) := fun o1 o2 => ((Below.refl _ _).alloc (Nat.le_refl _) o1).alloc (by simp) o2
  go_enter Tryz.func52, Tryz.ntmps52
  go_wp2_with fail
  go_ret
  exact ⟨rfl, (hbA _ _)⟩

set_option maxHeartbeats 1000000 in
theorem eqMetaS_yes (a b : Option Addr) (n ca cb : Nat) (l : List MMeta) (w : World) (hx : l.length = n) (hra : LeafL 4 rMeta w.heap.size w a ca l) (hrb : LeafL 4 rMeta w.heap.size w b cb l) (hsz : n + sumW wMeta l ≤ 1099511627776) :
    Calls Tryz.prog 24 #[.slice a n ca, .slice b n cb] w fun e w' => e = .returned (.bool true) ∧ Below w.heap.size w w' := by
  have HX := Hid.mk hx
  clear hx
  replace hra := hra.2.2
  replace hrb := hrb.2.2
  go_enter Tryz.func24, Tryz.ntmps24
  go_wp2_with fail
  go_loopw [5] (fun i wr => ∃ k : Nat, k ≤ n ∧ i = .int .i64 k ∧ Below w.heap.size w wr) (fun i _ => n - (intOf i).toNat)
  case atStart => exact ⟨0, Nat.zero_le _, rfl, Below.refl _ _⟩
  case round =>
    obtain ⟨k, hk, rfl, hbk⟩ := hrel
    by_cases hlt : k < n
    · have hkl : k < l.length := by rw [HX.out]; exact hlt
      have hwk := sumW_le (f := wMeta) hkl
      obtain ⟨bA, oA, rfl, hBA, csA, hlA, hcA, hrA⟩ := (hra.below rMeta_good hbk) k hkl
      obtain ⟨bB, oB, rfl, hBB, csB, hlB, hcB, hrB⟩ := (hrb.below rMeta_good hbk) k hkl
      have hrA' := rMeta_good.mono hrA hbk.size
      have hrB' := rMeta_good.mono hrB hbk.size
      generalize l[k] = m at *
      obtain ⟨rfl, h0, h1, h2, h3, _⟩ := hrA
      obtain ⟨rfl, g0, g1, g2, g3, _⟩ := hrB
      have k0 := hcA 0 _ rfl
      have j0 := hcB 0 _ rfl
      have k1 := hcA 1 _ rfl
      have j1 := hcB 1 _ rfl
      have k2 := hcA 2 _ rfl
      have j2 := hcB 2 _ rfl
      have k3 := hcA 3 _ rfl
      have j3 := hcB 3 _ rfl
      rw [Nat.add_zero] at k0 j0
      have hm : wMeta m ≤ 1099511627776 := by omega
      clear hcA hcB hlA hlB hra hrb hwk
      go_wp2_with fail
      go_region_with (go_at_call 52; refine (eqMeta_yes _ _ m _ (by exact hrA') (by exact hrB') hm).mono ?_; rintro e w1 ⟨rfl, hb1⟩)
      all_goals
        have hb2 : Below w.heap.size w w1 := Below.trans hbk (Below.mono (Below.trans (Below.drew (Below.refl _ _)) hb1) hbk.size)
        go_wp2_with fail
        go_roundw
        case rel => exact ⟨k + 1, by omega, by go_num, hb2⟩
        case measure => simp [intOf]; omega
    · go_wp2_with fail
      go_ret
      exact ⟨rfl, hbk⟩

set_option maxHeartbeats 1000000 in
theorem eqManifest_yes (cs1 cs2 : List Value) (m : MManifest) (w : World) (hr1 : rManifest w.heap.size w cs1 m) (hr2 : rManifest w.heap.size w cs2 m) (hsz : wManifest m ≤ 1099511627776) :
    Calls Tryz.prog 7 #[.agg cs1.toArray, .agg cs2.toArray] w fun e w' => e = .returned (.bool true) ∧ Below w.heap.size w w' := by
  obtain ⟨a2, c2, rfl, h0, h1, h2, _⟩ := hr1
  obtain ⟨b2, d2, rfl, g0, g1, g2, _⟩ := hr2
  have hsz' : (m.fTables.length + sumW wMeta m.fTables) ≤ 1099511627776 := hsz
  clear hsz
  have hbA : ∀ o1 o2, Below w.heap.size w ((w.alloc o1).alloc o2) := fun o1 o2 => ((Below.refl _ _).alloc (Nat.le_refl _) o1).alloc (by simp) o2
  go_enter Tryz.func7, Tryz.ntmps7
  have hC1 := fun (W : World) (hb : Below w.heap.size w W) => eqMetaS_yes a2 b2 _ c2 d2 m.fTables W rfl (LeafL.mono rMeta_good (h2.below rMeta_good hb) hb.size) (LeafL.mono rMeta_good (g2.below rMeta_good hb) hb.size) (by omega)
  go_wp2_with fail
  refine Calls.mono (hC1 _ ?_) ?_
  · exact (hbA _ _)
  rintro e w1 ⟨rfl, hx1⟩
  obtain ⟨hc1, hf1⟩ := bcell hx1
  have hz1 : w.heap.size + 1 + 1 ≤ w1.heap.size := by have h := hx1.size; first | omega | (simp at h; omega)
  have hy1a : w.heap.size < w1.heap.size := by omega
  have hy1b : w.heap.size + 1 < w1.heap.size := by omega
  have hB1 : Below w.heap.size w w1 := Below.trans (hbA _ _) (hx1.mono (by first | (simp; omega) | simp | omega))
  clear hC1
  go_wp2_with fail
  go_ret
  exact ⟨rfl, hB1⟩

end Go.Proofs.YtnohnkcijomdjaaGreatDoor
