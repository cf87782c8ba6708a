/-
  The draws' small functions over a cursor: what comes out lies within its bounds; only the cursor is written.
-/
import Derived.Test.YtadadkookbkkoaaDoorCur
import Derived.Maps.Range
namespace Go.Proofs.YtadadkookbkkoaaDoor
open Go.RowKit

/-- A cursor at block g over bytes that lie below it. -/
def CurOk (w : World) (g : Nat) : Prop :=
  ∃ a n cap B, ∃ zs : List Int, zs.length = n ∧ n ≤ 140737488351232 ∧ B ≤ g ∧ Rd .u8 B w a zs ∧ Cur w g (.slice a n cap) n ∧ g < w.heap.size

theorem CurOk.lt {w : World} {g : Nat} (h : CurOk w g) : g < w.heap.size := by obtain ⟨_, _, _, _, _, _, _, _, _, _, h⟩ := h; exact h

theorem CurOk.grown {w w' : World} {g : Nat} {r : Option Nat} (h : CurOk w g) (hg : w.grownBy w' r) (hr : ∀ k, r = some k → g < k) : CurOk w' g := by
  obtain ⟨a, n, cap, B, zs, h1, h2, h3, h4, ⟨i, q, h5, h6, h7⟩, h8⟩ := h
  refine ⟨a, n, cap, B, zs, h1, h2, h3, h4.grown hg (fun k hk => by have := hr k hk; omega), ⟨i, q, h5, h6, ?_⟩, Nat.lt_of_lt_of_le h8 hg.size⟩
  rw [hg.block g h8 (fun e => by have := hr g e.symm; omega)]
  exact h7

theorem CurOk.below {w w' : World} {g : Nat} (h : CurOk w g) (hb : Below w.heap.size w w') : CurOk w' g := by
  obtain ⟨a, n, cap, B, zs, h1, h2, h3, h4, ⟨i, q, h5, h6, h7⟩, h8⟩ := h
  refine ⟨a, n, cap, B, zs, h1, h2, h3, h4.below (hb.mono (by omega)), ⟨i, q, h5, h6, ?_⟩, Nat.lt_of_lt_of_le h8 hb.size⟩
  rw [hb.block g h8]
  exact h7

theorem CurOk.drewN {w : World} {g : Nat} (h : CurOk w g) (d : Nat) : CurOk (w.drewN d) g := h

theorem l1Byte_ok {g : Nat} {w : World} (hc : CurOk w g) :
    Calls Tryd.prog 49 #[.pointer (some ⟨g, 0, none⟩)] w fun e w' => ∃ x : Int, e = .returned (.int .i64 x) ∧ (0 ≤ x ∧ x ≤ 255) ∧ CurOk w' g ∧ w.grownBy w' (some g) := by
  obtain ⟨a, n, cap, B, zs, h1, h2, h3, h4, h5, h8⟩ := hc
  refine (l1Byte_any g n cap B a zs w h1 h2 h4 h3 h5).mono ?_
  rintro e w' ⟨x, rfl, hx, hcur, hg⟩
  exact ⟨x, rfl, hx, ⟨a, n, cap, B, zs, h1, h2, h3, h4.grown hg (fun k hk => by simp at hk; omega), hcur, Nat.lt_of_lt_of_le h8 hg.size⟩, hg⟩

theorem emod_le {a b : Int} (ha : 0 ≤ a) (hb : 0 < b) : a % b ≤ a := by
  have h1 := Int.emod_add_mul_ediv a b
  have h2 := Int.mul_nonneg (show 0 ≤ b by omega) (Int.ediv_nonneg ha (show 0 ≤ b by omega))
  omega

set_option maxHeartbeats 400000 in
theorem l1Below_ok {g : Nat} {w : World} (q : Int) (hc : CurOk w g) :
    Calls Tryd.prog 29 #[.pointer (some ⟨g, 0, none⟩), .int .i64 q] w fun e w' => ∃ x : Int, e = .returned (.int .i64 x) ∧ (0 ≤ x ∧ x < 16777216 ∧ (0 < q → x < q) ∧ (q ≤ 0 → x = 0)) ∧ CurOk w' g ∧ w.grownBy w' (some g) := by
  by_cases h0 : q ≤ 0
  · go_enter Tryd.func29, Tryd.ntmps29
    go_wp2_with fail
    go_ret
    exact ⟨0, rfl, by omega, hc, World.grownBy.refl _ _⟩
  · by_cases h1 : q ≤ 256
    · go_enter Tryd.func29, Tryd.ntmps29
      go_wp2_with fail
      refine (l1Byte_ok hc).mono ?_
      rintro e w1 ⟨x, rfl, hx, hc1, hg1⟩
      have hq0 : (q == 0) = false := by simp; omega
      have hm := Int.emod_lt_of_pos x (show 0 < q by omega)
      have hm0 := Int.emod_nonneg x (show q ≠ 0 by omega)
      go_wp2_with fail
      go_ret
      exact ⟨_, rfl, by omega, hc1, hg1⟩
    · go_enter Tryd.func29, Tryd.ntmps29
      go_wp2_with fail
      refine (l1Byte_ok hc).mono ?_
      rintro e w1 ⟨x, rfl, hx, hc1, hg1⟩
      go_wp2_with fail
      refine (l1Byte_ok hc1).mono ?_
      rintro e w2 ⟨y, rfl, hy, hc2, hg2⟩
      go_wp2_with fail
      refine (l1Byte_ok hc2).mono ?_
      rintro e w3 ⟨z, rfl, hz, hc3, hg3⟩
      have hq0 : (q == 0) = false := by simp; omega
      have hm := Int.emod_lt_of_pos (x * 65536 + y * 256 + z) (show 0 < q by omega)
      have hm0 := Int.emod_nonneg (x * 65536 + y * 256 + z) (show q ≠ 0 by omega)
      have hm1 := emod_le (a := x * 65536 + y * 256 + z) (b := q) (by omega) (by omega)
      go_wp2_with fail
      go_ret
      exact ⟨_, rfl, by omega, hc3, grown_trans hg1 (grown_trans hg2 hg3)⟩

end Go.Proofs.YtadadkookbkkoaaDoor
