/-
  The cursor of the draws: what its functions answer, and that they write to the cursor alone.
-/
import Derived.Test.YtadadkookbkkoaaDoorApp
import Derived.Test.YtadadkookbkkoaaDoorInfB
import Derived.Laws.BitsLemmas
namespace Go.Proofs.YtadadkookbkkoaaDoor
open Go.RowKit

/-- A cursor over the code lies alone in block g. -/
def Cur (w : World) (g : Nat) (sv : Value) (n : Nat) : Prop :=
  ∃ i h : Int, 0 ≤ i ∧ i ≤ n ∧ w.heap[g]? = some (.cells #[sv, .int .i64 i, .int .i64 h] 82 (0, 0))

theorem and255_i64 (n : Int) : bits .and .i64 n 255 = n % 256 := by
  have h1 : (BitVec.ofInt 64 255).toNat = 2 ^ 8 - 1 := by decide
  have key : (BitVec.ofInt 64 n &&& BitVec.ofInt 64 255).toNat = (n % ((2 ^ 64 : Nat) : Int)).toNat % 2 ^ 8 := by
    rw [BitVec.toNat_and, BitVec.toNat_ofInt, h1, Nat.and_two_pow_sub_one_eq_mod]
  show IntKind.i64.wrap ((BitVec.ofInt 64 n &&& BitVec.ofInt 64 255).toNat : Nat) = n % 256
  rw [key, IntKind.wrap_i64]
  omega

theorem row_set {w : World} {g j : Nat} {cs : Array Value} {e : TypeId} (h : w.heap[g]? = some (.cells cs e (0, 0))) (u : Value) :
    (w.setCell ⟨g, j, none⟩ u).heap[g]? = some (.cells (cs.setIfInBounds j u) e (0, 0)) ∧ w.grownBy (w.setCell ⟨g, j, none⟩ u) (some g) :=
  ⟨heap_setCell_same w g j cs e u h, ⟨rfl, rfl, rfl, by simp, fun k _ hk => heap_setCell_other w ⟨g, j, none⟩ k u (fun e => hk (by simp [e]))⟩⟩

theorem emod_byte (x : Int) : 0 ≤ x % 256 ∧ x % 256 ≤ 255 := by omega

theorem grown_drewN {w w' : World} {r : Option Nat} (h : w.grownBy w' r) (d : Nat) : w.grownBy (w'.drewN d) r := ⟨h.os, h.tape, h.output, h.size, h.block⟩

theorem cur_step1 {w : World} {g n : Nat} {sv : Value} {i h : Int} (hg : w.heap[g]? = some (.cells #[sv, .int .i64 i, .int .i64 h] 82 (0, 0))) (h0 : 0 ≤ i) (h1 : i ≤ n) {h' : Int} (j k : Nat) :
    Cur (((w.setCell ⟨g, 2, none⟩ (.int .i64 h')).drewN j).drewN k) g sv n := ⟨i, h', h0, h1, (row_set (j := 2) hg _).1⟩

theorem cur_grown1 {w : World} {g : Nat} {cs : Array Value} {e : TypeId} (hg : w.heap[g]? = some (.cells cs e (0, 0))) {u : Value} (j k : Nat) :
    w.grownBy (((w.setCell ⟨g, 2, none⟩ u).drewN j).drewN k) (some g) := grown_drewN (grown_drewN (row_set (j := 2) hg u).2 j) k

theorem cur_step2 {w : World} {g n : Nat} {sv : Value} {i h : Int} (hg : w.heap[g]? = some (.cells #[sv, .int .i64 i, .int .i64 h] 82 (0, 0))) (h0 : 0 ≤ i) (h1 : i + 1 ≤ n) (h' : Int) (k : Nat) (i' : Int) (hi' : i' = i + 1) :
    Cur (((w.setCell ⟨g, 2, none⟩ (.int .i64 h')).drewN k).setCell ⟨g, 1, none⟩ (.int .i64 i')) g sv n := by
  subst hi'
  exact ⟨i + 1, h', by omega, h1, (row_set (w := (w.setCell ⟨g, 2, none⟩ (.int .i64 h')).drewN k) (j := 1) (row_set (j := 2) hg (.int .i64 h')).1 (.int .i64 (i + 1))).1⟩

theorem cur_grown2 {w : World} {g : Nat} {cs : Array Value} {e : TypeId} (hg : w.heap[g]? = some (.cells cs e (0, 0))) (u : Value) (k : Nat) (v : Value) :
    w.grownBy (((w.setCell ⟨g, 2, none⟩ u).drewN k).setCell ⟨g, 1, none⟩ v) (some g) :=
  grown_trans (grown_drewN (row_set (j := 2) hg u).2 k) (row_set (w := (w.setCell ⟨g, 2, none⟩ u).drewN k) (j := 1) (row_set (j := 2) hg u).1 v).2

set_option maxHeartbeats 800000 in
theorem l1Byte_any (g n cap B : Nat) (a : Option Addr) (zs : List Int) (w : World) (hx : zs.length = n) (hlen : n ≤ 140737488351232) (hr : Rd .u8 B w a zs) (hBg : B ≤ g) (hc : Cur w g (.slice a n cap) n) :
    Calls Tryd.prog 49 #[.pointer (some ⟨g, 0, none⟩)] w fun e w' => ∃ x : Int, e = .returned (.int .i64 x) ∧ (0 ≤ x ∧ x ≤ 255) ∧ Cur w' g (.slice a n cap) n ∧ w.grownBy w' (some g) := by
  obtain ⟨i, h, hi0, hin, hg⟩ := hc
  have HX : Hid (zs.length = n) := hx
  clear hx
  have c0 : w.cell? ⟨g, 0, none⟩ = some (.slice a n cap) := cell_of_row w g 0 _ _ _ hg
  have c1 : w.cell? ⟨g, 1, none⟩ = some (.int .i64 i) := cell_of_row w g 1 _ _ _ hg
  have c2 : w.cell? ⟨g, 2, none⟩ = some (.int .i64 h) := cell_of_row w g 2 _ _ _ hg
  have f1 : w.frozen? ⟨g, 1, none⟩ = false := frozen_of_row w g 1 _ _ hg
  have f2 : w.frozen? ⟨g, 2, none⟩ = false := frozen_of_row w g 2 _ _ hg
  by_cases hlt : i < n
  · obtain ⟨i, rfl⟩ := Int.eq_ofNat_of_zero_le hi0
    obtain ⟨b1, o1, rfl, hB, hcc⟩ := hr i (by rw [HX.out]; omega)
    have hne : b1 ≠ g := by omega
    have hand := and255_i64
    generalize zs.getD i 0 = c at hcc
    go_enter Tryd.func49, Tryd.ntmps49
    go_wp2
    go_quiet (fail)
    go_wp2
    go_quiet (fail)
    go_wp2
    go_quiet (fail)
    go_wp2
    go_ret
    exact ⟨_, rfl, emod_byte _, cur_step2 hg hi0 (by omega) _ _ _ rfl, (cur_grown2 hg _ _ _)⟩
  · have hand := and255_i64
    go_enter Tryd.func49, Tryd.ntmps49
    go_wp2
    go_quiet (fail)
    go_wp2
    go_quiet (fail)
    go_wp2
    go_ret
    exact ⟨_, rfl, emod_byte _, cur_step1 hg hi0 hin _ _, cur_grown1 hg _ _⟩

end Go.Proofs.YtadadkookbkkoaaDoor
