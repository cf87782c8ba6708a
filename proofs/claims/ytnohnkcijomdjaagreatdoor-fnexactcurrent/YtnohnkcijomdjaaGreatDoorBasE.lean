/-
  What the laws' own helpers on slices of bytes do: eqByteS compares, markByteS writes, heldByteS asks.
-/
import Derived.Test.YtnohnkcijomdjaaGreatDoorRows
import Derived.Test.YtnohnkcijomdjaaGreatDoorKit
import Derived.Test.YtnohnkcijomdjaaGreatDoorInfB
namespace Go.Proofs.YtnohnkcijomdjaaGreatDoor
open Go.RowKit


set_option maxHeartbeats 400000 in
theorem eqByteS_any (a b : Option Addr) (n m ca cb : Nat) (xs ys : List Int) (w : World) (B : Nat) (hx : xs.length = n) (hy : ys.length = m) (hlen : n ≤ 140737488351232) (hra : Rd .u8 B w a xs) (hrb : Rd .u8 B w b ys) :
    Calls Tryz.prog 85 #[.slice a n ca, .slice b m cb] w fun e w' => e = .returned (.bool (decide (xs = ys))) ∧ ∃ d, w' = w.drewN d := by
  have HX : Hid (xs.length = n) := hx
  have HY : Hid (ys.length = m) := hy
  clear hx hy
  by_cases hnm : n = m
  · subst hnm
    go_enter Tryz.func85, Tryz.ntmps85
    go_wp2
    go_loopw [5] (fun i wr => ∃ k : Nat, k ≤ n ∧ i = .int .i64 k ∧ xs.take k = ys.take k ∧ ∃ d, wr = w.drewN d) (fun i _ => n - (intOf i).toNat)
    case atStart => exact ⟨0, Nat.zero_le _, rfl, rfl, 0, rfl⟩
    case round =>
      obtain ⟨k, hk, rfl, he, d, rfl⟩ := hrel
      by_cases hlt : k < n
      · obtain ⟨b1, o1, rfl, _, hc1⟩ := hra k (by rw [HX.out]; exact hlt)
        obtain ⟨b2, o2, rfl, _, hc2⟩ := hrb k (by rw [HY.out]; exact hlt)
        have HE : Hid (xs.take k = ys.take k) := he
        clear he hra hrb
        generalize hX : xs.getD k 0 = x at hc1
        generalize hY : ys.getD k 0 = y at hc2
        have HXk : Hid (xs.getD k 0 = x) := hX
        have HYk : Hid (ys.getD k 0 = y) := hY
        clear hX hY
        by_cases hxy : x = y
        · have hb : (x != y) = false := by simp [hxy]
          go_wp2
          go_quiet (fail)
          go_wp2
          go_roundw
          case rel => exact ⟨k + 1, by omega, by go_num, take_eq_succ HX.out HY.out hlt HE.out (by rw [HXk.out, HYk.out, hxy]), _, rfl⟩
          case measure => simp [intOf]; omega
        · have hb : (x != y) = true := by simp [hxy]
          go_wp2
          go_quiet (fail)
          go_wp2
          go_ret
          have hne : xs ≠ ys := fun h => hxy (by rw [← HXk.out, ← HYk.out, h])
          exact ⟨by simp [hne], d + nq, by simp⟩
      · go_wp2
        go_ret
        have hkn : k = n := by omega
        subst hkn
        rw [List.take_of_length_le (by rw [HX.out]; exact Nat.le_refl _), List.take_of_length_le (by rw [HY.out]; exact Nat.le_refl _)] at he
        exact ⟨by simp [he], _, rfl⟩
  · go_enter Tryz.func85, Tryz.ntmps85
    have hne : ((n : Int) == (m : Int)) = false := by simp; omega
    go_wp2
    go_ret
    have hne : xs ≠ ys := fun h => hnm (by rw [← HX.out, ← HY.out, h])
    exact ⟨by simp [hne], 0, rfl⟩

set_option maxHeartbeats 400000 in
theorem markByteS_own (g n cap base : Nat) (xs : List Int) (q : Int) (w : World) (hq : 0 ≤ q) (hq2 : q ≤ 140737488351232) (hlen : n ≤ 140737488351232) (hn : xs.length = n)
    (hown : w.ownsRow base 5 1 (.slice (some ⟨g, 0, none⟩) n cap) n (xs.map (Value.int .u8))) :
    Calls Tryz.prog 65 #[.slice (some ⟨g, 0, none⟩) n cap, .int .i64 q] w fun e w' => e = .returned (.int .i64 (q + n)) ∧
      w'.ownsRow base 5 1 (.slice (some ⟨g, 0, none⟩) n cap) n ((marks q n).map (Value.int .u8)) ∧ w.grownBy w' (some g) := by
  have HN : Hid (xs.length = n) := hn
  clear hn
  go_enter Tryz.func65, Tryz.ntmps65
  go_wp2
  go_loopw [1, 5] (fun kk i wr => ∃ k : Nat, k ≤ n ∧ i = .int .i64 k ∧ kk = .int .i64 (q + k) ∧ wr.ownsRow base 5 1 (.slice (some ⟨g, 0, none⟩) n cap) n (((marks q n).take k ++ xs.drop k).map (Value.int .u8)) ∧ w.grownBy wr (some g)) (fun _ i _ => n - (intOf i).toNat)
  case atStart => exact ⟨0, Nat.zero_le _, rfl, by simp, by simpa using hown, World.grownBy.refl _ _⟩
  case round =>
    obtain ⟨k, hk, rfl, rfl, hownk, hgk⟩ := hrel
    clear hown
    by_cases hlt : k < n
    · have hc2 : ∃ v, wr.cell? ⟨g, k, none⟩ = some v := by rw [hownk.cellAt k (by omega)]; exact ⟨_, List.getElem?_eq_getElem (by simp [marks_length]; have := HN.out; omega)⟩
      obtain ⟨v, hc2⟩ := hc2
      have hf2 := hownk.frozenAt k
      go_wp2
      go_roundw
      case rel =>
        have hst := hownk.stored k (.int .u8 ((q + k) % 256))
        refine ⟨k + 1, by omega, by go_num, by go_num, ?_, grown_trans hgk hst.2⟩
        rw [← mark_step HN.out hlt]
        exact hst.1
      case measure => simp [intOf]; omega
    · go_wp2
      go_ret
      have hkn : k = n := by omega
      subst hkn
      refine ⟨rfl, ?_, hgk⟩
      have h := hownk
      rw [List.take_of_length_le (by rw [marks_length]; exact Nat.le_refl _), List.drop_of_length_le (by rw [HN.out]; exact Nat.le_refl _), List.append_nil] at h
      exact h

set_option maxHeartbeats 400000 in
theorem markByteS_nil (n cap : Nat) (q : Int) (w : World) (hn : n = 0) :
    Calls Tryz.prog 65 #[.slice none n cap, .int .i64 q] w fun e w' => e = .returned (.int .i64 q) ∧ w' = w := by
  subst hn
  go_enter Tryz.func65, Tryz.ntmps65
  go_wp2
  refine wp_loop_rounds 1 ?_
  rw [rounds_succ]
  go_wp2
  go_ret
  exact ⟨rfl, rfl⟩

theorem markByteS_gen (a : Option Addr) (n cap base : Nat) (xs : List Int) (q : Int) (w : World) (hq : 0 ≤ q) (hq2 : q ≤ 140737488351232) (hlen : n ≤ 140737488351232) (hn : xs.length = n)
    (hown : w.ownsRow base 5 1 (.slice a n cap) n (xs.map (Value.int .u8))) :
    Calls Tryz.prog 65 #[.slice a n cap, .int .i64 q] w fun e w' => e = .returned (.int .i64 (q + n)) ∧
      w'.ownsRow base 5 1 (.slice a n cap) n ((marks q n).map (Value.int .u8)) ∧ w.grownBy w' (Value.ownBlock (.slice a n cap)) := by
  cases a with
  | none =>
    have h0 : n = 0 := by
      rcases hown.2 with ⟨_, h⟩ | ⟨g, c, cur, h, _⟩
      · exact h
      · simp at h
    refine (markByteS_nil n cap q w h0).mono ?_
    rintro e w' ⟨rfl, rfl⟩
    subst h0
    have hx : xs = [] := List.eq_nil_of_length_eq_zero hn
    subst hx
    exact ⟨by simp, hown, World.grownBy.refl _ _⟩
  | some ad =>
    rcases hown.2 with ⟨h, _⟩ | ⟨g, c, cur, h, _⟩
    · simp at h
    · simp only [Value.slice.injEq, Option.some.injEq, true_and] at h
      obtain ⟨rfl, rfl⟩ := h
      exact markByteS_own g n cap base xs q w hq hq2 hlen hn hown

theorem own_len {w : World} {base e n : Nat} {v : Value} {zs : List Int} {k : IntKind} (h : w.ownsRow base e 1 v n (zs.map (Value.int k))) : zs.length = n := by
  have := h.1
  simpa using this

end Go.Proofs.YtnohnkcijomdjaaGreatDoor
