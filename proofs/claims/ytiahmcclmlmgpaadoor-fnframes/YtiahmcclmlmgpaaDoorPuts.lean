/-
  putNums of the program.
-/
import Derived.Test.YtiahmcclmlmgpaaDoorPutG
namespace Go.Proofs.YtiahmcclmlmgpaaDoor
open Go.RowKit
set_option maxRecDepth 10000

theorem take_snoc {xs : List Int} {k n : Nat} (hx : xs.length = n) (hk : k < n) : xs.take (k + 1) = xs.take k ++ [xs.getD k 0] := by
  rw [List.take_succ_eq_append_getElem (by omega), List.getD_eq_getElem?_getD, List.getElem?_eq_getElem (by omega)]
  rfl

theorem step_put {w : World} {base e n j : Nat} {v : Value} {zs ns : List Int} {x N : Int} (h : w.ownsRow base e 1 v (n + (putNums (ns.take j)).length + (putNum N).length) (((zs ++ putNums (ns.take j)) ++ putNum N).map (Value.int .u8)))
    (hN : clampN x = N) (ht : ns.take (j + 1) = ns.take j ++ [x]) : w.ownsRow base e 1 v (n + (putNums (ns.take (j + 1))).length) ((zs ++ putNums (ns.take (j + 1))).map (Value.int .u8)) := by
  subst hN
  rw [ht, putNums_snoc]
  exact own_congr h (by simp; omega) (by simp)

set_option maxHeartbeats 800000 in
theorem putNums_any (a c : Option Addr) (n cap m ccap : Nat) (zs ns : List Int) (w : World) (hx : zs.length = n) (hy : ns.length = m) (hlen : n ≤ 35184372088832) (hm : m ≤ 1000000) (hr : Rd .u8 w.heap.size w a zs) (hrn : Rd .i64 w.heap.size w c ns) :
    Calls Tryd.prog 46 #[.slice a n cap, .slice c m ccap] w fun e w' => ∃ v, e = .returned v ∧
      w'.ownsRow w.heap.size 5 1 v (n + (putNums ns).length) ((zs ++ putNums ns).map (Value.int .u8)) ∧ Below w.heap.size w w' := by
  obtain ⟨i0, hi, hz0, hz1, hz2⟩ := info_parts Tryd.info5
  have HX : Hid (zs.length = n) := hx
  have HY : Hid (ns.length = m) := hy
  clear hx hy
  go_enter Tryd.func46, Tryd.ntmps46
  go_wp2_with (at_make; refine wpList_make_any _ rfl _ _ 22 rfl w.heap.size 5 i0 (.int .u8 0) Tryd.underlying22 hi hz0 hz1 rfl .i64 .i64 _ _ n (n + 5 * m) rfl rfl rfl (by omega) (by omega) (by rw [hz2]; omega) (by unfold maxLen; omega) (Nat.le_refl _) ?_)
  intro w1 hown hgr
  have hb1 : Below w.heap.size w w1 := (Below.refl _ _).grown hgr (Nat.le_refl _) (fun k h => by cases h)
  clear hgr
  have hr1 := hr.below hb1
  go_wp2_with (refine wpList_copy_rd rfl _ _ 22 22 rfl 5 i0 Tryd.underlying22 hi hz1 w.heap.size w.heap.size n (n + 5 * m) cap a rfl rfl _ hown .u8 zs w.heap.size HX.out hr1 ?_)
  intro w2 hown2 hgr2
  have hb2 : Below w.heap.size w w2 := hb1.grown hgr2 hb1.size (fun k h => by simp at h; omega)
  clear hgr2 hown hb1 hr1 hr
  go_wp2_with fail
  go_loopw [5, 7, 22] (fun o x k wr => ∃ j : Nat, j ≤ m ∧ k = .int .i64 j ∧
    wr.ownsRow w.heap.size 5 1 o (n + (putNums (ns.take j)).length) ((zs ++ putNums (ns.take j)).map (Value.int .u8)) ∧ Below w.heap.size w wr) (fun _ _ k _ => m - (intOf k).toNat)
  case atStart => exact ⟨0, by omega, rfl, by simpa [putNums] using hown2, hb2⟩
  case round =>
    obtain ⟨j, hj, rfl, hownk, hbk⟩ := hrel
    clear hown2 hb2
    have hl := putNums_length (ns.take j)
    have hl2 : (ns.take j).length ≤ j := List.length_take_le _ _
    by_cases hlt : j < m
    · obtain ⟨b1, o1, rfl, hB, hc1⟩ := hrn j (by rw [HY.out]; exact hlt)
      have hc2 : wr.cell? ⟨b1, o1 + j, none⟩ = some (.int .i64 (ns.getD j 0)) := (hbk.cell (p := ⟨b1, o1 + j, none⟩) hB).trans hc1
      have HT := Hid.mk (take_snoc HY.out hlt)
      generalize ns.getD j 0 = x at hc1 hc2 HT
      clear hc1 hrn
      by_cases h1 : 1000000000 < x
      · have HC : Hid (clampN x = 1000000000) := clampN_hi h1
        go_wp2_with fail
        refine (addGroups_own _ (n + (putNums (ns.take j)).length) w.heap.size (zs ++ putNums (ns.take j)) _ wr (by omega) (by omega) (by omega) hbk.size hownk).mono ?_
        rintro e w3 ⟨v3, rfl, hown3, hb3⟩
        have hb4 := hbk.trans hb3
        have hown4 := step_put hown3 HC.out HT.out
        clear hown3 hownk hbk hb3
        go_wp2_with fail
        go_roundw
        case rel => exact ⟨j + 1, by omega, by go_num, hown4, hb4⟩
        case measure => simp [intOf]; omega
      · by_cases h2 : x < 0
        · have HC : Hid (clampN x = 0) := clampN_lo h2
          go_wp2_with fail
          refine (addGroups_own _ (n + (putNums (ns.take j)).length) w.heap.size (zs ++ putNums (ns.take j)) _ wr (by omega) (by omega) (by omega) hbk.size hownk).mono ?_
          rintro e w3 ⟨v3, rfl, hown3, hb3⟩
          have hb4 := hbk.trans hb3
          have hown4 := step_put hown3 HC.out HT.out
          clear hown3 hownk hbk hb3
          go_wp2_with fail
          go_roundw
          case rel => exact ⟨j + 1, by omega, by go_num, hown4, hb4⟩
          case measure => simp [intOf]; omega
        · have HC : Hid (clampN x = x) := clampN_in (by omega) (by omega)
          go_wp2_with fail
          refine (addGroups_own _ (n + (putNums (ns.take j)).length) w.heap.size (zs ++ putNums (ns.take j)) _ wr (by omega) (by omega) (by omega) hbk.size hownk).mono ?_
          rintro e w3 ⟨v3, rfl, hown3, hb3⟩
          have hb4 := hbk.trans hb3
          have hown4 := step_put hown3 HC.out HT.out
          clear hown3 hownk hbk hb3
          go_wp2_with fail
          go_roundw
          case rel => exact ⟨j + 1, by omega, by go_num, hown4, hb4⟩
          case measure => simp [intOf]; omega
    · have HT : ns.take j = ns := List.take_of_length_le (by rw [HY.out]; omega)
      rw [HT] at hownk
      go_wp2_with fail
      go_ret
      exact ⟨_, rfl, hownk, hbk⟩

end Go.Proofs.YtiahmcclmlmgpaaDoor
