/-
  Part 4 of the texts that the proof leans on.
-/
import Derived.Test.YtocgbeoglgkibaaDoorRows
import Derived.Test.YtocgbeoglgkibaaDoorTbp0
import Derived.Test.YtocgbeoglgkibaaDoorTbp2
import Derived.Laws.Bits128
import Derived.Deep.DeepCutAuto
import Derived.Test.YtocgbeoglgkibaaDoorTbp1
import Derived.Test.YtocgbeoglgkibaaDoorChecked
set_option linter.unusedVariables false
set_option linter.unusedSimpArgs false
set_option maxRecDepth 10000

namespace Go.Proofs.YtocgbeoglgkibaaDoor
open Go.RowKit

set_option maxHeartbeats 800000 in
theorem addGroups_own (v : Value) (n base : Nat) (zs : List Int) (N : Int) (w : World) (hlen : n ≤ 70368744177664) (hN0 : 0 ≤ N) (hN1 : N ≤ 1000000000) (hbase : base ≤ w.heap.size)
    (hown : w.ownsRow base 5 1 v n (zs.map (Value.int .u8))) :
    Calls Tryd.prog 73 #[v, .int .i64 N] w fun e w' => ∃ v', e = .returned v' ∧
      w'.ownsRow base 5 1 v' (n + (putNum N).length) ((zs ++ putNum N).map (Value.int .u8)) ∧ Below base w w' := by
  obtain ⟨i0, hi, hz0, hz1, hz2⟩ := info_parts Tryd.info5
  go_enter Tryd.func73, Tryd.ntmps73
  go_wp2_with fail
  go_loopw [0, 5] (fun o k wr => ∃ j : Nat, j ≤ 4 ∧ k = .int .i64 (28 - 7 * (j : Int)) ∧
    wr.ownsRow base 5 1 o (n + (hiTo N j).length) ((zs ++ hiTo N j).map (Value.int .u8)) ∧ Below base w wr) (fun _ k _ => (intOf k).toNat)
  case atStart => exact ⟨0, by omega, rfl, by simpa [hiTo] using hown, Below.refl _ _⟩
  case round =>
    obtain ⟨j, hj, rfl, hownk, hbk⟩ := hrel
    clear hown
    rcases (show j = 0 ∨ j = 1 ∨ j = 2 ∨ j = 3 ∨ j = 4 from by omega) with rfl | rfl | rfl | rfl | rfl
    · have hor : bits .or .u8 (N / 268435456) 128 = N / 268435456 % 128 + 128 := by have h := or128_u8 (N / 268435456); rwa [show N / 268435456 % 256 = N / 268435456 from by omega] at h
      have hll := hiTo_length N 0
      by_cases hg : 0 < N / 268435456
      · have hstep : hiTo N (0 + 1) = hiTo N 0 ++ [N / 268435456 % 128 + 128] := by simp only [hiTo, hiG_yes hg]; try rfl
        have HS := Hid.mk hstep
        clear hstep
        go_wp2_with (at_builtin; refine wpList_append_src _ rfl _ _ 22 22 rfl base 5 i0 (.int .u8 0) 1 1 Tryd.underlying22 hi hz0 hz1 hz2 rfl _ _ _ rfl (hownk.alloc _) 1 [.int .u8 (N / 268435456 % 128 + 128)] (Src.ofSlice _ Tryd.underlying22 ⟨_, 0, none⟩ 1 1 _ rfl (cell_one_new _ _ _) (oneInt _ _)) (by unfold maxLen; omega) (by omega) (by have := hbk.size; simp; omega) ?_)
        intro v2 w2 hown2 hgr2
        have hb2 := below_app hbk hbase hownk hgr2
        clear hgr2
        go_wp2
        go_roundw
        case rel =>
          refine ⟨0 + 1, by omega, by go_num, ?_, hb2⟩
          exact own_congr hown2 (by rw [HS.out]; simp; try omega) (by rw [HS.out]; simp)
        case measure => simp [intOf]
      · have hstep : hiTo N (0 + 1) = hiTo N 0 := by simp [hiTo, hiG_no hg]
        have HS := Hid.mk hstep
        clear hstep hor
        go_wp2
        go_roundw
        case rel =>
          refine ⟨0 + 1, by omega, by go_num, ?_, hbk⟩
          rw [HS.out]
          exact hownk
        case measure => simp [intOf]
    · have hor := or128_u8 (N / 2097152)
      have hll := hiTo_length N 1
      by_cases hg : 0 < N / 2097152
      · have hstep : hiTo N (1 + 1) = hiTo N 1 ++ [N / 2097152 % 128 + 128] := by simp only [hiTo, hiG_yes hg]; try rfl
        have HS := Hid.mk hstep
        clear hstep
        go_wp2_with (at_builtin; refine wpList_append_src _ rfl _ _ 22 22 rfl base 5 i0 (.int .u8 0) 1 1 Tryd.underlying22 hi hz0 hz1 hz2 rfl _ _ _ rfl (hownk.alloc _) 1 [.int .u8 (N / 2097152 % 128 + 128)] (Src.ofSlice _ Tryd.underlying22 ⟨_, 0, none⟩ 1 1 _ rfl (cell_one_new _ _ _) (oneInt _ _)) (by unfold maxLen; omega) (by omega) (by have := hbk.size; simp; omega) ?_)
        intro v2 w2 hown2 hgr2
        have hb2 := below_app hbk hbase hownk hgr2
        clear hgr2
        go_wp2
        go_roundw
        case rel =>
          refine ⟨1 + 1, by omega, by go_num, ?_, hb2⟩
          exact own_congr hown2 (by rw [HS.out]; simp; try omega) (by rw [HS.out]; simp)
        case measure => simp [intOf]
      · have hstep : hiTo N (1 + 1) = hiTo N 1 := by simp [hiTo, hiG_no hg]
        have HS := Hid.mk hstep
        clear hstep hor
        go_wp2
        go_roundw
        case rel =>
          refine ⟨1 + 1, by omega, by go_num, ?_, hbk⟩
          rw [HS.out]
          exact hownk
        case measure => simp [intOf]
    · have hor := or128_u8 (N / 16384)
      have hll := hiTo_length N 2
      by_cases hg : 0 < N / 16384
      · have hstep : hiTo N (2 + 1) = hiTo N 2 ++ [N / 16384 % 128 + 128] := by simp only [hiTo, hiG_yes hg]; try rfl
        have HS := Hid.mk hstep
        clear hstep
        go_wp2_with (at_builtin; refine wpList_append_src _ rfl _ _ 22 22 rfl base 5 i0 (.int .u8 0) 1 1 Tryd.underlying22 hi hz0 hz1 hz2 rfl _ _ _ rfl (hownk.alloc _) 1 [.int .u8 (N / 16384 % 128 + 128)] (Src.ofSlice _ Tryd.underlying22 ⟨_, 0, none⟩ 1 1 _ rfl (cell_one_new _ _ _) (oneInt _ _)) (by unfold maxLen; omega) (by omega) (by have := hbk.size; simp; omega) ?_)
        intro v2 w2 hown2 hgr2
        have hb2 := below_app hbk hbase hownk hgr2
        clear hgr2
        go_wp2
        go_roundw
        case rel =>
          refine ⟨2 + 1, by omega, by go_num, ?_, hb2⟩
          exact own_congr hown2 (by rw [HS.out]; simp; try omega) (by rw [HS.out]; simp)
        case measure => simp [intOf]
      · have hstep : hiTo N (2 + 1) = hiTo N 2 := by simp [hiTo, hiG_no hg]
        have HS := Hid.mk hstep
        clear hstep hor
        go_wp2
        go_roundw
        case rel =>
          refine ⟨2 + 1, by omega, by go_num, ?_, hbk⟩
          rw [HS.out]
          exact hownk
        case measure => simp [intOf]
    · have hor := or128_u8 (N / 128)
      have hll := hiTo_length N 3
      by_cases hg : 0 < N / 128
      · have hstep : hiTo N (3 + 1) = hiTo N 3 ++ [N / 128 % 128 + 128] := by simp only [hiTo, hiG_yes hg]; try rfl
        have HS := Hid.mk hstep
        clear hstep
        go_wp2_with (at_builtin; refine wpList_append_src _ rfl _ _ 22 22 rfl base 5 i0 (.int .u8 0) 1 1 Tryd.underlying22 hi hz0 hz1 hz2 rfl _ _ _ rfl (hownk.alloc _) 1 [.int .u8 (N / 128 % 128 + 128)] (Src.ofSlice _ Tryd.underlying22 ⟨_, 0, none⟩ 1 1 _ rfl (cell_one_new _ _ _) (oneInt _ _)) (by unfold maxLen; omega) (by omega) (by have := hbk.size; simp; omega) ?_)
        intro v2 w2 hown2 hgr2
        have hb2 := below_app hbk hbase hownk hgr2
        clear hgr2
        go_wp2
        go_roundw
        case rel =>
          refine ⟨3 + 1, by omega, by go_num, ?_, hb2⟩
          exact own_congr hown2 (by rw [HS.out]; simp; try omega) (by rw [HS.out]; simp)
        case measure => simp [intOf]
      · have hstep : hiTo N (3 + 1) = hiTo N 3 := by simp [hiTo, hiG_no hg]
        have HS := Hid.mk hstep
        clear hstep hor
        go_wp2
        go_roundw
        case rel =>
          refine ⟨3 + 1, by omega, by go_num, ?_, hbk⟩
          rw [HS.out]
          exact hownk
        case measure => simp [intOf]
    · have hll := hiTo_length N 4
      go_wp2_with (at_builtin; refine wpList_append_src _ rfl _ _ 22 22 rfl base 5 i0 (.int .u8 0) 1 1 Tryd.underlying22 hi hz0 hz1 hz2 rfl _ _ _ rfl (hownk.alloc _) 1 [.int .u8 (N % 128)] (Src.ofSlice _ Tryd.underlying22 ⟨_, 0, none⟩ 1 1 _ rfl (cell_one_new _ _ _) (oneInt _ _)) (by unfold maxLen; omega) (by omega) (by have := hbk.size; simp; omega) ?_)
      intro v2 w2 hown2 hgr2
      have hb2 := below_app hbk hbase hownk hgr2
      clear hgr2
      go_wp2
      go_ret
      refine ⟨v2, rfl, ?_, hb2⟩
      exact own_congr hown2 (by simp [putNum]; try omega) (by simp [putNum])


set_option maxHeartbeats 800000 in
theorem specPutNum_any (a : Option Addr) (n cap : Nat) (zs : List Int) (q : Int) (w : World) (hx : zs.length = n) (hlen : n ≤ 70368744177664) (hr : Rd .u8 w.heap.size w a zs) :
    Calls Tryd.prog 28 #[.slice a n cap, .int .i64 q] w fun e w' => ∃ v, e = .returned v ∧
      w'.ownsRow w.heap.size 5 1 v (n + (putNum (clampN q)).length) ((zs ++ putNum (clampN q)).map (Value.int .u8)) ∧ Below w.heap.size w w' := by
  obtain ⟨i0, hi, hz0, hz1, hz2⟩ := info_parts Tryd.info5
  have HX : Hid (zs.length = n) := hx
  clear hx
  go_enter Tryd.func28, Tryd.ntmps28
  have HQ := clampN_bd q
  go_wp2_with (at_builtin; refine wpList_append_src _ rfl _ _ 22 22 rfl w.heap.size 5 i0 (.int .u8 0) 1 1 Tryd.underlying22 hi hz0 hz1 hz2 rfl (.slice (some ⟨w.heap.size, 0, none⟩) 0 0) 0 [] rfl (World.ownsRow_lit w #[] 0 (Nat.le_refl _) (by decide) rfl) n (zs.map (Value.int .u8)) (Src.rd Tryd.underlying22 HX.out (hr.below ((Below.refl _ _).alloc (Nat.le_refl _) _))) ?c1 ?c2 ?c3 ?_)
  case c1 => unfold maxLen; omega
  case c2 => omega
  case c3 => simp
  intro v w1 hown hgr
  have hb1 : Below w.heap.size w w1 := ((Below.refl _ _).alloc (Nat.le_refl _) _).grown hgr (by simp) (fun k h => by simp [Value.ownBlock] at h; omega)
  clear hgr hr
  go_upto_if 13 with fail
  go_cut [1] (fun x wc => x = .int .i64 (capHi q) ∧ wc = w1)
  case first =>
    by_cases h1 : 1000000000 < q
    · go_wp2
      go_meet
      case rel => exact ⟨by rw [capHi_hi h1], rfl⟩
    · go_wp2
      go_meet
      case rel => exact ⟨by rw [capHi_in (by omega)], rfl⟩
  case rest =>
    obtain ⟨rfl, rfl⟩ := hcut
    go_upto_if 15 with fail
    go_cut [1] (fun x wd => x = .int .i64 (clampN q) ∧ wd = wc)
    case first =>
      by_cases h1 : capHi q < 0
      · go_wp2
        go_meet
        case rel => exact ⟨by rw [clampN_of_capHi, if_pos h1], rfl⟩
      · go_wp2
        go_meet
        case rel => exact ⟨by rw [clampN_of_capHi, if_neg (by omega)], rfl⟩
    case rest =>
      obtain ⟨rfl, rfl⟩ := hcut
      generalize hN : clampN q = N at *
      obtain ⟨hN0, hN1⟩ := HQ
      have HN := Hid.mk hN
      clear hN
      go_wp2_with fail
      go_loopw [5, 6, 7] (fun o h k wr => ∃ (j : Nat) (b : Bool), j ≤ 4 ∧ k = .int .i64 (28 - 7 * (j : Int)) ∧ h = .bool b ∧ (b = true ↔ 0 < N / 2 ^ (35 - 7 * j)) ∧
        wr.ownsRow w.heap.size 5 1 o (n + (hiTo N j).length) ((zs ++ hiTo N j).map (Value.int .u8)) ∧ Below w.heap.size w wr) (fun _ _ k _ => (intOf k).toNat)
      case atStart => exact ⟨0, false, by omega, rfl, rfl, by simp; omega, by simpa [hiTo] using hown, hb1⟩
      case round =>
        obtain ⟨j, b, hj, rfl, rfl, hbj, hownk, hbk⟩ := hrel
        clear hown hb1
        rcases (show j = 0 ∨ j = 1 ∨ j = 2 ∨ j = 3 ∨ j = 4 from by omega) with rfl | rfl | rfl | rfl | rfl
        · have hand := i64_and127 (N / 268435456)
          have hor := or128_i64 (N / 268435456)
          have hbj' : b = true ↔ 0 < N / 34359738368 := by simpa using hbj
          clear hbj
          have hll := hiTo_length N 0
          by_cases hg : 0 < N / 268435456
          · have hstep : hiTo N (0 + 1) = hiTo N 0 ++ [N / 268435456 % 128 + 128] := by simp only [hiTo, hiG_yes hg]; try rfl
            have HS := Hid.mk hstep
            clear hstep
            have hbg : b = true ∨ (b = false ∧ 0 < N / 268435456 % 128) := by
              cases b with
              | true => exact Or.inl rfl
              | false =>
                right
                have : ¬ 0 < N / 34359738368 := fun h => by have := hbj'.2 h; cases this
                exact ⟨rfl, by omega⟩
            rcases hbg with rfl | ⟨rfl, hgg⟩
            all_goals
              clear hbj'
              go_wp2_with (at_builtin; refine wpList_append_src _ rfl _ _ 22 22 rfl w.heap.size 5 i0 (.int .u8 0) 1 1 Tryd.underlying22 hi hz0 hz1 hz2 rfl _ _ _ rfl (hownk.alloc _) 1 [.int .u8 (N / 268435456 % 128 + 128)] (Src.ofSlice _ Tryd.underlying22 ⟨_, 0, none⟩ 1 1 _ rfl (cell_one_new _ _ _) (oneInt _ _)) (by unfold maxLen; omega) (by omega) (by have := hbk.size; simp; omega) ?_)
              intro v2 w2 hown2 hgr2
              have hb2 := below_app hbk (Nat.le_refl _) hownk hgr2
              clear hgr2
              go_wp2
              go_roundw
              case rel =>
                refine ⟨0 + 1, true, by omega, by go_num, rfl, by simp; exact hg, ?_, hb2⟩
                exact own_congr hown2 (by rw [HS.out]; simp; try omega) (by rw [HS.out]; simp)
              case measure => simp [intOf]
          · have hstep : hiTo N (0 + 1) = hiTo N 0 := by simp [hiTo, hiG_no hg]
            have HS := Hid.mk hstep
            clear hstep
            have hbf : b = false := by
              cases b with
              | false => rfl
              | true => have := hbj'.1 rfl; omega
            subst hbf
            have hgg : N / 268435456 % 128 = 0 := by omega
            clear hbj' hor
            go_wp2
            go_roundw
            case rel =>
              refine ⟨0 + 1, false, by omega, by go_num, rfl, by simp; omega, ?_, hbk⟩
              rw [HS.out]
              exact hownk
            case measure => simp [intOf]
        · have hand := i64_and127 (N / 2097152)
          have hor := or128_i64 (N / 2097152)
          have hbj' : b = true ↔ 0 < N / 268435456 := by simpa using hbj
          clear hbj
          have hll := hiTo_length N 1
          by_cases hg : 0 < N / 2097152
          · have hstep : hiTo N (1 + 1) = hiTo N 1 ++ [N / 2097152 % 128 + 128] := by simp only [hiTo, hiG_yes hg]; try rfl
            have HS := Hid.mk hstep
            clear hstep
            have hbg : b = true ∨ (b = false ∧ 0 < N / 2097152 % 128) := by
              cases b with
              | true => exact Or.inl rfl
              | false =>
                right
                have : ¬ 0 < N / 268435456 := fun h => by have := hbj'.2 h; cases this
                exact ⟨rfl, by omega⟩
            rcases hbg with rfl | ⟨rfl, hgg⟩
            all_goals
              clear hbj'
              go_wp2_with (at_builtin; refine wpList_append_src _ rfl _ _ 22 22 rfl w.heap.size 5 i0 (.int .u8 0) 1 1 Tryd.underlying22 hi hz0 hz1 hz2 rfl _ _ _ rfl (hownk.alloc _) 1 [.int .u8 (N / 2097152 % 128 + 128)] (Src.ofSlice _ Tryd.underlying22 ⟨_, 0, none⟩ 1 1 _ rfl (cell_one_new _ _ _) (oneInt _ _)) (by unfold maxLen; omega) (by omega) (by have := hbk.size; simp; omega) ?_)
              intro v2 w2 hown2 hgr2
              have hb2 := below_app hbk (Nat.le_refl _) hownk hgr2
              clear hgr2
              go_wp2
              go_roundw
              case rel =>
                refine ⟨1 + 1, true, by omega, by go_num, rfl, by simp; exact hg, ?_, hb2⟩
                exact own_congr hown2 (by rw [HS.out]; simp; try omega) (by rw [HS.out]; simp)
              case measure => simp [intOf]
          · have hstep : hiTo N (1 + 1) = hiTo N 1 := by simp [hiTo, hiG_no hg]
            have HS := Hid.mk hstep
            clear hstep
            have hbf : b = false := by
              cases b with
              | false => rfl
              | true => have := hbj'.1 rfl; omega
            subst hbf
            have hgg : N / 2097152 % 128 = 0 := by omega
            clear hbj' hor
            go_wp2
            go_roundw
            case rel =>
              refine ⟨1 + 1, false, by omega, by go_num, rfl, by simp; omega, ?_, hbk⟩
              rw [HS.out]
              exact hownk
            case measure => simp [intOf]
        · have hand := i64_and127 (N / 16384)
          have hor := or128_i64 (N / 16384)
          have hbj' : b = true ↔ 0 < N / 2097152 := by simpa using hbj
          clear hbj
          have hll := hiTo_length N 2
          by_cases hg : 0 < N / 16384
          · have hstep : hiTo N (2 + 1) = hiTo N 2 ++ [N / 16384 % 128 + 128] := by simp only [hiTo, hiG_yes hg]; try rfl
            have HS := Hid.mk hstep
            clear hstep
            have hbg : b = true ∨ (b = false ∧ 0 < N / 16384 % 128) := by
              cases b with
              | true => exact Or.inl rfl
              | false =>
                right
                have : ¬ 0 < N / 2097152 := fun h => by have := hbj'.2 h; cases this
                exact ⟨rfl, by omega⟩
            rcases hbg with rfl | ⟨rfl, hgg⟩
            all_goals
              clear hbj'
              go_wp2_with (at_builtin; refine wpList_append_src _ rfl _ _ 22 22 rfl w.heap.size 5 i0 (.int .u8 0) 1 1 Tryd.underlying22 hi hz0 hz1 hz2 rfl _ _ _ rfl (hownk.alloc _) 1 [.int .u8 (N / 16384 % 128 + 128)] (Src.ofSlice _ Tryd.underlying22 ⟨_, 0, none⟩ 1 1 _ rfl (cell_one_new _ _ _) (oneInt _ _)) (by unfold maxLen; omega) (by omega) (by have := hbk.size; simp; omega) ?_)
              intro v2 w2 hown2 hgr2
              have hb2 := below_app hbk (Nat.le_refl _) hownk hgr2
              clear hgr2
              go_wp2
              go_roundw
              case rel =>
                refine ⟨2 + 1, true, by omega, by go_num, rfl, by simp; exact hg, ?_, hb2⟩
                exact own_congr hown2 (by rw [HS.out]; simp; try omega) (by rw [HS.out]; simp)
              case measure => simp [intOf]
          · have hstep : hiTo N (2 + 1) = hiTo N 2 := by simp [hiTo, hiG_no hg]
            have HS := Hid.mk hstep
            clear hstep
            have hbf : b = false := by
              cases b with
              | false => rfl
              | true => have := hbj'.1 rfl; omega
            subst hbf
            have hgg : N / 16384 % 128 = 0 := by omega
            clear hbj' hor
            go_wp2
            go_roundw
            case rel =>
              refine ⟨2 + 1, false, by omega, by go_num, rfl, by simp; omega, ?_, hbk⟩
              rw [HS.out]
              exact hownk
            case measure => simp [intOf]
        · have hand := i64_and127 (N / 128)
          have hor := or128_i64 (N / 128)
          have hbj' : b = true ↔ 0 < N / 16384 := by simpa using hbj
          clear hbj
          have hll := hiTo_length N 3
          by_cases hg : 0 < N / 128
          · have hstep : hiTo N (3 + 1) = hiTo N 3 ++ [N / 128 % 128 + 128] := by simp only [hiTo, hiG_yes hg]; try rfl
            have HS := Hid.mk hstep
            clear hstep
            have hbg : b = true ∨ (b = false ∧ 0 < N / 128 % 128) := by
              cases b with
              | true => exact Or.inl rfl
              | false =>
                right
                have : ¬ 0 < N / 16384 := fun h => by have := hbj'.2 h; cases this
                exact ⟨rfl, by omega⟩
            rcases hbg with rfl | ⟨rfl, hgg⟩
            all_goals
              clear hbj'
              go_wp2_with (at_builtin; refine wpList_append_src _ rfl _ _ 22 22 rfl w.heap.size 5 i0 (.int .u8 0) 1 1 Tryd.underlying22 hi hz0 hz1 hz2 rfl _ _ _ rfl (hownk.alloc _) 1 [.int .u8 (N / 128 % 128 + 128)] (Src.ofSlice _ Tryd.underlying22 ⟨_, 0, none⟩ 1 1 _ rfl (cell_one_new _ _ _) (oneInt _ _)) (by unfold maxLen; omega) (by omega) (by have := hbk.size; simp; omega) ?_)
              intro v2 w2 hown2 hgr2
              have hb2 := below_app hbk (Nat.le_refl _) hownk hgr2
              clear hgr2
              go_wp2
              go_roundw
              case rel =>
                refine ⟨3 + 1, true, by omega, by go_num, rfl, by simp; exact hg, ?_, hb2⟩
                exact own_congr hown2 (by rw [HS.out]; simp; try omega) (by rw [HS.out]; simp)
              case measure => simp [intOf]
          · have hstep : hiTo N (3 + 1) = hiTo N 3 := by simp [hiTo, hiG_no hg]
            have HS := Hid.mk hstep
            clear hstep
            have hbf : b = false := by
              cases b with
              | false => rfl
              | true => have := hbj'.1 rfl; omega
            subst hbf
            have hgg : N / 128 % 128 = 0 := by omega
            clear hbj' hor
            go_wp2
            go_roundw
            case rel =>
              refine ⟨3 + 1, false, by omega, by go_num, rfl, by simp; omega, ?_, hbk⟩
              rw [HS.out]
              exact hownk
            case measure => simp [intOf]
        · clear hbj
          have hand := i64_and127 N
          have hll := hiTo_length N 4
          go_wp2_with (at_builtin; refine wpList_append_src _ rfl _ _ 22 22 rfl w.heap.size 5 i0 (.int .u8 0) 1 1 Tryd.underlying22 hi hz0 hz1 hz2 rfl _ _ _ rfl (hownk.alloc _) 1 [.int .u8 (N % 128)] (Src.ofSlice _ Tryd.underlying22 ⟨_, 0, none⟩ 1 1 _ rfl (cell_one_new _ _ _) (oneInt _ _)) (by unfold maxLen; omega) (by omega) (by have := hbk.size; simp; omega) ?_)
          intro v2 w2 hown2 hgr2
          have hb2 := below_app hbk (Nat.le_refl _) hownk hgr2
          clear hgr2
          go_wp2
          go_ret
          refine ⟨v2, rfl, ?_, hb2⟩
          rw [HN.out]
          exact own_congr hown2 (by simp [putNum]; try omega) (by simp [putNum])


theorem specPutNum_R (a : Option Addr) (n cap : Nat) (zs : List Int) (q : Int) (w : World) (hx : zs.length = n) (hlen : n ≤ 35184372088832) (hr : Rd .u8 w.heap.size w a zs) :
    Calls Tryd.prog 28 #[.slice a n cap, .int .i64 q] w fun e w' => ∃ v, e = .returned v ∧
      w'.ownsRow w.heap.size 5 1 v (zs ++ putNum (clampN q)).length ((zs ++ putNum (clampN q)).map (Value.int .u8)) ∧ Below w.heap.size w w' :=
  (specPutNum_any a n cap zs q w hx (by omega) hr).mono fun _ _ ⟨v, h1, h2, h3⟩ => ⟨v, h1, own_congr h2 (by simp [hx]) rfl, h3⟩


theorem take_snoc {xs : List Int} {k n : Nat} (hx : xs.length = n) (hk : k < n) : xs.take (k + 1) = xs.take k ++ [xs.getD k 0] := by
  rw [List.take_succ_eq_append_getElem (by omega), List.getD_eq_getElem?_getD, List.getElem?_eq_getElem (by omega)]
  rfl

theorem step_put {w : World} {base e n j : Nat} {v : Value} {zs ns : List Int} {x N : Int} (h : w.ownsRow base e 1 v (n + (putNums (ns.take j)).length + (putNum N).length) (((zs ++ putNums (ns.take j)) ++ putNum N).map (Value.int .u8)))
    (hN : clampN x = N) (ht : ns.take (j + 1) = ns.take j ++ [x]) : w.ownsRow base e 1 v (n + (putNums (ns.take (j + 1))).length) ((zs ++ putNums (ns.take (j + 1))).map (Value.int .u8)) := by
  subst hN
  rw [ht, putNums_snoc]
  exact own_congr h (by simp; omega) (by simp)

set_option maxHeartbeats 800000 in
theorem putNums_any (a c : Option Addr) (n cap m ccap : Nat) (zs ns : List Int) (w : World) (hx : zs.length = n) (hy : ns.length = m) (hlen : n ≤ 35184372088832) (hm : m ≤ 1000000) (hr : Rd .u8 w.heap.size w a zs) (hrn : Rd .i64 w.heap.size w c ns) :
    Calls Tryd.prog 58 #[.slice a n cap, .slice c m ccap] w fun e w' => ∃ v, e = .returned v ∧
      w'.ownsRow w.heap.size 5 1 v (n + (putNums ns).length) ((zs ++ putNums ns).map (Value.int .u8)) ∧ Below w.heap.size w w' := by
  obtain ⟨i0, hi, hz0, hz1, hz2⟩ := info_parts Tryd.info5
  have HX : Hid (zs.length = n) := hx
  have HY : Hid (ns.length = m) := hy
  clear hx hy
  go_enter Tryd.func58, Tryd.ntmps58
  go_wp2_with (at_make; refine wpList_make_any _ rfl _ _ 22 rfl w.heap.size 5 i0 (.int .u8 0) Tryd.underlying22 hi hz0 hz1 rfl .i64 .i64 _ _ n (n + 5 * m) rfl rfl rfl (by omega) (by omega) (by rw [hz2]; omega) (by unfold maxLen; omega) (Nat.le_refl _) ?_)
  intro w1 hown hgr
  have hb1 : Below w.heap.size w w1 := (Below.refl _ _).grown hgr (Nat.le_refl _) (fun k h => by cases h)
  clear hgr
  have hr1 := hr.below hb1
  go_wp2_with (refine wpList_copy_rd rfl _ _ 22 22 rfl 5 i0 Tryd.underlying22 hi hz1 w.heap.size w.heap.size n (n + 5 * m) cap a rfl rfl _ hown .u8 zs w.heap.size HX.out hr1 ?_)
  intro w2 hown2 hgr2
  have hb2 : Below w.heap.size w w2 := hb1.grown hgr2 hb1.size (fun k h => by simp at h; omega)
  clear hgr2 hown hb1 hr1 hr
  go_wp2_with fail
  go_loopw [5, 7, 22] (fun o x k wr => ∃ j : Nat, j ≤ m ∧ k = .int .i64 j ∧
    wr.ownsRow w.heap.size 5 1 o (n + (putNums (ns.take j)).length) ((zs ++ putNums (ns.take j)).map (Value.int .u8)) ∧ Below w.heap.size w wr) (fun _ _ k _ => m - (intOf k).toNat)
  case atStart => exact ⟨0, by omega, rfl, by simpa [putNums] using hown2, hb2⟩
  case round =>
    obtain ⟨j, hj, rfl, hownk, hbk⟩ := hrel
    clear hown2 hb2
    have hl := putNums_length (ns.take j)
    have hl2 : (ns.take j).length ≤ j := List.length_take_le _ _
    by_cases hlt : j < m
    · obtain ⟨b1, o1, rfl, hB, hc1⟩ := hrn j (by rw [HY.out]; exact hlt)
      have hc2 : wr.cell? ⟨b1, o1 + j, none⟩ = some (.int .i64 (ns.getD j 0)) := (hbk.cell (p := ⟨b1, o1 + j, none⟩) hB).trans hc1
      have HT := Hid.mk (take_snoc HY.out hlt)
      generalize ns.getD j 0 = x at hc1 hc2 HT
      clear hc1 hrn
      by_cases h1 : 1000000000 < x
      · have HC : Hid (clampN x = 1000000000) := clampN_hi h1
        go_wp2_with fail
        refine (addGroups_own _ (n + (putNums (ns.take j)).length) w.heap.size (zs ++ putNums (ns.take j)) _ wr (by omega) (by omega) (by omega) hbk.size hownk).mono ?_
        rintro e w3 ⟨v3, rfl, hown3, hb3⟩
        have hb4 := hbk.trans hb3
        have hown4 := step_put hown3 HC.out HT.out
        clear hown3 hownk hbk hb3
        go_wp2_with fail
        go_roundw
        case rel => exact ⟨j + 1, by omega, by go_num, hown4, hb4⟩
        case measure => simp [intOf]; omega
      · by_cases h2 : x < 0
        · have HC : Hid (clampN x = 0) := clampN_lo h2
          go_wp2_with fail
          refine (addGroups_own _ (n + (putNums (ns.take j)).length) w.heap.size (zs ++ putNums (ns.take j)) _ wr (by omega) (by omega) (by omega) hbk.size hownk).mono ?_
          rintro e w3 ⟨v3, rfl, hown3, hb3⟩
          have hb4 := hbk.trans hb3
          have hown4 := step_put hown3 HC.out HT.out
          clear hown3 hownk hbk hb3
          go_wp2_with fail
          go_roundw
          case rel => exact ⟨j + 1, by omega, by go_num, hown4, hb4⟩
          case measure => simp [intOf]; omega
        · have HC : Hid (clampN x = x) := clampN_in (by omega) (by omega)
          go_wp2_with fail
          refine (addGroups_own _ (n + (putNums (ns.take j)).length) w.heap.size (zs ++ putNums (ns.take j)) _ wr (by omega) (by omega) (by omega) hbk.size hownk).mono ?_
          rintro e w3 ⟨v3, rfl, hown3, hb3⟩
          have hb4 := hbk.trans hb3
          have hown4 := step_put hown3 HC.out HT.out
          clear hown3 hownk hbk hb3
          go_wp2_with fail
          go_roundw
          case rel => exact ⟨j + 1, by omega, by go_num, hown4, hb4⟩
          case measure => simp [intOf]; omega
    · have HT : ns.take j = ns := List.take_of_length_le (by rw [HY.out]; omega)
      rw [HT] at hownk
      go_wp2_with fail
      go_ret
      exact ⟨_, rfl, hownk, hbk⟩


/-- A string's bytes, as numbers. -/
def strInts (s : ByteArray) : List Int := s.data.toList.map fun b => (b.toNat : Int)

theorem strInts_length (s : ByteArray) : (strInts s).length = s.size := by
  unfold strInts
  rw [List.length_map, Array.length_toList]
  rfl

theorem byteCells_eq (s : ByteArray) : byteCells s = (strInts s).map (Value.int .u8) := by
  unfold byteCells strInts
  rw [List.map_map]
  rfl

def putText (zs : List Int) (s : ByteArray) : List Int := zs ++ putNum (clampN s.size) ++ strInts s

theorem putText_own {w : World} {base e : Nat} {v : Value} {zs : List Int} {s : ByteArray} (h : w.ownsRow base e 1 v (zs.length + (putNum (clampN s.size)).length + s.size) (zs.map (Value.int .u8) ++ ((putNum (clampN s.size)).map (Value.int .u8) ++ byteCells s))) :
    w.ownsRow base e 1 v (putText zs s).length ((putText zs s).map (Value.int .u8)) := by
  refine own_congr h ?_ ?_
  · simp only [putText, List.length_append, strInts_length]
  · rw [byteCells_eq]; simp [putText]

set_option maxHeartbeats 400000 in
theorem specPutText_R (a : Option Addr) (n cap : Nat) (zs : List Int) (s : ByteArray) (w : World) (hx : zs.length = n) (hlen : n ≤ 35184372088832) (hr : Rd .u8 w.heap.size w a zs) (hs : s.size ≤ 35184372088832) :
    Calls Tryd.prog 29 #[.slice a n cap, .string s] w fun e w' => ∃ v, e = .returned v ∧
      w'.ownsRow w.heap.size 5 1 v (putText zs s).length ((putText zs s).map (Value.int .u8)) ∧ Below w.heap.size w w' := by
  obtain ⟨i0, hi, hz0, hz1, hz2⟩ := info_parts Tryd.info5
  have HX : Hid (zs.length = n) := hx
  clear hx
  have hpl := putNum_length (clampN s.size)
  go_enter Tryd.func29, Tryd.ntmps29
  go_wp2_with fail
  refine (specPutNum_R a n cap zs _ _ HX.out hlen (by exact hr)).mono ?_
  rintro e w1 ⟨v1, rfl, hown1, hb1⟩
  have hl : (zs ++ putNum (clampN s.size)).length ≤ n + 5 := by rw [List.length_append, HX.out]; omega
  go_wp2_with (at_builtin; refine wpList_append_src _ rfl _ _ 22 9 rfl w.heap.size 5 i0 (.int .u8 0) 1 1 Tryd.underlying22 hi hz0 hz1 hz2 rfl _ _ _ rfl hown1 s.size (byteCells s) (Src.ofString w1 Tryd.underlying9 s) (by unfold maxLen; omega) (by omega) hb1.size ?_)
  intro v2 w2 hown2 hgr2
  have hown3 := putText_own hown2
  have hb2 := hb1.grown hgr2 hb1.size (fun k h => (hown1.lt k h).1)
  clear hown2 hown1 hgr2 hb1
  go_wp2
  go_ret
  exact ⟨v2, rfl, hown3, hb2⟩

set_option maxHeartbeats 400000 in
theorem implPutText_R (a : Option Addr) (n cap : Nat) (zs : List Int) (s : ByteArray) (w : World) (hx : zs.length = n) (hlen : n ≤ 35184372088832) (hr : Rd .u8 w.heap.size w a zs) (hs : s.size ≤ 35184372088832) :
    Calls Tryd.prog 62 #[.slice a n cap, .string s] w fun e w' => ∃ v, e = .returned v ∧
      w'.ownsRow w.heap.size 5 1 v (putText zs s).length ((putText zs s).map (Value.int .u8)) ∧ Below w.heap.size w w' := by
  obtain ⟨i0, hi, hz0, hz1, hz2⟩ := info_parts Tryd.info5
  have HX : Hid (zs.length = n) := hx
  clear hx
  have hpl := putNum_length (clampN s.size)
  go_enter Tryd.func62, Tryd.ntmps62
  go_wp2_with fail
  have hb0 : Below w.heap.size w (w.alloc (.cells #[.int .i64 s.size] 3)) := (Below.refl _ _).alloc (Nat.le_refl _) _
  refine (putNums_any a _ n cap 1 1 zs [(s.size : Int)] _ HX.out rfl hlen (by omega) ((hr.below hb0).mono (by simp)) (by simpa using rd_one .i64 w s.size 3)).mono ?_
  rintro e w1 ⟨v1, rfl, hown0, hb1'⟩
  have hown1 : w1.ownsRow w.heap.size 5 1 v1 (zs ++ putNum (clampN s.size)).length ((zs ++ putNum (clampN s.size)).map (Value.int .u8)) :=
    own_base (own_congr hown0 (by rw [List.length_append, HX.out]; simp [putNums]) (by simp [putNums])) (by simp)
  have hb1 := hb0.trans (hb1'.mono (by simp))
  have hl : (zs ++ putNum (clampN s.size)).length ≤ n + 5 := by rw [List.length_append, HX.out]; omega
  clear hown0 hb1' hb0
  go_wp2_with (at_builtin; refine wpList_append_src _ rfl _ _ 22 9 rfl w.heap.size 5 i0 (.int .u8 0) 1 1 Tryd.underlying22 hi hz0 hz1 hz2 rfl _ _ _ rfl hown1 s.size (byteCells s) (Src.ofString w1 Tryd.underlying9 s) (by unfold maxLen; omega) (by omega) hb1.size ?_)
  intro v2 w2 hown2 hgr2
  have hown3 := putText_own hown2
  have hb2 := hb1.grown hgr2 hb1.size (fun k h => (hown1.lt k h).1)
  clear hown2 hown1 hgr2 hb1
  go_wp2
  go_ret
  exact ⟨v2, rfl, hown3, hb2⟩


/-- The four bytes of a sum. -/
def four (x : Int) : List Int := [x / 16777216, x / 65536 % 256, x / 256 % 256, x % 256]

theorem four_length (x : Int) : (four x).length = 4 := rfl

theorem four_ok {x : Int} (h0 : 0 ≤ x) (h1 : x < 4294967296) : BytesOk (four x) := by
  intro z hz
  simp only [four, List.mem_cons, List.not_mem_nil, or_false] at hz
  omega

def frame (zs : List Int) : List Int := four (crc zs) ++ putNum (clampN zs.length) ++ zs

theorem frame_own {w : World} {base e n : Nat} {v : Value} {zs : List Int} (hn : zs.length = n) {m : Nat} {l : List Value} (h : w.ownsRow base e 1 v m l)
    (hm : m = (four (crc zs) ++ putNum (clampN n)).length + n) (hl : l = (four (crc zs) ++ putNum (clampN n)).map (Value.int .u8) ++ zs.map (Value.int .u8)) :
    w.ownsRow base e 1 v (frame zs).length ((frame zs).map (Value.int .u8)) := by
  refine own_congr h ?_ ?_
  · rw [hm]; simp only [frame, List.length_append, hn]
  · rw [hl]; simp [frame, hn]


set_option maxHeartbeats 400000 in
theorem implFour_any (x : Int) (w : World) (h0 : 0 ≤ x) (h1 : x < 4294967296) :
    Calls Tryd.prog 45 #[.int .i64 x] w fun e w' => e = .returned (.slice (some ⟨w.heap.size, 0, none⟩) 4 4) ∧
      w'.ownsRow w.heap.size 5 1 (.slice (some ⟨w.heap.size, 0, none⟩) 4 4) 4 ((four x).map (Value.int .u8)) ∧ Below w.heap.size w w' := by
  go_enter Tryd.func45, Tryd.ntmps45
  go_wp2
  go_ret
  exact ⟨rfl, World.ownsRow_lit w _ 4 (Nat.le_refl _) (by decide) rfl, (Below.refl _ _).alloc (Nat.le_refl _) _⟩

set_option maxHeartbeats 400000 in
theorem implFrame_R (a : Option Addr) (n cap : Nat) (zs : List Int) (w : World) (hx : zs.length = n) (hlen : n ≤ 35184372088832) (hr : Rd .u8 w.heap.size w a zs) (hb : BytesOk zs) (ht : TabAt w) :
    Calls Tryd.prog 40 #[.slice a n cap] w fun e w' => ∃ v, e = .returned v ∧
      w'.ownsRow w.heap.size 5 1 v (frame zs).length ((frame zs).map (Value.int .u8)) ∧ Below w.heap.size w w' := by
  obtain ⟨i0, hi, hz0, hz1, hz2⟩ := info_parts Tryd.info5
  have HX : Hid (zs.length = n) := hx
  clear hx
  have hpl := putNum_length (clampN n)
  have hcb := crc_bd hb
  go_enter Tryd.func40, Tryd.ntmps40
  go_wp2_with fail
  refine (implSum_any a n cap zs _ _ HX.out (by omega) hb (by exact hr) ht).mono ?_
  rintro e w0 ⟨rfl, rfl⟩
  go_wp2_with fail
  refine (implFour_any (crc zs) _ hcb.1 hcb.2).mono ?_
  rintro e w1 ⟨rfl, hown1, hb1⟩
  go_wp2_with fail
  have hb1' : Below w1.heap.size w1 (w1.alloc (.cells #[.int .i64 n] 3)) := (Below.refl _ _).alloc (Nat.le_refl _) _
  refine (putNums_any _ _ 4 4 1 1 (four (crc zs)) [(n : Int)] _ rfl rfl (by omega) (by omega) (((Rd.own rfl hown1).below hb1').mono (by simp)) (by simpa using rd_one .i64 w1 n 3)).mono ?_
  rintro e w2 ⟨v2, rfl, hown2, hb2⟩
  have hown2' : w2.ownsRow w0.heap.size 5 1 v2 (four (crc zs) ++ putNum (clampN n)).length ((four (crc zs) ++ putNum (clampN n)).map (Value.int .u8)) :=
    own_base (own_congr hown2 (by simp [putNums, four_length]) (by simp [putNums])) (by simpa using Nat.le_trans hb1.size (Nat.le_succ _))
  have hB2 := hb1.trans ((hb1'.trans (hb2.mono (by simp))).mono hb1.size)
  have hr2 := hr.below hB2
  have hl : (four (crc zs) ++ putNum (clampN n)).length ≤ 9 := by rw [List.length_append, four_length]; omega
  clear hown1 hown2 hb1 hb2 hb1'
  go_wp2_with (at_builtin; refine wpList_append_src _ rfl _ _ 22 22 rfl w0.heap.size 5 i0 (.int .u8 0) 1 1 Tryd.underlying22 hi hz0 hz1 hz2 rfl _ _ _ rfl hown2' n (zs.map (Value.int .u8)) (Src.rd Tryd.underlying22 HX.out hr2) (by unfold maxLen; omega) (by omega) hB2.size ?_)
  intro v3 w3 hown3 hgr3
  have hown4 := frame_own HX.out hown3 (by simp) (by simp)
  have hb3 := hB2.grown hgr3 hB2.size (fun k h => (hown2'.lt k h).1)
  clear hown3 hown2' hgr3 hB2
  go_wp2
  go_ret
  exact ⟨v3, rfl, hown4, hb3⟩


set_option maxHeartbeats 400000 in
theorem specFour_any (x : Int) (w : World) (h0 : 0 ≤ x) (h1 : x < 4294967296) :
    Calls Tryd.prog 33 #[.int .i64 x] w fun e w' => e = .returned (.slice (some ⟨w.heap.size, 0, none⟩) 4 4) ∧
      w'.ownsRow w.heap.size 5 1 (.slice (some ⟨w.heap.size, 0, none⟩) 4 4) 4 ((four x).map (Value.int .u8)) ∧ Below w.heap.size w w' := by
  go_enter Tryd.func33, Tryd.ntmps33
  go_wp2
  go_ret
  exact ⟨rfl, World.ownsRow_lit w _ 4 (Nat.le_refl _) (by decide) rfl, (Below.refl _ _).alloc (Nat.le_refl _) _⟩

set_option maxHeartbeats 400000 in
theorem specFrame_Q (a : Option Addr) (n cap : Nat) (zs : List Int) (w : World) (hx : zs.length = n) (hlen : n ≤ 35184372088832) (hr : Rd .u8 w.heap.size w a zs) (hb : BytesOk zs) :
    Calls Tryd.prog 32 #[.slice a n cap] w fun e w' => ∃ v, e = .returned v ∧
      w'.ownsRow w.heap.size 5 1 v (frame zs).length ((frame zs).map (Value.int .u8)) ∧ Below w.heap.size w w' := by
  obtain ⟨i0, hi, hz0, hz1, hz2⟩ := info_parts Tryd.info5
  have HX : Hid (zs.length = n) := hx
  clear hx
  have hpl := putNum_length (clampN n)
  have hcb := crc_bd hb
  go_enter Tryd.func32, Tryd.ntmps32
  go_wp2_with fail
  refine (specSum_any a n cap zs _ _ HX.out (by omega) hb (by exact hr)).mono ?_
  rintro e w0 ⟨rfl, rfl⟩
  go_wp2_with fail
  refine (specFour_any (crc zs) _ hcb.1 hcb.2).mono ?_
  rintro e w1 ⟨rfl, hown1, hb1⟩
  go_wp2_with fail
  refine (specPutNum_R _ 4 4 (four (crc zs)) _ _ rfl (by omega) (by exact Rd.own rfl hown1)).mono ?_
  rintro e w2 ⟨v2, rfl, hown2, hb2⟩
  have hown2' := own_base hown2 hb1.size
  have hB2 := hb1.trans (hb2.mono hb1.size)
  have hr2 := hr.below hB2
  have hl : (four (crc zs) ++ putNum (clampN n)).length ≤ 9 := by rw [List.length_append, four_length]; omega
  clear hown1 hown2 hb1 hb2
  go_wp2_with (at_builtin; refine wpList_append_src _ rfl _ _ 22 22 rfl w0.heap.size 5 i0 (.int .u8 0) 1 1 Tryd.underlying22 hi hz0 hz1 hz2 rfl _ _ _ rfl hown2' n (zs.map (Value.int .u8)) (Src.rd Tryd.underlying22 HX.out hr2) (by unfold maxLen; omega) (by omega) hB2.size ?_)
  intro v3 w3 hown3 hgr3
  have hown4 := frame_own HX.out hown3 (by simp) (by simp)
  have hb3 := hB2.grown hgr3 hB2.size (fun k h => (hown2'.lt k h).1)
  clear hown3 hown2' hgr3 hB2
  go_wp2
  go_ret
  exact ⟨v3, rfl, hown4, hb3⟩
theorem specFrame_R (a : Option Addr) (n cap : Nat) (zs : List Int) (w : World) (hx : zs.length = n) (hlen : n ≤ 35184372088832) (hr : Rd .u8 w.heap.size w a zs) (hb : BytesOk zs) (_ht : TabAt w) :
    Calls Tryd.prog 32 #[.slice a n cap] w fun e w' => ∃ v, e = .returned v ∧
      w'.ownsRow w.heap.size 5 1 v (frame zs).length ((frame zs).map (Value.int .u8)) ∧ Below w.heap.size w w' :=
  specFrame_Q a n cap zs w hx hlen hr hb


/-- How many first elements two lists have in common. -/
def comL : List UInt8 → List UInt8 → Nat
  | x :: xs, y :: ys => if x = y then comL xs ys + 1 else 0
  | [], _ => 0
  | _ :: _, [] => 0
theorem comL_le (a b : List UInt8) : comL a b ≤ a.length ∧ comL a b ≤ b.length := by
  induction a generalizing b with
  | nil => simp [comL]
  | cons x xs ih =>
    cases b with
    | nil => simp [comL]
    | cons y ys =>
      have := ih ys
      simp only [comL]
      split <;> simp <;> omega
theorem comL_eq (a b : List UInt8) (k : Nat) (ha : k ≤ a.length) (hb : k ≤ b.length) (h : ∀ j, j < k → a[j]? = b[j]?) (he : k = a.length ∨ k = b.length ∨ a[k]? ≠ b[k]?) : comL a b = k := by
  induction k generalizing a b with
  | zero =>
    cases a with
    | nil => cases b <;> rfl
    | cons x xs =>
      cases b with
      | nil => rfl
      | cons y ys =>
        simp only [comL]
        rw [if_neg]
        rintro rfl
        simp at he
  | succ k ih =>
    cases a with
    | nil => simp at ha
    | cons x xs =>
      cases b with
      | nil => simp at hb
      | cons y ys =>
        have h0 := h 0 (by omega)
        simp at h0
        subst h0
        simp only [comL]
        rw [if_pos trivial, ih xs ys (by simpa using ha) (by simpa using hb) (fun j hj => by have := h (j + 1) (by omega); simpa using this) (by simpa using he)]
def com (a b : ByteArray) : Nat := comL a.data.toList b.data.toList
theorem com_le (a b : ByteArray) : com a b ≤ a.size ∧ com a b ≤ b.size := comL_le _ _

def goneI (p : MPair) : Int := if p.fGone then 1 else 0
/-- A pair behind another key. -/
def pairB (last : ByteArray) (p : MPair) : List Int :=
  putText (putText (putNum (clampN (com last p.fKey))) (p.fKey.extract (com last p.fKey) p.fKey.size) ++ [goneI p]) p.fVal
def lastK : ByteArray → List MPair → ByteArray
  | k, [] => k
  | _, p :: ps => lastK p.fKey ps
def blockB : ByteArray → List MPair → List Int
  | _, [] => []
  | k, p :: ps => pairB k p ++ blockB p.fKey ps
theorem blockB_snoc (k : ByteArray) (l : List MPair) (p : MPair) : blockB k (l ++ [p]) = blockB k l ++ pairB (lastK k l) p := by
  induction l generalizing k with
  | nil => simp [blockB, lastK]
  | cons q l ih => simp [blockB, lastK, ih]
theorem lastK_snoc (k : ByteArray) (l : List MPair) (p : MPair) : lastK k (l ++ [p]) = p.fKey := by
  induction l generalizing k with
  | nil => rfl
  | cons q l ih => simp [lastK, ih]
theorem strInts_ok (s : ByteArray) : BytesOk (strInts s) := by
  intro z hz
  simp only [strInts, List.mem_map] at hz
  obtain ⟨b, _, rfl⟩ := hz
  have := b.toNat_lt
  omega
theorem putText_ok {zs : List Int} (h : BytesOk zs) (s : ByteArray) : BytesOk (putText zs s) := (h.append (putNum_ok _)).append (strInts_ok s)
theorem goneI_ok (p : MPair) : BytesOk [goneI p] := by
  intro z hz
  simp only [List.mem_singleton] at hz
  subst hz
  unfold goneI
  split <;> omega
theorem pairB_ok (k : ByteArray) (p : MPair) : BytesOk (pairB k p) := putText_ok ((putText_ok (putNum_ok _) _).append (goneI_ok p)) _
theorem blockB_ok (k : ByteArray) (l : List MPair) : BytesOk (blockB k l) := by
  induction l generalizing k with
  | nil => intro z hz; simp [blockB] at hz
  | cons p l ih => exact (pairB_ok k p).append (ih _)
theorem putText_len (zs : List Int) (s : ByteArray) : (putText zs s).length ≤ zs.length + 5 + s.size := by
  have := (putNum_length (clampN s.size)).2
  simp only [putText, List.length_append, strInts_length]
  omega
theorem ext_size (s : ByteArray) (n : Nat) : (s.extract n s.size).size ≤ s.size := by rw [ByteArray.size_extract]; omega
theorem pairB_len (k : ByteArray) (p : MPair) : (pairB k p).length ≤ 16 + wPair p := by
  have h1 := putText_len (putText (putNum (clampN (com k p.fKey))) (p.fKey.extract (com k p.fKey) p.fKey.size) ++ [goneI p]) p.fVal
  have h2 := putText_len (putNum (clampN (com k p.fKey))) (p.fKey.extract (com k p.fKey) p.fKey.size)
  have h3 := (putNum_length (clampN (com k p.fKey))).2
  have h4 := ext_size p.fKey (com k p.fKey)
  have h5 : wPair p = p.fKey.size + p.fVal.size := rfl
  rw [List.length_append, List.length_singleton] at h1
  unfold pairB
  omega
theorem blockB_len (k : ByteArray) (l : List MPair) : (blockB k l).length ≤ 16 * l.length + sumW wPair l := by
  induction l generalizing k with
  | nil => simp [blockB]
  | cons p l ih =>
    have h1 := pairB_len k p
    have h2 := ih p.fKey
    simp only [blockB, List.length_append, List.length_cons, sumW]
    omega

/-- The pairs of a block. -/
def blk (l : List MPair) (i : Nat) : List MPair := (l.drop (4 * i)).take 4
def outB (l : List MPair) : Nat → List Int
  | 0 => []
  | i + 1 => outB l i ++ frame (blockB ByteArray.empty (blk l i))
def idx1 (l : List MPair) (i : Nat) : List Int := putText [] (lastK ByteArray.empty (blk l i)) ++ putNum (clampN (outB l i).length)
def idxB (l : List MPair) : Nat → List Int
  | 0 => []
  | i + 1 => idxB l i ++ idx1 l i
def nBlk (l : List MPair) : Nat := (l.length + 3) / 4
def keysP (l : List MPair) : List ByteArray := l.map fun p => p.fKey
def tabB (l : List MPair) : List Int :=
  outB l (nBlk l) ++ frame (putNum (clampN (nBlk l)) ++ idxB l (nBlk l) ++ flt (keysP l)) ++ four (outB l (nBlk l)).length


def kLt (a b : ByteArray) : Bool := Op.bytesLess a.toList b.toList
theorem kl_asymm : ∀ {x y : List UInt8}, Op.bytesLess x y = true → Op.bytesLess y x = false
  | _, [], h => by simp [Op.bytesLess] at h
  | [], _ :: _, _ => by simp [Op.bytesLess]
  | a :: x, b :: y, h => by
    simp only [Op.bytesLess, Bool.or_eq_true, Bool.and_eq_true, decide_eq_true_eq, beq_iff_eq, Bool.or_eq_false_iff, Bool.and_eq_false_iff, decide_eq_false_iff_not, beq_eq_false_iff_ne] at h ⊢
    rcases h with h | ⟨rfl, h⟩
    · exact ⟨fun h2 => absurd (UInt8.lt_trans h h2) (UInt8.lt_irrefl _), .inl (fun e => by subst e; exact UInt8.lt_irrefl _ h)⟩
    · exact ⟨UInt8.lt_irrefl _, .inr (kl_asymm h)⟩
theorem kl_irrefl (x : List UInt8) : Op.bytesLess x x = false := by
  cases h : Op.bytesLess x x with
  | false => rfl
  | true => have := kl_asymm h; rw [h] at this; cases this
theorem kl_total : ∀ {x y : List UInt8}, Op.bytesLess x y = false → x ≠ y → Op.bytesLess y x = true
  | [], [], _, hn => absurd rfl hn
  | _ :: _, [], _, _ => by simp [Op.bytesLess]
  | [], _ :: _, h, _ => by simp [Op.bytesLess] at h
  | a :: x, b :: y, h, hn => by
    simp only [Op.bytesLess, Bool.or_eq_true, Bool.and_eq_true, decide_eq_true_eq, beq_iff_eq, Bool.or_eq_false_iff, Bool.and_eq_false_iff, decide_eq_false_iff_not, beq_eq_false_iff_ne] at h ⊢
    by_cases hab : a = b
    · subst hab
      right
      refine ⟨rfl, kl_total ?_ (fun e => hn (by rw [e]))⟩
      rcases h.2 with h2 | h2
      · exact absurd rfl h2
      · exact h2
    · left
      rcases UInt8.lt_or_lt_of_ne hab with h1 | h1
      · exact absurd h1 h.1
      · exact h1
theorem k_eq {a b : ByteArray} : (a.toList == b.toList) = true ↔ a = b := by
  rw [beq_iff_eq, ByteArray.toList_eq, ByteArray.toList_eq]
  constructor
  · intro h
    cases a; cases b
    simpa using Array.toList_inj.1 h
  · intro h; rw [h]

theorem k_ne {a b : ByteArray} (h : a ≠ b) : (a.toList == b.toList) = false := by
  rw [Bool.eq_false_iff]
  exact fun e => h (k_eq.1 e)
theorem kLt_irrefl (s : ByteArray) : kLt s s = false := kl_irrefl _
theorem kLt_asymm {a b : ByteArray} (h : kLt a b = true) : kLt b a = false := kl_asymm h
theorem kLt_tri {a b : ByteArray} (h1 : kLt a b = false) (h2 : a ≠ b) : kLt b a = true := kl_total h1 (fun e => h2 (k_eq.1 (by rw [e]; simp)))
theorem k_len (s : ByteArray) : s.toList.length = s.size := by
  rw [ByteArray.toList_eq]
  simp
theorem k_emp {s : ByteArray} (h : s.size = 0) : s.toList.isEmpty = true := by
  rw [List.isEmpty_iff]
  apply List.eq_nil_of_length_eq_zero
  rw [k_len]
  exact h
theorem k_nemp {s : ByteArray} (h : s.size ≠ 0) : s.toList.isEmpty = false := by
  rw [List.isEmpty_eq_false_iff]
  intro e
  have := k_len s
  rw [e] at this
  exact h this.symm

def inR (x a b : Int) : Bool := decide (a ≤ x ∧ x ≤ b)
def keyOkP (s : ByteArray) : Bool := decide (1 ≤ s.size ∧ s.size ≤ 20)
def pairOkP (m : MPair) : Bool := keyOkP m.fKey && decide (m.fVal.size ≤ 20) && (!m.fGone || decide (m.fVal.size = 0))

end Go.Proofs.YtocgbeoglgkibaaDoor

namespace Go.Proofs.YtocgbeoglgkibaaDoor
open Go.RowKit Go.Maps

set_option maxHeartbeats 400000 in
theorem inR_any (x a b : Int) (w : World) :
    Calls Tryd.prog 27 #[.int .i64 x, .int .i64 a, .int .i64 b] w fun e w' => e = .returned (.bool (inR x a b)) ∧ w' = w := by
  by_cases h1 : a ≤ x
  · by_cases h2 : x ≤ b
    · have HV : Hid (inR x a b = true) := decide_eq_true ⟨h1, h2⟩
      go_enter Tryd.func27, Tryd.ntmps27
      go_wp2
      go_ret
      exact ⟨by rw [HV.out]; rfl, rfl⟩
    · have HV : Hid (inR x a b = false) := decide_eq_false (fun h => h2 h.2)
      go_enter Tryd.func27, Tryd.ntmps27
      go_wp2
      go_ret
      exact ⟨by rw [HV.out]; rfl, rfl⟩
  · have HV : Hid (inR x a b = false) := decide_eq_false (fun h => h1 h.1)
    go_enter Tryd.func27, Tryd.ntmps27
    go_wp2
    go_ret
    exact ⟨by rw [HV.out]; rfl, rfl⟩

set_option maxHeartbeats 400000 in
theorem keyOk_any (s : ByteArray) (w : World) (hs : s.size ≤ 9223372036854775807) :
    Calls Tryd.prog 68 #[.string s] w fun e w' => e = .returned (.bool (keyOkP s)) ∧ w' = w := by
  by_cases h0 : s.size = 0
  · have HV : Hid (keyOkP s = false) := decide_eq_false (fun h => by omega)
    have he := k_emp h0
    go_enter Tryd.func68, Tryd.ntmps68
    go_wp2
    go_ret
    exact ⟨by rw [HV.out]; rfl, rfl⟩
  · have he := k_nemp h0
    by_cases h1 : s.size ≤ 20
    · have HV : Hid (keyOkP s = true) := decide_eq_true ⟨by omega, h1⟩
      have h2 : (s.size : Int) ≤ 20 := by omega
      go_enter Tryd.func68, Tryd.ntmps68
      go_wp2
      go_ret
      exact ⟨by rw [HV.out]; rfl, rfl⟩
    · have HV : Hid (keyOkP s = false) := decide_eq_false (fun h => by omega)
      have h2 : ¬ (s.size : Int) ≤ 20 := by omega
      go_enter Tryd.func68, Tryd.ntmps68
      go_wp2
      go_ret
      exact ⟨by rw [HV.out]; rfl, rfl⟩

set_option maxHeartbeats 1000000 in
theorem implPairOk_c (cs : List Value) (m : MPair) (w : World) (hr : rPair w.heap.size w cs m) (hw : wPair m ≤ 1048576) :
    Calls Tryd.prog 56 #[.agg cs.toArray] w fun e w' => e = .returned (.bool (pairOkP m)) ∧ Below w.heap.size w w' := by
  obtain ⟨rfl, h0, h1, h2, _⟩ := hr
  have hbA := (Below.refl w.heap.size w).alloc (Nat.le_refl _) (.cells #[.string m.fKey, .string m.fVal, .bool m.fGone] 45)
  have HV : Hid (pairOkP m = (keyOkP m.fKey && decide (m.fVal.size ≤ 20) && (!m.fGone || decide (m.fVal.size = 0)))) := rfl
  have hbx := Bx.new w [.string m.fKey, .string m.fVal, .bool m.fGone] 45
  have y0 := hbx.2 0 _ rfl
  have y1 := hbx.2 1 _ rfl
  have y2 := hbx.2 2 _ rfl
  go_enter Tryd.func56, Tryd.ntmps56
  go_wp2_with fail
  refine (keyOk_any m.fKey _ h0).mono ?_
  rintro e w1 ⟨rfl, hw1⟩
  subst hw1
  by_cases hk : keyOkP m.fKey = true
  · rw [hk]
    by_cases hv : m.fVal.size ≤ 20
    · have hv2 : (m.fVal.size : Int) ≤ 20 := by omega
      have HV2 : Hid (pairOkP m = (!m.fGone || decide (m.fVal.size = 0))) := by show _ = _; rw [HV.out, hk, decide_eq_true hv]; rfl
      by_cases hg : m.fGone = true
      · rw [hg] at HV2 y2 hbA
        by_cases he : m.fVal.size = 0
        · have HV3 : Hid (pairOkP m = true) := by show _ = _; rw [HV2.out, decide_eq_true he]; rfl
          have hs := k_emp he
          rw [hg]
          clear hg
          go_wp2_with fail
          go_ret
          exact ⟨by rw [HV3.out]; rfl, hbA⟩
        · have HV3 : Hid (pairOkP m = false) := by show _ = _; rw [HV2.out, decide_eq_false he]; rfl
          have hs := k_nemp he
          rw [hg]
          clear hg
          go_wp2_with fail
          go_ret
          exact ⟨by rw [HV3.out]; rfl, hbA⟩
      · have hg2 : m.fGone = false := Bool.eq_false_iff.2 hg
        have HV3 : Hid (pairOkP m = true) := by show _ = _; rw [HV2.out, hg2]; rfl
        rw [hg2]
        rw [hg2] at hbA
        clear hg hg2
        go_wp2_with fail
        go_ret
        exact ⟨by rw [HV3.out]; rfl, hbA⟩
    · have hv2 : ¬ (m.fVal.size : Int) ≤ 20 := by omega
      have HV3 : Hid (pairOkP m = false) := by show _ = _; rw [HV.out, decide_eq_false hv, Bool.and_false, Bool.false_and]
      go_wp2_with fail
      go_ret
      exact ⟨by rw [HV3.out]; rfl, hbA⟩
  · have hk2 : keyOkP m.fKey = false := Bool.eq_false_iff.2 hk
    have HV3 : Hid (pairOkP m = false) := by show _ = _; rw [HV.out, hk2, Bool.false_and, Bool.false_and]
    rw [hk2]
    go_wp2_with fail
    go_ret
    exact ⟨by rw [HV3.out]; rfl, hbA⟩

set_option maxHeartbeats 1000000 in
theorem specPairOk_c (cs : List Value) (m : MPair) (w : World) (hr : rPair w.heap.size w cs m) (hw : wPair m ≤ 1048576) :
    Calls Tryd.prog 47 #[.agg cs.toArray] w fun e w' => e = .returned (.bool (pairOkP m)) ∧ Below w.heap.size w w' := by
  obtain ⟨rfl, h0, h1, h2, _⟩ := hr
  have hbA := (Below.refl w.heap.size w).alloc (Nat.le_refl _) (.cells #[.string m.fKey, .string m.fVal, .bool m.fGone] 45)
  have HV : Hid (pairOkP m = (keyOkP m.fKey && decide (m.fVal.size ≤ 20) && (!m.fGone || decide (m.fVal.size = 0)))) := rfl
  have hbx := Bx.new w [.string m.fKey, .string m.fVal, .bool m.fGone] 45
  have y0 := hbx.2 0 _ rfl
  have y1 := hbx.2 1 _ rfl
  have y2 := hbx.2 2 _ rfl
  go_enter Tryd.func47, Tryd.ntmps47
  go_wp2_with fail
  refine (inR_any _ _ _ _).mono ?_
  rintro e w1 ⟨rfl, hw1⟩
  subst hw1
  have hin : inR (m.fKey.size : Int) 1 20 = keyOkP m.fKey := by unfold inR keyOkP; congr 1; exact propext ⟨fun h => by omega, fun h => by omega⟩
  rw [hin]
  clear hin
  by_cases hk : keyOkP m.fKey = true
  · rw [hk]
    by_cases hv : m.fVal.size ≤ 20
    · have hv2 : (m.fVal.size : Int) ≤ 20 := by omega
      have HV2 : Hid (pairOkP m = (!m.fGone || decide (m.fVal.size = 0))) := by show _ = _; rw [HV.out, hk, decide_eq_true hv]; rfl
      by_cases hg : m.fGone = true
      · rw [hg] at HV2 y2 hbA
        by_cases he : m.fVal.size = 0
        · have HV3 : Hid (pairOkP m = true) := by show _ = _; rw [HV2.out, decide_eq_true he]; rfl
          have hs := k_emp he
          rw [hg]
          clear hg
          go_wp2_with fail
          go_ret
          exact ⟨by rw [HV3.out]; rfl, hbA⟩
        · have HV3 : Hid (pairOkP m = false) := by show _ = _; rw [HV2.out, decide_eq_false he]; rfl
          have hs := k_nemp he
          rw [hg]
          clear hg
          go_wp2_with fail
          go_ret
          exact ⟨by rw [HV3.out]; rfl, hbA⟩
      · have hg2 : m.fGone = false := Bool.eq_false_iff.2 hg
        have HV3 : Hid (pairOkP m = true) := by show _ = _; rw [HV2.out, hg2]; rfl
        rw [hg2]
        rw [hg2] at hbA
        clear hg hg2
        go_wp2_with fail
        go_ret
        exact ⟨by rw [HV3.out]; rfl, hbA⟩
    · have hv2 : ¬ (m.fVal.size : Int) ≤ 20 := by omega
      have HV3 : Hid (pairOkP m = false) := by show _ = _; rw [HV.out, decide_eq_false hv, Bool.and_false, Bool.false_and]
      go_wp2_with fail
      go_ret
      exact ⟨by rw [HV3.out]; rfl, hbA⟩
  · have hk2 : keyOkP m.fKey = false := Bool.eq_false_iff.2 hk
    have HV3 : Hid (pairOkP m = false) := by show _ = _; rw [HV.out, hk2, Bool.false_and, Bool.false_and]
    rw [hk2]
    go_wp2_with fail
    go_ret
    exact ⟨by rw [HV3.out]; rfl, hbA⟩

end Go.Proofs.YtocgbeoglgkibaaDoor

namespace Go.Proofs.YtocgbeoglgkibaaDoor
open Go.RowKit

def okPrev : Option ByteArray → ByteArray → Bool
  | none, _ => true
  | some s, t => kLt s t
/-- Right pairs, each key above the one ahead. -/
def upFrom : Option ByteArray → List MPair → Bool
  | _, [] => true
  | pv, p :: r => pairOkP p && okPrev pv p.fKey && upFrom (some p.fKey) r
def prevK (l : List MPair) : Nat → Option ByteArray
  | 0 => none
  | k + 1 => (l[k]?).map MPair.fKey
def pairsOkP (l : List MPair) : Bool := upFrom none l
theorem upFrom_step {l : List MPair} {k : Nat} (h : k < l.length) : upFrom (prevK l k) (l.drop k) = (pairOkP l[k] && okPrev (prevK l k) l[k].fKey && upFrom (prevK l (k + 1)) (l.drop (k + 1))) := by
  rw [List.drop_eq_getElem_cons h]
  simp only [upFrom, prevK, List.getElem?_eq_getElem h, Option.map_some]
theorem upFrom_end {l : List MPair} {k : Nat} (h : l.length ≤ k) : upFrom (prevK l k) (l.drop k) = true := by
  rw [List.drop_eq_nil_of_le h]
  rfl
theorem upFrom_bad1 {l : List MPair} {k : Nat} (h : k < l.length) (hb : pairOkP l[k] = false) : upFrom (prevK l k) (l.drop k) = false := by
  rw [upFrom_step h, hb, Bool.false_and, Bool.false_and]
theorem upFrom_bad2 {l : List MPair} {k : Nat} (h : k < l.length) (hb : okPrev (prevK l k) l[k].fKey = false) : upFrom (prevK l k) (l.drop k) = false := by
  rw [upFrom_step h, hb, Bool.and_false, Bool.false_and]
theorem upFrom_good {l : List MPair} {k : Nat} (h : k < l.length) (h1 : pairOkP l[k] = true) (h2 : okPrev (prevK l k) l[k].fKey = true) : upFrom (prevK l k) (l.drop k) = upFrom (prevK l (k + 1)) (l.drop (k + 1)) := by
  rw [upFrom_step h, h1, h2, Bool.true_and, Bool.true_and]
theorem prevK_succ {l : List MPair} {j : Nat} (h : j < l.length) : prevK l (j + 1) = some l[j].fKey := by
  simp only [prevK, List.getElem?_eq_getElem h, Option.map_some]

end Go.Proofs.YtocgbeoglgkibaaDoor
