/-
  PutNum, the specification's and the program's: both lay the bytes that 'putNum' says behind a copy of what was handed in.
-/
import Derived.Test.YtjaaaopbidmknaaDoorBase
import Derived.Test.YtjaaaopbidmknaaDoorApp
import Derived.Test.YtjaaaopbidmknaaDoorPutM
import Derived.Laws.Bits128
import Derived.Deep.DeepCutAuto
namespace Go.Proofs.YtjaaaopbidmknaaDoor
open Go.RowKit
set_option maxRecDepth 10000

set_option maxHeartbeats 800000 in
theorem specPutNum_any (a : Option Addr) (n cap : Nat) (zs : List Int) (q : Int) (w : World) (hx : zs.length = n) (hlen : n ≤ 70368744177664) (hr : Rd .u8 w.heap.size w a zs) :
    Calls Tryd.prog 75 #[.slice a n cap, .int .i64 q] w fun e w' => ∃ v, e = .returned v ∧
      w'.ownsRow w.heap.size 5 1 v (n + (putNum (clampN q)).length) ((zs ++ putNum (clampN q)).map (Value.int .u8)) ∧ Below w.heap.size w w' := by
  obtain ⟨i0, hi, hz0, hz1, hz2⟩ := info_parts Tryd.info5
  have HX : Hid (zs.length = n) := hx
  clear hx
  go_enter Tryd.func75, Tryd.ntmps75
  have HQ := clampN_bd q
  go_wp2_with (at_builtin; refine wpList_append_src _ rfl _ _ 27 27 rfl w.heap.size 5 i0 (.int .u8 0) 1 1 Tryd.underlying27 hi hz0 hz1 hz2 rfl (.slice (some ⟨w.heap.size, 0, none⟩) 0 0) 0 [] rfl (World.ownsRow_lit w #[] 0 (Nat.le_refl _) (by decide) rfl) n (zs.map (Value.int .u8)) (Src.rd Tryd.underlying27 HX.out (hr.below ((Below.refl _ _).alloc (Nat.le_refl _) _))) ?c1 ?c2 ?c3 ?_)
  case c1 => unfold maxLen; omega
  case c2 => omega
  case c3 => simp
  intro v w1 hown hgr
  have hb1 : Below w.heap.size w w1 := ((Below.refl _ _).alloc (Nat.le_refl _) _).grown hgr (by simp) (fun k h => by simp [Value.ownBlock] at h; omega)
  clear hgr hr
  go_upto_if 13 with fail
  go_cut [1] (fun x wc => x = .int .i64 (capHi q) ∧ wc = w1)
  case first =>
    by_cases h1 : 1000000000 < q
    · go_wp2
      go_meet
      case rel => exact ⟨by rw [capHi_hi h1], rfl⟩
    · go_wp2
      go_meet
      case rel => exact ⟨by rw [capHi_in (by omega)], rfl⟩
  case rest =>
    obtain ⟨rfl, rfl⟩ := hcut
    go_upto_if 15 with fail
    go_cut [1] (fun x wd => x = .int .i64 (clampN q) ∧ wd = wc)
    case first =>
      by_cases h1 : capHi q < 0
      · go_wp2
        go_meet
        case rel => exact ⟨by rw [clampN_of_capHi, if_pos h1], rfl⟩
      · go_wp2
        go_meet
        case rel => exact ⟨by rw [clampN_of_capHi, if_neg (by omega)], rfl⟩
    case rest =>
      obtain ⟨rfl, rfl⟩ := hcut
      generalize hN : clampN q = N at *
      obtain ⟨hN0, hN1⟩ := HQ
      have HN := Hid.mk hN
      clear hN
      go_wp2_with fail
      go_loopw [5, 6, 7] (fun o h k wr => ∃ (j : Nat) (b : Bool), j ≤ 4 ∧ k = .int .i64 (28 - 7 * (j : Int)) ∧ h = .bool b ∧ (b = true ↔ 0 < N / 2 ^ (35 - 7 * j)) ∧
        wr.ownsRow w.heap.size 5 1 o (n + (hiTo N j).length) ((zs ++ hiTo N j).map (Value.int .u8)) ∧ Below w.heap.size w wr) (fun _ _ k _ => (intOf k).toNat)
      case atStart => exact ⟨0, false, by omega, rfl, rfl, by simp; omega, by simpa [hiTo] using hown, hb1⟩
      case round =>
        obtain ⟨j, b, hj, rfl, rfl, hbj, hownk, hbk⟩ := hrel
        clear hown hb1
        rcases (show j = 0 ∨ j = 1 ∨ j = 2 ∨ j = 3 ∨ j = 4 from by omega) with rfl | rfl | rfl | rfl | rfl
        · have hand := i64_and127 (N / 268435456)
          have hor := or128_i64 (N / 268435456)
          have hbj' : b = true ↔ 0 < N / 34359738368 := by simpa using hbj
          clear hbj
          have hll := hiTo_length N 0
          by_cases hg : 0 < N / 268435456
          · have hstep : hiTo N (0 + 1) = hiTo N 0 ++ [N / 268435456 % 128 + 128] := by simp only [hiTo, hiG_yes hg]; try rfl
            have HS := Hid.mk hstep
            clear hstep
            have hbg : b = true ∨ (b = false ∧ 0 < N / 268435456 % 128) := by
              cases b with
              | true => exact Or.inl rfl
              | false =>
                right
                have : ¬ 0 < N / 34359738368 := fun h => by have := hbj'.2 h; cases this
                exact ⟨rfl, by omega⟩
            rcases hbg with rfl | ⟨rfl, hgg⟩
            all_goals
              clear hbj'
              go_wp2_with (at_builtin; refine wpList_append_src _ rfl _ _ 27 27 rfl w.heap.size 5 i0 (.int .u8 0) 1 1 Tryd.underlying27 hi hz0 hz1 hz2 rfl _ _ _ rfl (hownk.alloc _) 1 [.int .u8 (N / 268435456 % 128 + 128)] (Src.ofSlice _ Tryd.underlying27 ⟨_, 0, none⟩ 1 1 _ rfl (cell_one_new _ _ _) (oneInt _ _)) (by unfold maxLen; omega) (by omega) (by have := hbk.size; simp; omega) ?_)
              intro v2 w2 hown2 hgr2
              have hb2 := below_app hbk (Nat.le_refl _) hownk hgr2
              clear hgr2
              go_wp2
              go_roundw
              case rel =>
                refine ⟨0 + 1, true, by omega, by go_num, rfl, by simp; exact hg, ?_, hb2⟩
                exact own_congr hown2 (by rw [HS.out]; simp; try omega) (by rw [HS.out]; simp)
              case measure => simp [intOf]
          · have hstep : hiTo N (0 + 1) = hiTo N 0 := by simp [hiTo, hiG_no hg]
            have HS := Hid.mk hstep
            clear hstep
            have hbf : b = false := by
              cases b with
              | false => rfl
              | true => have := hbj'.1 rfl; omega
            subst hbf
            have hgg : N / 268435456 % 128 = 0 := by omega
            clear hbj' hor
            go_wp2
            go_roundw
            case rel =>
              refine ⟨0 + 1, false, by omega, by go_num, rfl, by simp; omega, ?_, hbk⟩
              rw [HS.out]
              exact hownk
            case measure => simp [intOf]
        · have hand := i64_and127 (N / 2097152)
          have hor := or128_i64 (N / 2097152)
          have hbj' : b = true ↔ 0 < N / 268435456 := by simpa using hbj
          clear hbj
          have hll := hiTo_length N 1
          by_cases hg : 0 < N / 2097152
          · have hstep : hiTo N (1 + 1) = hiTo N 1 ++ [N / 2097152 % 128 + 128] := by simp only [hiTo, hiG_yes hg]; try rfl
            have HS := Hid.mk hstep
            clear hstep
            have hbg : b = true ∨ (b = false ∧ 0 < N / 2097152 % 128) := by
              cases b with
              | true => exact Or.inl rfl
              | false =>
                right
                have : ¬ 0 < N / 268435456 := fun h => by have := hbj'.2 h; cases this
                exact ⟨rfl, by omega⟩
            rcases hbg with rfl | ⟨rfl, hgg⟩
            all_goals
              clear hbj'
              go_wp2_with (at_builtin; refine wpList_append_src _ rfl _ _ 27 27 rfl w.heap.size 5 i0 (.int .u8 0) 1 1 Tryd.underlying27 hi hz0 hz1 hz2 rfl _ _ _ rfl (hownk.alloc _) 1 [.int .u8 (N / 2097152 % 128 + 128)] (Src.ofSlice _ Tryd.underlying27 ⟨_, 0, none⟩ 1 1 _ rfl (cell_one_new _ _ _) (oneInt _ _)) (by unfold maxLen; omega) (by omega) (by have := hbk.size; simp; omega) ?_)
              intro v2 w2 hown2 hgr2
              have hb2 := below_app hbk (Nat.le_refl _) hownk hgr2
              clear hgr2
              go_wp2
              go_roundw
              case rel =>
                refine ⟨1 + 1, true, by omega, by go_num, rfl, by simp; exact hg, ?_, hb2⟩
                exact own_congr hown2 (by rw [HS.out]; simp; try omega) (by rw [HS.out]; simp)
              case measure => simp [intOf]
          · have hstep : hiTo N (1 + 1) = hiTo N 1 := by simp [hiTo, hiG_no hg]
            have HS := Hid.mk hstep
            clear hstep
            have hbf : b = false := by
              cases b with
              | false => rfl
              | true => have := hbj'.1 rfl; omega
            subst hbf
            have hgg : N / 2097152 % 128 = 0 := by omega
            clear hbj' hor
            go_wp2
            go_roundw
            case rel =>
              refine ⟨1 + 1, false, by omega, by go_num, rfl, by simp; omega, ?_, hbk⟩
              rw [HS.out]
              exact hownk
            case measure => simp [intOf]
        · have hand := i64_and127 (N / 16384)
          have hor := or128_i64 (N / 16384)
          have hbj' : b = true ↔ 0 < N / 2097152 := by simpa using hbj
          clear hbj
          have hll := hiTo_length N 2
          by_cases hg : 0 < N / 16384
          · have hstep : hiTo N (2 + 1) = hiTo N 2 ++ [N / 16384 % 128 + 128] := by simp only [hiTo, hiG_yes hg]; try rfl
            have HS := Hid.mk hstep
            clear hstep
            have hbg : b = true ∨ (b = false ∧ 0 < N / 16384 % 128) := by
              cases b with
              | true => exact Or.inl rfl
              | false =>
                right
                have : ¬ 0 < N / 2097152 := fun h => by have := hbj'.2 h; cases this
                exact ⟨rfl, by omega⟩
            rcases hbg with rfl | ⟨rfl, hgg⟩
            all_goals
              clear hbj'
              go_wp2_with (at_builtin; refine wpList_append_src _ rfl _ _ 27 27 rfl w.heap.size 5 i0 (.int .u8 0) 1 1 Tryd.underlying27 hi hz0 hz1 hz2 rfl _ _ _ rfl (hownk.alloc _) 1 [.int .u8 (N / 16384 % 128 + 128)] (Src.ofSlice _ Tryd.underlying27 ⟨_, 0, none⟩ 1 1 _ rfl (cell_one_new _ _ _) (oneInt _ _)) (by unfold maxLen; omega) (by omega) (by have := hbk.size; simp; omega) ?_)
              intro v2 w2 hown2 hgr2
              have hb2 := below_app hbk (Nat.le_refl _) hownk hgr2
              clear hgr2
              go_wp2
              go_roundw
              case rel =>
                refine ⟨2 + 1, true, by omega, by go_num, rfl, by simp; exact hg, ?_, hb2⟩
                exact own_congr hown2 (by rw [HS.out]; simp; try omega) (by rw [HS.out]; simp)
              case measure => simp [intOf]
          · have hstep : hiTo N (2 + 1) = hiTo N 2 := by simp [hiTo, hiG_no hg]
            have HS := Hid.mk hstep
            clear hstep
            have hbf : b = false := by
              cases b with
              | false => rfl
              | true => have := hbj'.1 rfl; omega
            subst hbf
            have hgg : N / 16384 % 128 = 0 := by omega
            clear hbj' hor
            go_wp2
            go_roundw
            case rel =>
              refine ⟨2 + 1, false, by omega, by go_num, rfl, by simp; omega, ?_, hbk⟩
              rw [HS.out]
              exact hownk
            case measure => simp [intOf]
        · have hand := i64_and127 (N / 128)
          have hor := or128_i64 (N / 128)
          have hbj' : b = true ↔ 0 < N / 16384 := by simpa using hbj
          clear hbj
          have hll := hiTo_length N 3
          by_cases hg : 0 < N / 128
          · have hstep : hiTo N (3 + 1) = hiTo N 3 ++ [N / 128 % 128 + 128] := by simp only [hiTo, hiG_yes hg]; try rfl
            have HS := Hid.mk hstep
            clear hstep
            have hbg : b = true ∨ (b = false ∧ 0 < N / 128 % 128) := by
              cases b with
              | true => exact Or.inl rfl
              | false =>
                right
                have : ¬ 0 < N / 16384 := fun h => by have := hbj'.2 h; cases this
                exact ⟨rfl, by omega⟩
            rcases hbg with rfl | ⟨rfl, hgg⟩
            all_goals
              clear hbj'
              go_wp2_with (at_builtin; refine wpList_append_src _ rfl _ _ 27 27 rfl w.heap.size 5 i0 (.int .u8 0) 1 1 Tryd.underlying27 hi hz0 hz1 hz2 rfl _ _ _ rfl (hownk.alloc _) 1 [.int .u8 (N / 128 % 128 + 128)] (Src.ofSlice _ Tryd.underlying27 ⟨_, 0, none⟩ 1 1 _ rfl (cell_one_new _ _ _) (oneInt _ _)) (by unfold maxLen; omega) (by omega) (by have := hbk.size; simp; omega) ?_)
              intro v2 w2 hown2 hgr2
              have hb2 := below_app hbk (Nat.le_refl _) hownk hgr2
              clear hgr2
              go_wp2
              go_roundw
              case rel =>
                refine ⟨3 + 1, true, by omega, by go_num, rfl, by simp; exact hg, ?_, hb2⟩
                exact own_congr hown2 (by rw [HS.out]; simp; try omega) (by rw [HS.out]; simp)
              case measure => simp [intOf]
          · have hstep : hiTo N (3 + 1) = hiTo N 3 := by simp [hiTo, hiG_no hg]
            have HS := Hid.mk hstep
            clear hstep
            have hbf : b = false := by
              cases b with
              | false => rfl
              | true => have := hbj'.1 rfl; omega
            subst hbf
            have hgg : N / 128 % 128 = 0 := by omega
            clear hbj' hor
            go_wp2
            go_roundw
            case rel =>
              refine ⟨3 + 1, false, by omega, by go_num, rfl, by simp; omega, ?_, hbk⟩
              rw [HS.out]
              exact hownk
            case measure => simp [intOf]
        · clear hbj
          have hand := i64_and127 N
          have hll := hiTo_length N 4
          go_wp2_with (at_builtin; refine wpList_append_src _ rfl _ _ 27 27 rfl w.heap.size 5 i0 (.int .u8 0) 1 1 Tryd.underlying27 hi hz0 hz1 hz2 rfl _ _ _ rfl (hownk.alloc _) 1 [.int .u8 (N % 128)] (Src.ofSlice _ Tryd.underlying27 ⟨_, 0, none⟩ 1 1 _ rfl (cell_one_new _ _ _) (oneInt _ _)) (by unfold maxLen; omega) (by omega) (by have := hbk.size; simp; omega) ?_)
          intro v2 w2 hown2 hgr2
          have hb2 := below_app hbk (Nat.le_refl _) hownk hgr2
          clear hgr2
          go_wp2
          go_ret
          refine ⟨v2, rfl, ?_, hb2⟩
          rw [HN.out]
          exact own_congr hown2 (by simp [putNum]; try omega) (by simp [putNum])

set_option maxHeartbeats 800000 in
theorem addGroups_own (v : Value) (n base : Nat) (zs : List Int) (N : Int) (w : World) (hlen : n ≤ 70368744177664) (hN0 : 0 ≤ N) (hN1 : N ≤ 1000000000) (hbase : base ≤ w.heap.size)
    (hown : w.ownsRow base 5 1 v n (zs.map (Value.int .u8))) :
    Calls Tryd.prog 133 #[v, .int .i64 N] w fun e w' => ∃ v', e = .returned v' ∧
      w'.ownsRow base 5 1 v' (n + (putNum N).length) ((zs ++ putNum N).map (Value.int .u8)) ∧ Below base w w' := by
  obtain ⟨i0, hi, hz0, hz1, hz2⟩ := info_parts Tryd.info5
  go_enter Tryd.func133, Tryd.ntmps133
  go_wp2_with fail
  go_loopw [0, 5] (fun o k wr => ∃ j : Nat, j ≤ 4 ∧ k = .int .i64 (28 - 7 * (j : Int)) ∧
    wr.ownsRow base 5 1 o (n + (hiTo N j).length) ((zs ++ hiTo N j).map (Value.int .u8)) ∧ Below base w wr) (fun _ k _ => (intOf k).toNat)
  case atStart => exact ⟨0, by omega, rfl, by simpa [hiTo] using hown, Below.refl _ _⟩
  case round =>
    obtain ⟨j, hj, rfl, hownk, hbk⟩ := hrel
    clear hown
    rcases (show j = 0 ∨ j = 1 ∨ j = 2 ∨ j = 3 ∨ j = 4 from by omega) with rfl | rfl | rfl | rfl | rfl
    · have hor : bits .or .u8 (N / 268435456) 128 = N / 268435456 % 128 + 128 := by have h := or128_u8 (N / 268435456); rwa [show N / 268435456 % 256 = N / 268435456 from by omega] at h
      have hll := hiTo_length N 0
      by_cases hg : 0 < N / 268435456
      · have hstep : hiTo N (0 + 1) = hiTo N 0 ++ [N / 268435456 % 128 + 128] := by simp only [hiTo, hiG_yes hg]; try rfl
        have HS := Hid.mk hstep
        clear hstep
        go_wp2_with (at_builtin; refine wpList_append_src _ rfl _ _ 27 27 rfl base 5 i0 (.int .u8 0) 1 1 Tryd.underlying27 hi hz0 hz1 hz2 rfl _ _ _ rfl (hownk.alloc _) 1 [.int .u8 (N / 268435456 % 128 + 128)] (Src.ofSlice _ Tryd.underlying27 ⟨_, 0, none⟩ 1 1 _ rfl (cell_one_new _ _ _) (oneInt _ _)) (by unfold maxLen; omega) (by omega) (by have := hbk.size; simp; omega) ?_)
        intro v2 w2 hown2 hgr2
        have hb2 := below_app hbk hbase hownk hgr2
        clear hgr2
        go_wp2
        go_roundw
        case rel =>
          refine ⟨0 + 1, by omega, by go_num, ?_, hb2⟩
          exact own_congr hown2 (by rw [HS.out]; simp; try omega) (by rw [HS.out]; simp)
        case measure => simp [intOf]
      · have hstep : hiTo N (0 + 1) = hiTo N 0 := by simp [hiTo, hiG_no hg]
        have HS := Hid.mk hstep
        clear hstep hor
        go_wp2
        go_roundw
        case rel =>
          refine ⟨0 + 1, by omega, by go_num, ?_, hbk⟩
          rw [HS.out]
          exact hownk
        case measure => simp [intOf]
    · have hor := or128_u8 (N / 2097152)
      have hll := hiTo_length N 1
      by_cases hg : 0 < N / 2097152
      · have hstep : hiTo N (1 + 1) = hiTo N 1 ++ [N / 2097152 % 128 + 128] := by simp only [hiTo, hiG_yes hg]; try rfl
        have HS := Hid.mk hstep
        clear hstep
        go_wp2_with (at_builtin; refine wpList_append_src _ rfl _ _ 27 27 rfl base 5 i0 (.int .u8 0) 1 1 Tryd.underlying27 hi hz0 hz1 hz2 rfl _ _ _ rfl (hownk.alloc _) 1 [.int .u8 (N / 2097152 % 128 + 128)] (Src.ofSlice _ Tryd.underlying27 ⟨_, 0, none⟩ 1 1 _ rfl (cell_one_new _ _ _) (oneInt _ _)) (by unfold maxLen; omega) (by omega) (by have := hbk.size; simp; omega) ?_)
        intro v2 w2 hown2 hgr2
        have hb2 := below_app hbk hbase hownk hgr2
        clear hgr2
        go_wp2
        go_roundw
        case rel =>
          refine ⟨1 + 1, by omega, by go_num, ?_, hb2⟩
          exact own_congr hown2 (by rw [HS.out]; simp; try omega) (by rw [HS.out]; simp)
        case measure => simp [intOf]
      · have hstep : hiTo N (1 + 1) = hiTo N 1 := by simp [hiTo, hiG_no hg]
        have HS := Hid.mk hstep
        clear hstep hor
        go_wp2
        go_roundw
        case rel =>
          refine ⟨1 + 1, by omega, by go_num, ?_, hbk⟩
          rw [HS.out]
          exact hownk
        case measure => simp [intOf]
    · have hor := or128_u8 (N / 16384)
      have hll := hiTo_length N 2
      by_cases hg : 0 < N / 16384
      · have hstep : hiTo N (2 + 1) = hiTo N 2 ++ [N / 16384 % 128 + 128] := by simp only [hiTo, hiG_yes hg]; try rfl
        have HS := Hid.mk hstep
        clear hstep
        go_wp2_with (at_builtin; refine wpList_append_src _ rfl _ _ 27 27 rfl base 5 i0 (.int .u8 0) 1 1 Tryd.underlying27 hi hz0 hz1 hz2 rfl _ _ _ rfl (hownk.alloc _) 1 [.int .u8 (N / 16384 % 128 + 128)] (Src.ofSlice _ Tryd.underlying27 ⟨_, 0, none⟩ 1 1 _ rfl (cell_one_new _ _ _) (oneInt _ _)) (by unfold maxLen; omega) (by omega) (by have := hbk.size; simp; omega) ?_)
        intro v2 w2 hown2 hgr2
        have hb2 := below_app hbk hbase hownk hgr2
        clear hgr2
        go_wp2
        go_roundw
        case rel =>
          refine ⟨2 + 1, by omega, by go_num, ?_, hb2⟩
          exact own_congr hown2 (by rw [HS.out]; simp; try omega) (by rw [HS.out]; simp)
        case measure => simp [intOf]
      · have hstep : hiTo N (2 + 1) = hiTo N 2 := by simp [hiTo, hiG_no hg]
        have HS := Hid.mk hstep
        clear hstep hor
        go_wp2
        go_roundw
        case rel =>
          refine ⟨2 + 1, by omega, by go_num, ?_, hbk⟩
          rw [HS.out]
          exact hownk
        case measure => simp [intOf]
    · have hor := or128_u8 (N / 128)
      have hll := hiTo_length N 3
      by_cases hg : 0 < N / 128
      · have hstep : hiTo N (3 + 1) = hiTo N 3 ++ [N / 128 % 128 + 128] := by simp only [hiTo, hiG_yes hg]; try rfl
        have HS := Hid.mk hstep
        clear hstep
        go_wp2_with (at_builtin; refine wpList_append_src _ rfl _ _ 27 27 rfl base 5 i0 (.int .u8 0) 1 1 Tryd.underlying27 hi hz0 hz1 hz2 rfl _ _ _ rfl (hownk.alloc _) 1 [.int .u8 (N / 128 % 128 + 128)] (Src.ofSlice _ Tryd.underlying27 ⟨_, 0, none⟩ 1 1 _ rfl (cell_one_new _ _ _) (oneInt _ _)) (by unfold maxLen; omega) (by omega) (by have := hbk.size; simp; omega) ?_)
        intro v2 w2 hown2 hgr2
        have hb2 := below_app hbk hbase hownk hgr2
        clear hgr2
        go_wp2
        go_roundw
        case rel =>
          refine ⟨3 + 1, by omega, by go_num, ?_, hb2⟩
          exact own_congr hown2 (by rw [HS.out]; simp; try omega) (by rw [HS.out]; simp)
        case measure => simp [intOf]
      · have hstep : hiTo N (3 + 1) = hiTo N 3 := by simp [hiTo, hiG_no hg]
        have HS := Hid.mk hstep
        clear hstep hor
        go_wp2
        go_roundw
        case rel =>
          refine ⟨3 + 1, by omega, by go_num, ?_, hbk⟩
          rw [HS.out]
          exact hownk
        case measure => simp [intOf]
    · have hll := hiTo_length N 4
      go_wp2_with (at_builtin; refine wpList_append_src _ rfl _ _ 27 27 rfl base 5 i0 (.int .u8 0) 1 1 Tryd.underlying27 hi hz0 hz1 hz2 rfl _ _ _ rfl (hownk.alloc _) 1 [.int .u8 (N % 128)] (Src.ofSlice _ Tryd.underlying27 ⟨_, 0, none⟩ 1 1 _ rfl (cell_one_new _ _ _) (oneInt _ _)) (by unfold maxLen; omega) (by omega) (by have := hbk.size; simp; omega) ?_)
      intro v2 w2 hown2 hgr2
      have hb2 := below_app hbk hbase hownk hgr2
      clear hgr2
      go_wp2
      go_ret
      refine ⟨v2, rfl, ?_, hb2⟩
      exact own_congr hown2 (by simp [putNum]; try omega) (by simp [putNum])

end Go.Proofs.YtjaaaopbidmknaaDoor
