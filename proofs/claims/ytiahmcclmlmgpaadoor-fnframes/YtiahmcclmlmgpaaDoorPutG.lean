/-
  The groups of a number, as the program lays them behind what is there.
-/
import Derived.Test.YtiahmcclmlmgpaaDoorBase
import Derived.Test.YtiahmcclmlmgpaaDoorApp
import Derived.Test.YtiahmcclmlmgpaaDoorPutM
import Derived.Laws.Bits128
import Derived.Deep.DeepCutAuto
namespace Go.Proofs.YtiahmcclmlmgpaaDoor
open Go.RowKit
set_option maxRecDepth 10000

set_option maxHeartbeats 800000 in
theorem addGroups_own (v : Value) (n base : Nat) (zs : List Int) (N : Int) (w : World) (hlen : n ≤ 70368744177664) (hN0 : 0 ≤ N) (hN1 : N ≤ 1000000000) (hbase : base ≤ w.heap.size)
    (hown : w.ownsRow base 5 1 v n (zs.map (Value.int .u8))) :
    Calls Tryd.prog 74 #[v, .int .i64 N] w fun e w' => ∃ v', e = .returned v' ∧
      w'.ownsRow base 5 1 v' (n + (putNum N).length) ((zs ++ putNum N).map (Value.int .u8)) ∧ Below base w w' := by
  obtain ⟨i0, hi, hz0, hz1, hz2⟩ := info_parts Tryd.info5
  go_enter Tryd.func74, Tryd.ntmps74
  go_wp2_with fail
  go_loopw [0, 5] (fun o k wr => ∃ j : Nat, j ≤ 4 ∧ k = .int .i64 (28 - 7 * (j : Int)) ∧
    wr.ownsRow base 5 1 o (n + (hiTo N j).length) ((zs ++ hiTo N j).map (Value.int .u8)) ∧ Below base w wr) (fun _ k _ => (intOf k).toNat)
  case atStart => exact ⟨0, by omega, rfl, by simpa [hiTo] using hown, Below.refl _ _⟩
  case round =>
    obtain ⟨j, hj, rfl, hownk, hbk⟩ := hrel
    clear hown
    rcases (show j = 0 ∨ j = 1 ∨ j = 2 ∨ j = 3 ∨ j = 4 from by omega) with rfl | rfl | rfl | rfl | rfl
    · have hor : bits .or .u8 (N / 268435456) 128 = N / 268435456 % 128 + 128 := by have h := or128_u8 (N / 268435456); rwa [show N / 268435456 % 256 = N / 268435456 from by omega] at h
      have hll := hiTo_length N 0
      by_cases hg : 0 < N / 268435456
      · have hstep : hiTo N (0 + 1) = hiTo N 0 ++ [N / 268435456 % 128 + 128] := by simp only [hiTo, hiG_yes hg]; try rfl
        have HS := Hid.mk hstep
        clear hstep
        go_wp2_with (at_builtin; refine wpList_append_src _ rfl _ _ 22 22 rfl base 5 i0 (.int .u8 0) 1 1 Tryd.underlying22 hi hz0 hz1 hz2 rfl _ _ _ rfl (hownk.alloc _) 1 [.int .u8 (N / 268435456 % 128 + 128)] (Src.ofSlice _ Tryd.underlying22 ⟨_, 0, none⟩ 1 1 _ rfl (cell_one_new _ _ _) (oneInt _ _)) (by unfold maxLen; omega) (by omega) (by have := hbk.size; simp; omega) ?_)
        intro v2 w2 hown2 hgr2
        have hb2 := below_app hbk hbase hownk hgr2
        clear hgr2
        go_wp2
        go_roundw
        case rel =>
          refine ⟨0 + 1, by omega, by go_num, ?_, hb2⟩
          exact own_congr hown2 (by rw [HS.out]; simp; try omega) (by rw [HS.out]; simp)
        case measure => simp [intOf]
      · have hstep : hiTo N (0 + 1) = hiTo N 0 := by simp [hiTo, hiG_no hg]
        have HS := Hid.mk hstep
        clear hstep hor
        go_wp2
        go_roundw
        case rel =>
          refine ⟨0 + 1, by omega, by go_num, ?_, hbk⟩
          rw [HS.out]
          exact hownk
        case measure => simp [intOf]
    · have hor := or128_u8 (N / 2097152)
      have hll := hiTo_length N 1
      by_cases hg : 0 < N / 2097152
      · have hstep : hiTo N (1 + 1) = hiTo N 1 ++ [N / 2097152 % 128 + 128] := by simp only [hiTo, hiG_yes hg]; try rfl
        have HS := Hid.mk hstep
        clear hstep
        go_wp2_with (at_builtin; refine wpList_append_src _ rfl _ _ 22 22 rfl base 5 i0 (.int .u8 0) 1 1 Tryd.underlying22 hi hz0 hz1 hz2 rfl _ _ _ rfl (hownk.alloc _) 1 [.int .u8 (N / 2097152 % 128 + 128)] (Src.ofSlice _ Tryd.underlying22 ⟨_, 0, none⟩ 1 1 _ rfl (cell_one_new _ _ _) (oneInt _ _)) (by unfold maxLen; omega) (by omega) (by have := hbk.size; simp; omega) ?_)
        intro v2 w2 hown2 hgr2
        have hb2 := below_app hbk hbase hownk hgr2
        clear hgr2
        go_wp2
        go_roundw
        case rel =>
          refine ⟨1 + 1, by omega, by go_num, ?_, hb2⟩
          exact own_congr hown2 (by rw [HS.out]; simp; try omega) (by rw [HS.out]; simp)
        case measure => simp [intOf]
      · have hstep : hiTo N (1 + 1) = hiTo N 1 := by simp [hiTo, hiG_no hg]
        have HS := Hid.mk hstep
        clear hstep hor
        go_wp2
        go_roundw
        case rel =>
          refine ⟨1 + 1, by omega, by go_num, ?_, hbk⟩
          rw [HS.out]
          exact hownk
        case measure => simp [intOf]
    · have hor := or128_u8 (N / 16384)
      have hll := hiTo_length N 2
      by_cases hg : 0 < N / 16384
      · have hstep : hiTo N (2 + 1) = hiTo N 2 ++ [N / 16384 % 128 + 128] := by simp only [hiTo, hiG_yes hg]; try rfl
        have HS := Hid.mk hstep
        clear hstep
        go_wp2_with (at_builtin; refine wpList_append_src _ rfl _ _ 22 22 rfl base 5 i0 (.int .u8 0) 1 1 Tryd.underlying22 hi hz0 hz1 hz2 rfl _ _ _ rfl (hownk.alloc _) 1 [.int .u8 (N / 16384 % 128 + 128)] (Src.ofSlice _ Tryd.underlying22 ⟨_, 0, none⟩ 1 1 _ rfl (cell_one_new _ _ _) (oneInt _ _)) (by unfold maxLen; omega) (by omega) (by have := hbk.size; simp; omega) ?_)
        intro v2 w2 hown2 hgr2
        have hb2 := below_app hbk hbase hownk hgr2
        clear hgr2
        go_wp2
        go_roundw
        case rel =>
          refine ⟨2 + 1, by omega, by go_num, ?_, hb2⟩
          exact own_congr hown2 (by rw [HS.out]; simp; try omega) (by rw [HS.out]; simp)
        case measure => simp [intOf]
      · have hstep : hiTo N (2 + 1) = hiTo N 2 := by simp [hiTo, hiG_no hg]
        have HS := Hid.mk hstep
        clear hstep hor
        go_wp2
        go_roundw
        case rel =>
          refine ⟨2 + 1, by omega, by go_num, ?_, hbk⟩
          rw [HS.out]
          exact hownk
        case measure => simp [intOf]
    · have hor := or128_u8 (N / 128)
      have hll := hiTo_length N 3
      by_cases hg : 0 < N / 128
      · have hstep : hiTo N (3 + 1) = hiTo N 3 ++ [N / 128 % 128 + 128] := by simp only [hiTo, hiG_yes hg]; try rfl
        have HS := Hid.mk hstep
        clear hstep
        go_wp2_with (at_builtin; refine wpList_append_src _ rfl _ _ 22 22 rfl base 5 i0 (.int .u8 0) 1 1 Tryd.underlying22 hi hz0 hz1 hz2 rfl _ _ _ rfl (hownk.alloc _) 1 [.int .u8 (N / 128 % 128 + 128)] (Src.ofSlice _ Tryd.underlying22 ⟨_, 0, none⟩ 1 1 _ rfl (cell_one_new _ _ _) (oneInt _ _)) (by unfold maxLen; omega) (by omega) (by have := hbk.size; simp; omega) ?_)
        intro v2 w2 hown2 hgr2
        have hb2 := below_app hbk hbase hownk hgr2
        clear hgr2
        go_wp2
        go_roundw
        case rel =>
          refine ⟨3 + 1, by omega, by go_num, ?_, hb2⟩
          exact own_congr hown2 (by rw [HS.out]; simp; try omega) (by rw [HS.out]; simp)
        case measure => simp [intOf]
      · have hstep : hiTo N (3 + 1) = hiTo N 3 := by simp [hiTo, hiG_no hg]
        have HS := Hid.mk hstep
        clear hstep hor
        go_wp2
        go_roundw
        case rel =>
          refine ⟨3 + 1, by omega, by go_num, ?_, hbk⟩
          rw [HS.out]
          exact hownk
        case measure => simp [intOf]
    · have hll := hiTo_length N 4
      go_wp2_with (at_builtin; refine wpList_append_src _ rfl _ _ 22 22 rfl base 5 i0 (.int .u8 0) 1 1 Tryd.underlying22 hi hz0 hz1 hz2 rfl _ _ _ rfl (hownk.alloc _) 1 [.int .u8 (N % 128)] (Src.ofSlice _ Tryd.underlying22 ⟨_, 0, none⟩ 1 1 _ rfl (cell_one_new _ _ _) (oneInt _ _)) (by unfold maxLen; omega) (by omega) (by have := hbk.size; simp; omega) ?_)
      intro v2 w2 hown2 hgr2
      have hb2 := below_app hbk hbase hownk hgr2
      clear hgr2
      go_wp2
      go_ret
      refine ⟨v2, rfl, ?_, hb2⟩
      exact own_congr hown2 (by simp [putNum]; try omega) (by simp [putNum])

end Go.Proofs.YtiahmcclmlmgpaaDoor
