/-
  Part 20b of the texts that the proof leans on.
-/
import Derived.Test.YtegonncmopecnaaGreatDoorRows
import Derived.Test.YtegonncmopecnaaGreatDoorMnd0
import Derived.Test.YtegonncmopecnaaGreatDoorMnd1
import Derived.Laws.BitsLemmas
import Derived.Laws.BitsAllLaws
import Derived.Laws.Bits128
import Derived.Deep.DeepCutAuto
namespace Go.Proofs.YtegonncmopecnaaGreatDoor
theorem BytesOk.getD {zs : List Int} (h : BytesOk zs) (j : Nat) : 0 <= zs.getD j 0 /\ zs.getD j 0 <= 255 := by
 rw [List.getD_eq_getElem?_getD]
 by_cases hj : j < zs.length
 ·rw [List.getElem?_eq_getElem hj]
  exact h _ (List.getElem_mem hj)
 ·rw [List.getElem?_eq_none (by omega)]
  simp
def noNum : Int × Int × Bool := (0, 0, false)
def gnS : Nat -> List Int -> Int -> Int -> Int × Int × Bool
 | 0, _, _, _ => noNum
 | _ + 1, [], _, _ => noNum
 | f + 1, c :: r, n, p => if c < 128 then (if 1000000000 < n * 128 + c % 128 then noNum else (n * 128 + c % 128, p + 1, true)) else gnS f r (n * 128 + c % 128) (p + 1)
def gnI : List Int -> Int -> Int -> Int × Int × Bool
 | [], _, _ => noNum
 | c :: r, n, p => if 1000000000 < n * 128 + c % 128 then noNum else if c < 128 then (n * 128 + c % 128, p + 1, true) else gnI r (n * 128 + c % 128) (p + 1)
theorem gnS_big (f : Nat) (l : List Int) (n p : Int) (h : 1000000000 < n) : gnS f l n p = noNum := by
 induction f generalizing l n p with
 | zero => rfl
 | succ f ih =>
  cases l with
  | nil => rfl
  | cons c r =>
   simp only [gnS]
   by_cases hc : c < 128
   ·rw [if_pos hc, if_pos (by omega)]
   ·rw [if_neg hc, ih _ _ _ (by omega)]
theorem gnI_eq (f : Nat) (l : List Int) (n p : Int) (h : 268435456 <= n * 128 ^ f) (h0 : 0 <= n) : gnI l n p = gnS f l n p := by
 induction f generalizing l n p with
 | zero =>
  cases l with
  | nil => rfl
  | cons c r =>
   simp only [gnI, gnS]
   rw [if_pos (by omega)]
 | succ f ih =>
  cases l with
  | nil => rfl
  | cons c r =>
   simp only [gnI, gnS]
   by_cases hc : c < 128
   ·by_cases hn : 1000000000 < n * 128 + c % 128 <;> simp [hc, hn]
   ·by_cases hn : 1000000000 < n * 128 + c % 128
    ·rw [if_pos hn, if_neg hc, gnS_big _ _ _ _ hn]
    ·rw [if_neg hn, if_neg hc, if_neg hc]
     refine ih _ _ _ ?_ (by omega)
     have h2 : n * 128 ^ (f + 1) = (n * 128) * 128 ^ f := by rw [Int.pow_succ, Int.mul_assoc, Int.mul_comm (128 ^ f) 128]
     have h3 : (n * 128) * 128 ^ f <= (n * 128 + c % 128) * 128 ^ f := Int.mul_le_mul_of_nonneg_right (by omega) (Int.pow_nonneg (by omega))
     omega
def getNum (b : List Int) (p : Int) : Int × Int × Bool :=
 if p < 0 ∨ (b.length : Int) <= p then noNum else if b.getD p.toNat 0 = 128 then noNum else gnS 5 (b.drop p.toNat) 0 p
theorem getNum_out {b : List Int} {p : Int} (h : p < 0 ∨ (b.length : Int) <= p) : getNum b p = noNum := by simp only [getNum]; rw [if_pos h]
theorem drop_cons {b : List Int} {j : Nat} (h : j < b.length) : b.drop j = b.getD j 0 :: b.drop (j + 1) := by
 rw [List.drop_eq_getElem_cons h, List.getD_eq_getElem?_getD, List.getElem?_eq_getElem h]
 rfl
theorem getNum_128 {b : List Int} {p : Nat} (hp : p < b.length) (h : b.getD p 0 = 128) : getNum b p = noNum := by
 simp only [getNum]
 rw [if_neg (by omega), Int.toNat_natCast, if_pos h]
theorem getNum_S {b : List Int} {p : Nat} (hp : p < b.length) (h : b.getD p 0 ≠ 128) : getNum b p = gnS 5 (b.drop p) 0 p := by
 simp only [getNum]
 rw [if_neg (by omega), Int.toNat_natCast, if_neg h]
theorem getNum_I {b : List Int} {p : Nat} (hp : p < b.length) (h : b.getD p 0 ≠ 128) (hb : BytesOk b) : getNum b p = gnI (b.drop p) 0 p := by
 rw [getNum_S hp h, drop_cons hp]
 have hr := hb.getD p
 generalize b.getD p 0 = c at *
 simp only [gnS, gnI]
 by_cases hc : c < 128
 ·rw [if_pos hc, if_neg (by omega), if_neg (by omega), if_pos hc]
 ·rw [if_neg hc, if_neg (by omega), if_neg hc]
  exact (gnI_eq 4 _ _ _ (by omega) (by omega)).symm
theorem pow128_le {k : Nat} (h : k <= 5) : (128 : Int) ^ k <= 34359738368 := by
 rcases (show k = 0 ∨ k = 1 ∨ k = 2 ∨ k = 3 ∨ k = 4 ∨ k = 5 from by omega) with rfl | rfl | rfl | rfl | rfl | rfl <;> decide
theorem pow128_step {k : Nat} {M c : Int} (h : M < 128 ^ k) : M * 128 + c % 128 < 128 ^ (k + 1) := by
 have : (128 : Int) ^ (k + 1) = 128 ^ k * 128 := Int.pow_succ ..
 omega
theorem wraps_i64 (n : Int) (h₀ : 0 <= n) (h₁ : n < 2 ^ 63) : IntKind.i64.wrap n = n := by rw [IntKind.wrap_i64]; omega
theorem or_group {M c : Int} (h0 : 0 <= M) (h1 : M < 34359738368) : bits .or .i64 (M * 128) (c % 128) = M * 128 + c % 128 :=
 bits_join .i64 63 (by decide) wraps_i64 7 (M * 128) (c % 128) (by omega) (by omega) (by omega) (by omega) (by omega) (by omega)
theorem gnS_last {b : List Int} {j f : Nat} {M p c : Int} (hj : j < b.length) (hc : b.getD j 0 = c) (h : c < 128) (hn : ¬ 1000000000 < M * 128 + c % 128) : gnS (f + 1) (b.drop j) M p = (M * 128 + c % 128, p + 1, true) := by
 rw [drop_cons hj, hc]; simp only [gnS]; rw [if_pos h, if_neg hn]
theorem gnS_over {b : List Int} {j f : Nat} {M p c : Int} (hj : j < b.length) (hc : b.getD j 0 = c) (h : c < 128) (hn : 1000000000 < M * 128 + c % 128) : gnS (f + 1) (b.drop j) M p = noNum := by
 rw [drop_cons hj, hc]; simp only [gnS]; rw [if_pos h, if_pos hn]
theorem gnS_more {b : List Int} {j f : Nat} {M p c : Int} (hj : j < b.length) (hc : b.getD j 0 = c) (h : ¬ c < 128) : gnS (f + 1) (b.drop j) M p = gnS f (b.drop (j + 1)) (M * 128 + c % 128) (p + 1) := by
 rw [drop_cons hj, hc]; simp only [gnS]; rw [if_neg h]
theorem gnS_end {b : List Int} {j f : Nat} {M p : Int} (hj : b.length <= j) : gnS f (b.drop j) M p = noNum := by
 rw [List.drop_eq_nil_of_le hj]; cases f <;> rfl
theorem gnI_last {b : List Int} {j : Nat} {M p c : Int} (hj : j < b.length) (hc : b.getD j 0 = c) (h : c < 128) (hn : ¬ 1000000000 < M * 128 + c % 128) : gnI (b.drop j) M p = (M * 128 + c % 128, p + 1, true) := by
 rw [drop_cons hj, hc]; simp only [gnI]; rw [if_neg hn, if_pos h]
theorem gnI_over {b : List Int} {j : Nat} {M p c : Int} (hj : j < b.length) (hc : b.getD j 0 = c) (hn : 1000000000 < M * 128 + c % 128) : gnI (b.drop j) M p = noNum := by
 rw [drop_cons hj, hc]; simp only [gnI]; rw [if_pos hn]
theorem gnI_more {b : List Int} {j : Nat} {M p c : Int} (hj : j < b.length) (hc : b.getD j 0 = c) (h : ¬ c < 128) (hn : ¬ 1000000000 < M * 128 + c % 128) : gnI (b.drop j) M p = gnI (b.drop (j + 1)) (M * 128 + c % 128) (p + 1) := by
 rw [drop_cons hj, hc]; simp only [gnI]; rw [if_neg hn, if_neg h]
theorem gnI_end {b : List Int} {j : Nat} {M p : Int} (hj : b.length <= j) : gnI (b.drop j) M p = noNum := by
 rw [List.drop_eq_nil_of_le hj]; rfl
end Go.Proofs.YtegonncmopecnaaGreatDoor

namespace Go.Proofs.YtegonncmopecnaaGreatDoor
def clampN (n : Int) : Int := if 1000000000 < n then 1000000000 else if n < 0 then 0 else n
theorem clampN_lo {n : Int} (h : n < 0) : clampN n = 0 := by unfold clampN; rw [if_neg (by omega), if_pos h]
theorem clampN_hi {n : Int} (h : 1000000000 < n) : clampN n = 1000000000 := by unfold clampN; rw [if_pos h]
theorem clampN_in {n : Int} (h : 0 <= n) (h' : n <= 1000000000) : clampN n = n := by unfold clampN; rw [if_neg (by omega), if_neg (by omega)]
theorem clampN_bd (n : Int) : 0 <= clampN n /\ clampN n <= 1000000000 := by unfold clampN; split <;> (try split) <;> omega
def capHi (n : Int) : Int := if 1000000000 < n then 1000000000 else n
theorem capHi_hi {n : Int} (h : 1000000000 < n) : capHi n = 1000000000 := by unfold capHi; rw [if_pos h]
theorem capHi_in {n : Int} (h : n <= 1000000000) : capHi n = n := by unfold capHi; rw [if_neg (by omega)]
theorem clampN_of_capHi (n : Int) : clampN n = if capHi n < 0 then 0 else capHi n := by
 unfold clampN capHi
 by_cases h : 1000000000 < n
 ·simp [h]
 ·simp [h]
def hiG (n d : Int) : List Int := if 0 < n / d then [n / d % 128 + 128] else []
theorem hiG_yes {n d : Int} (h : 0 < n / d) : hiG n d = [n / d % 128 + 128] := by unfold hiG; rw [if_pos h]
theorem hiG_no {n d : Int} (h : ¬ 0 < n / d) : hiG n d = [] := by unfold hiG; rw [if_neg h]
def hiTo (n : Int) : Nat -> List Int
 | 0 => []
 | 1 => hiG n 268435456
 | 2 => hiG n 268435456 ++ hiG n 2097152
 | 3 => hiG n 268435456 ++ hiG n 2097152 ++ hiG n 16384
 | _ => hiG n 268435456 ++ hiG n 2097152 ++ hiG n 16384 ++ hiG n 128
def putNum (n : Int) : List Int := hiTo n 4 ++ [n % 128]
theorem hiG_ok (n d : Int) : BytesOk (hiG n d) := by
 intro z hz
 unfold hiG at hz
 split at hz
 ·simp at hz; omega
 ·simp at hz
theorem hiG_length (n d : Int) : (hiG n d).length <= 1 := by unfold hiG; split <;> simp
theorem BytesOk.append {a b : List Int} (ha : BytesOk a) (hb : BytesOk b) : BytesOk (a ++ b) := by
 intro z hz
 rcases List.mem_append.1 hz with h | h
 ·exact ha z h
 ·exact hb z h
theorem putNum_ok (n : Int) : BytesOk (putNum n) := by
 refine BytesOk.append (BytesOk.append (BytesOk.append (BytesOk.append (hiG_ok _ _) (hiG_ok _ _)) (hiG_ok _ _)) (hiG_ok _ _)) ?_
 intro z hz
 simp at hz
 omega
theorem hiTo_length (n : Int) (j : Nat) : (hiTo n j).length <= 4 := by
 have h1 := hiG_length n 268435456
 have h2 := hiG_length n 2097152
 have h3 := hiG_length n 16384
 have h4 := hiG_length n 128
 unfold hiTo
 split <;> simp <;> omega
theorem putNum_length (n : Int) : 1 <= (putNum n).length /\ (putNum n).length <= 5 := by
 have := hiTo_length n 4
 simp [putNum]
 omega
theorem or128_i64 (y : Int) : bits .or .i64 (y % 128) 128 = y % 128 + 128 := by
 have hc : bits .or .i64 (y % 128) 128 = bits .or .i64 128 (y % 128) := by simp only [bits, BitVec.or_comm]
 rw [hc, bits_join .i64 63 (by decide) wraps_i64 7 128 (y % 128) (by decide) (by decide) (by decide) (by omega) (by omega) (by omega)]
 omega
theorem or128_nat : ∀ z : Fin 256, (z.val ||| 128) = z.val % 128 + 128 := by decide +kernel
theorem or128_u8 (y : Int) : bits .or .u8 (y % 256) 128 = y % 128 + 128 := by
 rw [u8_or (y % 256) 128 (by omega) (by omega) (by omega) (by omega)]
 have h := or128_nat ⟨(y % 256).toNat, by omega⟩
 simp only at h
 have e : (128 : Int).toNat = 128 := rfl
 rw [e, h]
 omega
def putNums (l : List Int) : List Int := (l.map (fun n => putNum (clampN n))).flatten
theorem putNums_snoc (l : List Int) (n : Int) : putNums (l ++ [n]) = putNums l ++ putNum (clampN n) := by simp [putNums]
theorem putNums_length (l : List Int) : (putNums l).length <= 5 * l.length := by
 induction l with
 | nil => simp [putNums]
 | cons a r ih =>
  have := putNum_length (clampN a)
  simp only [putNums, List.map_cons, List.flatten_cons, List.length_append, List.length_cons] at ih ⊢
  omega
end Go.Proofs.YtegonncmopecnaaGreatDoor

namespace Go.Proofs.YtegonncmopecnaaGreatDoor
open Go.RowKit
set_option maxRecDepth 10000
set_option maxHeartbeats 800000 in
theorem addGroups_own (v : Value) (n base : Nat) (zs : List Int) (N : Int) (w : World) (hlen : n <= 70368744177664) (hN0 : 0 <= N) (hN1 : N <= 1000000000) (hbase : base <= w.heap.size)
  (hown : w.ownsRow base 5 1 v n (zs.map (Value.int .u8))) :
  Calls Tryz.prog 91 #[v, .int .i64 N] w fun e w' => ∃ v', e = .returned v' /\
   w'.ownsRow base 5 1 v' (n + (putNum N).length) ((zs ++ putNum N).map (Value.int .u8)) /\ Below base w w' := by
 obtain ⟨i0, hi, hz0, hz1, hz2⟩ := info_parts Tryz.info5
 go_enter Tryz.func91, Tryz.ntmps91
 go_wp2_with fail
 go_loopw [0, 5] (fun o k wr => ∃ j : Nat, j <= 4 /\ k = .int .i64 (28 - 7 * (j : Int)) /\
  wr.ownsRow base 5 1 o (n + (hiTo N j).length) ((zs ++ hiTo N j).map (Value.int .u8)) /\ Below base w wr) (fun _ k _ => (intOf k).toNat)
 case atStart => exact ⟨0, by omega, rfl, by simpa [hiTo] using hown, rB⟩
 case round =>
  obtain ⟨j, hj, rfl, hownk, hbk⟩ := hrel
  clear hown
  rcases (show j = 0 ∨ j = 1 ∨ j = 2 ∨ j = 3 ∨ j = 4 from by omega) with rfl | rfl | rfl | rfl | rfl
  ·have hor : bits .or .u8 (N / 268435456) 128 = N / 268435456 % 128 + 128 := by have h := or128_u8 (N / 268435456); rwa [show N / 268435456 % 256 = N / 268435456 from by omega] at h
   have hll := hiTo_length N 0
   by_cases hg : 0 < N / 268435456
   ·have hstep : hiTo N (0 + 1) = hiTo N 0 ++ [N / 268435456 % 128 + 128] := by simp only [hiTo, hiG_yes hg]; try rfl
    have HS := Hm hstep
    clear hstep
    go_wp2_with (at_builtin; refine wpList_append_src _ rfl _ _ 22 22 rfl base 5 i0 (.int .u8 0) 1 1 Tryz.underlying22 hi hz0 hz1 hz2 rfl _ _ _ rfl (hownk.alloc _) 1 [.int .u8 (N / 268435456 % 128 + 128)] (Src.ofSlice _ Tryz.underlying22 ⟨_, 0, none⟩ 1 1 _ rfl (cell_one_new _ _ _) (oneInt _ _)) (by unfold maxLen; omega) (by omega) (by have := hbk.size; simp; omega) ?_)
    intro v2 w2 hown2 hgr2
    have hb2 := below_app hbk hbase hownk hgr2
    clear hgr2
    go_wp2
    go_roundw
    case rel =>
     refine ⟨0 + 1, by omega, by go_num, ?_, hb2⟩
     exact own_congr hown2 (by rw [HS.out]; simp; try omega) (by rw [HS.out]; simp)
    case measure => simp [intOf]
   ·have hstep : hiTo N (0 + 1) = hiTo N 0 := by simp [hiTo, hiG_no hg]
    have HS := Hm hstep
    clear hstep hor
    go_wp2
    go_roundw
    case rel =>
     refine ⟨0 + 1, by omega, by go_num, ?_, hbk⟩
     rw [HS.out]
     exact hownk
    case measure => simp [intOf]
  ·have hor := or128_u8 (N / 2097152)
   have hll := hiTo_length N 1
   by_cases hg : 0 < N / 2097152
   ·have hstep : hiTo N (1 + 1) = hiTo N 1 ++ [N / 2097152 % 128 + 128] := by simp only [hiTo, hiG_yes hg]; try rfl
    have HS := Hm hstep
    clear hstep
    go_wp2_with (at_builtin; refine wpList_append_src _ rfl _ _ 22 22 rfl base 5 i0 (.int .u8 0) 1 1 Tryz.underlying22 hi hz0 hz1 hz2 rfl _ _ _ rfl (hownk.alloc _) 1 [.int .u8 (N / 2097152 % 128 + 128)] (Src.ofSlice _ Tryz.underlying22 ⟨_, 0, none⟩ 1 1 _ rfl (cell_one_new _ _ _) (oneInt _ _)) (by unfold maxLen; omega) (by omega) (by have := hbk.size; simp; omega) ?_)
    intro v2 w2 hown2 hgr2
    have hb2 := below_app hbk hbase hownk hgr2
    clear hgr2
    go_wp2
    go_roundw
    case rel =>
     refine ⟨1 + 1, by omega, by go_num, ?_, hb2⟩
     exact own_congr hown2 (by rw [HS.out]; simp; try omega) (by rw [HS.out]; simp)
    case measure => simp [intOf]
   ·have hstep : hiTo N (1 + 1) = hiTo N 1 := by simp [hiTo, hiG_no hg]
    have HS := Hm hstep
    clear hstep hor
    go_wp2
    go_roundw
    case rel =>
     refine ⟨1 + 1, by omega, by go_num, ?_, hbk⟩
     rw [HS.out]
     exact hownk
    case measure => simp [intOf]
  ·have hor := or128_u8 (N / 16384)
   have hll := hiTo_length N 2
   by_cases hg : 0 < N / 16384
   ·have hstep : hiTo N (2 + 1) = hiTo N 2 ++ [N / 16384 % 128 + 128] := by simp only [hiTo, hiG_yes hg]; try rfl
    have HS := Hm hstep
    clear hstep
    go_wp2_with (at_builtin; refine wpList_append_src _ rfl _ _ 22 22 rfl base 5 i0 (.int .u8 0) 1 1 Tryz.underlying22 hi hz0 hz1 hz2 rfl _ _ _ rfl (hownk.alloc _) 1 [.int .u8 (N / 16384 % 128 + 128)] (Src.ofSlice _ Tryz.underlying22 ⟨_, 0, none⟩ 1 1 _ rfl (cell_one_new _ _ _) (oneInt _ _)) (by unfold maxLen; omega) (by omega) (by have := hbk.size; simp; omega) ?_)
    intro v2 w2 hown2 hgr2
    have hb2 := below_app hbk hbase hownk hgr2
    clear hgr2
    go_wp2
    go_roundw
    case rel =>
     refine ⟨2 + 1, by omega, by go_num, ?_, hb2⟩
     exact own_congr hown2 (by rw [HS.out]; simp; try omega) (by rw [HS.out]; simp)
    case measure => simp [intOf]
   ·have hstep : hiTo N (2 + 1) = hiTo N 2 := by simp [hiTo, hiG_no hg]
    have HS := Hm hstep
    clear hstep hor
    go_wp2
    go_roundw
    case rel =>
     refine ⟨2 + 1, by omega, by go_num, ?_, hbk⟩
     rw [HS.out]
     exact hownk
    case measure => simp [intOf]
  ·have hor := or128_u8 (N / 128)
   have hll := hiTo_length N 3
   by_cases hg : 0 < N / 128
   ·have hstep : hiTo N (3 + 1) = hiTo N 3 ++ [N / 128 % 128 + 128] := by simp only [hiTo, hiG_yes hg]; try rfl
    have HS := Hm hstep
    clear hstep
    go_wp2_with (at_builtin; refine wpList_append_src _ rfl _ _ 22 22 rfl base 5 i0 (.int .u8 0) 1 1 Tryz.underlying22 hi hz0 hz1 hz2 rfl _ _ _ rfl (hownk.alloc _) 1 [.int .u8 (N / 128 % 128 + 128)] (Src.ofSlice _ Tryz.underlying22 ⟨_, 0, none⟩ 1 1 _ rfl (cell_one_new _ _ _) (oneInt _ _)) (by unfold maxLen; omega) (by omega) (by have := hbk.size; simp; omega) ?_)
    intro v2 w2 hown2 hgr2
    have hb2 := below_app hbk hbase hownk hgr2
    clear hgr2
    go_wp2
    go_roundw
    case rel =>
     refine ⟨3 + 1, by omega, by go_num, ?_, hb2⟩
     exact own_congr hown2 (by rw [HS.out]; simp; try omega) (by rw [HS.out]; simp)
    case measure => simp [intOf]
   ·have hstep : hiTo N (3 + 1) = hiTo N 3 := by simp [hiTo, hiG_no hg]
    have HS := Hm hstep
    clear hstep hor
    go_wp2
    go_roundw
    case rel =>
     refine ⟨3 + 1, by omega, by go_num, ?_, hbk⟩
     rw [HS.out]
     exact hownk
    case measure => simp [intOf]
  ·have hll := hiTo_length N 4
   go_wp2_with (at_builtin; refine wpList_append_src _ rfl _ _ 22 22 rfl base 5 i0 (.int .u8 0) 1 1 Tryz.underlying22 hi hz0 hz1 hz2 rfl _ _ _ rfl (hownk.alloc _) 1 [.int .u8 (N % 128)] (Src.ofSlice _ Tryz.underlying22 ⟨_, 0, none⟩ 1 1 _ rfl (cell_one_new _ _ _) (oneInt _ _)) (by unfold maxLen; omega) (by omega) (by have := hbk.size; simp; omega) ?_)
   intro v2 w2 hown2 hgr2
   have hb2 := below_app hbk hbase hownk hgr2
   clear hgr2
   go_wp2
   go_ret
   refine ⟨v2, rfl, ?_, hb2⟩
   exact own_congr hown2 (by simp [putNum]; try omega) (by simp [putNum])
end Go.Proofs.YtegonncmopecnaaGreatDoor

namespace Go.Proofs.YtegonncmopecnaaGreatDoor
open Go.RowKit
set_option maxRecDepth 10000
set_option maxHeartbeats 800000 in
theorem specPutNum_any (a : Option Addr) (n cap : Nat) (zs : List Int) (q : Int) (w : World) (hx : zs.length = n) (hlen : n <= 70368744177664) (hr : Rd .u8 w.heap.size w a zs) :
  Calls Tryz.prog 92 #[.slice a n cap, .int .i64 q] w fun e w' => ∃ v, e = .returned v /\
   w'.ownsRow w.heap.size 5 1 v (n + (putNum (clampN q)).length) ((zs ++ putNum (clampN q)).map (Value.int .u8)) /\ Below w.heap.size w w' := by
 obtain ⟨i0, hi, hz0, hz1, hz2⟩ := info_parts Tryz.info5
 have HX : Hid (zs.length = n) := hx
 clear hx
 go_enter Tryz.func92, Tryz.ntmps92
 have HQ := clampN_bd q
 go_wp2_with (at_builtin; refine wpList_append_src _ rfl _ _ 22 22 rfl w.heap.size 5 i0 (.int .u8 0) 1 1 Tryz.underlying22 hi hz0 hz1 hz2 rfl (.slice (some ⟨w.heap.size, 0, none⟩) 0 0) 0 [] rfl (World.ownsRow_lit w #[] 0 rN (by decide) rfl) n (zs.map (Value.int .u8)) (Src.rd Tryz.underlying22 HX.out (hr.below (rB.alloc rN _))) ?c1 ?c2 ?c3 ?_)
 case c1 => unfold maxLen; omega
 case c2 => omega
 case c3 => simp
 intro v w1 hown hgr
 have hb1 : Below w.heap.size w w1 := (rB.alloc rN _).grown hgr (by simp) (fun k h => by simp [Value.ownBlock] at h; omega)
 clear hgr hr
 go_upto_if 13 with fail
 go_cut [1] (fun x wc => x = .int .i64 (capHi q) /\ wc = w1)
 case first =>
  by_cases h1 : 1000000000 < q
  ·go_wp2
   go_meet
   case rel => exact ⟨by rw [capHi_hi h1], rfl⟩
  ·go_wp2
   go_meet
   case rel => exact ⟨by rw [capHi_in (by omega)], rfl⟩
 case rest =>
  obtain ⟨rfl, rfl⟩ := hcut
  go_upto_if 15 with fail
  go_cut [1] (fun x wd => x = .int .i64 (clampN q) /\ wd = wc)
  case first =>
   by_cases h1 : capHi q < 0
   ·go_wp2
    go_meet
    case rel => exact ⟨by rw [clampN_of_capHi, if_pos h1], rfl⟩
   ·go_wp2
    go_meet
    case rel => exact ⟨by rw [clampN_of_capHi, if_neg (by omega)], rfl⟩
  case rest =>
   obtain ⟨rfl, rfl⟩ := hcut
   generalize hN : clampN q = N at *
   obtain ⟨hN0, hN1⟩ := HQ
   have HN := Hm hN
   clear hN
   go_wp2_with fail
   go_loopw [5, 6, 7] (fun o h k wr => ∃ (j : Nat) (b : Bool), j <= 4 /\ k = .int .i64 (28 - 7 * (j : Int)) /\ h = .bool b /\ (b = true ↔ 0 < N / 2 ^ (35 - 7 * j)) /\
    wr.ownsRow w.heap.size 5 1 o (n + (hiTo N j).length) ((zs ++ hiTo N j).map (Value.int .u8)) /\ Below w.heap.size w wr) (fun _ _ k _ => (intOf k).toNat)
   case atStart => exact ⟨0, false, by omega, rfl, rfl, by simp; omega, by simpa [hiTo] using hown, hb1⟩
   case round =>
    obtain ⟨j, b, hj, rfl, rfl, hbj, hownk, hbk⟩ := hrel
    clear hown hb1
    rcases (show j = 0 ∨ j = 1 ∨ j = 2 ∨ j = 3 ∨ j = 4 from by omega) with rfl | rfl | rfl | rfl | rfl
    ·have hand := i64_and127 (N / 268435456)
     have hor := or128_i64 (N / 268435456)
     have hbj' : b = true ↔ 0 < N / 34359738368 := by simpa using hbj
     clear hbj
     have hll := hiTo_length N 0
     by_cases hg : 0 < N / 268435456
     ·have hstep : hiTo N (0 + 1) = hiTo N 0 ++ [N / 268435456 % 128 + 128] := by simp only [hiTo, hiG_yes hg]; try rfl
      have HS := Hm hstep
      clear hstep
      have hbg : b = true ∨ (b = false /\ 0 < N / 268435456 % 128) := by
       cases b with
       | true => exact Or.inl rfl
       | false =>
        right
        have : ¬ 0 < N / 34359738368 := fun h => by have := hbj'.2 h; cases this
        exact ⟨rfl, by omega⟩
      rcases hbg with rfl | ⟨rfl, hgg⟩
      all_goals
       clear hbj'
       go_wp2_with (at_builtin; refine wpList_append_src _ rfl _ _ 22 22 rfl w.heap.size 5 i0 (.int .u8 0) 1 1 Tryz.underlying22 hi hz0 hz1 hz2 rfl _ _ _ rfl (hownk.alloc _) 1 [.int .u8 (N / 268435456 % 128 + 128)] (Src.ofSlice _ Tryz.underlying22 ⟨_, 0, none⟩ 1 1 _ rfl (cell_one_new _ _ _) (oneInt _ _)) (by unfold maxLen; omega) (by omega) (by have := hbk.size; simp; omega) ?_)
       intro v2 w2 hown2 hgr2
       have hb2 := below_app hbk rN hownk hgr2
       clear hgr2
       go_wp2
       go_roundw
       case rel =>
        refine ⟨0 + 1, true, by omega, by go_num, rfl, by simp; exact hg, ?_, hb2⟩
        exact own_congr hown2 (by rw [HS.out]; simp; try omega) (by rw [HS.out]; simp)
       case measure => simp [intOf]
     ·have hstep : hiTo N (0 + 1) = hiTo N 0 := by simp [hiTo, hiG_no hg]
      have HS := Hm hstep
      clear hstep
      have hbf : b = false := by
       cases b with
       | false => rfl
       | true => have := hbj'.1 rfl; omega
      subst hbf
      have hgg : N / 268435456 % 128 = 0 := by omega
      clear hbj' hor
      go_wp2
      go_roundw
      case rel =>
       refine ⟨0 + 1, false, by omega, by go_num, rfl, by simp; omega, ?_, hbk⟩
       rw [HS.out]
       exact hownk
      case measure => simp [intOf]
    ·have hand := i64_and127 (N / 2097152)
     have hor := or128_i64 (N / 2097152)
     have hbj' : b = true ↔ 0 < N / 268435456 := by simpa using hbj
     clear hbj
     have hll := hiTo_length N 1
     by_cases hg : 0 < N / 2097152
     ·have hstep : hiTo N (1 + 1) = hiTo N 1 ++ [N / 2097152 % 128 + 128] := by simp only [hiTo, hiG_yes hg]; try rfl
      have HS := Hm hstep
      clear hstep
      have hbg : b = true ∨ (b = false /\ 0 < N / 2097152 % 128) := by
       cases b with
       | true => exact Or.inl rfl
       | false =>
        right
        have : ¬ 0 < N / 268435456 := fun h => by have := hbj'.2 h; cases this
        exact ⟨rfl, by omega⟩
      rcases hbg with rfl | ⟨rfl, hgg⟩
      all_goals
       clear hbj'
       go_wp2_with (at_builtin; refine wpList_append_src _ rfl _ _ 22 22 rfl w.heap.size 5 i0 (.int .u8 0) 1 1 Tryz.underlying22 hi hz0 hz1 hz2 rfl _ _ _ rfl (hownk.alloc _) 1 [.int .u8 (N / 2097152 % 128 + 128)] (Src.ofSlice _ Tryz.underlying22 ⟨_, 0, none⟩ 1 1 _ rfl (cell_one_new _ _ _) (oneInt _ _)) (by unfold maxLen; omega) (by omega) (by have := hbk.size; simp; omega) ?_)
       intro v2 w2 hown2 hgr2
       have hb2 := below_app hbk rN hownk hgr2
       clear hgr2
       go_wp2
       go_roundw
       case rel =>
        refine ⟨1 + 1, true, by omega, by go_num, rfl, by simp; exact hg, ?_, hb2⟩
        exact own_congr hown2 (by rw [HS.out]; simp; try omega) (by rw [HS.out]; simp)
       case measure => simp [intOf]
     ·have hstep : hiTo N (1 + 1) = hiTo N 1 := by simp [hiTo, hiG_no hg]
      have HS := Hm hstep
      clear hstep
      have hbf : b = false := by
       cases b with
       | false => rfl
       | true => have := hbj'.1 rfl; omega
      subst hbf
      have hgg : N / 2097152 % 128 = 0 := by omega
      clear hbj' hor
      go_wp2
      go_roundw
      case rel =>
       refine ⟨1 + 1, false, by omega, by go_num, rfl, by simp; omega, ?_, hbk⟩
       rw [HS.out]
       exact hownk
      case measure => simp [intOf]
    ·have hand := i64_and127 (N / 16384)
     have hor := or128_i64 (N / 16384)
     have hbj' : b = true ↔ 0 < N / 2097152 := by simpa using hbj
     clear hbj
     have hll := hiTo_length N 2
     by_cases hg : 0 < N / 16384
     ·have hstep : hiTo N (2 + 1) = hiTo N 2 ++ [N / 16384 % 128 + 128] := by simp only [hiTo, hiG_yes hg]; try rfl
      have HS := Hm hstep
      clear hstep
      have hbg : b = true ∨ (b = false /\ 0 < N / 16384 % 128) := by
       cases b with
       | true => exact Or.inl rfl
       | false =>
        right
        have : ¬ 0 < N / 2097152 := fun h => by have := hbj'.2 h; cases this
        exact ⟨rfl, by omega⟩
      rcases hbg with rfl | ⟨rfl, hgg⟩
      all_goals
       clear hbj'
       go_wp2_with (at_builtin; refine wpList_append_src _ rfl _ _ 22 22 rfl w.heap.size 5 i0 (.int .u8 0) 1 1 Tryz.underlying22 hi hz0 hz1 hz2 rfl _ _ _ rfl (hownk.alloc _) 1 [.int .u8 (N / 16384 % 128 + 128)] (Src.ofSlice _ Tryz.underlying22 ⟨_, 0, none⟩ 1 1 _ rfl (cell_one_new _ _ _) (oneInt _ _)) (by unfold maxLen; omega) (by omega) (by have := hbk.size; simp; omega) ?_)
       intro v2 w2 hown2 hgr2
       have hb2 := below_app hbk rN hownk hgr2
       clear hgr2
       go_wp2
       go_roundw
       case rel =>
        refine ⟨2 + 1, true, by omega, by go_num, rfl, by simp; exact hg, ?_, hb2⟩
        exact own_congr hown2 (by rw [HS.out]; simp; try omega) (by rw [HS.out]; simp)
       case measure => simp [intOf]
     ·have hstep : hiTo N (2 + 1) = hiTo N 2 := by simp [hiTo, hiG_no hg]
      have HS := Hm hstep
      clear hstep
      have hbf : b = false := by
       cases b with
       | false => rfl
       | true => have := hbj'.1 rfl; omega
      subst hbf
      have hgg : N / 16384 % 128 = 0 := by omega
      clear hbj' hor
      go_wp2
      go_roundw
      case rel =>
       refine ⟨2 + 1, false, by omega, by go_num, rfl, by simp; omega, ?_, hbk⟩
       rw [HS.out]
       exact hownk
      case measure => simp [intOf]
    ·have hand := i64_and127 (N / 128)
     have hor := or128_i64 (N / 128)
     have hbj' : b = true ↔ 0 < N / 16384 := by simpa using hbj
     clear hbj
     have hll := hiTo_length N 3
     by_cases hg : 0 < N / 128
     ·have hstep : hiTo N (3 + 1) = hiTo N 3 ++ [N / 128 % 128 + 128] := by simp only [hiTo, hiG_yes hg]; try rfl
      have HS := Hm hstep
      clear hstep
      have hbg : b = true ∨ (b = false /\ 0 < N / 128 % 128) := by
       cases b with
       | true => exact Or.inl rfl
       | false =>
        right
        have : ¬ 0 < N / 16384 := fun h => by have := hbj'.2 h; cases this
        exact ⟨rfl, by omega⟩
      rcases hbg with rfl | ⟨rfl, hgg⟩
      all_goals
       clear hbj'
       go_wp2_with (at_builtin; refine wpList_append_src _ rfl _ _ 22 22 rfl w.heap.size 5 i0 (.int .u8 0) 1 1 Tryz.underlying22 hi hz0 hz1 hz2 rfl _ _ _ rfl (hownk.alloc _) 1 [.int .u8 (N / 128 % 128 + 128)] (Src.ofSlice _ Tryz.underlying22 ⟨_, 0, none⟩ 1 1 _ rfl (cell_one_new _ _ _) (oneInt _ _)) (by unfold maxLen; omega) (by omega) (by have := hbk.size; simp; omega) ?_)
       intro v2 w2 hown2 hgr2
       have hb2 := below_app hbk rN hownk hgr2
       clear hgr2
       go_wp2
       go_roundw
       case rel =>
        refine ⟨3 + 1, true, by omega, by go_num, rfl, by simp; exact hg, ?_, hb2⟩
        exact own_congr hown2 (by rw [HS.out]; simp; try omega) (by rw [HS.out]; simp)
       case measure => simp [intOf]
     ·have hstep : hiTo N (3 + 1) = hiTo N 3 := by simp [hiTo, hiG_no hg]
      have HS := Hm hstep
      clear hstep
      have hbf : b = false := by
       cases b with
       | false => rfl
       | true => have := hbj'.1 rfl; omega
      subst hbf
      have hgg : N / 128 % 128 = 0 := by omega
      clear hbj' hor
      go_wp2
      go_roundw
      case rel =>
       refine ⟨3 + 1, false, by omega, by go_num, rfl, by simp; omega, ?_, hbk⟩
       rw [HS.out]
       exact hownk
      case measure => simp [intOf]
    ·clear hbj
     have hand := i64_and127 N
     have hll := hiTo_length N 4
     go_wp2_with (at_builtin; refine wpList_append_src _ rfl _ _ 22 22 rfl w.heap.size 5 i0 (.int .u8 0) 1 1 Tryz.underlying22 hi hz0 hz1 hz2 rfl _ _ _ rfl (hownk.alloc _) 1 [.int .u8 (N % 128)] (Src.ofSlice _ Tryz.underlying22 ⟨_, 0, none⟩ 1 1 _ rfl (cell_one_new _ _ _) (oneInt _ _)) (by unfold maxLen; omega) (by omega) (by have := hbk.size; simp; omega) ?_)
     intro v2 w2 hown2 hgr2
     have hb2 := below_app hbk rN hownk hgr2
     clear hgr2
     go_wp2
     go_ret
     refine ⟨v2, rfl, ?_, hb2⟩
     rw [HN.out]
     exact own_congr hown2 (by simp [putNum]; try omega) (by simp [putNum])
end Go.Proofs.YtegonncmopecnaaGreatDoor

namespace Go.Proofs.YtegonncmopecnaaGreatDoor
open Go.RowKit
set_option maxRecDepth 10000
theorem specPutNum_R (a : Option Addr) (n cap : Nat) (zs : List Int) (q : Int) (w : World) (hx : zs.length = n) (hlen : n <= 35184372088832) (hr : Rd .u8 w.heap.size w a zs) :
  Calls Tryz.prog 92 #[.slice a n cap, .int .i64 q] w fun e w' => ∃ v, e = .returned v /\
   w'.ownsRow w.heap.size 5 1 v (zs ++ putNum (clampN q)).length ((zs ++ putNum (clampN q)).map (Value.int .u8)) /\ Below w.heap.size w w' :=
 (specPutNum_any a n cap zs q w hx (by omega) hr).mono fun _ _ ⟨v, h1, h2, h3⟩ => ⟨v, h1, own_congr h2 (by simp [hx]) rfl, h3⟩
end Go.Proofs.YtegonncmopecnaaGreatDoor

namespace Go.Proofs.YtegonncmopecnaaGreatDoor
open Go.RowKit
set_option maxRecDepth 10000
theorem take_snoc {xs : List Int} {k n : Nat} (hx : xs.length = n) (hk : k < n) : xs.take (k + 1) = xs.take k ++ [xs.getD k 0] := by
 rw [List.take_succ_eq_append_getElem (by omega), List.getD_eq_getElem?_getD, List.getElem?_eq_getElem (by omega)]
 rfl
theorem step_put {w : World} {base e n j : Nat} {v : Value} {zs ns : List Int} {x N : Int} (h : w.ownsRow base e 1 v (n + (putNums (ns.take j)).length + (putNum N).length) (((zs ++ putNums (ns.take j)) ++ putNum N).map (Value.int .u8)))
  (hN : clampN x = N) (ht : ns.take (j + 1) = ns.take j ++ [x]) : w.ownsRow base e 1 v (n + (putNums (ns.take (j + 1))).length) ((zs ++ putNums (ns.take (j + 1))).map (Value.int .u8)) := by
 subst hN
 rw [ht, putNums_snoc]
 exact own_congr h (by simp; omega) (by simp)
set_option maxHeartbeats 800000 in
theorem putNums_any (a c : Option Addr) (n cap m ccap : Nat) (zs ns : List Int) (w : World) (hx : zs.length = n) (hy : ns.length = m) (hlen : n <= 35184372088832) (hm : m <= 1000000) (hr : Rd .u8 w.heap.size w a zs) (hrn : Rd .i64 w.heap.size w c ns) :
  Calls Tryz.prog 67 #[.slice a n cap, .slice c m ccap] w fun e w' => ∃ v, e = .returned v /\
   w'.ownsRow w.heap.size 5 1 v (n + (putNums ns).length) ((zs ++ putNums ns).map (Value.int .u8)) /\ Below w.heap.size w w' := by
 obtain ⟨i0, hi, hz0, hz1, hz2⟩ := info_parts Tryz.info5
 have HX : Hid (zs.length = n) := hx
 have HY : Hid (ns.length = m) := hy
 clear hx hy
 go_enter Tryz.func67, Tryz.ntmps67
 go_wp2_with (at_make; refine wpList_make_any _ rfl _ _ 22 rfl w.heap.size 5 i0 (.int .u8 0) Tryz.underlying22 hi hz0 hz1 rfl .i64 .i64 _ _ n (n + 5 * m) rfl rfl rfl (by omega) (by omega) (by rw [hz2]; omega) (by unfold maxLen; omega) rN ?_)
 intro w1 hown hgr
 have hb1 : Below w.heap.size w w1 := rB.grown hgr rN (fun k h => by cases h)
 clear hgr
 have hr1 := hr.below hb1
 go_wp2_with (refine wpList_copy_rd rfl _ _ 22 22 rfl 5 i0 Tryz.underlying22 hi hz1 w.heap.size w.heap.size n (n + 5 * m) cap a rfl rfl _ hown .u8 zs w.heap.size HX.out hr1 ?_)
 intro w2 hown2 hgr2
 have hb2 : Below w.heap.size w w2 := hb1.grown hgr2 hb1.size (fun k h => by simp at h; omega)
 clear hgr2 hown hb1 hr1 hr
 go_wp2_with fail
 go_loopw [5, 7, 22] (fun o x k wr => ∃ j : Nat, j <= m /\ k = .int .i64 j /\
  wr.ownsRow w.heap.size 5 1 o (n + (putNums (ns.take j)).length) ((zs ++ putNums (ns.take j)).map (Value.int .u8)) /\ Below w.heap.size w wr) (fun _ _ k _ => m - (intOf k).toNat)
 case atStart => exact ⟨0, by omega, rfl, by simpa [putNums] using hown2, hb2⟩
 case round =>
  obtain ⟨j, hj, rfl, hownk, hbk⟩ := hrel
  clear hown2 hb2
  have hl := putNums_length (ns.take j)
  have hl2 : (ns.take j).length <= j := List.length_take_le _ _
  by_cases hlt : j < m
  ·obtain ⟨b1, o1, rfl, hB, hc1⟩ := hrn j (by rw [HY.out]; exact hlt)
   have hc2 : wr.cell? ⟨b1, o1 + j, none⟩ = some (.int .i64 (ns.getD j 0)) := (hbk.cell (p := ⟨b1, o1 + j, none⟩) hB).trans hc1
   have HT := Hm (take_snoc HY.out hlt)
   generalize ns.getD j 0 = x at hc1 hc2 HT
   clear hc1 hrn
   by_cases h1 : 1000000000 < x
   ·have HC : Hid (clampN x = 1000000000) := clampN_hi h1
    go_wp2_with fail
    refine (addGroups_own _ (n + (putNums (ns.take j)).length) w.heap.size (zs ++ putNums (ns.take j)) _ wr (by omega) (by omega) (by omega) hbk.size hownk).mono ?_
    rintro e w3 ⟨v3, rfl, hown3, hb3⟩
    have hb4 := hbk.trans hb3
    have hown4 := step_put hown3 HC.out HT.out
    clear hown3 hownk hbk hb3
    go_wp2_with fail
    go_roundw
    case rel => exact ⟨j + 1, by omega, by go_num, hown4, hb4⟩
    case measure => simp [intOf]; omega
   ·by_cases h2 : x < 0
    ·have HC : Hid (clampN x = 0) := clampN_lo h2
     go_wp2_with fail
     refine (addGroups_own _ (n + (putNums (ns.take j)).length) w.heap.size (zs ++ putNums (ns.take j)) _ wr (by omega) (by omega) (by omega) hbk.size hownk).mono ?_
     rintro e w3 ⟨v3, rfl, hown3, hb3⟩
     have hb4 := hbk.trans hb3
     have hown4 := step_put hown3 HC.out HT.out
     clear hown3 hownk hbk hb3
     go_wp2_with fail
     go_roundw
     case rel => exact ⟨j + 1, by omega, by go_num, hown4, hb4⟩
     case measure => simp [intOf]; omega
    ·have HC : Hid (clampN x = x) := clampN_in (by omega) (by omega)
     go_wp2_with fail
     refine (addGroups_own _ (n + (putNums (ns.take j)).length) w.heap.size (zs ++ putNums (ns.take j)) _ wr (by omega) (by omega) (by omega) hbk.size hownk).mono ?_
     rintro e w3 ⟨v3, rfl, hown3, hb3⟩
     have hb4 := hbk.trans hb3
     have hown4 := step_put hown3 HC.out HT.out
     clear hown3 hownk hbk hb3
     go_wp2_with fail
     go_roundw
     case rel => exact ⟨j + 1, by omega, by go_num, hown4, hb4⟩
     case measure => simp [intOf]; omega
  ·have HT : ns.take j = ns := List.take_of_length_le (by rw [HY.out]; omega)
   rw [HT] at hownk
   go_wp2_with fail
   go_ret
   exact ⟨_, rfl, hownk, hbk⟩
end Go.Proofs.YtegonncmopecnaaGreatDoor
