/-
  Part 8 of the texts that the proof leans on.
-/
import Derived.Test.YtddejboifpepcaaGreatDoorInp3
import Derived.Test.YtddejboifpepcaaGreatDoorInp6
import Derived.Deep.RegionHeld3
import Derived.Test.YtddejboifpepcaaGreatDoorInp5
import Derived.Shelf.SlSortCmp.WholeK
import Derived.Shelf.SlGeneric
import Derived.Ground.SlsfProg
import Derived.Test.YtddejboifpepcaaGreatDoorProg
import Derived.Test.YtddejboifpepcaaGreatDoorInp4
import Derived.Maps.RangeWalk
import Derived.Sort.KeysCollected
set_option linter.unusedVariables false
set_option linter.unusedSimpArgs false
set_option maxRecDepth 10000

namespace Go.Proofs.YtddejboifpepcaaGreatDoor
open Go.RowKit Go.Maps
abbrev q7b7_114_1_0 : Oper := ⟨some 3, .fieldAddr 34 (.tmp 1) 3, 0, "l02_files.go:45", #[], none⟩
abbrev q7b7_114_1_1 : Oper := ⟨some 4, .load 3 (.tmp 3), 3, "l02_files.go:45", #[⟨0, .data⟩], none⟩
abbrev q7b7_114_1_2 : Oper := ⟨some 5, .binOp .geq 3 (.tmp 4) (.const (.int .i64 1)) 3, 4, "l02_files.go:45", #[⟨1, .data⟩], none⟩
abbrev q7b7_114_1_3 : Oper := ⟨some 6, .move (.tmp 5), 4, "l02_files.go:45", #[⟨2, .data⟩], none⟩
abbrev q7b7_114_1_4 : Oper := ⟨some 7, .fieldAddr 34 (.tmp 1) 3, 0, "l02_files.go:45", #[⟨3, .guard⟩], some (3, true)⟩
abbrev q7b7_114_1_5 : Oper := ⟨some 8, .load 3 (.tmp 7), 3, "l02_files.go:45", #[⟨4, .data⟩, ⟨3, .guard⟩], some (3, true)⟩
abbrev q7b7_114_1_6 : Oper := ⟨some 9, .binOp .leq 3 (.tmp 8) (.const (.int .i64 1000000)) 3, 4, "l02_files.go:45", #[⟨5, .data⟩, ⟨3, .guard⟩], some (3, true)⟩
abbrev q7b7_114_1_7 : Oper := ⟨some 10, .pick (.tmp 6) (.tmp 9) (.const (.bool false)), 4, "l02_files.go:45", #[⟨3, .data⟩, ⟨6, .data⟩], none⟩
abbrev q7b7_114_1_8 : Oper := ⟨some 11, .move (.tmp 10), 4, "l02_files.go:45", #[⟨7, .data⟩, ⟨3, .chain⟩], none⟩
abbrev q7b7_114_1_9 : Oper := ⟨some 12, .fieldAddr 34 (.tmp 1) 0, 0, "l02_files.go:45", #[⟨8, .guard⟩], some (8, true)⟩
abbrev q7b7_114_1_10 : Oper := ⟨some 13, .load 31 (.tmp 12), 31, "l02_files.go:45", #[⟨9, .data⟩, ⟨8, .guard⟩], some (8, true)⟩
abbrev q7b7_114_1_11 : Oper := ⟨some 14, .fieldAddr 34 (.tmp 1) 3, 0, "l02_files.go:45", #[⟨8, .guard⟩], some (8, true)⟩
abbrev q7b7_114_1_12 : Oper := ⟨some 15, .load 3 (.tmp 14), 3, "l02_files.go:45", #[⟨11, .data⟩, ⟨8, .guard⟩], some (8, true)⟩
abbrev q7b7_114_1_13 : Oper := ⟨some 16, .call { callee := .value (.func 126), args := #[.tmp 13, .tmp 15], argTypes := #[31, 3] }, 4, "l02_files.go:45", #[⟨10, .data⟩, ⟨12, .data⟩, ⟨8, .chain⟩, ⟨8, .guard⟩], some (8, true)⟩
abbrev q7b7_114_1_14 : Oper := ⟨some 17, .pick (.tmp 11) (.tmp 16) (.const (.bool false)), 4, "l02_files.go:45", #[⟨8, .data⟩, ⟨13, .data⟩], none⟩
abbrev q7b7_114_1_15 : Oper := ⟨some 18, .move (.tmp 17), 4, "l02_files.go:45", #[⟨14, .data⟩, ⟨13, .chain⟩], none⟩
abbrev q7b7_114_1_16 : Oper := ⟨some 19, .fieldAddr 34 (.tmp 1) 1, 0, "l02_files.go:45", #[⟨15, .guard⟩], some (15, true)⟩
abbrev q7b7_114_1_17 : Oper := ⟨some 20, .load 32 (.tmp 19), 32, "l02_files.go:45", #[⟨16, .data⟩, ⟨15, .guard⟩], some (15, true)⟩
abbrev q7b7_114_1_18 : Oper := ⟨some 21, .fieldAddr 34 (.tmp 1) 0, 0, "l02_files.go:45", #[⟨15, .guard⟩], some (15, true)⟩
abbrev q7b7_114_1_19 : Oper := ⟨some 22, .load 31 (.tmp 21), 31, "l02_files.go:45", #[⟨18, .data⟩, ⟨15, .guard⟩], some (15, true)⟩
abbrev q7b7_114_1_20 : Oper := ⟨some 23, .call { callee := .value (.func 127), args := #[.tmp 20, .tmp 22], argTypes := #[32, 31] }, 4, "l02_files.go:46", #[⟨17, .data⟩, ⟨19, .data⟩, ⟨15, .chain⟩, ⟨15, .guard⟩], some (15, true)⟩
abbrev q7b7_114_1_21 : Oper := ⟨some 24, .pick (.tmp 18) (.tmp 23) (.const (.bool false)), 4, "l02_files.go:45", #[⟨15, .data⟩, ⟨20, .data⟩], none⟩
abbrev q7b7_114_1_22 : Oper := ⟨some 25, .move (.tmp 24), 4, "l02_files.go:45", #[⟨21, .data⟩, ⟨20, .chain⟩], none⟩
abbrev q7b7_114_1_23 : Oper := ⟨some 26, .fieldAddr 34 (.tmp 1) 2, 0, "l02_files.go:45", #[⟨22, .guard⟩], some (22, true)⟩
abbrev q7b7_114_1_24 : Oper := ⟨some 27, .load 32 (.tmp 26), 32, "l02_files.go:45", #[⟨23, .data⟩, ⟨22, .guard⟩], some (22, true)⟩
abbrev q7b7_114_1_25 : Oper := ⟨some 28, .fieldAddr 34 (.tmp 1) 0, 0, "l02_files.go:45", #[⟨22, .guard⟩], some (22, true)⟩
abbrev q7b7_114_1_26 : Oper := ⟨some 29, .load 31 (.tmp 28), 31, "l02_files.go:45", #[⟨25, .data⟩, ⟨22, .guard⟩], some (22, true)⟩
abbrev q7b7_114_1_27 : Oper := ⟨some 30, .call { callee := .value (.func 127), args := #[.tmp 27, .tmp 29], argTypes := #[32, 31] }, 4, "l02_files.go:46", #[⟨24, .data⟩, ⟨26, .data⟩, ⟨22, .chain⟩, ⟨22, .guard⟩], some (22, true)⟩
abbrev q7b7_114_1_28 : Oper := ⟨some 31, .pick (.tmp 25) (.tmp 30) (.const (.bool false)), 4, "l02_files.go:45", #[⟨22, .data⟩, ⟨27, .data⟩], none⟩
abbrev q7b7_114_1_29 : Oper := ⟨some 32, .move (.tmp 31), 4, "l02_files.go:45", #[⟨28, .data⟩, ⟨27, .chain⟩], none⟩
abbrev q7b7_114_1_30 : Oper := ⟨some 33, .load 34 (.tmp 1), 34, "l02_files.go:45", #[⟨29, .guard⟩], some (29, true)⟩
abbrev q7b7_114_1_31 : Oper := ⟨some 34, .call { callee := .value (.func 115), args := #[.tmp 33], argTypes := #[34] }, 31, "l02_files.go:46", #[⟨30, .data⟩, ⟨29, .chain⟩, ⟨29, .guard⟩], some (29, true)⟩
abbrev q7b7_114_1_32 : Oper := ⟨some 35, .call { callee := .builtin .len, args := #[.tmp 34], argTypes := #[31] }, 3, "l02_files.go:45", #[⟨31, .data⟩, ⟨29, .guard⟩], some (29, true)⟩
abbrev q7b7_114_1_33 : Oper := ⟨some 36, .fieldAddr 34 (.tmp 1) 0, 0, "l02_files.go:45", #[⟨29, .guard⟩], some (29, true)⟩
abbrev q7b7_114_1_34 : Oper := ⟨some 37, .load 31 (.tmp 36), 31, "l02_files.go:45", #[⟨33, .data⟩, ⟨29, .guard⟩], some (29, true)⟩
abbrev q7b7_114_1_35 : Oper := ⟨some 38, .call { callee := .builtin .len, args := #[.tmp 37], argTypes := #[31] }, 3, "l02_files.go:45", #[⟨34, .data⟩, ⟨29, .guard⟩], some (29, true)⟩
abbrev q7b7_114_1_36 : Oper := ⟨some 39, .binOp .eql 3 (.tmp 35) (.tmp 38) 3, 4, "l02_files.go:45", #[⟨32, .data⟩, ⟨35, .data⟩, ⟨29, .guard⟩], some (29, true)⟩
abbrev q7b7_114_1_37 : Oper := ⟨some 40, .pick (.tmp 32) (.tmp 39) (.const (.bool false)), 4, "l02_files.go:45", #[⟨29, .data⟩, ⟨36, .data⟩], none⟩
abbrev q7b7_114_1_38 : Oper := ⟨some 2, .assign (.tmp 40), 4, "l02_files.go:45", #[⟨37, .data⟩, ⟨31, .chain⟩, ⟨0, .phase⟩, ⟨1, .phase⟩, ⟨2, .phase⟩, ⟨3, .phase⟩, ⟨4, .phase⟩, ⟨5, .phase⟩, ⟨6, .phase⟩, ⟨7, .phase⟩, ⟨8, .phase⟩, ⟨9, .phase⟩, ⟨10, .phase⟩, ⟨11, .phase⟩, ⟨12, .phase⟩, ⟨13, .phase⟩, ⟨14, .phase⟩, ⟨15, .phase⟩, ⟨16, .phase⟩, ⟨17, .phase⟩, ⟨18, .phase⟩, ⟨19, .phase⟩, ⟨20, .phase⟩, ⟨21, .phase⟩, ⟨22, .phase⟩, ⟨23, .phase⟩, ⟨24, .phase⟩, ⟨25, .phase⟩, ⟨26, .phase⟩, ⟨27, .phase⟩, ⟨28, .phase⟩, ⟨29, .phase⟩, ⟨30, .phase⟩, ⟨31, .phase⟩, ⟨32, .phase⟩, ⟨33, .phase⟩, ⟨34, .phase⟩, ⟨35, .phase⟩, ⟨36, .phase⟩, ⟨37, .phase⟩], none⟩
def implOk (d : MDisk) : Bool :=
 decide (1 ≤ d.fNext) && decide (d.fNext ≤ 1000000) && (okI d.fNext 0 d.fInodes && decide (sumW wInode d.fInodes ≤ 60000)) &&
  (decide (d.fNames.length ≤ 30) && okE d.fInodes [] ByteArray.empty d.fNames) && (decide (d.fSafe.length ≤ 30) && okE d.fInodes [] ByteArray.empty d.fSafe) && decide ((keepI d).length = d.fInodes.length)
theorem keepI_count (d : MDisk) : decide ((keepI d).length = d.fInodes.length) = d.fInodes.all (isNamed d) := by
 unfold keepI
 rw [Bool.eq_iff_iff, decide_eq_true_eq, List.length_filter_eq_length_iff, List.all_eq_true]
theorem implOk_eq (d : MDisk) : implOk d = diskOk d := by
 unfold implOk diskOk
 rw [keepI_count, Bool.decide_and]
 cases decide (1 ≤ d.fNext) <;> cases decide (d.fNext ≤ 1000000) <;> cases okI d.fNext 0 d.fInodes <;> cases decide (sumW wInode d.fInodes ≤ 60000) <;> simp [Bool.and_assoc]
set_option maxHeartbeats 8000000 in
theorem implDiskOk_any (cs : List Value) (m : MDisk) (w : World) (hr : rDisk w.heap.size w cs m) (hw : wDisk m ≤ 16777216) :
  Calls Tryz.prog 114 #[.agg cs.toArray] w fun e w' => e = .returned (.bool (implOk m)) ∧ Below w.heap.size w w' := by
 have hq := hr
 obtain ⟨a0, c0, a1, c1, a2, c2, rfl, hI, hNm, hSf, hnx, _⟩ := hq
 have hw2 : m.fInodes.length + sumW wInode m.fInodes + (m.fNames.length + sumW wEntry m.fNames) + (m.fSafe.length + sumW wEntry m.fSafe) ≤ 16777216 := hw
 have HW := Hid.mk hw
 have HR := Hid.mk hr
 have HI := Hid.mk hI
 have HNL := Hid.mk hNm
 have HSL := Hid.mk hSf
 clear hr hI hNm hSf hw
 have hnb : -9223372036854775808 ≤ m.fNext ∧ m.fNext ≤ 9223372036854775807 := by simpa [Lit.wf, IntKind.min, IntKind.max, IntKind.signed, IntKind.bits] using hnx
 have HNB := Hid.mk hnb
 obtain ⟨hnb1, hnb2⟩ := hnb
 go_enter Tryz.func114, Tryz.ntmps114
 go_wp2_with fail
 obtain ⟨wq, hwq⟩ : ∃ wq, wq = w.alloc (.cells #[.slice a0 m.fInodes.length c0, .slice a1 m.fNames.length c1, .slice a2 m.fSafe.length c2, .int .i64 m.fNext] 34) := ⟨_, rfl⟩
 have hbW : Below w.heap.size w wq := by rw [hwq]; exact (Below.refl _ _).alloc (Nat.le_refl _) _
 have hbx : Bx wq w.heap.size [.slice a0 m.fInodes.length c0, .slice a1 m.fNames.length c1, .slice a2 m.fSafe.length c2, .int .i64 m.fNext] := by rw [hwq]; exact Bx.new _ _ _
 rw [← hwq]
 clear hwq
 have p0 : ∀ W, Below wq.heap.size wq W → W.cell? ⟨w.heap.size, 0, none⟩ = some (.slice a0 m.fInodes.length c0) := fun W hb => (hbx.under hb).2 0 _ rfl
 have p1 : ∀ W, Below wq.heap.size wq W → W.cell? ⟨w.heap.size, 1, none⟩ = some (.slice a1 m.fNames.length c1) := fun W hb => (hbx.under hb).2 1 _ rfl
 have p2 : ∀ W, Below wq.heap.size wq W → W.cell? ⟨w.heap.size, 2, none⟩ = some (.slice a2 m.fSafe.length c2) := fun W hb => (hbx.under hb).2 2 _ rfl
 have p3 : ∀ W, Below wq.heap.size wq W → W.cell? ⟨w.heap.size, 3, none⟩ = some (.int .i64 m.fNext) := fun W hb => (hbx.under hb).2 3 _ rfl
 have hCi := fun W (hb : Below wq.heap.size wq W) => inodesOk_any a0 c0 m.fInodes m.fNext W (LeafL.mono rInode_good (HI.out.below rInode_good (bthen hbW hb)) (bthen hbW hb).size) (by omega) HNB.out
 have hCn := fun W (hb : Below wq.heap.size wq W) => namedInodes_any _ m W (rDisk_good.mono (rDisk_good.below HR.out (bthen hbW hb)) (bthen hbW hb).size) HW.out
 obtain ⟨A1, hA1⟩ : ∃ b : Bool, (okI m.fNext 0 m.fInodes && decide (sumW wInode m.fInodes ≤ 60000)) = b := ⟨_, rfl⟩
 obtain ⟨A2, hA2⟩ : ∃ b : Bool, (decide (m.fNames.length ≤ 30) && okE m.fInodes [] ByteArray.empty m.fNames) = b := ⟨_, rfl⟩
 obtain ⟨A3, hA3⟩ : ∃ b : Bool, (decide (m.fSafe.length ≤ 30) && okE m.fInodes [] ByteArray.empty m.fSafe) = b := ⟨_, rfl⟩
 have HV : Hid (implOk m = (decide (1 ≤ m.fNext) && decide (m.fNext ≤ 1000000) && A1 && A2 && A3 && decide ((keepI m).length = m.fInodes.length))) := by
  show implOk m = _
  unfold implOk
  rw [hA1, hA2, hA3]
 have HA1 := Hid.mk hA1
 simp only [hA1] at hCi
 by_cases h1 : 1 ≤ m.fNext
 ·by_cases h2 : m.fNext ≤ 1000000
  ·cases A1
   ·clear hA1 hA2 hA3 hCn
    refine wp_region_held_drew (S := fun W => Below wq.heap.size wq W) (by kernel_rfl) (Below.drew (Below.refl _ _)) (fun hHeld => ?_)
    refine uq 0 q7b7_114_1_0 3 hHeld ?_
    refine uq 1 q7b7_114_1_1 4 hHeld ?_
    refine uq 2 q7b7_114_1_2 5 hHeld ?_
    refine uq 3 q7b7_114_1_3 6 hHeld ?_
    refine uq 4 q7b7_114_1_4 7 hHeld ?_
    refine uq 5 q7b7_114_1_5 8 hHeld ?_
    refine uq 6 q7b7_114_1_6 9 hHeld ?_
    refine uq 7 q7b7_114_1_7 10 hHeld ?_
    refine uq 8 q7b7_114_1_8 11 hHeld ?_
    refine uq 9 q7b7_114_1_9 12 hHeld ?_
    refine uq 10 q7b7_114_1_10 13 hHeld ?_
    refine uq 11 q7b7_114_1_11 14 hHeld ?_
    refine uq 12 q7b7_114_1_12 15 hHeld ?_
    refine ar1 13 q7b7_114_1_13 fun K hK => ?_
    go_simp
    refine Calls.mono (hCi _ hHeld) ?_
    rintro e w1 ⟨rfl, hx1⟩
    go_wp2_with fail
    refine hK.out _ _ (bthen hHeld hx1) (fun hHeld => ?_)
    clear hK K
    try simp only[Act.put,sa,s0,s1]
    refine uq 14 q7b7_114_1_14 17 hHeld ?_
    refine uq 15 q7b7_114_1_15 18 hHeld ?_
    refine um 16 q7b7_114_1_16 19 hHeld ?_
    refine um 17 q7b7_114_1_17 20 hHeld ?_
    refine um 18 q7b7_114_1_18 21 hHeld ?_
    refine um 19 q7b7_114_1_19 22 hHeld ?_
    refine um 20 q7b7_114_1_20 23 hHeld ?_
    refine uq 21 q7b7_114_1_21 24 hHeld ?_
    refine uq 22 q7b7_114_1_22 25 hHeld ?_
    refine um 23 q7b7_114_1_23 26 hHeld ?_
    refine um 24 q7b7_114_1_24 27 hHeld ?_
    refine um 25 q7b7_114_1_25 28 hHeld ?_
    refine um 26 q7b7_114_1_26 29 hHeld ?_
    refine um 27 q7b7_114_1_27 30 hHeld ?_
    refine uq 28 q7b7_114_1_28 31 hHeld ?_
    refine uq 29 q7b7_114_1_29 32 hHeld ?_
    refine um 30 q7b7_114_1_30 33 hHeld ?_
    refine um 31 q7b7_114_1_31 34 hHeld ?_
    refine um 32 q7b7_114_1_32 35 hHeld ?_
    refine um 33 q7b7_114_1_33 36 hHeld ?_
    refine um 34 q7b7_114_1_34 37 hHeld ?_
    refine um 35 q7b7_114_1_35 38 hHeld ?_
    refine um 36 q7b7_114_1_36 39 hHeld ?_
    refine uq 37 q7b7_114_1_37 40 hHeld ?_
    refine uq 38 q7b7_114_1_38 2 hHeld ?_
    refine wpAnyH_done (by kernel_rfl) ?_ _
    go_wp2_with fail
    go_ret
    exact ⟨by rw [HV.out]; simp, bthen hbW hHeld⟩
   ·have hso : m.fInodes.Pairwise fun x y => x.fId < y.fId := by
     have h := HA1.out
     rw [Bool.and_eq_true] at h
     exact okI_sorted h.1
    have HSO := Hid.mk hso
    clear hso
    have hCa := fun W (hb : Below wq.heap.size wq W) => entriesOk_any a1 a0 _ c1 c0 m.fNames m.fInodes W rfl (LeafL.mono rEntry_good (HNL.out.below rEntry_good (bthen hbW hb)) (bthen hbW hb).size) (LeafL.mono rInode_good (HI.out.below rInode_good (bthen hbW hb)) (bthen hbW hb).size) (by omega) (by omega) HSO.out
    have hCb := fun W (hb : Below wq.heap.size wq W) => entriesOk_any a2 a0 _ c2 c0 m.fSafe m.fInodes W rfl (LeafL.mono rEntry_good (HSL.out.below rEntry_good (bthen hbW hb)) (bthen hbW hb).size) (LeafL.mono rInode_good (HI.out.below rInode_good (bthen hbW hb)) (bthen hbW hb).size) (by omega) (by omega) HSO.out
    simp only [hA2] at hCa
    simp only [hA3] at hCb
    clear hA1 hA2 hA3
    cases A2
    ·skip
     refine wp_region_held_drew (S := fun W => Below wq.heap.size wq W) (by kernel_rfl) (Below.drew (Below.refl _ _)) (fun hHeld => ?_)
     refine uq 0 q7b7_114_1_0 3 hHeld ?_
     refine uq 1 q7b7_114_1_1 4 hHeld ?_
     refine uq 2 q7b7_114_1_2 5 hHeld ?_
     refine uq 3 q7b7_114_1_3 6 hHeld ?_
     refine uq 4 q7b7_114_1_4 7 hHeld ?_
     refine uq 5 q7b7_114_1_5 8 hHeld ?_
     refine uq 6 q7b7_114_1_6 9 hHeld ?_
     refine uq 7 q7b7_114_1_7 10 hHeld ?_
     refine uq 8 q7b7_114_1_8 11 hHeld ?_
     refine uq 9 q7b7_114_1_9 12 hHeld ?_
     refine uq 10 q7b7_114_1_10 13 hHeld ?_
     refine uq 11 q7b7_114_1_11 14 hHeld ?_
     refine uq 12 q7b7_114_1_12 15 hHeld ?_
     refine ar1 13 q7b7_114_1_13 fun K hK => ?_
     go_simp
     refine Calls.mono (hCi _ hHeld) ?_
     rintro e w1 ⟨rfl, hx1⟩
     go_wp2_with fail
     refine hK.out _ _ (bthen hHeld hx1) (fun hHeld => ?_)
     clear hK K
     try simp only[Act.put,sa,s0,s1]
     refine uq 14 q7b7_114_1_14 17 hHeld ?_
     refine uq 15 q7b7_114_1_15 18 hHeld ?_
     refine uq 16 q7b7_114_1_16 19 hHeld ?_
     refine uq 17 q7b7_114_1_17 20 hHeld ?_
     refine uq 18 q7b7_114_1_18 21 hHeld ?_
     refine uq 19 q7b7_114_1_19 22 hHeld ?_
     refine ar1 20 q7b7_114_1_20 fun K hK => ?_
     go_simp
     refine Calls.mono (hCa _ hHeld) ?_
     rintro e w2 ⟨rfl, hx2⟩
     go_wp2_with fail
     refine hK.out _ _ (bthen hHeld hx2) (fun hHeld => ?_)
     clear hK K
     try simp only[Act.put,sa,s0,s1]
     refine uq 21 q7b7_114_1_21 24 hHeld ?_
     refine uq 22 q7b7_114_1_22 25 hHeld ?_
     refine um 23 q7b7_114_1_23 26 hHeld ?_
     refine um 24 q7b7_114_1_24 27 hHeld ?_
     refine um 25 q7b7_114_1_25 28 hHeld ?_
     refine um 26 q7b7_114_1_26 29 hHeld ?_
     refine um 27 q7b7_114_1_27 30 hHeld ?_
     refine uq 28 q7b7_114_1_28 31 hHeld ?_
     refine uq 29 q7b7_114_1_29 32 hHeld ?_
     refine um 30 q7b7_114_1_30 33 hHeld ?_
     refine um 31 q7b7_114_1_31 34 hHeld ?_
     refine um 32 q7b7_114_1_32 35 hHeld ?_
     refine um 33 q7b7_114_1_33 36 hHeld ?_
     refine um 34 q7b7_114_1_34 37 hHeld ?_
     refine um 35 q7b7_114_1_35 38 hHeld ?_
     refine um 36 q7b7_114_1_36 39 hHeld ?_
     refine uq 37 q7b7_114_1_37 40 hHeld ?_
     refine uq 38 q7b7_114_1_38 2 hHeld ?_
     refine wpAnyH_done (by kernel_rfl) ?_ _
     go_wp2_with fail
     go_ret
     exact ⟨by rw [HV.out]; simp, bthen hbW hHeld⟩
    ·cases A3
     ·skip
      refine wp_region_held_drew (S := fun W => Below wq.heap.size wq W) (by kernel_rfl) (Below.drew (Below.refl _ _)) (fun hHeld => ?_)
      refine uq 0 q7b7_114_1_0 3 hHeld ?_
      refine uq 1 q7b7_114_1_1 4 hHeld ?_
      refine uq 2 q7b7_114_1_2 5 hHeld ?_
      refine uq 3 q7b7_114_1_3 6 hHeld ?_
      refine uq 4 q7b7_114_1_4 7 hHeld ?_
      refine uq 5 q7b7_114_1_5 8 hHeld ?_
      refine uq 6 q7b7_114_1_6 9 hHeld ?_
      refine uq 7 q7b7_114_1_7 10 hHeld ?_
      refine uq 8 q7b7_114_1_8 11 hHeld ?_
      refine uq 9 q7b7_114_1_9 12 hHeld ?_
      refine uq 10 q7b7_114_1_10 13 hHeld ?_
      refine uq 11 q7b7_114_1_11 14 hHeld ?_
      refine uq 12 q7b7_114_1_12 15 hHeld ?_
      refine ar1 13 q7b7_114_1_13 fun K hK => ?_
      go_simp
      refine Calls.mono (hCi _ hHeld) ?_
      rintro e w1 ⟨rfl, hx1⟩
      go_wp2_with fail
      refine hK.out _ _ (bthen hHeld hx1) (fun hHeld => ?_)
      clear hK K
      try simp only[Act.put,sa,s0,s1]
      refine uq 14 q7b7_114_1_14 17 hHeld ?_
      refine uq 15 q7b7_114_1_15 18 hHeld ?_
      refine uq 16 q7b7_114_1_16 19 hHeld ?_
      refine uq 17 q7b7_114_1_17 20 hHeld ?_
      refine uq 18 q7b7_114_1_18 21 hHeld ?_
      refine uq 19 q7b7_114_1_19 22 hHeld ?_
      refine ar1 20 q7b7_114_1_20 fun K hK => ?_
      go_simp
      refine Calls.mono (hCa _ hHeld) ?_
      rintro e w2 ⟨rfl, hx2⟩
      go_wp2_with fail
      refine hK.out _ _ (bthen hHeld hx2) (fun hHeld => ?_)
      clear hK K
      try simp only[Act.put,sa,s0,s1]
      refine uq 21 q7b7_114_1_21 24 hHeld ?_
      refine uq 22 q7b7_114_1_22 25 hHeld ?_
      refine uq 23 q7b7_114_1_23 26 hHeld ?_
      refine uq 24 q7b7_114_1_24 27 hHeld ?_
      refine uq 25 q7b7_114_1_25 28 hHeld ?_
      refine uq 26 q7b7_114_1_26 29 hHeld ?_
      refine ar1 27 q7b7_114_1_27 fun K hK => ?_
      go_simp
      refine Calls.mono (hCb _ hHeld) ?_
      rintro e w3 ⟨rfl, hx3⟩
      go_wp2_with fail
      refine hK.out _ _ (bthen hHeld hx3) (fun hHeld => ?_)
      clear hK K
      try simp only[Act.put,sa,s0,s1]
      refine uq 28 q7b7_114_1_28 31 hHeld ?_
      refine uq 29 q7b7_114_1_29 32 hHeld ?_
      refine um 30 q7b7_114_1_30 33 hHeld ?_
      refine um 31 q7b7_114_1_31 34 hHeld ?_
      refine um 32 q7b7_114_1_32 35 hHeld ?_
      refine um 33 q7b7_114_1_33 36 hHeld ?_
      refine um 34 q7b7_114_1_34 37 hHeld ?_
      refine um 35 q7b7_114_1_35 38 hHeld ?_
      refine um 36 q7b7_114_1_36 39 hHeld ?_
      refine uq 37 q7b7_114_1_37 40 hHeld ?_
      refine uq 38 q7b7_114_1_38 2 hHeld ?_
      refine wpAnyH_done (by kernel_rfl) ?_ _
      go_wp2_with fail
      go_ret
      exact ⟨by rw [HV.out]; simp, bthen hbW hHeld⟩
     ·skip
      refine wp_region_held_drew (S := fun W => Below wq.heap.size wq W) (by kernel_rfl) (Below.drew (Below.refl _ _)) (fun hHeld => ?_)
      refine uq 0 q7b7_114_1_0 3 hHeld ?_
      refine uq 1 q7b7_114_1_1 4 hHeld ?_
      refine uq 2 q7b7_114_1_2 5 hHeld ?_
      refine uq 3 q7b7_114_1_3 6 hHeld ?_
      refine uq 4 q7b7_114_1_4 7 hHeld ?_
      refine uq 5 q7b7_114_1_5 8 hHeld ?_
      refine uq 6 q7b7_114_1_6 9 hHeld ?_
      refine uq 7 q7b7_114_1_7 10 hHeld ?_
      refine uq 8 q7b7_114_1_8 11 hHeld ?_
      refine uq 9 q7b7_114_1_9 12 hHeld ?_
      refine uq 10 q7b7_114_1_10 13 hHeld ?_
      refine uq 11 q7b7_114_1_11 14 hHeld ?_
      refine uq 12 q7b7_114_1_12 15 hHeld ?_
      refine ar1 13 q7b7_114_1_13 fun K hK => ?_
      go_simp
      refine Calls.mono (hCi _ hHeld) ?_
      rintro e w1 ⟨rfl, hx1⟩
      go_wp2_with fail
      refine hK.out _ _ (bthen hHeld hx1) (fun hHeld => ?_)
      clear hK K
      try simp only[Act.put,sa,s0,s1]
      refine uq 14 q7b7_114_1_14 17 hHeld ?_
      refine uq 15 q7b7_114_1_15 18 hHeld ?_
      refine uq 16 q7b7_114_1_16 19 hHeld ?_
      refine uq 17 q7b7_114_1_17 20 hHeld ?_
      refine uq 18 q7b7_114_1_18 21 hHeld ?_
      refine uq 19 q7b7_114_1_19 22 hHeld ?_
      refine ar1 20 q7b7_114_1_20 fun K hK => ?_
      go_simp
      refine Calls.mono (hCa _ hHeld) ?_
      rintro e w2 ⟨rfl, hx2⟩
      go_wp2_with fail
      refine hK.out _ _ (bthen hHeld hx2) (fun hHeld => ?_)
      clear hK K
      try simp only[Act.put,sa,s0,s1]
      refine uq 21 q7b7_114_1_21 24 hHeld ?_
      refine uq 22 q7b7_114_1_22 25 hHeld ?_
      refine uq 23 q7b7_114_1_23 26 hHeld ?_
      refine uq 24 q7b7_114_1_24 27 hHeld ?_
      refine uq 25 q7b7_114_1_25 28 hHeld ?_
      refine uq 26 q7b7_114_1_26 29 hHeld ?_
      refine ar1 27 q7b7_114_1_27 fun K hK => ?_
      go_simp
      refine Calls.mono (hCb _ hHeld) ?_
      rintro e w3 ⟨rfl, hx3⟩
      go_wp2_with fail
      refine hK.out _ _ (bthen hHeld hx3) (fun hHeld => ?_)
      clear hK K
      try simp only[Act.put,sa,s0,s1]
      refine uq 28 q7b7_114_1_28 31 hHeld ?_
      refine uq 29 q7b7_114_1_29 32 hHeld ?_
      refine uq 30 q7b7_114_1_30 33 hHeld ?_
      refine uq 33 q7b7_114_1_33 36 hHeld ?_
      refine uq 34 q7b7_114_1_34 37 hHeld ?_
      refine uq 35 q7b7_114_1_35 38 hHeld ?_
      refine ar1 31 q7b7_114_1_31 fun K hK => ?_
      go_simp
      refine Calls.mono (hCn _ hHeld) ?_
      rintro e w4 ⟨ar, cr, rfl, _, hx4⟩
      go_wp2_with fail
      refine hK.out _ _ (bthen hHeld hx4) (fun hHeld => ?_)
      clear hK K
      try simp only[Act.put,sa,s0,s1]
      refine uq 32 q7b7_114_1_32 35 hHeld ?_
      refine uq 36 q7b7_114_1_36 39 hHeld ?_
      refine uq 37 q7b7_114_1_37 40 hHeld ?_
      refine uq 38 q7b7_114_1_38 2 hHeld ?_
      refine wpAnyH_done (by kernel_rfl) ?_ _
      go_wp2_with fail
      go_ret
      have HD1 : Hid (decide (1 ≤ m.fNext) = true) := decide_eq_true h1
      have HD2 : Hid (decide (m.fNext ≤ 1000000) = true) := decide_eq_true h2
      refine ⟨?_, bthen hbW hHeld⟩
      rw [HV.out, HD1.out, HD2.out]
      simp
      rw [Bool.eq_iff_iff, beq_iff_eq, decide_eq_true_eq]
      omega
  ·have h2' : (m.fNext ≤ 1000000) = False := eq_false h2
   have HD2 := Hid.mk (decide_eq_false h2)
   refine wp_region_held_drew (S := fun W => Below wq.heap.size wq W) (by kernel_rfl) (Below.drew (Below.refl _ _)) (fun hHeld => ?_)
   refine uq 0 q7b7_114_1_0 3 hHeld ?_
   refine uq 1 q7b7_114_1_1 4 hHeld ?_
   refine uq 2 q7b7_114_1_2 5 hHeld ?_
   refine uq 3 q7b7_114_1_3 6 hHeld ?_
   refine uq 4 q7b7_114_1_4 7 hHeld ?_
   refine uq 5 q7b7_114_1_5 8 hHeld ?_
   refine uq 6 q7b7_114_1_6 9 hHeld ?_
   refine uq 7 q7b7_114_1_7 10 hHeld ?_
   refine uq 8 q7b7_114_1_8 11 hHeld ?_
   refine um 9 q7b7_114_1_9 12 hHeld ?_
   refine um 10 q7b7_114_1_10 13 hHeld ?_
   refine um 11 q7b7_114_1_11 14 hHeld ?_
   refine um 12 q7b7_114_1_12 15 hHeld ?_
   refine um 13 q7b7_114_1_13 16 hHeld ?_
   refine uq 14 q7b7_114_1_14 17 hHeld ?_
   refine uq 15 q7b7_114_1_15 18 hHeld ?_
   refine um 16 q7b7_114_1_16 19 hHeld ?_
   refine um 17 q7b7_114_1_17 20 hHeld ?_
   refine um 18 q7b7_114_1_18 21 hHeld ?_
   refine um 19 q7b7_114_1_19 22 hHeld ?_
   refine um 20 q7b7_114_1_20 23 hHeld ?_
   refine uq 21 q7b7_114_1_21 24 hHeld ?_
   refine uq 22 q7b7_114_1_22 25 hHeld ?_
   refine um 23 q7b7_114_1_23 26 hHeld ?_
   refine um 24 q7b7_114_1_24 27 hHeld ?_
   refine um 25 q7b7_114_1_25 28 hHeld ?_
   refine um 26 q7b7_114_1_26 29 hHeld ?_
   refine um 27 q7b7_114_1_27 30 hHeld ?_
   refine uq 28 q7b7_114_1_28 31 hHeld ?_
   refine uq 29 q7b7_114_1_29 32 hHeld ?_
   refine um 30 q7b7_114_1_30 33 hHeld ?_
   refine um 31 q7b7_114_1_31 34 hHeld ?_
   refine um 32 q7b7_114_1_32 35 hHeld ?_
   refine um 33 q7b7_114_1_33 36 hHeld ?_
   refine um 34 q7b7_114_1_34 37 hHeld ?_
   refine um 35 q7b7_114_1_35 38 hHeld ?_
   refine um 36 q7b7_114_1_36 39 hHeld ?_
   refine uq 37 q7b7_114_1_37 40 hHeld ?_
   refine uq 38 q7b7_114_1_38 2 hHeld ?_
   refine wpAnyH_done (by kernel_rfl) ?_ _
   go_wp2_with fail
   go_ret
   exact ⟨by rw [HV.out, HD2.out]; simp, bthen hbW hHeld⟩
 ·have h1' : (1 ≤ m.fNext) = False := eq_false h1
  have HD1 := Hid.mk (decide_eq_false h1)
  refine wp_region_held_drew (S := fun W => Below wq.heap.size wq W) (by kernel_rfl) (Below.drew (Below.refl _ _)) (fun hHeld => ?_)
  refine uq 0 q7b7_114_1_0 3 hHeld ?_
  refine uq 1 q7b7_114_1_1 4 hHeld ?_
  refine uq 2 q7b7_114_1_2 5 hHeld ?_
  refine uq 3 q7b7_114_1_3 6 hHeld ?_
  refine um 4 q7b7_114_1_4 7 hHeld ?_
  refine um 5 q7b7_114_1_5 8 hHeld ?_
  refine um 6 q7b7_114_1_6 9 hHeld ?_
  refine uq 7 q7b7_114_1_7 10 hHeld ?_
  refine uq 8 q7b7_114_1_8 11 hHeld ?_
  refine um 9 q7b7_114_1_9 12 hHeld ?_
  refine um 10 q7b7_114_1_10 13 hHeld ?_
  refine um 11 q7b7_114_1_11 14 hHeld ?_
  refine um 12 q7b7_114_1_12 15 hHeld ?_
  refine um 13 q7b7_114_1_13 16 hHeld ?_
  refine uq 14 q7b7_114_1_14 17 hHeld ?_
  refine uq 15 q7b7_114_1_15 18 hHeld ?_
  refine um 16 q7b7_114_1_16 19 hHeld ?_
  refine um 17 q7b7_114_1_17 20 hHeld ?_
  refine um 18 q7b7_114_1_18 21 hHeld ?_
  refine um 19 q7b7_114_1_19 22 hHeld ?_
  refine um 20 q7b7_114_1_20 23 hHeld ?_
  refine uq 21 q7b7_114_1_21 24 hHeld ?_
  refine uq 22 q7b7_114_1_22 25 hHeld ?_
  refine um 23 q7b7_114_1_23 26 hHeld ?_
  refine um 24 q7b7_114_1_24 27 hHeld ?_
  refine um 25 q7b7_114_1_25 28 hHeld ?_
  refine um 26 q7b7_114_1_26 29 hHeld ?_
  refine um 27 q7b7_114_1_27 30 hHeld ?_
  refine uq 28 q7b7_114_1_28 31 hHeld ?_
  refine uq 29 q7b7_114_1_29 32 hHeld ?_
  refine um 30 q7b7_114_1_30 33 hHeld ?_
  refine um 31 q7b7_114_1_31 34 hHeld ?_
  refine um 32 q7b7_114_1_32 35 hHeld ?_
  refine um 33 q7b7_114_1_33 36 hHeld ?_
  refine um 34 q7b7_114_1_34 37 hHeld ?_
  refine um 35 q7b7_114_1_35 38 hHeld ?_
  refine um 36 q7b7_114_1_36 39 hHeld ?_
  refine uq 37 q7b7_114_1_37 40 hHeld ?_
  refine uq 38 q7b7_114_1_38 2 hHeld ?_
  refine wpAnyH_done (by kernel_rfl) ?_ _
  go_wp2_with fail
  go_ret
  exact ⟨by rw [HV.out, HD1.out]; simp, bthen hbW hHeld⟩
theorem implDiskOk_b (cs : List Value) (m : MDisk) (w : World) (hr : rDisk w.heap.size w cs m) (hw : wDisk m ≤ 16777216) :
  Calls Tryz.prog 114 #[.agg cs.toArray] w fun e w' => e = .returned (.bool (diskOk m)) ∧ Below w.heap.size w w' := by
 rw [← implOk_eq]
 exact implDiskOk_any cs m w hr hw
theorem implDiskOk_c (cs : List Value) (m : MDisk) (w : World) (hr : rDisk w.heap.size w cs m) (hw : wDisk m ≤ 1048576) :
  Calls Tryz.prog 114 #[.agg cs.toArray] w fun e w' => e = .returned (.bool (diskOk m)) ∧ Below w.heap.size w w' :=
 implDiskOk_b cs m w hr (by omega)
def fullD (m n : MDisk) : MDisk := if diskOk n then n else m
def fullC (n : MDisk) : Int := if diskOk n then 0 else 4
set_option maxHeartbeats 4000000 in
theorem orFull_any (cs : List Value) (b0 b1 b2 : Option Addr) (d0 d1 d2 : Nat) (m n : MDisk) (F : List Nat) (w : World) (hr : rDisk w.heap.size w cs m) (hw : wDisk m ≤ 1048576) (ho : oDisk w [.slice b0 n.fInodes.length d0, .slice b1 n.fNames.length d1, .slice b2 n.fSafe.length d2, .int .i64 n.fNext] n F) (hN : F.Nodup) (hwn : wDisk n ≤ 16777216) :
  Calls Tryz.prog 101 #[.agg cs.toArray, .agg #[.slice b0 n.fInodes.length d0, .slice b1 n.fNames.length d1, .slice b2 n.fSafe.length d2, .int .i64 n.fNext]] w fun e w' => ∃ (cs' : List Value) (F' : List Nat), e = .returned (.tuple #[.agg cs'.toArray, .int .i64 (fullC n)]) ∧ oDisk w' cs' (fullD m n) F' ∧ F'.Nodup ∧ (∀ b, b ∈ F' → b ∈ F ∨ w.heap.size ≤ b) ∧ Below w.heap.size w w' := by
 have hq := hr
 obtain ⟨a0, c0, a1, c1, a2, c2, rfl, hI, hNm, hSf, hnx, _⟩ := hq
 have hw2 : m.fInodes.length + sumW wInode m.fInodes + (m.fNames.length + sumW wEntry m.fNames) + (m.fSafe.length + sumW wEntry m.fSafe) ≤ 1048576 := hw
 have HW := Hid.mk hw
 have HR := Hid.mk hr
 clear hr hI hNm hSf hw
 have HO := Hid.mk ho
 have HN := Hid.mk hN
 clear ho hN
 go_enter Tryz.func101, Tryz.ntmps101
 go_wp2_with fail
 obtain ⟨wq, hwq⟩ : ∃ wq, wq = (((w.alloc (.cells #[.slice a0 m.fInodes.length c0, .slice a1 m.fNames.length c1, .slice a2 m.fSafe.length c2, .int .i64 m.fNext] 34)).alloc (.cells #[.slice b0 n.fInodes.length d0, .slice b1 n.fNames.length d1, .slice b2 n.fSafe.length d2, .int .i64 n.fNext] 34)).alloc (.cells #[.slice none 0 0, .slice none 0 0, .slice none 0 0, .int .i64 0] 34)) := ⟨_, rfl⟩
 have hbW : Below w.heap.size w wq := by rw [hwq]; exact Below.alloc (Below.alloc (Below.alloc (Below.refl _ _) (by exact Nat.le_refl _) _) (by simp; try omega) _) (by simp; try omega) _
 have hbd : Bw wq (w.heap.size) 34 [.slice a0 m.fInodes.length c0, .slice a1 m.fNames.length c1, .slice a2 m.fSafe.length c2, .int .i64 m.fNext] := by rw [hwq]; exact Bw.alloc (Bw.alloc (Bw.new' _ _ _ (by simp)) _) _
 have hbn : Bw wq (w.heap.size + 1) 34 [.slice b0 n.fInodes.length d0, .slice b1 n.fNames.length d1, .slice b2 n.fSafe.length d2, .int .i64 n.fNext] := by rw [hwq]; exact Bw.alloc (Bw.new' _ _ _ (by simp)) _
 have hbr : Bw wq (w.heap.size + 2) 34 [.slice none 0 0, .slice none 0 0, .slice none 0 0, .int .i64 0] := by rw [hwq]; exact Bw.new' _ _ _ (by simp)
 rw [← hwq]
 clear hwq
 have hq0 := hbW.size
 refine (implDiskOk_b [.slice b0 n.fInodes.length d0, .slice b1 n.fNames.length d1, .slice b2 n.fSafe.length d2, .int .i64 n.fNext] n wq (rDisk_good.mono (rDisk_good.below (oDisk_good.read HO.out) hbW) hbW.size) hwn).mono ?_
 rintro e w1 ⟨rfl, hx1⟩
 have hb1 := bthen hbW hx1
 have hbd1 := hbd.under hx1
 have hbn1 := hbn.under hx1
 have hbr1 := hbr.under hx1
 have hl1 := hbn1.lt
 have hl2 := hbr1.lt
 have hl3 := hbd1.lt
 clear hbd hbn hbr
 by_cases hK : diskOk n = true
 ·have HV : Hid (fullD m n = n ∧ fullC n = 0) := by refine ⟨?_, ?_⟩ <;> simp [fullD, fullC, hK]
  rw [hK]
  clear hK
  obtain ⟨y0, y1, y2, y3⟩ := hbn1.c4
  obtain ⟨ze0, ze1, ze2, ze3⟩ := hbr1.c4
  obtain ⟨zf0, zf1, zf2, zf3⟩ := hbr1.f4
  have hkey : ∀ W', Turn [w.heap.size + 2] w1 W' → oDisk W' [.slice b0 n.fInodes.length d0, .slice b1 n.fNames.length d1, .slice b2 n.fSafe.length d2, .int .i64 n.fNext] n F ∧ Below w.heap.size w W' := fun W' hT => by
   have hBf : Below w.heap.size w W' := hb1.trans (hT.below (fun k hk => by simp at hk; omega) hb1.size)
   exact ⟨oDisk_good.frame HO.out (fun b hb => hBf.block b (oDisk_good.lt HO.out b hb)), hBf⟩
  have HKEY := Hid.mk hkey
  clear hkey
  go_wp2_with fail
  obtain ⟨h1, h3⟩ := HKEY.out _ (show Turn [w.heap.size + 2] w1 ((((w1.setCell ⟨w.heap.size + 2, 0, none⟩ (.slice b0 n.fInodes.length d0)).setCell ⟨w.heap.size + 2, 1, none⟩ (.slice b1 n.fNames.length d1)).setCell ⟨w.heap.size + 2, 2, none⟩ (.slice b2 n.fSafe.length d2)).setCell ⟨w.heap.size + 2, 3, none⟩ (.int .i64 n.fNext)) from turn4 _ _ _ _ _ _)
  exact bodyPost_ret (v := .tuple #[.agg #[.slice b0 n.fInodes.length d0, .slice b1 n.fNames.length d1, .slice b2 n.fSafe.length d2, .int .i64 n.fNext], .int .i64 0]) (by simp [results, Tryz.results101, go_sem, *]) rfl ⟨[.slice b0 n.fInodes.length d0, .slice b1 n.fNames.length d1, .slice b2 n.fSafe.length d2, .int .i64 n.fNext], F, by rw [HV.out.2], by rw [HV.out.1]; exact h1, HN.out, fun b hb => .inl hb, h3⟩
 ·have hK2 : diskOk n = false := Bool.eq_false_iff.2 hK
  have HV : Hid (fullD m n = m ∧ fullC n = 4) := by refine ⟨?_, ?_⟩ <;> simp [fullD, fullC, hK2]
  rw [hK2]
  clear hK hK2
  obtain ⟨y0, y1, y2, y3⟩ := hbd1.c4
  go_wp2_with fail
  refine (copyDisk_any _ m w1 (rDisk_good.mono (rDisk_good.below HR.out hb1) hb1.size) HW.out).mono ?_
  rintro e w3 ⟨cs3, F3, rfl, ho3, hN3, hge3, hx3⟩
  have hb3 := bthen hb1 hx3
  have hbr3 := hbr1.under hx3
  have hl5 := hbr3.lt
  obtain ⟨q0, p0, q1, p1, q2, p2, G0, G1, G2, rfl, _, _, _, _, rfl⟩ := oDisk_cells ho3
  have hkey : ∀ W', Turn [w.heap.size + 2] w3 W' → oDisk W' [.slice q0 m.fInodes.length p0, .slice q1 m.fNames.length p1, .slice q2 m.fSafe.length p2, .int .i64 m.fNext] m (G0 ++ G1 ++ G2 ++ []) ∧ Below w.heap.size w W' := fun W' hT =>
   ⟨oDisk_good.frame ho3 (fun b hb => hT.block b (oDisk_good.lt ho3 b hb) (fun h => by simp at h; have := hge3 b hb; omega)), hb3.trans (hT.below (fun k hk => by simp at hk; omega) hb3.size)⟩
  have HKEY := Hid.mk hkey
  have HGE := Hid.mk hge3
  have HN3 := Hid.mk hN3
  clear hkey ho3 hN3 hge3 y0 y1 y2 y3
  obtain ⟨ze0, ze1, ze2, ze3⟩ := hbr3.c4
  obtain ⟨zf0, zf1, zf2, zf3⟩ := hbr3.f4
  go_wp2_with fail
  obtain ⟨h1, h3⟩ := HKEY.out _ (show Turn [w.heap.size + 2] w3 ((((w3.setCell ⟨w.heap.size + 2, 0, none⟩ (.slice q0 m.fInodes.length p0)).setCell ⟨w.heap.size + 2, 1, none⟩ (.slice q1 m.fNames.length p1)).setCell ⟨w.heap.size + 2, 2, none⟩ (.slice q2 m.fSafe.length p2)).setCell ⟨w.heap.size + 2, 3, none⟩ (.int .i64 m.fNext)) from turn4 _ _ _ _ _ _)
  exact bodyPost_ret (v := .tuple #[.agg #[.slice q0 m.fInodes.length p0, .slice q1 m.fNames.length p1, .slice q2 m.fSafe.length p2, .int .i64 m.fNext], .int .i64 4]) (by simp [results, Tryz.results101, go_sem, *]) rfl ⟨[.slice q0 m.fInodes.length p0, .slice q1 m.fNames.length p1, .slice q2 m.fSafe.length p2, .int .i64 m.fNext], _, by rw [HV.out.2], by rw [HV.out.1]; exact h1, HN3.out, fun b hb => .inr (by have := HGE.out b hb; have := hb1.size; omega), h3⟩
end Go.Proofs.YtddejboifpepcaaGreatDoor

namespace Go.Proofs.YtddejboifpepcaaGreatDoor
open Go.Proofs Go.Shelf
def sortEnt_ren : Go.Shelf.Ren := ⟨fun | 6 => 131 | 15 => 145 | 14 => 144 | 28 => 161 | 29 => 149 | 20 => 153 | 21 => 154 | 22 => 155 | 23 => 156 | 24 => 157 | 25 => 158 | 26 => 159 | 27 => 160 | 46 => 164 | 47 => 165 | 48 => 166 | 49 => 167 | 50 => 168 | 57 => 169 | n => n, fun | 22 => 32 | 24 => 101 | 25 => 157 | 3 => 3 | 39 => 126 | 0 => 0 | 53 => 177 | 55 => 163 | 4 => 4 | 46 => 181 | 45 => 180 | 50 => 122 | 5 => 5 | 9 => 9 | 66 => 187 | 70 => 191 | 76 => 195 | 77 => 129 | n => n, fun | n => n⟩
theorem sortEnt : Go.Proofs.SlLaysF0.n6 Tryz.prog sortEnt_ren := {
 mixed := by kernel_rfl
 f6 := ⟨Tryz.f131.name, by decide, Tryz.func131.trans (congrArg some (by kernel_rfl))⟩
 f14 := ⟨Tryz.f144.name, by decide, Tryz.func144.trans (congrArg some (by kernel_rfl))⟩
 f15 := Tryz.func145.trans (congrArg some (by kernel_rfl))
 f20 := ⟨Tryz.f153.name, by decide, Tryz.func153.trans (congrArg some (by kernel_rfl))⟩
 f21 := ⟨Tryz.f154.name, by decide, Tryz.func154.trans (congrArg some (by kernel_rfl))⟩
 f22 := ⟨Tryz.f155.name, by decide, Tryz.func155.trans (congrArg some (by kernel_rfl))⟩
 f23 := ⟨Tryz.f156.name, by decide, Tryz.func156.trans (congrArg some (by kernel_rfl))⟩
 f24 := ⟨Tryz.f157.name, by decide, Tryz.func157.trans (congrArg some (by kernel_rfl))⟩
 f25 := ⟨Tryz.f158.name, by decide, Tryz.func158.trans (congrArg some (by kernel_rfl))⟩
 f26 := ⟨Tryz.f159.name, by decide, Tryz.func159.trans (congrArg some (by kernel_rfl))⟩
 f27 := ⟨Tryz.f160.name, by decide, Tryz.func160.trans (congrArg some (by kernel_rfl))⟩
 f28 := Tryz.func161.trans (congrArg some (by kernel_rfl))
 f29 := Tryz.func149.trans (congrArg some (by kernel_rfl))
 f46 := ⟨Tryz.f164.name, by decide, Tryz.func164.trans (congrArg some (by kernel_rfl))⟩
 f47 := Tryz.func165.trans (congrArg some (by kernel_rfl))
 f48 := Tryz.func166.trans (congrArg some (by kernel_rfl))
 f49 := ⟨Tryz.f167.name, by decide, Tryz.func167.trans (congrArg some (by kernel_rfl))⟩
 f50 := ⟨Tryz.f168.name, by decide, Tryz.func168.trans (congrArg some (by kernel_rfl))⟩
 f57 := ⟨Tryz.f169.name, by decide, Tryz.func169.trans (congrArg some (by kernel_rfl))⟩
 t0 := Tryz.underlying0
 a0 := Tryz.isAgg0
 z0 := Tryz.sizeOf0
 v0 := Tryz.zeroValue0
 t3 := Tryz.underlying3
 a3 := Tryz.isAgg3
 z3 := Tryz.sizeOf3
 v3 := Tryz.zeroValue3
 t4 := Tryz.underlying4
 a4 := Tryz.isAgg4
 z4 := Tryz.sizeOf4
 v4 := Tryz.zeroValue4
 t5 := Tryz.underlying5
 a5 := Tryz.isAgg5
 z5 := Tryz.sizeOf5
 v5 := Tryz.zeroValue5
 t9 := Tryz.underlying9
 a9 := Tryz.isAgg9
 z9 := Tryz.sizeOf9
 v9 := Tryz.zeroValue9
 t22 := Tryz.underlying32
 a22 := Tryz.isAgg32
 z22 := Tryz.sizeOf32
 v22 := Tryz.zeroValue32
 t25 := Tryz.underlying157
 a25 := Tryz.isAgg157
 z25 := Tryz.sizeOf157
 v25 := Tryz.zeroValue157
 t39 := Tryz.underlying126
 a39 := Tryz.isAgg126
 z39 := Tryz.sizeOf126
 v39 := Tryz.zeroValue126
 t45 := Tryz.underlying180
 a45 := Tryz.isAgg180
 z45 := Tryz.sizeOf180
 v45 := Tryz.zeroValue180
 t46 := Tryz.underlying181
 a46 := Tryz.isAgg181
 z46 := Tryz.sizeOf181
 v46 := Tryz.zeroValue181
 t50 := Tryz.underlying122
 a50 := Tryz.isAgg122
 z50 := Tryz.sizeOf122
 v50 := Tryz.zeroValue122
 t53 := Tryz.underlying177
 a53 := Tryz.isAgg177
 z53 := Tryz.sizeOf177
 v53 := Tryz.zeroValue177
 t55 := Tryz.underlying163
 a55 := Tryz.isAgg163
 z55 := Tryz.sizeOf163
 v55 := Tryz.zeroValue163
 t66 := Tryz.underlying187
 a66 := Tryz.isAgg187
 z66 := Tryz.sizeOf187
 v66 := Tryz.zeroValue187
 t70 := Tryz.underlying191
 a70 := Tryz.isAgg191
 z70 := Tryz.sizeOf191
 v70 := Tryz.zeroValue191
 t76 := Tryz.underlying195
 a76 := Tryz.isAgg195
 z76 := Tryz.sizeOf195
 v76 := Tryz.zeroValue195
 t77 := Tryz.underlying129
 a77 := Tryz.isAgg129
 z77 := Tryz.sizeOf129
 v77 := Tryz.zeroValue129 }
end Go.Proofs.YtddejboifpepcaaGreatDoor

namespace Go.Proofs.YtddejboifpepcaaGreatDoor
open Go.RowKit Go.Maps
theorem lawStr : Keyed Tryz.prog 9 := string_keyed Tryz.underlying9
theorem keyStr {s : ByteArray} (h : s.size ≤ 9223372036854775807) : keyOf Tryz.prog 9 (.string s) = some (kS s) := WideMaps.keyOf_string_mk Tryz.underlying9 (by simpa [maxLen] using h)
set_option maxHeartbeats 1000000 in
theorem nameMap_any (a : Option Addr) (n cap : Nat) (l : List MEntry) (w : World) (hx : l.length = n) (hl : LeafL 2 rEntry w.heap.size w a cap l) (hn : n ≤ 1048576) :
  Calls Tryz.prog 99 #[.slice a n cap] w fun e w' => ∃ D : DataW Unit, e = .returned (.map (some w.heap.size)) ∧ w'.ownsMap Tryz.prog 9 (plainElem Tryz.prog 3) w.heap.size n D ∧ NMap D l n ∧ Below w.heap.size w w' := by
 have HX := Hid.mk hx
 have HRS := Hid.mk hl.2.2
 clear hx hl
 have hmm := @run_makeMap Tryz.prog
 go_enter Tryz.func99, Tryz.ntmps99
 go_wp2_with fail
 go_loopw [9] (fun i wr => ∃ (k : Nat) (D : DataW Unit), k ≤ n ∧ i = .int .i64 k ∧ wr.ownsMap Tryz.prog 9 (plainElem Tryz.prog 3) w.heap.size k D ∧ NMap D l k ∧ Below w.heap.size w wr) (fun i _ => n - (intOf i).toNat)
 case atStart => exact ⟨0, .map [], Nat.zero_le _, rfl, World.ownsMap_made _ _ _ _, NMap.start _, (Below.refl _ _).alloc (Nat.le_refl _) _⟩
 case round =>
  obtain ⟨k, D, hk, rfl, hown, hU, hbk⟩ := hrel
  have HU := Hid.mk hU
  clear hU hmm
  by_cases hlt : k < n
  ·have hkl : k < l.length := by rw [HX.out]; exact hlt
   obtain ⟨b1, o1, rfl, hB, cs, hcl, hcell, rfl, hsz, hwf, _⟩ := (HRS.out.below rEntry_good hbk) k hkl
   have k0 := hcell 0 _ rfl
   have k1 := hcell 1 _ rfl
   rw [Nat.add_zero] at k0
   clear hcell hcl
   have hkey := keyStr hsz
   have HU' := Hid.mk (HU.out.put hkl)
   generalize l[k].fName = nm at *
   generalize l[k].fId = id at *
   have hmz := ownsMap_lt hown
   have hown0 := ownsMap_below hown ((Below.refl _ _).alloc (Nat.le_refl _) (.cells #[.string nm, .int .i64 id] 101))
   go_wp2_with (at_mapUpdate; refine wpList_mapUpdate_own _ rfl _ _ _ 120 rfl 9 3 lawStr Tryz.underlying120 _ w.heap.size k _ rfl hown0 (by unfold maxLen; omega) _ _ _ rfl rfl hkey _ [] (plainElem_int Tryz.underlying3 hwf) ?_; intro w3 hown3 hgrow3)
   have hT : Turn [w.heap.size] wr w3 := Turn.after ((Below.refl _ _).alloc (Nat.le_refl _) _) (Turn.ofGrown hgrow3 (fun k hk => by cases hk; simp))
   go_roundw
   case rel => exact ⟨k + 1, _, by omega, by go_num, hown3, HU'.out, Turn.under hbk hT (fun k hk => by simp at hk; omega)⟩
   case measure => simp [intOf]; omega
  ·have hkn : k = n := by omega
   subst hkn
   go_wp2_with fail
   go_ret
   exact ⟨D, rfl, hown, HU.out, hbk⟩
set_option maxHeartbeats 1000000 in
theorem formOk1_any (cs : List Value) (m : MDisk) (a : Option Addr) (c : Nat) (s : ByteArray) (w : World) (hr : rDisk w.heap.size w cs m) (hw : wDisk m ≤ 1048576) (hs : s.size ≤ 9223372036854775807) (ha : ∃ b, a = some ⟨b, 0, none⟩ ∧ b < w.heap.size ∧ w.cell? ⟨b, 0, none⟩ = some (.string s)) :
  Calls Tryz.prog 98 #[.agg cs.toArray, .slice a 1 c] w fun e w' => e = .returned (.bool (diskOk m && nameOk s)) ∧ Below w.heap.size w w' := by
 have hq := hr
 obtain ⟨a0, c0, a1, c1, a2, c2, rfl, _⟩ := hq
 obtain ⟨b, rfl, hbl, hcs⟩ := ha
 have HW := Hid.mk hw
 have HR := Hid.mk hr
 clear hr hw
 have hCd := fun W (hb : Below w.heap.size w W) => implDiskOk_c _ m W (rDisk_good.mono (rDisk_good.below HR.out hb) hb.size) HW.out
 have hbA := (Below.refl w.heap.size w).alloc (Nat.le_refl _) (.cells #[.slice a0 m.fInodes.length c0, .slice a1 m.fNames.length c1, .slice a2 m.fSafe.length c2, .int .i64 m.fNext] 34)
 go_enter Tryz.func98, Tryz.ntmps98
 go_wp2_with fail
 refine wp_loop_rounds 2 ?_
 rw [rounds_succ]
 go_wp2_with fail
 refine (implNameOk_any s _ hs).mono ?_
 rintro e w1 ⟨rfl, hx1⟩
 have hb1 := bthen hbA hx1
 have hbx := (Bx.new w [.slice a0 m.fInodes.length c0, .slice a1 m.fNames.length c1, .slice a2 m.fSafe.length c2, .int .i64 m.fNext] 34).under hx1
 have y0 := hbx.2 0 _ rfl
 have y1 := hbx.2 1 _ rfl
 have y2 := hbx.2 2 _ rfl
 have y3 := hbx.2 3 _ rfl
 by_cases hN : nameOk s = true
 ·rw [hN]
  go_wp2_with fail
  rw [rounds_succ]
  go_wp2_with fail
  refine Calls.mono (hCd _ hb1) ?_
  rintro e w2 ⟨rfl, hx2⟩
  go_wp2_with fail
  go_ret
  exact ⟨by rw [hN, Bool.and_true]; rfl, bthen hb1 hx2⟩
 ·have hN2 : nameOk s = false := Bool.eq_false_iff.2 hN
  rw [hN2]
  go_wp2_with fail
  go_ret
  exact ⟨by rw [hN2, Bool.and_false]; rfl, hb1⟩
set_option maxHeartbeats 1000000 in
theorem findFile_any (cs : List Value) (m : MDisk) (s : ByteArray) (w : World) (hr : rDisk w.heap.size w cs m) (hw : wDisk m ≤ 1048576) (hs : s.size ≤ 9223372036854775807) :
  Calls Tryz.prog 113 #[.agg cs.toArray, .string s] w fun e w' => ∃ p : Nat, e = .returned (.tuple #[.int .i64 p, .int .i64 (callP m s)]) ∧ (callP m s = 0 → ∃ h : p < m.fInodes.length, m.fInodes[p].fId = idOf m.fNames s) ∧ Below w.heap.size w w' := by
 have hq := hr
 obtain ⟨a0, c0, a1, c1, a2, c2, rfl, hI, hNm, hSf, hnx, _⟩ := hq
 have hw2 : m.fInodes.length + sumW wInode m.fInodes + (m.fNames.length + sumW wEntry m.fNames) + (m.fSafe.length + sumW wEntry m.fSafe) ≤ 1048576 := hw
 have HW := Hid.mk hw
 have HR := Hid.mk hr
 have HI := Hid.mk hI
 have HNL := Hid.mk hNm
 clear hr hI hNm hSf hw
 have hbA := (Below.refl w.heap.size w).alloc (Nat.le_refl _) (.cells #[.slice a0 m.fInodes.length c0, .slice a1 m.fNames.length c1, .slice a2 m.fSafe.length c2, .int .i64 m.fNext] 34)
 have hbB := hbA.alloc (by simp) (.cells #[.string s] 9)
 go_enter Tryz.func113, Tryz.ntmps113
 go_wp2_with fail
 refine (formOk1_any _ m _ 1 s _ (rDisk_good.mono (rDisk_good.below HR.out hbB) hbB.size) HW.out hs ⟨w.heap.size + 1, rfl, by simp, by simp⟩).mono ?_
 rintro e w1 ⟨rfl, hx1⟩
 have hb1 := bthen hbB hx1
 have hbx := ((Bx.new w [.slice a0 m.fInodes.length c0, .slice a1 m.fNames.length c1, .slice a2 m.fSafe.length c2, .int .i64 m.fNext] 34).alloc (.cells #[.string s] 9)).under hx1
 have y0 := hbx.2 0 _ rfl
 have y1 := hbx.2 1 _ rfl
 by_cases hF : (diskOk m && nameOk s) = true
 ·rw [hF]
  have hF2 := hF
  rw [Bool.and_eq_true] at hF2
  obtain ⟨q1, q2, _⟩ := diskOk_parts hF2.1
  have HSO := Hid.mk (okI_sorted q1)
  have HNO := Hid.mk (fun i j hi hj he => names_once (okE_names q2).2 (i := i) (j := j) hi hj he)
  have HOK := Hid.mk hF2.1
  clear q1 q2 hF2
  go_wp2_with fail
  refine (nameMap_any a1 _ c1 m.fNames w1 rfl (LeafL.mono rEntry_good (HNL.out.below rEntry_good hb1) hb1.size) (by omega)).mono ?_
  rintro e w2 ⟨D, rfl, hown, hNM, hx2⟩
  have HNM := Hid.mk hNM
  clear hNM
  have hb2 := bthen hb1 hx2
  have hbx2 := hbx.under hx2
  have z0 := hbx2.2 0 _ rfl
  by_cases hH : hasName m.fNames s = true
  ·have HV : Hid (callP m s = 0) := by show callP m s = 0; unfold callP; rw [hF, if_pos rfl, if_pos hH]
   obtain ⟨hk, hid, hhas⟩ := file_there HOK.out hH
   obtain ⟨_, hnm⟩ := hasName_at hH
   have hhs : Maps.has D (kS s) = true := (HNM.out.2 s).1.2 ⟨_, hk, hk, hnm⟩
   have HC : Hid (D.atKey (kS s) (.lit (.int .i64 0)) = .lit (.int .i64 (idOf m.fNames s))) := by
    obtain ⟨j, hj, _, he, ha⟩ := (HNM.out.2 s).2 hhs
    have : j = nameAt m.fNames s := HNO.out j _ hj hk (he.trans hnm.symm)
    subst this
    show D.atKey _ _ = _
    rw [ha, hid]
   have HHas := Hid.mk hhas
   clear hF hH hk hid hhas hnm
   go_wp2_with (at_lookup; refine wpList_lookup_own_ok_int _ rfl _ _ 120 rfl 9 3 .i64 lawStr Tryz.underlying120 Tryz.underlying3 (zeroInt _) w1.heap.size m.fNames.length D rfl hown _ _ rfl (keyStr hs) ?_; intro c hat hwc)
   have hce : c = idOf m.fNames s := by
    rw [HC.out] at hat
    simp only [DataW.lit.injEq, Lit.int.injEq, true_and] at hat
    exact hat.symm
   subst hce
   refine (inodePlace_any a0 c0 m.fInodes (idOf m.fNames s) w2 (LeafL.mono rInode_good (HI.out.below rInode_good hb2) hb2.size) (by omega) HSO.out).mono ?_
   rintro e w3 ⟨p, rfl, hp, hx3⟩
   have HP := Hid.mk (hp HHas.out)
   rw [HHas.out]
   clear hp
   go_wp2_with fail
   refine bodyPost_ret (v := .tuple #[.int .i64 p, .int .i64 0]) (by simp [results, Tryz.results113, go_sem, *]) rfl ⟨p, by rw [HV.out], fun _ => HP.out, bthen hb2 hx3⟩
  ·have HV : Hid (callP m s = 2) := by show callP m s = 2; unfold callP; rw [hF, if_pos rfl, if_neg hH]
   have hhs : Maps.has D (kS s) = false := by
    rw [Bool.eq_false_iff]
    intro h
    obtain ⟨j, hj, _, he⟩ := (HNM.out.2 s).1.1 h
    exact hH (hasName_yes hj he)
   go_wp2_with (at_lookup; refine wpList_lookup_own_ok_int _ rfl _ _ 120 rfl 9 3 .i64 lawStr Tryz.underlying120 Tryz.underlying3 (zeroInt _) w1.heap.size m.fNames.length D rfl hown _ _ rfl (keyStr hs) ?_; intro c hat hwc)
   refine bodyPost_ret (v := .tuple #[.int .i64 0, .int .i64 2]) (by simp [results, Tryz.results113, go_sem, *]) rfl ⟨0, by rw [HV.out]; rfl, (fun h => by rw [HV.out] at h; cases h), hb2⟩
 ·have hF2 : (diskOk m && nameOk s) = false := Bool.eq_false_iff.2 hF
  have HV : Hid (callP m s = 1) := by show callP m s = 1; unfold callP; rw [hF2]; rfl
  rw [hF2]
  go_wp2_with fail
  refine bodyPost_ret (v := .tuple #[.int .i64 0, .int .i64 1]) (by simp [results, Tryz.results113, go_sem, *]) rfl ⟨0, by rw [HV.out]; rfl, (fun h => by rw [HV.out] at h; cases h), hb1⟩
end Go.Proofs.YtddejboifpepcaaGreatDoor

namespace Go.Proofs.YtddejboifpepcaaGreatDoor
open Go.RowKit Go.Maps Go.Shelf Go.Lib Go.Sort
def encE (e : MEntry) : List Value := [.string e.fName, .int .i64 e.fId]
def cmpN (a b : ByteArray) : Int := if strLt a b then -1 else if strLt b a then 1 else 0
def cmpE (a b : MEntry) : Int := cmpN a.fName b.fName
theorem ltOfE (a b : MEntry) : ltOf cmpE a b = strLt a.fName b.fName := by
 unfold ltOf cmpE cmpN
 by_cases h : strLt a.fName b.fName = true
 ·simp [h]
 ·simp only [h]
  by_cases h2 : strLt b.fName a.fName = true
  ·simp [h2]
  ·simp [h2]
@[reducible] def inhE : Inhabited MEntry := ⟨⟨ByteArray.empty, 0⟩⟩
theorem swoE : SWO (ltOf cmpE) where
 irrefl x := by rw [ltOfE]; exact strLt_irrefl _
 trans x y z h1 h2 := by rw [ltOfE] at *; exact strLt_trans h1 h2
 ntrans x y z h1 h2 := by
  rw [ltOfE] at *
  by_cases hxy : x.fName = y.fName
  ·rw [hxy]; exact h2
  ·have h3 := strLt_tri h1 hxy
   by_cases hyz : y.fName = z.fName
   ·rw [← hyz]; exact h1
   ·exact strLt_asymm (strLt_trans (strLt_tri h2 hyz) h3)
set_option maxHeartbeats 1000000 in
theorem compareStr_any (a b : ByteArray) (w : World) :
  Calls Tryz.prog 133 #[.string a, .string b] w fun e w' => e = .returned (.int .i64 (cmpN a b)) ∧ w' = w := by
 by_cases h1 : strLt a b = true
 ·have hv : cmpN a b = -1 := by unfold cmpN; rw [if_pos h1]
  rw [hv]
  obtain ⟨p1, p2, p3⟩ := strLt_facts h1
  clear hv h1
  go_enter Tryz.func133, Tryz.ntmps133
  go_wp2
  go_ret
  exact ⟨rfl, rfl⟩
 ·have h1' : strLt a b = false := Bool.eq_false_iff.2 h1
  by_cases h2 : strLt b a = true
  ·have hv : cmpN a b = 1 := by unfold cmpN; rw [if_neg h1, if_pos h2]
   rw [hv]
   obtain ⟨p1, p2, p3⟩ := strLt_facts h2
   clear hv h1 h2 h1'
   go_enter Tryz.func133, Tryz.ntmps133
   go_wp2
   go_ret
   exact ⟨rfl, rfl⟩
  ·have h2' : strLt b a = false := Bool.eq_false_iff.2 h2
   have hv : cmpN a b = 0 := by unfold cmpN; rw [if_neg h1, if_neg h2]
   rw [hv]
   have p1 : Op.bytesLess a.toList b.toList = false := h1'
   have p2 : Op.bytesLess b.toList a.toList = false := h2'
   have hab : a.toList = b.toList := by
    by_cases h : a.toList = b.toList
    ·exact h
    ·have := bl_total p1 h; rw [p2] at this; cases this
   have p3 : (a.toList == b.toList) = true := by rw [hab]; simp
   have p4 : (b.toList == a.toList) = true := by rw [hab]; simp
   clear hab hv h1 h2 h1' h2'
   go_enter Tryz.func133, Tryz.ntmps133
   go_wp2
   go_ret
   exact ⟨rfl, rfl⟩
set_option maxHeartbeats 1000000 in
theorem closureE (x y : MEntry) (w : World) : Calls Tryz.prog 132 #[.agg (encE x).toArray, .agg (encE y).toArray] w fun e w' => e = .returned (.int .i64 (cmpE x y)) ∧ ∃ q os', w' = grow (w.drewN q) os' := by
 have hcon := fun W' => compareStr_any x.fName y.fName W'
 have hv : cmpE x y = cmpN x.fName y.fName := rfl
 rw [hv]
 clear hv
 generalize cmpN x.fName y.fName = r at hcon ⊢
 unfold encE
 go_enter Tryz.func132, Tryz.ntmps132
 go_wp2_with (go_at_call 133; refine (hcon _).mono ?_; rintro e w' ⟨rfl, rfl⟩)
 go_ret
 exact ⟨rfl, 0, _, by rw [alloc_eq_grow, alloc_eq_grow, grow_grow]; rfl⟩
theorem isAggE (w : World) : (isAgg 101).run Tryz.prog w = .ok true w := by kernel_rfl
theorem sizeOfE (w : World) : (Go.sizeOf 101).run Tryz.prog w = .ok 2 w := by kernel_rfl
section
variable [Inhabited MEntry]
theorem cmpLaysE (blk off size : Nat) (w : World) : CmpLays Tryz.prog 132 #[] encE 2 cmpE blk off size w :=
 fun _ _ _ _ x y => closureE x y _
theorem sortE_any (blk cap : Nat) (d : Array MEntry) (w : World) (hH : HoldsK encE 2 w blk 0 d) (hblk : blk < w.heap.size) (hsz : d.size < 4611686018427387904) :
  Calls Tryz.prog 131 #[.slice (some ⟨blk, 0, none⟩) d.size cap, .func (.func 132) #[] #[]] w fun e w' => e = .returned (.tuple #[]) ∧ ∃ d' n os, PermIn 0 d.size d d' ∧ SortedIn (ltOf cmpE) 0 d.size d' ∧ w' = sortWorldK encE 2 w blk 0 n d' os := by
 have eg : ∀ args w, (callFunc 132 args).run Tryz.prog w = .ok (.enter 132 args) w := enters_of Tryz.func132 (by kernel_rfl) rfl
 exact AnyQ.slices_SortFunc sortEnt 2 isAggE sizeOfE encE (fun _ => rfl) (fun x v hv => by simp [encE] at hv; rcases hv with rfl | rfl <;> rfl) cmpE swoE 132 #[] blk 0 cap d w eg (cmpLaysE blk 0 d.size w) hH hblk hsz
end
end Go.Proofs.YtddejboifpepcaaGreatDoor

namespace Go.Proofs.YtddejboifpepcaaGreatDoor
open Go.RowKit
theorem own_lit0 (w : World) (base e size : Nat) (h : base ≤ w.heap.size) : (w.alloc (.cells #[] e)).ownsRow base e size (.slice (some ⟨w.heap.size, 0, none⟩) 0 0) 0 [] :=
 ⟨by simp, .inr ⟨w.heap.size, 0, #[], rfl, h, heap_alloc_new w _, by omega, by simp [maxLen], by simp, by simp⟩⟩
theorem lit_new {wq p : World} (e size : Nat) (h : wq.heap.size ≤ p.heap.size) : ∃ (x : World) (g : Nat), x = p.alloc (.cells #[] e) ∧ g = p.heap.size ∧ Below p.heap.size p x ∧ x.ownsRow wq.heap.size e size (.slice (some ⟨g, 0, none⟩) 0 0) 0 [] ∧ g < x.heap.size ∧ wq.heap.size ≤ g :=
 ⟨_, _, rfl, rfl, (Below.refl _ _).alloc (Nat.le_refl _) _, own_lit0 _ _ _ _ h, by simp, h⟩
theorem step_ents {P : Program} {w : World} {ops : Array Oper} {o : Oper} {a : Act} {K : Act → World → Prop} {Q : Exit → Act → World → Prop} {E : Prop} (hgd : o.guard = none) (s x : Operand) (t : TypeId)
  (ho : o.op = .call { callee := .builtin .append, args := #[s, x], argTypes := #[t, t] })
  {base : Nat} {e : TypeId} {i : TypeInfo} {z : Value} (ht : P.underlying t = some (.slice e)) (hi : P.info? e = some i) (hz : i.zero = some z)
  (hsize : i.size = 2) (hby : i.bytes = 24) (hzs : z.cells.size = 2)
  (g : Nat) (hs : a.eval s = .slice (some ⟨g, 0, none⟩) 0 0) (hown : w.ownsRow base e 2 (.slice (some ⟨g, 0, none⟩) 0 0) 0 [])
  {ao : Option Addr} {n c B : Nat} {l : List MEntry} (hy : a.eval x = .slice ao n c) (hn : l.length = n) (hr : RdS 2 rEntry B w ao l) (h63 : n ≤ 1048576) (hbase : base ≤ w.heap.size)
  (h : ∀ r q w', ownS 2 e oEntry w' (.slice r n q) l (Value.ownBlock (.slice r n q)).toList → Below w.heap.size w w' → (∀ j, j ∈ (Value.ownBlock (.slice r n q)).toList → (j = g ∨ j = w.heap.size) ∧ j < w'.heap.size) → K (a.put o.dst (.slice r n q)) w') :
  if Region.wanted o (yielded ops a.tmps) = true then Oper.wp P o a w K Q else E := by
 obtain ⟨css, sa, sb, sc, sd⟩ := Src.ents (P := P) (c := c) ht hn hr
 refine step_append_lit w hgd s x t t ho base e i z 2 24 ht hi hz hsize hby hzs g hs hown _ hy n css.flatten sd (by unfold maxLen; omega) (by omega) hbase ?_
 intro v w' hw hb hat
 obtain ⟨r, q, rfl⟩ := own_slice hw
 refine h r q w' (ownS_row hn sa sb sc hw) hb (fun j hj => ?_)
 have h1 := (hw.lt j (by simpa using hj)).2
 rcases hat with hh | hh <;> (rw [hh] at hj; simp at hj; subst hj; exact ⟨by simp, h1⟩)
theorem rowC {w : World} {g : Nat} {cs : Array Value} {t : TypeId} (h : w.heap[g]? = some (.cells cs t (0, 0))) (j : Nat) {v : Value} (hv : cs[j]? = some v) : w.cell? ⟨g, j, none⟩ = some v := by rw [cell_of_row _ _ _ _ _ (0, 0) h]; exact hv
theorem put4_row {w : World} {g : Nat} {t : TypeId} {y0 y1 y2 y3 : Value} (h : w.heap[g]? = some (.cells #[y0, y1, y2, y3] t (0, 0))) (x0 x1 x2 x3 : Value) :
  ∃ x, x = ((((w.setCell ⟨g, 0, none⟩ x0).setCell ⟨g, 1, none⟩ x1).setCell ⟨g, 2, none⟩ x2).setCell ⟨g, 3, none⟩ x3) ∧ x.heap[g]? = some (.cells #[x0, x1, x2, x3] t (0, 0)) ∧ Turn [g] w x :=
 ⟨_, rfl, heap_setCell_same _ g 3 _ _ _ (heap_setCell_same _ g 2 _ _ _ (heap_setCell_same _ g 1 _ _ _ (heap_setCell_same _ g 0 _ _ _ h))), Turn.setCell (Turn.setCell (Turn.setCell (Turn.setCell (Turn.refl _ _) (by simp) _) (by simp) _) (by simp) _) (by simp) _⟩
theorem copy_fin {B gb : Nat} {e : TypeId} {w3 w7 p x : World} {v3 v7 : Value} {l3 l7 : List MEntry} {F3 F7 : List Nat} (h3 : ownS 2 e oEntry w3 v3 l3 F3) (h7 : ownS 2 e oEntry w7 v7 l7 F7) (f3 : Below w3.heap.size w3 p) (f7 : Below w7.heap.size w7 p) (hT : Turn [gb] p x) (n3 : F3.Nodup) (n7 : F7.Nodup)
  (t3 : ∀ j, j ∈ F3 → B ≤ j ∧ j ≠ gb) (t7 : ∀ j, j ∈ F7 → B ≤ j ∧ j ≠ gb) (hd : ∀ a, a ∈ F3 → ∀ b, b ∈ F7 → a ≠ b) : ownS 2 e oEntry x v3 l3 F3 ∧ ownS 2 e oEntry x v7 l7 F7 ∧ (F3 ++ F7).Nodup ∧ ∀ b, b ∈ F3 ++ F7 → B ≤ b ∧ b ≠ gb := by
 refine ⟨ownS.frame oEntry_good h3 (fun b hb => ?_), ownS.frame oEntry_good h7 (fun b hb => ?_), List.nodup_append.2 ⟨n3, n7, hd⟩, fun b hb => ?_⟩
 ·have hl := ownS.lt oEntry_good h3 b hb
  exact (hT.block b (Nat.lt_of_lt_of_le hl f3.size) (by simpa using (t3 b hb).2)).trans (f3.block b hl)
 ·have hl := ownS.lt oEntry_good h7 b hb
  exact (hT.block b (Nat.lt_of_lt_of_le hl f7.size) (by simpa using (t7 b hb).2)).trans (f7.block b hl)
 ·rcases List.mem_append.1 hb with hb | hb
  ·exact t3 b hb
  ·exact t7 b hb
end Go.Proofs.YtddejboifpepcaaGreatDoor
