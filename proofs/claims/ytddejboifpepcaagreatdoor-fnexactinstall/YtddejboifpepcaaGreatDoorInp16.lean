/-
  Part 17 of the texts that the proof leans on.
-/
import Derived.Test.YtddejboifpepcaaGreatDoorInp3
import Derived.Test.YtddejboifpepcaaGreatDoorInp9
import Derived.Test.YtddejboifpepcaaGreatDoorInp1
import Derived.Deep.RegionHeld3
set_option linter.unusedVariables false
set_option linter.unusedSimpArgs false
set_option maxRecDepth 10000

namespace Go.Proofs.YtddejboifpepcaaGreatDoor
open Go.RowKit
abbrev q040_62_4_0 : Oper := ⟨some 13, .move (.tmp 1), 32, "l02_files.go:29", #[], none⟩
abbrev q040_62_4_1 : Oper := ⟨some 14, .move (.tmp 5), 3, "l02_files.go:29", #[], none⟩
abbrev q040_62_4_2 : Oper := ⟨some 15, .indexAddr 32 (.tmp 13) (.tmp 14), 0, "l02_files.go:29", #[⟨0, .data⟩, ⟨1, .data⟩], none⟩
abbrev q040_62_4_3 : Oper := ⟨some 16, .fieldAddr 101 (.tmp 15) 0, 0, "l02_files.go:29", #[⟨2, .data⟩], none⟩
abbrev q040_62_4_4 : Oper := ⟨some 17, .load 9 (.tmp 16), 9, "l02_files.go:29", #[⟨3, .data⟩], none⟩
abbrev q040_62_4_5 : Oper := ⟨some 18, .call { callee := .value (.func 70), args := #[.tmp 17], argTypes := #[9] }, 4, "l02_files.go:29", #[⟨4, .data⟩], none⟩
abbrev q040_62_4_6 : Oper := ⟨some 19, .unOp .not 4 (.tmp 18), 4, "l02_files.go:29", #[⟨5, .data⟩], none⟩
abbrev q040_62_4_7 : Oper := ⟨some 20, .move (.tmp 19), 4, "l02_files.go:29", #[⟨6, .data⟩, ⟨5, .chain⟩], none⟩
abbrev q040_62_4_8 : Oper := ⟨some 21, .load 34 (.tmp 2), 34, "l02_files.go:29", #[⟨7, .guard⟩], some (7, false)⟩
abbrev q040_62_4_9 : Oper := ⟨some 22, .move (.tmp 1), 32, "l02_files.go:29", #[⟨7, .guard⟩], some (7, false)⟩
abbrev q040_62_4_10 : Oper := ⟨some 23, .move (.tmp 5), 3, "l02_files.go:29", #[⟨7, .guard⟩], some (7, false)⟩
abbrev q040_62_4_11 : Oper := ⟨some 24, .indexAddr 32 (.tmp 22) (.tmp 23), 0, "l02_files.go:29", #[⟨9, .data⟩, ⟨10, .data⟩, ⟨7, .guard⟩], some (7, false)⟩
abbrev q040_62_4_12 : Oper := ⟨some 25, .fieldAddr 101 (.tmp 24) 1, 0, "l02_files.go:29", #[⟨11, .data⟩, ⟨7, .guard⟩], some (7, false)⟩
abbrev q040_62_4_13 : Oper := ⟨some 26, .load 3 (.tmp 25), 3, "l02_files.go:29", #[⟨12, .data⟩, ⟨7, .guard⟩], some (7, false)⟩
abbrev q040_62_4_14 : Oper := ⟨some 27, .call { callee := .value (.func 108), args := #[.tmp 21, .tmp 26], argTypes := #[34, 3] }, 3, "l02_files.go:29", #[⟨8, .data⟩, ⟨13, .data⟩, ⟨7, .chain⟩, ⟨7, .guard⟩], some (7, false)⟩
abbrev q040_62_4_15 : Oper := ⟨some 28, .binOp .lss 3 (.tmp 27) (.const (.int .i64 0)) 3, 4, "l02_files.go:29", #[⟨14, .data⟩, ⟨7, .guard⟩], some (7, false)⟩
abbrev q040_62_4_16 : Oper := ⟨some 29, .pick (.tmp 20) (.const (.bool true)) (.tmp 28), 4, "l02_files.go:29", #[⟨7, .data⟩, ⟨15, .data⟩], none⟩
abbrev q040_62_4_17 : Oper := ⟨some 30, .move (.tmp 29), 4, "l02_files.go:29", #[⟨16, .data⟩, ⟨14, .chain⟩], none⟩
abbrev q040_62_4_18 : Oper := ⟨some 31, .move (.tmp 5), 3, "l02_files.go:29", #[⟨17, .guard⟩], some (17, false)⟩
abbrev q040_62_4_19 : Oper := ⟨some 32, .binOp .gtr 3 (.tmp 31) (.const (.int .i64 0)) 3, 4, "l02_files.go:29", #[⟨18, .data⟩, ⟨17, .guard⟩], some (17, false)⟩
abbrev q040_62_4_20 : Oper := ⟨some 33, .move (.tmp 32), 4, "l02_files.go:29", #[⟨19, .data⟩, ⟨17, .chain⟩, ⟨17, .guard⟩], some (17, false)⟩
abbrev q040_62_4_21 : Oper := ⟨some 34, .move (.tmp 1), 32, "l02_files.go:29", #[⟨20, .guard⟩], some (20, true)⟩
abbrev q040_62_4_22 : Oper := ⟨some 35, .move (.tmp 5), 3, "l02_files.go:29", #[⟨20, .guard⟩], some (20, true)⟩
abbrev q040_62_4_23 : Oper := ⟨some 36, .binOp .sub 3 (.tmp 35) (.const (.int .i64 1)) 3, 3, "l02_files.go:29", #[⟨22, .data⟩, ⟨20, .guard⟩], some (20, true)⟩
abbrev q040_62_4_24 : Oper := ⟨some 37, .indexAddr 32 (.tmp 34) (.tmp 36), 0, "l02_files.go:29", #[⟨21, .data⟩, ⟨23, .data⟩, ⟨20, .guard⟩], some (20, true)⟩
abbrev q040_62_4_25 : Oper := ⟨some 38, .fieldAddr 101 (.tmp 37) 0, 0, "l02_files.go:29", #[⟨24, .data⟩, ⟨20, .guard⟩], some (20, true)⟩
abbrev q040_62_4_26 : Oper := ⟨some 39, .load 9 (.tmp 38), 9, "l02_files.go:29", #[⟨25, .data⟩, ⟨20, .guard⟩], some (20, true)⟩
abbrev q040_62_4_27 : Oper := ⟨some 40, .move (.tmp 1), 32, "l02_files.go:29", #[⟨20, .guard⟩], some (20, true)⟩
abbrev q040_62_4_28 : Oper := ⟨some 41, .move (.tmp 5), 3, "l02_files.go:29", #[⟨20, .guard⟩], some (20, true)⟩
abbrev q040_62_4_29 : Oper := ⟨some 42, .indexAddr 32 (.tmp 40) (.tmp 41), 0, "l02_files.go:29", #[⟨27, .data⟩, ⟨28, .data⟩, ⟨20, .guard⟩], some (20, true)⟩
abbrev q040_62_4_30 : Oper := ⟨some 43, .fieldAddr 101 (.tmp 42) 0, 0, "l02_files.go:29", #[⟨29, .data⟩, ⟨20, .guard⟩], some (20, true)⟩
abbrev q040_62_4_31 : Oper := ⟨some 44, .load 9 (.tmp 43), 9, "l02_files.go:29", #[⟨30, .data⟩, ⟨20, .guard⟩], some (20, true)⟩
abbrev q040_62_4_32 : Oper := ⟨some 45, .binOp .geq 9 (.tmp 39) (.tmp 44) 9, 4, "l02_files.go:29", #[⟨26, .data⟩, ⟨31, .data⟩, ⟨20, .guard⟩], some (20, true)⟩
abbrev q040_62_4_33 : Oper := ⟨some 46, .pick (.tmp 33) (.tmp 45) (.const (.bool false)), 4, "l02_files.go:29", #[⟨20, .data⟩, ⟨32, .data⟩, ⟨17, .guard⟩], some (17, false)⟩
abbrev q040_62_4_34 : Oper := ⟨some 47, .pick (.tmp 30) (.const (.bool true)) (.tmp 46), 4, "l02_files.go:29", #[⟨17, .data⟩, ⟨33, .data⟩], none⟩
theorem okE_no {ins : List MInode} {l : List MEntry} {k : Nat} (h : k < l.length) (hs : stepE ins (idsTo l k) (prevName l k) l[k] = false) : okE ins (idsTo l k) (prevName l k) (l.drop k) = false := by
 rw [okE_step h, hs]; rfl
theorem okE_yes {ins : List MInode} {l : List MEntry} {k : Nat} (h : k < l.length) (hs : stepE ins (idsTo l k) (prevName l k) l[k] = true) : okE ins (idsTo l k) (prevName l k) (l.drop k) = okE ins (idsTo l (k + 1)) (prevName l (k + 1)) (l.drop (k + 1)) := by
 rw [okE_step h, hs]; rfl
set_option maxHeartbeats 1000000 in
theorem l2Entries_any (cs : List Value) (m : MDisk) (a : Option Addr) (n cap : Nat) (l : List MEntry) (w : World) (hr : rDisk w.heap.size w cs m) (hm : m.fInodes.length ≤ 16777216) (hx : l.length = n) (hn : n ≤ 16777216) (hl : LeafL 2 rEntry w.heap.size w a cap l) :
  Calls Tryz.prog 62 #[.agg cs.toArray, .slice a n cap] w fun e w' => e = .returned (.bool (okE m.fInodes [] ByteArray.empty l && decide (l.length ≤ 30))) ∧ Below w.heap.size w w' := by
 have hq := hr
 obtain ⟨a0, c0, a1, c1, a2, c2, rfl, _⟩ := hq
 have HX := Hid.mk hx
 clear hx
 have HRS := Hid.mk hl.2.2
 clear hl
 have HR := Hid.mk hr
 clear hr
 go_enter Tryz.func62, Tryz.ntmps62
 go_wp2_with fail
 go_loopw [5, 6] (fun i j wr => ∃ k : Nat, k ≤ n ∧ i = .int .i64 k ∧ okE m.fInodes [] ByteArray.empty l = okE m.fInodes (idsTo l k) (prevName l k) (l.drop k) ∧ Below w.heap.size w wr ∧ Bx wr w.heap.size [.slice a0 m.fInodes.length c0, .slice a1 m.fNames.length c1, .slice a2 m.fSafe.length c2, .int .i64 m.fNext]) (fun i _ _ => n - (intOf i).toNat)
 case atStart => exact ⟨0, Nat.zero_le _, rfl, rfl, (Below.refl _ _).alloc (Nat.le_refl _) _, Bx.new _ _ _⟩
 case round =>
  obtain ⟨k, hk, rfl, hI, hbk, hbx⟩ := hrel
  have HI := Hid.mk hI
  clear hI
  have xb0 := hbx.2 0 _ rfl
  have xb1 := hbx.2 1 _ rfl
  have xb2 := hbx.2 2 _ rfl
  have xb3 := hbx.2 3 _ rfl
  by_cases hlt : k < n
  ·have hkl : k < l.length := by rw [HX.out]; exact hlt
   obtain ⟨b1, o1, rfl, hB, cs, hcl, hcell, rfl, hsz, hwf, _⟩ := (HRS.out.below rEntry_good hbk) k hkl
   have k0 := hcell 0 _ rfl
   have k1 := hcell 1 _ rfl
   rw [Nat.add_zero] at k0
   clear hcell hcl
   have hCn := fun W => l2Name_any l[k].fName W hsz
   have hCi := fun W (hb : Below wr.heap.size wr W) => l2Inode_any _ m l[k].fId W (rDisk_good.mono (rDisk_good.below HR.out (bthen hbk hb)) (bthen hbk hb).size) (by omega)
   have hy1 : b1 < wr.heap.size := Nat.lt_of_lt_of_le hB hbk.size
   have q0 : ∀ W, Below wr.heap.size wr W → W.cell? ⟨b1, o1 + k * 2, none⟩ = some (.string l[k].fName) := fun W hb => (hb.cell (p := ⟨b1, o1 + k * 2, none⟩) hy1).trans k0
   have q1 : ∀ W, Below wr.heap.size wr W → W.cell? ⟨b1, o1 + k * 2 + 1, none⟩ = some (.int .i64 l[k].fId) := fun W hb => (hb.cell (p := ⟨b1, o1 + k * 2 + 1, none⟩) hy1).trans k1
   have p0 : ∀ W, Below wr.heap.size wr W → W.cell? ⟨w.heap.size, 0, none⟩ = some (.slice a0 m.fInodes.length c0) := fun W hb => (hbx.under hb).2 0 _ rfl
   have p1 : ∀ W, Below wr.heap.size wr W → W.cell? ⟨w.heap.size, 1, none⟩ = some (.slice a1 m.fNames.length c1) := fun W hb => (hbx.under hb).2 1 _ rfl
   have p2 : ∀ W, Below wr.heap.size wr W → W.cell? ⟨w.heap.size, 2, none⟩ = some (.slice a2 m.fSafe.length c2) := fun W hb => (hbx.under hb).2 2 _ rfl
   have p3 : ∀ W, Below wr.heap.size wr W → W.cell? ⟨w.heap.size, 3, none⟩ = some (.int .i64 m.fNext) := fun W hb => (hbx.under hb).2 3 _ rfl
   have HSt := Hid.mk (okE_no (ins := m.fInodes) hkl)
   clear xb0 xb1 xb2 xb3 k0 k1
   have HNoV : Hid (stepE m.fInodes (idsTo l k) (prevName l k) l[k] = false → okE m.fInodes [] ByteArray.empty l = false) := fun h => by rw [HI.out]; exact HSt.out h
   have HYes : Hid (stepE m.fInodes (idsTo l k) (prevName l k) l[k] = true → okE m.fInodes [] ByteArray.empty l = okE m.fInodes (idsTo l (k + 1)) (prevName l (k + 1)) (l.drop (k + 1))) := fun h => by rw [HI.out]; exact okE_yes hkl h
   have HStep : Hid (stepE m.fInodes (idsTo l k) (prevName l k) l[k] = (hasId m.fInodes l[k].fId && !(idsTo l k).contains l[k].fId && strLt (prevName l k) l[k].fName && nameOk l[k].fName)) := rfl
   clear HSt HI
   by_cases hN : nameOk l[k].fName = true
   ·by_cases hH : hasId m.fInodes l[k].fId = true
    ·have hpz : decide (placeZ m.fInodes l[k].fId < 0) = false := decide_eq_false (by rw [placeZ_neg, hH]; simp)
     have hpz2 : (placeZ m.fInodes l[k].fId < 0) = False := eq_false (by rw [placeZ_neg, hH]; simp)
     simp only [hN] at hCn
     have HStep2 : Hid (strLt (prevName l k) l[k].fName = true → (∀ j, (hj : j < l.length) → j < k → l[j].fId ≠ l[k].fId) → stepE m.fInodes (idsTo l k) (prevName l k) l[k] = true) := fun h1 h2 => by
      rw [HStep.out, hH, h1, hN, notin_ids h2]; rfl
     have HStep3 : Hid (∀ j, (hj : j < l.length) → j < k → l[j].fId = l[k].fId → stepE m.fInodes (idsTo l k) (prevName l k) l[k] = false) := fun j hj hjk he => by
      rw [HStep.out, in_ids hj hjk he]; simp
     have HStep4 : Hid (strLt (prevName l k) l[k].fName = false → stepE m.fInodes (idsTo l k) (prevName l k) l[k] = false) := fun h1 => by
      rw [HStep.out, h1]; simp
     have HPos : Hid (1 ≤ l[k].fName.size) := nameOk_pos hN
     clear HStep
     have HLen : Hid (l[k].fName.size ≤ 9223372036854775807) := hsz
     obtain ⟨p, hp⟩ : ∃ p, p = (if h0 : k = 0 then strLt ByteArray.empty l[k].fName else strLt (l[k - 1]'(by omega)).fName l[k].fName) := ⟨_, rfl⟩
     by_cases h0 : k = 0
     ·have HS0 : Hid (strLt (prevName l k) l[k].fName = true) := by subst h0; exact empty_lt HPos.out
      clear hp hN hH
      have HDone := Hid.mk (HYes.out (HStep2.out HS0.out (fun j _ hj => by omega)))
      clear HS0 HStep2 HStep3 HStep4 HYes HNoV
      subst h0
      simp only [Nat.zero_mul, Nat.add_zero, Nat.zero_add] at q0 q1 HDone
      generalize l[0].fName = nm at *
      generalize l[0].fId = id at *
      generalize placeZ m.fInodes id = pz at *
      go_wp2_with fail
      refine wp_region_held_drew (S := fun W => Below wr.heap.size wr W) (by kernel_rfl) (Below.drew (Below.refl _ _)) (fun hHeld => ?_)
      refine uq 0 q040_62_4_0 13 hHeld ?_
      refine uq 1 q040_62_4_1 14 hHeld ?_
      refine uq 2 q040_62_4_2 15 hHeld ?_
      refine uq 3 q040_62_4_3 16 hHeld ?_
      refine uq 4 q040_62_4_4 17 hHeld ?_
      refine ar1 5 q040_62_4_5 fun K hK => ?_
      go_simp
      refine Calls.mono (hCn _) ?_
      rintro e w1 ⟨rfl, hw1⟩
      have hx1 := below_same hw1
      clear hw1
      go_wp2_with fail
      refine hK.out _ _ (bthen hHeld hx1) (fun hHeld => ?_)
      clear hK K
      try simp only[Act.put,sa,s0,s1]
      refine uq 6 q040_62_4_6 19 hHeld ?_
      refine uq 7 q040_62_4_7 20 hHeld ?_
      refine uq 8 q040_62_4_8 21 hHeld ?_
      refine uq 9 q040_62_4_9 22 hHeld ?_
      refine uq 10 q040_62_4_10 23 hHeld ?_
      refine uq 11 q040_62_4_11 24 hHeld ?_
      refine uq 12 q040_62_4_12 25 hHeld ?_
      refine uq 13 q040_62_4_13 26 hHeld ?_
      refine ar1 14 q040_62_4_14 fun K hK => ?_
      go_simp
      refine Calls.mono (hCi _ hHeld) ?_
      rintro e w2 ⟨rfl, hx2⟩
      go_wp2_with fail
      refine hK.out _ _ (bthen hHeld hx2) (fun hHeld => ?_)
      clear hK K
      try simp only[Act.put,sa,s0,s1]
      refine uq 15 q040_62_4_15 28 hHeld ?_
      refine uq 16 q040_62_4_16 29 hHeld ?_
      refine uq 17 q040_62_4_17 30 hHeld ?_
      refine uq 18 q040_62_4_18 31 hHeld ?_
      refine uq 19 q040_62_4_19 32 hHeld ?_
      refine uq 20 q040_62_4_20 33 hHeld ?_
      refine um 21 q040_62_4_21 34 hHeld ?_
      refine um 22 q040_62_4_22 35 hHeld ?_
      refine um 23 q040_62_4_23 36 hHeld ?_
      refine um 24 q040_62_4_24 37 hHeld ?_
      refine um 25 q040_62_4_25 38 hHeld ?_
      refine um 26 q040_62_4_26 39 hHeld ?_
      refine um 27 q040_62_4_27 40 hHeld ?_
      refine um 28 q040_62_4_28 41 hHeld ?_
      refine um 29 q040_62_4_29 42 hHeld ?_
      refine um 30 q040_62_4_30 43 hHeld ?_
      refine um 31 q040_62_4_31 44 hHeld ?_
      refine um 32 q040_62_4_32 45 hHeld ?_
      refine uq 33 q040_62_4_33 46 hHeld ?_
      refine uq 34 q040_62_4_34 47 hHeld ?_
      refine wpAnyH_done (by kernel_rfl) ?_ _
      go_wp2_with fail
      refine wp_loop_rounds 1 ?_
      rw [rounds_succ]
      go_wp2_with fail
      go_roundw
      case rel => exact ⟨1, by omega, by go_num, HDone.out, bthen hbk hHeld, hbx.under hHeld⟩
      case measure => simp [intOf]; omega
     ·obtain ⟨j, rfl⟩ : ∃ j, k = j + 1 := ⟨k - 1, by omega⟩
      have hjl : j < l.length := by omega
      obtain ⟨b1', o1', he1, _, cs', hcl', hcell', rfl, hsz', _⟩ := (HRS.out.below rEntry_good hbk) j hjl
      simp only [Option.some.injEq, Addr.mk.injEq, and_true] at he1
      obtain ⟨rfl, rfl⟩ := he1
      have kp := hcell' 0 _ rfl
      rw [Nat.add_zero] at kp
      have qp : ∀ W, Below wr.heap.size wr W → W.cell? ⟨b1, o1 + j * 2, none⟩ = some (.string l[j].fName) := fun W hb => (hb.cell (p := ⟨b1, o1 + j * 2, none⟩) hy1).trans kp
      have HPN : Hid (prevName l (j + 1) = l[j].fName) := prevName_succ hjl
      clear kp hcell' hcl' h0 hp
      have hz1 : (0 : Int) ≤ (j : Int) + 1 := by omega
      have hz2 : (j : Int) + 1 < (n : Int) := by omega
      have hz3 : (0 : Int) < (j : Int) + 1 := by omega
      have hz4 : (j : Int) < (n : Int) := by omega
      have hwr : IntKind.i64.wrap (j : Int) = j := by simp (disch := omega) only [IntWalk.i64_in]
      by_cases hS : strLt l[j].fName l[j + 1].fName = true
      ·have HOk : Hid ((∀ i, (hi : i < l.length) → i < j + 1 → l[i].fId ≠ l[j + 1].fId) → stepE m.fInodes (idsTo l (j + 1)) (prevName l (j + 1)) l[j + 1] = true) := fun h => HStep2.out (by rw [HPN.out]; exact hS) h
       clear hN hH HStep2 HStep4 HPN
       unfold strLt at hS
       generalize l[j].fName = pn at *
       generalize l[j + 1].fName = nm at *
       have HId : Hid (l[j + 1].fId = l[j + 1].fId) := rfl
       generalize l[j + 1].fId = id at *
       generalize placeZ m.fInodes id = pz at *
       go_wp2_with fail
       refine wp_region_held_drew (S := fun W => Below wr.heap.size wr W) (by kernel_rfl) (Below.drew (Below.refl _ _)) (fun hHeld => ?_)
       refine uq 0 q040_62_4_0 13 hHeld ?_
       refine uq 1 q040_62_4_1 14 hHeld ?_
       refine uq 2 q040_62_4_2 15 hHeld ?_
       refine uq 3 q040_62_4_3 16 hHeld ?_
       refine uq 4 q040_62_4_4 17 hHeld ?_
       refine ar1 5 q040_62_4_5 fun K hK => ?_
       go_simp
       refine Calls.mono (hCn _) ?_
       rintro e w1 ⟨rfl, hw1⟩
       have hx1 := below_same hw1
       clear hw1
       go_wp2_with fail
       refine hK.out _ _ (bthen hHeld hx1) (fun hHeld => ?_)
       clear hK K
       try simp only[Act.put,sa,s0,s1]
       refine uq 6 q040_62_4_6 19 hHeld ?_
       refine uq 7 q040_62_4_7 20 hHeld ?_
       refine uq 8 q040_62_4_8 21 hHeld ?_
       refine uq 9 q040_62_4_9 22 hHeld ?_
       refine uq 10 q040_62_4_10 23 hHeld ?_
       refine uq 11 q040_62_4_11 24 hHeld ?_
       refine uq 12 q040_62_4_12 25 hHeld ?_
       refine uq 13 q040_62_4_13 26 hHeld ?_
       refine ar1 14 q040_62_4_14 fun K hK => ?_
       go_simp
       refine Calls.mono (hCi _ hHeld) ?_
       rintro e w2 ⟨rfl, hx2⟩
       go_wp2_with fail
       refine hK.out _ _ (bthen hHeld hx2) (fun hHeld => ?_)
       clear hK K
       try simp only[Act.put,sa,s0,s1]
       refine uq 15 q040_62_4_15 28 hHeld ?_
       refine uq 16 q040_62_4_16 29 hHeld ?_
       refine uq 17 q040_62_4_17 30 hHeld ?_
       refine uq 18 q040_62_4_18 31 hHeld ?_
       refine uq 19 q040_62_4_19 32 hHeld ?_
       refine uq 20 q040_62_4_20 33 hHeld ?_
       refine uq 21 q040_62_4_21 34 hHeld ?_
       refine uq 22 q040_62_4_22 35 hHeld ?_
       refine uq 23 q040_62_4_23 36 hHeld ?_
       refine uq 24 q040_62_4_24 37 hHeld ?_
       refine uq 25 q040_62_4_25 38 hHeld ?_
       refine uq 26 q040_62_4_26 39 hHeld ?_
       refine uq 27 q040_62_4_27 40 hHeld ?_
       refine uq 28 q040_62_4_28 41 hHeld ?_
       refine uq 29 q040_62_4_29 42 hHeld ?_
       refine uq 30 q040_62_4_30 43 hHeld ?_
       refine uq 31 q040_62_4_31 44 hHeld ?_
       refine uq 32 q040_62_4_32 45 hHeld ?_
       refine uq 33 q040_62_4_33 46 hHeld ?_
       refine uq 34 q040_62_4_34 47 hHeld ?_
       refine wpAnyH_done (by kernel_rfl) ?_ _
       have hbW : Below wr.heap.size wr w2 := hHeld
       go_wp2_with fail
       go_loopw [6] (fun jv wv => ∃ i : Nat, i ≤ j + 1 ∧ jv = .int .i64 i ∧ (∀ x, (hx : x < l.length) → x < i → l[x].fId ≠ id) ∧ Below wr.heap.size wr wv) (fun jv _ => j + 1 - (intOf jv).toNat)
       case atStart => exact ⟨0, Nat.zero_le _, rfl, fun x _ hx => by omega, hbW⟩
       case round =>
        obtain ⟨i, hi, rfl, hno, hbi⟩ := hrel
        have HNo := Hid.mk hno
        clear hno
        have hc1 := q1 _ hbi
        by_cases hil : i < j + 1
        ·have hil' : i < l.length := by omega
         obtain ⟨b2, o2, he2, hB2, cs2, hcl2, hcell2, rfl, _⟩ := (HRS.out.below rEntry_good (bthen hbk hbi)) i hil'
         simp only [Option.some.injEq, Addr.mk.injEq, and_true] at he2
         obtain ⟨rfl, rfl⟩ := he2
         have hc2 := hcell2 1 _ rfl
         have hu1 : (0 : Int) ≤ (i : Int) := by omega
         have hu2 : (i : Int) < (n : Int) := by omega
         have hu3 : (i : Int) < (j : Int) + 1 := by omega
         by_cases he : l[i].fId = id
         ·have HV : Hid (okE m.fInodes [] ByteArray.empty l = false) := HNoV.out (HStep3.out i hil' hil he)
          have heb : (l[i].fId == id) = true := by simp [he]
          generalize l[i].fId = y at hc2 heb
          clear hcell2 hcl2 he HNo
          go_wp2_with fail
          go_region
          all_goals
           go_wp2_with fail
           go_ret
           exact ⟨by rw [HV.out]; rfl, Below.trans hbk (Below.mono (Below.drew hbi) hbk.size)⟩
         ·have heb : (l[i].fId == id) = false := by simp [he]
          have HNo' : Hid (∀ x, (hx : x < l.length) → x < i + 1 → l[x].fId ≠ id) := fun x hx hxi => by
           by_cases hxi' : x = i
           ·subst hxi'; exact he
           ·exact HNo.out x hx (by omega)
          generalize l[i].fId = y at hc2 heb
          clear hcell2 hcl2 he HNo
          go_wp2_with fail
          go_region
          all_goals
           go_wp2_with fail
           go_roundw
           case rel => exact ⟨i + 1, by omega, by go_num, HNo'.out, Below.drew hbi⟩
           case measure => simp [intOf]; omega
        ·have HDone := Hid.mk (HYes.out (HOk.out (fun x hx hxj => HNo.out x hx (by omega))))
         clear HNo
         go_wp2_with fail
         go_roundw
         case rel => exact ⟨j + 1 + 1, by omega, by go_num, HDone.out, bthen hbk hbi, hbx.under hbi⟩
         case measure => simp [intOf]; omega
      ·have hS' : strLt l[j].fName l[j + 1].fName = false := by simpa using hS
       have HV : Hid (okE m.fInodes [] ByteArray.empty l = false) := HNoV.out (HStep4.out (by rw [HPN.out]; exact hS'))
       clear hN hH HStep2 HStep3 HStep4 HYes HNoV HPN hS
       unfold strLt at hS'
       generalize l[j].fName = pn at *
       generalize l[j + 1].fName = nm at *
       generalize l[j + 1].fId = id at *
       generalize placeZ m.fInodes id = pz at *
       go_wp2_with fail
       refine wp_region_held_drew (S := fun W => Below wr.heap.size wr W) (by kernel_rfl) (Below.drew (Below.refl _ _)) (fun hHeld => ?_)
       refine uq 0 q040_62_4_0 13 hHeld ?_
       refine uq 1 q040_62_4_1 14 hHeld ?_
       refine uq 2 q040_62_4_2 15 hHeld ?_
       refine uq 3 q040_62_4_3 16 hHeld ?_
       refine uq 4 q040_62_4_4 17 hHeld ?_
       refine ar1 5 q040_62_4_5 fun K hK => ?_
       go_simp
       refine Calls.mono (hCn _) ?_
       rintro e w1 ⟨rfl, hw1⟩
       have hx1 := below_same hw1
       clear hw1
       go_wp2_with fail
       refine hK.out _ _ (bthen hHeld hx1) (fun hHeld => ?_)
       clear hK K
       try simp only[Act.put,sa,s0,s1]
       refine uq 6 q040_62_4_6 19 hHeld ?_
       refine uq 7 q040_62_4_7 20 hHeld ?_
       refine uq 8 q040_62_4_8 21 hHeld ?_
       refine uq 9 q040_62_4_9 22 hHeld ?_
       refine uq 10 q040_62_4_10 23 hHeld ?_
       refine uq 11 q040_62_4_11 24 hHeld ?_
       refine uq 12 q040_62_4_12 25 hHeld ?_
       refine uq 13 q040_62_4_13 26 hHeld ?_
       refine ar1 14 q040_62_4_14 fun K hK => ?_
       go_simp
       refine Calls.mono (hCi _ hHeld) ?_
       rintro e w2 ⟨rfl, hx2⟩
       go_wp2_with fail
       refine hK.out _ _ (bthen hHeld hx2) (fun hHeld => ?_)
       clear hK K
       try simp only[Act.put,sa,s0,s1]
       refine uq 15 q040_62_4_15 28 hHeld ?_
       refine uq 16 q040_62_4_16 29 hHeld ?_
       refine uq 17 q040_62_4_17 30 hHeld ?_
       refine uq 18 q040_62_4_18 31 hHeld ?_
       refine uq 19 q040_62_4_19 32 hHeld ?_
       refine uq 20 q040_62_4_20 33 hHeld ?_
       refine uq 21 q040_62_4_21 34 hHeld ?_
       refine uq 22 q040_62_4_22 35 hHeld ?_
       refine uq 23 q040_62_4_23 36 hHeld ?_
       refine uq 24 q040_62_4_24 37 hHeld ?_
       refine uq 25 q040_62_4_25 38 hHeld ?_
       refine uq 26 q040_62_4_26 39 hHeld ?_
       refine uq 27 q040_62_4_27 40 hHeld ?_
       refine uq 28 q040_62_4_28 41 hHeld ?_
       refine uq 29 q040_62_4_29 42 hHeld ?_
       refine uq 30 q040_62_4_30 43 hHeld ?_
       refine uq 31 q040_62_4_31 44 hHeld ?_
       refine uq 32 q040_62_4_32 45 hHeld ?_
       refine uq 33 q040_62_4_33 46 hHeld ?_
       refine uq 34 q040_62_4_34 47 hHeld ?_
       refine wpAnyH_done (by kernel_rfl) ?_ _
       go_wp2_with fail
       go_ret
       exact ⟨by rw [HV.out]; rfl, bthen hbk hHeld⟩
    ·have hH' : hasId m.fInodes l[k].fId = false := by simpa using hH
     have hpz : placeZ m.fInodes l[k].fId < 0 := placeZ_neg.2 hH'
     have HV : Hid (okE m.fInodes [] ByteArray.empty l = false) := HNoV.out (by rw [HStep.out, hH']; simp)
     simp only [hN] at hCn
     clear hN hH hH' HNoV HYes HStep
     generalize l[k].fName = nm at *
     generalize l[k].fId = id at *
     generalize placeZ m.fInodes id = pz at *
     go_wp2_with fail
     refine wp_region_held_drew (S := fun W => Below wr.heap.size wr W) (by kernel_rfl) (Below.drew (Below.refl _ _)) (fun hHeld => ?_)
     refine uq 0 q040_62_4_0 13 hHeld ?_
     refine uq 1 q040_62_4_1 14 hHeld ?_
     refine uq 2 q040_62_4_2 15 hHeld ?_
     refine uq 3 q040_62_4_3 16 hHeld ?_
     refine uq 4 q040_62_4_4 17 hHeld ?_
     refine ar1 5 q040_62_4_5 fun K hK => ?_
     go_simp
     refine Calls.mono (hCn _) ?_
     rintro e w1 ⟨rfl, hw1⟩
     have hx1 := below_same hw1
     clear hw1
     go_wp2_with fail
     refine hK.out _ _ (bthen hHeld hx1) (fun hHeld => ?_)
     clear hK K
     try simp only[Act.put,sa,s0,s1]
     refine uq 6 q040_62_4_6 19 hHeld ?_
     refine uq 7 q040_62_4_7 20 hHeld ?_
     refine uq 8 q040_62_4_8 21 hHeld ?_
     refine uq 9 q040_62_4_9 22 hHeld ?_
     refine uq 10 q040_62_4_10 23 hHeld ?_
     refine uq 11 q040_62_4_11 24 hHeld ?_
     refine uq 12 q040_62_4_12 25 hHeld ?_
     refine uq 13 q040_62_4_13 26 hHeld ?_
     refine ar1 14 q040_62_4_14 fun K hK => ?_
     go_simp
     refine Calls.mono (hCi _ hHeld) ?_
     rintro e w2 ⟨rfl, hx2⟩
     go_wp2_with fail
     refine hK.out _ _ (bthen hHeld hx2) (fun hHeld => ?_)
     clear hK K
     try simp only[Act.put,sa,s0,s1]
     refine uq 15 q040_62_4_15 28 hHeld ?_
     refine uq 16 q040_62_4_16 29 hHeld ?_
     refine uq 17 q040_62_4_17 30 hHeld ?_
     refine um 18 q040_62_4_18 31 hHeld ?_
     refine um 19 q040_62_4_19 32 hHeld ?_
     refine um 20 q040_62_4_20 33 hHeld ?_
     refine um 21 q040_62_4_21 34 hHeld ?_
     refine um 22 q040_62_4_22 35 hHeld ?_
     refine um 23 q040_62_4_23 36 hHeld ?_
     refine um 24 q040_62_4_24 37 hHeld ?_
     refine um 25 q040_62_4_25 38 hHeld ?_
     refine um 26 q040_62_4_26 39 hHeld ?_
     refine um 27 q040_62_4_27 40 hHeld ?_
     refine um 28 q040_62_4_28 41 hHeld ?_
     refine um 29 q040_62_4_29 42 hHeld ?_
     refine um 30 q040_62_4_30 43 hHeld ?_
     refine um 31 q040_62_4_31 44 hHeld ?_
     refine um 32 q040_62_4_32 45 hHeld ?_
     refine um 33 q040_62_4_33 46 hHeld ?_
     refine uq 34 q040_62_4_34 47 hHeld ?_
     refine wpAnyH_done (by kernel_rfl) ?_ _
     go_wp2_with fail
     go_ret
     exact ⟨by rw [HV.out]; rfl, bthen hbk hHeld⟩
   ·have hN' : nameOk l[k].fName = false := by simpa using hN
    have HV : Hid (okE m.fInodes [] ByteArray.empty l = false) := HNoV.out (by rw [HStep.out, hN']; simp)
    simp only [hN'] at hCn
    clear hN HNoV HYes HStep
    generalize l[k].fName = nm at *
    generalize l[k].fId = id at *
    go_wp2_with fail
    refine wp_region_held_drew (S := fun W => Below wr.heap.size wr W) (by kernel_rfl) (Below.drew (Below.refl _ _)) (fun hHeld => ?_)
    refine uq 0 q040_62_4_0 13 hHeld ?_
    refine uq 1 q040_62_4_1 14 hHeld ?_
    refine uq 2 q040_62_4_2 15 hHeld ?_
    refine uq 3 q040_62_4_3 16 hHeld ?_
    refine uq 4 q040_62_4_4 17 hHeld ?_
    refine ar1 5 q040_62_4_5 fun K hK => ?_
    go_simp
    refine Calls.mono (hCn _) ?_
    rintro e w1 ⟨rfl, hw1⟩
    have hx1 := below_same hw1
    clear hw1
    go_wp2_with fail
    refine hK.out _ _ (bthen hHeld hx1) (fun hHeld => ?_)
    clear hK K
    try simp only[Act.put,sa,s0,s1]
    refine uq 6 q040_62_4_6 19 hHeld ?_
    refine uq 7 q040_62_4_7 20 hHeld ?_
    refine um 8 q040_62_4_8 21 hHeld ?_
    refine um 9 q040_62_4_9 22 hHeld ?_
    refine um 10 q040_62_4_10 23 hHeld ?_
    refine um 11 q040_62_4_11 24 hHeld ?_
    refine um 12 q040_62_4_12 25 hHeld ?_
    refine um 13 q040_62_4_13 26 hHeld ?_
    refine um 14 q040_62_4_14 27 hHeld ?_
    refine um 15 q040_62_4_15 28 hHeld ?_
    refine uq 16 q040_62_4_16 29 hHeld ?_
    refine uq 17 q040_62_4_17 30 hHeld ?_
    refine um 18 q040_62_4_18 31 hHeld ?_
    refine um 19 q040_62_4_19 32 hHeld ?_
    refine um 20 q040_62_4_20 33 hHeld ?_
    refine um 21 q040_62_4_21 34 hHeld ?_
    refine um 22 q040_62_4_22 35 hHeld ?_
    refine um 23 q040_62_4_23 36 hHeld ?_
    refine um 24 q040_62_4_24 37 hHeld ?_
    refine um 25 q040_62_4_25 38 hHeld ?_
    refine um 26 q040_62_4_26 39 hHeld ?_
    refine um 27 q040_62_4_27 40 hHeld ?_
    refine um 28 q040_62_4_28 41 hHeld ?_
    refine um 29 q040_62_4_29 42 hHeld ?_
    refine um 30 q040_62_4_30 43 hHeld ?_
    refine um 31 q040_62_4_31 44 hHeld ?_
    refine um 32 q040_62_4_32 45 hHeld ?_
    refine um 33 q040_62_4_33 46 hHeld ?_
    refine uq 34 q040_62_4_34 47 hHeld ?_
    refine wpAnyH_done (by kernel_rfl) ?_ _
    go_wp2_with fail
    go_ret
    exact ⟨by rw [HV.out]; rfl, bthen hbk hHeld⟩
  ·have hkn : k = n := by omega
   have HT2 : Hid (l.drop k = []) := List.drop_of_length_le (by rw [HX.out]; omega)
   have HV : Hid (okE m.fInodes [] ByteArray.empty l = true) := by
    show _ = true
    rw [HI.out, HT2.out]
    rfl
   have HL : Hid ((okE m.fInodes [] ByteArray.empty l && decide (l.length ≤ 30)) = decide (n ≤ 30)) := by
    show _ = _
    rw [HV.out, HX.out, Bool.true_and]
   go_wp2_with fail
   go_ret
   have HD : Hid (decide ((n : Int) ≤ 30) = decide (n ≤ 30)) := decide_eq_decide.2 (by omega)
   exact ⟨by rw [HL.out, ← HD.out]; rfl, hbk⟩
end Go.Proofs.YtddejboifpepcaaGreatDoor
