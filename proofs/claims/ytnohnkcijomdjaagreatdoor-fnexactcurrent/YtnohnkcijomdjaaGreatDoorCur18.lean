/-
  Part 19 of the texts that the proof leans on.
-/
import Derived.Test.YtnohnkcijomdjaaGreatDoorCur2
import Derived.Test.YtnohnkcijomdjaaGreatDoorCur17
import Derived.Test.YtnohnkcijomdjaaGreatDoorCur1
import Derived.Deep.RegionHeld3
set_option linter.unusedVariables false
set_option linter.unusedSimpArgs false
set_option maxRecDepth 10000

namespace Go.Proofs.YtnohnkcijomdjaaGreatDoor
open Go.RowKit
abbrev q040_98_4_0 : Oper := ⟨some 13, .move (.tmp 1), 37, "l02_files.go:29", #[], none⟩
abbrev q040_98_4_1 : Oper := ⟨some 14, .move (.tmp 5), 3, "l02_files.go:29", #[], none⟩
abbrev q040_98_4_2 : Oper := ⟨some 15, .indexAddr 37 (.tmp 13) (.tmp 14), 0, "l02_files.go:29", #[⟨0, .data⟩, ⟨1, .data⟩], none⟩
abbrev q040_98_4_3 : Oper := ⟨some 16, .fieldAddr 90 (.tmp 15) 0, 0, "l02_files.go:29", #[⟨2, .data⟩], none⟩
abbrev q040_98_4_4 : Oper := ⟨some 17, .load 9 (.tmp 16), 9, "l02_files.go:29", #[⟨3, .data⟩], none⟩
abbrev q040_98_4_5 : Oper := ⟨some 18, .call { callee := .value (.func 80), args := #[.tmp 17], argTypes := #[9] }, 4, "l02_files.go:29", #[⟨4, .data⟩], none⟩
abbrev q040_98_4_6 : Oper := ⟨some 19, .unOp .not 4 (.tmp 18), 4, "l02_files.go:29", #[⟨5, .data⟩], none⟩
abbrev q040_98_4_7 : Oper := ⟨some 20, .move (.tmp 19), 4, "l02_files.go:29", #[⟨6, .data⟩, ⟨5, .chain⟩], none⟩
abbrev q040_98_4_8 : Oper := ⟨some 21, .load 39 (.tmp 2), 39, "l02_files.go:29", #[⟨7, .guard⟩], some (7, false)⟩
abbrev q040_98_4_9 : Oper := ⟨some 22, .move (.tmp 1), 37, "l02_files.go:29", #[⟨7, .guard⟩], some (7, false)⟩
abbrev q040_98_4_10 : Oper := ⟨some 23, .move (.tmp 5), 3, "l02_files.go:29", #[⟨7, .guard⟩], some (7, false)⟩
abbrev q040_98_4_11 : Oper := ⟨some 24, .indexAddr 37 (.tmp 22) (.tmp 23), 0, "l02_files.go:29", #[⟨9, .data⟩, ⟨10, .data⟩, ⟨7, .guard⟩], some (7, false)⟩
abbrev q040_98_4_12 : Oper := ⟨some 25, .fieldAddr 90 (.tmp 24) 1, 0, "l02_files.go:29", #[⟨11, .data⟩, ⟨7, .guard⟩], some (7, false)⟩
abbrev q040_98_4_13 : Oper := ⟨some 26, .load 3 (.tmp 25), 3, "l02_files.go:29", #[⟨12, .data⟩, ⟨7, .guard⟩], some (7, false)⟩
abbrev q040_98_4_14 : Oper := ⟨some 27, .call { callee := .value (.func 57), args := #[.tmp 21, .tmp 26], argTypes := #[39, 3] }, 3, "l02_files.go:29", #[⟨8, .data⟩, ⟨13, .data⟩, ⟨7, .chain⟩, ⟨7, .guard⟩], some (7, false)⟩
abbrev q040_98_4_15 : Oper := ⟨some 28, .binOp .lss 3 (.tmp 27) (.const (.int .i64 0)) 3, 4, "l02_files.go:29", #[⟨14, .data⟩, ⟨7, .guard⟩], some (7, false)⟩
abbrev q040_98_4_16 : Oper := ⟨some 29, .pick (.tmp 20) (.const (.bool true)) (.tmp 28), 4, "l02_files.go:29", #[⟨7, .data⟩, ⟨15, .data⟩], none⟩
abbrev q040_98_4_17 : Oper := ⟨some 30, .move (.tmp 29), 4, "l02_files.go:29", #[⟨16, .data⟩, ⟨14, .chain⟩], none⟩
abbrev q040_98_4_18 : Oper := ⟨some 31, .move (.tmp 5), 3, "l02_files.go:29", #[⟨17, .guard⟩], some (17, false)⟩
abbrev q040_98_4_19 : Oper := ⟨some 32, .binOp .gtr 3 (.tmp 31) (.const (.int .i64 0)) 3, 4, "l02_files.go:29", #[⟨18, .data⟩, ⟨17, .guard⟩], some (17, false)⟩
abbrev q040_98_4_20 : Oper := ⟨some 33, .move (.tmp 32), 4, "l02_files.go:29", #[⟨19, .data⟩, ⟨17, .chain⟩, ⟨17, .guard⟩], some (17, false)⟩
abbrev q040_98_4_21 : Oper := ⟨some 34, .move (.tmp 1), 37, "l02_files.go:29", #[⟨20, .guard⟩], some (20, true)⟩
abbrev q040_98_4_22 : Oper := ⟨some 35, .move (.tmp 5), 3, "l02_files.go:29", #[⟨20, .guard⟩], some (20, true)⟩
abbrev q040_98_4_23 : Oper := ⟨some 36, .binOp .sub 3 (.tmp 35) (.const (.int .i64 1)) 3, 3, "l02_files.go:29", #[⟨22, .data⟩, ⟨20, .guard⟩], some (20, true)⟩
abbrev q040_98_4_24 : Oper := ⟨some 37, .indexAddr 37 (.tmp 34) (.tmp 36), 0, "l02_files.go:29", #[⟨21, .data⟩, ⟨23, .data⟩, ⟨20, .guard⟩], some (20, true)⟩
abbrev q040_98_4_25 : Oper := ⟨some 38, .fieldAddr 90 (.tmp 37) 0, 0, "l02_files.go:29", #[⟨24, .data⟩, ⟨20, .guard⟩], some (20, true)⟩
abbrev q040_98_4_26 : Oper := ⟨some 39, .load 9 (.tmp 38), 9, "l02_files.go:29", #[⟨25, .data⟩, ⟨20, .guard⟩], some (20, true)⟩
abbrev q040_98_4_27 : Oper := ⟨some 40, .move (.tmp 1), 37, "l02_files.go:29", #[⟨20, .guard⟩], some (20, true)⟩
abbrev q040_98_4_28 : Oper := ⟨some 41, .move (.tmp 5), 3, "l02_files.go:29", #[⟨20, .guard⟩], some (20, true)⟩
abbrev q040_98_4_29 : Oper := ⟨some 42, .indexAddr 37 (.tmp 40) (.tmp 41), 0, "l02_files.go:29", #[⟨27, .data⟩, ⟨28, .data⟩, ⟨20, .guard⟩], some (20, true)⟩
abbrev q040_98_4_30 : Oper := ⟨some 43, .fieldAddr 90 (.tmp 42) 0, 0, "l02_files.go:29", #[⟨29, .data⟩, ⟨20, .guard⟩], some (20, true)⟩
abbrev q040_98_4_31 : Oper := ⟨some 44, .load 9 (.tmp 43), 9, "l02_files.go:29", #[⟨30, .data⟩, ⟨20, .guard⟩], some (20, true)⟩
abbrev q040_98_4_32 : Oper := ⟨some 45, .binOp .geq 9 (.tmp 39) (.tmp 44) 9, 4, "l02_files.go:29", #[⟨26, .data⟩, ⟨31, .data⟩, ⟨20, .guard⟩], some (20, true)⟩
abbrev q040_98_4_33 : Oper := ⟨some 46, .pick (.tmp 33) (.tmp 45) (.const (.bool false)), 4, "l02_files.go:29", #[⟨20, .data⟩, ⟨32, .data⟩, ⟨17, .guard⟩], some (17, false)⟩
abbrev q040_98_4_34 : Oper := ⟨some 47, .pick (.tmp 30) (.const (.bool true)) (.tmp 46), 4, "l02_files.go:29", #[⟨17, .data⟩, ⟨33, .data⟩], none⟩

theorem okE_no {ins : List MInode} {l : List MEntry} {k : Nat} (h : k < l.length) (hs : stepE ins (idsTo l k) (prevName l k) l[k] = false) : okE ins (idsTo l k) (prevName l k) (l.drop k) = false := by
  rw [okE_step h, hs]; rfl
theorem okE_yes {ins : List MInode} {l : List MEntry} {k : Nat} (h : k < l.length) (hs : stepE ins (idsTo l k) (prevName l k) l[k] = true) : okE ins (idsTo l k) (prevName l k) (l.drop k) = okE ins (idsTo l (k + 1)) (prevName l (k + 1)) (l.drop (k + 1)) := by
  rw [okE_step h, hs]; rfl

set_option maxHeartbeats 1000000 in
theorem l2Entries_any (cs : List Value) (m : MDisk) (a : Option Addr) (n cap : Nat) (l : List MEntry) (w : World) (hr : rDisk w.heap.size w cs m) (hm : m.fInodes.length ≤ 16777216) (hx : l.length = n) (hn : n ≤ 16777216) (hl : LeafL 2 rEntry w.heap.size w a cap l) :
    Calls Tryz.prog 98 #[.agg cs.toArray, .slice a n cap] w fun e w' => e = .returned (.bool (okE m.fInodes [] ByteArray.empty l && decide (l.length ≤ 30))) ∧ Below w.heap.size w w' := by
  have hq := hr
  obtain ⟨a0, c0, a1, c1, a2, c2, rfl, _⟩ := hq
  have HX := Hid.mk hx
  clear hx
  have HRS := Hid.mk hl.2.2
  clear hl
  have HR := Hid.mk hr
  clear hr
  go_enter Tryz.func98, Tryz.ntmps98
  go_wp2_with fail
  go_loopw [5, 6] (fun i j wr => ∃ k : Nat, k ≤ n ∧ i = .int .i64 k ∧ okE m.fInodes [] ByteArray.empty l = okE m.fInodes (idsTo l k) (prevName l k) (l.drop k) ∧ Below w.heap.size w wr ∧ Bx wr w.heap.size [.slice a0 m.fInodes.length c0, .slice a1 m.fNames.length c1, .slice a2 m.fSafe.length c2, .int .i64 m.fNext]) (fun i _ _ => n - (intOf i).toNat)
  case atStart => exact ⟨0, Nat.zero_le _, rfl, rfl, (Below.refl _ _).alloc (Nat.le_refl _) _, Bx.new _ _ _⟩
  case round =>
    obtain ⟨k, hk, rfl, hI, hbk, hbx⟩ := hrel
    have HI := Hid.mk hI
    clear hI
    have xb0 := hbx.2 0 _ rfl
    have xb1 := hbx.2 1 _ rfl
    have xb2 := hbx.2 2 _ rfl
    have xb3 := hbx.2 3 _ rfl
    by_cases hlt : k < n
    · have hkl : k < l.length := by rw [HX.out]; exact hlt
      obtain ⟨b1, o1, rfl, hB, cs, hcl, hcell, rfl, hsz, hwf, _⟩ := (HRS.out.below rEntry_good hbk) k hkl
      have k0 := hcell 0 _ rfl
      have k1 := hcell 1 _ rfl
      rw [Nat.add_zero] at k0
      clear hcell hcl
      have hCn := fun W => l2Name_any l[k].fName W hsz
      have hCi := fun W (hb : Below wr.heap.size wr W) => l2Inode_any _ m l[k].fId W (rDisk_good.mono (rDisk_good.below HR.out (bthen hbk hb)) (bthen hbk hb).size) (by omega)
      have hy1 : b1 < wr.heap.size := Nat.lt_of_lt_of_le hB hbk.size
      have q0 : ∀ W, Below wr.heap.size wr W → W.cell? ⟨b1, o1 + k * 2, none⟩ = some (.string l[k].fName) := fun W hb => (hb.cell (p := ⟨b1, o1 + k * 2, none⟩) hy1).trans k0
      have q1 : ∀ W, Below wr.heap.size wr W → W.cell? ⟨b1, o1 + k * 2 + 1, none⟩ = some (.int .i64 l[k].fId) := fun W hb => (hb.cell (p := ⟨b1, o1 + k * 2 + 1, none⟩) hy1).trans k1
      have p0 : ∀ W, Below wr.heap.size wr W → W.cell? ⟨w.heap.size, 0, none⟩ = some (.slice a0 m.fInodes.length c0) := fun W hb => (hbx.under hb).2 0 _ rfl
      have p1 : ∀ W, Below wr.heap.size wr W → W.cell? ⟨w.heap.size, 1, none⟩ = some (.slice a1 m.fNames.length c1) := fun W hb => (hbx.under hb).2 1 _ rfl
      have p2 : ∀ W, Below wr.heap.size wr W → W.cell? ⟨w.heap.size, 2, none⟩ = some (.slice a2 m.fSafe.length c2) := fun W hb => (hbx.under hb).2 2 _ rfl
      have p3 : ∀ W, Below wr.heap.size wr W → W.cell? ⟨w.heap.size, 3, none⟩ = some (.int .i64 m.fNext) := fun W hb => (hbx.under hb).2 3 _ rfl
      have HSt := Hid.mk (okE_no (ins := m.fInodes) hkl)
      clear xb0 xb1 xb2 xb3 k0 k1
      have HNoV : Hid (stepE m.fInodes (idsTo l k) (prevName l k) l[k] = false → okE m.fInodes [] ByteArray.empty l = false) := fun h => by rw [HI.out]; exact HSt.out h
      have HYes : Hid (stepE m.fInodes (idsTo l k) (prevName l k) l[k] = true → okE m.fInodes [] ByteArray.empty l = okE m.fInodes (idsTo l (k + 1)) (prevName l (k + 1)) (l.drop (k + 1))) := fun h => by rw [HI.out]; exact okE_yes hkl h
      have HStep : Hid (stepE m.fInodes (idsTo l k) (prevName l k) l[k] = (hasId m.fInodes l[k].fId && !(idsTo l k).contains l[k].fId && strLt (prevName l k) l[k].fName && nameOk l[k].fName)) := rfl
      clear HSt HI
      by_cases hN : nameOk l[k].fName = true
      · by_cases hH : hasId m.fInodes l[k].fId = true
        · have hpz : decide (placeZ m.fInodes l[k].fId < 0) = false := decide_eq_false (by rw [placeZ_neg, hH]; simp)
          have hpz2 : (placeZ m.fInodes l[k].fId < 0) = False := eq_false (by rw [placeZ_neg, hH]; simp)
          simp only [hN] at hCn
          have HStep2 : Hid (strLt (prevName l k) l[k].fName = true → (∀ j, (hj : j < l.length) → j < k → l[j].fId ≠ l[k].fId) → stepE m.fInodes (idsTo l k) (prevName l k) l[k] = true) := fun h1 h2 => by
            rw [HStep.out, hH, h1, hN, notin_ids h2]; rfl
          have HStep3 : Hid (∀ j, (hj : j < l.length) → j < k → l[j].fId = l[k].fId → stepE m.fInodes (idsTo l k) (prevName l k) l[k] = false) := fun j hj hjk he => by
            rw [HStep.out, in_ids hj hjk he]; simp
          have HStep4 : Hid (strLt (prevName l k) l[k].fName = false → stepE m.fInodes (idsTo l k) (prevName l k) l[k] = false) := fun h1 => by
            rw [HStep.out, h1]; simp
          have HPos : Hid (1 ≤ l[k].fName.size) := nameOk_pos hN
          clear HStep
          have HLen : Hid (l[k].fName.size ≤ 9223372036854775807) := hsz
          obtain ⟨p, hp⟩ : ∃ p, p = (if h0 : k = 0 then strLt ByteArray.empty l[k].fName else strLt (l[k - 1]'(by omega)).fName l[k].fName) := ⟨_, rfl⟩
          by_cases h0 : k = 0
          · have HS0 : Hid (strLt (prevName l k) l[k].fName = true) := by subst h0; exact empty_lt HPos.out
            clear hp hN hH
            have HDone := Hid.mk (HYes.out (HStep2.out HS0.out (fun j _ hj => by omega)))
            clear HS0 HStep2 HStep3 HStep4 HYes HNoV
            subst h0
            simp only [Nat.zero_mul, Nat.add_zero, Nat.zero_add] at q0 q1 HDone
            generalize l[0].fName = nm at *
            generalize l[0].fId = id at *
            generalize placeZ m.fInodes id = pz at *
            go_wp2_with fail
            refine wp_region_held_drew (S := fun W => Below wr.heap.size wr W) (by kernel_rfl) (Below.drew (Below.refl _ _)) (fun hHeld => ?_)
            refine tk 0 q040_98_4_0 (some 13) (v := ?v1) rfl rfl (by kernel_rfl) hHeld (by rfl) (fun _ _ _ x => x) (fun w h => ?y1) ?_; (case y1 => (try dsimp only at h); go_simp; try (with_reducible rfl)); try simp only [Act.put, sa, s0, s1]
            refine tk 1 q040_98_4_1 (some 14) (v := ?v2) rfl rfl (by kernel_rfl) hHeld (by rfl) (fun _ _ _ x => x) (fun w h => ?y2) ?_; (case y2 => (try dsimp only at h); go_simp; try (with_reducible rfl)); try simp only [Act.put, sa, s0, s1]
            refine tk 2 q040_98_4_2 (some 15) (v := ?v3) rfl rfl (by kernel_rfl) hHeld (by rfl) (fun _ _ _ x => x) (fun w h => ?y3) ?_; (case y3 => (try dsimp only at h); go_simp; try (with_reducible rfl)); try simp only [Act.put, sa, s0, s1]
            refine tk 3 q040_98_4_3 (some 16) (v := ?v4) rfl rfl (by kernel_rfl) hHeld (by rfl) (fun _ _ _ x => x) (fun w h => ?y4) ?_; (case y4 => (try dsimp only at h); go_simp; try (with_reducible rfl)); try simp only [Act.put, sa, s0, s1]
            refine tk 4 q040_98_4_4 (some 17) (v := ?v5) rfl rfl (by kernel_rfl) hHeld (by rfl) (fun _ _ _ x => x) (fun w h => ?y5) ?_; (case y5 => (try dsimp only at h); go_simp; try (with_reducible rfl)); try simp only [Act.put, sa, s0, s1]
            refine wpAnyH_ready (rs := [5]) (by kernel_rfl) (by simp) ?_
            refine AllReadyH.cons (o := q040_98_4_5) rfl (fun K hK => ?_) AllReadyH.nil
            go_simp
            refine Calls.mono (hCn _) ?_
            rintro e w1 ⟨rfl, hw1⟩
            have hx1 := below_same hw1
            clear hw1
            go_wp2_with fail
            refine hK.out _ _ (bthen hHeld hx1) (fun hHeld => ?_)
            clear hK K
            try simp only [Act.put, sa, s0, s1]
            refine tk 6 q040_98_4_6 (some 19) (v := ?v6) rfl rfl (by kernel_rfl) hHeld (by rfl) (fun _ _ _ x => x) (fun w h => ?y6) ?_; (case y6 => (try dsimp only at h); go_simp; try (with_reducible rfl)); try simp only [Act.put, sa, s0, s1]
            refine tk 7 q040_98_4_7 (some 20) (v := ?v7) rfl rfl (by kernel_rfl) hHeld (by rfl) (fun _ _ _ x => x) (fun w h => ?y7) ?_; (case y7 => (try dsimp only at h); go_simp; try (with_reducible rfl)); try simp only [Act.put, sa, s0, s1]
            refine tk 8 q040_98_4_8 (some 21) (v := ?v8) rfl rfl (by kernel_rfl) hHeld (by rfl) (fun _ _ _ x => x) (fun w h => ?y8) ?_; (case y8 => (try dsimp only at h); go_simp; try (with_reducible rfl)); try simp only [Act.put, sa, s0, s1]
            refine tk 9 q040_98_4_9 (some 22) (v := ?v9) rfl rfl (by kernel_rfl) hHeld (by rfl) (fun _ _ _ x => x) (fun w h => ?y9) ?_; (case y9 => (try dsimp only at h); go_simp; try (with_reducible rfl)); try simp only [Act.put, sa, s0, s1]
            refine tk 10 q040_98_4_10 (some 23) (v := ?v10) rfl rfl (by kernel_rfl) hHeld (by rfl) (fun _ _ _ x => x) (fun w h => ?y10) ?_; (case y10 => (try dsimp only at h); go_simp; try (with_reducible rfl)); try simp only [Act.put, sa, s0, s1]
            refine tk 11 q040_98_4_11 (some 24) (v := ?v11) rfl rfl (by kernel_rfl) hHeld (by rfl) (fun _ _ _ x => x) (fun w h => ?y11) ?_; (case y11 => (try dsimp only at h); go_simp; try (with_reducible rfl)); try simp only [Act.put, sa, s0, s1]
            refine tk 12 q040_98_4_12 (some 25) (v := ?v12) rfl rfl (by kernel_rfl) hHeld (by rfl) (fun _ _ _ x => x) (fun w h => ?y12) ?_; (case y12 => (try dsimp only at h); go_simp; try (with_reducible rfl)); try simp only [Act.put, sa, s0, s1]
            refine tk 13 q040_98_4_13 (some 26) (v := ?v13) rfl rfl (by kernel_rfl) hHeld (by rfl) (fun _ _ _ x => x) (fun w h => ?y13) ?_; (case y13 => (try dsimp only at h); go_simp; try (with_reducible rfl)); try simp only [Act.put, sa, s0, s1]
            refine wpAnyH_ready (rs := [14]) (by kernel_rfl) (by simp) ?_
            refine AllReadyH.cons (o := q040_98_4_14) rfl (fun K hK => ?_) AllReadyH.nil
            go_simp
            refine Calls.mono (hCi _ hHeld) ?_
            rintro e w2 ⟨rfl, hx2⟩
            go_wp2_with fail
            refine hK.out _ _ (bthen hHeld hx2) (fun hHeld => ?_)
            clear hK K
            try simp only [Act.put, sa, s0, s1]
            refine tk 15 q040_98_4_15 (some 28) (v := ?v14) rfl rfl (by kernel_rfl) hHeld (by rfl) (fun _ _ _ x => x) (fun w h => ?y14) ?_; (case y14 => (try dsimp only at h); go_simp; try (with_reducible rfl)); try simp only [Act.put, sa, s0, s1]
            refine tk 16 q040_98_4_16 (some 29) (v := ?v15) rfl rfl (by kernel_rfl) hHeld (by rfl) (fun _ _ _ x => x) (fun w h => ?y15) ?_; (case y15 => (try dsimp only at h); go_simp; try (with_reducible rfl)); try simp only [Act.put, sa, s0, s1]
            refine tk 17 q040_98_4_17 (some 30) (v := ?v16) rfl rfl (by kernel_rfl) hHeld (by rfl) (fun _ _ _ x => x) (fun w h => ?y16) ?_; (case y16 => (try dsimp only at h); go_simp; try (with_reducible rfl)); try simp only [Act.put, sa, s0, s1]
            refine tk 18 q040_98_4_18 (some 31) (v := ?v17) rfl rfl (by kernel_rfl) hHeld (by rfl) (fun _ _ _ x => x) (fun w h => ?y17) ?_; (case y17 => (try dsimp only at h); go_simp; try (with_reducible rfl)); try simp only [Act.put, sa, s0, s1]
            refine tk 19 q040_98_4_19 (some 32) (v := ?v18) rfl rfl (by kernel_rfl) hHeld (by rfl) (fun _ _ _ x => x) (fun w h => ?y18) ?_; (case y18 => (try dsimp only at h); go_simp; try (with_reducible rfl)); try simp only [Act.put, sa, s0, s1]
            refine tk 20 q040_98_4_20 (some 33) (v := ?v19) rfl rfl (by kernel_rfl) hHeld (by rfl) (fun _ _ _ x => x) (fun w h => ?y19) ?_; (case y19 => (try dsimp only at h); go_simp; try (with_reducible rfl)); try simp only [Act.put, sa, s0, s1]
            refine tn 21 q040_98_4_21 (some 34) rfl rfl (by kernel_rfl) hHeld (by rfl) (fun _ _ _ x => x) ?_; try simp only [Act.put, sa, s0, s1]
            refine tn 22 q040_98_4_22 (some 35) rfl rfl (by kernel_rfl) hHeld (by rfl) (fun _ _ _ x => x) ?_; try simp only [Act.put, sa, s0, s1]
            refine tn 23 q040_98_4_23 (some 36) rfl rfl (by kernel_rfl) hHeld (by rfl) (fun _ _ _ x => x) ?_; try simp only [Act.put, sa, s0, s1]
            refine tn 24 q040_98_4_24 (some 37) rfl rfl (by kernel_rfl) hHeld (by rfl) (fun _ _ _ x => x) ?_; try simp only [Act.put, sa, s0, s1]
            refine tn 25 q040_98_4_25 (some 38) rfl rfl (by kernel_rfl) hHeld (by rfl) (fun _ _ _ x => x) ?_; try simp only [Act.put, sa, s0, s1]
            refine tn 26 q040_98_4_26 (some 39) rfl rfl (by kernel_rfl) hHeld (by rfl) (fun _ _ _ x => x) ?_; try simp only [Act.put, sa, s0, s1]
            refine tn 27 q040_98_4_27 (some 40) rfl rfl (by kernel_rfl) hHeld (by rfl) (fun _ _ _ x => x) ?_; try simp only [Act.put, sa, s0, s1]
            refine tn 28 q040_98_4_28 (some 41) rfl rfl (by kernel_rfl) hHeld (by rfl) (fun _ _ _ x => x) ?_; try simp only [Act.put, sa, s0, s1]
            refine tn 29 q040_98_4_29 (some 42) rfl rfl (by kernel_rfl) hHeld (by rfl) (fun _ _ _ x => x) ?_; try simp only [Act.put, sa, s0, s1]
            refine tn 30 q040_98_4_30 (some 43) rfl rfl (by kernel_rfl) hHeld (by rfl) (fun _ _ _ x => x) ?_; try simp only [Act.put, sa, s0, s1]
            refine tn 31 q040_98_4_31 (some 44) rfl rfl (by kernel_rfl) hHeld (by rfl) (fun _ _ _ x => x) ?_; try simp only [Act.put, sa, s0, s1]
            refine tn 32 q040_98_4_32 (some 45) rfl rfl (by kernel_rfl) hHeld (by rfl) (fun _ _ _ x => x) ?_; try simp only [Act.put, sa, s0, s1]
            refine tk 33 q040_98_4_33 (some 46) (v := ?v32) rfl rfl (by kernel_rfl) hHeld (by rfl) (fun _ _ _ x => x) (fun w h => ?y32) ?_; (case y32 => (try dsimp only at h); go_simp; try (with_reducible rfl)); try simp only [Act.put, sa, s0, s1]
            refine tk 34 q040_98_4_34 (some 47) (v := ?v33) rfl rfl (by kernel_rfl) hHeld (by rfl) (fun _ _ _ x => x) (fun w h => ?y33) ?_; (case y33 => (try dsimp only at h); go_simp; try (with_reducible rfl)); try simp only [Act.put, sa, s0, s1]
            refine wpAnyH_done (by kernel_rfl) ?_ _
            go_wp2_with fail
            refine wp_loop_rounds 1 ?_
            rw [rounds_succ]
            go_wp2_with fail
            go_roundw
            case rel => exact ⟨1, by omega, by go_num, HDone.out, bthen hbk hHeld, hbx.under hHeld⟩
            case measure => simp [intOf]; omega
          · obtain ⟨j, rfl⟩ : ∃ j, k = j + 1 := ⟨k - 1, by omega⟩
            have hjl : j < l.length := by omega
            obtain ⟨b1', o1', he1, _, cs', hcl', hcell', rfl, hsz', _⟩ := (HRS.out.below rEntry_good hbk) j hjl
            simp only [Option.some.injEq, Addr.mk.injEq, and_true] at he1
            obtain ⟨rfl, rfl⟩ := he1
            have kp := hcell' 0 _ rfl
            rw [Nat.add_zero] at kp
            have qp : ∀ W, Below wr.heap.size wr W → W.cell? ⟨b1, o1 + j * 2, none⟩ = some (.string l[j].fName) := fun W hb => (hb.cell (p := ⟨b1, o1 + j * 2, none⟩) hy1).trans kp
            have HPN : Hid (prevName l (j + 1) = l[j].fName) := prevName_succ hjl
            clear kp hcell' hcl' h0 hp
            have hz1 : (0 : Int) ≤ (j : Int) + 1 := by omega
            have hz2 : (j : Int) + 1 < (n : Int) := by omega
            have hz3 : (0 : Int) < (j : Int) + 1 := by omega
            have hz4 : (j : Int) < (n : Int) := by omega
            have hwr : IntKind.i64.wrap (j : Int) = j := by simp (disch := omega) only [IntWalk.i64_in]
            by_cases hS : strLt l[j].fName l[j + 1].fName = true
            · have HOk : Hid ((∀ i, (hi : i < l.length) → i < j + 1 → l[i].fId ≠ l[j + 1].fId) → stepE m.fInodes (idsTo l (j + 1)) (prevName l (j + 1)) l[j + 1] = true) := fun h => HStep2.out (by rw [HPN.out]; exact hS) h
              clear hN hH HStep2 HStep4 HPN
              unfold strLt at hS
              generalize l[j].fName = pn at *
              generalize l[j + 1].fName = nm at *
              have HId : Hid (l[j + 1].fId = l[j + 1].fId) := rfl
              generalize l[j + 1].fId = id at *
              generalize placeZ m.fInodes id = pz at *
              go_wp2_with fail
              refine wp_region_held_drew (S := fun W => Below wr.heap.size wr W) (by kernel_rfl) (Below.drew (Below.refl _ _)) (fun hHeld => ?_)
              refine tk 0 q040_98_4_0 (some 13) (v := ?v34) rfl rfl (by kernel_rfl) hHeld (by rfl) (fun _ _ _ x => x) (fun w h => ?y34) ?_; (case y34 => (try dsimp only at h); go_simp; try (with_reducible rfl)); try simp only [Act.put, sa, s0, s1]
              refine tk 1 q040_98_4_1 (some 14) (v := ?v35) rfl rfl (by kernel_rfl) hHeld (by rfl) (fun _ _ _ x => x) (fun w h => ?y35) ?_; (case y35 => (try dsimp only at h); go_simp; try (with_reducible rfl)); try simp only [Act.put, sa, s0, s1]
              refine tk 2 q040_98_4_2 (some 15) (v := ?v36) rfl rfl (by kernel_rfl) hHeld (by rfl) (fun _ _ _ x => x) (fun w h => ?y36) ?_; (case y36 => (try dsimp only at h); go_simp; try (with_reducible rfl)); try simp only [Act.put, sa, s0, s1]
              refine tk 3 q040_98_4_3 (some 16) (v := ?v37) rfl rfl (by kernel_rfl) hHeld (by rfl) (fun _ _ _ x => x) (fun w h => ?y37) ?_; (case y37 => (try dsimp only at h); go_simp; try (with_reducible rfl)); try simp only [Act.put, sa, s0, s1]
              refine tk 4 q040_98_4_4 (some 17) (v := ?v38) rfl rfl (by kernel_rfl) hHeld (by rfl) (fun _ _ _ x => x) (fun w h => ?y38) ?_; (case y38 => (try dsimp only at h); go_simp; try (with_reducible rfl)); try simp only [Act.put, sa, s0, s1]
              refine wpAnyH_ready (rs := [5]) (by kernel_rfl) (by simp) ?_
              refine AllReadyH.cons (o := q040_98_4_5) rfl (fun K hK => ?_) AllReadyH.nil
              go_simp
              refine Calls.mono (hCn _) ?_
              rintro e w1 ⟨rfl, hw1⟩
              have hx1 := below_same hw1
              clear hw1
              go_wp2_with fail
              refine hK.out _ _ (bthen hHeld hx1) (fun hHeld => ?_)
              clear hK K
              try simp only [Act.put, sa, s0, s1]
              refine tk 6 q040_98_4_6 (some 19) (v := ?v39) rfl rfl (by kernel_rfl) hHeld (by rfl) (fun _ _ _ x => x) (fun w h => ?y39) ?_; (case y39 => (try dsimp only at h); go_simp; try (with_reducible rfl)); try simp only [Act.put, sa, s0, s1]
              refine tk 7 q040_98_4_7 (some 20) (v := ?v40) rfl rfl (by kernel_rfl) hHeld (by rfl) (fun _ _ _ x => x) (fun w h => ?y40) ?_; (case y40 => (try dsimp only at h); go_simp; try (with_reducible rfl)); try simp only [Act.put, sa, s0, s1]
              refine tk 8 q040_98_4_8 (some 21) (v := ?v41) rfl rfl (by kernel_rfl) hHeld (by rfl) (fun _ _ _ x => x) (fun w h => ?y41) ?_; (case y41 => (try dsimp only at h); go_simp; try (with_reducible rfl)); try simp only [Act.put, sa, s0, s1]
              refine tk 9 q040_98_4_9 (some 22) (v := ?v42) rfl rfl (by kernel_rfl) hHeld (by rfl) (fun _ _ _ x => x) (fun w h => ?y42) ?_; (case y42 => (try dsimp only at h); go_simp; try (with_reducible rfl)); try simp only [Act.put, sa, s0, s1]
              refine tk 10 q040_98_4_10 (some 23) (v := ?v43) rfl rfl (by kernel_rfl) hHeld (by rfl) (fun _ _ _ x => x) (fun w h => ?y43) ?_; (case y43 => (try dsimp only at h); go_simp; try (with_reducible rfl)); try simp only [Act.put, sa, s0, s1]
              refine tk 11 q040_98_4_11 (some 24) (v := ?v44) rfl rfl (by kernel_rfl) hHeld (by rfl) (fun _ _ _ x => x) (fun w h => ?y44) ?_; (case y44 => (try dsimp only at h); go_simp; try (with_reducible rfl)); try simp only [Act.put, sa, s0, s1]
              refine tk 12 q040_98_4_12 (some 25) (v := ?v45) rfl rfl (by kernel_rfl) hHeld (by rfl) (fun _ _ _ x => x) (fun w h => ?y45) ?_; (case y45 => (try dsimp only at h); go_simp; try (with_reducible rfl)); try simp only [Act.put, sa, s0, s1]
              refine tk 13 q040_98_4_13 (some 26) (v := ?v46) rfl rfl (by kernel_rfl) hHeld (by rfl) (fun _ _ _ x => x) (fun w h => ?y46) ?_; (case y46 => (try dsimp only at h); go_simp; try (with_reducible rfl)); try simp only [Act.put, sa, s0, s1]
              refine wpAnyH_ready (rs := [14]) (by kernel_rfl) (by simp) ?_
              refine AllReadyH.cons (o := q040_98_4_14) rfl (fun K hK => ?_) AllReadyH.nil
              go_simp
              refine Calls.mono (hCi _ hHeld) ?_
              rintro e w2 ⟨rfl, hx2⟩
              go_wp2_with fail
              refine hK.out _ _ (bthen hHeld hx2) (fun hHeld => ?_)
              clear hK K
              try simp only [Act.put, sa, s0, s1]
              refine tk 15 q040_98_4_15 (some 28) (v := ?v47) rfl rfl (by kernel_rfl) hHeld (by rfl) (fun _ _ _ x => x) (fun w h => ?y47) ?_; (case y47 => (try dsimp only at h); go_simp; try (with_reducible rfl)); try simp only [Act.put, sa, s0, s1]
              refine tk 16 q040_98_4_16 (some 29) (v := ?v48) rfl rfl (by kernel_rfl) hHeld (by rfl) (fun _ _ _ x => x) (fun w h => ?y48) ?_; (case y48 => (try dsimp only at h); go_simp; try (with_reducible rfl)); try simp only [Act.put, sa, s0, s1]
              refine tk 17 q040_98_4_17 (some 30) (v := ?v49) rfl rfl (by kernel_rfl) hHeld (by rfl) (fun _ _ _ x => x) (fun w h => ?y49) ?_; (case y49 => (try dsimp only at h); go_simp; try (with_reducible rfl)); try simp only [Act.put, sa, s0, s1]
              refine tk 18 q040_98_4_18 (some 31) (v := ?v50) rfl rfl (by kernel_rfl) hHeld (by rfl) (fun _ _ _ x => x) (fun w h => ?y50) ?_; (case y50 => (try dsimp only at h); go_simp; try (with_reducible rfl)); try simp only [Act.put, sa, s0, s1]
              refine tk 19 q040_98_4_19 (some 32) (v := ?v51) rfl rfl (by kernel_rfl) hHeld (by rfl) (fun _ _ _ x => x) (fun w h => ?y51) ?_; (case y51 => (try dsimp only at h); go_simp; try (with_reducible rfl)); try simp only [Act.put, sa, s0, s1]
              refine tk 20 q040_98_4_20 (some 33) (v := ?v52) rfl rfl (by kernel_rfl) hHeld (by rfl) (fun _ _ _ x => x) (fun w h => ?y52) ?_; (case y52 => (try dsimp only at h); go_simp; try (with_reducible rfl)); try simp only [Act.put, sa, s0, s1]
              refine tk 21 q040_98_4_21 (some 34) (v := ?v53) rfl rfl (by kernel_rfl) hHeld (by rfl) (fun _ _ _ x => x) (fun w h => ?y53) ?_; (case y53 => (try dsimp only at h); go_simp; try (with_reducible rfl)); try simp only [Act.put, sa, s0, s1]
              refine tk 22 q040_98_4_22 (some 35) (v := ?v54) rfl rfl (by kernel_rfl) hHeld (by rfl) (fun _ _ _ x => x) (fun w h => ?y54) ?_; (case y54 => (try dsimp only at h); go_simp; try (with_reducible rfl)); try simp only [Act.put, sa, s0, s1]
              refine tk 23 q040_98_4_23 (some 36) (v := ?v55) rfl rfl (by kernel_rfl) hHeld (by rfl) (fun _ _ _ x => x) (fun w h => ?y55) ?_; (case y55 => (try dsimp only at h); go_simp; try (with_reducible rfl)); try simp only [Act.put, sa, s0, s1]
              refine tk 24 q040_98_4_24 (some 37) (v := ?v56) rfl rfl (by kernel_rfl) hHeld (by rfl) (fun _ _ _ x => x) (fun w h => ?y56) ?_; (case y56 => (try dsimp only at h); go_simp; try (with_reducible rfl)); try simp only [Act.put, sa, s0, s1]
              refine tk 25 q040_98_4_25 (some 38) (v := ?v57) rfl rfl (by kernel_rfl) hHeld (by rfl) (fun _ _ _ x => x) (fun w h => ?y57) ?_; (case y57 => (try dsimp only at h); go_simp; try (with_reducible rfl)); try simp only [Act.put, sa, s0, s1]
              refine tk 26 q040_98_4_26 (some 39) (v := ?v58) rfl rfl (by kernel_rfl) hHeld (by rfl) (fun _ _ _ x => x) (fun w h => ?y58) ?_; (case y58 => (try dsimp only at h); go_simp; try (with_reducible rfl)); try simp only [Act.put, sa, s0, s1]
              refine tk 27 q040_98_4_27 (some 40) (v := ?v59) rfl rfl (by kernel_rfl) hHeld (by rfl) (fun _ _ _ x => x) (fun w h => ?y59) ?_; (case y59 => (try dsimp only at h); go_simp; try (with_reducible rfl)); try simp only [Act.put, sa, s0, s1]
              refine tk 28 q040_98_4_28 (some 41) (v := ?v60) rfl rfl (by kernel_rfl) hHeld (by rfl) (fun _ _ _ x => x) (fun w h => ?y60) ?_; (case y60 => (try dsimp only at h); go_simp; try (with_reducible rfl)); try simp only [Act.put, sa, s0, s1]
              refine tk 29 q040_98_4_29 (some 42) (v := ?v61) rfl rfl (by kernel_rfl) hHeld (by rfl) (fun _ _ _ x => x) (fun w h => ?y61) ?_; (case y61 => (try dsimp only at h); go_simp; try (with_reducible rfl)); try simp only [Act.put, sa, s0, s1]
              refine tk 30 q040_98_4_30 (some 43) (v := ?v62) rfl rfl (by kernel_rfl) hHeld (by rfl) (fun _ _ _ x => x) (fun w h => ?y62) ?_; (case y62 => (try dsimp only at h); go_simp; try (with_reducible rfl)); try simp only [Act.put, sa, s0, s1]
              refine tk 31 q040_98_4_31 (some 44) (v := ?v63) rfl rfl (by kernel_rfl) hHeld (by rfl) (fun _ _ _ x => x) (fun w h => ?y63) ?_; (case y63 => (try dsimp only at h); go_simp; try (with_reducible rfl)); try simp only [Act.put, sa, s0, s1]
              refine tk 32 q040_98_4_32 (some 45) (v := ?v64) rfl rfl (by kernel_rfl) hHeld (by rfl) (fun _ _ _ x => x) (fun w h => ?y64) ?_; (case y64 => (try dsimp only at h); go_simp; try (with_reducible rfl)); try simp only [Act.put, sa, s0, s1]
              refine tk 33 q040_98_4_33 (some 46) (v := ?v65) rfl rfl (by kernel_rfl) hHeld (by rfl) (fun _ _ _ x => x) (fun w h => ?y65) ?_; (case y65 => (try dsimp only at h); go_simp; try (with_reducible rfl)); try simp only [Act.put, sa, s0, s1]
              refine tk 34 q040_98_4_34 (some 47) (v := ?v66) rfl rfl (by kernel_rfl) hHeld (by rfl) (fun _ _ _ x => x) (fun w h => ?y66) ?_; (case y66 => (try dsimp only at h); go_simp; try (with_reducible rfl)); try simp only [Act.put, sa, s0, s1]
              refine wpAnyH_done (by kernel_rfl) ?_ _
              have hbW : Below wr.heap.size wr w2 := hHeld
              go_wp2_with fail
              go_loopw [6] (fun jv wv => ∃ i : Nat, i ≤ j + 1 ∧ jv = .int .i64 i ∧ (∀ x, (hx : x < l.length) → x < i → l[x].fId ≠ id) ∧ Below wr.heap.size wr wv) (fun jv _ => j + 1 - (intOf jv).toNat)
              case atStart => exact ⟨0, Nat.zero_le _, rfl, fun x _ hx => by omega, hbW⟩
              case round =>
                obtain ⟨i, hi, rfl, hno, hbi⟩ := hrel
                have HNo := Hid.mk hno
                clear hno
                have hc1 := q1 _ hbi
                by_cases hil : i < j + 1
                · have hil' : i < l.length := by omega
                  obtain ⟨b2, o2, he2, hB2, cs2, hcl2, hcell2, rfl, _⟩ := (HRS.out.below rEntry_good (bthen hbk hbi)) i hil'
                  simp only [Option.some.injEq, Addr.mk.injEq, and_true] at he2
                  obtain ⟨rfl, rfl⟩ := he2
                  have hc2 := hcell2 1 _ rfl
                  have hu1 : (0 : Int) ≤ (i : Int) := by omega
                  have hu2 : (i : Int) < (n : Int) := by omega
                  have hu3 : (i : Int) < (j : Int) + 1 := by omega
                  by_cases he : l[i].fId = id
                  · have HV : Hid (okE m.fInodes [] ByteArray.empty l = false) := HNoV.out (HStep3.out i hil' hil he)
                    have heb : (l[i].fId == id) = true := by simp [he]
                    generalize l[i].fId = y at hc2 heb
                    clear hcell2 hcl2 he HNo
                    go_wp2_with fail
                    go_region
                    all_goals
                      go_wp2_with fail
                      go_ret
                      exact ⟨by rw [HV.out]; rfl, Below.trans hbk (Below.mono (Below.drew hbi) hbk.size)⟩
                  · have heb : (l[i].fId == id) = false := by simp [he]
                    have HNo' : Hid (∀ x, (hx : x < l.length) → x < i + 1 → l[x].fId ≠ id) := fun x hx hxi => by
                      by_cases hxi' : x = i
                      · subst hxi'; exact he
                      · exact HNo.out x hx (by omega)
                    generalize l[i].fId = y at hc2 heb
                    clear hcell2 hcl2 he HNo
                    go_wp2_with fail
                    go_region
                    all_goals
                      go_wp2_with fail
                      go_roundw
                      case rel => exact ⟨i + 1, by omega, by go_num, HNo'.out, Below.drew hbi⟩
                      case measure => simp [intOf]; omega
                · have HDone := Hid.mk (HYes.out (HOk.out (fun x hx hxj => HNo.out x hx (by omega))))
                  clear HNo
                  go_wp2_with fail
                  go_roundw
                  case rel => exact ⟨j + 1 + 1, by omega, by go_num, HDone.out, bthen hbk hbi, hbx.under hbi⟩
                  case measure => simp [intOf]; omega
            · have hS' : strLt l[j].fName l[j + 1].fName = false := by simpa using hS
              have HV : Hid (okE m.fInodes [] ByteArray.empty l = false) := HNoV.out (HStep4.out (by rw [HPN.out]; exact hS'))
              clear hN hH HStep2 HStep3 HStep4 HYes HNoV HPN hS
              unfold strLt at hS'
              generalize l[j].fName = pn at *
              generalize l[j + 1].fName = nm at *
              generalize l[j + 1].fId = id at *
              generalize placeZ m.fInodes id = pz at *
              go_wp2_with fail
              refine wp_region_held_drew (S := fun W => Below wr.heap.size wr W) (by kernel_rfl) (Below.drew (Below.refl _ _)) (fun hHeld => ?_)
              refine tk 0 q040_98_4_0 (some 13) (v := ?v67) rfl rfl (by kernel_rfl) hHeld (by rfl) (fun _ _ _ x => x) (fun w h => ?y67) ?_; (case y67 => (try dsimp only at h); go_simp; try (with_reducible rfl)); try simp only [Act.put, sa, s0, s1]
              refine tk 1 q040_98_4_1 (some 14) (v := ?v68) rfl rfl (by kernel_rfl) hHeld (by rfl) (fun _ _ _ x => x) (fun w h => ?y68) ?_; (case y68 => (try dsimp only at h); go_simp; try (with_reducible rfl)); try simp only [Act.put, sa, s0, s1]
              refine tk 2 q040_98_4_2 (some 15) (v := ?v69) rfl rfl (by kernel_rfl) hHeld (by rfl) (fun _ _ _ x => x) (fun w h => ?y69) ?_; (case y69 => (try dsimp only at h); go_simp; try (with_reducible rfl)); try simp only [Act.put, sa, s0, s1]
              refine tk 3 q040_98_4_3 (some 16) (v := ?v70) rfl rfl (by kernel_rfl) hHeld (by rfl) (fun _ _ _ x => x) (fun w h => ?y70) ?_; (case y70 => (try dsimp only at h); go_simp; try (with_reducible rfl)); try simp only [Act.put, sa, s0, s1]
              refine tk 4 q040_98_4_4 (some 17) (v := ?v71) rfl rfl (by kernel_rfl) hHeld (by rfl) (fun _ _ _ x => x) (fun w h => ?y71) ?_; (case y71 => (try dsimp only at h); go_simp; try (with_reducible rfl)); try simp only [Act.put, sa, s0, s1]
              refine wpAnyH_ready (rs := [5]) (by kernel_rfl) (by simp) ?_
              refine AllReadyH.cons (o := q040_98_4_5) rfl (fun K hK => ?_) AllReadyH.nil
              go_simp
              refine Calls.mono (hCn _) ?_
              rintro e w1 ⟨rfl, hw1⟩
              have hx1 := below_same hw1
              clear hw1
              go_wp2_with fail
              refine hK.out _ _ (bthen hHeld hx1) (fun hHeld => ?_)
              clear hK K
              try simp only [Act.put, sa, s0, s1]
              refine tk 6 q040_98_4_6 (some 19) (v := ?v72) rfl rfl (by kernel_rfl) hHeld (by rfl) (fun _ _ _ x => x) (fun w h => ?y72) ?_; (case y72 => (try dsimp only at h); go_simp; try (with_reducible rfl)); try simp only [Act.put, sa, s0, s1]
              refine tk 7 q040_98_4_7 (some 20) (v := ?v73) rfl rfl (by kernel_rfl) hHeld (by rfl) (fun _ _ _ x => x) (fun w h => ?y73) ?_; (case y73 => (try dsimp only at h); go_simp; try (with_reducible rfl)); try simp only [Act.put, sa, s0, s1]
              refine tk 8 q040_98_4_8 (some 21) (v := ?v74) rfl rfl (by kernel_rfl) hHeld (by rfl) (fun _ _ _ x => x) (fun w h => ?y74) ?_; (case y74 => (try dsimp only at h); go_simp; try (with_reducible rfl)); try simp only [Act.put, sa, s0, s1]
              refine tk 9 q040_98_4_9 (some 22) (v := ?v75) rfl rfl (by kernel_rfl) hHeld (by rfl) (fun _ _ _ x => x) (fun w h => ?y75) ?_; (case y75 => (try dsimp only at h); go_simp; try (with_reducible rfl)); try simp only [Act.put, sa, s0, s1]
              refine tk 10 q040_98_4_10 (some 23) (v := ?v76) rfl rfl (by kernel_rfl) hHeld (by rfl) (fun _ _ _ x => x) (fun w h => ?y76) ?_; (case y76 => (try dsimp only at h); go_simp; try (with_reducible rfl)); try simp only [Act.put, sa, s0, s1]
              refine tk 11 q040_98_4_11 (some 24) (v := ?v77) rfl rfl (by kernel_rfl) hHeld (by rfl) (fun _ _ _ x => x) (fun w h => ?y77) ?_; (case y77 => (try dsimp only at h); go_simp; try (with_reducible rfl)); try simp only [Act.put, sa, s0, s1]
              refine tk 12 q040_98_4_12 (some 25) (v := ?v78) rfl rfl (by kernel_rfl) hHeld (by rfl) (fun _ _ _ x => x) (fun w h => ?y78) ?_; (case y78 => (try dsimp only at h); go_simp; try (with_reducible rfl)); try simp only [Act.put, sa, s0, s1]
              refine tk 13 q040_98_4_13 (some 26) (v := ?v79) rfl rfl (by kernel_rfl) hHeld (by rfl) (fun _ _ _ x => x) (fun w h => ?y79) ?_; (case y79 => (try dsimp only at h); go_simp; try (with_reducible rfl)); try simp only [Act.put, sa, s0, s1]
              refine wpAnyH_ready (rs := [14]) (by kernel_rfl) (by simp) ?_
              refine AllReadyH.cons (o := q040_98_4_14) rfl (fun K hK => ?_) AllReadyH.nil
              go_simp
              refine Calls.mono (hCi _ hHeld) ?_
              rintro e w2 ⟨rfl, hx2⟩
              go_wp2_with fail
              refine hK.out _ _ (bthen hHeld hx2) (fun hHeld => ?_)
              clear hK K
              try simp only [Act.put, sa, s0, s1]
              refine tk 15 q040_98_4_15 (some 28) (v := ?v80) rfl rfl (by kernel_rfl) hHeld (by rfl) (fun _ _ _ x => x) (fun w h => ?y80) ?_; (case y80 => (try dsimp only at h); go_simp; try (with_reducible rfl)); try simp only [Act.put, sa, s0, s1]
              refine tk 16 q040_98_4_16 (some 29) (v := ?v81) rfl rfl (by kernel_rfl) hHeld (by rfl) (fun _ _ _ x => x) (fun w h => ?y81) ?_; (case y81 => (try dsimp only at h); go_simp; try (with_reducible rfl)); try simp only [Act.put, sa, s0, s1]
              refine tk 17 q040_98_4_17 (some 30) (v := ?v82) rfl rfl (by kernel_rfl) hHeld (by rfl) (fun _ _ _ x => x) (fun w h => ?y82) ?_; (case y82 => (try dsimp only at h); go_simp; try (with_reducible rfl)); try simp only [Act.put, sa, s0, s1]
              refine tk 18 q040_98_4_18 (some 31) (v := ?v83) rfl rfl (by kernel_rfl) hHeld (by rfl) (fun _ _ _ x => x) (fun w h => ?y83) ?_; (case y83 => (try dsimp only at h); go_simp; try (with_reducible rfl)); try simp only [Act.put, sa, s0, s1]
              refine tk 19 q040_98_4_19 (some 32) (v := ?v84) rfl rfl (by kernel_rfl) hHeld (by rfl) (fun _ _ _ x => x) (fun w h => ?y84) ?_; (case y84 => (try dsimp only at h); go_simp; try (with_reducible rfl)); try simp only [Act.put, sa, s0, s1]
              refine tk 20 q040_98_4_20 (some 33) (v := ?v85) rfl rfl (by kernel_rfl) hHeld (by rfl) (fun _ _ _ x => x) (fun w h => ?y85) ?_; (case y85 => (try dsimp only at h); go_simp; try (with_reducible rfl)); try simp only [Act.put, sa, s0, s1]
              refine tk 21 q040_98_4_21 (some 34) (v := ?v86) rfl rfl (by kernel_rfl) hHeld (by rfl) (fun _ _ _ x => x) (fun w h => ?y86) ?_; (case y86 => (try dsimp only at h); go_simp; try (with_reducible rfl)); try simp only [Act.put, sa, s0, s1]
              refine tk 22 q040_98_4_22 (some 35) (v := ?v87) rfl rfl (by kernel_rfl) hHeld (by rfl) (fun _ _ _ x => x) (fun w h => ?y87) ?_; (case y87 => (try dsimp only at h); go_simp; try (with_reducible rfl)); try simp only [Act.put, sa, s0, s1]
              refine tk 23 q040_98_4_23 (some 36) (v := ?v88) rfl rfl (by kernel_rfl) hHeld (by rfl) (fun _ _ _ x => x) (fun w h => ?y88) ?_; (case y88 => (try dsimp only at h); go_simp; try (with_reducible rfl)); try simp only [Act.put, sa, s0, s1]
              refine tk 24 q040_98_4_24 (some 37) (v := ?v89) rfl rfl (by kernel_rfl) hHeld (by rfl) (fun _ _ _ x => x) (fun w h => ?y89) ?_; (case y89 => (try dsimp only at h); go_simp; try (with_reducible rfl)); try simp only [Act.put, sa, s0, s1]
              refine tk 25 q040_98_4_25 (some 38) (v := ?v90) rfl rfl (by kernel_rfl) hHeld (by rfl) (fun _ _ _ x => x) (fun w h => ?y90) ?_; (case y90 => (try dsimp only at h); go_simp; try (with_reducible rfl)); try simp only [Act.put, sa, s0, s1]
              refine tk 26 q040_98_4_26 (some 39) (v := ?v91) rfl rfl (by kernel_rfl) hHeld (by rfl) (fun _ _ _ x => x) (fun w h => ?y91) ?_; (case y91 => (try dsimp only at h); go_simp; try (with_reducible rfl)); try simp only [Act.put, sa, s0, s1]
              refine tk 27 q040_98_4_27 (some 40) (v := ?v92) rfl rfl (by kernel_rfl) hHeld (by rfl) (fun _ _ _ x => x) (fun w h => ?y92) ?_; (case y92 => (try dsimp only at h); go_simp; try (with_reducible rfl)); try simp only [Act.put, sa, s0, s1]
              refine tk 28 q040_98_4_28 (some 41) (v := ?v93) rfl rfl (by kernel_rfl) hHeld (by rfl) (fun _ _ _ x => x) (fun w h => ?y93) ?_; (case y93 => (try dsimp only at h); go_simp; try (with_reducible rfl)); try simp only [Act.put, sa, s0, s1]
              refine tk 29 q040_98_4_29 (some 42) (v := ?v94) rfl rfl (by kernel_rfl) hHeld (by rfl) (fun _ _ _ x => x) (fun w h => ?y94) ?_; (case y94 => (try dsimp only at h); go_simp; try (with_reducible rfl)); try simp only [Act.put, sa, s0, s1]
              refine tk 30 q040_98_4_30 (some 43) (v := ?v95) rfl rfl (by kernel_rfl) hHeld (by rfl) (fun _ _ _ x => x) (fun w h => ?y95) ?_; (case y95 => (try dsimp only at h); go_simp; try (with_reducible rfl)); try simp only [Act.put, sa, s0, s1]
              refine tk 31 q040_98_4_31 (some 44) (v := ?v96) rfl rfl (by kernel_rfl) hHeld (by rfl) (fun _ _ _ x => x) (fun w h => ?y96) ?_; (case y96 => (try dsimp only at h); go_simp; try (with_reducible rfl)); try simp only [Act.put, sa, s0, s1]
              refine tk 32 q040_98_4_32 (some 45) (v := ?v97) rfl rfl (by kernel_rfl) hHeld (by rfl) (fun _ _ _ x => x) (fun w h => ?y97) ?_; (case y97 => (try dsimp only at h); go_simp; try (with_reducible rfl)); try simp only [Act.put, sa, s0, s1]
              refine tk 33 q040_98_4_33 (some 46) (v := ?v98) rfl rfl (by kernel_rfl) hHeld (by rfl) (fun _ _ _ x => x) (fun w h => ?y98) ?_; (case y98 => (try dsimp only at h); go_simp; try (with_reducible rfl)); try simp only [Act.put, sa, s0, s1]
              refine tk 34 q040_98_4_34 (some 47) (v := ?v99) rfl rfl (by kernel_rfl) hHeld (by rfl) (fun _ _ _ x => x) (fun w h => ?y99) ?_; (case y99 => (try dsimp only at h); go_simp; try (with_reducible rfl)); try simp only [Act.put, sa, s0, s1]
              refine wpAnyH_done (by kernel_rfl) ?_ _
              go_wp2_with fail
              go_ret
              exact ⟨by rw [HV.out]; rfl, bthen hbk hHeld⟩
        · have hH' : hasId m.fInodes l[k].fId = false := by simpa using hH
          have hpz : placeZ m.fInodes l[k].fId < 0 := placeZ_neg.2 hH'
          have HV : Hid (okE m.fInodes [] ByteArray.empty l = false) := HNoV.out (by rw [HStep.out, hH']; simp)
          simp only [hN] at hCn
          clear hN hH hH' HNoV HYes HStep
          generalize l[k].fName = nm at *
          generalize l[k].fId = id at *
          generalize placeZ m.fInodes id = pz at *
          go_wp2_with fail
          refine wp_region_held_drew (S := fun W => Below wr.heap.size wr W) (by kernel_rfl) (Below.drew (Below.refl _ _)) (fun hHeld => ?_)
          refine tk 0 q040_98_4_0 (some 13) (v := ?v100) rfl rfl (by kernel_rfl) hHeld (by rfl) (fun _ _ _ x => x) (fun w h => ?y100) ?_; (case y100 => (try dsimp only at h); go_simp; try (with_reducible rfl)); try simp only [Act.put, sa, s0, s1]
          refine tk 1 q040_98_4_1 (some 14) (v := ?v101) rfl rfl (by kernel_rfl) hHeld (by rfl) (fun _ _ _ x => x) (fun w h => ?y101) ?_; (case y101 => (try dsimp only at h); go_simp; try (with_reducible rfl)); try simp only [Act.put, sa, s0, s1]
          refine tk 2 q040_98_4_2 (some 15) (v := ?v102) rfl rfl (by kernel_rfl) hHeld (by rfl) (fun _ _ _ x => x) (fun w h => ?y102) ?_; (case y102 => (try dsimp only at h); go_simp; try (with_reducible rfl)); try simp only [Act.put, sa, s0, s1]
          refine tk 3 q040_98_4_3 (some 16) (v := ?v103) rfl rfl (by kernel_rfl) hHeld (by rfl) (fun _ _ _ x => x) (fun w h => ?y103) ?_; (case y103 => (try dsimp only at h); go_simp; try (with_reducible rfl)); try simp only [Act.put, sa, s0, s1]
          refine tk 4 q040_98_4_4 (some 17) (v := ?v104) rfl rfl (by kernel_rfl) hHeld (by rfl) (fun _ _ _ x => x) (fun w h => ?y104) ?_; (case y104 => (try dsimp only at h); go_simp; try (with_reducible rfl)); try simp only [Act.put, sa, s0, s1]
          refine wpAnyH_ready (rs := [5]) (by kernel_rfl) (by simp) ?_
          refine AllReadyH.cons (o := q040_98_4_5) rfl (fun K hK => ?_) AllReadyH.nil
          go_simp
          refine Calls.mono (hCn _) ?_
          rintro e w1 ⟨rfl, hw1⟩
          have hx1 := below_same hw1
          clear hw1
          go_wp2_with fail
          refine hK.out _ _ (bthen hHeld hx1) (fun hHeld => ?_)
          clear hK K
          try simp only [Act.put, sa, s0, s1]
          refine tk 6 q040_98_4_6 (some 19) (v := ?v105) rfl rfl (by kernel_rfl) hHeld (by rfl) (fun _ _ _ x => x) (fun w h => ?y105) ?_; (case y105 => (try dsimp only at h); go_simp; try (with_reducible rfl)); try simp only [Act.put, sa, s0, s1]
          refine tk 7 q040_98_4_7 (some 20) (v := ?v106) rfl rfl (by kernel_rfl) hHeld (by rfl) (fun _ _ _ x => x) (fun w h => ?y106) ?_; (case y106 => (try dsimp only at h); go_simp; try (with_reducible rfl)); try simp only [Act.put, sa, s0, s1]
          refine tk 8 q040_98_4_8 (some 21) (v := ?v107) rfl rfl (by kernel_rfl) hHeld (by rfl) (fun _ _ _ x => x) (fun w h => ?y107) ?_; (case y107 => (try dsimp only at h); go_simp; try (with_reducible rfl)); try simp only [Act.put, sa, s0, s1]
          refine tk 9 q040_98_4_9 (some 22) (v := ?v108) rfl rfl (by kernel_rfl) hHeld (by rfl) (fun _ _ _ x => x) (fun w h => ?y108) ?_; (case y108 => (try dsimp only at h); go_simp; try (with_reducible rfl)); try simp only [Act.put, sa, s0, s1]
          refine tk 10 q040_98_4_10 (some 23) (v := ?v109) rfl rfl (by kernel_rfl) hHeld (by rfl) (fun _ _ _ x => x) (fun w h => ?y109) ?_; (case y109 => (try dsimp only at h); go_simp; try (with_reducible rfl)); try simp only [Act.put, sa, s0, s1]
          refine tk 11 q040_98_4_11 (some 24) (v := ?v110) rfl rfl (by kernel_rfl) hHeld (by rfl) (fun _ _ _ x => x) (fun w h => ?y110) ?_; (case y110 => (try dsimp only at h); go_simp; try (with_reducible rfl)); try simp only [Act.put, sa, s0, s1]
          refine tk 12 q040_98_4_12 (some 25) (v := ?v111) rfl rfl (by kernel_rfl) hHeld (by rfl) (fun _ _ _ x => x) (fun w h => ?y111) ?_; (case y111 => (try dsimp only at h); go_simp; try (with_reducible rfl)); try simp only [Act.put, sa, s0, s1]
          refine tk 13 q040_98_4_13 (some 26) (v := ?v112) rfl rfl (by kernel_rfl) hHeld (by rfl) (fun _ _ _ x => x) (fun w h => ?y112) ?_; (case y112 => (try dsimp only at h); go_simp; try (with_reducible rfl)); try simp only [Act.put, sa, s0, s1]
          refine wpAnyH_ready (rs := [14]) (by kernel_rfl) (by simp) ?_
          refine AllReadyH.cons (o := q040_98_4_14) rfl (fun K hK => ?_) AllReadyH.nil
          go_simp
          refine Calls.mono (hCi _ hHeld) ?_
          rintro e w2 ⟨rfl, hx2⟩
          go_wp2_with fail
          refine hK.out _ _ (bthen hHeld hx2) (fun hHeld => ?_)
          clear hK K
          try simp only [Act.put, sa, s0, s1]
          refine tk 15 q040_98_4_15 (some 28) (v := ?v113) rfl rfl (by kernel_rfl) hHeld (by rfl) (fun _ _ _ x => x) (fun w h => ?y113) ?_; (case y113 => (try dsimp only at h); go_simp; try (with_reducible rfl)); try simp only [Act.put, sa, s0, s1]
          refine tk 16 q040_98_4_16 (some 29) (v := ?v114) rfl rfl (by kernel_rfl) hHeld (by rfl) (fun _ _ _ x => x) (fun w h => ?y114) ?_; (case y114 => (try dsimp only at h); go_simp; try (with_reducible rfl)); try simp only [Act.put, sa, s0, s1]
          refine tk 17 q040_98_4_17 (some 30) (v := ?v115) rfl rfl (by kernel_rfl) hHeld (by rfl) (fun _ _ _ x => x) (fun w h => ?y115) ?_; (case y115 => (try dsimp only at h); go_simp; try (with_reducible rfl)); try simp only [Act.put, sa, s0, s1]
          refine tn 18 q040_98_4_18 (some 31) rfl rfl (by kernel_rfl) hHeld (by rfl) (fun _ _ _ x => x) ?_; try simp only [Act.put, sa, s0, s1]
          refine tn 19 q040_98_4_19 (some 32) rfl rfl (by kernel_rfl) hHeld (by rfl) (fun _ _ _ x => x) ?_; try simp only [Act.put, sa, s0, s1]
          refine tn 20 q040_98_4_20 (some 33) rfl rfl (by kernel_rfl) hHeld (by rfl) (fun _ _ _ x => x) ?_; try simp only [Act.put, sa, s0, s1]
          refine tn 21 q040_98_4_21 (some 34) rfl rfl (by kernel_rfl) hHeld (by rfl) (fun _ _ _ x => x) ?_; try simp only [Act.put, sa, s0, s1]
          refine tn 22 q040_98_4_22 (some 35) rfl rfl (by kernel_rfl) hHeld (by rfl) (fun _ _ _ x => x) ?_; try simp only [Act.put, sa, s0, s1]
          refine tn 23 q040_98_4_23 (some 36) rfl rfl (by kernel_rfl) hHeld (by rfl) (fun _ _ _ x => x) ?_; try simp only [Act.put, sa, s0, s1]
          refine tn 24 q040_98_4_24 (some 37) rfl rfl (by kernel_rfl) hHeld (by rfl) (fun _ _ _ x => x) ?_; try simp only [Act.put, sa, s0, s1]
          refine tn 25 q040_98_4_25 (some 38) rfl rfl (by kernel_rfl) hHeld (by rfl) (fun _ _ _ x => x) ?_; try simp only [Act.put, sa, s0, s1]
          refine tn 26 q040_98_4_26 (some 39) rfl rfl (by kernel_rfl) hHeld (by rfl) (fun _ _ _ x => x) ?_; try simp only [Act.put, sa, s0, s1]
          refine tn 27 q040_98_4_27 (some 40) rfl rfl (by kernel_rfl) hHeld (by rfl) (fun _ _ _ x => x) ?_; try simp only [Act.put, sa, s0, s1]
          refine tn 28 q040_98_4_28 (some 41) rfl rfl (by kernel_rfl) hHeld (by rfl) (fun _ _ _ x => x) ?_; try simp only [Act.put, sa, s0, s1]
          refine tn 29 q040_98_4_29 (some 42) rfl rfl (by kernel_rfl) hHeld (by rfl) (fun _ _ _ x => x) ?_; try simp only [Act.put, sa, s0, s1]
          refine tn 30 q040_98_4_30 (some 43) rfl rfl (by kernel_rfl) hHeld (by rfl) (fun _ _ _ x => x) ?_; try simp only [Act.put, sa, s0, s1]
          refine tn 31 q040_98_4_31 (some 44) rfl rfl (by kernel_rfl) hHeld (by rfl) (fun _ _ _ x => x) ?_; try simp only [Act.put, sa, s0, s1]
          refine tn 32 q040_98_4_32 (some 45) rfl rfl (by kernel_rfl) hHeld (by rfl) (fun _ _ _ x => x) ?_; try simp only [Act.put, sa, s0, s1]
          refine tn 33 q040_98_4_33 (some 46) rfl rfl (by kernel_rfl) hHeld (by rfl) (fun _ _ _ x => x) ?_; try simp only [Act.put, sa, s0, s1]
          refine tk 34 q040_98_4_34 (some 47) (v := ?v132) rfl rfl (by kernel_rfl) hHeld (by rfl) (fun _ _ _ x => x) (fun w h => ?y132) ?_; (case y132 => (try dsimp only at h); go_simp; try (with_reducible rfl)); try simp only [Act.put, sa, s0, s1]
          refine wpAnyH_done (by kernel_rfl) ?_ _
          go_wp2_with fail
          go_ret
          exact ⟨by rw [HV.out]; rfl, bthen hbk hHeld⟩
      · have hN' : nameOk l[k].fName = false := by simpa using hN
        have HV : Hid (okE m.fInodes [] ByteArray.empty l = false) := HNoV.out (by rw [HStep.out, hN']; simp)
        simp only [hN'] at hCn
        clear hN HNoV HYes HStep
        generalize l[k].fName = nm at *
        generalize l[k].fId = id at *
        go_wp2_with fail
        refine wp_region_held_drew (S := fun W => Below wr.heap.size wr W) (by kernel_rfl) (Below.drew (Below.refl _ _)) (fun hHeld => ?_)
        refine tk 0 q040_98_4_0 (some 13) (v := ?v133) rfl rfl (by kernel_rfl) hHeld (by rfl) (fun _ _ _ x => x) (fun w h => ?y133) ?_; (case y133 => (try dsimp only at h); go_simp; try (with_reducible rfl)); try simp only [Act.put, sa, s0, s1]
        refine tk 1 q040_98_4_1 (some 14) (v := ?v134) rfl rfl (by kernel_rfl) hHeld (by rfl) (fun _ _ _ x => x) (fun w h => ?y134) ?_; (case y134 => (try dsimp only at h); go_simp; try (with_reducible rfl)); try simp only [Act.put, sa, s0, s1]
        refine tk 2 q040_98_4_2 (some 15) (v := ?v135) rfl rfl (by kernel_rfl) hHeld (by rfl) (fun _ _ _ x => x) (fun w h => ?y135) ?_; (case y135 => (try dsimp only at h); go_simp; try (with_reducible rfl)); try simp only [Act.put, sa, s0, s1]
        refine tk 3 q040_98_4_3 (some 16) (v := ?v136) rfl rfl (by kernel_rfl) hHeld (by rfl) (fun _ _ _ x => x) (fun w h => ?y136) ?_; (case y136 => (try dsimp only at h); go_simp; try (with_reducible rfl)); try simp only [Act.put, sa, s0, s1]
        refine tk 4 q040_98_4_4 (some 17) (v := ?v137) rfl rfl (by kernel_rfl) hHeld (by rfl) (fun _ _ _ x => x) (fun w h => ?y137) ?_; (case y137 => (try dsimp only at h); go_simp; try (with_reducible rfl)); try simp only [Act.put, sa, s0, s1]
        refine wpAnyH_ready (rs := [5]) (by kernel_rfl) (by simp) ?_
        refine AllReadyH.cons (o := q040_98_4_5) rfl (fun K hK => ?_) AllReadyH.nil
        go_simp
        refine Calls.mono (hCn _) ?_
        rintro e w1 ⟨rfl, hw1⟩
        have hx1 := below_same hw1
        clear hw1
        go_wp2_with fail
        refine hK.out _ _ (bthen hHeld hx1) (fun hHeld => ?_)
        clear hK K
        try simp only [Act.put, sa, s0, s1]
        refine tk 6 q040_98_4_6 (some 19) (v := ?v138) rfl rfl (by kernel_rfl) hHeld (by rfl) (fun _ _ _ x => x) (fun w h => ?y138) ?_; (case y138 => (try dsimp only at h); go_simp; try (with_reducible rfl)); try simp only [Act.put, sa, s0, s1]
        refine tk 7 q040_98_4_7 (some 20) (v := ?v139) rfl rfl (by kernel_rfl) hHeld (by rfl) (fun _ _ _ x => x) (fun w h => ?y139) ?_; (case y139 => (try dsimp only at h); go_simp; try (with_reducible rfl)); try simp only [Act.put, sa, s0, s1]
        refine tn 8 q040_98_4_8 (some 21) rfl rfl (by kernel_rfl) hHeld (by rfl) (fun _ _ _ x => x) ?_; try simp only [Act.put, sa, s0, s1]
        refine tn 9 q040_98_4_9 (some 22) rfl rfl (by kernel_rfl) hHeld (by rfl) (fun _ _ _ x => x) ?_; try simp only [Act.put, sa, s0, s1]
        refine tn 10 q040_98_4_10 (some 23) rfl rfl (by kernel_rfl) hHeld (by rfl) (fun _ _ _ x => x) ?_; try simp only [Act.put, sa, s0, s1]
        refine tn 11 q040_98_4_11 (some 24) rfl rfl (by kernel_rfl) hHeld (by rfl) (fun _ _ _ x => x) ?_; try simp only [Act.put, sa, s0, s1]
        refine tn 12 q040_98_4_12 (some 25) rfl rfl (by kernel_rfl) hHeld (by rfl) (fun _ _ _ x => x) ?_; try simp only [Act.put, sa, s0, s1]
        refine tn 13 q040_98_4_13 (some 26) rfl rfl (by kernel_rfl) hHeld (by rfl) (fun _ _ _ x => x) ?_; try simp only [Act.put, sa, s0, s1]
        refine tn 14 q040_98_4_14 (some 27) rfl rfl (by kernel_rfl) hHeld (by rfl) (fun _ _ _ x => x) ?_; try simp only [Act.put, sa, s0, s1]
        refine tn 15 q040_98_4_15 (some 28) rfl rfl (by kernel_rfl) hHeld (by rfl) (fun _ _ _ x => x) ?_; try simp only [Act.put, sa, s0, s1]
        refine tk 16 q040_98_4_16 (some 29) (v := ?v148) rfl rfl (by kernel_rfl) hHeld (by rfl) (fun _ _ _ x => x) (fun w h => ?y148) ?_; (case y148 => (try dsimp only at h); go_simp; try (with_reducible rfl)); try simp only [Act.put, sa, s0, s1]
        refine tk 17 q040_98_4_17 (some 30) (v := ?v149) rfl rfl (by kernel_rfl) hHeld (by rfl) (fun _ _ _ x => x) (fun w h => ?y149) ?_; (case y149 => (try dsimp only at h); go_simp; try (with_reducible rfl)); try simp only [Act.put, sa, s0, s1]
        refine tn 18 q040_98_4_18 (some 31) rfl rfl (by kernel_rfl) hHeld (by rfl) (fun _ _ _ x => x) ?_; try simp only [Act.put, sa, s0, s1]
        refine tn 19 q040_98_4_19 (some 32) rfl rfl (by kernel_rfl) hHeld (by rfl) (fun _ _ _ x => x) ?_; try simp only [Act.put, sa, s0, s1]
        refine tn 20 q040_98_4_20 (some 33) rfl rfl (by kernel_rfl) hHeld (by rfl) (fun _ _ _ x => x) ?_; try simp only [Act.put, sa, s0, s1]
        refine tn 21 q040_98_4_21 (some 34) rfl rfl (by kernel_rfl) hHeld (by rfl) (fun _ _ _ x => x) ?_; try simp only [Act.put, sa, s0, s1]
        refine tn 22 q040_98_4_22 (some 35) rfl rfl (by kernel_rfl) hHeld (by rfl) (fun _ _ _ x => x) ?_; try simp only [Act.put, sa, s0, s1]
        refine tn 23 q040_98_4_23 (some 36) rfl rfl (by kernel_rfl) hHeld (by rfl) (fun _ _ _ x => x) ?_; try simp only [Act.put, sa, s0, s1]
        refine tn 24 q040_98_4_24 (some 37) rfl rfl (by kernel_rfl) hHeld (by rfl) (fun _ _ _ x => x) ?_; try simp only [Act.put, sa, s0, s1]
        refine tn 25 q040_98_4_25 (some 38) rfl rfl (by kernel_rfl) hHeld (by rfl) (fun _ _ _ x => x) ?_; try simp only [Act.put, sa, s0, s1]
        refine tn 26 q040_98_4_26 (some 39) rfl rfl (by kernel_rfl) hHeld (by rfl) (fun _ _ _ x => x) ?_; try simp only [Act.put, sa, s0, s1]
        refine tn 27 q040_98_4_27 (some 40) rfl rfl (by kernel_rfl) hHeld (by rfl) (fun _ _ _ x => x) ?_; try simp only [Act.put, sa, s0, s1]
        refine tn 28 q040_98_4_28 (some 41) rfl rfl (by kernel_rfl) hHeld (by rfl) (fun _ _ _ x => x) ?_; try simp only [Act.put, sa, s0, s1]
        refine tn 29 q040_98_4_29 (some 42) rfl rfl (by kernel_rfl) hHeld (by rfl) (fun _ _ _ x => x) ?_; try simp only [Act.put, sa, s0, s1]
        refine tn 30 q040_98_4_30 (some 43) rfl rfl (by kernel_rfl) hHeld (by rfl) (fun _ _ _ x => x) ?_; try simp only [Act.put, sa, s0, s1]
        refine tn 31 q040_98_4_31 (some 44) rfl rfl (by kernel_rfl) hHeld (by rfl) (fun _ _ _ x => x) ?_; try simp only [Act.put, sa, s0, s1]
        refine tn 32 q040_98_4_32 (some 45) rfl rfl (by kernel_rfl) hHeld (by rfl) (fun _ _ _ x => x) ?_; try simp only [Act.put, sa, s0, s1]
        refine tn 33 q040_98_4_33 (some 46) rfl rfl (by kernel_rfl) hHeld (by rfl) (fun _ _ _ x => x) ?_; try simp only [Act.put, sa, s0, s1]
        refine tk 34 q040_98_4_34 (some 47) (v := ?v166) rfl rfl (by kernel_rfl) hHeld (by rfl) (fun _ _ _ x => x) (fun w h => ?y166) ?_; (case y166 => (try dsimp only at h); go_simp; try (with_reducible rfl)); try simp only [Act.put, sa, s0, s1]
        refine wpAnyH_done (by kernel_rfl) ?_ _
        go_wp2_with fail
        go_ret
        exact ⟨by rw [HV.out]; rfl, bthen hbk hHeld⟩
    · have hkn : k = n := by omega
      have HT2 : Hid (l.drop k = []) := List.drop_of_length_le (by rw [HX.out]; omega)
      have HV : Hid (okE m.fInodes [] ByteArray.empty l = true) := by
        show _ = true
        rw [HI.out, HT2.out]
        rfl
      have HL : Hid ((okE m.fInodes [] ByteArray.empty l && decide (l.length ≤ 30)) = decide (n ≤ 30)) := by
        show _ = _
        rw [HV.out, HX.out, Bool.true_and]
      go_wp2_with fail
      go_ret
      have HD : Hid (decide ((n : Int) ≤ 30) = decide (n ≤ 30)) := decide_eq_decide.2 (by omega)
      exact ⟨by rw [HL.out, ← HD.out]; rfl, hbk⟩

end Go.Proofs.YtnohnkcijomdjaaGreatDoor
