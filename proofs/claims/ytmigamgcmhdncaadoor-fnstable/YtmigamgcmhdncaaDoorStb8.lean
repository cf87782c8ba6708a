/-
  Part 9 of the texts that the proof leans on.
-/
import Derived.Test.YtmigamgcmhdncaaDoorStb0
import Derived.Test.YtmigamgcmhdncaaDoorStb2
set_option linter.unusedVariables false
set_option linter.unusedSimpArgs false
set_option maxRecDepth 10000

namespace Go.Proofs.YtmigamgcmhdncaaDoor
open Go.RowKit
abbrev q679_62_6_0 : Oper := ⟨some 28, .fieldAddr 52 (.tmp 1) 1, 0, "l08_graph.go:23", #[], none⟩
abbrev q679_62_6_1 : Oper := ⟨some 29, .load 26 (.tmp 28), 26, "l08_graph.go:23", #[⟨0, .data⟩], none⟩
abbrev q679_62_6_2 : Oper := ⟨some 30, .move (.tmp 3), 3, "l08_graph.go:23", #[], none⟩
abbrev q679_62_6_3 : Oper := ⟨some 31, .indexAddr 26 (.tmp 29) (.tmp 30), 0, "l08_graph.go:23", #[⟨1, .data⟩, ⟨2, .data⟩], none⟩
abbrev q679_62_6_4 : Oper := ⟨some 32, .load 40 (.tmp 31), 40, "l08_graph.go:23", #[⟨3, .data⟩], none⟩
abbrev q679_62_6_5 : Oper := ⟨some 33, .call { callee := .value (.func 87), args := #[.tmp 32], argTypes := #[40] }, 4, "l08_graph.go:23", #[⟨4, .data⟩], none⟩
abbrev q679_62_6_6 : Oper := ⟨some 34, .unOp .not 4 (.tmp 33), 4, "l08_graph.go:23", #[⟨5, .data⟩], none⟩
abbrev q679_62_6_7 : Oper := ⟨some 35, .move (.tmp 34), 4, "l08_graph.go:23", #[⟨6, .data⟩, ⟨5, .chain⟩], none⟩
abbrev q679_62_6_8 : Oper := ⟨some 36, .move (.tmp 3), 3, "l08_graph.go:23", #[⟨7, .guard⟩], some (7, false)⟩
abbrev q679_62_6_9 : Oper := ⟨some 37, .binOp .gtr 3 (.tmp 36) (.const (.int .i64 0)) 3, 4, "l08_graph.go:23", #[⟨8, .data⟩, ⟨7, .guard⟩], some (7, false)⟩
abbrev q679_62_6_10 : Oper := ⟨some 38, .move (.tmp 37), 4, "l08_graph.go:23", #[⟨9, .data⟩, ⟨7, .chain⟩, ⟨7, .guard⟩], some (7, false)⟩
abbrev q679_62_6_11 : Oper := ⟨some 39, .fieldAddr 52 (.tmp 1) 1, 0, "l08_graph.go:23", #[⟨10, .guard⟩], some (10, true)⟩
abbrev q679_62_6_12 : Oper := ⟨some 40, .load 26 (.tmp 39), 26, "l08_graph.go:23", #[⟨11, .data⟩, ⟨10, .guard⟩], some (10, true)⟩
abbrev q679_62_6_13 : Oper := ⟨some 41, .move (.tmp 3), 3, "l08_graph.go:23", #[⟨10, .guard⟩], some (10, true)⟩
abbrev q679_62_6_14 : Oper := ⟨some 42, .binOp .sub 3 (.tmp 41) (.const (.int .i64 1)) 3, 3, "l08_graph.go:23", #[⟨13, .data⟩, ⟨10, .guard⟩], some (10, true)⟩
abbrev q679_62_6_15 : Oper := ⟨some 43, .indexAddr 26 (.tmp 40) (.tmp 42), 0, "l08_graph.go:23", #[⟨12, .data⟩, ⟨14, .data⟩, ⟨10, .guard⟩], some (10, true)⟩
abbrev q679_62_6_16 : Oper := ⟨some 44, .load 40 (.tmp 43), 40, "l08_graph.go:23", #[⟨15, .data⟩, ⟨10, .guard⟩], some (10, true)⟩
abbrev q679_62_6_17 : Oper := ⟨some 45, .fieldAddr 52 (.tmp 1) 1, 0, "l08_graph.go:23", #[⟨10, .guard⟩], some (10, true)⟩
abbrev q679_62_6_18 : Oper := ⟨some 46, .load 26 (.tmp 45), 26, "l08_graph.go:23", #[⟨17, .data⟩, ⟨10, .guard⟩], some (10, true)⟩
abbrev q679_62_6_19 : Oper := ⟨some 47, .move (.tmp 3), 3, "l08_graph.go:23", #[⟨10, .guard⟩], some (10, true)⟩
abbrev q679_62_6_20 : Oper := ⟨some 48, .indexAddr 26 (.tmp 46) (.tmp 47), 0, "l08_graph.go:23", #[⟨18, .data⟩, ⟨19, .data⟩, ⟨10, .guard⟩], some (10, true)⟩
abbrev q679_62_6_21 : Oper := ⟨some 49, .load 40 (.tmp 48), 40, "l08_graph.go:23", #[⟨20, .data⟩, ⟨10, .guard⟩], some (10, true)⟩
abbrev q679_62_6_22 : Oper := ⟨some 50, .call { callee := .value (.func 63), args := #[.tmp 44, .tmp 49], argTypes := #[40, 40] }, 4, "l08_graph.go:23", #[⟨16, .data⟩, ⟨21, .data⟩, ⟨10, .chain⟩, ⟨10, .guard⟩], some (10, true)⟩
abbrev q679_62_6_23 : Oper := ⟨some 51, .unOp .not 4 (.tmp 50), 4, "l08_graph.go:23", #[⟨22, .data⟩, ⟨10, .guard⟩], some (10, true)⟩
abbrev q679_62_6_24 : Oper := ⟨some 52, .pick (.tmp 38) (.tmp 51) (.const (.bool false)), 4, "l08_graph.go:23", #[⟨10, .data⟩, ⟨23, .data⟩, ⟨7, .guard⟩], some (7, false)⟩
abbrev q679_62_6_25 : Oper := ⟨some 53, .pick (.tmp 35) (.const (.bool true)) (.tmp 52), 4, "l08_graph.go:23", #[⟨7, .data⟩, ⟨24, .data⟩], none⟩
abbrev q679_34_4_0 : Oper := ⟨some 11, .fieldAddr 30 (.tmp 1) 0, 0, "l08_graph.go:32", #[], none⟩
abbrev q679_34_4_1 : Oper := ⟨some 12, .load 28 (.tmp 11), 28, "l08_graph.go:32", #[⟨0, .data⟩], none⟩
abbrev q679_34_4_2 : Oper := ⟨some 13, .move (.tmp 3), 3, "l08_graph.go:32", #[], none⟩
abbrev q679_34_4_3 : Oper := ⟨some 14, .indexAddr 28 (.tmp 12) (.tmp 13), 0, "l08_graph.go:32", #[⟨1, .data⟩, ⟨2, .data⟩], none⟩
abbrev q679_34_4_4 : Oper := ⟨some 15, .load 52 (.tmp 14), 52, "l08_graph.go:32", #[⟨3, .data⟩], none⟩
abbrev q679_34_4_5 : Oper := ⟨some 16, .call { callee := .value (.func 62), args := #[.tmp 15], argTypes := #[52] }, 4, "l08_graph.go:32", #[⟨4, .data⟩], none⟩
abbrev q679_34_4_6 : Oper := ⟨some 17, .unOp .not 4 (.tmp 16), 4, "l08_graph.go:32", #[⟨5, .data⟩], none⟩
abbrev q679_34_4_7 : Oper := ⟨some 18, .move (.tmp 17), 4, "l08_graph.go:32", #[⟨6, .data⟩, ⟨5, .chain⟩], none⟩
abbrev q679_34_4_8 : Oper := ⟨some 19, .move (.tmp 3), 3, "l08_graph.go:32", #[⟨7, .guard⟩], some (7, false)⟩
abbrev q679_34_4_9 : Oper := ⟨some 20, .binOp .gtr 3 (.tmp 19) (.const (.int .i64 0)) 3, 4, "l08_graph.go:32", #[⟨8, .data⟩, ⟨7, .guard⟩], some (7, false)⟩
abbrev q679_34_4_10 : Oper := ⟨some 21, .move (.tmp 20), 4, "l08_graph.go:32", #[⟨9, .data⟩, ⟨7, .chain⟩, ⟨7, .guard⟩], some (7, false)⟩
abbrev q679_34_4_11 : Oper := ⟨some 22, .fieldAddr 30 (.tmp 1) 0, 0, "l08_graph.go:32", #[⟨10, .guard⟩], some (10, true)⟩
abbrev q679_34_4_12 : Oper := ⟨some 23, .load 28 (.tmp 22), 28, "l08_graph.go:32", #[⟨11, .data⟩, ⟨10, .guard⟩], some (10, true)⟩
abbrev q679_34_4_13 : Oper := ⟨some 24, .move (.tmp 3), 3, "l08_graph.go:32", #[⟨10, .guard⟩], some (10, true)⟩
abbrev q679_34_4_14 : Oper := ⟨some 25, .binOp .sub 3 (.tmp 24) (.const (.int .i64 1)) 3, 3, "l08_graph.go:32", #[⟨13, .data⟩, ⟨10, .guard⟩], some (10, true)⟩
abbrev q679_34_4_15 : Oper := ⟨some 26, .indexAddr 28 (.tmp 23) (.tmp 25), 0, "l08_graph.go:32", #[⟨12, .data⟩, ⟨14, .data⟩, ⟨10, .guard⟩], some (10, true)⟩
abbrev q679_34_4_16 : Oper := ⟨some 27, .fieldAddr 52 (.tmp 26) 0, 0, "l08_graph.go:32", #[⟨15, .data⟩, ⟨10, .guard⟩], some (10, true)⟩
abbrev q679_34_4_17 : Oper := ⟨some 28, .load 40 (.tmp 27), 40, "l08_graph.go:32", #[⟨16, .data⟩, ⟨10, .guard⟩], some (10, true)⟩
abbrev q679_34_4_18 : Oper := ⟨some 29, .fieldAddr 30 (.tmp 1) 0, 0, "l08_graph.go:32", #[⟨10, .guard⟩], some (10, true)⟩
abbrev q679_34_4_19 : Oper := ⟨some 30, .load 28 (.tmp 29), 28, "l08_graph.go:32", #[⟨18, .data⟩, ⟨10, .guard⟩], some (10, true)⟩
abbrev q679_34_4_20 : Oper := ⟨some 31, .move (.tmp 3), 3, "l08_graph.go:32", #[⟨10, .guard⟩], some (10, true)⟩
abbrev q679_34_4_21 : Oper := ⟨some 32, .indexAddr 28 (.tmp 30) (.tmp 31), 0, "l08_graph.go:32", #[⟨19, .data⟩, ⟨20, .data⟩, ⟨10, .guard⟩], some (10, true)⟩
abbrev q679_34_4_22 : Oper := ⟨some 33, .fieldAddr 52 (.tmp 32) 0, 0, "l08_graph.go:32", #[⟨21, .data⟩, ⟨10, .guard⟩], some (10, true)⟩
abbrev q679_34_4_23 : Oper := ⟨some 34, .load 40 (.tmp 33), 40, "l08_graph.go:32", #[⟨22, .data⟩, ⟨10, .guard⟩], some (10, true)⟩
abbrev q679_34_4_24 : Oper := ⟨some 35, .call { callee := .value (.func 63), args := #[.tmp 28, .tmp 34], argTypes := #[40, 40] }, 4, "l08_graph.go:32", #[⟨17, .data⟩, ⟨23, .data⟩, ⟨10, .chain⟩, ⟨10, .guard⟩], some (10, true)⟩
abbrev q679_34_4_25 : Oper := ⟨some 36, .unOp .not 4 (.tmp 35), 4, "l08_graph.go:32", #[⟨24, .data⟩, ⟨10, .guard⟩], some (10, true)⟩
abbrev q679_34_4_26 : Oper := ⟨some 37, .pick (.tmp 21) (.tmp 36) (.const (.bool false)), 4, "l08_graph.go:32", #[⟨10, .data⟩, ⟨25, .data⟩, ⟨7, .guard⟩], some (7, false)⟩
abbrev q679_34_4_27 : Oper := ⟨some 38, .pick (.tmp 18) (.const (.bool true)) (.tmp 37), 4, "l08_graph.go:32", #[⟨7, .data⟩, ⟨26, .data⟩], none⟩

set_option maxHeartbeats 4000000 in
theorem l8Item_any (cs : List Value) (m : MItem) (w : World) (hr : rItem w.heap.size w cs m) (hw : m.fDeps.length ≤ 1048576) :
    Calls Tryd.prog 62 #[.agg cs.toArray] w fun e w' => e = .returned (.bool (itemP m)) ∧ Below w.heap.size w w' := by
  obtain ⟨a, c2, rfl, g0, g1, g2, _⟩ := hr
  have HV : Hid (itemP m = (dotOkP m.fD && (decide (m.fDeps.length ≤ 60) && upOk dotOkP dotLt m.fDeps) && !hasD m.fDeps m.fD)) := rfl
  have HL := Hid.mk g2
  clear g2
  obtain ⟨l, hl⟩ : ∃ l, l = m.fDeps := ⟨_, rfl⟩
  rw [← hl] at HL HV hw ⊢
  clear hl
  obtain ⟨n, hx⟩ : ∃ n, n = l.length := ⟨_, rfl⟩
  rw [← hx] at hw HV ⊢
  have HX := Hid.mk hx.symm
  clear hx
  generalize itemP m = R at *
  generalize m.fD = d at *
  go_enter Tryd.func62, Tryd.ntmps62
  go_wp2_with fail
  obtain ⟨w0, hwq⟩ : ∃ wq, wq = w.alloc (.cells #[.int .i64 d.fR, .int .i64 d.fN, .slice a n c2] 52) := ⟨_, rfl⟩
  have hbq : Below w.heap.size w w0 := by rw [hwq]; exact (Below.refl _ _).alloc (Nat.le_refl _) _
  have hbx : Bx w0 w.heap.size [.int .i64 d.fR, .int .i64 d.fN, .slice a n c2] := by rw [hwq]; exact Bx.new _ _ _
  rw [← hwq]
  clear hwq
  refine (specDotOk_any [.int .i64 d.fR, .int .i64 d.fN] d w0 ⟨rfl, g0, g1, trivial⟩).mono ?_
  rintro e w1 ⟨rfl, hx1⟩
  have hb1 := bthen hbq hx1
  have hbx1 := hbx.under hx1
  have y0 := hbx1.2 0 _ rfl
  have y1 := hbx1.2 1 _ rfl
  have y2 := hbx1.2 2 _ rfl
  by_cases h1 : dotOkP d = true
  rotate_left
  · have h1' : dotOkP d = false := Bool.eq_false_iff.2 h1
    have HW : Hid (R = false) := by unfold Hid; rw [HV.out, h1']; rfl
    rw [h1']
    clear h1 h1'
    go_wp2_with fail
    go_ret
    exact ⟨by rw [HW.out]; rfl, hb1⟩
  rw [h1]
  by_cases h60 : n ≤ 60
  rotate_left
  · have HW : Hid (R = false) := by unfold Hid; rw [HV.out, decide_eq_false h60]; simp
    have hgt : (60 : Int) < (n : Int) := by omega
    go_wp2_with fail
    go_ret
    exact ⟨by rw [HW.out]; rfl, hb1⟩
  have hle : ¬ (60 : Int) < (n : Int) := by omega
  go_wp2_with fail
  refine (l8Has_any a n c2 l [.int .i64 d.fR, .int .i64 d.fN] d w1 HX.out hw ((HL.out.below rDot_good hb1).mono rDot_good hb1.size) ⟨rfl, g0, g1, trivial⟩).mono ?_
  rintro e wq ⟨rfl, hx2⟩
  clear hbq hbx y0 y1 y2
  have hbq := bthen hb1 hx2
  have hbx := hbx1.under hx2
  by_cases h2 : hasD l d = true
  · have HW : Hid (R = false) := by unfold Hid; rw [HV.out, h2]; simp
    rw [h2]
    clear h1 h2
    go_wp2_with fail
    go_ret
    exact ⟨by rw [HW.out]; rfl, hbq⟩
  have h2' : hasD l d = false := Bool.eq_false_iff.2 h2
  rw [h2']
  have HUF : Hid (upOk dotOkP dotLt l = false → R = false) := fun h => by rw [HV.out, h]; simp
  have HUT : Hid (upOk dotOkP dotLt l = true → R = true) := fun h => by rw [HV.out, h, h1, h2', decide_eq_true h60]; rfl
  clear HV h1 h2 h2' hx1 hx2 hbx1 hb1
  go_wp2_with fail
  go_loopw [3] (fun i wr => ∃ k : Nat, k ≤ n ∧ i = .int .i64 k ∧ Hid (∀ j, j < k → stepOk dotOkP dotLt l j = true) ∧ Below wq.heap.size wq wr) (fun i _ => n - (intOf i).toNat)
  case atStart => exact ⟨0, Nat.zero_le _, rfl, Hid.mk (fun j h => absurd h (Nat.not_lt_zero j)), Below.refl _ _⟩
  case round =>
    obtain ⟨k, hk, rfl, HI, hbk⟩ := hrel
    have hbw := bthen hbq hbk
    have hbz := hbw.size
    have v0 := (hbx.under hbk).2 0 _ rfl
    have v1 := (hbx.under hbk).2 1 _ rfl
    have v2 := (hbx.under hbk).2 2 _ rfl
    by_cases hlt : k < n
    · have hkl : k < l.length := by rw [HX.out]; exact hlt
      obtain ⟨b1, o1, rfl, hB, cs, hcl, hcell, rfl, f0, f1, _⟩ := (HL.out.2.2.below rDot_good hbw) k hkl
      have hB' : b1 < wr.heap.size := by omega
      have k0 := hcell 0 _ rfl
      have k1 := hcell 1 _ rfl
      rw [Nat.add_zero] at k0
      have HB1 : Hid (dotOkP l[k] = false → upOk dotOkP dotLt l = false) := fun h => upOk_no hkl (stepOk_bad hkl h)
      have HB2 : Hid (stepOk dotOkP dotLt l k = false → upOk dotOkP dotLt l = false) := fun h => upOk_no hkl h
      have HG : Hid (stepOk dotOkP dotLt l k = true → ∀ j, j < k + 1 → stepOk dotOkP dotLt l j = true) := fun h => all_next HI.out h
      clear hcell hcl
      obtain ⟨wp, hwp⟩ : ∃ wp, wp = wr := ⟨_, rfl⟩
      have hbp : Below wr.heap.size wr wp := by rw [hwp]; exact Below.refl _ _
      have hbwp := bthen hbk hbp
      have hbww := bthen hbq hbwp
      have e0 : ∀ W, Below wp.heap.size wp W → W.cell? ⟨b1, o1 + k * 2, none⟩ = some (.int .i64 l[k].fR) := fun W hb => ((bthen hbp hb).cell (p := ⟨b1, o1 + k * 2, none⟩) hB').trans k0
      have e1 : ∀ W, Below wp.heap.size wp W → W.cell? ⟨b1, o1 + k * 2 + 1, none⟩ = some (.int .i64 l[k].fN) := fun W hb => ((bthen hbp hb).cell (p := ⟨b1, o1 + k * 2 + 1, none⟩) hB').trans k1
      have z0 : ∀ W, Below wp.heap.size wp W → W.cell? ⟨w.heap.size, 0, none⟩ = some (.int .i64 d.fR) := fun W hb => ((hbx.under hbwp).under hb).2 0 _ rfl
      have z1 : ∀ W, Below wp.heap.size wp W → W.cell? ⟨w.heap.size, 1, none⟩ = some (.int .i64 d.fN) := fun W hb => ((hbx.under hbwp).under hb).2 1 _ rfl
      have z2 : ∀ W, Below wp.heap.size wp W → W.cell? ⟨w.heap.size, 2, none⟩ = some (.slice (some ⟨b1, o1, none⟩) n c2) := fun W hb => ((hbx.under hbwp).under hb).2 2 _ rfl
      clear v0 v1 v2
      have v0 := (hbx.under hbk).2 0 _ rfl
      have v1 := (hbx.under hbk).2 1 _ rfl
      have v2 := (hbx.under hbk).2 2 _ rfl
      have hCp := fun W (hb : Below wp.heap.size wp W) => specDotOk_any [.int .i64 l[k].fR, .int .i64 l[k].fN] l[k] W ⟨rfl, f0, f1, trivial⟩
      have hk1 : (0 : Int) ≤ (k : Int) := by omega
      have hk2 : (k : Int) < (n : Int) := by omega
      by_cases hP : dotOkP l[k] = true
      · simp only [hP] at hCp
        by_cases h0 : k = 0
        · subst h0
          simp only [Nat.zero_mul, Nat.add_zero] at k0 k1 e0 e1
          have HD : Hid (∀ j, j < 0 + 1 → stepOk dotOkP dotLt l j = true) := HG.out (stepOk_zero hkl hP)
          clear HB1 HB2 HG HI hP
          generalize l[0] = x at *
          go_wp2_with fail
          subst hwp
          refine wp_region_held_drew (S := fun W => Below wp.heap.size wp W) (by kernel_rfl) (Below.drew (Below.refl _ _)) (fun hHeld => ?_)
          refine tk 0 q679_62_6_0 (some 28) (v := ?v1) rfl rfl (by kernel_rfl) hHeld (by rfl) (fun _ _ _ x => x) (fun w h => ?y1) ?_; (case y1 => (try dsimp only at h); go_simp; try (with_reducible rfl)); try simp only [Act.put, sa, s0, s1]
          refine tk 1 q679_62_6_1 (some 29) (v := ?v2) rfl rfl (by kernel_rfl) hHeld (by rfl) (fun _ _ _ x => x) (fun w h => ?y2) ?_; (case y2 => (try dsimp only at h); go_simp; try (with_reducible rfl)); try simp only [Act.put, sa, s0, s1]
          refine tk 2 q679_62_6_2 (some 30) (v := ?v3) rfl rfl (by kernel_rfl) hHeld (by rfl) (fun _ _ _ x => x) (fun w h => ?y3) ?_; (case y3 => (try dsimp only at h); go_simp; try (with_reducible rfl)); try simp only [Act.put, sa, s0, s1]
          refine tk 3 q679_62_6_3 (some 31) (v := ?v4) rfl rfl (by kernel_rfl) hHeld (by rfl) (fun _ _ _ x => x) (fun w h => ?y4) ?_; (case y4 => (try dsimp only at h); go_simp; try (with_reducible rfl)); try simp only [Act.put, sa, s0, s1]
          refine tk 4 q679_62_6_4 (some 32) (v := ?v5) rfl rfl (by kernel_rfl) hHeld (by rfl) (fun _ _ _ x => x) (fun w h => ?y5) ?_; (case y5 => (try dsimp only at h); go_simp; try (with_reducible rfl)); try simp only [Act.put, sa, s0, s1]
          refine wpAnyH_ready (rs := [5]) (by kernel_rfl) (by simp) ?_
          refine AllReadyH.cons (o := q679_62_6_5) rfl (fun K hK => ?_) AllReadyH.nil
          go_simp
          refine Calls.mono (hCp _ hHeld) ?_
          rintro e w1 ⟨rfl, hx1⟩
          go_wp2_with fail
          refine hK.out _ _ (bthen hHeld hx1) (fun hHeld => ?_)
          clear hK K
          try simp only [Act.put, sa, s0, s1]
          refine tk 6 q679_62_6_6 (some 34) (v := ?v6) rfl rfl (by kernel_rfl) hHeld (by rfl) (fun _ _ _ x => x) (fun w h => ?y6) ?_; (case y6 => (try dsimp only at h); go_simp; try (with_reducible rfl)); try simp only [Act.put, sa, s0, s1]
          refine tk 7 q679_62_6_7 (some 35) (v := ?v7) rfl rfl (by kernel_rfl) hHeld (by rfl) (fun _ _ _ x => x) (fun w h => ?y7) ?_; (case y7 => (try dsimp only at h); go_simp; try (with_reducible rfl)); try simp only [Act.put, sa, s0, s1]
          refine tk 8 q679_62_6_8 (some 36) (v := ?v8) rfl rfl (by kernel_rfl) hHeld (by rfl) (fun _ _ _ x => x) (fun w h => ?y8) ?_; (case y8 => (try dsimp only at h); go_simp; try (with_reducible rfl)); try simp only [Act.put, sa, s0, s1]
          refine tk 9 q679_62_6_9 (some 37) (v := ?v9) rfl rfl (by kernel_rfl) hHeld (by rfl) (fun _ _ _ x => x) (fun w h => ?y9) ?_; (case y9 => (try dsimp only at h); go_simp; try (with_reducible rfl)); try simp only [Act.put, sa, s0, s1]
          refine tk 10 q679_62_6_10 (some 38) (v := ?v10) rfl rfl (by kernel_rfl) hHeld (by rfl) (fun _ _ _ x => x) (fun w h => ?y10) ?_; (case y10 => (try dsimp only at h); go_simp; try (with_reducible rfl)); try simp only [Act.put, sa, s0, s1]
          refine tn 11 q679_62_6_11 (some 39) rfl rfl (by kernel_rfl) hHeld (by rfl) (fun _ _ _ x => x) ?_; try simp only [Act.put, sa, s0, s1]
          refine tn 12 q679_62_6_12 (some 40) rfl rfl (by kernel_rfl) hHeld (by rfl) (fun _ _ _ x => x) ?_; try simp only [Act.put, sa, s0, s1]
          refine tn 13 q679_62_6_13 (some 41) rfl rfl (by kernel_rfl) hHeld (by rfl) (fun _ _ _ x => x) ?_; try simp only [Act.put, sa, s0, s1]
          refine tn 14 q679_62_6_14 (some 42) rfl rfl (by kernel_rfl) hHeld (by rfl) (fun _ _ _ x => x) ?_; try simp only [Act.put, sa, s0, s1]
          refine tn 15 q679_62_6_15 (some 43) rfl rfl (by kernel_rfl) hHeld (by rfl) (fun _ _ _ x => x) ?_; try simp only [Act.put, sa, s0, s1]
          refine tn 16 q679_62_6_16 (some 44) rfl rfl (by kernel_rfl) hHeld (by rfl) (fun _ _ _ x => x) ?_; try simp only [Act.put, sa, s0, s1]
          refine tn 17 q679_62_6_17 (some 45) rfl rfl (by kernel_rfl) hHeld (by rfl) (fun _ _ _ x => x) ?_; try simp only [Act.put, sa, s0, s1]
          refine tn 18 q679_62_6_18 (some 46) rfl rfl (by kernel_rfl) hHeld (by rfl) (fun _ _ _ x => x) ?_; try simp only [Act.put, sa, s0, s1]
          refine tn 19 q679_62_6_19 (some 47) rfl rfl (by kernel_rfl) hHeld (by rfl) (fun _ _ _ x => x) ?_; try simp only [Act.put, sa, s0, s1]
          refine tn 20 q679_62_6_20 (some 48) rfl rfl (by kernel_rfl) hHeld (by rfl) (fun _ _ _ x => x) ?_; try simp only [Act.put, sa, s0, s1]
          refine tn 21 q679_62_6_21 (some 49) rfl rfl (by kernel_rfl) hHeld (by rfl) (fun _ _ _ x => x) ?_; try simp only [Act.put, sa, s0, s1]
          refine tn 22 q679_62_6_22 (some 50) rfl rfl (by kernel_rfl) hHeld (by rfl) (fun _ _ _ x => x) ?_; try simp only [Act.put, sa, s0, s1]
          refine tn 23 q679_62_6_23 (some 51) rfl rfl (by kernel_rfl) hHeld (by rfl) (fun _ _ _ x => x) ?_; try simp only [Act.put, sa, s0, s1]
          refine tk 24 q679_62_6_24 (some 52) (v := ?v24) rfl rfl (by kernel_rfl) hHeld (by rfl) (fun _ _ _ x => x) (fun w h => ?y24) ?_; (case y24 => (try dsimp only at h); go_simp; try (with_reducible rfl)); try simp only [Act.put, sa, s0, s1]
          refine tk 25 q679_62_6_25 (some 53) (v := ?v25) rfl rfl (by kernel_rfl) hHeld (by rfl) (fun _ _ _ x => x) (fun w h => ?y25) ?_; (case y25 => (try dsimp only at h); go_simp; try (with_reducible rfl)); try simp only [Act.put, sa, s0, s1]
          refine wpAnyH_done (by kernel_rfl) ?_ _
          go_wp2_with fail
          go_roundw
          case rel => exact ⟨1, by omega, by go_num, HD, bthen hbwp hHeld⟩
          case measure => simp [intOf]; omega
        · obtain ⟨j, rfl⟩ : ∃ j, k = j + 1 := ⟨k - 1, by omega⟩
          have hjl : j < l.length := by omega
          obtain ⟨b1', o1', he1, _, cs', hcl', hcell', rfl, g0', g1', _⟩ := (HL.out.2.2.below rDot_good hbw) j hjl
          simp only [Option.some.injEq, Addr.mk.injEq, and_true] at he1
          obtain ⟨rfl, rfl⟩ := he1
          have j0 := hcell' 0 _ rfl
          have j1 := hcell' 1 _ rfl
          rw [Nat.add_zero] at j0
          have q0 : ∀ W, Below wp.heap.size wp W → W.cell? ⟨b1, o1 + j * 2, none⟩ = some (.int .i64 l[j].fR) := fun W hb => ((bthen hbp hb).cell (p := ⟨b1, o1 + j * 2, none⟩) hB').trans j0
          have q1 : ∀ W, Below wp.heap.size wp W → W.cell? ⟨b1, o1 + j * 2 + 1, none⟩ = some (.int .i64 l[j].fN) := fun W hb => ((bthen hbp hb).cell (p := ⟨b1, o1 + j * 2 + 1, none⟩) hB').trans j1
          have HPK : Hid (stepOk dotOkP dotLt l (j + 1) = dotLt l[j] l[j + 1]) := stepOk_succ hjl hkl hP
          have hCk := fun W (hb : Below wp.heap.size wp W) => specDotLess_any [.int .i64 l[j].fR, .int .i64 l[j].fN] [.int .i64 l[j + 1].fR, .int .i64 l[j + 1].fN] l[j] l[j + 1] W ⟨rfl, g0', g1', trivial⟩ ⟨rfl, f0, f1, trivial⟩
          have hj1 : (0 : Int) ≤ (j : Int) := by omega
          have hj2 : (j : Int) < (n : Int) := by omega
          have hj3 : (0 : Int) ≤ (j : Int) + 1 := by omega
          have hj4 : (j : Int) + 1 < (n : Int) := by omega
          have hwr : IntKind.i64.wrap (j : Int) = (j : Int) := by rw [IntKind.wrap_i64]; omega
          clear hcell' hcl' j0 j1
          by_cases hK : dotLt l[j] l[j + 1] = true
          · simp only [hK] at hCk
            have HD : Hid (∀ i, i < j + 1 + 1 → stepOk dotOkP dotLt l i = true) := HG.out (by rw [HPK.out]; exact hK)
            clear HB1 HB2 HG HI HPK hP hK
            generalize l[j + 1] = x at *
            generalize l[j] = y at *
            go_wp2_with fail
            subst hwp
            refine wp_region_held_drew (S := fun W => Below wp.heap.size wp W) (by kernel_rfl) (Below.drew (Below.refl _ _)) (fun hHeld => ?_)
            refine tk 0 q679_62_6_0 (some 28) (v := ?v26) rfl rfl (by kernel_rfl) hHeld (by rfl) (fun _ _ _ x => x) (fun w h => ?y26) ?_; (case y26 => (try dsimp only at h); go_simp; try (with_reducible rfl)); try simp only [Act.put, sa, s0, s1]
            refine tk 1 q679_62_6_1 (some 29) (v := ?v27) rfl rfl (by kernel_rfl) hHeld (by rfl) (fun _ _ _ x => x) (fun w h => ?y27) ?_; (case y27 => (try dsimp only at h); go_simp; try (with_reducible rfl)); try simp only [Act.put, sa, s0, s1]
            refine tk 2 q679_62_6_2 (some 30) (v := ?v28) rfl rfl (by kernel_rfl) hHeld (by rfl) (fun _ _ _ x => x) (fun w h => ?y28) ?_; (case y28 => (try dsimp only at h); go_simp; try (with_reducible rfl)); try simp only [Act.put, sa, s0, s1]
            refine tk 3 q679_62_6_3 (some 31) (v := ?v29) rfl rfl (by kernel_rfl) hHeld (by rfl) (fun _ _ _ x => x) (fun w h => ?y29) ?_; (case y29 => (try dsimp only at h); go_simp; try (with_reducible rfl)); try simp only [Act.put, sa, s0, s1]
            refine tk 4 q679_62_6_4 (some 32) (v := ?v30) rfl rfl (by kernel_rfl) hHeld (by rfl) (fun _ _ _ x => x) (fun w h => ?y30) ?_; (case y30 => (try dsimp only at h); go_simp; try (with_reducible rfl)); try simp only [Act.put, sa, s0, s1]
            refine wpAnyH_ready (rs := [5]) (by kernel_rfl) (by simp) ?_
            refine AllReadyH.cons (o := q679_62_6_5) rfl (fun K hK => ?_) AllReadyH.nil
            go_simp
            refine Calls.mono (hCp _ hHeld) ?_
            rintro e w1 ⟨rfl, hx1⟩
            go_wp2_with fail
            refine hK.out _ _ (bthen hHeld hx1) (fun hHeld => ?_)
            clear hK K
            try simp only [Act.put, sa, s0, s1]
            refine tk 6 q679_62_6_6 (some 34) (v := ?v31) rfl rfl (by kernel_rfl) hHeld (by rfl) (fun _ _ _ x => x) (fun w h => ?y31) ?_; (case y31 => (try dsimp only at h); go_simp; try (with_reducible rfl)); try simp only [Act.put, sa, s0, s1]
            refine tk 7 q679_62_6_7 (some 35) (v := ?v32) rfl rfl (by kernel_rfl) hHeld (by rfl) (fun _ _ _ x => x) (fun w h => ?y32) ?_; (case y32 => (try dsimp only at h); go_simp; try (with_reducible rfl)); try simp only [Act.put, sa, s0, s1]
            refine tk 8 q679_62_6_8 (some 36) (v := ?v33) rfl rfl (by kernel_rfl) hHeld (by rfl) (fun _ _ _ x => x) (fun w h => ?y33) ?_; (case y33 => (try dsimp only at h); go_simp; try (with_reducible rfl)); try simp only [Act.put, sa, s0, s1]
            refine tk 9 q679_62_6_9 (some 37) (v := ?v34) rfl rfl (by kernel_rfl) hHeld (by rfl) (fun _ _ _ x => x) (fun w h => ?y34) ?_; (case y34 => (try dsimp only at h); go_simp; try (with_reducible rfl)); try simp only [Act.put, sa, s0, s1]
            refine tk 10 q679_62_6_10 (some 38) (v := ?v35) rfl rfl (by kernel_rfl) hHeld (by rfl) (fun _ _ _ x => x) (fun w h => ?y35) ?_; (case y35 => (try dsimp only at h); go_simp; try (with_reducible rfl)); try simp only [Act.put, sa, s0, s1]
            refine tk 11 q679_62_6_11 (some 39) (v := ?v36) rfl rfl (by kernel_rfl) hHeld (by rfl) (fun _ _ _ x => x) (fun w h => ?y36) ?_; (case y36 => (try dsimp only at h); go_simp; try (with_reducible rfl)); try simp only [Act.put, sa, s0, s1]
            refine tk 12 q679_62_6_12 (some 40) (v := ?v37) rfl rfl (by kernel_rfl) hHeld (by rfl) (fun _ _ _ x => x) (fun w h => ?y37) ?_; (case y37 => (try dsimp only at h); go_simp; try (with_reducible rfl)); try simp only [Act.put, sa, s0, s1]
            refine tk 13 q679_62_6_13 (some 41) (v := ?v38) rfl rfl (by kernel_rfl) hHeld (by rfl) (fun _ _ _ x => x) (fun w h => ?y38) ?_; (case y38 => (try dsimp only at h); go_simp; try (with_reducible rfl)); try simp only [Act.put, sa, s0, s1]
            refine tk 14 q679_62_6_14 (some 42) (v := ?v39) rfl rfl (by kernel_rfl) hHeld (by rfl) (fun _ _ _ x => x) (fun w h => ?y39) ?_; (case y39 => (try dsimp only at h); go_simp; try (with_reducible rfl)); try simp only [Act.put, sa, s0, s1]
            refine tk 15 q679_62_6_15 (some 43) (v := ?v40) rfl rfl (by kernel_rfl) hHeld (by rfl) (fun _ _ _ x => x) (fun w h => ?y40) ?_; (case y40 => (try dsimp only at h); go_simp; try (with_reducible rfl)); try simp only [Act.put, sa, s0, s1]
            refine tk 16 q679_62_6_16 (some 44) (v := ?v41) rfl rfl (by kernel_rfl) hHeld (by rfl) (fun _ _ _ x => x) (fun w h => ?y41) ?_; (case y41 => (try dsimp only at h); go_simp; try (with_reducible rfl)); try simp only [Act.put, sa, s0, s1]
            refine tk 17 q679_62_6_17 (some 45) (v := ?v42) rfl rfl (by kernel_rfl) hHeld (by rfl) (fun _ _ _ x => x) (fun w h => ?y42) ?_; (case y42 => (try dsimp only at h); go_simp; try (with_reducible rfl)); try simp only [Act.put, sa, s0, s1]
            refine tk 18 q679_62_6_18 (some 46) (v := ?v43) rfl rfl (by kernel_rfl) hHeld (by rfl) (fun _ _ _ x => x) (fun w h => ?y43) ?_; (case y43 => (try dsimp only at h); go_simp; try (with_reducible rfl)); try simp only [Act.put, sa, s0, s1]
            refine tk 19 q679_62_6_19 (some 47) (v := ?v44) rfl rfl (by kernel_rfl) hHeld (by rfl) (fun _ _ _ x => x) (fun w h => ?y44) ?_; (case y44 => (try dsimp only at h); go_simp; try (with_reducible rfl)); try simp only [Act.put, sa, s0, s1]
            refine tk 20 q679_62_6_20 (some 48) (v := ?v45) rfl rfl (by kernel_rfl) hHeld (by rfl) (fun _ _ _ x => x) (fun w h => ?y45) ?_; (case y45 => (try dsimp only at h); go_simp; try (with_reducible rfl)); try simp only [Act.put, sa, s0, s1]
            refine tk 21 q679_62_6_21 (some 49) (v := ?v46) rfl rfl (by kernel_rfl) hHeld (by rfl) (fun _ _ _ x => x) (fun w h => ?y46) ?_; (case y46 => (try dsimp only at h); go_simp; try (with_reducible rfl)); try simp only [Act.put, sa, s0, s1]
            refine wpAnyH_ready (rs := [22]) (by kernel_rfl) (by simp) ?_
            refine AllReadyH.cons (o := q679_62_6_22) rfl (fun K hK => ?_) AllReadyH.nil
            go_simp
            refine Calls.mono (hCk _ hHeld) ?_
            rintro e w2 ⟨rfl, hx2⟩
            go_wp2_with fail
            refine hK.out _ _ (bthen hHeld hx2) (fun hHeld => ?_)
            clear hK K
            try simp only [Act.put, sa, s0, s1]
            refine tk 23 q679_62_6_23 (some 51) (v := ?v47) rfl rfl (by kernel_rfl) hHeld (by rfl) (fun _ _ _ x => x) (fun w h => ?y47) ?_; (case y47 => (try dsimp only at h); go_simp; try (with_reducible rfl)); try simp only [Act.put, sa, s0, s1]
            refine tk 24 q679_62_6_24 (some 52) (v := ?v48) rfl rfl (by kernel_rfl) hHeld (by rfl) (fun _ _ _ x => x) (fun w h => ?y48) ?_; (case y48 => (try dsimp only at h); go_simp; try (with_reducible rfl)); try simp only [Act.put, sa, s0, s1]
            refine tk 25 q679_62_6_25 (some 53) (v := ?v49) rfl rfl (by kernel_rfl) hHeld (by rfl) (fun _ _ _ x => x) (fun w h => ?y49) ?_; (case y49 => (try dsimp only at h); go_simp; try (with_reducible rfl)); try simp only [Act.put, sa, s0, s1]
            refine wpAnyH_done (by kernel_rfl) ?_ _
            go_wp2_with fail
            go_roundw
            case rel => exact ⟨j + 1 + 1, by omega, by go_num, HD, bthen hbwp hHeld⟩
            case measure => simp [intOf]; omega
          · have hK2 : dotLt l[j] l[j + 1] = false := Bool.eq_false_iff.2 hK
            simp only [hK2] at hCk
            have HD : Hid (upOk dotOkP dotLt l = false) := HB2.out (by rw [HPK.out]; exact hK2)
            replace HD := Hid.mk ((HUF.out HD.out))
            clear HB1 HB2 HG HI HPK hP hK hK2
            generalize l[j + 1] = x at *
            generalize l[j] = y at *
            go_wp2_with fail
            subst hwp
            refine wp_region_held_drew (S := fun W => Below wp.heap.size wp W) (by kernel_rfl) (Below.drew (Below.refl _ _)) (fun hHeld => ?_)
            refine tk 0 q679_62_6_0 (some 28) (v := ?v50) rfl rfl (by kernel_rfl) hHeld (by rfl) (fun _ _ _ x => x) (fun w h => ?y50) ?_; (case y50 => (try dsimp only at h); go_simp; try (with_reducible rfl)); try simp only [Act.put, sa, s0, s1]
            refine tk 1 q679_62_6_1 (some 29) (v := ?v51) rfl rfl (by kernel_rfl) hHeld (by rfl) (fun _ _ _ x => x) (fun w h => ?y51) ?_; (case y51 => (try dsimp only at h); go_simp; try (with_reducible rfl)); try simp only [Act.put, sa, s0, s1]
            refine tk 2 q679_62_6_2 (some 30) (v := ?v52) rfl rfl (by kernel_rfl) hHeld (by rfl) (fun _ _ _ x => x) (fun w h => ?y52) ?_; (case y52 => (try dsimp only at h); go_simp; try (with_reducible rfl)); try simp only [Act.put, sa, s0, s1]
            refine tk 3 q679_62_6_3 (some 31) (v := ?v53) rfl rfl (by kernel_rfl) hHeld (by rfl) (fun _ _ _ x => x) (fun w h => ?y53) ?_; (case y53 => (try dsimp only at h); go_simp; try (with_reducible rfl)); try simp only [Act.put, sa, s0, s1]
            refine tk 4 q679_62_6_4 (some 32) (v := ?v54) rfl rfl (by kernel_rfl) hHeld (by rfl) (fun _ _ _ x => x) (fun w h => ?y54) ?_; (case y54 => (try dsimp only at h); go_simp; try (with_reducible rfl)); try simp only [Act.put, sa, s0, s1]
            refine wpAnyH_ready (rs := [5]) (by kernel_rfl) (by simp) ?_
            refine AllReadyH.cons (o := q679_62_6_5) rfl (fun K hK => ?_) AllReadyH.nil
            go_simp
            refine Calls.mono (hCp _ hHeld) ?_
            rintro e w1 ⟨rfl, hx1⟩
            go_wp2_with fail
            refine hK.out _ _ (bthen hHeld hx1) (fun hHeld => ?_)
            clear hK K
            try simp only [Act.put, sa, s0, s1]
            refine tk 6 q679_62_6_6 (some 34) (v := ?v55) rfl rfl (by kernel_rfl) hHeld (by rfl) (fun _ _ _ x => x) (fun w h => ?y55) ?_; (case y55 => (try dsimp only at h); go_simp; try (with_reducible rfl)); try simp only [Act.put, sa, s0, s1]
            refine tk 7 q679_62_6_7 (some 35) (v := ?v56) rfl rfl (by kernel_rfl) hHeld (by rfl) (fun _ _ _ x => x) (fun w h => ?y56) ?_; (case y56 => (try dsimp only at h); go_simp; try (with_reducible rfl)); try simp only [Act.put, sa, s0, s1]
            refine tk 8 q679_62_6_8 (some 36) (v := ?v57) rfl rfl (by kernel_rfl) hHeld (by rfl) (fun _ _ _ x => x) (fun w h => ?y57) ?_; (case y57 => (try dsimp only at h); go_simp; try (with_reducible rfl)); try simp only [Act.put, sa, s0, s1]
            refine tk 9 q679_62_6_9 (some 37) (v := ?v58) rfl rfl (by kernel_rfl) hHeld (by rfl) (fun _ _ _ x => x) (fun w h => ?y58) ?_; (case y58 => (try dsimp only at h); go_simp; try (with_reducible rfl)); try simp only [Act.put, sa, s0, s1]
            refine tk 10 q679_62_6_10 (some 38) (v := ?v59) rfl rfl (by kernel_rfl) hHeld (by rfl) (fun _ _ _ x => x) (fun w h => ?y59) ?_; (case y59 => (try dsimp only at h); go_simp; try (with_reducible rfl)); try simp only [Act.put, sa, s0, s1]
            refine tk 11 q679_62_6_11 (some 39) (v := ?v60) rfl rfl (by kernel_rfl) hHeld (by rfl) (fun _ _ _ x => x) (fun w h => ?y60) ?_; (case y60 => (try dsimp only at h); go_simp; try (with_reducible rfl)); try simp only [Act.put, sa, s0, s1]
            refine tk 12 q679_62_6_12 (some 40) (v := ?v61) rfl rfl (by kernel_rfl) hHeld (by rfl) (fun _ _ _ x => x) (fun w h => ?y61) ?_; (case y61 => (try dsimp only at h); go_simp; try (with_reducible rfl)); try simp only [Act.put, sa, s0, s1]
            refine tk 13 q679_62_6_13 (some 41) (v := ?v62) rfl rfl (by kernel_rfl) hHeld (by rfl) (fun _ _ _ x => x) (fun w h => ?y62) ?_; (case y62 => (try dsimp only at h); go_simp; try (with_reducible rfl)); try simp only [Act.put, sa, s0, s1]
            refine tk 14 q679_62_6_14 (some 42) (v := ?v63) rfl rfl (by kernel_rfl) hHeld (by rfl) (fun _ _ _ x => x) (fun w h => ?y63) ?_; (case y63 => (try dsimp only at h); go_simp; try (with_reducible rfl)); try simp only [Act.put, sa, s0, s1]
            refine tk 15 q679_62_6_15 (some 43) (v := ?v64) rfl rfl (by kernel_rfl) hHeld (by rfl) (fun _ _ _ x => x) (fun w h => ?y64) ?_; (case y64 => (try dsimp only at h); go_simp; try (with_reducible rfl)); try simp only [Act.put, sa, s0, s1]
            refine tk 16 q679_62_6_16 (some 44) (v := ?v65) rfl rfl (by kernel_rfl) hHeld (by rfl) (fun _ _ _ x => x) (fun w h => ?y65) ?_; (case y65 => (try dsimp only at h); go_simp; try (with_reducible rfl)); try simp only [Act.put, sa, s0, s1]
            refine tk 17 q679_62_6_17 (some 45) (v := ?v66) rfl rfl (by kernel_rfl) hHeld (by rfl) (fun _ _ _ x => x) (fun w h => ?y66) ?_; (case y66 => (try dsimp only at h); go_simp; try (with_reducible rfl)); try simp only [Act.put, sa, s0, s1]
            refine tk 18 q679_62_6_18 (some 46) (v := ?v67) rfl rfl (by kernel_rfl) hHeld (by rfl) (fun _ _ _ x => x) (fun w h => ?y67) ?_; (case y67 => (try dsimp only at h); go_simp; try (with_reducible rfl)); try simp only [Act.put, sa, s0, s1]
            refine tk 19 q679_62_6_19 (some 47) (v := ?v68) rfl rfl (by kernel_rfl) hHeld (by rfl) (fun _ _ _ x => x) (fun w h => ?y68) ?_; (case y68 => (try dsimp only at h); go_simp; try (with_reducible rfl)); try simp only [Act.put, sa, s0, s1]
            refine tk 20 q679_62_6_20 (some 48) (v := ?v69) rfl rfl (by kernel_rfl) hHeld (by rfl) (fun _ _ _ x => x) (fun w h => ?y69) ?_; (case y69 => (try dsimp only at h); go_simp; try (with_reducible rfl)); try simp only [Act.put, sa, s0, s1]
            refine tk 21 q679_62_6_21 (some 49) (v := ?v70) rfl rfl (by kernel_rfl) hHeld (by rfl) (fun _ _ _ x => x) (fun w h => ?y70) ?_; (case y70 => (try dsimp only at h); go_simp; try (with_reducible rfl)); try simp only [Act.put, sa, s0, s1]
            refine wpAnyH_ready (rs := [22]) (by kernel_rfl) (by simp) ?_
            refine AllReadyH.cons (o := q679_62_6_22) rfl (fun K hK => ?_) AllReadyH.nil
            go_simp
            refine Calls.mono (hCk _ hHeld) ?_
            rintro e w2 ⟨rfl, hx2⟩
            go_wp2_with fail
            refine hK.out _ _ (bthen hHeld hx2) (fun hHeld => ?_)
            clear hK K
            try simp only [Act.put, sa, s0, s1]
            refine tk 23 q679_62_6_23 (some 51) (v := ?v71) rfl rfl (by kernel_rfl) hHeld (by rfl) (fun _ _ _ x => x) (fun w h => ?y71) ?_; (case y71 => (try dsimp only at h); go_simp; try (with_reducible rfl)); try simp only [Act.put, sa, s0, s1]
            refine tk 24 q679_62_6_24 (some 52) (v := ?v72) rfl rfl (by kernel_rfl) hHeld (by rfl) (fun _ _ _ x => x) (fun w h => ?y72) ?_; (case y72 => (try dsimp only at h); go_simp; try (with_reducible rfl)); try simp only [Act.put, sa, s0, s1]
            refine tk 25 q679_62_6_25 (some 53) (v := ?v73) rfl rfl (by kernel_rfl) hHeld (by rfl) (fun _ _ _ x => x) (fun w h => ?y73) ?_; (case y73 => (try dsimp only at h); go_simp; try (with_reducible rfl)); try simp only [Act.put, sa, s0, s1]
            refine wpAnyH_done (by kernel_rfl) ?_ _
            go_wp2_with fail
            go_ret
            exact ⟨by rw [HD.out]; rfl, bthen hbww hHeld⟩
      · have hP2 : dotOkP l[k] = false := Bool.eq_false_iff.2 hP
        have HD := Hid.mk (HUF.out (HB1.out hP2))
        simp only [hP2] at hCp
        clear HB1 HB2 HG HI hP hP2
        generalize l[k] = x at *
        go_wp2_with fail
        subst hwp
        refine wp_region_held_drew (S := fun W => Below wp.heap.size wp W) (by kernel_rfl) (Below.drew (Below.refl _ _)) (fun hHeld => ?_)
        refine tk 0 q679_62_6_0 (some 28) (v := ?v74) rfl rfl (by kernel_rfl) hHeld (by rfl) (fun _ _ _ x => x) (fun w h => ?y74) ?_; (case y74 => (try dsimp only at h); go_simp; try (with_reducible rfl)); try simp only [Act.put, sa, s0, s1]
        refine tk 1 q679_62_6_1 (some 29) (v := ?v75) rfl rfl (by kernel_rfl) hHeld (by rfl) (fun _ _ _ x => x) (fun w h => ?y75) ?_; (case y75 => (try dsimp only at h); go_simp; try (with_reducible rfl)); try simp only [Act.put, sa, s0, s1]
        refine tk 2 q679_62_6_2 (some 30) (v := ?v76) rfl rfl (by kernel_rfl) hHeld (by rfl) (fun _ _ _ x => x) (fun w h => ?y76) ?_; (case y76 => (try dsimp only at h); go_simp; try (with_reducible rfl)); try simp only [Act.put, sa, s0, s1]
        refine tk 3 q679_62_6_3 (some 31) (v := ?v77) rfl rfl (by kernel_rfl) hHeld (by rfl) (fun _ _ _ x => x) (fun w h => ?y77) ?_; (case y77 => (try dsimp only at h); go_simp; try (with_reducible rfl)); try simp only [Act.put, sa, s0, s1]
        refine tk 4 q679_62_6_4 (some 32) (v := ?v78) rfl rfl (by kernel_rfl) hHeld (by rfl) (fun _ _ _ x => x) (fun w h => ?y78) ?_; (case y78 => (try dsimp only at h); go_simp; try (with_reducible rfl)); try simp only [Act.put, sa, s0, s1]
        refine wpAnyH_ready (rs := [5]) (by kernel_rfl) (by simp) ?_
        refine AllReadyH.cons (o := q679_62_6_5) rfl (fun K hK => ?_) AllReadyH.nil
        go_simp
        refine Calls.mono (hCp _ hHeld) ?_
        rintro e w1 ⟨rfl, hx1⟩
        go_wp2_with fail
        refine hK.out _ _ (bthen hHeld hx1) (fun hHeld => ?_)
        clear hK K
        try simp only [Act.put, sa, s0, s1]
        refine tk 6 q679_62_6_6 (some 34) (v := ?v79) rfl rfl (by kernel_rfl) hHeld (by rfl) (fun _ _ _ x => x) (fun w h => ?y79) ?_; (case y79 => (try dsimp only at h); go_simp; try (with_reducible rfl)); try simp only [Act.put, sa, s0, s1]
        refine tk 7 q679_62_6_7 (some 35) (v := ?v80) rfl rfl (by kernel_rfl) hHeld (by rfl) (fun _ _ _ x => x) (fun w h => ?y80) ?_; (case y80 => (try dsimp only at h); go_simp; try (with_reducible rfl)); try simp only [Act.put, sa, s0, s1]
        refine tn 8 q679_62_6_8 (some 36) rfl rfl (by kernel_rfl) hHeld (by rfl) (fun _ _ _ x => x) ?_; try simp only [Act.put, sa, s0, s1]
        refine tn 9 q679_62_6_9 (some 37) rfl rfl (by kernel_rfl) hHeld (by rfl) (fun _ _ _ x => x) ?_; try simp only [Act.put, sa, s0, s1]
        refine tn 10 q679_62_6_10 (some 38) rfl rfl (by kernel_rfl) hHeld (by rfl) (fun _ _ _ x => x) ?_; try simp only [Act.put, sa, s0, s1]
        refine tn 11 q679_62_6_11 (some 39) rfl rfl (by kernel_rfl) hHeld (by rfl) (fun _ _ _ x => x) ?_; try simp only [Act.put, sa, s0, s1]
        refine tn 12 q679_62_6_12 (some 40) rfl rfl (by kernel_rfl) hHeld (by rfl) (fun _ _ _ x => x) ?_; try simp only [Act.put, sa, s0, s1]
        refine tn 13 q679_62_6_13 (some 41) rfl rfl (by kernel_rfl) hHeld (by rfl) (fun _ _ _ x => x) ?_; try simp only [Act.put, sa, s0, s1]
        refine tn 14 q679_62_6_14 (some 42) rfl rfl (by kernel_rfl) hHeld (by rfl) (fun _ _ _ x => x) ?_; try simp only [Act.put, sa, s0, s1]
        refine tn 15 q679_62_6_15 (some 43) rfl rfl (by kernel_rfl) hHeld (by rfl) (fun _ _ _ x => x) ?_; try simp only [Act.put, sa, s0, s1]
        refine tn 16 q679_62_6_16 (some 44) rfl rfl (by kernel_rfl) hHeld (by rfl) (fun _ _ _ x => x) ?_; try simp only [Act.put, sa, s0, s1]
        refine tn 17 q679_62_6_17 (some 45) rfl rfl (by kernel_rfl) hHeld (by rfl) (fun _ _ _ x => x) ?_; try simp only [Act.put, sa, s0, s1]
        refine tn 18 q679_62_6_18 (some 46) rfl rfl (by kernel_rfl) hHeld (by rfl) (fun _ _ _ x => x) ?_; try simp only [Act.put, sa, s0, s1]
        refine tn 19 q679_62_6_19 (some 47) rfl rfl (by kernel_rfl) hHeld (by rfl) (fun _ _ _ x => x) ?_; try simp only [Act.put, sa, s0, s1]
        refine tn 20 q679_62_6_20 (some 48) rfl rfl (by kernel_rfl) hHeld (by rfl) (fun _ _ _ x => x) ?_; try simp only [Act.put, sa, s0, s1]
        refine tn 21 q679_62_6_21 (some 49) rfl rfl (by kernel_rfl) hHeld (by rfl) (fun _ _ _ x => x) ?_; try simp only [Act.put, sa, s0, s1]
        refine tn 22 q679_62_6_22 (some 50) rfl rfl (by kernel_rfl) hHeld (by rfl) (fun _ _ _ x => x) ?_; try simp only [Act.put, sa, s0, s1]
        refine tn 23 q679_62_6_23 (some 51) rfl rfl (by kernel_rfl) hHeld (by rfl) (fun _ _ _ x => x) ?_; try simp only [Act.put, sa, s0, s1]
        refine tn 24 q679_62_6_24 (some 52) rfl rfl (by kernel_rfl) hHeld (by rfl) (fun _ _ _ x => x) ?_; try simp only [Act.put, sa, s0, s1]
        refine tk 25 q679_62_6_25 (some 53) (v := ?v98) rfl rfl (by kernel_rfl) hHeld (by rfl) (fun _ _ _ x => x) (fun w h => ?y98) ?_; (case y98 => (try dsimp only at h); go_simp; try (with_reducible rfl)); try simp only [Act.put, sa, s0, s1]
        refine wpAnyH_done (by kernel_rfl) ?_ _
        go_wp2_with fail
        go_ret
        exact ⟨by rw [HD.out]; rfl, bthen hbww hHeld⟩
    · have HD := Hid.mk (HUT.out (upOk_yes (fun j hj => HI.out j (by have := HX.out; omega))))
      go_wp2_with fail
      go_ret
      exact ⟨by rw [HD.out]; rfl, hbw⟩

set_option maxHeartbeats 4000000 in
theorem specGraphOk_any (cs : List Value) (m : MGraph) (w : World) (hr : rGraph w.heap.size w cs m) (hw : wGraph m ≤ 1048576 * 4) (hwk : ∀ k, (h : k < m.fItems.length) → m.fItems[k].fDeps.length ≤ 1048576) :
    Calls Tryd.prog 34 #[.agg cs.toArray] w fun e w' => e = .returned (.bool (graphP m)) ∧ Below w.heap.size w w' := by
  obtain ⟨a, cap, rfl, hr, _⟩ := hr
  have hn : m.fItems.length ≤ 1048576 * 4 := by have h : m.fItems.length + sumW wItem m.fItems ≤ 1048576 * 4 := hw; omega
  have HV : Hid (graphP m = (decide (m.fItems.length ≤ 100) && upOk itemP itemLt m.fItems)) := rfl
  generalize graphP m = R at *
  obtain ⟨l, hl⟩ : ∃ l, l = m.fItems := ⟨_, rfl⟩
  have HWK : Hid (∀ k, (h : k < l.length) → l[k].fDeps.length ≤ 1048576) := by unfold Hid; rw [hl]; exact hwk
  rw [← hl] at hr hn HV ⊢
  clear hw hwk hl
  obtain ⟨n, hx⟩ : ∃ n, n = l.length := ⟨_, rfl⟩
  rw [← hx] at hn HV ⊢
  have HX := Hid.mk hx.symm
  have HL := Hid.mk hr
  clear hr hx
  go_enter Tryd.func34, Tryd.ntmps34
  obtain ⟨wq, hwq⟩ : ∃ wq, wq = w.alloc (.cells #[.slice a n cap] 30) := ⟨_, rfl⟩
  have hbq : Below w.heap.size w wq := by rw [hwq]; exact (Below.refl _ _).alloc (Nat.le_refl _) _
  have hbx : Bx wq w.heap.size [.slice a n cap] := by rw [hwq]; exact Bx.new _ _ _
  have HUF : Hid (upOk itemP itemLt l = false → R = false) := fun h => by rw [HV.out, h, Bool.and_false]
  have HUT : Hid (upOk itemP itemLt l = true → R = decide ((n : Int) ≤ 100)) := fun h => by rw [HV.out, h, Bool.and_true]; exact decide_eq_decide.2 (by omega)
  clear HV
  go_wp2_with fail
  rw [← hwq]
  clear hwq
  go_loopw [3] (fun i wr => ∃ k : Nat, k ≤ n ∧ i = .int .i64 k ∧ Hid (∀ j, j < k → stepOk itemP itemLt l j = true) ∧ Below wq.heap.size wq wr) (fun i _ => n - (intOf i).toNat)
  case atStart => exact ⟨0, Nat.zero_le _, rfl, Hid.mk (fun j h => absurd h (Nat.not_lt_zero j)), Below.refl _ _⟩
  case round =>
    obtain ⟨k, hk, rfl, HI, hbk⟩ := hrel
    have hbw := bthen hbq hbk
    have hbz := hbw.size
    have v0 := (hbx.under hbk).2 0 _ rfl
    by_cases hlt : k < n
    · have hkl : k < l.length := by rw [HX.out]; exact hlt
      obtain ⟨b1, o1, rfl, hB, cs, hcl, hcell, a2, c2, rfl, g0, g1, g2, _⟩ := (HL.out.2.2.below rItem_good hbw) k hkl
      have hB' : b1 < wr.heap.size := by omega
      have k0 := hcell 0 _ rfl
      have k1 := hcell 1 _ rfl
      have k2 := hcell 2 _ rfl
      rw [Nat.add_zero] at k0
      have HB1 : Hid (itemP l[k] = false → upOk itemP itemLt l = false) := fun h => upOk_no hkl (stepOk_bad hkl h)
      have HB2 : Hid (stepOk itemP itemLt l k = false → upOk itemP itemLt l = false) := fun h => upOk_no hkl h
      have HG : Hid (stepOk itemP itemLt l k = true → ∀ j, j < k + 1 → stepOk itemP itemLt l j = true) := fun h => all_next HI.out h
      clear hcell hcl
      obtain ⟨wp, hwp⟩ : ∃ wp, wp = wr := ⟨_, rfl⟩
      have hbp : Below wr.heap.size wr wp := by rw [hwp]; exact Below.refl _ _
      have hbwp := bthen hbk hbp
      have hbww := bthen hbq hbwp
      have e0 : ∀ W, Below wp.heap.size wp W → W.cell? ⟨b1, o1 + k * 3, none⟩ = some (.int .i64 l[k].fD.fR) := fun W hb => ((bthen hbp hb).cell (p := ⟨b1, o1 + k * 3, none⟩) hB').trans k0
      have e1 : ∀ W, Below wp.heap.size wp W → W.cell? ⟨b1, o1 + k * 3 + 1, none⟩ = some (.int .i64 l[k].fD.fN) := fun W hb => ((bthen hbp hb).cell (p := ⟨b1, o1 + k * 3 + 1, none⟩) hB').trans k1
      have e2 : ∀ W, Below wp.heap.size wp W → W.cell? ⟨b1, o1 + k * 3 + 2, none⟩ = some (.slice a2 l[k].fDeps.length c2) := fun W hb => ((bthen hbp hb).cell (p := ⟨b1, o1 + k * 3 + 2, none⟩) hB').trans k2
      have z0 : ∀ W, Below wp.heap.size wp W → W.cell? ⟨w.heap.size, 0, none⟩ = some (.slice (some ⟨b1, o1, none⟩) n cap) := fun W hb => ((hbx.under hbwp).under hb).2 0 _ rfl
      clear v0
      have v0 := (hbx.under hbk).2 0 _ rfl
      have hwk : l[k].fDeps.length ≤ 1048576 := HWK.out k hkl
      have HRk : Hid (∀ W, Below wp.heap.size wp W → rItem W.heap.size W [.int .i64 l[k].fD.fR, .int .i64 l[k].fD.fN, .slice a2 l[k].fDeps.length c2] l[k]) := fun W hb => rItem_good.mono (rItem_good.below ⟨a2, c2, rfl, g0, g1, g2, trivial⟩ ((bthen hbp hb).mono hbz)) (by have h1 := hb.size; have h2 := hbp.size; omega)
      have hCp := fun W (hb : Below wp.heap.size wp W) => l8Item_any [.int .i64 l[k].fD.fR, .int .i64 l[k].fD.fN, .slice a2 l[k].fDeps.length c2] l[k] W (HRk.out W hb) hwk
      have hk1 : (0 : Int) ≤ (k : Int) := by omega
      have hk2 : (k : Int) < (n : Int) := by omega
      by_cases hP : itemP l[k] = true
      · simp only [hP] at hCp
        by_cases h0 : k = 0
        · subst h0
          simp only [Nat.zero_mul, Nat.add_zero] at k0 k1 k2 e0 e1 e2
          have HD : Hid (∀ j, j < 0 + 1 → stepOk itemP itemLt l j = true) := HG.out (stepOk_zero hkl hP)
          clear HB1 HB2 HG HI hP
          clear HRk
          generalize l[0] = x at *
          go_wp2_with fail
          subst hwp
          refine wp_region_held_drew (S := fun W => Below wp.heap.size wp W) (by kernel_rfl) (Below.drew (Below.refl _ _)) (fun hHeld => ?_)
          refine tk 0 q679_34_4_0 (some 11) (v := ?v99) rfl rfl (by kernel_rfl) hHeld (by rfl) (fun _ _ _ x => x) (fun w h => ?y99) ?_; (case y99 => (try dsimp only at h); go_simp; try (with_reducible rfl)); try simp only [Act.put, sa, s0, s1]
          refine tk 1 q679_34_4_1 (some 12) (v := ?v100) rfl rfl (by kernel_rfl) hHeld (by rfl) (fun _ _ _ x => x) (fun w h => ?y100) ?_; (case y100 => (try dsimp only at h); go_simp; try (with_reducible rfl)); try simp only [Act.put, sa, s0, s1]
          refine tk 2 q679_34_4_2 (some 13) (v := ?v101) rfl rfl (by kernel_rfl) hHeld (by rfl) (fun _ _ _ x => x) (fun w h => ?y101) ?_; (case y101 => (try dsimp only at h); go_simp; try (with_reducible rfl)); try simp only [Act.put, sa, s0, s1]
          refine tk 3 q679_34_4_3 (some 14) (v := ?v102) rfl rfl (by kernel_rfl) hHeld (by rfl) (fun _ _ _ x => x) (fun w h => ?y102) ?_; (case y102 => (try dsimp only at h); go_simp; try (with_reducible rfl)); try simp only [Act.put, sa, s0, s1]
          refine tk 4 q679_34_4_4 (some 15) (v := ?v103) rfl rfl (by kernel_rfl) hHeld (by rfl) (fun _ _ _ x => x) (fun w h => ?y103) ?_; (case y103 => (try dsimp only at h); go_simp; try (with_reducible rfl)); try simp only [Act.put, sa, s0, s1]
          refine wpAnyH_ready (rs := [5]) (by kernel_rfl) (by simp) ?_
          refine AllReadyH.cons (o := q679_34_4_5) rfl (fun K hK => ?_) AllReadyH.nil
          go_simp
          refine Calls.mono (hCp _ hHeld) ?_
          rintro e w1 ⟨rfl, hx1⟩
          go_wp2_with fail
          refine hK.out _ _ (bthen hHeld hx1) (fun hHeld => ?_)
          clear hK K
          try simp only [Act.put, sa, s0, s1]
          refine tk 6 q679_34_4_6 (some 17) (v := ?v104) rfl rfl (by kernel_rfl) hHeld (by rfl) (fun _ _ _ x => x) (fun w h => ?y104) ?_; (case y104 => (try dsimp only at h); go_simp; try (with_reducible rfl)); try simp only [Act.put, sa, s0, s1]
          refine tk 7 q679_34_4_7 (some 18) (v := ?v105) rfl rfl (by kernel_rfl) hHeld (by rfl) (fun _ _ _ x => x) (fun w h => ?y105) ?_; (case y105 => (try dsimp only at h); go_simp; try (with_reducible rfl)); try simp only [Act.put, sa, s0, s1]
          refine tk 8 q679_34_4_8 (some 19) (v := ?v106) rfl rfl (by kernel_rfl) hHeld (by rfl) (fun _ _ _ x => x) (fun w h => ?y106) ?_; (case y106 => (try dsimp only at h); go_simp; try (with_reducible rfl)); try simp only [Act.put, sa, s0, s1]
          refine tk 9 q679_34_4_9 (some 20) (v := ?v107) rfl rfl (by kernel_rfl) hHeld (by rfl) (fun _ _ _ x => x) (fun w h => ?y107) ?_; (case y107 => (try dsimp only at h); go_simp; try (with_reducible rfl)); try simp only [Act.put, sa, s0, s1]
          refine tk 10 q679_34_4_10 (some 21) (v := ?v108) rfl rfl (by kernel_rfl) hHeld (by rfl) (fun _ _ _ x => x) (fun w h => ?y108) ?_; (case y108 => (try dsimp only at h); go_simp; try (with_reducible rfl)); try simp only [Act.put, sa, s0, s1]
          refine tn 11 q679_34_4_11 (some 22) rfl rfl (by kernel_rfl) hHeld (by rfl) (fun _ _ _ x => x) ?_; try simp only [Act.put, sa, s0, s1]
          refine tn 12 q679_34_4_12 (some 23) rfl rfl (by kernel_rfl) hHeld (by rfl) (fun _ _ _ x => x) ?_; try simp only [Act.put, sa, s0, s1]
          refine tn 13 q679_34_4_13 (some 24) rfl rfl (by kernel_rfl) hHeld (by rfl) (fun _ _ _ x => x) ?_; try simp only [Act.put, sa, s0, s1]
          refine tn 14 q679_34_4_14 (some 25) rfl rfl (by kernel_rfl) hHeld (by rfl) (fun _ _ _ x => x) ?_; try simp only [Act.put, sa, s0, s1]
          refine tn 15 q679_34_4_15 (some 26) rfl rfl (by kernel_rfl) hHeld (by rfl) (fun _ _ _ x => x) ?_; try simp only [Act.put, sa, s0, s1]
          refine tn 16 q679_34_4_16 (some 27) rfl rfl (by kernel_rfl) hHeld (by rfl) (fun _ _ _ x => x) ?_; try simp only [Act.put, sa, s0, s1]
          refine tn 17 q679_34_4_17 (some 28) rfl rfl (by kernel_rfl) hHeld (by rfl) (fun _ _ _ x => x) ?_; try simp only [Act.put, sa, s0, s1]
          refine tn 18 q679_34_4_18 (some 29) rfl rfl (by kernel_rfl) hHeld (by rfl) (fun _ _ _ x => x) ?_; try simp only [Act.put, sa, s0, s1]
          refine tn 19 q679_34_4_19 (some 30) rfl rfl (by kernel_rfl) hHeld (by rfl) (fun _ _ _ x => x) ?_; try simp only [Act.put, sa, s0, s1]
          refine tn 20 q679_34_4_20 (some 31) rfl rfl (by kernel_rfl) hHeld (by rfl) (fun _ _ _ x => x) ?_; try simp only [Act.put, sa, s0, s1]
          refine tn 21 q679_34_4_21 (some 32) rfl rfl (by kernel_rfl) hHeld (by rfl) (fun _ _ _ x => x) ?_; try simp only [Act.put, sa, s0, s1]
          refine tn 22 q679_34_4_22 (some 33) rfl rfl (by kernel_rfl) hHeld (by rfl) (fun _ _ _ x => x) ?_; try simp only [Act.put, sa, s0, s1]
          refine tn 23 q679_34_4_23 (some 34) rfl rfl (by kernel_rfl) hHeld (by rfl) (fun _ _ _ x => x) ?_; try simp only [Act.put, sa, s0, s1]
          refine tn 24 q679_34_4_24 (some 35) rfl rfl (by kernel_rfl) hHeld (by rfl) (fun _ _ _ x => x) ?_; try simp only [Act.put, sa, s0, s1]
          refine tn 25 q679_34_4_25 (some 36) rfl rfl (by kernel_rfl) hHeld (by rfl) (fun _ _ _ x => x) ?_; try simp only [Act.put, sa, s0, s1]
          refine tk 26 q679_34_4_26 (some 37) (v := ?v124) rfl rfl (by kernel_rfl) hHeld (by rfl) (fun _ _ _ x => x) (fun w h => ?y124) ?_; (case y124 => (try dsimp only at h); go_simp; try (with_reducible rfl)); try simp only [Act.put, sa, s0, s1]
          refine tk 27 q679_34_4_27 (some 38) (v := ?v125) rfl rfl (by kernel_rfl) hHeld (by rfl) (fun _ _ _ x => x) (fun w h => ?y125) ?_; (case y125 => (try dsimp only at h); go_simp; try (with_reducible rfl)); try simp only [Act.put, sa, s0, s1]
          refine wpAnyH_done (by kernel_rfl) ?_ _
          go_wp2_with fail
          go_roundw
          case rel => exact ⟨1, by omega, by go_num, HD, bthen hbwp hHeld⟩
          case measure => simp [intOf]; omega
        · obtain ⟨j, rfl⟩ : ∃ j, k = j + 1 := ⟨k - 1, by omega⟩
          have hjl : j < l.length := by omega
          obtain ⟨b1', o1', he1, _, cs', hcl', hcell', a3, c3, rfl, g0', g1', g2', _⟩ := (HL.out.2.2.below rItem_good hbw) j hjl
          simp only [Option.some.injEq, Addr.mk.injEq, and_true] at he1
          obtain ⟨rfl, rfl⟩ := he1
          have j0 := hcell' 0 _ rfl
          have j1 := hcell' 1 _ rfl
          rw [Nat.add_zero] at j0
          have q0 : ∀ W, Below wp.heap.size wp W → W.cell? ⟨b1, o1 + j * 3, none⟩ = some (.int .i64 l[j].fD.fR) := fun W hb => ((bthen hbp hb).cell (p := ⟨b1, o1 + j * 3, none⟩) hB').trans j0
          have q1 : ∀ W, Below wp.heap.size wp W → W.cell? ⟨b1, o1 + j * 3 + 1, none⟩ = some (.int .i64 l[j].fD.fN) := fun W hb => ((bthen hbp hb).cell (p := ⟨b1, o1 + j * 3 + 1, none⟩) hB').trans j1
          have HPK : Hid (stepOk itemP itemLt l (j + 1) = dotLt l[j].fD l[j + 1].fD) := stepOk_succ hjl hkl hP
          have hCk := fun W (hb : Below wp.heap.size wp W) => specDotLess_any [.int .i64 l[j].fD.fR, .int .i64 l[j].fD.fN] [.int .i64 l[j + 1].fD.fR, .int .i64 l[j + 1].fD.fN] l[j].fD l[j + 1].fD W ⟨rfl, g0', g1', trivial⟩ ⟨rfl, g0, g1, trivial⟩
          have hj1 : (0 : Int) ≤ (j : Int) := by omega
          have hj2 : (j : Int) < (n : Int) := by omega
          have hj3 : (0 : Int) ≤ (j : Int) + 1 := by omega
          have hj4 : (j : Int) + 1 < (n : Int) := by omega
          have hwr : IntKind.i64.wrap (j : Int) = (j : Int) := by rw [IntKind.wrap_i64]; omega
          clear hcell' hcl' j0 j1
          clear HRk g2'
          by_cases hK : dotLt l[j].fD l[j + 1].fD = true
          · simp only [hK] at hCk
            have HD : Hid (∀ i, i < j + 1 + 1 → stepOk itemP itemLt l i = true) := HG.out (by rw [HPK.out]; exact hK)
            clear HB1 HB2 HG HI HPK hP hK
            generalize l[j + 1] = x at *
            generalize l[j] = y at *
            go_wp2_with fail
            subst hwp
            refine wp_region_held_drew (S := fun W => Below wp.heap.size wp W) (by kernel_rfl) (Below.drew (Below.refl _ _)) (fun hHeld => ?_)
            refine tk 0 q679_34_4_0 (some 11) (v := ?v126) rfl rfl (by kernel_rfl) hHeld (by rfl) (fun _ _ _ x => x) (fun w h => ?y126) ?_; (case y126 => (try dsimp only at h); go_simp; try (with_reducible rfl)); try simp only [Act.put, sa, s0, s1]
            refine tk 1 q679_34_4_1 (some 12) (v := ?v127) rfl rfl (by kernel_rfl) hHeld (by rfl) (fun _ _ _ x => x) (fun w h => ?y127) ?_; (case y127 => (try dsimp only at h); go_simp; try (with_reducible rfl)); try simp only [Act.put, sa, s0, s1]
            refine tk 2 q679_34_4_2 (some 13) (v := ?v128) rfl rfl (by kernel_rfl) hHeld (by rfl) (fun _ _ _ x => x) (fun w h => ?y128) ?_; (case y128 => (try dsimp only at h); go_simp; try (with_reducible rfl)); try simp only [Act.put, sa, s0, s1]
            refine tk 3 q679_34_4_3 (some 14) (v := ?v129) rfl rfl (by kernel_rfl) hHeld (by rfl) (fun _ _ _ x => x) (fun w h => ?y129) ?_; (case y129 => (try dsimp only at h); go_simp; try (with_reducible rfl)); try simp only [Act.put, sa, s0, s1]
            refine tk 4 q679_34_4_4 (some 15) (v := ?v130) rfl rfl (by kernel_rfl) hHeld (by rfl) (fun _ _ _ x => x) (fun w h => ?y130) ?_; (case y130 => (try dsimp only at h); go_simp; try (with_reducible rfl)); try simp only [Act.put, sa, s0, s1]
            refine wpAnyH_ready (rs := [5]) (by kernel_rfl) (by simp) ?_
            refine AllReadyH.cons (o := q679_34_4_5) rfl (fun K hK => ?_) AllReadyH.nil
            go_simp
            refine Calls.mono (hCp _ hHeld) ?_
            rintro e w1 ⟨rfl, hx1⟩
            go_wp2_with fail
            refine hK.out _ _ (bthen hHeld hx1) (fun hHeld => ?_)
            clear hK K
            try simp only [Act.put, sa, s0, s1]
            refine tk 6 q679_34_4_6 (some 17) (v := ?v131) rfl rfl (by kernel_rfl) hHeld (by rfl) (fun _ _ _ x => x) (fun w h => ?y131) ?_; (case y131 => (try dsimp only at h); go_simp; try (with_reducible rfl)); try simp only [Act.put, sa, s0, s1]
            refine tk 7 q679_34_4_7 (some 18) (v := ?v132) rfl rfl (by kernel_rfl) hHeld (by rfl) (fun _ _ _ x => x) (fun w h => ?y132) ?_; (case y132 => (try dsimp only at h); go_simp; try (with_reducible rfl)); try simp only [Act.put, sa, s0, s1]
            refine tk 8 q679_34_4_8 (some 19) (v := ?v133) rfl rfl (by kernel_rfl) hHeld (by rfl) (fun _ _ _ x => x) (fun w h => ?y133) ?_; (case y133 => (try dsimp only at h); go_simp; try (with_reducible rfl)); try simp only [Act.put, sa, s0, s1]
            refine tk 9 q679_34_4_9 (some 20) (v := ?v134) rfl rfl (by kernel_rfl) hHeld (by rfl) (fun _ _ _ x => x) (fun w h => ?y134) ?_; (case y134 => (try dsimp only at h); go_simp; try (with_reducible rfl)); try simp only [Act.put, sa, s0, s1]
            refine tk 10 q679_34_4_10 (some 21) (v := ?v135) rfl rfl (by kernel_rfl) hHeld (by rfl) (fun _ _ _ x => x) (fun w h => ?y135) ?_; (case y135 => (try dsimp only at h); go_simp; try (with_reducible rfl)); try simp only [Act.put, sa, s0, s1]
            refine tk 11 q679_34_4_11 (some 22) (v := ?v136) rfl rfl (by kernel_rfl) hHeld (by rfl) (fun _ _ _ x => x) (fun w h => ?y136) ?_; (case y136 => (try dsimp only at h); go_simp; try (with_reducible rfl)); try simp only [Act.put, sa, s0, s1]
            refine tk 12 q679_34_4_12 (some 23) (v := ?v137) rfl rfl (by kernel_rfl) hHeld (by rfl) (fun _ _ _ x => x) (fun w h => ?y137) ?_; (case y137 => (try dsimp only at h); go_simp; try (with_reducible rfl)); try simp only [Act.put, sa, s0, s1]
            refine tk 13 q679_34_4_13 (some 24) (v := ?v138) rfl rfl (by kernel_rfl) hHeld (by rfl) (fun _ _ _ x => x) (fun w h => ?y138) ?_; (case y138 => (try dsimp only at h); go_simp; try (with_reducible rfl)); try simp only [Act.put, sa, s0, s1]
            refine tk 14 q679_34_4_14 (some 25) (v := ?v139) rfl rfl (by kernel_rfl) hHeld (by rfl) (fun _ _ _ x => x) (fun w h => ?y139) ?_; (case y139 => (try dsimp only at h); go_simp; try (with_reducible rfl)); try simp only [Act.put, sa, s0, s1]
            refine tk 15 q679_34_4_15 (some 26) (v := ?v140) rfl rfl (by kernel_rfl) hHeld (by rfl) (fun _ _ _ x => x) (fun w h => ?y140) ?_; (case y140 => (try dsimp only at h); go_simp; try (with_reducible rfl)); try simp only [Act.put, sa, s0, s1]
            refine tk 16 q679_34_4_16 (some 27) (v := ?v141) rfl rfl (by kernel_rfl) hHeld (by rfl) (fun _ _ _ x => x) (fun w h => ?y141) ?_; (case y141 => (try dsimp only at h); go_simp; try (with_reducible rfl)); try simp only [Act.put, sa, s0, s1]
            refine tk 17 q679_34_4_17 (some 28) (v := ?v142) rfl rfl (by kernel_rfl) hHeld (by rfl) (fun _ _ _ x => x) (fun w h => ?y142) ?_; (case y142 => (try dsimp only at h); go_simp; try (with_reducible rfl)); try simp only [Act.put, sa, s0, s1]
            refine tk 18 q679_34_4_18 (some 29) (v := ?v143) rfl rfl (by kernel_rfl) hHeld (by rfl) (fun _ _ _ x => x) (fun w h => ?y143) ?_; (case y143 => (try dsimp only at h); go_simp; try (with_reducible rfl)); try simp only [Act.put, sa, s0, s1]
            refine tk 19 q679_34_4_19 (some 30) (v := ?v144) rfl rfl (by kernel_rfl) hHeld (by rfl) (fun _ _ _ x => x) (fun w h => ?y144) ?_; (case y144 => (try dsimp only at h); go_simp; try (with_reducible rfl)); try simp only [Act.put, sa, s0, s1]
            refine tk 20 q679_34_4_20 (some 31) (v := ?v145) rfl rfl (by kernel_rfl) hHeld (by rfl) (fun _ _ _ x => x) (fun w h => ?y145) ?_; (case y145 => (try dsimp only at h); go_simp; try (with_reducible rfl)); try simp only [Act.put, sa, s0, s1]
            refine tk 21 q679_34_4_21 (some 32) (v := ?v146) rfl rfl (by kernel_rfl) hHeld (by rfl) (fun _ _ _ x => x) (fun w h => ?y146) ?_; (case y146 => (try dsimp only at h); go_simp; try (with_reducible rfl)); try simp only [Act.put, sa, s0, s1]
            refine tk 22 q679_34_4_22 (some 33) (v := ?v147) rfl rfl (by kernel_rfl) hHeld (by rfl) (fun _ _ _ x => x) (fun w h => ?y147) ?_; (case y147 => (try dsimp only at h); go_simp; try (with_reducible rfl)); try simp only [Act.put, sa, s0, s1]
            refine tk 23 q679_34_4_23 (some 34) (v := ?v148) rfl rfl (by kernel_rfl) hHeld (by rfl) (fun _ _ _ x => x) (fun w h => ?y148) ?_; (case y148 => (try dsimp only at h); go_simp; try (with_reducible rfl)); try simp only [Act.put, sa, s0, s1]
            refine wpAnyH_ready (rs := [24]) (by kernel_rfl) (by simp) ?_
            refine AllReadyH.cons (o := q679_34_4_24) rfl (fun K hK => ?_) AllReadyH.nil
            go_simp
            refine Calls.mono (hCk _ hHeld) ?_
            rintro e w2 ⟨rfl, hx2⟩
            go_wp2_with fail
            refine hK.out _ _ (bthen hHeld hx2) (fun hHeld => ?_)
            clear hK K
            try simp only [Act.put, sa, s0, s1]
            refine tk 25 q679_34_4_25 (some 36) (v := ?v149) rfl rfl (by kernel_rfl) hHeld (by rfl) (fun _ _ _ x => x) (fun w h => ?y149) ?_; (case y149 => (try dsimp only at h); go_simp; try (with_reducible rfl)); try simp only [Act.put, sa, s0, s1]
            refine tk 26 q679_34_4_26 (some 37) (v := ?v150) rfl rfl (by kernel_rfl) hHeld (by rfl) (fun _ _ _ x => x) (fun w h => ?y150) ?_; (case y150 => (try dsimp only at h); go_simp; try (with_reducible rfl)); try simp only [Act.put, sa, s0, s1]
            refine tk 27 q679_34_4_27 (some 38) (v := ?v151) rfl rfl (by kernel_rfl) hHeld (by rfl) (fun _ _ _ x => x) (fun w h => ?y151) ?_; (case y151 => (try dsimp only at h); go_simp; try (with_reducible rfl)); try simp only [Act.put, sa, s0, s1]
            refine wpAnyH_done (by kernel_rfl) ?_ _
            go_wp2_with fail
            go_roundw
            case rel => exact ⟨j + 1 + 1, by omega, by go_num, HD, bthen hbwp hHeld⟩
            case measure => simp [intOf]; omega
          · have hK2 : dotLt l[j].fD l[j + 1].fD = false := Bool.eq_false_iff.2 hK
            simp only [hK2] at hCk
            have HD : Hid (upOk itemP itemLt l = false) := HB2.out (by rw [HPK.out]; exact hK2)
            replace HD := Hid.mk ((HUF.out HD.out))
            clear HB1 HB2 HG HI HPK hP hK hK2
            generalize l[j + 1] = x at *
            generalize l[j] = y at *
            go_wp2_with fail
            subst hwp
            refine wp_region_held_drew (S := fun W => Below wp.heap.size wp W) (by kernel_rfl) (Below.drew (Below.refl _ _)) (fun hHeld => ?_)
            refine tk 0 q679_34_4_0 (some 11) (v := ?v152) rfl rfl (by kernel_rfl) hHeld (by rfl) (fun _ _ _ x => x) (fun w h => ?y152) ?_; (case y152 => (try dsimp only at h); go_simp; try (with_reducible rfl)); try simp only [Act.put, sa, s0, s1]
            refine tk 1 q679_34_4_1 (some 12) (v := ?v153) rfl rfl (by kernel_rfl) hHeld (by rfl) (fun _ _ _ x => x) (fun w h => ?y153) ?_; (case y153 => (try dsimp only at h); go_simp; try (with_reducible rfl)); try simp only [Act.put, sa, s0, s1]
            refine tk 2 q679_34_4_2 (some 13) (v := ?v154) rfl rfl (by kernel_rfl) hHeld (by rfl) (fun _ _ _ x => x) (fun w h => ?y154) ?_; (case y154 => (try dsimp only at h); go_simp; try (with_reducible rfl)); try simp only [Act.put, sa, s0, s1]
            refine tk 3 q679_34_4_3 (some 14) (v := ?v155) rfl rfl (by kernel_rfl) hHeld (by rfl) (fun _ _ _ x => x) (fun w h => ?y155) ?_; (case y155 => (try dsimp only at h); go_simp; try (with_reducible rfl)); try simp only [Act.put, sa, s0, s1]
            refine tk 4 q679_34_4_4 (some 15) (v := ?v156) rfl rfl (by kernel_rfl) hHeld (by rfl) (fun _ _ _ x => x) (fun w h => ?y156) ?_; (case y156 => (try dsimp only at h); go_simp; try (with_reducible rfl)); try simp only [Act.put, sa, s0, s1]
            refine wpAnyH_ready (rs := [5]) (by kernel_rfl) (by simp) ?_
            refine AllReadyH.cons (o := q679_34_4_5) rfl (fun K hK => ?_) AllReadyH.nil
            go_simp
            refine Calls.mono (hCp _ hHeld) ?_
            rintro e w1 ⟨rfl, hx1⟩
            go_wp2_with fail
            refine hK.out _ _ (bthen hHeld hx1) (fun hHeld => ?_)
            clear hK K
            try simp only [Act.put, sa, s0, s1]
            refine tk 6 q679_34_4_6 (some 17) (v := ?v157) rfl rfl (by kernel_rfl) hHeld (by rfl) (fun _ _ _ x => x) (fun w h => ?y157) ?_; (case y157 => (try dsimp only at h); go_simp; try (with_reducible rfl)); try simp only [Act.put, sa, s0, s1]
            refine tk 7 q679_34_4_7 (some 18) (v := ?v158) rfl rfl (by kernel_rfl) hHeld (by rfl) (fun _ _ _ x => x) (fun w h => ?y158) ?_; (case y158 => (try dsimp only at h); go_simp; try (with_reducible rfl)); try simp only [Act.put, sa, s0, s1]
            refine tk 8 q679_34_4_8 (some 19) (v := ?v159) rfl rfl (by kernel_rfl) hHeld (by rfl) (fun _ _ _ x => x) (fun w h => ?y159) ?_; (case y159 => (try dsimp only at h); go_simp; try (with_reducible rfl)); try simp only [Act.put, sa, s0, s1]
            refine tk 9 q679_34_4_9 (some 20) (v := ?v160) rfl rfl (by kernel_rfl) hHeld (by rfl) (fun _ _ _ x => x) (fun w h => ?y160) ?_; (case y160 => (try dsimp only at h); go_simp; try (with_reducible rfl)); try simp only [Act.put, sa, s0, s1]
            refine tk 10 q679_34_4_10 (some 21) (v := ?v161) rfl rfl (by kernel_rfl) hHeld (by rfl) (fun _ _ _ x => x) (fun w h => ?y161) ?_; (case y161 => (try dsimp only at h); go_simp; try (with_reducible rfl)); try simp only [Act.put, sa, s0, s1]
            refine tk 11 q679_34_4_11 (some 22) (v := ?v162) rfl rfl (by kernel_rfl) hHeld (by rfl) (fun _ _ _ x => x) (fun w h => ?y162) ?_; (case y162 => (try dsimp only at h); go_simp; try (with_reducible rfl)); try simp only [Act.put, sa, s0, s1]
            refine tk 12 q679_34_4_12 (some 23) (v := ?v163) rfl rfl (by kernel_rfl) hHeld (by rfl) (fun _ _ _ x => x) (fun w h => ?y163) ?_; (case y163 => (try dsimp only at h); go_simp; try (with_reducible rfl)); try simp only [Act.put, sa, s0, s1]
            refine tk 13 q679_34_4_13 (some 24) (v := ?v164) rfl rfl (by kernel_rfl) hHeld (by rfl) (fun _ _ _ x => x) (fun w h => ?y164) ?_; (case y164 => (try dsimp only at h); go_simp; try (with_reducible rfl)); try simp only [Act.put, sa, s0, s1]
            refine tk 14 q679_34_4_14 (some 25) (v := ?v165) rfl rfl (by kernel_rfl) hHeld (by rfl) (fun _ _ _ x => x) (fun w h => ?y165) ?_; (case y165 => (try dsimp only at h); go_simp; try (with_reducible rfl)); try simp only [Act.put, sa, s0, s1]
            refine tk 15 q679_34_4_15 (some 26) (v := ?v166) rfl rfl (by kernel_rfl) hHeld (by rfl) (fun _ _ _ x => x) (fun w h => ?y166) ?_; (case y166 => (try dsimp only at h); go_simp; try (with_reducible rfl)); try simp only [Act.put, sa, s0, s1]
            refine tk 16 q679_34_4_16 (some 27) (v := ?v167) rfl rfl (by kernel_rfl) hHeld (by rfl) (fun _ _ _ x => x) (fun w h => ?y167) ?_; (case y167 => (try dsimp only at h); go_simp; try (with_reducible rfl)); try simp only [Act.put, sa, s0, s1]
            refine tk 17 q679_34_4_17 (some 28) (v := ?v168) rfl rfl (by kernel_rfl) hHeld (by rfl) (fun _ _ _ x => x) (fun w h => ?y168) ?_; (case y168 => (try dsimp only at h); go_simp; try (with_reducible rfl)); try simp only [Act.put, sa, s0, s1]
            refine tk 18 q679_34_4_18 (some 29) (v := ?v169) rfl rfl (by kernel_rfl) hHeld (by rfl) (fun _ _ _ x => x) (fun w h => ?y169) ?_; (case y169 => (try dsimp only at h); go_simp; try (with_reducible rfl)); try simp only [Act.put, sa, s0, s1]
            refine tk 19 q679_34_4_19 (some 30) (v := ?v170) rfl rfl (by kernel_rfl) hHeld (by rfl) (fun _ _ _ x => x) (fun w h => ?y170) ?_; (case y170 => (try dsimp only at h); go_simp; try (with_reducible rfl)); try simp only [Act.put, sa, s0, s1]
            refine tk 20 q679_34_4_20 (some 31) (v := ?v171) rfl rfl (by kernel_rfl) hHeld (by rfl) (fun _ _ _ x => x) (fun w h => ?y171) ?_; (case y171 => (try dsimp only at h); go_simp; try (with_reducible rfl)); try simp only [Act.put, sa, s0, s1]
            refine tk 21 q679_34_4_21 (some 32) (v := ?v172) rfl rfl (by kernel_rfl) hHeld (by rfl) (fun _ _ _ x => x) (fun w h => ?y172) ?_; (case y172 => (try dsimp only at h); go_simp; try (with_reducible rfl)); try simp only [Act.put, sa, s0, s1]
            refine tk 22 q679_34_4_22 (some 33) (v := ?v173) rfl rfl (by kernel_rfl) hHeld (by rfl) (fun _ _ _ x => x) (fun w h => ?y173) ?_; (case y173 => (try dsimp only at h); go_simp; try (with_reducible rfl)); try simp only [Act.put, sa, s0, s1]
            refine tk 23 q679_34_4_23 (some 34) (v := ?v174) rfl rfl (by kernel_rfl) hHeld (by rfl) (fun _ _ _ x => x) (fun w h => ?y174) ?_; (case y174 => (try dsimp only at h); go_simp; try (with_reducible rfl)); try simp only [Act.put, sa, s0, s1]
            refine wpAnyH_ready (rs := [24]) (by kernel_rfl) (by simp) ?_
            refine AllReadyH.cons (o := q679_34_4_24) rfl (fun K hK => ?_) AllReadyH.nil
            go_simp
            refine Calls.mono (hCk _ hHeld) ?_
            rintro e w2 ⟨rfl, hx2⟩
            go_wp2_with fail
            refine hK.out _ _ (bthen hHeld hx2) (fun hHeld => ?_)
            clear hK K
            try simp only [Act.put, sa, s0, s1]
            refine tk 25 q679_34_4_25 (some 36) (v := ?v175) rfl rfl (by kernel_rfl) hHeld (by rfl) (fun _ _ _ x => x) (fun w h => ?y175) ?_; (case y175 => (try dsimp only at h); go_simp; try (with_reducible rfl)); try simp only [Act.put, sa, s0, s1]
            refine tk 26 q679_34_4_26 (some 37) (v := ?v176) rfl rfl (by kernel_rfl) hHeld (by rfl) (fun _ _ _ x => x) (fun w h => ?y176) ?_; (case y176 => (try dsimp only at h); go_simp; try (with_reducible rfl)); try simp only [Act.put, sa, s0, s1]
            refine tk 27 q679_34_4_27 (some 38) (v := ?v177) rfl rfl (by kernel_rfl) hHeld (by rfl) (fun _ _ _ x => x) (fun w h => ?y177) ?_; (case y177 => (try dsimp only at h); go_simp; try (with_reducible rfl)); try simp only [Act.put, sa, s0, s1]
            refine wpAnyH_done (by kernel_rfl) ?_ _
            go_wp2_with fail
            go_ret
            exact ⟨by rw [HD.out]; rfl, bthen hbww hHeld⟩
      · have hP2 : itemP l[k] = false := Bool.eq_false_iff.2 hP
        have HD := Hid.mk (HUF.out (HB1.out hP2))
        simp only [hP2] at hCp
        clear HB1 HB2 HG HI hP hP2
        clear HRk
        generalize l[k] = x at *
        go_wp2_with fail
        subst hwp
        refine wp_region_held_drew (S := fun W => Below wp.heap.size wp W) (by kernel_rfl) (Below.drew (Below.refl _ _)) (fun hHeld => ?_)
        refine tk 0 q679_34_4_0 (some 11) (v := ?v178) rfl rfl (by kernel_rfl) hHeld (by rfl) (fun _ _ _ x => x) (fun w h => ?y178) ?_; (case y178 => (try dsimp only at h); go_simp; try (with_reducible rfl)); try simp only [Act.put, sa, s0, s1]
        refine tk 1 q679_34_4_1 (some 12) (v := ?v179) rfl rfl (by kernel_rfl) hHeld (by rfl) (fun _ _ _ x => x) (fun w h => ?y179) ?_; (case y179 => (try dsimp only at h); go_simp; try (with_reducible rfl)); try simp only [Act.put, sa, s0, s1]
        refine tk 2 q679_34_4_2 (some 13) (v := ?v180) rfl rfl (by kernel_rfl) hHeld (by rfl) (fun _ _ _ x => x) (fun w h => ?y180) ?_; (case y180 => (try dsimp only at h); go_simp; try (with_reducible rfl)); try simp only [Act.put, sa, s0, s1]
        refine tk 3 q679_34_4_3 (some 14) (v := ?v181) rfl rfl (by kernel_rfl) hHeld (by rfl) (fun _ _ _ x => x) (fun w h => ?y181) ?_; (case y181 => (try dsimp only at h); go_simp; try (with_reducible rfl)); try simp only [Act.put, sa, s0, s1]
        refine tk 4 q679_34_4_4 (some 15) (v := ?v182) rfl rfl (by kernel_rfl) hHeld (by rfl) (fun _ _ _ x => x) (fun w h => ?y182) ?_; (case y182 => (try dsimp only at h); go_simp; try (with_reducible rfl)); try simp only [Act.put, sa, s0, s1]
        refine wpAnyH_ready (rs := [5]) (by kernel_rfl) (by simp) ?_
        refine AllReadyH.cons (o := q679_34_4_5) rfl (fun K hK => ?_) AllReadyH.nil
        go_simp
        refine Calls.mono (hCp _ hHeld) ?_
        rintro e w1 ⟨rfl, hx1⟩
        go_wp2_with fail
        refine hK.out _ _ (bthen hHeld hx1) (fun hHeld => ?_)
        clear hK K
        try simp only [Act.put, sa, s0, s1]
        refine tk 6 q679_34_4_6 (some 17) (v := ?v183) rfl rfl (by kernel_rfl) hHeld (by rfl) (fun _ _ _ x => x) (fun w h => ?y183) ?_; (case y183 => (try dsimp only at h); go_simp; try (with_reducible rfl)); try simp only [Act.put, sa, s0, s1]
        refine tk 7 q679_34_4_7 (some 18) (v := ?v184) rfl rfl (by kernel_rfl) hHeld (by rfl) (fun _ _ _ x => x) (fun w h => ?y184) ?_; (case y184 => (try dsimp only at h); go_simp; try (with_reducible rfl)); try simp only [Act.put, sa, s0, s1]
        refine tn 8 q679_34_4_8 (some 19) rfl rfl (by kernel_rfl) hHeld (by rfl) (fun _ _ _ x => x) ?_; try simp only [Act.put, sa, s0, s1]
        refine tn 9 q679_34_4_9 (some 20) rfl rfl (by kernel_rfl) hHeld (by rfl) (fun _ _ _ x => x) ?_; try simp only [Act.put, sa, s0, s1]
        refine tn 10 q679_34_4_10 (some 21) rfl rfl (by kernel_rfl) hHeld (by rfl) (fun _ _ _ x => x) ?_; try simp only [Act.put, sa, s0, s1]
        refine tn 11 q679_34_4_11 (some 22) rfl rfl (by kernel_rfl) hHeld (by rfl) (fun _ _ _ x => x) ?_; try simp only [Act.put, sa, s0, s1]
        refine tn 12 q679_34_4_12 (some 23) rfl rfl (by kernel_rfl) hHeld (by rfl) (fun _ _ _ x => x) ?_; try simp only [Act.put, sa, s0, s1]
        refine tn 13 q679_34_4_13 (some 24) rfl rfl (by kernel_rfl) hHeld (by rfl) (fun _ _ _ x => x) ?_; try simp only [Act.put, sa, s0, s1]
        refine tn 14 q679_34_4_14 (some 25) rfl rfl (by kernel_rfl) hHeld (by rfl) (fun _ _ _ x => x) ?_; try simp only [Act.put, sa, s0, s1]
        refine tn 15 q679_34_4_15 (some 26) rfl rfl (by kernel_rfl) hHeld (by rfl) (fun _ _ _ x => x) ?_; try simp only [Act.put, sa, s0, s1]
        refine tn 16 q679_34_4_16 (some 27) rfl rfl (by kernel_rfl) hHeld (by rfl) (fun _ _ _ x => x) ?_; try simp only [Act.put, sa, s0, s1]
        refine tn 17 q679_34_4_17 (some 28) rfl rfl (by kernel_rfl) hHeld (by rfl) (fun _ _ _ x => x) ?_; try simp only [Act.put, sa, s0, s1]
        refine tn 18 q679_34_4_18 (some 29) rfl rfl (by kernel_rfl) hHeld (by rfl) (fun _ _ _ x => x) ?_; try simp only [Act.put, sa, s0, s1]
        refine tn 19 q679_34_4_19 (some 30) rfl rfl (by kernel_rfl) hHeld (by rfl) (fun _ _ _ x => x) ?_; try simp only [Act.put, sa, s0, s1]
        refine tn 20 q679_34_4_20 (some 31) rfl rfl (by kernel_rfl) hHeld (by rfl) (fun _ _ _ x => x) ?_; try simp only [Act.put, sa, s0, s1]
        refine tn 21 q679_34_4_21 (some 32) rfl rfl (by kernel_rfl) hHeld (by rfl) (fun _ _ _ x => x) ?_; try simp only [Act.put, sa, s0, s1]
        refine tn 22 q679_34_4_22 (some 33) rfl rfl (by kernel_rfl) hHeld (by rfl) (fun _ _ _ x => x) ?_; try simp only [Act.put, sa, s0, s1]
        refine tn 23 q679_34_4_23 (some 34) rfl rfl (by kernel_rfl) hHeld (by rfl) (fun _ _ _ x => x) ?_; try simp only [Act.put, sa, s0, s1]
        refine tn 24 q679_34_4_24 (some 35) rfl rfl (by kernel_rfl) hHeld (by rfl) (fun _ _ _ x => x) ?_; try simp only [Act.put, sa, s0, s1]
        refine tn 25 q679_34_4_25 (some 36) rfl rfl (by kernel_rfl) hHeld (by rfl) (fun _ _ _ x => x) ?_; try simp only [Act.put, sa, s0, s1]
        refine tn 26 q679_34_4_26 (some 37) rfl rfl (by kernel_rfl) hHeld (by rfl) (fun _ _ _ x => x) ?_; try simp only [Act.put, sa, s0, s1]
        refine tk 27 q679_34_4_27 (some 38) (v := ?v204) rfl rfl (by kernel_rfl) hHeld (by rfl) (fun _ _ _ x => x) (fun w h => ?y204) ?_; (case y204 => (try dsimp only at h); go_simp; try (with_reducible rfl)); try simp only [Act.put, sa, s0, s1]
        refine wpAnyH_done (by kernel_rfl) ?_ _
        go_wp2_with fail
        go_ret
        exact ⟨by rw [HD.out]; rfl, bthen hbww hHeld⟩
    · have HD := Hid.mk (HUT.out (upOk_yes (fun j hj => HI.out j (by have := HX.out; omega))))
      go_wp2_with fail
      go_ret
      exact ⟨by rw [HD.out]; rfl, hbw⟩

end Go.Proofs.YtmigamgcmhdncaaDoor
