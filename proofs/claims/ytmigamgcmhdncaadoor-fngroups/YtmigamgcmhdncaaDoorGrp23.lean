/-
  Part 24 of the texts that the proof leans on.
-/
import Derived.Test.YtmigamgcmhdncaaDoorGrp0
import Derived.Test.YtmigamgcmhdncaaDoorGrp19
import Derived.Test.YtmigamgcmhdncaaDoorGrp21
import Derived.Test.YtmigamgcmhdncaaDoorGrp22
set_option linter.unusedVariables false
set_option linter.unusedSimpArgs false
set_option maxRecDepth 10000

namespace Go.Proofs.YtmigamgcmhdncaaDoor
open Go.RowKit
abbrev qfd4_6_13_0 : Oper := ⟨some 38, .load 30 (.tmp 3), 30, "laws.go:578", #[], none⟩
abbrev qfd4_6_13_1 : Oper := ⟨some 39, .move (.tmp 6), 26, "laws.go:578", #[], none⟩
abbrev qfd4_6_13_2 : Oper := ⟨some 40, .move (.tmp 7), 3, "laws.go:578", #[], none⟩
abbrev qfd4_6_13_3 : Oper := ⟨some 41, .indexAddr 26 (.tmp 39) (.tmp 40), 0, "laws.go:578", #[⟨1, .data⟩, ⟨2, .data⟩], none⟩
abbrev qfd4_6_13_4 : Oper := ⟨some 42, .load 40 (.tmp 41), 40, "laws.go:578", #[⟨3, .data⟩], none⟩
abbrev qfd4_6_13_6 : Oper := ⟨some 44, .move (.tmp 6), 26, "laws.go:578", #[], none⟩
abbrev qfd4_6_13_5 : Oper := ⟨some 43, .call { callee := .value (.func 20), args := #[.tmp 38, .tmp 42], argTypes := #[30, 40] }, 26, "laws.go:578", #[⟨0, .data⟩, ⟨4, .data⟩], none⟩
abbrev qfd4_6_13_7 : Oper := ⟨some 45, .call { callee := .value (.func 25), args := #[.tmp 43, .tmp 44], argTypes := #[26, 26] }, 4, "laws.go:578", #[⟨5, .data⟩, ⟨6, .data⟩, ⟨5, .chain⟩], none⟩
abbrev qfd4_6_13_8 : Oper := ⟨some 46, .unOp .not 4 (.tmp 45), 4, "laws.go:578", #[⟨7, .data⟩], none⟩
abbrev qfd4_6_13_9 : Oper := ⟨some 47, .move (.tmp 46), 4, "laws.go:578", #[⟨8, .data⟩, ⟨7, .chain⟩], none⟩
abbrev qfd4_6_13_10 : Oper := ⟨some 48, .move (.tmp 5), 26, "laws.go:578", #[⟨9, .guard⟩], some (9, false)⟩
abbrev qfd4_6_13_11 : Oper := ⟨some 49, .move (.tmp 6), 26, "laws.go:578", #[⟨9, .guard⟩], some (9, false)⟩
abbrev qfd4_6_13_12 : Oper := ⟨some 50, .move (.tmp 7), 3, "laws.go:578", #[⟨9, .guard⟩], some (9, false)⟩
abbrev qfd4_6_13_13 : Oper := ⟨some 51, .indexAddr 26 (.tmp 49) (.tmp 50), 0, "laws.go:578", #[⟨11, .data⟩, ⟨12, .data⟩, ⟨9, .guard⟩], some (9, false)⟩
abbrev qfd4_6_13_14 : Oper := ⟨some 52, .load 40 (.tmp 51), 40, "laws.go:578", #[⟨13, .data⟩, ⟨9, .guard⟩], some (9, false)⟩
abbrev qfd4_6_13_15 : Oper := ⟨some 53, .call { callee := .value (.func 26), args := #[.tmp 48, .tmp 52], argTypes := #[26, 40] }, 3, "laws.go:578", #[⟨10, .data⟩, ⟨14, .data⟩, ⟨9, .chain⟩, ⟨9, .guard⟩], some (9, false)⟩
abbrev qfd4_6_13_16 : Oper := ⟨some 54, .binOp .lss 3 (.tmp 53) (.const (.int .i64 0)) 3, 4, "laws.go:578", #[⟨15, .data⟩, ⟨9, .guard⟩], some (9, false)⟩
abbrev qfd4_6_13_17 : Oper := ⟨some 55, .pick (.tmp 47) (.const (.bool true)) (.tmp 54), 4, "laws.go:578", #[⟨9, .data⟩, ⟨16, .data⟩], none⟩
abbrev qfd4_6_13_18 : Oper := ⟨some 56, .move (.tmp 55), 4, "laws.go:578", #[⟨17, .data⟩, ⟨15, .chain⟩], none⟩
abbrev qfd4_6_13_19 : Oper := ⟨some 57, .move (.tmp 7), 3, "laws.go:578", #[⟨18, .guard⟩], some (18, false)⟩
abbrev qfd4_6_13_20 : Oper := ⟨some 58, .binOp .gtr 3 (.tmp 57) (.const (.int .i64 0)) 3, 4, "laws.go:578", #[⟨19, .data⟩, ⟨18, .guard⟩], some (18, false)⟩
abbrev qfd4_6_13_21 : Oper := ⟨some 59, .move (.tmp 58), 4, "laws.go:578", #[⟨20, .data⟩, ⟨18, .chain⟩, ⟨18, .guard⟩], some (18, false)⟩
abbrev qfd4_6_13_22 : Oper := ⟨some 60, .move (.tmp 6), 26, "laws.go:578", #[⟨21, .guard⟩], some (21, true)⟩
abbrev qfd4_6_13_23 : Oper := ⟨some 61, .move (.tmp 7), 3, "laws.go:578", #[⟨21, .guard⟩], some (21, true)⟩
abbrev qfd4_6_13_24 : Oper := ⟨some 62, .binOp .sub 3 (.tmp 61) (.const (.int .i64 1)) 3, 3, "laws.go:578", #[⟨23, .data⟩, ⟨21, .guard⟩], some (21, true)⟩
abbrev qfd4_6_13_25 : Oper := ⟨some 63, .indexAddr 26 (.tmp 60) (.tmp 62), 0, "laws.go:578", #[⟨22, .data⟩, ⟨24, .data⟩, ⟨21, .guard⟩], some (21, true)⟩
abbrev qfd4_6_13_26 : Oper := ⟨some 64, .load 40 (.tmp 63), 40, "laws.go:578", #[⟨25, .data⟩, ⟨21, .guard⟩], some (21, true)⟩
abbrev qfd4_6_13_27 : Oper := ⟨some 65, .move (.tmp 6), 26, "laws.go:578", #[⟨21, .guard⟩], some (21, true)⟩
abbrev qfd4_6_13_28 : Oper := ⟨some 66, .move (.tmp 7), 3, "laws.go:578", #[⟨21, .guard⟩], some (21, true)⟩
abbrev qfd4_6_13_29 : Oper := ⟨some 67, .indexAddr 26 (.tmp 65) (.tmp 66), 0, "laws.go:578", #[⟨27, .data⟩, ⟨28, .data⟩, ⟨21, .guard⟩], some (21, true)⟩
abbrev qfd4_6_13_30 : Oper := ⟨some 68, .load 40 (.tmp 67), 40, "laws.go:578", #[⟨29, .data⟩, ⟨21, .guard⟩], some (21, true)⟩
abbrev qfd4_6_13_31 : Oper := ⟨some 69, .call { callee := .value (.func 27), args := #[.tmp 64, .tmp 68], argTypes := #[40, 40] }, 4, "laws.go:578", #[⟨26, .data⟩, ⟨30, .data⟩, ⟨21, .chain⟩, ⟨21, .guard⟩], some (21, true)⟩
abbrev qfd4_6_13_32 : Oper := ⟨some 70, .unOp .not 4 (.tmp 69), 4, "laws.go:578", #[⟨31, .data⟩, ⟨21, .guard⟩], some (21, true)⟩
abbrev qfd4_6_13_33 : Oper := ⟨some 71, .pick (.tmp 59) (.tmp 70) (.const (.bool false)), 4, "laws.go:578", #[⟨21, .data⟩, ⟨32, .data⟩, ⟨18, .guard⟩], some (18, false)⟩
abbrev qfd4_6_13_34 : Oper := ⟨some 72, .pick (.tmp 56) (.const (.bool true)) (.tmp 71), 4, "laws.go:578", #[⟨18, .data⟩, ⟨33, .data⟩], none⟩
abbrev qfd4_6_13_35 : Oper := ⟨some 73, .move (.tmp 72), 4, "laws.go:578", #[⟨34, .data⟩, ⟨31, .chain⟩], none⟩
abbrev qfd4_6_13_36 : Oper := ⟨some 74, .move (.tmp 6), 26, "laws.go:578", #[⟨35, .guard⟩], some (35, false)⟩
abbrev qfd4_6_13_37 : Oper := ⟨some 75, .move (.tmp 7), 3, "laws.go:578", #[⟨35, .guard⟩], some (35, false)⟩
abbrev qfd4_6_13_38 : Oper := ⟨some 76, .indexAddr 26 (.tmp 74) (.tmp 75), 0, "laws.go:578", #[⟨36, .data⟩, ⟨37, .data⟩, ⟨35, .guard⟩], some (35, false)⟩
abbrev qfd4_6_13_39 : Oper := ⟨some 77, .load 40 (.tmp 76), 40, "laws.go:578", #[⟨38, .data⟩, ⟨35, .guard⟩], some (35, false)⟩
abbrev qfd4_6_13_40 : Oper := ⟨some 78, .move (.tmp 6), 26, "laws.go:578", #[⟨35, .guard⟩], some (35, false)⟩
abbrev qfd4_6_13_41 : Oper := ⟨some 79, .move (.tmp 7), 3, "laws.go:578", #[⟨35, .guard⟩], some (35, false)⟩
abbrev qfd4_6_13_42 : Oper := ⟨some 80, .indexAddr 26 (.tmp 78) (.tmp 79), 0, "laws.go:578", #[⟨40, .data⟩, ⟨41, .data⟩, ⟨35, .guard⟩], some (35, false)⟩
abbrev qfd4_6_13_43 : Oper := ⟨some 81, .load 40 (.tmp 80), 40, "laws.go:578", #[⟨42, .data⟩, ⟨35, .guard⟩], some (35, false)⟩
abbrev qfd4_6_13_44 : Oper := ⟨some 82, .call { callee := .value (.func 27), args := #[.tmp 77, .tmp 81], argTypes := #[40, 40] }, 4, "laws.go:578", #[⟨39, .data⟩, ⟨43, .data⟩, ⟨35, .chain⟩, ⟨35, .guard⟩], some (35, false)⟩
abbrev qfd4_6_13_45 : Oper := ⟨some 83, .pick (.tmp 73) (.const (.bool true)) (.tmp 82), 4, "laws.go:578", #[⟨35, .data⟩, ⟨44, .data⟩], none⟩

set_option maxHeartbeats 8000000 in
theorem law_FnGroups_r (a : Option Addr) (n cap : Nat) (zs : List Int) (w : World) (hx : zs.length = n) (hr : Rd .u8 w.heap.size w a zs) (hT : TzAt w) :
    Calls Tryd.prog 6 #[.slice a n cap] w fun e w' => e = .returned (.bool true) ∧ Below w.heap.size w w' := by
  go_enter Tryd.func6, Tryd.ntmps6
  go_wp2_with fail
  refine (bigG_any a n cap w).mono ?_
  rintro e w0 ⟨rfl, hw0⟩
  have hw0' := hw0.symm
  clear hw0
  subst hw0'
  by_cases hbig : 1048576 < (n : Int)
  · rw [decide_eq_true hbig]
    go_wp2_with fail
    go_ret
    exact ⟨rfl, Below.refl _ _⟩
  rw [decide_eq_false hbig]
  go_wp2_with fail
  refine (drawGroup_ok a n cap zs w hx (by omega) hr).mono ?_
  rintro e w1 ⟨ag, cg, m, dr, dn, rfl, hrg, hwm, hdw, hb1⟩
  have hwM : wGraph m ≤ 1048576 := by omega
  have hml : m.fItems.length ≤ 6300 := by have h : m.fItems.length + sumW wItem m.fItems ≤ 6300 := hwm; omega
  have HML := Hid.mk hml
  have HWM := Hid.mk hwM
  clear hwm hml hwM
  obtain ⟨N, hN⟩ : ∃ N, N = m.fItems.length := ⟨_, rfl⟩
  rw [← hN] at hrg ⊢
  clear hN
  obtain ⟨w2, hw2⟩ : ∃ x, x = (w1.alloc (.cells #[.slice ag N cg] 30)).alloc (.cells #[.int .i64 dr, .int .i64 dn] 40) := ⟨_, rfl⟩
  have hx2 : Below w1.heap.size w1 w2 := by rw [hw2]; exact ((Below.refl _ _).alloc (Nat.le_refl _) _).alloc (by simp) _
  have hbg : Bx w2 w1.heap.size [.slice ag N cg] := by rw [hw2]; exact (Bx.new _ _ _).alloc _
  have hbd : Bx w2 (w1.heap.size + 1) [.int .i64 dr, .int .i64 dn] := by
    rw [hw2]
    have h := Bx.new (w1.alloc (.cells #[.slice ag N cg] 30)) [.int .i64 dr, .int .i64 dn] 40
    simpa using h
  have HRG : Hid (∀ W, Below w2.heap.size w2 W → rGraph W.heap.size W [.slice ag N cg] m) := fun W hb => rGraph_good.mono (rGraph_good.below hrg (bthen hx2 hb)) (bthen hx2 hb).size
  have HTZ : Hid (∀ W, Below w2.heap.size w2 W → TzAt W) := fun W hb => hT.below (bthen hb1 (bthen hx2 hb))
  have HG0 : Hid (∀ W, Below w2.heap.size w2 W → W.cell? ⟨w1.heap.size, 0, none⟩ = some (.slice ag N cg)) := fun W hb => (hbg.under hb).2 0 _ rfl
  have HD0 : Hid (∀ W, Below w2.heap.size w2 W → W.cell? ⟨w1.heap.size + 1, 0, none⟩ = some (.int .i64 dr)) := fun W hb => (hbd.under hb).2 0 _ rfl
  have HD1 : Hid (∀ W, Below w2.heap.size w2 W → W.cell? ⟨w1.heap.size + 1, 1, none⟩ = some (.int .i64 dn)) := fun W hb => (hbd.under hb).2 1 _ rfl
  have hb2 := bthen hb1 hx2
  have hz2 := hbd.1
  obtain ⟨b0, hb0e⟩ : ∃ b, b = w1.heap.size := ⟨_, rfl⟩
  rw [← hb0e] at HG0 HD0 HD1 hz2
  have y0 := HG0.out _ (Below.refl _ _)
  obtain ⟨WL, hWL⟩ := whole_ex m
  have HWL := Hid.mk hWL
  have hWLn : WL.length ≤ 6300 := by have h1 := hWL.len; have h2 := HML.out; omega
  obtain ⟨d, hd⟩ : ∃ d : MDot, d = ⟨dr, dn⟩ := ⟨_, rfl⟩
  obtain ⟨GL, hGL⟩ := PickL.ex m.fItems (InGroup m d)
  have HGL := Hid.mk hGL
  have hGLn : GL.length ≤ 6300 := by have h1 := hGL.len; have h2 := HML.out; omega
  have HRD : Hid (∀ W : World, rDot W.heap.size W [.int .i64 dr, .int .i64 dn] d) := fun W => by rw [hd]; exact ⟨rfl, hdw.1, hdw.2, trivial⟩
  have HDR : Hid (dr = d.fR ∧ dn = d.fN) := by unfold Hid; rw [hd]; exact ⟨rfl, rfl⟩
  clear hT hd hWL hGL hrg hbg hbd hdw
  go_wp2_with (rw [← hw2])
  try rw [← hw2]
  try rw [← hb0e]
  clear hw2 hb0e hx2 hb1
  refine (implWhole_c WL [.slice ag N cg] m HWL.out w2 (HRG.out _ (Below.refl _ _)) HWM.out (HTZ.out _ (Below.refl _ _))).mono ?_
  rintro e w3 ⟨v3, F3, rfl, ho3, _, _, hx3⟩
  obtain ⟨a3, c3, rfl, hL3⟩ := rdDs_own ho3
  have HW3 : Hid (∀ W, Below w3.heap.size w3 W → LeafL 2 rDot W.heap.size W a3 c3 WL) := fun W hb => LeafL.mono rDot_good (hL3.below rDot_good hb) hb.size
  clear ho3 hL3 y0
  have y0 := HG0.out _ hx3
  have hz3 : b0 + 1 < w3.heap.size := Nat.lt_of_lt_of_le hz2 hx3.size
  go_wp2_with fail
  refine (specWhole_c WL [.slice ag N cg] m HWL.out w3 (HRG.out _ hx3) HWM.out).mono ?_
  rintro e w4 ⟨v4, rfl, hr4, hx4⟩
  obtain ⟨a4, c4, rfl, hL4⟩ := hr4
  have hb24 := bthen hx3 hx4
  clear y0
  have y0 := HG0.out _ hb24
  go_wp2_with fail
  refine (sameDots_yes a3 a4 _ c3 c4 WL w4 rfl (by omega) (HW3.out _ hx4) hL4).mono ?_
  rintro e w5 ⟨rfl, hx5⟩
  have hb25 := bthen hb24 hx5
  have hb35 := bthen hx4 hx5
  have hz5 : b0 + 1 < w5.heap.size := Nat.lt_of_lt_of_le hz2 hb25.size
  clear y0 hL4 hx4 hx5 hb24
  have y0 := HG0.out _ hb25
  have y1 := HD0.out _ hb25
  have y2 := HD1.out _ hb25
  go_wp2_with fail
  refine (implGroup_c GL [.slice ag N cg] m [.int .i64 dr, .int .i64 dn] d HGL.out w5 (HRG.out _ hb25) HWM.out (HRD.out _) (HTZ.out _ hb25)).mono ?_
  rintro e w6 ⟨v6, F6, rfl, ho6, _, _, hx6⟩
  obtain ⟨a6, c6, rfl, hL6⟩ := rdDs_own ho6
  have HW6 : Hid (∀ W, Below w6.heap.size w6 W → LeafL 2 rDot W.heap.size W a6 c6 GL) := fun W hb => LeafL.mono rDot_good (hL6.below rDot_good hb) hb.size
  have hb26 := bthen hb25 hx6
  have hb36 := bthen hb35 hx6
  have hz6 : b0 + 1 < w6.heap.size := Nat.lt_of_lt_of_le hz2 hb26.size
  clear ho6 hL6 y0 y1 y2 hb25 hb35 hx6
  have y1 := HD0.out _ hb26
  have y2 := HD1.out _ hb26
  have hPC := place_any a3 _ c3 WL d w6 rfl (by omega) (HW3.out _ hb36)
  rw [← HDR.out.1, ← HDR.out.2] at hPC
  go_wp2_with fail
  refine hPC.mono ?_
  rintro e w7 ⟨⟨z, HZ, rfl⟩, hx7⟩
  have hb27 := bthen hb26 hx7
  have hb37 := bthen hb36 hx7
  have hbW7 := bthen hb2 hb27
  have hz7 : b0 + 1 < w7.heap.size := Nat.lt_of_lt_of_le hz2 hb27.size
  clear hPC y1 y2 hb36
  by_cases hin : d ∈ WL
  rotate_left
  · have hneg : z < 0 := HZ.out.neg.2 hin
    have hdz : decide (z < 0) = true := decide_eq_true hneg
    have hz : GL.length = 0 := by rw [grp_none HWL.out HGL.out hin]; rfl
    go_wp2_with fail
    go_ret
    exact ⟨by simp [hz], hbW7⟩
  have hpos : ¬ z < 0 := by have := HZ.out.pos.2 hin; omega
  have hdz : decide (z < 0) = false := decide_eq_false hpos
  have HIN := Hid.mk hin
  clear hin
  obtain ⟨K, hK⟩ : ∃ K, K = GL.length := ⟨_, rfl⟩
  rw [← hK] at hGLn ⊢
  have HK := Hid.mk hK.symm
  clear hK
  go_wp2_with fail
  clear hdz hpos
  go_loopw [7] (fun i wr => ∃ k : Nat, k ≤ K ∧ i = .int .i64 k ∧ Below w7.heap.size w7 wr) (fun i _ => K - (intOf i).toNat)
  case atStart => exact ⟨0, Nat.zero_le _, rfl, Below.refl _ _⟩
  case round =>
    obtain ⟨k, hk, rfl, hbk⟩ := hrel
    have hb2k := bthen hb27 hbk
    have hb6k := bthen hx7 hbk
    have hb3k := bthen hb37 hbk
    by_cases hlt : k < K
    · have hkl : k < GL.length := by rw [HK.out]; exact hlt
      have y0 : ∀ W, Below wr.heap.size wr W → W.cell? ⟨b0, 0, none⟩ = some (.slice ag N cg) := fun W h => HG0.out W (bthen hb2k h)
      have hLk := (HW6.out _ hb6k).2.2
      obtain ⟨b1, o1, rfl, hB, cs, hcl, hcell, rfl, g0, g1, _⟩ := hLk k hkl
      have k0 := hcell 0 _ rfl
      have k1 := hcell 1 _ rfl
      rw [Nat.add_zero] at k0
      have k2 : ∀ W, Below wr.heap.size wr W → W.cell? ⟨b1, o1 + k * 2, none⟩ = some (.int .i64 GL[k].fR) := fun W h => (h.cell (p := ⟨b1, o1 + k * 2, none⟩) hB).trans k0
      have k3 : ∀ W, Below wr.heap.size wr W → W.cell? ⟨b1, o1 + k * 2 + 1, none⟩ = some (.int .i64 GL[k].fN) := fun W h => (h.cell (p := ⟨b1, o1 + k * 2 + 1, none⟩) hB).trans k1
      have hk1 : (0 : Int) ≤ (k : Int) := by omega
      have hk2 : (k : Int) < (K : Int) := by omega
      have hCG := fun W (h : Below wr.heap.size wr W) => implGroup_c GL [.slice ag N cg] m [.int .i64 GL[k].fR, .int .i64 GL[k].fN] GL[k] (grp_same HGL.out (List.getElem_mem hkl)) W (HRG.out _ (bthen hb2k h)) HWM.out ⟨rfl, g0, g1, trivial⟩ (HTZ.out _ (bthen hb2k h))
      have hCS := fun W (h : Below wr.heap.size wr W) (x : Option Addr) (y : Nat) (hL : LeafL 2 rDot W.heap.size W x y GL) => sameDots_yes x (some ⟨b1, o1, none⟩) K y c6 GL W HK.out (by omega) hL (HW6.out _ (bthen hb6k h))
      have hCP := fun W (h : Below wr.heap.size wr W) => place_any a3 _ c3 WL GL[k] W rfl (by omega) (HW3.out _ (bthen hb3k h))
      have HPP : Hid (∀ y : Int, PlcAt WL GL[k] y → ¬ y < 0) := fun y hy => by have := hy.pos.2 (grp_whole HWL.out HGL.out (List.getElem_mem hkl)); omega
      have hCX := fun W => implDotLess_any [.int .i64 GL[k].fR, .int .i64 GL[k].fN] [.int .i64 GL[k].fR, .int .i64 GL[k].fN] GL[k] GL[k] W ⟨rfl, g0, g1, trivial⟩ ⟨rfl, g0, g1, trivial⟩
      simp only [dotLt_self] at hCX
      clear k0 k1 hcell hcl
      by_cases h0 : k = 0
      · subst h0
        simp only [Nat.zero_mul, Nat.add_zero] at k2 k3
        generalize GL[0] = x at *
        go_wp2_with fail
        refine wp_region_held_drew (S := fun W => Below wr.heap.size wr W) (by kernel_rfl) (Below.drew (Below.refl _ _)) (fun hHeld => ?_)
        refine tk 0 qfd4_6_13_0 (some 38) (v := ?v1) rfl rfl (by kernel_rfl) hHeld (by rfl) (fun _ _ _ x => x) (fun w h => ?y1) ?_; (case y1 => (try dsimp only at h); go_simp; try (with_reducible rfl)); try simp only [Act.put, sa, s0, s1]
        refine tk 1 qfd4_6_13_1 (some 39) (v := ?v2) rfl rfl (by kernel_rfl) hHeld (by rfl) (fun _ _ _ x => x) (fun w h => ?y2) ?_; (case y2 => (try dsimp only at h); go_simp; try (with_reducible rfl)); try simp only [Act.put, sa, s0, s1]
        refine tk 2 qfd4_6_13_2 (some 40) (v := ?v3) rfl rfl (by kernel_rfl) hHeld (by rfl) (fun _ _ _ x => x) (fun w h => ?y3) ?_; (case y3 => (try dsimp only at h); go_simp; try (with_reducible rfl)); try simp only [Act.put, sa, s0, s1]
        refine tk 3 qfd4_6_13_3 (some 41) (v := ?v4) rfl rfl (by kernel_rfl) hHeld (by rfl) (fun _ _ _ x => x) (fun w h => ?y4) ?_; (case y4 => (try dsimp only at h); go_simp; try (with_reducible rfl)); try simp only [Act.put, sa, s0, s1]
        refine tk 4 qfd4_6_13_4 (some 42) (v := ?v5) rfl rfl (by kernel_rfl) hHeld (by rfl) (fun _ _ _ x => x) (fun w h => ?y5) ?_; (case y5 => (try dsimp only at h); go_simp; try (with_reducible rfl)); try simp only [Act.put, sa, s0, s1]
        refine tk 6 qfd4_6_13_6 (some 44) (v := ?v6) rfl rfl (by kernel_rfl) hHeld (by rfl) (fun _ _ _ x => x) (fun w h => ?y6) ?_; (case y6 => (try dsimp only at h); go_simp; try (with_reducible rfl)); try simp only [Act.put, sa, s0, s1]
        refine wpAnyH_ready (rs := [5]) (by kernel_rfl) (by simp) ?_
        refine AllReadyH.cons (o := qfd4_6_13_5) rfl (fun K hK => ?_) AllReadyH.nil
        go_simp
        refine Calls.mono (hCG _ hHeld) ?_
        rintro e v1 ⟨vx, Fx, rfl, hox, _, _, hx1⟩
        obtain ⟨ax, cx, rfl, hLx⟩ := rdDs_own hox
        rw [HK.out]
        go_wp2_with fail
        refine hK.out _ _ (bthen hHeld hx1) (fun hHeld => ?_)
        clear hK K
        try simp only [Act.put, sa, s0, s1]
        refine wpAnyH_ready (rs := [7]) (by kernel_rfl) (by simp) ?_
        refine AllReadyH.cons (o := qfd4_6_13_7) rfl (fun K hK => ?_) AllReadyH.nil
        go_simp
        refine Calls.mono (hCS _ hHeld ax cx hLx) ?_
        rintro e v2 ⟨rfl, hx2⟩
        go_wp2_with fail
        refine hK.out _ _ (bthen hHeld hx2) (fun hHeld => ?_)
        clear hK K
        try simp only [Act.put, sa, s0, s1]
        refine tk 8 qfd4_6_13_8 (some 46) (v := ?v7) rfl rfl (by kernel_rfl) hHeld (by rfl) (fun _ _ _ x => x) (fun w h => ?y7) ?_; (case y7 => (try dsimp only at h); go_simp; try (with_reducible rfl)); try simp only [Act.put, sa, s0, s1]
        refine tk 9 qfd4_6_13_9 (some 47) (v := ?v8) rfl rfl (by kernel_rfl) hHeld (by rfl) (fun _ _ _ x => x) (fun w h => ?y8) ?_; (case y8 => (try dsimp only at h); go_simp; try (with_reducible rfl)); try simp only [Act.put, sa, s0, s1]
        refine tk 10 qfd4_6_13_10 (some 48) (v := ?v9) rfl rfl (by kernel_rfl) hHeld (by rfl) (fun _ _ _ x => x) (fun w h => ?y9) ?_; (case y9 => (try dsimp only at h); go_simp; try (with_reducible rfl)); try simp only [Act.put, sa, s0, s1]
        refine tk 11 qfd4_6_13_11 (some 49) (v := ?v10) rfl rfl (by kernel_rfl) hHeld (by rfl) (fun _ _ _ x => x) (fun w h => ?y10) ?_; (case y10 => (try dsimp only at h); go_simp; try (with_reducible rfl)); try simp only [Act.put, sa, s0, s1]
        refine tk 12 qfd4_6_13_12 (some 50) (v := ?v11) rfl rfl (by kernel_rfl) hHeld (by rfl) (fun _ _ _ x => x) (fun w h => ?y11) ?_; (case y11 => (try dsimp only at h); go_simp; try (with_reducible rfl)); try simp only [Act.put, sa, s0, s1]
        refine tk 13 qfd4_6_13_13 (some 51) (v := ?v12) rfl rfl (by kernel_rfl) hHeld (by rfl) (fun _ _ _ x => x) (fun w h => ?y12) ?_; (case y12 => (try dsimp only at h); go_simp; try (with_reducible rfl)); try simp only [Act.put, sa, s0, s1]
        refine tk 14 qfd4_6_13_14 (some 52) (v := ?v13) rfl rfl (by kernel_rfl) hHeld (by rfl) (fun _ _ _ x => x) (fun w h => ?y13) ?_; (case y13 => (try dsimp only at h); go_simp; try (with_reducible rfl)); try simp only [Act.put, sa, s0, s1]
        refine wpAnyH_ready (rs := [15]) (by kernel_rfl) (by simp) ?_
        refine AllReadyH.cons (o := qfd4_6_13_15) rfl (fun K hK => ?_) AllReadyH.nil
        go_simp
        refine Calls.mono (hCP _ hHeld) ?_
        rintro e v3 ⟨⟨yy, HYY, rfl⟩, hx3⟩
        have hyn := HPP.out yy HYY.out
        have hyd : decide (yy < 0) = false := decide_eq_false (by omega)
        go_wp2_with fail
        refine hK.out _ _ (bthen hHeld hx3) (fun hHeld => ?_)
        clear hK K
        try simp only [Act.put, sa, s0, s1]
        refine tk 16 qfd4_6_13_16 (some 54) (v := ?v14) rfl rfl (by kernel_rfl) hHeld (by rfl) (fun _ _ _ x => x) (fun w h => ?y14) ?_; (case y14 => (try dsimp only at h); go_simp; try (with_reducible rfl)); try simp only [Act.put, sa, s0, s1]
        refine tk 17 qfd4_6_13_17 (some 55) (v := ?v15) rfl rfl (by kernel_rfl) hHeld (by rfl) (fun _ _ _ x => x) (fun w h => ?y15) ?_; (case y15 => (try dsimp only at h); go_simp; try (with_reducible rfl)); try simp only [Act.put, sa, s0, s1]
        refine tk 18 qfd4_6_13_18 (some 56) (v := ?v16) rfl rfl (by kernel_rfl) hHeld (by rfl) (fun _ _ _ x => x) (fun w h => ?y16) ?_; (case y16 => (try dsimp only at h); go_simp; try (with_reducible rfl)); try simp only [Act.put, sa, s0, s1]
        refine tk 19 qfd4_6_13_19 (some 57) (v := ?v17) rfl rfl (by kernel_rfl) hHeld (by rfl) (fun _ _ _ x => x) (fun w h => ?y17) ?_; (case y17 => (try dsimp only at h); go_simp; try (with_reducible rfl)); try simp only [Act.put, sa, s0, s1]
        refine tk 20 qfd4_6_13_20 (some 58) (v := ?v18) rfl rfl (by kernel_rfl) hHeld (by rfl) (fun _ _ _ x => x) (fun w h => ?y18) ?_; (case y18 => (try dsimp only at h); go_simp; try (with_reducible rfl)); try simp only [Act.put, sa, s0, s1]
        refine tk 21 qfd4_6_13_21 (some 59) (v := ?v19) rfl rfl (by kernel_rfl) hHeld (by rfl) (fun _ _ _ x => x) (fun w h => ?y19) ?_; (case y19 => (try dsimp only at h); go_simp; try (with_reducible rfl)); try simp only [Act.put, sa, s0, s1]
        refine tn 22 qfd4_6_13_22 (some 60) rfl rfl (by kernel_rfl) hHeld (by rfl) (fun _ _ _ x => x) ?_; try simp only [Act.put, sa, s0, s1]
        refine tn 23 qfd4_6_13_23 (some 61) rfl rfl (by kernel_rfl) hHeld (by rfl) (fun _ _ _ x => x) ?_; try simp only [Act.put, sa, s0, s1]
        refine tn 24 qfd4_6_13_24 (some 62) rfl rfl (by kernel_rfl) hHeld (by rfl) (fun _ _ _ x => x) ?_; try simp only [Act.put, sa, s0, s1]
        refine tn 25 qfd4_6_13_25 (some 63) rfl rfl (by kernel_rfl) hHeld (by rfl) (fun _ _ _ x => x) ?_; try simp only [Act.put, sa, s0, s1]
        refine tn 26 qfd4_6_13_26 (some 64) rfl rfl (by kernel_rfl) hHeld (by rfl) (fun _ _ _ x => x) ?_; try simp only [Act.put, sa, s0, s1]
        refine tn 27 qfd4_6_13_27 (some 65) rfl rfl (by kernel_rfl) hHeld (by rfl) (fun _ _ _ x => x) ?_; try simp only [Act.put, sa, s0, s1]
        refine tn 28 qfd4_6_13_28 (some 66) rfl rfl (by kernel_rfl) hHeld (by rfl) (fun _ _ _ x => x) ?_; try simp only [Act.put, sa, s0, s1]
        refine tn 29 qfd4_6_13_29 (some 67) rfl rfl (by kernel_rfl) hHeld (by rfl) (fun _ _ _ x => x) ?_; try simp only [Act.put, sa, s0, s1]
        refine tn 30 qfd4_6_13_30 (some 68) rfl rfl (by kernel_rfl) hHeld (by rfl) (fun _ _ _ x => x) ?_; try simp only [Act.put, sa, s0, s1]
        refine tn 31 qfd4_6_13_31 (some 69) rfl rfl (by kernel_rfl) hHeld (by rfl) (fun _ _ _ x => x) ?_; try simp only [Act.put, sa, s0, s1]
        refine tn 32 qfd4_6_13_32 (some 70) rfl rfl (by kernel_rfl) hHeld (by rfl) (fun _ _ _ x => x) ?_; try simp only [Act.put, sa, s0, s1]
        refine tk 33 qfd4_6_13_33 (some 71) (v := ?v31) rfl rfl (by kernel_rfl) hHeld (by rfl) (fun _ _ _ x => x) (fun w h => ?y31) ?_; (case y31 => (try dsimp only at h); go_simp; try (with_reducible rfl)); try simp only [Act.put, sa, s0, s1]
        refine tk 34 qfd4_6_13_34 (some 72) (v := ?v32) rfl rfl (by kernel_rfl) hHeld (by rfl) (fun _ _ _ x => x) (fun w h => ?y32) ?_; (case y32 => (try dsimp only at h); go_simp; try (with_reducible rfl)); try simp only [Act.put, sa, s0, s1]
        refine tk 35 qfd4_6_13_35 (some 73) (v := ?v33) rfl rfl (by kernel_rfl) hHeld (by rfl) (fun _ _ _ x => x) (fun w h => ?y33) ?_; (case y33 => (try dsimp only at h); go_simp; try (with_reducible rfl)); try simp only [Act.put, sa, s0, s1]
        refine tk 36 qfd4_6_13_36 (some 74) (v := ?v34) rfl rfl (by kernel_rfl) hHeld (by rfl) (fun _ _ _ x => x) (fun w h => ?y34) ?_; (case y34 => (try dsimp only at h); go_simp; try (with_reducible rfl)); try simp only [Act.put, sa, s0, s1]
        refine tk 37 qfd4_6_13_37 (some 75) (v := ?v35) rfl rfl (by kernel_rfl) hHeld (by rfl) (fun _ _ _ x => x) (fun w h => ?y35) ?_; (case y35 => (try dsimp only at h); go_simp; try (with_reducible rfl)); try simp only [Act.put, sa, s0, s1]
        refine tk 38 qfd4_6_13_38 (some 76) (v := ?v36) rfl rfl (by kernel_rfl) hHeld (by rfl) (fun _ _ _ x => x) (fun w h => ?y36) ?_; (case y36 => (try dsimp only at h); go_simp; try (with_reducible rfl)); try simp only [Act.put, sa, s0, s1]
        refine tk 39 qfd4_6_13_39 (some 77) (v := ?v37) rfl rfl (by kernel_rfl) hHeld (by rfl) (fun _ _ _ x => x) (fun w h => ?y37) ?_; (case y37 => (try dsimp only at h); go_simp; try (with_reducible rfl)); try simp only [Act.put, sa, s0, s1]
        refine tk 40 qfd4_6_13_40 (some 78) (v := ?v38) rfl rfl (by kernel_rfl) hHeld (by rfl) (fun _ _ _ x => x) (fun w h => ?y38) ?_; (case y38 => (try dsimp only at h); go_simp; try (with_reducible rfl)); try simp only [Act.put, sa, s0, s1]
        refine tk 41 qfd4_6_13_41 (some 79) (v := ?v39) rfl rfl (by kernel_rfl) hHeld (by rfl) (fun _ _ _ x => x) (fun w h => ?y39) ?_; (case y39 => (try dsimp only at h); go_simp; try (with_reducible rfl)); try simp only [Act.put, sa, s0, s1]
        refine tk 42 qfd4_6_13_42 (some 80) (v := ?v40) rfl rfl (by kernel_rfl) hHeld (by rfl) (fun _ _ _ x => x) (fun w h => ?y40) ?_; (case y40 => (try dsimp only at h); go_simp; try (with_reducible rfl)); try simp only [Act.put, sa, s0, s1]
        refine tk 43 qfd4_6_13_43 (some 81) (v := ?v41) rfl rfl (by kernel_rfl) hHeld (by rfl) (fun _ _ _ x => x) (fun w h => ?y41) ?_; (case y41 => (try dsimp only at h); go_simp; try (with_reducible rfl)); try simp only [Act.put, sa, s0, s1]
        refine wpAnyH_ready (rs := [44]) (by kernel_rfl) (by simp) ?_
        refine AllReadyH.cons (o := qfd4_6_13_44) rfl (fun K hK => ?_) AllReadyH.nil
        go_simp
        refine Calls.mono (hCX _) ?_
        rintro e v4 ⟨rfl, hx4⟩
        go_wp2_with fail
        refine hK.out _ _ (bthen hHeld hx4) (fun hHeld => ?_)
        clear hK K
        try simp only [Act.put, sa, s0, s1]
        refine tk 45 qfd4_6_13_45 (some 83) (v := ?v42) rfl rfl (by kernel_rfl) hHeld (by rfl) (fun _ _ _ x => x) (fun w h => ?y42) ?_; (case y42 => (try dsimp only at h); go_simp; try (with_reducible rfl)); try simp only [Act.put, sa, s0, s1]
        refine wpAnyH_done (by kernel_rfl) ?_ _
        go_wp2_with fail
        go_roundw
        case rel => exact ⟨1, by omega, by go_num, bthen hbk hHeld⟩
        case measure => simp [intOf]; omega
      · obtain ⟨i, rfl⟩ : ∃ i, k = i + 1 := ⟨k - 1, by omega⟩
        have hil : i < GL.length := by omega
        obtain ⟨b1', o1', he1, _, cs', hcl', hcell', rfl, g0', g1', _⟩ := hLk i hil
        simp only [Option.some.injEq, Addr.mk.injEq, and_true] at he1
        obtain ⟨rfl, rfl⟩ := he1
        have j0 := hcell' 0 _ rfl
        have j1 := hcell' 1 _ rfl
        rw [Nat.add_zero] at j0
        have k4 : ∀ W, Below wr.heap.size wr W → W.cell? ⟨b1, o1 + i * 2, none⟩ = some (.int .i64 GL[i].fR) := fun W h => (h.cell (p := ⟨b1, o1 + i * 2, none⟩) hB).trans j0
        have k5 : ∀ W, Below wr.heap.size wr W → W.cell? ⟨b1, o1 + i * 2 + 1, none⟩ = some (.int .i64 GL[i].fN) := fun W h => (h.cell (p := ⟨b1, o1 + i * 2 + 1, none⟩) hB).trans j1
        have hCY := fun W => implDotLess_any [.int .i64 GL[i].fR, .int .i64 GL[i].fN] [.int .i64 GL[i + 1].fR, .int .i64 GL[i + 1].fN] GL[i] GL[i + 1] W ⟨rfl, g0', g1', trivial⟩ ⟨rfl, g0, g1, trivial⟩
        simp only [grp_up HGL.out hkl] at hCY
        have hwi : IntKind.i64.wrap (i : Int) = (i : Int) := by rw [IntKind.wrap_i64]; omega
        have hi1 : (0 : Int) ≤ (i : Int) := by omega
        have hi2 : (i : Int) < (K : Int) := by omega
        have hi3 : (0 : Int) ≤ (i : Int) + 1 := by omega
        have hi4 : (i : Int) + 1 < (K : Int) := by omega
        clear j0 j1 hcell' hcl' h0
        generalize GL[i + 1] = x at *
        generalize GL[i] = y at *
        go_wp2_with fail
        refine wp_region_held_drew (S := fun W => Below wr.heap.size wr W) (by kernel_rfl) (Below.drew (Below.refl _ _)) (fun hHeld => ?_)
        refine tk 0 qfd4_6_13_0 (some 38) (v := ?v43) rfl rfl (by kernel_rfl) hHeld (by rfl) (fun _ _ _ x => x) (fun w h => ?y43) ?_; (case y43 => (try dsimp only at h); go_simp; try (with_reducible rfl)); try simp only [Act.put, sa, s0, s1]
        refine tk 1 qfd4_6_13_1 (some 39) (v := ?v44) rfl rfl (by kernel_rfl) hHeld (by rfl) (fun _ _ _ x => x) (fun w h => ?y44) ?_; (case y44 => (try dsimp only at h); go_simp; try (with_reducible rfl)); try simp only [Act.put, sa, s0, s1]
        refine tk 2 qfd4_6_13_2 (some 40) (v := ?v45) rfl rfl (by kernel_rfl) hHeld (by rfl) (fun _ _ _ x => x) (fun w h => ?y45) ?_; (case y45 => (try dsimp only at h); go_simp; try (with_reducible rfl)); try simp only [Act.put, sa, s0, s1]
        refine tk 3 qfd4_6_13_3 (some 41) (v := ?v46) rfl rfl (by kernel_rfl) hHeld (by rfl) (fun _ _ _ x => x) (fun w h => ?y46) ?_; (case y46 => (try dsimp only at h); go_simp; try (with_reducible rfl)); try simp only [Act.put, sa, s0, s1]
        refine tk 4 qfd4_6_13_4 (some 42) (v := ?v47) rfl rfl (by kernel_rfl) hHeld (by rfl) (fun _ _ _ x => x) (fun w h => ?y47) ?_; (case y47 => (try dsimp only at h); go_simp; try (with_reducible rfl)); try simp only [Act.put, sa, s0, s1]
        refine tk 6 qfd4_6_13_6 (some 44) (v := ?v48) rfl rfl (by kernel_rfl) hHeld (by rfl) (fun _ _ _ x => x) (fun w h => ?y48) ?_; (case y48 => (try dsimp only at h); go_simp; try (with_reducible rfl)); try simp only [Act.put, sa, s0, s1]
        refine wpAnyH_ready (rs := [5]) (by kernel_rfl) (by simp) ?_
        refine AllReadyH.cons (o := qfd4_6_13_5) rfl (fun K hK => ?_) AllReadyH.nil
        go_simp
        refine Calls.mono (hCG _ hHeld) ?_
        rintro e v1 ⟨vx, Fx, rfl, hox, _, _, hx1⟩
        obtain ⟨ax, cx, rfl, hLx⟩ := rdDs_own hox
        rw [HK.out]
        go_wp2_with fail
        refine hK.out _ _ (bthen hHeld hx1) (fun hHeld => ?_)
        clear hK K
        try simp only [Act.put, sa, s0, s1]
        refine wpAnyH_ready (rs := [7]) (by kernel_rfl) (by simp) ?_
        refine AllReadyH.cons (o := qfd4_6_13_7) rfl (fun K hK => ?_) AllReadyH.nil
        go_simp
        refine Calls.mono (hCS _ hHeld ax cx hLx) ?_
        rintro e v2 ⟨rfl, hx2⟩
        go_wp2_with fail
        refine hK.out _ _ (bthen hHeld hx2) (fun hHeld => ?_)
        clear hK K
        try simp only [Act.put, sa, s0, s1]
        refine tk 8 qfd4_6_13_8 (some 46) (v := ?v49) rfl rfl (by kernel_rfl) hHeld (by rfl) (fun _ _ _ x => x) (fun w h => ?y49) ?_; (case y49 => (try dsimp only at h); go_simp; try (with_reducible rfl)); try simp only [Act.put, sa, s0, s1]
        refine tk 9 qfd4_6_13_9 (some 47) (v := ?v50) rfl rfl (by kernel_rfl) hHeld (by rfl) (fun _ _ _ x => x) (fun w h => ?y50) ?_; (case y50 => (try dsimp only at h); go_simp; try (with_reducible rfl)); try simp only [Act.put, sa, s0, s1]
        refine tk 10 qfd4_6_13_10 (some 48) (v := ?v51) rfl rfl (by kernel_rfl) hHeld (by rfl) (fun _ _ _ x => x) (fun w h => ?y51) ?_; (case y51 => (try dsimp only at h); go_simp; try (with_reducible rfl)); try simp only [Act.put, sa, s0, s1]
        refine tk 11 qfd4_6_13_11 (some 49) (v := ?v52) rfl rfl (by kernel_rfl) hHeld (by rfl) (fun _ _ _ x => x) (fun w h => ?y52) ?_; (case y52 => (try dsimp only at h); go_simp; try (with_reducible rfl)); try simp only [Act.put, sa, s0, s1]
        refine tk 12 qfd4_6_13_12 (some 50) (v := ?v53) rfl rfl (by kernel_rfl) hHeld (by rfl) (fun _ _ _ x => x) (fun w h => ?y53) ?_; (case y53 => (try dsimp only at h); go_simp; try (with_reducible rfl)); try simp only [Act.put, sa, s0, s1]
        refine tk 13 qfd4_6_13_13 (some 51) (v := ?v54) rfl rfl (by kernel_rfl) hHeld (by rfl) (fun _ _ _ x => x) (fun w h => ?y54) ?_; (case y54 => (try dsimp only at h); go_simp; try (with_reducible rfl)); try simp only [Act.put, sa, s0, s1]
        refine tk 14 qfd4_6_13_14 (some 52) (v := ?v55) rfl rfl (by kernel_rfl) hHeld (by rfl) (fun _ _ _ x => x) (fun w h => ?y55) ?_; (case y55 => (try dsimp only at h); go_simp; try (with_reducible rfl)); try simp only [Act.put, sa, s0, s1]
        refine wpAnyH_ready (rs := [15]) (by kernel_rfl) (by simp) ?_
        refine AllReadyH.cons (o := qfd4_6_13_15) rfl (fun K hK => ?_) AllReadyH.nil
        go_simp
        refine Calls.mono (hCP _ hHeld) ?_
        rintro e v3 ⟨⟨yy, HYY, rfl⟩, hx3⟩
        have hyn := HPP.out yy HYY.out
        have hyd : decide (yy < 0) = false := decide_eq_false (by omega)
        go_wp2_with fail
        refine hK.out _ _ (bthen hHeld hx3) (fun hHeld => ?_)
        clear hK K
        try simp only [Act.put, sa, s0, s1]
        refine tk 16 qfd4_6_13_16 (some 54) (v := ?v56) rfl rfl (by kernel_rfl) hHeld (by rfl) (fun _ _ _ x => x) (fun w h => ?y56) ?_; (case y56 => (try dsimp only at h); go_simp; try (with_reducible rfl)); try simp only [Act.put, sa, s0, s1]
        refine tk 17 qfd4_6_13_17 (some 55) (v := ?v57) rfl rfl (by kernel_rfl) hHeld (by rfl) (fun _ _ _ x => x) (fun w h => ?y57) ?_; (case y57 => (try dsimp only at h); go_simp; try (with_reducible rfl)); try simp only [Act.put, sa, s0, s1]
        refine tk 18 qfd4_6_13_18 (some 56) (v := ?v58) rfl rfl (by kernel_rfl) hHeld (by rfl) (fun _ _ _ x => x) (fun w h => ?y58) ?_; (case y58 => (try dsimp only at h); go_simp; try (with_reducible rfl)); try simp only [Act.put, sa, s0, s1]
        refine tk 19 qfd4_6_13_19 (some 57) (v := ?v59) rfl rfl (by kernel_rfl) hHeld (by rfl) (fun _ _ _ x => x) (fun w h => ?y59) ?_; (case y59 => (try dsimp only at h); go_simp; try (with_reducible rfl)); try simp only [Act.put, sa, s0, s1]
        refine tk 20 qfd4_6_13_20 (some 58) (v := ?v60) rfl rfl (by kernel_rfl) hHeld (by rfl) (fun _ _ _ x => x) (fun w h => ?y60) ?_; (case y60 => (try dsimp only at h); go_simp; try (with_reducible rfl)); try simp only [Act.put, sa, s0, s1]
        refine tk 21 qfd4_6_13_21 (some 59) (v := ?v61) rfl rfl (by kernel_rfl) hHeld (by rfl) (fun _ _ _ x => x) (fun w h => ?y61) ?_; (case y61 => (try dsimp only at h); go_simp; try (with_reducible rfl)); try simp only [Act.put, sa, s0, s1]
        refine tk 22 qfd4_6_13_22 (some 60) (v := ?v62) rfl rfl (by kernel_rfl) hHeld (by rfl) (fun _ _ _ x => x) (fun w h => ?y62) ?_; (case y62 => (try dsimp only at h); go_simp; try (with_reducible rfl)); try simp only [Act.put, sa, s0, s1]
        refine tk 23 qfd4_6_13_23 (some 61) (v := ?v63) rfl rfl (by kernel_rfl) hHeld (by rfl) (fun _ _ _ x => x) (fun w h => ?y63) ?_; (case y63 => (try dsimp only at h); go_simp; try (with_reducible rfl)); try simp only [Act.put, sa, s0, s1]
        refine tk 24 qfd4_6_13_24 (some 62) (v := ?v64) rfl rfl (by kernel_rfl) hHeld (by rfl) (fun _ _ _ x => x) (fun w h => ?y64) ?_; (case y64 => (try dsimp only at h); go_simp; try (with_reducible rfl)); try simp only [Act.put, sa, s0, s1]
        refine tk 25 qfd4_6_13_25 (some 63) (v := ?v65) rfl rfl (by kernel_rfl) hHeld (by rfl) (fun _ _ _ x => x) (fun w h => ?y65) ?_; (case y65 => (try dsimp only at h); go_simp; try (with_reducible rfl)); try simp only [Act.put, sa, s0, s1]
        refine tk 26 qfd4_6_13_26 (some 64) (v := ?v66) rfl rfl (by kernel_rfl) hHeld (by rfl) (fun _ _ _ x => x) (fun w h => ?y66) ?_; (case y66 => (try dsimp only at h); go_simp; try (with_reducible rfl)); try simp only [Act.put, sa, s0, s1]
        refine tk 27 qfd4_6_13_27 (some 65) (v := ?v67) rfl rfl (by kernel_rfl) hHeld (by rfl) (fun _ _ _ x => x) (fun w h => ?y67) ?_; (case y67 => (try dsimp only at h); go_simp; try (with_reducible rfl)); try simp only [Act.put, sa, s0, s1]
        refine tk 28 qfd4_6_13_28 (some 66) (v := ?v68) rfl rfl (by kernel_rfl) hHeld (by rfl) (fun _ _ _ x => x) (fun w h => ?y68) ?_; (case y68 => (try dsimp only at h); go_simp; try (with_reducible rfl)); try simp only [Act.put, sa, s0, s1]
        refine tk 29 qfd4_6_13_29 (some 67) (v := ?v69) rfl rfl (by kernel_rfl) hHeld (by rfl) (fun _ _ _ x => x) (fun w h => ?y69) ?_; (case y69 => (try dsimp only at h); go_simp; try (with_reducible rfl)); try simp only [Act.put, sa, s0, s1]
        refine tk 30 qfd4_6_13_30 (some 68) (v := ?v70) rfl rfl (by kernel_rfl) hHeld (by rfl) (fun _ _ _ x => x) (fun w h => ?y70) ?_; (case y70 => (try dsimp only at h); go_simp; try (with_reducible rfl)); try simp only [Act.put, sa, s0, s1]
        refine wpAnyH_ready (rs := [31]) (by kernel_rfl) (by simp) ?_
        refine AllReadyH.cons (o := qfd4_6_13_31) rfl (fun K hK => ?_) AllReadyH.nil
        go_simp
        refine Calls.mono (hCY _) ?_
        rintro e v4 ⟨rfl, hx4⟩
        go_wp2_with fail
        refine hK.out _ _ (bthen hHeld hx4) (fun hHeld => ?_)
        clear hK K
        try simp only [Act.put, sa, s0, s1]
        refine tk 32 qfd4_6_13_32 (some 70) (v := ?v71) rfl rfl (by kernel_rfl) hHeld (by rfl) (fun _ _ _ x => x) (fun w h => ?y71) ?_; (case y71 => (try dsimp only at h); go_simp; try (with_reducible rfl)); try simp only [Act.put, sa, s0, s1]
        refine tk 33 qfd4_6_13_33 (some 71) (v := ?v72) rfl rfl (by kernel_rfl) hHeld (by rfl) (fun _ _ _ x => x) (fun w h => ?y72) ?_; (case y72 => (try dsimp only at h); go_simp; try (with_reducible rfl)); try simp only [Act.put, sa, s0, s1]
        refine tk 34 qfd4_6_13_34 (some 72) (v := ?v73) rfl rfl (by kernel_rfl) hHeld (by rfl) (fun _ _ _ x => x) (fun w h => ?y73) ?_; (case y73 => (try dsimp only at h); go_simp; try (with_reducible rfl)); try simp only [Act.put, sa, s0, s1]
        refine tk 35 qfd4_6_13_35 (some 73) (v := ?v74) rfl rfl (by kernel_rfl) hHeld (by rfl) (fun _ _ _ x => x) (fun w h => ?y74) ?_; (case y74 => (try dsimp only at h); go_simp; try (with_reducible rfl)); try simp only [Act.put, sa, s0, s1]
        refine tk 36 qfd4_6_13_36 (some 74) (v := ?v75) rfl rfl (by kernel_rfl) hHeld (by rfl) (fun _ _ _ x => x) (fun w h => ?y75) ?_; (case y75 => (try dsimp only at h); go_simp; try (with_reducible rfl)); try simp only [Act.put, sa, s0, s1]
        refine tk 37 qfd4_6_13_37 (some 75) (v := ?v76) rfl rfl (by kernel_rfl) hHeld (by rfl) (fun _ _ _ x => x) (fun w h => ?y76) ?_; (case y76 => (try dsimp only at h); go_simp; try (with_reducible rfl)); try simp only [Act.put, sa, s0, s1]
        refine tk 38 qfd4_6_13_38 (some 76) (v := ?v77) rfl rfl (by kernel_rfl) hHeld (by rfl) (fun _ _ _ x => x) (fun w h => ?y77) ?_; (case y77 => (try dsimp only at h); go_simp; try (with_reducible rfl)); try simp only [Act.put, sa, s0, s1]
        refine tk 39 qfd4_6_13_39 (some 77) (v := ?v78) rfl rfl (by kernel_rfl) hHeld (by rfl) (fun _ _ _ x => x) (fun w h => ?y78) ?_; (case y78 => (try dsimp only at h); go_simp; try (with_reducible rfl)); try simp only [Act.put, sa, s0, s1]
        refine tk 40 qfd4_6_13_40 (some 78) (v := ?v79) rfl rfl (by kernel_rfl) hHeld (by rfl) (fun _ _ _ x => x) (fun w h => ?y79) ?_; (case y79 => (try dsimp only at h); go_simp; try (with_reducible rfl)); try simp only [Act.put, sa, s0, s1]
        refine tk 41 qfd4_6_13_41 (some 79) (v := ?v80) rfl rfl (by kernel_rfl) hHeld (by rfl) (fun _ _ _ x => x) (fun w h => ?y80) ?_; (case y80 => (try dsimp only at h); go_simp; try (with_reducible rfl)); try simp only [Act.put, sa, s0, s1]
        refine tk 42 qfd4_6_13_42 (some 80) (v := ?v81) rfl rfl (by kernel_rfl) hHeld (by rfl) (fun _ _ _ x => x) (fun w h => ?y81) ?_; (case y81 => (try dsimp only at h); go_simp; try (with_reducible rfl)); try simp only [Act.put, sa, s0, s1]
        refine tk 43 qfd4_6_13_43 (some 81) (v := ?v82) rfl rfl (by kernel_rfl) hHeld (by rfl) (fun _ _ _ x => x) (fun w h => ?y82) ?_; (case y82 => (try dsimp only at h); go_simp; try (with_reducible rfl)); try simp only [Act.put, sa, s0, s1]
        refine wpAnyH_ready (rs := [44]) (by kernel_rfl) (by simp) ?_
        refine AllReadyH.cons (o := qfd4_6_13_44) rfl (fun K hK => ?_) AllReadyH.nil
        go_simp
        refine Calls.mono (hCX _) ?_
        rintro e v5 ⟨rfl, hx5⟩
        go_wp2_with fail
        refine hK.out _ _ (bthen hHeld hx5) (fun hHeld => ?_)
        clear hK K
        try simp only [Act.put, sa, s0, s1]
        refine tk 45 qfd4_6_13_45 (some 83) (v := ?v83) rfl rfl (by kernel_rfl) hHeld (by rfl) (fun _ _ _ x => x) (fun w h => ?y83) ?_; (case y83 => (try dsimp only at h); go_simp; try (with_reducible rfl)); try simp only [Act.put, sa, s0, s1]
        refine wpAnyH_done (by kernel_rfl) ?_ _
        go_wp2_with fail
        go_roundw
        case rel => exact ⟨i + 1 + 1, by omega, by go_num, bthen hbk hHeld⟩
        case measure => simp [intOf]; omega
    · have hke : k = K := by omega
      have hzk : b0 + 1 < wr.heap.size := Nat.lt_of_lt_of_le hz2 hb2k.size
      have y0 := HG0.out _ hb2k
      have y1 := HD0.out _ hb2k
      have y2 := HD1.out _ hb2k
      have hPC := place_any a6 K c6 GL d wr HK.out (by omega) (HW6.out _ hb6k)
      rw [← HDR.out.1, ← HDR.out.2] at hPC
      have hkn : ¬ (k : Int) < (K : Int) := by omega
      clear hke hlt
      go_wp2_with fail
      refine hPC.mono ?_
      rintro e w8 ⟨⟨yy, HYY, rfl⟩, hx8⟩
      have hb28 := bthen hb2k hx8
      have hyp : 0 ≤ yy := HYY.out.pos.2 (grp_self HWL.out HGL.out HIN.out)
      have hyd : decide (0 ≤ yy) = true := decide_eq_true hyp
      have hz8 : b0 + 1 < w8.heap.size := Nat.lt_of_lt_of_le hz2 hb28.size
      clear y0 y1 y2 hPC
      have y0 := HG0.out _ hb28
      have hCO := implGraphOk_any [.slice ag N cg] m w8 (HRG.out _ hb28) (by have := HWM.out; omega) (wGraph_deps HWM.out)
      simp only [grp_right HWL.out HIN.out] at hCO
      go_wp2_with fail
      refine hCO.mono ?_
      rintro e w9 ⟨rfl, hx9⟩
      go_wp2_with fail
      go_ret
      exact ⟨rfl, bthen hb2 (bthen hb28 hx9)⟩

/-- A slice of bytes that is read. -/
def rdB (B : Nat) (w : World) (v : Value) (zs : List Int) : Prop := ∃ a c, v = .slice a zs.length c ∧ LeafB B w a c zs

theorem law_FnGroups (cs0 : Value) (m0 : List Int) (w : World) (hr0 : rdB w.heap.size w cs0 m0) (hT : TzAt w) :
    Calls Tryd.prog 6 #[cs0] w fun e w' => e = .returned (.bool true) ∧ Below w.heap.size w w' := by
  obtain ⟨a, c, rfl, h⟩ := hr0
  exact law_FnGroups_r a m0.length c m0 w rfl h.2.2.1 hT

end Go.Proofs.YtmigamgcmhdncaaDoor
