/-
  Part 6 of the texts that the proof leans on.
-/
import Derived.Test.YtnohnkcijomdjaaGreatDoorCur2
import Derived.Test.YtnohnkcijomdjaaGreatDoorCur4
set_option linter.unusedVariables false
set_option linter.unusedSimpArgs false
set_option maxRecDepth 10000

namespace Go.Proofs.YtnohnkcijomdjaaGreatDoor
open Go.RowKit Go.Maps
abbrev q3cb_48_7_0 : Oper := ⟨some 40, .fieldAddr 49 (.tmp 5) 0, 0, "l06_manifest.go:51", #[], none⟩
abbrev q3cb_48_7_1 : Oper := ⟨some 41, .load 3 (.tmp 40), 3, "l06_manifest.go:51", #[⟨0, .data⟩], none⟩
abbrev q3cb_48_7_2 : Oper := ⟨some 42, .move (.tmp 3), 3, "l06_manifest.go:51", #[], none⟩
abbrev q3cb_48_7_3 : Oper := ⟨some 43, .binOp .leq 3 (.tmp 41) (.tmp 42) 3, 4, "l06_manifest.go:51", #[⟨1, .data⟩, ⟨2, .data⟩], none⟩
abbrev q3cb_48_7_4 : Oper := ⟨some 44, .move (.tmp 43), 4, "l06_manifest.go:51", #[⟨3, .data⟩], none⟩
abbrev q3cb_48_7_5 : Oper := ⟨some 45, .fieldAddr 49 (.tmp 5) 0, 0, "l06_manifest.go:51", #[⟨4, .guard⟩], some (4, false)⟩
abbrev q3cb_48_7_6 : Oper := ⟨some 46, .load 3 (.tmp 45), 3, "l06_manifest.go:51", #[⟨5, .data⟩, ⟨4, .guard⟩], some (4, false)⟩
abbrev q3cb_48_7_7 : Oper := ⟨some 47, .fieldAddr 24 (.tmp 1) 0, 0, "l06_manifest.go:51", #[⟨4, .guard⟩], some (4, false)⟩
abbrev q3cb_48_7_8 : Oper := ⟨some 48, .load 3 (.tmp 47), 3, "l06_manifest.go:51", #[⟨7, .data⟩, ⟨4, .guard⟩], some (4, false)⟩
abbrev q3cb_48_7_9 : Oper := ⟨some 49, .binOp .geq 3 (.tmp 46) (.tmp 48) 3, 4, "l06_manifest.go:51", #[⟨6, .data⟩, ⟨8, .data⟩, ⟨4, .guard⟩], some (4, false)⟩
abbrev q3cb_48_7_10 : Oper := ⟨some 50, .pick (.tmp 44) (.const (.bool true)) (.tmp 49), 4, "l06_manifest.go:51", #[⟨4, .data⟩, ⟨9, .data⟩], none⟩
abbrev q3cb_48_7_11 : Oper := ⟨some 51, .move (.tmp 50), 4, "l06_manifest.go:51", #[⟨10, .data⟩, ⟨4, .chain⟩], none⟩
abbrev q3cb_48_7_12 : Oper := ⟨some 52, .load 49 (.tmp 5), 49, "l06_manifest.go:51", #[⟨11, .guard⟩], some (11, false)⟩
abbrev q3cb_48_7_13 : Oper := ⟨some 53, .call { callee := .value (.func 71), args := #[.tmp 52], argTypes := #[49] }, 4, "l06_manifest.go:51", #[⟨12, .data⟩, ⟨11, .chain⟩, ⟨11, .guard⟩], some (11, false)⟩
abbrev q3cb_48_7_14 : Oper := ⟨some 54, .unOp .not 4 (.tmp 53), 4, "l06_manifest.go:51", #[⟨13, .data⟩, ⟨11, .guard⟩], some (11, false)⟩
abbrev q3cb_48_7_15 : Oper := ⟨some 55, .pick (.tmp 51) (.const (.bool true)) (.tmp 54), 4, "l06_manifest.go:51", #[⟨11, .data⟩, ⟨14, .data⟩], none⟩
abbrev q3cb_48_7_16 : Oper := ⟨some 56, .move (.tmp 55), 4, "l06_manifest.go:51", #[⟨15, .data⟩, ⟨13, .chain⟩], none⟩
abbrev q3cb_48_7_17 : Oper := ⟨some 57, .load 49 (.tmp 5), 49, "l06_manifest.go:51", #[⟨16, .guard⟩], some (16, false)⟩
abbrev q3cb_48_7_18 : Oper := ⟨some 58, .fieldAddr 24 (.tmp 1) 2, 0, "l06_manifest.go:51", #[⟨16, .guard⟩], some (16, false)⟩
abbrev q3cb_48_7_19 : Oper := ⟨some 59, .load 22 (.tmp 58), 22, "l06_manifest.go:51", #[⟨18, .data⟩, ⟨16, .guard⟩], some (16, false)⟩
abbrev q3cb_48_7_20 : Oper := ⟨some 60, .move (.tmp 4), 3, "l06_manifest.go:51", #[⟨16, .guard⟩], some (16, false)⟩
abbrev q3cb_48_7_21 : Oper := ⟨some 61, .slice 22 (.tmp 59) none (some (.tmp 60)) none, 22, "l06_manifest.go:51", #[⟨19, .data⟩, ⟨20, .data⟩, ⟨16, .guard⟩], some (16, false)⟩
abbrev q3cb_48_7_22 : Oper := ⟨some 62, .call { callee := .value (.func 72), args := #[.tmp 57, .tmp 61], argTypes := #[49, 22] }, 4, "l06_manifest.go:51", #[⟨17, .data⟩, ⟨21, .data⟩, ⟨16, .chain⟩, ⟨16, .guard⟩], some (16, false)⟩
abbrev q3cb_48_7_23 : Oper := ⟨some 63, .unOp .not 4 (.tmp 62), 4, "l06_manifest.go:51", #[⟨22, .data⟩, ⟨16, .guard⟩], some (16, false)⟩
abbrev q3cb_48_7_24 : Oper := ⟨some 64, .pick (.tmp 56) (.const (.bool true)) (.tmp 63), 4, "l06_manifest.go:51", #[⟨16, .data⟩, ⟨23, .data⟩], none⟩

theorem LeafL.front {α : Type} {size : Nat} {R : Rep α} {B : Nat} {w : World} {a : Option Addr} {c : Nat} {l : List α} {k : Nat} (h : LeafL size R B w a c l) (hk : k ≤ l.length) : LeafL size R B w a c (l.take k) := by
  refine ⟨by have := h.1; simp; omega, h.2.1, fun j hj => ?_⟩
  have hj2 : j < l.length := by simp at hj; omega
  obtain ⟨b, off, e, hB, cs, h1, h2, h3⟩ := h.2.2 j hj2
  exact ⟨b, off, e, hB, cs, h1, h2, by simpa using h3⟩

set_option maxHeartbeats 4000000 in
theorem implManOk_c (cs : List Value) (m : MManifest) (w : World) (hr : rManifest w.heap.size w cs m) (hw : wManifest m ≤ 1048576) :
    Calls Tryz.prog 48 #[.agg cs.toArray] w fun e w' => e = .returned (.bool (manOkP m)) ∧ Below w.heap.size w w' := by
  obtain ⟨a0, c0, rfl, hwf0, hwf1, hL, _⟩ := hr
  have HL := Hid.mk hL
  obtain ⟨l, hl⟩ : ∃ l, l = m.fTables := ⟨_, rfl⟩
  obtain ⟨n, hx⟩ : ∃ n, n = l.length := ⟨_, rfl⟩
  have HV : Hid (manOkP m = (decide (1 ≤ m.fNext ∧ m.fNext ≤ 100000) && decide (0 ≤ m.fLog ∧ m.fLog ≤ m.fNext - 1) && decide (n ≤ 20) && tabsFrom m.fNext [] l)) := by show _ = _; rw [hx, hl]; rfl
  have hn : n ≤ 1048576 := by have h : m.fTables.length + sumW wMeta m.fTables ≤ 1048576 := hw; rw [hx, hl]; omega
  rw [← hl] at HL ⊢
  rw [← hx]
  have HX := Hid.mk hx.symm
  generalize m.fNext = nx at *
  generalize m.fLog = lg at *
  clear hL hw hl hx hwf0 hwf1
  go_enter Tryz.func48, Tryz.ntmps48
  obtain ⟨wq, hwq⟩ : ∃ wq, wq = w.alloc (.cells #[.int .i64 nx, .int .i64 lg, .slice a0 n c0] 24) := ⟨_, rfl⟩
  have hbq : Below w.heap.size w wq := by rw [hwq]; exact (Below.refl _ _).alloc (Nat.le_refl _) _
  have hbx : Bx wq w.heap.size [.int .i64 nx, .int .i64 lg, .slice a0 n c0] := by rw [hwq]; exact Bx.new _ _ _
  by_cases h1 : 1 ≤ nx
  rotate_left
  · have HD : Hid (manOkP m = false) := by show _ = _; rw [HV.out, decide_eq_false (fun h => h1 h.1)]; rfl
    go_wp2_with fail
    go_ret
    exact ⟨by rw [HD.out]; rfl, (Below.refl _ _).alloc (Nat.le_refl _) _⟩
  by_cases h2 : nx ≤ 100000
  rotate_left
  · have HD : Hid (manOkP m = false) := by show _ = _; rw [HV.out, decide_eq_false (fun h => h2 h.2)]; rfl
    go_wp2_with fail
    go_ret
    exact ⟨by rw [HD.out]; rfl, (Below.refl _ _).alloc (Nat.le_refl _) _⟩
  by_cases h3 : 0 ≤ lg
  rotate_left
  · have HD : Hid (manOkP m = false) := by show _ = _; rw [HV.out, decide_eq_false (fun h => h3 h.1 : ¬ (0 ≤ lg ∧ lg ≤ nx - 1))]; simp
    go_wp2_with fail
    go_ret
    exact ⟨by rw [HD.out]; rfl, (Below.refl _ _).alloc (Nat.le_refl _) _⟩
  by_cases h4 : lg < nx
  rotate_left
  · have HD : Hid (manOkP m = false) := by show _ = _; rw [HV.out, decide_eq_false (fun h => by omega : ¬ (0 ≤ lg ∧ lg ≤ nx - 1))]; simp
    go_wp2_with fail
    go_ret
    exact ⟨by rw [HD.out]; rfl, (Below.refl _ _).alloc (Nat.le_refl _) _⟩
  by_cases h5 : n ≤ 20
  rotate_left
  · have HD : Hid (manOkP m = false) := by show _ = _; rw [HV.out, decide_eq_false h5]; simp
    have h6 : (20 : Int) < (n : Int) := by omega
    go_wp2_with fail
    go_ret
    exact ⟨by rw [HD.out]; rfl, (Below.refl _ _).alloc (Nat.le_refl _) _⟩
  have h6 : ¬ (20 : Int) < (n : Int) := by omega
  have HV2 : Hid (manOkP m = tabsFrom nx [] l) := by show _ = _; rw [HV.out, decide_eq_true (show 1 ≤ nx ∧ nx ≤ 100000 from ⟨h1, h2⟩), decide_eq_true (show 0 ≤ lg ∧ lg ≤ nx - 1 from ⟨h3, by omega⟩), decide_eq_true h5]; rfl
  clear HV
  go_wp2_with fail
  rw [← hwq]
  clear hwq h6
  go_loopw [3, 35] (fun lv i wr => ∃ k : Nat, k ≤ n ∧ i = .int .i64 k ∧ lv = .int .i64 (lastNo (l.take k)) ∧ 0 ≤ lastNo (l.take k) ∧ Hid (∀ u, u ∈ l.take k → kLe u.fLo u.fHi = true) ∧ Hid (tabsFrom nx [] l = tabsFrom nx (l.take k) (l.drop k)) ∧ Below wq.heap.size wq wr) (fun _ i _ => n - (intOf i).toNat)
  case atStart => exact ⟨0, Nat.zero_le _, rfl, rfl, Int.le_refl _, fun u hu => by simp at hu, rfl, Below.refl _ _⟩
  case round =>
    obtain ⟨k, hk, rfl, rfl, hl0, HU, HI, hbk⟩ := hrel
    have hbw := bthen hbq hbk
    have hbz := hbw.size
    by_cases hlt : k < n
    · have hkl : k < l.length := by rw [HX.out]; exact hlt
      obtain ⟨b1, o1, rfl, hB, cs, hcl, hcell, rfl, g0, g1, g2, g3, _⟩ := (HL.out.2.2.below rMeta_good hbw) k hkl
      have hB' : b1 < wr.heap.size := by omega
      have k0 := hcell 0 _ rfl
      have k1 := hcell 1 _ rfl
      have k2 := hcell 2 _ rfl
      have k3 := hcell 3 _ rfl
      rw [Nat.add_zero] at k0
      have HTA := Hid.mk (tabAt_impl (next := nx) (t := l[k]) hl0 HU.out)
      have HG : Hid (tabAt nx l k l[k] = true → tabsFrom nx [] l = tabsFrom nx (l.take (k + 1)) (l.drop (k + 1))) := fun h => by rw [HI.out]; exact tabs_good hkl h
      have HBad : Hid (tabAt nx l k l[k] = false → manOkP m = false) := fun h => by rw [HV2.out, HI.out]; exact tabs_bad hkl h
      have HN := Hid.mk (lastNo_take hkl)
      have HU2 : Hid (kLe l[k].fLo l[k].fHi = true → ∀ u, u ∈ l.take (k + 1) → kLe u.fLo u.fHi = true) := fun h u hu => by
        rw [List.take_succ_eq_append_getElem hkl, List.mem_append] at hu
        rcases hu with hu | hu
        · exact HU.out u hu
        · rw [List.mem_singleton] at hu; rw [hu]; exact h
      have HLF : Hid (∀ W, Below wr.heap.size wr W → LeafL 4 rMeta W.heap.size W (some ⟨b1, o1, none⟩) c0 (l.take k)) := fun W hb => by
        have h := (HL.out.below rMeta_good (bthen hbw hb)).mono rMeta_good (bthen hbw hb).size
        exact LeafL.front h (by omega)
      have hlk : (l.take k).length = k := by rw [List.length_take]; omega
      have HLK := Hid.mk hlk
      clear hcell hcl hlk HI
      generalize lastNo (l.take k) = ln at *
      generalize tabAt nx l k l[k] = ta at *
      obtain ⟨x, hxk⟩ : ∃ x, x = l[k] := ⟨_, rfl⟩
      rw [← hxk] at k0 k1 k2 k3 g0 g1 g2 g3 HTA HN HU2
      clear hxk
      have hbxr := hbx.under hbk
      have hlr := hbxr.1
      obtain ⟨wp, hwp⟩ : ∃ wp, wp = wr.alloc (.cells #[.int .i64 x.fNo, .int .i64 x.fLevel, .string x.fLo, .string x.fHi] 49) := ⟨_, rfl⟩
      have hbp : Below wr.heap.size wr wp := by rw [hwp]; exact (Below.refl _ _).alloc (Nat.le_refl _) _
      have hbxp : Bx wp wr.heap.size [.int .i64 x.fNo, .int .i64 x.fLevel, .string x.fLo, .string x.fHi] := by rw [hwp]; exact Bx.new _ _ _
      have hbkp := bthen hbk hbp
      have p0 : ∀ W, Below wp.heap.size wp W → W.cell? ⟨wr.heap.size, 0, none⟩ = some (.int .i64 x.fNo) := fun W hb => (hbxp.under hb).2 0 _ rfl
      have p1 : ∀ W, Below wp.heap.size wp W → W.cell? ⟨wr.heap.size, 1, none⟩ = some (.int .i64 x.fLevel) := fun W hb => (hbxp.under hb).2 1 _ rfl
      have p2 : ∀ W, Below wp.heap.size wp W → W.cell? ⟨wr.heap.size, 2, none⟩ = some (.string x.fLo) := fun W hb => (hbxp.under hb).2 2 _ rfl
      have p3 : ∀ W, Below wp.heap.size wp W → W.cell? ⟨wr.heap.size, 3, none⟩ = some (.string x.fHi) := fun W hb => (hbxp.under hb).2 3 _ rfl
      have q0 : ∀ W, Below wp.heap.size wp W → W.cell? ⟨w.heap.size, 0, none⟩ = some (.int .i64 nx) := fun W hb => ((hbxr.under hbp).under hb).2 0 _ rfl
      have q2 : ∀ W, Below wp.heap.size wp W → W.cell? ⟨w.heap.size, 2, none⟩ = some (.slice (some ⟨b1, o1, none⟩) n c0) := fun W hb => ((hbxr.under hbp).under hb).2 2 _ rfl
      have hCm := fun W => metaOk_any x W g2 g3
      have hCl := fun W (hb : Below wp.heap.size wp W) => liesApart_any x (some ⟨b1, o1, none⟩) k c0 (l.take k) W HLK.out (by omega) (HLF.out W (bthen hbp hb))
      have hkc : (k : Int) ≤ (c0 : Int) := by have h := HL.out.1; rw [HX.out] at h; omega
      have hk0 : (0 : Int) ≤ (k : Int) := by omega
      have hkn : (k : Int) ≤ (n : Int) := by omega
      generalize apartI x (l.take k) = ap at *
      have HRL : Hid (spanP x = true → kLe x.fLo x.fHi = true) := fun h => (spanP_le h).1
      generalize spanP x = rg at *
      by_cases hA : ln < x.fNo
      rotate_left
      · have HD : Hid (manOkP m = false) := HBad.out (by rw [HTA.out, decide_eq_false hA]; rfl)
        have hA2 : x.fNo ≤ ln := by omega
        go_wp2_with fail
        rw [← hwp]
        clear hwp
        refine wp_region_held_drew (S := fun W => Below wp.heap.size wp W) (by kernel_rfl) (Below.drew (Below.refl _ _)) (fun hHeld => ?_)
        refine tk 0 q3cb_48_7_0 (some 40) (v := ?v1) rfl rfl (by kernel_rfl) hHeld (by rfl) (fun _ _ _ x => x) (fun w h => ?y1) ?_; (case y1 => (try dsimp only at h); go_simp; try (with_reducible rfl)); try simp only [Act.put, sa, s0, s1]
        refine tk 1 q3cb_48_7_1 (some 41) (v := ?v2) rfl rfl (by kernel_rfl) hHeld (by rfl) (fun _ _ _ x => x) (fun w h => ?y2) ?_; (case y2 => (try dsimp only at h); go_simp; try (with_reducible rfl)); try simp only [Act.put, sa, s0, s1]
        refine tk 2 q3cb_48_7_2 (some 42) (v := ?v3) rfl rfl (by kernel_rfl) hHeld (by rfl) (fun _ _ _ x => x) (fun w h => ?y3) ?_; (case y3 => (try dsimp only at h); go_simp; try (with_reducible rfl)); try simp only [Act.put, sa, s0, s1]
        refine tk 3 q3cb_48_7_3 (some 43) (v := ?v4) rfl rfl (by kernel_rfl) hHeld (by rfl) (fun _ _ _ x => x) (fun w h => ?y4) ?_; (case y4 => (try dsimp only at h); go_simp; try (with_reducible rfl)); try simp only [Act.put, sa, s0, s1]
        refine tk 4 q3cb_48_7_4 (some 44) (v := ?v5) rfl rfl (by kernel_rfl) hHeld (by rfl) (fun _ _ _ x => x) (fun w h => ?y5) ?_; (case y5 => (try dsimp only at h); go_simp; try (with_reducible rfl)); try simp only [Act.put, sa, s0, s1]
        refine tn 5 q3cb_48_7_5 (some 45) rfl rfl (by kernel_rfl) hHeld (by rfl) (fun _ _ _ x => x) ?_; try simp only [Act.put, sa, s0, s1]
        refine tn 6 q3cb_48_7_6 (some 46) rfl rfl (by kernel_rfl) hHeld (by rfl) (fun _ _ _ x => x) ?_; try simp only [Act.put, sa, s0, s1]
        refine tn 7 q3cb_48_7_7 (some 47) rfl rfl (by kernel_rfl) hHeld (by rfl) (fun _ _ _ x => x) ?_; try simp only [Act.put, sa, s0, s1]
        refine tn 8 q3cb_48_7_8 (some 48) rfl rfl (by kernel_rfl) hHeld (by rfl) (fun _ _ _ x => x) ?_; try simp only [Act.put, sa, s0, s1]
        refine tn 9 q3cb_48_7_9 (some 49) rfl rfl (by kernel_rfl) hHeld (by rfl) (fun _ _ _ x => x) ?_; try simp only [Act.put, sa, s0, s1]
        refine tk 10 q3cb_48_7_10 (some 50) (v := ?v11) rfl rfl (by kernel_rfl) hHeld (by rfl) (fun _ _ _ x => x) (fun w h => ?y11) ?_; (case y11 => (try dsimp only at h); go_simp; try (with_reducible rfl)); try simp only [Act.put, sa, s0, s1]
        refine tk 11 q3cb_48_7_11 (some 51) (v := ?v12) rfl rfl (by kernel_rfl) hHeld (by rfl) (fun _ _ _ x => x) (fun w h => ?y12) ?_; (case y12 => (try dsimp only at h); go_simp; try (with_reducible rfl)); try simp only [Act.put, sa, s0, s1]
        refine tn 12 q3cb_48_7_12 (some 52) rfl rfl (by kernel_rfl) hHeld (by rfl) (fun _ _ _ x => x) ?_; try simp only [Act.put, sa, s0, s1]
        refine tn 13 q3cb_48_7_13 (some 53) rfl rfl (by kernel_rfl) hHeld (by rfl) (fun _ _ _ x => x) ?_; try simp only [Act.put, sa, s0, s1]
        refine tn 14 q3cb_48_7_14 (some 54) rfl rfl (by kernel_rfl) hHeld (by rfl) (fun _ _ _ x => x) ?_; try simp only [Act.put, sa, s0, s1]
        refine tk 15 q3cb_48_7_15 (some 55) (v := ?v16) rfl rfl (by kernel_rfl) hHeld (by rfl) (fun _ _ _ x => x) (fun w h => ?y16) ?_; (case y16 => (try dsimp only at h); go_simp; try (with_reducible rfl)); try simp only [Act.put, sa, s0, s1]
        refine tk 16 q3cb_48_7_16 (some 56) (v := ?v17) rfl rfl (by kernel_rfl) hHeld (by rfl) (fun _ _ _ x => x) (fun w h => ?y17) ?_; (case y17 => (try dsimp only at h); go_simp; try (with_reducible rfl)); try simp only [Act.put, sa, s0, s1]
        refine tn 17 q3cb_48_7_17 (some 57) rfl rfl (by kernel_rfl) hHeld (by rfl) (fun _ _ _ x => x) ?_; try simp only [Act.put, sa, s0, s1]
        refine tn 18 q3cb_48_7_18 (some 58) rfl rfl (by kernel_rfl) hHeld (by rfl) (fun _ _ _ x => x) ?_; try simp only [Act.put, sa, s0, s1]
        refine tn 19 q3cb_48_7_19 (some 59) rfl rfl (by kernel_rfl) hHeld (by rfl) (fun _ _ _ x => x) ?_; try simp only [Act.put, sa, s0, s1]
        refine tn 20 q3cb_48_7_20 (some 60) rfl rfl (by kernel_rfl) hHeld (by rfl) (fun _ _ _ x => x) ?_; try simp only [Act.put, sa, s0, s1]
        refine tn 21 q3cb_48_7_21 (some 61) rfl rfl (by kernel_rfl) hHeld (by rfl) (fun _ _ _ x => x) ?_; try simp only [Act.put, sa, s0, s1]
        refine tn 22 q3cb_48_7_22 (some 62) rfl rfl (by kernel_rfl) hHeld (by rfl) (fun _ _ _ x => x) ?_; try simp only [Act.put, sa, s0, s1]
        refine tn 23 q3cb_48_7_23 (some 63) rfl rfl (by kernel_rfl) hHeld (by rfl) (fun _ _ _ x => x) ?_; try simp only [Act.put, sa, s0, s1]
        refine tk 24 q3cb_48_7_24 (some 64) (v := ?v25) rfl rfl (by kernel_rfl) hHeld (by rfl) (fun _ _ _ x => x) (fun w h => ?y25) ?_; (case y25 => (try dsimp only at h); go_simp; try (with_reducible rfl)); try simp only [Act.put, sa, s0, s1]
        refine wpAnyH_done (by kernel_rfl) ?_ _
        go_wp2_with fail
        go_ret
        exact ⟨by rw [HD.out]; rfl, bthen hbq (bthen hbkp hHeld)⟩
      have hA2 : decide (x.fNo ≤ ln) = false := decide_eq_false (by omega)
      by_cases hB2 : x.fNo < nx
      rotate_left
      · have HD : Hid (manOkP m = false) := HBad.out (by rw [HTA.out, decide_eq_false hB2]; simp)
        have hB3 : nx ≤ x.fNo := by omega
        go_wp2_with fail
        rw [← hwp]
        clear hwp
        refine wp_region_held_drew (S := fun W => Below wp.heap.size wp W) (by kernel_rfl) (Below.drew (Below.refl _ _)) (fun hHeld => ?_)
        refine tk 0 q3cb_48_7_0 (some 40) (v := ?v26) rfl rfl (by kernel_rfl) hHeld (by rfl) (fun _ _ _ x => x) (fun w h => ?y26) ?_; (case y26 => (try dsimp only at h); go_simp; try (with_reducible rfl)); try simp only [Act.put, sa, s0, s1]
        refine tk 1 q3cb_48_7_1 (some 41) (v := ?v27) rfl rfl (by kernel_rfl) hHeld (by rfl) (fun _ _ _ x => x) (fun w h => ?y27) ?_; (case y27 => (try dsimp only at h); go_simp; try (with_reducible rfl)); try simp only [Act.put, sa, s0, s1]
        refine tk 2 q3cb_48_7_2 (some 42) (v := ?v28) rfl rfl (by kernel_rfl) hHeld (by rfl) (fun _ _ _ x => x) (fun w h => ?y28) ?_; (case y28 => (try dsimp only at h); go_simp; try (with_reducible rfl)); try simp only [Act.put, sa, s0, s1]
        refine tk 3 q3cb_48_7_3 (some 43) (v := ?v29) rfl rfl (by kernel_rfl) hHeld (by rfl) (fun _ _ _ x => x) (fun w h => ?y29) ?_; (case y29 => (try dsimp only at h); go_simp; try (with_reducible rfl)); try simp only [Act.put, sa, s0, s1]
        refine tk 4 q3cb_48_7_4 (some 44) (v := ?v30) rfl rfl (by kernel_rfl) hHeld (by rfl) (fun _ _ _ x => x) (fun w h => ?y30) ?_; (case y30 => (try dsimp only at h); go_simp; try (with_reducible rfl)); try simp only [Act.put, sa, s0, s1]
        refine tk 5 q3cb_48_7_5 (some 45) (v := ?v31) rfl rfl (by kernel_rfl) hHeld (by rfl) (fun _ _ _ x => x) (fun w h => ?y31) ?_; (case y31 => (try dsimp only at h); go_simp; try (with_reducible rfl)); try simp only [Act.put, sa, s0, s1]
        refine tk 6 q3cb_48_7_6 (some 46) (v := ?v32) rfl rfl (by kernel_rfl) hHeld (by rfl) (fun _ _ _ x => x) (fun w h => ?y32) ?_; (case y32 => (try dsimp only at h); go_simp; try (with_reducible rfl)); try simp only [Act.put, sa, s0, s1]
        refine tk 7 q3cb_48_7_7 (some 47) (v := ?v33) rfl rfl (by kernel_rfl) hHeld (by rfl) (fun _ _ _ x => x) (fun w h => ?y33) ?_; (case y33 => (try dsimp only at h); go_simp; try (with_reducible rfl)); try simp only [Act.put, sa, s0, s1]
        refine tk 8 q3cb_48_7_8 (some 48) (v := ?v34) rfl rfl (by kernel_rfl) hHeld (by rfl) (fun _ _ _ x => x) (fun w h => ?y34) ?_; (case y34 => (try dsimp only at h); go_simp; try (with_reducible rfl)); try simp only [Act.put, sa, s0, s1]
        refine tk 9 q3cb_48_7_9 (some 49) (v := ?v35) rfl rfl (by kernel_rfl) hHeld (by rfl) (fun _ _ _ x => x) (fun w h => ?y35) ?_; (case y35 => (try dsimp only at h); go_simp; try (with_reducible rfl)); try simp only [Act.put, sa, s0, s1]
        refine tk 10 q3cb_48_7_10 (some 50) (v := ?v36) rfl rfl (by kernel_rfl) hHeld (by rfl) (fun _ _ _ x => x) (fun w h => ?y36) ?_; (case y36 => (try dsimp only at h); go_simp; try (with_reducible rfl)); try simp only [Act.put, sa, s0, s1]
        refine tk 11 q3cb_48_7_11 (some 51) (v := ?v37) rfl rfl (by kernel_rfl) hHeld (by rfl) (fun _ _ _ x => x) (fun w h => ?y37) ?_; (case y37 => (try dsimp only at h); go_simp; try (with_reducible rfl)); try simp only [Act.put, sa, s0, s1]
        refine tn 12 q3cb_48_7_12 (some 52) rfl rfl (by kernel_rfl) hHeld (by rfl) (fun _ _ _ x => x) ?_; try simp only [Act.put, sa, s0, s1]
        refine tn 13 q3cb_48_7_13 (some 53) rfl rfl (by kernel_rfl) hHeld (by rfl) (fun _ _ _ x => x) ?_; try simp only [Act.put, sa, s0, s1]
        refine tn 14 q3cb_48_7_14 (some 54) rfl rfl (by kernel_rfl) hHeld (by rfl) (fun _ _ _ x => x) ?_; try simp only [Act.put, sa, s0, s1]
        refine tk 15 q3cb_48_7_15 (some 55) (v := ?v41) rfl rfl (by kernel_rfl) hHeld (by rfl) (fun _ _ _ x => x) (fun w h => ?y41) ?_; (case y41 => (try dsimp only at h); go_simp; try (with_reducible rfl)); try simp only [Act.put, sa, s0, s1]
        refine tk 16 q3cb_48_7_16 (some 56) (v := ?v42) rfl rfl (by kernel_rfl) hHeld (by rfl) (fun _ _ _ x => x) (fun w h => ?y42) ?_; (case y42 => (try dsimp only at h); go_simp; try (with_reducible rfl)); try simp only [Act.put, sa, s0, s1]
        refine tn 17 q3cb_48_7_17 (some 57) rfl rfl (by kernel_rfl) hHeld (by rfl) (fun _ _ _ x => x) ?_; try simp only [Act.put, sa, s0, s1]
        refine tn 18 q3cb_48_7_18 (some 58) rfl rfl (by kernel_rfl) hHeld (by rfl) (fun _ _ _ x => x) ?_; try simp only [Act.put, sa, s0, s1]
        refine tn 19 q3cb_48_7_19 (some 59) rfl rfl (by kernel_rfl) hHeld (by rfl) (fun _ _ _ x => x) ?_; try simp only [Act.put, sa, s0, s1]
        refine tn 20 q3cb_48_7_20 (some 60) rfl rfl (by kernel_rfl) hHeld (by rfl) (fun _ _ _ x => x) ?_; try simp only [Act.put, sa, s0, s1]
        refine tn 21 q3cb_48_7_21 (some 61) rfl rfl (by kernel_rfl) hHeld (by rfl) (fun _ _ _ x => x) ?_; try simp only [Act.put, sa, s0, s1]
        refine tn 22 q3cb_48_7_22 (some 62) rfl rfl (by kernel_rfl) hHeld (by rfl) (fun _ _ _ x => x) ?_; try simp only [Act.put, sa, s0, s1]
        refine tn 23 q3cb_48_7_23 (some 63) rfl rfl (by kernel_rfl) hHeld (by rfl) (fun _ _ _ x => x) ?_; try simp only [Act.put, sa, s0, s1]
        refine tk 24 q3cb_48_7_24 (some 64) (v := ?v50) rfl rfl (by kernel_rfl) hHeld (by rfl) (fun _ _ _ x => x) (fun w h => ?y50) ?_; (case y50 => (try dsimp only at h); go_simp; try (with_reducible rfl)); try simp only [Act.put, sa, s0, s1]
        refine wpAnyH_done (by kernel_rfl) ?_ _
        go_wp2_with fail
        go_ret
        exact ⟨by rw [HD.out]; rfl, bthen hbq (bthen hbkp hHeld)⟩
      have hB3 : decide (nx ≤ x.fNo) = false := decide_eq_false (by omega)
      cases rg with
      | false =>
        have HD : Hid (manOkP m = false) := HBad.out (by rw [HTA.out]; simp)
        go_wp2_with fail
        rw [← hwp]
        clear hwp
        refine wp_region_held_drew (S := fun W => Below wp.heap.size wp W) (by kernel_rfl) (Below.drew (Below.refl _ _)) (fun hHeld => ?_)
        refine tk 0 q3cb_48_7_0 (some 40) (v := ?v51) rfl rfl (by kernel_rfl) hHeld (by rfl) (fun _ _ _ x => x) (fun w h => ?y51) ?_; (case y51 => (try dsimp only at h); go_simp; try (with_reducible rfl)); try simp only [Act.put, sa, s0, s1]
        refine tk 1 q3cb_48_7_1 (some 41) (v := ?v52) rfl rfl (by kernel_rfl) hHeld (by rfl) (fun _ _ _ x => x) (fun w h => ?y52) ?_; (case y52 => (try dsimp only at h); go_simp; try (with_reducible rfl)); try simp only [Act.put, sa, s0, s1]
        refine tk 2 q3cb_48_7_2 (some 42) (v := ?v53) rfl rfl (by kernel_rfl) hHeld (by rfl) (fun _ _ _ x => x) (fun w h => ?y53) ?_; (case y53 => (try dsimp only at h); go_simp; try (with_reducible rfl)); try simp only [Act.put, sa, s0, s1]
        refine tk 3 q3cb_48_7_3 (some 43) (v := ?v54) rfl rfl (by kernel_rfl) hHeld (by rfl) (fun _ _ _ x => x) (fun w h => ?y54) ?_; (case y54 => (try dsimp only at h); go_simp; try (with_reducible rfl)); try simp only [Act.put, sa, s0, s1]
        refine tk 4 q3cb_48_7_4 (some 44) (v := ?v55) rfl rfl (by kernel_rfl) hHeld (by rfl) (fun _ _ _ x => x) (fun w h => ?y55) ?_; (case y55 => (try dsimp only at h); go_simp; try (with_reducible rfl)); try simp only [Act.put, sa, s0, s1]
        refine tk 5 q3cb_48_7_5 (some 45) (v := ?v56) rfl rfl (by kernel_rfl) hHeld (by rfl) (fun _ _ _ x => x) (fun w h => ?y56) ?_; (case y56 => (try dsimp only at h); go_simp; try (with_reducible rfl)); try simp only [Act.put, sa, s0, s1]
        refine tk 6 q3cb_48_7_6 (some 46) (v := ?v57) rfl rfl (by kernel_rfl) hHeld (by rfl) (fun _ _ _ x => x) (fun w h => ?y57) ?_; (case y57 => (try dsimp only at h); go_simp; try (with_reducible rfl)); try simp only [Act.put, sa, s0, s1]
        refine tk 7 q3cb_48_7_7 (some 47) (v := ?v58) rfl rfl (by kernel_rfl) hHeld (by rfl) (fun _ _ _ x => x) (fun w h => ?y58) ?_; (case y58 => (try dsimp only at h); go_simp; try (with_reducible rfl)); try simp only [Act.put, sa, s0, s1]
        refine tk 8 q3cb_48_7_8 (some 48) (v := ?v59) rfl rfl (by kernel_rfl) hHeld (by rfl) (fun _ _ _ x => x) (fun w h => ?y59) ?_; (case y59 => (try dsimp only at h); go_simp; try (with_reducible rfl)); try simp only [Act.put, sa, s0, s1]
        refine tk 9 q3cb_48_7_9 (some 49) (v := ?v60) rfl rfl (by kernel_rfl) hHeld (by rfl) (fun _ _ _ x => x) (fun w h => ?y60) ?_; (case y60 => (try dsimp only at h); go_simp; try (with_reducible rfl)); try simp only [Act.put, sa, s0, s1]
        refine tk 10 q3cb_48_7_10 (some 50) (v := ?v61) rfl rfl (by kernel_rfl) hHeld (by rfl) (fun _ _ _ x => x) (fun w h => ?y61) ?_; (case y61 => (try dsimp only at h); go_simp; try (with_reducible rfl)); try simp only [Act.put, sa, s0, s1]
        refine tk 11 q3cb_48_7_11 (some 51) (v := ?v62) rfl rfl (by kernel_rfl) hHeld (by rfl) (fun _ _ _ x => x) (fun w h => ?y62) ?_; (case y62 => (try dsimp only at h); go_simp; try (with_reducible rfl)); try simp only [Act.put, sa, s0, s1]
        refine tk 12 q3cb_48_7_12 (some 52) (v := ?v63) rfl rfl (by kernel_rfl) hHeld (by rfl) (fun _ _ _ x => x) (fun w h => ?y63) ?_; (case y63 => (try dsimp only at h); go_simp; try (with_reducible rfl)); try simp only [Act.put, sa, s0, s1]
        refine wpAnyH_ready (rs := [13]) (by kernel_rfl) (by simp) ?_
        refine AllReadyH.cons (o := q3cb_48_7_13) rfl (fun K hK => ?_) AllReadyH.nil
        go_simp
        refine Calls.mono (hCm _) ?_
        rintro e w1 ⟨rfl, hx1⟩
        go_wp2_with fail
        refine hK.out _ _ (bthen hHeld hx1) (fun hHeld => ?_)
        clear hK K
        try simp only [Act.put, sa, s0, s1]
        refine tk 14 q3cb_48_7_14 (some 54) (v := ?v64) rfl rfl (by kernel_rfl) hHeld (by rfl) (fun _ _ _ x => x) (fun w h => ?y64) ?_; (case y64 => (try dsimp only at h); go_simp; try (with_reducible rfl)); try simp only [Act.put, sa, s0, s1]
        refine tk 15 q3cb_48_7_15 (some 55) (v := ?v65) rfl rfl (by kernel_rfl) hHeld (by rfl) (fun _ _ _ x => x) (fun w h => ?y65) ?_; (case y65 => (try dsimp only at h); go_simp; try (with_reducible rfl)); try simp only [Act.put, sa, s0, s1]
        refine tk 16 q3cb_48_7_16 (some 56) (v := ?v66) rfl rfl (by kernel_rfl) hHeld (by rfl) (fun _ _ _ x => x) (fun w h => ?y66) ?_; (case y66 => (try dsimp only at h); go_simp; try (with_reducible rfl)); try simp only [Act.put, sa, s0, s1]
        refine tn 17 q3cb_48_7_17 (some 57) rfl rfl (by kernel_rfl) hHeld (by rfl) (fun _ _ _ x => x) ?_; try simp only [Act.put, sa, s0, s1]
        refine tn 18 q3cb_48_7_18 (some 58) rfl rfl (by kernel_rfl) hHeld (by rfl) (fun _ _ _ x => x) ?_; try simp only [Act.put, sa, s0, s1]
        refine tn 19 q3cb_48_7_19 (some 59) rfl rfl (by kernel_rfl) hHeld (by rfl) (fun _ _ _ x => x) ?_; try simp only [Act.put, sa, s0, s1]
        refine tn 20 q3cb_48_7_20 (some 60) rfl rfl (by kernel_rfl) hHeld (by rfl) (fun _ _ _ x => x) ?_; try simp only [Act.put, sa, s0, s1]
        refine tn 21 q3cb_48_7_21 (some 61) rfl rfl (by kernel_rfl) hHeld (by rfl) (fun _ _ _ x => x) ?_; try simp only [Act.put, sa, s0, s1]
        refine tn 22 q3cb_48_7_22 (some 62) rfl rfl (by kernel_rfl) hHeld (by rfl) (fun _ _ _ x => x) ?_; try simp only [Act.put, sa, s0, s1]
        refine tn 23 q3cb_48_7_23 (some 63) rfl rfl (by kernel_rfl) hHeld (by rfl) (fun _ _ _ x => x) ?_; try simp only [Act.put, sa, s0, s1]
        refine tk 24 q3cb_48_7_24 (some 64) (v := ?v74) rfl rfl (by kernel_rfl) hHeld (by rfl) (fun _ _ _ x => x) (fun w h => ?y74) ?_; (case y74 => (try dsimp only at h); go_simp; try (with_reducible rfl)); try simp only [Act.put, sa, s0, s1]
        refine wpAnyH_done (by kernel_rfl) ?_ _
        go_wp2_with fail
        go_ret
        exact ⟨by rw [HD.out]; rfl, bthen hbq (bthen hbkp hHeld)⟩
      | true =>
        cases ap with
        | false =>
          have HD : Hid (manOkP m = false) := HBad.out (by rw [HTA.out]; simp)
          go_wp2_with fail
          rw [← hwp]
          clear hwp
          refine wp_region_held_drew (S := fun W => Below wp.heap.size wp W) (by kernel_rfl) (Below.drew (Below.refl _ _)) (fun hHeld => ?_)
          refine tk 0 q3cb_48_7_0 (some 40) (v := ?v75) rfl rfl (by kernel_rfl) hHeld (by rfl) (fun _ _ _ x => x) (fun w h => ?y75) ?_; (case y75 => (try dsimp only at h); go_simp; try (with_reducible rfl)); try simp only [Act.put, sa, s0, s1]
          refine tk 1 q3cb_48_7_1 (some 41) (v := ?v76) rfl rfl (by kernel_rfl) hHeld (by rfl) (fun _ _ _ x => x) (fun w h => ?y76) ?_; (case y76 => (try dsimp only at h); go_simp; try (with_reducible rfl)); try simp only [Act.put, sa, s0, s1]
          refine tk 2 q3cb_48_7_2 (some 42) (v := ?v77) rfl rfl (by kernel_rfl) hHeld (by rfl) (fun _ _ _ x => x) (fun w h => ?y77) ?_; (case y77 => (try dsimp only at h); go_simp; try (with_reducible rfl)); try simp only [Act.put, sa, s0, s1]
          refine tk 3 q3cb_48_7_3 (some 43) (v := ?v78) rfl rfl (by kernel_rfl) hHeld (by rfl) (fun _ _ _ x => x) (fun w h => ?y78) ?_; (case y78 => (try dsimp only at h); go_simp; try (with_reducible rfl)); try simp only [Act.put, sa, s0, s1]
          refine tk 4 q3cb_48_7_4 (some 44) (v := ?v79) rfl rfl (by kernel_rfl) hHeld (by rfl) (fun _ _ _ x => x) (fun w h => ?y79) ?_; (case y79 => (try dsimp only at h); go_simp; try (with_reducible rfl)); try simp only [Act.put, sa, s0, s1]
          refine tk 5 q3cb_48_7_5 (some 45) (v := ?v80) rfl rfl (by kernel_rfl) hHeld (by rfl) (fun _ _ _ x => x) (fun w h => ?y80) ?_; (case y80 => (try dsimp only at h); go_simp; try (with_reducible rfl)); try simp only [Act.put, sa, s0, s1]
          refine tk 6 q3cb_48_7_6 (some 46) (v := ?v81) rfl rfl (by kernel_rfl) hHeld (by rfl) (fun _ _ _ x => x) (fun w h => ?y81) ?_; (case y81 => (try dsimp only at h); go_simp; try (with_reducible rfl)); try simp only [Act.put, sa, s0, s1]
          refine tk 7 q3cb_48_7_7 (some 47) (v := ?v82) rfl rfl (by kernel_rfl) hHeld (by rfl) (fun _ _ _ x => x) (fun w h => ?y82) ?_; (case y82 => (try dsimp only at h); go_simp; try (with_reducible rfl)); try simp only [Act.put, sa, s0, s1]
          refine tk 8 q3cb_48_7_8 (some 48) (v := ?v83) rfl rfl (by kernel_rfl) hHeld (by rfl) (fun _ _ _ x => x) (fun w h => ?y83) ?_; (case y83 => (try dsimp only at h); go_simp; try (with_reducible rfl)); try simp only [Act.put, sa, s0, s1]
          refine tk 9 q3cb_48_7_9 (some 49) (v := ?v84) rfl rfl (by kernel_rfl) hHeld (by rfl) (fun _ _ _ x => x) (fun w h => ?y84) ?_; (case y84 => (try dsimp only at h); go_simp; try (with_reducible rfl)); try simp only [Act.put, sa, s0, s1]
          refine tk 10 q3cb_48_7_10 (some 50) (v := ?v85) rfl rfl (by kernel_rfl) hHeld (by rfl) (fun _ _ _ x => x) (fun w h => ?y85) ?_; (case y85 => (try dsimp only at h); go_simp; try (with_reducible rfl)); try simp only [Act.put, sa, s0, s1]
          refine tk 11 q3cb_48_7_11 (some 51) (v := ?v86) rfl rfl (by kernel_rfl) hHeld (by rfl) (fun _ _ _ x => x) (fun w h => ?y86) ?_; (case y86 => (try dsimp only at h); go_simp; try (with_reducible rfl)); try simp only [Act.put, sa, s0, s1]
          refine tk 12 q3cb_48_7_12 (some 52) (v := ?v87) rfl rfl (by kernel_rfl) hHeld (by rfl) (fun _ _ _ x => x) (fun w h => ?y87) ?_; (case y87 => (try dsimp only at h); go_simp; try (with_reducible rfl)); try simp only [Act.put, sa, s0, s1]
          refine wpAnyH_ready (rs := [13]) (by kernel_rfl) (by simp) ?_
          refine AllReadyH.cons (o := q3cb_48_7_13) rfl (fun K hK => ?_) AllReadyH.nil
          go_simp
          refine Calls.mono (hCm _) ?_
          rintro e w1 ⟨rfl, hx1⟩
          go_wp2_with fail
          refine hK.out _ _ (bthen hHeld hx1) (fun hHeld => ?_)
          clear hK K
          try simp only [Act.put, sa, s0, s1]
          refine tk 14 q3cb_48_7_14 (some 54) (v := ?v88) rfl rfl (by kernel_rfl) hHeld (by rfl) (fun _ _ _ x => x) (fun w h => ?y88) ?_; (case y88 => (try dsimp only at h); go_simp; try (with_reducible rfl)); try simp only [Act.put, sa, s0, s1]
          refine tk 15 q3cb_48_7_15 (some 55) (v := ?v89) rfl rfl (by kernel_rfl) hHeld (by rfl) (fun _ _ _ x => x) (fun w h => ?y89) ?_; (case y89 => (try dsimp only at h); go_simp; try (with_reducible rfl)); try simp only [Act.put, sa, s0, s1]
          refine tk 16 q3cb_48_7_16 (some 56) (v := ?v90) rfl rfl (by kernel_rfl) hHeld (by rfl) (fun _ _ _ x => x) (fun w h => ?y90) ?_; (case y90 => (try dsimp only at h); go_simp; try (with_reducible rfl)); try simp only [Act.put, sa, s0, s1]
          refine tk 17 q3cb_48_7_17 (some 57) (v := ?v91) rfl rfl (by kernel_rfl) hHeld (by rfl) (fun _ _ _ x => x) (fun w h => ?y91) ?_; (case y91 => (try dsimp only at h); go_simp; try (with_reducible rfl)); try simp only [Act.put, sa, s0, s1]
          refine tk 18 q3cb_48_7_18 (some 58) (v := ?v92) rfl rfl (by kernel_rfl) hHeld (by rfl) (fun _ _ _ x => x) (fun w h => ?y92) ?_; (case y92 => (try dsimp only at h); go_simp; try (with_reducible rfl)); try simp only [Act.put, sa, s0, s1]
          refine tk 19 q3cb_48_7_19 (some 59) (v := ?v93) rfl rfl (by kernel_rfl) hHeld (by rfl) (fun _ _ _ x => x) (fun w h => ?y93) ?_; (case y93 => (try dsimp only at h); go_simp; try (with_reducible rfl)); try simp only [Act.put, sa, s0, s1]
          refine tk 20 q3cb_48_7_20 (some 60) (v := ?v94) rfl rfl (by kernel_rfl) hHeld (by rfl) (fun _ _ _ x => x) (fun w h => ?y94) ?_; (case y94 => (try dsimp only at h); go_simp; try (with_reducible rfl)); try simp only [Act.put, sa, s0, s1]
          refine tk 21 q3cb_48_7_21 (some 61) (v := ?v95) rfl rfl (by kernel_rfl) hHeld (by rfl) (fun _ _ _ x => x) (fun w h => ?y95) ?_; (case y95 => (try dsimp only at h); go_simp; try (with_reducible rfl)); try simp only [Act.put, sa, s0, s1]
          refine wpAnyH_ready (rs := [22]) (by kernel_rfl) (by simp) ?_
          refine AllReadyH.cons (o := q3cb_48_7_22) rfl (fun K hK => ?_) AllReadyH.nil
          go_simp
          refine Calls.mono (hCl _ hHeld) ?_
          rintro e w2 ⟨rfl, hx2⟩
          go_wp2_with fail
          refine hK.out _ _ (bthen hHeld hx2) (fun hHeld => ?_)
          clear hK K
          try simp only [Act.put, sa, s0, s1]
          refine tk 23 q3cb_48_7_23 (some 63) (v := ?v96) rfl rfl (by kernel_rfl) hHeld (by rfl) (fun _ _ _ x => x) (fun w h => ?y96) ?_; (case y96 => (try dsimp only at h); go_simp; try (with_reducible rfl)); try simp only [Act.put, sa, s0, s1]
          refine tk 24 q3cb_48_7_24 (some 64) (v := ?v97) rfl rfl (by kernel_rfl) hHeld (by rfl) (fun _ _ _ x => x) (fun w h => ?y97) ?_; (case y97 => (try dsimp only at h); go_simp; try (with_reducible rfl)); try simp only [Act.put, sa, s0, s1]
          refine wpAnyH_done (by kernel_rfl) ?_ _
          go_wp2_with fail
          go_ret
          exact ⟨by rw [HD.out]; rfl, bthen hbq (bthen hbkp hHeld)⟩
        | true =>
          have HG2 := Hid.mk (HG.out (by rw [HTA.out, decide_eq_true hA, decide_eq_true hB2]; rfl))
          have HU3 := Hid.mk (HU2.out (HRL.out rfl))
          have hn0 : 0 ≤ x.fNo := by omega
          go_wp2_with fail
          rw [← hwp]
          clear hwp
          refine wp_region_held_drew (S := fun W => Below wp.heap.size wp W) (by kernel_rfl) (Below.drew (Below.refl _ _)) (fun hHeld => ?_)
          refine tk 0 q3cb_48_7_0 (some 40) (v := ?v98) rfl rfl (by kernel_rfl) hHeld (by rfl) (fun _ _ _ x => x) (fun w h => ?y98) ?_; (case y98 => (try dsimp only at h); go_simp; try (with_reducible rfl)); try simp only [Act.put, sa, s0, s1]
          refine tk 1 q3cb_48_7_1 (some 41) (v := ?v99) rfl rfl (by kernel_rfl) hHeld (by rfl) (fun _ _ _ x => x) (fun w h => ?y99) ?_; (case y99 => (try dsimp only at h); go_simp; try (with_reducible rfl)); try simp only [Act.put, sa, s0, s1]
          refine tk 2 q3cb_48_7_2 (some 42) (v := ?v100) rfl rfl (by kernel_rfl) hHeld (by rfl) (fun _ _ _ x => x) (fun w h => ?y100) ?_; (case y100 => (try dsimp only at h); go_simp; try (with_reducible rfl)); try simp only [Act.put, sa, s0, s1]
          refine tk 3 q3cb_48_7_3 (some 43) (v := ?v101) rfl rfl (by kernel_rfl) hHeld (by rfl) (fun _ _ _ x => x) (fun w h => ?y101) ?_; (case y101 => (try dsimp only at h); go_simp; try (with_reducible rfl)); try simp only [Act.put, sa, s0, s1]
          refine tk 4 q3cb_48_7_4 (some 44) (v := ?v102) rfl rfl (by kernel_rfl) hHeld (by rfl) (fun _ _ _ x => x) (fun w h => ?y102) ?_; (case y102 => (try dsimp only at h); go_simp; try (with_reducible rfl)); try simp only [Act.put, sa, s0, s1]
          refine tk 5 q3cb_48_7_5 (some 45) (v := ?v103) rfl rfl (by kernel_rfl) hHeld (by rfl) (fun _ _ _ x => x) (fun w h => ?y103) ?_; (case y103 => (try dsimp only at h); go_simp; try (with_reducible rfl)); try simp only [Act.put, sa, s0, s1]
          refine tk 6 q3cb_48_7_6 (some 46) (v := ?v104) rfl rfl (by kernel_rfl) hHeld (by rfl) (fun _ _ _ x => x) (fun w h => ?y104) ?_; (case y104 => (try dsimp only at h); go_simp; try (with_reducible rfl)); try simp only [Act.put, sa, s0, s1]
          refine tk 7 q3cb_48_7_7 (some 47) (v := ?v105) rfl rfl (by kernel_rfl) hHeld (by rfl) (fun _ _ _ x => x) (fun w h => ?y105) ?_; (case y105 => (try dsimp only at h); go_simp; try (with_reducible rfl)); try simp only [Act.put, sa, s0, s1]
          refine tk 8 q3cb_48_7_8 (some 48) (v := ?v106) rfl rfl (by kernel_rfl) hHeld (by rfl) (fun _ _ _ x => x) (fun w h => ?y106) ?_; (case y106 => (try dsimp only at h); go_simp; try (with_reducible rfl)); try simp only [Act.put, sa, s0, s1]
          refine tk 9 q3cb_48_7_9 (some 49) (v := ?v107) rfl rfl (by kernel_rfl) hHeld (by rfl) (fun _ _ _ x => x) (fun w h => ?y107) ?_; (case y107 => (try dsimp only at h); go_simp; try (with_reducible rfl)); try simp only [Act.put, sa, s0, s1]
          refine tk 10 q3cb_48_7_10 (some 50) (v := ?v108) rfl rfl (by kernel_rfl) hHeld (by rfl) (fun _ _ _ x => x) (fun w h => ?y108) ?_; (case y108 => (try dsimp only at h); go_simp; try (with_reducible rfl)); try simp only [Act.put, sa, s0, s1]
          refine tk 11 q3cb_48_7_11 (some 51) (v := ?v109) rfl rfl (by kernel_rfl) hHeld (by rfl) (fun _ _ _ x => x) (fun w h => ?y109) ?_; (case y109 => (try dsimp only at h); go_simp; try (with_reducible rfl)); try simp only [Act.put, sa, s0, s1]
          refine tk 12 q3cb_48_7_12 (some 52) (v := ?v110) rfl rfl (by kernel_rfl) hHeld (by rfl) (fun _ _ _ x => x) (fun w h => ?y110) ?_; (case y110 => (try dsimp only at h); go_simp; try (with_reducible rfl)); try simp only [Act.put, sa, s0, s1]
          refine wpAnyH_ready (rs := [13]) (by kernel_rfl) (by simp) ?_
          refine AllReadyH.cons (o := q3cb_48_7_13) rfl (fun K hK => ?_) AllReadyH.nil
          go_simp
          refine Calls.mono (hCm _) ?_
          rintro e w1 ⟨rfl, hx1⟩
          go_wp2_with fail
          refine hK.out _ _ (bthen hHeld hx1) (fun hHeld => ?_)
          clear hK K
          try simp only [Act.put, sa, s0, s1]
          refine tk 14 q3cb_48_7_14 (some 54) (v := ?v111) rfl rfl (by kernel_rfl) hHeld (by rfl) (fun _ _ _ x => x) (fun w h => ?y111) ?_; (case y111 => (try dsimp only at h); go_simp; try (with_reducible rfl)); try simp only [Act.put, sa, s0, s1]
          refine tk 15 q3cb_48_7_15 (some 55) (v := ?v112) rfl rfl (by kernel_rfl) hHeld (by rfl) (fun _ _ _ x => x) (fun w h => ?y112) ?_; (case y112 => (try dsimp only at h); go_simp; try (with_reducible rfl)); try simp only [Act.put, sa, s0, s1]
          refine tk 16 q3cb_48_7_16 (some 56) (v := ?v113) rfl rfl (by kernel_rfl) hHeld (by rfl) (fun _ _ _ x => x) (fun w h => ?y113) ?_; (case y113 => (try dsimp only at h); go_simp; try (with_reducible rfl)); try simp only [Act.put, sa, s0, s1]
          refine tk 17 q3cb_48_7_17 (some 57) (v := ?v114) rfl rfl (by kernel_rfl) hHeld (by rfl) (fun _ _ _ x => x) (fun w h => ?y114) ?_; (case y114 => (try dsimp only at h); go_simp; try (with_reducible rfl)); try simp only [Act.put, sa, s0, s1]
          refine tk 18 q3cb_48_7_18 (some 58) (v := ?v115) rfl rfl (by kernel_rfl) hHeld (by rfl) (fun _ _ _ x => x) (fun w h => ?y115) ?_; (case y115 => (try dsimp only at h); go_simp; try (with_reducible rfl)); try simp only [Act.put, sa, s0, s1]
          refine tk 19 q3cb_48_7_19 (some 59) (v := ?v116) rfl rfl (by kernel_rfl) hHeld (by rfl) (fun _ _ _ x => x) (fun w h => ?y116) ?_; (case y116 => (try dsimp only at h); go_simp; try (with_reducible rfl)); try simp only [Act.put, sa, s0, s1]
          refine tk 20 q3cb_48_7_20 (some 60) (v := ?v117) rfl rfl (by kernel_rfl) hHeld (by rfl) (fun _ _ _ x => x) (fun w h => ?y117) ?_; (case y117 => (try dsimp only at h); go_simp; try (with_reducible rfl)); try simp only [Act.put, sa, s0, s1]
          refine tk 21 q3cb_48_7_21 (some 61) (v := ?v118) rfl rfl (by kernel_rfl) hHeld (by rfl) (fun _ _ _ x => x) (fun w h => ?y118) ?_; (case y118 => (try dsimp only at h); go_simp; try (with_reducible rfl)); try simp only [Act.put, sa, s0, s1]
          refine wpAnyH_ready (rs := [22]) (by kernel_rfl) (by simp) ?_
          refine AllReadyH.cons (o := q3cb_48_7_22) rfl (fun K hK => ?_) AllReadyH.nil
          go_simp
          refine Calls.mono (hCl _ hHeld) ?_
          rintro e w2 ⟨rfl, hx2⟩
          go_wp2_with fail
          refine hK.out _ _ (bthen hHeld hx2) (fun hHeld => ?_)
          clear hK K
          try simp only [Act.put, sa, s0, s1]
          refine tk 23 q3cb_48_7_23 (some 63) (v := ?v119) rfl rfl (by kernel_rfl) hHeld (by rfl) (fun _ _ _ x => x) (fun w h => ?y119) ?_; (case y119 => (try dsimp only at h); go_simp; try (with_reducible rfl)); try simp only [Act.put, sa, s0, s1]
          refine tk 24 q3cb_48_7_24 (some 64) (v := ?v120) rfl rfl (by kernel_rfl) hHeld (by rfl) (fun _ _ _ x => x) (fun w h => ?y120) ?_; (case y120 => (try dsimp only at h); go_simp; try (with_reducible rfl)); try simp only [Act.put, sa, s0, s1]
          refine wpAnyH_done (by kernel_rfl) ?_ _
          have z0 := p0 _ hHeld
          go_wp2_with fail
          go_roundw
          case rel => exact ⟨k + 1, by omega, by go_num, by rw [HN.out], by rw [HN.out]; exact hn0, HU3, HG2, bthen hbkp hHeld⟩
          case measure => simp [intOf]; omega
    · have HD : Hid (manOkP m = true) := by show _ = _; rw [HV2.out, HI.out]; exact tabs_end (by rw [HX.out]; omega)
      go_wp2_with fail
      go_ret
      exact ⟨by rw [HD.out]; rfl, hbw⟩

end Go.Proofs.YtnohnkcijomdjaaGreatDoor
