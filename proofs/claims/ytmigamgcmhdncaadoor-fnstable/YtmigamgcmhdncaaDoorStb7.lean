/-
  Part 8 of the texts that the proof leans on.
-/
import Derived.Test.YtmigamgcmhdncaaDoorStb0
import Derived.Test.YtmigamgcmhdncaaDoorStb2
set_option linter.unusedVariables false
set_option linter.unusedSimpArgs false
set_option maxRecDepth 10000

namespace Go.Proofs.YtmigamgcmhdncaaDoor
open Go.RowKit
abbrev qfc4_81_6_0 : Oper := ⟨some 15, .load 40 (.tmp 4), 40, "l08_graph.go:75", #[], none⟩
abbrev qfc4_81_6_1 : Oper := ⟨some 16, .call { callee := .value (.func 80), args := #[.tmp 15], argTypes := #[40] }, 4, "l08_graph.go:75", #[⟨0, .data⟩], none⟩
abbrev qfc4_81_6_2 : Oper := ⟨some 17, .unOp .not 4 (.tmp 16), 4, "l08_graph.go:75", #[⟨1, .data⟩], none⟩
abbrev qfc4_81_6_3 : Oper := ⟨some 18, .move (.tmp 17), 4, "l08_graph.go:75", #[⟨2, .data⟩, ⟨1, .chain⟩], none⟩
abbrev qfc4_81_6_4 : Oper := ⟨some 19, .move (.tmp 3), 3, "l08_graph.go:75", #[⟨3, .guard⟩], some (3, false)⟩
abbrev qfc4_81_6_5 : Oper := ⟨some 20, .binOp .gtr 3 (.tmp 19) (.const (.int .i64 0)) 3, 4, "l08_graph.go:75", #[⟨4, .data⟩, ⟨3, .guard⟩], some (3, false)⟩
abbrev qfc4_81_6_6 : Oper := ⟨some 21, .move (.tmp 20), 4, "l08_graph.go:75", #[⟨5, .data⟩, ⟨3, .chain⟩, ⟨3, .guard⟩], some (3, false)⟩
abbrev qfc4_81_6_7 : Oper := ⟨some 22, .move (.tmp 0), 26, "l08_graph.go:75", #[⟨6, .guard⟩], some (6, true)⟩
abbrev qfc4_81_6_8 : Oper := ⟨some 23, .move (.tmp 3), 3, "l08_graph.go:75", #[⟨6, .guard⟩], some (6, true)⟩
abbrev qfc4_81_6_9 : Oper := ⟨some 24, .binOp .sub 3 (.tmp 23) (.const (.int .i64 1)) 3, 3, "l08_graph.go:75", #[⟨8, .data⟩, ⟨6, .guard⟩], some (6, true)⟩
abbrev qfc4_81_6_10 : Oper := ⟨some 25, .indexAddr 26 (.tmp 22) (.tmp 24), 0, "l08_graph.go:75", #[⟨7, .data⟩, ⟨9, .data⟩, ⟨6, .guard⟩], some (6, true)⟩
abbrev qfc4_81_6_11 : Oper := ⟨some 26, .load 40 (.tmp 25), 40, "l08_graph.go:75", #[⟨10, .data⟩, ⟨6, .guard⟩], some (6, true)⟩
abbrev qfc4_81_6_12 : Oper := ⟨some 27, .load 40 (.tmp 4), 40, "l08_graph.go:75", #[⟨6, .guard⟩], some (6, true)⟩
abbrev qfc4_81_6_13 : Oper := ⟨some 28, .call { callee := .value (.func 27), args := #[.tmp 26, .tmp 27], argTypes := #[40, 40] }, 4, "l08_graph.go:75", #[⟨11, .data⟩, ⟨12, .data⟩, ⟨6, .chain⟩, ⟨6, .guard⟩], some (6, true)⟩
abbrev qfc4_81_6_14 : Oper := ⟨some 29, .unOp .not 4 (.tmp 28), 4, "l08_graph.go:75", #[⟨13, .data⟩, ⟨6, .guard⟩], some (6, true)⟩
abbrev qfc4_81_6_15 : Oper := ⟨some 30, .pick (.tmp 21) (.tmp 29) (.const (.bool false)), 4, "l08_graph.go:75", #[⟨6, .data⟩, ⟨14, .data⟩, ⟨3, .guard⟩], some (3, false)⟩
abbrev qfc4_81_6_16 : Oper := ⟨some 31, .pick (.tmp 18) (.const (.bool true)) (.tmp 30), 4, "l08_graph.go:75", #[⟨3, .data⟩, ⟨15, .data⟩], none⟩
abbrev qfc4_28_6_0 : Oper := ⟨some 17, .load 52 (.tmp 4), 52, "l08_graph.go:59", #[], none⟩
abbrev qfc4_28_6_1 : Oper := ⟨some 18, .call { callee := .value (.func 57), args := #[.tmp 17], argTypes := #[52] }, 4, "l08_graph.go:59", #[⟨0, .data⟩], none⟩
abbrev qfc4_28_6_2 : Oper := ⟨some 19, .unOp .not 4 (.tmp 18), 4, "l08_graph.go:59", #[⟨1, .data⟩], none⟩
abbrev qfc4_28_6_3 : Oper := ⟨some 20, .move (.tmp 19), 4, "l08_graph.go:59", #[⟨2, .data⟩, ⟨1, .chain⟩], none⟩
abbrev qfc4_28_6_4 : Oper := ⟨some 21, .move (.tmp 3), 3, "l08_graph.go:59", #[⟨3, .guard⟩], some (3, false)⟩
abbrev qfc4_28_6_5 : Oper := ⟨some 22, .binOp .gtr 3 (.tmp 21) (.const (.int .i64 0)) 3, 4, "l08_graph.go:59", #[⟨4, .data⟩, ⟨3, .guard⟩], some (3, false)⟩
abbrev qfc4_28_6_6 : Oper := ⟨some 23, .move (.tmp 22), 4, "l08_graph.go:59", #[⟨5, .data⟩, ⟨3, .chain⟩, ⟨3, .guard⟩], some (3, false)⟩
abbrev qfc4_28_6_7 : Oper := ⟨some 24, .fieldAddr 30 (.tmp 1) 0, 0, "l08_graph.go:59", #[⟨6, .guard⟩], some (6, true)⟩
abbrev qfc4_28_6_8 : Oper := ⟨some 25, .load 28 (.tmp 24), 28, "l08_graph.go:59", #[⟨7, .data⟩, ⟨6, .guard⟩], some (6, true)⟩
abbrev qfc4_28_6_9 : Oper := ⟨some 26, .move (.tmp 3), 3, "l08_graph.go:59", #[⟨6, .guard⟩], some (6, true)⟩
abbrev qfc4_28_6_10 : Oper := ⟨some 27, .binOp .sub 3 (.tmp 26) (.const (.int .i64 1)) 3, 3, "l08_graph.go:59", #[⟨9, .data⟩, ⟨6, .guard⟩], some (6, true)⟩
abbrev qfc4_28_6_11 : Oper := ⟨some 28, .indexAddr 28 (.tmp 25) (.tmp 27), 0, "l08_graph.go:59", #[⟨8, .data⟩, ⟨10, .data⟩, ⟨6, .guard⟩], some (6, true)⟩
abbrev qfc4_28_6_12 : Oper := ⟨some 29, .fieldAddr 52 (.tmp 28) 0, 0, "l08_graph.go:59", #[⟨11, .data⟩, ⟨6, .guard⟩], some (6, true)⟩
abbrev qfc4_28_6_13 : Oper := ⟨some 30, .load 40 (.tmp 29), 40, "l08_graph.go:59", #[⟨12, .data⟩, ⟨6, .guard⟩], some (6, true)⟩
abbrev qfc4_28_6_14 : Oper := ⟨some 31, .fieldAddr 52 (.tmp 4) 0, 0, "l08_graph.go:59", #[⟨6, .guard⟩], some (6, true)⟩
abbrev qfc4_28_6_15 : Oper := ⟨some 32, .load 40 (.tmp 31), 40, "l08_graph.go:59", #[⟨14, .data⟩, ⟨6, .guard⟩], some (6, true)⟩
abbrev qfc4_28_6_16 : Oper := ⟨some 33, .call { callee := .value (.func 27), args := #[.tmp 30, .tmp 32], argTypes := #[40, 40] }, 4, "l08_graph.go:59", #[⟨13, .data⟩, ⟨15, .data⟩, ⟨6, .chain⟩, ⟨6, .guard⟩], some (6, true)⟩
abbrev qfc4_28_6_17 : Oper := ⟨some 34, .unOp .not 4 (.tmp 33), 4, "l08_graph.go:59", #[⟨16, .data⟩, ⟨6, .guard⟩], some (6, true)⟩
abbrev qfc4_28_6_18 : Oper := ⟨some 35, .pick (.tmp 23) (.tmp 34) (.const (.bool false)), 4, "l08_graph.go:59", #[⟨6, .data⟩, ⟨17, .data⟩, ⟨3, .guard⟩], some (3, false)⟩
abbrev qfc4_28_6_19 : Oper := ⟨some 36, .pick (.tmp 20) (.const (.bool true)) (.tmp 35), 4, "l08_graph.go:59", #[⟨3, .data⟩, ⟨18, .data⟩], none⟩

set_option maxHeartbeats 4000000 in
theorem depsOk_any (a : Option Addr) (n cap : Nat) (l : List MDot) (w : World) (hx : l.length = n) (hn : n ≤ 1048576) (hr : LeafL 2 rDot w.heap.size w a cap l) :
    Calls Tryd.prog 81 #[.slice a n cap] w fun e w' => e = .returned (.bool (depsP l)) ∧ Below w.heap.size w w' := by
  have HX := Hid.mk hx
  have HL := Hid.mk hr
  have HV : Hid (depsP l = (decide (n ≤ 60) && upOk dotOkP dotLt l)) := by unfold Hid; rw [← hx]; rfl
  clear hx hr
  go_enter Tryd.func81, Tryd.ntmps81
  by_cases h60 : n ≤ 60
  rotate_left
  · have HV2 : Hid (depsP l = false) := by unfold Hid; rw [HV.out, decide_eq_false h60, Bool.false_and]
    have hgt : (60 : Int) < (n : Int) := by omega
    go_wp2_with fail
    go_ret
    exact ⟨by rw [HV2.out]; rfl, Below.refl _ _⟩
  have hle : ¬ (60 : Int) < (n : Int) := by omega
  have HUF : Hid (upOk dotOkP dotLt l = false → depsP l = false) := fun h => by rw [HV.out, h, Bool.and_false]
  have HUT : Hid (upOk dotOkP dotLt l = true → depsP l = true) := fun h => by rw [HV.out, h, decide_eq_true h60]; rfl
  clear HV
  obtain ⟨wq, hwq⟩ : ∃ wq, wq = w := ⟨_, rfl⟩
  have hbq : Below w.heap.size w wq := by rw [hwq]; exact Below.refl _ _
  go_wp2_with fail
  rw [← hwq]
  clear hwq
  go_loopw [10] (fun i wr => ∃ k : Nat, k ≤ n ∧ i = .int .i64 k ∧ Hid (∀ j, j < k → stepOk dotOkP dotLt l j = true) ∧ Below wq.heap.size wq wr) (fun i _ => n - (intOf i).toNat)
  case atStart => exact ⟨0, Nat.zero_le _, rfl, Hid.mk (fun j h => absurd h (Nat.not_lt_zero j)), Below.refl _ _⟩
  case round =>
    obtain ⟨k, hk, rfl, HI, hbk⟩ := hrel
    have hbw := bthen hbq hbk
    have hbz := hbw.size
    by_cases hlt : k < n
    · have hkl : k < l.length := by rw [HX.out]; exact hlt
      obtain ⟨b1, o1, rfl, hB, cs, hcl, hcell, rfl, g0, g1, _⟩ := (HL.out.2.2.below rDot_good hbw) k hkl
      have hB' : b1 < wr.heap.size := by omega
      have k0 := hcell 0 _ rfl
      have k1 := hcell 1 _ rfl
      rw [Nat.add_zero] at k0
      have HB1 : Hid (dotOkP l[k] = false → upOk dotOkP dotLt l = false) := fun h => upOk_no hkl (stepOk_bad hkl h)
      have HB2 : Hid (stepOk dotOkP dotLt l k = false → upOk dotOkP dotLt l = false) := fun h => upOk_no hkl h
      have HG : Hid (stepOk dotOkP dotLt l k = true → ∀ j, j < k + 1 → stepOk dotOkP dotLt l j = true) := fun h => all_next HI.out h
      clear hcell hcl
      obtain ⟨wp, hwp⟩ : ∃ wp, wp = wr.alloc (.cells #[.int .i64 l[k].fR, .int .i64 l[k].fN] 40) := ⟨_, rfl⟩
      have hbp : Below wr.heap.size wr wp := by rw [hwp]; exact (Below.refl _ _).alloc (Nat.le_refl _) _
      have hbp2 : Bx wp wr.heap.size [.int .i64 l[k].fR, .int .i64 l[k].fN] := by rw [hwp]; exact Bx.new _ _ _
      have p0 : ∀ W, Below wp.heap.size wp W → W.cell? ⟨wr.heap.size, 0, none⟩ = some (.int .i64 l[k].fR) := fun W hb => (hbp2.under hb).2 0 _ rfl
      have p1 : ∀ W, Below wp.heap.size wp W → W.cell? ⟨wr.heap.size, 1, none⟩ = some (.int .i64 l[k].fN) := fun W hb => (hbp2.under hb).2 1 _ rfl
      have hbwp := bthen hbk hbp
      have hbww := bthen hbq hbwp
      have e0 : ∀ W, Below wp.heap.size wp W → W.cell? ⟨b1, o1 + k * 2, none⟩ = some (.int .i64 l[k].fR) := fun W hb => ((bthen hbp hb).cell (p := ⟨b1, o1 + k * 2, none⟩) hB').trans k0
      have e1 : ∀ W, Below wp.heap.size wp W → W.cell? ⟨b1, o1 + k * 2 + 1, none⟩ = some (.int .i64 l[k].fN) := fun W hb => ((bthen hbp hb).cell (p := ⟨b1, o1 + k * 2 + 1, none⟩) hB').trans k1
      have hCp := fun W (hb : Below wp.heap.size wp W) => implDotOk_any [.int .i64 l[k].fR, .int .i64 l[k].fN] l[k] W ⟨rfl, g0, g1, trivial⟩
      have hk1 : (0 : Int) ≤ (k : Int) := by omega
      have hk2 : (k : Int) < (n : Int) := by omega
      by_cases hP : dotOkP l[k] = true
      · simp only [hP] at hCp
        by_cases h0 : k = 0
        · subst h0
          simp only [Nat.zero_mul, Nat.add_zero] at k0 k1 e0 e1
          have HD : Hid (∀ j, j < 0 + 1 → stepOk dotOkP dotLt l j = true) := HG.out (stepOk_zero hkl hP)
          clear HB1 HB2 HG HI hP
          generalize l[0] = x at *
          go_wp2_with fail
          rw [← hwp]
          clear hwp
          refine wp_region_held_drew (S := fun W => Below wp.heap.size wp W) (by kernel_rfl) (Below.drew (Below.refl _ _)) (fun hHeld => ?_)
          refine tk 0 qfc4_81_6_0 (some 15) (v := ?v1) rfl rfl (by kernel_rfl) hHeld (by rfl) (fun _ _ _ x => x) (fun w h => ?y1) ?_; (case y1 => (try dsimp only at h); go_simp; try (with_reducible rfl)); try simp only [Act.put, sa, s0, s1]
          refine wpAnyH_ready (rs := [1]) (by kernel_rfl) (by simp) ?_
          refine AllReadyH.cons (o := qfc4_81_6_1) rfl (fun K hK => ?_) AllReadyH.nil
          go_simp
          refine Calls.mono (hCp _ hHeld) ?_
          rintro e w1 ⟨rfl, hx1⟩
          go_wp2_with fail
          refine hK.out _ _ (bthen hHeld hx1) (fun hHeld => ?_)
          clear hK K
          try simp only [Act.put, sa, s0, s1]
          refine tk 2 qfc4_81_6_2 (some 17) (v := ?v2) rfl rfl (by kernel_rfl) hHeld (by rfl) (fun _ _ _ x => x) (fun w h => ?y2) ?_; (case y2 => (try dsimp only at h); go_simp; try (with_reducible rfl)); try simp only [Act.put, sa, s0, s1]
          refine tk 3 qfc4_81_6_3 (some 18) (v := ?v3) rfl rfl (by kernel_rfl) hHeld (by rfl) (fun _ _ _ x => x) (fun w h => ?y3) ?_; (case y3 => (try dsimp only at h); go_simp; try (with_reducible rfl)); try simp only [Act.put, sa, s0, s1]
          refine tk 4 qfc4_81_6_4 (some 19) (v := ?v4) rfl rfl (by kernel_rfl) hHeld (by rfl) (fun _ _ _ x => x) (fun w h => ?y4) ?_; (case y4 => (try dsimp only at h); go_simp; try (with_reducible rfl)); try simp only [Act.put, sa, s0, s1]
          refine tk 5 qfc4_81_6_5 (some 20) (v := ?v5) rfl rfl (by kernel_rfl) hHeld (by rfl) (fun _ _ _ x => x) (fun w h => ?y5) ?_; (case y5 => (try dsimp only at h); go_simp; try (with_reducible rfl)); try simp only [Act.put, sa, s0, s1]
          refine tk 6 qfc4_81_6_6 (some 21) (v := ?v6) rfl rfl (by kernel_rfl) hHeld (by rfl) (fun _ _ _ x => x) (fun w h => ?y6) ?_; (case y6 => (try dsimp only at h); go_simp; try (with_reducible rfl)); try simp only [Act.put, sa, s0, s1]
          refine tn 7 qfc4_81_6_7 (some 22) rfl rfl (by kernel_rfl) hHeld (by rfl) (fun _ _ _ x => x) ?_; try simp only [Act.put, sa, s0, s1]
          refine tn 8 qfc4_81_6_8 (some 23) rfl rfl (by kernel_rfl) hHeld (by rfl) (fun _ _ _ x => x) ?_; try simp only [Act.put, sa, s0, s1]
          refine tn 9 qfc4_81_6_9 (some 24) rfl rfl (by kernel_rfl) hHeld (by rfl) (fun _ _ _ x => x) ?_; try simp only [Act.put, sa, s0, s1]
          refine tn 10 qfc4_81_6_10 (some 25) rfl rfl (by kernel_rfl) hHeld (by rfl) (fun _ _ _ x => x) ?_; try simp only [Act.put, sa, s0, s1]
          refine tn 11 qfc4_81_6_11 (some 26) rfl rfl (by kernel_rfl) hHeld (by rfl) (fun _ _ _ x => x) ?_; try simp only [Act.put, sa, s0, s1]
          refine tn 12 qfc4_81_6_12 (some 27) rfl rfl (by kernel_rfl) hHeld (by rfl) (fun _ _ _ x => x) ?_; try simp only [Act.put, sa, s0, s1]
          refine tn 13 qfc4_81_6_13 (some 28) rfl rfl (by kernel_rfl) hHeld (by rfl) (fun _ _ _ x => x) ?_; try simp only [Act.put, sa, s0, s1]
          refine tn 14 qfc4_81_6_14 (some 29) rfl rfl (by kernel_rfl) hHeld (by rfl) (fun _ _ _ x => x) ?_; try simp only [Act.put, sa, s0, s1]
          refine tk 15 qfc4_81_6_15 (some 30) (v := ?v15) rfl rfl (by kernel_rfl) hHeld (by rfl) (fun _ _ _ x => x) (fun w h => ?y15) ?_; (case y15 => (try dsimp only at h); go_simp; try (with_reducible rfl)); try simp only [Act.put, sa, s0, s1]
          refine tk 16 qfc4_81_6_16 (some 31) (v := ?v16) rfl rfl (by kernel_rfl) hHeld (by rfl) (fun _ _ _ x => x) (fun w h => ?y16) ?_; (case y16 => (try dsimp only at h); go_simp; try (with_reducible rfl)); try simp only [Act.put, sa, s0, s1]
          refine wpAnyH_done (by kernel_rfl) ?_ _
          go_wp2_with fail
          go_roundw
          case rel => exact ⟨1, by omega, by go_num, HD, bthen hbwp hHeld⟩
          case measure => simp [intOf]; omega
        · obtain ⟨j, rfl⟩ : ∃ j, k = j + 1 := ⟨k - 1, by omega⟩
          have hjl : j < l.length := by omega
          obtain ⟨b1', o1', he1, _, cs', hcl', hcell', rfl, g0', g1', _⟩ := (HL.out.2.2.below rDot_good hbw) j hjl
          simp only [Option.some.injEq, Addr.mk.injEq, and_true] at he1
          obtain ⟨rfl, rfl⟩ := he1
          have j0 := hcell' 0 _ rfl
          have j1 := hcell' 1 _ rfl
          rw [Nat.add_zero] at j0
          have q0 : ∀ W, Below wp.heap.size wp W → W.cell? ⟨b1, o1 + j * 2, none⟩ = some (.int .i64 l[j].fR) := fun W hb => ((bthen hbp hb).cell (p := ⟨b1, o1 + j * 2, none⟩) hB').trans j0
          have q1 : ∀ W, Below wp.heap.size wp W → W.cell? ⟨b1, o1 + j * 2 + 1, none⟩ = some (.int .i64 l[j].fN) := fun W hb => ((bthen hbp hb).cell (p := ⟨b1, o1 + j * 2 + 1, none⟩) hB').trans j1
          have HPK : Hid (stepOk dotOkP dotLt l (j + 1) = dotLt l[j] l[j + 1]) := stepOk_succ hjl hkl hP
          have hCk := fun W (hb : Below wp.heap.size wp W) => implDotLess_any [.int .i64 l[j].fR, .int .i64 l[j].fN] [.int .i64 l[j + 1].fR, .int .i64 l[j + 1].fN] l[j] l[j + 1] W ⟨rfl, g0', g1', trivial⟩ ⟨rfl, g0, g1, trivial⟩
          have hj1 : (0 : Int) ≤ (j : Int) := by omega
          have hj2 : (j : Int) < (n : Int) := by omega
          have hj3 : (0 : Int) ≤ (j : Int) + 1 := by omega
          have hj4 : (j : Int) + 1 < (n : Int) := by omega
          have hwr : IntKind.i64.wrap (j : Int) = (j : Int) := by rw [IntKind.wrap_i64]; omega
          clear hcell' hcl' j0 j1
          by_cases hK : dotLt l[j] l[j + 1] = true
          · simp only [hK] at hCk
            have HD : Hid (∀ i, i < j + 1 + 1 → stepOk dotOkP dotLt l i = true) := HG.out (by rw [HPK.out]; exact hK)
            clear HB1 HB2 HG HI HPK hP hK
            generalize l[j + 1] = x at *
            generalize l[j] = y at *
            go_wp2_with fail
            rw [← hwp]
            clear hwp
            refine wp_region_held_drew (S := fun W => Below wp.heap.size wp W) (by kernel_rfl) (Below.drew (Below.refl _ _)) (fun hHeld => ?_)
            refine tk 0 qfc4_81_6_0 (some 15) (v := ?v17) rfl rfl (by kernel_rfl) hHeld (by rfl) (fun _ _ _ x => x) (fun w h => ?y17) ?_; (case y17 => (try dsimp only at h); go_simp; try (with_reducible rfl)); try simp only [Act.put, sa, s0, s1]
            refine wpAnyH_ready (rs := [1]) (by kernel_rfl) (by simp) ?_
            refine AllReadyH.cons (o := qfc4_81_6_1) rfl (fun K hK => ?_) AllReadyH.nil
            go_simp
            refine Calls.mono (hCp _ hHeld) ?_
            rintro e w1 ⟨rfl, hx1⟩
            go_wp2_with fail
            refine hK.out _ _ (bthen hHeld hx1) (fun hHeld => ?_)
            clear hK K
            try simp only [Act.put, sa, s0, s1]
            refine tk 2 qfc4_81_6_2 (some 17) (v := ?v18) rfl rfl (by kernel_rfl) hHeld (by rfl) (fun _ _ _ x => x) (fun w h => ?y18) ?_; (case y18 => (try dsimp only at h); go_simp; try (with_reducible rfl)); try simp only [Act.put, sa, s0, s1]
            refine tk 3 qfc4_81_6_3 (some 18) (v := ?v19) rfl rfl (by kernel_rfl) hHeld (by rfl) (fun _ _ _ x => x) (fun w h => ?y19) ?_; (case y19 => (try dsimp only at h); go_simp; try (with_reducible rfl)); try simp only [Act.put, sa, s0, s1]
            refine tk 4 qfc4_81_6_4 (some 19) (v := ?v20) rfl rfl (by kernel_rfl) hHeld (by rfl) (fun _ _ _ x => x) (fun w h => ?y20) ?_; (case y20 => (try dsimp only at h); go_simp; try (with_reducible rfl)); try simp only [Act.put, sa, s0, s1]
            refine tk 5 qfc4_81_6_5 (some 20) (v := ?v21) rfl rfl (by kernel_rfl) hHeld (by rfl) (fun _ _ _ x => x) (fun w h => ?y21) ?_; (case y21 => (try dsimp only at h); go_simp; try (with_reducible rfl)); try simp only [Act.put, sa, s0, s1]
            refine tk 6 qfc4_81_6_6 (some 21) (v := ?v22) rfl rfl (by kernel_rfl) hHeld (by rfl) (fun _ _ _ x => x) (fun w h => ?y22) ?_; (case y22 => (try dsimp only at h); go_simp; try (with_reducible rfl)); try simp only [Act.put, sa, s0, s1]
            refine tk 7 qfc4_81_6_7 (some 22) (v := ?v23) rfl rfl (by kernel_rfl) hHeld (by rfl) (fun _ _ _ x => x) (fun w h => ?y23) ?_; (case y23 => (try dsimp only at h); go_simp; try (with_reducible rfl)); try simp only [Act.put, sa, s0, s1]
            refine tk 8 qfc4_81_6_8 (some 23) (v := ?v24) rfl rfl (by kernel_rfl) hHeld (by rfl) (fun _ _ _ x => x) (fun w h => ?y24) ?_; (case y24 => (try dsimp only at h); go_simp; try (with_reducible rfl)); try simp only [Act.put, sa, s0, s1]
            refine tk 9 qfc4_81_6_9 (some 24) (v := ?v25) rfl rfl (by kernel_rfl) hHeld (by rfl) (fun _ _ _ x => x) (fun w h => ?y25) ?_; (case y25 => (try dsimp only at h); go_simp; try (with_reducible rfl)); try simp only [Act.put, sa, s0, s1]
            refine tk 10 qfc4_81_6_10 (some 25) (v := ?v26) rfl rfl (by kernel_rfl) hHeld (by rfl) (fun _ _ _ x => x) (fun w h => ?y26) ?_; (case y26 => (try dsimp only at h); go_simp; try (with_reducible rfl)); try simp only [Act.put, sa, s0, s1]
            refine tk 11 qfc4_81_6_11 (some 26) (v := ?v27) rfl rfl (by kernel_rfl) hHeld (by rfl) (fun _ _ _ x => x) (fun w h => ?y27) ?_; (case y27 => (try dsimp only at h); go_simp; try (with_reducible rfl)); try simp only [Act.put, sa, s0, s1]
            refine tk 12 qfc4_81_6_12 (some 27) (v := ?v28) rfl rfl (by kernel_rfl) hHeld (by rfl) (fun _ _ _ x => x) (fun w h => ?y28) ?_; (case y28 => (try dsimp only at h); go_simp; try (with_reducible rfl)); try simp only [Act.put, sa, s0, s1]
            refine wpAnyH_ready (rs := [13]) (by kernel_rfl) (by simp) ?_
            refine AllReadyH.cons (o := qfc4_81_6_13) rfl (fun K hK => ?_) AllReadyH.nil
            go_simp
            refine Calls.mono (hCk _ hHeld) ?_
            rintro e w2 ⟨rfl, hx2⟩
            go_wp2_with fail
            refine hK.out _ _ (bthen hHeld hx2) (fun hHeld => ?_)
            clear hK K
            try simp only [Act.put, sa, s0, s1]
            refine tk 14 qfc4_81_6_14 (some 29) (v := ?v29) rfl rfl (by kernel_rfl) hHeld (by rfl) (fun _ _ _ x => x) (fun w h => ?y29) ?_; (case y29 => (try dsimp only at h); go_simp; try (with_reducible rfl)); try simp only [Act.put, sa, s0, s1]
            refine tk 15 qfc4_81_6_15 (some 30) (v := ?v30) rfl rfl (by kernel_rfl) hHeld (by rfl) (fun _ _ _ x => x) (fun w h => ?y30) ?_; (case y30 => (try dsimp only at h); go_simp; try (with_reducible rfl)); try simp only [Act.put, sa, s0, s1]
            refine tk 16 qfc4_81_6_16 (some 31) (v := ?v31) rfl rfl (by kernel_rfl) hHeld (by rfl) (fun _ _ _ x => x) (fun w h => ?y31) ?_; (case y31 => (try dsimp only at h); go_simp; try (with_reducible rfl)); try simp only [Act.put, sa, s0, s1]
            refine wpAnyH_done (by kernel_rfl) ?_ _
            go_wp2_with fail
            go_roundw
            case rel => exact ⟨j + 1 + 1, by omega, by go_num, HD, bthen hbwp hHeld⟩
            case measure => simp [intOf]; omega
          · have hK2 : dotLt l[j] l[j + 1] = false := Bool.eq_false_iff.2 hK
            simp only [hK2] at hCk
            have HD : Hid (upOk dotOkP dotLt l = false) := HB2.out (by rw [HPK.out]; exact hK2)
            replace HD := Hid.mk ((HUF.out HD.out))
            clear HB1 HB2 HG HI HPK hP hK hK2
            generalize l[j + 1] = x at *
            generalize l[j] = y at *
            go_wp2_with fail
            rw [← hwp]
            clear hwp
            refine wp_region_held_drew (S := fun W => Below wp.heap.size wp W) (by kernel_rfl) (Below.drew (Below.refl _ _)) (fun hHeld => ?_)
            refine tk 0 qfc4_81_6_0 (some 15) (v := ?v32) rfl rfl (by kernel_rfl) hHeld (by rfl) (fun _ _ _ x => x) (fun w h => ?y32) ?_; (case y32 => (try dsimp only at h); go_simp; try (with_reducible rfl)); try simp only [Act.put, sa, s0, s1]
            refine wpAnyH_ready (rs := [1]) (by kernel_rfl) (by simp) ?_
            refine AllReadyH.cons (o := qfc4_81_6_1) rfl (fun K hK => ?_) AllReadyH.nil
            go_simp
            refine Calls.mono (hCp _ hHeld) ?_
            rintro e w1 ⟨rfl, hx1⟩
            go_wp2_with fail
            refine hK.out _ _ (bthen hHeld hx1) (fun hHeld => ?_)
            clear hK K
            try simp only [Act.put, sa, s0, s1]
            refine tk 2 qfc4_81_6_2 (some 17) (v := ?v33) rfl rfl (by kernel_rfl) hHeld (by rfl) (fun _ _ _ x => x) (fun w h => ?y33) ?_; (case y33 => (try dsimp only at h); go_simp; try (with_reducible rfl)); try simp only [Act.put, sa, s0, s1]
            refine tk 3 qfc4_81_6_3 (some 18) (v := ?v34) rfl rfl (by kernel_rfl) hHeld (by rfl) (fun _ _ _ x => x) (fun w h => ?y34) ?_; (case y34 => (try dsimp only at h); go_simp; try (with_reducible rfl)); try simp only [Act.put, sa, s0, s1]
            refine tk 4 qfc4_81_6_4 (some 19) (v := ?v35) rfl rfl (by kernel_rfl) hHeld (by rfl) (fun _ _ _ x => x) (fun w h => ?y35) ?_; (case y35 => (try dsimp only at h); go_simp; try (with_reducible rfl)); try simp only [Act.put, sa, s0, s1]
            refine tk 5 qfc4_81_6_5 (some 20) (v := ?v36) rfl rfl (by kernel_rfl) hHeld (by rfl) (fun _ _ _ x => x) (fun w h => ?y36) ?_; (case y36 => (try dsimp only at h); go_simp; try (with_reducible rfl)); try simp only [Act.put, sa, s0, s1]
            refine tk 6 qfc4_81_6_6 (some 21) (v := ?v37) rfl rfl (by kernel_rfl) hHeld (by rfl) (fun _ _ _ x => x) (fun w h => ?y37) ?_; (case y37 => (try dsimp only at h); go_simp; try (with_reducible rfl)); try simp only [Act.put, sa, s0, s1]
            refine tk 7 qfc4_81_6_7 (some 22) (v := ?v38) rfl rfl (by kernel_rfl) hHeld (by rfl) (fun _ _ _ x => x) (fun w h => ?y38) ?_; (case y38 => (try dsimp only at h); go_simp; try (with_reducible rfl)); try simp only [Act.put, sa, s0, s1]
            refine tk 8 qfc4_81_6_8 (some 23) (v := ?v39) rfl rfl (by kernel_rfl) hHeld (by rfl) (fun _ _ _ x => x) (fun w h => ?y39) ?_; (case y39 => (try dsimp only at h); go_simp; try (with_reducible rfl)); try simp only [Act.put, sa, s0, s1]
            refine tk 9 qfc4_81_6_9 (some 24) (v := ?v40) rfl rfl (by kernel_rfl) hHeld (by rfl) (fun _ _ _ x => x) (fun w h => ?y40) ?_; (case y40 => (try dsimp only at h); go_simp; try (with_reducible rfl)); try simp only [Act.put, sa, s0, s1]
            refine tk 10 qfc4_81_6_10 (some 25) (v := ?v41) rfl rfl (by kernel_rfl) hHeld (by rfl) (fun _ _ _ x => x) (fun w h => ?y41) ?_; (case y41 => (try dsimp only at h); go_simp; try (with_reducible rfl)); try simp only [Act.put, sa, s0, s1]
            refine tk 11 qfc4_81_6_11 (some 26) (v := ?v42) rfl rfl (by kernel_rfl) hHeld (by rfl) (fun _ _ _ x => x) (fun w h => ?y42) ?_; (case y42 => (try dsimp only at h); go_simp; try (with_reducible rfl)); try simp only [Act.put, sa, s0, s1]
            refine tk 12 qfc4_81_6_12 (some 27) (v := ?v43) rfl rfl (by kernel_rfl) hHeld (by rfl) (fun _ _ _ x => x) (fun w h => ?y43) ?_; (case y43 => (try dsimp only at h); go_simp; try (with_reducible rfl)); try simp only [Act.put, sa, s0, s1]
            refine wpAnyH_ready (rs := [13]) (by kernel_rfl) (by simp) ?_
            refine AllReadyH.cons (o := qfc4_81_6_13) rfl (fun K hK => ?_) AllReadyH.nil
            go_simp
            refine Calls.mono (hCk _ hHeld) ?_
            rintro e w2 ⟨rfl, hx2⟩
            go_wp2_with fail
            refine hK.out _ _ (bthen hHeld hx2) (fun hHeld => ?_)
            clear hK K
            try simp only [Act.put, sa, s0, s1]
            refine tk 14 qfc4_81_6_14 (some 29) (v := ?v44) rfl rfl (by kernel_rfl) hHeld (by rfl) (fun _ _ _ x => x) (fun w h => ?y44) ?_; (case y44 => (try dsimp only at h); go_simp; try (with_reducible rfl)); try simp only [Act.put, sa, s0, s1]
            refine tk 15 qfc4_81_6_15 (some 30) (v := ?v45) rfl rfl (by kernel_rfl) hHeld (by rfl) (fun _ _ _ x => x) (fun w h => ?y45) ?_; (case y45 => (try dsimp only at h); go_simp; try (with_reducible rfl)); try simp only [Act.put, sa, s0, s1]
            refine tk 16 qfc4_81_6_16 (some 31) (v := ?v46) rfl rfl (by kernel_rfl) hHeld (by rfl) (fun _ _ _ x => x) (fun w h => ?y46) ?_; (case y46 => (try dsimp only at h); go_simp; try (with_reducible rfl)); try simp only [Act.put, sa, s0, s1]
            refine wpAnyH_done (by kernel_rfl) ?_ _
            go_wp2_with fail
            go_ret
            exact ⟨by rw [HD.out]; rfl, bthen hbww hHeld⟩
      · have hP2 : dotOkP l[k] = false := Bool.eq_false_iff.2 hP
        have HD := Hid.mk (HUF.out (HB1.out hP2))
        simp only [hP2] at hCp
        clear HB1 HB2 HG HI hP hP2
        generalize l[k] = x at *
        go_wp2_with fail
        rw [← hwp]
        clear hwp
        refine wp_region_held_drew (S := fun W => Below wp.heap.size wp W) (by kernel_rfl) (Below.drew (Below.refl _ _)) (fun hHeld => ?_)
        refine tk 0 qfc4_81_6_0 (some 15) (v := ?v47) rfl rfl (by kernel_rfl) hHeld (by rfl) (fun _ _ _ x => x) (fun w h => ?y47) ?_; (case y47 => (try dsimp only at h); go_simp; try (with_reducible rfl)); try simp only [Act.put, sa, s0, s1]
        refine wpAnyH_ready (rs := [1]) (by kernel_rfl) (by simp) ?_
        refine AllReadyH.cons (o := qfc4_81_6_1) rfl (fun K hK => ?_) AllReadyH.nil
        go_simp
        refine Calls.mono (hCp _ hHeld) ?_
        rintro e w1 ⟨rfl, hx1⟩
        go_wp2_with fail
        refine hK.out _ _ (bthen hHeld hx1) (fun hHeld => ?_)
        clear hK K
        try simp only [Act.put, sa, s0, s1]
        refine tk 2 qfc4_81_6_2 (some 17) (v := ?v48) rfl rfl (by kernel_rfl) hHeld (by rfl) (fun _ _ _ x => x) (fun w h => ?y48) ?_; (case y48 => (try dsimp only at h); go_simp; try (with_reducible rfl)); try simp only [Act.put, sa, s0, s1]
        refine tk 3 qfc4_81_6_3 (some 18) (v := ?v49) rfl rfl (by kernel_rfl) hHeld (by rfl) (fun _ _ _ x => x) (fun w h => ?y49) ?_; (case y49 => (try dsimp only at h); go_simp; try (with_reducible rfl)); try simp only [Act.put, sa, s0, s1]
        refine tn 4 qfc4_81_6_4 (some 19) rfl rfl (by kernel_rfl) hHeld (by rfl) (fun _ _ _ x => x) ?_; try simp only [Act.put, sa, s0, s1]
        refine tn 5 qfc4_81_6_5 (some 20) rfl rfl (by kernel_rfl) hHeld (by rfl) (fun _ _ _ x => x) ?_; try simp only [Act.put, sa, s0, s1]
        refine tn 6 qfc4_81_6_6 (some 21) rfl rfl (by kernel_rfl) hHeld (by rfl) (fun _ _ _ x => x) ?_; try simp only [Act.put, sa, s0, s1]
        refine tn 7 qfc4_81_6_7 (some 22) rfl rfl (by kernel_rfl) hHeld (by rfl) (fun _ _ _ x => x) ?_; try simp only [Act.put, sa, s0, s1]
        refine tn 8 qfc4_81_6_8 (some 23) rfl rfl (by kernel_rfl) hHeld (by rfl) (fun _ _ _ x => x) ?_; try simp only [Act.put, sa, s0, s1]
        refine tn 9 qfc4_81_6_9 (some 24) rfl rfl (by kernel_rfl) hHeld (by rfl) (fun _ _ _ x => x) ?_; try simp only [Act.put, sa, s0, s1]
        refine tn 10 qfc4_81_6_10 (some 25) rfl rfl (by kernel_rfl) hHeld (by rfl) (fun _ _ _ x => x) ?_; try simp only [Act.put, sa, s0, s1]
        refine tn 11 qfc4_81_6_11 (some 26) rfl rfl (by kernel_rfl) hHeld (by rfl) (fun _ _ _ x => x) ?_; try simp only [Act.put, sa, s0, s1]
        refine tn 12 qfc4_81_6_12 (some 27) rfl rfl (by kernel_rfl) hHeld (by rfl) (fun _ _ _ x => x) ?_; try simp only [Act.put, sa, s0, s1]
        refine tn 13 qfc4_81_6_13 (some 28) rfl rfl (by kernel_rfl) hHeld (by rfl) (fun _ _ _ x => x) ?_; try simp only [Act.put, sa, s0, s1]
        refine tn 14 qfc4_81_6_14 (some 29) rfl rfl (by kernel_rfl) hHeld (by rfl) (fun _ _ _ x => x) ?_; try simp only [Act.put, sa, s0, s1]
        refine tn 15 qfc4_81_6_15 (some 30) rfl rfl (by kernel_rfl) hHeld (by rfl) (fun _ _ _ x => x) ?_; try simp only [Act.put, sa, s0, s1]
        refine tk 16 qfc4_81_6_16 (some 31) (v := ?v62) rfl rfl (by kernel_rfl) hHeld (by rfl) (fun _ _ _ x => x) (fun w h => ?y62) ?_; (case y62 => (try dsimp only at h); go_simp; try (with_reducible rfl)); try simp only [Act.put, sa, s0, s1]
        refine wpAnyH_done (by kernel_rfl) ?_ _
        go_wp2_with fail
        go_ret
        exact ⟨by rw [HD.out]; rfl, bthen hbww hHeld⟩
    · have HD := Hid.mk (HUT.out (upOk_yes (fun j hj => HI.out j (by have := HX.out; omega))))
      go_wp2_with fail
      go_ret
      exact ⟨by rw [HD.out]; rfl, hbw⟩

set_option maxHeartbeats 4000000 in
theorem itemOk_any (cs : List Value) (m : MItem) (w : World) (hr : rItem w.heap.size w cs m) (hw : m.fDeps.length ≤ 1048576) :
    Calls Tryd.prog 57 #[.agg cs.toArray] w fun e w' => e = .returned (.bool (itemP m)) ∧ Below w.heap.size w w' := by
  obtain ⟨a2, c2, rfl, g0, g1, g2, _⟩ := hr
  have HV : Hid (itemP m = (dotOkP m.fD && depsP m.fDeps && !hasD m.fDeps m.fD)) := rfl
  have HL := Hid.mk g2
  obtain ⟨n, hx⟩ : ∃ n, n = m.fDeps.length := ⟨_, rfl⟩
  rw [← hx] at hw ⊢
  have HX := Hid.mk hx.symm
  clear hx g2
  go_enter Tryd.func57, Tryd.ntmps57
  go_wp2_with fail
  obtain ⟨wq, hwq⟩ : ∃ wq, wq = w.alloc (.cells #[.int .i64 m.fD.fR, .int .i64 m.fD.fN, .slice a2 n c2] 52) := ⟨_, rfl⟩
  have hbq : Below w.heap.size w wq := by rw [hwq]; exact (Below.refl _ _).alloc (Nat.le_refl _) _
  have hbx : Bx wq w.heap.size [.int .i64 m.fD.fR, .int .i64 m.fD.fN, .slice a2 n c2] := by rw [hwq]; exact Bx.new _ _ _
  rw [← hwq]
  clear hwq
  refine (implDotOk_any [.int .i64 m.fD.fR, .int .i64 m.fD.fN] m.fD wq ⟨rfl, g0, g1, trivial⟩).mono ?_
  rintro e w1 ⟨rfl, hx1⟩
  have hb1 := bthen hbq hx1
  have hbx1 := hbx.under hx1
  have y0 := hbx1.2 0 _ rfl
  have y1 := hbx1.2 1 _ rfl
  have y2 := hbx1.2 2 _ rfl
  by_cases h1 : dotOkP m.fD = true
  rotate_left
  · have h1' : dotOkP m.fD = false := Bool.eq_false_iff.2 h1
    have HW : Hid (itemP m = false) := by unfold Hid; rw [HV.out, h1']; rfl
    rw [h1']
    clear h1 h1'
    go_wp2_with fail
    go_ret
    exact ⟨by rw [HW.out]; rfl, hb1⟩
  rw [h1]
  go_wp2_with fail
  refine (depsOk_any a2 n c2 m.fDeps w1 HX.out hw ((HL.out.below rDot_good hb1).mono rDot_good hb1.size)).mono ?_
  rintro e w2 ⟨rfl, hx2⟩
  have hb2 := bthen hb1 hx2
  have hbx2 := hbx1.under hx2
  clear y0 y1 y2
  have y0 := hbx2.2 0 _ rfl
  have y1 := hbx2.2 1 _ rfl
  have y2 := hbx2.2 2 _ rfl
  by_cases h2 : depsP m.fDeps = true
  rotate_left
  · have h2' : depsP m.fDeps = false := Bool.eq_false_iff.2 h2
    have HW : Hid (itemP m = false) := by unfold Hid; rw [HV.out, h2', Bool.and_false]; rfl
    rw [h2']
    clear h2 h2'
    go_wp2_with fail
    go_ret
    exact ⟨by rw [HW.out]; rfl, hb2⟩
  have HW : Hid (itemP m = !hasD m.fDeps m.fD) := by unfold Hid; rw [HV.out, h1, h2]; rfl
  rw [h2]
  clear h1 h2
  go_wp2_with fail
  refine (contD_any a2 n c2 m.fDeps [.int .i64 m.fD.fR, .int .i64 m.fD.fN] m.fD w2 HX.out hw ((HL.out.below rDot_good hb2).mono rDot_good hb2.size) ⟨rfl, g0, g1, trivial⟩).mono ?_
  rintro e w3 ⟨rfl, hx3⟩
  have hb3 := bthen hb2 hx3
  go_wp2_with fail
  go_ret
  exact ⟨by rw [HW.out]; rfl, hb3⟩

set_option maxHeartbeats 4000000 in
theorem implGraphOk_any (cs : List Value) (m : MGraph) (w : World) (hr : rGraph w.heap.size w cs m) (hw : wGraph m ≤ 1048576 * 4) (hwk : ∀ k, (h : k < m.fItems.length) → m.fItems[k].fDeps.length ≤ 1048576) :
    Calls Tryd.prog 28 #[.agg cs.toArray] w fun e w' => e = .returned (.bool (graphP m)) ∧ Below w.heap.size w w' := by
  obtain ⟨a, cap, rfl, hr, _⟩ := hr
  have hn : m.fItems.length ≤ 1048576 * 4 := by have h : m.fItems.length + sumW wItem m.fItems ≤ 1048576 * 4 := hw; omega
  have HV : Hid (graphP m = (decide (m.fItems.length ≤ 100) && upOk itemP itemLt m.fItems)) := rfl
  generalize graphP m = R at *
  obtain ⟨l, hl⟩ : ∃ l, l = m.fItems := ⟨_, rfl⟩
  have HWK : Hid (∀ k, (h : k < l.length) → l[k].fDeps.length ≤ 1048576) := by unfold Hid; rw [hl]; exact hwk
  rw [← hl] at hr hn HV ⊢
  clear hw hwk hl
  obtain ⟨n, hx⟩ : ∃ n, n = l.length := ⟨_, rfl⟩
  rw [← hx] at hn HV ⊢
  have HX := Hid.mk hx.symm
  have HL := Hid.mk hr
  clear hr hx
  go_enter Tryd.func28, Tryd.ntmps28
  obtain ⟨wq, hwq⟩ : ∃ wq, wq = w.alloc (.cells #[.slice a n cap] 30) := ⟨_, rfl⟩
  have hbq : Below w.heap.size w wq := by rw [hwq]; exact (Below.refl _ _).alloc (Nat.le_refl _) _
  have hbx : Bx wq w.heap.size [.slice a n cap] := by rw [hwq]; exact Bx.new _ _ _
  by_cases h60 : n ≤ 100
  rotate_left
  · have HV2 : Hid (R = false) := by unfold Hid; rw [HV.out, decide_eq_false h60, Bool.false_and]
    have hgt : (100 : Int) < (n : Int) := by omega
    go_wp2_with fail
    rw [← hwq]
    go_ret
    exact ⟨by rw [HV2.out]; rfl, hbq⟩
  have hle : ¬ (100 : Int) < (n : Int) := by omega
  have HUF : Hid (upOk itemP itemLt l = false → R = false) := fun h => by rw [HV.out, h, Bool.and_false]
  have HUT : Hid (upOk itemP itemLt l = true → R = true) := fun h => by rw [HV.out, h, decide_eq_true h60]; rfl
  clear HV
  go_wp2_with fail
  rw [← hwq]
  clear hwq
  go_loopw [12] (fun i wr => ∃ k : Nat, k ≤ n ∧ i = .int .i64 k ∧ Hid (∀ j, j < k → stepOk itemP itemLt l j = true) ∧ Below wq.heap.size wq wr) (fun i _ => n - (intOf i).toNat)
  case atStart => exact ⟨0, Nat.zero_le _, rfl, Hid.mk (fun j h => absurd h (Nat.not_lt_zero j)), Below.refl _ _⟩
  case round =>
    obtain ⟨k, hk, rfl, HI, hbk⟩ := hrel
    have hbw := bthen hbq hbk
    have hbz := hbw.size
    have v0 := (hbx.under hbk).2 0 _ rfl
    by_cases hlt : k < n
    · have hkl : k < l.length := by rw [HX.out]; exact hlt
      obtain ⟨b1, o1, rfl, hB, cs, hcl, hcell, a2, c2, rfl, g0, g1, g2, _⟩ := (HL.out.2.2.below rItem_good hbw) k hkl
      have hB' : b1 < wr.heap.size := by omega
      have k0 := hcell 0 _ rfl
      have k1 := hcell 1 _ rfl
      have k2 := hcell 2 _ rfl
      rw [Nat.add_zero] at k0
      have HB1 : Hid (itemP l[k] = false → upOk itemP itemLt l = false) := fun h => upOk_no hkl (stepOk_bad hkl h)
      have HB2 : Hid (stepOk itemP itemLt l k = false → upOk itemP itemLt l = false) := fun h => upOk_no hkl h
      have HG : Hid (stepOk itemP itemLt l k = true → ∀ j, j < k + 1 → stepOk itemP itemLt l j = true) := fun h => all_next HI.out h
      clear hcell hcl
      obtain ⟨wp, hwp⟩ : ∃ wp, wp = wr.alloc (.cells #[.int .i64 l[k].fD.fR, .int .i64 l[k].fD.fN, .slice a2 l[k].fDeps.length c2] 52) := ⟨_, rfl⟩
      have hbp : Below wr.heap.size wr wp := by rw [hwp]; exact (Below.refl _ _).alloc (Nat.le_refl _) _
      have hbp2 : Bx wp wr.heap.size [.int .i64 l[k].fD.fR, .int .i64 l[k].fD.fN, .slice a2 l[k].fDeps.length c2] := by rw [hwp]; exact Bx.new _ _ _
      have p0 : ∀ W, Below wp.heap.size wp W → W.cell? ⟨wr.heap.size, 0, none⟩ = some (.int .i64 l[k].fD.fR) := fun W hb => (hbp2.under hb).2 0 _ rfl
      have p1 : ∀ W, Below wp.heap.size wp W → W.cell? ⟨wr.heap.size, 1, none⟩ = some (.int .i64 l[k].fD.fN) := fun W hb => (hbp2.under hb).2 1 _ rfl
      have p2 : ∀ W, Below wp.heap.size wp W → W.cell? ⟨wr.heap.size, 2, none⟩ = some (.slice a2 l[k].fDeps.length c2) := fun W hb => (hbp2.under hb).2 2 _ rfl
      have hbwp := bthen hbk hbp
      have hbww := bthen hbq hbwp
      have e0 : ∀ W, Below wp.heap.size wp W → W.cell? ⟨b1, o1 + k * 3, none⟩ = some (.int .i64 l[k].fD.fR) := fun W hb => ((bthen hbp hb).cell (p := ⟨b1, o1 + k * 3, none⟩) hB').trans k0
      have e1 : ∀ W, Below wp.heap.size wp W → W.cell? ⟨b1, o1 + k * 3 + 1, none⟩ = some (.int .i64 l[k].fD.fN) := fun W hb => ((bthen hbp hb).cell (p := ⟨b1, o1 + k * 3 + 1, none⟩) hB').trans k1
      have e2 : ∀ W, Below wp.heap.size wp W → W.cell? ⟨b1, o1 + k * 3 + 2, none⟩ = some (.slice a2 l[k].fDeps.length c2) := fun W hb => ((bthen hbp hb).cell (p := ⟨b1, o1 + k * 3 + 2, none⟩) hB').trans k2
      have z0 : ∀ W, Below wp.heap.size wp W → W.cell? ⟨w.heap.size, 0, none⟩ = some (.slice (some ⟨b1, o1, none⟩) n cap) := fun W hb => ((hbx.under hbwp).under hb).2 0 _ rfl
      clear v0
      have v0 := (hbx.under hbk).2 0 _ rfl
      have hwk : l[k].fDeps.length ≤ 1048576 := HWK.out k hkl
      have HRk : Hid (∀ W, Below wp.heap.size wp W → rItem W.heap.size W [.int .i64 l[k].fD.fR, .int .i64 l[k].fD.fN, .slice a2 l[k].fDeps.length c2] l[k]) := fun W hb => rItem_good.mono (rItem_good.below ⟨a2, c2, rfl, g0, g1, g2, trivial⟩ ((bthen hbp hb).mono hbz)) (by have h1 := hb.size; have h2 := hbp.size; omega)
      have hCp := fun W (hb : Below wp.heap.size wp W) => itemOk_any [.int .i64 l[k].fD.fR, .int .i64 l[k].fD.fN, .slice a2 l[k].fDeps.length c2] l[k] W (HRk.out W hb) hwk
      have hk1 : (0 : Int) ≤ (k : Int) := by omega
      have hk2 : (k : Int) < (n : Int) := by omega
      by_cases hP : itemP l[k] = true
      · simp only [hP] at hCp
        by_cases h0 : k = 0
        · subst h0
          simp only [Nat.zero_mul, Nat.add_zero] at k0 k1 k2 e0 e1 e2
          have HD : Hid (∀ j, j < 0 + 1 → stepOk itemP itemLt l j = true) := HG.out (stepOk_zero hkl hP)
          clear HB1 HB2 HG HI hP
          clear HRk
          generalize l[0] = x at *
          go_wp2_with fail
          rw [← hwp]
          clear hwp
          refine wp_region_held_drew (S := fun W => Below wp.heap.size wp W) (by kernel_rfl) (Below.drew (Below.refl _ _)) (fun hHeld => ?_)
          refine tk 0 qfc4_28_6_0 (some 17) (v := ?v63) rfl rfl (by kernel_rfl) hHeld (by rfl) (fun _ _ _ x => x) (fun w h => ?y63) ?_; (case y63 => (try dsimp only at h); go_simp; try (with_reducible rfl)); try simp only [Act.put, sa, s0, s1]
          refine wpAnyH_ready (rs := [1]) (by kernel_rfl) (by simp) ?_
          refine AllReadyH.cons (o := qfc4_28_6_1) rfl (fun K hK => ?_) AllReadyH.nil
          go_simp
          refine Calls.mono (hCp _ hHeld) ?_
          rintro e w1 ⟨rfl, hx1⟩
          go_wp2_with fail
          refine hK.out _ _ (bthen hHeld hx1) (fun hHeld => ?_)
          clear hK K
          try simp only [Act.put, sa, s0, s1]
          refine tk 2 qfc4_28_6_2 (some 19) (v := ?v64) rfl rfl (by kernel_rfl) hHeld (by rfl) (fun _ _ _ x => x) (fun w h => ?y64) ?_; (case y64 => (try dsimp only at h); go_simp; try (with_reducible rfl)); try simp only [Act.put, sa, s0, s1]
          refine tk 3 qfc4_28_6_3 (some 20) (v := ?v65) rfl rfl (by kernel_rfl) hHeld (by rfl) (fun _ _ _ x => x) (fun w h => ?y65) ?_; (case y65 => (try dsimp only at h); go_simp; try (with_reducible rfl)); try simp only [Act.put, sa, s0, s1]
          refine tk 4 qfc4_28_6_4 (some 21) (v := ?v66) rfl rfl (by kernel_rfl) hHeld (by rfl) (fun _ _ _ x => x) (fun w h => ?y66) ?_; (case y66 => (try dsimp only at h); go_simp; try (with_reducible rfl)); try simp only [Act.put, sa, s0, s1]
          refine tk 5 qfc4_28_6_5 (some 22) (v := ?v67) rfl rfl (by kernel_rfl) hHeld (by rfl) (fun _ _ _ x => x) (fun w h => ?y67) ?_; (case y67 => (try dsimp only at h); go_simp; try (with_reducible rfl)); try simp only [Act.put, sa, s0, s1]
          refine tk 6 qfc4_28_6_6 (some 23) (v := ?v68) rfl rfl (by kernel_rfl) hHeld (by rfl) (fun _ _ _ x => x) (fun w h => ?y68) ?_; (case y68 => (try dsimp only at h); go_simp; try (with_reducible rfl)); try simp only [Act.put, sa, s0, s1]
          refine tn 7 qfc4_28_6_7 (some 24) rfl rfl (by kernel_rfl) hHeld (by rfl) (fun _ _ _ x => x) ?_; try simp only [Act.put, sa, s0, s1]
          refine tn 8 qfc4_28_6_8 (some 25) rfl rfl (by kernel_rfl) hHeld (by rfl) (fun _ _ _ x => x) ?_; try simp only [Act.put, sa, s0, s1]
          refine tn 9 qfc4_28_6_9 (some 26) rfl rfl (by kernel_rfl) hHeld (by rfl) (fun _ _ _ x => x) ?_; try simp only [Act.put, sa, s0, s1]
          refine tn 10 qfc4_28_6_10 (some 27) rfl rfl (by kernel_rfl) hHeld (by rfl) (fun _ _ _ x => x) ?_; try simp only [Act.put, sa, s0, s1]
          refine tn 11 qfc4_28_6_11 (some 28) rfl rfl (by kernel_rfl) hHeld (by rfl) (fun _ _ _ x => x) ?_; try simp only [Act.put, sa, s0, s1]
          refine tn 12 qfc4_28_6_12 (some 29) rfl rfl (by kernel_rfl) hHeld (by rfl) (fun _ _ _ x => x) ?_; try simp only [Act.put, sa, s0, s1]
          refine tn 13 qfc4_28_6_13 (some 30) rfl rfl (by kernel_rfl) hHeld (by rfl) (fun _ _ _ x => x) ?_; try simp only [Act.put, sa, s0, s1]
          refine tn 14 qfc4_28_6_14 (some 31) rfl rfl (by kernel_rfl) hHeld (by rfl) (fun _ _ _ x => x) ?_; try simp only [Act.put, sa, s0, s1]
          refine tn 15 qfc4_28_6_15 (some 32) rfl rfl (by kernel_rfl) hHeld (by rfl) (fun _ _ _ x => x) ?_; try simp only [Act.put, sa, s0, s1]
          refine tn 16 qfc4_28_6_16 (some 33) rfl rfl (by kernel_rfl) hHeld (by rfl) (fun _ _ _ x => x) ?_; try simp only [Act.put, sa, s0, s1]
          refine tn 17 qfc4_28_6_17 (some 34) rfl rfl (by kernel_rfl) hHeld (by rfl) (fun _ _ _ x => x) ?_; try simp only [Act.put, sa, s0, s1]
          refine tk 18 qfc4_28_6_18 (some 35) (v := ?v80) rfl rfl (by kernel_rfl) hHeld (by rfl) (fun _ _ _ x => x) (fun w h => ?y80) ?_; (case y80 => (try dsimp only at h); go_simp; try (with_reducible rfl)); try simp only [Act.put, sa, s0, s1]
          refine tk 19 qfc4_28_6_19 (some 36) (v := ?v81) rfl rfl (by kernel_rfl) hHeld (by rfl) (fun _ _ _ x => x) (fun w h => ?y81) ?_; (case y81 => (try dsimp only at h); go_simp; try (with_reducible rfl)); try simp only [Act.put, sa, s0, s1]
          refine wpAnyH_done (by kernel_rfl) ?_ _
          go_wp2_with fail
          go_roundw
          case rel => exact ⟨1, by omega, by go_num, HD, bthen hbwp hHeld⟩
          case measure => simp [intOf]; omega
        · obtain ⟨j, rfl⟩ : ∃ j, k = j + 1 := ⟨k - 1, by omega⟩
          have hjl : j < l.length := by omega
          obtain ⟨b1', o1', he1, _, cs', hcl', hcell', a3, c3, rfl, g0', g1', g2', _⟩ := (HL.out.2.2.below rItem_good hbw) j hjl
          simp only [Option.some.injEq, Addr.mk.injEq, and_true] at he1
          obtain ⟨rfl, rfl⟩ := he1
          have j0 := hcell' 0 _ rfl
          have j1 := hcell' 1 _ rfl
          rw [Nat.add_zero] at j0
          have q0 : ∀ W, Below wp.heap.size wp W → W.cell? ⟨b1, o1 + j * 3, none⟩ = some (.int .i64 l[j].fD.fR) := fun W hb => ((bthen hbp hb).cell (p := ⟨b1, o1 + j * 3, none⟩) hB').trans j0
          have q1 : ∀ W, Below wp.heap.size wp W → W.cell? ⟨b1, o1 + j * 3 + 1, none⟩ = some (.int .i64 l[j].fD.fN) := fun W hb => ((bthen hbp hb).cell (p := ⟨b1, o1 + j * 3 + 1, none⟩) hB').trans j1
          have HPK : Hid (stepOk itemP itemLt l (j + 1) = dotLt l[j].fD l[j + 1].fD) := stepOk_succ hjl hkl hP
          have hCk := fun W (hb : Below wp.heap.size wp W) => implDotLess_any [.int .i64 l[j].fD.fR, .int .i64 l[j].fD.fN] [.int .i64 l[j + 1].fD.fR, .int .i64 l[j + 1].fD.fN] l[j].fD l[j + 1].fD W ⟨rfl, g0', g1', trivial⟩ ⟨rfl, g0, g1, trivial⟩
          have hj1 : (0 : Int) ≤ (j : Int) := by omega
          have hj2 : (j : Int) < (n : Int) := by omega
          have hj3 : (0 : Int) ≤ (j : Int) + 1 := by omega
          have hj4 : (j : Int) + 1 < (n : Int) := by omega
          have hwr : IntKind.i64.wrap (j : Int) = (j : Int) := by rw [IntKind.wrap_i64]; omega
          clear hcell' hcl' j0 j1
          clear HRk g2'
          by_cases hK : dotLt l[j].fD l[j + 1].fD = true
          · simp only [hK] at hCk
            have HD : Hid (∀ i, i < j + 1 + 1 → stepOk itemP itemLt l i = true) := HG.out (by rw [HPK.out]; exact hK)
            clear HB1 HB2 HG HI HPK hP hK
            generalize l[j + 1] = x at *
            generalize l[j] = y at *
            go_wp2_with fail
            rw [← hwp]
            clear hwp
            refine wp_region_held_drew (S := fun W => Below wp.heap.size wp W) (by kernel_rfl) (Below.drew (Below.refl _ _)) (fun hHeld => ?_)
            refine tk 0 qfc4_28_6_0 (some 17) (v := ?v82) rfl rfl (by kernel_rfl) hHeld (by rfl) (fun _ _ _ x => x) (fun w h => ?y82) ?_; (case y82 => (try dsimp only at h); go_simp; try (with_reducible rfl)); try simp only [Act.put, sa, s0, s1]
            refine wpAnyH_ready (rs := [1]) (by kernel_rfl) (by simp) ?_
            refine AllReadyH.cons (o := qfc4_28_6_1) rfl (fun K hK => ?_) AllReadyH.nil
            go_simp
            refine Calls.mono (hCp _ hHeld) ?_
            rintro e w1 ⟨rfl, hx1⟩
            go_wp2_with fail
            refine hK.out _ _ (bthen hHeld hx1) (fun hHeld => ?_)
            clear hK K
            try simp only [Act.put, sa, s0, s1]
            refine tk 2 qfc4_28_6_2 (some 19) (v := ?v83) rfl rfl (by kernel_rfl) hHeld (by rfl) (fun _ _ _ x => x) (fun w h => ?y83) ?_; (case y83 => (try dsimp only at h); go_simp; try (with_reducible rfl)); try simp only [Act.put, sa, s0, s1]
            refine tk 3 qfc4_28_6_3 (some 20) (v := ?v84) rfl rfl (by kernel_rfl) hHeld (by rfl) (fun _ _ _ x => x) (fun w h => ?y84) ?_; (case y84 => (try dsimp only at h); go_simp; try (with_reducible rfl)); try simp only [Act.put, sa, s0, s1]
            refine tk 4 qfc4_28_6_4 (some 21) (v := ?v85) rfl rfl (by kernel_rfl) hHeld (by rfl) (fun _ _ _ x => x) (fun w h => ?y85) ?_; (case y85 => (try dsimp only at h); go_simp; try (with_reducible rfl)); try simp only [Act.put, sa, s0, s1]
            refine tk 5 qfc4_28_6_5 (some 22) (v := ?v86) rfl rfl (by kernel_rfl) hHeld (by rfl) (fun _ _ _ x => x) (fun w h => ?y86) ?_; (case y86 => (try dsimp only at h); go_simp; try (with_reducible rfl)); try simp only [Act.put, sa, s0, s1]
            refine tk 6 qfc4_28_6_6 (some 23) (v := ?v87) rfl rfl (by kernel_rfl) hHeld (by rfl) (fun _ _ _ x => x) (fun w h => ?y87) ?_; (case y87 => (try dsimp only at h); go_simp; try (with_reducible rfl)); try simp only [Act.put, sa, s0, s1]
            refine tk 7 qfc4_28_6_7 (some 24) (v := ?v88) rfl rfl (by kernel_rfl) hHeld (by rfl) (fun _ _ _ x => x) (fun w h => ?y88) ?_; (case y88 => (try dsimp only at h); go_simp; try (with_reducible rfl)); try simp only [Act.put, sa, s0, s1]
            refine tk 8 qfc4_28_6_8 (some 25) (v := ?v89) rfl rfl (by kernel_rfl) hHeld (by rfl) (fun _ _ _ x => x) (fun w h => ?y89) ?_; (case y89 => (try dsimp only at h); go_simp; try (with_reducible rfl)); try simp only [Act.put, sa, s0, s1]
            refine tk 9 qfc4_28_6_9 (some 26) (v := ?v90) rfl rfl (by kernel_rfl) hHeld (by rfl) (fun _ _ _ x => x) (fun w h => ?y90) ?_; (case y90 => (try dsimp only at h); go_simp; try (with_reducible rfl)); try simp only [Act.put, sa, s0, s1]
            refine tk 10 qfc4_28_6_10 (some 27) (v := ?v91) rfl rfl (by kernel_rfl) hHeld (by rfl) (fun _ _ _ x => x) (fun w h => ?y91) ?_; (case y91 => (try dsimp only at h); go_simp; try (with_reducible rfl)); try simp only [Act.put, sa, s0, s1]
            refine tk 11 qfc4_28_6_11 (some 28) (v := ?v92) rfl rfl (by kernel_rfl) hHeld (by rfl) (fun _ _ _ x => x) (fun w h => ?y92) ?_; (case y92 => (try dsimp only at h); go_simp; try (with_reducible rfl)); try simp only [Act.put, sa, s0, s1]
            refine tk 12 qfc4_28_6_12 (some 29) (v := ?v93) rfl rfl (by kernel_rfl) hHeld (by rfl) (fun _ _ _ x => x) (fun w h => ?y93) ?_; (case y93 => (try dsimp only at h); go_simp; try (with_reducible rfl)); try simp only [Act.put, sa, s0, s1]
            refine tk 13 qfc4_28_6_13 (some 30) (v := ?v94) rfl rfl (by kernel_rfl) hHeld (by rfl) (fun _ _ _ x => x) (fun w h => ?y94) ?_; (case y94 => (try dsimp only at h); go_simp; try (with_reducible rfl)); try simp only [Act.put, sa, s0, s1]
            refine tk 14 qfc4_28_6_14 (some 31) (v := ?v95) rfl rfl (by kernel_rfl) hHeld (by rfl) (fun _ _ _ x => x) (fun w h => ?y95) ?_; (case y95 => (try dsimp only at h); go_simp; try (with_reducible rfl)); try simp only [Act.put, sa, s0, s1]
            refine tk 15 qfc4_28_6_15 (some 32) (v := ?v96) rfl rfl (by kernel_rfl) hHeld (by rfl) (fun _ _ _ x => x) (fun w h => ?y96) ?_; (case y96 => (try dsimp only at h); go_simp; try (with_reducible rfl)); try simp only [Act.put, sa, s0, s1]
            refine wpAnyH_ready (rs := [16]) (by kernel_rfl) (by simp) ?_
            refine AllReadyH.cons (o := qfc4_28_6_16) rfl (fun K hK => ?_) AllReadyH.nil
            go_simp
            refine Calls.mono (hCk _ hHeld) ?_
            rintro e w2 ⟨rfl, hx2⟩
            go_wp2_with fail
            refine hK.out _ _ (bthen hHeld hx2) (fun hHeld => ?_)
            clear hK K
            try simp only [Act.put, sa, s0, s1]
            refine tk 17 qfc4_28_6_17 (some 34) (v := ?v97) rfl rfl (by kernel_rfl) hHeld (by rfl) (fun _ _ _ x => x) (fun w h => ?y97) ?_; (case y97 => (try dsimp only at h); go_simp; try (with_reducible rfl)); try simp only [Act.put, sa, s0, s1]
            refine tk 18 qfc4_28_6_18 (some 35) (v := ?v98) rfl rfl (by kernel_rfl) hHeld (by rfl) (fun _ _ _ x => x) (fun w h => ?y98) ?_; (case y98 => (try dsimp only at h); go_simp; try (with_reducible rfl)); try simp only [Act.put, sa, s0, s1]
            refine tk 19 qfc4_28_6_19 (some 36) (v := ?v99) rfl rfl (by kernel_rfl) hHeld (by rfl) (fun _ _ _ x => x) (fun w h => ?y99) ?_; (case y99 => (try dsimp only at h); go_simp; try (with_reducible rfl)); try simp only [Act.put, sa, s0, s1]
            refine wpAnyH_done (by kernel_rfl) ?_ _
            go_wp2_with fail
            go_roundw
            case rel => exact ⟨j + 1 + 1, by omega, by go_num, HD, bthen hbwp hHeld⟩
            case measure => simp [intOf]; omega
          · have hK2 : dotLt l[j].fD l[j + 1].fD = false := Bool.eq_false_iff.2 hK
            simp only [hK2] at hCk
            have HD : Hid (upOk itemP itemLt l = false) := HB2.out (by rw [HPK.out]; exact hK2)
            replace HD := Hid.mk ((HUF.out HD.out))
            clear HB1 HB2 HG HI HPK hP hK hK2
            generalize l[j + 1] = x at *
            generalize l[j] = y at *
            go_wp2_with fail
            rw [← hwp]
            clear hwp
            refine wp_region_held_drew (S := fun W => Below wp.heap.size wp W) (by kernel_rfl) (Below.drew (Below.refl _ _)) (fun hHeld => ?_)
            refine tk 0 qfc4_28_6_0 (some 17) (v := ?v100) rfl rfl (by kernel_rfl) hHeld (by rfl) (fun _ _ _ x => x) (fun w h => ?y100) ?_; (case y100 => (try dsimp only at h); go_simp; try (with_reducible rfl)); try simp only [Act.put, sa, s0, s1]
            refine wpAnyH_ready (rs := [1]) (by kernel_rfl) (by simp) ?_
            refine AllReadyH.cons (o := qfc4_28_6_1) rfl (fun K hK => ?_) AllReadyH.nil
            go_simp
            refine Calls.mono (hCp _ hHeld) ?_
            rintro e w1 ⟨rfl, hx1⟩
            go_wp2_with fail
            refine hK.out _ _ (bthen hHeld hx1) (fun hHeld => ?_)
            clear hK K
            try simp only [Act.put, sa, s0, s1]
            refine tk 2 qfc4_28_6_2 (some 19) (v := ?v101) rfl rfl (by kernel_rfl) hHeld (by rfl) (fun _ _ _ x => x) (fun w h => ?y101) ?_; (case y101 => (try dsimp only at h); go_simp; try (with_reducible rfl)); try simp only [Act.put, sa, s0, s1]
            refine tk 3 qfc4_28_6_3 (some 20) (v := ?v102) rfl rfl (by kernel_rfl) hHeld (by rfl) (fun _ _ _ x => x) (fun w h => ?y102) ?_; (case y102 => (try dsimp only at h); go_simp; try (with_reducible rfl)); try simp only [Act.put, sa, s0, s1]
            refine tk 4 qfc4_28_6_4 (some 21) (v := ?v103) rfl rfl (by kernel_rfl) hHeld (by rfl) (fun _ _ _ x => x) (fun w h => ?y103) ?_; (case y103 => (try dsimp only at h); go_simp; try (with_reducible rfl)); try simp only [Act.put, sa, s0, s1]
            refine tk 5 qfc4_28_6_5 (some 22) (v := ?v104) rfl rfl (by kernel_rfl) hHeld (by rfl) (fun _ _ _ x => x) (fun w h => ?y104) ?_; (case y104 => (try dsimp only at h); go_simp; try (with_reducible rfl)); try simp only [Act.put, sa, s0, s1]
            refine tk 6 qfc4_28_6_6 (some 23) (v := ?v105) rfl rfl (by kernel_rfl) hHeld (by rfl) (fun _ _ _ x => x) (fun w h => ?y105) ?_; (case y105 => (try dsimp only at h); go_simp; try (with_reducible rfl)); try simp only [Act.put, sa, s0, s1]
            refine tk 7 qfc4_28_6_7 (some 24) (v := ?v106) rfl rfl (by kernel_rfl) hHeld (by rfl) (fun _ _ _ x => x) (fun w h => ?y106) ?_; (case y106 => (try dsimp only at h); go_simp; try (with_reducible rfl)); try simp only [Act.put, sa, s0, s1]
            refine tk 8 qfc4_28_6_8 (some 25) (v := ?v107) rfl rfl (by kernel_rfl) hHeld (by rfl) (fun _ _ _ x => x) (fun w h => ?y107) ?_; (case y107 => (try dsimp only at h); go_simp; try (with_reducible rfl)); try simp only [Act.put, sa, s0, s1]
            refine tk 9 qfc4_28_6_9 (some 26) (v := ?v108) rfl rfl (by kernel_rfl) hHeld (by rfl) (fun _ _ _ x => x) (fun w h => ?y108) ?_; (case y108 => (try dsimp only at h); go_simp; try (with_reducible rfl)); try simp only [Act.put, sa, s0, s1]
            refine tk 10 qfc4_28_6_10 (some 27) (v := ?v109) rfl rfl (by kernel_rfl) hHeld (by rfl) (fun _ _ _ x => x) (fun w h => ?y109) ?_; (case y109 => (try dsimp only at h); go_simp; try (with_reducible rfl)); try simp only [Act.put, sa, s0, s1]
            refine tk 11 qfc4_28_6_11 (some 28) (v := ?v110) rfl rfl (by kernel_rfl) hHeld (by rfl) (fun _ _ _ x => x) (fun w h => ?y110) ?_; (case y110 => (try dsimp only at h); go_simp; try (with_reducible rfl)); try simp only [Act.put, sa, s0, s1]
            refine tk 12 qfc4_28_6_12 (some 29) (v := ?v111) rfl rfl (by kernel_rfl) hHeld (by rfl) (fun _ _ _ x => x) (fun w h => ?y111) ?_; (case y111 => (try dsimp only at h); go_simp; try (with_reducible rfl)); try simp only [Act.put, sa, s0, s1]
            refine tk 13 qfc4_28_6_13 (some 30) (v := ?v112) rfl rfl (by kernel_rfl) hHeld (by rfl) (fun _ _ _ x => x) (fun w h => ?y112) ?_; (case y112 => (try dsimp only at h); go_simp; try (with_reducible rfl)); try simp only [Act.put, sa, s0, s1]
            refine tk 14 qfc4_28_6_14 (some 31) (v := ?v113) rfl rfl (by kernel_rfl) hHeld (by rfl) (fun _ _ _ x => x) (fun w h => ?y113) ?_; (case y113 => (try dsimp only at h); go_simp; try (with_reducible rfl)); try simp only [Act.put, sa, s0, s1]
            refine tk 15 qfc4_28_6_15 (some 32) (v := ?v114) rfl rfl (by kernel_rfl) hHeld (by rfl) (fun _ _ _ x => x) (fun w h => ?y114) ?_; (case y114 => (try dsimp only at h); go_simp; try (with_reducible rfl)); try simp only [Act.put, sa, s0, s1]
            refine wpAnyH_ready (rs := [16]) (by kernel_rfl) (by simp) ?_
            refine AllReadyH.cons (o := qfc4_28_6_16) rfl (fun K hK => ?_) AllReadyH.nil
            go_simp
            refine Calls.mono (hCk _ hHeld) ?_
            rintro e w2 ⟨rfl, hx2⟩
            go_wp2_with fail
            refine hK.out _ _ (bthen hHeld hx2) (fun hHeld => ?_)
            clear hK K
            try simp only [Act.put, sa, s0, s1]
            refine tk 17 qfc4_28_6_17 (some 34) (v := ?v115) rfl rfl (by kernel_rfl) hHeld (by rfl) (fun _ _ _ x => x) (fun w h => ?y115) ?_; (case y115 => (try dsimp only at h); go_simp; try (with_reducible rfl)); try simp only [Act.put, sa, s0, s1]
            refine tk 18 qfc4_28_6_18 (some 35) (v := ?v116) rfl rfl (by kernel_rfl) hHeld (by rfl) (fun _ _ _ x => x) (fun w h => ?y116) ?_; (case y116 => (try dsimp only at h); go_simp; try (with_reducible rfl)); try simp only [Act.put, sa, s0, s1]
            refine tk 19 qfc4_28_6_19 (some 36) (v := ?v117) rfl rfl (by kernel_rfl) hHeld (by rfl) (fun _ _ _ x => x) (fun w h => ?y117) ?_; (case y117 => (try dsimp only at h); go_simp; try (with_reducible rfl)); try simp only [Act.put, sa, s0, s1]
            refine wpAnyH_done (by kernel_rfl) ?_ _
            go_wp2_with fail
            go_ret
            exact ⟨by rw [HD.out]; rfl, bthen hbww hHeld⟩
      · have hP2 : itemP l[k] = false := Bool.eq_false_iff.2 hP
        have HD := Hid.mk (HUF.out (HB1.out hP2))
        simp only [hP2] at hCp
        clear HB1 HB2 HG HI hP hP2
        clear HRk
        generalize l[k] = x at *
        go_wp2_with fail
        rw [← hwp]
        clear hwp
        refine wp_region_held_drew (S := fun W => Below wp.heap.size wp W) (by kernel_rfl) (Below.drew (Below.refl _ _)) (fun hHeld => ?_)
        refine tk 0 qfc4_28_6_0 (some 17) (v := ?v118) rfl rfl (by kernel_rfl) hHeld (by rfl) (fun _ _ _ x => x) (fun w h => ?y118) ?_; (case y118 => (try dsimp only at h); go_simp; try (with_reducible rfl)); try simp only [Act.put, sa, s0, s1]
        refine wpAnyH_ready (rs := [1]) (by kernel_rfl) (by simp) ?_
        refine AllReadyH.cons (o := qfc4_28_6_1) rfl (fun K hK => ?_) AllReadyH.nil
        go_simp
        refine Calls.mono (hCp _ hHeld) ?_
        rintro e w1 ⟨rfl, hx1⟩
        go_wp2_with fail
        refine hK.out _ _ (bthen hHeld hx1) (fun hHeld => ?_)
        clear hK K
        try simp only [Act.put, sa, s0, s1]
        refine tk 2 qfc4_28_6_2 (some 19) (v := ?v119) rfl rfl (by kernel_rfl) hHeld (by rfl) (fun _ _ _ x => x) (fun w h => ?y119) ?_; (case y119 => (try dsimp only at h); go_simp; try (with_reducible rfl)); try simp only [Act.put, sa, s0, s1]
        refine tk 3 qfc4_28_6_3 (some 20) (v := ?v120) rfl rfl (by kernel_rfl) hHeld (by rfl) (fun _ _ _ x => x) (fun w h => ?y120) ?_; (case y120 => (try dsimp only at h); go_simp; try (with_reducible rfl)); try simp only [Act.put, sa, s0, s1]
        refine tn 4 qfc4_28_6_4 (some 21) rfl rfl (by kernel_rfl) hHeld (by rfl) (fun _ _ _ x => x) ?_; try simp only [Act.put, sa, s0, s1]
        refine tn 5 qfc4_28_6_5 (some 22) rfl rfl (by kernel_rfl) hHeld (by rfl) (fun _ _ _ x => x) ?_; try simp only [Act.put, sa, s0, s1]
        refine tn 6 qfc4_28_6_6 (some 23) rfl rfl (by kernel_rfl) hHeld (by rfl) (fun _ _ _ x => x) ?_; try simp only [Act.put, sa, s0, s1]
        refine tn 7 qfc4_28_6_7 (some 24) rfl rfl (by kernel_rfl) hHeld (by rfl) (fun _ _ _ x => x) ?_; try simp only [Act.put, sa, s0, s1]
        refine tn 8 qfc4_28_6_8 (some 25) rfl rfl (by kernel_rfl) hHeld (by rfl) (fun _ _ _ x => x) ?_; try simp only [Act.put, sa, s0, s1]
        refine tn 9 qfc4_28_6_9 (some 26) rfl rfl (by kernel_rfl) hHeld (by rfl) (fun _ _ _ x => x) ?_; try simp only [Act.put, sa, s0, s1]
        refine tn 10 qfc4_28_6_10 (some 27) rfl rfl (by kernel_rfl) hHeld (by rfl) (fun _ _ _ x => x) ?_; try simp only [Act.put, sa, s0, s1]
        refine tn 11 qfc4_28_6_11 (some 28) rfl rfl (by kernel_rfl) hHeld (by rfl) (fun _ _ _ x => x) ?_; try simp only [Act.put, sa, s0, s1]
        refine tn 12 qfc4_28_6_12 (some 29) rfl rfl (by kernel_rfl) hHeld (by rfl) (fun _ _ _ x => x) ?_; try simp only [Act.put, sa, s0, s1]
        refine tn 13 qfc4_28_6_13 (some 30) rfl rfl (by kernel_rfl) hHeld (by rfl) (fun _ _ _ x => x) ?_; try simp only [Act.put, sa, s0, s1]
        refine tn 14 qfc4_28_6_14 (some 31) rfl rfl (by kernel_rfl) hHeld (by rfl) (fun _ _ _ x => x) ?_; try simp only [Act.put, sa, s0, s1]
        refine tn 15 qfc4_28_6_15 (some 32) rfl rfl (by kernel_rfl) hHeld (by rfl) (fun _ _ _ x => x) ?_; try simp only [Act.put, sa, s0, s1]
        refine tn 16 qfc4_28_6_16 (some 33) rfl rfl (by kernel_rfl) hHeld (by rfl) (fun _ _ _ x => x) ?_; try simp only [Act.put, sa, s0, s1]
        refine tn 17 qfc4_28_6_17 (some 34) rfl rfl (by kernel_rfl) hHeld (by rfl) (fun _ _ _ x => x) ?_; try simp only [Act.put, sa, s0, s1]
        refine tn 18 qfc4_28_6_18 (some 35) rfl rfl (by kernel_rfl) hHeld (by rfl) (fun _ _ _ x => x) ?_; try simp only [Act.put, sa, s0, s1]
        refine tk 19 qfc4_28_6_19 (some 36) (v := ?v136) rfl rfl (by kernel_rfl) hHeld (by rfl) (fun _ _ _ x => x) (fun w h => ?y136) ?_; (case y136 => (try dsimp only at h); go_simp; try (with_reducible rfl)); try simp only [Act.put, sa, s0, s1]
        refine wpAnyH_done (by kernel_rfl) ?_ _
        go_wp2_with fail
        go_ret
        exact ⟨by rw [HD.out]; rfl, bthen hbww hHeld⟩
    · have HD := Hid.mk (HUT.out (upOk_yes (fun j hj => HI.out j (by have := HX.out; omega))))
      go_wp2_with fail
      go_ret
      exact ⟨by rw [HD.out]; rfl, hbw⟩

end Go.Proofs.YtmigamgcmhdncaaDoor
