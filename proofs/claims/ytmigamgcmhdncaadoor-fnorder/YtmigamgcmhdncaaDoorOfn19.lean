/-
  Part 20 of the texts that the proof leans on.
-/
import Derived.Test.YtmigamgcmhdncaaDoorOfn0
import Derived.Test.YtmigamgcmhdncaaDoorOfn12
import Derived.Test.YtmigamgcmhdncaaDoorOfn18
import Derived.Shelf.SlSortCmp.WholeK
import Derived.Shelf.SlGeneric
import Derived.Ground.SlsfProg
import Derived.Test.YtmigamgcmhdncaaDoorProg
import Derived.Test.YtmigamgcmhdncaaDoorOfn15
set_option linter.unusedVariables false
set_option linter.unusedSimpArgs false
set_option maxRecDepth 10000

namespace Go.Proofs.YtmigamgcmhdncaaDoor
open Go.RowKit
abbrev qce0_26_4_0 : Oper := ⟨some 12, .move (.tmp 0), 26, "laws.go:56", #[], none⟩
abbrev qce0_26_4_1 : Oper := ⟨some 13, .move (.tmp 5), 3, "laws.go:56", #[], none⟩
abbrev qce0_26_4_2 : Oper := ⟨some 14, .indexAddr 26 (.tmp 12) (.tmp 13), 0, "laws.go:56", #[⟨0, .data⟩, ⟨1, .data⟩], none⟩
abbrev qce0_26_4_3 : Oper := ⟨some 15, .load 40 (.tmp 14), 40, "laws.go:56", #[⟨2, .data⟩], none⟩
abbrev qce0_26_4_4 : Oper := ⟨some 16, .load 40 (.tmp 3), 40, "laws.go:56", #[], none⟩
abbrev qce0_26_4_5 : Oper := ⟨some 17, .binOp .eql 40 (.tmp 15) (.tmp 16) 40, 4, "laws.go:56", #[⟨3, .data⟩, ⟨4, .data⟩], none⟩
abbrev qce0_25_6_0 : Oper := ⟨some 17, .move (.tmp 0), 26, "laws.go:46", #[], none⟩
abbrev qce0_25_6_1 : Oper := ⟨some 18, .move (.tmp 5), 3, "laws.go:46", #[], none⟩
abbrev qce0_25_6_2 : Oper := ⟨some 19, .indexAddr 26 (.tmp 17) (.tmp 18), 0, "laws.go:46", #[⟨0, .data⟩, ⟨1, .data⟩], none⟩
abbrev qce0_25_6_3 : Oper := ⟨some 20, .load 40 (.tmp 19), 40, "laws.go:46", #[⟨2, .data⟩], none⟩
abbrev qce0_25_6_4 : Oper := ⟨some 21, .move (.tmp 1), 26, "laws.go:46", #[], none⟩
abbrev qce0_25_6_5 : Oper := ⟨some 22, .move (.tmp 5), 3, "laws.go:46", #[], none⟩
abbrev qce0_25_6_6 : Oper := ⟨some 23, .indexAddr 26 (.tmp 21) (.tmp 22), 0, "laws.go:46", #[⟨4, .data⟩, ⟨5, .data⟩], none⟩
abbrev qce0_25_6_7 : Oper := ⟨some 24, .load 40 (.tmp 23), 40, "laws.go:46", #[⟨6, .data⟩], none⟩
abbrev qce0_25_6_8 : Oper := ⟨some 25, .binOp .neq 40 (.tmp 20) (.tmp 24) 40, 4, "laws.go:46", #[⟨3, .data⟩, ⟨7, .data⟩], none⟩

set_option maxHeartbeats 400000 in
theorem bigG_any (a : Option Addr) (n cap : Nat) (w : World) :
    Calls Tryd.prog 23 #[.slice a n cap] w fun e w' => e = .returned (.bool (decide (1048576 < (n : Int)))) ∧ w' = w := by
  go_enter Tryd.func23, Tryd.ntmps23
  go_wp2_with fail
  go_ret
  exact ⟨rfl, rfl⟩

theorem plc_found {l : List MDot} {d : MDot} {k : Nat} (hk : k < l.length) (h : sameD l[k] d = true) (hn : ∀ j, (hj : j < l.length) → j < k → sameD l[j] d = false) : PlcAt l d (k : Int) :=
  .inr ⟨k, rfl, hk, sameD_iff.1 h, fun j hj hjk e => by have := hn j hj hjk; rw [sameD_iff.2 e] at this; cases this⟩
theorem plc_none {l : List MDot} {d : MDot} (hn : ∀ j, (hj : j < l.length) → sameD l[j] d = false) : PlcAt l d (-1) :=
  .inl ⟨rfl, fun h => by obtain ⟨j, hj, e⟩ := List.mem_iff_getElem.1 h; have := hn j hj; rw [sameD_iff.2 e] at this; cases this⟩

set_option maxHeartbeats 1000000 in
theorem place_any (a : Option Addr) (n cap : Nat) (l : List MDot) (d : MDot) (w : World) (hx : l.length = n) (hn : n ≤ 1048576) (hr : LeafL 2 rDot w.heap.size w a cap l) :
    Calls Tryd.prog 26 #[.slice a n cap, .agg #[.int .i64 d.fR, .int .i64 d.fN]] w fun e w' => (∃ z : Int, Hid (PlcAt l d z) ∧ e = .returned (.int .i64 z)) ∧ Below w.heap.size w w' := by
  have HX := Hid.mk hx
  have HL := Hid.mk hr
  clear hx hr
  go_enter Tryd.func26, Tryd.ntmps26
  go_wp2_with fail
  obtain ⟨wq, hwq⟩ : ∃ wq, wq = w.alloc (.cells #[.int .i64 d.fR, .int .i64 d.fN] 40) := ⟨_, rfl⟩
  have hbq : Below w.heap.size w wq := by rw [hwq]; exact (Below.refl _ _).alloc (Nat.le_refl _) _
  have hbx : Bx wq w.heap.size [.int .i64 d.fR, .int .i64 d.fN] := by rw [hwq]; exact Bx.new _ _ _
  rw [← hwq]
  clear hwq
  go_loopw [5] (fun i wr => ∃ k : Nat, k ≤ n ∧ i = .int .i64 k ∧ Hid (∀ j, (hj : j < l.length) → j < k → sameD l[j] d = false) ∧ Below wq.heap.size wq wr) (fun i _ => n - (intOf i).toNat)
  case atStart => exact ⟨0, Nat.zero_le _, rfl, Hid.mk (fun j _ h => absurd h (Nat.not_lt_zero j)), Below.refl _ _⟩
  case round =>
    obtain ⟨k, hk, rfl, HI, hbk⟩ := hrel
    have hbw := bthen hbq hbk
    have y0 : ∀ W, Below wr.heap.size wr W → W.cell? ⟨w.heap.size, 0, none⟩ = some (.int .i64 d.fR) := fun W h => ((hbx.under hbk).under h).2 0 _ rfl
    have y1 : ∀ W, Below wr.heap.size wr W → W.cell? ⟨w.heap.size, 1, none⟩ = some (.int .i64 d.fN) := fun W h => ((hbx.under hbk).under h).2 1 _ rfl
    by_cases hlt : k < n
    · have hkl : k < l.length := by rw [HX.out]; exact hlt
      obtain ⟨b1, o1, rfl, hB, cs, hcl, hcell, rfl, g0, g1, _⟩ := (HL.out.2.2.below rDot_good hbw) k hkl
      have k0 := hcell 0 _ rfl
      have k1 := hcell 1 _ rfl
      rw [Nat.add_zero] at k0
      have HY : Hid (sameD l[k] d = true → PlcAt l d (k : Int)) := fun h => plc_found hkl h HI.out
      have HN : Hid (sameD l[k] d = false → ∀ j, (hj : j < l.length) → j < k + 1 → sameD l[j] d = false) := fun h j hj hjk => by
        rcases Nat.lt_succ_iff_lt_or_eq.1 hjk with g | g
        · exact HI.out j hj g
        · subst g; exact h
      have hB' : b1 < wr.heap.size := Nat.lt_of_lt_of_le hB hbw.size
      have k2 : ∀ W, Below wr.heap.size wr W → W.cell? ⟨b1, o1 + k * 2, none⟩ = some (.int .i64 l[k].fR) := fun W h => (h.cell (p := ⟨b1, o1 + k * 2, none⟩) hB').trans k0
      have k3 : ∀ W, Below wr.heap.size wr W → W.cell? ⟨b1, o1 + k * 2 + 1, none⟩ = some (.int .i64 l[k].fN) := fun W h => (h.cell (p := ⟨b1, o1 + k * 2 + 1, none⟩) hB').trans k1
      have hk1 : (0 : Int) ≤ (k : Int) := by omega
      have hk2 : (k : Int) < (n : Int) := by omega
      clear hcell hcl HI k0 k1
      generalize l[k] = x at *
      by_cases hs : sameD x d = true
      · have HV := Hid.mk (HY.out hs)
        have hq1 := (sameD_eq hs).1
        have hq2 := (sameD_eq hs).2
        clear HY HN hs
        rw [hq1] at k2
        rw [hq2] at k3
        clear hq1 hq2
        go_wp2_with fail
        refine wp_region_held_drew (S := fun W => Below wr.heap.size wr W) (by kernel_rfl) (Below.drew (Below.refl _ _)) (fun hHeld => ?_)
        refine tk 0 qce0_26_4_0 (some 12) (v := ?v1) rfl rfl (by kernel_rfl) hHeld (by rfl) (fun _ _ _ x => x) (fun w h => ?y1) ?_; (case y1 => (try dsimp only at h); go_simp; try (with_reducible rfl)); try simp only [Act.put, sa, s0, s1]
        refine tk 1 qce0_26_4_1 (some 13) (v := ?v2) rfl rfl (by kernel_rfl) hHeld (by rfl) (fun _ _ _ x => x) (fun w h => ?y2) ?_; (case y2 => (try dsimp only at h); go_simp; try (with_reducible rfl)); try simp only [Act.put, sa, s0, s1]
        refine tk 2 qce0_26_4_2 (some 14) (v := ?v3) rfl rfl (by kernel_rfl) hHeld (by rfl) (fun _ _ _ x => x) (fun w h => ?y3) ?_; (case y3 => (try dsimp only at h); go_simp; try (with_reducible rfl)); try simp only [Act.put, sa, s0, s1]
        refine tk 3 qce0_26_4_3 (some 15) (v := ?v4) rfl rfl (by kernel_rfl) hHeld (by rfl) (fun _ _ _ x => x) (fun w h => ?y4) ?_; (case y4 => (try dsimp only at h); go_simp; try (with_reducible rfl)); try simp only [Act.put, sa, s0, s1]
        refine tk 4 qce0_26_4_4 (some 16) (v := ?v5) rfl rfl (by kernel_rfl) hHeld (by rfl) (fun _ _ _ x => x) (fun w h => ?y5) ?_; (case y5 => (try dsimp only at h); go_simp; try (with_reducible rfl)); try simp only [Act.put, sa, s0, s1]
        refine tk 5 qce0_26_4_5 (some 17) (v := ?v6) rfl rfl (by kernel_rfl) hHeld (by rfl) (fun _ _ _ x => x) (fun w h => ?y6) ?_; (case y6 => (try dsimp only at h); go_simp; try (with_reducible rfl)); try simp only [Act.put, sa, s0, s1]
        refine wpAnyH_done (by kernel_rfl) ?_ _
        go_wp2_with fail
        go_ret
        exact ⟨⟨(k : Int), HV, rfl⟩, bthen hbw hHeld⟩
      · have HI := Hid.mk (HN.out (Bool.eq_false_iff.2 hs))
        rcases sameD_ne hs with hq | ⟨hq, hp⟩
        · have hq' : decide (x.fR = d.fR) = false := decide_eq_false hq
          have hr1 : ¬ d.fR = x.fR := fun h => hq h.symm
          have hr1' : decide (d.fR = x.fR) = false := decide_eq_false hr1
          clear HY HN hs
          go_wp2_with fail
          refine wp_region_held_drew (S := fun W => Below wr.heap.size wr W) (by kernel_rfl) (Below.drew (Below.refl _ _)) (fun hHeld => ?_)
          refine tk 0 qce0_26_4_0 (some 12) (v := ?v7) rfl rfl (by kernel_rfl) hHeld (by rfl) (fun _ _ _ x => x) (fun w h => ?y7) ?_; (case y7 => (try dsimp only at h); go_simp; try (with_reducible rfl)); try simp only [Act.put, sa, s0, s1]
          refine tk 1 qce0_26_4_1 (some 13) (v := ?v8) rfl rfl (by kernel_rfl) hHeld (by rfl) (fun _ _ _ x => x) (fun w h => ?y8) ?_; (case y8 => (try dsimp only at h); go_simp; try (with_reducible rfl)); try simp only [Act.put, sa, s0, s1]
          refine tk 2 qce0_26_4_2 (some 14) (v := ?v9) rfl rfl (by kernel_rfl) hHeld (by rfl) (fun _ _ _ x => x) (fun w h => ?y9) ?_; (case y9 => (try dsimp only at h); go_simp; try (with_reducible rfl)); try simp only [Act.put, sa, s0, s1]
          refine tk 3 qce0_26_4_3 (some 15) (v := ?v10) rfl rfl (by kernel_rfl) hHeld (by rfl) (fun _ _ _ x => x) (fun w h => ?y10) ?_; (case y10 => (try dsimp only at h); go_simp; try (with_reducible rfl)); try simp only [Act.put, sa, s0, s1]
          refine tk 4 qce0_26_4_4 (some 16) (v := ?v11) rfl rfl (by kernel_rfl) hHeld (by rfl) (fun _ _ _ x => x) (fun w h => ?y11) ?_; (case y11 => (try dsimp only at h); go_simp; try (with_reducible rfl)); try simp only [Act.put, sa, s0, s1]
          refine tk 5 qce0_26_4_5 (some 17) (v := ?v12) rfl rfl (by kernel_rfl) hHeld (by rfl) (fun _ _ _ x => x) (fun w h => ?y12) ?_; (case y12 => (try dsimp only at h); go_simp; try (with_reducible rfl)); try simp only [Act.put, sa, s0, s1]
          refine wpAnyH_done (by kernel_rfl) ?_ _
          go_wp2_with fail
          go_roundw
          case rel => exact ⟨k + 1, by omega, by go_num, HI, bthen hbk hHeld⟩
          case measure => simp [intOf]; omega
        · have hq' : decide (x.fN = d.fN) = false := decide_eq_false hp
          have hr1 : ¬ d.fN = x.fN := fun h => hp h.symm
          have hr1' : decide (d.fN = x.fN) = false := decide_eq_false hr1
          clear HY HN hs
          rw [hq] at k2
          clear hq
          go_wp2_with fail
          refine wp_region_held_drew (S := fun W => Below wr.heap.size wr W) (by kernel_rfl) (Below.drew (Below.refl _ _)) (fun hHeld => ?_)
          refine tk 0 qce0_26_4_0 (some 12) (v := ?v13) rfl rfl (by kernel_rfl) hHeld (by rfl) (fun _ _ _ x => x) (fun w h => ?y13) ?_; (case y13 => (try dsimp only at h); go_simp; try (with_reducible rfl)); try simp only [Act.put, sa, s0, s1]
          refine tk 1 qce0_26_4_1 (some 13) (v := ?v14) rfl rfl (by kernel_rfl) hHeld (by rfl) (fun _ _ _ x => x) (fun w h => ?y14) ?_; (case y14 => (try dsimp only at h); go_simp; try (with_reducible rfl)); try simp only [Act.put, sa, s0, s1]
          refine tk 2 qce0_26_4_2 (some 14) (v := ?v15) rfl rfl (by kernel_rfl) hHeld (by rfl) (fun _ _ _ x => x) (fun w h => ?y15) ?_; (case y15 => (try dsimp only at h); go_simp; try (with_reducible rfl)); try simp only [Act.put, sa, s0, s1]
          refine tk 3 qce0_26_4_3 (some 15) (v := ?v16) rfl rfl (by kernel_rfl) hHeld (by rfl) (fun _ _ _ x => x) (fun w h => ?y16) ?_; (case y16 => (try dsimp only at h); go_simp; try (with_reducible rfl)); try simp only [Act.put, sa, s0, s1]
          refine tk 4 qce0_26_4_4 (some 16) (v := ?v17) rfl rfl (by kernel_rfl) hHeld (by rfl) (fun _ _ _ x => x) (fun w h => ?y17) ?_; (case y17 => (try dsimp only at h); go_simp; try (with_reducible rfl)); try simp only [Act.put, sa, s0, s1]
          refine tk 5 qce0_26_4_5 (some 17) (v := ?v18) rfl rfl (by kernel_rfl) hHeld (by rfl) (fun _ _ _ x => x) (fun w h => ?y18) ?_; (case y18 => (try dsimp only at h); go_simp; try (with_reducible rfl)); try simp only [Act.put, sa, s0, s1]
          refine wpAnyH_done (by kernel_rfl) ?_ _
          go_wp2_with fail
          go_roundw
          case rel => exact ⟨k + 1, by omega, by go_num, HI, bthen hbk hHeld⟩
          case measure => simp [intOf]; omega
    · have HV : Hid (PlcAt l d (-1)) := plc_none (fun j hj => HI.out j hj (by have := HX.out; omega))
      go_wp2_with fail
      go_ret
      exact ⟨⟨-1, HV, rfl⟩, hbw⟩

set_option maxHeartbeats 1000000 in
theorem sameDots_yes (a b : Option Addr) (n ca cb : Nat) (l : List MDot) (w : World) (hx : l.length = n) (hn : n ≤ 1048576) (hra : LeafL 2 rDot w.heap.size w a ca l) (hrb : LeafL 2 rDot w.heap.size w b cb l) :
    Calls Tryd.prog 25 #[.slice a n ca, .slice b n cb] w fun e w' => e = .returned (.bool true) ∧ Below w.heap.size w w' := by
  have HX := Hid.mk hx
  have HA := Hid.mk hra
  have HB := Hid.mk hrb
  clear hx hra hrb
  go_enter Tryd.func25, Tryd.ntmps25
  go_wp2_with fail
  go_loopw [5] (fun i wr => ∃ k : Nat, k ≤ n ∧ i = .int .i64 k ∧ Below w.heap.size w wr) (fun i _ => n - (intOf i).toNat)
  case atStart => exact ⟨0, Nat.zero_le _, rfl, Below.refl _ _⟩
  case round =>
    obtain ⟨k, hk, rfl, hbk⟩ := hrel
    by_cases hlt : k < n
    · have hkl : k < l.length := by rw [HX.out]; exact hlt
      obtain ⟨b1, o1, rfl, hB, cs, hcl, hcell, rfl, g0, g1, _⟩ := (HA.out.2.2.below rDot_good hbk) k hkl
      obtain ⟨b2, o2, rfl, hB2, cs2, hcl2, hcell2, rfl, _, _, _⟩ := (HB.out.2.2.below rDot_good hbk) k hkl
      have k0 := hcell 0 _ rfl
      have k1 := hcell 1 _ rfl
      have j0 := hcell2 0 _ rfl
      have j1 := hcell2 1 _ rfl
      rw [Nat.add_zero] at k0 j0
      have hz := hbk.size
      have hB' : b1 < wr.heap.size := by omega
      have hB2' : b2 < wr.heap.size := by omega
      have k2 : ∀ W, Below wr.heap.size wr W → W.cell? ⟨b1, o1 + k * 2, none⟩ = some (.int .i64 l[k].fR) := fun W h => (h.cell (p := ⟨b1, o1 + k * 2, none⟩) hB').trans k0
      have k3 : ∀ W, Below wr.heap.size wr W → W.cell? ⟨b1, o1 + k * 2 + 1, none⟩ = some (.int .i64 l[k].fN) := fun W h => (h.cell (p := ⟨b1, o1 + k * 2 + 1, none⟩) hB').trans k1
      have k4 : ∀ W, Below wr.heap.size wr W → W.cell? ⟨b2, o2 + k * 2, none⟩ = some (.int .i64 l[k].fR) := fun W h => (h.cell (p := ⟨b2, o2 + k * 2, none⟩) hB2').trans j0
      have k5 : ∀ W, Below wr.heap.size wr W → W.cell? ⟨b2, o2 + k * 2 + 1, none⟩ = some (.int .i64 l[k].fN) := fun W h => (h.cell (p := ⟨b2, o2 + k * 2 + 1, none⟩) hB2').trans j1
      have hk1 : (0 : Int) ≤ (k : Int) := by omega
      have hk2 : (k : Int) < (n : Int) := by omega
      clear hcell hcl k0 k1 hcell2 hcl2 j0 j1
      generalize l[k] = x at *
      go_wp2_with fail
      refine wp_region_held_drew (S := fun W => Below wr.heap.size wr W) (by kernel_rfl) (Below.drew (Below.refl _ _)) (fun hHeld => ?_)
      refine tk 0 qce0_25_6_0 (some 17) (v := ?v19) rfl rfl (by kernel_rfl) hHeld (by rfl) (fun _ _ _ x => x) (fun w h => ?y19) ?_; (case y19 => (try dsimp only at h); go_simp; try (with_reducible rfl)); try simp only [Act.put, sa, s0, s1]
      refine tk 1 qce0_25_6_1 (some 18) (v := ?v20) rfl rfl (by kernel_rfl) hHeld (by rfl) (fun _ _ _ x => x) (fun w h => ?y20) ?_; (case y20 => (try dsimp only at h); go_simp; try (with_reducible rfl)); try simp only [Act.put, sa, s0, s1]
      refine tk 2 qce0_25_6_2 (some 19) (v := ?v21) rfl rfl (by kernel_rfl) hHeld (by rfl) (fun _ _ _ x => x) (fun w h => ?y21) ?_; (case y21 => (try dsimp only at h); go_simp; try (with_reducible rfl)); try simp only [Act.put, sa, s0, s1]
      refine tk 3 qce0_25_6_3 (some 20) (v := ?v22) rfl rfl (by kernel_rfl) hHeld (by rfl) (fun _ _ _ x => x) (fun w h => ?y22) ?_; (case y22 => (try dsimp only at h); go_simp; try (with_reducible rfl)); try simp only [Act.put, sa, s0, s1]
      refine tk 4 qce0_25_6_4 (some 21) (v := ?v23) rfl rfl (by kernel_rfl) hHeld (by rfl) (fun _ _ _ x => x) (fun w h => ?y23) ?_; (case y23 => (try dsimp only at h); go_simp; try (with_reducible rfl)); try simp only [Act.put, sa, s0, s1]
      refine tk 5 qce0_25_6_5 (some 22) (v := ?v24) rfl rfl (by kernel_rfl) hHeld (by rfl) (fun _ _ _ x => x) (fun w h => ?y24) ?_; (case y24 => (try dsimp only at h); go_simp; try (with_reducible rfl)); try simp only [Act.put, sa, s0, s1]
      refine tk 6 qce0_25_6_6 (some 23) (v := ?v25) rfl rfl (by kernel_rfl) hHeld (by rfl) (fun _ _ _ x => x) (fun w h => ?y25) ?_; (case y25 => (try dsimp only at h); go_simp; try (with_reducible rfl)); try simp only [Act.put, sa, s0, s1]
      refine tk 7 qce0_25_6_7 (some 24) (v := ?v26) rfl rfl (by kernel_rfl) hHeld (by rfl) (fun _ _ _ x => x) (fun w h => ?y26) ?_; (case y26 => (try dsimp only at h); go_simp; try (with_reducible rfl)); try simp only [Act.put, sa, s0, s1]
      refine tk 8 qce0_25_6_8 (some 25) (v := ?v27) rfl rfl (by kernel_rfl) hHeld (by rfl) (fun _ _ _ x => x) (fun w h => ?y27) ?_; (case y27 => (try dsimp only at h); go_simp; try (with_reducible rfl)); try simp only [Act.put, sa, s0, s1]
      refine wpAnyH_done (by kernel_rfl) ?_ _
      go_wp2_with fail
      go_roundw
      case rel => exact ⟨k + 1, by omega, by go_num, bthen hbk hHeld⟩
      case measure => simp [intOf]; omega
    · go_wp2_with fail
      go_ret
      exact ⟨rfl, hbk⟩

def OrdPost (w : World) (e : Ending) (w' : World) : Prop :=
  ∃ (a : Option Addr) (c : Nat) (m : MGraph), e = .returned (.agg #[.slice a m.fItems.length c]) ∧ rGraph w'.heap.size w' [.slice a m.fItems.length c] m ∧ wGraph m ≤ 6300 ∧ Below w.heap.size w w'

set_option maxHeartbeats 2000000 in
theorem drawOrderOf_ok (a : Option Addr) (n cap : Nat) (zs : List Int) (w : World) (hx : zs.length = n) (hlen : n ≤ 1048576) (hr : Rd .u8 w.heap.size w a zs) :
    Calls Tryd.prog 29 #[.slice a n cap] w fun e w' => OrdPost w e w' := by
  obtain ⟨w0, hw0⟩ : ∃ x, x = w.alloc (.cells #[.slice none 0 0] 30) := ⟨_, rfl⟩
  have hbr : Bw w0 w.heap.size 30 [.slice none 0 0] := by rw [hw0]; exact Bw.new _ _ _
  have hb0 : Below w.heap.size w w0 := by rw [hw0]; exact (Below.refl _ _).alloc (Nat.le_refl _) _
  have hz0 := hbr.lt
  go_enter Tryd.func29, Tryd.ntmps29
  go_wp2_with (rw [← hw0])
  try rw [← hw0]
  clear hw0
  refine (l1New_any a n cap zs w0 hx (by omega) ((hr.below hb0).mono hb0.size)).mono ?_
  rintro e w1 ⟨rfl, hc1, hb1⟩
  obtain ⟨g, hg⟩ : ∃ g, g = w0.heap.size := ⟨_, rfl⟩
  rw [← hg] at hc1
  have hbr1 := hbr.under hb1
  have hgl := hc1.lt
  have hb01 := bthen hb0 hb1
  go_wp2_with (rw [← hg])
  try rw [← hg]
  refine (l1Size_ok a n cap 16 w1 hlen (by omega) (by omega)).mono ?_
  rintro e w1' ⟨x, ⟨rfl, hx100⟩, hw1'⟩
  subst hw1'
  go_wp2_with (rw [← hg])
  try rw [← hg]
  refine (l8DrawAny_ok x hc1 hx100).mono ?_
  rintro e w2 ⟨cs, m, rfl, hO, hwm, hc2, hg2⟩
  obtain ⟨a2, c2, rfl⟩ := hO.shape
  have hbr2 := hbr1.grown hg2 (by simp; omega)
  have hb12 : Below w.heap.size w w2 := hb01.grown hg2 hb01.size (fun k hk => by simp at hk; omega)
  have q0 := hbr2.cell 0 _ rfl
  have q1 := hbr2.free 0
  have q2 := hbr2.lt
  have HF : Hid (∀ W, W = w2.setCell ⟨w.heap.size, 0, none⟩ (.slice a2 m.fItems.length c2) → rGraph W.heap.size W [.slice a2 m.fItems.length c2] m ∧ Below w.heap.size w W) := by
    intro W hW
    have hbw : Below w.heap.size w W := by rw [hW]; exact hb12.setCell (p := ⟨w.heap.size, 0, none⟩) (Nat.le_refl _) _
    have hOW : OutG w1'.heap.size W [.slice a2 m.fItems.length c2] m := by
      rw [hW]
      exact hO.keep (fun b hB hl => heap_setCell_other _ ⟨w.heap.size, 0, none⟩ b _ (by show b ≠ w.heap.size; omega))
    exact ⟨hOW.read, hbw⟩
  clear hbr hb0 hb1 hbr1 hb01 hbr2 hO hg2 hb12
  go_wp2_with fail
  have hfin := HF.out _ rfl
  exact bodyPost_ret (v := .agg #[.slice a2 m.fItems.length c2]) (by simp [results, Tryd.results29, go_sem, *]) rfl (show OrdPost w _ _ from ⟨a2, c2, m, rfl, hfin.1, hwm, hfin.2⟩)

end Go.Proofs.YtmigamgcmhdncaaDoor

namespace Go.Proofs.YtmigamgcmhdncaaDoor
open Go.Proofs Go.Shelf

def sortDot_ren : Go.Shelf.Ren := ⟨fun | 6 => 39 | 15 => 70 | 14 => 69 | 28 => 100 | 29 => 101 | 20 => 92 | 21 => 93 | 22 => 94 | 23 => 95 | 24 => 96 | 25 => 97 | 26 => 98 | 27 => 99 | 46 => 110 | 47 => 111 | 48 => 112 | 49 => 113 | 50 => 114 | 57 => 115 | n => n, fun | 22 => 26 | 24 => 40 | 25 => 71 | 3 => 3 | 39 => 105 | 0 => 0 | 53 => 137 | 55 => 64 | 4 => 4 | 46 => 131 | 45 => 130 | 50 => 75 | 5 => 5 | 9 => 9 | 66 => 145 | 70 => 149 | 76 => 152 | 77 => 153 | n => n, fun | n => n⟩
theorem sortDot : Go.Proofs.SlLaysF0.n6 Tryd.prog sortDot_ren := {
  mixed := by kernel_rfl
  f6 := ⟨Tryd.f39.name, by decide, Tryd.func39.trans (congrArg some (by kernel_rfl))⟩
  f14 := ⟨Tryd.f69.name, by decide, Tryd.func69.trans (congrArg some (by kernel_rfl))⟩
  f15 := Tryd.func70.trans (congrArg some (by kernel_rfl))
  f20 := ⟨Tryd.f92.name, by decide, Tryd.func92.trans (congrArg some (by kernel_rfl))⟩
  f21 := ⟨Tryd.f93.name, by decide, Tryd.func93.trans (congrArg some (by kernel_rfl))⟩
  f22 := ⟨Tryd.f94.name, by decide, Tryd.func94.trans (congrArg some (by kernel_rfl))⟩
  f23 := ⟨Tryd.f95.name, by decide, Tryd.func95.trans (congrArg some (by kernel_rfl))⟩
  f24 := ⟨Tryd.f96.name, by decide, Tryd.func96.trans (congrArg some (by kernel_rfl))⟩
  f25 := ⟨Tryd.f97.name, by decide, Tryd.func97.trans (congrArg some (by kernel_rfl))⟩
  f26 := ⟨Tryd.f98.name, by decide, Tryd.func98.trans (congrArg some (by kernel_rfl))⟩
  f27 := ⟨Tryd.f99.name, by decide, Tryd.func99.trans (congrArg some (by kernel_rfl))⟩
  f28 := Tryd.func100.trans (congrArg some (by kernel_rfl))
  f29 := Tryd.func101.trans (congrArg some (by kernel_rfl))
  f46 := ⟨Tryd.f110.name, by decide, Tryd.func110.trans (congrArg some (by kernel_rfl))⟩
  f47 := Tryd.func111.trans (congrArg some (by kernel_rfl))
  f48 := Tryd.func112.trans (congrArg some (by kernel_rfl))
  f49 := ⟨Tryd.f113.name, by decide, Tryd.func113.trans (congrArg some (by kernel_rfl))⟩
  f50 := ⟨Tryd.f114.name, by decide, Tryd.func114.trans (congrArg some (by kernel_rfl))⟩
  f57 := ⟨Tryd.f115.name, by decide, Tryd.func115.trans (congrArg some (by kernel_rfl))⟩
  t0 := Tryd.underlying0
  a0 := Tryd.isAgg0
  z0 := Tryd.sizeOf0
  v0 := Tryd.zeroValue0
  t3 := Tryd.underlying3
  a3 := Tryd.isAgg3
  z3 := Tryd.sizeOf3
  v3 := Tryd.zeroValue3
  t4 := Tryd.underlying4
  a4 := Tryd.isAgg4
  z4 := Tryd.sizeOf4
  v4 := Tryd.zeroValue4
  t5 := Tryd.underlying5
  a5 := Tryd.isAgg5
  z5 := Tryd.sizeOf5
  v5 := Tryd.zeroValue5
  t9 := Tryd.underlying9
  a9 := Tryd.isAgg9
  z9 := Tryd.sizeOf9
  v9 := Tryd.zeroValue9
  t22 := Tryd.underlying26
  a22 := Tryd.isAgg26
  z22 := Tryd.sizeOf26
  v22 := Tryd.zeroValue26
  t25 := Tryd.underlying71
  a25 := Tryd.isAgg71
  z25 := Tryd.sizeOf71
  v25 := Tryd.zeroValue71
  t39 := Tryd.underlying105
  a39 := Tryd.isAgg105
  z39 := Tryd.sizeOf105
  v39 := Tryd.zeroValue105
  t45 := Tryd.underlying130
  a45 := Tryd.isAgg130
  z45 := Tryd.sizeOf130
  v45 := Tryd.zeroValue130
  t46 := Tryd.underlying131
  a46 := Tryd.isAgg131
  z46 := Tryd.sizeOf131
  v46 := Tryd.zeroValue131
  t50 := Tryd.underlying75
  a50 := Tryd.isAgg75
  z50 := Tryd.sizeOf75
  v50 := Tryd.zeroValue75
  t53 := Tryd.underlying137
  a53 := Tryd.isAgg137
  z53 := Tryd.sizeOf137
  v53 := Tryd.zeroValue137
  t55 := Tryd.underlying64
  a55 := Tryd.isAgg64
  z55 := Tryd.sizeOf64
  v55 := Tryd.zeroValue64
  t66 := Tryd.underlying145
  a66 := Tryd.isAgg145
  z66 := Tryd.sizeOf145
  v66 := Tryd.zeroValue145
  t70 := Tryd.underlying149
  a70 := Tryd.isAgg149
  z70 := Tryd.sizeOf149
  v70 := Tryd.zeroValue149
  t76 := Tryd.underlying152
  a76 := Tryd.isAgg152
  z76 := Tryd.sizeOf152
  v76 := Tryd.zeroValue152
  t77 := Tryd.underlying153
  a77 := Tryd.isAgg153
  z77 := Tryd.sizeOf153
  v77 := Tryd.zeroValue153 }

end Go.Proofs.YtmigamgcmhdncaaDoor

namespace Go.Proofs.YtmigamgcmhdncaaDoor
open Go.RowKit

set_option maxHeartbeats 4000000 in
theorem dotsAt_any (cs : List Value) (m : MGraph) (s : MSet) (w : World) (hr : rGraph w.heap.size w cs m) (hs : s.ok) (hn : m.fItems.length ≤ 100) :
    Calls Tryd.prog 38 #[.agg cs.toArray, .agg s.cells.toArray] w fun e w' => ∃ v : Value, e = .returned v ∧ RowR 2 40 rDot w.heap.size w' w.heap.size v (pickT s.has m.fItems m.fItems.length) ∧ Below w.heap.size w w' := by
  obtain ⟨iD, hiD, hzD0, hzD1, hzD2⟩ := info_parts Tryd.infoOfDot
  obtain ⟨a, cap, rfl, hL, _⟩ := hr
  have HL := Hid.mk hL
  obtain ⟨n, hx⟩ : ∃ n, n = m.fItems.length := ⟨_, rfl⟩
  rw [← hx] at hn ⊢
  have HX := Hid.mk hx
  have HSK := Hid.mk hs
  clear hL hx hs
  obtain ⟨X0, hX0⟩ : ∃ x : Nat, x = s.x0 := ⟨_, rfl⟩
  obtain ⟨X1, hX1⟩ : ∃ x : Nat, x = s.x1 := ⟨_, rfl⟩
  have HSC : Hid (s.cells.toArray = #[.int .u64 (X0 : Int), .int .u64 (X1 : Int)]) := by unfold Hid MSet.cells; rw [hX0, hX1]
  clear hX0 hX1
  rw [HSC.out]
  have hCh := fun (k : Nat) (hk : k < 128) (W : World) => has_any s k W HSK.out hk
  rw [HSC.out] at hCh
  go_enter Tryd.func38, Tryd.ntmps38
  go_wp2_with fail
  obtain ⟨w1, hw1⟩ : ∃ x, x = (w.alloc (.cells #[.slice a n cap] 30)).alloc (.cells #[.int .u64 (X0 : Int), .int .u64 (X1 : Int)] 66) := ⟨_, rfl⟩
  have hb01 : Below w.heap.size w w1 := by rw [hw1]; exact ((Below.refl _ _).alloc (Nat.le_refl _) _).alloc (by simp) _
  have hbs1 : Bx w1 (w.heap.size + 1) [.int .u64 (X0 : Int), .int .u64 (X1 : Int)] := by rw [hw1]; have h := Bx.new (w.alloc (.cells #[.slice a n cap] 30)) [.int .u64 (X0 : Int), .int .u64 (X1 : Int)] 66; simpa using h
  have hs1 : w.heap.size + 2 ≤ w1.heap.size := by rw [hw1]; simp
  rw [← hw1]
  clear hw1
  have HR0 : Hid (RowR 2 40 rDot w.heap.size w1 (w.heap.size + 2) (.slice none 0 0) (pickT s.has m.fItems 0)) := RowR.start
  go_loopw [5, 11] (fun v iv wr => ∃ k : Nat, k ≤ n ∧ iv = .int .i64 k ∧ Hid (RowR 2 40 rDot w.heap.size wr (w.heap.size + 2) v (pickT s.has m.fItems k)) ∧ Below (w.heap.size + 2) w1 wr) (fun _ iv _ => n - (intOf iv).toNat)
  case atStart => exact ⟨0, Nat.zero_le _, rfl, HR0, Below.refl _ _⟩
  case round =>
    obtain ⟨k, hk, rfl, HRk, hbk⟩ := hrel
    have hbw : Below w.heap.size w wr := hb01.trans (hbk.mono (by omega))
    have hbs := hbs1.below hbk (by omega)
    have hzk : w.heap.size + 2 ≤ wr.heap.size := Nat.le_trans hs1 hbk.size
    by_cases hlt : k < n
    · have hkl : k < m.fItems.length := by rw [← HX.out]; exact hlt
      obtain ⟨b1, o1, rfl, hB, cs, hcl, hcell, a2, c2, rfl, g0, g1, g2, _⟩ := (HL.out.2.2.below rItem_good hbw) k hkl
      have k0 := hcell 0 _ rfl
      have k1 := hcell 1 _ rfl
      have k2 := hcell 2 _ rfl
      rw [Nat.add_zero] at k0
      have hpl := pickT_len s.has m.fItems k
      have HPY : Hid (s.has k = true → pickT s.has m.fItems (k + 1) = pickT s.has m.fItems k ++ [m.fItems[k].fD]) := fun h => pickT_yes hkl h
      have HPN : Hid (s.has k = false → pickT s.has m.fItems (k + 1) = pickT s.has m.fItems k) := fun h => pickT_no h
      have hC := hCh k (by omega)
      clear hcell hcl g2
      generalize m.fItems[k] = x at *
      generalize hpk : pickT s.has m.fItems k = pl at *
      clear hpk
      obtain ⟨wp, hwp⟩ : ∃ y, y = wr.alloc (.cells #[.int .i64 x.fD.fR, .int .i64 x.fD.fN, .slice a2 x.fDeps.length c2] 52) := ⟨_, rfl⟩
      have hbp : Below wr.heap.size wr wp := by rw [hwp]; exact (Below.refl _ _).alloc (Nat.le_refl _) _
      have hbxp : Bx wp wr.heap.size [.int .i64 x.fD.fR, .int .i64 x.fD.fN, .slice a2 x.fDeps.length c2] := by rw [hwp]; exact Bx.new _ _ _
      have j0 := hbs.2 0 _ rfl
      have j1 := hbs.2 1 _ rfl
      have hjl : w.heap.size + 1 < wr.heap.size := hbs.1
      go_wp2_with fail
      rw [← hwp]
      clear hwp
      refine (hC wp).mono ?_
      rintro e w3 ⟨rfl, hx3⟩
      have hb3 := bthen hbp hx3
      have hbx3 := hbxp.under hx3
      have d0 := hbx3.2 0 _ rfl
      have d1 := hbx3.2 1 _ rfl
      have hz3 := hb3.size
      rcases hsk : s.has k with _ | _
      · have HP := Hid.mk (HPN.out hsk)
        have HRn := Hid.mk (RowR.keep rDot_good HRk.out hb3 (by omega))
        rw [← HP.out] at HRn
        go_wp2_with fail
        go_roundw
        case rel => exact ⟨k + 1, by omega, by go_num, HRn, hbk.trans (hb3.mono hzk)⟩
        case measure => simp [intOf]; omega
      · have HP := Hid.mk (HPY.out hsk)
        obtain ⟨css, r1, r2, r3, r4⟩ := RowR.keep rDot_good HRk.out hb3 (by omega)
        have HR1 := Hid.mk r1
        have HR2 := Hid.mk r2
        have HR3 := Hid.mk r3
        clear r1 r2 r3
        generalize x.fD = d at *
        obtain ⟨w5, hw5⟩ : ∃ y, y = w3.alloc (.cells #[.int .i64 d.fR, .int .i64 d.fN] 40) := ⟨_, rfl⟩
        have hb5 : Below w3.heap.size w3 w5 := by rw [hw5]; exact (Below.refl _ _).alloc (Nat.le_refl _) _
        have hbx5 : Bx w5 w3.heap.size [.int .i64 d.fR, .int .i64 d.fN] := by rw [hw5]; exact Bx.new _ _ _
        have r5 := own_below r4 hb5
        have hz5 := hb5.size
        go_wp2_with (at_builtin; rw [← hw5]; refine wpList_append_src_y rfl _ _ 26 26 rfl (w.heap.size + 2) 40 iD (.agg #[.int .i64 0, .int .i64 0]) 2 16 Tryd.underlying26 hiD hzD0 hzD1 hzD2 rfl _ _ _ rfl r5 _ rfl 1 [.int .i64 d.fR, .int .i64 d.fN] (Src.ofSlice w5 Tryd.underlying26 ⟨w3.heap.size, 0, none⟩ 1 1 _ rfl (bx_news hbx5) (by intro u hu; simp at hu; rcases hu with rfl | rfl <;> rfl)) (by unfold maxLen; omega) (by omega) (by omega) ?_; intro v6 w6 ho6 hgr6 hat6)
        have hT : Below (w.heap.size + 2) w3 w6 := (hb5.mono (by omega)).grown hgr6 (by omega) (fun x hx => (r4.lt x hx).1)
        have HRn : Hid (RowR 2 40 rDot w.heap.size w6 (w.heap.size + 2) v6 (pl ++ [d])) := RowR.push rDot_good HR1.out HR2.out HR3.out (hT.mono (by omega)) rfl ⟨rfl, g0, g1, trivial⟩ ho6
        rw [← HP.out] at HRn
        exact ⟨⟨k + 1, by omega, by go_num, HRn, (hbk.trans (hb3.mono hzk)).trans hT⟩, by simp [intOf]; omega⟩
    · have hkn : k = n := by omega
      subst hkn
      have HRb := Hid.mk (RowR.base HRk.out (show w.heap.size ≤ w.heap.size + 2 by omega))
      go_wp2_with fail
      go_ret
      exact ⟨_, rfl, HRb.out, hbw⟩

end Go.Proofs.YtmigamgcmhdncaaDoor
