/-
  What the laws of graphs draw and ask: a graph and a dot, where a dot is, whether two lists are the same.
-/
import Derived.Test.YtmigamgcmhdncaaDoorRegK
import Derived.Test.YtmigamgcmhdncaaDoorDrGF
import Derived.Test.YtmigamgcmhdncaaDoorGrpQ
import Derived.Test.YtmigamgcmhdncaaDoorDotL
namespace Go.Proofs.YtmigamgcmhdncaaDoor
open Go.RowKit
set_option linter.unusedVariables false
set_option linter.unusedSimpArgs false
set_option maxRecDepth 10000
abbrev qce0_26_4_0 : Oper := ⟨some 12, .move (.tmp 0), 26, "laws.go:56", #[], none⟩
abbrev qce0_26_4_1 : Oper := ⟨some 13, .move (.tmp 5), 3, "laws.go:56", #[], none⟩
abbrev qce0_26_4_2 : Oper := ⟨some 14, .indexAddr 26 (.tmp 12) (.tmp 13), 0, "laws.go:56", #[⟨0, .data⟩, ⟨1, .data⟩], none⟩
abbrev qce0_26_4_3 : Oper := ⟨some 15, .load 40 (.tmp 14), 40, "laws.go:56", #[⟨2, .data⟩], none⟩
abbrev qce0_26_4_4 : Oper := ⟨some 16, .load 40 (.tmp 3), 40, "laws.go:56", #[], none⟩
abbrev qce0_26_4_5 : Oper := ⟨some 17, .binOp .eql 40 (.tmp 15) (.tmp 16) 40, 4, "laws.go:56", #[⟨3, .data⟩, ⟨4, .data⟩], none⟩
abbrev qce0_25_6_0 : Oper := ⟨some 17, .move (.tmp 0), 26, "laws.go:46", #[], none⟩
abbrev qce0_25_6_1 : Oper := ⟨some 18, .move (.tmp 5), 3, "laws.go:46", #[], none⟩
abbrev qce0_25_6_2 : Oper := ⟨some 19, .indexAddr 26 (.tmp 17) (.tmp 18), 0, "laws.go:46", #[⟨0, .data⟩, ⟨1, .data⟩], none⟩
abbrev qce0_25_6_3 : Oper := ⟨some 20, .load 40 (.tmp 19), 40, "laws.go:46", #[⟨2, .data⟩], none⟩
abbrev qce0_25_6_4 : Oper := ⟨some 21, .move (.tmp 1), 26, "laws.go:46", #[], none⟩
abbrev qce0_25_6_5 : Oper := ⟨some 22, .move (.tmp 5), 3, "laws.go:46", #[], none⟩
abbrev qce0_25_6_6 : Oper := ⟨some 23, .indexAddr 26 (.tmp 21) (.tmp 22), 0, "laws.go:46", #[⟨4, .data⟩, ⟨5, .data⟩], none⟩
abbrev qce0_25_6_7 : Oper := ⟨some 24, .load 40 (.tmp 23), 40, "laws.go:46", #[⟨6, .data⟩], none⟩
abbrev qce0_25_6_8 : Oper := ⟨some 25, .binOp .neq 40 (.tmp 20) (.tmp 24) 40, 4, "laws.go:46", #[⟨3, .data⟩, ⟨7, .data⟩], none⟩

set_option maxHeartbeats 400000 in
theorem bigG_any (a : Option Addr) (n cap : Nat) (w : World) :
    Calls Tryd.prog 23 #[.slice a n cap] w fun e w' => e = .returned (.bool (decide (1048576 < (n : Int)))) ∧ w' = w := by
  go_enter Tryd.func23, Tryd.ntmps23
  go_wp2_with fail
  go_ret
  exact ⟨rfl, rfl⟩

theorem plc_found {l : List MDot} {d : MDot} {k : Nat} (hk : k < l.length) (h : sameD l[k] d = true) (hn : ∀ j, (hj : j < l.length) → j < k → sameD l[j] d = false) : PlcAt l d (k : Int) :=
  .inr ⟨k, rfl, hk, sameD_iff.1 h, fun j hj hjk e => by have := hn j hj hjk; rw [sameD_iff.2 e] at this; cases this⟩
theorem plc_none {l : List MDot} {d : MDot} (hn : ∀ j, (hj : j < l.length) → sameD l[j] d = false) : PlcAt l d (-1) :=
  .inl ⟨rfl, fun h => by obtain ⟨j, hj, e⟩ := List.mem_iff_getElem.1 h; have := hn j hj; rw [sameD_iff.2 e] at this; cases this⟩

set_option maxHeartbeats 1000000 in
theorem place_any (a : Option Addr) (n cap : Nat) (l : List MDot) (d : MDot) (w : World) (hx : l.length = n) (hn : n ≤ 1048576) (hr : LeafL 2 rDot w.heap.size w a cap l) :
    Calls Tryd.prog 26 #[.slice a n cap, .agg #[.int .i64 d.fR, .int .i64 d.fN]] w fun e w' => (∃ z : Int, Hid (PlcAt l d z) ∧ e = .returned (.int .i64 z)) ∧ Below w.heap.size w w' := by
  have HX := Hid.mk hx
  have HL := Hid.mk hr
  clear hx hr
  go_enter Tryd.func26, Tryd.ntmps26
  go_wp2_with fail
  obtain ⟨wq, hwq⟩ : ∃ wq, wq = w.alloc (.cells #[.int .i64 d.fR, .int .i64 d.fN] 40) := ⟨_, rfl⟩
  have hbq : Below w.heap.size w wq := by rw [hwq]; exact (Below.refl _ _).alloc (Nat.le_refl _) _
  have hbx : Bx wq w.heap.size [.int .i64 d.fR, .int .i64 d.fN] := by rw [hwq]; exact Bx.new _ _ _
  rw [← hwq]
  clear hwq
  go_loopw [5] (fun i wr => ∃ k : Nat, k ≤ n ∧ i = .int .i64 k ∧ Hid (∀ j, (hj : j < l.length) → j < k → sameD l[j] d = false) ∧ Below wq.heap.size wq wr) (fun i _ => n - (intOf i).toNat)
  case atStart => exact ⟨0, Nat.zero_le _, rfl, Hid.mk (fun j _ h => absurd h (Nat.not_lt_zero j)), Below.refl _ _⟩
  case round =>
    obtain ⟨k, hk, rfl, HI, hbk⟩ := hrel
    have hbw := bthen hbq hbk
    have y0 : ∀ W, Below wr.heap.size wr W → W.cell? ⟨w.heap.size, 0, none⟩ = some (.int .i64 d.fR) := fun W h => ((hbx.under hbk).under h).2 0 _ rfl
    have y1 : ∀ W, Below wr.heap.size wr W → W.cell? ⟨w.heap.size, 1, none⟩ = some (.int .i64 d.fN) := fun W h => ((hbx.under hbk).under h).2 1 _ rfl
    by_cases hlt : k < n
    · have hkl : k < l.length := by rw [HX.out]; exact hlt
      obtain ⟨b1, o1, rfl, hB, cs, hcl, hcell, rfl, g0, g1, _⟩ := (HL.out.2.2.below rDot_good hbw) k hkl
      have k0 := hcell 0 _ rfl
      have k1 := hcell 1 _ rfl
      rw [Nat.add_zero] at k0
      have HY : Hid (sameD l[k] d = true → PlcAt l d (k : Int)) := fun h => plc_found hkl h HI.out
      have HN : Hid (sameD l[k] d = false → ∀ j, (hj : j < l.length) → j < k + 1 → sameD l[j] d = false) := fun h j hj hjk => by
        rcases Nat.lt_succ_iff_lt_or_eq.1 hjk with g | g
        · exact HI.out j hj g
        · subst g; exact h
      have hB' : b1 < wr.heap.size := Nat.lt_of_lt_of_le hB hbw.size
      have k2 : ∀ W, Below wr.heap.size wr W → W.cell? ⟨b1, o1 + k * 2, none⟩ = some (.int .i64 l[k].fR) := fun W h => (h.cell (p := ⟨b1, o1 + k * 2, none⟩) hB').trans k0
      have k3 : ∀ W, Below wr.heap.size wr W → W.cell? ⟨b1, o1 + k * 2 + 1, none⟩ = some (.int .i64 l[k].fN) := fun W h => (h.cell (p := ⟨b1, o1 + k * 2 + 1, none⟩) hB').trans k1
      have hk1 : (0 : Int) ≤ (k : Int) := by omega
      have hk2 : (k : Int) < (n : Int) := by omega
      clear hcell hcl HI k0 k1
      generalize l[k] = x at *
      by_cases hs : sameD x d = true
      · have HV := Hid.mk (HY.out hs)
        have hq1 := (sameD_eq hs).1
        have hq2 := (sameD_eq hs).2
        clear HY HN hs
        rw [hq1] at k2
        rw [hq2] at k3
        clear hq1 hq2
        go_wp2_with fail
        refine wp_region_held_drew (S := fun W => Below wr.heap.size wr W) (by kernel_rfl) (Below.drew (Below.refl _ _)) (fun hHeld => ?_)
        refine tk 0 qce0_26_4_0 (some 12) (v := ?v1) rfl rfl (by kernel_rfl) hHeld (by rfl) (fun _ _ _ x => x) (fun w h => ?y1) ?_; (case y1 => (try dsimp only at h); go_simp; try (with_reducible rfl)); try simp only [Act.put, sa, s0, s1]
        refine tk 1 qce0_26_4_1 (some 13) (v := ?v2) rfl rfl (by kernel_rfl) hHeld (by rfl) (fun _ _ _ x => x) (fun w h => ?y2) ?_; (case y2 => (try dsimp only at h); go_simp; try (with_reducible rfl)); try simp only [Act.put, sa, s0, s1]
        refine tk 2 qce0_26_4_2 (some 14) (v := ?v3) rfl rfl (by kernel_rfl) hHeld (by rfl) (fun _ _ _ x => x) (fun w h => ?y3) ?_; (case y3 => (try dsimp only at h); go_simp; try (with_reducible rfl)); try simp only [Act.put, sa, s0, s1]
        refine tk 3 qce0_26_4_3 (some 15) (v := ?v4) rfl rfl (by kernel_rfl) hHeld (by rfl) (fun _ _ _ x => x) (fun w h => ?y4) ?_; (case y4 => (try dsimp only at h); go_simp; try (with_reducible rfl)); try simp only [Act.put, sa, s0, s1]
        refine tk 4 qce0_26_4_4 (some 16) (v := ?v5) rfl rfl (by kernel_rfl) hHeld (by rfl) (fun _ _ _ x => x) (fun w h => ?y5) ?_; (case y5 => (try dsimp only at h); go_simp; try (with_reducible rfl)); try simp only [Act.put, sa, s0, s1]
        refine tk 5 qce0_26_4_5 (some 17) (v := ?v6) rfl rfl (by kernel_rfl) hHeld (by rfl) (fun _ _ _ x => x) (fun w h => ?y6) ?_; (case y6 => (try dsimp only at h); go_simp; try (with_reducible rfl)); try simp only [Act.put, sa, s0, s1]
        refine wpAnyH_done (by kernel_rfl) ?_ _
        go_wp2_with fail
        go_ret
        exact ⟨⟨(k : Int), HV, rfl⟩, bthen hbw hHeld⟩
      · have HI := Hid.mk (HN.out (Bool.eq_false_iff.2 hs))
        rcases sameD_ne hs with hq | ⟨hq, hp⟩
        · have hq' : decide (x.fR = d.fR) = false := decide_eq_false hq
          have hr1 : ¬ d.fR = x.fR := fun h => hq h.symm
          have hr1' : decide (d.fR = x.fR) = false := decide_eq_false hr1
          clear HY HN hs
          go_wp2_with fail
          refine wp_region_held_drew (S := fun W => Below wr.heap.size wr W) (by kernel_rfl) (Below.drew (Below.refl _ _)) (fun hHeld => ?_)
          refine tk 0 qce0_26_4_0 (some 12) (v := ?v7) rfl rfl (by kernel_rfl) hHeld (by rfl) (fun _ _ _ x => x) (fun w h => ?y7) ?_; (case y7 => (try dsimp only at h); go_simp; try (with_reducible rfl)); try simp only [Act.put, sa, s0, s1]
          refine tk 1 qce0_26_4_1 (some 13) (v := ?v8) rfl rfl (by kernel_rfl) hHeld (by rfl) (fun _ _ _ x => x) (fun w h => ?y8) ?_; (case y8 => (try dsimp only at h); go_simp; try (with_reducible rfl)); try simp only [Act.put, sa, s0, s1]
          refine tk 2 qce0_26_4_2 (some 14) (v := ?v9) rfl rfl (by kernel_rfl) hHeld (by rfl) (fun _ _ _ x => x) (fun w h => ?y9) ?_; (case y9 => (try dsimp only at h); go_simp; try (with_reducible rfl)); try simp only [Act.put, sa, s0, s1]
          refine tk 3 qce0_26_4_3 (some 15) (v := ?v10) rfl rfl (by kernel_rfl) hHeld (by rfl) (fun _ _ _ x => x) (fun w h => ?y10) ?_; (case y10 => (try dsimp only at h); go_simp; try (with_reducible rfl)); try simp only [Act.put, sa, s0, s1]
          refine tk 4 qce0_26_4_4 (some 16) (v := ?v11) rfl rfl (by kernel_rfl) hHeld (by rfl) (fun _ _ _ x => x) (fun w h => ?y11) ?_; (case y11 => (try dsimp only at h); go_simp; try (with_reducible rfl)); try simp only [Act.put, sa, s0, s1]
          refine tk 5 qce0_26_4_5 (some 17) (v := ?v12) rfl rfl (by kernel_rfl) hHeld (by rfl) (fun _ _ _ x => x) (fun w h => ?y12) ?_; (case y12 => (try dsimp only at h); go_simp; try (with_reducible rfl)); try simp only [Act.put, sa, s0, s1]
          refine wpAnyH_done (by kernel_rfl) ?_ _
          go_wp2_with fail
          go_roundw
          case rel => exact ⟨k + 1, by omega, by go_num, HI, bthen hbk hHeld⟩
          case measure => simp [intOf]; omega
        · have hq' : decide (x.fN = d.fN) = false := decide_eq_false hp
          have hr1 : ¬ d.fN = x.fN := fun h => hp h.symm
          have hr1' : decide (d.fN = x.fN) = false := decide_eq_false hr1
          clear HY HN hs
          rw [hq] at k2
          clear hq
          go_wp2_with fail
          refine wp_region_held_drew (S := fun W => Below wr.heap.size wr W) (by kernel_rfl) (Below.drew (Below.refl _ _)) (fun hHeld => ?_)
          refine tk 0 qce0_26_4_0 (some 12) (v := ?v13) rfl rfl (by kernel_rfl) hHeld (by rfl) (fun _ _ _ x => x) (fun w h => ?y13) ?_; (case y13 => (try dsimp only at h); go_simp; try (with_reducible rfl)); try simp only [Act.put, sa, s0, s1]
          refine tk 1 qce0_26_4_1 (some 13) (v := ?v14) rfl rfl (by kernel_rfl) hHeld (by rfl) (fun _ _ _ x => x) (fun w h => ?y14) ?_; (case y14 => (try dsimp only at h); go_simp; try (with_reducible rfl)); try simp only [Act.put, sa, s0, s1]
          refine tk 2 qce0_26_4_2 (some 14) (v := ?v15) rfl rfl (by kernel_rfl) hHeld (by rfl) (fun _ _ _ x => x) (fun w h => ?y15) ?_; (case y15 => (try dsimp only at h); go_simp; try (with_reducible rfl)); try simp only [Act.put, sa, s0, s1]
          refine tk 3 qce0_26_4_3 (some 15) (v := ?v16) rfl rfl (by kernel_rfl) hHeld (by rfl) (fun _ _ _ x => x) (fun w h => ?y16) ?_; (case y16 => (try dsimp only at h); go_simp; try (with_reducible rfl)); try simp only [Act.put, sa, s0, s1]
          refine tk 4 qce0_26_4_4 (some 16) (v := ?v17) rfl rfl (by kernel_rfl) hHeld (by rfl) (fun _ _ _ x => x) (fun w h => ?y17) ?_; (case y17 => (try dsimp only at h); go_simp; try (with_reducible rfl)); try simp only [Act.put, sa, s0, s1]
          refine tk 5 qce0_26_4_5 (some 17) (v := ?v18) rfl rfl (by kernel_rfl) hHeld (by rfl) (fun _ _ _ x => x) (fun w h => ?y18) ?_; (case y18 => (try dsimp only at h); go_simp; try (with_reducible rfl)); try simp only [Act.put, sa, s0, s1]
          refine wpAnyH_done (by kernel_rfl) ?_ _
          go_wp2_with fail
          go_roundw
          case rel => exact ⟨k + 1, by omega, by go_num, HI, bthen hbk hHeld⟩
          case measure => simp [intOf]; omega
    · have HV : Hid (PlcAt l d (-1)) := plc_none (fun j hj => HI.out j hj (by have := HX.out; omega))
      go_wp2_with fail
      go_ret
      exact ⟨⟨-1, HV, rfl⟩, hbw⟩

set_option maxHeartbeats 1000000 in
theorem sameDots_yes (a b : Option Addr) (n ca cb : Nat) (l : List MDot) (w : World) (hx : l.length = n) (hn : n ≤ 1048576) (hra : LeafL 2 rDot w.heap.size w a ca l) (hrb : LeafL 2 rDot w.heap.size w b cb l) :
    Calls Tryd.prog 25 #[.slice a n ca, .slice b n cb] w fun e w' => e = .returned (.bool true) ∧ Below w.heap.size w w' := by
  have HX := Hid.mk hx
  have HA := Hid.mk hra
  have HB := Hid.mk hrb
  clear hx hra hrb
  go_enter Tryd.func25, Tryd.ntmps25
  go_wp2_with fail
  go_loopw [5] (fun i wr => ∃ k : Nat, k ≤ n ∧ i = .int .i64 k ∧ Below w.heap.size w wr) (fun i _ => n - (intOf i).toNat)
  case atStart => exact ⟨0, Nat.zero_le _, rfl, Below.refl _ _⟩
  case round =>
    obtain ⟨k, hk, rfl, hbk⟩ := hrel
    by_cases hlt : k < n
    · have hkl : k < l.length := by rw [HX.out]; exact hlt
      obtain ⟨b1, o1, rfl, hB, cs, hcl, hcell, rfl, g0, g1, _⟩ := (HA.out.2.2.below rDot_good hbk) k hkl
      obtain ⟨b2, o2, rfl, hB2, cs2, hcl2, hcell2, rfl, _, _, _⟩ := (HB.out.2.2.below rDot_good hbk) k hkl
      have k0 := hcell 0 _ rfl
      have k1 := hcell 1 _ rfl
      have j0 := hcell2 0 _ rfl
      have j1 := hcell2 1 _ rfl
      rw [Nat.add_zero] at k0 j0
      have hz := hbk.size
      have hB' : b1 < wr.heap.size := by omega
      have hB2' : b2 < wr.heap.size := by omega
      have k2 : ∀ W, Below wr.heap.size wr W → W.cell? ⟨b1, o1 + k * 2, none⟩ = some (.int .i64 l[k].fR) := fun W h => (h.cell (p := ⟨b1, o1 + k * 2, none⟩) hB').trans k0
      have k3 : ∀ W, Below wr.heap.size wr W → W.cell? ⟨b1, o1 + k * 2 + 1, none⟩ = some (.int .i64 l[k].fN) := fun W h => (h.cell (p := ⟨b1, o1 + k * 2 + 1, none⟩) hB').trans k1
      have k4 : ∀ W, Below wr.heap.size wr W → W.cell? ⟨b2, o2 + k * 2, none⟩ = some (.int .i64 l[k].fR) := fun W h => (h.cell (p := ⟨b2, o2 + k * 2, none⟩) hB2').trans j0
      have k5 : ∀ W, Below wr.heap.size wr W → W.cell? ⟨b2, o2 + k * 2 + 1, none⟩ = some (.int .i64 l[k].fN) := fun W h => (h.cell (p := ⟨b2, o2 + k * 2 + 1, none⟩) hB2').trans j1
      have hk1 : (0 : Int) ≤ (k : Int) := by omega
      have hk2 : (k : Int) < (n : Int) := by omega
      clear hcell hcl k0 k1 hcell2 hcl2 j0 j1
      generalize l[k] = x at *
      go_wp2_with fail
      refine wp_region_held_drew (S := fun W => Below wr.heap.size wr W) (by kernel_rfl) (Below.drew (Below.refl _ _)) (fun hHeld => ?_)
      refine tk 0 qce0_25_6_0 (some 17) (v := ?v19) rfl rfl (by kernel_rfl) hHeld (by rfl) (fun _ _ _ x => x) (fun w h => ?y19) ?_; (case y19 => (try dsimp only at h); go_simp; try (with_reducible rfl)); try simp only [Act.put, sa, s0, s1]
      refine tk 1 qce0_25_6_1 (some 18) (v := ?v20) rfl rfl (by kernel_rfl) hHeld (by rfl) (fun _ _ _ x => x) (fun w h => ?y20) ?_; (case y20 => (try dsimp only at h); go_simp; try (with_reducible rfl)); try simp only [Act.put, sa, s0, s1]
      refine tk 2 qce0_25_6_2 (some 19) (v := ?v21) rfl rfl (by kernel_rfl) hHeld (by rfl) (fun _ _ _ x => x) (fun w h => ?y21) ?_; (case y21 => (try dsimp only at h); go_simp; try (with_reducible rfl)); try simp only [Act.put, sa, s0, s1]
      refine tk 3 qce0_25_6_3 (some 20) (v := ?v22) rfl rfl (by kernel_rfl) hHeld (by rfl) (fun _ _ _ x => x) (fun w h => ?y22) ?_; (case y22 => (try dsimp only at h); go_simp; try (with_reducible rfl)); try simp only [Act.put, sa, s0, s1]
      refine tk 4 qce0_25_6_4 (some 21) (v := ?v23) rfl rfl (by kernel_rfl) hHeld (by rfl) (fun _ _ _ x => x) (fun w h => ?y23) ?_; (case y23 => (try dsimp only at h); go_simp; try (with_reducible rfl)); try simp only [Act.put, sa, s0, s1]
      refine tk 5 qce0_25_6_5 (some 22) (v := ?v24) rfl rfl (by kernel_rfl) hHeld (by rfl) (fun _ _ _ x => x) (fun w h => ?y24) ?_; (case y24 => (try dsimp only at h); go_simp; try (with_reducible rfl)); try simp only [Act.put, sa, s0, s1]
      refine tk 6 qce0_25_6_6 (some 23) (v := ?v25) rfl rfl (by kernel_rfl) hHeld (by rfl) (fun _ _ _ x => x) (fun w h => ?y25) ?_; (case y25 => (try dsimp only at h); go_simp; try (with_reducible rfl)); try simp only [Act.put, sa, s0, s1]
      refine tk 7 qce0_25_6_7 (some 24) (v := ?v26) rfl rfl (by kernel_rfl) hHeld (by rfl) (fun _ _ _ x => x) (fun w h => ?y26) ?_; (case y26 => (try dsimp only at h); go_simp; try (with_reducible rfl)); try simp only [Act.put, sa, s0, s1]
      refine tk 8 qce0_25_6_8 (some 25) (v := ?v27) rfl rfl (by kernel_rfl) hHeld (by rfl) (fun _ _ _ x => x) (fun w h => ?y27) ?_; (case y27 => (try dsimp only at h); go_simp; try (with_reducible rfl)); try simp only [Act.put, sa, s0, s1]
      refine wpAnyH_done (by kernel_rfl) ?_ _
      go_wp2_with fail
      go_roundw
      case rel => exact ⟨k + 1, by omega, by go_num, bthen hbk hHeld⟩
      case measure => simp [intOf]; omega
    · go_wp2_with fail
      go_ret
      exact ⟨rfl, hbk⟩

/-- A drawn graph, and a dot beside it. -/
def GrpPost (w : World) (e : Ending) (w' : World) : Prop :=
  ∃ (a : Option Addr) (c : Nat) (m : MGraph) (r n : Int), e = .returned (.tuple #[.agg #[.slice a m.fItems.length c], .agg #[.int .i64 r, .int .i64 n]]) ∧ rGraph w'.heap.size w' [.slice a m.fItems.length c] m ∧ wGraph m ≤ 6300 ∧ ((Lit.int .i64 r).wf = true ∧ (Lit.int .i64 n).wf = true) ∧ Below w.heap.size w w'
def OrdPost (w : World) (e : Ending) (w' : World) : Prop :=
  ∃ (a : Option Addr) (c : Nat) (m : MGraph), e = .returned (.agg #[.slice a m.fItems.length c]) ∧ rGraph w'.heap.size w' [.slice a m.fItems.length c] m ∧ wGraph m ≤ 6300 ∧ Below w.heap.size w w'

set_option maxHeartbeats 2000000 in
theorem drawGroup_ok (a : Option Addr) (n cap : Nat) (zs : List Int) (w : World) (hx : zs.length = n) (hlen : n ≤ 1048576) (hr : Rd .u8 w.heap.size w a zs) :
    Calls Tryd.prog 24 #[.slice a n cap] w fun e w' => GrpPost w e w' := by
  obtain ⟨w0, hw0⟩ : ∃ x, x = (w.alloc (.cells #[.slice none 0 0] 30)).alloc (.cells #[.int .i64 0, .int .i64 0] 40) := ⟨_, rfl⟩
  have hbr : Bw w0 w.heap.size 30 [.slice none 0 0] := by rw [hw0]; exact (Bw.new _ _ _).alloc _
  have hbd : Bw w0 (w.heap.size + 1) 40 [.int .i64 0, .int .i64 0] := by rw [hw0]; exact Bw.new' _ _ _ (by simp)
  have hb0 : Below w.heap.size w w0 := by rw [hw0]; exact ((Below.refl _ _).alloc (Nat.le_refl _) _).alloc (by simp) _
  have hz0 := hbd.lt
  go_enter Tryd.func24, Tryd.ntmps24
  go_wp2_with (rw [← hw0])
  try rw [← hw0]
  clear hw0
  refine (l1New_any a n cap zs w0 hx (by omega) ((hr.below hb0).mono hb0.size)).mono ?_
  rintro e w1 ⟨rfl, hc1, hb1⟩
  obtain ⟨g, hg⟩ : ∃ g, g = w0.heap.size := ⟨_, rfl⟩
  rw [← hg] at hc1
  have hbr1 := hbr.under hb1
  have hbd1 := hbd.under hb1
  have hgl := hc1.lt
  have hb01 := bthen hb0 hb1
  go_wp2_with (rw [← hg])
  try rw [← hg]
  refine (l1Size_ok a n cap 16 w1 hlen (by omega) (by omega)).mono ?_
  rintro e w1' ⟨x, ⟨rfl, hx100⟩, hw1'⟩
  subst hw1'
  go_wp2_with (rw [← hg])
  try rw [← hg]
  refine (l8DrawAny_ok x hc1 hx100).mono ?_
  rintro e w2 ⟨cs, m, rfl, hO, hwm, hc2, hg2⟩
  obtain ⟨a2, c2, rfl⟩ := hO.shape
  have hbr2 := hbr1.grown hg2 (by simp; omega)
  have hbd2 := hbd1.grown hg2 (by simp; omega)
  go_wp2_with (rw [← hg])
  try rw [← hg]
  refine (l8Dot_ok hc2).mono ?_
  rintro e w3 ⟨r, nn, ⟨rfl, p1, p2, p3, p4⟩, hc3, hg3⟩
  have hbr3 := hbr2.grown hg3 (by simp; omega)
  have hbd3 := hbd2.grown hg3 (by simp; omega)
  have hO3 := hO.cursor hg3 hgl
  have hb13 : Below w.heap.size w w3 := hb01.grown (grown_trans hg2 hg3) hb01.size (fun k hk => by simp at hk; omega)
  have q0 := hbr3.cell 0 _ rfl
  have q1 := hbr3.free 0
  have q2 := hbr3.lt
  have q3 := hbd3.cell 0 _ rfl
  have q4 := hbd3.cell 1 _ rfl
  have q5 := hbd3.free 0
  have q6 := hbd3.free 1
  have q7 := hbd3.lt
  have HF : Hid (∀ W, W = ((w3.setCell ⟨w.heap.size, 0, none⟩ (.slice a2 m.fItems.length c2)).setCell ⟨w.heap.size + 1, 0, none⟩ (.int .i64 r)).setCell ⟨w.heap.size + 1, 1, none⟩ (.int .i64 nn) → rGraph W.heap.size W [.slice a2 m.fItems.length c2] m ∧ Below w.heap.size w W) := by
    intro W hW
    have hbw : Below w.heap.size w W := by rw [hW]; exact ((hb13.setCell (p := ⟨w.heap.size, 0, none⟩) (Nat.le_refl _) _).setCell (p := ⟨w.heap.size + 1, 0, none⟩) (by show w.heap.size ≤ w.heap.size + 1; omega) _).setCell (p := ⟨w.heap.size + 1, 1, none⟩) (by show w.heap.size ≤ w.heap.size + 1; omega) _
    have hOW : OutG w1'.heap.size W [.slice a2 m.fItems.length c2] m := by
      have hO4 : OutG w1'.heap.size (w3.setCell ⟨w.heap.size, 0, none⟩ (.slice a2 m.fItems.length c2)) [.slice a2 m.fItems.length c2] m := hO3.keep (fun b hB hl => heap_setCell_other _ ⟨w.heap.size, 0, none⟩ b _ (by show b ≠ w.heap.size; omega))
      have hO5 : OutG w1'.heap.size ((w3.setCell ⟨w.heap.size, 0, none⟩ (.slice a2 m.fItems.length c2)).setCell ⟨w.heap.size + 1, 0, none⟩ (.int .i64 r)) [.slice a2 m.fItems.length c2] m := hO4.keep (fun b hB hl => heap_setCell_other _ ⟨w.heap.size + 1, 0, none⟩ b _ (by show b ≠ w.heap.size + 1; omega))
      rw [hW]
      exact hO5.keep (fun b hB hl => heap_setCell_other _ ⟨w.heap.size + 1, 1, none⟩ b _ (by show b ≠ w.heap.size + 1; omega))
    exact ⟨hOW.read, hbw⟩
  clear hbr hbd hb0 hb1 hbr1 hbd1 hb01 hbr2 hbd2 hbr3 hbd3 hO hO3 hg2 hg3 hb13
  go_wp2_with fail
  have hfin := HF.out _ rfl
  exact bodyPost_ret (v := .tuple #[.agg #[.slice a2 m.fItems.length c2], .agg #[.int .i64 r, .int .i64 nn]]) (by simp [results, Tryd.results24, go_sem, *]) rfl (show GrpPost w _ _ from ⟨a2, c2, m, r, nn, rfl, hfin.1, hwm, ⟨wf_seven (by omega) (by omega), wf_seven (by omega) (by omega)⟩, hfin.2⟩)

set_option maxHeartbeats 2000000 in
theorem drawOrderOf_ok (a : Option Addr) (n cap : Nat) (zs : List Int) (w : World) (hx : zs.length = n) (hlen : n ≤ 1048576) (hr : Rd .u8 w.heap.size w a zs) :
    Calls Tryd.prog 29 #[.slice a n cap] w fun e w' => OrdPost w e w' := by
  obtain ⟨w0, hw0⟩ : ∃ x, x = w.alloc (.cells #[.slice none 0 0] 30) := ⟨_, rfl⟩
  have hbr : Bw w0 w.heap.size 30 [.slice none 0 0] := by rw [hw0]; exact Bw.new _ _ _
  have hb0 : Below w.heap.size w w0 := by rw [hw0]; exact (Below.refl _ _).alloc (Nat.le_refl _) _
  have hz0 := hbr.lt
  go_enter Tryd.func29, Tryd.ntmps29
  go_wp2_with (rw [← hw0])
  try rw [← hw0]
  clear hw0
  refine (l1New_any a n cap zs w0 hx (by omega) ((hr.below hb0).mono hb0.size)).mono ?_
  rintro e w1 ⟨rfl, hc1, hb1⟩
  obtain ⟨g, hg⟩ : ∃ g, g = w0.heap.size := ⟨_, rfl⟩
  rw [← hg] at hc1
  have hbr1 := hbr.under hb1
  have hgl := hc1.lt
  have hb01 := bthen hb0 hb1
  go_wp2_with (rw [← hg])
  try rw [← hg]
  refine (l1Size_ok a n cap 16 w1 hlen (by omega) (by omega)).mono ?_
  rintro e w1' ⟨x, ⟨rfl, hx100⟩, hw1'⟩
  subst hw1'
  go_wp2_with (rw [← hg])
  try rw [← hg]
  refine (l8DrawAny_ok x hc1 hx100).mono ?_
  rintro e w2 ⟨cs, m, rfl, hO, hwm, hc2, hg2⟩
  obtain ⟨a2, c2, rfl⟩ := hO.shape
  have hbr2 := hbr1.grown hg2 (by simp; omega)
  have hb12 : Below w.heap.size w w2 := hb01.grown hg2 hb01.size (fun k hk => by simp at hk; omega)
  have q0 := hbr2.cell 0 _ rfl
  have q1 := hbr2.free 0
  have q2 := hbr2.lt
  have HF : Hid (∀ W, W = w2.setCell ⟨w.heap.size, 0, none⟩ (.slice a2 m.fItems.length c2) → rGraph W.heap.size W [.slice a2 m.fItems.length c2] m ∧ Below w.heap.size w W) := by
    intro W hW
    have hbw : Below w.heap.size w W := by rw [hW]; exact hb12.setCell (p := ⟨w.heap.size, 0, none⟩) (Nat.le_refl _) _
    have hOW : OutG w1'.heap.size W [.slice a2 m.fItems.length c2] m := by
      rw [hW]
      exact hO.keep (fun b hB hl => heap_setCell_other _ ⟨w.heap.size, 0, none⟩ b _ (by show b ≠ w.heap.size; omega))
    exact ⟨hOW.read, hbw⟩
  clear hbr hb0 hb1 hbr1 hb01 hbr2 hO hg2 hb12
  go_wp2_with fail
  have hfin := HF.out _ rfl
  exact bodyPost_ret (v := .agg #[.slice a2 m.fItems.length c2]) (by simp [results, Tryd.results29, go_sem, *]) rfl (show OrdPost w _ _ from ⟨a2, c2, m, rfl, hfin.1, hwm, hfin.2⟩)

end Go.Proofs.YtmigamgcmhdncaaDoor
