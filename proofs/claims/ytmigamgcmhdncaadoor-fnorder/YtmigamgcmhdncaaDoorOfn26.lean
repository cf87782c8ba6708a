/-
  Part 27 of the texts that the proof leans on.
-/
import Derived.Test.YtmigamgcmhdncaaDoorOfn0
import Derived.Test.YtmigamgcmhdncaaDoorOfn19
import Derived.Test.YtmigamgcmhdncaaDoorOfn21
import Derived.Test.YtmigamgcmhdncaaDoorOfn22
import Derived.Test.YtmigamgcmhdncaaDoorOfn25
set_option linter.unusedVariables false
set_option linter.unusedSimpArgs false
set_option maxRecDepth 10000

namespace Go.Proofs.YtmigamgcmhdncaaDoor
open Go.RowKit
abbrev q64d_7_14_0 : Oper := ⟨some 58, .load 30 (.tmp 3), 30, "laws.go:601", #[], none⟩
abbrev q64d_7_14_1 : Oper := ⟨some 59, .fieldAddr 30 (.tmp 3) 0, 0, "laws.go:601", #[], none⟩
abbrev q64d_7_14_2 : Oper := ⟨some 60, .load 28 (.tmp 59), 28, "laws.go:601", #[⟨1, .data⟩], none⟩
abbrev q64d_7_14_3 : Oper := ⟨some 61, .move (.tmp 6), 3, "laws.go:601", #[], none⟩
abbrev q64d_7_14_4 : Oper := ⟨some 62, .indexAddr 28 (.tmp 60) (.tmp 61), 0, "laws.go:601", #[⟨2, .data⟩, ⟨3, .data⟩], none⟩
abbrev q64d_7_14_5 : Oper := ⟨some 63, .fieldAddr 52 (.tmp 62) 0, 0, "laws.go:601", #[⟨4, .data⟩], none⟩
abbrev q64d_7_14_6 : Oper := ⟨some 64, .load 40 (.tmp 63), 40, "laws.go:601", #[⟨5, .data⟩], none⟩
abbrev q64d_7_14_7 : Oper := ⟨some 65, .call { callee := .value (.func 20), args := #[.tmp 58, .tmp 64], argTypes := #[30, 40] }, 26, "laws.go:601", #[⟨0, .data⟩, ⟨6, .data⟩], none⟩
abbrev q64d_7_14_8 : Oper := ⟨some 8, .assign (.tmp 65), 26, "laws.go:601", #[⟨7, .data⟩, ⟨7, .chain⟩, ⟨0, .phase⟩, ⟨1, .phase⟩, ⟨2, .phase⟩, ⟨3, .phase⟩, ⟨4, .phase⟩, ⟨5, .phase⟩, ⟨6, .phase⟩, ⟨7, .phase⟩], none⟩

/-- An item of a graph that is read: where its cells lie. -/
theorem item_at {W : World} {a : Option Addr} {N c : Nat} {m : MGraph} (h : rGraph W.heap.size W [.slice a N c] m) {i : Nat} (hi : i < m.fItems.length) :
    ∃ b o, a = some ⟨b, o, none⟩ ∧ b < W.heap.size ∧ (∃ a2 c2, W.cell? ⟨b, o + i * 3, none⟩ = some (.int .i64 m.fItems[i].fD.fR) ∧ W.cell? ⟨b, o + i * 3 + 1, none⟩ = some (.int .i64 m.fItems[i].fD.fN) ∧ W.cell? ⟨b, o + i * 3 + 2, none⟩ = some (.slice a2 m.fItems[i].fDeps.length c2) ∧ (Lit.int .i64 m.fItems[i].fD.fR).wf = true ∧ (Lit.int .i64 m.fItems[i].fD.fN).wf = true ∧ LeafL 2 rDot W.heap.size W a2 c2 m.fItems[i].fDeps) := by
  obtain ⟨a0, c0, e, hL, _⟩ := h
  simp only [List.cons.injEq, Value.slice.injEq, and_true] at e
  obtain ⟨rfl, rfl, rfl⟩ := e
  obtain ⟨b, o, rfl, hB, cs, hcl, hcell, a2, c2, rfl, g0, g1, g2, _⟩ := hL.2.2 i hi
  have k0 := hcell 0 _ rfl
  rw [Nat.add_zero] at k0
  exact ⟨b, o, rfl, hB, a2, c2, k0, hcell 1 _ rfl, hcell 2 _ rfl, g0, g1, g2⟩

set_option maxHeartbeats 8000000 in
theorem law_FnOrder_r (a : Option Addr) (n cap : Nat) (zs : List Int) (w : World) (hx : zs.length = n) (hr : Rd .u8 w.heap.size w a zs) (hT : TzAt w) :
    Calls Tryd.prog 7 #[.slice a n cap] w fun e w' => e = .returned (.bool true) ∧ Below w.heap.size w w' := by
  go_enter Tryd.func7, Tryd.ntmps7
  go_wp2_with fail
  refine (bigG_any a n cap w).mono ?_
  rintro e w0 ⟨rfl, hw0⟩
  have hw0' := hw0.symm
  clear hw0
  subst hw0'
  by_cases hbig : 1048576 < (n : Int)
  · rw [decide_eq_true hbig]
    go_wp2_with fail
    go_ret
    exact ⟨rfl, Below.refl _ _⟩
  rw [decide_eq_false hbig]
  go_wp2_with fail
  refine (drawOrderOf_ok a n cap zs w hx (by omega) hr).mono ?_
  rintro e w1 ⟨ag, cg, m, rfl, hrg, hwm, hb1⟩
  have hwM : wGraph m ≤ 1048576 := by omega
  have hml : m.fItems.length ≤ 6300 := by have h : m.fItems.length + sumW wItem m.fItems ≤ 6300 := hwm; omega
  have HWM := Hid.mk hwM
  clear hwm hwM
  obtain ⟨N, hN⟩ : ∃ N, N = m.fItems.length := ⟨_, rfl⟩
  rw [← hN] at hrg hml ⊢
  have HN := Hid.mk hN.symm
  clear hN
  obtain ⟨w2, hw2⟩ : ∃ x, x = w1.alloc (.cells #[.slice ag N cg] 30) := ⟨_, rfl⟩
  have hx2 : Below w1.heap.size w1 w2 := by rw [hw2]; exact (Below.refl _ _).alloc (Nat.le_refl _) _
  have hbg : Bx w2 w1.heap.size [.slice ag N cg] := by rw [hw2]; exact Bx.new _ _ _
  have HRG : Hid (∀ W, Below w2.heap.size w2 W → rGraph W.heap.size W [.slice ag N cg] m) := fun W hb => rGraph_good.mono (rGraph_good.below hrg (bthen hx2 hb)) (bthen hx2 hb).size
  have HTZ : Hid (∀ W, Below w2.heap.size w2 W → TzAt W) := fun W hb => hT.below (bthen hb1 (bthen hx2 hb))
  have HG0 : Hid (∀ W, Below w2.heap.size w2 W → W.cell? ⟨w1.heap.size, 0, none⟩ = some (.slice ag N cg)) := fun W hb => (hbg.under hb).2 0 _ rfl
  have hb2 := bthen hb1 hx2
  have hz2 := hbg.1
  obtain ⟨b0, hb0e⟩ : ∃ b, b = w1.heap.size := ⟨_, rfl⟩
  rw [← hb0e] at HG0 hz2
  have y0 := HG0.out _ (Below.refl _ _)
  obtain ⟨WL, hWL⟩ := whole_ex m
  have HWL := Hid.mk hWL
  have hWLn : WL.length ≤ 6300 := by have h1 := hWL.len; have h2 := HN.out; omega
  obtain ⟨OL, hOL⟩ := order_ex m
  have HOL := Hid.mk hOL
  have hOLn : OL.length ≤ 10000 := hOL.len
  have HCNT := Hid.mk (hOL.count hWL)
  clear hT hWL hOL hrg hbg
  go_wp2_with (rw [← hw2])
  try rw [← hw2]
  try rw [← hb0e]
  clear hw2 hb0e hx2 hb1
  refine (implOrderOf_c OL [.slice ag N cg] m HOL.out w2 (HRG.out _ (Below.refl _ _)) HWM.out (HTZ.out _ (Below.refl _ _))).mono ?_
  rintro e w3 ⟨v3, F3, rfl, ho3, _, _, hx3⟩
  obtain ⟨a3, c3, rfl, hL3⟩ := rdDs_own ho3
  have HW3 : Hid (∀ W, Below w3.heap.size w3 W → LeafL 2 rDot W.heap.size W a3 c3 OL) := fun W hb => LeafL.mono rDot_good (hL3.below rDot_good hb) hb.size
  clear ho3 hL3 y0
  have y0 := HG0.out _ hx3
  have hz3 : b0 < w3.heap.size := Nat.lt_of_lt_of_le hz2 hx3.size
  go_wp2_with fail
  refine (implWhole_c WL [.slice ag N cg] m HWL.out w3 (HRG.out _ hx3) HWM.out (HTZ.out _ hx3)).mono ?_
  rintro e w4 ⟨v4, F4, rfl, ho4, _, _, hx4⟩
  obtain ⟨a4, c4, rfl, hL4⟩ := rdDs_own ho4
  have HW4 : Hid (∀ W, Below w4.heap.size w4 W → LeafL 2 rDot W.heap.size W a4 c4 WL) := fun W hb => LeafL.mono rDot_good (hL4.below rDot_good hb) hb.size
  have hb24 := bthen hx3 hx4
  clear ho4 hL4 y0
  have y0 := HG0.out _ hb24
  have hz4 : b0 < w4.heap.size := Nat.lt_of_lt_of_le hz2 hb24.size
  obtain ⟨Q, hQ⟩ : ∃ Q, Q = WL.length := ⟨_, rfl⟩
  have HQ := Hid.mk hQ.symm
  have HQ2 : Hid (OL.length = Q) := by unfold Hid; rw [hQ]; exact HCNT.out
  rw [← hQ] at hWLn ⊢
  rw [HQ2.out]
  clear hQ HCNT hOLn
  go_wp2_with fail
  refine (specOrderOf_c OL [.slice ag N cg] m HOL.out w4 (HRG.out _ hb24) HWM.out).mono ?_
  rintro e w5 ⟨v5, rfl, hr5, hx5⟩
  obtain ⟨a5, c5, rfl, hL5⟩ := hr5
  rw [HQ2.out]
  have hb25 := bthen hb24 hx5
  have hb35 := bthen hx4 hx5
  clear y0
  have y0 := HG0.out _ hb25
  go_wp2_with fail
  refine (sameDots_yes a3 a5 Q c3 c5 OL w5 HQ2.out (by omega) (HW3.out _ hb35) hL5).mono ?_
  rintro e w6 ⟨rfl, hx6⟩
  have hb26 := bthen hb25 hx6
  have hb36 := bthen hb35 hx6
  have hb46 := bthen hx5 hx6
  have hbW6 := bthen hb2 hb26
  have hz6 : b0 < w6.heap.size := Nat.lt_of_lt_of_le hz2 hb26.size
  clear y0 hL5 hx5 hx6 hb24 hb25 hb35 hx3 hx4
  go_wp2_with fail
  go_loopw [6] (fun i wr => ∃ k : Nat, k ≤ N ∧ i = .int .i64 k ∧ Below w6.heap.size w6 wr) (fun i _ => N - (intOf i).toNat)
  case atStart => exact ⟨0, Nat.zero_le _, rfl, Below.refl _ _⟩
  case round =>
    obtain ⟨k, hk, rfl, hbk⟩ := hrel
    have hb2k := bthen hb26 hbk
    have hb3k := bthen hb36 hbk
    have hb4k := bthen hb46 hbk
    have y0 := HG0.out _ hb2k
    have hzk : b0 < wr.heap.size := Nat.lt_of_lt_of_le hz2 hb2k.size
    by_cases hlt : k < N
    rotate_left
    · have hkn : ¬ (k : Int) < (N : Int) := by omega
      go_wp2_with fail
      go_ret
      exact ⟨rfl, bthen hbW6 hbk⟩
    have hkl : k < m.fItems.length := by rw [HN.out]; exact hlt
    obtain ⟨bi, oi, rfl, hbi, a2, c2, k0, k1, k2, g0, g1, hDL⟩ := item_at (HRG.out _ hb2k) hkl
    have hdl : m.fItems[k].fDeps.length ≤ 1048576 := wGraph_deps HWM.out k hkl
    obtain ⟨G, hG⟩ := PickL.ex m.fItems (InGroup m m.fItems[k].fD)
    have hGn : G.length ≤ 6300 := by have h1 := hG.len; have h2 := HN.out; omega
    have HDEP : Hid (∀ (x y : Int) (d : MDot), PlcAt OL m.fItems[k].fD x → 0 ≤ x → d ∈ m.fItems[k].fDeps → d ∉ G → PlcAt OL d y → y < x) := fun x y d hx hx0 hd hdG hy => order_dep HOL.out HWL.out hkl hG hx hx0 hd hdG hy
    have HGG := Hid.mk hG
    have hMEM : m.fItems[k].fD ∈ OL ↔ m.fItems[k].fD ∈ WL := HOL.out.mem HWL.out
    have HMEM := Hid.mk hMEM
    have hCP1 := place_any a3 Q c3 OL m.fItems[k].fD wr HQ2.out (by omega) (HW3.out _ hb3k)
    have hk1 : (0 : Int) ≤ (k : Int) := by omega
    have hk2 : (k : Int) < (N : Int) := by omega
    have HK0 : Hid (∀ W, Below wr.heap.size wr W → W.cell? ⟨bi, oi + k * 3, none⟩ = some (.int .i64 m.fItems[k].fD.fR)) := fun W h => (h.cell (p := ⟨bi, oi + k * 3, none⟩) hbi).trans k0
    have HK1 : Hid (∀ W, Below wr.heap.size wr W → W.cell? ⟨bi, oi + k * 3 + 1, none⟩ = some (.int .i64 m.fItems[k].fD.fN)) := fun W h => (h.cell (p := ⟨bi, oi + k * 3 + 1, none⟩) hbi).trans k1
    have HK2 : Hid (∀ W, Below wr.heap.size wr W → W.cell? ⟨bi, oi + k * 3 + 2, none⟩ = some (.slice a2 m.fItems[k].fDeps.length c2)) := fun W h => (h.cell (p := ⟨bi, oi + k * 3 + 2, none⟩) hbi).trans k2
    have HDL : Hid (∀ W, Below wr.heap.size wr W → LeafL 2 rDot W.heap.size W a2 c2 m.fItems[k].fDeps) := fun W h => LeafL.mono rDot_good (hDL.below rDot_good h) h.size
    have HWF : Hid ((Lit.int .i64 m.fItems[k].fD.fR).wf = true ∧ (Lit.int .i64 m.fItems[k].fD.fN).wf = true) := ⟨g0, g1⟩
    clear hG hMEM k2 hDL g0 g1
    generalize m.fItems[k].fDeps = ds at *
    generalize m.fItems[k].fD = d at *
    obtain ⟨D, hD⟩ : ∃ D, D = ds.length := ⟨_, rfl⟩
    have HD := Hid.mk hD.symm
    rw [← hD] at hdl HK2
    clear hD
    go_wp2_with fail
    refine hCP1.mono ?_
    rintro e w7 ⟨⟨x, HX, rfl⟩, hx7⟩
    have hb27 := bthen hb2k hx7
    have hb47 := bthen hb4k hx7
    have hz7 : b0 < w7.heap.size := Nat.lt_of_lt_of_le hz2 hb27.size
    clear y0 k0 k1 hCP1
    have y0 := HG0.out _ hb27
    have k0 := HK0.out _ hx7
    have k1 := HK1.out _ hx7
    have hCP2 := place_any a4 Q c4 WL d w7 HQ.out (by omega) (HW4.out _ hb47)
    go_wp2_with fail
    refine hCP2.mono ?_
    rintro e w8 ⟨⟨y, HY, rfl⟩, hx8⟩
    have hb78 := bthen hx7 hx8
    have hb28 := bthen hb27 hx8
    have hz8 : b0 < w8.heap.size := Nat.lt_of_lt_of_le hz2 hb28.size
    clear y0 k0 k1 hCP2
    have y0 : ∀ W, Below w8.heap.size w8 W → W.cell? ⟨b0, 0, none⟩ = some (.slice (some ⟨bi, oi, none⟩) N cg) := fun W h => HG0.out W (bthen hb28 h)
    have k0 : ∀ W, Below w8.heap.size w8 W → W.cell? ⟨bi, oi + k * 3, none⟩ = some (.int .i64 d.fR) := fun W h => HK0.out W (bthen hb78 h)
    have k1 : ∀ W, Below w8.heap.size w8 W → W.cell? ⟨bi, oi + k * 3 + 1, none⟩ = some (.int .i64 d.fN) := fun W h => HK1.out W (bthen hb78 h)
    have hCG := fun W (h : Below w8.heap.size w8 W) => implGroup_c G [.slice (some ⟨bi, oi, none⟩) N cg] m [.int .i64 d.fR, .int .i64 d.fN] d HGG.out W (HRG.out _ (bthen hb28 h)) HWM.out ⟨rfl, HWF.out.1, HWF.out.2, trivial⟩ (HTZ.out _ (bthen hb28 h))
    have HBIG : Hid (∀ W, Below w8.heap.size w8 W → Below wr.heap.size wr W) := fun W h => bthen hb78 h
    by_cases hin : d ∈ OL
    rotate_left
    · have hxn : ¬ 0 ≤ x := fun h => hin (HX.out.pos.1 h)
      have hyn : ¬ 0 ≤ y := fun h => hin (HMEM.out.2 (HY.out.pos.1 h))
      have hxd : decide (0 ≤ x) = false := decide_eq_false hxn
      have hyd : decide (0 ≤ y) = false := decide_eq_false hyn
      go_wp2_with fail
      refine wp_region_held_drew (S := fun W => Below w8.heap.size w8 W) (by kernel_rfl) (Below.drew (Below.refl _ _)) (fun hHeld => ?_)
      refine tk 0 q64d_7_14_0 (some 58) (v := ?v1) rfl rfl (by kernel_rfl) hHeld (by rfl) (fun _ _ _ x => x) (fun w h => ?y1) ?_; (case y1 => (try dsimp only at h); go_simp; try (with_reducible rfl)); try simp only [Act.put, sa, s0, s1]
      refine tk 1 q64d_7_14_1 (some 59) (v := ?v2) rfl rfl (by kernel_rfl) hHeld (by rfl) (fun _ _ _ x => x) (fun w h => ?y2) ?_; (case y2 => (try dsimp only at h); go_simp; try (with_reducible rfl)); try simp only [Act.put, sa, s0, s1]
      refine tk 2 q64d_7_14_2 (some 60) (v := ?v3) rfl rfl (by kernel_rfl) hHeld (by rfl) (fun _ _ _ x => x) (fun w h => ?y3) ?_; (case y3 => (try dsimp only at h); go_simp; try (with_reducible rfl)); try simp only [Act.put, sa, s0, s1]
      refine tk 3 q64d_7_14_3 (some 61) (v := ?v4) rfl rfl (by kernel_rfl) hHeld (by rfl) (fun _ _ _ x => x) (fun w h => ?y4) ?_; (case y4 => (try dsimp only at h); go_simp; try (with_reducible rfl)); try simp only [Act.put, sa, s0, s1]
      refine tk 4 q64d_7_14_4 (some 62) (v := ?v5) rfl rfl (by kernel_rfl) hHeld (by rfl) (fun _ _ _ x => x) (fun w h => ?y5) ?_; (case y5 => (try dsimp only at h); go_simp; try (with_reducible rfl)); try simp only [Act.put, sa, s0, s1]
      refine tk 5 q64d_7_14_5 (some 63) (v := ?v6) rfl rfl (by kernel_rfl) hHeld (by rfl) (fun _ _ _ x => x) (fun w h => ?y6) ?_; (case y6 => (try dsimp only at h); go_simp; try (with_reducible rfl)); try simp only [Act.put, sa, s0, s1]
      refine tk 6 q64d_7_14_6 (some 64) (v := ?v7) rfl rfl (by kernel_rfl) hHeld (by rfl) (fun _ _ _ x => x) (fun w h => ?y7) ?_; (case y7 => (try dsimp only at h); go_simp; try (with_reducible rfl)); try simp only [Act.put, sa, s0, s1]
      refine wpAnyH_ready (rs := [7]) (by kernel_rfl) (by simp) ?_
      refine AllReadyH.cons (o := q64d_7_14_7) rfl (fun K hK => ?_) AllReadyH.nil
      go_simp
      refine Calls.mono (hCG _ hHeld) ?_
      rintro e v1 ⟨vx, Fx, rfl, hox, _, _, hx1⟩
      go_wp2_with fail
      refine hK.out _ _ (bthen hHeld hx1) (fun hHeld => ?_)
      clear hK K
      try simp only [Act.put, sa, s0, s1]
      refine tk 8 q64d_7_14_8 (some 8) (v := ?v8) rfl rfl (by kernel_rfl) hHeld (by rfl) (fun _ _ _ x => x) (fun w h => ?y8) ?_; (case y8 => (try dsimp only at h); go_simp; try (with_reducible rfl)); try simp only [Act.put, sa, s0, s1]
      refine wpAnyH_done (by kernel_rfl) ?_ _
      have hbr9 := bthen hbk (HBIG.out _ hHeld)
      clear k0 k1 hCG
      have y1 := y0 _ hHeld
      have k3 := HK2.out _ (HBIG.out _ hHeld)
      have hz9 : b0 < v1.heap.size := Nat.lt_of_lt_of_le hz8 hHeld.size
      clear y0
      obtain ⟨w9, hw9⟩ : ∃ z, z = v1 := ⟨_, rfl⟩
      rw [← hw9] at hbr9 y1 k3 hz9 ⊢
      clear hw9 hHeld hox hx1
      go_wp2_with fail
      go_loopw [9] (fun i wr => ∃ j : Nat, i = .int .i64 j ∧ j = 0 ∧ wr = w9) (fun i _ => 0)
      case atStart => exact ⟨0, rfl, rfl, rfl⟩
      case round =>
        obtain ⟨j, rfl, rfl, rfl⟩ := hrel
        by_cases hd0 : 0 < D
        · have hd1 : (0 : Int) < (D : Int) := by omega
          have hd2 : decide ((0 : Int) < (D : Int)) = true := decide_eq_true hd1
          go_wp2_with fail
          go_roundw
          case rel => exact ⟨k + 1, by omega, by go_num, hbr9⟩
          case measure => simp [intOf]; omega
        · have hd1 : ¬ (0 : Int) < (D : Int) := by omega
          have hd2 : decide ((0 : Int) < (D : Int)) = false := decide_eq_false hd1
          go_wp2_with fail
          go_roundw
          case rel => exact ⟨k + 1, by omega, by go_num, hbr9⟩
          case measure => simp [intOf]; omega
    · have hxp : 0 ≤ x := HX.out.pos.2 hin
      have hyp : 0 ≤ y := HY.out.pos.2 (HMEM.out.1 hin)
      have hxd : decide (0 ≤ x) = true := decide_eq_true hxp
      have hyd : decide (0 ≤ y) = true := decide_eq_true hyp
      go_wp2_with fail
      refine wp_region_held_drew (S := fun W => Below w8.heap.size w8 W) (by kernel_rfl) (Below.drew (Below.refl _ _)) (fun hHeld => ?_)
      refine tk 0 q64d_7_14_0 (some 58) (v := ?v9) rfl rfl (by kernel_rfl) hHeld (by rfl) (fun _ _ _ x => x) (fun w h => ?y9) ?_; (case y9 => (try dsimp only at h); go_simp; try (with_reducible rfl)); try simp only [Act.put, sa, s0, s1]
      refine tk 1 q64d_7_14_1 (some 59) (v := ?v10) rfl rfl (by kernel_rfl) hHeld (by rfl) (fun _ _ _ x => x) (fun w h => ?y10) ?_; (case y10 => (try dsimp only at h); go_simp; try (with_reducible rfl)); try simp only [Act.put, sa, s0, s1]
      refine tk 2 q64d_7_14_2 (some 60) (v := ?v11) rfl rfl (by kernel_rfl) hHeld (by rfl) (fun _ _ _ x => x) (fun w h => ?y11) ?_; (case y11 => (try dsimp only at h); go_simp; try (with_reducible rfl)); try simp only [Act.put, sa, s0, s1]
      refine tk 3 q64d_7_14_3 (some 61) (v := ?v12) rfl rfl (by kernel_rfl) hHeld (by rfl) (fun _ _ _ x => x) (fun w h => ?y12) ?_; (case y12 => (try dsimp only at h); go_simp; try (with_reducible rfl)); try simp only [Act.put, sa, s0, s1]
      refine tk 4 q64d_7_14_4 (some 62) (v := ?v13) rfl rfl (by kernel_rfl) hHeld (by rfl) (fun _ _ _ x => x) (fun w h => ?y13) ?_; (case y13 => (try dsimp only at h); go_simp; try (with_reducible rfl)); try simp only [Act.put, sa, s0, s1]
      refine tk 5 q64d_7_14_5 (some 63) (v := ?v14) rfl rfl (by kernel_rfl) hHeld (by rfl) (fun _ _ _ x => x) (fun w h => ?y14) ?_; (case y14 => (try dsimp only at h); go_simp; try (with_reducible rfl)); try simp only [Act.put, sa, s0, s1]
      refine tk 6 q64d_7_14_6 (some 64) (v := ?v15) rfl rfl (by kernel_rfl) hHeld (by rfl) (fun _ _ _ x => x) (fun w h => ?y15) ?_; (case y15 => (try dsimp only at h); go_simp; try (with_reducible rfl)); try simp only [Act.put, sa, s0, s1]
      refine wpAnyH_ready (rs := [7]) (by kernel_rfl) (by simp) ?_
      refine AllReadyH.cons (o := q64d_7_14_7) rfl (fun K hK => ?_) AllReadyH.nil
      go_simp
      refine Calls.mono (hCG _ hHeld) ?_
      rintro e v1 ⟨vx, Fx, rfl, hox, _, _, hx1⟩
      obtain ⟨ax, cx, rfl, hLx⟩ := rdDs_own hox
      go_wp2_with fail
      refine hK.out _ _ (bthen hHeld hx1) (fun hHeld => ?_)
      clear hK K
      try simp only [Act.put, sa, s0, s1]
      refine tk 8 q64d_7_14_8 (some 8) (v := ?v16) rfl rfl (by kernel_rfl) hHeld (by rfl) (fun _ _ _ x => x) (fun w h => ?y16) ?_; (case y16 => (try dsimp only at h); go_simp; try (with_reducible rfl)); try simp only [Act.put, sa, s0, s1]
      refine wpAnyH_done (by kernel_rfl) ?_ _
      have HLX : Hid (∀ W, Below v1.heap.size v1 W → LeafL 2 rDot W.heap.size W ax cx G) := fun W h => LeafL.mono rDot_good (hLx.below rDot_good h) h.size
      have HY0 : Hid (∀ W, Below v1.heap.size v1 W → W.cell? ⟨b0, 0, none⟩ = some (.slice (some ⟨bi, oi, none⟩) N cg)) := fun W h => y0 W (bthen hHeld h)
      have HK3 : Hid (∀ W, Below v1.heap.size v1 W → W.cell? ⟨bi, oi + k * 3 + 2, none⟩ = some (.slice a2 D c2)) := fun W h => HK2.out W (HBIG.out W (bthen hHeld h))
      have HDX : Hid (∀ W, Below v1.heap.size v1 W → LeafL 2 rDot W.heap.size W a2 c2 ds) := fun W h => HDL.out W (HBIG.out W (bthen hHeld h))
      have HOX : Hid (∀ W, Below v1.heap.size v1 W → LeafL 2 rDot W.heap.size W a3 c3 OL) := fun W h => HW3.out W (bthen hb3k (HBIG.out W (bthen hHeld h)))
      have HRX : Hid (∀ W, Below v1.heap.size v1 W → Below w6.heap.size w6 W) := fun W h => bthen hbk (HBIG.out W (bthen hHeld h))
      have hz9 : b0 < v1.heap.size := Nat.lt_of_lt_of_le hz8 hHeld.size
      have hbi9 : bi < v1.heap.size := by have h1 := (HBIG.out _ hHeld).size; omega
      obtain ⟨w9, hw9⟩ : ∃ z, z = v1 := ⟨_, rfl⟩
      rw [← hw9] at HLX HY0 HK3 HDX HOX HRX hz9 hbi9 ⊢
      clear hw9 hHeld hox hx1 hLx y0 k0 k1 hCG HBIG HK0 HK1 HK2 HDL hb78 hb28 hb27 hb47 hx7 hx8 hb2k hb3k hb4k
      generalize wr = wo at *
      go_wp2_with fail
      go_loopw [9] (fun i wr => ∃ j : Nat, j ≤ D ∧ i = .int .i64 j ∧ Below w9.heap.size w9 wr) (fun i _ => D - (intOf i).toNat)
      case atStart => exact ⟨0, Nat.zero_le _, rfl, Below.refl _ _⟩
      case round =>
        obtain ⟨j, hj, rfl, hbj⟩ := hrel
        have y1 := HY0.out _ hbj
        have k3 := HK3.out _ hbj
        have hzj : b0 < wr.heap.size := Nat.lt_of_lt_of_le hz9 hbj.size
        have hbij : bi < wr.heap.size := Nat.lt_of_lt_of_le hbi9 hbj.size
        by_cases hjd : j < D
        · have hjl : j < ds.length := by rw [HD.out]; exact hjd
          obtain ⟨b5, o5, rfl, hB5, cs, hcl, hcell, rfl, q0, q1, _⟩ := (HDX.out _ hbj).2.2 j hjl
          have c0 := hcell 0 _ rfl
          have c1 := hcell 1 _ rfl
          rw [Nat.add_zero] at c0
          have HMJ : Hid (ds[j] ∈ ds) := List.getElem_mem hjl
          have hj1 : (0 : Int) ≤ (j : Int) := by omega
          have hj2 : (j : Int) < (D : Int) := by omega
          have hj3 : decide ((j : Int) < (D : Int)) = true := decide_eq_true hj2
          clear hcell hcl
          generalize ds[j] = dd at *
          obtain ⟨wd, hwd⟩ : ∃ z, z = wr.alloc (.cells #[.int .i64 dd.fR, .int .i64 dd.fN] 40) := ⟨_, rfl⟩
          have hbd : Below wr.heap.size wr wd := by rw [hwd]; exact (Below.refl _ _).alloc (Nat.le_refl _) _
          have hbx : Bx wd wr.heap.size [.int .i64 dd.fR, .int .i64 dd.fN] := by rw [hwd]; exact Bx.new _ _ _
          have hbjd := bthen hbj hbd
          go_wp2_with fail
          rw [← hwd]
          clear hwd
          refine (place_any ax G.length cx G dd wd rfl (by omega) (HLX.out _ hbjd)).mono ?_
          rintro e w10 ⟨⟨p, HP, rfl⟩, hx10⟩
          have hbj10 := bthen hbjd hx10
          have hbx10 := hbx.under hx10
          have z0 := hbx10.2 0 _ rfl
          have z1 := hbx10.2 1 _ rfl
          have z2 := hbx10.1
          clear y1 k3 c0 c1
          by_cases hdG : dd ∈ G
          · have hp0 : ¬ p < 0 := by have := HP.out.pos.2 hdG; omega
            have hp1 : decide (p < 0) = false := decide_eq_false hp0
            go_wp2_with fail
            go_roundw
            case rel => exact ⟨j + 1, by omega, by go_num, hbj10⟩
            case measure => simp [intOf]; omega
          · have hp0 : p < 0 := HP.out.neg.2 hdG
            have hp1 : decide (p < 0) = true := decide_eq_true hp0
            go_wp2_with fail
            refine (place_any a3 Q c3 OL dd w10 HQ2.out (by omega) (HOX.out _ hbj10)).mono ?_
            rintro e w11 ⟨⟨q, HQQ, rfl⟩, hx11⟩
            have hq0 : ¬ x ≤ q := by have := HDEP.out x q dd HX.out hxp HMJ.out hdG HQQ.out; omega
            have hq1 : decide (x ≤ q) = false := decide_eq_false hq0
            go_wp2_with fail
            go_roundw
            case rel => exact ⟨j + 1, by omega, by go_num, bthen hbj10 hx11⟩
            case measure => simp [intOf]; omega
        · have hjn : ¬ (j : Int) < (D : Int) := by omega
          have hjn1 : decide ((j : Int) < (D : Int)) = false := decide_eq_false hjn
          have hfin := HRX.out _ hbj
          go_wp2_with fail
          go_roundw
          case rel => exact ⟨k + 1, by omega, by go_num, hfin⟩
          case measure => simp [intOf]; omega

/-- A slice of bytes that is read. -/
def rdB (B : Nat) (w : World) (v : Value) (zs : List Int) : Prop := ∃ a c, v = .slice a zs.length c ∧ LeafB B w a c zs

theorem law_FnOrder (cs0 : Value) (m0 : List Int) (w : World) (hr0 : rdB w.heap.size w cs0 m0) (hT : TzAt w) :
    Calls Tryd.prog 7 #[cs0] w fun e w' => e = .returned (.bool true) ∧ Below w.heap.size w w' := by
  obtain ⟨a, c, rfl, h⟩ := hr0
  exact law_FnOrder_r a m0.length c m0 w rfl h.2.2.1 hT

end Go.Proofs.YtmigamgcmhdncaaDoor
