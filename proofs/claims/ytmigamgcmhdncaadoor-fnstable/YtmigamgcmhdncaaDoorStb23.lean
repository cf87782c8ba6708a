/-
  Part 24 of the texts that the proof leans on.
-/
import Derived.Test.YtmigamgcmhdncaaDoorStb0
import Derived.Test.YtmigamgcmhdncaaDoorStb19
import Derived.Test.YtmigamgcmhdncaaDoorStb22
import Derived.Test.YtmigamgcmhdncaaDoorStb10
import Derived.Deep.DeepCutAuto
set_option linter.unusedVariables false
set_option linter.unusedSimpArgs false
set_option maxRecDepth 10000

namespace Go.Proofs.YtmigamgcmhdncaaDoor
open Go.RowKit
abbrev q40a_8_16_0 : Oper := ⟨some 62, .fieldAddr 30 (.tmp 3) 0, 0, "laws.go:627", #[], none⟩
abbrev q40a_8_16_1 : Oper := ⟨some 63, .load 28 (.tmp 62), 28, "laws.go:627", #[⟨0, .data⟩], none⟩
abbrev q40a_8_16_2 : Oper := ⟨some 64, .move (.tmp 9), 3, "laws.go:627", #[], none⟩
abbrev q40a_8_16_3 : Oper := ⟨some 65, .indexAddr 28 (.tmp 63) (.tmp 64), 0, "laws.go:627", #[⟨1, .data⟩, ⟨2, .data⟩], none⟩
abbrev q40a_8_16_4 : Oper := ⟨some 66, .fieldAddr 52 (.tmp 65) 0, 0, "laws.go:627", #[⟨3, .data⟩], none⟩
abbrev q40a_8_16_5 : Oper := ⟨some 67, .load 40 (.tmp 66), 40, "laws.go:627", #[⟨4, .data⟩], none⟩
abbrev q40a_8_16_6 : Oper := ⟨some 68, .move (.tmp 7), 26, "laws.go:627", #[], none⟩
abbrev q40a_8_16_7 : Oper := ⟨some 69, .move (.tmp 8), 3, "laws.go:627", #[], none⟩
abbrev q40a_8_16_8 : Oper := ⟨some 70, .indexAddr 26 (.tmp 68) (.tmp 69), 0, "laws.go:627", #[⟨6, .data⟩, ⟨7, .data⟩], none⟩
abbrev q40a_8_16_9 : Oper := ⟨some 71, .load 40 (.tmp 70), 40, "laws.go:627", #[⟨8, .data⟩], none⟩
abbrev q40a_8_16_10 : Oper := ⟨some 72, .binOp .neq 40 (.tmp 67) (.tmp 71) 40, 4, "laws.go:627", #[⟨5, .data⟩, ⟨9, .data⟩], none⟩
abbrev q40a_8_37_0 : Oper := ⟨some 162, .move (.tmp 4), 26, "laws.go:650", #[], none⟩
abbrev q40a_8_37_1 : Oper := ⟨some 163, .load 40 (.tmp 15), 40, "laws.go:650", #[], none⟩
abbrev q40a_8_37_3 : Oper := ⟨some 165, .move (.tmp 4), 26, "laws.go:650", #[], none⟩
abbrev q40a_8_37_4 : Oper := ⟨some 166, .load 40 (.tmp 17), 40, "laws.go:650", #[], none⟩
abbrev q40a_8_37_7 : Oper := ⟨some 169, .move (.tmp 13), 26, "laws.go:650", #[], none⟩
abbrev q40a_8_37_8 : Oper := ⟨some 170, .load 40 (.tmp 15), 40, "laws.go:650", #[], none⟩
abbrev q40a_8_37_10 : Oper := ⟨some 172, .move (.tmp 13), 26, "laws.go:650", #[], none⟩
abbrev q40a_8_37_11 : Oper := ⟨some 173, .load 40 (.tmp 17), 40, "laws.go:650", #[], none⟩
abbrev q40a_8_37_2 : Oper := ⟨some 164, .call { callee := .value (.func 26), args := #[.tmp 162, .tmp 163], argTypes := #[26, 40] }, 3, "laws.go:650", #[⟨0, .data⟩, ⟨1, .data⟩], none⟩
abbrev q40a_8_37_5 : Oper := ⟨some 167, .call { callee := .value (.func 26), args := #[.tmp 165, .tmp 166], argTypes := #[26, 40] }, 3, "laws.go:650", #[⟨3, .data⟩, ⟨4, .data⟩, ⟨2, .chain⟩], none⟩
abbrev q40a_8_37_6 : Oper := ⟨some 168, .binOp .lss 3 (.tmp 164) (.tmp 167) 3, 4, "laws.go:650", #[⟨2, .data⟩, ⟨5, .data⟩], none⟩
abbrev q40a_8_37_9 : Oper := ⟨some 171, .call { callee := .value (.func 26), args := #[.tmp 169, .tmp 170], argTypes := #[26, 40] }, 3, "laws.go:650", #[⟨7, .data⟩, ⟨8, .data⟩, ⟨5, .chain⟩], none⟩
abbrev q40a_8_37_12 : Oper := ⟨some 174, .call { callee := .value (.func 26), args := #[.tmp 172, .tmp 173], argTypes := #[26, 40] }, 3, "laws.go:650", #[⟨10, .data⟩, ⟨11, .data⟩, ⟨9, .chain⟩], none⟩
abbrev q40a_8_37_13 : Oper := ⟨some 175, .binOp .lss 3 (.tmp 171) (.tmp 174) 3, 4, "laws.go:650", #[⟨9, .data⟩, ⟨12, .data⟩], none⟩
abbrev q40a_8_37_14 : Oper := ⟨some 176, .binOp .neq 4 (.tmp 168) (.tmp 175) 4, 4, "laws.go:650", #[⟨6, .data⟩, ⟨13, .data⟩], none⟩
abbrev q40a_8_7_0 : Oper := ⟨some 35, .fieldAddr 30 (.tmp 3) 0, 0, "laws.go:622", #[], none⟩
abbrev q40a_8_7_1 : Oper := ⟨some 36, .load 28 (.tmp 35), 28, "laws.go:622", #[⟨0, .data⟩], none⟩
abbrev q40a_8_7_2 : Oper := ⟨some 37, .move (.tmp 0), 43, "laws.go:622", #[], none⟩
abbrev q40a_8_7_4 : Oper := ⟨some 39, .fieldAddr 30 (.tmp 3) 0, 0, "laws.go:622", #[], none⟩
abbrev q40a_8_7_5 : Oper := ⟨some 40, .load 28 (.tmp 39), 28, "laws.go:622", #[⟨4, .data⟩], none⟩
abbrev q40a_8_7_6 : Oper := ⟨some 41, .call { callee := .builtin .len, args := #[.tmp 40], argTypes := #[28] }, 3, "laws.go:622", #[⟨5, .data⟩], none⟩
abbrev q40a_8_7_11 : Oper := ⟨some 5, .alloc 40, 0, "laws.go:622", #[], none⟩
abbrev q40a_8_7_3 : Oper := ⟨some 38, .call { callee := .value (.func 31), args := #[.tmp 37, .const (.int .i64 2)], argTypes := #[43, 3] }, 3, "laws.go:622", #[⟨2, .data⟩], none⟩
abbrev q40a_8_7_7 : Oper := ⟨some 42, .binOp .rem 3 (.tmp 38) (.tmp 41) 3, 3, "laws.go:622", #[⟨3, .data⟩, ⟨6, .data⟩], none⟩
abbrev q40a_8_7_8 : Oper := ⟨some 43, .indexAddr 28 (.tmp 36) (.tmp 42), 0, "laws.go:622", #[⟨1, .data⟩, ⟨7, .data⟩], none⟩
abbrev q40a_8_7_9 : Oper := ⟨some 44, .fieldAddr 52 (.tmp 43) 0, 0, "laws.go:622", #[⟨8, .data⟩], none⟩
abbrev q40a_8_7_10 : Oper := ⟨some 45, .load 40 (.tmp 44), 40, "laws.go:622", #[⟨9, .data⟩], none⟩
abbrev q40a_8_7_12 : Oper := ⟨none, .store 40 (.tmp 5) (.tmp 45), 0, "laws.go:622", #[⟨11, .data⟩, ⟨10, .data⟩, ⟨3, .chain⟩, ⟨0, .phase⟩, ⟨1, .phase⟩, ⟨2, .phase⟩, ⟨3, .phase⟩, ⟨4, .phase⟩, ⟨5, .phase⟩, ⟨6, .phase⟩, ⟨7, .phase⟩, ⟨8, .phase⟩, ⟨9, .phase⟩, ⟨10, .phase⟩, ⟨11, .phase⟩], none⟩
abbrev q40a_8_17_0 : Oper := ⟨some 74, .load 30 (.tmp 6), 30, "laws.go:630", #[], none⟩
abbrev q40a_8_17_1 : Oper := ⟨some 75, .fieldAddr 30 (.tmp 3) 0, 0, "laws.go:630", #[], none⟩
abbrev q40a_8_17_2 : Oper := ⟨some 76, .load 28 (.tmp 75), 28, "laws.go:630", #[⟨1, .data⟩], none⟩
abbrev q40a_8_17_3 : Oper := ⟨some 77, .move (.tmp 9), 3, "laws.go:630", #[], none⟩
abbrev q40a_8_17_4 : Oper := ⟨some 78, .indexAddr 28 (.tmp 76) (.tmp 77), 0, "laws.go:630", #[⟨2, .data⟩, ⟨3, .data⟩], none⟩
abbrev q40a_8_17_5 : Oper := ⟨some 79, .load 52 (.tmp 78), 52, "laws.go:630", #[⟨4, .data⟩], none⟩
abbrev q40a_8_17_10 : Oper := ⟨some 10, .alloc 30, 0, "laws.go:630", #[], none⟩
abbrev q40a_8_17_6 : Oper := ⟨some 80, .call { callee := .value (.func 32), args := #[.tmp 74, .tmp 79], argTypes := #[30, 52] }, 54, "laws.go:630", #[⟨0, .data⟩, ⟨5, .data⟩], none⟩
abbrev q40a_8_17_7 : Oper := ⟨some 73, .move (.tmp 80), 54, "laws.go:630", #[⟨6, .data⟩], none⟩
abbrev q40a_8_17_8 : Oper := ⟨some 81, .extract (.tmp 73) 0, 30, "laws.go:630", #[⟨7, .data⟩], none⟩
abbrev q40a_8_17_9 : Oper := ⟨some 82, .extract (.tmp 73) 1, 4, "laws.go:630", #[⟨7, .data⟩, { on := 11, ground := Ground.gcOnly Departure.lateStores }], none⟩
abbrev q40a_8_17_11 : Oper := ⟨none, .store 30 (.tmp 10) (.tmp 81), 0, "laws.go:630", #[⟨10, .data⟩, ⟨8, .data⟩, ⟨6, .chain⟩, ⟨0, .phase⟩, ⟨1, .phase⟩, ⟨2, .phase⟩, ⟨3, .phase⟩, ⟨4, .phase⟩, ⟨5, .phase⟩, ⟨6, .phase⟩, ⟨7, .phase⟩, ⟨8, .phase⟩, { on := 9, ground := Ground.textOnly Departure.lateStores }, ⟨10, .phase⟩], none⟩
abbrev q40a_8_17_12 : Oper := ⟨some 11, .assign (.tmp 82), 4, "laws.go:630", #[⟨9, .data⟩, ⟨11, .chain⟩, ⟨0, .phase⟩, ⟨1, .phase⟩, ⟨2, .phase⟩, ⟨3, .phase⟩, ⟨4, .phase⟩, ⟨5, .phase⟩, ⟨6, .phase⟩, ⟨7, .phase⟩, ⟨8, .phase⟩, ⟨9, .phase⟩, ⟨10, .phase⟩, ⟨11, .phase⟩], none⟩

/-- An item of a graph that is read: where its cells lie. -/
theorem itemS_at {W : World} {a : Option Addr} {N c : Nat} {m : MGraph} (h : rGraph W.heap.size W [.slice a N c] m) {i : Nat} (hi : i < m.fItems.length) :
    ∃ b o, a = some ⟨b, o, none⟩ ∧ b < W.heap.size ∧ (∃ a2 c2, W.cell? ⟨b, o + i * 3, none⟩ = some (.int .i64 m.fItems[i].fD.fR) ∧ W.cell? ⟨b, o + i * 3 + 1, none⟩ = some (.int .i64 m.fItems[i].fD.fN) ∧ W.cell? ⟨b, o + i * 3 + 2, none⟩ = some (.slice a2 m.fItems[i].fDeps.length c2) ∧ (Lit.int .i64 m.fItems[i].fD.fR).wf = true ∧ (Lit.int .i64 m.fItems[i].fD.fN).wf = true ∧ LeafL 2 rDot W.heap.size W a2 c2 m.fItems[i].fDeps) := by
  obtain ⟨a0, c0, e, hL, _⟩ := h
  simp only [List.cons.injEq, Value.slice.injEq, and_true] at e
  obtain ⟨rfl, rfl, rfl⟩ := e
  obtain ⟨b, o, rfl, hB, cs, hcl, hcell, a2, c2, rfl, g0, g1, g2, _⟩ := hL.2.2 i hi
  have k0 := hcell 0 _ rfl
  rw [Nat.add_zero] at k0
  exact ⟨b, o, rfl, hB, a2, c2, k0, hcell 1 _ rfl, hcell 2 _ rfl, g0, g1, g2⟩
theorem dotS_split (x d : MDot) : (x.fR = d.fR ∧ x.fN = d.fN ∧ x = d) ∨ (¬ x.fR = d.fR ∧ x ≠ d) ∨ (x.fR = d.fR ∧ ¬ x.fN = d.fN ∧ x ≠ d) := by
  by_cases h1 : x.fR = d.fR
  · by_cases h2 : x.fN = d.fN
    · exact .inl ⟨h1, h2, sameD_iff.1 (decide_eq_true ⟨h1, h2⟩)⟩
    · exact .inr (.inr ⟨h1, h2, fun e => h2 (by rw [e])⟩)
  · exact .inr (.inl ⟨h1, fun e => h1 (by rw [e])⟩)

set_option maxHeartbeats 16000000 in
theorem law_FnStable_r (a : Option Addr) (n cap : Nat) (zs : List Int) (w : World) (hx : zs.length = n) (hbz : BytesOk zs) (hr : Rd .u8 w.heap.size w a zs) (hT : TzAt w) :
    Calls Tryd.prog 8 #[.slice a n cap] w fun e w' => e = .returned (.bool true) ∧ Below w.heap.size w w' := by
  obtain ⟨iT, hiT, hzT0, hzT1, hzT2⟩ := info_parts Tryd.infoOfDot
  have HIT : Hid (_ ∧ _ ∧ _ ∧ _) := ⟨hiT, hzT0, hzT1, hzT2⟩
  clear hiT hzT0 hzT1 hzT2
  go_enter Tryd.func8, Tryd.ntmps8
  go_wp2_with fail
  refine (bigG_any a n cap w).mono ?_
  rintro e w0 ⟨rfl, hw0⟩
  have hw0' := hw0.symm
  clear hw0
  subst hw0'
  by_cases hbig : 1048576 < (n : Int)
  · rw [decide_eq_true hbig]
    go_wp2_with fail
    go_ret
    exact ⟨rfl, Below.refl _ _⟩
  rw [decide_eq_false hbig]
  go_wp2_with fail
  refine (drawGraph_ok a n cap zs w hx (by omega) hr).mono ?_
  rintro e w1 ⟨ag, cg, m, rfl, hrg, hFul, hb1⟩
  have HFL := Hid.mk hFul
  have HWM : Hid (wGraph m ≤ 1048576) := Nat.le_trans (graphP_w hFul.ok) (by omega)
  obtain ⟨N, hN⟩ : ∃ N, N = m.fItems.length := ⟨_, rfl⟩
  have hN12 : N = 12 := by rw [hN]; exact hFul.len
  have hNa : 0 < N := by omega
  have hNb : N < 100 := by omega
  rw [← hN] at hrg ⊢
  have HN := Hid.mk hN.symm
  have HN12 := Hid.mk hN12
  clear hN hN12 hFul
  have HRZ := Hid.mk hr
  have HBZ := Hid.mk hbz
  have HXZ := Hid.mk hx
  obtain ⟨w2, hw2⟩ : ∃ x, x = w1.alloc (.cells #[.slice ag N cg] 30) := ⟨_, rfl⟩
  have hx2 : Below w1.heap.size w1 w2 := by rw [hw2]; exact (Below.refl _ _).alloc (Nat.le_refl _) _
  have hbg : Bx w2 w1.heap.size [.slice ag N cg] := by rw [hw2]; exact Bx.new _ _ _
  have HRG : Hid (∀ W, Below w2.heap.size w2 W → rGraph W.heap.size W [.slice ag N cg] m) := fun W hb => rGraph_good.mono (rGraph_good.below hrg (bthen hx2 hb)) (bthen hx2 hb).size
  have HTZ : Hid (∀ W, Below w2.heap.size w2 W → TzAt W) := fun W hb => hT.below (bthen hb1 (bthen hx2 hb))
  have HG0 : Hid (∀ W, Below w2.heap.size w2 W → W.cell? ⟨w1.heap.size, 0, none⟩ = some (.slice ag N cg)) := fun W hb => (hbg.under hb).2 0 _ rfl
  have hb2 := bthen hb1 hx2
  have hz2 := hbg.1
  obtain ⟨b0, hb0e⟩ : ∃ b, b = w1.heap.size := ⟨_, rfl⟩
  rw [← hb0e] at HG0 hz2
  have y0 := HG0.out _ (Below.refl _ _)
  obtain ⟨OL, hOL⟩ := order_ex m
  have HOL := Hid.mk hOL
  have HOLN : Hid (OL.length = N) := by unfold Hid; rw [← HN.out]; exact order_all HFL.out.ok (fun it hit d hd => HFL.out.closed hit hd) hOL
  clear hT hOL hrg hbg hx hr hbz
  go_wp2_with (rw [← hw2])
  try rw [← hw2]
  try rw [← hb0e]
  clear hw2 hb0e hx2 hb1
  refine (implOrderOf_c OL [.slice ag N cg] m HOL.out w2 (HRG.out _ (Below.refl _ _)) HWM.out (HTZ.out _ (Below.refl _ _))).mono ?_
  rintro e w3 ⟨v3, F3, rfl, ho3, _, _, hx3⟩
  obtain ⟨a3, c3, rfl, hL3⟩ := rdDs_own ho3
  rw [HOLN.out]
  have HW3 : Hid (∀ W, Below w3.heap.size w3 W → LeafL 2 rDot W.heap.size W a3 c3 OL) := fun W hb => LeafL.mono rDot_good (hL3.below rDot_good hb) hb.size
  have HB3 : Hid (∀ W, Below w3.heap.size w3 W → Below w2.heap.size w2 W) := fun W hb => bthen hx3 hb
  have hbw3 := bthen hb2 hx3
  have hz3 : b0 < w3.heap.size := Nat.lt_of_lt_of_le hz2 hx3.size
  clear ho3 hL3 y0
  have y0 := HG0.out _ hx3
  have hn0 : ¬ (N : Int) = 0 := by omega
  have hn1 : decide ((N : Int) = 0) = false := decide_eq_false hn0
  have hn2 : ((N : Int) == 0) = false := beq_eq_false_iff_ne.2 hn0
  go_wp2_with fail
  clear y0 hn1
  obtain ⟨bi, hag⟩ : ∃ bi, (∃ oi, ag = some ⟨bi, oi, none⟩) := by
    obtain ⟨b, o, e, _⟩ := itemS_at (HRG.out _ hx3) (i := 0) (by rw [HN.out]; exact hNa)
    exact ⟨b, o, e⟩
  obtain ⟨oi, rfl⟩ := hag
  have y0 : ∀ W, Below w3.heap.size w3 W → W.cell? ⟨b0, 0, none⟩ = some (.slice (some ⟨bi, oi, none⟩) N cg) := fun W h => HG0.out W (HB3.out W h)
  have HAT := fun W (h : Below w3.heap.size w3 W) => atG_any a n cap 2 zs W HXZ.out (by omega) (by omega) HBZ.out ((HRZ.out.below (bthen hbw3 h)).mono (bthen hbw3 h).size)
  have HIDX : Hid (∀ x : Nat, ∃ k : Nat, (((x : Int).tmod (N : Int)) = (k : Int) ∧ IntKind.i64.wrap (k : Int) = (k : Int)) ∧ k < N) := fun x => ⟨x % N, ⟨by rw [Int.tmod_eq_emod_of_nonneg (by omega)]; rfl, by rw [IntKind.wrap_i64]; have := Nat.mod_lt x hNa; omega⟩, Nat.mod_lt x hNa⟩
  have HITM : Hid (∀ k, (hk : k < m.fItems.length) → bi < w3.heap.size ∧ ∃ a2 c2, w3.cell? ⟨bi, oi + k * 3, none⟩ = some (.int .i64 m.fItems[k].fD.fR) ∧ w3.cell? ⟨bi, oi + k * 3 + 1, none⟩ = some (.int .i64 m.fItems[k].fD.fN) ∧ w3.cell? ⟨bi, oi + k * 3 + 2, none⟩ = some (.slice a2 m.fItems[k].fDeps.length c2) ∧ ((Lit.int .i64 m.fItems[k].fD.fR).wf = true ∧ (Lit.int .i64 m.fItems[k].fD.fN).wf = true) ∧ LeafL 2 rDot w3.heap.size w3 a2 c2 m.fItems[k].fDeps) := fun k hk => by
    obtain ⟨b, o, e, hb, a2, c2, k0, k1, k2, g0, g1, hDL⟩ := itemS_at (HRG.out _ hx3) hk
    simp only [Option.some.injEq, Addr.mk.injEq, and_true] at e
    obtain ⟨rfl, rfl⟩ := e
    exact ⟨hb, a2, c2, k0, k1, k2, ⟨g0, g1⟩, hDL⟩
  have hnN : ¬ N = 0 := by omega
  go_wp2_with fail
  go_cut [5] (fun x wc => ∃ (bd k : Nat) (hk : k < m.fItems.length), x = .pointer (some ⟨bd, 0, none⟩) ∧ Hid (Bw wc bd 40 [.int .i64 m.fItems[k].fD.fR, .int .i64 m.fItems[k].fD.fN]) ∧ Below w3.heap.size w3 wc)
  case first =>
    refine wp_region_held_drew (S := fun W => Below w3.heap.size w3 W) (by kernel_rfl) (Below.drew (Below.refl _ _)) (fun hHeld => ?_)
    obtain ⟨wS, hwS⟩ : ∃ wS, wS = w3.drew := ⟨_, rfl⟩
    rw [← hwS] at hHeld ⊢
    clear hwS
    refine tk 0 q40a_8_7_0 (some 35) (v := ?v45) rfl rfl (by kernel_rfl) hHeld (by rfl) (fun _ _ _ x => x) (fun w h => ?y45) ?_; (case y45 => (try dsimp only at h); go_simp; try (with_reducible rfl)); try simp only [Act.put, sa, s0, s1]
    refine tk 1 q40a_8_7_1 (some 36) (v := ?v46) rfl rfl (by kernel_rfl) hHeld (by rfl) (fun _ _ _ x => x) (fun w h => ?y46) ?_; (case y46 => (try dsimp only at h); go_simp; try (with_reducible rfl)); try simp only [Act.put, sa, s0, s1]
    refine tk 2 q40a_8_7_2 (some 37) (v := ?v47) rfl rfl (by kernel_rfl) hHeld (by rfl) (fun _ _ _ x => x) (fun w h => ?y47) ?_; (case y47 => (try dsimp only at h); go_simp; try (with_reducible rfl)); try simp only [Act.put, sa, s0, s1]
    refine tk 4 q40a_8_7_4 (some 39) (v := ?v48) rfl rfl (by kernel_rfl) hHeld (by rfl) (fun _ _ _ x => x) (fun w h => ?y48) ?_; (case y48 => (try dsimp only at h); go_simp; try (with_reducible rfl)); try simp only [Act.put, sa, s0, s1]
    refine tk 5 q40a_8_7_5 (some 40) (v := ?v49) rfl rfl (by kernel_rfl) hHeld (by rfl) (fun _ _ _ x => x) (fun w h => ?y49) ?_; (case y49 => (try dsimp only at h); go_simp; try (with_reducible rfl)); try simp only [Act.put, sa, s0, s1]
    refine tk 6 q40a_8_7_6 (some 41) (v := ?v50) rfl rfl (by kernel_rfl) hHeld (by rfl) (fun _ _ _ x => x) (fun w h => ?y50) ?_; (case y50 => (try dsimp only at h); go_simp; try (with_reducible rfl)); try simp only [Act.put, sa, s0, s1]
    refine wpAnyH_ready (rs := [3, 11]) (by kernel_rfl) (by simp) ?_
    refine (AllReadyH.cons (o := q40a_8_7_3) rfl (fun K hK => ?_) (AllReadyH.cons (o := q40a_8_7_11) rfl (fun K hK => ?_) AllReadyH.nil))
    · go_simp
      refine Calls.mono (HAT wS hHeld) ?_
      rintro e wE3 ⟨x3, ⟨rfl, hx255⟩, hwE⟩
      have hop3 : Below wS.heap.size wS wE3 := by rw [hwE]; exact Below.refl _ _
      clear hwE
      obtain ⟨kd, ⟨hkd1, hkd2⟩, hkdN⟩ := HIDX.out x3
      have hkl : kd < m.fItems.length := by rw [HN.out]; exact hkdN
      obtain ⟨hbi3, a2, c2, k0, k1, k2, g01, hDL⟩ := HITM.out kd hkl
      have f0 : ∀ W, Below w3.heap.size w3 W → W.cell? ⟨bi, oi + kd * 3, none⟩ = some (.int .i64 m.fItems[kd].fD.fR) := fun W h => (h.cell (p := ⟨bi, oi + kd * 3, none⟩) hbi3).trans k0
      have f1 : ∀ W, Below w3.heap.size w3 W → W.cell? ⟨bi, oi + kd * 3 + 1, none⟩ = some (.int .i64 m.fItems[kd].fD.fN) := fun W h => (h.cell (p := ⟨bi, oi + kd * 3 + 1, none⟩) hbi3).trans k1
      have hkd3 : (0 : Int) ≤ (kd : Int) := by omega
      have hkd4 : (kd : Int) < (N : Int) := by omega
      clear k0 k1 k2 hDL
      go_wp2_with fail
      refine hK.out _ _ (bthen hHeld hop3) (fun hHeld => ?_)
      clear hK K
      try simp only [Act.put, sa, s0, s1]
      refine tk 7 q40a_8_7_7 (some 42) (v := ?v51) rfl rfl (by kernel_rfl) hHeld (by rfl) (fun _ _ _ x => x) (fun w h => ?y51) ?_; (case y51 => (try dsimp only at h); go_simp; try (with_reducible rfl)); try simp only [Act.put, sa, s0, s1]
      refine tk 8 q40a_8_7_8 (some 43) (v := ?v52) rfl rfl (by kernel_rfl) hHeld (by rfl) (fun _ _ _ x => x) (fun w h => ?y52) ?_; (case y52 => (try dsimp only at h); go_simp; try (with_reducible rfl)); try simp only [Act.put, sa, s0, s1]
      refine tk 9 q40a_8_7_9 (some 44) (v := ?v53) rfl rfl (by kernel_rfl) hHeld (by rfl) (fun _ _ _ x => x) (fun w h => ?y53) ?_; (case y53 => (try dsimp only at h); go_simp; try (with_reducible rfl)); try simp only [Act.put, sa, s0, s1]
      refine tk 10 q40a_8_7_10 (some 45) (v := ?v54) rfl rfl (by kernel_rfl) hHeld (by rfl) (fun _ _ _ x => x) (fun w h => ?y54) ?_; (case y54 => (try dsimp only at h); go_simp; try (with_reducible rfl)); try simp only [Act.put, sa, s0, s1]
      refine wpAnyH_ready (rs := [11]) (by kernel_rfl) (by simp) ?_
      refine (AllReadyH.cons (o := q40a_8_7_11) rfl (fun K hK => ?_) AllReadyH.nil)
      · go_simp
        obtain ⟨wE11, hq11⟩ : ∃ q, q = wE3.alloc (.cells #[.int .i64 0, .int .i64 0] 40) := ⟨_, rfl⟩
        have hop11 : Below wE3.heap.size wE3 wE11 := by rw [hq11]; exact (Below.refl _ _).alloc (Nat.le_refl _) _
        obtain ⟨bd, HBD⟩ : ∃ z, Hid (z = wE3.heap.size) := ⟨_, Hid.mk rfl⟩
        have HB11 : Hid (Bw wE11 bd 40 [.int .i64 0, .int .i64 0]) := by unfold Hid; rw [HBD.out, hq11]; exact Bw.new _ _ _
        have HBL : Hid (w3.heap.size ≤ bd) := by unfold Hid; rw [HBD.out]; exact hHeld.size
        rw [← HBD.out]
        rw [← hq11]
        clear hq11
        refine hK.out _ _ (bthen hHeld hop11) (fun hHeld => ?_)
        clear hK K
        try simp only [Act.put, sa, s0, s1]
        refine wpAnyH_ready (rs := [12]) (by kernel_rfl) (by simp) ?_
        refine (AllReadyH.cons (o := q40a_8_7_12) rfl (fun K hK => ?_) AllReadyH.nil)
        · skip
          have hbd := HB11.out.under (show Below wE11.heap.size wE11 wE11 from Below.refl _ _)
          have s0 := hbd.cell 0 _ rfl
          have s1 := hbd.cell 1 _ rfl
          have s2 := hbd.free 0
          have s3 := hbd.free 1
          have s4 := hbd.lt
          go_simp
          have HBF := Hid.mk ((hbd.put 0 (.int .i64 m.fItems[kd].fD.fR)).put 1 (.int .i64 m.fItems[kd].fD.fN))
          clear s0 s1 s2 s3 s4 hbd
          refine hK.out _ _ ((hHeld.setCell (p := ⟨bd, 0, none⟩) HBL.out _).setCell (p := ⟨bd, 1, none⟩) HBL.out _) (fun hHeld => ?_)
          clear hK K
          try simp only [Act.put, sa, s0, s1]
          refine wpAnyH_done (by kernel_rfl) ?_ _
          try go_wp2_with fail
          go_meet
          case rel => exact ⟨bd, kd, hkl, rfl, HBF, hHeld⟩
    · go_simp
      obtain ⟨wE11, hq11⟩ : ∃ q, q = wS.alloc (.cells #[.int .i64 0, .int .i64 0] 40) := ⟨_, rfl⟩
      have hop11 : Below wS.heap.size wS wE11 := by rw [hq11]; exact (Below.refl _ _).alloc (Nat.le_refl _) _
      obtain ⟨bd, HBD⟩ : ∃ z, Hid (z = wS.heap.size) := ⟨_, Hid.mk rfl⟩
      have HB11 : Hid (Bw wE11 bd 40 [.int .i64 0, .int .i64 0]) := by unfold Hid; rw [HBD.out, hq11]; exact Bw.new _ _ _
      have HBL : Hid (w3.heap.size ≤ bd) := by unfold Hid; rw [HBD.out]; exact hHeld.size
      rw [← HBD.out]
      rw [← hq11]
      clear hq11
      refine hK.out _ _ (bthen hHeld hop11) (fun hHeld => ?_)
      clear hK K
      try simp only [Act.put, sa, s0, s1]
      refine wpAnyH_ready (rs := [3]) (by kernel_rfl) (by simp) ?_
      refine (AllReadyH.cons (o := q40a_8_7_3) rfl (fun K hK => ?_) AllReadyH.nil)
      · go_simp
        refine Calls.mono (HAT wE11 hHeld) ?_
        rintro e wE3 ⟨x3, ⟨rfl, hx255⟩, hwE⟩
        have hop3 : Below wE11.heap.size wE11 wE3 := by rw [hwE]; exact Below.refl _ _
        clear hwE
        obtain ⟨kd, ⟨hkd1, hkd2⟩, hkdN⟩ := HIDX.out x3
        have hkl : kd < m.fItems.length := by rw [HN.out]; exact hkdN
        obtain ⟨hbi3, a2, c2, k0, k1, k2, g01, hDL⟩ := HITM.out kd hkl
        have f0 : ∀ W, Below w3.heap.size w3 W → W.cell? ⟨bi, oi + kd * 3, none⟩ = some (.int .i64 m.fItems[kd].fD.fR) := fun W h => (h.cell (p := ⟨bi, oi + kd * 3, none⟩) hbi3).trans k0
        have f1 : ∀ W, Below w3.heap.size w3 W → W.cell? ⟨bi, oi + kd * 3 + 1, none⟩ = some (.int .i64 m.fItems[kd].fD.fN) := fun W h => (h.cell (p := ⟨bi, oi + kd * 3 + 1, none⟩) hbi3).trans k1
        have hkd3 : (0 : Int) ≤ (kd : Int) := by omega
        have hkd4 : (kd : Int) < (N : Int) := by omega
        clear k0 k1 k2 hDL
        go_wp2_with fail
        refine hK.out _ _ (bthen hHeld hop3) (fun hHeld => ?_)
        clear hK K
        try simp only [Act.put, sa, s0, s1]
        refine tk 7 q40a_8_7_7 (some 42) (v := ?v55) rfl rfl (by kernel_rfl) hHeld (by rfl) (fun _ _ _ x => x) (fun w h => ?y55) ?_; (case y55 => (try dsimp only at h); go_simp; try (with_reducible rfl)); try simp only [Act.put, sa, s0, s1]
        refine tk 8 q40a_8_7_8 (some 43) (v := ?v56) rfl rfl (by kernel_rfl) hHeld (by rfl) (fun _ _ _ x => x) (fun w h => ?y56) ?_; (case y56 => (try dsimp only at h); go_simp; try (with_reducible rfl)); try simp only [Act.put, sa, s0, s1]
        refine tk 9 q40a_8_7_9 (some 44) (v := ?v57) rfl rfl (by kernel_rfl) hHeld (by rfl) (fun _ _ _ x => x) (fun w h => ?y57) ?_; (case y57 => (try dsimp only at h); go_simp; try (with_reducible rfl)); try simp only [Act.put, sa, s0, s1]
        refine tk 10 q40a_8_7_10 (some 45) (v := ?v58) rfl rfl (by kernel_rfl) hHeld (by rfl) (fun _ _ _ x => x) (fun w h => ?y58) ?_; (case y58 => (try dsimp only at h); go_simp; try (with_reducible rfl)); try simp only [Act.put, sa, s0, s1]
        refine wpAnyH_ready (rs := [12]) (by kernel_rfl) (by simp) ?_
        refine (AllReadyH.cons (o := q40a_8_7_12) rfl (fun K hK => ?_) AllReadyH.nil)
        · skip
          have hbd := HB11.out.under (show Below wE11.heap.size wE11 wE3 from bthen (Below.refl _ _) hop3)
          have s0 := hbd.cell 0 _ rfl
          have s1 := hbd.cell 1 _ rfl
          have s2 := hbd.free 0
          have s3 := hbd.free 1
          have s4 := hbd.lt
          go_simp
          have HBF := Hid.mk ((hbd.put 0 (.int .i64 m.fItems[kd].fD.fR)).put 1 (.int .i64 m.fItems[kd].fD.fN))
          clear s0 s1 s2 s3 s4 hbd
          refine hK.out _ _ ((hHeld.setCell (p := ⟨bd, 0, none⟩) HBL.out _).setCell (p := ⟨bd, 1, none⟩) HBL.out _) (fun hHeld => ?_)
          clear hK K
          try simp only [Act.put, sa, s0, s1]
          refine wpAnyH_done (by kernel_rfl) ?_ _
          try go_wp2_with fail
          go_meet
          case rel => exact ⟨bd, kd, hkl, rfl, HBF, hHeld⟩
  case rest =>
    obtain ⟨bd, kd, hkd, rfl, HBD, hbA⟩ := hcut
    generalize wc = wA at *
    clear HAT HIDX y0 hnN hn0 hn2
    have HGD : Hid (∃ it, it ∈ m.fItems ∧ it.fD = m.fItems[kd].fD) := ⟨_, List.getElem_mem hkd, rfl⟩
    have HWD := Hid.mk (HITM.out kd hkd).2
    have HWF : Hid ((Lit.int .i64 m.fItems[kd].fD.fR).wf = true ∧ (Lit.int .i64 m.fItems[kd].fD.fN).wf = true) := by obtain ⟨_, _, _, _, _, h, _⟩ := HWD.out; exact h
    clear HWD
    generalize m.fItems[kd].fD = d at *
    clear hkd
    obtain ⟨bp, hbp⟩ : ∃ b, b = wA.heap.size := ⟨_, rfl⟩
    have d0 := (HBD.out.alloc (.cells #[.slice none 0 0] 30)).cell 0 _ rfl
    have d1 := (HBD.out.alloc (.cells #[.slice none 0 0] 30)).cell 1 _ rfl
    obtain ⟨wB, hwB⟩ : ∃ z, z = (wA.alloc (.cells #[.slice none 0 0] 30)).alloc (.cells #[.int .i64 d.fR, .int .i64 d.fN] 40) := ⟨_, rfl⟩
    have HS0 : Hid (StSt wA bp (.slice (some ⟨bp + 1, 0, none⟩) [d].length 1) [d] [bp + 1] (.slice none (⟨[]⟩ : MGraph).fItems.length 0) ⟨[]⟩ [] wB) := by
      refine StSt.start ?_ (by omega) (by omega) (by omega) ?_ ?_ HWF.out.1 HWF.out.2
      · rw [hwB]; exact ((Below.refl _ _).alloc (Nat.le_refl _) _).alloc (by simp) _
      · rw [hwB, hbp]; exact (Bw.new _ _ _).alloc _
      · rw [hwB]; exact Bw.new' _ _ _ (by rw [hbp]; simp)
    have HGT0 : Hid (Gat m [d] 0 0 ⟨[]⟩) := Gat.start HGD.out
    clear HGD HWF
    go_wp2_with fail
    rw [← hwB, ← hbp]
    clear hwB hbp d0 d1 HBD
    have HLN : Hid (m.fItems.length = 12) := HFL.out.len
    have HY0 : Hid (∀ W, Below wA.heap.size wA W → W.cell? ⟨b0, 0, none⟩ = some (.slice (some ⟨bi, oi, none⟩) N cg)) := fun W h => HG0.out W (HB3.out W (bthen hbA h))
    have HZB : Hid (∀ W, Below wA.heap.size wA W → b0 < W.heap.size ∧ bi < W.heap.size) := fun W h => by
      have h1 := (bthen hbA h).size
      have h2 := (HITM.out 0 (by rw [HN.out]; exact hNa)).1
      omega
    have HIT2 : Hid (∀ k, (hk : k < m.fItems.length) → ∃ a2 c2, ((Lit.int .i64 m.fItems[k].fD.fR).wf = true ∧ (Lit.int .i64 m.fItems[k].fD.fN).wf = true) ∧ ∀ W, Below wA.heap.size wA W → W.cell? ⟨bi, oi + k * 3, none⟩ = some (.int .i64 m.fItems[k].fD.fR) ∧ W.cell? ⟨bi, oi + k * 3 + 1, none⟩ = some (.int .i64 m.fItems[k].fD.fN) ∧ W.cell? ⟨bi, oi + k * 3 + 2, none⟩ = some (.slice a2 m.fItems[k].fDeps.length c2) ∧ LeafL 2 rDot W.heap.size W a2 c2 m.fItems[k].fDeps) := fun k hk => by
      obtain ⟨hb, a2, c2, k0, k1, k2, g01, hDL⟩ := HITM.out k hk
      refine ⟨a2, c2, g01, fun W h => ?_⟩
      have hh := bthen hbA h
      exact ⟨(hh.cell (p := ⟨bi, oi + k * 3, none⟩) hb).trans k0, (hh.cell (p := ⟨bi, oi + k * 3 + 1, none⟩) hb).trans k1, (hh.cell (p := ⟨bi, oi + k * 3 + 2, none⟩) hb).trans k2, LeafL.mono rDot_good (hDL.below rDot_good hh) hh.size⟩
    clear HITM
    go_loopw [7, 8] (fun qv iv wr => ∃ (i : Nat) (q : List MDot) (aq : Option Addr) (cq : Nat) (Fq : List Nat) (ap : Option Addr) (cp : Nat) (p : MGraph) (F : List Nat), qv = .slice aq q.length cq ∧ iv = .int .i64 i ∧ i ≤ q.length ∧ Hid (StSt wA bp (.slice aq q.length cq) q Fq (.slice ap p.fItems.length cp) p F wr) ∧ Hid (Gat m q i 0 p)) (fun _ iv _ => 12 - (intOf iv).toNat)
    case atStart => exact ⟨0, [d], _, 1, _, none, 0, _, _, rfl, rfl, Nat.zero_le _, HS0, HGT0⟩
    case round =>
      clear HS0 HGT0
      obtain ⟨i, q, aq, cq, Fq, ap, cp, p, F, rfl, rfl, hi, HS, HGT⟩ := hrel
      have hql : q.length ≤ 12 := by have h1 := queue_len HGT.out.nd HGT.out.inG; have h2 := HLN.out; omega
      by_cases hiq : i < q.length
      · have hiq1 : (i : Int) < (q.length : Int) := by omega
        generalize wr = wo at *
        go_wp2_with fail
        clear hiq1
        go_loopw [7, 9] (fun qv kv wr => ∃ (k : Nat) (q : List MDot) (aq : Option Addr) (cq : Nat) (Fq : List Nat) (ap : Option Addr) (cp : Nat) (p : MGraph) (F : List Nat), qv = .slice aq q.length cq ∧ kv = .int .i64 k ∧ (k ≤ N ∧ i < q.length) ∧ Hid (StSt wA bp (.slice aq q.length cq) q Fq (.slice ap p.fItems.length cp) p F wr) ∧ Hid (Gat m q i k p)) (fun _ kv _ => N - (intOf kv).toNat)
        case atStart => exact ⟨0, q, aq, cq, Fq, ap, cp, p, F, rfl, rfl, ⟨Nat.zero_le _, hiq⟩, HS, HGT⟩
        case round =>
          clear HS HGT hql hiq hi
          obtain ⟨k, q, aq, cq, Fq, ap, cp, p, F, rfl, rfl, hki, HS, HGT⟩ := hrel
          have y0 := HY0.out _ HS.out.k
          have hz := HZB.out _ HS.out.k
          have hz1 := hz.1
          have hz2 := hz.2
          by_cases hkN : k < N
          · have hkN1 : (k : Int) < (N : Int) := by omega
            have hk0 : (0 : Int) ≤ (k : Int) := by omega
            have hi0 : (0 : Int) ≤ (i : Int) := by omega
            have hi1 : (i : Int) < (q.length : Int) := by omega
            have hil := hki.2
            have hql : q.length ≤ 12 := by have h1 := queue_len HGT.out.nd HGT.out.inG; have h2 := HLN.out; omega
            have hkl : k < m.fItems.length := by rw [HN.out]; exact hkN
            have HQI : Hid (q[i]? = some q[i]) := List.getElem?_eq_getElem hil
            obtain ⟨a2, c2, hwf, hcl⟩ := HIT2.out k hkl
            have HCL := Hid.mk hcl
            have HWF := Hid.mk hwf
            clear hcl hwf
            have f0 : ∀ W, Below wr.heap.size wr W → W.cell? ⟨bi, oi + k * 3, none⟩ = some (.int .i64 m.fItems[k].fD.fR) := fun W h => (HCL.out W (bthen HS.out.k h)).1
            have f1 : ∀ W, Below wr.heap.size wr W → W.cell? ⟨bi, oi + k * 3 + 1, none⟩ = some (.int .i64 m.fItems[k].fD.fN) := fun W h => (HCL.out W (bthen HS.out.k h)).2.1
            have y1 : ∀ W, Below wr.heap.size wr W → W.cell? ⟨b0, 0, none⟩ = some (.slice (some ⟨bi, oi, none⟩) N cg) := fun W h => HY0.out W (bthen HS.out.k h)
            obtain ⟨aq', cq', hqe, hLq⟩ := HS.out.queue
            simp only [Value.slice.injEq, true_and] at hqe
            obtain ⟨rfl, rfl⟩ := hqe
            obtain ⟨b1, o1, rfl, hB1, cs, hcl, hcell, rfl, _⟩ := hLq.2.2 i hil
            have k0 := hcell 0 _ rfl
            have k1 := hcell 1 _ rfl
            rw [Nat.add_zero] at k0
            have h0 : ∀ W, Below wr.heap.size wr W → W.cell? ⟨b1, o1 + i * 2, none⟩ = some (.int .i64 q[i].fR) := fun W h => (h.cell (p := ⟨b1, o1 + i * 2, none⟩) hB1).trans k0
            have h1 : ∀ W, Below wr.heap.size wr W → W.cell? ⟨b1, o1 + i * 2 + 1, none⟩ = some (.int .i64 q[i].fN) := fun W h => (h.cell (p := ⟨b1, o1 + i * 2 + 1, none⟩) hB1).trans k1
            clear k0 k1 hcell hcl hLq
            have HSK : Hid (m.fItems[k].fD ≠ q[i] → Gat m q i (k + 1) p) := fun hne => HGT.out.skip hkl (fun e => hne (by rw [HQI.out] at e; exact (Option.some.inj e).symm))
            rcases dotS_split m.fItems[k].fD q[i] with ⟨e1, e2, e3⟩ | ⟨e1, e3⟩ | ⟨e1, e2, e3⟩
            rotate_left
            · have HGN := Hid.mk (HSK.out e3)
              have q1 : decide (m.fItems[k].fD.fR = q[i].fR) = false := decide_eq_false e1
              have q2 : ¬ q[i].fR = m.fItems[k].fD.fR := fun h => e1 h.symm
              clear HSK e3
              generalize m.fItems[k].fD = x at *
              generalize q[i] = z at *
              go_wp2_with fail
              refine wp_region_held_drew (S := fun W => Below wr.heap.size wr W) (by kernel_rfl) (Below.drew (Below.refl _ _)) (fun hHeld => ?_)
              refine tk 0 q40a_8_16_0 (some 62) (v := ?v1) rfl rfl (by kernel_rfl) hHeld (by rfl) (fun _ _ _ x => x) (fun w h => ?y1) ?_; (case y1 => (try dsimp only at h); go_simp; try (with_reducible rfl)); try simp only [Act.put, sa, s0, s1]
              refine tk 1 q40a_8_16_1 (some 63) (v := ?v2) rfl rfl (by kernel_rfl) hHeld (by rfl) (fun _ _ _ x => x) (fun w h => ?y2) ?_; (case y2 => (try dsimp only at h); go_simp; try (with_reducible rfl)); try simp only [Act.put, sa, s0, s1]
              refine tk 2 q40a_8_16_2 (some 64) (v := ?v3) rfl rfl (by kernel_rfl) hHeld (by rfl) (fun _ _ _ x => x) (fun w h => ?y3) ?_; (case y3 => (try dsimp only at h); go_simp; try (with_reducible rfl)); try simp only [Act.put, sa, s0, s1]
              refine tk 3 q40a_8_16_3 (some 65) (v := ?v4) rfl rfl (by kernel_rfl) hHeld (by rfl) (fun _ _ _ x => x) (fun w h => ?y4) ?_; (case y4 => (try dsimp only at h); go_simp; try (with_reducible rfl)); try simp only [Act.put, sa, s0, s1]
              refine tk 4 q40a_8_16_4 (some 66) (v := ?v5) rfl rfl (by kernel_rfl) hHeld (by rfl) (fun _ _ _ x => x) (fun w h => ?y5) ?_; (case y5 => (try dsimp only at h); go_simp; try (with_reducible rfl)); try simp only [Act.put, sa, s0, s1]
              refine tk 5 q40a_8_16_5 (some 67) (v := ?v6) rfl rfl (by kernel_rfl) hHeld (by rfl) (fun _ _ _ x => x) (fun w h => ?y6) ?_; (case y6 => (try dsimp only at h); go_simp; try (with_reducible rfl)); try simp only [Act.put, sa, s0, s1]
              refine tk 6 q40a_8_16_6 (some 68) (v := ?v7) rfl rfl (by kernel_rfl) hHeld (by rfl) (fun _ _ _ x => x) (fun w h => ?y7) ?_; (case y7 => (try dsimp only at h); go_simp; try (with_reducible rfl)); try simp only [Act.put, sa, s0, s1]
              refine tk 7 q40a_8_16_7 (some 69) (v := ?v8) rfl rfl (by kernel_rfl) hHeld (by rfl) (fun _ _ _ x => x) (fun w h => ?y8) ?_; (case y8 => (try dsimp only at h); go_simp; try (with_reducible rfl)); try simp only [Act.put, sa, s0, s1]
              refine tk 8 q40a_8_16_8 (some 70) (v := ?v9) rfl rfl (by kernel_rfl) hHeld (by rfl) (fun _ _ _ x => x) (fun w h => ?y9) ?_; (case y9 => (try dsimp only at h); go_simp; try (with_reducible rfl)); try simp only [Act.put, sa, s0, s1]
              refine tk 9 q40a_8_16_9 (some 71) (v := ?v10) rfl rfl (by kernel_rfl) hHeld (by rfl) (fun _ _ _ x => x) (fun w h => ?y10) ?_; (case y10 => (try dsimp only at h); go_simp; try (with_reducible rfl)); try simp only [Act.put, sa, s0, s1]
              refine tk 10 q40a_8_16_10 (some 72) (v := ?v11) rfl rfl (by kernel_rfl) hHeld (by rfl) (fun _ _ _ x => x) (fun w h => ?y11) ?_; (case y11 => (try dsimp only at h); go_simp; try (with_reducible rfl)); try simp only [Act.put, sa, s0, s1]
              refine wpAnyH_done (by kernel_rfl) ?_ _
              have HSN := Hid.mk (HS.out.below hHeld)
              go_wp2_with fail
              go_roundw
              case rel => first | exact ⟨k + 1, q, _, _, Fq, ap, cp, p, F, rfl, by go_num, by omega, HSN, HGN⟩ | ((repeat apply Exists.intro); exact ⟨⟨k + 1, q, _, _, Fq, ap, cp, p, F, rfl, by go_num, by omega, HSN, HGN⟩, rfl⟩)
              case measure => simp [intOf]; omega
            · have HGN := Hid.mk (HSK.out e3)
              have q1 : decide (m.fItems[k].fD.fN = q[i].fN) = false := decide_eq_false e2
              have q2 : ¬ q[i].fN = m.fItems[k].fD.fN := fun h => e2 h.symm
              rw [e1] at f0
              clear HSK e3 e1
              generalize m.fItems[k].fD = x at *
              generalize q[i] = z at *
              go_wp2_with fail
              refine wp_region_held_drew (S := fun W => Below wr.heap.size wr W) (by kernel_rfl) (Below.drew (Below.refl _ _)) (fun hHeld => ?_)
              refine tk 0 q40a_8_16_0 (some 62) (v := ?v12) rfl rfl (by kernel_rfl) hHeld (by rfl) (fun _ _ _ x => x) (fun w h => ?y12) ?_; (case y12 => (try dsimp only at h); go_simp; try (with_reducible rfl)); try simp only [Act.put, sa, s0, s1]
              refine tk 1 q40a_8_16_1 (some 63) (v := ?v13) rfl rfl (by kernel_rfl) hHeld (by rfl) (fun _ _ _ x => x) (fun w h => ?y13) ?_; (case y13 => (try dsimp only at h); go_simp; try (with_reducible rfl)); try simp only [Act.put, sa, s0, s1]
              refine tk 2 q40a_8_16_2 (some 64) (v := ?v14) rfl rfl (by kernel_rfl) hHeld (by rfl) (fun _ _ _ x => x) (fun w h => ?y14) ?_; (case y14 => (try dsimp only at h); go_simp; try (with_reducible rfl)); try simp only [Act.put, sa, s0, s1]
              refine tk 3 q40a_8_16_3 (some 65) (v := ?v15) rfl rfl (by kernel_rfl) hHeld (by rfl) (fun _ _ _ x => x) (fun w h => ?y15) ?_; (case y15 => (try dsimp only at h); go_simp; try (with_reducible rfl)); try simp only [Act.put, sa, s0, s1]
              refine tk 4 q40a_8_16_4 (some 66) (v := ?v16) rfl rfl (by kernel_rfl) hHeld (by rfl) (fun _ _ _ x => x) (fun w h => ?y16) ?_; (case y16 => (try dsimp only at h); go_simp; try (with_reducible rfl)); try simp only [Act.put, sa, s0, s1]
              refine tk 5 q40a_8_16_5 (some 67) (v := ?v17) rfl rfl (by kernel_rfl) hHeld (by rfl) (fun _ _ _ x => x) (fun w h => ?y17) ?_; (case y17 => (try dsimp only at h); go_simp; try (with_reducible rfl)); try simp only [Act.put, sa, s0, s1]
              refine tk 6 q40a_8_16_6 (some 68) (v := ?v18) rfl rfl (by kernel_rfl) hHeld (by rfl) (fun _ _ _ x => x) (fun w h => ?y18) ?_; (case y18 => (try dsimp only at h); go_simp; try (with_reducible rfl)); try simp only [Act.put, sa, s0, s1]
              refine tk 7 q40a_8_16_7 (some 69) (v := ?v19) rfl rfl (by kernel_rfl) hHeld (by rfl) (fun _ _ _ x => x) (fun w h => ?y19) ?_; (case y19 => (try dsimp only at h); go_simp; try (with_reducible rfl)); try simp only [Act.put, sa, s0, s1]
              refine tk 8 q40a_8_16_8 (some 70) (v := ?v20) rfl rfl (by kernel_rfl) hHeld (by rfl) (fun _ _ _ x => x) (fun w h => ?y20) ?_; (case y20 => (try dsimp only at h); go_simp; try (with_reducible rfl)); try simp only [Act.put, sa, s0, s1]
              refine tk 9 q40a_8_16_9 (some 71) (v := ?v21) rfl rfl (by kernel_rfl) hHeld (by rfl) (fun _ _ _ x => x) (fun w h => ?y21) ?_; (case y21 => (try dsimp only at h); go_simp; try (with_reducible rfl)); try simp only [Act.put, sa, s0, s1]
              refine tk 10 q40a_8_16_10 (some 72) (v := ?v22) rfl rfl (by kernel_rfl) hHeld (by rfl) (fun _ _ _ x => x) (fun w h => ?y22) ?_; (case y22 => (try dsimp only at h); go_simp; try (with_reducible rfl)); try simp only [Act.put, sa, s0, s1]
              refine wpAnyH_done (by kernel_rfl) ?_ _
              have HSN := Hid.mk (HS.out.below hHeld)
              go_wp2_with fail
              go_roundw
              case rel => first | exact ⟨k + 1, q, _, _, Fq, ap, cp, p, F, rfl, by go_num, by omega, HSN, HGN⟩ | ((repeat apply Exists.intro); exact ⟨⟨k + 1, q, _, _, Fq, ap, cp, p, F, rfl, by go_num, by omega, HSN, HGN⟩, rfl⟩)
              case measure => simp [intOf]; omega
            · have HQE : Hid (q[i]? = some m.fItems[k].fD) := by unfold Hid; rw [HQI.out, e3]
              rw [e1] at f0
              rw [e2] at f1
              clear HSK e1 e2
              generalize q[i] = z at *
              go_wp2_with fail
              refine wp_region_held_drew (S := fun W => Below wr.heap.size wr W) (by kernel_rfl) (Below.drew (Below.refl _ _)) (fun hHeld => ?_)
              refine tk 0 q40a_8_16_0 (some 62) (v := ?v23) rfl rfl (by kernel_rfl) hHeld (by rfl) (fun _ _ _ x => x) (fun w h => ?y23) ?_; (case y23 => (try dsimp only at h); go_simp; try (with_reducible rfl)); try simp only [Act.put, sa, s0, s1]
              refine tk 1 q40a_8_16_1 (some 63) (v := ?v24) rfl rfl (by kernel_rfl) hHeld (by rfl) (fun _ _ _ x => x) (fun w h => ?y24) ?_; (case y24 => (try dsimp only at h); go_simp; try (with_reducible rfl)); try simp only [Act.put, sa, s0, s1]
              refine tk 2 q40a_8_16_2 (some 64) (v := ?v25) rfl rfl (by kernel_rfl) hHeld (by rfl) (fun _ _ _ x => x) (fun w h => ?y25) ?_; (case y25 => (try dsimp only at h); go_simp; try (with_reducible rfl)); try simp only [Act.put, sa, s0, s1]
              refine tk 3 q40a_8_16_3 (some 65) (v := ?v26) rfl rfl (by kernel_rfl) hHeld (by rfl) (fun _ _ _ x => x) (fun w h => ?y26) ?_; (case y26 => (try dsimp only at h); go_simp; try (with_reducible rfl)); try simp only [Act.put, sa, s0, s1]
              refine tk 4 q40a_8_16_4 (some 66) (v := ?v27) rfl rfl (by kernel_rfl) hHeld (by rfl) (fun _ _ _ x => x) (fun w h => ?y27) ?_; (case y27 => (try dsimp only at h); go_simp; try (with_reducible rfl)); try simp only [Act.put, sa, s0, s1]
              refine tk 5 q40a_8_16_5 (some 67) (v := ?v28) rfl rfl (by kernel_rfl) hHeld (by rfl) (fun _ _ _ x => x) (fun w h => ?y28) ?_; (case y28 => (try dsimp only at h); go_simp; try (with_reducible rfl)); try simp only [Act.put, sa, s0, s1]
              refine tk 6 q40a_8_16_6 (some 68) (v := ?v29) rfl rfl (by kernel_rfl) hHeld (by rfl) (fun _ _ _ x => x) (fun w h => ?y29) ?_; (case y29 => (try dsimp only at h); go_simp; try (with_reducible rfl)); try simp only [Act.put, sa, s0, s1]
              refine tk 7 q40a_8_16_7 (some 69) (v := ?v30) rfl rfl (by kernel_rfl) hHeld (by rfl) (fun _ _ _ x => x) (fun w h => ?y30) ?_; (case y30 => (try dsimp only at h); go_simp; try (with_reducible rfl)); try simp only [Act.put, sa, s0, s1]
              refine tk 8 q40a_8_16_8 (some 70) (v := ?v31) rfl rfl (by kernel_rfl) hHeld (by rfl) (fun _ _ _ x => x) (fun w h => ?y31) ?_; (case y31 => (try dsimp only at h); go_simp; try (with_reducible rfl)); try simp only [Act.put, sa, s0, s1]
              refine tk 9 q40a_8_16_9 (some 71) (v := ?v32) rfl rfl (by kernel_rfl) hHeld (by rfl) (fun _ _ _ x => x) (fun w h => ?y32) ?_; (case y32 => (try dsimp only at h); go_simp; try (with_reducible rfl)); try simp only [Act.put, sa, s0, s1]
              refine tk 10 q40a_8_16_10 (some 72) (v := ?v33) rfl rfl (by kernel_rfl) hHeld (by rfl) (fun _ _ _ x => x) (fun w h => ?y33) ?_; (case y33 => (try dsimp only at h); go_simp; try (with_reducible rfl)); try simp only [Act.put, sa, s0, s1]
              refine wpAnyH_done (by kernel_rfl) ?_ _
              obtain ⟨wm, hwm⟩ : ∃ z, z = wr.drew := ⟨_, rfl⟩
              rw [← hwm] at hHeld ⊢
              have HSM := Hid.mk (HS.out.below hHeld)
              clear hwm hHeld HS f0 f1 y1 h0 h1 y0
              have HPK : Hid (putOk p m.fItems[k] = true) := HGT.out.ok2 HFL.out.ok (by rw [HN.out]; exact hNb) hkl HQE.out
              have HPUT : Hid (∀ q2, Gad m q q2 m.fItems[k].fDeps m.fItems[k].fDeps.length → Gat m q2 i (k + 1) (putG p m.fItems[k])) := fun q2 hd => (HGT.out.put HFL.out.ok (by rw [HN.out]; exact hNb) hkl HQE.out hd).2
              have HGA0 : Hid (Gad m q q m.fItems[k].fDeps 0) := Gad.start HGT.out _
              have HCLO : Hid (∀ x, x ∈ m.fItems[k].fDeps → ∃ it, it ∈ m.fItems ∧ it.fD = x) := fun x hx => HFL.out.closed (List.getElem_mem hkl) hx
              have HWP : Hid (wGraph p ≤ 1048576) := Nat.le_trans (graphP_w HGT.out.ok) (by omega)
              have hDL : m.fItems[k].fDeps.length ≤ 1048576 := wGraph_deps HWM.out k hkl
              have HWI : Hid (wItem m.fItems[k] ≤ 1048576) := by
                have h6 : sumW wDot m.fItems[k].fDeps ≤ m.fItems[k].fDeps.length * 0 := sumW_all (fun y _ => Nat.le_refl 0)
                show m.fItems[k].fDeps.length + sumW wDot m.fItems[k].fDeps ≤ 1048576
                omega
              have hCP := fun W (h : Below wm.heap.size wm W) => implGraphPut_c [.slice ap p.fItems.length cp] p [.int .i64 m.fItems[k].fD.fR, .int .i64 m.fItems[k].fD.fN, .slice a2 m.fItems[k].fDeps.length c2] m.fItems[k] W (HSM.out.below h).part ⟨a2, c2, rfl, HWF.out.1, HWF.out.2, (HCL.out W (HSM.out.below h).k).2.2.2, trivial⟩ HWP.out HWI.out
              simp only [HPK.out] at hCP
              clear HGT HPK HWI HWP HQE HQI e3
              generalize putG p m.fItems[k] = p2 at *
              generalize m.fItems[k].fDeps = ds at *
              generalize m.fItems[k].fD = x at *
              obtain ⟨D, hD⟩ : ∃ D, D = ds.length := ⟨_, rfl⟩
              have HD := Hid.mk hD.symm
              rw [← hD] at hDL HPUT
              simp only [← hD] at HCL hCP
              clear hD
              have f0 : ∀ W, Below wm.heap.size wm W → W.cell? ⟨bi, oi + k * 3, none⟩ = some (.int .i64 x.fR) := fun W h => (HCL.out W (HSM.out.below h).k).1
              have f1 : ∀ W, Below wm.heap.size wm W → W.cell? ⟨bi, oi + k * 3 + 1, none⟩ = some (.int .i64 x.fN) := fun W h => (HCL.out W (HSM.out.below h).k).2.1
              have f2 : ∀ W, Below wm.heap.size wm W → W.cell? ⟨bi, oi + k * 3 + 2, none⟩ = some (.slice a2 D c2) := fun W h => (HCL.out W (HSM.out.below h).k).2.2.1
              have y1 : ∀ W, Below wm.heap.size wm W → W.cell? ⟨b0, 0, none⟩ = some (.slice (some ⟨bi, oi, none⟩) N cg) := fun W h => HY0.out W (HSM.out.below h).k
              have y2 : ∀ W, Below wm.heap.size wm W → W.cell? ⟨bp, 0, none⟩ = some (.slice ap p.fItems.length cp) := fun W h => (HSM.out.below h).x.cell 0 _ rfl
              go_wp2_with fail
              go_cut [10, 11] (fun nv okv wx => ∃ (bn : Nat) (an : Option Addr) (cn : Nat) (F2 : List Nat), nv = .pointer (some ⟨bn, 0, none⟩) ∧ okv = .bool true ∧ Hid (Bw wx bn 30 [.slice an p2.fItems.length cn]) ∧ Hid (ownS 3 52 oItem wx (.slice an p2.fItems.length cn) p2.fItems F2) ∧ Hid (∀ b, b ∈ F2 → wm.heap.size ≤ b ∧ b ≠ bn) ∧ Below wm.heap.size wm wx)
              case first =>
                refine wp_region_held_drew (S := fun W => Below wm.heap.size wm W) (by kernel_rfl) (Below.drew (Below.refl _ _)) (fun hHeld => ?_)
                obtain ⟨wS, hwS⟩ : ∃ wS, wS = wm.drew := ⟨_, rfl⟩
                rw [← hwS] at hHeld ⊢
                clear hwS
                refine tk 0 q40a_8_17_0 (some 74) (v := ?v59) rfl rfl (by kernel_rfl) hHeld (by rfl) (fun _ _ _ x => x) (fun w h => ?y59) ?_; (case y59 => (try dsimp only at h); go_simp; try (with_reducible rfl)); try simp only [Act.put, sa, s0, s1]
                refine tk 1 q40a_8_17_1 (some 75) (v := ?v60) rfl rfl (by kernel_rfl) hHeld (by rfl) (fun _ _ _ x => x) (fun w h => ?y60) ?_; (case y60 => (try dsimp only at h); go_simp; try (with_reducible rfl)); try simp only [Act.put, sa, s0, s1]
                refine tk 2 q40a_8_17_2 (some 76) (v := ?v61) rfl rfl (by kernel_rfl) hHeld (by rfl) (fun _ _ _ x => x) (fun w h => ?y61) ?_; (case y61 => (try dsimp only at h); go_simp; try (with_reducible rfl)); try simp only [Act.put, sa, s0, s1]
                refine tk 3 q40a_8_17_3 (some 77) (v := ?v62) rfl rfl (by kernel_rfl) hHeld (by rfl) (fun _ _ _ x => x) (fun w h => ?y62) ?_; (case y62 => (try dsimp only at h); go_simp; try (with_reducible rfl)); try simp only [Act.put, sa, s0, s1]
                refine tk 4 q40a_8_17_4 (some 78) (v := ?v63) rfl rfl (by kernel_rfl) hHeld (by rfl) (fun _ _ _ x => x) (fun w h => ?y63) ?_; (case y63 => (try dsimp only at h); go_simp; try (with_reducible rfl)); try simp only [Act.put, sa, s0, s1]
                refine tk 5 q40a_8_17_5 (some 79) (v := ?v64) rfl rfl (by kernel_rfl) hHeld (by rfl) (fun _ _ _ x => x) (fun w h => ?y64) ?_; (case y64 => (try dsimp only at h); go_simp; try (with_reducible rfl)); try simp only [Act.put, sa, s0, s1]
                refine wpAnyH_ready (rs := [6, 10]) (by kernel_rfl) (by simp) ?_
                refine (AllReadyH.cons (o := q40a_8_17_6) rfl (fun K hK => ?_) (AllReadyH.cons (o := q40a_8_17_10) rfl (fun K hK => ?_) AllReadyH.nil))
                · go_simp
                  refine Calls.mono (hCP wS hHeld) ?_
                  rintro e wE6 ⟨cs6, F6, rfl, ho6, hN6, hge6, hop6⟩
                  obtain ⟨v6, F7, rfl, ho7, rfl⟩ := ho6
                  rw [List.append_nil] at hge6
                  obtain ⟨a6, c6, rfl, _⟩ := id (ownS.read oItem_good ho7)
                  have HG6 : Hid (∀ b, b ∈ F7 → wS.heap.size ≤ b ∧ wm.heap.size ≤ b) := fun b hb => ⟨hge6 b hb, Nat.le_trans hHeld.size (hge6 b hb)⟩
                  clear hN6 hge6
                  go_wp2_with fail
                  refine hK.out _ _ (bthen hHeld hop6) (fun hHeld => ?_)
                  clear hK K
                  try simp only [Act.put, sa, s0, s1]
                  refine tk 7 q40a_8_17_7 (some 73) (v := ?v65) rfl rfl (by kernel_rfl) hHeld (by rfl) (fun _ _ _ x => x) (fun w h => ?y65) ?_; (case y65 => (try dsimp only at h); go_simp; try (with_reducible rfl)); try simp only [Act.put, sa, s0, s1]
                  refine tk 8 q40a_8_17_8 (some 81) (v := ?v66) rfl rfl (by kernel_rfl) hHeld (by rfl) (fun _ _ _ x => x) (fun w h => ?y66) ?_; (case y66 => (try dsimp only at h); go_simp; try (with_reducible rfl)); try simp only [Act.put, sa, s0, s1]
                  refine tk 9 q40a_8_17_9 (some 82) (v := ?v67) rfl rfl (by kernel_rfl) hHeld (by rfl) (fun _ _ _ x => x) (fun w h => ?y67) ?_; (case y67 => (try dsimp only at h); go_simp; try (with_reducible rfl)); try simp only [Act.put, sa, s0, s1]
                  refine wpAnyH_ready (rs := [10]) (by kernel_rfl) (by simp) ?_
                  refine (AllReadyH.cons (o := q40a_8_17_10) rfl (fun K hK => ?_) AllReadyH.nil)
                  · go_simp
                    obtain ⟨wE10, hq10⟩ : ∃ q, q = wE6.alloc (.cells #[.slice none 0 0] 30) := ⟨_, rfl⟩
                    have hop10 : Below wE6.heap.size wE6 wE10 := by rw [hq10]; exact (Below.refl _ _).alloc (Nat.le_refl _) _
                    obtain ⟨bn, HBN⟩ : ∃ z, Hid (z = wE6.heap.size) := ⟨_, Hid.mk rfl⟩
                    have HB10 : Hid (Bw wE10 bn 30 [.slice none 0 0]) := by unfold Hid; rw [HBN.out, hq10]; exact Bw.new _ _ _
                    have HBL : Hid (wm.heap.size ≤ bn) := by unfold Hid; rw [HBN.out]; exact hHeld.size
                    rw [← HBN.out]
                    rw [← hq10]
                    clear hq10
                    refine hK.out _ _ (bthen hHeld hop10) (fun hHeld => ?_)
                    clear hK K
                    try simp only [Act.put, sa, s0, s1]
                    refine wpAnyH_ready (rs := [11]) (by kernel_rfl) (by simp) ?_
                    refine (AllReadyH.cons (o := q40a_8_17_11) rfl (fun K hK => ?_) AllReadyH.nil)
                    · skip
                      have hbd := HB10.out.under (show Below wE10.heap.size wE10 wE10 from Below.refl _ _)
                      have s0 := hbd.cell 0 _ rfl
                      have s2 := hbd.free 0
                      have s4 := hbd.lt
                      go_simp
                      have HBF := Hid.mk (hbd.put 0 (.slice a6 p2.fItems.length c6))
                      have HNE : Hid (∀ b, b ∈ F7 → b ≠ bn) := fun b hb e9 => by have h1 := (HG6.out b hb).1; have h2 := ownS.lt oItem_good ho7 b hb; have h3 := HBN.out; have h4 := HB10.out.lt; omega
                      have HOF : Hid (ownS 3 52 oItem (wE10.setCell ⟨bn, 0, none⟩ (.slice a6 p2.fItems.length c6)) (.slice a6 p2.fItems.length c6) p2.fItems F7) := ownS.frame oItem_good ho7 (fun b hb => (heap_setCell_other wE10 ⟨bn, 0, none⟩ b _ (HNE.out b hb)).trans (((show Below wE6.heap.size wE6 wE10 from bthen (Below.refl _ _) hop10)).block b (ownS.lt oItem_good ho7 b hb)))
                      clear s0 s2 s4 hbd
                      refine hK.out _ _ (hHeld.setCell (p := ⟨bn, 0, none⟩) HBL.out _) (fun hHeld => ?_)
                      clear hK K
                      try simp only [Act.put, sa, s0, s1]
                      refine tk 12 q40a_8_17_12 (some 11) (v := ?v68) rfl rfl (by kernel_rfl) hHeld (by rfl) (fun _ _ _ x => x) (fun w h => ?y68) ?_; (case y68 => (try dsimp only at h); go_simp; try (with_reducible rfl)); try simp only [Act.put, sa, s0, s1]
                      refine wpAnyH_done (by kernel_rfl) ?_ _
                      try go_wp2_with fail
                      go_meet
                      case rel => exact ⟨bn, a6, c6, F7, rfl, rfl, HBF, HOF, (fun b hb => ⟨(HG6.out b hb).2, HNE.out b hb⟩), hHeld⟩
                · go_simp
                  obtain ⟨wE10, hq10⟩ : ∃ q, q = wS.alloc (.cells #[.slice none 0 0] 30) := ⟨_, rfl⟩
                  have hop10 : Below wS.heap.size wS wE10 := by rw [hq10]; exact (Below.refl _ _).alloc (Nat.le_refl _) _
                  obtain ⟨bn, HBN⟩ : ∃ z, Hid (z = wS.heap.size) := ⟨_, Hid.mk rfl⟩
                  have HB10 : Hid (Bw wE10 bn 30 [.slice none 0 0]) := by unfold Hid; rw [HBN.out, hq10]; exact Bw.new _ _ _
                  have HBL : Hid (wm.heap.size ≤ bn) := by unfold Hid; rw [HBN.out]; exact hHeld.size
                  rw [← HBN.out]
                  rw [← hq10]
                  clear hq10
                  refine hK.out _ _ (bthen hHeld hop10) (fun hHeld => ?_)
                  clear hK K
                  try simp only [Act.put, sa, s0, s1]
                  refine wpAnyH_ready (rs := [6]) (by kernel_rfl) (by simp) ?_
                  refine (AllReadyH.cons (o := q40a_8_17_6) rfl (fun K hK => ?_) AllReadyH.nil)
                  · go_simp
                    refine Calls.mono (hCP wE10 hHeld) ?_
                    rintro e wE6 ⟨cs6, F6, rfl, ho6, hN6, hge6, hop6⟩
                    obtain ⟨v6, F7, rfl, ho7, rfl⟩ := ho6
                    rw [List.append_nil] at hge6
                    obtain ⟨a6, c6, rfl, _⟩ := id (ownS.read oItem_good ho7)
                    have HG6 : Hid (∀ b, b ∈ F7 → wE10.heap.size ≤ b ∧ wm.heap.size ≤ b) := fun b hb => ⟨hge6 b hb, Nat.le_trans hHeld.size (hge6 b hb)⟩
                    clear hN6 hge6
                    go_wp2_with fail
                    refine hK.out _ _ (bthen hHeld hop6) (fun hHeld => ?_)
                    clear hK K
                    try simp only [Act.put, sa, s0, s1]
                    refine tk 7 q40a_8_17_7 (some 73) (v := ?v69) rfl rfl (by kernel_rfl) hHeld (by rfl) (fun _ _ _ x => x) (fun w h => ?y69) ?_; (case y69 => (try dsimp only at h); go_simp; try (with_reducible rfl)); try simp only [Act.put, sa, s0, s1]
                    refine tk 8 q40a_8_17_8 (some 81) (v := ?v70) rfl rfl (by kernel_rfl) hHeld (by rfl) (fun _ _ _ x => x) (fun w h => ?y70) ?_; (case y70 => (try dsimp only at h); go_simp; try (with_reducible rfl)); try simp only [Act.put, sa, s0, s1]
                    refine tk 9 q40a_8_17_9 (some 82) (v := ?v71) rfl rfl (by kernel_rfl) hHeld (by rfl) (fun _ _ _ x => x) (fun w h => ?y71) ?_; (case y71 => (try dsimp only at h); go_simp; try (with_reducible rfl)); try simp only [Act.put, sa, s0, s1]
                    refine wpAnyH_ready (rs := [11]) (by kernel_rfl) (by simp) ?_
                    refine (AllReadyH.cons (o := q40a_8_17_11) rfl (fun K hK => ?_) AllReadyH.nil)
                    · skip
                      have hbd := HB10.out.under (show Below wE10.heap.size wE10 wE6 from bthen (Below.refl _ _) hop6)
                      have s0 := hbd.cell 0 _ rfl
                      have s2 := hbd.free 0
                      have s4 := hbd.lt
                      go_simp
                      have HBF := Hid.mk (hbd.put 0 (.slice a6 p2.fItems.length c6))
                      have HNE : Hid (∀ b, b ∈ F7 → b ≠ bn) := fun b hb e9 => by have h1 := (HG6.out b hb).1; have h2 := ownS.lt oItem_good ho7 b hb; have h3 := HBN.out; have h4 := HB10.out.lt; omega
                      have HOF : Hid (ownS 3 52 oItem (wE6.setCell ⟨bn, 0, none⟩ (.slice a6 p2.fItems.length c6)) (.slice a6 p2.fItems.length c6) p2.fItems F7) := ownS.frame oItem_good ho7 (fun b hb => (heap_setCell_other wE6 ⟨bn, 0, none⟩ b _ (HNE.out b hb)).trans (((show Below wE6.heap.size wE6 wE6 from Below.refl _ _)).block b (ownS.lt oItem_good ho7 b hb)))
                      clear s0 s2 s4 hbd
                      refine hK.out _ _ (hHeld.setCell (p := ⟨bn, 0, none⟩) HBL.out _) (fun hHeld => ?_)
                      clear hK K
                      try simp only [Act.put, sa, s0, s1]
                      refine tk 12 q40a_8_17_12 (some 11) (v := ?v72) rfl rfl (by kernel_rfl) hHeld (by rfl) (fun _ _ _ x => x) (fun w h => ?y72) ?_; (case y72 => (try dsimp only at h); go_simp; try (with_reducible rfl)); try simp only [Act.put, sa, s0, s1]
                      refine wpAnyH_done (by kernel_rfl) ?_ _
                      try go_wp2_with fail
                      go_meet
                      case rel => exact ⟨bn, a6, c6, F7, rfl, rfl, HBF, HOF, (fun b hb => ⟨(HG6.out b hb).2, HNE.out b hb⟩), hHeld⟩
              case rest =>
                obtain ⟨bn, an, cn, F2, rfl, rfl, HBN, HO2, HGE, hbx⟩ := hcut
                clear f0 f1 f2 y1 y2 hCP
                have q0 := HBN.out.cell 0 _ rfl
                have hxc := (HSM.out.below hbx).x
                have q1 := hxc.cell 0 _ rfl
                have q2 := hxc.free 0
                have q3 := hxc.lt
                have q4 := HBN.out.lt
                have HSP : Hid (StSt wA bp (.slice (some ⟨b1, o1, none⟩) q.length cq) q Fq (.slice an p2.fItems.length cn) p2 F2 (wc.setCell ⟨bp, 0, none⟩ (.slice an p2.fItems.length cn))) := HSM.out.put hbx HO2.out (fun b hb => (HGE.out b hb).1)
                obtain ⟨w5, hw5⟩ : ∃ z, z = wc.setCell ⟨bp, 0, none⟩ (.slice an p2.fItems.length cn) := ⟨_, rfl⟩
                rw [← hw5] at HSP
                clear HBN HO2 HGE HSM hxc hbx
                go_wp2_with fail
                rw [← hw5]
                clear hw5 q0 q1 q2 q3 q4
                generalize wr = wo2 at *
                go_wp2_with fail
                go_loopw [7, 12] (fun qv jv wr => ∃ (j : Nat) (q2 : List MDot) (aq2 : Option Addr) (cq2 : Nat) (Fq2 : List Nat), qv = .slice aq2 q2.length cq2 ∧ jv = .int .i64 j ∧ j ≤ D ∧ Hid (StSt wA bp (.slice aq2 q2.length cq2) q2 Fq2 (.slice an p2.fItems.length cn) p2 F2 wr) ∧ Hid (Gad m q q2 ds j)) (fun _ jv _ => D - (intOf jv).toNat)
                case atStart => exact ⟨0, q, _, _, Fq, rfl, rfl, Nat.zero_le _, HSP, HGA0⟩
                case round =>
                  clear HSP HGA0
                  obtain ⟨j, q2, aq2, cq2, Fq2, rfl, rfl, hj, HSJ, HGA⟩ := hrel
                  have y0 := HY0.out _ HSJ.out.k
                  have f2 := (HCL.out _ HSJ.out.k).2.2.1
                  have hzb := HZB.out _ HSJ.out.k
                  have hzb1 := hzb.1
                  have hzb2 := hzb.2
                  have hq2l : q2.length ≤ 12 := by have h1 := queue_len HGA.out.nd HGA.out.inG; have h2 := HLN.out; omega
                  by_cases hjD : j < D
                  · have hjl : j < ds.length := by rw [HD.out]; exact hjD
                    obtain ⟨b5, o5, rfl, hB5, cs, hcl5, hcell5, rfl, g0, g1, _⟩ := (HCL.out _ HSJ.out.k).2.2.2.2.2 j hjl
                    have k0 := hcell5 0 _ rfl
                    have k1 := hcell5 1 _ rfl
                    rw [Nat.add_zero] at k0
                    have hj0 : (0 : Int) ≤ (j : Int) := by omega
                    have hj1 : (j : Int) < (D : Int) := by omega
                    have HIN : Hid (∃ it, it ∈ m.fItems ∧ it.fD = ds[j]) := HCLO.out _ (List.getElem_mem hjl)
                    have HHAS : Hid (ds[j] ∈ q2 → Gad m q q2 ds (j + 1)) := fun h => HGA.out.has hjl h
                    have HADD : Hid (ds[j] ∉ q2 → Gad m q (q2 ++ [ds[j]]) ds (j + 1)) := fun h => HGA.out.add hjl h HIN.out
                    have HK0 : Hid (∀ W, Below wr.heap.size wr W → W.cell? ⟨b5, o5 + j * 2, none⟩ = some (.int .i64 ds[j].fR)) := fun W h => (h.cell (p := ⟨b5, o5 + j * 2, none⟩) hB5).trans k0
                    have HK1 : Hid (∀ W, Below wr.heap.size wr W → W.cell? ⟨b5, o5 + j * 2 + 1, none⟩ = some (.int .i64 ds[j].fN)) := fun W h => (h.cell (p := ⟨b5, o5 + j * 2 + 1, none⟩) hB5).trans k1
                    clear hcell5 hcl5 HIN
                    generalize ds[j] = dd at *
                    obtain ⟨aq9, cq9, hqe, hLq⟩ := HSJ.out.queue
                    simp only [Value.slice.injEq, true_and] at hqe
                    obtain ⟨rfl, rfl⟩ := hqe
                    have hPC := place_any aq2 q2.length cq2 q2 dd wr rfl (by omega) hLq
                    go_wp2_with fail
                    refine hPC.mono ?_
                    rintro e w6 ⟨⟨pz, HPZ, rfl⟩, hx6⟩
                    have HSJ6 := Hid.mk (HSJ.out.below hx6)
                    clear hPC hLq y0 f2 k0 k1
                    by_cases hdin : dd ∈ q2
                    · have hp0 : ¬ pz < 0 := by have := HPZ.out.pos.2 hdin; omega
                      have hp1 : decide (pz < 0) = false := decide_eq_false hp0
                      have HGN := Hid.mk (HHAS.out hdin)
                      go_wp2_with fail
                      go_roundw
                      case rel => first | exact ⟨j + 1, q2, aq2, cq2, Fq2, rfl, by go_num, by omega, HSJ6, HGN⟩ | ((repeat apply Exists.intro); exact ⟨⟨j + 1, q2, aq2, cq2, Fq2, rfl, by go_num, by omega, HSJ6, HGN⟩, rfl⟩)
                      case measure => simp [intOf]; omega
                    · have hp0 : pz < 0 := HPZ.out.neg.2 hdin
                      have hp1 : decide (pz < 0) = true := decide_eq_true hp0
                      have HGN := Hid.mk (HADD.out hdin)
                      have y0 := HY0.out _ HSJ6.out.k
                      have f2 := (HCL.out _ HSJ6.out.k).2.2.1
                      have k0 := HK0.out _ hx6
                      have k1 := HK1.out _ hx6
                      obtain ⟨w7, hw7⟩ : ∃ z, z = w6.alloc (.cells #[.int .i64 dd.fR, .int .i64 dd.fN] 40) := ⟨_, rfl⟩
                      have hx7 : Below w6.heap.size w6 w7 := by rw [hw7]; exact (Below.refl _ _).alloc (Nat.le_refl _) _
                      have hbx7 : Bx w7 w6.heap.size [.int .i64 dd.fR, .int .i64 dd.fN] := by rw [hw7]; exact Bx.new _ _ _
                      have HSJ7 := Hid.mk (HSJ6.out.below hx7)
                      obtain ⟨rs, hrs, hnext⟩ := HSJ7.out.app
                      have HNX := Hid.mk hnext
                      have HOD : Hid (oDot w7 [.int .i64 dd.fR, .int .i64 dd.fN] dd []) := ⟨rfl, g0, g1, rfl⟩
                      clear hnext HHAS HADD HSJ HSJ6 HSJ7 HGA
                      go_wp2_with (at_builtin; rw [← hw7]; refine wpList_append_src_y rfl _ _ 26 26 rfl 0 40 iT (.agg #[.int .i64 0, .int .i64 0]) 2 16 Tryd.underlying26 HIT.out.1 HIT.out.2.1 HIT.out.2.2.1 HIT.out.2.2.2 rfl _ _ _ rfl hrs _ rfl 1 _ (Src.ofSlice w7 Tryd.underlying26 ⟨w6.heap.size, 0, none⟩ 1 1 _ rfl (bx_news hbx7) (by intro u hu; simp at hu; rcases hu with rfl | rfl <;> rfl)) (by unfold maxLen; omega) (by omega) (Nat.zero_le _) ?_; intro v8 w8 ho8 hgr8 hat8; obtain ⟨F8, a8, c8, hv8, hS8⟩ := HNX.out w8 v8 _ dd ho8 hgr8 hat8 HOD.out; subst hv8; have HS8 := Hid.mk hS8; clear hS8 HNX ho8 hgr8 hat8; generalize q2 ++ [dd] = q5 at *)
                      go_roundw
                      case rel => first | exact ⟨j + 1, q5, a8, c8, F8, rfl, by go_num, by omega, HS8, HGN⟩ | ((repeat apply Exists.intro); exact ⟨⟨j + 1, q5, a8, c8, F8, rfl, by go_num, by omega, HS8, HGN⟩, rfl⟩)
                      case measure => simp [intOf]; omega
                  · have hje : j = D := by omega
                    have hjn : ¬ (j : Int) < (D : Int) := by omega
                    have HGN : Hid (Gat m q2 i (k + 1) p2) := HPUT.out q2 (hje ▸ HGA.out)
                    have hiq2 : i < q2.length := by obtain ⟨r, e⟩ := HGA.out.pre; rw [e]; simp; omega
                    clear hje
                    go_wp2_with fail
                    go_roundw
                    case rel => first | exact ⟨k + 1, q2, aq2, cq2, Fq2, an, cn, p2, F2, rfl, by go_num, by omega, HSJ, HGN⟩ | ((repeat apply Exists.intro); exact ⟨⟨k + 1, q2, aq2, cq2, Fq2, an, cn, p2, F2, rfl, by go_num, by omega, HSJ, HGN⟩, rfl⟩)
                    case measure => simp [intOf]; omega
          · have hke : k = N := by omega
            have hkn1 : ¬ (k : Int) < (N : Int) := by omega
            have HGN : Hid (Gat m q (i + 1) 0 p) := by
              have h := HGT.out
              rw [hke, ← HN.out] at h
              exact h.next hki.2
            have hq9 := hki.2
            have hql : q.length ≤ 12 := by have h1 := queue_len HGT.out.nd HGT.out.inG; have h2 := HLN.out; omega
            clear hke
            go_wp2_with fail
            go_roundw
            case rel => first | exact ⟨i + 1, q, aq, cq, Fq, ap, cp, p, F, rfl, by go_num, by omega, HS, HGN⟩ | ((repeat apply Exists.intro); exact ⟨⟨i + 1, q, aq, cq, Fq, ap, cp, p, F, rfl, by go_num, by omega, HS, HGN⟩, rfl⟩)
            case measure => simp [intOf]; omega
      · have hin : ¬ (i : Int) < (q.length : Int) := by omega
        obtain ⟨hsub, hclo⟩ := HGT.out.done (by omega)
        have HSB := Hid.mk hsub
        have HCO := Hid.mk hclo
        have HPO := Hid.mk HGT.out.ok
        have HWP : Hid (wGraph p ≤ 1048576) := Nat.le_trans (graphP_w HGT.out.ok) (by omega)
        have hpl : p.fItems.length ≤ 12 := by have h1 := HGT.out.plen HFL.out.ok; have h2 := HLN.out; omega
        obtain ⟨ML, hML⟩ := order_ex p
        have HML := Hid.mk hML
        have HMLN : Hid (ML.length = p.fItems.length) := order_all HGT.out.ok hclo hML
        have HCMP : Hid (∀ (it : MItem) (b : MDot) (x1 y1 x2 y2 : Int), it ∈ p.fItems → b ∈ it.fDeps → PlcAt OL it.fD x1 → PlcAt OL b y1 → PlcAt ML it.fD x2 → PlcAt ML b y2 → ((x1 < y1) ↔ (x2 < y2))) := fun it b x1 y1 x2 y2 hit hb h1 h2 h3 h4 => stable_cmp HFL.out.ok HPO.out (fun x hx d hd => HFL.out.closed hx hd) HSB.out HCO.out HOL.out HML.out hit hb h1 h2 h3 h4
        have HRP : Hid (∀ W, Below wr.heap.size wr W → rGraph W.heap.size W [.slice ap p.fItems.length cp] p) := fun W h => (HS.out.below h).part
        have HP0 : Hid (∀ W, Below wr.heap.size wr W → W.cell? ⟨bp, 0, none⟩ = some (.slice ap p.fItems.length cp)) := fun W h => (HS.out.below h).x.cell 0 _ rfl
        have HTW : Hid (TzAt wr) := HTZ.out _ (HB3.out _ (bthen hbA HS.out.k))
        have HO3 : Hid (∀ W, Below wr.heap.size wr W → LeafL 2 rDot W.heap.size W a3 c3 OL) := fun W h => HW3.out W (bthen (bthen hbA HS.out.k) h)
        have hbW : Below w.heap.size w wr := bthen hbw3 (bthen hbA HS.out.k)
        have hzp : bp < wr.heap.size := HS.out.x.lt
        clear hsub hclo hML HGT HS HSB HCO HPO hql hi
        obtain ⟨P, hP⟩ : ∃ P, P = p.fItems.length := ⟨_, rfl⟩
        have HP := Hid.mk hP.symm
        rw [← hP] at HMLN HRP HP0 hpl
        clear hP
        have y0 := HP0.out _ (Below.refl _ _)
        generalize wr = wo at *
        go_wp2_with fail
        refine (implOrderOf_c ML [.slice ap P cp] p HML.out wo (HRP.out _ (Below.refl _ _)) HWP.out HTW.out).mono ?_
        rintro e w9 ⟨v9, F9, rfl, ho9, _, _, hx9⟩
        obtain ⟨a9, c9, rfl, hL9⟩ := rdDs_own ho9
        rw [HMLN.out]
        have HW9 : Hid (∀ W, Below w9.heap.size w9 W → LeafL 2 rDot W.heap.size W a9 c9 ML) := fun W hb => LeafL.mono rDot_good (hL9.below rDot_good hb) hb.size
        have hz9 : bp < w9.heap.size := Nat.lt_of_lt_of_le hzp hx9.size
        clear ho9 hL9 y0 hin hiq
        have y0 := HP0.out _ hx9
        go_wp2_with fail
        clear y0
        go_loopw [14] (fun iv wr => ∃ i : Nat, i ≤ P ∧ iv = .int .i64 i ∧ Below w9.heap.size w9 wr) (fun iv _ => P - (intOf iv).toNat)
        case atStart => exact ⟨0, Nat.zero_le _, rfl, Below.refl _ _⟩
        case round =>
          obtain ⟨i2, hi2, rfl, hbi⟩ := hrel
          have hbo := bthen hx9 hbi
          have y0 := HP0.out _ hbo
          have hzi : bp < wr.heap.size := Nat.lt_of_lt_of_le hz9 hbi.size
          by_cases hiP : i2 < P
          rotate_left
          · have hin : ¬ (i2 : Int) < (P : Int) := by omega
            go_wp2_with fail
            go_ret
            exact ⟨rfl, bthen hbW hbo⟩
          have hil : i2 < p.fItems.length := by rw [HP.out]; exact hiP
          obtain ⟨bj, oj, rfl, hbj, a2, c2, k0, k1, k2, g0, g1, hDL⟩ := itemS_at (HRP.out _ hbo) hil
          have hdl : p.fItems[i2].fDeps.length ≤ 1048576 := wGraph_deps HWP.out i2 hil
          have HIT9 : Hid (p.fItems[i2] ∈ p.fItems) := List.getElem_mem hil
          have HCM2 : Hid (∀ (b : MDot) (x1 y1 x2 y2 : Int), b ∈ p.fItems[i2].fDeps → PlcAt OL p.fItems[i2].fD x1 → PlcAt OL b y1 → PlcAt ML p.fItems[i2].fD x2 → PlcAt ML b y2 → ((x1 < y1) ↔ (x2 < y2))) := fun b x1 y1 x2 y2 hb h1 h2 h3 h4 => HCMP.out _ b x1 y1 x2 y2 HIT9.out hb h1 h2 h3 h4
          have hi0 : (0 : Int) ≤ (i2 : Int) := by omega
          have hi1 : (i2 : Int) < (P : Int) := by omega
          have HK2 : Hid (∀ W, Below wr.heap.size wr W → W.cell? ⟨bj, oj + i2 * 3 + 2, none⟩ = some (.slice a2 p.fItems[i2].fDeps.length c2)) := fun W h => (h.cell (p := ⟨bj, oj + i2 * 3 + 2, none⟩) hbj).trans k2
          have HDL : Hid (∀ W, Below wr.heap.size wr W → LeafL 2 rDot W.heap.size W a2 c2 p.fItems[i2].fDeps) := fun W h => LeafL.mono rDot_good (hDL.below rDot_good h) h.size
          clear k2 hDL HIT9 g0 g1
          generalize p.fItems[i2].fDeps = ds at *
          generalize p.fItems[i2].fD = x at *
          obtain ⟨D, hD⟩ : ∃ D, D = ds.length := ⟨_, rfl⟩
          have HD := Hid.mk hD.symm
          rw [← hD] at hdl HK2
          clear hD
          obtain ⟨wx, hwx⟩ : ∃ z, z = wr.alloc (.cells #[.int .i64 x.fR, .int .i64 x.fN] 40) := ⟨_, rfl⟩
          have hbx : Below wr.heap.size wr wx := by rw [hwx]; exact (Below.refl _ _).alloc (Nat.le_refl _) _
          have hbxx : Bx wx wr.heap.size [.int .i64 x.fR, .int .i64 x.fN] := by rw [hwx]; exact Bx.new _ _ _
          obtain ⟨ba, hba⟩ : ∃ b, b = wr.heap.size := ⟨_, rfl⟩
          rw [← hba] at hbxx
          go_wp2_with fail
          rw [← hwx, ← hba]
          have hbxo := bthen hbo hbx
          have hbx9 := bthen hbi hbx
          have HK3 : Hid (∀ W, Below wx.heap.size wx W → W.cell? ⟨bj, oj + i2 * 3 + 2, none⟩ = some (.slice a2 D c2)) := fun W h => HK2.out W (bthen hbx h)
          have HDX : Hid (∀ W, Below wx.heap.size wx W → LeafL 2 rDot W.heap.size W a2 c2 ds) := fun W h => HDL.out W (bthen hbx h)
          have hbjx : bj < wx.heap.size := Nat.lt_of_lt_of_le hbj hbx.size
          clear hwx hba k0 k1 y0 HK2 HDL hbx
          generalize wr = wo3 at *
          go_loopw [16] (fun jv wr => ∃ j : Nat, j ≤ D ∧ jv = .int .i64 j ∧ Below wx.heap.size wx wr) (fun jv _ => D - (intOf jv).toNat)
          case atStart => exact ⟨0, Nat.zero_le _, rfl, Below.refl _ _⟩
          case round =>
            obtain ⟨j, hj, rfl, hbk⟩ := hrel
            have y1 := HP0.out _ (bthen hbxo hbk)
            have k3 := HK3.out _ hbk
            have hzk : bp < wr.heap.size := by have h1 := (bthen hbx9 hbk).size; omega
            have hzj : bj < wr.heap.size := Nat.lt_of_lt_of_le hbjx hbk.size
            by_cases hjD : j < D
            · have hjl : j < ds.length := by rw [HD.out]; exact hjD
              obtain ⟨b5, o5, rfl, hB5, cs, hcl5, hcell5, rfl, _, _, _⟩ := (HDX.out _ hbk).2.2 j hjl
              have k0 := hcell5 0 _ rfl
              have k1 := hcell5 1 _ rfl
              rw [Nat.add_zero] at k0
              have hj0 : (0 : Int) ≤ (j : Int) := by omega
              have hj1 : (j : Int) < (D : Int) := by omega
              have HM9 : Hid (ds[j] ∈ ds) := List.getElem_mem hjl
              clear hcell5 hcl5
              generalize ds[j] = dd at *
              obtain ⟨wy, hwy⟩ : ∃ z, z = wr.alloc (.cells #[.int .i64 dd.fR, .int .i64 dd.fN] 40) := ⟨_, rfl⟩
              have hby : Below wr.heap.size wr wy := by rw [hwy]; exact (Below.refl _ _).alloc (Nat.le_refl _) _
              have hbyy : Bx wy wr.heap.size [.int .i64 dd.fR, .int .i64 dd.fN] := by rw [hwy]; exact Bx.new _ _ _
              obtain ⟨bb, hbb⟩ : ∃ b, b = wr.heap.size := ⟨_, rfl⟩
              rw [← hbb] at hbyy
              have hbky := bthen hbk hby
              go_wp2_with fail
              rw [← hwy, ← hbb]
              clear hwy hbb k0 k1 y1 k3
              have u0 : ∀ W, Below wy.heap.size wy W → W.cell? ⟨ba, 0, none⟩ = some (.int .i64 x.fR) := fun W h => (hbxx.under (bthen hbky h)).2 0 _ rfl
              have u1 : ∀ W, Below wy.heap.size wy W → W.cell? ⟨ba, 1, none⟩ = some (.int .i64 x.fN) := fun W h => (hbxx.under (bthen hbky h)).2 1 _ rfl
              have u2 : ∀ W, Below wy.heap.size wy W → W.cell? ⟨bb, 0, none⟩ = some (.int .i64 dd.fR) := fun W h => (hbyy.under h).2 0 _ rfl
              have u3 : ∀ W, Below wy.heap.size wy W → W.cell? ⟨bb, 1, none⟩ = some (.int .i64 dd.fN) := fun W h => (hbyy.under h).2 1 _ rfl
              have hCA := fun W (h : Below wy.heap.size wy W) => place_any a3 N c3 OL x W HOLN.out (by omega) (HO3.out W (bthen (bthen hbxo hbky) h))
              have hCB := fun W (h : Below wy.heap.size wy W) => place_any a3 N c3 OL dd W HOLN.out (by omega) (HO3.out W (bthen (bthen hbxo hbky) h))
              have hCC := fun W (h : Below wy.heap.size wy W) => place_any a9 P c9 ML x W HMLN.out (by omega) (HW9.out W (bthen (bthen hbx9 hbky) h))
              have hCD := fun W (h : Below wy.heap.size wy W) => place_any a9 P c9 ML dd W HMLN.out (by omega) (HW9.out W (bthen (bthen hbx9 hbky) h))
              go_wp2_with fail
              refine wp_region_held_drew (S := fun W => Below wy.heap.size wy W) (by kernel_rfl) (Below.drew (Below.refl _ _)) (fun hHeld => ?_)
              refine tk 0 q40a_8_37_0 (some 162) (v := ?v34) rfl rfl (by kernel_rfl) hHeld (by rfl) (fun _ _ _ x => x) (fun w h => ?y34) ?_; (case y34 => (try dsimp only at h); go_simp; try (with_reducible rfl)); try simp only [Act.put, sa, s0, s1]
              refine tk 1 q40a_8_37_1 (some 163) (v := ?v35) rfl rfl (by kernel_rfl) hHeld (by rfl) (fun _ _ _ x => x) (fun w h => ?y35) ?_; (case y35 => (try dsimp only at h); go_simp; try (with_reducible rfl)); try simp only [Act.put, sa, s0, s1]
              refine tk 3 q40a_8_37_3 (some 165) (v := ?v36) rfl rfl (by kernel_rfl) hHeld (by rfl) (fun _ _ _ x => x) (fun w h => ?y36) ?_; (case y36 => (try dsimp only at h); go_simp; try (with_reducible rfl)); try simp only [Act.put, sa, s0, s1]
              refine tk 4 q40a_8_37_4 (some 166) (v := ?v37) rfl rfl (by kernel_rfl) hHeld (by rfl) (fun _ _ _ x => x) (fun w h => ?y37) ?_; (case y37 => (try dsimp only at h); go_simp; try (with_reducible rfl)); try simp only [Act.put, sa, s0, s1]
              refine tk 7 q40a_8_37_7 (some 169) (v := ?v38) rfl rfl (by kernel_rfl) hHeld (by rfl) (fun _ _ _ x => x) (fun w h => ?y38) ?_; (case y38 => (try dsimp only at h); go_simp; try (with_reducible rfl)); try simp only [Act.put, sa, s0, s1]
              refine tk 8 q40a_8_37_8 (some 170) (v := ?v39) rfl rfl (by kernel_rfl) hHeld (by rfl) (fun _ _ _ x => x) (fun w h => ?y39) ?_; (case y39 => (try dsimp only at h); go_simp; try (with_reducible rfl)); try simp only [Act.put, sa, s0, s1]
              refine tk 10 q40a_8_37_10 (some 172) (v := ?v40) rfl rfl (by kernel_rfl) hHeld (by rfl) (fun _ _ _ x => x) (fun w h => ?y40) ?_; (case y40 => (try dsimp only at h); go_simp; try (with_reducible rfl)); try simp only [Act.put, sa, s0, s1]
              refine tk 11 q40a_8_37_11 (some 173) (v := ?v41) rfl rfl (by kernel_rfl) hHeld (by rfl) (fun _ _ _ x => x) (fun w h => ?y41) ?_; (case y41 => (try dsimp only at h); go_simp; try (with_reducible rfl)); try simp only [Act.put, sa, s0, s1]
              refine wpAnyH_ready (rs := [2]) (by kernel_rfl) (by simp) ?_
              refine AllReadyH.cons (o := q40a_8_37_2) rfl (fun K hK => ?_) AllReadyH.nil
              go_simp
              refine Calls.mono (hCA _ hHeld) ?_
              rintro e v1 ⟨⟨x1, HX1, rfl⟩, hy1⟩
              go_wp2_with fail
              refine hK.out _ _ (bthen hHeld hy1) (fun hHeld => ?_)
              clear hK K
              try simp only [Act.put, sa, s0, s1]
              refine wpAnyH_ready (rs := [5]) (by kernel_rfl) (by simp) ?_
              refine AllReadyH.cons (o := q40a_8_37_5) rfl (fun K hK => ?_) AllReadyH.nil
              go_simp
              refine Calls.mono (hCB _ hHeld) ?_
              rintro e v2 ⟨⟨y1, HY1, rfl⟩, hy2⟩
              obtain ⟨B1, hB1⟩ : ∃ B, decide (x1 < y1) = B := ⟨_, rfl⟩
              go_wp2_with fail
              refine hK.out _ _ (bthen hHeld hy2) (fun hHeld => ?_)
              clear hK K
              try simp only [Act.put, sa, s0, s1]
              refine tk 6 q40a_8_37_6 (some 168) (v := ?v42) rfl rfl (by kernel_rfl) hHeld (by rfl) (fun _ _ _ x => x) (fun w h => ?y42) ?_; (case y42 => (try dsimp only at h); go_simp; try (with_reducible rfl)); try simp only [Act.put, sa, s0, s1]
              refine wpAnyH_ready (rs := [9]) (by kernel_rfl) (by simp) ?_
              refine AllReadyH.cons (o := q40a_8_37_9) rfl (fun K hK => ?_) AllReadyH.nil
              go_simp
              refine Calls.mono (hCC _ hHeld) ?_
              rintro e v3 ⟨⟨x2, HX2, rfl⟩, hy3⟩
              go_wp2_with fail
              refine hK.out _ _ (bthen hHeld hy3) (fun hHeld => ?_)
              clear hK K
              try simp only [Act.put, sa, s0, s1]
              refine wpAnyH_ready (rs := [12]) (by kernel_rfl) (by simp) ?_
              refine AllReadyH.cons (o := q40a_8_37_12) rfl (fun K hK => ?_) AllReadyH.nil
              go_simp
              refine Calls.mono (hCD _ hHeld) ?_
              rintro e v4 ⟨⟨y2, HY2, rfl⟩, hy4⟩
              have hB2 : decide (x2 < y2) = B1 := by rw [← hB1]; exact decide_eq_decide.2 (HCM2.out dd x1 y1 x2 y2 HM9.out HX1.out HY1.out HX2.out HY2.out).symm
              go_wp2_with fail
              refine hK.out _ _ (bthen hHeld hy4) (fun hHeld => ?_)
              clear hK K
              try simp only [Act.put, sa, s0, s1]
              refine tk 13 q40a_8_37_13 (some 175) (v := ?v43) rfl rfl (by kernel_rfl) hHeld (by rfl) (fun _ _ _ x => x) (fun w h => ?y43) ?_; (case y43 => (try dsimp only at h); go_simp; try (with_reducible rfl)); try simp only [Act.put, sa, s0, s1]
              refine tk 14 q40a_8_37_14 (some 176) (v := ?v44) rfl rfl (by kernel_rfl) hHeld (by rfl) (fun _ _ _ x => x) (fun w h => ?y44) ?_; (case y44 => (try dsimp only at h); go_simp; try (with_reducible rfl)); try simp only [Act.put, sa, s0, s1]
              refine wpAnyH_done (by kernel_rfl) ?_ _
              go_wp2_with fail
              go_roundw
              case rel => exact ⟨j + 1, by omega, by go_num, bthen hbky hHeld⟩
              case measure => simp [intOf]; omega
            · have hjn : ¬ (j : Int) < (D : Int) := by omega
              have hfin := bthen hbx9 hbk
              go_wp2_with fail
              go_roundw
              case rel => exact ⟨i2 + 1, by omega, by go_num, hfin⟩
              case measure => simp [intOf]; omega

/-- A slice of bytes that is read. -/
def rdB (B : Nat) (w : World) (v : Value) (zs : List Int) : Prop := ∃ a c, v = .slice a zs.length c ∧ LeafB B w a c zs

theorem law_FnStable (cs0 : Value) (m0 : List Int) (w : World) (hr0 : rdB w.heap.size w cs0 m0) (hT : TzAt w) :
    Calls Tryd.prog 8 #[cs0] w fun e w' => e = .returned (.bool true) ∧ Below w.heap.size w w' := by
  obtain ⟨a, c, rfl, h⟩ := hr0
  exact law_FnStable_r a m0.length c m0 w rfl h.2.2.2 h.2.2.1 hT

end Go.Proofs.YtmigamgcmhdncaaDoor
