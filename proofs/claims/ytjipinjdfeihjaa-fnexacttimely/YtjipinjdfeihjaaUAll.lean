/-
  All pairs of what was asked for and what is sure: the program's allPairs, and its Timely.
-/
import Derived.Test.YtjipinjdfeihjaaRegK
import Derived.Test.YtjipinjdfeihjaaUImT
namespace Go.Proofs.Ytjipinjdfeihjaa
open Go.RowKit Go.Maps
set_option linter.unusedVariables false
set_option linter.unusedSimpArgs false
set_option maxRecDepth 10000
abbrev q79d_14_2_0 : Oper := ⟨some 7, .fieldAddr 33 (.tmp 1) 2, 0, "l11_safe.go:20", #[], none⟩
abbrev q79d_14_2_1 : Oper := ⟨some 8, .load 31 (.tmp 7), 31, "l11_safe.go:20", #[⟨0, .data⟩], none⟩
abbrev q79d_14_2_2 : Oper := ⟨some 9, .fieldAddr 33 (.tmp 1) 0, 0, "l11_safe.go:20", #[], none⟩
abbrev q79d_14_2_3 : Oper := ⟨some 10, .load 29 (.tmp 9), 29, "l11_safe.go:20", #[⟨2, .data⟩], none⟩
abbrev q79d_14_2_5 : Oper := ⟨some 12, .makeFunc (Fn.func 39) #[] #[.tmp 3], 80, "l11_safe.go:20", #[], none⟩
abbrev q79d_14_2_4 : Oper := ⟨some 11, .call { callee := .value (.func 25), args := #[.tmp 10], argTypes := #[29] }, 40, "l11_safe.go:20", #[⟨3, .data⟩], none⟩
abbrev q79d_14_2_6 : Oper := ⟨some 13, .call { callee := .value (.func 38), args := #[.tmp 8, .tmp 11, .tmp 12], argTypes := #[31, 40, 80] }, 4, "l11_safe.go:20", #[⟨1, .data⟩, ⟨4, .data⟩, ⟨5, .data⟩, ⟨4, .chain⟩], none⟩
abbrev q79d_14_2_7 : Oper := ⟨some 2, .assign (.tmp 13), 4, "l11_safe.go:20", #[⟨6, .data⟩, ⟨6, .chain⟩, ⟨0, .phase⟩, ⟨1, .phase⟩, ⟨2, .phase⟩, ⟨3, .phase⟩, ⟨4, .phase⟩, ⟨5, .phase⟩, ⟨6, .phase⟩], none⟩

set_option maxHeartbeats 4000000 in
theorem allP_any (bc b : Nat) (l : List MAsked) (L : List MRec) (a2 : Option Addr) (n c2 : Nat) (aL : Option Addr) (nL cL : Nat) (w : World) (hl : l.length = n) (hL : L.length = nL) (hn : n ≤ 1048576) (hnL : nL ≤ 1048576) (hr : LeafL 6 rAsked w.heap.size w a2 c2 l) (hq : LeafL 7 rRec w.heap.size w aL cL L)
    (hnb : ∀ i, (hi : i < l.length) → l[i].fBefore.length ≤ 1048576) (hnd : ∀ i, (hi : i < L.length) → L[i].fDeps.length ≤ 1048576) (hm : AskM w b l) (hbc : Bw w bc 76 [.map (some b)]) (hcw : CmdW l) :
    Calls Try.prog 38 #[.slice a2 n c2, .slice aL nL cL, .func (.func 39) #[] #[.pointer (some ⟨bc, 0, none⟩)]] w fun e w' => e = .returned (.bool (l.all fun a => L.all (timX l a))) ∧ Below w.heap.size w w' := by
  have HNn := Hid.mk hl
  have HNL := Hid.mk hL
  have HAL := Hid.mk hr
  have HLL := Hid.mk hq
  have HWA := Hid.mk hnb
  have HWD := Hid.mk hnd
  have HM := Hid.mk hm
  have HBC := Hid.mk hbc
  have HCW := Hid.mk hcw
  have HTY : Hid ((∀ j, (hj : j < l.length) → L.all (timX l l[j]) = true) → (l.all fun a => L.all (timX l a)) = true) := fun h => all_at (f := fun a => L.all (timX l a)) h
  have HTN : Hid (∀ i k (hi : i < l.length) (hk : k < L.length), timX l l[i] L[k] = false → (l.all fun a => L.all (timX l a)) = false) := fun i k hi hk h => all_no (f := fun a => L.all (timX l a)) hi (all_no hk h)
  obtain ⟨TP, hTP⟩ : ∃ q, q = l.all fun a => L.all (timX l a) := ⟨_, rfl⟩
  rw [← hTP] at HTY HTN ⊢
  clear hTP hl hL hr hq hnb hnd hm hbc hcw
  go_enter Try.func38, Try.ntmps38
  go_wp2_with fail
  go_loopw [13] (fun i wr => ∃ k : Nat, k ≤ n ∧ i = .int .i64 k ∧ Hid (∀ j, (hj : j < l.length) → j < k → L.all (timX l l[j]) = true) ∧ Below w.heap.size w wr) (fun i _ => n - (intOf i).toNat)
  case atStart => exact ⟨0, Nat.zero_le _, rfl, Hid.mk (fun j _ h => absurd h (Nat.not_lt_zero j)), Below.refl _ _⟩
  case round =>
    obtain ⟨i, hi, rfl, HI, hbk⟩ := hrel
    by_cases hlt : i < n
    · have hil : i < l.length := by rw [HNn.out]; exact hlt
      obtain ⟨b1, o1, rfl, hB, cs, hcl, hcell, a5, c5, rfl, g0, g1, g2, g3, g4, hBF, _⟩ := HAL.out.2.2 i hil
      have HTNi : Hid (∀ k (hk : k < L.length), timX l l[i] L[k] = false → TP = false) := fun k hk h => HTN.out i k hil hk h
      have HIN : Hid (L.all (timX l l[i]) = true → ∀ j, (hj : j < l.length) → j < i + 1 → L.all (timX l l[j]) = true) := fun h j hj hjk => by
        rcases Nat.lt_succ_iff_lt_or_eq.1 hjk with g | g
        · exact HI.out j hj g
        · subst g; exact h
      have hnb := HWA.out i hil
      obtain ⟨a, haq⟩ : ∃ q, l[i] = q := ⟨_, rfl⟩
      rw [haq] at hcell hBF HTNi HIN hnb g0 g1 g2 g3 g4
      have k0 := (hbk.cell (p := ⟨b1, o1 + i * 6 + 0, none⟩) hB).trans (hcell 0 _ rfl)
      have k1 := (hbk.cell (p := ⟨b1, o1 + i * 6 + 1, none⟩) hB).trans (hcell 1 _ rfl)
      have k2 := (hbk.cell (p := ⟨b1, o1 + i * 6 + 2, none⟩) hB).trans (hcell 2 _ rfl)
      have k3 := (hbk.cell (p := ⟨b1, o1 + i * 6 + 3, none⟩) hB).trans (hcell 3 _ rfl)
      have k4 := (hbk.cell (p := ⟨b1, o1 + i * 6 + 4, none⟩) hB).trans (hcell 4 _ rfl)
      have k5 := (hbk.cell (p := ⟨b1, o1 + i * 6 + 5, none⟩) hB).trans (hcell 5 _ rfl)
      rw [Nat.add_zero] at k0
      have HRA : Hid (rAsked w.heap.size w [.int .i64 a.fD.fR, .int .i64 a.fD.fN, .int .i64 a.fC.fKind, .string a.fC.fKey, .string a.fC.fVal, .slice a5 a.fBefore.length c5] a) := ⟨a5, c5, rfl, g0, g1, g2, g3, g4, hBF, trivial⟩
      clear hcell hcl haq hBF HI g0 g1 g2 g3 g4
      obtain ⟨Wa, hWa⟩ : ∃ Wa, Wa = wr.alloc (.cells #[.int .i64 a.fD.fR, .int .i64 a.fD.fN, .int .i64 a.fC.fKind, .string a.fC.fKey, .string a.fC.fVal, .slice a5 a.fBefore.length c5] 73) := ⟨_, rfl⟩
      obtain ⟨bA, hbA⟩ : ∃ q, q = wr.heap.size := ⟨_, rfl⟩
      have HBA : Hid (Bw Wa bA 73 [.int .i64 a.fD.fR, .int .i64 a.fD.fN, .int .i64 a.fC.fKind, .string a.fC.fKey, .string a.fC.fVal, .slice a5 a.fBefore.length c5]) := by show Bw _ _ _ _; rw [hWa]; exact Bw.new' _ _ _ hbA
      have HBW : Hid (Below w.heap.size w Wa) := by show Below _ _ _; rw [hWa]; exact hbk.alloc hbk.size _
      have hB' : b1 < wr.heap.size := Nat.lt_of_lt_of_le hB hbk.size
      go_wp2_with fail
      rw [← hWa]
      rw [← hbA]
      clear hWa hbA k0 k1 k2 k3 k4 k5 hbk hB' hB
      go_loopw [19] (fun j wv => ∃ k : Nat, k ≤ nL ∧ j = .int .i64 k ∧ Hid (∀ q, (hq : q < L.length) → q < k → timX l a L[q] = true) ∧ Below Wa.heap.size Wa wv) (fun j _ => nL - (intOf j).toNat)
      case atStart => exact ⟨0, Nat.zero_le _, rfl, Hid.mk (fun j _ h => absurd h (Nat.not_lt_zero j)), Below.refl _ _⟩
      case round =>
        obtain ⟨k, hk, rfl, HK, hbv⟩ := hrel
        by_cases hkt : k < nL
        · have hkl : k < L.length := by rw [HNL.out]; exact hkt
          obtain ⟨b2, o2, rfl, hB2, cs2, hcl2, hcell2, a6, c6, rfl, q0, q1, q2, q3, q4, hLD, _⟩ := HLL.out.2.2 k hkl
          have HKN : Hid (timX l a L[k] = true → ∀ q, (hq : q < L.length) → q < k + 1 → timX l a L[q] = true) := fun h q hq hqk => by
            rcases Nat.lt_succ_iff_lt_or_eq.1 hqk with g | g
            · exact HK.out q hq g
            · subst g; exact h
          have HTF : Hid (timX l a L[k] = false → TP = false) := fun h => HTNi.out k hkl h
          have hnd := HWD.out k hkl
          obtain ⟨x, hxq⟩ : ∃ q, L[k] = q := ⟨_, rfl⟩
          rw [hxq] at hcell2 hLD HKN HTF hnd q0 q1 q2 q3 q4
          have hbw : Below w.heap.size w wr := bthen HBW.out hbv
          have x0 := (hbw.cell (p := ⟨b2, o2 + k * 7 + 0, none⟩) hB2).trans (hcell2 0 _ rfl)
          have x1 := (hbw.cell (p := ⟨b2, o2 + k * 7 + 1, none⟩) hB2).trans (hcell2 1 _ rfl)
          have x2 := (hbw.cell (p := ⟨b2, o2 + k * 7 + 2, none⟩) hB2).trans (hcell2 2 _ rfl)
          have x3 := (hbw.cell (p := ⟨b2, o2 + k * 7 + 3, none⟩) hB2).trans (hcell2 3 _ rfl)
          have x4 := (hbw.cell (p := ⟨b2, o2 + k * 7 + 4, none⟩) hB2).trans (hcell2 4 _ rfl)
          have x5 := (hbw.cell (p := ⟨b2, o2 + k * 7 + 5, none⟩) hB2).trans (hcell2 5 _ rfl)
          have x6 := (hbw.cell (p := ⟨b2, o2 + k * 7 + 6, none⟩) hB2).trans (hcell2 6 _ rfl)
          rw [Nat.add_zero] at x0
          have HRX : Hid (rRec w.heap.size w [.int .i64 x.fD.fR, .int .i64 x.fD.fN, .int .i64 x.fC.fKind, .string x.fC.fKey, .string x.fC.fVal, .slice a6 x.fDeps.length c6, .bool x.fSure] x) := ⟨a6, c6, rfl, q0, q1, q2, q3, q4, hLD, trivial, trivial⟩
          have hbAr := HBA.out.under hbv
          have y0 := hbAr.cell 0 _ rfl
          have y1 := hbAr.cell 1 _ rfl
          have y2 := hbAr.cell 2 _ rfl
          have y3 := hbAr.cell 3 _ rfl
          have y4 := hbAr.cell 4 _ rfl
          have y5 := hbAr.cell 5 _ rfl
          have hly := hbAr.lt
          obtain ⟨Wx, hWx⟩ : ∃ Wx, Wx = wr.alloc (.cells #[.int .i64 x.fD.fR, .int .i64 x.fD.fN, .int .i64 x.fC.fKind, .string x.fC.fKey, .string x.fC.fVal, .slice a6 x.fDeps.length c6, .bool x.fSure] 48) := ⟨_, rfl⟩
          have hx1 : Below wr.heap.size wr Wx := by rw [hWx]; exact (Below.refl _ _).alloc (Nat.le_refl _) _
          have hbX := bthen hbw hx1
          have HF := Hid.mk (fit_any bc b l a x [.int .i64 a.fD.fR, .int .i64 a.fD.fN, .int .i64 a.fC.fKind, .string a.fC.fKey, .string a.fC.fVal, .slice a5 a.fBefore.length c5] [.int .i64 x.fD.fR, .int .i64 x.fD.fN, .int .i64 x.fC.fKind, .string x.fC.fKey, .string x.fC.fVal, .slice a6 x.fDeps.length c6, .bool x.fSure] Wx (rAsked_good.mono (rAsked_good.below HRA.out hbX) hbX.size) (rRec_good.mono (rRec_good.below HRX.out hbX) hbX.size) hnb hnd (HM.out.below hbX HM.out.lt) (HBC.out.below hbX HBC.out.lt) HCW.out)
          have HBV := Hid.mk (bthen hbv hx1)
          have HBX := Hid.mk hbX
          have hB2' : b2 < wr.heap.size := Nat.lt_of_lt_of_le hB2 hbw.size
          clear hcell2 hcl2 hxq hLD HK q0 q1 q2 q3 q4 hx1 hbX hbAr
          go_wp2_with fail
          rw [← hWx]
          refine HF.out.mono ?_
          rintro e w2 ⟨rfl, hx2⟩
          have HBF := Hid.mk (bthen HBX.out hx2)
          have HBG := Hid.mk (bthen HBV.out hx2)
          clear hWx HF x0 x1 x2 x3 x4 x5 x6 y0 y1 y2 y3 y4 y5 hly hB2' hbw hbv
          cases htx : timX l a x
          · have HV := Hid.mk (HTF.out htx)
            go_wp2_with fail
            go_ret
            exact ⟨by rw [HV.out]; rfl, HBF.out⟩
          · have HI2 := Hid.mk (HKN.out htx)
            go_wp2_with fail
            go_roundw
            case rel => exact ⟨k + 1, by omega, by go_num, HI2, HBG.out⟩
            case measure => simp [intOf]; omega
        · have HV : Hid (L.all (timX l a) = true) := all_at (fun j hj => HK.out j hj (by have := HNL.out; omega))
          have hbF : Below w.heap.size w wr := bthen HBW.out hbv
          go_wp2_with fail
          go_roundw
          case rel => exact ⟨i + 1, by omega, by go_num, Hid.mk (HIN.out HV.out), hbF⟩
          case measure => simp [intOf]; omega
    · have HV : Hid (TP = true) := HTY.out (fun j hj => HI.out j hj (by have := HNn.out; omega))
      go_wp2_with fail
      go_ret
      exact ⟨by rw [HV.out]; rfl, hbk⟩

theorem ask_mem : ∀ {l : List MAsked} {d : MDot} {c : MCmd}, askP l d = some c → ∃ j, ∃ hj : j < l.length, l[j].fC = c
  | [], d, c, h => by cases h
  | a :: l, d, c, h => by
    simp only [askP] at h
    by_cases hs : sameD a.fD d = true
    · rw [if_pos hs] at h
      injection h with h
      exact ⟨0, by simp, by simpa using h⟩
    · rw [if_neg hs] at h
      obtain ⟨j, hj, he⟩ := ask_mem h
      exact ⟨j + 1, by simpa using hj, by simpa using he⟩
theorem cmd_wf {B : Nat} {w : World} {a : Option Addr} {c : Nat} {l : List MAsked} (h : LeafL 6 rAsked B w a c l) : CmdW l := by
  intro d c he
  obtain ⟨j, hj, rfl⟩ := ask_mem he
  obtain ⟨_, _, _, _, _, _, _, _, _, _, _, _, g2, g3, g4, _⟩ := h.2.2 j hj
  exact ⟨g2, g3, g4⟩

set_option maxHeartbeats 1000000 in
theorem askC_any (a : Option Addr) (n cap : Nat) (l : List MAsked) (w : World) (hx : l.length = n) (hn : n ≤ 1048576) (hr : LeafL 6 rAsked w.heap.size w a cap l) :
    Calls Try.prog 37 #[.slice a n cap] w fun e w' => ∃ b : Nat, e = .returned (.map (some b)) ∧ AskM w' b l ∧ Below w.heap.size w w' := by
  have HL := Hid.mk (cmds_any a n cap l w hx hn hr)
  clear hx hn hr
  go_enter Try.func37, Try.ntmps37
  go_wp2_with fail
  refine HL.out.mono ?_
  rintro e w1 ⟨b, D, rfl, hd, _, hlk, hx1⟩
  have HA : Hid (AskM w1 b l) := ⟨D, hd, hlk⟩
  clear hd hlk
  go_wp2_with fail
  go_ret
  exact ⟨b, rfl, HA.out, hx1⟩

set_option maxHeartbeats 4000000 in
theorem timI_any (cs : List Value) (m : MCluster) (w : World) (hr : rCluster w.heap.size w cs m) (hw : wCluster m ≤ 1048576) :
    Calls Try.prog 14 #[.agg cs.toArray] w fun e w' => e = .returned (.bool (timP m)) ∧ Below w.heap.size w w' := by
  obtain ⟨a0, c0, a1, c1, a2, c2, rfl, hR, _, hA, _⟩ := hr
  have hn2 : m.fAsked.length ≤ 1048576 := by unfold wCluster at hw; omega
  have hnL : (sureF m.fReps).length ≤ 1048576 := by have := sureF_len m.fReps; unfold wCluster at hw; omega
  have hwR : m.fReps.length + sumW wReplica m.fReps ≤ 1048576 := by unfold wCluster at hw; omega
  obtain ⟨w0, hw0⟩ : ∃ q, q = w.alloc (.cells #[.slice a0 m.fReps.length c0, .slice a1 m.fNet.length c1, .slice a2 m.fAsked.length c2] 33) := ⟨_, rfl⟩
  have hb0 : Below w.heap.size w w0 := by rw [hw0]; exact (Below.refl _ _).alloc (Nat.le_refl _) _
  have hq0 : Bw w0 w.heap.size 33 [.slice a0 m.fReps.length c0, .slice a1 m.fNet.length c1, .slice a2 m.fAsked.length c2] := by rw [hw0]; exact Bw.new _ _ _
  have HAC := Hid.mk (askC_any a2 m.fAsked.length c2 m.fAsked w0 rfl hn2 ((hA.below rAsked_good hb0).mono rAsked_good hb0.size))
  have HB0 := Hid.mk hb0
  have HQ0 := Hid.mk hq0
  have HWA := Hid.mk (before_small hw)
  have HWD := Hid.mk (deps_le hw)
  have HCW := Hid.mk (cmd_wf hA)
  have HA := Hid.mk hA
  have HR := Hid.mk hR
  have HWR := Hid.mk hwR
  have HN2 := Hid.mk hn2
  have HNL := Hid.mk hnL
  clear hb0 hq0 hw hA hR hwR hn2 hnL
  go_enter Try.func14, Try.ntmps14
  go_wp2_with fail
  rw [← hw0]
  clear hw0
  refine HAC.out.mono ?_
  rintro e w1 ⟨b, rfl, hm1, hx1⟩
  obtain ⟨w2, hw2⟩ : ∃ q, q = w1.alloc (.cells #[.map (some b)] 76) := ⟨_, rfl⟩
  obtain ⟨bc, hbc⟩ : ∃ q, q = w1.heap.size := ⟨_, rfl⟩
  have hx2 : Below w1.heap.size w1 w2 := by rw [hw2]; exact (Below.refl _ _).alloc (Nat.le_refl _) _
  have HBC : Hid (Bw w2 bc 76 [.map (some b)]) := by show Bw _ _ _ _; rw [hw2]; exact Bw.new' _ _ _ hbc
  have HM2 : Hid (AskM w2 b m.fAsked) := hm1.below hx2 hm1.lt
  have HB2 : Hid (Below w.heap.size w w2) := bthen (bthen HB0.out hx1) hx2
  have hq2 := (HQ0.out.under hx1).under hx2
  have x0 : ∀ W, Below w2.heap.size w2 W → W.cell? ⟨w.heap.size, 0, none⟩ = some (.slice a0 m.fReps.length c0) := fun W h => (hq2.under h).cell 0 _ rfl
  have x2 : ∀ W, Below w2.heap.size w2 W → W.cell? ⟨w.heap.size, 2, none⟩ = some (.slice a2 m.fAsked.length c2) := fun W h => (hq2.under h).cell 2 _ rfl
  have HS : Hid (∀ W, Below w2.heap.size w2 W → Calls Try.prog 25 #[.slice a0 m.fReps.length c0] W fun e w' => ∃ v, e = .returned v ∧ RowR 7 48 rRec W.heap.size w' W.heap.size v (sureF m.fReps) ∧ Below W.heap.size W w') := fun W h => by
    have hb := bthen HB2.out h
    exact sureI_any a0 _ c0 m.fReps W rfl ((HR.out.below rReplica_good hb).mono rReplica_good hb.size) HWR.out
  clear hx1 hx2 hm1 HQ0 HB0 HAC
  go_wp2_with fail
  rw [← hw2]
  rw [← hbc]
  clear hw2 hbc
  refine wp_region_held_drew (S := fun W => Below w2.heap.size w2 W) (by kernel_rfl) (Below.drew (Below.refl _ _)) (fun hHeld => ?_)
  refine tk 0 q79d_14_2_0 (some 7) (v := ?v1) rfl rfl (by kernel_rfl) hHeld (by rfl) (fun _ _ _ x => x) (fun w h => ?y1) ?_; (case y1 => (try dsimp only at h); go_simp; try (with_reducible rfl)); try simp only [Act.put, sa, s0, s1]
  refine tk 1 q79d_14_2_1 (some 8) (v := ?v2) rfl rfl (by kernel_rfl) hHeld (by rfl) (fun _ _ _ x => x) (fun w h => ?y2) ?_; (case y2 => (try dsimp only at h); go_simp; try (with_reducible rfl)); try simp only [Act.put, sa, s0, s1]
  refine tk 2 q79d_14_2_2 (some 9) (v := ?v3) rfl rfl (by kernel_rfl) hHeld (by rfl) (fun _ _ _ x => x) (fun w h => ?y3) ?_; (case y3 => (try dsimp only at h); go_simp; try (with_reducible rfl)); try simp only [Act.put, sa, s0, s1]
  refine tk 3 q79d_14_2_3 (some 10) (v := ?v4) rfl rfl (by kernel_rfl) hHeld (by rfl) (fun _ _ _ x => x) (fun w h => ?y4) ?_; (case y4 => (try dsimp only at h); go_simp; try (with_reducible rfl)); try simp only [Act.put, sa, s0, s1]
  refine tk 5 q79d_14_2_5 (some 12) (v := ?v5) rfl rfl (by kernel_rfl) hHeld (by rfl) (fun _ _ _ x => x) (fun w h => ?y5) ?_; (case y5 => (try dsimp only at h); go_simp; try (with_reducible rfl)); try simp only [Act.put, sa, s0, s1]
  refine wpAnyH_ready (rs := [4]) (by kernel_rfl) (by simp) ?_
  refine AllReadyH.cons (o := q79d_14_2_4) rfl (fun K hK => ?_) AllReadyH.nil
  go_simp
  refine (HS.out _ hHeld).mono ?_
  rintro e wy1 ⟨vL, rfl, hrow, hx1⟩
  obtain ⟨aL, cL, hvL, hLf⟩ := hrow.leaf rRec_good hx1.size
  subst hvL
  have HLf := Hid.mk hLf
  clear hrow hLf
  go_wp2_with fail
  refine hK.out _ _ (bthen hHeld hx1) (fun hHeld => ?_)
  clear hK K
  try simp only [Act.put, sa, s0, s1]
  refine wpAnyH_ready (rs := [6]) (by kernel_rfl) (by simp) ?_
  refine AllReadyH.cons (o := q79d_14_2_6) rfl (fun K hK => ?_) AllReadyH.nil
  go_simp
  refine (allP_any bc b m.fAsked (sureF m.fReps) a2 _ c2 aL _ cL _ rfl rfl HN2.out HNL.out ((HA.out.below rAsked_good (bthen HB2.out hHeld)).mono rAsked_good (bthen HB2.out hHeld).size) HLf.out HWA.out HWD.out (HM2.out.below hHeld HM2.out.lt) (HBC.out.under hHeld) HCW.out).mono ?_
  rintro e wy2 ⟨rfl, hx2⟩
  go_wp2_with fail
  refine hK.out _ _ (bthen hHeld hx2) (fun hHeld => ?_)
  clear hK K
  try simp only [Act.put, sa, s0, s1]
  refine tk 7 q79d_14_2_7 (some 2) (v := ?v6) rfl rfl (by kernel_rfl) hHeld (by rfl) (fun _ _ _ x => x) (fun w h => ?y6) ?_; (case y6 => (try dsimp only at h); go_simp; try (with_reducible rfl)); try simp only [Act.put, sa, s0, s1]
  refine wpAnyH_done (by kernel_rfl) ?_ _
  have hbF := bthen HB2.out hHeld
  go_wp2_with fail
  go_ret
  exact ⟨rfl, hbF⟩
end Go.Proofs.Ytjipinjdfeihjaa
