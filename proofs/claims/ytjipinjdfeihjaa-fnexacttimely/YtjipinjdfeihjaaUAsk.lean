/-
  The command that was asked for under a dot: the specification's way.
-/
import Derived.Test.YtjipinjdfeihjaaRegK
import Derived.Test.YtjipinjdfeihjaaUHas
import Derived.Test.YtjipinjdfeihjaaUMet
import Derived.Test.YtjipinjdfeihjaaRowG
namespace Go.Proofs.Ytjipinjdfeihjaa
open Go.RowKit Go.Maps
set_option linter.unusedVariables false
set_option linter.unusedSimpArgs false
set_option maxRecDepth 10000
abbrev q323_36_4_0 : Oper := ⟨some 14, .fieldAddr 33 (.tmp 2) 2, 0, "l11_safe.go:87", #[], none⟩
abbrev q323_36_4_1 : Oper := ⟨some 15, .load 31 (.tmp 14), 31, "l11_safe.go:87", #[⟨0, .data⟩], none⟩
abbrev q323_36_4_2 : Oper := ⟨some 16, .move (.tmp 6), 3, "l11_safe.go:87", #[], none⟩
abbrev q323_36_4_3 : Oper := ⟨some 17, .indexAddr 31 (.tmp 15) (.tmp 16), 0, "l11_safe.go:87", #[⟨1, .data⟩, ⟨2, .data⟩], none⟩
abbrev q323_36_4_4 : Oper := ⟨some 18, .fieldAddr 73 (.tmp 17) 0, 0, "l11_safe.go:87", #[⟨3, .data⟩], none⟩
abbrev q323_36_4_5 : Oper := ⟨some 19, .load 43 (.tmp 18), 43, "l11_safe.go:87", #[⟨4, .data⟩], none⟩
abbrev q323_36_4_6 : Oper := ⟨some 20, .load 43 (.tmp 3), 43, "l11_safe.go:87", #[], none⟩
abbrev q323_36_4_7 : Oper := ⟨some 21, .binOp .eql 43 (.tmp 19) (.tmp 20) 43, 4, "l11_safe.go:87", #[⟨5, .data⟩, ⟨6, .data⟩], none⟩

/-- The first that was asked for under a dot. -/
def askP : List MAsked → MDot → Option MCmd
  | [], _ => none
  | a :: l, d => if sameD a.fD d = true then some a.fC else askP l d
theorem askP_at : ∀ {l : List MAsked} {d : MDot} {k : Nat} (hk : k < l.length), (∀ j, (hj : j < l.length) → j < k → sameD l[j].fD d = false) → sameD l[k].fD d = true → askP l d = some l[k].fC
  | a :: l, d, 0, hk, _, h => by simp only [askP]; rw [if_pos (by simpa using h)]; rfl
  | a :: l, d, k + 1, hk, hI, h => by
    have h0 := hI 0 (by simp) (by omega)
    simp only [askP]
    rw [if_neg (by simpa using h0)]
    exact askP_at (l := l) (k := k) (by simpa using hk) (fun j hj hjk => by have := hI (j + 1) (by simpa using hj) (by omega); simpa using this) (by simpa using h)
theorem askP_none : ∀ {l : List MAsked} {d : MDot}, (∀ j, (hj : j < l.length) → sameD l[j].fD d = false) → askP l d = none
  | [], d, _ => rfl
  | a :: l, d, hI => by
    have h0 := hI 0 (by simp)
    simp only [askP]
    rw [if_neg (by simpa using h0)]
    exact askP_none (l := l) (fun j hj => by have := hI (j + 1) (by simpa using hj); simpa using this)
theorem turn3u (w : World) (b : Nat) (u0 u1 u2 : Value) : Turn [b] w (((w.setCell ⟨b, 0, none⟩ u0).setCell ⟨b, 1, none⟩ u1).setCell ⟨b, 2, none⟩ u2) :=
  (((Turn.refl _ _).setCell (by simp) _).setCell (by simp) _).setCell (by simp) _
def noCmd : MCmd := ⟨0, ⟨#[]⟩, ⟨#[]⟩⟩

set_option maxHeartbeats 2000000 in
theorem askS_any (cs : List Value) (m : MCluster) (ds : List Value) (d : MDot) (w : World) (hr : rCluster w.heap.size w cs m) (hd : rDot w.heap.size w ds d) (hw : wCluster m ≤ 1048576) :
    Calls Try.prog 36 #[.agg cs.toArray, .agg ds.toArray] w fun e w' => ∃ cc : List Value, e = .returned (.tuple #[.agg cc.toArray, .bool (askP m.fAsked d).isSome]) ∧ rCmd w'.heap.size w' cc ((askP m.fAsked d).getD noCmd) ∧ Below w.heap.size w w' := by
  obtain ⟨a0, c0, a1, c1, a2, c2, rfl, _, _, hA, _⟩ := hr
  obtain ⟨rfl, d0, d1, _⟩ := hd
  have hn2 : m.fAsked.length ≤ 1048576 := by unfold wCluster at hw; omega
  obtain ⟨n0, hq0⟩ : ∃ n, n = m.fReps.length := ⟨_, rfl⟩
  obtain ⟨n1, hq1⟩ : ∃ n, n = m.fNet.length := ⟨_, rfl⟩
  rw [← hq0, ← hq1]
  obtain ⟨l, hl⟩ : ∃ l, l = m.fAsked := ⟨_, rfl⟩
  rw [← hl] at hA hn2 ⊢
  clear hl hq0 hq1 hw
  obtain ⟨n, hn⟩ : ∃ n, l.length = n := ⟨_, rfl⟩
  rw [hn] at hn2 ⊢
  have HX := Hid.mk hn
  have HL := Hid.mk hA
  clear hn hA
  obtain ⟨wq, hwq⟩ : ∃ wq, wq = ((w.alloc (.cells #[.slice a0 n0 c0, .slice a1 n1 c1, .slice a2 n c2] 33)).alloc (.cells #[.int .i64 d.fR, .int .i64 d.fN] 43)).alloc (.cells #[.int .i64 0, .string ⟨#[]⟩, .string ⟨#[]⟩] 45) := ⟨_, rfl⟩
  have hbq : Below w.heap.size w wq := by rw [hwq]; exact (((Below.refl _ _).alloc (Nat.le_refl _) _).alloc (by simp) _).alloc (by simp; omega) _
  have hb0 : Bw wq w.heap.size 33 [.slice a0 n0 c0, .slice a1 n1 c1, .slice a2 n c2] := by rw [hwq]; exact ((Bw.new _ _ _).alloc _).alloc _
  have hb1 : Bw wq (w.heap.size + 1) 43 [.int .i64 d.fR, .int .i64 d.fN] := by rw [hwq]; exact (Bw.new' _ _ _ (by simp)).alloc _
  have hb2 : Bw wq (w.heap.size + 2) 45 [.int .i64 0, .string ⟨#[]⟩, .string ⟨#[]⟩] := by rw [hwq]; exact Bw.new' _ _ _ (by simp)
  have HB0 := Hid.mk hb0
  have HB1 := Hid.mk hb1
  have HB2 := Hid.mk hb2
  clear hb0 hb1 hb2
  go_enter Try.func36, Try.ntmps36
  go_wp2_with fail
  rw [← hwq]
  clear hwq
  go_loopw [6] (fun i wr => ∃ k : Nat, k ≤ n ∧ i = .int .i64 k ∧ Hid (∀ j, (hj : j < l.length) → j < k → sameD l[j].fD d = false) ∧ Below wq.heap.size wq wr) (fun i _ => n - (intOf i).toNat)
  case atStart => exact ⟨0, Nat.zero_le _, rfl, Hid.mk (fun j _ h => absurd h (Nat.not_lt_zero j)), Below.refl _ _⟩
  case round =>
    obtain ⟨k, hk, rfl, HI, hbk⟩ := hrel
    have hbw := bthen hbq hbk
    have xb := (HB0.out.under hbk).cell 2 _ rfl
    have x0 : ∀ W, Below wr.heap.size wr W → W.cell? ⟨w.heap.size, 2, none⟩ = some (.slice a2 n c2) := fun W h => ((HB0.out.under hbk).under h).cell 2 _ rfl
    have y0 : ∀ W, Below wr.heap.size wr W → W.cell? ⟨w.heap.size + 1, 0, none⟩ = some (.int .i64 d.fR) := fun W h => ((HB1.out.under hbk).under h).cell 0 _ rfl
    have y1 : ∀ W, Below wr.heap.size wr W → W.cell? ⟨w.heap.size + 1, 1, none⟩ = some (.int .i64 d.fN) := fun W h => ((HB1.out.under hbk).under h).cell 1 _ rfl
    have HQ2 := Hid.mk (HB2.out.under hbk)
    by_cases hlt : k < n
    · have hkl : k < l.length := by rw [HX.out]; exact hlt
      obtain ⟨b1, o1, rfl, hB, cs, hcl, hcell, a5, c5, rfl, g0, g1, g2, g3, g4, _⟩ := HL.out.2.2 k hkl
      have HY : Hid (sameD l[k].fD d = true → askP l d = some l[k].fC) := fun h => askP_at hkl HI.out h
      have HN : Hid (sameD l[k].fD d = false → ∀ j, (hj : j < l.length) → j < k + 1 → sameD l[j].fD d = false) := fun h j hj hjk => by
        rcases Nat.lt_succ_iff_lt_or_eq.1 hjk with g | g
        · exact HI.out j hj g
        · subst g; exact h
      have hB' : b1 < wr.heap.size := Nat.lt_of_lt_of_le hB hbw.size
      have k2 : ∀ W, Below wr.heap.size wr W → W.cell? ⟨b1, o1 + k * 6, none⟩ = some (.int .i64 l[k].fD.fR) := fun W h => ((bthen hbw h).cell (p := ⟨b1, o1 + k * 6, none⟩) hB).trans (hcell 0 _ rfl)
      have k3 : ∀ W, Below wr.heap.size wr W → W.cell? ⟨b1, o1 + k * 6 + 1, none⟩ = some (.int .i64 l[k].fD.fN) := fun W h => ((bthen hbw h).cell (p := ⟨b1, o1 + k * 6 + 1, none⟩) hB).trans (hcell 1 _ rfl)
      have HK : Hid (∀ W, Below wr.heap.size wr W → W.cell? ⟨b1, o1 + k * 6 + 2, none⟩ = some (.int .i64 l[k].fC.fKind) ∧ W.cell? ⟨b1, o1 + k * 6 + 3, none⟩ = some (.string l[k].fC.fKey) ∧ W.cell? ⟨b1, o1 + k * 6 + 4, none⟩ = some (.string l[k].fC.fVal)) := fun W h =>
        ⟨((bthen hbw h).cell (p := ⟨b1, o1 + k * 6 + 2, none⟩) hB).trans (hcell 2 _ rfl), ((bthen hbw h).cell (p := ⟨b1, o1 + k * 6 + 3, none⟩) hB).trans (hcell 3 _ rfl), ((bthen hbw h).cell (p := ⟨b1, o1 + k * 6 + 4, none⟩) hB).trans (hcell 4 _ rfl)⟩
      have hk1 : (0 : Int) ≤ (k : Int) := by omega
      have hk2 : (k : Int) < (n : Int) := by omega
      have HG := Hid.mk (And.intro g2 (And.intro g3 g4))
      clear hcell hcl HI g0 g1 g2 g3 g4
      generalize l[k] = x at *
      by_cases hs : sameD x.fD d = true
      · have HV := Hid.mk (HY.out hs)
        have hq1 := (sameD_eq hs).1
        have hq2 := (sameD_eq hs).2
        clear HY HN hs
        rw [hq1] at k2
        rw [hq2] at k3
        clear hq1 hq2
        go_wp2_with fail
        refine wp_region_held_drew (S := fun W => Below wr.heap.size wr W) (by kernel_rfl) (Below.drew (Below.refl _ _)) (fun hHeld => ?_)
        refine tk 0 q323_36_4_0 (some 14) (v := ?v1) rfl rfl (by kernel_rfl) hHeld (by rfl) (fun _ _ _ x => x) (fun w h => ?y1) ?_; (case y1 => (try dsimp only at h); go_simp; try (with_reducible rfl)); try simp only [Act.put, sa, s0, s1]
        refine tk 1 q323_36_4_1 (some 15) (v := ?v2) rfl rfl (by kernel_rfl) hHeld (by rfl) (fun _ _ _ x => x) (fun w h => ?y2) ?_; (case y2 => (try dsimp only at h); go_simp; try (with_reducible rfl)); try simp only [Act.put, sa, s0, s1]
        refine tk 2 q323_36_4_2 (some 16) (v := ?v3) rfl rfl (by kernel_rfl) hHeld (by rfl) (fun _ _ _ x => x) (fun w h => ?y3) ?_; (case y3 => (try dsimp only at h); go_simp; try (with_reducible rfl)); try simp only [Act.put, sa, s0, s1]
        refine tk 3 q323_36_4_3 (some 17) (v := ?v4) rfl rfl (by kernel_rfl) hHeld (by rfl) (fun _ _ _ x => x) (fun w h => ?y4) ?_; (case y4 => (try dsimp only at h); go_simp; try (with_reducible rfl)); try simp only [Act.put, sa, s0, s1]
        refine tk 4 q323_36_4_4 (some 18) (v := ?v5) rfl rfl (by kernel_rfl) hHeld (by rfl) (fun _ _ _ x => x) (fun w h => ?y5) ?_; (case y5 => (try dsimp only at h); go_simp; try (with_reducible rfl)); try simp only [Act.put, sa, s0, s1]
        refine tk 5 q323_36_4_5 (some 19) (v := ?v6) rfl rfl (by kernel_rfl) hHeld (by rfl) (fun _ _ _ x => x) (fun w h => ?y6) ?_; (case y6 => (try dsimp only at h); go_simp; try (with_reducible rfl)); try simp only [Act.put, sa, s0, s1]
        refine tk 6 q323_36_4_6 (some 20) (v := ?v7) rfl rfl (by kernel_rfl) hHeld (by rfl) (fun _ _ _ x => x) (fun w h => ?y7) ?_; (case y7 => (try dsimp only at h); go_simp; try (with_reducible rfl)); try simp only [Act.put, sa, s0, s1]
        refine tk 7 q323_36_4_7 (some 21) (v := ?v8) rfl rfl (by kernel_rfl) hHeld (by rfl) (fun _ _ _ x => x) (fun w h => ?y8) ?_; (case y8 => (try dsimp only at h); go_simp; try (with_reducible rfl)); try simp only [Act.put, sa, s0, s1]
        refine wpAnyH_done (by kernel_rfl) ?_ _
        obtain ⟨m2, m3, m4⟩ := HK.out wr (Below.refl _ _)
        have hQ := HQ2.out
        have p0 := hQ.cell 0 _ rfl
        have p1 := hQ.cell 1 _ rfl
        have p2 := hQ.cell 2 _ rfl
        have f0 := hQ.free 0
        have f1 := hQ.free 1
        have f2 := hQ.free 2
        have hlr := hQ.lt
        have hbF := bthen hbw hHeld
        clear x0 y0 y1 k2 k3
        go_wp2_with fail
        refine bodyPost_ret (v := .tuple #[.agg #[.int .i64 x.fC.fKind, .string x.fC.fKey, .string x.fC.fVal], .bool true]) (by simp [results, Try.results36, go_sem, *]) rfl ?_
        rw [HV.out]
        exact ⟨[.int .i64 x.fC.fKind, .string x.fC.fKey, .string x.fC.fVal], rfl, ⟨rfl, HG.out.1, HG.out.2.1, HG.out.2.2, trivial⟩, hbF.trans ((turn3u _ (w.heap.size + 2) _ _ _).below (fun k hk => by simp at hk; omega) hbF.size)⟩
      · have HI := Hid.mk (HN.out (Bool.eq_false_iff.2 hs))
        rcases sameD_ne hs with hq | ⟨hq, hp⟩
        · have hq' : decide (x.fD.fR = d.fR) = false := decide_eq_false hq
          have hr1 : ¬ d.fR = x.fD.fR := fun h => hq h.symm
          have hr1' : decide (d.fR = x.fD.fR) = false := decide_eq_false hr1
          clear HY HN hs
          go_wp2_with fail
          refine wp_region_held_drew (S := fun W => Below wr.heap.size wr W) (by kernel_rfl) (Below.drew (Below.refl _ _)) (fun hHeld => ?_)
          refine tk 0 q323_36_4_0 (some 14) (v := ?v9) rfl rfl (by kernel_rfl) hHeld (by rfl) (fun _ _ _ x => x) (fun w h => ?y9) ?_; (case y9 => (try dsimp only at h); go_simp; try (with_reducible rfl)); try simp only [Act.put, sa, s0, s1]
          refine tk 1 q323_36_4_1 (some 15) (v := ?v10) rfl rfl (by kernel_rfl) hHeld (by rfl) (fun _ _ _ x => x) (fun w h => ?y10) ?_; (case y10 => (try dsimp only at h); go_simp; try (with_reducible rfl)); try simp only [Act.put, sa, s0, s1]
          refine tk 2 q323_36_4_2 (some 16) (v := ?v11) rfl rfl (by kernel_rfl) hHeld (by rfl) (fun _ _ _ x => x) (fun w h => ?y11) ?_; (case y11 => (try dsimp only at h); go_simp; try (with_reducible rfl)); try simp only [Act.put, sa, s0, s1]
          refine tk 3 q323_36_4_3 (some 17) (v := ?v12) rfl rfl (by kernel_rfl) hHeld (by rfl) (fun _ _ _ x => x) (fun w h => ?y12) ?_; (case y12 => (try dsimp only at h); go_simp; try (with_reducible rfl)); try simp only [Act.put, sa, s0, s1]
          refine tk 4 q323_36_4_4 (some 18) (v := ?v13) rfl rfl (by kernel_rfl) hHeld (by rfl) (fun _ _ _ x => x) (fun w h => ?y13) ?_; (case y13 => (try dsimp only at h); go_simp; try (with_reducible rfl)); try simp only [Act.put, sa, s0, s1]
          refine tk 5 q323_36_4_5 (some 19) (v := ?v14) rfl rfl (by kernel_rfl) hHeld (by rfl) (fun _ _ _ x => x) (fun w h => ?y14) ?_; (case y14 => (try dsimp only at h); go_simp; try (with_reducible rfl)); try simp only [Act.put, sa, s0, s1]
          refine tk 6 q323_36_4_6 (some 20) (v := ?v15) rfl rfl (by kernel_rfl) hHeld (by rfl) (fun _ _ _ x => x) (fun w h => ?y15) ?_; (case y15 => (try dsimp only at h); go_simp; try (with_reducible rfl)); try simp only [Act.put, sa, s0, s1]
          refine tk 7 q323_36_4_7 (some 21) (v := ?v16) rfl rfl (by kernel_rfl) hHeld (by rfl) (fun _ _ _ x => x) (fun w h => ?y16) ?_; (case y16 => (try dsimp only at h); go_simp; try (with_reducible rfl)); try simp only [Act.put, sa, s0, s1]
          refine wpAnyH_done (by kernel_rfl) ?_ _
          go_wp2_with fail
          go_roundw
          case rel => exact ⟨k + 1, by omega, by go_num, HI, bthen hbk hHeld⟩
          case measure => simp [intOf]; omega
        · have hq' : decide (x.fD.fN = d.fN) = false := decide_eq_false hp
          have hr1 : ¬ d.fN = x.fD.fN := fun h => hp h.symm
          have hr1' : decide (d.fN = x.fD.fN) = false := decide_eq_false hr1
          clear HY HN hs
          rw [hq] at k2
          clear hq
          go_wp2_with fail
          refine wp_region_held_drew (S := fun W => Below wr.heap.size wr W) (by kernel_rfl) (Below.drew (Below.refl _ _)) (fun hHeld => ?_)
          refine tk 0 q323_36_4_0 (some 14) (v := ?v17) rfl rfl (by kernel_rfl) hHeld (by rfl) (fun _ _ _ x => x) (fun w h => ?y17) ?_; (case y17 => (try dsimp only at h); go_simp; try (with_reducible rfl)); try simp only [Act.put, sa, s0, s1]
          refine tk 1 q323_36_4_1 (some 15) (v := ?v18) rfl rfl (by kernel_rfl) hHeld (by rfl) (fun _ _ _ x => x) (fun w h => ?y18) ?_; (case y18 => (try dsimp only at h); go_simp; try (with_reducible rfl)); try simp only [Act.put, sa, s0, s1]
          refine tk 2 q323_36_4_2 (some 16) (v := ?v19) rfl rfl (by kernel_rfl) hHeld (by rfl) (fun _ _ _ x => x) (fun w h => ?y19) ?_; (case y19 => (try dsimp only at h); go_simp; try (with_reducible rfl)); try simp only [Act.put, sa, s0, s1]
          refine tk 3 q323_36_4_3 (some 17) (v := ?v20) rfl rfl (by kernel_rfl) hHeld (by rfl) (fun _ _ _ x => x) (fun w h => ?y20) ?_; (case y20 => (try dsimp only at h); go_simp; try (with_reducible rfl)); try simp only [Act.put, sa, s0, s1]
          refine tk 4 q323_36_4_4 (some 18) (v := ?v21) rfl rfl (by kernel_rfl) hHeld (by rfl) (fun _ _ _ x => x) (fun w h => ?y21) ?_; (case y21 => (try dsimp only at h); go_simp; try (with_reducible rfl)); try simp only [Act.put, sa, s0, s1]
          refine tk 5 q323_36_4_5 (some 19) (v := ?v22) rfl rfl (by kernel_rfl) hHeld (by rfl) (fun _ _ _ x => x) (fun w h => ?y22) ?_; (case y22 => (try dsimp only at h); go_simp; try (with_reducible rfl)); try simp only [Act.put, sa, s0, s1]
          refine tk 6 q323_36_4_6 (some 20) (v := ?v23) rfl rfl (by kernel_rfl) hHeld (by rfl) (fun _ _ _ x => x) (fun w h => ?y23) ?_; (case y23 => (try dsimp only at h); go_simp; try (with_reducible rfl)); try simp only [Act.put, sa, s0, s1]
          refine tk 7 q323_36_4_7 (some 21) (v := ?v24) rfl rfl (by kernel_rfl) hHeld (by rfl) (fun _ _ _ x => x) (fun w h => ?y24) ?_; (case y24 => (try dsimp only at h); go_simp; try (with_reducible rfl)); try simp only [Act.put, sa, s0, s1]
          refine wpAnyH_done (by kernel_rfl) ?_ _
          go_wp2_with fail
          go_roundw
          case rel => exact ⟨k + 1, by omega, by go_num, HI, bthen hbk hHeld⟩
          case measure => simp [intOf]; omega
    · have HV : Hid (askP l d = none) := askP_none (fun j hj => HI.out j hj (by have := HX.out; omega))
      have p0 := HQ2.out.cell 0 _ rfl
      have p1 := HQ2.out.cell 1 _ rfl
      have p2 := HQ2.out.cell 2 _ rfl
      have f0 := HQ2.out.free 0
      have f1 := HQ2.out.free 1
      have f2 := HQ2.out.free 2
      have hlr := HQ2.out.lt
      clear x0 y0 y1
      go_wp2_with fail
      have hT7 : Turn [w.heap.size + 2] wr _ := (((Turn.refl [w.heap.size + 2] wr).setCell (p := ⟨w.heap.size + 2, 0, none⟩) (by simp) (.int .i64 0)).setCell (p := ⟨w.heap.size + 2, 1, none⟩) (by simp) (.string ⟨#[]⟩)).setCell (p := ⟨w.heap.size + 2, 2, none⟩) (by simp) (.string ⟨#[]⟩)
      refine bodyPost_ret (v := .tuple #[.agg #[.int .i64 0, .string ⟨#[]⟩, .string ⟨#[]⟩], .bool false]) (by simp [results, Try.results36, go_sem, *]) rfl ?_
      rw [HV.out]
      exact ⟨[.int .i64 0, .string ⟨#[]⟩, .string ⟨#[]⟩], rfl, ⟨rfl, rfl, by decide, by decide, trivial⟩, hbw.trans (hT7.below (fun k hk => by simp at hk; omega) hbw.size)⟩

end Go.Proofs.Ytjipinjdfeihjaa
