/-
  Whether a word is right for a replica: the specification.
-/
import Derived.Test.YtnomigomjhhccaaMsgM
namespace Go.Proofs.Ytnomigomjhhccaa
open Go.RowKit Go.Maps
set_option linter.unusedVariables false
set_option linter.unusedSimpArgs false
set_option maxRecDepth 10000

set_option maxHeartbeats 4000000 in
theorem specMsgOk_any (cs : List Value) (r : MReplica) (ds : List Value) (m : MMsg) (w : World) (hr : rReplica w.heap.size w cs r) (hd : rMsg w.heap.size w ds m) (hw : wReplica r ≤ 1048576) (hw2 : wMsg m ≤ 1048576) :
    Calls Try.prog 42 #[.agg cs.toArray, .agg ds.toArray] w fun e w' => e = .returned (.bool (msgP r m)) ∧ Below w.heap.size w w' := by
  obtain ⟨a3, c3, a4, c4, a5, c5, a6, c6, a7, c7, rfl, h0, h1, h2, h3, h4, h5, h6, h7, _⟩ := hr
  obtain ⟨a8, c8, rfl, g0, g1, g2, g3, g4, g5, g6, g7, g8, _⟩ := hd
  have HB0 := InBox.new (w := w) (r := r) (m := m) ⟨a3, c3, a4, c4, a5, c5, a6, c6, a7, c7, rfl, h0, h1, h2, h3, h4, h5, h6, h7, trivial⟩ ⟨a8, c8, rfl, g0, g1, g2, g3, g4, g5, g6, g7, g8, trivial⟩ 37 87
  have hwr : r.fRecs.length ≤ 1048576 := by have h : (r.fRecs.length + sumW wRec r.fRecs) + (r.fAcks.length + sumW wAck r.fAcks) + (r.fDone.length + sumW wDot r.fDone) + (r.fMap.length + sumW wPair r.fMap) + (r.fSaid.length + sumW wAnswer r.fSaid) ≤ 1048576 := hw; omega
  have hwd : m.fDeps.length ≤ 1048576 := by have h : m.fC.fKey.size + m.fC.fVal.size + (m.fDeps.length + sumW wDot m.fDeps) ≤ 1048576 := hw2; omega
  have hwc : wCmd m.fC ≤ 1048576 := by have h : m.fC.fKey.size + m.fC.fVal.size + (m.fDeps.length + sumW wDot m.fDeps) ≤ 1048576 := hw2; show m.fC.fKey.size + m.fC.fVal.size ≤ _; omega
  obtain ⟨wq, hwq⟩ : ∃ wq, wq = (w.alloc (.cells #[.int .i64 r.fId, .int .i64 r.fN, .int .i64 r.fNext, .slice a3 r.fRecs.length c3, .slice a4 r.fAcks.length c4, .slice a5 r.fDone.length c5, .slice a6 r.fMap.length c6, .slice a7 r.fSaid.length c7] 37)).alloc (.cells #[.int .i64 m.fKind, .int .i64 m.fFrom, .int .i64 m.fTo, .int .i64 m.fD.fR, .int .i64 m.fD.fN, .int .i64 m.fC.fKind, .string m.fC.fKey, .string m.fC.fVal, .slice a8 m.fDeps.length c8] 87) := ⟨_, rfl⟩
  rw [← hwq] at HB0
  have HB := Hid.mk HB0.1
  have hbq := HB0.2
  clear HB0 h3 h4 h5 h6 h7 g8
  have x0 := HB.out.rep.2 0 _ rfl
  have x1 := HB.out.rep.2 1 _ rfl
  have x2 := HB.out.rep.2 2 _ rfl
  have x3 := HB.out.rep.2 3 _ rfl
  have x4 := HB.out.rep.2 4 _ rfl
  have x5 := HB.out.rep.2 5 _ rfl
  have x6 := HB.out.rep.2 6 _ rfl
  have x7 := HB.out.rep.2 7 _ rfl
  have y0 := HB.out.msg.2 0 _ rfl
  have y1 := HB.out.msg.2 1 _ rfl
  have y2 := HB.out.msg.2 2 _ rfl
  have y3 := HB.out.msg.2 3 _ rfl
  have y4 := HB.out.msg.2 4 _ rfl
  have y5 := HB.out.msg.2 5 _ rfl
  have y6 := HB.out.msg.2 6 _ rfl
  have y7 := HB.out.msg.2 7 _ rfl
  have y8 := HB.out.msg.2 8 _ rfl
  have hl0 := HB.out.rep.1
  have hl1 := HB.out.msg.1
  go_enter Try.func42, Try.ntmps42
  go_wp2_with (rw [← hwq])
  clear hwq
  refine (inR_any m.fFrom 1 r.fN wq).mono ?_
  rintro e w0 ⟨rfl, hw0⟩
  subst hw0
  by_cases d1 : inR m.fFrom 1 r.fN = true
  rotate_left
  · have d1' := Bool.eq_false_iff.2 d1
    rw [d1']
    have HV : Hid (msgP r m = false) := by unfold Hid msgP headM; rw [d1']; rfl
    clear d1 d1'
    go_wp2_with fail
    go_ret
    exact ⟨by rw [HV.out]; rfl, hbq⟩
  rw [d1]
  by_cases d2 : m.fFrom = m.fTo
  · have HV : Hid (msgP r m = false) := by unfold Hid msgP headM; rw [d2]; simp
    have d2' : decide (m.fFrom = m.fTo) = true := decide_eq_true d2
    clear d1
    rw [d2] at y1
    go_wp2_with fail
    go_ret
    exact ⟨by rw [HV.out]; rfl, hbq⟩
  have d2' : decide (m.fFrom = m.fTo) = false := decide_eq_false d2
  by_cases d3 : m.fTo = r.fId
  rotate_left
  · have HV : Hid (msgP r m = false) := by unfold Hid msgP headM; simp [d3]
    have d3' : decide (m.fTo = r.fId) = false := decide_eq_false d3
    go_wp2_with fail
    go_ret
    exact ⟨by rw [HV.out]; rfl, hbq⟩
  have d2r : ¬ m.fFrom = r.fId := d3 ▸ d2
  have d2r' : decide (m.fFrom = r.fId) = false := decide_eq_false d2r
  rw [d3] at y2
  have HD3 := Hid.mk d3
  have HD2 := Hid.mk d2
  have HD1 := Hid.mk d1
  clear d2 d2' d3
  by_cases d4 : m.fD.fR ≤ r.fN
  rotate_left
  · have HV : Hid (msgP r m = false) := by unfold Hid msgP headM; rw [decide_eq_false d4]; simp
    have d4' : decide (r.fN < m.fD.fR) = true := decide_eq_true (by omega)
    have d4'' : r.fN < m.fD.fR := by omega
    go_wp2_with fail
    go_ret
    exact ⟨by rw [HV.out]; rfl, hbq⟩
  have d4' : decide (r.fN < m.fD.fR) = false := decide_eq_false (by omega)
  have d4'' : ¬ r.fN < m.fD.fR := by omega
  have HDH : Hid (headM r m = (itemP ⟨m.fD, m.fDeps⟩ && depsN r.fN m.fDeps)) := by unfold Hid headM; rw [HD1.out, decide_eq_true HD2.out, decide_eq_true HD3.out, decide_eq_true d4]; rfl
  clear d1
  go_wp2_with fail
  refine (l8Item_any [.int .i64 m.fD.fR, .int .i64 m.fD.fN, .slice a8 m.fDeps.length c8] (⟨m.fD, m.fDeps⟩ : MItem) w0 HB.out.item hwd).mono ?_
  rintro e w1 ⟨rfl, hx1⟩
  have HB1 := Hid.mk (HB.out.under hx1)
  have hb1 := bthen hbq hx1
  clear x0 x1 x2 x3 x4 x5 x6 x7 y0 y1 y2 y3 y4 y5 y6 y7 y8 hl0 hl1
  have x0 := HB1.out.rep.2 0 _ rfl
  have x1 := HB1.out.rep.2 1 _ rfl
  have x2 := HB1.out.rep.2 2 _ rfl
  have x3 := HB1.out.rep.2 3 _ rfl
  have x4 := HB1.out.rep.2 4 _ rfl
  have x5 := HB1.out.rep.2 5 _ rfl
  have x6 := HB1.out.rep.2 6 _ rfl
  have x7 := HB1.out.rep.2 7 _ rfl
  have y0 := HB1.out.msg.2 0 _ rfl
  have y1 := HB1.out.msg.2 1 _ rfl
  have y2 := HB1.out.msg.2 2 _ rfl
  have y3 := HB1.out.msg.2 3 _ rfl
  have y4 := HB1.out.msg.2 4 _ rfl
  have y5 := HB1.out.msg.2 5 _ rfl
  have y6 := HB1.out.msg.2 6 _ rfl
  have y7 := HB1.out.msg.2 7 _ rfl
  have y8 := HB1.out.msg.2 8 _ rfl
  have hl0 := HB1.out.rep.1
  have hl1 := HB1.out.msg.1
  rw [HD3.out] at y2
  by_cases d5 : itemP ⟨m.fD, m.fDeps⟩ = true
  rotate_left
  · have d5' := Bool.eq_false_iff.2 d5
    rw [d5']
    have HV : Hid (msgP r m = false) := by unfold Hid msgP; rw [HDH.out, d5']; rfl
    clear d5 d5'
    go_wp2_with fail
    go_ret
    exact ⟨by rw [HV.out]; rfl, hb1⟩
  rw [d5]
  go_wp2_with fail
  refine (l9Deps_any a8 _ c8 m.fDeps r.fN w1 rfl hwd HB1.out.deps).mono ?_
  rintro e w2 ⟨rfl, hw2⟩
  subst hw2
  by_cases d6 : depsN r.fN m.fDeps = true
  rotate_left
  · have d6' := Bool.eq_false_iff.2 d6
    rw [d6']
    have HV : Hid (msgP r m = false) := by unfold Hid msgP; rw [HDH.out, d5, d6']; rfl
    clear d6 d6' d5
    go_wp2_with fail
    go_ret
    exact ⟨by rw [HV.out]; rfl, hb1⟩
  rw [d6]
  have HM : Hid (msgP r m = kindM r m) := by unfold Hid msgP; rw [HDH.out, d5, d6]; rfl
  clear d5 d6 HDH
  by_cases k1 : m.fKind = 1 ∨ m.fKind = 3
  · have HK : Hid (msgP r m = (decide (m.fFrom = m.fD.fR) && cmdOkP m.fC)) := by unfold Hid; rw [HM.out]; unfold kindM; rw [decide_eq_true k1]; rfl
    by_cases d7 : m.fFrom = m.fD.fR
    rotate_left
    · have HV : Hid (msgP r m = false) := by unfold Hid; rw [HK.out, decide_eq_false d7]; rfl
      have d7' : decide (m.fFrom = m.fD.fR) = false := decide_eq_false d7
      rcases k1 with k1 | k1
      · rw [k1] at y0
        go_wp2_with fail
        go_ret
        exact ⟨by rw [HV.out]; rfl, hb1⟩
      · rw [k1] at y0
        go_wp2_with fail
        go_ret
        exact ⟨by rw [HV.out]; rfl, hb1⟩
    have HV : Hid (msgP r m = cmdOkP m.fC) := by unfold Hid; rw [HK.out, decide_eq_true d7]; rfl
    have d7' : decide (m.fFrom = m.fD.fR) = true := decide_eq_true d7
    have hC := fun W => specCmdOk_any [.int .i64 m.fC.fKind, .string m.fC.fKey, .string m.fC.fVal] m.fC W ⟨rfl, g5, g6, g7, trivial⟩ hwc
    rw [d7] at y1
    rcases k1 with k1 | k1
    · rw [k1] at y0
      go_wp2_with fail
      refine (hC _).mono ?_
      rintro e w3 ⟨rfl, hx3⟩
      go_wp2_with fail
      go_ret
      exact ⟨by rw [HV.out]; rfl, bthen hb1 hx3⟩
    · rw [k1] at y0
      go_wp2_with fail
      refine (hC _).mono ?_
      rintro e w3 ⟨rfl, hx3⟩
      go_wp2_with fail
      go_ret
      exact ⟨by rw [HV.out]; rfl, bthen hb1 hx3⟩
  have k11 : ¬ m.fKind = 1 := fun e => k1 (.inl e)
  have k13 : ¬ m.fKind = 3 := fun e => k1 (.inr e)
  by_cases k2 : m.fKind = 2
  rotate_left
  · have HV : Hid (msgP r m = false) := by unfold Hid; rw [HM.out]; unfold kindM; rw [decide_eq_false k1, decide_eq_false k2]; rfl
    clear k1
    have q1 : decide (m.fKind = 1) = false := decide_eq_false k11
    have q2 : decide (m.fKind = 2) = false := decide_eq_false k2
    have q3 : decide (m.fKind = 3) = false := decide_eq_false k13
    go_wp2_with fail
    go_ret
    exact ⟨by rw [HV.out]; rfl, hb1⟩
  have HK : Hid (msgP r m = (decide (m.fD.fR = r.fId) && hasR r.fRecs m.fD && noCmd m.fC)) := by unfold Hid; rw [HM.out]; unfold kindM; rw [decide_eq_false k1, decide_eq_true k2]; rfl
  rw [k2] at y0
  clear k1 k11 k13 k2
  by_cases d7 : m.fD.fR = r.fId
  rotate_left
  · have HV : Hid (msgP r m = false) := by unfold Hid; rw [HK.out, decide_eq_false d7]; rfl
    have d7' : decide (m.fD.fR = r.fId) = false := decide_eq_false d7
    go_wp2_with fail
    go_ret
    exact ⟨by rw [HV.out]; rfl, hb1⟩
  have d7' : decide (m.fD.fR = r.fId) = true := decide_eq_true d7
  have HK2 : Hid (msgP r m = (hasR r.fRecs m.fD && noCmd m.fC)) := by unfold Hid; rw [HK.out, d7']; rfl
  have hC := l9At_any [.int .i64 r.fId, .int .i64 r.fN, .int .i64 r.fNext, .slice a3 r.fRecs.length c3, .slice a4 r.fAcks.length c4, .slice a5 r.fDone.length c5, .slice a6 r.fMap.length c6, .slice a7 r.fSaid.length c7] r [.int .i64 m.fD.fR, .int .i64 m.fD.fN] m.fD w2 HB1.out.r hwr ⟨rfl, g3, g4, trivial⟩
  clear d7' HK
  rw [d7] at y3
  rw [d7] at hC
  go_wp2_with fail
  refine hC.mono ?_
  rintro e w3 ⟨⟨z, HZ, rfl⟩, hx3⟩
  have HB3 := Hid.mk (HB1.out.under hx3)
  have hb3 := bthen hb1 hx3
  clear hC
  clear x0 x1 x2 x3 x4 x5 x6 x7 y0 y1 y2 y3 y4 y5 y6 y7 y8 hl0 hl1
  have x0 := HB3.out.rep.2 0 _ rfl
  have x1 := HB3.out.rep.2 1 _ rfl
  have x2 := HB3.out.rep.2 2 _ rfl
  have x3 := HB3.out.rep.2 3 _ rfl
  have x4 := HB3.out.rep.2 4 _ rfl
  have x5 := HB3.out.rep.2 5 _ rfl
  have x6 := HB3.out.rep.2 6 _ rfl
  have x7 := HB3.out.rep.2 7 _ rfl
  have y0 := HB3.out.msg.2 0 _ rfl
  have y1 := HB3.out.msg.2 1 _ rfl
  have y2 := HB3.out.msg.2 2 _ rfl
  have y3 := HB3.out.msg.2 3 _ rfl
  have y4 := HB3.out.msg.2 4 _ rfl
  have y5 := HB3.out.msg.2 5 _ rfl
  have y6 := HB3.out.msg.2 6 _ rfl
  have y7 := HB3.out.msg.2 7 _ rfl
  have y8 := HB3.out.msg.2 8 _ rfl
  have hl0 := HB3.out.rep.1
  have hl1 := HB3.out.msg.1
  rw [HD3.out] at y2
  by_cases d8 : 0 ≤ z
  rotate_left
  · have HV : Hid (msgP r m = false) := by unfold Hid; rw [HK2.out, HZ.out, decide_eq_false d8]; rfl
    have d8' : decide (0 ≤ z) = false := decide_eq_false d8
    have d8'' : z < 0 := by omega
    go_wp2_with fail
    go_ret
    exact ⟨by rw [HV.out]; rfl, hb3⟩
  have d8' : decide (0 ≤ z) = true := decide_eq_true d8
  have HK3 : Hid (msgP r m = noCmd m.fC) := by unfold Hid; rw [HK2.out, HZ.out, d8']; rfl
  clear HK2
  by_cases c0 : m.fC.fKind = 0
  rotate_left
  · have HV : Hid (msgP r m = false) := by unfold Hid; rw [HK3.out]; unfold noCmd; rw [decide_eq_false c0]; rfl
    have c0' : decide (m.fC.fKind = 0) = false := decide_eq_false c0
    have c0'' : (m.fC.fKind == 0) = false := beq_eq_false_iff_ne.2 c0
    go_wp2_with fail
    go_ret
    exact ⟨by rw [HV.out]; rfl, hb3⟩
  rw [c0] at y5
  by_cases c1 : m.fC.fKey.size = 0
  rotate_left
  · have HV : Hid (msgP r m = false) := by unfold Hid; rw [HK3.out]; unfold noCmd; rw [decide_eq_false c1, Bool.and_false]; rfl
    have c1' := k_nemp c1
    go_wp2_with fail
    go_ret
    exact ⟨by rw [HV.out]; rfl, hb3⟩
  rw [k_empty c1] at y6
  by_cases c2 : m.fC.fVal.size = 0
  rotate_left
  · have HV : Hid (msgP r m = false) := by unfold Hid; rw [HK3.out]; unfold noCmd; rw [decide_eq_false c2, Bool.and_false]
    have c2' := k_nemp c2
    go_wp2_with fail
    go_ret
    exact ⟨by rw [HV.out]; rfl, hb3⟩
  rw [k_empty c2] at y7
  have HV : Hid (msgP r m = true) := by unfold Hid; rw [HK3.out]; unfold noCmd; rw [decide_eq_true c0, decide_eq_true c1, decide_eq_true c2]; rfl
  clear c0 c1 c2
  go_wp2_with fail
  go_ret
  exact ⟨by rw [HV.out]; rfl, hb3⟩

end Go.Proofs.Ytnomigomjhhccaa
