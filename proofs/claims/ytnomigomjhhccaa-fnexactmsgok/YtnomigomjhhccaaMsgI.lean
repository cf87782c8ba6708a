/-
  Whether a word is right for a replica: the program.
-/
import Derived.Test.YtnomigomjhhccaaMsgM
import Derived.Test.YtnomigomjhhccaaGraI
namespace Go.Proofs.Ytnomigomjhhccaa
open Go.RowKit Go.Maps
set_option linter.unusedVariables false
set_option linter.unusedSimpArgs false
set_option maxRecDepth 10000

set_option maxHeartbeats 400000 in
theorem oneOf_any (x b : Int) (w : World) :
    Calls Try.prog 95 #[.int .i64 x, .int .i64 b] w fun e w' => e = .returned (.bool (inR x 1 b)) ∧ w' = w := by
  by_cases h1 : 1 ≤ x
  · by_cases h2 : x ≤ b
    · have HV : Hid (inR x 1 b = true) := decide_eq_true ⟨h1, h2⟩
      go_enter Try.func95, Try.ntmps95
      go_wp2
      go_ret
      exact ⟨by rw [HV.out]; rfl, rfl⟩
    · have HV : Hid (inR x 1 b = false) := decide_eq_false (fun h => h2 h.2)
      go_enter Try.func95, Try.ntmps95
      go_wp2
      go_ret
      exact ⟨by rw [HV.out]; rfl, rfl⟩
  · have HV : Hid (inR x 1 b = false) := decide_eq_false (fun h => h1 h.1)
    go_enter Try.func95, Try.ntmps95
    go_wp2
    go_ret
    exact ⟨by rw [HV.out]; rfl, rfl⟩

set_option maxHeartbeats 1000000 in
theorem stranger_any (d : MDot) (q : Int) (bt : Nat) (w : World) (hl : bt < w.heap.size) (hb : w.cell? ⟨bt, 1, none⟩ = some (.int .i64 q)) :
    Calls Try.prog 94 #[.agg #[.int .i64 d.fR, .int .i64 d.fN], .pointer (some ⟨bt, 0, none⟩)] w fun e w' => e = .returned (.bool (!inR d.fR 1 q)) ∧ Below w.heap.size w w' := by
  obtain ⟨wq, hwq⟩ : ∃ x, x = w.alloc (.cells #[.int .i64 d.fR, .int .i64 d.fN] 45) := ⟨_, rfl⟩
  have hbq : Below w.heap.size w wq := by rw [hwq]; exact (Below.refl _ _).alloc (Nat.le_refl _) _
  have hbx : Bx wq w.heap.size [.int .i64 d.fR, .int .i64 d.fN] := by rw [hwq]; exact Bx.new _ _ _
  have y0 := hbx.2 0 _ rfl
  have t0 : wq.cell? ⟨bt, 1, none⟩ = some (.int .i64 q) := (hbq.cell (p := ⟨bt, 1, none⟩) hl).trans hb
  rw [hwq] at t0
  go_enter Try.func94, Try.ntmps94
  go_wp2_with (rw [← hwq])
  clear hwq t0
  refine (oneOf_any d.fR q _).mono ?_
  rintro e w1 ⟨rfl, hw1⟩
  subst hw1
  go_wp2_with fail
  go_ret
  exact ⟨rfl, hbq⟩

set_option maxHeartbeats 1000000 in
theorem idxS_any (a : Option Addr) (n c : Nat) (l : List MDot) (q : Int) (bt : Nat) (w : World) (hx : l.length = n) (hn : n ≤ 1048576) (hL : LeafL 2 rDot w.heap.size w a c l) (hl : bt < w.heap.size) (hb : w.cell? ⟨bt, 1, none⟩ = some (.int .i64 q)) :
    Calls Try.prog 122 #[.slice a n c, .func (.func 94) #[] #[.pointer (some ⟨bt, 0, none⟩)]] w fun e w' => (∃ z : Int, Hid (depsI q l = decide (z < 0)) ∧ e = .returned (.int .i64 z)) ∧ Below w.heap.size w w' := by
  have HX := Hid.mk hx
  have HL := Hid.mk hL
  clear hx hL
  go_enter Try.func122, Try.ntmps122
  go_wp2_with fail
  go_loopw [8] (fun iv wr => ∃ k : Nat, k ≤ n ∧ iv = .int .i64 k ∧ Hid (∀ j, (h : j < l.length) → j < k → inR l[j].fR 1 q = true) ∧ Below w.heap.size w wr) (fun iv _ => n - (intOf iv).toNat)
  case atStart => exact ⟨0, Nat.zero_le _, rfl, Hid.mk (fun j _ hj => by omega), Below.refl _ _⟩
  case round =>
    obtain ⟨k, hk, rfl, HNO, hbk⟩ := hrel
    by_cases hlt : k < n
    · have hkl : k < l.length := by rw [HX.out]; exact hlt
      obtain ⟨b1, o1, rfl, hbB, cs, hcl, hcell, rfl, e0, e1, _⟩ := (HL.out.2.2.below rDot_good hbk) k hkl
      have k0 := hcell 0 _ rfl
      have k1 := hcell 1 _ rfl
      rw [Nat.add_zero] at k0
      obtain ⟨p, hp⟩ : ∃ p, p = l[k] := ⟨_, rfl⟩
      have HPK := Hid.mk hp
      rw [← hp] at k0 k1
      clear hcell hcl hp
      have hC := stranger_any p q bt wr (Nat.lt_of_lt_of_le hl hbk.size) ((hbk.cell (p := ⟨bt, 1, none⟩) hl).trans hb)
      go_wp2_with fail
      refine hC.mono ?_
      rintro e w1 ⟨rfl, hx1⟩
      have hB1 := hbk.trans (hx1.mono hbk.size)
      rcases hg : inR p.fR 1 q with _ | _
      · have HV : Hid (depsI q l = false) := all_no hkl (by rw [← HPK.out]; exact hg)
        go_wp2_with fail
        go_ret
        exact ⟨⟨(k : Int), by unfold Hid; rw [HV.out]; simp, rfl⟩, hB1⟩
      · have HN2 : Hid (∀ j, (h : j < l.length) → j < k + 1 → inR l[j].fR 1 q = true) := fun j h hj => by
          by_cases hjk : j = k
          · subst hjk; rw [← HPK.out]; exact hg
          · exact HNO.out j h (by omega)
        go_wp2_with fail
        go_roundw
        case rel => exact ⟨k + 1, by omega, by go_num, HN2, hB1⟩
        case measure => simp [intOf]; omega
    · have HV : Hid (depsI q l = true) := all_yes (fun j h => HNO.out j h (by have := HX.out; omega))
      go_wp2_with fail
      go_ret
      exact ⟨⟨-1, by unfold Hid; rw [HV.out]; rfl, rfl⟩, hbk⟩

set_option maxHeartbeats 1000000 in
theorem contS_any (a : Option Addr) (n c : Nat) (l : List MDot) (q : Int) (bt : Nat) (w : World) (hx : l.length = n) (hn : n ≤ 1048576) (hL : LeafL 2 rDot w.heap.size w a c l) (hl : bt < w.heap.size) (hb : w.cell? ⟨bt, 1, none⟩ = some (.int .i64 q)) :
    Calls Try.prog 97 #[.slice a n c, .func (.func 94) #[] #[.pointer (some ⟨bt, 0, none⟩)]] w fun e w' => e = .returned (.bool (!depsI q l)) ∧ Below w.heap.size w w' := by
  go_enter Try.func97, Try.ntmps97
  go_wp2_with fail
  refine (idxS_any a n c l q bt w hx hn hL hl hb).mono ?_
  rintro e w1 ⟨⟨z, HZ, rfl⟩, hx1⟩
  have HV : Hid ((!depsI q l) = decide (0 ≤ z)) := by unfold Hid; rw [HZ.out]; by_cases h : 0 ≤ z <;> simp [h] <;> omega
  go_wp2_with fail
  go_ret
  exact ⟨by rw [HV.out]; rfl, hx1⟩

theorem sameD_split {x d : MDot} : (x.fR = d.fR ∧ x.fN = d.fN ∧ sameD x d = true) ∨ (¬ x.fR = d.fR ∧ sameD x d = false) ∨ (x.fR = d.fR ∧ ¬ x.fN = d.fN ∧ sameD x d = false) := by
  by_cases h1 : x.fR = d.fR
  · by_cases h2 : x.fN = d.fN
    · exact .inl ⟨h1, h2, decide_eq_true ⟨h1, h2⟩⟩
    · exact .inr (.inr ⟨h1, h2, decide_eq_false (fun h => h2 h.2)⟩)
  · exact .inr (.inl ⟨h1, decide_eq_false (fun h => h1 h.1)⟩)

set_option maxHeartbeats 1000000 in
theorem isRec_any (x : MRec) (d : MDot) (ar : Option Addr) (cr : Nat) (bt : Nat) (w : World) (hl : bt < w.heap.size) (hb0 : w.cell? ⟨bt, 0, none⟩ = some (.int .i64 d.fR)) (hb1 : w.cell? ⟨bt, 1, none⟩ = some (.int .i64 d.fN)) :
    Calls Try.prog 127 #[.agg #[.int .i64 x.fD.fR, .int .i64 x.fD.fN, .int .i64 x.fC.fKind, .string x.fC.fKey, .string x.fC.fVal, .slice ar x.fDeps.length cr, .bool x.fSure], .pointer (some ⟨bt, 0, none⟩)] w fun e w' => e = .returned (.bool (sameD x.fD d)) ∧ Below w.heap.size w w' := by
  obtain ⟨wq, hwq⟩ : ∃ y, y = w.alloc (.cells #[.int .i64 x.fD.fR, .int .i64 x.fD.fN, .int .i64 x.fC.fKind, .string x.fC.fKey, .string x.fC.fVal, .slice ar x.fDeps.length cr, .bool x.fSure] 134) := ⟨_, rfl⟩
  have hbq : Below w.heap.size w wq := by rw [hwq]; exact (Below.refl _ _).alloc (Nat.le_refl _) _
  have t0 : wq.cell? ⟨bt, 0, none⟩ = some (.int .i64 d.fR) := (hbq.cell (p := ⟨bt, 0, none⟩) hl).trans hb0
  have t1 : wq.cell? ⟨bt, 1, none⟩ = some (.int .i64 d.fN) := (hbq.cell (p := ⟨bt, 1, none⟩) hl).trans hb1
  rcases sameD_split (x := x.fD) (d := d) with ⟨e1, e2, hs⟩ | ⟨e1, hs⟩ | ⟨e1, e2, hs⟩
  · have HV := Hid.mk hs
    rw [← e1, hwq] at t0
    rw [← e2, hwq] at t1
    clear e1 e2 hs
    go_enter Try.func127, Try.ntmps127
    go_wp2_with (rw [← hwq])
    go_ret
    exact ⟨by rw [HV.out]; rfl, by first | exact hbq | (rw [← hwq]; exact hbq)⟩
  · have HV := Hid.mk hs
    have q1 : decide (x.fD.fR = d.fR) = false := decide_eq_false e1
    have q2 : (x.fD.fR == d.fR) = false := beq_eq_false_iff_ne.2 e1
    rw [hwq] at t0 t1
    go_enter Try.func127, Try.ntmps127
    go_wp2_with (rw [← hwq])
    go_ret
    exact ⟨by rw [HV.out]; rfl, by first | exact hbq | (rw [← hwq]; exact hbq)⟩
  · have HV := Hid.mk hs
    have q1 : decide (x.fD.fN = d.fN) = false := decide_eq_false e2
    have q2 : (x.fD.fN == d.fN) = false := beq_eq_false_iff_ne.2 e2
    rw [← e1, hwq] at t0
    rw [hwq] at t1
    clear e1 hs
    go_enter Try.func127, Try.ntmps127
    go_wp2_with (rw [← hwq])
    go_ret
    exact ⟨by rw [HV.out]; rfl, by first | exact hbq | (rw [← hwq]; exact hbq)⟩

set_option maxHeartbeats 1000000 in
theorem idxR_any (a : Option Addr) (n c : Nat) (l : List MRec) (d : MDot) (bt : Nat) (w : World) (hx : l.length = n) (hn : n ≤ 1048576) (hL : LeafL 7 rRec w.heap.size w a c l) (hl : bt < w.heap.size) (hb0 : w.cell? ⟨bt, 0, none⟩ = some (.int .i64 d.fR)) (hb1 : w.cell? ⟨bt, 1, none⟩ = some (.int .i64 d.fN)) :
    Calls Try.prog 128 #[.slice a n c, .func (.func 127) #[] #[.pointer (some ⟨bt, 0, none⟩)]] w fun e w' => (∃ z : Int, Hid (hasR l d = decide (0 ≤ z)) ∧ e = .returned (.int .i64 z)) ∧ Below w.heap.size w w' := by
  have HX := Hid.mk hx
  have HL := Hid.mk hL
  clear hx hL
  go_enter Try.func128, Try.ntmps128
  go_wp2_with fail
  go_loopw [8] (fun iv wr => ∃ k : Nat, k ≤ n ∧ iv = .int .i64 k ∧ Hid (∀ j, (h : j < l.length) → j < k → sameD l[j].fD d = false) ∧ Below w.heap.size w wr) (fun iv _ => n - (intOf iv).toNat)
  case atStart => exact ⟨0, Nat.zero_le _, rfl, Hid.mk (fun j _ hj => by omega), Below.refl _ _⟩
  case round =>
    obtain ⟨k, hk, rfl, HNO, hbk⟩ := hrel
    by_cases hlt : k < n
    · have hkl : k < l.length := by rw [HX.out]; exact hlt
      obtain ⟨b1, o1, rfl, hbB, cs, hcl, hcell, hrec⟩ := (HL.out.2.2.below rRec_good hbk) k hkl
      obtain ⟨ar, cr, rfl, e0, e1, _⟩ := hrec
      have k0 := hcell 0 _ rfl
      have k1 := hcell 1 _ rfl
      have k2 := hcell 2 _ rfl
      have k3 := hcell 3 _ rfl
      have k4 := hcell 4 _ rfl
      have k5 := hcell 5 _ rfl
      have k6 := hcell 6 _ rfl
      rw [Nat.add_zero] at k0
      obtain ⟨p, hp⟩ : ∃ p, p = l[k] := ⟨_, rfl⟩
      have HPK := Hid.mk hp
      rw [← hp] at k0 k1 k2 k3 k4 k5 k6
      clear hcell hcl hp
      have hC := isRec_any p d ar cr bt wr (Nat.lt_of_lt_of_le hl hbk.size) ((hbk.cell (p := ⟨bt, 0, none⟩) hl).trans hb0) ((hbk.cell (p := ⟨bt, 1, none⟩) hl).trans hb1)
      go_wp2_with fail
      refine hC.mono ?_
      rintro e w1 ⟨rfl, hx1⟩
      have hB1 := hbk.trans (hx1.mono hbk.size)
      rcases hg : sameD p.fD d with _ | _
      · have HN2 : Hid (∀ j, (h : j < l.length) → j < k + 1 → sameD l[j].fD d = false) := fun j h hj => by
          by_cases hjk : j = k
          · subst hjk; rw [← HPK.out]; exact hg
          · exact HNO.out j h (by omega)
        go_wp2_with fail
        go_roundw
        case rel => exact ⟨k + 1, by omega, by go_num, HN2, hB1⟩
        case measure => simp [intOf]; omega
      · have HV : Hid (hasR l d = true) := hasR_yes hkl (by rw [← HPK.out]; exact hg)
        go_wp2_with fail
        go_ret
        exact ⟨⟨(k : Int), by unfold Hid; rw [HV.out]; simp, rfl⟩, hB1⟩
    · have HV : Hid (hasR l d = false) := hasR_no (fun j h => HNO.out j h (by have := HX.out; omega))
      go_wp2_with fail
      go_ret
      exact ⟨⟨-1, by unfold Hid; rw [HV.out]; rfl, rfl⟩, hbk⟩

set_option maxHeartbeats 1000000 in
theorem hasRec_any (a : Option Addr) (n c : Nat) (l : List MRec) (d : MDot) (w : World) (hx : l.length = n) (hn : n ≤ 1048576) (hL : LeafL 7 rRec w.heap.size w a c l) :
    Calls Try.prog 121 #[.slice a n c, .agg #[.int .i64 d.fR, .int .i64 d.fN]] w fun e w' => e = .returned (.bool (hasR l d)) ∧ Below w.heap.size w w' := by
  obtain ⟨wq, hwq⟩ : ∃ x, x = w.alloc (.cells #[.int .i64 d.fR, .int .i64 d.fN] 45) := ⟨_, rfl⟩
  have hbq : Below w.heap.size w wq := by rw [hwq]; exact (Below.refl _ _).alloc (Nat.le_refl _) _
  have hbx : Bx wq w.heap.size [.int .i64 d.fR, .int .i64 d.fN] := by rw [hwq]; exact Bx.new _ _ _
  have hC : Calls Try.prog 126 #[.slice a n c, .func (.func 127) #[] #[.pointer (some ⟨w.heap.size, 0, none⟩)]] wq fun e w' => e = .returned (.bool (hasR l d)) ∧ Below wq.heap.size wq w' := by
    have hI := idxR_any a n c l d w.heap.size wq hx hn ((hL.below rRec_good hbq).mono rRec_good hbq.size) hbx.1 (hbx.2 0 _ rfl) (hbx.2 1 _ rfl)
    clear hwq
    go_enter Try.func126, Try.ntmps126
    go_wp2_with fail
    refine hI.mono ?_
    rintro e w1 ⟨⟨z, HZ, rfl⟩, hx1⟩
    go_wp2_with fail
    go_ret
    exact ⟨by rw [HZ.out]; rfl, hx1⟩
  go_enter Try.func121, Try.ntmps121
  go_wp2_with (rw [← hwq])
  refine hC.mono ?_
  rintro e w1 ⟨rfl, hx1⟩
  go_wp2_with fail
  go_ret
  exact ⟨rfl, bthen hbq hx1⟩

set_option maxHeartbeats 4000000 in
theorem kindFits_any (cs : List Value) (r : MReplica) (ds : List Value) (m : MMsg) (w : World) (hr : rReplica w.heap.size w cs r) (hd : rMsg w.heap.size w ds m) (hw : wReplica r ≤ 1048576) (hw2 : wMsg m ≤ 1048576) (hto : m.fTo = r.fId) :
    Calls Try.prog 96 #[.agg cs.toArray, .agg ds.toArray] w fun e w' => e = .returned (.bool (kindM r m)) ∧ Below w.heap.size w w' := by
  obtain ⟨a3, c3, a4, c4, a5, c5, a6, c6, a7, c7, rfl, h0, h1, h2, h3, h4, h5, h6, h7, _⟩ := hr
  obtain ⟨a8, c8, rfl, g0, g1, g2, g3, g4, g5, g6, g7, g8, _⟩ := hd
  have HB0 := InBox.new (w := w) (r := r) (m := m) ⟨a3, c3, a4, c4, a5, c5, a6, c6, a7, c7, rfl, h0, h1, h2, h3, h4, h5, h6, h7, trivial⟩ ⟨a8, c8, rfl, g0, g1, g2, g3, g4, g5, g6, g7, g8, trivial⟩ 37 87
  have hwr : r.fRecs.length ≤ 1048576 := by have h : (r.fRecs.length + sumW wRec r.fRecs) + (r.fAcks.length + sumW wAck r.fAcks) + (r.fDone.length + sumW wDot r.fDone) + (r.fMap.length + sumW wPair r.fMap) + (r.fSaid.length + sumW wAnswer r.fSaid) ≤ 1048576 := hw; omega
  have hwd : m.fDeps.length ≤ 1048576 := by have h : m.fC.fKey.size + m.fC.fVal.size + (m.fDeps.length + sumW wDot m.fDeps) ≤ 1048576 := hw2; omega
  have hwc : wCmd m.fC ≤ 1048576 := by have h : m.fC.fKey.size + m.fC.fVal.size + (m.fDeps.length + sumW wDot m.fDeps) ≤ 1048576 := hw2; show m.fC.fKey.size + m.fC.fVal.size ≤ _; omega
  obtain ⟨wq, hwq⟩ : ∃ wq, wq = (w.alloc (.cells #[.int .i64 r.fId, .int .i64 r.fN, .int .i64 r.fNext, .slice a3 r.fRecs.length c3, .slice a4 r.fAcks.length c4, .slice a5 r.fDone.length c5, .slice a6 r.fMap.length c6, .slice a7 r.fSaid.length c7] 37)).alloc (.cells #[.int .i64 m.fKind, .int .i64 m.fFrom, .int .i64 m.fTo, .int .i64 m.fD.fR, .int .i64 m.fD.fN, .int .i64 m.fC.fKind, .string m.fC.fKey, .string m.fC.fVal, .slice a8 m.fDeps.length c8] 87) := ⟨_, rfl⟩
  rw [← hwq] at HB0
  have HB := Hid.mk HB0.1
  have hbq := HB0.2
  clear HB0 h3 h4 h5 h6 h7 g8
  have hb1 := hbq
  have x0 := HB.out.rep.2 0 _ rfl
  have x1 := HB.out.rep.2 1 _ rfl
  have x2 := HB.out.rep.2 2 _ rfl
  have x3 := HB.out.rep.2 3 _ rfl
  have x4 := HB.out.rep.2 4 _ rfl
  have x5 := HB.out.rep.2 5 _ rfl
  have x6 := HB.out.rep.2 6 _ rfl
  have x7 := HB.out.rep.2 7 _ rfl
  have y0 := HB.out.msg.2 0 _ rfl
  have y1 := HB.out.msg.2 1 _ rfl
  have y2 := HB.out.msg.2 2 _ rfl
  have y3 := HB.out.msg.2 3 _ rfl
  have y4 := HB.out.msg.2 4 _ rfl
  have y5 := HB.out.msg.2 5 _ rfl
  have y6 := HB.out.msg.2 6 _ rfl
  have y7 := HB.out.msg.2 7 _ rfl
  have y8 := HB.out.msg.2 8 _ rfl
  have hl0 := HB.out.rep.1
  have hl1 := HB.out.msg.1
  rw [hto] at y2 hwq
  rw [hto]
  clear hto
  by_cases k1 : m.fKind = 1 ∨ m.fKind = 3
  · have HK : Hid (kindM r m = (decide (m.fFrom = m.fD.fR) && cmdOkP m.fC)) := by unfold Hid kindM; rw [decide_eq_true k1]; rfl
    by_cases d7 : m.fFrom = m.fD.fR
    rotate_left
    · have HV : Hid (kindM r m = false) := by unfold Hid; rw [HK.out, decide_eq_false d7]; rfl
      have d7' : decide (m.fFrom = m.fD.fR) = false := decide_eq_false d7
      rcases k1 with k1 | k1
      · rw [k1] at y0 hwq
        rw [k1]
        go_enter Try.func96, Try.ntmps96
        go_wp2_with (rw [← hwq])
        go_ret
        exact ⟨by rw [HV.out]; rfl, by first | exact hb1 | (rw [← hwq]; exact hb1)⟩
      · rw [k1] at y0 hwq
        rw [k1]
        go_enter Try.func96, Try.ntmps96
        go_wp2_with (rw [← hwq])
        go_ret
        exact ⟨by rw [HV.out]; rfl, by first | exact hb1 | (rw [← hwq]; exact hb1)⟩
    have HV : Hid (kindM r m = cmdOkP m.fC) := by unfold Hid; rw [HK.out, decide_eq_true d7]; rfl
    have hC := fun W => implCmdOk_any [.int .i64 m.fC.fKind, .string m.fC.fKey, .string m.fC.fVal] m.fC W ⟨rfl, g5, g6, g7, trivial⟩ hwc
    rw [d7] at y1 hwq
    rw [d7]
    rcases k1 with k1 | k1
    · rw [k1] at y0 hwq
      rw [k1]
      go_enter Try.func96, Try.ntmps96
      go_wp2_with (rw [← hwq])
      try rw [← hwq]
      clear hwq
      refine (hC _).mono ?_
      rintro e w3 ⟨rfl, hx3⟩
      go_wp2_with fail
      go_ret
      exact ⟨by rw [HV.out]; rfl, bthen hb1 hx3⟩
    · rw [k1] at y0 hwq
      rw [k1]
      go_enter Try.func96, Try.ntmps96
      go_wp2_with (rw [← hwq])
      try rw [← hwq]
      clear hwq
      refine (hC _).mono ?_
      rintro e w3 ⟨rfl, hx3⟩
      go_wp2_with fail
      go_ret
      exact ⟨by rw [HV.out]; rfl, bthen hb1 hx3⟩
  have k11 : ¬ m.fKind = 1 := fun e => k1 (.inl e)
  have k13 : ¬ m.fKind = 3 := fun e => k1 (.inr e)
  by_cases k2 : m.fKind = 2
  rotate_left
  · have HV : Hid (kindM r m = false) := by unfold Hid kindM; rw [decide_eq_false k1, decide_eq_false k2]; rfl
    clear k1
    have q1 : decide (m.fKind = 1) = false := decide_eq_false k11
    have q2 : decide (m.fKind = 2) = false := decide_eq_false k2
    have q3 : decide (m.fKind = 3) = false := decide_eq_false k13
    go_enter Try.func96, Try.ntmps96
    go_wp2_with (rw [← hwq])
    go_ret
    exact ⟨by rw [HV.out]; rfl, by first | exact hb1 | (rw [← hwq]; exact hb1)⟩
  have HK : Hid (kindM r m = (decide (m.fD.fR = r.fId) && hasR r.fRecs m.fD && noCmd m.fC)) := by unfold Hid kindM; rw [decide_eq_false k1, decide_eq_true k2]; rfl
  rw [k2] at y0 hwq
  rw [k2]
  clear k1 k11 k13 k2
  by_cases d7 : m.fD.fR = r.fId
  rotate_left
  · have HV : Hid (kindM r m = false) := by unfold Hid; rw [HK.out, decide_eq_false d7]; rfl
    have d7' : decide (r.fId = m.fD.fR) = false := decide_eq_false (fun e => d7 e.symm)
    have d7'' : ¬ r.fId = m.fD.fR := fun e => d7 e.symm
    have d7q : (r.fId == m.fD.fR) = false := beq_eq_false_iff_ne.2 d7''
    go_enter Try.func96, Try.ntmps96
    go_wp2_with (rw [← hwq])
    go_ret
    exact ⟨by rw [HV.out]; rfl, by first | exact hb1 | (rw [← hwq]; exact hb1)⟩
  have d7' : decide (m.fD.fR = r.fId) = true := decide_eq_true d7
  have HK2 : Hid (kindM r m = (hasR r.fRecs m.fD && noCmd m.fC)) := by unfold Hid; rw [HK.out, d7']; rfl
  have hLR := HB.out.recs
  have hC := hasRec_any a3 _ c3 r.fRecs m.fD wq rfl hwr hLR
  clear d7' HK hLR
  rw [d7] at y3 hwq
  rw [d7] at hC
  rw [d7]
  go_enter Try.func96, Try.ntmps96
  go_wp2_with (rw [← hwq])
  try rw [← hwq]
  clear hwq
  refine hC.mono ?_
  rintro e w3 ⟨rfl, hx3⟩
  have HB3 := Hid.mk (HB.out.under hx3)
  have hb3 := bthen hb1 hx3
  clear hC
  clear x0 x1 x2 x3 x4 x5 x6 x7 y0 y1 y2 y3 y4 y5 y6 y7 y8 hl0 hl1
  have x0 := HB3.out.rep.2 0 _ rfl
  have x1 := HB3.out.rep.2 1 _ rfl
  have x2 := HB3.out.rep.2 2 _ rfl
  have x3 := HB3.out.rep.2 3 _ rfl
  have x4 := HB3.out.rep.2 4 _ rfl
  have x5 := HB3.out.rep.2 5 _ rfl
  have x6 := HB3.out.rep.2 6 _ rfl
  have x7 := HB3.out.rep.2 7 _ rfl
  have y0 := HB3.out.msg.2 0 _ rfl
  have y1 := HB3.out.msg.2 1 _ rfl
  have y2 := HB3.out.msg.2 2 _ rfl
  have y3 := HB3.out.msg.2 3 _ rfl
  have y4 := HB3.out.msg.2 4 _ rfl
  have y5 := HB3.out.msg.2 5 _ rfl
  have y6 := HB3.out.msg.2 6 _ rfl
  have y7 := HB3.out.msg.2 7 _ rfl
  have y8 := HB3.out.msg.2 8 _ rfl
  have hl0 := HB3.out.rep.1
  have hl1 := HB3.out.msg.1
  by_cases d8 : hasR r.fRecs m.fD = true
  rotate_left
  · have d8' := Bool.eq_false_iff.2 d8
    have HV : Hid (kindM r m = false) := by unfold Hid; rw [HK2.out, d8']; rfl
    rw [d8']
    clear d8 d8'
    go_wp2_with fail
    go_ret
    exact ⟨by rw [HV.out]; rfl, hb3⟩
  rw [d8]
  have HK3 : Hid (kindM r m = noCmd m.fC) := by unfold Hid; rw [HK2.out, d8]; rfl
  clear d8
  clear HK2
  by_cases c0 : m.fC.fKind = 0
  rotate_left
  · have HV : Hid (kindM r m = false) := by unfold Hid; rw [HK3.out]; unfold noCmd; rw [decide_eq_false c0]; rfl
    have c0' : decide (m.fC.fKind = 0) = false := decide_eq_false c0
    have c0'' : (m.fC.fKind == 0) = false := beq_eq_false_iff_ne.2 c0
    go_wp2_with fail
    go_ret
    exact ⟨by rw [HV.out]; rfl, hb3⟩
  rw [c0] at y5
  by_cases c1 : m.fC.fKey.size = 0
  rotate_left
  · have HV : Hid (kindM r m = false) := by unfold Hid; rw [HK3.out]; unfold noCmd; rw [decide_eq_false c1, Bool.and_false]; rfl
    have c1' := k_nemp c1
    go_wp2_with fail
    go_ret
    exact ⟨by rw [HV.out]; rfl, hb3⟩
  rw [k_empty c1] at y6
  by_cases c2 : m.fC.fVal.size = 0
  rotate_left
  · have HV : Hid (kindM r m = false) := by unfold Hid; rw [HK3.out]; unfold noCmd; rw [decide_eq_false c2, Bool.and_false]
    have c2' := k_nemp c2
    go_wp2_with fail
    go_ret
    exact ⟨by rw [HV.out]; rfl, hb3⟩
  rw [k_empty c2] at y7
  have HV : Hid (kindM r m = true) := by unfold Hid; rw [HK3.out]; unfold noCmd; rw [decide_eq_true c0, decide_eq_true c1, decide_eq_true c2]; rfl
  clear c0 c1 c2
  go_wp2_with fail
  go_ret
  exact ⟨by rw [HV.out]; rfl, hb3⟩

set_option maxHeartbeats 4000000 in
theorem implMsgOk_any (cs : List Value) (r : MReplica) (ds : List Value) (m : MMsg) (w : World) (hr : rReplica w.heap.size w cs r) (hd : rMsg w.heap.size w ds m) (hw : wReplica r ≤ 1048576) (hw2 : wMsg m ≤ 1048576) :
    Calls Try.prog 45 #[.agg cs.toArray, .agg ds.toArray] w fun e w' => e = .returned (.bool (msgP r m)) ∧ Below w.heap.size w w' := by
  obtain ⟨a3, c3, a4, c4, a5, c5, a6, c6, a7, c7, rfl, h0, h1, h2, h3, h4, h5, h6, h7, _⟩ := hr
  obtain ⟨a8, c8, rfl, g0, g1, g2, g3, g4, g5, g6, g7, g8, _⟩ := hd
  have HB0 := InBox.new (w := w) (r := r) (m := m) ⟨a3, c3, a4, c4, a5, c5, a6, c6, a7, c7, rfl, h0, h1, h2, h3, h4, h5, h6, h7, trivial⟩ ⟨a8, c8, rfl, g0, g1, g2, g3, g4, g5, g6, g7, g8, trivial⟩ 37 87
  have hwr : r.fRecs.length ≤ 1048576 := by have h : (r.fRecs.length + sumW wRec r.fRecs) + (r.fAcks.length + sumW wAck r.fAcks) + (r.fDone.length + sumW wDot r.fDone) + (r.fMap.length + sumW wPair r.fMap) + (r.fSaid.length + sumW wAnswer r.fSaid) ≤ 1048576 := hw; omega
  have hwd : m.fDeps.length ≤ 1048576 := by have h : m.fC.fKey.size + m.fC.fVal.size + (m.fDeps.length + sumW wDot m.fDeps) ≤ 1048576 := hw2; omega
  have hwc : wCmd m.fC ≤ 1048576 := by have h : m.fC.fKey.size + m.fC.fVal.size + (m.fDeps.length + sumW wDot m.fDeps) ≤ 1048576 := hw2; show m.fC.fKey.size + m.fC.fVal.size ≤ _; omega
  obtain ⟨wq, hwq⟩ : ∃ wq, wq = (w.alloc (.cells #[.int .i64 r.fId, .int .i64 r.fN, .int .i64 r.fNext, .slice a3 r.fRecs.length c3, .slice a4 r.fAcks.length c4, .slice a5 r.fDone.length c5, .slice a6 r.fMap.length c6, .slice a7 r.fSaid.length c7] 37)).alloc (.cells #[.int .i64 m.fKind, .int .i64 m.fFrom, .int .i64 m.fTo, .int .i64 m.fD.fR, .int .i64 m.fD.fN, .int .i64 m.fC.fKind, .string m.fC.fKey, .string m.fC.fVal, .slice a8 m.fDeps.length c8] 87) := ⟨_, rfl⟩
  rw [← hwq] at HB0
  have HB := Hid.mk HB0.1
  have hbq := HB0.2
  clear HB0 h3 h4 h5 h6 h7 g8
  have x0 := HB.out.rep.2 0 _ rfl
  have x1 := HB.out.rep.2 1 _ rfl
  have x2 := HB.out.rep.2 2 _ rfl
  have x3 := HB.out.rep.2 3 _ rfl
  have x4 := HB.out.rep.2 4 _ rfl
  have x5 := HB.out.rep.2 5 _ rfl
  have x6 := HB.out.rep.2 6 _ rfl
  have x7 := HB.out.rep.2 7 _ rfl
  have y0 := HB.out.msg.2 0 _ rfl
  have y1 := HB.out.msg.2 1 _ rfl
  have y2 := HB.out.msg.2 2 _ rfl
  have y3 := HB.out.msg.2 3 _ rfl
  have y4 := HB.out.msg.2 4 _ rfl
  have y5 := HB.out.msg.2 5 _ rfl
  have y6 := HB.out.msg.2 6 _ rfl
  have y7 := HB.out.msg.2 7 _ rfl
  have y8 := HB.out.msg.2 8 _ rfl
  have hl0 := HB.out.rep.1
  have hl1 := HB.out.msg.1
  go_enter Try.func45, Try.ntmps45
  by_cases d3 : m.fTo = r.fId
  rotate_left
  · have HV : Hid (msgP r m = false) := by unfold Hid msgP headM; simp [d3]
    have d3' : decide (m.fTo = r.fId) = false := decide_eq_false d3
    go_wp2_with (rw [← hwq])
    go_ret
    exact ⟨by rw [HV.out]; rfl, by first | exact hbq | (rw [← hwq]; exact hbq)⟩
  have hKF : ∀ W, rReplica W.heap.size W [.int .i64 r.fId, .int .i64 r.fN, .int .i64 r.fNext, .slice a3 r.fRecs.length c3, .slice a4 r.fAcks.length c4, .slice a5 r.fDone.length c5, .slice a6 r.fMap.length c6, .slice a7 r.fSaid.length c7] r → rMsg W.heap.size W [.int .i64 m.fKind, .int .i64 m.fFrom, .int .i64 m.fTo, .int .i64 m.fD.fR, .int .i64 m.fD.fN, .int .i64 m.fC.fKind, .string m.fC.fKey, .string m.fC.fVal, .slice a8 m.fDeps.length c8] m → Calls Try.prog 96 #[.agg #[.int .i64 r.fId, .int .i64 r.fN, .int .i64 r.fNext, .slice a3 r.fRecs.length c3, .slice a4 r.fAcks.length c4, .slice a5 r.fDone.length c5, .slice a6 r.fMap.length c6, .slice a7 r.fSaid.length c7], .agg #[.int .i64 m.fKind, .int .i64 m.fFrom, .int .i64 r.fId, .int .i64 m.fD.fR, .int .i64 m.fD.fN, .int .i64 m.fC.fKind, .string m.fC.fKey, .string m.fC.fVal, .slice a8 m.fDeps.length c8]] W fun e w' => e = .returned (.bool (kindM r m)) ∧ Below W.heap.size W w' := fun W hr hd => by have h := kindFits_any [.int .i64 r.fId, .int .i64 r.fN, .int .i64 r.fNext, .slice a3 r.fRecs.length c3, .slice a4 r.fAcks.length c4, .slice a5 r.fDone.length c5, .slice a6 r.fMap.length c6, .slice a7 r.fSaid.length c7] r [.int .i64 m.fKind, .int .i64 m.fFrom, .int .i64 m.fTo, .int .i64 m.fD.fR, .int .i64 m.fD.fN, .int .i64 m.fC.fKind, .string m.fC.fKey, .string m.fC.fVal, .slice a8 m.fDeps.length c8] m W hr hd hw hw2 d3; rw [d3] at h; exact h
  have HV0 : Hid (msgP r m = (inR m.fFrom 1 r.fN && decide (m.fFrom ≠ r.fId) && decide (m.fD.fR ≤ r.fN) && itemP ⟨m.fD, m.fDeps⟩ && depsN r.fN m.fDeps && kindM r m)) := by unfold Hid msgP headM; rw [d3, decide_eq_true rfl, Bool.and_true]
  have HD3 := Hid.mk d3
  rw [d3] at y2 hwq
  rw [d3]
  clear d3
  by_cases d2 : m.fFrom = r.fId
  · have HV : Hid (msgP r m = false) := by unfold Hid; rw [HV0.out]; simp [d2]
    rw [d2] at y1 hwq
    rw [d2]
    clear d2
    go_wp2_with (rw [← hwq])
    go_ret
    exact ⟨by rw [HV.out]; rfl, by first | exact hbq | (rw [← hwq]; exact hbq)⟩
  have d2' : decide (m.fFrom = r.fId) = false := decide_eq_false d2
  go_wp2_with (rw [← hwq])
  try rw [← hwq]
  clear hwq
  refine (oneOf_any m.fFrom r.fN wq).mono ?_
  rintro e w0 ⟨rfl, hw0⟩
  subst hw0
  by_cases d1 : inR m.fFrom 1 r.fN = true
  rotate_left
  · have d1' := Bool.eq_false_iff.2 d1
    rw [d1']
    have HV : Hid (msgP r m = false) := by unfold Hid; rw [HV0.out, d1']; rfl
    clear d1 d1'
    go_wp2_with fail
    go_ret
    exact ⟨by rw [HV.out]; rfl, hbq⟩
  rw [d1]
  have HV1 : Hid (msgP r m = (decide (m.fD.fR ≤ r.fN) && itemP ⟨m.fD, m.fDeps⟩ && depsN r.fN m.fDeps && kindM r m)) := by unfold Hid; rw [HV0.out, d1, decide_eq_true d2]; rfl
  clear d1 HV0
  go_wp2_with fail
  refine (hKF w0 HB.out.r HB.out.m).mono ?_
  rintro e w1 ⟨rfl, hx1⟩
  have HB1 := Hid.mk (HB.out.under hx1)
  have hb1 := bthen hbq hx1
  clear x0 x1 x2 x3 x4 x5 x6 x7 y0 y1 y2 y3 y4 y5 y6 y7 y8 hl0 hl1
  have x0 := HB1.out.rep.2 0 _ rfl
  have x1 := HB1.out.rep.2 1 _ rfl
  have x2 := HB1.out.rep.2 2 _ rfl
  have x3 := HB1.out.rep.2 3 _ rfl
  have x4 := HB1.out.rep.2 4 _ rfl
  have x5 := HB1.out.rep.2 5 _ rfl
  have x6 := HB1.out.rep.2 6 _ rfl
  have x7 := HB1.out.rep.2 7 _ rfl
  have y0 := HB1.out.msg.2 0 _ rfl
  have y1 := HB1.out.msg.2 1 _ rfl
  have y2 := HB1.out.msg.2 2 _ rfl
  have y3 := HB1.out.msg.2 3 _ rfl
  have y4 := HB1.out.msg.2 4 _ rfl
  have y5 := HB1.out.msg.2 5 _ rfl
  have y6 := HB1.out.msg.2 6 _ rfl
  have y7 := HB1.out.msg.2 7 _ rfl
  have y8 := HB1.out.msg.2 8 _ rfl
  have hl0 := HB1.out.rep.1
  have hl1 := HB1.out.msg.1
  rw [HD3.out] at y2
  by_cases d4 : kindM r m = true
  rotate_left
  · have d4' := Bool.eq_false_iff.2 d4
    rw [d4']
    have HV : Hid (msgP r m = false) := by unfold Hid; rw [HV1.out, d4', Bool.and_false]
    clear d4 d4'
    go_wp2_with fail
    go_ret
    exact ⟨by rw [HV.out]; rfl, hb1⟩
  rw [d4]
  have HV2 : Hid (msgP r m = (decide (m.fD.fR ≤ r.fN) && itemP ⟨m.fD, m.fDeps⟩ && depsN r.fN m.fDeps)) := by unfold Hid; rw [HV1.out, d4, Bool.and_true]
  clear d4 HV1
  go_wp2_with fail
  refine (itemOk_any [.int .i64 m.fD.fR, .int .i64 m.fD.fN, .slice a8 m.fDeps.length c8] (⟨m.fD, m.fDeps⟩ : MItem) w1 HB1.out.item hwd).mono ?_
  rintro e w2 ⟨rfl, hx2⟩
  have HB2 := Hid.mk (HB1.out.under hx2)
  have hb2 := bthen hb1 hx2
  clear x0 x1 x2 x3 x4 x5 x6 x7 y0 y1 y2 y3 y4 y5 y6 y7 y8 hl0 hl1
  have x0 := HB2.out.rep.2 0 _ rfl
  have x1 := HB2.out.rep.2 1 _ rfl
  have x2 := HB2.out.rep.2 2 _ rfl
  have x3 := HB2.out.rep.2 3 _ rfl
  have x4 := HB2.out.rep.2 4 _ rfl
  have x5 := HB2.out.rep.2 5 _ rfl
  have x6 := HB2.out.rep.2 6 _ rfl
  have x7 := HB2.out.rep.2 7 _ rfl
  have y0 := HB2.out.msg.2 0 _ rfl
  have y1 := HB2.out.msg.2 1 _ rfl
  have y2 := HB2.out.msg.2 2 _ rfl
  have y3 := HB2.out.msg.2 3 _ rfl
  have y4 := HB2.out.msg.2 4 _ rfl
  have y5 := HB2.out.msg.2 5 _ rfl
  have y6 := HB2.out.msg.2 6 _ rfl
  have y7 := HB2.out.msg.2 7 _ rfl
  have y8 := HB2.out.msg.2 8 _ rfl
  have hl0 := HB2.out.rep.1
  have hl1 := HB2.out.msg.1
  rw [HD3.out] at y2
  by_cases d5 : itemP ⟨m.fD, m.fDeps⟩ = true
  rotate_left
  · have d5' := Bool.eq_false_iff.2 d5
    rw [d5']
    have HV : Hid (msgP r m = false) := by unfold Hid; rw [HV2.out, d5', Bool.and_false]; rfl
    clear d5 d5'
    go_wp2_with fail
    go_ret
    exact ⟨by rw [HV.out]; rfl, hb2⟩
  rw [d5]
  have HDI : Hid (depsI r.fN m.fDeps = depsN r.fN m.fDeps) := deps_same d5 r.fN
  have HRI : Hid (inR m.fD.fR 1 r.fN = decide (m.fD.fR ≤ r.fN)) := by
    unfold Hid inR
    have h : dotOkP m.fD = true := by unfold itemP at d5; simp only [Bool.and_eq_true] at d5; exact d5.1.1
    unfold dotOkP at h
    rw [Bool.and_eq_true] at h
    have h2 := (of_decide_eq_true h.1).1
    exact decide_eq_decide.2 ⟨fun g => g.2, fun g => ⟨h2, g⟩⟩
  have HV3 : Hid (msgP r m = (inR m.fD.fR 1 r.fN && depsI r.fN m.fDeps)) := by unfold Hid; rw [HV2.out, d5, HDI.out, HRI.out, Bool.and_true]
  clear d5 HV2 HDI HRI
  go_wp2_with fail
  refine (stranger_any m.fD r.fN w.heap.size w2 hl0 x1).mono ?_
  rintro e w3 ⟨rfl, hx3⟩
  have HB3 := Hid.mk (HB2.out.under hx3)
  have hb3 := bthen hb2 hx3
  clear x0 x1 x2 x3 x4 x5 x6 x7 y0 y1 y2 y3 y4 y5 y6 y7 y8 hl0 hl1
  have x0 := HB3.out.rep.2 0 _ rfl
  have x1 := HB3.out.rep.2 1 _ rfl
  have x2 := HB3.out.rep.2 2 _ rfl
  have x3 := HB3.out.rep.2 3 _ rfl
  have x4 := HB3.out.rep.2 4 _ rfl
  have x5 := HB3.out.rep.2 5 _ rfl
  have x6 := HB3.out.rep.2 6 _ rfl
  have x7 := HB3.out.rep.2 7 _ rfl
  have y0 := HB3.out.msg.2 0 _ rfl
  have y1 := HB3.out.msg.2 1 _ rfl
  have y2 := HB3.out.msg.2 2 _ rfl
  have y3 := HB3.out.msg.2 3 _ rfl
  have y4 := HB3.out.msg.2 4 _ rfl
  have y5 := HB3.out.msg.2 5 _ rfl
  have y6 := HB3.out.msg.2 6 _ rfl
  have y7 := HB3.out.msg.2 7 _ rfl
  have y8 := HB3.out.msg.2 8 _ rfl
  have hl0 := HB3.out.rep.1
  have hl1 := HB3.out.msg.1
  rw [HD3.out] at y2
  by_cases d6 : inR m.fD.fR 1 r.fN = true
  rotate_left
  · have d6' := Bool.eq_false_iff.2 d6
    rw [d6']
    have HV : Hid (msgP r m = false) := by unfold Hid; rw [HV3.out, d6']; rfl
    clear d6 d6'
    go_wp2_with fail
    go_ret
    exact ⟨by rw [HV.out]; rfl, hb3⟩
  rw [d6]
  have HV4 : Hid (msgP r m = depsI r.fN m.fDeps) := by unfold Hid; rw [HV3.out, d6]; rfl
  clear d6 HV3
  go_wp2_with fail
  refine (contS_any a8 _ c8 m.fDeps r.fN w.heap.size w3 rfl hwd HB3.out.deps hl0 x1).mono ?_
  rintro e w4 ⟨rfl, hx4⟩
  go_wp2_with fail
  go_ret
  exact ⟨by rw [HV4.out]; simp [d2], bthen hb3 hx4⟩

end Go.Proofs.Ytnomigomjhhccaa
