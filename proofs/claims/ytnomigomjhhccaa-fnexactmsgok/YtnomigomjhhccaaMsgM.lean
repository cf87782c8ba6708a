/-
  Words for a replica, plainly: which are right; the specification's two helpers.
-/
import Derived.Test.YtnomigomjhhccaaRegK
import Derived.Test.YtnomigomjhhccaaGraS
import Derived.Test.YtnomigomjhhccaaCmds
import Derived.Test.YtnomigomjhhccaaRDatZ
namespace Go.Proofs.Ytnomigomjhhccaa
open Go.RowKit Go.Maps
set_option linter.unusedVariables false
set_option linter.unusedSimpArgs false
set_option maxRecDepth 10000
abbrev qc83_89_4_0 : Oper := ⟨some 13, .fieldAddr 37 (.tmp 2) 3, 0, "l09_replica.go:24", #[], none⟩
abbrev qc83_89_4_1 : Oper := ⟨some 14, .load 31 (.tmp 13), 31, "l09_replica.go:24", #[⟨0, .data⟩], none⟩
abbrev qc83_89_4_2 : Oper := ⟨some 15, .move (.tmp 5), 3, "l09_replica.go:24", #[], none⟩
abbrev qc83_89_4_3 : Oper := ⟨some 16, .indexAddr 31 (.tmp 14) (.tmp 15), 0, "l09_replica.go:24", #[⟨1, .data⟩, ⟨2, .data⟩], none⟩
abbrev qc83_89_4_4 : Oper := ⟨some 17, .fieldAddr 134 (.tmp 16) 0, 0, "l09_replica.go:24", #[⟨3, .data⟩], none⟩
abbrev qc83_89_4_5 : Oper := ⟨some 18, .load 45 (.tmp 17), 45, "l09_replica.go:24", #[⟨4, .data⟩], none⟩
abbrev qc83_89_4_6 : Oper := ⟨some 19, .load 45 (.tmp 3), 45, "l09_replica.go:24", #[], none⟩
abbrev qc83_89_4_7 : Oper := ⟨some 20, .binOp .eql 45 (.tmp 18) (.tmp 19) 45, 4, "l09_replica.go:24", #[⟨5, .data⟩, ⟨6, .data⟩], none⟩

def depsN (n : Int) (l : List MDot) : Bool := l.all (fun d => decide (d.fR ≤ n))
def depsI (n : Int) (l : List MDot) : Bool := l.all (fun d => inR d.fR 1 n)
def hasR (l : List MRec) (d : MDot) : Bool := l.any (fun x => sameD x.fD d)
def noCmd (c : MCmd) : Bool := decide (c.fKind = 0) && decide (c.fKey.size = 0) && decide (c.fVal.size = 0)
def kindM (r : MReplica) (m : MMsg) : Bool := bif decide (m.fKind = 1 ∨ m.fKind = 3) then decide (m.fFrom = m.fD.fR) && cmdOkP m.fC else bif decide (m.fKind = 2) then decide (m.fD.fR = r.fId) && hasR r.fRecs m.fD && noCmd m.fC else false
def headM (r : MReplica) (m : MMsg) : Bool := inR m.fFrom 1 r.fN && decide (m.fFrom ≠ m.fTo) && decide (m.fTo = r.fId) && decide (m.fD.fR ≤ r.fN) && itemP ⟨m.fD, m.fDeps⟩ && depsN r.fN m.fDeps
def msgP (r : MReplica) (m : MMsg) : Bool := headM r m && kindM r m

theorem hasR_yes {l : List MRec} {d : MDot} {k : Nat} (hk : k < l.length) (h : sameD l[k].fD d = true) : hasR l d = true := by
  unfold hasR; rw [List.any_eq_true]; exact ⟨l[k], List.getElem_mem hk, h⟩
theorem hasR_no {l : List MRec} {d : MDot} (h : ∀ j, (hj : j < l.length) → sameD l[j].fD d = false) : hasR l d = false := by
  unfold hasR; rw [List.any_eq_false]
  intro x hx
  obtain ⟨j, hj, rfl⟩ := List.mem_iff_getElem.1 hx
  rw [h j hj]; decide
theorem all_yes {α : Type} {p : α → Bool} {l : List α} (h : ∀ j, (hj : j < l.length) → p l[j] = true) : l.all p = true := by
  rw [List.all_eq_true]
  intro x hx
  obtain ⟨j, hj, rfl⟩ := List.mem_iff_getElem.1 hx
  exact h j hj
theorem all_no {α : Type} {p : α → Bool} {l : List α} {k : Nat} (hk : k < l.length) (h : p l[k] = false) : l.all p = false := by
  rw [List.all_eq_false]
  exact ⟨l[k], List.getElem_mem hk, by rw [h]; decide⟩
theorem deps_same {m : MItem} (h : itemP m = true) (n : Int) : depsI n m.fDeps = depsN n m.fDeps := by
  unfold depsI depsN
  have h1 : ∀ j, (hj : j < m.fDeps.length) → dotOkP m.fDeps[j] = true := by
    intro j hj
    unfold itemP depsP upOk at h
    simp only [Bool.and_eq_true] at h
    have h2 := (List.all_eq_true.1 h.1.2.2) j (List.mem_range.2 hj)
    unfold stepOk at h2
    rw [List.getElem?_eq_getElem hj] at h2
    simp only [Bool.and_eq_true] at h2
    exact h2.1
  rcases hN : m.fDeps.all (fun d => decide (d.fR ≤ n)) with _ | _
  · rw [List.all_eq_false] at hN ⊢
    obtain ⟨x, hx, hxn⟩ := hN
    refine ⟨x, hx, fun hc => hxn (decide_eq_true ?_)⟩
    exact (of_decide_eq_true hc).2
  · rw [List.all_eq_true] at hN ⊢
    intro x hx
    have h3 := of_decide_eq_true (hN x hx)
    obtain ⟨j, hj, rfl⟩ := List.mem_iff_getElem.1 hx
    have h4 := h1 j hj
    unfold dotOkP at h4
    rw [Bool.and_eq_true] at h4
    exact decide_eq_true ⟨(of_decide_eq_true h4.1).1, h3⟩

set_option maxHeartbeats 1000000 in
theorem l9Deps_any (a : Option Addr) (n cap : Nat) (l : List MDot) (q : Int) (w : World) (hx : l.length = n) (hn : n ≤ 1048576) (hr : LeafL 2 rDot w.heap.size w a cap l) :
    Calls Try.prog 88 #[.int .i64 q, .slice a n cap] w fun e w' => e = .returned (.bool (depsN q l)) ∧ w' = w := by
  have HX := Hid.mk hx
  have HL := Hid.mk hr
  clear hx hr
  go_enter Try.func88, Try.ntmps88
  go_wp2_with fail
  go_loopw [5] (fun i wr => ∃ k : Nat, k ≤ n ∧ i = .int .i64 k ∧ Hid (∀ j, (hj : j < l.length) → j < k → decide (l[j].fR ≤ q) = true) ∧ wr = w) (fun i _ => n - (intOf i).toNat)
  case atStart => exact ⟨0, Nat.zero_le _, rfl, Hid.mk (fun j _ h => absurd h (Nat.not_lt_zero j)), rfl⟩
  case round =>
    obtain ⟨k, hk, rfl, HI, hwr⟩ := hrel
    subst hwr
    by_cases hlt : k < n
    · have hkl : k < l.length := by rw [HX.out]; exact hlt
      obtain ⟨b1, o1, rfl, hB, cs, hcl, hcell, rfl, g0, g1, _⟩ := HL.out.2.2 k hkl
      have k0 := hcell 0 _ rfl
      rw [Nat.add_zero] at k0
      have HY : Hid (decide (l[k].fR ≤ q) = false → depsN q l = false) := fun h => all_no hkl h
      have HN : Hid (decide (l[k].fR ≤ q) = true → ∀ j, (hj : j < l.length) → j < k + 1 → decide (l[j].fR ≤ q) = true) := fun h j hj hjk => by
        rcases Nat.lt_succ_iff_lt_or_eq.1 hjk with g | g
        · exact HI.out j hj g
        · subst g; exact h
      clear hcell hcl HI
      generalize l[k] = x at *
      by_cases hs : x.fR ≤ q
      · have HI := Hid.mk (HN.out (decide_eq_true hs))
        have hs2 : ¬ q < x.fR := by omega
        clear HY HN
        go_wp2_with fail
        go_roundw
        case rel => exact ⟨k + 1, by omega, by go_num, HI, by first | rfl | trivial⟩
        case measure => simp [intOf]; omega
      · have HV := Hid.mk (HY.out (decide_eq_false hs))
        have hs2 : q < x.fR := by omega
        clear HY HN
        go_wp2_with fail
        go_ret
        exact ⟨by rw [HV.out]; rfl, rfl⟩
    · have HV : Hid (depsN q l = true) := all_yes (fun j hj => HI.out j hj (by have := HX.out; omega))
      go_wp2_with fail
      go_ret
      exact ⟨by rw [HV.out]; rfl, rfl⟩

set_option maxHeartbeats 2000000 in
theorem l9At_any (cs : List Value) (r : MReplica) (ds : List Value) (d : MDot) (w : World) (hr : rReplica w.heap.size w cs r) (hn : r.fRecs.length ≤ 1048576) (hd : rDot w.heap.size w ds d) :
    Calls Try.prog 89 #[.agg cs.toArray, .agg ds.toArray] w fun e w' => (∃ z : Int, Hid (hasR r.fRecs d = decide (0 ≤ z)) ∧ e = .returned (.int .i64 z)) ∧ Below w.heap.size w w' := by
  obtain ⟨a3, c3, a4, c4, a5, c5, a6, c6, a7, c7, rfl, h0, h1, h2, h3, h4, h5, h6, h7, _⟩ := hr
  obtain ⟨rfl, d0, d1, _⟩ := hd
  have HL := Hid.mk h3
  clear h4 h5 h6 h7 h3
  obtain ⟨l, hl⟩ : ∃ l, l = r.fRecs := ⟨_, rfl⟩
  rw [← hl] at HL hn ⊢
  obtain ⟨n, hx⟩ : ∃ n, n = l.length := ⟨_, rfl⟩
  rw [← hx] at hn ⊢
  have HX := Hid.mk hx.symm
  clear hx hl
  go_enter Try.func89, Try.ntmps89
  go_wp2_with fail
  obtain ⟨wq, hwq⟩ : ∃ wq, wq = (w.alloc (.cells #[.int .i64 r.fId, .int .i64 r.fN, .int .i64 r.fNext, .slice a3 n c3, .slice a4 r.fAcks.length c4, .slice a5 r.fDone.length c5, .slice a6 r.fMap.length c6, .slice a7 r.fSaid.length c7] 37)).alloc (.cells #[.int .i64 d.fR, .int .i64 d.fN] 45) := ⟨_, rfl⟩
  have hbq : Below w.heap.size w wq := by rw [hwq]; exact ((Below.refl _ _).alloc (Nat.le_refl _) _).alloc (by simp) _
  have hby : Bx wq w.heap.size [.int .i64 r.fId, .int .i64 r.fN, .int .i64 r.fNext, .slice a3 n c3, .slice a4 r.fAcks.length c4, .slice a5 r.fDone.length c5, .slice a6 r.fMap.length c6, .slice a7 r.fSaid.length c7] := by rw [hwq]; exact (Bx.new _ _ _).alloc _
  have hbx : Bx wq (w.heap.size + 1) [.int .i64 d.fR, .int .i64 d.fN] := by rw [hwq]; have h := Bx.new (w.alloc (.cells #[.int .i64 r.fId, .int .i64 r.fN, .int .i64 r.fNext, .slice a3 n c3, .slice a4 r.fAcks.length c4, .slice a5 r.fDone.length c5, .slice a6 r.fMap.length c6, .slice a7 r.fSaid.length c7] 37)) [.int .i64 d.fR, .int .i64 d.fN] 45; simpa using h
  rw [← hwq]
  clear hwq
  go_loopw [5] (fun i wr => ∃ k : Nat, k ≤ n ∧ i = .int .i64 k ∧ Hid (∀ j, (hj : j < l.length) → j < k → sameD l[j].fD d = false) ∧ Below wq.heap.size wq wr) (fun i _ => n - (intOf i).toNat)
  case atStart => exact ⟨0, Nat.zero_le _, rfl, Hid.mk (fun j _ h => absurd h (Nat.not_lt_zero j)), Below.refl _ _⟩
  case round =>
    obtain ⟨k, hk, rfl, HI, hbk⟩ := hrel
    have hbw := bthen hbq hbk
    have z3 : ∀ W, Below wr.heap.size wr W → W.cell? ⟨w.heap.size, 3, none⟩ = some (.slice a3 n c3) := fun W h => ((hby.under hbk).under h).2 3 _ rfl
    have z3' := z3 _ (Below.refl _ _)
    have y0 : ∀ W, Below wr.heap.size wr W → W.cell? ⟨w.heap.size + 1, 0, none⟩ = some (.int .i64 d.fR) := fun W h => ((hbx.under hbk).under h).2 0 _ rfl
    have y1 : ∀ W, Below wr.heap.size wr W → W.cell? ⟨w.heap.size + 1, 1, none⟩ = some (.int .i64 d.fN) := fun W h => ((hbx.under hbk).under h).2 1 _ rfl
    by_cases hlt : k < n
    · have hkl : k < l.length := by rw [HX.out]; exact hlt
      obtain ⟨b1, o1, rfl, hB, cs, hcl, hcell, hrec⟩ := (HL.out.2.2.below rRec_good hbw) k hkl
      obtain ⟨ae, ce, rfl, e0, e1, _⟩ := hrec
      have k0 := hcell 0 _ rfl
      have k1 := hcell 1 _ rfl
      rw [Nat.add_zero] at k0
      have HY : Hid (sameD l[k].fD d = true → hasR l d = true) := fun h => hasR_yes hkl h
      have HN : Hid (sameD l[k].fD d = false → ∀ j, (hj : j < l.length) → j < k + 1 → sameD l[j].fD d = false) := fun h j hj hjk => by
        rcases Nat.lt_succ_iff_lt_or_eq.1 hjk with g | g
        · exact HI.out j hj g
        · subst g; exact h
      have hB' : b1 < wr.heap.size := Nat.lt_of_lt_of_le hB hbw.size
      have k2 : ∀ W, Below wr.heap.size wr W → W.cell? ⟨b1, o1 + k * 7, none⟩ = some (.int .i64 l[k].fD.fR) := fun W h => (h.cell (p := ⟨b1, o1 + k * 7, none⟩) hB').trans k0
      have k3 : ∀ W, Below wr.heap.size wr W → W.cell? ⟨b1, o1 + k * 7 + 1, none⟩ = some (.int .i64 l[k].fD.fN) := fun W h => (h.cell (p := ⟨b1, o1 + k * 7 + 1, none⟩) hB').trans k1
      have hk1 : (0 : Int) ≤ (k : Int) := by omega
      have hk2 : (k : Int) < (n : Int) := by omega
      clear hcell hcl HI k0 k1
      generalize l[k].fD = x at *
      by_cases hs : sameD x d = true
      · have HV := Hid.mk (HY.out hs)
        have hq1 := (sameD_eq hs).1
        have hq2 := (sameD_eq hs).2
        clear HY HN hs
        rw [hq1] at k2
        rw [hq2] at k3
        clear hq1 hq2
        go_wp2_with fail
        refine wp_region_held_drew (S := fun W => Below wr.heap.size wr W) (by kernel_rfl) (Below.drew (Below.refl _ _)) (fun hHeld => ?_)
        refine tk 0 qc83_89_4_0 (some 13) (v := ?v1) rfl rfl (by kernel_rfl) hHeld (by rfl) (fun _ _ _ x => x) (fun w h => ?y1) ?_; (case y1 => (try dsimp only at h); go_simp; try (with_reducible rfl)); try simp only [Act.put, sa, s0, s1]
        refine tk 1 qc83_89_4_1 (some 14) (v := ?v2) rfl rfl (by kernel_rfl) hHeld (by rfl) (fun _ _ _ x => x) (fun w h => ?y2) ?_; (case y2 => (try dsimp only at h); go_simp; try (with_reducible rfl)); try simp only [Act.put, sa, s0, s1]
        refine tk 2 qc83_89_4_2 (some 15) (v := ?v3) rfl rfl (by kernel_rfl) hHeld (by rfl) (fun _ _ _ x => x) (fun w h => ?y3) ?_; (case y3 => (try dsimp only at h); go_simp; try (with_reducible rfl)); try simp only [Act.put, sa, s0, s1]
        refine tk 3 qc83_89_4_3 (some 16) (v := ?v4) rfl rfl (by kernel_rfl) hHeld (by rfl) (fun _ _ _ x => x) (fun w h => ?y4) ?_; (case y4 => (try dsimp only at h); go_simp; try (with_reducible rfl)); try simp only [Act.put, sa, s0, s1]
        refine tk 4 qc83_89_4_4 (some 17) (v := ?v5) rfl rfl (by kernel_rfl) hHeld (by rfl) (fun _ _ _ x => x) (fun w h => ?y5) ?_; (case y5 => (try dsimp only at h); go_simp; try (with_reducible rfl)); try simp only [Act.put, sa, s0, s1]
        refine tk 5 qc83_89_4_5 (some 18) (v := ?v6) rfl rfl (by kernel_rfl) hHeld (by rfl) (fun _ _ _ x => x) (fun w h => ?y6) ?_; (case y6 => (try dsimp only at h); go_simp; try (with_reducible rfl)); try simp only [Act.put, sa, s0, s1]
        refine tk 6 qc83_89_4_6 (some 19) (v := ?v7) rfl rfl (by kernel_rfl) hHeld (by rfl) (fun _ _ _ x => x) (fun w h => ?y7) ?_; (case y7 => (try dsimp only at h); go_simp; try (with_reducible rfl)); try simp only [Act.put, sa, s0, s1]
        refine tk 7 qc83_89_4_7 (some 20) (v := ?v8) rfl rfl (by kernel_rfl) hHeld (by rfl) (fun _ _ _ x => x) (fun w h => ?y8) ?_; (case y8 => (try dsimp only at h); go_simp; try (with_reducible rfl)); try simp only [Act.put, sa, s0, s1]
        refine wpAnyH_done (by kernel_rfl) ?_ _
        go_wp2_with fail
        go_ret
        exact ⟨⟨(k : Int), by unfold Hid; rw [HV.out]; simp, rfl⟩, bthen hbw hHeld⟩
      · have HI := Hid.mk (HN.out (Bool.eq_false_iff.2 hs))
        rcases sameD_ne hs with hq | ⟨hq, hp⟩
        · have hq' : decide (x.fR = d.fR) = false := decide_eq_false hq
          have hr1 : ¬ d.fR = x.fR := fun h => hq h.symm
          have hr1' : decide (d.fR = x.fR) = false := decide_eq_false hr1
          clear HY HN hs
          go_wp2_with fail
          refine wp_region_held_drew (S := fun W => Below wr.heap.size wr W) (by kernel_rfl) (Below.drew (Below.refl _ _)) (fun hHeld => ?_)
          refine tk 0 qc83_89_4_0 (some 13) (v := ?v9) rfl rfl (by kernel_rfl) hHeld (by rfl) (fun _ _ _ x => x) (fun w h => ?y9) ?_; (case y9 => (try dsimp only at h); go_simp; try (with_reducible rfl)); try simp only [Act.put, sa, s0, s1]
          refine tk 1 qc83_89_4_1 (some 14) (v := ?v10) rfl rfl (by kernel_rfl) hHeld (by rfl) (fun _ _ _ x => x) (fun w h => ?y10) ?_; (case y10 => (try dsimp only at h); go_simp; try (with_reducible rfl)); try simp only [Act.put, sa, s0, s1]
          refine tk 2 qc83_89_4_2 (some 15) (v := ?v11) rfl rfl (by kernel_rfl) hHeld (by rfl) (fun _ _ _ x => x) (fun w h => ?y11) ?_; (case y11 => (try dsimp only at h); go_simp; try (with_reducible rfl)); try simp only [Act.put, sa, s0, s1]
          refine tk 3 qc83_89_4_3 (some 16) (v := ?v12) rfl rfl (by kernel_rfl) hHeld (by rfl) (fun _ _ _ x => x) (fun w h => ?y12) ?_; (case y12 => (try dsimp only at h); go_simp; try (with_reducible rfl)); try simp only [Act.put, sa, s0, s1]
          refine tk 4 qc83_89_4_4 (some 17) (v := ?v13) rfl rfl (by kernel_rfl) hHeld (by rfl) (fun _ _ _ x => x) (fun w h => ?y13) ?_; (case y13 => (try dsimp only at h); go_simp; try (with_reducible rfl)); try simp only [Act.put, sa, s0, s1]
          refine tk 5 qc83_89_4_5 (some 18) (v := ?v14) rfl rfl (by kernel_rfl) hHeld (by rfl) (fun _ _ _ x => x) (fun w h => ?y14) ?_; (case y14 => (try dsimp only at h); go_simp; try (with_reducible rfl)); try simp only [Act.put, sa, s0, s1]
          refine tk 6 qc83_89_4_6 (some 19) (v := ?v15) rfl rfl (by kernel_rfl) hHeld (by rfl) (fun _ _ _ x => x) (fun w h => ?y15) ?_; (case y15 => (try dsimp only at h); go_simp; try (with_reducible rfl)); try simp only [Act.put, sa, s0, s1]
          refine tk 7 qc83_89_4_7 (some 20) (v := ?v16) rfl rfl (by kernel_rfl) hHeld (by rfl) (fun _ _ _ x => x) (fun w h => ?y16) ?_; (case y16 => (try dsimp only at h); go_simp; try (with_reducible rfl)); try simp only [Act.put, sa, s0, s1]
          refine wpAnyH_done (by kernel_rfl) ?_ _
          go_wp2_with fail
          go_roundw
          case rel => exact ⟨k + 1, by omega, by go_num, HI, bthen hbk hHeld⟩
          case measure => simp [intOf]; omega
        · have hq' : decide (x.fN = d.fN) = false := decide_eq_false hp
          have hr1 : ¬ d.fN = x.fN := fun h => hp h.symm
          have hr1' : decide (d.fN = x.fN) = false := decide_eq_false hr1
          clear HY HN hs
          rw [hq] at k2
          clear hq
          go_wp2_with fail
          refine wp_region_held_drew (S := fun W => Below wr.heap.size wr W) (by kernel_rfl) (Below.drew (Below.refl _ _)) (fun hHeld => ?_)
          refine tk 0 qc83_89_4_0 (some 13) (v := ?v17) rfl rfl (by kernel_rfl) hHeld (by rfl) (fun _ _ _ x => x) (fun w h => ?y17) ?_; (case y17 => (try dsimp only at h); go_simp; try (with_reducible rfl)); try simp only [Act.put, sa, s0, s1]
          refine tk 1 qc83_89_4_1 (some 14) (v := ?v18) rfl rfl (by kernel_rfl) hHeld (by rfl) (fun _ _ _ x => x) (fun w h => ?y18) ?_; (case y18 => (try dsimp only at h); go_simp; try (with_reducible rfl)); try simp only [Act.put, sa, s0, s1]
          refine tk 2 qc83_89_4_2 (some 15) (v := ?v19) rfl rfl (by kernel_rfl) hHeld (by rfl) (fun _ _ _ x => x) (fun w h => ?y19) ?_; (case y19 => (try dsimp only at h); go_simp; try (with_reducible rfl)); try simp only [Act.put, sa, s0, s1]
          refine tk 3 qc83_89_4_3 (some 16) (v := ?v20) rfl rfl (by kernel_rfl) hHeld (by rfl) (fun _ _ _ x => x) (fun w h => ?y20) ?_; (case y20 => (try dsimp only at h); go_simp; try (with_reducible rfl)); try simp only [Act.put, sa, s0, s1]
          refine tk 4 qc83_89_4_4 (some 17) (v := ?v21) rfl rfl (by kernel_rfl) hHeld (by rfl) (fun _ _ _ x => x) (fun w h => ?y21) ?_; (case y21 => (try dsimp only at h); go_simp; try (with_reducible rfl)); try simp only [Act.put, sa, s0, s1]
          refine tk 5 qc83_89_4_5 (some 18) (v := ?v22) rfl rfl (by kernel_rfl) hHeld (by rfl) (fun _ _ _ x => x) (fun w h => ?y22) ?_; (case y22 => (try dsimp only at h); go_simp; try (with_reducible rfl)); try simp only [Act.put, sa, s0, s1]
          refine tk 6 qc83_89_4_6 (some 19) (v := ?v23) rfl rfl (by kernel_rfl) hHeld (by rfl) (fun _ _ _ x => x) (fun w h => ?y23) ?_; (case y23 => (try dsimp only at h); go_simp; try (with_reducible rfl)); try simp only [Act.put, sa, s0, s1]
          refine tk 7 qc83_89_4_7 (some 20) (v := ?v24) rfl rfl (by kernel_rfl) hHeld (by rfl) (fun _ _ _ x => x) (fun w h => ?y24) ?_; (case y24 => (try dsimp only at h); go_simp; try (with_reducible rfl)); try simp only [Act.put, sa, s0, s1]
          refine wpAnyH_done (by kernel_rfl) ?_ _
          go_wp2_with fail
          go_roundw
          case rel => exact ⟨k + 1, by omega, by go_num, HI, bthen hbk hHeld⟩
          case measure => simp [intOf]; omega
    · have HV : Hid (hasR l d = false) := hasR_no (fun j hj => HI.out j hj (by have := HX.out; omega))
      go_wp2_with fail
      go_ret
      exact ⟨⟨-1, by unfold Hid; rw [HV.out]; rfl, rfl⟩, hbw⟩

/-- A replica and a word in their boxes, and what is read of them. -/
structure InBox (w : World) (b : Nat) (r : MReplica) (m : MMsg) (a3 : Option Addr) (c3 : Nat) (a4 : Option Addr) (c4 : Nat) (a5 : Option Addr) (c5 : Nat) (a6 : Option Addr) (c6 : Nat) (a7 : Option Addr) (c7 : Nat) (a8 : Option Addr) (c8 : Nat) : Prop where
  rep : Bx w b [.int .i64 r.fId, .int .i64 r.fN, .int .i64 r.fNext, .slice a3 r.fRecs.length c3, .slice a4 r.fAcks.length c4, .slice a5 r.fDone.length c5, .slice a6 r.fMap.length c6, .slice a7 r.fSaid.length c7]
  msg : Bx w (b + 1) [.int .i64 m.fKind, .int .i64 m.fFrom, .int .i64 m.fTo, .int .i64 m.fD.fR, .int .i64 m.fD.fN, .int .i64 m.fC.fKind, .string m.fC.fKey, .string m.fC.fVal, .slice a8 m.fDeps.length c8]
  r : rReplica w.heap.size w [.int .i64 r.fId, .int .i64 r.fN, .int .i64 r.fNext, .slice a3 r.fRecs.length c3, .slice a4 r.fAcks.length c4, .slice a5 r.fDone.length c5, .slice a6 r.fMap.length c6, .slice a7 r.fSaid.length c7] r
  m : rMsg w.heap.size w [.int .i64 m.fKind, .int .i64 m.fFrom, .int .i64 m.fTo, .int .i64 m.fD.fR, .int .i64 m.fD.fN, .int .i64 m.fC.fKind, .string m.fC.fKey, .string m.fC.fVal, .slice a8 m.fDeps.length c8] m
theorem InBox.under {w w' : World} {b : Nat} {r : MReplica} {m : MMsg} {a3 : Option Addr} {c3 : Nat} {a4 : Option Addr} {c4 : Nat} {a5 : Option Addr} {c5 : Nat} {a6 : Option Addr} {c6 : Nat} {a7 : Option Addr} {c7 : Nat} {a8 : Option Addr} {c8 : Nat} (h : InBox w b r m a3 c3 a4 c4 a5 c5 a6 c6 a7 c7 a8 c8) (hb : Below w.heap.size w w') : InBox w' b r m a3 c3 a4 c4 a5 c5 a6 c6 a7 c7 a8 c8 :=
  ⟨h.rep.under hb, h.msg.under hb, rReplica_good.mono (rReplica_good.below h.r hb) hb.size, rMsg_good.mono (rMsg_good.below h.m hb) hb.size⟩
theorem InBox.new {w : World} {r : MReplica} {m : MMsg} {a3 : Option Addr} {c3 : Nat} {a4 : Option Addr} {c4 : Nat} {a5 : Option Addr} {c5 : Nat} {a6 : Option Addr} {c6 : Nat} {a7 : Option Addr} {c7 : Nat} {a8 : Option Addr} {c8 : Nat} (hr : rReplica w.heap.size w [.int .i64 r.fId, .int .i64 r.fN, .int .i64 r.fNext, .slice a3 r.fRecs.length c3, .slice a4 r.fAcks.length c4, .slice a5 r.fDone.length c5, .slice a6 r.fMap.length c6, .slice a7 r.fSaid.length c7] r) (hm : rMsg w.heap.size w [.int .i64 m.fKind, .int .i64 m.fFrom, .int .i64 m.fTo, .int .i64 m.fD.fR, .int .i64 m.fD.fN, .int .i64 m.fC.fKind, .string m.fC.fKey, .string m.fC.fVal, .slice a8 m.fDeps.length c8] m) (t u : TypeId) :
    InBox ((w.alloc (.cells #[.int .i64 r.fId, .int .i64 r.fN, .int .i64 r.fNext, .slice a3 r.fRecs.length c3, .slice a4 r.fAcks.length c4, .slice a5 r.fDone.length c5, .slice a6 r.fMap.length c6, .slice a7 r.fSaid.length c7] t)).alloc (.cells #[.int .i64 m.fKind, .int .i64 m.fFrom, .int .i64 m.fTo, .int .i64 m.fD.fR, .int .i64 m.fD.fN, .int .i64 m.fC.fKind, .string m.fC.fKey, .string m.fC.fVal, .slice a8 m.fDeps.length c8] u)) w.heap.size r m a3 c3 a4 c4 a5 c5 a6 c6 a7 c7 a8 c8 ∧ Below w.heap.size w ((w.alloc (.cells #[.int .i64 r.fId, .int .i64 r.fN, .int .i64 r.fNext, .slice a3 r.fRecs.length c3, .slice a4 r.fAcks.length c4, .slice a5 r.fDone.length c5, .slice a6 r.fMap.length c6, .slice a7 r.fSaid.length c7] t)).alloc (.cells #[.int .i64 m.fKind, .int .i64 m.fFrom, .int .i64 m.fTo, .int .i64 m.fD.fR, .int .i64 m.fD.fN, .int .i64 m.fC.fKind, .string m.fC.fKey, .string m.fC.fVal, .slice a8 m.fDeps.length c8] u)) := by
  have hb : Below w.heap.size w ((w.alloc (.cells #[.int .i64 r.fId, .int .i64 r.fN, .int .i64 r.fNext, .slice a3 r.fRecs.length c3, .slice a4 r.fAcks.length c4, .slice a5 r.fDone.length c5, .slice a6 r.fMap.length c6, .slice a7 r.fSaid.length c7] t)).alloc (.cells #[.int .i64 m.fKind, .int .i64 m.fFrom, .int .i64 m.fTo, .int .i64 m.fD.fR, .int .i64 m.fD.fN, .int .i64 m.fC.fKind, .string m.fC.fKey, .string m.fC.fVal, .slice a8 m.fDeps.length c8] u)) := ((Below.refl _ _).alloc (Nat.le_refl _) _).alloc (by simp) _
  refine ⟨⟨(Bx.new _ _ _).alloc _, ?_, rReplica_good.mono (rReplica_good.below hr hb) hb.size, rMsg_good.mono (rMsg_good.below hm hb) hb.size⟩, hb⟩
  have h := Bx.new (w.alloc (.cells #[.int .i64 r.fId, .int .i64 r.fN, .int .i64 r.fNext, .slice a3 r.fRecs.length c3, .slice a4 r.fAcks.length c4, .slice a5 r.fDone.length c5, .slice a6 r.fMap.length c6, .slice a7 r.fSaid.length c7] t)) [.int .i64 m.fKind, .int .i64 m.fFrom, .int .i64 m.fTo, .int .i64 m.fD.fR, .int .i64 m.fD.fN, .int .i64 m.fC.fKind, .string m.fC.fKey, .string m.fC.fVal, .slice a8 m.fDeps.length c8] u
  simpa using h

theorem InBox.item {w : World} {b : Nat} {r : MReplica} {m : MMsg} {a3 : Option Addr} {c3 : Nat} {a4 : Option Addr} {c4 : Nat} {a5 : Option Addr} {c5 : Nat} {a6 : Option Addr} {c6 : Nat} {a7 : Option Addr} {c7 : Nat} {a8 : Option Addr} {c8 : Nat} (h : InBox w b r m a3 c3 a4 c4 a5 c5 a6 c6 a7 c7 a8 c8) : rItem w.heap.size w [.int .i64 m.fD.fR, .int .i64 m.fD.fN, .slice a8 m.fDeps.length c8] ⟨m.fD, m.fDeps⟩ := by
  obtain ⟨b8, d8, e8, q0, q1, q2, q3, q4, q5, q6, q7, q8, _⟩ := h.m
  simp only [List.cons.injEq, Value.slice.injEq, and_true, true_and] at e8
  obtain ⟨rfl, rfl⟩ := e8
  exact ⟨_, _, rfl, q3, q4, q8, trivial⟩
theorem InBox.deps {w : World} {b : Nat} {r : MReplica} {m : MMsg} {a3 : Option Addr} {c3 : Nat} {a4 : Option Addr} {c4 : Nat} {a5 : Option Addr} {c5 : Nat} {a6 : Option Addr} {c6 : Nat} {a7 : Option Addr} {c7 : Nat} {a8 : Option Addr} {c8 : Nat} (h : InBox w b r m a3 c3 a4 c4 a5 c5 a6 c6 a7 c7 a8 c8) : LeafL 2 rDot w.heap.size w a8 c8 m.fDeps := by
  obtain ⟨b8, d8, e8, q0, q1, q2, q3, q4, q5, q6, q7, q8, _⟩ := h.m
  simp only [List.cons.injEq, Value.slice.injEq, and_true, true_and] at e8
  obtain ⟨rfl, rfl⟩ := e8
  exact q8
theorem InBox.recs {w : World} {b : Nat} {r : MReplica} {m : MMsg} {a3 : Option Addr} {c3 : Nat} {a4 : Option Addr} {c4 : Nat} {a5 : Option Addr} {c5 : Nat} {a6 : Option Addr} {c6 : Nat} {a7 : Option Addr} {c7 : Nat} {a8 : Option Addr} {c8 : Nat} (h : InBox w b r m a3 c3 a4 c4 a5 c5 a6 c6 a7 c7 a8 c8) : LeafL 7 rRec w.heap.size w a3 c3 r.fRecs := by
  obtain ⟨b3, e3, b4, e4, b5, e5, b6, e6, b7, e7, e8, _, _, _, q3, _⟩ := h.r
  simp only [List.cons.injEq, Value.slice.injEq, and_true, true_and] at e8
  obtain ⟨⟨rfl, rfl⟩, _⟩ := e8
  exact q3

end Go.Proofs.Ytnomigomjhhccaa
