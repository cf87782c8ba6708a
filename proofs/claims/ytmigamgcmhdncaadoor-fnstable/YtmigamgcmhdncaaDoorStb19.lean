/-
  Part 20 of the texts that the proof leans on.
-/
import Derived.Test.YtmigamgcmhdncaaDoorStb0
import Derived.Test.YtmigamgcmhdncaaDoorStb18
import Derived.Test.YtmigamgcmhdncaaDoorStb17
set_option linter.unusedVariables false
set_option linter.unusedSimpArgs false
set_option maxRecDepth 10000

namespace Go.Proofs.YtmigamgcmhdncaaDoor
open Go.RowKit
abbrev qce0_26_4_0 : Oper := ⟨some 12, .move (.tmp 0), 26, "laws.go:56", #[], none⟩
abbrev qce0_26_4_1 : Oper := ⟨some 13, .move (.tmp 5), 3, "laws.go:56", #[], none⟩
abbrev qce0_26_4_2 : Oper := ⟨some 14, .indexAddr 26 (.tmp 12) (.tmp 13), 0, "laws.go:56", #[⟨0, .data⟩, ⟨1, .data⟩], none⟩
abbrev qce0_26_4_3 : Oper := ⟨some 15, .load 40 (.tmp 14), 40, "laws.go:56", #[⟨2, .data⟩], none⟩
abbrev qce0_26_4_4 : Oper := ⟨some 16, .load 40 (.tmp 3), 40, "laws.go:56", #[], none⟩
abbrev qce0_26_4_5 : Oper := ⟨some 17, .binOp .eql 40 (.tmp 15) (.tmp 16) 40, 4, "laws.go:56", #[⟨3, .data⟩, ⟨4, .data⟩], none⟩
set_option maxHeartbeats 400000 in
theorem bigG_any (a : Option Addr) (n cap : Nat) (w : World) :
    Calls Tryd.prog 23 #[.slice a n cap] w fun e w' => e = .returned (.bool (decide (1048576 < (n : Int)))) ∧ w' = w := by
  go_enter Tryd.func23, Tryd.ntmps23
  go_wp2_with fail
  go_ret
  exact ⟨rfl, rfl⟩

theorem plc_found {l : List MDot} {d : MDot} {k : Nat} (hk : k < l.length) (h : sameD l[k] d = true) (hn : ∀ j, (hj : j < l.length) → j < k → sameD l[j] d = false) : PlcAt l d (k : Int) :=
  .inr ⟨k, rfl, hk, sameD_iff.1 h, fun j hj hjk e => by have := hn j hj hjk; rw [sameD_iff.2 e] at this; cases this⟩
theorem plc_none {l : List MDot} {d : MDot} (hn : ∀ j, (hj : j < l.length) → sameD l[j] d = false) : PlcAt l d (-1) :=
  .inl ⟨rfl, fun h => by obtain ⟨j, hj, e⟩ := List.mem_iff_getElem.1 h; have := hn j hj; rw [sameD_iff.2 e] at this; cases this⟩

set_option maxHeartbeats 1000000 in
theorem place_any (a : Option Addr) (n cap : Nat) (l : List MDot) (d : MDot) (w : World) (hx : l.length = n) (hn : n ≤ 1048576) (hr : LeafL 2 rDot w.heap.size w a cap l) :
    Calls Tryd.prog 26 #[.slice a n cap, .agg #[.int .i64 d.fR, .int .i64 d.fN]] w fun e w' => (∃ z : Int, Hid (PlcAt l d z) ∧ e = .returned (.int .i64 z)) ∧ Below w.heap.size w w' := by
  have HX := Hid.mk hx
  have HL := Hid.mk hr
  clear hx hr
  go_enter Tryd.func26, Tryd.ntmps26
  go_wp2_with fail
  obtain ⟨wq, hwq⟩ : ∃ wq, wq = w.alloc (.cells #[.int .i64 d.fR, .int .i64 d.fN] 40) := ⟨_, rfl⟩
  have hbq : Below w.heap.size w wq := by rw [hwq]; exact (Below.refl _ _).alloc (Nat.le_refl _) _
  have hbx : Bx wq w.heap.size [.int .i64 d.fR, .int .i64 d.fN] := by rw [hwq]; exact Bx.new _ _ _
  rw [← hwq]
  clear hwq
  go_loopw [5] (fun i wr => ∃ k : Nat, k ≤ n ∧ i = .int .i64 k ∧ Hid (∀ j, (hj : j < l.length) → j < k → sameD l[j] d = false) ∧ Below wq.heap.size wq wr) (fun i _ => n - (intOf i).toNat)
  case atStart => exact ⟨0, Nat.zero_le _, rfl, Hid.mk (fun j _ h => absurd h (Nat.not_lt_zero j)), Below.refl _ _⟩
  case round =>
    obtain ⟨k, hk, rfl, HI, hbk⟩ := hrel
    have hbw := bthen hbq hbk
    have y0 : ∀ W, Below wr.heap.size wr W → W.cell? ⟨w.heap.size, 0, none⟩ = some (.int .i64 d.fR) := fun W h => ((hbx.under hbk).under h).2 0 _ rfl
    have y1 : ∀ W, Below wr.heap.size wr W → W.cell? ⟨w.heap.size, 1, none⟩ = some (.int .i64 d.fN) := fun W h => ((hbx.under hbk).under h).2 1 _ rfl
    by_cases hlt : k < n
    · have hkl : k < l.length := by rw [HX.out]; exact hlt
      obtain ⟨b1, o1, rfl, hB, cs, hcl, hcell, rfl, g0, g1, _⟩ := (HL.out.2.2.below rDot_good hbw) k hkl
      have k0 := hcell 0 _ rfl
      have k1 := hcell 1 _ rfl
      rw [Nat.add_zero] at k0
      have HY : Hid (sameD l[k] d = true → PlcAt l d (k : Int)) := fun h => plc_found hkl h HI.out
      have HN : Hid (sameD l[k] d = false → ∀ j, (hj : j < l.length) → j < k + 1 → sameD l[j] d = false) := fun h j hj hjk => by
        rcases Nat.lt_succ_iff_lt_or_eq.1 hjk with g | g
        · exact HI.out j hj g
        · subst g; exact h
      have hB' : b1 < wr.heap.size := Nat.lt_of_lt_of_le hB hbw.size
      have k2 : ∀ W, Below wr.heap.size wr W → W.cell? ⟨b1, o1 + k * 2, none⟩ = some (.int .i64 l[k].fR) := fun W h => (h.cell (p := ⟨b1, o1 + k * 2, none⟩) hB').trans k0
      have k3 : ∀ W, Below wr.heap.size wr W → W.cell? ⟨b1, o1 + k * 2 + 1, none⟩ = some (.int .i64 l[k].fN) := fun W h => (h.cell (p := ⟨b1, o1 + k * 2 + 1, none⟩) hB').trans k1
      have hk1 : (0 : Int) ≤ (k : Int) := by omega
      have hk2 : (k : Int) < (n : Int) := by omega
      clear hcell hcl HI k0 k1
      generalize l[k] = x at *
      by_cases hs : sameD x d = true
      · have HV := Hid.mk (HY.out hs)
        have hq1 := (sameD_eq hs).1
        have hq2 := (sameD_eq hs).2
        clear HY HN hs
        rw [hq1] at k2
        rw [hq2] at k3
        clear hq1 hq2
        go_wp2_with fail
        refine wp_region_held_drew (S := fun W => Below wr.heap.size wr W) (by kernel_rfl) (Below.drew (Below.refl _ _)) (fun hHeld => ?_)
        refine tk 0 qce0_26_4_0 (some 12) (v := ?v1) rfl rfl (by kernel_rfl) hHeld (by rfl) (fun _ _ _ x => x) (fun w h => ?y1) ?_; (case y1 => (try dsimp only at h); go_simp; try (with_reducible rfl)); try simp only [Act.put, sa, s0, s1]
        refine tk 1 qce0_26_4_1 (some 13) (v := ?v2) rfl rfl (by kernel_rfl) hHeld (by rfl) (fun _ _ _ x => x) (fun w h => ?y2) ?_; (case y2 => (try dsimp only at h); go_simp; try (with_reducible rfl)); try simp only [Act.put, sa, s0, s1]
        refine tk 2 qce0_26_4_2 (some 14) (v := ?v3) rfl rfl (by kernel_rfl) hHeld (by rfl) (fun _ _ _ x => x) (fun w h => ?y3) ?_; (case y3 => (try dsimp only at h); go_simp; try (with_reducible rfl)); try simp only [Act.put, sa, s0, s1]
        refine tk 3 qce0_26_4_3 (some 15) (v := ?v4) rfl rfl (by kernel_rfl) hHeld (by rfl) (fun _ _ _ x => x) (fun w h => ?y4) ?_; (case y4 => (try dsimp only at h); go_simp; try (with_reducible rfl)); try simp only [Act.put, sa, s0, s1]
        refine tk 4 qce0_26_4_4 (some 16) (v := ?v5) rfl rfl (by kernel_rfl) hHeld (by rfl) (fun _ _ _ x => x) (fun w h => ?y5) ?_; (case y5 => (try dsimp only at h); go_simp; try (with_reducible rfl)); try simp only [Act.put, sa, s0, s1]
        refine tk 5 qce0_26_4_5 (some 17) (v := ?v6) rfl rfl (by kernel_rfl) hHeld (by rfl) (fun _ _ _ x => x) (fun w h => ?y6) ?_; (case y6 => (try dsimp only at h); go_simp; try (with_reducible rfl)); try simp only [Act.put, sa, s0, s1]
        refine wpAnyH_done (by kernel_rfl) ?_ _
        go_wp2_with fail
        go_ret
        exact ⟨⟨(k : Int), HV, rfl⟩, bthen hbw hHeld⟩
      · have HI := Hid.mk (HN.out (Bool.eq_false_iff.2 hs))
        rcases sameD_ne hs with hq | ⟨hq, hp⟩
        · have hq' : decide (x.fR = d.fR) = false := decide_eq_false hq
          have hr1 : ¬ d.fR = x.fR := fun h => hq h.symm
          have hr1' : decide (d.fR = x.fR) = false := decide_eq_false hr1
          clear HY HN hs
          go_wp2_with fail
          refine wp_region_held_drew (S := fun W => Below wr.heap.size wr W) (by kernel_rfl) (Below.drew (Below.refl _ _)) (fun hHeld => ?_)
          refine tk 0 qce0_26_4_0 (some 12) (v := ?v7) rfl rfl (by kernel_rfl) hHeld (by rfl) (fun _ _ _ x => x) (fun w h => ?y7) ?_; (case y7 => (try dsimp only at h); go_simp; try (with_reducible rfl)); try simp only [Act.put, sa, s0, s1]
          refine tk 1 qce0_26_4_1 (some 13) (v := ?v8) rfl rfl (by kernel_rfl) hHeld (by rfl) (fun _ _ _ x => x) (fun w h => ?y8) ?_; (case y8 => (try dsimp only at h); go_simp; try (with_reducible rfl)); try simp only [Act.put, sa, s0, s1]
          refine tk 2 qce0_26_4_2 (some 14) (v := ?v9) rfl rfl (by kernel_rfl) hHeld (by rfl) (fun _ _ _ x => x) (fun w h => ?y9) ?_; (case y9 => (try dsimp only at h); go_simp; try (with_reducible rfl)); try simp only [Act.put, sa, s0, s1]
          refine tk 3 qce0_26_4_3 (some 15) (v := ?v10) rfl rfl (by kernel_rfl) hHeld (by rfl) (fun _ _ _ x => x) (fun w h => ?y10) ?_; (case y10 => (try dsimp only at h); go_simp; try (with_reducible rfl)); try simp only [Act.put, sa, s0, s1]
          refine tk 4 qce0_26_4_4 (some 16) (v := ?v11) rfl rfl (by kernel_rfl) hHeld (by rfl) (fun _ _ _ x => x) (fun w h => ?y11) ?_; (case y11 => (try dsimp only at h); go_simp; try (with_reducible rfl)); try simp only [Act.put, sa, s0, s1]
          refine tk 5 qce0_26_4_5 (some 17) (v := ?v12) rfl rfl (by kernel_rfl) hHeld (by rfl) (fun _ _ _ x => x) (fun w h => ?y12) ?_; (case y12 => (try dsimp only at h); go_simp; try (with_reducible rfl)); try simp only [Act.put, sa, s0, s1]
          refine wpAnyH_done (by kernel_rfl) ?_ _
          go_wp2_with fail
          go_roundw
          case rel => exact ⟨k + 1, by omega, by go_num, HI, bthen hbk hHeld⟩
          case measure => simp [intOf]; omega
        · have hq' : decide (x.fN = d.fN) = false := decide_eq_false hp
          have hr1 : ¬ d.fN = x.fN := fun h => hp h.symm
          have hr1' : decide (d.fN = x.fN) = false := decide_eq_false hr1
          clear HY HN hs
          rw [hq] at k2
          clear hq
          go_wp2_with fail
          refine wp_region_held_drew (S := fun W => Below wr.heap.size wr W) (by kernel_rfl) (Below.drew (Below.refl _ _)) (fun hHeld => ?_)
          refine tk 0 qce0_26_4_0 (some 12) (v := ?v13) rfl rfl (by kernel_rfl) hHeld (by rfl) (fun _ _ _ x => x) (fun w h => ?y13) ?_; (case y13 => (try dsimp only at h); go_simp; try (with_reducible rfl)); try simp only [Act.put, sa, s0, s1]
          refine tk 1 qce0_26_4_1 (some 13) (v := ?v14) rfl rfl (by kernel_rfl) hHeld (by rfl) (fun _ _ _ x => x) (fun w h => ?y14) ?_; (case y14 => (try dsimp only at h); go_simp; try (with_reducible rfl)); try simp only [Act.put, sa, s0, s1]
          refine tk 2 qce0_26_4_2 (some 14) (v := ?v15) rfl rfl (by kernel_rfl) hHeld (by rfl) (fun _ _ _ x => x) (fun w h => ?y15) ?_; (case y15 => (try dsimp only at h); go_simp; try (with_reducible rfl)); try simp only [Act.put, sa, s0, s1]
          refine tk 3 qce0_26_4_3 (some 15) (v := ?v16) rfl rfl (by kernel_rfl) hHeld (by rfl) (fun _ _ _ x => x) (fun w h => ?y16) ?_; (case y16 => (try dsimp only at h); go_simp; try (with_reducible rfl)); try simp only [Act.put, sa, s0, s1]
          refine tk 4 qce0_26_4_4 (some 16) (v := ?v17) rfl rfl (by kernel_rfl) hHeld (by rfl) (fun _ _ _ x => x) (fun w h => ?y17) ?_; (case y17 => (try dsimp only at h); go_simp; try (with_reducible rfl)); try simp only [Act.put, sa, s0, s1]
          refine tk 5 qce0_26_4_5 (some 17) (v := ?v18) rfl rfl (by kernel_rfl) hHeld (by rfl) (fun _ _ _ x => x) (fun w h => ?y18) ?_; (case y18 => (try dsimp only at h); go_simp; try (with_reducible rfl)); try simp only [Act.put, sa, s0, s1]
          refine wpAnyH_done (by kernel_rfl) ?_ _
          go_wp2_with fail
          go_roundw
          case rel => exact ⟨k + 1, by omega, by go_num, HI, bthen hbk hHeld⟩
          case measure => simp [intOf]; omega
    · have HV : Hid (PlcAt l d (-1)) := plc_none (fun j hj => HI.out j hj (by have := HX.out; omega))
      go_wp2_with fail
      go_ret
      exact ⟨⟨-1, HV, rfl⟩, hbw⟩


theorem reach_up {p g : List MItem} (hsub : ∀ x, x ∈ p → x ∈ g) {i i' : Nat} (hi : i < p.length) (hi' : i' < g.length) (e : g[i'] = p[i]) {k : Nat} (h : Reach p i k) :
    ∃ hk : k < p.length, ∀ k', (hk' : k' < g.length) → g[k'].fD = p[k].fD → Reach g i' k' := by
  refine h (fun k => ∃ hk : k < p.length, ∀ k', (hk' : k' < g.length) → g[k'].fD = p[k].fD → Reach g i' k') ?_ ?_
  · rintro j ⟨_, hj, d, hd, hs⟩
    exact ⟨hj, fun k' hk' e2 => Reach.base ⟨hi', hk', d, by rw [e]; exact hd, by rw [e2]; exact hs⟩⟩
  · rintro j m ⟨hj, hP⟩ ⟨_, hm, d, hd, hs⟩
    obtain ⟨j', hj', ej⟩ := List.mem_iff_getElem.1 (hsub _ (List.getElem_mem hj))
    exact ⟨hm, fun k' hk' e2 => (hP j' hj' (by rw [ej])).step ⟨hj', hk', d, by rw [ej]; exact hd, by rw [e2]; exact hs⟩⟩
theorem reach_down {p g : List MItem} (hsub : ∀ x, x ∈ p → x ∈ g) (hinj : ∀ x y, x ∈ g → y ∈ g → x.fD = y.fD → x = y) (hcl : ∀ x, x ∈ p → ∀ d, d ∈ x.fDeps → ∃ y, y ∈ p ∧ y.fD = d) {i i' : Nat} (hi : i < p.length) (hi' : i' < g.length) (e : g[i'] = p[i]) {k' : Nat} (h : Reach g i' k') :
    ∃ hk' : k' < g.length, ∃ k, ∃ hk : k < p.length, p[k] = g[k'] ∧ Reach p i k := by
  refine h (fun k' => ∃ hk' : k' < g.length, ∃ k, ∃ hk : k < p.length, p[k] = g[k'] ∧ Reach p i k) ?_ ?_
  · rintro j' ⟨_, hj', d, hd, hs⟩
    rw [e] at hd
    obtain ⟨y, hy, ey⟩ := hcl _ (List.getElem_mem hi) d hd
    have e2 : y = g[j'] := hinj _ _ (hsub y hy) (List.getElem_mem hj') (by rw [ey, sameD_iff.1 hs])
    obtain ⟨k, hk, rfl⟩ := List.mem_iff_getElem.1 hy
    exact ⟨hj', k, hk, e2, Reach.base ⟨hi, hk, d, hd, sameD_iff.2 ey⟩⟩
  · rintro j' m' ⟨hj', j, hj, ej, hr⟩ ⟨_, hm', d, hd, hs⟩
    rw [← ej] at hd
    obtain ⟨y, hy, ey⟩ := hcl _ (List.getElem_mem hj) d hd
    have e2 : y = g[m'] := hinj _ _ (hsub y hy) (List.getElem_mem hm') (by rw [ey, sameD_iff.1 hs])
    obtain ⟨k, hk, rfl⟩ := List.mem_iff_getElem.1 hy
    exact ⟨hm', k, hk, e2, hr.step ⟨hj, hk, d, hd, sameD_iff.2 ey⟩⟩

theorem item_inj {m : MGraph} (hg : graphP m = true) : ∀ x y, x ∈ m.fItems → y ∈ m.fItems → x.fD = y.fD → x = y := by
  intro x y hx hy e
  obtain ⟨i, hi, rfl⟩ := List.mem_iff_getElem.1 hx
  obtain ⟨j, hj, rfl⟩ := List.mem_iff_getElem.1 hy
  have := graph_inj hg hi hj e
  subst this
  rfl

/-- What the law asks: two of which one depends on the other come in the same order in both. -/
theorem stable_cmp {g p : MGraph} {L M : List MDot} (hg : graphP g = true) (hp : graphP p = true) (hgc : ∀ x, x ∈ g.fItems → ∀ d, d ∈ x.fDeps → ∃ y, y ∈ g.fItems ∧ y.fD = d)
    (hsub : ∀ x, x ∈ p.fItems → x ∈ g.fItems) (hcl : ∀ x, x ∈ p.fItems → ∀ d, d ∈ x.fDeps → ∃ y, y ∈ p.fItems ∧ y.fD = d) (hL : OrderL g L) (hM : OrderL p M)
    {it : MItem} (hit : it ∈ p.fItems) {b : MDot} (hb : b ∈ it.fDeps) {x1 y1 x2 y2 : Int} (hx1 : PlcAt L it.fD x1) (hy1 : PlcAt L b y1) (hx2 : PlcAt M it.fD x2) (hy2 : PlcAt M b y2) : (x1 < y1) ↔ (x2 < y2) := by
  obtain ⟨bt, hbt, rfl⟩ := hcl it hit b hb
  obtain ⟨i, hi, rfl⟩ := List.mem_iff_getElem.1 hit
  obtain ⟨j, hj, rfl⟩ := List.mem_iff_getElem.1 hbt
  obtain ⟨i', hi', ei⟩ := List.mem_iff_getElem.1 (hsub _ (List.getElem_mem hi))
  obtain ⟨j', hj', ej⟩ := List.mem_iff_getElem.1 (hsub _ (List.getElem_mem hj))
  have rp : Reach p.fItems i j := Reach.base ⟨hi, hj, _, hb, sameD_iff.2 rfl⟩
  have rg : Reach g.fItems i' j' := Reach.base ⟨hi', hj', _, by rw [ei]; exact hb, by rw [ej]; exact sameD_iff.2 rfl⟩
  have hinj := item_inj hg
  have hback : Reach p.fItems j i ↔ Reach g.fItems j' i' := by
    constructor
    · intro h
      obtain ⟨_, h2⟩ := reach_up hsub hj hj' ej h
      exact h2 i' hi' (by rw [ei])
    · intro h
      obtain ⟨_, k, hk, e2, hr⟩ := reach_down hsub hinj hcl hj hj' ej h
      have : k = i := graph_inj hp hk hi (by rw [e2, ei])
      subst this
      exact hr
  have heq : i = j ↔ i' = j' := by
    constructor
    · intro h; subst h; exact graph_inj hg hi' hj' (by rw [ei, ej])
    · intro h; subst h; exact graph_inj hp hi hj (by rw [← ei, ← ej])
  have hring : ring p.fItems i j ↔ ring g.fItems i' j' := by
    unfold ring
    constructor
    · rintro (h | ⟨h, _⟩)
      · exact .inl (heq.1 h.symm).symm
      · exact .inr ⟨hback.1 h, rg⟩
    · rintro (h | ⟨h, _⟩)
      · exact .inl (heq.2 h.symm).symm
      · exact .inr ⟨hback.2 h, rp⟩
  have c1 := hL.cmp hi' hj' (whole_closed hgc i') hg rg (x := x1) (y := y1) (by rw [ei]; exact hx1) (by rw [ej]; exact hy1)
  have c2 := hM.cmp hi hj (whole_closed hcl i) hp rp hx2 hy2
  rw [c1, c2, hring, ei, ej]

/-- A queue without doubles of a graph's dots is no longer than the graph. -/
theorem queue_len {g : List MItem} {q : List MDot} (hn : q.Nodup) (hi : ∀ x, x ∈ q → ∃ it, it ∈ g ∧ it.fD = x) : q.length ≤ g.length := by
  have hex : ∀ x, ∃ i : Nat, x ∈ q → ∃ h : i < g.length, g[i].fD = x := fun x => by
    by_cases hx : x ∈ q
    · obtain ⟨it, hit, e⟩ := hi x hx
      obtain ⟨i, h, rfl⟩ := List.mem_iff_getElem.1 hit
      exact ⟨i, fun _ => ⟨h, e⟩⟩
    · exact ⟨0, fun h => absurd h hx⟩
  have hl : (q.map (fun x => Classical.choose (hex x))).length ≤ g.length := by
    refine nodup_lt ?_ (fun i hi => ?_)
    · unfold List.Nodup
      rw [List.pairwise_map]
      refine List.Pairwise.imp_of_mem ?_ hn
      intro a b ha hb hne e
      obtain ⟨h1, e1⟩ := Classical.choose_spec (hex a) ha
      obtain ⟨h2, e2⟩ := Classical.choose_spec (hex b) hb
      apply hne
      rw [← e1, ← e2]
      congr 1
      simp only [e]
    · obtain ⟨x, hx, rfl⟩ := List.mem_map.1 hi
      exact (Classical.choose_spec (hex x) hx).1
  simpa using hl

/-- The queue and the part, while they are gathered: at place i of the queue, at place k of the graph. -/
structure Gat (g : MGraph) (q : List MDot) (i k : Nat) (p : MGraph) : Prop where
  nd : q.Nodup
  inG : ∀ x, x ∈ q → ∃ it, it ∈ g.fItems ∧ it.fD = x
  ok : graphP p = true
  sub : ∀ it, it ∈ p.fItems ↔ it ∈ g.fItems ∧ (it.fD ∈ q.take i ∨ (it ∈ g.fItems.take k ∧ q[i]? = some it.fD))
  deps : ∀ it, it ∈ p.fItems → ∀ d, d ∈ it.fDeps → d ∈ q
theorem Gat.start {g : MGraph} {d : MDot} (h : ∃ it, it ∈ g.fItems ∧ it.fD = d) : Gat g [d] 0 0 ⟨[]⟩ :=
  ⟨by simp, fun x hx => by rw [List.mem_singleton.1 hx]; exact h, graphP_nil', fun it => ⟨(fun h => by cases h), (fun h => by rcases h.2 with h | h <;> simp at h)⟩, (fun it h => by cases h)⟩
  where graphP_nil' : graphP ⟨[]⟩ = true := rfl
theorem Gat.skip {g : MGraph} {q : List MDot} {i k : Nat} {p : MGraph} (h : Gat g q i k p) (hk : k < g.fItems.length) (hne : q[i]? ≠ some g.fItems[k].fD) : Gat g q i (k + 1) p := by
  refine ⟨h.nd, h.inG, h.ok, fun it => ?_, h.deps⟩
  rw [h.sub it, List.take_succ_eq_append_getElem hk]
  constructor
  · rintro ⟨h1, h2 | ⟨h2, h3⟩⟩
    · exact ⟨h1, .inl h2⟩
    · exact ⟨h1, .inr ⟨List.mem_append_left _ h2, h3⟩⟩
  · rintro ⟨h1, h2 | ⟨h2, h3⟩⟩
    · exact ⟨h1, .inl h2⟩
    · rcases List.mem_append.1 h2 with h2 | h2
      · exact ⟨h1, .inr ⟨h2, h3⟩⟩
      · rw [List.mem_singleton] at h2
        subst h2
        exact absurd h3 hne
theorem Gat.next {g : MGraph} {q : List MDot} {i : Nat} {p : MGraph} (h : Gat g q i g.fItems.length p) (hi : i < q.length) : Gat g q (i + 1) 0 p := by
  refine ⟨h.nd, h.inG, h.ok, fun it => ?_, h.deps⟩
  rw [h.sub it, List.take_length, List.take_succ_eq_append_getElem hi, List.getElem?_eq_getElem hi]
  constructor
  · rintro ⟨h1, h2 | ⟨h2, h3⟩⟩
    · exact ⟨h1, .inl (List.mem_append_left _ h2)⟩
    · exact ⟨h1, .inl (List.mem_append_right _ (by simp only [Option.some.injEq] at h3; rw [List.mem_singleton]; exact h3.symm))⟩
  · rintro ⟨h1, h2 | ⟨h2, _⟩⟩
    · rcases List.mem_append.1 h2 with h2 | h2
      · exact ⟨h1, .inl h2⟩
      · rw [List.mem_singleton] at h2; exact ⟨h1, .inr ⟨h1, by rw [h2]⟩⟩
    · simp at h2
/-- It may be put: it is not there. -/
theorem Gat.fresh {g : MGraph} {q : List MDot} {i k : Nat} {p : MGraph} (hg : graphP g = true) (h : Gat g q i k p) (hk : k < g.fItems.length) (he : q[i]? = some g.fItems[k].fD) : ∀ x, x ∈ p.fItems → x.fD ≠ g.fItems[k].fD := by
  intro x hx e
  obtain ⟨h1, h2⟩ := (h.sub x).1 hx
  have hxe := item_inj hg x _ h1 (List.getElem_mem hk) e
  rcases h2 with h2 | ⟨h2, _⟩
  · rw [List.mem_take_iff_getElem] at h2
    obtain ⟨j, hj, ej⟩ := h2
    have hil : i < q.length := (List.getElem?_eq_some_iff.1 he).1
    have e3 : q[i] = g.fItems[k].fD := (List.getElem?_eq_some_iff.1 he).2
    have := (List.pairwise_iff_getElem.1 h.nd) j i (by omega) hil (by omega)
    exact this (by rw [ej, e3, e])
  · rw [List.mem_take_iff_getElem] at h2
    obtain ⟨j, hj, ej⟩ := h2
    have : j = k := graph_inj hg (by omega) hk (by rw [ej, e])
    omega
theorem Gat.plen {g : MGraph} {q : List MDot} {i k : Nat} {p : MGraph} (hg : graphP g = true) (h : Gat g q i k p) : p.fItems.length ≤ g.fItems.length := by
  have hp := graph_iff.1 h.ok
  have h1 : (p.fItems.map MItem.fD).Nodup := by
    unfold List.Nodup
    rw [List.pairwise_map]
    exact hp.2.2.imp (fun h e => by rw [e, dotLt_self] at h; cases h)
  have := queue_len h1 (g := g.fItems) (fun x hx => by obtain ⟨it, hit, e⟩ := List.mem_map.1 hx; exact ⟨it, ((h.sub it).1 hit).1, e⟩)
  simpa using this
/-- The queue while the deps of the one that was put are looked at. -/
structure Gad (g : MGraph) (q0 q : List MDot) (ds : List MDot) (j : Nat) : Prop where
  nd : q.Nodup
  inG : ∀ x, x ∈ q → ∃ it, it ∈ g.fItems ∧ it.fD = x
  pre : ∃ r, q = q0 ++ r
  got : ∀ d, d ∈ ds.take j → d ∈ q
theorem Gad.start {g : MGraph} {q : List MDot} {i k : Nat} {p : MGraph} (h : Gat g q i k p) (ds : List MDot) : Gad g q q ds 0 := ⟨h.nd, h.inG, ⟨[], by simp⟩, fun d hd => by simp at hd⟩
theorem Gad.has {g : MGraph} {q0 q ds : List MDot} {j : Nat} (h : Gad g q0 q ds j) (hj : j < ds.length) (hd : ds[j] ∈ q) : Gad g q0 q ds (j + 1) :=
  ⟨h.nd, h.inG, h.pre, fun d hd2 => by
    rw [List.take_succ_eq_append_getElem hj] at hd2
    rcases List.mem_append.1 hd2 with h2 | h2
    · exact h.got d h2
    · rw [List.mem_singleton.1 h2]; exact hd⟩
theorem Gad.add {g : MGraph} {q0 q ds : List MDot} {j : Nat} (h : Gad g q0 q ds j) (hj : j < ds.length) (hd : ds[j] ∉ q) (hin : ∃ it, it ∈ g.fItems ∧ it.fD = ds[j]) : Gad g q0 (q ++ [ds[j]]) ds (j + 1) := by
  refine ⟨?_, fun x hx => ?_, ?_, fun d hd2 => ?_⟩
  · unfold List.Nodup
    rw [List.pairwise_append]
    exact ⟨h.nd, by simp, fun a ha b hb e => hd (by rw [List.mem_singleton] at hb; rw [← hb, ← e]; exact ha)⟩
  · rcases List.mem_append.1 hx with hx | hx
    · exact h.inG x hx
    · rw [List.mem_singleton.1 hx]; exact hin
  · obtain ⟨r, e⟩ := h.pre
    exact ⟨r ++ [ds[j]], by rw [e]; simp⟩
  · rw [List.take_succ_eq_append_getElem hj] at hd2
    rcases List.mem_append.1 hd2 with h2 | h2
    · exact List.mem_append_left _ (h.got d h2)
    · exact List.mem_append_right _ h2
/-- One was put, and its deps were looked at. -/
theorem Gat.put {g : MGraph} {q q' : List MDot} {i k : Nat} {p : MGraph} (hg : graphP g = true) (hl : g.fItems.length < 100) (h : Gat g q i k p) (hk : k < g.fItems.length) (he : q[i]? = some g.fItems[k].fD) (hd : Gad g q q' g.fItems[k].fDeps g.fItems[k].fDeps.length) : putOk p g.fItems[k] = true ∧ Gat g q' i (k + 1) (putG p g.fItems[k]) := by
  have hil : i < q.length := (List.getElem?_eq_some_iff.1 he).1
  have hpl := h.plen hg
  have hgk := (graph_iff.1 hg).2.1 _ (List.getElem_mem hk)
  obtain ⟨h1, h2, h3⟩ := put_new h.ok hgk (by omega) (h.fresh hg hk he)
  obtain ⟨r, hr⟩ := hd.pre
  have ht : q'.take i = q.take i := by rw [hr, List.take_append_of_le_length (by omega)]
  have hq : q'[i]? = q[i]? := by rw [hr, List.getElem?_append_left hil]
  refine ⟨h1, hd.nd, hd.inG, ?_, fun it => ?_, fun it hit d hdd => ?_⟩
  · unfold putG; rw [h1]; unfold putOk at h1; rw [Bool.and_eq_true] at h1; exact h1.2
  · rw [h2 it, h.sub it, ht, hq, List.take_succ_eq_append_getElem hk]
    constructor
    · rintro (⟨a1, a2 | ⟨a2, a3⟩⟩ | rfl)
      · exact ⟨a1, .inl a2⟩
      · exact ⟨a1, .inr ⟨List.mem_append_left _ a2, a3⟩⟩
      · exact ⟨List.getElem_mem hk, .inr ⟨List.mem_append_right _ (List.mem_singleton.2 rfl), he⟩⟩
    · rintro ⟨a1, a2 | ⟨a2, a3⟩⟩
      · exact .inl ⟨a1, .inl a2⟩
      · rcases List.mem_append.1 a2 with a2 | a2
        · exact .inl ⟨a1, .inr ⟨a2, a3⟩⟩
        · exact .inr (List.mem_singleton.1 a2)
  · rcases (h2 it).1 hit with hit | rfl
    · rw [hr]; exact List.mem_append_left _ (h.deps it hit d hdd)
    · exact hd.got d (by rw [List.take_length]; exact hdd)
theorem Gat.ok2 {g : MGraph} {q : List MDot} {i k : Nat} {p : MGraph} (hg : graphP g = true) (hl : g.fItems.length < 100) (h : Gat g q i k p) (hk : k < g.fItems.length) (he : q[i]? = some g.fItems[k].fD) : putOk p g.fItems[k] = true := by
  have hpl := h.plen hg
  have hgk := (graph_iff.1 hg).2.1 _ (List.getElem_mem hk)
  exact (put_new h.ok hgk (by omega) (h.fresh hg hk he)).1
/-- Where the queue is at its end, the part is closed. -/
theorem Gat.done {g : MGraph} {q : List MDot} {i : Nat} {p : MGraph} (h : Gat g q i 0 p) (hi : q.length ≤ i) : (∀ x, x ∈ p.fItems → x ∈ g.fItems) ∧ ∀ x, x ∈ p.fItems → ∀ d, d ∈ x.fDeps → ∃ y, y ∈ p.fItems ∧ y.fD = d := by
  refine ⟨fun x hx => ((h.sub x).1 hx).1, fun x hx d hd => ?_⟩
  have hq := h.deps x hx d hd
  obtain ⟨it, hit, e⟩ := h.inG d hq
  exact ⟨it, (h.sub it).2 ⟨hit, .inl (by rw [List.take_of_length_le hi, e]; exact hq)⟩, e⟩


set_option maxHeartbeats 400000 in
theorem atG_any (a : Option Addr) (n cap i : Nat) (zs : List Int) (w : World) (hx : zs.length = n) (hlen : n ≤ 1048576) (hi : i ≤ 1000) (hb : BytesOk zs) (hr : Rd .u8 w.heap.size w a zs) :
    Calls Tryd.prog 31 #[.slice a n cap, .int .i64 i] w fun e w' => ∃ x : Nat, (e = .returned (.int .i64 x) ∧ x ≤ 255) ∧ w' = w := by
  have HX := Hid.mk hx
  clear hx
  by_cases hlt : i < n
  · obtain ⟨b1, o1, rfl, _, hc1⟩ := hr i (by rw [HX.out]; exact hlt)
    have hbd : 0 ≤ zs.getD i 0 ∧ zs.getD i 0 ≤ 255 := by
      have hil : i < zs.length := by rw [HX.out]; exact hlt
      rw [List.getD_eq_getElem?_getD, List.getElem?_eq_getElem hil, Option.getD_some]
      exact hb _ (List.getElem_mem _)
    generalize zs.getD i 0 = z at hc1 hbd
    go_enter Tryd.func31, Tryd.ntmps31
    go_wp2_with fail
    go_ret
    obtain ⟨x, rfl⟩ := Int.eq_ofNat_of_zero_le hbd.1
    exact ⟨x, ⟨by go_num, by omega⟩, rfl⟩
  · go_enter Tryd.func31, Tryd.ntmps31
    go_wp2_with fail
    go_ret
    exact ⟨(i * 31 + n * 7) % 256, ⟨by go_num, by omega⟩, rfl⟩

def FulPost (w : World) (e : Ending) (w' : World) : Prop :=
  ∃ (a : Option Addr) (c : Nat) (m : MGraph), e = .returned (.agg #[.slice a m.fItems.length c]) ∧ rGraph w'.heap.size w' [.slice a m.fItems.length c] m ∧ FulSt m 12 ∧ Below w.heap.size w w'
set_option maxHeartbeats 2000000 in
theorem drawGraph_ok (a : Option Addr) (n cap : Nat) (zs : List Int) (w : World) (hx : zs.length = n) (hlen : n ≤ 1048576) (hr : Rd .u8 w.heap.size w a zs) :
    Calls Tryd.prog 30 #[.slice a n cap] w fun e w' => FulPost w e w' := by
  obtain ⟨w0, hw0⟩ : ∃ x, x = w.alloc (.cells #[.slice none 0 0] 30) := ⟨_, rfl⟩
  have hbr : Bw w0 w.heap.size 30 [.slice none 0 0] := by rw [hw0]; exact Bw.new _ _ _
  have hb0 : Below w.heap.size w w0 := by rw [hw0]; exact (Below.refl _ _).alloc (Nat.le_refl _) _
  have hz0 := hbr.lt
  go_enter Tryd.func30, Tryd.ntmps30
  go_wp2_with (rw [← hw0])
  try rw [← hw0]
  clear hw0
  refine (l1New_any a n cap zs w0 hx (by omega) ((hr.below hb0).mono hb0.size)).mono ?_
  rintro e w1 ⟨rfl, hc1, hb1⟩
  obtain ⟨g, hg⟩ : ∃ g, g = w0.heap.size := ⟨_, rfl⟩
  rw [← hg] at hc1
  have hbr1 := hbr.under hb1
  have hgl := hc1.lt
  have hb01 := bthen hb0 hb1
  go_wp2_with (rw [← hg])
  try rw [← hg]
  refine (l8Full_full hc1).mono ?_
  rintro e w2 ⟨cs, m, rfl, hO, hF, hc2, hg2⟩
  obtain ⟨a2, c2, rfl⟩ := hO.shape
  have hbr2 := hbr1.grown hg2 (by simp; omega)
  have hb12 : Below w.heap.size w w2 := hb01.grown hg2 hb01.size (fun k hk => by simp at hk; omega)
  have q0 := hbr2.cell 0 _ rfl
  have q1 := hbr2.free 0
  have q2 := hbr2.lt
  have HF2 := Hid.mk hF
  have HF : Hid (∀ W, W = w2.setCell ⟨w.heap.size, 0, none⟩ (.slice a2 m.fItems.length c2) → rGraph W.heap.size W [.slice a2 m.fItems.length c2] m ∧ Below w.heap.size w W) := by
    intro W hW
    have hbw : Below w.heap.size w W := by rw [hW]; exact hb12.setCell (p := ⟨w.heap.size, 0, none⟩) (Nat.le_refl _) _
    have hOW : OutG w1.heap.size W [.slice a2 m.fItems.length c2] m := by
      rw [hW]
      exact hO.keep (fun b hB hl => heap_setCell_other _ ⟨w.heap.size, 0, none⟩ b _ (by show b ≠ w.heap.size; omega))
    exact ⟨hOW.read, hbw⟩
  clear hbr hb0 hb1 hbr1 hb01 hbr2 hO hg2 hb12 hF
  go_wp2_with fail
  have hfin := HF.out _ rfl
  exact bodyPost_ret (v := .agg #[.slice a2 m.fItems.length c2]) (by simp [results, Tryd.results30, go_sem, *]) rfl (show FulPost w _ _ from ⟨a2, c2, m, rfl, hfin.1, HF2.out, hfin.2⟩)

/-- While the queue and the part are gathered: the part's box at bp, the part and the queue in blocks beside it, all else as it was. -/
structure StSt (wA : World) (bp : Nat) (qv : Value) (q : List MDot) (Fq : List Nat) (pv : Value) (p : MGraph) (F : List Nat) (W : World) : Prop where
  k : Below wA.heap.size wA W
  lb : wA.heap.size ≤ bp
  x : Bw W bp 30 [pv]
  o : ownS 3 52 oItem W pv p.fItems F
  f : ∀ b, b ∈ F → wA.heap.size ≤ b ∧ b ≠ bp
  e : ownS 2 40 oDot W qv q Fq
  n : Fq.Nodup
  h : ∀ b, b ∈ Fq → wA.heap.size ≤ b ∧ b ≠ bp ∧ b ∉ F
theorem StSt.below {wA W W' : World} {bp : Nat} {qv pv : Value} {q : List MDot} {Fq F : List Nat} {p : MGraph} (h : StSt wA bp qv q Fq pv p F W) (hb : Below W.heap.size W W') : StSt wA bp qv q Fq pv p F W' :=
  ⟨bthen h.k hb, h.lb, h.x.under hb, ownS.frame oItem_good h.o (fun b hm => hb.block b (ownS.lt oItem_good h.o b hm)), h.f, ownS.frame oDot_good h.e (fun b hm => hb.block b (ownS.lt oDot_good h.e b hm)), h.n, h.h⟩
theorem StSt.part {wA W : World} {bp : Nat} {qv pv : Value} {q : List MDot} {Fq F : List Nat} {p : MGraph} (h : StSt wA bp qv q Fq pv p F W) : rGraph W.heap.size W [pv] p := by
  obtain ⟨a, c, rfl, hL⟩ := ownS.read oItem_good h.o
  exact ⟨a, c, rfl, hL, trivial⟩
theorem StSt.queue {wA W : World} {bp : Nat} {qv pv : Value} {q : List MDot} {Fq F : List Nat} {p : MGraph} (h : StSt wA bp qv q Fq pv p F W) : rdDs W.heap.size W qv q := rdDs_own h.e
theorem StSt.app {wA W : World} {bp : Nat} {qv pv : Value} {q : List MDot} {Fq F : List Nat} {p : MGraph} (h : StSt wA bp qv q Fq pv p F W) :
    ∃ xs, W.ownsRow 0 40 2 qv q.length xs ∧ ∀ (W' : World) (v' : Value) (news : List Value) (d : MDot), W'.ownsRow 0 40 2 v' (q.length + 1) (xs ++ news) → W.grownBy W' qv.ownBlock → (v'.ownBlock = qv.ownBlock ∨ v'.ownBlock = some W.heap.size) → oDot W news d [] →
      ∃ Fq' a c, v' = .slice a (q ++ [d]).length c ∧ StSt wA bp v' (q ++ [d]) Fq' pv p F W' := by
  obtain ⟨xs, hox, hnext⟩ := ownS.push oDot_good h.e h.n
  refine ⟨xs, hox, fun W' v' news d ho hg hat hd => ?_⟩
  obtain ⟨F', ho', hN', hF'⟩ := hnext W' v' news d [] ho hg hat hd List.nodup_nil (fun b hb => by cases hb)
  obtain ⟨a, c, hv, _⟩ := id (ownS.read oDot_good ho')
  have hk : ∀ b, qv.ownBlock = some b → wA.heap.size ≤ b ∧ b ≠ bp ∧ b ∉ F := fun b hb => h.h b (ownS.blk h.e b hb)
  have hbl := h.x.lt
  refine ⟨F', a, c, hv, ?_, h.lb, ?_, ?_, h.f, ho', hN', fun b hb => ?_⟩
  · exact h.k.grown hg h.k.size (fun b hb => (hk b hb).1)
  · exact (hg.block _ hbl (fun e => (hk _ e.symm).2.1 rfl)).trans h.x
  · exact ownS.frame oItem_good h.o (fun b hb => hg.block b (ownS.lt oItem_good h.o b hb) (fun e => (hk _ e.symm).2.2 hb))
  · rcases hF' b hb with h1 | h1 | h1
    · exact h.h b h1
    · cases h1
    · have h2 := h.k.size
      exact ⟨by omega, by omega, fun hm => by have := ownS.lt oItem_good h.o b hm; omega⟩
theorem StSt.put {wA W W2 : World} {bp : Nat} {qv pv pv' : Value} {q : List MDot} {Fq F F' : List Nat} {p p' : MGraph} (h : StSt wA bp qv q Fq pv p F W) (hb : Below W.heap.size W W2) (ho : ownS 3 52 oItem W2 pv' p'.fItems F') (hge : ∀ b, b ∈ F' → W.heap.size ≤ b) :
    StSt wA bp qv q Fq pv' p' F' (W2.setCell ⟨bp, 0, none⟩ pv') := by
  have h2 := h.below hb
  have hbl := h.x.lt
  have hlb := h.lb
  have hs := h.k.size
  refine ⟨h2.k.setCell (p := ⟨bp, 0, none⟩) hlb _, h.lb, h2.x.put 0 _, ownS.frame oItem_good ho (fun b hb => heap_setCell_other W2 ⟨bp, 0, none⟩ b _ (by have := hge b hb; show b ≠ bp; omega)), fun b hb => by have := hge b hb; constructor <;> omega, ownS.frame oDot_good h2.e (fun b hb => heap_setCell_other W2 ⟨bp, 0, none⟩ b _ (h2.h b hb).2.1), h2.n, fun b hb => ?_⟩
  exact ⟨(h2.h b hb).1, (h2.h b hb).2.1, fun hm => by have h3 := hge b hm; have h4 := ownS.lt oDot_good h.e b hb; omega⟩
theorem StSt.start {wA W : World} {bp bq : Nat} {d : MDot} (hk : Below wA.heap.size wA W) (hp : wA.heap.size ≤ bp) (hq : wA.heap.size ≤ bq) (hne : bq ≠ bp) (hx : Bw W bp 30 [.slice none 0 0]) (hb : Bw W bq 40 [.int .i64 d.fR, .int .i64 d.fN]) (h0 : (Lit.int .i64 d.fR).wf = true) (h1 : (Lit.int .i64 d.fN).wf = true) :
    StSt wA bp (.slice (some ⟨bq, 0, none⟩) 1 1) [d] [bq] (.slice none 0 0) ⟨[]⟩ [] W := by
  refine ⟨hk, hp, hx, .inl ⟨rfl, rfl, rfl⟩, (fun b hb => by cases hb), .inr ⟨bq, 1, #[.int .i64 d.fR, .int .i64 d.fN], [[]], rfl, hb, Nat.le_refl _, by unfold maxLen; omega, rfl, rfl, ?_, rfl⟩, by simp, fun b hb => by rw [List.mem_singleton.1 hb]; exact ⟨hq, hne, by simp⟩⟩
  intro j hj
  have : j = 0 := by simp at hj; omega
  subst this
  exact ⟨rfl, h0, h1, rfl⟩

end Go.Proofs.YtmigamgcmhdncaaDoor
