/-
  Part 7 of the texts that the proof leans on.
-/
import Derived.Test.YtedjmmaihpfndaaDoorOrd2
import Derived.Test.YtedjmmaihpfndaaDoorOrd5
import Derived.Test.YtedjmmaihpfndaaDoorOrd1
import Derived.Maps.AppendAt
set_option linter.unusedVariables false
set_option linter.unusedSimpArgs false
set_option maxRecDepth 10000

namespace Go.Proofs.YtedjmmaihpfndaaDoor
open Go.RowKit
abbrev qb20_44_4_0 : Oper := ⟨some 13, .fieldAddr 30 (.tmp 2) 0, 0, "l08_graph.go:41", #[], none⟩
abbrev qb20_44_4_1 : Oper := ⟨some 14, .load 28 (.tmp 13), 28, "l08_graph.go:41", #[⟨0, .data⟩], none⟩
abbrev qb20_44_4_2 : Oper := ⟨some 15, .move (.tmp 5), 3, "l08_graph.go:41", #[], none⟩
abbrev qb20_44_4_3 : Oper := ⟨some 16, .indexAddr 28 (.tmp 14) (.tmp 15), 0, "l08_graph.go:41", #[⟨1, .data⟩, ⟨2, .data⟩], none⟩
abbrev qb20_44_4_4 : Oper := ⟨some 17, .fieldAddr 52 (.tmp 16) 0, 0, "l08_graph.go:41", #[⟨3, .data⟩], none⟩
abbrev qb20_44_4_5 : Oper := ⟨some 18, .load 40 (.tmp 17), 40, "l08_graph.go:41", #[⟨4, .data⟩], none⟩
abbrev qb20_44_4_6 : Oper := ⟨some 19, .load 40 (.tmp 3), 40, "l08_graph.go:41", #[], none⟩
abbrev qb20_44_4_7 : Oper := ⟨some 20, .binOp .eql 40 (.tmp 18) (.tmp 19) 40, 4, "l08_graph.go:41", #[⟨5, .data⟩, ⟨6, .data⟩], none⟩

def AtP (l : List MItem) (d : MDot) (z : Int) : Prop := (∃ k : Nat, z = (k : Int) ∧ ∃ h : k < l.length, sameD l[k].fD d = true) ∨ (z = -1 ∧ ∀ j, (hj : j < l.length) → sameD l[j].fD d = false)
theorem AtP.has {l : List MItem} {d : MDot} {z : Int} (h : AtP l d z) : decide (0 ≤ z) = hasI l d := by
  rcases h with ⟨k, rfl, hk, hs⟩ | ⟨rfl, hn⟩
  · rw [hasI_yes hk hs]; exact decide_eq_true (by omega)
  · rw [hasI_no hn]; rfl

set_option maxHeartbeats 4000000 in
theorem l8At_any (cs : List Value) (m : MGraph) (ds : List Value) (d : MDot) (w : World) (hr : rGraph w.heap.size w cs m) (hn : m.fItems.length ≤ 1048576) (hd : rDot w.heap.size w ds d) :
    Calls Tryd.prog 44 #[.agg cs.toArray, .agg ds.toArray] w fun e w' => ∃ z : Int, e = .returned (.int .i64 z) ∧ AtP m.fItems d z ∧ Below w.heap.size w w' := by
  obtain ⟨a, cap, rfl, hr, _⟩ := hr
  obtain ⟨rfl, d0, d1, _⟩ := hd
  obtain ⟨l, hl⟩ : ∃ l, l = m.fItems := ⟨_, rfl⟩
  rw [← hl] at hr hn ⊢
  clear hl
  obtain ⟨n, hx⟩ : ∃ n, n = l.length := ⟨_, rfl⟩
  rw [← hx] at hn ⊢
  have HX := Hid.mk hx.symm
  have HL := Hid.mk hr
  clear hr hx
  go_enter Tryd.func44, Tryd.ntmps44
  go_wp2_with fail
  obtain ⟨wq, hwq⟩ : ∃ wq, wq = (w.alloc (.cells #[.slice a n cap] 30)).alloc (.cells #[.int .i64 d.fR, .int .i64 d.fN] 40) := ⟨_, rfl⟩
  have hbq : Below w.heap.size w wq := by rw [hwq]; exact ((Below.refl _ _).alloc (Nat.le_refl _) _).alloc (by simp) _
  have hbg : Bx wq w.heap.size [.slice a n cap] := by rw [hwq]; exact (Bx.new _ _ _).alloc _
  have hbx : Bx wq (w.heap.size + 1) [.int .i64 d.fR, .int .i64 d.fN] := by rw [hwq]; have h := Bx.new (w.alloc (.cells #[.slice a n cap] 30)) [.int .i64 d.fR, .int .i64 d.fN] 40; simpa using h
  rw [← hwq]
  clear hwq
  go_loopw [5] (fun i wr => ∃ k : Nat, k ≤ n ∧ i = .int .i64 k ∧ Hid (∀ j, (hj : j < l.length) → j < k → sameD l[j].fD d = false) ∧ Below wq.heap.size wq wr) (fun i _ => n - (intOf i).toNat)
  case atStart => exact ⟨0, Nat.zero_le _, rfl, Hid.mk (fun j _ h => absurd h (Nat.not_lt_zero j)), Below.refl _ _⟩
  case round =>
    obtain ⟨k, hk, rfl, HI, hbk⟩ := hrel
    have hbw := bthen hbq hbk
    have v0 := (hbg.under hbk).2 0 _ rfl
    by_cases hlt : k < n
    · have hkl : k < l.length := by rw [HX.out]; exact hlt
      obtain ⟨b1, o1, rfl, hB, cs, hcl, hcell, a2, c2, rfl, g0, g1, _⟩ := (HL.out.2.2.below rItem_good hbw) k hkl
      have x0 : ∀ W, Below wr.heap.size wr W → W.cell? ⟨w.heap.size, 0, none⟩ = some (.slice (some ⟨b1, o1, none⟩) n cap) := fun W h => ((hbg.under hbk).under h).2 0 _ rfl
      have y0 : ∀ W, Below wr.heap.size wr W → W.cell? ⟨w.heap.size + 1, 0, none⟩ = some (.int .i64 d.fR) := fun W h => ((hbx.under hbk).under h).2 0 _ rfl
      have y1 : ∀ W, Below wr.heap.size wr W → W.cell? ⟨w.heap.size + 1, 1, none⟩ = some (.int .i64 d.fN) := fun W h => ((hbx.under hbk).under h).2 1 _ rfl
      have k0 := hcell 0 _ rfl
      have k1 := hcell 1 _ rfl
      rw [Nat.add_zero] at k0
      have HY : Hid (sameD l[k].fD d = true → AtP l d (k : Int)) := fun h => .inl ⟨k, rfl, hkl, h⟩
      have HN : Hid (sameD l[k].fD d = false → ∀ j, (hj : j < l.length) → j < k + 1 → sameD l[j].fD d = false) := fun h j hj hjk => by
        rcases Nat.lt_succ_iff_lt_or_eq.1 hjk with g | g
        · exact HI.out j hj g
        · subst g; exact h
      have hB' : b1 < wr.heap.size := Nat.lt_of_lt_of_le hB hbw.size
      have k2 : ∀ W, Below wr.heap.size wr W → W.cell? ⟨b1, o1 + k * 3, none⟩ = some (.int .i64 l[k].fD.fR) := fun W h => (h.cell (p := ⟨b1, o1 + k * 3, none⟩) hB').trans k0
      have k3 : ∀ W, Below wr.heap.size wr W → W.cell? ⟨b1, o1 + k * 3 + 1, none⟩ = some (.int .i64 l[k].fD.fN) := fun W h => (h.cell (p := ⟨b1, o1 + k * 3 + 1, none⟩) hB').trans k1
      have hk1 : (0 : Int) ≤ (k : Int) := by omega
      have hk2 : (k : Int) < (n : Int) := by omega
      clear hcell hcl HI k0 k1
      generalize l[k].fD = x at *
      by_cases hs : sameD x d = true
      · have HV := Hid.mk (HY.out hs)
        have hq1 := (sameD_eq hs).1
        have hq2 := (sameD_eq hs).2
        clear HY HN hs
        rw [hq1] at k2
        rw [hq2] at k3
        clear hq1 hq2
        go_wp2_with fail
        refine wp_region_held_drew (S := fun W => Below wr.heap.size wr W) (by kernel_rfl) (Below.drew (Below.refl _ _)) (fun hHeld => ?_)
        refine tk 0 qb20_44_4_0 (some 13) (v := ?v1) rfl rfl (by kernel_rfl) hHeld (by rfl) (fun _ _ _ x => x) (fun w h => ?y1) ?_; (case y1 => (try dsimp only at h); go_simp; try (with_reducible rfl)); try simp only [Act.put, sa, s0, s1]
        refine tk 1 qb20_44_4_1 (some 14) (v := ?v2) rfl rfl (by kernel_rfl) hHeld (by rfl) (fun _ _ _ x => x) (fun w h => ?y2) ?_; (case y2 => (try dsimp only at h); go_simp; try (with_reducible rfl)); try simp only [Act.put, sa, s0, s1]
        refine tk 2 qb20_44_4_2 (some 15) (v := ?v3) rfl rfl (by kernel_rfl) hHeld (by rfl) (fun _ _ _ x => x) (fun w h => ?y3) ?_; (case y3 => (try dsimp only at h); go_simp; try (with_reducible rfl)); try simp only [Act.put, sa, s0, s1]
        refine tk 3 qb20_44_4_3 (some 16) (v := ?v4) rfl rfl (by kernel_rfl) hHeld (by rfl) (fun _ _ _ x => x) (fun w h => ?y4) ?_; (case y4 => (try dsimp only at h); go_simp; try (with_reducible rfl)); try simp only [Act.put, sa, s0, s1]
        refine tk 4 qb20_44_4_4 (some 17) (v := ?v5) rfl rfl (by kernel_rfl) hHeld (by rfl) (fun _ _ _ x => x) (fun w h => ?y5) ?_; (case y5 => (try dsimp only at h); go_simp; try (with_reducible rfl)); try simp only [Act.put, sa, s0, s1]
        refine tk 5 qb20_44_4_5 (some 18) (v := ?v6) rfl rfl (by kernel_rfl) hHeld (by rfl) (fun _ _ _ x => x) (fun w h => ?y6) ?_; (case y6 => (try dsimp only at h); go_simp; try (with_reducible rfl)); try simp only [Act.put, sa, s0, s1]
        refine tk 6 qb20_44_4_6 (some 19) (v := ?v7) rfl rfl (by kernel_rfl) hHeld (by rfl) (fun _ _ _ x => x) (fun w h => ?y7) ?_; (case y7 => (try dsimp only at h); go_simp; try (with_reducible rfl)); try simp only [Act.put, sa, s0, s1]
        refine tk 7 qb20_44_4_7 (some 20) (v := ?v8) rfl rfl (by kernel_rfl) hHeld (by rfl) (fun _ _ _ x => x) (fun w h => ?y8) ?_; (case y8 => (try dsimp only at h); go_simp; try (with_reducible rfl)); try simp only [Act.put, sa, s0, s1]
        refine wpAnyH_done (by kernel_rfl) ?_ _
        go_wp2_with fail
        go_ret
        exact ⟨_, rfl, HV.out, bthen hbw hHeld⟩
      · have HI := Hid.mk (HN.out (Bool.eq_false_iff.2 hs))
        rcases sameD_ne hs with hq | ⟨hq, hp⟩
        · have hq' : decide (x.fR = d.fR) = false := decide_eq_false hq
          have hr1 : ¬ d.fR = x.fR := fun h => hq h.symm
          have hr1' : decide (d.fR = x.fR) = false := decide_eq_false hr1
          clear HY HN hs
          go_wp2_with fail
          refine wp_region_held_drew (S := fun W => Below wr.heap.size wr W) (by kernel_rfl) (Below.drew (Below.refl _ _)) (fun hHeld => ?_)
          refine tk 0 qb20_44_4_0 (some 13) (v := ?v9) rfl rfl (by kernel_rfl) hHeld (by rfl) (fun _ _ _ x => x) (fun w h => ?y9) ?_; (case y9 => (try dsimp only at h); go_simp; try (with_reducible rfl)); try simp only [Act.put, sa, s0, s1]
          refine tk 1 qb20_44_4_1 (some 14) (v := ?v10) rfl rfl (by kernel_rfl) hHeld (by rfl) (fun _ _ _ x => x) (fun w h => ?y10) ?_; (case y10 => (try dsimp only at h); go_simp; try (with_reducible rfl)); try simp only [Act.put, sa, s0, s1]
          refine tk 2 qb20_44_4_2 (some 15) (v := ?v11) rfl rfl (by kernel_rfl) hHeld (by rfl) (fun _ _ _ x => x) (fun w h => ?y11) ?_; (case y11 => (try dsimp only at h); go_simp; try (with_reducible rfl)); try simp only [Act.put, sa, s0, s1]
          refine tk 3 qb20_44_4_3 (some 16) (v := ?v12) rfl rfl (by kernel_rfl) hHeld (by rfl) (fun _ _ _ x => x) (fun w h => ?y12) ?_; (case y12 => (try dsimp only at h); go_simp; try (with_reducible rfl)); try simp only [Act.put, sa, s0, s1]
          refine tk 4 qb20_44_4_4 (some 17) (v := ?v13) rfl rfl (by kernel_rfl) hHeld (by rfl) (fun _ _ _ x => x) (fun w h => ?y13) ?_; (case y13 => (try dsimp only at h); go_simp; try (with_reducible rfl)); try simp only [Act.put, sa, s0, s1]
          refine tk 5 qb20_44_4_5 (some 18) (v := ?v14) rfl rfl (by kernel_rfl) hHeld (by rfl) (fun _ _ _ x => x) (fun w h => ?y14) ?_; (case y14 => (try dsimp only at h); go_simp; try (with_reducible rfl)); try simp only [Act.put, sa, s0, s1]
          refine tk 6 qb20_44_4_6 (some 19) (v := ?v15) rfl rfl (by kernel_rfl) hHeld (by rfl) (fun _ _ _ x => x) (fun w h => ?y15) ?_; (case y15 => (try dsimp only at h); go_simp; try (with_reducible rfl)); try simp only [Act.put, sa, s0, s1]
          refine tk 7 qb20_44_4_7 (some 20) (v := ?v16) rfl rfl (by kernel_rfl) hHeld (by rfl) (fun _ _ _ x => x) (fun w h => ?y16) ?_; (case y16 => (try dsimp only at h); go_simp; try (with_reducible rfl)); try simp only [Act.put, sa, s0, s1]
          refine wpAnyH_done (by kernel_rfl) ?_ _
          go_wp2_with fail
          go_roundw
          case rel => exact ⟨k + 1, by omega, by go_num, HI, bthen hbk hHeld⟩
          case measure => simp [intOf]; omega
        · have hq' : decide (x.fN = d.fN) = false := decide_eq_false hp
          have hr1 : ¬ d.fN = x.fN := fun h => hp h.symm
          have hr1' : decide (d.fN = x.fN) = false := decide_eq_false hr1
          clear HY HN hs
          rw [hq] at k2
          clear hq
          go_wp2_with fail
          refine wp_region_held_drew (S := fun W => Below wr.heap.size wr W) (by kernel_rfl) (Below.drew (Below.refl _ _)) (fun hHeld => ?_)
          refine tk 0 qb20_44_4_0 (some 13) (v := ?v17) rfl rfl (by kernel_rfl) hHeld (by rfl) (fun _ _ _ x => x) (fun w h => ?y17) ?_; (case y17 => (try dsimp only at h); go_simp; try (with_reducible rfl)); try simp only [Act.put, sa, s0, s1]
          refine tk 1 qb20_44_4_1 (some 14) (v := ?v18) rfl rfl (by kernel_rfl) hHeld (by rfl) (fun _ _ _ x => x) (fun w h => ?y18) ?_; (case y18 => (try dsimp only at h); go_simp; try (with_reducible rfl)); try simp only [Act.put, sa, s0, s1]
          refine tk 2 qb20_44_4_2 (some 15) (v := ?v19) rfl rfl (by kernel_rfl) hHeld (by rfl) (fun _ _ _ x => x) (fun w h => ?y19) ?_; (case y19 => (try dsimp only at h); go_simp; try (with_reducible rfl)); try simp only [Act.put, sa, s0, s1]
          refine tk 3 qb20_44_4_3 (some 16) (v := ?v20) rfl rfl (by kernel_rfl) hHeld (by rfl) (fun _ _ _ x => x) (fun w h => ?y20) ?_; (case y20 => (try dsimp only at h); go_simp; try (with_reducible rfl)); try simp only [Act.put, sa, s0, s1]
          refine tk 4 qb20_44_4_4 (some 17) (v := ?v21) rfl rfl (by kernel_rfl) hHeld (by rfl) (fun _ _ _ x => x) (fun w h => ?y21) ?_; (case y21 => (try dsimp only at h); go_simp; try (with_reducible rfl)); try simp only [Act.put, sa, s0, s1]
          refine tk 5 qb20_44_4_5 (some 18) (v := ?v22) rfl rfl (by kernel_rfl) hHeld (by rfl) (fun _ _ _ x => x) (fun w h => ?y22) ?_; (case y22 => (try dsimp only at h); go_simp; try (with_reducible rfl)); try simp only [Act.put, sa, s0, s1]
          refine tk 6 qb20_44_4_6 (some 19) (v := ?v23) rfl rfl (by kernel_rfl) hHeld (by rfl) (fun _ _ _ x => x) (fun w h => ?y23) ?_; (case y23 => (try dsimp only at h); go_simp; try (with_reducible rfl)); try simp only [Act.put, sa, s0, s1]
          refine tk 7 qb20_44_4_7 (some 20) (v := ?v24) rfl rfl (by kernel_rfl) hHeld (by rfl) (fun _ _ _ x => x) (fun w h => ?y24) ?_; (case y24 => (try dsimp only at h); go_simp; try (with_reducible rfl)); try simp only [Act.put, sa, s0, s1]
          refine wpAnyH_done (by kernel_rfl) ?_ _
          go_wp2_with fail
          go_roundw
          case rel => exact ⟨k + 1, by omega, by go_num, HI, bthen hbk hHeld⟩
          case measure => simp [intOf]; omega
    · have HV : Hid (AtP l d (-1)) := .inr ⟨rfl, fun j hj => HI.out j hj (by have := HX.out; omega)⟩
      go_wp2_with fail
      go_ret
      exact ⟨-1, rfl, HV.out, hbw⟩


/-- From place i one step leads to place k. -/
def stepTo (l : List MItem) (i k : Nat) : Prop := ∃ (hi : i < l.length) (hk : k < l.length), ∃ d, d ∈ l[i].fDeps ∧ sameD l[k].fD d = true
/-- Place i names one that is not there. -/
def lacks (l : List MItem) (i : Nat) : Prop := ∃ hi : i < l.length, ∃ d, d ∈ l[i].fDeps ∧ hasI l d = false
/-- Place k is reached from i, over one step or more. -/
def Reach (l : List MItem) (i k : Nat) : Prop := ∀ P : Nat → Prop, (∀ j, stepTo l i j → P j) → (∀ j m, P j → stepTo l j m → P m) → P k
def wholeAt (l : List MItem) (i : Nat) : Prop := ¬ lacks l i ∧ ∀ k, Reach l i k → ¬ lacks l k

theorem Reach.base {l : List MItem} {i j : Nat} (h : stepTo l i j) : Reach l i j := fun P h1 h2 => h1 j h
theorem Reach.step {l : List MItem} {i j m : Nat} (h : Reach l i j) (hs : stepTo l j m) : Reach l i m := fun P h1 h2 => h2 j m (h P h1 h2) hs
theorem Reach.trans {l : List MItem} {i j m : Nat} (h : Reach l i j) (hs : Reach l j m) : Reach l i m := hs (fun x => Reach l i x) (fun x hx => h.step hx) (fun x y hx hy => hx.step hy)
theorem Reach.lt {l : List MItem} {i k : Nat} (h : Reach l i k) : k < l.length := h (fun k => k < l.length) (fun j ⟨_, hk, _⟩ => hk) (fun j m _ ⟨_, hk, _⟩ => hk)
theorem Reach.from {l : List MItem} {i k : Nat} (h : Reach l i k) : i < l.length := h (fun _ => i < l.length) (fun j ⟨hi, _⟩ => hi) (fun j m hj _ => hj)
theorem reach_of {l : List MItem} {i : Nat} {M : Nat → Prop} (h1 : ∀ j, stepTo l i j → M j) (h2 : ∀ j m, M j → stepTo l j m → M m) {k : Nat} (h : Reach l i k) : M k := h M h1 h2
theorem wholeAt.on {l : List MItem} {i k : Nat} (h : wholeAt l i) (hk : Reach l i k) : wholeAt l k := ⟨h.2 k hk, fun m hm => h.2 m (hk.trans hm)⟩

/-- What one round through a queue has met. -/
structure Met (l : List MItem) (i : Nat) (q : List Nat) (k : Nat) (met : Nat → Bool) (whole : Bool) : Prop where
  head : q.head? = some i
  lt : ∀ j, j ∈ q → j < l.length
  inq : ∀ j, met j = true ↔ j ∈ q.drop 1
  got : ∀ j, met j = true → Reach l i j
  nodup : (q.drop 1).Nodup
  did : ∀ j, j ∈ q.take k → ∀ m, stepTo l j m → met m = true
  ok : whole = true ↔ ∀ j, j ∈ q.take k → ¬ lacks l j

theorem mem_queue {q : List Nat} {i j : Nat} (h : q.head? = some i) : j ∈ q ↔ j = i ∨ j ∈ q.drop 1 := by
  cases q with
  | nil => cases h
  | cons a r =>
    simp only [List.head?_cons, Option.some.injEq] at h
    subst h
    simp
theorem Met.done {l : List MItem} {i : Nat} {q : List Nat} {k : Nat} {met : Nat → Bool} {whole : Bool} (h : Met l i q k met whole) (hk : q.length ≤ k) : (∀ j, met j = true ↔ Reach l i j) ∧ (whole = true ↔ wholeAt l i) := by
  have ht : q.take k = q := List.take_of_length_le hk
  have hm : ∀ j, j ∈ q ↔ j = i ∨ met j = true := fun j => by rw [mem_queue h.head, h.inq]
  have hd := h.did
  have hok := h.ok
  rw [ht] at hd hok
  have hR : ∀ j, met j = true ↔ Reach l i j := fun j => ⟨h.got j, fun hr => reach_of (M := fun j => met j = true) (fun j hj => hd i ((hm i).2 (.inl rfl)) j hj) (fun j m hj hs => hd j ((hm j).2 (.inr hj)) m hs) hr⟩
  refine ⟨hR, hok.trans ⟨fun g => ⟨g i ((hm i).2 (.inl rfl)), fun k hk => g k ((hm k).2 (.inr ((hR k).2 hk)))⟩, fun g j hj => ?_⟩⟩
  rcases (hm j).1 hj with rfl | hj
  · exact g.1
  · exact g.2 j ((hR j).1 hj)

/-- What a walk by the least place that was not walked yet has met; outside is the place z behind all. -/
structure Walk (l : List MItem) (i z : Nat) (met walked : Nat → Bool) (at_ : Nat) : Prop where
  here : at_ < l.length
  fresh : walked at_ = false
  root : at_ = i ∨ (walked i = true ∧ met at_ = true)
  did : ∀ j, j < l.length → walked j = true → (∀ m, stepTo l j m → met m = true) ∧ (lacks l j → met z = true)
  got : ∀ j, j < l.length → met j = true → Reach l i j
  out : met z = true → ¬ wholeAt l i
  top : ∀ j, ¬ j < l.length → walked j = false

/-- The sets behind one step of the walk. -/
theorem Walk.next {l : List MItem} {i z : Nat} {met walked met2 walked2 : Nat → Bool} {at_ : Nat} (h : Walk l i z met walked at_) (hz : l.length ≤ z)
    (h1 : ∀ j, j < l.length → (met2 j = true ↔ met j = true ∨ stepTo l at_ j)) (h2 : met2 z = true ↔ met z = true ∨ lacks l at_) (h3 : ∀ j, walked2 j = true ↔ walked j = true ∨ j = at_) :
    (∀ j, j < l.length → walked2 j = true → (∀ m, stepTo l j m → met2 m = true) ∧ (lacks l j → met2 z = true)) ∧ (∀ j, j < l.length → met2 j = true → Reach l i j) ∧ (met2 z = true → ¬ wholeAt l i) ∧ walked2 i = true ∧ ∀ j, ¬ j < l.length → walked2 j = false := by
  have hat : at_ = i ∨ Reach l i at_ := h.root.imp (fun g => g) (fun g => h.got at_ h.here g.2)
  refine ⟨fun j hj hw => ?_, fun j hj hm => ?_, fun hm hw => ?_, ?_, fun j hj => ?_⟩
  · rcases (h3 j).1 hw with g | rfl
    · have hd := h.did j hj g
      exact ⟨fun m hs => (h1 m (by obtain ⟨_, hk, _⟩ := hs; exact hk)).2 (.inl (hd.1 m hs)), fun hl => h2.2 (.inl (hd.2 hl))⟩
    · exact ⟨fun m hs => (h1 m (by obtain ⟨_, hk, _⟩ := hs; exact hk)).2 (.inr hs), fun hl => h2.2 (.inr hl)⟩
  · rcases (h1 j hj).1 hm with g | g
    · exact h.got j hj g
    · rcases hat with rfl | ha
      · exact Reach.base g
      · exact ha.step g
  · rcases h2.1 hm with g | g
    · exact h.out g hw
    · rcases hat with rfl | ha
      · exact hw.1 g
      · exact hw.2 _ ha g
  · rw [h3]
    rcases h.root with g | g
    · exact .inr g.symm
    · exact .inl g.1
  · rw [Bool.eq_false_iff]
    intro hc
    rcases (h3 j).1 hc with g | g
    · rw [h.top j hj] at g; cases g
    · subst g; exact hj h.here

/-- Where nothing is left to walk, all that is reached was met. -/
theorem walk_done {l : List MItem} {i z : Nat} {met walked : Nat → Bool} (hd : ∀ j, j < l.length → walked j = true → (∀ m, stepTo l j m → met m = true) ∧ (lacks l j → met z = true)) (hg : ∀ j, j < l.length → met j = true → Reach l i j) (ho : met z = true → ¬ wholeAt l i) (hi : i < l.length) (hw : walked i = true)
    (he : ∀ j, j < l.length → met j = true → walked j = true) : (∀ j, j < l.length → (met j = true ↔ Reach l i j)) ∧ (met z = true ↔ ¬ wholeAt l i) := by
  have hR : ∀ j, Reach l i j → met j = true := fun j hr => reach_of (M := fun j => met j = true) (fun j hs => (hd i hi hw).1 j hs) (fun j m hj hs => by
    obtain ⟨hjl, _⟩ := id hs
    exact (hd j hjl (he j hjl hj)).1 m hs) hr
  refine ⟨fun j hj => ⟨hg j hj, hR j⟩, ho, fun hn => ?_⟩
  apply Classical.byContradiction
  intro hm
  apply hn
  refine ⟨fun hl => hm ((hd i hi hw).2 hl), fun k hk hl => hm ((hd k hk.lt (he k hk.lt (hR k hk))).2 hl)⟩


theorem graph_uniq {l : List MItem} (h : graphP ⟨l⟩ = true) {i j : Nat} (hi : i < l.length) (hj : j < l.length) {d : MDot} (h1 : sameD l[i].fD d = true) (h2 : sameD l[j].fD d = true) : i = j := by
  have e1 := sameD_eq h1
  have e2 := sameD_eq h2
  rcases Nat.lt_trichotomy i j with g | g | g
  · have := dotLt_iff.1 (graph_up h i j hi hj g); omega
  · exact g
  · have := dotLt_iff.1 (graph_up h j i hj hi g); omega

/-- In the midst of the deps of the k-th of the queue: c of them are through. -/
structure Met2 (l : List MItem) (i : Nat) (q : List Nat) (k : Nat) (ds : List MDot) (c : Nat) (met : Nat → Bool) (whole : Bool) : Prop where
  head : q.head? = some i
  lt : ∀ j, j ∈ q → j < l.length
  inq : ∀ j, met j = true ↔ j ∈ q.drop 1
  got : ∀ j, met j = true → Reach l i j
  nodup : (q.drop 1).Nodup
  kl : k < q.length
  did : ∀ j, j ∈ q.take k → ∀ m, stepTo l j m → met m = true
  now : ∃ (hj : q[k] < l.length), l[q[k]].fDeps = ds
  did2 : ∀ d, d ∈ ds.take c → ∀ m, (hm : m < l.length) → sameD l[m].fD d = true → met m = true
  ok : whole = true ↔ (∀ j, j ∈ q.take k → ¬ lacks l j) ∧ ∀ d, d ∈ ds.take c → hasI l d = true

theorem Met.enter {l : List MItem} {i : Nat} {q : List Nat} {k : Nat} {met : Nat → Bool} {whole : Bool} (h : Met l i q k met whole) (hk : k < q.length) {ds : List MDot} (hj : q[k] < l.length) (hd : l[q[k]].fDeps = ds) : Met2 l i q k ds 0 met whole :=
  ⟨h.head, h.lt, h.inq, h.got, h.nodup, hk, h.did, ⟨hj, hd⟩, fun d hd => by simp at hd, by rw [h.ok]; simp⟩

theorem mem_take_succ {α : Type} {l : List α} {c : Nat} (hc : c < l.length) {x : α} : x ∈ l.take (c + 1) ↔ x ∈ l.take c ∨ x = l[c] := by
  rw [List.take_succ_eq_append_getElem hc, List.mem_append, List.mem_singleton]
theorem reach_now {l : List MItem} {i : Nat} {q : List Nat} {k : Nat} {ds : List MDot} {c : Nat} {met : Nat → Bool} {whole : Bool} (h : Met2 l i q k ds c met whole) : q[k]'h.kl = i ∨ Reach l i (q[k]'h.kl) := by
  have hm : q[k]'h.kl ∈ q := List.getElem_mem h.kl
  rcases (mem_queue h.head).1 hm with g | g
  · exact .inl g
  · exact .inr (h.got _ ((h.inq _).2 g))

theorem Met2.miss {l : List MItem} {i : Nat} {q : List Nat} {k : Nat} {ds : List MDot} {c : Nat} {met : Nat → Bool} {whole : Bool} (h : Met2 l i q k ds c met whole) (hc : c < ds.length) (hm : ∀ j, (hj : j < l.length) → sameD l[j].fD ds[c] = false) : Met2 l i q k ds (c + 1) met false :=
  ⟨h.head, h.lt, h.inq, h.got, h.nodup, h.kl, h.did, h.now, (fun d hd m hml hs => by
    rcases (mem_take_succ hc).1 hd with g | g
    · exact h.did2 d g m hml hs
    · subst g; rw [hm m hml] at hs; cases hs), (by
    constructor
    · intro g; cases g
    · intro g
      have h1 := g.2 ds[c] ((mem_take_succ hc).2 (.inr rfl))
      rw [hasI_no hm] at h1
      cases h1)⟩

theorem Met2.old {l : List MItem} {i : Nat} {q : List Nat} {k : Nat} {ds : List MDot} {c : Nat} {met : Nat → Bool} {whole : Bool} (hg : graphP ⟨l⟩ = true) (h : Met2 l i q k ds c met whole) (hc : c < ds.length) {t : Nat} (ht : t < l.length) (hs : sameD l[t].fD ds[c] = true) (hm : met t = true) : Met2 l i q k ds (c + 1) met whole :=
  ⟨h.head, h.lt, h.inq, h.got, h.nodup, h.kl, h.did, h.now, (fun d hd m hml hsm => by
    rcases (mem_take_succ hc).1 hd with g | g
    · exact h.did2 d g m hml hsm
    · subst g; rw [graph_uniq hg hml ht hsm hs]; exact hm), by
    rw [h.ok]
    refine and_congr_right (fun _ => ⟨fun g d hd => ?_, fun g d hd => g d ((mem_take_succ hc).2 (.inl hd))⟩)
    rcases (mem_take_succ hc).1 hd with g1 | g1
    · exact g d g1
    · subst g1; exact hasI_yes ht hs⟩

theorem Met2.new {l : List MItem} {i : Nat} {q : List Nat} {k : Nat} {ds : List MDot} {c : Nat} {met met' : Nat → Bool} {whole : Bool} (hg : graphP ⟨l⟩ = true) (h : Met2 l i q k ds c met whole) (hc : c < ds.length) {t : Nat} (ht : t < l.length) (hs : sameD l[t].fD ds[c] = true) (hm : met t = false)
    (hm' : ∀ j, met' j = true ↔ met j = true ∨ j = t) : Met2 l i (q ++ [t]) k ds (c + 1) met' whole := by
  have hkl := h.kl
  have hlen : 1 ≤ q.length := by omega
  have hdr : (q ++ [t]).drop 1 = q.drop 1 ++ [t] := List.drop_append_of_le_length hlen
  have htk : (q ++ [t]).take k = q.take k := List.take_append_of_le_length (by omega)
  have hgk : (q ++ [t])[k]'(by simp; omega) = q[k] := List.getElem_append_left hkl
  obtain ⟨hj, hds⟩ := h.now
  have hst : stepTo l (q[k]) t := ⟨hj, ht, ds[c], by rw [hds]; exact List.getElem_mem hc, hs⟩
  have hrt : Reach l i t := by
    rcases reach_now h with g | g
    · rw [g] at hst; exact Reach.base hst
    · exact g.step hst
  refine ⟨?_, ?_, ?_, ?_, ?_, by simp; omega, ?_, ?_, ?_, ?_⟩
  · cases q with
    | nil => simp at hlen
    | cons a r => simpa using h.head
  · intro j hj'
    rcases List.mem_append.1 hj' with g | g
    · exact h.lt j g
    · simp at g; subst g; exact ht
  · intro j
    rw [hm', hdr, List.mem_append, h.inq]
    simp
  · intro j hj'
    rcases (hm' j).1 hj' with g | g
    · exact h.got j g
    · subst g; exact hrt
  · rw [hdr]
    refine List.nodup_append.2 ⟨h.nodup, by simp, fun a ha b hb hab => ?_⟩
    simp at hb
    subst hab
    subst hb
    rw [(h.inq a).2 ha] at hm
    cases hm
  · rw [htk]; exact fun j hj' m hs' => (hm' m).2 (.inl (h.did j hj' m hs'))
  · refine ⟨by rw [hgk]; exact hj, ?_⟩
    simp only [hgk]
    exact hds
  · intro d hd m hml hsm
    rcases (mem_take_succ hc).1 hd with g | g
    · exact (hm' m).2 (.inl (h.did2 d g m hml hsm))
    · subst g; exact (hm' m).2 (.inr (graph_uniq hg hml ht hsm hs))
  · rw [h.ok, htk]
    refine and_congr_right (fun _ => ⟨fun g d hd => ?_, fun g d hd => g d ((mem_take_succ hc).2 (.inl hd))⟩)
    rcases (mem_take_succ hc).1 hd with g1 | g1
    · exact g d g1
    · subst g1; exact hasI_yes ht hs

theorem Met2.leave {l : List MItem} {i : Nat} {q : List Nat} {k : Nat} {ds : List MDot} {c : Nat} {met : Nat → Bool} {whole : Bool} (h : Met2 l i q k ds c met whole) (hc : ds.length ≤ c) : Met l i q (k + 1) met whole := by
  have htc : ds.take c = ds := List.take_of_length_le hc
  have hd2 := h.did2
  have hok := h.ok
  rw [htc] at hd2 hok
  obtain ⟨hj, hds⟩ := h.now
  refine ⟨h.head, h.lt, h.inq, h.got, h.nodup, fun j hj' m hs => ?_, hok.trans ⟨fun g j hj' => ?_, fun g => ⟨fun j hj' => g j ((mem_take_succ h.kl).2 (.inl hj')), fun d hd => ?_⟩⟩⟩
  · rcases (mem_take_succ h.kl).1 hj' with g | g
    · exact h.did j g m hs
    · subst g
      obtain ⟨_, hml, d, hd, hsm⟩ := hs
      rw [hds] at hd
      exact hd2 d hd m hml hsm
  · rcases (mem_take_succ h.kl).1 hj' with g1 | g1
    · exact g.1 j g1
    · subst g1
      rintro ⟨_, d, hd, hn⟩
      rw [hds] at hd
      rw [g.2 d hd] at hn
      cases hn
  · have h1 := g (q[k]'h.kl) ((mem_take_succ h.kl).2 (.inr rfl))
    rcases hh : hasI l d with _ | _
    · exact absurd ⟨hj, d, by rw [hds]; exact hd, hh⟩ h1
    · rfl

theorem Met.start {l : List MItem} {i : Nat} (hi : i < l.length) : Met l i [i] 0 (fun _ => false) true :=
  ⟨rfl, (fun j hj => by simp at hj; subst hj; exact hi), (fun j => by simp), (fun j hj => by cases hj), (by simp), (fun j hj => by simp at hj), (by simp)⟩
theorem Met.len {l : List MItem} {i : Nat} {q : List Nat} {k : Nat} {met : Nat → Bool} {whole : Bool} (h : Met l i q k met whole) : q.length ≤ l.length + 1 := by
  have h1 : (q.drop 1).length ≤ (List.range l.length).length := (h.nodup).length_le_of_subset (fun x hx => List.mem_range.2 (h.lt x (List.mem_of_mem_drop hx)))
  simp at h1
  omega

theorem Met2.len {l : List MItem} {i : Nat} {q : List Nat} {k : Nat} {ds : List MDot} {c : Nat} {met : Nat → Bool} {whole : Bool} (h : Met2 l i q k ds c met whole) : q.length ≤ l.length + 1 := by
  have h1 : (q.drop 1).length ≤ (List.range l.length).length := (h.nodup).length_le_of_subset (fun x hx => List.mem_range.2 (h.lt x (List.mem_of_mem_drop hx)))
  simp at h1
  omega
theorem graph_item {l : List MItem} (h : graphP ⟨l⟩ = true) (i : Nat) (hi : i < l.length) : itemP l[i] = true := by
  have h' : (decide (l.length ≤ 100) && upOk itemP itemLt l) = true := h
  rw [Bool.and_eq_true] at h'
  have hs := upOk_at h'.2 hi
  rcases hh : itemP l[i] with _ | _
  · rw [stepOk_bad hi hh] at hs; cases hs
  · rfl
theorem graph_deps {l : List MItem} (h : graphP ⟨l⟩ = true) (i : Nat) (hi : i < l.length) : l[i].fDeps.length ≤ 60 := by
  have h1 : (dotOkP l[i].fD && (decide (l[i].fDeps.length ≤ 60) && upOk dotOkP dotLt l[i].fDeps) && !hasD l[i].fDeps l[i].fD) = true := graph_item h i hi
  rw [Bool.and_eq_true, Bool.and_eq_true, Bool.and_eq_true] at h1
  exact of_decide_eq_true h1.1.2.1


theorem flatten_at {size : Nat} : ∀ {css : List (List Value)}, (∀ c, c ∈ css → c.length = size) → ∀ {j i : Nat}, i < size → css.flatten[j * size + i]? = (css[j]?).bind (fun c => c[i]?)
  | [], _, j, i, _ => by simp
  | c :: r, h, 0, i, hi => by
    have hc := h c (by simp)
    simp only [List.flatten_cons, Nat.zero_mul, Nat.zero_add, List.getElem?_cons_zero, Option.bind_some]
    rw [List.getElem?_append_left (by omega)]
  | c :: r, h, j + 1, i, hi => by
    have hc := h c (by simp)
    have ih := flatten_at (css := r) (fun x hx => h x (by simp [hx])) (j := j) hi
    simp only [List.flatten_cons, List.getElem?_cons_succ]
    rw [List.getElem?_append_right (by rw [Nat.succ_mul]; omega), ← ih]
    congr 1
    rw [Nat.succ_mul]
    omega

/-- A row of one's own whose elements read, below block B, as l. -/
def RowR {α : Type} (size : Nat) (e : TypeId) (R : Rep α) (B : Nat) (w : World) (base : Nat) (v : Value) (l : List α) : Prop :=
  ∃ css : List (List Value), css.length = l.length ∧ (∀ c, c ∈ css → c.length = size) ∧ (∀ j, (h : j < l.length) → (h2 : j < css.length) → R B w css[j] l[j]) ∧ w.ownsRow base e size v l.length css.flatten

theorem RowR.start {α : Type} {size : Nat} {e : TypeId} {R : Rep α} {B : Nat} {w : World} {base : Nat} : RowR size e R B w base (.slice none 0 0) [] :=
  ⟨[], rfl, (fun _ h => by cases h), (fun _ h => by simp at h), by simp, .inl ⟨rfl, rfl⟩⟩

theorem RowR.leaf {α : Type} {size : Nat} {e : TypeId} {R : Rep α} (hR : R.Good) {B : Nat} {w : World} {base : Nat} {v : Value} {l : List α} (h : RowR size e R B w base v l) (hB : B ≤ w.heap.size) :
    ∃ a c, v = .slice a l.length c ∧ LeafL size R w.heap.size w a c l := by
  obtain ⟨css, h1, h2, h3, h4⟩ := h
  rcases h4.2 with ⟨rfl, h0⟩ | ⟨g, cap, cur, rfl, hb, hg, hnc, hm, hs, ht⟩
  · have : l = [] := List.eq_nil_of_length_eq_zero h0
    subst this
    exact ⟨none, 0, rfl, by simp, by omega, fun j hj => by simp at hj⟩
  · refine ⟨_, cap, rfl, hnc, by simpa [maxLen] using hm, fun j hj => ?_⟩
    have hj2 : j < css.length := by omega
    refine ⟨g, 0, rfl, (Array.getElem?_eq_some_iff.1 hg).1, css[j], h2 _ (List.getElem_mem hj2), fun i u hu => ?_, hR.mono (h3 j hj hj2) hB⟩
    have hi : i < size := by
      have := (List.getElem?_eq_some_iff.1 hu).1
      rw [h2 _ (List.getElem_mem hj2)] at this
      exact this
    have hf := flatten_at h2 (j := j) hi
    rw [List.getElem?_eq_getElem hj2, Option.bind_some, hu, ← ht, List.getElem?_take] at hf
    split at hf
    · rw [Nat.zero_add, cell_of_row w g _ cur e (0, 0) hg]
      simpa using hf
    · cases hf

theorem RowR.push {α : Type} {size : Nat} {e : TypeId} {R : Rep α} (hR : R.Good) {B : Nat} {w w' : World} {base : Nat} {v' : Value} {l : List α} {m : α} {cs : List Value} {css : List (List Value)}
    (h1 : css.length = l.length) (h2 : ∀ c, c ∈ css → c.length = size) (h3 : ∀ j, (h : j < l.length) → (h2 : j < css.length) → R B w css[j] l[j]) (hb : Below B w w') (hc : cs.length = size) (hr : R B w' cs m)
    (ho : w'.ownsRow base e size v' (l.length + 1) (css.flatten ++ cs)) : RowR size e R B w' base v' (l ++ [m]) := by
  refine ⟨css ++ [cs], by simp [h1], ?_, ?_, by simpa using ho⟩
  · intro c hcm
    rcases List.mem_append.1 hcm with h | h
    · exact h2 c h
    · simp at h; subst h; exact hc
  · intro j hj hj2
    by_cases hjl : j < l.length
    · rw [List.getElem_append_left (by omega), List.getElem_append_left hjl]
      exact hR.below (h3 j hjl (by omega)) hb
    · have hje : j = l.length := by simp at hj; omega
      subst hje
      rw [List.getElem_append_right (by omega), List.getElem_append_right (Nat.le_refl _)]
      simp [h1, hr]

theorem bx_news {w : World} {b : Nat} {vs : List Value} (h : Bx w b vs) : ∀ j u, vs[j]? = some u → w.cell? ((⟨b, 0, none⟩ : Addr).add j) = some u := by
  intro j u hu
  have h2 := h.2 j u hu
  have e : ((⟨b, 0, none⟩ : Addr).add j) = ⟨b, j, none⟩ := by
    unfold Addr.add
    split
    · next h0 => subst h0; rfl
    · simp
  rw [e]
  exact h2

theorem RowR.lt {α : Type} {size : Nat} {e : TypeId} {R : Rep α} {B : Nat} {w : World} {base : Nat} {v : Value} {l : List α} (h : RowR size e R B w base v l) : ∀ k, v.ownBlock = some k → base ≤ k ∧ k < w.heap.size := by
  obtain ⟨css, h1, h2, h3, h4⟩ := h
  exact fun k hk => h4.lt k hk

theorem RowR.base {α : Type} {size : Nat} {e : TypeId} {R : Rep α} {B : Nat} {w : World} {base base' : Nat} {v : Value} {l : List α} (h : RowR size e R B w base v l) (hb : base' ≤ base) : RowR size e R B w base' v l := by
  obtain ⟨css, h1, h2, h3, h4⟩ := h
  exact ⟨css, h1, h2, h3, own_base h4 hb⟩

theorem RowR.keep {α : Type} {size : Nat} {e : TypeId} {R : Rep α} (hR : R.Good) {B : Nat} {w w' : World} {base : Nat} {v : Value} {l : List α} (h : RowR size e R B w base v l) (hb : Below w.heap.size w w') (hB : B ≤ w.heap.size) : RowR size e R B w' base v l := by
  obtain ⟨css, h1, h2, h3, h4⟩ := h
  exact ⟨css, h1, h2, fun j hj hj2 => hR.below (h3 j hj hj2) (hb.mono hB), own_below h4 hb⟩

end Go.Proofs.YtedjmmaihpfndaaDoor
