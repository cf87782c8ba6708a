/-
  What is reached in a graph: the specification's way.
-/
import Derived.Test.YtmigamgcmhdncaaDoorRegK
import Derived.Test.YtmigamgcmhdncaaDoorRchN
import Derived.Test.YtmigamgcmhdncaaDoorCatG
import Derived.Laws.OwnMore
namespace Go.Proofs.YtmigamgcmhdncaaDoor
open Go.RowKit
set_option linter.unusedVariables false
set_option linter.unusedSimpArgs false
set_option maxRecDepth 10000
abbrev q44d_64_7_0 : Oper := ⟨some 25, .fieldAddr 30 (.tmp 2) 0, 0, "l08_graph.go:85", #[], none⟩
abbrev q44d_64_7_1 : Oper := ⟨some 26, .load 28 (.tmp 25), 28, "l08_graph.go:85", #[⟨0, .data⟩], none⟩
abbrev q44d_64_7_2 : Oper := ⟨some 27, .move (.tmp 8), 117, "l08_graph.go:85", #[], none⟩
abbrev q44d_64_7_3 : Oper := ⟨some 28, .move (.tmp 9), 3, "l08_graph.go:85", #[], none⟩
abbrev q44d_64_7_4 : Oper := ⟨some 29, .indexAddr 117 (.tmp 27) (.tmp 28), 0, "l08_graph.go:85", #[⟨2, .data⟩, ⟨3, .data⟩], none⟩
abbrev q44d_64_7_5 : Oper := ⟨some 30, .load 3 (.tmp 29), 3, "l08_graph.go:85", #[⟨4, .data⟩], none⟩
abbrev q44d_64_7_6 : Oper := ⟨some 31, .indexAddr 28 (.tmp 26) (.tmp 30), 0, "l08_graph.go:85", #[⟨1, .data⟩, ⟨5, .data⟩], none⟩
abbrev q44d_64_7_7 : Oper := ⟨some 32, .fieldAddr 52 (.tmp 31) 1, 0, "l08_graph.go:85", #[⟨6, .data⟩], none⟩
abbrev q44d_64_7_8 : Oper := ⟨some 33, .load 26 (.tmp 32), 26, "l08_graph.go:85", #[⟨7, .data⟩], none⟩
abbrev q44d_64_7_9 : Oper := ⟨some 10, .assign (.tmp 33), 26, "l08_graph.go:85", #[⟨8, .data⟩, ⟨0, .phase⟩, ⟨1, .phase⟩, ⟨2, .phase⟩, ⟨3, .phase⟩, ⟨4, .phase⟩, ⟨5, .phase⟩, ⟨6, .phase⟩, ⟨7, .phase⟩, ⟨8, .phase⟩], none⟩
abbrev q44d_64_11_0 : Oper := ⟨some 40, .load 30 (.tmp 2), 30, "l08_graph.go:87", #[], none⟩
abbrev q44d_64_11_1 : Oper := ⟨some 41, .move (.tmp 10), 26, "l08_graph.go:87", #[], none⟩
abbrev q44d_64_11_2 : Oper := ⟨some 42, .move (.tmp 11), 3, "l08_graph.go:87", #[], none⟩
abbrev q44d_64_11_3 : Oper := ⟨some 43, .indexAddr 26 (.tmp 41) (.tmp 42), 0, "l08_graph.go:87", #[⟨1, .data⟩, ⟨2, .data⟩], none⟩
abbrev q44d_64_11_4 : Oper := ⟨some 44, .load 40 (.tmp 43), 40, "l08_graph.go:87", #[⟨3, .data⟩], none⟩
abbrev q44d_64_11_5 : Oper := ⟨some 45, .call { callee := .value (.func 44), args := #[.tmp 40, .tmp 44], argTypes := #[30, 40] }, 3, "l08_graph.go:87", #[⟨0, .data⟩, ⟨4, .data⟩], none⟩
abbrev q44d_64_11_6 : Oper := ⟨some 12, .assign (.tmp 45), 3, "l08_graph.go:87", #[⟨5, .data⟩, ⟨5, .chain⟩, ⟨0, .phase⟩, ⟨1, .phase⟩, ⟨2, .phase⟩, ⟨3, .phase⟩, ⟨4, .phase⟩, ⟨5, .phase⟩], none⟩

theorem Tryd.infoOfBool : (Tryd.prog.info? 4).map (fun i => (i.zero, i.size, i.bytes)) = some (some (.bool false), 1, 1) := by kernel_rfl
theorem Tryd.infoOfInt : (Tryd.prog.info? 3).map (fun i => (i.zero, i.size, i.bytes)) = some (some (.int .i64 0), 1, 8) := by kernel_rfl
def boolC (bs : List Bool) : List Value := bs.map Value.bool
def natC (q : List Nat) : List Value := q.map (fun (j : Nat) => Value.int .i64 (j : Int))
theorem boolC_at {bs : List Bool} {j : Nat} (h : j < bs.length) : (boolC bs)[j]? = some (.bool (bs.getD j false)) := by
  unfold boolC
  rw [List.getElem?_map, List.getElem?_eq_getElem h, List.getD_eq_getElem?_getD, List.getElem?_eq_getElem h]
  rfl
theorem boolC_set {bs : List Bool} {j : Nat} : (boolC bs).set j (.bool true) = boolC (bs.set j true) := by unfold boolC; rw [List.map_set]
theorem natC_at {q : List Nat} {j : Nat} (h : j < q.length) : (natC q)[j]? = some (.int .i64 (q[j] : Int)) := by unfold natC; rw [List.getElem?_map, List.getElem?_eq_getElem h]; rfl
theorem natC_length (q : List Nat) : (natC q).length = q.length := by unfold natC; simp
theorem bw_made {w : World} {g n base : Nat} {e : TypeId} (h : w.ownsRow base e 1 (.slice (some ⟨g, 0, none⟩) n n) n (madeCells (Value.bool false).cells (n * 1)).toList) : Bw w g e (boolC (List.replicate n false)) := by
  rcases h.2 with ⟨h', _⟩ | ⟨g', cap, cur, h', hb, hg, hnc, hm, hs, ht⟩
  · cases h'
  · simp only [Value.slice.injEq, Option.some.injEq, Addr.mk.injEq, and_true, true_and] at h'
    obtain ⟨rfl, rfl⟩ := h'
    have e1 : cur.toList = boolC (List.replicate n false) := by
      rw [List.take_of_length_le (by simp; omega)] at ht
      rw [ht]
      have h2 := toList_madeCells_one (.bool false) (n * 1)
      rw [Nat.mul_one] at h2 ⊢
      have h3 : (Value.bool false).cells = #[.bool false] := rfl
      rw [h3, h2]
      unfold boolC
      simp
    show w.heap[g]? = _
    rw [hg, ← e1]
theorem own_one (w : World) (base e : Nat) (v : Value) (h : base ≤ w.heap.size) : (w.alloc (.cells #[v] e)).ownsRow base e 1 (.slice (some ⟨w.heap.size, 0, none⟩) 1 1) 1 [v] :=
  ⟨by simp, .inr ⟨w.heap.size, 1, #[v], rfl, h, (show (w.heap.push _)[w.heap.size]? = _ from Array.getElem?_push_size), by omega, by simp [maxLen], by simp, by simp⟩⟩
theorem own_at {w : World} {base e n : Nat} {v : Value} {xs : List Value} (h : w.ownsRow base e 1 v n xs) (hn : 0 < n) : ∃ b c, v = .slice (some ⟨b, 0, none⟩) n c ∧ base ≤ b ∧ b < w.heap.size ∧ ∀ j u, xs[j]? = some u → w.cell? ⟨b, j, none⟩ = some u := by
  rcases h.2 with ⟨_, h0⟩ | ⟨g, cap, cur, rfl, hb, hg, hnc, hm, hs, ht⟩
  · omega
  · refine ⟨g, cap, rfl, hb, (Array.getElem?_eq_some_iff.1 hg).1, fun j u hu => ?_⟩
    rw [cell_of_row w g j cur e (0, 0) hg]
    rw [← ht, List.getElem?_take] at hu
    split at hu
    · simpa using hu
    · cases hu
def RSt (g n : Nat) (w2 : World) (bs : List Bool) (q : List Nat) (qv : Value) (W : World) : Prop :=
  bs.length = n ∧ Bw W g 4 (boolC bs) ∧ W.ownsRow (g + 1) 3 1 qv q.length (natC q) ∧ Below g w2 W ∧ g < w2.heap.size
theorem RSt.under {g n : Nat} {w2 W W' : World} {bs : List Bool} {q : List Nat} {qv : Value} (h : RSt g n w2 bs q qv W) (hb : Below W.heap.size W W') : RSt g n w2 bs q qv W' := by
  obtain ⟨h1, h2, h3, h4, h5⟩ := h
  have hl := h2.lt
  exact ⟨h1, h2.under hb, own_below h3 hb, h4.trans (hb.mono (by omega)), h5⟩
theorem RSt.mark {g n : Nat} {w2 W : World} {bs : List Bool} {q : List Nat} {qv : Value} (h : RSt g n w2 bs q qv W) {t : Nat} (ht : t < n) : RSt g n w2 (bs.set t true) q qv (W.setCell ⟨g, t, none⟩ (.bool true)) := by
  obtain ⟨h1, h2, h3, h4, h5⟩ := h
  refine ⟨by simpa using h1, by rw [← boolC_set]; exact h2.put t _, own_of_block h3 (fun k hk => ?_), h4.setCell (Nat.le_refl _) _, h5⟩
  have := (h3.lt k hk).1
  exact heap_setCell_other W ⟨g, t, none⟩ k _ (show k ≠ g by omega)
theorem RSt.app {g n : Nat} {w2 W W' : World} {bs : List Bool} {q : List Nat} {qv v' : Value} (h : RSt g n w2 bs q qv W) {t : Nat} (ho : W'.ownsRow (g + 1) 3 1 v' (q.length + 1) (natC q ++ [.int .i64 (t : Int)])) (hg : W.grownBy W' qv.ownBlock) : RSt g n w2 bs (q ++ [t]) v' W' := by
  obtain ⟨h1, h2, h3, h4, h5⟩ := h
  have hl := h2.lt
  have hne : ∀ k, qv.ownBlock = some k → g + 1 ≤ k := fun k hk => (h3.lt k hk).1
  refine ⟨h1, (hg.block g hl (fun e => by have := hne g e.symm; omega)).trans h2, ?_, h4.grown hg (by have := h4.size; omega) (fun k hk => by have := hne k hk; omega), h5⟩
  have e1 : (q ++ [t]).length = q.length + 1 := by simp
  have e2 : natC (q ++ [t]) = natC q ++ [.int .i64 (t : Int)] := by unfold natC; simp
  rw [e1, e2]
  exact ho
theorem getD_set {bs : List Bool} {t j : Nat} (ht : t < bs.length) : (bs.set t true).getD j false = true ↔ bs.getD j false = true ∨ j = t := by
  rw [List.getD_eq_getElem?_getD, List.getD_eq_getElem?_getD, List.getElem?_set]
  by_cases h : t = j
  · subst h; simp [ht]
  · rw [if_neg h]
    constructor
    · exact fun g => .inl g
    · rintro (g | g)
      · exact g
      · exact absurd g.symm h

set_option maxHeartbeats 4000000 in
theorem l8Reach_any (cs : List Value) (m : MGraph) (i : Nat) (w : World) (hr : rGraph w.heap.size w cs m) (hg : graphP m = true) (hi : i < m.fItems.length) :
    Calls Tryd.prog 64 #[.agg cs.toArray, .int .i64 i] w fun e w' => ∃ (g : Nat) (bs : List Bool) (b : Bool), e = .returned (.tuple #[.slice (some ⟨g, 0, none⟩) m.fItems.length m.fItems.length, .bool b]) ∧ Bw w' g 4 (boolC bs) ∧ w.heap.size ≤ g ∧ bs.length = m.fItems.length ∧ (∀ j, bs.getD j false = true ↔ Reach m.fItems i j) ∧ (b = true ↔ wholeAt m.fItems i) ∧ Below w.heap.size w w' := by
  obtain ⟨iB, hiB, hzB0, hzB1, hzB2⟩ := info_parts Tryd.infoOfBool
  obtain ⟨iI, hiI, hzI0, hzI1, hzI2⟩ := info_parts Tryd.infoOfInt
  have HRG := Hid.mk hr
  have HGO : Hid (graphP ⟨m.fItems⟩ = true) := hg
  have hn : m.fItems.length ≤ 100 := by
    have h' : (decide (m.fItems.length ≤ 100) && upOk itemP itemLt m.fItems) = true := hg
    rw [Bool.and_eq_true] at h'
    exact of_decide_eq_true h'.1
  obtain ⟨a, cap, rfl, hL, _⟩ := hr
  obtain ⟨l, hl⟩ : ∃ l, l = m.fItems := ⟨_, rfl⟩
  have HLM := Hid.mk hl
  have HNM : Hid (m.fItems.length ≤ 1048576) := Hid.mk (by omega)
  rw [← hl] at hL hn HGO HRG hi ⊢
  clear hl hg
  obtain ⟨n, hx⟩ : ∃ n, n = l.length := ⟨_, rfl⟩
  rw [← hx] at hn HRG hi ⊢
  have HX := Hid.mk hx.symm
  have HL := Hid.mk hL
  clear hL hx
  go_enter Tryd.func64, Tryd.ntmps64
  go_wp2_with (at_make; refine wpList_make_full _ rfl _ _ 58 rfl w.heap.size 4 iB (.bool false) 1 Tryd.underlying58 hiB hzB0 hzB1 .i64 .i64 _ _ n rfl rfl rfl rfl (by rw [hzB2]; omega) (by unfold maxLen; omega) (by simp) ?_; intro w1 hown hgr)
  -- behind the make
  have hb01 : Below w.heap.size w w1 := ((Below.refl _ _).alloc (Nat.le_refl _) _).grown hgr (by simp) (fun k h => by cases h)
  have hbx1 : Bx w1 w.heap.size [.slice a n cap] := (Bx.new w [.slice a n cap] 30).below ((Below.refl _ _).grown hgr (Nat.le_refl _) (fun k h => by cases h)) (by simp)
  have hm1 := bw_made hown
  have hgs : (w.alloc (.cells #[.slice a n cap] 30)).heap.size = w.heap.size + 1 := by simp
  rw [hgs] at hm1
  have hl1 := hm1.lt
  obtain ⟨w2, hw2⟩ : ∃ x, x = w1.alloc (.cells #[.int .i64 (i : Int)] 3) := ⟨_, rfl⟩
  have hb12 : Below w1.heap.size w1 w2 := by rw [hw2]; exact (Below.refl _ _).alloc (Nat.le_refl _) _
  have hbx2 := hbx1.under hb12
  have hb02 : Below w.heap.size w w2 := hb01.trans (hb12.mono hb01.size)
  have HS0 : Hid (RSt (w.heap.size + 1) n w2 (List.replicate n false) [i] (.slice (some ⟨w1.heap.size, 0, none⟩) 1 1) w2) := ⟨by simp, hm1.under hb12, by rw [hw2]; exact own_one w1 _ _ _ (by omega), Below.refl _ _, by have := hb12.size; omega⟩
  have HM0 : Hid (Met l i [i] 0 (fun j => (List.replicate n false).getD j false) true) := by
    have h := Met.start (l := l) (i := i) (by rw [HX.out]; exact hi)
    have e1 : (fun j => (List.replicate n false).getD j false) = fun _ => false := by
      funext j
      rw [List.getD_eq_getElem?_getD, List.getElem?_replicate]
      split <;> rfl
    unfold Hid
    rw [e1]; exact h
  clear hown hgr hm1 hbx1
  rw [← hw2]
  clear hw2
  go_loopw [7, 8, 9] (fun wv qv kv wr => ∃ (k : Nat) (q : List Nat) (bs : List Bool) (b : Bool), k ≤ q.length ∧ kv = .int .i64 k ∧ wv = .bool b ∧ Hid (Met l i q k (fun j => bs.getD j false) b) ∧ Hid (RSt (w.heap.size + 1) n w2 bs q qv wr)) (fun _ _ kv _ => n + 1 - (intOf kv).toNat)
  case atStart => exact ⟨0, [i], _, true, by simp, rfl, rfl, HM0, HS0⟩
  case round =>
    obtain ⟨k, q, bs, b, hk, rfl, rfl, HM, HS⟩ := hrel
    have hql : q.length ≤ n + 1 := by have h1 := HM.out.len; have h2 := HX.out; omega
    have hq1 : 0 < q.length := by
      have h := HM.out.head
      cases q with
      | nil => cases h
      | cons a r => simp
    obtain ⟨bq, cq, rfl, hbq1, hbq2, hcq⟩ := own_at HS.out.2.2.1 hq1
    have hbk := HS.out.2.2.2.1
    have hzk : w.heap.size + 1 < wr.heap.size := HS.out.2.1.lt
    have hbw : Below w.heap.size w wr := hb02.trans (hbk.mono (by omega))
    have hbx := hbx2.below hbk (by omega)
    by_cases hlt : k < q.length
    · have hqk : q[k] < l.length := HM.out.lt _ (List.getElem_mem hlt)
      have hqk2 : q[k] < n := by have := HX.out; omega
      obtain ⟨b1, o1, rfl, hB, cs, hcl, hcell, a2, c2, rfl, g0, g1, g2, _⟩ := HL.out.2.2 q[k] hqk
      have HD2 := Hid.mk g2
      have kk := (hbw.cell (p := ⟨b1, o1 + q[k] * 3 + 2, none⟩) hB).trans (hcell 2 _ rfl)
      have hB' : b1 < wr.heap.size := Nat.lt_of_lt_of_le hB hbw.size
      have kq := hcq k _ (natC_at hlt)
      obtain ⟨ds, hds⟩ : ∃ ds, ds = l[q[k]].fDeps := ⟨_, rfl⟩
      rw [← hds] at kk HD2
      have HM2 : Hid (Met2 l i q k ds 0 (fun j => bs.getD j false) b) := HM.out.enter hlt hqk hds.symm
      have hdl : ds.length ≤ 100 := by
        have h1 := graph_deps HGO.out q[k] hqk
        rw [← hds] at h1
        omega
      clear hcell hcl g2 hds HM
      generalize hpq : q[k] = pq at *
      clear hpq
      have x0 : ∀ W, Below wr.heap.size wr W → W.cell? ⟨w.heap.size, 0, none⟩ = some (.slice (some ⟨b1, o1, none⟩) n cap) := fun W h => (hbx.under h).2 0 _ rfl
      have x1 : ∀ W, Below wr.heap.size wr W → W.cell? ⟨bq, k, none⟩ = some (.int .i64 (pq : Int)) := fun W h => (h.cell (p := ⟨bq, k, none⟩) hbq2).trans kq
      have x2 : ∀ W, Below wr.heap.size wr W → W.cell? ⟨b1, o1 + pq * 3 + 2, none⟩ = some (.slice a2 ds.length c2) := fun W h => (h.cell (p := ⟨b1, o1 + pq * 3 + 2, none⟩) hB').trans kk
      have hi1 : (0 : Int) ≤ (pq : Int) := by omega
      have hi2 : (pq : Int) < (n : Int) := by omega
      have hi3 : (0 : Int) ≤ (k : Int) := by omega
      have hi4 : (k : Int) < (q.length : Int) := by omega
      go_wp2_with fail
      refine wp_region_held_drew (S := fun W => Below wr.heap.size wr W) (by kernel_rfl) (Below.drew (Below.refl _ _)) (fun hHeld => ?_)
      refine tk 0 q44d_64_7_0 (some 25) (v := ?v1) rfl rfl (by kernel_rfl) hHeld (by rfl) (fun _ _ _ x => x) (fun w h => ?y1) ?_; (case y1 => (try dsimp only at h); go_simp; try (with_reducible rfl)); try simp only [Act.put, sa, s0, s1]
      refine tk 1 q44d_64_7_1 (some 26) (v := ?v2) rfl rfl (by kernel_rfl) hHeld (by rfl) (fun _ _ _ x => x) (fun w h => ?y2) ?_; (case y2 => (try dsimp only at h); go_simp; try (with_reducible rfl)); try simp only [Act.put, sa, s0, s1]
      refine tk 2 q44d_64_7_2 (some 27) (v := ?v3) rfl rfl (by kernel_rfl) hHeld (by rfl) (fun _ _ _ x => x) (fun w h => ?y3) ?_; (case y3 => (try dsimp only at h); go_simp; try (with_reducible rfl)); try simp only [Act.put, sa, s0, s1]
      refine tk 3 q44d_64_7_3 (some 28) (v := ?v4) rfl rfl (by kernel_rfl) hHeld (by rfl) (fun _ _ _ x => x) (fun w h => ?y4) ?_; (case y4 => (try dsimp only at h); go_simp; try (with_reducible rfl)); try simp only [Act.put, sa, s0, s1]
      refine tk 4 q44d_64_7_4 (some 29) (v := ?v5) rfl rfl (by kernel_rfl) hHeld (by rfl) (fun _ _ _ x => x) (fun w h => ?y5) ?_; (case y5 => (try dsimp only at h); go_simp; try (with_reducible rfl)); try simp only [Act.put, sa, s0, s1]
      refine tk 5 q44d_64_7_5 (some 30) (v := ?v6) rfl rfl (by kernel_rfl) hHeld (by rfl) (fun _ _ _ x => x) (fun w h => ?y6) ?_; (case y6 => (try dsimp only at h); go_simp; try (with_reducible rfl)); try simp only [Act.put, sa, s0, s1]
      refine tk 6 q44d_64_7_6 (some 31) (v := ?v7) rfl rfl (by kernel_rfl) hHeld (by rfl) (fun _ _ _ x => x) (fun w h => ?y7) ?_; (case y7 => (try dsimp only at h); go_simp; try (with_reducible rfl)); try simp only [Act.put, sa, s0, s1]
      refine tk 7 q44d_64_7_7 (some 32) (v := ?v8) rfl rfl (by kernel_rfl) hHeld (by rfl) (fun _ _ _ x => x) (fun w h => ?y8) ?_; (case y8 => (try dsimp only at h); go_simp; try (with_reducible rfl)); try simp only [Act.put, sa, s0, s1]
      refine tk 8 q44d_64_7_8 (some 33) (v := ?v9) rfl rfl (by kernel_rfl) hHeld (by rfl) (fun _ _ _ x => x) (fun w h => ?y9) ?_; (case y9 => (try dsimp only at h); go_simp; try (with_reducible rfl)); try simp only [Act.put, sa, s0, s1]
      refine tk 9 q44d_64_7_9 (some 10) (v := ?v10) rfl rfl (by kernel_rfl) hHeld (by rfl) (fun _ _ _ x => x) (fun w h => ?y10) ?_; (case y10 => (try dsimp only at h); go_simp; try (with_reducible rfl)); try simp only [Act.put, sa, s0, s1]
      refine wpAnyH_done (by kernel_rfl) ?_ _
      obtain ⟨wo, hwo⟩ : ∃ x, x = wr.drew := ⟨_, rfl⟩
      rw [← hwo] at hHeld ⊢
      clear hwo x0 x1 x2
      have HS1 := Hid.mk (HS.out.under hHeld)
      clear HS kq kk hbx hcq hbk hzk hbw hB' hbq2 hHeld
      go_wp2_with fail
      go_loopw [7, 8, 11] (fun wv qv cv wr => ∃ (c : Nat) (q : List Nat) (bs : List Bool) (b : Bool), c ≤ ds.length ∧ cv = .int .i64 c ∧ wv = .bool b ∧ Hid (Met2 l i q k ds c (fun j => bs.getD j false) b) ∧ Hid (RSt (w.heap.size + 1) n w2 bs q qv wr)) (fun _ _ cv _ => ds.length - (intOf cv).toNat)
      case atStart => exact ⟨0, q, bs, b, Nat.zero_le _, rfl, rfl, HM2, HS1⟩
      case round =>
        obtain ⟨c, q2, bs2, b2, hc, rfl, rfl, HN, HT⟩ := hrel
        have hq21 : 0 < q2.length := by have h := HN.out.kl; omega
        have hq22 : q2.length ≤ n + 1 := by have h1 := HN.out.len; have h2 := HX.out; omega
        obtain ⟨bq2, cq2, rfl, hbq21, hbq22, hcq2⟩ := own_at HT.out.2.2.1 hq21
        have hbk := HT.out.2.2.2.1
        have hzk : w.heap.size + 1 < wr.heap.size := HT.out.2.1.lt
        have hbw : Below w.heap.size w wr := hb02.trans (hbk.mono (by omega))
        have hbx := hbx2.below hbk (by omega)
        by_cases hlc : c < ds.length
        · obtain ⟨b3, o3, rfl, hB3, cs3, hcl3, hcell3, rfl, f0, f1, _⟩ := (HD2.out.2.2.below rDot_good hbw) c hlc
          have hB3' : b3 < wr.heap.size := Nat.lt_of_lt_of_le hB3 hbw.size
          have k0 := hcell3 0 _ rfl
          have k1 := hcell3 1 _ rfl
          rw [Nat.add_zero] at k0
          have HMI : Hid (∀ hn : (∀ j, (hj : j < l.length) → sameD l[j].fD ds[c] = false), Met2 l i q2 k ds (c + 1) (fun j => bs2.getD j false) false) := fun hn => HN.out.miss hlc hn
          have HOL : Hid (∀ t, (ht : t < l.length) → sameD l[t].fD ds[c] = true → bs2.getD t false = true → Met2 l i q2 k ds (c + 1) (fun j => bs2.getD j false) b2) := fun t ht hs hm => HN.out.old HGO.out hlc ht hs hm
          have HNE : Hid (∀ t, (ht : t < l.length) → sameD l[t].fD ds[c] = true → bs2.getD t false = false → Met2 l i (q2 ++ [t]) k ds (c + 1) (fun j => (bs2.set t true).getD j false) b2) := fun t ht hs hm => HN.out.new HGO.out hlc ht hs hm (fun j => getD_set (by rw [HT.out.1, ← HX.out]; exact ht))
          clear hcell3 hcl3
          generalize ds[c] = d at *
          have x0 : ∀ W, Below wr.heap.size wr W → W.cell? ⟨w.heap.size, 0, none⟩ = some (.slice (some ⟨b1, o1, none⟩) n cap) := fun W h => (hbx.under h).2 0 _ rfl
          have y0 : ∀ W, Below wr.heap.size wr W → W.cell? ⟨b3, o3 + c * 2, none⟩ = some (.int .i64 d.fR) := fun W h => (h.cell (p := ⟨b3, o3 + c * 2, none⟩) hB3').trans k0
          have y1 : ∀ W, Below wr.heap.size wr W → W.cell? ⟨b3, o3 + c * 2 + 1, none⟩ = some (.int .i64 d.fN) := fun W h => (h.cell (p := ⟨b3, o3 + c * 2 + 1, none⟩) hB3').trans k1
          have hCa := fun W (hb : Below wr.heap.size wr W) => l8At_any [.slice (some ⟨b1, o1, none⟩) n cap] m [.int .i64 d.fR, .int .i64 d.fN] d W (rGraph_good.mono (rGraph_good.below HRG.out (hbw.trans (hb.mono hbw.size))) (Nat.le_trans hbw.size hb.size)) HNM.out ⟨rfl, f0, f1, trivial⟩
          have hc1 : (0 : Int) ≤ (c : Int) := by omega
          have hc2 : (c : Int) < (ds.length : Int) := by omega
          go_wp2_with fail
          refine wp_region_held_drew (S := fun W => Below wr.heap.size wr W) (by kernel_rfl) (Below.drew (Below.refl _ _)) (fun hHeld => ?_)
          refine tk 0 q44d_64_11_0 (some 40) (v := ?v11) rfl rfl (by kernel_rfl) hHeld (by rfl) (fun _ _ _ x => x) (fun w h => ?y11) ?_; (case y11 => (try dsimp only at h); go_simp; try (with_reducible rfl)); try simp only [Act.put, sa, s0, s1]
          refine tk 1 q44d_64_11_1 (some 41) (v := ?v12) rfl rfl (by kernel_rfl) hHeld (by rfl) (fun _ _ _ x => x) (fun w h => ?y12) ?_; (case y12 => (try dsimp only at h); go_simp; try (with_reducible rfl)); try simp only [Act.put, sa, s0, s1]
          refine tk 2 q44d_64_11_2 (some 42) (v := ?v13) rfl rfl (by kernel_rfl) hHeld (by rfl) (fun _ _ _ x => x) (fun w h => ?y13) ?_; (case y13 => (try dsimp only at h); go_simp; try (with_reducible rfl)); try simp only [Act.put, sa, s0, s1]
          refine tk 3 q44d_64_11_3 (some 43) (v := ?v14) rfl rfl (by kernel_rfl) hHeld (by rfl) (fun _ _ _ x => x) (fun w h => ?y14) ?_; (case y14 => (try dsimp only at h); go_simp; try (with_reducible rfl)); try simp only [Act.put, sa, s0, s1]
          refine tk 4 q44d_64_11_4 (some 44) (v := ?v15) rfl rfl (by kernel_rfl) hHeld (by rfl) (fun _ _ _ x => x) (fun w h => ?y15) ?_; (case y15 => (try dsimp only at h); go_simp; try (with_reducible rfl)); try simp only [Act.put, sa, s0, s1]
          refine wpAnyH_ready (rs := [5]) (by kernel_rfl) (by simp) ?_
          refine AllReadyH.cons (o := q44d_64_11_5) rfl (fun K hK => ?_) AllReadyH.nil
          go_simp
          refine Calls.mono (hCa _ hHeld) ?_
          rintro e wA ⟨z, rfl, hAt, hx1⟩
          go_wp2_with fail
          refine hK.out _ _ (bthen hHeld hx1) (fun hHeld => ?_)
          clear hK K
          try simp only [Act.put, sa, s0, s1]
          refine tk 6 q44d_64_11_6 (some 12) (v := ?v16) rfl rfl (by kernel_rfl) hHeld (by rfl) (fun _ _ _ x => x) (fun w h => ?y16) ?_; (case y16 => (try dsimp only at h); go_simp; try (with_reducible rfl)); try simp only [Act.put, sa, s0, s1]
          refine wpAnyH_done (by kernel_rfl) ?_ _
          rw [← HLM.out] at hAt
          have HT2 := Hid.mk (HT.out.under hHeld)
          clear x0 y0 y1 hCa
          rcases hAt with ⟨t, rfl, ht, hs⟩ | ⟨rfl, hno⟩
          rotate_left
          · have HMn := Hid.mk (HMI.out hno)
            go_wp2_with fail
            go_roundw
            case rel => exact ⟨c + 1, q2, bs2, false, by omega, by go_num, rfl, HMn, HT2⟩
            case measure => simp [intOf]; omega
          have htn : t < n := by have := HX.out; omega
          have hz1 : ¬ (t : Int) < 0 := by omega
          have hz2 : (t : Int) < (n : Int) := by omega
          have hz3 : (0 : Int) ≤ (t : Int) := by omega
          have km := HT2.out.2.1.cell t _ (boolC_at (by rw [HT2.out.1]; exact htn))
          rcases hm : bs2.getD t false with _ | _
          · rw [hm] at km
            have HMn := Hid.mk (HNE.out t ht hs hm)
            have kf := HT2.out.2.1.free t
            have kl := HT2.out.2.1.lt
            have HT3 := Hid.mk (HT2.out.mark htn)
            have HT4 := Hid.mk (HT3.out.under ((Below.refl _ _).alloc (Nat.le_refl _) (.cells #[.int .i64 (t : Int)] 3)))
            have hown4 := HT4.out.2.2.1
            have hsz4 := HT4.out.2.1.lt
            have hbx4 := Bx.new (wA.setCell ⟨w.heap.size + 1, t, none⟩ (.bool true)) [.int .i64 (t : Int)] 3
            obtain ⟨w4, hw4⟩ : ∃ x, x = (wA.setCell ⟨w.heap.size + 1, t, none⟩ (.bool true)).alloc (.cells #[.int .i64 (t : Int)] 3) := ⟨_, rfl⟩
            rw [← hw4] at HT4 hown4 hsz4
            have hbx5 : Bx w4 (wA.setCell ⟨w.heap.size + 1, t, none⟩ (.bool true)).heap.size [.int .i64 (t : Int)] := by rw [hw4]; exact hbx4
            have hszA : (wA.setCell ⟨w.heap.size + 1, t, none⟩ (.bool true)).heap.size = wA.heap.size := by simp
            rw [hszA] at hbx5
            clear hbx4 hszA
            go_wp2_with (at_builtin; rw [← hw4]; refine wpList_append_src_y rfl _ _ 117 117 rfl (w.heap.size + 1 + 1) 3 iI (.int .i64 0) 1 8 Tryd.underlying117 hiI hzI0 hzI1 hzI2 rfl _ _ _ rfl hown4 _ rfl 1 [.int .i64 (t : Int)] (Src.ofSlice w4 Tryd.underlying117 ⟨wA.heap.size, 0, none⟩ 1 1 _ rfl (bx_news hbx5) (by intro u hu; simp at hu; subst hu; rfl)) (by unfold maxLen; omega) (by omega) (by omega) ?_; intro v5 w5 ho5 hgr5 hat5)
            have HT5 := Hid.mk (HT4.out.app ho5 hgr5)
            clear ho5 hgr5 hat5 hown4
            exact ⟨⟨c + 1, q2 ++ [t], bs2.set t true, b2, by omega, by go_num, rfl, HMn, HT5⟩, by simp [intOf]; omega⟩
          · rw [hm] at km
            have HMn := Hid.mk (HOL.out t ht hs hm)
            go_wp2_with fail
            go_roundw
            case rel => exact ⟨c + 1, q2, bs2, b2, by omega, by go_num, rfl, HMn, HT2⟩
            case measure => simp [intOf]; omega
        · have HMn := Hid.mk (HN.out.leave (by omega))
          go_wp2_with fail
          go_roundw
          case rel => exact ⟨k + 1, q2, bs2, b2, by have h := HN.out.kl; omega, by go_num, rfl, HMn, HT⟩
          case measure => simp [intOf]; omega
    · have hkq : k = q.length := by omega
      have hdn := HM.out.done (by omega)
      have HDN := Hid.mk hdn
      clear hdn
      go_wp2_with fail
      refine bodyPost_ret (v := .tuple #[.slice (some ⟨w.heap.size + 1, 0, none⟩) n n, .bool b]) (by simp [results, Tryd.results64, go_sem]) rfl ⟨w.heap.size + 1, bs, b, rfl, HS.out.2.1, by omega, HS.out.1, HDN.out.1, HDN.out.2, hbw⟩

end Go.Proofs.YtmigamgcmhdncaaDoor
