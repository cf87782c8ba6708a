/-
  Part 22 of the texts that the proof leans on.
-/
import Derived.Test.YtmigamgcmhdncaaDoorOfn0
import Derived.Test.YtmigamgcmhdncaaDoorOfn19
import Derived.Test.YtmigamgcmhdncaaDoorOfn20
import Derived.Test.YtmigamgcmhdncaaDoorOfn6
import Derived.Sort.KeysCollected
import Derived.Test.YtmigamgcmhdncaaDoorOfn18
set_option linter.unusedVariables false
set_option linter.unusedSimpArgs false
set_option maxRecDepth 10000

namespace Go.Proofs.YtmigamgcmhdncaaDoor
open Go.RowKit Go.Shelf Go.Lib Go.Sort
abbrev q8b0_40_1_0 : Oper := ⟨some 5, .fieldAddr 40 (.tmp 2) 0, 0, "l08_graph.go:51", #[], none⟩
abbrev q8b0_40_1_1 : Oper := ⟨some 6, .load 3 (.tmp 5), 3, "l08_graph.go:51", #[⟨0, .data⟩], none⟩
abbrev q8b0_40_1_2 : Oper := ⟨some 7, .fieldAddr 40 (.tmp 3) 0, 0, "l08_graph.go:51", #[], none⟩
abbrev q8b0_40_1_3 : Oper := ⟨some 8, .load 3 (.tmp 7), 3, "l08_graph.go:51", #[⟨2, .data⟩], none⟩
abbrev q8b0_40_1_5 : Oper := ⟨some 10, .fieldAddr 40 (.tmp 2) 1, 0, "l08_graph.go:51", #[], none⟩
abbrev q8b0_40_1_6 : Oper := ⟨some 11, .load 3 (.tmp 10), 3, "l08_graph.go:51", #[⟨5, .data⟩], none⟩
abbrev q8b0_40_1_7 : Oper := ⟨some 12, .fieldAddr 40 (.tmp 3) 1, 0, "l08_graph.go:51", #[], none⟩
abbrev q8b0_40_1_8 : Oper := ⟨some 13, .load 3 (.tmp 12), 3, "l08_graph.go:51", #[⟨7, .data⟩], none⟩
abbrev q8b0_40_1_4 : Oper := ⟨some 9, .call { callee := .value (.func 72), args := #[.tmp 6, .tmp 8], argTypes := #[3, 3] }, 3, "l08_graph.go:51", #[⟨1, .data⟩, ⟨3, .data⟩], none⟩
abbrev q8b0_40_1_9 : Oper := ⟨some 14, .call { callee := .value (.func 72), args := #[.tmp 11, .tmp 13], argTypes := #[3, 3] }, 3, "l08_graph.go:51", #[⟨6, .data⟩, ⟨8, .data⟩, ⟨4, .chain⟩], none⟩
abbrev q8b0_40_1_10 : Oper := ⟨some 15, .buildSlice 117 2 #[(0, .tmp 9), (1, .tmp 14)], 117, "l08_graph.go:51", #[⟨4, .data⟩, ⟨9, .data⟩], none⟩
abbrev q8b0_40_1_11 : Oper := ⟨some 16, .call { callee := .value (.func 71), args := #[.tmp 15], argTypes := #[117] }, 3, "l08_graph.go:51", #[⟨10, .data⟩, ⟨9, .chain⟩], none⟩
abbrev q8b0_40_1_12 : Oper := ⟨some 4, .assign (.tmp 16), 3, "l08_graph.go:51", #[⟨11, .data⟩, ⟨11, .chain⟩, ⟨0, .phase⟩, ⟨1, .phase⟩, ⟨2, .phase⟩, ⟨3, .phase⟩, ⟨4, .phase⟩, ⟨5, .phase⟩, ⟨6, .phase⟩, ⟨7, .phase⟩, ⟨8, .phase⟩, ⟨9, .phase⟩, ⟨10, .phase⟩, ⟨11, .phase⟩], none⟩

/-- Only drawn, and new blocks laid. -/
def Gw (w w' : World) : Prop := ∃ q os', w' = grow (w.drewN q) os'
theorem Gw.refl (w : World) : Gw w w := ⟨0, #[], by rw [grow_empty]; rfl⟩
theorem Gw.alloc {w w' : World} (h : Gw w w') (o : Obj) : Gw w (w'.alloc o) := by
  obtain ⟨q, os, rfl⟩ := h
  exact ⟨q, os ++ #[o], by rw [alloc_eq_grow, grow_grow]⟩
theorem Gw.drew {w w' : World} (h : Gw w w') : Gw w w'.drew := by
  obtain ⟨q, os, rfl⟩ := h
  exact ⟨q + 1, os, rfl⟩
theorem Gw.same {w w' w2 : World} (h : Gw w w') (e : w2 = w') : Gw w w2 := by subst e; exact h
theorem Gw.below {w w' : World} (h : Gw w w') : Below w.heap.size w w' := by
  obtain ⟨q, os, rfl⟩ := h
  exact ⟨rfl, rfl, rfl, by show w.heap.size ≤ (w.heap ++ os).size; simp, fun k hk => Array.getElem?_append_left hk⟩

def encD (e : MDot) : List Value := [.int .i64 e.fR, .int .i64 e.fN]
theorem ltOfD (a b : MDot) : ltOf ordD a b = dotLt a b := by
  unfold ltOf
  by_cases h : dotLt a b = true
  · rw [h]; exact decide_eq_true ((ordD_lt a b).2 h)
  · rw [Bool.eq_false_iff.2 h]; exact decide_eq_false (fun g => h ((ordD_lt a b).1 g))
@[reducible] def inhD : Inhabited MDot := ⟨⟨0, 0⟩⟩
theorem dotLt_no {a b : MDot} : dotLt a b = false ↔ ¬ (a.fR < b.fR ∨ (a.fR = b.fR ∧ a.fN < b.fN)) := by rw [← dotLt_iff]; simp
theorem swoD : SWO (ltOf ordD) where
  irrefl x := by rw [ltOfD, dotLt_no]; omega
  trans x y z h1 h2 := by rw [ltOfD] at *; exact dotLt_trans h1 h2
  ntrans x y z h1 h2 := by rw [ltOfD, dotLt_no] at *; omega

set_option maxHeartbeats 1000000 in
theorem dotOrder_grow (a b : MDot) (w : World) :
    Calls Tryd.prog 40 #[.agg (encD a).toArray, .agg (encD b).toArray] w fun e w' => e = .returned (.int .i64 (ordD a b)) ∧ Gw w w' := by
  have HV : Hid (ordD a b = orI (ordI a.fR b.fR) (ordI a.fN b.fN)) := rfl
  unfold encD
  go_enter Tryd.func40, Tryd.ntmps40
  go_wp2_with fail
  obtain ⟨wq, hwq⟩ : ∃ wq, wq = (w.alloc (.cells #[.int .i64 a.fR, .int .i64 a.fN] 40)).alloc (.cells #[.int .i64 b.fR, .int .i64 b.fN] 40) := ⟨_, rfl⟩
  have hgW : Gw w wq := by rw [hwq]; exact ((Gw.refl w).alloc _).alloc _
  have hbx1 : Bx wq w.heap.size [.int .i64 a.fR, .int .i64 a.fN] := by rw [hwq]; exact (Bx.new _ _ _).under ((Below.refl _ _).alloc (Nat.le_refl _) _)
  have hbx2 : Bx wq (w.heap.size + 1) [.int .i64 b.fR, .int .i64 b.fN] := by rw [hwq]; have h := Bx.new (w.alloc (.cells #[.int .i64 a.fR, .int .i64 a.fN] 40)) [.int .i64 b.fR, .int .i64 b.fN] 40; simpa using h
  rw [← hwq]
  clear hwq
  have y0 : ∀ W, (Gw w W ∧ Below wq.heap.size wq W) → W.cell? ⟨w.heap.size, 0, none⟩ = some (.int .i64 a.fR) := fun W h => (hbx1.under h.2).2 0 _ rfl
  have y1 : ∀ W, (Gw w W ∧ Below wq.heap.size wq W) → W.cell? ⟨w.heap.size, 1, none⟩ = some (.int .i64 a.fN) := fun W h => (hbx1.under h.2).2 1 _ rfl
  have z0 : ∀ W, (Gw w W ∧ Below wq.heap.size wq W) → W.cell? ⟨w.heap.size + 1, 0, none⟩ = some (.int .i64 b.fR) := fun W h => (hbx2.under h.2).2 0 _ rfl
  have z1 : ∀ W, (Gw w W ∧ Below wq.heap.size wq W) → W.cell? ⟨w.heap.size + 1, 1, none⟩ = some (.int .i64 b.fN) := fun W h => (hbx2.under h.2).2 1 _ rfl
  refine wp_region_held_drew (S := fun W => Gw w W ∧ Below wq.heap.size wq W) (by kernel_rfl) (⟨hgW.drew, Below.drew (Below.refl _ _)⟩) (fun hHeld => ?_)
  refine tk 0 q8b0_40_1_0 (some 5) (v := ?v1) rfl rfl (by kernel_rfl) hHeld (by rfl) (fun _ _ _ x => x) (fun w h => ?y1) ?_; (case y1 => (try dsimp only at h); go_simp; try (with_reducible rfl)); try simp only [Act.put, sa, s0, s1]
  refine tk 1 q8b0_40_1_1 (some 6) (v := ?v2) rfl rfl (by kernel_rfl) hHeld (by rfl) (fun _ _ _ x => x) (fun w h => ?y2) ?_; (case y2 => (try dsimp only at h); go_simp; try (with_reducible rfl)); try simp only [Act.put, sa, s0, s1]
  refine tk 2 q8b0_40_1_2 (some 7) (v := ?v3) rfl rfl (by kernel_rfl) hHeld (by rfl) (fun _ _ _ x => x) (fun w h => ?y3) ?_; (case y3 => (try dsimp only at h); go_simp; try (with_reducible rfl)); try simp only [Act.put, sa, s0, s1]
  refine tk 3 q8b0_40_1_3 (some 8) (v := ?v4) rfl rfl (by kernel_rfl) hHeld (by rfl) (fun _ _ _ x => x) (fun w h => ?y4) ?_; (case y4 => (try dsimp only at h); go_simp; try (with_reducible rfl)); try simp only [Act.put, sa, s0, s1]
  refine tk 5 q8b0_40_1_5 (some 10) (v := ?v5) rfl rfl (by kernel_rfl) hHeld (by rfl) (fun _ _ _ x => x) (fun w h => ?y5) ?_; (case y5 => (try dsimp only at h); go_simp; try (with_reducible rfl)); try simp only [Act.put, sa, s0, s1]
  refine tk 6 q8b0_40_1_6 (some 11) (v := ?v6) rfl rfl (by kernel_rfl) hHeld (by rfl) (fun _ _ _ x => x) (fun w h => ?y6) ?_; (case y6 => (try dsimp only at h); go_simp; try (with_reducible rfl)); try simp only [Act.put, sa, s0, s1]
  refine tk 7 q8b0_40_1_7 (some 12) (v := ?v7) rfl rfl (by kernel_rfl) hHeld (by rfl) (fun _ _ _ x => x) (fun w h => ?y7) ?_; (case y7 => (try dsimp only at h); go_simp; try (with_reducible rfl)); try simp only [Act.put, sa, s0, s1]
  refine tk 8 q8b0_40_1_8 (some 13) (v := ?v8) rfl rfl (by kernel_rfl) hHeld (by rfl) (fun _ _ _ x => x) (fun w h => ?y8) ?_; (case y8 => (try dsimp only at h); go_simp; try (with_reducible rfl)); try simp only [Act.put, sa, s0, s1]
  refine wpAnyH_ready (rs := [4]) (by kernel_rfl) (by simp) ?_
  refine AllReadyH.cons (o := q8b0_40_1_4) rfl (fun K hK => ?_) AllReadyH.nil
  go_simp
  refine Calls.mono (cmpI_any _ _ _) ?_
  rintro e w1 ⟨rfl, hw1⟩
  have hop1 : Gw w w1 ∧ Below wq.heap.size wq w1 := ⟨hHeld.1.same hw1, bthen hHeld.2 (below_same hw1)⟩
  clear hw1
  go_wp2_with fail
  refine hK.out _ _ (hop1) (fun hHeld => ?_)
  clear hK K
  try simp only [Act.put, sa, s0, s1]
  refine wpAnyH_ready (rs := [9]) (by kernel_rfl) (by simp) ?_
  refine AllReadyH.cons (o := q8b0_40_1_9) rfl (fun K hK => ?_) AllReadyH.nil
  go_simp
  refine Calls.mono (cmpI_any _ _ _) ?_
  rintro e w2 ⟨rfl, hw2⟩
  have hop2 : Gw w w2 ∧ Below wq.heap.size wq w2 := ⟨hHeld.1.same hw2, bthen hHeld.2 (below_same hw2)⟩
  clear hw2
  go_wp2_with fail
  refine hK.out _ _ (hop2) (fun hHeld => ?_)
  clear hK K
  try simp only [Act.put, sa, s0, s1]
  refine wpAnyH_ready (rs := [10]) (by kernel_rfl) (by simp) ?_
  refine AllReadyH.cons (o := q8b0_40_1_10) rfl (fun K hK => ?_) AllReadyH.nil
  go_simp
  obtain ⟨w5, hq5⟩ : ∃ x, x = w2.alloc (.cells (List.toArray [Value.int .i64 (ordI a.fR b.fR), Value.int .i64 (ordI a.fN b.fN)]) 3) := ⟨_, rfl⟩
  have hop3 : Gw w w5 ∧ Below wq.heap.size wq w5 := by rw [hq5]; exact ⟨hHeld.1.alloc _, hHeld.2.alloc hHeld.2.size _⟩
  have HB5 : Hid (Bx w5 w2.heap.size [.int .i64 (ordI a.fR b.fR), .int .i64 (ordI a.fN b.fN)]) := by unfold Hid; rw [hq5]; exact Bx.new _ _ _
  rw [← hq5]
  clear hq5
  refine hK.out _ _ (hop3) (fun hHeld => ?_)
  clear hK K
  try simp only [Act.put, sa, s0, s1]
  refine wpAnyH_ready (rs := [11]) (by kernel_rfl) (by simp) ?_
  refine AllReadyH.cons (o := q8b0_40_1_11) rfl (fun K hK => ?_) AllReadyH.nil
  go_simp
  refine Calls.mono (cmpOr_any (ordI a.fR b.fR) (ordI a.fN b.fN) w2.heap.size _ (ordI_wf _ _) (ordI_wf _ _) (HB5.out.2 0 _ rfl) (HB5.out.2 1 _ rfl)) ?_
  rintro e w4 ⟨rfl, hw4⟩
  have hop4 : Gw w w4 ∧ Below wq.heap.size wq w4 := ⟨hHeld.1.same hw4, bthen hHeld.2 (below_same hw4)⟩
  clear hw4
  rw [← HV.out]
  go_wp2_with fail
  refine hK.out _ _ (hop4) (fun hHeld => ?_)
  clear hK K
  try simp only [Act.put, sa, s0, s1]
  refine tk 12 q8b0_40_1_12 (some 4) (v := ?v9) rfl rfl (by kernel_rfl) hHeld (by rfl) (fun _ _ _ x => x) (fun w h => ?y9) ?_; (case y9 => (try dsimp only at h); go_simp; try (with_reducible rfl)); try simp only [Act.put, sa, s0, s1]
  refine wpAnyH_done (by kernel_rfl) ?_ _
  go_wp2_with fail
  go_ret
  exact ⟨rfl, hHeld.1⟩

theorem isAggD (w : World) : (isAgg 40).run Tryd.prog w = .ok true w := by kernel_rfl
theorem sizeOfD (w : World) : (Go.sizeOf 40).run Tryd.prog w = .ok 2 w := by kernel_rfl
theorem encsD_len (l : List MDot) : ∀ c, c ∈ l.map encD → c.length = 2 := by
  intro c hc
  obtain ⟨e, _, rfl⟩ := List.mem_map.1 hc
  rfl

theorem up_unique : ∀ {l k : List MDot}, l.Perm k → l.Pairwise (fun x y => dotLt x y = true) → k.Pairwise (fun x y => dotLt x y = true) → l = k
  | [], k, h, _, _ => by rw [List.nil_perm.1 h]
  | a :: r, [], h, _, _ => by simp at h
  | a :: r, b :: s, h, hl, hk => by
    rw [List.pairwise_cons] at hl hk
    have hab : a = b := by
      have h1 : a ∈ b :: s := h.mem_iff.1 (by simp)
      have h2 : b ∈ a :: r := h.mem_iff.2 (by simp)
      rcases List.mem_cons.1 h1 with e | h1
      · exact e
      · rcases List.mem_cons.1 h2 with e | h2
        · exact e.symm
        · exact (dotLt_asym (hl.1 b h2) (hk.1 a h1)).elim
    subst hab
    rw [up_unique (List.Perm.cons_inv h) hl.2 hk.2]

section
variable [Inhabited MDot]

theorem cmpLaysD (blk off size : Nat) (w : World) : CmpLays Tryd.prog 40 #[] encD 2 ordD blk off size w :=
  fun _ _ _ _ x y => dotOrder_grow x y _

/-- The library's sort, at a row of dots. -/
theorem sortD_any (blk cap : Nat) (d : Array MDot) (w : World) (hH : HoldsK encD 2 w blk 0 d) (hblk : blk < w.heap.size) (hsz : d.size < 4611686018427387904) :
    Calls Tryd.prog 39 #[.slice (some ⟨blk, 0, none⟩) d.size cap, .func (.func 40) #[] #[]] w fun e w' => e = .returned (.tuple #[]) ∧ ∃ d' n os, PermIn 0 d.size d d' ∧ SortedIn (ltOf ordD) 0 d.size d' ∧ w' = sortWorldK encD 2 w blk 0 n d' os := by
  have eg : ∀ args w, (callFunc 40 args).run Tryd.prog w = .ok (.enter 40 args) w := enters_of Tryd.func40 (by kernel_rfl) rfl
  exact AnyQ.slices_SortFunc sortDot 2 isAggD sizeOfD encD (fun _ => rfl) (fun x v hv => by simp [encD] at hv; rcases hv with rfl | rfl <;> rfl) ordD swoD 40 #[] blk 0 cap d w eg (cmpLaysD blk 0 d.size w) hH hblk hsz

theorem flatKD_at (d : Array MDot) (t : Nat) (h : t < d.size * 2) : (d.toList.map encD).flatten[t]? = some ((flatK encD 2 d)[t]!) := by
  rw [get_flatK encD 2 d t h]
  have h1 : t / 2 < d.size := by omega
  have e1 : t = t / 2 * 2 + t % 2 := by omega
  have hf := flatten_at (encsD_len d.toList) (j := t / 2) (i := t % 2) (by omega)
  rw [← e1] at hf
  rw [hf, List.getElem?_map, List.getElem?_eq_getElem (by simpa using h1)]
  simp only [Option.map_some, Option.bind_some, Array.getElem_toList]
  rw [getElem!_pos d (t / 2) h1]
  have h2 : t % 2 < 2 := by omega
  generalize t % 2 = r at *
  match r, h2 with
  | 0, _ => rfl
  | 1, _ => rfl

/-- The row ahead of the sort. -/
theorem holdsD {w : World} {base g cap : Nat} {l : List MDot} {e : TypeId} {B : Nat} (h : RowR 2 e rDot B w base (.slice (some ⟨g, 0, none⟩) l.length cap) l) : HoldsK encD 2 w g 0 l.toArray ∧ g < w.heap.size ∧ base ≤ g ∧ ∃ cur, w.heap[g]? = some (.cells cur e (0, 0)) ∧ cur.size = cap * 2 ∧ l.length ≤ cap ∧ cap ≤ maxLen ∧ ∀ x, x ∈ l → (Lit.int .i64 x.fR).wf = true ∧ (Lit.int .i64 x.fN).wf = true := by
  obtain ⟨css, r1, r2, r3, r4⟩ := h
  have hcss : css = l.map encD := by
    apply List.ext_getElem (by simp [r1])
    intro i h1 h2
    obtain ⟨e1, _⟩ := r3 i (by omega) h1
    rw [e1]
    simp [encD]
  rcases r4.2 with ⟨h0, _⟩ | ⟨g', cap', cur, h0, hb, hg, hnc, hm, hs, ht⟩
  · cases h0
  · simp only [Value.slice.injEq, Option.some.injEq, Addr.mk.injEq, and_true, true_and] at h0
    obtain ⟨rfl, rfl⟩ := h0
    refine ⟨?_, (Array.getElem?_eq_some_iff.1 hg).1, hb, cur, hg, hs, hnc, hm, ?_⟩
    · intro j hj
      have hj2 : j < l.toArray.size * 2 := by simpa using hj
      refine ⟨?_, frozen_of_row w g _ cur e hg⟩
      rw [Nat.zero_add, cell_of_row w g j cur e (0, 0) hg]
      have hf := flatKD_at l.toArray j hj2
      have hlt : j < l.length * 2 := by simpa using hj2
      rw [List.toList_toArray, ← hcss, ← ht, List.getElem?_take, if_pos hlt] at hf
      show cur[j]? = some ((flatK encD 2 l.toArray)[j]!)
      rw [← hf]
      simp
    · intro x hx
      obtain ⟨i, hi, rfl⟩ := List.mem_iff_getElem.1 hx
      obtain ⟨_, e2, e3, _⟩ := r3 i hi (by omega)
      exact ⟨e2, e3⟩

/-- The row behind it. -/
theorem sortedD {w : World} {g cap n : Nat} {e : TypeId} {cur : Array Value} (hg : w.heap[g]? = some (.cells cur e (0, 0))) (hs : cur.size = cap * 2) (hnc : n ≤ cap) (hm : cap ≤ maxLen) (d : Array MDot) (hd : d.size = n) (hx : ∀ x, x ∈ d.toList → (Lit.int .i64 x.fR).wf = true ∧ (Lit.int .i64 x.fN).wf = true) (m : Nat) (os : Array Obj) (B : Nat) :
    RowR 2 e rDot B (sortWorldK encD 2 w g 0 m d os) g (.slice (some ⟨g, 0, none⟩) n cap) d.toList ∧ Turn [g] w (sortWorldK encD 2 w g 0 m d os) := by
  have hgl : g < w.heap.size := (Array.getElem?_eq_some_iff.1 hg).1
  have hheap : (sortWorldK encD 2 w g 0 m d os).heap = w.heap.modify g (onCells (putCells id 0 (flatK encD 2 d))) ++ os := rfl
  have hblk : (sortWorldK encD 2 w g 0 m d os).heap[g]? = some (.cells (putCells id 0 (flatK encD 2 d) cur) e (0, 0)) := by
    rw [hheap, Array.getElem?_append_left (by simpa using hgl), Array.getElem?_modify, if_pos rfl, hg]
    rfl
  have hput : ∀ t, t < n * 2 → (putCells id 0 (flatK encD 2 d) cur)[t]? = (d.toList.map encD).flatten[t]? := by
    intro t ht
    have hcur : t < cur.size := by rw [hs]; have := Nat.mul_le_mul_right 2 hnc; omega
    rw [flatKD_at d t (by rw [hd]; exact ht)]
    unfold putCells
    rw [Array.getElem?_mapIdx, Array.getElem?_eq_getElem hcur]
    simp only [Option.map_some, Nat.zero_add, Nat.zero_le, true_and, size_flatK, Nat.sub_zero, id]
    rw [if_pos (by rw [hd]; exact ht)]
  have hrow : (sortWorldK encD 2 w g 0 m d os).ownsRow g e 2 (.slice (some ⟨g, 0, none⟩) n cap) n (d.toList.map encD).flatten := by
    refine ⟨by rw [flat_len (encsD_len _)]; simp [hd], .inr ⟨g, cap, _, rfl, Nat.le_refl _, hblk, hnc, hm, by unfold putCells; rw [Array.size_mapIdx]; exact hs, ?_⟩⟩
    apply List.ext_getElem?
    intro t
    rw [List.getElem?_take]
    by_cases ht : t < n * 2
    · rw [if_pos ht, ← hput t ht]
      simp
    · rw [if_neg ht, List.getElem?_eq_none (by rw [flat_len (encsD_len _)]; simp [hd]; omega)]
  refine ⟨⟨d.toList.map encD, by simp, encsD_len _, fun j h1 h2 => ?_, by rw [show d.toList.length = n by simpa using hd]; exact hrow⟩, ⟨rfl, rfl, rfl, by rw [hheap]; simp, fun b hb hne => ?_⟩⟩
  · have := hx d.toList[j] (List.getElem_mem h1)
    rw [List.getElem_map]
    exact ⟨rfl, this.1, this.2, trivial⟩
  · rw [hheap, Array.getElem?_append_left (by simpa using hb), Array.getElem?_modify, if_neg (by simp at hne; omega)]

theorem sorted_up {l : List MDot} {d d' : Array MDot} (hl : d.toList.Perm l) (hr : l.Pairwise (fun x y => dotLt x y = true)) (hp : PermIn 0 d.size d d') (hs : SortedIn (ltOf ordD) 0 d.size d') : d'.toList = l := by
  obtain ⟨h1, _, h3⟩ := hp
  have e1 : (d'.extract 0 d.size).toList = d'.toList := by simp [← h1]
  have e2 : (d.extract 0 d.size).toList = d.toList := by simp
  rw [e1, e2] at h3
  have hperm : d'.toList.Perm l := h3.trans hl
  have hnd : l.Pairwise (fun x y => ¬ sameD x y = true) := hr.imp (fun h => by rw [dotLt_ne h]; simp)
  have hnd' : d'.toList.Pairwise (fun x y => ¬ sameD x y = true) := hperm.symm.pairwise hnd (fun {a b} h => by rw [sameD_comm]; exact h)
  have hup : d'.toList.Pairwise (fun x y => dotLt x y = true) := by
    rw [List.pairwise_iff_getElem] at hnd' ⊢
    intro i j hi hj hij
    have h4 := hs i j (Nat.zero_le _) hij (by simp at hj; omega)
    have hi' : i < d'.size := by simpa using hi
    have hj' : j < d'.size := by simpa using hj
    rw [getElem!_pos d' i hi', getElem!_pos d' j hj', ltOfD] at h4
    have h5 := hnd' i j hi hj hij
    simp only [Array.getElem_toList] at h5 ⊢
    rw [dotLt_no] at h4
    unfold sameD at h5
    rw [decide_eq_true_iff] at h5
    rw [dotLt_iff]
    omega
  exact up_unique hperm hup hr

end

end Go.Proofs.YtmigamgcmhdncaaDoor

namespace Go.Proofs.YtmigamgcmhdncaaDoor
open Go.RowKit Go.Shelf Go.Lib Go.Sort

set_option maxHeartbeats 2000000 in
theorem insNoneD (p : Option Addr) (cap : Nat) (fv : Value) (w : World) :
    Calls Tryd.prog 92 #[.slice p 0 cap, .int .i64 0, .int .i64 0, fv] w fun e w' => e = .returned (.tuple #[]) ∧ w' = w := by
  go_enter Tryd.func92, Tryd.ntmps92
  go_wp2
  refine wp_loop_rounds 1 ?_
  rw [rounds_succ]
  go_wp2
  go_end0
  exact ⟨rfl, rfl⟩

set_option maxHeartbeats 2000000 in
theorem pdqNoneD (p : Option Addr) (cap : Nat) (lim : Int) (fv : Value) (w : World) :
    Calls Tryd.prog 69 #[.slice p 0 cap, .int .i64 0, .int .i64 0, .int .i64 lim, fv] w fun e w' => e = .returned (.tuple #[]) ∧ w' = w := by
  have hi := fun W => insNoneD p cap fv W
  go_enter Tryd.func69, Tryd.ntmps69
  go_wp2_with fail
  refine wp_loop_rounds 1 ?_
  rw [rounds_succ]
  go_wp2_with (go_at_call 92; refine (hi _).mono ?_; rintro e w' ⟨rfl, rfl⟩)
  (try simp only [Exit.inBlock, Exit.then])
  refine bodyPost_ret (results_none rfl _ _ _) rfl ?_
  exact ⟨rfl, rfl⟩

set_option maxHeartbeats 2000000 in
theorem sortNoneD (p : Option Addr) (cap : Nat) (fv : Value) (w : World) :
    Calls Tryd.prog 39 #[.slice p 0 cap, fv] w fun e w' => e = .returned (.tuple #[]) ∧ w' = w := by
  have hp := fun lim W => pdqNoneD p cap lim fv W
  have hl : ∀ W, Calls Tryd.prog 70 #[.int .u64 0] W fun e w' => e = .returned (.int .i64 (Lib.bitLen 0 : Nat)) ∧ w' = W := fun W => by
    have h := Any.bits_Len (SlLaysF0.n15.bits (P := Tryd.prog) (ρ := sortDot_ren) { sortDot with }) 0 W (by omega) (by omega)
    exact h
  go_enter Tryd.func39, Tryd.ntmps39
  go_wp2_with (first | (go_at_call 70; refine (hl _).mono ?_; rintro e w' ⟨rfl, rfl⟩) | (go_at_call 69; refine (hp _ _).mono ?_; rintro e w' ⟨rfl, rfl⟩))
  go_end0
  exact ⟨rfl, rfl⟩

end Go.Proofs.YtmigamgcmhdncaaDoor

namespace Go.Proofs.YtmigamgcmhdncaaDoor
open Go.RowKit

theorem pickT_mem {P : Nat → Bool} {l : List MItem} {d : MDot} : ∀ {k : Nat}, k ≤ l.length → (d ∈ pickT P l k ↔ ∃ j, j < k ∧ P j = true ∧ ∃ h : j < l.length, l[j].fD = d)
  | 0, _ => by simp [pickT]
  | k + 1, hk => by
    have ih := pickT_mem (P := P) (l := l) (d := d) (k := k) (by omega)
    rcases h : P k with _ | _
    · rw [pickT_no h, ih]
      constructor
      · rintro ⟨j, h1, h2⟩; exact ⟨j, by omega, h2⟩
      · rintro ⟨j, h1, h2, h3⟩
        have : j ≠ k := fun e => by subst e; rw [h] at h2; cases h2
        exact ⟨j, by omega, h2, h3⟩
    · rw [pickT_yes (by omega) h, List.mem_append, ih, List.mem_singleton]
      constructor
      · rintro (⟨j, h1, h2⟩ | rfl)
        · exact ⟨j, by omega, h2⟩
        · exact ⟨k, by omega, h, by omega, rfl⟩
      · rintro ⟨j, h1, h2, h3, h4⟩
        by_cases e : j = k
        · subst e; exact .inr h4.symm
        · exact .inl ⟨j, by omega, h2, h3, h4⟩
theorem pickT_up {P : Nat → Bool} {l : List MItem} (hg : graphP ⟨l⟩ = true) : ∀ {k : Nat}, k ≤ l.length → (pickT P l k).Pairwise (fun x y => dotLt x y = true)
  | 0, _ => by simp [pickT]
  | k + 1, hk => by
    have ih := pickT_up (P := P) hg (k := k) (by omega)
    rcases h : P k with _ | _
    · rw [pickT_no h]; exact ih
    · rw [pickT_yes (by omega) h, List.pairwise_append]
      refine ⟨ih, by simp, fun a ha b hb => ?_⟩
      rw [List.mem_singleton] at hb
      subst hb
      obtain ⟨j, h1, _, h3, rfl⟩ := (pickT_mem (by omega)).1 ha
      exact graph_up hg j k h3 (by omega) h1
theorem dot_at {l : List MItem} (hg : graphP ⟨l⟩ = true) {i j : Nat} (hi : i < l.length) (hj : j < l.length) (h : l[i].fD = l[j].fD) : i = j :=
  graph_uniq hg hi hj (d := l[j].fD) (by unfold sameD; rw [h]; simp) (by unfold sameD; simp)
/-- The dots of the groups, one group behind the other. -/
def catG (l : List MItem) (gs : List MGrp) : List MDot := (gs.map (fun g => pickT g.mem.has l l.length)).flatten
theorem catG_take {l : List MItem} {gs : List MGrp} {k : Nat} (h : k < gs.length) : catG l (gs.take (k + 1)) = catG l (gs.take k) ++ pickT gs[k].mem.has l l.length := by
  unfold catG
  rw [List.take_succ_eq_append_getElem h, List.map_append, List.flatten_append]
  simp
theorem catG_len {l : List MItem} (hl : l.length ≤ 100) : ∀ gs : List MGrp, (catG l gs).length ≤ gs.length * 100
  | [] => by simp [catG]
  | g :: r => by
    have ih := catG_len hl r
    have h1 := pickT_len g.mem.has l l.length
    have e : catG l (g :: r) = pickT g.mem.has l l.length ++ catG l r := by simp [catG]
    rw [e, List.length_append, List.length_cons]
    omega
theorem GroupsOk.grp {l : List MItem} {n : Nat} {ps : List Nat} {gs : List MGrp} (h : GroupsOk l n ps gs) {i : Nat} (hi : i < gs.length) : ∃ hp : i < ps.length, lead l ps[i] ∧ ps[i] < n ∧ GrpOk l ps[i] gs[i] := by
  have hp : i < ps.length := by rw [← h.len]; exact hi
  have := (h.who ps[i]).1 (List.getElem_mem hp)
  exact ⟨hp, this.2, this.1, h.each i hp hi⟩
theorem GroupsOk.count {l : List MItem} {n : Nat} {ps : List Nat} {gs : List MGrp} (h : GroupsOk l n ps gs) : gs.length ≤ n := by
  rw [h.len]; exact asc_len h.asc (fun p hp => ((h.who p).1 hp).1)
theorem nodup_of_up {l : List MDot} (h : l.Pairwise (fun x y => dotLt x y = true)) : l.Nodup := h.imp (fun {a b} h e => by subst e; exact dotLt_asym h h)
/-- All groups together are what is whole. -/
theorem GroupsOk.perm {l : List MItem} (hg : graphP ⟨l⟩ = true) (hl : l.length ≤ 100) {ps : List Nat} {gs : List MGrp} (h : GroupsOk l l.length ps gs) {P : Nat → Bool} (hP : ∀ j, j < l.length → (P j = true ↔ wholeAt l j)) : (catG l gs).Perm (pickT P l l.length) := by
  rw [List.perm_ext_iff_of_nodup]
  · intro d
    rw [pickT_mem (Nat.le_refl _)]
    unfold catG
    rw [List.mem_flatten]
    constructor
    · rintro ⟨L, hL, hd⟩
      obtain ⟨g, hgm, rfl⟩ := List.mem_map.1 hL
      obtain ⟨i, hi, rfl⟩ := List.mem_iff_getElem.1 hgm
      obtain ⟨hp, hle, hpn, hgo⟩ := h.grp hi
      obtain ⟨j, hj, hm, hjl, rfl⟩ := (pickT_mem (Nat.le_refl _)).1 hd
      exact ⟨j, hj, (hP j hj).2 (((hgo.mem j (by omega)).1 hm).whole hle.1), hjl, rfl⟩
    · rintro ⟨j, hj, hpj, hjl, rfl⟩
      obtain ⟨p, hpj2, hlp, hr⟩ := lead_of j ((hP j hj).1 hpj)
      obtain ⟨i, hi, rfl⟩ := List.mem_iff_getElem.1 ((h.who p).2 ⟨by omega, hlp⟩)
      have hi2 : i < gs.length := by rw [h.len]; exact hi
      exact ⟨_, List.mem_map.2 ⟨gs[i], List.getElem_mem hi2, rfl⟩, (pickT_mem (Nat.le_refl _)).2 ⟨j, hj, ((h.each i hi hi2).mem j (by omega)).2 hr, hjl, rfl⟩⟩
  · unfold catG List.Nodup
    rw [List.pairwise_flatten]
    refine ⟨fun L hL => ?_, ?_⟩
    · obtain ⟨g, _, rfl⟩ := List.mem_map.1 hL
      exact nodup_of_up (pickT_up hg (Nat.le_refl _))
    · rw [List.pairwise_iff_getElem]
      intro i j hi hj hij x hx y hy e
      subst e
      simp only [List.length_map] at hi hj
      rw [List.getElem_map] at hx hy
      obtain ⟨a, ha, hma, hal, hxa⟩ := (pickT_mem (Nat.le_refl _)).1 hx
      obtain ⟨b, hb, hmb, hbl, hxb⟩ := (pickT_mem (Nat.le_refl _)).1 hy
      have hab : a = b := dot_at hg hal hbl (hxa.trans hxb.symm)
      subst hab
      obtain ⟨hp1, hl1, _, hg1⟩ := h.grp hi
      obtain ⟨hp2, hl2, _, hg2⟩ := h.grp hj
      have hr := ((hg1.mem a (by omega)).1 hma).trans ((hg2.mem a (by omega)).1 hmb).symm
      have e := hl1.one hl2 hr
      have := (List.pairwise_iff_getElem.1 h.asc) i j hp1 hp2 hij
      omega
  · exact nodup_of_up (pickT_up hg (Nat.le_refl _))

theorem whole_set (l : List MItem) : ∃ P : Nat → Bool, ∀ j, P j = true ↔ wholeAt l j := ⟨fun j => @decide _ (Classical.propDecidable (wholeAt l j)), fun j => by simp⟩
/-- Sorted, they are what Whole answers. -/
theorem whole_of {m : MGraph} {gs : List MGrp} (h : GroupsL m gs) : ∃ L, WholeL m L ∧ (catG m.fItems gs).Perm L ∧ L.Pairwise (fun x y => dotLt x y = true) ∧ (catG m.fItems gs).length ≤ 10000 := by
  rcases h with ⟨h1, rfl⟩ | ⟨h1, ps, h2⟩
  · exact ⟨[], .inl ⟨h1, rfl⟩, by simp [catG], List.Pairwise.nil, by simp [catG]⟩
  · have hg : graphP ⟨m.fItems⟩ = true := h1
    have hl : m.fItems.length ≤ 100 := by
      have h' : (decide (m.fItems.length ≤ 100) && upOk itemP itemLt m.fItems) = true := h1
      rw [Bool.and_eq_true] at h'
      exact of_decide_eq_true h'.1
    obtain ⟨P, hP⟩ := whole_set m.fItems
    have h3 := catG_len hl gs
    have h4 := h2.count
    refine ⟨pickT P m.fItems m.fItems.length, .inr ⟨h1, P, fun j _ => hP j, rfl⟩, h2.perm hg hl (fun j _ => hP j), pickT_up hg (Nat.le_refl _), by omega⟩
theorem groups_count {m : MGraph} {gs : List MGrp} (h : GroupsL m gs) : gs.length ≤ 100 ∧ (0 < gs.length → m.fItems.length ≤ 100) := by
  rcases h with ⟨h1, rfl⟩ | ⟨h1, ps, h2⟩
  · simp
  · have hl : m.fItems.length ≤ 100 := by
      have h' : (decide (m.fItems.length ≤ 100) && upOk itemP itemLt m.fItems) = true := h1
      rw [Bool.and_eq_true] at h'
      exact of_decide_eq_true h'.1
    have := h2.count
    exact ⟨by omega, fun _ => hl⟩

end Go.Proofs.YtmigamgcmhdncaaDoor

namespace Go.Proofs.YtmigamgcmhdncaaDoor
open Go.RowKit Go.Shelf Go.Lib Go.Sort

set_option maxHeartbeats 8000000 in
theorem implWhole_any (cs : List Value) (m : MGraph) (w : World) (hr : rGraph w.heap.size w cs m) (hw : wGraph m ≤ 1048576) (hT : TzAt w) :
    Calls Tryd.prog 12 #[.agg cs.toArray] w fun e w' => ∃ (v : Value) (L : List MDot), e = .returned v ∧ WholeL m L ∧ RowR 2 40 rDot w.heap.size w' w.heap.size v L ∧ Below w.heap.size w w' := by
  obtain ⟨iD, hiD, hzD0, hzD1, hzD2⟩ := info_parts Tryd.infoOfDot
  have HRG := Hid.mk hr
  have HWG := Hid.mk hw
  have HTZ := Hid.mk hT
  obtain ⟨a, cap, rfl, hL, _⟩ := hr
  obtain ⟨n, hx⟩ : ∃ n, n = m.fItems.length := ⟨_, rfl⟩
  rw [← hx] at HRG ⊢
  clear hL hx hw hT
  go_enter Tryd.func12, Tryd.ntmps12
  go_wp2_with fail
  obtain ⟨w1, hw1⟩ : ∃ x, x = w.alloc (.cells #[.slice a n cap] 30) := ⟨_, rfl⟩
  have hb01 : Below w.heap.size w w1 := by rw [hw1]; exact (Below.refl _ _).alloc (Nat.le_refl _) _
  have hbx1 : Bx w1 w.heap.size [.slice a n cap] := by rw [hw1]; exact Bx.new _ _ _
  rw [← hw1]
  clear hw1
  refine (groupsOf_any [.slice a n cap] m w1 (rGraph_good.mono (rGraph_good.below HRG.out hb01) hb01.size) HWG.out (HTZ.out.below hb01)).mono ?_
  rintro e w2 ⟨v, gs, rfl, hGL, hRow, hx2⟩
  have hb02 := bthen hb01 hx2
  have hbx2 := hbx1.under hx2
  obtain ⟨L, hWL, hPerm, hUp, hLen⟩ := whole_of hGL
  obtain ⟨hgc, hgn⟩ := groups_count hGL
  have HWL := Hid.mk (And.intro hWL (And.intro hPerm hUp))
  have HLEN : Hid (∀ k, k ≤ gs.length → (catG m.fItems (gs.take k)).length ≤ 10000) := fun k hk => by
    by_cases h0 : 0 < gs.length
    · have h1 := catG_len (hgn h0) (gs.take k)
      rw [List.length_take] at h1
      omega
    · have e : gs = [] := List.eq_nil_of_length_eq_zero (by omega)
      subst e; simp [catG]
  have HGN := Hid.mk hgn
  have h1s : w1.heap.size ≤ w2.heap.size := hx2.size
  obtain ⟨ag, cg, hv, hLeaf⟩ := RowR.leaf rGrp_good hRow h1s
  subst hv
  have HLeaf := Hid.mk hLeaf
  obtain ⟨ng, hng⟩ : ∃ q, q = gs.length := ⟨_, rfl⟩
  rw [← hng] at hgc ⊢
  have HNG := Hid.mk hng
  have hs2 : w.heap.size < w2.heap.size := hbx2.1
  clear hWL hPerm hUp hLen hgn hRow hLeaf hGL hng hx2 hbx1
  go_wp2_with fail
  go_loopw [3, 9] (fun v iv wr => ∃ k : Nat, k ≤ ng ∧ iv = .int .i64 k ∧ Hid (RowR 2 40 rDot w.heap.size wr w2.heap.size v (catG m.fItems (gs.take k))) ∧ Below w2.heap.size w2 wr) (fun _ iv _ => ng - (intOf iv).toNat)
  case atStart => exact ⟨0, Nat.zero_le _, rfl, Hid.mk RowR.start, Below.refl _ _⟩
  case round =>
    obtain ⟨k, hk, rfl, HRk, hbk⟩ := hrel
    have hbw : Below w.heap.size w wr := bthen hb02 hbk
    have hbx := hbx2.under hbk
    have v0 := hbx.2 0 _ rfl
    have hzk : w2.heap.size ≤ wr.heap.size := hbk.size
    by_cases hlt : k < ng
    · have hkg : k < gs.length := by rw [← HNG.out]; exact hlt
      obtain ⟨b1, o1, rfl, hB, cs, hcl, hcell, hcs, hom, hon⟩ := (HLeaf.out.2.2.below rGrp_good hbk) k hkg
      subst hcs
      have k0 := hcell 0 _ rfl
      have k1 := hcell 1 _ rfl
      have k2 := hcell 2 _ rfl
      have k3 := hcell 3 _ rfl
      rw [Nat.add_zero] at k0
      have HCT := Hid.mk (catG_take (l := m.fItems) hkg)
      have hlk := HLEN.out k (by omega)
      have hlk1 := HLEN.out (k + 1) (by omega)
      have hnn : m.fItems.length ≤ 100 := HGN.out (by omega)
      generalize gs[k] = g at *
      generalize catG m.fItems (gs.take k) = pl at *
      clear hcell hcl
      obtain ⟨wp, hwp⟩ : ∃ y, y = wr.alloc (.cells #[.int .u64 (g.mem.x0 : Int), .int .u64 (g.mem.x1 : Int), .int .u64 (g.need.x0 : Int), .int .u64 (g.need.x1 : Int)] 68) := ⟨_, rfl⟩
      have hbp : Below wr.heap.size wr wp := by rw [hwp]; exact (Below.refl _ _).alloc (Nat.le_refl _) _
      have hbwp := bthen hbw hbp
      have v1 := ((hbx.under hbp).2 0 _ rfl)
      rw [hwp] at v1
      have hC := dotsAt_any [.slice a n cap] m g.mem wp (rGraph_good.mono (rGraph_good.below HRG.out hbwp) hbwp.size) hom hnn
      rw [show g.mem.cells.toArray = #[.int .u64 (g.mem.x0 : Int), .int .u64 (g.mem.x1 : Int)] from rfl] at hC
      have hk1 : (0 : Int) ≤ (k : Int) := by omega
      have hk2 : (k : Int) < (ng : Int) := by omega
      go_wp2_with fail
      rw [← hwp]
      clear hwp v0 v1 k0 k1 k2 k3
      refine hC.mono ?_
      rintro e w3 ⟨vd, rfl, hRd, hx3⟩
      have hb3 := bthen hbp hx3
      have hpl := pickT_len g.mem.has m.fItems m.fItems.length
      generalize hpk : pickT g.mem.has m.fItems m.fItems.length = pd at *
      obtain ⟨ad, cd, rfl, hLd⟩ := RowR.leaf rDot_good hRd hx3.size
      obtain ⟨css, r1, r2, r3, r4⟩ := RowR.keep rDot_good HRk.out hb3 hbw.size
      obtain ⟨s1, t1, t2, t3, t4⟩ := Src.any oneDot (P := Tryd.prog) (n := pd.length) (c := cd) Tryd.underlying26 rfl hLd.2.2
      have HR1 := Hid.mk r1
      have HR2 := Hid.mk r2
      have HR3 := Hid.mk r3
      have HT1 := Hid.mk t1
      have HT2 := Hid.mk t2
      have HT3 : Hid (∀ j, (h1 : j < pd.length) → (h2 : j < s1.length) → rDot w.heap.size w3 s1[j] pd[j]) := fun j h1 h2 => by have h := t3 j h1 h2; exact ⟨h.1, h.2.1, h.2.2.1, trivial⟩
      have hz3 : wr.heap.size ≤ w3.heap.size := hb3.size
      clear r1 r2 r3 t1 t2 t3 hRd hLd hpk hx3
      go_wp2_with (at_builtin; refine wpList_append_src_y rfl _ _ 26 26 rfl w2.heap.size 40 iD (.agg #[.int .i64 0, .int .i64 0]) 2 16 Tryd.underlying26 hiD hzD0 hzD1 hzD2 rfl _ _ _ rfl r4 _ rfl pd.length s1.flatten t4 (by unfold maxLen; omega) (by omega) (by omega) ?_; intro v6 w6 ho6 hgr6 hat6)
      have hT : Below w2.heap.size w3 w6 := (Below.refl _ _).grown hgr6 (by omega) (fun x hx => (r4.lt x hx).1)
      have HRn : Hid (RowR 2 40 rDot w.heap.size w6 w2.heap.size v6 (pl ++ pd)) := RowR.cat rDot_good HR1.out HR2.out HR3.out HT1.out HT2.out HT3.out (hT.mono (by omega)) ho6
      rw [← HCT.out] at HRn
      exact ⟨⟨k + 1, by omega, by go_num, HRn, (hbk.trans (hb3.mono hzk)).trans hT⟩, by simp [intOf]; omega⟩
    · have hkn : k = gs.length := by rw [← HNG.out]; omega
      have HFin : Hid (RowR 2 40 rDot w.heap.size wr w2.heap.size u3 (catG m.fItems gs)) := by
        have h := HRk.out
        rw [hkn, List.take_length] at h
        exact h
      clear HRk
      by_cases hl0 : (catG m.fItems gs).length = 0
      · have e0 := List.eq_nil_of_length_eq_zero hl0
        have HL0 : Hid (WholeL m []) := by
          have h := HWL.out.2.1
          rw [e0] at h
          have e1 : L = [] := List.nil_perm.1 h
          have h2 := HWL.out.1
          rw [e1] at h2
          exact h2
        rw [e0] at HFin
        obtain ⟨ar, cr, hv, _⟩ := HFin.out.leaf rDot_good hbw.size
        subst hv
        have HRb := Hid.mk (RowR.base HFin.out (show w.heap.size ≤ w2.heap.size by omega))
        simp only [List.length_nil] at *
        go_wp2_with (go_at_call 39; refine (sortNoneD ar cr _ _).mono ?_; rintro e w' ⟨rfl, rfl⟩)
        go_ret
        exact ⟨_, [], rfl, HL0.out, HRb.out, hbw⟩
      · letI := inhD
        obtain ⟨ar, cr, hv, _⟩ := HFin.out.leaf rDot_good hbw.size
        obtain ⟨o, ho⟩ : ∃ o, o = catG m.fItems gs := ⟨_, rfl⟩
        have hol := HLEN.out gs.length (Nat.le_refl _)
        rw [List.take_length] at hol
        rw [← ho] at HFin HWL hl0 hv hol
        clear ho
        have hsh : ∃ g cap, u3 = .slice (some ⟨g, 0, none⟩) o.length cap := by
          obtain ⟨css, r1, r2, r3, r4⟩ := HFin.out
          rcases r4.2 with ⟨_, h0⟩ | ⟨g, cap, cur, h0, _⟩
          · omega
          · exact ⟨g, cap, h0⟩
        obtain ⟨g, cap2, hv2⟩ := hsh
        clear hv
        subst hv2
        obtain ⟨hH, hgl, hgb, cur, hg, hs, hnc, hmx, hxe⟩ := holdsD HFin.out
        have hcon := sortD_any g cap2 o.toArray wr hH hgl (by simp; omega)
        simp only [List.size_toArray] at hcon
        have HCON : Hid (∀ d' : Array MDot, PermIn 0 o.length o.toArray d' → SortedIn (ltOf ordD) 0 o.length d' → d'.toList = L) := fun d' h1 h2 => sorted_up (d := o.toArray) (by simpa using HWL.out.2.1) HWL.out.2.2 (by simpa using h1) (by simpa using h2)
        have HSO : Hid (∀ (d' : Array MDot) (q : Nat) (os : Array Obj), d'.toList = L → RowR 2 40 rDot w.heap.size (sortWorldK encD 2 wr g 0 q d' os) g (.slice (some ⟨g, 0, none⟩) o.length cap2) L ∧ Turn [g] wr (sortWorldK encD 2 wr g 0 q d' os)) := fun d' q os hd => by
          have hlen : L.length = o.length := HWL.out.2.1.length_eq.symm
          have h := sortedD (n := o.length) hg hs hnc hmx d' (by rw [← hlen, ← hd]; simp) (fun x hx => hxe x (HWL.out.2.1.mem_iff.2 (by rw [← hd]; exact hx))) q os w.heap.size
          rw [hd] at h
          exact h
        have hgw : w.heap.size ≤ g := by omega
        clear hH hxe hg hs
        go_wp2_with (go_at_call 39; refine hcon.mono ?_; rintro e w' ⟨rfl, d', q, os, h1, h2, rfl⟩)
        have hd := HCON.out d' h1 h2
        obtain ⟨h3, h4⟩ := HSO.out d' q os hd
        go_ret
        exact ⟨_, L, rfl, HWL.out.1, RowR.base h3 hgw, hbw.trans (h4.below (fun k hk => by simp at hk; omega) hbw.size)⟩

end Go.Proofs.YtmigamgcmhdncaaDoor

namespace Go.Proofs.YtmigamgcmhdncaaDoor
open Go.RowKit

theorem WholeL.len {m : MGraph} {L : List MDot} (h : WholeL m L) : L.length ≤ m.fItems.length := by
  rcases h with ⟨_, rfl⟩ | ⟨_, P, _, rfl⟩
  · simp
  · exact pickT_len P _ _
theorem whole_ex (m : MGraph) : ∃ L, WholeL m L := by
  rcases h : graphP m with _ | _
  · exact ⟨[], .inl ⟨h, rfl⟩⟩
  · obtain ⟨P, hP⟩ := whole_set m.fItems
    exact ⟨_, .inr ⟨h, P, fun j _ => hP j, rfl⟩⟩
theorem implWhole_c (R : List MDot) (cs : List Value) (m : MGraph) (hR : WholeL m R) (w : World) (hr : rGraph w.heap.size w cs m) (hw : wGraph m ≤ 1048576) (hT : TzAt w) :
    Calls Tryd.prog 12 #[.agg cs.toArray] w fun e w' => ∃ (v : Value) (F : List Nat), e = .returned v ∧ ownS 2 40 oDot w' v R F ∧ F.Nodup ∧ (∀ b, b ∈ F → w.heap.size ≤ b) ∧ Below w.heap.size w w' := by
  refine (implWhole_any cs m w hr hw hT).mono ?_
  rintro e w' ⟨v, L, rfl, hL, hrow, hb⟩
  rw [hL.one hR] at hrow
  obtain ⟨h1, h2, h3⟩ := dots_own hrow
  exact ⟨v, _, rfl, h1, h2, h3, hb⟩

end Go.Proofs.YtmigamgcmhdncaaDoor
