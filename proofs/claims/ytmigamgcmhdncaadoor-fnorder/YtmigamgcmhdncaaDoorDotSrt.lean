/-
  The library's sort at a row of dots, by the program's order: what it leaves.
-/
import Derived.Test.YtmigamgcmhdncaaDoorRegK
import Derived.Test.YtmigamgcmhdncaaDoorSortD
import Derived.Test.YtmigamgcmhdncaaDoorGrpI
import Derived.Test.YtmigamgcmhdncaaDoorCatDot
import Derived.Sort.KeysCollected
namespace Go.Proofs.YtmigamgcmhdncaaDoor
open Go.RowKit Go.Shelf Go.Lib Go.Sort
set_option linter.unusedVariables false
set_option linter.unusedSimpArgs false
set_option maxRecDepth 10000
abbrev q8b0_40_1_0 : Oper := ⟨some 5, .fieldAddr 40 (.tmp 2) 0, 0, "l08_graph.go:51", #[], none⟩
abbrev q8b0_40_1_1 : Oper := ⟨some 6, .load 3 (.tmp 5), 3, "l08_graph.go:51", #[⟨0, .data⟩], none⟩
abbrev q8b0_40_1_2 : Oper := ⟨some 7, .fieldAddr 40 (.tmp 3) 0, 0, "l08_graph.go:51", #[], none⟩
abbrev q8b0_40_1_3 : Oper := ⟨some 8, .load 3 (.tmp 7), 3, "l08_graph.go:51", #[⟨2, .data⟩], none⟩
abbrev q8b0_40_1_5 : Oper := ⟨some 10, .fieldAddr 40 (.tmp 2) 1, 0, "l08_graph.go:51", #[], none⟩
abbrev q8b0_40_1_6 : Oper := ⟨some 11, .load 3 (.tmp 10), 3, "l08_graph.go:51", #[⟨5, .data⟩], none⟩
abbrev q8b0_40_1_7 : Oper := ⟨some 12, .fieldAddr 40 (.tmp 3) 1, 0, "l08_graph.go:51", #[], none⟩
abbrev q8b0_40_1_8 : Oper := ⟨some 13, .load 3 (.tmp 12), 3, "l08_graph.go:51", #[⟨7, .data⟩], none⟩
abbrev q8b0_40_1_4 : Oper := ⟨some 9, .call { callee := .value (.func 72), args := #[.tmp 6, .tmp 8], argTypes := #[3, 3] }, 3, "l08_graph.go:51", #[⟨1, .data⟩, ⟨3, .data⟩], none⟩
abbrev q8b0_40_1_9 : Oper := ⟨some 14, .call { callee := .value (.func 72), args := #[.tmp 11, .tmp 13], argTypes := #[3, 3] }, 3, "l08_graph.go:51", #[⟨6, .data⟩, ⟨8, .data⟩, ⟨4, .chain⟩], none⟩
abbrev q8b0_40_1_10 : Oper := ⟨some 15, .buildSlice 117 2 #[(0, .tmp 9), (1, .tmp 14)], 117, "l08_graph.go:51", #[⟨4, .data⟩, ⟨9, .data⟩], none⟩
abbrev q8b0_40_1_11 : Oper := ⟨some 16, .call { callee := .value (.func 71), args := #[.tmp 15], argTypes := #[117] }, 3, "l08_graph.go:51", #[⟨10, .data⟩, ⟨9, .chain⟩], none⟩
abbrev q8b0_40_1_12 : Oper := ⟨some 4, .assign (.tmp 16), 3, "l08_graph.go:51", #[⟨11, .data⟩, ⟨11, .chain⟩, ⟨0, .phase⟩, ⟨1, .phase⟩, ⟨2, .phase⟩, ⟨3, .phase⟩, ⟨4, .phase⟩, ⟨5, .phase⟩, ⟨6, .phase⟩, ⟨7, .phase⟩, ⟨8, .phase⟩, ⟨9, .phase⟩, ⟨10, .phase⟩, ⟨11, .phase⟩], none⟩

/-- Only drawn, and new blocks laid. -/
def Gw (w w' : World) : Prop := ∃ q os', w' = grow (w.drewN q) os'
theorem Gw.refl (w : World) : Gw w w := ⟨0, #[], by rw [grow_empty]; rfl⟩
theorem Gw.alloc {w w' : World} (h : Gw w w') (o : Obj) : Gw w (w'.alloc o) := by
  obtain ⟨q, os, rfl⟩ := h
  exact ⟨q, os ++ #[o], by rw [alloc_eq_grow, grow_grow]⟩
theorem Gw.drew {w w' : World} (h : Gw w w') : Gw w w'.drew := by
  obtain ⟨q, os, rfl⟩ := h
  exact ⟨q + 1, os, rfl⟩
theorem Gw.same {w w' w2 : World} (h : Gw w w') (e : w2 = w') : Gw w w2 := by subst e; exact h
theorem Gw.below {w w' : World} (h : Gw w w') : Below w.heap.size w w' := by
  obtain ⟨q, os, rfl⟩ := h
  exact ⟨rfl, rfl, rfl, by show w.heap.size ≤ (w.heap ++ os).size; simp, fun k hk => Array.getElem?_append_left hk⟩

def encD (e : MDot) : List Value := [.int .i64 e.fR, .int .i64 e.fN]
theorem ltOfD (a b : MDot) : ltOf ordD a b = dotLt a b := by
  unfold ltOf
  by_cases h : dotLt a b = true
  · rw [h]; exact decide_eq_true ((ordD_lt a b).2 h)
  · rw [Bool.eq_false_iff.2 h]; exact decide_eq_false (fun g => h ((ordD_lt a b).1 g))
@[reducible] def inhD : Inhabited MDot := ⟨⟨0, 0⟩⟩
theorem dotLt_no {a b : MDot} : dotLt a b = false ↔ ¬ (a.fR < b.fR ∨ (a.fR = b.fR ∧ a.fN < b.fN)) := by rw [← dotLt_iff]; simp
theorem swoD : SWO (ltOf ordD) where
  irrefl x := by rw [ltOfD, dotLt_no]; omega
  trans x y z h1 h2 := by rw [ltOfD] at *; exact dotLt_trans h1 h2
  ntrans x y z h1 h2 := by rw [ltOfD, dotLt_no] at *; omega

set_option maxHeartbeats 1000000 in
theorem dotOrder_grow (a b : MDot) (w : World) :
    Calls Tryd.prog 40 #[.agg (encD a).toArray, .agg (encD b).toArray] w fun e w' => e = .returned (.int .i64 (ordD a b)) ∧ Gw w w' := by
  have HV : Hid (ordD a b = orI (ordI a.fR b.fR) (ordI a.fN b.fN)) := rfl
  unfold encD
  go_enter Tryd.func40, Tryd.ntmps40
  go_wp2_with fail
  obtain ⟨wq, hwq⟩ : ∃ wq, wq = (w.alloc (.cells #[.int .i64 a.fR, .int .i64 a.fN] 40)).alloc (.cells #[.int .i64 b.fR, .int .i64 b.fN] 40) := ⟨_, rfl⟩
  have hgW : Gw w wq := by rw [hwq]; exact ((Gw.refl w).alloc _).alloc _
  have hbx1 : Bx wq w.heap.size [.int .i64 a.fR, .int .i64 a.fN] := by rw [hwq]; exact (Bx.new _ _ _).under ((Below.refl _ _).alloc (Nat.le_refl _) _)
  have hbx2 : Bx wq (w.heap.size + 1) [.int .i64 b.fR, .int .i64 b.fN] := by rw [hwq]; have h := Bx.new (w.alloc (.cells #[.int .i64 a.fR, .int .i64 a.fN] 40)) [.int .i64 b.fR, .int .i64 b.fN] 40; simpa using h
  rw [← hwq]
  clear hwq
  have y0 : ∀ W, (Gw w W ∧ Below wq.heap.size wq W) → W.cell? ⟨w.heap.size, 0, none⟩ = some (.int .i64 a.fR) := fun W h => (hbx1.under h.2).2 0 _ rfl
  have y1 : ∀ W, (Gw w W ∧ Below wq.heap.size wq W) → W.cell? ⟨w.heap.size, 1, none⟩ = some (.int .i64 a.fN) := fun W h => (hbx1.under h.2).2 1 _ rfl
  have z0 : ∀ W, (Gw w W ∧ Below wq.heap.size wq W) → W.cell? ⟨w.heap.size + 1, 0, none⟩ = some (.int .i64 b.fR) := fun W h => (hbx2.under h.2).2 0 _ rfl
  have z1 : ∀ W, (Gw w W ∧ Below wq.heap.size wq W) → W.cell? ⟨w.heap.size + 1, 1, none⟩ = some (.int .i64 b.fN) := fun W h => (hbx2.under h.2).2 1 _ rfl
  refine wp_region_held_drew (S := fun W => Gw w W ∧ Below wq.heap.size wq W) (by kernel_rfl) (⟨hgW.drew, Below.drew (Below.refl _ _)⟩) (fun hHeld => ?_)
  refine tk 0 q8b0_40_1_0 (some 5) (v := ?v1) rfl rfl (by kernel_rfl) hHeld (by rfl) (fun _ _ _ x => x) (fun w h => ?y1) ?_; (case y1 => (try dsimp only at h); go_simp; try (with_reducible rfl)); try simp only [Act.put, sa, s0, s1]
  refine tk 1 q8b0_40_1_1 (some 6) (v := ?v2) rfl rfl (by kernel_rfl) hHeld (by rfl) (fun _ _ _ x => x) (fun w h => ?y2) ?_; (case y2 => (try dsimp only at h); go_simp; try (with_reducible rfl)); try simp only [Act.put, sa, s0, s1]
  refine tk 2 q8b0_40_1_2 (some 7) (v := ?v3) rfl rfl (by kernel_rfl) hHeld (by rfl) (fun _ _ _ x => x) (fun w h => ?y3) ?_; (case y3 => (try dsimp only at h); go_simp; try (with_reducible rfl)); try simp only [Act.put, sa, s0, s1]
  refine tk 3 q8b0_40_1_3 (some 8) (v := ?v4) rfl rfl (by kernel_rfl) hHeld (by rfl) (fun _ _ _ x => x) (fun w h => ?y4) ?_; (case y4 => (try dsimp only at h); go_simp; try (with_reducible rfl)); try simp only [Act.put, sa, s0, s1]
  refine tk 5 q8b0_40_1_5 (some 10) (v := ?v5) rfl rfl (by kernel_rfl) hHeld (by rfl) (fun _ _ _ x => x) (fun w h => ?y5) ?_; (case y5 => (try dsimp only at h); go_simp; try (with_reducible rfl)); try simp only [Act.put, sa, s0, s1]
  refine tk 6 q8b0_40_1_6 (some 11) (v := ?v6) rfl rfl (by kernel_rfl) hHeld (by rfl) (fun _ _ _ x => x) (fun w h => ?y6) ?_; (case y6 => (try dsimp only at h); go_simp; try (with_reducible rfl)); try simp only [Act.put, sa, s0, s1]
  refine tk 7 q8b0_40_1_7 (some 12) (v := ?v7) rfl rfl (by kernel_rfl) hHeld (by rfl) (fun _ _ _ x => x) (fun w h => ?y7) ?_; (case y7 => (try dsimp only at h); go_simp; try (with_reducible rfl)); try simp only [Act.put, sa, s0, s1]
  refine tk 8 q8b0_40_1_8 (some 13) (v := ?v8) rfl rfl (by kernel_rfl) hHeld (by rfl) (fun _ _ _ x => x) (fun w h => ?y8) ?_; (case y8 => (try dsimp only at h); go_simp; try (with_reducible rfl)); try simp only [Act.put, sa, s0, s1]
  refine wpAnyH_ready (rs := [4]) (by kernel_rfl) (by simp) ?_
  refine AllReadyH.cons (o := q8b0_40_1_4) rfl (fun K hK => ?_) AllReadyH.nil
  go_simp
  refine Calls.mono (cmpI_any _ _ _) ?_
  rintro e w1 ⟨rfl, hw1⟩
  have hop1 : Gw w w1 ∧ Below wq.heap.size wq w1 := ⟨hHeld.1.same hw1, bthen hHeld.2 (below_same hw1)⟩
  clear hw1
  go_wp2_with fail
  refine hK.out _ _ (hop1) (fun hHeld => ?_)
  clear hK K
  try simp only [Act.put, sa, s0, s1]
  refine wpAnyH_ready (rs := [9]) (by kernel_rfl) (by simp) ?_
  refine AllReadyH.cons (o := q8b0_40_1_9) rfl (fun K hK => ?_) AllReadyH.nil
  go_simp
  refine Calls.mono (cmpI_any _ _ _) ?_
  rintro e w2 ⟨rfl, hw2⟩
  have hop2 : Gw w w2 ∧ Below wq.heap.size wq w2 := ⟨hHeld.1.same hw2, bthen hHeld.2 (below_same hw2)⟩
  clear hw2
  go_wp2_with fail
  refine hK.out _ _ (hop2) (fun hHeld => ?_)
  clear hK K
  try simp only [Act.put, sa, s0, s1]
  refine wpAnyH_ready (rs := [10]) (by kernel_rfl) (by simp) ?_
  refine AllReadyH.cons (o := q8b0_40_1_10) rfl (fun K hK => ?_) AllReadyH.nil
  go_simp
  obtain ⟨w5, hq5⟩ : ∃ x, x = w2.alloc (.cells (List.toArray [Value.int .i64 (ordI a.fR b.fR), Value.int .i64 (ordI a.fN b.fN)]) 3) := ⟨_, rfl⟩
  have hop3 : Gw w w5 ∧ Below wq.heap.size wq w5 := by rw [hq5]; exact ⟨hHeld.1.alloc _, hHeld.2.alloc hHeld.2.size _⟩
  have HB5 : Hid (Bx w5 w2.heap.size [.int .i64 (ordI a.fR b.fR), .int .i64 (ordI a.fN b.fN)]) := by unfold Hid; rw [hq5]; exact Bx.new _ _ _
  rw [← hq5]
  clear hq5
  refine hK.out _ _ (hop3) (fun hHeld => ?_)
  clear hK K
  try simp only [Act.put, sa, s0, s1]
  refine wpAnyH_ready (rs := [11]) (by kernel_rfl) (by simp) ?_
  refine AllReadyH.cons (o := q8b0_40_1_11) rfl (fun K hK => ?_) AllReadyH.nil
  go_simp
  refine Calls.mono (cmpOr_any (ordI a.fR b.fR) (ordI a.fN b.fN) w2.heap.size _ (ordI_wf _ _) (ordI_wf _ _) (HB5.out.2 0 _ rfl) (HB5.out.2 1 _ rfl)) ?_
  rintro e w4 ⟨rfl, hw4⟩
  have hop4 : Gw w w4 ∧ Below wq.heap.size wq w4 := ⟨hHeld.1.same hw4, bthen hHeld.2 (below_same hw4)⟩
  clear hw4
  rw [← HV.out]
  go_wp2_with fail
  refine hK.out _ _ (hop4) (fun hHeld => ?_)
  clear hK K
  try simp only [Act.put, sa, s0, s1]
  refine tk 12 q8b0_40_1_12 (some 4) (v := ?v9) rfl rfl (by kernel_rfl) hHeld (by rfl) (fun _ _ _ x => x) (fun w h => ?y9) ?_; (case y9 => (try dsimp only at h); go_simp; try (with_reducible rfl)); try simp only [Act.put, sa, s0, s1]
  refine wpAnyH_done (by kernel_rfl) ?_ _
  go_wp2_with fail
  go_ret
  exact ⟨rfl, hHeld.1⟩

theorem isAggD (w : World) : (isAgg 40).run Tryd.prog w = .ok true w := by kernel_rfl
theorem sizeOfD (w : World) : (Go.sizeOf 40).run Tryd.prog w = .ok 2 w := by kernel_rfl
theorem encsD_len (l : List MDot) : ∀ c, c ∈ l.map encD → c.length = 2 := by
  intro c hc
  obtain ⟨e, _, rfl⟩ := List.mem_map.1 hc
  rfl

theorem up_unique : ∀ {l k : List MDot}, l.Perm k → l.Pairwise (fun x y => dotLt x y = true) → k.Pairwise (fun x y => dotLt x y = true) → l = k
  | [], k, h, _, _ => by rw [List.nil_perm.1 h]
  | a :: r, [], h, _, _ => by simp at h
  | a :: r, b :: s, h, hl, hk => by
    rw [List.pairwise_cons] at hl hk
    have hab : a = b := by
      have h1 : a ∈ b :: s := h.mem_iff.1 (by simp)
      have h2 : b ∈ a :: r := h.mem_iff.2 (by simp)
      rcases List.mem_cons.1 h1 with e | h1
      · exact e
      · rcases List.mem_cons.1 h2 with e | h2
        · exact e.symm
        · exact (dotLt_asym (hl.1 b h2) (hk.1 a h1)).elim
    subst hab
    rw [up_unique (List.Perm.cons_inv h) hl.2 hk.2]

section
variable [Inhabited MDot]

theorem cmpLaysD (blk off size : Nat) (w : World) : CmpLays Tryd.prog 40 #[] encD 2 ordD blk off size w :=
  fun _ _ _ _ x y => dotOrder_grow x y _

/-- The library's sort, at a row of dots. -/
theorem sortD_any (blk cap : Nat) (d : Array MDot) (w : World) (hH : HoldsK encD 2 w blk 0 d) (hblk : blk < w.heap.size) (hsz : d.size < 4611686018427387904) :
    Calls Tryd.prog 39 #[.slice (some ⟨blk, 0, none⟩) d.size cap, .func (.func 40) #[] #[]] w fun e w' => e = .returned (.tuple #[]) ∧ ∃ d' n os, PermIn 0 d.size d d' ∧ SortedIn (ltOf ordD) 0 d.size d' ∧ w' = sortWorldK encD 2 w blk 0 n d' os := by
  have eg : ∀ args w, (callFunc 40 args).run Tryd.prog w = .ok (.enter 40 args) w := enters_of Tryd.func40 (by kernel_rfl) rfl
  exact AnyQ.slices_SortFunc sortDot 2 isAggD sizeOfD encD (fun _ => rfl) (fun x v hv => by simp [encD] at hv; rcases hv with rfl | rfl <;> rfl) ordD swoD 40 #[] blk 0 cap d w eg (cmpLaysD blk 0 d.size w) hH hblk hsz

theorem flatKD_at (d : Array MDot) (t : Nat) (h : t < d.size * 2) : (d.toList.map encD).flatten[t]? = some ((flatK encD 2 d)[t]!) := by
  rw [get_flatK encD 2 d t h]
  have h1 : t / 2 < d.size := by omega
  have e1 : t = t / 2 * 2 + t % 2 := by omega
  have hf := flatten_at (encsD_len d.toList) (j := t / 2) (i := t % 2) (by omega)
  rw [← e1] at hf
  rw [hf, List.getElem?_map, List.getElem?_eq_getElem (by simpa using h1)]
  simp only [Option.map_some, Option.bind_some, Array.getElem_toList]
  rw [getElem!_pos d (t / 2) h1]
  have h2 : t % 2 < 2 := by omega
  generalize t % 2 = r at *
  match r, h2 with
  | 0, _ => rfl
  | 1, _ => rfl

/-- The row ahead of the sort. -/
theorem holdsD {w : World} {base g cap : Nat} {l : List MDot} {e : TypeId} {B : Nat} (h : RowR 2 e rDot B w base (.slice (some ⟨g, 0, none⟩) l.length cap) l) : HoldsK encD 2 w g 0 l.toArray ∧ g < w.heap.size ∧ base ≤ g ∧ ∃ cur, w.heap[g]? = some (.cells cur e (0, 0)) ∧ cur.size = cap * 2 ∧ l.length ≤ cap ∧ cap ≤ maxLen ∧ ∀ x, x ∈ l → (Lit.int .i64 x.fR).wf = true ∧ (Lit.int .i64 x.fN).wf = true := by
  obtain ⟨css, r1, r2, r3, r4⟩ := h
  have hcss : css = l.map encD := by
    apply List.ext_getElem (by simp [r1])
    intro i h1 h2
    obtain ⟨e1, _⟩ := r3 i (by omega) h1
    rw [e1]
    simp [encD]
  rcases r4.2 with ⟨h0, _⟩ | ⟨g', cap', cur, h0, hb, hg, hnc, hm, hs, ht⟩
  · cases h0
  · simp only [Value.slice.injEq, Option.some.injEq, Addr.mk.injEq, and_true, true_and] at h0
    obtain ⟨rfl, rfl⟩ := h0
    refine ⟨?_, (Array.getElem?_eq_some_iff.1 hg).1, hb, cur, hg, hs, hnc, hm, ?_⟩
    · intro j hj
      have hj2 : j < l.toArray.size * 2 := by simpa using hj
      refine ⟨?_, frozen_of_row w g _ cur e hg⟩
      rw [Nat.zero_add, cell_of_row w g j cur e (0, 0) hg]
      have hf := flatKD_at l.toArray j hj2
      have hlt : j < l.length * 2 := by simpa using hj2
      rw [List.toList_toArray, ← hcss, ← ht, List.getElem?_take, if_pos hlt] at hf
      show cur[j]? = some ((flatK encD 2 l.toArray)[j]!)
      rw [← hf]
      simp
    · intro x hx
      obtain ⟨i, hi, rfl⟩ := List.mem_iff_getElem.1 hx
      obtain ⟨_, e2, e3, _⟩ := r3 i hi (by omega)
      exact ⟨e2, e3⟩

/-- The row behind it. -/
theorem sortedD {w : World} {g cap n : Nat} {e : TypeId} {cur : Array Value} (hg : w.heap[g]? = some (.cells cur e (0, 0))) (hs : cur.size = cap * 2) (hnc : n ≤ cap) (hm : cap ≤ maxLen) (d : Array MDot) (hd : d.size = n) (hx : ∀ x, x ∈ d.toList → (Lit.int .i64 x.fR).wf = true ∧ (Lit.int .i64 x.fN).wf = true) (m : Nat) (os : Array Obj) (B : Nat) :
    RowR 2 e rDot B (sortWorldK encD 2 w g 0 m d os) g (.slice (some ⟨g, 0, none⟩) n cap) d.toList ∧ Turn [g] w (sortWorldK encD 2 w g 0 m d os) := by
  have hgl : g < w.heap.size := (Array.getElem?_eq_some_iff.1 hg).1
  have hheap : (sortWorldK encD 2 w g 0 m d os).heap = w.heap.modify g (onCells (putCells id 0 (flatK encD 2 d))) ++ os := rfl
  have hblk : (sortWorldK encD 2 w g 0 m d os).heap[g]? = some (.cells (putCells id 0 (flatK encD 2 d) cur) e (0, 0)) := by
    rw [hheap, Array.getElem?_append_left (by simpa using hgl), Array.getElem?_modify, if_pos rfl, hg]
    rfl
  have hput : ∀ t, t < n * 2 → (putCells id 0 (flatK encD 2 d) cur)[t]? = (d.toList.map encD).flatten[t]? := by
    intro t ht
    have hcur : t < cur.size := by rw [hs]; have := Nat.mul_le_mul_right 2 hnc; omega
    rw [flatKD_at d t (by rw [hd]; exact ht)]
    unfold putCells
    rw [Array.getElem?_mapIdx, Array.getElem?_eq_getElem hcur]
    simp only [Option.map_some, Nat.zero_add, Nat.zero_le, true_and, size_flatK, Nat.sub_zero, id]
    rw [if_pos (by rw [hd]; exact ht)]
  have hrow : (sortWorldK encD 2 w g 0 m d os).ownsRow g e 2 (.slice (some ⟨g, 0, none⟩) n cap) n (d.toList.map encD).flatten := by
    refine ⟨by rw [flat_len (encsD_len _)]; simp [hd], .inr ⟨g, cap, _, rfl, Nat.le_refl _, hblk, hnc, hm, by unfold putCells; rw [Array.size_mapIdx]; exact hs, ?_⟩⟩
    apply List.ext_getElem?
    intro t
    rw [List.getElem?_take]
    by_cases ht : t < n * 2
    · rw [if_pos ht, ← hput t ht]
      simp
    · rw [if_neg ht, List.getElem?_eq_none (by rw [flat_len (encsD_len _)]; simp [hd]; omega)]
  refine ⟨⟨d.toList.map encD, by simp, encsD_len _, fun j h1 h2 => ?_, by rw [show d.toList.length = n by simpa using hd]; exact hrow⟩, ⟨rfl, rfl, rfl, by rw [hheap]; simp, fun b hb hne => ?_⟩⟩
  · have := hx d.toList[j] (List.getElem_mem h1)
    rw [List.getElem_map]
    exact ⟨rfl, this.1, this.2, trivial⟩
  · rw [hheap, Array.getElem?_append_left (by simpa using hb), Array.getElem?_modify, if_neg (by simp at hne; omega)]

theorem sorted_up {l : List MDot} {d d' : Array MDot} (hl : d.toList.Perm l) (hr : l.Pairwise (fun x y => dotLt x y = true)) (hp : PermIn 0 d.size d d') (hs : SortedIn (ltOf ordD) 0 d.size d') : d'.toList = l := by
  obtain ⟨h1, _, h3⟩ := hp
  have e1 : (d'.extract 0 d.size).toList = d'.toList := by simp [← h1]
  have e2 : (d.extract 0 d.size).toList = d.toList := by simp
  rw [e1, e2] at h3
  have hperm : d'.toList.Perm l := h3.trans hl
  have hnd : l.Pairwise (fun x y => ¬ sameD x y = true) := hr.imp (fun h => by rw [dotLt_ne h]; simp)
  have hnd' : d'.toList.Pairwise (fun x y => ¬ sameD x y = true) := hperm.symm.pairwise hnd (fun {a b} h => by rw [sameD_comm]; exact h)
  have hup : d'.toList.Pairwise (fun x y => dotLt x y = true) := by
    rw [List.pairwise_iff_getElem] at hnd' ⊢
    intro i j hi hj hij
    have h4 := hs i j (Nat.zero_le _) hij (by simp at hj; omega)
    have hi' : i < d'.size := by simpa using hi
    have hj' : j < d'.size := by simpa using hj
    rw [getElem!_pos d' i hi', getElem!_pos d' j hj', ltOfD] at h4
    have h5 := hnd' i j hi hj hij
    simp only [Array.getElem_toList] at h5 ⊢
    rw [dotLt_no] at h4
    unfold sameD at h5
    rw [decide_eq_true_iff] at h5
    rw [dotLt_iff]
    omega
  exact up_unique hperm hup hr

end

end Go.Proofs.YtmigamgcmhdncaaDoor
