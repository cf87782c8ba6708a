/-
  A list of groups without one of them: the library's Delete.
-/
import Derived.Test.YtmigamgcmhdncaaDoorRegK
import Derived.Test.YtmigamgcmhdncaaDoorOrdF
namespace Go.Proofs.YtmigamgcmhdncaaDoor
open Go.RowKit
set_option linter.unusedVariables false
set_option linter.unusedSimpArgs false
set_option maxRecDepth 10000
abbrev q9d5_52_5_0 : Oper := ⟨some 20, .move (.tmp 0), 62, "slices.go:232", #[], none⟩
abbrev q9d5_52_5_1 : Oper := ⟨some 21, .move (.tmp 1), 3, "slices.go:232", #[], none⟩
abbrev q9d5_52_5_2 : Oper := ⟨some 22, .slice 62 (.tmp 20) none (some (.tmp 21)) none, 62, "slices.go:232", #[⟨0, .data⟩, ⟨1, .data⟩], none⟩
abbrev q9d5_52_5_3 : Oper := ⟨some 23, .move (.tmp 0), 62, "slices.go:232", #[], none⟩
abbrev q9d5_52_5_4 : Oper := ⟨some 24, .move (.tmp 2), 3, "slices.go:232", #[], none⟩
abbrev q9d5_52_5_5 : Oper := ⟨some 25, .slice 62 (.tmp 23) (some (.tmp 24)) none none, 62, "slices.go:232", #[⟨3, .data⟩, ⟨4, .data⟩], none⟩
abbrev q9d5_52_5_6 : Oper := ⟨some 26, .call { callee := .builtin .append, args := #[.tmp 22, .tmp 25], argTypes := #[62, 62] }, 62, "slices.go:232", #[⟨2, .data⟩, ⟨5, .data⟩], none⟩
abbrev q9d5_52_5_7 : Oper := ⟨some 0, .assign (.tmp 26), 62, "slices.go:232", #[⟨6, .data⟩, ⟨6, .chain⟩, ⟨0, .phase⟩, ⟨1, .phase⟩, ⟨2, .phase⟩, ⟨3, .phase⟩, ⟨4, .phase⟩, ⟨5, .phase⟩, ⟨6, .phase⟩], none⟩

theorem step_append_fit {P : Program} {w : World} {ops : Array Oper} {o : Oper} {a : Act} {K : Act → World → Prop} {Q : Exit → Act → World → Prop} {E : Prop} (hgd : o.guard = none) (s x : Operand) (t tx : TypeId)
    (ho : o.op = .call { callee := .builtin .append, args := #[s, x], argTypes := #[t, tx] })
    (e : TypeId) (i : TypeInfo) (size : Nat) (ht : P.underlying t = some (.slice e)) (hi : P.info? e = some i) (hsize : i.size = size)
    (b off n cap : Nat) (hs : a.eval s = .slice (some ⟨b, off, none⟩) n cap) (y : Value) (hy : a.eval x = y) (m : Nat) (news : List Value) (hx : Src P size tx y m news w) (hroom : n + m ≤ cap)
    (hc : ∀ j, j < news.length → (w.cell? ⟨b, off + n * size + j, none⟩).isSome = true) (hf : ∀ j, j < news.length → w.frozen? ⟨b, off + n * size + j, none⟩ = false)
    (h : K (a.put o.dst (.slice (some ⟨b, off, none⟩) (n + m) cap)) (w.setCells b (off + n * size) news)) :
    if Region.wanted o (yielded ops a.tmps) = true then Oper.wp P o a w K Q else E := by
  have hw : Region.wanted o (yielded ops a.tmps) = true := by simp [Region.wanted, hgd]
  rw [if_pos hw]
  subst hy
  subst hsize
  have hr := run_append_room_src (P := P) w t tx o.type e i ht hi b off n cap (a.eval x) m news hx hroom hc hf
  unfold Oper.wp execOp
  simp only [ho, resolve, invoke, builtin, Sem.run_bind, Sem.run_pure, Result.andThen_ok, List.map_toArray, List.map_cons, List.map_nil, hs, hr]
  exact h
theorem run_clear4 {P : Program} (w : World) (t e ty : TypeId) (z : Value) (zs : List Value) (ht : P.underlying t = some (.slice e)) (hv : ∀ w, (zeroValue e).run P w = .ok z w) (hz : (Builtin.zeroCells z.cells 1).toList = zs) (hz1 : ∀ v ∈ zs, v.oneCell' = true) (b o c : Nat)
    (hc : ∀ j, j < zs.length → (w.cell? ⟨b, o + j, none⟩).isSome = true) (hf : ∀ j, j < zs.length → w.frozen? ⟨b, o + j, none⟩ = false) :
    (Builtin.clear_ #[t] ty #[.slice (some ⟨b, o, none⟩) 1 c]).run P w = .ok (.tuple #[]) (w.setCells b o zs) := by
  subst hz
  have hst := run_storeCells_cells (P := P) b o (Builtin.zeroCells z.cells 1).toList 0 w (by simpa using hc) (by simpa using hf) hz1
  simp only [Nat.add_zero] at hst
  simp [Builtin.clear_, run_underlying ht, hv, hst]
theorem zeroGroup (w : World) : (zeroValue 68).run Tryd.prog w = .ok (.agg #[.int .u64 0, .int .u64 0, .int .u64 0, .int .u64 0]) w := by kernel_rfl
theorem setCells_turn (g : Nat) : ∀ (news : List Value) (o : Nat) (w : World), Turn [g] w (w.setCells g o news)
  | [], o, w => Turn.refl _ _
  | u :: r, o, w => ((Turn.refl [g] w).setCell (p := ⟨g, o, none⟩) (by simp) u).trans (setCells_turn g r (o + 1) _)

set_option maxHeartbeats 4000000 in
theorem deleteG_any (g n cap i B base : Nat) (gs : List MGrp) (w : World) (hx : gs.length = n) (hi : i < n) (hn : n ≤ 1000) (hrow : RowR 4 68 rGrp B w base (.slice (some ⟨g, 0, none⟩) n cap) gs) :
    Calls Tryd.prog 52 #[.slice (some ⟨g, 0, none⟩) n cap, .int .i64 i, .int .i64 ((i : Int) + 1)] w fun e w' => e = .returned (.slice (some ⟨g, 0, none⟩) (n - 1) cap) ∧ RowR 4 68 rGrp B w' base (.slice (some ⟨g, 0, none⟩) (n - 1) cap) (gs.eraseIdx i) ∧ Turn [g] w w' := by
  obtain ⟨iG, hiG, hzG0, hzG1, hzG2⟩ := info_parts Tryd.infoOfGroup
  obtain ⟨css, r1, r2, r3, r4⟩ := hrow
  rw [hx] at r1 r4
  rcases r4.2 with ⟨h0, _⟩ | ⟨g', cap', cur, h0, hb, hg, hnc, hmx, hcs, htake⟩
  · cases h0
  simp only [Value.slice.injEq, Option.some.injEq, Addr.mk.injEq, and_true, true_and] at h0
  obtain ⟨rfl, rfl⟩ := h0
  have hfl : css.flatten.length = n * 4 := by rw [flat_len r2, r1]
  obtain ⟨news, hnews⟩ : ∃ news, news = (css.drop (i + 1)).flatten := ⟨_, rfl⟩
  have r2' : ∀ c, c ∈ css.drop (i + 1) → c.length = 4 := fun c hc => r2 c (List.mem_of_mem_drop hc)
  have hnl : news.length = (n - (i + 1)) * 4 := by rw [hnews, flat_len r2', List.length_drop, r1]
  have hdrop : css.flatten.drop ((i + 1) * 4) = news := by
    rw [hnews]
    have e : css.flatten = (css.take (i + 1)).flatten ++ (css.drop (i + 1)).flatten := by rw [← List.flatten_append, List.take_append_drop]
    rw [e, List.drop_left' (by rw [flat_len (fun c hc => r2 c (List.mem_of_mem_take hc)), List.length_take, r1]; omega)]
  have hone : ∀ u, u ∈ news → u.oneCell' = true := by
    intro u hu
    rw [hnews] at hu
    obtain ⟨cs, hcs, huc⟩ := List.mem_flatten.1 hu
    obtain ⟨j, hj, rfl⟩ := List.mem_iff_getElem.1 (List.mem_of_mem_drop hcs)
    obtain ⟨e, _⟩ := r3 j (by omega) hj
    rw [e] at huc
    simp [MGrp.cells] at huc
    rcases huc with rfl | rfl | rfl | rfl <;> rfl
  have hcell : ∀ t u, news[t]? = some u → w.cell? ⟨g, (i + 1) * 4 + t, none⟩ = some u := fun t u hu => by
    rw [cell_of_row w g _ cur _ (0, 0) hg]
    rw [← hdrop, List.getElem?_drop, ← htake, List.getElem?_take] at hu
    split at hu
    · simpa using hu
    · cases hu
  obtain ⟨A, hA, HSRC⟩ : ∃ A : Addr, (if cap = i + 1 then some (⟨g, 0, none⟩ : Addr) else some ⟨g, (i + 1) * 4, none⟩) = some A ∧ Hid (Src Tryd.prog 4 62 (.slice (some A) (n - (i + 1)) (cap - (i + 1))) (n - (i + 1)) news w.drew) := by
    by_cases h : cap = i + 1
    · refine ⟨⟨g, 0, none⟩, by simp [h], ?_⟩
      have h0 : n - (i + 1) = 0 := by omega
      have hn0 : news = [] := List.eq_nil_of_length_eq_zero (by rw [hnl, h0])
      exact Src.ofSlice w.drew Tryd.underlying62 _ _ _ news (by rw [hnl]) (fun j u hu => by rw [hn0] at hu; simp at hu) hone
    · refine ⟨⟨g, (i + 1) * 4, none⟩, by simp [h], ?_⟩
      exact Src.ofSlice w.drew Tryd.underlying62 _ _ _ news (by rw [hnl]) (fun j u hu => by rw [Addr.add_lit]; exact hcell j u hu) hone
  have HCS : Hid (∀ j, j < news.length → (w.drew.cell? ⟨g, 0 + i * 4 + j, none⟩).isSome = true) := fun j hj => by
    show (w.cell? _).isSome = true
    rw [cell_of_row w g _ cur _ (0, 0) hg, Array.getElem?_eq_getElem (by rw [hcs]; omega)]
    rfl
  have HFZ : Hid (∀ j, j < news.length → w.drew.frozen? ⟨g, 0 + i * 4 + j, none⟩ = false) := fun j hj => frozen_of_row w g _ cur _ hg
  obtain ⟨W1, hW1⟩ : ∃ W1, W1 = w.drew.setCells g (0 + i * 4) news := ⟨_, rfl⟩
  obtain ⟨cur1, c1, c2, c3⟩ := setCells_row' g 68 news (0 + i * 4) w.drew cur hg (by rw [hcs, hnl]; omega)
  rw [← hW1] at c1
  have HT1 : Hid (Turn [g] w W1) := by unfold Hid; rw [hW1]; exact (Turn.ofBelow (Below.drew (Below.refl _ _))).trans (setCells_turn g _ _ _)
  have hcl : ∀ ty, (Builtin.clear_ #[62] ty #[.slice (some ⟨g, (n - 1) * 4, none⟩) 1 (cap - (n - 1))]).run Tryd.prog W1 = .ok (.tuple #[]) (W1.setCells g ((n - 1) * 4) [.int .u64 0, .int .u64 0, .int .u64 0, .int .u64 0]) := fun ty =>
    run_clear4 W1 62 68 ty (.agg #[.int .u64 0, .int .u64 0, .int .u64 0, .int .u64 0]) [.int .u64 0, .int .u64 0, .int .u64 0, .int .u64 0] Tryd.underlying62 zeroGroup (by kernel_rfl) (by intro v hv; simp at hv; rw [hv]; rfl) g ((n - 1) * 4) (cap - (n - 1)) (fun j hj => by rw [cell_of_row W1 g _ cur1 _ (0, 0) c1, Array.getElem?_eq_getElem (by rw [c2, hcs]; simp at hj; omega)]; rfl) (fun j hj => frozen_of_row W1 g _ cur1 _ c1)
  obtain ⟨cur2, d1, d2, d3⟩ := setCells_row' g 68 [.int .u64 0, .int .u64 0, .int .u64 0, .int .u64 0] ((n - 1) * 4) W1 cur1 c1 (by rw [c2, hcs]; simp; omega)
  obtain ⟨W2, hW2⟩ : ∃ W2, W2 = W1.setCells g ((n - 1) * 4) [.int .u64 0, .int .u64 0, .int .u64 0, .int .u64 0] := ⟨_, rfl⟩
  rw [← hW2] at hcl d1
  have HT2 : Hid (Turn [g] w W2) := by unfold Hid; rw [hW2]; exact HT1.out.trans (setCells_turn g _ _ _)
  have HFIN : Hid (RowR 4 68 rGrp B W2 base (.slice (some ⟨g, 0, none⟩) (n - 1) cap) (gs.eraseIdx i)) := by
    have hle : (gs.eraseIdx i).length = n - 1 := by rw [List.length_eraseIdx, if_pos (by omega), hx]
    have hlc : (css.eraseIdx i).length = n - 1 := by rw [List.length_eraseIdx, if_pos (by omega), r1]
    have r2e : ∀ c, c ∈ css.eraseIdx i → c.length = 4 := fun c hc => r2 c (List.mem_of_mem_eraseIdx hc)
    refine ⟨css.eraseIdx i, by rw [hle, hlc], r2e, fun j h1 h2 => ?_, ?_⟩
    · have hj : j < n - 1 := by omega
      by_cases hji : j < i
      · rw [List.getElem_eraseIdx_of_lt _ hji, List.getElem_eraseIdx_of_lt _ hji]
        exact r3 j (by omega) (by omega)
      · rw [List.getElem_eraseIdx_of_ge _ (by omega), List.getElem_eraseIdx_of_ge _ (by omega)]
        exact r3 (j + 1) (by omega) (by omega)
    · rw [hle]
      refine ⟨by rw [flat_len r2e, hlc], .inr ⟨g, cap, cur2, rfl, hb, d1, by omega, hmx, by rw [d2, c2, hcs], ?_⟩⟩
      have e1 : cur2.toList.take ((n - 1) * 4) = cur1.toList.take ((n - 1) * 4) := by
        rw [d3, List.append_assoc, List.take_left' (by rw [List.length_take, Array.length_toList, c2, hcs]; omega)]
      have e2 : cur1.toList.take ((n - 1) * 4) = cur.toList.take (i * 4) ++ news := by
        rw [c3, Nat.zero_add, List.take_left' (by rw [List.length_append, List.length_take, Array.length_toList, hcs, hnl]; omega)]
      have e3 : cur.toList.take (i * 4) = (css.take i).flatten := by
        have e : css.flatten = (css.take i).flatten ++ (css.drop i).flatten := by rw [← List.flatten_append, List.take_append_drop]
        have e' := congrArg (List.take (i * 4)) htake
        rw [List.take_take, Nat.min_eq_left (by omega), e, List.take_left' (by rw [flat_len (fun c hc => r2 c (List.mem_of_mem_take hc)), List.length_take, r1]; omega)] at e'
        exact e'
      rw [e1, e2, e3, hnews, List.eraseIdx_eq_take_drop_succ, List.flatten_append]
  have hW1h := Hid.mk hW1
  clear hW1 hW2 c1 c2 c3 d1 d2 d3 hcell hone hdrop r1 r2 r3 r4 r2' htake hcs hg hfl hnews
  have hi1 : (0 : Int) ≤ (i : Int) := by omega
  have hi2 : (i : Int) + 1 ≤ (n : Int) := by omega
  have hi3 : (0 : Int) ≤ (i : Int) + 1 := by omega
  have hic : i ≤ cap := by omega
  have hjc : i + 1 ≤ cap := by omega
  have hne : ¬ (i : Int) = (i : Int) + 1 := by omega
  go_enter Tryd.func52, Tryd.ntmps52
  go_wp2_with fail
  refine wp_region_held_drew (S := fun W => True) (by kernel_rfl) (trivial) (fun hHeld => ?_)
  refine tk 0 q9d5_52_5_0 (some 20) (v := ?v1) rfl rfl (by kernel_rfl) hHeld (by rfl) (fun _ _ _ x => x) (fun w h => ?y1) ?_; (case y1 => (try dsimp only at h); go_simp; try (with_reducible rfl)); try simp only [Act.put, sa, s0, s1]
  refine tk 1 q9d5_52_5_1 (some 21) (v := ?v2) rfl rfl (by kernel_rfl) hHeld (by rfl) (fun _ _ _ x => x) (fun w h => ?y2) ?_; (case y2 => (try dsimp only at h); go_simp; try (with_reducible rfl)); try simp only [Act.put, sa, s0, s1]
  refine tk 2 q9d5_52_5_2 (some 22) (v := ?v3) rfl rfl (by kernel_rfl) hHeld (by rfl) (fun _ _ _ x => x) (fun w h => ?y3) ?_; (case y3 => (try dsimp only at h); go_simp; try (with_reducible rfl)); try simp only [Act.put, sa, s0, s1]
  refine tk 3 q9d5_52_5_3 (some 23) (v := ?v4) rfl rfl (by kernel_rfl) hHeld (by rfl) (fun _ _ _ x => x) (fun w h => ?y4) ?_; (case y4 => (try dsimp only at h); go_simp; try (with_reducible rfl)); try simp only [Act.put, sa, s0, s1]
  refine tk 4 q9d5_52_5_4 (some 24) (v := ?v5) rfl rfl (by kernel_rfl) hHeld (by rfl) (fun _ _ _ x => x) (fun w h => ?y5) ?_; (case y5 => (try dsimp only at h); go_simp; try (with_reducible rfl)); try simp only [Act.put, sa, s0, s1]
  refine tk 5 q9d5_52_5_5 (some 25) (v := ?v6) rfl rfl (by kernel_rfl) hHeld (by rfl) (fun _ _ _ x => x) (fun w h => ?y6) ?_; (case y6 => (try dsimp only at h); go_simp; try (with_reducible rfl)); try simp only [Act.put, sa, s0, s1]
  refine wpAnyH_ready (rs := [6]) (by kernel_rfl) (by simp) ?_
  refine AllReadyH.cons (o := q9d5_52_5_6) rfl (fun K hK => ?_) AllReadyH.nil
  refine step_append_fit (w := w.drew) rfl _ _ 62 62 rfl 68 iG 4 Tryd.underlying62 hiG hzG1 g 0 i cap rfl (.slice (some A) (n - (i + 1)) (cap - (i + 1))) (by simp [Act.eval, Act.put, hA]) (n - (i + 1)) news HSRC.out (by omega) HCS.out HFZ.out ?_
  rw [← hW1h.out]
  refine hK.out _ _ (trivial) (fun hHeld => ?_)
  clear hK K
  try simp only [Act.put, sa, s0, s1]
  refine tk 7 q9d5_52_5_7 (some 0) (v := ?v7) rfl rfl (by kernel_rfl) hHeld (by rfl) (fun _ _ _ x => x) (fun w h => ?y7) ?_; (case y7 => (try dsimp only at h); go_simp; try (with_reducible rfl)); try simp only [Act.put, sa, s0, s1]
  refine wpAnyH_done (by kernel_rfl) ?_ _
  have e0 : i + (n - (i + 1)) = n - 1 := by omega
  rw [e0]
  obtain ⟨p, hp⟩ : ∃ p, p = n - 1 := ⟨_, rfl⟩
  rw [← hp] at hcl HFIN ⊢
  have hp1 : (p : Int) ≤ (n : Int) := by omega
  have hp2 : (0 : Int) ≤ (p : Int) := by omega
  have hp3 : n - p = 1 := by omega
  have hp4 : ¬ cap = p := by omega
  have hp5 : (n : Int) ≤ (cap : Int) := by omega
  have hp6 : (0 : Int) ≤ (n : Int) := by omega
  have HPE := Hid.mk hp
  clear hp e0
  go_wp2_with (simp only [hcl])
  go_ret
  rw [← HPE.out]
  exact ⟨rfl, HFIN.out, HT2.out⟩

end Go.Proofs.YtmigamgcmhdncaaDoor
