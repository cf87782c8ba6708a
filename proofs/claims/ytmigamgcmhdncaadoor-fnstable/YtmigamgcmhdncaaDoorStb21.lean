/-
  Part 22 of the texts that the proof leans on.
-/
import Derived.Test.YtmigamgcmhdncaaDoorStb17
import Derived.Test.YtmigamgcmhdncaaDoorStb20
import Derived.Test.YtmigamgcmhdncaaDoorStb0
import Derived.Test.YtmigamgcmhdncaaDoorStb5
set_option linter.unusedVariables false
set_option linter.unusedSimpArgs false
set_option maxRecDepth 10000

namespace Go.Proofs.YtmigamgcmhdncaaDoor
open Go.RowKit

structure OrdSt (l : List MItem) (qs rs : List Nat) (grs : List MGrp) (s : MSet) (L : List MDot) : Prop where
  ord : OrdOk l qs
  asc : rs.Pairwise (· < ·)
  who : ∀ p, p ∈ rs ↔ p < l.length ∧ lead l p ∧ p ∉ qs
  len : grs.length = rs.length
  each : ∀ i, (h : i < rs.length) → (h2 : i < grs.length) → GrpOk l rs[i] grs[i]
  ok : s.ok
  got : ∀ j, j < 128 → (s.has j = true ↔ takenBy l qs j)
  dots : DotsOf l qs L
theorem OrdSt.start {l : List MItem} {ps : List Nat} {gs : List MGrp} (h : GroupsOk l l.length ps gs) : OrdSt l [] ps gs ⟨0, 0⟩ [] :=
  ⟨OrdOk.nil l, h.asc, fun p => by rw [h.who]; simp, h.len, h.each, ⟨by decide, by decide⟩, fun j hj => by rw [MSet.zero_has]; simp [takenBy], DotsOf.nil l⟩
theorem OrdSt.free {l : List MItem} {qs rs : List Nat} {grs : List MGrp} {s : MSet} {L : List MDot} (h : OrdSt l qs rs grs s L) (hl : l.length ≤ 100) {i : Nat} (hi : i < grs.length) : ∃ hr : i < rs.length, (freeG s grs[i] = true ↔ cand l qs rs[i]) := by
  have hr : i < rs.length := by rw [← h.len]; exact hi
  have hg := h.each i hr hi
  obtain ⟨h1, h2, h3⟩ := (h.who rs[i]).1 (List.getElem_mem hr)
  refine ⟨hr, ?_⟩
  rw [freeG_iff h.ok hg.okn]
  constructor
  · intro hf
    refine ⟨h1, h2.1, fun ht => h3 ((h.ord.taken_lead h2).1 ht), fun j hj hn => ?_⟩
    have := hj.lt
    exact (h.got j (by omega)).1 (hf j (by omega) ((hg.need j (by omega)).2 ⟨hj, hn⟩))
  · intro hc j hj hn
    obtain ⟨a, b⟩ := (hg.need j hj).1 hn
    exact (h.got j hj).2 (hc.2.2.2 j a b)
/-- What can be taken has its leader in the list. -/
theorem OrdSt.of_cand {l : List MItem} {qs rs : List Nat} {grs : List MGrp} {s : MSet} {L : List MDot} (h : OrdSt l qs rs grs s L) {q : Nat} (hq : cand l qs q) : ∃ i, ∃ hr : i < rs.length, rs[i] ≤ q ∧ cand l qs rs[i] := by
  obtain ⟨q0, h1, h2, h3⟩ := lead_of q hq.2.1
  have hc := hq.ring h3.symm
  have hm : q0 ∈ rs := (h.who q0).2 ⟨hc.1, h2, fun hm => hc.2.2.1 ⟨q0, hm, ring.refl _ _⟩⟩
  obtain ⟨i, hi, rfl⟩ := List.mem_iff_getElem.1 hm
  exact ⟨i, hi, h1, hc⟩
theorem OrdSt.next {l : List MItem} {qs rs : List Nat} {grs : List MGrp} {s : MSet} {L : List MDot} (h : OrdSt l qs rs grs s L) (hl : l.length ≤ 100) {i : Nat} (hi : i < grs.length) (hf : freeG s grs[i] = true) (hn : ∀ j, (hj : j < grs.length) → j < i → freeG s grs[j] = false) : ∃ hr : i < rs.length, nextOk l qs rs[i] := by
  obtain ⟨hr, h1⟩ := h.free hl hi
  refine ⟨hr, h1.1 hf, fun q hq hc => ?_⟩
  obtain ⟨k, hk, h2, h3⟩ := h.of_cand hc
  have hki : k < i := by
    apply Classical.byContradiction
    intro hge
    by_cases e : k = i
    · subst e; omega
    · have := (List.pairwise_iff_getElem.1 h.asc) i k hr hk (by omega)
      omega
  have hkg : k < grs.length := by rw [h.len]; exact hk
  have h4 := (h.free hl hkg).2.2 h3
  rw [hn k hkg hki] at h4; cases h4
theorem OrdSt.step {l : List MItem} {qs rs : List Nat} {grs : List MGrp} {s : MSet} {L : List MDot} (h : OrdSt l qs rs grs s L) (hl : l.length ≤ 100) {i : Nat} (hi : i < grs.length) (hf : freeG s grs[i] = true) (hn : ∀ j, (hj : j < grs.length) → j < i → freeG s grs[j] = false) :
    ∃ p, OrdSt l (qs ++ [p]) (rs.eraseIdx i) (grs.eraseIdx i) (s.join grs[i].mem) (L ++ pickT grs[i].mem.has l l.length) := by
  obtain ⟨hr, hx⟩ := h.next hl hi hf hn
  have hg := h.each i hr hi
  have hsub : (rs.eraseIdx i).Sublist rs := List.eraseIdx_sublist _ _
  refine ⟨rs[i], h.ord.snoc hx, h.asc.sublist hsub, fun p => ?_, by rw [List.length_eraseIdx, List.length_eraseIdx, if_pos hi, if_pos hr, h.len], fun j h1 h2 => ?_, MSet.join_ok h.ok hg.okm, fun j hj => ?_, h.dots.snoc ⟨grs[i].mem.has, fun j hj => hg.mem j (by omega), rfl⟩⟩
  · have hnd : rs.Nodup := h.asc.imp (fun h => Nat.ne_of_lt h)
    have hme : p ∈ rs.eraseIdx i ↔ p ∈ rs ∧ p ≠ rs[i] := by
      rw [List.mem_eraseIdx_iff_getElem]
      constructor
      · rintro ⟨k, hk, hki, rfl⟩
        refine ⟨List.getElem_mem hk, fun e => ?_⟩
        rcases Nat.lt_trichotomy k i with g | g | g
        · have := (List.pairwise_iff_getElem.1 h.asc) k i hk hr g; omega
        · exact hki g
        · have := (List.pairwise_iff_getElem.1 h.asc) i k hr hk g; omega
      · rintro ⟨hm, hne⟩
        obtain ⟨k, hk, rfl⟩ := List.mem_iff_getElem.1 hm
        exact ⟨k, hk, fun e => hne (by subst e; rfl), rfl⟩
    rw [hme, h.who, List.mem_append, List.mem_singleton]
    constructor
    · rintro ⟨⟨a, b, c⟩, d⟩
      exact ⟨a, b, fun e => e.elim c d⟩
    · rintro ⟨a, b, c⟩
      exact ⟨⟨a, b, fun e => c (.inl e)⟩, fun e => c (.inr e)⟩
  · by_cases hji : j < i
    · have e1 : (rs.eraseIdx i)[j] = rs[j]'(by omega) := List.getElem_eraseIdx_of_lt _ hji
      have e2 : (grs.eraseIdx i)[j] = grs[j]'(by omega) := List.getElem_eraseIdx_of_lt _ hji
      rw [e1, e2]
      exact h.each j _ _
    · have l1 : (rs.eraseIdx i).length = rs.length - 1 := by rw [List.length_eraseIdx, if_pos hr]
      have l2 : (grs.eraseIdx i).length = grs.length - 1 := by rw [List.length_eraseIdx, if_pos hi]
      have e1 : (rs.eraseIdx i)[j] = rs[j + 1]'(by omega) := List.getElem_eraseIdx_of_ge _ (by omega)
      have e2 : (grs.eraseIdx i)[j] = grs[j + 1]'(by omega) := List.getElem_eraseIdx_of_ge _ (by omega)
      rw [e1, e2]
      exact h.each (j + 1) _ _
  · rw [MSet.join_has, Bool.or_eq_true, h.got j hj, hg.mem j hj, takenBy_snoc]
theorem OrdSt.stuck {l : List MItem} {qs rs : List Nat} {grs : List MGrp} {s : MSet} {L : List MDot} (h : OrdSt l qs rs grs s L) (hl : l.length ≤ 100) (h0 : 0 < grs.length) (hn : ∀ j, (hj : j < grs.length) → freeG s grs[j] = false) : False := by
  have hr : 0 < rs.length := by rw [← h.len]; exact h0
  obtain ⟨h1, h2, h3⟩ := (h.who rs[0]).1 (List.getElem_mem hr)
  obtain ⟨q, hq⟩ := h.ord.free h1 h2.1 (fun ht => h3 ((h.ord.taken_lead h2).1 ht))
  obtain ⟨k, hk, _, h5⟩ := h.of_cand hq
  have hkg : k < grs.length := by rw [h.len]; exact hk
  have h4 := (h.free hl hkg).2.2 h5
  rw [hn k hkg] at h4; cases h4
theorem OrdSt.done {l : List MItem} {qs rs : List Nat} {grs : List MGrp} {s : MSet} {L : List MDot} (h : OrdSt l qs rs grs s L) (h0 : grs.length = 0) : OrdFull l qs :=
  ⟨h.ord, fun p hp => by
    obtain ⟨k, hk, _⟩ := h.of_cand hp
    have := h.len
    omega⟩
/-- The same, where the graph may be wrong. -/
def OrdSt' (m : MGraph) (grs : List MGrp) (s : MSet) (L : List MDot) : Prop := s.ok ∧ L.length ≤ 10000 ∧ grs.length ≤ 100 ∧ ((graphP m = false ∧ grs = [] ∧ L = []) ∨ (graphP m = true ∧ ∃ qs rs, OrdSt m.fItems qs rs grs s L))
theorem OrdSt.len10 {m : MGraph} (hg : graphP m = true) {qs rs : List Nat} {grs : List MGrp} {s : MSet} {L : List MDot} (h : OrdSt m.fItems qs rs grs s L) : L.length ≤ 10000 ∧ grs.length ≤ 100 := by
  have a := h.dots.len
  have b := h.ord.len
  have c := graph_len hg
  have d := Nat.mul_le_mul (Nat.le_trans b c) c
  have e : rs.length ≤ m.fItems.length := asc_len h.asc (fun p hp => ((h.who p).1 hp).1)
  have f := h.len
  omega
theorem OrdSt'.start {m : MGraph} {gs : List MGrp} (h : GroupsL m gs) : OrdSt' m gs ⟨0, 0⟩ [] := by
  rcases h with ⟨h1, rfl⟩ | ⟨h1, ps, h2⟩
  · exact ⟨⟨by decide, by decide⟩, by simp, by simp, .inl ⟨h1, rfl, rfl⟩⟩
  · have h3 := OrdSt.start h2
    exact ⟨⟨by decide, by decide⟩, (h3.len10 h1).1, (h3.len10 h1).2, .inr ⟨h1, [], ps, h3⟩⟩
theorem OrdSt'.small {m : MGraph} {grs : List MGrp} {s : MSet} {L : List MDot} (h : OrdSt' m grs s L) (h0 : 0 < grs.length) : m.fItems.length ≤ 100 := by
  rcases h.2.2.2 with ⟨_, rfl, _⟩ | ⟨hg, _⟩
  · simp at h0
  · exact graph_len hg
theorem OrdSt'.step {m : MGraph} {grs : List MGrp} {s : MSet} {L : List MDot} (h : OrdSt' m grs s L) {i : Nat} (hi : i < grs.length) (hf : freeG s grs[i] = true) (hn : ∀ j, (hj : j < grs.length) → j < i → freeG s grs[j] = false) :
    OrdSt' m (grs.eraseIdx i) (s.join grs[i].mem) (L ++ pickT grs[i].mem.has m.fItems m.fItems.length) := by
  rcases h.2.2.2 with ⟨_, rfl, _⟩ | ⟨hg, qs, rs, h1⟩
  · simp at hi
  · obtain ⟨p, h2⟩ := h1.step (graph_len hg) hi hf hn
    exact ⟨h2.ok, (h2.len10 hg).1, (h2.len10 hg).2, .inr ⟨hg, _, _, h2⟩⟩
theorem OrdSt'.stuck {m : MGraph} {grs : List MGrp} {s : MSet} {L : List MDot} (h : OrdSt' m grs s L) (h0 : 0 < grs.length) (hn : ∀ j, (hj : j < grs.length) → freeG s grs[j] = false) : False := by
  rcases h.2.2.2 with ⟨_, rfl, _⟩ | ⟨hg, qs, rs, h1⟩
  · simp at h0
  · exact h1.stuck (graph_len hg) h0 hn
theorem OrdSt'.done {m : MGraph} {grs : List MGrp} {s : MSet} {L : List MDot} (h : OrdSt' m grs s L) (h0 : grs.length = 0) : OrderL m L := by
  rcases h.2.2.2 with ⟨h1, _, rfl⟩ | ⟨hg, qs, rs, h1⟩
  · exact .inl ⟨h1, rfl⟩
  · exact .inr ⟨hg, qs, h1.done h0, h1.dots⟩

abbrev q9d5_52_5_0 : Oper := ⟨some 20, .move (.tmp 0), 62, "slices.go:232", #[], none⟩
abbrev q9d5_52_5_1 : Oper := ⟨some 21, .move (.tmp 1), 3, "slices.go:232", #[], none⟩
abbrev q9d5_52_5_2 : Oper := ⟨some 22, .slice 62 (.tmp 20) none (some (.tmp 21)) none, 62, "slices.go:232", #[⟨0, .data⟩, ⟨1, .data⟩], none⟩
abbrev q9d5_52_5_3 : Oper := ⟨some 23, .move (.tmp 0), 62, "slices.go:232", #[], none⟩
abbrev q9d5_52_5_4 : Oper := ⟨some 24, .move (.tmp 2), 3, "slices.go:232", #[], none⟩
abbrev q9d5_52_5_5 : Oper := ⟨some 25, .slice 62 (.tmp 23) (some (.tmp 24)) none none, 62, "slices.go:232", #[⟨3, .data⟩, ⟨4, .data⟩], none⟩
abbrev q9d5_52_5_6 : Oper := ⟨some 26, .call { callee := .builtin .append, args := #[.tmp 22, .tmp 25], argTypes := #[62, 62] }, 62, "slices.go:232", #[⟨2, .data⟩, ⟨5, .data⟩], none⟩
abbrev q9d5_52_5_7 : Oper := ⟨some 0, .assign (.tmp 26), 62, "slices.go:232", #[⟨6, .data⟩, ⟨6, .chain⟩, ⟨0, .phase⟩, ⟨1, .phase⟩, ⟨2, .phase⟩, ⟨3, .phase⟩, ⟨4, .phase⟩, ⟨5, .phase⟩, ⟨6, .phase⟩], none⟩

theorem step_append_fit {P : Program} {w : World} {ops : Array Oper} {o : Oper} {a : Act} {K : Act → World → Prop} {Q : Exit → Act → World → Prop} {E : Prop} (hgd : o.guard = none) (s x : Operand) (t tx : TypeId)
    (ho : o.op = .call { callee := .builtin .append, args := #[s, x], argTypes := #[t, tx] })
    (e : TypeId) (i : TypeInfo) (size : Nat) (ht : P.underlying t = some (.slice e)) (hi : P.info? e = some i) (hsize : i.size = size)
    (b off n cap : Nat) (hs : a.eval s = .slice (some ⟨b, off, none⟩) n cap) (y : Value) (hy : a.eval x = y) (m : Nat) (news : List Value) (hx : Src P size tx y m news w) (hroom : n + m ≤ cap)
    (hc : ∀ j, j < news.length → (w.cell? ⟨b, off + n * size + j, none⟩).isSome = true) (hf : ∀ j, j < news.length → w.frozen? ⟨b, off + n * size + j, none⟩ = false)
    (h : K (a.put o.dst (.slice (some ⟨b, off, none⟩) (n + m) cap)) (w.setCells b (off + n * size) news)) :
    if Region.wanted o (yielded ops a.tmps) = true then Oper.wp P o a w K Q else E := by
  have hw : Region.wanted o (yielded ops a.tmps) = true := by simp [Region.wanted, hgd]
  rw [if_pos hw]
  subst hy
  subst hsize
  have hr := run_append_room_src (P := P) w t tx o.type e i ht hi b off n cap (a.eval x) m news hx hroom hc hf
  unfold Oper.wp execOp
  simp only [ho, resolve, invoke, builtin, Sem.run_bind, Sem.run_pure, Result.andThen_ok, List.map_toArray, List.map_cons, List.map_nil, hs, hr]
  exact h
theorem run_clear4 {P : Program} (w : World) (t e ty : TypeId) (z : Value) (zs : List Value) (ht : P.underlying t = some (.slice e)) (hv : ∀ w, (zeroValue e).run P w = .ok z w) (hz : (Builtin.zeroCells z.cells 1).toList = zs) (hz1 : ∀ v ∈ zs, v.oneCell' = true) (b o c : Nat)
    (hc : ∀ j, j < zs.length → (w.cell? ⟨b, o + j, none⟩).isSome = true) (hf : ∀ j, j < zs.length → w.frozen? ⟨b, o + j, none⟩ = false) :
    (Builtin.clear_ #[t] ty #[.slice (some ⟨b, o, none⟩) 1 c]).run P w = .ok (.tuple #[]) (w.setCells b o zs) := by
  subst hz
  have hst := run_storeCells_cells (P := P) b o (Builtin.zeroCells z.cells 1).toList 0 w (by simpa using hc) (by simpa using hf) hz1
  simp only [Nat.add_zero] at hst
  simp [Builtin.clear_, run_underlying ht, hv, hst]
theorem zeroGroup (w : World) : (zeroValue 68).run Tryd.prog w = .ok (.agg #[.int .u64 0, .int .u64 0, .int .u64 0, .int .u64 0]) w := by kernel_rfl
theorem setCells_turn (g : Nat) : ∀ (news : List Value) (o : Nat) (w : World), Turn [g] w (w.setCells g o news)
  | [], o, w => Turn.refl _ _
  | u :: r, o, w => ((Turn.refl [g] w).setCell (p := ⟨g, o, none⟩) (by simp) u).trans (setCells_turn g r (o + 1) _)

set_option maxHeartbeats 4000000 in
theorem deleteG_any (g n cap i B base : Nat) (gs : List MGrp) (w : World) (hx : gs.length = n) (hi : i < n) (hn : n ≤ 1000) (hrow : RowR 4 68 rGrp B w base (.slice (some ⟨g, 0, none⟩) n cap) gs) :
    Calls Tryd.prog 52 #[.slice (some ⟨g, 0, none⟩) n cap, .int .i64 i, .int .i64 ((i : Int) + 1)] w fun e w' => e = .returned (.slice (some ⟨g, 0, none⟩) (n - 1) cap) ∧ RowR 4 68 rGrp B w' base (.slice (some ⟨g, 0, none⟩) (n - 1) cap) (gs.eraseIdx i) ∧ Turn [g] w w' := by
  obtain ⟨iG, hiG, hzG0, hzG1, hzG2⟩ := info_parts Tryd.infoOfGroup
  obtain ⟨css, r1, r2, r3, r4⟩ := hrow
  rw [hx] at r1 r4
  rcases r4.2 with ⟨h0, _⟩ | ⟨g', cap', cur, h0, hb, hg, hnc, hmx, hcs, htake⟩
  · cases h0
  simp only [Value.slice.injEq, Option.some.injEq, Addr.mk.injEq, and_true, true_and] at h0
  obtain ⟨rfl, rfl⟩ := h0
  have hfl : css.flatten.length = n * 4 := by rw [flat_len r2, r1]
  obtain ⟨news, hnews⟩ : ∃ news, news = (css.drop (i + 1)).flatten := ⟨_, rfl⟩
  have r2' : ∀ c, c ∈ css.drop (i + 1) → c.length = 4 := fun c hc => r2 c (List.mem_of_mem_drop hc)
  have hnl : news.length = (n - (i + 1)) * 4 := by rw [hnews, flat_len r2', List.length_drop, r1]
  have hdrop : css.flatten.drop ((i + 1) * 4) = news := by
    rw [hnews]
    have e : css.flatten = (css.take (i + 1)).flatten ++ (css.drop (i + 1)).flatten := by rw [← List.flatten_append, List.take_append_drop]
    rw [e, List.drop_left' (by rw [flat_len (fun c hc => r2 c (List.mem_of_mem_take hc)), List.length_take, r1]; omega)]
  have hone : ∀ u, u ∈ news → u.oneCell' = true := by
    intro u hu
    rw [hnews] at hu
    obtain ⟨cs, hcs, huc⟩ := List.mem_flatten.1 hu
    obtain ⟨j, hj, rfl⟩ := List.mem_iff_getElem.1 (List.mem_of_mem_drop hcs)
    obtain ⟨e, _⟩ := r3 j (by omega) hj
    rw [e] at huc
    simp [MGrp.cells] at huc
    rcases huc with rfl | rfl | rfl | rfl <;> rfl
  have hcell : ∀ t u, news[t]? = some u → w.cell? ⟨g, (i + 1) * 4 + t, none⟩ = some u := fun t u hu => by
    rw [cell_of_row w g _ cur _ (0, 0) hg]
    rw [← hdrop, List.getElem?_drop, ← htake, List.getElem?_take] at hu
    split at hu
    · simpa using hu
    · cases hu
  obtain ⟨A, hA, HSRC⟩ : ∃ A : Addr, (if cap = i + 1 then some (⟨g, 0, none⟩ : Addr) else some ⟨g, (i + 1) * 4, none⟩) = some A ∧ Hid (Src Tryd.prog 4 62 (.slice (some A) (n - (i + 1)) (cap - (i + 1))) (n - (i + 1)) news w.drew) := by
    by_cases h : cap = i + 1
    · refine ⟨⟨g, 0, none⟩, by simp [h], ?_⟩
      have h0 : n - (i + 1) = 0 := by omega
      have hn0 : news = [] := List.eq_nil_of_length_eq_zero (by rw [hnl, h0])
      exact Src.ofSlice w.drew Tryd.underlying62 _ _ _ news (by rw [hnl]) (fun j u hu => by rw [hn0] at hu; simp at hu) hone
    · refine ⟨⟨g, (i + 1) * 4, none⟩, by simp [h], ?_⟩
      exact Src.ofSlice w.drew Tryd.underlying62 _ _ _ news (by rw [hnl]) (fun j u hu => by rw [Addr.add_lit]; exact hcell j u hu) hone
  have HCS : Hid (∀ j, j < news.length → (w.drew.cell? ⟨g, 0 + i * 4 + j, none⟩).isSome = true) := fun j hj => by
    show (w.cell? _).isSome = true
    rw [cell_of_row w g _ cur _ (0, 0) hg, Array.getElem?_eq_getElem (by rw [hcs]; omega)]
    rfl
  have HFZ : Hid (∀ j, j < news.length → w.drew.frozen? ⟨g, 0 + i * 4 + j, none⟩ = false) := fun j hj => frozen_of_row w g _ cur _ hg
  obtain ⟨W1, hW1⟩ : ∃ W1, W1 = w.drew.setCells g (0 + i * 4) news := ⟨_, rfl⟩
  obtain ⟨cur1, c1, c2, c3⟩ := setCells_row' g 68 news (0 + i * 4) w.drew cur hg (by rw [hcs, hnl]; omega)
  rw [← hW1] at c1
  have HT1 : Hid (Turn [g] w W1) := by unfold Hid; rw [hW1]; exact (Turn.ofBelow (Below.drew (Below.refl _ _))).trans (setCells_turn g _ _ _)
  have hcl : ∀ ty, (Builtin.clear_ #[62] ty #[.slice (some ⟨g, (n - 1) * 4, none⟩) 1 (cap - (n - 1))]).run Tryd.prog W1 = .ok (.tuple #[]) (W1.setCells g ((n - 1) * 4) [.int .u64 0, .int .u64 0, .int .u64 0, .int .u64 0]) := fun ty =>
    run_clear4 W1 62 68 ty (.agg #[.int .u64 0, .int .u64 0, .int .u64 0, .int .u64 0]) [.int .u64 0, .int .u64 0, .int .u64 0, .int .u64 0] Tryd.underlying62 zeroGroup (by kernel_rfl) (by intro v hv; simp at hv; rw [hv]; rfl) g ((n - 1) * 4) (cap - (n - 1)) (fun j hj => by rw [cell_of_row W1 g _ cur1 _ (0, 0) c1, Array.getElem?_eq_getElem (by rw [c2, hcs]; simp at hj; omega)]; rfl) (fun j hj => frozen_of_row W1 g _ cur1 _ c1)
  obtain ⟨cur2, d1, d2, d3⟩ := setCells_row' g 68 [.int .u64 0, .int .u64 0, .int .u64 0, .int .u64 0] ((n - 1) * 4) W1 cur1 c1 (by rw [c2, hcs]; simp; omega)
  obtain ⟨W2, hW2⟩ : ∃ W2, W2 = W1.setCells g ((n - 1) * 4) [.int .u64 0, .int .u64 0, .int .u64 0, .int .u64 0] := ⟨_, rfl⟩
  rw [← hW2] at hcl d1
  have HT2 : Hid (Turn [g] w W2) := by unfold Hid; rw [hW2]; exact HT1.out.trans (setCells_turn g _ _ _)
  have HFIN : Hid (RowR 4 68 rGrp B W2 base (.slice (some ⟨g, 0, none⟩) (n - 1) cap) (gs.eraseIdx i)) := by
    have hle : (gs.eraseIdx i).length = n - 1 := by rw [List.length_eraseIdx, if_pos (by omega), hx]
    have hlc : (css.eraseIdx i).length = n - 1 := by rw [List.length_eraseIdx, if_pos (by omega), r1]
    have r2e : ∀ c, c ∈ css.eraseIdx i → c.length = 4 := fun c hc => r2 c (List.mem_of_mem_eraseIdx hc)
    refine ⟨css.eraseIdx i, by rw [hle, hlc], r2e, fun j h1 h2 => ?_, ?_⟩
    · have hj : j < n - 1 := by omega
      by_cases hji : j < i
      · rw [List.getElem_eraseIdx_of_lt _ hji, List.getElem_eraseIdx_of_lt _ hji]
        exact r3 j (by omega) (by omega)
      · rw [List.getElem_eraseIdx_of_ge _ (by omega), List.getElem_eraseIdx_of_ge _ (by omega)]
        exact r3 (j + 1) (by omega) (by omega)
    · rw [hle]
      refine ⟨by rw [flat_len r2e, hlc], .inr ⟨g, cap, cur2, rfl, hb, d1, by omega, hmx, by rw [d2, c2, hcs], ?_⟩⟩
      have e1 : cur2.toList.take ((n - 1) * 4) = cur1.toList.take ((n - 1) * 4) := by
        rw [d3, List.append_assoc, List.take_left' (by rw [List.length_take, Array.length_toList, c2, hcs]; omega)]
      have e2 : cur1.toList.take ((n - 1) * 4) = cur.toList.take (i * 4) ++ news := by
        rw [c3, Nat.zero_add, List.take_left' (by rw [List.length_append, List.length_take, Array.length_toList, hcs, hnl]; omega)]
      have e3 : cur.toList.take (i * 4) = (css.take i).flatten := by
        have e : css.flatten = (css.take i).flatten ++ (css.drop i).flatten := by rw [← List.flatten_append, List.take_append_drop]
        have e' := congrArg (List.take (i * 4)) htake
        rw [List.take_take, Nat.min_eq_left (by omega), e, List.take_left' (by rw [flat_len (fun c hc => r2 c (List.mem_of_mem_take hc)), List.length_take, r1]; omega)] at e'
        exact e'
      rw [e1, e2, e3, hnews, List.eraseIdx_eq_take_drop_succ, List.flatten_append]
  have hW1h := Hid.mk hW1
  clear hW1 hW2 c1 c2 c3 d1 d2 d3 hcell hone hdrop r1 r2 r3 r4 r2' htake hcs hg hfl hnews
  have hi1 : (0 : Int) ≤ (i : Int) := by omega
  have hi2 : (i : Int) + 1 ≤ (n : Int) := by omega
  have hi3 : (0 : Int) ≤ (i : Int) + 1 := by omega
  have hic : i ≤ cap := by omega
  have hjc : i + 1 ≤ cap := by omega
  have hne : ¬ (i : Int) = (i : Int) + 1 := by omega
  go_enter Tryd.func52, Tryd.ntmps52
  go_wp2_with fail
  refine wp_region_held_drew (S := fun W => True) (by kernel_rfl) (trivial) (fun hHeld => ?_)
  refine tk 0 q9d5_52_5_0 (some 20) (v := ?v1) rfl rfl (by kernel_rfl) hHeld (by rfl) (fun _ _ _ x => x) (fun w h => ?y1) ?_; (case y1 => (try dsimp only at h); go_simp; try (with_reducible rfl)); try simp only [Act.put, sa, s0, s1]
  refine tk 1 q9d5_52_5_1 (some 21) (v := ?v2) rfl rfl (by kernel_rfl) hHeld (by rfl) (fun _ _ _ x => x) (fun w h => ?y2) ?_; (case y2 => (try dsimp only at h); go_simp; try (with_reducible rfl)); try simp only [Act.put, sa, s0, s1]
  refine tk 2 q9d5_52_5_2 (some 22) (v := ?v3) rfl rfl (by kernel_rfl) hHeld (by rfl) (fun _ _ _ x => x) (fun w h => ?y3) ?_; (case y3 => (try dsimp only at h); go_simp; try (with_reducible rfl)); try simp only [Act.put, sa, s0, s1]
  refine tk 3 q9d5_52_5_3 (some 23) (v := ?v4) rfl rfl (by kernel_rfl) hHeld (by rfl) (fun _ _ _ x => x) (fun w h => ?y4) ?_; (case y4 => (try dsimp only at h); go_simp; try (with_reducible rfl)); try simp only [Act.put, sa, s0, s1]
  refine tk 4 q9d5_52_5_4 (some 24) (v := ?v5) rfl rfl (by kernel_rfl) hHeld (by rfl) (fun _ _ _ x => x) (fun w h => ?y5) ?_; (case y5 => (try dsimp only at h); go_simp; try (with_reducible rfl)); try simp only [Act.put, sa, s0, s1]
  refine tk 5 q9d5_52_5_5 (some 25) (v := ?v6) rfl rfl (by kernel_rfl) hHeld (by rfl) (fun _ _ _ x => x) (fun w h => ?y6) ?_; (case y6 => (try dsimp only at h); go_simp; try (with_reducible rfl)); try simp only [Act.put, sa, s0, s1]
  refine wpAnyH_ready (rs := [6]) (by kernel_rfl) (by simp) ?_
  refine AllReadyH.cons (o := q9d5_52_5_6) rfl (fun K hK => ?_) AllReadyH.nil
  refine step_append_fit (w := w.drew) rfl _ _ 62 62 rfl 68 iG 4 Tryd.underlying62 hiG hzG1 g 0 i cap rfl (.slice (some A) (n - (i + 1)) (cap - (i + 1))) (by simp [Act.eval, Act.put, hA]) (n - (i + 1)) news HSRC.out (by omega) HCS.out HFZ.out ?_
  rw [← hW1h.out]
  refine hK.out _ _ (trivial) (fun hHeld => ?_)
  clear hK K
  try simp only [Act.put, sa, s0, s1]
  refine tk 7 q9d5_52_5_7 (some 0) (v := ?v7) rfl rfl (by kernel_rfl) hHeld (by rfl) (fun _ _ _ x => x) (fun w h => ?y7) ?_; (case y7 => (try dsimp only at h); go_simp; try (with_reducible rfl)); try simp only [Act.put, sa, s0, s1]
  refine wpAnyH_done (by kernel_rfl) ?_ _
  have e0 : i + (n - (i + 1)) = n - 1 := by omega
  rw [e0]
  obtain ⟨p, hp⟩ : ∃ p, p = n - 1 := ⟨_, rfl⟩
  rw [← hp] at hcl HFIN ⊢
  have hp1 : (p : Int) ≤ (n : Int) := by omega
  have hp2 : (0 : Int) ≤ (p : Int) := by omega
  have hp3 : n - p = 1 := by omega
  have hp4 : ¬ cap = p := by omega
  have hp5 : (n : Int) ≤ (cap : Int) := by omega
  have hp6 : (0 : Int) ≤ (n : Int) := by omega
  have HPE := Hid.mk hp
  clear hp e0
  go_wp2_with (simp only [hcl])
  go_ret
  rw [← HPE.out]
  exact ⟨rfl, HFIN.out, HT2.out⟩

abbrev q00e_22_6_0 : Oper := ⟨some 15, .move (.tmp 3), 26, "l08_graph.go:130", #[], none⟩
abbrev q00e_22_6_1 : Oper := ⟨some 16, .load 30 (.tmp 1), 30, "l08_graph.go:130", #[], none⟩
abbrev q00e_22_6_2 : Oper := ⟨some 17, .move (.tmp 5), 62, "l08_graph.go:130", #[], none⟩
abbrev q00e_22_6_3 : Oper := ⟨some 18, .move (.tmp 6), 3, "l08_graph.go:130", #[], none⟩
abbrev q00e_22_6_4 : Oper := ⟨some 19, .indexAddr 62 (.tmp 17) (.tmp 18), 0, "l08_graph.go:130", #[⟨2, .data⟩, ⟨3, .data⟩], none⟩
abbrev q00e_22_6_5 : Oper := ⟨some 20, .fieldAddr 68 (.tmp 19) 0, 0, "l08_graph.go:130", #[⟨4, .data⟩], none⟩
abbrev q00e_22_6_6 : Oper := ⟨some 21, .load 66 (.tmp 20), 66, "l08_graph.go:130", #[⟨5, .data⟩], none⟩
abbrev q00e_22_6_7 : Oper := ⟨some 22, .call { callee := .value (.func 38), args := #[.tmp 16, .tmp 21], argTypes := #[30, 66] }, 26, "l08_graph.go:130", #[⟨1, .data⟩, ⟨6, .data⟩], none⟩
abbrev q00e_22_6_8 : Oper := ⟨some 23, .call { callee := .builtin .append, args := #[.tmp 15, .tmp 22], argTypes := #[26, 26] }, 26, "l08_graph.go:130", #[⟨0, .data⟩, ⟨7, .data⟩, ⟨7, .chain⟩], none⟩
abbrev q00e_22_6_9 : Oper := ⟨some 3, .assign (.tmp 23), 26, "l08_graph.go:130", #[⟨8, .data⟩, ⟨8, .chain⟩, ⟨0, .phase⟩, ⟨1, .phase⟩, ⟨2, .phase⟩, ⟨3, .phase⟩, ⟨4, .phase⟩, ⟨5, .phase⟩, ⟨6, .phase⟩, ⟨7, .phase⟩, ⟨8, .phase⟩], none⟩

def sliceLen : Value → Nat | .slice _ n _ => n | _ => 0

set_option maxHeartbeats 8000000 in
theorem implOrderOf_any (cs : List Value) (m : MGraph) (w : World) (hr : rGraph w.heap.size w cs m) (hw : wGraph m ≤ 1048576) (hT : TzAt w) :
    Calls Tryd.prog 22 #[.agg cs.toArray] w fun e w' => ∃ (v : Value) (L : List MDot), e = .returned v ∧ OrderL m L ∧ RowR 2 40 rDot w.heap.size w' w.heap.size v L ∧ Below w.heap.size w w' := by
  obtain ⟨iD, hiD, hzD0, hzD1, hzD2⟩ := info_parts Tryd.infoOfDot
  have HRG := Hid.mk hr
  have HWG := Hid.mk hw
  have HTZ := Hid.mk hT
  obtain ⟨a, cap, rfl, hL, _⟩ := hr
  obtain ⟨n, hx⟩ : ∃ n, n = m.fItems.length := ⟨_, rfl⟩
  rw [← hx] at HRG ⊢
  have HX := Hid.mk hx
  clear hL hx hw hT
  go_enter Tryd.func22, Tryd.ntmps22
  go_wp2_with fail
  obtain ⟨w1, hw1⟩ : ∃ x, x = (w.alloc (.cells #[.slice a n cap] 30)).alloc (.cells #[.int .u64 0, .int .u64 0] 66) := ⟨_, rfl⟩
  have hb01 : Below w.heap.size w w1 := by rw [hw1]; exact ((Below.refl _ _).alloc (Nat.le_refl _) _).alloc (by simp) _
  have hbx1 : Bx w1 w.heap.size [.slice a n cap] := by rw [hw1]; exact (Bx.new _ _ _).alloc _
  have hbt1 : Bw w1 (w.heap.size + 1) 66 (MSet.cells ⟨0, 0⟩) := by rw [hw1]; exact Bw.new' _ _ _ (by simp)
  have hz1 : w.heap.size + 2 ≤ w1.heap.size := by rw [hw1]; simp
  rw [← hw1]
  clear hw1
  refine (groupsOf_any [.slice a n cap] m w1 (rGraph_good.mono (rGraph_good.below HRG.out hb01) hb01.size) HWG.out (HTZ.out.below hb01)).mono ?_
  rintro e w2 ⟨v, gs, rfl, hGL, hRow, hx2⟩
  have hb02 := bthen hb01 hx2
  have hbx2 := hbx1.under hx2
  have hbt2 := hbt1.under hx2
  have hz2 : w1.heap.size ≤ w2.heap.size := hx2.size
  have HS0 := Hid.mk (OrdSt'.start hGL)
  have HR0 : Hid (RowR 4 68 rGrp w.heap.size w2 w1.heap.size v gs) := by
    obtain ⟨css, r1, r2, r3, r4⟩ := hRow
    exact ⟨css, r1, r2, fun j h1 h2 => r3 j h1 h2, r4⟩
  have HU0 : Hid (∀ b, v.ownBlock = some b → b < w2.heap.size) := fun b hb => (RowR.lt HR0.out b hb).2
  clear hRow hGL hx2 hbx1 hbt1
  go_wp2_with fail
  go_loopw [3, 5] (fun vo vl wr => ∃ (grs : List MGrp) (s : MSet) (L : List MDot), Hid (OrdSt' m grs s L) ∧ Hid (RowR 2 40 rDot w.heap.size wr w2.heap.size vo L) ∧ Hid (RowR 4 68 rGrp w.heap.size wr w1.heap.size vl grs) ∧ Hid (∀ b, vl.ownBlock = some b → b < w2.heap.size) ∧ Bw wr (w.heap.size + 1) 66 s.cells ∧ Bx wr w.heap.size [.slice a n cap] ∧ Below w.heap.size w wr ∧ w2.heap.size ≤ wr.heap.size) (fun _ vl _ => sliceLen vl)
  case atStart => exact ⟨gs, ⟨0, 0⟩, [], HS0, Hid.mk RowR.start, HR0, HU0, hbt2, hbx2, hb02, Nat.le_refl _⟩
  case round =>
    obtain ⟨grs, s, L, HS, HO, HG, HU, hbt, hbx, hbw, hzr⟩ := hrel
    clear HS0 HR0 HU0 hbt2 hbx2
    obtain ⟨al, cl, hvl, hLeaf⟩ := RowR.leaf rGrp_good HG.out hbw.size
    subst hvl
    by_cases h0 : 0 < grs.length
    · obtain ⟨ng, hng⟩ : ∃ q, q = grs.length := ⟨_, rfl⟩
      have hsh : ∃ g, al = some ⟨g, 0, none⟩ := by
        obtain ⟨css, r1, r2, r3, r4⟩ := HG.out
        rcases r4.2 with ⟨_, h⟩ | ⟨g, cap, cur, h, _⟩
        · omega
        · simp only [Value.slice.injEq] at h
          exact ⟨g, h.1⟩
      obtain ⟨gl, rfl⟩ := hsh
      have hgl1 : w1.heap.size ≤ gl := (RowR.lt HG.out gl rfl).1
      have hgl2 : gl < w2.heap.size := HU.out gl rfl
      have hgc : grs.length ≤ 100 := HS.out.2.2.1
      have hlc : L.length ≤ 10000 := HS.out.2.1
      have hnn : m.fItems.length ≤ 100 := HS.out.small h0
      have hng0 : (0 : Int) < (grs.length : Int) := by omega
      have hC := indexG_any (some ⟨gl, 0, none⟩) grs.length cl grs s (w.heap.size + 1) 66 wr rfl (by omega) hLeaf HS.out.1 hbt
      clear hng hLeaf
      go_wp2_with fail
      refine hC.mono ?_
      rintro e w3 ⟨hx3, ⟨rfl, hall⟩ | ⟨i, rfl, hi, hfi, hno⟩⟩
      · exact (HS.out.stuck h0 hall).elim
      have hbw3 := bthen hbw hx3
      have hbx3 := hbx.under hx3
      have hbt3 := hbt.under hx3
      have hz3 : wr.heap.size ≤ w3.heap.size := hx3.size
      have HO3 := Hid.mk (RowR.keep rDot_good HO.out hx3 hbw.size)
      have HG3 := Hid.mk (RowR.keep rGrp_good HG.out hx3 hbw.size)
      have HSn := Hid.mk (HS.out.step hi hfi hno)
      have HSok : Hid s.ok := HS.out.1
      obtain ⟨a3, c3, e3, hLf3⟩ := RowR.leaf rGrp_good HG3.out hbw3.size
      simp only [Value.slice.injEq, true_and] at e3
      obtain ⟨rfl, rfl⟩ := e3
      obtain ⟨b1, o1, he1, hB, cs, hcl, hcell, hcs, hom, hon⟩ := hLf3.2.2 i hi
      simp only [Option.some.injEq, Addr.mk.injEq, and_true] at he1
      obtain ⟨rfl, rfl⟩ := he1
      subst hcs
      have k0 := hcell 0 _ rfl
      have k1 := hcell 1 _ rfl
      rw [Nat.add_zero, Nat.zero_add] at k0
      rw [Nat.zero_add] at k1
      have hpl := pickT_len grs[i].mem.has m.fItems m.fItems.length
      obtain ⟨gi, hgi⟩ : ∃ g, g = grs[i] := ⟨_, rfl⟩
      rw [← hgi] at HSn k0 k1 hom hpl
      clear hcell hcl hLf3 hno hfi hgi hC HS HO HG hbt hx3
      have hi1 : (0 : Int) ≤ (i : Int) := by omega
      have hi2 : (i : Int) < (grs.length : Int) := by omega
      have x0 : ∀ W, Below w2.heap.size w3 W → W.cell? ⟨w.heap.size, 0, none⟩ = some (.slice a n cap) := fun W h => (hbx3.below h (by omega)).2 0 _ rfl
      have y0 : ∀ W, Below w2.heap.size w3 W → W.cell? ⟨gl, i * 4, none⟩ = some (.int .u64 (gi.mem.x0 : Int)) := fun W h => (h.cell (p := ⟨gl, i * 4, none⟩) hgl2).trans k0
      have y1 : ∀ W, Below w2.heap.size w3 W → W.cell? ⟨gl, i * 4 + 1, none⟩ = some (.int .u64 (gi.mem.x1 : Int)) := fun W h => (h.cell (p := ⟨gl, i * 4 + 1, none⟩) hgl2).trans k1
      have hCd := fun W (hb : Below w3.heap.size w3 W) => dotsAt_any [.slice a n cap] m gi.mem W (rGraph_good.mono (rGraph_good.below HRG.out (bthen hbw3 hb)) (bthen hbw3 hb).size) hom hnn
      rw [show gi.mem.cells.toArray = #[.int .u64 (gi.mem.x0 : Int), .int .u64 (gi.mem.x1 : Int)] from rfl] at hCd
      have HIN : Hid (iD.size = 2 ∧ iD.bytes = 16) := ⟨hzD1, hzD2⟩
      have hz23 : w2.heap.size ≤ w3.heap.size := by omega
      go_wp2_with fail
      refine wp_region_held_drew (S := fun W => Below w2.heap.size w3 W) (by kernel_rfl) (Below.drew (Below.refl _ _)) (fun hHeld => ?_)
      refine tk 0 q00e_22_6_0 (some 15) (v := ?v1) rfl rfl (by kernel_rfl) hHeld (by rfl) (fun _ _ _ x => x) (fun w h => ?y1) ?_; (case y1 => (try dsimp only at h); go_simp; try (with_reducible rfl)); try simp only [Act.put, sa, s0, s1]
      refine tk 1 q00e_22_6_1 (some 16) (v := ?v2) rfl rfl (by kernel_rfl) hHeld (by rfl) (fun _ _ _ x => x) (fun w h => ?y2) ?_; (case y2 => (try dsimp only at h); go_simp; try (with_reducible rfl)); try simp only [Act.put, sa, s0, s1]
      refine tk 2 q00e_22_6_2 (some 17) (v := ?v3) rfl rfl (by kernel_rfl) hHeld (by rfl) (fun _ _ _ x => x) (fun w h => ?y3) ?_; (case y3 => (try dsimp only at h); go_simp; try (with_reducible rfl)); try simp only [Act.put, sa, s0, s1]
      refine tk 3 q00e_22_6_3 (some 18) (v := ?v4) rfl rfl (by kernel_rfl) hHeld (by rfl) (fun _ _ _ x => x) (fun w h => ?y4) ?_; (case y4 => (try dsimp only at h); go_simp; try (with_reducible rfl)); try simp only [Act.put, sa, s0, s1]
      refine tk 4 q00e_22_6_4 (some 19) (v := ?v5) rfl rfl (by kernel_rfl) hHeld (by rfl) (fun _ _ _ x => x) (fun w h => ?y5) ?_; (case y5 => (try dsimp only at h); go_simp; try (with_reducible rfl)); try simp only [Act.put, sa, s0, s1]
      refine tk 5 q00e_22_6_5 (some 20) (v := ?v6) rfl rfl (by kernel_rfl) hHeld (by rfl) (fun _ _ _ x => x) (fun w h => ?y6) ?_; (case y6 => (try dsimp only at h); go_simp; try (with_reducible rfl)); try simp only [Act.put, sa, s0, s1]
      refine tk 6 q00e_22_6_6 (some 21) (v := ?v7) rfl rfl (by kernel_rfl) hHeld (by rfl) (fun _ _ _ x => x) (fun w h => ?y7) ?_; (case y7 => (try dsimp only at h); go_simp; try (with_reducible rfl)); try simp only [Act.put, sa, s0, s1]
      refine wpAnyH_ready (rs := [7]) (by kernel_rfl) (by simp) ?_
      refine AllReadyH.cons (o := q00e_22_6_7) rfl (fun K hK => ?_) AllReadyH.nil
      go_simp
      refine Calls.mono (hCd _ (Below.drew (Below.refl _ _))) ?_
      rintro e w4 ⟨vd, rfl, hRd, hx1⟩
      have hb34 : Below w3.heap.size w3 w4 := (Below.drew (Below.refl _ _)).trans hx1
      have hop1 : Below w2.heap.size w3 w4 := hb34.mono hz23
      obtain ⟨ad, cd, rfl, hLd⟩ := RowR.leaf rDot_good hRd hx1.size
      obtain ⟨css, r1, r2, r3, r4⟩ := RowR.keep rDot_good HO3.out hb34 hbw3.size
      obtain ⟨s1, t1, t2, t3, t4⟩ := Src.any oneDot (P := Tryd.prog) (n := (pickT gi.mem.has m.fItems m.fItems.length).length) (c := cd) Tryd.underlying26 rfl hLd.2.2
      have HR1 := Hid.mk r1
      have HR2 := Hid.mk r2
      have HR3 := Hid.mk r3
      have HR4 := Hid.mk r4
      have HT1 := Hid.mk t1
      have HT2 := Hid.mk t2
      have HT4 := Hid.mk t4
      have HT3 : Hid (∀ j, (h1 : j < (pickT gi.mem.has m.fItems m.fItems.length).length) → (h2 : j < s1.length) → rDot w.heap.size w4 s1[j] (pickT gi.mem.has m.fItems m.fItems.length)[j]) := (fun j h1 h2 => ⟨(t3 j h1 h2).1, (t3 j h1 h2).2.1, (t3 j h1 h2).2.2.1, trivial⟩)
      have hz34 : w3.heap.size ≤ w4.heap.size := hb34.size
      clear r1 r2 r3 r4 t1 t2 t3 t4 hRd hLd
      go_wp2_with fail
      refine hK.out _ _ (hop1) (fun hHeld => ?_)
      clear hK K
      try simp only [Act.put, sa, s0, s1]
      refine wpAnyH_ready (rs := [8]) (by kernel_rfl) (by simp) ?_
      refine AllReadyH.cons (o := q00e_22_6_8) rfl (fun K hK => ?_) AllReadyH.nil
      refine step_append_src w4 rfl _ _ 26 26 rfl w2.heap.size 40 iD (.agg (List.toArray [.int .i64 0, .int .i64 0])) 2 16 Tryd.underlying26 hiD hzD0 hzD1 hzD2 rfl u3 L.length css.flatten rfl HR4.out (.slice ad (pickT gi.mem.has m.fItems m.fItems.length).length cd) rfl (pickT gi.mem.has m.fItems m.fItems.length).length s1.flatten HT4.out (by unfold maxLen; omega) (by omega) (by omega) ?_
      intro v6 w6 ho6 hgr6 hat6
      have hb46 : Below w2.heap.size w4 w6 := (Below.refl _ _).grown hgr6 (by omega) (fun x hx => (HR4.out.lt x hx).1)
      have hop2 : Below w2.heap.size w3 w6 := (hb34.mono hz23).trans hb46
      refine hK.out _ _ (hop2) (fun hHeld => ?_)
      clear hK K
      try simp only [Act.put, sa, s0, s1]
      refine tk 9 q00e_22_6_9 (some 3) (v := ?v8) rfl rfl (by kernel_rfl) hHeld (by rfl) (fun _ _ _ x => x) (fun w h => ?y8) ?_; (case y8 => (try dsimp only at h); go_simp; try (with_reducible rfl)); try simp only [Act.put, sa, s0, s1]
      refine wpAnyH_done (by kernel_rfl) ?_ _
      have HRn : Hid (RowR 2 40 rDot w.heap.size w6 w2.heap.size v6 (L ++ pickT gi.mem.has m.fItems m.fItems.length)) := RowR.cat rDot_good HR1.out HR2.out HR3.out HT1.out HT2.out HT3.out (hb46.mono (by omega)) ho6
      have hb36 : Below w2.heap.size w3 w6 := hHeld
      have hbw6 : Below w.heap.size w w6 := hbw3.trans (hb36.mono (by omega))
      have hbx6 := hbx3.below hb36 (by omega)
      have hbt6 := hbt3.below hb36 (by omega)
      have hz6 : w3.heap.size ≤ w6.heap.size := hb36.size
      have z0 := y0 w6 hb36
      have z1 := y1 w6 hb36
      have HG6 : Hid (RowR 4 68 rGrp w.heap.size w6 w1.heap.size (.slice (some ⟨gl, 0, none⟩) grs.length cl) grs) := by
        obtain ⟨css, r1, r2, r3, r4⟩ := HG3.out
        exact ⟨css, r1, r2, fun j h1 h2 => r3 j h1 h2, own_of_block r4 (fun k hk => by simp [Value.ownBlock] at hk; subst hk; exact hb36.block gl hgl2)⟩
      clear hHeld x0 y0 y1 ho6 hgr6 hat6 hb34 hb46 HO3 HG3 hbt3 hbx3 hCd
      go_wp2_with fail
      refine (join_any (w.heap.size + 1) 0 66 s.cells s gi.mem w6 HSok.out hom hbt6 rfl rfl).mono ?_
      rintro e w7 ⟨rfl, hbt7, hT7⟩
      have hbw7 : Below w.heap.size w w7 := hbw6.trans (hT7.below (fun x hx => by simp at hx; omega) hbw6.size)
      have hbx7 := hbx6.turn hT7 (by simp)
      have hz7 : w6.heap.size ≤ w7.heap.size := hT7.size
      have HO7 : Hid (RowR 2 40 rDot w.heap.size w7 w2.heap.size v6 (L ++ pickT gi.mem.has m.fItems m.fItems.length)) := by
        obtain ⟨css, r1, r2, r3, r4⟩ := HRn.out
        exact ⟨css, r1, r2, fun j h1 h2 => by have h := r3 j h1 h2; exact ⟨h.1, h.2.1, h.2.2.1, trivial⟩, own_of_block r4 (fun k hk => hT7.block k (r4.lt k hk).2 (by have := (r4.lt k hk).1; simp; omega))⟩
      have HG7 : Hid (RowR 4 68 rGrp w.heap.size w7 w1.heap.size (.slice (some ⟨gl, 0, none⟩) grs.length cl) grs) := by
        obtain ⟨css, r1, r2, r3, r4⟩ := HG6.out
        exact ⟨css, r1, r2, fun j h1 h2 => r3 j h1 h2, own_of_block r4 (fun k hk => hT7.block k (r4.lt k hk).2 (by have := (r4.lt k hk).1; simp; omega))⟩
      clear hT7 z0 z1 HRn HG6 hbt6
      have hDel := deleteG_any gl grs.length cl i w.heap.size w1.heap.size grs w7 rfl hi (by omega) HG7.out
      go_wp2_with fail
      refine hDel.mono ?_
      rintro e w8 ⟨rfl, hG8, hT8⟩
      have hbw8 : Below w.heap.size w w8 := hbw7.trans (hT8.below (fun x hx => by simp at hx; omega) hbw7.size)
      have hbx8 := hbx7.turn hT8 (by simp; omega)
      have hbt8 := hbt7.turn hT8 (by simp; omega)
      have hz8 : w7.heap.size ≤ w8.heap.size := hT8.size
      have HG8 := Hid.mk hG8
      have HU8 : Hid (∀ b, (Value.slice (some ⟨gl, 0, none⟩) (grs.length - 1) cl).ownBlock = some b → b < w2.heap.size) := fun b hb => by simp [Value.ownBlock] at hb; omega
      have HO8 : Hid (RowR 2 40 rDot w.heap.size w8 w2.heap.size v6 (L ++ pickT gi.mem.has m.fItems m.fItems.length)) := by
        obtain ⟨css, r1, r2, r3, r4⟩ := HO7.out
        exact ⟨css, r1, r2, fun j h1 h2 => by have h := r3 j h1 h2; exact ⟨h.1, h.2.1, h.2.2.1, trivial⟩, own_of_block r4 (fun k hk => hT8.block k (r4.lt k hk).2 (by have := (r4.lt k hk).1; simp; omega))⟩
      clear hT8 hG8 HG7 HO7 hDel
      go_wp2_with fail
      go_roundw
      case rel => exact ⟨grs.eraseIdx i, s.join gi.mem, _, HSn, HO8, HG8, HU8, hbt8, hbx8, hbw8, by omega⟩
      case measure => simp [sliceLen]; omega
    · have hg0 : grs.length = 0 := by omega
      have HF := Hid.mk (HS.out.done hg0)
      have HRb := Hid.mk (RowR.base HO.out (show w.heap.size ≤ w2.heap.size by omega))
      rw [hg0]
      go_wp2_with fail
      go_ret
      exact ⟨_, L, rfl, HF.out, HRb.out, hbw⟩

end Go.Proofs.YtmigamgcmhdncaaDoor
