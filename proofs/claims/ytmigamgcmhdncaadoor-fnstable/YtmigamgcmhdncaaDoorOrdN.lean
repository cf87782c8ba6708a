/-
  The program's order, step by step, plainly.
-/
import Derived.Test.YtmigamgcmhdncaaDoorOrdM
import Derived.Test.YtmigamgcmhdncaaDoorOrdF
import Derived.Test.YtmigamgcmhdncaaDoorWhlP
namespace Go.Proofs.YtmigamgcmhdncaaDoor
open Go.RowKit
set_option linter.unusedVariables false
set_option linter.unusedSimpArgs false

structure OrdSt (l : List MItem) (qs rs : List Nat) (grs : List MGrp) (s : MSet) (L : List MDot) : Prop where
  ord : OrdOk l qs
  asc : rs.Pairwise (· < ·)
  who : ∀ p, p ∈ rs ↔ p < l.length ∧ lead l p ∧ p ∉ qs
  len : grs.length = rs.length
  each : ∀ i, (h : i < rs.length) → (h2 : i < grs.length) → GrpOk l rs[i] grs[i]
  ok : s.ok
  got : ∀ j, j < 128 → (s.has j = true ↔ takenBy l qs j)
  dots : DotsOf l qs L
theorem OrdSt.start {l : List MItem} {ps : List Nat} {gs : List MGrp} (h : GroupsOk l l.length ps gs) : OrdSt l [] ps gs ⟨0, 0⟩ [] :=
  ⟨OrdOk.nil l, h.asc, fun p => by rw [h.who]; simp, h.len, h.each, ⟨by decide, by decide⟩, fun j hj => by rw [MSet.zero_has]; simp [takenBy], DotsOf.nil l⟩
theorem OrdSt.free {l : List MItem} {qs rs : List Nat} {grs : List MGrp} {s : MSet} {L : List MDot} (h : OrdSt l qs rs grs s L) (hl : l.length ≤ 100) {i : Nat} (hi : i < grs.length) : ∃ hr : i < rs.length, (freeG s grs[i] = true ↔ cand l qs rs[i]) := by
  have hr : i < rs.length := by rw [← h.len]; exact hi
  have hg := h.each i hr hi
  obtain ⟨h1, h2, h3⟩ := (h.who rs[i]).1 (List.getElem_mem hr)
  refine ⟨hr, ?_⟩
  rw [freeG_iff h.ok hg.okn]
  constructor
  · intro hf
    refine ⟨h1, h2.1, fun ht => h3 ((h.ord.taken_lead h2).1 ht), fun j hj hn => ?_⟩
    have := hj.lt
    exact (h.got j (by omega)).1 (hf j (by omega) ((hg.need j (by omega)).2 ⟨hj, hn⟩))
  · intro hc j hj hn
    obtain ⟨a, b⟩ := (hg.need j hj).1 hn
    exact (h.got j hj).2 (hc.2.2.2 j a b)
/-- What can be taken has its leader in the list. -/
theorem OrdSt.of_cand {l : List MItem} {qs rs : List Nat} {grs : List MGrp} {s : MSet} {L : List MDot} (h : OrdSt l qs rs grs s L) {q : Nat} (hq : cand l qs q) : ∃ i, ∃ hr : i < rs.length, rs[i] ≤ q ∧ cand l qs rs[i] := by
  obtain ⟨q0, h1, h2, h3⟩ := lead_of q hq.2.1
  have hc := hq.ring h3.symm
  have hm : q0 ∈ rs := (h.who q0).2 ⟨hc.1, h2, fun hm => hc.2.2.1 ⟨q0, hm, ring.refl _ _⟩⟩
  obtain ⟨i, hi, rfl⟩ := List.mem_iff_getElem.1 hm
  exact ⟨i, hi, h1, hc⟩
theorem OrdSt.next {l : List MItem} {qs rs : List Nat} {grs : List MGrp} {s : MSet} {L : List MDot} (h : OrdSt l qs rs grs s L) (hl : l.length ≤ 100) {i : Nat} (hi : i < grs.length) (hf : freeG s grs[i] = true) (hn : ∀ j, (hj : j < grs.length) → j < i → freeG s grs[j] = false) : ∃ hr : i < rs.length, nextOk l qs rs[i] := by
  obtain ⟨hr, h1⟩ := h.free hl hi
  refine ⟨hr, h1.1 hf, fun q hq hc => ?_⟩
  obtain ⟨k, hk, h2, h3⟩ := h.of_cand hc
  have hki : k < i := by
    apply Classical.byContradiction
    intro hge
    by_cases e : k = i
    · subst e; omega
    · have := (List.pairwise_iff_getElem.1 h.asc) i k hr hk (by omega)
      omega
  have hkg : k < grs.length := by rw [h.len]; exact hk
  have h4 := (h.free hl hkg).2.2 h3
  rw [hn k hkg hki] at h4; cases h4
theorem OrdSt.step {l : List MItem} {qs rs : List Nat} {grs : List MGrp} {s : MSet} {L : List MDot} (h : OrdSt l qs rs grs s L) (hl : l.length ≤ 100) {i : Nat} (hi : i < grs.length) (hf : freeG s grs[i] = true) (hn : ∀ j, (hj : j < grs.length) → j < i → freeG s grs[j] = false) :
    ∃ p, OrdSt l (qs ++ [p]) (rs.eraseIdx i) (grs.eraseIdx i) (s.join grs[i].mem) (L ++ pickT grs[i].mem.has l l.length) := by
  obtain ⟨hr, hx⟩ := h.next hl hi hf hn
  have hg := h.each i hr hi
  have hsub : (rs.eraseIdx i).Sublist rs := List.eraseIdx_sublist _ _
  refine ⟨rs[i], h.ord.snoc hx, h.asc.sublist hsub, fun p => ?_, by rw [List.length_eraseIdx, List.length_eraseIdx, if_pos hi, if_pos hr, h.len], fun j h1 h2 => ?_, MSet.join_ok h.ok hg.okm, fun j hj => ?_, h.dots.snoc ⟨grs[i].mem.has, fun j hj => hg.mem j (by omega), rfl⟩⟩
  · have hnd : rs.Nodup := h.asc.imp (fun h => Nat.ne_of_lt h)
    have hme : p ∈ rs.eraseIdx i ↔ p ∈ rs ∧ p ≠ rs[i] := by
      rw [List.mem_eraseIdx_iff_getElem]
      constructor
      · rintro ⟨k, hk, hki, rfl⟩
        refine ⟨List.getElem_mem hk, fun e => ?_⟩
        rcases Nat.lt_trichotomy k i with g | g | g
        · have := (List.pairwise_iff_getElem.1 h.asc) k i hk hr g; omega
        · exact hki g
        · have := (List.pairwise_iff_getElem.1 h.asc) i k hr hk g; omega
      · rintro ⟨hm, hne⟩
        obtain ⟨k, hk, rfl⟩ := List.mem_iff_getElem.1 hm
        exact ⟨k, hk, fun e => hne (by subst e; rfl), rfl⟩
    rw [hme, h.who, List.mem_append, List.mem_singleton]
    constructor
    · rintro ⟨⟨a, b, c⟩, d⟩
      exact ⟨a, b, fun e => e.elim c d⟩
    · rintro ⟨a, b, c⟩
      exact ⟨⟨a, b, fun e => c (.inl e)⟩, fun e => c (.inr e)⟩
  · by_cases hji : j < i
    · have e1 : (rs.eraseIdx i)[j] = rs[j]'(by omega) := List.getElem_eraseIdx_of_lt _ hji
      have e2 : (grs.eraseIdx i)[j] = grs[j]'(by omega) := List.getElem_eraseIdx_of_lt _ hji
      rw [e1, e2]
      exact h.each j _ _
    · have l1 : (rs.eraseIdx i).length = rs.length - 1 := by rw [List.length_eraseIdx, if_pos hr]
      have l2 : (grs.eraseIdx i).length = grs.length - 1 := by rw [List.length_eraseIdx, if_pos hi]
      have e1 : (rs.eraseIdx i)[j] = rs[j + 1]'(by omega) := List.getElem_eraseIdx_of_ge _ (by omega)
      have e2 : (grs.eraseIdx i)[j] = grs[j + 1]'(by omega) := List.getElem_eraseIdx_of_ge _ (by omega)
      rw [e1, e2]
      exact h.each (j + 1) _ _
  · rw [MSet.join_has, Bool.or_eq_true, h.got j hj, hg.mem j hj, takenBy_snoc]
theorem OrdSt.stuck {l : List MItem} {qs rs : List Nat} {grs : List MGrp} {s : MSet} {L : List MDot} (h : OrdSt l qs rs grs s L) (hl : l.length ≤ 100) (h0 : 0 < grs.length) (hn : ∀ j, (hj : j < grs.length) → freeG s grs[j] = false) : False := by
  have hr : 0 < rs.length := by rw [← h.len]; exact h0
  obtain ⟨h1, h2, h3⟩ := (h.who rs[0]).1 (List.getElem_mem hr)
  obtain ⟨q, hq⟩ := h.ord.free h1 h2.1 (fun ht => h3 ((h.ord.taken_lead h2).1 ht))
  obtain ⟨k, hk, _, h5⟩ := h.of_cand hq
  have hkg : k < grs.length := by rw [h.len]; exact hk
  have h4 := (h.free hl hkg).2.2 h5
  rw [hn k hkg] at h4; cases h4
theorem OrdSt.done {l : List MItem} {qs rs : List Nat} {grs : List MGrp} {s : MSet} {L : List MDot} (h : OrdSt l qs rs grs s L) (h0 : grs.length = 0) : OrdFull l qs :=
  ⟨h.ord, fun p hp => by
    obtain ⟨k, hk, _⟩ := h.of_cand hp
    have := h.len
    omega⟩
/-- The same, where the graph may be wrong. -/
def OrdSt' (m : MGraph) (grs : List MGrp) (s : MSet) (L : List MDot) : Prop := s.ok ∧ L.length ≤ 10000 ∧ grs.length ≤ 100 ∧ ((graphP m = false ∧ grs = [] ∧ L = []) ∨ (graphP m = true ∧ ∃ qs rs, OrdSt m.fItems qs rs grs s L))
theorem OrdSt.len10 {m : MGraph} (hg : graphP m = true) {qs rs : List Nat} {grs : List MGrp} {s : MSet} {L : List MDot} (h : OrdSt m.fItems qs rs grs s L) : L.length ≤ 10000 ∧ grs.length ≤ 100 := by
  have a := h.dots.len
  have b := h.ord.len
  have c := graph_len hg
  have d := Nat.mul_le_mul (Nat.le_trans b c) c
  have e : rs.length ≤ m.fItems.length := asc_len h.asc (fun p hp => ((h.who p).1 hp).1)
  have f := h.len
  omega
theorem OrdSt'.start {m : MGraph} {gs : List MGrp} (h : GroupsL m gs) : OrdSt' m gs ⟨0, 0⟩ [] := by
  rcases h with ⟨h1, rfl⟩ | ⟨h1, ps, h2⟩
  · exact ⟨⟨by decide, by decide⟩, by simp, by simp, .inl ⟨h1, rfl, rfl⟩⟩
  · have h3 := OrdSt.start h2
    exact ⟨⟨by decide, by decide⟩, (h3.len10 h1).1, (h3.len10 h1).2, .inr ⟨h1, [], ps, h3⟩⟩
theorem OrdSt'.small {m : MGraph} {grs : List MGrp} {s : MSet} {L : List MDot} (h : OrdSt' m grs s L) (h0 : 0 < grs.length) : m.fItems.length ≤ 100 := by
  rcases h.2.2.2 with ⟨_, rfl, _⟩ | ⟨hg, _⟩
  · simp at h0
  · exact graph_len hg
theorem OrdSt'.step {m : MGraph} {grs : List MGrp} {s : MSet} {L : List MDot} (h : OrdSt' m grs s L) {i : Nat} (hi : i < grs.length) (hf : freeG s grs[i] = true) (hn : ∀ j, (hj : j < grs.length) → j < i → freeG s grs[j] = false) :
    OrdSt' m (grs.eraseIdx i) (s.join grs[i].mem) (L ++ pickT grs[i].mem.has m.fItems m.fItems.length) := by
  rcases h.2.2.2 with ⟨_, rfl, _⟩ | ⟨hg, qs, rs, h1⟩
  · simp at hi
  · obtain ⟨p, h2⟩ := h1.step (graph_len hg) hi hf hn
    exact ⟨h2.ok, (h2.len10 hg).1, (h2.len10 hg).2, .inr ⟨hg, _, _, h2⟩⟩
theorem OrdSt'.stuck {m : MGraph} {grs : List MGrp} {s : MSet} {L : List MDot} (h : OrdSt' m grs s L) (h0 : 0 < grs.length) (hn : ∀ j, (hj : j < grs.length) → freeG s grs[j] = false) : False := by
  rcases h.2.2.2 with ⟨_, rfl, _⟩ | ⟨hg, qs, rs, h1⟩
  · simp at h0
  · exact h1.stuck (graph_len hg) h0 hn
theorem OrdSt'.done {m : MGraph} {grs : List MGrp} {s : MSet} {L : List MDot} (h : OrdSt' m grs s L) (h0 : grs.length = 0) : OrderL m L := by
  rcases h.2.2.2 with ⟨h1, _, rfl⟩ | ⟨hg, qs, rs, h1⟩
  · exact .inl ⟨h1, rfl⟩
  · exact .inr ⟨hg, qs, h1.done h0, h1.dots⟩

end Go.Proofs.YtmigamgcmhdncaaDoor
