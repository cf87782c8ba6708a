/-
  What is reached from one command, plainly: a part of a graph that is closed has the order of the whole.
-/
import Derived.Test.YtmigamgcmhdncaaDoorFulP
namespace Go.Proofs.YtmigamgcmhdncaaDoor
open Go.RowKit
set_option linter.unusedVariables false
set_option linter.unusedSimpArgs false

theorem reach_up {p g : List MItem} (hsub : ∀ x, x ∈ p → x ∈ g) {i i' : Nat} (hi : i < p.length) (hi' : i' < g.length) (e : g[i'] = p[i]) {k : Nat} (h : Reach p i k) :
    ∃ hk : k < p.length, ∀ k', (hk' : k' < g.length) → g[k'].fD = p[k].fD → Reach g i' k' := by
  refine h (fun k => ∃ hk : k < p.length, ∀ k', (hk' : k' < g.length) → g[k'].fD = p[k].fD → Reach g i' k') ?_ ?_
  · rintro j ⟨_, hj, d, hd, hs⟩
    exact ⟨hj, fun k' hk' e2 => Reach.base ⟨hi', hk', d, by rw [e]; exact hd, by rw [e2]; exact hs⟩⟩
  · rintro j m ⟨hj, hP⟩ ⟨_, hm, d, hd, hs⟩
    obtain ⟨j', hj', ej⟩ := List.mem_iff_getElem.1 (hsub _ (List.getElem_mem hj))
    exact ⟨hm, fun k' hk' e2 => (hP j' hj' (by rw [ej])).step ⟨hj', hk', d, by rw [ej]; exact hd, by rw [e2]; exact hs⟩⟩
theorem reach_down {p g : List MItem} (hsub : ∀ x, x ∈ p → x ∈ g) (hinj : ∀ x y, x ∈ g → y ∈ g → x.fD = y.fD → x = y) (hcl : ∀ x, x ∈ p → ∀ d, d ∈ x.fDeps → ∃ y, y ∈ p ∧ y.fD = d) {i i' : Nat} (hi : i < p.length) (hi' : i' < g.length) (e : g[i'] = p[i]) {k' : Nat} (h : Reach g i' k') :
    ∃ hk' : k' < g.length, ∃ k, ∃ hk : k < p.length, p[k] = g[k'] ∧ Reach p i k := by
  refine h (fun k' => ∃ hk' : k' < g.length, ∃ k, ∃ hk : k < p.length, p[k] = g[k'] ∧ Reach p i k) ?_ ?_
  · rintro j' ⟨_, hj', d, hd, hs⟩
    rw [e] at hd
    obtain ⟨y, hy, ey⟩ := hcl _ (List.getElem_mem hi) d hd
    have e2 : y = g[j'] := hinj _ _ (hsub y hy) (List.getElem_mem hj') (by rw [ey, sameD_iff.1 hs])
    obtain ⟨k, hk, rfl⟩ := List.mem_iff_getElem.1 hy
    exact ⟨hj', k, hk, e2, Reach.base ⟨hi, hk, d, hd, sameD_iff.2 ey⟩⟩
  · rintro j' m' ⟨hj', j, hj, ej, hr⟩ ⟨_, hm', d, hd, hs⟩
    rw [← ej] at hd
    obtain ⟨y, hy, ey⟩ := hcl _ (List.getElem_mem hj) d hd
    have e2 : y = g[m'] := hinj _ _ (hsub y hy) (List.getElem_mem hm') (by rw [ey, sameD_iff.1 hs])
    obtain ⟨k, hk, rfl⟩ := List.mem_iff_getElem.1 hy
    exact ⟨hm', k, hk, e2, hr.step ⟨hj, hk, d, hd, sameD_iff.2 ey⟩⟩

theorem item_inj {m : MGraph} (hg : graphP m = true) : ∀ x y, x ∈ m.fItems → y ∈ m.fItems → x.fD = y.fD → x = y := by
  intro x y hx hy e
  obtain ⟨i, hi, rfl⟩ := List.mem_iff_getElem.1 hx
  obtain ⟨j, hj, rfl⟩ := List.mem_iff_getElem.1 hy
  have := graph_inj hg hi hj e
  subst this
  rfl

/-- What the law asks: two of which one depends on the other come in the same order in both. -/
theorem stable_cmp {g p : MGraph} {L M : List MDot} (hg : graphP g = true) (hp : graphP p = true) (hgc : ∀ x, x ∈ g.fItems → ∀ d, d ∈ x.fDeps → ∃ y, y ∈ g.fItems ∧ y.fD = d)
    (hsub : ∀ x, x ∈ p.fItems → x ∈ g.fItems) (hcl : ∀ x, x ∈ p.fItems → ∀ d, d ∈ x.fDeps → ∃ y, y ∈ p.fItems ∧ y.fD = d) (hL : OrderL g L) (hM : OrderL p M)
    {it : MItem} (hit : it ∈ p.fItems) {b : MDot} (hb : b ∈ it.fDeps) {x1 y1 x2 y2 : Int} (hx1 : PlcAt L it.fD x1) (hy1 : PlcAt L b y1) (hx2 : PlcAt M it.fD x2) (hy2 : PlcAt M b y2) : (x1 < y1) ↔ (x2 < y2) := by
  obtain ⟨bt, hbt, rfl⟩ := hcl it hit b hb
  obtain ⟨i, hi, rfl⟩ := List.mem_iff_getElem.1 hit
  obtain ⟨j, hj, rfl⟩ := List.mem_iff_getElem.1 hbt
  obtain ⟨i', hi', ei⟩ := List.mem_iff_getElem.1 (hsub _ (List.getElem_mem hi))
  obtain ⟨j', hj', ej⟩ := List.mem_iff_getElem.1 (hsub _ (List.getElem_mem hj))
  have rp : Reach p.fItems i j := Reach.base ⟨hi, hj, _, hb, sameD_iff.2 rfl⟩
  have rg : Reach g.fItems i' j' := Reach.base ⟨hi', hj', _, by rw [ei]; exact hb, by rw [ej]; exact sameD_iff.2 rfl⟩
  have hinj := item_inj hg
  have hback : Reach p.fItems j i ↔ Reach g.fItems j' i' := by
    constructor
    · intro h
      obtain ⟨_, h2⟩ := reach_up hsub hj hj' ej h
      exact h2 i' hi' (by rw [ei])
    · intro h
      obtain ⟨_, k, hk, e2, hr⟩ := reach_down hsub hinj hcl hj hj' ej h
      have : k = i := graph_inj hp hk hi (by rw [e2, ei])
      subst this
      exact hr
  have heq : i = j ↔ i' = j' := by
    constructor
    · intro h; subst h; exact graph_inj hg hi' hj' (by rw [ei, ej])
    · intro h; subst h; exact graph_inj hp hi hj (by rw [← ei, ← ej])
  have hring : ring p.fItems i j ↔ ring g.fItems i' j' := by
    unfold ring
    constructor
    · rintro (h | ⟨h, _⟩)
      · exact .inl (heq.1 h.symm).symm
      · exact .inr ⟨hback.1 h, rg⟩
    · rintro (h | ⟨h, _⟩)
      · exact .inl (heq.2 h.symm).symm
      · exact .inr ⟨hback.2 h, rp⟩
  have c1 := hL.cmp hi' hj' (whole_closed hgc i') hg rg (x := x1) (y := y1) (by rw [ei]; exact hx1) (by rw [ej]; exact hy1)
  have c2 := hM.cmp hi hj (whole_closed hcl i) hp rp hx2 hy2
  rw [c1, c2, hring, ei, ej]

/-- A queue without doubles of a graph's dots is no longer than the graph. -/
theorem queue_len {g : List MItem} {q : List MDot} (hn : q.Nodup) (hi : ∀ x, x ∈ q → ∃ it, it ∈ g ∧ it.fD = x) : q.length ≤ g.length := by
  have hex : ∀ x, ∃ i : Nat, x ∈ q → ∃ h : i < g.length, g[i].fD = x := fun x => by
    by_cases hx : x ∈ q
    · obtain ⟨it, hit, e⟩ := hi x hx
      obtain ⟨i, h, rfl⟩ := List.mem_iff_getElem.1 hit
      exact ⟨i, fun _ => ⟨h, e⟩⟩
    · exact ⟨0, fun h => absurd h hx⟩
  have hl : (q.map (fun x => Classical.choose (hex x))).length ≤ g.length := by
    refine nodup_lt ?_ (fun i hi => ?_)
    · unfold List.Nodup
      rw [List.pairwise_map]
      refine List.Pairwise.imp_of_mem ?_ hn
      intro a b ha hb hne e
      obtain ⟨h1, e1⟩ := Classical.choose_spec (hex a) ha
      obtain ⟨h2, e2⟩ := Classical.choose_spec (hex b) hb
      apply hne
      rw [← e1, ← e2]
      congr 1
      simp only [e]
    · obtain ⟨x, hx, rfl⟩ := List.mem_map.1 hi
      exact (Classical.choose_spec (hex x) hx).1
  simpa using hl

/-- The queue and the part, while they are gathered: at place i of the queue, at place k of the graph. -/
structure Gat (g : MGraph) (q : List MDot) (i k : Nat) (p : MGraph) : Prop where
  nd : q.Nodup
  inG : ∀ x, x ∈ q → ∃ it, it ∈ g.fItems ∧ it.fD = x
  ok : graphP p = true
  sub : ∀ it, it ∈ p.fItems ↔ it ∈ g.fItems ∧ (it.fD ∈ q.take i ∨ (it ∈ g.fItems.take k ∧ q[i]? = some it.fD))
  deps : ∀ it, it ∈ p.fItems → ∀ d, d ∈ it.fDeps → d ∈ q
theorem Gat.start {g : MGraph} {d : MDot} (h : ∃ it, it ∈ g.fItems ∧ it.fD = d) : Gat g [d] 0 0 ⟨[]⟩ :=
  ⟨by simp, fun x hx => by rw [List.mem_singleton.1 hx]; exact h, graphP_nil', fun it => ⟨(fun h => by cases h), (fun h => by rcases h.2 with h | h <;> simp at h)⟩, (fun it h => by cases h)⟩
  where graphP_nil' : graphP ⟨[]⟩ = true := rfl
theorem Gat.skip {g : MGraph} {q : List MDot} {i k : Nat} {p : MGraph} (h : Gat g q i k p) (hk : k < g.fItems.length) (hne : q[i]? ≠ some g.fItems[k].fD) : Gat g q i (k + 1) p := by
  refine ⟨h.nd, h.inG, h.ok, fun it => ?_, h.deps⟩
  rw [h.sub it, List.take_succ_eq_append_getElem hk]
  constructor
  · rintro ⟨h1, h2 | ⟨h2, h3⟩⟩
    · exact ⟨h1, .inl h2⟩
    · exact ⟨h1, .inr ⟨List.mem_append_left _ h2, h3⟩⟩
  · rintro ⟨h1, h2 | ⟨h2, h3⟩⟩
    · exact ⟨h1, .inl h2⟩
    · rcases List.mem_append.1 h2 with h2 | h2
      · exact ⟨h1, .inr ⟨h2, h3⟩⟩
      · rw [List.mem_singleton] at h2
        subst h2
        exact absurd h3 hne
theorem Gat.next {g : MGraph} {q : List MDot} {i : Nat} {p : MGraph} (h : Gat g q i g.fItems.length p) (hi : i < q.length) : Gat g q (i + 1) 0 p := by
  refine ⟨h.nd, h.inG, h.ok, fun it => ?_, h.deps⟩
  rw [h.sub it, List.take_length, List.take_succ_eq_append_getElem hi, List.getElem?_eq_getElem hi]
  constructor
  · rintro ⟨h1, h2 | ⟨h2, h3⟩⟩
    · exact ⟨h1, .inl (List.mem_append_left _ h2)⟩
    · exact ⟨h1, .inl (List.mem_append_right _ (by simp only [Option.some.injEq] at h3; rw [List.mem_singleton]; exact h3.symm))⟩
  · rintro ⟨h1, h2 | ⟨h2, _⟩⟩
    · rcases List.mem_append.1 h2 with h2 | h2
      · exact ⟨h1, .inl h2⟩
      · rw [List.mem_singleton] at h2; exact ⟨h1, .inr ⟨h1, by rw [h2]⟩⟩
    · simp at h2
/-- It may be put: it is not there. -/
theorem Gat.fresh {g : MGraph} {q : List MDot} {i k : Nat} {p : MGraph} (hg : graphP g = true) (h : Gat g q i k p) (hk : k < g.fItems.length) (he : q[i]? = some g.fItems[k].fD) : ∀ x, x ∈ p.fItems → x.fD ≠ g.fItems[k].fD := by
  intro x hx e
  obtain ⟨h1, h2⟩ := (h.sub x).1 hx
  have hxe := item_inj hg x _ h1 (List.getElem_mem hk) e
  rcases h2 with h2 | ⟨h2, _⟩
  · rw [List.mem_take_iff_getElem] at h2
    obtain ⟨j, hj, ej⟩ := h2
    have hil : i < q.length := (List.getElem?_eq_some_iff.1 he).1
    have e3 : q[i] = g.fItems[k].fD := (List.getElem?_eq_some_iff.1 he).2
    have := (List.pairwise_iff_getElem.1 h.nd) j i (by omega) hil (by omega)
    exact this (by rw [ej, e3, e])
  · rw [List.mem_take_iff_getElem] at h2
    obtain ⟨j, hj, ej⟩ := h2
    have : j = k := graph_inj hg (by omega) hk (by rw [ej, e])
    omega
theorem Gat.plen {g : MGraph} {q : List MDot} {i k : Nat} {p : MGraph} (hg : graphP g = true) (h : Gat g q i k p) : p.fItems.length ≤ g.fItems.length := by
  have hp := graph_iff.1 h.ok
  have h1 : (p.fItems.map MItem.fD).Nodup := by
    unfold List.Nodup
    rw [List.pairwise_map]
    exact hp.2.2.imp (fun h e => by rw [e, dotLt_self] at h; cases h)
  have := queue_len h1 (g := g.fItems) (fun x hx => by obtain ⟨it, hit, e⟩ := List.mem_map.1 hx; exact ⟨it, ((h.sub it).1 hit).1, e⟩)
  simpa using this
/-- The queue while the deps of the one that was put are looked at. -/
structure Gad (g : MGraph) (q0 q : List MDot) (ds : List MDot) (j : Nat) : Prop where
  nd : q.Nodup
  inG : ∀ x, x ∈ q → ∃ it, it ∈ g.fItems ∧ it.fD = x
  pre : ∃ r, q = q0 ++ r
  got : ∀ d, d ∈ ds.take j → d ∈ q
theorem Gad.start {g : MGraph} {q : List MDot} {i k : Nat} {p : MGraph} (h : Gat g q i k p) (ds : List MDot) : Gad g q q ds 0 := ⟨h.nd, h.inG, ⟨[], by simp⟩, fun d hd => by simp at hd⟩
theorem Gad.has {g : MGraph} {q0 q ds : List MDot} {j : Nat} (h : Gad g q0 q ds j) (hj : j < ds.length) (hd : ds[j] ∈ q) : Gad g q0 q ds (j + 1) :=
  ⟨h.nd, h.inG, h.pre, fun d hd2 => by
    rw [List.take_succ_eq_append_getElem hj] at hd2
    rcases List.mem_append.1 hd2 with h2 | h2
    · exact h.got d h2
    · rw [List.mem_singleton.1 h2]; exact hd⟩
theorem Gad.add {g : MGraph} {q0 q ds : List MDot} {j : Nat} (h : Gad g q0 q ds j) (hj : j < ds.length) (hd : ds[j] ∉ q) (hin : ∃ it, it ∈ g.fItems ∧ it.fD = ds[j]) : Gad g q0 (q ++ [ds[j]]) ds (j + 1) := by
  refine ⟨?_, fun x hx => ?_, ?_, fun d hd2 => ?_⟩
  · unfold List.Nodup
    rw [List.pairwise_append]
    exact ⟨h.nd, by simp, fun a ha b hb e => hd (by rw [List.mem_singleton] at hb; rw [← hb, ← e]; exact ha)⟩
  · rcases List.mem_append.1 hx with hx | hx
    · exact h.inG x hx
    · rw [List.mem_singleton.1 hx]; exact hin
  · obtain ⟨r, e⟩ := h.pre
    exact ⟨r ++ [ds[j]], by rw [e]; simp⟩
  · rw [List.take_succ_eq_append_getElem hj] at hd2
    rcases List.mem_append.1 hd2 with h2 | h2
    · exact List.mem_append_left _ (h.got d h2)
    · exact List.mem_append_right _ h2
/-- One was put, and its deps were looked at. -/
theorem Gat.put {g : MGraph} {q q' : List MDot} {i k : Nat} {p : MGraph} (hg : graphP g = true) (hl : g.fItems.length < 100) (h : Gat g q i k p) (hk : k < g.fItems.length) (he : q[i]? = some g.fItems[k].fD) (hd : Gad g q q' g.fItems[k].fDeps g.fItems[k].fDeps.length) : putOk p g.fItems[k] = true ∧ Gat g q' i (k + 1) (putG p g.fItems[k]) := by
  have hil : i < q.length := (List.getElem?_eq_some_iff.1 he).1
  have hpl := h.plen hg
  have hgk := (graph_iff.1 hg).2.1 _ (List.getElem_mem hk)
  obtain ⟨h1, h2, h3⟩ := put_new h.ok hgk (by omega) (h.fresh hg hk he)
  obtain ⟨r, hr⟩ := hd.pre
  have ht : q'.take i = q.take i := by rw [hr, List.take_append_of_le_length (by omega)]
  have hq : q'[i]? = q[i]? := by rw [hr, List.getElem?_append_left hil]
  refine ⟨h1, hd.nd, hd.inG, ?_, fun it => ?_, fun it hit d hdd => ?_⟩
  · unfold putG; rw [h1]; unfold putOk at h1; rw [Bool.and_eq_true] at h1; exact h1.2
  · rw [h2 it, h.sub it, ht, hq, List.take_succ_eq_append_getElem hk]
    constructor
    · rintro (⟨a1, a2 | ⟨a2, a3⟩⟩ | rfl)
      · exact ⟨a1, .inl a2⟩
      · exact ⟨a1, .inr ⟨List.mem_append_left _ a2, a3⟩⟩
      · exact ⟨List.getElem_mem hk, .inr ⟨List.mem_append_right _ (List.mem_singleton.2 rfl), he⟩⟩
    · rintro ⟨a1, a2 | ⟨a2, a3⟩⟩
      · exact .inl ⟨a1, .inl a2⟩
      · rcases List.mem_append.1 a2 with a2 | a2
        · exact .inl ⟨a1, .inr ⟨a2, a3⟩⟩
        · exact .inr (List.mem_singleton.1 a2)
  · rcases (h2 it).1 hit with hit | rfl
    · rw [hr]; exact List.mem_append_left _ (h.deps it hit d hdd)
    · exact hd.got d (by rw [List.take_length]; exact hdd)
theorem Gat.ok2 {g : MGraph} {q : List MDot} {i k : Nat} {p : MGraph} (hg : graphP g = true) (hl : g.fItems.length < 100) (h : Gat g q i k p) (hk : k < g.fItems.length) (he : q[i]? = some g.fItems[k].fD) : putOk p g.fItems[k] = true := by
  have hpl := h.plen hg
  have hgk := (graph_iff.1 hg).2.1 _ (List.getElem_mem hk)
  exact (put_new h.ok hgk (by omega) (h.fresh hg hk he)).1
/-- Where the queue is at its end, the part is closed. -/
theorem Gat.done {g : MGraph} {q : List MDot} {i : Nat} {p : MGraph} (h : Gat g q i 0 p) (hi : q.length ≤ i) : (∀ x, x ∈ p.fItems → x ∈ g.fItems) ∧ ∀ x, x ∈ p.fItems → ∀ d, d ∈ x.fDeps → ∃ y, y ∈ p.fItems ∧ y.fD = d := by
  refine ⟨fun x hx => ((h.sub x).1 hx).1, fun x hx d hd => ?_⟩
  have hq := h.deps x hx d hd
  obtain ⟨it, hit, e⟩ := h.inG d hq
  exact ⟨it, (h.sub it).2 ⟨hit, .inl (by rw [List.take_of_length_le hi, e]; exact hq)⟩, e⟩

end Go.Proofs.YtmigamgcmhdncaaDoor
