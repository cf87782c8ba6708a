/-
  Part 18 of the texts that the proof leans on.
-/
import Derived.Test.YtedjmmaihpfndaaDoorOrd16
import Derived.Test.YtedjmmaihpfndaaDoorOrd15
import Derived.Test.YtedjmmaihpfndaaDoorOrd2
set_option linter.unusedVariables false
set_option linter.unusedSimpArgs false
set_option maxRecDepth 10000

namespace Go.Proofs.YtedjmmaihpfndaaDoor
open Go.RowKit

theorem pickT_mem {P : Nat → Bool} {l : List MItem} {d : MDot} : ∀ {k : Nat}, k ≤ l.length → (d ∈ pickT P l k ↔ ∃ j, j < k ∧ P j = true ∧ ∃ h : j < l.length, l[j].fD = d)
  | 0, _ => by simp [pickT]
  | k + 1, hk => by
    have ih := pickT_mem (P := P) (l := l) (d := d) (k := k) (by omega)
    rcases h : P k with _ | _
    · rw [pickT_no h, ih]
      constructor
      · rintro ⟨j, h1, h2⟩; exact ⟨j, by omega, h2⟩
      · rintro ⟨j, h1, h2, h3⟩
        have : j ≠ k := fun e => by subst e; rw [h] at h2; cases h2
        exact ⟨j, by omega, h2, h3⟩
    · rw [pickT_yes (by omega) h, List.mem_append, ih, List.mem_singleton]
      constructor
      · rintro (⟨j, h1, h2⟩ | rfl)
        · exact ⟨j, by omega, h2⟩
        · exact ⟨k, by omega, h, by omega, rfl⟩
      · rintro ⟨j, h1, h2, h3, h4⟩
        by_cases e : j = k
        · subst e; exact .inr h4.symm
        · exact .inl ⟨j, by omega, h2, h3, h4⟩
theorem pickT_up {P : Nat → Bool} {l : List MItem} (hg : graphP ⟨l⟩ = true) : ∀ {k : Nat}, k ≤ l.length → (pickT P l k).Pairwise (fun x y => dotLt x y = true)
  | 0, _ => by simp [pickT]
  | k + 1, hk => by
    have ih := pickT_up (P := P) hg (k := k) (by omega)
    rcases h : P k with _ | _
    · rw [pickT_no h]; exact ih
    · rw [pickT_yes (by omega) h, List.pairwise_append]
      refine ⟨ih, by simp, fun a ha b hb => ?_⟩
      rw [List.mem_singleton] at hb
      subst hb
      obtain ⟨j, h1, _, h3, rfl⟩ := (pickT_mem (by omega)).1 ha
      exact graph_up hg j k h3 (by omega) h1
theorem dot_at {l : List MItem} (hg : graphP ⟨l⟩ = true) {i j : Nat} (hi : i < l.length) (hj : j < l.length) (h : l[i].fD = l[j].fD) : i = j :=
  graph_uniq hg hi hj (d := l[j].fD) (by unfold sameD; rw [h]; simp) (by unfold sameD; simp)
/-- The dots of the groups, one group behind the other. -/
def catG (l : List MItem) (gs : List MGrp) : List MDot := (gs.map (fun g => pickT g.mem.has l l.length)).flatten
theorem catG_take {l : List MItem} {gs : List MGrp} {k : Nat} (h : k < gs.length) : catG l (gs.take (k + 1)) = catG l (gs.take k) ++ pickT gs[k].mem.has l l.length := by
  unfold catG
  rw [List.take_succ_eq_append_getElem h, List.map_append, List.flatten_append]
  simp
theorem catG_len {l : List MItem} (hl : l.length ≤ 100) : ∀ gs : List MGrp, (catG l gs).length ≤ gs.length * 100
  | [] => by simp [catG]
  | g :: r => by
    have ih := catG_len hl r
    have h1 := pickT_len g.mem.has l l.length
    have e : catG l (g :: r) = pickT g.mem.has l l.length ++ catG l r := by simp [catG]
    rw [e, List.length_append, List.length_cons]
    omega
theorem GroupsOk.grp {l : List MItem} {n : Nat} {ps : List Nat} {gs : List MGrp} (h : GroupsOk l n ps gs) {i : Nat} (hi : i < gs.length) : ∃ hp : i < ps.length, lead l ps[i] ∧ ps[i] < n ∧ GrpOk l ps[i] gs[i] := by
  have hp : i < ps.length := by rw [← h.len]; exact hi
  have := (h.who ps[i]).1 (List.getElem_mem hp)
  exact ⟨hp, this.2, this.1, h.each i hp hi⟩
theorem GroupsOk.count {l : List MItem} {n : Nat} {ps : List Nat} {gs : List MGrp} (h : GroupsOk l n ps gs) : gs.length ≤ n := by
  rw [h.len]; exact asc_len h.asc (fun p hp => ((h.who p).1 hp).1)
theorem nodup_of_up {l : List MDot} (h : l.Pairwise (fun x y => dotLt x y = true)) : l.Nodup := h.imp (fun {a b} h e => by subst e; exact dotLt_asym h h)
/-- All groups together are what is whole. -/
theorem GroupsOk.perm {l : List MItem} (hg : graphP ⟨l⟩ = true) (hl : l.length ≤ 100) {ps : List Nat} {gs : List MGrp} (h : GroupsOk l l.length ps gs) {P : Nat → Bool} (hP : ∀ j, j < l.length → (P j = true ↔ wholeAt l j)) : (catG l gs).Perm (pickT P l l.length) := by
  rw [List.perm_ext_iff_of_nodup]
  · intro d
    rw [pickT_mem (Nat.le_refl _)]
    unfold catG
    rw [List.mem_flatten]
    constructor
    · rintro ⟨L, hL, hd⟩
      obtain ⟨g, hgm, rfl⟩ := List.mem_map.1 hL
      obtain ⟨i, hi, rfl⟩ := List.mem_iff_getElem.1 hgm
      obtain ⟨hp, hle, hpn, hgo⟩ := h.grp hi
      obtain ⟨j, hj, hm, hjl, rfl⟩ := (pickT_mem (Nat.le_refl _)).1 hd
      exact ⟨j, hj, (hP j hj).2 (((hgo.mem j (by omega)).1 hm).whole hle.1), hjl, rfl⟩
    · rintro ⟨j, hj, hpj, hjl, rfl⟩
      obtain ⟨p, hpj2, hlp, hr⟩ := lead_of j ((hP j hj).1 hpj)
      obtain ⟨i, hi, rfl⟩ := List.mem_iff_getElem.1 ((h.who p).2 ⟨by omega, hlp⟩)
      have hi2 : i < gs.length := by rw [h.len]; exact hi
      exact ⟨_, List.mem_map.2 ⟨gs[i], List.getElem_mem hi2, rfl⟩, (pickT_mem (Nat.le_refl _)).2 ⟨j, hj, ((h.each i hi hi2).mem j (by omega)).2 hr, hjl, rfl⟩⟩
  · unfold catG List.Nodup
    rw [List.pairwise_flatten]
    refine ⟨fun L hL => ?_, ?_⟩
    · obtain ⟨g, _, rfl⟩ := List.mem_map.1 hL
      exact nodup_of_up (pickT_up hg (Nat.le_refl _))
    · rw [List.pairwise_iff_getElem]
      intro i j hi hj hij x hx y hy e
      subst e
      simp only [List.length_map] at hi hj
      rw [List.getElem_map] at hx hy
      obtain ⟨a, ha, hma, hal, hxa⟩ := (pickT_mem (Nat.le_refl _)).1 hx
      obtain ⟨b, hb, hmb, hbl, hxb⟩ := (pickT_mem (Nat.le_refl _)).1 hy
      have hab : a = b := dot_at hg hal hbl (hxa.trans hxb.symm)
      subst hab
      obtain ⟨hp1, hl1, _, hg1⟩ := h.grp hi
      obtain ⟨hp2, hl2, _, hg2⟩ := h.grp hj
      have hr := ((hg1.mem a (by omega)).1 hma).trans ((hg2.mem a (by omega)).1 hmb).symm
      have e := hl1.one hl2 hr
      have := (List.pairwise_iff_getElem.1 h.asc) i j hp1 hp2 hij
      omega
  · exact nodup_of_up (pickT_up hg (Nat.le_refl _))

theorem whole_set (l : List MItem) : ∃ P : Nat → Bool, ∀ j, P j = true ↔ wholeAt l j := ⟨fun j => @decide _ (Classical.propDecidable (wholeAt l j)), fun j => by simp⟩
/-- Sorted, they are what Whole answers. -/
theorem whole_of {m : MGraph} {gs : List MGrp} (h : GroupsL m gs) : ∃ L, WholeL m L ∧ (catG m.fItems gs).Perm L ∧ L.Pairwise (fun x y => dotLt x y = true) ∧ (catG m.fItems gs).length ≤ 10000 := by
  rcases h with ⟨h1, rfl⟩ | ⟨h1, ps, h2⟩
  · exact ⟨[], .inl ⟨h1, rfl⟩, by simp [catG], List.Pairwise.nil, by simp [catG]⟩
  · have hg : graphP ⟨m.fItems⟩ = true := h1
    have hl : m.fItems.length ≤ 100 := by
      have h' : (decide (m.fItems.length ≤ 100) && upOk itemP itemLt m.fItems) = true := h1
      rw [Bool.and_eq_true] at h'
      exact of_decide_eq_true h'.1
    obtain ⟨P, hP⟩ := whole_set m.fItems
    have h3 := catG_len hl gs
    have h4 := h2.count
    refine ⟨pickT P m.fItems m.fItems.length, .inr ⟨h1, P, fun j _ => hP j, rfl⟩, h2.perm hg hl (fun j _ => hP j), pickT_up hg (Nat.le_refl _), by omega⟩
theorem groups_count {m : MGraph} {gs : List MGrp} (h : GroupsL m gs) : gs.length ≤ 100 ∧ (0 < gs.length → m.fItems.length ≤ 100) := by
  rcases h with ⟨h1, rfl⟩ | ⟨h1, ps, h2⟩
  · simp
  · have hl : m.fItems.length ≤ 100 := by
      have h' : (decide (m.fItems.length ≤ 100) && upOk itemP itemLt m.fItems) = true := h1
      rw [Bool.and_eq_true] at h'
      exact of_decide_eq_true h'.1
    have := h2.count
    exact ⟨by omega, fun _ => hl⟩


structure OrdSt (l : List MItem) (qs rs : List Nat) (grs : List MGrp) (s : MSet) (L : List MDot) : Prop where
  ord : OrdOk l qs
  asc : rs.Pairwise (· < ·)
  who : ∀ p, p ∈ rs ↔ p < l.length ∧ lead l p ∧ p ∉ qs
  len : grs.length = rs.length
  each : ∀ i, (h : i < rs.length) → (h2 : i < grs.length) → GrpOk l rs[i] grs[i]
  ok : s.ok
  got : ∀ j, j < 128 → (s.has j = true ↔ takenBy l qs j)
  dots : DotsOf l qs L
theorem OrdSt.start {l : List MItem} {ps : List Nat} {gs : List MGrp} (h : GroupsOk l l.length ps gs) : OrdSt l [] ps gs ⟨0, 0⟩ [] :=
  ⟨OrdOk.nil l, h.asc, fun p => by rw [h.who]; simp, h.len, h.each, ⟨by decide, by decide⟩, fun j hj => by rw [MSet.zero_has]; simp [takenBy], DotsOf.nil l⟩
theorem OrdSt.free {l : List MItem} {qs rs : List Nat} {grs : List MGrp} {s : MSet} {L : List MDot} (h : OrdSt l qs rs grs s L) (hl : l.length ≤ 100) {i : Nat} (hi : i < grs.length) : ∃ hr : i < rs.length, (freeG s grs[i] = true ↔ cand l qs rs[i]) := by
  have hr : i < rs.length := by rw [← h.len]; exact hi
  have hg := h.each i hr hi
  obtain ⟨h1, h2, h3⟩ := (h.who rs[i]).1 (List.getElem_mem hr)
  refine ⟨hr, ?_⟩
  rw [freeG_iff h.ok hg.okn]
  constructor
  · intro hf
    refine ⟨h1, h2.1, fun ht => h3 ((h.ord.taken_lead h2).1 ht), fun j hj hn => ?_⟩
    have := hj.lt
    exact (h.got j (by omega)).1 (hf j (by omega) ((hg.need j (by omega)).2 ⟨hj, hn⟩))
  · intro hc j hj hn
    obtain ⟨a, b⟩ := (hg.need j hj).1 hn
    exact (h.got j hj).2 (hc.2.2.2 j a b)
/-- What can be taken has its leader in the list. -/
theorem OrdSt.of_cand {l : List MItem} {qs rs : List Nat} {grs : List MGrp} {s : MSet} {L : List MDot} (h : OrdSt l qs rs grs s L) {q : Nat} (hq : cand l qs q) : ∃ i, ∃ hr : i < rs.length, rs[i] ≤ q ∧ cand l qs rs[i] := by
  obtain ⟨q0, h1, h2, h3⟩ := lead_of q hq.2.1
  have hc := hq.ring h3.symm
  have hm : q0 ∈ rs := (h.who q0).2 ⟨hc.1, h2, fun hm => hc.2.2.1 ⟨q0, hm, ring.refl _ _⟩⟩
  obtain ⟨i, hi, rfl⟩ := List.mem_iff_getElem.1 hm
  exact ⟨i, hi, h1, hc⟩
theorem OrdSt.next {l : List MItem} {qs rs : List Nat} {grs : List MGrp} {s : MSet} {L : List MDot} (h : OrdSt l qs rs grs s L) (hl : l.length ≤ 100) {i : Nat} (hi : i < grs.length) (hf : freeG s grs[i] = true) (hn : ∀ j, (hj : j < grs.length) → j < i → freeG s grs[j] = false) : ∃ hr : i < rs.length, nextOk l qs rs[i] := by
  obtain ⟨hr, h1⟩ := h.free hl hi
  refine ⟨hr, h1.1 hf, fun q hq hc => ?_⟩
  obtain ⟨k, hk, h2, h3⟩ := h.of_cand hc
  have hki : k < i := by
    apply Classical.byContradiction
    intro hge
    by_cases e : k = i
    · subst e; omega
    · have := (List.pairwise_iff_getElem.1 h.asc) i k hr hk (by omega)
      omega
  have hkg : k < grs.length := by rw [h.len]; exact hk
  have h4 := (h.free hl hkg).2.2 h3
  rw [hn k hkg hki] at h4; cases h4
theorem OrdSt.step {l : List MItem} {qs rs : List Nat} {grs : List MGrp} {s : MSet} {L : List MDot} (h : OrdSt l qs rs grs s L) (hl : l.length ≤ 100) {i : Nat} (hi : i < grs.length) (hf : freeG s grs[i] = true) (hn : ∀ j, (hj : j < grs.length) → j < i → freeG s grs[j] = false) :
    ∃ p, OrdSt l (qs ++ [p]) (rs.eraseIdx i) (grs.eraseIdx i) (s.join grs[i].mem) (L ++ pickT grs[i].mem.has l l.length) := by
  obtain ⟨hr, hx⟩ := h.next hl hi hf hn
  have hg := h.each i hr hi
  have hsub : (rs.eraseIdx i).Sublist rs := List.eraseIdx_sublist _ _
  refine ⟨rs[i], h.ord.snoc hx, h.asc.sublist hsub, fun p => ?_, by rw [List.length_eraseIdx, List.length_eraseIdx, if_pos hi, if_pos hr, h.len], fun j h1 h2 => ?_, MSet.join_ok h.ok hg.okm, fun j hj => ?_, h.dots.snoc ⟨grs[i].mem.has, fun j hj => hg.mem j (by omega), rfl⟩⟩
  · have hnd : rs.Nodup := h.asc.imp (fun h => Nat.ne_of_lt h)
    have hme : p ∈ rs.eraseIdx i ↔ p ∈ rs ∧ p ≠ rs[i] := by
      rw [List.mem_eraseIdx_iff_getElem]
      constructor
      · rintro ⟨k, hk, hki, rfl⟩
        refine ⟨List.getElem_mem hk, fun e => ?_⟩
        rcases Nat.lt_trichotomy k i with g | g | g
        · have := (List.pairwise_iff_getElem.1 h.asc) k i hk hr g; omega
        · exact hki g
        · have := (List.pairwise_iff_getElem.1 h.asc) i k hr hk g; omega
      · rintro ⟨hm, hne⟩
        obtain ⟨k, hk, rfl⟩ := List.mem_iff_getElem.1 hm
        exact ⟨k, hk, fun e => hne (by subst e; rfl), rfl⟩
    rw [hme, h.who, List.mem_append, List.mem_singleton]
    constructor
    · rintro ⟨⟨a, b, c⟩, d⟩
      exact ⟨a, b, fun e => e.elim c d⟩
    · rintro ⟨a, b, c⟩
      exact ⟨⟨a, b, fun e => c (.inl e)⟩, fun e => c (.inr e)⟩
  · by_cases hji : j < i
    · have e1 : (rs.eraseIdx i)[j] = rs[j]'(by omega) := List.getElem_eraseIdx_of_lt _ hji
      have e2 : (grs.eraseIdx i)[j] = grs[j]'(by omega) := List.getElem_eraseIdx_of_lt _ hji
      rw [e1, e2]
      exact h.each j _ _
    · have l1 : (rs.eraseIdx i).length = rs.length - 1 := by rw [List.length_eraseIdx, if_pos hr]
      have l2 : (grs.eraseIdx i).length = grs.length - 1 := by rw [List.length_eraseIdx, if_pos hi]
      have e1 : (rs.eraseIdx i)[j] = rs[j + 1]'(by omega) := List.getElem_eraseIdx_of_ge _ (by omega)
      have e2 : (grs.eraseIdx i)[j] = grs[j + 1]'(by omega) := List.getElem_eraseIdx_of_ge _ (by omega)
      rw [e1, e2]
      exact h.each (j + 1) _ _
  · rw [MSet.join_has, Bool.or_eq_true, h.got j hj, hg.mem j hj, takenBy_snoc]
theorem OrdSt.stuck {l : List MItem} {qs rs : List Nat} {grs : List MGrp} {s : MSet} {L : List MDot} (h : OrdSt l qs rs grs s L) (hl : l.length ≤ 100) (h0 : 0 < grs.length) (hn : ∀ j, (hj : j < grs.length) → freeG s grs[j] = false) : False := by
  have hr : 0 < rs.length := by rw [← h.len]; exact h0
  obtain ⟨h1, h2, h3⟩ := (h.who rs[0]).1 (List.getElem_mem hr)
  obtain ⟨q, hq⟩ := h.ord.free h1 h2.1 (fun ht => h3 ((h.ord.taken_lead h2).1 ht))
  obtain ⟨k, hk, _, h5⟩ := h.of_cand hq
  have hkg : k < grs.length := by rw [h.len]; exact hk
  have h4 := (h.free hl hkg).2.2 h5
  rw [hn k hkg] at h4; cases h4
theorem OrdSt.done {l : List MItem} {qs rs : List Nat} {grs : List MGrp} {s : MSet} {L : List MDot} (h : OrdSt l qs rs grs s L) (h0 : grs.length = 0) : OrdFull l qs :=
  ⟨h.ord, fun p hp => by
    obtain ⟨k, hk, _⟩ := h.of_cand hp
    have := h.len
    omega⟩
/-- The same, where the graph may be wrong. -/
def OrdSt' (m : MGraph) (grs : List MGrp) (s : MSet) (L : List MDot) : Prop := s.ok ∧ L.length ≤ 10000 ∧ grs.length ≤ 100 ∧ ((graphP m = false ∧ grs = [] ∧ L = []) ∨ (graphP m = true ∧ ∃ qs rs, OrdSt m.fItems qs rs grs s L))
theorem OrdSt.len10 {m : MGraph} (hg : graphP m = true) {qs rs : List Nat} {grs : List MGrp} {s : MSet} {L : List MDot} (h : OrdSt m.fItems qs rs grs s L) : L.length ≤ 10000 ∧ grs.length ≤ 100 := by
  have a := h.dots.len
  have b := h.ord.len
  have c := graph_len hg
  have d := Nat.mul_le_mul (Nat.le_trans b c) c
  have e : rs.length ≤ m.fItems.length := asc_len h.asc (fun p hp => ((h.who p).1 hp).1)
  have f := h.len
  omega
theorem OrdSt'.start {m : MGraph} {gs : List MGrp} (h : GroupsL m gs) : OrdSt' m gs ⟨0, 0⟩ [] := by
  rcases h with ⟨h1, rfl⟩ | ⟨h1, ps, h2⟩
  · exact ⟨⟨by decide, by decide⟩, by simp, by simp, .inl ⟨h1, rfl, rfl⟩⟩
  · have h3 := OrdSt.start h2
    exact ⟨⟨by decide, by decide⟩, (h3.len10 h1).1, (h3.len10 h1).2, .inr ⟨h1, [], ps, h3⟩⟩
theorem OrdSt'.small {m : MGraph} {grs : List MGrp} {s : MSet} {L : List MDot} (h : OrdSt' m grs s L) (h0 : 0 < grs.length) : m.fItems.length ≤ 100 := by
  rcases h.2.2.2 with ⟨_, rfl, _⟩ | ⟨hg, _⟩
  · simp at h0
  · exact graph_len hg
theorem OrdSt'.step {m : MGraph} {grs : List MGrp} {s : MSet} {L : List MDot} (h : OrdSt' m grs s L) {i : Nat} (hi : i < grs.length) (hf : freeG s grs[i] = true) (hn : ∀ j, (hj : j < grs.length) → j < i → freeG s grs[j] = false) :
    OrdSt' m (grs.eraseIdx i) (s.join grs[i].mem) (L ++ pickT grs[i].mem.has m.fItems m.fItems.length) := by
  rcases h.2.2.2 with ⟨_, rfl, _⟩ | ⟨hg, qs, rs, h1⟩
  · simp at hi
  · obtain ⟨p, h2⟩ := h1.step (graph_len hg) hi hf hn
    exact ⟨h2.ok, (h2.len10 hg).1, (h2.len10 hg).2, .inr ⟨hg, _, _, h2⟩⟩
theorem OrdSt'.stuck {m : MGraph} {grs : List MGrp} {s : MSet} {L : List MDot} (h : OrdSt' m grs s L) (h0 : 0 < grs.length) (hn : ∀ j, (hj : j < grs.length) → freeG s grs[j] = false) : False := by
  rcases h.2.2.2 with ⟨_, rfl, _⟩ | ⟨hg, qs, rs, h1⟩
  · simp at h0
  · exact h1.stuck (graph_len hg) h0 hn
theorem OrdSt'.done {m : MGraph} {grs : List MGrp} {s : MSet} {L : List MDot} (h : OrdSt' m grs s L) (h0 : grs.length = 0) : OrderL m L := by
  rcases h.2.2.2 with ⟨h1, _, rfl⟩ | ⟨hg, qs, rs, h1⟩
  · exact .inl ⟨h1, rfl⟩
  · exact .inr ⟨hg, qs, h1.done h0, h1.dots⟩

abbrev q9d5_52_5_0 : Oper := ⟨some 20, .move (.tmp 0), 62, "slices.go:232", #[], none⟩
abbrev q9d5_52_5_1 : Oper := ⟨some 21, .move (.tmp 1), 3, "slices.go:232", #[], none⟩
abbrev q9d5_52_5_2 : Oper := ⟨some 22, .slice 62 (.tmp 20) none (some (.tmp 21)) none, 62, "slices.go:232", #[⟨0, .data⟩, ⟨1, .data⟩], none⟩
abbrev q9d5_52_5_3 : Oper := ⟨some 23, .move (.tmp 0), 62, "slices.go:232", #[], none⟩
abbrev q9d5_52_5_4 : Oper := ⟨some 24, .move (.tmp 2), 3, "slices.go:232", #[], none⟩
abbrev q9d5_52_5_5 : Oper := ⟨some 25, .slice 62 (.tmp 23) (some (.tmp 24)) none none, 62, "slices.go:232", #[⟨3, .data⟩, ⟨4, .data⟩], none⟩
abbrev q9d5_52_5_6 : Oper := ⟨some 26, .call { callee := .builtin .append, args := #[.tmp 22, .tmp 25], argTypes := #[62, 62] }, 62, "slices.go:232", #[⟨2, .data⟩, ⟨5, .data⟩], none⟩
abbrev q9d5_52_5_7 : Oper := ⟨some 0, .assign (.tmp 26), 62, "slices.go:232", #[⟨6, .data⟩, ⟨6, .chain⟩, ⟨0, .phase⟩, ⟨1, .phase⟩, ⟨2, .phase⟩, ⟨3, .phase⟩, ⟨4, .phase⟩, ⟨5, .phase⟩, ⟨6, .phase⟩], none⟩

theorem step_append_fit {P : Program} {w : World} {ops : Array Oper} {o : Oper} {a : Act} {K : Act → World → Prop} {Q : Exit → Act → World → Prop} {E : Prop} (hgd : o.guard = none) (s x : Operand) (t tx : TypeId)
    (ho : o.op = .call { callee := .builtin .append, args := #[s, x], argTypes := #[t, tx] })
    (e : TypeId) (i : TypeInfo) (size : Nat) (ht : P.underlying t = some (.slice e)) (hi : P.info? e = some i) (hsize : i.size = size)
    (b off n cap : Nat) (hs : a.eval s = .slice (some ⟨b, off, none⟩) n cap) (y : Value) (hy : a.eval x = y) (m : Nat) (news : List Value) (hx : Src P size tx y m news w) (hroom : n + m ≤ cap)
    (hc : ∀ j, j < news.length → (w.cell? ⟨b, off + n * size + j, none⟩).isSome = true) (hf : ∀ j, j < news.length → w.frozen? ⟨b, off + n * size + j, none⟩ = false)
    (h : K (a.put o.dst (.slice (some ⟨b, off, none⟩) (n + m) cap)) (w.setCells b (off + n * size) news)) :
    if Region.wanted o (yielded ops a.tmps) = true then Oper.wp P o a w K Q else E := by
  have hw : Region.wanted o (yielded ops a.tmps) = true := by simp [Region.wanted, hgd]
  rw [if_pos hw]
  subst hy
  subst hsize
  have hr := run_append_room_src (P := P) w t tx o.type e i ht hi b off n cap (a.eval x) m news hx hroom hc hf
  unfold Oper.wp execOp
  simp only [ho, resolve, invoke, builtin, Sem.run_bind, Sem.run_pure, Result.andThen_ok, List.map_toArray, List.map_cons, List.map_nil, hs, hr]
  exact h
theorem run_clear4 {P : Program} (w : World) (t e ty : TypeId) (z : Value) (zs : List Value) (ht : P.underlying t = some (.slice e)) (hv : ∀ w, (zeroValue e).run P w = .ok z w) (hz : (Builtin.zeroCells z.cells 1).toList = zs) (hz1 : ∀ v ∈ zs, v.oneCell' = true) (b o c : Nat)
    (hc : ∀ j, j < zs.length → (w.cell? ⟨b, o + j, none⟩).isSome = true) (hf : ∀ j, j < zs.length → w.frozen? ⟨b, o + j, none⟩ = false) :
    (Builtin.clear_ #[t] ty #[.slice (some ⟨b, o, none⟩) 1 c]).run P w = .ok (.tuple #[]) (w.setCells b o zs) := by
  subst hz
  have hst := run_storeCells_cells (P := P) b o (Builtin.zeroCells z.cells 1).toList 0 w (by simpa using hc) (by simpa using hf) hz1
  simp only [Nat.add_zero] at hst
  simp [Builtin.clear_, run_underlying ht, hv, hst]
theorem zeroGroup (w : World) : (zeroValue 68).run Tryd.prog w = .ok (.agg #[.int .u64 0, .int .u64 0, .int .u64 0, .int .u64 0]) w := by kernel_rfl
theorem setCells_turn (g : Nat) : ∀ (news : List Value) (o : Nat) (w : World), Turn [g] w (w.setCells g o news)
  | [], o, w => Turn.refl _ _
  | u :: r, o, w => ((Turn.refl [g] w).setCell (p := ⟨g, o, none⟩) (by simp) u).trans (setCells_turn g r (o + 1) _)

set_option maxHeartbeats 4000000 in
theorem deleteG_any (g n cap i B base : Nat) (gs : List MGrp) (w : World) (hx : gs.length = n) (hi : i < n) (hn : n ≤ 1000) (hrow : RowR 4 68 rGrp B w base (.slice (some ⟨g, 0, none⟩) n cap) gs) :
    Calls Tryd.prog 52 #[.slice (some ⟨g, 0, none⟩) n cap, .int .i64 i, .int .i64 ((i : Int) + 1)] w fun e w' => e = .returned (.slice (some ⟨g, 0, none⟩) (n - 1) cap) ∧ RowR 4 68 rGrp B w' base (.slice (some ⟨g, 0, none⟩) (n - 1) cap) (gs.eraseIdx i) ∧ Turn [g] w w' := by
  obtain ⟨iG, hiG, hzG0, hzG1, hzG2⟩ := info_parts Tryd.infoOfGroup
  obtain ⟨css, r1, r2, r3, r4⟩ := hrow
  rw [hx] at r1 r4
  rcases r4.2 with ⟨h0, _⟩ | ⟨g', cap', cur, h0, hb, hg, hnc, hmx, hcs, htake⟩
  · cases h0
  simp only [Value.slice.injEq, Option.some.injEq, Addr.mk.injEq, and_true, true_and] at h0
  obtain ⟨rfl, rfl⟩ := h0
  have hfl : css.flatten.length = n * 4 := by rw [flat_len r2, r1]
  obtain ⟨news, hnews⟩ : ∃ news, news = (css.drop (i + 1)).flatten := ⟨_, rfl⟩
  have r2' : ∀ c, c ∈ css.drop (i + 1) → c.length = 4 := fun c hc => r2 c (List.mem_of_mem_drop hc)
  have hnl : news.length = (n - (i + 1)) * 4 := by rw [hnews, flat_len r2', List.length_drop, r1]
  have hdrop : css.flatten.drop ((i + 1) * 4) = news := by
    rw [hnews]
    have e : css.flatten = (css.take (i + 1)).flatten ++ (css.drop (i + 1)).flatten := by rw [← List.flatten_append, List.take_append_drop]
    rw [e, List.drop_left' (by rw [flat_len (fun c hc => r2 c (List.mem_of_mem_take hc)), List.length_take, r1]; omega)]
  have hone : ∀ u, u ∈ news → u.oneCell' = true := by
    intro u hu
    rw [hnews] at hu
    obtain ⟨cs, hcs, huc⟩ := List.mem_flatten.1 hu
    obtain ⟨j, hj, rfl⟩ := List.mem_iff_getElem.1 (List.mem_of_mem_drop hcs)
    obtain ⟨e, _⟩ := r3 j (by omega) hj
    rw [e] at huc
    simp [MGrp.cells] at huc
    rcases huc with rfl | rfl | rfl | rfl <;> rfl
  have hcell : ∀ t u, news[t]? = some u → w.cell? ⟨g, (i + 1) * 4 + t, none⟩ = some u := fun t u hu => by
    rw [cell_of_row w g _ cur _ (0, 0) hg]
    rw [← hdrop, List.getElem?_drop, ← htake, List.getElem?_take] at hu
    split at hu
    · simpa using hu
    · cases hu
  obtain ⟨A, hA, HSRC⟩ : ∃ A : Addr, (if cap = i + 1 then some (⟨g, 0, none⟩ : Addr) else some ⟨g, (i + 1) * 4, none⟩) = some A ∧ Hid (Src Tryd.prog 4 62 (.slice (some A) (n - (i + 1)) (cap - (i + 1))) (n - (i + 1)) news w.drew) := by
    by_cases h : cap = i + 1
    · refine ⟨⟨g, 0, none⟩, by simp [h], ?_⟩
      have h0 : n - (i + 1) = 0 := by omega
      have hn0 : news = [] := List.eq_nil_of_length_eq_zero (by rw [hnl, h0])
      exact Src.ofSlice w.drew Tryd.underlying62 _ _ _ news (by rw [hnl]) (fun j u hu => by rw [hn0] at hu; simp at hu) hone
    · refine ⟨⟨g, (i + 1) * 4, none⟩, by simp [h], ?_⟩
      exact Src.ofSlice w.drew Tryd.underlying62 _ _ _ news (by rw [hnl]) (fun j u hu => by rw [Addr.add_lit]; exact hcell j u hu) hone
  have HCS : Hid (∀ j, j < news.length → (w.drew.cell? ⟨g, 0 + i * 4 + j, none⟩).isSome = true) := fun j hj => by
    show (w.cell? _).isSome = true
    rw [cell_of_row w g _ cur _ (0, 0) hg, Array.getElem?_eq_getElem (by rw [hcs]; omega)]
    rfl
  have HFZ : Hid (∀ j, j < news.length → w.drew.frozen? ⟨g, 0 + i * 4 + j, none⟩ = false) := fun j hj => frozen_of_row w g _ cur _ hg
  obtain ⟨W1, hW1⟩ : ∃ W1, W1 = w.drew.setCells g (0 + i * 4) news := ⟨_, rfl⟩
  obtain ⟨cur1, c1, c2, c3⟩ := setCells_row' g 68 news (0 + i * 4) w.drew cur hg (by rw [hcs, hnl]; omega)
  rw [← hW1] at c1
  have HT1 : Hid (Turn [g] w W1) := by unfold Hid; rw [hW1]; exact (Turn.ofBelow (Below.drew (Below.refl _ _))).trans (setCells_turn g _ _ _)
  have hcl : ∀ ty, (Builtin.clear_ #[62] ty #[.slice (some ⟨g, (n - 1) * 4, none⟩) 1 (cap - (n - 1))]).run Tryd.prog W1 = .ok (.tuple #[]) (W1.setCells g ((n - 1) * 4) [.int .u64 0, .int .u64 0, .int .u64 0, .int .u64 0]) := fun ty =>
    run_clear4 W1 62 68 ty (.agg #[.int .u64 0, .int .u64 0, .int .u64 0, .int .u64 0]) [.int .u64 0, .int .u64 0, .int .u64 0, .int .u64 0] Tryd.underlying62 zeroGroup (by kernel_rfl) (by intro v hv; simp at hv; rw [hv]; rfl) g ((n - 1) * 4) (cap - (n - 1)) (fun j hj => by rw [cell_of_row W1 g _ cur1 _ (0, 0) c1, Array.getElem?_eq_getElem (by rw [c2, hcs]; simp at hj; omega)]; rfl) (fun j hj => frozen_of_row W1 g _ cur1 _ c1)
  obtain ⟨cur2, d1, d2, d3⟩ := setCells_row' g 68 [.int .u64 0, .int .u64 0, .int .u64 0, .int .u64 0] ((n - 1) * 4) W1 cur1 c1 (by rw [c2, hcs]; simp; omega)
  obtain ⟨W2, hW2⟩ : ∃ W2, W2 = W1.setCells g ((n - 1) * 4) [.int .u64 0, .int .u64 0, .int .u64 0, .int .u64 0] := ⟨_, rfl⟩
  rw [← hW2] at hcl d1
  have HT2 : Hid (Turn [g] w W2) := by unfold Hid; rw [hW2]; exact HT1.out.trans (setCells_turn g _ _ _)
  have HFIN : Hid (RowR 4 68 rGrp B W2 base (.slice (some ⟨g, 0, none⟩) (n - 1) cap) (gs.eraseIdx i)) := by
    have hle : (gs.eraseIdx i).length = n - 1 := by rw [List.length_eraseIdx, if_pos (by omega), hx]
    have hlc : (css.eraseIdx i).length = n - 1 := by rw [List.length_eraseIdx, if_pos (by omega), r1]
    have r2e : ∀ c, c ∈ css.eraseIdx i → c.length = 4 := fun c hc => r2 c (List.mem_of_mem_eraseIdx hc)
    refine ⟨css.eraseIdx i, by rw [hle, hlc], r2e, fun j h1 h2 => ?_, ?_⟩
    · have hj : j < n - 1 := by omega
      by_cases hji : j < i
      · rw [List.getElem_eraseIdx_of_lt _ hji, List.getElem_eraseIdx_of_lt _ hji]
        exact r3 j (by omega) (by omega)
      · rw [List.getElem_eraseIdx_of_ge _ (by omega), List.getElem_eraseIdx_of_ge _ (by omega)]
        exact r3 (j + 1) (by omega) (by omega)
    · rw [hle]
      refine ⟨by rw [flat_len r2e, hlc], .inr ⟨g, cap, cur2, rfl, hb, d1, by omega, hmx, by rw [d2, c2, hcs], ?_⟩⟩
      have e1 : cur2.toList.take ((n - 1) * 4) = cur1.toList.take ((n - 1) * 4) := by
        rw [d3, List.append_assoc, List.take_left' (by rw [List.length_take, Array.length_toList, c2, hcs]; omega)]
      have e2 : cur1.toList.take ((n - 1) * 4) = cur.toList.take (i * 4) ++ news := by
        rw [c3, Nat.zero_add, List.take_left' (by rw [List.length_append, List.length_take, Array.length_toList, hcs, hnl]; omega)]
      have e3 : cur.toList.take (i * 4) = (css.take i).flatten := by
        have e : css.flatten = (css.take i).flatten ++ (css.drop i).flatten := by rw [← List.flatten_append, List.take_append_drop]
        have e' := congrArg (List.take (i * 4)) htake
        rw [List.take_take, Nat.min_eq_left (by omega), e, List.take_left' (by rw [flat_len (fun c hc => r2 c (List.mem_of_mem_take hc)), List.length_take, r1]; omega)] at e'
        exact e'
      rw [e1, e2, e3, hnews, List.eraseIdx_eq_take_drop_succ, List.flatten_append]
  have hW1h := Hid.mk hW1
  clear hW1 hW2 c1 c2 c3 d1 d2 d3 hcell hone hdrop r1 r2 r3 r4 r2' htake hcs hg hfl hnews
  have hi1 : (0 : Int) ≤ (i : Int) := by omega
  have hi2 : (i : Int) + 1 ≤ (n : Int) := by omega
  have hi3 : (0 : Int) ≤ (i : Int) + 1 := by omega
  have hic : i ≤ cap := by omega
  have hjc : i + 1 ≤ cap := by omega
  have hne : ¬ (i : Int) = (i : Int) + 1 := by omega
  go_enter Tryd.func52, Tryd.ntmps52
  go_wp2_with fail
  refine wp_region_held_drew (S := fun W => True) (by kernel_rfl) (trivial) (fun hHeld => ?_)
  refine tk 0 q9d5_52_5_0 (some 20) (v := ?v1) rfl rfl (by kernel_rfl) hHeld (by rfl) (fun _ _ _ x => x) (fun w h => ?y1) ?_; (case y1 => (try dsimp only at h); go_simp; try (with_reducible rfl)); try simp only [Act.put, sa, s0, s1]
  refine tk 1 q9d5_52_5_1 (some 21) (v := ?v2) rfl rfl (by kernel_rfl) hHeld (by rfl) (fun _ _ _ x => x) (fun w h => ?y2) ?_; (case y2 => (try dsimp only at h); go_simp; try (with_reducible rfl)); try simp only [Act.put, sa, s0, s1]
  refine tk 2 q9d5_52_5_2 (some 22) (v := ?v3) rfl rfl (by kernel_rfl) hHeld (by rfl) (fun _ _ _ x => x) (fun w h => ?y3) ?_; (case y3 => (try dsimp only at h); go_simp; try (with_reducible rfl)); try simp only [Act.put, sa, s0, s1]
  refine tk 3 q9d5_52_5_3 (some 23) (v := ?v4) rfl rfl (by kernel_rfl) hHeld (by rfl) (fun _ _ _ x => x) (fun w h => ?y4) ?_; (case y4 => (try dsimp only at h); go_simp; try (with_reducible rfl)); try simp only [Act.put, sa, s0, s1]
  refine tk 4 q9d5_52_5_4 (some 24) (v := ?v5) rfl rfl (by kernel_rfl) hHeld (by rfl) (fun _ _ _ x => x) (fun w h => ?y5) ?_; (case y5 => (try dsimp only at h); go_simp; try (with_reducible rfl)); try simp only [Act.put, sa, s0, s1]
  refine tk 5 q9d5_52_5_5 (some 25) (v := ?v6) rfl rfl (by kernel_rfl) hHeld (by rfl) (fun _ _ _ x => x) (fun w h => ?y6) ?_; (case y6 => (try dsimp only at h); go_simp; try (with_reducible rfl)); try simp only [Act.put, sa, s0, s1]
  refine wpAnyH_ready (rs := [6]) (by kernel_rfl) (by simp) ?_
  refine AllReadyH.cons (o := q9d5_52_5_6) rfl (fun K hK => ?_) AllReadyH.nil
  refine step_append_fit (w := w.drew) rfl _ _ 62 62 rfl 68 iG 4 Tryd.underlying62 hiG hzG1 g 0 i cap rfl (.slice (some A) (n - (i + 1)) (cap - (i + 1))) (by simp [Act.eval, Act.put, hA]) (n - (i + 1)) news HSRC.out (by omega) HCS.out HFZ.out ?_
  rw [← hW1h.out]
  refine hK.out _ _ (trivial) (fun hHeld => ?_)
  clear hK K
  try simp only [Act.put, sa, s0, s1]
  refine tk 7 q9d5_52_5_7 (some 0) (v := ?v7) rfl rfl (by kernel_rfl) hHeld (by rfl) (fun _ _ _ x => x) (fun w h => ?y7) ?_; (case y7 => (try dsimp only at h); go_simp; try (with_reducible rfl)); try simp only [Act.put, sa, s0, s1]
  refine wpAnyH_done (by kernel_rfl) ?_ _
  have e0 : i + (n - (i + 1)) = n - 1 := by omega
  rw [e0]
  obtain ⟨p, hp⟩ : ∃ p, p = n - 1 := ⟨_, rfl⟩
  rw [← hp] at hcl HFIN ⊢
  have hp1 : (p : Int) ≤ (n : Int) := by omega
  have hp2 : (0 : Int) ≤ (p : Int) := by omega
  have hp3 : n - p = 1 := by omega
  have hp4 : ¬ cap = p := by omega
  have hp5 : (n : Int) ≤ (cap : Int) := by omega
  have hp6 : (0 : Int) ≤ (n : Int) := by omega
  have HPE := Hid.mk hp
  clear hp e0
  go_wp2_with (simp only [hcl])
  go_ret
  rw [← HPE.out]
  exact ⟨rfl, HFIN.out, HT2.out⟩

end Go.Proofs.YtedjmmaihpfndaaDoor
