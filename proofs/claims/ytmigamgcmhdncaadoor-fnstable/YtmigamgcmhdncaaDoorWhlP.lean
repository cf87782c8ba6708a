/-
  All groups together are what is whole, plainly.
-/
import Derived.Test.YtmigamgcmhdncaaDoorGrpI
namespace Go.Proofs.YtmigamgcmhdncaaDoor
open Go.RowKit
set_option linter.unusedVariables false
set_option linter.unusedSimpArgs false
set_option maxRecDepth 10000

theorem pickT_mem {P : Nat → Bool} {l : List MItem} {d : MDot} : ∀ {k : Nat}, k ≤ l.length → (d ∈ pickT P l k ↔ ∃ j, j < k ∧ P j = true ∧ ∃ h : j < l.length, l[j].fD = d)
  | 0, _ => by simp [pickT]
  | k + 1, hk => by
    have ih := pickT_mem (P := P) (l := l) (d := d) (k := k) (by omega)
    rcases h : P k with _ | _
    · rw [pickT_no h, ih]
      constructor
      · rintro ⟨j, h1, h2⟩; exact ⟨j, by omega, h2⟩
      · rintro ⟨j, h1, h2, h3⟩
        have : j ≠ k := fun e => by subst e; rw [h] at h2; cases h2
        exact ⟨j, by omega, h2, h3⟩
    · rw [pickT_yes (by omega) h, List.mem_append, ih, List.mem_singleton]
      constructor
      · rintro (⟨j, h1, h2⟩ | rfl)
        · exact ⟨j, by omega, h2⟩
        · exact ⟨k, by omega, h, by omega, rfl⟩
      · rintro ⟨j, h1, h2, h3, h4⟩
        by_cases e : j = k
        · subst e; exact .inr h4.symm
        · exact .inl ⟨j, by omega, h2, h3, h4⟩
theorem pickT_up {P : Nat → Bool} {l : List MItem} (hg : graphP ⟨l⟩ = true) : ∀ {k : Nat}, k ≤ l.length → (pickT P l k).Pairwise (fun x y => dotLt x y = true)
  | 0, _ => by simp [pickT]
  | k + 1, hk => by
    have ih := pickT_up (P := P) hg (k := k) (by omega)
    rcases h : P k with _ | _
    · rw [pickT_no h]; exact ih
    · rw [pickT_yes (by omega) h, List.pairwise_append]
      refine ⟨ih, by simp, fun a ha b hb => ?_⟩
      rw [List.mem_singleton] at hb
      subst hb
      obtain ⟨j, h1, _, h3, rfl⟩ := (pickT_mem (by omega)).1 ha
      exact graph_up hg j k h3 (by omega) h1
theorem dot_at {l : List MItem} (hg : graphP ⟨l⟩ = true) {i j : Nat} (hi : i < l.length) (hj : j < l.length) (h : l[i].fD = l[j].fD) : i = j :=
  graph_uniq hg hi hj (d := l[j].fD) (by unfold sameD; rw [h]; simp) (by unfold sameD; simp)
/-- The dots of the groups, one group behind the other. -/
def catG (l : List MItem) (gs : List MGrp) : List MDot := (gs.map (fun g => pickT g.mem.has l l.length)).flatten
theorem catG_take {l : List MItem} {gs : List MGrp} {k : Nat} (h : k < gs.length) : catG l (gs.take (k + 1)) = catG l (gs.take k) ++ pickT gs[k].mem.has l l.length := by
  unfold catG
  rw [List.take_succ_eq_append_getElem h, List.map_append, List.flatten_append]
  simp
theorem catG_len {l : List MItem} (hl : l.length ≤ 100) : ∀ gs : List MGrp, (catG l gs).length ≤ gs.length * 100
  | [] => by simp [catG]
  | g :: r => by
    have ih := catG_len hl r
    have h1 := pickT_len g.mem.has l l.length
    have e : catG l (g :: r) = pickT g.mem.has l l.length ++ catG l r := by simp [catG]
    rw [e, List.length_append, List.length_cons]
    omega
theorem GroupsOk.grp {l : List MItem} {n : Nat} {ps : List Nat} {gs : List MGrp} (h : GroupsOk l n ps gs) {i : Nat} (hi : i < gs.length) : ∃ hp : i < ps.length, lead l ps[i] ∧ ps[i] < n ∧ GrpOk l ps[i] gs[i] := by
  have hp : i < ps.length := by rw [← h.len]; exact hi
  have := (h.who ps[i]).1 (List.getElem_mem hp)
  exact ⟨hp, this.2, this.1, h.each i hp hi⟩
theorem GroupsOk.count {l : List MItem} {n : Nat} {ps : List Nat} {gs : List MGrp} (h : GroupsOk l n ps gs) : gs.length ≤ n := by
  rw [h.len]; exact asc_len h.asc (fun p hp => ((h.who p).1 hp).1)
theorem nodup_of_up {l : List MDot} (h : l.Pairwise (fun x y => dotLt x y = true)) : l.Nodup := h.imp (fun {a b} h e => by subst e; exact dotLt_asym h h)
/-- All groups together are what is whole. -/
theorem GroupsOk.perm {l : List MItem} (hg : graphP ⟨l⟩ = true) (hl : l.length ≤ 100) {ps : List Nat} {gs : List MGrp} (h : GroupsOk l l.length ps gs) {P : Nat → Bool} (hP : ∀ j, j < l.length → (P j = true ↔ wholeAt l j)) : (catG l gs).Perm (pickT P l l.length) := by
  rw [List.perm_ext_iff_of_nodup]
  · intro d
    rw [pickT_mem (Nat.le_refl _)]
    unfold catG
    rw [List.mem_flatten]
    constructor
    · rintro ⟨L, hL, hd⟩
      obtain ⟨g, hgm, rfl⟩ := List.mem_map.1 hL
      obtain ⟨i, hi, rfl⟩ := List.mem_iff_getElem.1 hgm
      obtain ⟨hp, hle, hpn, hgo⟩ := h.grp hi
      obtain ⟨j, hj, hm, hjl, rfl⟩ := (pickT_mem (Nat.le_refl _)).1 hd
      exact ⟨j, hj, (hP j hj).2 (((hgo.mem j (by omega)).1 hm).whole hle.1), hjl, rfl⟩
    · rintro ⟨j, hj, hpj, hjl, rfl⟩
      obtain ⟨p, hpj2, hlp, hr⟩ := lead_of j ((hP j hj).1 hpj)
      obtain ⟨i, hi, rfl⟩ := List.mem_iff_getElem.1 ((h.who p).2 ⟨by omega, hlp⟩)
      have hi2 : i < gs.length := by rw [h.len]; exact hi
      exact ⟨_, List.mem_map.2 ⟨gs[i], List.getElem_mem hi2, rfl⟩, (pickT_mem (Nat.le_refl _)).2 ⟨j, hj, ((h.each i hi hi2).mem j (by omega)).2 hr, hjl, rfl⟩⟩
  · unfold catG List.Nodup
    rw [List.pairwise_flatten]
    refine ⟨fun L hL => ?_, ?_⟩
    · obtain ⟨g, _, rfl⟩ := List.mem_map.1 hL
      exact nodup_of_up (pickT_up hg (Nat.le_refl _))
    · rw [List.pairwise_iff_getElem]
      intro i j hi hj hij x hx y hy e
      subst e
      simp only [List.length_map] at hi hj
      rw [List.getElem_map] at hx hy
      obtain ⟨a, ha, hma, hal, hxa⟩ := (pickT_mem (Nat.le_refl _)).1 hx
      obtain ⟨b, hb, hmb, hbl, hxb⟩ := (pickT_mem (Nat.le_refl _)).1 hy
      have hab : a = b := dot_at hg hal hbl (hxa.trans hxb.symm)
      subst hab
      obtain ⟨hp1, hl1, _, hg1⟩ := h.grp hi
      obtain ⟨hp2, hl2, _, hg2⟩ := h.grp hj
      have hr := ((hg1.mem a (by omega)).1 hma).trans ((hg2.mem a (by omega)).1 hmb).symm
      have e := hl1.one hl2 hr
      have := (List.pairwise_iff_getElem.1 h.asc) i j hp1 hp2 hij
      omega
  · exact nodup_of_up (pickT_up hg (Nat.le_refl _))

theorem whole_set (l : List MItem) : ∃ P : Nat → Bool, ∀ j, P j = true ↔ wholeAt l j := ⟨fun j => @decide _ (Classical.propDecidable (wholeAt l j)), fun j => by simp⟩
/-- Sorted, they are what Whole answers. -/
theorem whole_of {m : MGraph} {gs : List MGrp} (h : GroupsL m gs) : ∃ L, WholeL m L ∧ (catG m.fItems gs).Perm L ∧ L.Pairwise (fun x y => dotLt x y = true) ∧ (catG m.fItems gs).length ≤ 10000 := by
  rcases h with ⟨h1, rfl⟩ | ⟨h1, ps, h2⟩
  · exact ⟨[], .inl ⟨h1, rfl⟩, by simp [catG], List.Pairwise.nil, by simp [catG]⟩
  · have hg : graphP ⟨m.fItems⟩ = true := h1
    have hl : m.fItems.length ≤ 100 := by
      have h' : (decide (m.fItems.length ≤ 100) && upOk itemP itemLt m.fItems) = true := h1
      rw [Bool.and_eq_true] at h'
      exact of_decide_eq_true h'.1
    obtain ⟨P, hP⟩ := whole_set m.fItems
    have h3 := catG_len hl gs
    have h4 := h2.count
    refine ⟨pickT P m.fItems m.fItems.length, .inr ⟨h1, P, fun j _ => hP j, rfl⟩, h2.perm hg hl (fun j _ => hP j), pickT_up hg (Nat.le_refl _), by omega⟩
theorem groups_count {m : MGraph} {gs : List MGrp} (h : GroupsL m gs) : gs.length ≤ 100 ∧ (0 < gs.length → m.fItems.length ≤ 100) := by
  rcases h with ⟨h1, rfl⟩ | ⟨h1, ps, h2⟩
  · simp
  · have hl : m.fItems.length ≤ 100 := by
      have h' : (decide (m.fItems.length ≤ 100) && upOk itemP itemLt m.fItems) = true := h1
      rw [Bool.and_eq_true] at h'
      exact of_decide_eq_true h'.1
    have := h2.count
    exact ⟨by omega, fun _ => hl⟩

end Go.Proofs.YtmigamgcmhdncaaDoor
