/-
  One round through a queue, dep by dep, plainly.
-/
import Derived.Test.YtmigamgcmhdncaaDoorRchM
namespace Go.Proofs.YtmigamgcmhdncaaDoor
open Go.RowKit
set_option linter.unusedVariables false
set_option linter.unusedSimpArgs false

theorem graph_uniq {l : List MItem} (h : graphP ⟨l⟩ = true) {i j : Nat} (hi : i < l.length) (hj : j < l.length) {d : MDot} (h1 : sameD l[i].fD d = true) (h2 : sameD l[j].fD d = true) : i = j := by
  have e1 := sameD_eq h1
  have e2 := sameD_eq h2
  rcases Nat.lt_trichotomy i j with g | g | g
  · have := dotLt_iff.1 (graph_up h i j hi hj g); omega
  · exact g
  · have := dotLt_iff.1 (graph_up h j i hj hi g); omega

/-- In the midst of the deps of the k-th of the queue: c of them are through. -/
structure Met2 (l : List MItem) (i : Nat) (q : List Nat) (k : Nat) (ds : List MDot) (c : Nat) (met : Nat → Bool) (whole : Bool) : Prop where
  head : q.head? = some i
  lt : ∀ j, j ∈ q → j < l.length
  inq : ∀ j, met j = true ↔ j ∈ q.drop 1
  got : ∀ j, met j = true → Reach l i j
  nodup : (q.drop 1).Nodup
  kl : k < q.length
  did : ∀ j, j ∈ q.take k → ∀ m, stepTo l j m → met m = true
  now : ∃ (hj : q[k] < l.length), l[q[k]].fDeps = ds
  did2 : ∀ d, d ∈ ds.take c → ∀ m, (hm : m < l.length) → sameD l[m].fD d = true → met m = true
  ok : whole = true ↔ (∀ j, j ∈ q.take k → ¬ lacks l j) ∧ ∀ d, d ∈ ds.take c → hasI l d = true

theorem Met.enter {l : List MItem} {i : Nat} {q : List Nat} {k : Nat} {met : Nat → Bool} {whole : Bool} (h : Met l i q k met whole) (hk : k < q.length) {ds : List MDot} (hj : q[k] < l.length) (hd : l[q[k]].fDeps = ds) : Met2 l i q k ds 0 met whole :=
  ⟨h.head, h.lt, h.inq, h.got, h.nodup, hk, h.did, ⟨hj, hd⟩, fun d hd => by simp at hd, by rw [h.ok]; simp⟩

theorem mem_take_succ {α : Type} {l : List α} {c : Nat} (hc : c < l.length) {x : α} : x ∈ l.take (c + 1) ↔ x ∈ l.take c ∨ x = l[c] := by
  rw [List.take_succ_eq_append_getElem hc, List.mem_append, List.mem_singleton]
theorem reach_now {l : List MItem} {i : Nat} {q : List Nat} {k : Nat} {ds : List MDot} {c : Nat} {met : Nat → Bool} {whole : Bool} (h : Met2 l i q k ds c met whole) : q[k]'h.kl = i ∨ Reach l i (q[k]'h.kl) := by
  have hm : q[k]'h.kl ∈ q := List.getElem_mem h.kl
  rcases (mem_queue h.head).1 hm with g | g
  · exact .inl g
  · exact .inr (h.got _ ((h.inq _).2 g))

theorem Met2.miss {l : List MItem} {i : Nat} {q : List Nat} {k : Nat} {ds : List MDot} {c : Nat} {met : Nat → Bool} {whole : Bool} (h : Met2 l i q k ds c met whole) (hc : c < ds.length) (hm : ∀ j, (hj : j < l.length) → sameD l[j].fD ds[c] = false) : Met2 l i q k ds (c + 1) met false :=
  ⟨h.head, h.lt, h.inq, h.got, h.nodup, h.kl, h.did, h.now, (fun d hd m hml hs => by
    rcases (mem_take_succ hc).1 hd with g | g
    · exact h.did2 d g m hml hs
    · subst g; rw [hm m hml] at hs; cases hs), (by
    constructor
    · intro g; cases g
    · intro g
      have h1 := g.2 ds[c] ((mem_take_succ hc).2 (.inr rfl))
      rw [hasI_no hm] at h1
      cases h1)⟩

theorem Met2.old {l : List MItem} {i : Nat} {q : List Nat} {k : Nat} {ds : List MDot} {c : Nat} {met : Nat → Bool} {whole : Bool} (hg : graphP ⟨l⟩ = true) (h : Met2 l i q k ds c met whole) (hc : c < ds.length) {t : Nat} (ht : t < l.length) (hs : sameD l[t].fD ds[c] = true) (hm : met t = true) : Met2 l i q k ds (c + 1) met whole :=
  ⟨h.head, h.lt, h.inq, h.got, h.nodup, h.kl, h.did, h.now, (fun d hd m hml hsm => by
    rcases (mem_take_succ hc).1 hd with g | g
    · exact h.did2 d g m hml hsm
    · subst g; rw [graph_uniq hg hml ht hsm hs]; exact hm), by
    rw [h.ok]
    refine and_congr_right (fun _ => ⟨fun g d hd => ?_, fun g d hd => g d ((mem_take_succ hc).2 (.inl hd))⟩)
    rcases (mem_take_succ hc).1 hd with g1 | g1
    · exact g d g1
    · subst g1; exact hasI_yes ht hs⟩

theorem Met2.new {l : List MItem} {i : Nat} {q : List Nat} {k : Nat} {ds : List MDot} {c : Nat} {met met' : Nat → Bool} {whole : Bool} (hg : graphP ⟨l⟩ = true) (h : Met2 l i q k ds c met whole) (hc : c < ds.length) {t : Nat} (ht : t < l.length) (hs : sameD l[t].fD ds[c] = true) (hm : met t = false)
    (hm' : ∀ j, met' j = true ↔ met j = true ∨ j = t) : Met2 l i (q ++ [t]) k ds (c + 1) met' whole := by
  have hkl := h.kl
  have hlen : 1 ≤ q.length := by omega
  have hdr : (q ++ [t]).drop 1 = q.drop 1 ++ [t] := List.drop_append_of_le_length hlen
  have htk : (q ++ [t]).take k = q.take k := List.take_append_of_le_length (by omega)
  have hgk : (q ++ [t])[k]'(by simp; omega) = q[k] := List.getElem_append_left hkl
  obtain ⟨hj, hds⟩ := h.now
  have hst : stepTo l (q[k]) t := ⟨hj, ht, ds[c], by rw [hds]; exact List.getElem_mem hc, hs⟩
  have hrt : Reach l i t := by
    rcases reach_now h with g | g
    · rw [g] at hst; exact Reach.base hst
    · exact g.step hst
  refine ⟨?_, ?_, ?_, ?_, ?_, by simp; omega, ?_, ?_, ?_, ?_⟩
  · cases q with
    | nil => simp at hlen
    | cons a r => simpa using h.head
  · intro j hj'
    rcases List.mem_append.1 hj' with g | g
    · exact h.lt j g
    · simp at g; subst g; exact ht
  · intro j
    rw [hm', hdr, List.mem_append, h.inq]
    simp
  · intro j hj'
    rcases (hm' j).1 hj' with g | g
    · exact h.got j g
    · subst g; exact hrt
  · rw [hdr]
    refine List.nodup_append.2 ⟨h.nodup, by simp, fun a ha b hb hab => ?_⟩
    simp at hb
    subst hab
    subst hb
    rw [(h.inq a).2 ha] at hm
    cases hm
  · rw [htk]; exact fun j hj' m hs' => (hm' m).2 (.inl (h.did j hj' m hs'))
  · refine ⟨by rw [hgk]; exact hj, ?_⟩
    simp only [hgk]
    exact hds
  · intro d hd m hml hsm
    rcases (mem_take_succ hc).1 hd with g | g
    · exact (hm' m).2 (.inl (h.did2 d g m hml hsm))
    · subst g; exact (hm' m).2 (.inr (graph_uniq hg hml ht hsm hs))
  · rw [h.ok, htk]
    refine and_congr_right (fun _ => ⟨fun g d hd => ?_, fun g d hd => g d ((mem_take_succ hc).2 (.inl hd))⟩)
    rcases (mem_take_succ hc).1 hd with g1 | g1
    · exact g d g1
    · subst g1; exact hasI_yes ht hs

theorem Met2.leave {l : List MItem} {i : Nat} {q : List Nat} {k : Nat} {ds : List MDot} {c : Nat} {met : Nat → Bool} {whole : Bool} (h : Met2 l i q k ds c met whole) (hc : ds.length ≤ c) : Met l i q (k + 1) met whole := by
  have htc : ds.take c = ds := List.take_of_length_le hc
  have hd2 := h.did2
  have hok := h.ok
  rw [htc] at hd2 hok
  obtain ⟨hj, hds⟩ := h.now
  refine ⟨h.head, h.lt, h.inq, h.got, h.nodup, fun j hj' m hs => ?_, hok.trans ⟨fun g j hj' => ?_, fun g => ⟨fun j hj' => g j ((mem_take_succ h.kl).2 (.inl hj')), fun d hd => ?_⟩⟩⟩
  · rcases (mem_take_succ h.kl).1 hj' with g | g
    · exact h.did j g m hs
    · subst g
      obtain ⟨_, hml, d, hd, hsm⟩ := hs
      rw [hds] at hd
      exact hd2 d hd m hml hsm
  · rcases (mem_take_succ h.kl).1 hj' with g1 | g1
    · exact g.1 j g1
    · subst g1
      rintro ⟨_, d, hd, hn⟩
      rw [hds] at hd
      rw [g.2 d hd] at hn
      cases hn
  · have h1 := g (q[k]'h.kl) ((mem_take_succ h.kl).2 (.inr rfl))
    rcases hh : hasI l d with _ | _
    · exact absurd ⟨hj, d, by rw [hds]; exact hd, hh⟩ h1
    · rfl

theorem Met.start {l : List MItem} {i : Nat} (hi : i < l.length) : Met l i [i] 0 (fun _ => false) true :=
  ⟨rfl, (fun j hj => by simp at hj; subst hj; exact hi), (fun j => by simp), (fun j hj => by cases hj), (by simp), (fun j hj => by simp at hj), (by simp)⟩
theorem Met.len {l : List MItem} {i : Nat} {q : List Nat} {k : Nat} {met : Nat → Bool} {whole : Bool} (h : Met l i q k met whole) : q.length ≤ l.length + 1 := by
  have h1 : (q.drop 1).length ≤ (List.range l.length).length := (h.nodup).length_le_of_subset (fun x hx => List.mem_range.2 (h.lt x (List.mem_of_mem_drop hx)))
  simp at h1
  omega

theorem Met2.len {l : List MItem} {i : Nat} {q : List Nat} {k : Nat} {ds : List MDot} {c : Nat} {met : Nat → Bool} {whole : Bool} (h : Met2 l i q k ds c met whole) : q.length ≤ l.length + 1 := by
  have h1 : (q.drop 1).length ≤ (List.range l.length).length := (h.nodup).length_le_of_subset (fun x hx => List.mem_range.2 (h.lt x (List.mem_of_mem_drop hx)))
  simp at h1
  omega
theorem graph_item {l : List MItem} (h : graphP ⟨l⟩ = true) (i : Nat) (hi : i < l.length) : itemP l[i] = true := by
  have h' : (decide (l.length ≤ 100) && upOk itemP itemLt l) = true := h
  rw [Bool.and_eq_true] at h'
  have hs := upOk_at h'.2 hi
  rcases hh : itemP l[i] with _ | _
  · rw [stepOk_bad hi hh] at hs; cases hs
  · rfl
theorem graph_deps {l : List MItem} (h : graphP ⟨l⟩ = true) (i : Nat) (hi : i < l.length) : l[i].fDeps.length ≤ 60 := by
  have h1 : (dotOkP l[i].fD && (decide (l[i].fDeps.length ≤ 60) && upOk dotOkP dotLt l[i].fDeps) && !hasD l[i].fDeps l[i].fD) = true := graph_item h i hi
  rw [Bool.and_eq_true, Bool.and_eq_true, Bool.and_eq_true] at h1
  exact of_decide_eq_true h1.1.2.1

end Go.Proofs.YtmigamgcmhdncaaDoor
