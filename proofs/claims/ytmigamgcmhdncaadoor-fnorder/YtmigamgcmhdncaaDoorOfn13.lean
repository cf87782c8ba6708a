/-
  Part 14 of the texts that the proof leans on.
-/
import Derived.Test.YtmigamgcmhdncaaDoorOfn6
set_option linter.unusedVariables false
set_option linter.unusedSimpArgs false
set_option maxRecDepth 10000

namespace Go.Proofs.YtmigamgcmhdncaaDoor
open Go.RowKit

/-- From place i one step leads to place k. -/
def stepTo (l : List MItem) (i k : Nat) : Prop := ∃ (hi : i < l.length) (hk : k < l.length), ∃ d, d ∈ l[i].fDeps ∧ sameD l[k].fD d = true
/-- Place i names one that is not there. -/
def lacks (l : List MItem) (i : Nat) : Prop := ∃ hi : i < l.length, ∃ d, d ∈ l[i].fDeps ∧ hasI l d = false
/-- Place k is reached from i, over one step or more. -/
def Reach (l : List MItem) (i k : Nat) : Prop := ∀ P : Nat → Prop, (∀ j, stepTo l i j → P j) → (∀ j m, P j → stepTo l j m → P m) → P k
def wholeAt (l : List MItem) (i : Nat) : Prop := ¬ lacks l i ∧ ∀ k, Reach l i k → ¬ lacks l k

theorem Reach.base {l : List MItem} {i j : Nat} (h : stepTo l i j) : Reach l i j := fun P h1 h2 => h1 j h
theorem Reach.step {l : List MItem} {i j m : Nat} (h : Reach l i j) (hs : stepTo l j m) : Reach l i m := fun P h1 h2 => h2 j m (h P h1 h2) hs
theorem Reach.trans {l : List MItem} {i j m : Nat} (h : Reach l i j) (hs : Reach l j m) : Reach l i m := hs (fun x => Reach l i x) (fun x hx => h.step hx) (fun x y hx hy => hx.step hy)
theorem Reach.lt {l : List MItem} {i k : Nat} (h : Reach l i k) : k < l.length := h (fun k => k < l.length) (fun j ⟨_, hk, _⟩ => hk) (fun j m _ ⟨_, hk, _⟩ => hk)
theorem Reach.from {l : List MItem} {i k : Nat} (h : Reach l i k) : i < l.length := h (fun _ => i < l.length) (fun j ⟨hi, _⟩ => hi) (fun j m hj _ => hj)
theorem reach_of {l : List MItem} {i : Nat} {M : Nat → Prop} (h1 : ∀ j, stepTo l i j → M j) (h2 : ∀ j m, M j → stepTo l j m → M m) {k : Nat} (h : Reach l i k) : M k := h M h1 h2
theorem wholeAt.on {l : List MItem} {i k : Nat} (h : wholeAt l i) (hk : Reach l i k) : wholeAt l k := ⟨h.2 k hk, fun m hm => h.2 m (hk.trans hm)⟩

/-- What one round through a queue has met. -/
structure Met (l : List MItem) (i : Nat) (q : List Nat) (k : Nat) (met : Nat → Bool) (whole : Bool) : Prop where
  head : q.head? = some i
  lt : ∀ j, j ∈ q → j < l.length
  inq : ∀ j, met j = true ↔ j ∈ q.drop 1
  got : ∀ j, met j = true → Reach l i j
  nodup : (q.drop 1).Nodup
  did : ∀ j, j ∈ q.take k → ∀ m, stepTo l j m → met m = true
  ok : whole = true ↔ ∀ j, j ∈ q.take k → ¬ lacks l j

theorem mem_queue {q : List Nat} {i j : Nat} (h : q.head? = some i) : j ∈ q ↔ j = i ∨ j ∈ q.drop 1 := by
  cases q with
  | nil => cases h
  | cons a r =>
    simp only [List.head?_cons, Option.some.injEq] at h
    subst h
    simp
theorem Met.done {l : List MItem} {i : Nat} {q : List Nat} {k : Nat} {met : Nat → Bool} {whole : Bool} (h : Met l i q k met whole) (hk : q.length ≤ k) : (∀ j, met j = true ↔ Reach l i j) ∧ (whole = true ↔ wholeAt l i) := by
  have ht : q.take k = q := List.take_of_length_le hk
  have hm : ∀ j, j ∈ q ↔ j = i ∨ met j = true := fun j => by rw [mem_queue h.head, h.inq]
  have hd := h.did
  have hok := h.ok
  rw [ht] at hd hok
  have hR : ∀ j, met j = true ↔ Reach l i j := fun j => ⟨h.got j, fun hr => reach_of (M := fun j => met j = true) (fun j hj => hd i ((hm i).2 (.inl rfl)) j hj) (fun j m hj hs => hd j ((hm j).2 (.inr hj)) m hs) hr⟩
  refine ⟨hR, hok.trans ⟨fun g => ⟨g i ((hm i).2 (.inl rfl)), fun k hk => g k ((hm k).2 (.inr ((hR k).2 hk)))⟩, fun g j hj => ?_⟩⟩
  rcases (hm j).1 hj with rfl | hj
  · exact g.1
  · exact g.2 j ((hR j).1 hj)

/-- What a walk by the least place that was not walked yet has met; outside is the place z behind all. -/
structure Walk (l : List MItem) (i z : Nat) (met walked : Nat → Bool) (at_ : Nat) : Prop where
  here : at_ < l.length
  fresh : walked at_ = false
  root : at_ = i ∨ (walked i = true ∧ met at_ = true)
  did : ∀ j, j < l.length → walked j = true → (∀ m, stepTo l j m → met m = true) ∧ (lacks l j → met z = true)
  got : ∀ j, j < l.length → met j = true → Reach l i j
  out : met z = true → ¬ wholeAt l i
  top : ∀ j, ¬ j < l.length → walked j = false

/-- The sets behind one step of the walk. -/
theorem Walk.next {l : List MItem} {i z : Nat} {met walked met2 walked2 : Nat → Bool} {at_ : Nat} (h : Walk l i z met walked at_) (hz : l.length ≤ z)
    (h1 : ∀ j, j < l.length → (met2 j = true ↔ met j = true ∨ stepTo l at_ j)) (h2 : met2 z = true ↔ met z = true ∨ lacks l at_) (h3 : ∀ j, walked2 j = true ↔ walked j = true ∨ j = at_) :
    (∀ j, j < l.length → walked2 j = true → (∀ m, stepTo l j m → met2 m = true) ∧ (lacks l j → met2 z = true)) ∧ (∀ j, j < l.length → met2 j = true → Reach l i j) ∧ (met2 z = true → ¬ wholeAt l i) ∧ walked2 i = true ∧ ∀ j, ¬ j < l.length → walked2 j = false := by
  have hat : at_ = i ∨ Reach l i at_ := h.root.imp (fun g => g) (fun g => h.got at_ h.here g.2)
  refine ⟨fun j hj hw => ?_, fun j hj hm => ?_, fun hm hw => ?_, ?_, fun j hj => ?_⟩
  · rcases (h3 j).1 hw with g | rfl
    · have hd := h.did j hj g
      exact ⟨fun m hs => (h1 m (by obtain ⟨_, hk, _⟩ := hs; exact hk)).2 (.inl (hd.1 m hs)), fun hl => h2.2 (.inl (hd.2 hl))⟩
    · exact ⟨fun m hs => (h1 m (by obtain ⟨_, hk, _⟩ := hs; exact hk)).2 (.inr hs), fun hl => h2.2 (.inr hl)⟩
  · rcases (h1 j hj).1 hm with g | g
    · exact h.got j hj g
    · rcases hat with rfl | ha
      · exact Reach.base g
      · exact ha.step g
  · rcases h2.1 hm with g | g
    · exact h.out g hw
    · rcases hat with rfl | ha
      · exact hw.1 g
      · exact hw.2 _ ha g
  · rw [h3]
    rcases h.root with g | g
    · exact .inr g.symm
    · exact .inl g.1
  · rw [Bool.eq_false_iff]
    intro hc
    rcases (h3 j).1 hc with g | g
    · rw [h.top j hj] at g; cases g
    · subst g; exact hj h.here

/-- Where nothing is left to walk, all that is reached was met. -/
theorem walk_done {l : List MItem} {i z : Nat} {met walked : Nat → Bool} (hd : ∀ j, j < l.length → walked j = true → (∀ m, stepTo l j m → met m = true) ∧ (lacks l j → met z = true)) (hg : ∀ j, j < l.length → met j = true → Reach l i j) (ho : met z = true → ¬ wholeAt l i) (hi : i < l.length) (hw : walked i = true)
    (he : ∀ j, j < l.length → met j = true → walked j = true) : (∀ j, j < l.length → (met j = true ↔ Reach l i j)) ∧ (met z = true ↔ ¬ wholeAt l i) := by
  have hR : ∀ j, Reach l i j → met j = true := fun j hr => reach_of (M := fun j => met j = true) (fun j hs => (hd i hi hw).1 j hs) (fun j m hj hs => by
    obtain ⟨hjl, _⟩ := id hs
    exact (hd j hjl (he j hjl hj)).1 m hs) hr
  refine ⟨fun j hj => ⟨hg j hj, hR j⟩, ho, fun hn => ?_⟩
  apply Classical.byContradiction
  intro hm
  apply hn
  refine ⟨fun hl => hm ((hd i hi hw).2 hl), fun k hk hl => hm ((hd k hk.lt (he k hk.lt (hR k hk))).2 hl)⟩


theorem graph_uniq {l : List MItem} (h : graphP ⟨l⟩ = true) {i j : Nat} (hi : i < l.length) (hj : j < l.length) {d : MDot} (h1 : sameD l[i].fD d = true) (h2 : sameD l[j].fD d = true) : i = j := by
  have e1 := sameD_eq h1
  have e2 := sameD_eq h2
  rcases Nat.lt_trichotomy i j with g | g | g
  · have := dotLt_iff.1 (graph_up h i j hi hj g); omega
  · exact g
  · have := dotLt_iff.1 (graph_up h j i hj hi g); omega

/-- In the midst of the deps of the k-th of the queue: c of them are through. -/
structure Met2 (l : List MItem) (i : Nat) (q : List Nat) (k : Nat) (ds : List MDot) (c : Nat) (met : Nat → Bool) (whole : Bool) : Prop where
  head : q.head? = some i
  lt : ∀ j, j ∈ q → j < l.length
  inq : ∀ j, met j = true ↔ j ∈ q.drop 1
  got : ∀ j, met j = true → Reach l i j
  nodup : (q.drop 1).Nodup
  kl : k < q.length
  did : ∀ j, j ∈ q.take k → ∀ m, stepTo l j m → met m = true
  now : ∃ (hj : q[k] < l.length), l[q[k]].fDeps = ds
  did2 : ∀ d, d ∈ ds.take c → ∀ m, (hm : m < l.length) → sameD l[m].fD d = true → met m = true
  ok : whole = true ↔ (∀ j, j ∈ q.take k → ¬ lacks l j) ∧ ∀ d, d ∈ ds.take c → hasI l d = true

theorem Met.enter {l : List MItem} {i : Nat} {q : List Nat} {k : Nat} {met : Nat → Bool} {whole : Bool} (h : Met l i q k met whole) (hk : k < q.length) {ds : List MDot} (hj : q[k] < l.length) (hd : l[q[k]].fDeps = ds) : Met2 l i q k ds 0 met whole :=
  ⟨h.head, h.lt, h.inq, h.got, h.nodup, hk, h.did, ⟨hj, hd⟩, fun d hd => by simp at hd, by rw [h.ok]; simp⟩

theorem mem_take_succ {α : Type} {l : List α} {c : Nat} (hc : c < l.length) {x : α} : x ∈ l.take (c + 1) ↔ x ∈ l.take c ∨ x = l[c] := by
  rw [List.take_succ_eq_append_getElem hc, List.mem_append, List.mem_singleton]
theorem reach_now {l : List MItem} {i : Nat} {q : List Nat} {k : Nat} {ds : List MDot} {c : Nat} {met : Nat → Bool} {whole : Bool} (h : Met2 l i q k ds c met whole) : q[k]'h.kl = i ∨ Reach l i (q[k]'h.kl) := by
  have hm : q[k]'h.kl ∈ q := List.getElem_mem h.kl
  rcases (mem_queue h.head).1 hm with g | g
  · exact .inl g
  · exact .inr (h.got _ ((h.inq _).2 g))

theorem Met2.miss {l : List MItem} {i : Nat} {q : List Nat} {k : Nat} {ds : List MDot} {c : Nat} {met : Nat → Bool} {whole : Bool} (h : Met2 l i q k ds c met whole) (hc : c < ds.length) (hm : ∀ j, (hj : j < l.length) → sameD l[j].fD ds[c] = false) : Met2 l i q k ds (c + 1) met false :=
  ⟨h.head, h.lt, h.inq, h.got, h.nodup, h.kl, h.did, h.now, (fun d hd m hml hs => by
    rcases (mem_take_succ hc).1 hd with g | g
    · exact h.did2 d g m hml hs
    · subst g; rw [hm m hml] at hs; cases hs), (by
    constructor
    · intro g; cases g
    · intro g
      have h1 := g.2 ds[c] ((mem_take_succ hc).2 (.inr rfl))
      rw [hasI_no hm] at h1
      cases h1)⟩

theorem Met2.old {l : List MItem} {i : Nat} {q : List Nat} {k : Nat} {ds : List MDot} {c : Nat} {met : Nat → Bool} {whole : Bool} (hg : graphP ⟨l⟩ = true) (h : Met2 l i q k ds c met whole) (hc : c < ds.length) {t : Nat} (ht : t < l.length) (hs : sameD l[t].fD ds[c] = true) (hm : met t = true) : Met2 l i q k ds (c + 1) met whole :=
  ⟨h.head, h.lt, h.inq, h.got, h.nodup, h.kl, h.did, h.now, (fun d hd m hml hsm => by
    rcases (mem_take_succ hc).1 hd with g | g
    · exact h.did2 d g m hml hsm
    · subst g; rw [graph_uniq hg hml ht hsm hs]; exact hm), by
    rw [h.ok]
    refine and_congr_right (fun _ => ⟨fun g d hd => ?_, fun g d hd => g d ((mem_take_succ hc).2 (.inl hd))⟩)
    rcases (mem_take_succ hc).1 hd with g1 | g1
    · exact g d g1
    · subst g1; exact hasI_yes ht hs⟩

theorem Met2.new {l : List MItem} {i : Nat} {q : List Nat} {k : Nat} {ds : List MDot} {c : Nat} {met met' : Nat → Bool} {whole : Bool} (hg : graphP ⟨l⟩ = true) (h : Met2 l i q k ds c met whole) (hc : c < ds.length) {t : Nat} (ht : t < l.length) (hs : sameD l[t].fD ds[c] = true) (hm : met t = false)
    (hm' : ∀ j, met' j = true ↔ met j = true ∨ j = t) : Met2 l i (q ++ [t]) k ds (c + 1) met' whole := by
  have hkl := h.kl
  have hlen : 1 ≤ q.length := by omega
  have hdr : (q ++ [t]).drop 1 = q.drop 1 ++ [t] := List.drop_append_of_le_length hlen
  have htk : (q ++ [t]).take k = q.take k := List.take_append_of_le_length (by omega)
  have hgk : (q ++ [t])[k]'(by simp; omega) = q[k] := List.getElem_append_left hkl
  obtain ⟨hj, hds⟩ := h.now
  have hst : stepTo l (q[k]) t := ⟨hj, ht, ds[c], by rw [hds]; exact List.getElem_mem hc, hs⟩
  have hrt : Reach l i t := by
    rcases reach_now h with g | g
    · rw [g] at hst; exact Reach.base hst
    · exact g.step hst
  refine ⟨?_, ?_, ?_, ?_, ?_, by simp; omega, ?_, ?_, ?_, ?_⟩
  · cases q with
    | nil => simp at hlen
    | cons a r => simpa using h.head
  · intro j hj'
    rcases List.mem_append.1 hj' with g | g
    · exact h.lt j g
    · simp at g; subst g; exact ht
  · intro j
    rw [hm', hdr, List.mem_append, h.inq]
    simp
  · intro j hj'
    rcases (hm' j).1 hj' with g | g
    · exact h.got j g
    · subst g; exact hrt
  · rw [hdr]
    refine List.nodup_append.2 ⟨h.nodup, by simp, fun a ha b hb hab => ?_⟩
    simp at hb
    subst hab
    subst hb
    rw [(h.inq a).2 ha] at hm
    cases hm
  · rw [htk]; exact fun j hj' m hs' => (hm' m).2 (.inl (h.did j hj' m hs'))
  · refine ⟨by rw [hgk]; exact hj, ?_⟩
    simp only [hgk]
    exact hds
  · intro d hd m hml hsm
    rcases (mem_take_succ hc).1 hd with g | g
    · exact (hm' m).2 (.inl (h.did2 d g m hml hsm))
    · subst g; exact (hm' m).2 (.inr (graph_uniq hg hml ht hsm hs))
  · rw [h.ok, htk]
    refine and_congr_right (fun _ => ⟨fun g d hd => ?_, fun g d hd => g d ((mem_take_succ hc).2 (.inl hd))⟩)
    rcases (mem_take_succ hc).1 hd with g1 | g1
    · exact g d g1
    · subst g1; exact hasI_yes ht hs

theorem Met2.leave {l : List MItem} {i : Nat} {q : List Nat} {k : Nat} {ds : List MDot} {c : Nat} {met : Nat → Bool} {whole : Bool} (h : Met2 l i q k ds c met whole) (hc : ds.length ≤ c) : Met l i q (k + 1) met whole := by
  have htc : ds.take c = ds := List.take_of_length_le hc
  have hd2 := h.did2
  have hok := h.ok
  rw [htc] at hd2 hok
  obtain ⟨hj, hds⟩ := h.now
  refine ⟨h.head, h.lt, h.inq, h.got, h.nodup, fun j hj' m hs => ?_, hok.trans ⟨fun g j hj' => ?_, fun g => ⟨fun j hj' => g j ((mem_take_succ h.kl).2 (.inl hj')), fun d hd => ?_⟩⟩⟩
  · rcases (mem_take_succ h.kl).1 hj' with g | g
    · exact h.did j g m hs
    · subst g
      obtain ⟨_, hml, d, hd, hsm⟩ := hs
      rw [hds] at hd
      exact hd2 d hd m hml hsm
  · rcases (mem_take_succ h.kl).1 hj' with g1 | g1
    · exact g.1 j g1
    · subst g1
      rintro ⟨_, d, hd, hn⟩
      rw [hds] at hd
      rw [g.2 d hd] at hn
      cases hn
  · have h1 := g (q[k]'h.kl) ((mem_take_succ h.kl).2 (.inr rfl))
    rcases hh : hasI l d with _ | _
    · exact absurd ⟨hj, d, by rw [hds]; exact hd, hh⟩ h1
    · rfl

theorem Met.start {l : List MItem} {i : Nat} (hi : i < l.length) : Met l i [i] 0 (fun _ => false) true :=
  ⟨rfl, (fun j hj => by simp at hj; subst hj; exact hi), (fun j => by simp), (fun j hj => by cases hj), (by simp), (fun j hj => by simp at hj), (by simp)⟩
theorem Met.len {l : List MItem} {i : Nat} {q : List Nat} {k : Nat} {met : Nat → Bool} {whole : Bool} (h : Met l i q k met whole) : q.length ≤ l.length + 1 := by
  have h1 : (q.drop 1).length ≤ (List.range l.length).length := (h.nodup).length_le_of_subset (fun x hx => List.mem_range.2 (h.lt x (List.mem_of_mem_drop hx)))
  simp at h1
  omega

theorem Met2.len {l : List MItem} {i : Nat} {q : List Nat} {k : Nat} {ds : List MDot} {c : Nat} {met : Nat → Bool} {whole : Bool} (h : Met2 l i q k ds c met whole) : q.length ≤ l.length + 1 := by
  have h1 : (q.drop 1).length ≤ (List.range l.length).length := (h.nodup).length_le_of_subset (fun x hx => List.mem_range.2 (h.lt x (List.mem_of_mem_drop hx)))
  simp at h1
  omega
theorem graph_item {l : List MItem} (h : graphP ⟨l⟩ = true) (i : Nat) (hi : i < l.length) : itemP l[i] = true := by
  have h' : (decide (l.length ≤ 100) && upOk itemP itemLt l) = true := h
  rw [Bool.and_eq_true] at h'
  have hs := upOk_at h'.2 hi
  rcases hh : itemP l[i] with _ | _
  · rw [stepOk_bad hi hh] at hs; cases hs
  · rfl
theorem graph_deps {l : List MItem} (h : graphP ⟨l⟩ = true) (i : Nat) (hi : i < l.length) : l[i].fDeps.length ≤ 60 := by
  have h1 : (dotOkP l[i].fD && (decide (l[i].fDeps.length ≤ 60) && upOk dotOkP dotLt l[i].fDeps) && !hasD l[i].fDeps l[i].fD) = true := graph_item h i hi
  rw [Bool.and_eq_true, Bool.and_eq_true, Bool.and_eq_true] at h1
  exact of_decide_eq_true h1.1.2.1

end Go.Proofs.YtmigamgcmhdncaaDoor
