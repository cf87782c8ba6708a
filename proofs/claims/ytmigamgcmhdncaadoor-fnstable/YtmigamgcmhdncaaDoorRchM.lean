/-
  What is reached in a graph, plainly.
-/
import Derived.Test.YtmigamgcmhdncaaDoorGraA
namespace Go.Proofs.YtmigamgcmhdncaaDoor
open Go.RowKit
set_option linter.unusedVariables false
set_option linter.unusedSimpArgs false

/-- From place i one step leads to place k. -/
def stepTo (l : List MItem) (i k : Nat) : Prop := ∃ (hi : i < l.length) (hk : k < l.length), ∃ d, d ∈ l[i].fDeps ∧ sameD l[k].fD d = true
/-- Place i names one that is not there. -/
def lacks (l : List MItem) (i : Nat) : Prop := ∃ hi : i < l.length, ∃ d, d ∈ l[i].fDeps ∧ hasI l d = false
/-- Place k is reached from i, over one step or more. -/
def Reach (l : List MItem) (i k : Nat) : Prop := ∀ P : Nat → Prop, (∀ j, stepTo l i j → P j) → (∀ j m, P j → stepTo l j m → P m) → P k
def wholeAt (l : List MItem) (i : Nat) : Prop := ¬ lacks l i ∧ ∀ k, Reach l i k → ¬ lacks l k

theorem Reach.base {l : List MItem} {i j : Nat} (h : stepTo l i j) : Reach l i j := fun P h1 h2 => h1 j h
theorem Reach.step {l : List MItem} {i j m : Nat} (h : Reach l i j) (hs : stepTo l j m) : Reach l i m := fun P h1 h2 => h2 j m (h P h1 h2) hs
theorem Reach.trans {l : List MItem} {i j m : Nat} (h : Reach l i j) (hs : Reach l j m) : Reach l i m := hs (fun x => Reach l i x) (fun x hx => h.step hx) (fun x y hx hy => hx.step hy)
theorem Reach.lt {l : List MItem} {i k : Nat} (h : Reach l i k) : k < l.length := h (fun k => k < l.length) (fun j ⟨_, hk, _⟩ => hk) (fun j m _ ⟨_, hk, _⟩ => hk)
theorem Reach.from {l : List MItem} {i k : Nat} (h : Reach l i k) : i < l.length := h (fun _ => i < l.length) (fun j ⟨hi, _⟩ => hi) (fun j m hj _ => hj)
theorem reach_of {l : List MItem} {i : Nat} {M : Nat → Prop} (h1 : ∀ j, stepTo l i j → M j) (h2 : ∀ j m, M j → stepTo l j m → M m) {k : Nat} (h : Reach l i k) : M k := h M h1 h2
theorem wholeAt.on {l : List MItem} {i k : Nat} (h : wholeAt l i) (hk : Reach l i k) : wholeAt l k := ⟨h.2 k hk, fun m hm => h.2 m (hk.trans hm)⟩

/-- What one round through a queue has met. -/
structure Met (l : List MItem) (i : Nat) (q : List Nat) (k : Nat) (met : Nat → Bool) (whole : Bool) : Prop where
  head : q.head? = some i
  lt : ∀ j, j ∈ q → j < l.length
  inq : ∀ j, met j = true ↔ j ∈ q.drop 1
  got : ∀ j, met j = true → Reach l i j
  nodup : (q.drop 1).Nodup
  did : ∀ j, j ∈ q.take k → ∀ m, stepTo l j m → met m = true
  ok : whole = true ↔ ∀ j, j ∈ q.take k → ¬ lacks l j

theorem mem_queue {q : List Nat} {i j : Nat} (h : q.head? = some i) : j ∈ q ↔ j = i ∨ j ∈ q.drop 1 := by
  cases q with
  | nil => cases h
  | cons a r =>
    simp only [List.head?_cons, Option.some.injEq] at h
    subst h
    simp
theorem Met.done {l : List MItem} {i : Nat} {q : List Nat} {k : Nat} {met : Nat → Bool} {whole : Bool} (h : Met l i q k met whole) (hk : q.length ≤ k) : (∀ j, met j = true ↔ Reach l i j) ∧ (whole = true ↔ wholeAt l i) := by
  have ht : q.take k = q := List.take_of_length_le hk
  have hm : ∀ j, j ∈ q ↔ j = i ∨ met j = true := fun j => by rw [mem_queue h.head, h.inq]
  have hd := h.did
  have hok := h.ok
  rw [ht] at hd hok
  have hR : ∀ j, met j = true ↔ Reach l i j := fun j => ⟨h.got j, fun hr => reach_of (M := fun j => met j = true) (fun j hj => hd i ((hm i).2 (.inl rfl)) j hj) (fun j m hj hs => hd j ((hm j).2 (.inr hj)) m hs) hr⟩
  refine ⟨hR, hok.trans ⟨fun g => ⟨g i ((hm i).2 (.inl rfl)), fun k hk => g k ((hm k).2 (.inr ((hR k).2 hk)))⟩, fun g j hj => ?_⟩⟩
  rcases (hm j).1 hj with rfl | hj
  · exact g.1
  · exact g.2 j ((hR j).1 hj)

/-- What a walk by the least place that was not walked yet has met; outside is the place z behind all. -/
structure Walk (l : List MItem) (i z : Nat) (met walked : Nat → Bool) (at_ : Nat) : Prop where
  here : at_ < l.length
  fresh : walked at_ = false
  root : at_ = i ∨ (walked i = true ∧ met at_ = true)
  did : ∀ j, j < l.length → walked j = true → (∀ m, stepTo l j m → met m = true) ∧ (lacks l j → met z = true)
  got : ∀ j, j < l.length → met j = true → Reach l i j
  out : met z = true → ¬ wholeAt l i
  top : ∀ j, ¬ j < l.length → walked j = false

/-- The sets behind one step of the walk. -/
theorem Walk.next {l : List MItem} {i z : Nat} {met walked met2 walked2 : Nat → Bool} {at_ : Nat} (h : Walk l i z met walked at_) (hz : l.length ≤ z)
    (h1 : ∀ j, j < l.length → (met2 j = true ↔ met j = true ∨ stepTo l at_ j)) (h2 : met2 z = true ↔ met z = true ∨ lacks l at_) (h3 : ∀ j, walked2 j = true ↔ walked j = true ∨ j = at_) :
    (∀ j, j < l.length → walked2 j = true → (∀ m, stepTo l j m → met2 m = true) ∧ (lacks l j → met2 z = true)) ∧ (∀ j, j < l.length → met2 j = true → Reach l i j) ∧ (met2 z = true → ¬ wholeAt l i) ∧ walked2 i = true ∧ ∀ j, ¬ j < l.length → walked2 j = false := by
  have hat : at_ = i ∨ Reach l i at_ := h.root.imp (fun g => g) (fun g => h.got at_ h.here g.2)
  refine ⟨fun j hj hw => ?_, fun j hj hm => ?_, fun hm hw => ?_, ?_, fun j hj => ?_⟩
  · rcases (h3 j).1 hw with g | rfl
    · have hd := h.did j hj g
      exact ⟨fun m hs => (h1 m (by obtain ⟨_, hk, _⟩ := hs; exact hk)).2 (.inl (hd.1 m hs)), fun hl => h2.2 (.inl (hd.2 hl))⟩
    · exact ⟨fun m hs => (h1 m (by obtain ⟨_, hk, _⟩ := hs; exact hk)).2 (.inr hs), fun hl => h2.2 (.inr hl)⟩
  · rcases (h1 j hj).1 hm with g | g
    · exact h.got j hj g
    · rcases hat with rfl | ha
      · exact Reach.base g
      · exact ha.step g
  · rcases h2.1 hm with g | g
    · exact h.out g hw
    · rcases hat with rfl | ha
      · exact hw.1 g
      · exact hw.2 _ ha g
  · rw [h3]
    rcases h.root with g | g
    · exact .inr g.symm
    · exact .inl g.1
  · rw [Bool.eq_false_iff]
    intro hc
    rcases (h3 j).1 hc with g | g
    · rw [h.top j hj] at g; cases g
    · subst g; exact hj h.here

/-- Where nothing is left to walk, all that is reached was met. -/
theorem walk_done {l : List MItem} {i z : Nat} {met walked : Nat → Bool} (hd : ∀ j, j < l.length → walked j = true → (∀ m, stepTo l j m → met m = true) ∧ (lacks l j → met z = true)) (hg : ∀ j, j < l.length → met j = true → Reach l i j) (ho : met z = true → ¬ wholeAt l i) (hi : i < l.length) (hw : walked i = true)
    (he : ∀ j, j < l.length → met j = true → walked j = true) : (∀ j, j < l.length → (met j = true ↔ Reach l i j)) ∧ (met z = true ↔ ¬ wholeAt l i) := by
  have hR : ∀ j, Reach l i j → met j = true := fun j hr => reach_of (M := fun j => met j = true) (fun j hs => (hd i hi hw).1 j hs) (fun j m hj hs => by
    obtain ⟨hjl, _⟩ := id hs
    exact (hd j hjl (he j hjl hj)).1 m hs) hr
  refine ⟨fun j hj => ⟨hg j hj, hR j⟩, ho, fun hn => ?_⟩
  apply Classical.byContradiction
  intro hm
  apply hn
  refine ⟨fun hl => hm ((hd i hi hw).2 hl), fun k hk hl => hm ((hd k hk.lt (he k hk.lt (hR k hk))).2 hl)⟩

end Go.Proofs.YtmigamgcmhdncaaDoor
