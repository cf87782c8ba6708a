/-
  Items and graphs, plainly: which are right.
-/
import Derived.Test.YtmigamgcmhdncaaDoorDots
namespace Go.Proofs.YtmigamgcmhdncaaDoor
open Go.RowKit
set_option linter.unusedVariables false
set_option linter.unusedSimpArgs false

/-- Whether the k-th of a list is right, and behind the one ahead of it. -/
def stepOk {α : Type} (f : α → Bool) (lt : α → α → Bool) (l : List α) (k : Nat) : Bool :=
  match l[k]? with
  | none => true
  | some x => f x && (match k with | 0 => true | j + 1 => (match l[j]? with | none => true | some y => lt y x))
def upOk {α : Type} (f : α → Bool) (lt : α → α → Bool) (l : List α) : Bool := (List.range l.length).all (stepOk f lt l)

theorem stepOk_bad {α : Type} {f : α → Bool} {lt : α → α → Bool} {l : List α} {k : Nat} (hk : k < l.length) (h : f l[k] = false) : stepOk f lt l k = false := by
  unfold stepOk; rw [List.getElem?_eq_getElem hk]; simp only [h, Bool.false_and]
theorem stepOk_zero {α : Type} {f : α → Bool} {lt : α → α → Bool} {l : List α} (hk : 0 < l.length) (h : f l[0] = true) : stepOk f lt l 0 = true := by
  unfold stepOk; rw [List.getElem?_eq_getElem hk]; simp only [h, Bool.true_and]
theorem stepOk_succ {α : Type} {f : α → Bool} {lt : α → α → Bool} {l : List α} {j : Nat} (hj : j < l.length) (hk : j + 1 < l.length) (h : f l[j + 1] = true) : stepOk f lt l (j + 1) = lt l[j] l[j + 1] := by
  unfold stepOk; rw [List.getElem?_eq_getElem hk]; simp only [h, Bool.true_and, List.getElem?_eq_getElem hj]
theorem upOk_no {α : Type} {f : α → Bool} {lt : α → α → Bool} {l : List α} {k : Nat} (hk : k < l.length) (h : stepOk f lt l k = false) : upOk f lt l = false := by
  unfold upOk; rw [List.all_eq_false]; exact ⟨k, List.mem_range.2 hk, by rw [h]; decide⟩
theorem upOk_yes {α : Type} {f : α → Bool} {lt : α → α → Bool} {l : List α} (h : ∀ j, j < l.length → stepOk f lt l j = true) : upOk f lt l = true := by
  unfold upOk; rw [List.all_eq_true]; exact fun j hj => h j (List.mem_range.1 hj)
theorem all_next {p : Nat → Prop} {k : Nat} (h : ∀ j, j < k → p j) (hk : p k) : ∀ j, j < k + 1 → p j := fun j hj => by
  rcases Nat.lt_succ_iff_lt_or_eq.1 hj with g | g
  · exact h j g
  · rw [g]; exact hk

def sameD (a b : MDot) : Bool := decide (a.fR = b.fR ∧ a.fN = b.fN)
def hasD (l : List MDot) (d : MDot) : Bool := l.any (fun e => sameD e d)
theorem hasD_yes {l : List MDot} {d : MDot} {k : Nat} (hk : k < l.length) (h : sameD l[k] d = true) : hasD l d = true := by
  unfold hasD; rw [List.any_eq_true]; exact ⟨l[k], List.getElem_mem hk, h⟩
theorem hasD_no {l : List MDot} {d : MDot} (h : ∀ j, (hj : j < l.length) → sameD l[j] d = false) : hasD l d = false := by
  unfold hasD; rw [List.any_eq_false]
  intro x hx
  obtain ⟨j, hj, rfl⟩ := List.mem_iff_getElem.1 hx
  rw [h j hj]; decide

def depsP (l : List MDot) : Bool := decide (l.length ≤ 60) && upOk dotOkP dotLt l
def itemP (m : MItem) : Bool := dotOkP m.fD && depsP m.fDeps && !hasD m.fDeps m.fD
def itemLt (a b : MItem) : Bool := dotLt a.fD b.fD
def graphP (m : MGraph) : Bool := decide (m.fItems.length ≤ 100) && upOk itemP itemLt m.fItems

end Go.Proofs.YtmigamgcmhdncaaDoor
