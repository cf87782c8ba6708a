/-
  Pairs and tables in memory, as plain functions; no program is named here.
-/
import Derived.Test.YtadadkookbkkoaaDoorMemP
import Derived.Test.YtadadkookbkkoaaDoorPDat
namespace Go.Proofs.YtadadkookbkkoaaDoor
open Go.RowKit
set_option linter.unusedVariables false
set_option linter.unusedSimpArgs false

def okPrev : Option ByteArray → ByteArray → Bool
  | none, _ => true
  | some s, t => kLt s t
/-- Right pairs, each key above the one ahead. -/
def upFrom : Option ByteArray → List MPair → Bool
  | _, [] => true
  | pv, p :: r => pairOkP p && okPrev pv p.fKey && upFrom (some p.fKey) r
def prevK (l : List MPair) : Nat → Option ByteArray
  | 0 => none
  | k + 1 => (l[k]?).map MPair.fKey
def pairsOkP (l : List MPair) : Bool := upFrom none l
theorem upFrom_step {l : List MPair} {k : Nat} (h : k < l.length) : upFrom (prevK l k) (l.drop k) = (pairOkP l[k] && okPrev (prevK l k) l[k].fKey && upFrom (prevK l (k + 1)) (l.drop (k + 1))) := by
  rw [List.drop_eq_getElem_cons h]
  simp only [upFrom, prevK, List.getElem?_eq_getElem h, Option.map_some]
theorem upFrom_end {l : List MPair} {k : Nat} (h : l.length ≤ k) : upFrom (prevK l k) (l.drop k) = true := by
  rw [List.drop_eq_nil_of_le h]
  rfl
theorem upFrom_bad1 {l : List MPair} {k : Nat} (h : k < l.length) (hb : pairOkP l[k] = false) : upFrom (prevK l k) (l.drop k) = false := by
  rw [upFrom_step h, hb, Bool.false_and, Bool.false_and]
theorem upFrom_bad2 {l : List MPair} {k : Nat} (h : k < l.length) (hb : okPrev (prevK l k) l[k].fKey = false) : upFrom (prevK l k) (l.drop k) = false := by
  rw [upFrom_step h, hb, Bool.and_false, Bool.false_and]
theorem upFrom_good {l : List MPair} {k : Nat} (h : k < l.length) (h1 : pairOkP l[k] = true) (h2 : okPrev (prevK l k) l[k].fKey = true) : upFrom (prevK l k) (l.drop k) = upFrom (prevK l (k + 1)) (l.drop (k + 1)) := by
  rw [upFrom_step h, h1, h2, Bool.true_and, Bool.true_and]
theorem prevK_succ {l : List MPair} {j : Nat} (h : j < l.length) : prevK l (j + 1) = some l[j].fKey := by
  simp only [prevK, List.getElem?_eq_getElem h, Option.map_some]
def towersP (l : List MNode) : Bool := l.all fun n => inR n.fTower 1 4
def memOkP (m : MMem) : Bool := decide (m.fNodes.length ≤ 60) && pairsOkP (m.fNodes.map MNode.fP) && towersP m.fNodes

def hasKey (l : List MNode) (s : ByteArray) : Bool := l.any fun n => decide (n.fP.fKey = s)
def noPair : MPair := ⟨⟨#[]⟩, ⟨#[]⟩, false⟩
/-- The first pair with the key, or none. -/
def getP (l : List MNode) (s : ByteArray) : MPair := ((l.find? fun n => decide (n.fP.fKey = s)).map MNode.fP).getD noPair

theorem getP_at {l : List MNode} {s : ByteArray} {k : Nat} (hk : k < l.length) (hn : ∀ j, (hj : j < l.length) → j < k → l[j].fP.fKey ≠ s) (h : l[k].fP.fKey = s) : getP l s = l[k].fP ∧ hasKey l s = true := by
  induction l generalizing k with
  | nil => simp at hk
  | cons x r ih =>
    cases k with
    | zero =>
      have hx : x.fP.fKey = s := h
      simp [getP, hasKey, hx]
    | succ k =>
      have hx : x.fP.fKey ≠ s := hn 0 (by simp) (by omega)
      have := ih (k := k) (by simpa using hk) (fun j hj hjk => by have := hn (j + 1) (by simpa using hj) (by omega); simpa using this) (by simpa using h)
      simp only [getP, hasKey, List.find?_cons, List.any_cons, decide_eq_false hx, Bool.false_or] at this ⊢
      simpa using this
theorem getP_none {l : List MNode} {s : ByteArray} (hn : ∀ j, (hj : j < l.length) → l[j].fP.fKey ≠ s) : getP l s = noPair ∧ hasKey l s = false := by
  induction l with
  | nil => exact ⟨rfl, rfl⟩
  | cons x r ih =>
    have hx : x.fP.fKey ≠ s := hn 0 (by simp)
    have := ih (fun j hj => by have := hn (j + 1) (by simpa using hj); simpa using this)
    simp only [getP, hasKey, List.find?_cons, List.any_cons, decide_eq_false hx, Bool.false_or] at this ⊢
    exact this

end Go.Proofs.YtadadkookbkkoaaDoor
