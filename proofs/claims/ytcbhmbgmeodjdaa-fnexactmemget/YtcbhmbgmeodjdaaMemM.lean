/-
  Pairs and tables in memory, as plain functions; no program is named here.
-/
import Derived.Test.YtcbhmbgmeodjdaaStrM
import Derived.Test.YtcbhmbgmeodjdaaPDat
namespace Go.Proofs.Ytcbhmbgmeodjdaa
open Go.RowKit
set_option linter.unusedVariables false
set_option linter.unusedSimpArgs false

def inR (x a b : Int) : Bool := decide (a ≤ x ∧ x ≤ b)
def keyOkP (s : ByteArray) : Bool := decide (1 ≤ s.size ∧ s.size ≤ 20)
def pairOkP (m : MPair) : Bool := keyOkP m.fKey && decide (m.fVal.size ≤ 20) && (!m.fGone || decide (m.fVal.size = 0))

def hasKey (l : List MNode) (s : ByteArray) : Bool := l.any fun n => decide (n.fP.fKey = s)
def noPair : MPair := ⟨⟨#[]⟩, ⟨#[]⟩, false⟩
/-- The first pair with the key, or none. -/
def getP (l : List MNode) (s : ByteArray) : MPair := ((l.find? fun n => decide (n.fP.fKey = s)).map MNode.fP).getD noPair

theorem getP_at {l : List MNode} {s : ByteArray} {k : Nat} (hk : k < l.length) (hn : ∀ j, (hj : j < l.length) → j < k → l[j].fP.fKey ≠ s) (h : l[k].fP.fKey = s) : getP l s = l[k].fP ∧ hasKey l s = true := by
  induction l generalizing k with
  | nil => simp at hk
  | cons x r ih =>
    cases k with
    | zero =>
      have hx : x.fP.fKey = s := h
      simp [getP, hasKey, hx]
    | succ k =>
      have hx : x.fP.fKey ≠ s := hn 0 (by simp) (by omega)
      have := ih (k := k) (by simpa using hk) (fun j hj hjk => by have := hn (j + 1) (by simpa using hj) (by omega); simpa using this) (by simpa using h)
      simp only [getP, hasKey, List.find?_cons, List.any_cons, decide_eq_false hx, Bool.false_or] at this ⊢
      simpa using this
theorem getP_none {l : List MNode} {s : ByteArray} (hn : ∀ j, (hj : j < l.length) → l[j].fP.fKey ≠ s) : getP l s = noPair ∧ hasKey l s = false := by
  induction l with
  | nil => exact ⟨rfl, rfl⟩
  | cons x r ih =>
    have hx : x.fP.fKey ≠ s := hn 0 (by simp)
    have := ih (fun j hj => by have := hn (j + 1) (by simpa using hj); simpa using this)
    simp only [getP, hasKey, List.find?_cons, List.any_cons, decide_eq_false hx, Bool.false_or] at this ⊢
    exact this

end Go.Proofs.Ytcbhmbgmeodjdaa
