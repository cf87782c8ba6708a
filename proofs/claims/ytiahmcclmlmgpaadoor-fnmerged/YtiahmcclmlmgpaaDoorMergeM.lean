/-
  Two lists of pairs merged, as a plain function; no program is named here.
-/
import Derived.Test.YtiahmcclmlmgpaaDoorMemM
namespace Go.Proofs.YtiahmcclmlmgpaaDoor
open Go.RowKit
set_option linter.unusedVariables false
set_option linter.unusedSimpArgs false

/-- Step by step; of a key that both have the first list's pair. -/
def mergeF : Nat → List MPair → List MPair → List MPair
  | 0, _, _ => []
  | _ + 1, [], b => b
  | _ + 1, x :: a, [] => x :: a
  | n + 1, x :: a, y :: b => if kLt x.fKey y.fKey then x :: mergeF n a (y :: b) else if kLt y.fKey x.fKey then y :: mergeF n (x :: a) b else x :: mergeF n a b
def mergeP (a b : List MPair) : List MPair := mergeF (a.length + b.length + 1) a b

theorem mergeF_nil {n : Nat} {b : List MPair} (h : b.length < n) : mergeF n [] b = b := by
  cases n with
  | zero => omega
  | succ n => rfl
theorem mergeF_nil' {n : Nat} {a : List MPair} (h : a.length < n) : mergeF n a [] = a := by
  cases n with
  | zero => omega
  | succ n => cases a <;> rfl
theorem mergeF_more : ∀ {n m : Nat} {a b : List MPair}, a.length + b.length < n → a.length + b.length < m → mergeF n a b = mergeF m a b
  | 0, _, _, _, h, _ => by omega
  | _ + 1, 0, _, _, _, h => by omega
  | n + 1, m + 1, [], b, _, _ => rfl
  | n + 1, m + 1, x :: a, [], _, _ => rfl
  | n + 1, m + 1, x :: a, y :: b, h1, h2 => by
    simp only [List.length_cons] at h1 h2
    simp only [mergeF]
    rw [mergeF_more (n := n) (m := m) (a := a) (b := y :: b) (by simp only [List.length_cons]; omega) (by simp only [List.length_cons]; omega),
      mergeF_more (n := n) (m := m) (a := x :: a) (b := b) (by simp only [List.length_cons]; omega) (by simp only [List.length_cons]; omega),
      mergeF_more (n := n) (m := m) (a := a) (b := b) (by omega) (by omega)]
theorem mergeP_nil (b : List MPair) : mergeP [] b = b := mergeF_nil (by simp)
theorem mergeP_nil' (a : List MPair) : mergeP a [] = a := mergeF_nil' (by simp)
theorem mergeP_less {x y : MPair} {a b : List MPair} (h : kLt x.fKey y.fKey = true) : mergeP (x :: a) (y :: b) = x :: mergeP a (y :: b) := by
  show mergeF ((x :: a).length + (y :: b).length + 1) _ _ = _
  simp only [List.length_cons]
  rw [show a.length + 1 + (b.length + 1) + 1 = (a.length + (b.length + 1) + 1) + 1 by omega]
  simp only [mergeF, h, if_true]
  rfl
theorem mergeP_more {x y : MPair} {a b : List MPair} (h : kLt y.fKey x.fKey = true) : mergeP (x :: a) (y :: b) = y :: mergeP (x :: a) b := by
  show mergeF ((x :: a).length + (y :: b).length + 1) _ _ = _
  simp only [List.length_cons]
  rw [show a.length + 1 + (b.length + 1) + 1 = (a.length + 1 + b.length + 1) + 1 by omega]
  simp only [mergeF, kLt_asymm h, h, if_true, Bool.false_eq_true, if_false]
  rfl
theorem mergeP_same {x y : MPair} {a b : List MPair} (h1 : kLt x.fKey y.fKey = false) (h2 : kLt y.fKey x.fKey = false) : mergeP (x :: a) (y :: b) = x :: mergeP a b := by
  show mergeF ((x :: a).length + (y :: b).length + 1) _ _ = _
  simp only [List.length_cons]
  rw [show a.length + 1 + (b.length + 1) + 1 = (a.length + b.length + 1 + 1) + 1 by omega]
  simp only [mergeF, h1, h2, Bool.false_eq_true, if_false]
  rw [mergeF_more (m := a.length + b.length + 1) (by omega) (by omega)]
  rfl
theorem mergeP_length (a b : List MPair) : (mergeP a b).length ≤ a.length + b.length := by
  have key : ∀ n (a b : List MPair), (mergeF n a b).length ≤ a.length + b.length := by
    intro n
    induction n with
    | zero => intro a b; simp [mergeF]
    | succ n ih =>
      intro a b
      cases a with
      | nil => simp [mergeF]
      | cons x a =>
        cases b with
        | nil => simp [mergeF]
        | cons y b =>
          simp only [mergeF]
          have h1 := ih a (y :: b)
          have h2 := ih (x :: a) b
          have h3 := ih a b
          simp only [List.length_cons] at h1 h2 ⊢
          split
          · simp only [List.length_cons]; omega
          · split <;> simp only [List.length_cons] <;> omega
  exact key _ a b

end Go.Proofs.YtiahmcclmlmgpaaDoor
