/-
  What a disk that is right weighs; no program is named here.
-/
import Derived.Test.YtcbhmbgmeodjdaaDoorDskX
namespace Go.Proofs.YtcbhmbgmeodjdaaDoor
open Go.RowKit
set_option linter.unusedVariables false
set_option linter.unusedSimpArgs false

theorem sumW_names {l : List MEntry} (h : ∀ e, e ∈ l → nameOk e.fName = true) : sumW wEntry l ≤ 12 * l.length := by
  induction l with
  | nil => simp [sumW]
  | cons x r ih =>
    have h1 := ih (fun e he => h e (by simp [he]))
    have h2 := h x (by simp)
    unfold nameOk at h2
    rw [Bool.and_eq_true] at h2
    have h3 := (of_decide_eq_true h2.1).2
    have h4 : wEntry x = x.fName.size := rfl
    simp only [sumW, List.length_cons]
    omega

theorem ok_weight {m : MDisk} (h : diskOk m = true) : m.fInodes.length ≤ 60 ∧ sumW wInode m.fInodes ≤ 60000 ∧ m.fNames.length ≤ 30 ∧ sumW wEntry m.fNames ≤ 360 ∧ m.fSafe.length ≤ 30 ∧ sumW wEntry m.fSafe ≤ 360 := by
  have hr := diskOk_iff.1 h
  have h1 := named_fit (d := m) (diskOk_parts h).1 (List.all_eq_true.2 hr.all)
  have h2 := sumW_names (fun e he => (hr.names.1 e he).2)
  have h3 := sumW_names (fun e he => (hr.safe.1 e he).2)
  have h4 := hr.few
  have h5 := hr.few'
  have h6 := hr.size
  omega

end Go.Proofs.YtcbhmbgmeodjdaaDoor
