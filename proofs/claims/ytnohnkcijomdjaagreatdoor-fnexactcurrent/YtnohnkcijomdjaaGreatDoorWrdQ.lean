/-
  A manifest read of its words, plainly; a right manifest's text is read as that manifest.
-/
import Derived.Test.YtnohnkcijomdjaaGreatDoorWrdP
namespace Go.Proofs.YtnohnkcijomdjaaGreatDoor
open Go.RowKit
set_option linter.unusedVariables false
set_option linter.unusedSimpArgs false

/-- A table's row behind its name: what is read, whether the reader is bad then, and the words left. -/
def rowM (l : List (List UInt8)) : MMeta := ⟨(numbP l).1, (numbP l.tail).1, strB (keyP l.tail.tail).1, strB (keyP l.tail.tail.tail).1⟩
def rowB (l : List (List UInt8)) (b : Bool) : Bool := (((b || !(numbP l).2) || !(numbP l.tail).2) || !(keyP l.tail.tail).2) || !(keyP l.tail.tail.tail).2
def tabB (l : List (List UInt8)) (b : Bool) : Bool := (b || !(nameP l).2) || !decide ((nameP l).1 = tabW)
def rdTabs : Nat → List (List UInt8) → Bool → List MMeta → List MMeta × Bool
  | 0, l, b, ts => (ts, true)
  | f + 1, l, b, ts => bif b then (ts, b) else bif decide ((nameP l).1 = endW) then (ts, b || !(nameP l).2) else
      rdTabs f l.tail.tail.tail.tail.tail (rowB l.tail (tabB l b)) (ts ++ [rowM l.tail])
def headB (l : List (List UInt8)) : Bool :=
  (((((false || !(nameP l).2) || !decide ((nameP l).1 = [110, 101, 120, 116])) || !(numbP l.tail).2) || !(nameP l.tail.tail).2) || !decide ((nameP l.tail.tail).1 = [108, 111, 103])) || !(numbP l.tail.tail.tail).2
def rdMan (l : List (List UInt8)) : MManifest × Bool :=
  (⟨(numbP l.tail).1, (numbP l.tail.tail.tail).1, (rdTabs (l.length + 2) l.tail.tail.tail.tail (headB l) []).1⟩, (rdTabs (l.length + 2) l.tail.tail.tail.tail (headB l) []).2)

theorem keys_pos {m : MManifest} (h : manOkP m = true) : ∀ t, t ∈ m.fTables → 1 ≤ t.fLo.size ∧ 1 ≤ t.fHi.size := by
  simp only [manOkP, Bool.and_eq_true, decide_eq_true_eq] at h
  intro t ht
  have h2 := tabs_all h.2 t ht
  simp only [metaP, mKeyP, Bool.and_eq_true, decide_eq_true_eq] at h2
  exact ⟨h2.1.1.2.1, h2.1.2.1⟩
theorem row_line {nx : Int} (hn : nx ≤ 100000) {t : MMeta} (h : MetaOk nx t) (r : List (List UInt8)) :
    rowM (decD t.fNo :: decD t.fLevel :: hexT t.fLo :: hexT t.fHi :: r) = t ∧ rowB (decD t.fNo :: decD t.fLevel :: hexT t.fLo :: hexT t.fHi :: r) false = false := by
  have h1 := numb_dec (decD t.fLevel :: hexT t.fLo :: hexT t.fHi :: r) (n := t.fNo) (by have := h.no0; omega) (by have := h.no1; omega)
  have h2 := numb_dec (hexT t.fLo :: hexT t.fHi :: r) (n := t.fLevel) h.lv0 (by have := h.lv1; omega)
  have h3 := key_hex t.fLo (hexT t.fHi :: r)
  have h4 := key_hex t.fHi r
  unfold rowM rowB
  simp only [List.tail_cons]
  rw [h1, h2, h3, h4]
  refine ⟨?_, rfl⟩
  simp only [strB_of]
theorem read_tabs {nx : Int} (hn : nx ≤ 100000) : ∀ (ts : List MMeta) (f : Nat) (acc : List MMeta), (∀ t, t ∈ ts → MetaOk nx t) → ts.length < f → rdTabs f (ts.flatMap lineWs ++ [endW]) false acc = (acc ++ ts, false)
  | [], f + 1, acc, _, _ => by
    have hw : nameP [endW] = (endW, true) := name_word [] (by decide)
    simp only [List.flatMap_nil, List.nil_append, rdTabs, hw, cond_false, decide_true, cond_true, List.append_nil]
    rfl
  | t :: ts, f + 1, acc, h, hf => by
    have e : (t :: ts).flatMap lineWs ++ [endW] = tabW :: decD t.fNo :: decD t.fLevel :: hexT t.fLo :: hexT t.fHi :: (ts.flatMap lineWs ++ [endW]) := by
      rw [List.flatMap_cons]; rfl
    have hw : nameP (tabW :: decD t.fNo :: decD t.fLevel :: hexT t.fLo :: hexT t.fHi :: (ts.flatMap lineWs ++ [endW])) = (tabW, true) := name_word _ (by decide)
    have hr := row_line hn (h t (by simp)) (ts.flatMap lineWs ++ [endW])
    have ih := read_tabs hn ts f (acc ++ [t]) (fun u hu => h u (by simp [hu])) (by simp at hf; omega)
    rw [e, rdTabs]
    unfold tabB
    rw [hw]
    simp only [List.tail_cons, cond_false]
    rw [show decide (tabW = endW) = false from by decide, cond_false]
    simp only [decide_true, Bool.not_true, Bool.or_false]
    rw [hr.1, hr.2, ih]
    simp
theorem read_text {m : MManifest} (h : manOkP m = true) : rdMan (Lib.fields (manTextL m)) = (m, false) := by
  have F := manOkP_facts h
  have hl : ∀ l : List MMeta, l.length ≤ (l.flatMap lineWs).length := fun l => by
    induction l with
    | nil => simp
    | cons t l ih => rw [List.flatMap_cons, List.length_append, List.length_cons]; have h5 : (lineWs t).length = 5 := rfl; omega
  rw [fields_text (keys_pos h)]
  obtain ⟨R, hR⟩ : ∃ R, R = m.fTables.flatMap lineWs ++ [endW] := ⟨_, rfl⟩
  have hRl : m.fTables.length ≤ R.length := by rw [hR, List.length_append]; have := hl m.fTables; omega
  rw [← hR]
  have h1 : nameP ([110, 101, 120, 116] :: decD m.fNext :: [108, 111, 103] :: decD m.fLog :: R) = ([110, 101, 120, 116], true) := name_word _ (by decide)
  have h2 := numb_dec (n := m.fNext) ([108, 111, 103] :: decD m.fLog :: R) (by have := F.nx0; omega) F.nx1
  have h3 : nameP ([108, 111, 103] :: decD m.fLog :: R) = ([108, 111, 103], true) := name_word _ (by decide)
  have h4 := numb_dec (n := m.fLog) R F.lg0 (by have := F.lg1; have := F.nx1; omega)
  have hH : headB ([110, 101, 120, 116] :: decD m.fNext :: [108, 111, 103] :: decD m.fLog :: R) = false := by
    unfold headB
    simp only [List.tail_cons, h1, h2, h3, h4]
    decide
  show rdMan ([110, 101, 120, 116] :: decD m.fNext :: [108, 111, 103] :: decD m.fLog :: R) = _
  unfold rdMan
  rw [hH]
  simp only [List.tail_cons]
  rw [h2, h4, hR, read_tabs F.nx1 m.fTables _ [] F.each (by rw [← hR]; simp only [List.length_cons]; omega)]
  rfl

end Go.Proofs.YtnohnkcijomdjaaGreatDoor
