/-
  The places of what items name: plainly; a row of sets in memory.
-/
import Derived.Test.YtmigamgcmhdncaaDoorSetR
import Derived.Test.YtmigamgcmhdncaaDoorGraP
namespace Go.Proofs.YtmigamgcmhdncaaDoor
open Go.RowKit
set_option linter.unusedVariables false
set_option linter.unusedSimpArgs false

def flatS : List MSet → List Value
  | [] => []
  | s :: r => .int .u64 (s.x0 : Int) :: .int .u64 (s.x1 : Int) :: flatS r
theorem flatS_length : ∀ ss : List MSet, (flatS ss).length = ss.length * 2
  | [] => rfl
  | s :: r => by simp only [flatS, List.length_cons, flatS_length r]; omega
theorem flatS_at0 : ∀ {ss : List MSet} {i : Nat} (h : i < ss.length), (flatS ss)[i * 2]? = some (.int .u64 (ss[i].x0 : Int))
  | s :: r, 0, _ => rfl
  | s :: r, i + 1, h => by
    have ih := flatS_at0 (ss := r) (i := i) (by simpa using h)
    have e : (i + 1) * 2 = i * 2 + 1 + 1 := by omega
    rw [e]
    simpa [flatS] using ih
theorem flatS_at1 : ∀ {ss : List MSet} {i : Nat} (h : i < ss.length), (flatS ss)[i * 2 + 1]? = some (.int .u64 (ss[i].x1 : Int))
  | s :: r, 0, _ => rfl
  | s :: r, i + 1, h => by
    have ih := flatS_at1 (ss := r) (i := i) (by simpa using h)
    have e : (i + 1) * 2 + 1 = i * 2 + 1 + 1 + 1 := by omega
    rw [e]
    simpa [flatS] using ih
theorem flatS_set : ∀ {ss : List MSet} {i : Nat} {t : MSet}, i < ss.length → ((flatS ss).set (i * 2) (.int .u64 (t.x0 : Int))).set (i * 2 + 1) (.int .u64 (t.x1 : Int)) = flatS (ss.set i t)
  | s :: r, 0, t, _ => rfl
  | s :: r, i + 1, t, h => by
    have ih := flatS_set (ss := r) (i := i) (t := t) (by simpa using h)
    have e : (i + 1) * 2 = i * 2 + 1 + 1 := by omega
    have e2 : (i + 1) * 2 + 1 = i * 2 + 1 + 1 + 1 := by omega
    rw [e2, e]
    simpa [flatS] using ih
theorem flatS_made (n : Nat) : (madeCells (Value.agg #[.int .u64 0, .int .u64 0]).cells (n * 2)).toList = flatS (List.replicate n ⟨0, 0⟩) := by
  have h2 : (Value.agg #[.int .u64 0, .int .u64 0]).cells = #[.int .u64 0, .int .u64 0] := rfl
  rw [h2]
  apply List.ext_getElem?
  intro j
  by_cases hj : j < n * 2
  · have e1 : (madeCells #[.int .u64 0, .int .u64 0] (n * 2)).toList[j]? = some (.int .u64 0) := by
      have : j % 2 = 0 ∨ j % 2 = 1 := by omega
      rcases this with h | h <;> simp [madeCells, hj, h]
    rw [e1]
    obtain ⟨i, hi⟩ : ∃ i, j = i * 2 ∨ j = i * 2 + 1 := ⟨j / 2, by omega⟩
    rcases hi with rfl | rfl
    · rw [flatS_at0 (i := i) (by simp; omega)]; simp
    · rw [flatS_at1 (i := i) (by simp; omega)]; simp
  · have h3 := flatS_length (List.replicate n (⟨0, 0⟩ : MSet))
    rw [List.length_replicate] at h3
    have h4 : (madeCells #[Value.int .u64 0, .int .u64 0] (n * 2)).toList.length = n * 2 := by simp [madeCells]
    rw [List.getElem?_eq_none (by omega), List.getElem?_eq_none (by omega)]

/-- Sets that lie one behind the other in a block of one's own are a list that can be read. -/
theorem leaf_flat {w : World} {g : Nat} {T : TypeId} {ss : List MSet} (h : Bw w g T (flatS ss)) (hok : ∀ i, (hi : i < ss.length) → ss[i].ok) {B c : Nat} (hB : g < B) (hc : ss.length ≤ c) (hc2 : c ≤ 9223372036854775807) : LeafL 2 rSet B w (some ⟨g, 0, none⟩) c ss := by
  refine ⟨hc, hc2, fun j hj => ⟨g, 0, rfl, hB, ss[j].cells, rfl, fun i u hu => ?_, rfl, hok j hj⟩⟩
  have e : 0 + j * 2 + i = j * 2 + i := by omega
  rw [e]
  apply h.cell
  match i, hu with
  | 0, hu => simp only [MSet.cells, List.getElem?_cons_zero, Option.some.injEq] at hu; subst hu; exact flatS_at0 hj
  | 1, hu => simp [MSet.cells] at hu; subst hu; exact flatS_at1 hj
  | i + 2, hu => simp [MSet.cells] at hu

/-- A dep's place: where it is, or 100. -/
def isAt (l : List MItem) (d : MDot) (j : Nat) : Prop := (∃ hj : j < l.length, sameD l[j].fD d = true) ∨ (j = 100 ∧ hasI l d = false)
/-- The places of the first c deps. -/
def StepSt (l : List MItem) (ds : List MDot) (c : Nat) (s : MSet) : Prop := s.ok ∧ ∀ j, j < 128 → (s.has j = true ↔ ∃ d, d ∈ ds.take c ∧ isAt l d j)
def StepOk (l : List MItem) (i : Nat) (s : MSet) : Prop := s.ok ∧ ∀ j, j < 128 → (s.has j = true ↔ stepTo l i j ∨ (j = 100 ∧ lacks l i))

theorem MSet.zero_has (j : Nat) : MSet.has ⟨0, 0⟩ j = false := by unfold MSet.has; cases decide (j < 64) <;> exact Nat.zero_testBit _
theorem StepSt.start (l : List MItem) (ds : List MDot) : StepSt l ds 0 ⟨0, 0⟩ := ⟨⟨by decide, by decide⟩, fun j hj => by rw [MSet.zero_has]; simp⟩
theorem StepSt.next {l : List MItem} {ds : List MDot} {c : Nat} {s : MSet} (h : StepSt l ds c s) (hc : c < ds.length) {p : Nat} (hp : p < 128) (hw : ∀ j, isAt l ds[c] j ↔ j = p) : StepSt l ds (c + 1) (s.add p) := by
  refine ⟨MSet.add_ok h.1 hp, fun j hj => ?_⟩
  rw [MSet.add_has hp hj, Bool.or_eq_true, h.2 j hj, decide_eq_true_iff, ← hw j]
  constructor
  · rintro (⟨d, hd, ha⟩ | ha)
    · exact ⟨d, (mem_take_succ hc).2 (.inl hd), ha⟩
    · exact ⟨_, (mem_take_succ hc).2 (.inr rfl), ha⟩
  · rintro ⟨d, hd, ha⟩
    rcases (mem_take_succ hc).1 hd with g | rfl
    · exact .inl ⟨d, g, ha⟩
    · exact .inr ha
theorem StepSt.done {l : List MItem} {i : Nat} (hi : i < l.length) {s : MSet} (h : StepSt l l[i].fDeps l[i].fDeps.length s) : StepOk l i s := by
  refine ⟨h.1, fun j hj => ?_⟩
  rw [h.2 j hj, List.take_length]
  constructor
  · rintro ⟨d, hd, ⟨hj, hs⟩ | ⟨rfl, hn⟩⟩
    · exact .inl ⟨hi, hj, d, hd, hs⟩
    · exact .inr ⟨rfl, hi, d, hd, hn⟩
  · rintro (⟨_, hj, d, hd, hs⟩ | ⟨rfl, _, d, hd, hn⟩)
    · exact ⟨d, hd, .inl ⟨hj, hs⟩⟩
    · exact ⟨d, hd, .inr ⟨rfl, hn⟩⟩
/-- Found: that place alone. -/
theorem isAt_found {l : List MItem} (hg : graphP ⟨l⟩ = true) {d : MDot} {p : Nat} (ht : thereAt l d p = true) : p < l.length ∧ ∀ j, isAt l d j ↔ j = p := by
  have hp : p < l.length := by
    apply Classical.byContradiction
    intro h
    rw [thereAt_no h] at ht; cases ht
  rw [thereAt_at hp] at ht
  refine ⟨hp, fun j => ⟨?_, ?_⟩⟩
  · rintro (⟨hj, hs⟩ | ⟨_, hn⟩)
    · exact graph_uniq hg hj hp hs ht
    · rw [hasI_yes hp ht] at hn; cases hn
  · rintro rfl
    exact .inl ⟨hp, ht⟩
/-- Not found: outside. -/
theorem isAt_none {l : List MItem} (hg : graphP ⟨l⟩ = true) {d : MDot} {p : Nat} (hP : PlaceAt l d p) (ht : thereAt l d p = false) : ∀ j, isAt l d j ↔ j = 100 := by
  have hno : ∀ j, (hj : j < l.length) → sameD l[j].fD d = false := by
    intro j hj
    rw [Bool.eq_false_iff]
    intro hs
    have hse := sameD_eq hs
    obtain ⟨h1, h2, h3⟩ := hP
    rcases Nat.lt_trichotomy j p with g | g | g
    · have hq : p - 1 < l.length := by omega
      have h4 := dotLt_iff.1 (h2 (p - 1) hq (by omega))
      by_cases he : j = p - 1
      · subst he; omega
      · have h5 := dotLt_iff.1 (graph_up hg j (p - 1) hj hq (by omega)); omega
    · subst g
      rw [thereAt_at hj, hs] at ht; cases ht
    · have hpl : p < l.length := by omega
      have h4 := h3 hpl
      have h5 := dotLt_iff.1 (graph_up hg p j hpl hj g)
      have h6 : ¬ (l[p].fD.fR < d.fR ∨ (l[p].fD.fR = d.fR ∧ l[p].fD.fN < d.fN)) := fun h => by rw [dotLt_iff.2 h] at h4; cases h4
      omega
  intro j
  constructor
  · rintro (⟨hj, hs⟩ | ⟨h, _⟩)
    · rw [hno j hj] at hs; cases hs
    · exact h
  · rintro rfl
    exact .inr ⟨rfl, hasI_no hno⟩

end Go.Proofs.YtmigamgcmhdncaaDoor
