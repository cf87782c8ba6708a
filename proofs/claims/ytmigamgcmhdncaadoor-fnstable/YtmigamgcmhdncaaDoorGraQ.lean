/-
  An item put into a graph, plainly: where it comes, and whether it may.
-/
import Derived.Test.YtmigamgcmhdncaaDoorGraP
namespace Go.Proofs.YtmigamgcmhdncaaDoor
open Go.RowKit
set_option linter.unusedVariables false
set_option linter.unusedSimpArgs false

def insAt (l : List MItem) (p : Nat) (it : MItem) : List MItem := l.take p ++ it :: l.drop p
def firstGt (d : MDot) : List MItem → Nat
  | [] => 0
  | x :: r => if dotLt d x.fD = true then 0 else firstGt d r + 1
def hasI (l : List MItem) (d : MDot) : Bool := hasD (l.map MItem.fD) d
def putOk (m : MGraph) (it : MItem) : Bool := !hasI m.fItems it.fD && graphP ⟨insAt m.fItems (firstGt it.fD m.fItems) it⟩
def putG (m : MGraph) (it : MItem) : MGraph := bif putOk m it then ⟨insAt m.fItems (firstGt it.fD m.fItems) it⟩ else m

theorem dotLt_iff {a b : MDot} : dotLt a b = true ↔ (a.fR < b.fR ∨ (a.fR = b.fR ∧ a.fN < b.fN)) := by unfold dotLt; exact decide_eq_true_iff
theorem dotLt_trans {a b c : MDot} (h : dotLt a b = true) (k : dotLt b c = true) : dotLt a c = true := by rw [dotLt_iff] at *; omega
theorem dotLt_asym {a b : MDot} (h : dotLt a b = true) (k : dotLt b a = true) : False := by rw [dotLt_iff] at *; omega
theorem dotLt_ne {a b : MDot} (h : dotLt a b = true) : sameD a b = false := by rw [dotLt_iff] at h; unfold sameD; exact decide_eq_false (fun g => by omega)
theorem sameD_comm {a b : MDot} : sameD a b = sameD b a := by unfold sameD; exact decide_eq_decide.2 ⟨fun g => ⟨g.1.symm, g.2.symm⟩, fun g => ⟨g.1.symm, g.2.symm⟩⟩

theorem upOk_at {α : Type} {f : α → Bool} {lt : α → α → Bool} {l : List α} (h : upOk f lt l = true) {j : Nat} (hj : j < l.length) : stepOk f lt l j = true := by
  unfold upOk at h
  rw [List.all_eq_true] at h
  exact h j (List.mem_range.2 hj)
theorem stepOk_lt {α : Type} {f : α → Bool} {lt : α → α → Bool} {l : List α} {j : Nat} (hj : j + 1 < l.length) (h : stepOk f lt l (j + 1) = true) : lt l[j] l[j + 1] = true := by
  unfold stepOk at h
  rw [List.getElem?_eq_getElem hj] at h
  simp only [List.getElem?_eq_getElem (show j < l.length by omega), Bool.and_eq_true] at h
  exact h.2
theorem graph_up {l : List MItem} (h : graphP ⟨l⟩ = true) : ∀ i j, (hi : i < l.length) → (hj : j < l.length) → i < j → dotLt l[i].fD l[j].fD = true := by
  have hu : upOk itemP itemLt l = true := by
    have h' : (decide (l.length ≤ 100) && upOk itemP itemLt l) = true := h
    rw [Bool.and_eq_true] at h'
    exact h'.2
  intro i j hi hj hij
  induction j with
  | zero => omega
  | succ j ih =>
    have hs : dotLt l[j].fD l[j + 1].fD = true := stepOk_lt hj (upOk_at hu hj)
    by_cases he : i = j
    · subst he; exact hs
    · exact dotLt_trans (ih (by omega) (by omega)) hs

theorem insAt_length {l : List MItem} {p : Nat} {it : MItem} (h : p ≤ l.length) : (insAt l p it).length = l.length + 1 := by simp [insAt]; omega
theorem insAt_lo {l : List MItem} {p j : Nat} {it : MItem} (h : p ≤ l.length) (hj : j < p) (h2 : j < (insAt l p it).length) : (insAt l p it)[j] = l[j]'(by omega) := by
  simp only [insAt] at h2 ⊢
  rw [List.getElem_append_left (by simp; omega)]
  simp
theorem insAt_mid {l : List MItem} {p : Nat} {it : MItem} (h : p ≤ l.length) (h2 : p < (insAt l p it).length) : (insAt l p it)[p] = it := by
  simp only [insAt] at h2 ⊢
  have hl : (l.take p).length = p := by simp; omega
  rw [List.getElem_append_right (by omega)]
  simp [hl]
theorem insAt_hi {l : List MItem} {p j : Nat} {it : MItem} (h : p ≤ l.length) (hj : p ≤ j) (hjl : j < l.length) (h2 : j + 1 < (insAt l p it).length) : (insAt l p it)[j + 1] = l[j] := by
  simp only [insAt] at h2 ⊢
  have hl : (l.take p).length = p := by simp; omega
  rw [List.getElem_append_right (by omega)]
  have e : j + 1 - (l.take p).length = (j - p) + 1 := by omega
  simp only [e, List.getElem_cons_succ, List.getElem_drop]
  congr 1
  omega

theorem ins_parts {l : List MItem} {p : Nat} {it : MItem} (hp : p ≤ l.length) (h : graphP ⟨insAt l p it⟩ = true) :
    (∀ j, (hj : j < l.length) → j < p → dotLt l[j].fD it.fD = true) ∧ ∀ j, (hj : j < l.length) → p ≤ j → dotLt it.fD l[j].fD = true := by
  have hu := graph_up h
  have hl := insAt_length (it := it) hp
  refine ⟨fun j hj hjp => ?_, fun j hj hjp => ?_⟩
  · have h1 := hu j p (by omega) (by omega) hjp
    rw [insAt_lo hp hjp, insAt_mid hp] at h1
    exact h1
  · have h1 := hu p (j + 1) (by omega) (by omega) (by omega)
    rw [insAt_mid hp, insAt_hi hp hjp hj] at h1
    exact h1

theorem firstGt_le (d : MDot) (l : List MItem) : firstGt d l ≤ l.length := by
  induction l with
  | nil => exact Nat.le_refl _
  | cons x r ih => unfold firstGt; split; exact Nat.zero_le _; simp; exact ih
theorem firstGt_lo {d : MDot} {l : List MItem} : ∀ j, (hj : j < l.length) → j < firstGt d l → dotLt d l[j].fD = false := by
  induction l with
  | nil => intro j hj; simp at hj
  | cons x r ih =>
    intro j hj hjf
    unfold firstGt at hjf
    split at hjf
    · omega
    · next hx =>
      cases j with
      | zero => exact Bool.eq_false_iff.2 hx
      | succ j => exact ih j (by simpa using hj) (by omega)
theorem firstGt_hit {d : MDot} {l : List MItem} (h : firstGt d l < l.length) : dotLt d l[firstGt d l].fD = true := by
  induction l with
  | nil => simp at h
  | cons x r ih =>
    by_cases hx : dotLt d x.fD = true
    · have e : firstGt d (x :: r) = 0 := by unfold firstGt; rw [if_pos hx]
      simp only [e, List.getElem_cons_zero]
      exact hx
    · have e : firstGt d (x :: r) = firstGt d r + 1 := by show (if dotLt d x.fD = true then 0 else firstGt d r + 1) = _; rw [if_neg hx]
      simp only [e, List.getElem_cons_succ]
      exact ih (by rw [e] at h; simpa using h)

theorem hasI_no {l : List MItem} {d : MDot} (h : ∀ j, (hj : j < l.length) → sameD l[j].fD d = false) : hasI l d = false := hasD_no (fun j hj => by simp at hj; simp; exact h j hj)
theorem hasI_yes {l : List MItem} {d : MDot} {k : Nat} (hk : k < l.length) (h : sameD l[k].fD d = true) : hasI l d = true := hasD_yes (k := k) (by simpa using hk) (by simpa using h)

theorem place_ok {m : MGraph} {it : MItem} {p : Nat} (hP : PlaceAt m.fItems it.fD p) : graphP ⟨insAt m.fItems p it⟩ = putOk m it ∧ (putOk m it = true → insAt m.fItems p it = insAt m.fItems (firstGt it.fD m.fItems) it) := by
  obtain ⟨l⟩ := m
  obtain ⟨hp, h1, h2⟩ := hP
  simp only at hp h1 h2 ⊢
  have hq := firstGt_le it.fD l
  by_cases hg : graphP ⟨insAt l p it⟩ = true
  · obtain ⟨a1, a2⟩ := ins_parts hp hg
    have hn : hasI l it.fD = false := hasI_no (fun j hj => by
      by_cases hjp : j < p
      · exact dotLt_ne (a1 j hj hjp)
      · rw [sameD_comm]; exact dotLt_ne (a2 j hj (by omega)))
    have he : firstGt it.fD l = p := by
      rcases Nat.lt_trichotomy (firstGt it.fD l) p with h | h | h
      · exact absurd (firstGt_hit (d := it.fD) (l := l) (by omega)) (fun g => dotLt_asym g (a1 _ (by omega) h))
      · exact h
      · have h3 := firstGt_lo (d := it.fD) (l := l) p (by omega) h
        rw [a2 p (by omega) (Nat.le_refl _)] at h3
        cases h3
    have hk : putOk ⟨l⟩ it = true := by unfold putOk; simp only [hn, he, hg]; rfl
    exact ⟨by rw [hg, hk], fun _ => by rw [he]⟩
  · have hk : putOk ⟨l⟩ it = false := by
      rw [Bool.eq_false_iff]
      intro hk
      have hk' : (!hasI l it.fD && graphP ⟨insAt l (firstGt it.fD l) it⟩) = true := hk
      rw [Bool.and_eq_true] at hk'
      obtain ⟨a1, a2⟩ := ins_parts hq hk'.2
      have he : firstGt it.fD l = p := by
        rcases Nat.lt_trichotomy (firstGt it.fD l) p with h | h | h
        · have h3 := h1 (p - 1) (by omega) (by omega)
          exact absurd h3 (fun g => dotLt_asym g (a2 (p - 1) (by omega) (by omega)))
        · exact h
        · have h3 := h2 (by omega)
          rw [a1 p (by omega) h] at h3
          cases h3
      rw [he] at hk'
      exact hg hk'.2
    exact ⟨by rw [hk]; exact Bool.eq_false_iff.2 hg, fun h => by rw [hk] at h; cases h⟩

end Go.Proofs.YtmigamgcmhdncaaDoor
