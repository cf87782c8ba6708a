/-
  A pair put into a table in memory, plainly: it is found, and the others are as they were.
-/
import Derived.Test.YtadadkookbkkoaaDoorLeapP
namespace Go.Proofs.YtadadkookbkkoaaDoor
open Go.RowKit
set_option linter.unusedVariables false
set_option linter.unusedSimpArgs false

theorem upFrom_iff : ∀ {l : List MPair} {pv : Option ByteArray}, upFrom pv l = true ↔ (∀ x, x ∈ l → pairOkP x = true) ∧ l.Pairwise (fun x y => kLt x.fKey y.fKey = true) ∧ ∀ x, x ∈ l → okPrev pv x.fKey = true
  | [], pv => by simp [upFrom]
  | p :: r, pv => by
    have ih := upFrom_iff (l := r) (pv := some p.fKey)
    simp only [upFrom, Bool.and_eq_true]
    rw [ih, List.pairwise_cons]
    constructor
    · rintro ⟨⟨h1, h2⟩, h3, h4, h5⟩
      refine ⟨fun x hx => ?_, ⟨fun x hx => h5 x hx, h4⟩, fun x hx => ?_⟩
      · rcases List.mem_cons.1 hx with rfl | hx
        · exact h1
        · exact h3 x hx
      · rcases List.mem_cons.1 hx with rfl | hx
        · exact h2
        · have h6 : kLt p.fKey x.fKey = true := h5 x hx
          cases pv with
          | none => rfl
          | some s => exact kLt_trans h2 h6
    · rintro ⟨h1, ⟨h2, h3⟩, h4⟩
      exact ⟨⟨h1 p (by simp), h4 p (by simp)⟩, fun x hx => h1 x (by simp [hx]), h3, fun x hx => h2 x hx⟩
theorem memOk_iff {l : List MNode} : memOkP ⟨l⟩ = true ↔ l.length ≤ 60 ∧ (∀ x, x ∈ l → pairOkP x.fP = true ∧ inR x.fTower 1 4 = true) ∧ Rising l := by
  unfold memOkP pairsOkP towersP
  simp only [Bool.and_eq_true, decide_eq_true_eq]
  rw [upFrom_iff, List.pairwise_map, List.all_eq_true]
  constructor
  · rintro ⟨⟨h1, h2, h3, _⟩, h4⟩
    exact ⟨h1, fun x hx => ⟨h2 x.fP (List.mem_map_of_mem hx), h4 x hx⟩, h3⟩
  · rintro ⟨h1, h2, h3⟩
    refine ⟨⟨h1, fun y hy => ?_, h3, fun y hy => rfl⟩, fun x hx => (h2 x hx).2⟩
    obtain ⟨x, hx, rfl⟩ := List.mem_map.1 hy
    exact (h2 x hx).1
theorem hasKey_iff {l : List MNode} {s : ByteArray} : hasKey l s = true ↔ ∃ x, x ∈ l ∧ x.fP.fKey = s := by
  unfold hasKey
  rw [List.any_eq_true]
  constructor
  · rintro ⟨x, hx, h⟩; exact ⟨x, hx, of_decide_eq_true h⟩
  · rintro ⟨x, hx, h⟩; exact ⟨x, hx, decide_eq_true h⟩
theorem rise_ne {l : List MNode} (hr : Rising l) {i j : Nat} (hi : i < l.length) (hj : j < l.length) (e : l[i].fP.fKey = l[j].fP.fKey) : i = j := by
  have hp := List.pairwise_iff_getElem.1 hr
  rcases Nat.lt_trichotomy i j with g | g | g
  · have := hp i j hi hj g; rw [e, kLt_irrefl] at this; cases this
  · exact g
  · have := hp j i hj hi g; rw [e, kLt_irrefl] at this; cases this
/-- In a rising list each is found by its key. -/
theorem getP_mem {l : List MNode} (hr : Rising l) {x : MNode} (hx : x ∈ l) : getP l x.fP.fKey = x.fP ∧ hasKey l x.fP.fKey = true := by
  obtain ⟨k, hk, rfl⟩ := List.mem_iff_getElem.1 hx
  exact getP_at hk (fun j hj hjk e => by have := rise_ne hr hj hk e; omega) rfl
/-- The key's place: what is ahead is less, what is behind is greater. -/
theorem less_at {l : List MNode} {key : ByteArray} (hr : Rising l) {x : MNode} (hx : x ∈ l) (e : x.fP.fKey = key) : l[lessN l key]? = some x := by
  obtain ⟨i, hi, rfl⟩ := List.mem_iff_getElem.1 hx
  have h1 : ¬ i < lessN l key := fun h => by have := (less_iff (key := key) hr i hi).2 h; rw [e, kLt_irrefl] at this; cases this
  have h2 : ¬ lessN l key < i := fun h => by
    have h3 := (List.pairwise_iff_getElem.1 hr) (lessN l key) i (by omega) hi h
    rw [e] at h3
    have := (less_iff (key := key) hr (lessN l key) (by omega)).1 h3
    omega
  have h3 : lessN l key = i := by omega
  rw [h3]
  exact List.getElem?_eq_getElem hi
/-- The table behind a put. -/
def putN (l : List MNode) (p : MPair) (tw : Int) : List MNode :=
  match l[lessN l p.fKey]? with
  | some x => bif decide (x.fP.fKey = p.fKey) then l.take (lessN l p.fKey) ++ ⟨p, x.fTower⟩ :: l.drop (lessN l p.fKey + 1) else l.take (lessN l p.fKey) ++ ⟨p, tw⟩ :: l.drop (lessN l p.fKey)
  | none => l.take (lessN l p.fKey) ++ ⟨p, tw⟩ :: l.drop (lessN l p.fKey)
theorem putN_same {l : List MNode} {p : MPair} {tw : Int} (hk : lessN l p.fKey < l.length) (e : l[lessN l p.fKey].fP.fKey = p.fKey) : putN l p tw = l.take (lessN l p.fKey) ++ ⟨p, l[lessN l p.fKey].fTower⟩ :: l.drop (lessN l p.fKey + 1) := by
  unfold putN
  rw [List.getElem?_eq_getElem hk]
  simp only [decide_eq_true e, cond_true]
theorem putN_new {l : List MNode} {p : MPair} {tw : Int} (h : ∀ hk : lessN l p.fKey < l.length, l[lessN l p.fKey].fP.fKey ≠ p.fKey) : putN l p tw = l.take (lessN l p.fKey) ++ ⟨p, tw⟩ :: l.drop (lessN l p.fKey) := by
  unfold putN
  by_cases hk : lessN l p.fKey < l.length
  · rw [List.getElem?_eq_getElem hk]
    simp only [decide_eq_false (h hk), cond_false]
  · rw [List.getElem?_eq_none (by omega)]
theorem rise_ins {l : List MNode} {p : MPair} {x : MNode} {k j : Nat} (hx : x.fP = p) (hr : Rising l) (hk : k = lessN l p.fKey) (hj : k ≤ j) (hb : ∀ i, (hi : i < l.length) → j ≤ i → kLt p.fKey l[i].fP.fKey = true) : Rising (l.take k ++ x :: l.drop j) := by
  unfold Rising
  rw [List.pairwise_append, List.pairwise_cons]
  have hlo : ∀ y, y ∈ l.take k → kLt y.fP.fKey x.fP.fKey = true := fun y hy => by
    rw [List.mem_take_iff_getElem] at hy
    obtain ⟨i, hi, rfl⟩ := hy
    rw [hx]
    exact (less_iff hr i (by omega)).2 (by omega)
  have hhi : ∀ y, y ∈ l.drop j → kLt x.fP.fKey y.fP.fKey = true := fun y hy => by
    rw [List.mem_drop_iff_getElem] at hy
    obtain ⟨i, hi, rfl⟩ := hy
    rw [hx]
    exact hb (j + i) (by omega) (by omega)
  exact ⟨hr.sublist (List.take_sublist _ _), ⟨hhi, hr.sublist (List.drop_sublist _ _)⟩, fun a ha b hb => by
    rcases List.mem_cons.1 hb with rfl | hb
    · exact hlo a ha
    · exact kLt_trans (hlo a ha) (hhi b hb)⟩
theorem less_hi {l : List MNode} {key : ByteArray} (hr : Rising l) {i : Nat} (hi : i < l.length) (h : lessN l key ≤ i) (hne : l[i].fP.fKey ≠ key) : kLt key l[i].fP.fKey = true := by
  have h1 : kLt l[i].fP.fKey key = false := Bool.eq_false_iff.2 (fun e => by have := (less_iff hr i hi).1 e; omega)
  exact kLt_tri h1 hne
/-- What is in the table behind a put. -/
theorem putN_ok {l : List MNode} {p : MPair} {tw : Int} (hm : memOkP ⟨l⟩ = true) (hp : pairOkP p = true) (ht : inR tw 1 4 = true) (hl : l.length ≠ 60) :
    memOkP ⟨putN l p tw⟩ = true ∧ (∃ y, y ∈ putN l p tw ∧ y.fP = p) ∧ (∀ x, x ∈ l → x.fP.fKey ≠ p.fKey → x ∈ putN l p tw) ∧ ((putN l p tw).length = l.length ↔ hasKey l p.fKey = true) ∧ (putN l p tw).length ≤ l.length + 1 := by
  obtain ⟨h1, h2, h3⟩ := memOk_iff.1 hm
  have hle := lessN_le l p.fKey
  by_cases hs : ∃ hk : lessN l p.fKey < l.length, l[lessN l p.fKey].fP.fKey = p.fKey
  · obtain ⟨hk, e⟩ := hs
    rw [putN_same hk e]
    have hlen : (l.take (lessN l p.fKey) ++ ⟨p, l[lessN l p.fKey].fTower⟩ :: l.drop (lessN l p.fKey + 1)).length = l.length := by simp; omega
    have hmem : ∀ x, x ∈ l.take (lessN l p.fKey) ++ ⟨p, l[lessN l p.fKey].fTower⟩ :: l.drop (lessN l p.fKey + 1) → x ∈ l ∨ x = ⟨p, l[lessN l p.fKey].fTower⟩ := fun x hx => by
      rcases List.mem_append.1 hx with hx | hx
      · exact .inl (List.mem_of_mem_take hx)
      · rcases List.mem_cons.1 hx with hx | hx
        · exact .inr hx
        · exact .inl (List.mem_of_mem_drop hx)
    refine ⟨memOk_iff.2 ⟨by rw [hlen]; exact h1, fun x hx => ?_, ?_⟩, ⟨⟨p, l[lessN l p.fKey].fTower⟩, by simp, rfl⟩, fun x hx hne => ?_, ?_, by rw [hlen]; omega⟩
    · rcases hmem x hx with hx | rfl
      · exact h2 x hx
      · exact ⟨hp, (h2 _ (List.getElem_mem hk)).2⟩
    · refine rise_ins (p := p) rfl h3 rfl (by omega) (fun i hi hji => ?_)
      have := (List.pairwise_iff_getElem.1 h3) _ i hk hi (by omega)
      rw [e] at this
      exact this
    · obtain ⟨i, hi, rfl⟩ := List.mem_iff_getElem.1 hx
      have hik : i ≠ lessN l p.fKey := fun h => hne (by subst h; exact e)
      by_cases hlt : i < lessN l p.fKey
      · exact List.mem_append_left _ (by rw [List.mem_take_iff_getElem]; exact ⟨i, by omega, rfl⟩)
      · refine List.mem_append_right _ (List.mem_cons_of_mem _ ?_)
        rw [List.mem_drop_iff_getElem]
        exact ⟨i - (lessN l p.fKey + 1), by omega, by congr 1; omega⟩
    · rw [hlen]
      exact ⟨fun _ => hasKey_iff.2 ⟨_, List.getElem_mem hk, e⟩, fun _ => rfl⟩
  · have hn : ∀ hk : lessN l p.fKey < l.length, l[lessN l p.fKey].fP.fKey ≠ p.fKey := fun hk e => hs ⟨hk, e⟩
    have hno : ∀ x, x ∈ l → x.fP.fKey ≠ p.fKey := fun x hx e => by
      have h4 := less_at h3 hx e
      have hk : lessN l p.fKey < l.length := (List.getElem?_eq_some_iff.1 h4).1
      exact hn hk (by rw [(List.getElem?_eq_some_iff.1 h4).2]; exact e)
    rw [putN_new hn]
    have hlen : (l.take (lessN l p.fKey) ++ (⟨p, tw⟩ : MNode) :: l.drop (lessN l p.fKey)).length = l.length + 1 := by simp; omega
    refine ⟨memOk_iff.2 ⟨by rw [hlen]; omega, fun x hx => ?_, ?_⟩, ⟨⟨p, tw⟩, by simp, rfl⟩, fun x hx hne => ?_, ?_, by rw [hlen]; omega⟩
    · rcases List.mem_append.1 hx with hx | hx
      · exact h2 x (List.mem_of_mem_take hx)
      · rcases List.mem_cons.1 hx with rfl | hx
        · exact ⟨hp, ht⟩
        · exact h2 x (List.mem_of_mem_drop hx)
    · exact rise_ins (p := p) rfl h3 rfl (Nat.le_refl _) (fun i hi hji => less_hi h3 hi hji (hno _ (List.getElem_mem hi)))
    · rw [← List.take_append_drop (lessN l p.fKey) l, List.mem_append] at hx
      rcases hx with hx | hx
      · exact List.mem_append_left _ hx
      · exact List.mem_append_right _ (List.mem_cons_of_mem _ hx)
    · rw [hlen]
      constructor
      · intro h; omega
      · intro h
        obtain ⟨x, hx, e⟩ := hasKey_iff.1 h
        exact absurd e (hno x hx)
/-- What both sides say of a put: only at a full table that has the key they part. -/
def okI (l : List MNode) (p : MPair) (tw : Int) : Bool := memOkP ⟨l⟩ && pairOkP p && inR tw 1 4 && decide (l.length ≠ 60)
def okS (l : List MNode) (p : MPair) (tw : Int) : Bool := memOkP ⟨l⟩ && pairOkP p && inR tw 1 4 && (hasKey l p.fKey || decide (l.length ≠ 60))
theorem ok_same {l : List MNode} {p : MPair} {tw : Int} (h : l.length ≤ 59 ∨ ∀ x, x ∈ l → x.fP.fKey ≠ p.fKey) : okS l p tw = okI l p tw := by
  unfold okS okI
  rcases h with h | h
  · have : decide (l.length ≠ 60) = true := decide_eq_true (by omega)
    rw [this, Bool.or_true]
  · have : hasKey l p.fKey = false := Bool.eq_false_iff.2 (fun e => by obtain ⟨x, hx, e2⟩ := hasKey_iff.1 e; exact h x hx e2)
    rw [this, Bool.false_or]

end Go.Proofs.YtadadkookbkkoaaDoor
