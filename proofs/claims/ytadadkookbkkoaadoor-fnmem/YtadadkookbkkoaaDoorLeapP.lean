/-
  Of a right table the leaps to a key go farther right each, to lesser keys, and end at the last lesser one: plainly.
-/
import Derived.Test.YtadadkookbkkoaaDoorLeapM
namespace Go.Proofs.YtadadkookbkkoaaDoor
open Go.RowKit
set_option linter.unusedVariables false
set_option linter.unusedSimpArgs false

theorem upFrom_rise : ∀ {l : List MPair} {pv : Option ByteArray}, upFrom pv l = true → l.Pairwise (fun x y => kLt x.fKey y.fKey = true) ∧ ∀ x, x ∈ l → okPrev pv x.fKey = true
  | [], _, _ => ⟨List.Pairwise.nil, fun _ h => by cases h⟩
  | p :: r, pv, h => by
    simp only [upFrom, Bool.and_eq_true] at h
    obtain ⟨h1, h2⟩ := upFrom_rise h.2
    refine ⟨List.pairwise_cons.2 ⟨fun x hx => h2 x hx, h1⟩, fun x hx => ?_⟩
    rcases List.mem_cons.1 hx with rfl | hx
    · exact h.1.2
    · cases pv with
      | none => rfl
      | some s => exact kLt_trans h.1.2 (h2 x hx)

/-- How many keys are less. -/
def lessN (l : List MNode) (key : ByteArray) : Nat := l.countP fun x => kLt x.fP.fKey key
def Rising (l : List MNode) : Prop := l.Pairwise fun x y => kLt x.fP.fKey y.fP.fKey = true
theorem memOk_rise {m : MMem} (h : memOkP m = true) : Rising m.fNodes ∧ ∀ x, x ∈ m.fNodes → 1 ≤ x.fTower := by
  simp only [memOkP, Bool.and_eq_true] at h
  refine ⟨?_, fun x hx => ?_⟩
  · have := (upFrom_rise h.1.2).1
    rw [List.pairwise_map] at this
    exact this
  · have h2 := h.2
    rw [towersP, List.all_eq_true] at h2
    exact (of_decide_eq_true (h2 x hx)).1
theorem less_iff : ∀ {l : List MNode} {key : ByteArray}, Rising l → ∀ i, (hi : i < l.length) → (kLt l[i].fP.fKey key = true ↔ i < lessN l key)
  | [], _, _, i, hi => by simp at hi
  | x :: r, key, hr, i, hi => by
    obtain ⟨h1, h2⟩ := List.pairwise_cons.1 hr
    unfold lessN
    by_cases hx : kLt x.fP.fKey key = true
    · rw [List.countP_cons_of_pos (p := fun x : MNode => kLt x.fP.fKey key) (a := x) hx]
      cases i with
      | zero => simpa using hx
      | succ i =>
        have ih := less_iff (key := key) h2 i (by simpa using hi)
        unfold lessN at ih
        simp only [List.getElem_cons_succ]
        rw [ih]
        omega
    · have hz : r.countP (fun x => kLt x.fP.fKey key) = 0 := by
        rw [List.countP_eq_zero]
        intro y hy hk
        exact hx (kLt_trans (h1 y hy) hk)
      rw [List.countP_cons_of_neg (p := fun x : MNode => kLt x.fP.fKey key) (a := x) hx, hz]
      cases i with
      | zero => simpa using hx
      | succ i =>
        simp only [List.getElem_cons_succ]
        have hm : r[i]'(by simpa using hi) ∈ r := List.getElem_mem _
        exact ⟨fun hk => absurd (kLt_trans (h1 _ hm) hk) hx, fun h => by omega⟩
theorem lessN_le (l : List MNode) (key : ByteArray) : lessN l key ≤ l.length := List.countP_le_length

structure Way (o : List Int) (p q : Int) (n : Nat) : Prop where
  mem : ∀ x, x ∈ o → p < x ∧ x ≤ q
  up : o.Pairwise (· < ·)
  le : p ≤ q
  lt : q < n
  nil : o = [] → q = p
  last : ∀ h : o ≠ [], o.getLast h = q

theorem leap1_way {l : List MNode} {key : ByteArray} {h : Int} (hr : Rising l) : ∀ (d k : Nat) (p : Int), d + k = l.length → p < k → p < lessN l key →
    Way (leap1 h key (l.drop k) k p).1 p (leap1 h key (l.drop k) k p).2 (lessN l key) ∧ ((∀ x, x ∈ l → h ≤ x.fTower) → p + 1 = k → (leap1 h key (l.drop k) k p).2 + 1 = lessN l key)
  | 0, k, p, hd, hpk, hpl => by
    rw [List.drop_eq_nil_of_le (by omega)]
    simp only [leap1]
    refine ⟨⟨fun _ h => (List.not_mem_nil h).elim, List.Pairwise.nil, Int.le_refl _, hpl, fun _ => rfl, fun h => (h rfl).elim⟩, fun _ hk => ?_⟩
    have := lessN_le l key
    omega
  | d + 1, k, p, hd, hpk, hpl => by
    have hk : k < l.length := by omega
    have hiff := less_iff (key := key) hr k hk
    rw [List.drop_eq_getElem_cons hk, leap1]
    by_cases h1 : l[k].fTower < h
    · rw [if_pos h1]
      obtain ⟨a, b⟩ := leap1_way (h := h) (key := key) hr d (k + 1) p (by omega) (by omega) hpl
      exact ⟨a, fun hall _ => by have := hall l[k] (List.getElem_mem hk); omega⟩
    · rw [if_neg h1]
      by_cases h2 : kLt l[k].fP.fKey key = true
      · rw [if_pos h2]
        have hkl := hiff.1 h2
        obtain ⟨a, b⟩ := leap1_way (h := h) (key := key) hr d (k + 1) (k : Int) (by omega) (by omega) (by omega)
        refine ⟨⟨fun x hx => ?_, ?_, ?_, a.lt, fun he => (List.cons_ne_nil _ _ he).elim, fun hne => ?_⟩, fun hall _ => b hall (by omega)⟩
        · rcases List.mem_cons.1 hx with rfl | hx
          · exact ⟨hpk, a.le⟩
          · have := a.mem x hx; omega
        · exact List.pairwise_cons.2 ⟨fun x hx => (a.mem x hx).1, a.up⟩
        · have := a.le; show p ≤ _; omega
        · by_cases he : (leap1 h key (l.drop (k + 1)) (k + 1) (k : Int)).1 = []
          · simp only [he, List.getLast_singleton]
            exact (a.nil he).symm
          · rw [List.getLast_cons he]
            exact a.last he
      · rw [if_neg h2]
        refine ⟨⟨fun _ h => (List.not_mem_nil h).elim, List.Pairwise.nil, Int.le_refl _, hpl, fun _ => rfl, fun h => (h rfl).elim⟩, fun _ hk2 => ?_⟩
        have : ¬ k < lessN l key := fun h => h2 (hiff.2 h)
        show p + 1 = _
        omega

theorem leapF_way {l : List MNode} {key : ByteArray} (hr : Rising l) (ht : ∀ x, x ∈ l → 1 ≤ x.fTower) : ∀ (h : Nat) (p : Int), -1 ≤ p → p < lessN l key →
    (∀ x, x ∈ leapF h key l p → p < x ∧ x < lessN l key) ∧ (leapF h key l p).Pairwise (· < ·) ∧ (1 ≤ h → (leapF h key l p = [] → p + 1 = lessN l key) ∧ ∀ hne : leapF h key l p ≠ [], (leapF h key l p).getLast hne + 1 = lessN l key)
  | 0, p, _, _ => ⟨fun _ h => (List.not_mem_nil h).elim, List.Pairwise.nil, fun h => by omega⟩
  | h + 1, p, hp, hpl => by
    have hln := lessN_le l key
    obtain ⟨a, b⟩ := leap1_way (h := ((h + 1 : Nat) : Int)) (key := key) hr (l.length - (p + 1).toNat) (p + 1).toNat p (by omega) (by omega) hpl
    rw [leapF]
    generalize hq : leap1 ((h + 1 : Nat) : Int) key (l.drop (p + 1).toNat) (p + 1).toNat p = q at *
    obtain ⟨c1, c2, c3⟩ := leapF_way hr ht h q.2 (by have := a.le; omega) a.lt
    refine ⟨fun x hx => ?_, List.pairwise_append.2 ⟨a.up, c2, fun x hx y hy => ?_⟩, fun _ => ?_⟩
    · rcases List.mem_append.1 hx with hx | hx
      · have := a.mem x hx; have := a.lt; omega
      · have := c1 x hx; have := a.le; omega
    · have := a.mem x hx; have := c1 y hy; omega
    · cases h with
      | zero =>
        have hb := b (fun x hx => ht x hx) (by omega)
        simp only [leapF, List.append_nil]
        exact ⟨fun he => by rw [a.nil he] at hb; exact hb, fun hne => by rw [a.last hne]; exact hb⟩
      | succ h =>
        obtain ⟨d1, d2⟩ := c3 (by omega)
        refine ⟨fun he => ?_, fun hne => ?_⟩
        · obtain ⟨e1, e2⟩ := List.append_eq_nil_iff.1 he
          have := d1 e2
          rw [a.nil e1] at this
          exact this
        · by_cases he : leapF (h + 1) key l q.2 = []
          · have hq1 : q.1 ≠ [] := fun h1 => hne (by rw [h1, he]; rfl)
            simp only [he, List.append_nil]
            rw [a.last hq1]
            exact d1 he
          · rw [List.getLast_append_of_ne_nil _ he]
            exact d2 he

end Go.Proofs.YtadadkookbkkoaaDoor
