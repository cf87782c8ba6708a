/-
  The specification's order, step by step, plainly.
-/
import Derived.Test.YtmigamgcmhdncaaDoorRdyS
namespace Go.Proofs.YtmigamgcmhdncaaDoor
open Go.RowKit
set_option linter.unusedVariables false
set_option linter.unusedSimpArgs false

theorem inK_iff {l : List MItem} {n : Nat} (hx : n = l.length) {R : Nat → Nat → Bool} (hR : ∀ a b, a < n → (R a b = true ↔ Reach l a b)) {k i : Nat} (hk : k < n) (hi : i < n) : inK R k i = true ↔ ring l k i := by
  unfold inK ring
  rw [Bool.or_eq_true, Bool.and_eq_true, decide_eq_true_iff, hR k i hk, hR i k hi]
  exact or_congr_right ⟨fun h => ⟨h.2, h.1⟩, fun h => ⟨h.2, h.1⟩⟩
/-- The specification's question is whether all that is needed is taken. -/
theorem ready_iff {l : List MItem} {n : Nat} (hx : n = l.length) {R : Nat → Nat → Bool} (hR : ∀ a b, a < n → (R a b = true ↔ Reach l a b)) {qs : List Nat} (ho : OrdOk l qs) {D : Nat → Bool} (hD : ∀ j, j < n → (D j = true ↔ takenBy l qs j)) {k : Nat} (hk : k < n) :
    readyP l R D k ↔ ∀ j, Reach l k j → ¬ ring l k j → takenBy l qs j := by
  constructor
  · intro h j hj hn
    have key : takenBy l qs j ∨ ring l k j := by
      have step : ∀ i x, ring l k i → i < l.length → stepTo l i x → takenBy l qs x ∨ ring l k x := by
        rintro i x hr hi ⟨_, hxl, d, hd, hs⟩
        have h1 := h i hi ((inK_iff hx hR hk (by omega)).2 hr) d hd x hxl hs
        rw [Bool.or_eq_true] at h1
        exact h1.imp (hD x (by omega)).1 (inK_iff hx hR hk (by omega)).1
      refine reach_of (M := fun x => takenBy l qs x ∨ ring l k x) (fun x hs => step k x (ring.refl _ _) (by omega) hs) (fun x y hM hs => ?_) hj
      rcases hM with hM | hM
      · exact .inl (ho.closed hM (Reach.base hs))
      · exact step x y hM (hM.lt (by omega)) hs
    exact key.resolve_right hn
  · intro h i hi hin d hd t ht hs
    have hr := (inK_iff hx hR hk (by omega)).1 hin
    have hst : stepTo l i t := ⟨hi, ht, d, hd, hs⟩
    have hkt : Reach l k t := by
      rcases hr with rfl | hr
      · exact Reach.base hst
      · exact hr.2.step hst
    rw [Bool.or_eq_true]
    by_cases hrt : ring l k t
    · exact .inr ((inK_iff hx hR hk (by omega)).2 hrt)
    · exact .inl ((hD t (by omega)).2 (h t hkt hrt))
/-- What was done, and what is out. -/
structure DoneSt (l : List MItem) (n : Nat) (qs : List Nat) (dn : List Bool) (L : List MDot) : Prop where
  ord : OrdOk l qs
  len : dn.length = n
  got : ∀ j, j < n → (dn.getD j false = true ↔ takenBy l qs j)
  dots : DotsOf l qs L
theorem DoneSt.start {l : List MItem} {n : Nat} : DoneSt l n [] (List.replicate n false) [] :=
  ⟨OrdOk.nil l, by simp, fun j hj => by
    rw [List.getD_eq_getElem?_getD, List.getElem?_replicate]
    constructor
    · intro h; split at h <;> cases h
    · intro h; exact (takenBy_nil h).elim, DotsOf.nil l⟩
theorem DoneSt.cand {l : List MItem} {n : Nat} (hx : n = l.length) {qs : List Nat} {dn : List Bool} {L : List MDot} (h : DoneSt l n qs dn L) {R : Nat → Nat → Bool} (hR : ∀ a b, a < n → (R a b = true ↔ Reach l a b)) {k : Nat} (hk : k < n) :
    cand l qs k ↔ wholeAt l k ∧ dn.getD k false = false ∧ readyP l R (fun j => dn.getD j false) k := by
  rw [ready_iff hx hR h.ord h.got hk]
  unfold Go.Proofs.YtmigamgcmhdncaaDoor.cand
  constructor
  · rintro ⟨_, h2, h3, h4⟩
    exact ⟨h2, Bool.eq_false_iff.2 (fun hc => h3 ((h.got k hk).1 hc)), h4⟩
  · rintro ⟨h2, h3, h4⟩
    exact ⟨by omega, h2, (fun ht => by rw [(h.got k hk).2 ht] at h3; cases h3), h4⟩
/-- One group more: the flags of its ring are set, its dots are behind. -/
theorem DoneSt.take {l : List MItem} {n : Nat} (hx : n = l.length) {qs : List Nat} {dn dn2 : List Bool} {L : List MDot} (h : DoneSt l n qs dn L) {R : Nat → Nat → Bool} (hR : ∀ a b, a < n → (R a b = true ↔ Reach l a b)) {k : Nat} (hk : k < n) (hc : nextOk l qs k) (hl : dn2.length = n) (h2 : ∀ j, j < n → dn2.getD j false = (dn.getD j false || inK R k j)) : DoneSt l n (qs ++ [k]) dn2 (L ++ pickT (inK R k) l n) := by
  refine ⟨h.ord.snoc hc, hl, fun j hj => ?_, ?_⟩
  · rw [h2 j hj, Bool.or_eq_true, h.got j hj, inK_iff hx hR hk hj, takenBy_snoc]
  · rw [hx]
    exact h.dots.snoc ⟨inK R k, fun j hj => inK_iff hx hR hk (by omega), rfl⟩
/-- How many flags are not set. -/
def undone (dn : List Bool) : Nat := dn.countP (fun b => !b)
theorem undone_lt {dn dn2 : List Bool} (hl : dn2.length = dn.length) (h : ∀ j, j < dn.length → dn.getD j false = true → dn2.getD j false = true) {k : Nat} (hk : k < dn.length) (h1 : dn.getD k false = false) (h2 : dn2.getD k false = true) : undone dn2 < undone dn := by
  have key : ∀ d : List Bool, undone d = (List.range d.length).countP (fun j => !d.getD j false) := by
    intro d
    induction d with
    | nil => rfl
    | cons a r ih =>
      have e : (List.range (a :: r).length) = 0 :: (List.range r.length).map (· + 1) := by rw [List.length_cons, List.range_succ_eq_map]
      rw [e, List.countP_cons, List.countP_map]
      unfold undone at ih ⊢
      rw [List.countP_cons, ih]
      rfl
  rw [key dn2, key dn, hl]
  refine countP_lt (fun x hx hp => ?_) ⟨k, List.mem_range.2 hk, by rw [h1]; rfl, by rw [h2]; rfl⟩
  rcases hd : dn.getD x false with _ | _
  · rfl
  · rw [h x (List.mem_range.1 hx) hd] at hp; cases hp

end Go.Proofs.YtmigamgcmhdncaaDoor
