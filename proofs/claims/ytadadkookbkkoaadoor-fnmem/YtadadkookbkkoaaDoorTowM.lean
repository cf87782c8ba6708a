/-
  Towers that reach to the right by pointers: which is next at a height, and how blocks stand for them; no function of the program is named here.
-/
import Derived.Test.YtadadkookbkkoaaDoorLeapM
namespace Go.Proofs.YtadadkookbkkoaaDoor
open Go.RowKit Go.Maps
set_option linter.unusedVariables false
set_option linter.unusedSimpArgs false
set_option maxRecDepth 10000

/-- How high the tower at an index is: the one ahead of all has full height. -/
def hgt (l : List MNode) : Nat → Nat
  | 0 => 4
  | i + 1 => (min ((l[i]?.map MNode.fTower).getD 0) 4).toNat
theorem hgt_le (l : List MNode) (i : Nat) : hgt l i ≤ 4 := by
  cases i with
  | zero => exact Nat.le_refl _
  | succ i => show (min ((l[i]?.map MNode.fTower).getD 0) 4).toNat ≤ 4; omega
theorem hgt_at {l : List MNode} {i : Nat} (h : i < l.length) : hgt l (i + 1) = (min l[i].fTower 4).toNat := by
  show (min ((l[i]?.map MNode.fTower).getD 0) 4).toNat = _
  rw [List.getElem?_eq_getElem h]; rfl
theorem hgt_tall {l : List MNode} {i h : Nat} (hi : i < l.length) (h4 : h < 4) : h < hgt l (i + 1) ↔ ¬ l[i].fTower < ((h + 1 : Nat) : Int) := by
  rw [hgt_at hi]; omega

/-- The last of the first k that is higher than h. -/
def lst (l : List MNode) : Nat → Nat → Nat
  | 0, _ => 0
  | k + 1, h => if h < hgt l (k + 1) then k + 1 else lst l k h
/-- Which of the first k is next to the right of j at height h. -/
def nx (l : List MNode) : Nat → Nat → Nat → Option Nat
  | 0, _, _ => none
  | k + 1, j, h => if h < hgt l (k + 1) ∧ j = lst l k h then some (k + 1) else nx l k j h

theorem lst_le (l : List MNode) : ∀ k h, lst l k h ≤ k
  | 0, _ => Nat.le_refl _
  | k + 1, h => by
    unfold lst
    split
    · omega
    · have := lst_le l k h; omega
theorem lst_tall (l : List MNode) {h : Nat} (h4 : h < 4) : ∀ k, h < hgt l (lst l k h)
  | 0 => h4
  | k + 1 => by
    unfold lst
    split
    · assumption
    · exact lst_tall l h4 k
theorem lst_max (l : List MNode) {h : Nat} : ∀ k i, lst l k h < i → i ≤ k → ¬ h < hgt l i
  | 0, i, h1, h2 => by omega
  | k + 1, i, h1, h2 => by
    unfold lst at h1
    split at h1
    · omega
    · next hh =>
      by_cases he : i = k + 1
      · rw [he]; exact hh
      · exact lst_max l k i h1 (by omega)
theorem nx_over (l : List MNode) {j h : Nat} : ∀ k, k < j → nx l k j h = none
  | 0, _ => rfl
  | k + 1, hk => by
    unfold nx
    have := lst_le l k h
    rw [if_neg (by omega)]
    exact nx_over l k (by omega)
theorem nx_le (l : List MNode) {j h i : Nat} : ∀ k, nx l k j h = some i → i ≤ k
  | 0, hk => by cases hk
  | k + 1, hk => by
    unfold nx at hk
    split at hk
    · cases hk; omega
    · have := nx_le l k hk; omega
theorem nx_some (l : List MNode) {h : Nat} (h4 : h < 4) {j i : Nat} (hj : h < hgt l j) : ∀ k, j ≤ k → nx l k j h = some i → j < i ∧ i ≤ k ∧ h < hgt l i ∧ ∀ i', j < i' → i' < i → ¬ h < hgt l i'
  | 0, _, hk => by cases hk
  | k + 1, hjk, hk => by
    unfold nx at hk
    split at hk
    · next hc =>
      cases hk
      have := lst_le l k h
      exact ⟨by omega, Nat.le_refl _, hc.1, fun i' h1 h2 => lst_max l k i' (by omega) (by omega)⟩
    · by_cases he : j = k + 1
      · rw [he, nx_over l k (by omega)] at hk; cases hk
      · obtain ⟨a, b, c, d⟩ := nx_some l h4 hj k (by omega) hk
        exact ⟨a, by omega, c, d⟩
theorem nx_none (l : List MNode) {h : Nat} (h4 : h < 4) {j : Nat} (hj : h < hgt l j) : ∀ k, j ≤ k → nx l k j h = none → ∀ i', j < i' → i' ≤ k → ¬ h < hgt l i'
  | 0, _, _, i', h1, h2 => by omega
  | k + 1, hjk, hk, i', h1, h2 => by
    unfold nx at hk
    split at hk
    · cases hk
    · next hc =>
      have hle := lst_le l k h
      by_cases he : j = k + 1
      · omega
      · have ih := nx_none l h4 hj k (by omega) hk
        by_cases hi : i' = k + 1
        · subst hi
          intro hh
          apply hc
          refine ⟨hh, ?_⟩
          rcases Nat.lt_trichotomy j (lst l k h) with h3 | h3 | h3
          · exact absurd (lst_tall l h4 k) (ih _ h3 hle)
          · exact h3
          · exact absurd hj (lst_max l k j h3 (by omega))
        · exact ih i' h1 (by omega)

/-- On the way at one height: the next tower that is high enough decides. -/
theorem leap1_far {l : List MNode} {key : ByteArray} {h : Nat} (h4 : h < 4) : ∀ (d j : Nat) (p : Int), j + d < l.length → (∀ i', j < i' → i' < j + d + 1 → ¬ h < hgt l i') →
    leap1 (h + 1 : Nat) key (l.drop j) j p = leap1 (h + 1 : Nat) key (l.drop (j + d)) (j + d) p
  | 0, j, p, _, _ => rfl
  | d + 1, j, p, hl, hn => by
    have hj : j < l.length := by omega
    have h1 := hn (j + 1) (by omega) (by omega)
    rw [hgt_tall hj h4, Classical.not_not] at h1
    rw [List.drop_eq_getElem_cons hj, leap1, if_pos h1, leap1_far h4 d (j + 1) p (by omega) (fun i' a b => hn i' (by omega) (by omega))]
    congr 1 <;> first | rfl | (congr 1; omega) | omega
theorem leap1_next {l : List MNode} {key : ByteArray} {h j i : Nat} (h4 : h < 4) (p : Int) (hji : j < i) (hil : i ≤ l.length) (ht : h < hgt l i) (hn : ∀ i', j < i' → i' < i → ¬ h < hgt l i') (hi : i - 1 < l.length) :
    leap1 (h + 1 : Nat) key (l.drop j) j p = if kLt l[i - 1].fP.fKey key then (((i - 1 : Nat) : Int) :: (leap1 (h + 1 : Nat) key (l.drop i) i ((i - 1 : Nat) : Int)).1, (leap1 (h + 1 : Nat) key (l.drop i) i ((i - 1 : Nat) : Int)).2) else ([], p) := by
  obtain ⟨d, rfl⟩ : ∃ d, i = j + d + 1 := ⟨i - j - 1, by omega⟩
  have hjd : j + d < l.length := by omega
  rw [leap1_far h4 d j p hjd (fun i' a b => hn i' a b), List.drop_eq_getElem_cons hjd]
  rw [hgt_tall hjd h4] at ht
  rw [leap1, if_neg ht]
  simp only [Nat.add_sub_cancel]
theorem leap1_stop {l : List MNode} {key : ByteArray} {h j : Nat} (h4 : h < 4) (p : Int) (hn : ∀ i', j < i' → i' ≤ l.length → ¬ h < hgt l i') : leap1 (h + 1 : Nat) key (l.drop j) j p = ([], p) := by
  by_cases hj : j < l.length
  · obtain ⟨d, hd⟩ : ∃ d, j + d + 1 = l.length := ⟨l.length - j - 1, by omega⟩
    have hjd : j + d < l.length := by omega
    rw [leap1_far h4 d j p hjd (fun i' a b => hn i' a (by omega)), List.drop_eq_getElem_cons hjd]
    have h1 := hn (j + d + 1) (by omega) (by omega)
    rw [hgt_tall hjd h4, Classical.not_not] at h1
    rw [leap1, if_pos h1, List.drop_eq_nil_of_le (by omega)]
    rfl
  · rw [List.drop_eq_nil_of_le (by omega)]
    rfl

/-- What a tower stands on. -/
def itm (l : List MNode) : Nat → List Value
  | 0 => [.string ByteArray.empty, .string ByteArray.empty, .bool false, .int .i64 0, .int .i64 0]
  | i + 1 => (l[i]?).elim [] fun x => [.string x.fP.fKey, .string x.fP.fVal, .bool x.fP.fGone, .int .i64 x.fTower, .int .i64 i]
theorem itm_at {l : List MNode} {i : Nat} (h : i < l.length) : itm l (i + 1) = [.string l[i].fP.fKey, .string l[i].fP.fVal, .bool l[i].fP.fGone, .int .i64 l[i].fTower, .int .i64 i] := by
  simp only [itm, List.getElem?_eq_getElem h, Option.elim]
theorem itm_len {l : List MNode} {j : Nat} (h : j ≤ l.length) : (itm l j).length = 5 := by
  cases j with
  | zero => rfl
  | succ i => rw [itm_at (by omega)]; rfl
def pv (B : Nat → Nat) : Option Nat → Value
  | none => .pointer none
  | some i => .pointer (some ⟨B i, 0, none⟩)
def towV (l : List MNode) (B : Nat → Nat) (R : Nat → Option Nat) (j : Nat) : List Value := itm l j ++ [pv B (R 0), pv B (R 1), pv B (R 2), pv B (R 3)]
def lastV (B : Nat → Nat) (L : Nat → Nat) : List Value := [pv B (some (L 0)), pv B (some (L 1)), pv B (some (L 2)), pv B (some (L 3))]
theorem towV_right {l : List MNode} {B : Nat → Nat} {R : Nat → Option Nat} {j h : Nat} (hj : j ≤ l.length) (h4 : h < 4) : (towV l B R j)[5 + h]? = some (pv B (R h)) := by
  unfold towV
  rw [List.getElem?_append_right (by rw [itm_len hj]; omega), itm_len hj, Nat.add_sub_cancel_left]
  rcases h with _ | _ | _ | _ | h <;> first | rfl | omega
theorem towV_set {l : List MNode} {B : Nat → Nat} {R R' : Nat → Option Nat} {j h : Nat} {v : Value} (hj : j ≤ l.length) (h4 : h < 4) (hv : pv B (R' h) = v) (ho : ∀ h', h' ≠ h → R' h' = R h') : (towV l B R j).set (5 + h) v = towV l B R' j := by
  unfold towV
  rw [List.set_append_right _ _ (by rw [itm_len hj]; omega), itm_len hj, Nat.add_sub_cancel_left, ← hv]
  congr 1
  rcases h with _ | _ | _ | _ | h
  · simp only [List.set_cons_zero]; rw [ho 1 (by omega), ho 2 (by omega), ho 3 (by omega)]
  · simp only [List.set_cons_succ, List.set_cons_zero]; rw [ho 0 (by omega), ho 2 (by omega), ho 3 (by omega)]
  · simp only [List.set_cons_succ, List.set_cons_zero]; rw [ho 0 (by omega), ho 1 (by omega), ho 3 (by omega)]
  · simp only [List.set_cons_succ, List.set_cons_zero]; rw [ho 0 (by omega), ho 1 (by omega), ho 2 (by omega)]
  · omega
theorem towV_congr {l : List MNode} {B B' : Nat → Nat} {R R' : Nat → Option Nat} {j : Nat} (h : ∀ h', h' < 4 → pv B (R h') = pv B' (R' h')) : towV l B R j = towV l B' R' j := by
  unfold towV
  rw [h 0 (by omega), h 1 (by omega), h 2 (by omega), h 3 (by omega)]
theorem lastV_at {B : Nat → Nat} {L : Nat → Nat} {h : Nat} (h4 : h < 4) : (lastV B L)[h]? = some (.pointer (some ⟨B (L h), 0, none⟩)) := by
  rcases h with _ | _ | _ | _ | h <;> first | rfl | omega
theorem lastV_set {B : Nat → Nat} {L L' : Nat → Nat} {h : Nat} {v : Value} (h4 : h < 4) (hv : pv B (some (L' h)) = v) (ho : ∀ h', h' ≠ h → L' h' = L h') : (lastV B L).set h v = lastV B L' := by
  unfold lastV
  rw [← hv]
  rcases h with _ | _ | _ | _ | h
  · simp only [List.set_cons_zero]; rw [ho 1 (by omega), ho 2 (by omega), ho 3 (by omega)]
  · simp only [List.set_cons_succ, List.set_cons_zero]; rw [ho 0 (by omega), ho 2 (by omega), ho 3 (by omega)]
  · simp only [List.set_cons_succ, List.set_cons_zero]; rw [ho 0 (by omega), ho 1 (by omega), ho 3 (by omega)]
  · simp only [List.set_cons_succ, List.set_cons_zero]; rw [ho 0 (by omega), ho 1 (by omega), ho 2 (by omega)]
  · omega
theorem lastV_congr {B B' : Nat → Nat} {L L' : Nat → Nat} (h : ∀ h', h' < 4 → B (L h') = B' (L' h')) : lastV B L = lastV B' L' := by
  unfold lastV pv
  simp only
  rw [h 0 (by omega), h 1 (by omega), h 2 (by omega), h 3 (by omega)]

/-- Within one item's turn: below height h the new tower is tied in. -/
def nxM (l : List MNode) (k h : Nat) (j h' : Nat) : Option Nat := if h' < h then nx l (k + 1) j h' else nx l k j h'
def lstM (l : List MNode) (k h : Nat) (h' : Nat) : Nat := if h' < h then lst l (k + 1) h' else lst l k h'
theorem nxM_zero (l : List MNode) (k j : Nat) : nxM l k 0 j = nx l k j := by funext h'; unfold nxM; rw [if_neg (by omega)]
theorem lstM_zero (l : List MNode) (k : Nat) : lstM l k 0 = lst l k := by funext h'; unfold lstM; rw [if_neg (by omega)]
theorem nxM_full (l : List MNode) (k j : Nat) {h : Nat} (hh : h = hgt l (k + 1)) : nxM l k h j = nx l (k + 1) j := by
  funext h'
  unfold nxM
  split
  · rfl
  · rw [nx, if_neg (by omega)]
theorem lstM_full (l : List MNode) (k : Nat) {h : Nat} (hh : h = hgt l (k + 1)) : lstM l k h = lst l (k + 1) := by
  funext h'
  unfold lstM
  split
  · rfl
  · rw [lst, if_neg (by omega)]
theorem lstM_at (l : List MNode) (k h : Nat) : lstM l k h h = lst l k h := by unfold lstM; rw [if_neg (by omega)]
theorem nxM_step {l : List MNode} {k h j : Nat} (hh : h < hgt l (k + 1)) : (j = lst l k h → nxM l k (h + 1) j h = some (k + 1)) ∧ (j ≠ lst l k h → nxM l k (h + 1) j = nxM l k h j) ∧ ∀ h', h' ≠ h → nxM l k (h + 1) j h' = nxM l k h j h' := by
  have hother : ∀ h', h' ≠ h → nxM l k (h + 1) j h' = nxM l k h j h' := by
    intro h' hne
    unfold nxM
    by_cases h1 : h' < h
    · rw [if_pos (by omega), if_pos h1]
    · rw [if_neg (by omega), if_neg h1]
  refine ⟨fun hj => ?_, fun hj => ?_, hother⟩
  · unfold nxM; rw [if_pos (by omega), nx, if_pos ⟨hh, hj⟩]
  · funext h'
    by_cases he : h' = h
    · subst he; unfold nxM; rw [if_pos (by omega), if_neg (by omega), nx, if_neg (fun hc => hj hc.2)]
    · exact hother h' he
theorem lstM_step {l : List MNode} {k h : Nat} (hh : h < hgt l (k + 1)) : lstM l k (h + 1) h = k + 1 ∧ ∀ h', h' ≠ h → lstM l k (h + 1) h' = lstM l k h h' := by
  refine ⟨?_, fun h' hne => ?_⟩
  · unfold lstM; rw [if_pos (by omega), lst, if_pos hh]
  · unfold lstM
    by_cases h1 : h' < h
    · rw [if_pos (by omega), if_pos h1]
    · rw [if_neg (by omega), if_neg h1]
theorem nxM_le {l : List MNode} {k h j h' i : Nat} (he : nxM l k h j h' = some i) : i ≤ k + 1 := by
  unfold nxM at he
  split at he
  · exact nx_le l _ he
  · have := nx_le l _ he; omega

end Go.Proofs.YtadadkookbkkoaaDoor
