/-
  The words of a text, plainly: how long they are, what a manifest weighs that is read of them; a text that is no right manifest's is none.
-/
import Derived.Test.YtnohnkcijomdjaaGreatDoorWrdQ
import Derived.Test.YtnohnkcijomdjaaGreatDoorParW
import Derived.Shelf.Strings.FieldsAny
namespace Go.Proofs.YtnohnkcijomdjaaGreatDoor
open Go.RowKit Go.Maps Go.Shelf
set_option linter.unusedVariables false
set_option linter.unusedSimpArgs false

theorem sumL_app : ∀ (a b : List (List UInt8)), sumL (a ++ b) = sumL a + sumL b
  | [], b => by simp [sumL, sumW]
  | x :: a, b => by have := sumL_app a b; simp only [sumL, List.cons_append, sumW] at this ⊢; omega
theorem sumL_one (x : List UInt8) : sumL [x] = x.length := by simp [sumL, sumW]
theorem cur_sum (cur : List UInt8) : sumL (if cur = [] then [] else [cur]) = cur.length := by
  by_cases h : cur = []
  · rw [if_pos h, h]; rfl
  · rw [if_neg h, sumL_one]
theorem cur_ne {cur x : List UInt8} (h : x ∈ (if cur = [] then [] else [cur])) : x ≠ [] := by
  by_cases hc : cur = []
  · rw [if_pos hc] at h; cases h
  · rw [if_neg hc] at h; simp at h; rw [h]; exact hc
theorem fieldsGo_sum : ∀ (f : Nat) (cur l : List UInt8), sumL (Lib.fieldsGoD f cur l) ≤ cur.length + l.length ∧ ∀ x, x ∈ Lib.fieldsGoD f cur l → x ≠ []
  | 0, cur, l => by
    unfold Lib.fieldsGoD
    rw [cur_sum]
    exact ⟨by omega, fun x hx => cur_ne hx⟩
  | f + 1, cur, l => by
    unfold Lib.fieldsGoD
    split
    · rw [cur_sum]; exact ⟨by omega, fun x hx => cur_ne hx⟩
    · split
      · obtain ⟨h1, h2⟩ := fieldsGo_sum f [] (l.drop (Lib.decodeL l).2)
        rw [sumL_app, cur_sum]
        rw [List.length_drop] at h1
        refine ⟨by simp only [List.length_nil] at h1; omega, fun x hx => ?_⟩
        rcases List.mem_append.1 hx with hx | hx
        · exact cur_ne hx
        · exact h2 x hx
      · obtain ⟨h1, h2⟩ := fieldsGo_sum f (cur ++ l.take (Lib.decodeL l).2) (l.drop (Lib.decodeL l).2)
        rw [List.length_drop, List.length_append, List.length_take] at h1
        exact ⟨by omega, h2⟩
theorem fields_sum (l : List UInt8) : sumL (Lib.fieldsD l) ≤ l.length := by
  have := (fieldsGo_sum (l.length + 1) [] l).1
  rw [List.length_nil, Nat.zero_add] at this
  exact this
theorem sumL_mem : ∀ {L : List (List UInt8)} {x : List UInt8}, x ∈ L → x.length ≤ sumL L
  | y :: L, x, h => by
    simp only [sumL, sumW]
    rcases List.mem_cons.1 h with rfl | h
    · omega
    · have := sumL_mem h; simp only [sumL] at this; omega
theorem sumL_count : ∀ {L : List (List UInt8)}, (∀ x, x ∈ L → x ≠ []) → L.length ≤ sumL L
  | [], _ => by simp
  | y :: L, h => by
    have h1 := sumL_count (L := L) (fun x hx => h x (by simp [hx]))
    have h2 : 0 < y.length := List.length_pos_iff.2 (h y (by simp))
    simp only [sumL, sumW, List.length_cons] at h1 ⊢
    omega
theorem fields_count (l : List UInt8) : (Lib.fieldsD l).length ≤ l.length :=
  Nat.le_trans (sumL_count (fieldsGo_sum (l.length + 1) [] l).2) (fields_sum l)
theorem fields_len {l x : List UInt8} (h : x ∈ Lib.fieldsD l) : x.length ≤ l.length := Nat.le_trans (sumL_mem h) (fields_sum l)

theorem sumL_head : ∀ l : List (List UInt8), sumL l = (l.headD []).length + sumL l.tail
  | [] => rfl
  | x :: l => rfl
theorem digs_head (l : List (List UInt8)) : (digsP l).1.length ≤ (l.headD []).length := by
  cases l with
  | nil => simp [digsP]
  | cons x l => simp only [digsP]; cases digW x <;> simp
theorem key_head (l : List (List UInt8)) : (keyP l).1.length ≤ (l.headD []).length :=
  Nat.le_trans (unk_len _ _ (Nat.le_refl _)) (digs_head l)
theorem name_head (l : List (List UInt8)) : (nameP l).1.length ≤ (l.headD []).length := by
  cases l with
  | nil => simp [nameP]
  | cons x l => simp only [nameP]; cases digW x <;> simp
theorem row_weight (l : List (List UInt8)) (h : (nameP l).1 = tabW) : 1 + wMeta (rowM l.tail) + sumL l.tail.tail.tail.tail.tail ≤ sumL l := by
  have h0 := name_head l
  rw [h] at h0
  have h3 := key_head l.tail.tail.tail
  have h4 := key_head l.tail.tail.tail.tail
  have e0 := sumL_head l
  have e1 := sumL_head l.tail
  have e2 := sumL_head l.tail.tail
  have e3 := sumL_head l.tail.tail.tail
  have e4 := sumL_head l.tail.tail.tail.tail
  have ht : tabW.length = 3 := rfl
  simp only [wMeta, rowM, strB_size]
  omega
theorem tabs_weight : ∀ (f : Nat) (l : List (List UInt8)) (b : Bool) (ts : List MMeta), (rdTabs f l b ts).2 = false → (rdTabs f l b ts).1.length + sumW wMeta (rdTabs f l b ts).1 ≤ ts.length + sumW wMeta ts + sumL l
  | 0, l, b, ts, h => by cases h
  | f + 1, l, b, ts, h => by
    unfold rdTabs at h ⊢
    cases b
    · simp only [cond_false] at h ⊢
      by_cases he : (nameP l).1 = endW
      · rw [decide_eq_true he] at h ⊢
        simp only [cond_true]
        omega
      · rw [decide_eq_false he] at h ⊢
        simp only [cond_false] at h ⊢
        have ih := tabs_weight f _ _ _ h
        have hb : rowB l.tail (tabB l false) = false := by
          cases hq : rowB l.tail (tabB l false)
          · rfl
          · rw [hq] at h
            cases f <;> cases h
        have hn : (nameP l).1 = tabW := by
          unfold rowB at hb
          simp only [Bool.or_eq_false_iff] at hb
          have h1 := hb.1.1.1.1
          unfold tabB at h1
          simp only [Bool.or_eq_false_iff, Bool.not_eq_false'] at h1
          exact of_decide_eq_true h1.2
        have hw := row_weight l hn
        rw [List.length_append, sumW_snoc] at ih
        simp only [List.length_cons, List.length_nil] at ih
        omega
    · cases h
theorem man_weight (l : List (List UInt8)) (h : (rdMan l).2 = false) : wManifest (rdMan l).1 ≤ sumL l := by
  have h1 := tabs_weight _ _ _ _ h
  have e0 := sumL_head l
  have e1 := sumL_head l.tail
  have e2 := sumL_head l.tail.tail
  have e3 := sumL_head l.tail.tail.tail
  show (rdTabs (l.length + 2) l.tail.tail.tail.tail (headB l) []).1.length + sumW wMeta (rdTabs (l.length + 2) l.tail.tail.tail.tail (headB l) []).1 ≤ _
  simp only [List.length_nil, sumW] at h1
  omega

/-! A right manifest's text is plain. -/
theorem hex_lt {s : ByteArray} {b : UInt8} (h : b ∈ hexT s) : b.toNat < 128 := by
  unfold hexT at h
  rw [List.mem_flatMap] at h
  obtain ⟨c, _, hc⟩ := h
  have h0 : ∀ i : Fin 16, (hexD i.val).toNat < 128 := by decide
  have hlt := c.toNat_lt
  unfold hexB at hc
  simp only [List.mem_cons, List.not_mem_nil, or_false] at hc
  rcases hc with rfl | rfl
  · exact h0 ⟨c.toNat / 16, by omega⟩
  · exact h0 ⟨c.toNat % 16, by omega⟩
theorem dec_lt {n : Int} {b : UInt8} (h : b ∈ decD n) : b.toNat < 128 := by have := decD_digs h; omega
theorem text_plain (m : MManifest) : ∀ b ∈ manTextL m, b.toNat < 128 := by
  have hc : ∀ (k : List UInt8), (∀ x, x ∈ k → x.toNat < 128) → ∀ b, b ∈ k → b.toNat < 128 := fun k h => h
  intro b hb
  simp only [manTextL, headT, linesT, lineT, List.mem_append, List.mem_flatMap] at hb
  have h1 : ∀ x, x ∈ nextW → x.toNat < 128 := by decide
  have h2 : ∀ x, x ∈ logW → x.toNat < 128 := by decide
  have h3 : ∀ x, x ∈ tabW → x.toNat < 128 := by decide
  have h4 : ∀ x, x ∈ endW → x.toNat < 128 := by decide
  have h5 : ∀ x : UInt8, x ∈ [(10 : UInt8)] → x.toNat < 128 := by decide
  have h6 : ∀ x : UInt8, x ∈ [(32 : UInt8)] → x.toNat < 128 := by decide
  rcases hb with ((((((h | h) | h) | h) | h) | ⟨t, _, h⟩) | h) | h
  · exact h1 b h
  · exact dec_lt h
  · exact h2 b h
  · exact dec_lt h
  · exact h5 b h
  · rcases h with ((((((((h | h) | h) | h) | h) | h) | h) | h) | h) | h
    · exact h3 b h
    · exact h6 b h
    · exact dec_lt h
    · exact h6 b h
    · exact dec_lt h
    · exact h6 b h
    · exact hex_lt h
    · exact h6 b h
    · exact hex_lt h
    · exact h5 b h
  · exact h4 b h
  · exact h5 b h
theorem read_right {m : MManifest} {s : ByteArray} (h : manOkP m = true) (hs : manTextP m = s) : rdMan (Lib.fieldsD s.data.toList) = (m, false) := by
  have e : s.data.toList = manTextL m := by rw [← hs, manTextP_yes h, strB_data]
  rw [e, Lib.fieldsD_ascii _ (text_plain m)]
  exact read_text h
/-- What the program answers, of what it has read. -/
theorem parse_bad {s : ByteArray} (h : (rdMan (Lib.fieldsD s.data.toList)).2 = true) : parseP s = (⟨0, 0, []⟩, false) := by
  refine parse_no fun m hm he => ?_
  rw [read_right hm he] at h
  cases h
theorem parse_other {s : ByteArray} (h : manTextP (rdMan (Lib.fieldsD s.data.toList)).1 ≠ s) : parseP s = (⟨0, 0, []⟩, false) := by
  refine parse_no fun m hm he => h ?_
  rw [read_right hm he]
  exact he
theorem parse_same {s : ByteArray} (hb : (rdMan (Lib.fieldsD s.data.toList)).2 = false) (h : manTextP (rdMan (Lib.fieldsD s.data.toList)).1 = s) : parseP s = ((rdMan (Lib.fieldsD s.data.toList)).1, true) := by
  by_cases hm : manOkP (rdMan (Lib.fieldsD s.data.toList)).1 = true
  · have := parse_yes hm
    rwa [h] at this
  · have h0 := manTextP_no (Bool.eq_false_iff.2 hm)
    rw [h] at h0
    subst h0
    cases hb
end Go.Proofs.YtnohnkcijomdjaaGreatDoor
