/-
  A number that was put comes back of its bytes; cut it does not; a text comes back, too: plain facts on lists.
-/
import Derived.Test.YtiahmcclmlmgpaaDoorPutM
import Derived.Test.YtiahmcclmlmgpaaDoorTextM
namespace Go.Proofs.YtiahmcclmlmgpaaDoor

theorem gnS_lo (f : Nat) (c : Int) (r : List Int) (n p : Int) (h : c < 128) (hn : ¬ 1000000000 < n * 128 + c % 128) : gnS (f + 1) (c :: r) n p = (n * 128 + c % 128, p + 1, true) := by
  simp only [gnS]; rw [if_pos h, if_neg hn]
theorem gnS_hi (f : Nat) (c : Int) (r : List Int) (n p : Int) (h : ¬ c < 128) : gnS (f + 1) (c :: r) n p = gnS f r (n * 128 + c % 128) (p + 1) := by
  simp only [gnS]; rw [if_neg h]

/-- The five shapes of a number's bytes. -/
theorem putNum_cases {N : Int} (h0 : 0 ≤ N) (h1 : N ≤ 1000000000) :
    (N < 128 ∧ putNum N = [N % 128]) ∨
    (128 ≤ N ∧ N < 16384 ∧ putNum N = [N / 128 % 128 + 128, N % 128]) ∨
    (16384 ≤ N ∧ N < 2097152 ∧ putNum N = [N / 16384 % 128 + 128, N / 128 % 128 + 128, N % 128]) ∨
    (2097152 ≤ N ∧ N < 268435456 ∧ putNum N = [N / 2097152 % 128 + 128, N / 16384 % 128 + 128, N / 128 % 128 + 128, N % 128]) ∨
    (268435456 ≤ N ∧ putNum N = [N / 268435456 % 128 + 128, N / 2097152 % 128 + 128, N / 16384 % 128 + 128, N / 128 % 128 + 128, N % 128]) := by
  by_cases a : N < 128
  · left
    refine ⟨a, ?_⟩
    simp only [putNum, hiTo]
    rw [hiG_no (by omega), hiG_no (by omega), hiG_no (by omega), hiG_no (by omega)]
    rfl
  · right
    by_cases b : N < 16384
    · left
      refine ⟨by omega, b, ?_⟩
      simp only [putNum, hiTo]
      rw [hiG_no (by omega), hiG_no (by omega), hiG_no (by omega), hiG_yes (by omega)]
      rfl
    · right
      by_cases c : N < 2097152
      · left
        refine ⟨by omega, c, ?_⟩
        simp only [putNum, hiTo]
        rw [hiG_no (by omega), hiG_no (by omega), hiG_yes (by omega), hiG_yes (by omega)]
        rfl
      · right
        by_cases d : N < 268435456
        · left
          refine ⟨by omega, d, ?_⟩
          simp only [putNum, hiTo]
          rw [hiG_no (by omega), hiG_yes (by omega), hiG_yes (by omega), hiG_yes (by omega)]
          rfl
        · right
          refine ⟨by omega, ?_⟩
          simp only [putNum, hiTo]
          rw [hiG_yes (by omega), hiG_yes (by omega), hiG_yes (by omega), hiG_yes (by omega)]
          rfl

theorem num_eq {a b : Int × Int × Bool} (h1 : a.1 = b.1) (h2 : a.2.1 = b.2.1) (h3 : a.2.2 = b.2.2) : a = b := by
  obtain ⟨a1, a2, a3⟩ := a
  obtain ⟨b1, b2, b3⟩ := b
  simp only at h1 h2 h3
  subst h1 h2 h3
  rfl

theorem gnS_put {N : Int} (h0 : 0 ≤ N) (h1 : N ≤ 1000000000) (r : List Int) (p : Int) : gnS 5 (putNum N ++ r) 0 p = (N, p + (putNum N).length, true) := by
  rcases putNum_cases h0 h1 with ⟨a, e⟩ | ⟨a, b, e⟩ | ⟨a, b, e⟩ | ⟨a, b, e⟩ | ⟨a, e⟩
  all_goals rw [e]; simp only [List.cons_append, List.nil_append, List.length_cons, List.length_nil]
  · rw [gnS_lo _ _ _ _ _ (by omega) (by omega)]
    refine num_eq ?_ ?_ rfl <;> simp only <;> omega
  · rw [gnS_hi _ _ _ _ _ (by omega), gnS_lo _ _ _ _ _ (by omega) (by omega)]
    refine num_eq ?_ ?_ rfl <;> simp only <;> omega
  · rw [gnS_hi _ _ _ _ _ (by omega), gnS_hi _ _ _ _ _ (by omega), gnS_lo _ _ _ _ _ (by omega) (by omega)]
    refine num_eq ?_ ?_ rfl <;> simp only <;> omega
  · rw [gnS_hi _ _ _ _ _ (by omega), gnS_hi _ _ _ _ _ (by omega), gnS_hi _ _ _ _ _ (by omega), gnS_lo _ _ _ _ _ (by omega) (by omega)]
    refine num_eq ?_ ?_ rfl <;> simp only <;> omega
  · rw [gnS_hi _ _ _ _ _ (by omega), gnS_hi _ _ _ _ _ (by omega), gnS_hi _ _ _ _ _ (by omega), gnS_hi _ _ _ _ _ (by omega), gnS_lo _ _ _ _ _ (by omega) (by omega)]
    refine num_eq ?_ ?_ rfl <;> simp only <;> omega

theorem put_head {N : Int} (h0 : 0 ≤ N) (h1 : N ≤ 1000000000) : (putNum N).getD 0 0 ≠ 128 := by
  rcases putNum_cases h0 h1 with ⟨a, e⟩ | ⟨a, b, e⟩ | ⟨a, b, e⟩ | ⟨a, b, e⟩ | ⟨a, e⟩
  all_goals rw [e]; simp only [List.getD_cons_zero]; omega

theorem getD_append_at (zs l : List Int) : (zs ++ l).getD zs.length 0 = l.getD 0 0 := by
  rw [List.getD_eq_getElem?_getD, List.getD_eq_getElem?_getD, List.getElem?_append_right (Nat.le_refl _), Nat.sub_self]

/-- A number that was put comes back. -/
theorem getNum_put {N : Int} (h0 : 0 ≤ N) (h1 : N ≤ 1000000000) (zs r : List Int) : getNum (zs ++ putNum N ++ r) zs.length = (N, ((zs ++ putNum N).length : Int), true) := by
  have hl := putNum_length N
  rw [List.append_assoc]
  have hd : (zs ++ (putNum N ++ r)).getD zs.length 0 = (putNum N).getD 0 0 := by
    rw [getD_append_at]
    cases hp : putNum N with
    | nil => rw [hp] at hl; simp at hl
    | cons a b => rfl
  rw [getNum_S (by simp; omega) (by rw [hd]; exact put_head h0 h1), List.drop_left, gnS_put h0 h1]
  refine num_eq rfl ?_ rfl
  simp

/-- Cut, it does not. -/
theorem getNum_cut {N : Int} (h0 : 0 ≤ N) (h1 : N ≤ 1000000000) (zs : List Int) : getNum (zs ++ (putNum N).dropLast) zs.length = noNum := by
  rcases putNum_cases h0 h1 with ⟨a, e⟩ | ⟨a, b, e⟩ | ⟨a, b, e⟩ | ⟨a, b, e⟩ | ⟨a, e⟩
  all_goals rw [e]; simp only [List.dropLast_cons_cons, List.dropLast_singleton]
  · exact getNum_out (by right; simp)
  all_goals
    rw [getNum_S (by simp) (by rw [getD_append_at]; simp only [List.getD_cons_zero]; omega), List.drop_left]
  · rw [gnS_hi _ _ _ _ _ (by omega)]; rfl
  · rw [gnS_hi _ _ _ _ _ (by omega), gnS_hi _ _ _ _ _ (by omega)]; rfl
  · rw [gnS_hi _ _ _ _ _ (by omega), gnS_hi _ _ _ _ _ (by omega), gnS_hi _ _ _ _ _ (by omega)]; rfl
  · rw [gnS_hi _ _ _ _ _ (by omega), gnS_hi _ _ _ _ _ (by omega), gnS_hi _ _ _ _ _ (by omega), gnS_hi _ _ _ _ _ (by omega)]; rfl

/-- A text comes back. -/
theorem getText_put (zs ts : List Int) (h : ts.length ≤ 1000000000) : getText (zs ++ putNum ts.length ++ ts) zs.length = (ts, ((zs ++ putNum ts.length ++ ts).length : Int), true) := by
  have hg := getNum_put (N := ts.length) (by omega) (by omega) zs ts
  rw [getText_yes hg (by simp; omega)]
  refine Prod.ext ?_ (Prod.ext ?_ rfl)
  · show List.take ts.length (List.drop (zs ++ putNum ts.length).length (zs ++ putNum ts.length ++ ts)) = ts
    rw [List.drop_left, List.take_length]
  · simp; omega

end Go.Proofs.YtiahmcclmlmgpaaDoor
