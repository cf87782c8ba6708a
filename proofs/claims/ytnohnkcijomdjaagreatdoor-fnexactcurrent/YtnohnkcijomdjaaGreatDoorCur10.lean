/-
  Part 11 of the texts that the proof leans on.
-/
import Derived.Test.YtnohnkcijomdjaaGreatDoorCur9
import Derived.Test.YtnohnkcijomdjaaGreatDoorCur7
set_option linter.unusedVariables false
set_option linter.unusedSimpArgs false
set_option maxRecDepth 10000

namespace Go.Proofs.YtnohnkcijomdjaaGreatDoor
open Go.RowKit Go.Maps Go.Shelf

theorem var_turn {P : Program} {g : Nat} {F : List Nat} {W W' : World} {n : String} {cs : Array Value} (h : Turn F W W') (hg : P.globalNamed n = some g) (hgB : g < W.heap.size) (hF : g ∉ F) (hv : W.var? P n = some cs) : W'.var? P n = some cs := by
  unfold World.var? at hv ⊢
  simp only [hg, Option.bind_some] at hv ⊢
  rw [h.block g hgB hF]
  exact hv
theorem Ers.turn {F : List Nat} {w w' : World} (h : Ers w) (hb : Turn F w w') (h15 : layAtoi_ren.g 15 ∉ F) (h16 : layAtoi_ren.g 16 ∉ F) : Ers w' := by
  obtain ⟨⟨⟨t1, p1, h1⟩, k1⟩, ⟨t2, p2, h2⟩, k2⟩ := h
  exact ⟨⟨⟨t1, p1, var_turn hb (by kernel_rfl) k1 h15 h1⟩, Nat.lt_of_lt_of_le k1 hb.size⟩, ⟨t2, p2, var_turn hb (by kernel_rfl) k2 h16 h2⟩, Nat.lt_of_lt_of_le k2 hb.size⟩

/-- While a manifest is read: the reader at A, the manifest's box at M, its tables in memory of its own. -/
structure WdS (w0 : World) (A M : Nat) (w : World) (l : List (List UInt8)) (b : Bool) (cs : List Value) : Prop where
  rd : WdR w A l b
  box : Bw w M 24 cs
  ers : Ers w
  turn : Turn [A] w0 w
  old : w0.heap.size ≤ M
  a0 : A < w0.heap.size
  g15 : layAtoi_ren.g 15 ≠ A
  g16 : layAtoi_ren.g 16 ≠ A
theorem WdS.ne {w0 : World} {A M : Nat} {w : World} {l : List (List UInt8)} {b : Bool} {cs : List Value} (h : WdS w0 A M w l b cs) : M ≠ A := by
  have := h.a0; have := h.old; omega
theorem WdS.next {w0 : World} {A M : Nat} {w w' : World} {l l' : List (List UInt8)} {b b' : Bool} {cs : List Value} (h : WdS w0 A M w l b cs) (hr : WdR w' A l' b') (ht : Turn [A] w w') : WdS w0 A M w' l' b' cs :=
  ⟨hr, h.box.turn ht (by simpa using h.ne), h.ers.turn ht (by simpa using h.g15) (by simpa using h.g16), h.turn.trans ht, h.old, h.a0, h.g15, h.g16⟩
theorem WdS.number {w0 : World} {A M : Nat} {w : World} {l : List (List UInt8)} {b : Bool} {cs : List Value} (h : WdS w0 A M w l b cs) :
    Calls Tryz.prog 46 #[.pointer (some ⟨A, 0, none⟩)] w fun e w' => e = .returned (.int .i64 (numbP l).1) ∧ WdS w0 A M w' l.tail (b || !(numbP l).2) cs := by
  refine (number_any A l b w h.rd h.ers (fun w' ht => h.ers.turn ht (by simpa using h.g15) (by simpa using h.g16))).mono ?_
  rintro e w1 ⟨rfl, hr, ht⟩
  exact ⟨rfl, h.next hr ht⟩
theorem WdS.name {w0 : World} {A M : Nat} {w : World} {l : List (List UInt8)} {b : Bool} {cs : List Value} (h : WdS w0 A M w l b cs) :
    Calls Tryz.prog 45 #[.pointer (some ⟨A, 0, none⟩)] w fun e w' => e = .returned (.string (strB (nameP l).1)) ∧ WdS w0 A M w' l.tail (b || !(nameP l).2) cs := by
  refine (name_any A l b w h.rd).mono ?_
  rintro e w1 ⟨rfl, hr, ht⟩
  exact ⟨rfl, h.next hr ht⟩
theorem WdS.key {w0 : World} {A M : Nat} {w : World} {l : List (List UInt8)} {b : Bool} {cs : List Value} (h : WdS w0 A M w l b cs) :
    Calls Tryz.prog 47 #[.pointer (some ⟨A, 0, none⟩)] w fun e w' => e = .returned (.string (strB (keyP l).1)) ∧ WdS w0 A M w' l.tail (b || !(keyP l).2) cs := by
  refine (key_any A l b w h.rd).mono ?_
  rintro e w1 ⟨rfl, hr, ht⟩
  exact ⟨rfl, h.next hr ht⟩
theorem WdS.take {w0 : World} {A M : Nat} {w : World} {l : List (List UInt8)} {b : Bool} {cs : List Value} (h : WdS w0 A M w l b cs) (ok : Bool) :
    Calls Tryz.prog 44 #[.pointer (some ⟨A, 0, none⟩), .bool ok] w fun e w' => e = .returned (.tuple #[]) ∧ WdS w0 A M w' l (b || !ok) cs := by
  refine (take_any A l b ok w h.rd).mono ?_
  rintro e w1 ⟨rfl, hr, ht⟩
  exact ⟨rfl, h.next hr ht⟩

theorem WdS.put {w0 : World} {A M : Nat} {w : World} {l : List (List UInt8)} {b : Bool} {cs : List Value} (h : WdS w0 A M w l b cs) (i : Nat) (u : Value) (h15 : layAtoi_ren.g 15 < A) (h16 : layAtoi_ren.g 16 < A) : WdS w0 A M (w.setCell ⟨M, i, none⟩ u) l b (cs.set i u) := by
  have hM : A < M := by have := h.a0; have := h.old; omega
  have ht : Turn [M] w (w.setCell ⟨M, i, none⟩ u) := (Turn.refl [M] w).setCell (by simp) _
  exact ⟨h.rd.turn ht (fun k hk => by simp at hk; omega), h.box.put i u, h.ers.turn ht (by simp; omega) (by simp; omega), h.turn.join ht (fun x hx => by simp at hx; subst hx; exact Or.inr h.old), h.old, h.a0, h.g15, h.g16⟩

end Go.Proofs.YtnohnkcijomdjaaGreatDoor

namespace Go.Proofs.YtnohnkcijomdjaaGreatDoor
open Go.RowKit

theorem takeAll_snoc : ∀ (l : List (List UInt8)) (i : Nat) (x : List UInt8) (m : MManifest), takeAll i (l ++ [x]) m = takeL (i + l.length) (splitP 32 x) (takeAll i l m)
  | [], i, x, m => by simp [takeAll]
  | y :: l, i, x, m => by
    rw [List.cons_append, takeAll, takeAll_snoc l (i + 1) x, takeAll, List.length_cons]
    congr 1
    omega
def manK (L : List (List UInt8)) (k : Nat) : MManifest := takeAll 0 (L.take k) ⟨0, 0, []⟩
theorem manK_succ {L : List (List UInt8)} {k : Nat} (h : k < L.length) : manK L (k + 1) = takeL k (splitP 32 L[k]) (manK L k) := by
  unfold manK
  rw [List.take_succ_eq_append_getElem h, takeAll_snoc, List.length_take, Nat.zero_add, Nat.min_eq_left (by omega)]
theorem specP_manK (s : List UInt8) {k : Nat} (hk : k ≤ 30) (hl : k ≤ (splitP 10 s).length) (h : ¬ (k < (splitP 10 s).length ∧ k < 30)) : manK (splitP 10 s) k = specP s := by
  unfold manK specP
  congr 1
  by_cases h30 : k = 30
  · rw [h30]
  · rw [List.take_of_length_le (by omega), List.take_of_length_le (by omega)]
def sumL (L : List (List UInt8)) : Nat := sumW List.length L
theorem split_sum (b : UInt8) : ∀ l : List UInt8, sumL (splitP b l) ≤ l.length
  | [] => by simp [splitP, sumL, sumW]
  | x :: r => by
    have ih := split_sum b r
    rw [splitP]
    split
    · simp only [sumL, sumW, List.length_nil, List.length_cons] at ih ⊢
      omega
    · split
      · rename_i h
        simp only [sumL, sumW, List.length_cons, List.length_nil] at ih ⊢
        omega
      · rename_i h t he
        rw [he] at ih
        simp only [sumL, sumW, List.length_cons] at ih ⊢
        omega
theorem split_len (b : UInt8) : ∀ l : List UInt8, (splitP b l).length ≤ l.length + 1
  | [] => by simp [splitP]
  | x :: r => by
    have ih := split_len b r
    rw [splitP]
    split
    · simp only [List.length_cons] at ih ⊢
      omega
    · split
      · simp
      · rename_i h t he
        rw [he] at ih
        simp only [List.length_cons] at ih ⊢
        omega
theorem unhex_half : ∀ (n : Nat) (l : List UInt8), l.length ≤ n → 2 * (unhexP l).length ≤ l.length
  | 0, [], _ => by simp [unhexP]
  | n + 1, [], _ => by simp [unhexP]
  | n + 1, [a], _ => by simp [unhexP]
  | n + 1, a :: b :: r, h => by
    have := unhex_half n r (by simp at h; omega)
    simp only [unhexP, List.length_cons]
    omega
theorem sumW_snoc {α : Type} (f : α → Nat) (l : List α) (x : α) : sumW f (l ++ [x]) = sumW f l + f x := by
  induction l with
  | nil => simp [sumW]
  | cons y r ih => simp only [List.cons_append, sumW, ih]; omega
theorem getD_two {W : List (List UInt8)} (h : W.length = 5) : (W.getD 3 []).length + (W.getD 4 []).length ≤ sumL W := by
  match W, h with
  | [a, b, c, d, e], _ => simp [sumL, sumW]; omega
theorem takeL_weight (i : Nat) (x : List UInt8) (m : MManifest) : 2 * sumW wMeta (takeL i (splitP 32 x) m).fTables ≤ 2 * sumW wMeta m.fTables + x.length ∧ (takeL i (splitP 32 x) m).fTables.length ≤ m.fTables.length + 1 := by
  unfold takeL
  split
  · split <;> exact ⟨by simp, by simp⟩
  · split
    · rename_i h5
      have h1 := split_sum 32 x
      have h2 := getD_two h5
      have h3 := unhex_half _ ((splitP 32 x).getD 3 []) (Nat.le_refl _)
      have h4 := unhex_half _ ((splitP 32 x).getD 4 []) (Nat.le_refl _)
      refine ⟨?_, by simp⟩
      show 2 * sumW wMeta (m.fTables ++ [_]) ≤ _
      rw [sumW_snoc]
      simp only [wMeta, strB_size]
      omega
    · exact ⟨by omega, by omega⟩
theorem manK_weight (L : List (List UInt8)) : ∀ k, k ≤ L.length → 2 * sumW wMeta (manK L k).fTables ≤ sumL (L.take k) ∧ (manK L k).fTables.length ≤ k
  | 0, _ => by simp [manK, takeAll, sumL, sumW]
  | k + 1, h => by
    have ih := manK_weight L k (by omega)
    have hk : k < L.length := by omega
    have h1 := takeL_weight k L[k] (manK L k)
    have h2 : sumL (L.take (k + 1)) = sumL (L.take k) + L[k].length := by
      unfold sumL
      rw [List.take_succ_eq_append_getElem hk, sumW_snoc]
    rw [manK_succ hk]
    omega
theorem sumL_take (L : List (List UInt8)) (k : Nat) : sumL (L.take k) ≤ sumL L := sumW_take_le List.length L k
theorem manK_small (s : List UInt8) (k : Nat) (h : k ≤ (splitP 10 s).length) (h30 : k ≤ 30) (hs : s.length ≤ 1048576) : wManifest (manK (splitP 10 s) k) ≤ 1048576 := by
  have h1 := manK_weight (splitP 10 s) k h
  have h2 := sumL_take (splitP 10 s) k
  have h3 := split_sum 10 s
  unfold wManifest
  omega
theorem numP_bound (l : List UInt8) : -1 ≤ numP l ∧ numP l ≤ 1000000 := by
  unfold numP
  split
  · rename_i h
    have h1 := val_bound l h.2
    have h2 : l.length ≤ 6 := h.1.2
    have h3 : (10 : Int) ^ l.length ≤ 1000000 := by
      match hl : l.length, h2 with
      | 0, _ => decide
      | 1, _ => decide
      | 2, _ => decide
      | 3, _ => decide
      | 4, _ => decide
      | 5, _ => decide
      | 6, _ => decide
    omega
  · omega
/-- What the specification answers: the manifest that is read, where its text is this one. -/
def parseP (s : ByteArray) : MManifest × Bool := if manOkP (specP s.data.toList) = true ∧ manTextP (specP s.data.toList) = s then (specP s.data.toList, true) else (⟨0, 0, []⟩, false)
theorem parse_yes {m : MManifest} (h : manOkP m = true) : parseP (manTextP m) = (m, true) := by
  have e : (manTextP m).data.toList = manTextL m := by rw [manTextP_yes h, strB_data]
  unfold parseP
  rw [e, spec_back h, if_pos ⟨h, rfl⟩]
theorem parse_no {s : ByteArray} (h : ∀ m, manOkP m = true → manTextP m ≠ s) : parseP s = (⟨0, 0, []⟩, false) := by
  unfold parseP
  rw [if_neg (fun hh => h _ hh.1 hh.2)]

end Go.Proofs.YtnohnkcijomdjaaGreatDoor
