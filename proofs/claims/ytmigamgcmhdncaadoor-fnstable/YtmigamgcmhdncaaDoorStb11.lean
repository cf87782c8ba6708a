/-
  Part 12 of the texts that the proof leans on.
-/
import Derived.Test.YtmigamgcmhdncaaDoorStb0
import Derived.Test.YtmigamgcmhdncaaDoorStb6
import Derived.Test.YtmigamgcmhdncaaDoorStb10
set_option linter.unusedVariables false
set_option linter.unusedSimpArgs false
set_option maxRecDepth 10000

namespace Go.Proofs.YtmigamgcmhdncaaDoor
open Go.RowKit
/-- What is put out after k items. -/
def outP (l : List MItem) (q : Nat) (it : MItem) (k : Nat) : List MItem := bif decide (q < k) then insAt (l.take k) q it else l.take k
theorem outP_no {l : List MItem} {q k : Nat} {it : MItem} (h : ¬ q < k) : outP l q it k = l.take k := by unfold outP; rw [decide_eq_false h]; rfl
theorem outP_yes {l : List MItem} {q k : Nat} {it : MItem} (h : q < k) : outP l q it k = insAt (l.take k) q it := by unfold outP; rw [decide_eq_true h]; rfl
theorem outP_skip {l : List MItem} {q k : Nat} {it : MItem} (hk : k < l.length) (h : k < q) : outP l q it (k + 1) = outP l q it k ++ [l[k]] := by
  rw [outP_no (by omega), outP_no (by omega), List.take_succ_eq_append_getElem hk]
theorem outP_put {l : List MItem} {q k : Nat} {it : MItem} (hk : k < l.length) (h : q = k) : outP l q it (k + 1) = (outP l q it k ++ [it]) ++ [l[k]] := by
  subst h
  rw [outP_yes (by omega), outP_no (by omega), List.take_succ_eq_append_getElem hk]
  unfold insAt
  have hl : (l.take q).length = q := by simp; omega
  rw [List.take_append_of_le_length (by omega), List.drop_append_of_le_length (by omega), List.take_of_length_le (by omega), List.drop_eq_nil_of_le (by omega)]
  simp
theorem outP_after {l : List MItem} {q k : Nat} {it : MItem} (hk : k < l.length) (h : q < k) : outP l q it (k + 1) = outP l q it k ++ [l[k]] := by
  rw [outP_yes (by omega), outP_yes h, List.take_succ_eq_append_getElem hk]
  unfold insAt
  have hl : (l.take k).length = k := by simp; omega
  rw [List.take_append_of_le_length (by omega), List.drop_append_of_le_length (by omega)]
  simp
theorem outP_end {l : List MItem} {q : Nat} {it : MItem} (h : q < l.length) : outP l q it l.length = insAt l q it := by rw [outP_yes h, List.take_length]
theorem outP_last {l : List MItem} {q : Nat} {it : MItem} (h : q = l.length) : outP l q it l.length ++ [it] = insAt l q it := by
  subst h; rw [outP_no (by omega)]; unfold insAt; simp
theorem outP_len (l : List MItem) (q : Nat) (it : MItem) (k : Nat) : (outP l q it k).length ≤ l.length + 1 := by
  unfold outP
  by_cases h : q < k
  · rw [decide_eq_true h]; simp [insAt]; omega
  · rw [decide_eq_false h]; simp; omega

/-- What stands in the walk: the variable out at block B, its list of one's own; all ahead of B is as it was. -/
def PutSt (B : Nat) (w0 : World) (v : Value) (l : List MItem) (F : List Nat) (W : World) : Prop :=
  Bw W B 30 [v] ∧ ownS 3 52 oItem W v l F ∧ F.Nodup ∧ (∀ b, b ∈ F → B + 1 ≤ b) ∧ Below B w0 W ∧ B ≤ w0.heap.size
theorem PutSt.under {B : Nat} {w0 W W' : World} {v : Value} {l : List MItem} {F : List Nat} (h : PutSt B w0 v l F W) (hb : Below W.heap.size W W') : PutSt B w0 v l F W' := by
  obtain ⟨h1, h2, h3, h4, h5, h6⟩ := h
  have hl := h1.lt
  exact ⟨h1.under hb, ownS.frame oItem_good h2 (fun b hb' => hb.block b (ownS.lt oItem_good h2 b hb')), h3, h4, h5.trans (hb.mono (by omega)), h6⟩
theorem PutSt.app {B : Nat} {w0 W : World} {v : Value} {l : List MItem} {F : List Nat} (h : PutSt B w0 v l F W) :
    ∃ xs, W.ownsRow 0 52 3 v l.length xs ∧ ∀ (W' : World) (v' : Value) (news : List Value) (x : MItem) (Fx : List Nat), W'.ownsRow 0 52 3 v' (l.length + 1) (xs ++ news) → W.grownBy W' v.ownBlock → (v'.ownBlock = v.ownBlock ∨ v'.ownBlock = some W.heap.size) → oItem W news x Fx → Fx.Nodup → (∀ b, b ∈ Fx → b ∉ F) → (∀ b, b ∈ Fx → B + 1 ≤ b) → ∀ l9 : List MItem, l9 = l ++ [x] →
      ∃ F' a c, v' = .slice a l9.length c ∧ PutSt B w0 (.slice a l9.length c) l9 F' (W'.setCell ⟨B, 0, none⟩ (.slice a l9.length c)) ∧ Bw W' B 30 [v] ∧ Below B w0 W' := by
  obtain ⟨h1, h2, h3, h4, h5, h6⟩ := h
  obtain ⟨xs, hox, hnext⟩ := ownS.push oItem_good h2 h3
  refine ⟨xs, hox, fun W' v' news x Fx ho hg hat hx hN hd hge l9 h9 => ?_⟩
  subst h9
  obtain ⟨F', ho', hN', hF'⟩ := hnext W' v' news x Fx ho hg hat hx hN hd
  have hl := h1.lt
  have hBv : v.ownBlock ≠ some B := fun hh => by have := h4 B (ownS.blk h2 B hh); omega
  have hbW : Bw W' B 30 [v] := (hg.block B hl (fun e => hBv e.symm)).trans h1
  have hBl : Below B w0 W' := h5.grown hg (by have := h5.size; omega) (fun k hk => by have := h4 k (ownS.blk h2 k hk); omega)
  have hge' : ∀ b, b ∈ F' → B + 1 ≤ b := fun b hb => by
    rcases hF' b hb with h | h | h
    · exact h4 b h
    · exact hge b h
    · omega
  obtain ⟨a, c, rfl, _⟩ := id (ownS.read oItem_good ho')
  exact ⟨F', a, c, rfl, ⟨hbW.put 0 _, ownS.frame oItem_good ho' (fun b hb => heap_setCell_other W' ⟨B, 0, none⟩ b _ (by have := hge' b hb; show b ≠ B; omega)), hN', hge', hBl.setCell (Nat.le_refl _) _, h6⟩, hbW, hBl⟩


theorem CurOk.setCell {w : World} {g : Nat} (h : CurOk w g) {p : Addr} (hp : g < p.block) (u : Value) : CurOk (w.setCell p u) g := by
  obtain ⟨a, n, cap, B, zs, h1, h2, h3, h4, ⟨i, q, h5, h6, h7⟩, h8⟩ := h
  refine ⟨a, n, cap, B, zs, h1, h2, h3, h4.below ((Below.refl _ _).setCell (by omega) u), ⟨i, q, h5, h6, ?_⟩, by simpa [World.setCell] using h8⟩
  rw [Below.heap_setCell _ _ _ _ (by omega)]
  exact h7
theorem CurOk.alloc {w : World} {g : Nat} (h : CurOk w g) (o : Obj) : CurOk (w.alloc o) g := h.below ((Below.refl _ _).alloc (Nat.le_refl _) _)
theorem grown_alloc {w w' : World} {r : Option Nat} (h : w.grownBy w' r) (o : Obj) : w.grownBy (w'.alloc o) r := grown_trans h (World.grownBy_alloc _ _ _)
theorem Bw.grown {w w' : World} {b : Nat} {t : TypeId} {vs : List Value} {r : Option Nat} (h : Bw w b t vs) (hg : w.grownBy w' r) (hr : r ≠ some b) : Bw w' b t vs :=
  (hg.block b h.lt (fun e => hr e.symm)).trans h
theorem grown_setCell {w w' : World} {r : Option Nat} (h : w.grownBy w' r) {p : Addr} (hp : w.heap.size ≤ p.block) (u : Value) : w.grownBy (w'.setCell p u) r :=
  ⟨h.os, h.tape, h.output, by have := h.size; simpa [World.setCell] using this, fun k hk hr => by rw [Below.heap_setCell _ _ _ _ (by omega)]; exact h.block k hk hr⟩

end Go.Proofs.YtmigamgcmhdncaaDoor
