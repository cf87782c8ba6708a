/-
  The draw of lists to be merged.
-/
import Derived.Test.YtiahmcclmlmgpaaDoorDrawP
import Derived.Test.YtiahmcclmlmgpaaDoorPairSK
namespace Go.Proofs.YtiahmcclmlmgpaaDoor
open Go.RowKit Go.Maps
set_option linter.unusedVariables false
set_option linter.unusedSimpArgs false
set_option maxRecDepth 10000

theorem own_diff {W : World} {b1 b2 e1 e2 s1 s2 n1 n2 : Nat} {v1 v2 : Value} {x1 x2 : List Value} (h1 : W.ownsRow b1 e1 s1 v1 n1 x1) (h2 : W.ownsRow b2 e2 s2 v2 n2 x2) (hne : e1 ≠ e2) : ∀ k, v1.ownBlock = some k → v2.ownBlock ≠ some k := by
  intro k hk hk2
  rcases h1.2 with ⟨rfl, _⟩ | ⟨g, cap, cur, rfl, _, hg, _⟩
  · simp [Value.ownBlock] at hk
  · rcases h2.2 with ⟨rfl, _⟩ | ⟨g', cap', cur', rfl, _, hg', _⟩
    · simp [Value.ownBlock] at hk2
    · simp only [Value.ownBlock, Option.some.injEq] at hk hk2
      rw [hk] at hg
      rw [hk2, hg] at hg'
      simp only [Option.some.injEq, Obj.cells.injEq] at hg'
      exact hne hg'.2.1
theorem pair_shape {W : World} {base most : Nat} {v : Value} {l : List MPair} (h : PairDrawn W base v l most) : ∃ a c, v = .slice a l.length c := by
  rcases h.1.2 with ⟨rfl, h0⟩ | ⟨g, cap, cur, rfl, _⟩
  · exact ⟨none, 0, by rw [h0]⟩
  · exact ⟨_, _, rfl⟩
/-- Lists that were drawn, in a row of one's own. -/
def LstD (W : World) (base : Nat) (v : Value) (ll : List (List MPair)) (vs : List Value) : Prop :=
  W.ownsRow base 27 1 v ll.length vs ∧ ∀ j, (h : j < ll.length) → (h2 : j < vs.length) → PairDrawn W base vs[j] ll[j] 101
theorem LstD.grown {W W' : World} {base g : Nat} {v : Value} {ll : List (List MPair)} {vs : List Value} (h : LstD W base v ll vs) (hg : W.grownBy W' (some g)) (hb : g < base) : LstD W' base v ll vs :=
  ⟨own_of_block h.1 (fun k hk => hg.block k (h.1.lt k hk).2 (fun e => by have := (h.1.lt k hk).1; simp at e; omega)), fun j h1 h2 => (h.2 j h1 h2).grown hg hb⟩
theorem LstD.under {W W' : World} {base : Nat} {v : Value} {ll : List (List MPair)} {vs : List Value} (h : LstD W base v ll vs) (hb : Below W.heap.size W W') : LstD W' base v ll vs :=
  ⟨own_below h.1 hb, fun j h1 h2 => (h.2 j h1 h2).under hb⟩
theorem LstD.append {W W' : World} {base : Nat} {v v' u : Value} {ll : List (List MPair)} {vs : List Value} {l : List MPair} (h : LstD W base v ll vs) (hu : PairDrawn W base u l 101) (hgr : W.grownBy W' v.ownBlock) (ho : W'.ownsRow base 27 1 v' (ll.length + 1) (vs ++ [u])) : LstD W' base v' (ll ++ [l]) (vs ++ [u]) := by
  have hne : (27 : Nat) ≠ 31 := by decide
  have hkeep : ∀ {x : Value} {m : List MPair}, PairDrawn W base x m 101 → PairDrawn W' base x m 101 := fun {x m} hx => ⟨own_of_block hx.1 (fun k hk => hgr.block k (hx.1.lt k hk).2 (fun e => own_diff h.1 hx.1 hne k e.symm hk)), hx.2⟩
  have hl : vs.length = ll.length := by have := h.1.1; omega
  refine ⟨own_congr ho (by simp) rfl, fun j h1 h2 => ?_⟩
  simp only [List.length_append, List.length_cons, List.length_nil] at h1 h2
  by_cases hj : j < ll.length
  · rw [List.getElem_append_left (by omega), List.getElem_append_left hj]
    exact hkeep (h.2 j hj (by omega))
  · obtain rfl : j = ll.length := by omega
    have e1 : (vs ++ [u])[ll.length]'(by simp; omega) = u := by rw [List.getElem_append_right (by omega)]; simp [hl]
    have e2 : (ll ++ [l])[ll.length]'(by simp) = l := by rw [List.getElem_append_right (by omega)]; simp
    rw [e1, e2]
    exact hkeep hu
theorem pair_read {W : World} {base most : Nat} {a : Option Addr} {c n : Nat} {l : List MPair} (h : PairDrawn W base (.slice a n c) l most) : LeafL 3 rPair W.heap.size W a c l ∧ n = l.length := by
  have hR : RowR 3 31 rPair W.heap.size W base (.slice a n c) l := by
    refine ⟨l.map prC, by simp, fun x hx => by obtain ⟨y, _, rfl⟩ := List.mem_map.1 hx; rfl, fun j h1 h2 => ?_, ?_⟩
    · rw [List.getElem_map]
      have hx := h.2.1 l[j] (List.getElem_mem h1)
      exact ⟨rfl, Nat.le_trans hx.1 (by omega), Nat.le_trans hx.2 (by omega), trivial, trivial⟩
    · have e : (l.map prC).flatten = flatP l := by unfold flatP; rw [List.flatMap_def]
      rw [e]; exact h.1
  obtain ⟨a', c', h1, h2⟩ := hR.leaf rPair_good (Nat.le_refl _)
  simp only [Value.slice.injEq] at h1
  rw [h1.1, h1.2.2]
  exact ⟨h2, h1.2.1⟩
theorem flat_one (vs : List Value) : (vs.map fun x => [x]).flatten = vs := by
  induction vs with
  | nil => rfl
  | cons x r ih => simp only [List.map_cons, List.flatten_cons, List.singleton_append, ih]
theorem LstD.read {W : World} {base : Nat} {v : Value} {ll : List (List MPair)} {vs : List Value} (h : LstD W base v ll vs) : rdPss W.heap.size W v ll := by
  have hl : vs.length = ll.length := by have := h.1.1; omega
  have hR : RowR 1 27 rPr W.heap.size W base v ll := by
    refine ⟨vs.map (fun x => [x]), by simpa using hl, fun x hx => by obtain ⟨y, _, rfl⟩ := List.mem_map.1 hx; rfl, fun j h1 h2 => ?_, ?_⟩
    · rw [List.getElem_map]
      have hd := h.2 j h1 (by simpa using h2)
      obtain ⟨a, c, e⟩ := pair_shape hd
      rw [e] at hd ⊢
      exact ⟨a, c, rfl, (pair_read hd).1⟩
    · rw [flat_one]; exact h.1
  exact hR.leaf rPr_good (Nat.le_refl _)

end Go.Proofs.YtiahmcclmlmgpaaDoor
