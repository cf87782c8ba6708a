/-
  A drawn graph: right, in blocks of its own; only the cursor is written.
-/
import Derived.Test.YtmigamgcmhdncaaDoorDrGB
import Derived.Test.YtmigamgcmhdncaaDoorGraWO
import Derived.Test.YtmigamgcmhdncaaDoorGDatT
namespace Go.Proofs.YtmigamgcmhdncaaDoor
open Go.RowKit
set_option linter.unusedVariables false
set_option linter.unusedSimpArgs false
set_option maxRecDepth 10000

theorem wf_seven {z : Int} (h1 : 0 ≤ z) (h2 : z < 7) : (Lit.int .i64 z).wf = true := by
  have : z = 0 ∨ z = 1 ∨ z = 2 ∨ z = 3 ∨ z = 4 ∨ z = 5 ∨ z = 6 := by omega
  rcases this with rfl | rfl | rfl | rfl | rfl | rfl | rfl <;> rfl

theorem Bw.other' {w : World} {b b' i : Nat} {t : TypeId} {vs : List Value} {u : Value} (h : Bw w b t vs) (hne : b ≠ b') : Bw (w.setCell ⟨b', i, none⟩ u) b t vs :=
  (heap_setCell_other w ⟨b', i, none⟩ b u hne).trans h
theorem grown_of_below {w w' : World} (h : Below w.heap.size w w') (r : Option Nat) : w.grownBy w' r := ⟨h.os, h.tape, h.output, h.size, fun k hk _ => h.block k hk⟩

theorem graphP_nil : graphP ⟨[]⟩ = true := rfl
theorem graphP_put {m : MGraph} {it : MItem} (h : graphP m = true) : graphP (putG m it) = true := by
  unfold putG
  cases h2 : putOk m it with
  | false => exact h
  | true => unfold putOk at h2; rw [Bool.and_eq_true] at h2; exact h2.2
theorem sumW_all {α : Type} {f : α → Nat} {l : List α} {B : Nat} (h : ∀ x, x ∈ l → f x ≤ B) : sumW f l ≤ l.length * B := by
  induction l with
  | nil => simp [sumW]
  | cons x l ih =>
    have h1 := ih (fun y hy => h y (by simp [hy]))
    have h2 := h x (by simp)
    simp only [sumW, List.map_cons, List.sum_cons, List.length_cons] at *
    rw [Nat.succ_mul]; omega
theorem graphP_w {m : MGraph} (h : graphP m = true) : wGraph m ≤ 6200 := by
  unfold graphP at h
  rw [Bool.and_eq_true] at h
  have h1 := of_decide_eq_true h.1
  have h2 : ∀ x, x ∈ m.fItems → wItem x ≤ 60 := fun x hx => by
    obtain ⟨k, hk, rfl⟩ := List.mem_iff_getElem.1 hx
    have h3 := h.2
    unfold upOk at h3
    rw [List.all_eq_true] at h3
    have h4 := h3 k (List.mem_range.2 hk)
    unfold stepOk at h4
    rw [List.getElem?_eq_getElem hk] at h4
    simp only [Bool.and_eq_true] at h4
    have h5 := h4.1
    unfold itemP depsP at h5
    simp only [Bool.and_eq_true, decide_eq_true_eq] at h5
    have h6 : sumW wDot m.fItems[k].fDeps ≤ m.fItems[k].fDeps.length * 0 := sumW_all (fun y _ => Nat.le_refl 0)
    show m.fItems[k].fDeps.length + sumW wDot m.fItems[k].fDeps ≤ 60
    omega
  have h3 := sumW_all h2
  show m.fItems.length + sumW wItem m.fItems ≤ 6200
  omega

/-- What a draw of a right graph answers. -/
def GraphDrawn (w : World) (g : Nat) (e : Ending) (w' : World) : Prop :=
  ∃ (cs : List Value) (m : MGraph), e = .returned (.agg cs.toArray) ∧ OutG w.heap.size w' cs m ∧ graphP m = true ∧ CurOk w' g ∧ w.grownBy w' (some g)

/-- What stands while a graph is drawn: the answer's block, the variable's, the graph behind them. -/
structure DrSt (w : World) (g : Nat) (m : MGraph) (a : Option Addr) (c : Nat) (W : World) : Prop where
  r : Bw W w.heap.size 30 [.slice none 0 0]
  v : Bw W (w.heap.size + 1) 30 [.slice a m.fItems.length c]
  o : OutG (w.heap.size + 1 + 1) W [.slice a m.fItems.length c] m
  p : graphP m = true
  c : CurOk W g
  k : w.grownBy W (some g)
  z : w.heap.size + 1 + 1 ≤ W.heap.size
  lt : g < w.heap.size
theorem DrSt.cursor {w : World} {g : Nat} {m : MGraph} {a : Option Addr} {c : Nat} {W W' : World} (h : DrSt w g m a c W) (hc : CurOk W' g) (hg : W.grownBy W' (some g)) : DrSt w g m a c W' :=
  have hl := h.lt
  ⟨h.r.grown hg (by simp; omega), h.v.grown hg (by simp; omega), h.o.cursor hg (by omega), h.p, hc, grown_trans h.k hg, Nat.le_trans h.z hg.size, h.lt⟩

/-- What stands while an item is drawn: its block behind all that was, its Deps behind it. -/
structure ItSt (g : Nat) (w1 : World) (x y : Int) (v : Value) (l : List MDot) (F : List Nat) (W : World) : Prop where
  b : Bw W w1.heap.size 52 [.int .i64 x, .int .i64 y, v]
  o : ownS 2 40 oDot W v l F
  n : F.Nodup
  f : ∀ b, b ∈ F → w1.heap.size + 1 ≤ b
  c : CurOk W g
  k : w1.grownBy W (some g)
  lt : g < w1.heap.size
theorem ItSt.cursor {g : Nat} {w1 : World} {x y : Int} {v : Value} {l : List MDot} {F : List Nat} {W W' : World} (h : ItSt g w1 x y v l F W) (hc : CurOk W' g) (hg : W.grownBy W' (some g)) : ItSt g w1 x y v l F W' :=
  have hl := h.lt
  ⟨h.b.grown hg (by simp; omega), ownS.frame oDot_good h.o (fun b hb => hg.block b (ownS.lt oDot_good h.o b hb) (by have := h.f b hb; simp; omega)), h.n, h.f, hc, grown_trans h.k hg, h.lt⟩
theorem ItSt.alloc {g : Nat} {w1 : World} {x y : Int} {v : Value} {l : List MDot} {F : List Nat} {W : World} (h : ItSt g w1 x y v l F W) (o : Obj) : ItSt g w1 x y v l F (W.alloc o) :=
  h.cursor (h.c.alloc _) (World.grownBy_alloc _ _ _)
theorem ItSt.app {g : Nat} {w1 : World} {x y : Int} {v : Value} {l : List MDot} {F : List Nat} {W : World} (h : ItSt g w1 x y v l F W) :
    ∃ xs, W.ownsRow 0 40 2 v l.length xs ∧ ∀ (W' : World) (v' : Value) (news : List Value) (d : MDot), W'.ownsRow 0 40 2 v' (l.length + 1) (xs ++ news) → W.grownBy W' v.ownBlock → (v'.ownBlock = v.ownBlock ∨ v'.ownBlock = some W.heap.size) → oDot W news d [] →
      ∃ F', ItSt g w1 x y v' (l ++ [d]) F' (W'.setCell ⟨w1.heap.size, 2, none⟩ v') ∧ Bw W' w1.heap.size 52 [.int .i64 x, .int .i64 y, v] := by
  obtain ⟨xs, hox, hnext⟩ := ownS.push oDot_good h.o h.n
  refine ⟨xs, hox, fun W' v' news d ho hg hat hx => ?_⟩
  obtain ⟨F', ho', hN', hF'⟩ := hnext W' v' news d [] ho hg hat hx List.nodup_nil (fun b hb => by cases hb)
  have hl := h.b.lt
  have hgl := h.lt
  have hk : ∀ k, v.ownBlock = some k → w1.heap.size + 1 ≤ k := fun k hk => h.f k (ownS.blk h.o k hk)
  have hbW : Bw W' w1.heap.size 52 [.int .i64 x, .int .i64 y, v] := (hg.block _ hl (fun e => by have := hk _ e.symm; omega)).trans h.b
  have hge' : ∀ b, b ∈ F' → w1.heap.size + 1 ≤ b := fun b hb => by
    rcases hF' b hb with h1 | h1 | h1
    · exact h.f b h1
    · cases h1
    · omega
  refine ⟨F', ⟨hbW.put 2 _, ownS.frame oDot_good ho' (fun b hb => heap_setCell_other W' ⟨w1.heap.size, 2, none⟩ b _ (by have := hge' b hb; show b ≠ w1.heap.size; omega)), hN', hge', ?_, ?_, h.lt⟩, hbW⟩
  · exact (h.c.grown hg (fun k e => by have := hk k e; omega)).setCell (p := ⟨w1.heap.size, 2, none⟩) hgl _
  · exact grown_setCell (World.grownBy.andThen h.k hg (fun j e => .inl (by have := hk j e; omega))) (p := ⟨w1.heap.size, 2, none⟩) (Nat.le_refl _) _

end Go.Proofs.YtmigamgcmhdncaaDoor
