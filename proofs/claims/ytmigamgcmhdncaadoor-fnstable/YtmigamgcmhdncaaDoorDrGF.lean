/-
  The draw of a graph that may be wrong: in blocks of its own, and small.
-/
import Derived.Test.YtmigamgcmhdncaaDoorRegK
import Derived.Test.YtmigamgcmhdncaaDoorDrGE
import Derived.Test.YtmigamgcmhdncaaDoorDatX
namespace Go.Proofs.YtmigamgcmhdncaaDoor
open Go.RowKit
set_option linter.unusedVariables false
set_option linter.unusedSimpArgs false
set_option maxRecDepth 10000
abbrev q50d_54_6_0 : Oper := ⟨some 17, .fieldAddr 30 (.tmp 5) 0, 0, "l08_graph.go:229", #[], none⟩
abbrev q50d_54_6_2 : Oper := ⟨some 19, .move (.tmp 0), 84, "l08_graph.go:229", #[], none⟩
abbrev q50d_54_6_4 : Oper := ⟨some 21, .move (.tmp 0), 84, "l08_graph.go:229", #[], none⟩
abbrev q50d_54_6_6 : Oper := ⟨some 23, .move (.tmp 0), 84, "l08_graph.go:229", #[], none⟩
abbrev q50d_54_6_3 : Oper := ⟨some 20, .call { callee := .value (.func 56), args := #[.tmp 19], argTypes := #[84] }, 40, "l08_graph.go:229", #[⟨2, .data⟩], none⟩
abbrev q50d_54_6_1 : Oper := ⟨some 18, .load 28 (.tmp 17), 28, "l08_graph.go:229", #[⟨0, .data⟩], none⟩
abbrev q50d_54_6_5 : Oper := ⟨some 22, .call { callee := .value (.func 56), args := #[.tmp 21], argTypes := #[84] }, 40, "l08_graph.go:229", #[⟨4, .data⟩, ⟨3, .chain⟩], none⟩
abbrev q50d_54_6_7 : Oper := ⟨some 24, .call { callee := .value (.func 56), args := #[.tmp 23], argTypes := #[84] }, 40, "l08_graph.go:229", #[⟨6, .data⟩, ⟨5, .chain⟩], none⟩
abbrev q50d_54_6_8 : Oper := ⟨some 25, .buildSlice 26 2 #[(0, .tmp 22), (1, .tmp 24)], 26, "l08_graph.go:229", #[⟨5, .data⟩, ⟨7, .data⟩], none⟩
abbrev q50d_54_6_9 : Oper := ⟨some 26, .build 52 #[(0, .tmp 20), (1, .tmp 25)], 52, "l08_graph.go:229", #[⟨3, .data⟩, ⟨8, .data⟩], none⟩
abbrev q50d_54_6_10 : Oper := ⟨some 27, .buildSlice 28 1 #[(0, .tmp 26)], 28, "l08_graph.go:229", #[⟨9, .data⟩], none⟩
abbrev q50d_54_6_11 : Oper := ⟨some 28, .call { callee := .builtin .append, args := #[.tmp 18, .tmp 27], argTypes := #[28, 28] }, 28, "l08_graph.go:229", #[⟨1, .data⟩, ⟨10, .data⟩, ⟨7, .chain⟩], none⟩
abbrev q50d_54_6_12 : Oper := ⟨some 29, .fieldAddr 30 (.tmp 5) 0, 0, "l08_graph.go:229", #[⟨0, .phase⟩, ⟨1, .phase⟩, ⟨2, .phase⟩, ⟨3, .phase⟩, ⟨4, .phase⟩, ⟨5, .phase⟩, ⟨6, .phase⟩, ⟨7, .phase⟩, ⟨8, .phase⟩, ⟨9, .phase⟩, ⟨10, .phase⟩, ⟨11, .phase⟩], none⟩
abbrev q50d_54_6_13 : Oper := ⟨none, .store 28 (.tmp 29) (.tmp 28), 0, "l08_graph.go:229", #[⟨12, .data⟩, ⟨11, .data⟩, ⟨11, .chain⟩, ⟨0, .phase⟩, ⟨1, .phase⟩, ⟨2, .phase⟩, ⟨3, .phase⟩, ⟨4, .phase⟩, ⟨5, .phase⟩, ⟨6, .phase⟩, ⟨7, .phase⟩, ⟨8, .phase⟩, ⟨9, .phase⟩, ⟨10, .phase⟩, ⟨11, .phase⟩], none⟩
abbrev q50d_54_9_0 : Oper := ⟨some 36, .fieldAddr 30 (.tmp 5) 0, 0, "l08_graph.go:232", #[], none⟩
abbrev q50d_54_9_2 : Oper := ⟨some 38, .move (.tmp 0), 84, "l08_graph.go:232", #[], none⟩
abbrev q50d_54_9_3 : Oper := ⟨some 39, .buildSlice 117 3 #[(0, .const (.int .i64 0)), (1, .const (.int .i64 8)), (2, .const (.int .i64 1))], 117, "l08_graph.go:232", #[], none⟩
abbrev q50d_54_9_1 : Oper := ⟨some 37, .load 28 (.tmp 36), 28, "l08_graph.go:232", #[⟨0, .data⟩], none⟩
abbrev q50d_54_9_4 : Oper := ⟨some 40, .call { callee := .value (.func 79), args := #[.tmp 38, .tmp 39], argTypes := #[84, 117] }, 3, "l08_graph.go:232", #[⟨2, .data⟩, ⟨3, .data⟩], none⟩
abbrev q50d_54_9_5 : Oper := ⟨some 41, .indexAddr 28 (.tmp 37) (.const (.int .i64 0)), 0, "l08_graph.go:232", #[⟨1, .data⟩, ⟨0, .phase⟩, ⟨1, .phase⟩, ⟨2, .phase⟩, ⟨3, .phase⟩, ⟨4, .phase⟩], none⟩
abbrev q50d_54_9_6 : Oper := ⟨some 42, .fieldAddr 52 (.tmp 41) 0, 0, "l08_graph.go:232", #[⟨5, .data⟩, ⟨0, .phase⟩, ⟨1, .phase⟩, ⟨2, .phase⟩, ⟨3, .phase⟩, ⟨4, .phase⟩], none⟩
abbrev q50d_54_9_7 : Oper := ⟨some 43, .fieldAddr 40 (.tmp 42) 0, 0, "l08_graph.go:232", #[⟨6, .data⟩, ⟨0, .phase⟩, ⟨1, .phase⟩, ⟨2, .phase⟩, ⟨3, .phase⟩, ⟨4, .phase⟩], none⟩
abbrev q50d_54_9_8 : Oper := ⟨none, .store 3 (.tmp 43) (.tmp 40), 0, "l08_graph.go:232", #[⟨7, .data⟩, ⟨4, .data⟩, ⟨4, .chain⟩, ⟨0, .phase⟩, ⟨1, .phase⟩, ⟨2, .phase⟩, ⟨3, .phase⟩, ⟨4, .phase⟩], none⟩

/-- What a draw of any graph answers. -/
def GraphAny (w : World) (g : Nat) (e : Ending) (w' : World) : Prop :=
  ∃ (cs : List Value) (m : MGraph), e = .returned (.agg cs.toArray) ∧ OutG w.heap.size w' cs m ∧ wGraph m ≤ 6300 ∧ CurOk w' g ∧ w.grownBy w' (some g)

/-- What stands while it is drawn: the answer's block, the variable's at bg, the graph in blocks beside them. -/
structure AnSt (w : World) (g bg : Nat) (v : Value) (l : List MItem) (F : List Nat) (W : World) : Prop where
  r : Bw W w.heap.size 30 [.slice none 0 0]
  x : Bw W bg 30 [v]
  o : ownS 3 52 oItem W v l F
  n : F.Nodup
  f : ∀ b, b ∈ F → w.heap.size + 1 ≤ b ∧ b ≠ bg
  c : CurOk W g
  k : w.grownBy W (some g)
  lt : g < w.heap.size
  lb : w.heap.size < bg
theorem AnSt.cursor {w W W' : World} {g bg : Nat} {v : Value} {l : List MItem} {F : List Nat} (h : AnSt w g bg v l F W) (hc : CurOk W' g) (hg : W.grownBy W' (some g)) : AnSt w g bg v l F W' :=
  have hl := h.lt
  have hb := h.lb
  ⟨h.r.grown hg (by simp; omega), h.x.grown hg (by simp; omega), ownS.frame oItem_good h.o (fun b hb => hg.block b (ownS.lt oItem_good h.o b hb) (by have := (h.f b hb).1; simp; omega)), h.n, h.f, hc, grown_trans h.k hg, h.lt, h.lb⟩
theorem AnSt.below {w W W' : World} {g bg : Nat} {v : Value} {l : List MItem} {F : List Nat} (h : AnSt w g bg v l F W) (hb : Below W.heap.size W W') : AnSt w g bg v l F W' :=
  h.cursor (h.c.below hb) (grown_of_below hb _)
theorem AnSt.done {w W : World} {g bg : Nat} {v : Value} {l : List MItem} {F : List Nat} (h : AnSt w g bg v l F W) (hw : wGraph ⟨l⟩ ≤ 6300) : GraphAny w g (.returned (.agg #[v])) (W.setCell ⟨w.heap.size, 0, none⟩ v) := by
  refine ⟨[v], ⟨l⟩, rfl, OutG.mk' (F := F) (ownS.frame oItem_good h.o (fun b hb => heap_setCell_other W ⟨w.heap.size, 0, none⟩ b _ (by have := (h.f b hb).1; show b ≠ w.heap.size; omega))) h.n (fun b hb => by have := (h.f b hb).1; omega), hw, h.c.setCell (p := ⟨w.heap.size, 0, none⟩) h.lt _, grown_setCell h.k (p := ⟨w.heap.size, 0, none⟩) (Nat.le_refl _) _⟩
/-- Another graph, new, is put into the variable. -/
theorem AnSt.store {w W : World} {g bg : Nat} {v : Value} {l : List MItem} {F : List Nat} (h : AnSt w g bg v l F W) {B : Nat} {W' : World} {a : Option Addr} {c : Nat} {m : MGraph} (hO : OutG W.heap.size W' [.slice a m.fItems.length c] m) (hc : CurOk W' g) (hg : W.grownBy W' (some g)) :
    ∃ F', AnSt w g bg (.slice a m.fItems.length c) m.fItems F' (W'.setCell ⟨bg, 0, none⟩ (.slice a m.fItems.length c)) := by
  obtain ⟨F, ⟨v0, F0, e0, ho, rfl⟩, hN, hge⟩ := hO
  simp only [List.cons.injEq, and_true] at e0
  subst e0
  rw [List.append_nil] at hN hge
  have h' := h.cursor hc hg
  have hl := h.lt
  have hb := h.lb
  have hv := h.x.lt
  refine ⟨F0, h'.r.other' (by omega), h'.x.put 0 _, ownS.frame oItem_good ho (fun b hb => heap_setCell_other W' ⟨bg, 0, none⟩ b _ (by have := hge b hb; show b ≠ bg; omega)), hN, fun b hb => by have := hge b hb; omega, h'.c.setCell (p := ⟨bg, 0, none⟩) (by show g < bg; omega) _, grown_setCell h'.k (p := ⟨bg, 0, none⟩) (by show w.heap.size ≤ bg; omega) _, h.lt, h.lb⟩
theorem AnSt.app {w W : World} {g bg : Nat} {v : Value} {l : List MItem} {F : List Nat} (h : AnSt w g bg v l F W) :
    ∃ xs, W.ownsRow 0 52 3 v l.length xs ∧ ∀ (W' : World) (v' : Value) (news : List Value) (x : MItem) (Fx : List Nat), W'.ownsRow 0 52 3 v' (l.length + 1) (xs ++ news) → W.grownBy W' v.ownBlock → (v'.ownBlock = v.ownBlock ∨ v'.ownBlock = some W.heap.size) → oItem W news x Fx → Fx.Nodup → (∀ b, b ∈ Fx → b ∉ F) → (∀ b, b ∈ Fx → w.heap.size + 1 ≤ b ∧ b ≠ bg) → ∀ l9 : List MItem, l9 = l ++ [x] →
      ∃ F' a c, v' = .slice a l9.length c ∧ AnSt w g bg (.slice a l9.length c) l9 F' (W'.setCell ⟨bg, 0, none⟩ (.slice a l9.length c)) ∧ Bw W' bg 30 [v] := by
  obtain ⟨xs, hox, hnext⟩ := ownS.push oItem_good h.o h.n
  refine ⟨xs, hox, fun W' v' news x Fx ho hg hat hx hN hd hge l9 h9 => ?_⟩
  subst h9
  obtain ⟨F', ho', hN', hF'⟩ := hnext W' v' news x Fx ho hg hat hx hN hd
  obtain ⟨a, c, hv, _⟩ := id (ownS.read oItem_good ho')
  have hl := h.lt
  have hb := h.lb
  have hk : ∀ k, v.ownBlock = some k → w.heap.size + 1 ≤ k ∧ k ≠ bg := fun k hk => h.f k (ownS.blk h.o k hk)
  have hWl : bg < W.heap.size := h.x.lt
  have hbW : Bw W' bg 30 [v] := (hg.block _ hWl (fun e => (hk _ e.symm).2 rfl)).trans h.x
  have hrW : Bw W' w.heap.size 30 [.slice none 0 0] := (hg.block _ h.r.lt (fun e => by have := (hk _ e.symm).1; omega)).trans h.r
  have hge' : ∀ b, b ∈ F' → w.heap.size + 1 ≤ b ∧ b ≠ bg := fun b hb => by
    rcases hF' b hb with h1 | h1 | h1
    · exact h.f b h1
    · exact hge b h1
    · constructor <;> omega
  subst hv
  refine ⟨F', a, c, rfl, ⟨hrW.other' (by omega), hbW.put 0 _, ownS.frame oItem_good ho' (fun b hb => heap_setCell_other W' ⟨bg, 0, none⟩ b _ (hge' b hb).2), hN', hge', ?_, ?_, h.lt, h.lb⟩, hbW⟩
  · exact (h.c.grown hg (fun k e => by have := (hk k e).1; omega)).setCell (p := ⟨bg, 0, none⟩) (by show g < bg; omega) _
  · exact grown_setCell (World.grownBy.andThen h.k hg (fun j e => .inl (by have := (hk j e).1; omega))) (p := ⟨bg, 0, none⟩) (by show w.heap.size ≤ bg; omega) _
theorem wGraph_snoc {l : List MItem} {x : MItem} (h : wGraph ⟨l⟩ ≤ 6200) (hx : x.fDeps.length ≤ 2) : wGraph ⟨l ++ [x]⟩ ≤ 6300 := by
  have h1 : l.length + sumW wItem l ≤ 6200 := h
  have h2 : sumW wDot x.fDeps ≤ x.fDeps.length * 0 := sumW_all (fun y _ => Nat.le_refl 0)
  have h3 : wItem x = x.fDeps.length + sumW wDot x.fDeps := rfl
  show (l ++ [x]).length + sumW wItem (l ++ [x]) ≤ 6300
  have h4 : sumW wItem (l ++ [x]) = sumW wItem l + wItem x := by
    clear h1 h2 h3 h hx
    induction l with
    | nil => simp [sumW]
    | cons y l ih => simp only [List.cons_append, sumW, ih]; omega
  rw [h4, List.length_append, List.length_singleton]
  omega
/-- The first item's R is another one. -/
theorem AnSt.top {w W : World} {g bg : Nat} {v : Value} {l : List MItem} {F : List Nat} (h : AnSt w g bg v l F W) (hl : 0 < l.length) (z : Int) (hz : (Lit.int .i64 z).wf = true) :
    ∃ gi cap, v = .slice (some ⟨gi, 0, none⟩) l.length cap ∧ gi < W.heap.size ∧ (∃ u, W.cell? ⟨gi, 0, none⟩ = some u) ∧ W.frozen? ⟨gi, 0, none⟩ = false ∧ gi ≠ bg ∧ gi ≠ w.heap.size ∧ ∃ (l' : List MItem) (F' : List Nat), AnSt w g bg v l' F' (W.setCell ⟨gi, 0, none⟩ (.int .i64 z)) ∧ l'.length = l.length ∧ wGraph ⟨l'⟩ = wGraph ⟨l⟩ := by
  rcases id h.o with ⟨_, he, _⟩ | ⟨gi, cap, cur, Fs, hv, h2, h3, h4, h5, h6, h7, hFF⟩
  · rw [he] at hl; simp at hl
  have ho := h.o
  rw [hv] at ho
  have hgF : gi ∈ F := by rw [hFF]; simp
  have hfz : ∀ i, W.frozen? ⟨gi, i, none⟩ = false := fun i => frozen_of_row W gi i cur _ h2
  have hcell0 : ∃ u, W.cell? ⟨gi, 0, none⟩ = some u := by
    rw [cell_of_row W gi 0 cur _ (0, 0) h2]
    have h8 : 0 < cur.size := by rw [h5]; omega
    exact ⟨cur[0], Array.getElem?_eq_getElem h8⟩
  obtain ⟨F', ho', hN', hF', _⟩ := ownS.cellPut oItem_good ho h.n (k := 0) (i := 0) hl (by omega) (.int .i64 z) ⟨⟨z, l[0].fD.fN⟩, l[0].fDeps⟩ [] (fun b hb => by cases hb) (fun cs Fk hcs hN => by
    obtain ⟨v2, F2, rfl, h0, h1, h2, rfl⟩ := hcs
    exact ⟨F2 ++ [], ⟨v2, F2, rfl, hz, h1, h2, rfl⟩, hN, fun b hb => .inl hb⟩)
  have hgb := h.f gi hgF
  have hlt := h.lt
  have hlb := h.lb
  simp only [Nat.zero_mul, Nat.add_zero] at ho'
  have hlen : (l.set 0 ⟨⟨z, l[0].fD.fN⟩, l[0].fDeps⟩).length = l.length := by simp
  refine ⟨gi, cap, hv, ownS.lt oItem_good ho gi hgF, hcell0, hfz 0, hgb.2, by omega, l.set 0 ⟨⟨z, l[0].fD.fN⟩, l[0].fDeps⟩, F', ⟨h.r.other' (by omega), h.x.other' (by omega), ?_, hN', fun b hb => ?_, h.c.setCell (p := ⟨gi, 0, none⟩) (by show g < gi; omega) _, grown_setCell h.k (p := ⟨gi, 0, none⟩) (by show w.heap.size ≤ gi; omega) _, h.lt, h.lb⟩, hlen, ?_⟩
  · rw [hv]; exact ho'
  · rcases hF' b hb with h1 | h1
    · exact h.f b h1
    · cases h1
  · cases l with
    | nil => simp at hl
    | cons x r => rfl

/-- An item that was laid as a literal, its two Deps in a block of their own. -/
theorem item_lit {W : World} {g8 : Nat} {r3 n3 r5 n5 r7 n7 : Int} (h : Bw W g8 40 [.int .i64 r5, .int .i64 n5, .int .i64 r7, .int .i64 n7]) (h3 : 1 ≤ r3 ∧ r3 ≤ 3 ∧ 1 ≤ n3 ∧ n3 ≤ 5) (h5 : 1 ≤ r5 ∧ r5 ≤ 3 ∧ 1 ≤ n5 ∧ n5 ≤ 5) (h7 : 1 ≤ r7 ∧ r7 ≤ 3 ∧ 1 ≤ n7 ∧ n7 ≤ 5) :
    oItem W [.int .i64 r3, .int .i64 n3, .slice (some ⟨g8, 0, none⟩) 2 2] ⟨⟨r3, n3⟩, [⟨r5, n5⟩, ⟨r7, n7⟩]⟩ [g8] := by
  refine ⟨_, [g8], rfl, wf_seven (by show (0 : Int) ≤ r3; omega) (by show r3 < 7; omega), wf_seven (by show (0 : Int) ≤ n3; omega) (by show n3 < 7; omega), .inr ⟨g8, 2, #[.int .i64 r5, .int .i64 n5, .int .i64 r7, .int .i64 n7], [[], []], rfl, h, Nat.le_refl _, by unfold maxLen; omega, rfl, rfl, ?_, rfl⟩, rfl⟩
  intro j hj
  have : j = 0 ∨ j = 1 := by simp at hj; omega
  rcases this with rfl | rfl
  · exact ⟨rfl, wf_seven (by show (0 : Int) ≤ r5; omega) (by show r5 < 7; omega), wf_seven (by show (0 : Int) ≤ n5; omega) (by show n5 < 7; omega), rfl⟩
  · exact ⟨rfl, wf_seven (by show (0 : Int) ≤ r7; omega) (by show r7 < 7; omega), wf_seven (by show (0 : Int) ≤ n7; omega) (by show n7 < 7; omega), rfl⟩
theorem wf_three {j : Nat} (h : j < 3) : (Lit.int .i64 (([0, 8, 1] : List Int).getD j 0)).wf = true := by
  have : j = 0 ∨ j = 1 ∨ j = 2 := by omega
  rcases this with rfl | rfl | rfl <;> rfl
theorem AnSt.addr {w W : World} {g bg c : Nat} {a : Option Addr} {l : List MItem} {F : List Nat} (h : AnSt w g bg (.slice a l.length c) l F W) (hl : 0 < l.length) : ∃ gi, a = some ⟨gi, 0, none⟩ := by
  rcases h.o with ⟨_, he, _⟩ | ⟨gi, cap, cur, Fs, hv, _⟩
  · rw [he] at hl; simp at hl
  · simp only [Value.slice.injEq] at hv
    exact ⟨gi, hv.1⟩
theorem rd_three {W : World} {g3 : Nat} {x y z : Int} {t : TypeId} (h : Bw W g3 t [.int .i64 x, .int .i64 y, .int .i64 z]) : Rd .i64 W.heap.size W (some ⟨g3, 0, none⟩) [x, y, z] := by
  intro j hj
  refine ⟨g3, 0, rfl, h.lt, ?_⟩
  have : j = 0 ∨ j = 1 ∨ j = 2 := by simp at hj; omega
  rcases this with rfl | rfl | rfl
  · exact h.cell 0 _ rfl
  · exact h.cell 1 _ rfl
  · exact h.cell 2 _ rfl

set_option maxHeartbeats 8000000 in
theorem l8DrawAny_ok {g : Nat} {w : World} (q : Int) (hc : CurOk w g) (hq : q ≤ 100) :
    Calls Tryd.prog 54 #[.pointer (some ⟨g, 0, none⟩), .int .i64 q] w fun e w' => GraphAny w g e w' := by
  obtain ⟨iI, hiI, hzI0, hzI1, hzI2⟩ := info_parts Tryd.infoOfItem
  have HII : Hid (_ ∧ _ ∧ _ ∧ _) := ⟨hiI, hzI0, hzI1, hzI2⟩
  clear hiI hzI0 hzI1 hzI2
  have hgl := hc.lt
  obtain ⟨w0, hw0⟩ : ∃ x, x = w.alloc (.cells #[.slice none 0 0] 30) := ⟨_, rfl⟩
  have hbr : Bw w0 w.heap.size 30 [.slice none 0 0] := by rw [hw0]; exact Bw.new _ _ _
  have hc0 : CurOk w0 g := by rw [hw0]; exact hc.alloc _
  have hg0 : w.grownBy w0 (some g) := by rw [hw0]; exact World.grownBy_alloc w _ _
  have hz0 : w0.heap.size = w.heap.size + 1 := by rw [hw0]; simp
  go_enter Tryd.func54, Tryd.ntmps54
  go_wp2_with (rw [← hw0])
  try rw [← hw0]
  refine (l8Draw_ok q hc0 hq).mono ?_
  rintro e w1 ⟨cs, m, rfl, hO1, hp1, hc1, hg1⟩
  obtain ⟨a, c, rfl⟩ := hO1.shape
  have hbr1 := hbr.grown hg1 (by simp; omega)
  obtain ⟨bg, hbge⟩ : ∃ b, b = w1.heap.size := ⟨_, rfl⟩
  have hbg : w.heap.size < bg := by rw [hbge]; exact hbr1.lt
  obtain ⟨w2, hw2⟩ : ∃ x, x = w1.alloc (.cells #[.slice a m.fItems.length c] 30) := ⟨_, rfl⟩
  obtain ⟨F, ⟨v0, F0, e0, ho, rfl⟩, hN, hge⟩ := hO1
  simp only [List.cons.injEq, and_true] at e0
  subst e0
  rw [List.append_nil] at hN hge
  have HD2 : Hid (AnSt w g bg (.slice a m.fItems.length c) m.fItems F0 w2) := by
    refine ⟨by rw [hw2]; exact hbr1.alloc _, by rw [hw2]; exact Bw.new' _ _ _ hbge, by rw [hw2]; exact ownS.frame oItem_good ho (fun b hb => ((Below.refl _ _).alloc (Nat.le_refl _) _).block b (ownS.lt oItem_good ho b hb)), hN, fun b hb => ?_, by rw [hw2]; exact hc1.alloc _, by rw [hw2]; exact grown_alloc (grown_trans hg0 hg1) _, hgl, hbg⟩
    have h1 := hge b hb
    have h2 := ownS.lt oItem_good ho b hb
    constructor <;> omega
  have HWM := Hid.mk (graphP_w hp1)
  obtain ⟨l, hl⟩ : ∃ l, l = m.fItems := ⟨_, rfl⟩
  have HWL : Hid (wGraph ⟨l⟩ ≤ 6200) := by unfold Hid; rw [hl]; exact HWM.out
  rw [← hl] at HD2 hw2 ⊢
  clear HWM hl ho hN hge
  go_wp2_with (rw [← hw2, ← hbge])
  try rw [← hw2]
  try rw [← hbge]
  refine (l1Once_ok _ HD2.out.c).mono ?_
  rintro e w3 ⟨b, rfl, hc3, hg3⟩
  have HD3 := Hid.mk (HD2.out.cursor hc3 hg3)
  clear hw0 hbr hc0 hg0 hc1 hg1 hbr1 hw2 HD2 hc3 hg3 hbge
  cases b with
  | true =>
    have q0 := HD3.out.x.cell 0 _ rfl
    go_wp2_with fail
    refine (l8Full_ok HD3.out.c).mono ?_
    rintro e w4 ⟨cs4, m4, rfl, hO4, hp4, hc4, hg4⟩
    obtain ⟨a4, c4, rfl⟩ := hO4.shape
    obtain ⟨F4, hA4⟩ := HD3.out.store (B := 0) hO4 hc4 hg4
    have hb4 := (HD3.out.cursor hc4 hg4).x
    have q1 := hb4.cell 0 _ rfl
    have q2 := hb4.free 0
    have q3 := hb4.lt
    have HW4 := Hid.mk (graphP_w hp4)
    obtain ⟨w5, hw5⟩ : ∃ z, z = w4.setCell ⟨bg, 0, none⟩ (.slice a4 m4.fItems.length c4) := ⟨_, rfl⟩
    rw [← hw5] at hA4
    have HA4 := Hid.mk hA4
    clear hA4 HWL HD3 q0 hO4 hp4 hc4 hg4
    go_wp2_with (rw [← hw5])
    try rw [← hw5]
    clear hw5 hb4 q1 q2 q3
    obtain ⟨l, hl⟩ : ∃ l, l = m4.fItems := ⟨_, rfl⟩
    have HWL : Hid (wGraph ⟨l⟩ ≤ 6200) := by unfold Hid; rw [hl]; exact HW4.out
    rw [← hl] at HA4 ⊢
    clear HW4 hl
    have HD3 := HA4
    clear HA4
    generalize a4 = a at *
    generalize c4 = c at *
    generalize F4 = F0 at *
    have hln : l.length ≤ 6200 := by have h : l.length + sumW wItem l ≤ 6200 := HWL.out; omega
    go_wp2_with fail
    refine (l1Below_ok 12 HD3.out.c).mono ?_
    rintro e wB ⟨x, rfl, hx, hcB, hgB⟩
    have HDB := Hid.mk (HD3.out.cursor hcB hgB)
    clear HD3 hcB hgB hx
    by_cases x0 : x = 0
    · subst x0
      go_wp2_with fail
      refine wp_region_held_drew (S := fun W => True) (by kernel_rfl) (trivial) (fun hHeld => ?_)
      obtain ⟨wS, hwS⟩ : ∃ wS, wS = wB.drew := ⟨_, rfl⟩
      have HDwS : Hid (AnSt w g bg (.slice a l.length c) l F0 wS) := by rw [hwS]; exact HDB.out.below (Below.drew (Below.refl _ _))
      rw [← hwS]
      clear hwS
      refine tk 0 q50d_54_6_0 (some 17) (v := ?v1) rfl rfl (by kernel_rfl) hHeld (by rfl) (fun _ _ _ x => x) (fun w h => ?y1) ?_; (case y1 => (try dsimp only at h); go_simp; try (with_reducible rfl)); try simp only [Act.put, sa, s0, s1]
      refine tk 2 q50d_54_6_2 (some 19) (v := ?v2) rfl rfl (by kernel_rfl) hHeld (by rfl) (fun _ _ _ x => x) (fun w h => ?y2) ?_; (case y2 => (try dsimp only at h); go_simp; try (with_reducible rfl)); try simp only [Act.put, sa, s0, s1]
      refine tk 4 q50d_54_6_4 (some 21) (v := ?v3) rfl rfl (by kernel_rfl) hHeld (by rfl) (fun _ _ _ x => x) (fun w h => ?y3) ?_; (case y3 => (try dsimp only at h); go_simp; try (with_reducible rfl)); try simp only [Act.put, sa, s0, s1]
      refine tk 6 q50d_54_6_6 (some 23) (v := ?v4) rfl rfl (by kernel_rfl) hHeld (by rfl) (fun _ _ _ x => x) (fun w h => ?y4) ?_; (case y4 => (try dsimp only at h); go_simp; try (with_reducible rfl)); try simp only [Act.put, sa, s0, s1]
      refine wpAnyH_ready (rs := [1, 3]) (by kernel_rfl) (by simp) ?_
      refine (AllReadyH.cons (o := q50d_54_6_1) rfl (fun K hK => ?_) (AllReadyH.cons (o := q50d_54_6_3) rfl (fun K hK => ?_) AllReadyH.nil))
      · skip
        have yq := HDwS.out.x.cell 0 _ rfl
        go_simp
        obtain ⟨wE1, hq1⟩ : ∃ q, q = wS := ⟨_, rfl⟩
        have HDwE1 : Hid (AnSt w g bg (.slice a l.length c) l F0 wE1) := by rw [hq1]; exact HDwS
        have hop1 : Below wS.heap.size wS wE1 := by rw [hq1]; exact Below.refl _ _
        rw [← hq1]
        clear hq1 yq
        refine hK.out _ _ (trivial) (fun hHeld => ?_)
        clear hK K
        try simp only [Act.put, sa, s0, s1]
        refine wpAnyH_ready (rs := [3]) (by kernel_rfl) (by simp) ?_
        refine (AllReadyH.cons (o := q50d_54_6_3) rfl (fun K hK => ?_) AllReadyH.nil)
        · go_simp
          refine Calls.mono (l8Dot_ok HDwE1.out.c) ?_
          rintro e wE3 ⟨r3, n3, ⟨rfl, p3a, p3b, p3c, p3d⟩, hc3, hg3⟩
          have HDwE3 := Hid.mk (HDwE1.out.cursor hc3 hg3)
          have HN3 : Hid (1 ≤ r3 ∧ r3 ≤ 3 ∧ 1 ≤ n3 ∧ n3 ≤ 5) := ⟨p3a, p3b, p3c, p3d⟩
          clear hc3 hg3 p3a p3b p3c p3d
          go_wp2_with fail
          refine hK.out _ _ (trivial) (fun hHeld => ?_)
          clear hK K
          try simp only [Act.put, sa, s0, s1]
          refine wpAnyH_ready (rs := [5]) (by kernel_rfl) (by simp) ?_
          refine (AllReadyH.cons (o := q50d_54_6_5) rfl (fun K hK => ?_) AllReadyH.nil)
          · go_simp
            refine Calls.mono (l8Dot_ok HDwE3.out.c) ?_
            rintro e wE5 ⟨r5, n5, ⟨rfl, p3a, p3b, p3c, p3d⟩, hc3, hg3⟩
            have HDwE5 := Hid.mk (HDwE3.out.cursor hc3 hg3)
            have HN5 : Hid (1 ≤ r5 ∧ r5 ≤ 3 ∧ 1 ≤ n5 ∧ n5 ≤ 5) := ⟨p3a, p3b, p3c, p3d⟩
            clear hc3 hg3 p3a p3b p3c p3d
            go_wp2_with fail
            refine hK.out _ _ (trivial) (fun hHeld => ?_)
            clear hK K
            try simp only [Act.put, sa, s0, s1]
            refine wpAnyH_ready (rs := [7]) (by kernel_rfl) (by simp) ?_
            refine (AllReadyH.cons (o := q50d_54_6_7) rfl (fun K hK => ?_) AllReadyH.nil)
            · go_simp
              refine Calls.mono (l8Dot_ok HDwE5.out.c) ?_
              rintro e wE7 ⟨r7, n7, ⟨rfl, p3a, p3b, p3c, p3d⟩, hc3, hg3⟩
              have HDwE7 := Hid.mk (HDwE5.out.cursor hc3 hg3)
              have HN7 : Hid (1 ≤ r7 ∧ r7 ≤ 3 ∧ 1 ≤ n7 ∧ n7 ≤ 5) := ⟨p3a, p3b, p3c, p3d⟩
              clear hc3 hg3 p3a p3b p3c p3d
              go_wp2_with fail
              refine hK.out _ _ (trivial) (fun hHeld => ?_)
              clear hK K
              try simp only [Act.put, sa, s0, s1]
              refine wpAnyH_ready (rs := [8]) (by kernel_rfl) (by simp) ?_
              refine (AllReadyH.cons (o := q50d_54_6_8) rfl (fun K hK => ?_) AllReadyH.nil)
              · go_simp
                obtain ⟨wE8, hq8⟩ : ∃ q, q = wE7.alloc (.cells #[.int .i64 r5, .int .i64 n5, .int .i64 r7, .int .i64 n7] 40) := ⟨_, rfl⟩
                have hop8 : Below wE7.heap.size wE7 wE8 := by rw [hq8]; exact (Below.refl _ _).alloc (Nat.le_refl _) _
                have HDwE8 := Hid.mk (HDwE7.out.below hop8)
                obtain ⟨g8, HG8⟩ : ∃ z, Hid (z = wE7.heap.size) := ⟨_, Hid.mk rfl⟩
                have HB8 : Hid (Bw wE8 g8 40 [.int .i64 r5, .int .i64 n5, .int .i64 r7, .int .i64 n7]) := by unfold Hid; rw [HG8.out, hq8]; exact Bw.new _ _ _
                have HF8 : Hid (w.heap.size + 1 ≤ g8 ∧ g8 ≠ bg ∧ g8 ∉ F0) := by have h1 := HDwE7.out.x.lt; have h2 := HDwE7.out.lb; have h3 := HG8.out; exact ⟨by omega, by omega, fun hm => by have := ownS.lt oItem_good HDwE7.out.o _ hm; omega⟩
                rw [← HG8.out]
                rw [← hq8]
                clear hq8
                refine hK.out _ _ (trivial) (fun hHeld => ?_)
                clear hK K
                try simp only [Act.put, sa, s0, s1]
                refine tk 9 q50d_54_6_9 (some 26) (v := ?v5) rfl rfl (by kernel_rfl) hHeld (by rfl) (fun _ _ _ x => x) (fun w h => ?y5) ?_; (case y5 => (try dsimp only at h); go_simp; try (with_reducible rfl)); try simp only [Act.put, sa, s0, s1]
                refine wpAnyH_ready (rs := [10]) (by kernel_rfl) (by simp) ?_
                refine (AllReadyH.cons (o := q50d_54_6_10) rfl (fun K hK => ?_) AllReadyH.nil)
                · go_simp
                  obtain ⟨wE10, hq10⟩ : ∃ q, q = wE8.alloc (.cells #[.int .i64 r3, .int .i64 n3, .slice (some ⟨g8, 0, none⟩) 2 2] 52) := ⟨_, rfl⟩
                  have hop10 : Below wE8.heap.size wE8 wE10 := by rw [hq10]; exact (Below.refl _ _).alloc (Nat.le_refl _) _
                  have HDwE10 := Hid.mk (HDwE8.out.below hop10)
                  obtain ⟨g10, HG10⟩ : ∃ z, Hid (z = wE8.heap.size) := ⟨_, Hid.mk rfl⟩
                  have HB10 : Hid (Bx wE10 g10 [.int .i64 r3, .int .i64 n3, .slice (some ⟨g8, 0, none⟩) 2 2]) := by unfold Hid; rw [HG10.out, hq10]; exact Bx.new _ _ _
                  rw [← HG10.out]
                  rw [← hq10]
                  clear hq10
                  refine hK.out _ _ (trivial) (fun hHeld => ?_)
                  clear hK K
                  try simp only [Act.put, sa, s0, s1]
                  refine wpAnyH_ready (rs := [11]) (by kernel_rfl) (by simp) ?_
                  refine (AllReadyH.cons (o := q50d_54_6_11) rfl (fun K hK => ?_) AllReadyH.nil)
                  · skip
                    have HX10 : Hid (Bx wE10 g10 [.int .i64 r3, .int .i64 n3, .slice (some ⟨g8, 0, none⟩) 2 2]) := Bx.under HB10.out (show Below wE10.heap.size wE10 wE10 from Below.refl _ _)
                    have HX8 := Hid.mk (HB8.out.under (show Below wE8.heap.size wE8 wE10 from bthen (Below.refl _ _) hop10))
                    obtain ⟨xs, hox, hnext⟩ := HDwE10.out.app
                    have HNX := Hid.mk hnext
                    clear hnext
                    refine step_append_src wE10 rfl _ _ 28 28 rfl 0 52 iI (.agg #[.int .i64 0, .int .i64 0, .slice none 0 0]) 3 40 Tryd.underlying28 HII.out.1 HII.out.2.1 HII.out.2.2.1 HII.out.2.2.2 rfl (.slice a l.length c) l.length xs rfl hox (.slice (some ⟨g10, 0, none⟩) 1 1) rfl 1 [.int .i64 r3, .int .i64 n3, .slice (some ⟨g8, 0, none⟩) 2 2] (Src.ofSlice _ Tryd.underlying28 ⟨g10, 0, none⟩ 1 1 _ rfl (bx_news HX10.out) (by intro u hu; simp at hu; rcases hu with rfl | rfl | rfl <;> rfl)) (by unfold maxLen; omega) (by omega) (Nat.zero_le _) ?_
                    intro v11 wE11 ho11 hgr11 hat11
                    obtain ⟨l9, HL9⟩ : ∃ l9 : List MItem, Hid (l9 = l ++ [(⟨⟨r3, n3⟩, [⟨r5, n5⟩, ⟨r7, n7⟩]⟩ : MItem)]) := ⟨_, Hid.mk rfl⟩
                    obtain ⟨F9, a9, c9, hv9, hA9, hb9⟩ := HNX.out wE11 v11 _ ⟨⟨r3, n3⟩, [⟨r5, n5⟩, ⟨r7, n7⟩]⟩ [g8] ho11 hgr11 hat11 (item_lit HX8.out HN3.out HN5.out HN7.out) (by simp) (fun b hb => by rw [List.mem_singleton.1 hb]; exact HF8.out.2.2) (fun b hb => by rw [List.mem_singleton.1 hb]; exact ⟨HF8.out.1, HF8.out.2.1⟩) l9 HL9.out
                    subst hv9
                    have HA9 := Hid.mk hA9
                    have q1 := hb9.cell 0 _ rfl
                    have qf := hb9.free 0
                    have ql := hb9.lt
                    clear ho11 hgr11 hat11 hA9 hb9 HNX hox
                    refine hK.out _ _ (trivial) (fun hHeld => ?_)
                    clear hK K
                    try simp only [Act.put, sa, s0, s1]
                    refine tk 12 q50d_54_6_12 (some 29) (v := ?v6) rfl rfl (by kernel_rfl) hHeld (by rfl) (fun _ _ _ x => x) (fun w h => ?y6) ?_; (case y6 => (try dsimp only at h); go_simp; try (with_reducible rfl)); try simp only [Act.put, sa, s0, s1]
                    refine wpAnyH_ready (rs := [13]) (by kernel_rfl) (by simp) ?_
                    refine (AllReadyH.cons (o := q50d_54_6_13) rfl (fun K hK => ?_) AllReadyH.nil)
                    · go_simp
                      obtain ⟨wE13, hq13⟩ : ∃ q, q = wE11.setCell ⟨bg, 0, none⟩ (.slice a9 l9.length c9) := ⟨_, rfl⟩
                      have HN : Hid (AnSt w g bg (.slice a9 l9.length c9) l9 F9 wE13) := by rw [hq13]; exact HA9.out
                      clear q1 qf ql
                      rw [← hq13]
                      clear hq13
                      refine hK.out _ _ (trivial) (fun hHeld => ?_)
                      clear hK K
                      try simp only [Act.put, sa, s0, s1]
                      refine wpAnyH_done (by kernel_rfl) ?_ _
                      have k0 := HN.out.x.cell 0 _ rfl
                      have k1 := HN.out.r.cell 0 _ rfl
                      have k2 := HN.out.r.free 0
                      have k3 := HN.out.r.lt
                      have k4 := HN.out.x.lt
                      go_wp2_with fail
                      exact bodyPost_ret (v := .agg #[.slice a9 l9.length c9]) (by simp [results, Tryd.results54, go_sem, *]) rfl (HN.out.done (by rw [HL9.out]; exact wGraph_snoc HWL.out (by simp)))
      · go_simp
        refine Calls.mono (l8Dot_ok HDwS.out.c) ?_
        rintro e wE3 ⟨r3, n3, ⟨rfl, p3a, p3b, p3c, p3d⟩, hc3, hg3⟩
        have HDwE3 := Hid.mk (HDwS.out.cursor hc3 hg3)
        have HN3 : Hid (1 ≤ r3 ∧ r3 ≤ 3 ∧ 1 ≤ n3 ∧ n3 ≤ 5) := ⟨p3a, p3b, p3c, p3d⟩
        clear hc3 hg3 p3a p3b p3c p3d
        go_wp2_with fail
        refine hK.out _ _ (trivial) (fun hHeld => ?_)
        clear hK K
        try simp only [Act.put, sa, s0, s1]
        refine wpAnyH_ready (rs := [1, 5]) (by kernel_rfl) (by simp) ?_
        refine (AllReadyH.cons (o := q50d_54_6_1) rfl (fun K hK => ?_) (AllReadyH.cons (o := q50d_54_6_5) rfl (fun K hK => ?_) AllReadyH.nil))
        · skip
          have yq := HDwE3.out.x.cell 0 _ rfl
          go_simp
          obtain ⟨wE1, hq1⟩ : ∃ q, q = wE3 := ⟨_, rfl⟩
          have HDwE1 : Hid (AnSt w g bg (.slice a l.length c) l F0 wE1) := by rw [hq1]; exact HDwE3
          have hop1 : Below wE3.heap.size wE3 wE1 := by rw [hq1]; exact Below.refl _ _
          rw [← hq1]
          clear hq1 yq
          refine hK.out _ _ (trivial) (fun hHeld => ?_)
          clear hK K
          try simp only [Act.put, sa, s0, s1]
          refine wpAnyH_ready (rs := [5]) (by kernel_rfl) (by simp) ?_
          refine (AllReadyH.cons (o := q50d_54_6_5) rfl (fun K hK => ?_) AllReadyH.nil)
          · go_simp
            refine Calls.mono (l8Dot_ok HDwE1.out.c) ?_
            rintro e wE5 ⟨r5, n5, ⟨rfl, p3a, p3b, p3c, p3d⟩, hc3, hg3⟩
            have HDwE5 := Hid.mk (HDwE1.out.cursor hc3 hg3)
            have HN5 : Hid (1 ≤ r5 ∧ r5 ≤ 3 ∧ 1 ≤ n5 ∧ n5 ≤ 5) := ⟨p3a, p3b, p3c, p3d⟩
            clear hc3 hg3 p3a p3b p3c p3d
            go_wp2_with fail
            refine hK.out _ _ (trivial) (fun hHeld => ?_)
            clear hK K
            try simp only [Act.put, sa, s0, s1]
            refine wpAnyH_ready (rs := [7]) (by kernel_rfl) (by simp) ?_
            refine (AllReadyH.cons (o := q50d_54_6_7) rfl (fun K hK => ?_) AllReadyH.nil)
            · go_simp
              refine Calls.mono (l8Dot_ok HDwE5.out.c) ?_
              rintro e wE7 ⟨r7, n7, ⟨rfl, p3a, p3b, p3c, p3d⟩, hc3, hg3⟩
              have HDwE7 := Hid.mk (HDwE5.out.cursor hc3 hg3)
              have HN7 : Hid (1 ≤ r7 ∧ r7 ≤ 3 ∧ 1 ≤ n7 ∧ n7 ≤ 5) := ⟨p3a, p3b, p3c, p3d⟩
              clear hc3 hg3 p3a p3b p3c p3d
              go_wp2_with fail
              refine hK.out _ _ (trivial) (fun hHeld => ?_)
              clear hK K
              try simp only [Act.put, sa, s0, s1]
              refine wpAnyH_ready (rs := [8]) (by kernel_rfl) (by simp) ?_
              refine (AllReadyH.cons (o := q50d_54_6_8) rfl (fun K hK => ?_) AllReadyH.nil)
              · go_simp
                obtain ⟨wE8, hq8⟩ : ∃ q, q = wE7.alloc (.cells #[.int .i64 r5, .int .i64 n5, .int .i64 r7, .int .i64 n7] 40) := ⟨_, rfl⟩
                have hop8 : Below wE7.heap.size wE7 wE8 := by rw [hq8]; exact (Below.refl _ _).alloc (Nat.le_refl _) _
                have HDwE8 := Hid.mk (HDwE7.out.below hop8)
                obtain ⟨g8, HG8⟩ : ∃ z, Hid (z = wE7.heap.size) := ⟨_, Hid.mk rfl⟩
                have HB8 : Hid (Bw wE8 g8 40 [.int .i64 r5, .int .i64 n5, .int .i64 r7, .int .i64 n7]) := by unfold Hid; rw [HG8.out, hq8]; exact Bw.new _ _ _
                have HF8 : Hid (w.heap.size + 1 ≤ g8 ∧ g8 ≠ bg ∧ g8 ∉ F0) := by have h1 := HDwE7.out.x.lt; have h2 := HDwE7.out.lb; have h3 := HG8.out; exact ⟨by omega, by omega, fun hm => by have := ownS.lt oItem_good HDwE7.out.o _ hm; omega⟩
                rw [← HG8.out]
                rw [← hq8]
                clear hq8
                refine hK.out _ _ (trivial) (fun hHeld => ?_)
                clear hK K
                try simp only [Act.put, sa, s0, s1]
                refine tk 9 q50d_54_6_9 (some 26) (v := ?v7) rfl rfl (by kernel_rfl) hHeld (by rfl) (fun _ _ _ x => x) (fun w h => ?y7) ?_; (case y7 => (try dsimp only at h); go_simp; try (with_reducible rfl)); try simp only [Act.put, sa, s0, s1]
                refine wpAnyH_ready (rs := [10]) (by kernel_rfl) (by simp) ?_
                refine (AllReadyH.cons (o := q50d_54_6_10) rfl (fun K hK => ?_) AllReadyH.nil)
                · go_simp
                  obtain ⟨wE10, hq10⟩ : ∃ q, q = wE8.alloc (.cells #[.int .i64 r3, .int .i64 n3, .slice (some ⟨g8, 0, none⟩) 2 2] 52) := ⟨_, rfl⟩
                  have hop10 : Below wE8.heap.size wE8 wE10 := by rw [hq10]; exact (Below.refl _ _).alloc (Nat.le_refl _) _
                  have HDwE10 := Hid.mk (HDwE8.out.below hop10)
                  obtain ⟨g10, HG10⟩ : ∃ z, Hid (z = wE8.heap.size) := ⟨_, Hid.mk rfl⟩
                  have HB10 : Hid (Bx wE10 g10 [.int .i64 r3, .int .i64 n3, .slice (some ⟨g8, 0, none⟩) 2 2]) := by unfold Hid; rw [HG10.out, hq10]; exact Bx.new _ _ _
                  rw [← HG10.out]
                  rw [← hq10]
                  clear hq10
                  refine hK.out _ _ (trivial) (fun hHeld => ?_)
                  clear hK K
                  try simp only [Act.put, sa, s0, s1]
                  refine wpAnyH_ready (rs := [11]) (by kernel_rfl) (by simp) ?_
                  refine (AllReadyH.cons (o := q50d_54_6_11) rfl (fun K hK => ?_) AllReadyH.nil)
                  · skip
                    have HX10 : Hid (Bx wE10 g10 [.int .i64 r3, .int .i64 n3, .slice (some ⟨g8, 0, none⟩) 2 2]) := Bx.under HB10.out (show Below wE10.heap.size wE10 wE10 from Below.refl _ _)
                    have HX8 := Hid.mk (HB8.out.under (show Below wE8.heap.size wE8 wE10 from bthen (Below.refl _ _) hop10))
                    obtain ⟨xs, hox, hnext⟩ := HDwE10.out.app
                    have HNX := Hid.mk hnext
                    clear hnext
                    refine step_append_src wE10 rfl _ _ 28 28 rfl 0 52 iI (.agg #[.int .i64 0, .int .i64 0, .slice none 0 0]) 3 40 Tryd.underlying28 HII.out.1 HII.out.2.1 HII.out.2.2.1 HII.out.2.2.2 rfl (.slice a l.length c) l.length xs rfl hox (.slice (some ⟨g10, 0, none⟩) 1 1) rfl 1 [.int .i64 r3, .int .i64 n3, .slice (some ⟨g8, 0, none⟩) 2 2] (Src.ofSlice _ Tryd.underlying28 ⟨g10, 0, none⟩ 1 1 _ rfl (bx_news HX10.out) (by intro u hu; simp at hu; rcases hu with rfl | rfl | rfl <;> rfl)) (by unfold maxLen; omega) (by omega) (Nat.zero_le _) ?_
                    intro v11 wE11 ho11 hgr11 hat11
                    obtain ⟨l9, HL9⟩ : ∃ l9 : List MItem, Hid (l9 = l ++ [(⟨⟨r3, n3⟩, [⟨r5, n5⟩, ⟨r7, n7⟩]⟩ : MItem)]) := ⟨_, Hid.mk rfl⟩
                    obtain ⟨F9, a9, c9, hv9, hA9, hb9⟩ := HNX.out wE11 v11 _ ⟨⟨r3, n3⟩, [⟨r5, n5⟩, ⟨r7, n7⟩]⟩ [g8] ho11 hgr11 hat11 (item_lit HX8.out HN3.out HN5.out HN7.out) (by simp) (fun b hb => by rw [List.mem_singleton.1 hb]; exact HF8.out.2.2) (fun b hb => by rw [List.mem_singleton.1 hb]; exact ⟨HF8.out.1, HF8.out.2.1⟩) l9 HL9.out
                    subst hv9
                    have HA9 := Hid.mk hA9
                    have q1 := hb9.cell 0 _ rfl
                    have qf := hb9.free 0
                    have ql := hb9.lt
                    clear ho11 hgr11 hat11 hA9 hb9 HNX hox
                    refine hK.out _ _ (trivial) (fun hHeld => ?_)
                    clear hK K
                    try simp only [Act.put, sa, s0, s1]
                    refine tk 12 q50d_54_6_12 (some 29) (v := ?v8) rfl rfl (by kernel_rfl) hHeld (by rfl) (fun _ _ _ x => x) (fun w h => ?y8) ?_; (case y8 => (try dsimp only at h); go_simp; try (with_reducible rfl)); try simp only [Act.put, sa, s0, s1]
                    refine wpAnyH_ready (rs := [13]) (by kernel_rfl) (by simp) ?_
                    refine (AllReadyH.cons (o := q50d_54_6_13) rfl (fun K hK => ?_) AllReadyH.nil)
                    · go_simp
                      obtain ⟨wE13, hq13⟩ : ∃ q, q = wE11.setCell ⟨bg, 0, none⟩ (.slice a9 l9.length c9) := ⟨_, rfl⟩
                      have HN : Hid (AnSt w g bg (.slice a9 l9.length c9) l9 F9 wE13) := by rw [hq13]; exact HA9.out
                      clear q1 qf ql
                      rw [← hq13]
                      clear hq13
                      refine hK.out _ _ (trivial) (fun hHeld => ?_)
                      clear hK K
                      try simp only [Act.put, sa, s0, s1]
                      refine wpAnyH_done (by kernel_rfl) ?_ _
                      have k0 := HN.out.x.cell 0 _ rfl
                      have k1 := HN.out.r.cell 0 _ rfl
                      have k2 := HN.out.r.free 0
                      have k3 := HN.out.r.lt
                      have k4 := HN.out.x.lt
                      go_wp2_with fail
                      exact bodyPost_ret (v := .agg #[.slice a9 l9.length c9]) (by simp [results, Tryd.results54, go_sem, *]) rfl (HN.out.done (by rw [HL9.out]; exact wGraph_snoc HWL.out (by simp)))
        · go_simp
          refine Calls.mono (l8Dot_ok HDwE3.out.c) ?_
          rintro e wE5 ⟨r5, n5, ⟨rfl, p3a, p3b, p3c, p3d⟩, hc3, hg3⟩
          have HDwE5 := Hid.mk (HDwE3.out.cursor hc3 hg3)
          have HN5 : Hid (1 ≤ r5 ∧ r5 ≤ 3 ∧ 1 ≤ n5 ∧ n5 ≤ 5) := ⟨p3a, p3b, p3c, p3d⟩
          clear hc3 hg3 p3a p3b p3c p3d
          go_wp2_with fail
          refine hK.out _ _ (trivial) (fun hHeld => ?_)
          clear hK K
          try simp only [Act.put, sa, s0, s1]
          refine wpAnyH_ready (rs := [1, 7]) (by kernel_rfl) (by simp) ?_
          refine (AllReadyH.cons (o := q50d_54_6_1) rfl (fun K hK => ?_) (AllReadyH.cons (o := q50d_54_6_7) rfl (fun K hK => ?_) AllReadyH.nil))
          · skip
            have yq := HDwE5.out.x.cell 0 _ rfl
            go_simp
            obtain ⟨wE1, hq1⟩ : ∃ q, q = wE5 := ⟨_, rfl⟩
            have HDwE1 : Hid (AnSt w g bg (.slice a l.length c) l F0 wE1) := by rw [hq1]; exact HDwE5
            have hop1 : Below wE5.heap.size wE5 wE1 := by rw [hq1]; exact Below.refl _ _
            rw [← hq1]
            clear hq1 yq
            refine hK.out _ _ (trivial) (fun hHeld => ?_)
            clear hK K
            try simp only [Act.put, sa, s0, s1]
            refine wpAnyH_ready (rs := [7]) (by kernel_rfl) (by simp) ?_
            refine (AllReadyH.cons (o := q50d_54_6_7) rfl (fun K hK => ?_) AllReadyH.nil)
            · go_simp
              refine Calls.mono (l8Dot_ok HDwE1.out.c) ?_
              rintro e wE7 ⟨r7, n7, ⟨rfl, p3a, p3b, p3c, p3d⟩, hc3, hg3⟩
              have HDwE7 := Hid.mk (HDwE1.out.cursor hc3 hg3)
              have HN7 : Hid (1 ≤ r7 ∧ r7 ≤ 3 ∧ 1 ≤ n7 ∧ n7 ≤ 5) := ⟨p3a, p3b, p3c, p3d⟩
              clear hc3 hg3 p3a p3b p3c p3d
              go_wp2_with fail
              refine hK.out _ _ (trivial) (fun hHeld => ?_)
              clear hK K
              try simp only [Act.put, sa, s0, s1]
              refine wpAnyH_ready (rs := [8]) (by kernel_rfl) (by simp) ?_
              refine (AllReadyH.cons (o := q50d_54_6_8) rfl (fun K hK => ?_) AllReadyH.nil)
              · go_simp
                obtain ⟨wE8, hq8⟩ : ∃ q, q = wE7.alloc (.cells #[.int .i64 r5, .int .i64 n5, .int .i64 r7, .int .i64 n7] 40) := ⟨_, rfl⟩
                have hop8 : Below wE7.heap.size wE7 wE8 := by rw [hq8]; exact (Below.refl _ _).alloc (Nat.le_refl _) _
                have HDwE8 := Hid.mk (HDwE7.out.below hop8)
                obtain ⟨g8, HG8⟩ : ∃ z, Hid (z = wE7.heap.size) := ⟨_, Hid.mk rfl⟩
                have HB8 : Hid (Bw wE8 g8 40 [.int .i64 r5, .int .i64 n5, .int .i64 r7, .int .i64 n7]) := by unfold Hid; rw [HG8.out, hq8]; exact Bw.new _ _ _
                have HF8 : Hid (w.heap.size + 1 ≤ g8 ∧ g8 ≠ bg ∧ g8 ∉ F0) := by have h1 := HDwE7.out.x.lt; have h2 := HDwE7.out.lb; have h3 := HG8.out; exact ⟨by omega, by omega, fun hm => by have := ownS.lt oItem_good HDwE7.out.o _ hm; omega⟩
                rw [← HG8.out]
                rw [← hq8]
                clear hq8
                refine hK.out _ _ (trivial) (fun hHeld => ?_)
                clear hK K
                try simp only [Act.put, sa, s0, s1]
                refine tk 9 q50d_54_6_9 (some 26) (v := ?v9) rfl rfl (by kernel_rfl) hHeld (by rfl) (fun _ _ _ x => x) (fun w h => ?y9) ?_; (case y9 => (try dsimp only at h); go_simp; try (with_reducible rfl)); try simp only [Act.put, sa, s0, s1]
                refine wpAnyH_ready (rs := [10]) (by kernel_rfl) (by simp) ?_
                refine (AllReadyH.cons (o := q50d_54_6_10) rfl (fun K hK => ?_) AllReadyH.nil)
                · go_simp
                  obtain ⟨wE10, hq10⟩ : ∃ q, q = wE8.alloc (.cells #[.int .i64 r3, .int .i64 n3, .slice (some ⟨g8, 0, none⟩) 2 2] 52) := ⟨_, rfl⟩
                  have hop10 : Below wE8.heap.size wE8 wE10 := by rw [hq10]; exact (Below.refl _ _).alloc (Nat.le_refl _) _
                  have HDwE10 := Hid.mk (HDwE8.out.below hop10)
                  obtain ⟨g10, HG10⟩ : ∃ z, Hid (z = wE8.heap.size) := ⟨_, Hid.mk rfl⟩
                  have HB10 : Hid (Bx wE10 g10 [.int .i64 r3, .int .i64 n3, .slice (some ⟨g8, 0, none⟩) 2 2]) := by unfold Hid; rw [HG10.out, hq10]; exact Bx.new _ _ _
                  rw [← HG10.out]
                  rw [← hq10]
                  clear hq10
                  refine hK.out _ _ (trivial) (fun hHeld => ?_)
                  clear hK K
                  try simp only [Act.put, sa, s0, s1]
                  refine wpAnyH_ready (rs := [11]) (by kernel_rfl) (by simp) ?_
                  refine (AllReadyH.cons (o := q50d_54_6_11) rfl (fun K hK => ?_) AllReadyH.nil)
                  · skip
                    have HX10 : Hid (Bx wE10 g10 [.int .i64 r3, .int .i64 n3, .slice (some ⟨g8, 0, none⟩) 2 2]) := Bx.under HB10.out (show Below wE10.heap.size wE10 wE10 from Below.refl _ _)
                    have HX8 := Hid.mk (HB8.out.under (show Below wE8.heap.size wE8 wE10 from bthen (Below.refl _ _) hop10))
                    obtain ⟨xs, hox, hnext⟩ := HDwE10.out.app
                    have HNX := Hid.mk hnext
                    clear hnext
                    refine step_append_src wE10 rfl _ _ 28 28 rfl 0 52 iI (.agg #[.int .i64 0, .int .i64 0, .slice none 0 0]) 3 40 Tryd.underlying28 HII.out.1 HII.out.2.1 HII.out.2.2.1 HII.out.2.2.2 rfl (.slice a l.length c) l.length xs rfl hox (.slice (some ⟨g10, 0, none⟩) 1 1) rfl 1 [.int .i64 r3, .int .i64 n3, .slice (some ⟨g8, 0, none⟩) 2 2] (Src.ofSlice _ Tryd.underlying28 ⟨g10, 0, none⟩ 1 1 _ rfl (bx_news HX10.out) (by intro u hu; simp at hu; rcases hu with rfl | rfl | rfl <;> rfl)) (by unfold maxLen; omega) (by omega) (Nat.zero_le _) ?_
                    intro v11 wE11 ho11 hgr11 hat11
                    obtain ⟨l9, HL9⟩ : ∃ l9 : List MItem, Hid (l9 = l ++ [(⟨⟨r3, n3⟩, [⟨r5, n5⟩, ⟨r7, n7⟩]⟩ : MItem)]) := ⟨_, Hid.mk rfl⟩
                    obtain ⟨F9, a9, c9, hv9, hA9, hb9⟩ := HNX.out wE11 v11 _ ⟨⟨r3, n3⟩, [⟨r5, n5⟩, ⟨r7, n7⟩]⟩ [g8] ho11 hgr11 hat11 (item_lit HX8.out HN3.out HN5.out HN7.out) (by simp) (fun b hb => by rw [List.mem_singleton.1 hb]; exact HF8.out.2.2) (fun b hb => by rw [List.mem_singleton.1 hb]; exact ⟨HF8.out.1, HF8.out.2.1⟩) l9 HL9.out
                    subst hv9
                    have HA9 := Hid.mk hA9
                    have q1 := hb9.cell 0 _ rfl
                    have qf := hb9.free 0
                    have ql := hb9.lt
                    clear ho11 hgr11 hat11 hA9 hb9 HNX hox
                    refine hK.out _ _ (trivial) (fun hHeld => ?_)
                    clear hK K
                    try simp only [Act.put, sa, s0, s1]
                    refine tk 12 q50d_54_6_12 (some 29) (v := ?v10) rfl rfl (by kernel_rfl) hHeld (by rfl) (fun _ _ _ x => x) (fun w h => ?y10) ?_; (case y10 => (try dsimp only at h); go_simp; try (with_reducible rfl)); try simp only [Act.put, sa, s0, s1]
                    refine wpAnyH_ready (rs := [13]) (by kernel_rfl) (by simp) ?_
                    refine (AllReadyH.cons (o := q50d_54_6_13) rfl (fun K hK => ?_) AllReadyH.nil)
                    · go_simp
                      obtain ⟨wE13, hq13⟩ : ∃ q, q = wE11.setCell ⟨bg, 0, none⟩ (.slice a9 l9.length c9) := ⟨_, rfl⟩
                      have HN : Hid (AnSt w g bg (.slice a9 l9.length c9) l9 F9 wE13) := by rw [hq13]; exact HA9.out
                      clear q1 qf ql
                      rw [← hq13]
                      clear hq13
                      refine hK.out _ _ (trivial) (fun hHeld => ?_)
                      clear hK K
                      try simp only [Act.put, sa, s0, s1]
                      refine wpAnyH_done (by kernel_rfl) ?_ _
                      have k0 := HN.out.x.cell 0 _ rfl
                      have k1 := HN.out.r.cell 0 _ rfl
                      have k2 := HN.out.r.free 0
                      have k3 := HN.out.r.lt
                      have k4 := HN.out.x.lt
                      go_wp2_with fail
                      exact bodyPost_ret (v := .agg #[.slice a9 l9.length c9]) (by simp [results, Tryd.results54, go_sem, *]) rfl (HN.out.done (by rw [HL9.out]; exact wGraph_snoc HWL.out (by simp)))
          · go_simp
            refine Calls.mono (l8Dot_ok HDwE5.out.c) ?_
            rintro e wE7 ⟨r7, n7, ⟨rfl, p3a, p3b, p3c, p3d⟩, hc3, hg3⟩
            have HDwE7 := Hid.mk (HDwE5.out.cursor hc3 hg3)
            have HN7 : Hid (1 ≤ r7 ∧ r7 ≤ 3 ∧ 1 ≤ n7 ∧ n7 ≤ 5) := ⟨p3a, p3b, p3c, p3d⟩
            clear hc3 hg3 p3a p3b p3c p3d
            go_wp2_with fail
            refine hK.out _ _ (trivial) (fun hHeld => ?_)
            clear hK K
            try simp only [Act.put, sa, s0, s1]
            refine wpAnyH_ready (rs := [1, 8]) (by kernel_rfl) (by simp) ?_
            refine (AllReadyH.cons (o := q50d_54_6_1) rfl (fun K hK => ?_) (AllReadyH.cons (o := q50d_54_6_8) rfl (fun K hK => ?_) AllReadyH.nil))
            · skip
              have yq := HDwE7.out.x.cell 0 _ rfl
              go_simp
              obtain ⟨wE1, hq1⟩ : ∃ q, q = wE7 := ⟨_, rfl⟩
              have HDwE1 : Hid (AnSt w g bg (.slice a l.length c) l F0 wE1) := by rw [hq1]; exact HDwE7
              have hop1 : Below wE7.heap.size wE7 wE1 := by rw [hq1]; exact Below.refl _ _
              rw [← hq1]
              clear hq1 yq
              refine hK.out _ _ (trivial) (fun hHeld => ?_)
              clear hK K
              try simp only [Act.put, sa, s0, s1]
              refine wpAnyH_ready (rs := [8]) (by kernel_rfl) (by simp) ?_
              refine (AllReadyH.cons (o := q50d_54_6_8) rfl (fun K hK => ?_) AllReadyH.nil)
              · go_simp
                obtain ⟨wE8, hq8⟩ : ∃ q, q = wE1.alloc (.cells #[.int .i64 r5, .int .i64 n5, .int .i64 r7, .int .i64 n7] 40) := ⟨_, rfl⟩
                have hop8 : Below wE1.heap.size wE1 wE8 := by rw [hq8]; exact (Below.refl _ _).alloc (Nat.le_refl _) _
                have HDwE8 := Hid.mk (HDwE1.out.below hop8)
                obtain ⟨g8, HG8⟩ : ∃ z, Hid (z = wE1.heap.size) := ⟨_, Hid.mk rfl⟩
                have HB8 : Hid (Bw wE8 g8 40 [.int .i64 r5, .int .i64 n5, .int .i64 r7, .int .i64 n7]) := by unfold Hid; rw [HG8.out, hq8]; exact Bw.new _ _ _
                have HF8 : Hid (w.heap.size + 1 ≤ g8 ∧ g8 ≠ bg ∧ g8 ∉ F0) := by have h1 := HDwE1.out.x.lt; have h2 := HDwE1.out.lb; have h3 := HG8.out; exact ⟨by omega, by omega, fun hm => by have := ownS.lt oItem_good HDwE1.out.o _ hm; omega⟩
                rw [← HG8.out]
                rw [← hq8]
                clear hq8
                refine hK.out _ _ (trivial) (fun hHeld => ?_)
                clear hK K
                try simp only [Act.put, sa, s0, s1]
                refine tk 9 q50d_54_6_9 (some 26) (v := ?v11) rfl rfl (by kernel_rfl) hHeld (by rfl) (fun _ _ _ x => x) (fun w h => ?y11) ?_; (case y11 => (try dsimp only at h); go_simp; try (with_reducible rfl)); try simp only [Act.put, sa, s0, s1]
                refine wpAnyH_ready (rs := [10]) (by kernel_rfl) (by simp) ?_
                refine (AllReadyH.cons (o := q50d_54_6_10) rfl (fun K hK => ?_) AllReadyH.nil)
                · go_simp
                  obtain ⟨wE10, hq10⟩ : ∃ q, q = wE8.alloc (.cells #[.int .i64 r3, .int .i64 n3, .slice (some ⟨g8, 0, none⟩) 2 2] 52) := ⟨_, rfl⟩
                  have hop10 : Below wE8.heap.size wE8 wE10 := by rw [hq10]; exact (Below.refl _ _).alloc (Nat.le_refl _) _
                  have HDwE10 := Hid.mk (HDwE8.out.below hop10)
                  obtain ⟨g10, HG10⟩ : ∃ z, Hid (z = wE8.heap.size) := ⟨_, Hid.mk rfl⟩
                  have HB10 : Hid (Bx wE10 g10 [.int .i64 r3, .int .i64 n3, .slice (some ⟨g8, 0, none⟩) 2 2]) := by unfold Hid; rw [HG10.out, hq10]; exact Bx.new _ _ _
                  rw [← HG10.out]
                  rw [← hq10]
                  clear hq10
                  refine hK.out _ _ (trivial) (fun hHeld => ?_)
                  clear hK K
                  try simp only [Act.put, sa, s0, s1]
                  refine wpAnyH_ready (rs := [11]) (by kernel_rfl) (by simp) ?_
                  refine (AllReadyH.cons (o := q50d_54_6_11) rfl (fun K hK => ?_) AllReadyH.nil)
                  · skip
                    have HX10 : Hid (Bx wE10 g10 [.int .i64 r3, .int .i64 n3, .slice (some ⟨g8, 0, none⟩) 2 2]) := Bx.under HB10.out (show Below wE10.heap.size wE10 wE10 from Below.refl _ _)
                    have HX8 := Hid.mk (HB8.out.under (show Below wE8.heap.size wE8 wE10 from bthen (Below.refl _ _) hop10))
                    obtain ⟨xs, hox, hnext⟩ := HDwE10.out.app
                    have HNX := Hid.mk hnext
                    clear hnext
                    refine step_append_src wE10 rfl _ _ 28 28 rfl 0 52 iI (.agg #[.int .i64 0, .int .i64 0, .slice none 0 0]) 3 40 Tryd.underlying28 HII.out.1 HII.out.2.1 HII.out.2.2.1 HII.out.2.2.2 rfl (.slice a l.length c) l.length xs rfl hox (.slice (some ⟨g10, 0, none⟩) 1 1) rfl 1 [.int .i64 r3, .int .i64 n3, .slice (some ⟨g8, 0, none⟩) 2 2] (Src.ofSlice _ Tryd.underlying28 ⟨g10, 0, none⟩ 1 1 _ rfl (bx_news HX10.out) (by intro u hu; simp at hu; rcases hu with rfl | rfl | rfl <;> rfl)) (by unfold maxLen; omega) (by omega) (Nat.zero_le _) ?_
                    intro v11 wE11 ho11 hgr11 hat11
                    obtain ⟨l9, HL9⟩ : ∃ l9 : List MItem, Hid (l9 = l ++ [(⟨⟨r3, n3⟩, [⟨r5, n5⟩, ⟨r7, n7⟩]⟩ : MItem)]) := ⟨_, Hid.mk rfl⟩
                    obtain ⟨F9, a9, c9, hv9, hA9, hb9⟩ := HNX.out wE11 v11 _ ⟨⟨r3, n3⟩, [⟨r5, n5⟩, ⟨r7, n7⟩]⟩ [g8] ho11 hgr11 hat11 (item_lit HX8.out HN3.out HN5.out HN7.out) (by simp) (fun b hb => by rw [List.mem_singleton.1 hb]; exact HF8.out.2.2) (fun b hb => by rw [List.mem_singleton.1 hb]; exact ⟨HF8.out.1, HF8.out.2.1⟩) l9 HL9.out
                    subst hv9
                    have HA9 := Hid.mk hA9
                    have q1 := hb9.cell 0 _ rfl
                    have qf := hb9.free 0
                    have ql := hb9.lt
                    clear ho11 hgr11 hat11 hA9 hb9 HNX hox
                    refine hK.out _ _ (trivial) (fun hHeld => ?_)
                    clear hK K
                    try simp only [Act.put, sa, s0, s1]
                    refine tk 12 q50d_54_6_12 (some 29) (v := ?v12) rfl rfl (by kernel_rfl) hHeld (by rfl) (fun _ _ _ x => x) (fun w h => ?y12) ?_; (case y12 => (try dsimp only at h); go_simp; try (with_reducible rfl)); try simp only [Act.put, sa, s0, s1]
                    refine wpAnyH_ready (rs := [13]) (by kernel_rfl) (by simp) ?_
                    refine (AllReadyH.cons (o := q50d_54_6_13) rfl (fun K hK => ?_) AllReadyH.nil)
                    · go_simp
                      obtain ⟨wE13, hq13⟩ : ∃ q, q = wE11.setCell ⟨bg, 0, none⟩ (.slice a9 l9.length c9) := ⟨_, rfl⟩
                      have HN : Hid (AnSt w g bg (.slice a9 l9.length c9) l9 F9 wE13) := by rw [hq13]; exact HA9.out
                      clear q1 qf ql
                      rw [← hq13]
                      clear hq13
                      refine hK.out _ _ (trivial) (fun hHeld => ?_)
                      clear hK K
                      try simp only [Act.put, sa, s0, s1]
                      refine wpAnyH_done (by kernel_rfl) ?_ _
                      have k0 := HN.out.x.cell 0 _ rfl
                      have k1 := HN.out.r.cell 0 _ rfl
                      have k2 := HN.out.r.free 0
                      have k3 := HN.out.r.lt
                      have k4 := HN.out.x.lt
                      go_wp2_with fail
                      exact bodyPost_ret (v := .agg #[.slice a9 l9.length c9]) (by simp [results, Tryd.results54, go_sem, *]) rfl (HN.out.done (by rw [HL9.out]; exact wGraph_snoc HWL.out (by simp)))
            · go_simp
              obtain ⟨wE8, hq8⟩ : ∃ q, q = wE7.alloc (.cells #[.int .i64 r5, .int .i64 n5, .int .i64 r7, .int .i64 n7] 40) := ⟨_, rfl⟩
              have hop8 : Below wE7.heap.size wE7 wE8 := by rw [hq8]; exact (Below.refl _ _).alloc (Nat.le_refl _) _
              have HDwE8 := Hid.mk (HDwE7.out.below hop8)
              obtain ⟨g8, HG8⟩ : ∃ z, Hid (z = wE7.heap.size) := ⟨_, Hid.mk rfl⟩
              have HB8 : Hid (Bw wE8 g8 40 [.int .i64 r5, .int .i64 n5, .int .i64 r7, .int .i64 n7]) := by unfold Hid; rw [HG8.out, hq8]; exact Bw.new _ _ _
              have HF8 : Hid (w.heap.size + 1 ≤ g8 ∧ g8 ≠ bg ∧ g8 ∉ F0) := by have h1 := HDwE7.out.x.lt; have h2 := HDwE7.out.lb; have h3 := HG8.out; exact ⟨by omega, by omega, fun hm => by have := ownS.lt oItem_good HDwE7.out.o _ hm; omega⟩
              rw [← HG8.out]
              rw [← hq8]
              clear hq8
              refine hK.out _ _ (trivial) (fun hHeld => ?_)
              clear hK K
              try simp only [Act.put, sa, s0, s1]
              refine tk 9 q50d_54_6_9 (some 26) (v := ?v13) rfl rfl (by kernel_rfl) hHeld (by rfl) (fun _ _ _ x => x) (fun w h => ?y13) ?_; (case y13 => (try dsimp only at h); go_simp; try (with_reducible rfl)); try simp only [Act.put, sa, s0, s1]
              refine wpAnyH_ready (rs := [1, 10]) (by kernel_rfl) (by simp) ?_
              refine (AllReadyH.cons (o := q50d_54_6_1) rfl (fun K hK => ?_) (AllReadyH.cons (o := q50d_54_6_10) rfl (fun K hK => ?_) AllReadyH.nil))
              · skip
                have yq := HDwE8.out.x.cell 0 _ rfl
                go_simp
                obtain ⟨wE1, hq1⟩ : ∃ q, q = wE8 := ⟨_, rfl⟩
                have HDwE1 : Hid (AnSt w g bg (.slice a l.length c) l F0 wE1) := by rw [hq1]; exact HDwE8
                have hop1 : Below wE8.heap.size wE8 wE1 := by rw [hq1]; exact Below.refl _ _
                rw [← hq1]
                clear hq1 yq
                refine hK.out _ _ (trivial) (fun hHeld => ?_)
                clear hK K
                try simp only [Act.put, sa, s0, s1]
                refine wpAnyH_ready (rs := [10]) (by kernel_rfl) (by simp) ?_
                refine (AllReadyH.cons (o := q50d_54_6_10) rfl (fun K hK => ?_) AllReadyH.nil)
                · go_simp
                  obtain ⟨wE10, hq10⟩ : ∃ q, q = wE1.alloc (.cells #[.int .i64 r3, .int .i64 n3, .slice (some ⟨g8, 0, none⟩) 2 2] 52) := ⟨_, rfl⟩
                  have hop10 : Below wE1.heap.size wE1 wE10 := by rw [hq10]; exact (Below.refl _ _).alloc (Nat.le_refl _) _
                  have HDwE10 := Hid.mk (HDwE1.out.below hop10)
                  obtain ⟨g10, HG10⟩ : ∃ z, Hid (z = wE1.heap.size) := ⟨_, Hid.mk rfl⟩
                  have HB10 : Hid (Bx wE10 g10 [.int .i64 r3, .int .i64 n3, .slice (some ⟨g8, 0, none⟩) 2 2]) := by unfold Hid; rw [HG10.out, hq10]; exact Bx.new _ _ _
                  rw [← HG10.out]
                  rw [← hq10]
                  clear hq10
                  refine hK.out _ _ (trivial) (fun hHeld => ?_)
                  clear hK K
                  try simp only [Act.put, sa, s0, s1]
                  refine wpAnyH_ready (rs := [11]) (by kernel_rfl) (by simp) ?_
                  refine (AllReadyH.cons (o := q50d_54_6_11) rfl (fun K hK => ?_) AllReadyH.nil)
                  · skip
                    have HX10 : Hid (Bx wE10 g10 [.int .i64 r3, .int .i64 n3, .slice (some ⟨g8, 0, none⟩) 2 2]) := Bx.under HB10.out (show Below wE10.heap.size wE10 wE10 from Below.refl _ _)
                    have HX8 := Hid.mk (HB8.out.under (show Below wE8.heap.size wE8 wE10 from bthen (bthen (Below.refl _ _) hop1) hop10))
                    obtain ⟨xs, hox, hnext⟩ := HDwE10.out.app
                    have HNX := Hid.mk hnext
                    clear hnext
                    refine step_append_src wE10 rfl _ _ 28 28 rfl 0 52 iI (.agg #[.int .i64 0, .int .i64 0, .slice none 0 0]) 3 40 Tryd.underlying28 HII.out.1 HII.out.2.1 HII.out.2.2.1 HII.out.2.2.2 rfl (.slice a l.length c) l.length xs rfl hox (.slice (some ⟨g10, 0, none⟩) 1 1) rfl 1 [.int .i64 r3, .int .i64 n3, .slice (some ⟨g8, 0, none⟩) 2 2] (Src.ofSlice _ Tryd.underlying28 ⟨g10, 0, none⟩ 1 1 _ rfl (bx_news HX10.out) (by intro u hu; simp at hu; rcases hu with rfl | rfl | rfl <;> rfl)) (by unfold maxLen; omega) (by omega) (Nat.zero_le _) ?_
                    intro v11 wE11 ho11 hgr11 hat11
                    obtain ⟨l9, HL9⟩ : ∃ l9 : List MItem, Hid (l9 = l ++ [(⟨⟨r3, n3⟩, [⟨r5, n5⟩, ⟨r7, n7⟩]⟩ : MItem)]) := ⟨_, Hid.mk rfl⟩
                    obtain ⟨F9, a9, c9, hv9, hA9, hb9⟩ := HNX.out wE11 v11 _ ⟨⟨r3, n3⟩, [⟨r5, n5⟩, ⟨r7, n7⟩]⟩ [g8] ho11 hgr11 hat11 (item_lit HX8.out HN3.out HN5.out HN7.out) (by simp) (fun b hb => by rw [List.mem_singleton.1 hb]; exact HF8.out.2.2) (fun b hb => by rw [List.mem_singleton.1 hb]; exact ⟨HF8.out.1, HF8.out.2.1⟩) l9 HL9.out
                    subst hv9
                    have HA9 := Hid.mk hA9
                    have q1 := hb9.cell 0 _ rfl
                    have qf := hb9.free 0
                    have ql := hb9.lt
                    clear ho11 hgr11 hat11 hA9 hb9 HNX hox
                    refine hK.out _ _ (trivial) (fun hHeld => ?_)
                    clear hK K
                    try simp only [Act.put, sa, s0, s1]
                    refine tk 12 q50d_54_6_12 (some 29) (v := ?v14) rfl rfl (by kernel_rfl) hHeld (by rfl) (fun _ _ _ x => x) (fun w h => ?y14) ?_; (case y14 => (try dsimp only at h); go_simp; try (with_reducible rfl)); try simp only [Act.put, sa, s0, s1]
                    refine wpAnyH_ready (rs := [13]) (by kernel_rfl) (by simp) ?_
                    refine (AllReadyH.cons (o := q50d_54_6_13) rfl (fun K hK => ?_) AllReadyH.nil)
                    · go_simp
                      obtain ⟨wE13, hq13⟩ : ∃ q, q = wE11.setCell ⟨bg, 0, none⟩ (.slice a9 l9.length c9) := ⟨_, rfl⟩
                      have HN : Hid (AnSt w g bg (.slice a9 l9.length c9) l9 F9 wE13) := by rw [hq13]; exact HA9.out
                      clear q1 qf ql
                      rw [← hq13]
                      clear hq13
                      refine hK.out _ _ (trivial) (fun hHeld => ?_)
                      clear hK K
                      try simp only [Act.put, sa, s0, s1]
                      refine wpAnyH_done (by kernel_rfl) ?_ _
                      have k0 := HN.out.x.cell 0 _ rfl
                      have k1 := HN.out.r.cell 0 _ rfl
                      have k2 := HN.out.r.free 0
                      have k3 := HN.out.r.lt
                      have k4 := HN.out.x.lt
                      go_wp2_with fail
                      exact bodyPost_ret (v := .agg #[.slice a9 l9.length c9]) (by simp [results, Tryd.results54, go_sem, *]) rfl (HN.out.done (by rw [HL9.out]; exact wGraph_snoc HWL.out (by simp)))
              · go_simp
                obtain ⟨wE10, hq10⟩ : ∃ q, q = wE8.alloc (.cells #[.int .i64 r3, .int .i64 n3, .slice (some ⟨g8, 0, none⟩) 2 2] 52) := ⟨_, rfl⟩
                have hop10 : Below wE8.heap.size wE8 wE10 := by rw [hq10]; exact (Below.refl _ _).alloc (Nat.le_refl _) _
                have HDwE10 := Hid.mk (HDwE8.out.below hop10)
                obtain ⟨g10, HG10⟩ : ∃ z, Hid (z = wE8.heap.size) := ⟨_, Hid.mk rfl⟩
                have HB10 : Hid (Bx wE10 g10 [.int .i64 r3, .int .i64 n3, .slice (some ⟨g8, 0, none⟩) 2 2]) := by unfold Hid; rw [HG10.out, hq10]; exact Bx.new _ _ _
                rw [← HG10.out]
                rw [← hq10]
                clear hq10
                refine hK.out _ _ (trivial) (fun hHeld => ?_)
                clear hK K
                try simp only [Act.put, sa, s0, s1]
                refine wpAnyH_ready (rs := [1]) (by kernel_rfl) (by simp) ?_
                refine (AllReadyH.cons (o := q50d_54_6_1) rfl (fun K hK => ?_) AllReadyH.nil)
                · skip
                  have yq := HDwE10.out.x.cell 0 _ rfl
                  go_simp
                  obtain ⟨wE1, hq1⟩ : ∃ q, q = wE10 := ⟨_, rfl⟩
                  have HDwE1 : Hid (AnSt w g bg (.slice a l.length c) l F0 wE1) := by rw [hq1]; exact HDwE10
                  have hop1 : Below wE10.heap.size wE10 wE1 := by rw [hq1]; exact Below.refl _ _
                  rw [← hq1]
                  clear hq1 yq
                  refine hK.out _ _ (trivial) (fun hHeld => ?_)
                  clear hK K
                  try simp only [Act.put, sa, s0, s1]
                  refine wpAnyH_ready (rs := [11]) (by kernel_rfl) (by simp) ?_
                  refine (AllReadyH.cons (o := q50d_54_6_11) rfl (fun K hK => ?_) AllReadyH.nil)
                  · skip
                    have HX10 : Hid (Bx wE1 g10 [.int .i64 r3, .int .i64 n3, .slice (some ⟨g8, 0, none⟩) 2 2]) := Bx.under HB10.out (show Below wE10.heap.size wE10 wE1 from bthen (Below.refl _ _) hop1)
                    have HX8 := Hid.mk (HB8.out.under (show Below wE8.heap.size wE8 wE1 from bthen (bthen (Below.refl _ _) hop10) hop1))
                    obtain ⟨xs, hox, hnext⟩ := HDwE1.out.app
                    have HNX := Hid.mk hnext
                    clear hnext
                    refine step_append_src wE1 rfl _ _ 28 28 rfl 0 52 iI (.agg #[.int .i64 0, .int .i64 0, .slice none 0 0]) 3 40 Tryd.underlying28 HII.out.1 HII.out.2.1 HII.out.2.2.1 HII.out.2.2.2 rfl (.slice a l.length c) l.length xs rfl hox (.slice (some ⟨g10, 0, none⟩) 1 1) rfl 1 [.int .i64 r3, .int .i64 n3, .slice (some ⟨g8, 0, none⟩) 2 2] (Src.ofSlice _ Tryd.underlying28 ⟨g10, 0, none⟩ 1 1 _ rfl (bx_news HX10.out) (by intro u hu; simp at hu; rcases hu with rfl | rfl | rfl <;> rfl)) (by unfold maxLen; omega) (by omega) (Nat.zero_le _) ?_
                    intro v11 wE11 ho11 hgr11 hat11
                    obtain ⟨l9, HL9⟩ : ∃ l9 : List MItem, Hid (l9 = l ++ [(⟨⟨r3, n3⟩, [⟨r5, n5⟩, ⟨r7, n7⟩]⟩ : MItem)]) := ⟨_, Hid.mk rfl⟩
                    obtain ⟨F9, a9, c9, hv9, hA9, hb9⟩ := HNX.out wE11 v11 _ ⟨⟨r3, n3⟩, [⟨r5, n5⟩, ⟨r7, n7⟩]⟩ [g8] ho11 hgr11 hat11 (item_lit HX8.out HN3.out HN5.out HN7.out) (by simp) (fun b hb => by rw [List.mem_singleton.1 hb]; exact HF8.out.2.2) (fun b hb => by rw [List.mem_singleton.1 hb]; exact ⟨HF8.out.1, HF8.out.2.1⟩) l9 HL9.out
                    subst hv9
                    have HA9 := Hid.mk hA9
                    have q1 := hb9.cell 0 _ rfl
                    have qf := hb9.free 0
                    have ql := hb9.lt
                    clear ho11 hgr11 hat11 hA9 hb9 HNX hox
                    refine hK.out _ _ (trivial) (fun hHeld => ?_)
                    clear hK K
                    try simp only [Act.put, sa, s0, s1]
                    refine tk 12 q50d_54_6_12 (some 29) (v := ?v15) rfl rfl (by kernel_rfl) hHeld (by rfl) (fun _ _ _ x => x) (fun w h => ?y15) ?_; (case y15 => (try dsimp only at h); go_simp; try (with_reducible rfl)); try simp only [Act.put, sa, s0, s1]
                    refine wpAnyH_ready (rs := [13]) (by kernel_rfl) (by simp) ?_
                    refine (AllReadyH.cons (o := q50d_54_6_13) rfl (fun K hK => ?_) AllReadyH.nil)
                    · go_simp
                      obtain ⟨wE13, hq13⟩ : ∃ q, q = wE11.setCell ⟨bg, 0, none⟩ (.slice a9 l9.length c9) := ⟨_, rfl⟩
                      have HN : Hid (AnSt w g bg (.slice a9 l9.length c9) l9 F9 wE13) := by rw [hq13]; exact HA9.out
                      clear q1 qf ql
                      rw [← hq13]
                      clear hq13
                      refine hK.out _ _ (trivial) (fun hHeld => ?_)
                      clear hK K
                      try simp only [Act.put, sa, s0, s1]
                      refine wpAnyH_done (by kernel_rfl) ?_ _
                      have k0 := HN.out.x.cell 0 _ rfl
                      have k1 := HN.out.r.cell 0 _ rfl
                      have k2 := HN.out.r.free 0
                      have k3 := HN.out.r.lt
                      have k4 := HN.out.x.lt
                      go_wp2_with fail
                      exact bodyPost_ret (v := .agg #[.slice a9 l9.length c9]) (by simp [results, Tryd.results54, go_sem, *]) rfl (HN.out.done (by rw [HL9.out]; exact wGraph_snoc HWL.out (by simp)))
    by_cases x1 : x = 1
    · subst x1
      have k0 := HDB.out.x.cell 0 _ rfl
      by_cases hl : 0 < l.length
      · have hl1 : (0 : Int) < (l.length : Int) := by omega
        have hl2 : decide ((0 : Int) < (l.length : Int)) = true := decide_eq_true hl1
        obtain ⟨gi, rfl⟩ := HDB.out.addr hl
        go_wp2_with fail
        clear k0
        refine wp_region_held_drew (S := fun W => True) (by kernel_rfl) (trivial) (fun hHeld => ?_)
        obtain ⟨wS, hwS⟩ : ∃ wS, wS = wB.drew := ⟨_, rfl⟩
        have HDwS : Hid (AnSt w g bg (.slice (some ⟨gi, 0, none⟩) l.length c) l F0 wS) := by rw [hwS]; exact HDB.out.below (Below.drew (Below.refl _ _))
        rw [← hwS]
        clear hwS
        refine tk 0 q50d_54_9_0 (some 36) (v := ?v16) rfl rfl (by kernel_rfl) hHeld (by rfl) (fun _ _ _ x => x) (fun w h => ?y16) ?_; (case y16 => (try dsimp only at h); go_simp; try (with_reducible rfl)); try simp only [Act.put, sa, s0, s1]
        refine tk 2 q50d_54_9_2 (some 38) (v := ?v17) rfl rfl (by kernel_rfl) hHeld (by rfl) (fun _ _ _ x => x) (fun w h => ?y17) ?_; (case y17 => (try dsimp only at h); go_simp; try (with_reducible rfl)); try simp only [Act.put, sa, s0, s1]
        refine wpAnyH_ready (rs := [1, 3]) (by kernel_rfl) (by simp) ?_
        refine (AllReadyH.cons (o := q50d_54_9_1) rfl (fun K hK => ?_) (AllReadyH.cons (o := q50d_54_9_3) rfl (fun K hK => ?_) AllReadyH.nil))
        · skip
          have yq := HDwS.out.x.cell 0 _ rfl
          go_simp
          obtain ⟨wE1, hq1⟩ : ∃ q, q = wS := ⟨_, rfl⟩
          have HDwE1 : Hid (AnSt w g bg (.slice (some ⟨gi, 0, none⟩) l.length c) l F0 wE1) := by rw [hq1]; exact HDwS
          have hop1 : Below wS.heap.size wS wE1 := by rw [hq1]; exact Below.refl _ _
          rw [← hq1]
          clear hq1 yq
          refine hK.out _ _ (trivial) (fun hHeld => ?_)
          clear hK K
          try simp only [Act.put, sa, s0, s1]
          refine wpAnyH_ready (rs := [3]) (by kernel_rfl) (by simp) ?_
          refine (AllReadyH.cons (o := q50d_54_9_3) rfl (fun K hK => ?_) AllReadyH.nil)
          · go_simp
            obtain ⟨wE3, hq3⟩ : ∃ q, q = wE1.alloc (.cells #[.int .i64 0, .int .i64 8, .int .i64 1] 3) := ⟨_, rfl⟩
            have hop3 : Below wE1.heap.size wE1 wE3 := by rw [hq3]; exact (Below.refl _ _).alloc (Nat.le_refl _) _
            have HDwE3 := Hid.mk (HDwE1.out.below hop3)
            obtain ⟨g3, HG3⟩ : ∃ z, Hid (z = wE1.heap.size) := ⟨_, Hid.mk rfl⟩
            have HB3 : Hid (Bw wE3 g3 3 [.int .i64 0, .int .i64 8, .int .i64 1]) := by unfold Hid; rw [HG3.out, hq3]; exact Bw.new _ _ _
            have HGL : Hid (g ≠ g3) := by have h1 := HDwE1.out.x.lt; have h2 := HDwE1.out.lb; have h3 := HG3.out; unfold Hid; omega
            rw [← HG3.out]
            rw [← hq3]
            clear hq3
            refine hK.out _ _ (trivial) (fun hHeld => ?_)
            clear hK K
            try simp only [Act.put, sa, s0, s1]
            refine wpAnyH_ready (rs := [4]) (by kernel_rfl) (by simp) ?_
            refine (AllReadyH.cons (o := q50d_54_9_4) rfl (fun K hK => ?_) AllReadyH.nil)
            · go_simp
              have HX3 : Hid (Bw wE3 g3 3 [.int .i64 0, .int .i64 8, .int .i64 1]) := Bw.under HB3.out (show Below wE3.heap.size wE3 wE3 from Below.refl _ _)
              refine Calls.mono (l1Int_ok (some ⟨g3, 0, none⟩) 3 3 [0, 8, 1] HDwE3.out.c rfl (by omega) (by omega) _ (rd_three HX3.out) (by intro b o h; simp at h; have := HGL.out; omega)) ?_
              rintro e wE4 ⟨j4, ⟨hj4, rfl⟩, hc4, hg4⟩
              have HDwE4 := Hid.mk (HDwE3.out.cursor hc4 hg4)
              obtain ⟨z4, HZ4⟩ : ∃ z, Hid (z = ([0, 8, 1] : List Int).getD j4 0) := ⟨_, Hid.mk rfl⟩
              have HZW : Hid ((Lit.int .i64 z4).wf = true) := by rw [HZ4.out]; exact wf_three hj4
              rw [← HZ4.out]
              clear hc4 hg4
              go_wp2_with fail
              refine hK.out _ _ (trivial) (fun hHeld => ?_)
              clear hK K
              try simp only [Act.put, sa, s0, s1]
              refine tk 5 q50d_54_9_5 (some 41) (v := ?v18) rfl rfl (by kernel_rfl) hHeld (by rfl) (fun _ _ _ x => x) (fun w h => ?y18) ?_; (case y18 => (try dsimp only at h); go_simp; try (with_reducible rfl)); try simp only [Act.put, sa, s0, s1]
              refine tk 6 q50d_54_9_6 (some 42) (v := ?v19) rfl rfl (by kernel_rfl) hHeld (by rfl) (fun _ _ _ x => x) (fun w h => ?y19) ?_; (case y19 => (try dsimp only at h); go_simp; try (with_reducible rfl)); try simp only [Act.put, sa, s0, s1]
              refine tk 7 q50d_54_9_7 (some 43) (v := ?v20) rfl rfl (by kernel_rfl) hHeld (by rfl) (fun _ _ _ x => x) (fun w h => ?y20) ?_; (case y20 => (try dsimp only at h); go_simp; try (with_reducible rfl)); try simp only [Act.put, sa, s0, s1]
              refine wpAnyH_ready (rs := [8]) (by kernel_rfl) (by simp) ?_
              refine (AllReadyH.cons (o := q50d_54_9_8) rfl (fun K hK => ?_) AllReadyH.nil)
              · skip
                obtain ⟨gi, cap, hvv, hgl8, ⟨u8, hu8⟩, hfz8, hne8, hne9, l9, F9, hA9, hlen9, hw9⟩ := HDwE4.out.top hl z4 HZW.out
                simp only [Value.slice.injEq, Option.some.injEq, Addr.mk.injEq, and_true, true_and] at hvv
                obtain ⟨rfl, rfl⟩ := hvv
                go_simp
                obtain ⟨wE8, hq8⟩ : ∃ q, q = wE4.setCell ⟨gi, 0, none⟩ (.int .i64 z4) := ⟨_, rfl⟩
                have HN : Hid (AnSt w g bg (.slice (some ⟨gi, 0, none⟩) l.length c) l9 F9 wE8) := by rw [hq8]; exact hA9
                have HW9 : Hid (wGraph ⟨l9⟩ ≤ 6300) := by unfold Hid; rw [hw9]; have := HWL.out; omega
                clear hA9 hu8 hfz8 hgl8 hlen9 hw9
                rw [← hq8]
                clear hq8
                refine hK.out _ _ (trivial) (fun hHeld => ?_)
                clear hK K
                try simp only [Act.put, sa, s0, s1]
                refine wpAnyH_done (by kernel_rfl) ?_ _
                have k0 := HN.out.x.cell 0 _ rfl
                have k1 := HN.out.r.cell 0 _ rfl
                have k2 := HN.out.r.free 0
                have k3 := HN.out.r.lt
                have k4 := HN.out.x.lt
                go_wp2_with fail
                exact bodyPost_ret (v := .agg #[.slice (some ⟨gi, 0, none⟩) l.length c]) (by simp [results, Tryd.results54, go_sem, *]) rfl (HN.out.done HW9.out)
        · go_simp
          obtain ⟨wE3, hq3⟩ : ∃ q, q = wS.alloc (.cells #[.int .i64 0, .int .i64 8, .int .i64 1] 3) := ⟨_, rfl⟩
          have hop3 : Below wS.heap.size wS wE3 := by rw [hq3]; exact (Below.refl _ _).alloc (Nat.le_refl _) _
          have HDwE3 := Hid.mk (HDwS.out.below hop3)
          obtain ⟨g3, HG3⟩ : ∃ z, Hid (z = wS.heap.size) := ⟨_, Hid.mk rfl⟩
          have HB3 : Hid (Bw wE3 g3 3 [.int .i64 0, .int .i64 8, .int .i64 1]) := by unfold Hid; rw [HG3.out, hq3]; exact Bw.new _ _ _
          have HGL : Hid (g ≠ g3) := by have h1 := HDwS.out.x.lt; have h2 := HDwS.out.lb; have h3 := HG3.out; unfold Hid; omega
          rw [← HG3.out]
          rw [← hq3]
          clear hq3
          refine hK.out _ _ (trivial) (fun hHeld => ?_)
          clear hK K
          try simp only [Act.put, sa, s0, s1]
          refine wpAnyH_ready (rs := [1, 4]) (by kernel_rfl) (by simp) ?_
          refine (AllReadyH.cons (o := q50d_54_9_1) rfl (fun K hK => ?_) (AllReadyH.cons (o := q50d_54_9_4) rfl (fun K hK => ?_) AllReadyH.nil))
          · skip
            have yq := HDwE3.out.x.cell 0 _ rfl
            go_simp
            obtain ⟨wE1, hq1⟩ : ∃ q, q = wE3 := ⟨_, rfl⟩
            have HDwE1 : Hid (AnSt w g bg (.slice (some ⟨gi, 0, none⟩) l.length c) l F0 wE1) := by rw [hq1]; exact HDwE3
            have hop1 : Below wE3.heap.size wE3 wE1 := by rw [hq1]; exact Below.refl _ _
            rw [← hq1]
            clear hq1 yq
            refine hK.out _ _ (trivial) (fun hHeld => ?_)
            clear hK K
            try simp only [Act.put, sa, s0, s1]
            refine wpAnyH_ready (rs := [4]) (by kernel_rfl) (by simp) ?_
            refine (AllReadyH.cons (o := q50d_54_9_4) rfl (fun K hK => ?_) AllReadyH.nil)
            · go_simp
              have HX3 : Hid (Bw wE1 g3 3 [.int .i64 0, .int .i64 8, .int .i64 1]) := Bw.under HB3.out (show Below wE3.heap.size wE3 wE1 from bthen (Below.refl _ _) hop1)
              refine Calls.mono (l1Int_ok (some ⟨g3, 0, none⟩) 3 3 [0, 8, 1] HDwE1.out.c rfl (by omega) (by omega) _ (rd_three HX3.out) (by intro b o h; simp at h; have := HGL.out; omega)) ?_
              rintro e wE4 ⟨j4, ⟨hj4, rfl⟩, hc4, hg4⟩
              have HDwE4 := Hid.mk (HDwE1.out.cursor hc4 hg4)
              obtain ⟨z4, HZ4⟩ : ∃ z, Hid (z = ([0, 8, 1] : List Int).getD j4 0) := ⟨_, Hid.mk rfl⟩
              have HZW : Hid ((Lit.int .i64 z4).wf = true) := by rw [HZ4.out]; exact wf_three hj4
              rw [← HZ4.out]
              clear hc4 hg4
              go_wp2_with fail
              refine hK.out _ _ (trivial) (fun hHeld => ?_)
              clear hK K
              try simp only [Act.put, sa, s0, s1]
              refine tk 5 q50d_54_9_5 (some 41) (v := ?v21) rfl rfl (by kernel_rfl) hHeld (by rfl) (fun _ _ _ x => x) (fun w h => ?y21) ?_; (case y21 => (try dsimp only at h); go_simp; try (with_reducible rfl)); try simp only [Act.put, sa, s0, s1]
              refine tk 6 q50d_54_9_6 (some 42) (v := ?v22) rfl rfl (by kernel_rfl) hHeld (by rfl) (fun _ _ _ x => x) (fun w h => ?y22) ?_; (case y22 => (try dsimp only at h); go_simp; try (with_reducible rfl)); try simp only [Act.put, sa, s0, s1]
              refine tk 7 q50d_54_9_7 (some 43) (v := ?v23) rfl rfl (by kernel_rfl) hHeld (by rfl) (fun _ _ _ x => x) (fun w h => ?y23) ?_; (case y23 => (try dsimp only at h); go_simp; try (with_reducible rfl)); try simp only [Act.put, sa, s0, s1]
              refine wpAnyH_ready (rs := [8]) (by kernel_rfl) (by simp) ?_
              refine (AllReadyH.cons (o := q50d_54_9_8) rfl (fun K hK => ?_) AllReadyH.nil)
              · skip
                obtain ⟨gi, cap, hvv, hgl8, ⟨u8, hu8⟩, hfz8, hne8, hne9, l9, F9, hA9, hlen9, hw9⟩ := HDwE4.out.top hl z4 HZW.out
                simp only [Value.slice.injEq, Option.some.injEq, Addr.mk.injEq, and_true, true_and] at hvv
                obtain ⟨rfl, rfl⟩ := hvv
                go_simp
                obtain ⟨wE8, hq8⟩ : ∃ q, q = wE4.setCell ⟨gi, 0, none⟩ (.int .i64 z4) := ⟨_, rfl⟩
                have HN : Hid (AnSt w g bg (.slice (some ⟨gi, 0, none⟩) l.length c) l9 F9 wE8) := by rw [hq8]; exact hA9
                have HW9 : Hid (wGraph ⟨l9⟩ ≤ 6300) := by unfold Hid; rw [hw9]; have := HWL.out; omega
                clear hA9 hu8 hfz8 hgl8 hlen9 hw9
                rw [← hq8]
                clear hq8
                refine hK.out _ _ (trivial) (fun hHeld => ?_)
                clear hK K
                try simp only [Act.put, sa, s0, s1]
                refine wpAnyH_done (by kernel_rfl) ?_ _
                have k0 := HN.out.x.cell 0 _ rfl
                have k1 := HN.out.r.cell 0 _ rfl
                have k2 := HN.out.r.free 0
                have k3 := HN.out.r.lt
                have k4 := HN.out.x.lt
                go_wp2_with fail
                exact bodyPost_ret (v := .agg #[.slice (some ⟨gi, 0, none⟩) l.length c]) (by simp [results, Tryd.results54, go_sem, *]) rfl (HN.out.done HW9.out)
          · go_simp
            have HX3 : Hid (Bw wE3 g3 3 [.int .i64 0, .int .i64 8, .int .i64 1]) := Bw.under HB3.out (show Below wE3.heap.size wE3 wE3 from Below.refl _ _)
            refine Calls.mono (l1Int_ok (some ⟨g3, 0, none⟩) 3 3 [0, 8, 1] HDwE3.out.c rfl (by omega) (by omega) _ (rd_three HX3.out) (by intro b o h; simp at h; have := HGL.out; omega)) ?_
            rintro e wE4 ⟨j4, ⟨hj4, rfl⟩, hc4, hg4⟩
            have HDwE4 := Hid.mk (HDwE3.out.cursor hc4 hg4)
            obtain ⟨z4, HZ4⟩ : ∃ z, Hid (z = ([0, 8, 1] : List Int).getD j4 0) := ⟨_, Hid.mk rfl⟩
            have HZW : Hid ((Lit.int .i64 z4).wf = true) := by rw [HZ4.out]; exact wf_three hj4
            rw [← HZ4.out]
            clear hc4 hg4
            go_wp2_with fail
            refine hK.out _ _ (trivial) (fun hHeld => ?_)
            clear hK K
            try simp only [Act.put, sa, s0, s1]
            refine wpAnyH_ready (rs := [1]) (by kernel_rfl) (by simp) ?_
            refine (AllReadyH.cons (o := q50d_54_9_1) rfl (fun K hK => ?_) AllReadyH.nil)
            · skip
              have yq := HDwE4.out.x.cell 0 _ rfl
              go_simp
              obtain ⟨wE1, hq1⟩ : ∃ q, q = wE4 := ⟨_, rfl⟩
              have HDwE1 : Hid (AnSt w g bg (.slice (some ⟨gi, 0, none⟩) l.length c) l F0 wE1) := by rw [hq1]; exact HDwE4
              have hop1 : Below wE4.heap.size wE4 wE1 := by rw [hq1]; exact Below.refl _ _
              rw [← hq1]
              clear hq1 yq
              refine hK.out _ _ (trivial) (fun hHeld => ?_)
              clear hK K
              try simp only [Act.put, sa, s0, s1]
              refine tk 5 q50d_54_9_5 (some 41) (v := ?v24) rfl rfl (by kernel_rfl) hHeld (by rfl) (fun _ _ _ x => x) (fun w h => ?y24) ?_; (case y24 => (try dsimp only at h); go_simp; try (with_reducible rfl)); try simp only [Act.put, sa, s0, s1]
              refine tk 6 q50d_54_9_6 (some 42) (v := ?v25) rfl rfl (by kernel_rfl) hHeld (by rfl) (fun _ _ _ x => x) (fun w h => ?y25) ?_; (case y25 => (try dsimp only at h); go_simp; try (with_reducible rfl)); try simp only [Act.put, sa, s0, s1]
              refine tk 7 q50d_54_9_7 (some 43) (v := ?v26) rfl rfl (by kernel_rfl) hHeld (by rfl) (fun _ _ _ x => x) (fun w h => ?y26) ?_; (case y26 => (try dsimp only at h); go_simp; try (with_reducible rfl)); try simp only [Act.put, sa, s0, s1]
              refine wpAnyH_ready (rs := [8]) (by kernel_rfl) (by simp) ?_
              refine (AllReadyH.cons (o := q50d_54_9_8) rfl (fun K hK => ?_) AllReadyH.nil)
              · skip
                obtain ⟨gi, cap, hvv, hgl8, ⟨u8, hu8⟩, hfz8, hne8, hne9, l9, F9, hA9, hlen9, hw9⟩ := HDwE1.out.top hl z4 HZW.out
                simp only [Value.slice.injEq, Option.some.injEq, Addr.mk.injEq, and_true, true_and] at hvv
                obtain ⟨rfl, rfl⟩ := hvv
                go_simp
                obtain ⟨wE8, hq8⟩ : ∃ q, q = wE1.setCell ⟨gi, 0, none⟩ (.int .i64 z4) := ⟨_, rfl⟩
                have HN : Hid (AnSt w g bg (.slice (some ⟨gi, 0, none⟩) l.length c) l9 F9 wE8) := by rw [hq8]; exact hA9
                have HW9 : Hid (wGraph ⟨l9⟩ ≤ 6300) := by unfold Hid; rw [hw9]; have := HWL.out; omega
                clear hA9 hu8 hfz8 hgl8 hlen9 hw9
                rw [← hq8]
                clear hq8
                refine hK.out _ _ (trivial) (fun hHeld => ?_)
                clear hK K
                try simp only [Act.put, sa, s0, s1]
                refine wpAnyH_done (by kernel_rfl) ?_ _
                have k0 := HN.out.x.cell 0 _ rfl
                have k1 := HN.out.r.cell 0 _ rfl
                have k2 := HN.out.r.free 0
                have k3 := HN.out.r.lt
                have k4 := HN.out.x.lt
                go_wp2_with fail
                exact bodyPost_ret (v := .agg #[.slice (some ⟨gi, 0, none⟩) l.length c]) (by simp [results, Tryd.results54, go_sem, *]) rfl (HN.out.done HW9.out)
      · have hl1 : ¬ (0 : Int) < (l.length : Int) := by omega
        have hl2 : decide ((0 : Int) < (l.length : Int)) = false := decide_eq_false hl1
        have k1 := HDB.out.r.cell 0 _ rfl
        have k2 := HDB.out.r.free 0
        have k3 := HDB.out.r.lt
        have k4 := HDB.out.x.lt
        go_wp2_with fail
        exact bodyPost_ret (v := .agg #[.slice a l.length c]) (by simp [results, Tryd.results54, go_sem, *]) rfl (HDB.out.done (by have := HWL.out; omega))
    have k0 := HDB.out.x.cell 0 _ rfl
    have k1 := HDB.out.r.cell 0 _ rfl
    have k2 := HDB.out.r.free 0
    have k3 := HDB.out.r.lt
    have k4 := HDB.out.x.lt
    go_wp2_with fail
    exact bodyPost_ret (v := .agg #[.slice a l.length c]) (by simp [results, Tryd.results54, go_sem, *]) rfl (HDB.out.done (by have := HWL.out; omega))
  | false =>
    have hln : l.length ≤ 6200 := by have h : l.length + sumW wItem l ≤ 6200 := HWL.out; omega
    go_wp2_with fail
    refine (l1Below_ok 12 HD3.out.c).mono ?_
    rintro e wB ⟨x, rfl, hx, hcB, hgB⟩
    have HDB := Hid.mk (HD3.out.cursor hcB hgB)
    clear HD3 hcB hgB hx
    by_cases x0 : x = 0
    · subst x0
      go_wp2_with fail
      refine wp_region_held_drew (S := fun W => True) (by kernel_rfl) (trivial) (fun hHeld => ?_)
      obtain ⟨wS, hwS⟩ : ∃ wS, wS = wB.drew := ⟨_, rfl⟩
      have HDwS : Hid (AnSt w g bg (.slice a l.length c) l F0 wS) := by rw [hwS]; exact HDB.out.below (Below.drew (Below.refl _ _))
      rw [← hwS]
      clear hwS
      refine tk 0 q50d_54_6_0 (some 17) (v := ?v27) rfl rfl (by kernel_rfl) hHeld (by rfl) (fun _ _ _ x => x) (fun w h => ?y27) ?_; (case y27 => (try dsimp only at h); go_simp; try (with_reducible rfl)); try simp only [Act.put, sa, s0, s1]
      refine tk 2 q50d_54_6_2 (some 19) (v := ?v28) rfl rfl (by kernel_rfl) hHeld (by rfl) (fun _ _ _ x => x) (fun w h => ?y28) ?_; (case y28 => (try dsimp only at h); go_simp; try (with_reducible rfl)); try simp only [Act.put, sa, s0, s1]
      refine tk 4 q50d_54_6_4 (some 21) (v := ?v29) rfl rfl (by kernel_rfl) hHeld (by rfl) (fun _ _ _ x => x) (fun w h => ?y29) ?_; (case y29 => (try dsimp only at h); go_simp; try (with_reducible rfl)); try simp only [Act.put, sa, s0, s1]
      refine tk 6 q50d_54_6_6 (some 23) (v := ?v30) rfl rfl (by kernel_rfl) hHeld (by rfl) (fun _ _ _ x => x) (fun w h => ?y30) ?_; (case y30 => (try dsimp only at h); go_simp; try (with_reducible rfl)); try simp only [Act.put, sa, s0, s1]
      refine wpAnyH_ready (rs := [1, 3]) (by kernel_rfl) (by simp) ?_
      refine (AllReadyH.cons (o := q50d_54_6_1) rfl (fun K hK => ?_) (AllReadyH.cons (o := q50d_54_6_3) rfl (fun K hK => ?_) AllReadyH.nil))
      · skip
        have yq := HDwS.out.x.cell 0 _ rfl
        go_simp
        obtain ⟨wE1, hq1⟩ : ∃ q, q = wS := ⟨_, rfl⟩
        have HDwE1 : Hid (AnSt w g bg (.slice a l.length c) l F0 wE1) := by rw [hq1]; exact HDwS
        have hop1 : Below wS.heap.size wS wE1 := by rw [hq1]; exact Below.refl _ _
        rw [← hq1]
        clear hq1 yq
        refine hK.out _ _ (trivial) (fun hHeld => ?_)
        clear hK K
        try simp only [Act.put, sa, s0, s1]
        refine wpAnyH_ready (rs := [3]) (by kernel_rfl) (by simp) ?_
        refine (AllReadyH.cons (o := q50d_54_6_3) rfl (fun K hK => ?_) AllReadyH.nil)
        · go_simp
          refine Calls.mono (l8Dot_ok HDwE1.out.c) ?_
          rintro e wE3 ⟨r3, n3, ⟨rfl, p3a, p3b, p3c, p3d⟩, hc3, hg3⟩
          have HDwE3 := Hid.mk (HDwE1.out.cursor hc3 hg3)
          have HN3 : Hid (1 ≤ r3 ∧ r3 ≤ 3 ∧ 1 ≤ n3 ∧ n3 ≤ 5) := ⟨p3a, p3b, p3c, p3d⟩
          clear hc3 hg3 p3a p3b p3c p3d
          go_wp2_with fail
          refine hK.out _ _ (trivial) (fun hHeld => ?_)
          clear hK K
          try simp only [Act.put, sa, s0, s1]
          refine wpAnyH_ready (rs := [5]) (by kernel_rfl) (by simp) ?_
          refine (AllReadyH.cons (o := q50d_54_6_5) rfl (fun K hK => ?_) AllReadyH.nil)
          · go_simp
            refine Calls.mono (l8Dot_ok HDwE3.out.c) ?_
            rintro e wE5 ⟨r5, n5, ⟨rfl, p3a, p3b, p3c, p3d⟩, hc3, hg3⟩
            have HDwE5 := Hid.mk (HDwE3.out.cursor hc3 hg3)
            have HN5 : Hid (1 ≤ r5 ∧ r5 ≤ 3 ∧ 1 ≤ n5 ∧ n5 ≤ 5) := ⟨p3a, p3b, p3c, p3d⟩
            clear hc3 hg3 p3a p3b p3c p3d
            go_wp2_with fail
            refine hK.out _ _ (trivial) (fun hHeld => ?_)
            clear hK K
            try simp only [Act.put, sa, s0, s1]
            refine wpAnyH_ready (rs := [7]) (by kernel_rfl) (by simp) ?_
            refine (AllReadyH.cons (o := q50d_54_6_7) rfl (fun K hK => ?_) AllReadyH.nil)
            · go_simp
              refine Calls.mono (l8Dot_ok HDwE5.out.c) ?_
              rintro e wE7 ⟨r7, n7, ⟨rfl, p3a, p3b, p3c, p3d⟩, hc3, hg3⟩
              have HDwE7 := Hid.mk (HDwE5.out.cursor hc3 hg3)
              have HN7 : Hid (1 ≤ r7 ∧ r7 ≤ 3 ∧ 1 ≤ n7 ∧ n7 ≤ 5) := ⟨p3a, p3b, p3c, p3d⟩
              clear hc3 hg3 p3a p3b p3c p3d
              go_wp2_with fail
              refine hK.out _ _ (trivial) (fun hHeld => ?_)
              clear hK K
              try simp only [Act.put, sa, s0, s1]
              refine wpAnyH_ready (rs := [8]) (by kernel_rfl) (by simp) ?_
              refine (AllReadyH.cons (o := q50d_54_6_8) rfl (fun K hK => ?_) AllReadyH.nil)
              · go_simp
                obtain ⟨wE8, hq8⟩ : ∃ q, q = wE7.alloc (.cells #[.int .i64 r5, .int .i64 n5, .int .i64 r7, .int .i64 n7] 40) := ⟨_, rfl⟩
                have hop8 : Below wE7.heap.size wE7 wE8 := by rw [hq8]; exact (Below.refl _ _).alloc (Nat.le_refl _) _
                have HDwE8 := Hid.mk (HDwE7.out.below hop8)
                obtain ⟨g8, HG8⟩ : ∃ z, Hid (z = wE7.heap.size) := ⟨_, Hid.mk rfl⟩
                have HB8 : Hid (Bw wE8 g8 40 [.int .i64 r5, .int .i64 n5, .int .i64 r7, .int .i64 n7]) := by unfold Hid; rw [HG8.out, hq8]; exact Bw.new _ _ _
                have HF8 : Hid (w.heap.size + 1 ≤ g8 ∧ g8 ≠ bg ∧ g8 ∉ F0) := by have h1 := HDwE7.out.x.lt; have h2 := HDwE7.out.lb; have h3 := HG8.out; exact ⟨by omega, by omega, fun hm => by have := ownS.lt oItem_good HDwE7.out.o _ hm; omega⟩
                rw [← HG8.out]
                rw [← hq8]
                clear hq8
                refine hK.out _ _ (trivial) (fun hHeld => ?_)
                clear hK K
                try simp only [Act.put, sa, s0, s1]
                refine tk 9 q50d_54_6_9 (some 26) (v := ?v31) rfl rfl (by kernel_rfl) hHeld (by rfl) (fun _ _ _ x => x) (fun w h => ?y31) ?_; (case y31 => (try dsimp only at h); go_simp; try (with_reducible rfl)); try simp only [Act.put, sa, s0, s1]
                refine wpAnyH_ready (rs := [10]) (by kernel_rfl) (by simp) ?_
                refine (AllReadyH.cons (o := q50d_54_6_10) rfl (fun K hK => ?_) AllReadyH.nil)
                · go_simp
                  obtain ⟨wE10, hq10⟩ : ∃ q, q = wE8.alloc (.cells #[.int .i64 r3, .int .i64 n3, .slice (some ⟨g8, 0, none⟩) 2 2] 52) := ⟨_, rfl⟩
                  have hop10 : Below wE8.heap.size wE8 wE10 := by rw [hq10]; exact (Below.refl _ _).alloc (Nat.le_refl _) _
                  have HDwE10 := Hid.mk (HDwE8.out.below hop10)
                  obtain ⟨g10, HG10⟩ : ∃ z, Hid (z = wE8.heap.size) := ⟨_, Hid.mk rfl⟩
                  have HB10 : Hid (Bx wE10 g10 [.int .i64 r3, .int .i64 n3, .slice (some ⟨g8, 0, none⟩) 2 2]) := by unfold Hid; rw [HG10.out, hq10]; exact Bx.new _ _ _
                  rw [← HG10.out]
                  rw [← hq10]
                  clear hq10
                  refine hK.out _ _ (trivial) (fun hHeld => ?_)
                  clear hK K
                  try simp only [Act.put, sa, s0, s1]
                  refine wpAnyH_ready (rs := [11]) (by kernel_rfl) (by simp) ?_
                  refine (AllReadyH.cons (o := q50d_54_6_11) rfl (fun K hK => ?_) AllReadyH.nil)
                  · skip
                    have HX10 : Hid (Bx wE10 g10 [.int .i64 r3, .int .i64 n3, .slice (some ⟨g8, 0, none⟩) 2 2]) := Bx.under HB10.out (show Below wE10.heap.size wE10 wE10 from Below.refl _ _)
                    have HX8 := Hid.mk (HB8.out.under (show Below wE8.heap.size wE8 wE10 from bthen (Below.refl _ _) hop10))
                    obtain ⟨xs, hox, hnext⟩ := HDwE10.out.app
                    have HNX := Hid.mk hnext
                    clear hnext
                    refine step_append_src wE10 rfl _ _ 28 28 rfl 0 52 iI (.agg #[.int .i64 0, .int .i64 0, .slice none 0 0]) 3 40 Tryd.underlying28 HII.out.1 HII.out.2.1 HII.out.2.2.1 HII.out.2.2.2 rfl (.slice a l.length c) l.length xs rfl hox (.slice (some ⟨g10, 0, none⟩) 1 1) rfl 1 [.int .i64 r3, .int .i64 n3, .slice (some ⟨g8, 0, none⟩) 2 2] (Src.ofSlice _ Tryd.underlying28 ⟨g10, 0, none⟩ 1 1 _ rfl (bx_news HX10.out) (by intro u hu; simp at hu; rcases hu with rfl | rfl | rfl <;> rfl)) (by unfold maxLen; omega) (by omega) (Nat.zero_le _) ?_
                    intro v11 wE11 ho11 hgr11 hat11
                    obtain ⟨l9, HL9⟩ : ∃ l9 : List MItem, Hid (l9 = l ++ [(⟨⟨r3, n3⟩, [⟨r5, n5⟩, ⟨r7, n7⟩]⟩ : MItem)]) := ⟨_, Hid.mk rfl⟩
                    obtain ⟨F9, a9, c9, hv9, hA9, hb9⟩ := HNX.out wE11 v11 _ ⟨⟨r3, n3⟩, [⟨r5, n5⟩, ⟨r7, n7⟩]⟩ [g8] ho11 hgr11 hat11 (item_lit HX8.out HN3.out HN5.out HN7.out) (by simp) (fun b hb => by rw [List.mem_singleton.1 hb]; exact HF8.out.2.2) (fun b hb => by rw [List.mem_singleton.1 hb]; exact ⟨HF8.out.1, HF8.out.2.1⟩) l9 HL9.out
                    subst hv9
                    have HA9 := Hid.mk hA9
                    have q1 := hb9.cell 0 _ rfl
                    have qf := hb9.free 0
                    have ql := hb9.lt
                    clear ho11 hgr11 hat11 hA9 hb9 HNX hox
                    refine hK.out _ _ (trivial) (fun hHeld => ?_)
                    clear hK K
                    try simp only [Act.put, sa, s0, s1]
                    refine tk 12 q50d_54_6_12 (some 29) (v := ?v32) rfl rfl (by kernel_rfl) hHeld (by rfl) (fun _ _ _ x => x) (fun w h => ?y32) ?_; (case y32 => (try dsimp only at h); go_simp; try (with_reducible rfl)); try simp only [Act.put, sa, s0, s1]
                    refine wpAnyH_ready (rs := [13]) (by kernel_rfl) (by simp) ?_
                    refine (AllReadyH.cons (o := q50d_54_6_13) rfl (fun K hK => ?_) AllReadyH.nil)
                    · go_simp
                      obtain ⟨wE13, hq13⟩ : ∃ q, q = wE11.setCell ⟨bg, 0, none⟩ (.slice a9 l9.length c9) := ⟨_, rfl⟩
                      have HN : Hid (AnSt w g bg (.slice a9 l9.length c9) l9 F9 wE13) := by rw [hq13]; exact HA9.out
                      clear q1 qf ql
                      rw [← hq13]
                      clear hq13
                      refine hK.out _ _ (trivial) (fun hHeld => ?_)
                      clear hK K
                      try simp only [Act.put, sa, s0, s1]
                      refine wpAnyH_done (by kernel_rfl) ?_ _
                      have k0 := HN.out.x.cell 0 _ rfl
                      have k1 := HN.out.r.cell 0 _ rfl
                      have k2 := HN.out.r.free 0
                      have k3 := HN.out.r.lt
                      have k4 := HN.out.x.lt
                      go_wp2_with fail
                      exact bodyPost_ret (v := .agg #[.slice a9 l9.length c9]) (by simp [results, Tryd.results54, go_sem, *]) rfl (HN.out.done (by rw [HL9.out]; exact wGraph_snoc HWL.out (by simp)))
      · go_simp
        refine Calls.mono (l8Dot_ok HDwS.out.c) ?_
        rintro e wE3 ⟨r3, n3, ⟨rfl, p3a, p3b, p3c, p3d⟩, hc3, hg3⟩
        have HDwE3 := Hid.mk (HDwS.out.cursor hc3 hg3)
        have HN3 : Hid (1 ≤ r3 ∧ r3 ≤ 3 ∧ 1 ≤ n3 ∧ n3 ≤ 5) := ⟨p3a, p3b, p3c, p3d⟩
        clear hc3 hg3 p3a p3b p3c p3d
        go_wp2_with fail
        refine hK.out _ _ (trivial) (fun hHeld => ?_)
        clear hK K
        try simp only [Act.put, sa, s0, s1]
        refine wpAnyH_ready (rs := [1, 5]) (by kernel_rfl) (by simp) ?_
        refine (AllReadyH.cons (o := q50d_54_6_1) rfl (fun K hK => ?_) (AllReadyH.cons (o := q50d_54_6_5) rfl (fun K hK => ?_) AllReadyH.nil))
        · skip
          have yq := HDwE3.out.x.cell 0 _ rfl
          go_simp
          obtain ⟨wE1, hq1⟩ : ∃ q, q = wE3 := ⟨_, rfl⟩
          have HDwE1 : Hid (AnSt w g bg (.slice a l.length c) l F0 wE1) := by rw [hq1]; exact HDwE3
          have hop1 : Below wE3.heap.size wE3 wE1 := by rw [hq1]; exact Below.refl _ _
          rw [← hq1]
          clear hq1 yq
          refine hK.out _ _ (trivial) (fun hHeld => ?_)
          clear hK K
          try simp only [Act.put, sa, s0, s1]
          refine wpAnyH_ready (rs := [5]) (by kernel_rfl) (by simp) ?_
          refine (AllReadyH.cons (o := q50d_54_6_5) rfl (fun K hK => ?_) AllReadyH.nil)
          · go_simp
            refine Calls.mono (l8Dot_ok HDwE1.out.c) ?_
            rintro e wE5 ⟨r5, n5, ⟨rfl, p3a, p3b, p3c, p3d⟩, hc3, hg3⟩
            have HDwE5 := Hid.mk (HDwE1.out.cursor hc3 hg3)
            have HN5 : Hid (1 ≤ r5 ∧ r5 ≤ 3 ∧ 1 ≤ n5 ∧ n5 ≤ 5) := ⟨p3a, p3b, p3c, p3d⟩
            clear hc3 hg3 p3a p3b p3c p3d
            go_wp2_with fail
            refine hK.out _ _ (trivial) (fun hHeld => ?_)
            clear hK K
            try simp only [Act.put, sa, s0, s1]
            refine wpAnyH_ready (rs := [7]) (by kernel_rfl) (by simp) ?_
            refine (AllReadyH.cons (o := q50d_54_6_7) rfl (fun K hK => ?_) AllReadyH.nil)
            · go_simp
              refine Calls.mono (l8Dot_ok HDwE5.out.c) ?_
              rintro e wE7 ⟨r7, n7, ⟨rfl, p3a, p3b, p3c, p3d⟩, hc3, hg3⟩
              have HDwE7 := Hid.mk (HDwE5.out.cursor hc3 hg3)
              have HN7 : Hid (1 ≤ r7 ∧ r7 ≤ 3 ∧ 1 ≤ n7 ∧ n7 ≤ 5) := ⟨p3a, p3b, p3c, p3d⟩
              clear hc3 hg3 p3a p3b p3c p3d
              go_wp2_with fail
              refine hK.out _ _ (trivial) (fun hHeld => ?_)
              clear hK K
              try simp only [Act.put, sa, s0, s1]
              refine wpAnyH_ready (rs := [8]) (by kernel_rfl) (by simp) ?_
              refine (AllReadyH.cons (o := q50d_54_6_8) rfl (fun K hK => ?_) AllReadyH.nil)
              · go_simp
                obtain ⟨wE8, hq8⟩ : ∃ q, q = wE7.alloc (.cells #[.int .i64 r5, .int .i64 n5, .int .i64 r7, .int .i64 n7] 40) := ⟨_, rfl⟩
                have hop8 : Below wE7.heap.size wE7 wE8 := by rw [hq8]; exact (Below.refl _ _).alloc (Nat.le_refl _) _
                have HDwE8 := Hid.mk (HDwE7.out.below hop8)
                obtain ⟨g8, HG8⟩ : ∃ z, Hid (z = wE7.heap.size) := ⟨_, Hid.mk rfl⟩
                have HB8 : Hid (Bw wE8 g8 40 [.int .i64 r5, .int .i64 n5, .int .i64 r7, .int .i64 n7]) := by unfold Hid; rw [HG8.out, hq8]; exact Bw.new _ _ _
                have HF8 : Hid (w.heap.size + 1 ≤ g8 ∧ g8 ≠ bg ∧ g8 ∉ F0) := by have h1 := HDwE7.out.x.lt; have h2 := HDwE7.out.lb; have h3 := HG8.out; exact ⟨by omega, by omega, fun hm => by have := ownS.lt oItem_good HDwE7.out.o _ hm; omega⟩
                rw [← HG8.out]
                rw [← hq8]
                clear hq8
                refine hK.out _ _ (trivial) (fun hHeld => ?_)
                clear hK K
                try simp only [Act.put, sa, s0, s1]
                refine tk 9 q50d_54_6_9 (some 26) (v := ?v33) rfl rfl (by kernel_rfl) hHeld (by rfl) (fun _ _ _ x => x) (fun w h => ?y33) ?_; (case y33 => (try dsimp only at h); go_simp; try (with_reducible rfl)); try simp only [Act.put, sa, s0, s1]
                refine wpAnyH_ready (rs := [10]) (by kernel_rfl) (by simp) ?_
                refine (AllReadyH.cons (o := q50d_54_6_10) rfl (fun K hK => ?_) AllReadyH.nil)
                · go_simp
                  obtain ⟨wE10, hq10⟩ : ∃ q, q = wE8.alloc (.cells #[.int .i64 r3, .int .i64 n3, .slice (some ⟨g8, 0, none⟩) 2 2] 52) := ⟨_, rfl⟩
                  have hop10 : Below wE8.heap.size wE8 wE10 := by rw [hq10]; exact (Below.refl _ _).alloc (Nat.le_refl _) _
                  have HDwE10 := Hid.mk (HDwE8.out.below hop10)
                  obtain ⟨g10, HG10⟩ : ∃ z, Hid (z = wE8.heap.size) := ⟨_, Hid.mk rfl⟩
                  have HB10 : Hid (Bx wE10 g10 [.int .i64 r3, .int .i64 n3, .slice (some ⟨g8, 0, none⟩) 2 2]) := by unfold Hid; rw [HG10.out, hq10]; exact Bx.new _ _ _
                  rw [← HG10.out]
                  rw [← hq10]
                  clear hq10
                  refine hK.out _ _ (trivial) (fun hHeld => ?_)
                  clear hK K
                  try simp only [Act.put, sa, s0, s1]
                  refine wpAnyH_ready (rs := [11]) (by kernel_rfl) (by simp) ?_
                  refine (AllReadyH.cons (o := q50d_54_6_11) rfl (fun K hK => ?_) AllReadyH.nil)
                  · skip
                    have HX10 : Hid (Bx wE10 g10 [.int .i64 r3, .int .i64 n3, .slice (some ⟨g8, 0, none⟩) 2 2]) := Bx.under HB10.out (show Below wE10.heap.size wE10 wE10 from Below.refl _ _)
                    have HX8 := Hid.mk (HB8.out.under (show Below wE8.heap.size wE8 wE10 from bthen (Below.refl _ _) hop10))
                    obtain ⟨xs, hox, hnext⟩ := HDwE10.out.app
                    have HNX := Hid.mk hnext
                    clear hnext
                    refine step_append_src wE10 rfl _ _ 28 28 rfl 0 52 iI (.agg #[.int .i64 0, .int .i64 0, .slice none 0 0]) 3 40 Tryd.underlying28 HII.out.1 HII.out.2.1 HII.out.2.2.1 HII.out.2.2.2 rfl (.slice a l.length c) l.length xs rfl hox (.slice (some ⟨g10, 0, none⟩) 1 1) rfl 1 [.int .i64 r3, .int .i64 n3, .slice (some ⟨g8, 0, none⟩) 2 2] (Src.ofSlice _ Tryd.underlying28 ⟨g10, 0, none⟩ 1 1 _ rfl (bx_news HX10.out) (by intro u hu; simp at hu; rcases hu with rfl | rfl | rfl <;> rfl)) (by unfold maxLen; omega) (by omega) (Nat.zero_le _) ?_
                    intro v11 wE11 ho11 hgr11 hat11
                    obtain ⟨l9, HL9⟩ : ∃ l9 : List MItem, Hid (l9 = l ++ [(⟨⟨r3, n3⟩, [⟨r5, n5⟩, ⟨r7, n7⟩]⟩ : MItem)]) := ⟨_, Hid.mk rfl⟩
                    obtain ⟨F9, a9, c9, hv9, hA9, hb9⟩ := HNX.out wE11 v11 _ ⟨⟨r3, n3⟩, [⟨r5, n5⟩, ⟨r7, n7⟩]⟩ [g8] ho11 hgr11 hat11 (item_lit HX8.out HN3.out HN5.out HN7.out) (by simp) (fun b hb => by rw [List.mem_singleton.1 hb]; exact HF8.out.2.2) (fun b hb => by rw [List.mem_singleton.1 hb]; exact ⟨HF8.out.1, HF8.out.2.1⟩) l9 HL9.out
                    subst hv9
                    have HA9 := Hid.mk hA9
                    have q1 := hb9.cell 0 _ rfl
                    have qf := hb9.free 0
                    have ql := hb9.lt
                    clear ho11 hgr11 hat11 hA9 hb9 HNX hox
                    refine hK.out _ _ (trivial) (fun hHeld => ?_)
                    clear hK K
                    try simp only [Act.put, sa, s0, s1]
                    refine tk 12 q50d_54_6_12 (some 29) (v := ?v34) rfl rfl (by kernel_rfl) hHeld (by rfl) (fun _ _ _ x => x) (fun w h => ?y34) ?_; (case y34 => (try dsimp only at h); go_simp; try (with_reducible rfl)); try simp only [Act.put, sa, s0, s1]
                    refine wpAnyH_ready (rs := [13]) (by kernel_rfl) (by simp) ?_
                    refine (AllReadyH.cons (o := q50d_54_6_13) rfl (fun K hK => ?_) AllReadyH.nil)
                    · go_simp
                      obtain ⟨wE13, hq13⟩ : ∃ q, q = wE11.setCell ⟨bg, 0, none⟩ (.slice a9 l9.length c9) := ⟨_, rfl⟩
                      have HN : Hid (AnSt w g bg (.slice a9 l9.length c9) l9 F9 wE13) := by rw [hq13]; exact HA9.out
                      clear q1 qf ql
                      rw [← hq13]
                      clear hq13
                      refine hK.out _ _ (trivial) (fun hHeld => ?_)
                      clear hK K
                      try simp only [Act.put, sa, s0, s1]
                      refine wpAnyH_done (by kernel_rfl) ?_ _
                      have k0 := HN.out.x.cell 0 _ rfl
                      have k1 := HN.out.r.cell 0 _ rfl
                      have k2 := HN.out.r.free 0
                      have k3 := HN.out.r.lt
                      have k4 := HN.out.x.lt
                      go_wp2_with fail
                      exact bodyPost_ret (v := .agg #[.slice a9 l9.length c9]) (by simp [results, Tryd.results54, go_sem, *]) rfl (HN.out.done (by rw [HL9.out]; exact wGraph_snoc HWL.out (by simp)))
        · go_simp
          refine Calls.mono (l8Dot_ok HDwE3.out.c) ?_
          rintro e wE5 ⟨r5, n5, ⟨rfl, p3a, p3b, p3c, p3d⟩, hc3, hg3⟩
          have HDwE5 := Hid.mk (HDwE3.out.cursor hc3 hg3)
          have HN5 : Hid (1 ≤ r5 ∧ r5 ≤ 3 ∧ 1 ≤ n5 ∧ n5 ≤ 5) := ⟨p3a, p3b, p3c, p3d⟩
          clear hc3 hg3 p3a p3b p3c p3d
          go_wp2_with fail
          refine hK.out _ _ (trivial) (fun hHeld => ?_)
          clear hK K
          try simp only [Act.put, sa, s0, s1]
          refine wpAnyH_ready (rs := [1, 7]) (by kernel_rfl) (by simp) ?_
          refine (AllReadyH.cons (o := q50d_54_6_1) rfl (fun K hK => ?_) (AllReadyH.cons (o := q50d_54_6_7) rfl (fun K hK => ?_) AllReadyH.nil))
          · skip
            have yq := HDwE5.out.x.cell 0 _ rfl
            go_simp
            obtain ⟨wE1, hq1⟩ : ∃ q, q = wE5 := ⟨_, rfl⟩
            have HDwE1 : Hid (AnSt w g bg (.slice a l.length c) l F0 wE1) := by rw [hq1]; exact HDwE5
            have hop1 : Below wE5.heap.size wE5 wE1 := by rw [hq1]; exact Below.refl _ _
            rw [← hq1]
            clear hq1 yq
            refine hK.out _ _ (trivial) (fun hHeld => ?_)
            clear hK K
            try simp only [Act.put, sa, s0, s1]
            refine wpAnyH_ready (rs := [7]) (by kernel_rfl) (by simp) ?_
            refine (AllReadyH.cons (o := q50d_54_6_7) rfl (fun K hK => ?_) AllReadyH.nil)
            · go_simp
              refine Calls.mono (l8Dot_ok HDwE1.out.c) ?_
              rintro e wE7 ⟨r7, n7, ⟨rfl, p3a, p3b, p3c, p3d⟩, hc3, hg3⟩
              have HDwE7 := Hid.mk (HDwE1.out.cursor hc3 hg3)
              have HN7 : Hid (1 ≤ r7 ∧ r7 ≤ 3 ∧ 1 ≤ n7 ∧ n7 ≤ 5) := ⟨p3a, p3b, p3c, p3d⟩
              clear hc3 hg3 p3a p3b p3c p3d
              go_wp2_with fail
              refine hK.out _ _ (trivial) (fun hHeld => ?_)
              clear hK K
              try simp only [Act.put, sa, s0, s1]
              refine wpAnyH_ready (rs := [8]) (by kernel_rfl) (by simp) ?_
              refine (AllReadyH.cons (o := q50d_54_6_8) rfl (fun K hK => ?_) AllReadyH.nil)
              · go_simp
                obtain ⟨wE8, hq8⟩ : ∃ q, q = wE7.alloc (.cells #[.int .i64 r5, .int .i64 n5, .int .i64 r7, .int .i64 n7] 40) := ⟨_, rfl⟩
                have hop8 : Below wE7.heap.size wE7 wE8 := by rw [hq8]; exact (Below.refl _ _).alloc (Nat.le_refl _) _
                have HDwE8 := Hid.mk (HDwE7.out.below hop8)
                obtain ⟨g8, HG8⟩ : ∃ z, Hid (z = wE7.heap.size) := ⟨_, Hid.mk rfl⟩
                have HB8 : Hid (Bw wE8 g8 40 [.int .i64 r5, .int .i64 n5, .int .i64 r7, .int .i64 n7]) := by unfold Hid; rw [HG8.out, hq8]; exact Bw.new _ _ _
                have HF8 : Hid (w.heap.size + 1 ≤ g8 ∧ g8 ≠ bg ∧ g8 ∉ F0) := by have h1 := HDwE7.out.x.lt; have h2 := HDwE7.out.lb; have h3 := HG8.out; exact ⟨by omega, by omega, fun hm => by have := ownS.lt oItem_good HDwE7.out.o _ hm; omega⟩
                rw [← HG8.out]
                rw [← hq8]
                clear hq8
                refine hK.out _ _ (trivial) (fun hHeld => ?_)
                clear hK K
                try simp only [Act.put, sa, s0, s1]
                refine tk 9 q50d_54_6_9 (some 26) (v := ?v35) rfl rfl (by kernel_rfl) hHeld (by rfl) (fun _ _ _ x => x) (fun w h => ?y35) ?_; (case y35 => (try dsimp only at h); go_simp; try (with_reducible rfl)); try simp only [Act.put, sa, s0, s1]
                refine wpAnyH_ready (rs := [10]) (by kernel_rfl) (by simp) ?_
                refine (AllReadyH.cons (o := q50d_54_6_10) rfl (fun K hK => ?_) AllReadyH.nil)
                · go_simp
                  obtain ⟨wE10, hq10⟩ : ∃ q, q = wE8.alloc (.cells #[.int .i64 r3, .int .i64 n3, .slice (some ⟨g8, 0, none⟩) 2 2] 52) := ⟨_, rfl⟩
                  have hop10 : Below wE8.heap.size wE8 wE10 := by rw [hq10]; exact (Below.refl _ _).alloc (Nat.le_refl _) _
                  have HDwE10 := Hid.mk (HDwE8.out.below hop10)
                  obtain ⟨g10, HG10⟩ : ∃ z, Hid (z = wE8.heap.size) := ⟨_, Hid.mk rfl⟩
                  have HB10 : Hid (Bx wE10 g10 [.int .i64 r3, .int .i64 n3, .slice (some ⟨g8, 0, none⟩) 2 2]) := by unfold Hid; rw [HG10.out, hq10]; exact Bx.new _ _ _
                  rw [← HG10.out]
                  rw [← hq10]
                  clear hq10
                  refine hK.out _ _ (trivial) (fun hHeld => ?_)
                  clear hK K
                  try simp only [Act.put, sa, s0, s1]
                  refine wpAnyH_ready (rs := [11]) (by kernel_rfl) (by simp) ?_
                  refine (AllReadyH.cons (o := q50d_54_6_11) rfl (fun K hK => ?_) AllReadyH.nil)
                  · skip
                    have HX10 : Hid (Bx wE10 g10 [.int .i64 r3, .int .i64 n3, .slice (some ⟨g8, 0, none⟩) 2 2]) := Bx.under HB10.out (show Below wE10.heap.size wE10 wE10 from Below.refl _ _)
                    have HX8 := Hid.mk (HB8.out.under (show Below wE8.heap.size wE8 wE10 from bthen (Below.refl _ _) hop10))
                    obtain ⟨xs, hox, hnext⟩ := HDwE10.out.app
                    have HNX := Hid.mk hnext
                    clear hnext
                    refine step_append_src wE10 rfl _ _ 28 28 rfl 0 52 iI (.agg #[.int .i64 0, .int .i64 0, .slice none 0 0]) 3 40 Tryd.underlying28 HII.out.1 HII.out.2.1 HII.out.2.2.1 HII.out.2.2.2 rfl (.slice a l.length c) l.length xs rfl hox (.slice (some ⟨g10, 0, none⟩) 1 1) rfl 1 [.int .i64 r3, .int .i64 n3, .slice (some ⟨g8, 0, none⟩) 2 2] (Src.ofSlice _ Tryd.underlying28 ⟨g10, 0, none⟩ 1 1 _ rfl (bx_news HX10.out) (by intro u hu; simp at hu; rcases hu with rfl | rfl | rfl <;> rfl)) (by unfold maxLen; omega) (by omega) (Nat.zero_le _) ?_
                    intro v11 wE11 ho11 hgr11 hat11
                    obtain ⟨l9, HL9⟩ : ∃ l9 : List MItem, Hid (l9 = l ++ [(⟨⟨r3, n3⟩, [⟨r5, n5⟩, ⟨r7, n7⟩]⟩ : MItem)]) := ⟨_, Hid.mk rfl⟩
                    obtain ⟨F9, a9, c9, hv9, hA9, hb9⟩ := HNX.out wE11 v11 _ ⟨⟨r3, n3⟩, [⟨r5, n5⟩, ⟨r7, n7⟩]⟩ [g8] ho11 hgr11 hat11 (item_lit HX8.out HN3.out HN5.out HN7.out) (by simp) (fun b hb => by rw [List.mem_singleton.1 hb]; exact HF8.out.2.2) (fun b hb => by rw [List.mem_singleton.1 hb]; exact ⟨HF8.out.1, HF8.out.2.1⟩) l9 HL9.out
                    subst hv9
                    have HA9 := Hid.mk hA9
                    have q1 := hb9.cell 0 _ rfl
                    have qf := hb9.free 0
                    have ql := hb9.lt
                    clear ho11 hgr11 hat11 hA9 hb9 HNX hox
                    refine hK.out _ _ (trivial) (fun hHeld => ?_)
                    clear hK K
                    try simp only [Act.put, sa, s0, s1]
                    refine tk 12 q50d_54_6_12 (some 29) (v := ?v36) rfl rfl (by kernel_rfl) hHeld (by rfl) (fun _ _ _ x => x) (fun w h => ?y36) ?_; (case y36 => (try dsimp only at h); go_simp; try (with_reducible rfl)); try simp only [Act.put, sa, s0, s1]
                    refine wpAnyH_ready (rs := [13]) (by kernel_rfl) (by simp) ?_
                    refine (AllReadyH.cons (o := q50d_54_6_13) rfl (fun K hK => ?_) AllReadyH.nil)
                    · go_simp
                      obtain ⟨wE13, hq13⟩ : ∃ q, q = wE11.setCell ⟨bg, 0, none⟩ (.slice a9 l9.length c9) := ⟨_, rfl⟩
                      have HN : Hid (AnSt w g bg (.slice a9 l9.length c9) l9 F9 wE13) := by rw [hq13]; exact HA9.out
                      clear q1 qf ql
                      rw [← hq13]
                      clear hq13
                      refine hK.out _ _ (trivial) (fun hHeld => ?_)
                      clear hK K
                      try simp only [Act.put, sa, s0, s1]
                      refine wpAnyH_done (by kernel_rfl) ?_ _
                      have k0 := HN.out.x.cell 0 _ rfl
                      have k1 := HN.out.r.cell 0 _ rfl
                      have k2 := HN.out.r.free 0
                      have k3 := HN.out.r.lt
                      have k4 := HN.out.x.lt
                      go_wp2_with fail
                      exact bodyPost_ret (v := .agg #[.slice a9 l9.length c9]) (by simp [results, Tryd.results54, go_sem, *]) rfl (HN.out.done (by rw [HL9.out]; exact wGraph_snoc HWL.out (by simp)))
          · go_simp
            refine Calls.mono (l8Dot_ok HDwE5.out.c) ?_
            rintro e wE7 ⟨r7, n7, ⟨rfl, p3a, p3b, p3c, p3d⟩, hc3, hg3⟩
            have HDwE7 := Hid.mk (HDwE5.out.cursor hc3 hg3)
            have HN7 : Hid (1 ≤ r7 ∧ r7 ≤ 3 ∧ 1 ≤ n7 ∧ n7 ≤ 5) := ⟨p3a, p3b, p3c, p3d⟩
            clear hc3 hg3 p3a p3b p3c p3d
            go_wp2_with fail
            refine hK.out _ _ (trivial) (fun hHeld => ?_)
            clear hK K
            try simp only [Act.put, sa, s0, s1]
            refine wpAnyH_ready (rs := [1, 8]) (by kernel_rfl) (by simp) ?_
            refine (AllReadyH.cons (o := q50d_54_6_1) rfl (fun K hK => ?_) (AllReadyH.cons (o := q50d_54_6_8) rfl (fun K hK => ?_) AllReadyH.nil))
            · skip
              have yq := HDwE7.out.x.cell 0 _ rfl
              go_simp
              obtain ⟨wE1, hq1⟩ : ∃ q, q = wE7 := ⟨_, rfl⟩
              have HDwE1 : Hid (AnSt w g bg (.slice a l.length c) l F0 wE1) := by rw [hq1]; exact HDwE7
              have hop1 : Below wE7.heap.size wE7 wE1 := by rw [hq1]; exact Below.refl _ _
              rw [← hq1]
              clear hq1 yq
              refine hK.out _ _ (trivial) (fun hHeld => ?_)
              clear hK K
              try simp only [Act.put, sa, s0, s1]
              refine wpAnyH_ready (rs := [8]) (by kernel_rfl) (by simp) ?_
              refine (AllReadyH.cons (o := q50d_54_6_8) rfl (fun K hK => ?_) AllReadyH.nil)
              · go_simp
                obtain ⟨wE8, hq8⟩ : ∃ q, q = wE1.alloc (.cells #[.int .i64 r5, .int .i64 n5, .int .i64 r7, .int .i64 n7] 40) := ⟨_, rfl⟩
                have hop8 : Below wE1.heap.size wE1 wE8 := by rw [hq8]; exact (Below.refl _ _).alloc (Nat.le_refl _) _
                have HDwE8 := Hid.mk (HDwE1.out.below hop8)
                obtain ⟨g8, HG8⟩ : ∃ z, Hid (z = wE1.heap.size) := ⟨_, Hid.mk rfl⟩
                have HB8 : Hid (Bw wE8 g8 40 [.int .i64 r5, .int .i64 n5, .int .i64 r7, .int .i64 n7]) := by unfold Hid; rw [HG8.out, hq8]; exact Bw.new _ _ _
                have HF8 : Hid (w.heap.size + 1 ≤ g8 ∧ g8 ≠ bg ∧ g8 ∉ F0) := by have h1 := HDwE1.out.x.lt; have h2 := HDwE1.out.lb; have h3 := HG8.out; exact ⟨by omega, by omega, fun hm => by have := ownS.lt oItem_good HDwE1.out.o _ hm; omega⟩
                rw [← HG8.out]
                rw [← hq8]
                clear hq8
                refine hK.out _ _ (trivial) (fun hHeld => ?_)
                clear hK K
                try simp only [Act.put, sa, s0, s1]
                refine tk 9 q50d_54_6_9 (some 26) (v := ?v37) rfl rfl (by kernel_rfl) hHeld (by rfl) (fun _ _ _ x => x) (fun w h => ?y37) ?_; (case y37 => (try dsimp only at h); go_simp; try (with_reducible rfl)); try simp only [Act.put, sa, s0, s1]
                refine wpAnyH_ready (rs := [10]) (by kernel_rfl) (by simp) ?_
                refine (AllReadyH.cons (o := q50d_54_6_10) rfl (fun K hK => ?_) AllReadyH.nil)
                · go_simp
                  obtain ⟨wE10, hq10⟩ : ∃ q, q = wE8.alloc (.cells #[.int .i64 r3, .int .i64 n3, .slice (some ⟨g8, 0, none⟩) 2 2] 52) := ⟨_, rfl⟩
                  have hop10 : Below wE8.heap.size wE8 wE10 := by rw [hq10]; exact (Below.refl _ _).alloc (Nat.le_refl _) _
                  have HDwE10 := Hid.mk (HDwE8.out.below hop10)
                  obtain ⟨g10, HG10⟩ : ∃ z, Hid (z = wE8.heap.size) := ⟨_, Hid.mk rfl⟩
                  have HB10 : Hid (Bx wE10 g10 [.int .i64 r3, .int .i64 n3, .slice (some ⟨g8, 0, none⟩) 2 2]) := by unfold Hid; rw [HG10.out, hq10]; exact Bx.new _ _ _
                  rw [← HG10.out]
                  rw [← hq10]
                  clear hq10
                  refine hK.out _ _ (trivial) (fun hHeld => ?_)
                  clear hK K
                  try simp only [Act.put, sa, s0, s1]
                  refine wpAnyH_ready (rs := [11]) (by kernel_rfl) (by simp) ?_
                  refine (AllReadyH.cons (o := q50d_54_6_11) rfl (fun K hK => ?_) AllReadyH.nil)
                  · skip
                    have HX10 : Hid (Bx wE10 g10 [.int .i64 r3, .int .i64 n3, .slice (some ⟨g8, 0, none⟩) 2 2]) := Bx.under HB10.out (show Below wE10.heap.size wE10 wE10 from Below.refl _ _)
                    have HX8 := Hid.mk (HB8.out.under (show Below wE8.heap.size wE8 wE10 from bthen (Below.refl _ _) hop10))
                    obtain ⟨xs, hox, hnext⟩ := HDwE10.out.app
                    have HNX := Hid.mk hnext
                    clear hnext
                    refine step_append_src wE10 rfl _ _ 28 28 rfl 0 52 iI (.agg #[.int .i64 0, .int .i64 0, .slice none 0 0]) 3 40 Tryd.underlying28 HII.out.1 HII.out.2.1 HII.out.2.2.1 HII.out.2.2.2 rfl (.slice a l.length c) l.length xs rfl hox (.slice (some ⟨g10, 0, none⟩) 1 1) rfl 1 [.int .i64 r3, .int .i64 n3, .slice (some ⟨g8, 0, none⟩) 2 2] (Src.ofSlice _ Tryd.underlying28 ⟨g10, 0, none⟩ 1 1 _ rfl (bx_news HX10.out) (by intro u hu; simp at hu; rcases hu with rfl | rfl | rfl <;> rfl)) (by unfold maxLen; omega) (by omega) (Nat.zero_le _) ?_
                    intro v11 wE11 ho11 hgr11 hat11
                    obtain ⟨l9, HL9⟩ : ∃ l9 : List MItem, Hid (l9 = l ++ [(⟨⟨r3, n3⟩, [⟨r5, n5⟩, ⟨r7, n7⟩]⟩ : MItem)]) := ⟨_, Hid.mk rfl⟩
                    obtain ⟨F9, a9, c9, hv9, hA9, hb9⟩ := HNX.out wE11 v11 _ ⟨⟨r3, n3⟩, [⟨r5, n5⟩, ⟨r7, n7⟩]⟩ [g8] ho11 hgr11 hat11 (item_lit HX8.out HN3.out HN5.out HN7.out) (by simp) (fun b hb => by rw [List.mem_singleton.1 hb]; exact HF8.out.2.2) (fun b hb => by rw [List.mem_singleton.1 hb]; exact ⟨HF8.out.1, HF8.out.2.1⟩) l9 HL9.out
                    subst hv9
                    have HA9 := Hid.mk hA9
                    have q1 := hb9.cell 0 _ rfl
                    have qf := hb9.free 0
                    have ql := hb9.lt
                    clear ho11 hgr11 hat11 hA9 hb9 HNX hox
                    refine hK.out _ _ (trivial) (fun hHeld => ?_)
                    clear hK K
                    try simp only [Act.put, sa, s0, s1]
                    refine tk 12 q50d_54_6_12 (some 29) (v := ?v38) rfl rfl (by kernel_rfl) hHeld (by rfl) (fun _ _ _ x => x) (fun w h => ?y38) ?_; (case y38 => (try dsimp only at h); go_simp; try (with_reducible rfl)); try simp only [Act.put, sa, s0, s1]
                    refine wpAnyH_ready (rs := [13]) (by kernel_rfl) (by simp) ?_
                    refine (AllReadyH.cons (o := q50d_54_6_13) rfl (fun K hK => ?_) AllReadyH.nil)
                    · go_simp
                      obtain ⟨wE13, hq13⟩ : ∃ q, q = wE11.setCell ⟨bg, 0, none⟩ (.slice a9 l9.length c9) := ⟨_, rfl⟩
                      have HN : Hid (AnSt w g bg (.slice a9 l9.length c9) l9 F9 wE13) := by rw [hq13]; exact HA9.out
                      clear q1 qf ql
                      rw [← hq13]
                      clear hq13
                      refine hK.out _ _ (trivial) (fun hHeld => ?_)
                      clear hK K
                      try simp only [Act.put, sa, s0, s1]
                      refine wpAnyH_done (by kernel_rfl) ?_ _
                      have k0 := HN.out.x.cell 0 _ rfl
                      have k1 := HN.out.r.cell 0 _ rfl
                      have k2 := HN.out.r.free 0
                      have k3 := HN.out.r.lt
                      have k4 := HN.out.x.lt
                      go_wp2_with fail
                      exact bodyPost_ret (v := .agg #[.slice a9 l9.length c9]) (by simp [results, Tryd.results54, go_sem, *]) rfl (HN.out.done (by rw [HL9.out]; exact wGraph_snoc HWL.out (by simp)))
            · go_simp
              obtain ⟨wE8, hq8⟩ : ∃ q, q = wE7.alloc (.cells #[.int .i64 r5, .int .i64 n5, .int .i64 r7, .int .i64 n7] 40) := ⟨_, rfl⟩
              have hop8 : Below wE7.heap.size wE7 wE8 := by rw [hq8]; exact (Below.refl _ _).alloc (Nat.le_refl _) _
              have HDwE8 := Hid.mk (HDwE7.out.below hop8)
              obtain ⟨g8, HG8⟩ : ∃ z, Hid (z = wE7.heap.size) := ⟨_, Hid.mk rfl⟩
              have HB8 : Hid (Bw wE8 g8 40 [.int .i64 r5, .int .i64 n5, .int .i64 r7, .int .i64 n7]) := by unfold Hid; rw [HG8.out, hq8]; exact Bw.new _ _ _
              have HF8 : Hid (w.heap.size + 1 ≤ g8 ∧ g8 ≠ bg ∧ g8 ∉ F0) := by have h1 := HDwE7.out.x.lt; have h2 := HDwE7.out.lb; have h3 := HG8.out; exact ⟨by omega, by omega, fun hm => by have := ownS.lt oItem_good HDwE7.out.o _ hm; omega⟩
              rw [← HG8.out]
              rw [← hq8]
              clear hq8
              refine hK.out _ _ (trivial) (fun hHeld => ?_)
              clear hK K
              try simp only [Act.put, sa, s0, s1]
              refine tk 9 q50d_54_6_9 (some 26) (v := ?v39) rfl rfl (by kernel_rfl) hHeld (by rfl) (fun _ _ _ x => x) (fun w h => ?y39) ?_; (case y39 => (try dsimp only at h); go_simp; try (with_reducible rfl)); try simp only [Act.put, sa, s0, s1]
              refine wpAnyH_ready (rs := [1, 10]) (by kernel_rfl) (by simp) ?_
              refine (AllReadyH.cons (o := q50d_54_6_1) rfl (fun K hK => ?_) (AllReadyH.cons (o := q50d_54_6_10) rfl (fun K hK => ?_) AllReadyH.nil))
              · skip
                have yq := HDwE8.out.x.cell 0 _ rfl
                go_simp
                obtain ⟨wE1, hq1⟩ : ∃ q, q = wE8 := ⟨_, rfl⟩
                have HDwE1 : Hid (AnSt w g bg (.slice a l.length c) l F0 wE1) := by rw [hq1]; exact HDwE8
                have hop1 : Below wE8.heap.size wE8 wE1 := by rw [hq1]; exact Below.refl _ _
                rw [← hq1]
                clear hq1 yq
                refine hK.out _ _ (trivial) (fun hHeld => ?_)
                clear hK K
                try simp only [Act.put, sa, s0, s1]
                refine wpAnyH_ready (rs := [10]) (by kernel_rfl) (by simp) ?_
                refine (AllReadyH.cons (o := q50d_54_6_10) rfl (fun K hK => ?_) AllReadyH.nil)
                · go_simp
                  obtain ⟨wE10, hq10⟩ : ∃ q, q = wE1.alloc (.cells #[.int .i64 r3, .int .i64 n3, .slice (some ⟨g8, 0, none⟩) 2 2] 52) := ⟨_, rfl⟩
                  have hop10 : Below wE1.heap.size wE1 wE10 := by rw [hq10]; exact (Below.refl _ _).alloc (Nat.le_refl _) _
                  have HDwE10 := Hid.mk (HDwE1.out.below hop10)
                  obtain ⟨g10, HG10⟩ : ∃ z, Hid (z = wE1.heap.size) := ⟨_, Hid.mk rfl⟩
                  have HB10 : Hid (Bx wE10 g10 [.int .i64 r3, .int .i64 n3, .slice (some ⟨g8, 0, none⟩) 2 2]) := by unfold Hid; rw [HG10.out, hq10]; exact Bx.new _ _ _
                  rw [← HG10.out]
                  rw [← hq10]
                  clear hq10
                  refine hK.out _ _ (trivial) (fun hHeld => ?_)
                  clear hK K
                  try simp only [Act.put, sa, s0, s1]
                  refine wpAnyH_ready (rs := [11]) (by kernel_rfl) (by simp) ?_
                  refine (AllReadyH.cons (o := q50d_54_6_11) rfl (fun K hK => ?_) AllReadyH.nil)
                  · skip
                    have HX10 : Hid (Bx wE10 g10 [.int .i64 r3, .int .i64 n3, .slice (some ⟨g8, 0, none⟩) 2 2]) := Bx.under HB10.out (show Below wE10.heap.size wE10 wE10 from Below.refl _ _)
                    have HX8 := Hid.mk (HB8.out.under (show Below wE8.heap.size wE8 wE10 from bthen (bthen (Below.refl _ _) hop1) hop10))
                    obtain ⟨xs, hox, hnext⟩ := HDwE10.out.app
                    have HNX := Hid.mk hnext
                    clear hnext
                    refine step_append_src wE10 rfl _ _ 28 28 rfl 0 52 iI (.agg #[.int .i64 0, .int .i64 0, .slice none 0 0]) 3 40 Tryd.underlying28 HII.out.1 HII.out.2.1 HII.out.2.2.1 HII.out.2.2.2 rfl (.slice a l.length c) l.length xs rfl hox (.slice (some ⟨g10, 0, none⟩) 1 1) rfl 1 [.int .i64 r3, .int .i64 n3, .slice (some ⟨g8, 0, none⟩) 2 2] (Src.ofSlice _ Tryd.underlying28 ⟨g10, 0, none⟩ 1 1 _ rfl (bx_news HX10.out) (by intro u hu; simp at hu; rcases hu with rfl | rfl | rfl <;> rfl)) (by unfold maxLen; omega) (by omega) (Nat.zero_le _) ?_
                    intro v11 wE11 ho11 hgr11 hat11
                    obtain ⟨l9, HL9⟩ : ∃ l9 : List MItem, Hid (l9 = l ++ [(⟨⟨r3, n3⟩, [⟨r5, n5⟩, ⟨r7, n7⟩]⟩ : MItem)]) := ⟨_, Hid.mk rfl⟩
                    obtain ⟨F9, a9, c9, hv9, hA9, hb9⟩ := HNX.out wE11 v11 _ ⟨⟨r3, n3⟩, [⟨r5, n5⟩, ⟨r7, n7⟩]⟩ [g8] ho11 hgr11 hat11 (item_lit HX8.out HN3.out HN5.out HN7.out) (by simp) (fun b hb => by rw [List.mem_singleton.1 hb]; exact HF8.out.2.2) (fun b hb => by rw [List.mem_singleton.1 hb]; exact ⟨HF8.out.1, HF8.out.2.1⟩) l9 HL9.out
                    subst hv9
                    have HA9 := Hid.mk hA9
                    have q1 := hb9.cell 0 _ rfl
                    have qf := hb9.free 0
                    have ql := hb9.lt
                    clear ho11 hgr11 hat11 hA9 hb9 HNX hox
                    refine hK.out _ _ (trivial) (fun hHeld => ?_)
                    clear hK K
                    try simp only [Act.put, sa, s0, s1]
                    refine tk 12 q50d_54_6_12 (some 29) (v := ?v40) rfl rfl (by kernel_rfl) hHeld (by rfl) (fun _ _ _ x => x) (fun w h => ?y40) ?_; (case y40 => (try dsimp only at h); go_simp; try (with_reducible rfl)); try simp only [Act.put, sa, s0, s1]
                    refine wpAnyH_ready (rs := [13]) (by kernel_rfl) (by simp) ?_
                    refine (AllReadyH.cons (o := q50d_54_6_13) rfl (fun K hK => ?_) AllReadyH.nil)
                    · go_simp
                      obtain ⟨wE13, hq13⟩ : ∃ q, q = wE11.setCell ⟨bg, 0, none⟩ (.slice a9 l9.length c9) := ⟨_, rfl⟩
                      have HN : Hid (AnSt w g bg (.slice a9 l9.length c9) l9 F9 wE13) := by rw [hq13]; exact HA9.out
                      clear q1 qf ql
                      rw [← hq13]
                      clear hq13
                      refine hK.out _ _ (trivial) (fun hHeld => ?_)
                      clear hK K
                      try simp only [Act.put, sa, s0, s1]
                      refine wpAnyH_done (by kernel_rfl) ?_ _
                      have k0 := HN.out.x.cell 0 _ rfl
                      have k1 := HN.out.r.cell 0 _ rfl
                      have k2 := HN.out.r.free 0
                      have k3 := HN.out.r.lt
                      have k4 := HN.out.x.lt
                      go_wp2_with fail
                      exact bodyPost_ret (v := .agg #[.slice a9 l9.length c9]) (by simp [results, Tryd.results54, go_sem, *]) rfl (HN.out.done (by rw [HL9.out]; exact wGraph_snoc HWL.out (by simp)))
              · go_simp
                obtain ⟨wE10, hq10⟩ : ∃ q, q = wE8.alloc (.cells #[.int .i64 r3, .int .i64 n3, .slice (some ⟨g8, 0, none⟩) 2 2] 52) := ⟨_, rfl⟩
                have hop10 : Below wE8.heap.size wE8 wE10 := by rw [hq10]; exact (Below.refl _ _).alloc (Nat.le_refl _) _
                have HDwE10 := Hid.mk (HDwE8.out.below hop10)
                obtain ⟨g10, HG10⟩ : ∃ z, Hid (z = wE8.heap.size) := ⟨_, Hid.mk rfl⟩
                have HB10 : Hid (Bx wE10 g10 [.int .i64 r3, .int .i64 n3, .slice (some ⟨g8, 0, none⟩) 2 2]) := by unfold Hid; rw [HG10.out, hq10]; exact Bx.new _ _ _
                rw [← HG10.out]
                rw [← hq10]
                clear hq10
                refine hK.out _ _ (trivial) (fun hHeld => ?_)
                clear hK K
                try simp only [Act.put, sa, s0, s1]
                refine wpAnyH_ready (rs := [1]) (by kernel_rfl) (by simp) ?_
                refine (AllReadyH.cons (o := q50d_54_6_1) rfl (fun K hK => ?_) AllReadyH.nil)
                · skip
                  have yq := HDwE10.out.x.cell 0 _ rfl
                  go_simp
                  obtain ⟨wE1, hq1⟩ : ∃ q, q = wE10 := ⟨_, rfl⟩
                  have HDwE1 : Hid (AnSt w g bg (.slice a l.length c) l F0 wE1) := by rw [hq1]; exact HDwE10
                  have hop1 : Below wE10.heap.size wE10 wE1 := by rw [hq1]; exact Below.refl _ _
                  rw [← hq1]
                  clear hq1 yq
                  refine hK.out _ _ (trivial) (fun hHeld => ?_)
                  clear hK K
                  try simp only [Act.put, sa, s0, s1]
                  refine wpAnyH_ready (rs := [11]) (by kernel_rfl) (by simp) ?_
                  refine (AllReadyH.cons (o := q50d_54_6_11) rfl (fun K hK => ?_) AllReadyH.nil)
                  · skip
                    have HX10 : Hid (Bx wE1 g10 [.int .i64 r3, .int .i64 n3, .slice (some ⟨g8, 0, none⟩) 2 2]) := Bx.under HB10.out (show Below wE10.heap.size wE10 wE1 from bthen (Below.refl _ _) hop1)
                    have HX8 := Hid.mk (HB8.out.under (show Below wE8.heap.size wE8 wE1 from bthen (bthen (Below.refl _ _) hop10) hop1))
                    obtain ⟨xs, hox, hnext⟩ := HDwE1.out.app
                    have HNX := Hid.mk hnext
                    clear hnext
                    refine step_append_src wE1 rfl _ _ 28 28 rfl 0 52 iI (.agg #[.int .i64 0, .int .i64 0, .slice none 0 0]) 3 40 Tryd.underlying28 HII.out.1 HII.out.2.1 HII.out.2.2.1 HII.out.2.2.2 rfl (.slice a l.length c) l.length xs rfl hox (.slice (some ⟨g10, 0, none⟩) 1 1) rfl 1 [.int .i64 r3, .int .i64 n3, .slice (some ⟨g8, 0, none⟩) 2 2] (Src.ofSlice _ Tryd.underlying28 ⟨g10, 0, none⟩ 1 1 _ rfl (bx_news HX10.out) (by intro u hu; simp at hu; rcases hu with rfl | rfl | rfl <;> rfl)) (by unfold maxLen; omega) (by omega) (Nat.zero_le _) ?_
                    intro v11 wE11 ho11 hgr11 hat11
                    obtain ⟨l9, HL9⟩ : ∃ l9 : List MItem, Hid (l9 = l ++ [(⟨⟨r3, n3⟩, [⟨r5, n5⟩, ⟨r7, n7⟩]⟩ : MItem)]) := ⟨_, Hid.mk rfl⟩
                    obtain ⟨F9, a9, c9, hv9, hA9, hb9⟩ := HNX.out wE11 v11 _ ⟨⟨r3, n3⟩, [⟨r5, n5⟩, ⟨r7, n7⟩]⟩ [g8] ho11 hgr11 hat11 (item_lit HX8.out HN3.out HN5.out HN7.out) (by simp) (fun b hb => by rw [List.mem_singleton.1 hb]; exact HF8.out.2.2) (fun b hb => by rw [List.mem_singleton.1 hb]; exact ⟨HF8.out.1, HF8.out.2.1⟩) l9 HL9.out
                    subst hv9
                    have HA9 := Hid.mk hA9
                    have q1 := hb9.cell 0 _ rfl
                    have qf := hb9.free 0
                    have ql := hb9.lt
                    clear ho11 hgr11 hat11 hA9 hb9 HNX hox
                    refine hK.out _ _ (trivial) (fun hHeld => ?_)
                    clear hK K
                    try simp only [Act.put, sa, s0, s1]
                    refine tk 12 q50d_54_6_12 (some 29) (v := ?v41) rfl rfl (by kernel_rfl) hHeld (by rfl) (fun _ _ _ x => x) (fun w h => ?y41) ?_; (case y41 => (try dsimp only at h); go_simp; try (with_reducible rfl)); try simp only [Act.put, sa, s0, s1]
                    refine wpAnyH_ready (rs := [13]) (by kernel_rfl) (by simp) ?_
                    refine (AllReadyH.cons (o := q50d_54_6_13) rfl (fun K hK => ?_) AllReadyH.nil)
                    · go_simp
                      obtain ⟨wE13, hq13⟩ : ∃ q, q = wE11.setCell ⟨bg, 0, none⟩ (.slice a9 l9.length c9) := ⟨_, rfl⟩
                      have HN : Hid (AnSt w g bg (.slice a9 l9.length c9) l9 F9 wE13) := by rw [hq13]; exact HA9.out
                      clear q1 qf ql
                      rw [← hq13]
                      clear hq13
                      refine hK.out _ _ (trivial) (fun hHeld => ?_)
                      clear hK K
                      try simp only [Act.put, sa, s0, s1]
                      refine wpAnyH_done (by kernel_rfl) ?_ _
                      have k0 := HN.out.x.cell 0 _ rfl
                      have k1 := HN.out.r.cell 0 _ rfl
                      have k2 := HN.out.r.free 0
                      have k3 := HN.out.r.lt
                      have k4 := HN.out.x.lt
                      go_wp2_with fail
                      exact bodyPost_ret (v := .agg #[.slice a9 l9.length c9]) (by simp [results, Tryd.results54, go_sem, *]) rfl (HN.out.done (by rw [HL9.out]; exact wGraph_snoc HWL.out (by simp)))
    by_cases x1 : x = 1
    · subst x1
      have k0 := HDB.out.x.cell 0 _ rfl
      by_cases hl : 0 < l.length
      · have hl1 : (0 : Int) < (l.length : Int) := by omega
        have hl2 : decide ((0 : Int) < (l.length : Int)) = true := decide_eq_true hl1
        obtain ⟨gi, rfl⟩ := HDB.out.addr hl
        go_wp2_with fail
        clear k0
        refine wp_region_held_drew (S := fun W => True) (by kernel_rfl) (trivial) (fun hHeld => ?_)
        obtain ⟨wS, hwS⟩ : ∃ wS, wS = wB.drew := ⟨_, rfl⟩
        have HDwS : Hid (AnSt w g bg (.slice (some ⟨gi, 0, none⟩) l.length c) l F0 wS) := by rw [hwS]; exact HDB.out.below (Below.drew (Below.refl _ _))
        rw [← hwS]
        clear hwS
        refine tk 0 q50d_54_9_0 (some 36) (v := ?v42) rfl rfl (by kernel_rfl) hHeld (by rfl) (fun _ _ _ x => x) (fun w h => ?y42) ?_; (case y42 => (try dsimp only at h); go_simp; try (with_reducible rfl)); try simp only [Act.put, sa, s0, s1]
        refine tk 2 q50d_54_9_2 (some 38) (v := ?v43) rfl rfl (by kernel_rfl) hHeld (by rfl) (fun _ _ _ x => x) (fun w h => ?y43) ?_; (case y43 => (try dsimp only at h); go_simp; try (with_reducible rfl)); try simp only [Act.put, sa, s0, s1]
        refine wpAnyH_ready (rs := [1, 3]) (by kernel_rfl) (by simp) ?_
        refine (AllReadyH.cons (o := q50d_54_9_1) rfl (fun K hK => ?_) (AllReadyH.cons (o := q50d_54_9_3) rfl (fun K hK => ?_) AllReadyH.nil))
        · skip
          have yq := HDwS.out.x.cell 0 _ rfl
          go_simp
          obtain ⟨wE1, hq1⟩ : ∃ q, q = wS := ⟨_, rfl⟩
          have HDwE1 : Hid (AnSt w g bg (.slice (some ⟨gi, 0, none⟩) l.length c) l F0 wE1) := by rw [hq1]; exact HDwS
          have hop1 : Below wS.heap.size wS wE1 := by rw [hq1]; exact Below.refl _ _
          rw [← hq1]
          clear hq1 yq
          refine hK.out _ _ (trivial) (fun hHeld => ?_)
          clear hK K
          try simp only [Act.put, sa, s0, s1]
          refine wpAnyH_ready (rs := [3]) (by kernel_rfl) (by simp) ?_
          refine (AllReadyH.cons (o := q50d_54_9_3) rfl (fun K hK => ?_) AllReadyH.nil)
          · go_simp
            obtain ⟨wE3, hq3⟩ : ∃ q, q = wE1.alloc (.cells #[.int .i64 0, .int .i64 8, .int .i64 1] 3) := ⟨_, rfl⟩
            have hop3 : Below wE1.heap.size wE1 wE3 := by rw [hq3]; exact (Below.refl _ _).alloc (Nat.le_refl _) _
            have HDwE3 := Hid.mk (HDwE1.out.below hop3)
            obtain ⟨g3, HG3⟩ : ∃ z, Hid (z = wE1.heap.size) := ⟨_, Hid.mk rfl⟩
            have HB3 : Hid (Bw wE3 g3 3 [.int .i64 0, .int .i64 8, .int .i64 1]) := by unfold Hid; rw [HG3.out, hq3]; exact Bw.new _ _ _
            have HGL : Hid (g ≠ g3) := by have h1 := HDwE1.out.x.lt; have h2 := HDwE1.out.lb; have h3 := HG3.out; unfold Hid; omega
            rw [← HG3.out]
            rw [← hq3]
            clear hq3
            refine hK.out _ _ (trivial) (fun hHeld => ?_)
            clear hK K
            try simp only [Act.put, sa, s0, s1]
            refine wpAnyH_ready (rs := [4]) (by kernel_rfl) (by simp) ?_
            refine (AllReadyH.cons (o := q50d_54_9_4) rfl (fun K hK => ?_) AllReadyH.nil)
            · go_simp
              have HX3 : Hid (Bw wE3 g3 3 [.int .i64 0, .int .i64 8, .int .i64 1]) := Bw.under HB3.out (show Below wE3.heap.size wE3 wE3 from Below.refl _ _)
              refine Calls.mono (l1Int_ok (some ⟨g3, 0, none⟩) 3 3 [0, 8, 1] HDwE3.out.c rfl (by omega) (by omega) _ (rd_three HX3.out) (by intro b o h; simp at h; have := HGL.out; omega)) ?_
              rintro e wE4 ⟨j4, ⟨hj4, rfl⟩, hc4, hg4⟩
              have HDwE4 := Hid.mk (HDwE3.out.cursor hc4 hg4)
              obtain ⟨z4, HZ4⟩ : ∃ z, Hid (z = ([0, 8, 1] : List Int).getD j4 0) := ⟨_, Hid.mk rfl⟩
              have HZW : Hid ((Lit.int .i64 z4).wf = true) := by rw [HZ4.out]; exact wf_three hj4
              rw [← HZ4.out]
              clear hc4 hg4
              go_wp2_with fail
              refine hK.out _ _ (trivial) (fun hHeld => ?_)
              clear hK K
              try simp only [Act.put, sa, s0, s1]
              refine tk 5 q50d_54_9_5 (some 41) (v := ?v44) rfl rfl (by kernel_rfl) hHeld (by rfl) (fun _ _ _ x => x) (fun w h => ?y44) ?_; (case y44 => (try dsimp only at h); go_simp; try (with_reducible rfl)); try simp only [Act.put, sa, s0, s1]
              refine tk 6 q50d_54_9_6 (some 42) (v := ?v45) rfl rfl (by kernel_rfl) hHeld (by rfl) (fun _ _ _ x => x) (fun w h => ?y45) ?_; (case y45 => (try dsimp only at h); go_simp; try (with_reducible rfl)); try simp only [Act.put, sa, s0, s1]
              refine tk 7 q50d_54_9_7 (some 43) (v := ?v46) rfl rfl (by kernel_rfl) hHeld (by rfl) (fun _ _ _ x => x) (fun w h => ?y46) ?_; (case y46 => (try dsimp only at h); go_simp; try (with_reducible rfl)); try simp only [Act.put, sa, s0, s1]
              refine wpAnyH_ready (rs := [8]) (by kernel_rfl) (by simp) ?_
              refine (AllReadyH.cons (o := q50d_54_9_8) rfl (fun K hK => ?_) AllReadyH.nil)
              · skip
                obtain ⟨gi, cap, hvv, hgl8, ⟨u8, hu8⟩, hfz8, hne8, hne9, l9, F9, hA9, hlen9, hw9⟩ := HDwE4.out.top hl z4 HZW.out
                simp only [Value.slice.injEq, Option.some.injEq, Addr.mk.injEq, and_true, true_and] at hvv
                obtain ⟨rfl, rfl⟩ := hvv
                go_simp
                obtain ⟨wE8, hq8⟩ : ∃ q, q = wE4.setCell ⟨gi, 0, none⟩ (.int .i64 z4) := ⟨_, rfl⟩
                have HN : Hid (AnSt w g bg (.slice (some ⟨gi, 0, none⟩) l.length c) l9 F9 wE8) := by rw [hq8]; exact hA9
                have HW9 : Hid (wGraph ⟨l9⟩ ≤ 6300) := by unfold Hid; rw [hw9]; have := HWL.out; omega
                clear hA9 hu8 hfz8 hgl8 hlen9 hw9
                rw [← hq8]
                clear hq8
                refine hK.out _ _ (trivial) (fun hHeld => ?_)
                clear hK K
                try simp only [Act.put, sa, s0, s1]
                refine wpAnyH_done (by kernel_rfl) ?_ _
                have k0 := HN.out.x.cell 0 _ rfl
                have k1 := HN.out.r.cell 0 _ rfl
                have k2 := HN.out.r.free 0
                have k3 := HN.out.r.lt
                have k4 := HN.out.x.lt
                go_wp2_with fail
                exact bodyPost_ret (v := .agg #[.slice (some ⟨gi, 0, none⟩) l.length c]) (by simp [results, Tryd.results54, go_sem, *]) rfl (HN.out.done HW9.out)
        · go_simp
          obtain ⟨wE3, hq3⟩ : ∃ q, q = wS.alloc (.cells #[.int .i64 0, .int .i64 8, .int .i64 1] 3) := ⟨_, rfl⟩
          have hop3 : Below wS.heap.size wS wE3 := by rw [hq3]; exact (Below.refl _ _).alloc (Nat.le_refl _) _
          have HDwE3 := Hid.mk (HDwS.out.below hop3)
          obtain ⟨g3, HG3⟩ : ∃ z, Hid (z = wS.heap.size) := ⟨_, Hid.mk rfl⟩
          have HB3 : Hid (Bw wE3 g3 3 [.int .i64 0, .int .i64 8, .int .i64 1]) := by unfold Hid; rw [HG3.out, hq3]; exact Bw.new _ _ _
          have HGL : Hid (g ≠ g3) := by have h1 := HDwS.out.x.lt; have h2 := HDwS.out.lb; have h3 := HG3.out; unfold Hid; omega
          rw [← HG3.out]
          rw [← hq3]
          clear hq3
          refine hK.out _ _ (trivial) (fun hHeld => ?_)
          clear hK K
          try simp only [Act.put, sa, s0, s1]
          refine wpAnyH_ready (rs := [1, 4]) (by kernel_rfl) (by simp) ?_
          refine (AllReadyH.cons (o := q50d_54_9_1) rfl (fun K hK => ?_) (AllReadyH.cons (o := q50d_54_9_4) rfl (fun K hK => ?_) AllReadyH.nil))
          · skip
            have yq := HDwE3.out.x.cell 0 _ rfl
            go_simp
            obtain ⟨wE1, hq1⟩ : ∃ q, q = wE3 := ⟨_, rfl⟩
            have HDwE1 : Hid (AnSt w g bg (.slice (some ⟨gi, 0, none⟩) l.length c) l F0 wE1) := by rw [hq1]; exact HDwE3
            have hop1 : Below wE3.heap.size wE3 wE1 := by rw [hq1]; exact Below.refl _ _
            rw [← hq1]
            clear hq1 yq
            refine hK.out _ _ (trivial) (fun hHeld => ?_)
            clear hK K
            try simp only [Act.put, sa, s0, s1]
            refine wpAnyH_ready (rs := [4]) (by kernel_rfl) (by simp) ?_
            refine (AllReadyH.cons (o := q50d_54_9_4) rfl (fun K hK => ?_) AllReadyH.nil)
            · go_simp
              have HX3 : Hid (Bw wE1 g3 3 [.int .i64 0, .int .i64 8, .int .i64 1]) := Bw.under HB3.out (show Below wE3.heap.size wE3 wE1 from bthen (Below.refl _ _) hop1)
              refine Calls.mono (l1Int_ok (some ⟨g3, 0, none⟩) 3 3 [0, 8, 1] HDwE1.out.c rfl (by omega) (by omega) _ (rd_three HX3.out) (by intro b o h; simp at h; have := HGL.out; omega)) ?_
              rintro e wE4 ⟨j4, ⟨hj4, rfl⟩, hc4, hg4⟩
              have HDwE4 := Hid.mk (HDwE1.out.cursor hc4 hg4)
              obtain ⟨z4, HZ4⟩ : ∃ z, Hid (z = ([0, 8, 1] : List Int).getD j4 0) := ⟨_, Hid.mk rfl⟩
              have HZW : Hid ((Lit.int .i64 z4).wf = true) := by rw [HZ4.out]; exact wf_three hj4
              rw [← HZ4.out]
              clear hc4 hg4
              go_wp2_with fail
              refine hK.out _ _ (trivial) (fun hHeld => ?_)
              clear hK K
              try simp only [Act.put, sa, s0, s1]
              refine tk 5 q50d_54_9_5 (some 41) (v := ?v47) rfl rfl (by kernel_rfl) hHeld (by rfl) (fun _ _ _ x => x) (fun w h => ?y47) ?_; (case y47 => (try dsimp only at h); go_simp; try (with_reducible rfl)); try simp only [Act.put, sa, s0, s1]
              refine tk 6 q50d_54_9_6 (some 42) (v := ?v48) rfl rfl (by kernel_rfl) hHeld (by rfl) (fun _ _ _ x => x) (fun w h => ?y48) ?_; (case y48 => (try dsimp only at h); go_simp; try (with_reducible rfl)); try simp only [Act.put, sa, s0, s1]
              refine tk 7 q50d_54_9_7 (some 43) (v := ?v49) rfl rfl (by kernel_rfl) hHeld (by rfl) (fun _ _ _ x => x) (fun w h => ?y49) ?_; (case y49 => (try dsimp only at h); go_simp; try (with_reducible rfl)); try simp only [Act.put, sa, s0, s1]
              refine wpAnyH_ready (rs := [8]) (by kernel_rfl) (by simp) ?_
              refine (AllReadyH.cons (o := q50d_54_9_8) rfl (fun K hK => ?_) AllReadyH.nil)
              · skip
                obtain ⟨gi, cap, hvv, hgl8, ⟨u8, hu8⟩, hfz8, hne8, hne9, l9, F9, hA9, hlen9, hw9⟩ := HDwE4.out.top hl z4 HZW.out
                simp only [Value.slice.injEq, Option.some.injEq, Addr.mk.injEq, and_true, true_and] at hvv
                obtain ⟨rfl, rfl⟩ := hvv
                go_simp
                obtain ⟨wE8, hq8⟩ : ∃ q, q = wE4.setCell ⟨gi, 0, none⟩ (.int .i64 z4) := ⟨_, rfl⟩
                have HN : Hid (AnSt w g bg (.slice (some ⟨gi, 0, none⟩) l.length c) l9 F9 wE8) := by rw [hq8]; exact hA9
                have HW9 : Hid (wGraph ⟨l9⟩ ≤ 6300) := by unfold Hid; rw [hw9]; have := HWL.out; omega
                clear hA9 hu8 hfz8 hgl8 hlen9 hw9
                rw [← hq8]
                clear hq8
                refine hK.out _ _ (trivial) (fun hHeld => ?_)
                clear hK K
                try simp only [Act.put, sa, s0, s1]
                refine wpAnyH_done (by kernel_rfl) ?_ _
                have k0 := HN.out.x.cell 0 _ rfl
                have k1 := HN.out.r.cell 0 _ rfl
                have k2 := HN.out.r.free 0
                have k3 := HN.out.r.lt
                have k4 := HN.out.x.lt
                go_wp2_with fail
                exact bodyPost_ret (v := .agg #[.slice (some ⟨gi, 0, none⟩) l.length c]) (by simp [results, Tryd.results54, go_sem, *]) rfl (HN.out.done HW9.out)
          · go_simp
            have HX3 : Hid (Bw wE3 g3 3 [.int .i64 0, .int .i64 8, .int .i64 1]) := Bw.under HB3.out (show Below wE3.heap.size wE3 wE3 from Below.refl _ _)
            refine Calls.mono (l1Int_ok (some ⟨g3, 0, none⟩) 3 3 [0, 8, 1] HDwE3.out.c rfl (by omega) (by omega) _ (rd_three HX3.out) (by intro b o h; simp at h; have := HGL.out; omega)) ?_
            rintro e wE4 ⟨j4, ⟨hj4, rfl⟩, hc4, hg4⟩
            have HDwE4 := Hid.mk (HDwE3.out.cursor hc4 hg4)
            obtain ⟨z4, HZ4⟩ : ∃ z, Hid (z = ([0, 8, 1] : List Int).getD j4 0) := ⟨_, Hid.mk rfl⟩
            have HZW : Hid ((Lit.int .i64 z4).wf = true) := by rw [HZ4.out]; exact wf_three hj4
            rw [← HZ4.out]
            clear hc4 hg4
            go_wp2_with fail
            refine hK.out _ _ (trivial) (fun hHeld => ?_)
            clear hK K
            try simp only [Act.put, sa, s0, s1]
            refine wpAnyH_ready (rs := [1]) (by kernel_rfl) (by simp) ?_
            refine (AllReadyH.cons (o := q50d_54_9_1) rfl (fun K hK => ?_) AllReadyH.nil)
            · skip
              have yq := HDwE4.out.x.cell 0 _ rfl
              go_simp
              obtain ⟨wE1, hq1⟩ : ∃ q, q = wE4 := ⟨_, rfl⟩
              have HDwE1 : Hid (AnSt w g bg (.slice (some ⟨gi, 0, none⟩) l.length c) l F0 wE1) := by rw [hq1]; exact HDwE4
              have hop1 : Below wE4.heap.size wE4 wE1 := by rw [hq1]; exact Below.refl _ _
              rw [← hq1]
              clear hq1 yq
              refine hK.out _ _ (trivial) (fun hHeld => ?_)
              clear hK K
              try simp only [Act.put, sa, s0, s1]
              refine tk 5 q50d_54_9_5 (some 41) (v := ?v50) rfl rfl (by kernel_rfl) hHeld (by rfl) (fun _ _ _ x => x) (fun w h => ?y50) ?_; (case y50 => (try dsimp only at h); go_simp; try (with_reducible rfl)); try simp only [Act.put, sa, s0, s1]
              refine tk 6 q50d_54_9_6 (some 42) (v := ?v51) rfl rfl (by kernel_rfl) hHeld (by rfl) (fun _ _ _ x => x) (fun w h => ?y51) ?_; (case y51 => (try dsimp only at h); go_simp; try (with_reducible rfl)); try simp only [Act.put, sa, s0, s1]
              refine tk 7 q50d_54_9_7 (some 43) (v := ?v52) rfl rfl (by kernel_rfl) hHeld (by rfl) (fun _ _ _ x => x) (fun w h => ?y52) ?_; (case y52 => (try dsimp only at h); go_simp; try (with_reducible rfl)); try simp only [Act.put, sa, s0, s1]
              refine wpAnyH_ready (rs := [8]) (by kernel_rfl) (by simp) ?_
              refine (AllReadyH.cons (o := q50d_54_9_8) rfl (fun K hK => ?_) AllReadyH.nil)
              · skip
                obtain ⟨gi, cap, hvv, hgl8, ⟨u8, hu8⟩, hfz8, hne8, hne9, l9, F9, hA9, hlen9, hw9⟩ := HDwE1.out.top hl z4 HZW.out
                simp only [Value.slice.injEq, Option.some.injEq, Addr.mk.injEq, and_true, true_and] at hvv
                obtain ⟨rfl, rfl⟩ := hvv
                go_simp
                obtain ⟨wE8, hq8⟩ : ∃ q, q = wE1.setCell ⟨gi, 0, none⟩ (.int .i64 z4) := ⟨_, rfl⟩
                have HN : Hid (AnSt w g bg (.slice (some ⟨gi, 0, none⟩) l.length c) l9 F9 wE8) := by rw [hq8]; exact hA9
                have HW9 : Hid (wGraph ⟨l9⟩ ≤ 6300) := by unfold Hid; rw [hw9]; have := HWL.out; omega
                clear hA9 hu8 hfz8 hgl8 hlen9 hw9
                rw [← hq8]
                clear hq8
                refine hK.out _ _ (trivial) (fun hHeld => ?_)
                clear hK K
                try simp only [Act.put, sa, s0, s1]
                refine wpAnyH_done (by kernel_rfl) ?_ _
                have k0 := HN.out.x.cell 0 _ rfl
                have k1 := HN.out.r.cell 0 _ rfl
                have k2 := HN.out.r.free 0
                have k3 := HN.out.r.lt
                have k4 := HN.out.x.lt
                go_wp2_with fail
                exact bodyPost_ret (v := .agg #[.slice (some ⟨gi, 0, none⟩) l.length c]) (by simp [results, Tryd.results54, go_sem, *]) rfl (HN.out.done HW9.out)
      · have hl1 : ¬ (0 : Int) < (l.length : Int) := by omega
        have hl2 : decide ((0 : Int) < (l.length : Int)) = false := decide_eq_false hl1
        have k1 := HDB.out.r.cell 0 _ rfl
        have k2 := HDB.out.r.free 0
        have k3 := HDB.out.r.lt
        have k4 := HDB.out.x.lt
        go_wp2_with fail
        exact bodyPost_ret (v := .agg #[.slice a l.length c]) (by simp [results, Tryd.results54, go_sem, *]) rfl (HDB.out.done (by have := HWL.out; omega))
    have k0 := HDB.out.x.cell 0 _ rfl
    have k1 := HDB.out.r.cell 0 _ rfl
    have k2 := HDB.out.r.free 0
    have k3 := HDB.out.r.lt
    have k4 := HDB.out.x.lt
    go_wp2_with fail
    exact bodyPost_ret (v := .agg #[.slice a l.length c]) (by simp [results, Tryd.results54, go_sem, *]) rfl (HDB.out.done (by have := HWL.out; omega))

end Go.Proofs.YtmigamgcmhdncaaDoor
