/-
  Part 14 of the texts that the proof leans on.
-/
import Derived.Test.YtmigamgcmhdncaaDoorStb11
import Derived.Test.YtmigamgcmhdncaaDoorStb12
import Derived.Test.YtmigamgcmhdncaaDoorStb5
import Derived.Test.YtmigamgcmhdncaaDoorStb6
import Derived.Test.YtmigamgcmhdncaaDoorStb0
import Derived.Laws.OwnMore
import Derived.Test.YtmigamgcmhdncaaDoorStb9
import Derived.Laws.Bits64b
set_option linter.unusedVariables false
set_option linter.unusedSimpArgs false
set_option maxRecDepth 10000

namespace Go.Proofs.YtmigamgcmhdncaaDoor
open Go.RowKit

theorem wf_seven {z : Int} (h1 : 0 ≤ z) (h2 : z < 7) : (Lit.int .i64 z).wf = true := by
  have : z = 0 ∨ z = 1 ∨ z = 2 ∨ z = 3 ∨ z = 4 ∨ z = 5 ∨ z = 6 := by omega
  rcases this with rfl | rfl | rfl | rfl | rfl | rfl | rfl <;> rfl

theorem Bw.other' {w : World} {b b' i : Nat} {t : TypeId} {vs : List Value} {u : Value} (h : Bw w b t vs) (hne : b ≠ b') : Bw (w.setCell ⟨b', i, none⟩ u) b t vs :=
  (heap_setCell_other w ⟨b', i, none⟩ b u hne).trans h
theorem grown_of_below {w w' : World} (h : Below w.heap.size w w') (r : Option Nat) : w.grownBy w' r := ⟨h.os, h.tape, h.output, h.size, fun k hk _ => h.block k hk⟩

theorem graphP_nil : graphP ⟨[]⟩ = true := rfl
theorem graphP_put {m : MGraph} {it : MItem} (h : graphP m = true) : graphP (putG m it) = true := by
  unfold putG
  cases h2 : putOk m it with
  | false => exact h
  | true => unfold putOk at h2; rw [Bool.and_eq_true] at h2; exact h2.2
theorem sumW_all {α : Type} {f : α → Nat} {l : List α} {B : Nat} (h : ∀ x, x ∈ l → f x ≤ B) : sumW f l ≤ l.length * B := by
  induction l with
  | nil => simp [sumW]
  | cons x l ih =>
    have h1 := ih (fun y hy => h y (by simp [hy]))
    have h2 := h x (by simp)
    simp only [sumW, List.map_cons, List.sum_cons, List.length_cons] at *
    rw [Nat.succ_mul]; omega
theorem graphP_w {m : MGraph} (h : graphP m = true) : wGraph m ≤ 6200 := by
  unfold graphP at h
  rw [Bool.and_eq_true] at h
  have h1 := of_decide_eq_true h.1
  have h2 : ∀ x, x ∈ m.fItems → wItem x ≤ 60 := fun x hx => by
    obtain ⟨k, hk, rfl⟩ := List.mem_iff_getElem.1 hx
    have h3 := h.2
    unfold upOk at h3
    rw [List.all_eq_true] at h3
    have h4 := h3 k (List.mem_range.2 hk)
    unfold stepOk at h4
    rw [List.getElem?_eq_getElem hk] at h4
    simp only [Bool.and_eq_true] at h4
    have h5 := h4.1
    unfold itemP depsP at h5
    simp only [Bool.and_eq_true, decide_eq_true_eq] at h5
    have h6 : sumW wDot m.fItems[k].fDeps ≤ m.fItems[k].fDeps.length * 0 := sumW_all (fun y _ => Nat.le_refl 0)
    show m.fItems[k].fDeps.length + sumW wDot m.fItems[k].fDeps ≤ 60
    omega
  have h3 := sumW_all h2
  show m.fItems.length + sumW wItem m.fItems ≤ 6200
  omega

/-- What stands while a graph is drawn: the answer's block, the variable's, the graph behind them. -/
structure DrSt (w : World) (g : Nat) (m : MGraph) (a : Option Addr) (c : Nat) (W : World) : Prop where
  r : Bw W w.heap.size 30 [.slice none 0 0]
  v : Bw W (w.heap.size + 1) 30 [.slice a m.fItems.length c]
  o : OutG (w.heap.size + 1 + 1) W [.slice a m.fItems.length c] m
  p : graphP m = true
  c : CurOk W g
  k : w.grownBy W (some g)
  z : w.heap.size + 1 + 1 ≤ W.heap.size
  lt : g < w.heap.size
theorem DrSt.cursor {w : World} {g : Nat} {m : MGraph} {a : Option Addr} {c : Nat} {W W' : World} (h : DrSt w g m a c W) (hc : CurOk W' g) (hg : W.grownBy W' (some g)) : DrSt w g m a c W' :=
  have hl := h.lt
  ⟨h.r.grown hg (by simp; omega), h.v.grown hg (by simp; omega), h.o.cursor hg (by omega), h.p, hc, grown_trans h.k hg, Nat.le_trans h.z hg.size, h.lt⟩

/-- What stands while an item is drawn: its block behind all that was, its Deps behind it. -/
structure ItSt (g : Nat) (w1 : World) (x y : Int) (v : Value) (l : List MDot) (F : List Nat) (W : World) : Prop where
  b : Bw W w1.heap.size 52 [.int .i64 x, .int .i64 y, v]
  o : ownS 2 40 oDot W v l F
  n : F.Nodup
  f : ∀ b, b ∈ F → w1.heap.size + 1 ≤ b
  c : CurOk W g
  k : w1.grownBy W (some g)
  lt : g < w1.heap.size
theorem ItSt.cursor {g : Nat} {w1 : World} {x y : Int} {v : Value} {l : List MDot} {F : List Nat} {W W' : World} (h : ItSt g w1 x y v l F W) (hc : CurOk W' g) (hg : W.grownBy W' (some g)) : ItSt g w1 x y v l F W' :=
  have hl := h.lt
  ⟨h.b.grown hg (by simp; omega), ownS.frame oDot_good h.o (fun b hb => hg.block b (ownS.lt oDot_good h.o b hb) (by have := h.f b hb; simp; omega)), h.n, h.f, hc, grown_trans h.k hg, h.lt⟩
theorem ItSt.alloc {g : Nat} {w1 : World} {x y : Int} {v : Value} {l : List MDot} {F : List Nat} {W : World} (h : ItSt g w1 x y v l F W) (o : Obj) : ItSt g w1 x y v l F (W.alloc o) :=
  h.cursor (h.c.alloc _) (World.grownBy_alloc _ _ _)
theorem ItSt.app {g : Nat} {w1 : World} {x y : Int} {v : Value} {l : List MDot} {F : List Nat} {W : World} (h : ItSt g w1 x y v l F W) :
    ∃ xs, W.ownsRow 0 40 2 v l.length xs ∧ ∀ (W' : World) (v' : Value) (news : List Value) (d : MDot), W'.ownsRow 0 40 2 v' (l.length + 1) (xs ++ news) → W.grownBy W' v.ownBlock → (v'.ownBlock = v.ownBlock ∨ v'.ownBlock = some W.heap.size) → oDot W news d [] →
      ∃ F', ItSt g w1 x y v' (l ++ [d]) F' (W'.setCell ⟨w1.heap.size, 2, none⟩ v') ∧ Bw W' w1.heap.size 52 [.int .i64 x, .int .i64 y, v] := by
  obtain ⟨xs, hox, hnext⟩ := ownS.push oDot_good h.o h.n
  refine ⟨xs, hox, fun W' v' news d ho hg hat hx => ?_⟩
  obtain ⟨F', ho', hN', hF'⟩ := hnext W' v' news d [] ho hg hat hx List.nodup_nil (fun b hb => by cases hb)
  have hl := h.b.lt
  have hgl := h.lt
  have hk : ∀ k, v.ownBlock = some k → w1.heap.size + 1 ≤ k := fun k hk => h.f k (ownS.blk h.o k hk)
  have hbW : Bw W' w1.heap.size 52 [.int .i64 x, .int .i64 y, v] := (hg.block _ hl (fun e => by have := hk _ e.symm; omega)).trans h.b
  have hge' : ∀ b, b ∈ F' → w1.heap.size + 1 ≤ b := fun b hb => by
    rcases hF' b hb with h1 | h1 | h1
    · exact h.f b h1
    · cases h1
    · omega
  refine ⟨F', ⟨hbW.put 2 _, ownS.frame oDot_good ho' (fun b hb => heap_setCell_other W' ⟨w1.heap.size, 2, none⟩ b _ (by have := hge' b hb; show b ≠ w1.heap.size; omega)), hN', hge', ?_, ?_, h.lt⟩, hbW⟩
  · exact (h.c.grown hg (fun k e => by have := hk k e; omega)).setCell (p := ⟨w1.heap.size, 2, none⟩) hgl _
  · exact grown_setCell (World.grownBy.andThen h.k hg (fun j e => .inl (by have := hk j e; omega))) (p := ⟨w1.heap.size, 2, none⟩) (Nat.le_refl _) _



/-- From place i one step leads to place k. -/
def stepTo (l : List MItem) (i k : Nat) : Prop := ∃ (hi : i < l.length) (hk : k < l.length), ∃ d, d ∈ l[i].fDeps ∧ sameD l[k].fD d = true
/-- Place i names one that is not there. -/
def lacks (l : List MItem) (i : Nat) : Prop := ∃ hi : i < l.length, ∃ d, d ∈ l[i].fDeps ∧ hasI l d = false
/-- Place k is reached from i, over one step or more. -/
def Reach (l : List MItem) (i k : Nat) : Prop := ∀ P : Nat → Prop, (∀ j, stepTo l i j → P j) → (∀ j m, P j → stepTo l j m → P m) → P k
def wholeAt (l : List MItem) (i : Nat) : Prop := ¬ lacks l i ∧ ∀ k, Reach l i k → ¬ lacks l k

theorem Reach.base {l : List MItem} {i j : Nat} (h : stepTo l i j) : Reach l i j := fun P h1 h2 => h1 j h
theorem Reach.step {l : List MItem} {i j m : Nat} (h : Reach l i j) (hs : stepTo l j m) : Reach l i m := fun P h1 h2 => h2 j m (h P h1 h2) hs
theorem Reach.trans {l : List MItem} {i j m : Nat} (h : Reach l i j) (hs : Reach l j m) : Reach l i m := hs (fun x => Reach l i x) (fun x hx => h.step hx) (fun x y hx hy => hx.step hy)
theorem Reach.lt {l : List MItem} {i k : Nat} (h : Reach l i k) : k < l.length := h (fun k => k < l.length) (fun j ⟨_, hk, _⟩ => hk) (fun j m _ ⟨_, hk, _⟩ => hk)
theorem Reach.from {l : List MItem} {i k : Nat} (h : Reach l i k) : i < l.length := h (fun _ => i < l.length) (fun j ⟨hi, _⟩ => hi) (fun j m hj _ => hj)
theorem reach_of {l : List MItem} {i : Nat} {M : Nat → Prop} (h1 : ∀ j, stepTo l i j → M j) (h2 : ∀ j m, M j → stepTo l j m → M m) {k : Nat} (h : Reach l i k) : M k := h M h1 h2
theorem wholeAt.on {l : List MItem} {i k : Nat} (h : wholeAt l i) (hk : Reach l i k) : wholeAt l k := ⟨h.2 k hk, fun m hm => h.2 m (hk.trans hm)⟩

/-- What one round through a queue has met. -/
structure Met (l : List MItem) (i : Nat) (q : List Nat) (k : Nat) (met : Nat → Bool) (whole : Bool) : Prop where
  head : q.head? = some i
  lt : ∀ j, j ∈ q → j < l.length
  inq : ∀ j, met j = true ↔ j ∈ q.drop 1
  got : ∀ j, met j = true → Reach l i j
  nodup : (q.drop 1).Nodup
  did : ∀ j, j ∈ q.take k → ∀ m, stepTo l j m → met m = true
  ok : whole = true ↔ ∀ j, j ∈ q.take k → ¬ lacks l j

theorem mem_queue {q : List Nat} {i j : Nat} (h : q.head? = some i) : j ∈ q ↔ j = i ∨ j ∈ q.drop 1 := by
  cases q with
  | nil => cases h
  | cons a r =>
    simp only [List.head?_cons, Option.some.injEq] at h
    subst h
    simp
theorem Met.done {l : List MItem} {i : Nat} {q : List Nat} {k : Nat} {met : Nat → Bool} {whole : Bool} (h : Met l i q k met whole) (hk : q.length ≤ k) : (∀ j, met j = true ↔ Reach l i j) ∧ (whole = true ↔ wholeAt l i) := by
  have ht : q.take k = q := List.take_of_length_le hk
  have hm : ∀ j, j ∈ q ↔ j = i ∨ met j = true := fun j => by rw [mem_queue h.head, h.inq]
  have hd := h.did
  have hok := h.ok
  rw [ht] at hd hok
  have hR : ∀ j, met j = true ↔ Reach l i j := fun j => ⟨h.got j, fun hr => reach_of (M := fun j => met j = true) (fun j hj => hd i ((hm i).2 (.inl rfl)) j hj) (fun j m hj hs => hd j ((hm j).2 (.inr hj)) m hs) hr⟩
  refine ⟨hR, hok.trans ⟨fun g => ⟨g i ((hm i).2 (.inl rfl)), fun k hk => g k ((hm k).2 (.inr ((hR k).2 hk)))⟩, fun g j hj => ?_⟩⟩
  rcases (hm j).1 hj with rfl | hj
  · exact g.1
  · exact g.2 j ((hR j).1 hj)

/-- What a walk by the least place that was not walked yet has met; outside is the place z behind all. -/
structure Walk (l : List MItem) (i z : Nat) (met walked : Nat → Bool) (at_ : Nat) : Prop where
  here : at_ < l.length
  fresh : walked at_ = false
  root : at_ = i ∨ (walked i = true ∧ met at_ = true)
  did : ∀ j, j < l.length → walked j = true → (∀ m, stepTo l j m → met m = true) ∧ (lacks l j → met z = true)
  got : ∀ j, j < l.length → met j = true → Reach l i j
  out : met z = true → ¬ wholeAt l i
  top : ∀ j, ¬ j < l.length → walked j = false

/-- The sets behind one step of the walk. -/
theorem Walk.next {l : List MItem} {i z : Nat} {met walked met2 walked2 : Nat → Bool} {at_ : Nat} (h : Walk l i z met walked at_) (hz : l.length ≤ z)
    (h1 : ∀ j, j < l.length → (met2 j = true ↔ met j = true ∨ stepTo l at_ j)) (h2 : met2 z = true ↔ met z = true ∨ lacks l at_) (h3 : ∀ j, walked2 j = true ↔ walked j = true ∨ j = at_) :
    (∀ j, j < l.length → walked2 j = true → (∀ m, stepTo l j m → met2 m = true) ∧ (lacks l j → met2 z = true)) ∧ (∀ j, j < l.length → met2 j = true → Reach l i j) ∧ (met2 z = true → ¬ wholeAt l i) ∧ walked2 i = true ∧ ∀ j, ¬ j < l.length → walked2 j = false := by
  have hat : at_ = i ∨ Reach l i at_ := h.root.imp (fun g => g) (fun g => h.got at_ h.here g.2)
  refine ⟨fun j hj hw => ?_, fun j hj hm => ?_, fun hm hw => ?_, ?_, fun j hj => ?_⟩
  · rcases (h3 j).1 hw with g | rfl
    · have hd := h.did j hj g
      exact ⟨fun m hs => (h1 m (by obtain ⟨_, hk, _⟩ := hs; exact hk)).2 (.inl (hd.1 m hs)), fun hl => h2.2 (.inl (hd.2 hl))⟩
    · exact ⟨fun m hs => (h1 m (by obtain ⟨_, hk, _⟩ := hs; exact hk)).2 (.inr hs), fun hl => h2.2 (.inr hl)⟩
  · rcases (h1 j hj).1 hm with g | g
    · exact h.got j hj g
    · rcases hat with rfl | ha
      · exact Reach.base g
      · exact ha.step g
  · rcases h2.1 hm with g | g
    · exact h.out g hw
    · rcases hat with rfl | ha
      · exact hw.1 g
      · exact hw.2 _ ha g
  · rw [h3]
    rcases h.root with g | g
    · exact .inr g.symm
    · exact .inl g.1
  · rw [Bool.eq_false_iff]
    intro hc
    rcases (h3 j).1 hc with g | g
    · rw [h.top j hj] at g; cases g
    · subst g; exact hj h.here

/-- Where nothing is left to walk, all that is reached was met. -/
theorem walk_done {l : List MItem} {i z : Nat} {met walked : Nat → Bool} (hd : ∀ j, j < l.length → walked j = true → (∀ m, stepTo l j m → met m = true) ∧ (lacks l j → met z = true)) (hg : ∀ j, j < l.length → met j = true → Reach l i j) (ho : met z = true → ¬ wholeAt l i) (hi : i < l.length) (hw : walked i = true)
    (he : ∀ j, j < l.length → met j = true → walked j = true) : (∀ j, j < l.length → (met j = true ↔ Reach l i j)) ∧ (met z = true ↔ ¬ wholeAt l i) := by
  have hR : ∀ j, Reach l i j → met j = true := fun j hr => reach_of (M := fun j => met j = true) (fun j hs => (hd i hi hw).1 j hs) (fun j m hj hs => by
    obtain ⟨hjl, _⟩ := id hs
    exact (hd j hjl (he j hjl hj)).1 m hs) hr
  refine ⟨fun j hj => ⟨hg j hj, hR j⟩, ho, fun hn => ?_⟩
  apply Classical.byContradiction
  intro hm
  apply hn
  refine ⟨fun hl => hm ((hd i hi hw).2 hl), fun k hk hl => hm ((hd k hk.lt (he k hk.lt (hR k hk))).2 hl)⟩


theorem graph_uniq {l : List MItem} (h : graphP ⟨l⟩ = true) {i j : Nat} (hi : i < l.length) (hj : j < l.length) {d : MDot} (h1 : sameD l[i].fD d = true) (h2 : sameD l[j].fD d = true) : i = j := by
  have e1 := sameD_eq h1
  have e2 := sameD_eq h2
  rcases Nat.lt_trichotomy i j with g | g | g
  · have := dotLt_iff.1 (graph_up h i j hi hj g); omega
  · exact g
  · have := dotLt_iff.1 (graph_up h j i hj hi g); omega

/-- In the midst of the deps of the k-th of the queue: c of them are through. -/
structure Met2 (l : List MItem) (i : Nat) (q : List Nat) (k : Nat) (ds : List MDot) (c : Nat) (met : Nat → Bool) (whole : Bool) : Prop where
  head : q.head? = some i
  lt : ∀ j, j ∈ q → j < l.length
  inq : ∀ j, met j = true ↔ j ∈ q.drop 1
  got : ∀ j, met j = true → Reach l i j
  nodup : (q.drop 1).Nodup
  kl : k < q.length
  did : ∀ j, j ∈ q.take k → ∀ m, stepTo l j m → met m = true
  now : ∃ (hj : q[k] < l.length), l[q[k]].fDeps = ds
  did2 : ∀ d, d ∈ ds.take c → ∀ m, (hm : m < l.length) → sameD l[m].fD d = true → met m = true
  ok : whole = true ↔ (∀ j, j ∈ q.take k → ¬ lacks l j) ∧ ∀ d, d ∈ ds.take c → hasI l d = true

theorem Met.enter {l : List MItem} {i : Nat} {q : List Nat} {k : Nat} {met : Nat → Bool} {whole : Bool} (h : Met l i q k met whole) (hk : k < q.length) {ds : List MDot} (hj : q[k] < l.length) (hd : l[q[k]].fDeps = ds) : Met2 l i q k ds 0 met whole :=
  ⟨h.head, h.lt, h.inq, h.got, h.nodup, hk, h.did, ⟨hj, hd⟩, fun d hd => by simp at hd, by rw [h.ok]; simp⟩

theorem mem_take_succ {α : Type} {l : List α} {c : Nat} (hc : c < l.length) {x : α} : x ∈ l.take (c + 1) ↔ x ∈ l.take c ∨ x = l[c] := by
  rw [List.take_succ_eq_append_getElem hc, List.mem_append, List.mem_singleton]
theorem reach_now {l : List MItem} {i : Nat} {q : List Nat} {k : Nat} {ds : List MDot} {c : Nat} {met : Nat → Bool} {whole : Bool} (h : Met2 l i q k ds c met whole) : q[k]'h.kl = i ∨ Reach l i (q[k]'h.kl) := by
  have hm : q[k]'h.kl ∈ q := List.getElem_mem h.kl
  rcases (mem_queue h.head).1 hm with g | g
  · exact .inl g
  · exact .inr (h.got _ ((h.inq _).2 g))

theorem Met2.old {l : List MItem} {i : Nat} {q : List Nat} {k : Nat} {ds : List MDot} {c : Nat} {met : Nat → Bool} {whole : Bool} (hg : graphP ⟨l⟩ = true) (h : Met2 l i q k ds c met whole) (hc : c < ds.length) {t : Nat} (ht : t < l.length) (hs : sameD l[t].fD ds[c] = true) (hm : met t = true) : Met2 l i q k ds (c + 1) met whole :=
  ⟨h.head, h.lt, h.inq, h.got, h.nodup, h.kl, h.did, h.now, (fun d hd m hml hsm => by
    rcases (mem_take_succ hc).1 hd with g | g
    · exact h.did2 d g m hml hsm
    · subst g; rw [graph_uniq hg hml ht hsm hs]; exact hm), by
    rw [h.ok]
    refine and_congr_right (fun _ => ⟨fun g d hd => ?_, fun g d hd => g d ((mem_take_succ hc).2 (.inl hd))⟩)
    rcases (mem_take_succ hc).1 hd with g1 | g1
    · exact g d g1
    · subst g1; exact hasI_yes ht hs⟩

theorem Met2.new {l : List MItem} {i : Nat} {q : List Nat} {k : Nat} {ds : List MDot} {c : Nat} {met met' : Nat → Bool} {whole : Bool} (hg : graphP ⟨l⟩ = true) (h : Met2 l i q k ds c met whole) (hc : c < ds.length) {t : Nat} (ht : t < l.length) (hs : sameD l[t].fD ds[c] = true) (hm : met t = false)
    (hm' : ∀ j, met' j = true ↔ met j = true ∨ j = t) : Met2 l i (q ++ [t]) k ds (c + 1) met' whole := by
  have hkl := h.kl
  have hlen : 1 ≤ q.length := by omega
  have hdr : (q ++ [t]).drop 1 = q.drop 1 ++ [t] := List.drop_append_of_le_length hlen
  have htk : (q ++ [t]).take k = q.take k := List.take_append_of_le_length (by omega)
  have hgk : (q ++ [t])[k]'(by simp; omega) = q[k] := List.getElem_append_left hkl
  obtain ⟨hj, hds⟩ := h.now
  have hst : stepTo l (q[k]) t := ⟨hj, ht, ds[c], by rw [hds]; exact List.getElem_mem hc, hs⟩
  have hrt : Reach l i t := by
    rcases reach_now h with g | g
    · rw [g] at hst; exact Reach.base hst
    · exact g.step hst
  refine ⟨?_, ?_, ?_, ?_, ?_, by simp; omega, ?_, ?_, ?_, ?_⟩
  · cases q with
    | nil => simp at hlen
    | cons a r => simpa using h.head
  · intro j hj'
    rcases List.mem_append.1 hj' with g | g
    · exact h.lt j g
    · simp at g; subst g; exact ht
  · intro j
    rw [hm', hdr, List.mem_append, h.inq]
    simp
  · intro j hj'
    rcases (hm' j).1 hj' with g | g
    · exact h.got j g
    · subst g; exact hrt
  · rw [hdr]
    refine List.nodup_append.2 ⟨h.nodup, by simp, fun a ha b hb hab => ?_⟩
    simp at hb
    subst hab
    subst hb
    rw [(h.inq a).2 ha] at hm
    cases hm
  · rw [htk]; exact fun j hj' m hs' => (hm' m).2 (.inl (h.did j hj' m hs'))
  · refine ⟨by rw [hgk]; exact hj, ?_⟩
    simp only [hgk]
    exact hds
  · intro d hd m hml hsm
    rcases (mem_take_succ hc).1 hd with g | g
    · exact (hm' m).2 (.inl (h.did2 d g m hml hsm))
    · subst g; exact (hm' m).2 (.inr (graph_uniq hg hml ht hsm hs))
  · rw [h.ok, htk]
    refine and_congr_right (fun _ => ⟨fun g d hd => ?_, fun g d hd => g d ((mem_take_succ hc).2 (.inl hd))⟩)
    rcases (mem_take_succ hc).1 hd with g1 | g1
    · exact g d g1
    · subst g1; exact hasI_yes ht hs

theorem Met2.leave {l : List MItem} {i : Nat} {q : List Nat} {k : Nat} {ds : List MDot} {c : Nat} {met : Nat → Bool} {whole : Bool} (h : Met2 l i q k ds c met whole) (hc : ds.length ≤ c) : Met l i q (k + 1) met whole := by
  have htc : ds.take c = ds := List.take_of_length_le hc
  have hd2 := h.did2
  have hok := h.ok
  rw [htc] at hd2 hok
  obtain ⟨hj, hds⟩ := h.now
  refine ⟨h.head, h.lt, h.inq, h.got, h.nodup, fun j hj' m hs => ?_, hok.trans ⟨fun g j hj' => ?_, fun g => ⟨fun j hj' => g j ((mem_take_succ h.kl).2 (.inl hj')), fun d hd => ?_⟩⟩⟩
  · rcases (mem_take_succ h.kl).1 hj' with g | g
    · exact h.did j g m hs
    · subst g
      obtain ⟨_, hml, d, hd, hsm⟩ := hs
      rw [hds] at hd
      exact hd2 d hd m hml hsm
  · rcases (mem_take_succ h.kl).1 hj' with g1 | g1
    · exact g.1 j g1
    · subst g1
      rintro ⟨_, d, hd, hn⟩
      rw [hds] at hd
      rw [g.2 d hd] at hn
      cases hn
  · have h1 := g (q[k]'h.kl) ((mem_take_succ h.kl).2 (.inr rfl))
    rcases hh : hasI l d with _ | _
    · exact absurd ⟨hj, d, by rw [hds]; exact hd, hh⟩ h1
    · rfl

theorem Met.start {l : List MItem} {i : Nat} (hi : i < l.length) : Met l i [i] 0 (fun _ => false) true :=
  ⟨rfl, (fun j hj => by simp at hj; subst hj; exact hi), (fun j => by simp), (fun j hj => by cases hj), (by simp), (fun j hj => by simp at hj), (by simp)⟩
theorem Met.len {l : List MItem} {i : Nat} {q : List Nat} {k : Nat} {met : Nat → Bool} {whole : Bool} (h : Met l i q k met whole) : q.length ≤ l.length + 1 := by
  have h1 : (q.drop 1).length ≤ (List.range l.length).length := (h.nodup).length_le_of_subset (fun x hx => List.mem_range.2 (h.lt x (List.mem_of_mem_drop hx)))
  simp at h1
  omega

theorem Met2.len {l : List MItem} {i : Nat} {q : List Nat} {k : Nat} {ds : List MDot} {c : Nat} {met : Nat → Bool} {whole : Bool} (h : Met2 l i q k ds c met whole) : q.length ≤ l.length + 1 := by
  have h1 : (q.drop 1).length ≤ (List.range l.length).length := (h.nodup).length_le_of_subset (fun x hx => List.mem_range.2 (h.lt x (List.mem_of_mem_drop hx)))
  simp at h1
  omega
theorem graph_item {l : List MItem} (h : graphP ⟨l⟩ = true) (i : Nat) (hi : i < l.length) : itemP l[i] = true := by
  have h' : (decide (l.length ≤ 100) && upOk itemP itemLt l) = true := h
  rw [Bool.and_eq_true] at h'
  have hs := upOk_at h'.2 hi
  rcases hh : itemP l[i] with _ | _
  · rw [stepOk_bad hi hh] at hs; cases hs
  · rfl
theorem graph_deps {l : List MItem} (h : graphP ⟨l⟩ = true) (i : Nat) (hi : i < l.length) : l[i].fDeps.length ≤ 60 := by
  have h1 : (dotOkP l[i].fD && (decide (l[i].fDeps.length ≤ 60) && upOk dotOkP dotLt l[i].fDeps) && !hasD l[i].fDeps l[i].fD) = true := graph_item h i hi
  rw [Bool.and_eq_true, Bool.and_eq_true, Bool.and_eq_true] at h1
  exact of_decide_eq_true h1.1.2.1

def boolC (bs : List Bool) : List Value := bs.map Value.bool
def natC (q : List Nat) : List Value := q.map (fun (j : Nat) => Value.int .i64 (j : Int))
def RSt (g n : Nat) (w2 : World) (bs : List Bool) (q : List Nat) (qv : Value) (W : World) : Prop :=
  bs.length = n ∧ Bw W g 4 (boolC bs) ∧ W.ownsRow (g + 1) 3 1 qv q.length (natC q) ∧ Below g w2 W ∧ g < w2.heap.size
theorem RSt.under {g n : Nat} {w2 W W' : World} {bs : List Bool} {q : List Nat} {qv : Value} (h : RSt g n w2 bs q qv W) (hb : Below W.heap.size W W') : RSt g n w2 bs q qv W' := by
  obtain ⟨h1, h2, h3, h4, h5⟩ := h
  have hl := h2.lt
  exact ⟨h1, h2.under hb, own_below h3 hb, h4.trans (hb.mono (by omega)), h5⟩
theorem RSt.app {g n : Nat} {w2 W W' : World} {bs : List Bool} {q : List Nat} {qv v' : Value} (h : RSt g n w2 bs q qv W) {t : Nat} (ho : W'.ownsRow (g + 1) 3 1 v' (q.length + 1) (natC q ++ [.int .i64 (t : Int)])) (hg : W.grownBy W' qv.ownBlock) : RSt g n w2 bs (q ++ [t]) v' W' := by
  obtain ⟨h1, h2, h3, h4, h5⟩ := h
  have hl := h2.lt
  have hne : ∀ k, qv.ownBlock = some k → g + 1 ≤ k := fun k hk => (h3.lt k hk).1
  refine ⟨h1, (hg.block g hl (fun e => by have := hne g e.symm; omega)).trans h2, ?_, h4.grown hg (by have := h4.size; omega) (fun k hk => by have := hne k hk; omega), h5⟩
  have e1 : (q ++ [t]).length = q.length + 1 := by simp
  have e2 : natC (q ++ [t]) = natC q ++ [.int .i64 (t : Int)] := by unfold natC; simp
  rw [e1, e2]
  exact ho

def rowC (n : Nat) (gs : List Nat) : List Value := gs.map (fun (g : Nat) => Value.slice (some ⟨g, 0, none⟩) n n)
/-- Rows of flags: one a place, of what is reached from it; and which are whole. -/
structure AllSt (l : List MItem) (B : Nat) (w2 : World) (n k : Nat) (gs : List Nat) (bss : List (List Bool)) (ws : List Bool) (vr vw : Value) (W : World) : Prop where
  glen : gs.length = k
  blen : bss.length = k
  wlen : ws.length = k
  rrow : W.ownsRow B 58 1 vr k (rowC n gs)
  wrow : W.ownsRow B 4 1 vw k (boolC ws)
  dis : ∀ b, vr.ownBlock = some b → vw.ownBlock ≠ some b
  each : ∀ j, (hj : j < gs.length) → (hb : j < bss.length) → Bw W gs[j] 4 (boolC bss[j]) ∧ vr.ownBlock ≠ some gs[j] ∧ vw.ownBlock ≠ some gs[j] ∧ B ≤ gs[j] ∧ bss[j].length = n ∧ ∀ x, bss[j].getD x false = true ↔ Reach l j x
  who : ∀ j, j < k → (ws.getD j false = true ↔ wholeAt l j)
  low : Below B w2 W
  base : B ≤ w2.heap.size

theorem AllSt.under {l : List MItem} {B : Nat} {w2 W W' : World} {n k : Nat} {gs : List Nat} {bss : List (List Bool)} {ws : List Bool} {vr vw : Value} (h : AllSt l B w2 n k gs bss ws vr vw W) (hb : Below W.heap.size W W') : AllSt l B w2 n k gs bss ws vr vw W' :=
  ⟨h.glen, h.blen, h.wlen, own_below h.rrow hb, own_below h.wrow hb, h.dis, fun j hj hb' => by
    obtain ⟨h1, h2⟩ := h.each j hj hb'
    exact ⟨h1.under hb, h2⟩, h.who, h.low.trans (hb.mono (Nat.le_trans h.base h.low.size)), h.base⟩

/-- Both rows longer by one. -/
theorem AllSt.push {l : List MItem} {B : Nat} {w2 W W1 W2 W3 : World} {n k : Nat} {gs : List Nat} {bss : List (List Bool)} {ws : List Bool} {vr vw vr' vw' : Value} (h : AllSt l B w2 n k gs bss ws vr vw W) {g : Nat} {bs : List Bool} {b : Bool}
    (hg : Bw W g 4 (boolC bs)) (hgv : vr.ownBlock ≠ some g) (hgw : vw.ownBlock ≠ some g) (hgB : B ≤ g) (hbl : bs.length = n) (hbs : ∀ x, bs.getD x false = true ↔ Reach l k x) (hb : b = true ↔ wholeAt l k)
    (hr : W1.ownsRow B 58 1 vr' (k + 1) (rowC n gs ++ [.slice (some ⟨g, 0, none⟩) n n])) (hg1 : W.grownBy W1 vr.ownBlock) (hat : vr'.ownBlock = vr.ownBlock ∨ vr'.ownBlock = some W.heap.size) (hb12 : Below W1.heap.size W1 W2)
    (hw : W3.ownsRow B 4 1 vw' (k + 1) (boolC ws ++ [.bool b])) (hg3 : W2.grownBy W3 vw.ownBlock) (hat3 : vw'.ownBlock = vw.ownBlock ∨ vw'.ownBlock = some W2.heap.size) : AllSt l B w2 n (k + 1) (gs ++ [g]) (bss ++ [bs]) (ws ++ [b]) vr' vw' W3 := by
  have hBW : B ≤ W.heap.size := Nat.le_trans h.base h.low.size
  have hW1 : W.heap.size ≤ W1.heap.size := hg1.size
  have hW2 : W1.heap.size ≤ W2.heap.size := hb12.size
  have hW3 : W2.heap.size ≤ W3.heap.size := hg3.size
  have keep : ∀ x, x < W.heap.size → vr.ownBlock ≠ some x → vw.ownBlock ≠ some x → W3.heap[x]? = W.heap[x]? := fun x hx h1 h2 => by
    rw [hg3.block x (by omega) (fun e => h2 e.symm), hb12.block x (by omega), hg1.block x hx (fun e => h1 e.symm)]
  have hwl : ∀ x, vw.ownBlock = some x → x < W.heap.size := fun x hx => (h.wrow.lt x hx).2
  have hrl : ∀ x, vr.ownBlock = some x → x < W.heap.size := fun x hx => (h.rrow.lt x hx).2
  have hdis : ∀ x, vr'.ownBlock = some x → vw.ownBlock ≠ some x := fun x hx hy => by
    rcases hat with e | e
    · exact h.dis x (e ▸ hx) hy
    · have := hwl x hy
      rw [hx] at e
      simp at e
      omega
  have hrb : ∀ x, vr'.ownBlock = some x → x < W1.heap.size := fun x hx => (hr.lt x hx).2
  refine ⟨by simp [h.glen], by simp [h.blen], by simp [h.wlen], ?_, ?_, ?_, ?_, ?_, ?_, h.base⟩
  · have e1 : rowC n (gs ++ [g]) = rowC n gs ++ [.slice (some ⟨g, 0, none⟩) n n] := by unfold rowC; simp
    rw [e1]
    exact own_of_block hr (fun x hx => by rw [hg3.block x (by have := hrb x hx; omega) (fun e => hdis x hx e.symm), hb12.block x (hrb x hx)])
  · have e1 : boolC (ws ++ [b]) = boolC ws ++ [.bool b] := by unfold boolC; simp
    rw [e1]
    exact hw
  · intro x hx hy
    rcases hat3 with e | e
    · exact hdis x hx (e ▸ hy)
    · have := hrb x hx
      rw [hy] at e
      simp at e
      omega
  · intro j hj hjb
    have hnew : ∀ x, x < W.heap.size → vr.ownBlock ≠ some x → vw.ownBlock ≠ some x → vr'.ownBlock ≠ some x ∧ vw'.ownBlock ≠ some x := fun x hx h1 h2 => by
      refine ⟨fun e => ?_, fun e => ?_⟩
      · rcases hat with f | f
        · exact h1 (f ▸ e)
        · rw [e] at f; simp at f; omega
      · rcases hat3 with f | f
        · exact h2 (f ▸ e)
        · rw [e] at f; simp at f; omega
    by_cases hjk : j < k
    · have hj1 : j < gs.length := by rw [h.glen]; exact hjk
      have hj2 : j < bss.length := by rw [h.blen]; exact hjk
      rw [List.getElem_append_left hj1, List.getElem_append_left hj2]
      obtain ⟨h1, h2, h3, h4, h5, h6⟩ := h.each j hj1 hj2
      have hn := hnew gs[j] h1.lt h2 h3
      exact ⟨(keep gs[j] h1.lt h2 h3).trans h1, hn.1, hn.2, h4, h5, h6⟩
    · have hje : j = k := by simp [h.glen] at hj; omega
      have e1 : (gs ++ [g])[j] = g := by rw [List.getElem_append_right (by rw [h.glen]; omega)]; simp
      have e2 : (bss ++ [bs])[j] = bs := by rw [List.getElem_append_right (by rw [h.blen]; omega)]; simp
      rw [e1, e2]
      have hn := hnew g hg.lt hgv hgw
      subst hje
      exact ⟨(keep g hg.lt hgv hgw).trans hg, hn.1, hn.2, hgB, hbl, hbs⟩
  · intro j hj
    rw [List.getD_eq_getElem?_getD]
    by_cases hjk : j < k
    · rw [List.getElem?_append_left (by rw [h.wlen]; exact hjk), ← List.getD_eq_getElem?_getD]
      exact h.who j hjk
    · have hje : j = k := by omega
      subst hje
      rw [List.getElem?_append_right (by rw [h.wlen]; omega), h.wlen, Nat.sub_self]
      simpa using hb
  · exact ((h.low.grown hg1 hBW (fun x hx => (h.rrow.lt x hx).1)).trans (hb12.mono (by omega))).grown hg3 (by omega) (fun x hx => (h.wrow.lt x hx).1)


/-- The dots at those of the first k places that P takes. -/
def pickT (P : Nat → Bool) (l : List MItem) : Nat → List MDot
  | 0 => []
  | k + 1 => pickT P l k ++ (bif P k then (l[k]?.map MItem.fD).toList else [])
theorem pickT_yes {P : Nat → Bool} {l : List MItem} {k : Nat} (hk : k < l.length) (h : P k = true) : pickT P l (k + 1) = pickT P l k ++ [l[k].fD] := by
  simp only [pickT, h, cond_true, List.getElem?_eq_getElem hk]
  rfl
theorem pickT_no {P : Nat → Bool} {l : List MItem} {k : Nat} (h : P k = false) : pickT P l (k + 1) = pickT P l k := by simp only [pickT, h, cond_false, List.append_nil]
theorem pickT_congr {P Q : Nat → Bool} {l : List MItem} : ∀ {k : Nat}, (∀ j, j < k → P j = Q j) → pickT P l k = pickT Q l k
  | 0, _ => rfl
  | k + 1, h => by
    have ih := pickT_congr (P := P) (Q := Q) (l := l) (k := k) (fun j hj => h j (by omega))
    have hk := h k (by omega)
    simp only [pickT, ih, hk]
theorem pickT_len (P : Nat → Bool) (l : List MItem) (k : Nat) : (pickT P l k).length ≤ k := by
  induction k with
  | zero => simp [pickT]
  | succ k ih =>
    rcases h : P k with _ | _
    · rw [pickT_no h]; omega
    · simp only [pickT, h, cond_true, List.length_append]
      have : (l[k]?.map MItem.fD).toList.length ≤ 1 := by cases l[k]? <;> simp
      omega
/-- What Whole answers. -/
def WholeL (m : MGraph) (L : List MDot) : Prop := (graphP m = false ∧ L = []) ∨ (graphP m = true ∧ ∃ P : Nat → Bool, (∀ j, j < m.fItems.length → (P j = true ↔ wholeAt m.fItems j)) ∧ L = pickT P m.fItems m.fItems.length)
theorem WholeL.one {m : MGraph} {L K : List MDot} (h : WholeL m L) (k : WholeL m K) : L = K := by
  rcases h with ⟨h1, rfl⟩ | ⟨h1, P, hP, rfl⟩ <;> rcases k with ⟨k1, rfl⟩ | ⟨k1, Q, hQ, rfl⟩
  · rfl
  · rw [h1] at k1; cases k1
  · rw [h1] at k1; cases k1
  · refine pickT_congr (fun j hj => ?_)
    have h2 := (hP j hj).trans (hQ j hj).symm
    rcases h3 : P j with _ | _ <;> rcases h4 : Q j with _ | _
    · rfl
    · rw [h3, h4] at h2; exact absurd (h2.2 rfl) (by decide)
    · rw [h3, h4] at h2; exact absurd (h2.1 rfl) (by decide)
    · rfl

structure MSet where
  x0 : Nat
  x1 : Nat
def MSet.ok (s : MSet) : Prop := s.x0 < 18446744073709551616 ∧ s.x1 < 18446744073709551616
def MSet.has (s : MSet) (k : Nat) : Bool := bif decide (k < 64) then s.x0.testBit k else s.x1.testBit (k - 64)
def MSet.cells (s : MSet) : List Value := [.int .u64 (s.x0 : Int), .int .u64 (s.x1 : Int)]
theorem MSet.has_lo {s : MSet} {k : Nat} (h : k < 64) : s.has k = s.x0.testBit k := by unfold MSet.has; rw [decide_eq_true h]; rfl
theorem MSet.has_hi {s : MSet} {k : Nat} (h : ¬ k < 64) : s.has k = s.x1.testBit (k - 64) := by unfold MSet.has; rw [decide_eq_false h]; rfl

theorem word_bit {x k : Nat} (hx : x < 18446744073709551616) : (bits BinOp.and IntKind.u64 ((x : Int) / 2 ^ k) 1 == 1) = x.testBit k := by
  have e1 : ((x : Int) / 2 ^ k) = ((x / 2 ^ k : Nat) : Int) := by rw [Int.natCast_ediv, Int.natCast_pow]; rfl
  have hle : x / 2 ^ k < 18446744073709551616 := Nat.lt_of_le_of_lt (Nat.div_le_self _ _) hx
  have e2 := bits_and_u64_nat (x / 2 ^ k) 1 hle (by omega)
  rw [e1]
  have e3 : (1 : Int) = ((1 : Nat) : Int) := rfl
  rw [e3, e2]
  have e4 : x.testBit k = decide (x / 2 ^ k % 2 = 1) := Nat.testBit_eq_decide_div_mod_eq
  rw [e4, Nat.and_one_is_mod]
  by_cases h : x / 2 ^ k % 2 = 1
  · rw [h]; simp
  · rw [decide_eq_false h]
    have h0 : x / 2 ^ k % 2 = 0 := by omega
    rw [h0]; rfl

set_option maxHeartbeats 1000000 in
theorem has_any (s : MSet) (k : Nat) (w : World) (hs : s.ok) (hk : k < 128) :
    Calls Tryd.prog 46 #[.agg s.cells.toArray, .int .i64 k] w fun e w' => e = .returned (.bool (s.has k)) ∧ Below w.heap.size w w' := by
  obtain ⟨X0, X1⟩ := s
  obtain ⟨h0, h1⟩ := hs
  show Calls Tryd.prog 46 #[.agg #[.int .u64 (X0 : Int), .int .u64 (X1 : Int)], .int .i64 (k : Int)] w _
  by_cases hlo : k < 64
  · have HV : Hid (MSet.has ⟨X0, X1⟩ k = (bits BinOp.and IntKind.u64 ((X0 : Int) / 2 ^ k) 1 == 1)) := by unfold Hid; rw [MSet.has_lo hlo, word_bit h0]
    have hd : (k : Int) / 64 = 0 := by omega
    have hm : (k : Int) % 64 = (k : Int) := by omega
    go_enter Tryd.func46, Tryd.ntmps46
    go_wp2_with fail
    go_ret
    exact ⟨by rw [HV.out]; rfl, (Below.refl _ _).alloc (Nat.le_refl _) _⟩
  · obtain ⟨j, rfl⟩ : ∃ j, k = j + 64 := ⟨k - 64, by omega⟩
    have HV : Hid (MSet.has ⟨X0, X1⟩ (j + 64) = (bits BinOp.and IntKind.u64 ((X1 : Int) / 2 ^ j) 1 == 1)) := by unfold Hid; rw [MSet.has_hi hlo, word_bit h1]; rfl
    have hd : ((j : Int) + 64) / 64 = 1 := by omega
    have hm : ((j : Int) + 64) % 64 = (j : Int) := by omega
    go_enter Tryd.func46, Tryd.ntmps46
    go_wp2_with fail
    go_ret
    exact ⟨by rw [HV.out]; rfl, (Below.refl _ _).alloc (Nat.le_refl _) _⟩

end Go.Proofs.YtmigamgcmhdncaaDoor
