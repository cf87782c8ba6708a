/-
  Part 2 of the texts that the proof leans on.
-/
import Derived.Test.YtmigamgcmhdncaaDoorOfn0
import Derived.Test.YtmigamgcmhdncaaDoorRows
import Derived.Test.YtmigamgcmhdncaaDoorChecked
set_option linter.unusedVariables false
set_option linter.unusedSimpArgs false
set_option maxRecDepth 10000

namespace Go.Proofs.YtmigamgcmhdncaaDoor
open Go.RowKit

/-- How cells stand for something of type α, in memory below block B. -/
abbrev Rep (α : Type) := Nat → World → List Value → α → Prop
/-- The same, owned: all blocks that it leads to are listed. -/
abbrev ORep (α : Type) := World → List Value → α → List Nat → Prop

structure Rep.Good {α : Type} (R : Rep α) : Prop where
  below : ∀ {B w w' cs m}, R B w cs m → Below B w w' → R B w' cs m
  mono : ∀ {B B' w cs m}, R B w cs m → B ≤ B' → R B' w cs m

structure ORep.Good {α : Type} (O : ORep α) (R : Rep α) (size : Nat) : Prop where
  frame : ∀ {w w' cs m F}, O w cs m F → (∀ k, k ∈ F → w'.heap[k]? = w.heap[k]?) → O w' cs m F
  lt : ∀ {w cs m F}, O w cs m F → ∀ k, k ∈ F → k < w.heap.size
  read : ∀ {w cs m F}, O w cs m F → R w.heap.size w cs m
  len : ∀ {w cs m F}, O w cs m F → cs.length = size

/-- Elements of 'size' cells each behind an address. -/
def RdS {α : Type} (size : Nat) (R : Rep α) (B : Nat) (w : World) (a : Option Addr) (l : List α) : Prop :=
  ∀ j, (h : j < l.length) → ∃ b off, a = some ⟨b, off, none⟩ ∧ b < B ∧ ∃ cs : List Value, cs.length = size ∧ (∀ i u, cs[i]? = some u → w.cell? ⟨b, off + j * size + i, none⟩ = some u) ∧ R B w cs l[j]

theorem RdS.below {α : Type} {size : Nat} {R : Rep α} (hR : R.Good) {B : Nat} {w w' : World} {a : Option Addr} {l : List α} (h : RdS size R B w a l) (hb : Below B w w') : RdS size R B w' a l := by
  intro j hj
  obtain ⟨b, off, e, hB, cs, h1, h2, h3⟩ := h j hj
  exact ⟨b, off, e, hB, cs, h1, fun i u hu => (hb.cell (p := ⟨b, off + j * size + i, none⟩) hB).trans (h2 i u hu), hR.below h3 hb⟩

theorem RdS.mono {α : Type} {size : Nat} {R : Rep α} (hR : R.Good) {B B' : Nat} {w : World} {a : Option Addr} {l : List α} (h : RdS size R B w a l) (hB : B ≤ B') : RdS size R B' w a l := by
  intro j hj
  obtain ⟨b, off, e, hb, cs, h1, h2, h3⟩ := h j hj
  exact ⟨b, off, e, by omega, cs, h1, h2, hR.mono h3 hB⟩

theorem own_of_block {w w' : World} {base e size n : Nat} {v : Value} {xs : List Value} (h : w.ownsRow base e size v n xs) (hb : ∀ k, v.ownBlock = some k → w'.heap[k]? = w.heap[k]?) : w'.ownsRow base e size v n xs := by
  refine ⟨h.1, ?_⟩
  rcases h.2 with h' | ⟨g, cap, cur, rfl, hg, hh, rest⟩
  · exact .inl h'
  · exact .inr ⟨g, cap, cur, rfl, hg, by rw [hb g rfl]; exact hh, rest⟩

/-- A slice of bytes of one's own. -/
def ownB (e : TypeId) (w : World) (v : Value) (zs : List Int) (F : List Nat) : Prop :=
  w.ownsRow 0 e 1 v zs.length (zs.map (Value.int .u8)) ∧ BytesOk zs ∧ F = v.ownBlock.toList

theorem ownB.frame {e : TypeId} {w w' : World} {v : Value} {zs : List Int} {F : List Nat} (h : ownB e w v zs F) (hb : ∀ k, k ∈ F → w'.heap[k]? = w.heap[k]?) : ownB e w' v zs F := by
  obtain ⟨h1, h2, rfl⟩ := h
  exact ⟨own_of_block h1 (fun k hk => hb k (by simp [hk])), h2, rfl⟩

theorem ownB.lt {e : TypeId} {w : World} {v : Value} {zs : List Int} {F : List Nat} (h : ownB e w v zs F) : ∀ k, k ∈ F → k < w.heap.size := by
  obtain ⟨h1, h2, rfl⟩ := h
  intro k hk
  exact (h1.lt k (by simpa using hk)).2

theorem ownB.read {e : TypeId} {w : World} {v : Value} {zs : List Int} {F : List Nat} (h : ownB e w v zs F) :
    ∃ a c, v = .slice a zs.length c ∧ zs.length ≤ c ∧ c ≤ 9223372036854775807 ∧ Rd .u8 w.heap.size w a zs ∧ BytesOk zs := by
  obtain ⟨h1, h2, rfl⟩ := h
  rcases h1.2 with ⟨rfl, h'⟩ | ⟨g, cap, cur, rfl, hb, hg, hnc, hm, _⟩
  · exact ⟨none, 0, by rw [h'], by omega, by omega, fun j hj => by omega, h2⟩
  · exact ⟨_, cap, rfl, hnc, by simpa [maxLen] using hm, Rd.own rfl h1, h2⟩

/-- A slice of structs of one's own: its row, and what each element leads to. -/
def ownS {α : Type} (size : Nat) (e : TypeId) (O : ORep α) (w : World) (v : Value) (l : List α) (F : List Nat) : Prop :=
  (v = .slice none 0 0 ∧ l = [] ∧ F = []) ∨
  ∃ g cap, ∃ cur : Array Value, ∃ Fs : List (List Nat), v = .slice (some ⟨g, 0, none⟩) l.length cap ∧ w.heap[g]? = some (.cells cur e (0, 0)) ∧ l.length ≤ cap ∧ cap ≤ maxLen ∧ cur.size = cap * size ∧ Fs.length = l.length ∧
    (∀ j, (h : j < l.length) → O w ((cur.toList.drop (j * size)).take size) l[j] (Fs.getD j [])) ∧ F = g :: Fs.flatten

theorem mem_flatten_getD {Fs : List (List Nat)} {j k : Nat} (hj : j < Fs.length) (h : k ∈ Fs.getD j []) : k ∈ Fs.flatten := by
  rw [List.getD_eq_getElem?_getD, List.getElem?_eq_getElem hj] at h
  exact List.mem_flatten.2 ⟨_, List.getElem_mem hj, h⟩

theorem of_mem_flatten {Fs : List (List Nat)} {k : Nat} (h : k ∈ Fs.flatten) : ∃ j, j < Fs.length ∧ k ∈ Fs.getD j [] := by
  obtain ⟨l, hl, hk⟩ := List.mem_flatten.1 h
  obtain ⟨j, hj, rfl⟩ := List.mem_iff_getElem.1 hl
  exact ⟨j, hj, by rw [List.getD_eq_getElem?_getD, List.getElem?_eq_getElem hj]; exact hk⟩

theorem ownS.frame {α : Type} {size : Nat} {e : TypeId} {O : ORep α} {R : Rep α} (hO : O.Good R size) {w w' : World} {v : Value} {l : List α} {F : List Nat} (h : ownS size e O w v l F) (hb : ∀ k, k ∈ F → w'.heap[k]? = w.heap[k]?) : ownS size e O w' v l F := by
  rcases h with h | ⟨g, cap, cur, Fs, h1, h2, h3, h4, h5, h6, h7, rfl⟩
  · exact .inl h
  · refine .inr ⟨g, cap, cur, Fs, h1, by rw [hb g (by simp)]; exact h2, h3, h4, h5, h6, fun j hj => hO.frame (h7 j hj) (fun k hk => hb k ?_), rfl⟩
    exact List.mem_cons_of_mem _ (mem_flatten_getD (by omega) hk)

theorem ownS.lt {α : Type} {size : Nat} {e : TypeId} {O : ORep α} {R : Rep α} (hO : O.Good R size) {w : World} {v : Value} {l : List α} {F : List Nat} (h : ownS size e O w v l F) : ∀ k, k ∈ F → k < w.heap.size := by
  rcases h with ⟨_, _, rfl⟩ | ⟨g, cap, cur, Fs, h1, h2, h3, h4, h5, h6, h7, rfl⟩
  · intro k hk; cases hk
  · intro k hk
    rcases List.mem_cons.1 hk with rfl | hk
    · exact (Array.getElem?_eq_some_iff.1 h2).1
    · obtain ⟨j, hj, hkj⟩ := of_mem_flatten hk
      exact hO.lt (h7 j (by omega)) k hkj

theorem ownS.read {α : Type} {size : Nat} {e : TypeId} {O : ORep α} {R : Rep α} (hO : O.Good R size) {w : World} {v : Value} {l : List α} {F : List Nat} (h : ownS size e O w v l F) :
    ∃ a c, v = .slice a l.length c ∧ l.length ≤ c ∧ c ≤ 9223372036854775807 ∧ RdS size R w.heap.size w a l := by
  rcases h with ⟨rfl, rfl, _⟩ | ⟨g, cap, cur, Fs, rfl, h2, h3, h4, h5, h6, h7, rfl⟩
  · exact ⟨none, 0, rfl, by simp, by omega, fun j hj => by simp at hj⟩
  · refine ⟨_, cap, rfl, h3, by simpa [maxLen] using h4, fun j hj => ⟨g, 0, rfl, (Array.getElem?_eq_some_iff.1 h2).1, _, hO.len (h7 j hj), ?_, hO.read (h7 j hj)⟩⟩
    intro i u hu
    rw [Nat.zero_add, cell_of_row w g _ cur e (0, 0) h2]
    rw [List.getElem?_take] at hu
    split at hu
    · rw [List.getElem?_drop] at hu
      simpa using hu
    · cases hu

/-- A row that is being filled, element by element: k of n are there. -/
structure Fill {α : Type} (size : Nat) (e : TypeId) (O : ORep α) (w : World) (g n : Nat) (l : List α) (k : Nat) (Fs : List (List Nat)) : Prop where
  row : ∃ cur : Array Value, w.heap[g]? = some (.cells cur e (0, 0)) ∧ cur.size = n * size ∧ ∀ j, (h : j < l.length) → j < k → O w ((cur.toList.drop (j * size)).take size) l[j] (Fs.getD j [])
  flen : Fs.length = k
  over : ∀ b, b ∈ Fs.flatten → g < b ∧ b < w.heap.size
  nodup : Fs.flatten.Nodup

theorem setCells_row' (g : Nat) (e : TypeId) : ∀ (news : List Value) (o : Nat) (w : World) (cur : Array Value), w.heap[g]? = some (.cells cur e (0, 0)) → o + news.length ≤ cur.size →
    ∃ cur' : Array Value, (w.setCells g o news).heap[g]? = some (.cells cur' e (0, 0)) ∧ cur'.size = cur.size ∧ cur'.toList = cur.toList.take o ++ news ++ cur.toList.drop (o + news.length)
  | [], o, w, cur, hg, _ => ⟨cur, hg, rfl, by simp⟩
  | u :: r, o, w, cur, hg, hfit => by
    have h1 := heap_setCell_same w g o cur e u hg
    obtain ⟨cur', h2, h3, h4⟩ := setCells_row' g e r (o + 1) (w.setCell ⟨g, o, none⟩ u) (cur.setIfInBounds o u) h1 (by simp at hfit ⊢; omega)
    refine ⟨cur', h2, by simpa using h3, ?_⟩
    have ho : o < cur.toList.length := by simp at hfit ⊢; omega
    have e0 : (cur.toList.set o u).take (o + 1) = cur.toList.take o ++ [u] := by
      rw [List.take_set, List.take_succ_eq_append_getElem ho, List.set_append_right _ _ (by simp; omega)]
      have e2 : o - (cur.toList.take o).length = 0 := by simp; omega
      rw [e2]
      simp
    have e3 : (cur.toList.set o u).drop (o + 1 + r.length) = cur.toList.drop (o + (u :: r).length) := by
      rw [List.drop_set_of_lt (by omega)]
      congr 1
      simp; omega
    rw [h4, Array.toList_setIfInBounds, e0, e3]
    simp

theorem heap_setCells_ne (g : Nat) : ∀ (news : List Value) (o : Nat) (w : World) (k : Nat), k ≠ g → (w.setCells g o news).heap[k]? = w.heap[k]?
  | [], _, _, _, _ => rfl
  | u :: r, o, w, k, hk => by
    show ((w.setCell ⟨g, o, none⟩ u).setCells g (o + 1) r).heap[k]? = _
    rw [heap_setCells_ne g r (o + 1) _ k hk]
    exact heap_setCell_other w ⟨g, o, none⟩ k u (fun e => hk e)

theorem size_setCells_w (g : Nat) : ∀ (news : List Value) (o : Nat) (w : World), (w.setCells g o news).heap.size = w.heap.size
  | [], _, _ => rfl
  | u :: r, o, w => by
    show ((w.setCell ⟨g, o, none⟩ u).setCells g (o + 1) r).heap.size = _
    rw [size_setCells_w g r (o + 1) _]
    simp

theorem Fill.step {α : Type} {size : Nat} {e : TypeId} {O : ORep α} {R : Rep α} (hO : O.Good R size) {w w1 : World} {g n k : Nat} {l : List α} {Fs : List (List Nat)} (h : Fill size e O w g n l k Fs) (hg : g < w.heap.size) (hk : k < l.length) (hkn : k < n)
    (hb : Below w.heap.size w w1) {cs : List Value} {F : List Nat} (ho : O w1 cs l[k] F) (hF : ∀ b, b ∈ F → w.heap.size ≤ b) (hN : F.Nodup) :
    Fill size e O (w1.setCells g (k * size) cs) g n l (k + 1) (Fs ++ [F]) := by
  obtain ⟨⟨cur, c1, c2, c3⟩, f1, f2, f3⟩ := h
  have hcl := hO.len ho
  have hfit : k * size + cs.length ≤ cur.size := by
    rw [hcl, c2, ← Nat.succ_mul]
    exact Nat.mul_le_mul_right _ hkn
  have c1' : w1.heap[g]? = some (.cells cur e (0, 0)) := by rw [hb.block g hg]; exact c1
  obtain ⟨cur', d1, d2, d3⟩ := setCells_row' g e cs (k * size) w1 cur c1' hfit
  have hFlt : ∀ b, b ∈ F → b < w1.heap.size := fun b hbF => hO.lt ho b hbF
  refine ⟨⟨cur', d1, by rw [d2, c2], ?_⟩, by simp [f1], ?_, ?_⟩
  · intro j hj hjk
    have hlen : cur.toList.length = n * size := by simpa using c2
    by_cases hjk' : j = k
    · subst hjk'
      have e1 : (cur'.toList.drop (j * size)).take size = cs := by
        rw [d3, List.append_assoc, List.drop_append, List.drop_eq_nil_of_le (by simp; omega), List.nil_append]
        have : j * size - (cur.toList.take (j * size)).length = 0 := by simp; omega
        rw [this, List.drop_zero, List.take_append, List.take_of_length_le (by omega), hcl, Nat.sub_self, List.take_zero, List.append_nil]
      have e2 : (Fs ++ [F]).getD j [] = F := by rw [List.getD_eq_getElem?_getD, List.getElem?_append_right (by omega), f1, Nat.sub_self]; rfl
      rw [e1, e2]
      exact hO.frame ho (fun b hbF => heap_setCells_ne g cs _ w1 b (by have := hF b hbF; omega))
    · have hlt : j < k := by omega
      have hmul : (j + 1) * size ≤ k * size := Nat.mul_le_mul_right _ hlt
      rw [Nat.succ_mul] at hmul
      have e1 : (cur'.toList.drop (j * size)).take size = (cur.toList.drop (j * size)).take size := by
        rw [d3, List.append_assoc]
        apply List.ext_getElem?
        intro i
        rw [List.getElem?_take, List.getElem?_take, List.getElem?_drop, List.getElem?_drop]
        by_cases hi : i < size
        · rw [if_pos hi, if_pos hi, List.getElem?_append_left (by simp; omega), List.getElem?_take, if_pos (by omega)]
        · rw [if_neg hi, if_neg hi]
      have e2 : (Fs ++ [F]).getD j [] = Fs.getD j [] := by rw [List.getD_eq_getElem?_getD, List.getD_eq_getElem?_getD, List.getElem?_append_left (by omega)]
      rw [e1, e2]
      have ho' := hO.frame (c3 j hj hlt) (w' := w1) (fun b hbF => hb.block b (hO.lt (c3 j hj hlt) b hbF))
      exact hO.frame ho' (fun b hbF => heap_setCells_ne g cs _ w1 b (by have := f2 b (mem_flatten_getD (by omega) hbF); omega))
  · intro b hbF
    rw [size_setCells_w]
    rw [List.flatten_append, List.mem_append] at hbF
    rcases hbF with hbF | hbF
    · have := f2 b hbF; have := hb.size; omega
    · have hbF : b ∈ F := by simpa using hbF
      have := hF b hbF; have := hFlt b hbF; omega
  · rw [List.flatten_append]
    refine List.nodup_append.2 ⟨f3, by simpa using hN, ?_⟩
    intro a ha b hb' hab
    subst hab
    have h1 := f2 a ha
    have h2 := hF a (by simpa using hb')
    omega

theorem Fill.done {α : Type} {size : Nat} {e : TypeId} {O : ORep α} {w : World} {g n : Nat} {l : List α} {Fs : List (List Nat)} (h : Fill size e O w g n l n Fs) (hn : l.length = n) (hm : n ≤ maxLen) :
    ownS size e O w (.slice (some ⟨g, 0, none⟩) n n) l (g :: Fs.flatten) ∧ (g :: Fs.flatten).Nodup := by
  obtain ⟨⟨cur, c1, c2, c3⟩, f1, f2, f3⟩ := h
  refine ⟨.inr ⟨g, n, cur, Fs, by rw [hn], c1, by omega, hm, c2, by rw [f1, hn], fun j hj => c3 j hj (by omega), rfl⟩, List.nodup_cons.2 ⟨fun hg => by have := f2 g hg; omega, f3⟩⟩

/-- The cell of a slice of bytes; of a slice of structs. -/
def LeafB (B : Nat) (w : World) (a : Option Addr) (c : Nat) (zs : List Int) : Prop := zs.length ≤ c ∧ c ≤ 9223372036854775807 ∧ Rd .u8 B w a zs ∧ BytesOk zs
def LeafL {α : Type} (size : Nat) (R : Rep α) (B : Nat) (w : World) (a : Option Addr) (c : Nat) (l : List α) : Prop := l.length ≤ c ∧ c ≤ 9223372036854775807 ∧ RdS size R B w a l

theorem LeafB.below {B : Nat} {w w' : World} {a : Option Addr} {c : Nat} {zs : List Int} (h : LeafB B w a c zs) (hb : Below B w w') : LeafB B w' a c zs := ⟨h.1, h.2.1, h.2.2.1.below hb, h.2.2.2⟩
theorem LeafB.mono {B B' : Nat} {w : World} {a : Option Addr} {c : Nat} {zs : List Int} (h : LeafB B w a c zs) (hB : B ≤ B') : LeafB B' w a c zs := ⟨h.1, h.2.1, h.2.2.1.mono hB, h.2.2.2⟩
theorem LeafL.below {α : Type} {size : Nat} {R : Rep α} (hR : R.Good) {B : Nat} {w w' : World} {a : Option Addr} {c : Nat} {l : List α} (h : LeafL size R B w a c l) (hb : Below B w w') : LeafL size R B w' a c l := ⟨h.1, h.2.1, h.2.2.below hR hb⟩
theorem LeafL.mono {α : Type} {size : Nat} {R : Rep α} (hR : R.Good) {B B' : Nat} {w : World} {a : Option Addr} {c : Nat} {l : List α} (h : LeafL size R B w a c l) (hB : B ≤ B') : LeafL size R B' w a c l := ⟨h.1, h.2.1, h.2.2.mono hR hB⟩
theorem LeafB.big {B : Nat} {w : World} {a : Option Addr} {c : Nat} {zs : List Int} (h : LeafB B w a c zs) : zs.length ≤ 9223372036854775807 := Nat.le_trans h.1 h.2.1
theorem LeafL.big {α : Type} {size : Nat} {R : Rep α} {B : Nat} {w : World} {a : Option Addr} {c : Nat} {l : List α} (h : LeafL size R B w a c l) : l.length ≤ 9223372036854775807 := Nat.le_trans h.1 h.2.1

/-- The sum of what elements weigh. -/
def sumW {α : Type} (f : α → Nat) : List α → Nat
  | [] => 0
  | m :: r => f m + sumW f r
theorem sumW_take_succ {α : Type} {f : α → Nat} {l : List α} {k : Nat} (h : k < l.length) : sumW f (l.take (k + 1)) = sumW f (l.take k) + f l[k] := by
  induction l generalizing k with
  | nil => simp at h
  | cons m r ih =>
    cases k with
    | zero => simp [sumW]
    | succ k => simp only [List.take_succ_cons, sumW, List.getElem_cons_succ]; rw [ih (by simpa using h)]; omega
theorem sumW_take_le {α : Type} (f : α → Nat) (l : List α) (k : Nat) : sumW f (l.take k) ≤ sumW f l := by
  induction l generalizing k with
  | nil => simp [sumW]
  | cons m r ih =>
    cases k with
    | zero => simp [sumW]
    | succ k => simp only [List.take_succ_cons, sumW]; have := ih k; omega
theorem sumW_le {α : Type} {f : α → Nat} {l : List α} {k : Nat} (h : k < l.length) : f l[k] ≤ sumW f l := by
  have h1 := sumW_take_succ (f := f) h
  have h2 := sumW_take_le f l (k + 1)
  omega

/-- From block X on nothing that was there has turned. -/
structure Above (X : Nat) (w w' : World) : Prop where
  size : w.heap.size ≤ w'.heap.size
  block : ∀ b, X ≤ b → b < w.heap.size → w'.heap[b]? = w.heap[b]?

theorem Above.refl (X : Nat) (w : World) : Above X w w := ⟨Nat.le_refl _, fun _ _ _ => rfl⟩
theorem Above.trans {X : Nat} {a b c : World} (h : Above X a b) (k : Above X b c) : Above X a c := ⟨Nat.le_trans h.size k.size, fun i hX hi => (k.block i hX (Nat.lt_of_lt_of_le hi h.size)).trans (h.block i hX hi)⟩
theorem Above.setCell {X : Nat} {a w : World} (h : Above X a w) {p : Addr} (hp : p.block < X) (u : Value) : Above X a (w.setCell p u) :=
  h.trans ⟨by simp, fun k hX _ => Below.heap_setCell _ _ _ _ (by omega)⟩
theorem Above.below {X : Nat} {w w' : World} (h : Below w.heap.size w w') : Above X w w' := ⟨h.size, fun b _ hb => h.block b hb⟩

/-- A row of zeros, nothing filled yet. -/
theorem Fill.start {α : Type} {size : Nat} {e : TypeId} {O : ORep α} {w : World} {g n base : Nat} {l : List α} {xs : List Value} (h : w.ownsRow base e size (.slice (some ⟨g, 0, none⟩) n n) n xs) : Fill size e O w g n l 0 [] := by
  rcases h.2 with ⟨h', _⟩ | ⟨g', cap, cur, h', hb, hg, hnc, hm, hs, _⟩
  · simp at h'
  · simp only [Value.slice.injEq, Option.some.injEq, Addr.mk.injEq, and_true, true_and] at h'
    obtain ⟨rfl, rfl⟩ := h'
    exact ⟨⟨cur, hg, hs, fun j _ hj => by omega⟩, rfl, fun b hb => by simp at hb, by simp⟩

theorem Fill.keep {α : Type} {size : Nat} {e : TypeId} {O : ORep α} {R : Rep α} (hO : O.Good R size) {w w1 : World} {g n k : Nat} {l : List α} {Fs : List (List Nat)} (h : Fill size e O w g n l k Fs) (hg : g < w.heap.size) (hb : Below w.heap.size w w1) : Fill size e O w1 g n l k Fs := by
  obtain ⟨⟨cur, c1, c2, c3⟩, f1, f2, f3⟩ := h
  exact ⟨⟨cur, by rw [hb.block g hg]; exact c1, c2, fun j hj hjk => hO.frame (c3 j hj hjk) (fun b hbF => hb.block b (hO.lt (c3 j hj hjk) b hbF))⟩, f1, fun b hbF => ⟨(f2 b hbF).1, Nat.lt_of_lt_of_le (f2 b hbF).2 hb.size⟩, f3⟩

theorem Fill.cells {α : Type} {size : Nat} {e : TypeId} {O : ORep α} {w : World} {g n k : Nat} {l : List α} {Fs : List (List Nat)} (h : Fill size e O w g n l k Fs) (hk : k < n) (i : Nat) (hi : i < size) : ∃ u, w.cell? ⟨g, k * size + i, none⟩ = some u := by
  obtain ⟨⟨cur, c1, c2, _⟩, _, _, _⟩ := h
  have hm : (k + 1) * size ≤ n * size := Nat.mul_le_mul_right _ hk
  rw [Nat.succ_mul] at hm
  exact ⟨_, by rw [cell_of_row w g _ cur e (0, 0) c1]; exact Array.getElem?_eq_getElem (by omega)⟩

theorem Fill.free {α : Type} {size : Nat} {e : TypeId} {O : ORep α} {w : World} {g n k : Nat} {l : List α} {Fs : List (List Nat)} (h : Fill size e O w g n l k Fs) (j : Nat) : w.frozen? ⟨g, j, none⟩ = false := by
  obtain ⟨⟨cur, c1, _, _⟩, _, _, _⟩ := h
  exact frozen_of_row w g j cur e c1


/-- Blocks of F alone have turned; new ones may have come. -/
structure Turn (F : List Nat) (w w' : World) : Prop where
  os : w'.os = w.os
  tape : w'.tape = w.tape
  output : w'.output = w.output
  size : w.heap.size ≤ w'.heap.size
  block : ∀ b, b < w.heap.size → b ∉ F → w'.heap[b]? = w.heap[b]?

theorem Turn.refl (F : List Nat) (w : World) : Turn F w w := ⟨rfl, rfl, rfl, Nat.le_refl _, fun _ _ _ => rfl⟩
theorem Turn.trans {F : List Nat} {a b c : World} (h : Turn F a b) (k : Turn F b c) : Turn F a c :=
  ⟨k.os.trans h.os, k.tape.trans h.tape, k.output.trans h.output, Nat.le_trans h.size k.size, fun i hi hF => (k.block i (Nat.lt_of_lt_of_le hi h.size) hF).trans (h.block i hi hF)⟩
theorem Turn.mono {F G : List Nat} {a b : World} (h : Turn F a b) (hF : ∀ k, k ∈ F → k ∈ G) : Turn G a b :=
  ⟨h.os, h.tape, h.output, h.size, fun i hi hG => h.block i hi (fun hk => hG (hF i hk))⟩
theorem Turn.ofBelow {F : List Nat} {a b : World} (h : Below a.heap.size a b) : Turn F a b := ⟨h.os, h.tape, h.output, h.size, fun i hi _ => h.block i hi⟩
theorem Turn.below {F : List Nat} {B : Nat} {a b : World} (h : Turn F a b) (hF : ∀ k, k ∈ F → B ≤ k) (hB : B ≤ a.heap.size) : Below B a b :=
  ⟨h.os, h.tape, h.output, h.size, fun i hi => h.block i (Nat.lt_of_lt_of_le hi hB) (fun hk => by have := hF i hk; omega)⟩
theorem Turn.setCell {F : List Nat} {a b : World} (h : Turn F a b) {p : Addr} (hp : p.block ∈ F) (u : Value) : Turn F a (b.setCell p u) := by
  refine h.trans ⟨?_, ?_, ?_, by simp, fun i hi hF => heap_setCell_other b p i u (fun e => hF (e ▸ hp))⟩
  all_goals
    have hb := (Below.refl 0 b).setCell (p := p) (Nat.zero_le _) u
  · exact hb.os
  · exact hb.tape
  · exact hb.output
theorem Turn.cell {F : List Nat} {w w' : World} (h : Turn F w w') {p : Addr} (hp : p.block < w.heap.size) (hF : p.block ∉ F) : w'.cell? p = w.cell? p := World.cell?_of_block (w := w) (h.block p.block hp hF)

theorem below_same {w w' : World} (h : w' = w) : Below w.heap.size w w' := by subst h; exact Below.refl _ _
theorem bthen {w w1 w2 : World} (h : Below w.heap.size w w1) (hx : Below w1.heap.size w1 w2) : Below w.heap.size w w2 := h.trans (hx.mono h.size)
theorem Turn.under {F : List Nat} {w w1 w2 : World} (h : Below w.heap.size w w1) (hx : Turn F w1 w2) (hF : ∀ k, k ∈ F → w.heap.size ≤ k) : Below w.heap.size w w2 := h.trans (hx.below hF h.size)

/-- A variable's block, cell by cell. -/
def Bx (w : World) (b : Nat) (vs : List Value) : Prop := b < w.heap.size ∧ ∀ i u, vs[i]? = some u → w.cell? ⟨b, i, none⟩ = some u

theorem Bx.new (w : World) (vs : List Value) (t : TypeId) : Bx (w.alloc (.cells vs.toArray t)) w.heap.size vs := by
  refine ⟨by simp, fun i u hu => ?_⟩
  rw [cell_of_row (w.alloc (.cells vs.toArray t)) w.heap.size i vs.toArray t (0, 0) (by show (w.heap.push _)[w.heap.size]? = _; rw [Array.getElem?_push_size])]
  simpa using hu
theorem Bx.alloc {w : World} {b : Nat} {vs : List Value} (h : Bx w b vs) (o : Obj) : Bx (w.alloc o) b vs :=
  ⟨by have := h.1; simp; omega, fun i u hu => by
    have hb := (Below.refl w.heap.size w).alloc (Nat.le_refl _) o
    exact (hb.cell (p := ⟨b, i, none⟩) h.1).trans (h.2 i u hu)⟩
theorem Bx.drewN {w : World} {b : Nat} {vs : List Value} (h : Bx w b vs) (d : Nat) : Bx (w.drewN d) b vs := h
theorem Bx.drew {w : World} {b : Nat} {vs : List Value} (h : Bx w b vs) : Bx w.drew b vs := h
theorem Bx.below {B : Nat} {w w' : World} {b : Nat} {vs : List Value} (h : Bx w b vs) (hb : Below B w w') (hB : b < B) : Bx w' b vs :=
  ⟨Nat.lt_of_lt_of_le h.1 hb.size, fun i u hu => (hb.cell (p := ⟨b, i, none⟩) hB).trans (h.2 i u hu)⟩
theorem Bx.under {w w' : World} {b : Nat} {vs : List Value} (h : Bx w b vs) (hb : Below w.heap.size w w') : Bx w' b vs := h.below hb h.1
theorem Bx.turn {F : List Nat} {w w' : World} {b : Nat} {vs : List Value} (h : Bx w b vs) (ht : Turn F w w') (hF : b ∉ F) : Bx w' b vs :=
  ⟨Nat.lt_of_lt_of_le h.1 ht.size, fun i u hu => (ht.cell (p := ⟨b, i, none⟩) h.1 hF).trans (h.2 i u hu)⟩

/-- The cells of element j. -/
def seg (size : Nat) (cur : Array Value) (j : Nat) : List Value := (cur.toList.drop (j * size)).take size

theorem seg_get {size : Nat} {cur : Array Value} {j i : Nat} (hi : i < size) : (seg size cur j)[i]? = cur[j * size + i]? := by
  unfold seg
  rw [List.getElem?_take, if_pos hi, List.getElem?_drop]
  simp

theorem seg_set {size : Nat} {cur : Array Value} {k i : Nat} (hi : i < size) (u : Value) : seg size (cur.setIfInBounds (k * size + i) u) k = (seg size cur k).set i u := by
  unfold seg
  rw [Array.toList_setIfInBounds]
  apply List.ext_getElem?
  intro j
  simp only [List.getElem?_take, List.getElem?_drop, List.getElem?_set, List.length_take, List.length_drop]
  by_cases hj : j < size
  · by_cases hij : i = j
    · subst hij
      by_cases hb : k * size + i < cur.toList.length
      · have hb' : i < min size (cur.toList.length - k * size) := by omega
        rw [if_pos hj, if_pos rfl, if_pos rfl, if_pos hb, if_pos hb']
      · have hb' : ¬ i < min size (cur.toList.length - k * size) := by omega
        rw [if_pos hj, if_pos rfl, if_pos rfl, if_neg hb, if_neg hb']
    · rw [if_pos hj, if_neg (by omega), if_neg hij, if_pos hj]
  · rw [if_neg hj, if_neg hj]
    split
    · split
      · omega
      · rfl
    · rfl

theorem seg_set_other {size : Nat} {cur : Array Value} {k i j : Nat} (hi : i < size) (hjk : j ≠ k) (u : Value) : seg size (cur.setIfInBounds (k * size + i) u) j = seg size cur j := by
  unfold seg
  rw [Array.toList_setIfInBounds]
  apply List.ext_getElem?
  intro x
  simp only [List.getElem?_take, List.getElem?_drop, List.getElem?_set]
  by_cases hx : x < size
  · rw [if_pos hx, if_pos hx, if_neg]
    intro h
    rcases Nat.lt_or_gt_of_ne hjk with h1 | h1
    · have := Nat.mul_le_mul_right size h1
      rw [Nat.succ_mul] at this
      omega
    · have := Nat.mul_le_mul_right size h1
      rw [Nat.succ_mul] at this
      omega
  · rw [if_neg hx, if_neg hx]

/-- A row of structs of one's own, laid open. -/
structure OwnRow {α : Type} (size : Nat) (e : TypeId) (O : ORep α) (w : World) (g cap : Nat) (l : List α) (cur : Array Value) (Fs : List (List Nat)) : Prop where
  heap : w.heap[g]? = some (.cells cur e (0, 0))
  le : l.length ≤ cap
  max : cap ≤ maxLen
  fit : cur.size = cap * size
  flen : Fs.length = l.length
  each : ∀ j, (h : j < l.length) → O w (seg size cur j) l[j] (Fs.getD j [])
  nodup : (g :: Fs.flatten).Nodup

theorem ownS.open {α : Type} {size : Nat} {e : TypeId} {O : ORep α} {w : World} {v : Value} {l : List α} {F : List Nat} (h : ownS size e O w v l F) (hN : F.Nodup) :
    (v = .slice none 0 0 ∧ l = [] ∧ F = []) ∨ ∃ g cap cur Fs, v = .slice (some ⟨g, 0, none⟩) l.length cap ∧ OwnRow size e O w g cap l cur Fs ∧ F = g :: Fs.flatten := by
  rcases h with h | ⟨g, cap, cur, Fs, h1, h2, h3, h4, h5, h6, h7, rfl⟩
  · exact .inl h
  · exact .inr ⟨g, cap, cur, Fs, h1, ⟨h2, h3, h4, h5, h6, h7, hN⟩, rfl⟩

theorem OwnRow.lt {α : Type} {size : Nat} {e : TypeId} {O : ORep α} {w : World} {g cap : Nat} {l : List α} {cur : Array Value} {Fs : List (List Nat)} (h : OwnRow size e O w g cap l cur Fs) : g < w.heap.size := (Array.getElem?_eq_some_iff.1 h.heap).1

/-- Element k is being edited: the world's row is as it was but for that element, which reads as cs. -/
structure Edit (size : Nat) (e : TypeId) (g k : Nat) (F : List Nat) (cur : Array Value) (w w' : World) (cs : List Value) : Prop where
  row : ∃ cur' : Array Value, w'.heap[g]? = some (.cells cur' e (0, 0)) ∧ cur'.size = cur.size ∧ (∀ j, j ≠ k → seg size cur' j = seg size cur j) ∧ seg size cur' k = cs
  turn : Turn (g :: F) w w'

theorem Edit.start {α : Type} {size : Nat} {e : TypeId} {O : ORep α} {w : World} {g cap : Nat} {l : List α} {cur : Array Value} {Fs : List (List Nat)} (h : OwnRow size e O w g cap l cur Fs) (k : Nat) (F : List Nat) : Edit size e g k F cur w w (seg size cur k) :=
  ⟨⟨cur, h.heap, rfl, fun _ _ => rfl, rfl⟩, Turn.refl _ _⟩

theorem Edit.set {size : Nat} {e : TypeId} {g k : Nat} {F : List Nat} {cur : Array Value} {w w' : World} {cs : List Value} (h : Edit size e g k F cur w w' cs) {i : Nat} (hi : i < size) (u : Value) :
    Edit size e g k F cur w (w'.setCell ⟨g, k * size + i, none⟩ u) (cs.set i u) := by
  obtain ⟨⟨cur', c1, c2, c3, c4⟩, ht⟩ := h
  refine ⟨⟨_, heap_setCell_same w' g _ cur' e u c1, by simpa using c2, fun j hj => ?_, ?_⟩, ht.setCell (by simp) u⟩
  · rw [seg_set_other hi hj]; exact c3 j hj
  · rw [seg_set hi, c4]

theorem Edit.keep {size : Nat} {e : TypeId} {g k : Nat} {F : List Nat} {cur : Array Value} {w w1 w2 : World} {cs : List Value} (h : Edit size e g k F cur w w1 cs) (ht : Turn F w1 w2) (hg : g ∉ F) :
    Edit size e g k F cur w w2 cs := by
  obtain ⟨⟨cur', c1, c2, c3, c4⟩, ht'⟩ := h
  exact ⟨⟨cur', by rw [ht.block g (Array.getElem?_eq_some_iff.1 c1).1 hg]; exact c1, c2, c3, c4⟩, ht'.trans (ht.mono (fun k hk => List.mem_cons_of_mem _ hk))⟩

theorem Edit.cellAt {size : Nat} {e : TypeId} {g k : Nat} {F : List Nat} {cur : Array Value} {w w' : World} {cs : List Value} (h : Edit size e g k F cur w w' cs) {i : Nat} (hi : i < size) {u : Value} (hu : cs[i]? = some u) :
    w'.cell? ⟨g, k * size + i, none⟩ = some u := by
  obtain ⟨⟨cur', c1, c2, c3, c4⟩, _⟩ := h
  rw [cell_of_row w' g _ cur' e (0, 0) c1, ← seg_get hi, c4, hu]

theorem Edit.free {size : Nat} {e : TypeId} {g k : Nat} {F : List Nat} {cur : Array Value} {w w' : World} {cs : List Value} (h : Edit size e g k F cur w w' cs) (j : Nat) :
    w'.frozen? ⟨g, j, none⟩ = false := by
  obtain ⟨⟨cur', c1, c2, c3, c4⟩, _⟩ := h
  exact frozen_of_row w' g j cur' e c1

theorem OwnRow.part {α : Type} {size : Nat} {e : TypeId} {O : ORep α} {w : World} {g cap : Nat} {l : List α} {cur : Array Value} {Fs : List (List Nat)} (h : OwnRow size e O w g cap l cur Fs) {k : Nat} (hk : k < l.length) :
    g ∉ Fs.getD k [] ∧ (Fs.getD k []).Nodup := by
  have hk' : k < Fs.length := by rw [h.flen]; exact hk
  have hn := List.nodup_cons.1 h.nodup
  refine ⟨fun hm => hn.1 (mem_flatten_getD hk' hm), ?_⟩
  rw [List.getD_eq_getElem?_getD, List.getElem?_eq_getElem hk']
  exact (List.pairwise_flatten.1 hn.2).1 _ (List.getElem_mem hk')


structure MDot where
  fR : Int
  fN : Int

def rDot : Rep MDot := fun B w cs m => cs = [.int .i64 m.fR, .int .i64 m.fN] ∧ (Lit.int .i64 m.fR).wf = true ∧ (Lit.int .i64 m.fN).wf = true ∧ True

theorem rDot_good : rDot.Good :=
  ⟨fun ⟨h, h0, h1, _⟩ hb => ⟨h, h0, h1, trivial⟩, fun ⟨h, h0, h1, _⟩ hB => ⟨h, h0, h1, trivial⟩⟩

def oDot : ORep MDot := fun w cs m F => cs = [.int .i64 m.fR, .int .i64 m.fN] ∧ (Lit.int .i64 m.fR).wf = true ∧ (Lit.int .i64 m.fN).wf = true ∧ F = []

theorem oDot_good : oDot.Good rDot 2 := by
  refine ⟨?_, ?_, ?_, ?_⟩
  · rintro w w' cs m F ⟨rfl, h0, h1, rfl⟩ hb
    exact ⟨rfl, h0, h1, rfl⟩
  · rintro w cs m F ⟨rfl, h0, h1, rfl⟩ k hk
    cases hk
  · rintro w cs m F ⟨rfl, h0, h1, rfl⟩
    exact ⟨rfl, h0, h1, trivial⟩
  · rintro w cs m F ⟨rfl, h0, h1, rfl⟩
    rfl

def wDot (m : MDot) : Nat := 0

structure MItem where
  fD : MDot
  fDeps : List MDot

def rItem : Rep MItem := fun B w cs m => ∃ a2 : Option Addr, ∃ c2 : Nat, cs = [.int .i64 m.fD.fR, .int .i64 m.fD.fN, .slice a2 m.fDeps.length c2] ∧ (Lit.int .i64 m.fD.fR).wf = true ∧ (Lit.int .i64 m.fD.fN).wf = true ∧ LeafL 2 rDot B w a2 c2 m.fDeps ∧ True

theorem rItem_good : rItem.Good :=
  ⟨fun ⟨a2, c2, h, h0, h1, h2, _⟩ hb => ⟨a2, c2, h, h0, h1, h2.below rDot_good hb, trivial⟩, fun ⟨a2, c2, h, h0, h1, h2, _⟩ hB => ⟨a2, c2, h, h0, h1, h2.mono rDot_good hB, trivial⟩⟩

def oItem : ORep MItem := fun w cs m F => ∃ v2 : Value, ∃ F2 : List Nat, cs = [.int .i64 m.fD.fR, .int .i64 m.fD.fN, v2] ∧ (Lit.int .i64 m.fD.fR).wf = true ∧ (Lit.int .i64 m.fD.fN).wf = true ∧ ownS 2 40 oDot w v2 m.fDeps F2 ∧ F = F2 ++ []

theorem oItem_good : oItem.Good rItem 3 := by
  refine ⟨?_, ?_, ?_, ?_⟩
  · rintro w w' cs m F ⟨v2, F2, rfl, h0, h1, h2, rfl⟩ hb
    exact ⟨v2, F2, rfl, h0, h1, ownS.frame oDot_good h2 (fun k hk => hb k (by simp [hk])), rfl⟩
  · rintro w cs m F ⟨v2, F2, rfl, h0, h1, h2, rfl⟩ k hk
    simp only [List.mem_append, List.not_mem_nil, or_false] at hk
    exact ownS.lt oDot_good h2 k hk
  · rintro w cs m F ⟨v2, F2, rfl, h0, h1, h2, rfl⟩
    obtain ⟨a2, c2, rfl, g2⟩ := ownS.read oDot_good h2
    exact ⟨a2, c2, rfl, h0, h1, g2, trivial⟩
  · rintro w cs m F ⟨v2, F2, rfl, h0, h1, h2, rfl⟩
    rfl

def wItem (m : MItem) : Nat := (m.fDeps.length + sumW wDot m.fDeps)

structure MGraph where
  fItems : List MItem

def rGraph : Rep MGraph := fun B w cs m => ∃ a0 : Option Addr, ∃ c0 : Nat, cs = [.slice a0 m.fItems.length c0] ∧ LeafL 3 rItem B w a0 c0 m.fItems ∧ True

theorem rGraph_good : rGraph.Good :=
  ⟨fun ⟨a0, c0, h, h0, _⟩ hb => ⟨a0, c0, h, h0.below rItem_good hb, trivial⟩, fun ⟨a0, c0, h, h0, _⟩ hB => ⟨a0, c0, h, h0.mono rItem_good hB, trivial⟩⟩

def oGraph : ORep MGraph := fun w cs m F => ∃ v0 : Value, ∃ F0 : List Nat, cs = [v0] ∧ ownS 3 52 oItem w v0 m.fItems F0 ∧ F = F0 ++ []

theorem oGraph_good : oGraph.Good rGraph 1 := by
  refine ⟨?_, ?_, ?_, ?_⟩
  · rintro w w' cs m F ⟨v0, F0, rfl, h0, rfl⟩ hb
    exact ⟨v0, F0, rfl, ownS.frame oItem_good h0 (fun k hk => hb k (by simp [hk])), rfl⟩
  · rintro w cs m F ⟨v0, F0, rfl, h0, rfl⟩ k hk
    simp only [List.mem_append, List.not_mem_nil, or_false] at hk
    exact ownS.lt oItem_good h0 k hk
  · rintro w cs m F ⟨v0, F0, rfl, h0, rfl⟩
    obtain ⟨a0, c0, rfl, g0⟩ := ownS.read oItem_good h0
    exact ⟨a0, c0, rfl, g0, trivial⟩
  · rintro w cs m F ⟨v0, F0, rfl, h0, rfl⟩
    rfl

def wGraph (m : MGraph) : Nat := (m.fItems.length + sumW wItem m.fItems)



def inRange (x a b : Int) : Bool := decide (a ≤ x ∧ x ≤ b)
theorem inRange_yes {x a b : Int} (h1 : a ≤ x) (h2 : x ≤ b) : inRange x a b = true := decide_eq_true ⟨h1, h2⟩
theorem inRange_no {x a b : Int} (h : ¬ (a ≤ x ∧ x ≤ b)) : inRange x a b = false := decide_eq_false h

set_option maxHeartbeats 400000 in
theorem l1In_any (x a b : Int) (w : World) :
    Calls Tryd.prog 108 #[.int .i64 x, .int .i64 a, .int .i64 b] w fun e w' => e = .returned (.bool (inRange x a b)) ∧ w' = w := by
  by_cases h1 : a ≤ x
  · by_cases h2 : x ≤ b
    · have HV := Hid.mk (inRange_yes h1 h2)
      go_enter Tryd.func108, Tryd.ntmps108
      go_wp2
      go_ret
      exact ⟨by rw [HV.out]; rfl, rfl⟩
    · have HV := Hid.mk (inRange_no (x := x) (a := a) (b := b) (by omega))
      go_enter Tryd.func108, Tryd.ntmps108
      go_wp2
      go_ret
      exact ⟨by rw [HV.out]; rfl, rfl⟩
  · have HV := Hid.mk (inRange_no (x := x) (a := a) (b := b) (by omega))
    go_enter Tryd.func108, Tryd.ntmps108
    go_wp2
    go_ret
    exact ⟨by rw [HV.out]; rfl, rfl⟩

end Go.Proofs.YtmigamgcmhdncaaDoor
