/-
  How cells stand for structs and for lists of them: what is read, and what is owned with its footprint of blocks; no program is named here.
-/
import Derived.Test.YtembioiaeimegaaApp
namespace Go.Proofs.Ytembioiaeimegaa
open Go.RowKit

/-- How cells stand for something of type α, in memory below block B. -/
abbrev Rep (α : Type) := Nat → World → List Value → α → Prop
/-- The same, owned: all blocks that it leads to are listed. -/
abbrev ORep (α : Type) := World → List Value → α → List Nat → Prop

structure Rep.Good {α : Type} (R : Rep α) : Prop where
  below : ∀ {B w w' cs m}, R B w cs m → Below B w w' → R B w' cs m
  mono : ∀ {B B' w cs m}, R B w cs m → B ≤ B' → R B' w cs m

structure ORep.Good {α : Type} (O : ORep α) (R : Rep α) (size : Nat) : Prop where
  frame : ∀ {w w' cs m F}, O w cs m F → (∀ k, k ∈ F → w'.heap[k]? = w.heap[k]?) → O w' cs m F
  lt : ∀ {w cs m F}, O w cs m F → ∀ k, k ∈ F → k < w.heap.size
  read : ∀ {w cs m F}, O w cs m F → R w.heap.size w cs m
  len : ∀ {w cs m F}, O w cs m F → cs.length = size

/-- Elements of 'size' cells each behind an address. -/
def RdS {α : Type} (size : Nat) (R : Rep α) (B : Nat) (w : World) (a : Option Addr) (l : List α) : Prop :=
  ∀ j, (h : j < l.length) → ∃ b off, a = some ⟨b, off, none⟩ ∧ b < B ∧ ∃ cs : List Value, cs.length = size ∧ (∀ i u, cs[i]? = some u → w.cell? ⟨b, off + j * size + i, none⟩ = some u) ∧ R B w cs l[j]

theorem RdS.below {α : Type} {size : Nat} {R : Rep α} (hR : R.Good) {B : Nat} {w w' : World} {a : Option Addr} {l : List α} (h : RdS size R B w a l) (hb : Below B w w') : RdS size R B w' a l := by
  intro j hj
  obtain ⟨b, off, e, hB, cs, h1, h2, h3⟩ := h j hj
  exact ⟨b, off, e, hB, cs, h1, fun i u hu => (hb.cell (p := ⟨b, off + j * size + i, none⟩) hB).trans (h2 i u hu), hR.below h3 hb⟩

theorem RdS.mono {α : Type} {size : Nat} {R : Rep α} (hR : R.Good) {B B' : Nat} {w : World} {a : Option Addr} {l : List α} (h : RdS size R B w a l) (hB : B ≤ B') : RdS size R B' w a l := by
  intro j hj
  obtain ⟨b, off, e, hb, cs, h1, h2, h3⟩ := h j hj
  exact ⟨b, off, e, by omega, cs, h1, h2, hR.mono h3 hB⟩

theorem own_of_block {w w' : World} {base e size n : Nat} {v : Value} {xs : List Value} (h : w.ownsRow base e size v n xs) (hb : ∀ k, v.ownBlock = some k → w'.heap[k]? = w.heap[k]?) : w'.ownsRow base e size v n xs := by
  refine ⟨h.1, ?_⟩
  rcases h.2 with h' | ⟨g, cap, cur, rfl, hg, hh, rest⟩
  · exact .inl h'
  · exact .inr ⟨g, cap, cur, rfl, hg, by rw [hb g rfl]; exact hh, rest⟩

/-- A slice of bytes of one's own. -/
def ownB (e : TypeId) (w : World) (v : Value) (zs : List Int) (F : List Nat) : Prop :=
  w.ownsRow 0 e 1 v zs.length (zs.map (Value.int .u8)) ∧ BytesOk zs ∧ F = v.ownBlock.toList

theorem ownB.frame {e : TypeId} {w w' : World} {v : Value} {zs : List Int} {F : List Nat} (h : ownB e w v zs F) (hb : ∀ k, k ∈ F → w'.heap[k]? = w.heap[k]?) : ownB e w' v zs F := by
  obtain ⟨h1, h2, rfl⟩ := h
  exact ⟨own_of_block h1 (fun k hk => hb k (by simp [hk])), h2, rfl⟩

theorem ownB.lt {e : TypeId} {w : World} {v : Value} {zs : List Int} {F : List Nat} (h : ownB e w v zs F) : ∀ k, k ∈ F → k < w.heap.size := by
  obtain ⟨h1, h2, rfl⟩ := h
  intro k hk
  exact (h1.lt k (by simpa using hk)).2

theorem ownB.read {e : TypeId} {w : World} {v : Value} {zs : List Int} {F : List Nat} (h : ownB e w v zs F) :
    ∃ a c, v = .slice a zs.length c ∧ zs.length ≤ c ∧ c ≤ 9223372036854775807 ∧ Rd .u8 w.heap.size w a zs ∧ BytesOk zs := by
  obtain ⟨h1, h2, rfl⟩ := h
  rcases h1.2 with ⟨rfl, h'⟩ | ⟨g, cap, cur, rfl, hb, hg, hnc, hm, _⟩
  · exact ⟨none, 0, by rw [h'], by omega, by omega, fun j hj => by omega, h2⟩
  · exact ⟨_, cap, rfl, hnc, by simpa [maxLen] using hm, Rd.own rfl h1, h2⟩

/-- A slice of structs of one's own: its row, and what each element leads to. -/
def ownS {α : Type} (size : Nat) (e : TypeId) (O : ORep α) (w : World) (v : Value) (l : List α) (F : List Nat) : Prop :=
  (v = .slice none 0 0 ∧ l = [] ∧ F = []) ∨
  ∃ g cap, ∃ cur : Array Value, ∃ Fs : List (List Nat), v = .slice (some ⟨g, 0, none⟩) l.length cap ∧ w.heap[g]? = some (.cells cur e (0, 0)) ∧ l.length ≤ cap ∧ cap ≤ maxLen ∧ cur.size = cap * size ∧ Fs.length = l.length ∧
    (∀ j, (h : j < l.length) → O w ((cur.toList.drop (j * size)).take size) l[j] (Fs.getD j [])) ∧ F = g :: Fs.flatten

theorem mem_flatten_getD {Fs : List (List Nat)} {j k : Nat} (hj : j < Fs.length) (h : k ∈ Fs.getD j []) : k ∈ Fs.flatten := by
  rw [List.getD_eq_getElem?_getD, List.getElem?_eq_getElem hj] at h
  exact List.mem_flatten.2 ⟨_, List.getElem_mem hj, h⟩

theorem of_mem_flatten {Fs : List (List Nat)} {k : Nat} (h : k ∈ Fs.flatten) : ∃ j, j < Fs.length ∧ k ∈ Fs.getD j [] := by
  obtain ⟨l, hl, hk⟩ := List.mem_flatten.1 h
  obtain ⟨j, hj, rfl⟩ := List.mem_iff_getElem.1 hl
  exact ⟨j, hj, by rw [List.getD_eq_getElem?_getD, List.getElem?_eq_getElem hj]; exact hk⟩

theorem ownS.frame {α : Type} {size : Nat} {e : TypeId} {O : ORep α} {R : Rep α} (hO : O.Good R size) {w w' : World} {v : Value} {l : List α} {F : List Nat} (h : ownS size e O w v l F) (hb : ∀ k, k ∈ F → w'.heap[k]? = w.heap[k]?) : ownS size e O w' v l F := by
  rcases h with h | ⟨g, cap, cur, Fs, h1, h2, h3, h4, h5, h6, h7, rfl⟩
  · exact .inl h
  · refine .inr ⟨g, cap, cur, Fs, h1, by rw [hb g (by simp)]; exact h2, h3, h4, h5, h6, fun j hj => hO.frame (h7 j hj) (fun k hk => hb k ?_), rfl⟩
    exact List.mem_cons_of_mem _ (mem_flatten_getD (by omega) hk)

theorem ownS.lt {α : Type} {size : Nat} {e : TypeId} {O : ORep α} {R : Rep α} (hO : O.Good R size) {w : World} {v : Value} {l : List α} {F : List Nat} (h : ownS size e O w v l F) : ∀ k, k ∈ F → k < w.heap.size := by
  rcases h with ⟨_, _, rfl⟩ | ⟨g, cap, cur, Fs, h1, h2, h3, h4, h5, h6, h7, rfl⟩
  · intro k hk; cases hk
  · intro k hk
    rcases List.mem_cons.1 hk with rfl | hk
    · exact (Array.getElem?_eq_some_iff.1 h2).1
    · obtain ⟨j, hj, hkj⟩ := of_mem_flatten hk
      exact hO.lt (h7 j (by omega)) k hkj

theorem ownS.read {α : Type} {size : Nat} {e : TypeId} {O : ORep α} {R : Rep α} (hO : O.Good R size) {w : World} {v : Value} {l : List α} {F : List Nat} (h : ownS size e O w v l F) :
    ∃ a c, v = .slice a l.length c ∧ l.length ≤ c ∧ c ≤ 9223372036854775807 ∧ RdS size R w.heap.size w a l := by
  rcases h with ⟨rfl, rfl, _⟩ | ⟨g, cap, cur, Fs, rfl, h2, h3, h4, h5, h6, h7, rfl⟩
  · exact ⟨none, 0, rfl, by simp, by omega, fun j hj => by simp at hj⟩
  · refine ⟨_, cap, rfl, h3, by simpa [maxLen] using h4, fun j hj => ⟨g, 0, rfl, (Array.getElem?_eq_some_iff.1 h2).1, _, hO.len (h7 j hj), ?_, hO.read (h7 j hj)⟩⟩
    intro i u hu
    rw [Nat.zero_add, cell_of_row w g _ cur e (0, 0) h2]
    rw [List.getElem?_take] at hu
    split at hu
    · rw [List.getElem?_drop] at hu
      simpa using hu
    · cases hu

/-- A row that is being filled, element by element: k of n are there. -/
structure Fill {α : Type} (size : Nat) (e : TypeId) (O : ORep α) (w : World) (g n : Nat) (l : List α) (k : Nat) (Fs : List (List Nat)) : Prop where
  row : ∃ cur : Array Value, w.heap[g]? = some (.cells cur e (0, 0)) ∧ cur.size = n * size ∧ ∀ j, (h : j < l.length) → j < k → O w ((cur.toList.drop (j * size)).take size) l[j] (Fs.getD j [])
  flen : Fs.length = k
  over : ∀ b, b ∈ Fs.flatten → g < b ∧ b < w.heap.size
  nodup : Fs.flatten.Nodup

theorem setCells_row' (g : Nat) (e : TypeId) : ∀ (news : List Value) (o : Nat) (w : World) (cur : Array Value), w.heap[g]? = some (.cells cur e (0, 0)) → o + news.length ≤ cur.size →
    ∃ cur' : Array Value, (w.setCells g o news).heap[g]? = some (.cells cur' e (0, 0)) ∧ cur'.size = cur.size ∧ cur'.toList = cur.toList.take o ++ news ++ cur.toList.drop (o + news.length)
  | [], o, w, cur, hg, _ => ⟨cur, hg, rfl, by simp⟩
  | u :: r, o, w, cur, hg, hfit => by
    have h1 := heap_setCell_same w g o cur e u hg
    obtain ⟨cur', h2, h3, h4⟩ := setCells_row' g e r (o + 1) (w.setCell ⟨g, o, none⟩ u) (cur.setIfInBounds o u) h1 (by simp at hfit ⊢; omega)
    refine ⟨cur', h2, by simpa using h3, ?_⟩
    have ho : o < cur.toList.length := by simp at hfit ⊢; omega
    have e0 : (cur.toList.set o u).take (o + 1) = cur.toList.take o ++ [u] := by
      rw [List.take_set, List.take_succ_eq_append_getElem ho, List.set_append_right _ _ (by simp; omega)]
      have e2 : o - (cur.toList.take o).length = 0 := by simp; omega
      rw [e2]
      simp
    have e3 : (cur.toList.set o u).drop (o + 1 + r.length) = cur.toList.drop (o + (u :: r).length) := by
      rw [List.drop_set_of_lt (by omega)]
      congr 1
      simp; omega
    rw [h4, Array.toList_setIfInBounds, e0, e3]
    simp

theorem heap_setCells_ne (g : Nat) : ∀ (news : List Value) (o : Nat) (w : World) (k : Nat), k ≠ g → (w.setCells g o news).heap[k]? = w.heap[k]?
  | [], _, _, _, _ => rfl
  | u :: r, o, w, k, hk => by
    show ((w.setCell ⟨g, o, none⟩ u).setCells g (o + 1) r).heap[k]? = _
    rw [heap_setCells_ne g r (o + 1) _ k hk]
    exact heap_setCell_other w ⟨g, o, none⟩ k u (fun e => hk e)

theorem size_setCells_w (g : Nat) : ∀ (news : List Value) (o : Nat) (w : World), (w.setCells g o news).heap.size = w.heap.size
  | [], _, _ => rfl
  | u :: r, o, w => by
    show ((w.setCell ⟨g, o, none⟩ u).setCells g (o + 1) r).heap.size = _
    rw [size_setCells_w g r (o + 1) _]
    simp

theorem Fill.step {α : Type} {size : Nat} {e : TypeId} {O : ORep α} {R : Rep α} (hO : O.Good R size) {w w1 : World} {g n k : Nat} {l : List α} {Fs : List (List Nat)} (h : Fill size e O w g n l k Fs) (hg : g < w.heap.size) (hk : k < l.length) (hkn : k < n)
    (hb : Below w.heap.size w w1) {cs : List Value} {F : List Nat} (ho : O w1 cs l[k] F) (hF : ∀ b, b ∈ F → w.heap.size ≤ b) (hN : F.Nodup) :
    Fill size e O (w1.setCells g (k * size) cs) g n l (k + 1) (Fs ++ [F]) := by
  obtain ⟨⟨cur, c1, c2, c3⟩, f1, f2, f3⟩ := h
  have hcl := hO.len ho
  have hfit : k * size + cs.length ≤ cur.size := by
    rw [hcl, c2, ← Nat.succ_mul]
    exact Nat.mul_le_mul_right _ hkn
  have c1' : w1.heap[g]? = some (.cells cur e (0, 0)) := by rw [hb.block g hg]; exact c1
  obtain ⟨cur', d1, d2, d3⟩ := setCells_row' g e cs (k * size) w1 cur c1' hfit
  have hFlt : ∀ b, b ∈ F → b < w1.heap.size := fun b hbF => hO.lt ho b hbF
  refine ⟨⟨cur', d1, by rw [d2, c2], ?_⟩, by simp [f1], ?_, ?_⟩
  · intro j hj hjk
    have hlen : cur.toList.length = n * size := by simpa using c2
    by_cases hjk' : j = k
    · subst hjk'
      have e1 : (cur'.toList.drop (j * size)).take size = cs := by
        rw [d3, List.append_assoc, List.drop_append, List.drop_eq_nil_of_le (by simp; omega), List.nil_append]
        have : j * size - (cur.toList.take (j * size)).length = 0 := by simp; omega
        rw [this, List.drop_zero, List.take_append, List.take_of_length_le (by omega), hcl, Nat.sub_self, List.take_zero, List.append_nil]
      have e2 : (Fs ++ [F]).getD j [] = F := by rw [List.getD_eq_getElem?_getD, List.getElem?_append_right (by omega), f1, Nat.sub_self]; rfl
      rw [e1, e2]
      exact hO.frame ho (fun b hbF => heap_setCells_ne g cs _ w1 b (by have := hF b hbF; omega))
    · have hlt : j < k := by omega
      have hmul : (j + 1) * size ≤ k * size := Nat.mul_le_mul_right _ hlt
      rw [Nat.succ_mul] at hmul
      have e1 : (cur'.toList.drop (j * size)).take size = (cur.toList.drop (j * size)).take size := by
        rw [d3, List.append_assoc]
        apply List.ext_getElem?
        intro i
        rw [List.getElem?_take, List.getElem?_take, List.getElem?_drop, List.getElem?_drop]
        by_cases hi : i < size
        · rw [if_pos hi, if_pos hi, List.getElem?_append_left (by simp; omega), List.getElem?_take, if_pos (by omega)]
        · rw [if_neg hi, if_neg hi]
      have e2 : (Fs ++ [F]).getD j [] = Fs.getD j [] := by rw [List.getD_eq_getElem?_getD, List.getD_eq_getElem?_getD, List.getElem?_append_left (by omega)]
      rw [e1, e2]
      have ho' := hO.frame (c3 j hj hlt) (w' := w1) (fun b hbF => hb.block b (hO.lt (c3 j hj hlt) b hbF))
      exact hO.frame ho' (fun b hbF => heap_setCells_ne g cs _ w1 b (by have := f2 b (mem_flatten_getD (by omega) hbF); omega))
  · intro b hbF
    rw [size_setCells_w]
    rw [List.flatten_append, List.mem_append] at hbF
    rcases hbF with hbF | hbF
    · have := f2 b hbF; have := hb.size; omega
    · have hbF : b ∈ F := by simpa using hbF
      have := hF b hbF; have := hFlt b hbF; omega
  · rw [List.flatten_append]
    refine List.nodup_append.2 ⟨f3, by simpa using hN, ?_⟩
    intro a ha b hb' hab
    subst hab
    have h1 := f2 a ha
    have h2 := hF a (by simpa using hb')
    omega

theorem Fill.done {α : Type} {size : Nat} {e : TypeId} {O : ORep α} {w : World} {g n : Nat} {l : List α} {Fs : List (List Nat)} (h : Fill size e O w g n l n Fs) (hn : l.length = n) (hm : n ≤ maxLen) :
    ownS size e O w (.slice (some ⟨g, 0, none⟩) n n) l (g :: Fs.flatten) ∧ (g :: Fs.flatten).Nodup := by
  obtain ⟨⟨cur, c1, c2, c3⟩, f1, f2, f3⟩ := h
  refine ⟨.inr ⟨g, n, cur, Fs, by rw [hn], c1, by omega, hm, c2, by rw [f1, hn], fun j hj => c3 j hj (by omega), rfl⟩, List.nodup_cons.2 ⟨fun hg => by have := f2 g hg; omega, f3⟩⟩

/-- The cell of a slice of bytes; of a slice of structs. -/
def LeafB (B : Nat) (w : World) (a : Option Addr) (c : Nat) (zs : List Int) : Prop := zs.length ≤ c ∧ c ≤ 9223372036854775807 ∧ Rd .u8 B w a zs ∧ BytesOk zs
def LeafL {α : Type} (size : Nat) (R : Rep α) (B : Nat) (w : World) (a : Option Addr) (c : Nat) (l : List α) : Prop := l.length ≤ c ∧ c ≤ 9223372036854775807 ∧ RdS size R B w a l

theorem LeafB.below {B : Nat} {w w' : World} {a : Option Addr} {c : Nat} {zs : List Int} (h : LeafB B w a c zs) (hb : Below B w w') : LeafB B w' a c zs := ⟨h.1, h.2.1, h.2.2.1.below hb, h.2.2.2⟩
theorem LeafB.mono {B B' : Nat} {w : World} {a : Option Addr} {c : Nat} {zs : List Int} (h : LeafB B w a c zs) (hB : B ≤ B') : LeafB B' w a c zs := ⟨h.1, h.2.1, h.2.2.1.mono hB, h.2.2.2⟩
theorem LeafL.below {α : Type} {size : Nat} {R : Rep α} (hR : R.Good) {B : Nat} {w w' : World} {a : Option Addr} {c : Nat} {l : List α} (h : LeafL size R B w a c l) (hb : Below B w w') : LeafL size R B w' a c l := ⟨h.1, h.2.1, h.2.2.below hR hb⟩
theorem LeafL.mono {α : Type} {size : Nat} {R : Rep α} (hR : R.Good) {B B' : Nat} {w : World} {a : Option Addr} {c : Nat} {l : List α} (h : LeafL size R B w a c l) (hB : B ≤ B') : LeafL size R B' w a c l := ⟨h.1, h.2.1, h.2.2.mono hR hB⟩
theorem LeafB.big {B : Nat} {w : World} {a : Option Addr} {c : Nat} {zs : List Int} (h : LeafB B w a c zs) : zs.length ≤ 9223372036854775807 := Nat.le_trans h.1 h.2.1
theorem LeafL.big {α : Type} {size : Nat} {R : Rep α} {B : Nat} {w : World} {a : Option Addr} {c : Nat} {l : List α} (h : LeafL size R B w a c l) : l.length ≤ 9223372036854775807 := Nat.le_trans h.1 h.2.1

def szRes (left : Int) (t : Nat) : Int := if (t : Int) ≤ left then left - t else -1
theorem szRes_yes {left : Int} {t : Nat} (h : (t : Int) ≤ left) : szRes left t = left - t := by unfold szRes; rw [if_pos h]
theorem szRes_no {left : Int} {t : Nat} (h : ¬ (t : Int) ≤ left) : szRes left t = -1 := by unfold szRes; rw [if_neg h]

/-- The sum of what elements weigh. -/
def sumW {α : Type} (f : α → Nat) : List α → Nat
  | [] => 0
  | m :: r => f m + sumW f r
theorem sumW_take_succ {α : Type} {f : α → Nat} {l : List α} {k : Nat} (h : k < l.length) : sumW f (l.take (k + 1)) = sumW f (l.take k) + f l[k] := by
  induction l generalizing k with
  | nil => simp at h
  | cons m r ih =>
    cases k with
    | zero => simp [sumW]
    | succ k => simp only [List.take_succ_cons, sumW, List.getElem_cons_succ]; rw [ih (by simpa using h)]; omega
theorem sumW_take_le {α : Type} (f : α → Nat) (l : List α) (k : Nat) : sumW f (l.take k) ≤ sumW f l := by
  induction l generalizing k with
  | nil => simp [sumW]
  | cons m r ih =>
    cases k with
    | zero => simp [sumW]
    | succ k => simp only [List.take_succ_cons, sumW]; have := ih k; omega
theorem sumW_le {α : Type} {f : α → Nat} {l : List α} {k : Nat} (h : k < l.length) : f l[k] ≤ sumW f l := by
  have h1 := sumW_take_succ (f := f) h
  have h2 := sumW_take_le f l (k + 1)
  omega

theorem bcell {W w1 : World} (hb : Below W.heap.size W w1) : (∀ b o, b < W.heap.size → w1.cell? ⟨b, o, none⟩ = W.cell? ⟨b, o, none⟩) ∧ (∀ b o, b < W.heap.size → w1.frozen? ⟨b, o, none⟩ = W.frozen? ⟨b, o, none⟩) :=
  ⟨fun b o h => hb.cell (p := ⟨b, o, none⟩) h, fun b o h => hb.frozen (p := ⟨b, o, none⟩) h⟩

/-- From block X on nothing that was there has turned. -/
structure Above (X : Nat) (w w' : World) : Prop where
  size : w.heap.size ≤ w'.heap.size
  block : ∀ b, X ≤ b → b < w.heap.size → w'.heap[b]? = w.heap[b]?

theorem Above.refl (X : Nat) (w : World) : Above X w w := ⟨Nat.le_refl _, fun _ _ _ => rfl⟩
theorem Above.trans {X : Nat} {a b c : World} (h : Above X a b) (k : Above X b c) : Above X a c := ⟨Nat.le_trans h.size k.size, fun i hX hi => (k.block i hX (Nat.lt_of_lt_of_le hi h.size)).trans (h.block i hX hi)⟩
theorem Above.setCell {X : Nat} {a w : World} (h : Above X a w) {p : Addr} (hp : p.block < X) (u : Value) : Above X a (w.setCell p u) :=
  h.trans ⟨by simp, fun k hX _ => Below.heap_setCell _ _ _ _ (by omega)⟩
theorem Above.below {X : Nat} {w w' : World} (h : Below w.heap.size w w') : Above X w w' := ⟨h.size, fun b _ hb => h.block b hb⟩

/-- A row of zeros, nothing filled yet. -/
theorem Fill.start {α : Type} {size : Nat} {e : TypeId} {O : ORep α} {w : World} {g n base : Nat} {l : List α} {xs : List Value} (h : w.ownsRow base e size (.slice (some ⟨g, 0, none⟩) n n) n xs) : Fill size e O w g n l 0 [] := by
  rcases h.2 with ⟨h', _⟩ | ⟨g', cap, cur, h', hb, hg, hnc, hm, hs, _⟩
  · simp at h'
  · simp only [Value.slice.injEq, Option.some.injEq, Addr.mk.injEq, and_true, true_and] at h'
    obtain ⟨rfl, rfl⟩ := h'
    exact ⟨⟨cur, hg, hs, fun j _ hj => by omega⟩, rfl, fun b hb => by simp at hb, by simp⟩

theorem Fill.keep {α : Type} {size : Nat} {e : TypeId} {O : ORep α} {R : Rep α} (hO : O.Good R size) {w w1 : World} {g n k : Nat} {l : List α} {Fs : List (List Nat)} (h : Fill size e O w g n l k Fs) (hg : g < w.heap.size) (hb : Below w.heap.size w w1) : Fill size e O w1 g n l k Fs := by
  obtain ⟨⟨cur, c1, c2, c3⟩, f1, f2, f3⟩ := h
  exact ⟨⟨cur, by rw [hb.block g hg]; exact c1, c2, fun j hj hjk => hO.frame (c3 j hj hjk) (fun b hbF => hb.block b (hO.lt (c3 j hj hjk) b hbF))⟩, f1, fun b hbF => ⟨(f2 b hbF).1, Nat.lt_of_lt_of_le (f2 b hbF).2 hb.size⟩, f3⟩

theorem Fill.cells {α : Type} {size : Nat} {e : TypeId} {O : ORep α} {w : World} {g n k : Nat} {l : List α} {Fs : List (List Nat)} (h : Fill size e O w g n l k Fs) (hk : k < n) (i : Nat) (hi : i < size) : ∃ u, w.cell? ⟨g, k * size + i, none⟩ = some u := by
  obtain ⟨⟨cur, c1, c2, _⟩, _, _, _⟩ := h
  have hm : (k + 1) * size ≤ n * size := Nat.mul_le_mul_right _ hk
  rw [Nat.succ_mul] at hm
  exact ⟨_, by rw [cell_of_row w g _ cur e (0, 0) c1]; exact Array.getElem?_eq_getElem (by omega)⟩

theorem Fill.free {α : Type} {size : Nat} {e : TypeId} {O : ORep α} {w : World} {g n k : Nat} {l : List α} {Fs : List (List Nat)} (h : Fill size e O w g n l k Fs) (j : Nat) : w.frozen? ⟨g, j, none⟩ = false := by
  obtain ⟨⟨cur, c1, _, _⟩, _, _, _⟩ := h
  exact frozen_of_row w g j cur e c1

theorem below_setCells {B g : Nat} (hg : B ≤ g) : ∀ (vs : List Value) (o : Nat) (a b : World), Below B a b → Below B a (b.setCells g o vs)
  | [], _, _, _, h => h
  | v :: r, o, a, _, h => below_setCells hg r (o + 1) a _ (h.setCell (p := ⟨g, o, none⟩) hg v)

theorem nodup_app {F G : List Nat} {X : Nat} (hF : F.Nodup) (hG : G.Nodup) (h1 : ∀ b, b ∈ F → b < X) (h2 : ∀ b, b ∈ G → X ≤ b) : (F ++ G).Nodup := by
  refine List.nodup_append.2 ⟨hF, hG, ?_⟩
  intro a ha b hb hab
  subst hab
  have := h1 a ha
  have := h2 a hb
  omega

theorem app_lt {F G : List Nat} {X Y : Nat} (h1 : ∀ b, b ∈ F → b < X) (h2 : ∀ b, b ∈ G → b < Y) (h : X ≤ Y) : ∀ b, b ∈ F ++ G → b < Y := by
  intro b hb
  rcases List.mem_append.1 hb with hb | hb
  · have := h1 b hb; omega
  · exact h2 b hb

theorem app_ge {F G : List Nat} {X : Nat} (h1 : ∀ b, b ∈ F → X ≤ b) (h2 : ∀ b, b ∈ G → X ≤ b) : ∀ b, b ∈ F ++ G → X ≤ b := by
  intro b hb
  rcases List.mem_append.1 hb with hb | hb
  · exact h1 b hb
  · exact h2 b hb

end Go.Proofs.Ytembioiaeimegaa
