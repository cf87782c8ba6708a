/-
  Part 15 of the texts that the proof leans on.
-/
import Derived.Test.YtmedljankefhbaaDoorTbf0
import Derived.Test.YtmedljankefhbaaDoorTbf12
import Derived.Test.YtmedljankefhbaaDoorTbf13
import Derived.Test.YtmedljankefhbaaDoorTbf2
import Derived.Test.YtmedljankefhbaaDoorTbf1
import Derived.Test.YtmedljankefhbaaDoorChecked
set_option linter.unusedVariables false
set_option linter.unusedSimpArgs false
set_option maxRecDepth 10000

namespace Go.Proofs.YtmedljankefhbaaDoor
open Go.RowKit Go.Maps
theorem MemDrawn.grown {w w' : World} {base most g : Nat} {v : Value} {l : List MNode} (h : MemDrawn w base v l most) (hg : w.grownBy w' (some g)) (hb : g < base) : MemDrawn w' base v l most :=
  ⟨own_of_block h.1 (fun k hk => hg.block k (h.1.lt k hk).2 (fun e => by have := (h.1.lt k hk).1; simp at e; omega)), h.2⟩
theorem MemDrawn.under {w w' : World} {base most : Nat} {v : Value} {l : List MNode} (h : MemDrawn w base v l most) (hb : Below w.heap.size w w') : MemDrawn w' base v l most := ⟨own_below h.1 hb, h.2⟩
theorem MemDrawn.other {w : World} {base most b i : Nat} {v u : Value} {l : List MNode} (h : MemDrawn w base v l most) (hb : b < base) : MemDrawn (w.setCell ⟨b, i, none⟩ u) base v l most :=
  ⟨own_of_block h.1 (fun k hk => heap_setCell_other w ⟨b, i, none⟩ k u (by have := (h.1.lt k hk).1; show k ≠ b; omega)), h.2⟩
theorem MemDrawn.nil {w : World} {base : Nat} : MemDrawn w base (.slice none 0 0) [] 0 := ⟨⟨rfl, .inl ⟨rfl, rfl⟩⟩, ⟨fun _ h => (List.not_mem_nil h).elim, Nat.le_refl _⟩⟩
theorem MemDrawn.more {w : World} {base a b : Nat} {v : Value} {l : List MNode} (h : MemDrawn w base v l a) (hab : a ≤ b) : MemDrawn w base v l b := ⟨h.1, h.2.1, Nat.le_trans h.2.2 hab⟩

theorem ownN_leaf' {w : World} {base n c : Nat} {a : Option Addr} {l : List MNode} (h : w.ownsRow base 73 4 (.slice a n c) l.length (flatN l)) (hok : ∀ x, x ∈ l → NdOk x) : LeafL 4 rNode w.heap.size w a c l := by
  obtain ⟨a', c', h1, h2⟩ := ownN_leaf h hok
  simp only [Value.slice.injEq] at h1
  rw [h1.1, h1.2.2]
  exact h2

/-- What a draw of a table answers. -/
def MemPost (w : World) (g most : Nat) (e : Ending) (w' : World) : Prop := ∃ (v : Value) (l : List MNode), e = .returned (.agg #[v]) ∧ MemDrawn w' w.heap.size v l most ∧ CurOk w' g ∧ w.grownBy w' (some g)

/-- Within the draw: the boxes of the table and of the answer, the table's row, the cursor. -/
def InDraw (w : World) (g : Nat) (v : Value) (l : List MNode) (most : Nat) (W : World) : Prop :=
  CurOk W g ∧ w.grownBy W (some g) ∧ Bw W w.heap.size 70 [.slice none 0 0] ∧ Bw W (w.heap.size + 1) 70 [v] ∧ MemDrawn W (w.heap.size + 2) v l most
theorem InDraw.step {w W W' : World} {g most : Nat} {v : Value} {l : List MNode} (h : InDraw w g v l most W) (hg : g < w.heap.size) (hc : CurOk W' g) (hs : W.grownBy W' (some g)) : InDraw w g v l most W' :=
  ⟨hc, grown_trans h.2.1 hs, h.2.2.1.grown hs (by simp; omega), h.2.2.2.1.grown hs (by simp; omega), h.2.2.2.2.grown hs (by omega)⟩
theorem grown_below {a b c : World} {r : Option Nat} (h : a.grownBy b r) (hb : Below b.heap.size b c) : a.grownBy c r :=
  ⟨hb.os.trans h.os, hb.tape.trans h.tape, hb.output.trans h.output, Nat.le_trans h.size hb.size, fun k hk hr => (hb.block k (Nat.lt_of_lt_of_le hk h.size)).trans (h.block k hk hr)⟩
theorem InDraw.below {w W W' : World} {g most : Nat} {v : Value} {l : List MNode} (h : InDraw w g v l most W) (hb : Below W.heap.size W W') : InDraw w g v l most W' :=
  ⟨h.1.below hb, grown_below h.2.1 hb, h.2.2.1.under hb, h.2.2.2.1.under hb, h.2.2.2.2.under hb⟩

theorem Bw.other' {w : World} {b b' i : Nat} {t : TypeId} {vs : List Value} {u : Value} (h : Bw w b t vs) (hne : b ≠ b') : Bw (w.setCell ⟨b', i, none⟩ u) b t vs := by
  unfold Bw at h ⊢
  rw [heap_setCell_other w ⟨b', i, none⟩ b u hne]
  exact h

theorem MemDrawn.base {w : World} {base base' most : Nat} {v : Value} {l : List MNode} (h : MemDrawn w base v l most) (hb : base' ≤ base) : MemDrawn w base' v l most := ⟨own_base h.1 hb, h.2⟩
theorem InDraw.put {w W : World} {g most m2 : Nat} {v v' : Value} {l l' : List MNode} {k : Nat} (h : InDraw w g v l most W) (hd : MemDrawn W (w.heap.size + 2) v' l' k) (hg : g < w.heap.size) (hm : k ≤ m2) : InDraw w g v' l' m2 (W.setCell ⟨w.heap.size + 1, 0, none⟩ v') :=
  ⟨h.1.setCell (p := ⟨w.heap.size + 1, 0, none⟩) (by show g < w.heap.size + 1; omega) _, grown_setCell h.2.1 (p := ⟨w.heap.size + 1, 0, none⟩) (by show w.heap.size ≤ w.heap.size + 1; omega) _, h.2.2.1.other' (by omega), h.2.2.2.1.put 0 _, (hd.other (by omega)).more hm⟩
theorem wf_small {z : Int} (h1 : 1 ≤ z) (h2 : z ≤ 4) : (Lit.int .i64 z).wf = true := by
  have : z = 1 ∨ z = 2 ∨ z = 3 ∨ z = 4 := by omega
  rcases this with rfl | rfl | rfl | rfl <;> rfl


end Go.Proofs.YtmedljankefhbaaDoor

namespace Go.Proofs.YtmedljankefhbaaDoor
open Go.RowKit

/-- How many keys are less. -/
def lessN (l : List MNode) (key : ByteArray) : Nat := l.countP fun x => kLt x.fP.fKey key
def Rising (l : List MNode) : Prop := l.Pairwise fun x y => kLt x.fP.fKey y.fP.fKey = true
theorem less_iff : ∀ {l : List MNode} {key : ByteArray}, Rising l → ∀ i, (hi : i < l.length) → (kLt l[i].fP.fKey key = true ↔ i < lessN l key)
  | [], _, _, i, hi => by simp at hi
  | x :: r, key, hr, i, hi => by
    obtain ⟨h1, h2⟩ := List.pairwise_cons.1 hr
    unfold lessN
    by_cases hx : kLt x.fP.fKey key = true
    · rw [List.countP_cons_of_pos (p := fun x : MNode => kLt x.fP.fKey key) (a := x) hx]
      cases i with
      | zero => simpa using hx
      | succ i =>
        have ih := less_iff (key := key) h2 i (by simpa using hi)
        unfold lessN at ih
        simp only [List.getElem_cons_succ]
        rw [ih]
        omega
    · have hz : r.countP (fun x => kLt x.fP.fKey key) = 0 := by
        rw [List.countP_eq_zero]
        intro y hy hk
        exact hx (kLt_trans (h1 y hy) hk)
      rw [List.countP_cons_of_neg (p := fun x : MNode => kLt x.fP.fKey key) (a := x) hx, hz]
      cases i with
      | zero => simpa using hx
      | succ i =>
        simp only [List.getElem_cons_succ]
        have hm : r[i]'(by simpa using hi) ∈ r := List.getElem_mem _
        exact ⟨fun hk => absurd (kLt_trans (h1 _ hm) hk) hx, fun h => by omega⟩
theorem lessN_le (l : List MNode) (key : ByteArray) : lessN l key ≤ l.length := List.countP_le_length

structure Way (o : List Int) (p q : Int) (n : Nat) : Prop where
  mem : ∀ x, x ∈ o → p < x ∧ x ≤ q
  up : o.Pairwise (· < ·)
  le : p ≤ q
  lt : q < n
  nil : o = [] → q = p
  last : ∀ h : o ≠ [], o.getLast h = q


theorem upFrom_iff : ∀ {l : List MPair} {pv : Option ByteArray}, upFrom pv l = true ↔ (∀ x, x ∈ l → pairOkP x = true) ∧ l.Pairwise (fun x y => kLt x.fKey y.fKey = true) ∧ ∀ x, x ∈ l → okPrev pv x.fKey = true
  | [], pv => by simp [upFrom]
  | p :: r, pv => by
    have ih := upFrom_iff (l := r) (pv := some p.fKey)
    simp only [upFrom, Bool.and_eq_true]
    rw [ih, List.pairwise_cons]
    constructor
    · rintro ⟨⟨h1, h2⟩, h3, h4, h5⟩
      refine ⟨fun x hx => ?_, ⟨fun x hx => h5 x hx, h4⟩, fun x hx => ?_⟩
      · rcases List.mem_cons.1 hx with rfl | hx
        · exact h1
        · exact h3 x hx
      · rcases List.mem_cons.1 hx with rfl | hx
        · exact h2
        · have h6 : kLt p.fKey x.fKey = true := h5 x hx
          cases pv with
          | none => rfl
          | some s => exact kLt_trans h2 h6
    · rintro ⟨h1, ⟨h2, h3⟩, h4⟩
      exact ⟨⟨h1 p (by simp), h4 p (by simp)⟩, fun x hx => h1 x (by simp [hx]), h3, fun x hx => h2 x hx⟩
theorem memOk_iff {l : List MNode} : memOkP ⟨l⟩ = true ↔ l.length ≤ 60 ∧ (∀ x, x ∈ l → pairOkP x.fP = true ∧ inR x.fTower 1 4 = true) ∧ Rising l := by
  unfold memOkP pairsOkP towersP
  simp only [Bool.and_eq_true, decide_eq_true_eq]
  rw [upFrom_iff, List.pairwise_map, List.all_eq_true]
  constructor
  · rintro ⟨⟨h1, h2, h3, _⟩, h4⟩
    exact ⟨h1, fun x hx => ⟨h2 x.fP (List.mem_map_of_mem hx), h4 x hx⟩, h3⟩
  · rintro ⟨h1, h2, h3⟩
    refine ⟨⟨h1, fun y hy => ?_, h3, fun y hy => rfl⟩, fun x hx => (h2 x hx).2⟩
    obtain ⟨x, hx, rfl⟩ := List.mem_map.1 hy
    exact (h2 x hx).1
theorem hasKey_iff {l : List MNode} {s : ByteArray} : hasKey l s = true ↔ ∃ x, x ∈ l ∧ x.fP.fKey = s := by
  unfold hasKey
  rw [List.any_eq_true]
  constructor
  · rintro ⟨x, hx, h⟩; exact ⟨x, hx, of_decide_eq_true h⟩
  · rintro ⟨x, hx, h⟩; exact ⟨x, hx, decide_eq_true h⟩
/-- The key's place: what is ahead is less, what is behind is greater. -/
theorem less_at {l : List MNode} {key : ByteArray} (hr : Rising l) {x : MNode} (hx : x ∈ l) (e : x.fP.fKey = key) : l[lessN l key]? = some x := by
  obtain ⟨i, hi, rfl⟩ := List.mem_iff_getElem.1 hx
  have h1 : ¬ i < lessN l key := fun h => by have := (less_iff (key := key) hr i hi).2 h; rw [e, kLt_irrefl] at this; cases this
  have h2 : ¬ lessN l key < i := fun h => by
    have h3 := (List.pairwise_iff_getElem.1 hr) (lessN l key) i (by omega) hi h
    rw [e] at h3
    have := (less_iff (key := key) hr (lessN l key) (by omega)).1 h3
    omega
  have h3 : lessN l key = i := by omega
  rw [h3]
  exact List.getElem?_eq_getElem hi
/-- The table behind a put. -/
def putN (l : List MNode) (p : MPair) (tw : Int) : List MNode :=
  match l[lessN l p.fKey]? with
  | some x => bif decide (x.fP.fKey = p.fKey) then l.take (lessN l p.fKey) ++ ⟨p, x.fTower⟩ :: l.drop (lessN l p.fKey + 1) else l.take (lessN l p.fKey) ++ ⟨p, tw⟩ :: l.drop (lessN l p.fKey)
  | none => l.take (lessN l p.fKey) ++ ⟨p, tw⟩ :: l.drop (lessN l p.fKey)
theorem putN_same {l : List MNode} {p : MPair} {tw : Int} (hk : lessN l p.fKey < l.length) (e : l[lessN l p.fKey].fP.fKey = p.fKey) : putN l p tw = l.take (lessN l p.fKey) ++ ⟨p, l[lessN l p.fKey].fTower⟩ :: l.drop (lessN l p.fKey + 1) := by
  unfold putN
  rw [List.getElem?_eq_getElem hk]
  simp only [decide_eq_true e, cond_true]
theorem putN_new {l : List MNode} {p : MPair} {tw : Int} (h : ∀ hk : lessN l p.fKey < l.length, l[lessN l p.fKey].fP.fKey ≠ p.fKey) : putN l p tw = l.take (lessN l p.fKey) ++ ⟨p, tw⟩ :: l.drop (lessN l p.fKey) := by
  unfold putN
  by_cases hk : lessN l p.fKey < l.length
  · rw [List.getElem?_eq_getElem hk]
    simp only [decide_eq_false (h hk), cond_false]
  · rw [List.getElem?_eq_none (by omega)]
theorem rise_ins {l : List MNode} {p : MPair} {x : MNode} {k j : Nat} (hx : x.fP = p) (hr : Rising l) (hk : k = lessN l p.fKey) (hj : k ≤ j) (hb : ∀ i, (hi : i < l.length) → j ≤ i → kLt p.fKey l[i].fP.fKey = true) : Rising (l.take k ++ x :: l.drop j) := by
  unfold Rising
  rw [List.pairwise_append, List.pairwise_cons]
  have hlo : ∀ y, y ∈ l.take k → kLt y.fP.fKey x.fP.fKey = true := fun y hy => by
    rw [List.mem_take_iff_getElem] at hy
    obtain ⟨i, hi, rfl⟩ := hy
    rw [hx]
    exact (less_iff hr i (by omega)).2 (by omega)
  have hhi : ∀ y, y ∈ l.drop j → kLt x.fP.fKey y.fP.fKey = true := fun y hy => by
    rw [List.mem_drop_iff_getElem] at hy
    obtain ⟨i, hi, rfl⟩ := hy
    rw [hx]
    exact hb (j + i) (by omega) (by omega)
  exact ⟨hr.sublist (List.take_sublist _ _), ⟨hhi, hr.sublist (List.drop_sublist _ _)⟩, fun a ha b hb => by
    rcases List.mem_cons.1 hb with rfl | hb
    · exact hlo a ha
    · exact kLt_trans (hlo a ha) (hhi b hb)⟩
theorem less_hi {l : List MNode} {key : ByteArray} (hr : Rising l) {i : Nat} (hi : i < l.length) (h : lessN l key ≤ i) (hne : l[i].fP.fKey ≠ key) : kLt key l[i].fP.fKey = true := by
  have h1 : kLt l[i].fP.fKey key = false := Bool.eq_false_iff.2 (fun e => by have := (less_iff hr i hi).1 e; omega)
  exact kLt_tri h1 hne
/-- What is in the table behind a put. -/
theorem putN_ok {l : List MNode} {p : MPair} {tw : Int} (hm : memOkP ⟨l⟩ = true) (hp : pairOkP p = true) (ht : inR tw 1 4 = true) (hl : l.length ≠ 60) :
    memOkP ⟨putN l p tw⟩ = true ∧ (∃ y, y ∈ putN l p tw ∧ y.fP = p) ∧ (∀ x, x ∈ l → x.fP.fKey ≠ p.fKey → x ∈ putN l p tw) ∧ ((putN l p tw).length = l.length ↔ hasKey l p.fKey = true) ∧ (putN l p tw).length ≤ l.length + 1 := by
  obtain ⟨h1, h2, h3⟩ := memOk_iff.1 hm
  have hle := lessN_le l p.fKey
  by_cases hs : ∃ hk : lessN l p.fKey < l.length, l[lessN l p.fKey].fP.fKey = p.fKey
  · obtain ⟨hk, e⟩ := hs
    rw [putN_same hk e]
    have hlen : (l.take (lessN l p.fKey) ++ ⟨p, l[lessN l p.fKey].fTower⟩ :: l.drop (lessN l p.fKey + 1)).length = l.length := by simp; omega
    have hmem : ∀ x, x ∈ l.take (lessN l p.fKey) ++ ⟨p, l[lessN l p.fKey].fTower⟩ :: l.drop (lessN l p.fKey + 1) → x ∈ l ∨ x = ⟨p, l[lessN l p.fKey].fTower⟩ := fun x hx => by
      rcases List.mem_append.1 hx with hx | hx
      · exact .inl (List.mem_of_mem_take hx)
      · rcases List.mem_cons.1 hx with hx | hx
        · exact .inr hx
        · exact .inl (List.mem_of_mem_drop hx)
    refine ⟨memOk_iff.2 ⟨by rw [hlen]; exact h1, fun x hx => ?_, ?_⟩, ⟨⟨p, l[lessN l p.fKey].fTower⟩, by simp, rfl⟩, fun x hx hne => ?_, ?_, by rw [hlen]; omega⟩
    · rcases hmem x hx with hx | rfl
      · exact h2 x hx
      · exact ⟨hp, (h2 _ (List.getElem_mem hk)).2⟩
    · refine rise_ins (p := p) rfl h3 rfl (by omega) (fun i hi hji => ?_)
      have := (List.pairwise_iff_getElem.1 h3) _ i hk hi (by omega)
      rw [e] at this
      exact this
    · obtain ⟨i, hi, rfl⟩ := List.mem_iff_getElem.1 hx
      have hik : i ≠ lessN l p.fKey := fun h => hne (by subst h; exact e)
      by_cases hlt : i < lessN l p.fKey
      · exact List.mem_append_left _ (by rw [List.mem_take_iff_getElem]; exact ⟨i, by omega, rfl⟩)
      · refine List.mem_append_right _ (List.mem_cons_of_mem _ ?_)
        rw [List.mem_drop_iff_getElem]
        exact ⟨i - (lessN l p.fKey + 1), by omega, by congr 1; omega⟩
    · rw [hlen]
      exact ⟨fun _ => hasKey_iff.2 ⟨_, List.getElem_mem hk, e⟩, fun _ => rfl⟩
  · have hn : ∀ hk : lessN l p.fKey < l.length, l[lessN l p.fKey].fP.fKey ≠ p.fKey := fun hk e => hs ⟨hk, e⟩
    have hno : ∀ x, x ∈ l → x.fP.fKey ≠ p.fKey := fun x hx e => by
      have h4 := less_at h3 hx e
      have hk : lessN l p.fKey < l.length := (List.getElem?_eq_some_iff.1 h4).1
      exact hn hk (by rw [(List.getElem?_eq_some_iff.1 h4).2]; exact e)
    rw [putN_new hn]
    have hlen : (l.take (lessN l p.fKey) ++ (⟨p, tw⟩ : MNode) :: l.drop (lessN l p.fKey)).length = l.length + 1 := by simp; omega
    refine ⟨memOk_iff.2 ⟨by rw [hlen]; omega, fun x hx => ?_, ?_⟩, ⟨⟨p, tw⟩, by simp, rfl⟩, fun x hx hne => ?_, ?_, by rw [hlen]; omega⟩
    · rcases List.mem_append.1 hx with hx | hx
      · exact h2 x (List.mem_of_mem_take hx)
      · rcases List.mem_cons.1 hx with rfl | hx
        · exact ⟨hp, ht⟩
        · exact h2 x (List.mem_of_mem_drop hx)
    · exact rise_ins (p := p) rfl h3 rfl (Nat.le_refl _) (fun i hi hji => less_hi h3 hi hji (hno _ (List.getElem_mem hi)))
    · rw [← List.take_append_drop (lessN l p.fKey) l, List.mem_append] at hx
      rcases hx with hx | hx
      · exact List.mem_append_left _ hx
      · exact List.mem_append_right _ (List.mem_cons_of_mem _ hx)
    · rw [hlen]
      constructor
      · intro h; omega
      · intro h
        obtain ⟨x, hx, e⟩ := hasKey_iff.1 h
        exact absurd e (hno x hx)
end Go.Proofs.YtmedljankefhbaaDoor

namespace Go.Proofs.YtmedljankefhbaaDoor
open Go.RowKit Go.Maps
theorem noKey {l : List MNode} {key : ByteArray} (hr : Rising l) {k : Nat} (hk : k < l.length) (hj : ∀ j, (h : j < l.length) → j < k → kLt l[j].fP.fKey key = true) (hne : l[k].fP.fKey ≠ key) (hl : kLt l[k].fP.fKey key = false) : hasKey l key = false := by
  rw [Bool.eq_false_iff]
  intro h
  obtain ⟨x, hx, e⟩ := hasKey_iff.1 h
  obtain ⟨i, hi, rfl⟩ := List.mem_iff_getElem.1 hx
  rcases Nat.lt_trichotomy i k with g | g | g
  · have h2 := hj i hi g; rw [e, kLt_irrefl] at h2; cases h2
  · subst g; exact hne e
  · have h2 := (List.pairwise_iff_getElem.1 hr) k i hk hi g
    have h3 := kLt_trans (kLt_tri hl hne) h2
    rw [e, kLt_irrefl] at h3
    cases h3
theorem noKey_all {l : List MNode} {key : ByteArray} (hj : ∀ j, (h : j < l.length) → kLt l[j].fP.fKey key = true) : hasKey l key = false := by
  rw [Bool.eq_false_iff]
  intro h
  obtain ⟨x, hx, e⟩ := hasKey_iff.1 h
  obtain ⟨i, hi, rfl⟩ := List.mem_iff_getElem.1 hx
  have h2 := hj i hi
  rw [e, kLt_irrefl] at h2
  cases h2

end Go.Proofs.YtmedljankefhbaaDoor
