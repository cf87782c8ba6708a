/-
  Rows of nodes of one's own, cell by cell: how they are read, appended and written over; no program is named here.
-/
import Derived.Test.YtadadkookbkkoaaDoorPDat
import Derived.Test.YtadadkookbkkoaaDoorRowG
namespace Go.Proofs.YtadadkookbkkoaaDoor
open Go.RowKit
set_option linter.unusedVariables false
set_option linter.unusedSimpArgs false

def ndC (x : MNode) : List Value := [.string x.fP.fKey, .string x.fP.fVal, .bool x.fP.fGone, .int .i64 x.fTower]
def flatN (l : List MNode) : List Value := l.flatMap ndC
def NdOk (x : MNode) : Prop := x.fP.fKey.size ≤ 9223372036854775807 ∧ x.fP.fVal.size ≤ 9223372036854775807 ∧ (Lit.int .i64 x.fTower).wf = true
theorem flatN_len (l : List MNode) : (flatN l).length = l.length * 4 := by
  induction l with
  | nil => rfl
  | cons x r ih => unfold flatN at ih ⊢; rw [List.flatMap_cons, List.length_append, ih]; simp [ndC]; omega
theorem flatN_app (a b : List MNode) : flatN (a ++ b) = flatN a ++ flatN b := by unfold flatN; rw [List.flatMap_append]
theorem flatN_take : ∀ (l : List MNode) (k : Nat), (flatN l).take (k * 4) = flatN (l.take k)
  | [], k => by simp [flatN]
  | x :: r, 0 => by simp [flatN]
  | x :: r, k + 1 => by
    have ih := flatN_take r k
    unfold flatN at ih ⊢
    rw [List.flatMap_cons, List.take_succ_cons, List.flatMap_cons, ← ih]
    rw [show (k + 1) * 4 = (ndC x).length + k * 4 by simp [ndC]; omega, List.take_length_add_append]
theorem flatN_drop : ∀ (l : List MNode) (k : Nat), (flatN l).drop (k * 4) = flatN (l.drop k)
  | [], k => by simp [flatN]
  | x :: r, 0 => by simp [flatN]
  | x :: r, k + 1 => by
    have ih := flatN_drop r k
    unfold flatN at ih ⊢
    rw [List.flatMap_cons, List.drop_succ_cons, ← ih]
    rw [show (k + 1) * 4 = (ndC x).length + k * 4 by simp [ndC]; omega, List.drop_length_add_append]
theorem flatN_at {l : List MNode} {k : Nat} (h : k < l.length) : ((flatN l).drop (k * 4)).take 4 = ndC l[k] := by
  rw [flatN_drop, List.drop_eq_getElem_cons h]
  unfold flatN
  rw [List.flatMap_cons]
  exact List.take_left' rfl
/-- The pair of one node is written over. -/
theorem flatN_set {l : List MNode} {k : Nat} (h : k < l.length) (p : MPair) : (flatN l).take (k * 4) ++ [.string p.fKey, .string p.fVal, .bool p.fGone] ++ (flatN l).drop (k * 4 + 3) = flatN (l.set k ⟨p, l[k].fTower⟩) := by
  have hl : l.set k ⟨p, l[k].fTower⟩ = l.take k ++ ⟨p, l[k].fTower⟩ :: l.drop (k + 1) := by rw [List.set_eq_take_append_cons_drop, if_pos h]
  rw [hl, flatN_app, flatN_take, List.append_assoc]
  congr 1
  rw [← List.drop_drop, flatN_drop, List.drop_eq_getElem_cons h]
  unfold flatN
  rw [List.flatMap_cons, List.flatMap_cons]
  rfl

theorem ownN_ownS {w : World} {base : Nat} {v : Value} {l : List MNode} (h : w.ownsRow base 36 4 v l.length (flatN l)) (hok : ∀ x, x ∈ l → NdOk x) : ownS 4 36 oNode w v l v.ownBlock.toList := by
  rcases h.2 with ⟨rfl, h0⟩ | ⟨g, cap, cur, rfl, hb, hg, hnc, hm, hs, ht⟩
  · exact .inl ⟨rfl, List.eq_nil_of_length_eq_zero h0, rfl⟩
  · refine .inr ⟨g, cap, cur, List.replicate l.length [], rfl, hg, hnc, hm, hs, by simp, fun j hj => ?_, ?_⟩
    · have e1 : (cur.toList.drop (j * 4)).take 4 = ndC l[j] := by
        rw [← flatN_at hj, ← ht, List.drop_take, List.take_take, Nat.min_eq_left (by omega)]
      have hx := hok l[j] (List.getElem_mem hj)
      refine ⟨e1, hx.1, hx.2.1, trivial, hx.2.2, ?_⟩
      rw [List.getD_eq_getElem?_getD, List.getElem?_replicate]
      split <;> rfl
    · have : (List.replicate l.length ([] : List Nat)).flatten = [] := by
        induction l.length with
        | zero => rfl
        | succ n ih => rw [List.replicate_succ, List.flatten_cons, ih]; rfl
      rw [this]
      rfl
theorem ownN_oMem {w : World} {base : Nat} {v : Value} {l : List MNode} (h : w.ownsRow base 36 4 v l.length (flatN l)) (hok : ∀ x, x ∈ l → NdOk x) : oMem w [v] ⟨l⟩ v.ownBlock.toList :=
  ⟨v, v.ownBlock.toList, rfl, ownN_ownS h hok, by simp⟩
theorem ownN_leaf {w : World} {base : Nat} {v : Value} {l : List MNode} (h : w.ownsRow base 36 4 v l.length (flatN l)) (hok : ∀ x, x ∈ l → NdOk x) : ∃ a c, v = .slice a l.length c ∧ LeafL 4 rNode w.heap.size w a c l := by
  obtain ⟨a, c, h1, h2, h3, h4⟩ := ownS.read oNode_good (ownN_ownS h hok)
  exact ⟨a, c, h1, h2, h3, h4⟩

theorem Src.nds {P : Program} {w : World} {B : Nat} {a : Option Addr} {l : List MNode} {tx e' : TypeId} {n c : Nat} (hk : P.underlying tx = some (.slice e')) (hn : l.length = n) (hr : RdS 4 rNode B w a l) : Src P 4 tx (.slice a n c) n (flatN l) w := by
  cases a with
  | none =>
    have hz : l = [] := by
      cases l with
      | nil => rfl
      | cons z r =>
        obtain ⟨_, _, h, _⟩ := hr 0 (by simp)
        cases h
    subst hz
    simp only [List.length_nil] at hn
    subst hn
    exact Src.ofNil w hk c
  | some ad =>
    by_cases h0 : n = 0
    · subst h0
      have hz : l = [] := List.eq_nil_of_length_eq_zero hn
      subst hz
      exact Src.ofSlice w hk ad 0 c [] (by simp) (fun j u hu => by simp at hu) (fun u hu => by cases hu)
    · obtain ⟨b, off, e, _⟩ := hr 0 (by omega)
      simp only [Option.some.injEq] at e
      subst e
      obtain ⟨css, c1, c2, c3, c4⟩ := hr.cells l.length (Nat.le_refl _)
      have hcf : css.flatten = flatN l := by
        have : css = l.map ndC := by
          apply List.ext_getElem (by simpa using c1)
          intro j h1 h2
          rw [List.getElem_map]
          exact (c3 j (by simpa using h2) h1).1
        rw [this]; unfold flatN; rw [List.flatMap_def]
      rw [← hcf]
      refine Src.ofSlice w hk ⟨b, off, none⟩ n c css.flatten (by rw [hcf, flatN_len, hn]) (fun j u hu => by rw [Addr.add_lit]; exact c4 j u hu) ?_
      intro v hv
      rw [hcf] at hv
      unfold flatN at hv
      obtain ⟨x, _, hx⟩ := List.mem_flatMap.1 hv
      simp only [ndC, List.mem_cons, List.not_mem_nil, or_false] at hx
      rcases hx with rfl | rfl | rfl | rfl <;> rfl

/-- Some cells of a row of one's own are written over. -/
theorem own_setCells {w : World} {base e size g n cap o : Nat} {xs news : List Value} (h : w.ownsRow base e size (.slice (some ⟨g, 0, none⟩) n cap) n xs) (ho : o + news.length ≤ n * size) :
    (w.setCells g o news).ownsRow base e size (.slice (some ⟨g, 0, none⟩) n cap) n (xs.take o ++ news ++ xs.drop (o + news.length)) := by
  rcases h.2 with ⟨h0, _⟩ | ⟨g', cap', cur, h0, hb, hg, hnc, hm, hs, ht⟩
  · cases h0
  · simp only [Value.slice.injEq, Option.some.injEq, Addr.mk.injEq, and_true, true_and] at h0
    obtain ⟨rfl, rfl⟩ := h0
    have hmul : n * size ≤ cap * size := Nat.mul_le_mul_right _ hnc
    obtain ⟨cur', c1, c2, c3⟩ := setCells_row' g e news o w cur hg (by omega)
    have hx := h.1
    refine ⟨by simp; omega, .inr ⟨g, cap, cur', rfl, hb, c1, hnc, hm, by rw [c2, hs], ?_⟩⟩
    have h1 : (cur.toList.take o).length = o := by simp; omega
    have h2 : (cur.toList.take o ++ news).length = o + news.length := by rw [List.length_append, h1]
    rw [c3, ← ht, List.take_append (l₁ := cur.toList.take o ++ news), List.take_of_length_le (l := cur.toList.take o ++ news) (by rw [h2]; exact ho), h2, List.take_take, Nat.min_eq_left (by omega), List.drop_take]

end Go.Proofs.YtadadkookbkkoaaDoor
