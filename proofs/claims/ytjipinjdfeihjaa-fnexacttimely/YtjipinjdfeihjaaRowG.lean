/-
  Rows of structs: 'copy' between them, appends onto those of one's own, variables' blocks that may be written; no program is named here.
-/
import Derived.Laws.CopyOwn
import Derived.Test.YtjipinjdfeihjaaDatR
import Derived.Test.YtjipinjdfeihjaaDatX
namespace Go.Proofs.Ytjipinjdfeihjaa
open Go.RowKit
set_option linter.unusedVariables false
set_option linter.unusedSimpArgs false

/-- The cells of a list that is read, one behind the other. -/
theorem RdS.cells {α : Type} {size : Nat} {R : Rep α} {B : Nat} {w : World} {b off : Nat} {l : List α} (h : RdS size R B w (some ⟨b, off, none⟩) l) : ∀ k, k ≤ l.length →
    ∃ css : List (List Value), css.length = k ∧ (∀ c, c ∈ css → c.length = size) ∧ (∀ j, (h1 : j < l.length) → (h2 : j < css.length) → R B w css[j] l[j]) ∧ ∀ i u, css.flatten[i]? = some u → w.cell? ⟨b, off + i, none⟩ = some u
  | 0, _ => ⟨[], rfl, (fun _ hc => by cases hc), (fun _ _ h2 => by simp at h2), (fun i u hu => by simp at hu)⟩
  | k + 1, hk => by
    obtain ⟨css, h1, h2, h3, h4⟩ := RdS.cells h k (by omega)
    obtain ⟨b', off', e, _, cs, hc1, hc2, hc3⟩ := h k (by omega)
    simp only [Option.some.injEq, Addr.mk.injEq, and_true] at e
    obtain ⟨rfl, rfl⟩ := e
    have hfl : css.flatten.length = k * size := by
      rw [List.length_flatten]
      have : css.map List.length = List.replicate k size := by
        apply List.ext_getElem
        · simp [h1]
        · intro i hi1 hi2
          simp only [List.getElem_map, List.getElem_replicate]
          exact h2 _ (List.getElem_mem _)
      rw [this]
      simp
    refine ⟨css ++ [cs], by simp [h1], ?_, ?_, ?_⟩
    · intro c hc
      rcases List.mem_append.1 hc with hc | hc
      · exact h2 c hc
      · simp at hc; subst hc; exact hc1
    · intro j hj hj2
      by_cases hjk : j < k
      · rw [List.getElem_append_left (by omega)]
        exact h3 j hj (by omega)
      · have hje : j = k := by simp at hj2; omega
        subst hje
        rw [List.getElem_append_right (by omega)]
        simpa [h1] using hc3
    · intro i u hu
      rw [List.flatten_append] at hu
      by_cases hi : i < k * size
      · rw [List.getElem?_append_left (by omega)] at hu
        exact h4 i u hu
      · rw [List.getElem?_append_right (by omega), hfl] at hu
        have h5 := hc2 (i - k * size) u (by simpa using hu)
        rw [show off + k * size + (i - k * size) = off + i from by omega] at h5
        exact h5

section
variable {P : Program} (w : World)

end

theorem Turn.drew {F : List Nat} {a b : World} (h : Turn F a b) : Turn F a b.drew := h.trans (Turn.ofBelow (Below.drew (Below.refl _ _)))

theorem Turn.alloc {F : List Nat} {a b : World} (h : Turn F a b) (o : Obj) : Turn F a (b.alloc o) := h.trans (Turn.ofBelow (Below.alloc (Below.refl _ _) (Nat.le_refl _) o))

/-- One more element behind a list of one's own. -/
theorem ownS.push {α : Type} {size : Nat} {e : TypeId} {O : ORep α} {R : Rep α} (hO : O.Good R size) {w : World} {v : Value} {l : List α} {F : List Nat} (h : ownS size e O w v l F) (hN : F.Nodup) :
    ∃ xs, w.ownsRow 0 e size v l.length xs ∧ ∀ (w' : World) (v' : Value) (news : List Value) (m' : α) (Fx : List Nat), w'.ownsRow 0 e size v' (l.length + 1) (xs ++ news) → w.grownBy w' v.ownBlock → (v'.ownBlock = v.ownBlock ∨ v'.ownBlock = some w.heap.size) → O w news m' Fx → Fx.Nodup → (∀ b, b ∈ Fx → b ∉ F) →
      ∃ F', ownS size e O w' v' (l ++ [m']) F' ∧ F'.Nodup ∧ ∀ b, b ∈ F' → b ∈ F ∨ b ∈ Fx ∨ b = w.heap.size := by
  have key : ∀ (Fs : List (List Nat)) (xs : List Value), Fs.length = l.length → (∀ j, (h : j < l.length) → O w ((xs.drop (j * size)).take size) l[j] (Fs.getD j [])) → (∀ b, b ∈ Fs.flatten → b ∈ F) → Fs.flatten.Nodup → (∀ k, v.ownBlock = some k → k ∈ F ∧ k ∉ Fs.flatten) → xs.length = l.length * size → 
      ∀ (w' : World) (v' : Value) (news : List Value) (m' : α) (Fx : List Nat), w'.ownsRow 0 e size v' (l.length + 1) (xs ++ news) → w.grownBy w' v.ownBlock → (v'.ownBlock = v.ownBlock ∨ v'.ownBlock = some w.heap.size) → O w news m' Fx → Fx.Nodup → (∀ b, b ∈ Fx → b ∉ F) →
      ∃ F', ownS size e O w' v' (l ++ [m']) F' ∧ F'.Nodup ∧ ∀ b, b ∈ F' → b ∈ F ∨ b ∈ Fx ∨ b = w.heap.size := by
    intro Fs xs f1 f2 f3 f4 f5 hxl w' v' news m' Fx ho hg hat hx hxN hxF
    have hnl := hO.len hx
    have hfr : ∀ b, b < w.heap.size → (∀ k, v.ownBlock = some k → b ≠ k) → w'.heap[b]? = w.heap[b]? := fun b hb hne => hg.block b hb (fun hh => hne b hh.symm rfl)
    have hFlt : ∀ j, (h : j < l.length) → ∀ b, b ∈ Fs.getD j [] → b < w.heap.size := fun j hj b hb => hO.lt (f2 j hj) b hb
    have hFin : ∀ j, (h : j < l.length) → ∀ b, b ∈ Fs.getD j [] → b ∈ Fs.flatten := fun j hj b hb => mem_flatten_getD (by omega) hb
    rcases ho.2 with ⟨_, h0⟩ | ⟨g, cap, cur, rfl, hb, hg', hnc, hm, hs, ht⟩
    · omega
    · have hgb : g ∈ F ∨ g = w.heap.size := by
        rcases hat with h | h
        · exact .inl (f5 g h.symm).1
        · right; simpa [Value.ownBlock] using h
      have hgn : g ∉ (Fs ++ [Fx]).flatten := by
        rw [List.flatten_append, List.mem_append]
        rintro (h | h)
        · rcases hat with h' | h'
          · exact (f5 g h'.symm).2 h
          · have hgw : g = w.heap.size := by simpa [Value.ownBlock] using h'
            obtain ⟨j, hj, hjb⟩ := of_mem_flatten h
            have := hFlt j (by omega) g hjb
            omega
        · have h : g ∈ Fx := by simpa using h
          rcases hgb with h' | h'
          · exact hxF g h h'
          · have := hO.lt hx g h; omega
      refine ⟨g :: (Fs ++ [Fx]).flatten, .inr ⟨g, cap, cur, Fs ++ [Fx], by simp, hg', by simpa using hnc, hm, hs, by simp [f1], ?_, rfl⟩, List.nodup_cons.2 ⟨hgn, ?_⟩, ?_⟩
      · intro j hj
        have hj1 : j ≤ l.length := by simp at hj; omega
        have hpart : ∀ j, j ≤ l.length → (cur.toList.drop (j * size)).take size = ((xs ++ news).drop (j * size)).take size := by
          intro j hj
          rw [← ht]
          have hmul : (j + 1) * size ≤ (l.length + 1) * size := Nat.mul_le_mul_right _ (by omega)
          rw [Nat.succ_mul] at hmul
          apply List.ext_getElem?
          intro i
          rw [List.getElem?_take, List.getElem?_take, List.getElem?_drop, List.getElem?_drop, List.getElem?_take]
          by_cases hi : i < size
          · rw [if_pos hi, if_pos hi, if_pos (by omega)]
          · rw [if_neg hi, if_neg hi]
        by_cases hjl : j < l.length
        · have e1 : ((xs ++ news).drop (j * size)).take size = (xs.drop (j * size)).take size := by
            have hmul : (j + 1) * size ≤ l.length * size := Nat.mul_le_mul_right _ hjl
            rw [Nat.succ_mul] at hmul
            apply List.ext_getElem?
            intro i
            rw [List.getElem?_take, List.getElem?_take, List.getElem?_drop, List.getElem?_drop]
            by_cases hi : i < size
            · rw [if_pos hi, if_pos hi, List.getElem?_append_left (by omega)]
            · rw [if_neg hi, if_neg hi]
          have e2 : (Fs ++ [Fx]).getD j [] = Fs.getD j [] := by rw [List.getD_eq_getElem?_getD, List.getD_eq_getElem?_getD, List.getElem?_append_left (by omega)]
          rw [hpart j hj1, e1, e2, List.getElem_append_left hjl]
          refine hO.frame (f2 j hjl) (fun b hb => hfr b (hFlt j hjl b hb) (fun k hk hbk => ?_))
          subst hbk
          exact (f5 b hk).2 (hFin j hjl b hb)
        · have hje : j = l.length := by omega
          subst hje
          have e1 : ((xs ++ news).drop (l.length * size)).take size = news := by
            rw [← hxl, List.drop_left, List.take_of_length_le (by omega)]
          have e2 : (Fs ++ [Fx]).getD l.length [] = Fx := by rw [List.getD_eq_getElem?_getD, List.getElem?_append_right (by omega), f1, Nat.sub_self]; rfl
          rw [hpart _ hj1, e1, e2]
          have e3 : (l ++ [m'])[l.length] = m' := by simp
          rw [e3]
          refine hO.frame hx (fun b hb => hfr b (hO.lt hx b hb) (fun k hk hbk => ?_))
          subst hbk
          exact hxF b hb (f5 b hk).1
      · rw [List.flatten_append]
        refine List.nodup_append.2 ⟨f4, by simpa using hxN, ?_⟩
        intro a ha b hb' hab
        subst hab
        exact hxF a (by simpa using hb') (f3 a ha)
      · intro b hb
        rcases List.mem_cons.1 hb with rfl | hb
        · rcases hgb with h | h
          · exact .inl h
          · exact .inr (.inr h)
        · rw [List.flatten_append, List.mem_append] at hb
          rcases hb with hb | hb
          · exact .inl (f3 b hb)
          · exact .inr (.inl (by simpa using hb))
  rcases h with ⟨rfl, rfl, rfl⟩ | ⟨g, cap, cur, Fs, rfl, h2, h3, h4, h5, h6, h7, rfl⟩
  · exact ⟨[], World.ownsRow_nil w 0 e size, key [] [] rfl (fun j hj => by simp at hj) (fun b hb => by simp at hb) (by simp) (fun k hk => by simp [Value.ownBlock] at hk) (by simp)⟩
  · rw [List.nodup_cons] at hN
    have hcl : cur.toList.length = cap * size := by simpa using h5
    have hle : l.length * size ≤ cap * size := Nat.mul_le_mul_right _ h3
    refine ⟨cur.toList.take (l.length * size), ⟨by rw [List.length_take]; omega, .inr ⟨g, cap, cur, rfl, Nat.zero_le _, h2, h3, h4, h5, rfl⟩⟩, key Fs _ h6 ?_ (fun b hb => List.mem_cons_of_mem _ hb) hN.2 (fun k hk => by simp [Value.ownBlock] at hk; subst hk; exact ⟨by simp, hN.1⟩) (by rw [List.length_take]; omega)⟩
    intro j hj
    have hmul : (j + 1) * size ≤ l.length * size := Nat.mul_le_mul_right _ hj
    rw [Nat.succ_mul] at hmul
    have e1 : ((cur.toList.take (l.length * size)).drop (j * size)).take size = (cur.toList.drop (j * size)).take size := by
      apply List.ext_getElem?
      intro i
      rw [List.getElem?_take, List.getElem?_take, List.getElem?_drop, List.getElem?_drop, List.getElem?_take]
      by_cases hi : i < size
      · rw [if_pos hi, if_pos hi, if_pos (by omega)]
      · rw [if_neg hi, if_neg hi]
    rw [e1]
    exact h7 j hj

def Bw (w : World) (b : Nat) (t : TypeId) (vs : List Value) : Prop := w.heap[b]? = some (.cells vs.toArray t (0, 0))

theorem Bw.lt {w : World} {b : Nat} {t : TypeId} {vs : List Value} (h : Bw w b t vs) : b < w.heap.size := (Array.getElem?_eq_some_iff.1 h).1

theorem Bw.cell {w : World} {b : Nat} {t : TypeId} {vs : List Value} (h : Bw w b t vs) (i : Nat) (u : Value) (hu : vs[i]? = some u) : w.cell? ⟨b, i, none⟩ = some u := by
  rw [cell_of_row w b i vs.toArray t (0, 0) h]
  simpa using hu

theorem Bw.free {w : World} {b : Nat} {t : TypeId} {vs : List Value} (h : Bw w b t vs) (i : Nat) : w.frozen? ⟨b, i, none⟩ = false := frozen_of_row w b i _ t h

theorem Bw.below {B : Nat} {w w' : World} {b : Nat} {t : TypeId} {vs : List Value} (h : Bw w b t vs) (hb : Below B w w') (hB : b < B) : Bw w' b t vs := (hb.block b hB).trans h

theorem Bw.under {w w' : World} {b : Nat} {t : TypeId} {vs : List Value} (h : Bw w b t vs) (hb : Below w.heap.size w w') : Bw w' b t vs := h.below hb h.lt

theorem Bw.turn {F : List Nat} {w w' : World} {b : Nat} {t : TypeId} {vs : List Value} (h : Bw w b t vs) (ht : Turn F w w') (hF : b ∉ F) : Bw w' b t vs := (ht.block b h.lt hF).trans h

theorem Bw.alloc {w : World} {b : Nat} {t : TypeId} {vs : List Value} (h : Bw w b t vs) (o : Obj) : Bw (w.alloc o) b t vs := h.under ((Below.refl _ _).alloc (Nat.le_refl _) o)

theorem Bw.new (w : World) (t : TypeId) (vs : List Value) : Bw (w.alloc (.cells vs.toArray t)) w.heap.size t vs := by
  show (w.heap.push _)[w.heap.size]? = _
  rw [Array.getElem?_push_size]

theorem Bw.new' (w : World) (t : TypeId) (vs : List Value) {b : Nat} (hb : b = w.heap.size) : Bw (w.alloc (.cells vs.toArray t)) b t vs := by
  subst hb
  exact Bw.new w t vs

theorem Bw.drew {w : World} {b : Nat} {t : TypeId} {vs : List Value} (h : Bw w b t vs) : Bw w.drew b t vs := h

theorem Bw.put {w : World} {b : Nat} {t : TypeId} {vs : List Value} (h : Bw w b t vs) (i : Nat) (u : Value) : Bw (w.setCell ⟨b, i, none⟩ u) b t (vs.set i u) := by
  have := heap_setCell_same w b i vs.toArray t u h
  unfold Bw
  rw [this]
  simp

theorem ownS.leaf {α : Type} {size : Nat} {e : TypeId} {O : ORep α} {R : Rep α} (hO : O.Good R size) {w : World} {a : Option Addr} {c : Nat} {l : List α} {F : List Nat} (h : ownS size e O w (.slice a l.length c) l F) : LeafL size R w.heap.size w a c l := by
  obtain ⟨a', c', he, h1, h2, h3⟩ := ownS.read hO h
  simp only [Value.slice.injEq, true_and] at he
  obtain ⟨rfl, rfl⟩ := he
  exact ⟨h1, h2, h3⟩

end Go.Proofs.Ytjipinjdfeihjaa
