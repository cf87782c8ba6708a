/-
  Variables' blocks that may be written; no program is named here.
-/
import Derived.Test.YtcbhmbgmeodjdaaDoorDatY
import Derived.Test.YtcbhmbgmeodjdaaDoorDskX
namespace Go.Proofs.YtcbhmbgmeodjdaaDoor
open Go.RowKit
set_option linter.unusedVariables false
set_option linter.unusedSimpArgs false

def Bw (w : World) (b : Nat) (t : TypeId) (vs : List Value) : Prop := w.heap[b]? = some (.cells vs.toArray t (0, 0))

theorem Bw.lt {w : World} {b : Nat} {t : TypeId} {vs : List Value} (h : Bw w b t vs) : b < w.heap.size := (Array.getElem?_eq_some_iff.1 h).1
theorem Bw.cell {w : World} {b : Nat} {t : TypeId} {vs : List Value} (h : Bw w b t vs) (i : Nat) (u : Value) (hu : vs[i]? = some u) : w.cell? ⟨b, i, none⟩ = some u := by
  rw [cell_of_row w b i vs.toArray t (0, 0) h]
  simpa using hu
theorem Bw.free {w : World} {b : Nat} {t : TypeId} {vs : List Value} (h : Bw w b t vs) (i : Nat) : w.frozen? ⟨b, i, none⟩ = false := frozen_of_row w b i _ t h
theorem Bw.below {B : Nat} {w w' : World} {b : Nat} {t : TypeId} {vs : List Value} (h : Bw w b t vs) (hb : Below B w w') (hB : b < B) : Bw w' b t vs := (hb.block b hB).trans h
theorem Bw.under {w w' : World} {b : Nat} {t : TypeId} {vs : List Value} (h : Bw w b t vs) (hb : Below w.heap.size w w') : Bw w' b t vs := h.below hb h.lt
theorem Bw.turn {F : List Nat} {w w' : World} {b : Nat} {t : TypeId} {vs : List Value} (h : Bw w b t vs) (ht : Turn F w w') (hF : b ∉ F) : Bw w' b t vs := (ht.block b h.lt hF).trans h
theorem Bw.alloc {w : World} {b : Nat} {t : TypeId} {vs : List Value} (h : Bw w b t vs) (o : Obj) : Bw (w.alloc o) b t vs := h.under ((Below.refl _ _).alloc (Nat.le_refl _) o)
theorem Bw.new (w : World) (t : TypeId) (vs : List Value) : Bw (w.alloc (.cells vs.toArray t)) w.heap.size t vs := by
  show (w.heap.push _)[w.heap.size]? = _
  rw [Array.getElem?_push_size]
theorem Bw.new' (w : World) (t : TypeId) (vs : List Value) {b : Nat} (hb : b = w.heap.size) : Bw (w.alloc (.cells vs.toArray t)) b t vs := by
  subst hb
  exact Bw.new w t vs
theorem Bw.drew {w : World} {b : Nat} {t : TypeId} {vs : List Value} (h : Bw w b t vs) : Bw w.drew b t vs := h
theorem Bw.bx {w : World} {b : Nat} {t : TypeId} {vs : List Value} (h : Bw w b t vs) : Bx w b vs := ⟨h.lt, fun i u hu => h.cell i u hu⟩
theorem Bw.put {w : World} {b : Nat} {t : TypeId} {vs : List Value} (h : Bw w b t vs) (i : Nat) (u : Value) : Bw (w.setCell ⟨b, i, none⟩ u) b t (vs.set i u) := by
  have := heap_setCell_same w b i vs.toArray t u h
  unfold Bw
  rw [this]
  simp

/-- Four cells of one block are written. -/
theorem turn4 (w : World) (b : Nat) (u0 u1 u2 u3 : Value) : Turn [b] w ((((w.setCell ⟨b, 0, none⟩ u0).setCell ⟨b, 1, none⟩ u1).setCell ⟨b, 2, none⟩ u2).setCell ⟨b, 3, none⟩ u3) :=
  Turn.setCell (Turn.setCell (Turn.setCell (Turn.setCell (Turn.refl _ _) (by simp) _) (by simp) _) (by simp) _) (by simp) _

theorem ownS.leaf {α : Type} {size : Nat} {e : TypeId} {O : ORep α} {R : Rep α} (hO : O.Good R size) {w : World} {a : Option Addr} {c : Nat} {l : List α} {F : List Nat} (h : ownS size e O w (.slice a l.length c) l F) : LeafL size R w.heap.size w a c l := by
  obtain ⟨a', c', he, h1, h2, h3⟩ := ownS.read hO h
  simp only [Value.slice.injEq, true_and] at he
  obtain ⟨rfl, rfl⟩ := he
  exact ⟨h1, h2, h3⟩

/-- A disk of one's own: its cells' shapes. -/
theorem oDisk_cells {w : World} {cs : List Value} {m : MDisk} {F : List Nat} (h : oDisk w cs m F) : ∃ a0 c0 a1 c1 a2 c2 F0 F1 F2, cs = [.slice a0 m.fInodes.length c0, .slice a1 m.fNames.length c1, .slice a2 m.fSafe.length c2, .int .i64 m.fNext] ∧
    ownS 3 171 oInode w (.slice a0 m.fInodes.length c0) m.fInodes F0 ∧ ownS 2 169 oEntry w (.slice a1 m.fNames.length c1) m.fNames F1 ∧ ownS 2 169 oEntry w (.slice a2 m.fSafe.length c2) m.fSafe F2 ∧ (Lit.int .i64 m.fNext).wf = true ∧ F = F0 ++ F1 ++ F2 ++ [] := by
  obtain ⟨v0, F0, v1, F1, v2, F2, rfl, h0, h1, h2, h3, rfl⟩ := h
  obtain ⟨a0, c0, rfl, _⟩ := ownS.read oInode_good h0
  obtain ⟨a1, c1, rfl, _⟩ := ownS.read oEntry_good h1
  obtain ⟨a2, c2, rfl, _⟩ := ownS.read oEntry_good h2
  exact ⟨a0, c0, a1, c1, a2, c2, F0, F1, F2, rfl, h0, h1, h2, h3, rfl⟩

/-- The inode of one's own at a place is changed in one cell: the disk with it. -/
theorem oDisk_inode {w : World} {g c0 : Nat} {a1 a2 : Option Addr} {c1 c2 : Nat} {m : MDisk} {F0 F1 F2 : List Nat} (h0 : ownS 3 171 oInode w (.slice (some ⟨g, 0, none⟩) m.fInodes.length c0) m.fInodes F0) (h1 : ownS 2 169 oEntry w (.slice a1 m.fNames.length c1) m.fNames F1) (h2 : ownS 2 169 oEntry w (.slice a2 m.fSafe.length c2) m.fSafe F2)
    (h3 : (Lit.int .i64 m.fNext).wf = true) (hN : (F0 ++ F1 ++ F2 ++ []).Nodup) {p i : Nat} (hp : p < m.fInodes.length) (hi : i < 3) (u : Value) (f : MInode → MInode) (Fn : List Nat) (hFn : ∀ b, b ∈ Fn → b ∉ F0 ++ F1 ++ F2)
    (hm : ∀ cs Fk, oInode w cs m.fInodes[p] Fk → Fk.Nodup → ∃ G, oInode w (cs.set i u) (f m.fInodes[p]) G ∧ G.Nodup ∧ ∀ b, b ∈ G → b ∈ Fk ∨ b ∈ Fn) :
    ∃ F', oDisk (w.setCell ⟨g, p * 3 + i, none⟩ u) [.slice (some ⟨g, 0, none⟩) m.fInodes.length c0, .slice a1 m.fNames.length c1, .slice a2 m.fSafe.length c2, .int .i64 m.fNext] { m with fInodes := updI m.fInodes p f } F' ∧ F'.Nodup ∧ (∀ b, b ∈ F' → b ∈ F0 ++ F1 ++ F2 ∨ b ∈ Fn) ∧ g ∈ F0 := by
  rw [List.append_nil, List.append_assoc, List.nodup_append] at hN
  obtain ⟨n0, n1, n2⟩ := hN
  obtain ⟨G, g1, g2, g3, g4⟩ := ownS.cellPut oInode_good h0 n0 hp hi u (f m.fInodes[p]) Fn (fun b hb hb0 => hFn b hb (by simp [hb0])) hm
  have hT : Turn [g] w (w.setCell ⟨g, p * 3 + i, none⟩ u) := Turn.setCell (Turn.refl _ _) (by simp) _
  have hg1 : g ∉ F1 := fun h => n2 g g4 g (by simp [h]) rfl
  have hg2 : g ∉ F2 := fun h => n2 g g4 g (by simp [h]) rfl
  have e1 := ownS.frame (w' := w.setCell ⟨g, p * 3 + i, none⟩ u) oEntry_good h1 (fun b hb => hT.block b (ownS.lt oEntry_good h1 b hb) (by intro h; simp at h; subst h; exact hg1 hb))
  have e2 := ownS.frame (w' := w.setCell ⟨g, p * 3 + i, none⟩ u) oEntry_good h2 (fun b hb => hT.block b (ownS.lt oEntry_good h2 b hb) (by intro h; simp at h; subst h; exact hg2 hb))
  refine ⟨G ++ F1 ++ F2 ++ [], ⟨_, G, _, F1, _, F2, rfl, ?_, e1, e2, h3, rfl⟩, ?_, ?_, g4⟩
  · rw [updI_at hp]
    exact g1
  · rw [List.append_nil, List.append_assoc, List.nodup_append]
    refine ⟨g2, n1, fun a ha b hb hab => ?_⟩
    subst hab
    rcases g3 a ha with h | h
    · exact n2 a h a hb rfl
    · exact hFn a h (by simp at hb; simp; exact .inr hb)
  · intro b hb
    simp at hb ⊢
    rcases hb with h | h | h
    · rcases g3 b h with h | h
      · exact .inl (.inl h)
      · exact .inr h
    · exact .inl (.inr (.inl h))
    · exact .inl (.inr (.inr h))

end Go.Proofs.YtcbhmbgmeodjdaaDoor
