/-
  Arguments as the form reads them, opened.
-/
import Derived.Test.YtadadkookbkkoaaDoorRows
import Derived.Test.YtadadkookbkkoaaDoorPDat
import Derived.ProofKit
import Derived.Deep.Slices
namespace Go.Proofs.YtadadkookbkkoaaDoor
open Go.RowKit
set_option linter.unusedVariables false
set_option maxRecDepth 10000

theorem list_of_len : ∀ {n : Nat} {cs : List Value}, cs.length = n → cs = (List.range n).map (fun i => cs.getD i (.bool false)) := by
  intro n cs h
  apply List.ext_getElem?
  intro j
  rw [List.getElem?_map]
  by_cases hj : j < n
  · rw [List.getElem?_range hj, List.getElem?_eq_getElem (by omega)]
    simp [List.getElem?_eq_getElem (show j < cs.length by omega)]
  · rw [List.getElem?_eq_none (by omega), List.getElem?_eq_none (by simpa using hj)]
    rfl

section
variable {H : Type} {enc : TypeId × Value → H} {w : World} {base fuel : Nat} {spare : Nat → Bool} {held : Bool} {cs : List Value} {x : DataW H × List MemPlace}

theorem openBytes {t e : TypeId} (ht : Tryd.prog.underlying t = some (.slice e)) (he : Tryd.prog.underlying e = some (.int .u8)) (hc : Tryd.prog.cellsOf e = 1) (h : DataW.trod enc Tryd.prog w base spare held fuel t cs = some x) :
    ∃ a c, ∃ zs : List Int, cs = [.slice a zs.length c] ∧ LeafB w.heap.size w a c zs := by
  rcases Go.ChangeShapes.open_ints ht he hc h with ⟨rfl, _⟩ | ⟨a, len, cap, zs, rfl, _, hl, hm, hz, _, hcell, hwf⟩
  · exact ⟨none, 0, [], rfl, by simp, by omega, fun j hj => by simp at hj, fun z hz => by cases hz⟩
  · have hzl : len ≤ zs.length := by rw [hz]; split <;> omega
    refine ⟨some a, cap, zs.take len, by simp [hzl], by simp; omega, by simpa [maxLen] using hm, ?_, ?_⟩
    · intro j hj
      have hj' : j < len := by simp at hj; omega
      obtain ⟨b, off, rfl, hcc⟩ := ints_at hcell (by omega)
      have hcj := hcc j (by omega)
      refine ⟨b, off, rfl, World.block_lt_of_cell? _ _ hcj, ?_⟩
      rw [hcj]
      congr 2
      simp only [List.getD_eq_getElem?_getD, List.getElem?_take, hj', if_true]
    · intro z hz'
      have := hwf z (List.mem_of_mem_take hz')
      simpa [Lit.wf, IntKind.min, IntKind.max, IntKind.signed, IntKind.bits] using this

theorem openList {α : Type} {size : Nat} {R : Rep α} {t e : TypeId} (ht : Tryd.prog.underlying t = some (.slice e)) (hs : Tryd.prog.cellsOf e = size) (h0 : 0 < size)
    (hR : ∀ {fuel : Nat} {cs : List Value} {x : DataW H × List MemPlace}, DataW.trod enc Tryd.prog w base spare held fuel e cs = some x → ∃ m, R w.heap.size w cs m)
    (h : DataW.trod enc Tryd.prog w base spare held fuel t cs = some x) : ∃ a c, ∃ l : List α, cs = [.slice a l.length c] ∧ LeafL size R w.heap.size w a c l := by
  rcases Go.Deep.open_slice ht h with ⟨rfl, _⟩ | ⟨a, len, cap, m, n, D, Pl, rfl, _, hl, hm, hmm, _, hel⟩
  · exact ⟨none, 0, [], rfl, by simp, by omega, fun j hj => by simp at hj⟩
  · have hlm : len ≤ m := by rw [hmm]; split <;> omega
    have hex : ∀ i, i < len → ∃ y : α, ∃ cs', w.cells? base (a.add (i * size)) size = some cs' ∧ R w.heap.size w cs' y := by
      intro i hi
      obtain ⟨cs', h1, h2⟩ := hel i (by omega)
      rw [hs] at h1
      obtain ⟨y, hy⟩ := hR h2
      exact ⟨y, cs', h1, hy⟩
    have hli : ∀ k, k ≤ len → ∃ l : List α, l.length = k ∧ ∀ j, (hj : j < l.length) → ∃ cs', w.cells? base (a.add (j * size)) size = some cs' ∧ R w.heap.size w cs' l[j] := by
      intro k
      induction k with
      | zero => intro _; exact ⟨[], rfl, fun j hj => by simp at hj⟩
      | succ k ih =>
        intro hk
        obtain ⟨l, hl1, hl2⟩ := ih (by omega)
        obtain ⟨y, cs', hy1, hy2⟩ := hex k (by omega)
        refine ⟨l ++ [y], by simp [hl1], fun j hj => ?_⟩
        by_cases hjl : j < l.length
        · rw [List.getElem_append_left hjl]; exact hl2 j hjl
        · have hjk : j = k := by simp at hj; omega
          subst hjk
          rw [List.getElem_append_right (by omega)]
          simp only [hl1, Nat.sub_self, List.getElem_cons_zero]
          exact ⟨cs', hy1, hy2⟩
    obtain ⟨l, hl1, hl2⟩ := hli len (Nat.le_refl _)
    subst hl1
    refine ⟨some a, cap, l, rfl, hl, by simpa [maxLen] using hm, fun j hj => ?_⟩
    obtain ⟨cs', h1, h2⟩ := hl2 j hj
    obtain ⟨_, hlen, hcc⟩ := World.cells?_some h1
    obtain ⟨b, off, spot⟩ := a
    have hu := hcc 0 h0
    have hsome : ∃ u, cs'[0]? = some u := ⟨_, List.getElem?_eq_getElem (by omega)⟩
    obtain ⟨u, hu0⟩ := hsome
    rw [hu0] at hu
    have hsp : spot = none := by
      obtain ⟨cs0, h10, _⟩ := hl2 0 (by omega)
      obtain ⟨_, hlen0, hcc0⟩ := World.cells?_some h10
      have hu' := hcc0 0 h0
      rw [List.getElem?_eq_getElem (by omega)] at hu'
      simpa [Addr.add] using World.cell?_spot hu'
    subst hsp
    have hadd : ∀ i, ((⟨b, off, none⟩ : Addr).add (j * size)).add i = ⟨b, off + j * size + i, none⟩ := fun i => by rw [Addr.add_lit, Addr.add_lit]
    rw [hadd] at hu
    refine ⟨b, off, rfl, World.block_lt_of_cell? _ _ hu, cs', hlen, fun i v hv => ?_, h2⟩
    have hi : i < size := by
      rcases Nat.lt_or_ge i cs'.length with hh | hh
      · omega
      · rw [List.getElem?_eq_none hh] at hv; cases hv
    rw [← hadd, hcc i hi, hv]

end
end Go.Proofs.YtadadkookbkkoaaDoor
