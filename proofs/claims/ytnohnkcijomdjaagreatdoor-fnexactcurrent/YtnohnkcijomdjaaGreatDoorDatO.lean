/-
  Arguments as the form reads them, opened.
-/
import Derived.Test.YtnohnkcijomdjaaGreatDoorRows
import Derived.Test.YtnohnkcijomdjaaGreatDoorDat
import Derived.ProofKit
import Derived.Deep.Slices
namespace Go.Proofs.YtnohnkcijomdjaaGreatDoor
open Go.RowKit
set_option linter.unusedVariables false
set_option maxRecDepth 10000

theorem list_of_len : ∀ {n : Nat} {cs : List Value}, cs.length = n → cs = (List.range n).map (fun i => cs.getD i (.bool false)) := by
  intro n cs h
  apply List.ext_getElem?
  intro j
  rw [List.getElem?_map]
  by_cases hj : j < n
  · rw [List.getElem?_range hj, List.getElem?_eq_getElem (by omega)]
    simp [List.getElem?_eq_getElem (show j < cs.length by omega)]
  · rw [List.getElem?_eq_none (by omega), List.getElem?_eq_none (by simpa using hj)]
    rfl

section
variable {H : Type} {enc : TypeId × Value → H} {w : World} {base fuel : Nat} {spare : Nat → Bool} {held : Bool} {cs : List Value} {x : DataW H × List MemPlace}

theorem openBytes {t e : TypeId} (ht : Tryz.prog.underlying t = some (.slice e)) (he : Tryz.prog.underlying e = some (.int .u8)) (hc : Tryz.prog.cellsOf e = 1) (h : DataW.trod enc Tryz.prog w base spare held fuel t cs = some x) :
    ∃ a c, ∃ zs : List Int, cs = [.slice a zs.length c] ∧ LeafB w.heap.size w a c zs := by
  rcases Go.ChangeShapes.open_ints ht he hc h with ⟨rfl, _⟩ | ⟨a, len, cap, zs, rfl, _, hl, hm, hz, _, hcell, hwf⟩
  · exact ⟨none, 0, [], rfl, by simp, by omega, fun j hj => by simp at hj, fun z hz => by cases hz⟩
  · have hzl : len ≤ zs.length := by rw [hz]; split <;> omega
    refine ⟨some a, cap, zs.take len, by simp [hzl], by simp; omega, by simpa [maxLen] using hm, ?_, ?_⟩
    · intro j hj
      have hj' : j < len := by simp at hj; omega
      obtain ⟨b, off, rfl, hcc⟩ := ints_at hcell (by omega)
      have hcj := hcc j (by omega)
      refine ⟨b, off, rfl, World.block_lt_of_cell? _ _ hcj, ?_⟩
      rw [hcj]
      congr 2
      simp only [List.getD_eq_getElem?_getD, List.getElem?_take, hj', if_true]
    · intro z hz'
      have := hwf z (List.mem_of_mem_take hz')
      simpa [Lit.wf, IntKind.min, IntKind.max, IntKind.signed, IntKind.bits] using this

theorem openList {α : Type} {size : Nat} {R : Rep α} {t e : TypeId} (ht : Tryz.prog.underlying t = some (.slice e)) (hs : Tryz.prog.cellsOf e = size) (h0 : 0 < size)
    (hR : ∀ {fuel : Nat} {cs : List Value} {x : DataW H × List MemPlace}, DataW.trod enc Tryz.prog w base spare held fuel e cs = some x → ∃ m, R w.heap.size w cs m)
    (h : DataW.trod enc Tryz.prog w base spare held fuel t cs = some x) : ∃ a c, ∃ l : List α, cs = [.slice a l.length c] ∧ LeafL size R w.heap.size w a c l := by
  rcases Go.Deep.open_slice ht h with ⟨rfl, _⟩ | ⟨a, len, cap, m, n, D, Pl, rfl, _, hl, hm, hmm, _, hel⟩
  · exact ⟨none, 0, [], rfl, by simp, by omega, fun j hj => by simp at hj⟩
  · have hlm : len ≤ m := by rw [hmm]; split <;> omega
    have hex : ∀ i, i < len → ∃ y : α, ∃ cs', w.cells? base (a.add (i * size)) size = some cs' ∧ R w.heap.size w cs' y := by
      intro i hi
      obtain ⟨cs', h1, h2⟩ := hel i (by omega)
      rw [hs] at h1
      obtain ⟨y, hy⟩ := hR h2
      exact ⟨y, cs', h1, hy⟩
    have hli : ∀ k, k ≤ len → ∃ l : List α, l.length = k ∧ ∀ j, (hj : j < l.length) → ∃ cs', w.cells? base (a.add (j * size)) size = some cs' ∧ R w.heap.size w cs' l[j] := by
      intro k
      induction k with
      | zero => intro _; exact ⟨[], rfl, fun j hj => by simp at hj⟩
      | succ k ih =>
        intro hk
        obtain ⟨l, hl1, hl2⟩ := ih (by omega)
        obtain ⟨y, cs', hy1, hy2⟩ := hex k (by omega)
        refine ⟨l ++ [y], by simp [hl1], fun j hj => ?_⟩
        by_cases hjl : j < l.length
        · rw [List.getElem_append_left hjl]; exact hl2 j hjl
        · have hjk : j = k := by simp at hj; omega
          subst hjk
          rw [List.getElem_append_right (by omega)]
          simp only [hl1, Nat.sub_self, List.getElem_cons_zero]
          exact ⟨cs', hy1, hy2⟩
    obtain ⟨l, hl1, hl2⟩ := hli len (Nat.le_refl _)
    subst hl1
    refine ⟨some a, cap, l, rfl, hl, by simpa [maxLen] using hm, fun j hj => ?_⟩
    obtain ⟨cs', h1, h2⟩ := hl2 j hj
    obtain ⟨_, hlen, hcc⟩ := World.cells?_some h1
    obtain ⟨b, off, spot⟩ := a
    have hu := hcc 0 h0
    have hsome : ∃ u, cs'[0]? = some u := ⟨_, List.getElem?_eq_getElem (by omega)⟩
    obtain ⟨u, hu0⟩ := hsome
    rw [hu0] at hu
    have hsp : spot = none := by
      obtain ⟨cs0, h10, _⟩ := hl2 0 (by omega)
      obtain ⟨_, hlen0, hcc0⟩ := World.cells?_some h10
      have hu' := hcc0 0 h0
      rw [List.getElem?_eq_getElem (by omega)] at hu'
      simpa [Addr.add] using World.cell?_spot hu'
    subst hsp
    have hadd : ∀ i, ((⟨b, off, none⟩ : Addr).add (j * size)).add i = ⟨b, off + j * size + i, none⟩ := fun i => by rw [Addr.add_lit, Addr.add_lit]
    rw [hadd] at hu
    refine ⟨b, off, rfl, World.block_lt_of_cell? _ _ hu, cs', hlen, fun i v hv => ?_, h2⟩
    have hi : i < size := by
      rcases Nat.lt_or_ge i cs'.length with hh | hh
      · omega
      · rw [List.getElem?_eq_none hh] at hv; cases hv
    rw [← hadd, hcc i hi, hv]

theorem openInode (h : DataW.trod enc Tryz.prog w base spare held fuel 85 cs = some x) : ∃ m, rInode w.heap.size w cs m := by
  obtain ⟨xs, n, _, _, hl, hlen, hf⟩ := DataW.trod_struct Tryz.underlying85 h
  have hl' : cs.length = 3 := hl.trans (by kernel_rfl)
  obtain ⟨z0, z1, z2, rfl⟩ : ∃ z0 z1 z2, cs = [z0, z1, z2] := by
    match cs, hl' with
    | [z0, z1, z2], _ => exact ⟨z0, z1, z2, rfl⟩
  obtain ⟨y0, hy0⟩ : ∃ y, xs[0]? = some y := ⟨_, List.getElem?_eq_getElem (by rw [hlen]; decide)⟩
  have e0 := hf 0 _ rfl
  rw [hy0] at e0
  have d0 : DataW.trod enc Tryz.prog w base spare held n 3 [z0] = some y0 := e0
  obtain ⟨m0, he0, _, hw0⟩ := DataW.trod_int Tryz.underlying3 d0
  simp only [List.cons.injEq, and_true] at he0
  subst he0
  obtain ⟨y1, hy1⟩ : ∃ y, xs[1]? = some y := ⟨_, List.getElem?_eq_getElem (by rw [hlen]; decide)⟩
  have e1 := hf 1 _ rfl
  rw [hy1] at e1
  have d1 : DataW.trod enc Tryz.prog w base spare held n 60 [z1] = some y1 := e1
  obtain ⟨a1, c1, m1, he1, hw1⟩ := openBytes Tryz.underlying60 Tryz.underlying5 (by kernel_rfl) d1
  simp only [List.cons.injEq, and_true] at he1
  subst he1
  obtain ⟨y2, hy2⟩ : ∃ y, xs[2]? = some y := ⟨_, List.getElem?_eq_getElem (by rw [hlen]; decide)⟩
  have e2 := hf 2 _ rfl
  rw [hy2] at e2
  have d2 : DataW.trod enc Tryz.prog w base spare held n 3 [z2] = some y2 := e2
  obtain ⟨m2, he2, _, hw2⟩ := DataW.trod_int Tryz.underlying3 d2
  simp only [List.cons.injEq, and_true] at he2
  subst he2
  exact ⟨⟨m0, m1, m2⟩, a1, c1, rfl, hw0, hw1, hw2, trivial⟩

theorem openEntry (h : DataW.trod enc Tryz.prog w base spare held fuel 88 cs = some x) : ∃ m, rEntry w.heap.size w cs m := by
  obtain ⟨xs, n, _, _, hl, hlen, hf⟩ := DataW.trod_struct Tryz.underlying88 h
  have hl' : cs.length = 2 := hl.trans (by kernel_rfl)
  obtain ⟨z0, z1, rfl⟩ : ∃ z0 z1, cs = [z0, z1] := by
    match cs, hl' with
    | [z0, z1], _ => exact ⟨z0, z1, rfl⟩
  obtain ⟨y0, hy0⟩ : ∃ y, xs[0]? = some y := ⟨_, List.getElem?_eq_getElem (by rw [hlen]; decide)⟩
  have e0 := hf 0 _ rfl
  rw [hy0] at e0
  have d0 : DataW.trod enc Tryz.prog w base spare held n 9 [z0] = some y0 := e0
  obtain ⟨m0, he0, _, hw0⟩ := DataW.trod_string Tryz.underlying9 d0
  simp only [List.cons.injEq, and_true] at he0
  subst he0
  obtain ⟨y1, hy1⟩ : ∃ y, xs[1]? = some y := ⟨_, List.getElem?_eq_getElem (by rw [hlen]; decide)⟩
  have e1 := hf 1 _ rfl
  rw [hy1] at e1
  have d1 : DataW.trod enc Tryz.prog w base spare held n 3 [z1] = some y1 := e1
  obtain ⟨m1, he1, _, hw1⟩ := DataW.trod_int Tryz.underlying3 d1
  simp only [List.cons.injEq, and_true] at he1
  subst he1
  exact ⟨⟨m0, m1⟩, rfl, by simpa [maxLen] using hw0, hw1, trivial⟩

theorem openDisk (h : DataW.trod enc Tryz.prog w base spare held fuel 33 cs = some x) : ∃ m, rDisk w.heap.size w cs m := by
  obtain ⟨xs, n, _, _, hl, hlen, hf⟩ := DataW.trod_struct Tryz.underlying33 h
  have hl' : cs.length = 4 := hl.trans (by kernel_rfl)
  obtain ⟨z0, z1, z2, z3, rfl⟩ : ∃ z0 z1 z2 z3, cs = [z0, z1, z2, z3] := by
    match cs, hl' with
    | [z0, z1, z2, z3], _ => exact ⟨z0, z1, z2, z3, rfl⟩
  obtain ⟨y0, hy0⟩ : ∃ y, xs[0]? = some y := ⟨_, List.getElem?_eq_getElem (by rw [hlen]; decide)⟩
  have e0 := hf 0 _ rfl
  rw [hy0] at e0
  have d0 : DataW.trod enc Tryz.prog w base spare held n 30 [z0] = some y0 := e0
  obtain ⟨a0, c0, m0, he0, hw0⟩ := openList (R := rInode) (size := 3) Tryz.underlying30 (by kernel_rfl) (by decide) openInode d0
  simp only [List.cons.injEq, and_true] at he0
  subst he0
  obtain ⟨y1, hy1⟩ : ∃ y, xs[1]? = some y := ⟨_, List.getElem?_eq_getElem (by rw [hlen]; decide)⟩
  have e1 := hf 1 _ rfl
  rw [hy1] at e1
  have d1 : DataW.trod enc Tryz.prog w base spare held n 31 [z1] = some y1 := e1
  obtain ⟨a1, c1, m1, he1, hw1⟩ := openList (R := rEntry) (size := 2) Tryz.underlying31 (by kernel_rfl) (by decide) openEntry d1
  simp only [List.cons.injEq, and_true] at he1
  subst he1
  obtain ⟨y2, hy2⟩ : ∃ y, xs[2]? = some y := ⟨_, List.getElem?_eq_getElem (by rw [hlen]; decide)⟩
  have e2 := hf 2 _ rfl
  rw [hy2] at e2
  have d2 : DataW.trod enc Tryz.prog w base spare held n 31 [z2] = some y2 := e2
  obtain ⟨a2, c2, m2, he2, hw2⟩ := openList (R := rEntry) (size := 2) Tryz.underlying31 (by kernel_rfl) (by decide) openEntry d2
  simp only [List.cons.injEq, and_true] at he2
  subst he2
  obtain ⟨y3, hy3⟩ : ∃ y, xs[3]? = some y := ⟨_, List.getElem?_eq_getElem (by rw [hlen]; decide)⟩
  have e3 := hf 3 _ rfl
  rw [hy3] at e3
  have d3 : DataW.trod enc Tryz.prog w base spare held n 3 [z3] = some y3 := e3
  obtain ⟨m3, he3, _, hw3⟩ := DataW.trod_int Tryz.underlying3 d3
  simp only [List.cons.injEq, and_true] at he3
  subst he3
  exact ⟨⟨m0, m1, m2, m3⟩, a0, c0, a1, c1, a2, c2, rfl, hw0, hw1, hw2, hw3, trivial⟩

end
end Go.Proofs.YtnohnkcijomdjaaGreatDoor
