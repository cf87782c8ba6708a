/-
  Arguments as the form reads them, opened.
-/
import Derived.Test.YtembioiaeimegaaRows
import Derived.Test.YtembioiaeimegaaUDat
import Derived.ProofKit
import Derived.Deep.Slices
namespace Go.Proofs.Ytembioiaeimegaa
open Go.RowKit
set_option linter.unusedVariables false
set_option maxRecDepth 10000

theorem list_of_len : ∀ {n : Nat} {cs : List Value}, cs.length = n → cs = (List.range n).map (fun i => cs.getD i (.bool false)) := by
  intro n cs h
  apply List.ext_getElem?
  intro j
  rw [List.getElem?_map]
  by_cases hj : j < n
  · rw [List.getElem?_range hj, List.getElem?_eq_getElem (by omega)]
    simp [List.getElem?_eq_getElem (show j < cs.length by omega)]
  · rw [List.getElem?_eq_none (by omega), List.getElem?_eq_none (by simpa using hj)]
    rfl

section
variable {H : Type} {enc : TypeId × Value → H} {w : World} {base fuel : Nat} {spare : Nat → Bool} {held : Bool} {cs : List Value} {x : DataW H × List MemPlace}

theorem openBytes {t e : TypeId} (ht : Try.prog.underlying t = some (.slice e)) (he : Try.prog.underlying e = some (.int .u8)) (hc : Try.prog.cellsOf e = 1) (h : DataW.trod enc Try.prog w base spare held fuel t cs = some x) :
    ∃ a c, ∃ zs : List Int, cs = [.slice a zs.length c] ∧ LeafB w.heap.size w a c zs := by
  rcases Go.ChangeShapes.open_ints ht he hc h with ⟨rfl, _⟩ | ⟨a, len, cap, zs, rfl, _, hl, hm, hz, _, hcell, hwf⟩
  · exact ⟨none, 0, [], rfl, by simp, by omega, fun j hj => by simp at hj, fun z hz => by cases hz⟩
  · have hzl : len ≤ zs.length := by rw [hz]; split <;> omega
    refine ⟨some a, cap, zs.take len, by simp [hzl], by simp; omega, by simpa [maxLen] using hm, ?_, ?_⟩
    · intro j hj
      have hj' : j < len := by simp at hj; omega
      obtain ⟨b, off, rfl, hcc⟩ := ints_at hcell (by omega)
      have hcj := hcc j (by omega)
      refine ⟨b, off, rfl, World.block_lt_of_cell? _ _ hcj, ?_⟩
      rw [hcj]
      congr 2
      simp only [List.getD_eq_getElem?_getD, List.getElem?_take, hj', if_true]
    · intro z hz'
      have := hwf z (List.mem_of_mem_take hz')
      simpa [Lit.wf, IntKind.min, IntKind.max, IntKind.signed, IntKind.bits] using this

theorem openList {α : Type} {size : Nat} {R : Rep α} {t e : TypeId} (ht : Try.prog.underlying t = some (.slice e)) (hs : Try.prog.cellsOf e = size) (h0 : 0 < size)
    (hR : ∀ {fuel : Nat} {cs : List Value} {x : DataW H × List MemPlace}, DataW.trod enc Try.prog w base spare held fuel e cs = some x → ∃ m, R w.heap.size w cs m)
    (h : DataW.trod enc Try.prog w base spare held fuel t cs = some x) : ∃ a c, ∃ l : List α, cs = [.slice a l.length c] ∧ LeafL size R w.heap.size w a c l := by
  rcases Go.Deep.open_slice ht h with ⟨rfl, _⟩ | ⟨a, len, cap, m, n, D, Pl, rfl, _, hl, hm, hmm, _, hel⟩
  · exact ⟨none, 0, [], rfl, by simp, by omega, fun j hj => by simp at hj⟩
  · have hlm : len ≤ m := by rw [hmm]; split <;> omega
    have hex : ∀ i, i < len → ∃ y : α, ∃ cs', w.cells? base (a.add (i * size)) size = some cs' ∧ R w.heap.size w cs' y := by
      intro i hi
      obtain ⟨cs', h1, h2⟩ := hel i (by omega)
      rw [hs] at h1
      obtain ⟨y, hy⟩ := hR h2
      exact ⟨y, cs', h1, hy⟩
    have hli : ∀ k, k ≤ len → ∃ l : List α, l.length = k ∧ ∀ j, (hj : j < l.length) → ∃ cs', w.cells? base (a.add (j * size)) size = some cs' ∧ R w.heap.size w cs' l[j] := by
      intro k
      induction k with
      | zero => intro _; exact ⟨[], rfl, fun j hj => by simp at hj⟩
      | succ k ih =>
        intro hk
        obtain ⟨l, hl1, hl2⟩ := ih (by omega)
        obtain ⟨y, cs', hy1, hy2⟩ := hex k (by omega)
        refine ⟨l ++ [y], by simp [hl1], fun j hj => ?_⟩
        by_cases hjl : j < l.length
        · rw [List.getElem_append_left hjl]; exact hl2 j hjl
        · have hjk : j = k := by simp at hj; omega
          subst hjk
          rw [List.getElem_append_right (by omega)]
          simp only [hl1, Nat.sub_self, List.getElem_cons_zero]
          exact ⟨cs', hy1, hy2⟩
    obtain ⟨l, hl1, hl2⟩ := hli len (Nat.le_refl _)
    subst hl1
    refine ⟨some a, cap, l, rfl, hl, by simpa [maxLen] using hm, fun j hj => ?_⟩
    obtain ⟨cs', h1, h2⟩ := hl2 j hj
    obtain ⟨_, hlen, hcc⟩ := World.cells?_some h1
    obtain ⟨b, off, spot⟩ := a
    have hu := hcc 0 h0
    have hsome : ∃ u, cs'[0]? = some u := ⟨_, List.getElem?_eq_getElem (by omega)⟩
    obtain ⟨u, hu0⟩ := hsome
    rw [hu0] at hu
    have hsp : spot = none := by
      obtain ⟨cs0, h10, _⟩ := hl2 0 (by omega)
      obtain ⟨_, hlen0, hcc0⟩ := World.cells?_some h10
      have hu' := hcc0 0 h0
      rw [List.getElem?_eq_getElem (by omega)] at hu'
      simpa [Addr.add] using World.cell?_spot hu'
    subst hsp
    have hadd : ∀ i, ((⟨b, off, none⟩ : Addr).add (j * size)).add i = ⟨b, off + j * size + i, none⟩ := fun i => by rw [Addr.add_lit, Addr.add_lit]
    rw [hadd] at hu
    refine ⟨b, off, rfl, World.block_lt_of_cell? _ _ hu, cs', hlen, fun i v hv => ?_, h2⟩
    have hi : i < size := by
      rcases Nat.lt_or_ge i cs'.length with hh | hh
      · omega
      · rw [List.getElem?_eq_none hh] at hv; cases hv
    rw [← hadd, hcc i hi, hv]

theorem openDot (h : DataW.trod enc Try.prog w base spare held fuel 74 cs = some x) : ∃ m, rDot w.heap.size w cs m := by
  obtain ⟨xs, n, _, _, hl, hlen, hf⟩ := DataW.trod_struct Try.underlying74 h
  have hl' : cs.length = 2 := hl.trans (by kernel_rfl)
  obtain ⟨z0, z1, rfl⟩ : ∃ z0 z1, cs = [z0, z1] := by
    match cs, hl' with
    | [z0, z1], _ => exact ⟨z0, z1, rfl⟩
  obtain ⟨y0, hy0⟩ : ∃ y, xs[0]? = some y := ⟨_, List.getElem?_eq_getElem (by rw [hlen]; decide)⟩
  have e0 := hf 0 _ rfl
  rw [hy0] at e0
  have d0 : DataW.trod enc Try.prog w base spare held n 3 [z0] = some y0 := e0
  obtain ⟨m0, he0, _, hw0⟩ := DataW.trod_int Try.underlying3 d0
  simp only [List.cons.injEq, and_true] at he0
  subst he0
  obtain ⟨y1, hy1⟩ : ∃ y, xs[1]? = some y := ⟨_, List.getElem?_eq_getElem (by rw [hlen]; decide)⟩
  have e1 := hf 1 _ rfl
  rw [hy1] at e1
  have d1 : DataW.trod enc Try.prog w base spare held n 3 [z1] = some y1 := e1
  obtain ⟨m1, he1, _, hw1⟩ := DataW.trod_int Try.underlying3 d1
  simp only [List.cons.injEq, and_true] at he1
  subst he1
  exact ⟨⟨m0, m1⟩, rfl, hw0, hw1, trivial⟩

theorem openCmd (h : DataW.trod enc Try.prog w base spare held fuel 76 cs = some x) : ∃ m, rCmd w.heap.size w cs m := by
  obtain ⟨xs, n, _, _, hl, hlen, hf⟩ := DataW.trod_struct Try.underlying76 h
  have hl' : cs.length = 3 := hl.trans (by kernel_rfl)
  obtain ⟨z0, z1, z2, rfl⟩ : ∃ z0 z1 z2, cs = [z0, z1, z2] := by
    match cs, hl' with
    | [z0, z1, z2], _ => exact ⟨z0, z1, z2, rfl⟩
  obtain ⟨y0, hy0⟩ : ∃ y, xs[0]? = some y := ⟨_, List.getElem?_eq_getElem (by rw [hlen]; decide)⟩
  have e0 := hf 0 _ rfl
  rw [hy0] at e0
  have d0 : DataW.trod enc Try.prog w base spare held n 3 [z0] = some y0 := e0
  obtain ⟨m0, he0, _, hw0⟩ := DataW.trod_int Try.underlying3 d0
  simp only [List.cons.injEq, and_true] at he0
  subst he0
  obtain ⟨y1, hy1⟩ : ∃ y, xs[1]? = some y := ⟨_, List.getElem?_eq_getElem (by rw [hlen]; decide)⟩
  have e1 := hf 1 _ rfl
  rw [hy1] at e1
  have d1 : DataW.trod enc Try.prog w base spare held n 9 [z1] = some y1 := e1
  obtain ⟨m1, he1, _, hw1⟩ := DataW.trod_string Try.underlying9 d1
  simp only [List.cons.injEq, and_true] at he1
  subst he1
  obtain ⟨y2, hy2⟩ : ∃ y, xs[2]? = some y := ⟨_, List.getElem?_eq_getElem (by rw [hlen]; decide)⟩
  have e2 := hf 2 _ rfl
  rw [hy2] at e2
  have d2 : DataW.trod enc Try.prog w base spare held n 9 [z2] = some y2 := e2
  obtain ⟨m2, he2, _, hw2⟩ := DataW.trod_string Try.underlying9 d2
  simp only [List.cons.injEq, and_true] at he2
  subst he2
  exact ⟨⟨m0, m1, m2⟩, rfl, hw0, by simpa [maxLen] using hw1, by simpa [maxLen] using hw2, trivial⟩

theorem openRec (h : DataW.trod enc Try.prog w base spare held fuel 128 cs = some x) : ∃ m, rRec w.heap.size w cs m := by
  obtain ⟨xs, n, _, _, hl, hlen, hf⟩ := DataW.trod_struct Try.underlying128 h
  have hl' : cs.length = 7 := hl.trans (by kernel_rfl)
  obtain ⟨z0, z1, z2, z3, z4, z5, z6, rfl⟩ : ∃ z0 z1 z2 z3 z4 z5 z6, cs = [z0, z1, z2, z3, z4, z5, z6] := by
    match cs, hl' with
    | [z0, z1, z2, z3, z4, z5, z6], _ => exact ⟨z0, z1, z2, z3, z4, z5, z6, rfl⟩
  obtain ⟨y0, hy0⟩ : ∃ y, xs[0]? = some y := ⟨_, List.getElem?_eq_getElem (by rw [hlen]; decide)⟩
  have e0 := hf 0 _ rfl
  rw [hy0] at e0
  have d0 : DataW.trod enc Try.prog w base spare held n 74 [z0, z1] = some y0 := e0
  obtain ⟨m0, hs0⟩ := openDot d0
  obtain ⟨y1, hy1⟩ : ∃ y, xs[1]? = some y := ⟨_, List.getElem?_eq_getElem (by rw [hlen]; decide)⟩
  have e1 := hf 1 _ rfl
  rw [hy1] at e1
  have d1 : DataW.trod enc Try.prog w base spare held n 76 [z2, z3, z4] = some y1 := e1
  obtain ⟨m1, hs1⟩ := openCmd d1
  obtain ⟨y2, hy2⟩ : ∃ y, xs[2]? = some y := ⟨_, List.getElem?_eq_getElem (by rw [hlen]; decide)⟩
  have e2 := hf 2 _ rfl
  rw [hy2] at e2
  have d2 : DataW.trod enc Try.prog w base spare held n 67 [z5] = some y2 := e2
  obtain ⟨a2, c2, m2, he2, hw2⟩ := openList (R := rDot) (size := 2) Try.underlying67 (by kernel_rfl) (by decide) openDot d2
  simp only [List.cons.injEq, and_true] at he2
  subst he2
  obtain ⟨y3, hy3⟩ : ∃ y, xs[3]? = some y := ⟨_, List.getElem?_eq_getElem (by rw [hlen]; decide)⟩
  have e3 := hf 3 _ rfl
  rw [hy3] at e3
  have d3 : DataW.trod enc Try.prog w base spare held n 4 [z6] = some y3 := e3
  obtain ⟨m3, he3, _⟩ := DataW.trod_bool Try.underlying4 d3
  simp only [List.cons.injEq, and_true] at he3
  subst he3
  obtain ⟨he0, g0_0, g0_1, _⟩ := hs0
  simp only [List.cons.injEq, and_true] at he0
  obtain ⟨rfl, rfl⟩ := he0
  obtain ⟨he1, g1_0, g1_1, g1_2, _⟩ := hs1
  simp only [List.cons.injEq, and_true] at he1
  obtain ⟨rfl, rfl, rfl⟩ := he1
  exact ⟨⟨m0, m1, m2, m3⟩, a2, c2, rfl, g0_0, g0_1, g1_0, g1_1, g1_2, hw2, trivial, trivial⟩

theorem openAck (h : DataW.trod enc Try.prog w base spare held fuel 137 cs = some x) : ∃ m, rAck w.heap.size w cs m := by
  obtain ⟨xs, n, _, _, hl, hlen, hf⟩ := DataW.trod_struct Try.underlying137 h
  have hl' : cs.length = 3 := hl.trans (by kernel_rfl)
  obtain ⟨z0, z1, z2, rfl⟩ : ∃ z0 z1 z2, cs = [z0, z1, z2] := by
    match cs, hl' with
    | [z0, z1, z2], _ => exact ⟨z0, z1, z2, rfl⟩
  obtain ⟨y0, hy0⟩ : ∃ y, xs[0]? = some y := ⟨_, List.getElem?_eq_getElem (by rw [hlen]; decide)⟩
  have e0 := hf 0 _ rfl
  rw [hy0] at e0
  have d0 : DataW.trod enc Try.prog w base spare held n 74 [z0, z1] = some y0 := e0
  obtain ⟨m0, hs0⟩ := openDot d0
  obtain ⟨y1, hy1⟩ : ∃ y, xs[1]? = some y := ⟨_, List.getElem?_eq_getElem (by rw [hlen]; decide)⟩
  have e1 := hf 1 _ rfl
  rw [hy1] at e1
  have d1 : DataW.trod enc Try.prog w base spare held n 3 [z2] = some y1 := e1
  obtain ⟨m1, he1, _, hw1⟩ := DataW.trod_int Try.underlying3 d1
  simp only [List.cons.injEq, and_true] at he1
  subst he1
  obtain ⟨he0, g0_0, g0_1, _⟩ := hs0
  simp only [List.cons.injEq, and_true] at he0
  obtain ⟨rfl, rfl⟩ := he0
  exact ⟨⟨m0, m1⟩, rfl, g0_0, g0_1, hw1, trivial⟩

theorem openPair (h : DataW.trod enc Try.prog w base spare held fuel 130 cs = some x) : ∃ m, rPair w.heap.size w cs m := by
  obtain ⟨xs, n, _, _, hl, hlen, hf⟩ := DataW.trod_struct Try.underlying130 h
  have hl' : cs.length = 3 := hl.trans (by kernel_rfl)
  obtain ⟨z0, z1, z2, rfl⟩ : ∃ z0 z1 z2, cs = [z0, z1, z2] := by
    match cs, hl' with
    | [z0, z1, z2], _ => exact ⟨z0, z1, z2, rfl⟩
  obtain ⟨y0, hy0⟩ : ∃ y, xs[0]? = some y := ⟨_, List.getElem?_eq_getElem (by rw [hlen]; decide)⟩
  have e0 := hf 0 _ rfl
  rw [hy0] at e0
  have d0 : DataW.trod enc Try.prog w base spare held n 9 [z0] = some y0 := e0
  obtain ⟨m0, he0, _, hw0⟩ := DataW.trod_string Try.underlying9 d0
  simp only [List.cons.injEq, and_true] at he0
  subst he0
  obtain ⟨y1, hy1⟩ : ∃ y, xs[1]? = some y := ⟨_, List.getElem?_eq_getElem (by rw [hlen]; decide)⟩
  have e1 := hf 1 _ rfl
  rw [hy1] at e1
  have d1 : DataW.trod enc Try.prog w base spare held n 9 [z1] = some y1 := e1
  obtain ⟨m1, he1, _, hw1⟩ := DataW.trod_string Try.underlying9 d1
  simp only [List.cons.injEq, and_true] at he1
  subst he1
  obtain ⟨y2, hy2⟩ : ∃ y, xs[2]? = some y := ⟨_, List.getElem?_eq_getElem (by rw [hlen]; decide)⟩
  have e2 := hf 2 _ rfl
  rw [hy2] at e2
  have d2 : DataW.trod enc Try.prog w base spare held n 4 [z2] = some y2 := e2
  obtain ⟨m2, he2, _⟩ := DataW.trod_bool Try.underlying4 d2
  simp only [List.cons.injEq, and_true] at he2
  subst he2
  exact ⟨⟨m0, m1, m2⟩, rfl, by simpa [maxLen] using hw0, by simpa [maxLen] using hw1, trivial, trivial⟩

theorem openAnswer (h : DataW.trod enc Try.prog w base spare held fuel 133 cs = some x) : ∃ m, rAnswer w.heap.size w cs m := by
  obtain ⟨xs, n, _, _, hl, hlen, hf⟩ := DataW.trod_struct Try.underlying133 h
  have hl' : cs.length = 4 := hl.trans (by kernel_rfl)
  obtain ⟨z0, z1, z2, z3, rfl⟩ : ∃ z0 z1 z2 z3, cs = [z0, z1, z2, z3] := by
    match cs, hl' with
    | [z0, z1, z2, z3], _ => exact ⟨z0, z1, z2, z3, rfl⟩
  obtain ⟨y0, hy0⟩ : ∃ y, xs[0]? = some y := ⟨_, List.getElem?_eq_getElem (by rw [hlen]; decide)⟩
  have e0 := hf 0 _ rfl
  rw [hy0] at e0
  have d0 : DataW.trod enc Try.prog w base spare held n 74 [z0, z1] = some y0 := e0
  obtain ⟨m0, hs0⟩ := openDot d0
  obtain ⟨y1, hy1⟩ : ∃ y, xs[1]? = some y := ⟨_, List.getElem?_eq_getElem (by rw [hlen]; decide)⟩
  have e1 := hf 1 _ rfl
  rw [hy1] at e1
  have d1 : DataW.trod enc Try.prog w base spare held n 9 [z2] = some y1 := e1
  obtain ⟨m1, he1, _, hw1⟩ := DataW.trod_string Try.underlying9 d1
  simp only [List.cons.injEq, and_true] at he1
  subst he1
  obtain ⟨y2, hy2⟩ : ∃ y, xs[2]? = some y := ⟨_, List.getElem?_eq_getElem (by rw [hlen]; decide)⟩
  have e2 := hf 2 _ rfl
  rw [hy2] at e2
  have d2 : DataW.trod enc Try.prog w base spare held n 4 [z3] = some y2 := e2
  obtain ⟨m2, he2, _⟩ := DataW.trod_bool Try.underlying4 d2
  simp only [List.cons.injEq, and_true] at he2
  subst he2
  obtain ⟨he0, g0_0, g0_1, _⟩ := hs0
  simp only [List.cons.injEq, and_true] at he0
  obtain ⟨rfl, rfl⟩ := he0
  exact ⟨⟨m0, m1, m2⟩, rfl, g0_0, g0_1, by simpa [maxLen] using hw1, trivial, trivial⟩

theorem openReplica (h : DataW.trod enc Try.prog w base spare held fuel 71 cs = some x) : ∃ m, rReplica w.heap.size w cs m := by
  obtain ⟨xs, n, _, _, hl, hlen, hf⟩ := DataW.trod_struct Try.underlying71 h
  have hl' : cs.length = 8 := hl.trans (by kernel_rfl)
  obtain ⟨z0, z1, z2, z3, z4, z5, z6, z7, rfl⟩ : ∃ z0 z1 z2 z3 z4 z5 z6 z7, cs = [z0, z1, z2, z3, z4, z5, z6, z7] := by
    match cs, hl' with
    | [z0, z1, z2, z3, z4, z5, z6, z7], _ => exact ⟨z0, z1, z2, z3, z4, z5, z6, z7, rfl⟩
  obtain ⟨y0, hy0⟩ : ∃ y, xs[0]? = some y := ⟨_, List.getElem?_eq_getElem (by rw [hlen]; decide)⟩
  have e0 := hf 0 _ rfl
  rw [hy0] at e0
  have d0 : DataW.trod enc Try.prog w base spare held n 3 [z0] = some y0 := e0
  obtain ⟨m0, he0, _, hw0⟩ := DataW.trod_int Try.underlying3 d0
  simp only [List.cons.injEq, and_true] at he0
  subst he0
  obtain ⟨y1, hy1⟩ : ∃ y, xs[1]? = some y := ⟨_, List.getElem?_eq_getElem (by rw [hlen]; decide)⟩
  have e1 := hf 1 _ rfl
  rw [hy1] at e1
  have d1 : DataW.trod enc Try.prog w base spare held n 3 [z1] = some y1 := e1
  obtain ⟨m1, he1, _, hw1⟩ := DataW.trod_int Try.underlying3 d1
  simp only [List.cons.injEq, and_true] at he1
  subst he1
  obtain ⟨y2, hy2⟩ : ∃ y, xs[2]? = some y := ⟨_, List.getElem?_eq_getElem (by rw [hlen]; decide)⟩
  have e2 := hf 2 _ rfl
  rw [hy2] at e2
  have d2 : DataW.trod enc Try.prog w base spare held n 3 [z2] = some y2 := e2
  obtain ⟨m2, he2, _, hw2⟩ := DataW.trod_int Try.underlying3 d2
  simp only [List.cons.injEq, and_true] at he2
  subst he2
  obtain ⟨y3, hy3⟩ : ∃ y, xs[3]? = some y := ⟨_, List.getElem?_eq_getElem (by rw [hlen]; decide)⟩
  have e3 := hf 3 _ rfl
  rw [hy3] at e3
  have d3 : DataW.trod enc Try.prog w base spare held n 65 [z3] = some y3 := e3
  obtain ⟨a3, c3, m3, he3, hw3⟩ := openList (R := rRec) (size := 7) Try.underlying65 (by kernel_rfl) (by decide) openRec d3
  simp only [List.cons.injEq, and_true] at he3
  subst he3
  obtain ⟨y4, hy4⟩ : ∃ y, xs[4]? = some y := ⟨_, List.getElem?_eq_getElem (by rw [hlen]; decide)⟩
  have e4 := hf 4 _ rfl
  rw [hy4] at e4
  have d4 : DataW.trod enc Try.prog w base spare held n 66 [z4] = some y4 := e4
  obtain ⟨a4, c4, m4, he4, hw4⟩ := openList (R := rAck) (size := 3) Try.underlying66 (by kernel_rfl) (by decide) openAck d4
  simp only [List.cons.injEq, and_true] at he4
  subst he4
  obtain ⟨y5, hy5⟩ : ∃ y, xs[5]? = some y := ⟨_, List.getElem?_eq_getElem (by rw [hlen]; decide)⟩
  have e5 := hf 5 _ rfl
  rw [hy5] at e5
  have d5 : DataW.trod enc Try.prog w base spare held n 67 [z5] = some y5 := e5
  obtain ⟨a5, c5, m5, he5, hw5⟩ := openList (R := rDot) (size := 2) Try.underlying67 (by kernel_rfl) (by decide) openDot d5
  simp only [List.cons.injEq, and_true] at he5
  subst he5
  obtain ⟨y6, hy6⟩ : ∃ y, xs[6]? = some y := ⟨_, List.getElem?_eq_getElem (by rw [hlen]; decide)⟩
  have e6 := hf 6 _ rfl
  rw [hy6] at e6
  have d6 : DataW.trod enc Try.prog w base spare held n 68 [z6] = some y6 := e6
  obtain ⟨a6, c6, m6, he6, hw6⟩ := openList (R := rPair) (size := 3) Try.underlying68 (by kernel_rfl) (by decide) openPair d6
  simp only [List.cons.injEq, and_true] at he6
  subst he6
  obtain ⟨y7, hy7⟩ : ∃ y, xs[7]? = some y := ⟨_, List.getElem?_eq_getElem (by rw [hlen]; decide)⟩
  have e7 := hf 7 _ rfl
  rw [hy7] at e7
  have d7 : DataW.trod enc Try.prog w base spare held n 69 [z7] = some y7 := e7
  obtain ⟨a7, c7, m7, he7, hw7⟩ := openList (R := rAnswer) (size := 4) Try.underlying69 (by kernel_rfl) (by decide) openAnswer d7
  simp only [List.cons.injEq, and_true] at he7
  subst he7
  exact ⟨⟨m0, m1, m2, m3, m4, m5, m6, m7⟩, a3, c3, a4, c4, a5, c5, a6, c6, a7, c7, rfl, hw0, hw1, hw2, hw3, hw4, hw5, hw6, hw7, trivial⟩

theorem openMsg (h : DataW.trod enc Try.prog w base spare held fuel 78 cs = some x) : ∃ m, rMsg w.heap.size w cs m := by
  obtain ⟨xs, n, _, _, hl, hlen, hf⟩ := DataW.trod_struct Try.underlying78 h
  have hl' : cs.length = 9 := hl.trans (by kernel_rfl)
  obtain ⟨z0, z1, z2, z3, z4, z5, z6, z7, z8, rfl⟩ : ∃ z0 z1 z2 z3 z4 z5 z6 z7 z8, cs = [z0, z1, z2, z3, z4, z5, z6, z7, z8] := by
    match cs, hl' with
    | [z0, z1, z2, z3, z4, z5, z6, z7, z8], _ => exact ⟨z0, z1, z2, z3, z4, z5, z6, z7, z8, rfl⟩
  obtain ⟨y0, hy0⟩ : ∃ y, xs[0]? = some y := ⟨_, List.getElem?_eq_getElem (by rw [hlen]; decide)⟩
  have e0 := hf 0 _ rfl
  rw [hy0] at e0
  have d0 : DataW.trod enc Try.prog w base spare held n 3 [z0] = some y0 := e0
  obtain ⟨m0, he0, _, hw0⟩ := DataW.trod_int Try.underlying3 d0
  simp only [List.cons.injEq, and_true] at he0
  subst he0
  obtain ⟨y1, hy1⟩ : ∃ y, xs[1]? = some y := ⟨_, List.getElem?_eq_getElem (by rw [hlen]; decide)⟩
  have e1 := hf 1 _ rfl
  rw [hy1] at e1
  have d1 : DataW.trod enc Try.prog w base spare held n 3 [z1] = some y1 := e1
  obtain ⟨m1, he1, _, hw1⟩ := DataW.trod_int Try.underlying3 d1
  simp only [List.cons.injEq, and_true] at he1
  subst he1
  obtain ⟨y2, hy2⟩ : ∃ y, xs[2]? = some y := ⟨_, List.getElem?_eq_getElem (by rw [hlen]; decide)⟩
  have e2 := hf 2 _ rfl
  rw [hy2] at e2
  have d2 : DataW.trod enc Try.prog w base spare held n 3 [z2] = some y2 := e2
  obtain ⟨m2, he2, _, hw2⟩ := DataW.trod_int Try.underlying3 d2
  simp only [List.cons.injEq, and_true] at he2
  subst he2
  obtain ⟨y3, hy3⟩ : ∃ y, xs[3]? = some y := ⟨_, List.getElem?_eq_getElem (by rw [hlen]; decide)⟩
  have e3 := hf 3 _ rfl
  rw [hy3] at e3
  have d3 : DataW.trod enc Try.prog w base spare held n 74 [z3, z4] = some y3 := e3
  obtain ⟨m3, hs3⟩ := openDot d3
  obtain ⟨y4, hy4⟩ : ∃ y, xs[4]? = some y := ⟨_, List.getElem?_eq_getElem (by rw [hlen]; decide)⟩
  have e4 := hf 4 _ rfl
  rw [hy4] at e4
  have d4 : DataW.trod enc Try.prog w base spare held n 76 [z5, z6, z7] = some y4 := e4
  obtain ⟨m4, hs4⟩ := openCmd d4
  obtain ⟨y5, hy5⟩ : ∃ y, xs[5]? = some y := ⟨_, List.getElem?_eq_getElem (by rw [hlen]; decide)⟩
  have e5 := hf 5 _ rfl
  rw [hy5] at e5
  have d5 : DataW.trod enc Try.prog w base spare held n 67 [z8] = some y5 := e5
  obtain ⟨a5, c5, m5, he5, hw5⟩ := openList (R := rDot) (size := 2) Try.underlying67 (by kernel_rfl) (by decide) openDot d5
  simp only [List.cons.injEq, and_true] at he5
  subst he5
  obtain ⟨he3, g3_0, g3_1, _⟩ := hs3
  simp only [List.cons.injEq, and_true] at he3
  obtain ⟨rfl, rfl⟩ := he3
  obtain ⟨he4, g4_0, g4_1, g4_2, _⟩ := hs4
  simp only [List.cons.injEq, and_true] at he4
  obtain ⟨rfl, rfl, rfl⟩ := he4
  exact ⟨⟨m0, m1, m2, m3, m4, m5⟩, a5, c5, rfl, hw0, hw1, hw2, g3_0, g3_1, g4_0, g4_1, g4_2, hw5, trivial⟩

theorem openAsked (h : DataW.trod enc Try.prog w base spare held fuel 81 cs = some x) : ∃ m, rAsked w.heap.size w cs m := by
  obtain ⟨xs, n, _, _, hl, hlen, hf⟩ := DataW.trod_struct Try.underlying81 h
  have hl' : cs.length = 6 := hl.trans (by kernel_rfl)
  obtain ⟨z0, z1, z2, z3, z4, z5, rfl⟩ : ∃ z0 z1 z2 z3 z4 z5, cs = [z0, z1, z2, z3, z4, z5] := by
    match cs, hl' with
    | [z0, z1, z2, z3, z4, z5], _ => exact ⟨z0, z1, z2, z3, z4, z5, rfl⟩
  obtain ⟨y0, hy0⟩ : ∃ y, xs[0]? = some y := ⟨_, List.getElem?_eq_getElem (by rw [hlen]; decide)⟩
  have e0 := hf 0 _ rfl
  rw [hy0] at e0
  have d0 : DataW.trod enc Try.prog w base spare held n 74 [z0, z1] = some y0 := e0
  obtain ⟨m0, hs0⟩ := openDot d0
  obtain ⟨y1, hy1⟩ : ∃ y, xs[1]? = some y := ⟨_, List.getElem?_eq_getElem (by rw [hlen]; decide)⟩
  have e1 := hf 1 _ rfl
  rw [hy1] at e1
  have d1 : DataW.trod enc Try.prog w base spare held n 76 [z2, z3, z4] = some y1 := e1
  obtain ⟨m1, hs1⟩ := openCmd d1
  obtain ⟨y2, hy2⟩ : ∃ y, xs[2]? = some y := ⟨_, List.getElem?_eq_getElem (by rw [hlen]; decide)⟩
  have e2 := hf 2 _ rfl
  rw [hy2] at e2
  have d2 : DataW.trod enc Try.prog w base spare held n 67 [z5] = some y2 := e2
  obtain ⟨a2, c2, m2, he2, hw2⟩ := openList (R := rDot) (size := 2) Try.underlying67 (by kernel_rfl) (by decide) openDot d2
  simp only [List.cons.injEq, and_true] at he2
  subst he2
  obtain ⟨he0, g0_0, g0_1, _⟩ := hs0
  simp only [List.cons.injEq, and_true] at he0
  obtain ⟨rfl, rfl⟩ := he0
  obtain ⟨he1, g1_0, g1_1, g1_2, _⟩ := hs1
  simp only [List.cons.injEq, and_true] at he1
  obtain ⟨rfl, rfl, rfl⟩ := he1
  exact ⟨⟨m0, m1, m2⟩, a2, c2, rfl, g0_0, g0_1, g1_0, g1_1, g1_2, hw2, trivial⟩

theorem openCluster (h : DataW.trod enc Try.prog w base spare held fuel 26 cs = some x) : ∃ m, rCluster w.heap.size w cs m := by
  obtain ⟨xs, n, _, _, hl, hlen, hf⟩ := DataW.trod_struct Try.underlying26 h
  have hl' : cs.length = 3 := hl.trans (by kernel_rfl)
  obtain ⟨z0, z1, z2, rfl⟩ : ∃ z0 z1 z2, cs = [z0, z1, z2] := by
    match cs, hl' with
    | [z0, z1, z2], _ => exact ⟨z0, z1, z2, rfl⟩
  obtain ⟨y0, hy0⟩ : ∃ y, xs[0]? = some y := ⟨_, List.getElem?_eq_getElem (by rw [hlen]; decide)⟩
  have e0 := hf 0 _ rfl
  rw [hy0] at e0
  have d0 : DataW.trod enc Try.prog w base spare held n 22 [z0] = some y0 := e0
  obtain ⟨a0, c0, m0, he0, hw0⟩ := openList (R := rReplica) (size := 8) Try.underlying22 (by kernel_rfl) (by decide) openReplica d0
  simp only [List.cons.injEq, and_true] at he0
  subst he0
  obtain ⟨y1, hy1⟩ : ∃ y, xs[1]? = some y := ⟨_, List.getElem?_eq_getElem (by rw [hlen]; decide)⟩
  have e1 := hf 1 _ rfl
  rw [hy1] at e1
  have d1 : DataW.trod enc Try.prog w base spare held n 23 [z1] = some y1 := e1
  obtain ⟨a1, c1, m1, he1, hw1⟩ := openList (R := rMsg) (size := 9) Try.underlying23 (by kernel_rfl) (by decide) openMsg d1
  simp only [List.cons.injEq, and_true] at he1
  subst he1
  obtain ⟨y2, hy2⟩ : ∃ y, xs[2]? = some y := ⟨_, List.getElem?_eq_getElem (by rw [hlen]; decide)⟩
  have e2 := hf 2 _ rfl
  rw [hy2] at e2
  have d2 : DataW.trod enc Try.prog w base spare held n 24 [z2] = some y2 := e2
  obtain ⟨a2, c2, m2, he2, hw2⟩ := openList (R := rAsked) (size := 6) Try.underlying24 (by kernel_rfl) (by decide) openAsked d2
  simp only [List.cons.injEq, and_true] at he2
  subst he2
  exact ⟨⟨m0, m1, m2⟩, a0, c0, a1, c1, a2, c2, rfl, hw0, hw1, hw2, trivial⟩

end
end Go.Proofs.Ytembioiaeimegaa
