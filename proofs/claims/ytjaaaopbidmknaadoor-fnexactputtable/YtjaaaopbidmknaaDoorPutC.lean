/-
  PutTable's contracts, as the exact law asks for them.
-/
import Derived.Test.YtjaaaopbidmknaaDoorTabI
import Derived.Test.YtjaaaopbidmknaaDoorTabS
import Derived.Test.YtjaaaopbidmknaaDoorByteL
namespace Go.Proofs.YtjaaaopbidmknaaDoor
open Go.RowKit
set_option linter.unusedVariables false
set_option linter.unusedSimpArgs false
set_option maxRecDepth 10000

/-- The tables of utf8 and that of the sum are as laid. -/
def Tabs2 (w : World) : Prop := Tabs w ∧ TabAt w
theorem Tabs2.size {w : World} (h : Tabs2 w) : 0 < w.heap.size := h.2.size
theorem Tabs2.below {w w' : World} (h : Tabs2 w) (hb : Below w.heap.size w w') (hB : 0 < w.heap.size) : Tabs2 w' := ⟨h.1.below hb, h.2.below hb hB⟩

theorem outB_small {l : List MPair} (hw : sumW wPair l ≤ 1048576) (hn : l.length ≤ 200) : (outB l (nBlk l)).length ≤ 53000000 := by
  have h1 := outB_len hw (nBlk l)
  have h2 : nBlk l ≤ 50 := by unfold nBlk; omega
  omega
theorem tabP_ok {l : List MPair} (hw : sumW wPair l ≤ 1048576) : BytesOk (tabP l) := by
  unfold tabP
  split
  · rename_i h
    have hn : l.length ≤ 200 := by
      unfold tabOk at h
      simp only [Bool.and_eq_true, decide_eq_true_eq] at h
      exact h.2.2
    have h1 := outB_small hw hn
    unfold tabB
    exact ((outB_ok _ _).append (frame_ok (((putNum_ok _).append (idxB_ok _ _)).append (flt_ok _)))).append (four_ok (by omega) (by omega))
  · intro z hz; cases hz
theorem boundPutTable_0 (l : List MPair) (hw : wPs l ≤ 1048576) : (tabP l).length ≤ 1099511627776 := by
  have hw' : sumW wPair l ≤ 1048576 := by unfold wPs at hw; omega
  unfold tabP
  split
  · rename_i h
    have hn : l.length ≤ 200 := by
      unfold tabOk at h
      simp only [Bool.and_eq_true, decide_eq_true_eq] at h
      exact h.2.2
    have h1 := outB_small hw' hn
    have h2 := frame_len (putNum (clampN (nBlk l)) ++ idxB l (nBlk l) ++ flt (keysP l))
    have h3 := idxB_len hw' (nBlk l)
    have h4 : nBlk l ≤ 50 := by unfold nBlk; omega
    have h5 := (putNum_length (clampN (nBlk l))).2
    have h6 := flt_length (keysP l)
    unfold tabB
    simp only [List.length_append, four_length] at *
    omega
  · simp
theorem tab_own {w : World} {base : Nat} {v : Value} {l : List MPair} (hw : sumW wPair l ≤ 1048576) (h : w.ownsRow base 5 1 v (tabP l).length ((tabP l).map (Value.int .u8))) : ownB 5 w v (tabP l) v.ownBlock.toList :=
  ⟨own_base h (Nat.zero_le _), tabP_ok hw, rfl⟩
theorem specPutTable_c (v : Value) (l : List MPair) (w : World) (hr : rdPs w.heap.size w v l) (hw : wPs l ≤ 1048576) (hT : Tabs2 w) :
    Calls Tryd.prog 29 #[v] w fun e w' => ∃ v, e = .returned v ∧ rdB w'.heap.size w' v (tabP l) ∧ Below w.heap.size w w' := by
  obtain ⟨a, c, rfl, hL⟩ := hr
  have hw1 : sumW wPair l ≤ 1048576 := by unfold wPs at hw; omega
  have hw2 : l.length ≤ 1048576 := by unfold wPs at hw; omega
  refine (specPutTable_any a _ c l w rfl hw2 hL hw1 hT.2).mono ?_
  rintro e w' ⟨v, rfl, h4, h5⟩
  exact ⟨v, rfl, rdB_own (tab_own hw1 h4), h5⟩
theorem implPutTable_c (v : Value) (l : List MPair) (w : World) (hr : rdPs w.heap.size w v l) (hw : wPs l ≤ 1048576) (hT : Tabs2 w) :
    Calls Tryd.prog 31 #[v] w fun e w' => ∃ v F, e = .returned v ∧ ownB 5 w' v (tabP l) F ∧ F.Nodup ∧ (∀ b, b ∈ F → w.heap.size ≤ b) ∧ Below w.heap.size w w' := by
  obtain ⟨a, c, rfl, hL⟩ := hr
  have hw1 : sumW wPair l ≤ 1048576 := by unfold wPs at hw; omega
  have hw2 : l.length ≤ 1048576 := by unfold wPs at hw; omega
  refine (implPutTable_any a _ c l w rfl hw2 hL hw1 hT.1 hT.2).mono ?_
  rintro e w' ⟨v, rfl, h4, h5⟩
  exact ⟨v, _, rfl, tab_own hw1 h4, by cases v.ownBlock <;> simp, fun b hb => (h4.lt b (by simpa using hb)).1, h5⟩

end Go.Proofs.YtjaaaopbidmknaaDoor
