/-
  Merge of lists of pairs: what both sides answer.
-/
import Derived.Test.YtiahmcclmlmgpaaDoorMergeI
import Derived.Test.YtiahmcclmlmgpaaDoorMergeT
import Derived.Test.YtiahmcclmlmgpaaDoorDelG
import Derived.Test.YtiahmcclmlmgpaaDoorPairSK
namespace Go.Proofs.YtiahmcclmlmgpaaDoor
open Go.RowKit Go.Maps
set_option linter.unusedVariables false
set_option linter.unusedSimpArgs false
set_option maxRecDepth 10000

def foldM (ll : List (List MPair)) : List MPair := ll.foldl mergeP []
def mrgOk (ll : List (List MPair)) : Bool := decide (ll.length ≤ 10) && ll.all pairsOkP
def mrgP (ll : List (List MPair)) (drop : Bool) : List MPair := if mrgOk ll then (if drop then thereP (foldM ll) else foldM ll) else []
theorem foldM_step {ll : List (List MPair)} {k : Nat} (h : k < ll.length) : foldM (ll.take (k + 1)) = mergeP (foldM (ll.take k)) ll[k] := by
  unfold foldM
  rw [List.take_succ_eq_append_getElem h, List.foldl_append]
  rfl
theorem mergeP_weight (a b : List MPair) : sumW wPair (mergeP a b) ≤ sumW wPair a + sumW wPair b := by
  have key : ∀ n (a b : List MPair), sumW wPair (mergeF n a b) ≤ sumW wPair a + sumW wPair b := by
    intro n
    induction n with
    | zero => intro a b; simp [mergeF, sumW]
    | succ n ih =>
      intro a b
      cases a with
      | nil => simp [mergeF, sumW]
      | cons x a =>
        cases b with
        | nil => simp [mergeF, sumW]
        | cons y b =>
          have h1 := ih a (y :: b)
          have h2 := ih (x :: a) b
          have h3 := ih a b
          simp only [mergeF]
          simp only [sumW] at h1 h2 h3 ⊢
          split
          · simp only [sumW]; omega
          · split
            · simp only [sumW]; omega
            · simp only [sumW]; omega
  exact key _ a b
theorem foldM_le (ll : List (List MPair)) (k : Nat) : (foldM (ll.take k)).length + sumW wPair (foldM (ll.take k)) ≤ sumW wPs (ll.take k) := by
  induction k with
  | zero => simp [foldM, sumW]
  | succ k ih =>
    by_cases h : k < ll.length
    · have h1 := mergeP_length (foldM (ll.take k)) ll[k]
      have h2 := mergeP_weight (foldM (ll.take k)) ll[k]
      have h3 := sumW_take_succ (f := wPs) h
      have h4 : wPs ll[k] = ll[k].length + sumW wPair ll[k] := rfl
      rw [foldM_step h, h3]
      omega
    · rw [List.take_of_length_le (by omega)] at ih ⊢
      exact ih
theorem foldM_bd {ll : List (List MPair)} (hw : wPss ll ≤ 1048576) (k : Nat) : (foldM (ll.take k)).length ≤ 1048576 ∧ sumW wPair (foldM (ll.take k)) ≤ 1048576 := by
  have h1 := foldM_le ll k
  have h2 := sumW_take_le wPs ll k
  unfold wPss at hw
  omega
theorem boundMerge_0 (ll : List (List MPair)) (drop : Bool) (hw : wPss ll ≤ 1048576) : wPs (mrgP ll drop) ≤ 1099511627776 := by
  have h1 := foldM_bd hw ll.length
  rw [List.take_length] at h1
  have h2 := sumW_sublist' (f := wPair) (List.filter_sublist (p := fun p => !p.fGone) (l := foldM ll))
  have h3 := (List.filter_sublist (p := fun p => !p.fGone) (l := foldM ll)).length_le
  unfold mrgP wPs thereP
  split
  · split
    · omega
    · omega
  · simp [sumW]
theorem mrg_many {ll : List (List MPair)} {drop : Bool} (h : 10 < ll.length) : mrgP ll drop = [] := by
  unfold mrgP mrgOk
  rw [decide_eq_false (by omega)]
  rfl
theorem mrg_bad {ll : List (List MPair)} {drop : Bool} {k : Nat} (h : k < ll.length) (hb : pairsOkP ll[k] = false) : mrgP ll drop = [] := by
  unfold mrgP mrgOk
  have : ll.all pairsOkP = false := by
    rw [List.all_eq_false]
    exact ⟨_, List.getElem_mem h, by simp [hb]⟩
  rw [this, Bool.and_false]
  rfl
theorem mrg_good {ll : List (List MPair)} {drop : Bool} (h : ll.length ≤ 10) (hk : ∀ j, (h : j < ll.length) → pairsOkP ll[j] = true) : mrgP ll drop = if drop then thereP (foldM ll) else foldM ll := by
  unfold mrgP mrgOk
  have : ll.all pairsOkP = true := by
    rw [List.all_eq_true]
    intro l hl
    obtain ⟨j, hj, rfl⟩ := List.getElem_of_mem hl
    exact hk j hj
  rw [this, decide_eq_true h]
  rfl
theorem RowR.any {e B B' base base' : Nat} {w : World} {v : Value} {l : List MPair} (h : RowR 3 e rPair B w base v l) (hb : base' ≤ base) : RowR 3 e rPair B' w base' v l := by
  obtain ⟨css, h1, h2, h3, h4⟩ := h
  exact ⟨css, h1, h2, fun j a b => rPair_any (h3 j a b), own_base h4 hb⟩
theorem RowR.under {e B base : Nat} {w w' : World} {v : Value} {l : List MPair} (h : RowR 3 e rPair B w base v l) (hb : Below w.heap.size w w') : RowR 3 e rPair B w' base v l := by
  obtain ⟨css, h1, h2, h3, h4⟩ := h
  exact ⟨css, h1, h2, fun j a b => rPair_any (h3 j a b), own_below h4 hb⟩

set_option maxHeartbeats 4000000 in
theorem implMerge_c (v : Value) (ll : List (List MPair)) (drop : Bool) (w : World) (hr : rdPss w.heap.size w v ll) (hw : wPss ll ≤ 1048576) (hT : Tabs w) :
    Calls Tryd.prog 9 #[v, .bool drop] w fun e w' => ∃ (v' : Value) (F : List Nat), e = .returned v' ∧ ownS 3 31 oPair w' v' (mrgP ll drop) F ∧ F.Nodup ∧ (∀ b, b ∈ F → w.heap.size ≤ b) ∧ Below w.heap.size w w' := by
  obtain ⟨a, c, rfl, hL⟩ := hr
  have hel := fun k (hk : k < ll.length) => wPss_mem hk
  have hfb := fun k => foldM_bd hw k
  have hnn : ll.length ≤ 1048576 := by unfold wPss at hw; omega
  obtain ⟨n, hx⟩ : ∃ n, ll.length = n := ⟨_, rfl⟩
  have HX := Hid.mk hx
  have HTT := Hid.mk hT
  have HL := Hid.mk hL
  rw [hx] at hnn ⊢
  clear hx hT hL
  by_cases h10 : 10 < n
  · have HV : Hid (mrgP ll drop = []) := mrg_many (by rw [HX.out]; exact h10)
    go_enter Tryd.func9, Tryd.ntmps9
    go_wp2_with fail
    go_ret
    exact ⟨_, [], rfl, by rw [HV.out]; exact .inl ⟨rfl, rfl, rfl⟩, by simp, by simp, Below.refl _ _⟩
  · go_enter Tryd.func9, Tryd.ntmps9
    go_wp2_with fail
    go_loopw [5, 13] (fun ov iv wr => ∃ k : Nat, k ≤ n ∧ iv = .int .i64 k ∧ (∀ j, (h : j < ll.length) → j < k → pairsOkP ll[j] = true) ∧ RowR 3 31 rPair w.heap.size wr w.heap.size ov (foldM (ll.take k)) ∧ Below w.heap.size w wr) (fun _ iv _ => n - (intOf iv).toNat)
    case atStart => exact ⟨0, Nat.zero_le _, rfl, fun j _ hj => by omega, RowR.start, Below.refl _ _⟩
    case round =>
      obtain ⟨k, hk, rfl, hok, hrow, hbk⟩ := hrel
      have HOK := Hid.mk hok
      clear hok
      by_cases hlt : k < n
      · have hkl : k < ll.length := by rw [HX.out]; exact hlt
        have hzk := hel k hkl
        have HFS := Hid.mk (foldM_step hkl)
        have HBD := Hid.mk (fun h => mrg_bad (drop := drop) hkl h)
        have hfk := hfb k
        obtain ⟨b1, o1, rfl, hB, cs, _, hcell, a1, c1, rfl, l1⟩ := (HL.out.2.2.below rPr_good hbk) k hkl
        have k0 := hcell 0 _ rfl
        simp only [Nat.mul_one, Nat.add_zero] at k0
        obtain ⟨m, hm⟩ : ∃ m, m = ll[k] := ⟨_, rfl⟩
        rw [← hm] at k0 hzk HFS HBD l1
        have HM := Hid.mk hm
        have hz1 : m.length ≤ 1048576 := by unfold wPs at hzk; omega
        have hz2 : sumW wPair m ≤ 1048576 := by unfold wPs at hzk; omega
        generalize foldM (ll.take k) = fo at *
        have l1' := LeafL.mono rPair_good l1 hbk.size
        have hC := pairsOk_any a1 m.length c1 m wr rfl hz1 l1' (HTT.out.below hbk) hz2
        clear hcell hm l1
        go_wp2_with fail
        refine Calls.mono hC ?_
        rintro e w1 ⟨rfl, hx1⟩
        clear hC
        have hB1 := hbk.trans (hx1.mono hbk.size)
        have hrow1 := RowR.under hrow hx1
        have l2 := LeafL.mono rPair_good (LeafL.below rPair_good l1' hx1) hx1.size
        clear hrow l1'
        rcases hpo : pairsOkP m with _ | _
        · go_wp2_with fail
          go_ret
          exact ⟨_, [], rfl, by rw [HBD.out hpo]; exact .inl ⟨rfl, rfl, rfl⟩, by simp, by simp, hB1⟩
        · obtain ⟨ao, co, rfl, hLo⟩ := RowR.leaf rPair_good hrow1 hB1.size
          have hC := mergeTwo_any ao a1 fo.length m.length co c1 fo m w1 rfl rfl (by omega) (by omega) hLo l2 (HTT.out.below hB1)
          clear hrow1 hLo l2
          go_wp2_with fail
          refine Calls.mono hC ?_
          rintro e w2 ⟨v2, rfl, hr2, hx2⟩
          have hB2 := hB1.trans (hx2.mono hB1.size)
          have HR2 : Hid (RowR 3 31 rPair w.heap.size w2 w.heap.size v2 (foldM (ll.take (k + 1)))) := by
            show RowR _ _ _ _ _ _ _ _
            rw [HFS.out]
            exact RowR.any hr2 hB1.size
          clear hr2 hC
          go_wp2_with fail
          go_roundw
          case rel => exact ⟨k + 1, by omega, by go_num, fun j h hj => by
            by_cases hjk : j = k
            · subst hjk; rw [← HM.out]; exact hpo
            · exact HOK.out j h (by omega), HR2.out, hB2⟩
          case measure => simp [intOf]; omega
      · have hkn : k = n := by omega
        subst hkn
        have hfk := hfb k
        have HT1 : Hid (ll.take k = ll) := List.take_of_length_le (by rw [HX.out]; exact Nat.le_refl _)
        rw [HT1.out] at hrow hfk
        have HG := Hid.mk (mrg_good (ll := ll) (drop := drop) (by rw [HX.out]; omega) (fun j h => HOK.out j h (by rw [HX.out] at h; exact h)))
        have hlt := RowR.lt hrow
        obtain ⟨ho, hN, hge⟩ := pairs_own hrow
        cases drop with
        | false =>
          clear hrow
          go_wp2_with fail
          go_ret
          exact ⟨_, _, rfl, by rw [HG.out]; exact ho, hN, hge, hbk⟩
        | true =>
          clear hrow
          have hC := deleteFunc_any _ _ _ _ (by omega) ho hN
          go_wp2_with fail
          refine Calls.mono hC ?_
          rintro e w1 ⟨v1, rfl, ho1, ht1⟩
          clear hC
          go_wp2_with fail
          go_ret
          exact ⟨v1, _, rfl, by rw [HG.out]; exact ho1, hN, hge, Turn.under hbk ht1 (fun k hk => hge k hk)⟩

set_option maxHeartbeats 4000000 in
theorem specMerge_c (v : Value) (ll : List (List MPair)) (drop : Bool) (w : World) (hr : rdPss w.heap.size w v ll) (hw : wPss ll ≤ 1048576) :
    Calls Tryd.prog 11 #[v, .bool drop] w fun e w' => ∃ v' : Value, e = .returned v' ∧ rdPs w'.heap.size w' v' (mrgP ll drop) ∧ Below w.heap.size w w' := by
  obtain ⟨a, c, rfl, hL⟩ := hr
  have hel := fun k (hk : k < ll.length) => wPss_mem hk
  have hfb := fun k => foldM_bd hw k
  have hnn : ll.length ≤ 1048576 := by unfold wPss at hw; omega
  obtain ⟨n, hx⟩ : ∃ n, ll.length = n := ⟨_, rfl⟩
  have HX := Hid.mk hx
  have HL := Hid.mk hL
  rw [hx] at hnn ⊢
  clear hx hL
  go_enter Tryd.func11, Tryd.ntmps11
  go_wp2_with fail
  go_loopw [5, 6] (fun ov iv wr => ∃ k : Nat, k ≤ n ∧ iv = .int .i64 k ∧ (0 < k → n ≤ 10) ∧ (∀ j, (h : j < ll.length) → j < k → pairsOkP ll[j] = true) ∧ RowR 3 31 rPair w.heap.size wr w.heap.size ov (foldM (ll.take k)) ∧ Below w.heap.size w wr) (fun _ iv _ => n - (intOf iv).toNat)
  case atStart => exact ⟨0, Nat.zero_le _, rfl, fun h => by omega, fun j _ hj => by omega, ⟨[], rfl, (fun _ h => by cases h), (fun _ h => by simp [foldM] at h), by have h := own_lit1 w w.heap.size 31 3 (Nat.le_refl _); simpa [foldM] using h⟩, (Below.refl _ _).alloc (Nat.le_refl _) _⟩
  case round =>
    obtain ⟨k, hk, rfl, h10, hok, hrow, hbk⟩ := hrel
    have HOK := Hid.mk hok
    have H10 := Hid.mk h10
    clear hok h10
    by_cases hlt : k < n
    · have hkl : k < ll.length := by rw [HX.out]; exact hlt
      have hzk := hel k hkl
      have HFS := Hid.mk (foldM_step hkl)
      have HBD := Hid.mk (fun h => mrg_bad (drop := drop) hkl h)
      have hfk := hfb k
      obtain ⟨b1, o1, rfl, hB, cs, _, hcell, a1, c1, rfl, l1⟩ := (HL.out.2.2.below rPr_good hbk) k hkl
      have k0 := hcell 0 _ rfl
      simp only [Nat.mul_one, Nat.add_zero] at k0
      obtain ⟨m, hm⟩ : ∃ m, m = ll[k] := ⟨_, rfl⟩
      rw [← hm] at k0 hzk HFS HBD l1
      have HM := Hid.mk hm
      have hz1 : m.length ≤ 1048576 := by unfold wPs at hzk; omega
      have hz2 : sumW wPair m ≤ 1048576 := by unfold wPs at hzk; omega
      generalize foldM (ll.take k) = fo at *
      have l1' := LeafL.mono rPair_good l1 hbk.size
      have hC := l4Rising_any a1 m.length c1 m wr rfl hz1 l1' hz2
      have hB' : b1 < wr.heap.size := Nat.lt_of_lt_of_le hB hbk.size
      clear hcell hm l1
      go_wp2_with fail
      refine Calls.mono hC ?_
      rintro e w1 ⟨rfl, hx1⟩
      clear hC
      have hB1 := hbk.trans (hx1.mono hbk.size)
      have hrow1 := RowR.under hrow hx1
      have l2 := LeafL.mono rPair_good (LeafL.below rPair_good l1' hx1) hx1.size
      have k1 := (hx1.cell (p := ⟨b1, o1 + k, none⟩) hB').trans k0
      clear hrow l1' k0
      rcases hpo : pairsOkP m with _ | _
      · go_wp2_with fail
        go_ret
        exact ⟨_, rfl, by rw [HBD.out hpo]; exact ⟨_, _, rfl, Nat.zero_le _, by omega, fun j hj => by simp at hj⟩, hB1.alloc hB1.size _⟩
      · by_cases h10 : 10 < n
        · have HV : Hid (mrgP ll drop = []) := mrg_many (by rw [HX.out]; exact h10)
          go_wp2_with fail
          go_ret
          exact ⟨_, rfl, by rw [HV.out]; exact ⟨_, _, rfl, Nat.zero_le _, by omega, fun j hj => by simp at hj⟩, hB1.alloc hB1.size _⟩
        · obtain ⟨ao, co, rfl, hLo⟩ := RowR.leaf rPair_good hrow1 hB1.size
          have hC := l4Merge_any ao a1 fo.length m.length co c1 fo m w1 rfl rfl (by omega) (by omega) hLo l2
          clear hrow1 hLo l2
          go_wp2_with fail
          refine Calls.mono hC ?_
          rintro e w2 ⟨v2, rfl, hr2, hx2⟩
          have hB2 := hB1.trans (hx2.mono hB1.size)
          have HR2 : Hid (RowR 3 31 rPair w.heap.size w2 w.heap.size v2 (foldM (ll.take (k + 1)))) := by
            show RowR _ _ _ _ _ _ _ _
            rw [HFS.out]
            exact RowR.any hr2 hB1.size
          clear hr2 hC
          go_wp2_with fail
          go_roundw
          case rel => exact ⟨k + 1, by omega, by go_num, fun _ => by omega, fun j h hj => by
            by_cases hjk : j = k
            · subst hjk; rw [← HM.out]; exact hpo
            · exact HOK.out j h (by omega), HR2.out, hB2⟩
          case measure => simp [intOf]; omega
    · have hkn : k = n := by omega
      subst hkn
      have hfk := hfb k
      have HT1 : Hid (ll.take k = ll) := List.take_of_length_le (by rw [HX.out]; exact Nat.le_refl _)
      rw [HT1.out] at hrow hfk
      have HG := Hid.mk (mrg_good (ll := ll) (drop := drop) (by rw [HX.out]; have := H10.out; omega) (fun j h => HOK.out j h (by rw [HX.out] at h; exact h)))
      obtain ⟨ao, co, rfl, hLo⟩ := RowR.leaf rPair_good hrow hbk.size
      have HLo := Hid.mk hLo
      clear hrow hLo
      cases drop with
      | false =>
        go_wp2_with fail
        go_ret
        exact ⟨_, rfl, by rw [HG.out]; exact ⟨_, _, rfl, HLo.out⟩, hbk⟩
      | true =>
        have hC := l4There_any ao _ co (foldM ll) _ rfl (by omega) HLo.out
        go_wp2_with fail
        refine Calls.mono hC ?_
        rintro e w1 ⟨v1, rfl, hr1, hx1⟩
        clear hC
        have hB1 := hbk.trans (hx1.mono hbk.size)
        obtain ⟨ap, cp, rfl, hLp⟩ := RowR.leaf rPair_good hr1 hx1.size
        clear hr1
        go_wp2_with fail
        go_ret
        exact ⟨_, rfl, by rw [HG.out]; exact ⟨_, _, rfl, hLp⟩, hB1⟩

end Go.Proofs.YtiahmcclmlmgpaaDoor
