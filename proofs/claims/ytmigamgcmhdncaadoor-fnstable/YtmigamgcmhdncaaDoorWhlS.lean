/-
  Which commands of a graph are whole: the specification's answer.
-/
import Derived.Test.YtmigamgcmhdncaaDoorRchA
import Derived.Test.YtmigamgcmhdncaaDoorGraC
import Derived.Test.YtmigamgcmhdncaaDoorGDatT
namespace Go.Proofs.YtmigamgcmhdncaaDoor
open Go.RowKit
set_option linter.unusedVariables false
set_option linter.unusedSimpArgs false
set_option maxRecDepth 10000

/-- The dots at those of the first k places that P takes. -/
def pickT (P : Nat → Bool) (l : List MItem) : Nat → List MDot
  | 0 => []
  | k + 1 => pickT P l k ++ (bif P k then (l[k]?.map MItem.fD).toList else [])
theorem pickT_yes {P : Nat → Bool} {l : List MItem} {k : Nat} (hk : k < l.length) (h : P k = true) : pickT P l (k + 1) = pickT P l k ++ [l[k].fD] := by
  simp only [pickT, h, cond_true, List.getElem?_eq_getElem hk]
  rfl
theorem pickT_no {P : Nat → Bool} {l : List MItem} {k : Nat} (h : P k = false) : pickT P l (k + 1) = pickT P l k := by simp only [pickT, h, cond_false, List.append_nil]
theorem pickT_congr {P Q : Nat → Bool} {l : List MItem} : ∀ {k : Nat}, (∀ j, j < k → P j = Q j) → pickT P l k = pickT Q l k
  | 0, _ => rfl
  | k + 1, h => by
    have ih := pickT_congr (P := P) (Q := Q) (l := l) (k := k) (fun j hj => h j (by omega))
    have hk := h k (by omega)
    simp only [pickT, ih, hk]
theorem pickT_len (P : Nat → Bool) (l : List MItem) (k : Nat) : (pickT P l k).length ≤ k := by
  induction k with
  | zero => simp [pickT]
  | succ k ih =>
    rcases h : P k with _ | _
    · rw [pickT_no h]; omega
    · simp only [pickT, h, cond_true, List.length_append]
      have : (l[k]?.map MItem.fD).toList.length ≤ 1 := by cases l[k]? <;> simp
      omega
/-- What Whole answers. -/
def WholeL (m : MGraph) (L : List MDot) : Prop := (graphP m = false ∧ L = []) ∨ (graphP m = true ∧ ∃ P : Nat → Bool, (∀ j, j < m.fItems.length → (P j = true ↔ wholeAt m.fItems j)) ∧ L = pickT P m.fItems m.fItems.length)
theorem WholeL.one {m : MGraph} {L K : List MDot} (h : WholeL m L) (k : WholeL m K) : L = K := by
  rcases h with ⟨h1, rfl⟩ | ⟨h1, P, hP, rfl⟩ <;> rcases k with ⟨k1, rfl⟩ | ⟨k1, Q, hQ, rfl⟩
  · rfl
  · rw [h1] at k1; cases k1
  · rw [h1] at k1; cases k1
  · refine pickT_congr (fun j hj => ?_)
    have h2 := (hP j hj).trans (hQ j hj).symm
    rcases h3 : P j with _ | _ <;> rcases h4 : Q j with _ | _
    · rfl
    · rw [h3, h4] at h2; exact absurd (h2.2 rfl) (by decide)
    · rw [h3, h4] at h2; exact absurd (h2.1 rfl) (by decide)
    · rfl
theorem RowR.nil0 {w : World} {base e B g : Nat} (h : w.ownsRow base e 2 (.slice (some ⟨g, 0, none⟩) 0 0) 0 []) : RowR 2 e rDot B w base (.slice (some ⟨g, 0, none⟩) 0 0) [] := ⟨[], rfl, (fun _ h => by cases h), (fun _ h => by simp at h), h⟩

set_option maxHeartbeats 4000000 in
theorem specWhole_any (cs : List Value) (m : MGraph) (w : World) (hr : rGraph w.heap.size w cs m) (hw : wGraph m ≤ 1048576) :
    Calls Tryd.prog 10 #[.agg cs.toArray] w fun e w' => ∃ (v : Value) (L : List MDot), e = .returned v ∧ WholeL m L ∧ RowR 2 40 rDot w.heap.size w' w.heap.size v L ∧ Below w.heap.size w w' := by
  obtain ⟨iD, hiD, hzD0, hzD1, hzD2⟩ := info_parts Tryd.infoOfDot
  have HRG := Hid.mk hr
  have HWG := Hid.mk hw
  obtain ⟨a, cap, rfl, hL, _⟩ := hr
  have HL := Hid.mk hL
  obtain ⟨n, hx⟩ : ∃ n, n = m.fItems.length := ⟨_, rfl⟩
  rw [← hx] at HRG ⊢
  have HX := Hid.mk hx
  clear hL hx hw
  go_enter Tryd.func10, Tryd.ntmps10
  go_wp2_with fail
  obtain ⟨w1, hw1⟩ : ∃ x, x = (w.alloc (.cells #[.slice a n cap] 30)).alloc (.cells #[] 40) := ⟨_, rfl⟩
  have hb01 : Below w.heap.size w w1 := by rw [hw1]; exact ((Below.refl _ _).alloc (Nat.le_refl _) _).alloc (by simp) _
  have hbx1 : Bx w1 w.heap.size [.slice a n cap] := by rw [hw1]; exact (Bx.new _ _ _).alloc _
  have ho1 : w1.ownsRow (w.heap.size + 1) 40 2 (.slice (some ⟨w.heap.size + 1, 0, none⟩) 0 0) 0 [] := by
    have h := own_lit0' (w.alloc (.cells #[.slice a n cap] 30)) (w.heap.size + 1) 40 2 (by simp)
    rw [hw1]
    simpa using h
  have hs1 : w.heap.size + 2 ≤ w1.heap.size := by rw [hw1]; simp
  rw [← hw1]
  clear hw1
  refine (specGraphOk_c [.slice a n cap] m w1 (rGraph_good.mono (rGraph_good.below HRG.out hb01) hb01.size) HWG.out).mono ?_
  rintro e w2 ⟨rfl, hx2⟩
  have hb02 := bthen hb01 hx2
  have hbx2 := hbx1.under hx2
  have ho2 := own_below ho1 hx2
  have hs2 := hx2.size
  have v0 := hbx2.2 0 _ rfl
  rcases hgo : graphP m with _ | _
  · have HV : Hid (WholeL m []) := .inl ⟨hgo, rfl⟩
    have HO := Hid.mk (RowR.nil0 (B := w.heap.size) (own_base ho2 (show w.heap.size ≤ w.heap.size + 1 by omega)))
    clear ho1 ho2 hgo
    go_wp2_with fail
    go_ret
    exact ⟨_, [], rfl, HV.out, HO.out, hb02⟩
  have HGO := Hid.mk hgo
  have hn : n ≤ 100 := by
    have h' : (decide (m.fItems.length ≤ 100) && upOk itemP itemLt m.fItems) = true := hgo
    rw [Bool.and_eq_true] at h'
    rw [HX.out]
    exact of_decide_eq_true h'.1
  clear hgo
  go_wp2_with fail
  refine (l8All_any [.slice a n cap] m w2 (rGraph_good.mono (rGraph_good.below HRG.out hb02) hb02.size) HGO.out).mono ?_
  rintro e w3 ⟨gs, bss, ws, vr, vw, rfl, hA⟩
  rw [← HX.out] at hA
  have hx3 := hA.low
  have hb03 := bthen hb02 hx3
  have hbx3 := hbx2.under hx3
  have ho3 := own_below ho2 hx3
  have hs3 := hx3.size
  have HWR := Hid.mk (And.intro hA.wrow (And.intro hA.wlen hA.who))
  obtain ⟨ar, cr, hvr⟩ := own_slice hA.rrow
  obtain ⟨aw, cw, hvw⟩ := own_slice hA.wrow
  subst hvr hvw
  have HR0 := Hid.mk (RowR.nil0 (B := w.heap.size) ho3)
  clear hA ho1 ho2 ho3 v0
  go_wp2_with fail
  go_loopw [3, 6] (fun v iv wr => ∃ k : Nat, k ≤ n ∧ iv = .int .i64 k ∧ Hid (RowR 2 40 rDot w.heap.size wr (w.heap.size + 1) v (pickT (fun j => ws.getD j false) m.fItems k)) ∧ Hid (∀ b, v.ownBlock = some b → b < w2.heap.size ∨ w3.heap.size ≤ b) ∧ Hid (∀ b, w2.heap.size ≤ b → b < w3.heap.size → wr.heap[b]? = w3.heap[b]?) ∧ Below (w.heap.size + 1) w3 wr) (fun _ iv _ => n - (intOf iv).toNat)
  case atStart => exact ⟨0, Nat.zero_le _, rfl, HR0, Hid.mk (fun b hb => by simp [Value.ownBlock] at hb; omega), Hid.mk (fun b _ _ => rfl), Below.refl _ _⟩
  case round =>
    obtain ⟨k, hk, rfl, HRk, HBk, HKk, hbk⟩ := hrel
    have hbw : Below w.heap.size w wr := hb03.trans (hbk.mono (by omega))
    have hbx := hbx3.below hbk (by omega)
    have v0 := hbx.2 0 _ rfl
    have hzk : w3.heap.size ≤ wr.heap.size := hbk.size
    by_cases hlt : k < n
    · have hkl : k < m.fItems.length := by rw [← HX.out]; exact hlt
      obtain ⟨bw, cw2, hev, hbw1, hbw2, hcw⟩ := own_at HWR.out.1 (by omega)
      simp only [Value.slice.injEq, true_and] at hev
      obtain ⟨rfl, rfl⟩ := hev
      have kw := (World.cell?_of_block (w := w3) (a := ⟨bw, k, none⟩) (HKk.out bw hbw1 hbw2)).trans (hcw k _ (boolC_at (by rw [HWR.out.2.1]; exact hlt)))
      have hk1 : (0 : Int) ≤ (k : Int) := by omega
      have hk2 : (k : Int) < (n : Int) := by omega
      rcases hwk : ws.getD k false with _ | _
      · rw [hwk] at kw
        have HP := Hid.mk (pickT_no (P := fun j => ws.getD j false) (l := m.fItems) (k := k) hwk)
        go_wp2_with fail
        go_roundw
        case rel => exact ⟨k + 1, by omega, by go_num, by rw [HP.out]; exact HRk, HBk, HKk, hbk⟩
        case measure => simp [intOf]; omega
      · rw [hwk] at kw
        have HP := Hid.mk (pickT_yes (P := fun j => ws.getD j false) (l := m.fItems) (k := k) hkl hwk)
        have hpl := pickT_len (fun j => ws.getD j false) m.fItems k
        obtain ⟨b1, o1, rfl, hB, cs, hcl, hcell, a2, c2, rfl, g0, g1, g2, _⟩ := (HL.out.2.2.below rItem_good hbw) k hkl
        have k0 := hcell 0 _ rfl
        have k1 := hcell 1 _ rfl
        rw [Nat.add_zero] at k0
        clear hcell hcl g2 hwk
        generalize m.fItems[k].fD = d at *
        generalize pickT (fun j => ws.getD j false) m.fItems k = pl at *
        obtain ⟨css, r1, r2, r3, r4⟩ := HRk.out
        have HR1 := Hid.mk r1
        have HR2 := Hid.mk r2
        have HR3 := Hid.mk r3
        clear r1 r2 r3
        obtain ⟨w5, hw5⟩ : ∃ x, x = wr.alloc (.cells #[.int .i64 d.fR, .int .i64 d.fN] 40) := ⟨_, rfl⟩
        have hb5 : Below wr.heap.size wr w5 := by rw [hw5]; exact (Below.refl _ _).alloc (Nat.le_refl _) _
        have hbx5 : Bx w5 wr.heap.size [.int .i64 d.fR, .int .i64 d.fN] := by rw [hw5]; exact Bx.new _ _ _
        have r5 := own_below r4 hb5
        have hz5 := hb5.size
        go_wp2_with (at_builtin; rw [← hw5]; refine wpList_append_src_y rfl _ _ 26 26 rfl (w.heap.size + 1) 40 iD (.agg #[.int .i64 0, .int .i64 0]) 2 16 Tryd.underlying26 hiD hzD0 hzD1 hzD2 rfl _ _ _ rfl r5 _ rfl 1 [.int .i64 d.fR, .int .i64 d.fN] (Src.ofSlice w5 Tryd.underlying26 ⟨wr.heap.size, 0, none⟩ 1 1 _ rfl (bx_news hbx5) (by intro u hu; simp at hu; rcases hu with rfl | rfl <;> rfl)) (by unfold maxLen; omega) (by omega) (by omega) ?_; intro v6 w6 ho6 hgr6 hat6)
        have hT : Below (w.heap.size + 1) wr w6 := (hb5.mono (by omega)).grown hgr6 (by omega) (fun x hx => (r4.lt x hx).1)
        have HRn : Hid (RowR 2 40 rDot w.heap.size w6 (w.heap.size + 1) v6 (pl ++ [d])) := RowR.push rDot_good HR1.out HR2.out HR3.out (hT.mono (by omega)) rfl ⟨rfl, g0, g1, trivial⟩ ho6
        rw [← HP.out] at HRn
        have HBn : Hid (∀ b, v6.ownBlock = some b → b < w2.heap.size ∨ w3.heap.size ≤ b) := fun b hb => by
          rcases hat6 with e | e
          · exact HBk.out b (e ▸ hb)
          · rw [hb] at e; simp at e; omega
        have HKn : Hid (∀ b, w2.heap.size ≤ b → b < w3.heap.size → w6.heap[b]? = w3.heap[b]?) := fun b h1 h2 => by
          rw [hgr6.block b (by omega) (fun e => by have := HBk.out b e.symm; omega), hb5.block b (by omega)]
          exact HKk.out b h1 h2
        exact ⟨⟨k + 1, by omega, by go_num, HRn, HBn, HKn, hbk.trans hT⟩, by simp [intOf]; omega⟩
    · have hkn : n = k := by omega
      have HWL : Hid (WholeL m (pickT (fun j => ws.getD j false) m.fItems k)) := .inr ⟨HGO.out, fun j => ws.getD j false, fun j hj => HWR.out.2.2 j (by rw [HX.out]; exact hj), by rw [← hkn, HX.out]⟩
      have HRb := Hid.mk (RowR.base HRk.out (show w.heap.size ≤ w.heap.size + 1 by omega))
      go_wp2_with fail
      go_ret
      exact ⟨_, _, rfl, HWL.out, HRb.out, hbw⟩

end Go.Proofs.YtmigamgcmhdncaaDoor
