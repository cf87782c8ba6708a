/-
  The group of a command: the specification's answer.
-/
import Derived.Test.YtmigamgcmhdncaaDoorWhlS
import Derived.Test.YtmigamgcmhdncaaDoorGrpM
namespace Go.Proofs.YtmigamgcmhdncaaDoor
open Go.RowKit
set_option linter.unusedVariables false
set_option linter.unusedSimpArgs false
set_option maxRecDepth 10000

/-- The dots at those places that Q takes. -/
def PickL (l : List MItem) (Q : Nat → Prop) (L : List MDot) : Prop := ∃ P : Nat → Bool, (∀ j, j < l.length → (P j = true ↔ Q j)) ∧ L = pickT P l l.length
theorem PickL.one {l : List MItem} {Q : Nat → Prop} {L K : List MDot} (h : PickL l Q L) (k : PickL l Q K) : L = K := by
  obtain ⟨P, hP, rfl⟩ := h
  obtain ⟨P2, hP2, rfl⟩ := k
  refine pickT_congr (fun j hj => ?_)
  have h2 := (hP j hj).trans (hP2 j hj).symm
  rcases h3 : P j with _ | _ <;> rcases h4 : P2 j with _ | _
  · rfl
  · rw [h3, h4] at h2; exact absurd (h2.2 rfl) (by decide)
  · rw [h3, h4] at h2; exact absurd (h2.1 rfl) (by decide)
  · rfl
theorem PickL.len {l : List MItem} {Q : Nat → Prop} {L : List MDot} (h : PickL l Q L) : L.length ≤ l.length := by
  obtain ⟨P, _, rfl⟩ := h
  exact pickT_len P _ _
theorem PickL.ex (l : List MItem) (Q : Nat → Prop) : ∃ L, PickL l Q L := ⟨_, fun j => @decide _ (Classical.propDecidable (Q j)), fun j _ => by simp, rfl⟩
theorem pickT_none (l : List MItem) : ∀ k, pickT (fun _ => false) l k = []
  | 0 => rfl
  | k + 1 => by rw [pickT_no rfl]; exact pickT_none l k
theorem PickL.none {l : List MItem} {Q : Nat → Prop} (h : ∀ j, j < l.length → ¬ Q j) : PickL l Q [] := ⟨fun _ => false, fun j hj => ⟨fun e => absurd (show false = true from e) (by decide), fun e => absurd e (h j hj)⟩, (pickT_none l _).symm⟩
/-- Who is in the group of a command that is whole. -/
def InGroup (m : MGraph) (d : MDot) (j : Nat) : Prop := graphP m = true ∧ ∃ p, ∃ hp : p < m.fItems.length, sameD m.fItems[p].fD d = true ∧ wholeAt m.fItems p ∧ ring m.fItems p j
def rg (bss : List (List Bool)) (a b : Nat) : Bool := (bss.getD a []).getD b false
theorem rg_at {bss : List (List Bool)} {a b : Nat} (h : a < bss.length) : rg bss a b = bss[a].getD b false := by
  unfold rg
  have e : bss.getD a [] = bss[a] := by rw [List.getD_eq_getElem?_getD, List.getElem?_eq_getElem h]; rfl
  rw [e]

theorem rowC_at {n : Nat} {gs : List Nat} {j : Nat} (h : j < gs.length) : (rowC n gs)[j]? = some (.slice (some ⟨gs[j], 0, none⟩) n n) := by unfold rowC; rw [List.getElem?_map, List.getElem?_eq_getElem h]; rfl

set_option maxHeartbeats 8000000 in
theorem specGroup_any (cs : List Value) (m : MGraph) (ds : List Value) (d : MDot) (w : World) (hr : rGraph w.heap.size w cs m) (hw : wGraph m ≤ 1048576) (hd : rDot w.heap.size w ds d) :
    Calls Tryd.prog 18 #[.agg cs.toArray, .agg ds.toArray] w fun e w' => ∃ (v : Value) (L : List MDot), e = .returned v ∧ PickL m.fItems (InGroup m d) L ∧ RowR 2 40 rDot w.heap.size w' w.heap.size v L ∧ Below w.heap.size w w' := by
  obtain ⟨iD, hiD, hzD0, hzD1, hzD2⟩ := info_parts Tryd.infoOfDot
  have HRG := Hid.mk hr
  have HWG := Hid.mk hw
  obtain ⟨a, cap, rfl, hL, _⟩ := hr
  obtain ⟨rfl, d0, d1, _⟩ := hd
  have HL := Hid.mk hL
  obtain ⟨n, hx⟩ : ∃ n, n = m.fItems.length := ⟨_, rfl⟩
  rw [← hx] at HRG ⊢
  have HX := Hid.mk hx
  have hnw : n ≤ 1048576 := by have h : m.fItems.length + sumW wItem m.fItems ≤ 1048576 := hw; omega
  clear hL hx hw
  go_enter Tryd.func18, Tryd.ntmps18
  go_wp2_with fail
  obtain ⟨w1, hw1⟩ : ∃ x, x = ((w.alloc (.cells #[.slice a n cap] 30)).alloc (.cells #[.int .i64 d.fR, .int .i64 d.fN] 40)).alloc (.cells #[] 40) := ⟨_, rfl⟩
  have hb01 : Below w.heap.size w w1 := by rw [hw1]; exact (((Below.refl _ _).alloc (Nat.le_refl _) _).alloc (by simp) _).alloc (by simp; omega) _
  have hbx1 : Bx w1 w.heap.size [.slice a n cap] := by rw [hw1]; exact ((Bx.new _ _ _).alloc _).alloc _
  have ho1 : w1.ownsRow (w.heap.size + 2) 40 2 (.slice (some ⟨w.heap.size + 2, 0, none⟩) 0 0) 0 [] := by
    have h := own_lit0' ((w.alloc (.cells #[.slice a n cap] 30)).alloc (.cells #[.int .i64 d.fR, .int .i64 d.fN] 40)) (w.heap.size + 2) 40 2 (by simp)
    rw [hw1]
    simpa using h
  have hs1 : w.heap.size + 3 ≤ w1.heap.size := by rw [hw1]; simp
  rw [← hw1]
  clear hw1
  refine (l8At_any [.slice a n cap] m [.int .i64 d.fR, .int .i64 d.fN] d w1 (rGraph_good.mono (rGraph_good.below HRG.out hb01) hb01.size) (by rw [← HX.out]; exact hnw) ⟨rfl, d0, d1, trivial⟩).mono ?_
  rintro e wa ⟨z, rfl, hAt, hxa⟩
  have hb0a := bthen hb01 hxa
  have hbxa := hbx1.under hxa
  have hoa := own_below ho1 hxa
  have hsa := hxa.size
  have va := hbxa.2 0 _ rfl
  have HAT := Hid.mk hAt
  clear hAt
  go_wp2_with fail
  refine (specGraphOk_c [.slice a n cap] m wa (rGraph_good.mono (rGraph_good.below HRG.out hb0a) hb0a.size) HWG.out).mono ?_
  rintro e w2 ⟨rfl, hx2⟩
  have hb02 := bthen hb0a hx2
  have hbx2 := hbxa.under hx2
  have ho2 := own_below hoa hx2
  have hs2 := hx2.size
  have v0 := hbx2.2 0 _ rfl
  clear va
  rcases hgo : graphP m with _ | _
  · have HV : Hid (PickL m.fItems (InGroup m d) []) := PickL.none (fun j _ h => by have h1 := h.1; rw [hgo] at h1; cases h1)
    have HO := Hid.mk (RowR.nil0 (B := w.heap.size) (own_base ho2 (show w.heap.size ≤ w.heap.size + 2 by omega)))
    clear ho1 ho2 hoa hgo
    go_wp2_with fail
    go_ret
    exact ⟨_, [], rfl, HV.out, HO.out, hb02⟩
  have HGO := Hid.mk hgo
  have hn : n ≤ 100 := by
    have h' : (decide (m.fItems.length ≤ 100) && upOk itemP itemLt m.fItems) = true := hgo
    rw [Bool.and_eq_true] at h'
    rw [HX.out]
    exact of_decide_eq_true h'.1
  clear hgo
  rcases HAT.out with ⟨k, hzk, hkl, hsame⟩ | ⟨hz1, hno⟩
  rotate_left
  · have HV : Hid (PickL m.fItems (InGroup m d) []) := PickL.none (fun j _ h => by obtain ⟨_, p, hp, hs, _⟩ := h; rw [hno p hp] at hs; cases hs)
    have HO := Hid.mk (RowR.nil0 (B := w.heap.size) (own_base ho2 (show w.heap.size ≤ w.heap.size + 2 by omega)))
    have hneg : z < 0 := by omega
    clear ho1 ho2 hoa HAT hno
    go_wp2_with fail
    go_ret
    exact ⟨_, [], rfl, HV.out, HO.out, hb02⟩
  subst hzk
  have hkn : k < n := by rw [HX.out]; exact hkl
  have hz0 : ¬ (k : Int) < 0 := by omega
  go_wp2_with fail
  refine (l8All_any [.slice a n cap] m w2 (rGraph_good.mono (rGraph_good.below HRG.out hb02) hb02.size) HGO.out).mono ?_
  rintro e w3 ⟨gs, bss, ws, vr, vw, rfl, hA⟩
  rw [← HX.out] at hA
  have hx3 := hA.low
  have hb03 := bthen hb02 hx3
  have hbx3 := hbx2.under hx3
  have ho3 := own_below ho2 hx3
  have hs3 := hx3.size
  have HA := Hid.mk hA
  obtain ⟨ar, cr, hvr⟩ := own_slice hA.rrow
  obtain ⟨aw, cw, hvw⟩ := own_slice hA.wrow
  subst hvr hvw
  have HR0 := Hid.mk (RowR.nil0 (B := w.heap.size) ho3)
  obtain ⟨wk, hwk⟩ : ∃ b, b = ws.getD k false := ⟨_, rfl⟩
  obtain ⟨P, hP⟩ : ∃ P : Nat → Bool, P = fun j => wk && (decide (j = k) || (rg bss k j && rg bss j k)) := ⟨_, rfl⟩
  have HPD := Hid.mk hP
  have HFin : Hid (PickL m.fItems (InGroup m d) (pickT P m.fItems n)) := by
    refine ⟨P, fun j hj => ?_, by rw [HX.out]⟩
    have hjn : j < n := by rw [HX.out]; exact hj
    have hkb : k < bss.length := by rw [hA.blen]; exact hkn
    have hjb : j < bss.length := by rw [hA.blen]; exact hjn
    rw [hP]
    simp only [Bool.and_eq_true, Bool.or_eq_true, decide_eq_true_iff]
    rw [hwk, hA.who k hkn, rg_at hkb, rg_at hjb, (hA.each k (by rw [hA.glen]; exact hkn) hkb).2.2.2.2.2, (hA.each j (by rw [hA.glen]; exact hjn) hjb).2.2.2.2.2]
    constructor
    · rintro ⟨h1, h2⟩
      exact ⟨HGO.out, k, hkl, hsame, h1, h2.imp id (fun h => ⟨h.2, h.1⟩)⟩
    · rintro ⟨_, p, hp, hs, h1, h2⟩
      have e : p = k := graph_uniq HGO.out hp hkl hs hsame
      subst e
      exact ⟨h1, h2.imp id (fun h => ⟨h.2, h.1⟩)⟩
  clear hA ho1 ho2 ho3 hoa v0 hP HAT hsame
  go_wp2_with fail
  go_loopw [5, 9] (fun v iv wr => ∃ j : Nat, j ≤ n ∧ iv = .int .i64 j ∧ Hid (RowR 2 40 rDot w.heap.size wr (w.heap.size + 2) v (pickT P m.fItems j)) ∧ Hid (∀ b, v.ownBlock = some b → b < w2.heap.size ∨ w3.heap.size ≤ b) ∧ Hid (∀ b, w2.heap.size ≤ b → b < w3.heap.size → wr.heap[b]? = w3.heap[b]?) ∧ Below (w.heap.size + 2) w3 wr) (fun _ iv _ => n - (intOf iv).toNat)
  case atStart => exact ⟨0, Nat.zero_le _, rfl, HR0, Hid.mk (fun b hb => by simp [Value.ownBlock] at hb; omega), Hid.mk (fun b _ _ => rfl), Below.refl _ _⟩
  case round =>
    obtain ⟨j, hj, rfl, HRk, HBk, HKk, hbk⟩ := hrel
    have hbw : Below w.heap.size w wr := hb03.trans (hbk.mono (by omega))
    have hbx := hbx3.below hbk (by omega)
    have v0 := hbx.2 0 _ rfl
    have hzk : w3.heap.size ≤ wr.heap.size := hbk.size
    by_cases hlt : j < n
    · have hjl : j < m.fItems.length := by rw [← HX.out]; exact hlt
      obtain ⟨bw, cw2, hev, hbw1, hbw2, hcw⟩ := own_at HA.out.wrow (by omega)
      simp only [Value.slice.injEq, true_and] at hev
      obtain ⟨rfl, rfl⟩ := hev
      obtain ⟨br, cr2, her, hbr1, hbr2, hcr⟩ := own_at HA.out.rrow (by omega)
      simp only [Value.slice.injEq, true_and] at her
      obtain ⟨rfl, rfl⟩ := her
      have kw := (World.cell?_of_block (w := w3) (a := ⟨bw, k, none⟩) (HKk.out bw hbw1 hbw2)).trans (hcw k _ (boolC_at (by rw [HA.out.wlen]; exact hkn)))
      rw [← hwk] at kw
      have hkg : k < gs.length := by rw [HA.out.glen]; exact hkn
      have hjg : j < gs.length := by rw [HA.out.glen]; exact hlt
      have hkb : k < bss.length := by rw [HA.out.blen]; exact hkn
      have hjb : j < bss.length := by rw [HA.out.blen]; exact hlt
      have kr := (World.cell?_of_block (w := w3) (a := ⟨br, k, none⟩) (HKk.out br hbr1 hbr2)).trans (hcr k _ (rowC_at hkg))
      have jr := (World.cell?_of_block (w := w3) (a := ⟨br, j, none⟩) (HKk.out br hbr1 hbr2)).trans (hcr j _ (rowC_at hjg))
      obtain ⟨e1, _, _, e4, e5, _⟩ := HA.out.each k hkg hkb
      obtain ⟨f1, _, _, f4, f5, _⟩ := HA.out.each j hjg hjb
      have kk := (World.cell?_of_block (w := w3) (a := ⟨gs[k], j, none⟩) (HKk.out gs[k] e4 e1.lt)).trans (e1.cell j _ (boolC_at (by rw [e5]; exact hlt)))
      have jj := (World.cell?_of_block (w := w3) (a := ⟨gs[j], k, none⟩) (HKk.out gs[j] f4 f1.lt)).trans (f1.cell k _ (boolC_at (by rw [f5]; exact hkn)))
      rw [← rg_at hkb] at kk
      rw [← rg_at hjb] at jj
      clear e1 e4 e5 f1 f4 f5 hcw hcr
      generalize gs[k] = gk at *
      generalize gs[j] = gj at *
      have hj1 : (0 : Int) ≤ (j : Int) := by omega
      have hj2 : (j : Int) < (n : Int) := by omega
      have hk1 : (0 : Int) ≤ (k : Int) := by omega
      have hk2 : (k : Int) < (n : Int) := by omega
      have hpl := pickT_len P m.fItems j
      have HPN : Hid (P j = false → pickT P m.fItems (j + 1) = pickT P m.fItems j) := fun h => pickT_no h
      have HPY : Hid (P j = true → pickT P m.fItems (j + 1) = pickT P m.fItems j ++ [m.fItems[j].fD]) := fun h => pickT_yes hjl h
      have HPJ : Hid (P j = (wk && (decide (j = k) || (rg bss k j && rg bss j k)))) := by unfold Hid; rw [HPD.out]
      rcases hwk2 : wk with _ | _
      · rw [hwk2] at kw HPJ
        have HP := Hid.mk (HPN.out (by rw [HPJ.out]; rfl))
        go_wp2_with fail
        go_roundw
        case rel => exact ⟨j + 1, by omega, by go_num, by rw [HP.out]; exact HRk, HBk, HKk, hbk⟩
        case measure => simp [intOf]; omega
      · rw [hwk2] at kw HPJ
        by_cases hjk : j = k
        · have HP := Hid.mk (HPY.out (by rw [HPJ.out, decide_eq_true hjk]; rfl))
          clear HPY HPN HPJ HPD HFin hkl hkn hz0
          subst hjk
          obtain ⟨b1, o1, rfl, hB, cs, hcl, hcell, a2, c2, rfl, g0, g1, g2, _⟩ := (HL.out.2.2.below rItem_good hbw) j hjl
          have k0 := hcell 0 _ rfl
          have k1 := hcell 1 _ rfl
          rw [Nat.add_zero] at k0
          clear hcell hcl g2
          generalize m.fItems[j].fD = dd at *
          generalize pickT P m.fItems j = pl at *
          obtain ⟨css, r1, r2, r3, r4⟩ := HRk.out
          have HR1 := Hid.mk r1
          have HR2 := Hid.mk r2
          have HR3 := Hid.mk r3
          clear r1 r2 r3
          obtain ⟨w5, hw5⟩ : ∃ x, x = wr.alloc (.cells #[.int .i64 dd.fR, .int .i64 dd.fN] 40) := ⟨_, rfl⟩
          have hb5 : Below wr.heap.size wr w5 := by rw [hw5]; exact (Below.refl _ _).alloc (Nat.le_refl _) _
          have hbx5 : Bx w5 wr.heap.size [.int .i64 dd.fR, .int .i64 dd.fN] := by rw [hw5]; exact Bx.new _ _ _
          have r5 := own_below r4 hb5
          have hz5 := hb5.size
          go_wp2_with (at_builtin; rw [← hw5]; refine wpList_append_src_y rfl _ _ 26 26 rfl (w.heap.size + 2) 40 iD (.agg #[.int .i64 0, .int .i64 0]) 2 16 Tryd.underlying26 hiD hzD0 hzD1 hzD2 rfl _ _ _ rfl r5 _ rfl 1 [.int .i64 dd.fR, .int .i64 dd.fN] (Src.ofSlice w5 Tryd.underlying26 ⟨wr.heap.size, 0, none⟩ 1 1 _ rfl (bx_news hbx5) (by intro u hu; simp at hu; rcases hu with rfl | rfl <;> rfl)) (by unfold maxLen; omega) (by omega) (by omega) ?_; intro v6 w6 ho6 hgr6 hat6)
          have hT : Below (w.heap.size + 2) wr w6 := (hb5.mono (by omega)).grown hgr6 (by omega) (fun x hx => (r4.lt x hx).1)
          have HRn : Hid (RowR 2 40 rDot w.heap.size w6 (w.heap.size + 2) v6 (pl ++ [dd])) := RowR.push rDot_good HR1.out HR2.out HR3.out (hT.mono (by omega)) rfl ⟨rfl, g0, g1, trivial⟩ ho6
          rw [← HP.out] at HRn
          have HBn : Hid (∀ b, v6.ownBlock = some b → b < w2.heap.size ∨ w3.heap.size ≤ b) := fun b hb => by
            rcases hat6 with e | e
            · exact HBk.out b (e ▸ hb)
            · rw [hb] at e; simp at e; omega
          have HKn : Hid (∀ b, w2.heap.size ≤ b → b < w3.heap.size → w6.heap[b]? = w3.heap[b]?) := fun b h1 h2 => by
            rw [hgr6.block b (by omega) (fun e => by have := HBk.out b e.symm; omega), hb5.block b (by omega)]
            exact HKk.out b h1 h2
          exact ⟨⟨j + 1, by omega, by go_num, HRn, HBn, HKn, hbk.trans hT⟩, by simp [intOf]; omega⟩
        · have hjk2 : ¬ (j : Int) = (k : Int) := by omega
          rcases hq1 : rg bss k j with _ | _
          · rw [hq1] at kk
            have HP := Hid.mk (HPN.out (by rw [HPJ.out, decide_eq_false hjk, hq1]; rfl))
            go_wp2_with fail
            go_roundw
            case rel => exact ⟨j + 1, by omega, by go_num, by rw [HP.out]; exact HRk, HBk, HKk, hbk⟩
            case measure => simp [intOf]; omega
          · rw [hq1] at kk
            rcases hq2 : rg bss j k with _ | _
            · rw [hq2] at jj
              have HP := Hid.mk (HPN.out (by rw [HPJ.out, decide_eq_false hjk, hq1, hq2]; rfl))
              go_wp2_with fail
              go_roundw
              case rel => exact ⟨j + 1, by omega, by go_num, by rw [HP.out]; exact HRk, HBk, HKk, hbk⟩
              case measure => simp [intOf]; omega
            · rw [hq2] at jj
              have HP := Hid.mk (HPY.out (by rw [HPJ.out, hq1, hq2]; simp))
              obtain ⟨b1, o1, rfl, hB, cs, hcl, hcell, a2, c2, rfl, g0, g1, g2, _⟩ := (HL.out.2.2.below rItem_good hbw) j hjl
              have k0 := hcell 0 _ rfl
              have k1 := hcell 1 _ rfl
              rw [Nat.add_zero] at k0
              clear hcell hcl g2
              generalize m.fItems[j].fD = dd at *
              generalize pickT P m.fItems j = pl at *
              obtain ⟨css, r1, r2, r3, r4⟩ := HRk.out
              have HR1 := Hid.mk r1
              have HR2 := Hid.mk r2
              have HR3 := Hid.mk r3
              clear r1 r2 r3
              obtain ⟨w5, hw5⟩ : ∃ x, x = wr.alloc (.cells #[.int .i64 dd.fR, .int .i64 dd.fN] 40) := ⟨_, rfl⟩
              have hb5 : Below wr.heap.size wr w5 := by rw [hw5]; exact (Below.refl _ _).alloc (Nat.le_refl _) _
              have hbx5 : Bx w5 wr.heap.size [.int .i64 dd.fR, .int .i64 dd.fN] := by rw [hw5]; exact Bx.new _ _ _
              have r5 := own_below r4 hb5
              have hz5 := hb5.size
              go_wp2_with (at_builtin; rw [← hw5]; refine wpList_append_src_y rfl _ _ 26 26 rfl (w.heap.size + 2) 40 iD (.agg #[.int .i64 0, .int .i64 0]) 2 16 Tryd.underlying26 hiD hzD0 hzD1 hzD2 rfl _ _ _ rfl r5 _ rfl 1 [.int .i64 dd.fR, .int .i64 dd.fN] (Src.ofSlice w5 Tryd.underlying26 ⟨wr.heap.size, 0, none⟩ 1 1 _ rfl (bx_news hbx5) (by intro u hu; simp at hu; rcases hu with rfl | rfl <;> rfl)) (by unfold maxLen; omega) (by omega) (by omega) ?_; intro v6 w6 ho6 hgr6 hat6)
              have hT : Below (w.heap.size + 2) wr w6 := (hb5.mono (by omega)).grown hgr6 (by omega) (fun x hx => (r4.lt x hx).1)
              have HRn : Hid (RowR 2 40 rDot w.heap.size w6 (w.heap.size + 2) v6 (pl ++ [dd])) := RowR.push rDot_good HR1.out HR2.out HR3.out (hT.mono (by omega)) rfl ⟨rfl, g0, g1, trivial⟩ ho6
              rw [← HP.out] at HRn
              have HBn : Hid (∀ b, v6.ownBlock = some b → b < w2.heap.size ∨ w3.heap.size ≤ b) := fun b hb => by
                rcases hat6 with e | e
                · exact HBk.out b (e ▸ hb)
                · rw [hb] at e; simp at e; omega
              have HKn : Hid (∀ b, w2.heap.size ≤ b → b < w3.heap.size → w6.heap[b]? = w3.heap[b]?) := fun b h1 h2 => by
                rw [hgr6.block b (by omega) (fun e => by have := HBk.out b e.symm; omega), hb5.block b (by omega)]
                exact HKk.out b h1 h2
              exact ⟨⟨j + 1, by omega, by go_num, HRn, HBn, HKn, hbk.trans hT⟩, by simp [intOf]; omega⟩
    · have hjn : j = n := by omega
      have HRb := Hid.mk (RowR.base HRk.out (show w.heap.size ≤ w.heap.size + 2 by omega))
      rw [hjn] at HRb
      go_wp2_with fail
      go_ret
      exact ⟨_, _, rfl, HFin.out, HRb.out, hbw⟩

end Go.Proofs.YtmigamgcmhdncaaDoor
