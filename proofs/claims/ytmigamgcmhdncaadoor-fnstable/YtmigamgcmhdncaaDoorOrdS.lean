/-
  The order: the specification's answer.
-/
import Derived.Test.YtmigamgcmhdncaaDoorOrdR
namespace Go.Proofs.YtmigamgcmhdncaaDoor
open Go.RowKit
set_option linter.unusedVariables false
set_option linter.unusedSimpArgs false
set_option maxRecDepth 10000

def boolNat : Value → Nat | .bool true => 1 | _ => 0
def flagAt (W : World) (g j : Nat) : Bool := match W.cell? ⟨g, j, none⟩ with | some (.bool b) => b | _ => false
def flagsIn (W : World) (g n : Nat) : List Bool := (List.range n).map (flagAt W g)
theorem flagsIn_at {W : World} {g : Nat} {T : TypeId} {dn : List Bool} (h : Bw W g T (boolC dn)) : flagsIn W g dn.length = dn := by
  unfold flagsIn
  apply List.ext_getElem (by simp)
  intro i h1 h2
  rw [List.getElem_map, List.getElem_range]
  unfold flagAt
  rw [h.cell i _ (boolC_at h2), List.getD_eq_getElem?_getD, List.getElem?_eq_getElem h2]
  rfl
/-- What stays while groups are taken: the rows of what is reached, of what is whole, the flags, the dots. -/
structure OSt (m : MGraph) (B z2 z3 z4 : Nat) (w3 : World) (n : Nat) (a : Option Addr) (cap : Nat) (vo : Value) (dn : List Bool) (L : List MDot) (W : World) : Prop where
  out : RowR 2 40 rDot B W (B + 1) vo L
  blk : ∀ b, vo.ownBlock = some b → b < z2 ∨ z4 ≤ b
  rows : ∀ b, z2 ≤ b → b < z3 → W.heap[b]? = w3.heap[b]?
  flags : Bw W z3 4 (boolC dn)
  box : Bx W B [.slice a n cap]
  low : Below B w3 W
  big : z4 ≤ W.heap.size
  len : L.length ≤ 10000
  flen : dn.length = n
theorem OSt.under {m : MGraph} {B z2 z3 z4 : Nat} {w3 : World} {n : Nat} {a : Option Addr} {cap : Nat} {vo : Value} {dn : List Bool} {L : List MDot} {W W' : World} (h : OSt m B z2 z3 z4 w3 n a cap vo dn L W) (hz : z3 < z4) (hB : B ≤ W.heap.size) (hb : Below W.heap.size W W') : OSt m B z2 z3 z4 w3 n a cap vo dn L W' :=
  ⟨RowR.keep rDot_good h.out hb hB, h.blk, fun b h1 h2 => (hb.block b (by have := h.big; omega)).trans (h.rows b h1 h2), h.flags.under hb, h.box.under hb, h.low.trans (hb.mono hB), Nat.le_trans h.big hb.size, h.len, h.flen⟩

set_option maxHeartbeats 16000000 in
theorem specOrderOf_any (cs : List Value) (m : MGraph) (w : World) (hr : rGraph w.heap.size w cs m) (hw : wGraph m ≤ 1048576) :
    Calls Tryd.prog 21 #[.agg cs.toArray] w fun e w' => ∃ (v : Value) (L : List MDot), e = .returned v ∧ OrderL m L ∧ RowR 2 40 rDot w.heap.size w' w.heap.size v L ∧ Below w.heap.size w w' := by
  obtain ⟨iD, hiD, hzD0, hzD1, hzD2⟩ := info_parts Tryd.infoOfDot
  obtain ⟨iB, hiB, hzB0, hzB1, hzB2⟩ := info_parts Tryd.infoOfBool
  have HRG := Hid.mk hr
  have HWG := Hid.mk hw
  obtain ⟨a, cap, rfl, hL, _⟩ := hr
  have HL := Hid.mk hL
  obtain ⟨n, hx⟩ : ∃ n, n = m.fItems.length := ⟨_, rfl⟩
  rw [← hx] at HRG ⊢
  have HX := Hid.mk hx
  clear hL hx hw
  go_enter Tryd.func21, Tryd.ntmps21
  go_wp2_with fail
  obtain ⟨w1, hw1⟩ : ∃ x, x = (w.alloc (.cells #[.slice a n cap] 30)).alloc (.cells #[] 40) := ⟨_, rfl⟩
  have hb01 : Below w.heap.size w w1 := by rw [hw1]; exact ((Below.refl _ _).alloc (Nat.le_refl _) _).alloc (by simp) _
  have hbx1 : Bx w1 w.heap.size [.slice a n cap] := by rw [hw1]; exact (Bx.new _ _ _).alloc _
  have ho1 : w1.ownsRow (w.heap.size + 1) 40 2 (.slice (some ⟨w.heap.size + 1, 0, none⟩) 0 0) 0 [] := by
    have h := own_lit0' (w.alloc (.cells #[.slice a n cap] 30)) (w.heap.size + 1) 40 2 (by simp)
    rw [hw1]
    simpa using h
  have hs1 : w.heap.size + 2 ≤ w1.heap.size := by rw [hw1]; simp
  rw [← hw1]
  clear hw1
  refine (specGraphOk_c [.slice a n cap] m w1 (rGraph_good.mono (rGraph_good.below HRG.out hb01) hb01.size) HWG.out).mono ?_
  rintro e w2 ⟨rfl, hx2⟩
  have hb02 := bthen hb01 hx2
  have hbx2 := hbx1.under hx2
  have ho2 := own_below ho1 hx2
  have hs2 := hx2.size
  have v0 := hbx2.2 0 _ rfl
  rcases hgo : graphP m with _ | _
  · have HV : Hid (OrderL m []) := .inl ⟨hgo, rfl⟩
    have HO := Hid.mk (RowR.nil0 (B := w.heap.size) (own_base ho2 (show w.heap.size ≤ w.heap.size + 1 by omega)))
    clear ho1 ho2 hgo
    go_wp2_with fail
    go_ret
    exact ⟨_, [], rfl, HV.out, HO.out, hb02⟩
  have HGO := Hid.mk hgo
  have hn : n ≤ 100 := by rw [HX.out]; exact graph_len hgo
  clear hgo
  go_wp2_with fail
  refine (l8All_any [.slice a n cap] m w2 (rGraph_good.mono (rGraph_good.below HRG.out hb02) hb02.size) HGO.out).mono ?_
  rintro e w3 ⟨gs, bss, ws, vr, vw, rfl, hA⟩
  rw [← HX.out] at hA
  have hx3 := hA.low
  have hb03 := bthen hb02 hx3
  have hbx3 := hbx2.under hx3
  have ho3 := own_below ho2 hx3
  have hs3 := hx3.size
  have HA := Hid.mk hA
  have HRR : Hid (∀ x y, x < n → (rg bss x y = true ↔ Reach m.fItems x y)) := fun x y hx => by
    have h1 : x < bss.length := by rw [hA.blen]; exact hx
    rw [rg_at h1]
    exact (hA.each x (by rw [hA.glen]; exact hx) h1).2.2.2.2.2 y
  have HWS : Hid (∀ x, x < n → (ws.getD x false = true ↔ wholeAt m.fItems x)) := fun x hx => hA.who x hx
  obtain ⟨ar, cr, hvr⟩ := own_slice hA.rrow
  obtain ⟨aw, cw, hvw⟩ := own_slice hA.wrow
  subst hvr hvw
  clear hA ho1 ho2 v0 hbx1 hbx2
  go_wp2_with (at_make; refine wpList_make_full _ rfl _ _ 58 rfl w.heap.size 4 iB (.bool false) 1 Tryd.underlying58 hiB hzB0 hzB1 .i64 .i64 _ _ n rfl rfl rfl rfl (by rw [hzB2]; omega) (by unfold maxLen; omega) (by omega) ?_; intro w4 hown hgr)
  have hm4 := bw_made hown
  have hl4 := hm4.lt
  have hb34 : Below w3.heap.size w3 w4 := (Below.refl _ _).grown hgr (Nat.le_refl _) (fun k h => by cases h)
  have HO4 : Hid (OSt m w.heap.size w2.heap.size w3.heap.size w4.heap.size w3 n a cap (.slice (some ⟨w.heap.size + 1, 0, none⟩) 0 0) (List.replicate n false) [] w4) :=
    ⟨RowR.keep rDot_good (RowR.nil0 (B := w.heap.size) ho3) hb34 hb03.size, fun b hb => by simp [Value.ownBlock] at hb; omega, fun b _ h2 => hb34.block b h2, hm4, hbx3.under hb34, (hb34.mono (by omega)), Nat.le_refl _, by simp, by simp⟩
  have HD0 : Hid (DoneSt m.fItems n [] (List.replicate n false) []) := DoneSt.start
  clear hown hgr hm4 ho3 hbx3
  go_loopw [3, 7] (fun vo va wr => ∃ (qs : List Nat) (dn : List Bool) (L : List MDot) (ag : Bool), va = .bool ag ∧ Hid (OSt m w.heap.size w2.heap.size w3.heap.size w4.heap.size w3 n a cap vo dn L wr ∧ DoneSt m.fItems n qs dn L) ∧ Hid (ag = false → ∀ p, ¬ cand m.fItems qs p)) (fun _ va wr => 2 * undone (flagsIn wr w3.heap.size n) + boolNat va)
  case atStart => exact ⟨[], List.replicate n false, [], true, rfl, ⟨HO4.out, HD0.out⟩, Hid.mk (fun h => by cases h)⟩
  case round =>
    obtain ⟨qs0, dn0, L0, ag0, rfl, HS0, HNO⟩ := hrel
    clear HO4 HD0
    rcases hag : ag0 with _ | _
    · have HF : Hid (OrderL m L0) := .inr ⟨HGO.out, qs0, ⟨HS0.out.2.ord, HNO.out hag⟩, HS0.out.2.dots⟩
      have HRb := Hid.mk (RowR.base HS0.out.1.out (show w.heap.size ≤ w.heap.size + 1 by omega))
      have hbwf : Below w.heap.size w wr := hb03.trans (HS0.out.1.low.mono (by omega))
      go_wp2_with fail
      go_ret
      exact ⟨_, L0, rfl, HF.out, HRb.out, hbwf⟩
    have HU0 : Hid (flagsIn wr w3.heap.size n = dn0) := by have h := flagsIn_at HS0.out.1.flags; rw [HS0.out.1.flen] at h; exact h
    clear HNO hag
    go_wp2_with fail
    go_loopw [3, 7, 8] (fun vo va kv wr => ∃ (k : Nat) (qs : List Nat) (dn : List Bool) (L : List MDot) (ag : Bool), k ≤ n ∧ kv = .int .i64 k ∧ va = .bool ag ∧ Hid (OSt m w.heap.size w2.heap.size w3.heap.size w4.heap.size w3 n a cap vo dn L wr ∧ DoneSt m.fItems n qs dn L) ∧ Hid (ag = false → (∀ q, q < k → ¬ cand m.fItems qs q) ∧ undone dn = undone dn0) ∧ Hid (ag = true → undone dn < undone dn0)) (fun _ _ kv _ => n - (intOf kv).toNat)
    case atStart => exact ⟨0, qs0, dn0, L0, false, Nat.zero_le _, rfl, rfl, HS0, Hid.mk (fun _ => ⟨fun q hq => by omega, rfl⟩), Hid.mk (fun h => by cases h)⟩
    case round =>
      obtain ⟨k, qs, dn, L, ag, hk, rfl, rfl, HS, HNK0, HAG⟩ := hrel
      have HU : Hid (flagsIn wr w3.heap.size n = dn) := by have h := flagsIn_at HS.out.1.flags; rw [HS.out.1.flen] at h; exact h
      rcases hag : ag with _ | _
      rotate_left
      · have HM2 : Hid (2 * undone (flagsIn wr w3.heap.size n) + 1 < 2 * undone dn0 + 1) := by unfold Hid; rw [HU.out]; have := HAG.out hag; omega
        by_cases hkn2 : (k : Int) < (n : Int)
        · go_wp2_with fail
          go_roundw
          case rel => exact ⟨qs, dn, L, true, rfl, HS, Hid.mk (fun h => by cases h)⟩
          case measure => rw [HU0.out]; simpa [boolNat] using HM2.out
        · go_wp2_with fail
          go_roundw
          case rel => exact ⟨qs, dn, L, true, rfl, HS, Hid.mk (fun h => by cases h)⟩
          case measure => rw [HU0.out]; simpa [boolNat] using HM2.out
      have HNK := Hid.mk (HNK0.out hag)
      clear HNK0 HAG hag
      by_cases hlt : k < n
      rotate_left
      · have hkn2 : ¬ (k : Int) < (n : Int) := by omega
        have HNC : Hid (∀ p, ¬ cand m.fItems qs p) := fun p hp => HNK.out.1 p (by have := hp.1; have := HX.out; omega) hp
        have HM2 : Hid (2 * undone (flagsIn wr w3.heap.size n) + 0 < 2 * undone dn0 + 1) := by unfold Hid; rw [HU.out]; have := HNK.out.2; omega
        go_wp2_with fail
        go_roundw
        case rel => exact ⟨qs, dn, L, false, rfl, HS, Hid.mk (fun _ => HNC.out)⟩
        case measure => rw [HU0.out]; simpa [boolNat] using HM2.out
      have hkl : k < m.fItems.length := by rw [← HX.out]; exact hlt
      have hk1 : (0 : Int) ≤ (k : Int) := by omega
      have hk2 : (k : Int) < (n : Int) := by omega
      obtain ⟨bw, cw2, hev, hbw1, hbw2, hcw⟩ := own_at HA.out.wrow (by omega)
      simp only [Value.slice.injEq, true_and] at hev
      obtain ⟨rfl, rfl⟩ := hev
      obtain ⟨br, cr2, her, hbr1, hbr2, hcr⟩ := own_at HA.out.rrow (by omega)
      simp only [Value.slice.injEq, true_and] at her
      obtain ⟨rfl, rfl⟩ := her
      have HMAT : Hid (∀ W : World, (∀ b, w2.heap.size ≤ b → b < w3.heap.size → W.heap[b]? = w3.heap[b]?) → MatAt n br (fun j => gs.getD j 0) (rg bss) W ∧ RowAt n bw (fun j => ws.getD j false) W) := fun W hW => by
        refine ⟨⟨fun j hj => ?_, fun j x hj hx => ?_⟩, fun j hj => ?_⟩
        · have hjg : j < gs.length := by rw [HA.out.glen]; exact hj
          have e : gs.getD j 0 = gs[j] := by rw [List.getD_eq_getElem?_getD, List.getElem?_eq_getElem hjg]; rfl
          show W.cell? ⟨br, j, none⟩ = some (.slice (some ⟨gs.getD j 0, 0, none⟩) n n)
          rw [e]
          exact (World.cell?_of_block (w := w3) (a := ⟨br, j, none⟩) (hW br hbr1 hbr2)).trans (hcr j _ (rowC_at hjg))
        · have hjg : j < gs.length := by rw [HA.out.glen]; exact hj
          have hjb : j < bss.length := by rw [HA.out.blen]; exact hj
          have e : gs.getD j 0 = gs[j] := by rw [List.getD_eq_getElem?_getD, List.getElem?_eq_getElem hjg]; rfl
          obtain ⟨e1, _, _, e4, e5, _⟩ := HA.out.each j hjg hjb
          show W.cell? ⟨gs.getD j 0, x, none⟩ = some (.bool (rg bss j x))
          rw [e, rg_at hjb]
          exact (World.cell?_of_block (w := w3) (a := ⟨gs[j], x, none⟩) (hW gs[j] e4 e1.lt)).trans (e1.cell x _ (boolC_at (by rw [e5]; exact hx)))
        · exact (World.cell?_of_block (w := w3) (a := ⟨bw, j, none⟩) (hW bw hbw1 hbw2)).trans (hcw j _ (boolC_at (by rw [HA.out.wlen]; exact hj)))
      clear hcw hcr
      have hMr := HMAT.out wr HS.out.1.rows
      have kw : wr.cell? ⟨bw, k, none⟩ = some (.bool (ws.getD k false)) := hMr.2 k hlt
      have kd := HS.out.1.flags.cell k _ (boolC_at (by rw [HS.out.1.flen]; exact hlt))
      have v0 := HS.out.1.box.2 0 _ rfl
      have hbwk : Below w.heap.size w wr := hb03.trans (HS.out.1.low.mono (by omega))
      have hbig := HS.out.1.big
      have HCD := Hid.mk (HS.out.2.cand HX.out HRR.out hlt)
      rcases hwk : ws.getD k false with _ | _
      · rw [hwk] at kw
        have HCK : Hid (¬ cand m.fItems qs k) := fun hc => by have := (HWS.out k hlt).2 (HCD.out.1 hc).1; rw [hwk] at this; cases this
        have HNC : Hid (∀ q, q < k + 1 → ¬ cand m.fItems qs q) := fun q hq hc => by
          by_cases e : q = k
          · subst e; exact HCK.out hc
          · exact HNK.out.1 q (by omega) hc
        go_wp2_with fail
        go_roundw
        case rel => exact ⟨k + 1, qs, dn, L, false, by omega, by go_num, rfl, HS, Hid.mk (fun _ => ⟨HNC.out, HNK.out.2⟩), Hid.mk (fun h => by cases h)⟩
        case measure => simp [intOf]; omega
      rw [hwk] at kw
      have HWH : Hid (wholeAt m.fItems k) := (HWS.out k hlt).1 hwk
      rcases hdk : dn.getD k false with _ | _
      rotate_left
      · rw [hdk] at kd
        have HCK : Hid (¬ cand m.fItems qs k) := fun hc => by have := (HCD.out.1 hc).2.1; rw [hdk] at this; cases this
        have HNC : Hid (∀ q, q < k + 1 → ¬ cand m.fItems qs q) := fun q hq hc => by
          by_cases e : q = k
          · subst e; exact HCK.out hc
          · exact HNK.out.1 q (by omega) hc
        go_wp2_with fail
        go_roundw
        case rel => exact ⟨k + 1, qs, dn, L, false, by omega, by go_num, rfl, HS, Hid.mk (fun _ => ⟨HNC.out, HNK.out.2⟩), Hid.mk (fun h => by cases h)⟩
        case measure => simp [intOf]; omega
      rw [hdk] at kd
      have hRD : RowAt n w3.heap.size (fun j => dn.getD j false) wr := fun j hj => HS.out.1.flags.cell j _ (boolC_at (by rw [HS.out.1.flen]; exact hj))
      have hC := l8Ready_any [.slice a n cap] m n k br cr w3.heap.size n (fun j => gs.getD j 0) (rg bss) (fun j => dn.getD j false) wr (rGraph_good.mono (rGraph_good.below HRG.out hbwk) hbwk.size) HGO.out HX.out hlt hMr.1 hRD (fun i hi hin => by
        have hr := (inK_iff HX.out HRR.out hlt (by have := HX.out; omega)).1 hin
        exact (hr.whole HWH.out).1)
      clear hRD hMr
      go_wp2_with fail
      refine hC.mono ?_
      rintro e wR ⟨rb, rfl, hrb, hxR⟩
      have HRB := Hid.mk hrb
      have HSR : Hid (OSt m w.heap.size w2.heap.size w3.heap.size w4.heap.size w3 n a cap u3 dn L wR ∧ DoneSt m.fItems n qs dn L) := ⟨HS.out.1.under (by omega) hbwk.size hxR, HS.out.2⟩
      clear hC HS kw kd v0 hbwk hxR hrb HU
      rcases hrb2 : rb with _ | _
      · have HCK : Hid (¬ cand m.fItems qs k) := fun hc => by have := HRB.out.2 (HCD.out.1 hc).2.2; rw [hrb2] at this; cases this
        have HNC : Hid (∀ q, q < k + 1 → ¬ cand m.fItems qs q) := fun q hq hc => by
          by_cases e : q = k
          · subst e; exact HCK.out hc
          · exact HNK.out.1 q (by omega) hc
        go_wp2_with fail
        go_roundw
        case rel => exact ⟨k + 1, qs, dn, L, false, by omega, by go_num, rfl, HSR, Hid.mk (fun _ => ⟨HNC.out, HNK.out.2⟩), Hid.mk (fun h => by cases h)⟩
        case measure => simp [intOf]; omega
      have HNXK : Hid (nextOk m.fItems qs k) := ⟨HCD.out.2 ⟨HWH.out, hdk, HRB.out.1 hrb2⟩, HNK.out.1⟩
      have hbigR := HSR.out.1.big
      have HLQ : Hid (L.length ≤ 9900) := by
        have h1 := HSR.out.2.dots.len
        have h2 := (HSR.out.2.ord.snoc HNXK.out).len
        rw [List.length_append, List.length_singleton] at h2
        have h3 := HX.out
        have h4 := Nat.mul_le_mul (show qs.length ≤ 99 by omega) (show m.fItems.length ≤ 100 by omega)
        exact Nat.le_trans h1 h4
      have HI0 : Hid (OSt m w.heap.size w2.heap.size w3.heap.size w4.heap.size w3 n a cap u3 dn L wR ∧ L = L ++ pickT (inK (rg bss) k) m.fItems 0 ∧ (∀ j, j < n → dn.getD j false = (dn.getD j false || (decide (j < 0) && inK (rg bss) k j))) ∧ L.length ≤ 9900) := ⟨HSR.out.1, by simp [pickT], fun j hj => by simp, HLQ.out⟩
      go_wp2_with fail
      go_loopw [3, 9] (fun vo iv wr => ∃ (i : Nat) (dn2 : List Bool) (L2 : List MDot), i ≤ n ∧ iv = .int .i64 i ∧ Hid (OSt m w.heap.size w2.heap.size w3.heap.size w4.heap.size w3 n a cap vo dn2 L2 wr ∧ L2 = L ++ pickT (inK (rg bss) k) m.fItems i ∧ (∀ j, j < n → dn2.getD j false = (dn.getD j false || (decide (j < i) && inK (rg bss) k j))) ∧ L.length ≤ 9900)) (fun _ iv _ => n - (intOf iv).toNat)
      case atStart => exact ⟨0, dn, L, Nat.zero_le _, rfl, HI0⟩
      case round =>
        obtain ⟨i, dn2, L2, hi, rfl, HI⟩ := hrel
        clear HI0
        by_cases hii : i < n
        · have hil : i < m.fItems.length := by rw [← HX.out]; exact hii
          have hbwi : Below w.heap.size w wr := hb03.trans (HI.out.1.low.mono (by omega))
          have hMi := (HMAT.out wr HI.out.1.rows).1
          have p1 : wr.cell? ⟨br, k, none⟩ = some (.slice (some ⟨gs.getD k 0, 0, none⟩) n n) := hMi.1 k hlt
          have p2 : wr.cell? ⟨gs.getD k 0, i, none⟩ = some (.bool (rg bss k i)) := hMi.2 k i hlt hii
          have p3 : wr.cell? ⟨br, i, none⟩ = some (.slice (some ⟨gs.getD i 0, 0, none⟩) n n) := hMi.1 i hii
          have p4 : wr.cell? ⟨gs.getD i 0, k, none⟩ = some (.bool (rg bss i k)) := hMi.2 i k hii hlt
          clear hMi
          generalize gs.getD k 0 = gk at *
          generalize gs.getD i 0 = gi at *
          have hi1 : (0 : Int) ≤ (i : Int) := by omega
          have hi2 : (i : Int) < (n : Int) := by omega
          have HPN0 : Hid (inK (rg bss) k i = false → pickT (inK (rg bss) k) m.fItems (i + 1) = pickT (inK (rg bss) k) m.fItems i) := fun h => pickT_no h
          have HPY0 : Hid (inK (rg bss) k i = true → pickT (inK (rg bss) k) m.fItems (i + 1) = pickT (inK (rg bss) k) m.fItems i ++ [m.fItems[i].fD]) := fun h => pickT_yes hil h
          by_cases hik : i = k
          · have HJT : Hid (inK (rg bss) k i = true) := by unfold Hid inK; rw [decide_eq_true hik]; rfl
            have HPY := Hid.mk (HPY0.out HJT.out)
            clear HPN0 HPY0
            subst hik
            have f0 := HI.out.1.flags.cell i _ (boolC_at (by rw [HI.out.1.flen]; exact hii))
            have fz := HI.out.1.flags.free i
            have fl := HI.out.1.flags.lt
            obtain ⟨b1, o1, rfl, hB1, cs, hcl, hcell, a2, c2, rfl, g0, g1, g2, _⟩ := (HL.out.2.2.below rItem_good hbwi) i hil
            have k0 := hcell 0 _ rfl
            have k1 := hcell 1 _ rfl
            rw [Nat.add_zero] at k0
            have hbo : b1 < wr.heap.size := Nat.lt_of_lt_of_le hB1 hbwi.size
            have HNE : Hid (b1 ≠ w3.heap.size) := Hid.mk (by omega)
            clear hcell hcl g2
            generalize m.fItems[i].fD = dd at *
            obtain ⟨w5, hw5⟩ : ∃ x, x = wr.setCell ⟨w3.heap.size, i, none⟩ (.bool true) := ⟨_, rfl⟩
            have hT5 : Turn [w3.heap.size] wr w5 := by rw [hw5]; exact (Turn.refl _ _).setCell (by simp) _
            have hF5 : Bw w5 w3.heap.size 4 (boolC (dn2.set i true)) := by rw [hw5, ← boolC_set]; exact HI.out.1.flags.put i _
            have hz5 : w5.heap.size = wr.heap.size := by rw [hw5]; simp
            have hbx5 := HI.out.1.box.turn hT5 (by simp; omega)
            have x0 := hbx5.2 0 _ rfl
            have y0 : w5.cell? ⟨b1, o1 + i * 3, none⟩ = some (.int .i64 dd.fR) := (World.cell?_of_block (w := wr) (a := ⟨b1, o1 + i * 3, none⟩) (hT5.block b1 hbo (by simp; exact HNE.out))).trans k0
            have y1 : w5.cell? ⟨b1, o1 + i * 3 + 1, none⟩ = some (.int .i64 dd.fN) := (World.cell?_of_block (w := wr) (a := ⟨b1, o1 + i * 3 + 1, none⟩) (hT5.block b1 hbo (by simp; exact HNE.out))).trans k1
            have hO5 : RowR 2 40 rDot w.heap.size w5 (w.heap.size + 1) u3 L2 := by
              obtain ⟨css, r1, r2, r3, r4⟩ := HI.out.1.out
              exact ⟨css, r1, r2, fun j h1 h2 => by have h := r3 j h1 h2; exact ⟨h.1, h.2.1, h.2.2.1, trivial⟩, own_of_block r4 (fun x hx => hT5.block x (r4.lt x hx).2 (by have := HI.out.1.blk x hx; simp; omega))⟩
            obtain ⟨css, r1, r2, r3, r4⟩ := hO5
            have HR1 := Hid.mk r1
            have HR2 := Hid.mk r2
            have HR3 := Hid.mk r3
            clear r1 r2 r3
            obtain ⟨w6, hw6⟩ : ∃ x, x = w5.alloc (.cells #[.int .i64 dd.fR, .int .i64 dd.fN] 40) := ⟨_, rfl⟩
            have hb6 : Below w5.heap.size w5 w6 := by rw [hw6]; exact (Below.refl _ _).alloc (Nat.le_refl _) _
            have hbx6 : Bx w6 wr.heap.size [.int .i64 dd.fR, .int .i64 dd.fN] := by rw [← hz5, hw6]; exact Bx.new _ _ _
            have r5 := own_below r4 hb6
            have hz6 := hb6.size
            have hlen2 : L2.length ≤ 10000 := HI.out.1.len
            have hbig := HI.out.1.big
            rw [hw5] at x0 y0 y1
            go_wp2_with (at_builtin; rw [← hw5, ← hw6]; refine wpList_append_src_y rfl _ _ 26 26 rfl (w.heap.size + 1) 40 iD (.agg #[.int .i64 0, .int .i64 0]) 2 16 Tryd.underlying26 hiD hzD0 hzD1 hzD2 rfl _ _ _ rfl r5 _ rfl 1 [.int .i64 dd.fR, .int .i64 dd.fN] (Src.ofSlice w6 Tryd.underlying26 ⟨wr.heap.size, 0, none⟩ 1 1 _ rfl (bx_news hbx6) (by intro u hu; simp at hu; rcases hu with rfl | rfl <;> rfl)) (by unfold maxLen; omega) (by omega) (by omega) ?_; intro v7 w7 ho7 hgr7 hat7)
            have hT7 : Below (w.heap.size + 1) w5 w7 := (hb6.mono (by omega)).grown hgr7 (by omega) (fun x hx => (r4.lt x hx).1)
            have hz7 : w6.heap.size ≤ w7.heap.size := hgr7.size
            have hrow7 : RowR 2 40 rDot w.heap.size w7 (w.heap.size + 1) v7 (L2 ++ [dd]) := RowR.push rDot_good HR1.out HR2.out HR3.out (hT7.mono (by omega)) rfl ⟨rfl, g0, g1, trivial⟩ ho7
            have hne7 : ∀ b, w2.heap.size ≤ b → b < w4.heap.size → w7.heap[b]? = w5.heap[b]? := fun b h1 h2 => by
              rw [hgr7.block b (by omega) (fun e => by have := HI.out.1.blk b e.symm; omega), hb6.block b (by omega)]
            have HIn : Hid (OSt m w.heap.size w2.heap.size w3.heap.size w4.heap.size w3 n (some ⟨b1, o1, none⟩) cap v7 (dn2.set i true) (L2 ++ [dd]) w7) := by
              refine ⟨hrow7, fun b hb => ?_, fun b h1 h2 => ?_, ?_, ?_, ?_, by omega, ?_, by simpa using HI.out.1.flen⟩
              · rcases hat7 with e | e
                · exact HI.out.1.blk b (e ▸ hb)
                · rw [hb] at e; simp at e; omega
              · rw [hne7 b h1 (by omega), hT5.block b (by omega) (by simp; omega)]
                exact HI.out.1.rows b h1 h2
              · exact (hne7 w3.heap.size (by omega) (by omega)).trans hF5
              · exact (hbx5.below hT7 (by omega))
              · exact HI.out.1.low.trans ((hT5.below (fun x hx => by simp at hx; omega) (by omega)).trans (hT7.mono (by omega)))
              · have h1 := HI.out.2.2.2
                have h2 := pickT_len (inK (rg bss) i) m.fItems i
                rw [HI.out.2.1] at hlen2 ⊢
                simp only [List.length_append, List.length_singleton] at hlen2 ⊢
                omega
            have HNX : Hid (L2 ++ [dd] = L ++ pickT (inK (rg bss) i) m.fItems (i + 1) ∧ (∀ j, j < n → (dn2.set i true).getD j false = (dn.getD j false || (decide (j < i + 1) && inK (rg bss) i j))) ∧ L.length ≤ 9900) := by
              refine ⟨by rw [HPY.out, HI.out.2.1, List.append_assoc], fun j hj => ?_, HI.out.2.2.2⟩
              by_cases e : j = i
              · subst e
                rw [HJT.out]
                have h1 := (getD_set (bs := dn2) (t := j) (j := j) (by rw [HI.out.1.flen]; exact hii)).2 (.inr rfl)
                rw [h1]
                simp
              · have h1 : (dn2.set i true).getD j false = dn2.getD j false := by rw [List.getD_eq_getElem?_getD, List.getD_eq_getElem?_getD, List.getElem?_set_ne (by omega)]
                rw [h1, HI.out.2.2.1 j hj]
                have e2 : decide (j < i + 1) = decide (j < i) := decide_eq_decide.2 (by omega)
                rw [e2]
            clear ho7 hgr7 hat7
            exact ⟨⟨i + 1, dn2.set i true, L2 ++ [dd], by omega, by go_num, ⟨HIn.out, HNX.out⟩⟩, by simp [intOf]; omega⟩
          · have hik2 : ¬ (i : Int) = (k : Int) := by omega
            rcases hq1 : rg bss k i with _ | _
            · rw [hq1] at p2
              have HJT : Hid (inK (rg bss) k i = false) := by unfold Hid inK; rw [decide_eq_false hik, hq1]; rfl
              have HPN := Hid.mk (HPN0.out HJT.out)
              have HNX : Hid (OSt m w.heap.size w2.heap.size w3.heap.size w4.heap.size w3 n a cap u3 dn2 L2 wr ∧ L2 = L ++ pickT (inK (rg bss) k) m.fItems (i + 1) ∧ (∀ j, j < n → dn2.getD j false = (dn.getD j false || (decide (j < i + 1) && inK (rg bss) k j))) ∧ L.length ≤ 9900) := by
                refine ⟨HI.out.1, by rw [HPN.out]; exact HI.out.2.1, fun j hj => ?_, HI.out.2.2.2⟩
                rw [HI.out.2.2.1 j hj]
                by_cases e : j = i
                · subst e; rw [HJT.out]; simp
                · have e2 : decide (j < i + 1) = decide (j < i) := decide_eq_decide.2 (by omega)
                  rw [e2]
              go_wp2_with fail
              go_roundw
              case rel => exact ⟨i + 1, dn2, L2, by omega, by go_num, HNX⟩
              case measure => simp [intOf]; omega
            · rw [hq1] at p2
              rcases hq2 : rg bss i k with _ | _
              · rw [hq2] at p4
                have HJT : Hid (inK (rg bss) k i = false) := by unfold Hid inK; rw [decide_eq_false hik, hq1, hq2]; rfl
                have HPN := Hid.mk (HPN0.out HJT.out)
                have HNX : Hid (OSt m w.heap.size w2.heap.size w3.heap.size w4.heap.size w3 n a cap u3 dn2 L2 wr ∧ L2 = L ++ pickT (inK (rg bss) k) m.fItems (i + 1) ∧ (∀ j, j < n → dn2.getD j false = (dn.getD j false || (decide (j < i + 1) && inK (rg bss) k j))) ∧ L.length ≤ 9900) := by
                  refine ⟨HI.out.1, by rw [HPN.out]; exact HI.out.2.1, fun j hj => ?_, HI.out.2.2.2⟩
                  rw [HI.out.2.2.1 j hj]
                  by_cases e : j = i
                  · subst e; rw [HJT.out]; simp
                  · have e2 : decide (j < i + 1) = decide (j < i) := decide_eq_decide.2 (by omega)
                    rw [e2]
                go_wp2_with fail
                go_roundw
                case rel => exact ⟨i + 1, dn2, L2, by omega, by go_num, HNX⟩
                case measure => simp [intOf]; omega
              · rw [hq2] at p4
                have HJT : Hid (inK (rg bss) k i = true) := by unfold Hid inK; rw [hq1, hq2]; simp
                have HPY := Hid.mk (HPY0.out HJT.out)
                clear HPN0 HPY0
                have f0 := HI.out.1.flags.cell i _ (boolC_at (by rw [HI.out.1.flen]; exact hii))
                have fz := HI.out.1.flags.free i
                have fl := HI.out.1.flags.lt
                obtain ⟨b1, o1, rfl, hB1, cs, hcl, hcell, a2, c2, rfl, g0, g1, g2, _⟩ := (HL.out.2.2.below rItem_good hbwi) i hil
                have k0 := hcell 0 _ rfl
                have k1 := hcell 1 _ rfl
                rw [Nat.add_zero] at k0
                have hbo : b1 < wr.heap.size := Nat.lt_of_lt_of_le hB1 hbwi.size
                have HNE : Hid (b1 ≠ w3.heap.size) := Hid.mk (by omega)
                clear hcell hcl g2
                generalize m.fItems[i].fD = dd at *
                obtain ⟨w5, hw5⟩ : ∃ x, x = wr.setCell ⟨w3.heap.size, i, none⟩ (.bool true) := ⟨_, rfl⟩
                have hT5 : Turn [w3.heap.size] wr w5 := by rw [hw5]; exact (Turn.refl _ _).setCell (by simp) _
                have hF5 : Bw w5 w3.heap.size 4 (boolC (dn2.set i true)) := by rw [hw5, ← boolC_set]; exact HI.out.1.flags.put i _
                have hz5 : w5.heap.size = wr.heap.size := by rw [hw5]; simp
                have hbx5 := HI.out.1.box.turn hT5 (by simp; omega)
                have x0 := hbx5.2 0 _ rfl
                have y0 : w5.cell? ⟨b1, o1 + i * 3, none⟩ = some (.int .i64 dd.fR) := (World.cell?_of_block (w := wr) (a := ⟨b1, o1 + i * 3, none⟩) (hT5.block b1 hbo (by simp; exact HNE.out))).trans k0
                have y1 : w5.cell? ⟨b1, o1 + i * 3 + 1, none⟩ = some (.int .i64 dd.fN) := (World.cell?_of_block (w := wr) (a := ⟨b1, o1 + i * 3 + 1, none⟩) (hT5.block b1 hbo (by simp; exact HNE.out))).trans k1
                have hO5 : RowR 2 40 rDot w.heap.size w5 (w.heap.size + 1) u3 L2 := by
                  obtain ⟨css, r1, r2, r3, r4⟩ := HI.out.1.out
                  exact ⟨css, r1, r2, fun j h1 h2 => by have h := r3 j h1 h2; exact ⟨h.1, h.2.1, h.2.2.1, trivial⟩, own_of_block r4 (fun x hx => hT5.block x (r4.lt x hx).2 (by have := HI.out.1.blk x hx; simp; omega))⟩
                obtain ⟨css, r1, r2, r3, r4⟩ := hO5
                have HR1 := Hid.mk r1
                have HR2 := Hid.mk r2
                have HR3 := Hid.mk r3
                clear r1 r2 r3
                obtain ⟨w6, hw6⟩ : ∃ x, x = w5.alloc (.cells #[.int .i64 dd.fR, .int .i64 dd.fN] 40) := ⟨_, rfl⟩
                have hb6 : Below w5.heap.size w5 w6 := by rw [hw6]; exact (Below.refl _ _).alloc (Nat.le_refl _) _
                have hbx6 : Bx w6 wr.heap.size [.int .i64 dd.fR, .int .i64 dd.fN] := by rw [← hz5, hw6]; exact Bx.new _ _ _
                have r5 := own_below r4 hb6
                have hz6 := hb6.size
                have hlen2 : L2.length ≤ 10000 := HI.out.1.len
                have hbig := HI.out.1.big
                rw [hw5] at x0 y0 y1
                go_wp2_with (at_builtin; rw [← hw5, ← hw6]; refine wpList_append_src_y rfl _ _ 26 26 rfl (w.heap.size + 1) 40 iD (.agg #[.int .i64 0, .int .i64 0]) 2 16 Tryd.underlying26 hiD hzD0 hzD1 hzD2 rfl _ _ _ rfl r5 _ rfl 1 [.int .i64 dd.fR, .int .i64 dd.fN] (Src.ofSlice w6 Tryd.underlying26 ⟨wr.heap.size, 0, none⟩ 1 1 _ rfl (bx_news hbx6) (by intro u hu; simp at hu; rcases hu with rfl | rfl <;> rfl)) (by unfold maxLen; omega) (by omega) (by omega) ?_; intro v7 w7 ho7 hgr7 hat7)
                have hT7 : Below (w.heap.size + 1) w5 w7 := (hb6.mono (by omega)).grown hgr7 (by omega) (fun x hx => (r4.lt x hx).1)
                have hz7 : w6.heap.size ≤ w7.heap.size := hgr7.size
                have hrow7 : RowR 2 40 rDot w.heap.size w7 (w.heap.size + 1) v7 (L2 ++ [dd]) := RowR.push rDot_good HR1.out HR2.out HR3.out (hT7.mono (by omega)) rfl ⟨rfl, g0, g1, trivial⟩ ho7
                have hne7 : ∀ b, w2.heap.size ≤ b → b < w4.heap.size → w7.heap[b]? = w5.heap[b]? := fun b h1 h2 => by
                  rw [hgr7.block b (by omega) (fun e => by have := HI.out.1.blk b e.symm; omega), hb6.block b (by omega)]
                have HIn : Hid (OSt m w.heap.size w2.heap.size w3.heap.size w4.heap.size w3 n (some ⟨b1, o1, none⟩) cap v7 (dn2.set i true) (L2 ++ [dd]) w7) := by
                  refine ⟨hrow7, fun b hb => ?_, fun b h1 h2 => ?_, ?_, ?_, ?_, by omega, ?_, by simpa using HI.out.1.flen⟩
                  · rcases hat7 with e | e
                    · exact HI.out.1.blk b (e ▸ hb)
                    · rw [hb] at e; simp at e; omega
                  · rw [hne7 b h1 (by omega), hT5.block b (by omega) (by simp; omega)]
                    exact HI.out.1.rows b h1 h2
                  · exact (hne7 w3.heap.size (by omega) (by omega)).trans hF5
                  · exact (hbx5.below hT7 (by omega))
                  · exact HI.out.1.low.trans ((hT5.below (fun x hx => by simp at hx; omega) (by omega)).trans (hT7.mono (by omega)))
                  · have h1 := HI.out.2.2.2
                    have h2 := pickT_len (inK (rg bss) k) m.fItems i
                    rw [HI.out.2.1] at hlen2 ⊢
                    simp only [List.length_append, List.length_singleton] at hlen2 ⊢
                    omega
                have HNX : Hid (L2 ++ [dd] = L ++ pickT (inK (rg bss) k) m.fItems (i + 1) ∧ (∀ j, j < n → (dn2.set i true).getD j false = (dn.getD j false || (decide (j < i + 1) && inK (rg bss) k j))) ∧ L.length ≤ 9900) := by
                  refine ⟨by rw [HPY.out, HI.out.2.1, List.append_assoc], fun j hj => ?_, HI.out.2.2.2⟩
                  by_cases e : j = i
                  · subst e
                    rw [HJT.out]
                    have h1 := (getD_set (bs := dn2) (t := j) (j := j) (by rw [HI.out.1.flen]; exact hii)).2 (.inr rfl)
                    rw [h1]
                    simp
                  · have h1 : (dn2.set i true).getD j false = dn2.getD j false := by rw [List.getD_eq_getElem?_getD, List.getD_eq_getElem?_getD, List.getElem?_set_ne (by omega)]
                    rw [h1, HI.out.2.2.1 j hj]
                    have e2 : decide (j < i + 1) = decide (j < i) := decide_eq_decide.2 (by omega)
                    rw [e2]
                clear ho7 hgr7 hat7
                exact ⟨⟨i + 1, dn2.set i true, L2 ++ [dd], by omega, by go_num, ⟨HIn.out, HNX.out⟩⟩, by simp [intOf]; omega⟩
        · have hin2 : ¬ (i : Int) < (n : Int) := by omega
          have hine : i = n := by omega
          have HDN : Hid (DoneSt m.fItems n (qs ++ [k]) dn2 (L ++ pickT (inK (rg bss) k) m.fItems n)) := HSR.out.2.take HX.out HRR.out hlt HNXK.out HI.out.1.flen (fun j hj => by rw [HI.out.2.2.1 j hj, hine, decide_eq_true hj, Bool.true_and])
          have HDN2 : Hid (OSt m w.heap.size w2.heap.size w3.heap.size w4.heap.size w3 n a cap u3 dn2 L2 wr ∧ DoneSt m.fItems n (qs ++ [k]) dn2 L2) := ⟨HI.out.1, by rw [HI.out.2.1, hine]; exact HDN.out⟩
          have HUN : Hid (undone dn2 < undone dn0) := by
            unfold Hid
            rw [← HNK.out.2]
            refine undone_lt (k := k) (by rw [HI.out.1.flen, HSR.out.1.flen]) (fun j hj hd => ?_) (by rw [HSR.out.1.flen]; exact hlt) hdk ?_
            · rw [HI.out.2.2.1 j (by rw [← HSR.out.1.flen]; exact hj), hd]; rfl
            · rw [HI.out.2.2.1 k hlt, hine, decide_eq_true hlt]
              unfold inK
              simp
          clear HI HDN
          go_wp2_with fail
          go_roundw
          case rel => exact ⟨k + 1, qs ++ [k], dn2, L2, true, by omega, by go_num, rfl, HDN2, Hid.mk (fun h => by cases h), Hid.mk (fun _ => HUN.out)⟩
          case measure => simp [intOf]; omega

end Go.Proofs.YtmigamgcmhdncaaDoor
