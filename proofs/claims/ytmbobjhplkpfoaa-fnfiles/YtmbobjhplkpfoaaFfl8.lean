/-
  Part 9 of the texts that the proof leans on.
-/
import Derived.Test.YtmbobjhplkpfoaaFfl2
import Derived.Test.YtmbobjhplkpfoaaFfl3
import Derived.Test.YtmbobjhplkpfoaaFfl7
import Derived.Test.YtmbobjhplkpfoaaFfl6
import Derived.Test.YtmbobjhplkpfoaaFfl1
import Derived.Test.YtmbobjhplkpfoaaFfl0
set_option linter.unusedVariables false
set_option linter.unusedSimpArgs false
set_option maxRecDepth 10000

namespace Go.Proofs.Ytmbobjhplkpfoaa
open Go.RowKit Go.Maps

theorem rKeepR {B base : Nat} {W : World} {ak b1 b2 : Option Addr} {ck d1 d2 : Nat} {n : MDisk} (h : RowR 3 56 rInode B W base (.slice ak (keepI n).length ck) (keepI n)) (hB : B ≤ W.heap.size) (hN : LeafL 2 rEntry B W b1 d1 n.fNames) (hS : LeafL 2 rEntry B W b2 d2 n.fSafe) (hx : (Lit.int .i64 n.fNext).wf = true) :
    rDisk W.heap.size W [.slice ak (keepI n).length ck, .slice b1 n.fNames.length d1, .slice b2 n.fSafe.length d2, .int .i64 n.fNext] (keepD n) := by
  obtain ⟨a', c', he, h1⟩ := h.leaf rInode_good hB
  simp only [Value.slice.injEq, true_and] at he
  obtain ⟨rfl, rfl⟩ := he
  exact ⟨ak, ck, b1, d1, b2, d2, rfl, h1, LeafL.mono rEntry_good hN hB, LeafL.mono rEntry_good hS hB, hx, trivial⟩

set_option maxHeartbeats 4000000 in
theorem implSyncDir_c (cs : List Value) (m : MDisk) (w : World) (hr : rDisk w.heap.size w cs m) (hw : wDisk m ≤ 1048576) :
    Calls Try.prog 16 #[.agg cs.toArray] w fun e w' => ∃ (cs' : List Value) (F : List Nat), e = .returned (.tuple #[.agg cs'.toArray, .int .i64 (syncDirC m)]) ∧ oDisk w' cs' (syncDirP m) F ∧ F.Nodup ∧ (∀ b, b ∈ F → w.heap.size ≤ b) ∧ Below w.heap.size w w' := by
  have hq := hr
  obtain ⟨a0, c0, a1, c1, a2, c2, rfl, hI, hNm, hSf, hnx, _⟩ := hq
  have hw2 : m.fInodes.length + sumW wInode m.fInodes + (m.fNames.length + sumW wEntry m.fNames) + (m.fSafe.length + sumW wEntry m.fSafe) ≤ 1048576 := hw
  have HW := Hid.mk hw
  have HR := Hid.mk hr
  have HI := Hid.mk hI
  have HNM := Hid.mk hNm
  clear hr hI hNm hSf hw
  go_enter Try.func16, Try.ntmps16
  go_wp2_with fail
  obtain ⟨wq, hwq⟩ : ∃ wq, wq = ((w.alloc (.cells #[.slice a0 m.fInodes.length c0, .slice a1 m.fNames.length c1, .slice a2 m.fSafe.length c2, .int .i64 m.fNext] 27)).alloc (.cells #[.slice none 0 0, .slice none 0 0, .slice none 0 0, .int .i64 0] 27)) := ⟨_, rfl⟩
  have hbW : Below w.heap.size w wq := by rw [hwq]; exact Below.alloc (Below.alloc (Below.refl _ _) (by exact Nat.le_refl _) _) (by simp; try omega) _
  have hbd : Bw wq (w.heap.size) 27 [.slice a0 m.fInodes.length c0, .slice a1 m.fNames.length c1, .slice a2 m.fSafe.length c2, .int .i64 m.fNext] := by rw [hwq]; exact Bw.alloc (Bw.new' _ _ _ (by simp)) _
  have hbr : Bw wq (w.heap.size + 1) 27 [.slice none 0 0, .slice none 0 0, .slice none 0 0, .int .i64 0] := by rw [hwq]; exact Bw.new' _ _ _ (by simp)
  rw [← hwq]
  clear hwq
  refine (implDiskOk_c _ m wq (rDisk_good.mono (rDisk_good.below HR.out hbW) hbW.size) HW.out).mono ?_
  rintro e w1 ⟨rfl, hx1⟩
  have hb1 := bthen hbW hx1
  have hbd1 := hbd.under hx1
  have hbr1 := hbr.under hx1
  have hl1 := hbd1.lt
  have hl1r := hbr1.lt
  have y0 := hbd1.cell 0 _ rfl
  have y1 := hbd1.cell 1 _ rfl
  have y2 := hbd1.cell 2 _ rfl
  have y3 := hbd1.cell 3 _ rfl
  clear hbd hbr
  by_cases hK : diskOk m = true
  · have HV : Hid (syncDirP m = keepD { m with fSafe := m.fNames } ∧ syncDirC m = 0) := by refine ⟨?_, ?_⟩ <;> simp [syncDirP, syncDirC, hK]
    have hwt := ok_weight hK
    have hwk : wDisk { m with fSafe := m.fNames } ≤ 1048576 := by rw [wDisk_eq]; simp only; omega
    have HWK1 : Hid (wDisk { m with fSafe := m.fNames } ≤ 16777216) := by show _ ≤ _; omega
    have HWK : Hid (wDisk (keepD { m with fSafe := m.fNames }) ≤ 1048576) := Nat.le_trans (keepD_weight _) hwk
    rw [hK]
    clear hK hwt hwk
    have f2 := hbd1.free 2
    go_wp2_with fail
    obtain ⟨ws, hws⟩ : ∃ ws, ws = w1.setCell ⟨w.heap.size, 2, none⟩ (.slice a1 m.fNames.length c1) := ⟨_, rfl⟩
    have hTs : Turn [w.heap.size] w1 ws := by rw [hws]; exact Turn.setCell (Turn.refl _ _) (by simp) _
    have hbds : Bw ws w.heap.size 27 [.slice a0 m.fInodes.length c0, .slice a1 m.fNames.length c1, .slice a1 m.fNames.length c1, .int .i64 m.fNext] := by rw [hws]; exact hbd1.put 2 _
    rw [← hws]
    clear hws y0 y1 y2 y3 f2
    have hbrs := hbr1.turn hTs (by simp)
    have hBs : Below w.heap.size w ws := hb1.trans (hTs.below (fun k hk => by simp at hk; omega) hb1.size)
    refine (namedInodes_rowB a0 a1 a1 c0 c1 c1 { m with fSafe := m.fNames } ws w.heap.size hBs.size (HI.out.below rInode_good hBs) (LeafL.mono rEntry_good (HNM.out.below rEntry_good hBs) hBs.size) (LeafL.mono rEntry_good (HNM.out.below rEntry_good hBs) hBs.size) HWK1.out).mono ?_
    rintro e w2 ⟨ak, ck, rfl, hrow, _, hx2⟩
    have HROW := Hid.mk hrow
    have hb2 := bthen hBs hx2
    have hbd2 := hbds.under hx2
    have hbr2 := hbrs.under hx2
    have hl2 := hbd2.lt
    have hl2s := hbds.lt
    have hl2r := hbrs.lt
    have y0 := hbd2.cell 0 _ rfl
    have y1 := hbd2.cell 1 _ rfl
    have y2 := hbd2.cell 2 _ rfl
    have y3 := hbd2.cell 3 _ rfl
    have f0 := hbd2.free 0
    clear hrow
    go_wp2_with fail
    obtain ⟨wt, hwt⟩ : ∃ wt, wt = w2.setCell ⟨w.heap.size, 0, none⟩ (.slice ak (keepI { m with fSafe := m.fNames }).length ck) := ⟨_, rfl⟩
    have hTt : Turn [w.heap.size] w2 wt := by rw [hwt]; exact Turn.setCell (Turn.refl _ _) (by simp) _
    rw [← hwt]
    clear hwt y0 y1 y2 y3 f0
    have hbrt := hbr2.turn hTt (by simp)
    have hBt : Below w.heap.size w wt := hb2.trans (hTt.below (fun k hk => by simp at hk; omega) hb2.size)
    have hrk := rKeepR (RowR.turn rInode_good HROW.out hTt (fun k hk => by simp at hk; omega) hb2.size (Nat.le_refl _)) hBt.size (HNM.out.below rEntry_good hBt) (HNM.out.below rEntry_good hBt) hnx
    refine (copyDisk_any _ (keepD { m with fSafe := m.fNames }) wt hrk HWK.out).mono ?_
    rintro e w3 ⟨cs3, F3, rfl, ho3, hN3, hge3, hx3⟩
    have hb3 := bthen hBt hx3
    have hbr3 := hbrt.under hx3
    have hl3 := hbr3.lt
    have hz3 := hBt.size
    have hlq3 := hbrt.lt
    obtain ⟨q0, p0, q1, p1, q2, p2, G0, G1, G2, rfl, _, _, _, _, rfl⟩ := oDisk_cells ho3
    have hkey : ∀ W', Turn [w.heap.size + 1] w3 W' → oDisk W' [.slice q0 (keepD { m with fSafe := m.fNames }).fInodes.length p0, .slice q1 (keepD { m with fSafe := m.fNames }).fNames.length p1, .slice q2 (keepD { m with fSafe := m.fNames }).fSafe.length p2, .int .i64 (keepD { m with fSafe := m.fNames }).fNext] (keepD { m with fSafe := m.fNames }) (G0 ++ G1 ++ G2 ++ []) ∧ Below w.heap.size w W' := fun W' hT =>
      ⟨oDisk_good.frame ho3 (fun b hb => hT.block b (oDisk_good.lt ho3 b hb) (fun h => by simp at h; have := hge3 b hb; omega)), hb3.trans (hT.below (fun k hk => by simp at hk; omega) hb3.size)⟩
    have HKEY := Hid.mk hkey
    have HNQ := Hid.mk hN3
    have HGQ : Hid (∀ b, b ∈ G0 ++ G1 ++ G2 ++ [] → w.heap.size ≤ b) := fun b hb => by have := hge3 b hb; omega
    clear hkey ho3 hN3 hge3 
    have ze0 := hbr3.cell 0 _ rfl
    have ze1 := hbr3.cell 1 _ rfl
    have ze2 := hbr3.cell 2 _ rfl
    have ze3 := hbr3.cell 3 _ rfl
    have zf0 := hbr3.free 0
    have zf1 := hbr3.free 1
    have zf2 := hbr3.free 2
    have zf3 := hbr3.free 3
    go_wp2_with fail
    obtain ⟨h1, h3⟩ := HKEY.out _ (show Turn [w.heap.size + 1] w3 ((((w3.setCell ⟨w.heap.size + 1, 0, none⟩ (.slice q0 (keepD { m with fSafe := m.fNames }).fInodes.length p0)).setCell ⟨w.heap.size + 1, 1, none⟩ (.slice q1 (keepD { m with fSafe := m.fNames }).fNames.length p1)).setCell ⟨w.heap.size + 1, 2, none⟩ (.slice q2 (keepD { m with fSafe := m.fNames }).fSafe.length p2)).setCell ⟨w.heap.size + 1, 3, none⟩ (.int .i64 (keepD { m with fSafe := m.fNames }).fNext)) from turn4 _ _ _ _ _ _)
    exact bodyPost_ret (v := .tuple #[.agg #[.slice q0 (keepD { m with fSafe := m.fNames }).fInodes.length p0, .slice q1 (keepD { m with fSafe := m.fNames }).fNames.length p1, .slice q2 (keepD { m with fSafe := m.fNames }).fSafe.length p2, .int .i64 (keepD { m with fSafe := m.fNames }).fNext], .int .i64 0]) (by simp [results, Try.results16, go_sem, *]) rfl ⟨[.slice q0 (keepD { m with fSafe := m.fNames }).fInodes.length p0, .slice q1 (keepD { m with fSafe := m.fNames }).fNames.length p1, .slice q2 (keepD { m with fSafe := m.fNames }).fSafe.length p2, .int .i64 (keepD { m with fSafe := m.fNames }).fNext], _, by rw [HV.out.2], by rw [HV.out.1]; exact h1, HNQ.out, HGQ.out, h3⟩
  · have hK2 : diskOk m = false := Bool.eq_false_iff.2 hK
    have HV : Hid (syncDirP m = m ∧ syncDirC m = 1) := by refine ⟨?_, ?_⟩ <;> simp [syncDirP, syncDirC, hK2]
    rw [hK2]
    clear hK hK2
    go_wp2_with fail
    refine (copyDisk_any _ (m) w1 (rDisk_good.mono (rDisk_good.below HR.out hb1) hb1.size) HW.out).mono ?_
    rintro e w3 ⟨cs3, F3, rfl, ho3, hN3, hge3, hx3⟩
    have hb3 := bthen hb1 hx3
    have hbr3 := hbr1.under hx3
    have hl3 := hbr3.lt
    have hz3 := hb1.size
    have hlq3 := hbr1.lt
    obtain ⟨q0, p0, q1, p1, q2, p2, G0, G1, G2, rfl, _, _, _, _, rfl⟩ := oDisk_cells ho3
    have hkey : ∀ W', Turn [w.heap.size + 1] w3 W' → oDisk W' [.slice q0 m.fInodes.length p0, .slice q1 m.fNames.length p1, .slice q2 m.fSafe.length p2, .int .i64 m.fNext] (m) (G0 ++ G1 ++ G2 ++ []) ∧ Below w.heap.size w W' := fun W' hT =>
      ⟨oDisk_good.frame ho3 (fun b hb => hT.block b (oDisk_good.lt ho3 b hb) (fun h => by simp at h; have := hge3 b hb; omega)), hb3.trans (hT.below (fun k hk => by simp at hk; omega) hb3.size)⟩
    have HKEY := Hid.mk hkey
    have HNQ := Hid.mk hN3
    have HGQ : Hid (∀ b, b ∈ G0 ++ G1 ++ G2 ++ [] → w.heap.size ≤ b) := fun b hb => by have := hge3 b hb; omega
    clear hkey ho3 hN3 hge3 y0 y1 y2 y3
    have ze0 := hbr3.cell 0 _ rfl
    have ze1 := hbr3.cell 1 _ rfl
    have ze2 := hbr3.cell 2 _ rfl
    have ze3 := hbr3.cell 3 _ rfl
    have zf0 := hbr3.free 0
    have zf1 := hbr3.free 1
    have zf2 := hbr3.free 2
    have zf3 := hbr3.free 3
    go_wp2_with fail
    obtain ⟨h1, h3⟩ := HKEY.out _ (show Turn [w.heap.size + 1] w3 ((((w3.setCell ⟨w.heap.size + 1, 0, none⟩ (.slice q0 m.fInodes.length p0)).setCell ⟨w.heap.size + 1, 1, none⟩ (.slice q1 m.fNames.length p1)).setCell ⟨w.heap.size + 1, 2, none⟩ (.slice q2 m.fSafe.length p2)).setCell ⟨w.heap.size + 1, 3, none⟩ (.int .i64 m.fNext)) from turn4 _ _ _ _ _ _)
    exact bodyPost_ret (v := .tuple #[.agg #[.slice q0 m.fInodes.length p0, .slice q1 m.fNames.length p1, .slice q2 m.fSafe.length p2, .int .i64 m.fNext], .int .i64 1]) (by simp [results, Try.results16, go_sem, *]) rfl ⟨[.slice q0 m.fInodes.length p0, .slice q1 m.fNames.length p1, .slice q2 m.fSafe.length p2, .int .i64 m.fNext], _, by rw [HV.out.2], by rw [HV.out.1]; exact h1, HNQ.out, HGQ.out, h3⟩

end Go.Proofs.Ytmbobjhplkpfoaa

namespace Go.Proofs.Ytmbobjhplkpfoaa
open Go.RowKit

theorem flatten_set {size : Nat} : ∀ {css : List (List Value)} {j : Nat} {cs' : List Value}, (∀ c, c ∈ css → c.length = size) → j < css.length → cs'.length = size →
    (css.set j cs').flatten = css.flatten.take (j * size) ++ cs' ++ css.flatten.drop (j * size + size)
  | [], j, cs', _, h, _ => by simp at h
  | c :: r, 0, cs', hc, _, hl => by
    have h1 := hc c (by simp)
    simp only [List.set_cons_zero, List.flatten_cons, Nat.zero_mul, List.take_zero, List.nil_append, Nat.zero_add]
    rw [← h1, List.drop_left]
  | c :: r, j + 1, cs', hc, hj, hl => by
    have h1 := hc c (by simp)
    have ih := flatten_set (css := r) (j := j) (cs' := cs') (fun x hx => hc x (by simp [hx])) (by simpa using hj) hl
    simp only [List.set_cons_succ, List.flatten_cons, ih]
    have e1 : (j + 1) * size = c.length + j * size := by rw [Nat.succ_mul, h1]; omega
    have e2 : (j + 1) * size + size = c.length + (j * size + size) := by omega
    rw [e2, e1, List.take_append, List.drop_append]
    simp [List.take_of_length_le, List.drop_eq_nil_of_le]

/-- One element of the row is written over. -/
theorem RowR.put {α : Type} {size : Nat} {e : TypeId} {R : Rep α} (hR : R.Good) {B base : Nat} {w : World} {g cap : Nat} {l : List α} (h : RowR size e R B w base (.slice (some ⟨g, 0, none⟩) l.length cap) l) (hB : B ≤ base) (hBw : B ≤ w.heap.size) {j : Nat} (hj : j < l.length) {cs' : List Value} {m' : α} (hc : cs'.length = size) (hm : R B w cs' m') :
    RowR size e R B (w.setCells g (j * size) cs') base (.slice (some ⟨g, 0, none⟩) l.length cap) (l.set j m') ∧ Turn [g] w (w.setCells g (j * size) cs') ∧ base ≤ g := by
  obtain ⟨css, r1, r2, r3, r4⟩ := h
  have hfl := flat_len r2
  rcases r4.2 with ⟨h0, _⟩ | ⟨g', cap', cur, h0, hb, hg, hnc, hmx, hs, ht⟩
  · cases h0
  · simp only [Value.slice.injEq, Option.some.injEq, Addr.mk.injEq, and_true, true_and] at h0
    obtain ⟨rfl, rfl⟩ := h0
    have hjc : j < css.length := by omega
    have hmul : (j + 1) * size ≤ l.length * size := Nat.mul_le_mul_right _ hj
    rw [Nat.succ_mul] at hmul
    have hmul2 : l.length * size ≤ cap * size := Nat.mul_le_mul_right _ hnc
    have hT : ∀ (vs : List Value) (o : Nat) (W : World), Turn [g] w W → Turn [g] w (W.setCells g o vs) := by
      intro vs
      induction vs with
      | nil => intro o W h; exact h
      | cons v r ih => intro o W h; exact ih (o + 1) _ (Turn.setCell h (by simp) v)
    have hTT := hT cs' (j * size) w (Turn.refl _ _)
    obtain ⟨cur', d1, d2, d3⟩ := setCells_row' g e cs' (j * size) w cur hg (by rw [hc]; omega)
    have hgB : B ≤ g := Nat.le_trans hB hb
    refine ⟨⟨css.set j cs', by simp [r1], ?_, ?_, ?_⟩, hTT, hb⟩
    · intro c hcm
      rcases List.mem_or_eq_of_mem_set hcm with h | h
      · exact r2 c h
      · rw [h]; exact hc
    · intro i h1 h2
      have hbl := hTT.below (B := B) (fun k hk => by simp at hk; omega) hBw
      simp only [List.length_set] at h1 h2
      by_cases hij : i = j
      · subst hij
        rw [List.getElem_set_self, List.getElem_set_self]
        exact hR.below hm hbl
      · rw [List.getElem_set_ne (Ne.symm hij), List.getElem_set_ne (Ne.symm hij)]
        exact hR.below (r3 i h1 h2) hbl
    · refine ⟨?_, .inr ⟨g, cap, cur', by simp, hb, d1, by simpa using hnc, hmx, by rw [d2, hs], ?_⟩⟩
      · rw [flat_len (size := size)]
        · simp [r1]
        · intro c hcm
          rcases List.mem_or_eq_of_mem_set hcm with h | h
          · exact r2 c h
          · rw [h]; exact hc
      · rw [flatten_set r2 hjc hc, ← ht, d3]
        have hcl : cur.toList.length = cap * size := by simpa using hs
        apply List.ext_getElem?
        intro i
        simp only [List.getElem?_take, List.getElem?_append, List.length_append, List.length_take, List.getElem?_drop, hc, List.length_set, hcl]
        have e1 : min (j * size) (cap * size) = j * size := by omega
        have e2 : min (j * size) (min (l.length * size) (cap * size)) = j * size := by omega
        rw [e1, e2]
        by_cases h1 : i < j * size
        · have h2 : i < l.length * size := by omega
          have h3 : i < j * size + size := by omega
          simp [h1, h2, h3]
        · by_cases h3 : i < j * size + size
          · have h2 : i < l.length * size := by omega
            have h4 : i - j * size < size := by omega
            simp [h1, h2, h3, h4]
          · have e3 : j * size + size + (i - (j * size + size)) = i := by omega
            simp [h1, h3, e3]

/-- What one element's cells are. -/
theorem RowR.at {α : Type} {size : Nat} {e : TypeId} {R : Rep α} {B base : Nat} {w : World} {v : Value} {l : List α} (h : RowR size e R B w base v l) {j : Nat} (hj : j < l.length) :
    ∃ g cap cs, v = .slice (some ⟨g, 0, none⟩) l.length cap ∧ base ≤ g ∧ g < w.heap.size ∧ cs.length = size ∧ R B w cs l[j] ∧ (∀ i u, cs[i]? = some u → w.cell? ⟨g, j * size + i, none⟩ = some u) ∧ ∀ i, w.frozen? ⟨g, i, none⟩ = false := by
  obtain ⟨css, r1, r2, r3, r4⟩ := h
  have hjc : j < css.length := by omega
  rcases r4.2 with ⟨_, h0⟩ | ⟨g, cap, cur, rfl, hb, hg, hnc, hmx, hs, ht⟩
  · omega
  · refine ⟨g, cap, css[j], rfl, hb, (Array.getElem?_eq_some_iff.1 hg).1, r2 _ (List.getElem_mem hjc), r3 j hj hjc, fun i u hu => ?_, fun i => frozen_of_row w g i cur e hg⟩
    have hi : i < size := by
      have := (List.getElem?_eq_some_iff.1 hu).1
      rw [r2 _ (List.getElem_mem hjc)] at this
      exact this
    have hf := flatten_at r2 (j := j) hi
    rw [List.getElem?_eq_getElem hjc, Option.bind_some, hu, ← ht, List.getElem?_take] at hf
    split at hf
    · rw [cell_of_row w g _ cur e (0, 0) hg]
      simpa using hf
    · cases hf

theorem flatten_set1 {size : Nat} : ∀ {css : List (List Value)} {j i : Nat} {u : Value} (hj : j < css.length), (∀ c, c ∈ css → c.length = size) → i < size → (css.set j (css[j].set i u)).flatten = css.flatten.set (j * size + i) u
  | [], j, i, u, h, _, _ => by simp at h
  | c :: r, 0, i, u, _, hc, hi => by
    have h1 := hc c (by simp)
    simp only [List.set_cons_zero, List.flatten_cons, Nat.zero_mul, Nat.zero_add, List.getElem_cons_zero]
    rw [List.set_append_left _ _ (by omega)]
  | c :: r, j + 1, i, u, hj, hc, hi => by
    have h1 := hc c (by simp)
    have ih := flatten_set1 (css := r) (j := j) (i := i) (u := u) (by simpa using hj) (fun x hx => hc x (by simp [hx])) hi
    simp only [List.set_cons_succ, List.flatten_cons, List.getElem_cons_succ, ih]
    rw [List.set_append_right _ _ (by rw [h1, Nat.succ_mul]; omega)]
    congr 2
    rw [h1, Nat.succ_mul]
    omega

/-- One element of the row: its cells, and the row once one of them is written. -/
theorem RowR.split {α : Type} {size : Nat} {e : TypeId} {R : Rep α} (hR : R.Good) {B base : Nat} {w : World} {v : Value} {l : List α} (h : RowR size e R B w base v l) (hB : B ≤ base) (hBw : B ≤ w.heap.size) {j : Nat} (hj : j < l.length) :
    ∃ g cap cs, v = .slice (some ⟨g, 0, none⟩) l.length cap ∧ base ≤ g ∧ g < w.heap.size ∧ cs.length = size ∧ R B w cs l[j] ∧ (∀ i u, cs[i]? = some u → w.cell? ⟨g, j * size + i, none⟩ = some u) ∧ (∀ i, w.frozen? ⟨g, i, none⟩ = false) ∧
      ∀ (i : Nat) (u : Value) (m' : α), i < size → R B w (cs.set i u) m' → RowR size e R B (w.setCell ⟨g, j * size + i, none⟩ u) base v (l.set j m') := by
  have hat := h.at hj
  obtain ⟨css, r1, r2, r3, r4⟩ := h
  have hjc : j < css.length := by omega
  rcases r4.2 with ⟨_, h0⟩ | ⟨g, cap, cur, rfl, hb, hg, hnc, hmx, hs, ht⟩
  · omega
  · have hcells : ∀ i u, css[j][i]? = some u → w.cell? ⟨g, j * size + i, none⟩ = some u := by
      intro i u hu
      have hi : i < size := by
        have := (List.getElem?_eq_some_iff.1 hu).1
        rw [r2 _ (List.getElem_mem hjc)] at this
        exact this
      have hf := flatten_at r2 (j := j) hi
      rw [List.getElem?_eq_getElem hjc, Option.bind_some, hu, ← ht, List.getElem?_take] at hf
      split at hf
      · rw [cell_of_row w g _ cur e (0, 0) hg]
        simpa using hf
      · cases hf
    refine ⟨g, cap, css[j], rfl, hb, (Array.getElem?_eq_some_iff.1 hg).1, r2 _ (List.getElem_mem hjc), r3 j hj hjc, hcells, fun i => frozen_of_row w g i cur e hg, ?_⟩
    intro i u m' hi hm
    have hT : Turn [g] w (w.setCell ⟨g, j * size + i, none⟩ u) := Turn.setCell (Turn.refl _ _) (by simp) _
    have hbl := hT.below (B := B) (fun k hk => by simp at hk; omega) hBw
    have hl2 : ∀ c, c ∈ css.set j (css[j].set i u) → c.length = size := by
      intro c hcm
      rcases List.mem_or_eq_of_mem_set hcm with h | h
      · exact r2 c h
      · rw [h, List.length_set]; exact r2 _ (List.getElem_mem hjc)
    refine ⟨css.set j (css[j].set i u), by simp [r1], hl2, ?_, ?_⟩
    · intro x h1 h2
      simp only [List.length_set] at h1 h2
      by_cases hxj : x = j
      · subst hxj
        rw [List.getElem_set_self, List.getElem_set_self]
        exact hR.below hm hbl
      · rw [List.getElem_set_ne (Ne.symm hxj), List.getElem_set_ne (Ne.symm hxj)]
        exact hR.below (r3 x h1 h2) hbl
    · refine ⟨by rw [flat_len hl2]; simp [r1], .inr ⟨g, cap, cur.setIfInBounds (j * size + i) u, by simp, hb, heap_setCell_same w g _ cur e u hg, by simpa using hnc, hmx, by simpa using hs, ?_⟩⟩
      rw [flatten_set1 hjc r2 hi, ← ht, Array.toList_setIfInBounds, List.take_set, List.length_set]

/-- A slice of bytes of one's own that is cut shorter. -/
theorem ownB.cut {e : TypeId} {w : World} {a : Option Addr} {n c : Nat} {zs : List Int} {F : List Nat} (h : ownB e w (.slice a n c) zs F) (hn : zs.length = n) {k : Nat} (hk : k ≤ n) : ownB e w (.slice a k c) (zs.take k) F := by
  obtain ⟨h1, h2, rfl⟩ := h
  have hl : (zs.take k).length = k := by simp; omega
  refine ⟨⟨by simp, ?_⟩, fun z hz => h2 z (List.mem_of_mem_take hz), by cases a <;> rfl⟩
  rcases h1.2 with ⟨h0, h0'⟩ | ⟨g, cap, cur, h0, hb, hg, hnc, hm, hs, ht⟩
  · simp only [Value.slice.injEq] at h0
    obtain ⟨rfl, rfl, rfl⟩ := h0
    left
    have : k = 0 := by omega
    subst this
    exact ⟨rfl, by simp⟩
  · simp only [Value.slice.injEq] at h0
    obtain ⟨rfl, h0n, rfl⟩ := h0
    right
    refine ⟨g, c, cur, by rw [hl], hb, hg, by omega, hm, hs, ?_⟩
    rw [hl, Nat.mul_one, List.map_take, ← ht, Nat.mul_one, List.take_take]
    congr 1
    omega

/-- The first of what is read. -/
theorem LeafB.take {B : Nat} {w : World} {a : Option Addr} {c : Nat} {zs : List Int} (h : LeafB B w a c zs) (n : Nat) : LeafB B w a c (zs.take n) := by
  refine ⟨by have := h.1; simp; omega, h.2.1, fun j hj => ?_, fun z hz => h.2.2.2 z (List.mem_of_mem_take hz)⟩
  have hj2 : j < zs.length := by simp at hj; omega
  obtain ⟨b, off, e, hb, hc⟩ := h.2.2.1 j hj2
  refine ⟨b, off, e, hb, ?_⟩
  rw [hc]
  have hjn : j < n := by simp at hj; omega
  simp [List.getD_eq_getElem?_getD, List.getElem?_take, hjn]

/-- A list of which the first k are turned. -/
def partMap {α : Type} (f : α → α) (l : List α) (k : Nat) : List α := (l.take k).map f ++ l.drop k
theorem partMap_zero {α : Type} (f : α → α) (l : List α) : partMap f l 0 = l := by simp [partMap]
theorem partMap_all {α : Type} (f : α → α) (l : List α) : partMap f l l.length = l.map f := by simp [partMap]
theorem partMap_length {α : Type} (f : α → α) (l : List α) {k : Nat} (h : k ≤ l.length) : (partMap f l k).length = l.length := by simp [partMap]; omega
theorem partMap_at {α : Type} (f : α → α) (l : List α) {k : Nat} (h : k < l.length) (h2 : k < (partMap f l k).length) : (partMap f l k)[k] = l[k] := by
  have h3 : (partMap f l k)[k]? = some l[k] := by
    unfold partMap
    have hm : min k l.length = k := by omega
    rw [List.getElem?_append_right (by simp; omega)]
    simp only [List.length_map, List.length_take, hm, Nat.sub_self, List.getElem?_drop, Nat.add_zero]
    exact List.getElem?_eq_getElem h
  rw [List.getElem?_eq_getElem h2] at h3
  exact Option.some.inj h3
theorem partMap_succ {α : Type} (f : α → α) (l : List α) {k : Nat} (h : k < l.length) : (partMap f l k).set k (f l[k]) = partMap f l (k + 1) := by
  unfold partMap
  have hm : min k l.length = k := by omega
  rw [List.set_append_right _ _ (by simp; omega)]
  simp only [List.length_map, List.length_take, hm, Nat.sub_self]
  rw [List.drop_eq_getElem_cons h, List.set_cons_zero, List.take_succ_eq_append_getElem h, List.map_append, List.append_assoc]
  rfl

end Go.Proofs.Ytmbobjhplkpfoaa

namespace Go.Proofs.Ytmbobjhplkpfoaa
open Go.RowKit Go.Maps
abbrev q4f8_13_9_0 : Oper := ⟨some 42, .fieldAddr 27 (.tmp 2) 0, 0, "l02_files.go:191", #[], none⟩
abbrev q4f8_13_9_1 : Oper := ⟨some 43, .load 24 (.tmp 42), 24, "l02_files.go:191", #[⟨0, .data⟩], none⟩
abbrev q4f8_13_9_2 : Oper := ⟨some 44, .move (.tmp 5), 3, "l02_files.go:191", #[], none⟩
abbrev q4f8_13_9_3 : Oper := ⟨some 45, .fieldAddr 56 (.tmp 6) 0, 0, "l02_files.go:191", #[], none⟩
abbrev q4f8_13_9_4 : Oper := ⟨some 46, .load 3 (.tmp 45), 3, "l02_files.go:191", #[⟨3, .data⟩], none⟩
abbrev q4f8_13_9_5 : Oper := ⟨some 47, .fieldAddr 56 (.tmp 6) 1, 0, "l02_files.go:191", #[], none⟩
abbrev q4f8_13_9_6 : Oper := ⟨some 48, .load 22 (.tmp 47), 22, "l02_files.go:191", #[⟨5, .data⟩], none⟩
abbrev q4f8_13_9_7 : Oper := ⟨some 49, .move (.tmp 7), 3, "l02_files.go:191", #[], none⟩
abbrev q4f8_13_9_8 : Oper := ⟨some 50, .slice 22 (.tmp 48) none (some (.tmp 49)) none, 22, "l02_files.go:191", #[⟨6, .data⟩, ⟨7, .data⟩], none⟩
abbrev q4f8_13_9_9 : Oper := ⟨some 51, .move (.tmp 7), 3, "l02_files.go:191", #[], none⟩
abbrev q4f8_13_9_10 : Oper := ⟨some 52, .build 56 #[(0, .tmp 46), (1, .tmp 50), (2, .tmp 51)], 56, "l02_files.go:191", #[⟨4, .data⟩, ⟨8, .data⟩, ⟨9, .data⟩], none⟩
abbrev q4f8_13_9_11 : Oper := ⟨some 53, .indexAddr 24 (.tmp 43) (.tmp 44), 0, "l02_files.go:191", #[⟨1, .data⟩, ⟨2, .data⟩, ⟨0, .phase⟩, ⟨1, .phase⟩, ⟨2, .phase⟩, ⟨3, .phase⟩, ⟨4, .phase⟩, ⟨5, .phase⟩, ⟨6, .phase⟩, ⟨7, .phase⟩, ⟨8, .phase⟩, ⟨9, .phase⟩, ⟨10, .phase⟩], none⟩
abbrev q4f8_13_9_12 : Oper := ⟨none, .store 56 (.tmp 53) (.tmp 52), 0, "l02_files.go:191", #[⟨11, .data⟩, ⟨10, .data⟩, ⟨0, .phase⟩, ⟨1, .phase⟩, ⟨2, .phase⟩, ⟨3, .phase⟩, ⟨4, .phase⟩, ⟨5, .phase⟩, ⟨6, .phase⟩, ⟨7, .phase⟩, ⟨8, .phase⟩, ⟨9, .phase⟩, ⟨10, .phase⟩], none⟩

set_option maxHeartbeats 4000000 in
theorem implFall_c (cs : List Value) (m : MDisk) (kp : Int) (w : World) (hr : rDisk w.heap.size w cs m) (hkw : (Lit.int .i64 kp).wf = true) (hw : wDisk m ≤ 1048576) :
    Calls Try.prog 13 #[.agg cs.toArray, .int .i64 kp] w fun e w' => ∃ (cs' : List Value) (F : List Nat), e = .returned (.agg cs'.toArray) ∧ oDisk w' cs' (fallP m kp) F ∧ F.Nodup ∧ (∀ b, b ∈ F → w.heap.size ≤ b) ∧ Below w.heap.size w w' := by
  have hq := hr
  obtain ⟨a0, c0, a1, c1, a2, c2, rfl, hI, hNm, hSf, hnx, _⟩ := hq
  have hw2 : m.fInodes.length + sumW wInode m.fInodes + (m.fNames.length + sumW wEntry m.fNames) + (m.fSafe.length + sumW wEntry m.fSafe) ≤ 1048576 := hw
  have HW := Hid.mk hw
  have HR := Hid.mk hr
  have HI := Hid.mk hI
  have HSF := Hid.mk hSf
  clear hr hI hNm hSf hw
  have hkb : -9223372036854775808 ≤ kp ∧ kp ≤ 9223372036854775807 := by simpa [Lit.wf, IntKind.min, IntKind.max, IntKind.signed, IntKind.bits] using hkw
  obtain ⟨hkb1, hkb2⟩ := hkb
  go_enter Try.func13, Try.ntmps13
  go_wp2_with fail
  obtain ⟨wq, hwq⟩ : ∃ wq, wq = ((w.alloc (.cells #[.slice a0 m.fInodes.length c0, .slice a1 m.fNames.length c1, .slice a2 m.fSafe.length c2, .int .i64 m.fNext] 27)).alloc (.cells #[.slice none 0 0, .slice none 0 0, .slice none 0 0, .int .i64 0] 27)) := ⟨_, rfl⟩
  have hbW : Below w.heap.size w wq := by rw [hwq]; exact Below.alloc (Below.alloc (Below.refl _ _) (by exact Nat.le_refl _) _) (by simp; try omega) _
  have hbd : Bw wq (w.heap.size) 27 [.slice a0 m.fInodes.length c0, .slice a1 m.fNames.length c1, .slice a2 m.fSafe.length c2, .int .i64 m.fNext] := by rw [hwq]; exact Bw.alloc (Bw.new' _ _ _ (by simp)) _
  have hbr : Bw wq (w.heap.size + 1) 27 [.slice none 0 0, .slice none 0 0, .slice none 0 0, .int .i64 0] := by rw [hwq]; exact Bw.new' _ _ _ (by simp)
  rw [← hwq]
  clear hwq
  refine (implDiskOk_c _ m wq (rDisk_good.mono (rDisk_good.below HR.out hbW) hbW.size) HW.out).mono ?_
  rintro e w1 ⟨rfl, hx1⟩
  have hb1 := bthen hbW hx1
  have hbd1 := hbd.under hx1
  have hbr1 := hbr.under hx1
  have hl1 := hbd1.lt
  have hl1r := hbr1.lt
  have y0 := hbd1.cell 0 _ rfl
  have y1 := hbd1.cell 1 _ rfl
  have y2 := hbd1.cell 2 _ rfl
  have y3 := hbd1.cell 3 _ rfl
  clear hbd hbr
  by_cases hK : diskOk m = true
  · by_cases hkn : kp < 0
    · have HV : Hid (fallP m kp = m) := by show _ = _; unfold fallP; rw [if_neg (by omega)]
      rw [hK]
      clear hK
      go_wp2_with fail
      refine (copyDisk_any _ (m) w1 (rDisk_good.mono (rDisk_good.below HR.out hb1) hb1.size) HW.out).mono ?_
      rintro e w3 ⟨cs3, F3, rfl, ho3, hN3, hge3, hx3⟩
      have hb3 := bthen hb1 hx3
      have hbr3 := hbr1.under hx3
      have hl3 := hbr3.lt
      have hz3 := hb1.size
      have hlq3 := hbr1.lt
      obtain ⟨q0, p0, q1, p1, q2, p2, G0, G1, G2, rfl, _, _, _, _, rfl⟩ := oDisk_cells ho3
      have hkey : ∀ W', Turn [w.heap.size + 1] w3 W' → oDisk W' [.slice q0 m.fInodes.length p0, .slice q1 m.fNames.length p1, .slice q2 m.fSafe.length p2, .int .i64 m.fNext] (m) (G0 ++ G1 ++ G2 ++ []) ∧ Below w.heap.size w W' := fun W' hT =>
        ⟨oDisk_good.frame ho3 (fun b hb => hT.block b (oDisk_good.lt ho3 b hb) (fun h => by simp at h; have := hge3 b hb; omega)), hb3.trans (hT.below (fun k hk => by simp at hk; omega) hb3.size)⟩
      have HKEY := Hid.mk hkey
      have HNQ := Hid.mk hN3
      have HGQ : Hid (∀ b, b ∈ G0 ++ G1 ++ G2 ++ [] → w.heap.size ≤ b) := fun b hb => by have := hge3 b hb; omega
      clear hkey ho3 hN3 hge3 y0 y1 y2 y3
      have ze0 := hbr3.cell 0 _ rfl
      have ze1 := hbr3.cell 1 _ rfl
      have ze2 := hbr3.cell 2 _ rfl
      have ze3 := hbr3.cell 3 _ rfl
      have zf0 := hbr3.free 0
      have zf1 := hbr3.free 1
      have zf2 := hbr3.free 2
      have zf3 := hbr3.free 3
      go_wp2_with fail
      obtain ⟨h1, h3⟩ := HKEY.out _ (show Turn [w.heap.size + 1] w3 ((((w3.setCell ⟨w.heap.size + 1, 0, none⟩ (.slice q0 m.fInodes.length p0)).setCell ⟨w.heap.size + 1, 1, none⟩ (.slice q1 m.fNames.length p1)).setCell ⟨w.heap.size + 1, 2, none⟩ (.slice q2 m.fSafe.length p2)).setCell ⟨w.heap.size + 1, 3, none⟩ (.int .i64 m.fNext)) from turn4 _ _ _ _ _ _)
      exact bodyPost_ret (v := .agg #[.slice q0 m.fInodes.length p0, .slice q1 m.fNames.length p1, .slice q2 m.fSafe.length p2, .int .i64 m.fNext]) (by simp [results, Try.results13, go_sem, *]) rfl ⟨[.slice q0 m.fInodes.length p0, .slice q1 m.fNames.length p1, .slice q2 m.fSafe.length p2, .int .i64 m.fNext], _, rfl, by rw [HV.out]; exact h1, HNQ.out, HGQ.out, h3⟩
    · have hk0 : 0 ≤ kp := by omega
      have hknn : (kp < 0) = False := eq_false hkn
      have hDR := diskOk_iff.1 hK
      have HV : Hid (fallP m kp = { m with fNames := m.fSafe, fInodes := (keepI { m with fNames := m.fSafe }).map (cutI kp) }) := by show _ = _; unfold fallP; rw [if_pos ⟨hK, hk0⟩]
      have hwt := ok_weight hK
      have hwk : wDisk { m with fNames := m.fSafe } ≤ 1048576 := by rw [wDisk_eq]; simp only; omega
      have HWK1 : Hid (wDisk { m with fNames := m.fSafe } ≤ 16777216) := by show _ ≤ _; omega
      have HWF : Hid (wDisk { m with fNames := m.fSafe, fInodes := (keepI { m with fNames := m.fSafe }).map (cutI kp) } ≤ 1048576) := by
        show _ ≤ _
        have h1 := keepD_weight { m with fNames := m.fSafe }
        unfold keepD at h1
        rw [wDisk_eq] at h1 ⊢
        have h2 := sumW_map_le (f := cutI kp) (fun x => by unfold cutI wInode; simp; omega) (keepI { m with fNames := m.fSafe })
        simp only [List.length_map] at h1 ⊢
        omega
      have HEA : Hid (∀ x, x ∈ keepI { m with fNames := m.fSafe } → 0 ≤ x.fSure ∧ x.fSure ≤ x.fData.length ∧ x.fData.length ≤ 60000) := by
        intro x hx
        have hx' : x ∈ m.fInodes := (List.mem_filter.1 hx).1
        obtain ⟨i, hi, rfl⟩ := List.mem_iff_getElem.1 hx'
        have h1 := hDR.each _ hx'
        have h2 := sumW_le (f := wInode) hi
        have h3 : wInode m.fInodes[i] = m.fInodes[i].fData.length := rfl
        omega
      have hkl : (keepI { m with fNames := m.fSafe }).length ≤ 60 := Nat.le_trans (List.length_filter_le _ _) (by show m.fInodes.length ≤ 60; omega)
      rw [hK]
      clear hK hwt hwk hDR
      have f1 := hbd1.free 1
      go_wp2_with fail
      obtain ⟨ws, hws⟩ : ∃ ws, ws = w1.setCell ⟨w.heap.size, 1, none⟩ (.slice a2 m.fSafe.length c2) := ⟨_, rfl⟩
      have hTs : Turn [w.heap.size] w1 ws := by rw [hws]; exact Turn.setCell (Turn.refl _ _) (by simp) _
      have hbds : Bw ws w.heap.size 27 [.slice a0 m.fInodes.length c0, .slice a2 m.fSafe.length c2, .slice a2 m.fSafe.length c2, .int .i64 m.fNext] := by rw [hws]; exact hbd1.put 1 _
      rw [← hws]
      clear hws y0 y1 y2 y3 f1
      have hbrs := hbr1.turn hTs (by simp)
      have hBs : Below w.heap.size w ws := hb1.trans (hTs.below (fun k hk => by simp at hk; omega) hb1.size)
      refine (namedInodes_rowB a0 a2 a2 c0 c2 c2 { m with fNames := m.fSafe } ws w.heap.size hBs.size (HI.out.below rInode_good hBs) (LeafL.mono rEntry_good (HSF.out.below rEntry_good hBs) hBs.size) (LeafL.mono rEntry_good (HSF.out.below rEntry_good hBs) hBs.size) HWK1.out).mono ?_
      rintro e w2 ⟨ak, ck, rfl, hrow, _, hx2⟩
      obtain ⟨kl, hkl2⟩ : ∃ kl, kl = keepI { m with fNames := m.fSafe } := ⟨_, rfl⟩
      rw [← hkl2] at hrow hkl HEA HV HWF ⊢
      have HROW := Hid.mk hrow
      have hb2 := bthen hBs hx2
      have hbd2 := hbds.under hx2
      have hbr2 := hbrs.under hx2
      have hl2 := hbd2.lt
      have hl2s := hbds.lt
      have hl2r := hbrs.lt
      have y0 := hbd2.cell 0 _ rfl
      have y1 := hbd2.cell 1 _ rfl
      have y2 := hbd2.cell 2 _ rfl
      have y3 := hbd2.cell 3 _ rfl
      have f0 := hbd2.free 0
      clear hrow hkl2
      have hx2s := hx2.size
      have hBss := hBs.size
      have hcur : ∀ W, Turn [w.heap.size] w2 W → True := fun _ _ => trivial
      clear hcur
      go_wp2_with fail
      obtain ⟨wt, hwt⟩ : ∃ wt, wt = w2.setCell ⟨w.heap.size, 0, none⟩ (.slice ak kl.length ck) := ⟨_, rfl⟩
      have hTt : Turn [w.heap.size] w2 wt := by rw [hwt]; exact Turn.setCell (Turn.refl _ _) (by simp) _
      have hbdt : Bw wt w.heap.size 27 [.slice ak kl.length ck, .slice a2 m.fSafe.length c2, .slice a2 m.fSafe.length c2, .int .i64 m.fNext] := by rw [hwt]; exact hbd2.put 0 _
      rw [← hwt]
      clear hwt y0 y1 y2 y3 f0
      have hbrt := hbr2.turn hTt (by simp)
      have hBt : Below w.heap.size w wt := hb2.trans (hTt.below (fun k hk => by simp at hk; omega) hb2.size)
      have hrt : RowR 3 56 rInode w.heap.size wt ws.heap.size (.slice ak kl.length ck) (partMap (cutI kp) kl 0) := by
        rw [partMap_zero]
        exact RowR.turn rInode_good HROW.out hTt (fun k hk => by simp at hk; omega) hb2.size (Nat.le_refl _)
      go_loopw [26] (fun i wr => ∃ j : Nat, j ≤ kl.length ∧ i = .int .i64 j ∧ RowR 3 56 rInode w.heap.size wr ws.heap.size (.slice ak kl.length ck) (partMap (cutI kp) kl j) ∧ Below w.heap.size w wr ∧ Bw wr w.heap.size 27 [.slice ak kl.length ck, .slice a2 m.fSafe.length c2, .slice a2 m.fSafe.length c2, .int .i64 m.fNext] ∧ Bw wr (w.heap.size + 1) 27 [.slice none 0 0, .slice none 0 0, .slice none 0 0, .int .i64 0]) (fun i _ => kl.length - (intOf i).toNat)
      case atStart => exact ⟨0, Nat.zero_le _, rfl, hrt, hBt, hbdt, hbrt⟩
      case round =>
        obtain ⟨j, hj, rfl, hrow, hbk, hbdk, hbrk⟩ := hrel
        have HRow := Hid.mk hrow
        have HBD := Hid.mk hbdk
        have HBR := Hid.mk hbrk
        have hlx := hbdk.lt
        have hly := hbrk.lt
        clear hrow hbdk hbrk hrt hBt hbdt hbrt HROW
        by_cases hlt : j < kl.length
        · have hpl := partMap_length (cutI kp) kl hj
          obtain ⟨g, cap, cs, hv, hgb, hgl, hcl, hrI, hcell, hfree⟩ := HRow.out.at (j := j) (by rw [hpl]; exact hlt)
          rw [partMap_at _ _ hlt] at hrI
          rw [hpl] at hv
          simp only [Value.slice.injEq, true_and] at hv
          obtain ⟨rfl, rfl⟩ := hv
          have hxe := HEA.out kl[j] (List.getElem_mem hlt)
          obtain ⟨x, hx⟩ : ∃ x, kl[j] = x := ⟨_, rfl⟩
          rw [hx] at hrI hxe
          have HX : Hid (kl[j] = x) := hx
          clear hx
          obtain ⟨ad, cd, rfl, hid, hda, hsu, _⟩ := hrI
          obtain ⟨hx1, hx2, hx3⟩ := hxe
          have k0 := hcell 0 _ rfl
          have k1 := hcell 1 _ rfl
          have k2 := hcell 2 _ rfl
          rw [Nat.add_zero] at k0
          have HFR := Hid.mk hfree
          have HDA := Hid.mk hda
          have HPL := Hid.mk hpl
          obtain ⟨dn, hdn⟩ : ∃ dn, x.fData.length = dn := ⟨_, rfl⟩
          have HDN := Hid.mk hdn
          rw [hdn] at k1 hx2 hx3
          obtain ⟨nl, hnl⟩ : ∃ nl : Nat, (nl : Int) = x.fSure + min kp (dn - x.fSure) := ⟨(x.fSure + min kp (dn - x.fSure)).toNat, by omega⟩
          have hnl2 : nl ≤ dn := by omega
          have HNL := Hid.mk hnl
          have hcd : dn ≤ cd := by have := hda.1; omega
          have hcd2 : cd ≤ 9223372036854775807 := hda.2.1
          clear hcell hfree hda hpl hcl hdn
          by_cases hmn : kp ≤ dn - x.fSure
          · have hnl3 : x.fSure + kp = (nl : Int) := by omega
            clear hnl
            go_wp2_with fail
            obtain ⟨wi, hwi⟩ : ∃ wi, wi = wr.alloc (.cells #[.int .i64 x.fId, .slice ad dn cd, .int .i64 x.fSure] 56) := ⟨_, rfl⟩
            have hbi : Below wr.heap.size wr wi := by rw [hwi]; exact (Below.refl _ _).alloc (Nat.le_refl _) _
            have hbn : Bw wi wr.heap.size 56 [.int .i64 x.fId, .slice ad dn cd, .int .i64 x.fSure] := by rw [hwi]; exact Bw.new _ _ _
            rw [← hwi]
            clear hwi
            have hbk0 := hbk.size
            have hgi : g < wi.heap.size := Nat.lt_of_lt_of_le hgl hbi.size
            have q0 := (hbi.cell (p := ⟨g, j * 3, none⟩) hgl).trans k0
            have q1 := (hbi.cell (p := ⟨g, j * 3 + 1, none⟩) hgl).trans k1
            have q2 := (hbi.cell (p := ⟨g, j * 3 + 2, none⟩) hgl).trans k2
            have r0 := (hbi.frozen (p := ⟨g, j * 3, none⟩) hgl).trans (HFR.out _)
            have r1 := (hbi.frozen (p := ⟨g, j * 3 + 1, none⟩) hgl).trans (HFR.out _)
            have r2 := (hbi.frozen (p := ⟨g, j * 3 + 2, none⟩) hgl).trans (HFR.out _)
            have z0 := (HBD.out.under hbi).cell 0 _ rfl
            have n0 := hbn.cell 0 _ rfl
            have n1 := hbn.cell 1 _ rfl
            have hnlc : (nl : Int) ≤ (cd : Int) := by omega
            have hnl0 : (0 : Int) ≤ (nl : Int) := by omega
            have hgw : g ≠ w.heap.size := by omega
            have hgr : g ≠ wr.heap.size := by omega
            clear k0 k1 k2
            refine wp_region_held_drew (S := fun W => W.cell? ⟨w.heap.size, 0, none⟩ = some (.slice (some ⟨g, 0, none⟩) kl.length ck) ∧ W.cell? ⟨wr.heap.size, 0, none⟩ = some (.int .i64 x.fId) ∧ W.cell? ⟨wr.heap.size, 1, none⟩ = some (.slice ad dn cd)) (by kernel_rfl) (⟨z0, n0, n1⟩) (fun hHeld => ?_)
            refine tk 0 q4f8_13_9_0 (some 42) (v := ?v1) rfl rfl (by kernel_rfl) hHeld (by rfl) (fun _ _ _ x => x) (fun w h => ?y1) ?_; (case y1 => (try dsimp only at h); go_simp; try (with_reducible rfl)); try simp only [Act.put, sa, s0, s1]
            refine tk 1 q4f8_13_9_1 (some 43) (v := ?v2) rfl rfl (by kernel_rfl) hHeld (by rfl) (fun _ _ _ x => x) (fun w h => ?y2) ?_; (case y2 => (try dsimp only at h); go_simp; try (with_reducible rfl)); try simp only [Act.put, sa, s0, s1]
            refine tk 2 q4f8_13_9_2 (some 44) (v := ?v3) rfl rfl (by kernel_rfl) hHeld (by rfl) (fun _ _ _ x => x) (fun w h => ?y3) ?_; (case y3 => (try dsimp only at h); go_simp; try (with_reducible rfl)); try simp only [Act.put, sa, s0, s1]
            refine tk 3 q4f8_13_9_3 (some 45) (v := ?v4) rfl rfl (by kernel_rfl) hHeld (by rfl) (fun _ _ _ x => x) (fun w h => ?y4) ?_; (case y4 => (try dsimp only at h); go_simp; try (with_reducible rfl)); try simp only [Act.put, sa, s0, s1]
            refine tk 4 q4f8_13_9_4 (some 46) (v := ?v5) rfl rfl (by kernel_rfl) hHeld (by rfl) (fun _ _ _ x => x) (fun w h => ?y5) ?_; (case y5 => (try dsimp only at h); go_simp; try (with_reducible rfl)); try simp only [Act.put, sa, s0, s1]
            refine tk 5 q4f8_13_9_5 (some 47) (v := ?v6) rfl rfl (by kernel_rfl) hHeld (by rfl) (fun _ _ _ x => x) (fun w h => ?y6) ?_; (case y6 => (try dsimp only at h); go_simp; try (with_reducible rfl)); try simp only [Act.put, sa, s0, s1]
            refine tk 6 q4f8_13_9_6 (some 48) (v := ?v7) rfl rfl (by kernel_rfl) hHeld (by rfl) (fun _ _ _ x => x) (fun w h => ?y7) ?_; (case y7 => (try dsimp only at h); go_simp; try (with_reducible rfl)); try simp only [Act.put, sa, s0, s1]
            refine tk 7 q4f8_13_9_7 (some 49) (v := ?v8) rfl rfl (by kernel_rfl) hHeld (by rfl) (fun _ _ _ x => x) (fun w h => ?y8) ?_; (case y8 => (try dsimp only at h); go_simp; try (with_reducible rfl)); try simp only [Act.put, sa, s0, s1]
            refine tk 8 q4f8_13_9_8 (some 50) (v := ?v9) rfl rfl (by kernel_rfl) hHeld (by rfl) (fun _ _ _ x => x) (fun w h => ?y9) ?_; (case y9 => (try dsimp only at h); go_simp; try (with_reducible rfl)); try simp only [Act.put, sa, s0, s1]
            refine tk 9 q4f8_13_9_9 (some 51) (v := ?v10) rfl rfl (by kernel_rfl) hHeld (by rfl) (fun _ _ _ x => x) (fun w h => ?y10) ?_; (case y10 => (try dsimp only at h); go_simp; try (with_reducible rfl)); try simp only [Act.put, sa, s0, s1]
            refine tk 10 q4f8_13_9_10 (some 52) (v := ?v11) rfl rfl (by kernel_rfl) hHeld (by rfl) (fun _ _ _ x => x) (fun w h => ?y11) ?_; (case y11 => (try dsimp only at h); go_simp; try (with_reducible rfl)); try simp only [Act.put, sa, s0, s1]
            refine tk 11 q4f8_13_9_11 (some 53) (v := ?v12) rfl rfl (by kernel_rfl) hHeld (by rfl) (fun _ _ _ x => x) (fun w h => ?y12) ?_; (case y12 => (try dsimp only at h); go_simp; try (with_reducible rfl)); try simp only [Act.put, sa, s0, s1]
            refine wpAnyH_ready (rs := [12]) (by kernel_rfl) (by simp) ?_
            refine AllReadyH.cons (o := q4f8_13_9_12) rfl (fun K hK => ?_) AllReadyH.nil
            go_simp
            have HT3 : Hid (Turn [g] wi (((wi.setCell ⟨g, j * 3, none⟩ (.int .i64 x.fId)).setCell ⟨g, j * 3 + 1, none⟩ (.slice ad nl cd)).setCell ⟨g, j * 3 + 2, none⟩ (.int .i64 nl)).drew) := Turn.drew (Turn.setCell (Turn.setCell (Turn.setCell (Turn.refl _ _) (by simp) _) (by simp) _) (by simp) _)
            have hlw := hbn.lt
            go_simp
            refine hK.out _ _ (⟨(HT3.out.cell (p := ⟨w.heap.size, 0, none⟩) (by simp; omega) (by simp; omega)).trans z0, (HT3.out.cell (p := ⟨wr.heap.size, 0, none⟩) (by simp; omega) (by simp; omega)).trans n0, (HT3.out.cell (p := ⟨wr.heap.size, 1, none⟩) (by simp; omega) (by simp; omega)).trans n1⟩) (fun hHeld => ?_)
            clear hK K
            try simp only [Act.put, sa, s0, s1]
            refine wpAnyH_done (by kernel_rfl) ?_ _
            obtain ⟨w3, hw3⟩ : ∃ w3, w3 = (((wi.setCell ⟨g, j * 3, none⟩ (.int .i64 x.fId)).setCell ⟨g, j * 3 + 1, none⟩ (.slice ad nl cd)).setCell ⟨g, j * 3 + 2, none⟩ (.int .i64 nl)).drew := ⟨_, rfl⟩
            have hcut : cutI kp x = { x with fData := x.fData.take nl, fSure := (nl : Int) } := by unfold cutI; rw [HDN.out, ← HNL.out, Int.toNat_natCast]
            have hri : RowR 3 56 rInode w.heap.size wi ws.heap.size (.slice (some ⟨g, 0, none⟩) (partMap (cutI kp) kl j).length ck) (partMap (cutI kp) kl j) := by rw [HPL.out]; exact RowR.keep rInode_good HRow.out hbi hbk0
            have htl : (x.fData.take nl).length = nl := by rw [List.length_take, HDN.out]; omega
            have hmR : rInode w.heap.size wi [.int .i64 x.fId, .slice ad nl cd, .int .i64 nl] (cutI kp x) := by
              rw [hcut]
              refine ⟨ad, cd, ?_, hid, LeafB.take (HDA.out.below (hbi.mono hbk0)) nl, ?_, trivial⟩
              · simp only [htl]
              · show (Lit.int .i64 (nl : Int)).wf = true
                exact WalkArith.wf_i64 (by omega)
            obtain ⟨p1, p2, p3⟩ := RowR.put rInode_good hri hBss (Nat.le_trans hbk0 hbi.size) (j := j) (by rw [HPL.out]; exact hlt) rfl hmR
            have e1 : (partMap (cutI kp) kl j).set j (cutI kp x) = partMap (cutI kp) kl (j + 1) := by rw [← HX.out]; exact partMap_succ _ _ hlt
            rw [e1, HPL.out] at p1
            have hT3 : Turn [g] wi w3 := by rw [hw3]; exact HT3.out
            have hR3 : RowR 3 56 rInode w.heap.size w3 ws.heap.size (.slice (some ⟨g, 0, none⟩) kl.length ck) (partMap (cutI kp) kl (j + 1)) := by
              rw [hw3]
              exact RowR.keep rInode_good p1 (Below.drew (Below.refl _ _)) (by have := p2.size; have := hbi.size; omega)
            have HR3 := Hid.mk hR3
            have hB3 : Below w.heap.size w w3 := (bthen hbk hbi).trans (hT3.below (fun k hk => by simp at hk; omega) (bthen hbk hbi).size)
            have hbd3 := (HBD.out.under hbi).turn hT3 (by simp; omega)
            have hbr3 := (HBR.out.under hbi).turn hT3 (by simp; omega)
            have hlw3 : wr.heap.size < w3.heap.size := Nat.lt_of_lt_of_le hbn.lt hT3.size
            rw [← hw3]
            clear hw3 hT3 hR3 p1 p2 hri hmR hHeld q0 q1 q2 r0 r1 r2 z0 n0 n1 e1
            go_wp2_with fail
            go_roundw
            case rel => exact ⟨j + 1, by omega, by go_num, HR3.out, hB3, hbd3, hbr3⟩
            case measure => simp [intOf]; omega
          · have hnl3 : x.fSure + ((dn : Int) - x.fSure) = (nl : Int) := by omega
            have hmn2 : (dn - x.fSure : Int) ≤ kp := by omega
            clear hnl
            go_wp2_with fail
            obtain ⟨wi, hwi⟩ : ∃ wi, wi = wr.alloc (.cells #[.int .i64 x.fId, .slice ad dn cd, .int .i64 x.fSure] 56) := ⟨_, rfl⟩
            have hbi : Below wr.heap.size wr wi := by rw [hwi]; exact (Below.refl _ _).alloc (Nat.le_refl _) _
            have hbn : Bw wi wr.heap.size 56 [.int .i64 x.fId, .slice ad dn cd, .int .i64 x.fSure] := by rw [hwi]; exact Bw.new _ _ _
            rw [← hwi]
            clear hwi
            have hbk0 := hbk.size
            have hgi : g < wi.heap.size := Nat.lt_of_lt_of_le hgl hbi.size
            have q0 := (hbi.cell (p := ⟨g, j * 3, none⟩) hgl).trans k0
            have q1 := (hbi.cell (p := ⟨g, j * 3 + 1, none⟩) hgl).trans k1
            have q2 := (hbi.cell (p := ⟨g, j * 3 + 2, none⟩) hgl).trans k2
            have r0 := (hbi.frozen (p := ⟨g, j * 3, none⟩) hgl).trans (HFR.out _)
            have r1 := (hbi.frozen (p := ⟨g, j * 3 + 1, none⟩) hgl).trans (HFR.out _)
            have r2 := (hbi.frozen (p := ⟨g, j * 3 + 2, none⟩) hgl).trans (HFR.out _)
            have z0 := (HBD.out.under hbi).cell 0 _ rfl
            have n0 := hbn.cell 0 _ rfl
            have n1 := hbn.cell 1 _ rfl
            have hnlc : (nl : Int) ≤ (cd : Int) := by omega
            have hnl0 : (0 : Int) ≤ (nl : Int) := by omega
            have hgw : g ≠ w.heap.size := by omega
            have hgr : g ≠ wr.heap.size := by omega
            clear k0 k1 k2
            refine wp_region_held_drew (S := fun W => W.cell? ⟨w.heap.size, 0, none⟩ = some (.slice (some ⟨g, 0, none⟩) kl.length ck) ∧ W.cell? ⟨wr.heap.size, 0, none⟩ = some (.int .i64 x.fId) ∧ W.cell? ⟨wr.heap.size, 1, none⟩ = some (.slice ad dn cd)) (by kernel_rfl) (⟨z0, n0, n1⟩) (fun hHeld => ?_)
            refine tk 0 q4f8_13_9_0 (some 42) (v := ?v13) rfl rfl (by kernel_rfl) hHeld (by rfl) (fun _ _ _ x => x) (fun w h => ?y13) ?_; (case y13 => (try dsimp only at h); go_simp; try (with_reducible rfl)); try simp only [Act.put, sa, s0, s1]
            refine tk 1 q4f8_13_9_1 (some 43) (v := ?v14) rfl rfl (by kernel_rfl) hHeld (by rfl) (fun _ _ _ x => x) (fun w h => ?y14) ?_; (case y14 => (try dsimp only at h); go_simp; try (with_reducible rfl)); try simp only [Act.put, sa, s0, s1]
            refine tk 2 q4f8_13_9_2 (some 44) (v := ?v15) rfl rfl (by kernel_rfl) hHeld (by rfl) (fun _ _ _ x => x) (fun w h => ?y15) ?_; (case y15 => (try dsimp only at h); go_simp; try (with_reducible rfl)); try simp only [Act.put, sa, s0, s1]
            refine tk 3 q4f8_13_9_3 (some 45) (v := ?v16) rfl rfl (by kernel_rfl) hHeld (by rfl) (fun _ _ _ x => x) (fun w h => ?y16) ?_; (case y16 => (try dsimp only at h); go_simp; try (with_reducible rfl)); try simp only [Act.put, sa, s0, s1]
            refine tk 4 q4f8_13_9_4 (some 46) (v := ?v17) rfl rfl (by kernel_rfl) hHeld (by rfl) (fun _ _ _ x => x) (fun w h => ?y17) ?_; (case y17 => (try dsimp only at h); go_simp; try (with_reducible rfl)); try simp only [Act.put, sa, s0, s1]
            refine tk 5 q4f8_13_9_5 (some 47) (v := ?v18) rfl rfl (by kernel_rfl) hHeld (by rfl) (fun _ _ _ x => x) (fun w h => ?y18) ?_; (case y18 => (try dsimp only at h); go_simp; try (with_reducible rfl)); try simp only [Act.put, sa, s0, s1]
            refine tk 6 q4f8_13_9_6 (some 48) (v := ?v19) rfl rfl (by kernel_rfl) hHeld (by rfl) (fun _ _ _ x => x) (fun w h => ?y19) ?_; (case y19 => (try dsimp only at h); go_simp; try (with_reducible rfl)); try simp only [Act.put, sa, s0, s1]
            refine tk 7 q4f8_13_9_7 (some 49) (v := ?v20) rfl rfl (by kernel_rfl) hHeld (by rfl) (fun _ _ _ x => x) (fun w h => ?y20) ?_; (case y20 => (try dsimp only at h); go_simp; try (with_reducible rfl)); try simp only [Act.put, sa, s0, s1]
            refine tk 8 q4f8_13_9_8 (some 50) (v := ?v21) rfl rfl (by kernel_rfl) hHeld (by rfl) (fun _ _ _ x => x) (fun w h => ?y21) ?_; (case y21 => (try dsimp only at h); go_simp; try (with_reducible rfl)); try simp only [Act.put, sa, s0, s1]
            refine tk 9 q4f8_13_9_9 (some 51) (v := ?v22) rfl rfl (by kernel_rfl) hHeld (by rfl) (fun _ _ _ x => x) (fun w h => ?y22) ?_; (case y22 => (try dsimp only at h); go_simp; try (with_reducible rfl)); try simp only [Act.put, sa, s0, s1]
            refine tk 10 q4f8_13_9_10 (some 52) (v := ?v23) rfl rfl (by kernel_rfl) hHeld (by rfl) (fun _ _ _ x => x) (fun w h => ?y23) ?_; (case y23 => (try dsimp only at h); go_simp; try (with_reducible rfl)); try simp only [Act.put, sa, s0, s1]
            refine tk 11 q4f8_13_9_11 (some 53) (v := ?v24) rfl rfl (by kernel_rfl) hHeld (by rfl) (fun _ _ _ x => x) (fun w h => ?y24) ?_; (case y24 => (try dsimp only at h); go_simp; try (with_reducible rfl)); try simp only [Act.put, sa, s0, s1]
            refine wpAnyH_ready (rs := [12]) (by kernel_rfl) (by simp) ?_
            refine AllReadyH.cons (o := q4f8_13_9_12) rfl (fun K hK => ?_) AllReadyH.nil
            go_simp
            have HT3 : Hid (Turn [g] wi (((wi.setCell ⟨g, j * 3, none⟩ (.int .i64 x.fId)).setCell ⟨g, j * 3 + 1, none⟩ (.slice ad nl cd)).setCell ⟨g, j * 3 + 2, none⟩ (.int .i64 nl)).drew) := Turn.drew (Turn.setCell (Turn.setCell (Turn.setCell (Turn.refl _ _) (by simp) _) (by simp) _) (by simp) _)
            have hlw := hbn.lt
            go_simp
            refine hK.out _ _ (⟨(HT3.out.cell (p := ⟨w.heap.size, 0, none⟩) (by simp; omega) (by simp; omega)).trans z0, (HT3.out.cell (p := ⟨wr.heap.size, 0, none⟩) (by simp; omega) (by simp; omega)).trans n0, (HT3.out.cell (p := ⟨wr.heap.size, 1, none⟩) (by simp; omega) (by simp; omega)).trans n1⟩) (fun hHeld => ?_)
            clear hK K
            try simp only [Act.put, sa, s0, s1]
            refine wpAnyH_done (by kernel_rfl) ?_ _
            obtain ⟨w3, hw3⟩ : ∃ w3, w3 = (((wi.setCell ⟨g, j * 3, none⟩ (.int .i64 x.fId)).setCell ⟨g, j * 3 + 1, none⟩ (.slice ad nl cd)).setCell ⟨g, j * 3 + 2, none⟩ (.int .i64 nl)).drew := ⟨_, rfl⟩
            have hcut : cutI kp x = { x with fData := x.fData.take nl, fSure := (nl : Int) } := by unfold cutI; rw [HDN.out, ← HNL.out, Int.toNat_natCast]
            have hri : RowR 3 56 rInode w.heap.size wi ws.heap.size (.slice (some ⟨g, 0, none⟩) (partMap (cutI kp) kl j).length ck) (partMap (cutI kp) kl j) := by rw [HPL.out]; exact RowR.keep rInode_good HRow.out hbi hbk0
            have htl : (x.fData.take nl).length = nl := by rw [List.length_take, HDN.out]; omega
            have hmR : rInode w.heap.size wi [.int .i64 x.fId, .slice ad nl cd, .int .i64 nl] (cutI kp x) := by
              rw [hcut]
              refine ⟨ad, cd, ?_, hid, LeafB.take (HDA.out.below (hbi.mono hbk0)) nl, ?_, trivial⟩
              · simp only [htl]
              · show (Lit.int .i64 (nl : Int)).wf = true
                exact WalkArith.wf_i64 (by omega)
            obtain ⟨p1, p2, p3⟩ := RowR.put rInode_good hri hBss (Nat.le_trans hbk0 hbi.size) (j := j) (by rw [HPL.out]; exact hlt) rfl hmR
            have e1 : (partMap (cutI kp) kl j).set j (cutI kp x) = partMap (cutI kp) kl (j + 1) := by rw [← HX.out]; exact partMap_succ _ _ hlt
            rw [e1, HPL.out] at p1
            have hT3 : Turn [g] wi w3 := by rw [hw3]; exact HT3.out
            have hR3 : RowR 3 56 rInode w.heap.size w3 ws.heap.size (.slice (some ⟨g, 0, none⟩) kl.length ck) (partMap (cutI kp) kl (j + 1)) := by
              rw [hw3]
              exact RowR.keep rInode_good p1 (Below.drew (Below.refl _ _)) (by have := p2.size; have := hbi.size; omega)
            have HR3 := Hid.mk hR3
            have hB3 : Below w.heap.size w w3 := (bthen hbk hbi).trans (hT3.below (fun k hk => by simp at hk; omega) (bthen hbk hbi).size)
            have hbd3 := (HBD.out.under hbi).turn hT3 (by simp; omega)
            have hbr3 := (HBR.out.under hbi).turn hT3 (by simp; omega)
            have hlw3 : wr.heap.size < w3.heap.size := Nat.lt_of_lt_of_le hbn.lt hT3.size
            rw [← hw3]
            clear hw3 hT3 hR3 p1 p2 hri hmR hHeld q0 q1 q2 r0 r1 r2 z0 n0 n1 e1
            go_wp2_with fail
            go_roundw
            case rel => exact ⟨j + 1, by omega, by go_num, HR3.out, hB3, hbd3, hbr3⟩
            case measure => simp [intOf]; omega
        · have hjn : j = kl.length := by omega
          subst hjn
          have hrow := HRow.out
          rw [partMap_all] at hrow
          obtain ⟨ar, cr, hv, hlf⟩ := hrow.leaf rInode_good hbk.size
          rw [List.length_map] at hv
          simp only [Value.slice.injEq, true_and] at hv
          obtain ⟨rfl, rfl⟩ := hv
          have hrk : rDisk wr.heap.size wr [.slice ak kl.length ck, .slice a2 m.fSafe.length c2, .slice a2 m.fSafe.length c2, .int .i64 m.fNext] { m with fNames := m.fSafe, fInodes := kl.map (cutI kp) } := ⟨ak, ck, a2, c2, a2, c2, by simp, hlf, LeafL.mono rEntry_good (HSF.out.below rEntry_good hbk) hbk.size, LeafL.mono rEntry_good (HSF.out.below rEntry_good hbk) hbk.size, hnx, trivial⟩
          have HRK := Hid.mk hrk
          clear hrow hlf hrk
          obtain ⟨fd, hfd⟩ : ∃ fd, fd = { m with fNames := m.fSafe, fInodes := kl.map (cutI kp) } := ⟨_, rfl⟩
          rw [← hfd] at HRK HWF HV
          clear hfd
          have y0 := HBD.out.cell 0 _ rfl
          have y1 := HBD.out.cell 1 _ rfl
          have y2 := HBD.out.cell 2 _ rfl
          have y3 := HBD.out.cell 3 _ rfl
          go_wp2_with fail
          refine (copyDisk_any _ (fd) wr HRK.out HWF.out).mono ?_
          rintro e w3 ⟨cs3, F3, rfl, ho3, hN3, hge3, hx3⟩
          have hb3 := bthen hbk hx3
          have hbr3 := HBR.out.under hx3
          have hl3 := hbr3.lt
          have hz3 := hbk.size
          have hlq3 := HBR.out.lt
          obtain ⟨q0, p0, q1, p1, q2, p2, G0, G1, G2, rfl, _, _, _, _, rfl⟩ := oDisk_cells ho3
          have hkey : ∀ W', Turn [w.heap.size + 1] w3 W' → oDisk W' [.slice q0 (fd).fInodes.length p0, .slice q1 (fd).fNames.length p1, .slice q2 (fd).fSafe.length p2, .int .i64 (fd).fNext] (fd) (G0 ++ G1 ++ G2 ++ []) ∧ Below w.heap.size w W' := fun W' hT =>
            ⟨oDisk_good.frame ho3 (fun b hb => hT.block b (oDisk_good.lt ho3 b hb) (fun h => by simp at h; have := hge3 b hb; omega)), hb3.trans (hT.below (fun k hk => by simp at hk; omega) hb3.size)⟩
          have HKEY := Hid.mk hkey
          have HNQ := Hid.mk hN3
          have HGQ : Hid (∀ b, b ∈ G0 ++ G1 ++ G2 ++ [] → w.heap.size ≤ b) := fun b hb => by have := hge3 b hb; omega
          clear hkey ho3 hN3 hge3 y0 y1 y2 y3
          have ze0 := hbr3.cell 0 _ rfl
          have ze1 := hbr3.cell 1 _ rfl
          have ze2 := hbr3.cell 2 _ rfl
          have ze3 := hbr3.cell 3 _ rfl
          have zf0 := hbr3.free 0
          have zf1 := hbr3.free 1
          have zf2 := hbr3.free 2
          have zf3 := hbr3.free 3
          go_wp2_with fail
          obtain ⟨h1, h3⟩ := HKEY.out _ (show Turn [w.heap.size + 1] w3 ((((w3.setCell ⟨w.heap.size + 1, 0, none⟩ (.slice q0 (fd).fInodes.length p0)).setCell ⟨w.heap.size + 1, 1, none⟩ (.slice q1 (fd).fNames.length p1)).setCell ⟨w.heap.size + 1, 2, none⟩ (.slice q2 (fd).fSafe.length p2)).setCell ⟨w.heap.size + 1, 3, none⟩ (.int .i64 (fd).fNext)) from turn4 _ _ _ _ _ _)
          exact bodyPost_ret (v := .agg #[.slice q0 (fd).fInodes.length p0, .slice q1 (fd).fNames.length p1, .slice q2 (fd).fSafe.length p2, .int .i64 (fd).fNext]) (by simp [results, Try.results13, go_sem, *]) rfl ⟨[.slice q0 (fd).fInodes.length p0, .slice q1 (fd).fNames.length p1, .slice q2 (fd).fSafe.length p2, .int .i64 (fd).fNext], _, rfl, by rw [HV.out]; exact h1, HNQ.out, HGQ.out, h3⟩
  · have HV : Hid (fallP m kp = m) := by show _ = _; unfold fallP; rw [if_neg (by intro h; exact hK h.1)]
    have hK2 : diskOk m = false := Bool.eq_false_iff.2 hK
    rw [hK2]
    clear hK hK2
    go_wp2_with fail
    refine (copyDisk_any _ (m) w1 (rDisk_good.mono (rDisk_good.below HR.out hb1) hb1.size) HW.out).mono ?_
    rintro e w3 ⟨cs3, F3, rfl, ho3, hN3, hge3, hx3⟩
    have hb3 := bthen hb1 hx3
    have hbr3 := hbr1.under hx3
    have hl3 := hbr3.lt
    have hz3 := hb1.size
    have hlq3 := hbr1.lt
    obtain ⟨q0, p0, q1, p1, q2, p2, G0, G1, G2, rfl, _, _, _, _, rfl⟩ := oDisk_cells ho3
    have hkey : ∀ W', Turn [w.heap.size + 1] w3 W' → oDisk W' [.slice q0 m.fInodes.length p0, .slice q1 m.fNames.length p1, .slice q2 m.fSafe.length p2, .int .i64 m.fNext] (m) (G0 ++ G1 ++ G2 ++ []) ∧ Below w.heap.size w W' := fun W' hT =>
      ⟨oDisk_good.frame ho3 (fun b hb => hT.block b (oDisk_good.lt ho3 b hb) (fun h => by simp at h; have := hge3 b hb; omega)), hb3.trans (hT.below (fun k hk => by simp at hk; omega) hb3.size)⟩
    have HKEY := Hid.mk hkey
    have HNQ := Hid.mk hN3
    have HGQ : Hid (∀ b, b ∈ G0 ++ G1 ++ G2 ++ [] → w.heap.size ≤ b) := fun b hb => by have := hge3 b hb; omega
    clear hkey ho3 hN3 hge3 y0 y1 y2 y3
    have ze0 := hbr3.cell 0 _ rfl
    have ze1 := hbr3.cell 1 _ rfl
    have ze2 := hbr3.cell 2 _ rfl
    have ze3 := hbr3.cell 3 _ rfl
    have zf0 := hbr3.free 0
    have zf1 := hbr3.free 1
    have zf2 := hbr3.free 2
    have zf3 := hbr3.free 3
    go_wp2_with fail
    obtain ⟨h1, h3⟩ := HKEY.out _ (show Turn [w.heap.size + 1] w3 ((((w3.setCell ⟨w.heap.size + 1, 0, none⟩ (.slice q0 m.fInodes.length p0)).setCell ⟨w.heap.size + 1, 1, none⟩ (.slice q1 m.fNames.length p1)).setCell ⟨w.heap.size + 1, 2, none⟩ (.slice q2 m.fSafe.length p2)).setCell ⟨w.heap.size + 1, 3, none⟩ (.int .i64 m.fNext)) from turn4 _ _ _ _ _ _)
    exact bodyPost_ret (v := .agg #[.slice q0 m.fInodes.length p0, .slice q1 m.fNames.length p1, .slice q2 m.fSafe.length p2, .int .i64 m.fNext]) (by simp [results, Try.results13, go_sem, *]) rfl ⟨[.slice q0 m.fInodes.length p0, .slice q1 m.fNames.length p1, .slice q2 m.fSafe.length p2, .int .i64 m.fNext], _, rfl, by rw [HV.out]; exact h1, HNQ.out, HGQ.out, h3⟩

end Go.Proofs.Ytmbobjhplkpfoaa
