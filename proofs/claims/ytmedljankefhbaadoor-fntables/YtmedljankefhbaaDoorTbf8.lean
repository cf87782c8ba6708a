/-
  Part 9 of the texts that the proof leans on.
-/
import Derived.Test.YtmedljankefhbaaDoorTbf6
import Derived.Test.YtmedljankefhbaaDoorTbf7
import Derived.Test.YtmedljankefhbaaDoorTbf5
import Derived.Test.YtmedljankefhbaaDoorChecked
import Derived.WalkKit
import Derived.LaidEql
import Derived.Stop.Asserts
import Derived.RowKitTokens
import Derived.Test.YtmedljankefhbaaDoorTbf0
import Derived.Test.YtmedljankefhbaaDoorTbf2
import Derived.Test.YtmedljankefhbaaDoorTbf4
import Derived.Test.YtmedljankefhbaaDoorTbf3
import Derived.Deep.RegionHeld3
import Derived.Lib.AppendZerosOnto
import Derived.RangeFuncNested
import Derived.RangeFuncCalls
import Derived.RangeFuncLeaves
import Derived.Shelf.Abstract
import Derived.Shelf.RegionOpen
import Derived.OwnWalkIn
import Derived.TacticsInMore
import Derived.LoopNIn
import Derived.LoopIn
import Derived.Maps.OwnIn
set_option linter.unusedVariables false
set_option linter.unusedSimpArgs false
set_option maxRecDepth 10000

namespace Go.Proofs.YtmedljankefhbaaDoor
open Go.RowKit Go.Maps

def lenV : Value → Nat
  | .slice _ n _ => n
  | _ => 0
theorem RdrAt.far {lo : Nat} {w w' : World} {b : Nat} {F : List Nat} {zs : List Int} {bad : Bool} (h : RdrAt lo w b zs bad) (ht : Turn F w w') (hg : ∀ k, k ∈ F → b < k) : RdrAt lo w' b zs bad := by
  obtain ⟨a, c, h1, h2, h3, h4, h5⟩ := h
  have hl := h1.lt
  refine ⟨a, c, h1.turn ht (fun hm => Nat.lt_irrefl _ (hg _ hm)), h2, h3, fun j hj => ?_, h5⟩
  obtain ⟨b1, o1, e, hB, hc⟩ := h4 j hj
  exact ⟨b1, o1, e, hB, (ht.cell (p := ⟨b1, o1 + j, none⟩) (by show b1 < _; omega) (fun hm => by have := hg _ hm; simp at this; omega)).trans hc⟩
theorem RdrAt.miss {lo : Nat} {w w' : World} {b : Nat} {F : List Nat} {zs : List Int} {bad : Bool} (h : RdrAt lo w b zs bad) (ht : Turn F w w') (hg : ∀ k, k ∈ F → (k < lo ∧ k < b) ∨ b < k) : RdrAt lo w' b zs bad := by
  obtain ⟨a, c, h1, h2, h3, h4, h5⟩ := h
  have hl := h1.lt
  refine ⟨a, c, h1.turn ht (fun hm => by have := hg _ hm; omega), h2, h3, fun j hj => ?_, h5⟩
  obtain ⟨b1, o1, e, hB, hc⟩ := h4 j hj
  have hlo := h5 b1 o1 e (by omega)
  exact ⟨b1, o1, e, hB, (ht.cell (p := ⟨b1, o1 + j, none⟩) (by show b1 < _; omega) (fun hm => by have := hg _ hm; simp at this; omega)).trans hc⟩
theorem gnS_fail (f : Nat) (l : List Int) (n p : Int) (h : (gnS f l n p).2.2 = false) : gnS f l n p = noNum := by
  induction f generalizing l n p with
  | zero => rfl
  | succ f ih =>
    cases l with
    | nil => rfl
    | cons c r =>
      simp only [gnS] at h ⊢
      by_cases hc : c < 128
      · rw [if_pos hc] at h ⊢
        by_cases hn : 1000000000 < n * 128 + c % 128
        · rw [if_pos hn]
        · rw [if_neg hn] at h; cases h
      · rw [if_neg hc] at h ⊢
        exact ih _ _ _ h
theorem getNum_fail {b : List Int} {p : Int} (h : (getNum b p).2.2 = false) : getNum b p = noNum := by
  unfold getNum at h ⊢
  split at h
  · rename_i h1; rw [if_pos h1]
  · rename_i h1
    rw [if_neg h1]
    split at h
    · rename_i h2; rw [if_pos h2]
    · rename_i h2; rw [if_neg h2]; exact gnS_fail _ _ _ _ h
theorem marks_nil (B base : Nat) (w : World) : RowR 2 49 rMark B w base (.slice none 0 0) [] :=
  ⟨[], rfl, (fun _ h => by cases h), (fun _ h => by simp at h), World.ownsRow_nil _ _ _ _⟩
theorem marks_under {B base : Nat} {w w' : World} {F : List Nat} {v : Value} {l : List (ByteArray × Int)} (h : RowR 2 49 rMark B w base v l) (ht : Turn F w w') (hF : ∀ k, k ∈ F → k < base) : RowR 2 49 rMark B w' base v l := by
  obtain ⟨css, h1, h2, h3, h4⟩ := h
  exact ⟨css, h1, h2, fun j hj hj2 => h3 j hj hj2, own_of_block h4 (fun k hk => ht.block k (h4.lt k hk).2 (fun hm => by have := hF k hm; have := (h4.lt k hk).1; omega))⟩
theorem xstep_len {zs : List Int} (h : xBad zs false = false) : (xR2 zs).length < zs.length := by
  unfold xBad at h
  obtain ⟨_, h2⟩ := badB_no h
  obtain ⟨h3, _⟩ := badB_no h2
  have h4 := getText_bd h3
  have h5 : (xR2 zs).length ≤ (xR1 zs).length := restL_len
  have h6 : (xR1 zs).length = zs.length - (getText zs 0).2.1.toNat := by unfold xR1 restL; rw [if_pos h3, List.length_drop]
  omega
/-- The marks as the program reads them, with what is left behind them. -/
def mxGo (n : Int) : Nat → List Int → Bool → List (ByteArray × Int) → List (ByteArray × Int) × List Int × Bool
  | 0, zs, bad, ms => (ms, zs, bad)
  | f + 1, zs, bad, ms => if (ms.length : Int) < n ∧ bad = false then mxGo n f (xR2 zs) (xBad zs bad) (ms ++ [(strOfNums (getText zs 0).1, xAt zs)]) else (ms, zs, bad)
def mxB (body : List Int) : List (ByteArray × Int) × List Int × Bool := mxGo (getNum body 0).1 (body.length + 2) (restL (getNum body 0).2.2 body (getNum body 0).2.1) (badB (getNum body 0).2.2 false) []
def RiPost (w : World) (zs : List Int) (pe : Addr) (e : Ending) (w' : World) : Prop :=
  Below w.heap.size w w' ∧ ((ixR zs = none ∧ ∃ s, e = .returned (.tuple #[.agg #[.slice none 0 0, .slice none 0 0, .int .i64 0], partV s pe])) ∨
    (∃ ps marks vm vf, ixR zs = some ps ∧ marks.map (fun m : ByteArray × Int => m.2) = ps ∧ e = .returned (.tuple #[.agg #[vm, vf, .int .i64 (rd4 zs (zs.length - 4))], .nilIface]) ∧ RowR 2 49 rMark w.heap.size w' w.heap.size vm marks ∧ 0 ≤ rd4 zs (zs.length - 4) ∧ rd4 zs (zs.length - 4) + 4 ≤ zs.length ∧ marks.length ≤ 1048578 ∧ ∃ af nf cf, vf = .slice af nf cf ∧ ∃ fl, mxB (unframe zs (rd4 zs (zs.length - 4))).1 = (marks, fl, false) ∧ fl.length = 8 ∧ nf = 8 ∧ nf ≤ cf ∧ Rd .u8 w'.heap.size w' af fl ∧ BytesOk fl))
theorem ixR_short {zs : List Int} (h : zs.length < 4) : ixR zs = none := by unfold ixR; rw [if_pos h]
theorem ixR_no {zs : List Int} (h : ¬ ((unframe zs (rd4 zs (zs.length - 4))).2.2 = true ∧ (unframe zs (rd4 zs (zs.length - 4))).2.1 = (zs.length : Int) - 4)) : ixR zs = none := by
  unfold ixR
  by_cases h4 : zs.length < 4
  · rw [if_pos h4]
  · rw [if_neg h4, if_neg h]
theorem ixR_yes {zs : List Int} (h4 : ¬ zs.length < 4) (h : (unframe zs (rd4 zs (zs.length - 4))).2.2 = true ∧ (unframe zs (rd4 zs (zs.length - 4))).2.1 = (zs.length : Int) - 4) : ixR zs = ixrB (unframe zs (rd4 zs (zs.length - 4))).1 := by
  unfold ixR; rw [if_neg h4, if_pos h]
theorem unframe_in {zs : List Int} {p : Int} (h : (unframe zs p).2.2 = true) : 0 ≤ p ∧ p + 4 ≤ zs.length := by
  by_cases h1 : p < 0 ∨ (zs.length : Int) - 4 < p
  · rw [unframe_out h1] at h; cases h
  · omega

set_option maxHeartbeats 8000000 in
theorem readIndex_any (a : Option Addr) (n cap : Nat) (zs : List Int) (pe : Addr) (w : World) (hx : zs.length = n) (hlen : n ≤ 1048576) (hcap : n ≤ cap) (hcm : cap ≤ 9223372036854775807) (hb : BytesOk zs) (hr : Rd .u8 w.heap.size w a zs) (ht : TabAt w) (hE : ErrAt w pe) :
    Calls Tryd.prog 38 #[.slice a n cap] w (RiPost w zs pe) := by
  obtain ⟨iM, hiM, hzM0, hzM1, hzM2⟩ := info_parts Tryd.infoMark
  have HX := Hid.mk hx
  clear hx
  obtain ⟨w1, hw1⟩ : ∃ x, x = w.alloc (.cells #[.slice none 0 0, .slice none 0 0, .int .i64 0] 80) := ⟨_, rfl⟩
  have hb1 : Below w.heap.size w w1 := by rw [hw1]; exact (Below.refl _ _).alloc (Nat.le_refl _) _
  have hbx1 : Bw w1 w.heap.size 80 [.slice none 0 0, .slice none 0 0, .int .i64 0] := by rw [hw1]; exact Bw.new' _ _ _ rfl
  have HLT1 : Hid (w.heap.size + 1 ≤ w1.heap.size) := hbx1.lt
  have HW1 := Hid.mk hw1
  clear hw1
  by_cases h4 : n < 4
  · have HN : Hid (ixR zs = none) := ixR_short (by rw [HX.out]; exact h4)
    have y0 := hbx1.cell 0 _ rfl
    have y1 := hbx1.cell 1 _ rfl
    have y2 := hbx1.cell 2 _ rfl
    have f0 := hbx1.free 0
    have f1 := hbx1.free 1
    have f2 := hbx1.free 2
    have hlw := hbx1.lt
    have hneg : (n : Int) - 4 < 0 := by omega
    go_enter Tryd.func38, Tryd.ntmps38
    go_wp2_with fail
    rw [← HW1.out]
    refine Calls.mono (noTable_any _ pe w1 (hE.below hb1)) ?_
    rintro e w1 ⟨rfl, rfl⟩
    obtain ⟨w7, hw7⟩ : ∃ x, x = ((w1.setCell ⟨w.heap.size, 0, none⟩ (.slice none 0 0)).setCell ⟨w.heap.size, 1, none⟩ (.slice none 0 0)).setCell ⟨w.heap.size, 2, none⟩ (.int .i64 0) := ⟨_, rfl⟩
    have hT7 : Turn [w.heap.size] w1 w7 := by rw [hw7]; exact (((Turn.refl _ _).setCell (by simp) _).setCell (by simp) _).setCell (by simp) _
    have hb7 : Bw w7 w.heap.size 80 [.slice none 0 0, .slice none 0 0, .int .i64 0] := by rw [hw7]; exact ((hbx1.put 0 _).put 1 _).put 2 _
    have hB7 := Turn.under hb1 hT7 (fun k hk => by simp at hk; omega)
    have HW7 := Hid.mk hw7
    clear hw7 hT7
    unfold partV errV
    go_wp2_with fail
    rw [← HW7.out]
    have q0 := hb7.cell 0 _ rfl
    have q1 := hb7.cell 1 _ rfl
    have q2 := hb7.cell 2 _ rfl
    refine bodyPost_ret (v := .tuple #[.agg #[.slice none 0 0, .slice none 0 0, .int .i64 0], partV ⟨#[108, 97, 115, 116, 32, 98, 121, 116, 101, 115]⟩ pe]) (by simp [results, Tryd.results38, go_sem, partV, errV, *]) rfl ?_
    exact ⟨hB7, .inl ⟨HN.out, _, rfl⟩⟩
  · obtain ⟨m, rfl⟩ : ∃ m, n = m + 4 := ⟨n - 4, by omega⟩
    have hrb := rd4_bd hb m
    have HZL : Hid (zs.length - 4 = m) := by show _ = _; rw [HX.out]; omega
    have HZL2 : Hid ((zs.length : Int) - 4 = m) := by show _ = _; rw [HX.out]; omega
    have HN4 : Hid (¬ zs.length < 4) := by show ¬ _; rw [HX.out]; omega
    have hr1 := (hr.below hb1).mono hb1.size
    obtain ⟨b0, o0, rfl, _, _⟩ := hr1 0 (by rw [HX.out]; omega)
    have hrs := Rd.sub hr1 (f := m) (m := 4) (by rw [HX.out]; exact Nat.le_refl _)
    have hC4 := readFour_any (some ⟨b0, o0 + m, none⟩) (cap - m) ((zs.drop m).take 4) w1 w1.heap.size (by rw [List.length_take, List.length_drop, HX.out]; omega) (fun z hz => hb z (List.mem_of_mem_drop (List.mem_of_mem_take hz))) hrs
    rw [rdN_four (by rw [HX.out]; exact Nat.le_refl _)] at hC4
    have hCu := implUnframe_any (some ⟨b0, o0, none⟩) (m + 4) cap zs (rd4 zs m) w1 HX.out (by omega) hcap hb hr1 (ht.below hb1 ht.size)
    have HUO : Hid (BytesOk (unframe zs (rd4 zs m)).1) := unframe_okB hb
    have HUL : Hid ((unframe zs (rd4 zs m)).1.length ≤ m + 4) := by have h := unframe_len zs (rd4 zs m); rw [HX.out] at h; exact h
    have HUB : Hid (¬ ((unframe zs (rd4 zs m)).2.2 = true ∧ (unframe zs (rd4 zs m)).2.1 = (m : Int)) → ixR zs = none) := fun h => ixR_no (by rw [HZL.out, HZL2.out]; exact h)
    have HUY : Hid ((unframe zs (rd4 zs m)).2.2 = true ∧ (unframe zs (rd4 zs m)).2.1 = (m : Int) → ixR zs = ixrB (unframe zs (rd4 zs m)).1) := fun h => by have h2 := ixR_yes HN4.out (by rw [HZL.out, HZL2.out]; exact h); rw [HZL.out] at h2; exact h2
    have HUI : Hid ((unframe zs (rd4 zs m)).2.2 = true → 0 ≤ rd4 zs m ∧ rd4 zs m + 4 ≤ zs.length) := unframe_in
    obtain ⟨R, hR⟩ : ∃ R, R = rd4 zs m := ⟨_, rfl⟩
    rw [← hR] at hCu HUO HUL HUB HUY HUI hC4 hrb
    have HR : Hid (rd4 zs (zs.length - 4) = R) := by show _ = _; rw [HZL.out]; exact hR.symm
    clear hR
    generalize hUU : unframe zs R = U at *
    have HUU := Hid.mk hUU
    clear hUU
    obtain ⟨body, nx, fine⟩ := U
    simp only at HUO HUL HUB HUY HUI
    have hmc : m ≤ cap := by omega
    have hmc2 : ¬ (cap = m) := by omega
    have hE1 := hE.below hb1
    clear hr hr1 hrs
    go_enter Tryd.func38, Tryd.ntmps38
    go_wp2_with fail
    rw [← HW1.out]
    refine Calls.mono (by first | exact hC4 | (have h := hC4; simpa using h)) ?_
    rintro e w1 ⟨rfl, rfl⟩
    clear hC4
    go_wp2_with fail
    refine Calls.mono hCu ?_
    rintro e w2 ⟨vb, rfl, hob, hx2⟩
    simp only at hob
    clear hCu
    have hB2 := hb1.trans (hx2.mono hb1.size)
    have hbx2 := hbx1.under hx2
    have hE2 := hE1.below hx2
    by_cases hU : fine = true ∧ nx = (m : Int)
    · obtain ⟨rfl, rfl⟩ := hU
      have HIB : Hid (ixR zs = ixrB body) := HUY.out ⟨rfl, rfl⟩
      obtain ⟨hR0, hR1⟩ := HUI.out rfl
      clear HUY HUB HUI
      obtain ⟨bl, hbl⟩ : ∃ bl, bl = body.length := ⟨_, rfl⟩
      have HBL : Hid (body.length = bl) := hbl.symm
      have hbm : bl ≤ 1048576 := by have h := HUL.out; omega
      obtain ⟨ab, cb, rfl, hcb, hrb2⟩ := own_rd rfl hob
      have hcb2 : bl ≤ cb := by omega
      have hcm3 : cb ≤ 9223372036854775807 := by
        rcases hob.2 with ⟨h, _⟩ | ⟨g, cap2, cur, e1, _, _, _, hm2, _⟩
        · simp only [Value.slice.injEq] at h; omega
        · simp only [Value.slice.injEq] at e1
          unfold maxLen at hm2
          omega
      have hlo2 : ∀ b2 o2, ab = some ⟨b2, o2, none⟩ → 0 < body.length → w.heap.size + 1 ≤ b2 := fun b2 o2 he _ => by
        rcases hob.2 with ⟨h, _⟩ | ⟨g, cap2, cur, e1, hb9, _⟩
        · simp only [Value.slice.injEq] at h; rw [he] at h; cases h.1
        · simp only [Value.slice.injEq] at e1
          rw [he] at e1
          simp only [Option.some.injEq, Addr.mk.injEq] at e1
          have hlt1 := HLT1.out
          omega
      rw [← hbl] at hob ⊢
      clear hbl HUL hcb
      obtain ⟨w3, hw3⟩ : ∃ x, x = w2.alloc (.cells #[.slice ab bl cb, .bool false] 107) := ⟨_, rfl⟩
      have hb23 : Below w2.heap.size w2 w3 := by rw [hw3]; exact (Below.refl _ _).alloc (Nat.le_refl _) _
      have hbw3 : Bw w3 w2.heap.size 107 [.slice ab bl cb, .bool false] := by rw [hw3]; exact Bw.new' _ _ _ rfl
      have hrd3 : RdrAt (w.heap.size + 1) w3 w2.heap.size body false := ⟨ab, cb, by rw [HBL.out]; exact hbw3, by rw [HBL.out]; exact hcb2, hcm3, hrb2.below hb23, hlo2⟩
      have hz3 : w2.heap.size < w3.heap.size := by rw [hw3]; simp
      have hB3 := hB2.trans (hb23.mono hB2.size)
      have hbx3 := hbx2.under hb23
      have HW3 := Hid.mk hw3
      have hw12 : w.heap.size < w2.heap.size := hbx2.lt
      clear hw3 hbw3 hrb2 hob hbx1 hbx2
      obtain ⟨G, hG⟩ : ∃ G, getNum body 0 = G := ⟨_, rfl⟩
      obtain ⟨gn, gq, gok⟩ := G
      have hCn := rdrNum_any (lo := w.heap.size + 1) w2.heap.size body false gn gq gok w3 hG hrd3 HUO.out (by rw [HBL.out]; omega)
      have HGN : Hid (0 ≤ gn ∧ gn ≤ 1000000000) := by
        have h := hG
        show _ ∧ _
        cases gok with
        | true => have h1 := getNum_bounds (b := body) (p := 0) (by rw [hG]); rw [hG] at h1; exact ⟨h1.1, h1.2.1⟩
        | false =>
          have h2 := getNum_fail (b := body) (p := 0) (by rw [hG])
          rw [hG] at h2
          simp only [noNum, Prod.mk.injEq] at h2
          omega
      have HIE : Hid (ixrB body = ixrE (ixrGo gn (bl + 2) (restL gok body gq) (badB gok false) [])) := by show _ = _; unfold ixrB; rw [hG, HBL.out]
      have HIM : Hid (mxB body = mxGo gn (bl + 2) (restL gok body gq) (badB gok false) []) := by show _ = _; unfold mxB; rw [hG, HBL.out]
      have HZ0 : Hid ((restL gok body gq).length ≤ bl) := by have := restL_len (ok := gok) (zs := body) (q := gq); rw [HBL.out] at this; exact this
      have HO0 : Hid (BytesOk (restL gok body gq)) := restL_ok HUO.out
      generalize restL gok body gq = z0 at *
      generalize badB gok false = bd0 at *
      clear hG
      go_wp2_with fail
      rw [← HW3.out]
      refine Calls.mono hCn ?_
      rintro e w4 ⟨rfl, hrd4, t4⟩
      have hB4 := Turn.under hB3 t4 (fun k hk => by simp at hk; omega)
      have hbx4 := hbx3.turn t4 (by simp; omega)
      have hs4 := t4.size
      clear hCn hrd3 hbx3 HW3 t4
      go_wp2_with fail
      go_loopw [10] (fun vM wr => ∃ (f : Nat) (zz : List Int) (bad : Bool) (marks : List (ByteArray × Int)), f + marks.length = bl + 2 ∧ (bad = false → zz.length + marks.length ≤ bl) ∧ (bad = true → marks.length ≤ bl + 1) ∧ (marks.length : Int) ≤ gn ∧ BytesOk zz ∧ zz.length ≤ 1048576 ∧ Hid (ixrB body = ixrE (ixrGo gn f zz bad (marks.map fun m => m.2))) ∧ RdrAt (w.heap.size + 1) wr w2.heap.size zz bad ∧ RowR 2 49 rMark w.heap.size wr w3.heap.size vM marks ∧ Bw wr w.heap.size 80 [.slice none 0 0, .slice none 0 0, .int .i64 0] ∧ w3.heap.size ≤ wr.heap.size ∧ Below w.heap.size w wr ∧ Hid (mxB body = mxGo gn f zz bad marks)) (fun vM _ => gn.toNat - lenV vM)
      case atStart => exact ⟨bl + 2, z0, bd0, [], rfl, fun _ => by simpa using HZ0.out, fun _ => by simp, by simpa using HGN.out.1, HO0.out, by have := HZ0.out; omega, HIE, hrd4, marks_nil _ _ _, hbx4, by omega, hB4, HIM⟩
      case round =>
        clear hrd4 hbx4 hB4 HIE HIM
        obtain ⟨f, zz, bad, marks, hf, hz1, hz2, hmg, hzo, hzm, HGO, hrd, hrow, hbx, hs, hbr, HMX⟩ := hrel
        have hgn9 := HGN.out.2
        obtain ⟨css, r1, r2, r3, r4⟩ := id hrow
        obtain ⟨aM, cM, rfl⟩ := own_slice r4
        have HRW := Hid.mk hrow
        obtain ⟨ar, cr, hbwr, hrc, hrm, hrr, _⟩ := id hrd
        have k0 := hbwr.cell 0 _ rfl
        have k1 := hbwr.cell 1 _ rfl
        have hml0 : marks.length ≤ bl + 2 := by omega
        clear hrow hbwr
        by_cases hgo : (marks.length : Int) < gn
        · cases hbad : bad with
          | true =>
            subst hbad
            have HOUT : Hid (ixrGo gn f zz true (marks.map fun m => m.2) = (marks.map (fun m => m.2), zz, true)) := by
              show _ = _
              cases f with
              | zero => rfl
              | succ f => rw [ixrGo, if_neg (by simp)]
            have HN : Hid (ixR zs = none) := by show _ = _; rw [HIB.out, HGO.out, HOUT.out]; unfold ixrE; rw [if_neg (by simp)]
            have y0 := hbx.cell 0 _ rfl
            have y1 := hbx.cell 1 _ rfl
            have y2 := hbx.cell 2 _ rfl
            have f0 := hbx.free 0
            have f1 := hbx.free 1
            have f2 := hbx.free 2
            have hlw := hbx.lt
            have hEr := hE.below hbr
            clear HIB HGO HOUT r1 r2 r3 r4
            go_wp2_with fail
            refine Calls.mono (noTable_any _ pe wr hEr) ?_
            rintro e wr ⟨rfl, rfl⟩
            obtain ⟨w7, hw7⟩ : ∃ x, x = ((wr.setCell ⟨w.heap.size, 0, none⟩ (.slice none 0 0)).setCell ⟨w.heap.size, 1, none⟩ (.slice none 0 0)).setCell ⟨w.heap.size, 2, none⟩ (.int .i64 0) := ⟨_, rfl⟩
            have hT7 : Turn [w.heap.size] wr w7 := by rw [hw7]; exact (((Turn.refl _ _).setCell (by simp) _).setCell (by simp) _).setCell (by simp) _
            have hb7 : Bw w7 w.heap.size 80 [.slice none 0 0, .slice none 0 0, .int .i64 0] := by rw [hw7]; exact ((hbx.put 0 _).put 1 _).put 2 _
            have hB7 := Turn.under hbr hT7 (fun k hk => by simp at hk; omega)
            have HW7 := Hid.mk hw7
            clear hw7 hT7
            unfold partV errV
            go_wp2_with fail
            rw [← HW7.out]
            have q0 := hb7.cell 0 _ rfl
            have q1 := hb7.cell 1 _ rfl
            have q2 := hb7.cell 2 _ rfl
            refine bodyPost_ret (v := .tuple #[.agg #[.slice none 0 0, .slice none 0 0, .int .i64 0], partV ⟨#[105, 110, 100, 101, 120]⟩ pe]) (by simp [results, Tryd.results38, go_sem, partV, errV, *]) rfl ?_
            exact ⟨hB7, .inl ⟨HN.out, _, rfl⟩⟩
          | false =>
            subst hbad
            obtain ⟨f, rfl⟩ : ∃ g, f = g + 1 := ⟨f - 1, by have := hz1 rfl; omega⟩
            have hzl := hz1 rfl
            obtain ⟨T, hT⟩ : ∃ T, getText zz 0 = T := ⟨_, rfl⟩
            obtain ⟨tt, tq, tok⟩ := T
            have e1 : xR1 zz = restL tok zz tq := by unfold xR1; rw [hT]
            obtain ⟨G2, hG2⟩ : ∃ G2, getNum (xR1 zz) 0 = G2 := ⟨_, rfl⟩
            obtain ⟨gv, gw, gk⟩ := G2
            have e2 : xR2 zz = restL gk (xR1 zz) gw := by unfold xR2; rw [hG2]
            have e3 : xBad zz false = badB gk (badB tok false) := by unfold xBad; rw [hG2, hT]
            have e4 : xAt zz = gv := by unfold xAt; rw [hG2]
            have hok1 : BytesOk (xR1 zz) := restL_ok hzo
            have hl1 : (xR1 zz).length ≤ 1048576 := Nat.le_trans restL_len hzm
            have HST : Hid (ixrB body = ixrE (ixrGo gn f (xR2 zz) (xBad zz false) ((marks ++ [(strOfNums tt, gv)]).map fun m => m.2))) := by
              show _ = _
              rw [HGO.out, ixrGo, if_pos ⟨by simpa using hgo, rfl⟩, e4]
              simp
            have HSM : Hid (mxB body = mxGo gn f (xR2 zz) (xBad zz false) (marks ++ [(strOfNums tt, gv)])) := by
              show _ = _
              rw [HMX.out, mxGo, if_pos ⟨hgo, rfl⟩, e4, hT]
            have HZB : Hid (xBad zz false = false → (xR2 zz).length + (marks.length + 1) ≤ bl) := fun h => by have := xstep_len h; omega
            have HZO : Hid (BytesOk (xR2 zz) ∧ (xR2 zz).length ≤ 1048576) := ⟨by rw [e2]; exact restL_ok hok1, by rw [e2]; exact Nat.le_trans restL_len hl1⟩
            have c1 := fun W h => rdrText_any (lo := w.heap.size + 1) w2.heap.size zz false tt tq tok W hT h hzo (by omega)
            rw [← e1] at c1
            have c2 := fun W bad h => rdrNum_any (lo := w.heap.size + 1) w2.heap.size (xR1 zz) bad gv gw gk W hG2 h hok1 (by omega)
            rw [← e2] at c2
            have HE3 : Hid (badB gk (badB tok false) = xBad zz false) := e3.symm
            clear e1 e2 e3 e4 hT hG2 HGO
            go_wp2_with fail
            refine Calls.mono (c1 wr hrd) ?_
            rintro e w5 ⟨rfl, h5, t5⟩
            clear c1
            go_wp2_with fail
            refine Calls.mono (c2 w5 _ h5) ?_
            rintro e w6 ⟨rfl, h6, t6⟩
            clear c2 h5
            rw [HE3.out] at h6
            have t56 := t5.trans t6
            have hrw6 := marks_under HRW.out t56 (fun k hk => by simp at hk; omega)
            have hbx6 := hbx.turn t56 (by simp; omega)
            have hB6 := Turn.under hbr t56 (fun k hk => by simp at hk; omega)
            have hs6 : w3.heap.size ≤ w6.heap.size := Nat.le_trans hs (t56.size)
            obtain ⟨css6, p1, p2, p3, p4⟩ := hrw6
            have HP1 := Hid.mk p1
            have HP2 := Hid.mk p2
            have HP3 := Hid.mk p3
            obtain ⟨w7, hw7⟩ : ∃ x, x = w6.alloc (.cells #[.string (strOfNums tt), .int .i64 gv] 49) := ⟨_, rfl⟩
            have hb7 : Below w6.heap.size w6 w7 := by rw [hw7]; exact (Below.refl _ _).alloc (Nat.le_refl _) _
            have hbxn : Bx w7 w6.heap.size [.string (strOfNums tt), .int .i64 gv] := by rw [hw7]; exact Bx.new _ _ _
            have hB7 := hB6.trans (hb7.mono hB6.size)
            have ho7 := own_below p4 hb7
            have hr7 := h6.under hb7
            have hbx7 := hbx6.under hb7
            have hs7 : w3.heap.size ≤ w7.heap.size := Nat.le_trans hs6 hb7.size
            have hml : marks.length ≤ 1048578 := by omega
            clear p1 p2 p3 p4 h6 hbx6 hrd r1 r2 r3 r4 hbx t5 t6 t56
            go_wp2_with (at_builtin; rw [← hw7]; refine wpList_append_own_at _ rfl _ _ 47 rfl w3.heap.size 49 iM (.agg #[.string ⟨#[]⟩, .int .i64 0]) 2 24 Tryd.underlying47 hiM hzM0 hzM1 hzM2 rfl (by decide) _ _ _ rfl ho7 ⟨w6.heap.size, 0, none⟩ 1 1 [.string (strOfNums tt), .int .i64 gv] rfl rfl (bx_news hbxn) (by intro u hu; simp at hu; rcases hu with rfl | rfl <;> rfl) (by unfold maxLen; omega) (by omega) hs7 ?_)
            intro v8 w8 ho8 hgr8 hnil8 hloc8
            try rw [← hw7] at hgr8
            have hge8 : ∀ k, (Value.slice aM marks.length cM).ownBlock = some k → w3.heap.size ≤ k := fun k h => (ho7.lt k h).1
            have ht8 := turnOwn hgr8
            have hge8' : ∀ k, k ∈ ((Value.slice aM marks.length cM).ownBlock).toList → w3.heap.size ≤ k := fun k h => hge8 k (by simpa using h)
            have HR8 := Hid.mk (hr7.far ht8 (fun k hk => by have := hge8' k hk; omega))
            have HB8 := Hid.mk (hbx7.turn ht8 (fun hm => by have := hge8' _ hm; omega))
            have hB8 := hB7.grown hgr8 hB7.size (fun k h => by have := hge8 k h; omega)
            have HRN : Hid (RowR 2 49 rMark w.heap.size w8 w3.heap.size v8 (marks ++ [(strOfNums tt, gv)])) := RowR.push rMark_good HP1.out HP2.out HP3.out ((hb7.mono (by omega)).grown hgr8 hB7.size (fun k h => by have := hge8 k h; omega)) rfl rfl ho8
            have hs8 : w3.heap.size ≤ w8.heap.size := Nat.le_trans hs7 hgr8.size
            obtain ⟨a8, c8, rfl⟩ := own_slice ho8
            clear ho8 hgr8 hloc8 hnil8 ht8 hr7 hbx7 ho7 hbxn hw7
            go_wp2_with fail
            go_roundw
            case rel => exact ⟨f, xR2 zz, xBad zz false, marks ++ [(strOfNums tt, gv)], by simp; omega, fun h => by have := HZB.out h; simp; omega, fun _ => by simp; omega, by simp; omega, HZO.out.1, HZO.out.2, HST, HR8.out, HRN.out, HB8.out, hs8, hB8, HSM⟩
            case measure => simp [lenV]; omega
        · have HOUT : Hid (ixrGo gn f zz bad (marks.map fun m => m.2) = (marks.map (fun m => m.2), zz, bad)) := by
            show _ = _
            cases f with
            | zero => rfl
            | succ f => rw [ixrGo, if_neg (by rintro ⟨h, _⟩; apply hgo; simpa using h)]
          cases bad with
          | true =>
            have HN : Hid (ixR zs = none) := by show _ = _; rw [HIB.out, HGO.out, HOUT.out]; unfold ixrE; rw [if_neg (by simp)]
            have y0 := hbx.cell 0 _ rfl
            have y1 := hbx.cell 1 _ rfl
            have y2 := hbx.cell 2 _ rfl
            have f0 := hbx.free 0
            have f1 := hbx.free 1
            have f2 := hbx.free 2
            have hlw := hbx.lt
            have hEr := hE.below hbr
            clear HIB HGO HOUT r1 r2 r3 r4
            go_wp2_with fail
            refine Calls.mono (noTable_any _ pe wr hEr) ?_
            rintro e wr ⟨rfl, rfl⟩
            obtain ⟨w7, hw7⟩ : ∃ x, x = ((wr.setCell ⟨w.heap.size, 0, none⟩ (.slice none 0 0)).setCell ⟨w.heap.size, 1, none⟩ (.slice none 0 0)).setCell ⟨w.heap.size, 2, none⟩ (.int .i64 0) := ⟨_, rfl⟩
            have hT7 : Turn [w.heap.size] wr w7 := by rw [hw7]; exact (((Turn.refl _ _).setCell (by simp) _).setCell (by simp) _).setCell (by simp) _
            have hb7 : Bw w7 w.heap.size 80 [.slice none 0 0, .slice none 0 0, .int .i64 0] := by rw [hw7]; exact ((hbx.put 0 _).put 1 _).put 2 _
            have hB7 := Turn.under hbr hT7 (fun k hk => by simp at hk; omega)
            have HW7 := Hid.mk hw7
            clear hw7 hT7
            unfold partV errV
            go_wp2_with fail
            rw [← HW7.out]
            have q0 := hb7.cell 0 _ rfl
            have q1 := hb7.cell 1 _ rfl
            have q2 := hb7.cell 2 _ rfl
            refine bodyPost_ret (v := .tuple #[.agg #[.slice none 0 0, .slice none 0 0, .int .i64 0], partV ⟨#[105, 110, 100, 101, 120]⟩ pe]) (by simp [results, Tryd.results38, go_sem, partV, errV, *]) rfl ?_
            exact ⟨hB7, .inl ⟨HN.out, _, rfl⟩⟩
          | false =>
            by_cases h8 : zz.length = 8
            · have HYM : Hid (mxB body = (marks, zz, false)) := by
                show _ = _
                rw [HMX.out]
                cases f with
                | zero => rfl
                | succ f => rw [mxGo, if_neg (by rintro ⟨h, _⟩; exact hgo h)]
              have HZK : Hid (BytesOk zz) := hzo
              have HY : Hid (ixR zs = some (marks.map fun m => m.2)) := by show _ = _; rw [HIB.out, HGO.out, HOUT.out]; unfold ixrE; rw [if_pos ⟨rfl, h8⟩]
              have h8i : (zz.length : Int) = 8 := by omega
              have y0 := hbx.cell 0 _ rfl
              have y1 := hbx.cell 1 _ rfl
              have y2 := hbx.cell 2 _ rfl
              have f0 := hbx.free 0
              have f1 := hbx.free 1
              have f2 := hbx.free 2
              have hlw := hbx.lt
              rw [h8] at k0
              obtain ⟨w7, hw7⟩ : ∃ x, x = ((wr.setCell ⟨w.heap.size, 0, none⟩ (.slice aM marks.length cM)).setCell ⟨w.heap.size, 1, none⟩ (.slice ar 8 cr)).setCell ⟨w.heap.size, 2, none⟩ (.int .i64 R) := ⟨_, rfl⟩
              have hT7 : Turn [w.heap.size] wr w7 := by rw [hw7]; exact (((Turn.refl _ _).setCell (by simp) _).setCell (by simp) _).setCell (by simp) _
              have hb7 : Bw w7 w.heap.size 80 [.slice aM marks.length cM, .slice ar 8 cr, .int .i64 R] := by rw [hw7]; exact ((hbx.put 0 _).put 1 _).put 2 _
              have hB7 := Turn.under hbr hT7 (fun k hk => by simp at hk; omega)
              have HFL : Hid (8 ≤ cr ∧ Rd .u8 w7.heap.size w7 ar zz) := by
                obtain ⟨a', c', p1, p2, p3, p4, p5⟩ := hrd.miss hT7 (fun k hk => by simp only [List.mem_singleton] at hk; omega)
                have hc := p1.cell 0 _ rfl
                have hlw2 := p1.lt
                have hk : w7.cell? ⟨w2.heap.size, 0, none⟩ = wr.cell? ⟨w2.heap.size, 0, none⟩ := hT7.cell (World.block_lt_of_cell? _ _ k0) (by simp; omega)
                rw [hk, k0] at hc
                simp only [Option.some.injEq, Value.slice.injEq] at hc
                obtain ⟨rfl, _, rfl⟩ := hc
                exact ⟨by omega, p4.mono (by omega)⟩
              have HRM := Hid.mk (marks_under HRW.out hT7 (fun k hk => by simp at hk; omega))
              have HW7 := Hid.mk hw7
              have hml : marks.length ≤ 1048578 := by omega
              clear hw7 hT7 r1 r2 r3 r4 h8i
              go_wp2_with fail
              rw [← HW7.out]
              have q0 := hb7.cell 0 _ rfl
              have q1 := hb7.cell 1 _ rfl
              have q2 := hb7.cell 2 _ rfl
              refine bodyPost_ret (v := .tuple #[.agg #[.slice aM marks.length cM, .slice ar 8 cr, .int .i64 R], .nilIface]) (by simp [results, Tryd.results38, go_sem, *]) rfl ?_
              refine ⟨hB7, .inr ⟨_, marks, _, _, HY.out, rfl, by rw [HR.out], ?_, by rw [HR.out]; exact hR0, by rw [HR.out]; exact hR1, hml, _, _, _, rfl, ?_⟩⟩
              obtain ⟨css, g1, g2, g3, g4⟩ := HRM.out
              · exact ⟨css, g1, g2, g3, own_base g4 (by omega)⟩
              · exact ⟨zz, by rw [HR.out, HUU.out]; exact HYM.out, h8, rfl, HFL.out.1, HFL.out.2, HZK.out⟩
            · have h8i : ¬ (zz.length : Int) = 8 := by omega
              have HN : Hid (ixR zs = none) := by show _ = _; rw [HIB.out, HGO.out, HOUT.out]; unfold ixrE; rw [if_neg (by rintro ⟨_, h⟩; exact h8 h)]
              have y0 := hbx.cell 0 _ rfl
              have y1 := hbx.cell 1 _ rfl
              have y2 := hbx.cell 2 _ rfl
              have f0 := hbx.free 0
              have f1 := hbx.free 1
              have f2 := hbx.free 2
              have hlw := hbx.lt
              have hEr := hE.below hbr
              clear HIB HGO HOUT r1 r2 r3 r4
              go_wp2_with fail
              refine Calls.mono (noTable_any _ pe wr hEr) ?_
              rintro e wr ⟨rfl, rfl⟩
              obtain ⟨w7, hw7⟩ : ∃ x, x = ((wr.setCell ⟨w.heap.size, 0, none⟩ (.slice none 0 0)).setCell ⟨w.heap.size, 1, none⟩ (.slice none 0 0)).setCell ⟨w.heap.size, 2, none⟩ (.int .i64 0) := ⟨_, rfl⟩
              have hT7 : Turn [w.heap.size] wr w7 := by rw [hw7]; exact (((Turn.refl _ _).setCell (by simp) _).setCell (by simp) _).setCell (by simp) _
              have hb7 : Bw w7 w.heap.size 80 [.slice none 0 0, .slice none 0 0, .int .i64 0] := by rw [hw7]; exact ((hbx.put 0 _).put 1 _).put 2 _
              have hB7 := Turn.under hbr hT7 (fun k hk => by simp at hk; omega)
              have HW7 := Hid.mk hw7
              clear hw7 hT7
              unfold partV errV
              go_wp2_with fail
              rw [← HW7.out]
              have q0 := hb7.cell 0 _ rfl
              have q1 := hb7.cell 1 _ rfl
              have q2 := hb7.cell 2 _ rfl
              refine bodyPost_ret (v := .tuple #[.agg #[.slice none 0 0, .slice none 0 0, .int .i64 0], partV ⟨#[105, 110, 100, 101, 120]⟩ pe]) (by simp [results, Tryd.results38, go_sem, partV, errV, *]) rfl ?_
              exact ⟨hB7, .inl ⟨HN.out, _, rfl⟩⟩
    · have HN : Hid (ixR zs = none) := HUB.out hU
      have y0 := hbx2.cell 0 _ rfl
      have y1 := hbx2.cell 1 _ rfl
      have y2 := hbx2.cell 2 _ rfl
      have f0 := hbx2.free 0
      have f1 := hbx2.free 1
      have f2 := hbx2.free 2
      have hlw := hbx2.lt
      clear HUY HUB HUI hob
      cases fine with
      | false =>
        go_wp2_with fail
        refine Calls.mono (noTable_any _ pe w2 hE2) ?_
        rintro e w2 ⟨rfl, rfl⟩
        obtain ⟨w7, hw7⟩ : ∃ x, x = ((w2.setCell ⟨w.heap.size, 0, none⟩ (.slice none 0 0)).setCell ⟨w.heap.size, 1, none⟩ (.slice none 0 0)).setCell ⟨w.heap.size, 2, none⟩ (.int .i64 0) := ⟨_, rfl⟩
        have hT7 : Turn [w.heap.size] w2 w7 := by rw [hw7]; exact (((Turn.refl _ _).setCell (by simp) _).setCell (by simp) _).setCell (by simp) _
        have hb7 : Bw w7 w.heap.size 80 [.slice none 0 0, .slice none 0 0, .int .i64 0] := by rw [hw7]; exact ((hbx2.put 0 _).put 1 _).put 2 _
        have hB7 := Turn.under hB2 hT7 (fun k hk => by simp at hk; omega)
        have HW7 := Hid.mk hw7
        clear hw7 hT7
        unfold partV errV
        go_wp2_with fail
        rw [← HW7.out]
        have q0 := hb7.cell 0 _ rfl
        have q1 := hb7.cell 1 _ rfl
        have q2 := hb7.cell 2 _ rfl
        refine bodyPost_ret (v := .tuple #[.agg #[.slice none 0 0, .slice none 0 0, .int .i64 0], partV ⟨#[102, 114, 97, 109, 101, 32, 111, 102, 32, 116, 104, 101, 32, 105, 110, 100, 101, 120]⟩ pe]) (by simp [results, Tryd.results38, go_sem, partV, errV, *]) rfl ?_
        exact ⟨hB7, .inl ⟨HN.out, _, rfl⟩⟩
      | true =>
        have hnx : ¬ nx = (m : Int) := fun h => hU ⟨rfl, h⟩
        clear hU
        go_wp2_with fail
        refine Calls.mono (noTable_any _ pe w2 hE2) ?_
        rintro e w2 ⟨rfl, rfl⟩
        obtain ⟨w7, hw7⟩ : ∃ x, x = ((w2.setCell ⟨w.heap.size, 0, none⟩ (.slice none 0 0)).setCell ⟨w.heap.size, 1, none⟩ (.slice none 0 0)).setCell ⟨w.heap.size, 2, none⟩ (.int .i64 0) := ⟨_, rfl⟩
        have hT7 : Turn [w.heap.size] w2 w7 := by rw [hw7]; exact (((Turn.refl _ _).setCell (by simp) _).setCell (by simp) _).setCell (by simp) _
        have hb7 : Bw w7 w.heap.size 80 [.slice none 0 0, .slice none 0 0, .int .i64 0] := by rw [hw7]; exact ((hbx2.put 0 _).put 1 _).put 2 _
        have hB7 := Turn.under hB2 hT7 (fun k hk => by simp at hk; omega)
        have HW7 := Hid.mk hw7
        clear hw7 hT7
        unfold partV errV
        go_wp2_with fail
        rw [← HW7.out]
        have q0 := hb7.cell 0 _ rfl
        have q1 := hb7.cell 1 _ rfl
        have q2 := hb7.cell 2 _ rfl
        refine bodyPost_ret (v := .tuple #[.agg #[.slice none 0 0, .slice none 0 0, .int .i64 0], partV ⟨#[102, 114, 97, 109, 101, 32, 111, 102, 32, 116, 104, 101, 32, 105, 110, 100, 101, 120]⟩ pe]) (by simp [results, Tryd.results38, go_sem, partV, errV, *]) rfl ?_
        exact ⟨hB7, .inl ⟨HN.out, _, rfl⟩⟩

end Go.Proofs.YtmedljankefhbaaDoor

namespace Go.Proofs.YtmedljankefhbaaDoor
open Go.RowKit Go.Extern.Stop Go.Stop Go.Extern

theorem Tryd.isTypeOf (v : Value) (w : World) : (Extern.ReflectliteType.typeOf #[.iface 141 v]).run Tryd.prog w = .ok (.iface 115 (.agg #[.pointer (some ⟨5, 141, none⟩)])) w := by kernel_rfl
theorem Tryd.isComparable (w : World) : ((Extern.ReflectliteType.method fun t => do Extern.Rtype.noPackHeld "Comparable" t; Functor.map (fun a => Value.bool a.comparable) (typeInfo t)) #[.agg #[.pointer (some ⟨5, 141, none⟩)]]).run Tryd.prog w = .ok (.bool true) w := by kernel_rfl
theorem Tryd.isComp : (Tryd.prog.info? 141).map (·.comparable) = some true := by kernel_rfl
theorem Tryd.isSize : (Tryd.prog.info? 164).map (·.size) = some 1 := by kernel_rfl
theorem Tryd.noIsP (v : Value) (xT : TypeId) (w : World) : (Instr.typeAssert (.iface 113 v) xT 117 true).run Tryd.prog w = .ok (.tuple #[.nilIface, .bool false]) w := run_typeAssert_lacksB Tryd.underlying117 (by kernel_rfl) (by kernel_rfl) v xT w
theorem Tryd.hasUnwrapP (v : Value) (xT : TypeId) (w : World) : (Instr.typeAssert (.iface 113 v) xT 120 true).run Tryd.prog w = .ok (.tuple #[.iface 113 v, .bool true]) w := run_typeAssert_hasB Tryd.underlying120 (by kernel_rfl) v xT w

theorem Tryd.isMethodC (v : Value) (w : World) : (Go.method 275 115 v "Comparable").run Tryd.prog w = .ok (91, v) w := by kernel_rfl
theorem Tryd.isMethodU (v : Value) (w : World) : (Go.method 275 113 v "Unwrap").run Tryd.prog w = .ok (87, v) w := by kernel_rfl

/-- errors.Is(nil, x). -/
theorem is_nil (b : Addr) (w : World) :
    Calls Tryd.prog 24 #[.nilIface, errV b] w fun e w' => e = .returned (.bool false) ∧ w' = w := by
  unfold errV
  have hn := run_eql_iface_nil_left (P := Tryd.prog) w 141 (.pointer (some b)) Tryd.underlying55
  go_enter Tryd.func24, Tryd.ntmps24
  go_wp2
  go_ret
  exact ⟨rfl, rfl⟩

/-- errors.Is(e, x), e an error of a part that wraps x. -/
theorem is_part (s : ByteArray) (b : Addr) (w : World) :
    Calls Tryd.prog 24 #[partV s b, errV b] w fun e w' => e = .returned (.bool true) ∧ Below w.heap.size w w' := by
  unfold partV errV
  obtain ⟨i, hi, hcmp⟩ := Option.map_eq_some_iff.1 Tryd.isComp
  obtain ⟨j, hj, hjs⟩ := Option.map_eq_some_iff.1 Tryd.isSize
  have h8 := @run_callFunc_extern Tryd.prog 41 _ Extern.ReflectliteType.typeOf Tryd.func41 (by kernel_rfl) (by kernel_rfl) (by kernel_rfl) (by kernel_rfl)
  have h32 := @run_callFunc_extern Tryd.prog 91 _ (Extern.ReflectliteType.method fun t => do Extern.Rtype.noPackHeld "Comparable" t; pure (.bool (← typeInfo t).comparable)) Tryd.func91 (by kernel_rfl) (by kernel_rfl) (by kernel_rfl) (by kernel_rfl)
  have tT := Tryd.isTypeOf
  have cT := Tryd.isComparable
  have nP := Tryd.noIsP
  have uP := Tryd.hasUnwrapP
  have hty := fun W => run_eql_iface_types (P := Tryd.prog) 113 141 (.agg #[.string s, .iface 141 (.pointer (some b))]) (.pointer (some b)) Tryd.underlying55 (by decide) W
  have mC := Tryd.isMethodC
  have mU := Tryd.isMethodU
  have heq := fun W => run_eql_iface_ptr_same (P := Tryd.prog) W b Tryd.underlying55 Tryd.underlying141 hi hcmp hj
  go_enter Tryd.func24, Tryd.ntmps24
  go_wp2
  refine wp_loop_rounds 2 ?_
  rw [rounds_succ]
  go_wp2
  rw [rounds_succ]
  go_wp2
  go_ret
  exact ⟨rfl, (Below.refl _ _).alloc (Nat.le_refl _) _⟩

end Go.Proofs.YtmedljankefhbaaDoor

namespace Go.Proofs.YtmedljankefhbaaDoor
open Go.RowKit Go.Maps

theorem row_below {B base : Nat} {w w' : World} {v : Value} {l : List MPair} (h : RowR 3 32 rPair B w base v l) (hb : Below w.heap.size w w') (hB : B ≤ w.heap.size) : RowR 3 32 rPair B w' base v l := by
  obtain ⟨css, h1, h2, h3, h4⟩ := h
  exact ⟨css, h1, h2, fun j hj hj2 => rPair_good.below (h3 j hj hj2) (hb.mono hB), own_below h4 hb⟩
end Go.Proofs.YtmedljankefhbaaDoor

namespace Go.Proofs.YtmedljankefhbaaDoor
open Go.RowKit

/-- The tables of utf8 and that of the sum are as laid. -/
def Tabs2 (w : World) : Prop := Tabs w ∧ TabAt w
theorem Tabs2.size {w : World} (h : Tabs2 w) : 0 < w.heap.size := h.2.size
theorem Tabs2.below {w w' : World} (h : Tabs2 w) (hb : Below w.heap.size w w') (hB : 0 < w.heap.size) : Tabs2 w' := ⟨h.1.below hb, h.2.below hb hB⟩

theorem outB_small {l : List MPair} (hw : sumW wPair l ≤ 1048576) (hn : l.length ≤ 200) : (outB l (nBlk l)).length ≤ 53000000 := by
  have h1 := outB_len hw (nBlk l)
  have h2 : nBlk l ≤ 50 := by unfold nBlk; omega
  omega
theorem tabP_ok {l : List MPair} (hw : sumW wPair l ≤ 1048576) : BytesOk (tabP l) := by
  unfold tabP
  split
  · rename_i h
    have hn : l.length ≤ 200 := by
      unfold tabOk at h
      simp only [Bool.and_eq_true, decide_eq_true_eq] at h
      exact h.2.2
    have h1 := outB_small hw hn
    unfold tabB
    exact ((outB_ok _ _).append (frame_ok (((putNum_ok _).append (idxB_ok _ _)).append (flt_ok _)))).append (four_ok (by omega) (by omega))
  · intro z hz; cases hz
theorem tab_own {w : World} {base : Nat} {v : Value} {l : List MPair} (hw : sumW wPair l ≤ 1048576) (h : w.ownsRow base 5 1 v (tabP l).length ((tabP l).map (Value.int .u8))) : ownB 5 w v (tabP l) v.ownBlock.toList :=
  ⟨own_base h (Nat.zero_le _), tabP_ok hw, rfl⟩


/-- A list of structs that is read, as what is appended. -/
theorem Src.any {α : Type} {size : Nat} {R : Rep α} (h1c : ∀ B w cs m, R B w cs m → ∀ u, u ∈ cs → u.oneCell' = true) {P : Program} {w : World} {B : Nat} {a : Option Addr} {l : List α} {tx e' : TypeId} {n c : Nat} (hk : P.underlying tx = some (.slice e')) (hn : l.length = n) (hr : RdS size R B w a l) :
    ∃ css : List (List Value), css.length = l.length ∧ (∀ c, c ∈ css → c.length = size) ∧ (∀ j, (h1 : j < l.length) → (h2 : j < css.length) → R B w css[j] l[j]) ∧ Src P size tx (.slice a n c) n css.flatten w := by
  cases a with
  | none =>
    have hz : l = [] := by
      cases l with
      | nil => rfl
      | cons z r =>
        obtain ⟨_, _, h, _⟩ := hr 0 (by simp)
        cases h
    subst hz
    simp only [List.length_nil] at hn
    subst hn
    exact ⟨[], rfl, (fun _ h => by cases h), (fun _ h => by simp at h), Src.ofNil w hk c⟩
  | some ad =>
    by_cases h0 : n = 0
    · subst h0
      have hz : l = [] := List.eq_nil_of_length_eq_zero hn
      subst hz
      exact ⟨[], rfl, (fun _ h => by cases h), (fun _ h => by simp at h), Src.ofSlice w hk ad 0 c [] (by simp) (fun j u hu => by simp at hu) (fun u hu => by cases hu)⟩
    · obtain ⟨b, off, e, _⟩ := hr 0 (by omega)
      simp only [Option.some.injEq] at e
      subst e
      obtain ⟨css, c1, c2, c3, c4⟩ := hr.cells l.length (Nat.le_refl _)
      have hfl := flat_len c2
      refine ⟨css, c1, c2, c3, Src.ofSlice w hk ⟨b, off, none⟩ n c css.flatten (by rw [hfl, c1, hn]) (fun j u hu => by rw [Addr.add_lit]; exact c4 j u hu) ?_⟩
      intro v hv
      obtain ⟨cs, hcs, hvc⟩ := List.mem_flatten.1 hv
      obtain ⟨j, hj, rfl⟩ := List.mem_iff_getElem.1 hcs
      exact h1c _ _ _ _ (c3 j (by omega) hj) v hvc

end Go.Proofs.YtmedljankefhbaaDoor

namespace Go.Proofs.YtmedljankefhbaaDoor
open Go.RowKit Go.Maps

theorem light_each {l : List MPair} {n : Nat} (h : lightP n l) (hn : n ≤ 1048576) : ∀ k, (hk : k < l.length) → wPair l[k] ≤ 1048576 := fun k hk => by
  have h1 := h l[k] (List.getElem_mem hk)
  have h2 : wPair l[k] = l[k].fKey.size + l[k].fVal.size := rfl
  omega
theorem tabOk_split {l : List MPair} (h : ¬ tabOk l = true) (hp : pairsOkP l = true) : ¬ (1 ≤ l.length ∧ l.length ≤ 200) := by
  intro h2
  apply h
  unfold tabOk
  rw [hp, decide_eq_true h2]
  rfl

set_option maxHeartbeats 4000000 in
theorem implPut_light (a : Option Addr) (n c : Nat) (l : List MPair) (w : World) (hx : l.length = n) (hn : n ≤ 200000000) (hL : LeafL 3 rPair w.heap.size w a c l) (hw : lightP 1048576 l) (hT : Tabs w) (ht : TabAt w) :
    Calls Tryd.prog 6 #[.slice a n c] w fun e w' => ∃ v, e = .returned v ∧
      w'.ownsRow w.heap.size 5 1 v (tabP l).length ((tabP l).map (Value.int .u8)) ∧ Below w.heap.size w w' := by
  by_cases hok : tabOk l = true
  · have h1 := tabOk_len hok
    have h2 := tabOk_w hok
    exact implPutTable_any a n c l w hx (by omega) hL (by omega) hT ht
  · have HV : Hid (tabP l = []) := by show _ = _; unfold tabP; rw [if_neg hok]
    by_cases hr : 1 ≤ n ∧ n ≤ 200
    rotate_left
    · clear hx hL
      by_cases h0 : n = 0
      · subst h0
        go_enter Tryd.func6, Tryd.ntmps6
        go_wp2_with fail
        go_ret
        exact ⟨_, rfl, by rw [HV.out]; exact own_nil w _ _ 1 (Nat.le_refl _), Below.refl _ _⟩
      · have h1 : 200 < n := by omega
        have h2 : ((n : Int) == 0) = false := beq_eq_false_iff_ne.2 (by omega)
        go_enter Tryd.func6, Tryd.ntmps6
        go_wp2_with fail
        go_ret
        exact ⟨_, rfl, by rw [HV.out]; exact own_nil w _ _ 1 (Nat.le_refl _), Below.refl _ _⟩
    obtain ⟨hr1, hr2⟩ := hr
    have h2 : ((n : Int) == 0) = false := beq_eq_false_iff_ne.2 (by omega)
    have h3 : ¬ 200 < (n : Int) := by omega
    have HP := Hid.mk (pairsOk_each a n c l w hx hn hL hT (light_each hw (Nat.le_refl _)))
    cases hp : pairsOkP l with
    | true => exact absurd ⟨by rw [hx]; exact hr1, by rw [hx]; exact hr2⟩ (tabOk_split hok hp)
    | false =>
      rw [hp] at HP
      clear hx hL hT ht
      go_enter Tryd.func6, Tryd.ntmps6
      go_wp2_with fail
      refine Calls.mono HP.out ?_
      rintro e w0 ⟨rfl, hb0⟩
      go_wp2_with fail
      go_ret
      exact ⟨_, rfl, by rw [HV.out]; exact own_nil w0 _ _ 1 hb0.size, hb0⟩

theorem rdPs_row {B base : Nat} {w : World} {v : Value} {l : List MPair} (h : RowR 3 32 rPair B w base v l) : rdPs w.heap.size w v l := rdPs_own (pairs_own h).1

theorem conv_rdT {B : Nat} {w : World} {a : Option Addr} {n c : Nat} {bs : List Int} (hn : bs.length = n) (h : Rd .u8 B w a bs) : (convert 22 9 (.slice a n c)).run Tryd.prog w = .ok (.string (strOfNums bs)) w := by
  subst hn
  cases bs with
  | nil =>
    cases a with
    | none => exact run_convert_bytes_nil w 22 5 Tryd.underlying22 Tryd.underlying5 _ _ 9 Tryd.underlying9
    | some ad => exact run_convert_bytes_back w 22 9 5 ad c [] Tryd.underlying22 Tryd.underlying5 Tryd.underlying9 (fun j hj => by simp at hj)
  | cons z r =>
    obtain ⟨b, off, rfl, _, _⟩ := h 0 (by simp)
    exact run_convert_bytes_arg w 22 5 Tryd.underlying22 Tryd.underlying5 b off _ c (z :: r) rfl (fun i hi => by
      obtain ⟨b', o', e', _, hc⟩ := h i hi
      simp only [Option.some.injEq, Addr.mk.injEq, and_true] at e'
      obtain ⟨rfl, rfl⟩ := e'
      exact hc) 9 Tryd.underlying9
theorem strInts_ofT {ts : List Int} (h : BytesOk ts) : strInts (strOfNums ts) = ts := by
  unfold strInts
  rw [strOfNums_data, List.map_map]
  apply List.ext_getElem?
  intro j
  rw [List.getElem?_map]
  by_cases hj : j < ts.length
  · rw [List.getElem?_eq_getElem hj]
    have hb := h _ (List.getElem_mem hj)
    simp only [Option.map_some, Function.comp, Option.some.injEq]
    generalize ts[j] = z at hb
    rw [UInt8.toNat_ofNat']
    omega
  · rw [List.getElem?_eq_none (by omega)]; rfl
theorem nums_eq {xs ys : List Int} (hx : BytesOk xs) (hy : BytesOk ys) : ((strOfNums xs).toList == (strOfNums ys).toList) = decide (xs = ys) := by
  by_cases h : xs = ys
  · subst h; simp
  · rw [decide_eq_false h]
    refine k_ne (fun h3 => h ?_)
    rw [← strInts_ofT hx, ← strInts_ofT hy, h3]

set_option maxHeartbeats 1000000 in
theorem bytesEq_any (a b : Option Addr) (n m ca cb : Nat) (xs ys : List Int) (w : World) (B : Nat) (hx : xs.length = n) (hy : ys.length = m) (ox : BytesOk xs) (oy : BytesOk ys) (hra : Rd .u8 B w a xs) (hrb : Rd .u8 B w b ys) :
    Calls Tryd.prog 25 #[.slice a n ca, .slice b m cb] w fun e w' => e = .returned (.bool (decide (xs = ys))) ∧ Below w.heap.size w w' := by
  have c1 : ∀ W : World, W.heap = w.heap → (convert 22 9 (.slice a n ca)).run Tryd.prog W = .ok (.string (strOfNums xs)) W := fun W hW => conv_rdT hx (B := B) (fun j hj => by obtain ⟨b1, o1, e, hB, hc⟩ := hra j hj; exact ⟨b1, o1, e, hB, by rw [← hc]; simp only [World.cell?, hW]⟩)
  have c2 : ∀ W : World, W.heap = w.heap → (convert 22 9 (.slice b m cb)).run Tryd.prog W = .ok (.string (strOfNums ys)) W := fun W hW => conv_rdT hy (B := B) (fun j hj => by obtain ⟨b1, o1, e, hB, hc⟩ := hrb j hj; exact ⟨b1, o1, e, hB, by rw [← hc]; simp only [World.cell?, hW]⟩)
  have c1' := c1 w rfl
  have c2' := c2 w rfl
  have HE := Hid.mk (nums_eq ox oy)
  go_enter Tryd.func25, Tryd.ntmps25
  go_wp2_with fail
  go_ret
  exact ⟨congrArg (fun b => Ending.returned (Value.bool b)) HE.out, Below.refl _ _⟩

set_option maxHeartbeats 1000000 in
theorem pairsAt_any (a : Option Addr) (n cap : Nat) (p : Int) (w : World) :
    Calls Tryd.prog 39 #[.slice a n cap, .int .i64 p] w fun e w' => e = .returned (.func (.func 55) #[] #[.pointer (some ⟨w.heap.size, 0, none⟩), .pointer (some ⟨w.heap.size + 1, 0, none⟩)]) ∧ w' = (w.alloc (.cells #[.slice a n cap] 22)).alloc (.cells #[.int .i64 p] 3) := by
  go_enter Tryd.func39, Tryd.ntmps39
  go_wp2
  go_ret
  exact ⟨rfl, rfl⟩

theorem pairsAt_c (a : Option Addr) (n cap : Nat) (p : Int) (w : World) :
    Calls Tryd.prog 39 #[.slice a n cap, .int .i64 p] w fun e w' => ∃ g g2, e = .returned (.func (.func 55) #[] #[.pointer (some ⟨g, 0, none⟩), .pointer (some ⟨g2, 0, none⟩)]) ∧ Hid (g = w.heap.size ∧ g2 = g + 1 ∧ w'.heap.size = g + 2) ∧ Bw w' g 22 [.slice a n cap] ∧ Bw w' g2 3 [.int .i64 p] ∧ Below w.heap.size w w' := by
  refine (pairsAt_any a n cap p w).mono ?_
  rintro e w' ⟨rfl, rfl⟩
  exact ⟨_, _, rfl, ⟨rfl, rfl, by simp⟩, (Bw.new' w _ _ rfl).under ((Below.refl _ _).alloc (Nat.le_refl _) _), Bw.new' _ _ _ (by simp), ((Below.refl _ _).alloc (Nat.le_refl _) _).alloc (by simp) _⟩

end Go.Proofs.YtmedljankefhbaaDoor

namespace Go.Proofs.YtmedljankefhbaaDoor
open Go.RowKit Go.Shelf

/-- How the statement goes on behind the iterator: with the jump that a round has left, or without one. -/
def goesOn (n : Nat) (P : Program) (Q : Exit → Act → World → Prop) (a : Act) (W : World) : Option Code → Prop
  | none => Q .normal a W
  | some c => c.wpIn Fence.wide n P Q a W

/-- The statement: the record and the block for deferred calls are laid; the iterator's call ends with the record at rest. -/
theorem range_begins {P : Program} {n : Nat} {g : Operand} {ps : Array Tmp} {assign body : Code} {Q : Exit → Act → World → Prop} {a : Act} {w : World} {gf : Nat} {lb : Array Value}
    (hg : a.eval g = .func (.func gf) #[] lb) (eg : ∀ args w, (callFunc gf args).run P w = .ok (.enter gf args) w)
    (h : ∀ (fn : FuncId) (r : Loop), r.state = .ready → r.pending = none → r.params = ps → r.tmps = a.tmps → r.assign = assign → r.body = body → ∀ W1 : World, W1.heap[w.heap.size + 1]? = some (.loop r) → W1.heap[w.heap.size]? = some (.deferred (some [])) → W1.heap.size = w.heap.size + 2 → Below w.heap.size w W1 →
      Calls P gf (#[.func (.yield (w.heap.size + 1)) #[] #[]] ++ lb) W1 fun e W2 => (∃ v, e = .returned v) ∧ ∃ r2 : Loop, W2.heap[w.heap.size + 1]? = some (.loop r2) ∧ r2.state ≠ .busy ∧ W2.heap[w.heap.size]? = some (.deferred (some [])) ∧
        goesOn n P Q { a with defers := { target := .collected w.heap.size, args := #[] } :: a.defers } (W2.putObj (w.heap.size + 1) (.loop { r2 with state := .exhausted })) r2.pending)
    (hn : 1 ≤ n) :
    (Code.rangeFunc g ps assign body).wpIn Fence.wide n P Q a w := by
  refine wpIn_rangeFunc fun fn _ => ?_
  obtain ⟨r, hr⟩ : ∃ r : Loop, r = { state := .ready, pending := none, fn, tmps := a.tmps, params := ps, assign, body, defers := w.heap.size } := ⟨_, rfl⟩
  obtain ⟨W1, hW1⟩ : ∃ W1, W1 = (w.alloc (.deferred (some []))).alloc (.loop r) := ⟨_, rfl⟩
  have he : (Instr.enterLoop fn a.tmps ps assign body none).run P w = .ok (w.heap.size + 1, [{ target := .collected w.heap.size, args := #[] }]) W1 := by rw [hW1, hr]; exact run_enterLoop_outer fn a.tmps ps assign body
  refine ⟨_, _, W1, { target := .fn (.func gf) lb, args := #[.func (.yield (w.heap.size + 1)) #[] #[]] }, W1, gf, #[.func (.yield (w.heap.size + 1)) #[] #[]] ++ lb, W1, he, ?_, fun _ _ => trivial, ?_, fun _ => hn, ?_⟩
  · simp only [resolve, hg]
    simp [go_sem]
  · simp [invoke, go_sem, eg]
  · refine (callsIn_wide.2 (h fn r (by rw [hr]) (by rw [hr]) (by rw [hr]) (by rw [hr]) (by rw [hr]) (by rw [hr]) W1 ?_ ?_ ?_ ?_)).mono ?_
    · rw [hW1]
      have := World.alloc_heap_new (w.alloc (.deferred (some []))) (.loop r)
      rwa [World.size_alloc] at this
    · rw [hW1]; exact (Below.heap_alloc _ _ _ (by simp)).trans (World.alloc_heap_new w _)
    · rw [hW1]; simp
    · rw [hW1]; exact ((Below.refl _ w).alloc (Nat.le_refl _) _).alloc (by simp) _
    · rintro e W2 ⟨⟨v, rfl⟩, r2, hl, hs, hd, hgo⟩
      refine ⟨r2.pending, _, run_endLoop hl hs, ?_⟩
      revert hgo
      cases r2.pending with
      | none => exact id
      | some c => exact id

/-- What the body of a round owes: the record lies there busy; behind it the record is at rest, and yield's answer is the round's. -/
def roundEnd (l : Nat) (r : Loop) (R : Ending → World → Prop) : Exit → Act → World → Prop
  | .normal, _, W => W.heap[l]? = some (.loop { r with state := .busy }) ∧ R (.returned (.bool true)) (W.putObj l (.loop { r with state := .ready, pending := none }))
  | .ret, _, W => W.heap[l]? = some (.loop { r with state := .busy }) ∧ R (.returned (.bool false)) (W.putObj l (.loop { r with state := .done, pending := some .ret }))
  | .exit id, _, W => W.heap[l]? = some (.loop { r with state := .busy }) ∧ R (.returned (.bool false)) (W.putObj l (.loop { r with state := .done, pending := some (.exit id) }))
  | .goto t, _, W => W.heap[l]? = some (.loop { r with state := .busy }) ∧ R (.returned (.bool false)) (W.putObj l (.loop { r with state := .done, pending := some (.goto t) }))
  | .panic _, _, _ => False
  | .outgrown, _, _ => False

theorem round_runs {P : Program} {n l : Nat} {r : Loop} {f : FuncId} {tmps : Array Value} {assign body : Code} {W : World} {R : Ending → World → Prop} (hr : r.state = .ready)
    (h : assign.wpIn (Fence.wide.inRound l) n P (Exit.then (fun a1 W1 => W1.heap[l]? = some (.loop r) ∧ body.wpIn (Fence.wide.inRound l) n P (roundEnd l r R) a1 (W1.putObj l (.loop { r with state := .busy }))) (fun _ _ _ => False))
      { tmps := tmps, defers := [] } W) :
    RoundIn Fence.wide n P l f tmps assign body W R := by
  refine roundIn_of_wpIn trivial (wpIn_mono h ?_)
  rintro e a1 W1 hp
  cases e with
  | normal =>
    obtain ⟨hl1, hb⟩ := hp
    refine ⟨_, run_beginRound hl1 hr, wpIn_mono hb ?_⟩
    rintro e a3 W3 hp3
    cases e with
    | normal => exact ⟨_, _, run_endRound none hp3.1, hp3.2⟩
    | ret => exact ⟨_, _, run_endRound (some .ret) hp3.1, hp3.2⟩
    | exit id => exact ⟨_, _, run_endRound (some (.exit id)) hp3.1, hp3.2⟩
    | goto t => exact ⟨_, _, run_endRound (some (.goto t)) hp3.1, hp3.2⟩
    | panic c => exact hp3.elim
    | outgrown => exact hp3.elim
  | ret => exact hp.elim
  | exit id => exact hp.elim
  | goto t => exact hp.elim
  | panic c => exact hp.elim
  | outgrown => exact hp.elim

end Go.Proofs.YtmedljankefhbaaDoor
