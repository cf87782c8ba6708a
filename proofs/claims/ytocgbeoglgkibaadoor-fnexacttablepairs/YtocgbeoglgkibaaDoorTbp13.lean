/-
  Part 14 of the texts that the proof leans on.
-/
import Derived.Test.YtocgbeoglgkibaaDoorTbp11
import Derived.Test.YtocgbeoglgkibaaDoorTbp12
import Derived.Test.YtocgbeoglgkibaaDoorTbp9
import Derived.Test.YtocgbeoglgkibaaDoorChecked
import Derived.WalkKit
import Derived.LaidEql
import Derived.Stop.Asserts
import Derived.RowKitTokens
import Derived.Test.YtocgbeoglgkibaaDoorTbp2
import Derived.Test.YtocgbeoglgkibaaDoorTbp10
import Derived.Test.YtocgbeoglgkibaaDoorTbp1
set_option linter.unusedVariables false
set_option linter.unusedSimpArgs false
set_option maxRecDepth 10000

namespace Go.Proofs.YtocgbeoglgkibaaDoor
open Go.RowKit Go.Maps

def lenV : Value → Nat
  | .slice _ n _ => n
  | _ => 0
theorem RdrAt.far {lo : Nat} {w w' : World} {b : Nat} {F : List Nat} {zs : List Int} {bad : Bool} (h : RdrAt lo w b zs bad) (ht : Turn F w w') (hg : ∀ k, k ∈ F → b < k) : RdrAt lo w' b zs bad := by
  obtain ⟨a, c, h1, h2, h3, h4, h5⟩ := h
  have hl := h1.lt
  refine ⟨a, c, h1.turn ht (fun hm => Nat.lt_irrefl _ (hg _ hm)), h2, h3, fun j hj => ?_, h5⟩
  obtain ⟨b1, o1, e, hB, hc⟩ := h4 j hj
  exact ⟨b1, o1, e, hB, (ht.cell (p := ⟨b1, o1 + j, none⟩) (by show b1 < _; omega) (fun hm => by have := hg _ hm; simp at this; omega)).trans hc⟩
theorem gnS_fail (f : Nat) (l : List Int) (n p : Int) (h : (gnS f l n p).2.2 = false) : gnS f l n p = noNum := by
  induction f generalizing l n p with
  | zero => rfl
  | succ f ih =>
    cases l with
    | nil => rfl
    | cons c r =>
      simp only [gnS] at h ⊢
      by_cases hc : c < 128
      · rw [if_pos hc] at h ⊢
        by_cases hn : 1000000000 < n * 128 + c % 128
        · rw [if_pos hn]
        · rw [if_neg hn] at h; cases h
      · rw [if_neg hc] at h ⊢
        exact ih _ _ _ h
theorem getNum_fail {b : List Int} {p : Int} (h : (getNum b p).2.2 = false) : getNum b p = noNum := by
  unfold getNum at h ⊢
  split at h
  · rename_i h1; rw [if_pos h1]
  · rename_i h1
    rw [if_neg h1]
    split at h
    · rename_i h2; rw [if_pos h2]
    · rename_i h2; rw [if_neg h2]; exact gnS_fail _ _ _ _ h
theorem marks_nil (B base : Nat) (w : World) : RowR 2 67 rMark B w base (.slice none 0 0) [] :=
  ⟨[], rfl, (fun _ h => by cases h), (fun _ h => by simp at h), World.ownsRow_nil _ _ _ _⟩
theorem marks_under {B base : Nat} {w w' : World} {F : List Nat} {v : Value} {l : List (ByteArray × Int)} (h : RowR 2 67 rMark B w base v l) (ht : Turn F w w') (hF : ∀ k, k ∈ F → k < base) : RowR 2 67 rMark B w' base v l := by
  obtain ⟨css, h1, h2, h3, h4⟩ := h
  exact ⟨css, h1, h2, fun j hj hj2 => h3 j hj hj2, own_of_block h4 (fun k hk => ht.block k (h4.lt k hk).2 (fun hm => by have := hF k hm; have := (h4.lt k hk).1; omega))⟩
theorem xstep_len {zs : List Int} (h : xBad zs false = false) : (xR2 zs).length < zs.length := by
  unfold xBad at h
  obtain ⟨_, h2⟩ := badB_no h
  obtain ⟨h3, _⟩ := badB_no h2
  have h4 := getText_bd h3
  have h5 : (xR2 zs).length ≤ (xR1 zs).length := restL_len
  have h6 : (xR1 zs).length = zs.length - (getText zs 0).2.1.toNat := by unfold xR1 restL; rw [if_pos h3, List.length_drop]
  omega
def RiPost (w : World) (zs : List Int) (pe : Addr) (e : Ending) (w' : World) : Prop :=
  Below w.heap.size w w' ∧ ((ixR zs = none ∧ ∃ s, e = .returned (.tuple #[.agg #[.slice none 0 0, .slice none 0 0, .int .i64 0], partV s pe])) ∨
    (∃ ps marks vm vf, ixR zs = some ps ∧ marks.map (fun m : ByteArray × Int => m.2) = ps ∧ e = .returned (.tuple #[.agg #[vm, vf, .int .i64 (rd4 zs (zs.length - 4))], .nilIface]) ∧ RowR 2 67 rMark w.heap.size w' w.heap.size vm marks ∧ 0 ≤ rd4 zs (zs.length - 4) ∧ rd4 zs (zs.length - 4) + 4 ≤ zs.length ∧ marks.length ≤ 1048578 ∧ ∃ af nf cf, vf = .slice af nf cf))
theorem ixR_short {zs : List Int} (h : zs.length < 4) : ixR zs = none := by unfold ixR; rw [if_pos h]
theorem ixR_no {zs : List Int} (h : ¬ ((unframe zs (rd4 zs (zs.length - 4))).2.2 = true ∧ (unframe zs (rd4 zs (zs.length - 4))).2.1 = (zs.length : Int) - 4)) : ixR zs = none := by
  unfold ixR
  by_cases h4 : zs.length < 4
  · rw [if_pos h4]
  · rw [if_neg h4, if_neg h]
theorem ixR_yes {zs : List Int} (h4 : ¬ zs.length < 4) (h : (unframe zs (rd4 zs (zs.length - 4))).2.2 = true ∧ (unframe zs (rd4 zs (zs.length - 4))).2.1 = (zs.length : Int) - 4) : ixR zs = ixrB (unframe zs (rd4 zs (zs.length - 4))).1 := by
  unfold ixR; rw [if_neg h4, if_pos h]
theorem unframe_in {zs : List Int} {p : Int} (h : (unframe zs p).2.2 = true) : 0 ≤ p ∧ p + 4 ≤ zs.length := by
  by_cases h1 : p < 0 ∨ (zs.length : Int) - 4 < p
  · rw [unframe_out h1] at h; cases h
  · omega

set_option maxHeartbeats 8000000 in
theorem readIndex_any (a : Option Addr) (n cap : Nat) (zs : List Int) (pe : Addr) (w : World) (hx : zs.length = n) (hlen : n ≤ 1048576) (hcap : n ≤ cap) (hcm : cap ≤ 9223372036854775807) (hb : BytesOk zs) (hr : Rd .u8 w.heap.size w a zs) (ht : TabAt w) (hE : ErrAt w pe) :
    Calls Tryd.prog 34 #[.slice a n cap] w (RiPost w zs pe) := by
  obtain ⟨iM, hiM, hzM0, hzM1, hzM2⟩ := info_parts Tryd.infoMark
  have HX := Hid.mk hx
  clear hx
  obtain ⟨w1, hw1⟩ : ∃ x, x = w.alloc (.cells #[.slice none 0 0, .slice none 0 0, .int .i64 0] 63) := ⟨_, rfl⟩
  have hb1 : Below w.heap.size w w1 := by rw [hw1]; exact (Below.refl _ _).alloc (Nat.le_refl _) _
  have hbx1 : Bw w1 w.heap.size 63 [.slice none 0 0, .slice none 0 0, .int .i64 0] := by rw [hw1]; exact Bw.new' _ _ _ rfl
  have HW1 := Hid.mk hw1
  clear hw1
  by_cases h4 : n < 4
  · have HN : Hid (ixR zs = none) := ixR_short (by rw [HX.out]; exact h4)
    have y0 := hbx1.cell 0 _ rfl
    have y1 := hbx1.cell 1 _ rfl
    have y2 := hbx1.cell 2 _ rfl
    have f0 := hbx1.free 0
    have f1 := hbx1.free 1
    have f2 := hbx1.free 2
    have hlw := hbx1.lt
    have hneg : (n : Int) - 4 < 0 := by omega
    go_enter Tryd.func34, Tryd.ntmps34
    go_wp2_with fail
    rw [← HW1.out]
    refine Calls.mono (noTable_any _ pe w1 (hE.below hb1)) ?_
    rintro e w1 ⟨rfl, rfl⟩
    obtain ⟨w7, hw7⟩ : ∃ x, x = ((w1.setCell ⟨w.heap.size, 0, none⟩ (.slice none 0 0)).setCell ⟨w.heap.size, 1, none⟩ (.slice none 0 0)).setCell ⟨w.heap.size, 2, none⟩ (.int .i64 0) := ⟨_, rfl⟩
    have hT7 : Turn [w.heap.size] w1 w7 := by rw [hw7]; exact (((Turn.refl _ _).setCell (by simp) _).setCell (by simp) _).setCell (by simp) _
    have hb7 : Bw w7 w.heap.size 63 [.slice none 0 0, .slice none 0 0, .int .i64 0] := by rw [hw7]; exact ((hbx1.put 0 _).put 1 _).put 2 _
    have hB7 := Turn.under hb1 hT7 (fun k hk => by simp at hk; omega)
    have HW7 := Hid.mk hw7
    clear hw7 hT7
    unfold partV errV
    go_wp2_with fail
    rw [← HW7.out]
    have q0 := hb7.cell 0 _ rfl
    have q1 := hb7.cell 1 _ rfl
    have q2 := hb7.cell 2 _ rfl
    refine bodyPost_ret (v := .tuple #[.agg #[.slice none 0 0, .slice none 0 0, .int .i64 0], partV ⟨#[108, 97, 115, 116, 32, 98, 121, 116, 101, 115]⟩ pe]) (by simp [results, Tryd.results34, go_sem, partV, errV, *]) rfl ?_
    exact ⟨hB7, .inl ⟨HN.out, _, rfl⟩⟩
  · obtain ⟨m, rfl⟩ : ∃ m, n = m + 4 := ⟨n - 4, by omega⟩
    have hrb := rd4_bd hb m
    have HZL : Hid (zs.length - 4 = m) := by show _ = _; rw [HX.out]; omega
    have HZL2 : Hid ((zs.length : Int) - 4 = m) := by show _ = _; rw [HX.out]; omega
    have HN4 : Hid (¬ zs.length < 4) := by show ¬ _; rw [HX.out]; omega
    have hr1 := (hr.below hb1).mono hb1.size
    obtain ⟨b0, o0, rfl, _, _⟩ := hr1 0 (by rw [HX.out]; omega)
    have hrs := Rd.sub hr1 (f := m) (m := 4) (by rw [HX.out]; exact Nat.le_refl _)
    have hC4 := readFour_any (some ⟨b0, o0 + m, none⟩) (cap - m) ((zs.drop m).take 4) w1 w1.heap.size (by rw [List.length_take, List.length_drop, HX.out]; omega) (fun z hz => hb z (List.mem_of_mem_drop (List.mem_of_mem_take hz))) hrs
    rw [rdN_four (by rw [HX.out]; exact Nat.le_refl _)] at hC4
    have hCu := implUnframe_any (some ⟨b0, o0, none⟩) (m + 4) cap zs (rd4 zs m) w1 HX.out (by omega) hcap hb hr1 (ht.below hb1 ht.size)
    have HUO : Hid (BytesOk (unframe zs (rd4 zs m)).1) := unframe_okB hb
    have HUL : Hid ((unframe zs (rd4 zs m)).1.length ≤ m + 4) := by have h := unframe_len zs (rd4 zs m); rw [HX.out] at h; exact h
    have HUB : Hid (¬ ((unframe zs (rd4 zs m)).2.2 = true ∧ (unframe zs (rd4 zs m)).2.1 = (m : Int)) → ixR zs = none) := fun h => ixR_no (by rw [HZL.out, HZL2.out]; exact h)
    have HUY : Hid ((unframe zs (rd4 zs m)).2.2 = true ∧ (unframe zs (rd4 zs m)).2.1 = (m : Int) → ixR zs = ixrB (unframe zs (rd4 zs m)).1) := fun h => by have h2 := ixR_yes HN4.out (by rw [HZL.out, HZL2.out]; exact h); rw [HZL.out] at h2; exact h2
    have HUI : Hid ((unframe zs (rd4 zs m)).2.2 = true → 0 ≤ rd4 zs m ∧ rd4 zs m + 4 ≤ zs.length) := unframe_in
    obtain ⟨R, hR⟩ : ∃ R, R = rd4 zs m := ⟨_, rfl⟩
    rw [← hR] at hCu HUO HUL HUB HUY HUI hC4 hrb
    have HR : Hid (rd4 zs (zs.length - 4) = R) := by show _ = _; rw [HZL.out]; exact hR.symm
    clear hR
    generalize unframe zs R = U at *
    obtain ⟨body, nx, fine⟩ := U
    simp only at HUO HUL HUB HUY HUI
    have hmc : m ≤ cap := by omega
    have hmc2 : ¬ (cap = m) := by omega
    have hE1 := hE.below hb1
    clear hr hr1 hrs
    go_enter Tryd.func34, Tryd.ntmps34
    go_wp2_with fail
    rw [← HW1.out]
    refine Calls.mono (by first | exact hC4 | (have h := hC4; simpa using h)) ?_
    rintro e w1 ⟨rfl, rfl⟩
    clear hC4
    go_wp2_with fail
    refine Calls.mono hCu ?_
    rintro e w2 ⟨vb, rfl, hob, hx2⟩
    simp only at hob
    clear hCu
    have hB2 := hb1.trans (hx2.mono hb1.size)
    have hbx2 := hbx1.under hx2
    have hE2 := hE1.below hx2
    by_cases hU : fine = true ∧ nx = (m : Int)
    · obtain ⟨rfl, rfl⟩ := hU
      have HIB : Hid (ixR zs = ixrB body) := HUY.out ⟨rfl, rfl⟩
      obtain ⟨hR0, hR1⟩ := HUI.out rfl
      clear HUY HUB HUI
      obtain ⟨bl, hbl⟩ : ∃ bl, bl = body.length := ⟨_, rfl⟩
      have HBL : Hid (body.length = bl) := hbl.symm
      have hbm : bl ≤ 1048576 := by have h := HUL.out; omega
      obtain ⟨ab, cb, rfl, hcb, hrb2⟩ := own_rd rfl hob
      have hcb2 : bl ≤ cb := by omega
      have hcm3 : cb ≤ 9223372036854775807 := by
        rcases hob.2 with ⟨h, _⟩ | ⟨g, cap2, cur, e1, _, _, _, hm2, _⟩
        · simp only [Value.slice.injEq] at h; omega
        · simp only [Value.slice.injEq] at e1
          unfold maxLen at hm2
          omega
      rw [← hbl] at hob ⊢
      clear hbl HUL hcb
      obtain ⟨w3, hw3⟩ : ∃ x, x = w2.alloc (.cells #[.slice ab bl cb, .bool false] 86) := ⟨_, rfl⟩
      have hb23 : Below w2.heap.size w2 w3 := by rw [hw3]; exact (Below.refl _ _).alloc (Nat.le_refl _) _
      have hbw3 : Bw w3 w2.heap.size 86 [.slice ab bl cb, .bool false] := by rw [hw3]; exact Bw.new' _ _ _ rfl
      have hrd3 : RdrAt 0 w3 w2.heap.size body false := ⟨ab, cb, by rw [HBL.out]; exact hbw3, by rw [HBL.out]; exact hcb2, hcm3, hrb2.below hb23, fun _ _ _ _ => Nat.zero_le _⟩
      have hz3 : w2.heap.size < w3.heap.size := by rw [hw3]; simp
      have hB3 := hB2.trans (hb23.mono hB2.size)
      have hbx3 := hbx2.under hb23
      have HW3 := Hid.mk hw3
      have hw12 : w.heap.size < w2.heap.size := hbx2.lt
      clear hw3 hbw3 hrb2 hob hbx1 hbx2
      obtain ⟨G, hG⟩ : ∃ G, getNum body 0 = G := ⟨_, rfl⟩
      obtain ⟨gn, gq, gok⟩ := G
      have hCn := rdrNum_any (lo := 0) w2.heap.size body false gn gq gok w3 hG hrd3 HUO.out (by rw [HBL.out]; omega)
      have HGN : Hid (0 ≤ gn ∧ gn ≤ 1000000000) := by
        have h := hG
        show _ ∧ _
        cases gok with
        | true => have h1 := getNum_bounds (b := body) (p := 0) (by rw [hG]); rw [hG] at h1; exact ⟨h1.1, h1.2.1⟩
        | false =>
          have h2 := getNum_fail (b := body) (p := 0) (by rw [hG])
          rw [hG] at h2
          simp only [noNum, Prod.mk.injEq] at h2
          omega
      have HIE : Hid (ixrB body = ixrE (ixrGo gn (bl + 2) (restL gok body gq) (badB gok false) [])) := by show _ = _; unfold ixrB; rw [hG, HBL.out]
      have HZ0 : Hid ((restL gok body gq).length ≤ bl) := by have := restL_len (ok := gok) (zs := body) (q := gq); rw [HBL.out] at this; exact this
      have HO0 : Hid (BytesOk (restL gok body gq)) := restL_ok HUO.out
      generalize restL gok body gq = z0 at *
      generalize badB gok false = bd0 at *
      clear hG
      go_wp2_with fail
      rw [← HW3.out]
      refine Calls.mono hCn ?_
      rintro e w4 ⟨rfl, hrd4, t4⟩
      have hB4 := Turn.under hB3 t4 (fun k hk => by simp at hk; omega)
      have hbx4 := hbx3.turn t4 (by simp; omega)
      have hs4 := t4.size
      clear hCn hrd3 hbx3 HW3 t4
      go_wp2_with fail
      go_loopw [10] (fun vM wr => ∃ (f : Nat) (zz : List Int) (bad : Bool) (marks : List (ByteArray × Int)), f + marks.length = bl + 2 ∧ (bad = false → zz.length + marks.length ≤ bl) ∧ (bad = true → marks.length ≤ bl + 1) ∧ (marks.length : Int) ≤ gn ∧ BytesOk zz ∧ zz.length ≤ 1048576 ∧ Hid (ixrB body = ixrE (ixrGo gn f zz bad (marks.map fun m => m.2))) ∧ RdrAt 0 wr w2.heap.size zz bad ∧ RowR 2 67 rMark w.heap.size wr w3.heap.size vM marks ∧ Bw wr w.heap.size 63 [.slice none 0 0, .slice none 0 0, .int .i64 0] ∧ w3.heap.size ≤ wr.heap.size ∧ Below w.heap.size w wr) (fun vM _ => gn.toNat - lenV vM)
      case atStart => exact ⟨bl + 2, z0, bd0, [], rfl, fun _ => by simpa using HZ0.out, fun _ => by simp, by simpa using HGN.out.1, HO0.out, by have := HZ0.out; omega, HIE, hrd4, marks_nil _ _ _, hbx4, by omega, hB4⟩
      case round =>
        clear hrd4 hbx4 hB4 HIE
        obtain ⟨f, zz, bad, marks, hf, hz1, hz2, hmg, hzo, hzm, HGO, hrd, hrow, hbx, hs, hbr⟩ := hrel
        have hgn9 := HGN.out.2
        obtain ⟨css, r1, r2, r3, r4⟩ := id hrow
        obtain ⟨aM, cM, rfl⟩ := own_slice r4
        have HRW := Hid.mk hrow
        obtain ⟨ar, cr, hbwr, hrc, hrm, hrr, _⟩ := id hrd
        have k0 := hbwr.cell 0 _ rfl
        have k1 := hbwr.cell 1 _ rfl
        have hml0 : marks.length ≤ bl + 2 := by omega
        clear hrow hbwr
        by_cases hgo : (marks.length : Int) < gn
        · cases hbad : bad with
          | true =>
            subst hbad
            have HOUT : Hid (ixrGo gn f zz true (marks.map fun m => m.2) = (marks.map (fun m => m.2), zz, true)) := by
              show _ = _
              cases f with
              | zero => rfl
              | succ f => rw [ixrGo, if_neg (by simp)]
            have HN : Hid (ixR zs = none) := by show _ = _; rw [HIB.out, HGO.out, HOUT.out]; unfold ixrE; rw [if_neg (by simp)]
            have y0 := hbx.cell 0 _ rfl
            have y1 := hbx.cell 1 _ rfl
            have y2 := hbx.cell 2 _ rfl
            have f0 := hbx.free 0
            have f1 := hbx.free 1
            have f2 := hbx.free 2
            have hlw := hbx.lt
            have hEr := hE.below hbr
            clear HIB HGO HOUT r1 r2 r3 r4
            go_wp2_with fail
            refine Calls.mono (noTable_any _ pe wr hEr) ?_
            rintro e wr ⟨rfl, rfl⟩
            obtain ⟨w7, hw7⟩ : ∃ x, x = ((wr.setCell ⟨w.heap.size, 0, none⟩ (.slice none 0 0)).setCell ⟨w.heap.size, 1, none⟩ (.slice none 0 0)).setCell ⟨w.heap.size, 2, none⟩ (.int .i64 0) := ⟨_, rfl⟩
            have hT7 : Turn [w.heap.size] wr w7 := by rw [hw7]; exact (((Turn.refl _ _).setCell (by simp) _).setCell (by simp) _).setCell (by simp) _
            have hb7 : Bw w7 w.heap.size 63 [.slice none 0 0, .slice none 0 0, .int .i64 0] := by rw [hw7]; exact ((hbx.put 0 _).put 1 _).put 2 _
            have hB7 := Turn.under hbr hT7 (fun k hk => by simp at hk; omega)
            have HW7 := Hid.mk hw7
            clear hw7 hT7
            unfold partV errV
            go_wp2_with fail
            rw [← HW7.out]
            have q0 := hb7.cell 0 _ rfl
            have q1 := hb7.cell 1 _ rfl
            have q2 := hb7.cell 2 _ rfl
            refine bodyPost_ret (v := .tuple #[.agg #[.slice none 0 0, .slice none 0 0, .int .i64 0], partV ⟨#[105, 110, 100, 101, 120]⟩ pe]) (by simp [results, Tryd.results34, go_sem, partV, errV, *]) rfl ?_
            exact ⟨hB7, .inl ⟨HN.out, _, rfl⟩⟩
          | false =>
            subst hbad
            obtain ⟨f, rfl⟩ : ∃ g, f = g + 1 := ⟨f - 1, by have := hz1 rfl; omega⟩
            have hzl := hz1 rfl
            obtain ⟨T, hT⟩ : ∃ T, getText zz 0 = T := ⟨_, rfl⟩
            obtain ⟨tt, tq, tok⟩ := T
            have e1 : xR1 zz = restL tok zz tq := by unfold xR1; rw [hT]
            obtain ⟨G2, hG2⟩ : ∃ G2, getNum (xR1 zz) 0 = G2 := ⟨_, rfl⟩
            obtain ⟨gv, gw, gk⟩ := G2
            have e2 : xR2 zz = restL gk (xR1 zz) gw := by unfold xR2; rw [hG2]
            have e3 : xBad zz false = badB gk (badB tok false) := by unfold xBad; rw [hG2, hT]
            have e4 : xAt zz = gv := by unfold xAt; rw [hG2]
            have hok1 : BytesOk (xR1 zz) := restL_ok hzo
            have hl1 : (xR1 zz).length ≤ 1048576 := Nat.le_trans restL_len hzm
            have HST : Hid (ixrB body = ixrE (ixrGo gn f (xR2 zz) (xBad zz false) ((marks ++ [(strOfNums tt, gv)]).map fun m => m.2))) := by
              show _ = _
              rw [HGO.out, ixrGo, if_pos ⟨by simpa using hgo, rfl⟩, e4]
              simp
            have HZB : Hid (xBad zz false = false → (xR2 zz).length + (marks.length + 1) ≤ bl) := fun h => by have := xstep_len h; omega
            have HZO : Hid (BytesOk (xR2 zz) ∧ (xR2 zz).length ≤ 1048576) := ⟨by rw [e2]; exact restL_ok hok1, by rw [e2]; exact Nat.le_trans restL_len hl1⟩
            have c1 := fun W h => rdrText_any (lo := 0) w2.heap.size zz false tt tq tok W hT h hzo (by omega)
            rw [← e1] at c1
            have c2 := fun W bad h => rdrNum_any (lo := 0) w2.heap.size (xR1 zz) bad gv gw gk W hG2 h hok1 (by omega)
            rw [← e2] at c2
            have HE3 : Hid (badB gk (badB tok false) = xBad zz false) := e3.symm
            clear e1 e2 e3 e4 hT hG2 HGO
            go_wp2_with fail
            refine Calls.mono (c1 wr hrd) ?_
            rintro e w5 ⟨rfl, h5, t5⟩
            clear c1
            go_wp2_with fail
            refine Calls.mono (c2 w5 _ h5) ?_
            rintro e w6 ⟨rfl, h6, t6⟩
            clear c2 h5
            rw [HE3.out] at h6
            have t56 := t5.trans t6
            have hrw6 := marks_under HRW.out t56 (fun k hk => by simp at hk; omega)
            have hbx6 := hbx.turn t56 (by simp; omega)
            have hB6 := Turn.under hbr t56 (fun k hk => by simp at hk; omega)
            have hs6 : w3.heap.size ≤ w6.heap.size := Nat.le_trans hs (t56.size)
            obtain ⟨css6, p1, p2, p3, p4⟩ := hrw6
            have HP1 := Hid.mk p1
            have HP2 := Hid.mk p2
            have HP3 := Hid.mk p3
            obtain ⟨w7, hw7⟩ : ∃ x, x = w6.alloc (.cells #[.string (strOfNums tt), .int .i64 gv] 67) := ⟨_, rfl⟩
            have hb7 : Below w6.heap.size w6 w7 := by rw [hw7]; exact (Below.refl _ _).alloc (Nat.le_refl _) _
            have hbxn : Bx w7 w6.heap.size [.string (strOfNums tt), .int .i64 gv] := by rw [hw7]; exact Bx.new _ _ _
            have hB7 := hB6.trans (hb7.mono hB6.size)
            have ho7 := own_below p4 hb7
            have hr7 := h6.under hb7
            have hbx7 := hbx6.under hb7
            have hs7 : w3.heap.size ≤ w7.heap.size := Nat.le_trans hs6 hb7.size
            have hml : marks.length ≤ 1048578 := by omega
            clear p1 p2 p3 p4 h6 hbx6 hrd r1 r2 r3 r4 hbx t5 t6 t56
            go_wp2_with (at_builtin; rw [← hw7]; refine wpList_append_own_at _ rfl _ _ 61 rfl w3.heap.size 67 iM (.agg #[.string ⟨#[]⟩, .int .i64 0]) 2 24 Tryd.underlying61 hiM hzM0 hzM1 hzM2 rfl (by decide) _ _ _ rfl ho7 ⟨w6.heap.size, 0, none⟩ 1 1 [.string (strOfNums tt), .int .i64 gv] rfl rfl (bx_news hbxn) (by intro u hu; simp at hu; rcases hu with rfl | rfl <;> rfl) (by unfold maxLen; omega) (by omega) hs7 ?_)
            intro v8 w8 ho8 hgr8 hnil8 hloc8
            try rw [← hw7] at hgr8
            have hge8 : ∀ k, (Value.slice aM marks.length cM).ownBlock = some k → w3.heap.size ≤ k := fun k h => (ho7.lt k h).1
            have ht8 := turnOwn hgr8
            have hge8' : ∀ k, k ∈ ((Value.slice aM marks.length cM).ownBlock).toList → w3.heap.size ≤ k := fun k h => hge8 k (by simpa using h)
            have HR8 := Hid.mk (hr7.far ht8 (fun k hk => by have := hge8' k hk; omega))
            have HB8 := Hid.mk (hbx7.turn ht8 (fun hm => by have := hge8' _ hm; omega))
            have hB8 := hB7.grown hgr8 hB7.size (fun k h => by have := hge8 k h; omega)
            have HRN : Hid (RowR 2 67 rMark w.heap.size w8 w3.heap.size v8 (marks ++ [(strOfNums tt, gv)])) := RowR.push rMark_good HP1.out HP2.out HP3.out ((hb7.mono (by omega)).grown hgr8 hB7.size (fun k h => by have := hge8 k h; omega)) rfl rfl ho8
            have hs8 : w3.heap.size ≤ w8.heap.size := Nat.le_trans hs7 hgr8.size
            obtain ⟨a8, c8, rfl⟩ := own_slice ho8
            clear ho8 hgr8 hloc8 hnil8 ht8 hr7 hbx7 ho7 hbxn hw7
            go_wp2_with fail
            go_roundw
            case rel => exact ⟨f, xR2 zz, xBad zz false, marks ++ [(strOfNums tt, gv)], by simp; omega, fun h => by have := HZB.out h; simp; omega, fun _ => by simp; omega, by simp; omega, HZO.out.1, HZO.out.2, HST, HR8.out, HRN.out, HB8.out, hs8, hB8⟩
            case measure => simp [lenV]; omega
        · have HOUT : Hid (ixrGo gn f zz bad (marks.map fun m => m.2) = (marks.map (fun m => m.2), zz, bad)) := by
            show _ = _
            cases f with
            | zero => rfl
            | succ f => rw [ixrGo, if_neg (by rintro ⟨h, _⟩; apply hgo; simpa using h)]
          cases bad with
          | true =>
            have HN : Hid (ixR zs = none) := by show _ = _; rw [HIB.out, HGO.out, HOUT.out]; unfold ixrE; rw [if_neg (by simp)]
            have y0 := hbx.cell 0 _ rfl
            have y1 := hbx.cell 1 _ rfl
            have y2 := hbx.cell 2 _ rfl
            have f0 := hbx.free 0
            have f1 := hbx.free 1
            have f2 := hbx.free 2
            have hlw := hbx.lt
            have hEr := hE.below hbr
            clear HIB HGO HOUT r1 r2 r3 r4
            go_wp2_with fail
            refine Calls.mono (noTable_any _ pe wr hEr) ?_
            rintro e wr ⟨rfl, rfl⟩
            obtain ⟨w7, hw7⟩ : ∃ x, x = ((wr.setCell ⟨w.heap.size, 0, none⟩ (.slice none 0 0)).setCell ⟨w.heap.size, 1, none⟩ (.slice none 0 0)).setCell ⟨w.heap.size, 2, none⟩ (.int .i64 0) := ⟨_, rfl⟩
            have hT7 : Turn [w.heap.size] wr w7 := by rw [hw7]; exact (((Turn.refl _ _).setCell (by simp) _).setCell (by simp) _).setCell (by simp) _
            have hb7 : Bw w7 w.heap.size 63 [.slice none 0 0, .slice none 0 0, .int .i64 0] := by rw [hw7]; exact ((hbx.put 0 _).put 1 _).put 2 _
            have hB7 := Turn.under hbr hT7 (fun k hk => by simp at hk; omega)
            have HW7 := Hid.mk hw7
            clear hw7 hT7
            unfold partV errV
            go_wp2_with fail
            rw [← HW7.out]
            have q0 := hb7.cell 0 _ rfl
            have q1 := hb7.cell 1 _ rfl
            have q2 := hb7.cell 2 _ rfl
            refine bodyPost_ret (v := .tuple #[.agg #[.slice none 0 0, .slice none 0 0, .int .i64 0], partV ⟨#[105, 110, 100, 101, 120]⟩ pe]) (by simp [results, Tryd.results34, go_sem, partV, errV, *]) rfl ?_
            exact ⟨hB7, .inl ⟨HN.out, _, rfl⟩⟩
          | false =>
            by_cases h8 : zz.length = 8
            · have HY : Hid (ixR zs = some (marks.map fun m => m.2)) := by show _ = _; rw [HIB.out, HGO.out, HOUT.out]; unfold ixrE; rw [if_pos ⟨rfl, h8⟩]
              have h8i : (zz.length : Int) = 8 := by omega
              have y0 := hbx.cell 0 _ rfl
              have y1 := hbx.cell 1 _ rfl
              have y2 := hbx.cell 2 _ rfl
              have f0 := hbx.free 0
              have f1 := hbx.free 1
              have f2 := hbx.free 2
              have hlw := hbx.lt
              rw [h8] at k0
              obtain ⟨w7, hw7⟩ : ∃ x, x = ((wr.setCell ⟨w.heap.size, 0, none⟩ (.slice aM marks.length cM)).setCell ⟨w.heap.size, 1, none⟩ (.slice ar 8 cr)).setCell ⟨w.heap.size, 2, none⟩ (.int .i64 R) := ⟨_, rfl⟩
              have hT7 : Turn [w.heap.size] wr w7 := by rw [hw7]; exact (((Turn.refl _ _).setCell (by simp) _).setCell (by simp) _).setCell (by simp) _
              have hb7 : Bw w7 w.heap.size 63 [.slice aM marks.length cM, .slice ar 8 cr, .int .i64 R] := by rw [hw7]; exact ((hbx.put 0 _).put 1 _).put 2 _
              have hB7 := Turn.under hbr hT7 (fun k hk => by simp at hk; omega)
              have HRM := Hid.mk (marks_under HRW.out hT7 (fun k hk => by simp at hk; omega))
              have HW7 := Hid.mk hw7
              have hml : marks.length ≤ 1048578 := by omega
              clear hw7 hT7 r1 r2 r3 r4 h8i
              go_wp2_with fail
              rw [← HW7.out]
              have q0 := hb7.cell 0 _ rfl
              have q1 := hb7.cell 1 _ rfl
              have q2 := hb7.cell 2 _ rfl
              refine bodyPost_ret (v := .tuple #[.agg #[.slice aM marks.length cM, .slice ar 8 cr, .int .i64 R], .nilIface]) (by simp [results, Tryd.results34, go_sem, *]) rfl ?_
              refine ⟨hB7, .inr ⟨_, marks, _, _, HY.out, rfl, by rw [HR.out], ?_, by rw [HR.out]; exact hR0, by rw [HR.out]; exact hR1, hml, _, _, _, rfl⟩⟩
              obtain ⟨css, g1, g2, g3, g4⟩ := HRM.out
              exact ⟨css, g1, g2, g3, own_base g4 (by omega)⟩
            · have h8i : ¬ (zz.length : Int) = 8 := by omega
              have HN : Hid (ixR zs = none) := by show _ = _; rw [HIB.out, HGO.out, HOUT.out]; unfold ixrE; rw [if_neg (by rintro ⟨_, h⟩; exact h8 h)]
              have y0 := hbx.cell 0 _ rfl
              have y1 := hbx.cell 1 _ rfl
              have y2 := hbx.cell 2 _ rfl
              have f0 := hbx.free 0
              have f1 := hbx.free 1
              have f2 := hbx.free 2
              have hlw := hbx.lt
              have hEr := hE.below hbr
              clear HIB HGO HOUT r1 r2 r3 r4
              go_wp2_with fail
              refine Calls.mono (noTable_any _ pe wr hEr) ?_
              rintro e wr ⟨rfl, rfl⟩
              obtain ⟨w7, hw7⟩ : ∃ x, x = ((wr.setCell ⟨w.heap.size, 0, none⟩ (.slice none 0 0)).setCell ⟨w.heap.size, 1, none⟩ (.slice none 0 0)).setCell ⟨w.heap.size, 2, none⟩ (.int .i64 0) := ⟨_, rfl⟩
              have hT7 : Turn [w.heap.size] wr w7 := by rw [hw7]; exact (((Turn.refl _ _).setCell (by simp) _).setCell (by simp) _).setCell (by simp) _
              have hb7 : Bw w7 w.heap.size 63 [.slice none 0 0, .slice none 0 0, .int .i64 0] := by rw [hw7]; exact ((hbx.put 0 _).put 1 _).put 2 _
              have hB7 := Turn.under hbr hT7 (fun k hk => by simp at hk; omega)
              have HW7 := Hid.mk hw7
              clear hw7 hT7
              unfold partV errV
              go_wp2_with fail
              rw [← HW7.out]
              have q0 := hb7.cell 0 _ rfl
              have q1 := hb7.cell 1 _ rfl
              have q2 := hb7.cell 2 _ rfl
              refine bodyPost_ret (v := .tuple #[.agg #[.slice none 0 0, .slice none 0 0, .int .i64 0], partV ⟨#[105, 110, 100, 101, 120]⟩ pe]) (by simp [results, Tryd.results34, go_sem, partV, errV, *]) rfl ?_
              exact ⟨hB7, .inl ⟨HN.out, _, rfl⟩⟩
    · have HN : Hid (ixR zs = none) := HUB.out hU
      have y0 := hbx2.cell 0 _ rfl
      have y1 := hbx2.cell 1 _ rfl
      have y2 := hbx2.cell 2 _ rfl
      have f0 := hbx2.free 0
      have f1 := hbx2.free 1
      have f2 := hbx2.free 2
      have hlw := hbx2.lt
      clear HUY HUB HUI hob
      cases fine with
      | false =>
        go_wp2_with fail
        refine Calls.mono (noTable_any _ pe w2 hE2) ?_
        rintro e w2 ⟨rfl, rfl⟩
        obtain ⟨w7, hw7⟩ : ∃ x, x = ((w2.setCell ⟨w.heap.size, 0, none⟩ (.slice none 0 0)).setCell ⟨w.heap.size, 1, none⟩ (.slice none 0 0)).setCell ⟨w.heap.size, 2, none⟩ (.int .i64 0) := ⟨_, rfl⟩
        have hT7 : Turn [w.heap.size] w2 w7 := by rw [hw7]; exact (((Turn.refl _ _).setCell (by simp) _).setCell (by simp) _).setCell (by simp) _
        have hb7 : Bw w7 w.heap.size 63 [.slice none 0 0, .slice none 0 0, .int .i64 0] := by rw [hw7]; exact ((hbx2.put 0 _).put 1 _).put 2 _
        have hB7 := Turn.under hB2 hT7 (fun k hk => by simp at hk; omega)
        have HW7 := Hid.mk hw7
        clear hw7 hT7
        unfold partV errV
        go_wp2_with fail
        rw [← HW7.out]
        have q0 := hb7.cell 0 _ rfl
        have q1 := hb7.cell 1 _ rfl
        have q2 := hb7.cell 2 _ rfl
        refine bodyPost_ret (v := .tuple #[.agg #[.slice none 0 0, .slice none 0 0, .int .i64 0], partV ⟨#[102, 114, 97, 109, 101, 32, 111, 102, 32, 116, 104, 101, 32, 105, 110, 100, 101, 120]⟩ pe]) (by simp [results, Tryd.results34, go_sem, partV, errV, *]) rfl ?_
        exact ⟨hB7, .inl ⟨HN.out, _, rfl⟩⟩
      | true =>
        have hnx : ¬ nx = (m : Int) := fun h => hU ⟨rfl, h⟩
        clear hU
        go_wp2_with fail
        refine Calls.mono (noTable_any _ pe w2 hE2) ?_
        rintro e w2 ⟨rfl, rfl⟩
        obtain ⟨w7, hw7⟩ : ∃ x, x = ((w2.setCell ⟨w.heap.size, 0, none⟩ (.slice none 0 0)).setCell ⟨w.heap.size, 1, none⟩ (.slice none 0 0)).setCell ⟨w.heap.size, 2, none⟩ (.int .i64 0) := ⟨_, rfl⟩
        have hT7 : Turn [w.heap.size] w2 w7 := by rw [hw7]; exact (((Turn.refl _ _).setCell (by simp) _).setCell (by simp) _).setCell (by simp) _
        have hb7 : Bw w7 w.heap.size 63 [.slice none 0 0, .slice none 0 0, .int .i64 0] := by rw [hw7]; exact ((hbx2.put 0 _).put 1 _).put 2 _
        have hB7 := Turn.under hB2 hT7 (fun k hk => by simp at hk; omega)
        have HW7 := Hid.mk hw7
        clear hw7 hT7
        unfold partV errV
        go_wp2_with fail
        rw [← HW7.out]
        have q0 := hb7.cell 0 _ rfl
        have q1 := hb7.cell 1 _ rfl
        have q2 := hb7.cell 2 _ rfl
        refine bodyPost_ret (v := .tuple #[.agg #[.slice none 0 0, .slice none 0 0, .int .i64 0], partV ⟨#[102, 114, 97, 109, 101, 32, 111, 102, 32, 116, 104, 101, 32, 105, 110, 100, 101, 120]⟩ pe]) (by simp [results, Tryd.results34, go_sem, partV, errV, *]) rfl ?_
        exact ⟨hB7, .inl ⟨HN.out, _, rfl⟩⟩

end Go.Proofs.YtocgbeoglgkibaaDoor

namespace Go.Proofs.YtocgbeoglgkibaaDoor
open Go.RowKit Go.Extern.Stop Go.Stop Go.Extern

theorem Tryd.isTypeOf (v : Value) (w : World) : (Extern.ReflectliteType.typeOf #[.iface 122 v]).run Tryd.prog w = .ok (.iface 95 (.agg #[.pointer (some ⟨4, 122, none⟩)])) w := by kernel_rfl
theorem Tryd.isComparable (w : World) : ((Extern.ReflectliteType.method fun t => do Extern.Rtype.noPackHeld "Comparable" t; Functor.map (fun a => Value.bool a.comparable) (typeInfo t)) #[.agg #[.pointer (some ⟨4, 122, none⟩)]]).run Tryd.prog w = .ok (.bool true) w := by kernel_rfl
theorem Tryd.isComp : (Tryd.prog.info? 122).map (·.comparable) = some true := by kernel_rfl
theorem Tryd.isSize : (Tryd.prog.info? 145).map (·.size) = some 1 := by kernel_rfl
theorem Tryd.noIsP (v : Value) (xT : TypeId) (w : World) : (Instr.typeAssert (.iface 93 v) xT 97 true).run Tryd.prog w = .ok (.tuple #[.nilIface, .bool false]) w := run_typeAssert_lacksB Tryd.underlying97 (by kernel_rfl) (by kernel_rfl) v xT w
theorem Tryd.hasUnwrapP (v : Value) (xT : TypeId) (w : World) : (Instr.typeAssert (.iface 93 v) xT 100 true).run Tryd.prog w = .ok (.tuple #[.iface 93 v, .bool true]) w := run_typeAssert_hasB Tryd.underlying100 (by kernel_rfl) v xT w

theorem Tryd.isMethodC (v : Value) (w : World) : (Go.method 256 95 v "Comparable").run Tryd.prog w = .ok (98, v) w := by kernel_rfl
theorem Tryd.isMethodU (v : Value) (w : World) : (Go.method 256 93 v "Unwrap").run Tryd.prog w = .ok (94, v) w := by kernel_rfl

/-- errors.Is(nil, x). -/
theorem is_nil (b : Addr) (w : World) :
    Calls Tryd.prog 17 #[.nilIface, errV b] w fun e w' => e = .returned (.bool false) ∧ w' = w := by
  unfold errV
  have hn := run_eql_iface_nil_left (P := Tryd.prog) w 122 (.pointer (some b)) Tryd.underlying39
  go_enter Tryd.func17, Tryd.ntmps17
  go_wp2
  go_ret
  exact ⟨rfl, rfl⟩

/-- errors.Is(e, x), e an error of a part that wraps x. -/
theorem is_part (s : ByteArray) (b : Addr) (w : World) :
    Calls Tryd.prog 17 #[partV s b, errV b] w fun e w' => e = .returned (.bool true) ∧ Below w.heap.size w w' := by
  unfold partV errV
  obtain ⟨i, hi, hcmp⟩ := Option.map_eq_some_iff.1 Tryd.isComp
  obtain ⟨j, hj, hjs⟩ := Option.map_eq_some_iff.1 Tryd.isSize
  have h8 := @run_callFunc_extern Tryd.prog 37 _ Extern.ReflectliteType.typeOf Tryd.func37 (by kernel_rfl) (by kernel_rfl) (by kernel_rfl) (by kernel_rfl)
  have h32 := @run_callFunc_extern Tryd.prog 98 _ (Extern.ReflectliteType.method fun t => do Extern.Rtype.noPackHeld "Comparable" t; pure (.bool (← typeInfo t).comparable)) Tryd.func98 (by kernel_rfl) (by kernel_rfl) (by kernel_rfl) (by kernel_rfl)
  have tT := Tryd.isTypeOf
  have cT := Tryd.isComparable
  have nP := Tryd.noIsP
  have uP := Tryd.hasUnwrapP
  have hty := fun W => run_eql_iface_types (P := Tryd.prog) 93 122 (.agg #[.string s, .iface 122 (.pointer (some b))]) (.pointer (some b)) Tryd.underlying39 (by decide) W
  have mC := Tryd.isMethodC
  have mU := Tryd.isMethodU
  have heq := fun W => run_eql_iface_ptr_same (P := Tryd.prog) W b Tryd.underlying39 Tryd.underlying122 hi hcmp hj
  go_enter Tryd.func17, Tryd.ntmps17
  go_wp2
  refine wp_loop_rounds 2 ?_
  rw [rounds_succ]
  go_wp2
  rw [rounds_succ]
  go_wp2
  go_ret
  exact ⟨rfl, (Below.refl _ _).alloc (Nat.le_refl _) _⟩

end Go.Proofs.YtocgbeoglgkibaaDoor

namespace Go.Proofs.YtocgbeoglgkibaaDoor
open Go.RowKit Go.Maps
abbrev qf5e_13_15_0 : Oper := ⟨some 88, .move (.tmp 10), 9, "l05_table.go:124", #[], none⟩
abbrev qf5e_13_15_1 : Oper := ⟨some 89, .move (.tmp 12), 3, "l05_table.go:124", #[], none⟩
abbrev qf5e_13_15_2 : Oper := ⟨some 90, .slice 9 (.tmp 88) none (some (.tmp 89)) none, 9, "l05_table.go:124", #[⟨0, .data⟩, ⟨1, .data⟩], none⟩
abbrev qf5e_13_15_3 : Oper := ⟨some 91, .move (.tmp 15), 9, "l05_table.go:124", #[], none⟩
abbrev qf5e_13_15_4 : Oper := ⟨some 92, .binOp .add 9 (.tmp 90) (.tmp 91) 9, 9, "l05_table.go:124", #[⟨2, .data⟩, ⟨3, .data⟩], none⟩
abbrev qf5e_13_15_5 : Oper := ⟨some 93, .move (.tmp 18), 9, "l05_table.go:124", #[], none⟩
abbrev qf5e_13_15_6 : Oper := ⟨some 94, .move (.tmp 7), 22, "l05_table.go:124", #[], none⟩
abbrev qf5e_13_15_7 : Oper := ⟨some 95, .move (.tmp 16), 3, "l05_table.go:124", #[], none⟩
abbrev qf5e_13_15_8 : Oper := ⟨some 96, .indexAddr 22 (.tmp 94) (.tmp 95), 0, "l05_table.go:124", #[⟨6, .data⟩, ⟨7, .data⟩], none⟩
abbrev qf5e_13_15_9 : Oper := ⟨some 97, .load 5 (.tmp 96), 5, "l05_table.go:124", #[⟨8, .data⟩], none⟩
abbrev qf5e_13_15_10 : Oper := ⟨some 98, .binOp .eql 5 (.tmp 97) (.const (.int .u8 1)) 5, 4, "l05_table.go:124", #[⟨9, .data⟩], none⟩
abbrev qf5e_13_15_11 : Oper := ⟨some 99, .build 45 #[(0, .tmp 92), (1, .tmp 93), (2, .tmp 98)], 45, "l05_table.go:124", #[⟨4, .data⟩, ⟨5, .data⟩, ⟨10, .data⟩], none⟩
abbrev qf5e_13_15_12 : Oper := ⟨some 21, .alloc 45, 0, "l05_table.go:124", #[], none⟩
abbrev qf5e_13_15_13 : Oper := ⟨none, .store 45 (.tmp 21) (.tmp 99), 0, "l05_table.go:124", #[⟨12, .data⟩, ⟨11, .data⟩, ⟨0, .phase⟩, ⟨1, .phase⟩, ⟨2, .phase⟩, ⟨3, .phase⟩, ⟨4, .phase⟩, ⟨5, .phase⟩, ⟨6, .phase⟩, ⟨7, .phase⟩, ⟨8, .phase⟩, ⟨9, .phase⟩, ⟨10, .phase⟩, ⟨11, .phase⟩, ⟨12, .phase⟩], none⟩

def PrPost (w : World) (r : List MPair × Bool) (e : Ending) (w' : World) : Prop :=
  ∃ v : Value, e = .returned (.tuple #[v, .bool r.2]) ∧ RowR 3 45 rPair w.heap.size w' w.heap.size v r.1 ∧ Below w.heap.size w w'
theorem prsAt_no {zs : List Int} {p : Int} (h : (unframe zs p).2.2 = false) : prsAt zs p = ([], false) := by unfold prsAt; rw [if_neg (by rw [h]; simp)]
theorem prsAt_yes {zs : List Int} {p : Int} (h : (unframe zs p).2.2 = true) : prsAt zs p = prsS (unframe zs p).1 := by unfold prsAt; rw [if_pos h]
theorem row_nil (w : World) : RowR 3 45 rPair w.heap.size (w.alloc (.cells #[] 45)) w.heap.size (.slice (some ⟨w.heap.size, 0, none⟩) 0 0) [] :=
  ⟨[], rfl, (fun _ h => by cases h), (fun _ h => by simp at h), by have h := own_lit1 w w.heap.size 45 3 (Nat.le_refl _); simpa using h⟩
theorem row_below {B base : Nat} {w w' : World} {v : Value} {l : List MPair} (h : RowR 3 45 rPair B w base v l) (hb : Below w.heap.size w w') (hB : B ≤ w.heap.size) : RowR 3 45 rPair B w' base v l := by
  obtain ⟨css, h1, h2, h3, h4⟩ := h
  exact ⟨css, h1, h2, fun j hj hj2 => rPair_good.below (h3 j hj hj2) (hb.mono hB), own_below h4 hb⟩
set_option maxHeartbeats 8000000 in
theorem l5Pairs_any (a : Option Addr) (n cap : Nat) (zs : List Int) (p : Int) (w : World) (hx : zs.length = n) (hlen : n ≤ 1048576) (hcap : n ≤ cap) (hb : BytesOk zs) (hr : Rd .u8 w.heap.size w a zs) :
    Calls Tryd.prog 13 #[.slice a n cap, .int .i64 p] w (PrPost w (prsAt zs p)) := by
  obtain ⟨iT, hiT, hz0, hz1, hz2⟩ := info_parts Tryd.infoPair
  have HX := Hid.mk hx
  clear hx
  obtain ⟨wo, hwo⟩ : ∃ x, x = w.alloc (.cells #[] 45) := ⟨_, rfl⟩
  have hbo : Below w.heap.size w wo := by rw [hwo]; exact (Below.refl _ _).alloc (Nat.le_refl _) _
  have hrow : RowR 3 45 rPair w.heap.size wo w.heap.size (.slice (some ⟨w.heap.size, 0, none⟩) 0 0) [] := by rw [hwo]; exact row_nil w
  have HWO := Hid.mk hwo
  clear hwo
  have hro := (hr.below hbo).mono hbo.size
  have hCu := specUnframe_any a n cap zs p wo HX.out (by omega) hcap hb hro
  have HUO : Hid (BytesOk (unframe zs p).1) := unframe_okB hb
  have HUL : Hid ((unframe zs p).1.length ≤ n) := by have h := unframe_len zs p; rw [HX.out] at h; exact h
  have HPN : Hid ((unframe zs p).2.2 = false → prsAt zs p = ([], false)) := prsAt_no
  have HPY : Hid ((unframe zs p).2.2 = true → prsAt zs p = prsS (unframe zs p).1) := prsAt_yes
  generalize unframe zs p = U at *
  obtain ⟨body, nx, fine⟩ := U
  simp only at HUO HUL HPN HPY
  clear hro hr hb
  go_enter Tryd.func13, Tryd.ntmps13
  go_wp2_with fail
  rw [← HWO.out]
  refine Calls.mono hCu ?_
  rintro e w2 ⟨vb, rfl, hob, hx2⟩
  simp only at hob
  have hrow2 := row_below hrow hx2 hbo.size
  have hB2 := hbo.trans (hx2.mono hbo.size)
  obtain ⟨css0, q1, q2, q3, q4⟩ := id hrow
  have hdBO := dis_new hob (Nat.le_refl _) q4
  clear hrow q1 q2 q3 q4 css0 hCu
  cases fine with
  | false =>
    have HE : Hid (prsAt zs p = ([], false)) := HPN.out rfl
    have HR2 := Hid.mk hrow2
    clear hrow2 hob hdBO
    go_wp2_with fail
    go_ret2
    exact ⟨_, (by first | (rw [HE.out]; done) | (rw [HE.out]; rfl)), by rw [HE.out]; exact HR2.out, hB2⟩
  | true =>
    have HE : Hid (prsAt zs p = prsS body) := HPY.out rfl
    clear HPN HPY
    obtain ⟨bl, hbl⟩ : ∃ bl, bl = body.length := ⟨_, rfl⟩
    have HBL : Hid (body.length = bl) := hbl.symm
    have hbm : bl ≤ 1048576 := by have h := HUL.out; omega
    obtain ⟨ab, cb, rfl, hcb, _⟩ := own_rd rfl hob
    have hcb2 : bl ≤ cb := by omega
    rw [← hbl] at hob hdBO ⊢
    have HST : Hid (prsS body = spGo body (bl + 1) 0 ByteArray.empty []) := by show _ = _; unfold prsS; rw [HBL.out]
    clear hbl HUL hcb hx2
    go_wp2_with fail
    go_loopw [6, 10, 11] (fun vO sv kv wr => ∃ (f : Nat) (k : Int) (last : ByteArray) (out : List MPair), kv = .int .i64 k ∧ sv = .string last ∧ 0 ≤ k ∧ k ≤ bl ∧ (last.size : Int) ≤ k ∧ (out.length : Int) ≤ k ∧ bl + 1 ≤ f + k.toNat ∧ Hid (prsS body = spGo body f k last out) ∧ RowR 3 45 rPair w.heap.size wr w.heap.size vO out ∧ wr.ownsRow wo.heap.size 5 1 (.slice ab bl cb) bl (body.map (Value.int .u8)) ∧ Dis vO (.slice ab bl cb) ∧ Below w.heap.size w wr) (fun _ _ kv _ => bl + 1 - (intOf kv).toNat)
    case atStart => exact ⟨bl + 1, 0, ByteArray.empty, [], rfl, rfl, Int.le_refl _, by omega, by simp, by simp, by simp, HST, hrow2, hob, hdBO.symm, hB2⟩
    case round =>
      clear hrow2 hob hdBO hB2 HST
      obtain ⟨f, k, last, out, rfl, rfl, hk0, hk1, hls, hol, hf, HGO, hrow, hoB, hdOB, hbr⟩ := hrel
      obtain ⟨css, r1, r2, r3, r4⟩ := id hrow
      obtain ⟨aO, cO, rfl⟩ := own_slice r4
      have HRW := Hid.mk hrow
      clear hrow
      by_cases hkl : k < bl
      · obtain ⟨f, rfl⟩ : ∃ g, f = g + 1 := ⟨f - 1, by omega⟩
        have HN : Hid (spStep body k last = none → prsAt zs p = (out, false)) := fun h => by rw [HE.out, HGO.out, spGo, if_neg (by rw [HBL.out]; omega), h]
        have HS : Hid (∀ q e, spStep body k last = some (q, e) → prsS body = spGo body f e q.fKey (out ++ [q])) := fun q e h => by rw [HGO.out, spGo, if_neg (by rw [HBL.out]; omega), h]
        obtain ⟨ab', cb', hab, _, hRb⟩ := own_rd HBL.out hoB
        simp only [Value.slice.injEq, true_and] at hab
        obtain ⟨rfl, rfl⟩ := hab
        have hCg := specGetNum_any ab bl cb body k wr wr.heap.size HBL.out (by omega) HUO.out hRb
        obtain ⟨G, hG⟩ : ∃ G, G = getNum body k := ⟨_, rfl⟩
        have HGB : Hid (G.2.2 = true → 0 ≤ G.1 ∧ 0 ≤ G.2.1) := fun h => by rw [hG] at h ⊢; have h1 := getNum_bounds h; omega
        rw [← hG] at hCg
        obtain ⟨gn, ga, gok⟩ := G
        have hCt := specGetText_any ab bl cb body ga wr wr.heap.size HBL.out (by omega) (by omega) HUO.out hRb
        obtain ⟨T, hT⟩ : ∃ T, T = getText body ga := ⟨_, rfl⟩
        have HTB : Hid (T.2.2 = true → 0 ≤ T.2.1 ∧ T.1.length ≤ bl) := fun h => by rw [hT] at h ⊢; have h1 := getText_gt h; have h2 := HBL.out; have h3 := HTL body ga; omega
        rw [← hT] at hCt
        obtain ⟨tt, tm, tok⟩ := T
        obtain ⟨V, hV⟩ : ∃ V, V = getText body (tm + 1) := ⟨_, rfl⟩
        have hCv := specGetText_any ab bl cb body (tm + 1) wr wr.heap.size HBL.out (by omega) (by omega) HUO.out hRb
        rw [← hV] at hCv
        have HVB : Hid (V.1.length ≤ bl) := by rw [hV]; have h3 := HTL body (tm + 1); have h2 := HBL.out; show _ ≤ _; omega
        obtain ⟨vv, ve, vok⟩ := V
        have HG : Hid (getNum body k = (gn, ga, gok)) := hG.symm
        have HT : Hid (getText body (gn, ga, gok).2.1 = (tt, tm, tok)) := hT.symm
        have HV : Hid (getText body (((tt, tm, tok) : List Int × Int × Bool).2.1 + 1) = (vv, ve, vok)) := hV.symm
        simp only at HGB HTB HVB
        unfold numVal at hCg
        unfold textVal at hCt hCv
        simp only at hCg hCt hCv
        clear hG hT hV
        go_wp2_with fail
        refine Calls.mono hCg ?_
        rintro e wr ⟨rfl, rfl⟩
        go_wp2_with fail
        refine Calls.mono hCt ?_
        rintro e wr ⟨rfl, rfl⟩
        clear hCg hCt
        cases gok with
        | false =>
          have HF : Hid (prsAt zs p = (out, false)) := HN.out (spStep_no HG.out HT.out HV.out (by simp))
          clear HN HS HG HT HV
          go_wp2_with fail
          go_ret2
          exact ⟨_, (by first | (rw [HF.out]; done) | (rw [HF.out]; rfl)), by rw [HF.out]; exact HRW.out, hbr⟩
        | true =>
          cases tok with
          | false =>
            have HF : Hid (prsAt zs p = (out, false)) := HN.out (spStep_no HG.out HT.out HV.out (by simp))
            clear HN HS HG HT HV
            go_wp2_with fail
            go_ret2
            exact ⟨_, (by first | (rw [HF.out]; done) | (rw [HF.out]; rfl)), by rw [HF.out]; exact HRW.out, hbr⟩
          | true =>
            obtain ⟨hg0, hga0⟩ := HGB.out rfl
            obtain ⟨htm0, htl⟩ := HTB.out rfl
            have hvl := HVB.out
            by_cases hgl : gn ≤ last.size
            · by_cases htb : tm < bl
              · obtain ⟨tmn, htmn⟩ : ∃ x : Nat, (x : Int) = tm := ⟨tm.toNat, by omega⟩
                subst htmn
                obtain ⟨b1, o1, rfl, hB1, hc1⟩ := hRb tmn (by rw [HBL.out]; omega)
                obtain ⟨c, hc⟩ : ∃ c, c = body.getD tmn 0 := ⟨_, rfl⟩
                have HC : Hid (body.getD ((tmn : Nat) : Int).toNat 0 = c) := by show _ = _; rw [hc, Int.toNat_natCast]
                have hcb0 : 0 ≤ c ∧ c ≤ 255 := by rw [hc]; exact HUO.out.getD tmn
                rw [← hc] at hc1
                clear hc
                by_cases hc2 : c ≤ 1
                · cases vok with
                  | false =>
                    go_wp2_with fail
                    refine Calls.mono hCv ?_
                    rintro e wr ⟨rfl, rfl⟩
                    clear hCv
                    have HF : Hid (prsAt zs p = (out, false)) := HN.out (spStep_no HG.out HT.out HV.out (by simp))
                    clear HN HS HG HT HV
                    go_wp2_with fail
                    go_ret2
                    exact ⟨_, (by first | (rw [HF.out]; done) | (rw [HF.out]; rfl)), by rw [HF.out]; exact HRW.out, hbr⟩
                  | true =>
                    obtain ⟨gnn, hgnn⟩ : ∃ x : Nat, (x : Int) = gn := ⟨gn.toNat, by omega⟩
                    subst hgnn
                    have HY := spStep_yes (last := last) HG.out HT.out HV.out ⟨rfl, rfl, hgl, by rw [HBL.out]; exact htb, by rw [HC.out]; exact hc2, rfl⟩
                    rw [HC.out] at HY
                    obtain ⟨q, hq⟩ : ∃ q : MPair, q = ⟨last.extract 0 gnn ++ strOfNums tt, strOfNums vv, decide (c = 1)⟩ := ⟨_, rfl⟩
                    have hqk : q.fKey = last.extract 0 gnn ++ strOfNums tt := by rw [hq]
                    have hqv : q.fVal = strOfNums vv := by rw [hq]
                    have hqg : q.fGone = decide (c = 1) := by rw [hq]
                    replace HY : spStep body k last = some (q, ve) := by rw [hq]; exact HY
                    have HNX : Hid (prsS body = spGo body f ve q.fKey (out ++ [q])) := HS.out q ve HY
                    obtain ⟨e1, e2, e3⟩ := spStep_bd hk0 hls HY
                    rw [HBL.out] at e2
                    have hks : q.fKey.size ≤ 1048576 := by omega
                    have hvs : q.fVal.size ≤ 1048576 := by omega
                    have hsz : last.size ≤ 1048576 := by omega
                    have hse2 : ¬ 9223372036854775807 < gnn + (strOfNums tt).size := by rw [strOfNums_size]; omega
                    have HQ : Hid (q.fKey = last.extract 0 gnn ++ strOfNums tt ∧ q.fVal = strOfNums vv ∧ q.fGone = decide (c = 1)) := ⟨hqk, hqv, hqg⟩
                    have HFI : Hid ((out.length : Int) + 1 ≤ ve ∧ (q.fKey.size : Int) ≤ ve ∧ k < ve ∧ ve ≤ bl) := ⟨by omega, by omega, by omega, by omega⟩
                    clear hq hqk hqv hqg HY HS HN HG HT HV
                    go_wp2_with fail
                    refine Calls.mono hCv ?_
                    rintro e wr ⟨rfl, rfl⟩
                    clear hCv
                    go_wp2_with fail
                    have y0 : ∀ W, Below wr.heap.size wr W → W.cell? ⟨b1, o1 + tmn, none⟩ = some (.int .u8 c) := fun W hW => (hW.cell (p := ⟨b1, o1 + tmn, none⟩) hB1).trans hc1
                    refine wp_region_held_drew (S := fun W => Below wr.heap.size wr W) (by kernel_rfl) (Below.drew (Below.refl _ _)) (fun hHeld => ?_)
                    refine tk 0 qf5e_13_15_0 (some 88) (v := ?v1) rfl rfl (by kernel_rfl) hHeld (by rfl) (fun _ _ _ x => x) (fun w h => ?y1) ?_; (case y1 => (try dsimp only at h); go_simp; try (with_reducible rfl)); try simp only [Act.put, sa, s0, s1]
                    refine tk 1 qf5e_13_15_1 (some 89) (v := ?v2) rfl rfl (by kernel_rfl) hHeld (by rfl) (fun _ _ _ x => x) (fun w h => ?y2) ?_; (case y2 => (try dsimp only at h); go_simp; try (with_reducible rfl)); try simp only [Act.put, sa, s0, s1]
                    refine tk 2 qf5e_13_15_2 (some 90) (v := ?v3) rfl rfl (by kernel_rfl) hHeld (by rfl) (fun _ _ _ x => x) (fun w h => ?y3) ?_; (case y3 => (try dsimp only at h); go_simp; try (with_reducible rfl)); try simp only [Act.put, sa, s0, s1]
                    refine tk 3 qf5e_13_15_3 (some 91) (v := ?v4) rfl rfl (by kernel_rfl) hHeld (by rfl) (fun _ _ _ x => x) (fun w h => ?y4) ?_; (case y4 => (try dsimp only at h); go_simp; try (with_reducible rfl)); try simp only [Act.put, sa, s0, s1]
                    refine tk 4 qf5e_13_15_4 (some 92) (v := ?v5) rfl rfl (by kernel_rfl) hHeld (by rfl) (fun _ _ _ x => x) (fun w h => ?y5) ?_; (case y5 => (try dsimp only at h); go_simp; try (with_reducible rfl)); try simp only [Act.put, sa, s0, s1]
                    refine tk 5 qf5e_13_15_5 (some 93) (v := ?v6) rfl rfl (by kernel_rfl) hHeld (by rfl) (fun _ _ _ x => x) (fun w h => ?y6) ?_; (case y6 => (try dsimp only at h); go_simp; try (with_reducible rfl)); try simp only [Act.put, sa, s0, s1]
                    refine tk 6 qf5e_13_15_6 (some 94) (v := ?v7) rfl rfl (by kernel_rfl) hHeld (by rfl) (fun _ _ _ x => x) (fun w h => ?y7) ?_; (case y7 => (try dsimp only at h); go_simp; try (with_reducible rfl)); try simp only [Act.put, sa, s0, s1]
                    refine tk 7 qf5e_13_15_7 (some 95) (v := ?v8) rfl rfl (by kernel_rfl) hHeld (by rfl) (fun _ _ _ x => x) (fun w h => ?y8) ?_; (case y8 => (try dsimp only at h); go_simp; try (with_reducible rfl)); try simp only [Act.put, sa, s0, s1]
                    refine tk 8 qf5e_13_15_8 (some 96) (v := ?v9) rfl rfl (by kernel_rfl) hHeld (by rfl) (fun _ _ _ x => x) (fun w h => ?y9) ?_; (case y9 => (try dsimp only at h); go_simp; try (with_reducible rfl)); try simp only [Act.put, sa, s0, s1]
                    refine tk 9 qf5e_13_15_9 (some 97) (v := ?v10) rfl rfl (by kernel_rfl) hHeld (by rfl) (fun _ _ _ x => x) (fun w h => ?y10) ?_; (case y10 => (try dsimp only at h); go_simp; try (with_reducible rfl)); try simp only [Act.put, sa, s0, s1]
                    refine tk 10 qf5e_13_15_10 (some 98) (v := ?v11) rfl rfl (by kernel_rfl) hHeld (by rfl) (fun _ _ _ x => x) (fun w h => ?y11) ?_; (case y11 => (try dsimp only at h); go_simp; try (with_reducible rfl)); try simp only [Act.put, sa, s0, s1]
                    refine tk 11 qf5e_13_15_11 (some 99) (v := ?v12) rfl rfl (by kernel_rfl) hHeld (by rfl) (fun _ _ _ x => x) (fun w h => ?y12) ?_; (case y12 => (try dsimp only at h); go_simp; try (with_reducible rfl)); try simp only [Act.put, sa, s0, s1]
                    refine wpAnyH_ready (rs := [12]) (by kernel_rfl) (by simp) ?_
                    refine AllReadyH.cons (o := qf5e_13_15_12) rfl (fun K hK => ?_) AllReadyH.nil
                    go_simp
                    obtain ⟨w5, hq5⟩ : ∃ x, x = (wr.alloc (.cells (List.toArray [Value.string ⟨List.toArray []⟩, Value.string ⟨List.toArray []⟩, Value.bool false]) 45)).drew := ⟨_, rfl⟩
                    have hop1 : Below wr.heap.size wr w5 := by rw [hq5]; exact Below.drew ((Below.refl _ _).alloc (Nat.le_refl _) _)
                    have hb5 : Bw w5 wr.heap.size 45 [Value.string ⟨List.toArray []⟩, Value.string ⟨List.toArray []⟩, Value.bool false] := by rw [hq5]; exact Bw.drew (Bw.new' _ _ _ (by simp))
                    rw [← hq5]
                    clear hq5
                    refine hK.out _ _ (hop1) (fun hHeld => ?_)
                    clear hK K
                    try simp only [Act.put, sa, s0, s1]
                    refine wpAnyH_ready (rs := [13]) (by kernel_rfl) (by simp) ?_
                    refine AllReadyH.cons (o := qf5e_13_15_13) rfl (fun K hK => ?_) AllReadyH.nil
                    have x0 := hb5.cell 0 _ rfl
                    have x1 := hb5.cell 1 _ rfl
                    have x2 := hb5.cell 2 _ rfl
                    have f0 := hb5.free 0
                    have f1 := hb5.free 1
                    have f2 := hb5.free 2
                    have hl5 := hb5.lt
                    go_simp
                    obtain ⟨w7, hq7⟩ : ∃ x, x = ((w5.setCell ⟨wr.heap.size, 0, none⟩ (.string (last.extract 0 gnn ++ strOfNums tt))).setCell ⟨wr.heap.size, 1, none⟩ (.string (strOfNums vv))).setCell ⟨wr.heap.size, 2, none⟩ (.bool (c == 1)) := ⟨_, rfl⟩
                    have hT57 : Turn [wr.heap.size] w5 w7 := by rw [hq7]; exact (((Turn.refl _ _).setCell (by simp) _).setCell (by simp) _).setCell (by simp) _
                    have hop2 : Below wr.heap.size wr w7 := Turn.under hop1 hT57 (fun k hk => by simp at hk; omega)
                    have hb7 : Bw w7 wr.heap.size 45 [.string (last.extract 0 gnn ++ strOfNums tt), .string (strOfNums vv), .bool (c == 1)] := by rw [hq7]; exact ((hb5.put 0 _).put 1 _).put 2 _
                    rw [← hq7]
                    clear hq7 x0 x1 x2 f0 f1 f2 hb5 hT57
                    refine hK.out _ _ (hop2) (fun hHeld => ?_)
                    clear hK K
                    try simp only [Act.put, sa, s0, s1]
                    refine wpAnyH_done (by kernel_rfl) ?_ _
                    have HCG : Hid ((c == 1) = q.fGone) := by show _ = _; rw [HQ.out.2.2]; rfl
                    rw [← HQ.out.1, ← HQ.out.2.1, HCG.out] at hb7
                    have p0 := hb7.cell 0 _ rfl
                    have p1 := hb7.cell 1 _ rfl
                    have p2 := hb7.cell 2 _ rfl
                    have HR1 := Hid.mk r1
                    have HR2 := Hid.mk r2
                    have HR3 := Hid.mk r3
                    have HO7 := own_below r4 hop2
                    have HB7 := own_below hoB hop2
                    obtain ⟨w8, hw8⟩ : ∃ x, x = w7.alloc (.cells #[.string q.fKey, .string q.fVal, .bool q.fGone] 45) := ⟨_, rfl⟩
                    have hb8 : Below w7.heap.size w7 w8 := by rw [hw8]; exact (Below.refl _ _).alloc (Nat.le_refl _) _
                    have hbx8 : Bx w8 w7.heap.size [.string q.fKey, .string q.fVal, .bool q.fGone] := by rw [hw8]; exact Bx.new _ _ _
                    have HO8 := own_below HO7 hb8
                    have HB8 := own_below HB7 hb8
                    have hop8 : Below wr.heap.size wr w8 := hop2.trans (hb8.mono hop2.size)
                    have hB8 := hbr.trans (hop8.mono hbr.size)
                    have hz8 : w8.heap.size = w7.heap.size + 1 := by rw [hw8]; simp
                    have hb78 := hb7.under hb8
                    have hlt7 : wr.heap.size < w7.heap.size := hb7.lt
                    have hol2 : out.length ≤ 1048576 := by omega
                    clear hoB r1 r2 r3 HO7 HB7 y0 hc1
                    go_wp2_with (at_builtin; rw [← hw8]; refine wpList_append_own_at _ rfl _ _ 23 rfl w.heap.size 45 iT (.agg #[.string ⟨#[]⟩, .string ⟨#[]⟩, .bool false]) 3 40 Tryd.underlying23 hiT hz0 hz1 hz2 rfl (by decide) _ _ _ rfl HO8 ⟨w7.heap.size, 0, none⟩ 1 1 [.string q.fKey, .string q.fVal, .bool q.fGone] rfl rfl (bx_news hbx8) (by intro u hu; simp at hu; rcases hu with rfl | rfl | rfl <;> rfl) (by unfold maxLen; omega) (by omega) hB8.size ?_)
                    intro v9 w9 ho9 hgr9 hnil9 hloc9
                    try rw [← hw8] at hgr9
                    rw [← hz8] at hloc9
                    have hge9 : ∀ k, (Value.slice aO out.length cO).ownBlock = some k → w.heap.size ≤ k := fun k h => (HO8.lt k h).1
                    have hB9 := hB8.grown hgr9 hB8.size hge9
                    have HRN : Hid (RowR 3 45 rPair w.heap.size w9 w.heap.size v9 (out ++ [q])) := RowR.push rPair_good HR1.out HR2.out HR3.out ((hop8.mono hbr.size).grown hgr9 hB8.size hge9) rfl ⟨rfl, by omega, by omega, trivial, trivial⟩ ho9
                    have HB9 := Hid.mk (own_other HB8 hgr9 hdOB)
                    have HD9 := Hid.mk (dis_app hloc9 HB8 hdOB)
                    have p9 : w9.cell? ⟨wr.heap.size, 0, none⟩ = some (.string q.fKey) := by
                      have h1 := hgr9.block wr.heap.size (by omega) (fun h => by have := (r4.lt _ h.symm).2; omega)
                      have h2 := hb78.cell 0 _ rfl
                      rw [← h2]
                      simp only [World.cell?, h1]
                    obtain ⟨g1, g2, g3, g4⟩ := HFI.out
                    clear ho9 hgr9 hloc9 hnil9 HB8 HO8 r4 hdOB p0 p1 p2 hbx8 hw8 hz8 hb8 hb78 hb7
                    go_wp2_with fail
                    go_roundw
                    case rel => exact ⟨f, ve, q.fKey, out ++ [q], rfl, rfl, by omega, by omega, by omega, by simp; omega, by omega, HNX, HRN.out, HB9.out, HD9.out, hB9⟩
                    case measure => simp [intOf]; omega
                · have HF : Hid (prsAt zs p = (out, false)) := HN.out (spStep_no HG.out HT.out HV.out (by intro h; have h4 := h.2.2.2.2.1; rw [HC.out] at h4; exact hc2 h4))
                  clear HN HS HG HT HV
                  go_wp2_with fail
                  go_ret2
                  exact ⟨_, (by first | (rw [HF.out]; done) | (rw [HF.out]; rfl)), by rw [HF.out]; exact HRW.out, hbr⟩
              · have HF : Hid (prsAt zs p = (out, false)) := HN.out (spStep_no HG.out HT.out HV.out (by intro h; have h4 := h.2.2.2.1; rw [HBL.out] at h4; exact htb h4))
                clear HN HS HG HT HV
                go_wp2_with fail
                go_ret2
                exact ⟨_, (by first | (rw [HF.out]; done) | (rw [HF.out]; rfl)), by rw [HF.out]; exact HRW.out, hbr⟩
            · have HF : Hid (prsAt zs p = (out, false)) := HN.out (spStep_no HG.out HT.out HV.out (by intro h; exact hgl h.2.2.1))
              clear HN HS HG HT HV
              go_wp2_with fail
              go_ret2
              exact ⟨_, (by first | (rw [HF.out]; done) | (rw [HF.out]; rfl)), by rw [HF.out]; exact HRW.out, hbr⟩
      · have HOUT : Hid (prsAt zs p = (out, true)) := by
          show _ = _
          rw [HE.out, HGO.out]
          obtain ⟨f, rfl⟩ : ∃ g, f = g + 1 := ⟨f - 1, by omega⟩
          rw [spGo, if_pos (by rw [HBL.out]; omega)]
        clear r1 r2 r3 r4 hoB
        go_wp2_with fail
        go_ret2
        exact ⟨_, (by first | (rw [HOUT.out]; done) | (rw [HOUT.out]; rfl)), by rw [HOUT.out]; exact HRW.out, hbr⟩

end Go.Proofs.YtocgbeoglgkibaaDoor
