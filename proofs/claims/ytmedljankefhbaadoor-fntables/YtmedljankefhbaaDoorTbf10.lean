/-
  Part 11 of the texts that the proof leans on.
-/
import Derived.Test.YtmedljankefhbaaDoorTbf0
import Derived.Test.YtmedljankefhbaaDoorTbf9
set_option linter.unusedVariables false
set_option linter.unusedSimpArgs false
set_option maxRecDepth 10000

namespace Go.Proofs.YtmedljankefhbaaDoor
open Go.RowKit Go.Maps Go.Shelf
abbrev qe42_23_8_0 : Oper := ⟨some 26, .move (.tmp 0), 22, "l05_table.go:232", #[], none⟩
abbrev qe42_23_8_1 : Oper := ⟨some 27, .fieldAddr 80 (.tmp 4) 2, 0, "l05_table.go:232", #[], none⟩
abbrev qe42_23_8_2 : Oper := ⟨some 28, .load 3 (.tmp 27), 3, "l05_table.go:232", #[⟨1, .data⟩], none⟩
abbrev qe42_23_8_3 : Oper := ⟨some 29, .fieldAddr 80 (.tmp 4) 2, 0, "l05_table.go:232", #[], none⟩
abbrev qe42_23_8_4 : Oper := ⟨some 30, .load 3 (.tmp 29), 3, "l05_table.go:232", #[⟨3, .data⟩], none⟩
abbrev qe42_23_8_5 : Oper := ⟨some 31, .slice 22 (.tmp 26) none (some (.tmp 28)) (some (.tmp 30)), 22, "l05_table.go:232", #[⟨0, .data⟩, ⟨2, .data⟩, ⟨4, .data⟩], none⟩
abbrev qe42_23_8_6 : Oper := ⟨some 32, .fieldAddr 49 (.tmp 8) 1, 0, "l05_table.go:232", #[], none⟩
abbrev qe42_23_8_7 : Oper := ⟨some 33, .load 3 (.tmp 32), 3, "l05_table.go:232", #[⟨6, .data⟩], none⟩
abbrev qe42_23_8_8 : Oper := ⟨some 34, .call { callee := .value (.func 39), args := #[.tmp 31, .tmp 33], argTypes := #[22, 3] }, 84, "l05_table.go:232", #[⟨5, .data⟩, ⟨7, .data⟩], none⟩

attribute [local go_sem] Oper.semAt_some

def RpPost (w : World) (zs : List Int) (pe : Addr) (e : Ending) (w' : World) : Prop :=
  Below w.heap.size w w' ∧ (((rpS zs).2 = true ∧ lightP 1048576 (rpS zs).1 ∧ (rpS zs).1.length ≤ 200 ∧ ∃ v, e = .returned (.tuple #[v, .nilIface]) ∧ RowR 3 32 rPair 0 w' w.heap.size v (rpS zs).1) ∨
    ((rpS zs).2 = false ∧ ∃ s, e = .returned (.tuple #[.slice none 0 0, partV s pe])))
/-- The same, but for a panic, which does not come. -/
def calmQ (Q : Exit → Act → World → Prop) : Exit → Act → World → Prop
  | .panic _, _, _ => False
  | e, a, w => Q e a w
theorem calmQ_out {Q : Exit → Act → World → Prop} : ∀ e a w, calmQ Q e a w → Q e a w := by
  intro e a w h
  cases e <;> first | exact h | exact h.elim
theorem rpS_none {zs : List Int} (h : ixR zs = none) : (rpS zs).2 = false := by unfold rpS; rw [h]
theorem rpS_some {zs ps : List Int} (h : ixR zs = some ps) : rpS zs = irAll (zs.take (rd4 zs (zs.length - 4)).toNat) ps [] := by unfold rpS; rw [h]

set_option maxHeartbeats 8000000 in
theorem readPairs_any (a : Option Addr) (n cap : Nat) (zs : List Int) (pe : Addr) (w : World) (hx : zs.length = n) (hlen : n ≤ 1048576) (hcap : n ≤ cap) (hcm : cap ≤ 9223372036854775807) (hb : BytesOk zs) (hr : Rd .u8 w.heap.size w a zs) (ht : TabAt w) (hE : ErrAt w pe) :
    Calls Tryd.prog 23 #[.slice a n cap] w (RpPost w zs pe) := by
  obtain ⟨iT, hiT, hz0, hz1, hz2⟩ := info_parts Tryd.infoPair
  have HX := Hid.mk hx
  have HB := Hid.mk hb
  have HR := Hid.mk hr
  have HT := Hid.mk ht
  have HE := Hid.mk hE
  obtain ⟨wa, hwa⟩ : ∃ x, x = (w.alloc (.cells #[.slice none 0 0] 24)).alloc (.cells #[.nilIface] 55) := ⟨_, rfl⟩
  have hba : Below w.heap.size w wa := by rw [hwa]; exact ((Below.refl _ _).alloc (Nat.le_refl _) _).alloc (by simp) _
  have hza : wa.heap.size = w.heap.size + 2 := by rw [hwa]; simp
  have hR0 : Bw wa w.heap.size 24 [.slice none 0 0] := by rw [hwa]; exact (Bw.new' _ _ _ rfl).under ((Below.refl _ _).alloc (Nat.le_refl _) _)
  have hR1 : Bw wa (w.heap.size + 1) 55 [.nilIface] := by rw [hwa]; exact Bw.new' _ _ _ (by simp)
  have hCi := readIndex_any a n cap zs pe wa hx hlen hcap hcm hb ((hr.below hba).mono hba.size) (ht.below hba ht.size) (hE.below hba)
  have HWA := Hid.mk hwa
  clear hx hb hr ht hE hwa
  refine (callsIn_wide (n := 5)).1 ?_
  refine callsIn_of_wp_marks Tryd.func23 rfl trivial ?_ rfl
  refine wpIn_wide.2 ?_
  refine Code.wp_mono calmQ_out ?_
  simp only [Tryd.ntmps23, List.size_toArray, List.length_cons, List.length_nil, Nat.reduceAdd, Nat.reduceSub, Array.replicate_succ, Array.replicate_zero, List.push_toArray, List.append_toArray, List.nil_append, List.cons_append]
  go_wp2_with fail
  rw [← HWA.out]
  refine Calls.mono hCi ?_
  rintro e w1 ⟨hb1, ⟨hN, s, rfl⟩ | ⟨ps, marks, vm, vf, hps, hmk, rfl, hrow, hat0, hat1, hml, af, nf, cf, rfl, _⟩⟩
  · have hF := rpS_none hN
    obtain ⟨w2, hw2⟩ : ∃ x, x = w1.alloc (.cells #[.slice none 0 0, .slice none 0 0, .int .i64 0] 80) := ⟨_, rfl⟩
    have hb2 : Below w1.heap.size w1 w2 := by rw [hw2]; exact (Below.refl _ _).alloc (Nat.le_refl _) _
    have hR0' := (hR0.under hb1).under hb2
    have hR1' := (hR1.under hb1).under hb2
    have hb12 := (hb1.mono hba.size).trans (hb2.mono (Nat.le_trans hba.size hb1.size))
    have u2 : ∀ o, Below w1.heap.size w1 (w1.alloc o) := fun o => (Below.refl _ _).alloc (Nat.le_refl _) _
    have y0 := fun o => ((hR0.under hb1).under (u2 o)).cell 0 _ rfl
    have y1 := fun o => ((hR1.under hb1).under (u2 o)).cell 0 _ rfl
    have f0 := fun o => ((hR0.under hb1).under (u2 o)).free 0
    have f1 := fun o => ((hR1.under hb1).under (u2 o)).free 0
    have hl0 := hR0'.lt
    have hl1 := hR1'.lt
    obtain ⟨w7, hw7⟩ : ∃ x, x = (w2.setCell ⟨w.heap.size, 0, none⟩ (.slice none 0 0)).setCell ⟨w.heap.size + 1, 0, none⟩ (.iface 113 (.agg #[.string s, .iface 141 (.pointer (some pe))])) := ⟨_, rfl⟩
    have t1 : Turn [w.heap.size] w2 (w2.setCell ⟨w.heap.size, 0, none⟩ (.slice none 0 0)) := (Turn.refl _ _).setCell (by simp) _
    have hR0'' := hR0'.put 0 (.slice none 0 0)
    have hR1'' := (hR1'.turn t1 (by simp)).put 0 (.iface 113 (.agg #[.string s, .iface 141 (.pointer (some pe))]))
    have t2 : Turn [w.heap.size + 1] (w2.setCell ⟨w.heap.size, 0, none⟩ (.slice none 0 0)) w7 := by rw [hw7]; exact (Turn.refl _ _).setCell (by simp) _
    have hR0f := hR0''.turn t2 (by simp)
    rw [← hw7] at hR1''
    have hB7 : Below w.heap.size w w7 := (hba.trans hb12).trans ((t1.below (fun k hk => by simp at hk; omega) (by omega)).trans (t2.below (fun k hk => by simp at hk; omega) (by simp; omega)))
    have HW7 := Hid.mk hw7
    clear hw7 t1 t2 hR0'' hR0' hR1'
    unfold partV errV
    clear u2
    go_wp2_with fail
    rw [← hw2, ← HW7.out]
    have q0 := hR0f.cell 0 _ rfl
    have q1 := hR1''.cell 0 _ rfl
    refine ⟨.tuple #[.slice none 0 0, partV s pe], by simp [results, Tryd.results23, go_sem, partV, errV, *], hB7, .inr ⟨hF, s, rfl⟩⟩
  · have HG := Hid.mk (rpS_some hps)
    have HMK := Hid.mk hmk
    obtain ⟨pt, hpt⟩ : ∃ pt, pt = rd4 zs (zs.length - 4) := ⟨_, rfl⟩
    rw [← hpt] at HG hat0 hat1 ⊢
    obtain ⟨ptn, rfl⟩ : ∃ x : Nat, pt = (x : Int) := ⟨pt.toNat, by omega⟩
    obtain ⟨cssm, m1, m2, m3, m4⟩ := id hrow
    obtain ⟨am, cm, rfl⟩ := own_slice m4
    have HROW := Hid.mk hrow
    have HMB : Hid (∀ k, (Value.slice am marks.length cm).ownBlock = some k → w.heap.size + 2 ≤ k ∧ k < w1.heap.size) := fun k hk => by have := m4.lt k hk; omega
    obtain ⟨b0, o0, rfl, hb00, _⟩ := HR.out 0 (by omega)
    have hptn : ptn + 4 ≤ n := by rw [HX.out] at hat1; omega
    clear hCi hps hmk hpt hrow m1 m2 m3 m4 cssm
    obtain ⟨w2, hw2⟩ : ∃ x, x = w1.alloc (.cells #[.slice am marks.length cm, .slice af nf cf, .int .i64 ptn] 80) := ⟨_, rfl⟩
    obtain ⟨w3, hw3⟩ : ∃ x, x = w2.alloc (.cells #[.slice none 0 0] 24) := ⟨_, rfl⟩
    have hz1w : w.heap.size + 1 < w1.heap.size := by have := hb1.size; omega
    have hb12 : Below w1.heap.size w1 w2 := by rw [hw2]; exact (Below.refl _ _).alloc (Nat.le_refl _) _
    have hb23 : Below w2.heap.size w2 w3 := by rw [hw3]; exact (Below.refl _ _).alloc (Nat.le_refl _) _
    have hz2w : w2.heap.size = w1.heap.size + 1 := by rw [hw2]; simp
    have hz3w : w3.heap.size = w2.heap.size + 1 := by rw [hw3]; simp
    have hb13 : Below w1.heap.size w1 w3 := hb12.trans (hb23.mono hb12.size)
    have hRP : RP w w1.heap.size (w1.heap.size + 1) (w1.heap.size + 2) (.slice am marks.length cm) (.slice af nf cf) ptn marks w3 (.slice none 0 0) [] [] := by
      refine ⟨(hR0.under hb1).under hb13, (hR1.under hb1).under hb13, ?_, ?_, ⟨[], rfl, (fun _ h => by cases h), (fun _ h => by simp at h), World.ownsRow_nil _ _ _ _⟩, ?_, by simp, (fun r h => by cases h), (fun k h => by simp [Value.ownBlock] at h), by omega, by omega, by omega, by omega, (fun k h => (HMB.out k h).2), hba.trans ((hb1.mono hba.size).trans (hb13.mono (by omega)))⟩
      · have h : Bw w2 w1.heap.size 80 [.slice am marks.length cm, .slice af nf cf, .int .i64 ptn] := by rw [hw2]; exact Bw.new' _ _ _ rfl
        exact h.under hb23
      · rw [hw3]; exact Bw.new' _ _ _ (by rw [hz2w])
      · obtain ⟨css, g1, g2, g3, g4⟩ := HROW.out
        exact ⟨css, g1, g2, fun j p q => g3 j p q, own_base (own_below g4 hb13) (by omega)⟩
    have HRP := Hid.mk hRP
    have HW3 : Hid (w3 = (w1.alloc (.cells #[.slice am marks.length cm, .slice af nf cf, .int .i64 ptn] 80)).alloc (.cells #[.slice none 0 0] 24)) := by unfold Hid; rw [hw3, hw2]
    have hB13 := hba.trans ((hb1.mono hba.size).trans (hb13.mono (by omega)))
    clear hRP hw3 hw2 hb12 hb23 hR0 hR1 hz2w hz3w hb13 hza
    clear w2
    go_wp2_with fail
    rw [← HW3.out]
    obtain ⟨blks, hblks⟩ : ∃ x, x = zs.take ptn := ⟨_, rfl⟩
    rw [Int.toNat_natCast, ← hblks] at HG
    have HBK := Hid.mk hblks
    clear hblks
    refine wp_loop (fun a' W => ∃ (u8 u9 u10 u23 u24 u25 u26 u27 u28 u29 u30 u31 u32 u33 u34 u35 u36 u37 u38 u39 u40 u41 u42 u43 u44 u45 u46 u47 u48 : Value) (i : Nat) (out : List MPair) (vO : Value) (rs : List Nat), (i ≤ marks.length ∧ Hid (rpS zs = irAll blks (ps.drop i) out) ∧ lightP 1048576 out ∧ out.length ≤ 200 ∧ RP w w1.heap.size (w1.heap.size + 1) (w1.heap.size + 2) (.slice am marks.length cm) (.slice af nf cf) ptn marks W vO out rs) ∧ a' = ⟨#[.slice (some ⟨b0, o0, none⟩) n cap, undef, .pointer (some ⟨w.heap.size, 0, none⟩), .pointer (some ⟨w.heap.size + 1, 0, none⟩), .pointer (some ⟨w1.heap.size, 0, none⟩), .nilIface, .pointer (some ⟨w1.heap.size + 1, 0, none⟩), undef, u8, u9, u10, .tuple #[.agg #[.slice am marks.length cm, .slice af nf cf, .int .i64 ptn], .nilIface], .slice (some ⟨b0, o0, none⟩) n cap, .tuple #[.agg #[.slice am marks.length cm, .slice af nf cf, .int .i64 ptn], .nilIface], .agg #[.slice am marks.length cm, .slice af nf cf, .int .i64 ptn], .nilIface, .nilIface, .bool false, undef, .pointer (some ⟨w1.heap.size, 0, none⟩), .slice am marks.length cm, .int .i64 marks.length, .int .i64 i, u23, u24, u25, u26, u27, u28, u29, u30, u31, u32, u33, u34, u35, u36, u37, u38, u39, u40, u41, u42, u43, u44, u45, u46, u47, u48, undef], rs.map collD⟩) (fun a' _ => marks.length - (intOf (a'.tmps.getD 22 undef)).toNat) ?_ ?_
    · exact ⟨_, _, _, _, _, _, _, _, _, _, _, _, _, _, _, _, _, _, _, _, _, _, _, _, _, _, _, _, _, 0, [], _, [], ⟨Nat.zero_le _, HG, (fun p hp => by cases hp), by simp, HRP.out⟩, rfl⟩
    · rintro _ wr ⟨u8, u9, u10, u23, u24, u25, u26, u27, u28, u29, u30, u31, u32, u33, u34, u35, u36, u37, u38, u39, u40, u41, u42, u43, u44, u45, u46, u47, u48, i, out, vO, rs, ⟨hi, HGI, hli, hol, hRP⟩, rfl⟩
      clear HRP HG HW3 HROW
      have HJ := Hid.mk hRP
      clear hRP
      by_cases hlt : i < marks.length
      · obtain ⟨am', cm', hab, hLM⟩ := RowR.leaf rMark_good HJ.out.2.2.2.2.2.1 (Nat.zero_le _)
        simp only [Value.slice.injEq, true_and] at hab
        obtain ⟨rfl, rfl⟩ := hab
        obtain ⟨b1, o1, rfl, hB1, cs1, hcl1, hcell1, hrM⟩ := hLM.2.2 i hlt
        obtain ⟨mk, hmk⟩ : ∃ mk, mk = marks[i] := ⟨_, rfl⟩
        rw [← hmk] at hrM
        have HP : Hid (ps.drop i = mk.2 :: ps.drop (i + 1)) := by
          show _ = _
          have hl : i < ps.length := by rw [← HMK.out, List.length_map]; exact hlt
          rw [List.drop_eq_getElem_cons hl]
          congr 1
          have h2 := HMK.out
          subst h2
          rw [hmk, List.getElem_map]
        obtain rfl := hrM
        have k0 := hcell1 0 _ rfl
        have k1 := hcell1 1 _ rfl
        rw [Nat.add_zero] at k0
        clear hcell1 hcl1 hLM hmk
        have hcm1 := HJ.out.2.2.1.cell 2 _ rfl
        obtain ⟨wm, hwm⟩ : ∃ x, x = wr.alloc (.cells #[.string mk.1, .int .i64 mk.2] 49) := ⟨_, rfl⟩
        have hbm : Below wr.heap.size wr wm := by rw [hwm]; exact (Below.refl _ _).alloc (Nat.le_refl _) _
        have hzm : wm.heap.size = wr.heap.size + 1 := by rw [hwm]; simp
        have hbxm : Bx wm wr.heap.size [.string mk.1, .int .i64 mk.2] := by rw [hwm]; exact Bx.new _ _ _
        have HJm := Hid.mk (HJ.out.under hbm)
        have y0 : ∀ W, Below wm.heap.size wm W → W.cell? ⟨w1.heap.size, 2, none⟩ = some (.int .i64 ptn) := fun W hW => ((HJm.out.under hW).2.2.1).cell 2 _ rfl
        have y1 : ∀ W, Below wm.heap.size wm W → W.cell? ⟨wr.heap.size, 1, none⟩ = some (.int .i64 mk.2) := fun W hW => (hbxm.under hW).2 1 _ rfl
        have hp0 : ptn ≤ n := by omega
        have hp1 : ptn ≤ cap := by omega
        have HWM := Hid.mk hwm
        have HZM := Hid.mk hzm
        clear hwm hzm
        go_wp2_with fail
        rw [← HWM.out]
        refine wp_region_held_drew (S := fun W => Below wm.heap.size wm W) (by kernel_rfl) (Below.drew (Below.refl _ _)) (fun hHeld => ?_)
        refine tk 0 qe42_23_8_0 (some 26) (v := ?v1) rfl rfl (by kernel_rfl) hHeld (by rfl) (fun _ _ _ x => x) (fun w h => ?y1) ?_; (case y1 => (try dsimp only at h); go_simp; try (with_reducible rfl)); try simp only [Act.put, sa, s0, s1]
        refine tk 1 qe42_23_8_1 (some 27) (v := ?v2) rfl rfl (by kernel_rfl) hHeld (by rfl) (fun _ _ _ x => x) (fun w h => ?y2) ?_; (case y2 => (try dsimp only at h); go_simp; try (with_reducible rfl)); try simp only [Act.put, sa, s0, s1]
        refine tk 2 qe42_23_8_2 (some 28) (v := ?v3) rfl rfl (by kernel_rfl) hHeld (by rfl) (fun _ _ _ x => x) (fun w h => ?y3) ?_; (case y3 => (try dsimp only at h); go_simp; try (with_reducible rfl)); try simp only [Act.put, sa, s0, s1]
        refine tk 3 qe42_23_8_3 (some 29) (v := ?v4) rfl rfl (by kernel_rfl) hHeld (by rfl) (fun _ _ _ x => x) (fun w h => ?y4) ?_; (case y4 => (try dsimp only at h); go_simp; try (with_reducible rfl)); try simp only [Act.put, sa, s0, s1]
        refine tk 4 qe42_23_8_4 (some 30) (v := ?v5) rfl rfl (by kernel_rfl) hHeld (by rfl) (fun _ _ _ x => x) (fun w h => ?y5) ?_; (case y5 => (try dsimp only at h); go_simp; try (with_reducible rfl)); try simp only [Act.put, sa, s0, s1]
        refine tk 5 qe42_23_8_5 (some 31) (v := ?v6) rfl rfl (by kernel_rfl) hHeld (by rfl) (fun _ _ _ x => x) (fun w h => ?y6) ?_; (case y6 => (try dsimp only at h); go_simp; try (with_reducible rfl)); try simp only [Act.put, sa, s0, s1]
        refine tk 6 qe42_23_8_6 (some 32) (v := ?v7) rfl rfl (by kernel_rfl) hHeld (by rfl) (fun _ _ _ x => x) (fun w h => ?y7) ?_; (case y7 => (try dsimp only at h); go_simp; try (with_reducible rfl)); try simp only [Act.put, sa, s0, s1]
        refine tk 7 qe42_23_8_7 (some 33) (v := ?v8) rfl rfl (by kernel_rfl) hHeld (by rfl) (fun _ _ _ x => x) (fun w h => ?y8) ?_; (case y8 => (try dsimp only at h); go_simp; try (with_reducible rfl)); try simp only [Act.put, sa, s0, s1]
        refine wpAnyH_ready (rs := [8]) (by kernel_rfl) (by simp) ?_
        refine AllReadyH.cons (o := qe42_23_8_8) rfl (fun K hK => ?_) AllReadyH.nil
        go_simp
        refine Calls.mono (pairsAt_c (some ⟨b0, o0, none⟩) ptn ptn mk.2 _) ?_
        rintro e w5 ⟨g1, g2, rfl, HG1, hA1, hA2, hx1⟩
        go_wp2_with fail
        refine hK.out _ _ (bthen hHeld hx1) (fun hHeld => ?_)
        clear hK K
        try simp only [Act.put, sa, s0, s1]
        refine wpAnyH_done (by kernel_rfl) ?_ _
        have HJ5 := Hid.mk (HJm.out.under hHeld)
        have HGM : Hid (g1 = wr.heap.size + 1 ∧ g2 = wr.heap.size + 2 ∧ w5.heap.size = wr.heap.size + 3) := by
          obtain ⟨e1, e2, e3⟩ := HG1.out
          have e4 := HZM.out
          have e5 : wm.drew.heap.size = wm.heap.size := rfl
          show _ ∧ _ ∧ _
          omega
        have hszr := HJ.out.size
        clear HG1 hx1 y0 y1 k0 k1 hbxm HJ HJm hbm hcm1
        go_wp2_with fail
        refine (wpIn_wide (n := 5)).1 ?_
        refine range_begins (gf := 55) (lb := #[.pointer (some ⟨g1, 0, none⟩), .pointer (some ⟨g2, 0, none⟩)]) rfl (enters_of Tryd.func55 (by kernel_rfl) rfl) ?_ (by omega)
        intro fn r hst hpe hps htm has hbo W1 hl hd hs1 hbW1
        obtain ⟨hgm1, hgm2, hs5⟩ := HGM.out
        have hRW0 := HJ5.out.under hbW1
        have hRW := hRW0.mark (r := w5.heap.size) (by omega) (by omega) hd (fun hm => by have := (HJ5.out.2.2.2.2.2.2.2.1 _ hm).2.1; omega) (fun he => by have := (RowR.lt HJ5.out.2.2.2.2.1 _ he).2; omega)
        have hA1' := hA1.under hbW1
        have hA2' := hA2.under hbW1
        have hsD : w5.heap.size + 1 < W1.heap.size := by omega
        have hDB : w1.heap.size + 2 ≤ w5.heap.size := by omega
        have HNR : Hid (w5.heap.size + 1 ∉ w5.heap.size :: rs) := by
          intro hm
          rcases List.mem_cons.1 hm with h | h
          · omega
          · have := (hRW0.2.2.2.2.2.2.2.1 _ h).2.1; have h2 := (HJ5.out.2.2.2.2.2.2.2.1 _ h).2.1; omega
        have HRL : Hid (∀ q, q ∈ w5.heap.size :: rs → q < W1.heap.size) := fun q hq => (hRW.2.2.2.2.2.2.2.1 q hq).2.1
        have HVO : Hid (∀ k, vO.ownBlock = some k → k < w5.heap.size) := fun k he => (RowR.lt HJ5.out.2.2.2.2.1 _ he).2
        have HOWN : Hid (vO.ownBlock ≠ some (w5.heap.size + 1)) := fun he => by have := HVO.out _ he; omega
        clear hA1 hA2 hbW1 HJ5 hHeld hRW0 hd hgm1 hgm2 hs5 hs1 hszr
        simp only [List.append_toArray, List.nil_append, List.cons_append]
        refine (callsIn_wide (n := 3)).1 ?_
        refine callsIn_of_wp Tryd.func55 rfl trivial ?_ rfl
        simp only [Tryd.ntmps55, List.size_toArray, List.length_cons, List.length_nil, Nat.reduceAdd, Nat.reduceSub, Array.replicate_succ, Array.replicate_zero, List.push_toArray, List.append_toArray, List.nil_append, List.cons_append]
        have c1 := hA1'.cell 0 _ rfl
        have c2 := hA2'.cell 0 _ rfl
        have HJ1 := Hid.mk hRW
        have hBW := hRW.below
        have hrz := (HR.out.below hBW).mono hBW.size
        have hCu := implUnframe_any (some ⟨b0, o0, none⟩) ptn ptn blks mk.2 W1 (by rw [HBK.out, List.length_take, HX.out]; omega) (by omega) (Nat.le_refl _) (by rw [HBK.out]; exact HB.out.first ptn) (by rw [HBK.out]; exact hrz.first ptn) (HT.out.below hBW HT.out.size)
        have HAT : Hid (rpS zs = if (irAt blks mk.2 out).2 = true then irAll blks (ps.drop (i + 1)) (irAt blks mk.2 out).1 else ((irAt blks mk.2 out).1, false)) := by show _ = _; rw [HGI.out, HP.out, irAll]
        have HUN : Hid ((unframe blks mk.2).2.2 = false → irAt blks mk.2 out = (out, false)) := fun h => by unfold irAt; rw [if_neg (by rw [h]; simp)]
        have HUY : Hid ((unframe blks mk.2).2.2 = true → irAt blks mk.2 out = irGo ((unframe blks mk.2).1.length + 1) (unframe blks mk.2).1 ByteArray.empty out) := fun h => by unfold irAt; rw [if_pos h]
        have HUO : Hid (BytesOk (unframe blks mk.2).1) := unframe_okB (by rw [HBK.out]; exact HB.out.first ptn)
        have HUL : Hid ((unframe blks mk.2).1.length ≤ 1048576) := by have h := unframe_len blks mk.2; have h2 : blks.length ≤ n := by rw [HBK.out, List.length_take, HX.out]; omega
                                                                      show _ ≤ _; omega
        generalize unframe blks mk.2 = U at *
        obtain ⟨body, nx, fine⟩ := U
        simp only at HUN HUY HUO HUL
        clear hA1' hA2' hRW HP HGI
        gi_wp2_with fail
        refine ⟨trivial, ?_⟩
        refine (callsIn_wide.2 hCu).mono ?_
        rintro e W2 ⟨vb, rfl, hob, hx2⟩
        simp only at hob
        have HJ2 := Hid.mk (HJ1.out.under hx2)
        have hl2 : W2.heap[w5.heap.size + 1]? = some (.loop r) := (hx2.block _ (by omega)).trans hl
        clear HJ1 hCu hl c1 c2
        cases fine with
        | false =>
          have HF : Hid ((rpS zs).2 = false) := by show _ = _; rw [HAT.out, HUN.out rfl]; rfl
          have hE2 := HE.out.below HJ2.out.below
          gi_wp2_with fail
          refine ⟨trivial, ?_⟩
          refine (callsIn_wide.2 (noTable_any _ pe W2 hE2)).mono ?_
          rintro e W2 ⟨rfl, rfl⟩
          have hy := run_yield (P := Tryd.prog) (args := #[.agg #[.string ⟨#[]⟩, .string ⟨#[]⟩, .bool false], partV ⟨#[102, 114, 97, 109, 101, 32, 111, 102, 32, 97, 32, 98, 108, 111, 99, 107]⟩ pe]) hl2 (by rw [hps]; rfl)
          gi_wp2_with fail
          refine round_runs hst ?_
          gi_wp2_with fail
          obtain ⟨W3, hW3⟩ : ∃ x, x = W2.alloc (.cells #[.string ⟨#[]⟩, .string ⟨#[]⟩, .bool false] 32) := ⟨_, rfl⟩
          rw [← hW3]
          have hx3 : Below W2.heap.size W2 W3 := by rw [hW3]; exact (Below.refl _ _).alloc (Nat.le_refl _) _
          have hlt2 : w5.heap.size + 1 < W2.heap.size := (Array.getElem?_eq_some_iff.1 hl2).1
          have hl3 : W3.heap[w5.heap.size + 1]? = some (.loop r) := (hx3.block _ hlt2).trans hl2
          have hJ3 := HJ2.out.under hx3
          refine ⟨hl3, ?_⟩
          obtain ⟨W4, hW4⟩ : ∃ x, x = W3.putObj (w5.heap.size + 1) (.loop { r with state := .busy }) := ⟨_, rfl⟩
          rw [← hW4]
          have hnr : w5.heap.size + 1 ∉ w5.heap.size :: rs := HNR.out
          have hJ4 : RP w w1.heap.size (w1.heap.size + 1) (w1.heap.size + 2) (.slice (some ⟨b1, o1, none⟩) marks.length cm) (.slice af nf cf) ptn marks W4 vO out (w5.heap.size :: rs) := by rw [hW4]; exact hJ3.put _ (by omega) hnr HOWN.out
          have hl4 : W4.heap[w5.heap.size + 1]? = some (.loop { r with state := .busy }) := by rw [hW4]; exact World.putObj_heap_same (Array.getElem?_eq_some_iff.1 hl3).1
          have y0 := hJ4.1.cell 0 _ rfl
          have y1 := hJ4.2.1.cell 0 _ rfl
          have f0 := hJ4.1.free 0
          have f1 := hJ4.2.1.free 0
          obtain ⟨hRE5, hT5⟩ := hJ4.fail (.iface 113 (.agg #[.string ⟨#[102, 114, 97, 109, 101, 32, 111, 102, 32, 97, 32, 98, 108, 111, 99, 107]⟩, .iface 141 (.pointer (some pe))]))
          have hl5 := (hT5.block _ (Array.getElem?_eq_some_iff.1 hl4).1 (by simp; omega)).trans hl4
          obtain ⟨W5, hW5⟩ : ∃ x, x = (W4.setCell ⟨w.heap.size, 0, none⟩ (.slice none 0 0)).setCell ⟨w.heap.size + 1, 0, none⟩ (.iface 113 (.agg #[.string ⟨#[102, 114, 97, 109, 101, 32, 111, 102, 32, 97, 32, 98, 108, 111, 99, 107]⟩, .iface 141 (.pointer (some pe))])) := ⟨_, rfl⟩
          rw [← hW5] at hRE5 hT5 hl5
          have HW5 := Hid.mk hW5
          have HL5 := Hid.mk hl5
          have HRE5 := Hid.mk hRE5
          have hDw : w.heap.size + 1 < w5.heap.size + 1 := by omega
          clear hW3 hW4 hJ3 hJ4 hl3 hl4 hl5 hy HJ2 hl2 hx3 hT5 hRE5 hW5
          unfold partV errV
          gi_wp2_with fail
          rw [← HW5.out]
          refine ⟨HL5.out, ?_⟩
          obtain ⟨W6, hW6⟩ : ∃ x, x = W5.putObj (w5.heap.size + 1) (.loop { r with state := .done, pending := some .ret }) := ⟨_, rfl⟩
          rw [← hW6]
          have hRE6 : RE w W6 (w5.heap.size :: rs) (.iface 113 (.agg #[.string ⟨#[102, 114, 97, 109, 101, 32, 111, 102, 32, 97, 32, 98, 108, 111, 99, 107]⟩, .iface 141 (.pointer (some pe))])) := by rw [hW6]; exact HRE5.out.put _ hDw hnr
          have hl6 : W6.heap[w5.heap.size + 1]? = some (.loop { r with state := .done, pending := some .ret }) := by rw [hW6]; exact World.putObj_heap_same (Array.getElem?_eq_some_iff.1 HL5.out).1
          clear hW6 y0 y1 f0 f1
          gi_wp2_with fail
          refine bodyPost_ret (results_none rfl _ _ _) rfl ?_
          refine ⟨⟨_, rfl⟩, _, hl6, by simp, (hRE6.2.2.2.1 _ (by simp)).2.2, ?_⟩
          have hRE7 := hRE6.put (.loop { ({ r with state := .done, pending := some .ret } : Loop) with state := .exhausted }) hDw hnr
          obtain ⟨W7, hW7⟩ : ∃ x, x = W6.putObj (w5.heap.size + 1) (.loop { ({ r with state := .done, pending := some .ret } : Loop) with state := .exhausted }) := ⟨_, rfl⟩
          rw [← hW7] at hRE7 ⊢
          clear hW7 hRE6 hl6
          show Code.wpIn _ _ _ .ret _ _ _
          gi_wp2_with fail
          refine leaves_all (w5.heap.size :: rs) W7 hRE7.2.2.1 (fun r hr => (hRE7.2.2.2.1 r hr).2.2) (fun W8 ht8 => ?_)
          obtain ⟨q0b, q1b, hB8⟩ := hRE7.taken ht8
          have q0 := q0b.cell 0 _ rfl
          have q1 := q1b.cell 0 _ rfl
          exact ⟨.tuple #[.slice none 0 0, partV ⟨#[102, 114, 97, 109, 101, 32, 111, 102, 32, 97, 32, 98, 108, 111, 99, 107]⟩ pe], by simp [results, Tryd.results23, go_sem, partV, errV, *], hB8, .inr ⟨HF.out, _, rfl⟩⟩
        | true =>
          have HGO0 : Hid (irAt blks mk.2 out = irGo (body.length + 1) body ByteArray.empty out) := HUY.out rfl
          obtain ⟨bl, hbl⟩ : ∃ bl, bl = body.length := ⟨_, rfl⟩
          have HBL : Hid (body.length = bl) := hbl.symm
          have hbm : bl ≤ 1048576 := by have h := HUL.out; omega
          obtain ⟨ab, cb, rfl, hcb, hrb2⟩ := own_rd rfl hob
          have hcb2 : bl ≤ cb := by omega
          have hcm3 : cb ≤ 9223372036854775807 := by
            rcases hob.2 with ⟨h, _⟩ | ⟨g, cap2, cur, e1, _, _, _, hm2, _⟩
            · simp only [Value.slice.injEq] at h; omega
            · simp only [Value.slice.injEq] at e1
              unfold maxLen at hm2
              omega
          have hlo2 : ∀ b2 o2, ab = some ⟨b2, o2, none⟩ → 0 < body.length → W1.heap.size ≤ b2 := fun b2 o2 he _ => by
            rcases hob.2 with ⟨h, _⟩ | ⟨g, cap2, cur, e1, hb9, _⟩
            · simp only [Value.slice.injEq] at h; rw [he] at h; cases h.1
            · simp only [Value.slice.injEq] at e1
              rw [he] at e1
              simp only [Option.some.injEq, Addr.mk.injEq] at e1
              omega
          rw [← hbl] at hob ⊢
          clear HUN HUY HUL hcb hob
          obtain ⟨W3, hW3⟩ : ∃ x, x = W2.alloc (.cells #[.slice ab bl cb, .bool false] 107) := ⟨_, rfl⟩
          have hx3 : Below W2.heap.size W2 W3 := by rw [hW3]; exact (Below.refl _ _).alloc (Nat.le_refl _) _
          have hbw3 : Bw W3 W2.heap.size 107 [.slice ab bl cb, .bool false] := by rw [hW3]; exact Bw.new' _ _ _ rfl
          have hrd3 : RdrAt W1.heap.size W3 W2.heap.size body false := ⟨ab, cb, by rw [HBL.out]; exact hbw3, by rw [HBL.out]; exact hcb2, hcm3, hrb2.below hx3, hlo2⟩
          have hlt2 : w5.heap.size + 1 < W2.heap.size := (Array.getElem?_eq_some_iff.1 hl2).1
          have hl3 : W3.heap[w5.heap.size + 1]? = some (.loop r) := (hx3.block _ hlt2).trans hl2
          have hJ3 := HJ2.out.under hx3
          have hW12 : W1.heap.size ≤ W2.heap.size := hx2.size
          have hW23 : W2.heap.size < W3.heap.size := hbw3.lt
          have HW3' := Hid.mk hW3
          have HST0 : Hid (rpS zs = if (irGo (bl + 1) body ByteArray.empty out).2 = true then irAll blks (ps.drop (i + 1)) (irGo (bl + 1) body ByteArray.empty out).1 else ((irGo (bl + 1) body ByteArray.empty out).1, false)) := by show _ = _; rw [HAT.out, HGO0.out, HBL.out]
          obtain ⟨G, hG⟩ : ∃ G, G = W2.heap.size := ⟨_, rfl⟩
          have hGe : 0 < G := by omega
          rw [← hG] at hrd3 hlt2 hW12 hW23
          have HGG := Hid.mk hG
          clear hW3 hbw3 hrb2 hlo2 HAT HGO0 hx3 HJ2 hl2 hbl hx2 hG
          gi_wp2_with fail
          rw [← HW3'.out, ← HGG.out]
          gi_loopw [8] (fun sv W => ∃ (f : Nat) (zz : List Int) (ahead : ByteArray) (out : List MPair) (vO : Value), sv = .string ahead ∧ RdrAt W1.heap.size W G zz false ∧ BytesOk zz ∧ ahead.size + zz.length ≤ 1048576 ∧ zz.length < f ∧ lightP 1048576 out ∧ out.length ≤ 200 ∧ Hid (rpS zs = if (irGo f zz ahead out).2 = true then irAll blks (ps.drop (i + 1)) (irGo f zz ahead out).1 else ((irGo f zz ahead out).1, false)) ∧ RP w w1.heap.size (w1.heap.size + 1) (w1.heap.size + 2) (.slice (some ⟨b1, o1, none⟩) marks.length cm) (.slice af nf cf) ptn marks W vO out (w5.heap.size :: rs) ∧ W.heap[w5.heap.size + 1]? = some (.loop r) ∧ (∀ k, vO.ownBlock = some k → k < w5.heap.size ∨ G < k) ∧ G < W.heap.size) (fun _ W => lenV ((W.cell? ⟨G, 0, none⟩).getD undef))
          case atStart => exact ⟨bl + 1, body, ByteArray.empty, out, vO, rfl, hrd3, HUO.out, by rw [HBL.out]; simpa using hbm, by rw [HBL.out]; omega, hli, hol, HST0, hJ3, hl3, fun k hk => .inl (HVO.out k hk), hW23⟩
          case round =>
            clear hrd3 hJ3 hl3 HST0 hli hol HVO HOWN HW3' HGG
            clear vO out
            obtain ⟨f, zz, ahead, out, vO, rfl, hrd, hzo, hsz, hzf, hli, hol, HGO, hJ, hlr, hvo, hGW⟩ := hrel
            obtain ⟨ar, cr, hbwr, hrc, hrm, hrr, _⟩ := id hrd
            have k0 := hbwr.cell 0 _ rfl
            have HJr := Hid.mk hJ
            have hEr := HE.out.below hJ.below
            have HLE : Hid (lenV ((wr.cell? ⟨G, 0, none⟩).getD undef) = zz.length) := by show _ = _; rw [k0]; rfl
            clear hbwr hrc hrm hrr hJ
            by_cases hz : zz.length = 0
            · have HDN : Hid (rpS zs = irAll blks (ps.drop (i + 1)) out) := by
                obtain ⟨f, rfl⟩ : ∃ g, f = g + 1 := ⟨f - 1, by omega⟩
                show _ = _
                rw [HGO.out, irGo, if_pos hz, if_pos rfl]
              have hzi : ¬ (0 : Int) < (zz.length : Int) := by omega
              have hnr : w5.heap.size + 1 ∉ w5.heap.size :: rs := HNR.out
              have how : vO.ownBlock ≠ some (w5.heap.size + 1) := fun he => by have := hvo _ he; omega
              have hJx := HJr.out.put (.loop { r with state := .exhausted }) (by omega) hnr how
              obtain ⟨Wx, hWx⟩ : ∃ x, x = wr.putObj (w5.heap.size + 1) (.loop { r with state := .exhausted }) := ⟨_, rfl⟩
              rw [← hWx] at hJx
              have HJx := Hid.mk hJx
              have HWX := Hid.mk hWx
              clear hJx HGO hrd hWx
              gi_wp2_with fail
              refine bodyPost_end (results_none rfl _ _ _) rfl ?_
              refine ⟨⟨_, rfl⟩, r, hlr, by rw [hst]; simp, (HJr.out.2.2.2.2.2.2.2.1 _ (by simp)).2.2, ?_⟩
              rw [← HWX.out, hpe]
              simp only [goesOn, Exit.inBlock, Exit.then]
              go_wp2_with fail
              refine ⟨⟨_, _, _, _, _, _, _, _, _, _, _, _, _, _, _, _, _, _, _, _, _, _, _, _, _, _, _, _, _, i + 1, out, vO, w5.heap.size :: rs, ⟨by omega, HDN, hli, hol, HJx.out⟩, by first | rfl | simp [collD]⟩, ?_⟩
              simp [intOf]
              omega
            · have hzi : (0 : Int) < (zz.length : Int) := by omega
              have hCp := pair_any W1.heap.size G zz ahead pe wr hrd hzo (by omega) (by omega) hEr hGe
              gi_wp2_with fail
              refine ⟨trivial, ?_⟩
              refine (callsIn_wide.2 hCp).mono ?_
              rintro e W5 ⟨ht5, ⟨p, rr, hpr, rfl, hrd5⟩ | ⟨hpn, s, z, bd, rfl, hrd5⟩⟩
              · have hbd := pairR_bd hpr
                have hok := pairR_ok hzo hpr
                obtain ⟨f, rfl⟩ : ∃ g, f = g + 1 := ⟨f - 1, by omega⟩
                have hJ5 := HJr.out.turn ht5 (fun k hk => by simp only [List.mem_singleton] at hk; subst hk; exact ⟨by omega, fun hm => by have := HRL.out _ hm; omega, fun he => by have := hvo _ he; omega⟩)
                have hl5 : W5.heap[w5.heap.size + 1]? = some (.loop r) := (ht5.block _ (Array.getElem?_eq_some_iff.1 hlr).1 (by simp; omega)).trans hlr
                have hw5l : w5.heap.size + 1 < W5.heap.size := (Array.getElem?_eq_some_iff.1 hl5).1
                have hG5 : G < W5.heap.size := Nat.lt_of_lt_of_le hGW ht5.size
                have HV5 : Hid (∀ k, vO.ownBlock = some k → k < W5.heap.size) := fun k hk => (RowR.lt hJ5.2.2.2.2.1 k hk).2
                obtain ⟨W6, hW6⟩ : ∃ x, x = W5.alloc (.cells #[.string p.fKey, .string p.fVal, .bool p.fGone] 32) := ⟨_, rfl⟩
                have hx6 : Below W5.heap.size W5 W6 := by rw [hW6]; exact (Below.refl _ _).alloc (Nat.le_refl _) _
                have hl6 : W6.heap[w5.heap.size + 1]? = some (.loop r) := (hx6.block _ hw5l).trans hl5
                have hbp6 : Bw W6 W5.heap.size 32 [.string p.fKey, .string p.fVal, .bool p.fGone] := by rw [hW6]; exact Bw.new' _ _ _ rfl
                have hJ6 := hJ5.under hx6
                have hrd6 := hrd5.under hx6
                have hy := run_yield (P := Tryd.prog) (args := #[.agg #[.string p.fKey, .string p.fVal, .bool p.fGone], .nilIface]) (by rw [hW6] at hl6; exact hl6) (by rw [hps]; rfl)
                have HW6 := Hid.mk hW6
                have HGS : Hid (out.length ≠ 200 → rpS zs = if (irGo f rr p.fKey (out ++ [p])).2 = true then irAll blks (ps.drop (i + 1)) (irGo f rr p.fKey (out ++ [p])).1 else ((irGo f rr p.fKey (out ++ [p])).1, false)) := fun h2 => by
                  rw [HGO.out, irGo, if_neg hz, hpr]
                  simp only
                  rw [if_neg h2]
                have HGF : Hid (out.length = 200 → (rpS zs).2 = false) := fun h2 => by
                  rw [HGO.out, irGo, if_neg hz, hpr]
                  simp only
                  rw [if_pos h2, if_neg (by simp)]
                clear hW6 HGO hpr hJ5 hrd5 hl5 HJr hlr hrd k0
                gi_wp2_with fail
                rw [← HW6.out]
                refine round_runs hst ?_
                gi_wp2_with fail
                obtain ⟨W7, hW7⟩ : ∃ x, x = W6.alloc (.cells #[.string p.fKey, .string p.fVal, .bool p.fGone] 32) := ⟨_, rfl⟩
                rw [← hW7]
                have hx7 : Below W6.heap.size W6 W7 := by rw [hW7]; exact (Below.refl _ _).alloc (Nat.le_refl _) _
                have hw6l : w5.heap.size + 1 < W6.heap.size := (Array.getElem?_eq_some_iff.1 hl6).1
                have hl7 : W7.heap[w5.heap.size + 1]? = some (.loop r) := (hx7.block _ hw6l).trans hl6
                have hbq7 : Bw W7 W6.heap.size 32 [.string p.fKey, .string p.fVal, .bool p.fGone] := by rw [hW7]; exact Bw.new' _ _ _ rfl
                refine ⟨hl7, ?_⟩
                obtain ⟨W8, hW8⟩ : ∃ x, x = W7.putObj (w5.heap.size + 1) (.loop { r with state := .busy }) := ⟨_, rfl⟩
                rw [← hW8]
                have hnr : w5.heap.size + 1 ∉ w5.heap.size :: rs := HNR.out
                have how : vO.ownBlock ≠ some (w5.heap.size + 1) := fun he => by have := hvo _ he; omega
                have t78 : Turn [w5.heap.size + 1] W7 W8 := by rw [hW8]; exact Turn.ofGrown (grownBy_putObj' W7 _ _) (fun k hk => by simp only [Option.some.injEq] at hk; simp [hk])
                have hJ8 := (hJ6.under hx7).turn t78 (fun k hk => by simp only [List.mem_singleton] at hk; subst hk; exact ⟨by omega, hnr, how⟩)
                have hl8 : W8.heap[w5.heap.size + 1]? = some (.loop { r with state := .busy }) := by rw [hW8]; exact World.putObj_heap_same (Array.getElem?_eq_some_iff.1 hl7).1
                have hrd8 := (hrd6.under hx7).miss t78 (fun k hk => by simp only [List.mem_singleton] at hk; subst hk; omega)
                have hs56 : W5.heap.size < W6.heap.size := hbp6.lt
                have hbp8 := (hbp6.under hx7).turn t78 (by simp; omega)
                have hbq8 := hbq7.turn t78 (by simp; omega)
                obtain ⟨css, r1, r2, r3, r4⟩ := id hJ8.2.2.2.2.1
                obtain ⟨aO, cO, rfl⟩ := own_slice r4
                have y4 := hJ8.2.2.2.1.cell 0 _ rfl
                have z0 := hbq8.cell 0 _ rfl
                have z1 := hbq8.cell 1 _ rfl
                have z2 := hbq8.cell 2 _ rfl
                have hE8 := HE.out.below hJ8.below
                clear hW7 hW8 hy hl6 hl7 hJ6 hrd6 hbp6 hbq7 hx6 hx7 HW6
                by_cases hful : out.length = 200
                · have HF : Hid ((rpS zs).2 = false) := HGF.out hful
                  have hfi : ((out.length : Int) == 200) = true := beq_iff_eq.2 (by omega)
                  clear HGS HGF
                  gi_wp2_with fail
                  refine ⟨trivial, ?_⟩
                  refine (CallsIn.inRound _ (callsIn_wide.2 (noTable_any _ pe W8 hE8))).mono ?_
                  rintro e W8 ⟨rfl, rfl⟩
                  have hJ4 := hJ8
                  have hl4 := hl8
                  have y0 := hJ4.1.cell 0 _ rfl
                  have y1 := hJ4.2.1.cell 0 _ rfl
                  have f0 := hJ4.1.free 0
                  have f1 := hJ4.2.1.free 0
                  obtain ⟨hRE5, hT5⟩ := hJ4.fail (.iface 113 (.agg #[.string ⟨#[98, 108, 111, 99, 107, 115]⟩, .iface 141 (.pointer (some pe))]))
                  have hl5 := (hT5.block _ (Array.getElem?_eq_some_iff.1 hl4).1 (by simp; omega)).trans hl4
                  obtain ⟨W5, hW5⟩ : ∃ x, x = (W8.setCell ⟨w.heap.size, 0, none⟩ (.slice none 0 0)).setCell ⟨w.heap.size + 1, 0, none⟩ (.iface 113 (.agg #[.string ⟨#[98, 108, 111, 99, 107, 115]⟩, .iface 141 (.pointer (some pe))])) := ⟨_, rfl⟩
                  rw [← hW5] at hRE5 hT5 hl5
                  have HW5 := Hid.mk hW5
                  have HL5 := Hid.mk hl5
                  have HRE5 := Hid.mk hRE5
                  have hDw : w.heap.size + 1 < w5.heap.size + 1 := by omega
                  clear hJ4 hl4 hl5 hT5 hRE5 hW5 hJ8 hl8
                  unfold partV errV
                  gi_wp2_with fail
                  rw [← HW5.out]
                  refine ⟨HL5.out, ?_⟩
                  obtain ⟨W6, hW6⟩ : ∃ x, x = W5.putObj (w5.heap.size + 1) (.loop { r with state := .done, pending := some .ret }) := ⟨_, rfl⟩
                  rw [← hW6]
                  have hRE6 : RE w W6 (w5.heap.size :: rs) (.iface 113 (.agg #[.string ⟨#[98, 108, 111, 99, 107, 115]⟩, .iface 141 (.pointer (some pe))])) := by rw [hW6]; exact HRE5.out.put _ hDw hnr
                  have hl6 : W6.heap[w5.heap.size + 1]? = some (.loop { r with state := .done, pending := some .ret }) := by rw [hW6]; exact World.putObj_heap_same (Array.getElem?_eq_some_iff.1 HL5.out).1
                  clear hW6 y0 y1 f0 f1
                  gi_wp2_with fail
                  refine bodyPost_ret (results_none rfl _ _ _) rfl ?_
                  refine ⟨⟨_, rfl⟩, _, hl6, by simp, (hRE6.2.2.2.1 _ (by simp)).2.2, ?_⟩
                  have hRE7 := hRE6.put (.loop { ({ r with state := .done, pending := some .ret } : Loop) with state := .exhausted }) hDw hnr
                  obtain ⟨W7, hW7⟩ : ∃ x, x = W6.putObj (w5.heap.size + 1) (.loop { ({ r with state := .done, pending := some .ret } : Loop) with state := .exhausted }) := ⟨_, rfl⟩
                  rw [← hW7] at hRE7 ⊢
                  clear hW7 hRE6 hl6
                  show Code.wpIn _ _ _ .ret _ _ _
                  gi_wp2_with fail
                  refine leaves_all (w5.heap.size :: rs) W7 hRE7.2.2.1 (fun r hr => (hRE7.2.2.2.1 r hr).2.2) (fun W8 ht8 => ?_)
                  obtain ⟨q0b, q1b, hB8⟩ := hRE7.taken ht8
                  have q0 := q0b.cell 0 _ rfl
                  have q1 := q1b.cell 0 _ rfl
                  exact ⟨.tuple #[.slice none 0 0, partV ⟨#[98, 108, 111, 99, 107, 115]⟩ pe], by simp [results, Tryd.results23, go_sem, partV, errV, *], hB8, .inr ⟨HF.out, _, rfl⟩⟩
                · have hfi : ((out.length : Int) == 200) = false := beq_eq_false_iff_ne.2 (by omega)
                  have HST : Hid (rpS zs = if (irGo f rr p.fKey (out ++ [p])).2 = true then irAll blks (ps.drop (i + 1)) (irGo f rr p.fKey (out ++ [p])).1 else ((irGo f rr p.fKey (out ++ [p])).1, false)) := HGS.out hful
                  obtain ⟨W9, hW9⟩ : ∃ x, x = W8.alloc (.cells #[.string p.fKey, .string p.fVal, .bool p.fGone] 32) := ⟨_, rfl⟩
                  have hx9 : Below W8.heap.size W8 W9 := by rw [hW9]; exact (Below.refl _ _).alloc (Nat.le_refl _) _
                  have hbx9 : Bx W9 W8.heap.size [.string p.fKey, .string p.fVal, .bool p.fGone] := by rw [hW9]; exact Bx.new _ _ _
                  have HZ9 : Hid (W9.heap.size = W8.heap.size + 1) := by rw [hW9]; show _ = _; simp
                  have ho9 := own_below r4 hx9
                  have hB09 : w1.heap.size + 2 ≤ W9.heap.size := by have h1 := hJ8.size.2.2.2; have h2 := hx9.size; omega
                  have HJ8 := Hid.mk hJ8
                  have HRD8 := Hid.mk hrd8
                  have HL8 := Hid.mk hl8
                  have HBP8 := Hid.mk hbp8
                  have HR1 := Hid.mk r1
                  have HR2 := Hid.mk r2
                  have HR3 := Hid.mk r3
                  clear HGS HGF hJ8 hrd8 hl8 hbp8 hbq8 r1 r2 r3 r4 hE8
                  gi_wp2_with (gi_at_builtin; rw [← hW9]; refine wpListIn_append_own_at _ rfl _ _ 24 rfl (w1.heap.size + 2) 32 iT (.agg #[.string ⟨#[]⟩, .string ⟨#[]⟩, .bool false]) 3 40 Tryd.underlying24 hiT hz0 hz1 hz2 rfl (by decide) _ _ _ rfl ho9 ⟨W8.heap.size, 0, none⟩ 1 1 [.string p.fKey, .string p.fVal, .bool p.fGone] rfl rfl (bx_news hbx9) (by intro u hu; simp at hu; rcases hu with rfl | rfl | rfl <;> rfl) (by unfold maxLen; omega) (by omega) hB09 ?_)
                  intro v10 W10 ho10 hgr10 hnil10 hloc10
                  try rw [← hW9] at hgr10
                  try rw [← HZ9.out] at hloc10
                  obtain ⟨a10, c10, rfl⟩ := own_slice ho10
                  have t910 := turnOwn hgr10
                  have hge : ∀ k, k ∈ (Value.slice aO out.length cO).ownBlock.toList → w1.heap.size + 2 ≤ k := fun k hk => (ho9.lt k (by simpa using hk)).1
                  have hO10 := (HJ8.out.2.2.2.1.under hx9).turn t910 (fun hm => by have := hge _ hm; omega)
                  have y5 := hO10.cell 0 _ rfl
                  have f5 := hO10.free 0
                  have hl5 := hO10.lt
                  have hJ11 := HJ8.out.push hx9 HR1.out HR2.out HR3.out ho10 hgr10 hloc10 (by omega) (by omega)
                  have hl10 : W10.heap[w5.heap.size + 1]? = some (.loop { r with state := .busy }) := by
                    have hlt : w5.heap.size + 1 < W8.heap.size := (Array.getElem?_eq_some_iff.1 HL8.out).1
                    exact (t910.block _ (Nat.lt_of_lt_of_le hlt hx9.size) (fun hm => how (by simpa using hm))).trans ((hx9.block _ hlt).trans HL8.out)
                  obtain ⟨W11, hW11⟩ : ∃ x, x = W10.setCell ⟨w1.heap.size + 1, 0, none⟩ (.slice a10 (out.length + 1) c10) := ⟨_, rfl⟩
                  have t1011 : Turn [w1.heap.size + 1] W10 W11 := by rw [hW11]; exact (Turn.refl _ _).setCell (by simp) _
                  rw [← hW11] at hJ11
                  have hl11 : W11.heap[w5.heap.size + 1]? = some (.loop { r with state := .busy }) := (t1011.block _ (Array.getElem?_eq_some_iff.1 hl10).1 (by simp; omega)).trans hl10
                  have hG8 : G < W8.heap.size := HRD8.out.lt
                  have hvo9 : ∀ k, k ∈ (Value.slice aO out.length cO).ownBlock.toList → k < w5.heap.size ∨ G < k := fun k hk => hvo k (by simpa using hk)
                  have hrd11 := ((HRD8.out.under hx9).miss t910 (fun k hk => by have := hvo9 k hk; omega)).miss t1011 (fun k hk => by simp only [List.mem_singleton] at hk; subst hk; omega)
                  have hown10 : ∀ k, (Value.slice a10 (out.length + 1) c10).ownBlock = some k → k < w5.heap.size ∨ G < k := fun k hk => by
                    rcases hloc10 with e | e
                    · exact hvo k (e ▸ hk)
                    · rw [e] at hk
                      simp only [Option.some.injEq] at hk
                      have := hx9.size
                      omega
                  have hbp11 : Bw W11 W5.heap.size 32 [.string p.fKey, .string p.fVal, .bool p.fGone] := ((HBP8.out.under hx9).turn t910 (fun hm => by have := HV5.out _ (by simpa using hm); omega)).turn t1011 (by simp; omega)
                  have HJ11 := Hid.mk hJ11
                  have HL11 := Hid.mk hl11
                  have HRD11 := Hid.mk hrd11
                  have HBP11 := Hid.mk hbp11
                  have HW11 := Hid.mk hW11
                  clear hW11 hJ11 hl11 hrd11 hbp11 ho10 hgr10 hloc10 hnil10 t910 hO10 hl10 t1011 hW9 ho9 hbx9 z0 z1 z2 y4
                  gi_wp2_with fail
                  rw [← HW11.out]
                  refine ⟨HL11.out, ?_⟩
                  have her : ({ r with state := .ready, pending := none } : Loop) = r := by cases r; simp only at hst hpe; subst hst; subst hpe; rfl
                  rw [her]
                  obtain ⟨W12, hW12⟩ : ∃ x, x = W11.putObj (w5.heap.size + 1) (.loop r) := ⟨_, rfl⟩
                  have t12 : Turn [w5.heap.size + 1] W11 W12 := by rw [hW12]; exact Turn.ofGrown (grownBy_putObj' W11 _ _) (fun k hk => by simp only [Option.some.injEq] at hk; simp [hk])
                  have how2 : (Value.slice a10 (out.length + 1) c10).ownBlock ≠ some (w5.heap.size + 1) := fun he => by have := hown10 _ he; omega
                  have hJ12 := HJ11.out.turn t12 (fun k hk => by simp only [List.mem_singleton] at hk; subst hk; exact ⟨by omega, hnr, how2⟩)
                  have hl12 : W12.heap[w5.heap.size + 1]? = some (.loop r) := by rw [hW12]; exact World.putObj_heap_same (Array.getElem?_eq_some_iff.1 HL11.out).1
                  have hrd12 := HRD11.out.miss t12 (fun k hk => by simp only [List.mem_singleton] at hk; subst hk; omega)
                  have hbp12 := HBP11.out.turn t12 (by simp; omega)
                  have c9 := hbp12.cell 0 _ rfl
                  have hG12 : G < W12.heap.size := hrd12.lt
                  have HME : Hid (lenV ((W12.cell? ⟨G, 0, none⟩).getD undef) = rr.length) := by
                    obtain ⟨ar2, cr2, hb2, _⟩ := hrd12
                    show _ = _
                    rw [hb2.cell 0 _ rfl]
                    rfl
                  have HJ12 := Hid.mk hJ12
                  have HRD12 := Hid.mk hrd12
                  have HLI : Hid (lightP 1048576 (out ++ [p])) := fun q hq => by
                    rcases List.mem_append.1 hq with h | h
                    · exact hli q h
                    · simp only [List.mem_singleton] at h
                      subst h
                      omega
                  rw [← hW12]
                  clear hW12 her hJ12 hrd12 hbp12 t12 HW11 HL11 HJ11 HRD11 HBP11 y5 f5
                  gi_wp2_with fail
                  go_roundw
                  case rel => exact ⟨f, rr, p.fKey, out ++ [p], _, rfl, HRD12.out, hok, by omega, by omega, HLI.out, by rw [List.length_append, List.length_singleton]; omega, HST, HJ12.out, hl12, hown10, hG12⟩
                  case measure => rw [HME.out, HLE.out]; omega
              · have HF : Hid ((rpS zs).2 = false) := by
                  obtain ⟨f, rfl⟩ : ∃ g, f = g + 1 := ⟨f - 1, by omega⟩
                  show _ = _
                  rw [HGO.out, irGo, if_neg hz, hpn, if_neg (by simp)]
                have hJ5 := HJr.out.turn ht5 (fun k hk => by simp only [List.mem_singleton] at hk; subst hk; exact ⟨by omega, fun hm => by have := HRL.out _ hm; omega, fun he => by have := hvo _ he; omega⟩)
                have hl5 : W5.heap[w5.heap.size + 1]? = some (.loop r) := (ht5.block _ (Array.getElem?_eq_some_iff.1 hlr).1 (by simp; omega)).trans hlr
                have hw5l : w5.heap.size + 1 < W5.heap.size := (Array.getElem?_eq_some_iff.1 hl5).1
                obtain ⟨X2, hX2⟩ : ∃ x, x = W5.alloc (.cells #[.string ⟨#[]⟩, .string ⟨#[]⟩, .bool false] 32) := ⟨_, rfl⟩
                have hxx : Below W5.heap.size W5 X2 := by rw [hX2]; exact (Below.refl _ _).alloc (Nat.le_refl _) _
                have hm2 : X2.heap[w5.heap.size + 1]? = some (.loop r) := (hxx.block _ hw5l).trans hl5
                have HX2 := Hid.mk (hJ5.under hxx)
                have hy := run_yield (P := Tryd.prog) (args := #[.agg #[.string ⟨#[]⟩, .string ⟨#[]⟩, .bool false], partV s pe]) (by rw [hX2] at hm2; exact hm2) (by rw [hps]; rfl)
                have HXX := Hid.mk hX2
                have HOWN : Hid (vO.ownBlock ≠ some (w5.heap.size + 1)) := fun he => by have := hvo _ he; omega
                clear hX2 HGO hJ5 hl5 HJr hlr hrd k0 hxx hrd5
                gi_wp2_with fail
                rw [← HXX.out]
                refine round_runs hst ?_
                gi_wp2_with fail
                obtain ⟨W3, hW3⟩ : ∃ x, x = X2.alloc (.cells #[.string ⟨#[]⟩, .string ⟨#[]⟩, .bool false] 32) := ⟨_, rfl⟩
                rw [← hW3]
                have hx3 : Below X2.heap.size X2 W3 := by rw [hW3]; exact (Below.refl _ _).alloc (Nat.le_refl _) _
                have hlt2 : w5.heap.size + 1 < X2.heap.size := (Array.getElem?_eq_some_iff.1 hm2).1
                have hl3 : W3.heap[w5.heap.size + 1]? = some (.loop r) := (hx3.block _ hlt2).trans hm2
                have hJ3 := HX2.out.under hx3
                refine ⟨hl3, ?_⟩
                obtain ⟨W4, hW4⟩ : ∃ x, x = W3.putObj (w5.heap.size + 1) (.loop { r with state := .busy }) := ⟨_, rfl⟩
                rw [← hW4]
                have hnr : w5.heap.size + 1 ∉ w5.heap.size :: rs := HNR.out
                have hJ4 : RP w w1.heap.size (w1.heap.size + 1) (w1.heap.size + 2) (.slice (some ⟨b1, o1, none⟩) marks.length cm) (.slice af nf cf) ptn marks W4 vO out (w5.heap.size :: rs) := by rw [hW4]; exact hJ3.put _ (by omega) hnr HOWN.out
                have hl4 : W4.heap[w5.heap.size + 1]? = some (.loop { r with state := .busy }) := by rw [hW4]; exact World.putObj_heap_same (Array.getElem?_eq_some_iff.1 hl3).1
                have y0 := hJ4.1.cell 0 _ rfl
                have y1 := hJ4.2.1.cell 0 _ rfl
                have f0 := hJ4.1.free 0
                have f1 := hJ4.2.1.free 0
                obtain ⟨hRE5, hT5⟩ := hJ4.fail (.iface 113 (.agg #[.string s, .iface 141 (.pointer (some pe))]))
                have hl5 := (hT5.block _ (Array.getElem?_eq_some_iff.1 hl4).1 (by simp; omega)).trans hl4
                obtain ⟨W5, hW5⟩ : ∃ x, x = (W4.setCell ⟨w.heap.size, 0, none⟩ (.slice none 0 0)).setCell ⟨w.heap.size + 1, 0, none⟩ (.iface 113 (.agg #[.string s, .iface 141 (.pointer (some pe))])) := ⟨_, rfl⟩
                rw [← hW5] at hRE5 hT5 hl5
                have HW5 := Hid.mk hW5
                have HL5 := Hid.mk hl5
                have HRE5 := Hid.mk hRE5
                have hDw : w.heap.size + 1 < w5.heap.size + 1 := by omega
                clear hW3 hW4 hJ3 hJ4 hl3 hl4 hl5 hy HX2 hm2 hx3 hT5 hRE5 hW5
                unfold partV errV
                gi_wp2_with fail
                rw [← HW5.out]
                refine ⟨HL5.out, ?_⟩
                obtain ⟨W6, hW6⟩ : ∃ x, x = W5.putObj (w5.heap.size + 1) (.loop { r with state := .done, pending := some .ret }) := ⟨_, rfl⟩
                rw [← hW6]
                have hRE6 : RE w W6 (w5.heap.size :: rs) (.iface 113 (.agg #[.string s, .iface 141 (.pointer (some pe))])) := by rw [hW6]; exact HRE5.out.put _ hDw hnr
                have hl6 : W6.heap[w5.heap.size + 1]? = some (.loop { r with state := .done, pending := some .ret }) := by rw [hW6]; exact World.putObj_heap_same (Array.getElem?_eq_some_iff.1 HL5.out).1
                clear hW6 y0 y1 f0 f1
                gi_wp2_with fail
                refine bodyPost_ret (results_none rfl _ _ _) rfl ?_
                refine ⟨⟨_, rfl⟩, _, hl6, by simp, (hRE6.2.2.2.1 _ (by simp)).2.2, ?_⟩
                have hRE7 := hRE6.put (.loop { ({ r with state := .done, pending := some .ret } : Loop) with state := .exhausted }) hDw hnr
                obtain ⟨W7, hW7⟩ : ∃ x, x = W6.putObj (w5.heap.size + 1) (.loop { ({ r with state := .done, pending := some .ret } : Loop) with state := .exhausted }) := ⟨_, rfl⟩
                rw [← hW7] at hRE7 ⊢
                clear hW7 hRE6 hl6
                show Code.wpIn _ _ _ .ret _ _ _
                gi_wp2_with fail
                refine leaves_all (w5.heap.size :: rs) W7 hRE7.2.2.1 (fun r hr => (hRE7.2.2.2.1 r hr).2.2) (fun W8 ht8 => ?_)
                obtain ⟨q0b, q1b, hB8⟩ := hRE7.taken ht8
                have q0 := q0b.cell 0 _ rfl
                have q1 := q1b.cell 0 _ rfl
                exact ⟨.tuple #[.slice none 0 0, partV s pe], by simp [results, Tryd.results23, go_sem, partV, errV, *], hB8, .inr ⟨HF.out, _, rfl⟩⟩
      · have hie : i = marks.length := by omega
        have HDN : Hid (rpS zs = (out, true)) := by
          show _ = _
          rw [HGI.out, List.drop_of_length_le (by rw [← HMK.out, List.length_map]; omega), irAll]
        have hJ := HJ.out
        obtain ⟨aO, cO, rfl⟩ : ∃ aO cO, vO = .slice aO out.length cO := by obtain ⟨_, _, _, _, q⟩ := hJ.2.2.2.2.1; exact own_slice q
        have y0 := hJ.1.cell 0 _ rfl
        have y1 := hJ.2.1.cell 0 _ rfl
        have y4 := hJ.2.2.2.1.cell 0 _ rfl
        have f0 := hJ.1.free 0
        have f1 := hJ.2.1.free 0
        have hl0 := hJ.1.lt
        have hl1 := hJ.2.1.lt
        have hnlt : ¬ (i : Int) < (marks.length : Int) := by omega
        obtain ⟨hN, hdef, hfin⟩ := hJ.good
        have HN := Hid.mk hN
        have HDF := Hid.mk hdef
        have HFI := Hid.mk hfin
        clear hJ HJ HGI hN hdef hfin hie
        go_wp2_with fail
        refine leaves_all rs _ HN.out HDF.out (fun W8 ht8 => ?_)
        obtain ⟨q0b, q1b, hrw8, hB8⟩ := HFI.out _ ht8
        have q0 := q0b.cell 0 _ rfl
        have q1 := q1b.cell 0 _ rfl
        exact ⟨.tuple #[.slice aO out.length cO, .nilIface], by simp [results, Tryd.results23, go_sem, *], hB8, .inl ⟨by rw [HDN.out], by rw [HDN.out]; exact hli, by rw [HDN.out]; exact hol, _, rfl, by rw [HDN.out]; exact hrw8⟩⟩

end Go.Proofs.YtmedljankefhbaaDoor
