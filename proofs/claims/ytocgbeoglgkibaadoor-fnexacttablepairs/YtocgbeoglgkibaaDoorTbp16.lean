/-
  Part 17 of the texts that the proof leans on.
-/
import Derived.Test.YtocgbeoglgkibaaDoorTbp14
import Derived.Test.YtocgbeoglgkibaaDoorTbp15
import Derived.Test.YtocgbeoglgkibaaDoorRows
import Derived.Test.YtocgbeoglgkibaaDoorTbp0
import Derived.ProofKit
import Derived.Test.YtocgbeoglgkibaaDoorTbp1
import Derived.Test.YtocgbeoglgkibaaDoorTbp2
set_option linter.unusedVariables false
set_option linter.unusedSimpArgs false
set_option maxRecDepth 10000

namespace Go.Proofs.YtocgbeoglgkibaaDoor
open Go.RowKit Go.Maps

theorem ixGo_len (body : List Int) (n : Int) : ∀ (f : Nat) (k : Int) (is : Bool) (ps : List Int), (ixGo body n f k is ps).1.length ≤ ps.length + f := by
  intro f
  induction f with
  | zero => intro k is ps; simp [ixGo]
  | succ f ih =>
    intro k is ps
    rw [ixGo]
    split
    · have h := ih (ixStep body k).2.1 (ixStep body k).2.2 (ps ++ [(ixStep body k).1])
      simp only [List.length_append, List.length_cons, List.length_nil] at h
      omega
    · simp
theorem ixS_len (zs : List Int) : (ixS zs).1.length ≤ 100 := by
  unfold ixS
  split
  · simp
  · split
    · simp
    · split
      · unfold ixB ixE
        have h := ixGo_len (unframe (zs.take (zs.length - 4)) (rd4 zs (zs.length - 4))).1 (getNum (unframe (zs.take (zs.length - 4)) (rd4 zs (zs.length - 4))).1 0).1 100 (getNum (unframe (zs.take (zs.length - 4)) (rd4 zs (zs.length - 4))).1 0).2.1 (getNum (unframe (zs.take (zs.length - 4)) (rd4 zs (zs.length - 4))).1 0).2.2 []
        simp only [List.length_nil, Nat.zero_add] at h
        exact h
      · simp
theorem tpS_bad {zs : List Int} (h : (ixS zs).2 = false) : tpS zs = ([], false) := by unfold tpS; rw [if_neg (by rw [h]; simp)]
theorem tpS_go {zs : List Int} (h : (ixS zs).2 = true) : tpS zs = tpE zs (tpGo zs (ixS zs).1 []) := by unfold tpS; rw [if_pos h]
theorem tpE_bad {zs : List Int} {r : List MPair × Bool} (h : r.2 = false) : tpE zs r = ([], false) := by unfold tpE; rw [if_neg (by rw [h]; simp)]

set_option maxHeartbeats 8000000 in
theorem specTab_any (a : Option Addr) (n cap : Nat) (zs : List Int) (w : World) (hx : zs.length = n) (hlen : n ≤ 1048576) (hcap : n ≤ cap) (hcm : cap ≤ 9223372036854775807) (hb : BytesOk zs) (hr : Rd .u8 w.heap.size w a zs) (ht : TabAt w) :
    Calls Tryd.prog 4 #[.slice a n cap] w (TsPost w (tpS zs)) := by
  obtain ⟨iT, hiT, hz0, hz1, hz2⟩ := info_parts Tryd.infoPair
  have HX := Hid.mk hx
  have hCx := l5Index_any a n cap zs w hx hlen hcap hcm hb hr
  have HPL := Hid.mk (ixS_len zs)
  have HBAD : Hid ((ixS zs).2 = false → tpS zs = ([], false)) := tpS_bad
  have HGD : Hid ((ixS zs).2 = true → tpS zs = tpE zs (tpGo zs (ixS zs).1 [])) := tpS_go
  have HB := Hid.mk hb
  have HR := Hid.mk hr
  have HT := Hid.mk ht
  clear hx hb hr ht
  generalize ixS zs = X at *
  obtain ⟨ps, ok0⟩ := X
  simp only at HPL HBAD HGD
  go_enter Tryd.func4, Tryd.ntmps4
  go_wp2_with fail
  refine Calls.mono hCx ?_
  rintro e w1 ⟨v1, v2, v3, rfl, hop, hb1⟩
  simp only at hop
  clear hCx
  obtain ⟨w2, hw2⟩ : ∃ x, x = w1.alloc (.cells #[] 45) := ⟨_, rfl⟩
  have hb2 : Below w1.heap.size w1 w2 := by rw [hw2]; exact (Below.refl _ _).alloc (Nat.le_refl _) _
  have hB2 := hb1.trans (hb2.mono hb1.size)
  have hrow : RowR 3 45 rPair w1.heap.size w2 w1.heap.size (.slice (some ⟨w1.heap.size, 0, none⟩) 0 0) [] := by rw [hw2]; exact row_nil w1
  have hop2 := own_below hop hb2
  have hdO : Dis (.slice (some ⟨w1.heap.size, 0, none⟩) 0 0) v2 := fun k h1 h2 => by have := (hop.lt k h2).2; simp [Value.ownBlock] at h1; omega
  have HW2 := Hid.mk hw2
  obtain ⟨aP, cP, rfl⟩ := own_slice hop
  have hpl := HPL.out
  obtain ⟨pn, hpn⟩ : ∃ pn, pn = ps.length := ⟨_, rfl⟩
  have HPN : Hid (ps.length = pn) := hpn.symm
  rw [← hpn] at hop2 hdO hpl ⊢
  clear hop hw2 hpn
  cases ok0 with
  | false =>
    have HE : Hid (tpS zs = ([], false)) := HBAD.out rfl
    have hB3 := hB2.alloc hB2.size (.cells #[] 45)
    clear hrow hop2 hdO
    go_wp2_with fail
    rw [← HW2.out]
    refine wp_loop_rounds 1 ?_
    rw [rounds_succ]
    go_wp2_with fail
    all_goals (go_ret2; exact ⟨_, (by first | (rw [HE.out]; done) | (rw [HE.out]; rfl)), by rw [HE.out]; exact rdPs_none _ _ _, hB3⟩)
  | true =>
    have HE : Hid (tpS zs = tpE zs (tpGo zs ps [])) := HGD.out rfl
    clear HBAD HGD
    go_wp2_with fail
    rw [← HW2.out]
    go_loopw [7, 8, 9] (fun kv vO iv wr => ∃ (i : Nat) (okb : Bool) (out : List MPair), iv = .int .i64 i ∧ kv = .bool okb ∧ i ≤ pn ∧ out.length ≤ 1048576 * i ∧ lightP 1048576 out ∧ Hid (okb = true → tpGo zs ps [] = tpGo zs (ps.drop i) out) ∧ Hid (okb = false → (tpGo zs ps []).2 = false) ∧ RowR 3 45 rPair w1.heap.size wr w1.heap.size vO out ∧ wr.ownsRow w.heap.size 3 1 (.slice aP pn cP) pn (ps.map (Value.int .i64)) ∧ Dis vO (.slice aP pn cP) ∧ w1.heap.size ≤ wr.heap.size ∧ Below w.heap.size w wr) (fun _ _ iv _ => pn - (intOf iv).toNat)
    case atStart => exact ⟨0, true, [], rfl, rfl, Nat.zero_le _, by simp, (fun p hp => by cases hp), (fun _ => by simp), (fun h => by cases h), hrow, hop2, hdO, hb2.size, hB2⟩
    case round =>
      clear hrow hop2 hdO HW2
      obtain ⟨i, okb, out, rfl, rfl, hi, hol, hli, HG1, HG2, hrw, hoP, hdO, hw1, hbr⟩ := hrel
      obtain ⟨css, r1, r2, r3, r4⟩ := id hrw
      obtain ⟨aO, cO, rfl⟩ := own_slice r4
      have HRW := Hid.mk hrw
      clear hrw
      cases okb with
      | false =>
        have HF : Hid (tpS zs = ([], false)) := by show _ = _; rw [HE.out]; exact tpE_bad (HG2.out rfl)
        have hB3 := hbr.alloc hbr.size (.cells #[] 45)
        clear r1 r2 r3 r4 hoP
        go_wp2_with fail
        all_goals (go_ret2; exact ⟨_, (by first | (rw [HF.out]; done) | (rw [HF.out]; rfl)), by rw [HF.out]; exact rdPs_none _ _ _, hB3⟩)
      | true =>
        by_cases hip : i < pn
        · have hil : i < ps.length := by rw [HPN.out]; exact hip
          obtain ⟨aP', cP', hab, _, hRp⟩ := own_rd HPN.out hoP
          simp only [Value.slice.injEq, true_and] at hab
          obtain ⟨rfl, rfl⟩ := hab
          obtain ⟨b1, o1, rfl, hB1, hc1⟩ := hRp i hil
          obtain ⟨pp, hpp⟩ : ∃ pp, pp = ps.getD i 0 := ⟨_, rfl⟩
          rw [← hpp] at hc1
          have HD : Hid (ps.drop i = pp :: ps.drop (i + 1)) := by show _ = _; rw [hpp]; exact drop_cons hil
          have hrz := (HR.out.below hbr).mono hbr.size
          have hCp := l5Pairs_any a n cap zs pp wr HX.out hlen hcap HB.out hrz
          have HBD := Hid.mk (prsAt_bd zs pp)
          have HS1 : Hid ((prsAt zs pp).2 = true → tpGo zs ps [] = tpGo zs (ps.drop (i + 1)) (out ++ (prsAt zs pp).1)) := fun h => by rw [HG1.out rfl, HD.out, tpGo, if_pos h]
          have HS2 : Hid ((prsAt zs pp).2 = false → (tpGo zs ps []).2 = false) := fun h => by rw [HG1.out rfl, HD.out, tpGo, if_neg (by rw [h]; simp)]
          clear hpp HD HG1 HG2 hRp
          generalize prsAt zs pp = L at *
          obtain ⟨l, fine⟩ := L
          simp only at HS1 HS2 HBD
          go_wp2_with fail
          refine Calls.mono hCp ?_
          rintro e w3 ⟨vl, rfl, hrl, hb3⟩
          simp only at hrl
          clear hCp
          have hB3 := hbr.trans (hb3.mono hbr.size)
          obtain ⟨al, cl, rfl, hLl⟩ := rdPs_row hrl
          obtain ⟨s1, u1, u2, u3, u4⟩ := Src.any onePairP (P := Tryd.prog) (n := l.length) (c := cl) Tryd.underlying23 rfl hLl.2.2
          have HU1 := Hid.mk u1
          have HU2 := Hid.mk u2
          have HU3 : Hid (∀ j, (h1 : j < l.length) → (h2 : j < s1.length) → rPair w1.heap.size w3 s1[j] l[j]) := fun j h1 h2 => u3 j h1 h2
          have HR1 := Hid.mk r1
          have HR2 := Hid.mk r2
          have HR3 : Hid (∀ j, (h1 : j < out.length) → (h2 : j < css.length) → rPair w1.heap.size w3 css[j] out[j]) := fun j h1 h2 => r3 j h1 h2
          have ho3 := own_below r4 hb3
          have hoP3 := own_below hoP hb3
          have hll : l.length ≤ 1048576 := by have h1 := HBD.out.2; have h2 := HX.out; omega
          have hlw : lightP 1048576 l := fun q hq => by have h1 := HBD.out.1 q hq; have h2 := HX.out; omega
          have hol2 : out.length ≤ 1048576 * 100 := by omega
          have hw13 : w1.heap.size ≤ w3.heap.size := Nat.le_trans hw1 hb3.size
          clear r1 r2 r3 r4 u1 u2 u3 hrl hLl hoP hc1
          go_wp2_with (at_builtin; refine wpList_append_src_y rfl _ _ 23 23 rfl w1.heap.size 45 iT (.agg #[.string ⟨#[]⟩, .string ⟨#[]⟩, .bool false]) 3 40 Tryd.underlying23 hiT hz0 hz1 hz2 rfl _ _ _ rfl ho3 _ rfl _ s1.flatten u4 (by unfold maxLen; omega) (by omega) hw13 ?_; intro v4 w4 ho4 hgr4 hat4)
          have hge4 : ∀ k, (Value.slice aO out.length cO).ownBlock = some k → w1.heap.size ≤ k := fun k h => (ho3.lt k h).1
          have hBz : Below w1.heap.size w3 w4 := (Below.refl _ _).grown hgr4 hw13 hge4
          have hB4 := hB3.grown hgr4 hB3.size (fun k h => Nat.le_trans hb1.size (hge4 k h))
          have HRN : Hid (RowR 3 45 rPair w1.heap.size w4 w1.heap.size v4 (out ++ l)) := RowR.cat rPair_good HR1.out HR2.out HR3.out HU1.out HU2.out HU3.out hBz ho4
          have HP4 := Hid.mk (own_other hoP3 hgr4 hdO)
          have HD4 := Hid.mk (dis_app hat4 hoP3 hdO)
          have hw14 : w1.heap.size ≤ w4.heap.size := Nat.le_trans hw13 hgr4.size
          clear ho4 hgr4 hat4 ho3 hoP3 u4 hdO
          go_wp2_with fail
          go_roundw
          case rel => exact ⟨i + 1, fine, out ++ l, by go_num, rfl, by omega, by rw [List.length_append]; omega, (fun q hq => by rcases List.mem_append.1 hq with h | h <;> first | exact hli q h | exact hlw q h), HS1, HS2, HRN.out, HP4.out, HD4.out, hw14, hB4⟩
          case measure => simp [intOf]; omega
        · have hie : i = pn := by omega
          have HO : Hid (tpS zs = tpE zs (out, true)) := by show _ = _; rw [HE.out, HG1.out rfl, List.drop_of_length_le (by rw [HPN.out]; omega), tpGo]
          have hol2 : out.length ≤ 1048576 * 100 := by omega
          obtain ⟨a', c', hab, hLo⟩ := rdPs_row HRW.out
          simp only [Value.slice.injEq, true_and] at hab
          obtain ⟨rfl, rfl⟩ := hab
          have hTr := HT.out.below hbr HT.out.size
          have hCt := specPut_light aO out.length cO out wr rfl (by omega) hLo hli hTr
          clear r1 r2 r3 r4 hoP hdO HG1 HG2 hie
          go_wp2_with fail
          refine Calls.mono hCt ?_
          rintro e w5 ⟨vt, rfl, hot, hb5⟩
          have hB5 := hbr.trans (hb5.mono hbr.size)
          obtain ⟨at5, ct5, rfl, _, hRt⟩ := own_rd rfl hot
          have hrz := (HR.out.below hB5).mono hB5.size
          have HRW5 := Hid.mk (row_below HRW.out hb5 hw1)
          have HTL5 : Hid ((tabP out).length ≤ 140737488351232) := by
            show _ ≤ _
            by_cases h : tabOk out = true
            · have h1 := tabOk_w h
              have h2 := tabOk_len h
              have h3 := boundPutTable_0 out (by unfold wPs; omega)
              omega
            · unfold tabP; rw [if_neg h]; simp
          have hCs := l5Same_any at5 a (tabP out).length n ct5 cap (tabP out) zs w5 w5.heap.size rfl HX.out HTL5.out (by omega) hRt hrz
          clear hCt hot hLo
          go_wp2_with fail
          refine Calls.mono hCs ?_
          rintro e w6 ⟨rfl, d, hw6⟩
          have hb6 : Below w5.heap.size w5 w6 := by rw [hw6]; exact below_drewN (Below.refl _ _) d
          have hB6 := hB5.trans (hb6.mono hB5.size)
          have HRW6 := Hid.mk (row_below HRW5.out hb6 (Nat.le_trans hw1 hb5.size))
          clear hw6 hCs hRt hrz
          by_cases hd : tabP out = zs
          · have HF : Hid (tpS zs = (out, true)) := by show _ = _; rw [HO.out]; unfold tpE; rw [if_pos ⟨rfl, hd⟩]
            rw [decide_eq_true hd]
            go_wp2_with fail
            all_goals (go_ret2; exact ⟨_, (by first | (rw [HF.out]; done) | (rw [HF.out]; rfl)), by rw [HF.out]; exact rdPs_row HRW6.out, hB6⟩)
          · have HF : Hid (tpS zs = ([], false)) := by show _ = _; rw [HO.out]; unfold tpE; rw [if_neg (by rintro ⟨_, h⟩; exact hd h)]
            rw [decide_eq_false hd]
            have hB7 := hB6.alloc hB6.size (.cells #[] 45)
            go_wp2_with fail
            all_goals (go_ret2; exact ⟨_, (by first | (rw [HF.out]; done) | (rw [HF.out]; rfl)), by rw [HF.out]; exact rdPs_none _ _ _, hB7⟩)


/-- The tables of utf8, that of the sum, and the error are as laid. -/
def Tabs3 (w : World) : Prop := Tabs2 w ∧ ∃ pe, ErrAt w pe
theorem Tabs3.size {w : World} (h : Tabs3 w) : 0 < w.heap.size := h.1.size
theorem Tabs3.below {w w' : World} (h : Tabs3 w) (hb : Below w.heap.size w w') (hB : 0 < w.heap.size) : Tabs3 w' := ⟨h.1.below hb hB, by obtain ⟨pe, h2⟩ := h.2; exact ⟨pe, h2.below hb⟩⟩

theorem rpS_nil {zs : List Int} (h : (rpS zs).2 = true) : zs ≠ [] := by
  intro h0
  subst h0
  cases h
def TiPost (w : World) (r : List MPair × Bool) (e : Ending) (w' : World) : Prop :=
  ∃ (v : Value) (F : List Nat), e = .returned (.tuple #[v, .bool r.2]) ∧ ownS 3 45 oPair w' v r.1 F ∧ F.Nodup ∧ (∀ b, b ∈ F → w.heap.size ≤ b) ∧ Below w.heap.size w w'

set_option maxHeartbeats 8000000 in
theorem implTab_any (a : Option Addr) (n cap : Nat) (zs : List Int) (pe : Addr) (w : World) (hx : zs.length = n) (hlen : n ≤ 1048576) (hcap : n ≤ cap) (hcm : cap ≤ 9223372036854775807) (hb : BytesOk zs) (hr : Rd .u8 w.heap.size w a zs) (hT : Tabs2 w) (hE : ErrAt w pe) :
    Calls Tryd.prog 6 #[.slice a n cap] w (TiPost w (tpS zs)) := by
  have hCr := readPairs_any a n cap zs pe w hx hlen hcap hcm hb hr hT.2 hE
  have HRT := Hid.mk (rp_tp zs)
  have HX := Hid.mk hx
  have HB := Hid.mk hb
  clear hx hb
  go_enter Tryd.func6, Tryd.ntmps6
  go_wp2_with fail
  refine Calls.mono hCr ?_
  rintro e w1 ⟨hb1, ⟨h1, hli, hol, v, rfl, hrow⟩ | ⟨h1, s, rfl⟩⟩
  · have hE1 := hE.below hb1
    have k0 : w1.cell? ⟨0, 0, none⟩ = some (errV pe) := hE1
    have HNE := Hid.mk (rpS_nil h1)
    generalize rpS zs = R at *
    obtain ⟨l, ok⟩ := R
    simp only at h1 hli hol hrow HRT
    subst h1
    obtain ⟨al, cl, rfl, hLl⟩ := rdPs_row hrow
    have hCp := implPut_light al l.length cl l w1 rfl (by omega) hLl hli (hT.1.below hb1) (hT.2.below hb1 hT.2.size)
    unfold errV at k0
    have hCi := is_nil pe w1
    unfold errV at hCi
    clear hCr hLl
    go_wp2_with fail
    refine Calls.mono hCi ?_
    rintro e w1 ⟨rfl, rfl⟩
    go_wp2_with fail
    refine Calls.mono hCp ?_
    rintro e w2 ⟨vt, rfl, hot, hb2⟩
    obtain ⟨at2, ct2, rfl, _, hRt⟩ := own_rd rfl hot
    have hB2 := hb1.trans (hb2.mono hb1.size)
    have hrz := (hr.below hB2).mono hB2.size
    have HTO : Hid (BytesOk (tabP l)) := by
      show BytesOk _
      by_cases h : tabOk l = true
      · exact tabP_ok (by have := tabOk_w h; omega)
      · unfold tabP; rw [if_neg h]; intro z hz; cases hz
    have hCe := bytesEq_any at2 a (tabP l).length n ct2 cap (tabP l) zs w2 w2.heap.size rfl HX.out HTO.out HB.out hRt hrz
    have HRW2 := Hid.mk (row_below hrow hb2 (Nat.zero_le _))
    clear hCp hCi hot hrow k0 hr
    go_wp2_with fail
    refine Calls.mono hCe ?_
    rintro e w3 ⟨rfl, hb3⟩
    have hB3 := hB2.trans (hb3.mono hB2.size)
    have HRW3 := Hid.mk (row_below HRW2.out hb3 (Nat.zero_le _))
    clear hCe hRt hrz
    by_cases hd : tabP l = zs
    · have HF : Hid (tpS zs = (l, true)) := by show _ = _; rw [HRT.out, if_pos ⟨(by first | trivial | rfl), hd, HNE.out⟩]
      rw [decide_eq_true hd]
      obtain ⟨p1, p2, p3⟩ := pairs_own HRW3.out
      have HP1 := Hid.mk p1
      have HP2 := Hid.mk p2
      have HP3 := Hid.mk p3
      clear p1 p2 p3
      go_wp2_with fail
      all_goals (go_ret2; exact ⟨_, _, (by first | (rw [HF.out]; done) | (rw [HF.out]; rfl)), by rw [HF.out]; exact HP1.out, HP2.out, HP3.out, hB3⟩)
    · have HF : Hid (tpS zs = ([], false)) := by show _ = _; rw [HRT.out, if_neg (by rintro ⟨_, h, _⟩; exact hd h)]
      rw [decide_eq_false hd]
      go_wp2_with fail
      all_goals (go_ret2; exact ⟨_, [], (by first | (rw [HF.out]; done) | (rw [HF.out]; rfl)), by rw [HF.out]; exact .inl ⟨rfl, rfl, rfl⟩, List.nodup_nil, (fun b hb => by cases hb), hB3⟩)
  · have hE1 := hE.below hb1
    have k0 : w1.cell? ⟨0, 0, none⟩ = some (errV pe) := hE1
    have HF : Hid (tpS zs = ([], false)) := by show _ = _; rw [HRT.out, if_neg (by rintro ⟨h, _⟩; rw [h1] at h; cases h)]
    have hCi := is_part s pe w1
    unfold errV at k0
    unfold partV errV at hCi
    unfold partV errV
    clear hCr
    go_wp2_with fail
    refine Calls.mono hCi ?_
    rintro e w2 ⟨rfl, hb2⟩
    have hB2 := hb1.trans (hb2.mono hb1.size)
    go_wp2_with fail
    all_goals (go_ret2; exact ⟨_, [], (by first | (rw [HF.out]; done) | (rw [HF.out]; rfl)), by rw [HF.out]; exact .inl ⟨rfl, rfl, rfl⟩, List.nodup_nil, (fun b hb => by cases hb), hB2⟩)

theorem specTablePairs_c (v : Value) (zs : List Int) (w : World) (hr : rdB w.heap.size w v zs) (hw : zs.length ≤ 1048576) (hT : Tabs3 w) :
    Calls Tryd.prog 4 #[v] w fun e w' => ∃ v : Value, e = .returned (.tuple #[v, .bool (tpS zs).2]) ∧ rdPs w'.heap.size w' v (tpS zs).1 ∧ Below w.heap.size w w' := by
  obtain ⟨a, c, rfl, h1, h2, h3, h4⟩ := hr
  exact specTab_any a _ c zs w rfl hw h1 h2 h4 h3 hT.1.2
theorem implTablePairs_c (v : Value) (zs : List Int) (w : World) (hr : rdB w.heap.size w v zs) (hw : zs.length ≤ 1048576) (hT : Tabs3 w) :
    Calls Tryd.prog 6 #[v] w fun e w' => ∃ (v : Value) (F : List Nat), e = .returned (.tuple #[v, .bool (tpS zs).2]) ∧ ownS 3 45 oPair w' v (tpS zs).1 F ∧ F.Nodup ∧ (∀ b, b ∈ F → w.heap.size ≤ b) ∧ Below w.heap.size w w' := by
  obtain ⟨a, c, rfl, h1, h2, h3, h4⟩ := hr
  obtain ⟨pe, hE⟩ := hT.2
  exact implTab_any a _ c zs pe w rfl hw h1 h2 h4 h3 hT.1 hE

end Go.Proofs.YtocgbeoglgkibaaDoor

namespace Go.Proofs.YtocgbeoglgkibaaDoor
open Go.RowKit

section
variable {H : Type} {enc : TypeId × Value → H} {w : World} {base fuel : Nat} {spare : Nat → Bool} {held : Bool} {cs : List Value} {x : DataW H × List MemPlace}

theorem openBytes {t e : TypeId} (ht : Tryd.prog.underlying t = some (.slice e)) (he : Tryd.prog.underlying e = some (.int .u8)) (hc : Tryd.prog.cellsOf e = 1) (h : DataW.trod enc Tryd.prog w base spare held fuel t cs = some x) :
    ∃ a c, ∃ zs : List Int, cs = [.slice a zs.length c] ∧ LeafB w.heap.size w a c zs := by
  rcases Go.ChangeShapes.open_ints ht he hc h with ⟨rfl, _⟩ | ⟨a, len, cap, zs, rfl, _, hl, hm, hz, _, hcell, hwf⟩
  · exact ⟨none, 0, [], rfl, by simp, by omega, fun j hj => by simp at hj, fun z hz => by cases hz⟩
  · have hzl : len ≤ zs.length := by rw [hz]; split <;> omega
    refine ⟨some a, cap, zs.take len, by simp [hzl], by simp; omega, by simpa [maxLen] using hm, ?_, ?_⟩
    · intro j hj
      have hj' : j < len := by simp at hj; omega
      obtain ⟨b, off, rfl, hcc⟩ := ints_at hcell (by omega)
      have hcj := hcc j (by omega)
      refine ⟨b, off, rfl, World.block_lt_of_cell? _ _ hcj, ?_⟩
      rw [hcj]
      congr 2
      simp only [List.getD_eq_getElem?_getD, List.getElem?_take, hj', if_true]
    · intro z hz'
      have := hwf z (List.mem_of_mem_take hz')
      simpa [Lit.wf, IntKind.min, IntKind.max, IntKind.signed, IntKind.bits] using this

end

end Go.Proofs.YtocgbeoglgkibaaDoor

namespace Go.Proofs.YtocgbeoglgkibaaDoor
open Go.RowKit

set_option maxHeartbeats 4000000 in
theorem law_FnExactTablePairs (cs0 : Value) (m0 : List Int) (w : World) (hr0 : rdB w.heap.size w cs0 m0) (hT : Tabs3 w) :
    Calls Tryd.prog 3 #[cs0] w fun e w' => e = .returned (.bool true) ∧ Below w.heap.size w w' := by
  have hsz : 0 < w.heap.size := hT.size
  obtain ⟨a0, c0, rfl, hlf0⟩ := hr0
  have hr0 : rdB w.heap.size w (.slice a0 m0.length c0) m0 := ⟨_, _, rfl, hlf0⟩
  have hl0 : m0.length ≤ 9223372036854775807 := Nat.le_trans hlf0.1 hlf0.2.1
  clear hlf0
  by_cases hbig0 : 1048576 < m0.length
  · go_enter Tryd.func3, Tryd.ntmps3
    go_wp2_with fail
    all_goals
      go_ret
      exact ⟨rfl, by repeat (first | with_reducible exact Below.refl _ _ | with_reducible assumption | with_reducible refine Below.drew ?_ | with_reducible refine Below.alloc ?_ (by first | exact Nat.le_refl _ | (simp; done) | (simp; omega)) _ | with_reducible refine Below.setCell ?_ (by simp) _)⟩
  go_enter Tryd.func3, Tryd.ntmps3
  have hwn0 : m0.length ≤ 1048576 := by omega
  obtain ⟨R0, hR0⟩ : ∃ R : List MPair, R = (tpS m0).1 := ⟨_, rfl⟩
  have hRw0 : wPs R0 ≤ 1099511627776 := by rw [hR0]; exact boundTablePairs_0 m0 hwn0
  have hRc0 := tcntPs_le R0
  have HR0 := Hid.mk hR0
  clear hR0
  obtain ⟨R1, hR1⟩ : ∃ R : Bool, R = (tpS m0).2 := ⟨_, rfl⟩
  have HR1 := Hid.mk hR1
  clear hR1
  have hC := fun (W : World) (hb : Below w.heap.size w W) => toByteS_r _ m0 W ((hr0.below hb).mono hb.size) hwn0
  go_wp2_with fail
  refine Calls.mono (hC _ ?_) ?_
  · repeat (first | with_reducible exact Below.refl _ _ | with_reducible assumption | with_reducible refine Below.drew ?_ | with_reducible refine Below.alloc ?_ (by first | exact Nat.le_refl _ | (simp; done) | (simp; omega)) _ | with_reducible refine Below.setCell ?_ (by simp) _)
  clear hC
  rintro e w1 ⟨vp0, Fp0, rfl, hop0, hNp0, hgep0, hx1⟩
  have hZ1 : w.heap.size ≤ w1.heap.size := by have h := hx1.size; first | exact h | (simp at h; omega)
  have hgep0o : ∀ b, b ∈ Fp0 → w.heap.size ≤ b := fun b hb => by have h := hgep0 b hb; first | exact h | (simp at h; omega)
  clear hgep0
  have hG1 : Below w.heap.size w w1 := bthen (hx := hx1) (h := by repeat (first | with_reducible exact Below.refl _ _ | with_reducible assumption | with_reducible refine Below.drew ?_ | with_reducible refine Below.alloc ?_ (by first | exact Nat.le_refl _ | (simp; done) | (simp; omega)) _ | with_reducible refine Below.setCell ?_ (by simp) _))
  have hB1 : Below w.heap.size w w1 := hG1
  clear hx1
  have hltp0 : ∀ b, b ∈ Fp0 → b < w1.heap.size := fun b hb => hop0.lt b hb
  have hC := fun (W : World) (hb : Below w1.heap.size w1 W) => specTablePairs_c _ m0 W (((rdB_own hop0).below hb).mono hb.size) hwn0 (hT.below (bthen hB1 hb) hsz)
  go_wp2_with fail
  refine Calls.mono (hC _ ?_) ?_
  · repeat (first | with_reducible exact Below.refl _ _ | with_reducible assumption | with_reducible refine Below.drew ?_ | with_reducible refine Below.alloc ?_ (by first | exact Nat.le_refl _ | (simp; done) | (simp; omega)) _ | with_reducible refine Below.setCell ?_ (by simp) _)
  clear hC
  rintro e w2 ⟨vs0, he, hrs0, hx2⟩
  have hZ2 : w1.heap.size ≤ w2.heap.size := by have h := hx2.size; first | exact h | (simp at h; omega)
  rw [← HR0.out] at hrs0
  rw [← HR1.out] at he
  subst he
  have hG2 : Below w1.heap.size w1 w2 := bthen (hx := hx2) (h := by repeat (first | with_reducible exact Below.refl _ _ | with_reducible assumption | with_reducible refine Below.drew ?_ | with_reducible refine Below.alloc ?_ (by first | exact Nat.le_refl _ | (simp; done) | (simp; omega)) _ | with_reducible refine Below.setCell ?_ (by simp) _))
  have hoN := (hop0.frame (fun b hb => hG2.block b (hop0.lt b hb)))
  clear hop0
  have hop0 := hoN
  clear hoN
  have hB2 : Below w.heap.size w w2 := bthen hB1 hG2
  clear hx2
  clear hop0 hNp0 hgep0o hltp0
  obtain ⟨as0, cs0, rfl, _⟩ := id (hrs0)
  have hbs0 : w2.heap.size ≤ w2.heap.size := Nat.le_refl _
  have hC := fun (W : World) (hb : Below w2.heap.size w2 W) => toByteS_r _ m0 W ((hr0.below (bthen hB2 hb)).mono (bthen hB2 hb).size) hwn0
  go_wp2_with fail
  refine Calls.mono (hC _ ?_) ?_
  · repeat (first | with_reducible exact Below.refl _ _ | with_reducible assumption | with_reducible refine Below.drew ?_ | with_reducible refine Below.alloc ?_ (by first | exact Nat.le_refl _ | (simp; done) | (simp; omega)) _ | with_reducible refine Below.setCell ?_ (by simp) _)
  clear hC
  rintro e w3 ⟨vx0, Fx0, rfl, hox0, hNx0, hgex0, hx3⟩
  have hZ3 : w2.heap.size ≤ w3.heap.size := by have h := hx3.size; first | exact h | (simp at h; omega)
  have hgex0o : ∀ b, b ∈ Fx0 → w2.heap.size ≤ b := fun b hb => by have h := hgex0 b hb; first | exact h | (simp at h; omega)
  clear hgex0
  have hG3 : Below w2.heap.size w2 w3 := bthen (hx := hx3) (h := by repeat (first | with_reducible exact Below.refl _ _ | with_reducible assumption | with_reducible refine Below.drew ?_ | with_reducible refine Below.alloc ?_ (by first | exact Nat.le_refl _ | (simp; done) | (simp; omega)) _ | with_reducible refine Below.setCell ?_ (by simp) _))
  replace hrs0 := (hrs0.below (hG3.mono hbs0))
  replace hbs0 := Nat.le_trans hbs0 hG3.size
  have hB3 : Below w.heap.size w w3 := bthen hB2 hG3
  clear hx3
  have hltx0 : ∀ b, b ∈ Fx0 → b < w3.heap.size := fun b hb => hox0.lt b hb
  have hC := fun (W : World) (hb : Below w3.heap.size w3 W) => implTablePairs_c _ m0 W (((rdB_own hox0).below hb).mono hb.size) hwn0 (hT.below (bthen hB3 hb) hsz)
  go_wp2_with fail
  refine Calls.mono (hC _ ?_) ?_
  · repeat (first | with_reducible exact Below.refl _ _ | with_reducible assumption | with_reducible refine Below.drew ?_ | with_reducible refine Below.alloc ?_ (by first | exact Nat.le_refl _ | (simp; done) | (simp; omega)) _ | with_reducible refine Below.setCell ?_ (by simp) _)
  clear hC
  rintro e w4 ⟨vg0, Fg0, he, hog0, hNg0, hgeg0, hx4⟩
  have hZ4 : w3.heap.size ≤ w4.heap.size := by have h := hx4.size; first | exact h | (simp at h; omega)
  rw [← HR0.out] at hog0
  have hgeg0o : ∀ b, b ∈ Fg0 → w3.heap.size ≤ b := fun b hb => by have h := hgeg0 b hb; first | exact h | (simp at h; omega)
  clear hgeg0
  rw [← HR1.out] at he
  subst he
  have hG4 : Below w3.heap.size w3 w4 := bthen (hx := hx4) (h := by repeat (first | with_reducible exact Below.refl _ _ | with_reducible assumption | with_reducible refine Below.drew ?_ | with_reducible refine Below.alloc ?_ (by first | exact Nat.le_refl _ | (simp; done) | (simp; omega)) _ | with_reducible refine Below.setCell ?_ (by simp) _))
  have hoN := (hox0.frame (fun b hb => hG4.block b (hox0.lt b hb)))
  clear hox0
  have hox0 := hoN
  clear hoN
  replace hrs0 := (hrs0.below (hG4.mono hbs0))
  replace hbs0 := Nat.le_trans hbs0 hG4.size
  have hB4 : Below w.heap.size w w4 := bthen hB3 hG4
  clear hx4
  have hltg0 : ∀ b, b ∈ Fg0 → b < w4.heap.size := fun b hb => ownS.lt oPair_good hog0 b hb
  obtain ⟨ag0, cg0, rfl, _⟩ := id ((rdPs_own hog0))
  have hC := fun (W : World) (hb : Below w4.heap.size w4 W) => eqPairS_yes_r _ _ R0 W (((rdPs_own hog0).below hb).mono hb.size) ((hrs0.below (hb.mono hbs0)).mono (Nat.le_trans hbs0 hb.size)) (by omega)
  go_wp2_with fail
  refine Calls.mono (hC _ ?_) ?_
  · repeat (first | with_reducible exact Below.refl _ _ | with_reducible assumption | with_reducible refine Below.drew ?_ | with_reducible refine Below.alloc ?_ (by first | exact Nat.le_refl _ | (simp; done) | (simp; omega)) _ | with_reducible refine Below.setCell ?_ (by simp) _)
  clear hC
  rintro e w5 ⟨rfl, hx5⟩
  have hZ5 : w4.heap.size ≤ w5.heap.size := by have h := hx5.size; first | exact h | (simp at h; omega)
  have hG5 : Below w4.heap.size w4 w5 := bthen (hx := hx5) (h := by repeat (first | with_reducible exact Below.refl _ _ | with_reducible assumption | with_reducible refine Below.drew ?_ | with_reducible refine Below.alloc ?_ (by first | exact Nat.le_refl _ | (simp; done) | (simp; omega)) _ | with_reducible refine Below.setCell ?_ (by simp) _))
  have hoN := (hox0.frame (fun b hb => hG5.block b (hox0.lt b hb)))
  clear hox0
  have hox0 := hoN
  clear hoN
  have hoN := (ownS.frame oPair_good hog0 (fun b hb => hG5.block b (ownS.lt oPair_good hog0 b hb)))
  clear hog0
  have hog0 := hoN
  clear hoN
  replace hrs0 := (hrs0.below (hG5.mono hbs0))
  replace hbs0 := Nat.le_trans hbs0 hG5.size
  have hB5 : Below w.heap.size w w5 := bthen hB4 hG5
  clear hx5
  have hC1 := fun (W : World) (hb : Below w5.heap.size w5 W) => toByteS_r _ m0 W ((hr0.below (bthen hB5 hb)).mono (bthen hB5 hb).size) hwn0
  have hC2 := fun (W W2 : World) (v2 : Value) (F2 : List Nat) (hb : Below w5.heap.size w5 W) (hb2 : Below W.heap.size W W2) (ho2 : ownB 5 W2 v2 m0 F2) => eqByteS_yes_r _ v2 m0 W2 (((rdB_own hox0).below (bthen hb hb2)).mono (bthen hb hb2).size) (rdB_own ho2) (by omega)
  go_wp2_with fail
  refine Calls.mono (hC1 _ ?_) ?_
  exact (by repeat (first | with_reducible exact Below.refl _ _ | with_reducible assumption | with_reducible refine Below.drew ?_ | with_reducible refine Below.alloc ?_ (by first | exact Nat.le_refl _ | (simp; done) | (simp; omega)) _ | with_reducible refine Below.setCell ?_ (by simp) _))
  rintro e w6 ⟨vt0, Ft0, rfl, hot0, hNt0, hget0, hx6⟩
  have hG6 : Below w5.heap.size w5 w6 := bthen (hx := hx6) (h := by repeat (first | with_reducible exact Below.refl _ _ | with_reducible assumption | with_reducible refine Below.drew ?_ | with_reducible refine Below.alloc ?_ (by first | exact Nat.le_refl _ | (simp; done) | (simp; omega)) _ | with_reducible refine Below.setCell ?_ (by simp) _))
  obtain ⟨at0, ct0, rfl, _⟩ := id (rdB_own hot0)
  go_wp2_with fail
  refine Calls.mono (hC2 _ _ _ _ (Below.refl _ _) hG6 hot0) ?_
  rintro e w7 ⟨rfl, hx7⟩
  have hZ6 : w5.heap.size ≤ w6.heap.size := by have h := hx6.size; first | exact h | (simp at h; omega)
  have hZ7 : w6.heap.size ≤ w7.heap.size := hx7.size
  have hGG7 : Below w5.heap.size w5 w7 := bthen hG6 hx7
  have hoN := (hox0.frame (fun b hb => hGG7.block b (hox0.lt b hb)))
  clear hox0
  have hox0 := hoN
  clear hoN
  have hoN := (ownS.frame oPair_good hog0 (fun b hb => hGG7.block b (ownS.lt oPair_good hog0 b hb)))
  clear hog0
  have hog0 := hoN
  clear hoN
  replace hrs0 := (hrs0.below (hGG7.mono hbs0))
  replace hbs0 := Nat.le_trans hbs0 hGG7.size
  have hB7 : Below w.heap.size w w7 := bthen hB5 hGG7
  clear hx6 hx7 hC1 hC2 hot0 hNt0 hget0
  have hC := fun (W : World) (hb : Below w7.heap.size w7 W) => markByteS_r _ m0 Fx0 1 W (by omega) (by omega) (hox0.frame (fun b hb2 => hb.block b (hox0.lt b hb2))) hNx0
  go_wp2_with fail
  refine Calls.mono (hC _ ?_) ?_
  · repeat (first | with_reducible exact Below.refl _ _ | with_reducible assumption | with_reducible refine Below.drew ?_ | with_reducible refine Below.alloc ?_ (by first | exact Nat.le_refl _ | (simp; done) | (simp; omega)) _ | with_reducible refine Below.setCell ?_ (by simp) _)
  clear hC
  rintro e w8 ⟨mmx0, qx0, rfl, hqax0, hqbx0, homx0, hhx0, hx8⟩
  have hZ8 : w7.heap.size ≤ w8.heap.size := by have h := hx8.size; first | exact h | (simp at h; omega)
  have hG8 : Turn Fx0 w7 w8 := Turn.after (hx := hx8) (h := by repeat (first | with_reducible exact Below.refl _ _ | with_reducible assumption | with_reducible refine Below.drew ?_ | with_reducible refine Below.alloc ?_ (by first | exact Nat.le_refl _ | (simp; done) | (simp; omega)) _ | with_reducible refine Below.setCell ?_ (by simp) _))
  have hoN := (ownS.frame oPair_good hog0 (fun b hb => hG8.block b (ownS.lt oPair_good hog0 b hb) (fun hm => by have h1 := hgex0o _ hm; have h2 := hltx0 _ hm; have h3 := hgeg0o _ hb; have h4 := hltg0 _ hb; omega)))
  clear hog0
  have hog0 := hoN
  clear hoN
  replace hrs0 := (hrs0.below (Turn.below hG8 (fun k hk => by have h1 := hgex0o _ hk; omega) hbs0))
  replace hbs0 := Nat.le_trans hbs0 hG8.size
  have hB8 : Below w.heap.size w w8 := Turn.under hB7 hG8 (fun k hk => by have h1 := hgex0o _ hk; have h2 := hB7.size; omega)
  clear hx8 hox0
  have hox0 := homx0
  clear homx0
  have hC := fun (W : World) (hb : Below w8.heap.size w8 W) => eqPairS_yes_r _ _ R0 W (((rdPs_own hog0).below hb).mono hb.size) ((hrs0.below (hb.mono hbs0)).mono (Nat.le_trans hbs0 hb.size)) (by omega)
  go_wp2_with fail
  refine Calls.mono (hC _ ?_) ?_
  · repeat (first | with_reducible exact Below.refl _ _ | with_reducible assumption | with_reducible refine Below.drew ?_ | with_reducible refine Below.alloc ?_ (by first | exact Nat.le_refl _ | (simp; done) | (simp; omega)) _ | with_reducible refine Below.setCell ?_ (by simp) _)
  clear hC
  rintro e w9 ⟨rfl, hx9⟩
  have hZ9 : w8.heap.size ≤ w9.heap.size := by have h := hx9.size; first | exact h | (simp at h; omega)
  have hG9 : Below w8.heap.size w8 w9 := bthen (hx := hx9) (h := by repeat (first | with_reducible exact Below.refl _ _ | with_reducible assumption | with_reducible refine Below.drew ?_ | with_reducible refine Below.alloc ?_ (by first | exact Nat.le_refl _ | (simp; done) | (simp; omega)) _ | with_reducible refine Below.setCell ?_ (by simp) _))
  have hoN := (ownS.frame oPair_good hog0 (fun b hb => hG9.block b (ownS.lt oPair_good hog0 b hb)))
  clear hog0
  have hog0 := hoN
  clear hoN
  replace hrs0 := (hrs0.below (hG9.mono hbs0))
  replace hbs0 := Nat.le_trans hbs0 hG9.size
  have hB9 : Below w.heap.size w w9 := bthen hB8 hG9
  clear hx9
  have hC := fun (W : World) (hb : Below w9.heap.size w9 W) => markPairS_r _ R0 Fg0 1 W (by omega) (by omega) (ownS.frame oPair_good hog0 (fun b hb2 => hb.block b (ownS.lt oPair_good hog0 b hb2))) hNg0
  go_wp2_with fail
  refine Calls.mono (hC _ ?_) ?_
  · repeat (first | with_reducible exact Below.refl _ _ | with_reducible assumption | with_reducible refine Below.drew ?_ | with_reducible refine Below.alloc ?_ (by first | exact Nat.le_refl _ | (simp; done) | (simp; omega)) _ | with_reducible refine Below.setCell ?_ (by simp) _)
  clear hC
  rintro e w10 ⟨mmg0, qg0, rfl, hqag0, hqbg0, homg0, hhg0, hx10⟩
  have hZ10 : w9.heap.size ≤ w10.heap.size := by have h := hx10.size; first | exact h | (simp at h; omega)
  have hG10 : Turn Fg0 w9 w10 := Turn.after (hx := hx10) (h := by repeat (first | with_reducible exact Below.refl _ _ | with_reducible assumption | with_reducible refine Below.drew ?_ | with_reducible refine Below.alloc ?_ (by first | exact Nat.le_refl _ | (simp; done) | (simp; omega)) _ | with_reducible refine Below.setCell ?_ (by simp) _))
  replace hrs0 := (hrs0.below (Turn.below hG10 (fun k hk => by have h1 := hgeg0o _ hk; omega) hbs0))
  replace hbs0 := Nat.le_trans hbs0 hG10.size
  have hB10 : Below w.heap.size w w10 := Turn.under hB9 hG10 (fun k hk => by have h1 := hgeg0o _ hk; have h2 := hB9.size; omega)
  clear hx10 hog0
  have hog0 := homg0
  clear homg0
  have hC := fun (W : World) (hb : Below w10.heap.size w10 W) => heldPairS_r _ mmg0 1 qg0 W (((rdPs_own hog0).below hb).mono hb.size) hhg0 (by omega) (by omega)
  go_wp2_with fail
  refine Calls.mono (hC _ ?_) ?_
  · repeat (first | with_reducible exact Below.refl _ _ | with_reducible assumption | with_reducible refine Below.drew ?_ | with_reducible refine Below.alloc ?_ (by first | exact Nat.le_refl _ | (simp; done) | (simp; omega)) _ | with_reducible refine Below.setCell ?_ (by simp) _)
  clear hC
  rintro e w11 ⟨rfl, hx11⟩
  have hZ11 : w10.heap.size ≤ w11.heap.size := by have h := hx11.size; first | exact h | (simp at h; omega)
  have hG11 : Below w10.heap.size w10 w11 := bthen (hx := hx11) (h := by repeat (first | with_reducible exact Below.refl _ _ | with_reducible assumption | with_reducible refine Below.drew ?_ | with_reducible refine Below.alloc ?_ (by first | exact Nat.le_refl _ | (simp; done) | (simp; omega)) _ | with_reducible refine Below.setCell ?_ (by simp) _))
  have hoN := (ownS.frame oPair_good hog0 (fun b hb => hG11.block b (ownS.lt oPair_good hog0 b hb)))
  clear hog0
  have hog0 := hoN
  clear hoN
  replace hrs0 := (hrs0.below (hG11.mono hbs0))
  replace hbs0 := Nat.le_trans hbs0 hG11.size
  have hB11 : Below w.heap.size w w11 := bthen hB10 hG11
  clear hx11
  have hC := fun (W : World) (hb : Below w11.heap.size w11 W) => toByteS_r _ m0 W ((hr0.below (bthen hB11 hb)).mono (bthen hB11 hb).size) hwn0
  go_wp2_with fail
  refine Calls.mono (hC _ ?_) ?_
  · repeat (first | with_reducible exact Below.refl _ _ | with_reducible assumption | with_reducible refine Below.drew ?_ | with_reducible refine Below.alloc ?_ (by first | exact Nat.le_refl _ | (simp; done) | (simp; omega)) _ | with_reducible refine Below.setCell ?_ (by simp) _)
  clear hC
  rintro e w12 ⟨vh0, Fh0, rfl, hoh0, hNh0, hgeh0, hx12⟩
  have hZ12 : w11.heap.size ≤ w12.heap.size := by have h := hx12.size; first | exact h | (simp at h; omega)
  have hgeh0o : ∀ b, b ∈ Fh0 → w11.heap.size ≤ b := fun b hb => by have h := hgeh0 b hb; first | exact h | (simp at h; omega)
  clear hgeh0
  have hG12 : Below w11.heap.size w11 w12 := bthen (hx := hx12) (h := by repeat (first | with_reducible exact Below.refl _ _ | with_reducible assumption | with_reducible refine Below.drew ?_ | with_reducible refine Below.alloc ?_ (by first | exact Nat.le_refl _ | (simp; done) | (simp; omega)) _ | with_reducible refine Below.setCell ?_ (by simp) _))
  have hoN := (ownS.frame oPair_good hog0 (fun b hb => hG12.block b (ownS.lt oPair_good hog0 b hb)))
  clear hog0
  have hog0 := hoN
  clear hoN
  replace hrs0 := (hrs0.below (hG12.mono hbs0))
  replace hbs0 := Nat.le_trans hbs0 hG12.size
  have hB12 : Below w.heap.size w w12 := bthen hB11 hG12
  clear hx12
  have hlth0 : ∀ b, b ∈ Fh0 → b < w12.heap.size := fun b hb => hoh0.lt b hb
  have hC := fun (W : World) (hb : Below w12.heap.size w12 W) => implTablePairs_c _ m0 W (((rdB_own hoh0).below hb).mono hb.size) hwn0 (hT.below (bthen hB12 hb) hsz)
  go_wp2_with fail
  refine Calls.mono (hC _ ?_) ?_
  · repeat (first | with_reducible exact Below.refl _ _ | with_reducible assumption | with_reducible refine Below.drew ?_ | with_reducible refine Below.alloc ?_ (by first | exact Nat.le_refl _ | (simp; done) | (simp; omega)) _ | with_reducible refine Below.setCell ?_ (by simp) _)
  clear hC
  rintro e w13 ⟨vk0, Fk0, he, hok0, hNk0, hgek0, hx13⟩
  have hZ13 : w12.heap.size ≤ w13.heap.size := by have h := hx13.size; first | exact h | (simp at h; omega)
  rw [← HR0.out] at hok0
  have hgek0o : ∀ b, b ∈ Fk0 → w12.heap.size ≤ b := fun b hb => by have h := hgek0 b hb; first | exact h | (simp at h; omega)
  clear hgek0
  rw [← HR1.out] at he
  subst he
  have hG13 : Below w12.heap.size w12 w13 := bthen (hx := hx13) (h := by repeat (first | with_reducible exact Below.refl _ _ | with_reducible assumption | with_reducible refine Below.drew ?_ | with_reducible refine Below.alloc ?_ (by first | exact Nat.le_refl _ | (simp; done) | (simp; omega)) _ | with_reducible refine Below.setCell ?_ (by simp) _))
  have hoN := (ownS.frame oPair_good hog0 (fun b hb => hG13.block b (ownS.lt oPair_good hog0 b hb)))
  clear hog0
  have hog0 := hoN
  clear hoN
  have hoN := (hoh0.frame (fun b hb => hG13.block b (hoh0.lt b hb)))
  clear hoh0
  have hoh0 := hoN
  clear hoN
  replace hrs0 := (hrs0.below (hG13.mono hbs0))
  replace hbs0 := Nat.le_trans hbs0 hG13.size
  have hB13 : Below w.heap.size w w13 := bthen hB12 hG13
  clear hx13
  have hltk0 : ∀ b, b ∈ Fk0 → b < w13.heap.size := fun b hb => ownS.lt oPair_good hok0 b hb
  obtain ⟨ak0, ck0, rfl, _⟩ := id ((rdPs_own hok0))
  clear hoh0
  have hC := fun (W : World) (hb : Below w13.heap.size w13 W) => eqPairS_yes_r _ _ R0 W (((rdPs_own hok0).below hb).mono hb.size) ((hrs0.below (hb.mono hbs0)).mono (Nat.le_trans hbs0 hb.size)) (by omega)
  go_wp2_with fail
  refine Calls.mono (hC _ ?_) ?_
  · repeat (first | with_reducible exact Below.refl _ _ | with_reducible assumption | with_reducible refine Below.drew ?_ | with_reducible refine Below.alloc ?_ (by first | exact Nat.le_refl _ | (simp; done) | (simp; omega)) _ | with_reducible refine Below.setCell ?_ (by simp) _)
  clear hC
  rintro e w14 ⟨rfl, hx14⟩
  have hZ14 : w13.heap.size ≤ w14.heap.size := by have h := hx14.size; first | exact h | (simp at h; omega)
  have hG14 : Below w13.heap.size w13 w14 := bthen (hx := hx14) (h := by repeat (first | with_reducible exact Below.refl _ _ | with_reducible assumption | with_reducible refine Below.drew ?_ | with_reducible refine Below.alloc ?_ (by first | exact Nat.le_refl _ | (simp; done) | (simp; omega)) _ | with_reducible refine Below.setCell ?_ (by simp) _))
  have hoN := (ownS.frame oPair_good hog0 (fun b hb => hG14.block b (ownS.lt oPair_good hog0 b hb)))
  clear hog0
  have hog0 := hoN
  clear hoN
  have hoN := (ownS.frame oPair_good hok0 (fun b hb => hG14.block b (ownS.lt oPair_good hok0 b hb)))
  clear hok0
  have hok0 := hoN
  clear hoN
  replace hrs0 := (hrs0.below (hG14.mono hbs0))
  replace hbs0 := Nat.le_trans hbs0 hG14.size
  have hB14 : Below w.heap.size w w14 := bthen hB13 hG14
  clear hx14
  have hC := fun (W : World) (hb : Below w14.heap.size w14 W) => heldPairS_r _ mmg0 1 qg0 W (((rdPs_own hog0).below hb).mono hb.size) hhg0 (by omega) (by omega)
  go_wp2_with fail
  refine Calls.mono (hC _ ?_) ?_
  · repeat (first | with_reducible exact Below.refl _ _ | with_reducible assumption | with_reducible refine Below.drew ?_ | with_reducible refine Below.alloc ?_ (by first | exact Nat.le_refl _ | (simp; done) | (simp; omega)) _ | with_reducible refine Below.setCell ?_ (by simp) _)
  clear hC
  rintro e w15 ⟨rfl, hx15⟩
  have hZ15 : w14.heap.size ≤ w15.heap.size := by have h := hx15.size; first | exact h | (simp at h; omega)
  have hG15 : Below w14.heap.size w14 w15 := bthen (hx := hx15) (h := by repeat (first | with_reducible exact Below.refl _ _ | with_reducible assumption | with_reducible refine Below.drew ?_ | with_reducible refine Below.alloc ?_ (by first | exact Nat.le_refl _ | (simp; done) | (simp; omega)) _ | with_reducible refine Below.setCell ?_ (by simp) _))
  have hoN := (ownS.frame oPair_good hog0 (fun b hb => hG15.block b (ownS.lt oPair_good hog0 b hb)))
  clear hog0
  have hog0 := hoN
  clear hoN
  have hoN := (ownS.frame oPair_good hok0 (fun b hb => hG15.block b (ownS.lt oPair_good hok0 b hb)))
  clear hok0
  have hok0 := hoN
  clear hoN
  replace hrs0 := (hrs0.below (hG15.mono hbs0))
  replace hbs0 := Nat.le_trans hbs0 hG15.size
  have hB15 : Below w.heap.size w w15 := bthen hB14 hG15
  clear hx15
  go_wp2_with fail
  go_ret
  exact ⟨rfl, by repeat (first | with_reducible exact Below.refl _ _ | with_reducible assumption | with_reducible refine Below.drew ?_ | with_reducible refine Below.alloc ?_ (by first | exact Nat.le_refl _ | (simp; done) | (simp; omega)) _ | with_reducible refine Below.setCell ?_ (by simp) _)⟩

end Go.Proofs.YtocgbeoglgkibaaDoor
