/-
  Whether a manifest is right: the program's answer.
-/
import Derived.Test.YtnohnkcijomdjaaGreatDoorManM
import Derived.Test.YtnohnkcijomdjaaGreatDoorQDat
import Derived.Test.YtnohnkcijomdjaaGreatDoorDatN
import Derived.Test.YtnohnkcijomdjaaGreatDoorRows
import Derived.Test.YtnohnkcijomdjaaGreatDoorKit
import Derived.Test.YtnohnkcijomdjaaGreatDoorRowG
import Derived.Test.YtnohnkcijomdjaaGreatDoorChecked
namespace Go.Proofs.YtnohnkcijomdjaaGreatDoor
open Go.RowKit Go.Maps
set_option linter.unusedVariables false
set_option linter.unusedSimpArgs false
set_option maxRecDepth 10000

set_option maxHeartbeats 400000 in
theorem reaches_any (t : MMeta) (lo hi : ByteArray) (w : World) :
    Calls Tryz.prog 93 #[.agg #[.int .i64 t.fNo, .int .i64 t.fLevel, .string t.fLo, .string t.fHi], .string lo, .string hi] w fun e w' => e = .returned (.bool (reachP t lo hi)) ∧ Below w.heap.size w w' := by
  have HV : Hid (reachP t lo hi = kLe (maxK t.fLo lo) (minK t.fHi hi)) := rfl
  have hbx := Bx.new w [.int .i64 t.fNo, .int .i64 t.fLevel, .string t.fLo, .string t.fHi] 49
  have y2 := hbx.2 2 _ rfl
  have y3 := hbx.2 3 _ rfl
  have HB : Hid (Below w.heap.size w (w.alloc (.cells #[.int .i64 t.fNo, .int .i64 t.fLevel, .string t.fLo, .string t.fHi] 49))) := (Below.refl _ _).alloc (Nat.le_refl _) _
  have hmx := fun (W : World) => run_max_k (P := Tryz.prog) (w := W) #[9, 9] 9 t.fLo lo
  have hmn := fun (W : World) => run_min_k (P := Tryz.prog) (w := W) #[9, 9] 9 t.fHi hi
  generalize maxK t.fLo lo = a at *
  generalize minK t.fHi hi = b at *
  go_enter Tryz.func93, Tryz.ntmps93
  by_cases hk : kLe a b = true
  · have HV2 : Hid (reachP t lo hi = true) := by show _ = _; rw [HV.out, hk]
    have hq := kLe_yes hk
    rcases hq with hq | hq
    · go_wp2_with fail
      go_ret
      exact ⟨by rw [HV2.out]; rfl, HB.out⟩
    · go_wp2_with fail
      go_ret
      exact ⟨by rw [HV2.out]; rfl, HB.out⟩
  · have hk2 := Bool.eq_false_iff.2 hk
    have HV2 : Hid (reachP t lo hi = false) := by show _ = _; rw [HV.out, hk2]
    obtain ⟨hq1, hq2⟩ := kLe_no hk2
    go_wp2_with fail
    go_ret
    exact ⟨by rw [HV2.out]; rfl, HB.out⟩

set_option maxHeartbeats 400000 in
theorem mkey_any (s : ByteArray) (w : World) (hs : s.size ≤ 9223372036854775807) :
    Calls Tryz.prog 92 #[.string s] w fun e w' => e = .returned (.bool (mKeyP s)) ∧ w' = w := by
  by_cases h0 : s.size = 0
  · have HV : Hid (mKeyP s = false) := decide_eq_false (fun h => by omega)
    have he := k_emp h0
    go_enter Tryz.func92, Tryz.ntmps92
    go_wp2
    go_ret
    exact ⟨by rw [HV.out]; rfl, rfl⟩
  · have he := k_nemp h0
    by_cases h1 : s.size ≤ 20
    · have HV : Hid (mKeyP s = true) := decide_eq_true ⟨by omega, h1⟩
      have h2 : (s.size : Int) ≤ 20 := by omega
      go_enter Tryz.func92, Tryz.ntmps92
      go_wp2
      go_ret
      exact ⟨by rw [HV.out]; rfl, rfl⟩
    · have HV : Hid (mKeyP s = false) := decide_eq_false (fun h => by omega)
      have h2 : ¬ (s.size : Int) ≤ 20 := by omega
      go_enter Tryz.func92, Tryz.ntmps92
      go_wp2
      go_ret
      exact ⟨by rw [HV.out]; rfl, rfl⟩

set_option maxHeartbeats 1000000 in
theorem metaOk_any (t : MMeta) (w : World) (h2 : t.fLo.size ≤ 9223372036854775807) (h3 : t.fHi.size ≤ 9223372036854775807) :
    Calls Tryz.prog 71 #[.agg #[.int .i64 t.fNo, .int .i64 t.fLevel, .string t.fLo, .string t.fHi]] w fun e w' => e = .returned (.bool (spanP t)) ∧ Below w.heap.size w w' := by
  have HV : Hid (spanP t = (decide (0 ≤ t.fLevel ∧ t.fLevel ≤ 3) && mKeyP t.fLo && mKeyP t.fHi && kLe t.fLo t.fHi)) := rfl
  have hbx := Bx.new w [.int .i64 t.fNo, .int .i64 t.fLevel, .string t.fLo, .string t.fHi] 49
  have y1 := hbx.2 1 _ rfl
  have y2 := hbx.2 2 _ rfl
  have y3 := hbx.2 3 _ rfl
  have HB : Hid (Below w.heap.size w (w.alloc (.cells #[.int .i64 t.fNo, .int .i64 t.fLevel, .string t.fLo, .string t.fHi] 49))) := (Below.refl _ _).alloc (Nat.le_refl _) _
  have hk1 := fun W => mkey_any t.fLo W h2
  have hk2 := fun W => mkey_any t.fHi W h3
  generalize mKeyP t.fLo = a at *
  generalize mKeyP t.fHi = b at *
  go_enter Tryz.func71, Tryz.ntmps71
  by_cases hl : 0 ≤ t.fLevel ∧ t.fLevel ≤ 3
  rotate_left
  · have HV2 : Hid (spanP t = false) := by show _ = _; rw [HV.out, decide_eq_false hl]; simp
    by_cases hl0 : 0 ≤ t.fLevel
    · have hl1 : ¬ t.fLevel ≤ 3 := fun h => hl ⟨hl0, h⟩
      go_wp2_with fail
      go_ret
      exact ⟨by rw [HV2.out]; rfl, HB.out⟩
    · go_wp2_with fail
      go_ret
      exact ⟨by rw [HV2.out]; rfl, HB.out⟩
  obtain ⟨hl0, hl1⟩ := hl
  have HV3 : Hid (spanP t = (a && b && kLe t.fLo t.fHi)) := by show _ = _; rw [HV.out, decide_eq_true (show 0 ≤ t.fLevel ∧ t.fLevel ≤ 3 from ⟨hl0, hl1⟩)]; simp
  cases a with
  | false =>
    have HV2 : Hid (spanP t = false) := by show _ = _; rw [HV3.out]; simp
    go_wp2_with fail
    refine (hk1 _).mono ?_
    rintro e w1 ⟨rfl, hw1⟩
    subst hw1
    go_wp2_with fail
    go_ret
    exact ⟨by rw [HV2.out]; rfl, HB.out⟩
  | true =>
    cases b with
    | false =>
      have HV2 : Hid (spanP t = false) := by show _ = _; rw [HV3.out]; simp
      go_wp2_with fail
      refine (hk1 _).mono ?_
      rintro e w1 ⟨rfl, hw1⟩
      subst hw1
      go_wp2_with fail
      refine (hk2 _).mono ?_
      rintro e w1 ⟨rfl, hw1⟩
      subst hw1
      go_wp2_with fail
      go_ret
      exact ⟨by rw [HV2.out]; rfl, HB.out⟩
    | true =>
      by_cases hk : kLe t.fLo t.fHi = true
      · have HV2 : Hid (spanP t = true) := by show _ = _; rw [HV3.out, hk]; rfl
        rcases kLe_yes hk with hq | hq
        · go_wp2_with fail
          refine (hk1 _).mono ?_
          rintro e w1 ⟨rfl, hw1⟩
          subst hw1
          go_wp2_with fail
          refine (hk2 _).mono ?_
          rintro e w1 ⟨rfl, hw1⟩
          subst hw1
          go_wp2_with fail
          go_ret
          exact ⟨by rw [HV2.out]; rfl, HB.out⟩
        · go_wp2_with fail
          refine (hk1 _).mono ?_
          rintro e w1 ⟨rfl, hw1⟩
          subst hw1
          go_wp2_with fail
          refine (hk2 _).mono ?_
          rintro e w1 ⟨rfl, hw1⟩
          subst hw1
          go_wp2_with fail
          go_ret
          exact ⟨by rw [HV2.out]; rfl, HB.out⟩
      · have hkf := Bool.eq_false_iff.2 hk
        have HV2 : Hid (spanP t = false) := by show _ = _; rw [HV3.out, hkf]; rfl
        obtain ⟨hq1, hq2⟩ := kLe_no hkf
        go_wp2_with fail
        refine (hk1 _).mono ?_
        rintro e w1 ⟨rfl, hw1⟩
        subst hw1
        go_wp2_with fail
        refine (hk2 _).mono ?_
        rintro e w1 ⟨rfl, hw1⟩
        subst hw1
        go_wp2_with fail
        go_ret
        exact ⟨by rw [HV2.out]; rfl, HB.out⟩

theorem all_take {α : Type} {f : α → Bool} {l : List α} {k : Nat} (h : k < l.length) : (l.take (k + 1)).all f = ((l.take k).all f && f l[k]) := by
  rw [List.take_succ_eq_append_getElem h, List.all_append]; simp
theorem all_bad {α : Type} {f : α → Bool} {l : List α} {k : Nat} (h : k < l.length) (hb : f l[k] = false) : l.all f = false := by
  rw [List.all_eq_false]; exact ⟨l[k], List.getElem_mem h, by rw [hb]; simp⟩

set_option maxHeartbeats 4000000 in
theorem liesApart_any (t : MMeta) (a : Option Addr) (n c : Nat) (l : List MMeta) (w : World) (hx : l.length = n) (hn : n ≤ 1048576) (hL : LeafL 4 rMeta w.heap.size w a c l) :
    Calls Tryz.prog 72 #[.agg #[.int .i64 t.fNo, .int .i64 t.fLevel, .string t.fLo, .string t.fHi], .slice a n c] w fun e w' => e = .returned (.bool (apartI t l)) ∧ Below w.heap.size w w' := by
  have HX := Hid.mk hx
  have HL := Hid.mk hL
  have HV : Hid (apartI t l = (decide (t.fLevel = 0) || l.all (fun o => !(decide (o.fLevel = t.fLevel) && reachP o t.fLo t.fHi)))) := rfl
  obtain ⟨f, hf⟩ : ∃ f : MMeta → Bool, f = (fun o => !(decide (o.fLevel = t.fLevel) && reachP o t.fLo t.fHi)) := ⟨_, rfl⟩
  rw [← hf] at HV
  have HF := Hid.mk hf
  clear hx hL hf
  go_enter Tryz.func72, Tryz.ntmps72
  obtain ⟨wq, hwq⟩ : ∃ wq, wq = w.alloc (.cells #[.int .i64 t.fNo, .int .i64 t.fLevel, .string t.fLo, .string t.fHi] 49) := ⟨_, rfl⟩
  have hbq : Below w.heap.size w wq := by rw [hwq]; exact (Below.refl _ _).alloc (Nat.le_refl _) _
  have hbx : Bx wq w.heap.size [.int .i64 t.fNo, .int .i64 t.fLevel, .string t.fLo, .string t.fHi] := by rw [hwq]; exact Bx.new _ _ _
  by_cases h0 : t.fLevel = 0
  · have HV2 : Hid (apartI t l = true) := by show _ = _; rw [HV.out, decide_eq_true h0]; rfl
    have y1 := hbx.2 1 _ rfl
    rw [h0] at y1
    go_wp2_with fail
    go_ret
    exact ⟨by rw [HV2.out]; rfl, (Below.refl _ _).alloc (Nat.le_refl _) _⟩
  have HV2 : Hid (apartI t l = l.all f) := by show _ = _; rw [HV.out, decide_eq_false h0]; rfl
  clear HV
  have y1 := hbx.2 1 _ rfl
  rw [hwq] at y1
  go_wp2_with fail
  rw [← hwq]
  simp only [show (t.fLevel == 0) = false from by simpa using h0]
  clear y1 hwq h0
  go_loopw [12] (fun i wr => ∃ k : Nat, k ≤ n ∧ i = .int .i64 k ∧ Hid ((l.take k).all f = true) ∧ Below wq.heap.size wq wr) (fun i _ => n - (intOf i).toNat)
  case atStart => exact ⟨0, Nat.zero_le _, rfl, rfl, Below.refl _ _⟩
  case round =>
    obtain ⟨k, hk, rfl, HI, hbk⟩ := hrel
    have hbw := bthen hbq hbk
    have hbz := hbw.size
    by_cases hlt : k < n
    · have hkl : k < l.length := by rw [HX.out]; exact hlt
      obtain ⟨b1, o1, rfl, hB, cs, hcl, hcell, rfl, g0, g1, g2, g3, _⟩ := (HL.out.2.2.below rMeta_good hbw) k hkl
      have hB' : b1 < wr.heap.size := by omega
      have k0 := hcell 0 _ rfl
      have k1 := hcell 1 _ rfl
      have k2 := hcell 2 _ rfl
      have k3 := hcell 3 _ rfl
      rw [Nat.add_zero] at k0
      have HT : Hid (f l[k] = true → (l.take (k + 1)).all f = true) := fun h => by rw [all_take hkl, HI.out, h]; rfl
      have HBad : Hid (f l[k] = false → apartI t l = false) := fun h => by rw [HV2.out]; exact all_bad hkl h
      have HFk : Hid (f l[k] = !(decide (l[k].fLevel = t.fLevel) && reachP l[k] t.fLo t.fHi)) := by show _ = _; rw [HF.out]
      clear hcell hcl
      generalize f l[k] = fk at *
      generalize l[k] = x at *
      have hbxr := hbx.under hbk
      have t1 := hbxr.2 1 _ rfl
      have t2 := hbxr.2 2 _ rfl
      have t3 := hbxr.2 3 _ rfl
      have hlr := hbxr.1
      by_cases hv : x.fLevel = t.fLevel
      · have HF2 : Hid (fk = !reachP x t.fLo t.fHi) := by show _ = _; rw [HFk.out, decide_eq_true hv]; rfl
        have hC := fun W => reaches_any x t.fLo t.fHi W
        rw [hv] at k1
        simp only [hv] at hC
        clear hv HFk
        generalize reachP x t.fLo t.fHi = rc at *
        go_wp2_with fail
        refine (hC _).mono ?_
        rintro e w2 ⟨rfl, hx2⟩
        have hb2 := bthen hbk (bthen ((Below.refl _ _).alloc (Nat.le_refl _) _) hx2)
        clear hC t1 t2 t3 hx2
        cases rc with
        | false =>
          have HD := HT.out HF2.out
          go_wp2_with fail
          go_roundw
          case rel => exact ⟨k + 1, by omega, by go_num, HD, hb2⟩
          case measure => simp [intOf]; omega
        | true =>
          have HD := Hid.mk (HBad.out HF2.out)
          go_wp2_with fail
          go_ret
          exact ⟨by rw [HD.out]; rfl, bthen hbq hb2⟩
      · have HF2 : Hid (fk = true) := by show _ = _; rw [HFk.out, decide_eq_false hv]; rfl
        have HD := Hid.mk (HT.out HF2.out)
        go_wp2_with fail
        go_roundw
        case rel => exact ⟨k + 1, by omega, by go_num, HD, bthen hbk ((Below.refl _ _).alloc (Nat.le_refl _) _)⟩
        case measure => simp [intOf]; omega
    · have HD : Hid (apartI t l = true) := by show _ = _; rw [HV2.out]; have h := HI.out; rw [show k = l.length by rw [HX.out]; omega, List.take_length] at h; exact h
      go_wp2_with fail
      go_ret
      exact ⟨by rw [HD.out]; rfl, hbw⟩

end Go.Proofs.YtnohnkcijomdjaaGreatDoor
