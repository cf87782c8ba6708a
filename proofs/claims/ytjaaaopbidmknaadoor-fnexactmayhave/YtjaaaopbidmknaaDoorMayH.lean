/-
  MayHave, the program's and the specification's.
-/
import Derived.Test.YtjaaaopbidmknaaDoorFltM
namespace Go.Proofs.YtjaaaopbidmknaaDoor
open Go.RowKit
set_option linter.unusedVariables false
set_option linter.unusedSimpArgs false
set_option maxRecDepth 10000

theorem mayP_other {f : List Int} {s : ByteArray} (h : ¬ f.length = 8) : mayP f s = true := by unfold mayP; rw [decide_eq_false h]; rfl
theorem mayP_eight {f : List Int} {s : ByteArray} (h : f.length = 8) : mayP f s = (hasB f (mk1 s) && hasB f (mk2 s)) := by unfold mayP; rw [decide_eq_true h]; rfl
theorem and1_u8 {x : Int} (h0 : 0 ≤ x) (h1 : x ≤ 255) : bits .and .u8 x 1 = x % 2 := by
  rw [u8_and x 1 h0 (by omega) (by omega) (by omega)]
  have : x.toNat &&& (1 : Int).toNat = x.toNat % 2 := Nat.and_one_is_mod _
  omega
theorem div_byte {x : Int} (k : Nat) (h0 : 0 ≤ x) (h1 : x ≤ 255) : 0 ≤ x / 2 ^ k ∧ x / 2 ^ k ≤ 255 := by
  refine ⟨Int.ediv_nonneg h0 (Int.le_of_lt (Int.pow_pos (by omega))), ?_⟩
  exact Int.le_trans (Int.ediv_le_self _ h0) h1

set_option maxHeartbeats 400000 in
theorem implHasBit_any (a : Option Addr) (cap : Nat) (zs : List Int) (n : Int) (w : World) (B : Nat) (hx : zs.length = 8) (hb : BytesOk zs) (hr : Rd .u8 B w a zs) (h0 : 0 ≤ n) (h1 : n < 64) :
    Calls Tryd.prog 71 #[.slice a 8 cap, .int .i64 n] w fun e w' => e = .returned (.bool (hasB zs n)) ∧ w' = w := by
  obtain ⟨b1, o1, rfl, _, hc⟩ := hr (n / 8).toNat (by omega)
  have hxb := getD_byte hb (n / 8).toNat
  have HV : Hid (hasB zs n = decide (zs.getD (n / 8).toNat 0 / 2 ^ (n % 8).toNat % 2 = 1)) := rfl
  have e1 : n.tdiv 8 = n / 8 := Int.tdiv_eq_ediv_of_nonneg h0
  have e2 : n.tmod 8 = n % 8 := Int.tmod_eq_emod_of_nonneg h0
  generalize zs.getD (n / 8).toNat 0 = x at *
  have hd := div_byte (n % 8).toNat hxb.1 hxb.2
  go_enter Tryd.func71, Tryd.ntmps71
  go_wp2_with fail
  go_ret
  refine ⟨?_, rfl⟩
  rw [HV.out]
  rfl

set_option maxHeartbeats 800000 in
theorem implMayHave_any (a : Option Addr) (n cap : Nat) (zs : List Int) (s : ByteArray) (w : World) (hx : zs.length = n) (hn : n ≤ 9223372036854775807) (hb : BytesOk zs) (hr : Rd .u8 w.heap.size w a zs) (hs : s.size ≤ 140737488351232) (ht : TabAt w) :
    Calls Tryd.prog 27 #[.slice a n cap, .string s] w fun e w' => e = .returned (.bool (mayP zs s)) ∧ Below w.heap.size w w' := by
  by_cases h8 : n = 8
  · subst h8
    have HV := Hid.mk (mayP_eight (s := s) hx)
    have HX := Hid.mk hx
    clear hx
    go_enter Tryd.func27, Tryd.ntmps27
    go_wp2_with fail
    refine (implMark_any s w hs ht).mono ?_
    rintro e w1 ⟨rfl, hb1⟩
    have hr1 := hr.below hb1
    have g1 := mk1_bd s
    have g2 := mk2_bd s
    generalize mk1 s = x1 at *
    generalize mk2 s = x2 at *
    go_wp2_with fail
    refine (implHasBit_any a cap zs x1 w1 _ HX.out hb hr1 g1.1 g1.2).mono ?_
    rintro e w2 ⟨rfl, rfl⟩
    generalize hasB zs x1 = c1 at *
    cases c1 with
    | false =>
      go_wp2_with fail
      go_ret
      exact ⟨by rw [HV.out]; rfl, hb1⟩
    | true =>
      go_wp2_with fail
      refine (implHasBit_any a cap zs x2 w2 _ HX.out hb hr1 g2.1 g2.2).mono ?_
      rintro e w3 ⟨rfl, rfl⟩
      generalize hasB zs x2 = c2 at *
      go_wp2_with fail
      go_ret
      exact ⟨by rw [HV.out]; rfl, hb1⟩
  · have HV := Hid.mk (mayP_other (s := s) (f := zs) (by omega))
    clear hx
    go_enter Tryd.func27, Tryd.ntmps27
    go_wp2_with fail
    go_ret
    exact ⟨by rw [HV.out]; rfl, Below.refl _ _⟩

set_option maxHeartbeats 800000 in
theorem specMayHave_any (a : Option Addr) (n cap : Nat) (zs : List Int) (s : ByteArray) (w : World) (hx : zs.length = n) (hn : n ≤ 9223372036854775807) (hb : BytesOk zs) (hr : Rd .u8 w.heap.size w a zs) (hs : s.size ≤ 140737488351232) :
    Calls Tryd.prog 25 #[.slice a n cap, .string s] w fun e w' => e = .returned (.bool (mayP zs s)) ∧ Below w.heap.size w w' := by
  by_cases h8 : n = 8
  · subst h8
    have HV := Hid.mk (mayP_eight (s := s) hx)
    go_enter Tryd.func25, Tryd.ntmps25
    go_wp2_with fail
    refine (specMark_any s w hs).mono ?_
    rintro e w1 ⟨rfl, hb1⟩
    have hr1 := hr.below hb1
    have g1 := mk1_bd s
    have g2 := mk2_bd s
    generalize mk1 s = x1 at *
    generalize mk2 s = x2 at *
    obtain ⟨b1, o1, rfl, _, hc1⟩ := hr1 (x1 / 8).toNat (by omega)
    obtain ⟨b2, o2, hbb, _, hc2⟩ := hr1 (x2 / 8).toNat (by omega)
    simp only [Option.some.injEq, Addr.mk.injEq, and_true] at hbb
    obtain ⟨rfl, rfl⟩ := hbb
    have hxb1 := getD_byte hb (x1 / 8).toNat
    have hxb2 := getD_byte hb (x2 / 8).toNat
    have e11 : x1.tdiv 8 = x1 / 8 := Int.tdiv_eq_ediv_of_nonneg g1.1
    have e12 : x1.tmod 8 = x1 % 8 := Int.tmod_eq_emod_of_nonneg g1.1
    have e21 : x2.tdiv 8 = x2 / 8 := Int.tdiv_eq_ediv_of_nonneg g2.1
    have e22 : x2.tmod 8 = x2 % 8 := Int.tmod_eq_emod_of_nonneg g2.1
    unfold hasB at HV
    clear hr hr1 hx
    generalize zs.getD (x1 / 8).toNat 0 = y1 at *
    generalize zs.getD (x2 / 8).toNat 0 = y2 at *
    have hd1 := div_byte (x1 % 8).toNat hxb1.1 hxb1.2
    have hd2 := div_byte (x2 % 8).toNat hxb2.1 hxb2.2
    have ha1 := and1_u8 hd1.1 hd1.2
    have ha2 := and1_u8 hd2.1 hd2.2
    by_cases hq : y1 / 2 ^ (x1 % 8).toNat % 2 = 1
    · have HQ := Hid.mk hq
      have hq' : (y1 / 2 ^ (x1 % 8).toNat % 2 == 1) = true := by rw [hq]; rfl
      go_wp2_with fail
      go_ret
      exact ⟨by rw [HV.out, decide_eq_true HQ.out]; rfl, hb1⟩
    · have HQ := Hid.mk hq
      have hq' : (y1 / 2 ^ (x1 % 8).toNat % 2 == 1) = false := beq_eq_false_iff_ne.2 hq
      go_wp2_with fail
      go_ret
      exact ⟨by rw [HV.out, decide_eq_false HQ.out]; rfl, hb1⟩
  · have HV := Hid.mk (mayP_other (s := s) (f := zs) (by omega))
    clear hx
    go_enter Tryd.func25, Tryd.ntmps25
    go_wp2_with fail
    go_ret
    exact ⟨by rw [HV.out]; rfl, Below.refl _ _⟩

end Go.Proofs.YtjaaaopbidmknaaDoor
