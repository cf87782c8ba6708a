/-
  Filter, the program's and the specification's.
-/
import Derived.Test.YtjaaaopbidmknaaDoorFltM
import Derived.Test.YtjaaaopbidmknaaDoorBase
import Derived.Test.YtjaaaopbidmknaaDoorStrA
import Derived.Test.YtjaaaopbidmknaaDoorByteL
import Derived.Deep.RegionHeld3
namespace Go.Proofs.YtjaaaopbidmknaaDoor
open Go.RowKit
set_option linter.unusedVariables false
set_option linter.unusedSimpArgs false
set_option maxRecDepth 10000

theorem shl_byte {k : Nat} (h : k < 8) : IntKind.u8.wrap (1 * 2 ^ k) = 2 ^ k := by
  have := pow8 h
  rw [IntKind.wrap_u8', Int.one_mul]
  omega
theorem shl_byte' {k : Nat} (h : k < 8) : IntKind.u8.wrap (2 ^ k) = 2 ^ k := by
  have := pow8 h
  rw [IntKind.wrap_u8']
  omega
/-- A bit that is set in a row of one's own. -/
theorem bit_own {w : World} {base e g : Nat} {f : List Int} {n : Int} (hf : f.length = 8) (h0 : 0 ≤ n) (h1 : n < 64)
    (h : w.ownsRow base e 1 (.slice (some ⟨g, 0, none⟩) 8 8) 8 (f.map (Value.int .u8))) :
    w.cell? ⟨g, (n / 8).toNat, none⟩ = some (.int .u8 (f.getD (n / 8).toNat 0)) ∧ w.frozen? ⟨g, (n / 8).toNat, none⟩ = false ∧
      (w.setCell ⟨g, (n / 8).toNat, none⟩ (.int .u8 (orB (f.getD (n / 8).toNat 0) (2 ^ (n % 8).toNat)))).ownsRow base e 1 (.slice (some ⟨g, 0, none⟩) 8 8) 8 ((bitOn f n).map (Value.int .u8)) := by
  refine ⟨?_, ?_, ?_⟩
  · have h2 := h.cellAt (n / 8).toNat (by omega)
    rw [h2]
    have : (n / 8).toNat < f.length := by omega
    simp [this]
  · exact h.frozenAt (n / 8).toNat
  · have h2 := (h.stored (n / 8).toNat (.int .u8 (orB (f.getD (n / 8).toNat 0) (2 ^ (n % 8).toNat)))).1
    unfold bitOn
    rw [List.map_set]
    exact h2

set_option maxHeartbeats 800000 in
theorem implFilter_any (a : Option Addr) (n cap : Nat) (l : List ByteArray) (w : World) (hx : l.length = n) (hlen : n ≤ 9223372036854775807) (hs : ∀ s, s ∈ l → s.size ≤ 140737488351232) (hr : RdT w.heap.size w a l) (ht : TabAt w) :
    Calls Tryd.prog 19 #[.slice a n cap] w fun e w' => ∃ v, e = .returned v ∧
      w'.ownsRow w.heap.size 5 1 v 8 ((flt l).map (Value.int .u8)) ∧ Below w.heap.size w w' := by
  obtain ⟨i0, hi, hz0, hz1, hz2⟩ := info_parts Tryd.info5
  have HX := Hid.mk hx
  clear hx
  go_enter Tryd.func19, Tryd.ntmps19
  go_wp2_with (at_make; refine wpList_make_full _ rfl _ _ 27 rfl w.heap.size 5 i0 (.int .u8 0) 1 Tryd.underlying27 hi hz0 hz1 .i64 .i64 _ _ 8 rfl rfl rfl rfl ?c1 ?c2 (Nat.le_refl _) ?_)
  case c1 => rw [hz2]; omega
  case c2 => unfold maxLen; omega
  intro w1 hown hgr
  have hb1 : Below w.heap.size w w1 := (Below.refl _ _).grown hgr (Nat.le_refl _) (fun k h => by cases h)
  rw [toList_madeCells_one] at hown
  clear hgr hi hz0 hz1 hz2
  go_wp2_with fail
  go_loopw [11] (fun i wr => ∃ k : Nat, k ≤ n ∧ i = .int .i64 k ∧ wr.ownsRow w.heap.size 5 1 (.slice (some ⟨w.heap.size, 0, none⟩) 8 8) 8 ((flt (l.take k)).map (Value.int .u8)) ∧ Below w.heap.size w wr) (fun i _ => n - (intOf i).toNat)
  case atStart => exact ⟨0, Nat.zero_le _, rfl, by simpa [flt] using hown, hb1⟩
  case round =>
    obtain ⟨k, hk, rfl, hownk, hbk⟩ := hrel
    clear hown hb1
    by_cases hlt : k < n
    · have hkl : k < l.length := by rw [HX.out]; exact hlt
      have HS := Hid.mk (flt_step hkl)
      have hsk := hs _ (List.getElem_mem hkl)
      obtain ⟨b1, o1, rfl, _, hc1⟩ := (hr.below hbk) k hkl
      have hfl := flt_length (l.take k)
      have hfo := flt_ok (l.take k)
      generalize l[k] = s at *
      generalize flt (l.take k) = f at *
      go_wp2_with fail
      refine (implMark_any s wr hsk (ht.below hbk ht.size)).mono ?_
      rintro e w2 ⟨rfl, hb2⟩
      have hbk2 := hbk.trans (hb2.mono hbk.size)
      have hown2 := own_below hownk hb2
      have g1 := mk1_bd s
      have g2 := mk2_bd s
      have HS2 : Hid (flt (l.take (k + 1)) = bitOn (bitOn f (mk1 s)) (mk2 s)) := HS.out
      generalize mk1 s = x1 at *
      generalize mk2 s = x2 at *
      obtain ⟨q1, q2, q3⟩ := bit_own hfl g1.1 g1.2 hown2
      have e11 : x1.tdiv 8 = x1 / 8 := Int.tdiv_eq_ediv_of_nonneg g1.1
      have e12 : x1.tmod 8 = x1 % 8 := Int.tmod_eq_emod_of_nonneg g1.1
      have e13 := shl_byte (k := (x1 % 8).toNat) (by omega)
      have e14 := shl_byte' (k := (x1 % 8).toNat) (by omega)
      have hp1 := pow8 (k := (x1 % 8).toNat) (by omega)
      have hy1 := getD_byte hfo (x1 / 8).toNat
      have ho1 : bits .or .u8 (f.getD (x1 / 8).toNat 0) (2 ^ (x1 % 8).toNat) = orB (f.getD (x1 / 8).toNat 0) (2 ^ (x1 % 8).toNat) := u8_or _ _ hy1.1 (by omega) hp1.1 (by omega)
      have hfl' : (bitOn f x1).length = 8 := by rw [bitOn_length]; exact hfl
      have hfo' : BytesOk (bitOn f x1) := bitOn_ok hfo
      generalize bitOn f x1 = f1 at *
      generalize f.getD (x1 / 8).toNat 0 = yx1 at *
      generalize orB yx1 (2 ^ (x1 % 8).toNat) = zx1 at *
      clear hown2
      go_wp2_with fail
      go_region
      obtain ⟨w3, hw3⟩ : ∃ W, W = (w2.setCell ⟨w.heap.size, (x1 / 8).toNat, none⟩ (.int .u8 zx1)).drew := ⟨_, rfl⟩
      have hown3 : w3.ownsRow w.heap.size 5 1 (.slice (some ⟨w.heap.size, 0, none⟩) 8 8) 8 (f1.map (Value.int .u8)) := by rw [hw3]; exact q3
      have hbk3 : Below w.heap.size w w3 := by rw [hw3]; exact Below.drew (hbk2.setCell (Nat.le_refl _) _)
      rw [← hw3]
      clear hw3 q1 q2 q3 e11 e12 e13 e14 ho1 hy1 hp1
      obtain ⟨q1, q2, q3⟩ := bit_own hfl' g2.1 g2.2 hown3
      have e11 : x2.tdiv 8 = x2 / 8 := Int.tdiv_eq_ediv_of_nonneg g2.1
      have e12 : x2.tmod 8 = x2 % 8 := Int.tmod_eq_emod_of_nonneg g2.1
      have e13 := shl_byte (k := (x2 % 8).toNat) (by omega)
      have e14 := shl_byte' (k := (x2 % 8).toNat) (by omega)
      have hp1 := pow8 (k := (x2 % 8).toNat) (by omega)
      have hy1 := getD_byte hfo' (x2 / 8).toNat
      have ho1 : bits .or .u8 (f1.getD (x2 / 8).toNat 0) (2 ^ (x2 % 8).toNat) = orB (f1.getD (x2 / 8).toNat 0) (2 ^ (x2 % 8).toNat) := u8_or _ _ hy1.1 (by omega) hp1.1 (by omega)
      have hfl'' : (bitOn f1 x2).length = 8 := by rw [bitOn_length]; exact hfl'
      have hfo'' : BytesOk (bitOn f1 x2) := bitOn_ok hfo'
      generalize bitOn f1 x2 = f2 at *
      generalize f1.getD (x2 / 8).toNat 0 = yx2 at *
      generalize orB yx2 (2 ^ (x2 % 8).toNat) = zx2 at *
      clear hown3
      go_wp2_with fail
      go_region
      obtain ⟨w4, hw4⟩ : ∃ W, W = (w3.setCell ⟨w.heap.size, (x2 / 8).toNat, none⟩ (.int .u8 zx2)).drew := ⟨_, rfl⟩
      have hown4 : w4.ownsRow w.heap.size 5 1 (.slice (some ⟨w.heap.size, 0, none⟩) 8 8) 8 (f2.map (Value.int .u8)) := by rw [hw4]; exact q3
      have hbk4 : Below w.heap.size w w4 := by rw [hw4]; exact Below.drew (hbk3.setCell (Nat.le_refl _) _)
      rw [← hw4]
      clear hw4 q1 q2 q3 e11 e12 e13 e14 ho1 hy1 hp1
      go_wp2_with fail
      go_roundw
      case rel => exact ⟨k + 1, by omega, by go_num, by rw [HS2.out]; exact hown4, hbk4⟩
      case measure => simp [intOf]; omega
    · have HT : Hid (l.take k = l) := List.take_of_length_le (by rw [HX.out]; omega)
      go_wp2_with fail
      go_ret
      exact ⟨_, rfl, by rw [← HT.out]; exact hownk, hbk⟩

set_option maxHeartbeats 800000 in
theorem specFilter_any (a : Option Addr) (n cap : Nat) (l : List ByteArray) (w : World) (hx : l.length = n) (hlen : n ≤ 9223372036854775807) (hs : ∀ s, s ∈ l → s.size ≤ 140737488351232) (hr : RdT w.heap.size w a l) :
    Calls Tryd.prog 17 #[.slice a n cap] w fun e w' => ∃ v, e = .returned v ∧
      w'.ownsRow w.heap.size 5 1 v 8 ((flt l).map (Value.int .u8)) ∧ Below w.heap.size w w' := by
  obtain ⟨i0, hi, hz0, hz1, hz2⟩ := info_parts Tryd.info5
  have HX := Hid.mk hx
  clear hx
  go_enter Tryd.func17, Tryd.ntmps17
  go_wp2_with (at_make; refine wpList_make_full _ rfl _ _ 27 rfl w.heap.size 5 i0 (.int .u8 0) 1 Tryd.underlying27 hi hz0 hz1 .i64 .i64 _ _ 8 rfl rfl rfl rfl ?c1 ?c2 (Nat.le_refl _) ?_)
  case c1 => rw [hz2]; omega
  case c2 => unfold maxLen; omega
  intro w1 hown hgr
  have hb1 : Below w.heap.size w w1 := (Below.refl _ _).grown hgr (Nat.le_refl _) (fun k h => by cases h)
  rw [toList_madeCells_one] at hown
  clear hgr hi hz0 hz1 hz2
  go_wp2_with fail
  go_loopw [4] (fun i wr => ∃ k : Nat, k ≤ n ∧ i = .int .i64 k ∧ wr.ownsRow w.heap.size 5 1 (.slice (some ⟨w.heap.size, 0, none⟩) 8 8) 8 ((flt (l.take k)).map (Value.int .u8)) ∧ Below w.heap.size w wr) (fun i _ => n - (intOf i).toNat)
  case atStart => exact ⟨0, Nat.zero_le _, rfl, by simpa [flt] using hown, hb1⟩
  case round =>
    obtain ⟨k, hk, rfl, hownk, hbk⟩ := hrel
    clear hown hb1
    by_cases hlt : k < n
    · have hkl : k < l.length := by rw [HX.out]; exact hlt
      have HS := Hid.mk (flt_step hkl)
      have hsk := hs _ (List.getElem_mem hkl)
      obtain ⟨b1, o1, rfl, _, hc1⟩ := (hr.below hbk) k hkl
      have hfl := flt_length (l.take k)
      have hfo := flt_ok (l.take k)
      generalize l[k] = s at *
      generalize flt (l.take k) = f at *
      go_wp2_with fail
      refine (specMark_any s wr hsk).mono ?_
      rintro e w2 ⟨rfl, hb2⟩
      have hbk2 := hbk.trans (hb2.mono hbk.size)
      have hown2 := own_below hownk hb2
      have g1 := mk1_bd s
      have g2 := mk2_bd s
      have HS2 : Hid (flt (l.take (k + 1)) = bitOn (bitOn f (mk1 s)) (mk2 s)) := HS.out
      generalize mk1 s = x1 at *
      generalize mk2 s = x2 at *
      obtain ⟨q1, q2, q3⟩ := bit_own hfl g1.1 g1.2 hown2
      have qe1 : x1.tdiv 8 = x1 / 8 := Int.tdiv_eq_ediv_of_nonneg g1.1
      have qe2 : x1.tmod 8 = x1 % 8 := Int.tmod_eq_emod_of_nonneg g1.1
      have qe4 := shl_byte' (k := (x1 % 8).toNat) (by omega)
      have qp := pow8 (k := (x1 % 8).toNat) (by omega)
      have qy := getD_byte hfo (x1 / 8).toNat
      have qo : bits .or .u8 (f.getD (x1 / 8).toNat 0) (2 ^ (x1 % 8).toNat) = orB (f.getD (x1 / 8).toNat 0) (2 ^ (x1 % 8).toNat) := u8_or _ _ qy.1 (by omega) qp.1 (by omega)
      have hfl' : (bitOn f x1).length = 8 := by rw [bitOn_length]; exact hfl
      have hfo' : BytesOk (bitOn f x1) := bitOn_ok hfo
      generalize bitOn f x1 = f1 at *
      generalize f.getD (x1 / 8).toNat 0 = yx1 at *
      generalize orB yx1 (2 ^ (x1 % 8).toNat) = zx1 at *
      obtain ⟨r1, r2, r3⟩ := bit_own hfl' g2.1 g2.2 q3
      have re1 : x2.tdiv 8 = x2 / 8 := Int.tdiv_eq_ediv_of_nonneg g2.1
      have re2 : x2.tmod 8 = x2 % 8 := Int.tmod_eq_emod_of_nonneg g2.1
      have re4 := shl_byte' (k := (x2 % 8).toNat) (by omega)
      have rp := pow8 (k := (x2 % 8).toNat) (by omega)
      have ry := getD_byte hfo' (x2 / 8).toNat
      have ro : bits .or .u8 (f1.getD (x2 / 8).toNat 0) (2 ^ (x2 % 8).toNat) = orB (f1.getD (x2 / 8).toNat 0) (2 ^ (x2 % 8).toNat) := u8_or _ _ ry.1 (by omega) rp.1 (by omega)
      have hfl'' : (bitOn f1 x2).length = 8 := by rw [bitOn_length]; exact hfl'
      have hfo'' : BytesOk (bitOn f1 x2) := bitOn_ok hfo'
      generalize bitOn f1 x2 = f2 at *
      generalize f1.getD (x2 / 8).toNat 0 = yx2 at *
      generalize orB yx2 (2 ^ (x2 % 8).toNat) = zx2 at *
      have hbk4 := (hbk2.setCell (p := ⟨w.heap.size, (x1 / 8).toNat, none⟩) (Nat.le_refl _) (.int .u8 zx1)).setCell (p := ⟨w.heap.size, (x2 / 8).toNat, none⟩) (Nat.le_refl _) (.int .u8 zx2)
      go_wp2_with fail
      go_roundw
      case rel => exact ⟨k + 1, by omega, by go_num, by rw [HS2.out]; exact r3, hbk4⟩
      case measure => simp [intOf]; omega
    · have HT : Hid (l.take k = l) := List.take_of_length_le (by rw [HX.out]; omega)
      go_wp2_with fail
      go_ret
      exact ⟨_, rfl, by rw [← HT.out]; exact hownk, hbk⟩

theorem boundFilter_0 (l : List ByteArray) (hw : wTs l ≤ 1048576) : (flt l).length ≤ 1099511627776 := by rw [flt_length]; omega
theorem flt_own {w : World} {base : Nat} {v : Value} {l : List ByteArray} (h : w.ownsRow base 5 1 v 8 ((flt l).map (Value.int .u8))) : ownB 5 w v (flt l) v.ownBlock.toList :=
  ⟨own_base (own_congr h (flt_length l).symm rfl) (Nat.zero_le _), flt_ok l, rfl⟩
theorem specFilter_c (v : Value) (l : List ByteArray) (w : World) (hr : rdT w.heap.size w v l) (hw : wTs l ≤ 1048576) (ht : TabAt w) :
    Calls Tryd.prog 17 #[v] w fun e w' => ∃ v, e = .returned v ∧ rdB w'.heap.size w' v (flt l) ∧ Below w.heap.size w w' := by
  obtain ⟨a, c, rfl, h1, h2, h3⟩ := hr
  refine (specFilter_any a _ c l w rfl (by omega) (fun s hs => by have := wTs_mem hs; omega) h3).mono ?_
  rintro e w' ⟨v, rfl, h4, h5⟩
  exact ⟨v, rfl, rdB_own (flt_own h4), h5⟩
theorem implFilter_c (v : Value) (l : List ByteArray) (w : World) (hr : rdT w.heap.size w v l) (hw : wTs l ≤ 1048576) (ht : TabAt w) :
    Calls Tryd.prog 19 #[v] w fun e w' => ∃ v F, e = .returned v ∧ ownB 5 w' v (flt l) F ∧ F.Nodup ∧ (∀ b, b ∈ F → w.heap.size ≤ b) ∧ Below w.heap.size w w' := by
  obtain ⟨a, c, rfl, h1, h2, h3⟩ := hr
  refine (implFilter_any a _ c l w rfl (by omega) (fun s hs => by have := wTs_mem hs; omega) h3 ht).mono ?_
  rintro e w' ⟨v, rfl, h4, h5⟩
  exact ⟨v, _, rfl, flt_own h4, by cases v.ownBlock <;> simp, fun b hb => (h4.lt b (by simpa using hb)).1, h5⟩

end Go.Proofs.YtjaaaopbidmknaaDoor
