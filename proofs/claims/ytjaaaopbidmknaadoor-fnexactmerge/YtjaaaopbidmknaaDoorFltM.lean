/-
  A filter's bits, as plain functions on lists of integers.
-/
import Derived.Test.YtjaaaopbidmknaaDoorMark
namespace Go.Proofs.YtjaaaopbidmknaaDoor
open Go.RowKit
set_option linter.unusedVariables false
set_option linter.unusedSimpArgs false

def orB (a b : Int) : Int := ((a.toNat ||| b.toNat : Nat) : Int)
def bitOn (f : List Int) (n : Int) : List Int := f.set (n / 8).toNat (orB (f.getD (n / 8).toNat 0) (2 ^ (n % 8).toNat))
def fltAdd (f : List Int) (s : ByteArray) : List Int := bitOn (bitOn f (mk1 s)) (mk2 s)
/-- The eight bytes of the keys' bits. -/
def flt (ks : List ByteArray) : List Int := ks.foldl fltAdd (List.replicate 8 0)
def hasB (f : List Int) (n : Int) : Bool := decide (f.getD (n / 8).toNat 0 / 2 ^ (n % 8).toNat % 2 = 1)
/-- Whether both bits of a key are there. -/
def mayP (f : List Int) (s : ByteArray) : Bool := !decide (f.length = 8) || (hasB f (mk1 s) && hasB f (mk2 s))

theorem orB_byte {a b : Int} (ha : 0 ≤ a ∧ a ≤ 255) (hb : 0 ≤ b ∧ b ≤ 255) : 0 ≤ orB a b ∧ orB a b ≤ 255 := by
  have h := Nat.or_lt_two_pow (x := a.toNat) (y := b.toNat) (n := 8) (by omega) (by omega)
  unfold orB
  omega
theorem pow8 {k : Nat} (h : k < 8) : (0 : Int) ≤ 2 ^ k ∧ (2 : Int) ^ k ≤ 128 := by
  match k, h with
  | 0, _ => decide
  | 1, _ => decide
  | 2, _ => decide
  | 3, _ => decide
  | 4, _ => decide
  | 5, _ => decide
  | 6, _ => decide
  | 7, _ => decide
theorem getD_byte {f : List Int} (h : BytesOk f) (i : Nat) : 0 ≤ f.getD i 0 ∧ f.getD i 0 ≤ 255 := by
  rw [List.getD_eq_getElem?_getD]
  by_cases hi : i < f.length
  · rw [List.getElem?_eq_getElem hi]
    exact h _ (List.getElem_mem hi)
  · rw [List.getElem?_eq_none (by omega)]
    simp
theorem bitOn_length (f : List Int) (n : Int) : (bitOn f n).length = f.length := by simp [bitOn]
theorem bitOn_ok {f : List Int} {n : Int} (h : BytesOk f) : BytesOk (bitOn f n) := by
  intro z hz
  unfold bitOn at hz
  rcases List.mem_or_eq_of_mem_set hz with h1 | rfl
  · exact h z h1
  · have hp := pow8 (k := (n % 8).toNat) (by omega)
    exact orB_byte (getD_byte h _) ⟨hp.1, by omega⟩
theorem fltAdd_length (f : List Int) (s : ByteArray) : (fltAdd f s).length = f.length := by simp [fltAdd, bitOn_length]
theorem fltAdd_ok {f : List Int} {s : ByteArray} (h : BytesOk f) : BytesOk (fltAdd f s) := bitOn_ok (bitOn_ok h)
theorem fold_length (ks : List ByteArray) (f : List Int) : (ks.foldl fltAdd f).length = f.length := by
  induction ks generalizing f with
  | nil => rfl
  | cons k ks ih => rw [List.foldl_cons, ih, fltAdd_length]
theorem fold_ok (ks : List ByteArray) {f : List Int} (h : BytesOk f) : BytesOk (ks.foldl fltAdd f) := by
  induction ks generalizing f with
  | nil => exact h
  | cons k ks ih => exact ih (fltAdd_ok h)
theorem flt_length (ks : List ByteArray) : (flt ks).length = 8 := by unfold flt; rw [fold_length]; rfl
theorem flt_ok (ks : List ByteArray) : BytesOk (flt ks) := fold_ok ks (by intro z hz; rw [List.eq_of_mem_replicate hz]; omega)
theorem flt_step {l : List ByteArray} {k : Nat} (h : k < l.length) : flt (l.take (k + 1)) = fltAdd (flt (l.take k)) l[k] := by
  unfold flt
  rw [List.take_succ_eq_append_getElem h, List.foldl_append]
  rfl

end Go.Proofs.YtjaaaopbidmknaaDoor
