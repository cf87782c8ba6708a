/-
  GetText, the program's and the specification's: both answer what 'getText' says.
-/
import Derived.Test.YtconfeecfgdopaaNum
import Derived.Test.YtconfeecfgdopaaTextM
import Derived.Laws.BytesArg
namespace Go.Proofs.Ytconfeecfgdopaa
open Go.RowKit

def textVal (r : List Int × Int × Bool) : Value := .tuple #[.string (strOfNums r.1), .int .i64 r.2.1, .bool r.2.2]

theorem conv_part {b1 o1 c m f B : Nat} {zs : List Int} {w : World} {a : Option Addr} (hin : f + m ≤ zs.length) (hra : Rd .u8 B w a zs) (ha : a = some ⟨b1, o1, none⟩) :
    (convert 22 9 (.slice (some ⟨b1, o1 + f, none⟩) m c)).run Try.prog w = .ok (.string (strOfNums ((zs.drop f).take m))) w :=
  run_convert_bytes_arg w 22 5 Try.underlying22 Try.underlying5 b1 (o1 + f) m c _ (take_drop_length hin) (fun i hi => by
    obtain ⟨b2, o2, e, _, hc⟩ := hra (f + i) (by omega)
    rw [ha] at e
    simp only [Option.some.injEq, Addr.mk.injEq, and_true] at e
    obtain ⟨rfl, rfl⟩ := e
    rw [take_drop_getD hi, Nat.add_assoc]
    exact hc) 9 Try.underlying9

theorem conv_none (w : World) (b1 o1 c : Nat) :
    (convert 22 9 (.slice (some ⟨b1, o1, none⟩) 0 c)).run Try.prog w = .ok (.string (strOfNums [])) w :=
  run_convert_bytes_arg w 22 5 Try.underlying22 Try.underlying5 b1 o1 0 c [] rfl (fun i hi => by omega) 9 Try.underlying9

set_option maxHeartbeats 400000 in
theorem specGetText_any (a : Option Addr) (n cap : Nat) (zs : List Int) (p : Int) (w : World) (B : Nat) (hx : zs.length = n) (hlen : n ≤ 140737488351232) (hcap : n ≤ cap) (hb : BytesOk zs) (hra : Rd .u8 B w a zs) :
    Calls Try.prog 22 #[.slice a n cap, .int .i64 p] w fun e w' => e = .returned (textVal (getText zs p)) ∧ w' = w := by
  have HX : Hid (zs.length = n) := hx
  clear hx
  go_enter Try.func22, Try.ntmps22
  go_wp2_with fail
  refine (specGetNum_any a n cap zs p _ B HX.out hlen hb hra).mono ?_
  rintro e w1 ⟨rfl, rfl⟩
  rcases text_cases zs p with ⟨r0, r1, hR, hv⟩ | ⟨m, f, hR, hf, hm, hout, hv⟩ | ⟨m, f, hR, hf, hm, hin, hv⟩
  all_goals
    rw [hR]
    have HV := Hid.mk hv
    clear hR hv
    unfold numVal
  · go_wp2
    go_ret3
    exact ⟨by rw [HV.out]; rfl, rfl⟩
  · rw [HX.out] at hf hout
    go_wp2
    go_ret3
    exact ⟨by rw [HV.out]; rfl, rfl⟩
  · have hcv := fun b1 o1 c => conv_part (b1 := b1) (o1 := o1) (c := c) (B := B) (w := w1) hin hra
    rw [HX.out] at hin
    obtain ⟨b1, o1, rfl, _, _⟩ := hra 0 (by rw [HX.out]; omega)
    have hcv := hcv b1 o1
    by_cases hcf : cap = f
    · subst hcf
      obtain rfl : m = 0 := by omega
      have hcn := conv_none w1 b1 o1 0
      clear hcv
      go_wp2
      go_ret3
      exact ⟨by rw [HV.out]; rfl, rfl⟩
    · have hcv := hcv (cap - f) rfl
      go_wp2
      go_ret3
      exact ⟨by rw [HV.out]; simp [textVal], rfl⟩

set_option maxHeartbeats 400000 in
theorem implGetText_any (a : Option Addr) (n cap : Nat) (zs : List Int) (p : Int) (w : World) (B : Nat) (hx : zs.length = n) (hlen : n ≤ 140737488351232) (hcap : n ≤ cap) (hb : BytesOk zs) (hra : Rd .u8 B w a zs) :
    Calls Try.prog 14 #[.slice a n cap, .int .i64 p] w fun e w' => e = .returned (textVal (getText zs p)) ∧ w' = w := by
  have HX : Hid (zs.length = n) := hx
  clear hx
  go_enter Try.func14, Try.ntmps14
  go_wp2_with fail
  refine (implGetNum_any a n cap zs p _ B HX.out hlen hb hra).mono ?_
  rintro e w1 ⟨rfl, rfl⟩
  rcases text_cases zs p with ⟨r0, r1, hR, hv⟩ | ⟨m, f, hR, hf, hm, hout, hv⟩ | ⟨m, f, hR, hf, hm, hin, hv⟩
  all_goals
    rw [hR]
    have HV := Hid.mk hv
    clear hR hv
    unfold numVal
  · go_wp2
    go_ret3
    exact ⟨by rw [HV.out]; rfl, rfl⟩
  · rw [HX.out] at hf hout
    go_wp2
    go_ret3
    exact ⟨by rw [HV.out]; rfl, rfl⟩
  · have hcv := fun b1 o1 c => conv_part (b1 := b1) (o1 := o1) (c := c) (B := B) (w := w1) hin hra
    rw [HX.out] at hin
    obtain ⟨b1, o1, rfl, _, _⟩ := hra 0 (by rw [HX.out]; omega)
    have hcv := hcv b1 o1
    by_cases hcf : cap = f
    · subst hcf
      obtain rfl : m = 0 := by omega
      have hcn := conv_none w1 b1 o1 0
      clear hcv
      go_wp2
      go_ret3
      exact ⟨by rw [HV.out]; rfl, rfl⟩
    · have hcv := hcv (cap - f) rfl
      go_wp2
      go_ret3
      exact ⟨by rw [HV.out]; simp [textVal], rfl⟩

end Go.Proofs.Ytconfeecfgdopaa
