/-
  The exact law of MayHave: at every filter and key both say the same; nothing that was there is written.
-/
import Derived.Test.YtjaaaopbidmknaaDoorBase
import Derived.Test.YtjaaaopbidmknaaDoorMayH
import Derived.Test.YtjaaaopbidmknaaDoorByteL
import Derived.Test.YtjaaaopbidmknaaDoorPDatO
namespace Go.Proofs.YtjaaaopbidmknaaDoor
open Go.RowKit
set_option linter.unusedVariables false
set_option linter.unusedSimpArgs false

set_option maxHeartbeats 800000 in
theorem law_FnExactMayHave (cs0 : Value) (m0 : List Int) (m1 : ByteArray) (w : World) (hr0 : rdB w.heap.size w cs0 m0) (hs1 : m1.size ≤ 9223372036854775807) (ht : TabAt w) :
    Calls Tryd.prog 5 #[cs0, .string m1] w fun e w' => e = .returned (.bool true) ∧ Below w.heap.size w w' := by
  obtain ⟨a, cap, rfl, h1, h2, hr, hb⟩ := hr0
  obtain ⟨n, hx⟩ : ∃ n, m0.length = n := ⟨_, rfl⟩
  rw [hx] at h1 ⊢
  have HX := Hid.mk hx
  clear hx
  have hsz := ht.size
  by_cases hbig : 1048576 < n
  · go_enter Tryd.func5, Tryd.ntmps5
    go_wp2_with fail
    go_ret
    exact ⟨rfl, Below.refl _ _⟩
  by_cases hbig1 : 1048576 < m1.size
  · go_enter Tryd.func5, Tryd.ntmps5
    go_wp2_with fail
    go_ret
    exact ⟨rfl, Below.refl _ _⟩
  go_enter Tryd.func5, Tryd.ntmps5
  go_wp2_with fail
  refine (toByteS_any a n cap m0 _ HX.out (by omega) (by exact hr)).mono ?_
  rintro e w1 ⟨rfl, hown1, hb1⟩
  go_wp2_with fail
  refine (specMayHave_any _ n n m0 m1 w1 HX.out (by omega) hb (Rd.own HX.out hown1) (by omega)).mono ?_
  rintro e w2 ⟨rfl, hb2⟩
  have hB2 := hb1.trans (hb2.mono hb1.size)
  have hr2 := (hr.below hB2).mono hB2.size
  generalize hR : mayP m0 m1 = R
  have HR : Hid (mayP m0 m1 = R) := hR
  clear hR hown1
  go_wp2_with fail
  refine (toByteS_any a n cap m0 _ HX.out (by omega) (by exact hr2)).mono ?_
  rintro e w3 ⟨rfl, hown3, hb3⟩
  have hB3 := hB2.trans (hb3.mono hB2.size)
  have hr3 := (hr.below hB3).mono hB3.size
  have hq3 := Rd.own HX.out hown3
  go_wp2_with fail
  refine (implMayHave_any _ n n m0 m1 w3 HX.out (by omega) hb hq3 (by omega) (ht.below hB3 hsz)).mono ?_
  rintro e w4 ⟨rfl, hb4⟩
  have hB4 := hB3.trans (hb4.mono hB3.size)
  have hr4 := (hr.below hB4).mono hB4.size
  have hq4 := (hq3.below hb4).mono hb4.size
  rw [HR.out]
  clear hown3
  go_wp2_with fail
  refine (toByteS_any a n cap m0 _ HX.out (by omega) (by exact hr4)).mono ?_
  rintro e w5 ⟨rfl, hown5, hb5⟩
  have hB5 := hB4.trans (hb5.mono hB4.size)
  have hq5 := (hq4.below hb5).mono hb5.size
  go_wp2_with fail
  refine (eqByteS_any _ _ n n n n m0 m0 w5 w5.heap.size HX.out HX.out (by omega) hq5 (Rd.own HX.out hown5)).mono ?_
  rintro e w6 ⟨rfl, d, rfl⟩
  rw [decide_eq_true rfl]
  go_wp2_with fail
  go_ret
  exact ⟨rfl, below_drewN hB5 d⟩

end Go.Proofs.YtjaaaopbidmknaaDoor
