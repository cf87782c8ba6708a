/-
  The exact law of GetText: at every slice of bytes and every place the two answers are the same, and nothing that was there is written.
-/
import Derived.Test.YtconfeecfgdopaaBase
import Derived.Test.YtconfeecfgdopaaText
namespace Go.Proofs.Ytconfeecfgdopaa
open Go.RowKit

set_option maxHeartbeats 400000 in
theorem law_getText (a : Option Addr) (n cap : Nat) (zs : List Int) (p : Int) (w : World) (hx : zs.length = n) (hn : n ≤ 9223372036854775807) (hb : BytesOk zs) (hr : Rd .u8 w.heap.size w a zs) :
    Calls Try.prog 7 #[.slice a n cap, .int .i64 p] w fun e w' => e = .returned (.bool true) ∧ Below w.heap.size w w' := by
  have HX : Hid (zs.length = n) := hx
  clear hx
  by_cases hbig : 1048576 < n
  · go_enter Try.func7, Try.ntmps7
    go_wp2
    go_ret
    exact ⟨rfl, Below.refl _ _⟩
  · go_enter Try.func7, Try.ntmps7
    go_wp2_with fail
    refine (toByteS_any a n cap zs _ HX.out (by omega) (by exact hr)).mono ?_
    rintro e w1 ⟨rfl, hown1, hb1⟩
    go_wp2_with fail
    refine (specGetText_any _ n n zs p w1 w1.heap.size HX.out (by omega) (Nat.le_refl _) hb (Rd.own HX.out hown1)).mono ?_
    rintro e w1' ⟨rfl, rfl⟩
    generalize hR : getText zs p = R
    have HR : Hid (getText zs p = R) := hR
    clear hR
    obtain ⟨r0, r1, r2⟩ := R
    unfold textVal
    simp only
    generalize hS : strOfNums r0 = S
    have HS := Hid.mk hS
    clear hS
    go_wp2_with fail
    have hr1 := (hr.below hb1).mono hb1.size
    refine (toByteS_any a n cap zs _ HX.out (by omega) (by exact hr1)).mono ?_
    rintro e w2 ⟨rfl, hown2, hb2⟩
    have hr2 := (hr1.below hb2).mono hb2.size
    have hq2 := Rd.own HX.out hown2
    go_wp2_with fail
    refine (implGetText_any _ n n zs p w2 w2.heap.size HX.out (by omega) (Nat.le_refl _) hb hq2).mono ?_
    rintro e w2' ⟨rfl, rfl⟩
    rw [HR.out]
    unfold textVal
    simp only
    rw [HS.out]
    go_wp2_with fail
    refine (toByteS_any a n cap zs _ HX.out (by omega) (by exact hr2)).mono ?_
    rintro e w3 ⟨rfl, hown3, hb3⟩
    have hq3 := (hq2.below hb3).mono hb3.size
    go_wp2_with fail
    refine (eqByteS_any _ _ n n n n zs zs w3 w3.heap.size HX.out HX.out (by omega) hq3 (Rd.own HX.out hown3)).mono ?_
    rintro e w4 ⟨rfl, d, rfl⟩
    rw [decide_eq_true rfl]
    go_wp2
    go_ret
    exact ⟨rfl, below_drewN (hb1.trans ((hb2.mono hb1.size).trans (hb3.mono (Nat.le_trans hb1.size hb2.size)))) d⟩

end Go.Proofs.Ytconfeecfgdopaa
