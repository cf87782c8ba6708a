/-
  The exact law of Sum: at every slice of bytes the two sums are the same, and nothing that was there is written.
-/
import Derived.Test.YtconfeecfgdopaaDoorBase
import Derived.Test.YtconfeecfgdopaaDoorSum
namespace Go.Proofs.YtconfeecfgdopaaDoor
open Go.RowKit

set_option maxHeartbeats 400000 in
theorem law_sum (a : Option Addr) (n cap : Nat) (zs : List Int) (w : World) (hx : zs.length = n) (hn : n ≤ 9223372036854775807) (hb : BytesOk zs) (hr : Rd .u8 w.heap.size w a zs) (ht : TabAt w) :
    Calls Tryd.prog 3 #[.slice a n cap] w fun e w' => e = .returned (.bool true) ∧ Below w.heap.size w w' := by
  have HX : Hid (zs.length = n) := hx
  clear hx
  have hsz : 0 < w.heap.size := World.block_lt_of_cell? _ _ (ht 0 (by decide))
  by_cases hbig : 1048576 < n
  · go_enter Tryd.func3, Tryd.ntmps3
    go_wp2
    go_ret
    exact ⟨rfl, Below.refl _ _⟩
  · go_enter Tryd.func3, Tryd.ntmps3
    go_wp2_with fail
    refine (toByteS_any a n cap zs _ HX.out (by omega) (by exact hr)).mono ?_
    rintro e w1 ⟨rfl, hown1, hb1⟩
    go_wp2_with fail
    refine (specSum_any _ n n zs w1 w1.heap.size HX.out (by omega) hb (Rd.own HX.out hown1)).mono ?_
    rintro e w1' ⟨rfl, rfl⟩
    generalize hR : crc zs = R
    have HR : Hid (crc zs = R) := hR
    clear hR
    go_wp2_with fail
    have hr1 := (hr.below hb1).mono hb1.size
    refine (toByteS_any a n cap zs _ HX.out (by omega) (by exact hr1)).mono ?_
    rintro e w2 ⟨rfl, hown2, hb2⟩
    have hr2 := (hr1.below hb2).mono hb2.size
    have hq2 := Rd.own HX.out hown2
    have hB2 := hb1.trans (hb2.mono hb1.size)
    go_wp2_with fail
    refine (implSum_any _ n n zs w2 w2.heap.size HX.out (by omega) hb hq2 (ht.below hB2 hsz)).mono ?_
    rintro e w2' ⟨rfl, rfl⟩
    rw [HR.out]
    go_wp2_with fail
    refine (toByteS_any a n cap zs _ HX.out (by omega) (by exact hr2)).mono ?_
    rintro e w3 ⟨rfl, hown3, hb3⟩
    have hq3 := (hq2.below hb3).mono hb3.size
    go_wp2_with fail
    refine (eqByteS_any _ _ n n n n zs zs w3 w3.heap.size HX.out HX.out (by omega) hq3 (Rd.own HX.out hown3)).mono ?_
    rintro e w4 ⟨rfl, d, rfl⟩
    rw [decide_eq_true rfl]
    go_wp2
    go_ret
    exact ⟨rfl, below_drewN (hB2.trans (hb3.mono hB2.size)) d⟩

end Go.Proofs.YtconfeecfgdopaaDoor
