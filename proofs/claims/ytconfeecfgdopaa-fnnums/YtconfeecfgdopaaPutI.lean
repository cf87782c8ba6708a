/-
  PutNum of the program.
-/
import Derived.Test.YtconfeecfgdopaaPuts
namespace Go.Proofs.Ytconfeecfgdopaa
open Go.RowKit

set_option maxHeartbeats 400000 in
theorem implPutNum_any (a : Option Addr) (n cap : Nat) (zs : List Int) (q : Int) (w : World) (hx : zs.length = n) (hlen : n ≤ 35184372088832) (hr : Rd .u8 w.heap.size w a zs) :
    Calls Try.prog 10 #[.slice a n cap, .int .i64 q] w fun e w' => ∃ v, e = .returned v ∧
      w'.ownsRow w.heap.size 5 1 v (n + (putNum (clampN q)).length) ((zs ++ putNum (clampN q)).map (Value.int .u8)) ∧ Below w.heap.size w w' := by
  have HX : Hid (zs.length = n) := hx
  clear hx
  go_enter Try.func10, Try.ntmps10
  go_wp2_with fail
  have hb0 : Below w.heap.size w (w.alloc (.cells #[.int .i64 q] 3)) := (Below.refl _ _).alloc (Nat.le_refl _) _
  refine (putNums_any a _ n cap 1 1 zs [q] _ HX.out rfl hlen (by omega) ((hr.below hb0).mono (by simp)) (by simpa using rd_one .i64 w q 3)).mono ?_
  rintro e w2 ⟨v2, rfl, hown2, hb2⟩
  have hown3 := own_base hown2 (base' := w.heap.size) (by simp)
  have hb3 := hb0.trans (hb2.mono (by simp))
  clear hown2 hb2
  go_wp2
  go_ret
  exact ⟨v2, rfl, own_congr hown3 (by simp [putNums]) (by simp [putNums]), hb3⟩

theorem implPutNum_R (a : Option Addr) (n cap : Nat) (zs : List Int) (q : Int) (w : World) (hx : zs.length = n) (hlen : n ≤ 35184372088832) (hr : Rd .u8 w.heap.size w a zs) :
    Calls Try.prog 10 #[.slice a n cap, .int .i64 q] w fun e w' => ∃ v, e = .returned v ∧
      w'.ownsRow w.heap.size 5 1 v (zs ++ putNum (clampN q)).length ((zs ++ putNum (clampN q)).map (Value.int .u8)) ∧ Below w.heap.size w w' :=
  (implPutNum_any a n cap zs q w hx (by omega) hr).mono fun _ _ ⟨v, h1, h2, h3⟩ => ⟨v, h1, own_congr h2 (by simp [hx]) rfl, h3⟩

end Go.Proofs.Ytconfeecfgdopaa
