/-
  The contract of the specification's PutNum, in the form that the laws take.
-/
import Derived.Test.YtjaaaopbidmknaaDoorPut
namespace Go.Proofs.YtjaaaopbidmknaaDoor
open Go.RowKit
set_option maxRecDepth 10000

theorem specPutNum_R (a : Option Addr) (n cap : Nat) (zs : List Int) (q : Int) (w : World) (hx : zs.length = n) (hlen : n ≤ 35184372088832) (hr : Rd .u8 w.heap.size w a zs) :
    Calls Tryd.prog 75 #[.slice a n cap, .int .i64 q] w fun e w' => ∃ v, e = .returned v ∧
      w'.ownsRow w.heap.size 5 1 v (zs ++ putNum (clampN q)).length ((zs ++ putNum (clampN q)).map (Value.int .u8)) ∧ Below w.heap.size w w' :=
  (specPutNum_any a n cap zs q w hx (by omega) hr).mono fun _ _ ⟨v, h1, h2, h3⟩ => ⟨v, h1, own_congr h2 (by simp [hx]) rfl, h3⟩

end Go.Proofs.YtjaaaopbidmknaaDoor
