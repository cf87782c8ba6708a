/-
  How great what is drawn may become.
-/
import Derived.Test.YtadadkookbkkoaaDoorDrawQ
namespace Go.Proofs.YtadadkookbkkoaaDoor
open Go.RowKit Go.Maps
set_option linter.unusedVariables false
set_option linter.unusedSimpArgs false
set_option maxRecDepth 10000

def SizePost (w : World) (e : Ending) (w' : World) : Prop := ∃ x : Int, (e = .returned (.int .i64 x) ∧ x ≤ 100) ∧ w' = w

set_option maxHeartbeats 400000 in
theorem l1Size_ok (a : Option Addr) (n cap : Nat) (q : Int) (w : World) (hn : n ≤ 1048576) (hq : 0 ≤ q) (hq2 : q ≤ 100) :
    Calls Tryd.prog 27 #[.slice a n cap, .int .i64 q] w fun e w' => SizePost w e w' := by
  have e1 : ((n : Int)).tdiv 12 = (n : Int) / 12 := Int.tdiv_eq_ediv_of_nonneg (by omega)
  have e2 : IntKind.i64.wrap ((n : Int) / 12) = (n : Int) / 12 := by rw [IntKind.wrap_i64]; omega
  go_enter Tryd.func27, Tryd.ntmps27
  by_cases h : q < 3 + (n : Int) / 12
  · go_wp2_with fail
    go_ret
    exact (show SizePost w _ _ from ⟨q, ⟨rfl, hq2⟩, rfl⟩)
  · go_wp2_with fail
    go_ret
    exact (show SizePost w _ _ from ⟨3 + (n : Int) / 12, ⟨rfl, by omega⟩, rfl⟩)

theorem below_of_cur {w W : World} {g : Nat} {w0 : World} (hb : Below w.heap.size w w0) (hg : w.heap.size ≤ g) (h : w0.grownBy W (some g)) : Below w.heap.size w W :=
  hb.grown h hb.size (fun k hk => by simp at hk; omega)

end Go.Proofs.YtadadkookbkkoaaDoor
