/-
  The draws of graphs: numbers, and a Dot. What comes out lies within its bounds; only the cursor is written.
-/
import Derived.Test.YtmigamgcmhdncaaDoorDrawN
namespace Go.Proofs.YtmigamgcmhdncaaDoor
open Go.RowKit
set_option linter.unusedVariables false
set_option linter.unusedSimpArgs false
set_option maxRecDepth 10000

set_option maxHeartbeats 400000 in
theorem l1Int_ok {g : Nat} {w : World} (la : Option Addr) (m cap : Nat) (ns : List Int) (hc : CurOk w g) (hm : ns.length = m) (h0 : 0 < m) (hm2 : m ≤ 1000000) (B : Nat) (hr : Rd .i64 B w la ns) (hne : ∀ b o, la = some ⟨b, o, none⟩ → b ≠ g) :
    Calls Tryd.prog 79 #[.pointer (some ⟨g, 0, none⟩), .slice la m cap] w fun e w' => ∃ j : Nat, (j < m ∧ e = .returned (.int .i64 (ns.getD j 0))) ∧ CurOk w' g ∧ w.grownBy w' (some g) := by
  have HM : Hid (ns.length = m) := hm
  clear hm
  go_enter Tryd.func79, Tryd.ntmps79
  go_wp2_with fail
  refine (l1Below_ok _ hc).mono ?_
  rintro e w1 ⟨x, rfl, hx, hc1, hg1⟩
  obtain ⟨x, rfl⟩ := Int.eq_ofNat_of_zero_le hx.1
  have hxm : x < m := by omega
  obtain ⟨b1, o1, rfl, hB, hcell⟩ := hr x (by rw [HM.out]; exact hxm)
  have hcell1 : w1.cell? ⟨b1, o1 + x, none⟩ = some (.int .i64 (ns.getD x 0)) := hg1.cell hcell (by have := hne b1 o1 rfl; simpa using this)
  generalize hv : ns.getD x 0 = v at hcell1
  have HV := Hid.mk hv
  clear hv hcell hr hne hx
  go_wp2_with fail
  go_ret
  exact ⟨x, ⟨hxm, by rw [HV.out]; rfl⟩, hc1, hg1⟩

set_option maxHeartbeats 400000 in
theorem l1Once_ok {g : Nat} {w : World} (q : Int) (hc : CurOk w g) :
    Calls Tryd.prog 77 #[.pointer (some ⟨g, 0, none⟩), .int .i64 q] w fun e w' => ∃ x : Bool, e = .returned (.bool x) ∧ CurOk w' g ∧ w.grownBy w' (some g) := by
  go_enter Tryd.func77, Tryd.ntmps77
  go_wp2_with fail
  refine (l1Below_ok _ hc).mono ?_
  rintro e w1 ⟨x, rfl, hx, hc1, hg1⟩
  go_wp2_with fail
  go_ret
  exact ⟨_, rfl, hc1, hg1⟩

def SizePost (w : World) (e : Ending) (w' : World) : Prop := ∃ x : Int, (e = .returned (.int .i64 x) ∧ x ≤ 100) ∧ w' = w

set_option maxHeartbeats 400000 in
theorem l1Size_ok (a : Option Addr) (n cap : Nat) (q : Int) (w : World) (hn : n ≤ 1048576) (hq : 0 ≤ q) (hq2 : q ≤ 100) :
    Calls Tryd.prog 55 #[.slice a n cap, .int .i64 q] w fun e w' => SizePost w e w' := by
  have e1 : ((n : Int)).tdiv 12 = (n : Int) / 12 := Int.tdiv_eq_ediv_of_nonneg (by omega)
  have e2 : IntKind.i64.wrap ((n : Int) / 12) = (n : Int) / 12 := by rw [IntKind.wrap_i64]; omega
  go_enter Tryd.func55, Tryd.ntmps55
  by_cases h : q < 3 + (n : Int) / 12
  · go_wp2_with fail
    go_ret
    exact (show SizePost w _ _ from ⟨q, ⟨rfl, hq2⟩, rfl⟩)
  · go_wp2_with fail
    go_ret
    exact (show SizePost w _ _ from ⟨3 + (n : Int) / 12, ⟨rfl, by omega⟩, rfl⟩)

/-- A Dot was drawn: both numbers are small and from one on; only the cursor was written. -/
def DotDrawn (w : World) (g : Nat) (e : Ending) (w' : World) : Prop :=
  ∃ r n : Int, (e = .returned (.agg #[.int .i64 r, .int .i64 n]) ∧ 1 ≤ r ∧ r ≤ 3 ∧ 1 ≤ n ∧ n ≤ 5) ∧ CurOk w' g ∧ w.grownBy w' (some g)

end Go.Proofs.YtmigamgcmhdncaaDoor
