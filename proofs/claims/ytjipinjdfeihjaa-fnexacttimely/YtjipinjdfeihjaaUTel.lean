/-
  A command's dot and the command itself, told of what was asked for; a list gone through backwards.
-/
import Derived.Test.YtjipinjdfeihjaaUMap
import Derived.Test.YtjipinjdfeihjaaIterL
namespace Go.Proofs.Ytjipinjdfeihjaa
open Go.RowKit Go.Maps
set_option linter.unusedVariables false
set_option linter.unusedSimpArgs false
set_option maxRecDepth 10000

set_option maxHeartbeats 1000000 in
theorem back_any (a : Option Addr) (n cap : Nat) (w : World) :
    Calls Try.prog 83 #[.slice a n cap] w fun e w' => e = .returned (.func (.func 97) #[] #[.pointer (some ⟨w.heap.size, 0, none⟩)]) ∧ w' = w.alloc (.cells #[.slice a n cap] 31) := by
  go_enter Try.func83, Try.ntmps83
  go_wp2
  go_ret
  exact ⟨rfl, rfl⟩

set_option maxHeartbeats 2000000 in
theorem tell_any (x : MAsked) (a5 : Option Addr) (n5 c5 : Nat) (w : World) :
    Calls Try.prog 57 #[.agg #[.int .i64 x.fD.fR, .int .i64 x.fD.fN, .int .i64 x.fC.fKind, .string x.fC.fKey, .string x.fC.fVal, .slice a5 n5 c5]] w fun e w' => e = .returned (.tuple #[dotV x.fD, cmdV x.fC]) ∧ Below w.heap.size w w' := by
  go_enter Try.func57, Try.ntmps57
  go_wp2_with fail
  go_region
  all_goals go_wp2_with fail
  refine bodyPost_ret (v := .tuple #[.agg #[.int .i64 x.fD.fR, .int .i64 x.fD.fN], .agg #[.int .i64 x.fC.fKind, .string x.fC.fKey, .string x.fC.fVal]]) (by simp [results, Try.results57, go_sem]) rfl ⟨rfl, Below.drew ((((Below.refl _ _).alloc (Nat.le_refl _) _).alloc (by simp) _).alloc (by simp; omega) _)⟩
end Go.Proofs.Ytjipinjdfeihjaa
