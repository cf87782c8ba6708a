/-
  The laws copy what they are handed: what comes out is the same, in memory of its own.
-/
import Derived.Test.YtnomigomjhhccaaCDatZ
namespace Go.Proofs.Ytnomigomjhhccaa
open Go.RowKit
set_option linter.unusedVariables false

set_option maxHeartbeats 1000000 in
theorem toCmd_any (cs : List Value) (m : MCmd) (w : World) (hr : rCmd w.heap.size w cs m) (hsz : wCmd m ≤ 1048576) :
    Calls Try.prog 13 #[.agg cs.toArray] w fun e w' => ∃ (cs' : List Value) (F : List Nat), e = .returned (.agg cs'.toArray) ∧ oCmd w' cs' m F ∧ F.Nodup ∧ (∀ b, b ∈ F → w.heap.size ≤ b) ∧ Below w.heap.size w w' := by
  obtain ⟨rfl, h0, h1, h2, _⟩ := hr
  have hsz' : m.fKey.size + m.fVal.size ≤ 1048576 := hsz
  clear hsz
  have hbA : ∀ o1 o2 o3, Below w.heap.size w (((w.alloc o1).alloc o2).alloc o3) := fun o1 o2 o3 => (((Below.refl _ _).alloc (Nat.le_refl _) o1).alloc (by simp) o2).alloc (by simp; omega) o3
  go_enter Try.func13, Try.ntmps13
  go_wp2_with fail
  refine bodyPost_ret (v := .agg #[.int .i64 m.fKind, .string m.fKey, .string m.fVal]) (by simp [results, Try.results13, go_sem]) rfl ⟨[.int .i64 m.fKind, .string m.fKey, .string m.fVal], [], rfl, ?_, List.nodup_nil, (fun b hb => by cases hb), (hbA _ _ _)⟩
  exact ⟨rfl, h0, h1, h2, rfl⟩

end Go.Proofs.Ytnomigomjhhccaa
