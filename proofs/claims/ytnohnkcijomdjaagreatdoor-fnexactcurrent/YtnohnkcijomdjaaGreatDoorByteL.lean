/-
  Slices of bytes as arguments and answers of the exact laws: read, copied, compared, marked, found again.
-/
import Derived.Test.YtnohnkcijomdjaaGreatDoorBytE
import Derived.Test.YtnohnkcijomdjaaGreatDoorBase
import Derived.Test.YtnohnkcijomdjaaGreatDoorByteR
namespace Go.Proofs.YtnohnkcijomdjaaGreatDoor
open Go.RowKit
set_option linter.unusedVariables false
set_option linter.unusedSimpArgs false

theorem toByteS_own (a : Option Addr) (n cap : Nat) (zs : List Int) (w : World) (hx : zs.length = n) (hr : LeafB w.heap.size w a cap zs) (hlen : n ≤ 1048576) :
    Calls Tryz.prog 81 #[.slice a n cap] w fun e w' => ∃ (v : Value) (F : List Nat), e = .returned v ∧ ownB 5 w' v zs F ∧ F.Nodup ∧ (∀ b, b ∈ F → w.heap.size ≤ b) ∧ Below w.heap.size w w' := by
  refine (toByteS_any a n cap zs w hx (by omega) hr.2.2.1).mono ?_
  rintro e w1 ⟨rfl, ho, hb⟩
  refine ⟨_, [w.heap.size], rfl, ⟨own_base (own_congr ho hx.symm rfl) (Nat.zero_le _), hr.2.2.2, rfl⟩, by simp, ?_, hb⟩
  intro b hbm
  simp at hbm
  omega

theorem toByteS_r (v : Value) (zs : List Int) (w : World) (hr : rdB w.heap.size w v zs) (hlen : zs.length ≤ 1048576) :
    Calls Tryz.prog 81 #[v] w fun e w' => ∃ (v : Value) (F : List Nat), e = .returned v ∧ ownB 5 w' v zs F ∧ F.Nodup ∧ (∀ b, b ∈ F → w.heap.size ≤ b) ∧ Below w.heap.size w w' := by
  obtain ⟨a, c, rfl, h1⟩ := hr
  exact toByteS_own a _ c zs w rfl h1 hlen

end Go.Proofs.YtnohnkcijomdjaaGreatDoor
