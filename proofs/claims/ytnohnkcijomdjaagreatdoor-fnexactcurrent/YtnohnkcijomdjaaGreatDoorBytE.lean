/-
  Slices of bytes as arguments and answers of the exact laws: read, copied, compared, marked, found again.
-/
import Derived.Test.YtnohnkcijomdjaaGreatDoorBasE
import Derived.Test.YtnohnkcijomdjaaGreatDoorByteR
namespace Go.Proofs.YtnohnkcijomdjaaGreatDoor
open Go.RowKit
set_option linter.unusedVariables false
set_option linter.unusedSimpArgs false

theorem markByteS_o (v : Value) (zs : List Int) (F : List Nat) (q : Int) (w : World) (hq : 0 ≤ q) (hq2 : q + zs.length ≤ 70368744177664) (ho : ownB 5 w v zs F) :
    Calls Tryz.prog 65 #[v, .int .i64 q] w fun e w' => e = .returned (.int .i64 (q + zs.length)) ∧ ownB 5 w' v (marks q zs.length) F ∧ Turn F w w' := by
  obtain ⟨a, c, rfl, hc, hcm, hrd, hby⟩ := ho.read
  obtain ⟨h1, h2, rfl⟩ := ho
  refine (markByteS_gen a zs.length c 0 zs q w hq (by omega) (by omega) rfl h1).mono ?_
  rintro e w' ⟨rfl, hown, hg⟩
  refine ⟨rfl, ⟨own_congr hown (marks_length _ _).symm rfl, ?_, rfl⟩, Turn.ofGrown hg (fun k hk => by simp [hk])⟩
  intro z hz
  obtain ⟨j, hj, rfl⟩ := List.mem_iff_getElem.1 hz
  have := marks_getD q zs.length j (by simpa [marks_length] using hj)
  rw [List.getD_eq_getElem?_getD, List.getElem?_eq_getElem hj] at this
  simp only [Option.getD_some] at this
  rw [this]
  omega

theorem eqByteS_yes_r (v1 v2 : Value) (zs : List Int) (w : World) (h1 : rdB w.heap.size w v1 zs) (h2 : rdB w.heap.size w v2 zs) (hsz : zs.length ≤ 1099511627776) :
    Calls Tryz.prog 85 #[v1, v2] w fun e w' => e = .returned (.bool true) ∧ Below w.heap.size w w' := by
  obtain ⟨a, ca, rfl, ha⟩ := h1
  obtain ⟨b, cb, rfl, hb⟩ := h2
  refine (eqByteS_any a b _ _ ca cb zs zs w w.heap.size rfl rfl (by omega) ha.2.2.1 hb.2.2.1).mono ?_
  rintro e w' ⟨rfl, d, rfl⟩
  exact ⟨by simp, below_drewN (Below.refl _ _) d⟩

theorem markByteS_r (v : Value) (zs : List Int) (F : List Nat) (q : Int) (w : World) (hq : 0 ≤ q) (hq2 : q + zs.length ≤ 70368744177664) (ho : ownB 5 w v zs F) (hN : F.Nodup) :
    Calls Tryz.prog 65 #[v, .int .i64 q] w fun e w' => ∃ (m' : List Int) (q' : Int), e = .returned (.int .i64 q') ∧ q ≤ q' ∧ q' ≤ 70368744177664 ∧ ownB 5 w' v m' F ∧ hdB m' q q' ∧ Turn F w w' := by
  refine (markByteS_o v zs F q w hq hq2 ho).mono ?_
  rintro e w' ⟨rfl, h1, h2⟩
  exact ⟨marks q zs.length, _, rfl, by omega, hq2, h1, ⟨by rw [marks_length], by rw [marks_length]⟩, h2⟩

end Go.Proofs.YtnohnkcijomdjaaGreatDoor
