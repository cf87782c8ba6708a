/-
  Slices of bytes as arguments and answers of the exact laws: read, copied, compared, marked, found again.
-/
import Derived.Test.YtiahmcclmlmgpaaDoorBase
import Derived.Test.YtiahmcclmlmgpaaDoorDatN
namespace Go.Proofs.YtiahmcclmlmgpaaDoor
open Go.RowKit
set_option linter.unusedVariables false
set_option linter.unusedSimpArgs false

theorem toByteS_own (a : Option Addr) (n cap : Nat) (zs : List Int) (w : World) (hx : zs.length = n) (hr : LeafB w.heap.size w a cap zs) (hlen : n ≤ 1048576) :
    Calls Tryd.prog 26 #[.slice a n cap] w fun e w' => ∃ (v : Value) (F : List Nat), e = .returned v ∧ ownB 5 w' v zs F ∧ F.Nodup ∧ (∀ b, b ∈ F → w.heap.size ≤ b) ∧ Below w.heap.size w w' := by
  refine (toByteS_any a n cap zs w hx (by omega) hr.2.2.1).mono ?_
  rintro e w1 ⟨rfl, ho, hb⟩
  refine ⟨_, [w.heap.size], rfl, ⟨own_base (own_congr ho hx.symm rfl) (Nat.zero_le _), hr.2.2.2, rfl⟩, by simp, ?_, hb⟩
  intro b hbm
  simp at hbm
  omega

theorem markByteS_o (v : Value) (zs : List Int) (F : List Nat) (q : Int) (w : World) (hq : 0 ≤ q) (hq2 : q + zs.length ≤ 70368744177664) (ho : ownB 5 w v zs F) :
    Calls Tryd.prog 29 #[v, .int .i64 q] w fun e w' => e = .returned (.int .i64 (q + zs.length)) ∧ ownB 5 w' v (marks q zs.length) F ∧ Turn F w w' := by
  obtain ⟨a, c, rfl, hc, hcm, hrd, hby⟩ := ho.read
  obtain ⟨h1, h2, rfl⟩ := ho
  refine (markByteS_gen a zs.length c 0 zs q w hq (by omega) (by omega) rfl h1).mono ?_
  rintro e w' ⟨rfl, hown, hg⟩
  refine ⟨rfl, ⟨own_congr hown (marks_length _ _).symm rfl, ?_, rfl⟩, Turn.ofGrown hg (fun k hk => by simp [hk])⟩
  intro z hz
  obtain ⟨j, hj, rfl⟩ := List.mem_iff_getElem.1 hz
  have := marks_getD q zs.length j (by simpa [marks_length] using hj)
  rw [List.getD_eq_getElem?_getD, List.getElem?_eq_getElem hj] at this
  simp only [Option.getD_some] at this
  rw [this]
  omega

theorem heldByteS_o (a : Option Addr) (n c : Nat) (zs : List Int) (q : Int) (w : World) (hn : zs.length = n) (hq : 0 ≤ q) (hq2 : q + n ≤ 70368744177664) (hr : LeafB w.heap.size w a c zs) (hz : zs = marks q n) :
    Calls Tryd.prog 65 #[.slice a n c, .int .i64 q] w fun e w' => e = .returned (.int .i64 (q + n)) ∧ w' = w :=
  heldByteS_yes a n c q w w.heap.size hq (by omega) (by omega) (by rw [← hz]; exact hr.2.2.1)

def rdB (B : Nat) (w : World) (v : Value) (zs : List Int) : Prop := ∃ a c, v = .slice a zs.length c ∧ LeafB B w a c zs
theorem rdB.below {B : Nat} {w w' : World} {v : Value} {zs : List Int} (h : rdB B w v zs) (hb : Below B w w') : rdB B w' v zs := by
  obtain ⟨a, c, e, h1⟩ := h
  exact ⟨a, c, e, h1.below hb⟩
theorem rdB.mono {B B' : Nat} {w : World} {v : Value} {zs : List Int} (h : rdB B w v zs) (hB : B ≤ B') : rdB B' w v zs := by
  obtain ⟨a, c, e, h1⟩ := h
  exact ⟨a, c, e, h1.mono hB⟩
theorem rdB_own {e : TypeId} {w : World} {v : Value} {zs : List Int} {F : List Nat} (h : ownB e w v zs F) : rdB w.heap.size w v zs := h.read

theorem toByteS_r (v : Value) (zs : List Int) (w : World) (hr : rdB w.heap.size w v zs) (hlen : zs.length ≤ 1048576) :
    Calls Tryd.prog 26 #[v] w fun e w' => ∃ (v : Value) (F : List Nat), e = .returned v ∧ ownB 5 w' v zs F ∧ F.Nodup ∧ (∀ b, b ∈ F → w.heap.size ≤ b) ∧ Below w.heap.size w w' := by
  obtain ⟨a, c, rfl, h1⟩ := hr
  exact toByteS_own a _ c zs w rfl h1 hlen

theorem eqByteS_yes_r (v1 v2 : Value) (zs : List Int) (w : World) (h1 : rdB w.heap.size w v1 zs) (h2 : rdB w.heap.size w v2 zs) (hsz : zs.length ≤ 1099511627776) :
    Calls Tryd.prog 28 #[v1, v2] w fun e w' => e = .returned (.bool true) ∧ Below w.heap.size w w' := by
  obtain ⟨a, ca, rfl, ha⟩ := h1
  obtain ⟨b, cb, rfl, hb⟩ := h2
  refine (eqByteS_any a b _ _ ca cb zs zs w w.heap.size rfl rfl (by omega) ha.2.2.1 hb.2.2.1).mono ?_
  rintro e w' ⟨rfl, d, rfl⟩
  exact ⟨by simp, below_drewN (Below.refl _ _) d⟩

theorem markByteS_r (v : Value) (zs : List Int) (F : List Nat) (q : Int) (w : World) (hq : 0 ≤ q) (hq2 : q + zs.length ≤ 70368744177664) (ho : ownB 5 w v zs F) (hN : F.Nodup) :
    Calls Tryd.prog 29 #[v, .int .i64 q] w fun e w' => ∃ (m' : List Int) (q' : Int), e = .returned (.int .i64 q') ∧ q ≤ q' ∧ q' ≤ 70368744177664 ∧ ownB 5 w' v m' F ∧ hdB m' q q' ∧ Turn F w w' := by
  refine (markByteS_o v zs F q w hq hq2 ho).mono ?_
  rintro e w' ⟨rfl, h1, h2⟩
  exact ⟨marks q zs.length, _, rfl, by omega, hq2, h1, ⟨by rw [marks_length], by rw [marks_length]⟩, h2⟩

theorem heldByteS_r (v : Value) (zs : List Int) (q q' : Int) (w : World) (hr : rdB w.heap.size w v zs) (hh : hdB zs q q') (hq : 0 ≤ q) (hq' : q' ≤ 70368744177664) :
    Calls Tryd.prog 65 #[v, .int .i64 q] w fun e w' => e = .returned (.int .i64 q') ∧ Below w.heap.size w w' := by
  obtain ⟨a, c, rfl, h1⟩ := hr
  obtain ⟨h2, rfl⟩ := hh
  refine (heldByteS_o a _ c zs q w rfl hq hq' h1 h2).mono ?_
  rintro e w' ⟨rfl, rfl⟩
  exact ⟨rfl, Below.refl _ _⟩

end Go.Proofs.YtiahmcclmlmgpaaDoor
