/-
  What a graph reads as stands when a graph's box is written: no item lies in it, by its cells' kinds.
-/
import Derived.Test.YtjcfpedljccboaaGraX
namespace Go.Proofs.Ytjcfpedljccboaa
open Go.RowKit
set_option linter.unusedVariables false

theorem bw_int {w : World} {g t i : Nat} {z : Int} (h : Bw w g t [.slice none 0 0]) (hc : w.cell? ⟨g, i, none⟩ = some (.int .i64 z)) : False := by
  have h1 := h.bx
  rw [cell_of_row w g i _ t (0, 0) h] at hc
  cases i with
  | zero => simp at hc
  | succ i => simp at hc
theorem RdS_turn {α : Type} {size : Nat} {R R' : Rep α} {B : Nat} {w w' : World} {g t : Nat} {a : Option Addr} {l : List α} (hx : Bw w g t [.slice none 0 0]) (hT : Turn [g] w w') (hB : B ≤ w.heap.size)
    (hk : ∀ cs m, R B w cs m → (∃ z, cs[0]? = some (Value.int .i64 z)) ∧ R B w' cs m) (h : RdS size R B w a l) : RdS size R B w' a l := by
  intro j hj
  obtain ⟨b, o, rfl, hb, cs, h1, h2, h3⟩ := h j hj
  obtain ⟨⟨z, hz⟩, h4⟩ := hk cs _ h3
  have hne : b ≠ g := fun he => by subst he; exact bw_int hx (h2 0 _ hz)
  refine ⟨b, o, rfl, hb, cs, h1, fun i u hu => ?_, h4⟩
  rw [hT.cell (p := ⟨b, o + j * size + i, none⟩) (show b < _ by omega) (show b ∉ [g] by simpa using hne)]
  exact h2 i u hu
theorem rGraph_turn {w w' : World} {g t B : Nat} {cs : List Value} {m : MGraph} (hx : Bw w g t [.slice none 0 0]) (hT : Turn [g] w w') (hB : B ≤ w.heap.size) (hr : rGraph B w cs m) : rGraph B w' cs m := by
  obtain ⟨a, c, rfl, ⟨h1, h2, h3⟩, _⟩ := hr
  refine ⟨a, c, rfl, ⟨h1, h2, RdS_turn (R' := rItem) hx hT hB (fun cs m hm => ?_) h3⟩, trivial⟩
  obtain ⟨a2, c2, rfl, g0, g1, ⟨k1, k2, k3⟩, _⟩ := hm
  refine ⟨⟨_, rfl⟩, a2, c2, rfl, g0, g1, ⟨k1, k2, RdS_turn (R' := rDot) hx hT hB (fun cs m hm => ?_) k3⟩, trivial⟩
  obtain ⟨rfl, d0, d1, _⟩ := hm
  exact ⟨⟨_, rfl⟩, rfl, d0, d1, trivial⟩

end Go.Proofs.Ytjcfpedljccboaa
