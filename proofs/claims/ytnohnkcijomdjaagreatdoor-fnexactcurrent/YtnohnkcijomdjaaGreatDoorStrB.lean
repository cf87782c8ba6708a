/-
  A text's bytes as a new slice: what the conversion makes.
-/
import Derived.Test.YtnohnkcijomdjaaGreatDoorRows
import Derived.Test.YtnohnkcijomdjaaGreatDoorKit
import Derived.Test.YtnohnkcijomdjaaGreatDoorChecked
import Derived.Lib.ConvBytes
namespace Go.Proofs.YtnohnkcijomdjaaGreatDoor
open Go.RowKit
set_option linter.unusedVariables false
set_option linter.unusedSimpArgs false
set_option maxRecDepth 10000

theorem bytesWorld_below (w : World) (e : TypeId) (s : ByteArray) : Below w.heap.size w (Lib.bytesWorld w e s) := by
  refine ⟨?_, ?_, ?_, by rw [Lib.bytesWorld_size]; omega, fun k hk => Lib.bytesWorld_at_old w e s k hk⟩
  all_goals (unfold Lib.bytesWorld World.freeze; rfl)

theorem byteInts_at {s : ByteArray} {j : Nat} (h : j < (byteInts s).length) : ((s.data.toList.getD j 0).toNat : Int) = (byteInts s)[j] := by
  have hj : j < s.data.toList.length := by simpa [byteInts] using h
  rw [List.getD_eq_getElem?_getD, List.getElem?_eq_getElem hj]
  simp [byteInts]

theorem strBytes (s : ByteArray) (w : World) : ∃ (w1 : World) (cap : Nat), (convert 9 60 (.string s)).run Tryz.prog w = .ok (.slice (some ⟨w.heap.size, 0, none⟩) s.size cap) w1 ∧ Below w.heap.size w w1 ∧ w.heap.size < w1.heap.size ∧
    ∀ j, (h : j < (byteInts s).length) → w1.cell? ⟨w.heap.size, j, none⟩ = some (.int .u8 (byteInts s)[j]) := by
  refine ⟨_, _, Lib.run_convert_string_bytes w 9 60 5 s Tryz.underlying9 Tryz.underlying60 Tryz.underlying5, bytesWorld_below w _ s, by rw [Lib.bytesWorld_size]; omega, fun j h => ?_⟩
  rw [Lib.bytesWorld_cell w _ s j (by rw [← byteInts_length]; exact h), byteInts_at h]

theorem byteInts_ok (s : ByteArray) : BytesOk (byteInts s) := by
  intro z hz
  simp only [byteInts, List.mem_map] at hz
  obtain ⟨b, _, rfl⟩ := hz
  have := b.toNat_lt
  omega

/-- The conversion, as a reading. -/
theorem strRd (s : ByteArray) (w : World) : ∃ (w1 : World) (cap : Nat), (convert 9 60 (.string s)).run Tryz.prog w = .ok (.slice (some ⟨w.heap.size, 0, none⟩) s.size cap) w1 ∧ Below w.heap.size w w1 ∧ Rd .u8 w1.heap.size w1 (some ⟨w.heap.size, 0, none⟩) (byteInts s) := by
  obtain ⟨w1, cap, hcv, hb1, hz1, hcl⟩ := strBytes s w
  refine ⟨w1, cap, hcv, hb1, fun j hj => ⟨w.heap.size, 0, rfl, hz1, ?_⟩⟩
  rw [Nat.zero_add, hcl j hj, List.getD_eq_getElem?_getD, List.getElem?_eq_getElem hj]
  rfl

end Go.Proofs.YtnohnkcijomdjaaGreatDoor
