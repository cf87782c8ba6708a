/-
  Small facts on slices of integers that are read, and on memory that a call owns; no program is named here.
-/
import Derived.WalkKit
import Derived.WalkSpells
import Derived.WalkLawsBesides
import Derived.Deep.QuietTactic
import Derived.BigQuiet
import Derived.OpenShut
namespace Go.Proofs.YtnohnkcijomdjaaGreatDoor
open Go.RowKit

/-- The numbers that a slice's cells hold, all of them below block number B. -/
def Rd (k : IntKind) (B : Nat) (w : World) (a : Option Addr) (zs : List Int) : Prop :=
  ∀ j, j < zs.length → ∃ b off, a = some ⟨b, off, none⟩ ∧ b < B ∧ w.cell? ⟨b, off + j, none⟩ = some (.int k (zs.getD j 0))

theorem Rd.below {k : IntKind} {B : Nat} {w w' : World} {a : Option Addr} {zs : List Int} (h : Rd k B w a zs) (hb : Below B w w') : Rd k B w' a zs := by
  intro j hj
  obtain ⟨b, off, e, hlt, hc⟩ := h j hj
  exact ⟨b, off, e, hlt, (hb.cell (p := ⟨b, off + j, none⟩) hlt).trans hc⟩

theorem Rd.mono {k : IntKind} {B B' : Nat} {w : World} {a : Option Addr} {zs : List Int} (h : Rd k B w a zs) (hB : B ≤ B') : Rd k B' w a zs := by
  intro j hj
  obtain ⟨b, off, e, hlt, hc⟩ := h j hj
  exact ⟨b, off, e, by omega, hc⟩

/-- What is owned can be read. -/
theorem Rd.own {k : IntKind} {w : World} {base e g cap n : Nat} {zs : List Int} (hn : zs.length = n)
    (h : w.ownsRow base e 1 (.slice (some ⟨g, 0, none⟩) n cap) n (zs.map (Value.int k))) : Rd k w.heap.size w (some ⟨g, 0, none⟩) zs := by
  intro j hj
  refine ⟨g, 0, rfl, (h.lt g rfl).2, ?_⟩
  have := h.cellAt j (by omega)
  rw [Nat.zero_add, this]
  simp [hj]

/-- What markByteS lays down: the numbers from k on, as bytes. -/
def marks (k : Int) : Nat → List Int
  | 0 => []
  | n + 1 => k % 256 :: marks (k + 1) n

theorem marks_length (k : Int) (n : Nat) : (marks k n).length = n := by
  induction n generalizing k with
  | zero => rfl
  | succ n ih => simp [marks, ih]

theorem grown_trans {a b c : World} {r : Option Nat} (h : a.grownBy b r) (k : b.grownBy c r) : a.grownBy c r :=
  ⟨k.os.trans h.os, k.tape.trans h.tape, k.output.trans h.output, Nat.le_trans h.size k.size, fun i hi hne => (k.block i (Nat.lt_of_lt_of_le hi h.size) hne).trans (h.block i hi hne)⟩

def BytesOk (zs : List Int) : Prop := ∀ z, z ∈ zs → 0 ≤ z ∧ z ≤ 255

theorem Hid.mk {p : Prop} (h : p) : Hid p := h

theorem own_congr {w : World} {base e size : Nat} {v : Value} {n n' : Nat} {xs ys : List Value} (h : w.ownsRow base e size v n xs) (hn : n = n') (hx : xs = ys) : w.ownsRow base e size v n' ys := by
  subst hn
  subst hx
  exact h

theorem own_base {w : World} {base base' e size : Nat} {v : Value} {n : Nat} {xs : List Value} (h : w.ownsRow base e size v n xs) (hb : base' ≤ base) : w.ownsRow base' e size v n xs := by
  refine ⟨h.1, ?_⟩
  rcases h.2 with h' | ⟨g, cap, cur, rfl, hg, rest⟩
  · exact .inl h'
  · exact .inr ⟨g, cap, cur, rfl, by omega, rest⟩

/-- One number laid in a new block. -/
theorem rd_one (k : IntKind) (w : World) (x : Int) (t : TypeId) : Rd k (w.heap.size + 1) (w.alloc (.cells #[.int k x] t)) (some ⟨w.heap.size, 0, none⟩) [x] := by
  intro j hj
  simp only [List.length_cons, List.length_nil] at hj
  have hj0 : j = 0 := by omega
  subst hj0
  exact ⟨w.heap.size, 0, rfl, by omega, by simp⟩

/-- What is owned, and not empty, is a slice with an address. -/
theorem own_shape {w : World} {base e n : Nat} {v : Value} {xs : List Value} (h : w.ownsRow base e 1 v n xs) (hn : 0 < n) : ∃ g cap, v = .slice (some ⟨g, 0, none⟩) n cap ∧ n ≤ cap ∧ base ≤ g ∧ g < w.heap.size := by
  rcases h.2 with ⟨_, h'⟩ | ⟨g, cap, cur, rfl, hb, hg, hnc, _⟩
  · omega
  · exact ⟨g, cap, rfl, hnc, hb, (h.lt g rfl).2⟩

theorem own_rd {k : IntKind} {w : World} {base e n : Nat} {v : Value} {zs : List Int} (hn : zs.length = n) (h : w.ownsRow base e 1 v n (zs.map (Value.int k))) :
    ∃ a c, v = .slice a n c ∧ n ≤ c ∧ Rd k w.heap.size w a zs := by
  rcases h.2 with ⟨rfl, h'⟩ | ⟨g, cap, cur, rfl, hb, hg, hnc, _⟩
  · subst h'
    exact ⟨none, 0, rfl, Nat.le_refl _, fun j hj => by omega⟩
  · exact ⟨_, cap, rfl, hnc, Rd.own hn h⟩

/-- What is owned stays so while a call makes new memory alone. -/
theorem own_below {w w' : World} {base e size n : Nat} {v : Value} {xs : List Value} (h : w.ownsRow base e size v n xs) (hb : Below w.heap.size w w') : w'.ownsRow base e size v n xs := by
  refine ⟨h.1, ?_⟩
  rcases h.2 with h' | ⟨g, cap, cur, rfl, hg, hh, rest⟩
  · exact .inl h'
  · exact .inr ⟨g, cap, cur, rfl, hg, by rw [hb.block g (h.lt g rfl).2]; exact hh, rest⟩

theorem Rd.grown {k : IntKind} {B : Nat} {w w' : World} {r : Option Nat} {a : Option Addr} {zs : List Int} (h : Rd k B w a zs) (hg : w.grownBy w' r) (hr : ∀ i, r = some i → B ≤ i) : Rd k B w' a zs := by
  intro j hj
  obtain ⟨b, off, e, hlt, hc⟩ := h j hj
  exact ⟨b, off, e, hlt, hg.cell hc (fun e => by have := hr b e.symm; omega)⟩

/-- A text's bytes. -/
def byteInts (s : ByteArray) : List Int := s.data.toList.map fun b => (b.toNat : Int)
theorem byteInts_length (s : ByteArray) : (byteInts s).length = s.size := by simp [byteInts]

end Go.Proofs.YtnohnkcijomdjaaGreatDoor
