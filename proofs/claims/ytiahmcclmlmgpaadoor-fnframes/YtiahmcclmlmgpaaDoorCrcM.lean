/-
  The sum tells one byte that is changed: its step is one to one; no program is named here.
-/
import Derived.Test.YtiahmcclmlmgpaaDoorSum
namespace Go.Proofs.YtiahmcclmlmgpaaDoor
open Go.RowKit
set_option linter.unusedVariables false
set_option linter.unusedSimpArgs false

theorem xor_zero_eq {a b : Nat} (h : a ^^^ b = 0) : a = b := by
  have h2 : (a ^^^ b) ^^^ b = 0 ^^^ b := by rw [h]
  rw [Nat.xor_assoc, Nat.xor_self, Nat.xor_zero, Nat.zero_xor] at h2
  exact h2
theorem stN_zero {x : Nat} (hx : x < 4294967296) (h : stN x = 0) : x = 0 := by
  unfold stN at h
  by_cases ho : x % 2 = 1
  · rw [if_pos ho] at h
    have := xor_zero_eq h
    omega
  · rw [if_neg ho, Nat.xor_zero] at h
    omega
theorem stN_inj {a b : Nat} (ha : a < 4294967296) (hb : b < 4294967296) (h : stN a = stN b) : a = b := by
  have h1 : stN (a ^^^ b) = 0 := by rw [stN_xor, h, Nat.xor_self]
  exact xor_zero_eq (stN_zero (Nat.xor_lt_two_pow (n := 32) (by omega) (by omega)) h1)
theorem stI_inj {a b : Int} (a0 : 0 ≤ a) (a1 : a < 4294967296) (b0 : 0 ≤ b) (b1 : b < 4294967296) (h : stI a = stI b) : a = b := by
  obtain ⟨a, rfl⟩ := Int.eq_ofNat_of_zero_le a0
  obtain ⟨b, rfl⟩ := Int.eq_ofNat_of_zero_le b0
  rw [stI_cast, stI_cast] at h
  have := stN_inj (a := a) (b := b) (by omega) (by omega) (by omega)
  rw [this]
theorem itI_inj (k : Nat) {a b : Int} (a0 : 0 ≤ a) (a1 : a < 4294967296) (b0 : 0 ≤ b) (b1 : b < 4294967296) (h : itI k a = itI k b) : a = b := by
  induction k with
  | zero => exact h
  | succ k ih =>
    have ha := itI_bd k a0 a1
    have hb := itI_bd k b0 b1
    exact ih (stI_inj ha.1 ha.2 hb.1 hb.2 h)
theorem xr_left {a b c : Int} (a0 : 0 ≤ a) (b0 : 0 ≤ b) (h : xr a c = xr b c) : a = b := by
  unfold xr at h
  have h1 : a.toNat ^^^ c.toNat = b.toNat ^^^ c.toNat := by omega
  have h2 : (a.toNat ^^^ c.toNat) ^^^ c.toNat = (b.toNat ^^^ c.toNat) ^^^ c.toNat := by rw [h1]
  rw [Nat.xor_assoc, Nat.xor_assoc, Nat.xor_self, Nat.xor_zero, Nat.xor_zero] at h2
  omega
theorem xr_right {a b c : Int} (a0 : 0 ≤ a) (b0 : 0 ≤ b) (h : xr c a = xr c b) : a = b := by
  refine xr_left (c := c) a0 b0 ?_
  unfold xr at h ⊢
  rw [Nat.xor_comm a.toNat, Nat.xor_comm b.toNat]
  exact h
theorem byI_left {x y c : Int} (x0 : 0 ≤ x) (x1 : x < 4294967296) (y0 : 0 ≤ y) (y1 : y < 4294967296) (c1 : c < 4294967296) (h : byI x c = byI y c) : x = y := by
  have hx := xr_lt x1 c1
  have hy := xr_lt y1 c1
  exact xr_left x0 y0 (itI_inj 8 hx.1 hx.2 hy.1 hy.2 h)
theorem byI_right {x c d : Int} (x1 : x < 4294967296) (c0 : 0 ≤ c) (c1 : c < 4294967296) (d0 : 0 ≤ d) (d1 : d < 4294967296) (h : byI x c = byI x d) : c = d := by
  have hc := xr_lt x1 c1
  have hd := xr_lt x1 d1
  exact xr_right c0 d0 (itI_inj 8 hc.1 hc.2 hd.1 hd.2 h)
theorem foldl_inj : ∀ (t : List Int), BytesOk t → ∀ {x y : Int}, 0 ≤ x → x < 4294967296 → 0 ≤ y → y < 4294967296 → t.foldl byI x = t.foldl byI y → x = y
  | [], _, x, y, _, _, _, _, h => h
  | c :: t, hb, x, y, x0, x1, y0, y1, h => by
    have hc := hb c (by simp)
    have hx := itI_bd 8 (xr_lt x1 (show c < 4294967296 by omega)).1 (xr_lt x1 (show c < 4294967296 by omega)).2
    have hy := itI_bd 8 (xr_lt y1 (show c < 4294967296 by omega)).1 (xr_lt y1 (show c < 4294967296 by omega)).2
    have := foldl_inj t (fun z hz => hb z (by simp [hz])) hx.1 hx.2 hy.1 hy.2 h
    exact byI_left x0 x1 y0 y1 (by omega) this
/-- One byte that is another: another sum. -/
theorem crc_ne {p t : List Int} {c d : Int} (hp : BytesOk p) (ht : BytesOk t) (hc : 0 ≤ c ∧ c ≤ 255) (hd : 0 ≤ d ∧ d ≤ 255) (hne : c ≠ d) : crc (p ++ c :: t) ≠ crc (p ++ d :: t) := by
  intro h
  have hcb : BytesOk (p ++ c :: t) := fun z hz => by
    rcases List.mem_append.1 hz with h1 | h1
    · exact hp z h1
    · rcases List.mem_cons.1 h1 with h2 | h2
      · rw [h2]; exact hc
      · exact ht z h2
  have hdb : BytesOk (p ++ d :: t) := fun z hz => by
    rcases List.mem_append.1 hz with h1 | h1
    · exact hp z h1
    · rcases List.mem_cons.1 h1 with h2 | h2
      · rw [h2]; exact hd
      · exact ht z h2
  have h1 := xr_left (runI_bd hcb).1 (runI_bd hdb).1 h
  unfold runI at h1
  rw [List.foldl_append, List.foldl_append, List.foldl_cons, List.foldl_cons] at h1
  have hx := runI_bd hp
  unfold runI at hx
  have hxc := itI_bd 8 (xr_lt hx.2 (show c < 4294967296 by omega)).1 (xr_lt hx.2 (show c < 4294967296 by omega)).2
  have hxd := itI_bd 8 (xr_lt hx.2 (show d < 4294967296 by omega)).1 (xr_lt hx.2 (show d < 4294967296 by omega)).2
  have h2 := foldl_inj t ht hxc.1 hxc.2 hxd.1 hxd.2 h1
  exact hne (byI_right hx.2 hc.1 (by omega) hd.1 (by omega) h2)

end Go.Proofs.YtiahmcclmlmgpaaDoor
