/-
  The exact law of MemGet: at every table and key both answers are the same pair and flag.
-/
import Derived.Test.YtcbhmbgmeodjdaaMemGet
import Derived.Test.YtcbhmbgmeodjdaaPDatE
import Derived.Deep.RegionHeld3
namespace Go.Proofs.Ytcbhmbgmeodjdaa
open Go.RowKit Go.Maps
set_option linter.unusedVariables false
set_option linter.unusedSimpArgs false
set_option maxRecDepth 10000

theorem getP_small {l : List MNode} {s : ByteArray} {B : Nat} (h : ∀ n, n ∈ l → n.fP.fKey.size ≤ B ∧ n.fP.fVal.size ≤ B) : (getP l s).fKey.size ≤ B ∧ (getP l s).fVal.size ≤ B := by
  unfold getP
  cases hf : l.find? fun n => decide (n.fP.fKey = s) with
  | none => exact ⟨Nat.zero_le _, Nat.zero_le _⟩
  | some n => exact h n (List.mem_of_find?_eq_some hf)
theorem mem_sizes {m : MMem} {B : Nat} (h : wMem m ≤ B) : ∀ n, n ∈ m.fNodes → n.fP.fKey.size ≤ B ∧ n.fP.fVal.size ≤ B := by
  intro n hn
  obtain ⟨k, hk, rfl⟩ := List.getElem_of_mem hn
  have h1 := sumW_le (f := wNode) hk
  have h2 : wNode m.fNodes[k] = m.fNodes[k].fP.fKey.size + m.fNodes[k].fP.fVal.size := rfl
  have h3 : wMem m = m.fNodes.length + sumW wNode m.fNodes := rfl
  omega

set_option maxHeartbeats 4000000 in
theorem law_FnExactMemGet (cs0 : List Value) (m0 : MMem) (m1 : ByteArray) (w : World) (hr0 : rMem w.heap.size w cs0 m0) (hs1 : m1.size ≤ 9223372036854775807) :
    Calls Try.prog 8 #[.agg cs0.toArray, .string m1] w fun e w' => e = .returned (.bool true) ∧ Below w.heap.size w w' := by
  have HR := Hid.mk hr0
  obtain ⟨a0, c0, rfl, _⟩ := hr0
  by_cases hbig : 1048576 < m1.size
  · go_enter Try.func8, Try.ntmps8
    go_wp2_with fail
    all_goals
      go_ret
      exact ⟨rfl, (Below.refl _ _).alloc (Nat.le_refl _) _⟩
  go_enter Try.func8, Try.ntmps8
  go_wp2_with fail
  obtain ⟨wq, hwq⟩ : ∃ wq, wq = w.alloc (.cells #[.slice a0 m0.fNodes.length c0] 64) := ⟨_, rfl⟩
  have hbW : Below w.heap.size w wq := by rw [hwq]; exact (Below.refl _ _).alloc (Nat.le_refl _) _
  have hbx : Bx wq w.heap.size [.slice a0 m0.fNodes.length c0] := by rw [hwq]; exact Bx.new _ _ _
  rw [← hwq]
  clear hwq
  refine (szMem_any _ m0 1048576 wq (by omega) (by omega) (rMem_good.mono (rMem_good.below HR.out hbW) hbW.size)).mono ?_
  rintro e w1 ⟨rfl, hx1⟩
  have hb1 := bthen hbW hx1
  have hbx1 := hbx.under hx1
  clear hbx
  by_cases hw : ((wMem m0 : Nat) : Int) ≤ 1048576
  rotate_left
  · rw [szRes_no hw]
    go_wp2_with fail
    go_ret
    exact ⟨rfl, hb1⟩
  rw [szRes_yes hw]
  have hwm : wMem m0 ≤ 1048576 := by omega
  have y0 := hbx1.2 0 _ rfl
  obtain ⟨G, hG⟩ : ∃ G, G = getP m0.fNodes m1 := ⟨_, rfl⟩
  obtain ⟨hk, hhk⟩ : ∃ hk, hk = hasKey m0.fNodes m1 := ⟨_, rfl⟩
  have hsm := getP_small (s := m1) (mem_sizes hwm)
  rw [← hG] at hsm
  have hrG : ∀ W : World, rPair W.heap.size W [.string G.fKey, .string G.fVal, .bool G.fGone] G := fun W => ⟨rfl, by omega, by omega, trivial, trivial⟩
  have HRG := Hid.mk hrG
  have hwG : wPair G ≤ 1099511627776 := by have : wPair G = G.fKey.size + G.fVal.size := rfl; omega
  have HG := Hid.mk hG
  have HHK := Hid.mk hhk
  clear hrG hG hhk hsm
  go_wp2_with fail
  refine (toMem_any _ m0 w1 (rMem_good.mono (rMem_good.below HR.out hb1) hb1.size) hwm).mono ?_
  rintro e w2 ⟨cs2, F2, rfl, ho2, _, _, hx2⟩
  have hr2 := oMem_good.read ho2
  obtain ⟨a2, c2, rfl, _⟩ := id hr2
  go_wp2_with fail
  refine (specMemGet_c _ m0 m1 w2 hr2 hs1 hwm (by omega)).mono ?_
  rintro e w3 ⟨rfl, hx3⟩
  rw [← HG.out, ← HHK.out]
  have hb3 := bthen (bthen hb1 hx2) hx3
  have hbx3 := (hbx1.under hx2).under hx3
  have z0 := hbx3.2 0 _ rfl
  clear y0 hr2 ho2 hbx1
  have hlx3 := hbx3.1
  go_wp2_with fail
  obtain ⟨w4, hw4⟩ : ∃ w4, w4 = w3.alloc (.cells #[.string G.fKey, .string G.fVal, .bool G.fGone] 59) := ⟨_, rfl⟩
  have hx4 : Below w3.heap.size w3 w4 := by rw [hw4]; exact (Below.refl _ _).alloc (Nat.le_refl _) _
  have hbp4 : Bx w4 w3.heap.size [.string G.fKey, .string G.fVal, .bool G.fGone] := by rw [hw4]; exact Bx.new _ _ _
  have hbx4 := hbx3.under hx4
  have hb4 := bthen hb3 hx4
  rw [← hw4]
  clear hw4 z0 hbx3
  refine (toMem_any _ m0 w4 (rMem_good.mono (rMem_good.below HR.out hb4) hb4.size) hwm).mono ?_
  rintro e w5 ⟨cs5, F5, rfl, ho5, _, _, hx5⟩
  have hr5 := oMem_good.read ho5
  have HR5 := Hid.mk hr5
  obtain ⟨a5, c5, rfl, _⟩ := id hr5
  have hb5 := bthen hb4 hx5
  have hbx5 := hbx4.under hx5
  have hbp5 := hbp4.under hx5
  have hl5 := hbx5.1
  have hl5p := hbp5.1
  clear hbx4 hbp4 hr5 ho5
  go_wp2_with fail
  obtain ⟨w6, hw6⟩ : ∃ w6, w6 = w5.alloc (.cells #[.slice a5 m0.fNodes.length c5] 70) := ⟨_, rfl⟩
  have hx6 : Below w5.heap.size w5 w6 := by rw [hw6]; exact (Below.refl _ _).alloc (Nat.le_refl _) _
  have hbm6 : Bx w6 w5.heap.size [.slice a5 m0.fNodes.length c5] := by rw [hw6]; exact Bx.new _ _ _
  have hb6 := bthen hb5 hx6
  have hbx6 := hbx5.under hx6
  have hbp6 := hbp5.under hx6
  rw [← hw6]
  clear hw6 hbx5 hbp5
  refine (implMemGet_c _ m0 m1 w6 (rMem_good.mono (rMem_good.below HR5.out hx6) hx6.size) hs1 hwm (by omega)).mono ?_
  rintro e w7 ⟨rfl, hx7⟩
  rw [← HG.out, ← HHK.out]
  have hx67 := bthen hx6 hx7
  have hb7 := bthen hb6 hx7
  have hbx7 := hbx6.under hx7
  have hbp7 := hbp6.under hx7
  have hbm7 := hbm6.under hx7
  have p0 := hbp7.2 0 _ rfl
  have p1 := hbp7.2 1 _ rfl
  have p2 := hbp7.2 2 _ rfl
  have hl7 := hbx7.1
  have hl7p := hbp7.1
  have hl7m := hbm7.1
  clear hbx6 hbp6 hbm6
  go_wp2_with fail
  obtain ⟨w8, hw8⟩ : ∃ w8, w8 = w7.alloc (.cells #[.string G.fKey, .string G.fVal, .bool G.fGone] 59) := ⟨_, rfl⟩
  have hx8 : Below w7.heap.size w7 w8 := by rw [hw8]; exact (Below.refl _ _).alloc (Nat.le_refl _) _
  have hb8 := bthen hb7 hx8
  have hx68 := bthen hx67 hx8
  have hbx8 := hbx7.under hx8
  have hbm8 := hbm7.under hx8
  rw [← hw8]
  clear hw8 p0 p1 p2 hbx7 hbm7 hbp7
  refine (eqPair_yes _ _ G w8 (HRG.out w8) (HRG.out w8) hwG).mono ?_
  rintro e w9 ⟨rfl, hx9⟩
  have hb9 := bthen hb8 hx9
  have hx69 := bthen hx68 hx9
  have hbx9 := hbx8.under hx9
  have hbm9 := hbm8.under hx9
  have q0 : ∀ W', Below w9.heap.size w9 W' → W'.cell? ⟨w.heap.size, 0, none⟩ = some (.slice a0 m0.fNodes.length c0) := fun W' hb => (hbx9.under hb).2 0 _ rfl
  have q1 : ∀ W', Below w9.heap.size w9 W' → W'.cell? ⟨w5.heap.size, 0, none⟩ = some (.slice a5 m0.fNodes.length c5) := fun W' hb => (hbm9.under hb).2 0 _ rfl
  have hl9 := hbx9.1
  have hl9m := hbm9.1
  clear hbx8 hbm8
  have hCt := fun W' (hb : Below w9.heap.size w9 W') => toMem_any _ m0 W' (rMem_good.mono (rMem_good.below HR.out (bthen hb9 hb)) (bthen hb9 hb).size) hwm
  have hCe := fun W' W2 (cs2 : List Value) (F2 : List Nat) (hb : Below w9.heap.size w9 W') (hb2 : Below W'.heap.size W' W2) (ho2 : oMem W2 cs2 m0 F2) => eqMem_yes [.slice a5 m0.fNodes.length c5] cs2 m0 W2 (rMem_good.mono (rMem_good.below HR5.out (bthen (bthen hx69 hb) hb2)) (bthen (bthen hx69 hb) hb2).size) (oMem_good.read ho2) (by omega)
  have hnb : (hk != hk) = false := by simp
  go_wp2_with fail
  refine wp_region_held_drew (S := fun W' => Below w9.heap.size w9 W') (by kernel_rfl) (Below.drew (Below.refl _ _)) (fun hHeld => ?_)
  refine wpAnyH_take (i := 0) (oi := ⟨some 43, .load 70 (.tmp 8), 70, "exact.go:3330", #[], none⟩) (v := ?v1) rfl (by kernel_rfl) (by kernel_rfl) (by kernel_rfl) (fun _ _ _ h => h) (Or.inl ⟨by rfl, ?hy1⟩) (by assumption) ?rest1
  case hy1 => (intro w hSw; (try dsimp only at hSw); go_simp; try (with_reducible rfl))
  try simp only [Act.put, List.setIfInBounds_toArray, List.set_cons_zero, List.set_cons_succ]
  refine wpAnyH_take (i := 1) (oi := ⟨some 44, .load 64 (.tmp 2), 64, "exact.go:3330", #[], none⟩) (v := ?v2) rfl (by kernel_rfl) (by kernel_rfl) (by kernel_rfl) (fun _ _ _ h => h) (Or.inl ⟨by rfl, ?hy2⟩) (by assumption) ?rest2
  case hy2 => (intro w hSw; (try dsimp only at hSw); go_simp; try (with_reducible rfl))
  try simp only [Act.put, List.setIfInBounds_toArray, List.set_cons_zero, List.set_cons_succ]
  refine wpAnyH_ready (rs := [2]) (by kernel_rfl) (by simp) ?_
  refine AllReadyH.cons (o := ⟨some 45, .call { callee := .value (.func 38), args := #[.tmp 44], argTypes := #[64] }, 70, "exact.go:3330", #[⟨1, .data⟩], none⟩) rfl (fun K hK => ?_) AllReadyH.nil
  go_simp
  refine Calls.mono (hCt _ hHeld) ?_
  rintro e wy1 ⟨csy, Fy, rfl, hoy, _, _, hy1⟩
  have hCe2 := hCe _ _ _ _ hHeld hy1 hoy
  obtain ⟨ay, cy, rfl, _⟩ := id (oMem_good.read hoy)
  go_wp2_with fail
  refine hK.out _ _ (bthen hHeld hy1) (fun hHeld => ?_)
  clear hK K
  try simp only [Act.put, List.setIfInBounds_toArray, List.set_cons_zero, List.set_cons_succ]
  refine wpAnyH_ready (rs := [3]) (by kernel_rfl) (by simp) ?_
  refine AllReadyH.cons (o := ⟨some 46, .call { callee := .value (.func 41), args := #[.tmp 43, .tmp 45], argTypes := #[70, 70] }, 4, "exact.go:3330", #[⟨0, .data⟩, ⟨2, .data⟩, ⟨2, .chain⟩], none⟩) rfl (fun K hK => ?_) AllReadyH.nil
  go_simp
  refine Calls.mono hCe2 ?_
  rintro e wy2 ⟨rfl, hy2⟩
  go_wp2_with fail
  refine hK.out _ _ (bthen hHeld hy2) (fun hHeld => ?_)
  clear hK K
  try simp only [Act.put, List.setIfInBounds_toArray, List.set_cons_zero, List.set_cons_succ]
  refine wpAnyH_take (i := 4) (oi := ⟨some 47, .unOp .not 4 (.tmp 46), 4, "exact.go:3330", #[⟨3, .data⟩], none⟩) (v := ?v3) rfl (by kernel_rfl) (by kernel_rfl) (by kernel_rfl) (fun _ _ _ h => h) (Or.inl ⟨by rfl, ?hy3⟩) (by assumption) ?rest3
  case hy3 => (intro w hSw; (try dsimp only at hSw); go_simp; try (with_reducible rfl))
  try simp only [Act.put, List.setIfInBounds_toArray, List.set_cons_zero, List.set_cons_succ]
  refine wpAnyH_done (by kernel_rfl) ?_ _
  go_wp2_with fail
  go_ret
  exact ⟨rfl, bthen hb9 hHeld⟩

end Go.Proofs.Ytcbhmbgmeodjdaa
