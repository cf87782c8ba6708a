/-
  The first group that is free, and a list of groups without one: the library's IndexFunc and Delete at the program's groups.
-/
import Derived.Test.YtmigamgcmhdncaaDoorGrpI
import Derived.Lib.SliceRun
namespace Go.Proofs.YtmigamgcmhdncaaDoor
open Go.RowKit
set_option linter.unusedVariables false
set_option linter.unusedSimpArgs false
set_option maxRecDepth 10000

/-- All that a group needs is taken. -/
def freeG (t : MSet) (g : MGrp) : Bool := decide ((g.need.less t).x0 = 0 ∧ (g.need.less t).x1 = 0)
theorem word_zero {x : Nat} (h : ∀ k, k < 64 → x.testBit k = false) (hx : x < 18446744073709551616) : x = 0 := by
  apply Nat.eq_of_testBit_eq
  intro k
  rw [Nat.zero_testBit]
  by_cases hk : k < 64
  · exact h k hk
  · have h1 : (18446744073709551616 : Nat) ≤ 2 ^ k := by
      have h2 := Nat.pow_le_pow_right (n := 2) (by decide) (show 64 ≤ k by omega)
      simpa using h2
    exact Nat.testBit_lt_two_pow (Nat.lt_of_lt_of_le hx h1)
theorem freeG_iff {t : MSet} {g : MGrp} (ht : t.ok) (hg : g.need.ok) : freeG t g = true ↔ ∀ j, j < 128 → g.need.has j = true → t.has j = true := by
  unfold freeG
  rw [decide_eq_true_iff]
  have hok := MSet.less_ok (t := t) hg
  constructor
  · rintro ⟨h0, h1⟩ j hj hn
    have hl : (g.need.less t).has j = false := by
      by_cases h : j < 64
      · rw [MSet.has_lo h, h0]; exact Nat.zero_testBit _
      · rw [MSet.has_hi h, h1]; exact Nat.zero_testBit _
    rw [MSet.less_has ht hj, hn, Bool.true_and] at hl
    simpa using hl
  · intro h
    have hz : ∀ j, j < 128 → (g.need.less t).has j = false := fun j hj => by
      rw [MSet.less_has ht hj]
      rcases hn : g.need.has j with _ | _
      · rfl
      · rw [h j hj hn]; rfl
    refine ⟨word_zero (fun k hk => ?_) hok.1, word_zero (fun k hk => ?_) hok.2⟩
    · rw [← MSet.has_lo hk]; exact hz k (by omega)
    · have := hz (k + 64) (by omega)
      rw [MSet.has_hi (by omega)] at this
      simpa using this

theorem eq_word (d : Nat) (x y : Int) (w : World) : (Op.equalIn (d + 1) 64 (.int .u64 x) (.int .u64 y)).run Tryd.prog w = .ok (x == y) w := by
  have hu := Tryd.underlying64
  simp [Op.equalIn, run_underlying hu, Sem.run_pure]
set_option maxHeartbeats 1000000 in
theorem eq_set (x y : Int) (w : World) : (Op.equalIn 10000 66 (.agg #[.int .u64 x, .int .u64 y]) (.agg #[.int .u64 0, .int .u64 0])).run Tryd.prog w = .ok (x == 0 && y == 0) w := by
  obtain ⟨iU, hiU, hz0, hz1, hz2⟩ := info_parts Tryd.infoOfWord
  have h := Tryd.underlying66
  have hsz : ∀ w, (sizeOf 64).run Tryd.prog w = .ok 1 w := fun w => by simp [sizeOf, typeInfo, hiU, hz1]
  have p0 : ∀ (a b : Int) w, (part 64 #[.int .u64 a, .int .u64 b] 0).run Tryd.prog w = .ok (.int .u64 a) w := fun a b w => by simp [part, typeInfo, hiU, hz1, Sem.run_pure, sizeOf]
  have p1 : ∀ (a b : Int) w, (part 64 #[.int .u64 a, .int .u64 b] 1).run Tryd.prog w = .ok (.int .u64 b) w := fun a b w => by simp [part, typeInfo, hiU, hz1, Sem.run_pure, sizeOf]
  have e1 : ∀ (a b : Int) w, (Op.equalIn 9999 64 (.int .u64 a) (.int .u64 b)).run Tryd.prog w = .ok (a == b) w := fun a b w => eq_word 9998 a b w
  show (Op.equalIn (9999 + 1) 66 (.agg #[.int .u64 x, .int .u64 y]) (.agg #[.int .u64 0, .int .u64 0])).run Tryd.prog w = _
  rw [Op.equalIn]
  simp only [Sem.run_bind, run_underlying h, Result.andThen_ok, hsz, Std.Legacy.Range.forIn_eq_forIn_range', Std.Legacy.Range.size, Nat.sub_zero, Nat.add_sub_cancel, Nat.div_one, List.range'_succ, List.range'_zero, List.forIn_cons, List.forIn_nil, Nat.mul_one, Nat.zero_add, p0, p1, e1]
  rcases h0 : (x == 0) with _ | _ <;> rcases h1 : (y == 0) with _ | _ <;> simp [h0, h1, p0, p1, e1, Sem.run_bind, Sem.run_pure]

set_option maxHeartbeats 1000000 in
theorem free_any (g : MGrp) (t : MSet) (bt : Nat) (T : TypeId) (w : World) (hg : g.need.ok) (ht : t.ok) (hb : Bw w bt T t.cells) :
    Calls Tryd.prog 49 #[.agg #[.int .u64 (g.mem.x0 : Int), .int .u64 (g.mem.x1 : Int), .int .u64 (g.need.x0 : Int), .int .u64 (g.need.x1 : Int)], .pointer (some ⟨bt, 0, none⟩)] w fun e w' => e = .returned (.bool (freeG t g)) ∧ Below w.heap.size w w' := by
  obtain ⟨wq, hwq⟩ : ∃ x, x = w.alloc (.cells #[.int .u64 (g.mem.x0 : Int), .int .u64 (g.mem.x1 : Int), .int .u64 (g.need.x0 : Int), .int .u64 (g.need.x1 : Int)] 68) := ⟨_, rfl⟩
  have hbq : Below w.heap.size w wq := by rw [hwq]; exact (Below.refl _ _).alloc (Nat.le_refl _) _
  have hbt := hb.under hbq
  have t0 := hbt.cell 0 _ rfl
  have t1 := hbt.cell 1 _ rfl
  rw [hwq] at t0 t1
  obtain ⟨r, hr⟩ : ∃ r, r = g.need.less t := ⟨_, rfl⟩
  have hC := fun W => without_any g.need t W hg ht
  rw [← hr] at hC
  rw [show g.need.cells.toArray = #[.int .u64 (g.need.x0 : Int), .int .u64 (g.need.x1 : Int)] from rfl, show t.cells.toArray = #[.int .u64 (t.x0 : Int), .int .u64 (t.x1 : Int)] from rfl, show r.cells.toArray = #[.int .u64 (r.x0 : Int), .int .u64 (r.x1 : Int)] from rfl] at hC
  have HV : Hid (freeG t g = (decide (r.x0 = 0) && decide (r.x1 = 0))) := by unfold Hid freeG; rw [← hr]; simp
  clear hr
  go_enter Tryd.func49, Tryd.ntmps49
  go_wp2_with fail
  rw [← hwq]
  clear hwq t0 t1
  refine (hC wq).mono ?_
  rintro e w1 ⟨rfl, hx1⟩
  have hb1 := bthen hbq hx1
  have heq := eq_set (r.x0 : Int) (r.x1 : Int)
  have HB : Hid (((r.x0 : Int) == 0 && (r.x1 : Int) == 0) = freeG t g) := by
    unfold Hid
    rw [HV.out]
    by_cases h0 : r.x0 = 0
    · by_cases h1 : r.x1 = 0
      · rw [h0, h1]; rfl
      · rw [decide_eq_false h1, Bool.and_false, beq_eq_false_iff_ne.2 (show (r.x1 : Int) ≠ 0 by omega), Bool.and_false]
    · rw [decide_eq_false h0, Bool.false_and, beq_eq_false_iff_ne.2 (show (r.x0 : Int) ≠ 0 by omega), Bool.false_and]
  rw [HB.out] at heq
  generalize (r.x0 : Int) = y0 at *
  generalize (r.x1 : Int) = y1 at *
  go_wp2_with fail
  go_ret
  exact ⟨rfl, hb1⟩

set_option maxHeartbeats 1000000 in
theorem indexG_any (a : Option Addr) (n c : Nat) (l : List MGrp) (t : MSet) (bt : Nat) (T : TypeId) (w : World) (hx : l.length = n) (hn : n ≤ 16777216) (hL : LeafL 4 rGrp w.heap.size w a c l) (ht : t.ok) (hb : Bw w bt T t.cells) :
    Calls Tryd.prog 48 #[.slice a n c, .func (.func 49) #[] #[.pointer (some ⟨bt, 0, none⟩)]] w fun e w' => Below w.heap.size w w' ∧
      ((e = .returned (.int .i64 (-1)) ∧ ∀ j, (h : j < l.length) → freeG t l[j] = false) ∨ ∃ i : Nat, e = .returned (.int .i64 i) ∧ ∃ h : i < l.length, freeG t l[i] = true ∧ ∀ j, (h : j < l.length) → j < i → freeG t l[j] = false) := by
  have HX := Hid.mk hx
  have HL := Hid.mk hL
  clear hx hL
  go_enter Tryd.func48, Tryd.ntmps48
  go_wp2_with fail
  go_loopw [8] (fun iv wr => ∃ k : Nat, k ≤ n ∧ iv = .int .i64 k ∧ Hid (∀ j, (h : j < l.length) → j < k → freeG t l[j] = false) ∧ Below w.heap.size w wr) (fun iv _ => n - (intOf iv).toNat)
  case atStart => exact ⟨0, Nat.zero_le _, rfl, Hid.mk (fun j _ hj => by omega), Below.refl _ _⟩
  case round =>
    obtain ⟨k, hk, rfl, HNO, hbk⟩ := hrel
    by_cases hlt : k < n
    · have hkl : k < l.length := by rw [HX.out]; exact hlt
      obtain ⟨b1, o1, rfl, hbB, cs, hcl, hcell, hcs, hom, hon⟩ := (HL.out.2.2.below rGrp_good hbk) k hkl
      subst hcs
      have k0 := hcell 0 _ rfl
      have k1 := hcell 1 _ rfl
      have k2 := hcell 2 _ rfl
      have k3 := hcell 3 _ rfl
      rw [Nat.add_zero] at k0
      obtain ⟨p, hp⟩ : ∃ p, p = l[k] := ⟨_, rfl⟩
      have HPK := Hid.mk hp
      rw [← hp] at k0 k1 k2 k3 hom hon
      clear hcell hcl hp
      have hC := free_any p t bt T wr hon ht (hb.under hbk)
      go_wp2_with fail
      refine hC.mono ?_
      rintro e w1 ⟨rfl, hx1⟩
      have hB1 := hbk.trans (hx1.mono hbk.size)
      rcases hg : freeG t p with _ | _
      · have HN2 : Hid (∀ j, (h : j < l.length) → j < k + 1 → freeG t l[j] = false) := fun j h hj => by
          by_cases hjk : j = k
          · subst hjk; rw [← HPK.out]; exact hg
          · exact HNO.out j h (by omega)
        go_wp2_with fail
        go_roundw
        case rel => exact ⟨k + 1, by omega, by go_num, HN2, hB1⟩
        case measure => simp [intOf]; omega
      · go_wp2_with fail
        go_ret
        exact ⟨hB1, .inr ⟨k, rfl, hkl, by rw [← HPK.out]; exact hg, HNO.out⟩⟩
    · go_wp2_with fail
      go_ret
      exact ⟨hbk, .inl ⟨rfl, fun j h => HNO.out j h (by have := HX.out; omega)⟩⟩

end Go.Proofs.YtmigamgcmhdncaaDoor
