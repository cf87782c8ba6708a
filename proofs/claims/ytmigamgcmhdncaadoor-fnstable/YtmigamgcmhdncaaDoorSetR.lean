/-
  The places that are reached from one and reach it: the program's ringOf.
-/
import Derived.Test.YtmigamgcmhdncaaDoorSetA
namespace Go.Proofs.YtmigamgcmhdncaaDoor
open Go.RowKit
set_option linter.unusedVariables false
set_option linter.unusedSimpArgs false
set_option maxRecDepth 10000

def rSet : Rep MSet := fun B w cs s => cs = s.cells ∧ s.ok
theorem rSet_good : rSet.Good := ⟨fun h _ => h, fun h _ => h⟩
def hasAt (ss : List MSet) (j p : Nat) : Bool := match ss[j]? with | none => false | some s => s.has p
theorem hasAt_at {ss : List MSet} {j p : Nat} (h : j < ss.length) : hasAt ss j p = ss[j].has p := by unfold hasAt; rw [List.getElem?_eq_getElem h]
def ringHas (ss : List MSet) (p k j : Nat) : Bool := decide (j = p) || (decide (j < k) && (hasAt ss j p && hasAt ss p j))
theorem ringHas_zero (ss : List MSet) (p j : Nat) : ringHas ss p 0 j = decide (j = p) := by unfold ringHas; simp
theorem ringHas_no {ss : List MSet} {p k j : Nat} (h : (hasAt ss k p && hasAt ss p k) = false) : ringHas ss p (k + 1) j = ringHas ss p k j := by
  unfold ringHas
  by_cases hj : j = k
  · subst hj; rw [h]; simp
  · have e : decide (j < k + 1) = decide (j < k) := decide_eq_decide.2 (by omega)
    rw [e]
theorem ringHas_yes {ss : List MSet} {p k j : Nat} (h : (hasAt ss k p && hasAt ss p k) = true) : ringHas ss p (k + 1) j = (ringHas ss p k j || decide (j = k)) := by
  unfold ringHas
  by_cases hj : j = k
  · subst hj; rw [h]; simp
  · have e : decide (j < k + 1) = decide (j < k) := decide_eq_decide.2 (by omega)
    rw [e, decide_eq_false hj, Bool.or_false]

set_option maxHeartbeats 4000000 in
theorem ringOf_any (a : Option Addr) (n cap p : Nat) (ss : List MSet) (w : World) (hx : ss.length = n) (hn : n ≤ 100) (hp : p < n) (hr : LeafL 2 rSet w.heap.size w a cap ss) :
    Calls Tryd.prog 68 #[.slice a n cap, .int .i64 p] w fun e w' => ∃ s : MSet, e = .returned (.agg s.cells.toArray) ∧ s.ok ∧ (∀ j, j < 128 → s.has j = ringHas ss p n j) ∧ Below w.heap.size w w' := by
  have HX := Hid.mk hx
  have HL := Hid.mk hr
  clear hx hr
  go_enter Tryd.func68, Tryd.ntmps68
  go_wp2_with fail
  obtain ⟨w1, hw1⟩ : ∃ x, x = (w.alloc (.cells #[.int .u64 0, .int .u64 0] 66)).alloc (.cells #[.int .u64 0, .int .u64 0] 66) := ⟨_, rfl⟩
  have hb01 : Below w.heap.size w w1 := by rw [hw1]; exact ((Below.refl _ _).alloc (Nat.le_refl _) _).alloc (by simp) _
  have hR1 : Bw w1 w.heap.size 66 [.int .u64 0, .int .u64 0] := by rw [hw1]; exact (Bw.new _ _ _).alloc _
  have hO1 : Bw w1 (w.heap.size + 1) 66 [.int .u64 ((0 : Nat) : Int), .int .u64 ((0 : Nat) : Int)] := by rw [hw1]; exact Bw.new' _ _ _ (by simp)
  rw [← hw1]
  clear hw1
  refine (add_any (w.heap.size + 1) 0 p 66 _ ⟨0, 0⟩ w1 ⟨by decide, by decide⟩ (by omega) hO1 rfl rfl).mono ?_
  rintro e w2 ⟨rfl, hO2, hT2⟩
  have hb02 : Below w.heap.size w w2 := hb01.trans (hT2.below (fun x hx => by simp at hx; omega) hb01.size)
  have hR2 := hR1.turn hT2 (by simp)
  obtain ⟨s2, hs2⟩ : ∃ s : MSet, s = MSet.add ⟨0, 0⟩ p := ⟨_, rfl⟩
  have HS0 : Hid (s2.ok ∧ (∀ j, j < 128 → s2.has j = ringHas ss p 0 j) ∧ Bw w2 (w.heap.size + 1) 66 s2.cells) := by
    refine ⟨by rw [hs2]; exact MSet.add_ok ⟨by decide, by decide⟩ (by omega), fun j hj => ?_, by rw [hs2]; exact hO2⟩
    rw [hs2, MSet.add_has (by omega) hj, ringHas_zero]
    have e0 : MSet.has ⟨0, 0⟩ j = false := by unfold MSet.has; cases decide (j < 64) <;> exact Nat.zero_testBit _
    rw [e0, Bool.false_or]
  clear hO2 hT2 hO1 hR1
  go_wp2_with fail
  go_loopw [12] (fun iv wr => ∃ (k : Nat) (s : MSet), k ≤ n ∧ iv = .int .i64 k ∧ Hid (s.ok ∧ (∀ j, j < 128 → s.has j = ringHas ss p k j) ∧ Bw wr (w.heap.size + 1) 66 s.cells) ∧ Bw wr w.heap.size 66 [.int .u64 0, .int .u64 0] ∧ Below w.heap.size w wr) (fun iv _ => n - (intOf iv).toNat)
  case atStart => exact ⟨0, s2, Nat.zero_le _, rfl, HS0, hR2, hb02⟩
  case round =>
    obtain ⟨k, s, hk, rfl, HS, hRk, hbk⟩ := hrel
    have hlO := HS.out.2.2.lt
    by_cases hlt : k < n
    · have hkl : k < ss.length := by rw [HX.out]; exact hlt
      have hpl : p < ss.length := by rw [HX.out]; exact hp
      obtain ⟨b1, o1, rfl, hB, cs, hcl, hcell, hcs, hsk⟩ := (HL.out.2.2.below rSet_good hbk) k hkl
      obtain ⟨b1', o1', he1, _, cs', hcl', hcell', hcs', hsp⟩ := (HL.out.2.2.below rSet_good hbk) p hpl
      simp only [Option.some.injEq, Addr.mk.injEq, and_true] at he1
      obtain ⟨rfl, rfl⟩ := he1
      have hak := hasAt_at (p := p) hkl
      have hap := hasAt_at (p := k) hpl
      have HNO : Hid ((hasAt ss k p && hasAt ss p k) = false → ∀ j, ringHas ss p (k + 1) j = ringHas ss p k j) := fun h j => ringHas_no h
      have HYE : Hid ((hasAt ss k p && hasAt ss p k) = true → ∀ j, ringHas ss p (k + 1) j = (ringHas ss p k j || decide (j = k))) := fun h j => ringHas_yes h
      generalize ss[k] = sk at *
      generalize ss[p] = sp at *
      subst hcs hcs'
      have k0 := hcell 0 _ rfl
      have k1 := hcell 1 _ rfl
      have q0 := hcell' 0 _ rfl
      have q1 := hcell' 1 _ rfl
      rw [Nat.add_zero] at k0 q0
      have hB' : b1 < wr.heap.size := Nat.lt_of_lt_of_le hB hbk.size
      have HCk := Hid.mk (fun W => has_any sk p W hsk (by omega))
      have HCp := Hid.mk (fun W => has_any sp k W hsp (by omega))
      rw [← hak] at HCk
      rw [← hap] at HCp
      clear hcell hcell' hcl hcl' hak hap
      obtain ⟨wp, hwp⟩ : ∃ y, y = wr.alloc (.cells #[.int .u64 (sk.x0 : Int), .int .u64 (sk.x1 : Int)] 66) := ⟨_, rfl⟩
      have hbp : Below wr.heap.size wr wp := by rw [hwp]; exact (Below.refl _ _).alloc (Nat.le_refl _) _
      go_wp2_with fail
      rw [← hwp]
      clear hwp
      refine (HCk.out wp).mono ?_
      rintro e w3 ⟨rfl, hx3⟩
      have hb3 := bthen hbp hx3
      have hbw3 : Below w.heap.size w w3 := hbk.trans (hb3.mono hbk.size)
      have hO3 := HS.out.2.2.under hb3
      have hR3 := hRk.under hb3
      have q2 := (hb3.cell (p := ⟨b1, o1 + p * 2, none⟩) hB').trans q0
      have q3 := (hb3.cell (p := ⟨b1, o1 + p * 2 + 1, none⟩) hB').trans q1
      have hp1 : (0 : Int) ≤ (p : Int) := by omega
      have hp2 : (p : Int) < (n : Int) := by omega
      clear k0 k1 q0 q1
      rcases h1 : hasAt ss k p with _ | _
      · have HN := Hid.mk (HNO.out (by rw [h1]; rfl))
        go_wp2_with fail
        go_roundw
        case rel => exact ⟨k + 1, s, by omega, by go_num, ⟨HS.out.1, fun j hj => by rw [HN.out j]; exact HS.out.2.1 j hj, hO3⟩, hR3, hbw3⟩
        case measure => simp [intOf]; omega
      go_wp2_with fail
      refine (HCp.out w3).mono ?_
      rintro e w4 ⟨rfl, hx4⟩
      have hbw4 : Below w.heap.size w w4 := hbw3.trans (hx4.mono hbw3.size)
      have hO4 := hO3.under hx4
      have hR4 := hR3.under hx4
      clear q2 q3
      rcases h2 : hasAt ss p k with _ | _
      · have HN := Hid.mk (HNO.out (by rw [h1, h2]; rfl))
        go_wp2_with fail
        go_roundw
        case rel => exact ⟨k + 1, s, by omega, by go_num, ⟨HS.out.1, fun j hj => by rw [HN.out j]; exact HS.out.2.1 j hj, hO4⟩, hR4, hbw4⟩
        case measure => simp [intOf]; omega
      have HY := Hid.mk (HYE.out (by rw [h1, h2]; rfl))
      go_wp2_with fail
      refine (add_any (w.heap.size + 1) 0 k 66 s.cells s w4 HS.out.1 (by omega) hO4 rfl rfl).mono ?_
      rintro e w5 ⟨rfl, hO5, hT5⟩
      have hbw5 : Below w.heap.size w w5 := hbw4.trans (hT5.below (fun x hx => by simp at hx; omega) hbw4.size)
      have hR5 := hR4.turn hT5 (by simp)
      have HSn : Hid ((s.add k).ok ∧ (∀ j, j < 128 → (s.add k).has j = ringHas ss p (k + 1) j) ∧ Bw w5 (w.heap.size + 1) 66 (s.add k).cells) := ⟨MSet.add_ok HS.out.1 (by omega), fun j hj => by rw [MSet.add_has (by omega) hj, HY.out j, HS.out.2.1 j hj], hO5⟩
      clear hO5 hT5
      go_wp2_with fail
      go_roundw
      case rel => exact ⟨k + 1, s.add k, by omega, by go_num, HSn, hR5, hbw5⟩
      case measure => simp [intOf]; omega
    · have hkn : n = k := by omega
      subst hkn
      have c0 := HS.out.2.2.cell 0 _ rfl
      have c1 := HS.out.2.2.cell 1 _ rfl
      have r0 := hRk.cell 0 _ rfl
      have r1 := hRk.cell 1 _ rfl
      have f0 := hRk.free 0
      have f1 := hRk.free 1
      have hl := hRk.lt
      go_wp2_with fail
      exact bodyPost_ret (v := .agg #[.int .u64 (s.x0 : Int), .int .u64 (s.x1 : Int)]) (by simp [results, Tryd.results68, go_sem, *]) rfl ⟨s, rfl, HS.out.1, HS.out.2.1, (hbk.setCell (by simp) _).setCell (by simp) _⟩

end Go.Proofs.YtmigamgcmhdncaaDoor
