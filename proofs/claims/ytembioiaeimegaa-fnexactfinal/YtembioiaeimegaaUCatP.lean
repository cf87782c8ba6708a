/-
  Lists of Pairs put one behind the other: the library's way.
-/
import Derived.Test.YtembioiaeimegaaCatG
import Derived.Test.YtembioiaeimegaaUDatT
namespace Go.Proofs.Ytembioiaeimegaa
open Go.RowKit
set_option linter.unusedVariables false
set_option linter.unusedSimpArgs false
set_option maxRecDepth 10000

theorem onePair (B : Nat) (w : World) (cs : List Value) (m : MPair) (h : rPair B w cs m) : ∀ u, u ∈ cs → u.oneCell' = true := by
  obtain ⟨rfl, _⟩ := h
  intro u hu
  simp at hu
  rcases hu with rfl | rfl | rfl <;> rfl
def lenPair (s : Option Addr × Nat × List MPair) : Nat := s.2.2.length
def catPair (ss : List (Option Addr × Nat × List MPair)) : List MPair := (ss.map (fun s => s.2.2)).flatten
theorem catPair_length (ss : List (Option Addr × Nat × List MPair)) : (catPair ss).length = sumW lenPair ss := by
  induction ss with
  | nil => rfl
  | cons a t ih => simp only [catPair, List.map_cons, List.flatten_cons, List.length_append, sumW] at ih ⊢; rw [ih]; rfl
theorem catPair_take {ss : List (Option Addr × Nat × List MPair)} {k : Nat} (h : k < ss.length) : catPair (ss.take (k + 1)) = catPair (ss.take k) ++ ss[k].2.2 := by
  unfold catPair
  rw [List.take_succ_eq_append_getElem h, List.map_append, List.flatten_append]
  simp

set_option maxHeartbeats 1000000 in
theorem growPair_any (n : Nat) (hn : n ≤ 16777216) (w : World) :
    Calls Try.prog 34 #[.slice none 0 0, .int .i64 n] w fun e w' => ∃ v, e = .returned v ∧ w'.ownsRow w.heap.size 55 3 v 0 [] ∧ Below w.heap.size w w' := by
  obtain ⟨iT, hiT, hz0, hz1, hz2⟩ := info_parts Try.infoOfPair
  have h0 : ¬ (n : Int) < 0 := by omega
  by_cases hz : n = 0
  · subst hz
    go_enter Try.func34, Try.ntmps34
    go_wp2_with fail
    go_ret
    exact ⟨_, rfl, World.ownsRow_nil _ _ _ _, Below.refl _ _⟩
  · have hp : (0 : Int) < (n : Int) := by omega
    go_enter Try.func34, Try.ntmps34
    go_wp2_with (at_builtin; refine wpList_append_zeros rfl _ _ 28 3 rfl 55 iT (.agg #[.string ⟨#[]⟩, .string ⟨#[]⟩, .bool false]) .i64 .i64 Try.underlying28 Try.underlying3 hiT hz0 3 40 hz1 hz2 rfl n (by omega) (by decide) (by unfold maxLen; omega) (by omega) w.heap.size (Nat.le_refl _) rfl rfl ?_; intro cap w1 hcap hown hb1)
    go_ret
    exact ⟨_, rfl, hown, hb1⟩

set_option maxHeartbeats 4000000 in
theorem concatPair_any (g m : Nat) (ss : List (Option Addr × Nat × List MPair)) (w : World) (hs : ss.length = m) (hm : m ≤ 1048576) (hg : g < w.heap.size)
    (hc : ∀ i, (h : i < ss.length) → w.cell? ⟨g, i, none⟩ = some (.slice ss[i].1 ss[i].2.2.length ss[i].2.1)) (hr : ∀ i, (h : i < ss.length) → LeafL 3 rPair w.heap.size w ss[i].1 ss[i].2.1 ss[i].2.2) (hw : sumW lenPair ss ≤ 8388608) :
    Calls Try.prog 19 #[.slice (some ⟨g, 0, none⟩) m m] w fun e w' => ∃ v, e = .returned v ∧ RowR 3 55 rPair w.heap.size w' w.heap.size v (catPair ss) ∧ Below w.heap.size w w' := by
  obtain ⟨iT, hiT, hz0, hz1, hz2⟩ := info_parts Try.infoOfPair
  have HX := Hid.mk hs
  have HC := Hid.mk hc
  have HR := Hid.mk hr
  have HW := Hid.mk hw
  clear hs hc hr hw
  go_enter Try.func19, Try.ntmps19
  go_wp2_with fail
  go_loopw [3, 11] (fun x i wr => ∃ k : Nat, k ≤ m ∧ i = .int .i64 k ∧ x = .int .i64 (sumW lenPair (ss.take k) : Nat) ∧ wr = w) (fun _ i _ => m - (intOf i).toNat)
  case atStart => exact ⟨0, Nat.zero_le _, rfl, rfl, rfl⟩
  case round =>
    obtain ⟨k, hk, rfl, rfl, hwr⟩ := hrel
    replace hwr := hwr.symm
    subst hwr
    by_cases hlt : k < m
    · have hkl : k < ss.length := by rw [HX.out]; exact hlt
      have k0 := HC.out k hkl
      have HS := Hid.mk (sumW_take_succ (f := lenPair) hkl)
      have HLe : Hid (sumW lenPair (ss.take (k + 1)) ≤ 8388608) := Hid.mk (Nat.le_trans (sumW_take_le lenPair ss (k + 1)) HW.out)
      have HLk : Hid (lenPair ss[k] = ss[k].2.2.length) := rfl
      generalize ss[k] = s at *
      obtain ⟨aa, ca, la⟩ := s
      simp only at k0 HLk
      have hbd : sumW lenPair (ss.take k) + la.length ≤ 8388608 := by have h1 := HS.out; have h2 := HLe.out; have h3 := HLk.out; omega
      have HS2 : Hid (sumW lenPair (ss.take (k + 1)) = sumW lenPair (ss.take k) + la.length) := by unfold Hid; rw [HS.out, HLk.out]
      clear HS HLe HLk
      generalize sumW lenPair (ss.take k) = t at *
      have hng : ¬ ((t : Int) + (la.length : Int)) < 0 := by omega
      go_wp2_with fail
      go_roundw
      case rel => exact ⟨k + 1, by omega, by go_num, by rw [HS2.out]; go_num, by trivial⟩
      case measure => simp [intOf]; omega
    · have hkm : k = m := by omega
      have HT : Hid (ss.take k = ss) := List.take_of_length_le (by rw [HX.out]; omega)
      rw [HT.out]
      have hw := HW.out
      have HTL : Hid (sumW lenPair ss = sumW lenPair ss) := rfl
      generalize sumW lenPair ss = tt at hw ⊢
      go_wp2_with fail
      refine (growPair_any tt (by omega) w).mono ?_
      rintro e w1 ⟨v1, rfl, ho1, hb1⟩
      have HRow : Hid (RowR 3 55 rPair w.heap.size w1 w.heap.size v1 (catPair (ss.take 0))) := ⟨[], rfl, (fun _ h => by cases h), (fun _ h => by simp [catPair] at h), by simpa [catPair] using ho1⟩
      clear ho1 hw HT hkm hlt hk
      go_wp2_with fail
      go_loopw [6, 27] (fun v i wr => ∃ k : Nat, k ≤ m ∧ i = .int .i64 k ∧ Hid (RowR 3 55 rPair w.heap.size wr w.heap.size v (catPair (ss.take k))) ∧ Below w.heap.size w wr) (fun _ i _ => m - (intOf i).toNat)
      case atStart => exact ⟨0, Nat.zero_le _, rfl, HRow, hb1⟩
      case round =>
        obtain ⟨q, hq, rfl, HRq, hbq⟩ := hrel
        have hbz := hbq.size
        by_cases hlt : q < m
        · have hql : q < ss.length := by rw [HX.out]; exact hlt
          have k0 := (hbq.cell (p := ⟨g, q, none⟩) hg).trans (HC.out q hql)
          have HLq := Hid.mk ((HR.out q hql).below rPair_good hbq)
          have HS := Hid.mk (catPair_take hql)
          have HN := Hid.mk (catPair_length (ss.take (q + 1)))
          have HLe : Hid (sumW lenPair (ss.take (q + 1)) ≤ 8388608) := Hid.mk (Nat.le_trans (sumW_take_le lenPair ss (q + 1)) HW.out)
          generalize ss[q] = s at *
          obtain ⟨aa, ca, la⟩ := s
          simp only at k0 HLq HS
          have hbd : (catPair (ss.take q)).length + la.length ≤ 8388608 := by have h1 := HN.out; have h2 := HLe.out; rw [HS.out, List.length_append] at h1; omega
          clear HN HLe
          generalize catPair (ss.take q) = lq at *
          obtain ⟨css, r1, r2, r3, r4⟩ := HRq.out
          obtain ⟨s1, u1, u2, u3, u4⟩ := Src.any onePair (P := Try.prog) (n := la.length) (c := ca) Try.underlying28 rfl HLq.out.2.2
          have HR1 := Hid.mk r1
          have HR2 := Hid.mk r2
          have HR3 := Hid.mk r3
          have HU1 := Hid.mk u1
          have HU2 := Hid.mk u2
          have HU3 := Hid.mk u3
          clear r1 r2 r3 u1 u2 u3 HRq
          go_wp2_with (at_builtin; refine wpList_append_src_y rfl _ _ 28 28 rfl w.heap.size 55 iT (.agg #[.string ⟨#[]⟩, .string ⟨#[]⟩, .bool false]) 3 40 Try.underlying28 hiT hz0 hz1 hz2 rfl _ _ _ rfl r4 _ rfl _ s1.flatten u4 (by unfold maxLen; omega) (by omega) hbz ?_; intro v2 w2 ho2 hgr2 hat2)
          have hB2 := hbq.grown hgr2 hbz (fun k h => (r4.lt k h).1)
          have hBz : Below w.heap.size wr w2 := (Below.refl _ _).grown hgr2 hbz (fun k h => (r4.lt k h).1)
          have HF : Hid (RowR 3 55 rPair w.heap.size w2 w.heap.size v2 (lq ++ la)) := RowR.cat rPair_good HR1.out HR2.out HR3.out HU1.out HU2.out HU3.out hBz ho2
          rw [← HS.out] at HF
          clear r4 u4 ho2 hgr2 hat2
          go_wp2_with fail
          go_roundw
          case rel => exact ⟨q + 1, by omega, by go_num, HF, hB2⟩
          case measure => simp [intOf]; omega
        · have HT : Hid (ss.take q = ss) := List.take_of_length_le (by rw [HX.out]; omega)
          rw [HT.out] at HRq
          go_wp2_with fail
          go_ret
          exact ⟨_, rfl, HRq.out, hbq⟩

end Go.Proofs.Ytembioiaeimegaa
