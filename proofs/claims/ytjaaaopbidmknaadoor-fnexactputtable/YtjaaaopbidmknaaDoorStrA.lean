/-
  Slices of strings as arguments of the exact laws: weighed, copied.
-/
import Derived.Test.YtjaaaopbidmknaaDoorStrL
import Derived.Test.YtjaaaopbidmknaaDoorDatK
namespace Go.Proofs.YtjaaaopbidmknaaDoor
open Go.RowKit
set_option linter.unusedVariables false
set_option linter.unusedSimpArgs false
set_option maxRecDepth 10000

def wTs (l : List ByteArray) : Nat := l.length + sumW ByteArray.size l
theorem tcntTs_le (l : List ByteArray) : l.length ≤ 32 * wTs l := by unfold wTs; omega
theorem wTs_mem {l : List ByteArray} {s : ByteArray} (h : s ∈ l) : s.size ≤ wTs l := by
  obtain ⟨k, hk, rfl⟩ := List.getElem_of_mem h
  have h1 := sumW_le (f := ByteArray.size) hk
  unfold wTs
  omega

set_option maxHeartbeats 400000 in
theorem szStringS_r (v : Value) (l : List ByteArray) (left : Int) (w : World) (g0 : 0 ≤ left) (g1 : left ≤ 1048576) (hz : ∀ s, s ∈ l → s.size ≤ 9223372036854775807) (hr : rdT w.heap.size w v l) :
    Calls Tryd.prog 16 #[v, .int .i64 left] w fun e w' => e = .returned (.int .i64 (szRes left (wTs l))) ∧ Below w.heap.size w w' := by
  obtain ⟨a, c, rfl, h1, h2, ha⟩ := hr
  obtain ⟨n, hn⟩ : ∃ n, l.length = n := ⟨_, rfl⟩
  have HX := Hid.mk hn
  have HW : Hid (wTs l = n + sumW ByteArray.size l) := by rw [← hn]; rfl
  rw [hn] at h1 ⊢
  clear hn
  by_cases h : (n : Int) ≤ left
  · go_enter Tryd.func16, Tryd.ntmps16
    go_wp2_with fail
    go_loopw [1, 5] (fun x i wr => ∃ k : Nat, k ≤ n ∧ i = .int .i64 k ∧ x = .int .i64 (left - n - sumW ByteArray.size (l.take k)) ∧ ((n + sumW ByteArray.size (l.take k) : Nat) : Int) ≤ left ∧ wr = w) (fun _ i _ => n - (intOf i).toNat)
    case atStart => exact ⟨0, Nat.zero_le _, rfl, by simp [sumW], by simpa [sumW] using h, rfl⟩
    case round =>
      obtain ⟨k, hk, rfl, rfl, hle, rfl⟩ := hrel
      by_cases hlt : k < n
      · have hkl : k < l.length := by rw [HX.out]; exact hlt
        have HS := Hid.mk (sumW_take_succ (f := ByteArray.size) hkl)
        have HLe := Hid.mk (sumW_take_le ByteArray.size l (k + 1))
        obtain ⟨b1, o1, rfl, _, hc⟩ := ha k hkl
        have hzk := hz _ (List.getElem_mem hkl)
        generalize l[k] = s at *
        generalize sumW ByteArray.size (l.take k) = t at *
        clear ha
        by_cases hd : (s.size : Int) ≤ left - n - t
        · go_wp2_with fail
          go_roundw
          case rel => exact ⟨k + 1, by omega, by go_num, by rw [HS.out]; go_num, by rw [HS.out]; omega, by first | rfl | trivial⟩
          case measure => simp [intOf]; omega
        · have HV : Hid (szRes left (wTs l) = -1) := szRes_no (by have h1 := HS.out; have h2 := HLe.out; have h3 := HW.out; omega)
          go_wp2_with fail
          go_ret
          exact ⟨by rw [HV.out]; rfl, Below.refl _ _⟩
      · have HT : Hid (l.take k = l) := List.take_of_length_le (by rw [HX.out]; omega)
        rw [HT.out] at hle ⊢
        have HV : Hid (szRes left (wTs l) = left - n - sumW ByteArray.size l) := by unfold Hid; rw [szRes_yes (by have := HW.out; omega), HW.out]; omega
        go_wp2_with fail
        go_ret
        exact ⟨by rw [HV.out]; rfl, Below.refl _ _⟩
  · have HV : Hid (szRes left (wTs l) = -1) := szRes_no (by have := HW.out; omega)
    go_enter Tryd.func16, Tryd.ntmps16
    go_wp2_with fail
    go_ret
    exact ⟨by rw [HV.out]; rfl, Below.refl _ _⟩

theorem Tryd.infoOfStr : (Tryd.prog.info? 9).map (fun i => (i.zero, i.size, i.bytes)) = some (some (.string ByteArray.empty), 1, 16) := by kernel_rfl
theorem tcopy_step {l : List ByteArray} {n k : Nat} (hn : l.length = n) (hk : k < n) (hkl : k < l.length) :
    ((l.take k).map Value.string ++ List.replicate (n - k) (Value.string ByteArray.empty)).set k (.string l[k]) = (l.take (k + 1)).map Value.string ++ List.replicate (n - (k + 1)) (Value.string ByteArray.empty) := by
  rw [List.set_append_right _ _ (by simp; omega), show k - ((l.take k).map Value.string).length = 0 from by simp; omega, show n - k = (n - (k + 1)) + 1 from by omega, List.replicate_succ, List.set_cons_zero, List.take_succ_eq_append_getElem hkl, List.map_append, List.append_assoc]
  rfl

set_option maxHeartbeats 400000 in
theorem toStringS_r (v : Value) (l : List ByteArray) (w : World) (hr : rdT w.heap.size w v l) (hsz : wTs l ≤ 1048576) :
    Calls Tryd.prog 18 #[v] w fun e w' => ∃ (v' : Value) (F : List Nat), e = .returned v' ∧ ownT 9 w' v' l F ∧ F.Nodup ∧ (∀ b, b ∈ F → w.heap.size ≤ b) ∧ Below w.heap.size w w' := by
  obtain ⟨a, c, rfl, h1, h2, ha⟩ := hr
  obtain ⟨i0, hi, hz0, hz1, hz2⟩ := info_parts Tryd.infoOfStr
  obtain ⟨n, hn⟩ : ∃ n, l.length = n := ⟨_, rfl⟩
  have hnl : n ≤ 1048576 := by unfold wTs at hsz; omega
  have HX := Hid.mk hn
  rw [hn] at h1 ⊢
  clear hn hsz
  go_enter Tryd.func18, Tryd.ntmps18
  go_wp2_with (at_make; refine wpList_make_full _ rfl _ _ 25 rfl w.heap.size 9 i0 (.string ByteArray.empty) 1 Tryd.underlying25 hi hz0 hz1 .i64 .i64 _ _ n rfl rfl rfl rfl ?c1 ?c2 (Nat.le_refl _) ?_)
  case c1 => rw [hz2]; omega
  case c2 => unfold maxLen; omega
  intro w1 hown hgr
  have hb1 : Below w.heap.size w w1 := (Below.refl _ _).grown hgr (Nat.le_refl _) (fun k h => by cases h)
  rw [toList_madeCells_one] at hown
  clear hgr hi hz0 hz1 hz2
  go_wp2_with fail
  go_loopw [4] (fun i wr => ∃ k : Nat, k ≤ n ∧ i = .int .i64 k ∧ wr.ownsRow w.heap.size 9 1 (.slice (some ⟨w.heap.size, 0, none⟩) n n) n ((l.take k).map Value.string ++ List.replicate (n - k) (.string ByteArray.empty)) ∧ Below w.heap.size w wr) (fun i _ => n - (intOf i).toNat)
  case atStart => exact ⟨0, Nat.zero_le _, rfl, by simpa using hown, hb1⟩
  case round =>
    obtain ⟨k, hk, rfl, hownk, hbk⟩ := hrel
    clear hown hb1
    by_cases hlt : k < n
    · have hkl : k < l.length := by rw [HX.out]; exact hlt
      obtain ⟨b, off, rfl, hbB, hcell⟩ := ha k hkl
      have hc1 : wr.cell? ⟨b, off + k, none⟩ = some (.string l[k]) := (hbk.cell hbB).trans hcell
      have HST := Hid.mk (tcopy_step HX.out hlt hkl)
      generalize l[k] = x at *
      have hc2 : ∃ v, wr.cell? ⟨w.heap.size, k, none⟩ = some v := by rw [hownk.cellAt k (by omega)]; exact ⟨_, List.getElem?_eq_getElem (by simp; have := HX.out; omega)⟩
      obtain ⟨v, hc2⟩ := hc2
      have hf2 := hownk.frozenAt k
      have hst := hownk.stored k (.string x)
      clear ha hcell hownk
      go_wp2_with fail
      go_roundw
      case rel =>
        refine ⟨k + 1, by omega, by go_num, ?_, hbk.setCell (Nat.le_refl _) _⟩
        rw [← HST.out]
        exact hst.1
      case measure => simp [intOf]; omega
    · go_wp2_with fail
      go_ret
      have hkn : k = n := by omega
      subst hkn
      have h := hownk
      rw [List.take_of_length_le (by rw [HX.out]; exact Nat.le_refl _)] at h
      refine ⟨_, [w.heap.size], rfl, ⟨own_base (own_congr h HX.out.symm (by simp)) (Nat.zero_le _), rfl⟩, by simp, by simp, hbk⟩

end Go.Proofs.YtjaaaopbidmknaaDoor
