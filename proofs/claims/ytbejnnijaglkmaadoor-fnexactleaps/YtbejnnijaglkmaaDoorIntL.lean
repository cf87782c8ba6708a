/-
  Slices of numbers as answers of the exact laws: read, compared, marked, found again.
-/
import Derived.Test.YtbejnnijaglkmaaDoorBase
import Derived.Test.YtbejnnijaglkmaaDoorDatN
import Derived.Deep.RegionHeld3
namespace Go.Proofs.YtbejnnijaglkmaaDoor
open Go.RowKit
set_option linter.unusedVariables false
set_option linter.unusedSimpArgs false
set_option maxRecDepth 10000

def rdI (B : Nat) (w : World) (v : Value) (l : List Int) : Prop := ∃ a c, v = .slice a l.length c ∧ l.length ≤ c ∧ c ≤ 9223372036854775807 ∧ Rd .i64 B w a l
def ownI (e : TypeId) (w : World) (v : Value) (l : List Int) (F : List Nat) : Prop := w.ownsRow 0 e 1 v l.length (l.map (Value.int .i64)) ∧ F = v.ownBlock.toList
theorem rdI.below {B : Nat} {w w' : World} {v : Value} {l : List Int} (h : rdI B w v l) (hb : Below B w w') : rdI B w' v l := by
  obtain ⟨a, c, e, h1, h2, h3⟩ := h
  exact ⟨a, c, e, h1, h2, h3.below hb⟩
theorem rdI.mono {B B' : Nat} {w : World} {v : Value} {l : List Int} (h : rdI B w v l) (hB : B ≤ B') : rdI B' w v l := by
  obtain ⟨a, c, e, h1, h2, h3⟩ := h
  exact ⟨a, c, e, h1, h2, h3.mono hB⟩
theorem ownI.frame {e : TypeId} {w w' : World} {v : Value} {l : List Int} {F : List Nat} (h : ownI e w v l F) (hb : ∀ k, k ∈ F → w'.heap[k]? = w.heap[k]?) : ownI e w' v l F := by
  obtain ⟨h1, rfl⟩ := h
  exact ⟨own_of_block h1 (fun k hk => hb k (by simp [hk])), rfl⟩
theorem ownI.lt {e : TypeId} {w : World} {v : Value} {l : List Int} {F : List Nat} (h : ownI e w v l F) : ∀ k, k ∈ F → k < w.heap.size := by
  obtain ⟨h1, rfl⟩ := h
  intro k hk
  exact (h1.lt k (by simpa using hk)).2
theorem rdI_own {e : TypeId} {w : World} {v : Value} {l : List Int} {F : List Nat} (h : ownI e w v l F) : rdI w.heap.size w v l := by
  obtain ⟨h1, rfl⟩ := h
  rcases h1.2 with ⟨rfl, h'⟩ | ⟨g, cap, cur, rfl, hb, hg, hnc, hm, _⟩
  · exact ⟨none, 0, by rw [h'], by omega, by omega, fun j hj => by omega⟩
  · exact ⟨_, cap, rfl, hnc, by simpa [maxLen] using hm, Rd.own rfl h1⟩
/-- Numbers one behind another. -/
def imarks (q : Int) : Nat → List Int
  | 0 => []
  | n + 1 => q :: imarks (q + 1) n
theorem imarks_length (q : Int) (n : Nat) : (imarks q n).length = n := by
  induction n generalizing q with
  | zero => rfl
  | succ n ih => simp [imarks, ih]
theorem imarks_at (q : Int) (n i : Nat) (h : i < n) (h2 : i < (imarks q n).length) : (imarks q n)[i] = q + i := by
  induction n generalizing q i with
  | zero => omega
  | succ n ih =>
    cases i with
    | zero => simp [imarks]
    | succ i =>
      simp only [imarks, List.getElem_cons_succ]
      rw [ih (q + 1) i (by omega)]
      simp only [Int.natCast_add]
      omega
def hdI (l : List Int) (q q' : Int) : Prop := l = imarks q l.length ∧ q' = q + l.length
theorem ifill_step {l : List Int} {q : Int} {n k : Nat} (hn : l.length = n) (hk : k < n) :
    (((imarks q n).take k ++ l.drop k).map (Value.int .i64)).set k (.int .i64 (q + k)) = ((imarks q n).take (k + 1) ++ l.drop (k + 1)).map (Value.int .i64) := by
  have hm : k < (imarks q n).length := by rw [imarks_length]; exact hk
  rw [← List.map_set, ← imarks_at q n k hk hm]
  congr 1
  rw [List.drop_eq_getElem_cons (by omega), List.set_append_right _ _ (by simp; omega), show k - ((imarks q n).take k).length = 0 from by simp; omega, List.set_cons_zero, List.take_succ_eq_append_getElem hm, List.append_assoc]
  rfl

set_option maxHeartbeats 400000 in
theorem eqIntS_yes_r (v1 v2 : Value) (l : List Int) (w : World) (h1 : rdI w.heap.size w v1 l) (h2 : rdI w.heap.size w v2 l) (hsz : l.length ≤ 1099511627776) :
    Calls Tryd.prog 16 #[v1, v2] w fun e w' => e = .returned (.bool true) ∧ Below w.heap.size w w' := by
  obtain ⟨a, ca, rfl, _, _, ha⟩ := h1
  obtain ⟨b, cb, rfl, _, _, hb⟩ := h2
  obtain ⟨n, hn⟩ : ∃ n, l.length = n := ⟨_, rfl⟩
  have HX := Hid.mk hn
  rw [hn] at hsz ⊢
  clear hn
  go_enter Tryd.func16, Tryd.ntmps16
  go_wp2_with fail
  go_loopw [5] (fun i wr => ∃ k : Nat, k ≤ n ∧ i = .int .i64 k ∧ Below w.heap.size w wr) (fun i _ => n - (intOf i).toNat)
  case atStart => exact ⟨0, Nat.zero_le _, rfl, Below.refl _ _⟩
  case round =>
    obtain ⟨k, hk, rfl, hbk⟩ := hrel
    by_cases hlt : k < n
    · have hkl : k < l.length := by rw [HX.out]; exact hlt
      obtain ⟨b1, o1, rfl, _, k1⟩ := (ha.below hbk) k hkl
      obtain ⟨b2, o2, rfl, _, k2⟩ := (hb.below hbk) k hkl
      generalize l.getD k 0 = s at *
      clear ha hb
      go_wp2_with fail
      go_region
      all_goals
        go_wp2_with fail
        go_roundw
        case rel => exact ⟨k + 1, by omega, by go_num, Below.drew hbk⟩
        case measure => simp [intOf]; omega
    · go_wp2_with fail
      go_ret
      exact ⟨rfl, hbk⟩

set_option maxHeartbeats 400000 in
theorem markIntS_row (g n cap : Nat) (l : List Int) (q : Int) (w : World) (hn : l.length = n) (hq : 0 ≤ q) (hq2 : q + n ≤ 70368744177664) (hown : w.ownsRow 0 3 1 (.slice (some ⟨g, 0, none⟩) n cap) n (l.map (Value.int .i64))) :
    Calls Tryd.prog 19 #[.slice (some ⟨g, 0, none⟩) n cap, .int .i64 q] w fun e w' => e = .returned (.int .i64 (q + n)) ∧ w'.ownsRow 0 3 1 (.slice (some ⟨g, 0, none⟩) n cap) n ((imarks q n).map (Value.int .i64)) ∧ Turn [g] w w' := by
  have HN := Hid.mk hn
  clear hn
  go_enter Tryd.func19, Tryd.ntmps19
  go_wp2_with fail
  go_loopw [1, 5] (fun kk i wr => ∃ k : Nat, k ≤ n ∧ i = .int .i64 k ∧ kk = .int .i64 (q + k) ∧ wr.ownsRow 0 3 1 (.slice (some ⟨g, 0, none⟩) n cap) n (((imarks q n).take k ++ l.drop k).map (Value.int .i64)) ∧ Turn [g] w wr) (fun _ i _ => n - (intOf i).toNat)
  case atStart => exact ⟨0, Nat.zero_le _, rfl, by simp, by simpa using hown, Turn.refl _ _⟩
  case round =>
    obtain ⟨k, hk, rfl, rfl, hownk, htk⟩ := hrel
    clear hown
    by_cases hlt : k < n
    · have hc2 : ∃ v, wr.cell? ⟨g, k, none⟩ = some v := by rw [hownk.cellAt k (by omega)]; exact ⟨_, List.getElem?_eq_getElem (by simp [imarks_length]; have := HN.out; omega)⟩
      obtain ⟨v, hc2⟩ := hc2
      have hf2 := hownk.frozenAt k
      go_wp2_with fail
      go_roundw
      case rel =>
        have hst := hownk.stored k (.int .i64 (q + k))
        refine ⟨k + 1, by omega, by go_num, by go_num, ?_, htk.trans (Turn.ofGrown hst.2 (fun j hj => by cases hj; simp))⟩
        rw [← ifill_step HN.out hlt]
        exact hst.1
      case measure => simp [intOf]; omega
    · go_wp2_with fail
      go_ret
      have hkn : k = n := by omega
      subst hkn
      refine ⟨rfl, ?_, htk⟩
      have h := hownk
      rw [List.take_of_length_le (by rw [imarks_length]; exact Nat.le_refl _), List.drop_of_length_le (by rw [HN.out]; exact Nat.le_refl _), List.append_nil] at h
      exact h
set_option maxHeartbeats 400000 in
theorem markIntS_nil (q : Int) (w : World) :
    Calls Tryd.prog 19 #[.slice none 0 0, .int .i64 q] w fun e w' => e = .returned (.int .i64 q) ∧ w' = w := by
  go_enter Tryd.func19, Tryd.ntmps19
  go_wp2
  refine wp_loop_rounds 1 ?_
  rw [rounds_succ]
  go_wp2
  go_ret
  exact ⟨rfl, rfl⟩
theorem markIntS_r (v : Value) (l : List Int) (F : List Nat) (q : Int) (w : World) (hq : 0 ≤ q) (hq2 : q + l.length ≤ 70368744177664) (ho : ownI 3 w v l F) (hN : F.Nodup) :
    Calls Tryd.prog 19 #[v, .int .i64 q] w fun e w' => ∃ (m' : List Int) (q' : Int), e = .returned (.int .i64 q') ∧ q ≤ q' ∧ q' ≤ 70368744177664 ∧ ownI 3 w' v m' F ∧ hdI m' q q' ∧ Turn F w w' := by
  obtain ⟨h1, rfl⟩ := ho
  rcases h1.2 with ⟨rfl, h'⟩ | ⟨g, cap, cur, rfl, hb, hg, hnc, hm, _⟩
  · refine (markIntS_nil q w).mono ?_
    rintro e w' ⟨rfl, rfl⟩
    have : l = [] := List.eq_nil_of_length_eq_zero h'
    subst this
    exact ⟨[], q, rfl, Int.le_refl _, by simp at hq2; omega, ⟨h1, rfl⟩, ⟨rfl, by simp⟩, Turn.refl _ _⟩
  · refine (markIntS_row g l.length cap l q w rfl hq hq2 h1).mono ?_
    rintro e w' ⟨rfl, ho, ht⟩
    exact ⟨imarks q l.length, _, rfl, by omega, hq2, ⟨own_congr (n' := (imarks q l.length).length) ho (imarks_length _ _).symm rfl, rfl⟩, ⟨by rw [imarks_length], by rw [imarks_length]⟩, ht⟩

set_option maxHeartbeats 400000 in
theorem heldIntS_r (v : Value) (l : List Int) (q q' : Int) (w : World) (hr : rdI w.heap.size w v l) (hh : hdI l q q') (hq : 0 ≤ q) (hq' : q' ≤ 70368744177664) :
    Calls Tryd.prog 20 #[v, .int .i64 q] w fun e w' => e = .returned (.int .i64 q') ∧ Below w.heap.size w w' := by
  obtain ⟨a, c, rfl, _, _, ha⟩ := hr
  obtain ⟨h1, rfl⟩ := hh
  obtain ⟨n, hn⟩ : ∃ n, l.length = n := ⟨_, rfl⟩
  rw [hn] at h1 hq' ⊢
  have HX := Hid.mk hn
  have HM := Hid.mk h1
  clear hn h1
  go_enter Tryd.func20, Tryd.ntmps20
  go_wp2_with fail
  go_loopw [1, 5] (fun kv i wr => ∃ k : Nat, k ≤ n ∧ i = .int .i64 k ∧ kv = .int .i64 (q + k) ∧ Below w.heap.size w wr) (fun _ i _ => n - (intOf i).toNat)
  case atStart => exact ⟨0, Nat.zero_le _, rfl, by simp, Below.refl _ _⟩
  case round =>
    obtain ⟨k, hk, rfl, rfl, hbk⟩ := hrel
    by_cases hlt : k < n
    · have hkl : k < l.length := by rw [HX.out]; exact hlt
      obtain ⟨b1, o1, rfl, _, k1⟩ := (ha.below hbk) k hkl
      have hv : l.getD k 0 = q + k := by
        rw [HM.out, List.getD_eq_getElem?_getD, List.getElem?_eq_getElem (by rw [imarks_length]; exact hlt)]
        exact imarks_at q n k hlt (by rw [imarks_length]; exact hlt)
      rw [hv] at k1
      clear ha hv
      go_wp2_with fail
      go_roundw
      case rel => exact ⟨k + 1, by omega, by go_num, by go_num, hbk⟩
      case measure => simp [intOf]; omega
    · have hkn : k = n := by omega
      subst hkn
      go_wp2_with fail
      go_ret
      exact ⟨rfl, hbk⟩

end Go.Proofs.YtbejnnijaglkmaaDoor
