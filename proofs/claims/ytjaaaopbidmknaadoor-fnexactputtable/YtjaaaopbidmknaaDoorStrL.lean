/-
  Slices of bytes and of strings as arguments and answers of the exact laws.
-/
import Derived.Test.YtjaaaopbidmknaaDoorMarkT
import Derived.Test.YtjaaaopbidmknaaDoorDatN
namespace Go.Proofs.YtjaaaopbidmknaaDoor
open Go.RowKit
set_option linter.unusedVariables false
set_option linter.unusedSimpArgs false
set_option maxRecDepth 10000

/-- The strings that a slice's cells hold. -/
def RdT (B : Nat) (w : World) (a : Option Addr) (l : List ByteArray) : Prop :=
  ∀ j, (h : j < l.length) → ∃ b off, a = some ⟨b, off, none⟩ ∧ b < B ∧ w.cell? ⟨b, off + j, none⟩ = some (.string l[j])
def rdT (B : Nat) (w : World) (v : Value) (l : List ByteArray) : Prop := ∃ a c, v = .slice a l.length c ∧ l.length ≤ c ∧ c ≤ 9223372036854775807 ∧ RdT B w a l
def ownT (e : TypeId) (w : World) (v : Value) (l : List ByteArray) (F : List Nat) : Prop := w.ownsRow 0 e 1 v l.length (l.map Value.string) ∧ F = v.ownBlock.toList

theorem RdT.below {B : Nat} {w w' : World} {a : Option Addr} {l : List ByteArray} (h : RdT B w a l) (hb : Below B w w') : RdT B w' a l := by
  intro j hj
  obtain ⟨b, off, e, hB, hc⟩ := h j hj
  exact ⟨b, off, e, hB, (hb.cell (p := ⟨b, off + j, none⟩) hB).trans hc⟩
theorem rdT.below {B : Nat} {w w' : World} {v : Value} {l : List ByteArray} (h : rdT B w v l) (hb : Below B w w') : rdT B w' v l := by
  obtain ⟨a, c, e, h1, h2, h3⟩ := h
  exact ⟨a, c, e, h1, h2, h3.below hb⟩
theorem rdT.mono {B B' : Nat} {w : World} {v : Value} {l : List ByteArray} (h : rdT B w v l) (hB : B ≤ B') : rdT B' w v l := by
  obtain ⟨a, c, e, h1, h2, h3⟩ := h
  refine ⟨a, c, e, h1, h2, fun j hj => ?_⟩
  obtain ⟨b, off, e, hb, hc⟩ := h3 j hj
  exact ⟨b, off, e, by omega, hc⟩
theorem ownT.frame {e : TypeId} {w w' : World} {v : Value} {l : List ByteArray} {F : List Nat} (h : ownT e w v l F) (hb : ∀ k, k ∈ F → w'.heap[k]? = w.heap[k]?) : ownT e w' v l F := by
  obtain ⟨h1, rfl⟩ := h
  exact ⟨own_of_block h1 (fun k hk => hb k (by simp [hk])), rfl⟩
theorem ownT.lt {e : TypeId} {w : World} {v : Value} {l : List ByteArray} {F : List Nat} (h : ownT e w v l F) : ∀ k, k ∈ F → k < w.heap.size := by
  obtain ⟨h1, rfl⟩ := h
  intro k hk
  exact (h1.lt k (by simpa using hk)).2
theorem rdT_own {e : TypeId} {w : World} {v : Value} {l : List ByteArray} {F : List Nat} (h : ownT e w v l F) : rdT w.heap.size w v l := by
  obtain ⟨h1, rfl⟩ := h
  rcases h1.2 with ⟨rfl, h'⟩ | ⟨g, cap, cur, rfl, hb, hg, hnc, hm, _⟩
  · exact ⟨none, 0, by rw [h'], by omega, by omega, fun j hj => by omega⟩
  · refine ⟨_, cap, rfl, hnc, by simpa [maxLen] using hm, fun j hj => ⟨g, 0, rfl, (h1.lt g rfl).2, ?_⟩⟩
    have := h1.cellAt j (by omega)
    rw [Nat.zero_add, this]
    simp [hj]

/-- The texts of numbers, one behind another. -/
def tmarks (q : Int) : Nat → List ByteArray
  | 0 => []
  | n + 1 => mtext q :: tmarks (q + 1) n
theorem tmarks_length (q : Int) (n : Nat) : (tmarks q n).length = n := by
  induction n generalizing q with
  | zero => rfl
  | succ n ih => simp [tmarks, ih]
theorem tmarks_at (q : Int) (n i : Nat) (h : i < n) (h2 : i < (tmarks q n).length) : (tmarks q n)[i] = mtext (q + i) := by
  induction n generalizing q i with
  | zero => omega
  | succ n ih =>
    cases i with
    | zero => simp [tmarks]
    | succ i =>
      simp only [tmarks, List.getElem_cons_succ]
      rw [ih (q + 1) i (by omega)]
      congr 1
      simp only [Int.natCast_add]
      omega
def hdT (l : List ByteArray) (q q' : Int) : Prop := l = tmarks q l.length ∧ q' = q + l.length

set_option maxHeartbeats 400000 in
theorem eqStringS_yes_r (v1 v2 : Value) (l : List ByteArray) (w : World) (h1 : rdT w.heap.size w v1 l) (h2 : rdT w.heap.size w v2 l) (hsz : l.length ≤ 1099511627776) :
    Calls Tryd.prog 21 #[v1, v2] w fun e w' => e = .returned (.bool true) ∧ Below w.heap.size w w' := by
  obtain ⟨a, ca, rfl, _, _, ha⟩ := h1
  obtain ⟨b, cb, rfl, _, _, hb⟩ := h2
  obtain ⟨n, hn⟩ : ∃ n, l.length = n := ⟨_, rfl⟩
  have HX := Hid.mk hn
  rw [hn] at hsz ⊢
  clear hn
  go_enter Tryd.func21, Tryd.ntmps21
  go_wp2_with fail
  go_loopw [5] (fun i wr => ∃ k : Nat, k ≤ n ∧ i = .int .i64 k ∧ Below w.heap.size w wr) (fun i _ => n - (intOf i).toNat)
  case atStart => exact ⟨0, Nat.zero_le _, rfl, Below.refl _ _⟩
  case round =>
    obtain ⟨k, hk, rfl, hbk⟩ := hrel
    by_cases hlt : k < n
    · have hkl : k < l.length := by rw [HX.out]; exact hlt
      obtain ⟨b1, o1, rfl, _, k1⟩ := (ha.below hbk) k hkl
      obtain ⟨b2, o2, rfl, _, k2⟩ := (hb.below hbk) k hkl
      generalize l[k] = s at *
      clear ha hb
      go_wp2_with fail
      go_region
      all_goals
        go_wp2_with fail
        go_roundw
        case rel => exact ⟨k + 1, by omega, by go_num, Below.drew hbk⟩
        case measure => simp [intOf]; omega
    · go_wp2_with fail
      go_ret
      exact ⟨rfl, hbk⟩

theorem tfill_step {l : List ByteArray} {q : Int} {n k : Nat} (hn : l.length = n) (hk : k < n) :
    (((tmarks q n).take k ++ l.drop k).map Value.string).set k (.string (mtext (q + k))) = ((tmarks q n).take (k + 1) ++ l.drop (k + 1)).map Value.string := by
  have hm : k < (tmarks q n).length := by rw [tmarks_length]; exact hk
  rw [← List.map_set, ← tmarks_at q n k hk hm]
  congr 1
  rw [List.drop_eq_getElem_cons (by omega), List.set_append_right _ _ (by simp; omega), show k - ((tmarks q n).take k).length = 0 from by simp; omega, List.set_cons_zero, List.take_succ_eq_append_getElem hm, List.append_assoc]
  rfl

set_option maxHeartbeats 400000 in
theorem markStringS_row (g n cap : Nat) (l : List ByteArray) (q : Int) (w : World) (hn : l.length = n) (hq : 0 ≤ q) (hq2 : q + n ≤ 70368744177664) (hown : w.ownsRow 0 9 1 (.slice (some ⟨g, 0, none⟩) n cap) n (l.map Value.string)) :
    Calls Tryd.prog 22 #[.slice (some ⟨g, 0, none⟩) n cap, .int .i64 q] w fun e w' => e = .returned (.int .i64 (q + n)) ∧ w'.ownsRow 0 9 1 (.slice (some ⟨g, 0, none⟩) n cap) n ((tmarks q n).map Value.string) ∧ Turn [g] w w' := by
  have HN := Hid.mk hn
  clear hn
  go_enter Tryd.func22, Tryd.ntmps22
  go_wp2_with fail
  go_loopw [1, 5] (fun kk i wr => ∃ k : Nat, k ≤ n ∧ i = .int .i64 k ∧ kk = .int .i64 (q + k) ∧ wr.ownsRow 0 9 1 (.slice (some ⟨g, 0, none⟩) n cap) n (((tmarks q n).take k ++ l.drop k).map Value.string) ∧ Turn [g] w wr) (fun _ i _ => n - (intOf i).toNat)
  case atStart => exact ⟨0, Nat.zero_le _, rfl, by simp, by simpa using hown, Turn.refl _ _⟩
  case round =>
    obtain ⟨k, hk, rfl, rfl, hownk, htk⟩ := hrel
    clear hown
    by_cases hlt : k < n
    · go_wp2_with fail
      refine (markText_any (q + k) _ (by omega) (by omega)).mono ?_
      rintro e w1 ⟨rfl, hb1⟩
      have hown1 := own_below hownk hb1
      have hc2 : ∃ v, w1.cell? ⟨g, k, none⟩ = some v := by rw [hown1.cellAt k (by omega)]; exact ⟨_, List.getElem?_eq_getElem (by simp [tmarks_length]; have := HN.out; omega)⟩
      obtain ⟨v, hc2⟩ := hc2
      have hf2 := hown1.frozenAt k
      go_wp2_with fail
      go_roundw
      case rel =>
        have hst := hown1.stored k (.string (mtext (q + k)))
        refine ⟨k + 1, by omega, by go_num, by go_num, ?_, htk.trans ((Turn.ofBelow hb1).trans (Turn.ofGrown hst.2 (fun j hj => by cases hj; simp)))⟩
        rw [← tfill_step HN.out hlt]
        exact hst.1
      case measure => simp [intOf]; omega
    · go_wp2_with fail
      go_ret
      have hkn : k = n := by omega
      subst hkn
      refine ⟨rfl, ?_, htk⟩
      have h := hownk
      rw [List.take_of_length_le (by rw [tmarks_length]; exact Nat.le_refl _), List.drop_of_length_le (by rw [HN.out]; exact Nat.le_refl _), List.append_nil] at h
      exact h

set_option maxHeartbeats 400000 in
theorem markStringS_nil (q : Int) (w : World) :
    Calls Tryd.prog 22 #[.slice none 0 0, .int .i64 q] w fun e w' => e = .returned (.int .i64 q) ∧ w' = w := by
  go_enter Tryd.func22, Tryd.ntmps22
  go_wp2
  refine wp_loop_rounds 1 ?_
  rw [rounds_succ]
  go_wp2
  go_ret
  exact ⟨rfl, rfl⟩

theorem markStringS_any (v : Value) (l : List ByteArray) (F : List Nat) (q : Int) (w : World) (hq : 0 ≤ q) (hq2 : q + l.length ≤ 70368744177664) (ho : ownT 9 w v l F) (hN : F.Nodup) :
    Calls Tryd.prog 22 #[v, .int .i64 q] w fun e w' => ∃ (m' : List ByteArray) (q' : Int), e = .returned (.int .i64 q') ∧ q ≤ q' ∧ q' ≤ 70368744177664 ∧ ownT 9 w' v m' F ∧ hdT m' q q' ∧ Turn F w w' := by
  obtain ⟨h1, rfl⟩ := ho
  rcases h1.2 with ⟨rfl, h'⟩ | ⟨g, cap, cur, rfl, hb, hg, hnc, hm, _⟩
  · refine (markStringS_nil q w).mono ?_
    rintro e w' ⟨rfl, rfl⟩
    have : l = [] := List.eq_nil_of_length_eq_zero h'
    subst this
    exact ⟨[], q, rfl, Int.le_refl _, by simp at hq2; omega, ⟨h1, rfl⟩, ⟨rfl, by simp⟩, Turn.refl _ _⟩
  · refine (markStringS_row g l.length cap l q w rfl hq hq2 h1).mono ?_
    rintro e w' ⟨rfl, ho, ht⟩
    exact ⟨tmarks q l.length, _, rfl, by omega, hq2, ⟨own_congr (n' := (tmarks q l.length).length) ho (tmarks_length _ _).symm rfl, rfl⟩, ⟨by rw [tmarks_length], by rw [tmarks_length]⟩, ht⟩

end Go.Proofs.YtjaaaopbidmknaaDoor
