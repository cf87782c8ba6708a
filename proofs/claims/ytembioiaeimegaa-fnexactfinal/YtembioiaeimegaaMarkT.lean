/-
  The text that the laws make of a number, to mark a string with it.
-/
import Derived.Test.YtembioiaeimegaaRows
import Derived.Test.YtembioiaeimegaaKit
import Derived.Test.YtembioiaeimegaaDatN
import Derived.Test.YtembioiaeimegaaChecked
namespace Go.Proofs.Ytembioiaeimegaa
open Go.RowKit
set_option maxRecDepth 10000

def mtLoop : Nat → Int → ByteArray → ByteArray
  | 0, _, o => o
  | f + 1, k, o => if k ≤ 0 then o else mtLoop f (k / 10) (strOfNums [48 + k % 10] ++ o)

def mtext (q : Int) : ByteArray := if q ≤ 0 then strOfNums [109, 48] else strOfNums [109] ++ mtLoop (q.toNat + 1) q ByteArray.empty

theorem mtLoop_step {f : Nat} {k : Int} {o : ByteArray} (h : 0 < k) : mtLoop (f + 1) k o = mtLoop f (k / 10) (strOfNums [48 + k % 10] ++ o) := by
  rw [mtLoop, if_neg (by omega)]
theorem mtLoop_done {f : Nat} {k : Int} {o : ByteArray} (h : k ≤ 0) : mtLoop f k o = o := by
  cases f with
  | zero => rfl
  | succ f => rw [mtLoop, if_pos h]

set_option maxHeartbeats 400000 in
theorem markText_any (q : Int) (w : World) (hq : 0 ≤ q) (hq2 : q ≤ 140737488351232) :
    Calls Try.prog 27 #[.int .i64 q] w fun e w' => e = .returned (.string (mtext q)) ∧ Below w.heap.size w w' := by
  by_cases h0 : q ≤ 0
  · have HV : Hid (mtext q = strOfNums [109, 48]) := if_pos h0
    go_enter Try.func27, Try.ntmps27
    go_wp2
    go_ret
    exact ⟨by rw [HV.out]; rfl, Below.refl _ _⟩
  · have HV : Hid (mtext q = strOfNums [109] ++ mtLoop (q.toNat + 1) q ByteArray.empty) := if_neg h0
    go_enter Try.func27, Try.ntmps27
    go_wp2
    go_loopw [0, 3] (fun kk oo wr => ∃ (f : Nat) (k : Int) (o : ByteArray), kk = .int .i64 k ∧ oo = .string o ∧ 0 ≤ k ∧ k ≤ q ∧ k.toNat < f ∧ o.size + f = q.toNat + 1 ∧ mtLoop f k o = mtLoop (q.toNat + 1) q ByteArray.empty ∧ Below w.heap.size w wr) (fun kk _ _ => (intOf kk).toNat)
    case atStart => exact ⟨q.toNat + 1, q, ByteArray.empty, rfl, rfl, hq, by omega, by omega, by simp, rfl, Below.refl _ _⟩
    case round =>
      obtain ⟨f, k, o, rfl, rfl, hk0, hkq, hkf, hof, hm, hbk⟩ := hrel
      have HM := Hid.mk hm
      clear hm
      by_cases hlt : 0 < k
      · have hconv : (convert 100 9 (.slice (some ⟨wr.heap.size, 0, none⟩) 1 1)).run Try.prog (wr.alloc (.cells #[.int .u8 (48 + k % 10)] 5)) = .ok (.string (strOfNums [48 + k % 10])) (wr.alloc (.cells #[.int .u8 (48 + k % 10)] 5)) :=
          run_convert_bytes_arg _ 100 5 Try.underlying100 Try.underlying5 wr.heap.size 0 1 1 [48 + k % 10] rfl (fun i hi => by
            have h0 : i = 0 := by omega
            subst h0
            simp) 9 Try.underlying9
        obtain ⟨f', rfl⟩ : ∃ f', f = f' + 1 := ⟨f - 1, by omega⟩
        have HS := Hid.mk (mtLoop_step (f := f') (o := o) hlt)
        have HZ : Hid ((strOfNums [48 + k % 10] ++ o).size = 1 + o.size) := by
          show (strOfNums [48 + k % 10] ++ o).size = 1 + o.size
          rw [ByteArray.size_append, strOfNums_size]
          rfl
        have hz1 : (strOfNums [48 + k % 10]).size = 1 := strOfNums_size _
        generalize strOfNums [48 + k % 10] = d1 at hconv HS HZ hz1
        go_wp2
        go_roundw
        case rel => exact ⟨f', k / 10, d1 ++ o, by go_num, rfl, by omega, by omega, by omega, by rw [HZ.out]; omega, by rw [← HS.out]; exact HM.out, hbk.alloc hbk.size _⟩
        case measure => simp [intOf]; omega
      · have hk00 : k ≤ 0 := by omega
        have HD := Hid.mk (mtLoop_done (f := f) (o := o) hk00)
        go_wp2
        go_ret
        exact ⟨by rw [HV.out, ← HM.out, HD.out]; rfl, hbk⟩

theorem mtLoop_size (f : Nat) (k : Int) (o : ByteArray) : (mtLoop f k o).size ≤ o.size + f := by
  induction f generalizing k o with
  | zero => simp [mtLoop]
  | succ f ih =>
    rw [mtLoop]
    split
    · omega
    · refine Nat.le_trans (ih _ _) ?_
      rw [ByteArray.size_append, strOfNums_size]
      simp
      omega

theorem mtext_size (q : Int) : (mtext q).size ≤ q.toNat + 2 := by
  unfold mtext
  split
  · rw [strOfNums_size]; simp
  · rw [ByteArray.size_append, strOfNums_size]
    have := mtLoop_size (q.toNat + 1) q ByteArray.empty
    simp at this ⊢
    omega

end Go.Proofs.Ytembioiaeimegaa
