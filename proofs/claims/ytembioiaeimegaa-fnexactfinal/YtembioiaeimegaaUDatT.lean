/-
  The laws copy what they are handed: what comes out is the same, in memory of its own.
-/
import Derived.Test.YtembioiaeimegaaRows
import Derived.Test.YtembioiaeimegaaKit
import Derived.Test.YtembioiaeimegaaDatN
import Derived.Test.YtembioiaeimegaaChecked
import Derived.Test.YtembioiaeimegaaUDatZ
namespace Go.Proofs.Ytembioiaeimegaa
open Go.RowKit
set_option linter.unusedVariables false

set_option maxHeartbeats 1000000 in
theorem toDot_any (cs : List Value) (m : MDot) (w : World) (hr : rDot w.heap.size w cs m) (hsz : wDot m ≤ 1048576) :
    Calls Try.prog 53 #[.agg cs.toArray] w fun e w' => ∃ (cs' : List Value) (F : List Nat), e = .returned (.agg cs'.toArray) ∧ oDot w' cs' m F ∧ F.Nodup ∧ (∀ b, b ∈ F → w.heap.size ≤ b) ∧ Below w.heap.size w w' := by
  obtain ⟨rfl, h0, h1, _⟩ := hr
  have hsz' : 0 ≤ 1048576 := hsz
  clear hsz
  have hbA : ∀ o1 o2 o3, Below w.heap.size w (((w.alloc o1).alloc o2).alloc o3) := fun o1 o2 o3 => (((Below.refl _ _).alloc (Nat.le_refl _) o1).alloc (by simp) o2).alloc (by simp; omega) o3
  go_enter Try.func53, Try.ntmps53
  go_wp2_with fail
  refine bodyPost_ret (v := .agg #[.int .i64 m.fR, .int .i64 m.fN]) (by simp [results, Try.results53, go_sem]) rfl ⟨[.int .i64 m.fR, .int .i64 m.fN], [], rfl, ?_, List.nodup_nil, (fun b hb => by cases hb), (hbA _ _ _)⟩
  exact ⟨rfl, h0, h1, rfl⟩

theorem Try.infoOfDot : (Try.prog.info? 83).map (fun i => (i.zero, i.size, i.bytes)) = some (some (.agg #[.int .i64 0, .int .i64 0]), 2, 16) := by kernel_rfl

set_option maxHeartbeats 1000000 in
theorem toDotS_any (a : Option Addr) (n cap : Nat) (l : List MDot) (w : World) (hx : l.length = n) (hr : LeafL 2 rDot w.heap.size w a cap l) (hsz : n + sumW wDot l ≤ 1048576) :
    Calls Try.prog 50 #[.slice a n cap] w fun e w' => ∃ (v : Value) (F : List Nat), e = .returned v ∧ ownS 2 83 oDot w' v l F ∧ F.Nodup ∧ (∀ b, b ∈ F → w.heap.size ≤ b) ∧ Below w.heap.size w w' := by
  obtain ⟨i0, hi, hz0, hz1, hz2⟩ := info_parts Try.infoOfDot
  have HX := Hid.mk hx
  clear hx
  replace hr := hr.2.2
  go_enter Try.func50, Try.ntmps50
  go_wp2_with (at_make; refine wpList_make_full _ rfl _ _ 46 rfl w.heap.size 83 i0 (.agg #[.int .i64 0, .int .i64 0]) 2 Try.underlying46 hi hz0 hz1 .i64 .i64 _ _ n rfl rfl rfl rfl (by rw [hz2]; omega) (by unfold maxLen; omega) (Nat.le_refl _) ?_)
  intro w0 hown hgr
  have hb0 : Below w.heap.size w w0 := (Below.refl _ _).grown hgr (Nat.le_refl _) (fun k h => by cases h)
  have hg0 : w.heap.size < w0.heap.size := (hown.lt w.heap.size rfl).2
  have hF0 : Fill 2 83 oDot w0 w.heap.size n l 0 [] := Fill.start hown
  clear hgr hi hz0 hz1 hz2 hown
  go_wp2_with fail
  go_loopw [4] (fun i wr => ∃ (k : Nat) (Fs : List (List Nat)), k ≤ n ∧ i = .int .i64 k ∧ Fill 2 83 oDot wr w.heap.size n l k Fs ∧ w.heap.size < wr.heap.size ∧ Below w.heap.size w wr) (fun i _ => n - (intOf i).toNat)
  case atStart => exact ⟨0, [], Nat.zero_le _, rfl, hF0, hg0, hb0⟩
  case round =>
    obtain ⟨k, Fs, hk, rfl, hFk, hgk, hbk⟩ := hrel
    clear hF0 hg0 hb0
    by_cases hlt : k < n
    · have hkl : k < l.length := by rw [HX.out]; exact hlt
      have hwk := sumW_le (f := wDot) hkl
      obtain ⟨b1, o1, rfl, hB, cs, hcl, hcell, hrT⟩ := (hr.below rDot_good hbk) k hkl
      have hrT' := rDot_good.mono hrT hbk.size
      have hstep := fun (w1 : World) (hb : Below wr.heap.size wr w1) (cs : List Value) (F : List Nat) ho hF hN => Fill.step (w1 := w1) oDot_good hFk hgk hkl hlt hb (cs := cs) (F := F) ho hF hN
      generalize l[k] = m at *
      obtain ⟨rfl, h0, h1, _⟩ := hrT
      have k0 := hcell 0 _ rfl
      have k1 := hcell 1 _ rfl
      rw [Nat.add_zero] at k0
      clear hcell hcl
      go_wp2_with fail
      refine (toDot_any _ m wr hrT' (by omega)).mono ?_
      rintro e w1 ⟨cs1, F1, rfl, ho1, hn1, hl1, hb1⟩
      have hst := hstep w1 hb1 cs1 F1 ho1 hl1 hn1
      have hF1 := hFk.keep oDot_good hgk hb1
      have hB1 := hbk.trans (hb1.mono hbk.size)
      have hg1 : w.heap.size < w1.heap.size := Nat.lt_of_lt_of_le hgk hb1.size
      obtain ⟨rfl, y0, y1, hG⟩ := ho1
      obtain ⟨u0, q0⟩ := hF1.cells hlt 0 (by omega)
      have r0 := hF1.free (k * 2 + 0)
      obtain ⟨u1, q1⟩ := hF1.cells hlt 1 (by omega)
      have r1 := hF1.free (k * 2 + 1)
      rw [Nat.add_zero] at q0 r0
      clear hstep hF1 hFk hrT' hl1 hn1
      go_wp2_with fail
      go_roundw
      case rel => exact ⟨k + 1, Fs ++ [F1], by omega, by go_num, hst, by simpa using hg1, below_setCells (Nat.le_refl _) [.int .i64 m.fR, .int .i64 m.fN] _ _ _ hB1⟩
      case measure => simp [intOf]; omega
    · have hkn : k = n := by omega
      subst hkn
      have hd := hFk.done HX.out (by unfold maxLen; omega)
      go_wp2_with fail
      go_ret
      refine ⟨_, _, rfl, hd.1, hd.2, ?_, hbk⟩
      intro b hb
      rcases List.mem_cons.1 hb with rfl | hb
      · exact Nat.le_refl _
      · have := (hFk.over b hb).1; omega

set_option maxHeartbeats 1000000 in
theorem toCmd_any (cs : List Value) (m : MCmd) (w : World) (hr : rCmd w.heap.size w cs m) (hsz : wCmd m ≤ 1048576) :
    Calls Try.prog 54 #[.agg cs.toArray] w fun e w' => ∃ (cs' : List Value) (F : List Nat), e = .returned (.agg cs'.toArray) ∧ oCmd w' cs' m F ∧ F.Nodup ∧ (∀ b, b ∈ F → w.heap.size ≤ b) ∧ Below w.heap.size w w' := by
  obtain ⟨rfl, h0, h1, h2, _⟩ := hr
  have hsz' : m.fKey.size + m.fVal.size ≤ 1048576 := hsz
  clear hsz
  have hbA : ∀ o1 o2 o3, Below w.heap.size w (((w.alloc o1).alloc o2).alloc o3) := fun o1 o2 o3 => (((Below.refl _ _).alloc (Nat.le_refl _) o1).alloc (by simp) o2).alloc (by simp; omega) o3
  go_enter Try.func54, Try.ntmps54
  go_wp2_with fail
  refine bodyPost_ret (v := .agg #[.int .i64 m.fKind, .string m.fKey, .string m.fVal]) (by simp [results, Try.results54, go_sem]) rfl ⟨[.int .i64 m.fKind, .string m.fKey, .string m.fVal], [], rfl, ?_, List.nodup_nil, (fun b hb => by cases hb), (hbA _ _ _)⟩
  exact ⟨rfl, h0, h1, h2, rfl⟩

set_option maxHeartbeats 1000000 in
theorem toRec_any (cs : List Value) (m : MRec) (w : World) (hr : rRec w.heap.size w cs m) (hsz : wRec m ≤ 1048576) :
    Calls Try.prog 64 #[.agg cs.toArray] w fun e w' => ∃ (cs' : List Value) (F : List Nat), e = .returned (.agg cs'.toArray) ∧ oRec w' cs' m F ∧ F.Nodup ∧ (∀ b, b ∈ F → w.heap.size ≤ b) ∧ Below w.heap.size w w' := by
  obtain ⟨a5, c5, rfl, h0, h1, h2, h3, h4, h5, h6, _⟩ := hr
  have hsz' : m.fC.fKey.size + m.fC.fVal.size + (m.fDeps.length + sumW wDot m.fDeps) ≤ 1048576 := hsz
  clear hsz
  have hbA : ∀ o1 o2 o3, Below w.heap.size w (((w.alloc o1).alloc o2).alloc o3) := fun o1 o2 o3 => (((Below.refl _ _).alloc (Nat.le_refl _) o1).alloc (by simp) o2).alloc (by simp; omega) o3
  go_enter Try.func64, Try.ntmps64
  have hC1 := fun (W : World) (hb : Below w.heap.size w W) => toDot_any [.int .i64 m.fD.fR, .int .i64 m.fD.fN] m.fD W ⟨rfl, h0, h1, trivial⟩ (by have h : wDot m.fD = 0 := rfl; omega)
  go_wp2_with fail
  refine Calls.mono (hC1 _ ?_) ?_
  · exact (hbA _ _ _)
  clear hC1
  rintro e w1 ⟨v1, F1, rfl, ho1, hn1, hl1, hx1⟩
  obtain ⟨rfl, _, _, rfl⟩ := ho1
  obtain ⟨hc1, hf1⟩ := bcell hx1
  have hz1 : w.heap.size + 1 + 1 + 1 ≤ w1.heap.size := by have := hx1.size; simpa using this
  have hB1 : Below w.heap.size w w1 := Below.trans (hbA _ _ _) (hx1.mono (by first | (simp; omega) | (have := hz1; simp; omega)))
  have hy1a : w.heap.size < w1.heap.size := by omega
  have hy1b : w.heap.size + 1 < w1.heap.size := by omega
  have hy1c : w.heap.size + 1 + 1 < w1.heap.size := by omega
  have hA1 := Above.below (X := w.heap.size + 1 + 1 + 1) hx1
  clear hl1
  have hC2 := fun (W : World) (hb : Below w.heap.size w W) => toCmd_any [.int .i64 m.fC.fKind, .string m.fC.fKey, .string m.fC.fVal] m.fC W ⟨rfl, h2, h3, h4, trivial⟩ (by have h : wCmd m.fC = m.fC.fKey.size + m.fC.fVal.size := rfl; omega)
  go_wp2_with fail
  refine Calls.mono (hC2 _ ?_) ?_
  · exact (by repeat (first | with_reducible exact hB1 | refine Below.setCell ?_ (by dsimp only; omega) _))
  clear hC2
  rintro e w2 ⟨v2, F2, rfl, ho2, hn2, hl2, hx2⟩
  obtain ⟨rfl, _, _, _, rfl⟩ := ho2
  obtain ⟨hc2, hf2⟩ := bcell hx2
  have hz2 : w.heap.size + 1 + 1 + 1 ≤ w2.heap.size := by have := hx2.size; simp at this; omega
  have hB2 : Below w.heap.size w w2 := Below.trans (by repeat (first | with_reducible exact hB1 | refine Below.setCell ?_ (by dsimp only; omega) _)) (hx2.mono (by first | (simp; omega) | (have := hz1; simp; omega)))
  have hy2a : w.heap.size < w2.heap.size := by omega
  have hy2b : w.heap.size + 1 < w2.heap.size := by omega
  have hy2c : w.heap.size + 1 + 1 < w2.heap.size := by omega
  have hA2 := Above.below (X := w.heap.size + 1 + 1 + 1) hx2
  have hs2 : w1.heap.size ≤ w2.heap.size := by have h := hx2.size; simpa using h
  clear hl2
  have hC3 := fun (W : World) (hb : Below w.heap.size w W) => toDotS_any a5 _ c5 m.fDeps W rfl (LeafL.mono rDot_good (h5.below rDot_good hb) hb.size) (by omega)
  go_wp2_with fail
  refine Calls.mono (hC3 _ ?_) ?_
  · exact (by repeat (first | with_reducible exact hB2 | refine Below.setCell ?_ (by dsimp only; omega) _))
  clear hC3
  rintro e w3 ⟨v3, F3, rfl, ho3, hn3, hl3, hx3⟩
  obtain ⟨ax3, cx3, rfl, _⟩ := ownS.read oDot_good ho3
  obtain ⟨hc3, hf3⟩ := bcell hx3
  have hz3 : w.heap.size + 1 + 1 + 1 ≤ w3.heap.size := by have := hx3.size; simp at this; omega
  have hB3 : Below w.heap.size w w3 := Below.trans (by repeat (first | with_reducible exact hB2 | refine Below.setCell ?_ (by dsimp only; omega) _)) (hx3.mono (by first | (simp; omega) | (have := hz2; simp; omega)))
  have hy3a : w.heap.size < w3.heap.size := by omega
  have hy3b : w.heap.size + 1 < w3.heap.size := by omega
  have hy3c : w.heap.size + 1 + 1 < w3.heap.size := by omega
  have hA3 := Above.below (X := w.heap.size + 1 + 1 + 1) hx3
  have hlo3 : ∀ b, b ∈ F3 → w.heap.size + 1 + 1 + 1 ≤ b := fun b hb => by have h := hl3 b hb; simp at h; omega
  have hhi3 : ∀ b, b ∈ F3 → b < w3.heap.size := ownS.lt oDot_good ho3
  have hs3 : w2.heap.size ≤ w3.heap.size := by have h := hx3.size; simpa using h
  have hg3 : ∀ b, b ∈ F3 → w2.heap.size ≤ b := fun b hb => by simpa using hl3 b hb
  clear hl3
  go_wp2_with fail
  refine bodyPost_ret (v := .agg #[.int .i64 m.fD.fR, .int .i64 m.fD.fN, .int .i64 m.fC.fKind, .string m.fC.fKey, .string m.fC.fVal, .slice ax3 m.fDeps.length cx3, .bool m.fSure]) (by simp [results, Try.results64, go_sem, *]) rfl ⟨[.int .i64 m.fD.fR, .int .i64 m.fD.fN, .int .i64 m.fC.fKind, .string m.fC.fKey, .string m.fC.fVal, .slice ax3 m.fDeps.length cx3, .bool m.fSure], F3 ++ [], rfl, ?_, (by rw [List.append_nil]; exact hn3), (by rw [List.append_nil]; exact (fun b hb => by have := hlo3 b hb; omega)), (by repeat (first | with_reducible exact hB3 | refine Below.setCell ?_ (by dsimp only; omega) _))⟩
  exact ⟨_, F3, rfl, h0, h1, h2, h3, h4, ownS.frame oDot_good ho3 (fun b hb => (show Above (w.heap.size + 1 + 1 + 1) w3 _ from by repeat (first | with_reducible exact Above.refl _ _ | refine Above.setCell ?_ (by dsimp only; omega) _ | with_reducible refine Above.trans ?_ hA3 | with_reducible refine Above.trans ?_ hA2 | with_reducible refine Above.trans ?_ hA1)).block b (hlo3 b hb) (hhi3 b hb)), h6, rfl⟩

theorem Try.infoOfRec : (Try.prog.info? 121).map (fun i => (i.zero, i.size, i.bytes)) = some (some (.agg #[.int .i64 0, .int .i64 0, .int .i64 0, .string ⟨#[]⟩, .string ⟨#[]⟩, .slice none 0 0, .bool false]), 7, 88) := by kernel_rfl

set_option maxHeartbeats 1000000 in
theorem toRecS_any (a : Option Addr) (n cap : Nat) (l : List MRec) (w : World) (hx : l.length = n) (hr : LeafL 7 rRec w.heap.size w a cap l) (hsz : n + sumW wRec l ≤ 1048576) :
    Calls Try.prog 48 #[.slice a n cap] w fun e w' => ∃ (v : Value) (F : List Nat), e = .returned v ∧ ownS 7 121 oRec w' v l F ∧ F.Nodup ∧ (∀ b, b ∈ F → w.heap.size ≤ b) ∧ Below w.heap.size w w' := by
  obtain ⟨i0, hi, hz0, hz1, hz2⟩ := info_parts Try.infoOfRec
  have HX := Hid.mk hx
  clear hx
  replace hr := hr.2.2
  go_enter Try.func48, Try.ntmps48
  go_wp2_with (at_make; refine wpList_make_full _ rfl _ _ 44 rfl w.heap.size 121 i0 (.agg #[.int .i64 0, .int .i64 0, .int .i64 0, .string ⟨#[]⟩, .string ⟨#[]⟩, .slice none 0 0, .bool false]) 7 Try.underlying44 hi hz0 hz1 .i64 .i64 _ _ n rfl rfl rfl rfl (by rw [hz2]; omega) (by unfold maxLen; omega) (Nat.le_refl _) ?_)
  intro w0 hown hgr
  have hb0 : Below w.heap.size w w0 := (Below.refl _ _).grown hgr (Nat.le_refl _) (fun k h => by cases h)
  have hg0 : w.heap.size < w0.heap.size := (hown.lt w.heap.size rfl).2
  have hF0 : Fill 7 121 oRec w0 w.heap.size n l 0 [] := Fill.start hown
  clear hgr hi hz0 hz1 hz2 hown
  go_wp2_with fail
  go_loopw [4] (fun i wr => ∃ (k : Nat) (Fs : List (List Nat)), k ≤ n ∧ i = .int .i64 k ∧ Fill 7 121 oRec wr w.heap.size n l k Fs ∧ w.heap.size < wr.heap.size ∧ Below w.heap.size w wr) (fun i _ => n - (intOf i).toNat)
  case atStart => exact ⟨0, [], Nat.zero_le _, rfl, hF0, hg0, hb0⟩
  case round =>
    obtain ⟨k, Fs, hk, rfl, hFk, hgk, hbk⟩ := hrel
    clear hF0 hg0 hb0
    by_cases hlt : k < n
    · have hkl : k < l.length := by rw [HX.out]; exact hlt
      have hwk := sumW_le (f := wRec) hkl
      obtain ⟨b1, o1, rfl, hB, cs, hcl, hcell, hrT⟩ := (hr.below rRec_good hbk) k hkl
      have hrT' := rRec_good.mono hrT hbk.size
      have hstep := fun (w1 : World) (hb : Below wr.heap.size wr w1) (cs : List Value) (F : List Nat) ho hF hN => Fill.step (w1 := w1) oRec_good hFk hgk hkl hlt hb (cs := cs) (F := F) ho hF hN
      generalize l[k] = m at *
      obtain ⟨a5, c5, rfl, h0, h1, h2, h3, h4, h5, h6, _⟩ := hrT
      have k0 := hcell 0 _ rfl
      have k1 := hcell 1 _ rfl
      have k2 := hcell 2 _ rfl
      have k3 := hcell 3 _ rfl
      have k4 := hcell 4 _ rfl
      have k5 := hcell 5 _ rfl
      have k6 := hcell 6 _ rfl
      rw [Nat.add_zero] at k0
      clear hcell hcl
      go_wp2_with fail
      refine (toRec_any _ m wr hrT' (by omega)).mono ?_
      rintro e w1 ⟨cs1, F1, rfl, ho1, hn1, hl1, hb1⟩
      have hst := hstep w1 hb1 cs1 F1 ho1 hl1 hn1
      have hF1 := hFk.keep oRec_good hgk hb1
      have hB1 := hbk.trans (hb1.mono hbk.size)
      have hg1 : w.heap.size < w1.heap.size := Nat.lt_of_lt_of_le hgk hb1.size
      obtain ⟨v5, G5, rfl, y0, y1, y2, y3, y4, y5, y6, hG⟩ := ho1
      obtain ⟨ax5, cx5, rfl, _⟩ := ownS.read oDot_good y5
      obtain ⟨u0, q0⟩ := hF1.cells hlt 0 (by omega)
      have r0 := hF1.free (k * 7 + 0)
      obtain ⟨u1, q1⟩ := hF1.cells hlt 1 (by omega)
      have r1 := hF1.free (k * 7 + 1)
      obtain ⟨u2, q2⟩ := hF1.cells hlt 2 (by omega)
      have r2 := hF1.free (k * 7 + 2)
      obtain ⟨u3, q3⟩ := hF1.cells hlt 3 (by omega)
      have r3 := hF1.free (k * 7 + 3)
      obtain ⟨u4, q4⟩ := hF1.cells hlt 4 (by omega)
      have r4 := hF1.free (k * 7 + 4)
      obtain ⟨u5, q5⟩ := hF1.cells hlt 5 (by omega)
      have r5 := hF1.free (k * 7 + 5)
      obtain ⟨u6, q6⟩ := hF1.cells hlt 6 (by omega)
      have r6 := hF1.free (k * 7 + 6)
      rw [Nat.add_zero] at q0 r0
      clear hstep hF1 hFk hrT' hl1 hn1
      go_wp2_with fail
      go_roundw
      case rel => exact ⟨k + 1, Fs ++ [F1], by omega, by go_num, hst, by simpa using hg1, below_setCells (Nat.le_refl _) [.int .i64 m.fD.fR, .int .i64 m.fD.fN, .int .i64 m.fC.fKind, .string m.fC.fKey, .string m.fC.fVal, .slice ax5 m.fDeps.length cx5, .bool m.fSure] _ _ _ hB1⟩
      case measure => simp [intOf]; omega
    · have hkn : k = n := by omega
      subst hkn
      have hd := hFk.done HX.out (by unfold maxLen; omega)
      go_wp2_with fail
      go_ret
      refine ⟨_, _, rfl, hd.1, hd.2, ?_, hbk⟩
      intro b hb
      rcases List.mem_cons.1 hb with rfl | hb
      · exact Nat.le_refl _
      · have := (hFk.over b hb).1; omega

set_option maxHeartbeats 1000000 in
theorem toAck_any (cs : List Value) (m : MAck) (w : World) (hr : rAck w.heap.size w cs m) (hsz : wAck m ≤ 1048576) :
    Calls Try.prog 65 #[.agg cs.toArray] w fun e w' => ∃ (cs' : List Value) (F : List Nat), e = .returned (.agg cs'.toArray) ∧ oAck w' cs' m F ∧ F.Nodup ∧ (∀ b, b ∈ F → w.heap.size ≤ b) ∧ Below w.heap.size w w' := by
  obtain ⟨rfl, h0, h1, h2, _⟩ := hr
  have hsz' : 0 ≤ 1048576 := hsz
  clear hsz
  have hbA : ∀ o1 o2 o3, Below w.heap.size w (((w.alloc o1).alloc o2).alloc o3) := fun o1 o2 o3 => (((Below.refl _ _).alloc (Nat.le_refl _) o1).alloc (by simp) o2).alloc (by simp; omega) o3
  go_enter Try.func65, Try.ntmps65
  have hC1 := fun (W : World) (hb : Below w.heap.size w W) => toDot_any [.int .i64 m.fD.fR, .int .i64 m.fD.fN] m.fD W ⟨rfl, h0, h1, trivial⟩ (by have h : wDot m.fD = 0 := rfl; omega)
  go_wp2_with fail
  refine Calls.mono (hC1 _ ?_) ?_
  · exact (hbA _ _ _)
  clear hC1
  rintro e w1 ⟨v1, F1, rfl, ho1, hn1, hl1, hx1⟩
  obtain ⟨rfl, _, _, rfl⟩ := ho1
  obtain ⟨hc1, hf1⟩ := bcell hx1
  have hz1 : w.heap.size + 1 + 1 + 1 ≤ w1.heap.size := by have := hx1.size; simpa using this
  have hB1 : Below w.heap.size w w1 := Below.trans (hbA _ _ _) (hx1.mono (by first | (simp; omega) | (have := hz1; simp; omega)))
  have hy1a : w.heap.size < w1.heap.size := by omega
  have hy1b : w.heap.size + 1 < w1.heap.size := by omega
  have hy1c : w.heap.size + 1 + 1 < w1.heap.size := by omega
  have hA1 := Above.below (X := w.heap.size + 1 + 1 + 1) hx1
  clear hl1
  go_wp2_with fail
  refine bodyPost_ret (v := .agg #[.int .i64 m.fD.fR, .int .i64 m.fD.fN, .int .i64 m.fFrom]) (by simp [results, Try.results65, go_sem, *]) rfl ⟨[.int .i64 m.fD.fR, .int .i64 m.fD.fN, .int .i64 m.fFrom], [], rfl, ?_, List.nodup_nil, (fun b hb => by cases hb), (by repeat (first | with_reducible exact hB1 | refine Below.setCell ?_ (by dsimp only; omega) _))⟩
  exact ⟨rfl, h0, h1, h2, rfl⟩

theorem Try.infoOfAck : (Try.prog.info? 123).map (fun i => (i.zero, i.size, i.bytes)) = some (some (.agg #[.int .i64 0, .int .i64 0, .int .i64 0]), 3, 24) := by kernel_rfl

set_option maxHeartbeats 1000000 in
theorem toAckS_any (a : Option Addr) (n cap : Nat) (l : List MAck) (w : World) (hx : l.length = n) (hr : LeafL 3 rAck w.heap.size w a cap l) (hsz : n + sumW wAck l ≤ 1048576) :
    Calls Try.prog 49 #[.slice a n cap] w fun e w' => ∃ (v : Value) (F : List Nat), e = .returned v ∧ ownS 3 123 oAck w' v l F ∧ F.Nodup ∧ (∀ b, b ∈ F → w.heap.size ≤ b) ∧ Below w.heap.size w w' := by
  obtain ⟨i0, hi, hz0, hz1, hz2⟩ := info_parts Try.infoOfAck
  have HX := Hid.mk hx
  clear hx
  replace hr := hr.2.2
  go_enter Try.func49, Try.ntmps49
  go_wp2_with (at_make; refine wpList_make_full _ rfl _ _ 45 rfl w.heap.size 123 i0 (.agg #[.int .i64 0, .int .i64 0, .int .i64 0]) 3 Try.underlying45 hi hz0 hz1 .i64 .i64 _ _ n rfl rfl rfl rfl (by rw [hz2]; omega) (by unfold maxLen; omega) (Nat.le_refl _) ?_)
  intro w0 hown hgr
  have hb0 : Below w.heap.size w w0 := (Below.refl _ _).grown hgr (Nat.le_refl _) (fun k h => by cases h)
  have hg0 : w.heap.size < w0.heap.size := (hown.lt w.heap.size rfl).2
  have hF0 : Fill 3 123 oAck w0 w.heap.size n l 0 [] := Fill.start hown
  clear hgr hi hz0 hz1 hz2 hown
  go_wp2_with fail
  go_loopw [4] (fun i wr => ∃ (k : Nat) (Fs : List (List Nat)), k ≤ n ∧ i = .int .i64 k ∧ Fill 3 123 oAck wr w.heap.size n l k Fs ∧ w.heap.size < wr.heap.size ∧ Below w.heap.size w wr) (fun i _ => n - (intOf i).toNat)
  case atStart => exact ⟨0, [], Nat.zero_le _, rfl, hF0, hg0, hb0⟩
  case round =>
    obtain ⟨k, Fs, hk, rfl, hFk, hgk, hbk⟩ := hrel
    clear hF0 hg0 hb0
    by_cases hlt : k < n
    · have hkl : k < l.length := by rw [HX.out]; exact hlt
      have hwk := sumW_le (f := wAck) hkl
      obtain ⟨b1, o1, rfl, hB, cs, hcl, hcell, hrT⟩ := (hr.below rAck_good hbk) k hkl
      have hrT' := rAck_good.mono hrT hbk.size
      have hstep := fun (w1 : World) (hb : Below wr.heap.size wr w1) (cs : List Value) (F : List Nat) ho hF hN => Fill.step (w1 := w1) oAck_good hFk hgk hkl hlt hb (cs := cs) (F := F) ho hF hN
      generalize l[k] = m at *
      obtain ⟨rfl, h0, h1, h2, _⟩ := hrT
      have k0 := hcell 0 _ rfl
      have k1 := hcell 1 _ rfl
      have k2 := hcell 2 _ rfl
      rw [Nat.add_zero] at k0
      clear hcell hcl
      go_wp2_with fail
      refine (toAck_any _ m wr hrT' (by omega)).mono ?_
      rintro e w1 ⟨cs1, F1, rfl, ho1, hn1, hl1, hb1⟩
      have hst := hstep w1 hb1 cs1 F1 ho1 hl1 hn1
      have hF1 := hFk.keep oAck_good hgk hb1
      have hB1 := hbk.trans (hb1.mono hbk.size)
      have hg1 : w.heap.size < w1.heap.size := Nat.lt_of_lt_of_le hgk hb1.size
      obtain ⟨rfl, y0, y1, y2, hG⟩ := ho1
      obtain ⟨u0, q0⟩ := hF1.cells hlt 0 (by omega)
      have r0 := hF1.free (k * 3 + 0)
      obtain ⟨u1, q1⟩ := hF1.cells hlt 1 (by omega)
      have r1 := hF1.free (k * 3 + 1)
      obtain ⟨u2, q2⟩ := hF1.cells hlt 2 (by omega)
      have r2 := hF1.free (k * 3 + 2)
      rw [Nat.add_zero] at q0 r0
      clear hstep hF1 hFk hrT' hl1 hn1
      go_wp2_with fail
      go_roundw
      case rel => exact ⟨k + 1, Fs ++ [F1], by omega, by go_num, hst, by simpa using hg1, below_setCells (Nat.le_refl _) [.int .i64 m.fD.fR, .int .i64 m.fD.fN, .int .i64 m.fFrom] _ _ _ hB1⟩
      case measure => simp [intOf]; omega
    · have hkn : k = n := by omega
      subst hkn
      have hd := hFk.done HX.out (by unfold maxLen; omega)
      go_wp2_with fail
      go_ret
      refine ⟨_, _, rfl, hd.1, hd.2, ?_, hbk⟩
      intro b hb
      rcases List.mem_cons.1 hb with rfl | hb
      · exact Nat.le_refl _
      · have := (hFk.over b hb).1; omega

set_option maxHeartbeats 1000000 in
theorem toPair_any (cs : List Value) (m : MPair) (w : World) (hr : rPair w.heap.size w cs m) (hsz : wPair m ≤ 1048576) :
    Calls Try.prog 66 #[.agg cs.toArray] w fun e w' => ∃ (cs' : List Value) (F : List Nat), e = .returned (.agg cs'.toArray) ∧ oPair w' cs' m F ∧ F.Nodup ∧ (∀ b, b ∈ F → w.heap.size ≤ b) ∧ Below w.heap.size w w' := by
  obtain ⟨rfl, h0, h1, h2, _⟩ := hr
  have hsz' : m.fKey.size + m.fVal.size ≤ 1048576 := hsz
  clear hsz
  have hbA : ∀ o1 o2 o3, Below w.heap.size w (((w.alloc o1).alloc o2).alloc o3) := fun o1 o2 o3 => (((Below.refl _ _).alloc (Nat.le_refl _) o1).alloc (by simp) o2).alloc (by simp; omega) o3
  go_enter Try.func66, Try.ntmps66
  go_wp2_with fail
  refine bodyPost_ret (v := .agg #[.string m.fKey, .string m.fVal, .bool m.fGone]) (by simp [results, Try.results66, go_sem]) rfl ⟨[.string m.fKey, .string m.fVal, .bool m.fGone], [], rfl, ?_, List.nodup_nil, (fun b hb => by cases hb), (hbA _ _ _)⟩
  exact ⟨rfl, h0, h1, h2, rfl⟩

theorem Try.infoOfPair : (Try.prog.info? 55).map (fun i => (i.zero, i.size, i.bytes)) = some (some (.agg #[.string ⟨#[]⟩, .string ⟨#[]⟩, .bool false]), 3, 40) := by kernel_rfl

set_option maxHeartbeats 1000000 in
theorem toPairS_any (a : Option Addr) (n cap : Nat) (l : List MPair) (w : World) (hx : l.length = n) (hr : LeafL 3 rPair w.heap.size w a cap l) (hsz : n + sumW wPair l ≤ 1048576) :
    Calls Try.prog 51 #[.slice a n cap] w fun e w' => ∃ (v : Value) (F : List Nat), e = .returned v ∧ ownS 3 55 oPair w' v l F ∧ F.Nodup ∧ (∀ b, b ∈ F → w.heap.size ≤ b) ∧ Below w.heap.size w w' := by
  obtain ⟨i0, hi, hz0, hz1, hz2⟩ := info_parts Try.infoOfPair
  have HX := Hid.mk hx
  clear hx
  replace hr := hr.2.2
  go_enter Try.func51, Try.ntmps51
  go_wp2_with (at_make; refine wpList_make_full _ rfl _ _ 28 rfl w.heap.size 55 i0 (.agg #[.string ⟨#[]⟩, .string ⟨#[]⟩, .bool false]) 3 Try.underlying28 hi hz0 hz1 .i64 .i64 _ _ n rfl rfl rfl rfl (by rw [hz2]; omega) (by unfold maxLen; omega) (Nat.le_refl _) ?_)
  intro w0 hown hgr
  have hb0 : Below w.heap.size w w0 := (Below.refl _ _).grown hgr (Nat.le_refl _) (fun k h => by cases h)
  have hg0 : w.heap.size < w0.heap.size := (hown.lt w.heap.size rfl).2
  have hF0 : Fill 3 55 oPair w0 w.heap.size n l 0 [] := Fill.start hown
  clear hgr hi hz0 hz1 hz2 hown
  go_wp2_with fail
  go_loopw [4] (fun i wr => ∃ (k : Nat) (Fs : List (List Nat)), k ≤ n ∧ i = .int .i64 k ∧ Fill 3 55 oPair wr w.heap.size n l k Fs ∧ w.heap.size < wr.heap.size ∧ Below w.heap.size w wr) (fun i _ => n - (intOf i).toNat)
  case atStart => exact ⟨0, [], Nat.zero_le _, rfl, hF0, hg0, hb0⟩
  case round =>
    obtain ⟨k, Fs, hk, rfl, hFk, hgk, hbk⟩ := hrel
    clear hF0 hg0 hb0
    by_cases hlt : k < n
    · have hkl : k < l.length := by rw [HX.out]; exact hlt
      have hwk := sumW_le (f := wPair) hkl
      obtain ⟨b1, o1, rfl, hB, cs, hcl, hcell, hrT⟩ := (hr.below rPair_good hbk) k hkl
      have hrT' := rPair_good.mono hrT hbk.size
      have hstep := fun (w1 : World) (hb : Below wr.heap.size wr w1) (cs : List Value) (F : List Nat) ho hF hN => Fill.step (w1 := w1) oPair_good hFk hgk hkl hlt hb (cs := cs) (F := F) ho hF hN
      generalize l[k] = m at *
      obtain ⟨rfl, h0, h1, h2, _⟩ := hrT
      have k0 := hcell 0 _ rfl
      have k1 := hcell 1 _ rfl
      have k2 := hcell 2 _ rfl
      rw [Nat.add_zero] at k0
      clear hcell hcl
      go_wp2_with fail
      refine (toPair_any _ m wr hrT' (by omega)).mono ?_
      rintro e w1 ⟨cs1, F1, rfl, ho1, hn1, hl1, hb1⟩
      have hst := hstep w1 hb1 cs1 F1 ho1 hl1 hn1
      have hF1 := hFk.keep oPair_good hgk hb1
      have hB1 := hbk.trans (hb1.mono hbk.size)
      have hg1 : w.heap.size < w1.heap.size := Nat.lt_of_lt_of_le hgk hb1.size
      obtain ⟨rfl, y0, y1, y2, hG⟩ := ho1
      obtain ⟨u0, q0⟩ := hF1.cells hlt 0 (by omega)
      have r0 := hF1.free (k * 3 + 0)
      obtain ⟨u1, q1⟩ := hF1.cells hlt 1 (by omega)
      have r1 := hF1.free (k * 3 + 1)
      obtain ⟨u2, q2⟩ := hF1.cells hlt 2 (by omega)
      have r2 := hF1.free (k * 3 + 2)
      rw [Nat.add_zero] at q0 r0
      clear hstep hF1 hFk hrT' hl1 hn1
      go_wp2_with fail
      go_roundw
      case rel => exact ⟨k + 1, Fs ++ [F1], by omega, by go_num, hst, by simpa using hg1, below_setCells (Nat.le_refl _) [.string m.fKey, .string m.fVal, .bool m.fGone] _ _ _ hB1⟩
      case measure => simp [intOf]; omega
    · have hkn : k = n := by omega
      subst hkn
      have hd := hFk.done HX.out (by unfold maxLen; omega)
      go_wp2_with fail
      go_ret
      refine ⟨_, _, rfl, hd.1, hd.2, ?_, hbk⟩
      intro b hb
      rcases List.mem_cons.1 hb with rfl | hb
      · exact Nat.le_refl _
      · have := (hFk.over b hb).1; omega

set_option maxHeartbeats 1000000 in
theorem toAnswer_any (cs : List Value) (m : MAnswer) (w : World) (hr : rAnswer w.heap.size w cs m) (hsz : wAnswer m ≤ 1048576) :
    Calls Try.prog 67 #[.agg cs.toArray] w fun e w' => ∃ (cs' : List Value) (F : List Nat), e = .returned (.agg cs'.toArray) ∧ oAnswer w' cs' m F ∧ F.Nodup ∧ (∀ b, b ∈ F → w.heap.size ≤ b) ∧ Below w.heap.size w w' := by
  obtain ⟨rfl, h0, h1, h2, h3, _⟩ := hr
  have hsz' : m.fVal.size ≤ 1048576 := hsz
  clear hsz
  have hbA : ∀ o1 o2 o3, Below w.heap.size w (((w.alloc o1).alloc o2).alloc o3) := fun o1 o2 o3 => (((Below.refl _ _).alloc (Nat.le_refl _) o1).alloc (by simp) o2).alloc (by simp; omega) o3
  go_enter Try.func67, Try.ntmps67
  have hC1 := fun (W : World) (hb : Below w.heap.size w W) => toDot_any [.int .i64 m.fD.fR, .int .i64 m.fD.fN] m.fD W ⟨rfl, h0, h1, trivial⟩ (by have h : wDot m.fD = 0 := rfl; omega)
  go_wp2_with fail
  refine Calls.mono (hC1 _ ?_) ?_
  · exact (hbA _ _ _)
  clear hC1
  rintro e w1 ⟨v1, F1, rfl, ho1, hn1, hl1, hx1⟩
  obtain ⟨rfl, _, _, rfl⟩ := ho1
  obtain ⟨hc1, hf1⟩ := bcell hx1
  have hz1 : w.heap.size + 1 + 1 + 1 ≤ w1.heap.size := by have := hx1.size; simpa using this
  have hB1 : Below w.heap.size w w1 := Below.trans (hbA _ _ _) (hx1.mono (by first | (simp; omega) | (have := hz1; simp; omega)))
  have hy1a : w.heap.size < w1.heap.size := by omega
  have hy1b : w.heap.size + 1 < w1.heap.size := by omega
  have hy1c : w.heap.size + 1 + 1 < w1.heap.size := by omega
  have hA1 := Above.below (X := w.heap.size + 1 + 1 + 1) hx1
  clear hl1
  go_wp2_with fail
  refine bodyPost_ret (v := .agg #[.int .i64 m.fD.fR, .int .i64 m.fD.fN, .string m.fVal, .bool m.fHas]) (by simp [results, Try.results67, go_sem, *]) rfl ⟨[.int .i64 m.fD.fR, .int .i64 m.fD.fN, .string m.fVal, .bool m.fHas], [], rfl, ?_, List.nodup_nil, (fun b hb => by cases hb), (by repeat (first | with_reducible exact hB1 | refine Below.setCell ?_ (by dsimp only; omega) _))⟩
  exact ⟨rfl, h0, h1, h2, h3, rfl⟩

theorem Try.infoOfAnswer : (Try.prog.info? 125).map (fun i => (i.zero, i.size, i.bytes)) = some (some (.agg #[.int .i64 0, .int .i64 0, .string ⟨#[]⟩, .bool false]), 4, 40) := by kernel_rfl

set_option maxHeartbeats 1000000 in
theorem toAnswerS_any (a : Option Addr) (n cap : Nat) (l : List MAnswer) (w : World) (hx : l.length = n) (hr : LeafL 4 rAnswer w.heap.size w a cap l) (hsz : n + sumW wAnswer l ≤ 1048576) :
    Calls Try.prog 52 #[.slice a n cap] w fun e w' => ∃ (v : Value) (F : List Nat), e = .returned v ∧ ownS 4 125 oAnswer w' v l F ∧ F.Nodup ∧ (∀ b, b ∈ F → w.heap.size ≤ b) ∧ Below w.heap.size w w' := by
  obtain ⟨i0, hi, hz0, hz1, hz2⟩ := info_parts Try.infoOfAnswer
  have HX := Hid.mk hx
  clear hx
  replace hr := hr.2.2
  go_enter Try.func52, Try.ntmps52
  go_wp2_with (at_make; refine wpList_make_full _ rfl _ _ 47 rfl w.heap.size 125 i0 (.agg #[.int .i64 0, .int .i64 0, .string ⟨#[]⟩, .bool false]) 4 Try.underlying47 hi hz0 hz1 .i64 .i64 _ _ n rfl rfl rfl rfl (by rw [hz2]; omega) (by unfold maxLen; omega) (Nat.le_refl _) ?_)
  intro w0 hown hgr
  have hb0 : Below w.heap.size w w0 := (Below.refl _ _).grown hgr (Nat.le_refl _) (fun k h => by cases h)
  have hg0 : w.heap.size < w0.heap.size := (hown.lt w.heap.size rfl).2
  have hF0 : Fill 4 125 oAnswer w0 w.heap.size n l 0 [] := Fill.start hown
  clear hgr hi hz0 hz1 hz2 hown
  go_wp2_with fail
  go_loopw [4] (fun i wr => ∃ (k : Nat) (Fs : List (List Nat)), k ≤ n ∧ i = .int .i64 k ∧ Fill 4 125 oAnswer wr w.heap.size n l k Fs ∧ w.heap.size < wr.heap.size ∧ Below w.heap.size w wr) (fun i _ => n - (intOf i).toNat)
  case atStart => exact ⟨0, [], Nat.zero_le _, rfl, hF0, hg0, hb0⟩
  case round =>
    obtain ⟨k, Fs, hk, rfl, hFk, hgk, hbk⟩ := hrel
    clear hF0 hg0 hb0
    by_cases hlt : k < n
    · have hkl : k < l.length := by rw [HX.out]; exact hlt
      have hwk := sumW_le (f := wAnswer) hkl
      obtain ⟨b1, o1, rfl, hB, cs, hcl, hcell, hrT⟩ := (hr.below rAnswer_good hbk) k hkl
      have hrT' := rAnswer_good.mono hrT hbk.size
      have hstep := fun (w1 : World) (hb : Below wr.heap.size wr w1) (cs : List Value) (F : List Nat) ho hF hN => Fill.step (w1 := w1) oAnswer_good hFk hgk hkl hlt hb (cs := cs) (F := F) ho hF hN
      generalize l[k] = m at *
      obtain ⟨rfl, h0, h1, h2, h3, _⟩ := hrT
      have k0 := hcell 0 _ rfl
      have k1 := hcell 1 _ rfl
      have k2 := hcell 2 _ rfl
      have k3 := hcell 3 _ rfl
      rw [Nat.add_zero] at k0
      clear hcell hcl
      go_wp2_with fail
      refine (toAnswer_any _ m wr hrT' (by omega)).mono ?_
      rintro e w1 ⟨cs1, F1, rfl, ho1, hn1, hl1, hb1⟩
      have hst := hstep w1 hb1 cs1 F1 ho1 hl1 hn1
      have hF1 := hFk.keep oAnswer_good hgk hb1
      have hB1 := hbk.trans (hb1.mono hbk.size)
      have hg1 : w.heap.size < w1.heap.size := Nat.lt_of_lt_of_le hgk hb1.size
      obtain ⟨rfl, y0, y1, y2, y3, hG⟩ := ho1
      obtain ⟨u0, q0⟩ := hF1.cells hlt 0 (by omega)
      have r0 := hF1.free (k * 4 + 0)
      obtain ⟨u1, q1⟩ := hF1.cells hlt 1 (by omega)
      have r1 := hF1.free (k * 4 + 1)
      obtain ⟨u2, q2⟩ := hF1.cells hlt 2 (by omega)
      have r2 := hF1.free (k * 4 + 2)
      obtain ⟨u3, q3⟩ := hF1.cells hlt 3 (by omega)
      have r3 := hF1.free (k * 4 + 3)
      rw [Nat.add_zero] at q0 r0
      clear hstep hF1 hFk hrT' hl1 hn1
      go_wp2_with fail
      go_roundw
      case rel => exact ⟨k + 1, Fs ++ [F1], by omega, by go_num, hst, by simpa using hg1, below_setCells (Nat.le_refl _) [.int .i64 m.fD.fR, .int .i64 m.fD.fN, .string m.fVal, .bool m.fHas] _ _ _ hB1⟩
      case measure => simp [intOf]; omega
    · have hkn : k = n := by omega
      subst hkn
      have hd := hFk.done HX.out (by unfold maxLen; omega)
      go_wp2_with fail
      go_ret
      refine ⟨_, _, rfl, hd.1, hd.2, ?_, hbk⟩
      intro b hb
      rcases List.mem_cons.1 hb with rfl | hb
      · exact Nat.le_refl _
      · have := (hFk.over b hb).1; omega

set_option maxHeartbeats 1000000 in
theorem toReplica_any (cs : List Value) (m : MReplica) (w : World) (hr : rReplica w.heap.size w cs m) (hsz : wReplica m ≤ 1048576) :
    Calls Try.prog 31 #[.agg cs.toArray] w fun e w' => ∃ (cs' : List Value) (F : List Nat), e = .returned (.agg cs'.toArray) ∧ oReplica w' cs' m F ∧ F.Nodup ∧ (∀ b, b ∈ F → w.heap.size ≤ b) ∧ Below w.heap.size w w' := by
  obtain ⟨a3, c3, a4, c4, a5, c5, a6, c6, a7, c7, rfl, h0, h1, h2, h3, h4, h5, h6, h7, _⟩ := hr
  have hsz' : (m.fRecs.length + sumW wRec m.fRecs) + (m.fAcks.length + sumW wAck m.fAcks) + (m.fDone.length + sumW wDot m.fDone) + (m.fMap.length + sumW wPair m.fMap) + (m.fSaid.length + sumW wAnswer m.fSaid) ≤ 1048576 := hsz
  clear hsz
  have hbA : ∀ o1 o2 o3, Below w.heap.size w (((w.alloc o1).alloc o2).alloc o3) := fun o1 o2 o3 => (((Below.refl _ _).alloc (Nat.le_refl _) o1).alloc (by simp) o2).alloc (by simp; omega) o3
  go_enter Try.func31, Try.ntmps31
  have hC1 := fun (W : World) (hb : Below w.heap.size w W) => toRecS_any a3 _ c3 m.fRecs W rfl (LeafL.mono rRec_good (h3.below rRec_good hb) hb.size) (by omega)
  go_wp2_with fail
  refine Calls.mono (hC1 _ ?_) ?_
  · exact (hbA _ _ _)
  clear hC1
  rintro e w1 ⟨v1, F1, rfl, ho1, hn1, hl1, hx1⟩
  obtain ⟨ax1, cx1, rfl, _⟩ := ownS.read oRec_good ho1
  obtain ⟨hc1, hf1⟩ := bcell hx1
  have hz1 : w.heap.size + 1 + 1 + 1 ≤ w1.heap.size := by have := hx1.size; simpa using this
  have hB1 : Below w.heap.size w w1 := Below.trans (hbA _ _ _) (hx1.mono (by first | (simp; omega) | (have := hz1; simp; omega)))
  have hy1a : w.heap.size < w1.heap.size := by omega
  have hy1b : w.heap.size + 1 < w1.heap.size := by omega
  have hy1c : w.heap.size + 1 + 1 < w1.heap.size := by omega
  have hA1 := Above.below (X := w.heap.size + 1 + 1 + 1) hx1
  have hlo1 : ∀ b, b ∈ F1 → w.heap.size + 1 + 1 + 1 ≤ b := fun b hb => by have h := hl1 b hb; simp at h; omega
  have hhi1 : ∀ b, b ∈ F1 → b < w1.heap.size := ownS.lt oRec_good ho1
  clear hl1
  have hC2 := fun (W : World) (hb : Below w.heap.size w W) => toAckS_any a4 _ c4 m.fAcks W rfl (LeafL.mono rAck_good (h4.below rAck_good hb) hb.size) (by omega)
  go_wp2_with fail
  refine Calls.mono (hC2 _ ?_) ?_
  · exact (by repeat (first | with_reducible exact hB1 | refine Below.setCell ?_ (by dsimp only; omega) _))
  clear hC2
  rintro e w2 ⟨v2, F2, rfl, ho2, hn2, hl2, hx2⟩
  obtain ⟨ax2, cx2, rfl, _⟩ := ownS.read oAck_good ho2
  obtain ⟨hc2, hf2⟩ := bcell hx2
  have hz2 : w.heap.size + 1 + 1 + 1 ≤ w2.heap.size := by have := hx2.size; simp at this; omega
  have hB2 : Below w.heap.size w w2 := Below.trans (by repeat (first | with_reducible exact hB1 | refine Below.setCell ?_ (by dsimp only; omega) _)) (hx2.mono (by first | (simp; omega) | (have := hz1; simp; omega)))
  have hy2a : w.heap.size < w2.heap.size := by omega
  have hy2b : w.heap.size + 1 < w2.heap.size := by omega
  have hy2c : w.heap.size + 1 + 1 < w2.heap.size := by omega
  have hA2 := Above.below (X := w.heap.size + 1 + 1 + 1) hx2
  have hlo2 : ∀ b, b ∈ F2 → w.heap.size + 1 + 1 + 1 ≤ b := fun b hb => by have h := hl2 b hb; simp at h; omega
  have hhi2 : ∀ b, b ∈ F2 → b < w2.heap.size := ownS.lt oAck_good ho2
  have hs2 : w1.heap.size ≤ w2.heap.size := by have h := hx2.size; simpa using h
  have hg2 : ∀ b, b ∈ F2 → w1.heap.size ≤ b := fun b hb => by simpa using hl2 b hb
  clear hl2
  have hC3 := fun (W : World) (hb : Below w.heap.size w W) => toDotS_any a5 _ c5 m.fDone W rfl (LeafL.mono rDot_good (h5.below rDot_good hb) hb.size) (by omega)
  go_wp2_with fail
  refine Calls.mono (hC3 _ ?_) ?_
  · exact (by repeat (first | with_reducible exact hB2 | refine Below.setCell ?_ (by dsimp only; omega) _))
  clear hC3
  rintro e w3 ⟨v3, F3, rfl, ho3, hn3, hl3, hx3⟩
  obtain ⟨ax3, cx3, rfl, _⟩ := ownS.read oDot_good ho3
  obtain ⟨hc3, hf3⟩ := bcell hx3
  have hz3 : w.heap.size + 1 + 1 + 1 ≤ w3.heap.size := by have := hx3.size; simp at this; omega
  have hB3 : Below w.heap.size w w3 := Below.trans (by repeat (first | with_reducible exact hB2 | refine Below.setCell ?_ (by dsimp only; omega) _)) (hx3.mono (by first | (simp; omega) | (have := hz2; simp; omega)))
  have hy3a : w.heap.size < w3.heap.size := by omega
  have hy3b : w.heap.size + 1 < w3.heap.size := by omega
  have hy3c : w.heap.size + 1 + 1 < w3.heap.size := by omega
  have hA3 := Above.below (X := w.heap.size + 1 + 1 + 1) hx3
  have hlo3 : ∀ b, b ∈ F3 → w.heap.size + 1 + 1 + 1 ≤ b := fun b hb => by have h := hl3 b hb; simp at h; omega
  have hhi3 : ∀ b, b ∈ F3 → b < w3.heap.size := ownS.lt oDot_good ho3
  have hs3 : w2.heap.size ≤ w3.heap.size := by have h := hx3.size; simpa using h
  have hg3 : ∀ b, b ∈ F3 → w2.heap.size ≤ b := fun b hb => by simpa using hl3 b hb
  clear hl3
  have hC4 := fun (W : World) (hb : Below w.heap.size w W) => toPairS_any a6 _ c6 m.fMap W rfl (LeafL.mono rPair_good (h6.below rPair_good hb) hb.size) (by omega)
  go_wp2_with fail
  refine Calls.mono (hC4 _ ?_) ?_
  · exact (by repeat (first | with_reducible exact hB3 | refine Below.setCell ?_ (by dsimp only; omega) _))
  clear hC4
  rintro e w4 ⟨v4, F4, rfl, ho4, hn4, hl4, hx4⟩
  obtain ⟨ax4, cx4, rfl, _⟩ := ownS.read oPair_good ho4
  obtain ⟨hc4, hf4⟩ := bcell hx4
  have hz4 : w.heap.size + 1 + 1 + 1 ≤ w4.heap.size := by have := hx4.size; simp at this; omega
  have hB4 : Below w.heap.size w w4 := Below.trans (by repeat (first | with_reducible exact hB3 | refine Below.setCell ?_ (by dsimp only; omega) _)) (hx4.mono (by first | (simp; omega) | (have := hz3; simp; omega)))
  have hy4a : w.heap.size < w4.heap.size := by omega
  have hy4b : w.heap.size + 1 < w4.heap.size := by omega
  have hy4c : w.heap.size + 1 + 1 < w4.heap.size := by omega
  have hA4 := Above.below (X := w.heap.size + 1 + 1 + 1) hx4
  have hlo4 : ∀ b, b ∈ F4 → w.heap.size + 1 + 1 + 1 ≤ b := fun b hb => by have h := hl4 b hb; simp at h; omega
  have hhi4 : ∀ b, b ∈ F4 → b < w4.heap.size := ownS.lt oPair_good ho4
  have hs4 : w3.heap.size ≤ w4.heap.size := by have h := hx4.size; simpa using h
  have hg4 : ∀ b, b ∈ F4 → w3.heap.size ≤ b := fun b hb => by simpa using hl4 b hb
  clear hl4
  have hC5 := fun (W : World) (hb : Below w.heap.size w W) => toAnswerS_any a7 _ c7 m.fSaid W rfl (LeafL.mono rAnswer_good (h7.below rAnswer_good hb) hb.size) (by omega)
  go_wp2_with fail
  refine Calls.mono (hC5 _ ?_) ?_
  · exact (by repeat (first | with_reducible exact hB4 | refine Below.setCell ?_ (by dsimp only; omega) _))
  clear hC5
  rintro e w5 ⟨v5, F5, rfl, ho5, hn5, hl5, hx5⟩
  obtain ⟨ax5, cx5, rfl, _⟩ := ownS.read oAnswer_good ho5
  obtain ⟨hc5, hf5⟩ := bcell hx5
  have hz5 : w.heap.size + 1 + 1 + 1 ≤ w5.heap.size := by have := hx5.size; simp at this; omega
  have hB5 : Below w.heap.size w w5 := Below.trans (by repeat (first | with_reducible exact hB4 | refine Below.setCell ?_ (by dsimp only; omega) _)) (hx5.mono (by first | (simp; omega) | (have := hz4; simp; omega)))
  have hy5a : w.heap.size < w5.heap.size := by omega
  have hy5b : w.heap.size + 1 < w5.heap.size := by omega
  have hy5c : w.heap.size + 1 + 1 < w5.heap.size := by omega
  have hA5 := Above.below (X := w.heap.size + 1 + 1 + 1) hx5
  have hlo5 : ∀ b, b ∈ F5 → w.heap.size + 1 + 1 + 1 ≤ b := fun b hb => by have h := hl5 b hb; simp at h; omega
  have hhi5 : ∀ b, b ∈ F5 → b < w5.heap.size := ownS.lt oAnswer_good ho5
  have hs5 : w4.heap.size ≤ w5.heap.size := by have h := hx5.size; simpa using h
  have hg5 : ∀ b, b ∈ F5 → w4.heap.size ≤ b := fun b hb => by simpa using hl5 b hb
  clear hl5
  go_wp2_with fail
  refine bodyPost_ret (v := .agg #[.int .i64 m.fId, .int .i64 m.fN, .int .i64 m.fNext, .slice ax1 m.fRecs.length cx1, .slice ax2 m.fAcks.length cx2, .slice ax3 m.fDone.length cx3, .slice ax4 m.fMap.length cx4, .slice ax5 m.fSaid.length cx5]) (by simp [results, Try.results31, go_sem, *]) rfl ⟨[.int .i64 m.fId, .int .i64 m.fN, .int .i64 m.fNext, .slice ax1 m.fRecs.length cx1, .slice ax2 m.fAcks.length cx2, .slice ax3 m.fDone.length cx3, .slice ax4 m.fMap.length cx4, .slice ax5 m.fSaid.length cx5], F1 ++ F2 ++ F3 ++ F4 ++ F5 ++ [], rfl, ?_, (by rw [List.append_nil]; exact (nodup_app (nodup_app (nodup_app (nodup_app hn1 hn2 hhi1 hg2) hn3 (app_lt hhi1 hhi2 hs2) hg3) hn4 (app_lt (app_lt hhi1 hhi2 hs2) hhi3 hs3) hg4) hn5 (app_lt (app_lt (app_lt hhi1 hhi2 hs2) hhi3 hs3) hhi4 hs4) hg5)), (by rw [List.append_nil]; exact (app_ge (app_ge (app_ge (app_ge (fun b hb => by have := hlo1 b hb; omega) (fun b hb => by have := hlo2 b hb; omega)) (fun b hb => by have := hlo3 b hb; omega)) (fun b hb => by have := hlo4 b hb; omega)) (fun b hb => by have := hlo5 b hb; omega))), (by repeat (first | with_reducible exact hB5 | refine Below.setCell ?_ (by dsimp only; omega) _))⟩
  exact ⟨_, F1, _, F2, _, F3, _, F4, _, F5, rfl, h0, h1, h2, ownS.frame oRec_good ho1 (fun b hb => (show Above (w.heap.size + 1 + 1 + 1) w1 _ from by repeat (first | with_reducible exact Above.refl _ _ | refine Above.setCell ?_ (by dsimp only; omega) _ | with_reducible refine Above.trans ?_ hA5 | with_reducible refine Above.trans ?_ hA4 | with_reducible refine Above.trans ?_ hA3 | with_reducible refine Above.trans ?_ hA2 | with_reducible refine Above.trans ?_ hA1)).block b (hlo1 b hb) (hhi1 b hb)), ownS.frame oAck_good ho2 (fun b hb => (show Above (w.heap.size + 1 + 1 + 1) w2 _ from by repeat (first | with_reducible exact Above.refl _ _ | refine Above.setCell ?_ (by dsimp only; omega) _ | with_reducible refine Above.trans ?_ hA5 | with_reducible refine Above.trans ?_ hA4 | with_reducible refine Above.trans ?_ hA3 | with_reducible refine Above.trans ?_ hA2 | with_reducible refine Above.trans ?_ hA1)).block b (hlo2 b hb) (hhi2 b hb)), ownS.frame oDot_good ho3 (fun b hb => (show Above (w.heap.size + 1 + 1 + 1) w3 _ from by repeat (first | with_reducible exact Above.refl _ _ | refine Above.setCell ?_ (by dsimp only; omega) _ | with_reducible refine Above.trans ?_ hA5 | with_reducible refine Above.trans ?_ hA4 | with_reducible refine Above.trans ?_ hA3 | with_reducible refine Above.trans ?_ hA2 | with_reducible refine Above.trans ?_ hA1)).block b (hlo3 b hb) (hhi3 b hb)), ownS.frame oPair_good ho4 (fun b hb => (show Above (w.heap.size + 1 + 1 + 1) w4 _ from by repeat (first | with_reducible exact Above.refl _ _ | refine Above.setCell ?_ (by dsimp only; omega) _ | with_reducible refine Above.trans ?_ hA5 | with_reducible refine Above.trans ?_ hA4 | with_reducible refine Above.trans ?_ hA3 | with_reducible refine Above.trans ?_ hA2 | with_reducible refine Above.trans ?_ hA1)).block b (hlo4 b hb) (hhi4 b hb)), ownS.frame oAnswer_good ho5 (fun b hb => (show Above (w.heap.size + 1 + 1 + 1) w5 _ from by repeat (first | with_reducible exact Above.refl _ _ | refine Above.setCell ?_ (by dsimp only; omega) _ | with_reducible refine Above.trans ?_ hA5 | with_reducible refine Above.trans ?_ hA4 | with_reducible refine Above.trans ?_ hA3 | with_reducible refine Above.trans ?_ hA2 | with_reducible refine Above.trans ?_ hA1)).block b (hlo5 b hb) (hhi5 b hb)), rfl⟩

theorem Try.infoOfReplica : (Try.prog.info? 49).map (fun i => (i.zero, i.size, i.bytes)) = some (some (.agg #[.int .i64 0, .int .i64 0, .int .i64 0, .slice none 0 0, .slice none 0 0, .slice none 0 0, .slice none 0 0, .slice none 0 0]), 8, 144) := by kernel_rfl

set_option maxHeartbeats 1000000 in
theorem toReplicaS_any (a : Option Addr) (n cap : Nat) (l : List MReplica) (w : World) (hx : l.length = n) (hr : LeafL 8 rReplica w.heap.size w a cap l) (hsz : n + sumW wReplica l ≤ 1048576) :
    Calls Try.prog 16 #[.slice a n cap] w fun e w' => ∃ (v : Value) (F : List Nat), e = .returned v ∧ ownS 8 49 oReplica w' v l F ∧ F.Nodup ∧ (∀ b, b ∈ F → w.heap.size ≤ b) ∧ Below w.heap.size w w' := by
  obtain ⟨i0, hi, hz0, hz1, hz2⟩ := info_parts Try.infoOfReplica
  have HX := Hid.mk hx
  clear hx
  replace hr := hr.2.2
  go_enter Try.func16, Try.ntmps16
  go_wp2_with (at_make; refine wpList_make_full _ rfl _ _ 30 rfl w.heap.size 49 i0 (.agg #[.int .i64 0, .int .i64 0, .int .i64 0, .slice none 0 0, .slice none 0 0, .slice none 0 0, .slice none 0 0, .slice none 0 0]) 8 Try.underlying30 hi hz0 hz1 .i64 .i64 _ _ n rfl rfl rfl rfl (by rw [hz2]; omega) (by unfold maxLen; omega) (Nat.le_refl _) ?_)
  intro w0 hown hgr
  have hb0 : Below w.heap.size w w0 := (Below.refl _ _).grown hgr (Nat.le_refl _) (fun k h => by cases h)
  have hg0 : w.heap.size < w0.heap.size := (hown.lt w.heap.size rfl).2
  have hF0 : Fill 8 49 oReplica w0 w.heap.size n l 0 [] := Fill.start hown
  clear hgr hi hz0 hz1 hz2 hown
  go_wp2_with fail
  go_loopw [4] (fun i wr => ∃ (k : Nat) (Fs : List (List Nat)), k ≤ n ∧ i = .int .i64 k ∧ Fill 8 49 oReplica wr w.heap.size n l k Fs ∧ w.heap.size < wr.heap.size ∧ Below w.heap.size w wr) (fun i _ => n - (intOf i).toNat)
  case atStart => exact ⟨0, [], Nat.zero_le _, rfl, hF0, hg0, hb0⟩
  case round =>
    obtain ⟨k, Fs, hk, rfl, hFk, hgk, hbk⟩ := hrel
    clear hF0 hg0 hb0
    by_cases hlt : k < n
    · have hkl : k < l.length := by rw [HX.out]; exact hlt
      have hwk := sumW_le (f := wReplica) hkl
      obtain ⟨b1, o1, rfl, hB, cs, hcl, hcell, hrT⟩ := (hr.below rReplica_good hbk) k hkl
      have hrT' := rReplica_good.mono hrT hbk.size
      have hstep := fun (w1 : World) (hb : Below wr.heap.size wr w1) (cs : List Value) (F : List Nat) ho hF hN => Fill.step (w1 := w1) oReplica_good hFk hgk hkl hlt hb (cs := cs) (F := F) ho hF hN
      generalize l[k] = m at *
      obtain ⟨a3, c3, a4, c4, a5, c5, a6, c6, a7, c7, rfl, h0, h1, h2, h3, h4, h5, h6, h7, _⟩ := hrT
      have k0 := hcell 0 _ rfl
      have k1 := hcell 1 _ rfl
      have k2 := hcell 2 _ rfl
      have k3 := hcell 3 _ rfl
      have k4 := hcell 4 _ rfl
      have k5 := hcell 5 _ rfl
      have k6 := hcell 6 _ rfl
      have k7 := hcell 7 _ rfl
      rw [Nat.add_zero] at k0
      clear hcell hcl
      go_wp2_with fail
      refine (toReplica_any _ m wr hrT' (by omega)).mono ?_
      rintro e w1 ⟨cs1, F1, rfl, ho1, hn1, hl1, hb1⟩
      have hst := hstep w1 hb1 cs1 F1 ho1 hl1 hn1
      have hF1 := hFk.keep oReplica_good hgk hb1
      have hB1 := hbk.trans (hb1.mono hbk.size)
      have hg1 : w.heap.size < w1.heap.size := Nat.lt_of_lt_of_le hgk hb1.size
      obtain ⟨v3, G3, v4, G4, v5, G5, v6, G6, v7, G7, rfl, y0, y1, y2, y3, y4, y5, y6, y7, hG⟩ := ho1
      obtain ⟨ax3, cx3, rfl, _⟩ := ownS.read oRec_good y3
      obtain ⟨ax4, cx4, rfl, _⟩ := ownS.read oAck_good y4
      obtain ⟨ax5, cx5, rfl, _⟩ := ownS.read oDot_good y5
      obtain ⟨ax6, cx6, rfl, _⟩ := ownS.read oPair_good y6
      obtain ⟨ax7, cx7, rfl, _⟩ := ownS.read oAnswer_good y7
      obtain ⟨u0, q0⟩ := hF1.cells hlt 0 (by omega)
      have r0 := hF1.free (k * 8 + 0)
      obtain ⟨u1, q1⟩ := hF1.cells hlt 1 (by omega)
      have r1 := hF1.free (k * 8 + 1)
      obtain ⟨u2, q2⟩ := hF1.cells hlt 2 (by omega)
      have r2 := hF1.free (k * 8 + 2)
      obtain ⟨u3, q3⟩ := hF1.cells hlt 3 (by omega)
      have r3 := hF1.free (k * 8 + 3)
      obtain ⟨u4, q4⟩ := hF1.cells hlt 4 (by omega)
      have r4 := hF1.free (k * 8 + 4)
      obtain ⟨u5, q5⟩ := hF1.cells hlt 5 (by omega)
      have r5 := hF1.free (k * 8 + 5)
      obtain ⟨u6, q6⟩ := hF1.cells hlt 6 (by omega)
      have r6 := hF1.free (k * 8 + 6)
      obtain ⟨u7, q7⟩ := hF1.cells hlt 7 (by omega)
      have r7 := hF1.free (k * 8 + 7)
      rw [Nat.add_zero] at q0 r0
      clear hstep hF1 hFk hrT' hl1 hn1
      go_wp2_with fail
      go_roundw
      case rel => exact ⟨k + 1, Fs ++ [F1], by omega, by go_num, hst, by simpa using hg1, below_setCells (Nat.le_refl _) [.int .i64 m.fId, .int .i64 m.fN, .int .i64 m.fNext, .slice ax3 m.fRecs.length cx3, .slice ax4 m.fAcks.length cx4, .slice ax5 m.fDone.length cx5, .slice ax6 m.fMap.length cx6, .slice ax7 m.fSaid.length cx7] _ _ _ hB1⟩
      case measure => simp [intOf]; omega
    · have hkn : k = n := by omega
      subst hkn
      have hd := hFk.done HX.out (by unfold maxLen; omega)
      go_wp2_with fail
      go_ret
      refine ⟨_, _, rfl, hd.1, hd.2, ?_, hbk⟩
      intro b hb
      rcases List.mem_cons.1 hb with rfl | hb
      · exact Nat.le_refl _
      · have := (hFk.over b hb).1; omega

set_option maxHeartbeats 1000000 in
theorem toMsg_any (cs : List Value) (m : MMsg) (w : World) (hr : rMsg w.heap.size w cs m) (hsz : wMsg m ≤ 1048576) :
    Calls Try.prog 32 #[.agg cs.toArray] w fun e w' => ∃ (cs' : List Value) (F : List Nat), e = .returned (.agg cs'.toArray) ∧ oMsg w' cs' m F ∧ F.Nodup ∧ (∀ b, b ∈ F → w.heap.size ≤ b) ∧ Below w.heap.size w w' := by
  obtain ⟨a8, c8, rfl, h0, h1, h2, h3, h4, h5, h6, h7, h8, _⟩ := hr
  have hsz' : m.fC.fKey.size + m.fC.fVal.size + (m.fDeps.length + sumW wDot m.fDeps) ≤ 1048576 := hsz
  clear hsz
  have hbA : ∀ o1 o2 o3, Below w.heap.size w (((w.alloc o1).alloc o2).alloc o3) := fun o1 o2 o3 => (((Below.refl _ _).alloc (Nat.le_refl _) o1).alloc (by simp) o2).alloc (by simp; omega) o3
  go_enter Try.func32, Try.ntmps32
  have hC1 := fun (W : World) (hb : Below w.heap.size w W) => toDot_any [.int .i64 m.fD.fR, .int .i64 m.fD.fN] m.fD W ⟨rfl, h3, h4, trivial⟩ (by have h : wDot m.fD = 0 := rfl; omega)
  go_wp2_with fail
  refine Calls.mono (hC1 _ ?_) ?_
  · exact (hbA _ _ _)
  clear hC1
  rintro e w1 ⟨v1, F1, rfl, ho1, hn1, hl1, hx1⟩
  obtain ⟨rfl, _, _, rfl⟩ := ho1
  obtain ⟨hc1, hf1⟩ := bcell hx1
  have hz1 : w.heap.size + 1 + 1 + 1 ≤ w1.heap.size := by have := hx1.size; simpa using this
  have hB1 : Below w.heap.size w w1 := Below.trans (hbA _ _ _) (hx1.mono (by first | (simp; omega) | (have := hz1; simp; omega)))
  have hy1a : w.heap.size < w1.heap.size := by omega
  have hy1b : w.heap.size + 1 < w1.heap.size := by omega
  have hy1c : w.heap.size + 1 + 1 < w1.heap.size := by omega
  have hA1 := Above.below (X := w.heap.size + 1 + 1 + 1) hx1
  clear hl1
  have hC2 := fun (W : World) (hb : Below w.heap.size w W) => toCmd_any [.int .i64 m.fC.fKind, .string m.fC.fKey, .string m.fC.fVal] m.fC W ⟨rfl, h5, h6, h7, trivial⟩ (by have h : wCmd m.fC = m.fC.fKey.size + m.fC.fVal.size := rfl; omega)
  go_wp2_with fail
  refine Calls.mono (hC2 _ ?_) ?_
  · exact (by repeat (first | with_reducible exact hB1 | refine Below.setCell ?_ (by dsimp only; omega) _))
  clear hC2
  rintro e w2 ⟨v2, F2, rfl, ho2, hn2, hl2, hx2⟩
  obtain ⟨rfl, _, _, _, rfl⟩ := ho2
  obtain ⟨hc2, hf2⟩ := bcell hx2
  have hz2 : w.heap.size + 1 + 1 + 1 ≤ w2.heap.size := by have := hx2.size; simp at this; omega
  have hB2 : Below w.heap.size w w2 := Below.trans (by repeat (first | with_reducible exact hB1 | refine Below.setCell ?_ (by dsimp only; omega) _)) (hx2.mono (by first | (simp; omega) | (have := hz1; simp; omega)))
  have hy2a : w.heap.size < w2.heap.size := by omega
  have hy2b : w.heap.size + 1 < w2.heap.size := by omega
  have hy2c : w.heap.size + 1 + 1 < w2.heap.size := by omega
  have hA2 := Above.below (X := w.heap.size + 1 + 1 + 1) hx2
  have hs2 : w1.heap.size ≤ w2.heap.size := by have h := hx2.size; simpa using h
  clear hl2
  have hC3 := fun (W : World) (hb : Below w.heap.size w W) => toDotS_any a8 _ c8 m.fDeps W rfl (LeafL.mono rDot_good (h8.below rDot_good hb) hb.size) (by omega)
  go_wp2_with fail
  refine Calls.mono (hC3 _ ?_) ?_
  · exact (by repeat (first | with_reducible exact hB2 | refine Below.setCell ?_ (by dsimp only; omega) _))
  clear hC3
  rintro e w3 ⟨v3, F3, rfl, ho3, hn3, hl3, hx3⟩
  obtain ⟨ax3, cx3, rfl, _⟩ := ownS.read oDot_good ho3
  obtain ⟨hc3, hf3⟩ := bcell hx3
  have hz3 : w.heap.size + 1 + 1 + 1 ≤ w3.heap.size := by have := hx3.size; simp at this; omega
  have hB3 : Below w.heap.size w w3 := Below.trans (by repeat (first | with_reducible exact hB2 | refine Below.setCell ?_ (by dsimp only; omega) _)) (hx3.mono (by first | (simp; omega) | (have := hz2; simp; omega)))
  have hy3a : w.heap.size < w3.heap.size := by omega
  have hy3b : w.heap.size + 1 < w3.heap.size := by omega
  have hy3c : w.heap.size + 1 + 1 < w3.heap.size := by omega
  have hA3 := Above.below (X := w.heap.size + 1 + 1 + 1) hx3
  have hlo3 : ∀ b, b ∈ F3 → w.heap.size + 1 + 1 + 1 ≤ b := fun b hb => by have h := hl3 b hb; simp at h; omega
  have hhi3 : ∀ b, b ∈ F3 → b < w3.heap.size := ownS.lt oDot_good ho3
  have hs3 : w2.heap.size ≤ w3.heap.size := by have h := hx3.size; simpa using h
  have hg3 : ∀ b, b ∈ F3 → w2.heap.size ≤ b := fun b hb => by simpa using hl3 b hb
  clear hl3
  go_wp2_with fail
  refine bodyPost_ret (v := .agg #[.int .i64 m.fKind, .int .i64 m.fFrom, .int .i64 m.fTo, .int .i64 m.fD.fR, .int .i64 m.fD.fN, .int .i64 m.fC.fKind, .string m.fC.fKey, .string m.fC.fVal, .slice ax3 m.fDeps.length cx3]) (by simp [results, Try.results32, go_sem, *]) rfl ⟨[.int .i64 m.fKind, .int .i64 m.fFrom, .int .i64 m.fTo, .int .i64 m.fD.fR, .int .i64 m.fD.fN, .int .i64 m.fC.fKind, .string m.fC.fKey, .string m.fC.fVal, .slice ax3 m.fDeps.length cx3], F3 ++ [], rfl, ?_, (by rw [List.append_nil]; exact hn3), (by rw [List.append_nil]; exact (fun b hb => by have := hlo3 b hb; omega)), (by repeat (first | with_reducible exact hB3 | refine Below.setCell ?_ (by dsimp only; omega) _))⟩
  exact ⟨_, F3, rfl, h0, h1, h2, h3, h4, h5, h6, h7, ownS.frame oDot_good ho3 (fun b hb => (show Above (w.heap.size + 1 + 1 + 1) w3 _ from by repeat (first | with_reducible exact Above.refl _ _ | refine Above.setCell ?_ (by dsimp only; omega) _ | with_reducible refine Above.trans ?_ hA3 | with_reducible refine Above.trans ?_ hA2 | with_reducible refine Above.trans ?_ hA1)).block b (hlo3 b hb) (hhi3 b hb)), rfl⟩

theorem Try.infoOfMsg : (Try.prog.info? 86).map (fun i => (i.zero, i.size, i.bytes)) = some (some (.agg #[.int .i64 0, .int .i64 0, .int .i64 0, .int .i64 0, .int .i64 0, .int .i64 0, .string ⟨#[]⟩, .string ⟨#[]⟩, .slice none 0 0]), 9, 104) := by kernel_rfl

set_option maxHeartbeats 1000000 in
theorem toMsgS_any (a : Option Addr) (n cap : Nat) (l : List MMsg) (w : World) (hx : l.length = n) (hr : LeafL 9 rMsg w.heap.size w a cap l) (hsz : n + sumW wMsg l ≤ 1048576) :
    Calls Try.prog 17 #[.slice a n cap] w fun e w' => ∃ (v : Value) (F : List Nat), e = .returned v ∧ ownS 9 86 oMsg w' v l F ∧ F.Nodup ∧ (∀ b, b ∈ F → w.heap.size ≤ b) ∧ Below w.heap.size w w' := by
  obtain ⟨i0, hi, hz0, hz1, hz2⟩ := info_parts Try.infoOfMsg
  have HX := Hid.mk hx
  clear hx
  replace hr := hr.2.2
  go_enter Try.func17, Try.ntmps17
  go_wp2_with (at_make; refine wpList_make_full _ rfl _ _ 31 rfl w.heap.size 86 i0 (.agg #[.int .i64 0, .int .i64 0, .int .i64 0, .int .i64 0, .int .i64 0, .int .i64 0, .string ⟨#[]⟩, .string ⟨#[]⟩, .slice none 0 0]) 9 Try.underlying31 hi hz0 hz1 .i64 .i64 _ _ n rfl rfl rfl rfl (by rw [hz2]; omega) (by unfold maxLen; omega) (Nat.le_refl _) ?_)
  intro w0 hown hgr
  have hb0 : Below w.heap.size w w0 := (Below.refl _ _).grown hgr (Nat.le_refl _) (fun k h => by cases h)
  have hg0 : w.heap.size < w0.heap.size := (hown.lt w.heap.size rfl).2
  have hF0 : Fill 9 86 oMsg w0 w.heap.size n l 0 [] := Fill.start hown
  clear hgr hi hz0 hz1 hz2 hown
  go_wp2_with fail
  go_loopw [4] (fun i wr => ∃ (k : Nat) (Fs : List (List Nat)), k ≤ n ∧ i = .int .i64 k ∧ Fill 9 86 oMsg wr w.heap.size n l k Fs ∧ w.heap.size < wr.heap.size ∧ Below w.heap.size w wr) (fun i _ => n - (intOf i).toNat)
  case atStart => exact ⟨0, [], Nat.zero_le _, rfl, hF0, hg0, hb0⟩
  case round =>
    obtain ⟨k, Fs, hk, rfl, hFk, hgk, hbk⟩ := hrel
    clear hF0 hg0 hb0
    by_cases hlt : k < n
    · have hkl : k < l.length := by rw [HX.out]; exact hlt
      have hwk := sumW_le (f := wMsg) hkl
      obtain ⟨b1, o1, rfl, hB, cs, hcl, hcell, hrT⟩ := (hr.below rMsg_good hbk) k hkl
      have hrT' := rMsg_good.mono hrT hbk.size
      have hstep := fun (w1 : World) (hb : Below wr.heap.size wr w1) (cs : List Value) (F : List Nat) ho hF hN => Fill.step (w1 := w1) oMsg_good hFk hgk hkl hlt hb (cs := cs) (F := F) ho hF hN
      generalize l[k] = m at *
      obtain ⟨a8, c8, rfl, h0, h1, h2, h3, h4, h5, h6, h7, h8, _⟩ := hrT
      have k0 := hcell 0 _ rfl
      have k1 := hcell 1 _ rfl
      have k2 := hcell 2 _ rfl
      have k3 := hcell 3 _ rfl
      have k4 := hcell 4 _ rfl
      have k5 := hcell 5 _ rfl
      have k6 := hcell 6 _ rfl
      have k7 := hcell 7 _ rfl
      have k8 := hcell 8 _ rfl
      rw [Nat.add_zero] at k0
      clear hcell hcl
      go_wp2_with fail
      refine (toMsg_any _ m wr hrT' (by omega)).mono ?_
      rintro e w1 ⟨cs1, F1, rfl, ho1, hn1, hl1, hb1⟩
      have hst := hstep w1 hb1 cs1 F1 ho1 hl1 hn1
      have hF1 := hFk.keep oMsg_good hgk hb1
      have hB1 := hbk.trans (hb1.mono hbk.size)
      have hg1 : w.heap.size < w1.heap.size := Nat.lt_of_lt_of_le hgk hb1.size
      obtain ⟨v8, G8, rfl, y0, y1, y2, y3, y4, y5, y6, y7, y8, hG⟩ := ho1
      obtain ⟨ax8, cx8, rfl, _⟩ := ownS.read oDot_good y8
      obtain ⟨u0, q0⟩ := hF1.cells hlt 0 (by omega)
      have r0 := hF1.free (k * 9 + 0)
      obtain ⟨u1, q1⟩ := hF1.cells hlt 1 (by omega)
      have r1 := hF1.free (k * 9 + 1)
      obtain ⟨u2, q2⟩ := hF1.cells hlt 2 (by omega)
      have r2 := hF1.free (k * 9 + 2)
      obtain ⟨u3, q3⟩ := hF1.cells hlt 3 (by omega)
      have r3 := hF1.free (k * 9 + 3)
      obtain ⟨u4, q4⟩ := hF1.cells hlt 4 (by omega)
      have r4 := hF1.free (k * 9 + 4)
      obtain ⟨u5, q5⟩ := hF1.cells hlt 5 (by omega)
      have r5 := hF1.free (k * 9 + 5)
      obtain ⟨u6, q6⟩ := hF1.cells hlt 6 (by omega)
      have r6 := hF1.free (k * 9 + 6)
      obtain ⟨u7, q7⟩ := hF1.cells hlt 7 (by omega)
      have r7 := hF1.free (k * 9 + 7)
      obtain ⟨u8, q8⟩ := hF1.cells hlt 8 (by omega)
      have r8 := hF1.free (k * 9 + 8)
      rw [Nat.add_zero] at q0 r0
      clear hstep hF1 hFk hrT' hl1 hn1
      go_wp2_with fail
      go_roundw
      case rel => exact ⟨k + 1, Fs ++ [F1], by omega, by go_num, hst, by simpa using hg1, below_setCells (Nat.le_refl _) [.int .i64 m.fKind, .int .i64 m.fFrom, .int .i64 m.fTo, .int .i64 m.fD.fR, .int .i64 m.fD.fN, .int .i64 m.fC.fKind, .string m.fC.fKey, .string m.fC.fVal, .slice ax8 m.fDeps.length cx8] _ _ _ hB1⟩
      case measure => simp [intOf]; omega
    · have hkn : k = n := by omega
      subst hkn
      have hd := hFk.done HX.out (by unfold maxLen; omega)
      go_wp2_with fail
      go_ret
      refine ⟨_, _, rfl, hd.1, hd.2, ?_, hbk⟩
      intro b hb
      rcases List.mem_cons.1 hb with rfl | hb
      · exact Nat.le_refl _
      · have := (hFk.over b hb).1; omega

set_option maxHeartbeats 1000000 in
theorem toAsked_any (cs : List Value) (m : MAsked) (w : World) (hr : rAsked w.heap.size w cs m) (hsz : wAsked m ≤ 1048576) :
    Calls Try.prog 33 #[.agg cs.toArray] w fun e w' => ∃ (cs' : List Value) (F : List Nat), e = .returned (.agg cs'.toArray) ∧ oAsked w' cs' m F ∧ F.Nodup ∧ (∀ b, b ∈ F → w.heap.size ≤ b) ∧ Below w.heap.size w w' := by
  obtain ⟨a5, c5, rfl, h0, h1, h2, h3, h4, h5, _⟩ := hr
  have hsz' : m.fC.fKey.size + m.fC.fVal.size + (m.fBefore.length + sumW wDot m.fBefore) ≤ 1048576 := hsz
  clear hsz
  have hbA : ∀ o1 o2 o3, Below w.heap.size w (((w.alloc o1).alloc o2).alloc o3) := fun o1 o2 o3 => (((Below.refl _ _).alloc (Nat.le_refl _) o1).alloc (by simp) o2).alloc (by simp; omega) o3
  go_enter Try.func33, Try.ntmps33
  have hC1 := fun (W : World) (hb : Below w.heap.size w W) => toDot_any [.int .i64 m.fD.fR, .int .i64 m.fD.fN] m.fD W ⟨rfl, h0, h1, trivial⟩ (by have h : wDot m.fD = 0 := rfl; omega)
  go_wp2_with fail
  refine Calls.mono (hC1 _ ?_) ?_
  · exact (hbA _ _ _)
  clear hC1
  rintro e w1 ⟨v1, F1, rfl, ho1, hn1, hl1, hx1⟩
  obtain ⟨rfl, _, _, rfl⟩ := ho1
  obtain ⟨hc1, hf1⟩ := bcell hx1
  have hz1 : w.heap.size + 1 + 1 + 1 ≤ w1.heap.size := by have := hx1.size; simpa using this
  have hB1 : Below w.heap.size w w1 := Below.trans (hbA _ _ _) (hx1.mono (by first | (simp; omega) | (have := hz1; simp; omega)))
  have hy1a : w.heap.size < w1.heap.size := by omega
  have hy1b : w.heap.size + 1 < w1.heap.size := by omega
  have hy1c : w.heap.size + 1 + 1 < w1.heap.size := by omega
  have hA1 := Above.below (X := w.heap.size + 1 + 1 + 1) hx1
  clear hl1
  have hC2 := fun (W : World) (hb : Below w.heap.size w W) => toCmd_any [.int .i64 m.fC.fKind, .string m.fC.fKey, .string m.fC.fVal] m.fC W ⟨rfl, h2, h3, h4, trivial⟩ (by have h : wCmd m.fC = m.fC.fKey.size + m.fC.fVal.size := rfl; omega)
  go_wp2_with fail
  refine Calls.mono (hC2 _ ?_) ?_
  · exact (by repeat (first | with_reducible exact hB1 | refine Below.setCell ?_ (by dsimp only; omega) _))
  clear hC2
  rintro e w2 ⟨v2, F2, rfl, ho2, hn2, hl2, hx2⟩
  obtain ⟨rfl, _, _, _, rfl⟩ := ho2
  obtain ⟨hc2, hf2⟩ := bcell hx2
  have hz2 : w.heap.size + 1 + 1 + 1 ≤ w2.heap.size := by have := hx2.size; simp at this; omega
  have hB2 : Below w.heap.size w w2 := Below.trans (by repeat (first | with_reducible exact hB1 | refine Below.setCell ?_ (by dsimp only; omega) _)) (hx2.mono (by first | (simp; omega) | (have := hz1; simp; omega)))
  have hy2a : w.heap.size < w2.heap.size := by omega
  have hy2b : w.heap.size + 1 < w2.heap.size := by omega
  have hy2c : w.heap.size + 1 + 1 < w2.heap.size := by omega
  have hA2 := Above.below (X := w.heap.size + 1 + 1 + 1) hx2
  have hs2 : w1.heap.size ≤ w2.heap.size := by have h := hx2.size; simpa using h
  clear hl2
  have hC3 := fun (W : World) (hb : Below w.heap.size w W) => toDotS_any a5 _ c5 m.fBefore W rfl (LeafL.mono rDot_good (h5.below rDot_good hb) hb.size) (by omega)
  go_wp2_with fail
  refine Calls.mono (hC3 _ ?_) ?_
  · exact (by repeat (first | with_reducible exact hB2 | refine Below.setCell ?_ (by dsimp only; omega) _))
  clear hC3
  rintro e w3 ⟨v3, F3, rfl, ho3, hn3, hl3, hx3⟩
  obtain ⟨ax3, cx3, rfl, _⟩ := ownS.read oDot_good ho3
  obtain ⟨hc3, hf3⟩ := bcell hx3
  have hz3 : w.heap.size + 1 + 1 + 1 ≤ w3.heap.size := by have := hx3.size; simp at this; omega
  have hB3 : Below w.heap.size w w3 := Below.trans (by repeat (first | with_reducible exact hB2 | refine Below.setCell ?_ (by dsimp only; omega) _)) (hx3.mono (by first | (simp; omega) | (have := hz2; simp; omega)))
  have hy3a : w.heap.size < w3.heap.size := by omega
  have hy3b : w.heap.size + 1 < w3.heap.size := by omega
  have hy3c : w.heap.size + 1 + 1 < w3.heap.size := by omega
  have hA3 := Above.below (X := w.heap.size + 1 + 1 + 1) hx3
  have hlo3 : ∀ b, b ∈ F3 → w.heap.size + 1 + 1 + 1 ≤ b := fun b hb => by have h := hl3 b hb; simp at h; omega
  have hhi3 : ∀ b, b ∈ F3 → b < w3.heap.size := ownS.lt oDot_good ho3
  have hs3 : w2.heap.size ≤ w3.heap.size := by have h := hx3.size; simpa using h
  have hg3 : ∀ b, b ∈ F3 → w2.heap.size ≤ b := fun b hb => by simpa using hl3 b hb
  clear hl3
  go_wp2_with fail
  refine bodyPost_ret (v := .agg #[.int .i64 m.fD.fR, .int .i64 m.fD.fN, .int .i64 m.fC.fKind, .string m.fC.fKey, .string m.fC.fVal, .slice ax3 m.fBefore.length cx3]) (by simp [results, Try.results33, go_sem, *]) rfl ⟨[.int .i64 m.fD.fR, .int .i64 m.fD.fN, .int .i64 m.fC.fKind, .string m.fC.fKey, .string m.fC.fVal, .slice ax3 m.fBefore.length cx3], F3 ++ [], rfl, ?_, (by rw [List.append_nil]; exact hn3), (by rw [List.append_nil]; exact (fun b hb => by have := hlo3 b hb; omega)), (by repeat (first | with_reducible exact hB3 | refine Below.setCell ?_ (by dsimp only; omega) _))⟩
  exact ⟨_, F3, rfl, h0, h1, h2, h3, h4, ownS.frame oDot_good ho3 (fun b hb => (show Above (w.heap.size + 1 + 1 + 1) w3 _ from by repeat (first | with_reducible exact Above.refl _ _ | refine Above.setCell ?_ (by dsimp only; omega) _ | with_reducible refine Above.trans ?_ hA3 | with_reducible refine Above.trans ?_ hA2 | with_reducible refine Above.trans ?_ hA1)).block b (hlo3 b hb) (hhi3 b hb)), rfl⟩

theorem Try.infoOfAsked : (Try.prog.info? 89).map (fun i => (i.zero, i.size, i.bytes)) = some (some (.agg #[.int .i64 0, .int .i64 0, .int .i64 0, .string ⟨#[]⟩, .string ⟨#[]⟩, .slice none 0 0]), 6, 80) := by kernel_rfl

set_option maxHeartbeats 1000000 in
theorem toAskedS_any (a : Option Addr) (n cap : Nat) (l : List MAsked) (w : World) (hx : l.length = n) (hr : LeafL 6 rAsked w.heap.size w a cap l) (hsz : n + sumW wAsked l ≤ 1048576) :
    Calls Try.prog 18 #[.slice a n cap] w fun e w' => ∃ (v : Value) (F : List Nat), e = .returned v ∧ ownS 6 89 oAsked w' v l F ∧ F.Nodup ∧ (∀ b, b ∈ F → w.heap.size ≤ b) ∧ Below w.heap.size w w' := by
  obtain ⟨i0, hi, hz0, hz1, hz2⟩ := info_parts Try.infoOfAsked
  have HX := Hid.mk hx
  clear hx
  replace hr := hr.2.2
  go_enter Try.func18, Try.ntmps18
  go_wp2_with (at_make; refine wpList_make_full _ rfl _ _ 32 rfl w.heap.size 89 i0 (.agg #[.int .i64 0, .int .i64 0, .int .i64 0, .string ⟨#[]⟩, .string ⟨#[]⟩, .slice none 0 0]) 6 Try.underlying32 hi hz0 hz1 .i64 .i64 _ _ n rfl rfl rfl rfl (by rw [hz2]; omega) (by unfold maxLen; omega) (Nat.le_refl _) ?_)
  intro w0 hown hgr
  have hb0 : Below w.heap.size w w0 := (Below.refl _ _).grown hgr (Nat.le_refl _) (fun k h => by cases h)
  have hg0 : w.heap.size < w0.heap.size := (hown.lt w.heap.size rfl).2
  have hF0 : Fill 6 89 oAsked w0 w.heap.size n l 0 [] := Fill.start hown
  clear hgr hi hz0 hz1 hz2 hown
  go_wp2_with fail
  go_loopw [4] (fun i wr => ∃ (k : Nat) (Fs : List (List Nat)), k ≤ n ∧ i = .int .i64 k ∧ Fill 6 89 oAsked wr w.heap.size n l k Fs ∧ w.heap.size < wr.heap.size ∧ Below w.heap.size w wr) (fun i _ => n - (intOf i).toNat)
  case atStart => exact ⟨0, [], Nat.zero_le _, rfl, hF0, hg0, hb0⟩
  case round =>
    obtain ⟨k, Fs, hk, rfl, hFk, hgk, hbk⟩ := hrel
    clear hF0 hg0 hb0
    by_cases hlt : k < n
    · have hkl : k < l.length := by rw [HX.out]; exact hlt
      have hwk := sumW_le (f := wAsked) hkl
      obtain ⟨b1, o1, rfl, hB, cs, hcl, hcell, hrT⟩ := (hr.below rAsked_good hbk) k hkl
      have hrT' := rAsked_good.mono hrT hbk.size
      have hstep := fun (w1 : World) (hb : Below wr.heap.size wr w1) (cs : List Value) (F : List Nat) ho hF hN => Fill.step (w1 := w1) oAsked_good hFk hgk hkl hlt hb (cs := cs) (F := F) ho hF hN
      generalize l[k] = m at *
      obtain ⟨a5, c5, rfl, h0, h1, h2, h3, h4, h5, _⟩ := hrT
      have k0 := hcell 0 _ rfl
      have k1 := hcell 1 _ rfl
      have k2 := hcell 2 _ rfl
      have k3 := hcell 3 _ rfl
      have k4 := hcell 4 _ rfl
      have k5 := hcell 5 _ rfl
      rw [Nat.add_zero] at k0
      clear hcell hcl
      go_wp2_with fail
      refine (toAsked_any _ m wr hrT' (by omega)).mono ?_
      rintro e w1 ⟨cs1, F1, rfl, ho1, hn1, hl1, hb1⟩
      have hst := hstep w1 hb1 cs1 F1 ho1 hl1 hn1
      have hF1 := hFk.keep oAsked_good hgk hb1
      have hB1 := hbk.trans (hb1.mono hbk.size)
      have hg1 : w.heap.size < w1.heap.size := Nat.lt_of_lt_of_le hgk hb1.size
      obtain ⟨v5, G5, rfl, y0, y1, y2, y3, y4, y5, hG⟩ := ho1
      obtain ⟨ax5, cx5, rfl, _⟩ := ownS.read oDot_good y5
      obtain ⟨u0, q0⟩ := hF1.cells hlt 0 (by omega)
      have r0 := hF1.free (k * 6 + 0)
      obtain ⟨u1, q1⟩ := hF1.cells hlt 1 (by omega)
      have r1 := hF1.free (k * 6 + 1)
      obtain ⟨u2, q2⟩ := hF1.cells hlt 2 (by omega)
      have r2 := hF1.free (k * 6 + 2)
      obtain ⟨u3, q3⟩ := hF1.cells hlt 3 (by omega)
      have r3 := hF1.free (k * 6 + 3)
      obtain ⟨u4, q4⟩ := hF1.cells hlt 4 (by omega)
      have r4 := hF1.free (k * 6 + 4)
      obtain ⟨u5, q5⟩ := hF1.cells hlt 5 (by omega)
      have r5 := hF1.free (k * 6 + 5)
      rw [Nat.add_zero] at q0 r0
      clear hstep hF1 hFk hrT' hl1 hn1
      go_wp2_with fail
      go_roundw
      case rel => exact ⟨k + 1, Fs ++ [F1], by omega, by go_num, hst, by simpa using hg1, below_setCells (Nat.le_refl _) [.int .i64 m.fD.fR, .int .i64 m.fD.fN, .int .i64 m.fC.fKind, .string m.fC.fKey, .string m.fC.fVal, .slice ax5 m.fBefore.length cx5] _ _ _ hB1⟩
      case measure => simp [intOf]; omega
    · have hkn : k = n := by omega
      subst hkn
      have hd := hFk.done HX.out (by unfold maxLen; omega)
      go_wp2_with fail
      go_ret
      refine ⟨_, _, rfl, hd.1, hd.2, ?_, hbk⟩
      intro b hb
      rcases List.mem_cons.1 hb with rfl | hb
      · exact Nat.le_refl _
      · have := (hFk.over b hb).1; omega

set_option maxHeartbeats 1000000 in
theorem toCluster_any (cs : List Value) (m : MCluster) (w : World) (hr : rCluster w.heap.size w cs m) (hsz : wCluster m ≤ 1048576) :
    Calls Try.prog 6 #[.agg cs.toArray] w fun e w' => ∃ (cs' : List Value) (F : List Nat), e = .returned (.agg cs'.toArray) ∧ oCluster w' cs' m F ∧ F.Nodup ∧ (∀ b, b ∈ F → w.heap.size ≤ b) ∧ Below w.heap.size w w' := by
  obtain ⟨a0, c0, a1, c1, a2, c2, rfl, h0, h1, h2, _⟩ := hr
  have hsz' : (m.fReps.length + sumW wReplica m.fReps) + (m.fNet.length + sumW wMsg m.fNet) + (m.fAsked.length + sumW wAsked m.fAsked) ≤ 1048576 := hsz
  clear hsz
  have hbA : ∀ o1 o2 o3, Below w.heap.size w (((w.alloc o1).alloc o2).alloc o3) := fun o1 o2 o3 => (((Below.refl _ _).alloc (Nat.le_refl _) o1).alloc (by simp) o2).alloc (by simp; omega) o3
  go_enter Try.func6, Try.ntmps6
  have hC1 := fun (W : World) (hb : Below w.heap.size w W) => toReplicaS_any a0 _ c0 m.fReps W rfl (LeafL.mono rReplica_good (h0.below rReplica_good hb) hb.size) (by omega)
  go_wp2_with fail
  refine Calls.mono (hC1 _ ?_) ?_
  · exact (hbA _ _ _)
  clear hC1
  rintro e w1 ⟨v1, F1, rfl, ho1, hn1, hl1, hx1⟩
  obtain ⟨ax1, cx1, rfl, _⟩ := ownS.read oReplica_good ho1
  obtain ⟨hc1, hf1⟩ := bcell hx1
  have hz1 : w.heap.size + 1 + 1 + 1 ≤ w1.heap.size := by have := hx1.size; simpa using this
  have hB1 : Below w.heap.size w w1 := Below.trans (hbA _ _ _) (hx1.mono (by first | (simp; omega) | (have := hz1; simp; omega)))
  have hy1a : w.heap.size < w1.heap.size := by omega
  have hy1b : w.heap.size + 1 < w1.heap.size := by omega
  have hy1c : w.heap.size + 1 + 1 < w1.heap.size := by omega
  have hA1 := Above.below (X := w.heap.size + 1 + 1 + 1) hx1
  have hlo1 : ∀ b, b ∈ F1 → w.heap.size + 1 + 1 + 1 ≤ b := fun b hb => by have h := hl1 b hb; simp at h; omega
  have hhi1 : ∀ b, b ∈ F1 → b < w1.heap.size := ownS.lt oReplica_good ho1
  clear hl1
  have hC2 := fun (W : World) (hb : Below w.heap.size w W) => toMsgS_any a1 _ c1 m.fNet W rfl (LeafL.mono rMsg_good (h1.below rMsg_good hb) hb.size) (by omega)
  go_wp2_with fail
  refine Calls.mono (hC2 _ ?_) ?_
  · exact (by repeat (first | with_reducible exact hB1 | refine Below.setCell ?_ (by dsimp only; omega) _))
  clear hC2
  rintro e w2 ⟨v2, F2, rfl, ho2, hn2, hl2, hx2⟩
  obtain ⟨ax2, cx2, rfl, _⟩ := ownS.read oMsg_good ho2
  obtain ⟨hc2, hf2⟩ := bcell hx2
  have hz2 : w.heap.size + 1 + 1 + 1 ≤ w2.heap.size := by have := hx2.size; simp at this; omega
  have hB2 : Below w.heap.size w w2 := Below.trans (by repeat (first | with_reducible exact hB1 | refine Below.setCell ?_ (by dsimp only; omega) _)) (hx2.mono (by first | (simp; omega) | (have := hz1; simp; omega)))
  have hy2a : w.heap.size < w2.heap.size := by omega
  have hy2b : w.heap.size + 1 < w2.heap.size := by omega
  have hy2c : w.heap.size + 1 + 1 < w2.heap.size := by omega
  have hA2 := Above.below (X := w.heap.size + 1 + 1 + 1) hx2
  have hlo2 : ∀ b, b ∈ F2 → w.heap.size + 1 + 1 + 1 ≤ b := fun b hb => by have h := hl2 b hb; simp at h; omega
  have hhi2 : ∀ b, b ∈ F2 → b < w2.heap.size := ownS.lt oMsg_good ho2
  have hs2 : w1.heap.size ≤ w2.heap.size := by have h := hx2.size; simpa using h
  have hg2 : ∀ b, b ∈ F2 → w1.heap.size ≤ b := fun b hb => by simpa using hl2 b hb
  clear hl2
  have hC3 := fun (W : World) (hb : Below w.heap.size w W) => toAskedS_any a2 _ c2 m.fAsked W rfl (LeafL.mono rAsked_good (h2.below rAsked_good hb) hb.size) (by omega)
  go_wp2_with fail
  refine Calls.mono (hC3 _ ?_) ?_
  · exact (by repeat (first | with_reducible exact hB2 | refine Below.setCell ?_ (by dsimp only; omega) _))
  clear hC3
  rintro e w3 ⟨v3, F3, rfl, ho3, hn3, hl3, hx3⟩
  obtain ⟨ax3, cx3, rfl, _⟩ := ownS.read oAsked_good ho3
  obtain ⟨hc3, hf3⟩ := bcell hx3
  have hz3 : w.heap.size + 1 + 1 + 1 ≤ w3.heap.size := by have := hx3.size; simp at this; omega
  have hB3 : Below w.heap.size w w3 := Below.trans (by repeat (first | with_reducible exact hB2 | refine Below.setCell ?_ (by dsimp only; omega) _)) (hx3.mono (by first | (simp; omega) | (have := hz2; simp; omega)))
  have hy3a : w.heap.size < w3.heap.size := by omega
  have hy3b : w.heap.size + 1 < w3.heap.size := by omega
  have hy3c : w.heap.size + 1 + 1 < w3.heap.size := by omega
  have hA3 := Above.below (X := w.heap.size + 1 + 1 + 1) hx3
  have hlo3 : ∀ b, b ∈ F3 → w.heap.size + 1 + 1 + 1 ≤ b := fun b hb => by have h := hl3 b hb; simp at h; omega
  have hhi3 : ∀ b, b ∈ F3 → b < w3.heap.size := ownS.lt oAsked_good ho3
  have hs3 : w2.heap.size ≤ w3.heap.size := by have h := hx3.size; simpa using h
  have hg3 : ∀ b, b ∈ F3 → w2.heap.size ≤ b := fun b hb => by simpa using hl3 b hb
  clear hl3
  go_wp2_with fail
  refine bodyPost_ret (v := .agg #[.slice ax1 m.fReps.length cx1, .slice ax2 m.fNet.length cx2, .slice ax3 m.fAsked.length cx3]) (by simp [results, Try.results6, go_sem, *]) rfl ⟨[.slice ax1 m.fReps.length cx1, .slice ax2 m.fNet.length cx2, .slice ax3 m.fAsked.length cx3], F1 ++ F2 ++ F3 ++ [], rfl, ?_, (by rw [List.append_nil]; exact (nodup_app (nodup_app hn1 hn2 hhi1 hg2) hn3 (app_lt hhi1 hhi2 hs2) hg3)), (by rw [List.append_nil]; exact (app_ge (app_ge (fun b hb => by have := hlo1 b hb; omega) (fun b hb => by have := hlo2 b hb; omega)) (fun b hb => by have := hlo3 b hb; omega))), (by repeat (first | with_reducible exact hB3 | refine Below.setCell ?_ (by dsimp only; omega) _))⟩
  exact ⟨_, F1, _, F2, _, F3, rfl, ownS.frame oReplica_good ho1 (fun b hb => (show Above (w.heap.size + 1 + 1 + 1) w1 _ from by repeat (first | with_reducible exact Above.refl _ _ | refine Above.setCell ?_ (by dsimp only; omega) _ | with_reducible refine Above.trans ?_ hA3 | with_reducible refine Above.trans ?_ hA2 | with_reducible refine Above.trans ?_ hA1)).block b (hlo1 b hb) (hhi1 b hb)), ownS.frame oMsg_good ho2 (fun b hb => (show Above (w.heap.size + 1 + 1 + 1) w2 _ from by repeat (first | with_reducible exact Above.refl _ _ | refine Above.setCell ?_ (by dsimp only; omega) _ | with_reducible refine Above.trans ?_ hA3 | with_reducible refine Above.trans ?_ hA2 | with_reducible refine Above.trans ?_ hA1)).block b (hlo2 b hb) (hhi2 b hb)), ownS.frame oAsked_good ho3 (fun b hb => (show Above (w.heap.size + 1 + 1 + 1) w3 _ from by repeat (first | with_reducible exact Above.refl _ _ | refine Above.setCell ?_ (by dsimp only; omega) _ | with_reducible refine Above.trans ?_ hA3 | with_reducible refine Above.trans ?_ hA2 | with_reducible refine Above.trans ?_ hA1)).block b (hlo3 b hb) (hhi3 b hb)), rfl⟩

end Go.Proofs.Ytembioiaeimegaa
