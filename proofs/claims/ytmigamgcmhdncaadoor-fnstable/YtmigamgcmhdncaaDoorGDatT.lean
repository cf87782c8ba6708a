/-
  The laws copy what they are handed: what comes out is the same, in memory of its own.
-/
import Derived.Test.YtmigamgcmhdncaaDoorRows
import Derived.Test.YtmigamgcmhdncaaDoorKit
import Derived.Test.YtmigamgcmhdncaaDoorDatN
import Derived.Test.YtmigamgcmhdncaaDoorChecked
import Derived.Test.YtmigamgcmhdncaaDoorGDatZ
namespace Go.Proofs.YtmigamgcmhdncaaDoor
open Go.RowKit
set_option linter.unusedVariables false

set_option maxHeartbeats 1000000 in
theorem toDot_any (cs : List Value) (m : MDot) (w : World) (hr : rDot w.heap.size w cs m) (hsz : wDot m ≤ 1048576) :
    Calls Tryd.prog 19 #[.agg cs.toArray] w fun e w' => ∃ (cs' : List Value) (F : List Nat), e = .returned (.agg cs'.toArray) ∧ oDot w' cs' m F ∧ F.Nodup ∧ (∀ b, b ∈ F → w.heap.size ≤ b) ∧ Below w.heap.size w w' := by
  obtain ⟨rfl, h0, h1, _⟩ := hr
  have hsz' : 0 ≤ 1048576 := hsz
  clear hsz
  have hbA : ∀ o1 o2 o3, Below w.heap.size w (((w.alloc o1).alloc o2).alloc o3) := fun o1 o2 o3 => (((Below.refl _ _).alloc (Nat.le_refl _) o1).alloc (by simp) o2).alloc (by simp; omega) o3
  go_enter Tryd.func19, Tryd.ntmps19
  go_wp2_with fail
  refine bodyPost_ret (v := .agg #[.int .i64 m.fR, .int .i64 m.fN]) (by simp [results, Tryd.results19, go_sem]) rfl ⟨[.int .i64 m.fR, .int .i64 m.fN], [], rfl, ?_, List.nodup_nil, (fun b hb => by cases hb), (hbA _ _ _)⟩
  exact ⟨rfl, h0, h1, rfl⟩

theorem Tryd.infoOfDot : (Tryd.prog.info? 40).map (fun i => (i.zero, i.size, i.bytes)) = some (some (.agg #[.int .i64 0, .int .i64 0]), 2, 16) := by kernel_rfl

set_option maxHeartbeats 1000000 in
theorem toDotS_any (a : Option Addr) (n cap : Nat) (l : List MDot) (w : World) (hx : l.length = n) (hr : LeafL 2 rDot w.heap.size w a cap l) (hsz : n + sumW wDot l ≤ 1048576) :
    Calls Tryd.prog 89 #[.slice a n cap] w fun e w' => ∃ (v : Value) (F : List Nat), e = .returned v ∧ ownS 2 40 oDot w' v l F ∧ F.Nodup ∧ (∀ b, b ∈ F → w.heap.size ≤ b) ∧ Below w.heap.size w w' := by
  obtain ⟨i0, hi, hz0, hz1, hz2⟩ := info_parts Tryd.infoOfDot
  have HX := Hid.mk hx
  clear hx
  replace hr := hr.2.2
  go_enter Tryd.func89, Tryd.ntmps89
  go_wp2_with (at_make; refine wpList_make_full _ rfl _ _ 26 rfl w.heap.size 40 i0 (.agg #[.int .i64 0, .int .i64 0]) 2 Tryd.underlying26 hi hz0 hz1 .i64 .i64 _ _ n rfl rfl rfl rfl (by rw [hz2]; omega) (by unfold maxLen; omega) (Nat.le_refl _) ?_)
  intro w0 hown hgr
  have hb0 : Below w.heap.size w w0 := (Below.refl _ _).grown hgr (Nat.le_refl _) (fun k h => by cases h)
  have hg0 : w.heap.size < w0.heap.size := (hown.lt w.heap.size rfl).2
  have hF0 : Fill 2 40 oDot w0 w.heap.size n l 0 [] := Fill.start hown
  clear hgr hi hz0 hz1 hz2 hown
  go_wp2_with fail
  go_loopw [4] (fun i wr => ∃ (k : Nat) (Fs : List (List Nat)), k ≤ n ∧ i = .int .i64 k ∧ Fill 2 40 oDot wr w.heap.size n l k Fs ∧ w.heap.size < wr.heap.size ∧ Below w.heap.size w wr) (fun i _ => n - (intOf i).toNat)
  case atStart => exact ⟨0, [], Nat.zero_le _, rfl, hF0, hg0, hb0⟩
  case round =>
    obtain ⟨k, Fs, hk, rfl, hFk, hgk, hbk⟩ := hrel
    clear hF0 hg0 hb0
    by_cases hlt : k < n
    · have hkl : k < l.length := by rw [HX.out]; exact hlt
      have hwk := sumW_le (f := wDot) hkl
      obtain ⟨b1, o1, rfl, hB, cs, hcl, hcell, hrT⟩ := (hr.below rDot_good hbk) k hkl
      have hrT' := rDot_good.mono hrT hbk.size
      have hstep := fun (w1 : World) (hb : Below wr.heap.size wr w1) (cs : List Value) (F : List Nat) ho hF hN => Fill.step (w1 := w1) oDot_good hFk hgk hkl hlt hb (cs := cs) (F := F) ho hF hN
      generalize l[k] = m at *
      obtain ⟨rfl, h0, h1, _⟩ := hrT
      have k0 := hcell 0 _ rfl
      have k1 := hcell 1 _ rfl
      rw [Nat.add_zero] at k0
      clear hcell hcl
      go_wp2_with fail
      refine (toDot_any _ m wr hrT' (by omega)).mono ?_
      rintro e w1 ⟨cs1, F1, rfl, ho1, hn1, hl1, hb1⟩
      have hst := hstep w1 hb1 cs1 F1 ho1 hl1 hn1
      have hF1 := hFk.keep oDot_good hgk hb1
      have hB1 := hbk.trans (hb1.mono hbk.size)
      have hg1 : w.heap.size < w1.heap.size := Nat.lt_of_lt_of_le hgk hb1.size
      obtain ⟨rfl, y0, y1, hG⟩ := ho1
      obtain ⟨u0, q0⟩ := hF1.cells hlt 0 (by omega)
      have r0 := hF1.free (k * 2 + 0)
      obtain ⟨u1, q1⟩ := hF1.cells hlt 1 (by omega)
      have r1 := hF1.free (k * 2 + 1)
      rw [Nat.add_zero] at q0 r0
      clear hstep hF1 hFk hrT' hl1 hn1
      go_wp2_with fail
      go_roundw
      case rel => exact ⟨k + 1, Fs ++ [F1], by omega, by go_num, hst, by simpa using hg1, below_setCells (Nat.le_refl _) [.int .i64 m.fR, .int .i64 m.fN] _ _ _ hB1⟩
      case measure => simp [intOf]; omega
    · have hkn : k = n := by omega
      subst hkn
      have hd := hFk.done HX.out (by unfold maxLen; omega)
      go_wp2_with fail
      go_ret
      refine ⟨_, _, rfl, hd.1, hd.2, ?_, hbk⟩
      intro b hb
      rcases List.mem_cons.1 hb with rfl | hb
      · exact Nat.le_refl _
      · have := (hFk.over b hb).1; omega

set_option maxHeartbeats 1000000 in
theorem toItem_any (cs : List Value) (m : MItem) (w : World) (hr : rItem w.heap.size w cs m) (hsz : wItem m ≤ 1048576) :
    Calls Tryd.prog 65 #[.agg cs.toArray] w fun e w' => ∃ (cs' : List Value) (F : List Nat), e = .returned (.agg cs'.toArray) ∧ oItem w' cs' m F ∧ F.Nodup ∧ (∀ b, b ∈ F → w.heap.size ≤ b) ∧ Below w.heap.size w w' := by
  obtain ⟨a2, c2, rfl, h0, h1, h2, _⟩ := hr
  have hsz' : (m.fDeps.length + sumW wDot m.fDeps) ≤ 1048576 := hsz
  clear hsz
  have hbA : ∀ o1 o2 o3, Below w.heap.size w (((w.alloc o1).alloc o2).alloc o3) := fun o1 o2 o3 => (((Below.refl _ _).alloc (Nat.le_refl _) o1).alloc (by simp) o2).alloc (by simp; omega) o3
  go_enter Tryd.func65, Tryd.ntmps65
  have hC1 := fun (W : World) (hb : Below w.heap.size w W) => toDot_any [.int .i64 m.fD.fR, .int .i64 m.fD.fN] m.fD W ⟨rfl, h0, h1, trivial⟩ (by have h : wDot m.fD = 0 := rfl; omega)
  go_wp2_with fail
  refine Calls.mono (hC1 _ ?_) ?_
  · exact (hbA _ _ _)
  clear hC1
  rintro e w1 ⟨v1, F1, rfl, ho1, hn1, hl1, hx1⟩
  obtain ⟨rfl, _, _, rfl⟩ := ho1
  obtain ⟨hc1, hf1⟩ := bcell hx1
  have hz1 : w.heap.size + 1 + 1 + 1 ≤ w1.heap.size := by have := hx1.size; simpa using this
  have hB1 : Below w.heap.size w w1 := Below.trans (hbA _ _ _) (hx1.mono (by first | (simp; omega) | (have := hz1; simp; omega)))
  have hy1a : w.heap.size < w1.heap.size := by omega
  have hy1b : w.heap.size + 1 < w1.heap.size := by omega
  have hy1c : w.heap.size + 1 + 1 < w1.heap.size := by omega
  have hA1 := Above.below (X := w.heap.size + 1 + 1 + 1) hx1
  clear hl1
  have hC2 := fun (W : World) (hb : Below w.heap.size w W) => toDotS_any a2 _ c2 m.fDeps W rfl (LeafL.mono rDot_good (h2.below rDot_good hb) hb.size) (by omega)
  go_wp2_with fail
  refine Calls.mono (hC2 _ ?_) ?_
  · exact (by repeat (first | with_reducible exact hB1 | refine Below.setCell ?_ (by dsimp only; omega) _))
  clear hC2
  rintro e w2 ⟨v2, F2, rfl, ho2, hn2, hl2, hx2⟩
  obtain ⟨ax2, cx2, rfl, _⟩ := ownS.read oDot_good ho2
  obtain ⟨hc2, hf2⟩ := bcell hx2
  have hz2 : w.heap.size + 1 + 1 + 1 ≤ w2.heap.size := by have := hx2.size; simp at this; omega
  have hB2 : Below w.heap.size w w2 := Below.trans (by repeat (first | with_reducible exact hB1 | refine Below.setCell ?_ (by dsimp only; omega) _)) (hx2.mono (by first | (simp; omega) | (have := hz1; simp; omega)))
  have hy2a : w.heap.size < w2.heap.size := by omega
  have hy2b : w.heap.size + 1 < w2.heap.size := by omega
  have hy2c : w.heap.size + 1 + 1 < w2.heap.size := by omega
  have hA2 := Above.below (X := w.heap.size + 1 + 1 + 1) hx2
  have hlo2 : ∀ b, b ∈ F2 → w.heap.size + 1 + 1 + 1 ≤ b := fun b hb => by have h := hl2 b hb; simp at h; omega
  have hhi2 : ∀ b, b ∈ F2 → b < w2.heap.size := ownS.lt oDot_good ho2
  have hs2 : w1.heap.size ≤ w2.heap.size := by have h := hx2.size; simpa using h
  have hg2 : ∀ b, b ∈ F2 → w1.heap.size ≤ b := fun b hb => by simpa using hl2 b hb
  clear hl2
  go_wp2_with fail
  refine bodyPost_ret (v := .agg #[.int .i64 m.fD.fR, .int .i64 m.fD.fN, .slice ax2 m.fDeps.length cx2]) (by simp [results, Tryd.results65, go_sem, *]) rfl ⟨[.int .i64 m.fD.fR, .int .i64 m.fD.fN, .slice ax2 m.fDeps.length cx2], F2 ++ [], rfl, ?_, (by rw [List.append_nil]; exact hn2), (by rw [List.append_nil]; exact (fun b hb => by have := hlo2 b hb; omega)), (by repeat (first | with_reducible exact hB2 | refine Below.setCell ?_ (by dsimp only; omega) _))⟩
  exact ⟨_, F2, rfl, h0, h1, ownS.frame oDot_good ho2 (fun b hb => (show Above (w.heap.size + 1 + 1 + 1) w2 _ from by repeat (first | with_reducible exact Above.refl _ _ | refine Above.setCell ?_ (by dsimp only; omega) _ | with_reducible refine Above.trans ?_ hA2 | with_reducible refine Above.trans ?_ hA1)).block b (hlo2 b hb) (hhi2 b hb)), rfl⟩

theorem Tryd.infoOfItem : (Tryd.prog.info? 52).map (fun i => (i.zero, i.size, i.bytes)) = some (some (.agg #[.int .i64 0, .int .i64 0, .slice none 0 0]), 3, 40) := by kernel_rfl

set_option maxHeartbeats 1000000 in
theorem toItemS_any (a : Option Addr) (n cap : Nat) (l : List MItem) (w : World) (hx : l.length = n) (hr : LeafL 3 rItem w.heap.size w a cap l) (hsz : n + sumW wItem l ≤ 1048576) :
    Calls Tryd.prog 36 #[.slice a n cap] w fun e w' => ∃ (v : Value) (F : List Nat), e = .returned v ∧ ownS 3 52 oItem w' v l F ∧ F.Nodup ∧ (∀ b, b ∈ F → w.heap.size ≤ b) ∧ Below w.heap.size w w' := by
  obtain ⟨i0, hi, hz0, hz1, hz2⟩ := info_parts Tryd.infoOfItem
  have HX := Hid.mk hx
  clear hx
  replace hr := hr.2.2
  go_enter Tryd.func36, Tryd.ntmps36
  go_wp2_with (at_make; refine wpList_make_full _ rfl _ _ 28 rfl w.heap.size 52 i0 (.agg #[.int .i64 0, .int .i64 0, .slice none 0 0]) 3 Tryd.underlying28 hi hz0 hz1 .i64 .i64 _ _ n rfl rfl rfl rfl (by rw [hz2]; omega) (by unfold maxLen; omega) (Nat.le_refl _) ?_)
  intro w0 hown hgr
  have hb0 : Below w.heap.size w w0 := (Below.refl _ _).grown hgr (Nat.le_refl _) (fun k h => by cases h)
  have hg0 : w.heap.size < w0.heap.size := (hown.lt w.heap.size rfl).2
  have hF0 : Fill 3 52 oItem w0 w.heap.size n l 0 [] := Fill.start hown
  clear hgr hi hz0 hz1 hz2 hown
  go_wp2_with fail
  go_loopw [4] (fun i wr => ∃ (k : Nat) (Fs : List (List Nat)), k ≤ n ∧ i = .int .i64 k ∧ Fill 3 52 oItem wr w.heap.size n l k Fs ∧ w.heap.size < wr.heap.size ∧ Below w.heap.size w wr) (fun i _ => n - (intOf i).toNat)
  case atStart => exact ⟨0, [], Nat.zero_le _, rfl, hF0, hg0, hb0⟩
  case round =>
    obtain ⟨k, Fs, hk, rfl, hFk, hgk, hbk⟩ := hrel
    clear hF0 hg0 hb0
    by_cases hlt : k < n
    · have hkl : k < l.length := by rw [HX.out]; exact hlt
      have hwk := sumW_le (f := wItem) hkl
      obtain ⟨b1, o1, rfl, hB, cs, hcl, hcell, hrT⟩ := (hr.below rItem_good hbk) k hkl
      have hrT' := rItem_good.mono hrT hbk.size
      have hstep := fun (w1 : World) (hb : Below wr.heap.size wr w1) (cs : List Value) (F : List Nat) ho hF hN => Fill.step (w1 := w1) oItem_good hFk hgk hkl hlt hb (cs := cs) (F := F) ho hF hN
      generalize l[k] = m at *
      obtain ⟨a2, c2, rfl, h0, h1, h2, _⟩ := hrT
      have k0 := hcell 0 _ rfl
      have k1 := hcell 1 _ rfl
      have k2 := hcell 2 _ rfl
      rw [Nat.add_zero] at k0
      clear hcell hcl
      go_wp2_with fail
      refine (toItem_any _ m wr hrT' (by omega)).mono ?_
      rintro e w1 ⟨cs1, F1, rfl, ho1, hn1, hl1, hb1⟩
      have hst := hstep w1 hb1 cs1 F1 ho1 hl1 hn1
      have hF1 := hFk.keep oItem_good hgk hb1
      have hB1 := hbk.trans (hb1.mono hbk.size)
      have hg1 : w.heap.size < w1.heap.size := Nat.lt_of_lt_of_le hgk hb1.size
      obtain ⟨v2, G2, rfl, y0, y1, y2, hG⟩ := ho1
      obtain ⟨ax2, cx2, rfl, _⟩ := ownS.read oDot_good y2
      obtain ⟨u0, q0⟩ := hF1.cells hlt 0 (by omega)
      have r0 := hF1.free (k * 3 + 0)
      obtain ⟨u1, q1⟩ := hF1.cells hlt 1 (by omega)
      have r1 := hF1.free (k * 3 + 1)
      obtain ⟨u2, q2⟩ := hF1.cells hlt 2 (by omega)
      have r2 := hF1.free (k * 3 + 2)
      rw [Nat.add_zero] at q0 r0
      clear hstep hF1 hFk hrT' hl1 hn1
      go_wp2_with fail
      go_roundw
      case rel => exact ⟨k + 1, Fs ++ [F1], by omega, by go_num, hst, by simpa using hg1, below_setCells (Nat.le_refl _) [.int .i64 m.fD.fR, .int .i64 m.fD.fN, .slice ax2 m.fDeps.length cx2] _ _ _ hB1⟩
      case measure => simp [intOf]; omega
    · have hkn : k = n := by omega
      subst hkn
      have hd := hFk.done HX.out (by unfold maxLen; omega)
      go_wp2_with fail
      go_ret
      refine ⟨_, _, rfl, hd.1, hd.2, ?_, hbk⟩
      intro b hb
      rcases List.mem_cons.1 hb with rfl | hb
      · exact Nat.le_refl _
      · have := (hFk.over b hb).1; omega

set_option maxHeartbeats 1000000 in
theorem toGraph_any (cs : List Value) (m : MGraph) (w : World) (hr : rGraph w.heap.size w cs m) (hsz : wGraph m ≤ 1048576) :
    Calls Tryd.prog 11 #[.agg cs.toArray] w fun e w' => ∃ (cs' : List Value) (F : List Nat), e = .returned (.agg cs'.toArray) ∧ oGraph w' cs' m F ∧ F.Nodup ∧ (∀ b, b ∈ F → w.heap.size ≤ b) ∧ Below w.heap.size w w' := by
  obtain ⟨a0, c0, rfl, h0, _⟩ := hr
  have hsz' : (m.fItems.length + sumW wItem m.fItems) ≤ 1048576 := hsz
  clear hsz
  have hbA : ∀ o1 o2 o3, Below w.heap.size w (((w.alloc o1).alloc o2).alloc o3) := fun o1 o2 o3 => (((Below.refl _ _).alloc (Nat.le_refl _) o1).alloc (by simp) o2).alloc (by simp; omega) o3
  go_enter Tryd.func11, Tryd.ntmps11
  have hC1 := fun (W : World) (hb : Below w.heap.size w W) => toItemS_any a0 _ c0 m.fItems W rfl (LeafL.mono rItem_good (h0.below rItem_good hb) hb.size) (by omega)
  go_wp2_with fail
  refine Calls.mono (hC1 _ ?_) ?_
  · exact (hbA _ _ _)
  clear hC1
  rintro e w1 ⟨v1, F1, rfl, ho1, hn1, hl1, hx1⟩
  obtain ⟨ax1, cx1, rfl, _⟩ := ownS.read oItem_good ho1
  obtain ⟨hc1, hf1⟩ := bcell hx1
  have hz1 : w.heap.size + 1 + 1 + 1 ≤ w1.heap.size := by have := hx1.size; simpa using this
  have hB1 : Below w.heap.size w w1 := Below.trans (hbA _ _ _) (hx1.mono (by first | (simp; omega) | (have := hz1; simp; omega)))
  have hy1a : w.heap.size < w1.heap.size := by omega
  have hy1b : w.heap.size + 1 < w1.heap.size := by omega
  have hy1c : w.heap.size + 1 + 1 < w1.heap.size := by omega
  have hA1 := Above.below (X := w.heap.size + 1 + 1 + 1) hx1
  have hlo1 : ∀ b, b ∈ F1 → w.heap.size + 1 + 1 + 1 ≤ b := fun b hb => by have h := hl1 b hb; simp at h; omega
  have hhi1 : ∀ b, b ∈ F1 → b < w1.heap.size := ownS.lt oItem_good ho1
  clear hl1
  go_wp2_with fail
  refine bodyPost_ret (v := .agg #[.slice ax1 m.fItems.length cx1]) (by simp [results, Tryd.results11, go_sem, *]) rfl ⟨[.slice ax1 m.fItems.length cx1], F1 ++ [], rfl, ?_, (by rw [List.append_nil]; exact hn1), (by rw [List.append_nil]; exact (fun b hb => by have := hlo1 b hb; omega)), (by repeat (first | with_reducible exact hB1 | refine Below.setCell ?_ (by dsimp only; omega) _))⟩
  exact ⟨_, F1, rfl, ownS.frame oItem_good ho1 (fun b hb => (show Above (w.heap.size + 1 + 1 + 1) w1 _ from by repeat (first | with_reducible exact Above.refl _ _ | refine Above.setCell ?_ (by dsimp only; omega) _ | with_reducible refine Above.trans ?_ hA1)).block b (hlo1 b hb) (hhi1 b hb)), rfl⟩

end Go.Proofs.YtmigamgcmhdncaaDoor
