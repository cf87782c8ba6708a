/-
  The laws copy what they are handed: what comes out is the same, in memory of its own.
-/
import Derived.Test.YtbejnnijaglkmaaDoorPDatZ
import Derived.Test.YtbejnnijaglkmaaDoorByteL
namespace Go.Proofs.YtbejnnijaglkmaaDoor
open Go.RowKit
set_option linter.unusedVariables false

set_option maxHeartbeats 1000000 in
theorem toPair_any (cs : List Value) (m : MPair) (w : World) (hr : rPair w.heap.size w cs m) (hsz : wPair m ≤ 1048576) :
    Calls Tryd.prog 115 #[.agg cs.toArray] w fun e w' => ∃ (cs' : List Value) (F : List Nat), e = .returned (.agg cs'.toArray) ∧ oPair w' cs' m F ∧ F.Nodup ∧ (∀ b, b ∈ F → w.heap.size ≤ b) ∧ Below w.heap.size w w' := by
  obtain ⟨rfl, h0, h1, h2, _⟩ := hr
  have hsz' : m.fKey.size + m.fVal.size ≤ 1048576 := hsz
  clear hsz
  have hbA : ∀ o1 o2 o3, Below w.heap.size w (((w.alloc o1).alloc o2).alloc o3) := fun o1 o2 o3 => (((Below.refl _ _).alloc (Nat.le_refl _) o1).alloc (by simp) o2).alloc (by simp; omega) o3
  go_enter Tryd.func115, Tryd.ntmps115
  go_wp2_with fail
  refine bodyPost_ret (v := .agg #[.string m.fKey, .string m.fVal, .bool m.fGone]) (by simp [results, Tryd.results115, go_sem]) rfl ⟨[.string m.fKey, .string m.fVal, .bool m.fGone], [], rfl, ?_, List.nodup_nil, (fun b hb => by cases hb), (hbA _ _ _)⟩
  exact ⟨rfl, h0, h1, h2, rfl⟩

set_option maxHeartbeats 1000000 in
theorem toNode_any (cs : List Value) (m : MNode) (w : World) (hr : rNode w.heap.size w cs m) (hsz : wNode m ≤ 1048576) :
    Calls Tryd.prog 77 #[.agg cs.toArray] w fun e w' => ∃ (cs' : List Value) (F : List Nat), e = .returned (.agg cs'.toArray) ∧ oNode w' cs' m F ∧ F.Nodup ∧ (∀ b, b ∈ F → w.heap.size ≤ b) ∧ Below w.heap.size w w' := by
  obtain ⟨rfl, h0, h1, h2, h3, _⟩ := hr
  have hsz' : m.fP.fKey.size + m.fP.fVal.size ≤ 1048576 := hsz
  clear hsz
  have hbA : ∀ o1 o2 o3, Below w.heap.size w (((w.alloc o1).alloc o2).alloc o3) := fun o1 o2 o3 => (((Below.refl _ _).alloc (Nat.le_refl _) o1).alloc (by simp) o2).alloc (by simp; omega) o3
  go_enter Tryd.func77, Tryd.ntmps77
  have hC1 := fun (W : World) (hb : Below w.heap.size w W) => toPair_any [.string m.fP.fKey, .string m.fP.fVal, .bool m.fP.fGone] m.fP W ⟨rfl, h0, h1, h2, trivial⟩ (by have h : wPair m.fP = m.fP.fKey.size + m.fP.fVal.size := rfl; omega)
  go_wp2_with fail
  refine Calls.mono (hC1 _ ?_) ?_
  · exact (hbA _ _ _)
  clear hC1
  rintro e w1 ⟨v1, F1, rfl, ho1, hn1, hl1, hx1⟩
  obtain ⟨rfl, _, _, _, rfl⟩ := ho1
  obtain ⟨hc1, hf1⟩ := bcell hx1
  have hz1 : w.heap.size + 1 + 1 + 1 ≤ w1.heap.size := by have := hx1.size; simpa using this
  have hB1 : Below w.heap.size w w1 := Below.trans (hbA _ _ _) (hx1.mono (by first | (simp; omega) | (have := hz1; simp; omega)))
  have hy1a : w.heap.size < w1.heap.size := by omega
  have hy1b : w.heap.size + 1 < w1.heap.size := by omega
  have hy1c : w.heap.size + 1 + 1 < w1.heap.size := by omega
  have hA1 := Above.below (X := w.heap.size + 1 + 1 + 1) hx1
  clear hl1
  go_wp2_with fail
  refine bodyPost_ret (v := .agg #[.string m.fP.fKey, .string m.fP.fVal, .bool m.fP.fGone, .int .i64 m.fTower]) (by simp [results, Tryd.results77, go_sem, *]) rfl ⟨[.string m.fP.fKey, .string m.fP.fVal, .bool m.fP.fGone, .int .i64 m.fTower], [], rfl, ?_, List.nodup_nil, (fun b hb => by cases hb), (by repeat (first | with_reducible exact hB1 | refine Below.setCell ?_ (by dsimp only; omega) _))⟩
  exact ⟨rfl, h0, h1, h2, h3, rfl⟩

theorem Tryd.infoOfNode : (Tryd.prog.info? 78).map (fun i => (i.zero, i.size, i.bytes)) = some (some (.agg #[.string ⟨#[]⟩, .string ⟨#[]⟩, .bool false, .int .i64 0]), 4, 48) := by kernel_rfl

set_option maxHeartbeats 1000000 in
theorem toNodeS_any (a : Option Addr) (n cap : Nat) (l : List MNode) (w : World) (hx : l.length = n) (hr : LeafL 4 rNode w.heap.size w a cap l) (hsz : n + sumW wNode l ≤ 1048576) :
    Calls Tryd.prog 45 #[.slice a n cap] w fun e w' => ∃ (v : Value) (F : List Nat), e = .returned v ∧ ownS 4 78 oNode w' v l F ∧ F.Nodup ∧ (∀ b, b ∈ F → w.heap.size ≤ b) ∧ Below w.heap.size w w' := by
  obtain ⟨i0, hi, hz0, hz1, hz2⟩ := info_parts Tryd.infoOfNode
  have HX := Hid.mk hx
  clear hx
  replace hr := hr.2.2
  go_enter Tryd.func45, Tryd.ntmps45
  go_wp2_with (at_make; refine wpList_make_full _ rfl _ _ 39 rfl w.heap.size 78 i0 (.agg #[.string ⟨#[]⟩, .string ⟨#[]⟩, .bool false, .int .i64 0]) 4 Tryd.underlying39 hi hz0 hz1 .i64 .i64 _ _ n rfl rfl rfl rfl (by rw [hz2]; omega) (by unfold maxLen; omega) (Nat.le_refl _) ?_)
  intro w0 hown hgr
  have hb0 : Below w.heap.size w w0 := (Below.refl _ _).grown hgr (Nat.le_refl _) (fun k h => by cases h)
  have hg0 : w.heap.size < w0.heap.size := (hown.lt w.heap.size rfl).2
  have hF0 : Fill 4 78 oNode w0 w.heap.size n l 0 [] := Fill.start hown
  clear hgr hi hz0 hz1 hz2 hown
  go_wp2_with fail
  go_loopw [4] (fun i wr => ∃ (k : Nat) (Fs : List (List Nat)), k ≤ n ∧ i = .int .i64 k ∧ Fill 4 78 oNode wr w.heap.size n l k Fs ∧ w.heap.size < wr.heap.size ∧ Below w.heap.size w wr) (fun i _ => n - (intOf i).toNat)
  case atStart => exact ⟨0, [], Nat.zero_le _, rfl, hF0, hg0, hb0⟩
  case round =>
    obtain ⟨k, Fs, hk, rfl, hFk, hgk, hbk⟩ := hrel
    clear hF0 hg0 hb0
    by_cases hlt : k < n
    · have hkl : k < l.length := by rw [HX.out]; exact hlt
      have hwk := sumW_le (f := wNode) hkl
      obtain ⟨b1, o1, rfl, hB, cs, hcl, hcell, hrT⟩ := (hr.below rNode_good hbk) k hkl
      have hrT' := rNode_good.mono hrT hbk.size
      have hstep := fun (w1 : World) (hb : Below wr.heap.size wr w1) (cs : List Value) (F : List Nat) ho hF hN => Fill.step (w1 := w1) oNode_good hFk hgk hkl hlt hb (cs := cs) (F := F) ho hF hN
      generalize l[k] = m at *
      obtain ⟨rfl, h0, h1, h2, h3, _⟩ := hrT
      have k0 := hcell 0 _ rfl
      have k1 := hcell 1 _ rfl
      have k2 := hcell 2 _ rfl
      have k3 := hcell 3 _ rfl
      rw [Nat.add_zero] at k0
      clear hcell hcl
      go_wp2_with fail
      refine (toNode_any _ m wr hrT' (by omega)).mono ?_
      rintro e w1 ⟨cs1, F1, rfl, ho1, hn1, hl1, hb1⟩
      have hst := hstep w1 hb1 cs1 F1 ho1 hl1 hn1
      have hF1 := hFk.keep oNode_good hgk hb1
      have hB1 := hbk.trans (hb1.mono hbk.size)
      have hg1 : w.heap.size < w1.heap.size := Nat.lt_of_lt_of_le hgk hb1.size
      obtain ⟨rfl, y0, y1, y2, y3, hG⟩ := ho1
      obtain ⟨u0, q0⟩ := hF1.cells hlt 0 (by omega)
      have r0 := hF1.free (k * 4 + 0)
      obtain ⟨u1, q1⟩ := hF1.cells hlt 1 (by omega)
      have r1 := hF1.free (k * 4 + 1)
      obtain ⟨u2, q2⟩ := hF1.cells hlt 2 (by omega)
      have r2 := hF1.free (k * 4 + 2)
      obtain ⟨u3, q3⟩ := hF1.cells hlt 3 (by omega)
      have r3 := hF1.free (k * 4 + 3)
      rw [Nat.add_zero] at q0 r0
      clear hstep hF1 hFk hrT' hl1 hn1
      go_wp2_with fail
      go_roundw
      case rel => exact ⟨k + 1, Fs ++ [F1], by omega, by go_num, hst, by simpa using hg1, below_setCells (Nat.le_refl _) [.string m.fP.fKey, .string m.fP.fVal, .bool m.fP.fGone, .int .i64 m.fTower] _ _ _ hB1⟩
      case measure => simp [intOf]; omega
    · have hkn : k = n := by omega
      subst hkn
      have hd := hFk.done HX.out (by unfold maxLen; omega)
      go_wp2_with fail
      go_ret
      refine ⟨_, _, rfl, hd.1, hd.2, ?_, hbk⟩
      intro b hb
      rcases List.mem_cons.1 hb with rfl | hb
      · exact Nat.le_refl _
      · have := (hFk.over b hb).1; omega

set_option maxHeartbeats 1000000 in
theorem toMem_any (cs : List Value) (m : MMem) (w : World) (hr : rMem w.heap.size w cs m) (hsz : wMem m ≤ 1048576) :
    Calls Tryd.prog 14 #[.agg cs.toArray] w fun e w' => ∃ (cs' : List Value) (F : List Nat), e = .returned (.agg cs'.toArray) ∧ oMem w' cs' m F ∧ F.Nodup ∧ (∀ b, b ∈ F → w.heap.size ≤ b) ∧ Below w.heap.size w w' := by
  obtain ⟨a0, c0, rfl, h0, _⟩ := hr
  have hsz' : (m.fNodes.length + sumW wNode m.fNodes) ≤ 1048576 := hsz
  clear hsz
  have hbA : ∀ o1 o2 o3, Below w.heap.size w (((w.alloc o1).alloc o2).alloc o3) := fun o1 o2 o3 => (((Below.refl _ _).alloc (Nat.le_refl _) o1).alloc (by simp) o2).alloc (by simp; omega) o3
  go_enter Tryd.func14, Tryd.ntmps14
  have hC1 := fun (W : World) (hb : Below w.heap.size w W) => toNodeS_any a0 _ c0 m.fNodes W rfl (LeafL.mono rNode_good (h0.below rNode_good hb) hb.size) (by omega)
  go_wp2_with fail
  refine Calls.mono (hC1 _ ?_) ?_
  · exact (hbA _ _ _)
  clear hC1
  rintro e w1 ⟨v1, F1, rfl, ho1, hn1, hl1, hx1⟩
  obtain ⟨ax1, cx1, rfl, _⟩ := ownS.read oNode_good ho1
  obtain ⟨hc1, hf1⟩ := bcell hx1
  have hz1 : w.heap.size + 1 + 1 + 1 ≤ w1.heap.size := by have := hx1.size; simpa using this
  have hB1 : Below w.heap.size w w1 := Below.trans (hbA _ _ _) (hx1.mono (by first | (simp; omega) | (have := hz1; simp; omega)))
  have hy1a : w.heap.size < w1.heap.size := by omega
  have hy1b : w.heap.size + 1 < w1.heap.size := by omega
  have hy1c : w.heap.size + 1 + 1 < w1.heap.size := by omega
  have hA1 := Above.below (X := w.heap.size + 1 + 1 + 1) hx1
  have hlo1 : ∀ b, b ∈ F1 → w.heap.size + 1 + 1 + 1 ≤ b := fun b hb => by have h := hl1 b hb; simp at h; omega
  have hhi1 : ∀ b, b ∈ F1 → b < w1.heap.size := ownS.lt oNode_good ho1
  clear hl1
  go_wp2_with fail
  refine bodyPost_ret (v := .agg #[.slice ax1 m.fNodes.length cx1]) (by simp [results, Tryd.results14, go_sem, *]) rfl ⟨[.slice ax1 m.fNodes.length cx1], F1 ++ [], rfl, ?_, (by rw [List.append_nil]; exact hn1), (by rw [List.append_nil]; exact (fun b hb => by have := hlo1 b hb; omega)), (by repeat (first | with_reducible exact hB1 | refine Below.setCell ?_ (by dsimp only; omega) _))⟩
  exact ⟨_, F1, rfl, ownS.frame oNode_good ho1 (fun b hb => (show Above (w.heap.size + 1 + 1 + 1) w1 _ from by repeat (first | with_reducible exact Above.refl _ _ | refine Above.setCell ?_ (by dsimp only; omega) _ | with_reducible refine Above.trans ?_ hA1)).block b (hlo1 b hb) (hhi1 b hb)), rfl⟩

end Go.Proofs.YtbejnnijaglkmaaDoor
