/-
  The laws copy what they are handed: what comes out is the same, in memory of its own.
-/
import Derived.Test.YtnohnkcijomdjaaGreatDoorDatZ
import Derived.Test.YtnohnkcijomdjaaGreatDoorDatI
import Derived.Test.YtnohnkcijomdjaaGreatDoorByteL
namespace Go.Proofs.YtnohnkcijomdjaaGreatDoor
open Go.RowKit
set_option linter.unusedVariables false

set_option maxHeartbeats 1000000 in
theorem toInode_any (cs : List Value) (m : MInode) (w : World) (hr : rInode w.heap.size w cs m) (hsz : wInode m ≤ 1048576) :
    Calls Tryz.prog 59 #[.agg cs.toArray] w fun e w' => ∃ (cs' : List Value) (F : List Nat), e = .returned (.agg cs'.toArray) ∧ oInode w' cs' m F ∧ F.Nodup ∧ (∀ b, b ∈ F → w.heap.size ≤ b) ∧ Below w.heap.size w w' := by
  obtain ⟨a1, c1, rfl, h0, h1, h2, _⟩ := hr
  have hsz' : m.fData.length ≤ 1048576 := hsz
  clear hsz
  have hbA : ∀ o1 o2 o3, Below w.heap.size w (((w.alloc o1).alloc o2).alloc o3) := fun o1 o2 o3 => (((Below.refl _ _).alloc (Nat.le_refl _) o1).alloc (by simp) o2).alloc (by simp; omega) o3
  go_enter Tryz.func59, Tryz.ntmps59
  have hC1 := fun (W : World) (hb : Below w.heap.size w W) => toByteS_own a1 _ c1 m.fData W rfl (LeafB.mono (h1.below hb) hb.size) (by omega)
  go_wp2_with fail
  refine Calls.mono (hC1 _ ?_) ?_
  · exact (hbA _ _ _)
  clear hC1
  rintro e w1 ⟨v1, F1, rfl, ho1, hn1, hl1, hx1⟩
  obtain ⟨ax1, cx1, rfl, _⟩ := ho1.read
  obtain ⟨hc1, hf1⟩ := bcell hx1
  have hz1 : w.heap.size + 1 + 1 + 1 ≤ w1.heap.size := by have := hx1.size; simpa using this
  have hB1 : Below w.heap.size w w1 := Below.trans (hbA _ _ _) (hx1.mono (by first | (simp; omega) | (have := hz1; simp; omega)))
  have hy1a : w.heap.size < w1.heap.size := by omega
  have hy1b : w.heap.size + 1 < w1.heap.size := by omega
  have hy1c : w.heap.size + 1 + 1 < w1.heap.size := by omega
  have hA1 := Above.below (X := w.heap.size + 1 + 1 + 1) hx1
  have hlo1 : ∀ b, b ∈ F1 → w.heap.size + 1 + 1 + 1 ≤ b := fun b hb => by have h := hl1 b hb; simp at h; omega
  have hhi1 : ∀ b, b ∈ F1 → b < w1.heap.size := ho1.lt
  clear hl1
  go_wp2_with fail
  refine bodyPost_ret (v := .agg #[.int .i64 m.fId, .slice ax1 m.fData.length cx1, .int .i64 m.fSure]) (by simp [results, Tryz.results59, go_sem, *]) rfl ⟨[.int .i64 m.fId, .slice ax1 m.fData.length cx1, .int .i64 m.fSure], F1 ++ [], rfl, ?_, (by rw [List.append_nil]; exact hn1), (by rw [List.append_nil]; exact (fun b hb => by have := hlo1 b hb; omega)), (by repeat (first | with_reducible exact hB1 | refine Below.setCell ?_ (by dsimp only; omega) _))⟩
  exact ⟨_, F1, rfl, h0, ho1.frame (fun b hb => (show Above (w.heap.size + 1 + 1 + 1) w1 _ from by repeat (first | with_reducible exact Above.refl _ _ | refine Above.setCell ?_ (by dsimp only; omega) _ | with_reducible refine Above.trans ?_ hA1)).block b (hlo1 b hb) (hhi1 b hb)), h2, rfl⟩


set_option maxHeartbeats 1000000 in
theorem toInodeS_any (a : Option Addr) (n cap : Nat) (l : List MInode) (w : World) (hx : l.length = n) (hr : LeafL 3 rInode w.heap.size w a cap l) (hsz : n + sumW wInode l ≤ 1048576) :
    Calls Tryz.prog 30 #[.slice a n cap] w fun e w' => ∃ (v : Value) (F : List Nat), e = .returned v ∧ ownS 3 92 oInode w' v l F ∧ F.Nodup ∧ (∀ b, b ∈ F → w.heap.size ≤ b) ∧ Below w.heap.size w w' := by
  obtain ⟨i0, hi, hz0, hz1, hz2⟩ := info_parts Tryz.infoOfInode
  have HX := Hid.mk hx
  clear hx
  replace hr := hr.2.2
  go_enter Tryz.func30, Tryz.ntmps30
  go_wp2_with (at_make; refine wpList_make_full _ rfl _ _ 36 rfl w.heap.size 92 i0 (.agg #[.int .i64 0, .slice none 0 0, .int .i64 0]) 3 Tryz.underlying36 hi hz0 hz1 .i64 .i64 _ _ n rfl rfl rfl rfl (by rw [hz2]; omega) (by unfold maxLen; omega) (Nat.le_refl _) ?_)
  intro w0 hown hgr
  have hb0 : Below w.heap.size w w0 := (Below.refl _ _).grown hgr (Nat.le_refl _) (fun k h => by cases h)
  have hg0 : w.heap.size < w0.heap.size := (hown.lt w.heap.size rfl).2
  have hF0 : Fill 3 92 oInode w0 w.heap.size n l 0 [] := Fill.start hown
  clear hgr hi hz0 hz1 hz2 hown
  go_wp2_with fail
  go_loopw [4] (fun i wr => ∃ (k : Nat) (Fs : List (List Nat)), k ≤ n ∧ i = .int .i64 k ∧ Fill 3 92 oInode wr w.heap.size n l k Fs ∧ w.heap.size < wr.heap.size ∧ Below w.heap.size w wr) (fun i _ => n - (intOf i).toNat)
  case atStart => exact ⟨0, [], Nat.zero_le _, rfl, hF0, hg0, hb0⟩
  case round =>
    obtain ⟨k, Fs, hk, rfl, hFk, hgk, hbk⟩ := hrel
    clear hF0 hg0 hb0
    by_cases hlt : k < n
    · have hkl : k < l.length := by rw [HX.out]; exact hlt
      have hwk := sumW_le (f := wInode) hkl
      obtain ⟨b1, o1, rfl, hB, cs, hcl, hcell, hrT⟩ := (hr.below rInode_good hbk) k hkl
      have hrT' := rInode_good.mono hrT hbk.size
      have hstep := fun (w1 : World) (hb : Below wr.heap.size wr w1) (cs : List Value) (F : List Nat) ho hF hN => Fill.step (w1 := w1) oInode_good hFk hgk hkl hlt hb (cs := cs) (F := F) ho hF hN
      generalize l[k] = m at *
      obtain ⟨a1, c1, rfl, h0, h1, h2, _⟩ := hrT
      have k0 := hcell 0 _ rfl
      have k1 := hcell 1 _ rfl
      have k2 := hcell 2 _ rfl
      rw [Nat.add_zero] at k0
      clear hcell hcl
      go_wp2_with fail
      refine (toInode_any _ m wr hrT' (by omega)).mono ?_
      rintro e w1 ⟨cs1, F1, rfl, ho1, hn1, hl1, hb1⟩
      have hst := hstep w1 hb1 cs1 F1 ho1 hl1 hn1
      have hF1 := hFk.keep oInode_good hgk hb1
      have hB1 := hbk.trans (hb1.mono hbk.size)
      have hg1 : w.heap.size < w1.heap.size := Nat.lt_of_lt_of_le hgk hb1.size
      obtain ⟨v1, G1, rfl, y0, y1, y2, hG⟩ := ho1
      obtain ⟨ax1, cx1, rfl, _⟩ := y1.read
      obtain ⟨u0, q0⟩ := hF1.cells hlt 0 (by omega)
      have r0 := hF1.free (k * 3 + 0)
      obtain ⟨u1, q1⟩ := hF1.cells hlt 1 (by omega)
      have r1 := hF1.free (k * 3 + 1)
      obtain ⟨u2, q2⟩ := hF1.cells hlt 2 (by omega)
      have r2 := hF1.free (k * 3 + 2)
      rw [Nat.add_zero] at q0 r0
      clear hstep hF1 hFk hrT' hl1 hn1
      go_wp2_with fail
      go_roundw
      case rel => exact ⟨k + 1, Fs ++ [F1], by omega, by go_num, hst, by simpa using hg1, below_setCells (Nat.le_refl _) [.int .i64 m.fId, .slice ax1 m.fData.length cx1, .int .i64 m.fSure] _ _ _ hB1⟩
      case measure => simp [intOf]; omega
    · have hkn : k = n := by omega
      subst hkn
      have hd := hFk.done HX.out (by unfold maxLen; omega)
      go_wp2_with fail
      go_ret
      refine ⟨_, _, rfl, hd.1, hd.2, ?_, hbk⟩
      intro b hb
      rcases List.mem_cons.1 hb with rfl | hb
      · exact Nat.le_refl _
      · have := (hFk.over b hb).1; omega

set_option maxHeartbeats 1000000 in
theorem toEntry_any (cs : List Value) (m : MEntry) (w : World) (hr : rEntry w.heap.size w cs m) (hsz : wEntry m ≤ 1048576) :
    Calls Tryz.prog 60 #[.agg cs.toArray] w fun e w' => ∃ (cs' : List Value) (F : List Nat), e = .returned (.agg cs'.toArray) ∧ oEntry w' cs' m F ∧ F.Nodup ∧ (∀ b, b ∈ F → w.heap.size ≤ b) ∧ Below w.heap.size w w' := by
  obtain ⟨rfl, h0, h1, _⟩ := hr
  have hsz' : m.fName.size ≤ 1048576 := hsz
  clear hsz
  have hbA : ∀ o1 o2 o3, Below w.heap.size w (((w.alloc o1).alloc o2).alloc o3) := fun o1 o2 o3 => (((Below.refl _ _).alloc (Nat.le_refl _) o1).alloc (by simp) o2).alloc (by simp; omega) o3
  go_enter Tryz.func60, Tryz.ntmps60
  go_wp2_with fail
  refine bodyPost_ret (v := .agg #[.string m.fName, .int .i64 m.fId]) (by simp [results, Tryz.results60, go_sem]) rfl ⟨[.string m.fName, .int .i64 m.fId], [], rfl, ?_, List.nodup_nil, (fun b hb => by cases hb), (hbA _ _ _)⟩
  exact ⟨rfl, h0, h1, rfl⟩


set_option maxHeartbeats 1000000 in
theorem toEntryS_any (a : Option Addr) (n cap : Nat) (l : List MEntry) (w : World) (hx : l.length = n) (hr : LeafL 2 rEntry w.heap.size w a cap l) (hsz : n + sumW wEntry l ≤ 1048576) :
    Calls Tryz.prog 31 #[.slice a n cap] w fun e w' => ∃ (v : Value) (F : List Nat), e = .returned v ∧ ownS 2 90 oEntry w' v l F ∧ F.Nodup ∧ (∀ b, b ∈ F → w.heap.size ≤ b) ∧ Below w.heap.size w w' := by
  obtain ⟨i0, hi, hz0, hz1, hz2⟩ := info_parts Tryz.infoOfEntry
  have HX := Hid.mk hx
  clear hx
  replace hr := hr.2.2
  go_enter Tryz.func31, Tryz.ntmps31
  go_wp2_with (at_make; refine wpList_make_full _ rfl _ _ 37 rfl w.heap.size 90 i0 (.agg #[.string ⟨#[]⟩, .int .i64 0]) 2 Tryz.underlying37 hi hz0 hz1 .i64 .i64 _ _ n rfl rfl rfl rfl (by rw [hz2]; omega) (by unfold maxLen; omega) (Nat.le_refl _) ?_)
  intro w0 hown hgr
  have hb0 : Below w.heap.size w w0 := (Below.refl _ _).grown hgr (Nat.le_refl _) (fun k h => by cases h)
  have hg0 : w.heap.size < w0.heap.size := (hown.lt w.heap.size rfl).2
  have hF0 : Fill 2 90 oEntry w0 w.heap.size n l 0 [] := Fill.start hown
  clear hgr hi hz0 hz1 hz2 hown
  go_wp2_with fail
  go_loopw [4] (fun i wr => ∃ (k : Nat) (Fs : List (List Nat)), k ≤ n ∧ i = .int .i64 k ∧ Fill 2 90 oEntry wr w.heap.size n l k Fs ∧ w.heap.size < wr.heap.size ∧ Below w.heap.size w wr) (fun i _ => n - (intOf i).toNat)
  case atStart => exact ⟨0, [], Nat.zero_le _, rfl, hF0, hg0, hb0⟩
  case round =>
    obtain ⟨k, Fs, hk, rfl, hFk, hgk, hbk⟩ := hrel
    clear hF0 hg0 hb0
    by_cases hlt : k < n
    · have hkl : k < l.length := by rw [HX.out]; exact hlt
      have hwk := sumW_le (f := wEntry) hkl
      obtain ⟨b1, o1, rfl, hB, cs, hcl, hcell, hrT⟩ := (hr.below rEntry_good hbk) k hkl
      have hrT' := rEntry_good.mono hrT hbk.size
      have hstep := fun (w1 : World) (hb : Below wr.heap.size wr w1) (cs : List Value) (F : List Nat) ho hF hN => Fill.step (w1 := w1) oEntry_good hFk hgk hkl hlt hb (cs := cs) (F := F) ho hF hN
      generalize l[k] = m at *
      obtain ⟨rfl, h0, h1, _⟩ := hrT
      have k0 := hcell 0 _ rfl
      have k1 := hcell 1 _ rfl
      rw [Nat.add_zero] at k0
      clear hcell hcl
      go_wp2_with fail
      refine (toEntry_any _ m wr hrT' (by omega)).mono ?_
      rintro e w1 ⟨cs1, F1, rfl, ho1, hn1, hl1, hb1⟩
      have hst := hstep w1 hb1 cs1 F1 ho1 hl1 hn1
      have hF1 := hFk.keep oEntry_good hgk hb1
      have hB1 := hbk.trans (hb1.mono hbk.size)
      have hg1 : w.heap.size < w1.heap.size := Nat.lt_of_lt_of_le hgk hb1.size
      obtain ⟨rfl, y0, y1, hG⟩ := ho1
      obtain ⟨u0, q0⟩ := hF1.cells hlt 0 (by omega)
      have r0 := hF1.free (k * 2 + 0)
      obtain ⟨u1, q1⟩ := hF1.cells hlt 1 (by omega)
      have r1 := hF1.free (k * 2 + 1)
      rw [Nat.add_zero] at q0 r0
      clear hstep hF1 hFk hrT' hl1 hn1
      go_wp2_with fail
      go_roundw
      case rel => exact ⟨k + 1, Fs ++ [F1], by omega, by go_num, hst, by simpa using hg1, below_setCells (Nat.le_refl _) [.string m.fName, .int .i64 m.fId] _ _ _ hB1⟩
      case measure => simp [intOf]; omega
    · have hkn : k = n := by omega
      subst hkn
      have hd := hFk.done HX.out (by unfold maxLen; omega)
      go_wp2_with fail
      go_ret
      refine ⟨_, _, rfl, hd.1, hd.2, ?_, hbk⟩
      intro b hb
      rcases List.mem_cons.1 hb with rfl | hb
      · exact Nat.le_refl _
      · have := (hFk.over b hb).1; omega

set_option maxHeartbeats 1000000 in
theorem toDisk_any (cs : List Value) (m : MDisk) (w : World) (hr : rDisk w.heap.size w cs m) (hsz : wDisk m ≤ 1048576) :
    Calls Tryz.prog 12 #[.agg cs.toArray] w fun e w' => ∃ (cs' : List Value) (F : List Nat), e = .returned (.agg cs'.toArray) ∧ oDisk w' cs' m F ∧ F.Nodup ∧ (∀ b, b ∈ F → w.heap.size ≤ b) ∧ Below w.heap.size w w' := by
  obtain ⟨a0, c0, a1, c1, a2, c2, rfl, h0, h1, h2, h3, _⟩ := hr
  have hsz' : (m.fInodes.length + sumW wInode m.fInodes) + (m.fNames.length + sumW wEntry m.fNames) + (m.fSafe.length + sumW wEntry m.fSafe) ≤ 1048576 := hsz
  clear hsz
  have hbA : ∀ o1 o2 o3, Below w.heap.size w (((w.alloc o1).alloc o2).alloc o3) := fun o1 o2 o3 => (((Below.refl _ _).alloc (Nat.le_refl _) o1).alloc (by simp) o2).alloc (by simp; omega) o3
  go_enter Tryz.func12, Tryz.ntmps12
  have hC1 := fun (W : World) (hb : Below w.heap.size w W) => toInodeS_any a0 _ c0 m.fInodes W rfl (LeafL.mono rInode_good (h0.below rInode_good hb) hb.size) (by omega)
  go_wp2_with fail
  refine Calls.mono (hC1 _ ?_) ?_
  · exact (hbA _ _ _)
  clear hC1
  rintro e w1 ⟨v1, F1, rfl, ho1, hn1, hl1, hx1⟩
  obtain ⟨ax1, cx1, rfl, _⟩ := ownS.read oInode_good ho1
  obtain ⟨hc1, hf1⟩ := bcell hx1
  have hz1 : w.heap.size + 1 + 1 + 1 ≤ w1.heap.size := by have := hx1.size; simpa using this
  have hB1 : Below w.heap.size w w1 := Below.trans (hbA _ _ _) (hx1.mono (by first | (simp; omega) | (have := hz1; simp; omega)))
  have hy1a : w.heap.size < w1.heap.size := by omega
  have hy1b : w.heap.size + 1 < w1.heap.size := by omega
  have hy1c : w.heap.size + 1 + 1 < w1.heap.size := by omega
  have hA1 := Above.below (X := w.heap.size + 1 + 1 + 1) hx1
  have hlo1 : ∀ b, b ∈ F1 → w.heap.size + 1 + 1 + 1 ≤ b := fun b hb => by have h := hl1 b hb; simp at h; omega
  have hhi1 : ∀ b, b ∈ F1 → b < w1.heap.size := ownS.lt oInode_good ho1
  clear hl1
  have hC2 := fun (W : World) (hb : Below w.heap.size w W) => toEntryS_any a1 _ c1 m.fNames W rfl (LeafL.mono rEntry_good (h1.below rEntry_good hb) hb.size) (by omega)
  go_wp2_with fail
  refine Calls.mono (hC2 _ ?_) ?_
  · exact (by repeat (first | with_reducible exact hB1 | refine Below.setCell ?_ (by dsimp only; omega) _))
  clear hC2
  rintro e w2 ⟨v2, F2, rfl, ho2, hn2, hl2, hx2⟩
  obtain ⟨ax2, cx2, rfl, _⟩ := ownS.read oEntry_good ho2
  obtain ⟨hc2, hf2⟩ := bcell hx2
  have hz2 : w.heap.size + 1 + 1 + 1 ≤ w2.heap.size := by have := hx2.size; simp at this; omega
  have hB2 : Below w.heap.size w w2 := Below.trans (by repeat (first | with_reducible exact hB1 | refine Below.setCell ?_ (by dsimp only; omega) _)) (hx2.mono (by first | (simp; omega) | (have := hz1; simp; omega)))
  have hy2a : w.heap.size < w2.heap.size := by omega
  have hy2b : w.heap.size + 1 < w2.heap.size := by omega
  have hy2c : w.heap.size + 1 + 1 < w2.heap.size := by omega
  have hA2 := Above.below (X := w.heap.size + 1 + 1 + 1) hx2
  have hlo2 : ∀ b, b ∈ F2 → w.heap.size + 1 + 1 + 1 ≤ b := fun b hb => by have h := hl2 b hb; simp at h; omega
  have hhi2 : ∀ b, b ∈ F2 → b < w2.heap.size := ownS.lt oEntry_good ho2
  have hs2 : w1.heap.size ≤ w2.heap.size := by have h := hx2.size; simpa using h
  have hg2 : ∀ b, b ∈ F2 → w1.heap.size ≤ b := fun b hb => by simpa using hl2 b hb
  clear hl2
  have hC3 := fun (W : World) (hb : Below w.heap.size w W) => toEntryS_any a2 _ c2 m.fSafe W rfl (LeafL.mono rEntry_good (h2.below rEntry_good hb) hb.size) (by omega)
  go_wp2_with fail
  refine Calls.mono (hC3 _ ?_) ?_
  · exact (by repeat (first | with_reducible exact hB2 | refine Below.setCell ?_ (by dsimp only; omega) _))
  clear hC3
  rintro e w3 ⟨v3, F3, rfl, ho3, hn3, hl3, hx3⟩
  obtain ⟨ax3, cx3, rfl, _⟩ := ownS.read oEntry_good ho3
  obtain ⟨hc3, hf3⟩ := bcell hx3
  have hz3 : w.heap.size + 1 + 1 + 1 ≤ w3.heap.size := by have := hx3.size; simp at this; omega
  have hB3 : Below w.heap.size w w3 := Below.trans (by repeat (first | with_reducible exact hB2 | refine Below.setCell ?_ (by dsimp only; omega) _)) (hx3.mono (by first | (simp; omega) | (have := hz2; simp; omega)))
  have hy3a : w.heap.size < w3.heap.size := by omega
  have hy3b : w.heap.size + 1 < w3.heap.size := by omega
  have hy3c : w.heap.size + 1 + 1 < w3.heap.size := by omega
  have hA3 := Above.below (X := w.heap.size + 1 + 1 + 1) hx3
  have hlo3 : ∀ b, b ∈ F3 → w.heap.size + 1 + 1 + 1 ≤ b := fun b hb => by have h := hl3 b hb; simp at h; omega
  have hhi3 : ∀ b, b ∈ F3 → b < w3.heap.size := ownS.lt oEntry_good ho3
  have hs3 : w2.heap.size ≤ w3.heap.size := by have h := hx3.size; simpa using h
  have hg3 : ∀ b, b ∈ F3 → w2.heap.size ≤ b := fun b hb => by simpa using hl3 b hb
  clear hl3
  go_wp2_with fail
  refine bodyPost_ret (v := .agg #[.slice ax1 m.fInodes.length cx1, .slice ax2 m.fNames.length cx2, .slice ax3 m.fSafe.length cx3, .int .i64 m.fNext]) (by simp [results, Tryz.results12, go_sem, *]) rfl ⟨[.slice ax1 m.fInodes.length cx1, .slice ax2 m.fNames.length cx2, .slice ax3 m.fSafe.length cx3, .int .i64 m.fNext], F1 ++ F2 ++ F3 ++ [], rfl, ?_, (by rw [List.append_nil]; exact (nodup_app (nodup_app hn1 hn2 hhi1 hg2) hn3 (app_lt hhi1 hhi2 hs2) hg3)), (by rw [List.append_nil]; exact (app_ge (app_ge (fun b hb => by have := hlo1 b hb; omega) (fun b hb => by have := hlo2 b hb; omega)) (fun b hb => by have := hlo3 b hb; omega))), (by repeat (first | with_reducible exact hB3 | refine Below.setCell ?_ (by dsimp only; omega) _))⟩
  exact ⟨_, F1, _, F2, _, F3, rfl, ownS.frame oInode_good ho1 (fun b hb => (show Above (w.heap.size + 1 + 1 + 1) w1 _ from by repeat (first | with_reducible exact Above.refl _ _ | refine Above.setCell ?_ (by dsimp only; omega) _ | with_reducible refine Above.trans ?_ hA3 | with_reducible refine Above.trans ?_ hA2 | with_reducible refine Above.trans ?_ hA1)).block b (hlo1 b hb) (hhi1 b hb)), ownS.frame oEntry_good ho2 (fun b hb => (show Above (w.heap.size + 1 + 1 + 1) w2 _ from by repeat (first | with_reducible exact Above.refl _ _ | refine Above.setCell ?_ (by dsimp only; omega) _ | with_reducible refine Above.trans ?_ hA3 | with_reducible refine Above.trans ?_ hA2 | with_reducible refine Above.trans ?_ hA1)).block b (hlo2 b hb) (hhi2 b hb)), ownS.frame oEntry_good ho3 (fun b hb => (show Above (w.heap.size + 1 + 1 + 1) w3 _ from by repeat (first | with_reducible exact Above.refl _ _ | refine Above.setCell ?_ (by dsimp only; omega) _ | with_reducible refine Above.trans ?_ hA3 | with_reducible refine Above.trans ?_ hA2 | with_reducible refine Above.trans ?_ hA1)).block b (hlo3 b hb) (hhi3 b hb)), h3, rfl⟩

end Go.Proofs.YtnohnkcijomdjaaGreatDoor
