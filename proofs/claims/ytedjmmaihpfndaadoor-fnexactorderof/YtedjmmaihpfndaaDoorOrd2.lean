/-
  Part 3 of the texts that the proof leans on.
-/
import Derived.Test.YtedjmmaihpfndaaDoorOrd1
import Derived.Test.YtedjmmaihpfndaaDoorRows
import Derived.Test.YtedjmmaihpfndaaDoorOrd0
import Derived.Test.YtedjmmaihpfndaaDoorChecked
import Derived.Deep.RegionWith
import Derived.Deep.RegionHeld3
set_option linter.unusedVariables false
set_option linter.unusedSimpArgs false
set_option maxRecDepth 10000

namespace Go.Proofs.YtedjmmaihpfndaaDoor
open Go.RowKit

structure MDot where
  fR : Int
  fN : Int

def rDot : Rep MDot := fun B w cs m => cs = [.int .i64 m.fR, .int .i64 m.fN] ∧ (Lit.int .i64 m.fR).wf = true ∧ (Lit.int .i64 m.fN).wf = true ∧ True

theorem rDot_good : rDot.Good :=
  ⟨fun ⟨h, h0, h1, _⟩ hb => ⟨h, h0, h1, trivial⟩, fun ⟨h, h0, h1, _⟩ hB => ⟨h, h0, h1, trivial⟩⟩

def oDot : ORep MDot := fun w cs m F => cs = [.int .i64 m.fR, .int .i64 m.fN] ∧ (Lit.int .i64 m.fR).wf = true ∧ (Lit.int .i64 m.fN).wf = true ∧ F = []

theorem oDot_good : oDot.Good rDot 2 := by
  refine ⟨?_, ?_, ?_, ?_⟩
  · rintro w w' cs m F ⟨rfl, h0, h1, rfl⟩ hb
    exact ⟨rfl, h0, h1, rfl⟩
  · rintro w cs m F ⟨rfl, h0, h1, rfl⟩ k hk
    cases hk
  · rintro w cs m F ⟨rfl, h0, h1, rfl⟩
    exact ⟨rfl, h0, h1, trivial⟩
  · rintro w cs m F ⟨rfl, h0, h1, rfl⟩
    rfl

def wDot (m : MDot) : Nat := 0

structure MItem where
  fD : MDot
  fDeps : List MDot

def rItem : Rep MItem := fun B w cs m => ∃ a2 : Option Addr, ∃ c2 : Nat, cs = [.int .i64 m.fD.fR, .int .i64 m.fD.fN, .slice a2 m.fDeps.length c2] ∧ (Lit.int .i64 m.fD.fR).wf = true ∧ (Lit.int .i64 m.fD.fN).wf = true ∧ LeafL 2 rDot B w a2 c2 m.fDeps ∧ True

theorem rItem_good : rItem.Good :=
  ⟨fun ⟨a2, c2, h, h0, h1, h2, _⟩ hb => ⟨a2, c2, h, h0, h1, h2.below rDot_good hb, trivial⟩, fun ⟨a2, c2, h, h0, h1, h2, _⟩ hB => ⟨a2, c2, h, h0, h1, h2.mono rDot_good hB, trivial⟩⟩

def oItem : ORep MItem := fun w cs m F => ∃ v2 : Value, ∃ F2 : List Nat, cs = [.int .i64 m.fD.fR, .int .i64 m.fD.fN, v2] ∧ (Lit.int .i64 m.fD.fR).wf = true ∧ (Lit.int .i64 m.fD.fN).wf = true ∧ ownS 2 40 oDot w v2 m.fDeps F2 ∧ F = F2 ++ []

theorem oItem_good : oItem.Good rItem 3 := by
  refine ⟨?_, ?_, ?_, ?_⟩
  · rintro w w' cs m F ⟨v2, F2, rfl, h0, h1, h2, rfl⟩ hb
    exact ⟨v2, F2, rfl, h0, h1, ownS.frame oDot_good h2 (fun k hk => hb k (by simp [hk])), rfl⟩
  · rintro w cs m F ⟨v2, F2, rfl, h0, h1, h2, rfl⟩ k hk
    simp only [List.mem_append, List.not_mem_nil, or_false] at hk
    exact ownS.lt oDot_good h2 k hk
  · rintro w cs m F ⟨v2, F2, rfl, h0, h1, h2, rfl⟩
    obtain ⟨a2, c2, rfl, g2⟩ := ownS.read oDot_good h2
    exact ⟨a2, c2, rfl, h0, h1, g2, trivial⟩
  · rintro w cs m F ⟨v2, F2, rfl, h0, h1, h2, rfl⟩
    rfl

def wItem (m : MItem) : Nat := (m.fDeps.length + sumW wDot m.fDeps)

structure MGraph where
  fItems : List MItem

def rGraph : Rep MGraph := fun B w cs m => ∃ a0 : Option Addr, ∃ c0 : Nat, cs = [.slice a0 m.fItems.length c0] ∧ LeafL 3 rItem B w a0 c0 m.fItems ∧ True

theorem rGraph_good : rGraph.Good :=
  ⟨fun ⟨a0, c0, h, h0, _⟩ hb => ⟨a0, c0, h, h0.below rItem_good hb, trivial⟩, fun ⟨a0, c0, h, h0, _⟩ hB => ⟨a0, c0, h, h0.mono rItem_good hB, trivial⟩⟩

def oGraph : ORep MGraph := fun w cs m F => ∃ v0 : Value, ∃ F0 : List Nat, cs = [v0] ∧ ownS 3 52 oItem w v0 m.fItems F0 ∧ F = F0 ++ []

theorem oGraph_good : oGraph.Good rGraph 1 := by
  refine ⟨?_, ?_, ?_, ?_⟩
  · rintro w w' cs m F ⟨v0, F0, rfl, h0, rfl⟩ hb
    exact ⟨v0, F0, rfl, ownS.frame oItem_good h0 (fun k hk => hb k (by simp [hk])), rfl⟩
  · rintro w cs m F ⟨v0, F0, rfl, h0, rfl⟩ k hk
    simp only [List.mem_append, List.not_mem_nil, or_false] at hk
    exact ownS.lt oItem_good h0 k hk
  · rintro w cs m F ⟨v0, F0, rfl, h0, rfl⟩
    obtain ⟨a0, c0, rfl, g0⟩ := ownS.read oItem_good h0
    exact ⟨a0, c0, rfl, g0, trivial⟩
  · rintro w cs m F ⟨v0, F0, rfl, h0, rfl⟩
    rfl

def wGraph (m : MGraph) : Nat := (m.fItems.length + sumW wItem m.fItems)


theorem sumW_Dot0 (l : List MDot) : sumW wDot l = 0 := by
  induction l with
  | nil => rfl
  | cons a t ih => simp [sumW, wDot, ih]

set_option maxHeartbeats 400000 in
theorem szDotS_any (a : Option Addr) (n cap : Nat) (l : List MDot) (left : Int) (w : World) (hx : l.length = n) (g0 : 0 ≤ left) (g1 : left ≤ 1048576) (hn : n ≤ 9223372036854775807) (hr : RdS 2 rDot w.heap.size w a l) :
    Calls Tryd.prog 86 #[.slice a n cap, .int .i64 left] w fun e w' => e = .returned (.int .i64 (szRes left (l.length + sumW wDot l))) ∧ Below w.heap.size w w' := by
  rw [sumW_Dot0, hx, Nat.add_zero]
  clear hx hr
  by_cases h : (n : Int) ≤ left
  · have HV := Hid.mk (szRes_yes h)
    go_enter Tryd.func86, Tryd.ntmps86
    go_wp2_with fail
    go_ret
    exact ⟨by rw [HV.out]; rfl, Below.refl _ _⟩
  · have HV := Hid.mk (szRes_no h)
    go_enter Tryd.func86, Tryd.ntmps86
    go_wp2_with fail
    go_ret
    exact ⟨by rw [HV.out]; rfl, Below.refl _ _⟩

set_option maxHeartbeats 400000 in
theorem szItem_any (cs : List Value) (m : MItem) (left : Int) (w : World) (g0 : 0 ≤ left) (g1 : left ≤ 1048576) (hr : rItem w.heap.size w cs m) :
    Calls Tryd.prog 61 #[.agg cs.toArray, .int .i64 left] w fun e w' => e = .returned (.int .i64 (szRes left (wItem m))) ∧ Below w.heap.size w w' := by
  obtain ⟨a2, c2, rfl, h0, h1, h2, _⟩ := hr
  have HW : Hid (wItem m = (m.fDeps.length + sumW wDot m.fDeps)) := rfl
  have hb0 : Below w.heap.size w (w.alloc (.cells #[.int .i64 m.fD.fR, .int .i64 m.fD.fN, .slice a2 m.fDeps.length c2] 95)) := (Below.refl _ _).alloc (Nat.le_refl _) _
  go_enter Tryd.func61, Tryd.ntmps61
  have gb2 := h2.big
  go_wp2_with fail
  refine (szDotS_any a2 _ c2 m.fDeps _ _ rfl (by omega) (by omega) (by omega) (by exact (LeafL.mono rDot_good (h2.below rDot_good hb0) hb0.size).2.2)).mono ?_
  rintro e w1 ⟨rfl, hx1⟩
  obtain ⟨hc1, hf1⟩ := bcell hx1
  have hz1 : w.heap.size < w1.heap.size := by have := hx1.size; simp at this; omega
  have hb1 := hb0.trans (hx1.mono hb0.size)
  by_cases hw2 : ((m.fDeps.length + sumW wDot m.fDeps : Nat) : Int) ≤ left
  rotate_left
  · have HV : Hid (szRes left (wItem m) = -1) := szRes_no (by have h := HW.out; omega)
    rw [szRes_no hw2]
    go_wp2_with fail
    go_ret
    exact ⟨by rw [HV.out]; rfl, hb1⟩
  rw [szRes_yes hw2]
  have HV := Hid.mk (szRes_yes (left := left) (t := wItem m) (by have h := HW.out; omega))
  go_wp2_with fail
  go_ret
  exact ⟨by rw [HV.out, HW.out]; go_num, hb1⟩

set_option maxHeartbeats 400000 in
theorem szItemS_any (a : Option Addr) (n cap : Nat) (l : List MItem) (left : Int) (w : World) (hx : l.length = n) (g0 : 0 ≤ left) (g1 : left ≤ 1048576) (hn : n ≤ 9223372036854775807) (hr : RdS 3 rItem w.heap.size w a l) :
    Calls Tryd.prog 33 #[.slice a n cap, .int .i64 left] w fun e w' => e = .returned (.int .i64 (szRes left (l.length + sumW wItem l))) ∧ Below w.heap.size w w' := by
  have HX := Hid.mk hx
  rw [hx]
  clear hx
  by_cases h : (n : Int) ≤ left
  · go_enter Tryd.func33, Tryd.ntmps33
    go_wp2_with fail
    go_loopw [1, 5] (fun x i wr => ∃ k : Nat, k ≤ n ∧ i = .int .i64 k ∧ x = .int .i64 (left - n - sumW wItem (l.take k)) ∧ ((n + sumW wItem (l.take k) : Nat) : Int) ≤ left ∧ Below w.heap.size w wr) (fun _ i _ => n - (intOf i).toNat)
    case atStart => exact ⟨0, Nat.zero_le _, rfl, by simp [sumW], by simpa [sumW] using h, Below.refl _ _⟩
    case round =>
      obtain ⟨k, hk, rfl, rfl, hle, hbk⟩ := hrel
      by_cases hlt : k < n
      · have hkl : k < l.length := by rw [HX.out]; exact hlt
        have HS := Hid.mk (sumW_take_succ (f := wItem) hkl)
        have HLe := Hid.mk (sumW_take_le wItem l (k + 1))
        obtain ⟨b1, o1, rfl, hB, cs, hcl, hcell, hrT⟩ := (hr.below rItem_good hbk) k hkl
        generalize l[k] = m at *
        generalize sumW wItem (l.take k) = t at *
        have hrT' := rItem_good.mono hrT hbk.size
        obtain ⟨a2, c2, rfl, h0, h1, h2, _⟩ := hrT
        have k0 := hcell 0 _ rfl
        have k1 := hcell 1 _ rfl
        have k2 := hcell 2 _ rfl
        rw [Nat.add_zero] at k0
        clear hr hcell hcl
        go_wp2_with fail
        refine (szItem_any _ m _ wr (by omega) (by omega) hrT').mono ?_
        rintro e w1 ⟨rfl, hb1⟩
        have hb2 := hbk.trans (hb1.mono hbk.size)
        generalize wItem m = d at *
        by_cases hd : (d : Int) ≤ left - n - t
        · rw [szRes_yes hd]
          go_wp2_with fail
          go_roundw
          case rel => exact ⟨k + 1, by omega, by go_num, by rw [HS.out]; go_num, by rw [HS.out]; omega, hb2⟩
          case measure => simp [intOf]; omega
        · rw [szRes_no hd]
          have HV : Hid (szRes left (n + sumW wItem l) = -1) := szRes_no (by have h1 := HS.out; have h2 := HLe.out; omega)
          go_wp2_with fail
          go_ret
          exact ⟨by rw [HV.out]; rfl, hb2⟩
      · have hkn : k = n := by omega
        have HT : Hid (l.take k = l) := List.take_of_length_le (by rw [HX.out]; omega)
        rw [HT.out] at hle
        rw [HT.out]
        have HV := Hid.mk (szRes_yes hle)
        go_wp2_with fail
        go_ret
        exact ⟨by rw [HV.out]; go_num, hbk⟩
  · have HV : Hid (szRes left (n + sumW wItem l) = -1) := szRes_no (by omega)
    go_enter Tryd.func33, Tryd.ntmps33
    go_wp2_with fail
    go_ret
    exact ⟨by rw [HV.out]; rfl, Below.refl _ _⟩

set_option maxHeartbeats 400000 in
theorem szGraph_any (cs : List Value) (m : MGraph) (left : Int) (w : World) (g0 : 0 ≤ left) (g1 : left ≤ 1048576) (hr : rGraph w.heap.size w cs m) :
    Calls Tryd.prog 9 #[.agg cs.toArray, .int .i64 left] w fun e w' => e = .returned (.int .i64 (szRes left (wGraph m))) ∧ Below w.heap.size w w' := by
  obtain ⟨a0, c0, rfl, h0, _⟩ := hr
  have HW : Hid (wGraph m = (m.fItems.length + sumW wItem m.fItems)) := rfl
  have hb0 : Below w.heap.size w (w.alloc (.cells #[.slice a0 m.fItems.length c0] 24)) := (Below.refl _ _).alloc (Nat.le_refl _) _
  go_enter Tryd.func9, Tryd.ntmps9
  have gb0 := h0.big
  go_wp2_with fail
  refine (szItemS_any a0 _ c0 m.fItems _ _ rfl (by omega) (by omega) (by omega) (by exact (LeafL.mono rItem_good (h0.below rItem_good hb0) hb0.size).2.2)).mono ?_
  rintro e w1 ⟨rfl, hx1⟩
  obtain ⟨hc1, hf1⟩ := bcell hx1
  have hz1 : w.heap.size < w1.heap.size := by have := hx1.size; simp at this; omega
  have hb1 := hb0.trans (hx1.mono hb0.size)
  by_cases hw0 : ((m.fItems.length + sumW wItem m.fItems : Nat) : Int) ≤ left
  rotate_left
  · have HV : Hid (szRes left (wGraph m) = -1) := szRes_no (by have h := HW.out; omega)
    rw [szRes_no hw0]
    go_wp2_with fail
    go_ret
    exact ⟨by rw [HV.out]; rfl, hb1⟩
  rw [szRes_yes hw0]
  have HV := Hid.mk (szRes_yes (left := left) (t := wGraph m) (by have h := HW.out; omega))
  go_wp2_with fail
  go_ret
  exact ⟨by rw [HV.out, HW.out]; go_num, hb1⟩


set_option maxHeartbeats 1000000 in
theorem toDot_any (cs : List Value) (m : MDot) (w : World) (hr : rDot w.heap.size w cs m) (hsz : wDot m ≤ 1048576) :
    Calls Tryd.prog 19 #[.agg cs.toArray] w fun e w' => ∃ (cs' : List Value) (F : List Nat), e = .returned (.agg cs'.toArray) ∧ oDot w' cs' m F ∧ F.Nodup ∧ (∀ b, b ∈ F → w.heap.size ≤ b) ∧ Below w.heap.size w w' := by
  obtain ⟨rfl, h0, h1, _⟩ := hr
  have hsz' : 0 ≤ 1048576 := hsz
  clear hsz
  have hbA : ∀ o1 o2 o3, Below w.heap.size w (((w.alloc o1).alloc o2).alloc o3) := fun o1 o2 o3 => (((Below.refl _ _).alloc (Nat.le_refl _) o1).alloc (by simp) o2).alloc (by simp; omega) o3
  go_enter Tryd.func19, Tryd.ntmps19
  go_wp2_with fail
  refine bodyPost_ret (v := .agg #[.int .i64 m.fR, .int .i64 m.fN]) (by simp [results, Tryd.results19, go_sem]) rfl ⟨[.int .i64 m.fR, .int .i64 m.fN], [], rfl, ?_, List.nodup_nil, (fun b hb => by cases hb), (hbA _ _ _)⟩
  exact ⟨rfl, h0, h1, rfl⟩

theorem Tryd.infoOfDot : (Tryd.prog.info? 40).map (fun i => (i.zero, i.size, i.bytes)) = some (some (.agg #[.int .i64 0, .int .i64 0]), 2, 16) := by kernel_rfl

set_option maxHeartbeats 1000000 in
theorem toDotS_any (a : Option Addr) (n cap : Nat) (l : List MDot) (w : World) (hx : l.length = n) (hr : LeafL 2 rDot w.heap.size w a cap l) (hsz : n + sumW wDot l ≤ 1048576) :
    Calls Tryd.prog 89 #[.slice a n cap] w fun e w' => ∃ (v : Value) (F : List Nat), e = .returned v ∧ ownS 2 40 oDot w' v l F ∧ F.Nodup ∧ (∀ b, b ∈ F → w.heap.size ≤ b) ∧ Below w.heap.size w w' := by
  obtain ⟨i0, hi, hz0, hz1, hz2⟩ := info_parts Tryd.infoOfDot
  have HX := Hid.mk hx
  clear hx
  replace hr := hr.2.2
  go_enter Tryd.func89, Tryd.ntmps89
  go_wp2_with (at_make; refine wpList_make_full _ rfl _ _ 26 rfl w.heap.size 40 i0 (.agg #[.int .i64 0, .int .i64 0]) 2 Tryd.underlying26 hi hz0 hz1 .i64 .i64 _ _ n rfl rfl rfl rfl (by rw [hz2]; omega) (by unfold maxLen; omega) (Nat.le_refl _) ?_)
  intro w0 hown hgr
  have hb0 : Below w.heap.size w w0 := (Below.refl _ _).grown hgr (Nat.le_refl _) (fun k h => by cases h)
  have hg0 : w.heap.size < w0.heap.size := (hown.lt w.heap.size rfl).2
  have hF0 : Fill 2 40 oDot w0 w.heap.size n l 0 [] := Fill.start hown
  clear hgr hi hz0 hz1 hz2 hown
  go_wp2_with fail
  go_loopw [4] (fun i wr => ∃ (k : Nat) (Fs : List (List Nat)), k ≤ n ∧ i = .int .i64 k ∧ Fill 2 40 oDot wr w.heap.size n l k Fs ∧ w.heap.size < wr.heap.size ∧ Below w.heap.size w wr) (fun i _ => n - (intOf i).toNat)
  case atStart => exact ⟨0, [], Nat.zero_le _, rfl, hF0, hg0, hb0⟩
  case round =>
    obtain ⟨k, Fs, hk, rfl, hFk, hgk, hbk⟩ := hrel
    clear hF0 hg0 hb0
    by_cases hlt : k < n
    · have hkl : k < l.length := by rw [HX.out]; exact hlt
      have hwk := sumW_le (f := wDot) hkl
      obtain ⟨b1, o1, rfl, hB, cs, hcl, hcell, hrT⟩ := (hr.below rDot_good hbk) k hkl
      have hrT' := rDot_good.mono hrT hbk.size
      have hstep := fun (w1 : World) (hb : Below wr.heap.size wr w1) (cs : List Value) (F : List Nat) ho hF hN => Fill.step (w1 := w1) oDot_good hFk hgk hkl hlt hb (cs := cs) (F := F) ho hF hN
      generalize l[k] = m at *
      obtain ⟨rfl, h0, h1, _⟩ := hrT
      have k0 := hcell 0 _ rfl
      have k1 := hcell 1 _ rfl
      rw [Nat.add_zero] at k0
      clear hcell hcl
      go_wp2_with fail
      refine (toDot_any _ m wr hrT' (by omega)).mono ?_
      rintro e w1 ⟨cs1, F1, rfl, ho1, hn1, hl1, hb1⟩
      have hst := hstep w1 hb1 cs1 F1 ho1 hl1 hn1
      have hF1 := hFk.keep oDot_good hgk hb1
      have hB1 := hbk.trans (hb1.mono hbk.size)
      have hg1 : w.heap.size < w1.heap.size := Nat.lt_of_lt_of_le hgk hb1.size
      obtain ⟨rfl, y0, y1, hG⟩ := ho1
      obtain ⟨u0, q0⟩ := hF1.cells hlt 0 (by omega)
      have r0 := hF1.free (k * 2 + 0)
      obtain ⟨u1, q1⟩ := hF1.cells hlt 1 (by omega)
      have r1 := hF1.free (k * 2 + 1)
      rw [Nat.add_zero] at q0 r0
      clear hstep hF1 hFk hrT' hl1 hn1
      go_wp2_with fail
      go_roundw
      case rel => exact ⟨k + 1, Fs ++ [F1], by omega, by go_num, hst, by simpa using hg1, below_setCells (Nat.le_refl _) [.int .i64 m.fR, .int .i64 m.fN] _ _ _ hB1⟩
      case measure => simp [intOf]; omega
    · have hkn : k = n := by omega
      subst hkn
      have hd := hFk.done HX.out (by unfold maxLen; omega)
      go_wp2_with fail
      go_ret
      refine ⟨_, _, rfl, hd.1, hd.2, ?_, hbk⟩
      intro b hb
      rcases List.mem_cons.1 hb with rfl | hb
      · exact Nat.le_refl _
      · have := (hFk.over b hb).1; omega

set_option maxHeartbeats 1000000 in
theorem toItem_any (cs : List Value) (m : MItem) (w : World) (hr : rItem w.heap.size w cs m) (hsz : wItem m ≤ 1048576) :
    Calls Tryd.prog 65 #[.agg cs.toArray] w fun e w' => ∃ (cs' : List Value) (F : List Nat), e = .returned (.agg cs'.toArray) ∧ oItem w' cs' m F ∧ F.Nodup ∧ (∀ b, b ∈ F → w.heap.size ≤ b) ∧ Below w.heap.size w w' := by
  obtain ⟨a2, c2, rfl, h0, h1, h2, _⟩ := hr
  have hsz' : (m.fDeps.length + sumW wDot m.fDeps) ≤ 1048576 := hsz
  clear hsz
  have hbA : ∀ o1 o2 o3, Below w.heap.size w (((w.alloc o1).alloc o2).alloc o3) := fun o1 o2 o3 => (((Below.refl _ _).alloc (Nat.le_refl _) o1).alloc (by simp) o2).alloc (by simp; omega) o3
  go_enter Tryd.func65, Tryd.ntmps65
  have hC1 := fun (W : World) (hb : Below w.heap.size w W) => toDot_any [.int .i64 m.fD.fR, .int .i64 m.fD.fN] m.fD W ⟨rfl, h0, h1, trivial⟩ (by have h : wDot m.fD = 0 := rfl; omega)
  go_wp2_with fail
  refine Calls.mono (hC1 _ ?_) ?_
  · exact (hbA _ _ _)
  clear hC1
  rintro e w1 ⟨v1, F1, rfl, ho1, hn1, hl1, hx1⟩
  obtain ⟨rfl, _, _, rfl⟩ := ho1
  obtain ⟨hc1, hf1⟩ := bcell hx1
  have hz1 : w.heap.size + 1 + 1 + 1 ≤ w1.heap.size := by have := hx1.size; simpa using this
  have hB1 : Below w.heap.size w w1 := Below.trans (hbA _ _ _) (hx1.mono (by first | (simp; omega) | (have := hz1; simp; omega)))
  have hy1a : w.heap.size < w1.heap.size := by omega
  have hy1b : w.heap.size + 1 < w1.heap.size := by omega
  have hy1c : w.heap.size + 1 + 1 < w1.heap.size := by omega
  have hA1 := Above.below (X := w.heap.size + 1 + 1 + 1) hx1
  clear hl1
  have hC2 := fun (W : World) (hb : Below w.heap.size w W) => toDotS_any a2 _ c2 m.fDeps W rfl (LeafL.mono rDot_good (h2.below rDot_good hb) hb.size) (by omega)
  go_wp2_with fail
  refine Calls.mono (hC2 _ ?_) ?_
  · exact (by repeat (first | with_reducible exact hB1 | refine Below.setCell ?_ (by dsimp only; omega) _))
  clear hC2
  rintro e w2 ⟨v2, F2, rfl, ho2, hn2, hl2, hx2⟩
  obtain ⟨ax2, cx2, rfl, _⟩ := ownS.read oDot_good ho2
  obtain ⟨hc2, hf2⟩ := bcell hx2
  have hz2 : w.heap.size + 1 + 1 + 1 ≤ w2.heap.size := by have := hx2.size; simp at this; omega
  have hB2 : Below w.heap.size w w2 := Below.trans (by repeat (first | with_reducible exact hB1 | refine Below.setCell ?_ (by dsimp only; omega) _)) (hx2.mono (by first | (simp; omega) | (have := hz1; simp; omega)))
  have hy2a : w.heap.size < w2.heap.size := by omega
  have hy2b : w.heap.size + 1 < w2.heap.size := by omega
  have hy2c : w.heap.size + 1 + 1 < w2.heap.size := by omega
  have hA2 := Above.below (X := w.heap.size + 1 + 1 + 1) hx2
  have hlo2 : ∀ b, b ∈ F2 → w.heap.size + 1 + 1 + 1 ≤ b := fun b hb => by have h := hl2 b hb; simp at h; omega
  have hhi2 : ∀ b, b ∈ F2 → b < w2.heap.size := ownS.lt oDot_good ho2
  have hs2 : w1.heap.size ≤ w2.heap.size := by have h := hx2.size; simpa using h
  have hg2 : ∀ b, b ∈ F2 → w1.heap.size ≤ b := fun b hb => by simpa using hl2 b hb
  clear hl2
  go_wp2_with fail
  refine bodyPost_ret (v := .agg #[.int .i64 m.fD.fR, .int .i64 m.fD.fN, .slice ax2 m.fDeps.length cx2]) (by simp [results, Tryd.results65, go_sem, *]) rfl ⟨[.int .i64 m.fD.fR, .int .i64 m.fD.fN, .slice ax2 m.fDeps.length cx2], F2 ++ [], rfl, ?_, (by rw [List.append_nil]; exact hn2), (by rw [List.append_nil]; exact (fun b hb => by have := hlo2 b hb; omega)), (by repeat (first | with_reducible exact hB2 | refine Below.setCell ?_ (by dsimp only; omega) _))⟩
  exact ⟨_, F2, rfl, h0, h1, ownS.frame oDot_good ho2 (fun b hb => (show Above (w.heap.size + 1 + 1 + 1) w2 _ from by repeat (first | with_reducible exact Above.refl _ _ | refine Above.setCell ?_ (by dsimp only; omega) _ | with_reducible refine Above.trans ?_ hA2 | with_reducible refine Above.trans ?_ hA1)).block b (hlo2 b hb) (hhi2 b hb)), rfl⟩

theorem Tryd.infoOfItem : (Tryd.prog.info? 52).map (fun i => (i.zero, i.size, i.bytes)) = some (some (.agg #[.int .i64 0, .int .i64 0, .slice none 0 0]), 3, 40) := by kernel_rfl

set_option maxHeartbeats 1000000 in
theorem toItemS_any (a : Option Addr) (n cap : Nat) (l : List MItem) (w : World) (hx : l.length = n) (hr : LeafL 3 rItem w.heap.size w a cap l) (hsz : n + sumW wItem l ≤ 1048576) :
    Calls Tryd.prog 36 #[.slice a n cap] w fun e w' => ∃ (v : Value) (F : List Nat), e = .returned v ∧ ownS 3 52 oItem w' v l F ∧ F.Nodup ∧ (∀ b, b ∈ F → w.heap.size ≤ b) ∧ Below w.heap.size w w' := by
  obtain ⟨i0, hi, hz0, hz1, hz2⟩ := info_parts Tryd.infoOfItem
  have HX := Hid.mk hx
  clear hx
  replace hr := hr.2.2
  go_enter Tryd.func36, Tryd.ntmps36
  go_wp2_with (at_make; refine wpList_make_full _ rfl _ _ 28 rfl w.heap.size 52 i0 (.agg #[.int .i64 0, .int .i64 0, .slice none 0 0]) 3 Tryd.underlying28 hi hz0 hz1 .i64 .i64 _ _ n rfl rfl rfl rfl (by rw [hz2]; omega) (by unfold maxLen; omega) (Nat.le_refl _) ?_)
  intro w0 hown hgr
  have hb0 : Below w.heap.size w w0 := (Below.refl _ _).grown hgr (Nat.le_refl _) (fun k h => by cases h)
  have hg0 : w.heap.size < w0.heap.size := (hown.lt w.heap.size rfl).2
  have hF0 : Fill 3 52 oItem w0 w.heap.size n l 0 [] := Fill.start hown
  clear hgr hi hz0 hz1 hz2 hown
  go_wp2_with fail
  go_loopw [4] (fun i wr => ∃ (k : Nat) (Fs : List (List Nat)), k ≤ n ∧ i = .int .i64 k ∧ Fill 3 52 oItem wr w.heap.size n l k Fs ∧ w.heap.size < wr.heap.size ∧ Below w.heap.size w wr) (fun i _ => n - (intOf i).toNat)
  case atStart => exact ⟨0, [], Nat.zero_le _, rfl, hF0, hg0, hb0⟩
  case round =>
    obtain ⟨k, Fs, hk, rfl, hFk, hgk, hbk⟩ := hrel
    clear hF0 hg0 hb0
    by_cases hlt : k < n
    · have hkl : k < l.length := by rw [HX.out]; exact hlt
      have hwk := sumW_le (f := wItem) hkl
      obtain ⟨b1, o1, rfl, hB, cs, hcl, hcell, hrT⟩ := (hr.below rItem_good hbk) k hkl
      have hrT' := rItem_good.mono hrT hbk.size
      have hstep := fun (w1 : World) (hb : Below wr.heap.size wr w1) (cs : List Value) (F : List Nat) ho hF hN => Fill.step (w1 := w1) oItem_good hFk hgk hkl hlt hb (cs := cs) (F := F) ho hF hN
      generalize l[k] = m at *
      obtain ⟨a2, c2, rfl, h0, h1, h2, _⟩ := hrT
      have k0 := hcell 0 _ rfl
      have k1 := hcell 1 _ rfl
      have k2 := hcell 2 _ rfl
      rw [Nat.add_zero] at k0
      clear hcell hcl
      go_wp2_with fail
      refine (toItem_any _ m wr hrT' (by omega)).mono ?_
      rintro e w1 ⟨cs1, F1, rfl, ho1, hn1, hl1, hb1⟩
      have hst := hstep w1 hb1 cs1 F1 ho1 hl1 hn1
      have hF1 := hFk.keep oItem_good hgk hb1
      have hB1 := hbk.trans (hb1.mono hbk.size)
      have hg1 : w.heap.size < w1.heap.size := Nat.lt_of_lt_of_le hgk hb1.size
      obtain ⟨v2, G2, rfl, y0, y1, y2, hG⟩ := ho1
      obtain ⟨ax2, cx2, rfl, _⟩ := ownS.read oDot_good y2
      obtain ⟨u0, q0⟩ := hF1.cells hlt 0 (by omega)
      have r0 := hF1.free (k * 3 + 0)
      obtain ⟨u1, q1⟩ := hF1.cells hlt 1 (by omega)
      have r1 := hF1.free (k * 3 + 1)
      obtain ⟨u2, q2⟩ := hF1.cells hlt 2 (by omega)
      have r2 := hF1.free (k * 3 + 2)
      rw [Nat.add_zero] at q0 r0
      clear hstep hF1 hFk hrT' hl1 hn1
      go_wp2_with fail
      go_roundw
      case rel => exact ⟨k + 1, Fs ++ [F1], by omega, by go_num, hst, by simpa using hg1, below_setCells (Nat.le_refl _) [.int .i64 m.fD.fR, .int .i64 m.fD.fN, .slice ax2 m.fDeps.length cx2] _ _ _ hB1⟩
      case measure => simp [intOf]; omega
    · have hkn : k = n := by omega
      subst hkn
      have hd := hFk.done HX.out (by unfold maxLen; omega)
      go_wp2_with fail
      go_ret
      refine ⟨_, _, rfl, hd.1, hd.2, ?_, hbk⟩
      intro b hb
      rcases List.mem_cons.1 hb with rfl | hb
      · exact Nat.le_refl _
      · have := (hFk.over b hb).1; omega

set_option maxHeartbeats 1000000 in
theorem toGraph_any (cs : List Value) (m : MGraph) (w : World) (hr : rGraph w.heap.size w cs m) (hsz : wGraph m ≤ 1048576) :
    Calls Tryd.prog 11 #[.agg cs.toArray] w fun e w' => ∃ (cs' : List Value) (F : List Nat), e = .returned (.agg cs'.toArray) ∧ oGraph w' cs' m F ∧ F.Nodup ∧ (∀ b, b ∈ F → w.heap.size ≤ b) ∧ Below w.heap.size w w' := by
  obtain ⟨a0, c0, rfl, h0, _⟩ := hr
  have hsz' : (m.fItems.length + sumW wItem m.fItems) ≤ 1048576 := hsz
  clear hsz
  have hbA : ∀ o1 o2 o3, Below w.heap.size w (((w.alloc o1).alloc o2).alloc o3) := fun o1 o2 o3 => (((Below.refl _ _).alloc (Nat.le_refl _) o1).alloc (by simp) o2).alloc (by simp; omega) o3
  go_enter Tryd.func11, Tryd.ntmps11
  have hC1 := fun (W : World) (hb : Below w.heap.size w W) => toItemS_any a0 _ c0 m.fItems W rfl (LeafL.mono rItem_good (h0.below rItem_good hb) hb.size) (by omega)
  go_wp2_with fail
  refine Calls.mono (hC1 _ ?_) ?_
  · exact (hbA _ _ _)
  clear hC1
  rintro e w1 ⟨v1, F1, rfl, ho1, hn1, hl1, hx1⟩
  obtain ⟨ax1, cx1, rfl, _⟩ := ownS.read oItem_good ho1
  obtain ⟨hc1, hf1⟩ := bcell hx1
  have hz1 : w.heap.size + 1 + 1 + 1 ≤ w1.heap.size := by have := hx1.size; simpa using this
  have hB1 : Below w.heap.size w w1 := Below.trans (hbA _ _ _) (hx1.mono (by first | (simp; omega) | (have := hz1; simp; omega)))
  have hy1a : w.heap.size < w1.heap.size := by omega
  have hy1b : w.heap.size + 1 < w1.heap.size := by omega
  have hy1c : w.heap.size + 1 + 1 < w1.heap.size := by omega
  have hA1 := Above.below (X := w.heap.size + 1 + 1 + 1) hx1
  have hlo1 : ∀ b, b ∈ F1 → w.heap.size + 1 + 1 + 1 ≤ b := fun b hb => by have h := hl1 b hb; simp at h; omega
  have hhi1 : ∀ b, b ∈ F1 → b < w1.heap.size := ownS.lt oItem_good ho1
  clear hl1
  go_wp2_with fail
  refine bodyPost_ret (v := .agg #[.slice ax1 m.fItems.length cx1]) (by simp [results, Tryd.results11, go_sem, *]) rfl ⟨[.slice ax1 m.fItems.length cx1], F1 ++ [], rfl, ?_, (by rw [List.append_nil]; exact hn1), (by rw [List.append_nil]; exact (fun b hb => by have := hlo1 b hb; omega)), (by repeat (first | with_reducible exact hB1 | refine Below.setCell ?_ (by dsimp only; omega) _))⟩
  exact ⟨_, F1, rfl, ownS.frame oItem_good ho1 (fun b hb => (show Above (w.heap.size + 1 + 1 + 1) w1 _ from by repeat (first | with_reducible exact Above.refl _ _ | refine Above.setCell ?_ (by dsimp only; omega) _ | with_reducible refine Above.trans ?_ hA1)).block b (hlo1 b hb) (hhi1 b hb)), rfl⟩


set_option maxHeartbeats 1000000 in
theorem eqDot_yes (cs1 cs2 : List Value) (m : MDot) (w : World) (hr1 : rDot w.heap.size w cs1 m) (hr2 : rDot w.heap.size w cs2 m) (hsz : wDot m ≤ 1099511627776) :
    Calls Tryd.prog 41 #[.agg cs1.toArray, .agg cs2.toArray] w fun e w' => e = .returned (.bool true) ∧ Below w.heap.size w w' := by
  obtain ⟨rfl, h0, h1, _⟩ := hr1
  obtain ⟨rfl, g0, g1, _⟩ := hr2
  have hsz' : 0 ≤ 1099511627776 := hsz
  clear hsz
  have hbA : ∀ o1 o2, Below w.heap.size w ((w.alloc o1).alloc o2) := fun o1 o2 => ((Below.refl _ _).alloc (Nat.le_refl _) o1).alloc (by simp) o2
  go_enter Tryd.func41, Tryd.ntmps41
  go_wp2_with fail
  go_ret
  exact ⟨rfl, (hbA _ _)⟩

set_option maxHeartbeats 1000000 in
theorem eqDotS_yes (a b : Option Addr) (n ca cb : Nat) (l : List MDot) (w : World) (hx : l.length = n) (hra : LeafL 2 rDot w.heap.size w a ca l) (hrb : LeafL 2 rDot w.heap.size w b cb l) (hsz : n + sumW wDot l ≤ 1099511627776) :
    Calls Tryd.prog 13 #[.slice a n ca, .slice b n cb] w fun e w' => e = .returned (.bool true) ∧ Below w.heap.size w w' := by
  have HX := Hid.mk hx
  clear hx
  replace hra := hra.2.2
  replace hrb := hrb.2.2
  go_enter Tryd.func13, Tryd.ntmps13
  go_wp2_with fail
  go_loopw [5] (fun i wr => ∃ k : Nat, k ≤ n ∧ i = .int .i64 k ∧ Below w.heap.size w wr) (fun i _ => n - (intOf i).toNat)
  case atStart => exact ⟨0, Nat.zero_le _, rfl, Below.refl _ _⟩
  case round =>
    obtain ⟨k, hk, rfl, hbk⟩ := hrel
    by_cases hlt : k < n
    · have hkl : k < l.length := by rw [HX.out]; exact hlt
      have hwk := sumW_le (f := wDot) hkl
      obtain ⟨bA, oA, rfl, hBA, csA, hlA, hcA, hrA⟩ := (hra.below rDot_good hbk) k hkl
      obtain ⟨bB, oB, rfl, hBB, csB, hlB, hcB, hrB⟩ := (hrb.below rDot_good hbk) k hkl
      have hrA' := rDot_good.mono hrA hbk.size
      have hrB' := rDot_good.mono hrB hbk.size
      generalize l[k] = m at *
      obtain ⟨rfl, h0, h1, _⟩ := hrA
      obtain ⟨rfl, g0, g1, _⟩ := hrB
      have k0 := hcA 0 _ rfl
      have j0 := hcB 0 _ rfl
      have k1 := hcA 1 _ rfl
      have j1 := hcB 1 _ rfl
      rw [Nat.add_zero] at k0 j0
      have hm : wDot m ≤ 1099511627776 := by omega
      clear hcA hcB hlA hlB hra hrb hwk
      go_wp2_with fail
      go_region_with (go_at_call 41; refine (eqDot_yes _ _ m _ (by exact hrA') (by exact hrB') hm).mono ?_; rintro e w1 ⟨rfl, hb1⟩)
      all_goals
        have hb2 : Below w.heap.size w w1 := Below.trans hbk (Below.mono (Below.trans (Below.drew (Below.refl _ _)) hb1) hbk.size)
        go_wp2_with fail
        go_roundw
        case rel => exact ⟨k + 1, by omega, by go_num, hb2⟩
        case measure => simp [intOf]; omega
    · go_wp2_with fail
      go_ret
      exact ⟨rfl, hbk⟩

set_option maxHeartbeats 1000000 in
theorem eqItem_yes (cs1 cs2 : List Value) (m : MItem) (w : World) (hr1 : rItem w.heap.size w cs1 m) (hr2 : rItem w.heap.size w cs2 m) (hsz : wItem m ≤ 1099511627776) :
    Calls Tryd.prog 73 #[.agg cs1.toArray, .agg cs2.toArray] w fun e w' => e = .returned (.bool true) ∧ Below w.heap.size w w' := by
  obtain ⟨a2, c2, rfl, h0, h1, h2, _⟩ := hr1
  obtain ⟨b2, d2, rfl, g0, g1, g2, _⟩ := hr2
  have hsz' : (m.fDeps.length + sumW wDot m.fDeps) ≤ 1099511627776 := hsz
  clear hsz
  have hbA : ∀ o1 o2, Below w.heap.size w ((w.alloc o1).alloc o2) := fun o1 o2 => ((Below.refl _ _).alloc (Nat.le_refl _) o1).alloc (by simp) o2
  go_enter Tryd.func73, Tryd.ntmps73
  have hC1 := fun (W : World) (hb : Below w.heap.size w W) => eqDot_yes [.int .i64 m.fD.fR, .int .i64 m.fD.fN] [.int .i64 m.fD.fR, .int .i64 m.fD.fN] m.fD W ⟨rfl, h0, h1, trivial⟩ ⟨rfl, g0, g1, trivial⟩ (by have h : wDot m.fD = 0 := rfl; omega)
  go_wp2_with fail
  refine Calls.mono (hC1 _ ?_) ?_
  · exact (hbA _ _)
  rintro e w1 ⟨rfl, hx1⟩
  obtain ⟨hc1, hf1⟩ := bcell hx1
  have hz1 : w.heap.size + 1 + 1 ≤ w1.heap.size := by have h := hx1.size; first | omega | (simp at h; omega)
  have hy1a : w.heap.size < w1.heap.size := by omega
  have hy1b : w.heap.size + 1 < w1.heap.size := by omega
  have hB1 : Below w.heap.size w w1 := Below.trans (hbA _ _) (hx1.mono (by first | (simp; omega) | simp | omega))
  clear hC1
  have hC2 := fun (W : World) (hb : Below w.heap.size w W) => eqDotS_yes a2 b2 _ c2 d2 m.fDeps W rfl (LeafL.mono rDot_good (h2.below rDot_good hb) hb.size) (LeafL.mono rDot_good (g2.below rDot_good hb) hb.size) (by omega)
  go_wp2_with fail
  refine Calls.mono (hC2 _ ?_) ?_
  · exact hB1
  rintro e w2 ⟨rfl, hx2⟩
  obtain ⟨hc2, hf2⟩ := bcell hx2
  have hz2 : w.heap.size + 1 + 1 ≤ w2.heap.size := by have h := hx2.size; first | omega | (simp at h; omega)
  have hy2a : w.heap.size < w2.heap.size := by omega
  have hy2b : w.heap.size + 1 < w2.heap.size := by omega
  have hB2 : Below w.heap.size w w2 := Below.trans hB1 (hx2.mono (by first | (simp; omega) | simp | omega))
  clear hC2
  go_wp2_with fail
  go_ret
  exact ⟨rfl, hB2⟩

set_option maxHeartbeats 1000000 in
theorem eqItemS_yes (a b : Option Addr) (n ca cb : Nat) (l : List MItem) (w : World) (hx : l.length = n) (hra : LeafL 3 rItem w.heap.size w a ca l) (hrb : LeafL 3 rItem w.heap.size w b cb l) (hsz : n + sumW wItem l ≤ 1099511627776) :
    Calls Tryd.prog 42 #[.slice a n ca, .slice b n cb] w fun e w' => e = .returned (.bool true) ∧ Below w.heap.size w w' := by
  have HX := Hid.mk hx
  clear hx
  replace hra := hra.2.2
  replace hrb := hrb.2.2
  go_enter Tryd.func42, Tryd.ntmps42
  go_wp2_with fail
  go_loopw [5] (fun i wr => ∃ k : Nat, k ≤ n ∧ i = .int .i64 k ∧ Below w.heap.size w wr) (fun i _ => n - (intOf i).toNat)
  case atStart => exact ⟨0, Nat.zero_le _, rfl, Below.refl _ _⟩
  case round =>
    obtain ⟨k, hk, rfl, hbk⟩ := hrel
    by_cases hlt : k < n
    · have hkl : k < l.length := by rw [HX.out]; exact hlt
      have hwk := sumW_le (f := wItem) hkl
      obtain ⟨bA, oA, rfl, hBA, csA, hlA, hcA, hrA⟩ := (hra.below rItem_good hbk) k hkl
      obtain ⟨bB, oB, rfl, hBB, csB, hlB, hcB, hrB⟩ := (hrb.below rItem_good hbk) k hkl
      have hrA' := rItem_good.mono hrA hbk.size
      have hrB' := rItem_good.mono hrB hbk.size
      generalize l[k] = m at *
      obtain ⟨a2, c2, rfl, h0, h1, h2, _⟩ := hrA
      obtain ⟨b2, d2, rfl, g0, g1, g2, _⟩ := hrB
      have k0 := hcA 0 _ rfl
      have j0 := hcB 0 _ rfl
      have k1 := hcA 1 _ rfl
      have j1 := hcB 1 _ rfl
      have k2 := hcA 2 _ rfl
      have j2 := hcB 2 _ rfl
      rw [Nat.add_zero] at k0 j0
      have hm : wItem m ≤ 1099511627776 := by omega
      clear hcA hcB hlA hlB hra hrb hwk
      go_wp2_with fail
      go_region_with (go_at_call 73; refine (eqItem_yes _ _ m _ (by exact hrA') (by exact hrB') hm).mono ?_; rintro e w1 ⟨rfl, hb1⟩)
      all_goals
        have hb2 : Below w.heap.size w w1 := Below.trans hbk (Below.mono (Below.trans (Below.drew (Below.refl _ _)) hb1) hbk.size)
        go_wp2_with fail
        go_roundw
        case rel => exact ⟨k + 1, by omega, by go_num, hb2⟩
        case measure => simp [intOf]; omega
    · go_wp2_with fail
      go_ret
      exact ⟨rfl, hbk⟩

set_option maxHeartbeats 1000000 in
theorem eqGraph_yes (cs1 cs2 : List Value) (m : MGraph) (w : World) (hr1 : rGraph w.heap.size w cs1 m) (hr2 : rGraph w.heap.size w cs2 m) (hsz : wGraph m ≤ 1099511627776) :
    Calls Tryd.prog 14 #[.agg cs1.toArray, .agg cs2.toArray] w fun e w' => e = .returned (.bool true) ∧ Below w.heap.size w w' := by
  obtain ⟨a0, c0, rfl, h0, _⟩ := hr1
  obtain ⟨b0, d0, rfl, g0, _⟩ := hr2
  have hsz' : (m.fItems.length + sumW wItem m.fItems) ≤ 1099511627776 := hsz
  clear hsz
  have hbA : ∀ o1 o2, Below w.heap.size w ((w.alloc o1).alloc o2) := fun o1 o2 => ((Below.refl _ _).alloc (Nat.le_refl _) o1).alloc (by simp) o2
  go_enter Tryd.func14, Tryd.ntmps14
  have hC1 := fun (W : World) (hb : Below w.heap.size w W) => eqItemS_yes a0 b0 _ c0 d0 m.fItems W rfl (LeafL.mono rItem_good (h0.below rItem_good hb) hb.size) (LeafL.mono rItem_good (g0.below rItem_good hb) hb.size) (by omega)
  go_wp2_with fail
  refine Calls.mono (hC1 _ ?_) ?_
  · exact (hbA _ _)
  rintro e w1 ⟨rfl, hx1⟩
  obtain ⟨hc1, hf1⟩ := bcell hx1
  have hz1 : w.heap.size + 1 + 1 ≤ w1.heap.size := by have h := hx1.size; first | omega | (simp at h; omega)
  have hy1a : w.heap.size < w1.heap.size := by omega
  have hy1b : w.heap.size + 1 < w1.heap.size := by omega
  have hB1 : Below w.heap.size w w1 := Below.trans (hbA _ _) (hx1.mono (by first | (simp; omega) | simp | omega))
  clear hC1
  go_wp2_with fail
  go_ret
  exact ⟨rfl, hB1⟩

end Go.Proofs.YtedjmmaihpfndaaDoor

namespace Go.Proofs.YtedjmmaihpfndaaDoor
open Go

section
variable {P : Program} {md : Region.Mode} {ops : Array Oper} {Q : Exit → Act → World → Prop} {S : World → Prop}
/-- An operation that is wanted comes first: it yields v. -/
theorem tk (i : Nat) (oi : Oper) (d : Option Tmp) {v : Value} {fuel : Nat} {listed : Array Bool} {a : Act} {w : World} (hi : ops[i]? = some oi) (hd : oi.dst = d)
    (hc : (Region.noSelect ops && (Region.free md ops listed i && (Region.ready md ops listed).contains i)) = true) (hS : S w) (hw : Region.wanted oi (yielded ops a.tmps) = true)
    (hQ : ∀ c a w, Q (.panic c) (a.put d v) w → Q (.panic c) a w) (hy : ∀ w, S w → (execOp a.eval oi).run P w = .ok (.value v) w)
    (h : wpAnyH P md ops Q S fuel (listed.setIfInBounds i true) (a.put d v) w) : wpAnyH P md ops Q S (fuel + 1) listed a w := by
  subst hd
  simp only [Bool.and_eq_true] at hc
  exact wpAnyH_take hi hc.1 hc.2.1 hc.2.2 hQ (.inl ⟨hw, hy⟩) hS h
/-- One that is not wanted comes first. -/
theorem tn (i : Nat) (oi : Oper) (d : Option Tmp) {fuel : Nat} {listed : Array Bool} {a : Act} {w : World} (hi : ops[i]? = some oi) (hd : oi.dst = d)
    (hc : (Region.noSelect ops && (Region.free md ops listed i && (Region.ready md ops listed).contains i)) = true) (hS : S w) (hw : Region.wanted oi (yielded ops a.tmps) = false)
    (hQ : ∀ c a w, Q (.panic c) (a.put d undef) w → Q (.panic c) a w)
    (h : wpAnyH P md ops Q S fuel (listed.setIfInBounds i true) (a.put d undef) w) : wpAnyH P md ops Q S (fuel + 1) listed a w := by
  subst hd
  simp only [Bool.and_eq_true] at hc
  exact wpAnyH_take hi hc.1 hc.2.1 hc.2.2 hQ (.inr ⟨hw, rfl⟩) hS h
end
theorem sa {α : Type} (l : List α) (i : Nat) (a : α) : l.toArray.setIfInBounds i a = (l.set i a).toArray := List.setIfInBounds_toArray ..
theorem s0 {α : Type} (a b : α) (l : List α) : (a :: l).set 0 b = b :: l := rfl
theorem s1 {α : Type} (a b : α) (l : List α) (i : Nat) : (a :: l).set (i + 1) b = a :: l.set i b := rfl

end Go.Proofs.YtedjmmaihpfndaaDoor

namespace Go.Proofs.YtedjmmaihpfndaaDoor
open Go.RowKit

def inRange (x a b : Int) : Bool := decide (a ≤ x ∧ x ≤ b)
theorem inRange_yes {x a b : Int} (h1 : a ≤ x) (h2 : x ≤ b) : inRange x a b = true := decide_eq_true ⟨h1, h2⟩
theorem inRange_no {x a b : Int} (h : ¬ (a ≤ x ∧ x ≤ b)) : inRange x a b = false := decide_eq_false h

set_option maxHeartbeats 400000 in
theorem l1In_any (x a b : Int) (w : World) :
    Calls Tryd.prog 108 #[.int .i64 x, .int .i64 a, .int .i64 b] w fun e w' => e = .returned (.bool (inRange x a b)) ∧ w' = w := by
  by_cases h1 : a ≤ x
  · by_cases h2 : x ≤ b
    · have HV := Hid.mk (inRange_yes h1 h2)
      go_enter Tryd.func108, Tryd.ntmps108
      go_wp2
      go_ret
      exact ⟨by rw [HV.out]; rfl, rfl⟩
    · have HV := Hid.mk (inRange_no (x := x) (a := a) (b := b) (by omega))
      go_enter Tryd.func108, Tryd.ntmps108
      go_wp2
      go_ret
      exact ⟨by rw [HV.out]; rfl, rfl⟩
  · have HV := Hid.mk (inRange_no (x := x) (a := a) (b := b) (by omega))
    go_enter Tryd.func108, Tryd.ntmps108
    go_wp2
    go_ret
    exact ⟨by rw [HV.out]; rfl, rfl⟩

end Go.Proofs.YtedjmmaihpfndaaDoor
