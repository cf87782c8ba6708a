/-
  Part 9 of the texts that the proof leans on.
-/
import Derived.Test.YtnohnkcijomdjaaGreatDoorCur2
import Derived.Test.YtnohnkcijomdjaaGreatDoorCur4
import Derived.Test.YtnohnkcijomdjaaGreatDoorCur7
set_option linter.unusedVariables false
set_option linter.unusedSimpArgs false
set_option maxRecDepth 10000

namespace Go.Proofs.YtnohnkcijomdjaaGreatDoor
open Go.RowKit Go.Maps
abbrev q936_20_3_0 : Oper := ⟨some 9, .fieldAddr 24 (.tmp 1) 0, 0, "l06_manifest.go:69", #[], none⟩
abbrev q936_20_3_1 : Oper := ⟨some 10, .load 3 (.tmp 9), 3, "l06_manifest.go:69", #[⟨0, .data⟩], none⟩
abbrev q936_20_3_5 : Oper := ⟨some 14, .fieldAddr 24 (.tmp 1) 1, 0, "l06_manifest.go:69", #[], none⟩
abbrev q936_20_3_6 : Oper := ⟨some 15, .load 3 (.tmp 14), 3, "l06_manifest.go:69", #[⟨5, .data⟩], none⟩
abbrev q936_20_3_2 : Oper := ⟨some 11, .call { callee := .value (.func 40), args := #[.tmp 10], argTypes := #[3] }, 9, "l06_manifest.go:69", #[⟨1, .data⟩], none⟩
abbrev q936_20_3_3 : Oper := ⟨some 12, .binOp .add 9 (.const (.string { data := #[110, 101, 120, 116, 32] })) (.tmp 11) 9, 9, "l06_manifest.go:69", #[⟨2, .data⟩], none⟩
abbrev q936_20_3_4 : Oper := ⟨some 13, .binOp .add 9 (.tmp 12) (.const (.string { data := #[32, 108, 111, 103, 32] })) 9, 9, "l06_manifest.go:69", #[⟨3, .data⟩], none⟩
abbrev q936_20_3_7 : Oper := ⟨some 16, .call { callee := .value (.func 40), args := #[.tmp 15], argTypes := #[3] }, 9, "l06_manifest.go:69", #[⟨6, .data⟩, ⟨2, .chain⟩], none⟩
abbrev q936_20_3_8 : Oper := ⟨some 17, .binOp .add 9 (.tmp 13) (.tmp 16) 9, 9, "l06_manifest.go:69", #[⟨4, .data⟩, ⟨7, .data⟩], none⟩
abbrev q936_20_3_9 : Oper := ⟨some 18, .binOp .add 9 (.tmp 17) (.const (.string { data := #[10] })) 9, 9, "l06_manifest.go:69", #[⟨8, .data⟩], none⟩
abbrev q936_20_3_10 : Oper := ⟨some 3, .assign (.tmp 18), 9, "l06_manifest.go:69", #[⟨9, .data⟩, ⟨7, .chain⟩, ⟨0, .phase⟩, ⟨1, .phase⟩, ⟨2, .phase⟩, ⟨3, .phase⟩, ⟨4, .phase⟩, ⟨5, .phase⟩, ⟨6, .phase⟩, ⟨7, .phase⟩, ⟨8, .phase⟩, ⟨9, .phase⟩], none⟩
abbrev q936_20_8_0 : Oper := ⟨some 31, .move (.tmp 3), 9, "l06_manifest.go:72", #[], none⟩
abbrev q936_20_8_1 : Oper := ⟨some 32, .binOp .add 9 (.tmp 31) (.const (.string { data := #[116, 97, 98, 32] })) 9, 9, "l06_manifest.go:72", #[⟨0, .data⟩], none⟩
abbrev q936_20_8_2 : Oper := ⟨some 33, .fieldAddr 49 (.tmp 5) 0, 0, "l06_manifest.go:72", #[], none⟩
abbrev q936_20_8_3 : Oper := ⟨some 34, .load 3 (.tmp 33), 3, "l06_manifest.go:72", #[⟨2, .data⟩], none⟩
abbrev q936_20_8_7 : Oper := ⟨some 38, .fieldAddr 49 (.tmp 5) 1, 0, "l06_manifest.go:72", #[], none⟩
abbrev q936_20_8_8 : Oper := ⟨some 39, .load 3 (.tmp 38), 3, "l06_manifest.go:72", #[⟨7, .data⟩], none⟩
abbrev q936_20_8_12 : Oper := ⟨some 43, .fieldAddr 49 (.tmp 5) 2, 0, "l06_manifest.go:72", #[], none⟩
abbrev q936_20_8_13 : Oper := ⟨some 44, .load 9 (.tmp 43), 9, "l06_manifest.go:72", #[⟨12, .data⟩], none⟩
abbrev q936_20_8_17 : Oper := ⟨some 48, .fieldAddr 49 (.tmp 5) 3, 0, "l06_manifest.go:72", #[], none⟩
abbrev q936_20_8_18 : Oper := ⟨some 49, .load 9 (.tmp 48), 9, "l06_manifest.go:72", #[⟨17, .data⟩], none⟩
abbrev q936_20_8_4 : Oper := ⟨some 35, .call { callee := .value (.func 40), args := #[.tmp 34], argTypes := #[3] }, 9, "l06_manifest.go:72", #[⟨3, .data⟩], none⟩
abbrev q936_20_8_5 : Oper := ⟨some 36, .binOp .add 9 (.tmp 32) (.tmp 35) 9, 9, "l06_manifest.go:72", #[⟨1, .data⟩, ⟨4, .data⟩], none⟩
abbrev q936_20_8_6 : Oper := ⟨some 37, .binOp .add 9 (.tmp 36) (.const (.string { data := #[32] })) 9, 9, "l06_manifest.go:72", #[⟨5, .data⟩], none⟩
abbrev q936_20_8_9 : Oper := ⟨some 40, .call { callee := .value (.func 40), args := #[.tmp 39], argTypes := #[3] }, 9, "l06_manifest.go:72", #[⟨8, .data⟩, ⟨4, .chain⟩], none⟩
abbrev q936_20_8_10 : Oper := ⟨some 41, .binOp .add 9 (.tmp 37) (.tmp 40) 9, 9, "l06_manifest.go:72", #[⟨6, .data⟩, ⟨9, .data⟩], none⟩
abbrev q936_20_8_11 : Oper := ⟨some 42, .binOp .add 9 (.tmp 41) (.const (.string { data := #[32] })) 9, 9, "l06_manifest.go:72", #[⟨10, .data⟩], none⟩
abbrev q936_20_8_14 : Oper := ⟨some 45, .call { callee := .value (.func 41), args := #[.tmp 44], argTypes := #[9] }, 9, "l06_manifest.go:72", #[⟨13, .data⟩, ⟨9, .chain⟩], none⟩
abbrev q936_20_8_15 : Oper := ⟨some 46, .binOp .add 9 (.tmp 42) (.tmp 45) 9, 9, "l06_manifest.go:72", #[⟨11, .data⟩, ⟨14, .data⟩], none⟩
abbrev q936_20_8_16 : Oper := ⟨some 47, .binOp .add 9 (.tmp 46) (.const (.string { data := #[32] })) 9, 9, "l06_manifest.go:72", #[⟨15, .data⟩], none⟩
abbrev q936_20_8_19 : Oper := ⟨some 50, .call { callee := .value (.func 41), args := #[.tmp 49], argTypes := #[9] }, 9, "l06_manifest.go:72", #[⟨18, .data⟩, ⟨14, .chain⟩], none⟩
abbrev q936_20_8_20 : Oper := ⟨some 51, .binOp .add 9 (.tmp 47) (.tmp 50) 9, 9, "l06_manifest.go:72", #[⟨16, .data⟩, ⟨19, .data⟩], none⟩
abbrev q936_20_8_21 : Oper := ⟨some 52, .binOp .add 9 (.tmp 51) (.const (.string { data := #[10] })) 9, 9, "l06_manifest.go:72", #[⟨20, .data⟩], none⟩
abbrev q936_20_8_22 : Oper := ⟨some 3, .assign (.tmp 52), 9, "l06_manifest.go:72", #[⟨21, .data⟩, ⟨19, .chain⟩, ⟨0, .phase⟩, ⟨1, .phase⟩, ⟨2, .phase⟩, ⟨3, .phase⟩, ⟨4, .phase⟩, ⟨5, .phase⟩, ⟨6, .phase⟩, ⟨7, .phase⟩, ⟨8, .phase⟩, ⟨9, .phase⟩, ⟨10, .phase⟩, ⟨11, .phase⟩, ⟨12, .phase⟩, ⟨13, .phase⟩, ⟨14, .phase⟩, ⟨15, .phase⟩, ⟨16, .phase⟩, ⟨17, .phase⟩, ⟨18, .phase⟩, ⟨19, .phase⟩, ⟨20, .phase⟩, ⟨21, .phase⟩], none⟩

theorem conv_one (w : World) (x : Int) : (convert 60 9 (.slice (some ⟨w.heap.size, 0, none⟩) 1 1)).run Tryz.prog (w.alloc (.cells #[.int .u8 x] 5)) = .ok (.string (strOfNums [x])) (w.alloc (.cells #[.int .u8 x] 5)) :=
  run_convert_bytes_arg _ 60 5 Tryz.underlying60 Tryz.underlying5 w.heap.size 0 1 1 [x] rfl (fun i hi => by
    have h0 : i = 0 := by omega
    subst h0
    simp) 9 Tryz.underlying9
theorem conv_cell {w : World} {g : Nat} {x : Int} (h : w.cell? ⟨g, 0, none⟩ = some (.int .u8 x)) : (convert 60 9 (.slice (some ⟨g, 0, none⟩) 1 1)).run Tryz.prog w = .ok (.string (strOfNums [x])) w :=
  run_convert_bytes_arg _ 60 5 Tryz.underlying60 Tryz.underlying5 g 0 1 1 [x] rfl (fun i hi => by
    have h0 : i = 0 := by omega
    subst h0
    simpa using h) 9 Tryz.underlying9
theorem str_one {x : Int} : strOfNums [x] = strB [UInt8.ofNat x.toNat] := rfl

set_option maxHeartbeats 2000000 in
theorem l6Text_any : ∀ (f : Nat) (n : Int) (w : World), 0 ≤ n → n.toNat < f → n ≤ 100000 →
    Calls Tryz.prog 40 #[.int .i64 n] w fun e w' => e = .returned (.string (strB (decD n))) ∧ Below w.heap.size w w'
  | 0, n, w, h0, h1, h2 => by omega
  | f + 1, n, w, h0, h1, h2 => by
    by_cases hlt : n < 10
    · have HV : Hid (strOfNums [48 + n] = strB (decD n)) := by show _ = _; rw [str_one, decD_small h0 hlt]; congr 3; omega
      have hcv := conv_one w (48 + n)
      have hw1 : IntKind.u8.wrap (48 + n) = 48 + n := by rw [IntKind.wrap_u8]; omega
      rw [HV.out] at hcv
      go_enter Tryz.func40, Tryz.ntmps40
      go_wp2_with fail
      go_ret
      exact ⟨rfl, (Below.refl _ _).alloc (Nat.le_refl _) _⟩
    · have ih := fun W => l6Text_any f (n / 10) W (by omega) (by omega) (by omega)
      have hd := decD_len (n := n / 10) (by omega)
      have HV : Hid (strB (decD (n / 10)) ++ strOfNums [48 + n % 10] = strB (decD n)) := by
        show _ = _
        rw [str_one, strB_app, decD_big (n := n) (by omega), show (48 + n % 10).toNat = 48 + (n % 10).toNat by omega]
      have hz1 : (strB (decD (n / 10))).size ≤ 100001 := by rw [strB_size]; exact hd
      have hz2 : (strOfNums [48 + n % 10]).size = 1 := strOfNums_size _
      have hcv := fun (W : World) (g : Nat) (h : W.cell? ⟨g, 0, none⟩ = some (.int .u8 (48 + n % 10))) => conv_cell h
      have e1 : n.tdiv 10 = n / 10 := Int.tdiv_eq_ediv_of_nonneg h0
      have e2 : n.tmod 10 = n % 10 := Int.tmod_eq_emod_of_nonneg h0
      have hw0 : IntKind.i64.wrap (n / 10) = n / 10 := by rw [IntKind.wrap_i64]; omega
      have hw3 : IntKind.i64.wrap (n % 10) = n % 10 := by rw [IntKind.wrap_i64]; omega
      have hw4 : IntKind.i64.wrap (48 + n % 10) = 48 + n % 10 := by rw [IntKind.wrap_i64]; omega
      have hw1 : IntKind.u8.wrap (48 + n % 10) = 48 + n % 10 := by rw [IntKind.wrap_u8]; omega
      generalize strB (decD (n / 10)) = s1 at *
      generalize strOfNums [48 + n % 10] = s2 at *
      go_enter Tryz.func40, Tryz.ntmps40
      go_wp2_with fail
      go_region_with (go_at_call 40; refine (ih _).mono ?_; rintro e w1 ⟨rfl, hx1⟩; have hc1 := fun hs => hx1.cell (p := ⟨w.heap.size, 0, none⟩) hs)
      all_goals
        have hx2 := Hid.mk hx1
        clear hx1 hc1 hcv ih
        go_wp2_with fail
        go_ret
        refine ⟨by rw [HV.out]; rfl, ?_⟩
        have hx1 := hx2.out
        first | exact bthen (Below.drew (Below.refl _ _)) (hx1.alloc hx1.size _) | exact Below.alloc (bthen (Below.drew (Below.refl _ _)) hx1) hx1.size _ | exact bthen ((Below.refl _ _).alloc (Nat.le_refl _) _) hx1 | exact bthen (Below.drew ((Below.refl _ _).alloc (Nat.le_refl _) _)) hx1

set_option maxHeartbeats 8000000 in
theorem specManText_c (cs : List Value) (m : MManifest) (w : World) (hr : rManifest w.heap.size w cs m) (hw : wManifest m ≤ 1048576) :
    Calls Tryz.prog 20 #[.agg cs.toArray] w fun e w' => e = .returned (.string (manTextP m)) ∧ Below w.heap.size w w' := by
  have HRD := Hid.mk hr
  have HWW := Hid.mk hw
  obtain ⟨a0, c0, rfl, hwf0, hwf1, hL, _⟩ := hr
  have HL := Hid.mk hL
  obtain ⟨l, hl⟩ : ∃ l, l = m.fTables := ⟨_, rfl⟩
  obtain ⟨n, hx⟩ : ∃ n, n = l.length := ⟨_, rfl⟩
  have hn : n ≤ 1048576 := by have h : m.fTables.length + sumW wMeta m.fTables ≤ 1048576 := hw; rw [hx, hl]; omega
  have HSW : Hid (sumW wMeta l ≤ 1048576) := by show _ ≤ _; have h : m.fTables.length + sumW wMeta m.fTables ≤ 1048576 := hw; rw [hl]; omega
  have HLM := Hid.mk hl
  rw [← hl] at HL ⊢
  have HRD2 : Hid (rManifest w.heap.size w [.int .i64 m.fNext, .int .i64 m.fLog, .slice a0 n c0] m) := by have h := HRD.out; rw [← hl, ← hx] at h; exact h
  rw [← hx]
  have HX := Hid.mk hx.symm
  clear hL hw hl hx hwf0 hwf1 HRD
  go_enter Tryz.func20, Tryz.ntmps20
  obtain ⟨wq, hwq⟩ : ∃ wq, wq = w.alloc (.cells #[.int .i64 m.fNext, .int .i64 m.fLog, .slice a0 n c0] 24) := ⟨_, rfl⟩
  have hbq : Below w.heap.size w wq := by rw [hwq]; exact (Below.refl _ _).alloc (Nat.le_refl _) _
  have hbx : Bx wq w.heap.size [.int .i64 m.fNext, .int .i64 m.fLog, .slice a0 n c0] := by rw [hwq]; exact Bx.new _ _ _
  have y0 := hbx.2 0 _ rfl
  have y1 := hbx.2 1 _ rfl
  have y2 := hbx.2 2 _ rfl
  have hz := hbx.1
  go_wp2_with (rw [← hwq])
  refine (specManOk_c [.int .i64 m.fNext, .int .i64 m.fLog, .slice a0 n c0] m wq (rManifest_good.mono (rManifest_good.below HRD2.out hbq) hbq.size) HWW.out).mono ?_
  rintro e wm ⟨rfl, hxm⟩
  have hb1 := bthen hbq hxm
  by_cases hok : manOkP m = true
  rotate_left
  · have hokf := Bool.eq_false_iff.2 hok
    have HD := Hid.mk (manTextP_no hokf)
    rw [hokf]
    go_wp2_with fail
    go_ret
    exact ⟨by rw [HD.out]; rfl, hb1⟩
  have HF := Hid.mk (manOkP_facts hok)
  have HD := Hid.mk (manTextP_yes hok)
  rw [hok]
  obtain ⟨HT, HHT⟩ : ∃ x : List UInt8, Hid (x = headT m ++ [10]) := ⟨_, Hid.mk rfl⟩
  have HD2 : Hid (manTextP m = strB (HT ++ linesT l ++ [101, 110, 100, 10])) := by show _ = _; rw [HD.out, HHT.out, HLM.out]; apply strB_inj; simp [manTextL, endW]
  have hhl : HT.length ≤ 300001 := by rw [HHT.out, List.length_append]; have h := headT_len HF.out; simp; omega
  have hn20 : n ≤ 20 := by rw [← HX.out, HLM.out]; exact HF.out.len
  have hnx0 : 0 ≤ m.fNext := by have := HF.out.nx0; omega
  have hnx1 : m.fNext ≤ 100000 := HF.out.nx1
  have hlg0 : 0 ≤ m.fLog := HF.out.lg0
  have hlg1 : m.fLog ≤ 100000 := by have := HF.out.lg1; omega
  have hE : Hid (∀ t, t ∈ l → MetaOk m.fNext t) := by rw [HLM.out]; exact HF.out.each
  have q0 : ∀ W, Below wm.heap.size wm W → W.cell? ⟨w.heap.size, 0, none⟩ = some (.int .i64 m.fNext) := fun W hb => ((hbx.under hxm).under hb).2 0 _ rfl
  have q1 : ∀ W, Below wm.heap.size wm W → W.cell? ⟨w.heap.size, 1, none⟩ = some (.int .i64 m.fLog) := fun W hb => ((hbx.under hxm).under hb).2 1 _ rfl
  have q2 : ∀ W, Below wm.heap.size wm W → W.cell? ⟨w.heap.size, 2, none⟩ = some (.slice a0 n c0) := fun W hb => ((hbx.under hxm).under hb).2 2 _ rfl
  have hC1 := fun W => l6Text_any (m.fNext.toNat + 1) m.fNext W hnx0 (by omega) hnx1
  have hC2 := fun W => l6Text_any (m.fLog.toNat + 1) m.fLog W hlg0 (by omega) hlg1
  obtain ⟨d1, HD1⟩ : ∃ d, Hid (d = strB (decD m.fNext)) := ⟨_, rfl⟩
  obtain ⟨d2, HD3⟩ : ∃ d, Hid (d = strB (decD m.fLog)) := ⟨_, rfl⟩
  have hd1 : d1.size ≤ 100001 := by rw [HD1.out, strB_size]; exact decD_len hnx1
  have hd2 : d2.size ≤ 100001 := by rw [HD3.out, strB_size]; exact decD_len hlg1
  rw [← HD1.out] at hC1
  rw [← HD3.out] at hC2
  have HH : Hid ((⟨#[110, 101, 120, 116, 32]⟩ : ByteArray) ++ d1 ++ ⟨#[32, 108, 111, 103, 32]⟩ ++ d2 ++ ⟨#[10]⟩ = strB HT) := by
    show _ = _
    rw [HD1.out, HD3.out, HHT.out, show (⟨#[110, 101, 120, 116, 32]⟩ : ByteArray) = strB nextW from rfl, show (⟨#[32, 108, 111, 103, 32]⟩ : ByteArray) = strB logW from rfl, show (⟨#[10]⟩ : ByteArray) = strB [10] from rfl]
    simp only [strB_app, headT]
  clear HF HD HHT hok y0 y1 y2 hwq
  have n1 : (9223372036854775807 < 5 + d1.size) = False := eq_false (by omega)
  have n2 : (9223372036854775807 < 5 + d1.size + 5) = False := eq_false (by omega)
  have n3 : (9223372036854775807 < 5 + d1.size + 5 + d2.size) = False := eq_false (by omega)
  have n4 : (9223372036854775807 < 5 + d1.size + 5 + d2.size + 1) = False := eq_false (by omega)
  go_wp2_with fail
  refine wp_region_held_drew (S := fun W => Below wm.heap.size wm W) (by kernel_rfl) (Below.drew (Below.refl _ _)) (fun hHeld => ?_)
  refine tk 0 q936_20_3_0 (some 9) (v := ?v1) rfl rfl (by kernel_rfl) hHeld (by rfl) (fun _ _ _ x => x) (fun w h => ?y1) ?_; (case y1 => (try dsimp only at h); go_simp; try (with_reducible rfl)); try simp only [Act.put, sa, s0, s1]
  refine tk 1 q936_20_3_1 (some 10) (v := ?v2) rfl rfl (by kernel_rfl) hHeld (by rfl) (fun _ _ _ x => x) (fun w h => ?y2) ?_; (case y2 => (try dsimp only at h); go_simp; try (with_reducible rfl)); try simp only [Act.put, sa, s0, s1]
  refine tk 5 q936_20_3_5 (some 14) (v := ?v3) rfl rfl (by kernel_rfl) hHeld (by rfl) (fun _ _ _ x => x) (fun w h => ?y3) ?_; (case y3 => (try dsimp only at h); go_simp; try (with_reducible rfl)); try simp only [Act.put, sa, s0, s1]
  refine tk 6 q936_20_3_6 (some 15) (v := ?v4) rfl rfl (by kernel_rfl) hHeld (by rfl) (fun _ _ _ x => x) (fun w h => ?y4) ?_; (case y4 => (try dsimp only at h); go_simp; try (with_reducible rfl)); try simp only [Act.put, sa, s0, s1]
  refine wpAnyH_ready (rs := [2]) (by kernel_rfl) (by simp) ?_
  refine AllReadyH.cons (o := q936_20_3_2) rfl (fun K hK => ?_) AllReadyH.nil
  go_simp
  refine Calls.mono (hC1 _) ?_
  rintro e w1 ⟨rfl, hx1⟩
  go_wp2_with fail
  refine hK.out _ _ (bthen hHeld hx1) (fun hHeld => ?_)
  clear hK K
  try simp only [Act.put, sa, s0, s1]
  refine tk 3 q936_20_3_3 (some 12) (v := ?v5) rfl rfl (by kernel_rfl) hHeld (by rfl) (fun _ _ _ x => x) (fun w h => ?y5) ?_; (case y5 => (try dsimp only at h); go_simp; try (with_reducible rfl)); try simp only [Act.put, sa, s0, s1]
  refine tk 4 q936_20_3_4 (some 13) (v := ?v6) rfl rfl (by kernel_rfl) hHeld (by rfl) (fun _ _ _ x => x) (fun w h => ?y6) ?_; (case y6 => (try dsimp only at h); go_simp; try (with_reducible rfl)); try simp only [Act.put, sa, s0, s1]
  refine wpAnyH_ready (rs := [7]) (by kernel_rfl) (by simp) ?_
  refine AllReadyH.cons (o := q936_20_3_7) rfl (fun K hK => ?_) AllReadyH.nil
  go_simp
  refine Calls.mono (hC2 _) ?_
  rintro e w2 ⟨rfl, hx2⟩
  go_wp2_with fail
  refine hK.out _ _ (bthen hHeld hx2) (fun hHeld => ?_)
  clear hK K
  try simp only [Act.put, sa, s0, s1]
  refine tk 8 q936_20_3_8 (some 17) (v := ?v7) rfl rfl (by kernel_rfl) hHeld (by rfl) (fun _ _ _ x => x) (fun w h => ?y7) ?_; (case y7 => (try dsimp only at h); go_simp; try (with_reducible rfl)); try simp only [Act.put, sa, s0, s1]
  refine tk 9 q936_20_3_9 (some 18) (v := ?v8) rfl rfl (by kernel_rfl) hHeld (by rfl) (fun _ _ _ x => x) (fun w h => ?y8) ?_; (case y8 => (try dsimp only at h); go_simp; try (with_reducible rfl)); try simp only [Act.put, sa, s0, s1]
  refine tk 10 q936_20_3_10 (some 3) (v := ?v9) rfl rfl (by kernel_rfl) hHeld (by rfl) (fun _ _ _ x => x) (fun w h => ?y9) ?_; (case y9 => (try dsimp only at h); go_simp; try (with_reducible rfl)); try simp only [Act.put, sa, s0, s1]
  refine wpAnyH_done (by kernel_rfl) ?_ _
  rw [HH.out]
  clear HH n1 n2 n3 n4 hC1 hC2
  go_wp2_with fail
  obtain ⟨wa, hwa⟩ : ∃ x, x = w2 := ⟨_, rfl⟩
  have hba : Below wm.heap.size wm wa := by rw [hwa]; exact hHeld
  rw [← hwa]
  clear hHeld hwa
  go_loopw [3, 4] (fun v i wr => ∃ k : Nat, k ≤ n ∧ i = .int .i64 k ∧ v = .string (strB (HT ++ linesT (l.take k))) ∧ Below wm.heap.size wm wr) (fun _ i _ => n - (intOf i).toNat)
  case atStart => exact ⟨0, Nat.zero_le _, rfl, by simp [linesT], hba⟩
  case round =>
    obtain ⟨k, hk, rfl, rfl, hbk⟩ := hrel
    have hbw := bthen hb1 hbk
    have hbz := hbw.size
    have y2 := q2 _ hbk
    have hlr : w.heap.size < wr.heap.size := Nat.lt_of_lt_of_le hz (Nat.le_trans hxm.size hbk.size)
    have hcl : (linesT (l.take k)).length ≤ 20 * 300001 := by
      have h := linesT_len (l := l.take k) (fun t ht => hE.out t (List.mem_of_mem_take ht)) hnx1
      have h2 : (l.take k).length ≤ 20 := by rw [List.length_take]; omega
      exact Nat.le_trans h (Nat.mul_le_mul_right _ h2)
    have hcu : (strB (HT ++ linesT (l.take k))).size ≤ 6300021 := by rw [strB_size, List.length_append]; omega
    by_cases hlt : k < n
    · have hkl : k < l.length := by rw [HX.out]; exact hlt
      obtain ⟨b1, o1, rfl, hB, cs, hcl, hcell, rfl, g0, g1, g2, g3, _⟩ := (HL.out.2.2.below rMeta_good hbw) k hkl
      have hB' : b1 < wr.heap.size := by omega
      have k0 := hcell 0 _ rfl
      have k1 := hcell 1 _ rfl
      have k2 := hcell 2 _ rfl
      have k3 := hcell 3 _ rfl
      rw [Nat.add_zero] at k0
      have hM := hE.out l[k] (List.getElem_mem hkl)
      have HLT := Hid.mk (linesT_take hkl)
      obtain ⟨x, hxk⟩ : ∃ x, x = l[k] := ⟨_, rfl⟩
      rw [← hxk] at k0 k1 k2 k3 g0 g1 g2 g3 HLT hM
      clear hcell hcl hxk
      obtain ⟨wp, hwp⟩ : ∃ wp, wp = wr.alloc (.cells #[.int .i64 x.fNo, .int .i64 x.fLevel, .string x.fLo, .string x.fHi] 49) := ⟨_, rfl⟩
      have hbp : Below wr.heap.size wr wp := by rw [hwp]; exact (Below.refl _ _).alloc (Nat.le_refl _) _
      have hbxp : Bx wp wr.heap.size [.int .i64 x.fNo, .int .i64 x.fLevel, .string x.fLo, .string x.fHi] := by rw [hwp]; exact Bx.new _ _ _
      have hbkp := bthen hbk hbp
      have p0 : ∀ W, Below wp.heap.size wp W → W.cell? ⟨wr.heap.size, 0, none⟩ = some (.int .i64 x.fNo) := fun W hb => (hbxp.under hb).2 0 _ rfl
      have p1 : ∀ W, Below wp.heap.size wp W → W.cell? ⟨wr.heap.size, 1, none⟩ = some (.int .i64 x.fLevel) := fun W hb => (hbxp.under hb).2 1 _ rfl
      have p2 : ∀ W, Below wp.heap.size wp W → W.cell? ⟨wr.heap.size, 2, none⟩ = some (.string x.fLo) := fun W hb => (hbxp.under hb).2 2 _ rfl
      have p3 : ∀ W, Below wp.heap.size wp W → W.cell? ⟨wr.heap.size, 3, none⟩ = some (.string x.fHi) := fun W hb => (hbxp.under hb).2 3 _ rfl
      have hno1 : x.fNo ≤ 100000 := by have := hM.no1; omega
      have hlv1 : x.fLevel ≤ 100000 := by have := hM.lv1; omega
      have hno0 : 0 ≤ x.fNo := by have := hM.no0; omega
      have hC1 := fun W => l6Text_any (x.fNo.toNat + 1) x.fNo W hno0 (by omega) hno1
      have hC2 := fun W => l6Text_any (x.fLevel.toNat + 1) x.fLevel W hM.lv0 (by omega) hlv1
      have hC3 := fun W => l6Hex_any x.fLo W (Nat.le_trans hM.lo (by omega))
      have hC4 := fun W => l6Hex_any x.fHi W (Nat.le_trans hM.hi (by omega))
      obtain ⟨d1, HD1⟩ : ∃ d, Hid (d = strB (decD x.fNo)) := ⟨_, Hid.mk rfl⟩
      obtain ⟨d2, HD3⟩ : ∃ d, Hid (d = strB (decD x.fLevel)) := ⟨_, Hid.mk rfl⟩
      obtain ⟨d3, HD4⟩ : ∃ d, Hid (d = strB (hexT x.fLo)) := ⟨_, Hid.mk rfl⟩
      obtain ⟨d4, HD5⟩ : ∃ d, Hid (d = strB (hexT x.fHi)) := ⟨_, Hid.mk rfl⟩
      have hd1 : d1.size ≤ 100001 := by rw [HD1.out, strB_size]; exact decD_len hno1
      have hd2 : d2.size ≤ 100001 := by rw [HD3.out, strB_size]; exact decD_len hlv1
      have hd3 : d3.size ≤ 40 := by rw [HD4.out, strB_size, hexT_len]; have := hM.lo; omega
      have hd4 : d4.size ≤ 40 := by rw [HD5.out, strB_size, hexT_len]; have := hM.hi; omega
      rw [← HD1.out] at hC1
      rw [← HD3.out] at hC2
      rw [← HD4.out] at hC3
      rw [← HD5.out] at hC4
      obtain ⟨cu, HCU⟩ : ∃ c, Hid (c = strB (HT ++ linesT (l.take k))) := ⟨_, Hid.mk rfl⟩
      have HE : Hid (cu ++ (⟨#[116, 97, 98, 32]⟩ : ByteArray) ++ d1 ++ ⟨#[32]⟩ ++ d2 ++ ⟨#[32]⟩ ++ d3 ++ ⟨#[32]⟩ ++ d4 ++ ⟨#[10]⟩ = strB (HT ++ linesT (l.take (k + 1)))) := by
        show _ = _
        rw [HCU.out, HLT.out, HD1.out, HD3.out, HD4.out, HD5.out, show (⟨#[116, 97, 98, 32]⟩ : ByteArray) = strB [116, 97, 98, 32] from rfl, show (⟨#[32]⟩ : ByteArray) = strB [32] from rfl, show (⟨#[10]⟩ : ByteArray) = strB [10] from rfl]
        simp only [strB_app]
        apply strB_inj
        simp [lineT, tabW]
      rw [← HCU.out] at hcu ⊢
      have n1 : (9223372036854775807 < cu.size + 4) = False := eq_false (by omega)
      have n2 : (9223372036854775807 < cu.size + 4 + d1.size) = False := eq_false (by omega)
      have n3 : (9223372036854775807 < cu.size + 4 + d1.size + 1) = False := eq_false (by omega)
      have n4 : (9223372036854775807 < cu.size + 4 + d1.size + 1 + d2.size) = False := eq_false (by omega)
      have n5 : (9223372036854775807 < cu.size + 4 + d1.size + 1 + d2.size + 1) = False := eq_false (by omega)
      have n6 : (9223372036854775807 < cu.size + 4 + d1.size + 1 + d2.size + 1 + d3.size) = False := eq_false (by omega)
      have n7 : (9223372036854775807 < cu.size + 4 + d1.size + 1 + d2.size + 1 + d3.size + 1) = False := eq_false (by omega)
      have n8 : (9223372036854775807 < cu.size + 4 + d1.size + 1 + d2.size + 1 + d3.size + 1 + d4.size) = False := eq_false (by omega)
      have n9 : (9223372036854775807 < cu.size + 4 + d1.size + 1 + d2.size + 1 + d3.size + 1 + d4.size + 1) = False := eq_false (by omega)
      clear hM HLT HD1 HD3 HD4 HD5 HCU
      go_wp2_with fail
      rw [← hwp]
      clear hwp
      refine wp_region_held_drew (S := fun W => Below wp.heap.size wp W) (by kernel_rfl) (Below.drew (Below.refl _ _)) (fun hHeld => ?_)
      refine tk 0 q936_20_8_0 (some 31) (v := ?v10) rfl rfl (by kernel_rfl) hHeld (by rfl) (fun _ _ _ x => x) (fun w h => ?y10) ?_; (case y10 => (try dsimp only at h); go_simp; try (with_reducible rfl)); try simp only [Act.put, sa, s0, s1]
      refine tk 1 q936_20_8_1 (some 32) (v := ?v11) rfl rfl (by kernel_rfl) hHeld (by rfl) (fun _ _ _ x => x) (fun w h => ?y11) ?_; (case y11 => (try dsimp only at h); go_simp; try (with_reducible rfl)); try simp only [Act.put, sa, s0, s1]
      refine tk 2 q936_20_8_2 (some 33) (v := ?v12) rfl rfl (by kernel_rfl) hHeld (by rfl) (fun _ _ _ x => x) (fun w h => ?y12) ?_; (case y12 => (try dsimp only at h); go_simp; try (with_reducible rfl)); try simp only [Act.put, sa, s0, s1]
      refine tk 3 q936_20_8_3 (some 34) (v := ?v13) rfl rfl (by kernel_rfl) hHeld (by rfl) (fun _ _ _ x => x) (fun w h => ?y13) ?_; (case y13 => (try dsimp only at h); go_simp; try (with_reducible rfl)); try simp only [Act.put, sa, s0, s1]
      refine tk 7 q936_20_8_7 (some 38) (v := ?v14) rfl rfl (by kernel_rfl) hHeld (by rfl) (fun _ _ _ x => x) (fun w h => ?y14) ?_; (case y14 => (try dsimp only at h); go_simp; try (with_reducible rfl)); try simp only [Act.put, sa, s0, s1]
      refine tk 8 q936_20_8_8 (some 39) (v := ?v15) rfl rfl (by kernel_rfl) hHeld (by rfl) (fun _ _ _ x => x) (fun w h => ?y15) ?_; (case y15 => (try dsimp only at h); go_simp; try (with_reducible rfl)); try simp only [Act.put, sa, s0, s1]
      refine tk 12 q936_20_8_12 (some 43) (v := ?v16) rfl rfl (by kernel_rfl) hHeld (by rfl) (fun _ _ _ x => x) (fun w h => ?y16) ?_; (case y16 => (try dsimp only at h); go_simp; try (with_reducible rfl)); try simp only [Act.put, sa, s0, s1]
      refine tk 13 q936_20_8_13 (some 44) (v := ?v17) rfl rfl (by kernel_rfl) hHeld (by rfl) (fun _ _ _ x => x) (fun w h => ?y17) ?_; (case y17 => (try dsimp only at h); go_simp; try (with_reducible rfl)); try simp only [Act.put, sa, s0, s1]
      refine tk 17 q936_20_8_17 (some 48) (v := ?v18) rfl rfl (by kernel_rfl) hHeld (by rfl) (fun _ _ _ x => x) (fun w h => ?y18) ?_; (case y18 => (try dsimp only at h); go_simp; try (with_reducible rfl)); try simp only [Act.put, sa, s0, s1]
      refine tk 18 q936_20_8_18 (some 49) (v := ?v19) rfl rfl (by kernel_rfl) hHeld (by rfl) (fun _ _ _ x => x) (fun w h => ?y19) ?_; (case y19 => (try dsimp only at h); go_simp; try (with_reducible rfl)); try simp only [Act.put, sa, s0, s1]
      refine wpAnyH_ready (rs := [4]) (by kernel_rfl) (by simp) ?_
      refine AllReadyH.cons (o := q936_20_8_4) rfl (fun K hK => ?_) AllReadyH.nil
      go_simp
      refine Calls.mono (hC1 _) ?_
      rintro e w1 ⟨rfl, hx1⟩
      go_wp2_with fail
      refine hK.out _ _ (bthen hHeld hx1) (fun hHeld => ?_)
      clear hK K
      try simp only [Act.put, sa, s0, s1]
      refine tk 5 q936_20_8_5 (some 36) (v := ?v20) rfl rfl (by kernel_rfl) hHeld (by rfl) (fun _ _ _ x => x) (fun w h => ?y20) ?_; (case y20 => (try dsimp only at h); go_simp; try (with_reducible rfl)); try simp only [Act.put, sa, s0, s1]
      refine tk 6 q936_20_8_6 (some 37) (v := ?v21) rfl rfl (by kernel_rfl) hHeld (by rfl) (fun _ _ _ x => x) (fun w h => ?y21) ?_; (case y21 => (try dsimp only at h); go_simp; try (with_reducible rfl)); try simp only [Act.put, sa, s0, s1]
      refine wpAnyH_ready (rs := [9]) (by kernel_rfl) (by simp) ?_
      refine AllReadyH.cons (o := q936_20_8_9) rfl (fun K hK => ?_) AllReadyH.nil
      go_simp
      refine Calls.mono (hC2 _) ?_
      rintro e w2 ⟨rfl, hx2⟩
      go_wp2_with fail
      refine hK.out _ _ (bthen hHeld hx2) (fun hHeld => ?_)
      clear hK K
      try simp only [Act.put, sa, s0, s1]
      refine tk 10 q936_20_8_10 (some 41) (v := ?v22) rfl rfl (by kernel_rfl) hHeld (by rfl) (fun _ _ _ x => x) (fun w h => ?y22) ?_; (case y22 => (try dsimp only at h); go_simp; try (with_reducible rfl)); try simp only [Act.put, sa, s0, s1]
      refine tk 11 q936_20_8_11 (some 42) (v := ?v23) rfl rfl (by kernel_rfl) hHeld (by rfl) (fun _ _ _ x => x) (fun w h => ?y23) ?_; (case y23 => (try dsimp only at h); go_simp; try (with_reducible rfl)); try simp only [Act.put, sa, s0, s1]
      refine wpAnyH_ready (rs := [14]) (by kernel_rfl) (by simp) ?_
      refine AllReadyH.cons (o := q936_20_8_14) rfl (fun K hK => ?_) AllReadyH.nil
      go_simp
      refine Calls.mono (hC3 _) ?_
      rintro e w3 ⟨rfl, hx3⟩
      go_wp2_with fail
      refine hK.out _ _ (bthen hHeld hx3) (fun hHeld => ?_)
      clear hK K
      try simp only [Act.put, sa, s0, s1]
      refine tk 15 q936_20_8_15 (some 46) (v := ?v24) rfl rfl (by kernel_rfl) hHeld (by rfl) (fun _ _ _ x => x) (fun w h => ?y24) ?_; (case y24 => (try dsimp only at h); go_simp; try (with_reducible rfl)); try simp only [Act.put, sa, s0, s1]
      refine tk 16 q936_20_8_16 (some 47) (v := ?v25) rfl rfl (by kernel_rfl) hHeld (by rfl) (fun _ _ _ x => x) (fun w h => ?y25) ?_; (case y25 => (try dsimp only at h); go_simp; try (with_reducible rfl)); try simp only [Act.put, sa, s0, s1]
      refine wpAnyH_ready (rs := [19]) (by kernel_rfl) (by simp) ?_
      refine AllReadyH.cons (o := q936_20_8_19) rfl (fun K hK => ?_) AllReadyH.nil
      go_simp
      refine Calls.mono (hC4 _) ?_
      rintro e w4 ⟨rfl, hx4⟩
      go_wp2_with fail
      refine hK.out _ _ (bthen hHeld hx4) (fun hHeld => ?_)
      clear hK K
      try simp only [Act.put, sa, s0, s1]
      refine tk 20 q936_20_8_20 (some 51) (v := ?v26) rfl rfl (by kernel_rfl) hHeld (by rfl) (fun _ _ _ x => x) (fun w h => ?y26) ?_; (case y26 => (try dsimp only at h); go_simp; try (with_reducible rfl)); try simp only [Act.put, sa, s0, s1]
      refine tk 21 q936_20_8_21 (some 52) (v := ?v27) rfl rfl (by kernel_rfl) hHeld (by rfl) (fun _ _ _ x => x) (fun w h => ?y27) ?_; (case y27 => (try dsimp only at h); go_simp; try (with_reducible rfl)); try simp only [Act.put, sa, s0, s1]
      refine tk 22 q936_20_8_22 (some 3) (v := ?v28) rfl rfl (by kernel_rfl) hHeld (by rfl) (fun _ _ _ x => x) (fun w h => ?y28) ?_; (case y28 => (try dsimp only at h); go_simp; try (with_reducible rfl)); try simp only [Act.put, sa, s0, s1]
      refine wpAnyH_done (by kernel_rfl) ?_ _
      rw [HE.out]
      clear HE n1 n2 n3 n4 n5 n6 n7 n8 n9 hC1 hC2 hC3 hC4
      go_wp2_with fail
      go_roundw
      case rel => exact ⟨k + 1, by omega, by go_num, rfl, bthen hbkp hHeld⟩
      case measure => simp [intOf]; omega
    · have HT1 : Hid (l.take k = l) := List.take_of_length_le (by rw [HX.out]; omega)
      have HE : Hid (strB (HT ++ linesT (l.take k)) ++ (⟨#[101, 110, 100, 10]⟩ : ByteArray) = manTextP m) := by
        show _ = _
        rw [HT1.out, HD2.out, show (⟨#[101, 110, 100, 10]⟩ : ByteArray) = strB [101, 110, 100, 10] from rfl, strB_app]
      have n1 : (9223372036854775807 < (strB (HT ++ linesT (l.take k))).size + 4) = False := eq_false (by omega)
      generalize strB (HT ++ linesT (l.take k)) = cu at *
      go_wp2_with fail
      go_ret
      exact ⟨by rw [HE.out]; rfl, hbw⟩

end Go.Proofs.YtnohnkcijomdjaaGreatDoor

namespace Go.Proofs.YtnohnkcijomdjaaGreatDoor
open Go.RowKit

theorem Tryz.infoStr : (Tryz.prog.info? 9).map (fun i => (i.zero, i.size, i.bytes)) = some (some (.string ByteArray.empty), 1, 16) := by kernel_rfl
theorem ints_at_ (s : ByteArray) (k : Nat) (h : k < (byteInts s).length) (h2 : k < s.data.toList.length) : (byteInts s)[k] = ((s.data.toList[k].toNat : Nat) : Int) := by
  simp [byteInts]
theorem size_list (s : ByteArray) : s.data.toList.length = s.size := by rw [Array.length_toList]; rfl
theorem at_byte (s : ByteArray) (k : Nat) (W : World) (h : k < s.data.toList.length) : (Instr.index 9 (.string s) (.int .i64 k)).run Tryz.prog W = .ok (.int .u8 ((s.data.toList[k].toNat : Nat) : Int)) W := by
  have h1 : k < (byteInts s).length := by rw [byteInts_length, ← size_list]; exact h
  rw [strAt s W h1, ints_at_ s k h1 h]

def strV (l : List UInt8) : Value := .string (strB l)
/-- As far as i, or one behind the end. -/
def SpR (b : UInt8) (l : List UInt8) (D : List (List UInt8)) (f k : Nat) : Prop := SpI b l D f k ∨ (k = l.length + 1 ∧ splitP b l = D)

set_option maxHeartbeats 2000000 in
theorem l6Split_any (s : ByteArray) (b : UInt8) (w : World) (hs : s.size ≤ 1048576) :
    Calls Tryz.prog 16 #[.string s, .int .u8 (b.toNat : Int)] w fun e w' => ∃ v, e = .returned v ∧ w'.ownsRow w.heap.size 9 1 v (splitP b s.data.toList).length ((splitP b s.data.toList).map strV) ∧ Below w.heap.size w w' := by
  obtain ⟨i0, hi, hz0, hz1, hz2⟩ := info_parts Tryz.infoStr
  have HPT := Hid.mk (fun (f k : Nat) (h : k ≤ s.size) => str_part s f k h)
  have HAT := Hid.mk (fun (k : Nat) (W : World) (h : k < s.data.toList.length) => at_byte s k W h)
  have hsl := size_list s
  obtain ⟨l, hl⟩ : ∃ l, l = s.data.toList := ⟨_, rfl⟩
  rw [← hl] at HPT HAT hsl ⊢
  have HSL := Hid.mk hsl
  clear hl hsl
  have hb255 : b.toNat < 256 := b.toNat_lt
  go_enter Tryz.func16, Tryz.ntmps16
  go_wp2_with fail
  obtain ⟨wq, hwq⟩ : ∃ x, x = w.alloc (.cells #[] 9) := ⟨_, rfl⟩
  have hbq : Below w.heap.size w wq := by rw [hwq]; exact (Below.refl _ _).alloc (Nat.le_refl _) _
  have hoo : wq.ownsRow w.heap.size 9 1 (.slice (some ⟨w.heap.size, 0, none⟩) 0 0) 0 [] := by
    rw [hwq]
    exact ⟨by simp, .inr ⟨w.heap.size, 0, #[], rfl, Nat.le_refl _, (show (w.heap.push _)[w.heap.size]? = _ from Array.getElem?_push_size), by omega, by simp [maxLen], by simp, by simp⟩⟩
  rw [← hwq]
  clear hwq
  go_loopw [5, 6, 7] (fun v fr i wr => ∃ (k f : Nat) (D : List (List UInt8)), k ≤ s.size + 1 ∧ f ≤ k ∧ i = .int .i64 k ∧ fr = .int .i64 f ∧ D.length ≤ k ∧ Hid (SpR b l D f k) ∧ wr.ownsRow w.heap.size 9 1 v D.length (D.map strV) ∧ Below w.heap.size w wr) (fun _ _ i _ => s.size + 1 - (intOf i).toNat)
  case atStart => exact ⟨0, 0, [], Nat.zero_le _, Nat.le_refl _, rfl, rfl, Nat.zero_le _, .inl (SpI.start b l), hoo, hbq⟩
  case round =>
    obtain ⟨k, f, D, hk, hfk, rfl, rfl, hDk, HSP, hown, hbk⟩ := hrel
    clear hoo hbq
    have hbs := hbk.size
    by_cases hle : k ≤ s.size
    · have HSI : Hid (SpI b l D f k) := by
        rcases HSP.out with h | h
        · exact h
        · exact absurd h.1 (by have := HSL.out; omega)
      clear HSP
      by_cases hlt : k < s.size
      · have hkl : k < l.length := by rw [HSL.out]; exact hlt
        have hat := fun W => HAT.out k W hkl
        have hne : ¬ (k : Int) = (s.size : Int) := by omega
        by_cases he : l[k] = b
        · have HN := Hid.mk (HSI.out.cut hkl he)
          rw [he] at hat
          have HP := Hid.mk (HPT.out f k hle)
          generalize (l.drop f).take (k - f) = pc at HN HP
          obtain ⟨y, HY⟩ : ∃ y, Hid (y = s.extract f k) := ⟨_, rfl⟩
          rw [← HY.out] at HP
          have hfi : (f : Int) ≤ (k : Int) := by omega
          go_wp2_with (at_builtin; rw [← HY.out]; refine wpList_append_own_at _ rfl _ _ 44 rfl w.heap.size 9 i0 (.string ByteArray.empty) 1 16 Tryz.underlying44 hi hz0 hz1 hz2 rfl (by decide) _ _ _ rfl (own_below hown ((Below.refl _ _).alloc (Nat.le_refl _) _)) ⟨wr.heap.size, 0, none⟩ 1 1 [.string y] rfl rfl (bx_news (Bx.new wr _ _)) (by intro u hu; simp at hu; subst hu; rfl) (by unfold maxLen; omega) (by omega) (by simp; omega) ?_; intro v' w3 hown3 hgrow3 hnil hloc)
          have hT := Turn.after ((Below.refl wr.heap.size wr).alloc (Nat.le_refl _) _) (turnOwn hgrow3)
          have hge : ∀ k, k ∈ (Value.ownBlock _).toList → w.heap.size ≤ k := fun k hk => (hown.lt k (by simpa using hk)).1
          go_roundw
          case rel => exact ⟨k + 1, k + 1, D ++ [pc], by omega, by omega, by go_num, by go_num, by simp; omega, .inl HN.out, own_congr hown3 (by simp) (by rw [List.map_append, HP.out]; rfl), Turn.under hbk hT (fun k hk => hge k hk)⟩
          case measure => simp [intOf]; omega
        · have HN := Hid.mk (HSI.out.skip hkl he)
          have hnn : ¬ ((l[k].toNat : Nat) : Int) = (b.toNat : Int) := fun h => he (UInt8.toNat_inj.1 (by omega))
          have hx256 : l[k].toNat < 256 := l[k].toNat_lt
          generalize l[k].toNat = x at *
          have e1 : ((k : Int) == (s.size : Int)) = false := beq_eq_false_iff_ne.2 hne
          have e2 : ((x : Int) == (b.toNat : Int)) = false := beq_eq_false_iff_ne.2 hnn
          go_wp2_with fail
          go_roundw
          case rel => exact ⟨k + 1, f, D, by omega, by omega, by go_num, rfl, by omega, .inl HN.out, hown, hbk⟩
          case measure => simp [intOf]; omega
      · have hks : k = s.size := by omega
        subst hks
        have HN : Hid (splitP b l = D ++ [(l.drop f).take (s.size - f)]) := by
          have h := HSI.out
          rw [← HSL.out] at h ⊢
          exact h.fin
        have HP := Hid.mk (HPT.out f s.size (Nat.le_refl _))
        generalize (l.drop f).take (s.size - f) = pc at HN HP
        obtain ⟨y, HY⟩ : ∃ y, Hid (y = s.extract f s.size) := ⟨_, rfl⟩
        rw [← HY.out] at HP
        have hfi : (f : Int) ≤ (s.size : Int) := by omega
        go_wp2_with (at_builtin; rw [← HY.out]; refine wpList_append_own_at _ rfl _ _ 44 rfl w.heap.size 9 i0 (.string ByteArray.empty) 1 16 Tryz.underlying44 hi hz0 hz1 hz2 rfl (by decide) _ _ _ rfl (own_below hown ((Below.refl _ _).alloc (Nat.le_refl _) _)) ⟨wr.heap.size, 0, none⟩ 1 1 [.string y] rfl rfl (bx_news (Bx.new wr _ _)) (by intro u hu; simp at hu; subst hu; rfl) (by unfold maxLen; omega) (by omega) (by simp; omega) ?_; intro v' w3 hown3 hgrow3 hnil hloc)
        have hT := Turn.after ((Below.refl wr.heap.size wr).alloc (Nat.le_refl _) _) (turnOwn hgrow3)
        have hge : ∀ k, k ∈ (Value.ownBlock _).toList → w.heap.size ≤ k := fun k hk => (hown.lt k (by simpa using hk)).1
        go_roundw
        case rel => exact ⟨s.size + 1, s.size + 1, D ++ [pc], by omega, by omega, by go_num, by go_num, by simp; omega, .inr ⟨by rw [HSL.out], HN.out⟩, own_congr hown3 (by simp) (by rw [List.map_append, HP.out]; rfl), Turn.under hbk hT (fun k hk => hge k hk)⟩
        case measure => first | (simp [intOf]; done) | (simp [intOf]; omega)
    · have HN : Hid (splitP b l = D) := by
        rcases HSP.out with h | h
        · exact absurd h.il (by have := HSL.out; omega)
        · exact h.2
      have hk1 : ¬ (k : Int) ≤ (s.size : Int) := by omega
      go_wp2_with fail
      go_ret
      exact ⟨_, rfl, by rw [HN.out]; exact hown, hbk⟩

set_option maxHeartbeats 400000 in
theorem l6Digit_any (b : UInt8) (w : World) :
    Calls Tryz.prog 38 #[.int .u8 (b.toNat : Int)] w fun e w' => e = .returned (.int .i64 (digP b)) ∧ w' = w := by
  have hb : b.toNat < 256 := b.toNat_lt
  obtain ⟨v, hv⟩ : ∃ v, v = digP b := ⟨_, rfl⟩
  have HV : Hid (v = if 48 ≤ b.toNat ∧ b.toNat ≤ 57 then (b.toNat : Int) - 48 else if 97 ≤ b.toNat ∧ b.toNat ≤ 102 then (b.toNat : Int) - 87 else 99) := hv
  rw [← hv]
  clear hv
  generalize b.toNat = x at *
  go_enter Tryz.func38, Tryz.ntmps38
  go_wp2_with fail
  refine (l1In_any _ _ _ _).mono ?_
  rintro e w1 ⟨rfl, hw1⟩
  replace hw1 := hw1.symm
  subst hw1
  by_cases h1 : 48 ≤ x ∧ x ≤ 57
  · have HW : Hid (v = (x : Int) - 48) := HV.out.trans (if_pos h1)
    rw [inRange_yes (by omega) (by omega)]
    have hw : IntKind.u8.wrap ((x : Int) - 48) = (x : Int) - 48 := by rw [IntKind.wrap_u8]; omega
    go_wp2_with fail
    go_ret
    exact ⟨by rw [HW.out]; rfl, rfl⟩
  · rw [inRange_no (by omega)]
    go_wp2_with fail
    refine (l1In_any _ _ _ _).mono ?_
    rintro e w1 ⟨rfl, hw1⟩
    replace hw1 := hw1.symm
    subst hw1
    by_cases h2 : 97 ≤ x ∧ x ≤ 102
    · have HW : Hid (v = (x : Int) - 97 + 10) := by show v = _; rw [HV.out, if_neg h1, if_pos h2]; omega
      rw [inRange_yes (by omega) (by omega)]
      have hw : IntKind.u8.wrap ((x : Int) - 97) = (x : Int) - 97 := by rw [IntKind.wrap_u8]; omega
      go_wp2_with fail
      go_ret
      exact ⟨by rw [HW.out]; rfl, rfl⟩
    · have HW : Hid (v = 99) := by show v = _; rw [HV.out, if_neg h1, if_neg h2]
      rw [inRange_no (by omega)]
      go_wp2_with fail
      go_ret
      exact ⟨by rw [HW.out]; rfl, rfl⟩

set_option maxHeartbeats 1000000 in
theorem l6Number_any (s : ByteArray) (w : World) (hs : s.size ≤ 1048576) :
    Calls Tryz.prog 17 #[.string s] w fun e w' => e = .returned (.int .i64 (numP s.data.toList)) ∧ w' = w := by
  have HAT := Hid.mk (fun (k : Nat) (W : World) (h : k < s.data.toList.length) => at_byte s k W h)
  have hsl := size_list s
  obtain ⟨l, hl⟩ : ∃ l, l = s.data.toList := ⟨_, rfl⟩
  rw [← hl] at HAT hsl ⊢
  have HSL := Hid.mk hsl
  clear hl hsl
  obtain ⟨v, hv⟩ : ∃ v, v = numP l := ⟨_, rfl⟩
  have HV := Hid.mk hv
  rw [← hv]
  clear hv
  go_enter Tryz.func17, Tryz.ntmps17
  go_wp2_with fail
  refine (l1In_any _ _ _ _).mono ?_
  rintro e w1 ⟨rfl, hw1⟩
  replace hw1 := hw1.symm
  subst hw1
  by_cases h1 : 1 ≤ s.size ∧ s.size ≤ 6
  · rw [inRange_yes (by omega) (by omega)]
    have h6 := h1.2
    have HL16 : Hid (1 ≤ l.length ∧ l.length ≤ 6) := by show _ ∧ _; rw [HSL.out]; exact h1
    clear h1
    go_wp2_with fail
    go_loopw [3, 4] (fun nv i wr => ∃ (k : Nat) (n : Int), k ≤ s.size ∧ i = .int .i64 k ∧ nv = .int .i64 n ∧ Hid (n = valD (l.take k) 0) ∧ Hid ((l.take k).all isDig = true) ∧ wr = w) (fun _ i _ => s.size - (intOf i).toNat)
    case atStart => exact ⟨0, 0, Nat.zero_le _, rfl, rfl, rfl, rfl, rfl⟩
    case round =>
      obtain ⟨k, n, hk, rfl, rfl, HN, HD, hwr⟩ := hrel
      subst hwr
      by_cases hlt : k < s.size
      · have hkl : k < l.length := by rw [HSL.out]; exact hlt
        have hat := fun W => HAT.out k W hkl
        have hx256 : l[k].toNat < 256 := l[k].toNat_lt
        have hbnd := val_bound _ HD.out
        rw [← HN.out, List.length_take, Nat.min_eq_left (by omega)] at hbnd
        have hp : (10 : Int) ^ k ≤ 100000 := by
          have : k ≤ 5 := by omega
          match k, this with
          | 0, _ => decide
          | 1, _ => decide
          | 2, _ => decide
          | 3, _ => decide
          | 4, _ => decide
          | 5, _ => decide
        have hn0 : 0 ≤ n := hbnd.1
        have hn1 : n < 100000 := by omega
        clear hbnd hp
        have HT : Hid (valD (l.take (k + 1)) 0 = n * 10 + ((l[k].toNat : Int) - 48)) := by show _ = _; rw [val_take hkl, ← HN.out]
        have HA : Hid ((l.take (k + 1)).all isDig = isDig l[k]) := by
          show _ = _
          rw [List.take_succ_eq_append_getElem hkl, List.all_append, HD.out]
          simp
        have HB : Hid (isDig l[k] = false → numP l = -1) := fun h => by
          unfold numP
          rw [if_neg]
          rintro ⟨_, h2⟩
          rw [List.all_eq_true] at h2
          rw [h2 _ (List.getElem_mem hkl)] at h
          cases h
        have HDG : Hid (isDig l[k] = decide (48 ≤ l[k].toNat ∧ l[k].toNat ≤ 57)) := rfl
        generalize isDig l[k] = dg at HA HB HDG
        generalize l[k].toNat = x at *
        go_wp2_with fail
        refine (l1In_any _ _ _ _).mono ?_
        rintro e w1 ⟨rfl, hw1⟩
        replace hw1 := hw1.symm
        subst hw1
        by_cases hd : 48 ≤ x ∧ x ≤ 57
        · rw [inRange_yes (by omega) (by omega)]
          have hw : IntKind.u8.wrap ((x : Int) - 48) = (x : Int) - 48 := by rw [IntKind.wrap_u8]; omega
          have hdg : dg = true := by rw [HDG.out]; exact decide_eq_true hd
          go_wp2_with fail
          go_roundw
          case rel => exact ⟨k + 1, n * 10 + ((x : Int) - 48), by omega, by go_num, rfl, HT.out.symm, HA.out.trans hdg, by first | rfl | trivial⟩
          case measure => simp [intOf]; omega
        · rw [inRange_no (by omega)]
          have HVV : Hid (v = -1) := by show v = _; rw [HV.out]; exact HB.out (by rw [HDG.out]; exact decide_eq_false hd)
          go_wp2_with fail
          go_ret
          exact ⟨by rw [HVV.out]; rfl, rfl⟩
      · have hks : k = s.size := by omega
        subst hks
        have HVV : Hid (v = n) := by
          show v = n
          have ht : l.take s.size = l := List.take_of_length_le (by rw [HSL.out]; omega)
          have h1 := HN.out
          have h2 := HD.out
          rw [ht] at h1 h2
          rw [HV.out, h1]
          unfold numP
          rw [if_pos ⟨HL16.out, h2⟩]
        go_wp2_with fail
        go_ret
        exact ⟨by rw [HVV.out]; rfl, rfl⟩
  · rw [inRange_no (by omega)]
    have HVV : Hid (v = -1) := by
      show v = _
      rw [HV.out]
      unfold numP
      rw [if_neg]
      rintro ⟨h2, _⟩
      rw [HSL.out] at h2
      exact h1 h2
    go_wp2_with fail
    go_ret
    exact ⟨by rw [HVV.out]; rfl, rfl⟩

abbrev q674_18_5_0 : Oper := ⟨some 13, .move (.tmp 3), 60, "l06_manifest.go:60", #[], none⟩
abbrev q674_18_5_1 : Oper := ⟨some 14, .move (.tmp 0), 9, "l06_manifest.go:60", #[], none⟩
abbrev q674_18_5_2 : Oper := ⟨some 15, .move (.tmp 4), 3, "l06_manifest.go:60", #[], none⟩
abbrev q674_18_5_3 : Oper := ⟨some 16, .index 9 (.tmp 14) (.tmp 15), 5, "l06_manifest.go:60", #[⟨1, .data⟩, ⟨2, .data⟩], none⟩
abbrev q674_18_5_6 : Oper := ⟨some 19, .move (.tmp 0), 9, "l06_manifest.go:60", #[], none⟩
abbrev q674_18_5_7 : Oper := ⟨some 20, .move (.tmp 4), 3, "l06_manifest.go:60", #[], none⟩
abbrev q674_18_5_8 : Oper := ⟨some 21, .binOp .add 3 (.tmp 20) (.const (.int .i64 1)) 3, 3, "l06_manifest.go:60", #[⟨7, .data⟩], none⟩
abbrev q674_18_5_9 : Oper := ⟨some 22, .index 9 (.tmp 19) (.tmp 21), 5, "l06_manifest.go:60", #[⟨6, .data⟩, ⟨8, .data⟩], none⟩
abbrev q674_18_5_4 : Oper := ⟨some 17, .call { callee := .value (.func 38), args := #[.tmp 16], argTypes := #[5] }, 3, "l06_manifest.go:60", #[⟨3, .data⟩], none⟩
abbrev q674_18_5_5 : Oper := ⟨some 18, .binOp .mul 3 (.tmp 17) (.const (.int .i64 16)) 3, 3, "l06_manifest.go:60", #[⟨4, .data⟩], none⟩
abbrev q674_18_5_10 : Oper := ⟨some 23, .call { callee := .value (.func 38), args := #[.tmp 22], argTypes := #[5] }, 3, "l06_manifest.go:60", #[⟨9, .data⟩, ⟨4, .chain⟩], none⟩
abbrev q674_18_5_11 : Oper := ⟨some 24, .binOp .add 3 (.tmp 18) (.tmp 23) 3, 3, "l06_manifest.go:60", #[⟨5, .data⟩, ⟨10, .data⟩], none⟩
abbrev q674_18_5_12 : Oper := ⟨some 25, .convert 3 5 (.tmp 24), 5, "l06_manifest.go:60", #[⟨11, .data⟩], none⟩
abbrev q674_18_5_13 : Oper := ⟨some 26, .buildSlice 60 1 #[(0, .tmp 25)], 60, "l06_manifest.go:60", #[⟨12, .data⟩], none⟩
abbrev q674_18_5_14 : Oper := ⟨some 27, .call { callee := .builtin .append, args := #[.tmp 13, .tmp 26], argTypes := #[60, 60] }, 60, "l06_manifest.go:60", #[⟨0, .data⟩, ⟨13, .data⟩, ⟨10, .chain⟩], none⟩
abbrev q674_18_5_15 : Oper := ⟨some 3, .assign (.tmp 27), 60, "l06_manifest.go:60", #[⟨14, .data⟩, ⟨14, .chain⟩, ⟨0, .phase⟩, ⟨1, .phase⟩, ⟨2, .phase⟩, ⟨3, .phase⟩, ⟨4, .phase⟩, ⟨5, .phase⟩, ⟨6, .phase⟩, ⟨7, .phase⟩, ⟨8, .phase⟩, ⟨9, .phase⟩, ⟨10, .phase⟩, ⟨11, .phase⟩, ⟨12, .phase⟩, ⟨13, .phase⟩, ⟨14, .phase⟩], none⟩

def zOf (l : List UInt8) : List Int := l.map fun b => ((b.toNat : Nat) : Int)
theorem zOf_str (l : List UInt8) : strOfNums (zOf l) = strB l := by
  rw [strB_nums]
  congr 1
  unfold zOf
  rw [List.map_map]
  conv => rhs; rw [← List.map_id l]
  apply List.map_congr_left
  intro b _
  simp
theorem digP_bound (b : UInt8) : 0 ≤ digP b ∧ digP b ≤ 99 := by
  unfold digP
  split
  · omega
  · split <;> omega
theorem unhex_len : ∀ (n : Nat) (l : List UInt8), l.length ≤ n → (unhexP l).length ≤ l.length
  | 0, [], _ => Nat.le_refl _
  | n + 1, [], _ => Nat.le_refl _
  | n + 1, [a], _ => by simp [unhexP]
  | n + 1, a :: b :: r, h => by
    have := unhex_len n r (by simp at h; omega)
    simp only [unhexP, List.length_cons]
    omega
set_option maxHeartbeats 2000000 in
theorem l6UnHex_any (s : ByteArray) (w : World) (hs : s.size ≤ 1048576) :
    Calls Tryz.prog 18 #[.string s] w fun e w' => e = .returned (.string (strB (unhexP s.data.toList))) ∧ Below w.heap.size w w' := by
  obtain ⟨i0, hi0⟩ := info_parts Tryz.info5
  have HI := Hid.mk hi0
  clear hi0
  have HAT := Hid.mk (fun (k : Nat) (W : World) (h : k < s.data.toList.length) => at_byte s k W h)
  have hsl := size_list s
  obtain ⟨l, hl⟩ : ∃ l, l = s.data.toList := ⟨_, rfl⟩
  rw [← hl] at HAT hsl ⊢
  have HSL := Hid.mk hsl
  clear hl hsl
  go_enter Tryz.func18, Tryz.ntmps18
  go_wp2_with fail
  obtain ⟨wq, hwq⟩ : ∃ x, x = w.alloc (.cells #[] 5) := ⟨_, rfl⟩
  have hbq : Below w.heap.size w wq := by rw [hwq]; exact (Below.refl _ _).alloc (Nat.le_refl _) _
  have hoo : wq.ownsRow w.heap.size 5 1 (.slice (some ⟨w.heap.size, 0, none⟩) 0 0) 0 [] := by
    rw [hwq]
    exact ⟨by simp, .inr ⟨w.heap.size, 0, #[], rfl, Nat.le_refl _, (show (w.heap.push _)[w.heap.size]? = _ from Array.getElem?_push_size), by omega, by simp [maxLen], by simp, by simp⟩⟩
  rw [← hwq]
  clear hwq
  go_loopw [3, 4] (fun v i wr => ∃ k : Nat, 2 * k ≤ s.size ∧ i = .int .i64 ((2 * k : Nat) : Int) ∧ wr.ownsRow w.heap.size 5 1 v (zOf (unhexP (l.take (2 * k)))).length ((zOf (unhexP (l.take (2 * k)))).map (Value.int .u8)) ∧ Below w.heap.size w wr) (fun _ i _ => s.size + 2 - (intOf i).toNat)
  case atStart => exact ⟨0, Nat.zero_le _, rfl, hoo, hbq⟩
  case round =>
    obtain ⟨k, hk, rfl, hown, hbk⟩ := hrel
    clear hoo hbq
    by_cases hlt : 2 * k + 1 < s.size
    · have hkl : 2 * k + 1 < l.length := by rw [HSL.out]; exact hlt
      have hat := fun W => HAT.out (2 * k) W (by omega)
      have hat2 := fun W => HAT.out (2 * k + 1) W hkl
      have HZ : Hid (zOf (unhexP (l.take (2 * (k + 1)))) = zOf (unhexP (l.take (2 * k))) ++ [((UInt8.ofNat ((digP l[2 * k] * 16 + digP l[2 * k + 1]) % 256).toNat).toNat : Int)]) := by
        show _ = _
        rw [show 2 * (k + 1) = 2 * k + 2 by omega, unhex_take k l hkl]
        simp [zOf]
      have hl2 : (zOf (unhexP (l.take (2 * k)))).length ≤ 1048576 := by
        have h1 := unhex_len _ (l.take (2 * k)) (Nat.le_refl _)
        unfold zOf
        rw [List.length_map]
        rw [List.length_take] at h1
        omega
      have HC1 := Hid.mk (fun W => l6Digit_any l[2 * k] W)
      have HC2 := Hid.mk (fun W => l6Digit_any l[2 * k + 1] W)
      have hd1 := digP_bound l[2 * k]
      have hd2 := digP_bound l[2 * k + 1]
      have hx1 : l[2 * k].toNat < 256 := l[2 * k].toNat_lt
      have hx2 : l[2 * k + 1].toNat < 256 := l[2 * k + 1].toNat_lt
      generalize digP l[2 * k] = p1 at *
      generalize digP l[2 * k + 1] = p2 at *
      generalize l[2 * k].toNat = c1 at *
      generalize l[2 * k + 1].toNat = c2 at *
      have hv : ((UInt8.ofNat ((p1 * 16 + p2) % 256).toNat).toNat : Int) = (p1 * 16 + p2) % 256 := by rw [UInt8.toNat_ofNat']; omega
      rw [hv] at HZ
      have hwr : IntKind.u8.wrap (p1 * 16 + p2) = (p1 * 16 + p2) % 256 := by rw [IntKind.wrap_u8]
      clear hv
      generalize zOf (unhexP (l.take (2 * k))) = out at *
      generalize hxx : (p1 * 16 + p2) % 256 = xv at *
      clear hxx
      obtain ⟨j, hj⟩ : ∃ j, j = 2 * k := ⟨_, rfl⟩
      have HJ := Hid.mk hj
      rw [← hj] at hat hat2 hlt ⊢
      replace hat2 : ∀ W, (Instr.index 9 (.string s) (.int .i64 ((j : Int) + 1))).run Tryz.prog W = .ok (.int .u8 ((c2 : Nat) : Int)) W := hat2
      clear hj
      have hjl : (j : Int) + 1 < (s.size : Int) := by omega
      have hwj : IntKind.i64.wrap ((j : Int) + 1) = (j : Int) + 1 := by rw [IntKind.wrap_i64]; omega
      have hwp : IntKind.i64.wrap (p1 * 16) = p1 * 16 := by rw [IntKind.wrap_i64]; omega
      have hwq2 : IntKind.i64.wrap (p1 * 16 + p2) = p1 * 16 + p2 := by rw [IntKind.wrap_i64]; omega
      go_wp2_with fail
      refine wp_region_held_drew (S := fun W => Below w.heap.size w W) (by kernel_rfl) (Below.drew hbk) (fun hHeld => ?_)
      refine tk 0 q674_18_5_0 (some 13) (v := ?v1) rfl rfl (by kernel_rfl) hHeld (by rfl) (fun _ _ _ x => x) (fun w h => ?y1) ?_; (case y1 => (try dsimp only at h); go_simp; try (with_reducible rfl)); try simp only [Act.put, sa, s0, s1]
      refine tk 1 q674_18_5_1 (some 14) (v := ?v2) rfl rfl (by kernel_rfl) hHeld (by rfl) (fun _ _ _ x => x) (fun w h => ?y2) ?_; (case y2 => (try dsimp only at h); go_simp; try (with_reducible rfl)); try simp only [Act.put, sa, s0, s1]
      refine tk 2 q674_18_5_2 (some 15) (v := ?v3) rfl rfl (by kernel_rfl) hHeld (by rfl) (fun _ _ _ x => x) (fun w h => ?y3) ?_; (case y3 => (try dsimp only at h); go_simp; try (with_reducible rfl)); try simp only [Act.put, sa, s0, s1]
      refine tk 3 q674_18_5_3 (some 16) (v := ?v4) rfl rfl (by kernel_rfl) hHeld (by rfl) (fun _ _ _ x => x) (fun w h => ?y4) ?_; (case y4 => (try dsimp only at h); go_simp; try (with_reducible rfl)); try simp only [Act.put, sa, s0, s1]
      refine tk 6 q674_18_5_6 (some 19) (v := ?v5) rfl rfl (by kernel_rfl) hHeld (by rfl) (fun _ _ _ x => x) (fun w h => ?y5) ?_; (case y5 => (try dsimp only at h); go_simp; try (with_reducible rfl)); try simp only [Act.put, sa, s0, s1]
      refine tk 7 q674_18_5_7 (some 20) (v := ?v6) rfl rfl (by kernel_rfl) hHeld (by rfl) (fun _ _ _ x => x) (fun w h => ?y6) ?_; (case y6 => (try dsimp only at h); go_simp; try (with_reducible rfl)); try simp only [Act.put, sa, s0, s1]
      refine tk 8 q674_18_5_8 (some 21) (v := ?v7) rfl rfl (by kernel_rfl) hHeld (by rfl) (fun _ _ _ x => x) (fun w h => ?y7) ?_; (case y7 => (try dsimp only at h); go_simp; try (with_reducible rfl)); try simp only [Act.put, sa, s0, s1]
      refine tk 9 q674_18_5_9 (some 22) (v := ?v8) rfl rfl (by kernel_rfl) hHeld (by rfl) (fun _ _ _ x => x) (fun w h => ?y8) ?_; (case y8 => (try dsimp only at h); go_simp; try (with_reducible rfl)); try simp only [Act.put, sa, s0, s1]
      refine wpAnyH_ready (rs := [4]) (by kernel_rfl) (by simp) ?_
      refine AllReadyH.cons (o := q674_18_5_4) rfl (fun K hK => ?_) AllReadyH.nil
      go_simp
      refine (HC1.out _).mono ?_
      rintro e wa ⟨rfl, hwa⟩
      have hop1 : Below w.heap.size w wa := by rw [hwa]; exact hHeld
      replace hwa := hwa.symm
      subst hwa
      go_wp2_with fail
      go_wp2_with fail
      refine hK.out _ _ (hop1) (fun hHeld => ?_)
      clear hK K
      try simp only [Act.put, sa, s0, s1]
      refine tk 5 q674_18_5_5 (some 18) (v := ?v9) rfl rfl (by kernel_rfl) hHeld (by rfl) (fun _ _ _ x => x) (fun w h => ?y9) ?_; (case y9 => (try dsimp only at h); go_simp; try (with_reducible rfl)); try simp only [Act.put, sa, s0, s1]
      refine wpAnyH_ready (rs := [10]) (by kernel_rfl) (by simp) ?_
      refine AllReadyH.cons (o := q674_18_5_10) rfl (fun K hK => ?_) AllReadyH.nil
      go_simp
      refine (HC2.out _).mono ?_
      rintro e wb ⟨rfl, hwb⟩
      have hop2 : Below w.heap.size w wb := by rw [hwb]; exact hHeld
      replace hwb := hwb.symm
      subst hwb
      go_wp2_with fail
      go_wp2_with fail
      refine hK.out _ _ (hop2) (fun hHeld => ?_)
      clear hK K
      try simp only [Act.put, sa, s0, s1]
      refine tk 11 q674_18_5_11 (some 24) (v := ?v10) rfl rfl (by kernel_rfl) hHeld (by rfl) (fun _ _ _ x => x) (fun w h => ?y10) ?_; (case y10 => (try dsimp only at h); go_simp; try (with_reducible rfl)); try simp only [Act.put, sa, s0, s1]
      refine tk 12 q674_18_5_12 (some 25) (v := ?v11) rfl rfl (by kernel_rfl) hHeld (by rfl) (fun _ _ _ x => x) (fun w h => ?y11) ?_; (case y11 => (try dsimp only at h); go_simp; try (with_reducible rfl)); try simp only [Act.put, sa, s0, s1]
      refine wpAnyH_ready (rs := [13]) (by kernel_rfl) (by simp) ?_
      refine AllReadyH.cons (o := q674_18_5_13) rfl (fun K hK => ?_) AllReadyH.nil
      go_simp
      obtain ⟨w5, hq5⟩ : ∃ x, x = (wr.alloc (.cells (List.toArray [Value.int .u8 xv]) 5)).drew := ⟨_, rfl⟩
      have hx5 : Below wr.heap.size wr w5 := by rw [hq5]; exact Below.drew ((Below.refl _ _).alloc (Nat.le_refl _) _)
      have hop3 : Below w.heap.size w w5 := hbk.trans (hx5.mono hbk.size)
      have HR5 : Hid (Rd .u8 (wr.heap.size + 1) w5 (some ⟨wr.heap.size, 0, none⟩) [xv]) := by rw [hq5]; exact rd_one .u8 wr xv 5
      have HO5 := Hid.mk (own_below hown hx5)
      rw [← hq5]
      clear hq5
      refine hK.out _ _ (hop3) (fun hHeld => ?_)
      clear hK K
      try simp only [Act.put, sa, s0, s1]
      refine wpAnyH_ready (rs := [14]) (by kernel_rfl) (by simp) ?_
      refine AllReadyH.cons (o := q674_18_5_14) rfl (fun K hK => ?_) AllReadyH.nil
      refine step_append_src w5 rfl _ _ 60 60 rfl w.heap.size 5 i0 (.int .u8 0) 1 1 Tryz.underlying60 HI.out.1 HI.out.2.1 HI.out.2.2.1 HI.out.2.2.2 rfl _ out.length (out.map (Value.int .u8)) rfl HO5.out (.slice (some ⟨wr.heap.size, 0, none⟩) 1 1) rfl 1 ([xv].map (Value.int .u8)) (Src.rd Tryz.underlying60 rfl HR5.out) (by unfold maxLen; omega) (by omega) hop3.size ?_
      intro v6 w6 ho6 hgr6 hat6
      have hop4 : Below w.heap.size w w6 := hop3.grown hgr6 hop3.size (fun k h => (HO5.out.lt k h).1)
      have HO6 : Hid (w6.ownsRow w.heap.size 5 1 v6 (out ++ [xv]).length ((out ++ [xv]).map (Value.int .u8))) := own_congr ho6 (by simp) (by simp)
      clear ho6 hgr6 hat6
      refine hK.out _ _ (hop4) (fun hHeld => ?_)
      clear hK K
      try simp only [Act.put, sa, s0, s1]
      refine tk 15 q674_18_5_15 (some 3) (v := ?v12) rfl rfl (by kernel_rfl) hHeld (by rfl) (fun _ _ _ x => x) (fun w h => ?y12) ?_; (case y12 => (try dsimp only at h); go_simp; try (with_reducible rfl)); try simp only [Act.put, sa, s0, s1]
      refine wpAnyH_done (by kernel_rfl) ?_ _
      go_wp2_with fail
      go_roundw
      case rel => exact ⟨k + 1, by have := HJ.out; omega, by rw [HJ.out]; congr 1, by rw [HZ.out]; exact HO6.out, hop4⟩
      case measure => simp [intOf]; have := HJ.out; omega
    · have HU : Hid (unhexP (l.take (2 * k)) = unhexP l) := unhex_all k l (by rw [HSL.out]; exact hlt) (by rw [HSL.out]; exact hk)
      rw [HU.out] at hown
      have hcv := conv_hex hown
      rw [zOf_str] at hcv
      have hn : ¬ ((2 * k : Nat) : Int) + 1 < (s.size : Int) := by omega
      go_wp2_with fail
      go_ret
      exact ⟨rfl, hbk⟩

end Go.Proofs.YtnohnkcijomdjaaGreatDoor
