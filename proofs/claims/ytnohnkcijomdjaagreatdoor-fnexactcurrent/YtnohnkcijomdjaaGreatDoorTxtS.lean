/-
  The text of a manifest: the specification's.
-/
import Derived.Test.YtnohnkcijomdjaaGreatDoorRegK
import Derived.Test.YtnohnkcijomdjaaGreatDoorHexI
import Derived.Test.YtnohnkcijomdjaaGreatDoorManS
namespace Go.Proofs.YtnohnkcijomdjaaGreatDoor
open Go.RowKit Go.Maps
set_option linter.unusedVariables false
set_option linter.unusedSimpArgs false
set_option maxRecDepth 10000
abbrev q936_20_3_0 : Oper := ⟨some 9, .fieldAddr 24 (.tmp 1) 0, 0, "l06_manifest.go:69", #[], none⟩
abbrev q936_20_3_1 : Oper := ⟨some 10, .load 3 (.tmp 9), 3, "l06_manifest.go:69", #[⟨0, .data⟩], none⟩
abbrev q936_20_3_5 : Oper := ⟨some 14, .fieldAddr 24 (.tmp 1) 1, 0, "l06_manifest.go:69", #[], none⟩
abbrev q936_20_3_6 : Oper := ⟨some 15, .load 3 (.tmp 14), 3, "l06_manifest.go:69", #[⟨5, .data⟩], none⟩
abbrev q936_20_3_2 : Oper := ⟨some 11, .call { callee := .value (.func 40), args := #[.tmp 10], argTypes := #[3] }, 9, "l06_manifest.go:69", #[⟨1, .data⟩], none⟩
abbrev q936_20_3_3 : Oper := ⟨some 12, .binOp .add 9 (.const (.string { data := #[110, 101, 120, 116, 32] })) (.tmp 11) 9, 9, "l06_manifest.go:69", #[⟨2, .data⟩], none⟩
abbrev q936_20_3_4 : Oper := ⟨some 13, .binOp .add 9 (.tmp 12) (.const (.string { data := #[32, 108, 111, 103, 32] })) 9, 9, "l06_manifest.go:69", #[⟨3, .data⟩], none⟩
abbrev q936_20_3_7 : Oper := ⟨some 16, .call { callee := .value (.func 40), args := #[.tmp 15], argTypes := #[3] }, 9, "l06_manifest.go:69", #[⟨6, .data⟩, ⟨2, .chain⟩], none⟩
abbrev q936_20_3_8 : Oper := ⟨some 17, .binOp .add 9 (.tmp 13) (.tmp 16) 9, 9, "l06_manifest.go:69", #[⟨4, .data⟩, ⟨7, .data⟩], none⟩
abbrev q936_20_3_9 : Oper := ⟨some 18, .binOp .add 9 (.tmp 17) (.const (.string { data := #[10] })) 9, 9, "l06_manifest.go:69", #[⟨8, .data⟩], none⟩
abbrev q936_20_3_10 : Oper := ⟨some 3, .assign (.tmp 18), 9, "l06_manifest.go:69", #[⟨9, .data⟩, ⟨7, .chain⟩, ⟨0, .phase⟩, ⟨1, .phase⟩, ⟨2, .phase⟩, ⟨3, .phase⟩, ⟨4, .phase⟩, ⟨5, .phase⟩, ⟨6, .phase⟩, ⟨7, .phase⟩, ⟨8, .phase⟩, ⟨9, .phase⟩], none⟩
abbrev q936_20_8_0 : Oper := ⟨some 31, .move (.tmp 3), 9, "l06_manifest.go:72", #[], none⟩
abbrev q936_20_8_1 : Oper := ⟨some 32, .binOp .add 9 (.tmp 31) (.const (.string { data := #[116, 97, 98, 32] })) 9, 9, "l06_manifest.go:72", #[⟨0, .data⟩], none⟩
abbrev q936_20_8_2 : Oper := ⟨some 33, .fieldAddr 49 (.tmp 5) 0, 0, "l06_manifest.go:72", #[], none⟩
abbrev q936_20_8_3 : Oper := ⟨some 34, .load 3 (.tmp 33), 3, "l06_manifest.go:72", #[⟨2, .data⟩], none⟩
abbrev q936_20_8_7 : Oper := ⟨some 38, .fieldAddr 49 (.tmp 5) 1, 0, "l06_manifest.go:72", #[], none⟩
abbrev q936_20_8_8 : Oper := ⟨some 39, .load 3 (.tmp 38), 3, "l06_manifest.go:72", #[⟨7, .data⟩], none⟩
abbrev q936_20_8_12 : Oper := ⟨some 43, .fieldAddr 49 (.tmp 5) 2, 0, "l06_manifest.go:72", #[], none⟩
abbrev q936_20_8_13 : Oper := ⟨some 44, .load 9 (.tmp 43), 9, "l06_manifest.go:72", #[⟨12, .data⟩], none⟩
abbrev q936_20_8_17 : Oper := ⟨some 48, .fieldAddr 49 (.tmp 5) 3, 0, "l06_manifest.go:72", #[], none⟩
abbrev q936_20_8_18 : Oper := ⟨some 49, .load 9 (.tmp 48), 9, "l06_manifest.go:72", #[⟨17, .data⟩], none⟩
abbrev q936_20_8_4 : Oper := ⟨some 35, .call { callee := .value (.func 40), args := #[.tmp 34], argTypes := #[3] }, 9, "l06_manifest.go:72", #[⟨3, .data⟩], none⟩
abbrev q936_20_8_5 : Oper := ⟨some 36, .binOp .add 9 (.tmp 32) (.tmp 35) 9, 9, "l06_manifest.go:72", #[⟨1, .data⟩, ⟨4, .data⟩], none⟩
abbrev q936_20_8_6 : Oper := ⟨some 37, .binOp .add 9 (.tmp 36) (.const (.string { data := #[32] })) 9, 9, "l06_manifest.go:72", #[⟨5, .data⟩], none⟩
abbrev q936_20_8_9 : Oper := ⟨some 40, .call { callee := .value (.func 40), args := #[.tmp 39], argTypes := #[3] }, 9, "l06_manifest.go:72", #[⟨8, .data⟩, ⟨4, .chain⟩], none⟩
abbrev q936_20_8_10 : Oper := ⟨some 41, .binOp .add 9 (.tmp 37) (.tmp 40) 9, 9, "l06_manifest.go:72", #[⟨6, .data⟩, ⟨9, .data⟩], none⟩
abbrev q936_20_8_11 : Oper := ⟨some 42, .binOp .add 9 (.tmp 41) (.const (.string { data := #[32] })) 9, 9, "l06_manifest.go:72", #[⟨10, .data⟩], none⟩
abbrev q936_20_8_14 : Oper := ⟨some 45, .call { callee := .value (.func 41), args := #[.tmp 44], argTypes := #[9] }, 9, "l06_manifest.go:72", #[⟨13, .data⟩, ⟨9, .chain⟩], none⟩
abbrev q936_20_8_15 : Oper := ⟨some 46, .binOp .add 9 (.tmp 42) (.tmp 45) 9, 9, "l06_manifest.go:72", #[⟨11, .data⟩, ⟨14, .data⟩], none⟩
abbrev q936_20_8_16 : Oper := ⟨some 47, .binOp .add 9 (.tmp 46) (.const (.string { data := #[32] })) 9, 9, "l06_manifest.go:72", #[⟨15, .data⟩], none⟩
abbrev q936_20_8_19 : Oper := ⟨some 50, .call { callee := .value (.func 41), args := #[.tmp 49], argTypes := #[9] }, 9, "l06_manifest.go:72", #[⟨18, .data⟩, ⟨14, .chain⟩], none⟩
abbrev q936_20_8_20 : Oper := ⟨some 51, .binOp .add 9 (.tmp 47) (.tmp 50) 9, 9, "l06_manifest.go:72", #[⟨16, .data⟩, ⟨19, .data⟩], none⟩
abbrev q936_20_8_21 : Oper := ⟨some 52, .binOp .add 9 (.tmp 51) (.const (.string { data := #[10] })) 9, 9, "l06_manifest.go:72", #[⟨20, .data⟩], none⟩
abbrev q936_20_8_22 : Oper := ⟨some 3, .assign (.tmp 52), 9, "l06_manifest.go:72", #[⟨21, .data⟩, ⟨19, .chain⟩, ⟨0, .phase⟩, ⟨1, .phase⟩, ⟨2, .phase⟩, ⟨3, .phase⟩, ⟨4, .phase⟩, ⟨5, .phase⟩, ⟨6, .phase⟩, ⟨7, .phase⟩, ⟨8, .phase⟩, ⟨9, .phase⟩, ⟨10, .phase⟩, ⟨11, .phase⟩, ⟨12, .phase⟩, ⟨13, .phase⟩, ⟨14, .phase⟩, ⟨15, .phase⟩, ⟨16, .phase⟩, ⟨17, .phase⟩, ⟨18, .phase⟩, ⟨19, .phase⟩, ⟨20, .phase⟩, ⟨21, .phase⟩], none⟩

theorem conv_one (w : World) (x : Int) : (convert 60 9 (.slice (some ⟨w.heap.size, 0, none⟩) 1 1)).run Tryz.prog (w.alloc (.cells #[.int .u8 x] 5)) = .ok (.string (strOfNums [x])) (w.alloc (.cells #[.int .u8 x] 5)) :=
  run_convert_bytes_arg _ 60 5 Tryz.underlying60 Tryz.underlying5 w.heap.size 0 1 1 [x] rfl (fun i hi => by
    have h0 : i = 0 := by omega
    subst h0
    simp) 9 Tryz.underlying9
theorem conv_cell {w : World} {g : Nat} {x : Int} (h : w.cell? ⟨g, 0, none⟩ = some (.int .u8 x)) : (convert 60 9 (.slice (some ⟨g, 0, none⟩) 1 1)).run Tryz.prog w = .ok (.string (strOfNums [x])) w :=
  run_convert_bytes_arg _ 60 5 Tryz.underlying60 Tryz.underlying5 g 0 1 1 [x] rfl (fun i hi => by
    have h0 : i = 0 := by omega
    subst h0
    simpa using h) 9 Tryz.underlying9
theorem str_one {x : Int} : strOfNums [x] = strB [UInt8.ofNat x.toNat] := rfl

set_option maxHeartbeats 2000000 in
theorem l6Text_any : ∀ (f : Nat) (n : Int) (w : World), 0 ≤ n → n.toNat < f → n ≤ 100000 →
    Calls Tryz.prog 40 #[.int .i64 n] w fun e w' => e = .returned (.string (strB (decD n))) ∧ Below w.heap.size w w'
  | 0, n, w, h0, h1, h2 => by omega
  | f + 1, n, w, h0, h1, h2 => by
    by_cases hlt : n < 10
    · have HV : Hid (strOfNums [48 + n] = strB (decD n)) := by show _ = _; rw [str_one, decD_small h0 hlt]; congr 3; omega
      have hcv := conv_one w (48 + n)
      have hw1 : IntKind.u8.wrap (48 + n) = 48 + n := by rw [IntKind.wrap_u8]; omega
      rw [HV.out] at hcv
      go_enter Tryz.func40, Tryz.ntmps40
      go_wp2_with fail
      go_ret
      exact ⟨rfl, (Below.refl _ _).alloc (Nat.le_refl _) _⟩
    · have ih := fun W => l6Text_any f (n / 10) W (by omega) (by omega) (by omega)
      have hd := decD_len (n := n / 10) (by omega)
      have HV : Hid (strB (decD (n / 10)) ++ strOfNums [48 + n % 10] = strB (decD n)) := by
        show _ = _
        rw [str_one, strB_app, decD_big (n := n) (by omega), show (48 + n % 10).toNat = 48 + (n % 10).toNat by omega]
      have hz1 : (strB (decD (n / 10))).size ≤ 100001 := by rw [strB_size]; exact hd
      have hz2 : (strOfNums [48 + n % 10]).size = 1 := strOfNums_size _
      have hcv := fun (W : World) (g : Nat) (h : W.cell? ⟨g, 0, none⟩ = some (.int .u8 (48 + n % 10))) => conv_cell h
      have e1 : n.tdiv 10 = n / 10 := Int.tdiv_eq_ediv_of_nonneg h0
      have e2 : n.tmod 10 = n % 10 := Int.tmod_eq_emod_of_nonneg h0
      have hw0 : IntKind.i64.wrap (n / 10) = n / 10 := by rw [IntKind.wrap_i64]; omega
      have hw3 : IntKind.i64.wrap (n % 10) = n % 10 := by rw [IntKind.wrap_i64]; omega
      have hw4 : IntKind.i64.wrap (48 + n % 10) = 48 + n % 10 := by rw [IntKind.wrap_i64]; omega
      have hw1 : IntKind.u8.wrap (48 + n % 10) = 48 + n % 10 := by rw [IntKind.wrap_u8]; omega
      generalize strB (decD (n / 10)) = s1 at *
      generalize strOfNums [48 + n % 10] = s2 at *
      go_enter Tryz.func40, Tryz.ntmps40
      go_wp2_with fail
      go_region_with (go_at_call 40; refine (ih _).mono ?_; rintro e w1 ⟨rfl, hx1⟩; have hc1 := fun hs => hx1.cell (p := ⟨w.heap.size, 0, none⟩) hs)
      all_goals
        have hx2 := Hid.mk hx1
        clear hx1 hc1 hcv ih
        go_wp2_with fail
        go_ret
        refine ⟨by rw [HV.out]; rfl, ?_⟩
        have hx1 := hx2.out
        first | exact bthen (Below.drew (Below.refl _ _)) (hx1.alloc hx1.size _) | exact Below.alloc (bthen (Below.drew (Below.refl _ _)) hx1) hx1.size _ | exact bthen ((Below.refl _ _).alloc (Nat.le_refl _) _) hx1 | exact bthen (Below.drew ((Below.refl _ _).alloc (Nat.le_refl _) _)) hx1

theorem lit_strB (l : List UInt8) : (⟨l.toArray⟩ : ByteArray) = strB l := rfl

set_option maxHeartbeats 8000000 in
theorem specManText_c (cs : List Value) (m : MManifest) (w : World) (hr : rManifest w.heap.size w cs m) (hw : wManifest m ≤ 1048576) :
    Calls Tryz.prog 20 #[.agg cs.toArray] w fun e w' => e = .returned (.string (manTextP m)) ∧ Below w.heap.size w w' := by
  have HRD := Hid.mk hr
  have HWW := Hid.mk hw
  obtain ⟨a0, c0, rfl, hwf0, hwf1, hL, _⟩ := hr
  have HL := Hid.mk hL
  obtain ⟨l, hl⟩ : ∃ l, l = m.fTables := ⟨_, rfl⟩
  obtain ⟨n, hx⟩ : ∃ n, n = l.length := ⟨_, rfl⟩
  have hn : n ≤ 1048576 := by have h : m.fTables.length + sumW wMeta m.fTables ≤ 1048576 := hw; rw [hx, hl]; omega
  have HSW : Hid (sumW wMeta l ≤ 1048576) := by show _ ≤ _; have h : m.fTables.length + sumW wMeta m.fTables ≤ 1048576 := hw; rw [hl]; omega
  have HLM := Hid.mk hl
  rw [← hl] at HL ⊢
  have HRD2 : Hid (rManifest w.heap.size w [.int .i64 m.fNext, .int .i64 m.fLog, .slice a0 n c0] m) := by have h := HRD.out; rw [← hl, ← hx] at h; exact h
  rw [← hx]
  have HX := Hid.mk hx.symm
  clear hL hw hl hx hwf0 hwf1 HRD
  go_enter Tryz.func20, Tryz.ntmps20
  obtain ⟨wq, hwq⟩ : ∃ wq, wq = w.alloc (.cells #[.int .i64 m.fNext, .int .i64 m.fLog, .slice a0 n c0] 24) := ⟨_, rfl⟩
  have hbq : Below w.heap.size w wq := by rw [hwq]; exact (Below.refl _ _).alloc (Nat.le_refl _) _
  have hbx : Bx wq w.heap.size [.int .i64 m.fNext, .int .i64 m.fLog, .slice a0 n c0] := by rw [hwq]; exact Bx.new _ _ _
  have y0 := hbx.2 0 _ rfl
  have y1 := hbx.2 1 _ rfl
  have y2 := hbx.2 2 _ rfl
  have hz := hbx.1
  go_wp2_with (rw [← hwq])
  refine (specManOk_c [.int .i64 m.fNext, .int .i64 m.fLog, .slice a0 n c0] m wq (rManifest_good.mono (rManifest_good.below HRD2.out hbq) hbq.size) HWW.out).mono ?_
  rintro e wm ⟨rfl, hxm⟩
  have hb1 := bthen hbq hxm
  by_cases hok : manOkP m = true
  rotate_left
  · have hokf := Bool.eq_false_iff.2 hok
    have HD := Hid.mk (manTextP_no hokf)
    rw [hokf]
    go_wp2_with fail
    go_ret
    exact ⟨by rw [HD.out]; rfl, hb1⟩
  have HF := Hid.mk (manOkP_facts hok)
  have HD := Hid.mk (manTextP_yes hok)
  rw [hok]
  obtain ⟨HT, HHT⟩ : ∃ x : List UInt8, Hid (x = headT m ++ [10]) := ⟨_, Hid.mk rfl⟩
  have HD2 : Hid (manTextP m = strB (HT ++ linesT l ++ [101, 110, 100, 10])) := by show _ = _; rw [HD.out, HHT.out, HLM.out]; apply strB_inj; simp [manTextL, endW]
  have hhl : HT.length ≤ 300001 := by rw [HHT.out, List.length_append]; have h := headT_len HF.out; simp; omega
  have hn20 : n ≤ 20 := by rw [← HX.out, HLM.out]; exact HF.out.len
  have hnx0 : 0 ≤ m.fNext := by have := HF.out.nx0; omega
  have hnx1 : m.fNext ≤ 100000 := HF.out.nx1
  have hlg0 : 0 ≤ m.fLog := HF.out.lg0
  have hlg1 : m.fLog ≤ 100000 := by have := HF.out.lg1; omega
  have hE : Hid (∀ t, t ∈ l → MetaOk m.fNext t) := by rw [HLM.out]; exact HF.out.each
  have q0 : ∀ W, Below wm.heap.size wm W → W.cell? ⟨w.heap.size, 0, none⟩ = some (.int .i64 m.fNext) := fun W hb => ((hbx.under hxm).under hb).2 0 _ rfl
  have q1 : ∀ W, Below wm.heap.size wm W → W.cell? ⟨w.heap.size, 1, none⟩ = some (.int .i64 m.fLog) := fun W hb => ((hbx.under hxm).under hb).2 1 _ rfl
  have q2 : ∀ W, Below wm.heap.size wm W → W.cell? ⟨w.heap.size, 2, none⟩ = some (.slice a0 n c0) := fun W hb => ((hbx.under hxm).under hb).2 2 _ rfl
  have hC1 := fun W => l6Text_any (m.fNext.toNat + 1) m.fNext W hnx0 (by omega) hnx1
  have hC2 := fun W => l6Text_any (m.fLog.toNat + 1) m.fLog W hlg0 (by omega) hlg1
  obtain ⟨d1, HD1⟩ : ∃ d, Hid (d = strB (decD m.fNext)) := ⟨_, rfl⟩
  obtain ⟨d2, HD3⟩ : ∃ d, Hid (d = strB (decD m.fLog)) := ⟨_, rfl⟩
  have hd1 : d1.size ≤ 100001 := by rw [HD1.out, strB_size]; exact decD_len hnx1
  have hd2 : d2.size ≤ 100001 := by rw [HD3.out, strB_size]; exact decD_len hlg1
  rw [← HD1.out] at hC1
  rw [← HD3.out] at hC2
  have HH : Hid ((⟨#[110, 101, 120, 116, 32]⟩ : ByteArray) ++ d1 ++ ⟨#[32, 108, 111, 103, 32]⟩ ++ d2 ++ ⟨#[10]⟩ = strB HT) := by
    show _ = _
    rw [HD1.out, HD3.out, HHT.out, show (⟨#[110, 101, 120, 116, 32]⟩ : ByteArray) = strB nextW from rfl, show (⟨#[32, 108, 111, 103, 32]⟩ : ByteArray) = strB logW from rfl, show (⟨#[10]⟩ : ByteArray) = strB [10] from rfl]
    simp only [strB_app, headT]
  clear HF HD HHT hok y0 y1 y2 hwq
  have n1 : (9223372036854775807 < 5 + d1.size) = False := eq_false (by omega)
  have n2 : (9223372036854775807 < 5 + d1.size + 5) = False := eq_false (by omega)
  have n3 : (9223372036854775807 < 5 + d1.size + 5 + d2.size) = False := eq_false (by omega)
  have n4 : (9223372036854775807 < 5 + d1.size + 5 + d2.size + 1) = False := eq_false (by omega)
  go_wp2_with fail
  refine wp_region_held_drew (S := fun W => Below wm.heap.size wm W) (by kernel_rfl) (Below.drew (Below.refl _ _)) (fun hHeld => ?_)
  refine tk 0 q936_20_3_0 (some 9) (v := ?v1) rfl rfl (by kernel_rfl) hHeld (by rfl) (fun _ _ _ x => x) (fun w h => ?y1) ?_; (case y1 => (try dsimp only at h); go_simp; try (with_reducible rfl)); try simp only [Act.put, sa, s0, s1]
  refine tk 1 q936_20_3_1 (some 10) (v := ?v2) rfl rfl (by kernel_rfl) hHeld (by rfl) (fun _ _ _ x => x) (fun w h => ?y2) ?_; (case y2 => (try dsimp only at h); go_simp; try (with_reducible rfl)); try simp only [Act.put, sa, s0, s1]
  refine tk 5 q936_20_3_5 (some 14) (v := ?v3) rfl rfl (by kernel_rfl) hHeld (by rfl) (fun _ _ _ x => x) (fun w h => ?y3) ?_; (case y3 => (try dsimp only at h); go_simp; try (with_reducible rfl)); try simp only [Act.put, sa, s0, s1]
  refine tk 6 q936_20_3_6 (some 15) (v := ?v4) rfl rfl (by kernel_rfl) hHeld (by rfl) (fun _ _ _ x => x) (fun w h => ?y4) ?_; (case y4 => (try dsimp only at h); go_simp; try (with_reducible rfl)); try simp only [Act.put, sa, s0, s1]
  refine wpAnyH_ready (rs := [2]) (by kernel_rfl) (by simp) ?_
  refine AllReadyH.cons (o := q936_20_3_2) rfl (fun K hK => ?_) AllReadyH.nil
  go_simp
  refine Calls.mono (hC1 _) ?_
  rintro e w1 ⟨rfl, hx1⟩
  go_wp2_with fail
  refine hK.out _ _ (bthen hHeld hx1) (fun hHeld => ?_)
  clear hK K
  try simp only [Act.put, sa, s0, s1]
  refine tk 3 q936_20_3_3 (some 12) (v := ?v5) rfl rfl (by kernel_rfl) hHeld (by rfl) (fun _ _ _ x => x) (fun w h => ?y5) ?_; (case y5 => (try dsimp only at h); go_simp; try (with_reducible rfl)); try simp only [Act.put, sa, s0, s1]
  refine tk 4 q936_20_3_4 (some 13) (v := ?v6) rfl rfl (by kernel_rfl) hHeld (by rfl) (fun _ _ _ x => x) (fun w h => ?y6) ?_; (case y6 => (try dsimp only at h); go_simp; try (with_reducible rfl)); try simp only [Act.put, sa, s0, s1]
  refine wpAnyH_ready (rs := [7]) (by kernel_rfl) (by simp) ?_
  refine AllReadyH.cons (o := q936_20_3_7) rfl (fun K hK => ?_) AllReadyH.nil
  go_simp
  refine Calls.mono (hC2 _) ?_
  rintro e w2 ⟨rfl, hx2⟩
  go_wp2_with fail
  refine hK.out _ _ (bthen hHeld hx2) (fun hHeld => ?_)
  clear hK K
  try simp only [Act.put, sa, s0, s1]
  refine tk 8 q936_20_3_8 (some 17) (v := ?v7) rfl rfl (by kernel_rfl) hHeld (by rfl) (fun _ _ _ x => x) (fun w h => ?y7) ?_; (case y7 => (try dsimp only at h); go_simp; try (with_reducible rfl)); try simp only [Act.put, sa, s0, s1]
  refine tk 9 q936_20_3_9 (some 18) (v := ?v8) rfl rfl (by kernel_rfl) hHeld (by rfl) (fun _ _ _ x => x) (fun w h => ?y8) ?_; (case y8 => (try dsimp only at h); go_simp; try (with_reducible rfl)); try simp only [Act.put, sa, s0, s1]
  refine tk 10 q936_20_3_10 (some 3) (v := ?v9) rfl rfl (by kernel_rfl) hHeld (by rfl) (fun _ _ _ x => x) (fun w h => ?y9) ?_; (case y9 => (try dsimp only at h); go_simp; try (with_reducible rfl)); try simp only [Act.put, sa, s0, s1]
  refine wpAnyH_done (by kernel_rfl) ?_ _
  rw [HH.out]
  clear HH n1 n2 n3 n4 hC1 hC2
  go_wp2_with fail
  obtain ⟨wa, hwa⟩ : ∃ x, x = w2 := ⟨_, rfl⟩
  have hba : Below wm.heap.size wm wa := by rw [hwa]; exact hHeld
  rw [← hwa]
  clear hHeld hwa
  go_loopw [3, 4] (fun v i wr => ∃ k : Nat, k ≤ n ∧ i = .int .i64 k ∧ v = .string (strB (HT ++ linesT (l.take k))) ∧ Below wm.heap.size wm wr) (fun _ i _ => n - (intOf i).toNat)
  case atStart => exact ⟨0, Nat.zero_le _, rfl, by simp [linesT], hba⟩
  case round =>
    obtain ⟨k, hk, rfl, rfl, hbk⟩ := hrel
    have hbw := bthen hb1 hbk
    have hbz := hbw.size
    have y2 := q2 _ hbk
    have hlr : w.heap.size < wr.heap.size := Nat.lt_of_lt_of_le hz (Nat.le_trans hxm.size hbk.size)
    have hcl : (linesT (l.take k)).length ≤ 20 * 300001 := by
      have h := linesT_len (l := l.take k) (fun t ht => hE.out t (List.mem_of_mem_take ht)) hnx1
      have h2 : (l.take k).length ≤ 20 := by rw [List.length_take]; omega
      exact Nat.le_trans h (Nat.mul_le_mul_right _ h2)
    have hcu : (strB (HT ++ linesT (l.take k))).size ≤ 6300021 := by rw [strB_size, List.length_append]; omega
    by_cases hlt : k < n
    · have hkl : k < l.length := by rw [HX.out]; exact hlt
      obtain ⟨b1, o1, rfl, hB, cs, hcl, hcell, rfl, g0, g1, g2, g3, _⟩ := (HL.out.2.2.below rMeta_good hbw) k hkl
      have hB' : b1 < wr.heap.size := by omega
      have k0 := hcell 0 _ rfl
      have k1 := hcell 1 _ rfl
      have k2 := hcell 2 _ rfl
      have k3 := hcell 3 _ rfl
      rw [Nat.add_zero] at k0
      have hM := hE.out l[k] (List.getElem_mem hkl)
      have HLT := Hid.mk (linesT_take hkl)
      obtain ⟨x, hxk⟩ : ∃ x, x = l[k] := ⟨_, rfl⟩
      rw [← hxk] at k0 k1 k2 k3 g0 g1 g2 g3 HLT hM
      clear hcell hcl hxk
      obtain ⟨wp, hwp⟩ : ∃ wp, wp = wr.alloc (.cells #[.int .i64 x.fNo, .int .i64 x.fLevel, .string x.fLo, .string x.fHi] 49) := ⟨_, rfl⟩
      have hbp : Below wr.heap.size wr wp := by rw [hwp]; exact (Below.refl _ _).alloc (Nat.le_refl _) _
      have hbxp : Bx wp wr.heap.size [.int .i64 x.fNo, .int .i64 x.fLevel, .string x.fLo, .string x.fHi] := by rw [hwp]; exact Bx.new _ _ _
      have hbkp := bthen hbk hbp
      have p0 : ∀ W, Below wp.heap.size wp W → W.cell? ⟨wr.heap.size, 0, none⟩ = some (.int .i64 x.fNo) := fun W hb => (hbxp.under hb).2 0 _ rfl
      have p1 : ∀ W, Below wp.heap.size wp W → W.cell? ⟨wr.heap.size, 1, none⟩ = some (.int .i64 x.fLevel) := fun W hb => (hbxp.under hb).2 1 _ rfl
      have p2 : ∀ W, Below wp.heap.size wp W → W.cell? ⟨wr.heap.size, 2, none⟩ = some (.string x.fLo) := fun W hb => (hbxp.under hb).2 2 _ rfl
      have p3 : ∀ W, Below wp.heap.size wp W → W.cell? ⟨wr.heap.size, 3, none⟩ = some (.string x.fHi) := fun W hb => (hbxp.under hb).2 3 _ rfl
      have hno1 : x.fNo ≤ 100000 := by have := hM.no1; omega
      have hlv1 : x.fLevel ≤ 100000 := by have := hM.lv1; omega
      have hno0 : 0 ≤ x.fNo := by have := hM.no0; omega
      have hC1 := fun W => l6Text_any (x.fNo.toNat + 1) x.fNo W hno0 (by omega) hno1
      have hC2 := fun W => l6Text_any (x.fLevel.toNat + 1) x.fLevel W hM.lv0 (by omega) hlv1
      have hC3 := fun W => l6Hex_any x.fLo W (Nat.le_trans hM.lo (by omega))
      have hC4 := fun W => l6Hex_any x.fHi W (Nat.le_trans hM.hi (by omega))
      obtain ⟨d1, HD1⟩ : ∃ d, Hid (d = strB (decD x.fNo)) := ⟨_, Hid.mk rfl⟩
      obtain ⟨d2, HD3⟩ : ∃ d, Hid (d = strB (decD x.fLevel)) := ⟨_, Hid.mk rfl⟩
      obtain ⟨d3, HD4⟩ : ∃ d, Hid (d = strB (hexT x.fLo)) := ⟨_, Hid.mk rfl⟩
      obtain ⟨d4, HD5⟩ : ∃ d, Hid (d = strB (hexT x.fHi)) := ⟨_, Hid.mk rfl⟩
      have hd1 : d1.size ≤ 100001 := by rw [HD1.out, strB_size]; exact decD_len hno1
      have hd2 : d2.size ≤ 100001 := by rw [HD3.out, strB_size]; exact decD_len hlv1
      have hd3 : d3.size ≤ 40 := by rw [HD4.out, strB_size, hexT_len]; have := hM.lo; omega
      have hd4 : d4.size ≤ 40 := by rw [HD5.out, strB_size, hexT_len]; have := hM.hi; omega
      rw [← HD1.out] at hC1
      rw [← HD3.out] at hC2
      rw [← HD4.out] at hC3
      rw [← HD5.out] at hC4
      obtain ⟨cu, HCU⟩ : ∃ c, Hid (c = strB (HT ++ linesT (l.take k))) := ⟨_, Hid.mk rfl⟩
      have HE : Hid (cu ++ (⟨#[116, 97, 98, 32]⟩ : ByteArray) ++ d1 ++ ⟨#[32]⟩ ++ d2 ++ ⟨#[32]⟩ ++ d3 ++ ⟨#[32]⟩ ++ d4 ++ ⟨#[10]⟩ = strB (HT ++ linesT (l.take (k + 1)))) := by
        show _ = _
        rw [HCU.out, HLT.out, HD1.out, HD3.out, HD4.out, HD5.out, show (⟨#[116, 97, 98, 32]⟩ : ByteArray) = strB [116, 97, 98, 32] from rfl, show (⟨#[32]⟩ : ByteArray) = strB [32] from rfl, show (⟨#[10]⟩ : ByteArray) = strB [10] from rfl]
        simp only [strB_app]
        apply strB_inj
        simp [lineT, tabW]
      rw [← HCU.out] at hcu ⊢
      have n1 : (9223372036854775807 < cu.size + 4) = False := eq_false (by omega)
      have n2 : (9223372036854775807 < cu.size + 4 + d1.size) = False := eq_false (by omega)
      have n3 : (9223372036854775807 < cu.size + 4 + d1.size + 1) = False := eq_false (by omega)
      have n4 : (9223372036854775807 < cu.size + 4 + d1.size + 1 + d2.size) = False := eq_false (by omega)
      have n5 : (9223372036854775807 < cu.size + 4 + d1.size + 1 + d2.size + 1) = False := eq_false (by omega)
      have n6 : (9223372036854775807 < cu.size + 4 + d1.size + 1 + d2.size + 1 + d3.size) = False := eq_false (by omega)
      have n7 : (9223372036854775807 < cu.size + 4 + d1.size + 1 + d2.size + 1 + d3.size + 1) = False := eq_false (by omega)
      have n8 : (9223372036854775807 < cu.size + 4 + d1.size + 1 + d2.size + 1 + d3.size + 1 + d4.size) = False := eq_false (by omega)
      have n9 : (9223372036854775807 < cu.size + 4 + d1.size + 1 + d2.size + 1 + d3.size + 1 + d4.size + 1) = False := eq_false (by omega)
      clear hM HLT HD1 HD3 HD4 HD5 HCU
      go_wp2_with fail
      rw [← hwp]
      clear hwp
      refine wp_region_held_drew (S := fun W => Below wp.heap.size wp W) (by kernel_rfl) (Below.drew (Below.refl _ _)) (fun hHeld => ?_)
      refine tk 0 q936_20_8_0 (some 31) (v := ?v10) rfl rfl (by kernel_rfl) hHeld (by rfl) (fun _ _ _ x => x) (fun w h => ?y10) ?_; (case y10 => (try dsimp only at h); go_simp; try (with_reducible rfl)); try simp only [Act.put, sa, s0, s1]
      refine tk 1 q936_20_8_1 (some 32) (v := ?v11) rfl rfl (by kernel_rfl) hHeld (by rfl) (fun _ _ _ x => x) (fun w h => ?y11) ?_; (case y11 => (try dsimp only at h); go_simp; try (with_reducible rfl)); try simp only [Act.put, sa, s0, s1]
      refine tk 2 q936_20_8_2 (some 33) (v := ?v12) rfl rfl (by kernel_rfl) hHeld (by rfl) (fun _ _ _ x => x) (fun w h => ?y12) ?_; (case y12 => (try dsimp only at h); go_simp; try (with_reducible rfl)); try simp only [Act.put, sa, s0, s1]
      refine tk 3 q936_20_8_3 (some 34) (v := ?v13) rfl rfl (by kernel_rfl) hHeld (by rfl) (fun _ _ _ x => x) (fun w h => ?y13) ?_; (case y13 => (try dsimp only at h); go_simp; try (with_reducible rfl)); try simp only [Act.put, sa, s0, s1]
      refine tk 7 q936_20_8_7 (some 38) (v := ?v14) rfl rfl (by kernel_rfl) hHeld (by rfl) (fun _ _ _ x => x) (fun w h => ?y14) ?_; (case y14 => (try dsimp only at h); go_simp; try (with_reducible rfl)); try simp only [Act.put, sa, s0, s1]
      refine tk 8 q936_20_8_8 (some 39) (v := ?v15) rfl rfl (by kernel_rfl) hHeld (by rfl) (fun _ _ _ x => x) (fun w h => ?y15) ?_; (case y15 => (try dsimp only at h); go_simp; try (with_reducible rfl)); try simp only [Act.put, sa, s0, s1]
      refine tk 12 q936_20_8_12 (some 43) (v := ?v16) rfl rfl (by kernel_rfl) hHeld (by rfl) (fun _ _ _ x => x) (fun w h => ?y16) ?_; (case y16 => (try dsimp only at h); go_simp; try (with_reducible rfl)); try simp only [Act.put, sa, s0, s1]
      refine tk 13 q936_20_8_13 (some 44) (v := ?v17) rfl rfl (by kernel_rfl) hHeld (by rfl) (fun _ _ _ x => x) (fun w h => ?y17) ?_; (case y17 => (try dsimp only at h); go_simp; try (with_reducible rfl)); try simp only [Act.put, sa, s0, s1]
      refine tk 17 q936_20_8_17 (some 48) (v := ?v18) rfl rfl (by kernel_rfl) hHeld (by rfl) (fun _ _ _ x => x) (fun w h => ?y18) ?_; (case y18 => (try dsimp only at h); go_simp; try (with_reducible rfl)); try simp only [Act.put, sa, s0, s1]
      refine tk 18 q936_20_8_18 (some 49) (v := ?v19) rfl rfl (by kernel_rfl) hHeld (by rfl) (fun _ _ _ x => x) (fun w h => ?y19) ?_; (case y19 => (try dsimp only at h); go_simp; try (with_reducible rfl)); try simp only [Act.put, sa, s0, s1]
      refine wpAnyH_ready (rs := [4]) (by kernel_rfl) (by simp) ?_
      refine AllReadyH.cons (o := q936_20_8_4) rfl (fun K hK => ?_) AllReadyH.nil
      go_simp
      refine Calls.mono (hC1 _) ?_
      rintro e w1 ⟨rfl, hx1⟩
      go_wp2_with fail
      refine hK.out _ _ (bthen hHeld hx1) (fun hHeld => ?_)
      clear hK K
      try simp only [Act.put, sa, s0, s1]
      refine tk 5 q936_20_8_5 (some 36) (v := ?v20) rfl rfl (by kernel_rfl) hHeld (by rfl) (fun _ _ _ x => x) (fun w h => ?y20) ?_; (case y20 => (try dsimp only at h); go_simp; try (with_reducible rfl)); try simp only [Act.put, sa, s0, s1]
      refine tk 6 q936_20_8_6 (some 37) (v := ?v21) rfl rfl (by kernel_rfl) hHeld (by rfl) (fun _ _ _ x => x) (fun w h => ?y21) ?_; (case y21 => (try dsimp only at h); go_simp; try (with_reducible rfl)); try simp only [Act.put, sa, s0, s1]
      refine wpAnyH_ready (rs := [9]) (by kernel_rfl) (by simp) ?_
      refine AllReadyH.cons (o := q936_20_8_9) rfl (fun K hK => ?_) AllReadyH.nil
      go_simp
      refine Calls.mono (hC2 _) ?_
      rintro e w2 ⟨rfl, hx2⟩
      go_wp2_with fail
      refine hK.out _ _ (bthen hHeld hx2) (fun hHeld => ?_)
      clear hK K
      try simp only [Act.put, sa, s0, s1]
      refine tk 10 q936_20_8_10 (some 41) (v := ?v22) rfl rfl (by kernel_rfl) hHeld (by rfl) (fun _ _ _ x => x) (fun w h => ?y22) ?_; (case y22 => (try dsimp only at h); go_simp; try (with_reducible rfl)); try simp only [Act.put, sa, s0, s1]
      refine tk 11 q936_20_8_11 (some 42) (v := ?v23) rfl rfl (by kernel_rfl) hHeld (by rfl) (fun _ _ _ x => x) (fun w h => ?y23) ?_; (case y23 => (try dsimp only at h); go_simp; try (with_reducible rfl)); try simp only [Act.put, sa, s0, s1]
      refine wpAnyH_ready (rs := [14]) (by kernel_rfl) (by simp) ?_
      refine AllReadyH.cons (o := q936_20_8_14) rfl (fun K hK => ?_) AllReadyH.nil
      go_simp
      refine Calls.mono (hC3 _) ?_
      rintro e w3 ⟨rfl, hx3⟩
      go_wp2_with fail
      refine hK.out _ _ (bthen hHeld hx3) (fun hHeld => ?_)
      clear hK K
      try simp only [Act.put, sa, s0, s1]
      refine tk 15 q936_20_8_15 (some 46) (v := ?v24) rfl rfl (by kernel_rfl) hHeld (by rfl) (fun _ _ _ x => x) (fun w h => ?y24) ?_; (case y24 => (try dsimp only at h); go_simp; try (with_reducible rfl)); try simp only [Act.put, sa, s0, s1]
      refine tk 16 q936_20_8_16 (some 47) (v := ?v25) rfl rfl (by kernel_rfl) hHeld (by rfl) (fun _ _ _ x => x) (fun w h => ?y25) ?_; (case y25 => (try dsimp only at h); go_simp; try (with_reducible rfl)); try simp only [Act.put, sa, s0, s1]
      refine wpAnyH_ready (rs := [19]) (by kernel_rfl) (by simp) ?_
      refine AllReadyH.cons (o := q936_20_8_19) rfl (fun K hK => ?_) AllReadyH.nil
      go_simp
      refine Calls.mono (hC4 _) ?_
      rintro e w4 ⟨rfl, hx4⟩
      go_wp2_with fail
      refine hK.out _ _ (bthen hHeld hx4) (fun hHeld => ?_)
      clear hK K
      try simp only [Act.put, sa, s0, s1]
      refine tk 20 q936_20_8_20 (some 51) (v := ?v26) rfl rfl (by kernel_rfl) hHeld (by rfl) (fun _ _ _ x => x) (fun w h => ?y26) ?_; (case y26 => (try dsimp only at h); go_simp; try (with_reducible rfl)); try simp only [Act.put, sa, s0, s1]
      refine tk 21 q936_20_8_21 (some 52) (v := ?v27) rfl rfl (by kernel_rfl) hHeld (by rfl) (fun _ _ _ x => x) (fun w h => ?y27) ?_; (case y27 => (try dsimp only at h); go_simp; try (with_reducible rfl)); try simp only [Act.put, sa, s0, s1]
      refine tk 22 q936_20_8_22 (some 3) (v := ?v28) rfl rfl (by kernel_rfl) hHeld (by rfl) (fun _ _ _ x => x) (fun w h => ?y28) ?_; (case y28 => (try dsimp only at h); go_simp; try (with_reducible rfl)); try simp only [Act.put, sa, s0, s1]
      refine wpAnyH_done (by kernel_rfl) ?_ _
      rw [HE.out]
      clear HE n1 n2 n3 n4 n5 n6 n7 n8 n9 hC1 hC2 hC3 hC4
      go_wp2_with fail
      go_roundw
      case rel => exact ⟨k + 1, by omega, by go_num, rfl, bthen hbkp hHeld⟩
      case measure => simp [intOf]; omega
    · have HT1 : Hid (l.take k = l) := List.take_of_length_le (by rw [HX.out]; omega)
      have HE : Hid (strB (HT ++ linesT (l.take k)) ++ (⟨#[101, 110, 100, 10]⟩ : ByteArray) = manTextP m) := by
        show _ = _
        rw [HT1.out, HD2.out, show (⟨#[101, 110, 100, 10]⟩ : ByteArray) = strB [101, 110, 100, 10] from rfl, strB_app]
      have n1 : (9223372036854775807 < (strB (HT ++ linesT (l.take k))).size + 4) = False := eq_false (by omega)
      generalize strB (HT ++ linesT (l.take k)) = cu at *
      go_wp2_with fail
      go_ret
      exact ⟨by rw [HE.out]; rfl, hbw⟩

end Go.Proofs.YtnohnkcijomdjaaGreatDoor
