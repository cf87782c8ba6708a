/-
  Part 7 of the texts that the proof leans on.
-/
import Derived.Test.YtnohnkcijomdjaaGreatDoorCur2
import Derived.Test.YtnohnkcijomdjaaGreatDoorCur3
import Derived.Test.YtnohnkcijomdjaaGreatDoorCur4
import Derived.Test.YtnohnkcijomdjaaGreatDoorCur5
import Derived.Lib.LaidTab
import Derived.Lib.AppendIntMem
import Derived.WalkSmall
set_option linter.unusedVariables false
set_option linter.unusedSimpArgs false
set_option maxRecDepth 10000

namespace Go.Proofs.YtnohnkcijomdjaaGreatDoor
open Go.RowKit Go.Maps Go.Shelf
abbrev qbbe_50_1_0 : Oper := ⟨some 3, .fieldAddr 49 (.tmp 1) 0, 0, "l06_manifest.go:90", #[], none⟩
abbrev qbbe_50_1_1 : Oper := ⟨some 4, .load 3 (.tmp 3), 3, "l06_manifest.go:90", #[⟨0, .data⟩], none⟩
abbrev qbbe_50_1_3 : Oper := ⟨some 6, .fieldAddr 49 (.tmp 1) 1, 0, "l06_manifest.go:90", #[], none⟩
abbrev qbbe_50_1_4 : Oper := ⟨some 7, .load 3 (.tmp 6), 3, "l06_manifest.go:90", #[⟨3, .data⟩], none⟩
abbrev qbbe_50_1_6 : Oper := ⟨some 9, .fieldAddr 49 (.tmp 1) 2, 0, "l06_manifest.go:90", #[], none⟩
abbrev qbbe_50_1_7 : Oper := ⟨some 10, .load 9 (.tmp 9), 9, "l06_manifest.go:90", #[⟨6, .data⟩], none⟩
abbrev qbbe_50_1_9 : Oper := ⟨some 12, .fieldAddr 49 (.tmp 1) 3, 0, "l06_manifest.go:90", #[], none⟩
abbrev qbbe_50_1_10 : Oper := ⟨some 13, .load 9 (.tmp 12), 9, "l06_manifest.go:90", #[⟨9, .data⟩], none⟩
abbrev qbbe_50_1_2 : Oper := ⟨some 5, .call { callee := .value (.func 49), args := #[.tmp 4], argTypes := #[3] }, 9, "l06_manifest.go:90", #[⟨1, .data⟩], none⟩
abbrev qbbe_50_1_5 : Oper := ⟨some 8, .call { callee := .value (.func 49), args := #[.tmp 7], argTypes := #[3] }, 9, "l06_manifest.go:90", #[⟨4, .data⟩, ⟨2, .chain⟩], none⟩
abbrev qbbe_50_1_8 : Oper := ⟨some 11, .call { callee := .value (.func 74), args := #[.tmp 10], argTypes := #[9] }, 9, "l06_manifest.go:90", #[⟨7, .data⟩, ⟨5, .chain⟩], none⟩
abbrev qbbe_50_1_11 : Oper := ⟨some 14, .call { callee := .value (.func 74), args := #[.tmp 13], argTypes := #[9] }, 9, "l06_manifest.go:90", #[⟨10, .data⟩, ⟨8, .chain⟩], none⟩
abbrev qbbe_50_1_12 : Oper := ⟨some 15, .buildSlice 44 5 #[(0, .const (.string { data := #[116, 97, 98] })), (1, .tmp 5), (2, .tmp 8), (3, .tmp 11), (4, .tmp 14)], 44, "l06_manifest.go:90", #[⟨2, .data⟩, ⟨5, .data⟩, ⟨8, .data⟩, ⟨11, .data⟩], none⟩
abbrev qbbe_50_1_13 : Oper := ⟨some 16, .call { callee := .value (.func 51), args := #[.tmp 15, .const (.string { data := #[32] })], argTypes := #[44, 9] }, 9, "l06_manifest.go:90", #[⟨12, .data⟩, ⟨11, .chain⟩], none⟩
abbrev qbbe_50_1_14 : Oper := ⟨some 2, .assign (.tmp 16), 9, "l06_manifest.go:90", #[⟨13, .data⟩, ⟨13, .chain⟩, ⟨0, .phase⟩, ⟨1, .phase⟩, ⟨2, .phase⟩, ⟨3, .phase⟩, ⟨4, .phase⟩, ⟨5, .phase⟩, ⟨6, .phase⟩, ⟨7, .phase⟩, ⟨8, .phase⟩, ⟨9, .phase⟩, ⟨10, .phase⟩, ⟨11, .phase⟩, ⟨12, .phase⟩, ⟨13, .phase⟩], none⟩
abbrev qbbe_23_3_0 : Oper := ⟨some 9, .fieldAddr 24 (.tmp 1) 0, 0, "l06_manifest.go:82", #[], none⟩
abbrev qbbe_23_3_1 : Oper := ⟨some 10, .load 3 (.tmp 9), 3, "l06_manifest.go:82", #[⟨0, .data⟩], none⟩
abbrev qbbe_23_3_5 : Oper := ⟨some 14, .fieldAddr 24 (.tmp 1) 1, 0, "l06_manifest.go:82", #[], none⟩
abbrev qbbe_23_3_6 : Oper := ⟨some 15, .load 3 (.tmp 14), 3, "l06_manifest.go:82", #[⟨5, .data⟩], none⟩
abbrev qbbe_23_3_2 : Oper := ⟨some 11, .call { callee := .value (.func 49), args := #[.tmp 10], argTypes := #[3] }, 9, "l06_manifest.go:82", #[⟨1, .data⟩], none⟩
abbrev qbbe_23_3_3 : Oper := ⟨some 12, .binOp .add 9 (.const (.string { data := #[110, 101, 120, 116, 32] })) (.tmp 11) 9, 9, "l06_manifest.go:82", #[⟨2, .data⟩], none⟩
abbrev qbbe_23_3_4 : Oper := ⟨some 13, .binOp .add 9 (.tmp 12) (.const (.string { data := #[32, 108, 111, 103, 32] })) 9, 9, "l06_manifest.go:82", #[⟨3, .data⟩], none⟩
abbrev qbbe_23_3_7 : Oper := ⟨some 16, .call { callee := .value (.func 49), args := #[.tmp 15], argTypes := #[3] }, 9, "l06_manifest.go:82", #[⟨6, .data⟩, ⟨2, .chain⟩], none⟩
abbrev qbbe_23_3_8 : Oper := ⟨some 17, .binOp .add 9 (.tmp 13) (.tmp 16) 9, 9, "l06_manifest.go:82", #[⟨4, .data⟩, ⟨7, .data⟩], none⟩
abbrev qbbe_23_3_9 : Oper := ⟨some 18, .buildSlice 44 1 #[(0, .tmp 17)], 44, "l06_manifest.go:82", #[⟨8, .data⟩], none⟩
abbrev qbbe_23_3_10 : Oper := ⟨some 3, .assign (.tmp 18), 44, "l06_manifest.go:82", #[⟨9, .data⟩, ⟨7, .chain⟩, ⟨0, .phase⟩, ⟨1, .phase⟩, ⟨2, .phase⟩, ⟨3, .phase⟩, ⟨4, .phase⟩, ⟨5, .phase⟩, ⟨6, .phase⟩, ⟨7, .phase⟩, ⟨8, .phase⟩, ⟨9, .phase⟩], none⟩

/-- The library's table of tens lies as it was laid. -/
def Pow (w : World) : Prop := Lib.TabIs Tryz.prog w "internal/strconv.uint64pow10" .u64 Lib.pow10Tab ∧ layItoa_ren.g 17 < w.heap.size
theorem Pow.below {w w' : World} (h : Pow w) (hb : Below w.heap.size w w') : Pow w' :=
  ⟨var?_below hb (by kernel_rfl) h.2 h.1, Nat.lt_of_lt_of_le h.2 hb.size⟩

theorem itoa_any (n : Int) (w : World) (h0 : 0 ≤ n) (h1 : n ≤ 100000) (hT : Pow w) :
    Calls Tryz.prog 49 #[.int .i64 n] w fun e w' => e = .returned (.string (strB (decD n))) ∧ Below w.heap.size w w' := by
  refine (Any.strconv_Itoa layItoa n (by omega) (by omega) w hT.1).mono ?_
  rintro e w1 ⟨rfl, k, os, rfl⟩
  exact ⟨by rw [decD_itoa h0]; rfl, Lib.below_grow _ _ (Nat.le_refl _) _ _⟩

theorem bExtra : Builder.Extra Tryz.prog layJoin_ren where
  sizeBuilder := by kernel_rfl
  liesBuilder := by kernel_rfl
  t5 := Tryz.underlying5
  a5 := Tryz.isAgg5
  z5 := Tryz.sizeOf5
  v5 := Tryz.zeroValue5
  infoByte := by kernel_rfl
  cellsByte := by kernel_rfl
  sizeByte := by kernel_rfl
  neB5 := by decide

theorem join_any (g c n : Nat) (ls : List (List UInt8)) (sep : List UInt8) (sp : ByteArray) (w : World) (hsp : sp = strB sep) (hn : ls.length = n) (hb : Bx w g (ls.map fun l => Value.string (strB l))) (hc : n ≤ c) (h20 : n ≤ 100) (hl : (Lib.join ls sep).length ≤ 140737488355328) :
    Calls Tryz.prog 51 #[.slice (some ⟨g, 0, none⟩) n c, .string sp] w fun e w' => e = .returned (.string (strB (Lib.join ls sep))) ∧ Below w.heap.size w w' := by
  subst hsp
  have e1 : (ls.map strB).map (fun s => s.data.toList) = ls := by
    rw [List.map_map]
    conv => rhs; rw [← List.map_id ls]
    apply List.map_congr_left
    intro l _
    exact strB_data l
  have e2 : (strB sep).data.toList = sep := strB_data sep
  have hq := Any.strings_Join layJoin bExtra g 0 c (ls.map strB) (strB sep) w (fun j x hx => by
    rw [Nat.zero_add]
    refine hb.2 j _ ?_
    rw [List.getElem?_map] at hx ⊢
    obtain ⟨y, hy, rfl⟩ := Option.map_eq_some_iff.1 hx
    rw [hy]; rfl) hb.1 (by rw [List.length_map]; omega) (by rw [List.length_map]; omega) (by rw [e1, e2]; exact hl)
  rw [e1, e2, List.length_map, hn] at hq
  exact hq

set_option maxHeartbeats 4000000 in
theorem tableLine_any (x : MMeta) (nx : Int) (w : World) (hM : MetaOk nx x) (hn : nx ≤ 100000) (hT : Pow w) :
    Calls Tryz.prog 50 #[.agg #[.int .i64 x.fNo, .int .i64 x.fLevel, .string x.fLo, .string x.fHi]] w fun e w' => e = .returned (.string (strB (lineT x))) ∧ Below w.heap.size w w' := by
  have HJ := Hid.mk (join_line x)
  have HLen := Hid.mk (lineT_len hM hn)
  obtain ⟨wp, hwp⟩ : ∃ wp, wp = w.alloc (.cells #[.int .i64 x.fNo, .int .i64 x.fLevel, .string x.fLo, .string x.fHi] 49) := ⟨_, rfl⟩
  have hbp : Below w.heap.size w wp := by rw [hwp]; exact (Below.refl _ _).alloc (Nat.le_refl _) _
  have hbxp : Bx wp w.heap.size [.int .i64 x.fNo, .int .i64 x.fLevel, .string x.fLo, .string x.fHi] := by rw [hwp]; exact Bx.new _ _ _
  have p0 : ∀ W, Below wp.heap.size wp W → W.cell? ⟨w.heap.size, 0, none⟩ = some (.int .i64 x.fNo) := fun W hb => (hbxp.under hb).2 0 _ rfl
  have p1 : ∀ W, Below wp.heap.size wp W → W.cell? ⟨w.heap.size, 1, none⟩ = some (.int .i64 x.fLevel) := fun W hb => (hbxp.under hb).2 1 _ rfl
  have p2 : ∀ W, Below wp.heap.size wp W → W.cell? ⟨w.heap.size, 2, none⟩ = some (.string x.fLo) := fun W hb => (hbxp.under hb).2 2 _ rfl
  have p3 : ∀ W, Below wp.heap.size wp W → W.cell? ⟨w.heap.size, 3, none⟩ = some (.string x.fHi) := fun W hb => (hbxp.under hb).2 3 _ rfl
  have hC1 := fun W (hb : Below wp.heap.size wp W) => itoa_any x.fNo W (by have := hM.no0; omega) (by have := hM.no1; omega) (hT.below (bthen hbp hb))
  have hC2 := fun W (hb : Below wp.heap.size wp W) => itoa_any x.fLevel W hM.lv0 (by have := hM.lv1; omega) (hT.below (bthen hbp hb))
  have hC3 := fun W => digitsOf_any x.fLo W (Nat.le_trans hM.lo (by omega))
  have hC4 := fun W => digitsOf_any x.fHi W (Nat.le_trans hM.hi (by omega))
  clear hM hT
  go_enter Tryz.func50, Tryz.ntmps50
  go_wp2_with fail
  rw [← hwp]
  clear hwp
  refine wp_region_held_drew (S := fun W => Below wp.heap.size wp W) (by kernel_rfl) (Below.drew (Below.refl _ _)) (fun hHeld => ?_)
  refine tk 0 qbbe_50_1_0 (some 3) (v := ?v1) rfl rfl (by kernel_rfl) hHeld (by rfl) (fun _ _ _ x => x) (fun w h => ?y1) ?_; (case y1 => (try dsimp only at h); go_simp; try (with_reducible rfl)); try simp only [Act.put, sa, s0, s1]
  refine tk 1 qbbe_50_1_1 (some 4) (v := ?v2) rfl rfl (by kernel_rfl) hHeld (by rfl) (fun _ _ _ x => x) (fun w h => ?y2) ?_; (case y2 => (try dsimp only at h); go_simp; try (with_reducible rfl)); try simp only [Act.put, sa, s0, s1]
  refine tk 3 qbbe_50_1_3 (some 6) (v := ?v3) rfl rfl (by kernel_rfl) hHeld (by rfl) (fun _ _ _ x => x) (fun w h => ?y3) ?_; (case y3 => (try dsimp only at h); go_simp; try (with_reducible rfl)); try simp only [Act.put, sa, s0, s1]
  refine tk 4 qbbe_50_1_4 (some 7) (v := ?v4) rfl rfl (by kernel_rfl) hHeld (by rfl) (fun _ _ _ x => x) (fun w h => ?y4) ?_; (case y4 => (try dsimp only at h); go_simp; try (with_reducible rfl)); try simp only [Act.put, sa, s0, s1]
  refine tk 6 qbbe_50_1_6 (some 9) (v := ?v5) rfl rfl (by kernel_rfl) hHeld (by rfl) (fun _ _ _ x => x) (fun w h => ?y5) ?_; (case y5 => (try dsimp only at h); go_simp; try (with_reducible rfl)); try simp only [Act.put, sa, s0, s1]
  refine tk 7 qbbe_50_1_7 (some 10) (v := ?v6) rfl rfl (by kernel_rfl) hHeld (by rfl) (fun _ _ _ x => x) (fun w h => ?y6) ?_; (case y6 => (try dsimp only at h); go_simp; try (with_reducible rfl)); try simp only [Act.put, sa, s0, s1]
  refine tk 9 qbbe_50_1_9 (some 12) (v := ?v7) rfl rfl (by kernel_rfl) hHeld (by rfl) (fun _ _ _ x => x) (fun w h => ?y7) ?_; (case y7 => (try dsimp only at h); go_simp; try (with_reducible rfl)); try simp only [Act.put, sa, s0, s1]
  refine tk 10 qbbe_50_1_10 (some 13) (v := ?v8) rfl rfl (by kernel_rfl) hHeld (by rfl) (fun _ _ _ x => x) (fun w h => ?y8) ?_; (case y8 => (try dsimp only at h); go_simp; try (with_reducible rfl)); try simp only [Act.put, sa, s0, s1]
  refine wpAnyH_ready (rs := [2]) (by kernel_rfl) (by simp) ?_
  refine AllReadyH.cons (o := qbbe_50_1_2) rfl (fun K hK => ?_) AllReadyH.nil
  go_simp
  refine Calls.mono (hC1 _ hHeld) ?_
  rintro e w1 ⟨rfl, hx1⟩
  have hop1 := bthen hHeld hx1
  go_wp2_with fail
  refine hK.out _ _ (hop1) (fun hHeld => ?_)
  clear hK K
  try simp only [Act.put, sa, s0, s1]
  refine wpAnyH_ready (rs := [5]) (by kernel_rfl) (by simp) ?_
  refine AllReadyH.cons (o := qbbe_50_1_5) rfl (fun K hK => ?_) AllReadyH.nil
  go_simp
  refine Calls.mono (hC2 _ hHeld) ?_
  rintro e w2 ⟨rfl, hx2⟩
  have hop2 := bthen hHeld hx2
  go_wp2_with fail
  refine hK.out _ _ (hop2) (fun hHeld => ?_)
  clear hK K
  try simp only [Act.put, sa, s0, s1]
  refine wpAnyH_ready (rs := [8]) (by kernel_rfl) (by simp) ?_
  refine AllReadyH.cons (o := qbbe_50_1_8) rfl (fun K hK => ?_) AllReadyH.nil
  go_simp
  refine Calls.mono (hC3 _) ?_
  rintro e w3 ⟨rfl, hx3⟩
  have hop3 := bthen hHeld hx3
  go_wp2_with fail
  refine hK.out _ _ (hop3) (fun hHeld => ?_)
  clear hK K
  try simp only [Act.put, sa, s0, s1]
  refine wpAnyH_ready (rs := [11]) (by kernel_rfl) (by simp) ?_
  refine AllReadyH.cons (o := qbbe_50_1_11) rfl (fun K hK => ?_) AllReadyH.nil
  go_simp
  refine Calls.mono (hC4 _) ?_
  rintro e w4 ⟨rfl, hx4⟩
  have hop4 := bthen hHeld hx4
  go_wp2_with fail
  refine hK.out _ _ (hop4) (fun hHeld => ?_)
  clear hK K
  try simp only [Act.put, sa, s0, s1]
  refine wpAnyH_ready (rs := [12]) (by kernel_rfl) (by simp) ?_
  refine AllReadyH.cons (o := qbbe_50_1_12) rfl (fun K hK => ?_) AllReadyH.nil
  go_simp
  obtain ⟨w5, hq5⟩ : ∃ q, q = w4.alloc (.cells (List.toArray [Value.string (strB tabW), Value.string (strB (decD x.fNo)), Value.string (strB (decD x.fLevel)), Value.string (strB (hexT x.fLo)), Value.string (strB (hexT x.fHi))]) 9) := ⟨_, rfl⟩
  have hx5 : Below w4.heap.size w4 w5 := by rw [hq5]; exact (Below.refl _ _).alloc (Nat.le_refl _) _
  have hop5 := bthen hHeld hx5
  have hb5 : Bx w5 w4.heap.size ([tabW, decD x.fNo, decD x.fLevel, hexT x.fLo, hexT x.fHi].map fun l => Value.string (strB l)) := by rw [hq5]; exact Bx.new _ _ _
  have hJ := join_any w4.heap.size 5 5 [tabW, decD x.fNo, decD x.fLevel, hexT x.fLo, hexT x.fHi] [32] ⟨List.toArray [32]⟩ w5 rfl rfl hb5 (by omega) (by omega) (by rw [HJ.out]; have h := HLen.out; omega)
  rw [HJ.out] at hJ
  refine (show _ = w5 from hq5.symm) ▸ ?_
  clear hq5
  refine hK.out _ _ (hop5) (fun hHeld => ?_)
  clear hK K
  try simp only [Act.put, sa, s0, s1]
  refine wpAnyH_ready (rs := [13]) (by kernel_rfl) (by simp) ?_
  refine AllReadyH.cons (o := qbbe_50_1_13) rfl (fun K hK => ?_) AllReadyH.nil
  go_simp
  refine Calls.mono hJ ?_
  rintro e w6 ⟨rfl, hx6⟩
  have hop6 := bthen hHeld hx6
  go_wp2_with fail
  refine hK.out _ _ (hop6) (fun hHeld => ?_)
  clear hK K
  try simp only [Act.put, sa, s0, s1]
  refine tk 14 qbbe_50_1_14 (some 2) (v := ?v9) rfl rfl (by kernel_rfl) hHeld (by rfl) (fun _ _ _ x => x) (fun w h => ?y9) ?_; (case y9 => (try dsimp only at h); go_simp; try (with_reducible rfl)); try simp only [Act.put, sa, s0, s1]
  refine wpAnyH_done (by kernel_rfl) ?_ _
  go_wp2_with fail
  go_ret
  exact ⟨rfl, bthen hbp hop6⟩

theorem Tryz.infoTxt : (Tryz.prog.info? 9).map (fun i => (i.zero, i.size, i.bytes)) = some (some (.string ByteArray.empty), 1, 16) := by kernel_rfl

set_option maxHeartbeats 8000000 in
theorem implManText_c (cs : List Value) (m : MManifest) (w : World) (hr : rManifest w.heap.size w cs m) (hw : wManifest m ≤ 1048576) (hT : Pow w) :
    Calls Tryz.prog 23 #[.agg cs.toArray] w fun e w' => e = .returned (.string (manTextP m)) ∧ Below w.heap.size w w' := by
  have HRD := Hid.mk hr
  have HWW := Hid.mk hw
  obtain ⟨a0, c0, rfl, hwf0, hwf1, hL, _⟩ := hr
  have HL := Hid.mk hL
  obtain ⟨l, hl⟩ : ∃ l, l = m.fTables := ⟨_, rfl⟩
  obtain ⟨n, hx⟩ : ∃ n, n = l.length := ⟨_, rfl⟩
  have hn : n ≤ 1048576 := by have h : m.fTables.length + sumW wMeta m.fTables ≤ 1048576 := hw; rw [hx, hl]; omega
  have HSW : Hid (sumW wMeta l ≤ 1048576) := by show _ ≤ _; have h : m.fTables.length + sumW wMeta m.fTables ≤ 1048576 := hw; rw [hl]; omega
  have HLM := Hid.mk hl
  rw [← hl] at HL ⊢
  have HRD2 : Hid (rManifest w.heap.size w [.int .i64 m.fNext, .int .i64 m.fLog, .slice a0 n c0] m) := by have h := HRD.out; rw [← hl, ← hx] at h; exact h
  rw [← hx]
  have HX := Hid.mk hx.symm
  clear hL hw hl hx hwf0 hwf1 HRD
  go_enter Tryz.func23, Tryz.ntmps23
  obtain ⟨wq, hwq⟩ : ∃ wq, wq = w.alloc (.cells #[.int .i64 m.fNext, .int .i64 m.fLog, .slice a0 n c0] 24) := ⟨_, rfl⟩
  have hbq : Below w.heap.size w wq := by rw [hwq]; exact (Below.refl _ _).alloc (Nat.le_refl _) _
  have hbx : Bx wq w.heap.size [.int .i64 m.fNext, .int .i64 m.fLog, .slice a0 n c0] := by rw [hwq]; exact Bx.new _ _ _
  have y0 := hbx.2 0 _ rfl
  have y1 := hbx.2 1 _ rfl
  have y2 := hbx.2 2 _ rfl
  have hz := hbx.1
  go_wp2_with (rw [← hwq])
  refine (implManOk_c [.int .i64 m.fNext, .int .i64 m.fLog, .slice a0 n c0] m wq (rManifest_good.mono (rManifest_good.below HRD2.out hbq) hbq.size) HWW.out).mono ?_
  rintro e wm ⟨rfl, hxm⟩
  have hb1 := bthen hbq hxm
  by_cases hok : manOkP m = true
  rotate_left
  · have hokf := Bool.eq_false_iff.2 hok
    have HD := Hid.mk (manTextP_no hokf)
    rw [hokf]
    go_wp2_with fail
    go_ret
    exact ⟨by rw [HD.out]; rfl, hb1⟩
  have HF := Hid.mk (manOkP_facts hok)
  have HD := Hid.mk (manTextP_yes hok)
  rw [hok]
  have HD2 : Hid (manTextP m = strB (Lib.join (lineS m l ++ [endW, []]) [10])) := by show _ = _; rw [HD.out, join_lines, HLM.out]; rfl
  have hhl : (headT m).length ≤ 300000 := headT_len HF.out
  have hn20 : n ≤ 20 := by rw [← HX.out, HLM.out]; exact HF.out.len
  have hnx0 : 0 ≤ m.fNext := by have := HF.out.nx0; omega
  have hnx1 : m.fNext ≤ 100000 := HF.out.nx1
  have hlg0 : 0 ≤ m.fLog := HF.out.lg0
  have hlg1 : m.fLog ≤ 100000 := by have := HF.out.lg1; omega
  have hE : Hid (∀ t, t ∈ l → MetaOk m.fNext t) := by rw [HLM.out]; exact HF.out.each
  have q0 : ∀ W, Below wm.heap.size wm W → W.cell? ⟨w.heap.size, 0, none⟩ = some (.int .i64 m.fNext) := fun W hb => ((hbx.under hxm).under hb).2 0 _ rfl
  have q1 : ∀ W, Below wm.heap.size wm W → W.cell? ⟨w.heap.size, 1, none⟩ = some (.int .i64 m.fLog) := fun W hb => ((hbx.under hxm).under hb).2 1 _ rfl
  have q2 : ∀ W, Below wm.heap.size wm W → W.cell? ⟨w.heap.size, 2, none⟩ = some (.slice a0 n c0) := fun W hb => ((hbx.under hxm).under hb).2 2 _ rfl
  have hC1 := fun W (hb : Below wm.heap.size wm W) => itoa_any m.fNext W hnx0 hnx1 (hT.below (bthen hb1 hb))
  have hC2 := fun W (hb : Below wm.heap.size wm W) => itoa_any m.fLog W hlg0 hlg1 (hT.below (bthen hb1 hb))
  have HC3 : Hid (∀ (x : MMeta) (W : World), MetaOk m.fNext x → Below wm.heap.size wm W → Calls Tryz.prog 50 #[.agg #[.int .i64 x.fNo, .int .i64 x.fLevel, .string x.fLo, .string x.fHi]] W fun e w' => e = .returned (.string (strB (lineT x))) ∧ Below W.heap.size W w') := fun x W h hb => tableLine_any x m.fNext W h hnx1 (hT.below (bthen hb1 hb))
  obtain ⟨d1, HD1⟩ : ∃ d, Hid (d = strB (decD m.fNext)) := ⟨_, rfl⟩
  obtain ⟨d2, HD3⟩ : ∃ d, Hid (d = strB (decD m.fLog)) := ⟨_, rfl⟩
  have hd1 : d1.size ≤ 100001 := by rw [HD1.out, strB_size]; exact decD_len hnx1
  have hd2 : d2.size ≤ 100001 := by rw [HD3.out, strB_size]; exact decD_len hlg1
  rw [← HD1.out] at hC1
  rw [← HD3.out] at hC2
  have HH : Hid ((⟨#[110, 101, 120, 116, 32]⟩ : ByteArray) ++ d1 ++ ⟨#[32, 108, 111, 103, 32]⟩ ++ d2 = strB (headT m)) := by
    show _ = _
    rw [HD1.out, HD3.out, show (⟨#[110, 101, 120, 116, 32]⟩ : ByteArray) = strB nextW from rfl, show (⟨#[32, 108, 111, 103, 32]⟩ : ByteArray) = strB logW from rfl]
    simp only [strB_app, headT]
  have n1 : (9223372036854775807 < 5 + d1.size) = False := eq_false (by omega)
  have n2 : (9223372036854775807 < 5 + d1.size + 5) = False := eq_false (by omega)
  have n3 : (9223372036854775807 < 5 + d1.size + 5 + d2.size) = False := eq_false (by omega)
  obtain ⟨i0, hi, hz0, hz1, hz2⟩ := info_parts Tryz.infoTxt
  have HI : Hid (_ ∧ _ ∧ _ ∧ _) := ⟨hi, hz0, hz1, hz2⟩
  have HFX := HF
  clear HF HD hok y0 y1 y2 hwq hi hz0 hz1 hz2 hT
  go_wp2_with fail
  refine wp_region_held_drew (S := fun W => Below wm.heap.size wm W) (by kernel_rfl) (Below.drew (Below.refl _ _)) (fun hHeld => ?_)
  refine tk 0 qbbe_23_3_0 (some 9) (v := ?v10) rfl rfl (by kernel_rfl) hHeld (by rfl) (fun _ _ _ x => x) (fun w h => ?y10) ?_; (case y10 => (try dsimp only at h); go_simp; try (with_reducible rfl)); try simp only [Act.put, sa, s0, s1]
  refine tk 1 qbbe_23_3_1 (some 10) (v := ?v11) rfl rfl (by kernel_rfl) hHeld (by rfl) (fun _ _ _ x => x) (fun w h => ?y11) ?_; (case y11 => (try dsimp only at h); go_simp; try (with_reducible rfl)); try simp only [Act.put, sa, s0, s1]
  refine tk 5 qbbe_23_3_5 (some 14) (v := ?v12) rfl rfl (by kernel_rfl) hHeld (by rfl) (fun _ _ _ x => x) (fun w h => ?y12) ?_; (case y12 => (try dsimp only at h); go_simp; try (with_reducible rfl)); try simp only [Act.put, sa, s0, s1]
  refine tk 6 qbbe_23_3_6 (some 15) (v := ?v13) rfl rfl (by kernel_rfl) hHeld (by rfl) (fun _ _ _ x => x) (fun w h => ?y13) ?_; (case y13 => (try dsimp only at h); go_simp; try (with_reducible rfl)); try simp only [Act.put, sa, s0, s1]
  refine wpAnyH_ready (rs := [2]) (by kernel_rfl) (by simp) ?_
  refine AllReadyH.cons (o := qbbe_23_3_2) rfl (fun K hK => ?_) AllReadyH.nil
  go_simp
  refine Calls.mono (hC1 _ hHeld) ?_
  rintro e w1 ⟨rfl, hx1⟩
  have hop1 := bthen hHeld hx1
  go_wp2_with fail
  refine hK.out _ _ (hop1) (fun hHeld => ?_)
  clear hK K
  try simp only [Act.put, sa, s0, s1]
  refine tk 3 qbbe_23_3_3 (some 12) (v := ?v14) rfl rfl (by kernel_rfl) hHeld (by rfl) (fun _ _ _ x => x) (fun w h => ?y14) ?_; (case y14 => (try dsimp only at h); go_simp; try (with_reducible rfl)); try simp only [Act.put, sa, s0, s1]
  refine tk 4 qbbe_23_3_4 (some 13) (v := ?v15) rfl rfl (by kernel_rfl) hHeld (by rfl) (fun _ _ _ x => x) (fun w h => ?y15) ?_; (case y15 => (try dsimp only at h); go_simp; try (with_reducible rfl)); try simp only [Act.put, sa, s0, s1]
  refine wpAnyH_ready (rs := [7]) (by kernel_rfl) (by simp) ?_
  refine AllReadyH.cons (o := qbbe_23_3_7) rfl (fun K hK => ?_) AllReadyH.nil
  go_simp
  refine Calls.mono (hC2 _ hHeld) ?_
  rintro e w2 ⟨rfl, hx2⟩
  have hop2 := bthen hHeld hx2
  go_wp2_with fail
  refine hK.out _ _ (hop2) (fun hHeld => ?_)
  clear hK K
  try simp only [Act.put, sa, s0, s1]
  refine tk 8 qbbe_23_3_8 (some 17) (v := ?v16) rfl rfl (by kernel_rfl) hHeld (by rfl) (fun _ _ _ x => x) (fun w h => ?y16) ?_; (case y16 => (try dsimp only at h); go_simp; try (with_reducible rfl)); try simp only [Act.put, sa, s0, s1]
  refine wpAnyH_ready (rs := [9]) (by kernel_rfl) (by simp) ?_
  refine AllReadyH.cons (o := qbbe_23_3_9) rfl (fun K hK => ?_) AllReadyH.nil
  go_simp
  rw [HH.out]
  obtain ⟨w3, hq3⟩ : ∃ q, q = w2.alloc (.cells (List.toArray [Value.string (strB (headT m))]) 9) := ⟨_, rfl⟩
  have hx3 : Below w2.heap.size w2 w3 := by rw [hq3]; exact (Below.refl _ _).alloc (Nat.le_refl _) _
  have hop3 := bthen hHeld hx3
  have HO3 : Hid (w3.ownsRow wm.heap.size 9 1 (.slice (some ⟨w2.heap.size, 0, none⟩) 1 1) 1 [Value.string (strB (headT m))]) := by rw [hq3]; exact ⟨rfl, .inr ⟨w2.heap.size, 1, List.toArray [Value.string (strB (headT m))], rfl, hop2.size, (show (w2.heap.push _)[w2.heap.size]? = _ from Array.getElem?_push_size), by omega, by simp [maxLen], by simp, by simp⟩⟩
  refine (show _ = w3 from hq3.symm) ▸ ?_
  clear hq3
  refine hK.out _ _ (hop3) (fun hHeld => ?_)
  clear hK K
  try simp only [Act.put, sa, s0, s1]
  refine tk 10 qbbe_23_3_10 (some 3) (v := ?v17) rfl rfl (by kernel_rfl) hHeld (by rfl) (fun _ _ _ x => x) (fun w h => ?y17) ?_; (case y17 => (try dsimp only at h); go_simp; try (with_reducible rfl)); try simp only [Act.put, sa, s0, s1]
  refine wpAnyH_done (by kernel_rfl) ?_ _
  obtain ⟨wa, hwa⟩ : ∃ x, x = w3 := ⟨_, rfl⟩
  have hba : Below wm.heap.size wm wa := by rw [hwa]; exact hop3
  have HOA : Hid (wa.ownsRow wm.heap.size 9 1 (.slice (some ⟨w2.heap.size, 0, none⟩) 1 1) 1 [Value.string (strB (headT m))]) := by rw [hwa]; exact HO3.out
  have y2 := q2 _ hba
  have hla : w.heap.size < wa.heap.size := Nat.lt_of_lt_of_le hz (Nat.le_trans hxm.size hba.size)
  obtain ⟨gg, hgg⟩ : ∃ x, x = w2.heap.size := ⟨_, rfl⟩
  rw [← hwa, ← hgg]
  rw [← hgg] at HOA
  clear hwa hgg HH n1 n2 n3 hC1 hC2 hd1 hd2 HD1 HD3 HO3 hop3 hHeld
  go_wp2_with fail
  clear y2
  go_loopw [3, 22] (fun v i wr => ∃ k : Nat, k ≤ n ∧ i = .int .i64 k ∧ wr.ownsRow wm.heap.size 9 1 v (k + 1) ((lineS m (l.take k)).map fun x => Value.string (strB x)) ∧ Below wm.heap.size wm wr) (fun _ i _ => n - (intOf i).toNat)
  case atStart => exact ⟨0, Nat.zero_le _, rfl, HOA.out, hba⟩
  case round =>
    obtain ⟨k, hk, rfl, hown, hbk⟩ := hrel
    have hbw := bthen hb1 hbk
    have hbz := hbw.size
    have hlr : w.heap.size < wr.heap.size := Nat.lt_of_lt_of_le hz (Nat.le_trans hxm.size hbk.size)
    by_cases hlt : k < n
    · have hkl : k < l.length := by rw [HX.out]; exact hlt
      obtain ⟨b1, o1, rfl, hB, cs, hcl, hcell, rfl, g0, g1, g2, g3, _⟩ := (HL.out.2.2.below rMeta_good hbw) k hkl
      have hB' : b1 < wr.heap.size := by omega
      have k0 := hcell 0 _ rfl
      have k1 := hcell 1 _ rfl
      have k2 := hcell 2 _ rfl
      have k3 := hcell 3 _ rfl
      rw [Nat.add_zero] at k0
      have hM := hE.out l[k] (List.getElem_mem hkl)
      have HLS := Hid.mk (lineS_take (m := m) hkl)
      obtain ⟨x, hxk⟩ : ∃ x, x = l[k] := ⟨_, rfl⟩
      rw [← hxk] at k0 k1 k2 k3 g0 g1 g2 g3 HLS hM
      clear hcell hcl hxk
      have hC3 := fun W hb => HC3.out x W hM hb
      obtain ⟨wp, hwp⟩ : ∃ wp, wp = wr.alloc (.cells #[.int .i64 x.fNo, .int .i64 x.fLevel, .string x.fLo, .string x.fHi] 49) := ⟨_, rfl⟩
      have hbp : Below wr.heap.size wr wp := by rw [hwp]; exact (Below.refl _ _).alloc (Nat.le_refl _) _
      have hown1 := own_below hown hbp
      have hbkp := bthen hbk hbp
      go_wp2_with (rw [← hwp])
      refine (hC3 _ hbkp).mono ?_
      rintro e w5 ⟨rfl, hx5⟩
      have hown5 := own_below hown1 hx5
      have hb5 := bthen hbkp hx5
      clear hC3 hown hown1 hwp k0 k1 k2 k3
      obtain ⟨w6, hw6⟩ : ∃ q, q = w5.alloc (.cells #[Value.string (strB (lineT x))] 9) := ⟨_, rfl⟩
      have hx6 : Below w5.heap.size w5 w6 := by rw [hw6]; exact (Below.refl _ _).alloc (Nat.le_refl _) _
      have hbx6 : Bx w6 w5.heap.size [Value.string (strB (lineT x))] := by rw [hw6]; exact Bx.new _ _ _
      have hown6 := own_below hown5 hx6
      have hb6 := bthen hb5 hx6
      obtain ⟨xs, HXS⟩ : ∃ q, Hid (q = (lineS m (l.take k)).map fun x => Value.string (strB x)) := ⟨_, Hid.mk rfl⟩
      rw [← HXS.out] at hown6
      clear hown5
      go_wp2_with (at_builtin; rw [← hw6]; refine wpList_append_own_at _ rfl _ _ 44 rfl wm.heap.size 9 i0 (.string ByteArray.empty) 1 16 Tryz.underlying44 HI.out.1 HI.out.2.1 HI.out.2.2.1 HI.out.2.2.2 rfl (by decide) _ _ _ rfl hown6 ⟨w5.heap.size, 0, none⟩ 1 1 [.string (strB (lineT x))] rfl rfl (bx_news hbx6) (by intro u hu; simp at hu; subst hu; rfl) (by unfold maxLen; omega) (by omega) hb6.size ?_; intro v7 w7 hown7 hgrow7 hnil7 hloc7)
      have hb7 := hb6.grown hgrow7 hb6.size (fun k h => (hown6.lt k h).1)
      have HO7 : Hid (w7.ownsRow wm.heap.size 9 1 v7 (k + 1 + 1) ((lineS m (l.take (k + 1))).map fun x => Value.string (strB x))) := own_congr hown7 rfl (by rw [HLS.out, HXS.out]; simp)
      clear hown6 hown7 hgrow7 hnil7 hloc7 hw6 hbx6
      go_wp2_with fail
      go_roundw
      case rel => exact ⟨k + 1, by omega, by go_num, HO7.out, hb7⟩
      case measure => simp [intOf]; omega
    · have HT1 : Hid (l.take k = l) := List.take_of_length_le (by rw [HX.out]; omega)
      have hk20 : k ≤ 20 := by omega
      have HLK : Hid ((lineS m l).length = k + 1) := by show _ = _; simp only [lineS, List.length_cons, List.length_map]; rw [HX.out]; omega
      rw [HT1.out] at hown
      obtain ⟨w6, hw6⟩ : ∃ q, q = wr.alloc (.cells #[Value.string (strB endW), Value.string (strB [])] 9) := ⟨_, rfl⟩
      have hx6 : Below wr.heap.size wr w6 := by rw [hw6]; exact (Below.refl _ _).alloc (Nat.le_refl _) _
      have hbx6 : Bx w6 wr.heap.size [Value.string (strB endW), Value.string (strB [])] := by rw [hw6]; exact Bx.new _ _ _
      have hown6 := own_below hown hx6
      have hb6 := bthen hbk hx6
      have HJL : Hid ((Lib.join (lineS m l ++ [endW, []]) [10]).length ≤ 140737488355328) := by
        show _ ≤ _
        rw [join_lines]
        have h1 := linesT_len (l := l) hE.out hnx1
        have h2 : l.length ≤ 20 := by rw [HX.out]; omega
        have h3 : l.length * 300001 ≤ 20 * 300001 := Nat.mul_le_mul_right _ h2
        simp only [List.length_append, endW, List.length_cons, List.length_nil]
        omega
      obtain ⟨xs, HXS⟩ : ∃ q, Hid (q = (lineS m l).map fun x => Value.string (strB x)) := ⟨_, Hid.mk rfl⟩
      rw [← HXS.out] at hown6
      clear hown
      go_wp2_with (at_builtin; rw [show (⟨#[101, 110, 100]⟩ : ByteArray) = strB endW from rfl, show (⟨#[]⟩ : ByteArray) = strB [] from rfl, ← hw6]; refine wpList_append_own_at _ rfl _ _ 44 rfl wm.heap.size 9 i0 (.string ByteArray.empty) 1 16 Tryz.underlying44 HI.out.1 HI.out.2.1 HI.out.2.2.1 HI.out.2.2.2 rfl (by decide) _ _ _ rfl hown6 ⟨wr.heap.size, 0, none⟩ 2 2 [.string (strB endW), .string (strB [])] rfl rfl (bx_news hbx6) (by intro u hu; simp at hu; rcases hu with rfl | rfl <;> rfl) (by unfold maxLen; omega) (by omega) hb6.size ?_; intro v7 w7 hown7 hgrow7 hnil7 hloc7)
      have hb7 := hb6.grown hgrow7 hb6.size (fun k h => (hown6.lt k h).1)
      obtain ⟨g7, cap7, rfl, hc7, hg7, hg8⟩ := own_shape hown7 (by omega)
      have hBx7 : Bx w7 g7 ((lineS m l ++ [endW, []]).map fun x => Value.string (strB x)) := by
        refine ⟨hg8, fun i u hu => ?_⟩
        have h1 : xs ++ [Value.string (strB endW), Value.string (strB [])] = (lineS m l ++ [endW, []]).map fun x => Value.string (strB x) := by rw [HXS.out]; simp
        rw [← h1] at hu
        have h2 := (List.getElem?_eq_some_iff.1 hu).1
        have h3 := hown7.1
        rw [hown7.cellAt i (by omega), hu]
      have hJ := join_any g7 cap7 (k + 1 + 2) (lineS m l ++ [endW, []]) [10] ⟨#[10]⟩ w7 rfl (by rw [List.length_append, HLK.out]; rfl) hBx7 hc7 (by omega) HJL.out
      rw [← HD2.out] at hJ
      clear hown6 hown7 hgrow7 hnil7 hloc7 hw6 hbx6 hBx7
      go_wp2_with fail
      refine hJ.mono ?_
      rintro e w8 ⟨rfl, hx8⟩
      go_wp2_with fail
      go_ret
      exact ⟨rfl, bthen hb1 (bthen hb7 hx8)⟩

end Go.Proofs.YtnohnkcijomdjaaGreatDoor

namespace Go.Proofs.YtnohnkcijomdjaaGreatDoor
open Go.RowKit

/-- What stands between the bytes. -/
def splitP (by_ : UInt8) : List UInt8 → List (List UInt8)
  | [] => [[]]
  | x :: r => if x = by_ then [] :: splitP by_ r else match splitP by_ r with
    | [] => [[x]]
    | h :: t => (x :: h) :: t
theorem splitP_one {b : UInt8} : ∀ {l : List UInt8}, b ∉ l → splitP b l = [l]
  | [], _ => rfl
  | x :: r, h => by
    have h1 : ¬ x = b := fun e => h (by rw [e]; simp)
    have h2 := splitP_one (b := b) (l := r) (fun e => h (List.mem_cons_of_mem _ e))
    rw [splitP, if_neg h1, h2]
theorem splitP_cut {b : UInt8} : ∀ {l r : List UInt8}, b ∉ l → splitP b (l ++ b :: r) = l :: splitP b r
  | [], r, _ => by rw [List.nil_append, splitP, if_pos rfl]
  | x :: l, r, h => by
    have h1 : ¬ x = b := fun e => h (by rw [e]; simp)
    have h2 := splitP_cut (b := b) (l := l) (r := r) (fun e => h (List.mem_cons_of_mem _ e))
    rw [List.cons_append, splitP, if_neg h1, h2]

def isDig (b : UInt8) : Bool := decide (48 ≤ b.toNat ∧ b.toNat ≤ 57)
def valD (l : List UInt8) (n : Int) : Int := l.foldl (fun n b => n * 10 + ((b.toNat : Int) - 48)) n
/-- Decimal digits, one to six; -1 else. -/
def numP (l : List UInt8) : Int := if (1 ≤ l.length ∧ l.length ≤ 6) ∧ l.all isDig = true then valD l 0 else -1
def digP (b : UInt8) : Int := if 48 ≤ b.toNat ∧ b.toNat ≤ 57 then (b.toNat : Int) - 48 else if 97 ≤ b.toNat ∧ b.toNat ≤ 102 then (b.toNat : Int) - 87 else 99
def unhexP : List UInt8 → List UInt8
  | a :: b :: r => UInt8.ofNat ((digP a * 16 + digP b) % 256).toNat :: unhexP r
  | _ => []
theorem dec_digs (k : Nat) : ∀ n : Nat, n ≤ k → ∀ b, b ∈ Lib.decDigits n → 48 ≤ b.toNat ∧ b.toNat ≤ 57 := by
  induction k with
  | zero =>
    intro n hn b hb
    rw [Lib.decDigits, dif_pos (by omega)] at hb
    simp at hb
    subst hb
    have : n = 0 := by omega
    subst this
    decide
  | succ k ih =>
    intro n hn b hb
    rw [Lib.decDigits] at hb
    split at hb
    · rename_i h
      rw [List.mem_singleton] at hb
      subst hb
      rw [UInt8.toNat_ofNat']
      omega
    · rename_i h
      rcases List.mem_append.1 hb with h1 | h1
      · exact ih (n / 10) (by omega) b h1
      · rw [List.mem_singleton] at h1
        subst h1
        rw [UInt8.toNat_ofNat']
        omega
theorem dec_val (k : Nat) : ∀ n : Nat, n ≤ k → valD (Lib.decDigits n) 0 = (n : Int) := by
  induction k with
  | zero =>
    intro n hn
    have : n = 0 := by omega
    subst this
    rw [Lib.decDigits, dif_pos (by omega)]
    decide
  | succ k ih =>
    intro n hn
    rw [Lib.decDigits]
    split
    · rename_i h
      have h1 : n < 10 := h
      simp only [valD, List.foldl_cons, List.foldl_nil]
      rw [UInt8.toNat_ofNat']
      omega
    · rename_i h
      have h1 := ih (n / 10) (by omega)
      unfold valD at h1 ⊢
      rw [List.foldl_append, h1]
      simp only [List.foldl_cons, List.foldl_nil]
      rw [UInt8.toNat_ofNat']
      omega
theorem decD_digs {n : Int} {b : UInt8} (hb : b ∈ decD n) : 48 ≤ b.toNat ∧ b.toNat ≤ 57 := dec_digs n.toNat n.toNat (Nat.le_refl _) b hb
theorem decD_val {n : Int} (h : 0 ≤ n) : valD (decD n) 0 = n := by
  have := dec_val n.toNat n.toNat (Nat.le_refl _)
  unfold decD
  rw [this]
  omega
theorem decD_pos (n : Int) : 1 ≤ (decD n).length := by
  unfold decD
  rw [Lib.decDigits]
  split <;> simp
theorem dec_six (k : Nat) : ∀ n : Nat, n < 10 ^ (k + 1) → (Lib.decDigits n).length ≤ k + 1 := by
  induction k with
  | zero =>
    intro n h
    rw [Lib.decDigits, dif_pos (by simpa using h)]
    simp
  | succ k ih =>
    intro n h
    rw [Lib.decDigits]
    split
    · simp
    · have := ih (n / 10) (by rw [Nat.pow_succ] at h; omega)
      rw [List.length_append]
      simp
      omega
theorem numP_dec {n : Int} (h0 : 0 ≤ n) (h1 : n ≤ 100000) : numP (decD n) = n := by
  unfold numP
  rw [if_pos, decD_val h0]
  refine ⟨⟨decD_pos n, dec_six 5 n.toNat (by omega)⟩, List.all_eq_true.2 fun b hb => ?_⟩
  exact decide_eq_true (decD_digs hb)
theorem hex_back : ∀ b : Fin 256, UInt8.ofNat ((digP (hexD (b.val / 16)) * 16 + digP (hexD (b.val % 16))) % 256).toNat = UInt8.ofNat b.val := by decide +kernel
theorem unhex_hex : ∀ l : List UInt8, unhexP (l.flatMap hexB) = l
  | [] => rfl
  | x :: r => by
    rw [List.flatMap_cons]
    show UInt8.ofNat ((digP (hexD (x.toNat / 16)) * 16 + digP (hexD (x.toNat % 16))) % 256).toNat :: unhexP (r.flatMap hexB) = _
    rw [unhex_hex r, hex_back ⟨x.toNat, x.toNat_lt⟩]
    simp
theorem unhexT (s : ByteArray) : unhexP (hexT s) = s.data.toList := unhex_hex _

/-- A line's words, taken in. -/
def takeL (i : Nat) (w : List (List UInt8)) (m : MManifest) : MManifest :=
  if i = 0 then (if w.length = 4 then { m with fNext := numP (w.getD 1 []), fLog := numP (w.getD 3 []) } else m)
  else if w.length = 5 then { m with fTables := m.fTables ++ [⟨numP (w.getD 1 []), numP (w.getD 2 []), strB (unhexP (w.getD 3 [])), strB (unhexP (w.getD 4 []))⟩] } else m
def takeAll : Nat → List (List UInt8) → MManifest → MManifest
  | _, [], m => m
  | i, l :: r, m => takeAll (i + 1) r (takeL i (splitP 32 l) m)
def specP (s : List UInt8) : MManifest := takeAll 0 ((splitP 10 s).take 30) ⟨0, 0, []⟩

theorem not_mem_dec {n : Int} {b : UInt8} (hb : b.toNat < 48) : b ∉ decD n := fun h => by have := (decD_digs h).1; omega
theorem hexD_lo : ∀ x : Fin 16, 48 ≤ (hexD x.val).toNat := by decide
theorem not_mem_hex {s : ByteArray} {b : UInt8} (hb : b.toNat < 48) : b ∉ hexT s := fun h => by
  unfold hexT at h
  obtain ⟨x, _, hx⟩ := List.mem_flatMap.1 h
  have hx1 : x.toNat < 256 := x.toNat_lt
  simp only [hexB, List.mem_cons, List.not_mem_nil, or_false] at hx
  rcases hx with rfl | rfl
  · exact absurd (hexD_lo ⟨x.toNat / 16, by omega⟩) (by show ¬ 48 ≤ (hexD (x.toNat / 16)).toNat; omega)
  · exact absurd (hexD_lo ⟨x.toNat % 16, by omega⟩) (by show ¬ 48 ≤ (hexD (x.toNat % 16)).toNat; omega)
theorem line_words (t : MMeta) : splitP 32 (lineT t) = [tabW, decD t.fNo, decD t.fLevel, hexT t.fLo, hexT t.fHi] := by
  have e : lineT t = tabW ++ 32 :: (decD t.fNo ++ 32 :: (decD t.fLevel ++ 32 :: (hexT t.fLo ++ 32 :: hexT t.fHi))) := by
    unfold lineT
    simp only [List.append_assoc, List.cons_append, List.nil_append]
  rw [e, splitP_cut (by decide), splitP_cut (not_mem_dec (by decide)), splitP_cut (not_mem_dec (by decide)), splitP_cut (not_mem_hex (by decide)), splitP_one (not_mem_hex (by decide))]
theorem head_words (m : MManifest) : splitP 32 (headT m) = [[110, 101, 120, 116], decD m.fNext, [108, 111, 103], decD m.fLog] := by
  have e : headT m = [110, 101, 120, 116] ++ 32 :: (decD m.fNext ++ 32 :: ([108, 111, 103] ++ 32 :: decD m.fLog)) := by
    unfold headT nextW logW
    simp only [List.append_assoc, List.cons_append, List.nil_append]
  rw [e, splitP_cut (by decide), splitP_cut (not_mem_dec (by decide)), splitP_cut (by decide), splitP_one (not_mem_dec (by decide))]
theorem ten_line (t : MMeta) : (10 : UInt8) ∉ lineT t := by
  unfold lineT
  simp only [List.mem_append, not_or]
  refine ⟨⟨⟨⟨⟨⟨⟨⟨by decide, by decide⟩, not_mem_dec (by decide)⟩, by decide⟩, not_mem_dec (by decide)⟩, by decide⟩, not_mem_hex (by decide)⟩, by decide⟩, not_mem_hex (by decide)⟩
theorem ten_head (m : MManifest) : (10 : UInt8) ∉ headT m := by
  unfold headT
  simp only [List.mem_append, not_or]
  exact ⟨⟨⟨by decide, not_mem_dec (by decide)⟩, by decide⟩, not_mem_dec (by decide)⟩
theorem split_lines : ∀ (l : List MMeta) (r : List UInt8), splitP 10 (linesT l ++ r) = l.map lineT ++ splitP 10 r
  | [], r => by simp [linesT]
  | t :: l, r => by
    have e : linesT (t :: l) ++ r = lineT t ++ 10 :: (linesT l ++ r) := by
      unfold linesT
      rw [List.flatMap_cons]
      simp only [List.append_assoc, List.cons_append, List.nil_append]
    rw [e, splitP_cut (ten_line t), split_lines l r]
    rfl
theorem text_lines (m : MManifest) : splitP 10 (manTextL m) = headT m :: (m.fTables.map lineT ++ [endW, []]) := by
  have e : manTextL m = headT m ++ 10 :: (linesT m.fTables ++ (endW ++ 10 :: [])) := by
    unfold manTextL
    simp only [List.append_assoc, List.cons_append, List.nil_append]
  rw [e, splitP_cut (ten_head m), split_lines, splitP_cut (by decide)]
  rfl
theorem take_lines {nx : Int} (hn : nx ≤ 100000) : ∀ (l : List MMeta) (i : Nat) (m : MManifest) (r : List (List UInt8)), 0 < i → (∀ t, t ∈ l → MetaOk nx t) → takeAll i (l.map lineT ++ r) m = takeAll (i + l.length) r { m with fTables := m.fTables ++ l }
  | [], i, m, r, _, _ => by simp
  | t :: l, i, m, r, hi, h => by
    have h1 := h t (by simp)
    have ht : takeL i (splitP 32 (lineT t)) m = { m with fTables := m.fTables ++ [t] } := by
      unfold takeL
      rw [if_neg (by omega), line_words, if_pos (show [tabW, decD t.fNo, decD t.fLevel, hexT t.fLo, hexT t.fHi].length = 5 from rfl)]
      simp only [List.getD_cons_succ, List.getD_cons_zero]
      rw [numP_dec (by have := h1.no0; omega) (by have := h1.no1; omega), numP_dec h1.lv0 (by have := h1.lv1; omega), unhexT, unhexT, strB_of, strB_of]
    rw [List.map_cons, List.cons_append, takeAll, ht, take_lines hn l (i + 1) _ r (by omega) (fun x hx => h x (List.mem_cons_of_mem _ hx))]
    simp only [List.append_assoc, List.cons_append, List.nil_append, List.length_cons]
    congr 1
    omega
/-- The text of a right manifest is read as that manifest. -/
theorem spec_back {m : MManifest} (h : manOkP m = true) : specP (manTextL m) = m := by
  have hf := manOkP_facts h
  have hlen := hf.len
  unfold specP
  rw [text_lines, List.take_of_length_le (by simp; omega), takeAll]
  have hh : takeL 0 (splitP 32 (headT m)) ⟨0, 0, []⟩ = ⟨m.fNext, m.fLog, []⟩ := by
    unfold takeL
    rw [if_pos rfl, head_words, if_pos (show [[110, 101, 120, 116], decD m.fNext, [108, 111, 103], decD m.fLog].length = 4 from rfl)]
    simp only [List.getD_cons_succ, List.getD_cons_zero]
    rw [numP_dec (by have := hf.nx0; omega) hf.nx1, numP_dec hf.lg0 (by have := hf.lg1; have := hf.nx1; omega)]
  rw [hh, take_lines hf.nx1 m.fTables (0 + 1) _ _ (by omega) hf.each]
  have e1 : splitP 32 endW = [endW] := splitP_one (by decide)
  have e2 : splitP 32 [] = [[]] := rfl
  simp only [takeAll, takeL, e1, e2]
  rw [if_neg (by omega), if_neg (by decide), if_neg (by omega), if_neg (by decide)]
  simp

end Go.Proofs.YtnohnkcijomdjaaGreatDoor

namespace Go.Proofs.YtnohnkcijomdjaaGreatDoor
open Go.RowKit Go.Maps Go.Shelf

def hexW : List UInt8 := [48, 49, 50, 51, 52, 53, 54, 55, 56, 57, 97, 98, 99, 100, 101, 102]
/-- Whether a word is digits. -/
def digW (x : List UInt8) : Bool := decide (Lib.trimS x hexW = [])
def wordV (x : List UInt8) : Value := bif digW x then .iface 111 (.string (strB x)) else .iface 108 (.string (strB x))

theorem trim_any (x : List UInt8) (w : World) (hx : x.length ≤ 1048576) :
    Calls Tryz.prog 104 #[.string (strB x), .string ⟨#[48, 49, 50, 51, 52, 53, 54, 55, 56, 57, 97, 98, 99, 100, 101, 102]⟩] w fun e w' => e = .returned (.string (strB (Lib.trimS x hexW))) ∧ Below w.heap.size w w' := by
  have hs : (strB x).size = x.length := by rw [Lib.size_eq, strB_data]
  refine (Any.strings_Trim_laid layTrim (by kernel_rfl) (strB x) ⟨hexW.toArray⟩ w (by omega) (by decide) (ascii_of_all (by decide))).mono ?_
  rintro e w1 ⟨rfl, hb⟩
  rw [strB_data]
  exact ⟨rfl, hb⟩

set_option maxHeartbeats 1000000 in
theorem wordOf_any (x : List UInt8) (w : World) (hx : x.length ≤ 1048576) :
    Calls Tryz.prog 88 #[.string (strB x)] w fun e w' => e = .returned (wordV x) ∧ Below w.heap.size w w' := by
  by_cases h : Lib.trimS x hexW = []
  · have HV : Hid (wordV x = .iface 111 (.string (strB x))) := by show _ = _; unfold wordV digW; rw [decide_eq_true h]; rfl
    go_enter Tryz.func88, Tryz.ntmps88
    go_wp2_with fail
    refine (trim_any x w hx).mono ?_
    rintro e w1 ⟨rfl, hb⟩
    rw [h, show strB [] = (⟨#[]⟩ : ByteArray) from rfl]
    go_wp2_with fail
    go_ret
    exact ⟨by rw [HV.out]; rfl, hb⟩
  · have HV : Hid (wordV x = .iface 108 (.string (strB x))) := by show _ = _; unfold wordV digW; rw [decide_eq_false h]; rfl
    have hne : (strB (Lib.trimS x hexW)).toList.isEmpty = false := k_nemp (fun hc => h (by rw [Lib.size_eq, strB_data] at hc; exact List.eq_nil_of_length_eq_zero hc))
    go_enter Tryz.func88, Tryz.ntmps88
    go_wp2_with fail
    refine (trim_any x w hx).mono ?_
    rintro e w1 ⟨rfl, hb⟩
    generalize strB (Lib.trimS x hexW) = y at *
    go_wp2_with fail
    go_ret
    exact ⟨by rw [HV.out]; rfl, hb⟩

/-- A reader in its box: the words that are left, and whether it is bad. -/
def WdR (w : World) (A : Nat) (l : List (List UInt8)) (b : Bool) : Prop :=
  ∃ (p : Option Addr) (c : Nat), Bw w A 54 [.slice p l.length c, .bool b] ∧ l.length ≤ c ∧ ∀ (j : Nat) (x : List UInt8), l[j]? = some x → x.length ≤ 1048576 ∧ ∃ R i, p = some ⟨R, i, none⟩ ∧ R < A ∧ R < w.heap.size ∧ w.cell? ⟨R, i + j, none⟩ = some (.string (strB x))
theorem WdR.turn {w w' : World} {A : Nat} {l : List (List UInt8)} {b : Bool} {F : List Nat} (h : WdR w A l b) (ht : Turn F w w') (hF : ∀ k, k ∈ F → A < k) : WdR w' A l b := by
  obtain ⟨p, c, hb, hc, hw⟩ := h
  refine ⟨p, c, hb.turn ht (fun hm => Nat.lt_irrefl _ (hF A hm)), hc, fun j x hx => ?_⟩
  obtain ⟨h1, R, i, hp, hRA, hR, hcell⟩ := hw j x hx
  exact ⟨h1, R, i, hp, hRA, Nat.lt_of_lt_of_le hR ht.size, (ht.cell hR (fun hm => by have := hF R hm; omega)).trans hcell⟩
theorem WdR.below {w w' : World} {A : Nat} {l : List (List UInt8)} {b : Bool} (h : WdR w A l b) (ht : Below w.heap.size w w') : WdR w' A l b :=
  h.turn (F := []) (Turn.ofBelow ht) (fun k hk => by simp at hk)
theorem WdR.set {w : World} {A : Nat} {l : List (List UInt8)} {b : Bool} (h : WdR w A l b) (b' : Bool) : WdR (w.setCell ⟨A, 1, none⟩ (.bool b')) A l b' := by
  obtain ⟨p, c, hb, hc, hw⟩ := h
  refine ⟨p, c, hb.put 1 (.bool b'), hc, fun j x hx => ?_⟩
  obtain ⟨h1, R, i, hp, hRA, hR, hcell⟩ := hw j x hx
  have ht : Turn [A] w (w.setCell ⟨A, 1, none⟩ (.bool b')) := (Turn.refl [A] w).setCell (by simp) _
  exact ⟨h1, R, i, hp, hRA, Nat.lt_of_lt_of_le hR ht.size, (ht.cell hR (by simpa using Nat.ne_of_lt hRA)).trans hcell⟩

set_option maxHeartbeats 1000000 in
theorem take_any (A : Nat) (l : List (List UInt8)) (b ok : Bool) (w : World) (h : WdR w A l b) :
    Calls Tryz.prog 44 #[.pointer (some ⟨A, 0, none⟩), .bool ok] w fun e w' => e = .returned (.tuple #[]) ∧ WdR w' A l (b || !ok) ∧ Turn [A] w w' := by
  have HN := Hid.mk (h.set (b || !ok))
  have HT := Hid.mk ((Turn.refl [A] w).setCell (p := ⟨A, 1, none⟩) (by simp) (.bool (b || !ok)))
  obtain ⟨p, c, hb, hc, hw⟩ := h
  have c1 := hb.cell 1 _ rfl
  have f1 := hb.free 1
  have hl := hb.lt
  clear hb hc hw
  cases b <;> cases ok
  all_goals
    go_enter Tryz.func44, Tryz.ntmps44
    go_wp2_with fail
    exact bodyPost_end (v := .tuple #[]) (by simp [results, Tryz.results44, go_sem]) rfl ⟨rfl, HN.out, HT.out⟩

/-- What a reader answers as its next word. -/
def nextV : List (List UInt8) → Value
  | [] => .nilIface
  | x :: _ => wordV x

set_option maxHeartbeats 1000000 in
theorem word_any (A : Nat) (l : List (List UInt8)) (b : Bool) (w : World) (h : WdR w A l b) :
    Calls Tryz.prog 68 #[.pointer (some ⟨A, 0, none⟩)] w fun e w' => e = .returned (nextV l) ∧ WdR w' A l.tail b ∧ Turn [A] w w' := by
  have HR := Hid.mk h
  obtain ⟨p, c, hb, hc, hw⟩ := h
  have c0 := hb.cell 0 _ rfl
  have f0 := hb.free 0
  have hl := hb.lt
  cases l with
  | nil =>
    go_enter Tryz.func68, Tryz.ntmps68
    go_wp2_with fail
    go_ret
    exact ⟨rfl, HR.out, Turn.refl _ _⟩
  | cons x l =>
    obtain ⟨hx, R, i, rfl, hRA, hRl, hcx⟩ := hw 0 x rfl
    have hlen : (x :: l).length = l.length + 1 := rfl
    obtain ⟨n, hn⟩ : ∃ n, n = l.length := ⟨_, rfl⟩
    rw [hlen, ← hn] at c0 hc
    have HN := Hid.mk hn
    have HW := Hid.mk hw
    have HB := Hid.mk hb
    clear hlen hn hw hb
    have hlen0 : ¬ (((n + 1 : Nat) : Int) = 0) := by omega
    have hcx : w.cell? ⟨R, i, none⟩ = some (.string (strB x)) := hcx
    have hstep : ∀ (w1 : World) (i' c' : Nat), Below w.heap.size w w1 → n ≤ c' → (n ≠ 0 → i' = i + 1) → WdR (w1.setCell ⟨A, 0, none⟩ (.slice (some ⟨R, i', none⟩) n c')) A l b ∧ Turn [A] w (w1.setCell ⟨A, 0, none⟩ (.slice (some ⟨R, i', none⟩) n c')) := by
      intro w1 i' c' hb1 hn hi
      have ht : Turn [A] w (w1.setCell ⟨A, 0, none⟩ (.slice (some ⟨R, i', none⟩) n c')) := (Turn.ofBelow hb1).setCell (by simp) _
      refine ⟨⟨some ⟨R, i', none⟩, c', ?_, by rw [← HN.out]; exact hn, fun j y hy => ?_⟩, ht⟩
      · rw [← HN.out]; exact (HB.out.under hb1).put 0 _
      · obtain ⟨h1, R1, i1, hp, hRA1, hR1, hcell⟩ := HW.out (j + 1) y (by simpa using hy)
        cases hp
        have hj : j < l.length := (List.getElem?_eq_some_iff.1 hy).1
        have hn0 : n ≠ 0 := by rw [HN.out]; omega
        have hi1 := hi hn0
        subst hi1
        refine ⟨h1, R, i + 1, rfl, hRA, Nat.lt_of_lt_of_le hRl ht.size, ?_⟩
        rw [show i + 1 + j = i + (j + 1) by omega]
        exact (ht.cell hRl (by simpa using Nat.ne_of_lt hRA)).trans hcell
    have HS := Hid.mk hstep
    have hbw := HB.out.free 0
    have HF : Hid (∀ w1, Below w.heap.size w w1 → w1.frozen? ⟨A, 0, none⟩ = false) := fun w1 hb1 => (HB.out.under hb1).free 0
    clear hstep
    by_cases hc1 : c = 1
    · subst hc1
      have hn0 : n = 0 := by omega
      subst hn0
      go_enter Tryz.func68, Tryz.ntmps68
      go_wp2_with fail
      refine (wordOf_any x w hx).mono ?_
      rintro e w1 ⟨rfl, hb1⟩
      have c1 : w1.cell? ⟨A, 0, none⟩ = some (.slice (some ⟨R, i, none⟩) (0 + 1) 1) := (World.cell?_of_block (w := w) (hb1.block A hl)).trans c0
      have f1 := HF.out w1 hb1
      have hl1 : A < w1.heap.size := Nat.lt_of_lt_of_le hl hb1.size
      go_wp2_with fail
      go_ret
      have h2 := HS.out w1 i 0 hb1 (by omega) (by omega)
      exact ⟨rfl, h2.1, h2.2⟩
    · go_enter Tryz.func68, Tryz.ntmps68
      go_wp2_with fail
      refine (wordOf_any x w hx).mono ?_
      rintro e w1 ⟨rfl, hb1⟩
      have c1 : w1.cell? ⟨A, 0, none⟩ = some (.slice (some ⟨R, i, none⟩) (n + 1) c) := (World.cell?_of_block (w := w) (hb1.block A hl)).trans c0
      have f1 := HF.out w1 hb1
      have hl1 : A < w1.heap.size := Nat.lt_of_lt_of_le hl hb1.size
      go_wp2_with fail
      go_ret
      have h2 := HS.out w1 (i + 1) (c - 1) hb1 (by omega) (by omega)
      exact ⟨rfl, h2.1, h2.2⟩

/-- The next word, if it is a name. -/
def nameP : List (List UInt8) → List UInt8 × Bool
  | [] => ([], false)
  | x :: _ => bif digW x then ([], false) else (x, true)
/-- The next word, if it is digits. -/
def digsP : List (List UInt8) → List UInt8 × Bool
  | [] => ([], false)
  | x :: _ => bif digW x then (x, true) else ([], false)
theorem nextV_cases (l : List (List UInt8)) : (nextV l = .nilIface ∧ nameP l = ([], false) ∧ digsP l = ([], false)) ∨ (∃ x, nextV l = .iface 111 (.string (strB x)) ∧ nameP l = ([], false) ∧ digsP l = (x, true)) ∨ (∃ x, nextV l = .iface 108 (.string (strB x)) ∧ nameP l = (x, true) ∧ digsP l = ([], false)) := by
  cases l with
  | nil => exact Or.inl ⟨rfl, rfl, rfl⟩
  | cons x l =>
    cases h : digW x
    · exact Or.inr (Or.inr ⟨x, by simp [nextV, wordV, h], by simp [nameP, h], by simp [digsP, h]⟩)
    · exact Or.inr (Or.inl ⟨x, by simp [nextV, wordV, h], by simp [nameP, h], by simp [digsP, h]⟩)

theorem asN_yes (v : Value) (w : World) : (Instr.typeAssert (.iface 108 v) 20 108 true).run Tryz.prog w = .ok (.tuple #[v, .bool true]) w := by
  simp [Instr.typeAssert, run_underlying Tryz.underlying108, go_sem, Result.andThen]
theorem asN_no (v : Value) (w : World) : (Instr.typeAssert (.iface 111 v) 20 108 true).run Tryz.prog w = .ok (.tuple #[.string ⟨#[]⟩, .bool false]) w := by
  simp [Instr.typeAssert, run_underlying Tryz.underlying108, Tryz.zeroValue108, go_sem, Result.andThen]
theorem asN_nil (w : World) : (Instr.typeAssert .nilIface 20 108 true).run Tryz.prog w = .ok (.tuple #[.string ⟨#[]⟩, .bool false]) w := by
  simp [Instr.typeAssert, run_underlying Tryz.underlying108, Tryz.zeroValue108, go_sem, Result.andThen]
theorem asD_yes (v : Value) (w : World) : (Instr.typeAssert (.iface 111 v) 20 111 true).run Tryz.prog w = .ok (.tuple #[v, .bool true]) w := by
  simp [Instr.typeAssert, run_underlying Tryz.underlying111, go_sem, Result.andThen]
theorem asD_no (v : Value) (w : World) : (Instr.typeAssert (.iface 108 v) 20 111 true).run Tryz.prog w = .ok (.tuple #[.string ⟨#[]⟩, .bool false]) w := by
  simp [Instr.typeAssert, run_underlying Tryz.underlying111, Tryz.zeroValue111, go_sem, Result.andThen]
theorem asD_nil (w : World) : (Instr.typeAssert .nilIface 20 111 true).run Tryz.prog w = .ok (.tuple #[.string ⟨#[]⟩, .bool false]) w := by
  simp [Instr.typeAssert, run_underlying Tryz.underlying111, Tryz.zeroValue111, go_sem, Result.andThen]

set_option maxHeartbeats 1000000 in
theorem name_any (A : Nat) (l : List (List UInt8)) (b : Bool) (w : World) (h : WdR w A l b) :
    Calls Tryz.prog 45 #[.pointer (some ⟨A, 0, none⟩)] w fun e w' => e = .returned (.string (strB (nameP l).1)) ∧ WdR w' A l.tail (b || !(nameP l).2) ∧ Turn [A] w w' := by
  have HC := Hid.mk (word_any A l b w h)
  rcases nextV_cases l with ⟨hv, hN, hD⟩ | ⟨x, hv, hN, hD⟩ | ⟨x, hv, hN, hD⟩
  all_goals
    rw [hN]
    have HV := Hid.mk hv
    have r0 := asN_yes
    have r1 := asN_no
    have r2 := asN_nil
    clear hN hD hv h
    go_enter Tryz.func45, Tryz.ntmps45
    go_wp2_with fail
    refine HC.out.mono ?_
    rintro e w1 ⟨rfl, hr1, ht1⟩
    rw [HV.out]
    go_wp2_with fail
    refine (take_any A l.tail b _ w1 hr1).mono ?_
    rintro e w2 ⟨rfl, hr2, ht2⟩
    go_wp2_with fail
    go_ret
    exact ⟨rfl, hr2, ht1.trans ht2⟩


/-- The library's two errors, as they are laid. -/
def Ers (w : World) : Prop := ((∃ tp p, w.var? Tryz.prog "strconv.ErrSyntax" = some #[.iface tp p]) ∧ layAtoi_ren.g 15 < w.heap.size) ∧ (∃ tp p, w.var? Tryz.prog "strconv.ErrRange" = some #[.iface tp p]) ∧ layAtoi_ren.g 16 < w.heap.size
theorem Ers.below {w w' : World} (h : Ers w) (hb : Below w.heap.size w w') : Ers w' := by
  obtain ⟨⟨⟨t1, p1, h1⟩, k1⟩, ⟨t2, p2, h2⟩, k2⟩ := h
  exact ⟨⟨⟨t1, p1, var?_below hb (by kernel_rfl) k1 h1⟩, Nat.lt_of_lt_of_le k1 hb.size⟩, ⟨t2, p2, var?_below hb (by kernel_rfl) k2 h2⟩, Nat.lt_of_lt_of_le k2 hb.size⟩

/-- What the library reads: a number, and whether it is one. -/
def atoP (x : List UInt8) : Int × Bool :=
  match Lib.atoiAll x with
  | .ok v => (v, true)
  | .range => (Lib.atoiSat x, false)
  | _ => (0, false)

theorem atoi_any (x : List UInt8) (w : World) (hx : x.length ≤ 1048576) (hE : Ers w) :
    Calls Tryz.prog 69 #[.string (strB x)] w fun e w' => ∃ ev, e = .returned (.tuple #[.int .i64 (atoP x).1, ev]) ∧ ((atoP x).2 = true ∧ ev = .nilIface ∨ (atoP x).2 = false ∧ ∃ N, ev = .iface (layAtoi_ren.t 168) (.pointer (some ⟨N, 0, none⟩))) ∧ Below w.heap.size w w' := by
  have hs : (strB x).size = x.length := by rw [Lib.size_eq, strB_data]
  obtain ⟨⟨⟨t1, p1, h1⟩, k1⟩, ⟨t2, p2, h2⟩, k2⟩ := hE
  unfold atoP
  cases h : Lib.atoiAll x with
  | ok v =>
    refine (Any.strconv_Atoi_ok layAtoi (strB x) (by omega) v (by rw [strB_data]; exact h) w).mono ?_
    rintro e w1 ⟨rfl, hw⟩
    refine ⟨_, rfl, Or.inl ⟨rfl, rfl⟩, ?_⟩
    rcases hw with rfl | ⟨t, rfl⟩
    · exact Below.refl _ _
    · exact bytesWorld_below _ _ _
  | range =>
    refine (Any.strconv_Atoi_range_var layAtoi (strB x) (by omega) (by rw [strB_data]; exact h) t2 p2 w h2).mono ?_
    rintro e w1 ⟨N, rfl, _, _, hb⟩
    exact ⟨_, by rw [strB_data], Or.inr ⟨rfl, N, rfl⟩, hb⟩
  | _ =>
    refine (Any.strconv_Atoi_syntax_var layAtoi (strB x) (by omega) (by rw [strB_data]; exact h) t1 p1 w h1).mono ?_
    rintro e w1 ⟨N, rfl, _, _, hb⟩
    exact ⟨_, rfl, Or.inr ⟨rfl, N, rfl⟩, hb⟩

def numbP (l : List (List UInt8)) : Int × Bool := ((atoP (digsP l).1).1, (digsP l).2 && (atoP (digsP l).1).2)
theorem digs_len {l : List (List UInt8)} (h : ∀ (j : Nat) x, l[j]? = some x → x.length ≤ 1048576) : (digsP l).1.length ≤ 1048576 := by
  cases l with
  | nil => exact Nat.zero_le _
  | cons x l =>
    have := h 0 x rfl
    cases hd : digW x <;> simp [digsP, hd] <;> omega
theorem WdR.lens {w : World} {A : Nat} {l : List (List UInt8)} {b : Bool} (h : WdR w A l b) : ∀ (j : Nat) x, l[j]? = some x → x.length ≤ 1048576 := by
  obtain ⟨p, c, hb, hc, hw⟩ := h
  exact fun j x hx => (hw j x hx).1

set_option maxHeartbeats 1000000 in
theorem number_any (A : Nat) (l : List (List UInt8)) (b : Bool) (w : World) (h : WdR w A l b) (hE : Ers w) (hA : ∀ w', Turn [A] w w' → Ers w') :
    Calls Tryz.prog 46 #[.pointer (some ⟨A, 0, none⟩)] w fun e w' => e = .returned (.int .i64 (numbP l).1) ∧ WdR w' A l.tail (b || !(numbP l).2) ∧ Turn [A] w w' := by
  have HC := Hid.mk (word_any A l b w h)
  have hL := digs_len h.lens
  unfold numbP
  have HAt : Hid (∀ w1, Ers w1 → Calls Tryz.prog 69 #[.string (strB (digsP l).1)] w1 fun e w' => ∃ ev, e = .returned (.tuple #[.int .i64 (atoP (digsP l).1).1, ev]) ∧ ((atoP (digsP l).1).2 = true ∧ ev = .nilIface ∨ (atoP (digsP l).1).2 = false ∧ ∃ N, ev = .iface (layAtoi_ren.t 168) (.pointer (some ⟨N, 0, none⟩))) ∧ Below w1.heap.size w1 w') := fun w1 h1 => atoi_any _ w1 hL h1
  have HA := Hid.mk hA
  generalize hy : (atoP (digsP l).1).1 = y at *
  generalize hz : (atoP (digsP l).1).2 = z at *
  clear hy hz
  rcases nextV_cases l with ⟨hv, hN, hD⟩ | ⟨x, hv, hN, hD⟩ | ⟨x, hv, hN, hD⟩
  all_goals
    rw [hD] at HAt ⊢
    have HV := Hid.mk hv
    have r0 := asD_yes
    have r1 := asD_no
    have r2 := asD_nil
    clear hN hD hv h hL hA
    go_enter Tryz.func46, Tryz.ntmps46
    go_wp2_with fail
    refine HC.out.mono ?_
    rintro e w1 ⟨rfl, hr1, ht1⟩
    rw [HV.out]
    go_wp2_with fail
    refine (HAt.out w1 (HA.out w1 ht1)).mono ?_
    rintro e w2 ⟨ev, rfl, hev, hb2⟩
    rcases hev with ⟨rfl, rfl⟩ | ⟨rfl, N, rfl⟩
    all_goals
      go_wp2_with fail
      refine (take_any A l.tail b _ w2 (hr1.below hb2)).mono ?_
      rintro e w3 ⟨rfl, hr3, ht3⟩
      go_wp2_with fail
      go_ret
      exact ⟨rfl, hr3, (ht1.trans (Turn.ofBelow hb2)).trans ht3⟩

end Go.Proofs.YtnohnkcijomdjaaGreatDoor
