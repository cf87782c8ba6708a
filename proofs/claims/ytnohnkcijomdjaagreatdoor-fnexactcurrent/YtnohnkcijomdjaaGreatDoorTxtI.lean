/-
  The text of a manifest: the program's, over the library's numerals and joined texts.
-/
import Derived.Test.YtnohnkcijomdjaaGreatDoorRegK
import Derived.Test.YtnohnkcijomdjaaGreatDoorItoL
import Derived.Test.YtnohnkcijomdjaaGreatDoorHexI
import Derived.Test.YtnohnkcijomdjaaGreatDoorManJ
import Derived.Lib.LaidTab
import Derived.Lib.AppendIntMem
import Derived.WalkSmall
namespace Go.Proofs.YtnohnkcijomdjaaGreatDoor
open Go.RowKit Go.Maps Go.Shelf
set_option linter.unusedVariables false
set_option linter.unusedSimpArgs false
set_option maxRecDepth 10000
abbrev qbbe_50_1_0 : Oper := ⟨some 3, .fieldAddr 49 (.tmp 1) 0, 0, "l06_manifest.go:90", #[], none⟩
abbrev qbbe_50_1_1 : Oper := ⟨some 4, .load 3 (.tmp 3), 3, "l06_manifest.go:90", #[⟨0, .data⟩], none⟩
abbrev qbbe_50_1_3 : Oper := ⟨some 6, .fieldAddr 49 (.tmp 1) 1, 0, "l06_manifest.go:90", #[], none⟩
abbrev qbbe_50_1_4 : Oper := ⟨some 7, .load 3 (.tmp 6), 3, "l06_manifest.go:90", #[⟨3, .data⟩], none⟩
abbrev qbbe_50_1_6 : Oper := ⟨some 9, .fieldAddr 49 (.tmp 1) 2, 0, "l06_manifest.go:90", #[], none⟩
abbrev qbbe_50_1_7 : Oper := ⟨some 10, .load 9 (.tmp 9), 9, "l06_manifest.go:90", #[⟨6, .data⟩], none⟩
abbrev qbbe_50_1_9 : Oper := ⟨some 12, .fieldAddr 49 (.tmp 1) 3, 0, "l06_manifest.go:90", #[], none⟩
abbrev qbbe_50_1_10 : Oper := ⟨some 13, .load 9 (.tmp 12), 9, "l06_manifest.go:90", #[⟨9, .data⟩], none⟩
abbrev qbbe_50_1_2 : Oper := ⟨some 5, .call { callee := .value (.func 49), args := #[.tmp 4], argTypes := #[3] }, 9, "l06_manifest.go:90", #[⟨1, .data⟩], none⟩
abbrev qbbe_50_1_5 : Oper := ⟨some 8, .call { callee := .value (.func 49), args := #[.tmp 7], argTypes := #[3] }, 9, "l06_manifest.go:90", #[⟨4, .data⟩, ⟨2, .chain⟩], none⟩
abbrev qbbe_50_1_8 : Oper := ⟨some 11, .call { callee := .value (.func 74), args := #[.tmp 10], argTypes := #[9] }, 9, "l06_manifest.go:90", #[⟨7, .data⟩, ⟨5, .chain⟩], none⟩
abbrev qbbe_50_1_11 : Oper := ⟨some 14, .call { callee := .value (.func 74), args := #[.tmp 13], argTypes := #[9] }, 9, "l06_manifest.go:90", #[⟨10, .data⟩, ⟨8, .chain⟩], none⟩
abbrev qbbe_50_1_12 : Oper := ⟨some 15, .buildSlice 44 5 #[(0, .const (.string { data := #[116, 97, 98] })), (1, .tmp 5), (2, .tmp 8), (3, .tmp 11), (4, .tmp 14)], 44, "l06_manifest.go:90", #[⟨2, .data⟩, ⟨5, .data⟩, ⟨8, .data⟩, ⟨11, .data⟩], none⟩
abbrev qbbe_50_1_13 : Oper := ⟨some 16, .call { callee := .value (.func 51), args := #[.tmp 15, .const (.string { data := #[32] })], argTypes := #[44, 9] }, 9, "l06_manifest.go:90", #[⟨12, .data⟩, ⟨11, .chain⟩], none⟩
abbrev qbbe_50_1_14 : Oper := ⟨some 2, .assign (.tmp 16), 9, "l06_manifest.go:90", #[⟨13, .data⟩, ⟨13, .chain⟩, ⟨0, .phase⟩, ⟨1, .phase⟩, ⟨2, .phase⟩, ⟨3, .phase⟩, ⟨4, .phase⟩, ⟨5, .phase⟩, ⟨6, .phase⟩, ⟨7, .phase⟩, ⟨8, .phase⟩, ⟨9, .phase⟩, ⟨10, .phase⟩, ⟨11, .phase⟩, ⟨12, .phase⟩, ⟨13, .phase⟩], none⟩
abbrev qbbe_23_3_0 : Oper := ⟨some 9, .fieldAddr 24 (.tmp 1) 0, 0, "l06_manifest.go:82", #[], none⟩
abbrev qbbe_23_3_1 : Oper := ⟨some 10, .load 3 (.tmp 9), 3, "l06_manifest.go:82", #[⟨0, .data⟩], none⟩
abbrev qbbe_23_3_5 : Oper := ⟨some 14, .fieldAddr 24 (.tmp 1) 1, 0, "l06_manifest.go:82", #[], none⟩
abbrev qbbe_23_3_6 : Oper := ⟨some 15, .load 3 (.tmp 14), 3, "l06_manifest.go:82", #[⟨5, .data⟩], none⟩
abbrev qbbe_23_3_2 : Oper := ⟨some 11, .call { callee := .value (.func 49), args := #[.tmp 10], argTypes := #[3] }, 9, "l06_manifest.go:82", #[⟨1, .data⟩], none⟩
abbrev qbbe_23_3_3 : Oper := ⟨some 12, .binOp .add 9 (.const (.string { data := #[110, 101, 120, 116, 32] })) (.tmp 11) 9, 9, "l06_manifest.go:82", #[⟨2, .data⟩], none⟩
abbrev qbbe_23_3_4 : Oper := ⟨some 13, .binOp .add 9 (.tmp 12) (.const (.string { data := #[32, 108, 111, 103, 32] })) 9, 9, "l06_manifest.go:82", #[⟨3, .data⟩], none⟩
abbrev qbbe_23_3_7 : Oper := ⟨some 16, .call { callee := .value (.func 49), args := #[.tmp 15], argTypes := #[3] }, 9, "l06_manifest.go:82", #[⟨6, .data⟩, ⟨2, .chain⟩], none⟩
abbrev qbbe_23_3_8 : Oper := ⟨some 17, .binOp .add 9 (.tmp 13) (.tmp 16) 9, 9, "l06_manifest.go:82", #[⟨4, .data⟩, ⟨7, .data⟩], none⟩
abbrev qbbe_23_3_9 : Oper := ⟨some 18, .buildSlice 44 1 #[(0, .tmp 17)], 44, "l06_manifest.go:82", #[⟨8, .data⟩], none⟩
abbrev qbbe_23_3_10 : Oper := ⟨some 3, .assign (.tmp 18), 44, "l06_manifest.go:82", #[⟨9, .data⟩, ⟨7, .chain⟩, ⟨0, .phase⟩, ⟨1, .phase⟩, ⟨2, .phase⟩, ⟨3, .phase⟩, ⟨4, .phase⟩, ⟨5, .phase⟩, ⟨6, .phase⟩, ⟨7, .phase⟩, ⟨8, .phase⟩, ⟨9, .phase⟩], none⟩

/-- The library's table of tens lies as it was laid. -/
def Pow (w : World) : Prop := Lib.TabIs Tryz.prog w "internal/strconv.uint64pow10" .u64 Lib.pow10Tab ∧ layItoa_ren.g 17 < w.heap.size
theorem Pow.below {w w' : World} (h : Pow w) (hb : Below w.heap.size w w') : Pow w' :=
  ⟨var?_below hb (by kernel_rfl) h.2 h.1, Nat.lt_of_lt_of_le h.2 hb.size⟩

theorem itoa_any (n : Int) (w : World) (h0 : 0 ≤ n) (h1 : n ≤ 100000) (hT : Pow w) :
    Calls Tryz.prog 49 #[.int .i64 n] w fun e w' => e = .returned (.string (strB (decD n))) ∧ Below w.heap.size w w' := by
  refine (Any.strconv_Itoa layItoa n (by omega) (by omega) w hT.1).mono ?_
  rintro e w1 ⟨rfl, k, os, rfl⟩
  exact ⟨by rw [decD_itoa h0]; rfl, Lib.below_grow _ _ (Nat.le_refl _) _ _⟩

theorem bExtra : Builder.Extra Tryz.prog layJoin_ren where
  sizeBuilder := by kernel_rfl
  liesBuilder := by kernel_rfl
  t5 := Tryz.underlying5
  a5 := Tryz.isAgg5
  z5 := Tryz.sizeOf5
  v5 := Tryz.zeroValue5
  infoByte := by kernel_rfl
  cellsByte := by kernel_rfl
  sizeByte := by kernel_rfl
  neB5 := by decide

theorem join_any (g c n : Nat) (ls : List (List UInt8)) (sep : List UInt8) (sp : ByteArray) (w : World) (hsp : sp = strB sep) (hn : ls.length = n) (hb : Bx w g (ls.map fun l => Value.string (strB l))) (hc : n ≤ c) (h20 : n ≤ 100) (hl : (Lib.join ls sep).length ≤ 140737488355328) :
    Calls Tryz.prog 51 #[.slice (some ⟨g, 0, none⟩) n c, .string sp] w fun e w' => e = .returned (.string (strB (Lib.join ls sep))) ∧ Below w.heap.size w w' := by
  subst hsp
  have e1 : (ls.map strB).map (fun s => s.data.toList) = ls := by
    rw [List.map_map]
    conv => rhs; rw [← List.map_id ls]
    apply List.map_congr_left
    intro l _
    exact strB_data l
  have e2 : (strB sep).data.toList = sep := strB_data sep
  have hq := Any.strings_Join layJoin bExtra g 0 c (ls.map strB) (strB sep) w (fun j x hx => by
    rw [Nat.zero_add]
    refine hb.2 j _ ?_
    rw [List.getElem?_map] at hx ⊢
    obtain ⟨y, hy, rfl⟩ := Option.map_eq_some_iff.1 hx
    rw [hy]; rfl) hb.1 (by rw [List.length_map]; omega) (by rw [List.length_map]; omega) (by rw [e1, e2]; exact hl)
  rw [e1, e2, List.length_map, hn] at hq
  exact hq

set_option maxHeartbeats 4000000 in
theorem tableLine_any (x : MMeta) (nx : Int) (w : World) (hM : MetaOk nx x) (hn : nx ≤ 100000) (hT : Pow w) :
    Calls Tryz.prog 50 #[.agg #[.int .i64 x.fNo, .int .i64 x.fLevel, .string x.fLo, .string x.fHi]] w fun e w' => e = .returned (.string (strB (lineT x))) ∧ Below w.heap.size w w' := by
  have HJ := Hid.mk (join_line x)
  have HLen := Hid.mk (lineT_len hM hn)
  obtain ⟨wp, hwp⟩ : ∃ wp, wp = w.alloc (.cells #[.int .i64 x.fNo, .int .i64 x.fLevel, .string x.fLo, .string x.fHi] 49) := ⟨_, rfl⟩
  have hbp : Below w.heap.size w wp := by rw [hwp]; exact (Below.refl _ _).alloc (Nat.le_refl _) _
  have hbxp : Bx wp w.heap.size [.int .i64 x.fNo, .int .i64 x.fLevel, .string x.fLo, .string x.fHi] := by rw [hwp]; exact Bx.new _ _ _
  have p0 : ∀ W, Below wp.heap.size wp W → W.cell? ⟨w.heap.size, 0, none⟩ = some (.int .i64 x.fNo) := fun W hb => (hbxp.under hb).2 0 _ rfl
  have p1 : ∀ W, Below wp.heap.size wp W → W.cell? ⟨w.heap.size, 1, none⟩ = some (.int .i64 x.fLevel) := fun W hb => (hbxp.under hb).2 1 _ rfl
  have p2 : ∀ W, Below wp.heap.size wp W → W.cell? ⟨w.heap.size, 2, none⟩ = some (.string x.fLo) := fun W hb => (hbxp.under hb).2 2 _ rfl
  have p3 : ∀ W, Below wp.heap.size wp W → W.cell? ⟨w.heap.size, 3, none⟩ = some (.string x.fHi) := fun W hb => (hbxp.under hb).2 3 _ rfl
  have hC1 := fun W (hb : Below wp.heap.size wp W) => itoa_any x.fNo W (by have := hM.no0; omega) (by have := hM.no1; omega) (hT.below (bthen hbp hb))
  have hC2 := fun W (hb : Below wp.heap.size wp W) => itoa_any x.fLevel W hM.lv0 (by have := hM.lv1; omega) (hT.below (bthen hbp hb))
  have hC3 := fun W => digitsOf_any x.fLo W (Nat.le_trans hM.lo (by omega))
  have hC4 := fun W => digitsOf_any x.fHi W (Nat.le_trans hM.hi (by omega))
  clear hM hT
  go_enter Tryz.func50, Tryz.ntmps50
  go_wp2_with fail
  rw [← hwp]
  clear hwp
  refine wp_region_held_drew (S := fun W => Below wp.heap.size wp W) (by kernel_rfl) (Below.drew (Below.refl _ _)) (fun hHeld => ?_)
  refine tk 0 qbbe_50_1_0 (some 3) (v := ?v1) rfl rfl (by kernel_rfl) hHeld (by rfl) (fun _ _ _ x => x) (fun w h => ?y1) ?_; (case y1 => (try dsimp only at h); go_simp; try (with_reducible rfl)); try simp only [Act.put, sa, s0, s1]
  refine tk 1 qbbe_50_1_1 (some 4) (v := ?v2) rfl rfl (by kernel_rfl) hHeld (by rfl) (fun _ _ _ x => x) (fun w h => ?y2) ?_; (case y2 => (try dsimp only at h); go_simp; try (with_reducible rfl)); try simp only [Act.put, sa, s0, s1]
  refine tk 3 qbbe_50_1_3 (some 6) (v := ?v3) rfl rfl (by kernel_rfl) hHeld (by rfl) (fun _ _ _ x => x) (fun w h => ?y3) ?_; (case y3 => (try dsimp only at h); go_simp; try (with_reducible rfl)); try simp only [Act.put, sa, s0, s1]
  refine tk 4 qbbe_50_1_4 (some 7) (v := ?v4) rfl rfl (by kernel_rfl) hHeld (by rfl) (fun _ _ _ x => x) (fun w h => ?y4) ?_; (case y4 => (try dsimp only at h); go_simp; try (with_reducible rfl)); try simp only [Act.put, sa, s0, s1]
  refine tk 6 qbbe_50_1_6 (some 9) (v := ?v5) rfl rfl (by kernel_rfl) hHeld (by rfl) (fun _ _ _ x => x) (fun w h => ?y5) ?_; (case y5 => (try dsimp only at h); go_simp; try (with_reducible rfl)); try simp only [Act.put, sa, s0, s1]
  refine tk 7 qbbe_50_1_7 (some 10) (v := ?v6) rfl rfl (by kernel_rfl) hHeld (by rfl) (fun _ _ _ x => x) (fun w h => ?y6) ?_; (case y6 => (try dsimp only at h); go_simp; try (with_reducible rfl)); try simp only [Act.put, sa, s0, s1]
  refine tk 9 qbbe_50_1_9 (some 12) (v := ?v7) rfl rfl (by kernel_rfl) hHeld (by rfl) (fun _ _ _ x => x) (fun w h => ?y7) ?_; (case y7 => (try dsimp only at h); go_simp; try (with_reducible rfl)); try simp only [Act.put, sa, s0, s1]
  refine tk 10 qbbe_50_1_10 (some 13) (v := ?v8) rfl rfl (by kernel_rfl) hHeld (by rfl) (fun _ _ _ x => x) (fun w h => ?y8) ?_; (case y8 => (try dsimp only at h); go_simp; try (with_reducible rfl)); try simp only [Act.put, sa, s0, s1]
  refine wpAnyH_ready (rs := [2]) (by kernel_rfl) (by simp) ?_
  refine AllReadyH.cons (o := qbbe_50_1_2) rfl (fun K hK => ?_) AllReadyH.nil
  go_simp
  refine Calls.mono (hC1 _ hHeld) ?_
  rintro e w1 ⟨rfl, hx1⟩
  have hop1 := bthen hHeld hx1
  go_wp2_with fail
  refine hK.out _ _ (hop1) (fun hHeld => ?_)
  clear hK K
  try simp only [Act.put, sa, s0, s1]
  refine wpAnyH_ready (rs := [5]) (by kernel_rfl) (by simp) ?_
  refine AllReadyH.cons (o := qbbe_50_1_5) rfl (fun K hK => ?_) AllReadyH.nil
  go_simp
  refine Calls.mono (hC2 _ hHeld) ?_
  rintro e w2 ⟨rfl, hx2⟩
  have hop2 := bthen hHeld hx2
  go_wp2_with fail
  refine hK.out _ _ (hop2) (fun hHeld => ?_)
  clear hK K
  try simp only [Act.put, sa, s0, s1]
  refine wpAnyH_ready (rs := [8]) (by kernel_rfl) (by simp) ?_
  refine AllReadyH.cons (o := qbbe_50_1_8) rfl (fun K hK => ?_) AllReadyH.nil
  go_simp
  refine Calls.mono (hC3 _) ?_
  rintro e w3 ⟨rfl, hx3⟩
  have hop3 := bthen hHeld hx3
  go_wp2_with fail
  refine hK.out _ _ (hop3) (fun hHeld => ?_)
  clear hK K
  try simp only [Act.put, sa, s0, s1]
  refine wpAnyH_ready (rs := [11]) (by kernel_rfl) (by simp) ?_
  refine AllReadyH.cons (o := qbbe_50_1_11) rfl (fun K hK => ?_) AllReadyH.nil
  go_simp
  refine Calls.mono (hC4 _) ?_
  rintro e w4 ⟨rfl, hx4⟩
  have hop4 := bthen hHeld hx4
  go_wp2_with fail
  refine hK.out _ _ (hop4) (fun hHeld => ?_)
  clear hK K
  try simp only [Act.put, sa, s0, s1]
  refine wpAnyH_ready (rs := [12]) (by kernel_rfl) (by simp) ?_
  refine AllReadyH.cons (o := qbbe_50_1_12) rfl (fun K hK => ?_) AllReadyH.nil
  go_simp
  obtain ⟨w5, hq5⟩ : ∃ q, q = w4.alloc (.cells (List.toArray [Value.string (strB tabW), Value.string (strB (decD x.fNo)), Value.string (strB (decD x.fLevel)), Value.string (strB (hexT x.fLo)), Value.string (strB (hexT x.fHi))]) 9) := ⟨_, rfl⟩
  have hx5 : Below w4.heap.size w4 w5 := by rw [hq5]; exact (Below.refl _ _).alloc (Nat.le_refl _) _
  have hop5 := bthen hHeld hx5
  have hb5 : Bx w5 w4.heap.size ([tabW, decD x.fNo, decD x.fLevel, hexT x.fLo, hexT x.fHi].map fun l => Value.string (strB l)) := by rw [hq5]; exact Bx.new _ _ _
  have hJ := join_any w4.heap.size 5 5 [tabW, decD x.fNo, decD x.fLevel, hexT x.fLo, hexT x.fHi] [32] ⟨List.toArray [32]⟩ w5 rfl rfl hb5 (by omega) (by omega) (by rw [HJ.out]; have h := HLen.out; omega)
  rw [HJ.out] at hJ
  refine (show _ = w5 from hq5.symm) ▸ ?_
  clear hq5
  refine hK.out _ _ (hop5) (fun hHeld => ?_)
  clear hK K
  try simp only [Act.put, sa, s0, s1]
  refine wpAnyH_ready (rs := [13]) (by kernel_rfl) (by simp) ?_
  refine AllReadyH.cons (o := qbbe_50_1_13) rfl (fun K hK => ?_) AllReadyH.nil
  go_simp
  refine Calls.mono hJ ?_
  rintro e w6 ⟨rfl, hx6⟩
  have hop6 := bthen hHeld hx6
  go_wp2_with fail
  refine hK.out _ _ (hop6) (fun hHeld => ?_)
  clear hK K
  try simp only [Act.put, sa, s0, s1]
  refine tk 14 qbbe_50_1_14 (some 2) (v := ?v9) rfl rfl (by kernel_rfl) hHeld (by rfl) (fun _ _ _ x => x) (fun w h => ?y9) ?_; (case y9 => (try dsimp only at h); go_simp; try (with_reducible rfl)); try simp only [Act.put, sa, s0, s1]
  refine wpAnyH_done (by kernel_rfl) ?_ _
  go_wp2_with fail
  go_ret
  exact ⟨rfl, bthen hbp hop6⟩

theorem Tryz.infoTxt : (Tryz.prog.info? 9).map (fun i => (i.zero, i.size, i.bytes)) = some (some (.string ByteArray.empty), 1, 16) := by kernel_rfl

set_option maxHeartbeats 8000000 in
theorem implManText_c (cs : List Value) (m : MManifest) (w : World) (hr : rManifest w.heap.size w cs m) (hw : wManifest m ≤ 1048576) (hT : Pow w) :
    Calls Tryz.prog 23 #[.agg cs.toArray] w fun e w' => e = .returned (.string (manTextP m)) ∧ Below w.heap.size w w' := by
  have HRD := Hid.mk hr
  have HWW := Hid.mk hw
  obtain ⟨a0, c0, rfl, hwf0, hwf1, hL, _⟩ := hr
  have HL := Hid.mk hL
  obtain ⟨l, hl⟩ : ∃ l, l = m.fTables := ⟨_, rfl⟩
  obtain ⟨n, hx⟩ : ∃ n, n = l.length := ⟨_, rfl⟩
  have hn : n ≤ 1048576 := by have h : m.fTables.length + sumW wMeta m.fTables ≤ 1048576 := hw; rw [hx, hl]; omega
  have HSW : Hid (sumW wMeta l ≤ 1048576) := by show _ ≤ _; have h : m.fTables.length + sumW wMeta m.fTables ≤ 1048576 := hw; rw [hl]; omega
  have HLM := Hid.mk hl
  rw [← hl] at HL ⊢
  have HRD2 : Hid (rManifest w.heap.size w [.int .i64 m.fNext, .int .i64 m.fLog, .slice a0 n c0] m) := by have h := HRD.out; rw [← hl, ← hx] at h; exact h
  rw [← hx]
  have HX := Hid.mk hx.symm
  clear hL hw hl hx hwf0 hwf1 HRD
  go_enter Tryz.func23, Tryz.ntmps23
  obtain ⟨wq, hwq⟩ : ∃ wq, wq = w.alloc (.cells #[.int .i64 m.fNext, .int .i64 m.fLog, .slice a0 n c0] 24) := ⟨_, rfl⟩
  have hbq : Below w.heap.size w wq := by rw [hwq]; exact (Below.refl _ _).alloc (Nat.le_refl _) _
  have hbx : Bx wq w.heap.size [.int .i64 m.fNext, .int .i64 m.fLog, .slice a0 n c0] := by rw [hwq]; exact Bx.new _ _ _
  have y0 := hbx.2 0 _ rfl
  have y1 := hbx.2 1 _ rfl
  have y2 := hbx.2 2 _ rfl
  have hz := hbx.1
  go_wp2_with (rw [← hwq])
  refine (implManOk_c [.int .i64 m.fNext, .int .i64 m.fLog, .slice a0 n c0] m wq (rManifest_good.mono (rManifest_good.below HRD2.out hbq) hbq.size) HWW.out).mono ?_
  rintro e wm ⟨rfl, hxm⟩
  have hb1 := bthen hbq hxm
  by_cases hok : manOkP m = true
  rotate_left
  · have hokf := Bool.eq_false_iff.2 hok
    have HD := Hid.mk (manTextP_no hokf)
    rw [hokf]
    go_wp2_with fail
    go_ret
    exact ⟨by rw [HD.out]; rfl, hb1⟩
  have HF := Hid.mk (manOkP_facts hok)
  have HD := Hid.mk (manTextP_yes hok)
  rw [hok]
  have HD2 : Hid (manTextP m = strB (Lib.join (lineS m l ++ [endW, []]) [10])) := by show _ = _; rw [HD.out, join_lines, HLM.out]; rfl
  have hhl : (headT m).length ≤ 300000 := headT_len HF.out
  have hn20 : n ≤ 20 := by rw [← HX.out, HLM.out]; exact HF.out.len
  have hnx0 : 0 ≤ m.fNext := by have := HF.out.nx0; omega
  have hnx1 : m.fNext ≤ 100000 := HF.out.nx1
  have hlg0 : 0 ≤ m.fLog := HF.out.lg0
  have hlg1 : m.fLog ≤ 100000 := by have := HF.out.lg1; omega
  have hE : Hid (∀ t, t ∈ l → MetaOk m.fNext t) := by rw [HLM.out]; exact HF.out.each
  have q0 : ∀ W, Below wm.heap.size wm W → W.cell? ⟨w.heap.size, 0, none⟩ = some (.int .i64 m.fNext) := fun W hb => ((hbx.under hxm).under hb).2 0 _ rfl
  have q1 : ∀ W, Below wm.heap.size wm W → W.cell? ⟨w.heap.size, 1, none⟩ = some (.int .i64 m.fLog) := fun W hb => ((hbx.under hxm).under hb).2 1 _ rfl
  have q2 : ∀ W, Below wm.heap.size wm W → W.cell? ⟨w.heap.size, 2, none⟩ = some (.slice a0 n c0) := fun W hb => ((hbx.under hxm).under hb).2 2 _ rfl
  have hC1 := fun W (hb : Below wm.heap.size wm W) => itoa_any m.fNext W hnx0 hnx1 (hT.below (bthen hb1 hb))
  have hC2 := fun W (hb : Below wm.heap.size wm W) => itoa_any m.fLog W hlg0 hlg1 (hT.below (bthen hb1 hb))
  have HC3 : Hid (∀ (x : MMeta) (W : World), MetaOk m.fNext x → Below wm.heap.size wm W → Calls Tryz.prog 50 #[.agg #[.int .i64 x.fNo, .int .i64 x.fLevel, .string x.fLo, .string x.fHi]] W fun e w' => e = .returned (.string (strB (lineT x))) ∧ Below W.heap.size W w') := fun x W h hb => tableLine_any x m.fNext W h hnx1 (hT.below (bthen hb1 hb))
  obtain ⟨d1, HD1⟩ : ∃ d, Hid (d = strB (decD m.fNext)) := ⟨_, rfl⟩
  obtain ⟨d2, HD3⟩ : ∃ d, Hid (d = strB (decD m.fLog)) := ⟨_, rfl⟩
  have hd1 : d1.size ≤ 100001 := by rw [HD1.out, strB_size]; exact decD_len hnx1
  have hd2 : d2.size ≤ 100001 := by rw [HD3.out, strB_size]; exact decD_len hlg1
  rw [← HD1.out] at hC1
  rw [← HD3.out] at hC2
  have HH : Hid ((⟨#[110, 101, 120, 116, 32]⟩ : ByteArray) ++ d1 ++ ⟨#[32, 108, 111, 103, 32]⟩ ++ d2 = strB (headT m)) := by
    show _ = _
    rw [HD1.out, HD3.out, show (⟨#[110, 101, 120, 116, 32]⟩ : ByteArray) = strB nextW from rfl, show (⟨#[32, 108, 111, 103, 32]⟩ : ByteArray) = strB logW from rfl]
    simp only [strB_app, headT]
  have n1 : (9223372036854775807 < 5 + d1.size) = False := eq_false (by omega)
  have n2 : (9223372036854775807 < 5 + d1.size + 5) = False := eq_false (by omega)
  have n3 : (9223372036854775807 < 5 + d1.size + 5 + d2.size) = False := eq_false (by omega)
  obtain ⟨i0, hi, hz0, hz1, hz2⟩ := info_parts Tryz.infoTxt
  have HI : Hid (_ ∧ _ ∧ _ ∧ _) := ⟨hi, hz0, hz1, hz2⟩
  have HFX := HF
  clear HF HD hok y0 y1 y2 hwq hi hz0 hz1 hz2 hT
  go_wp2_with fail
  refine wp_region_held_drew (S := fun W => Below wm.heap.size wm W) (by kernel_rfl) (Below.drew (Below.refl _ _)) (fun hHeld => ?_)
  refine tk 0 qbbe_23_3_0 (some 9) (v := ?v10) rfl rfl (by kernel_rfl) hHeld (by rfl) (fun _ _ _ x => x) (fun w h => ?y10) ?_; (case y10 => (try dsimp only at h); go_simp; try (with_reducible rfl)); try simp only [Act.put, sa, s0, s1]
  refine tk 1 qbbe_23_3_1 (some 10) (v := ?v11) rfl rfl (by kernel_rfl) hHeld (by rfl) (fun _ _ _ x => x) (fun w h => ?y11) ?_; (case y11 => (try dsimp only at h); go_simp; try (with_reducible rfl)); try simp only [Act.put, sa, s0, s1]
  refine tk 5 qbbe_23_3_5 (some 14) (v := ?v12) rfl rfl (by kernel_rfl) hHeld (by rfl) (fun _ _ _ x => x) (fun w h => ?y12) ?_; (case y12 => (try dsimp only at h); go_simp; try (with_reducible rfl)); try simp only [Act.put, sa, s0, s1]
  refine tk 6 qbbe_23_3_6 (some 15) (v := ?v13) rfl rfl (by kernel_rfl) hHeld (by rfl) (fun _ _ _ x => x) (fun w h => ?y13) ?_; (case y13 => (try dsimp only at h); go_simp; try (with_reducible rfl)); try simp only [Act.put, sa, s0, s1]
  refine wpAnyH_ready (rs := [2]) (by kernel_rfl) (by simp) ?_
  refine AllReadyH.cons (o := qbbe_23_3_2) rfl (fun K hK => ?_) AllReadyH.nil
  go_simp
  refine Calls.mono (hC1 _ hHeld) ?_
  rintro e w1 ⟨rfl, hx1⟩
  have hop1 := bthen hHeld hx1
  go_wp2_with fail
  refine hK.out _ _ (hop1) (fun hHeld => ?_)
  clear hK K
  try simp only [Act.put, sa, s0, s1]
  refine tk 3 qbbe_23_3_3 (some 12) (v := ?v14) rfl rfl (by kernel_rfl) hHeld (by rfl) (fun _ _ _ x => x) (fun w h => ?y14) ?_; (case y14 => (try dsimp only at h); go_simp; try (with_reducible rfl)); try simp only [Act.put, sa, s0, s1]
  refine tk 4 qbbe_23_3_4 (some 13) (v := ?v15) rfl rfl (by kernel_rfl) hHeld (by rfl) (fun _ _ _ x => x) (fun w h => ?y15) ?_; (case y15 => (try dsimp only at h); go_simp; try (with_reducible rfl)); try simp only [Act.put, sa, s0, s1]
  refine wpAnyH_ready (rs := [7]) (by kernel_rfl) (by simp) ?_
  refine AllReadyH.cons (o := qbbe_23_3_7) rfl (fun K hK => ?_) AllReadyH.nil
  go_simp
  refine Calls.mono (hC2 _ hHeld) ?_
  rintro e w2 ⟨rfl, hx2⟩
  have hop2 := bthen hHeld hx2
  go_wp2_with fail
  refine hK.out _ _ (hop2) (fun hHeld => ?_)
  clear hK K
  try simp only [Act.put, sa, s0, s1]
  refine tk 8 qbbe_23_3_8 (some 17) (v := ?v16) rfl rfl (by kernel_rfl) hHeld (by rfl) (fun _ _ _ x => x) (fun w h => ?y16) ?_; (case y16 => (try dsimp only at h); go_simp; try (with_reducible rfl)); try simp only [Act.put, sa, s0, s1]
  refine wpAnyH_ready (rs := [9]) (by kernel_rfl) (by simp) ?_
  refine AllReadyH.cons (o := qbbe_23_3_9) rfl (fun K hK => ?_) AllReadyH.nil
  go_simp
  rw [HH.out]
  obtain ⟨w3, hq3⟩ : ∃ q, q = w2.alloc (.cells (List.toArray [Value.string (strB (headT m))]) 9) := ⟨_, rfl⟩
  have hx3 : Below w2.heap.size w2 w3 := by rw [hq3]; exact (Below.refl _ _).alloc (Nat.le_refl _) _
  have hop3 := bthen hHeld hx3
  have HO3 : Hid (w3.ownsRow wm.heap.size 9 1 (.slice (some ⟨w2.heap.size, 0, none⟩) 1 1) 1 [Value.string (strB (headT m))]) := by rw [hq3]; exact ⟨rfl, .inr ⟨w2.heap.size, 1, List.toArray [Value.string (strB (headT m))], rfl, hop2.size, (show (w2.heap.push _)[w2.heap.size]? = _ from Array.getElem?_push_size), by omega, by simp [maxLen], by simp, by simp⟩⟩
  refine (show _ = w3 from hq3.symm) ▸ ?_
  clear hq3
  refine hK.out _ _ (hop3) (fun hHeld => ?_)
  clear hK K
  try simp only [Act.put, sa, s0, s1]
  refine tk 10 qbbe_23_3_10 (some 3) (v := ?v17) rfl rfl (by kernel_rfl) hHeld (by rfl) (fun _ _ _ x => x) (fun w h => ?y17) ?_; (case y17 => (try dsimp only at h); go_simp; try (with_reducible rfl)); try simp only [Act.put, sa, s0, s1]
  refine wpAnyH_done (by kernel_rfl) ?_ _
  obtain ⟨wa, hwa⟩ : ∃ x, x = w3 := ⟨_, rfl⟩
  have hba : Below wm.heap.size wm wa := by rw [hwa]; exact hop3
  have HOA : Hid (wa.ownsRow wm.heap.size 9 1 (.slice (some ⟨w2.heap.size, 0, none⟩) 1 1) 1 [Value.string (strB (headT m))]) := by rw [hwa]; exact HO3.out
  have y2 := q2 _ hba
  have hla : w.heap.size < wa.heap.size := Nat.lt_of_lt_of_le hz (Nat.le_trans hxm.size hba.size)
  obtain ⟨gg, hgg⟩ : ∃ x, x = w2.heap.size := ⟨_, rfl⟩
  rw [← hwa, ← hgg]
  rw [← hgg] at HOA
  clear hwa hgg HH n1 n2 n3 hC1 hC2 hd1 hd2 HD1 HD3 HO3 hop3 hHeld
  go_wp2_with fail
  clear y2
  go_loopw [3, 22] (fun v i wr => ∃ k : Nat, k ≤ n ∧ i = .int .i64 k ∧ wr.ownsRow wm.heap.size 9 1 v (k + 1) ((lineS m (l.take k)).map fun x => Value.string (strB x)) ∧ Below wm.heap.size wm wr) (fun _ i _ => n - (intOf i).toNat)
  case atStart => exact ⟨0, Nat.zero_le _, rfl, HOA.out, hba⟩
  case round =>
    obtain ⟨k, hk, rfl, hown, hbk⟩ := hrel
    have hbw := bthen hb1 hbk
    have hbz := hbw.size
    have hlr : w.heap.size < wr.heap.size := Nat.lt_of_lt_of_le hz (Nat.le_trans hxm.size hbk.size)
    by_cases hlt : k < n
    · have hkl : k < l.length := by rw [HX.out]; exact hlt
      obtain ⟨b1, o1, rfl, hB, cs, hcl, hcell, rfl, g0, g1, g2, g3, _⟩ := (HL.out.2.2.below rMeta_good hbw) k hkl
      have hB' : b1 < wr.heap.size := by omega
      have k0 := hcell 0 _ rfl
      have k1 := hcell 1 _ rfl
      have k2 := hcell 2 _ rfl
      have k3 := hcell 3 _ rfl
      rw [Nat.add_zero] at k0
      have hM := hE.out l[k] (List.getElem_mem hkl)
      have HLS := Hid.mk (lineS_take (m := m) hkl)
      obtain ⟨x, hxk⟩ : ∃ x, x = l[k] := ⟨_, rfl⟩
      rw [← hxk] at k0 k1 k2 k3 g0 g1 g2 g3 HLS hM
      clear hcell hcl hxk
      have hC3 := fun W hb => HC3.out x W hM hb
      obtain ⟨wp, hwp⟩ : ∃ wp, wp = wr.alloc (.cells #[.int .i64 x.fNo, .int .i64 x.fLevel, .string x.fLo, .string x.fHi] 49) := ⟨_, rfl⟩
      have hbp : Below wr.heap.size wr wp := by rw [hwp]; exact (Below.refl _ _).alloc (Nat.le_refl _) _
      have hown1 := own_below hown hbp
      have hbkp := bthen hbk hbp
      go_wp2_with (rw [← hwp])
      refine (hC3 _ hbkp).mono ?_
      rintro e w5 ⟨rfl, hx5⟩
      have hown5 := own_below hown1 hx5
      have hb5 := bthen hbkp hx5
      clear hC3 hown hown1 hwp k0 k1 k2 k3
      obtain ⟨w6, hw6⟩ : ∃ q, q = w5.alloc (.cells #[Value.string (strB (lineT x))] 9) := ⟨_, rfl⟩
      have hx6 : Below w5.heap.size w5 w6 := by rw [hw6]; exact (Below.refl _ _).alloc (Nat.le_refl _) _
      have hbx6 : Bx w6 w5.heap.size [Value.string (strB (lineT x))] := by rw [hw6]; exact Bx.new _ _ _
      have hown6 := own_below hown5 hx6
      have hb6 := bthen hb5 hx6
      obtain ⟨xs, HXS⟩ : ∃ q, Hid (q = (lineS m (l.take k)).map fun x => Value.string (strB x)) := ⟨_, Hid.mk rfl⟩
      rw [← HXS.out] at hown6
      clear hown5
      go_wp2_with (at_builtin; rw [← hw6]; refine wpList_append_own_at _ rfl _ _ 44 rfl wm.heap.size 9 i0 (.string ByteArray.empty) 1 16 Tryz.underlying44 HI.out.1 HI.out.2.1 HI.out.2.2.1 HI.out.2.2.2 rfl (by decide) _ _ _ rfl hown6 ⟨w5.heap.size, 0, none⟩ 1 1 [.string (strB (lineT x))] rfl rfl (bx_news hbx6) (by intro u hu; simp at hu; subst hu; rfl) (by unfold maxLen; omega) (by omega) hb6.size ?_; intro v7 w7 hown7 hgrow7 hnil7 hloc7)
      have hb7 := hb6.grown hgrow7 hb6.size (fun k h => (hown6.lt k h).1)
      have HO7 : Hid (w7.ownsRow wm.heap.size 9 1 v7 (k + 1 + 1) ((lineS m (l.take (k + 1))).map fun x => Value.string (strB x))) := own_congr hown7 rfl (by rw [HLS.out, HXS.out]; simp)
      clear hown6 hown7 hgrow7 hnil7 hloc7 hw6 hbx6
      go_wp2_with fail
      go_roundw
      case rel => exact ⟨k + 1, by omega, by go_num, HO7.out, hb7⟩
      case measure => simp [intOf]; omega
    · have HT1 : Hid (l.take k = l) := List.take_of_length_le (by rw [HX.out]; omega)
      have hk20 : k ≤ 20 := by omega
      have HLK : Hid ((lineS m l).length = k + 1) := by show _ = _; simp only [lineS, List.length_cons, List.length_map]; rw [HX.out]; omega
      rw [HT1.out] at hown
      obtain ⟨w6, hw6⟩ : ∃ q, q = wr.alloc (.cells #[Value.string (strB endW), Value.string (strB [])] 9) := ⟨_, rfl⟩
      have hx6 : Below wr.heap.size wr w6 := by rw [hw6]; exact (Below.refl _ _).alloc (Nat.le_refl _) _
      have hbx6 : Bx w6 wr.heap.size [Value.string (strB endW), Value.string (strB [])] := by rw [hw6]; exact Bx.new _ _ _
      have hown6 := own_below hown hx6
      have hb6 := bthen hbk hx6
      have HJL : Hid ((Lib.join (lineS m l ++ [endW, []]) [10]).length ≤ 140737488355328) := by
        show _ ≤ _
        rw [join_lines]
        have h1 := linesT_len (l := l) hE.out hnx1
        have h2 : l.length ≤ 20 := by rw [HX.out]; omega
        have h3 : l.length * 300001 ≤ 20 * 300001 := Nat.mul_le_mul_right _ h2
        simp only [List.length_append, endW, List.length_cons, List.length_nil]
        omega
      obtain ⟨xs, HXS⟩ : ∃ q, Hid (q = (lineS m l).map fun x => Value.string (strB x)) := ⟨_, Hid.mk rfl⟩
      rw [← HXS.out] at hown6
      clear hown
      go_wp2_with (at_builtin; rw [show (⟨#[101, 110, 100]⟩ : ByteArray) = strB endW from rfl, show (⟨#[]⟩ : ByteArray) = strB [] from rfl, ← hw6]; refine wpList_append_own_at _ rfl _ _ 44 rfl wm.heap.size 9 i0 (.string ByteArray.empty) 1 16 Tryz.underlying44 HI.out.1 HI.out.2.1 HI.out.2.2.1 HI.out.2.2.2 rfl (by decide) _ _ _ rfl hown6 ⟨wr.heap.size, 0, none⟩ 2 2 [.string (strB endW), .string (strB [])] rfl rfl (bx_news hbx6) (by intro u hu; simp at hu; rcases hu with rfl | rfl <;> rfl) (by unfold maxLen; omega) (by omega) hb6.size ?_; intro v7 w7 hown7 hgrow7 hnil7 hloc7)
      have hb7 := hb6.grown hgrow7 hb6.size (fun k h => (hown6.lt k h).1)
      obtain ⟨g7, cap7, rfl, hc7, hg7, hg8⟩ := own_shape hown7 (by omega)
      have hBx7 : Bx w7 g7 ((lineS m l ++ [endW, []]).map fun x => Value.string (strB x)) := by
        refine ⟨hg8, fun i u hu => ?_⟩
        have h1 : xs ++ [Value.string (strB endW), Value.string (strB [])] = (lineS m l ++ [endW, []]).map fun x => Value.string (strB x) := by rw [HXS.out]; simp
        rw [← h1] at hu
        have h2 := (List.getElem?_eq_some_iff.1 hu).1
        have h3 := hown7.1
        rw [hown7.cellAt i (by omega), hu]
      have hJ := join_any g7 cap7 (k + 1 + 2) (lineS m l ++ [endW, []]) [10] ⟨#[10]⟩ w7 rfl (by rw [List.length_append, HLK.out]; rfl) hBx7 hc7 (by omega) HJL.out
      rw [← HD2.out] at hJ
      clear hown6 hown7 hgrow7 hnil7 hloc7 hw6 hbx6 hBx7
      go_wp2_with fail
      refine hJ.mono ?_
      rintro e w8 ⟨rfl, hx8⟩
      go_wp2_with fail
      go_ret
      exact ⟨rfl, bthen hb1 (bthen hb7 hx8)⟩

end Go.Proofs.YtnohnkcijomdjaaGreatDoor
