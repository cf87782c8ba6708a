/-
  A key's bytes as digits, two for each byte: the program's way, and the specification's.
-/
import Derived.Test.YtnohnkcijomdjaaGreatDoorRegK
import Derived.Test.YtnohnkcijomdjaaGreatDoorTxtM
import Derived.Test.YtnohnkcijomdjaaGreatDoorStrB
import Derived.Test.YtnohnkcijomdjaaGreatDoorRowG
import Derived.Test.YtnohnkcijomdjaaGreatDoorInfB
import Derived.Test.YtnohnkcijomdjaaGreatDoorChecked
namespace Go.Proofs.YtnohnkcijomdjaaGreatDoor
open Go.RowKit Go.Maps
set_option linter.unusedVariables false
set_option linter.unusedSimpArgs false
set_option maxRecDepth 10000
abbrev q15c_74_5_0 : Oper := ⟨some 13, .move (.tmp 3), 60, "l06_manifest.go:96", #[], none⟩
abbrev q15c_74_5_1 : Oper := ⟨some 14, .move (.tmp 5), 5, "l06_manifest.go:96", #[], none⟩
abbrev q15c_74_5_2 : Oper := ⟨some 15, .binOp .quo 5 (.tmp 14) (.const (.int .u8 16)) 5, 5, "l06_manifest.go:96", #[⟨1, .data⟩], none⟩
abbrev q15c_74_5_3 : Oper := ⟨some 16, .index 9 (.const (.string { data := #[48, 49, 50, 51, 52, 53, 54, 55, 56, 57, 97, 98, 99, 100, 101, 102] })) (.tmp 15), 5, "l06_manifest.go:96", #[⟨2, .data⟩], none⟩
abbrev q15c_74_5_4 : Oper := ⟨some 17, .move (.tmp 5), 5, "l06_manifest.go:96", #[], none⟩
abbrev q15c_74_5_5 : Oper := ⟨some 18, .binOp .rem 5 (.tmp 17) (.const (.int .u8 16)) 5, 5, "l06_manifest.go:96", #[⟨4, .data⟩], none⟩
abbrev q15c_74_5_6 : Oper := ⟨some 19, .index 9 (.const (.string { data := #[48, 49, 50, 51, 52, 53, 54, 55, 56, 57, 97, 98, 99, 100, 101, 102] })) (.tmp 18), 5, "l06_manifest.go:96", #[⟨5, .data⟩], none⟩
abbrev q15c_74_5_7 : Oper := ⟨some 20, .buildSlice 60 2 #[(0, .tmp 16), (1, .tmp 19)], 60, "l06_manifest.go:96", #[⟨3, .data⟩, ⟨6, .data⟩], none⟩
abbrev q15c_74_5_8 : Oper := ⟨some 21, .call { callee := .builtin .append, args := #[.tmp 13, .tmp 20], argTypes := #[60, 60] }, 60, "l06_manifest.go:96", #[⟨0, .data⟩, ⟨7, .data⟩], none⟩
abbrev q15c_74_5_9 : Oper := ⟨some 3, .assign (.tmp 21), 60, "l06_manifest.go:96", #[⟨8, .data⟩, ⟨8, .chain⟩, ⟨0, .phase⟩, ⟨1, .phase⟩, ⟨2, .phase⟩, ⟨3, .phase⟩, ⟨4, .phase⟩, ⟨5, .phase⟩, ⟨6, .phase⟩, ⟨7, .phase⟩, ⟨8, .phase⟩], none⟩
abbrev q15c_41_6_0 : Oper := ⟨some 13, .move (.tmp 4), 60, "l06_manifest.go:41", #[], none⟩
abbrev q15c_41_6_1 : Oper := ⟨some 14, .move (.tmp 3), 9, "l06_manifest.go:41", #[], none⟩
abbrev q15c_41_6_2 : Oper := ⟨some 15, .move (.tmp 0), 9, "l06_manifest.go:41", #[], none⟩
abbrev q15c_41_6_3 : Oper := ⟨some 16, .move (.tmp 5), 3, "l06_manifest.go:41", #[], none⟩
abbrev q15c_41_6_4 : Oper := ⟨some 17, .index 9 (.tmp 15) (.tmp 16), 5, "l06_manifest.go:41", #[⟨2, .data⟩, ⟨3, .data⟩], none⟩
abbrev q15c_41_6_5 : Oper := ⟨some 18, .binOp .shr 5 (.tmp 17) (.const (.int .u64 4)) 101, 5, "l06_manifest.go:41", #[⟨4, .data⟩], none⟩
abbrev q15c_41_6_6 : Oper := ⟨some 19, .index 9 (.tmp 14) (.tmp 18), 5, "l06_manifest.go:41", #[⟨1, .data⟩, ⟨5, .data⟩], none⟩
abbrev q15c_41_6_7 : Oper := ⟨some 20, .move (.tmp 3), 9, "l06_manifest.go:41", #[], none⟩
abbrev q15c_41_6_8 : Oper := ⟨some 21, .move (.tmp 0), 9, "l06_manifest.go:41", #[], none⟩
abbrev q15c_41_6_9 : Oper := ⟨some 22, .move (.tmp 5), 3, "l06_manifest.go:41", #[], none⟩
abbrev q15c_41_6_10 : Oper := ⟨some 23, .index 9 (.tmp 21) (.tmp 22), 5, "l06_manifest.go:41", #[⟨8, .data⟩, ⟨9, .data⟩], none⟩
abbrev q15c_41_6_11 : Oper := ⟨some 24, .binOp .and 5 (.tmp 23) (.const (.int .u8 15)) 5, 5, "l06_manifest.go:41", #[⟨10, .data⟩], none⟩
abbrev q15c_41_6_12 : Oper := ⟨some 25, .index 9 (.tmp 20) (.tmp 24), 5, "l06_manifest.go:41", #[⟨7, .data⟩, ⟨11, .data⟩], none⟩
abbrev q15c_41_6_13 : Oper := ⟨some 26, .buildSlice 60 2 #[(0, .tmp 19), (1, .tmp 25)], 60, "l06_manifest.go:41", #[⟨6, .data⟩, ⟨12, .data⟩], none⟩
abbrev q15c_41_6_14 : Oper := ⟨some 27, .call { callee := .builtin .append, args := #[.tmp 13, .tmp 26], argTypes := #[60, 60] }, 60, "l06_manifest.go:41", #[⟨0, .data⟩, ⟨13, .data⟩], none⟩
abbrev q15c_41_6_15 : Oper := ⟨some 4, .assign (.tmp 27), 60, "l06_manifest.go:41", #[⟨14, .data⟩, ⟨14, .chain⟩, ⟨0, .phase⟩, ⟨1, .phase⟩, ⟨2, .phase⟩, ⟨3, .phase⟩, ⟨4, .phase⟩, ⟨5, .phase⟩, ⟨6, .phase⟩, ⟨7, .phase⟩, ⟨8, .phase⟩, ⟨9, .phase⟩, ⟨10, .phase⟩, ⟨11, .phase⟩, ⟨12, .phase⟩, ⟨13, .phase⟩, ⟨14, .phase⟩], none⟩

/-- The digits, as numbers. -/
def hexZ (zs : List Int) : List Int := zs.flatMap fun c => [((hexD (c / 16).toNat).toNat : Int), ((hexD (c % 16).toNat).toNat : Int)]
theorem hexZ_take {zs : List Int} {k : Nat} (h : k < zs.length) : hexZ (zs.take (k + 1)) = hexZ (zs.take k) ++ [((hexD (zs[k] / 16).toNat).toNat : Int), ((hexD (zs[k] % 16).toNat).toNat : Int)] := by
  unfold hexZ
  rw [List.take_succ_eq_append_getElem h, List.flatMap_append]
  simp
theorem hexZ_len (zs : List Int) : (hexZ zs).length = 2 * zs.length := by
  induction zs with
  | nil => rfl
  | cons x r ih => unfold hexZ at ih ⊢; rw [List.flatMap_cons, List.length_append, ih]; simp; omega
theorem hexZ_str (s : ByteArray) : strOfNums (hexZ (byteInts s)) = strB (hexT s) := by
  rw [strB_nums]
  apply strB_inj
  unfold hexZ byteInts hexT
  induction s.data.toList with
  | nil => rfl
  | cons x r ih =>
    rw [List.map_cons, List.flatMap_cons, List.flatMap_cons, List.map_append, ih]
    congr 1
    simp only [hexB, List.map_cons, List.map_nil]
    have h1 : (((x.toNat : Nat) : Int) / 16).toNat = x.toNat / 16 := by omega
    have h2 : (((x.toNat : Nat) : Int) % 16).toNat = x.toNat % 16 := by omega
    rw [h1, h2]
    simp
theorem hex_look {i : Nat} (h : i < 16) : (hexL.toArray[i]?) = some (hexD i) := by
  have : ∀ i : Fin 16, (hexL.toArray[i.val]?) = some (hexD i.val) := by decide
  exact this ⟨i, h⟩

theorem conv_hex {w : World} {base e : Nat} {v : Value} {bs : List Int} (h : w.ownsRow base e 1 v bs.length (bs.map (Value.int .u8))) :
    (convert 60 9 v).run Tryz.prog w = .ok (.string (strOfNums bs)) w := by
  obtain ⟨a, c, rfl, _, hr⟩ := own_rd rfl h
  cases a with
  | none =>
    have hz : bs = [] := by
      cases bs with
      | nil => rfl
      | cons z r =>
        obtain ⟨_, _, h, _⟩ := hr 0 (by simp)
        cases h
    subst hz
    exact run_convert_bytes_nil w 60 5 Tryz.underlying60 Tryz.underlying5 _ _ 9 Tryz.underlying9
  | some ad =>
    rcases h.2 with ⟨h', _⟩ | ⟨g, cap, cur, h', _⟩
    · simp at h'
    · simp only [Value.slice.injEq, Option.some.injEq, true_and] at h'
      obtain ⟨rfl, rfl⟩ := h'
      exact run_convert_bytes_arg w 60 5 Tryz.underlying60 Tryz.underlying5 g 0 bs.length c bs rfl (fun i hi => by
        obtain ⟨b', o', e', _, hc⟩ := hr i hi
        simp only [Option.some.injEq, Addr.mk.injEq, and_true] at e'
        obtain ⟨rfl, rfl⟩ := e'
        exact hc) 9 Tryz.underlying9

/-- Two numbers laid in a new block. -/
theorem rd_two (k : IntKind) (w : World) (x y : Int) (t : TypeId) : Rd k (w.heap.size + 1) (w.alloc (.cells #[.int k x, .int k y] t)) (some ⟨w.heap.size, 0, none⟩) [x, y] := by
  intro j hj
  simp only [List.length_cons, List.length_nil] at hj
  have hj0 : j = 0 ∨ j = 1 := by omega
  rcases hj0 with rfl | rfl
  · exact ⟨w.heap.size, 0, rfl, by omega, by simp⟩
  · exact ⟨w.heap.size, 0, rfl, by omega, by simp⟩

theorem hexAt (c : Int) (w : World) (h0 : 0 ≤ c) (h1 : c < 16) :
    (Instr.index 9 (.string ⟨#[48, 49, 50, 51, 52, 53, 54, 55, 56, 57, 97, 98, 99, 100, 101, 102]⟩) (.int .u8 c)).run Tryz.prog w = .ok (.int .u8 ((hexD c.toNat).toNat : Int)) w := by
  have hh : ∀ i : Fin 16, (Instr.index 9 (.string ⟨#[48, 49, 50, 51, 52, 53, 54, 55, 56, 57, 97, 98, 99, 100, 101, 102]⟩) (.int .u8 (i.val : Int))).run Tryz.prog w = .ok (.int .u8 ((hexD i.val).toNat : Int)) w := by
    intro i
    rw [run_index_string w 9 _ .u8 _ Tryz.underlying9]
    have hi : (0 : Int) ≤ (i.val : Int) ∧ (i.val : Int) < ((⟨#[48, 49, 50, 51, 52, 53, 54, 55, 56, 57, 97, 98, 99, 100, 101, 102]⟩ : ByteArray).size : Int) := ⟨by omega, by have := i.isLt; show (i.val : Int) < 16; omega⟩
    rw [dif_pos hi]
    congr 3
    revert i
    decide
  obtain ⟨i, hi⟩ : ∃ i : Nat, c = (i : Int) := ⟨c.toNat, by omega⟩
  subst hi
  exact hh ⟨i, by omega⟩

set_option maxHeartbeats 2000000 in
theorem digitsOf_any (s : ByteArray) (w : World) (hs : s.size ≤ 1048576) :
    Calls Tryz.prog 74 #[.string s] w fun e w' => e = .returned (.string (strB (hexT s))) ∧ Below w.heap.size w w' := by
  obtain ⟨i0, hi0⟩ := info_parts Tryz.info5
  have HI := Hid.mk hi0
  clear hi0
  obtain ⟨w1, cap, hcv, hb1, hr1⟩ := strRd s w
  have HR := Hid.mk hr1
  have HO := Hid.mk (byteInts_ok s)
  have HS := Hid.mk (hexZ_str s)
  obtain ⟨zs, hzs⟩ : ∃ z, z = byteInts s := ⟨_, rfl⟩
  have hzl : zs.length = s.size := by rw [hzs]; exact byteInts_length s
  rw [← hzs] at HR HO HS
  obtain ⟨n, hn⟩ : ∃ n, n = s.size := ⟨_, rfl⟩
  rw [← hn] at hzl hs hcv
  have HX := Hid.mk hzl
  clear hzs hzl hr1 hn
  go_enter Tryz.func74, Tryz.ntmps74
  go_wp2_with fail
  clear hcv
  go_loopw [3, 9] (fun v i wr => ∃ k : Nat, k ≤ n ∧ i = .int .i64 k ∧ wr.ownsRow w1.heap.size 5 1 v (hexZ (zs.take k)).length ((hexZ (zs.take k)).map (Value.int .u8)) ∧ Below w1.heap.size w1 wr) (fun _ i _ => n - (intOf i).toNat)
  case atStart => exact ⟨0, Nat.zero_le _, rfl, ⟨rfl, .inl ⟨rfl, rfl⟩⟩, Below.refl _ _⟩
  case round =>
    obtain ⟨k, hk, rfl, hown, hbk⟩ := hrel
    by_cases hlt : k < n
    · have hkl : k < zs.length := by rw [HX.out]; exact hlt
      obtain ⟨b2, o2, he2, hB2, hc2⟩ := (HR.out.below hbk) k hkl
      simp only [Option.some.injEq, Addr.mk.injEq, and_true] at he2
      obtain ⟨rfl, rfl⟩ := he2
      have hcb := HO.out zs[k] (List.getElem_mem hkl)
      have HZ := Hid.mk (hexZ_take hkl)
      rw [List.getD_eq_getElem?_getD, List.getElem?_eq_getElem hkl, Option.getD_some, Nat.zero_add] at hc2
      generalize zs[k] = c at *
      have hl2 : (hexZ (zs.take k)).length ≤ 2097152 := by rw [hexZ_len]; simp; omega
      generalize hexZ (zs.take k) = out at *
      have hB3 : w.heap.size < wr.heap.size := Nat.lt_of_lt_of_le hB2 hbk.size
      have e1 : c.tdiv 16 = c / 16 := Int.tdiv_eq_ediv_of_nonneg hcb.1
      have e2 : c.tmod 16 = c % 16 := Int.tmod_eq_emod_of_nonneg hcb.1
      have hd1 : 0 ≤ c / 16 ∧ c / 16 < 16 := by omega
      have hd2 : 0 ≤ c % 16 ∧ c % 16 < 16 := by omega
      have hw1 : IntKind.u8.wrap (c / 16) = c / 16 := by rw [IntKind.wrap_u8]; omega
      have hw2 : IntKind.u8.wrap (c % 16) = c % 16 := by rw [IntKind.wrap_u8]; omega
      have hx1 := fun (W : World) => hexAt (c / 16) W hd1.1 hd1.2
      have hx2 := fun (W : World) => hexAt (c % 16) W hd2.1 hd2.2
      generalize ((hexD (c / 16).toNat).toNat : Int) = x1 at *
      generalize ((hexD (c % 16).toNat).toNat : Int) = x2 at *
      go_wp2_with fail
      refine wp_region_held_drew (S := fun W => Below w1.heap.size w1 W) (by kernel_rfl) (Below.drew hbk) (fun hHeld => ?_)
      refine tk 0 q15c_74_5_0 (some 13) (v := ?v1) rfl rfl (by kernel_rfl) hHeld (by rfl) (fun _ _ _ x => x) (fun w h => ?y1) ?_; (case y1 => (try dsimp only at h); go_simp; try (with_reducible rfl)); try simp only [Act.put, sa, s0, s1]
      refine tk 1 q15c_74_5_1 (some 14) (v := ?v2) rfl rfl (by kernel_rfl) hHeld (by rfl) (fun _ _ _ x => x) (fun w h => ?y2) ?_; (case y2 => (try dsimp only at h); go_simp; try (with_reducible rfl)); try simp only [Act.put, sa, s0, s1]
      refine tk 2 q15c_74_5_2 (some 15) (v := ?v3) rfl rfl (by kernel_rfl) hHeld (by rfl) (fun _ _ _ x => x) (fun w h => ?y3) ?_; (case y3 => (try dsimp only at h); go_simp; try (with_reducible rfl)); try simp only [Act.put, sa, s0, s1]
      refine tk 3 q15c_74_5_3 (some 16) (v := ?v4) rfl rfl (by kernel_rfl) hHeld (by rfl) (fun _ _ _ x => x) (fun w h => ?y4) ?_; (case y4 => (try dsimp only at h); go_simp; try (with_reducible rfl)); try simp only [Act.put, sa, s0, s1]
      refine tk 4 q15c_74_5_4 (some 17) (v := ?v5) rfl rfl (by kernel_rfl) hHeld (by rfl) (fun _ _ _ x => x) (fun w h => ?y5) ?_; (case y5 => (try dsimp only at h); go_simp; try (with_reducible rfl)); try simp only [Act.put, sa, s0, s1]
      refine tk 5 q15c_74_5_5 (some 18) (v := ?v6) rfl rfl (by kernel_rfl) hHeld (by rfl) (fun _ _ _ x => x) (fun w h => ?y6) ?_; (case y6 => (try dsimp only at h); go_simp; try (with_reducible rfl)); try simp only [Act.put, sa, s0, s1]
      refine tk 6 q15c_74_5_6 (some 19) (v := ?v7) rfl rfl (by kernel_rfl) hHeld (by rfl) (fun _ _ _ x => x) (fun w h => ?y7) ?_; (case y7 => (try dsimp only at h); go_simp; try (with_reducible rfl)); try simp only [Act.put, sa, s0, s1]
      refine wpAnyH_ready (rs := [7]) (by kernel_rfl) (by simp) ?_
      refine AllReadyH.cons (o := q15c_74_5_7) rfl (fun K hK => ?_) AllReadyH.nil
      go_simp
      obtain ⟨w5, hq5⟩ : ∃ x, x = (wr.alloc (.cells (List.toArray [Value.int .u8 x1, Value.int .u8 x2]) 5)).drew := ⟨_, rfl⟩
      have hx1 : Below wr.heap.size wr w5 := by rw [hq5]; exact Below.drew ((Below.refl _ _).alloc (Nat.le_refl _) _)
      have hop1 : Below w1.heap.size w1 w5 := hbk.trans (hx1.mono hbk.size)
      have HR5 : Hid (Rd .u8 (wr.heap.size + 1) w5 (some ⟨wr.heap.size, 0, none⟩) [x1, x2]) := by rw [hq5]; exact rd_two .u8 wr x1 x2 5
      have HO5 := Hid.mk (own_below hown hx1)
      rw [← hq5]
      clear hq5
      refine hK.out _ _ (hop1) (fun hHeld => ?_)
      clear hK K
      try simp only [Act.put, sa, s0, s1]
      refine wpAnyH_ready (rs := [8]) (by kernel_rfl) (by simp) ?_
      refine AllReadyH.cons (o := q15c_74_5_8) rfl (fun K hK => ?_) AllReadyH.nil
      refine step_append_src w5 rfl _ _ 60 60 rfl w1.heap.size 5 i0 (.int .u8 0) 1 1 Tryz.underlying60 HI.out.1 HI.out.2.1 HI.out.2.2.1 HI.out.2.2.2 rfl u3 out.length (out.map (Value.int .u8)) rfl HO5.out (.slice (some ⟨wr.heap.size, 0, none⟩) 2 2) rfl 2 ([x1, x2].map (Value.int .u8)) (Src.rd Tryz.underlying60 rfl HR5.out) (by unfold maxLen; omega) (by omega) hop1.size ?_
      intro v6 w6 ho6 hgr6 hat6
      have hop2 : Below w1.heap.size w1 w6 := hop1.grown hgr6 hop1.size (fun k h => (HO5.out.lt k h).1)
      have HO6 : Hid (w6.ownsRow w1.heap.size 5 1 v6 (out ++ [x1, x2]).length ((out ++ [x1, x2]).map (Value.int .u8))) := own_congr ho6 (by simp) (by simp)
      clear ho6 hgr6 hat6
      refine hK.out _ _ (hop2) (fun hHeld => ?_)
      clear hK K
      try simp only [Act.put, sa, s0, s1]
      refine tk 9 q15c_74_5_9 (some 3) (v := ?v8) rfl rfl (by kernel_rfl) hHeld (by rfl) (fun _ _ _ x => x) (fun w h => ?y8) ?_; (case y8 => (try dsimp only at h); go_simp; try (with_reducible rfl)); try simp only [Act.put, sa, s0, s1]
      refine wpAnyH_done (by kernel_rfl) ?_ _
      go_wp2_with fail
      go_roundw
      case rel => exact ⟨k + 1, by omega, by go_num, by rw [HZ.out]; exact HO6.out, hop2⟩
      case measure => simp [intOf]; omega
    · have HT1 : Hid (zs.take k = zs) := List.take_of_length_le (by rw [HX.out]; omega)
      rw [HT1.out] at hown
      have hcv := conv_hex hown
      rw [HS.out] at hcv
      go_wp2_with fail
      go_ret
      exact ⟨rfl, bthen hb1 hbk⟩

theorem and15_u8 {x : Int} (h0 : 0 ≤ x) (h1 : x ≤ 255) : bits .and .u8 x 15 = x % 16 := by
  rw [u8_and x 15 h0 (by omega) (by omega) (by omega)]
  have : x.toNat &&& (15 : Int).toNat = x.toNat % 16 := Nat.and_two_pow_sub_one_eq_mod x.toNat 4
  omega

theorem strAt (s : ByteArray) {k : Nat} (w : World) (h : k < (byteInts s).length) :
    (Instr.index 9 (.string s) (.int .i64 k)).run Tryz.prog w = .ok (.int .u8 (byteInts s)[k]) w := by
  have hs : k < s.size := by rw [← byteInts_length]; exact h
  rw [run_index_string w 9 _ .i64 _ Tryz.underlying9, dif_pos ⟨by omega, by omega⟩]
  congr 2
  simp [byteInts]
  rfl

set_option maxHeartbeats 2000000 in
theorem l6Hex_any (s : ByteArray) (w : World) (hs : s.size ≤ 1048576) :
    Calls Tryz.prog 41 #[.string s] w fun e w' => e = .returned (.string (strB (hexT s))) ∧ Below w.heap.size w w' := by
  obtain ⟨i0, hi0⟩ := info_parts Tryz.info5
  have HI := Hid.mk hi0
  clear hi0
  have HO := Hid.mk (byteInts_ok s)
  have HS := Hid.mk (hexZ_str s)
  obtain ⟨zs, hzs⟩ : ∃ z, z = byteInts s := ⟨_, rfl⟩
  have hzl : zs.length = s.size := by rw [hzs]; exact byteInts_length s
  rw [← hzs] at HO HS
  have HA : Hid (∀ (k : Nat) (W : World) (h : k < zs.length), (Instr.index 9 (.string s) (.int .i64 k)).run Tryz.prog W = .ok (.int .u8 zs[k]) W) := by subst hzs; exact fun k W h => strAt s W h
  have HX := Hid.mk hzl
  clear hzs hzl
  go_enter Tryz.func41, Tryz.ntmps41
  go_wp2_with fail
  obtain ⟨wq, hwq⟩ : ∃ x, x = w.alloc (.cells #[] 5) := ⟨_, rfl⟩
  have hbq : Below w.heap.size w wq := by rw [hwq]; exact (Below.refl _ _).alloc (Nat.le_refl _) _
  have hoo : wq.ownsRow w.heap.size 5 1 (.slice (some ⟨w.heap.size, 0, none⟩) 0 0) 0 [] := by
    rw [hwq]
    exact ⟨by simp, .inr ⟨w.heap.size, 0, #[], rfl, Nat.le_refl _, (show (w.heap.push _)[w.heap.size]? = _ from Array.getElem?_push_size), by omega, by simp [maxLen], by simp, by simp⟩⟩
  rw [← hwq]
  clear hwq
  go_loopw [4, 5] (fun v i wr => ∃ k : Nat, k ≤ s.size ∧ i = .int .i64 k ∧ wr.ownsRow w.heap.size 5 1 v (hexZ (zs.take k)).length ((hexZ (zs.take k)).map (Value.int .u8)) ∧ Below w.heap.size w wr) (fun _ i _ => s.size - (intOf i).toNat)
  case atStart => exact ⟨0, Nat.zero_le _, rfl, hoo, hbq⟩
  case round =>
    obtain ⟨k, hk, rfl, hown, hbk⟩ := hrel
    clear hoo hbq
    by_cases hlt : k < s.size
    · have hkl : k < zs.length := by rw [HX.out]; exact hlt
      have hcb := HO.out zs[k] (List.getElem_mem hkl)
      have HZ := Hid.mk (hexZ_take hkl)
      have hsk := fun W => HA.out k W hkl
      generalize zs[k] = c at *
      have hl2 : (hexZ (zs.take k)).length ≤ 2097152 := by rw [hexZ_len]; simp; omega
      generalize hexZ (zs.take k) = out at *
      have hd1 : 0 ≤ c / 16 ∧ c / 16 < 16 := by omega
      have hd2 : 0 ≤ c % 16 ∧ c % 16 < 16 := by omega
      have hw1 : IntKind.u8.wrap (c / 16) = c / 16 := by rw [IntKind.wrap_u8]; omega
      have hw2 : IntKind.u8.wrap (c % 16) = c % 16 := by rw [IntKind.wrap_u8]; omega
      have hx1 := fun (W : World) => hexAt (c / 16) W hd1.1 hd1.2
      have hx2 := fun (W : World) => hexAt (c % 16) W hd2.1 hd2.2
      have ha2 := and15_u8 hcb.1 hcb.2
      generalize ((hexD (c / 16).toNat).toNat : Int) = x1 at *
      generalize ((hexD (c % 16).toNat).toNat : Int) = x2 at *
      go_wp2_with fail
      refine wp_region_held_drew (S := fun W => Below w.heap.size w W) (by kernel_rfl) (Below.drew hbk) (fun hHeld => ?_)
      refine tk 0 q15c_41_6_0 (some 13) (v := ?v9) rfl rfl (by kernel_rfl) hHeld (by rfl) (fun _ _ _ x => x) (fun w h => ?y9) ?_; (case y9 => (try dsimp only at h); go_simp; try (with_reducible rfl)); try simp only [Act.put, sa, s0, s1]
      refine tk 1 q15c_41_6_1 (some 14) (v := ?v10) rfl rfl (by kernel_rfl) hHeld (by rfl) (fun _ _ _ x => x) (fun w h => ?y10) ?_; (case y10 => (try dsimp only at h); go_simp; try (with_reducible rfl)); try simp only [Act.put, sa, s0, s1]
      refine tk 2 q15c_41_6_2 (some 15) (v := ?v11) rfl rfl (by kernel_rfl) hHeld (by rfl) (fun _ _ _ x => x) (fun w h => ?y11) ?_; (case y11 => (try dsimp only at h); go_simp; try (with_reducible rfl)); try simp only [Act.put, sa, s0, s1]
      refine tk 3 q15c_41_6_3 (some 16) (v := ?v12) rfl rfl (by kernel_rfl) hHeld (by rfl) (fun _ _ _ x => x) (fun w h => ?y12) ?_; (case y12 => (try dsimp only at h); go_simp; try (with_reducible rfl)); try simp only [Act.put, sa, s0, s1]
      refine tk 4 q15c_41_6_4 (some 17) (v := ?v13) rfl rfl (by kernel_rfl) hHeld (by rfl) (fun _ _ _ x => x) (fun w h => ?y13) ?_; (case y13 => (try dsimp only at h); go_simp; try (with_reducible rfl)); try simp only [Act.put, sa, s0, s1]
      refine tk 5 q15c_41_6_5 (some 18) (v := ?v14) rfl rfl (by kernel_rfl) hHeld (by rfl) (fun _ _ _ x => x) (fun w h => ?y14) ?_; (case y14 => (try dsimp only at h); go_simp; try (with_reducible rfl)); try simp only [Act.put, sa, s0, s1]
      refine tk 6 q15c_41_6_6 (some 19) (v := ?v15) rfl rfl (by kernel_rfl) hHeld (by rfl) (fun _ _ _ x => x) (fun w h => ?y15) ?_; (case y15 => (try dsimp only at h); go_simp; try (with_reducible rfl)); try simp only [Act.put, sa, s0, s1]
      refine tk 7 q15c_41_6_7 (some 20) (v := ?v16) rfl rfl (by kernel_rfl) hHeld (by rfl) (fun _ _ _ x => x) (fun w h => ?y16) ?_; (case y16 => (try dsimp only at h); go_simp; try (with_reducible rfl)); try simp only [Act.put, sa, s0, s1]
      refine tk 8 q15c_41_6_8 (some 21) (v := ?v17) rfl rfl (by kernel_rfl) hHeld (by rfl) (fun _ _ _ x => x) (fun w h => ?y17) ?_; (case y17 => (try dsimp only at h); go_simp; try (with_reducible rfl)); try simp only [Act.put, sa, s0, s1]
      refine tk 9 q15c_41_6_9 (some 22) (v := ?v18) rfl rfl (by kernel_rfl) hHeld (by rfl) (fun _ _ _ x => x) (fun w h => ?y18) ?_; (case y18 => (try dsimp only at h); go_simp; try (with_reducible rfl)); try simp only [Act.put, sa, s0, s1]
      refine tk 10 q15c_41_6_10 (some 23) (v := ?v19) rfl rfl (by kernel_rfl) hHeld (by rfl) (fun _ _ _ x => x) (fun w h => ?y19) ?_; (case y19 => (try dsimp only at h); go_simp; try (with_reducible rfl)); try simp only [Act.put, sa, s0, s1]
      refine tk 11 q15c_41_6_11 (some 24) (v := ?v20) rfl rfl (by kernel_rfl) hHeld (by rfl) (fun _ _ _ x => x) (fun w h => ?y20) ?_; (case y20 => (try dsimp only at h); go_simp; try (with_reducible rfl)); try simp only [Act.put, sa, s0, s1]
      refine tk 12 q15c_41_6_12 (some 25) (v := ?v21) rfl rfl (by kernel_rfl) hHeld (by rfl) (fun _ _ _ x => x) (fun w h => ?y21) ?_; (case y21 => (try dsimp only at h); go_simp; try (with_reducible rfl)); try simp only [Act.put, sa, s0, s1]
      refine wpAnyH_ready (rs := [13]) (by kernel_rfl) (by simp) ?_
      refine AllReadyH.cons (o := q15c_41_6_13) rfl (fun K hK => ?_) AllReadyH.nil
      go_simp
      obtain ⟨w5, hq5⟩ : ∃ x, x = (wr.alloc (.cells (List.toArray [Value.int .u8 x1, Value.int .u8 x2]) 5)).drew := ⟨_, rfl⟩
      have hx1 : Below wr.heap.size wr w5 := by rw [hq5]; exact Below.drew ((Below.refl _ _).alloc (Nat.le_refl _) _)
      have hop1 : Below w.heap.size w w5 := hbk.trans (hx1.mono hbk.size)
      have HR5 : Hid (Rd .u8 (wr.heap.size + 1) w5 (some ⟨wr.heap.size, 0, none⟩) [x1, x2]) := by rw [hq5]; exact rd_two .u8 wr x1 x2 5
      have HO5 := Hid.mk (own_below hown hx1)
      rw [← hq5]
      clear hq5
      refine hK.out _ _ (hop1) (fun hHeld => ?_)
      clear hK K
      try simp only [Act.put, sa, s0, s1]
      refine wpAnyH_ready (rs := [14]) (by kernel_rfl) (by simp) ?_
      refine AllReadyH.cons (o := q15c_41_6_14) rfl (fun K hK => ?_) AllReadyH.nil
      refine step_append_src w5 rfl _ _ 60 60 rfl w.heap.size 5 i0 (.int .u8 0) 1 1 Tryz.underlying60 HI.out.1 HI.out.2.1 HI.out.2.2.1 HI.out.2.2.2 rfl u4 out.length (out.map (Value.int .u8)) rfl HO5.out (.slice (some ⟨wr.heap.size, 0, none⟩) 2 2) rfl 2 ([x1, x2].map (Value.int .u8)) (Src.rd Tryz.underlying60 rfl HR5.out) (by unfold maxLen; omega) (by omega) hop1.size ?_
      intro v6 w6 ho6 hgr6 hat6
      have hop2 : Below w.heap.size w w6 := hop1.grown hgr6 hop1.size (fun k h => (HO5.out.lt k h).1)
      have HO6 : Hid (w6.ownsRow w.heap.size 5 1 v6 (out ++ [x1, x2]).length ((out ++ [x1, x2]).map (Value.int .u8))) := own_congr ho6 (by simp) (by simp)
      clear ho6 hgr6 hat6
      refine hK.out _ _ (hop2) (fun hHeld => ?_)
      clear hK K
      try simp only [Act.put, sa, s0, s1]
      refine tk 15 q15c_41_6_15 (some 4) (v := ?v22) rfl rfl (by kernel_rfl) hHeld (by rfl) (fun _ _ _ x => x) (fun w h => ?y22) ?_; (case y22 => (try dsimp only at h); go_simp; try (with_reducible rfl)); try simp only [Act.put, sa, s0, s1]
      refine wpAnyH_done (by kernel_rfl) ?_ _
      go_wp2_with fail
      go_roundw
      case rel => exact ⟨k + 1, by omega, by go_num, by rw [HZ.out]; exact HO6.out, hop2⟩
      case measure => simp [intOf]; omega
    · have HT1 : Hid (zs.take k = zs) := List.take_of_length_le (by rw [HX.out]; omega)
      rw [HT1.out] at hown
      have hcv := conv_hex hown
      rw [HS.out] at hcv
      go_wp2_with fail
      go_ret
      exact ⟨rfl, hbk⟩

end Go.Proofs.YtnohnkcijomdjaaGreatDoor
