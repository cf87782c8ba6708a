/-
  Part 10 of the texts that the proof leans on.
-/
import Derived.Test.YtnohnkcijomdjaaGreatDoorCur2
import Derived.Test.YtnohnkcijomdjaaGreatDoorCur6
import Derived.Test.YtnohnkcijomdjaaGreatDoorCur8
import Derived.Lib.FieldsU
set_option linter.unusedVariables false
set_option linter.unusedSimpArgs false
set_option maxRecDepth 10000

namespace Go.Proofs.YtnohnkcijomdjaaGreatDoor
open Go.RowKit Go.Maps Go.Shelf
abbrev q52d_47_7_0 : Oper := ⟨some 30, .move (.tmp 3), 111, "l06_manifest.go:161", #[], none⟩
abbrev q52d_47_7_1 : Oper := ⟨some 31, .move (.tmp 6), 3, "l06_manifest.go:161", #[], none⟩
abbrev q52d_47_7_2 : Oper := ⟨some 32, .binOp .sub 3 (.tmp 31) (.const (.int .i64 1)) 3, 3, "l06_manifest.go:161", #[⟨1, .data⟩], none⟩
abbrev q52d_47_7_3 : Oper := ⟨some 33, .index 111 (.tmp 30) (.tmp 32), 5, "l06_manifest.go:161", #[⟨0, .data⟩, ⟨2, .data⟩], none⟩
abbrev q52d_47_7_5 : Oper := ⟨some 35, .move (.tmp 3), 111, "l06_manifest.go:161", #[], none⟩
abbrev q52d_47_7_6 : Oper := ⟨some 36, .move (.tmp 6), 3, "l06_manifest.go:161", #[], none⟩
abbrev q52d_47_7_7 : Oper := ⟨some 37, .index 111 (.tmp 35) (.tmp 36), 5, "l06_manifest.go:161", #[⟨5, .data⟩, ⟨6, .data⟩], none⟩
abbrev q52d_47_7_4 : Oper := ⟨some 34, .call { callee := .value (.func 70), args := #[.const (.string { data := #[48, 49, 50, 51, 52, 53, 54, 55, 56, 57, 97, 98, 99, 100, 101, 102] }), .tmp 33], argTypes := #[9, 5] }, 3, "l06_manifest.go:161", #[⟨3, .data⟩], none⟩
abbrev q52d_47_7_8 : Oper := ⟨some 38, .call { callee := .value (.func 70), args := #[.const (.string { data := #[48, 49, 50, 51, 52, 53, 54, 55, 56, 57, 97, 98, 99, 100, 101, 102] }), .tmp 37], argTypes := #[9, 5] }, 3, "l06_manifest.go:161", #[⟨7, .data⟩, ⟨4, .chain⟩], none⟩
abbrev q52d_47_7_9 : Oper := ⟨some 7, .assign (.tmp 34), 3, "l06_manifest.go:161", #[⟨4, .data⟩, ⟨8, .chain⟩, ⟨0, .phase⟩, ⟨1, .phase⟩, ⟨2, .phase⟩, ⟨3, .phase⟩, ⟨4, .phase⟩, { on := 5, ground := Ground.textOnly Departure.lateStores }, { on := 6, ground := Ground.textOnly Departure.lateStores }, { on := 7, ground := Ground.textOnly Departure.lateStores }, { on := 8, ground := Ground.textOnly Departure.lateStoresUnsure }], none⟩
abbrev q52d_47_7_10 : Oper := ⟨some 8, .assign (.tmp 38), 3, "l06_manifest.go:161", #[⟨8, .data⟩, ⟨9, .chain⟩, ⟨0, .phase⟩, ⟨1, .phase⟩, ⟨2, .phase⟩, ⟨3, .phase⟩, ⟨4, .phase⟩, ⟨5, .phase⟩, ⟨6, .phase⟩, ⟨7, .phase⟩, ⟨8, .phase⟩, ⟨9, .phase⟩], none⟩

/-- Where a digit stands among the digits. -/
def ixP (b : UInt8) : Int := Lib.indexByte hexW b
def unkP : List UInt8 → List UInt8
  | a :: b :: r => UInt8.ofNat ((ixP a * 16 + ixP b) % 256).toNat :: unkP r
  | _ => []
theorem ixP_bound (b : UInt8) : -1 ≤ ixP b ∧ ixP b ≤ 15 := by
  have h : ∀ i : Fin 256, -1 ≤ ixP (UInt8.ofNat i.val) ∧ ixP (UInt8.ofNat i.val) ≤ 15 := by decide +kernel
  have h2 := h ⟨b.toNat, b.toNat_lt⟩
  rwa [UInt8.ofNat_toNat] at h2
theorem unk_take : ∀ (k : Nat) (l : List UInt8), (h : 2 * k + 1 < l.length) → unkP (l.take (2 * k + 2)) = unkP (l.take (2 * k)) ++ [UInt8.ofNat ((ixP l[2 * k] * 16 + ixP l[2 * k + 1]) % 256).toNat]
  | 0, a :: b :: r, h => by simp [unkP]
  | k + 1, a :: b :: r, h => by
    have h1 : 2 * k + 1 < r.length := by simp at h; omega
    have h2 := unk_take k r h1
    have e1 : (a :: b :: r).take (2 * (k + 1) + 2) = a :: b :: r.take (2 * k + 2) := by
      rw [show 2 * (k + 1) + 2 = (2 * k + 2) + 1 + 1 by omega, List.take_succ_cons, List.take_succ_cons]
    have e2 : (a :: b :: r).take (2 * (k + 1)) = a :: b :: r.take (2 * k) := by
      rw [show 2 * (k + 1) = (2 * k) + 1 + 1 by omega, List.take_succ_cons, List.take_succ_cons]
    rw [e1, e2]
    simp only [unkP, h2, List.cons_append]
    congr 2
  | 0, [], h => by simp at h
  | 0, [a], h => by simp at h
  | k + 1, [], h => by simp at h
  | k + 1, [a], h => by simp at h
theorem unk_all (k : Nat) (l : List UInt8) (h : ¬ 2 * k + 1 < l.length) (h2 : 2 * k ≤ l.length) : unkP (l.take (2 * k)) = unkP l := by
  have key : ∀ (k : Nat) (l : List UInt8), 2 * k ≤ l.length → l.length ≤ 2 * k + 1 → unkP (l.take (2 * k)) = unkP l := by
    intro k
    induction k with
    | zero =>
      intro l h1 h2
      match l, h2 with
      | [], _ => rfl
      | [a], _ => rfl
    | succ k ih =>
      intro l h1 h2
      match l, h1 with
      | a :: b :: r, h1 =>
        rw [show 2 * (k + 1) = (2 * k) + 1 + 1 by omega, List.take_succ_cons, List.take_succ_cons]
        simp only [unkP]
        rw [ih r (by simp at h1; omega) (by simp at h2; omega)]
  exact key k l h2 (by omega)
theorem unk_len : ∀ (n : Nat) (l : List UInt8), l.length ≤ n → (unkP l).length ≤ l.length
  | 0, [], _ => Nat.le_refl _
  | n + 1, [], _ => Nat.le_refl _
  | n + 1, [a], _ => by simp [unkP]
  | n + 1, a :: b :: r, h => by
    have := unk_len n r (by simp at h; omega)
    simp only [unkP, List.length_cons]
    omega

theorem ix_any (b : UInt8) (w : World) :
    Calls Tryz.prog 70 #[.string ⟨#[48, 49, 50, 51, 52, 53, 54, 55, 56, 57, 97, 98, 99, 100, 101, 102]⟩, .int .u8 ((b.toNat : Nat) : Int)] w fun e w' => e = .returned (.int .i64 (ixP b)) ∧ w' = w := by
  refine (Any.strings_IndexByte layIndexByte ⟨hexW.toArray⟩ ((b.toNat : Nat) : Int) w).mono ?_
  rintro e w1 ⟨rfl, rfl⟩
  refine ⟨?_, rfl⟩
  have e1 : (((b.toNat : Nat) : Int).toNat).toUInt8 = b := by rw [Int.toNat_natCast]; exact UInt8.ofNat_toNat
  rw [e1]
  rfl
theorem at_digit (x : List UInt8) (k : Nat) (W : World) (h : k < x.length) : (Instr.index 111 (.string (strB x)) (.int .i64 k)).run Tryz.prog W = .ok (.int .u8 ((x[k].toNat : Nat) : Int)) W := by
  have hs : (strB x).size = x.length := by rw [Lib.size_eq, strB_data]
  rw [run_index_string W 111 _ .i64 _ Tryz.underlying111, dif_pos ⟨by omega, by omega⟩]
  congr 3
theorem asD_any (l : List (List UInt8)) (w : World) : (Instr.typeAssert (nextV l) 20 111 true).run Tryz.prog w = .ok (.tuple #[.string (strB (digsP l).1), .bool (digsP l).2]) w := by
  rcases nextV_cases l with ⟨hv, hN, hD⟩ | ⟨x, hv, hN, hD⟩ | ⟨x, hv, hN, hD⟩
  · rw [hv, hD]; exact asD_nil w
  · rw [hv, hD]; exact asD_yes _ w
  · rw [hv, hD]; exact asD_no _ w
def keyP (l : List (List UInt8)) : List UInt8 × Bool := (unkP (digsP l).1, (digsP l).2 && decide ((digsP l).1.length % 2 = 0))

set_option maxHeartbeats 2000000 in
theorem key_any (A : Nat) (l : List (List UInt8)) (b : Bool) (w : World) (h : WdR w A l b) :
    Calls Tryz.prog 47 #[.pointer (some ⟨A, 0, none⟩)] w fun e w' => e = .returned (.string (strB (keyP l).1)) ∧ WdR w' A l.tail (b || !(keyP l).2) ∧ Turn [A] w w' := by
  obtain ⟨i0, hi0⟩ := info_parts Tryz.info5
  have HI := Hid.mk hi0
  clear hi0
  have HC := Hid.mk (word_any A l b w h)
  have hL := digs_len h.lens
  unfold keyP
  have r0 := asD_any l
  generalize nextV l = nv at *
  generalize (digsP l).1 = x at *
  generalize (digsP l).2 = ok at *
  have HAT := Hid.mk (fun (k : Nat) (W : World) (h : k < x.length) => at_digit x k W h)
  have hs : (strB x).size = x.length := by rw [Lib.size_eq, strB_data]
  obtain ⟨s, hse⟩ : ∃ s, s = strB x := ⟨_, rfl⟩
  rw [← hse] at HAT hs r0
  have HSL := Hid.mk hs
  rw [← hs] at hL
  have HPar : Hid (decide (x.length % 2 = 0) = decide (s.size % 2 = 0)) := by unfold Hid; rw [hs]
  rw [HPar.out]
  clear h hs hse
  have htm : Int.tmod (s.size : Int) 2 = ((s.size % 2 : Nat) : Int) := by rw [Int.tmod_eq_emod_of_nonneg (by omega)]; omega
  obtain ⟨pr, hpr, hp01⟩ : ∃ pr : Nat, s.size % 2 = pr ∧ (pr = 0 ∨ pr = 1) := ⟨_, rfl, by omega⟩
  rw [hpr] at htm ⊢
  clear hpr
  rcases hp01 with rfl | rfl <;> cases ok
  · go_enter Tryz.func47, Tryz.ntmps47
    go_wp2_with fail
    refine HC.out.mono ?_
    rintro e w1 ⟨rfl, hr1, ht1⟩
    go_wp2_with fail
    refine (take_any A l.tail b _ w1 hr1).mono ?_
    rintro e w2 ⟨rfl, hr2, ht2⟩
    have HR2 := Hid.mk hr2
    have HT2 := Hid.mk (ht1.trans ht2)
    clear hr1 ht1 hr2 ht2 htm r0
    go_wp2_with fail
    go_loopw [5, 6] (fun v i wr => ∃ k : Nat, 2 * k ≤ s.size ∧ i = .int .i64 ((2 * k + 1 : Nat) : Int) ∧ wr.ownsRow w2.heap.size 5 1 v (zOf (unkP (x.take (2 * k)))).length ((zOf (unkP (x.take (2 * k)))).map (Value.int .u8)) ∧ Below w2.heap.size w2 wr) (fun _ i _ => s.size + 2 - (intOf i).toNat)
    case atStart => exact ⟨0, Nat.zero_le _, rfl, ⟨rfl, .inl ⟨rfl, rfl⟩⟩, Below.refl _ _⟩
    case round =>
      obtain ⟨k, hk, rfl, hown, hbk⟩ := hrel
      by_cases hlt : 2 * k + 1 < s.size
      · have hkl : 2 * k + 1 < x.length := by rw [← HSL.out]; exact hlt
        have hat := fun W => HAT.out (2 * k) W (by omega)
        have hat2 := fun W => HAT.out (2 * k + 1) W hkl
        have HZ : Hid (zOf (unkP (x.take (2 * (k + 1)))) = zOf (unkP (x.take (2 * k))) ++ [((UInt8.ofNat ((ixP x[2 * k] * 16 + ixP x[2 * k + 1]) % 256).toNat).toNat : Int)]) := by
          show _ = _
          rw [show 2 * (k + 1) = 2 * k + 2 by omega, unk_take k x hkl]
          simp [zOf]
        have hl2 : (zOf (unkP (x.take (2 * k)))).length ≤ 1048576 := by
          have h1 := unk_len _ (x.take (2 * k)) (Nat.le_refl _)
          unfold zOf
          rw [List.length_map]
          rw [List.length_take] at h1
          omega
        have HC1 := Hid.mk (fun W => ix_any x[2 * k] W)
        have HC2 := Hid.mk (fun W => ix_any x[2 * k + 1] W)
        have hd1 := ixP_bound x[2 * k]
        have hd2 := ixP_bound x[2 * k + 1]
        generalize ixP x[2 * k] = p1 at *
        generalize ixP x[2 * k + 1] = p2 at *
        generalize x[2 * k].toNat = c1 at *
        generalize x[2 * k + 1].toNat = c2 at *
        have hv : ((UInt8.ofNat ((p1 * 16 + p2) % 256).toNat).toNat : Int) = (p1 * 16 + p2) % 256 := by rw [UInt8.toNat_ofNat']; omega
        rw [hv] at HZ
        have hwr : IntKind.u8.wrap (p1 * 16 + p2) = (p1 * 16 + p2) % 256 := by rw [IntKind.wrap_u8]
        clear hv
        generalize zOf (unkP (x.take (2 * k))) = out at *
        generalize hxx : (p1 * 16 + p2) % 256 = xv at *
        clear hxx
        obtain ⟨j, hj⟩ : ∃ j, j = 2 * k := ⟨_, rfl⟩
        have HJ := Hid.mk hj
        rw [← hj] at hat hat2 hlt ⊢
        replace hat2 : ∀ W, (Instr.index 111 (.string s) (.int .i64 ((j : Int) + 1))).run Tryz.prog W = .ok (.int .u8 ((c2 : Nat) : Int)) W := hat2
        clear hj
        have hjl : (j : Int) + 1 < (s.size : Int) := by omega
        have hwj : IntKind.i64.wrap (j : Int) = (j : Int) := by rw [IntKind.wrap_i64]; omega
        have hsj : (j : Int) + 1 - 1 = (j : Int) := by omega
        have hwp : IntKind.i64.wrap (p1 * 16) = p1 * 16 := by rw [IntKind.wrap_i64]; omega
        have hwq2 : IntKind.i64.wrap (p1 * 16 + p2) = p1 * 16 + p2 := by rw [IntKind.wrap_i64]; omega
        go_wp2_with fail
        refine wp_region_held_drew (S := fun W => Below w2.heap.size w2 W) (by kernel_rfl) (Below.drew hbk) (fun hHeld => ?_)
        refine tk 0 q52d_47_7_0 (some 30) (v := ?v1) rfl rfl (by kernel_rfl) hHeld (by rfl) (fun _ _ _ x => x) (fun w h => ?y1) ?_; (case y1 => (try dsimp only at h); go_simp; try (with_reducible rfl)); try simp only [Act.put, sa, s0, s1]
        refine tk 1 q52d_47_7_1 (some 31) (v := ?v2) rfl rfl (by kernel_rfl) hHeld (by rfl) (fun _ _ _ x => x) (fun w h => ?y2) ?_; (case y2 => (try dsimp only at h); go_simp; try (with_reducible rfl)); try simp only [Act.put, sa, s0, s1]
        refine tk 2 q52d_47_7_2 (some 32) (v := ?v3) rfl rfl (by kernel_rfl) hHeld (by rfl) (fun _ _ _ x => x) (fun w h => ?y3) ?_; (case y3 => (try dsimp only at h); go_simp; try (with_reducible rfl)); try simp only [Act.put, sa, s0, s1]
        refine tk 3 q52d_47_7_3 (some 33) (v := ?v4) rfl rfl (by kernel_rfl) hHeld (by rfl) (fun _ _ _ x => x) (fun w h => ?y4) ?_; (case y4 => (try dsimp only at h); go_simp; try (with_reducible rfl)); try simp only [Act.put, sa, s0, s1]
        refine tk 5 q52d_47_7_5 (some 35) (v := ?v5) rfl rfl (by kernel_rfl) hHeld (by rfl) (fun _ _ _ x => x) (fun w h => ?y5) ?_; (case y5 => (try dsimp only at h); go_simp; try (with_reducible rfl)); try simp only [Act.put, sa, s0, s1]
        refine tk 6 q52d_47_7_6 (some 36) (v := ?v6) rfl rfl (by kernel_rfl) hHeld (by rfl) (fun _ _ _ x => x) (fun w h => ?y6) ?_; (case y6 => (try dsimp only at h); go_simp; try (with_reducible rfl)); try simp only [Act.put, sa, s0, s1]
        refine tk 7 q52d_47_7_7 (some 37) (v := ?v7) rfl rfl (by kernel_rfl) hHeld (by rfl) (fun _ _ _ x => x) (fun w h => ?y7) ?_; (case y7 => (try dsimp only at h); go_simp; try (with_reducible rfl)); try simp only [Act.put, sa, s0, s1]
        refine wpAnyH_ready (rs := [4]) (by kernel_rfl) (by simp) ?_
        refine AllReadyH.cons (o := q52d_47_7_4) rfl (fun K hK => ?_) AllReadyH.nil
        go_simp
        refine (HC1.out _).mono ?_
        rintro e wa ⟨rfl, hwa⟩
        have hop1 : Below w2.heap.size w2 wa := by rw [hwa]; exact hHeld
        replace hwa := hwa.symm
        subst hwa
        go_wp2_with fail
        go_wp2_with fail
        refine hK.out _ _ (hop1) (fun hHeld => ?_)
        clear hK K
        try simp only [Act.put, sa, s0, s1]
        refine wpAnyH_ready (rs := [8]) (by kernel_rfl) (by simp) ?_
        refine AllReadyH.cons (o := q52d_47_7_8) rfl (fun K hK => ?_) AllReadyH.nil
        go_simp
        refine (HC2.out _).mono ?_
        rintro e wb ⟨rfl, hwb⟩
        have hop2 : Below w2.heap.size w2 wb := by rw [hwb]; exact hHeld
        replace hwb := hwb.symm
        subst hwb
        go_wp2_with fail
        go_wp2_with fail
        refine hK.out _ _ (hop2) (fun hHeld => ?_)
        clear hK K
        try simp only [Act.put, sa, s0, s1]
        refine tk 9 q52d_47_7_9 (some 7) (v := ?v8) rfl rfl (by kernel_rfl) hHeld (by rfl) (fun _ _ _ x => x) (fun w h => ?y8) ?_; (case y8 => (try dsimp only at h); go_simp; try (with_reducible rfl)); try simp only [Act.put, sa, s0, s1]
        refine tk 10 q52d_47_7_10 (some 8) (v := ?v9) rfl rfl (by kernel_rfl) hHeld (by rfl) (fun _ _ _ x => x) (fun w h => ?y9) ?_; (case y9 => (try dsimp only at h); go_simp; try (with_reducible rfl)); try simp only [Act.put, sa, s0, s1]
        refine wpAnyH_done (by kernel_rfl) ?_ _
        obtain ⟨w6, hw6⟩ : ∃ q, q = (wr.alloc (.cells #[Value.int .u8 xv] 5)).drew := ⟨_, rfl⟩
        have hx6 : Below wr.heap.size wr w6 := by rw [hw6]; exact Below.drew ((Below.refl _ _).alloc (Nat.le_refl _) _)
        have hbx6 : Bx w6 wr.heap.size [Value.int .u8 xv] := by rw [hw6]; exact (Bx.new wr [Value.int .u8 xv] 5)
        have hown6 := own_below hown hx6
        have hb6 := bthen hbk hx6
        clear hown HC1 HC2 hat hat2
        go_wp2_with (at_builtin; rw [← hw6]; refine wpList_append_own_at _ rfl _ _ 60 rfl w2.heap.size 5 i0 (.int .u8 0) 1 1 Tryz.underlying60 HI.out.1 HI.out.2.1 HI.out.2.2.1 HI.out.2.2.2 rfl (by decide) _ _ _ rfl hown6 ⟨wr.heap.size, 0, none⟩ 1 1 [.int .u8 xv] rfl rfl (bx_news hbx6) (by intro u hu; simp at hu; subst hu; rfl) (by unfold maxLen; omega) (by omega) hb6.size ?_; intro v7 w7 hown7 hgrow7 hnil7 hloc7)
        have hb7 := hb6.grown hgrow7 hb6.size (fun k h => (hown6.lt k h).1)
        have HO7 : Hid (w7.ownsRow w2.heap.size 5 1 v7 (out ++ [xv]).length ((out ++ [xv]).map (Value.int .u8))) := own_congr hown7 (by simp) (by simp)
        clear hown6 hown7 hgrow7 hnil7 hloc7 hw6 hbx6
        go_wp2_with fail
        go_roundw
        case rel => exact ⟨k + 1, by have := HJ.out; omega, by rw [show (2 * (k + 1) + 1 : Nat) = j + 1 + 2 by have := HJ.out; omega]; rfl, by rw [HZ.out]; exact HO7.out, hb7⟩
        case measure => simp [intOf]; have := HJ.out; omega
      · have HU : Hid (unkP (x.take (2 * k)) = unkP x) := unk_all k x (by rw [← HSL.out]; exact hlt) (by rw [← HSL.out]; exact hk)
        rw [HU.out] at hown
        have hcv := conv_hex hown
        rw [zOf_str] at hcv
        have hn : ¬ ((2 * k : Nat) : Int) + 1 < (s.size : Int) := by omega
        go_wp2_with fail
        go_ret
        exact ⟨rfl, by have h9 := HR2.out.below hbk; simpa using h9, HT2.out.trans (Turn.ofBelow hbk)⟩
  · go_enter Tryz.func47, Tryz.ntmps47
    go_wp2_with fail
    refine HC.out.mono ?_
    rintro e w1 ⟨rfl, hr1, ht1⟩
    go_wp2_with fail
    refine (take_any A l.tail b _ w1 hr1).mono ?_
    rintro e w2 ⟨rfl, hr2, ht2⟩
    have HR2 := Hid.mk hr2
    have HT2 := Hid.mk (ht1.trans ht2)
    clear hr1 ht1 hr2 ht2 htm r0
    go_wp2_with fail
    go_loopw [5, 6] (fun v i wr => ∃ k : Nat, 2 * k ≤ s.size ∧ i = .int .i64 ((2 * k + 1 : Nat) : Int) ∧ wr.ownsRow w2.heap.size 5 1 v (zOf (unkP (x.take (2 * k)))).length ((zOf (unkP (x.take (2 * k)))).map (Value.int .u8)) ∧ Below w2.heap.size w2 wr) (fun _ i _ => s.size + 2 - (intOf i).toNat)
    case atStart => exact ⟨0, Nat.zero_le _, rfl, ⟨rfl, .inl ⟨rfl, rfl⟩⟩, Below.refl _ _⟩
    case round =>
      obtain ⟨k, hk, rfl, hown, hbk⟩ := hrel
      by_cases hlt : 2 * k + 1 < s.size
      · have hkl : 2 * k + 1 < x.length := by rw [← HSL.out]; exact hlt
        have hat := fun W => HAT.out (2 * k) W (by omega)
        have hat2 := fun W => HAT.out (2 * k + 1) W hkl
        have HZ : Hid (zOf (unkP (x.take (2 * (k + 1)))) = zOf (unkP (x.take (2 * k))) ++ [((UInt8.ofNat ((ixP x[2 * k] * 16 + ixP x[2 * k + 1]) % 256).toNat).toNat : Int)]) := by
          show _ = _
          rw [show 2 * (k + 1) = 2 * k + 2 by omega, unk_take k x hkl]
          simp [zOf]
        have hl2 : (zOf (unkP (x.take (2 * k)))).length ≤ 1048576 := by
          have h1 := unk_len _ (x.take (2 * k)) (Nat.le_refl _)
          unfold zOf
          rw [List.length_map]
          rw [List.length_take] at h1
          omega
        have HC1 := Hid.mk (fun W => ix_any x[2 * k] W)
        have HC2 := Hid.mk (fun W => ix_any x[2 * k + 1] W)
        have hd1 := ixP_bound x[2 * k]
        have hd2 := ixP_bound x[2 * k + 1]
        generalize ixP x[2 * k] = p1 at *
        generalize ixP x[2 * k + 1] = p2 at *
        generalize x[2 * k].toNat = c1 at *
        generalize x[2 * k + 1].toNat = c2 at *
        have hv : ((UInt8.ofNat ((p1 * 16 + p2) % 256).toNat).toNat : Int) = (p1 * 16 + p2) % 256 := by rw [UInt8.toNat_ofNat']; omega
        rw [hv] at HZ
        have hwr : IntKind.u8.wrap (p1 * 16 + p2) = (p1 * 16 + p2) % 256 := by rw [IntKind.wrap_u8]
        clear hv
        generalize zOf (unkP (x.take (2 * k))) = out at *
        generalize hxx : (p1 * 16 + p2) % 256 = xv at *
        clear hxx
        obtain ⟨j, hj⟩ : ∃ j, j = 2 * k := ⟨_, rfl⟩
        have HJ := Hid.mk hj
        rw [← hj] at hat hat2 hlt ⊢
        replace hat2 : ∀ W, (Instr.index 111 (.string s) (.int .i64 ((j : Int) + 1))).run Tryz.prog W = .ok (.int .u8 ((c2 : Nat) : Int)) W := hat2
        clear hj
        have hjl : (j : Int) + 1 < (s.size : Int) := by omega
        have hwj : IntKind.i64.wrap (j : Int) = (j : Int) := by rw [IntKind.wrap_i64]; omega
        have hsj : (j : Int) + 1 - 1 = (j : Int) := by omega
        have hwp : IntKind.i64.wrap (p1 * 16) = p1 * 16 := by rw [IntKind.wrap_i64]; omega
        have hwq2 : IntKind.i64.wrap (p1 * 16 + p2) = p1 * 16 + p2 := by rw [IntKind.wrap_i64]; omega
        go_wp2_with fail
        refine wp_region_held_drew (S := fun W => Below w2.heap.size w2 W) (by kernel_rfl) (Below.drew hbk) (fun hHeld => ?_)
        refine tk 0 q52d_47_7_0 (some 30) (v := ?v10) rfl rfl (by kernel_rfl) hHeld (by rfl) (fun _ _ _ x => x) (fun w h => ?y10) ?_; (case y10 => (try dsimp only at h); go_simp; try (with_reducible rfl)); try simp only [Act.put, sa, s0, s1]
        refine tk 1 q52d_47_7_1 (some 31) (v := ?v11) rfl rfl (by kernel_rfl) hHeld (by rfl) (fun _ _ _ x => x) (fun w h => ?y11) ?_; (case y11 => (try dsimp only at h); go_simp; try (with_reducible rfl)); try simp only [Act.put, sa, s0, s1]
        refine tk 2 q52d_47_7_2 (some 32) (v := ?v12) rfl rfl (by kernel_rfl) hHeld (by rfl) (fun _ _ _ x => x) (fun w h => ?y12) ?_; (case y12 => (try dsimp only at h); go_simp; try (with_reducible rfl)); try simp only [Act.put, sa, s0, s1]
        refine tk 3 q52d_47_7_3 (some 33) (v := ?v13) rfl rfl (by kernel_rfl) hHeld (by rfl) (fun _ _ _ x => x) (fun w h => ?y13) ?_; (case y13 => (try dsimp only at h); go_simp; try (with_reducible rfl)); try simp only [Act.put, sa, s0, s1]
        refine tk 5 q52d_47_7_5 (some 35) (v := ?v14) rfl rfl (by kernel_rfl) hHeld (by rfl) (fun _ _ _ x => x) (fun w h => ?y14) ?_; (case y14 => (try dsimp only at h); go_simp; try (with_reducible rfl)); try simp only [Act.put, sa, s0, s1]
        refine tk 6 q52d_47_7_6 (some 36) (v := ?v15) rfl rfl (by kernel_rfl) hHeld (by rfl) (fun _ _ _ x => x) (fun w h => ?y15) ?_; (case y15 => (try dsimp only at h); go_simp; try (with_reducible rfl)); try simp only [Act.put, sa, s0, s1]
        refine tk 7 q52d_47_7_7 (some 37) (v := ?v16) rfl rfl (by kernel_rfl) hHeld (by rfl) (fun _ _ _ x => x) (fun w h => ?y16) ?_; (case y16 => (try dsimp only at h); go_simp; try (with_reducible rfl)); try simp only [Act.put, sa, s0, s1]
        refine wpAnyH_ready (rs := [4]) (by kernel_rfl) (by simp) ?_
        refine AllReadyH.cons (o := q52d_47_7_4) rfl (fun K hK => ?_) AllReadyH.nil
        go_simp
        refine (HC1.out _).mono ?_
        rintro e wa ⟨rfl, hwa⟩
        have hop1 : Below w2.heap.size w2 wa := by rw [hwa]; exact hHeld
        replace hwa := hwa.symm
        subst hwa
        go_wp2_with fail
        go_wp2_with fail
        refine hK.out _ _ (hop1) (fun hHeld => ?_)
        clear hK K
        try simp only [Act.put, sa, s0, s1]
        refine wpAnyH_ready (rs := [8]) (by kernel_rfl) (by simp) ?_
        refine AllReadyH.cons (o := q52d_47_7_8) rfl (fun K hK => ?_) AllReadyH.nil
        go_simp
        refine (HC2.out _).mono ?_
        rintro e wb ⟨rfl, hwb⟩
        have hop2 : Below w2.heap.size w2 wb := by rw [hwb]; exact hHeld
        replace hwb := hwb.symm
        subst hwb
        go_wp2_with fail
        go_wp2_with fail
        refine hK.out _ _ (hop2) (fun hHeld => ?_)
        clear hK K
        try simp only [Act.put, sa, s0, s1]
        refine tk 9 q52d_47_7_9 (some 7) (v := ?v17) rfl rfl (by kernel_rfl) hHeld (by rfl) (fun _ _ _ x => x) (fun w h => ?y17) ?_; (case y17 => (try dsimp only at h); go_simp; try (with_reducible rfl)); try simp only [Act.put, sa, s0, s1]
        refine tk 10 q52d_47_7_10 (some 8) (v := ?v18) rfl rfl (by kernel_rfl) hHeld (by rfl) (fun _ _ _ x => x) (fun w h => ?y18) ?_; (case y18 => (try dsimp only at h); go_simp; try (with_reducible rfl)); try simp only [Act.put, sa, s0, s1]
        refine wpAnyH_done (by kernel_rfl) ?_ _
        obtain ⟨w6, hw6⟩ : ∃ q, q = (wr.alloc (.cells #[Value.int .u8 xv] 5)).drew := ⟨_, rfl⟩
        have hx6 : Below wr.heap.size wr w6 := by rw [hw6]; exact Below.drew ((Below.refl _ _).alloc (Nat.le_refl _) _)
        have hbx6 : Bx w6 wr.heap.size [Value.int .u8 xv] := by rw [hw6]; exact (Bx.new wr [Value.int .u8 xv] 5)
        have hown6 := own_below hown hx6
        have hb6 := bthen hbk hx6
        clear hown HC1 HC2 hat hat2
        go_wp2_with (at_builtin; rw [← hw6]; refine wpList_append_own_at _ rfl _ _ 60 rfl w2.heap.size 5 i0 (.int .u8 0) 1 1 Tryz.underlying60 HI.out.1 HI.out.2.1 HI.out.2.2.1 HI.out.2.2.2 rfl (by decide) _ _ _ rfl hown6 ⟨wr.heap.size, 0, none⟩ 1 1 [.int .u8 xv] rfl rfl (bx_news hbx6) (by intro u hu; simp at hu; subst hu; rfl) (by unfold maxLen; omega) (by omega) hb6.size ?_; intro v7 w7 hown7 hgrow7 hnil7 hloc7)
        have hb7 := hb6.grown hgrow7 hb6.size (fun k h => (hown6.lt k h).1)
        have HO7 : Hid (w7.ownsRow w2.heap.size 5 1 v7 (out ++ [xv]).length ((out ++ [xv]).map (Value.int .u8))) := own_congr hown7 (by simp) (by simp)
        clear hown6 hown7 hgrow7 hnil7 hloc7 hw6 hbx6
        go_wp2_with fail
        go_roundw
        case rel => exact ⟨k + 1, by have := HJ.out; omega, by rw [show (2 * (k + 1) + 1 : Nat) = j + 1 + 2 by have := HJ.out; omega]; rfl, by rw [HZ.out]; exact HO7.out, hb7⟩
        case measure => simp [intOf]; have := HJ.out; omega
      · have HU : Hid (unkP (x.take (2 * k)) = unkP x) := unk_all k x (by rw [← HSL.out]; exact hlt) (by rw [← HSL.out]; exact hk)
        rw [HU.out] at hown
        have hcv := conv_hex hown
        rw [zOf_str] at hcv
        have hn : ¬ ((2 * k : Nat) : Int) + 1 < (s.size : Int) := by omega
        go_wp2_with fail
        go_ret
        exact ⟨rfl, by have h9 := HR2.out.below hbk; simpa using h9, HT2.out.trans (Turn.ofBelow hbk)⟩
  · go_enter Tryz.func47, Tryz.ntmps47
    go_wp2_with fail
    refine HC.out.mono ?_
    rintro e w1 ⟨rfl, hr1, ht1⟩
    go_wp2_with fail
    refine (take_any A l.tail b _ w1 hr1).mono ?_
    rintro e w2 ⟨rfl, hr2, ht2⟩
    have HR2 := Hid.mk hr2
    have HT2 := Hid.mk (ht1.trans ht2)
    clear hr1 ht1 hr2 ht2 htm r0
    go_wp2_with fail
    go_loopw [5, 6] (fun v i wr => ∃ k : Nat, 2 * k ≤ s.size ∧ i = .int .i64 ((2 * k + 1 : Nat) : Int) ∧ wr.ownsRow w2.heap.size 5 1 v (zOf (unkP (x.take (2 * k)))).length ((zOf (unkP (x.take (2 * k)))).map (Value.int .u8)) ∧ Below w2.heap.size w2 wr) (fun _ i _ => s.size + 2 - (intOf i).toNat)
    case atStart => exact ⟨0, Nat.zero_le _, rfl, ⟨rfl, .inl ⟨rfl, rfl⟩⟩, Below.refl _ _⟩
    case round =>
      obtain ⟨k, hk, rfl, hown, hbk⟩ := hrel
      by_cases hlt : 2 * k + 1 < s.size
      · have hkl : 2 * k + 1 < x.length := by rw [← HSL.out]; exact hlt
        have hat := fun W => HAT.out (2 * k) W (by omega)
        have hat2 := fun W => HAT.out (2 * k + 1) W hkl
        have HZ : Hid (zOf (unkP (x.take (2 * (k + 1)))) = zOf (unkP (x.take (2 * k))) ++ [((UInt8.ofNat ((ixP x[2 * k] * 16 + ixP x[2 * k + 1]) % 256).toNat).toNat : Int)]) := by
          show _ = _
          rw [show 2 * (k + 1) = 2 * k + 2 by omega, unk_take k x hkl]
          simp [zOf]
        have hl2 : (zOf (unkP (x.take (2 * k)))).length ≤ 1048576 := by
          have h1 := unk_len _ (x.take (2 * k)) (Nat.le_refl _)
          unfold zOf
          rw [List.length_map]
          rw [List.length_take] at h1
          omega
        have HC1 := Hid.mk (fun W => ix_any x[2 * k] W)
        have HC2 := Hid.mk (fun W => ix_any x[2 * k + 1] W)
        have hd1 := ixP_bound x[2 * k]
        have hd2 := ixP_bound x[2 * k + 1]
        generalize ixP x[2 * k] = p1 at *
        generalize ixP x[2 * k + 1] = p2 at *
        generalize x[2 * k].toNat = c1 at *
        generalize x[2 * k + 1].toNat = c2 at *
        have hv : ((UInt8.ofNat ((p1 * 16 + p2) % 256).toNat).toNat : Int) = (p1 * 16 + p2) % 256 := by rw [UInt8.toNat_ofNat']; omega
        rw [hv] at HZ
        have hwr : IntKind.u8.wrap (p1 * 16 + p2) = (p1 * 16 + p2) % 256 := by rw [IntKind.wrap_u8]
        clear hv
        generalize zOf (unkP (x.take (2 * k))) = out at *
        generalize hxx : (p1 * 16 + p2) % 256 = xv at *
        clear hxx
        obtain ⟨j, hj⟩ : ∃ j, j = 2 * k := ⟨_, rfl⟩
        have HJ := Hid.mk hj
        rw [← hj] at hat hat2 hlt ⊢
        replace hat2 : ∀ W, (Instr.index 111 (.string s) (.int .i64 ((j : Int) + 1))).run Tryz.prog W = .ok (.int .u8 ((c2 : Nat) : Int)) W := hat2
        clear hj
        have hjl : (j : Int) + 1 < (s.size : Int) := by omega
        have hwj : IntKind.i64.wrap (j : Int) = (j : Int) := by rw [IntKind.wrap_i64]; omega
        have hsj : (j : Int) + 1 - 1 = (j : Int) := by omega
        have hwp : IntKind.i64.wrap (p1 * 16) = p1 * 16 := by rw [IntKind.wrap_i64]; omega
        have hwq2 : IntKind.i64.wrap (p1 * 16 + p2) = p1 * 16 + p2 := by rw [IntKind.wrap_i64]; omega
        go_wp2_with fail
        refine wp_region_held_drew (S := fun W => Below w2.heap.size w2 W) (by kernel_rfl) (Below.drew hbk) (fun hHeld => ?_)
        refine tk 0 q52d_47_7_0 (some 30) (v := ?v19) rfl rfl (by kernel_rfl) hHeld (by rfl) (fun _ _ _ x => x) (fun w h => ?y19) ?_; (case y19 => (try dsimp only at h); go_simp; try (with_reducible rfl)); try simp only [Act.put, sa, s0, s1]
        refine tk 1 q52d_47_7_1 (some 31) (v := ?v20) rfl rfl (by kernel_rfl) hHeld (by rfl) (fun _ _ _ x => x) (fun w h => ?y20) ?_; (case y20 => (try dsimp only at h); go_simp; try (with_reducible rfl)); try simp only [Act.put, sa, s0, s1]
        refine tk 2 q52d_47_7_2 (some 32) (v := ?v21) rfl rfl (by kernel_rfl) hHeld (by rfl) (fun _ _ _ x => x) (fun w h => ?y21) ?_; (case y21 => (try dsimp only at h); go_simp; try (with_reducible rfl)); try simp only [Act.put, sa, s0, s1]
        refine tk 3 q52d_47_7_3 (some 33) (v := ?v22) rfl rfl (by kernel_rfl) hHeld (by rfl) (fun _ _ _ x => x) (fun w h => ?y22) ?_; (case y22 => (try dsimp only at h); go_simp; try (with_reducible rfl)); try simp only [Act.put, sa, s0, s1]
        refine tk 5 q52d_47_7_5 (some 35) (v := ?v23) rfl rfl (by kernel_rfl) hHeld (by rfl) (fun _ _ _ x => x) (fun w h => ?y23) ?_; (case y23 => (try dsimp only at h); go_simp; try (with_reducible rfl)); try simp only [Act.put, sa, s0, s1]
        refine tk 6 q52d_47_7_6 (some 36) (v := ?v24) rfl rfl (by kernel_rfl) hHeld (by rfl) (fun _ _ _ x => x) (fun w h => ?y24) ?_; (case y24 => (try dsimp only at h); go_simp; try (with_reducible rfl)); try simp only [Act.put, sa, s0, s1]
        refine tk 7 q52d_47_7_7 (some 37) (v := ?v25) rfl rfl (by kernel_rfl) hHeld (by rfl) (fun _ _ _ x => x) (fun w h => ?y25) ?_; (case y25 => (try dsimp only at h); go_simp; try (with_reducible rfl)); try simp only [Act.put, sa, s0, s1]
        refine wpAnyH_ready (rs := [4]) (by kernel_rfl) (by simp) ?_
        refine AllReadyH.cons (o := q52d_47_7_4) rfl (fun K hK => ?_) AllReadyH.nil
        go_simp
        refine (HC1.out _).mono ?_
        rintro e wa ⟨rfl, hwa⟩
        have hop1 : Below w2.heap.size w2 wa := by rw [hwa]; exact hHeld
        replace hwa := hwa.symm
        subst hwa
        go_wp2_with fail
        go_wp2_with fail
        refine hK.out _ _ (hop1) (fun hHeld => ?_)
        clear hK K
        try simp only [Act.put, sa, s0, s1]
        refine wpAnyH_ready (rs := [8]) (by kernel_rfl) (by simp) ?_
        refine AllReadyH.cons (o := q52d_47_7_8) rfl (fun K hK => ?_) AllReadyH.nil
        go_simp
        refine (HC2.out _).mono ?_
        rintro e wb ⟨rfl, hwb⟩
        have hop2 : Below w2.heap.size w2 wb := by rw [hwb]; exact hHeld
        replace hwb := hwb.symm
        subst hwb
        go_wp2_with fail
        go_wp2_with fail
        refine hK.out _ _ (hop2) (fun hHeld => ?_)
        clear hK K
        try simp only [Act.put, sa, s0, s1]
        refine tk 9 q52d_47_7_9 (some 7) (v := ?v26) rfl rfl (by kernel_rfl) hHeld (by rfl) (fun _ _ _ x => x) (fun w h => ?y26) ?_; (case y26 => (try dsimp only at h); go_simp; try (with_reducible rfl)); try simp only [Act.put, sa, s0, s1]
        refine tk 10 q52d_47_7_10 (some 8) (v := ?v27) rfl rfl (by kernel_rfl) hHeld (by rfl) (fun _ _ _ x => x) (fun w h => ?y27) ?_; (case y27 => (try dsimp only at h); go_simp; try (with_reducible rfl)); try simp only [Act.put, sa, s0, s1]
        refine wpAnyH_done (by kernel_rfl) ?_ _
        obtain ⟨w6, hw6⟩ : ∃ q, q = (wr.alloc (.cells #[Value.int .u8 xv] 5)).drew := ⟨_, rfl⟩
        have hx6 : Below wr.heap.size wr w6 := by rw [hw6]; exact Below.drew ((Below.refl _ _).alloc (Nat.le_refl _) _)
        have hbx6 : Bx w6 wr.heap.size [Value.int .u8 xv] := by rw [hw6]; exact (Bx.new wr [Value.int .u8 xv] 5)
        have hown6 := own_below hown hx6
        have hb6 := bthen hbk hx6
        clear hown HC1 HC2 hat hat2
        go_wp2_with (at_builtin; rw [← hw6]; refine wpList_append_own_at _ rfl _ _ 60 rfl w2.heap.size 5 i0 (.int .u8 0) 1 1 Tryz.underlying60 HI.out.1 HI.out.2.1 HI.out.2.2.1 HI.out.2.2.2 rfl (by decide) _ _ _ rfl hown6 ⟨wr.heap.size, 0, none⟩ 1 1 [.int .u8 xv] rfl rfl (bx_news hbx6) (by intro u hu; simp at hu; subst hu; rfl) (by unfold maxLen; omega) (by omega) hb6.size ?_; intro v7 w7 hown7 hgrow7 hnil7 hloc7)
        have hb7 := hb6.grown hgrow7 hb6.size (fun k h => (hown6.lt k h).1)
        have HO7 : Hid (w7.ownsRow w2.heap.size 5 1 v7 (out ++ [xv]).length ((out ++ [xv]).map (Value.int .u8))) := own_congr hown7 (by simp) (by simp)
        clear hown6 hown7 hgrow7 hnil7 hloc7 hw6 hbx6
        go_wp2_with fail
        go_roundw
        case rel => exact ⟨k + 1, by have := HJ.out; omega, by rw [show (2 * (k + 1) + 1 : Nat) = j + 1 + 2 by have := HJ.out; omega]; rfl, by rw [HZ.out]; exact HO7.out, hb7⟩
        case measure => simp [intOf]; have := HJ.out; omega
      · have HU : Hid (unkP (x.take (2 * k)) = unkP x) := unk_all k x (by rw [← HSL.out]; exact hlt) (by rw [← HSL.out]; exact hk)
        rw [HU.out] at hown
        have hcv := conv_hex hown
        rw [zOf_str] at hcv
        have hn : ¬ ((2 * k : Nat) : Int) + 1 < (s.size : Int) := by omega
        go_wp2_with fail
        go_ret
        exact ⟨rfl, by have h9 := HR2.out.below hbk; simpa using h9, HT2.out.trans (Turn.ofBelow hbk)⟩
  · go_enter Tryz.func47, Tryz.ntmps47
    go_wp2_with fail
    refine HC.out.mono ?_
    rintro e w1 ⟨rfl, hr1, ht1⟩
    go_wp2_with fail
    refine (take_any A l.tail b _ w1 hr1).mono ?_
    rintro e w2 ⟨rfl, hr2, ht2⟩
    have HR2 := Hid.mk hr2
    have HT2 := Hid.mk (ht1.trans ht2)
    clear hr1 ht1 hr2 ht2 htm r0
    go_wp2_with fail
    go_loopw [5, 6] (fun v i wr => ∃ k : Nat, 2 * k ≤ s.size ∧ i = .int .i64 ((2 * k + 1 : Nat) : Int) ∧ wr.ownsRow w2.heap.size 5 1 v (zOf (unkP (x.take (2 * k)))).length ((zOf (unkP (x.take (2 * k)))).map (Value.int .u8)) ∧ Below w2.heap.size w2 wr) (fun _ i _ => s.size + 2 - (intOf i).toNat)
    case atStart => exact ⟨0, Nat.zero_le _, rfl, ⟨rfl, .inl ⟨rfl, rfl⟩⟩, Below.refl _ _⟩
    case round =>
      obtain ⟨k, hk, rfl, hown, hbk⟩ := hrel
      by_cases hlt : 2 * k + 1 < s.size
      · have hkl : 2 * k + 1 < x.length := by rw [← HSL.out]; exact hlt
        have hat := fun W => HAT.out (2 * k) W (by omega)
        have hat2 := fun W => HAT.out (2 * k + 1) W hkl
        have HZ : Hid (zOf (unkP (x.take (2 * (k + 1)))) = zOf (unkP (x.take (2 * k))) ++ [((UInt8.ofNat ((ixP x[2 * k] * 16 + ixP x[2 * k + 1]) % 256).toNat).toNat : Int)]) := by
          show _ = _
          rw [show 2 * (k + 1) = 2 * k + 2 by omega, unk_take k x hkl]
          simp [zOf]
        have hl2 : (zOf (unkP (x.take (2 * k)))).length ≤ 1048576 := by
          have h1 := unk_len _ (x.take (2 * k)) (Nat.le_refl _)
          unfold zOf
          rw [List.length_map]
          rw [List.length_take] at h1
          omega
        have HC1 := Hid.mk (fun W => ix_any x[2 * k] W)
        have HC2 := Hid.mk (fun W => ix_any x[2 * k + 1] W)
        have hd1 := ixP_bound x[2 * k]
        have hd2 := ixP_bound x[2 * k + 1]
        generalize ixP x[2 * k] = p1 at *
        generalize ixP x[2 * k + 1] = p2 at *
        generalize x[2 * k].toNat = c1 at *
        generalize x[2 * k + 1].toNat = c2 at *
        have hv : ((UInt8.ofNat ((p1 * 16 + p2) % 256).toNat).toNat : Int) = (p1 * 16 + p2) % 256 := by rw [UInt8.toNat_ofNat']; omega
        rw [hv] at HZ
        have hwr : IntKind.u8.wrap (p1 * 16 + p2) = (p1 * 16 + p2) % 256 := by rw [IntKind.wrap_u8]
        clear hv
        generalize zOf (unkP (x.take (2 * k))) = out at *
        generalize hxx : (p1 * 16 + p2) % 256 = xv at *
        clear hxx
        obtain ⟨j, hj⟩ : ∃ j, j = 2 * k := ⟨_, rfl⟩
        have HJ := Hid.mk hj
        rw [← hj] at hat hat2 hlt ⊢
        replace hat2 : ∀ W, (Instr.index 111 (.string s) (.int .i64 ((j : Int) + 1))).run Tryz.prog W = .ok (.int .u8 ((c2 : Nat) : Int)) W := hat2
        clear hj
        have hjl : (j : Int) + 1 < (s.size : Int) := by omega
        have hwj : IntKind.i64.wrap (j : Int) = (j : Int) := by rw [IntKind.wrap_i64]; omega
        have hsj : (j : Int) + 1 - 1 = (j : Int) := by omega
        have hwp : IntKind.i64.wrap (p1 * 16) = p1 * 16 := by rw [IntKind.wrap_i64]; omega
        have hwq2 : IntKind.i64.wrap (p1 * 16 + p2) = p1 * 16 + p2 := by rw [IntKind.wrap_i64]; omega
        go_wp2_with fail
        refine wp_region_held_drew (S := fun W => Below w2.heap.size w2 W) (by kernel_rfl) (Below.drew hbk) (fun hHeld => ?_)
        refine tk 0 q52d_47_7_0 (some 30) (v := ?v28) rfl rfl (by kernel_rfl) hHeld (by rfl) (fun _ _ _ x => x) (fun w h => ?y28) ?_; (case y28 => (try dsimp only at h); go_simp; try (with_reducible rfl)); try simp only [Act.put, sa, s0, s1]
        refine tk 1 q52d_47_7_1 (some 31) (v := ?v29) rfl rfl (by kernel_rfl) hHeld (by rfl) (fun _ _ _ x => x) (fun w h => ?y29) ?_; (case y29 => (try dsimp only at h); go_simp; try (with_reducible rfl)); try simp only [Act.put, sa, s0, s1]
        refine tk 2 q52d_47_7_2 (some 32) (v := ?v30) rfl rfl (by kernel_rfl) hHeld (by rfl) (fun _ _ _ x => x) (fun w h => ?y30) ?_; (case y30 => (try dsimp only at h); go_simp; try (with_reducible rfl)); try simp only [Act.put, sa, s0, s1]
        refine tk 3 q52d_47_7_3 (some 33) (v := ?v31) rfl rfl (by kernel_rfl) hHeld (by rfl) (fun _ _ _ x => x) (fun w h => ?y31) ?_; (case y31 => (try dsimp only at h); go_simp; try (with_reducible rfl)); try simp only [Act.put, sa, s0, s1]
        refine tk 5 q52d_47_7_5 (some 35) (v := ?v32) rfl rfl (by kernel_rfl) hHeld (by rfl) (fun _ _ _ x => x) (fun w h => ?y32) ?_; (case y32 => (try dsimp only at h); go_simp; try (with_reducible rfl)); try simp only [Act.put, sa, s0, s1]
        refine tk 6 q52d_47_7_6 (some 36) (v := ?v33) rfl rfl (by kernel_rfl) hHeld (by rfl) (fun _ _ _ x => x) (fun w h => ?y33) ?_; (case y33 => (try dsimp only at h); go_simp; try (with_reducible rfl)); try simp only [Act.put, sa, s0, s1]
        refine tk 7 q52d_47_7_7 (some 37) (v := ?v34) rfl rfl (by kernel_rfl) hHeld (by rfl) (fun _ _ _ x => x) (fun w h => ?y34) ?_; (case y34 => (try dsimp only at h); go_simp; try (with_reducible rfl)); try simp only [Act.put, sa, s0, s1]
        refine wpAnyH_ready (rs := [4]) (by kernel_rfl) (by simp) ?_
        refine AllReadyH.cons (o := q52d_47_7_4) rfl (fun K hK => ?_) AllReadyH.nil
        go_simp
        refine (HC1.out _).mono ?_
        rintro e wa ⟨rfl, hwa⟩
        have hop1 : Below w2.heap.size w2 wa := by rw [hwa]; exact hHeld
        replace hwa := hwa.symm
        subst hwa
        go_wp2_with fail
        go_wp2_with fail
        refine hK.out _ _ (hop1) (fun hHeld => ?_)
        clear hK K
        try simp only [Act.put, sa, s0, s1]
        refine wpAnyH_ready (rs := [8]) (by kernel_rfl) (by simp) ?_
        refine AllReadyH.cons (o := q52d_47_7_8) rfl (fun K hK => ?_) AllReadyH.nil
        go_simp
        refine (HC2.out _).mono ?_
        rintro e wb ⟨rfl, hwb⟩
        have hop2 : Below w2.heap.size w2 wb := by rw [hwb]; exact hHeld
        replace hwb := hwb.symm
        subst hwb
        go_wp2_with fail
        go_wp2_with fail
        refine hK.out _ _ (hop2) (fun hHeld => ?_)
        clear hK K
        try simp only [Act.put, sa, s0, s1]
        refine tk 9 q52d_47_7_9 (some 7) (v := ?v35) rfl rfl (by kernel_rfl) hHeld (by rfl) (fun _ _ _ x => x) (fun w h => ?y35) ?_; (case y35 => (try dsimp only at h); go_simp; try (with_reducible rfl)); try simp only [Act.put, sa, s0, s1]
        refine tk 10 q52d_47_7_10 (some 8) (v := ?v36) rfl rfl (by kernel_rfl) hHeld (by rfl) (fun _ _ _ x => x) (fun w h => ?y36) ?_; (case y36 => (try dsimp only at h); go_simp; try (with_reducible rfl)); try simp only [Act.put, sa, s0, s1]
        refine wpAnyH_done (by kernel_rfl) ?_ _
        obtain ⟨w6, hw6⟩ : ∃ q, q = (wr.alloc (.cells #[Value.int .u8 xv] 5)).drew := ⟨_, rfl⟩
        have hx6 : Below wr.heap.size wr w6 := by rw [hw6]; exact Below.drew ((Below.refl _ _).alloc (Nat.le_refl _) _)
        have hbx6 : Bx w6 wr.heap.size [Value.int .u8 xv] := by rw [hw6]; exact (Bx.new wr [Value.int .u8 xv] 5)
        have hown6 := own_below hown hx6
        have hb6 := bthen hbk hx6
        clear hown HC1 HC2 hat hat2
        go_wp2_with (at_builtin; rw [← hw6]; refine wpList_append_own_at _ rfl _ _ 60 rfl w2.heap.size 5 i0 (.int .u8 0) 1 1 Tryz.underlying60 HI.out.1 HI.out.2.1 HI.out.2.2.1 HI.out.2.2.2 rfl (by decide) _ _ _ rfl hown6 ⟨wr.heap.size, 0, none⟩ 1 1 [.int .u8 xv] rfl rfl (bx_news hbx6) (by intro u hu; simp at hu; subst hu; rfl) (by unfold maxLen; omega) (by omega) hb6.size ?_; intro v7 w7 hown7 hgrow7 hnil7 hloc7)
        have hb7 := hb6.grown hgrow7 hb6.size (fun k h => (hown6.lt k h).1)
        have HO7 : Hid (w7.ownsRow w2.heap.size 5 1 v7 (out ++ [xv]).length ((out ++ [xv]).map (Value.int .u8))) := own_congr hown7 (by simp) (by simp)
        clear hown6 hown7 hgrow7 hnil7 hloc7 hw6 hbx6
        go_wp2_with fail
        go_roundw
        case rel => exact ⟨k + 1, by have := HJ.out; omega, by rw [show (2 * (k + 1) + 1 : Nat) = j + 1 + 2 by have := HJ.out; omega]; rfl, by rw [HZ.out]; exact HO7.out, hb7⟩
        case measure => simp [intOf]; have := HJ.out; omega
      · have HU : Hid (unkP (x.take (2 * k)) = unkP x) := unk_all k x (by rw [← HSL.out]; exact hlt) (by rw [← HSL.out]; exact hk)
        rw [HU.out] at hown
        have hcv := conv_hex hown
        rw [zOf_str] at hcv
        have hn : ¬ ((2 * k : Nat) : Int) + 1 < (s.size : Int) := by omega
        go_wp2_with fail
        go_ret
        exact ⟨rfl, by have h9 := HR2.out.below hbk; simpa using h9, HT2.out.trans (Turn.ofBelow hbk)⟩

end Go.Proofs.YtnohnkcijomdjaaGreatDoor

namespace Go.Proofs.YtnohnkcijomdjaaGreatDoor
open Go.RowKit

theorem fields_go : ∀ (x cur r : List UInt8), (∀ c, c ∈ x → Lib.isSp c = false) → Lib.fieldsGo cur (x ++ r) = Lib.fieldsGo (cur ++ x) r
  | [], cur, r, _ => by simp
  | a :: x, cur, r, h => by
    rw [List.cons_append, Lib.fieldsGo_more cur a _ (h a (by simp)), fields_go x (cur ++ [a]) r (fun c hc => h c (by simp [hc]))]
    simp
theorem fields_word {x r : List UInt8} {b : UInt8} (hx : x ≠ []) (hs : ∀ c, c ∈ x → Lib.isSp c = false) (hb : Lib.isSp b = true) : Lib.fields (x ++ b :: r) = x :: Lib.fields r := by
  unfold Lib.fields
  rw [fields_go x [] _ hs, List.nil_append, Lib.fieldsGo_end x b r hb hx]
theorem nsp {c : UInt8} (h : 48 ≤ c.toNat) : Lib.isSp c = false := by
  have h0 : ∀ i : Fin 256, 48 ≤ i.val → Lib.isSp (UInt8.ofNat i.val) = false := by decide +kernel
  have h2 := h0 ⟨c.toNat, c.toNat_lt⟩ h
  rwa [UInt8.ofNat_toNat] at h2
theorem hexT_lo {s : ByteArray} {b : UInt8} (h : b ∈ hexT s) : 48 ≤ b.toNat := by
  by_cases hb : b.toNat < 48
  · exact absurd h (not_mem_hex hb)
  · omega
theorem decD_ne (n : Int) : decD n ≠ [] := fun h => by have := decD_pos n; rw [h] at this; simp at this
theorem hexT_ne {s : ByteArray} (h : 1 ≤ s.size) : hexT s ≠ [] := fun hc => by have := hexT_len s; rw [hc] at this; simp at this; omega
def lineWs (t : MMeta) : List (List UInt8) := [tabW, decD t.fNo, decD t.fLevel, hexT t.fLo, hexT t.fHi]
theorem fields_line {t : MMeta} {r : List UInt8} (h1 : 1 ≤ t.fLo.size) (h2 : 1 ≤ t.fHi.size) : Lib.fields (lineT t ++ 10 :: r) = lineWs t ++ Lib.fields r := by
  have e : lineT t ++ 10 :: r = tabW ++ 32 :: (decD t.fNo ++ 32 :: (decD t.fLevel ++ 32 :: (hexT t.fLo ++ 32 :: (hexT t.fHi ++ 10 :: r)))) := by
    unfold lineT
    simp only [List.append_assoc, List.cons_append, List.nil_append]
  rw [e, fields_word (by decide) (by decide) (by decide), fields_word (decD_ne _) (fun c hc => nsp (decD_digs hc).1) (by decide), fields_word (decD_ne _) (fun c hc => nsp (decD_digs hc).1) (by decide),
    fields_word (hexT_ne h1) (fun c hc => nsp (hexT_lo hc)) (by decide), fields_word (hexT_ne h2) (fun c hc => nsp (hexT_lo hc)) (by decide)]
  rfl
theorem fields_lines : ∀ (l : List MMeta) (r : List UInt8), (∀ t, t ∈ l → 1 ≤ t.fLo.size ∧ 1 ≤ t.fHi.size) → Lib.fields (linesT l ++ r) = l.flatMap lineWs ++ Lib.fields r
  | [], r, _ => by simp [linesT]
  | t :: l, r, h => by
    have e : linesT (t :: l) ++ r = lineT t ++ 10 :: (linesT l ++ r) := by
      unfold linesT
      rw [List.flatMap_cons]
      simp only [List.append_assoc, List.cons_append, List.nil_append]
    rw [e, fields_line (h t (by simp)).1 (h t (by simp)).2, fields_lines l r (fun u hu => h u (by simp [hu])), List.flatMap_cons, List.append_assoc]
theorem fields_text {m : MManifest} (h : ∀ t, t ∈ m.fTables → 1 ≤ t.fLo.size ∧ 1 ≤ t.fHi.size) :
    Lib.fields (manTextL m) = [[110, 101, 120, 116], decD m.fNext, [108, 111, 103], decD m.fLog] ++ (m.fTables.flatMap lineWs ++ [endW]) := by
  have e : manTextL m = [110, 101, 120, 116] ++ 32 :: (decD m.fNext ++ 32 :: ([108, 111, 103] ++ 32 :: (decD m.fLog ++ 10 :: (linesT m.fTables ++ (endW ++ 10 :: []))))) := by
    unfold manTextL headT nextW logW
    simp only [List.append_assoc, List.cons_append, List.nil_append]
  rw [e, fields_word (by decide) (by decide) (by decide), fields_word (decD_ne _) (fun c hc => nsp (decD_digs hc).1) (by decide), fields_word (by decide) (by decide) (by decide),
    fields_word (decD_ne _) (fun c hc => nsp (decD_digs hc).1) (by decide), fields_lines _ _ h, fields_word (by decide) (by decide) (by decide)]
  rfl

theorem drop_all {p : UInt8 → Bool} : ∀ {l : List UInt8}, (∀ c, c ∈ l → p c = true) → l.dropWhile p = []
  | [], _ => rfl
  | a :: l, h => by rw [List.dropWhile_cons_of_pos (h a (by simp))]; exact drop_all fun c hc => h c (by simp [hc])
theorem digW_all {x : List UInt8} (h : ∀ c, c ∈ x → hexW.contains c = true) : digW x = true := by
  have e : Lib.trimRightS x hexW = [] := by
    unfold Lib.trimRightS
    rw [List.reverse_eq_nil_iff]
    exact drop_all fun c hc => h c (by simpa using hc)
  unfold digW Lib.trimS
  rw [e]
  exact decide_eq_true rfl
theorem digW_dec (n : Int) : digW (decD n) = true := digW_all fun c hc => by
  have h0 : ∀ i : Fin 256, 48 ≤ i.val ∧ i.val ≤ 57 → hexW.contains (UInt8.ofNat i.val) = true := by decide +kernel
  have h2 := h0 ⟨c.toNat, c.toNat_lt⟩ (decD_digs hc)
  rwa [UInt8.ofNat_toNat] at h2
theorem digW_hex (s : ByteArray) : digW (hexT s) = true := digW_all fun c hc => by
  unfold hexT at hc
  rw [List.mem_flatMap] at hc
  obtain ⟨b, _, hb⟩ := hc
  have h0 : ∀ i : Fin 16, hexW.contains (hexD i.val) = true := by decide
  have hlt := b.toNat_lt
  unfold hexB at hb
  simp only [List.mem_cons, List.not_mem_nil, or_false] at hb
  rcases hb with rfl | rfl
  · exact h0 ⟨b.toNat / 16, by omega⟩
  · exact h0 ⟨b.toNat % 16, by omega⟩
theorem ix_back : ∀ b : Fin 256, UInt8.ofNat ((ixP (hexD (b.val / 16)) * 16 + ixP (hexD (b.val % 16))) % 256).toNat = UInt8.ofNat b.val := by decide +kernel
theorem unk_hex : ∀ l : List UInt8, unkP (l.flatMap hexB) = l
  | [] => rfl
  | b :: l => by
    rw [List.flatMap_cons]
    show unkP (hexD (b.toNat / 16) :: hexD (b.toNat % 16) :: l.flatMap hexB) = b :: l
    have h := ix_back ⟨b.toNat, b.toNat_lt⟩
    rw [unkP, unk_hex l]
    congr 1
    rw [h, UInt8.ofNat_toNat]
theorem key_hex (s : ByteArray) (r : List (List UInt8)) : keyP (hexT s :: r) = (s.data.toList, true) := by
  have hd : digsP (hexT s :: r) = (hexT s, true) := by simp [digsP, digW_hex]
  unfold keyP
  rw [hd]
  show (unkP (hexT s), true && decide ((hexT s).length % 2 = 0)) = _
  rw [hexT_len, show (2 * s.size) % 2 = 0 by omega]
  exact congrArg (fun z => (z, true)) (unk_hex _)
theorem name_word {x : List UInt8} (r : List (List UInt8)) (h : digW x = false) : nameP (x :: r) = (x, true) := by simp [nameP, h]

theorem uint_dec : ∀ (l : List UInt8) (acc : Nat), (∀ b, b ∈ l → 48 ≤ b.toNat ∧ b.toNat ≤ 57) → (acc + 1) * 10 ^ l.length ≤ 1000000000000000000 → ∃ u : Nat, Lib.parseUint10 acc l = .ok u ∧ (u : Int) = valD l acc ∧ u < 1000000000000000000
  | [], acc, _, h => ⟨acc, rfl, rfl, by simp at h; omega⟩
  | b :: l, acc, hd, h => by
    have hb := hd b (by simp)
    have hp : 1 ≤ 10 ^ l.length := Nat.pos_of_ne_zero (by simp)
    have e : (acc + 1) * 10 ^ (b :: l).length = (acc * 10 + 10) * 10 ^ l.length := by
      rw [List.length_cons, Nat.pow_succ, Nat.mul_comm (10 ^ l.length) 10, ← Nat.mul_assoc, Nat.add_mul, Nat.one_mul]
    rw [e] at h
    have h1 : (acc * 10 + (b.toNat - 48) + 1) * 10 ^ l.length ≤ (acc * 10 + 10) * 10 ^ l.length := Nat.mul_le_mul_right _ (by omega)
    have h2 : (acc * 10 + 10) * 1 ≤ (acc * 10 + 10) * 10 ^ l.length := Nat.mul_le_mul_left _ hp
    obtain ⟨u, hu, hv, hl⟩ := uint_dec l (acc * 10 + (b.toNat - 48)) (fun c hc => hd c (by simp [hc])) (Nat.le_trans h1 h)
    refine ⟨u, ?_, ?_, hl⟩
    · rw [Lib.parseUint10, if_pos hb, if_neg (by omega), if_neg (by omega)]
      exact hu
    · rw [hv]
      show valD l _ = valD l ((acc : Int) * 10 + ((b.toNat : Int) - 48))
      congr 1
      omega
theorem ato_dec {n : Int} (h0 : 0 ≤ n) (h1 : n ≤ 100000) : atoP (decD n) = (n, true) := by
  have hlen : (decD n).length ≤ 6 := dec_six 5 n.toNat (by show n.toNat < 1000000; omega)
  have hp : 10 ^ (decD n).length ≤ 10 ^ 6 := Nat.pow_le_pow_right (by decide) hlen
  obtain ⟨u, hu, hv, hl⟩ := uint_dec (decD n) 0 (fun b hb => decD_digs hb) (by rw [Nat.zero_add, Nat.one_mul]; omega)
  have hval : (u : Int) = n := by rw [hv]; exact decD_val h0
  have key : Lib.atoiAll (decD n) = .ok n := by
    cases hc : decD n with
    | nil => exact absurd hc (decD_ne n)
    | cons c r =>
      have hcd : 48 ≤ c.toNat ∧ c.toNat ≤ 57 := decD_digs (n := n) (by rw [hc]; simp)
      rw [hc] at hu
      unfold Lib.atoiAll Lib.parseMag
      simp only []
      rw [if_neg (show ¬ (c.toNat = 43 ∨ c.toNat = 45) by omega), if_neg (List.cons_ne_nil c r), hu]
      simp only []
      rw [if_neg (by omega), if_neg (by omega), if_neg (by omega), hval]
  unfold atoP
  rw [key]
theorem numb_dec {n : Int} (r : List (List UInt8)) (h0 : 0 ≤ n) (h1 : n ≤ 100000) : numbP (decD n :: r) = (n, true) := by
  have hd : digsP (decD n :: r) = (decD n, true) := by simp [digsP, digW_dec]
  unfold numbP
  rw [hd]
  show ((atoP (decD n)).1, true && (atoP (decD n)).2) = _
  rw [ato_dec h0 h1]
  rfl


/-- A table's row behind its name: what is read, whether the reader is bad then, and the words left. -/
def rowM (l : List (List UInt8)) : MMeta := ⟨(numbP l).1, (numbP l.tail).1, strB (keyP l.tail.tail).1, strB (keyP l.tail.tail.tail).1⟩
def rowB (l : List (List UInt8)) (b : Bool) : Bool := (((b || !(numbP l).2) || !(numbP l.tail).2) || !(keyP l.tail.tail).2) || !(keyP l.tail.tail.tail).2
def tabB (l : List (List UInt8)) (b : Bool) : Bool := (b || !(nameP l).2) || !decide ((nameP l).1 = tabW)
def rdTabs : Nat → List (List UInt8) → Bool → List MMeta → List MMeta × Bool
  | 0, l, b, ts => (ts, true)
  | f + 1, l, b, ts => bif b then (ts, b) else bif decide ((nameP l).1 = endW) then (ts, b || !(nameP l).2) else
      rdTabs f l.tail.tail.tail.tail.tail (rowB l.tail (tabB l b)) (ts ++ [rowM l.tail])
def headB (l : List (List UInt8)) : Bool :=
  (((((false || !(nameP l).2) || !decide ((nameP l).1 = [110, 101, 120, 116])) || !(numbP l.tail).2) || !(nameP l.tail.tail).2) || !decide ((nameP l.tail.tail).1 = [108, 111, 103])) || !(numbP l.tail.tail.tail).2
def rdMan (l : List (List UInt8)) : MManifest × Bool :=
  (⟨(numbP l.tail).1, (numbP l.tail.tail.tail).1, (rdTabs (l.length + 2) l.tail.tail.tail.tail (headB l) []).1⟩, (rdTabs (l.length + 2) l.tail.tail.tail.tail (headB l) []).2)

theorem keys_pos {m : MManifest} (h : manOkP m = true) : ∀ t, t ∈ m.fTables → 1 ≤ t.fLo.size ∧ 1 ≤ t.fHi.size := by
  simp only [manOkP, Bool.and_eq_true, decide_eq_true_eq] at h
  intro t ht
  have h2 := tabs_all h.2 t ht
  simp only [metaP, mKeyP, Bool.and_eq_true, decide_eq_true_eq] at h2
  exact ⟨h2.1.1.2.1, h2.1.2.1⟩
theorem row_line {nx : Int} (hn : nx ≤ 100000) {t : MMeta} (h : MetaOk nx t) (r : List (List UInt8)) :
    rowM (decD t.fNo :: decD t.fLevel :: hexT t.fLo :: hexT t.fHi :: r) = t ∧ rowB (decD t.fNo :: decD t.fLevel :: hexT t.fLo :: hexT t.fHi :: r) false = false := by
  have h1 := numb_dec (decD t.fLevel :: hexT t.fLo :: hexT t.fHi :: r) (n := t.fNo) (by have := h.no0; omega) (by have := h.no1; omega)
  have h2 := numb_dec (hexT t.fLo :: hexT t.fHi :: r) (n := t.fLevel) h.lv0 (by have := h.lv1; omega)
  have h3 := key_hex t.fLo (hexT t.fHi :: r)
  have h4 := key_hex t.fHi r
  unfold rowM rowB
  simp only [List.tail_cons]
  rw [h1, h2, h3, h4]
  refine ⟨?_, rfl⟩
  simp only [strB_of]
theorem read_tabs {nx : Int} (hn : nx ≤ 100000) : ∀ (ts : List MMeta) (f : Nat) (acc : List MMeta), (∀ t, t ∈ ts → MetaOk nx t) → ts.length < f → rdTabs f (ts.flatMap lineWs ++ [endW]) false acc = (acc ++ ts, false)
  | [], f + 1, acc, _, _ => by
    have hw : nameP [endW] = (endW, true) := name_word [] (by decide)
    simp only [List.flatMap_nil, List.nil_append, rdTabs, hw, cond_false, decide_true, cond_true, List.append_nil]
    rfl
  | t :: ts, f + 1, acc, h, hf => by
    have e : (t :: ts).flatMap lineWs ++ [endW] = tabW :: decD t.fNo :: decD t.fLevel :: hexT t.fLo :: hexT t.fHi :: (ts.flatMap lineWs ++ [endW]) := by
      rw [List.flatMap_cons]; rfl
    have hw : nameP (tabW :: decD t.fNo :: decD t.fLevel :: hexT t.fLo :: hexT t.fHi :: (ts.flatMap lineWs ++ [endW])) = (tabW, true) := name_word _ (by decide)
    have hr := row_line hn (h t (by simp)) (ts.flatMap lineWs ++ [endW])
    have ih := read_tabs hn ts f (acc ++ [t]) (fun u hu => h u (by simp [hu])) (by simp at hf; omega)
    rw [e, rdTabs]
    unfold tabB
    rw [hw]
    simp only [List.tail_cons, cond_false]
    rw [show decide (tabW = endW) = false from by decide, cond_false]
    simp only [decide_true, Bool.not_true, Bool.or_false]
    rw [hr.1, hr.2, ih]
    simp
theorem read_text {m : MManifest} (h : manOkP m = true) : rdMan (Lib.fields (manTextL m)) = (m, false) := by
  have F := manOkP_facts h
  have hl : ∀ l : List MMeta, l.length ≤ (l.flatMap lineWs).length := fun l => by
    induction l with
    | nil => simp
    | cons t l ih => rw [List.flatMap_cons, List.length_append, List.length_cons]; have h5 : (lineWs t).length = 5 := rfl; omega
  rw [fields_text (keys_pos h)]
  obtain ⟨R, hR⟩ : ∃ R, R = m.fTables.flatMap lineWs ++ [endW] := ⟨_, rfl⟩
  have hRl : m.fTables.length ≤ R.length := by rw [hR, List.length_append]; have := hl m.fTables; omega
  rw [← hR]
  have h1 : nameP ([110, 101, 120, 116] :: decD m.fNext :: [108, 111, 103] :: decD m.fLog :: R) = ([110, 101, 120, 116], true) := name_word _ (by decide)
  have h2 := numb_dec (n := m.fNext) ([108, 111, 103] :: decD m.fLog :: R) (by have := F.nx0; omega) F.nx1
  have h3 : nameP ([108, 111, 103] :: decD m.fLog :: R) = ([108, 111, 103], true) := name_word _ (by decide)
  have h4 := numb_dec (n := m.fLog) R F.lg0 (by have := F.lg1; have := F.nx1; omega)
  have hH : headB ([110, 101, 120, 116] :: decD m.fNext :: [108, 111, 103] :: decD m.fLog :: R) = false := by
    unfold headB
    simp only [List.tail_cons, h1, h2, h3, h4]
    decide
  show rdMan ([110, 101, 120, 116] :: decD m.fNext :: [108, 111, 103] :: decD m.fLog :: R) = _
  unfold rdMan
  rw [hH]
  simp only [List.tail_cons]
  rw [h2, h4, hR, read_tabs F.nx1 m.fTables _ [] F.each (by rw [← hR]; simp only [List.length_cons]; omega)]
  rfl

end Go.Proofs.YtnohnkcijomdjaaGreatDoor
