/-
  The words of a text: a key is read of its digits.
-/
import Derived.Test.YtnohnkcijomdjaaGreatDoorRegK
import Derived.Test.YtnohnkcijomdjaaGreatDoorWrdN
import Derived.Test.YtnohnkcijomdjaaGreatDoorParU
namespace Go.Proofs.YtnohnkcijomdjaaGreatDoor
open Go.RowKit Go.Maps Go.Shelf
set_option linter.unusedVariables false
set_option linter.unusedSimpArgs false
set_option maxRecDepth 10000
abbrev q52d_47_7_0 : Oper := ⟨some 30, .move (.tmp 3), 111, "l06_manifest.go:161", #[], none⟩
abbrev q52d_47_7_1 : Oper := ⟨some 31, .move (.tmp 6), 3, "l06_manifest.go:161", #[], none⟩
abbrev q52d_47_7_2 : Oper := ⟨some 32, .binOp .sub 3 (.tmp 31) (.const (.int .i64 1)) 3, 3, "l06_manifest.go:161", #[⟨1, .data⟩], none⟩
abbrev q52d_47_7_3 : Oper := ⟨some 33, .index 111 (.tmp 30) (.tmp 32), 5, "l06_manifest.go:161", #[⟨0, .data⟩, ⟨2, .data⟩], none⟩
abbrev q52d_47_7_5 : Oper := ⟨some 35, .move (.tmp 3), 111, "l06_manifest.go:161", #[], none⟩
abbrev q52d_47_7_6 : Oper := ⟨some 36, .move (.tmp 6), 3, "l06_manifest.go:161", #[], none⟩
abbrev q52d_47_7_7 : Oper := ⟨some 37, .index 111 (.tmp 35) (.tmp 36), 5, "l06_manifest.go:161", #[⟨5, .data⟩, ⟨6, .data⟩], none⟩
abbrev q52d_47_7_4 : Oper := ⟨some 34, .call { callee := .value (.func 70), args := #[.const (.string { data := #[48, 49, 50, 51, 52, 53, 54, 55, 56, 57, 97, 98, 99, 100, 101, 102] }), .tmp 33], argTypes := #[9, 5] }, 3, "l06_manifest.go:161", #[⟨3, .data⟩], none⟩
abbrev q52d_47_7_8 : Oper := ⟨some 38, .call { callee := .value (.func 70), args := #[.const (.string { data := #[48, 49, 50, 51, 52, 53, 54, 55, 56, 57, 97, 98, 99, 100, 101, 102] }), .tmp 37], argTypes := #[9, 5] }, 3, "l06_manifest.go:161", #[⟨7, .data⟩, ⟨4, .chain⟩], none⟩
abbrev q52d_47_7_9 : Oper := ⟨some 7, .assign (.tmp 34), 3, "l06_manifest.go:161", #[⟨4, .data⟩, ⟨8, .chain⟩, ⟨0, .phase⟩, ⟨1, .phase⟩, ⟨2, .phase⟩, ⟨3, .phase⟩, ⟨4, .phase⟩, { on := 5, ground := Ground.textOnly Departure.lateStores }, { on := 6, ground := Ground.textOnly Departure.lateStores }, { on := 7, ground := Ground.textOnly Departure.lateStores }, { on := 8, ground := Ground.textOnly Departure.lateStoresUnsure }], none⟩
abbrev q52d_47_7_10 : Oper := ⟨some 8, .assign (.tmp 38), 3, "l06_manifest.go:161", #[⟨8, .data⟩, ⟨9, .chain⟩, ⟨0, .phase⟩, ⟨1, .phase⟩, ⟨2, .phase⟩, ⟨3, .phase⟩, ⟨4, .phase⟩, ⟨5, .phase⟩, ⟨6, .phase⟩, ⟨7, .phase⟩, ⟨8, .phase⟩, ⟨9, .phase⟩], none⟩

/-- Where a digit stands among the digits. -/
def ixP (b : UInt8) : Int := Lib.indexByte hexW b
def unkP : List UInt8 → List UInt8
  | a :: b :: r => UInt8.ofNat ((ixP a * 16 + ixP b) % 256).toNat :: unkP r
  | _ => []
theorem ixP_bound (b : UInt8) : -1 ≤ ixP b ∧ ixP b ≤ 15 := by
  have h : ∀ i : Fin 256, -1 ≤ ixP (UInt8.ofNat i.val) ∧ ixP (UInt8.ofNat i.val) ≤ 15 := by decide +kernel
  have h2 := h ⟨b.toNat, b.toNat_lt⟩
  rwa [UInt8.ofNat_toNat] at h2
theorem unk_take : ∀ (k : Nat) (l : List UInt8), (h : 2 * k + 1 < l.length) → unkP (l.take (2 * k + 2)) = unkP (l.take (2 * k)) ++ [UInt8.ofNat ((ixP l[2 * k] * 16 + ixP l[2 * k + 1]) % 256).toNat]
  | 0, a :: b :: r, h => by simp [unkP]
  | k + 1, a :: b :: r, h => by
    have h1 : 2 * k + 1 < r.length := by simp at h; omega
    have h2 := unk_take k r h1
    have e1 : (a :: b :: r).take (2 * (k + 1) + 2) = a :: b :: r.take (2 * k + 2) := by
      rw [show 2 * (k + 1) + 2 = (2 * k + 2) + 1 + 1 by omega, List.take_succ_cons, List.take_succ_cons]
    have e2 : (a :: b :: r).take (2 * (k + 1)) = a :: b :: r.take (2 * k) := by
      rw [show 2 * (k + 1) = (2 * k) + 1 + 1 by omega, List.take_succ_cons, List.take_succ_cons]
    rw [e1, e2]
    simp only [unkP, h2, List.cons_append]
    congr 2
  | 0, [], h => by simp at h
  | 0, [a], h => by simp at h
  | k + 1, [], h => by simp at h
  | k + 1, [a], h => by simp at h
theorem unk_all (k : Nat) (l : List UInt8) (h : ¬ 2 * k + 1 < l.length) (h2 : 2 * k ≤ l.length) : unkP (l.take (2 * k)) = unkP l := by
  have key : ∀ (k : Nat) (l : List UInt8), 2 * k ≤ l.length → l.length ≤ 2 * k + 1 → unkP (l.take (2 * k)) = unkP l := by
    intro k
    induction k with
    | zero =>
      intro l h1 h2
      match l, h2 with
      | [], _ => rfl
      | [a], _ => rfl
    | succ k ih =>
      intro l h1 h2
      match l, h1 with
      | a :: b :: r, h1 =>
        rw [show 2 * (k + 1) = (2 * k) + 1 + 1 by omega, List.take_succ_cons, List.take_succ_cons]
        simp only [unkP]
        rw [ih r (by simp at h1; omega) (by simp at h2; omega)]
  exact key k l h2 (by omega)
theorem unk_len : ∀ (n : Nat) (l : List UInt8), l.length ≤ n → (unkP l).length ≤ l.length
  | 0, [], _ => Nat.le_refl _
  | n + 1, [], _ => Nat.le_refl _
  | n + 1, [a], _ => by simp [unkP]
  | n + 1, a :: b :: r, h => by
    have := unk_len n r (by simp at h; omega)
    simp only [unkP, List.length_cons]
    omega

theorem ix_any (b : UInt8) (w : World) :
    Calls Tryz.prog 70 #[.string ⟨#[48, 49, 50, 51, 52, 53, 54, 55, 56, 57, 97, 98, 99, 100, 101, 102]⟩, .int .u8 ((b.toNat : Nat) : Int)] w fun e w' => e = .returned (.int .i64 (ixP b)) ∧ w' = w := by
  refine (Any.strings_IndexByte layIndexByte ⟨hexW.toArray⟩ ((b.toNat : Nat) : Int) w).mono ?_
  rintro e w1 ⟨rfl, rfl⟩
  refine ⟨?_, rfl⟩
  have e1 : (((b.toNat : Nat) : Int).toNat).toUInt8 = b := by rw [Int.toNat_natCast]; exact UInt8.ofNat_toNat
  rw [e1]
  rfl
theorem at_digit (x : List UInt8) (k : Nat) (W : World) (h : k < x.length) : (Instr.index 111 (.string (strB x)) (.int .i64 k)).run Tryz.prog W = .ok (.int .u8 ((x[k].toNat : Nat) : Int)) W := by
  have hs : (strB x).size = x.length := by rw [Lib.size_eq, strB_data]
  rw [run_index_string W 111 _ .i64 _ Tryz.underlying111, dif_pos ⟨by omega, by omega⟩]
  congr 3
theorem asD_any (l : List (List UInt8)) (w : World) : (Instr.typeAssert (nextV l) 20 111 true).run Tryz.prog w = .ok (.tuple #[.string (strB (digsP l).1), .bool (digsP l).2]) w := by
  rcases nextV_cases l with ⟨hv, hN, hD⟩ | ⟨x, hv, hN, hD⟩ | ⟨x, hv, hN, hD⟩
  · rw [hv, hD]; exact asD_nil w
  · rw [hv, hD]; exact asD_yes _ w
  · rw [hv, hD]; exact asD_no _ w
def keyP (l : List (List UInt8)) : List UInt8 × Bool := (unkP (digsP l).1, (digsP l).2 && decide ((digsP l).1.length % 2 = 0))

set_option maxHeartbeats 2000000 in
theorem key_any (A : Nat) (l : List (List UInt8)) (b : Bool) (w : World) (h : WdR w A l b) :
    Calls Tryz.prog 47 #[.pointer (some ⟨A, 0, none⟩)] w fun e w' => e = .returned (.string (strB (keyP l).1)) ∧ WdR w' A l.tail (b || !(keyP l).2) ∧ Turn [A] w w' := by
  obtain ⟨i0, hi0⟩ := info_parts Tryz.info5
  have HI := Hid.mk hi0
  clear hi0
  have HC := Hid.mk (word_any A l b w h)
  have hL := digs_len h.lens
  unfold keyP
  have r0 := asD_any l
  generalize nextV l = nv at *
  generalize (digsP l).1 = x at *
  generalize (digsP l).2 = ok at *
  have HAT := Hid.mk (fun (k : Nat) (W : World) (h : k < x.length) => at_digit x k W h)
  have hs : (strB x).size = x.length := by rw [Lib.size_eq, strB_data]
  obtain ⟨s, hse⟩ : ∃ s, s = strB x := ⟨_, rfl⟩
  rw [← hse] at HAT hs r0
  have HSL := Hid.mk hs
  rw [← hs] at hL
  have HPar : Hid (decide (x.length % 2 = 0) = decide (s.size % 2 = 0)) := by unfold Hid; rw [hs]
  rw [HPar.out]
  clear h hs hse
  have htm : Int.tmod (s.size : Int) 2 = ((s.size % 2 : Nat) : Int) := by rw [Int.tmod_eq_emod_of_nonneg (by omega)]; omega
  obtain ⟨pr, hpr, hp01⟩ : ∃ pr : Nat, s.size % 2 = pr ∧ (pr = 0 ∨ pr = 1) := ⟨_, rfl, by omega⟩
  rw [hpr] at htm ⊢
  clear hpr
  rcases hp01 with rfl | rfl <;> cases ok
  · go_enter Tryz.func47, Tryz.ntmps47
    go_wp2_with fail
    refine HC.out.mono ?_
    rintro e w1 ⟨rfl, hr1, ht1⟩
    go_wp2_with fail
    refine (take_any A l.tail b _ w1 hr1).mono ?_
    rintro e w2 ⟨rfl, hr2, ht2⟩
    have HR2 := Hid.mk hr2
    have HT2 := Hid.mk (ht1.trans ht2)
    clear hr1 ht1 hr2 ht2 htm r0
    go_wp2_with fail
    go_loopw [5, 6] (fun v i wr => ∃ k : Nat, 2 * k ≤ s.size ∧ i = .int .i64 ((2 * k + 1 : Nat) : Int) ∧ wr.ownsRow w2.heap.size 5 1 v (zOf (unkP (x.take (2 * k)))).length ((zOf (unkP (x.take (2 * k)))).map (Value.int .u8)) ∧ Below w2.heap.size w2 wr) (fun _ i _ => s.size + 2 - (intOf i).toNat)
    case atStart => exact ⟨0, Nat.zero_le _, rfl, ⟨rfl, .inl ⟨rfl, rfl⟩⟩, Below.refl _ _⟩
    case round =>
      obtain ⟨k, hk, rfl, hown, hbk⟩ := hrel
      by_cases hlt : 2 * k + 1 < s.size
      · have hkl : 2 * k + 1 < x.length := by rw [← HSL.out]; exact hlt
        have hat := fun W => HAT.out (2 * k) W (by omega)
        have hat2 := fun W => HAT.out (2 * k + 1) W hkl
        have HZ : Hid (zOf (unkP (x.take (2 * (k + 1)))) = zOf (unkP (x.take (2 * k))) ++ [((UInt8.ofNat ((ixP x[2 * k] * 16 + ixP x[2 * k + 1]) % 256).toNat).toNat : Int)]) := by
          show _ = _
          rw [show 2 * (k + 1) = 2 * k + 2 by omega, unk_take k x hkl]
          simp [zOf]
        have hl2 : (zOf (unkP (x.take (2 * k)))).length ≤ 1048576 := by
          have h1 := unk_len _ (x.take (2 * k)) (Nat.le_refl _)
          unfold zOf
          rw [List.length_map]
          rw [List.length_take] at h1
          omega
        have HC1 := Hid.mk (fun W => ix_any x[2 * k] W)
        have HC2 := Hid.mk (fun W => ix_any x[2 * k + 1] W)
        have hd1 := ixP_bound x[2 * k]
        have hd2 := ixP_bound x[2 * k + 1]
        generalize ixP x[2 * k] = p1 at *
        generalize ixP x[2 * k + 1] = p2 at *
        generalize x[2 * k].toNat = c1 at *
        generalize x[2 * k + 1].toNat = c2 at *
        have hv : ((UInt8.ofNat ((p1 * 16 + p2) % 256).toNat).toNat : Int) = (p1 * 16 + p2) % 256 := by rw [UInt8.toNat_ofNat']; omega
        rw [hv] at HZ
        have hwr : IntKind.u8.wrap (p1 * 16 + p2) = (p1 * 16 + p2) % 256 := by rw [IntKind.wrap_u8]
        clear hv
        generalize zOf (unkP (x.take (2 * k))) = out at *
        generalize hxx : (p1 * 16 + p2) % 256 = xv at *
        clear hxx
        obtain ⟨j, hj⟩ : ∃ j, j = 2 * k := ⟨_, rfl⟩
        have HJ := Hid.mk hj
        rw [← hj] at hat hat2 hlt ⊢
        replace hat2 : ∀ W, (Instr.index 111 (.string s) (.int .i64 ((j : Int) + 1))).run Tryz.prog W = .ok (.int .u8 ((c2 : Nat) : Int)) W := hat2
        clear hj
        have hjl : (j : Int) + 1 < (s.size : Int) := by omega
        have hwj : IntKind.i64.wrap (j : Int) = (j : Int) := by rw [IntKind.wrap_i64]; omega
        have hsj : (j : Int) + 1 - 1 = (j : Int) := by omega
        have hwp : IntKind.i64.wrap (p1 * 16) = p1 * 16 := by rw [IntKind.wrap_i64]; omega
        have hwq2 : IntKind.i64.wrap (p1 * 16 + p2) = p1 * 16 + p2 := by rw [IntKind.wrap_i64]; omega
        go_wp2_with fail
        refine wp_region_held_drew (S := fun W => Below w2.heap.size w2 W) (by kernel_rfl) (Below.drew hbk) (fun hHeld => ?_)
        refine tk 0 q52d_47_7_0 (some 30) (v := ?v1) rfl rfl (by kernel_rfl) hHeld (by rfl) (fun _ _ _ x => x) (fun w h => ?y1) ?_; (case y1 => (try dsimp only at h); go_simp; try (with_reducible rfl)); try simp only [Act.put, sa, s0, s1]
        refine tk 1 q52d_47_7_1 (some 31) (v := ?v2) rfl rfl (by kernel_rfl) hHeld (by rfl) (fun _ _ _ x => x) (fun w h => ?y2) ?_; (case y2 => (try dsimp only at h); go_simp; try (with_reducible rfl)); try simp only [Act.put, sa, s0, s1]
        refine tk 2 q52d_47_7_2 (some 32) (v := ?v3) rfl rfl (by kernel_rfl) hHeld (by rfl) (fun _ _ _ x => x) (fun w h => ?y3) ?_; (case y3 => (try dsimp only at h); go_simp; try (with_reducible rfl)); try simp only [Act.put, sa, s0, s1]
        refine tk 3 q52d_47_7_3 (some 33) (v := ?v4) rfl rfl (by kernel_rfl) hHeld (by rfl) (fun _ _ _ x => x) (fun w h => ?y4) ?_; (case y4 => (try dsimp only at h); go_simp; try (with_reducible rfl)); try simp only [Act.put, sa, s0, s1]
        refine tk 5 q52d_47_7_5 (some 35) (v := ?v5) rfl rfl (by kernel_rfl) hHeld (by rfl) (fun _ _ _ x => x) (fun w h => ?y5) ?_; (case y5 => (try dsimp only at h); go_simp; try (with_reducible rfl)); try simp only [Act.put, sa, s0, s1]
        refine tk 6 q52d_47_7_6 (some 36) (v := ?v6) rfl rfl (by kernel_rfl) hHeld (by rfl) (fun _ _ _ x => x) (fun w h => ?y6) ?_; (case y6 => (try dsimp only at h); go_simp; try (with_reducible rfl)); try simp only [Act.put, sa, s0, s1]
        refine tk 7 q52d_47_7_7 (some 37) (v := ?v7) rfl rfl (by kernel_rfl) hHeld (by rfl) (fun _ _ _ x => x) (fun w h => ?y7) ?_; (case y7 => (try dsimp only at h); go_simp; try (with_reducible rfl)); try simp only [Act.put, sa, s0, s1]
        refine wpAnyH_ready (rs := [4]) (by kernel_rfl) (by simp) ?_
        refine AllReadyH.cons (o := q52d_47_7_4) rfl (fun K hK => ?_) AllReadyH.nil
        go_simp
        refine (HC1.out _).mono ?_
        rintro e wa ⟨rfl, hwa⟩
        have hop1 : Below w2.heap.size w2 wa := by rw [hwa]; exact hHeld
        replace hwa := hwa.symm
        subst hwa
        go_wp2_with fail
        go_wp2_with fail
        refine hK.out _ _ (hop1) (fun hHeld => ?_)
        clear hK K
        try simp only [Act.put, sa, s0, s1]
        refine wpAnyH_ready (rs := [8]) (by kernel_rfl) (by simp) ?_
        refine AllReadyH.cons (o := q52d_47_7_8) rfl (fun K hK => ?_) AllReadyH.nil
        go_simp
        refine (HC2.out _).mono ?_
        rintro e wb ⟨rfl, hwb⟩
        have hop2 : Below w2.heap.size w2 wb := by rw [hwb]; exact hHeld
        replace hwb := hwb.symm
        subst hwb
        go_wp2_with fail
        go_wp2_with fail
        refine hK.out _ _ (hop2) (fun hHeld => ?_)
        clear hK K
        try simp only [Act.put, sa, s0, s1]
        refine tk 9 q52d_47_7_9 (some 7) (v := ?v8) rfl rfl (by kernel_rfl) hHeld (by rfl) (fun _ _ _ x => x) (fun w h => ?y8) ?_; (case y8 => (try dsimp only at h); go_simp; try (with_reducible rfl)); try simp only [Act.put, sa, s0, s1]
        refine tk 10 q52d_47_7_10 (some 8) (v := ?v9) rfl rfl (by kernel_rfl) hHeld (by rfl) (fun _ _ _ x => x) (fun w h => ?y9) ?_; (case y9 => (try dsimp only at h); go_simp; try (with_reducible rfl)); try simp only [Act.put, sa, s0, s1]
        refine wpAnyH_done (by kernel_rfl) ?_ _
        obtain ⟨w6, hw6⟩ : ∃ q, q = (wr.alloc (.cells #[Value.int .u8 xv] 5)).drew := ⟨_, rfl⟩
        have hx6 : Below wr.heap.size wr w6 := by rw [hw6]; exact Below.drew ((Below.refl _ _).alloc (Nat.le_refl _) _)
        have hbx6 : Bx w6 wr.heap.size [Value.int .u8 xv] := by rw [hw6]; exact (Bx.new wr [Value.int .u8 xv] 5)
        have hown6 := own_below hown hx6
        have hb6 := bthen hbk hx6
        clear hown HC1 HC2 hat hat2
        go_wp2_with (at_builtin; rw [← hw6]; refine wpList_append_own_at _ rfl _ _ 60 rfl w2.heap.size 5 i0 (.int .u8 0) 1 1 Tryz.underlying60 HI.out.1 HI.out.2.1 HI.out.2.2.1 HI.out.2.2.2 rfl (by decide) _ _ _ rfl hown6 ⟨wr.heap.size, 0, none⟩ 1 1 [.int .u8 xv] rfl rfl (bx_news hbx6) (by intro u hu; simp at hu; subst hu; rfl) (by unfold maxLen; omega) (by omega) hb6.size ?_; intro v7 w7 hown7 hgrow7 hnil7 hloc7)
        have hb7 := hb6.grown hgrow7 hb6.size (fun k h => (hown6.lt k h).1)
        have HO7 : Hid (w7.ownsRow w2.heap.size 5 1 v7 (out ++ [xv]).length ((out ++ [xv]).map (Value.int .u8))) := own_congr hown7 (by simp) (by simp)
        clear hown6 hown7 hgrow7 hnil7 hloc7 hw6 hbx6
        go_wp2_with fail
        go_roundw
        case rel => exact ⟨k + 1, by have := HJ.out; omega, by rw [show (2 * (k + 1) + 1 : Nat) = j + 1 + 2 by have := HJ.out; omega]; rfl, by rw [HZ.out]; exact HO7.out, hb7⟩
        case measure => simp [intOf]; have := HJ.out; omega
      · have HU : Hid (unkP (x.take (2 * k)) = unkP x) := unk_all k x (by rw [← HSL.out]; exact hlt) (by rw [← HSL.out]; exact hk)
        rw [HU.out] at hown
        have hcv := conv_hex hown
        rw [zOf_str] at hcv
        have hn : ¬ ((2 * k : Nat) : Int) + 1 < (s.size : Int) := by omega
        go_wp2_with fail
        go_ret
        exact ⟨rfl, by have h9 := HR2.out.below hbk; simpa using h9, HT2.out.trans (Turn.ofBelow hbk)⟩
  · go_enter Tryz.func47, Tryz.ntmps47
    go_wp2_with fail
    refine HC.out.mono ?_
    rintro e w1 ⟨rfl, hr1, ht1⟩
    go_wp2_with fail
    refine (take_any A l.tail b _ w1 hr1).mono ?_
    rintro e w2 ⟨rfl, hr2, ht2⟩
    have HR2 := Hid.mk hr2
    have HT2 := Hid.mk (ht1.trans ht2)
    clear hr1 ht1 hr2 ht2 htm r0
    go_wp2_with fail
    go_loopw [5, 6] (fun v i wr => ∃ k : Nat, 2 * k ≤ s.size ∧ i = .int .i64 ((2 * k + 1 : Nat) : Int) ∧ wr.ownsRow w2.heap.size 5 1 v (zOf (unkP (x.take (2 * k)))).length ((zOf (unkP (x.take (2 * k)))).map (Value.int .u8)) ∧ Below w2.heap.size w2 wr) (fun _ i _ => s.size + 2 - (intOf i).toNat)
    case atStart => exact ⟨0, Nat.zero_le _, rfl, ⟨rfl, .inl ⟨rfl, rfl⟩⟩, Below.refl _ _⟩
    case round =>
      obtain ⟨k, hk, rfl, hown, hbk⟩ := hrel
      by_cases hlt : 2 * k + 1 < s.size
      · have hkl : 2 * k + 1 < x.length := by rw [← HSL.out]; exact hlt
        have hat := fun W => HAT.out (2 * k) W (by omega)
        have hat2 := fun W => HAT.out (2 * k + 1) W hkl
        have HZ : Hid (zOf (unkP (x.take (2 * (k + 1)))) = zOf (unkP (x.take (2 * k))) ++ [((UInt8.ofNat ((ixP x[2 * k] * 16 + ixP x[2 * k + 1]) % 256).toNat).toNat : Int)]) := by
          show _ = _
          rw [show 2 * (k + 1) = 2 * k + 2 by omega, unk_take k x hkl]
          simp [zOf]
        have hl2 : (zOf (unkP (x.take (2 * k)))).length ≤ 1048576 := by
          have h1 := unk_len _ (x.take (2 * k)) (Nat.le_refl _)
          unfold zOf
          rw [List.length_map]
          rw [List.length_take] at h1
          omega
        have HC1 := Hid.mk (fun W => ix_any x[2 * k] W)
        have HC2 := Hid.mk (fun W => ix_any x[2 * k + 1] W)
        have hd1 := ixP_bound x[2 * k]
        have hd2 := ixP_bound x[2 * k + 1]
        generalize ixP x[2 * k] = p1 at *
        generalize ixP x[2 * k + 1] = p2 at *
        generalize x[2 * k].toNat = c1 at *
        generalize x[2 * k + 1].toNat = c2 at *
        have hv : ((UInt8.ofNat ((p1 * 16 + p2) % 256).toNat).toNat : Int) = (p1 * 16 + p2) % 256 := by rw [UInt8.toNat_ofNat']; omega
        rw [hv] at HZ
        have hwr : IntKind.u8.wrap (p1 * 16 + p2) = (p1 * 16 + p2) % 256 := by rw [IntKind.wrap_u8]
        clear hv
        generalize zOf (unkP (x.take (2 * k))) = out at *
        generalize hxx : (p1 * 16 + p2) % 256 = xv at *
        clear hxx
        obtain ⟨j, hj⟩ : ∃ j, j = 2 * k := ⟨_, rfl⟩
        have HJ := Hid.mk hj
        rw [← hj] at hat hat2 hlt ⊢
        replace hat2 : ∀ W, (Instr.index 111 (.string s) (.int .i64 ((j : Int) + 1))).run Tryz.prog W = .ok (.int .u8 ((c2 : Nat) : Int)) W := hat2
        clear hj
        have hjl : (j : Int) + 1 < (s.size : Int) := by omega
        have hwj : IntKind.i64.wrap (j : Int) = (j : Int) := by rw [IntKind.wrap_i64]; omega
        have hsj : (j : Int) + 1 - 1 = (j : Int) := by omega
        have hwp : IntKind.i64.wrap (p1 * 16) = p1 * 16 := by rw [IntKind.wrap_i64]; omega
        have hwq2 : IntKind.i64.wrap (p1 * 16 + p2) = p1 * 16 + p2 := by rw [IntKind.wrap_i64]; omega
        go_wp2_with fail
        refine wp_region_held_drew (S := fun W => Below w2.heap.size w2 W) (by kernel_rfl) (Below.drew hbk) (fun hHeld => ?_)
        refine tk 0 q52d_47_7_0 (some 30) (v := ?v10) rfl rfl (by kernel_rfl) hHeld (by rfl) (fun _ _ _ x => x) (fun w h => ?y10) ?_; (case y10 => (try dsimp only at h); go_simp; try (with_reducible rfl)); try simp only [Act.put, sa, s0, s1]
        refine tk 1 q52d_47_7_1 (some 31) (v := ?v11) rfl rfl (by kernel_rfl) hHeld (by rfl) (fun _ _ _ x => x) (fun w h => ?y11) ?_; (case y11 => (try dsimp only at h); go_simp; try (with_reducible rfl)); try simp only [Act.put, sa, s0, s1]
        refine tk 2 q52d_47_7_2 (some 32) (v := ?v12) rfl rfl (by kernel_rfl) hHeld (by rfl) (fun _ _ _ x => x) (fun w h => ?y12) ?_; (case y12 => (try dsimp only at h); go_simp; try (with_reducible rfl)); try simp only [Act.put, sa, s0, s1]
        refine tk 3 q52d_47_7_3 (some 33) (v := ?v13) rfl rfl (by kernel_rfl) hHeld (by rfl) (fun _ _ _ x => x) (fun w h => ?y13) ?_; (case y13 => (try dsimp only at h); go_simp; try (with_reducible rfl)); try simp only [Act.put, sa, s0, s1]
        refine tk 5 q52d_47_7_5 (some 35) (v := ?v14) rfl rfl (by kernel_rfl) hHeld (by rfl) (fun _ _ _ x => x) (fun w h => ?y14) ?_; (case y14 => (try dsimp only at h); go_simp; try (with_reducible rfl)); try simp only [Act.put, sa, s0, s1]
        refine tk 6 q52d_47_7_6 (some 36) (v := ?v15) rfl rfl (by kernel_rfl) hHeld (by rfl) (fun _ _ _ x => x) (fun w h => ?y15) ?_; (case y15 => (try dsimp only at h); go_simp; try (with_reducible rfl)); try simp only [Act.put, sa, s0, s1]
        refine tk 7 q52d_47_7_7 (some 37) (v := ?v16) rfl rfl (by kernel_rfl) hHeld (by rfl) (fun _ _ _ x => x) (fun w h => ?y16) ?_; (case y16 => (try dsimp only at h); go_simp; try (with_reducible rfl)); try simp only [Act.put, sa, s0, s1]
        refine wpAnyH_ready (rs := [4]) (by kernel_rfl) (by simp) ?_
        refine AllReadyH.cons (o := q52d_47_7_4) rfl (fun K hK => ?_) AllReadyH.nil
        go_simp
        refine (HC1.out _).mono ?_
        rintro e wa ⟨rfl, hwa⟩
        have hop1 : Below w2.heap.size w2 wa := by rw [hwa]; exact hHeld
        replace hwa := hwa.symm
        subst hwa
        go_wp2_with fail
        go_wp2_with fail
        refine hK.out _ _ (hop1) (fun hHeld => ?_)
        clear hK K
        try simp only [Act.put, sa, s0, s1]
        refine wpAnyH_ready (rs := [8]) (by kernel_rfl) (by simp) ?_
        refine AllReadyH.cons (o := q52d_47_7_8) rfl (fun K hK => ?_) AllReadyH.nil
        go_simp
        refine (HC2.out _).mono ?_
        rintro e wb ⟨rfl, hwb⟩
        have hop2 : Below w2.heap.size w2 wb := by rw [hwb]; exact hHeld
        replace hwb := hwb.symm
        subst hwb
        go_wp2_with fail
        go_wp2_with fail
        refine hK.out _ _ (hop2) (fun hHeld => ?_)
        clear hK K
        try simp only [Act.put, sa, s0, s1]
        refine tk 9 q52d_47_7_9 (some 7) (v := ?v17) rfl rfl (by kernel_rfl) hHeld (by rfl) (fun _ _ _ x => x) (fun w h => ?y17) ?_; (case y17 => (try dsimp only at h); go_simp; try (with_reducible rfl)); try simp only [Act.put, sa, s0, s1]
        refine tk 10 q52d_47_7_10 (some 8) (v := ?v18) rfl rfl (by kernel_rfl) hHeld (by rfl) (fun _ _ _ x => x) (fun w h => ?y18) ?_; (case y18 => (try dsimp only at h); go_simp; try (with_reducible rfl)); try simp only [Act.put, sa, s0, s1]
        refine wpAnyH_done (by kernel_rfl) ?_ _
        obtain ⟨w6, hw6⟩ : ∃ q, q = (wr.alloc (.cells #[Value.int .u8 xv] 5)).drew := ⟨_, rfl⟩
        have hx6 : Below wr.heap.size wr w6 := by rw [hw6]; exact Below.drew ((Below.refl _ _).alloc (Nat.le_refl _) _)
        have hbx6 : Bx w6 wr.heap.size [Value.int .u8 xv] := by rw [hw6]; exact (Bx.new wr [Value.int .u8 xv] 5)
        have hown6 := own_below hown hx6
        have hb6 := bthen hbk hx6
        clear hown HC1 HC2 hat hat2
        go_wp2_with (at_builtin; rw [← hw6]; refine wpList_append_own_at _ rfl _ _ 60 rfl w2.heap.size 5 i0 (.int .u8 0) 1 1 Tryz.underlying60 HI.out.1 HI.out.2.1 HI.out.2.2.1 HI.out.2.2.2 rfl (by decide) _ _ _ rfl hown6 ⟨wr.heap.size, 0, none⟩ 1 1 [.int .u8 xv] rfl rfl (bx_news hbx6) (by intro u hu; simp at hu; subst hu; rfl) (by unfold maxLen; omega) (by omega) hb6.size ?_; intro v7 w7 hown7 hgrow7 hnil7 hloc7)
        have hb7 := hb6.grown hgrow7 hb6.size (fun k h => (hown6.lt k h).1)
        have HO7 : Hid (w7.ownsRow w2.heap.size 5 1 v7 (out ++ [xv]).length ((out ++ [xv]).map (Value.int .u8))) := own_congr hown7 (by simp) (by simp)
        clear hown6 hown7 hgrow7 hnil7 hloc7 hw6 hbx6
        go_wp2_with fail
        go_roundw
        case rel => exact ⟨k + 1, by have := HJ.out; omega, by rw [show (2 * (k + 1) + 1 : Nat) = j + 1 + 2 by have := HJ.out; omega]; rfl, by rw [HZ.out]; exact HO7.out, hb7⟩
        case measure => simp [intOf]; have := HJ.out; omega
      · have HU : Hid (unkP (x.take (2 * k)) = unkP x) := unk_all k x (by rw [← HSL.out]; exact hlt) (by rw [← HSL.out]; exact hk)
        rw [HU.out] at hown
        have hcv := conv_hex hown
        rw [zOf_str] at hcv
        have hn : ¬ ((2 * k : Nat) : Int) + 1 < (s.size : Int) := by omega
        go_wp2_with fail
        go_ret
        exact ⟨rfl, by have h9 := HR2.out.below hbk; simpa using h9, HT2.out.trans (Turn.ofBelow hbk)⟩
  · go_enter Tryz.func47, Tryz.ntmps47
    go_wp2_with fail
    refine HC.out.mono ?_
    rintro e w1 ⟨rfl, hr1, ht1⟩
    go_wp2_with fail
    refine (take_any A l.tail b _ w1 hr1).mono ?_
    rintro e w2 ⟨rfl, hr2, ht2⟩
    have HR2 := Hid.mk hr2
    have HT2 := Hid.mk (ht1.trans ht2)
    clear hr1 ht1 hr2 ht2 htm r0
    go_wp2_with fail
    go_loopw [5, 6] (fun v i wr => ∃ k : Nat, 2 * k ≤ s.size ∧ i = .int .i64 ((2 * k + 1 : Nat) : Int) ∧ wr.ownsRow w2.heap.size 5 1 v (zOf (unkP (x.take (2 * k)))).length ((zOf (unkP (x.take (2 * k)))).map (Value.int .u8)) ∧ Below w2.heap.size w2 wr) (fun _ i _ => s.size + 2 - (intOf i).toNat)
    case atStart => exact ⟨0, Nat.zero_le _, rfl, ⟨rfl, .inl ⟨rfl, rfl⟩⟩, Below.refl _ _⟩
    case round =>
      obtain ⟨k, hk, rfl, hown, hbk⟩ := hrel
      by_cases hlt : 2 * k + 1 < s.size
      · have hkl : 2 * k + 1 < x.length := by rw [← HSL.out]; exact hlt
        have hat := fun W => HAT.out (2 * k) W (by omega)
        have hat2 := fun W => HAT.out (2 * k + 1) W hkl
        have HZ : Hid (zOf (unkP (x.take (2 * (k + 1)))) = zOf (unkP (x.take (2 * k))) ++ [((UInt8.ofNat ((ixP x[2 * k] * 16 + ixP x[2 * k + 1]) % 256).toNat).toNat : Int)]) := by
          show _ = _
          rw [show 2 * (k + 1) = 2 * k + 2 by omega, unk_take k x hkl]
          simp [zOf]
        have hl2 : (zOf (unkP (x.take (2 * k)))).length ≤ 1048576 := by
          have h1 := unk_len _ (x.take (2 * k)) (Nat.le_refl _)
          unfold zOf
          rw [List.length_map]
          rw [List.length_take] at h1
          omega
        have HC1 := Hid.mk (fun W => ix_any x[2 * k] W)
        have HC2 := Hid.mk (fun W => ix_any x[2 * k + 1] W)
        have hd1 := ixP_bound x[2 * k]
        have hd2 := ixP_bound x[2 * k + 1]
        generalize ixP x[2 * k] = p1 at *
        generalize ixP x[2 * k + 1] = p2 at *
        generalize x[2 * k].toNat = c1 at *
        generalize x[2 * k + 1].toNat = c2 at *
        have hv : ((UInt8.ofNat ((p1 * 16 + p2) % 256).toNat).toNat : Int) = (p1 * 16 + p2) % 256 := by rw [UInt8.toNat_ofNat']; omega
        rw [hv] at HZ
        have hwr : IntKind.u8.wrap (p1 * 16 + p2) = (p1 * 16 + p2) % 256 := by rw [IntKind.wrap_u8]
        clear hv
        generalize zOf (unkP (x.take (2 * k))) = out at *
        generalize hxx : (p1 * 16 + p2) % 256 = xv at *
        clear hxx
        obtain ⟨j, hj⟩ : ∃ j, j = 2 * k := ⟨_, rfl⟩
        have HJ := Hid.mk hj
        rw [← hj] at hat hat2 hlt ⊢
        replace hat2 : ∀ W, (Instr.index 111 (.string s) (.int .i64 ((j : Int) + 1))).run Tryz.prog W = .ok (.int .u8 ((c2 : Nat) : Int)) W := hat2
        clear hj
        have hjl : (j : Int) + 1 < (s.size : Int) := by omega
        have hwj : IntKind.i64.wrap (j : Int) = (j : Int) := by rw [IntKind.wrap_i64]; omega
        have hsj : (j : Int) + 1 - 1 = (j : Int) := by omega
        have hwp : IntKind.i64.wrap (p1 * 16) = p1 * 16 := by rw [IntKind.wrap_i64]; omega
        have hwq2 : IntKind.i64.wrap (p1 * 16 + p2) = p1 * 16 + p2 := by rw [IntKind.wrap_i64]; omega
        go_wp2_with fail
        refine wp_region_held_drew (S := fun W => Below w2.heap.size w2 W) (by kernel_rfl) (Below.drew hbk) (fun hHeld => ?_)
        refine tk 0 q52d_47_7_0 (some 30) (v := ?v19) rfl rfl (by kernel_rfl) hHeld (by rfl) (fun _ _ _ x => x) (fun w h => ?y19) ?_; (case y19 => (try dsimp only at h); go_simp; try (with_reducible rfl)); try simp only [Act.put, sa, s0, s1]
        refine tk 1 q52d_47_7_1 (some 31) (v := ?v20) rfl rfl (by kernel_rfl) hHeld (by rfl) (fun _ _ _ x => x) (fun w h => ?y20) ?_; (case y20 => (try dsimp only at h); go_simp; try (with_reducible rfl)); try simp only [Act.put, sa, s0, s1]
        refine tk 2 q52d_47_7_2 (some 32) (v := ?v21) rfl rfl (by kernel_rfl) hHeld (by rfl) (fun _ _ _ x => x) (fun w h => ?y21) ?_; (case y21 => (try dsimp only at h); go_simp; try (with_reducible rfl)); try simp only [Act.put, sa, s0, s1]
        refine tk 3 q52d_47_7_3 (some 33) (v := ?v22) rfl rfl (by kernel_rfl) hHeld (by rfl) (fun _ _ _ x => x) (fun w h => ?y22) ?_; (case y22 => (try dsimp only at h); go_simp; try (with_reducible rfl)); try simp only [Act.put, sa, s0, s1]
        refine tk 5 q52d_47_7_5 (some 35) (v := ?v23) rfl rfl (by kernel_rfl) hHeld (by rfl) (fun _ _ _ x => x) (fun w h => ?y23) ?_; (case y23 => (try dsimp only at h); go_simp; try (with_reducible rfl)); try simp only [Act.put, sa, s0, s1]
        refine tk 6 q52d_47_7_6 (some 36) (v := ?v24) rfl rfl (by kernel_rfl) hHeld (by rfl) (fun _ _ _ x => x) (fun w h => ?y24) ?_; (case y24 => (try dsimp only at h); go_simp; try (with_reducible rfl)); try simp only [Act.put, sa, s0, s1]
        refine tk 7 q52d_47_7_7 (some 37) (v := ?v25) rfl rfl (by kernel_rfl) hHeld (by rfl) (fun _ _ _ x => x) (fun w h => ?y25) ?_; (case y25 => (try dsimp only at h); go_simp; try (with_reducible rfl)); try simp only [Act.put, sa, s0, s1]
        refine wpAnyH_ready (rs := [4]) (by kernel_rfl) (by simp) ?_
        refine AllReadyH.cons (o := q52d_47_7_4) rfl (fun K hK => ?_) AllReadyH.nil
        go_simp
        refine (HC1.out _).mono ?_
        rintro e wa ⟨rfl, hwa⟩
        have hop1 : Below w2.heap.size w2 wa := by rw [hwa]; exact hHeld
        replace hwa := hwa.symm
        subst hwa
        go_wp2_with fail
        go_wp2_with fail
        refine hK.out _ _ (hop1) (fun hHeld => ?_)
        clear hK K
        try simp only [Act.put, sa, s0, s1]
        refine wpAnyH_ready (rs := [8]) (by kernel_rfl) (by simp) ?_
        refine AllReadyH.cons (o := q52d_47_7_8) rfl (fun K hK => ?_) AllReadyH.nil
        go_simp
        refine (HC2.out _).mono ?_
        rintro e wb ⟨rfl, hwb⟩
        have hop2 : Below w2.heap.size w2 wb := by rw [hwb]; exact hHeld
        replace hwb := hwb.symm
        subst hwb
        go_wp2_with fail
        go_wp2_with fail
        refine hK.out _ _ (hop2) (fun hHeld => ?_)
        clear hK K
        try simp only [Act.put, sa, s0, s1]
        refine tk 9 q52d_47_7_9 (some 7) (v := ?v26) rfl rfl (by kernel_rfl) hHeld (by rfl) (fun _ _ _ x => x) (fun w h => ?y26) ?_; (case y26 => (try dsimp only at h); go_simp; try (with_reducible rfl)); try simp only [Act.put, sa, s0, s1]
        refine tk 10 q52d_47_7_10 (some 8) (v := ?v27) rfl rfl (by kernel_rfl) hHeld (by rfl) (fun _ _ _ x => x) (fun w h => ?y27) ?_; (case y27 => (try dsimp only at h); go_simp; try (with_reducible rfl)); try simp only [Act.put, sa, s0, s1]
        refine wpAnyH_done (by kernel_rfl) ?_ _
        obtain ⟨w6, hw6⟩ : ∃ q, q = (wr.alloc (.cells #[Value.int .u8 xv] 5)).drew := ⟨_, rfl⟩
        have hx6 : Below wr.heap.size wr w6 := by rw [hw6]; exact Below.drew ((Below.refl _ _).alloc (Nat.le_refl _) _)
        have hbx6 : Bx w6 wr.heap.size [Value.int .u8 xv] := by rw [hw6]; exact (Bx.new wr [Value.int .u8 xv] 5)
        have hown6 := own_below hown hx6
        have hb6 := bthen hbk hx6
        clear hown HC1 HC2 hat hat2
        go_wp2_with (at_builtin; rw [← hw6]; refine wpList_append_own_at _ rfl _ _ 60 rfl w2.heap.size 5 i0 (.int .u8 0) 1 1 Tryz.underlying60 HI.out.1 HI.out.2.1 HI.out.2.2.1 HI.out.2.2.2 rfl (by decide) _ _ _ rfl hown6 ⟨wr.heap.size, 0, none⟩ 1 1 [.int .u8 xv] rfl rfl (bx_news hbx6) (by intro u hu; simp at hu; subst hu; rfl) (by unfold maxLen; omega) (by omega) hb6.size ?_; intro v7 w7 hown7 hgrow7 hnil7 hloc7)
        have hb7 := hb6.grown hgrow7 hb6.size (fun k h => (hown6.lt k h).1)
        have HO7 : Hid (w7.ownsRow w2.heap.size 5 1 v7 (out ++ [xv]).length ((out ++ [xv]).map (Value.int .u8))) := own_congr hown7 (by simp) (by simp)
        clear hown6 hown7 hgrow7 hnil7 hloc7 hw6 hbx6
        go_wp2_with fail
        go_roundw
        case rel => exact ⟨k + 1, by have := HJ.out; omega, by rw [show (2 * (k + 1) + 1 : Nat) = j + 1 + 2 by have := HJ.out; omega]; rfl, by rw [HZ.out]; exact HO7.out, hb7⟩
        case measure => simp [intOf]; have := HJ.out; omega
      · have HU : Hid (unkP (x.take (2 * k)) = unkP x) := unk_all k x (by rw [← HSL.out]; exact hlt) (by rw [← HSL.out]; exact hk)
        rw [HU.out] at hown
        have hcv := conv_hex hown
        rw [zOf_str] at hcv
        have hn : ¬ ((2 * k : Nat) : Int) + 1 < (s.size : Int) := by omega
        go_wp2_with fail
        go_ret
        exact ⟨rfl, by have h9 := HR2.out.below hbk; simpa using h9, HT2.out.trans (Turn.ofBelow hbk)⟩
  · go_enter Tryz.func47, Tryz.ntmps47
    go_wp2_with fail
    refine HC.out.mono ?_
    rintro e w1 ⟨rfl, hr1, ht1⟩
    go_wp2_with fail
    refine (take_any A l.tail b _ w1 hr1).mono ?_
    rintro e w2 ⟨rfl, hr2, ht2⟩
    have HR2 := Hid.mk hr2
    have HT2 := Hid.mk (ht1.trans ht2)
    clear hr1 ht1 hr2 ht2 htm r0
    go_wp2_with fail
    go_loopw [5, 6] (fun v i wr => ∃ k : Nat, 2 * k ≤ s.size ∧ i = .int .i64 ((2 * k + 1 : Nat) : Int) ∧ wr.ownsRow w2.heap.size 5 1 v (zOf (unkP (x.take (2 * k)))).length ((zOf (unkP (x.take (2 * k)))).map (Value.int .u8)) ∧ Below w2.heap.size w2 wr) (fun _ i _ => s.size + 2 - (intOf i).toNat)
    case atStart => exact ⟨0, Nat.zero_le _, rfl, ⟨rfl, .inl ⟨rfl, rfl⟩⟩, Below.refl _ _⟩
    case round =>
      obtain ⟨k, hk, rfl, hown, hbk⟩ := hrel
      by_cases hlt : 2 * k + 1 < s.size
      · have hkl : 2 * k + 1 < x.length := by rw [← HSL.out]; exact hlt
        have hat := fun W => HAT.out (2 * k) W (by omega)
        have hat2 := fun W => HAT.out (2 * k + 1) W hkl
        have HZ : Hid (zOf (unkP (x.take (2 * (k + 1)))) = zOf (unkP (x.take (2 * k))) ++ [((UInt8.ofNat ((ixP x[2 * k] * 16 + ixP x[2 * k + 1]) % 256).toNat).toNat : Int)]) := by
          show _ = _
          rw [show 2 * (k + 1) = 2 * k + 2 by omega, unk_take k x hkl]
          simp [zOf]
        have hl2 : (zOf (unkP (x.take (2 * k)))).length ≤ 1048576 := by
          have h1 := unk_len _ (x.take (2 * k)) (Nat.le_refl _)
          unfold zOf
          rw [List.length_map]
          rw [List.length_take] at h1
          omega
        have HC1 := Hid.mk (fun W => ix_any x[2 * k] W)
        have HC2 := Hid.mk (fun W => ix_any x[2 * k + 1] W)
        have hd1 := ixP_bound x[2 * k]
        have hd2 := ixP_bound x[2 * k + 1]
        generalize ixP x[2 * k] = p1 at *
        generalize ixP x[2 * k + 1] = p2 at *
        generalize x[2 * k].toNat = c1 at *
        generalize x[2 * k + 1].toNat = c2 at *
        have hv : ((UInt8.ofNat ((p1 * 16 + p2) % 256).toNat).toNat : Int) = (p1 * 16 + p2) % 256 := by rw [UInt8.toNat_ofNat']; omega
        rw [hv] at HZ
        have hwr : IntKind.u8.wrap (p1 * 16 + p2) = (p1 * 16 + p2) % 256 := by rw [IntKind.wrap_u8]
        clear hv
        generalize zOf (unkP (x.take (2 * k))) = out at *
        generalize hxx : (p1 * 16 + p2) % 256 = xv at *
        clear hxx
        obtain ⟨j, hj⟩ : ∃ j, j = 2 * k := ⟨_, rfl⟩
        have HJ := Hid.mk hj
        rw [← hj] at hat hat2 hlt ⊢
        replace hat2 : ∀ W, (Instr.index 111 (.string s) (.int .i64 ((j : Int) + 1))).run Tryz.prog W = .ok (.int .u8 ((c2 : Nat) : Int)) W := hat2
        clear hj
        have hjl : (j : Int) + 1 < (s.size : Int) := by omega
        have hwj : IntKind.i64.wrap (j : Int) = (j : Int) := by rw [IntKind.wrap_i64]; omega
        have hsj : (j : Int) + 1 - 1 = (j : Int) := by omega
        have hwp : IntKind.i64.wrap (p1 * 16) = p1 * 16 := by rw [IntKind.wrap_i64]; omega
        have hwq2 : IntKind.i64.wrap (p1 * 16 + p2) = p1 * 16 + p2 := by rw [IntKind.wrap_i64]; omega
        go_wp2_with fail
        refine wp_region_held_drew (S := fun W => Below w2.heap.size w2 W) (by kernel_rfl) (Below.drew hbk) (fun hHeld => ?_)
        refine tk 0 q52d_47_7_0 (some 30) (v := ?v28) rfl rfl (by kernel_rfl) hHeld (by rfl) (fun _ _ _ x => x) (fun w h => ?y28) ?_; (case y28 => (try dsimp only at h); go_simp; try (with_reducible rfl)); try simp only [Act.put, sa, s0, s1]
        refine tk 1 q52d_47_7_1 (some 31) (v := ?v29) rfl rfl (by kernel_rfl) hHeld (by rfl) (fun _ _ _ x => x) (fun w h => ?y29) ?_; (case y29 => (try dsimp only at h); go_simp; try (with_reducible rfl)); try simp only [Act.put, sa, s0, s1]
        refine tk 2 q52d_47_7_2 (some 32) (v := ?v30) rfl rfl (by kernel_rfl) hHeld (by rfl) (fun _ _ _ x => x) (fun w h => ?y30) ?_; (case y30 => (try dsimp only at h); go_simp; try (with_reducible rfl)); try simp only [Act.put, sa, s0, s1]
        refine tk 3 q52d_47_7_3 (some 33) (v := ?v31) rfl rfl (by kernel_rfl) hHeld (by rfl) (fun _ _ _ x => x) (fun w h => ?y31) ?_; (case y31 => (try dsimp only at h); go_simp; try (with_reducible rfl)); try simp only [Act.put, sa, s0, s1]
        refine tk 5 q52d_47_7_5 (some 35) (v := ?v32) rfl rfl (by kernel_rfl) hHeld (by rfl) (fun _ _ _ x => x) (fun w h => ?y32) ?_; (case y32 => (try dsimp only at h); go_simp; try (with_reducible rfl)); try simp only [Act.put, sa, s0, s1]
        refine tk 6 q52d_47_7_6 (some 36) (v := ?v33) rfl rfl (by kernel_rfl) hHeld (by rfl) (fun _ _ _ x => x) (fun w h => ?y33) ?_; (case y33 => (try dsimp only at h); go_simp; try (with_reducible rfl)); try simp only [Act.put, sa, s0, s1]
        refine tk 7 q52d_47_7_7 (some 37) (v := ?v34) rfl rfl (by kernel_rfl) hHeld (by rfl) (fun _ _ _ x => x) (fun w h => ?y34) ?_; (case y34 => (try dsimp only at h); go_simp; try (with_reducible rfl)); try simp only [Act.put, sa, s0, s1]
        refine wpAnyH_ready (rs := [4]) (by kernel_rfl) (by simp) ?_
        refine AllReadyH.cons (o := q52d_47_7_4) rfl (fun K hK => ?_) AllReadyH.nil
        go_simp
        refine (HC1.out _).mono ?_
        rintro e wa ⟨rfl, hwa⟩
        have hop1 : Below w2.heap.size w2 wa := by rw [hwa]; exact hHeld
        replace hwa := hwa.symm
        subst hwa
        go_wp2_with fail
        go_wp2_with fail
        refine hK.out _ _ (hop1) (fun hHeld => ?_)
        clear hK K
        try simp only [Act.put, sa, s0, s1]
        refine wpAnyH_ready (rs := [8]) (by kernel_rfl) (by simp) ?_
        refine AllReadyH.cons (o := q52d_47_7_8) rfl (fun K hK => ?_) AllReadyH.nil
        go_simp
        refine (HC2.out _).mono ?_
        rintro e wb ⟨rfl, hwb⟩
        have hop2 : Below w2.heap.size w2 wb := by rw [hwb]; exact hHeld
        replace hwb := hwb.symm
        subst hwb
        go_wp2_with fail
        go_wp2_with fail
        refine hK.out _ _ (hop2) (fun hHeld => ?_)
        clear hK K
        try simp only [Act.put, sa, s0, s1]
        refine tk 9 q52d_47_7_9 (some 7) (v := ?v35) rfl rfl (by kernel_rfl) hHeld (by rfl) (fun _ _ _ x => x) (fun w h => ?y35) ?_; (case y35 => (try dsimp only at h); go_simp; try (with_reducible rfl)); try simp only [Act.put, sa, s0, s1]
        refine tk 10 q52d_47_7_10 (some 8) (v := ?v36) rfl rfl (by kernel_rfl) hHeld (by rfl) (fun _ _ _ x => x) (fun w h => ?y36) ?_; (case y36 => (try dsimp only at h); go_simp; try (with_reducible rfl)); try simp only [Act.put, sa, s0, s1]
        refine wpAnyH_done (by kernel_rfl) ?_ _
        obtain ⟨w6, hw6⟩ : ∃ q, q = (wr.alloc (.cells #[Value.int .u8 xv] 5)).drew := ⟨_, rfl⟩
        have hx6 : Below wr.heap.size wr w6 := by rw [hw6]; exact Below.drew ((Below.refl _ _).alloc (Nat.le_refl _) _)
        have hbx6 : Bx w6 wr.heap.size [Value.int .u8 xv] := by rw [hw6]; exact (Bx.new wr [Value.int .u8 xv] 5)
        have hown6 := own_below hown hx6
        have hb6 := bthen hbk hx6
        clear hown HC1 HC2 hat hat2
        go_wp2_with (at_builtin; rw [← hw6]; refine wpList_append_own_at _ rfl _ _ 60 rfl w2.heap.size 5 i0 (.int .u8 0) 1 1 Tryz.underlying60 HI.out.1 HI.out.2.1 HI.out.2.2.1 HI.out.2.2.2 rfl (by decide) _ _ _ rfl hown6 ⟨wr.heap.size, 0, none⟩ 1 1 [.int .u8 xv] rfl rfl (bx_news hbx6) (by intro u hu; simp at hu; subst hu; rfl) (by unfold maxLen; omega) (by omega) hb6.size ?_; intro v7 w7 hown7 hgrow7 hnil7 hloc7)
        have hb7 := hb6.grown hgrow7 hb6.size (fun k h => (hown6.lt k h).1)
        have HO7 : Hid (w7.ownsRow w2.heap.size 5 1 v7 (out ++ [xv]).length ((out ++ [xv]).map (Value.int .u8))) := own_congr hown7 (by simp) (by simp)
        clear hown6 hown7 hgrow7 hnil7 hloc7 hw6 hbx6
        go_wp2_with fail
        go_roundw
        case rel => exact ⟨k + 1, by have := HJ.out; omega, by rw [show (2 * (k + 1) + 1 : Nat) = j + 1 + 2 by have := HJ.out; omega]; rfl, by rw [HZ.out]; exact HO7.out, hb7⟩
        case measure => simp [intOf]; have := HJ.out; omega
      · have HU : Hid (unkP (x.take (2 * k)) = unkP x) := unk_all k x (by rw [← HSL.out]; exact hlt) (by rw [← HSL.out]; exact hk)
        rw [HU.out] at hown
        have hcv := conv_hex hown
        rw [zOf_str] at hcv
        have hn : ¬ ((2 * k : Nat) : Int) + 1 < (s.size : Int) := by omega
        go_wp2_with fail
        go_ret
        exact ⟨rfl, by have h9 := HR2.out.below hbk; simpa using h9, HT2.out.trans (Turn.ofBelow hbk)⟩

end Go.Proofs.YtnohnkcijomdjaaGreatDoor
