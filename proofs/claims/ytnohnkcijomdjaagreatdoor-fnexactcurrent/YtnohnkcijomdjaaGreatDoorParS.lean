/-
  The specification's words and numbers of a text.
-/
import Derived.Test.YtnohnkcijomdjaaGreatDoorParN
import Derived.Test.YtnohnkcijomdjaaGreatDoorHexI
import Derived.Test.YtnohnkcijomdjaaGreatDoorInR
import Derived.Test.YtnohnkcijomdjaaGreatDoorRowG
import Derived.Test.YtnohnkcijomdjaaGreatDoorTxtS
namespace Go.Proofs.YtnohnkcijomdjaaGreatDoor
open Go.RowKit
set_option linter.unusedVariables false
set_option linter.unusedSimpArgs false
set_option maxRecDepth 10000

theorem Tryz.infoStr : (Tryz.prog.info? 9).map (fun i => (i.zero, i.size, i.bytes)) = some (some (.string ByteArray.empty), 1, 16) := by kernel_rfl
theorem ints_at_ (s : ByteArray) (k : Nat) (h : k < (byteInts s).length) (h2 : k < s.data.toList.length) : (byteInts s)[k] = ((s.data.toList[k].toNat : Nat) : Int) := by
  simp [byteInts]
theorem size_list (s : ByteArray) : s.data.toList.length = s.size := by rw [Array.length_toList]; rfl
theorem at_byte (s : ByteArray) (k : Nat) (W : World) (h : k < s.data.toList.length) : (Instr.index 9 (.string s) (.int .i64 k)).run Tryz.prog W = .ok (.int .u8 ((s.data.toList[k].toNat : Nat) : Int)) W := by
  have h1 : k < (byteInts s).length := by rw [byteInts_length, ← size_list]; exact h
  rw [strAt s W h1, ints_at_ s k h1 h]

def strV (l : List UInt8) : Value := .string (strB l)
/-- As far as i, or one behind the end. -/
def SpR (b : UInt8) (l : List UInt8) (D : List (List UInt8)) (f k : Nat) : Prop := SpI b l D f k ∨ (k = l.length + 1 ∧ splitP b l = D)

set_option maxHeartbeats 2000000 in
theorem l6Split_any (s : ByteArray) (b : UInt8) (w : World) (hs : s.size ≤ 1048576) :
    Calls Tryz.prog 16 #[.string s, .int .u8 (b.toNat : Int)] w fun e w' => ∃ v, e = .returned v ∧ w'.ownsRow w.heap.size 9 1 v (splitP b s.data.toList).length ((splitP b s.data.toList).map strV) ∧ Below w.heap.size w w' := by
  obtain ⟨i0, hi, hz0, hz1, hz2⟩ := info_parts Tryz.infoStr
  have HPT := Hid.mk (fun (f k : Nat) (h : k ≤ s.size) => str_part s f k h)
  have HAT := Hid.mk (fun (k : Nat) (W : World) (h : k < s.data.toList.length) => at_byte s k W h)
  have hsl := size_list s
  obtain ⟨l, hl⟩ : ∃ l, l = s.data.toList := ⟨_, rfl⟩
  rw [← hl] at HPT HAT hsl ⊢
  have HSL := Hid.mk hsl
  clear hl hsl
  have hb255 : b.toNat < 256 := b.toNat_lt
  go_enter Tryz.func16, Tryz.ntmps16
  go_wp2_with fail
  obtain ⟨wq, hwq⟩ : ∃ x, x = w.alloc (.cells #[] 9) := ⟨_, rfl⟩
  have hbq : Below w.heap.size w wq := by rw [hwq]; exact (Below.refl _ _).alloc (Nat.le_refl _) _
  have hoo : wq.ownsRow w.heap.size 9 1 (.slice (some ⟨w.heap.size, 0, none⟩) 0 0) 0 [] := by
    rw [hwq]
    exact ⟨by simp, .inr ⟨w.heap.size, 0, #[], rfl, Nat.le_refl _, (show (w.heap.push _)[w.heap.size]? = _ from Array.getElem?_push_size), by omega, by simp [maxLen], by simp, by simp⟩⟩
  rw [← hwq]
  clear hwq
  go_loopw [5, 6, 7] (fun v fr i wr => ∃ (k f : Nat) (D : List (List UInt8)), k ≤ s.size + 1 ∧ f ≤ k ∧ i = .int .i64 k ∧ fr = .int .i64 f ∧ D.length ≤ k ∧ Hid (SpR b l D f k) ∧ wr.ownsRow w.heap.size 9 1 v D.length (D.map strV) ∧ Below w.heap.size w wr) (fun _ _ i _ => s.size + 1 - (intOf i).toNat)
  case atStart => exact ⟨0, 0, [], Nat.zero_le _, Nat.le_refl _, rfl, rfl, Nat.zero_le _, .inl (SpI.start b l), hoo, hbq⟩
  case round =>
    obtain ⟨k, f, D, hk, hfk, rfl, rfl, hDk, HSP, hown, hbk⟩ := hrel
    clear hoo hbq
    have hbs := hbk.size
    by_cases hle : k ≤ s.size
    · have HSI : Hid (SpI b l D f k) := by
        rcases HSP.out with h | h
        · exact h
        · exact absurd h.1 (by have := HSL.out; omega)
      clear HSP
      by_cases hlt : k < s.size
      · have hkl : k < l.length := by rw [HSL.out]; exact hlt
        have hat := fun W => HAT.out k W hkl
        have hne : ¬ (k : Int) = (s.size : Int) := by omega
        by_cases he : l[k] = b
        · have HN := Hid.mk (HSI.out.cut hkl he)
          rw [he] at hat
          have HP := Hid.mk (HPT.out f k hle)
          generalize (l.drop f).take (k - f) = pc at HN HP
          obtain ⟨y, HY⟩ : ∃ y, Hid (y = s.extract f k) := ⟨_, rfl⟩
          rw [← HY.out] at HP
          have hfi : (f : Int) ≤ (k : Int) := by omega
          go_wp2_with (at_builtin; rw [← HY.out]; refine wpList_append_own_at _ rfl _ _ 44 rfl w.heap.size 9 i0 (.string ByteArray.empty) 1 16 Tryz.underlying44 hi hz0 hz1 hz2 rfl (by decide) _ _ _ rfl (own_below hown ((Below.refl _ _).alloc (Nat.le_refl _) _)) ⟨wr.heap.size, 0, none⟩ 1 1 [.string y] rfl rfl (bx_news (Bx.new wr _ _)) (by intro u hu; simp at hu; subst hu; rfl) (by unfold maxLen; omega) (by omega) (by simp; omega) ?_; intro v' w3 hown3 hgrow3 hnil hloc)
          have hT := Turn.after ((Below.refl wr.heap.size wr).alloc (Nat.le_refl _) _) (turnOwn hgrow3)
          have hge : ∀ k, k ∈ (Value.ownBlock _).toList → w.heap.size ≤ k := fun k hk => (hown.lt k (by simpa using hk)).1
          go_roundw
          case rel => exact ⟨k + 1, k + 1, D ++ [pc], by omega, by omega, by go_num, by go_num, by simp; omega, .inl HN.out, own_congr hown3 (by simp) (by rw [List.map_append, HP.out]; rfl), Turn.under hbk hT (fun k hk => hge k hk)⟩
          case measure => simp [intOf]; omega
        · have HN := Hid.mk (HSI.out.skip hkl he)
          have hnn : ¬ ((l[k].toNat : Nat) : Int) = (b.toNat : Int) := fun h => he (UInt8.toNat_inj.1 (by omega))
          have hx256 : l[k].toNat < 256 := l[k].toNat_lt
          generalize l[k].toNat = x at *
          have e1 : ((k : Int) == (s.size : Int)) = false := beq_eq_false_iff_ne.2 hne
          have e2 : ((x : Int) == (b.toNat : Int)) = false := beq_eq_false_iff_ne.2 hnn
          go_wp2_with fail
          go_roundw
          case rel => exact ⟨k + 1, f, D, by omega, by omega, by go_num, rfl, by omega, .inl HN.out, hown, hbk⟩
          case measure => simp [intOf]; omega
      · have hks : k = s.size := by omega
        subst hks
        have HN : Hid (splitP b l = D ++ [(l.drop f).take (s.size - f)]) := by
          have h := HSI.out
          rw [← HSL.out] at h ⊢
          exact h.fin
        have HP := Hid.mk (HPT.out f s.size (Nat.le_refl _))
        generalize (l.drop f).take (s.size - f) = pc at HN HP
        obtain ⟨y, HY⟩ : ∃ y, Hid (y = s.extract f s.size) := ⟨_, rfl⟩
        rw [← HY.out] at HP
        have hfi : (f : Int) ≤ (s.size : Int) := by omega
        go_wp2_with (at_builtin; rw [← HY.out]; refine wpList_append_own_at _ rfl _ _ 44 rfl w.heap.size 9 i0 (.string ByteArray.empty) 1 16 Tryz.underlying44 hi hz0 hz1 hz2 rfl (by decide) _ _ _ rfl (own_below hown ((Below.refl _ _).alloc (Nat.le_refl _) _)) ⟨wr.heap.size, 0, none⟩ 1 1 [.string y] rfl rfl (bx_news (Bx.new wr _ _)) (by intro u hu; simp at hu; subst hu; rfl) (by unfold maxLen; omega) (by omega) (by simp; omega) ?_; intro v' w3 hown3 hgrow3 hnil hloc)
        have hT := Turn.after ((Below.refl wr.heap.size wr).alloc (Nat.le_refl _) _) (turnOwn hgrow3)
        have hge : ∀ k, k ∈ (Value.ownBlock _).toList → w.heap.size ≤ k := fun k hk => (hown.lt k (by simpa using hk)).1
        go_roundw
        case rel => exact ⟨s.size + 1, s.size + 1, D ++ [pc], by omega, by omega, by go_num, by go_num, by simp; omega, .inr ⟨by rw [HSL.out], HN.out⟩, own_congr hown3 (by simp) (by rw [List.map_append, HP.out]; rfl), Turn.under hbk hT (fun k hk => hge k hk)⟩
        case measure => first | (simp [intOf]; done) | (simp [intOf]; omega)
    · have HN : Hid (splitP b l = D) := by
        rcases HSP.out with h | h
        · exact absurd h.il (by have := HSL.out; omega)
        · exact h.2
      have hk1 : ¬ (k : Int) ≤ (s.size : Int) := by omega
      go_wp2_with fail
      go_ret
      exact ⟨_, rfl, by rw [HN.out]; exact hown, hbk⟩

set_option maxHeartbeats 400000 in
theorem l6Digit_any (b : UInt8) (w : World) :
    Calls Tryz.prog 38 #[.int .u8 (b.toNat : Int)] w fun e w' => e = .returned (.int .i64 (digP b)) ∧ w' = w := by
  have hb : b.toNat < 256 := b.toNat_lt
  obtain ⟨v, hv⟩ : ∃ v, v = digP b := ⟨_, rfl⟩
  have HV : Hid (v = if 48 ≤ b.toNat ∧ b.toNat ≤ 57 then (b.toNat : Int) - 48 else if 97 ≤ b.toNat ∧ b.toNat ≤ 102 then (b.toNat : Int) - 87 else 99) := hv
  rw [← hv]
  clear hv
  generalize b.toNat = x at *
  go_enter Tryz.func38, Tryz.ntmps38
  go_wp2_with fail
  refine (l1In_any _ _ _ _).mono ?_
  rintro e w1 ⟨rfl, hw1⟩
  replace hw1 := hw1.symm
  subst hw1
  by_cases h1 : 48 ≤ x ∧ x ≤ 57
  · have HW : Hid (v = (x : Int) - 48) := HV.out.trans (if_pos h1)
    rw [inRange_yes (by omega) (by omega)]
    have hw : IntKind.u8.wrap ((x : Int) - 48) = (x : Int) - 48 := by rw [IntKind.wrap_u8]; omega
    go_wp2_with fail
    go_ret
    exact ⟨by rw [HW.out]; rfl, rfl⟩
  · rw [inRange_no (by omega)]
    go_wp2_with fail
    refine (l1In_any _ _ _ _).mono ?_
    rintro e w1 ⟨rfl, hw1⟩
    replace hw1 := hw1.symm
    subst hw1
    by_cases h2 : 97 ≤ x ∧ x ≤ 102
    · have HW : Hid (v = (x : Int) - 97 + 10) := by show v = _; rw [HV.out, if_neg h1, if_pos h2]; omega
      rw [inRange_yes (by omega) (by omega)]
      have hw : IntKind.u8.wrap ((x : Int) - 97) = (x : Int) - 97 := by rw [IntKind.wrap_u8]; omega
      go_wp2_with fail
      go_ret
      exact ⟨by rw [HW.out]; rfl, rfl⟩
    · have HW : Hid (v = 99) := by show v = _; rw [HV.out, if_neg h1, if_neg h2]
      rw [inRange_no (by omega)]
      go_wp2_with fail
      go_ret
      exact ⟨by rw [HW.out]; rfl, rfl⟩

set_option maxHeartbeats 1000000 in
theorem l6Number_any (s : ByteArray) (w : World) (hs : s.size ≤ 1048576) :
    Calls Tryz.prog 17 #[.string s] w fun e w' => e = .returned (.int .i64 (numP s.data.toList)) ∧ w' = w := by
  have HAT := Hid.mk (fun (k : Nat) (W : World) (h : k < s.data.toList.length) => at_byte s k W h)
  have hsl := size_list s
  obtain ⟨l, hl⟩ : ∃ l, l = s.data.toList := ⟨_, rfl⟩
  rw [← hl] at HAT hsl ⊢
  have HSL := Hid.mk hsl
  clear hl hsl
  obtain ⟨v, hv⟩ : ∃ v, v = numP l := ⟨_, rfl⟩
  have HV := Hid.mk hv
  rw [← hv]
  clear hv
  go_enter Tryz.func17, Tryz.ntmps17
  go_wp2_with fail
  refine (l1In_any _ _ _ _).mono ?_
  rintro e w1 ⟨rfl, hw1⟩
  replace hw1 := hw1.symm
  subst hw1
  by_cases h1 : 1 ≤ s.size ∧ s.size ≤ 6
  · rw [inRange_yes (by omega) (by omega)]
    have h6 := h1.2
    have HL16 : Hid (1 ≤ l.length ∧ l.length ≤ 6) := by show _ ∧ _; rw [HSL.out]; exact h1
    clear h1
    go_wp2_with fail
    go_loopw [3, 4] (fun nv i wr => ∃ (k : Nat) (n : Int), k ≤ s.size ∧ i = .int .i64 k ∧ nv = .int .i64 n ∧ Hid (n = valD (l.take k) 0) ∧ Hid ((l.take k).all isDig = true) ∧ wr = w) (fun _ i _ => s.size - (intOf i).toNat)
    case atStart => exact ⟨0, 0, Nat.zero_le _, rfl, rfl, rfl, rfl, rfl⟩
    case round =>
      obtain ⟨k, n, hk, rfl, rfl, HN, HD, hwr⟩ := hrel
      subst hwr
      by_cases hlt : k < s.size
      · have hkl : k < l.length := by rw [HSL.out]; exact hlt
        have hat := fun W => HAT.out k W hkl
        have hx256 : l[k].toNat < 256 := l[k].toNat_lt
        have hbnd := val_bound _ HD.out
        rw [← HN.out, List.length_take, Nat.min_eq_left (by omega)] at hbnd
        have hp : (10 : Int) ^ k ≤ 100000 := by
          have : k ≤ 5 := by omega
          match k, this with
          | 0, _ => decide
          | 1, _ => decide
          | 2, _ => decide
          | 3, _ => decide
          | 4, _ => decide
          | 5, _ => decide
        have hn0 : 0 ≤ n := hbnd.1
        have hn1 : n < 100000 := by omega
        clear hbnd hp
        have HT : Hid (valD (l.take (k + 1)) 0 = n * 10 + ((l[k].toNat : Int) - 48)) := by show _ = _; rw [val_take hkl, ← HN.out]
        have HA : Hid ((l.take (k + 1)).all isDig = isDig l[k]) := by
          show _ = _
          rw [List.take_succ_eq_append_getElem hkl, List.all_append, HD.out]
          simp
        have HB : Hid (isDig l[k] = false → numP l = -1) := fun h => by
          unfold numP
          rw [if_neg]
          rintro ⟨_, h2⟩
          rw [List.all_eq_true] at h2
          rw [h2 _ (List.getElem_mem hkl)] at h
          cases h
        have HDG : Hid (isDig l[k] = decide (48 ≤ l[k].toNat ∧ l[k].toNat ≤ 57)) := rfl
        generalize isDig l[k] = dg at HA HB HDG
        generalize l[k].toNat = x at *
        go_wp2_with fail
        refine (l1In_any _ _ _ _).mono ?_
        rintro e w1 ⟨rfl, hw1⟩
        replace hw1 := hw1.symm
        subst hw1
        by_cases hd : 48 ≤ x ∧ x ≤ 57
        · rw [inRange_yes (by omega) (by omega)]
          have hw : IntKind.u8.wrap ((x : Int) - 48) = (x : Int) - 48 := by rw [IntKind.wrap_u8]; omega
          have hdg : dg = true := by rw [HDG.out]; exact decide_eq_true hd
          go_wp2_with fail
          go_roundw
          case rel => exact ⟨k + 1, n * 10 + ((x : Int) - 48), by omega, by go_num, rfl, HT.out.symm, HA.out.trans hdg, by first | rfl | trivial⟩
          case measure => simp [intOf]; omega
        · rw [inRange_no (by omega)]
          have HVV : Hid (v = -1) := by show v = _; rw [HV.out]; exact HB.out (by rw [HDG.out]; exact decide_eq_false hd)
          go_wp2_with fail
          go_ret
          exact ⟨by rw [HVV.out]; rfl, rfl⟩
      · have hks : k = s.size := by omega
        subst hks
        have HVV : Hid (v = n) := by
          show v = n
          have ht : l.take s.size = l := List.take_of_length_le (by rw [HSL.out]; omega)
          have h1 := HN.out
          have h2 := HD.out
          rw [ht] at h1 h2
          rw [HV.out, h1]
          unfold numP
          rw [if_pos ⟨HL16.out, h2⟩]
        go_wp2_with fail
        go_ret
        exact ⟨by rw [HVV.out]; rfl, rfl⟩
  · rw [inRange_no (by omega)]
    have HVV : Hid (v = -1) := by
      show v = _
      rw [HV.out]
      unfold numP
      rw [if_neg]
      rintro ⟨h2, _⟩
      rw [HSL.out] at h2
      exact h1 h2
    go_wp2_with fail
    go_ret
    exact ⟨by rw [HVV.out]; rfl, rfl⟩

end Go.Proofs.YtnohnkcijomdjaaGreatDoor
