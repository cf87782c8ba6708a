/-
  Part 10 of the texts that the proof leans on.
-/
import Derived.Test.YtddejboifpepcaaGreatDoorInp4
import Derived.Test.YtddejboifpepcaaGreatDoorInp1
import Derived.Test.YtddejboifpepcaaGreatDoorInp3
import Derived.Test.YtddejboifpepcaaGreatDoorInp5
import Derived.Test.YtddejboifpepcaaGreatDoorInp8
import Derived.Test.YtddejboifpepcaaGreatDoorInp6
import Derived.Test.YtddejboifpepcaaGreatDoorInp7
set_option linter.unusedVariables false
set_option linter.unusedSimpArgs false
set_option maxRecDepth 10000

namespace Go.Proofs.YtddejboifpepcaaGreatDoor
open Go.RowKit
set_option maxHeartbeats 800000 in
theorem l2Name_any (s : ByteArray) (w : World) (hs : s.size ≤ 9223372036854775807) :
  Calls Tryz.prog 70 #[.string s] w fun e w' => e = .returned (.bool (nameOk s)) ∧ w' = w := by
 by_cases hr : 1 ≤ s.size ∧ s.size ≤ 12
 ·have hin : inRange s.size 1 12 = true := inRange_yes (by omega) (by omega)
  have HR := Hid.mk hr
  obtain ⟨hr1, hr2⟩ := hr
  go_enter Tryz.func70, Tryz.ntmps70
  go_wp2_with (go_at_call 59; refine (l1In_any _ _ _ _).mono ?_; rintro e w' ⟨rfl, rfl⟩)
  go_loop [3] (fun i => ∃ k : Nat, k ≤ s.size ∧ i = .int .i64 k ∧ ∀ j, (hj : j < (byteInts s).length) → j < k → nameByte (byteInts s)[j] = true) (fun i => s.size - (intOf i).toNat)
  case atStart => exact ⟨0, Nat.zero_le _, rfl, fun j _ hj => by omega⟩
  case round =>
   obtain ⟨k, hk, rfl, hno⟩ := hrel
   have HNo := Hid.mk hno
   clear hno
   by_cases hlt : k < s.size
   ·have hcl : k < (byteInts s).length := by rw [byteInts_length]; exact hlt
    have hc : ∃ c : Int, wrap64 (s[k].toNat : Int) = c ∧ (byteInts s)[k] = c := by
     refine ⟨_, rfl, ?_⟩
     have h1 : (byteInts s)[k] = (s[k].toNat : Int) := by simp [byteInts]; rfl
     have h2 : s[k].toNat < 256 := s[k].toNat_lt
     rw [h1]
     unfold wrap64
     omega
    obtain ⟨c, hc, hcb⟩ := hc
    have HCB := Hid.mk hcb
    have HNX : Hid (nameByte c = true → ∀ j, (hj : j < (byteInts s).length) → j < k + 1 → nameByte (byteInts s)[j] = true) := fun hb j hj hjk => by
     by_cases hjk' : j = k
     ·subst hjk'; rw [hcb]; exact hb
     ·exact HNo.out j hj (by omega)
    have HBX : Hid (nameByte c = false → nameOk s = false) := fun hb => nameOk_bad hcl (by rw [hcb]; exact hb)
    clear hcb HNo
    by_cases h1 : 97 ≤ c ∧ c ≤ 122
    ·have e1 : inRange c 97 122 = true := inRange_yes h1.1 h1.2
     have HB : Hid (nameByte c = true) := decide_eq_true (by omega)
     clear h1
     go_wp2_with (go_at_call 59; refine (l1In_any _ _ _ _).mono ?_; rintro e w' ⟨rfl, rfl⟩)
     go_round
     case rel => exact ⟨k + 1, by omega, by go_num, HNX.out HB.out⟩
     case measure => simp [intOf]; omega
    ·have e1 : inRange c 97 122 = false := inRange_no h1
     by_cases h2 : 48 ≤ c ∧ c ≤ 57
     ·have e2 : inRange c 48 57 = true := inRange_yes h2.1 h2.2
      have HB : Hid (nameByte c = true) := decide_eq_true (by omega)
      clear h1 h2
      go_wp2_with (go_at_call 59; refine (l1In_any _ _ _ _).mono ?_; rintro e w' ⟨rfl, rfl⟩)
      go_round
      case rel => exact ⟨k + 1, by omega, by go_num, HNX.out HB.out⟩
      case measure => simp [intOf]; omega
     ·have e2 : inRange c 48 57 = false := inRange_no h2
      by_cases h3 : c = 45
      ·have HB : Hid (nameByte c = true) := decide_eq_true (by omega)
       have e3 : (c != 45) = false := by simp [h3]
       clear h1 h2 h3
       go_wp2_with (go_at_call 59; refine (l1In_any _ _ _ _).mono ?_; rintro e w' ⟨rfl, rfl⟩)
       go_round
       case rel => exact ⟨k + 1, by omega, by go_num, HNX.out HB.out⟩
       case measure => simp [intOf]; omega
      ·have e3 : (c != 45) = true := by simp [h3]
       by_cases h4 : c = 46
       ·have HB : Hid (nameByte c = true) := decide_eq_true (by omega)
        have e4 : (c != 46) = false := by simp [h4]
        clear h1 h2 h3 h4
        go_wp2_with (go_at_call 59; refine (l1In_any _ _ _ _).mono ?_; rintro e w' ⟨rfl, rfl⟩)
        go_round
        case rel => exact ⟨k + 1, by omega, by go_num, HNX.out HB.out⟩
        case measure => simp [intOf]; omega
       ·have e4 : (c != 46) = true := by simp [h4]
        have HB : Hid (nameByte c = false) := decide_eq_false (by omega)
        clear h1 h2 h3 h4
        go_wp2_with (go_at_call 59; refine (l1In_any _ _ _ _).mono ?_; rintro e w' ⟨rfl, rfl⟩)
        go_ret
        exact ⟨by rw [HBX.out HB.out]; rfl, rfl⟩
   ·have HV := Hid.mk (nameOk_good HR.out (fun j hj => HNo.out j hj (by have := byteInts_length s; omega)))
    go_wp2_with fail
    go_ret
    exact ⟨by rw [HV.out]; rfl, rfl⟩
 ·have hin : inRange s.size 1 12 = false := inRange_no (by omega)
  have HV := Hid.mk (nameOk_long hr)
  go_enter Tryz.func70, Tryz.ntmps70
  go_wp2_with (go_at_call 59; refine (l1In_any _ _ _ _).mono ?_; rintro e w' ⟨rfl, rfl⟩)
  go_ret
  exact ⟨by rw [HV.out]; rfl, rfl⟩
set_option maxHeartbeats 400000 in
theorem l2Named_any (a : Option Addr) (n cap : Nat) (l : List MEntry) (id : Int) (w : World) (B : Nat) (hx : l.length = n) (hlen : n ≤ 1099511627776) (hr : RdS 2 rEntry B w a l) :
  Calls Tryz.prog 61 #[.slice a n cap, .int .i64 id] w fun e w' => e = .returned (.bool (named l id)) ∧ w' = w := by
 have HX := Hid.mk hx
 clear hx
 go_enter Tryz.func61, Tryz.ntmps61
 go_wp2
 go_loop [5] (fun i => ∃ k : Nat, k ≤ n ∧ i = .int .i64 k ∧ ∀ j, (hj : j < l.length) → j < k → l[j].fId ≠ id) (fun i => n - (intOf i).toNat)
 case atStart => exact ⟨0, Nat.zero_le _, rfl, fun j _ hj => by omega⟩
 case round =>
  obtain ⟨k, hk, rfl, hno⟩ := hrel
  have HNo := Hid.mk hno
  clear hno
  by_cases hlt : k < n
  ·have hkl : k < l.length := by rw [HX.out]; exact hlt
   obtain ⟨b1, o1, rfl, _, cs, hcl, hcell, rfl, _⟩ := hr k hkl
   have k1 := hcell 1 _ rfl
   have HE := Hid.mk (rfl : l[k].fId = l[k].fId)
   by_cases he : l[k].fId = id
   ·have HV := Hid.mk (named_yes hkl he)
    have heb : (l[k].fId == id) = true := by simp [he]
    generalize l[k].fId = y at k1 heb
    clear hr hcell hcl he HE HNo
    go_wp2
    go_ret
    exact ⟨by rw [HV.out]; rfl, rfl⟩
   ·have heb : (l[k].fId == id) = false := by simp [he]
    have HNe := Hid.mk he
    clear he
    have HNo' : Hid (∀ j, (hj : j < l.length) → j < k + 1 → l[j].fId ≠ id) := fun j hj hjk => by
     by_cases hjk' : j = k
     ·subst hjk'; exact HNe.out
     ·exact HNo.out j hj (by omega)
    generalize l[k].fId = y at k1 heb
    clear hr hcell hcl HE HNo HNe
    go_wp2
    go_round
    case rel => exact ⟨k + 1, by omega, by go_num, HNo'.out⟩
    case measure => simp [intOf]; omega
  ·have HV := Hid.mk (named_no (l := l) (id := id) (fun j hj => HNo.out j hj (by have := HX.out; omega)))
   clear HNo
   go_wp2
   go_ret
   exact ⟨by rw [HV.out]; rfl, rfl⟩
set_option maxHeartbeats 400000 in
theorem l2Inode_any (cs : List Value) (m : MDisk) (id : Int) (w : World) (hr : rDisk w.heap.size w cs m) (hlen : m.fInodes.length ≤ 1099511627776) :
  Calls Tryz.prog 108 #[.agg cs.toArray, .int .i64 id] w fun e w' => e = .returned (.int .i64 (placeZ m.fInodes id)) ∧ Below w.heap.size w w' := by
 obtain ⟨a0, c0, a1, c1, a2, c2, rfl, hI, _, _, _, _⟩ := hr
 have hrs := hI.2.2
 clear hI
 generalize m.fInodes = l at *
 obtain ⟨n, hn⟩ : ∃ n, l.length = n := ⟨_, rfl⟩
 have HX := Hid.mk hn
 rw [hn] at hlen ⊢
 clear hn
 go_enter Tryz.func108, Tryz.ntmps108
 go_wp2
 go_loop [5] (fun i => ∃ k : Nat, k ≤ n ∧ i = .int .i64 k ∧ ∀ j, (hj : j < l.length) → j < k → l[j].fId ≠ id) (fun i => n - (intOf i).toNat)
 case atStart => exact ⟨0, Nat.zero_le _, rfl, fun j _ hj => by omega⟩
 case round =>
  obtain ⟨k, hk, rfl, hno⟩ := hrel
  have HNo := Hid.mk hno
  clear hno
  by_cases hlt : k < n
  ·have hkl : k < l.length := by rw [HX.out]; exact hlt
   obtain ⟨b1, o1, rfl, hB, cs, hcl, hcell, b1', c1', rfl, _⟩ := hrs k hkl
   have k0 := hcell 0 _ rfl
   rw [Nat.add_zero] at k0
   by_cases he : l[k].fId = id
   ·have HV := Hid.mk (placeZ_at hkl he HNo.out)
    have heb : (l[k].fId == id) = true := by simp [he]
    generalize l[k].fId = y at k0 heb
    clear hrs hcell hcl he HNo
    go_wp2
    go_ret
    exact ⟨by rw [HV.out]; rfl, (Below.refl _ _).alloc (Nat.le_refl _) _⟩
   ·have heb : (l[k].fId == id) = false := by simp [he]
    have HNe := Hid.mk he
    clear he
    have HNo' : Hid (∀ j, (hj : j < l.length) → j < k + 1 → l[j].fId ≠ id) := fun j hj hjk => by
     by_cases hjk' : j = k
     ·subst hjk'; exact HNe.out
     ·exact HNo.out j hj (by omega)
    generalize l[k].fId = y at k0 heb
    clear hrs hcell hcl HNo HNe
    go_wp2
    go_round
    case rel => exact ⟨k + 1, by omega, by go_num, HNo'.out⟩
    case measure => simp [intOf]; omega
  ·have HV := Hid.mk (placeZ_no (l := l) (id := id) (fun j hj => HNo.out j hj (by have := HX.out; omega)))
   clear HNo
   go_wp2
   go_ret
   exact ⟨by rw [HV.out]; rfl, (Below.refl _ _).alloc (Nat.le_refl _) _⟩
end Go.Proofs.YtddejboifpepcaaGreatDoor

namespace Go.Proofs.YtddejboifpepcaaGreatDoor
open Go.RowKit Go.Maps
abbrev q9a7_109_5_0 : Oper := ⟨some 13, .fieldAddr 34 (.tmp 1) 1, 0, "l02_files.go:118", #[], none⟩
abbrev q9a7_109_5_1 : Oper := ⟨some 14, .load 32 (.tmp 13), 32, "l02_files.go:118", #[⟨0, .data⟩], none⟩
abbrev q9a7_109_5_2 : Oper := ⟨some 15, .fieldAddr 34 (.tmp 1) 0, 0, "l02_files.go:118", #[], none⟩
abbrev q9a7_109_5_3 : Oper := ⟨some 16, .load 31 (.tmp 15), 31, "l02_files.go:118", #[⟨2, .data⟩], none⟩
abbrev q9a7_109_5_4 : Oper := ⟨some 17, .move (.tmp 4), 3, "l02_files.go:118", #[], none⟩
abbrev q9a7_109_5_5 : Oper := ⟨some 18, .indexAddr 31 (.tmp 16) (.tmp 17), 0, "l02_files.go:118", #[⟨3, .data⟩, ⟨4, .data⟩], none⟩
abbrev q9a7_109_5_6 : Oper := ⟨some 19, .fieldAddr 94 (.tmp 18) 0, 0, "l02_files.go:118", #[⟨5, .data⟩], none⟩
abbrev q9a7_109_5_7 : Oper := ⟨some 20, .load 3 (.tmp 19), 3, "l02_files.go:118", #[⟨6, .data⟩], none⟩
abbrev q9a7_109_5_8 : Oper := ⟨some 21, .call { callee := .value (.func 61), args := #[.tmp 14, .tmp 20], argTypes := #[32, 3] }, 4, "l02_files.go:118", #[⟨1, .data⟩, ⟨7, .data⟩], none⟩
abbrev q9a7_109_5_9 : Oper := ⟨some 22, .move (.tmp 21), 4, "l02_files.go:118", #[⟨8, .data⟩, ⟨8, .chain⟩], none⟩
abbrev q9a7_109_5_10 : Oper := ⟨some 23, .fieldAddr 34 (.tmp 1) 2, 0, "l02_files.go:118", #[⟨9, .guard⟩], some (9, false)⟩
abbrev q9a7_109_5_11 : Oper := ⟨some 24, .load 32 (.tmp 23), 32, "l02_files.go:118", #[⟨10, .data⟩, ⟨9, .guard⟩], some (9, false)⟩
abbrev q9a7_109_5_12 : Oper := ⟨some 25, .fieldAddr 34 (.tmp 1) 0, 0, "l02_files.go:118", #[⟨9, .guard⟩], some (9, false)⟩
abbrev q9a7_109_5_13 : Oper := ⟨some 26, .load 31 (.tmp 25), 31, "l02_files.go:118", #[⟨12, .data⟩, ⟨9, .guard⟩], some (9, false)⟩
abbrev q9a7_109_5_14 : Oper := ⟨some 27, .move (.tmp 4), 3, "l02_files.go:118", #[⟨9, .guard⟩], some (9, false)⟩
abbrev q9a7_109_5_15 : Oper := ⟨some 28, .indexAddr 31 (.tmp 26) (.tmp 27), 0, "l02_files.go:118", #[⟨13, .data⟩, ⟨14, .data⟩, ⟨9, .guard⟩], some (9, false)⟩
abbrev q9a7_109_5_16 : Oper := ⟨some 29, .fieldAddr 94 (.tmp 28) 0, 0, "l02_files.go:118", #[⟨15, .data⟩, ⟨9, .guard⟩], some (9, false)⟩
abbrev q9a7_109_5_17 : Oper := ⟨some 30, .load 3 (.tmp 29), 3, "l02_files.go:118", #[⟨16, .data⟩, ⟨9, .guard⟩], some (9, false)⟩
abbrev q9a7_109_5_18 : Oper := ⟨some 31, .call { callee := .value (.func 61), args := #[.tmp 24, .tmp 30], argTypes := #[32, 3] }, 4, "l02_files.go:118", #[⟨11, .data⟩, ⟨17, .data⟩, ⟨9, .chain⟩, ⟨9, .guard⟩], some (9, false)⟩
abbrev q9a7_109_5_19 : Oper := ⟨some 32, .pick (.tmp 22) (.const (.bool true)) (.tmp 31), 4, "l02_files.go:118", #[⟨9, .data⟩, ⟨18, .data⟩], none⟩
def repO (F0 : List Nat) : Rep MInode := fun B w cs m => ∃ Fk, oInode w cs m Fk ∧ ∀ b, b ∈ Fk → b ∈ F0 ∧ b < B
theorem repO_good (F0 : List Nat) : (repO F0).Good :=
 ⟨fun ⟨Fk, h1, h2⟩ hb => ⟨Fk, oInode_good.frame h1 (fun b hbF => hb.block b (h2 b hbF).2), h2⟩, fun ⟨Fk, h1, h2⟩ hB => ⟨Fk, h1, fun b hb => ⟨(h2 b hb).1, Nat.lt_of_lt_of_le (h2 b hb).2 hB⟩⟩⟩
theorem repO_read (F0 : List Nat) : ∀ B w cs m, repO F0 B w cs m → rInode B w cs m := by
 rintro B w cs m ⟨Fk, ⟨v1, F1, rfl, h0, h1, h2, rfl⟩, hF⟩
 obtain ⟨h3, h4, rfl⟩ := h1
 rcases h3.2 with ⟨rfl, h'⟩ | ⟨g, cap, cur, rfl, hb, hg, hnc, hm, _⟩
 ·exact ⟨none, 0, by rw [h'], h0, ⟨by omega, by omega, fun j hj => by omega, h4⟩, h2, trivial⟩
 ·have hgB := (hF g (by simp [Value.ownBlock])).2
  refine ⟨_, cap, rfl, h0, ⟨hnc, by simpa [maxLen] using hm, fun j hj => ?_, h4⟩, h2, trivial⟩
  obtain ⟨b, off, e, _, hc⟩ := Rd.own rfl h3 j hj
  simp only [Option.some.injEq, Addr.mk.injEq, and_true] at e
  obtain ⟨rfl, rfl⟩ := e
  exact ⟨g, 0, rfl, hgB, hc⟩
theorem ownS.leafO {e : TypeId} {w : World} {a : Option Addr} {c : Nat} {l : List MInode} {F : List Nat} (h : ownS 3 e oInode w (.slice a l.length c) l F) : LeafL 3 (repO F) w.heap.size w a c l := by
 rcases h with ⟨h1, rfl, _⟩ | ⟨g, cap, cur, Fs, h1, h2, h3, h4, h5, h6, h7, rfl⟩
 ·simp only [List.length_nil, Value.slice.injEq, true_and] at h1
  obtain ⟨rfl, rfl⟩ := h1
  exact ⟨by simp, by omega, fun j hj => by simp at hj⟩
 ·simp only [Value.slice.injEq, true_and] at h1
  obtain ⟨rfl, rfl⟩ := h1
  refine ⟨h3, by simpa [maxLen] using h4, fun j hj => ⟨g, 0, rfl, (Array.getElem?_eq_some_iff.1 h2).1, _, oInode_good.len (h7 j hj), ?_, _, h7 j hj, fun b hb => ⟨List.mem_cons_of_mem _ (mem_flatten_getD (by omega) hb), oInode_good.lt (h7 j hj) b hb⟩⟩⟩
  intro i u hu
  rw [Nat.zero_add, cell_of_row w g _ cur e (0, 0) h2]
  rw [List.getElem?_take] at hu
  split at hu
  ·rw [List.getElem?_drop] at hu
   simpa using hu
  ·cases hu
theorem pickF {F0 : List Nat} {B : Nat} {w : World} : ∀ {l : List MInode} {css : List (List Value)}, css.length = l.length → (∀ j, (h : j < l.length) → (h2 : j < css.length) → repO F0 B w css[j] l[j]) →
  ∃ Fs : List (List Nat), Fs.length = l.length ∧ (∀ j, (h : j < l.length) → (h2 : j < css.length) → oInode w css[j] l[j] (Fs.getD j [])) ∧ ∀ b, b ∈ Fs.flatten → b ∈ F0 ∧ b < B
 | [], [], _, _ => ⟨[], rfl, fun j h => by simp at h, fun b hb => by simp at hb⟩
 | m :: l, c :: css, hl, h => by
  obtain ⟨Fs, f1, f2, f3⟩ := pickF (l := l) (css := css) (by simpa using hl) (fun j h1 h2 => h (j + 1) (by simpa using h1) (by simpa using h2))
  obtain ⟨Fk, g1, g2⟩ := h 0 (by simp) (by simp)
  refine ⟨Fk :: Fs, by simp [f1], fun j h1 h2 => ?_, fun b hb => ?_⟩
  ·cases j with
   | zero => exact g1
   | succ j => exact f2 j (by simpa using h1) (by simpa using h2)
  ·rw [List.flatten_cons, List.mem_append] at hb
   rcases hb with hb | hb
   ·exact g2 b hb
   ·exact f3 b hb
 | [], _ :: _, hl, _ => by simp at hl
 | _ :: _, [], hl, _ => by simp at hl
theorem RowR.own {F0 : List Nat} {B base : Nat} {e : TypeId} {w : World} {v : Value} {l : List MInode} (h : RowR 3 e (repO F0) B w base v l) : ∃ F', ownS 3 e oInode w v l F' ∧ ∀ b, b ∈ F' → b ∈ F0 ∨ base ≤ b := by
 obtain ⟨css, r1, r2, r3, r4⟩ := h
 obtain ⟨Fs, f1, f2, f3⟩ := pickF r1 r3
 rcases r4.2 with ⟨rfl, h0⟩ | ⟨g, cap, cur, rfl, hb, hg, hnc, hm, hs, ht⟩
 ·exact ⟨[], .inl ⟨rfl, List.eq_nil_of_length_eq_zero h0, rfl⟩, fun b hb => by cases hb⟩
 ·refine ⟨g :: Fs.flatten, .inr ⟨g, cap, cur, Fs, rfl, hg, hnc, hm, hs, f1, fun j hj => ?_, rfl⟩, fun b hbF => ?_⟩
  ·have hj2 : j < css.length := by omega
   have hmul : (j + 1) * 3 ≤ l.length * 3 := Nat.mul_le_mul_right _ hj
   have e0 : (cur.toList.drop (j * 3)).take 3 = css[j] := by
    rw [← flat_part r2 hj2, ← ht]
    apply List.ext_getElem?
    intro i
    rw [List.getElem?_take, List.getElem?_take, List.getElem?_drop, List.getElem?_drop, List.getElem?_take]
    by_cases hi : i < 3
    ·rw [if_pos hi, if_pos hi, if_pos (by omega)]
    ·rw [if_neg hi, if_neg hi]
   rw [e0]
   exact f2 j hj hj2
  ·rcases List.mem_cons.1 hbF with rfl | hbF
   ·exact .inr hb
   ·exact .inl (f3 b hbF).1
theorem RowR.turn {α : Type} {size : Nat} {e : TypeId} {R : Rep α} (hR : R.Good) {F : List Nat} {B : Nat} {w w' : World} {base base' : Nat} {v : Value} {l : List α} (h : RowR size e R B w base v l) (hT : Turn F w w') (hF : ∀ k, k ∈ F → B ≤ k ∧ k < base) (hB : B ≤ w.heap.size) (hb : base' ≤ base) : RowR size e R B w' base' v l := by
 obtain ⟨css, r1, r2, r3, r4⟩ := h
 exact ⟨css, r1, r2, fun j h1 h2 => hR.below (r3 j h1 h2) (hT.below (fun k hk => (hF k hk).1) hB), own_base (own_of_block r4 (fun k hk => hT.block k (r4.lt k hk).2 (fun hm => by have := (r4.lt k hk).1; have := (hF k hm).2; omega))) hb⟩
set_option maxHeartbeats 4000000 in
theorem l2Keep_any (R : Rep MInode) (hR : R.Good) (hRI : ∀ B w cs m, R B w cs m → rInode B w cs m) (a0 a1 a2 : Option Addr) (c0 c1 c2 : Nat) (m : MDisk) (w : World) (B : Nat) (hBB : B ≤ w.heap.size) (hI : LeafL 3 R B w a0 c0 m.fInodes) (hNm : LeafL 2 rEntry w.heap.size w a1 c1 m.fNames) (hSf : LeafL 2 rEntry w.heap.size w a2 c2 m.fSafe) (hw : m.fInodes.length ≤ 1048576 ∧ m.fNames.length ≤ 1048576 ∧ m.fSafe.length ≤ 1048576) :
  Calls Tryz.prog 109 #[.agg #[.slice a0 m.fInodes.length c0, .slice a1 m.fNames.length c1, .slice a2 m.fSafe.length c2, .int .i64 m.fNext]] w fun e w' => ∃ (a : Option Addr) (c : Nat), e = .returned (.agg #[.slice a (keepI m).length c, .slice a1 m.fNames.length c1, .slice a2 m.fSafe.length c2, .int .i64 m.fNext]) ∧ RowR 3 94 R B w' w.heap.size (.slice a (keepI m).length c) (keepI m) ∧ Below w.heap.size w w' := by
 obtain ⟨hw0, hw1, hw2⟩ := hw
 obtain ⟨i0, hi, hz0, hz1, hz2⟩ := info_parts Tryz.infoOfInode
 have HI := Hid.mk hI.2.2
 have HN := Hid.mk hNm.2.2
 have HS := Hid.mk hSf.2.2
 clear hI hNm hSf
 go_enter Tryz.func109, Tryz.ntmps109
 go_wp2_with fail
 go_loopw [3, 4] (fun v i wr => ∃ k : Nat, k ≤ m.fInodes.length ∧ i = .int .i64 k ∧ RowR 3 94 R B wr (w.heap.size + 2) v ((m.fInodes.take k).filter (isNamed m)) ∧ Below w.heap.size w wr ∧ Bw wr w.heap.size 34 [.slice a0 m.fInodes.length c0, .slice a1 m.fNames.length c1, .slice a2 m.fSafe.length c2, .int .i64 m.fNext] ∧ Bw wr (w.heap.size + 1) 34 [.slice none 0 0, .slice none 0 0, .slice none 0 0, .int .i64 0]) (fun _ i _ => m.fInodes.length - (intOf i).toNat)
 case atStart =>
  refine ⟨0, Nat.zero_le _, rfl, ⟨[], rfl, (fun _ h => by cases h), (fun _ h => by simp at h), ?_⟩, Below.alloc (Below.alloc (Below.alloc (Below.refl _ _) (Nat.le_refl _) _) (by simp) _) (by simp; omega) _, Bw.alloc (Bw.alloc (Bw.new _ _ _) _) _, Bw.alloc (Bw.new' _ _ _ (by simp)) _⟩
  have h := own_lit0 ((w.alloc (.cells #[.slice a0 m.fInodes.length c0, .slice a1 m.fNames.length c1, .slice a2 m.fSafe.length c2, .int .i64 m.fNext] 34)).alloc (.cells #[.slice none 0 0, .slice none 0 0, .slice none 0 0, .int .i64 0] 34)) (w.heap.size + 2) 94 3 (by simp)
  simpa using h
 case round =>
  obtain ⟨k, hk, rfl, hrow, hbk, hbd, hbr⟩ := hrel
  have HRow := Hid.mk hrow
  have x0 := hbd.cell 0 _ rfl
  have hlx := hbd.lt
  have hly := hbr.lt
  have HBD := Hid.mk hbd
  have HBR := Hid.mk hbr
  clear hrow hbd hbr
  by_cases hlt : k < m.fInodes.length
  ·obtain ⟨b1, o1, rfl, hB, cs, hcl, hcell, hrI⟩ := (HI.out.below hR (hbk.mono hBB)) k hlt
   have HYes := Hid.mk (fun h => filter_snoc_yes (p := isNamed m) hlt h)
   have HNo := Hid.mk (fun h => filter_snoc_no (p := isNamed m) hlt h)
   have HNI : Hid (isNamed m m.fInodes[k] = (named m.fNames m.fInodes[k].fId || named m.fSafe m.fInodes[k].fId)) := rfl
   have hfl : ((m.fInodes.take k).filter (isNamed m)).length ≤ 1048576 := Nat.le_trans (List.length_filter_le _ _) (by simp; omega)
   obtain ⟨n, hn⟩ : ∃ n, m.fInodes[k] = n := ⟨_, rfl⟩
   rw [hn] at HYes HNo HNI hrI
   clear hn
   have hrI2 := hrI
   obtain ⟨ad, cd, rfl, hid, hda, hsu, _⟩ := hRI _ _ _ _ hrI
   have k0 := hcell 0 _ rfl
   have k1 := hcell 1 _ rfl
   have k2 := hcell 2 _ rfl
   rw [Nat.add_zero] at k0
   have HRI := Hid.mk hrI2
   have p0 : ∀ W, Below wr.heap.size wr W → W.cell? ⟨w.heap.size, 0, none⟩ = some (.slice (some ⟨b1, o1, none⟩) m.fInodes.length c0) := fun W hb => (HBD.out.under hb).cell 0 _ rfl
   have p1 : ∀ W, Below wr.heap.size wr W → W.cell? ⟨w.heap.size, 1, none⟩ = some (.slice a1 m.fNames.length c1) := fun W hb => (HBD.out.under hb).cell 1 _ rfl
   have p2 : ∀ W, Below wr.heap.size wr W → W.cell? ⟨w.heap.size, 2, none⟩ = some (.slice a2 m.fSafe.length c2) := fun W hb => (HBD.out.under hb).cell 2 _ rfl
   have hbz0 := hbk.size
   have hbz := Nat.le_trans hBB hbz0
   have q0 : ∀ W, Below wr.heap.size wr W → W.cell? ⟨b1, o1 + k * 3, none⟩ = some (.int .i64 n.fId) := fun W hb => (hb.cell (p := ⟨b1, o1 + k * 3, none⟩) (Nat.lt_of_lt_of_le hB hbz)).trans k0
   have hC1 := fun W (hb : Below wr.heap.size wr W) => l2Named_any a1 _ c1 m.fNames n.fId W w.heap.size rfl (by omega) (HN.out.below rEntry_good (bthen hbk hb))
   have hC2 := fun W (hb : Below wr.heap.size wr W) => l2Named_any a2 _ c2 m.fSafe n.fId W w.heap.size rfl (by omega) (HS.out.below rEntry_good (bthen hbk hb))
   clear hcell hcl hrI2
   by_cases hY : isNamed m n = true
   ·have HF := Hid.mk (HYes.out hY)
    have HY := Hid.mk hY
    clear HYes HNo hY
    by_cases hA : named m.fNames n.fId = true
    ·rw [hA] at hC1
     go_wp2_with fail
     refine wp_region_held_drew (S := fun W => Below wr.heap.size wr W) (by kernel_rfl) (Below.drew (Below.refl _ _)) (fun hHeld => ?_)
     refine uq 0 q9a7_109_5_0 13 hHeld ?_
     refine uq 1 q9a7_109_5_1 14 hHeld ?_
     refine uq 2 q9a7_109_5_2 15 hHeld ?_
     refine uq 3 q9a7_109_5_3 16 hHeld ?_
     refine uq 4 q9a7_109_5_4 17 hHeld ?_
     refine uq 5 q9a7_109_5_5 18 hHeld ?_
     refine uq 6 q9a7_109_5_6 19 hHeld ?_
     refine uq 7 q9a7_109_5_7 20 hHeld ?_
     refine ar1 8 q9a7_109_5_8 fun K hK => ?_
     go_simp
     refine Calls.mono (hC1 _ hHeld) ?_
     rintro e wy1 ⟨rfl, hw1⟩
     have hy1 := below_same hw1
     clear hw1
     go_wp2_with fail
     refine hK.out _ _ (bthen hHeld hy1) (fun hHeld => ?_)
     clear hK K
     try simp only[Act.put,sa,s0,s1]
     refine uq 9 q9a7_109_5_9 22 hHeld ?_
     refine um 10 q9a7_109_5_10 23 hHeld ?_
     refine um 11 q9a7_109_5_11 24 hHeld ?_
     refine um 12 q9a7_109_5_12 25 hHeld ?_
     refine um 13 q9a7_109_5_13 26 hHeld ?_
     refine um 14 q9a7_109_5_14 27 hHeld ?_
     refine um 15 q9a7_109_5_15 28 hHeld ?_
     refine um 16 q9a7_109_5_16 29 hHeld ?_
     refine um 17 q9a7_109_5_17 30 hHeld ?_
     refine um 18 q9a7_109_5_18 31 hHeld ?_
     refine uq 19 q9a7_109_5_19 32 hHeld ?_
     refine wpAnyH_done (by kernel_rfl) ?_ _
     obtain ⟨wa, hwa⟩ : ∃ wa, wa = wy1 := ⟨_, rfl⟩
     rw [← hwa] at hHeld ⊢
     have hbA := bthen hbk hHeld
     have x0a := (HBD.out.under hHeld).cell 0 _ rfl
     have hza := hHeld.size
     have k0a := (hHeld.cell (p := ⟨b1, o1 + k * 3, none⟩) (Nat.lt_of_lt_of_le hB hbz)).trans k0
     have k1a := (hHeld.cell (p := ⟨b1, o1 + k * 3 + 1, none⟩) (Nat.lt_of_lt_of_le hB hbz)).trans k1
     have k2a := (hHeld.cell (p := ⟨b1, o1 + k * 3 + 2, none⟩) (Nat.lt_of_lt_of_le hB hbz)).trans k2
     have hra := RowR.keep hR HRow.out hHeld hbz
     have HRIa := Hid.mk (hR.below HRI.out (hHeld.mono hbz))
     have HBDa := Hid.mk (HBD.out.under hHeld)
     have HBRa := Hid.mk (HBR.out.under hHeld)
     have HBA := Hid.mk hbA
     have HHa := Hid.mk hHeld
     have hbsa := hbA.size
     have hB1a : b1 < wa.heap.size := by omega
     have hlxa := HBDa.out.lt
     have hlya := HBRa.out.lt
     obtain ⟨fl, hflq⟩ : ∃ fl, fl = (m.fInodes.take k).filter (isNamed m) := ⟨_, rfl⟩
     rw [← hflq] at hra HF hfl
     obtain ⟨css, r1, r2, r3, r4⟩ := hra
     clear hwa p0 p1 p2 q0 hC1 hC2 k0 k1 k2 hHeld HNI hflq HRow
     go_wp2_with (at_builtin; refine wpList_append_own_at _ rfl _ _ 31 rfl (w.heap.size + 2) 94 i0 (.agg #[.int .i64 0, .slice none 0 0, .int .i64 0]) 3 40 Tryz.underlying31 hi hz0 hz1 hz2 rfl (by decide) _ _ _ rfl (own_below r4 ((Below.refl _ _).alloc (Nat.le_refl _) _)) ⟨wa.heap.size, 0, none⟩ 1 1 [.int .i64 n.fId, .slice ad n.fData.length cd, .int .i64 n.fSure] rfl rfl (bx_news (Bx.new wa _ _)) (by intro u hu; simp at hu; rcases hu with rfl | rfl | rfl <;> rfl) (by unfold maxLen; omega) (by omega) (by simp; omega) ?_; intro v' w3 hown3 hgrow3 hnil hloc)
     have hT := Turn.after ((Below.refl wa.heap.size wa).alloc (Nat.le_refl _) _) (turnOwn hgrow3)
     have hge : ∀ k, k ∈ (Value.ownBlock _).toList → w.heap.size + 2 ≤ k := fun k hk => (r4.lt k (by simpa using hk)).1
     have hBl : Below w.heap.size wa w3 := Turn.below hT (fun k hk => by have := hge k hk; omega) hbsa
     go_roundw
     case rel => exact ⟨k + 1, by omega, by go_num, by rw [HF.out]; exact RowR.push hR r1 r2 r3 (hBl.mono hBB) rfl (hR.below HRIa.out (hBl.mono hBB)) hown3, hbA.trans hBl, HBDa.out.turn hT (fun h => by have := hge _ h; omega), HBRa.out.turn hT (fun h => by have := hge _ h; omega)⟩
     case measure => simp [intOf]; omega
    ·have hA2 : named m.fNames n.fId = false := Bool.eq_false_iff.2 hA
     have hS2 : named m.fSafe n.fId = true := by have h := HNI.out; rw [HY.out, hA2, Bool.false_or] at h; exact h.symm
     rw [hA2] at hC1
     rw [hS2] at hC2
     go_wp2_with fail
     refine wp_region_held_drew (S := fun W => Below wr.heap.size wr W) (by kernel_rfl) (Below.drew (Below.refl _ _)) (fun hHeld => ?_)
     refine uq 0 q9a7_109_5_0 13 hHeld ?_
     refine uq 1 q9a7_109_5_1 14 hHeld ?_
     refine uq 2 q9a7_109_5_2 15 hHeld ?_
     refine uq 3 q9a7_109_5_3 16 hHeld ?_
     refine uq 4 q9a7_109_5_4 17 hHeld ?_
     refine uq 5 q9a7_109_5_5 18 hHeld ?_
     refine uq 6 q9a7_109_5_6 19 hHeld ?_
     refine uq 7 q9a7_109_5_7 20 hHeld ?_
     refine ar1 8 q9a7_109_5_8 fun K hK => ?_
     go_simp
     refine Calls.mono (hC1 _ hHeld) ?_
     rintro e wy1 ⟨rfl, hw1⟩
     have hy1 := below_same hw1
     clear hw1
     go_wp2_with fail
     refine hK.out _ _ (bthen hHeld hy1) (fun hHeld => ?_)
     clear hK K
     try simp only[Act.put,sa,s0,s1]
     refine uq 9 q9a7_109_5_9 22 hHeld ?_
     refine uq 10 q9a7_109_5_10 23 hHeld ?_
     refine uq 11 q9a7_109_5_11 24 hHeld ?_
     refine uq 12 q9a7_109_5_12 25 hHeld ?_
     refine uq 13 q9a7_109_5_13 26 hHeld ?_
     refine uq 14 q9a7_109_5_14 27 hHeld ?_
     refine uq 15 q9a7_109_5_15 28 hHeld ?_
     refine uq 16 q9a7_109_5_16 29 hHeld ?_
     refine uq 17 q9a7_109_5_17 30 hHeld ?_
     refine ar1 18 q9a7_109_5_18 fun K hK => ?_
     go_simp
     refine Calls.mono (hC2 _ hHeld) ?_
     rintro e wy2 ⟨rfl, hw2⟩
     have hy2 := below_same hw2
     clear hw2
     go_wp2_with fail
     refine hK.out _ _ (bthen hHeld hy2) (fun hHeld => ?_)
     clear hK K
     try simp only[Act.put,sa,s0,s1]
     refine uq 19 q9a7_109_5_19 32 hHeld ?_
     refine wpAnyH_done (by kernel_rfl) ?_ _
     obtain ⟨wa, hwa⟩ : ∃ wa, wa = wy2 := ⟨_, rfl⟩
     rw [← hwa] at hHeld ⊢
     have hbA := bthen hbk hHeld
     have x0a := (HBD.out.under hHeld).cell 0 _ rfl
     have hza := hHeld.size
     have k0a := (hHeld.cell (p := ⟨b1, o1 + k * 3, none⟩) (Nat.lt_of_lt_of_le hB hbz)).trans k0
     have k1a := (hHeld.cell (p := ⟨b1, o1 + k * 3 + 1, none⟩) (Nat.lt_of_lt_of_le hB hbz)).trans k1
     have k2a := (hHeld.cell (p := ⟨b1, o1 + k * 3 + 2, none⟩) (Nat.lt_of_lt_of_le hB hbz)).trans k2
     have hra := RowR.keep hR HRow.out hHeld hbz
     have HRIa := Hid.mk (hR.below HRI.out (hHeld.mono hbz))
     have HBDa := Hid.mk (HBD.out.under hHeld)
     have HBRa := Hid.mk (HBR.out.under hHeld)
     have HBA := Hid.mk hbA
     have HHa := Hid.mk hHeld
     have hbsa := hbA.size
     have hB1a : b1 < wa.heap.size := by omega
     have hlxa := HBDa.out.lt
     have hlya := HBRa.out.lt
     obtain ⟨fl, hflq⟩ : ∃ fl, fl = (m.fInodes.take k).filter (isNamed m) := ⟨_, rfl⟩
     rw [← hflq] at hra HF hfl
     obtain ⟨css, r1, r2, r3, r4⟩ := hra
     clear hwa p0 p1 p2 q0 hC1 hC2 k0 k1 k2 hHeld HNI hflq HRow
     go_wp2_with (at_builtin; refine wpList_append_own_at _ rfl _ _ 31 rfl (w.heap.size + 2) 94 i0 (.agg #[.int .i64 0, .slice none 0 0, .int .i64 0]) 3 40 Tryz.underlying31 hi hz0 hz1 hz2 rfl (by decide) _ _ _ rfl (own_below r4 ((Below.refl _ _).alloc (Nat.le_refl _) _)) ⟨wa.heap.size, 0, none⟩ 1 1 [.int .i64 n.fId, .slice ad n.fData.length cd, .int .i64 n.fSure] rfl rfl (bx_news (Bx.new wa _ _)) (by intro u hu; simp at hu; rcases hu with rfl | rfl | rfl <;> rfl) (by unfold maxLen; omega) (by omega) (by simp; omega) ?_; intro v' w3 hown3 hgrow3 hnil hloc)
     have hT := Turn.after ((Below.refl wa.heap.size wa).alloc (Nat.le_refl _) _) (turnOwn hgrow3)
     have hge : ∀ k, k ∈ (Value.ownBlock _).toList → w.heap.size + 2 ≤ k := fun k hk => (r4.lt k (by simpa using hk)).1
     have hBl : Below w.heap.size wa w3 := Turn.below hT (fun k hk => by have := hge k hk; omega) hbsa
     go_roundw
     case rel => exact ⟨k + 1, by omega, by go_num, by rw [HF.out]; exact RowR.push hR r1 r2 r3 (hBl.mono hBB) rfl (hR.below HRIa.out (hBl.mono hBB)) hown3, hbA.trans hBl, HBDa.out.turn hT (fun h => by have := hge _ h; omega), HBRa.out.turn hT (fun h => by have := hge _ h; omega)⟩
     case measure => simp [intOf]; omega
   ·have hY2 : isNamed m n = false := Bool.eq_false_iff.2 hY
    have HF := Hid.mk (HNo.out hY2)
    have hb3 := HNI.out
    rw [hY2] at hb3
    have hA2 : named m.fNames n.fId = false := (Bool.or_eq_false_iff.1 hb3.symm).1
    have hS2 : named m.fSafe n.fId = false := (Bool.or_eq_false_iff.1 hb3.symm).2
    rw [hA2] at hC1
    rw [hS2] at hC2
    clear HYes HNo hY hY2 hb3 HNI
    go_wp2_with fail
    refine wp_region_held_drew (S := fun W => Below wr.heap.size wr W) (by kernel_rfl) (Below.drew (Below.refl _ _)) (fun hHeld => ?_)
    refine uq 0 q9a7_109_5_0 13 hHeld ?_
    refine uq 1 q9a7_109_5_1 14 hHeld ?_
    refine uq 2 q9a7_109_5_2 15 hHeld ?_
    refine uq 3 q9a7_109_5_3 16 hHeld ?_
    refine uq 4 q9a7_109_5_4 17 hHeld ?_
    refine uq 5 q9a7_109_5_5 18 hHeld ?_
    refine uq 6 q9a7_109_5_6 19 hHeld ?_
    refine uq 7 q9a7_109_5_7 20 hHeld ?_
    refine ar1 8 q9a7_109_5_8 fun K hK => ?_
    go_simp
    refine Calls.mono (hC1 _ hHeld) ?_
    rintro e wy1 ⟨rfl, hw1⟩
    have hy1 := below_same hw1
    clear hw1
    go_wp2_with fail
    refine hK.out _ _ (bthen hHeld hy1) (fun hHeld => ?_)
    clear hK K
    try simp only[Act.put,sa,s0,s1]
    refine uq 9 q9a7_109_5_9 22 hHeld ?_
    refine uq 10 q9a7_109_5_10 23 hHeld ?_
    refine uq 11 q9a7_109_5_11 24 hHeld ?_
    refine uq 12 q9a7_109_5_12 25 hHeld ?_
    refine uq 13 q9a7_109_5_13 26 hHeld ?_
    refine uq 14 q9a7_109_5_14 27 hHeld ?_
    refine uq 15 q9a7_109_5_15 28 hHeld ?_
    refine uq 16 q9a7_109_5_16 29 hHeld ?_
    refine uq 17 q9a7_109_5_17 30 hHeld ?_
    refine ar1 18 q9a7_109_5_18 fun K hK => ?_
    go_simp
    refine Calls.mono (hC2 _ hHeld) ?_
    rintro e wy2 ⟨rfl, hw2⟩
    have hy2 := below_same hw2
    clear hw2
    go_wp2_with fail
    refine hK.out _ _ (bthen hHeld hy2) (fun hHeld => ?_)
    clear hK K
    try simp only[Act.put,sa,s0,s1]
    refine uq 19 q9a7_109_5_19 32 hHeld ?_
    refine wpAnyH_done (by kernel_rfl) ?_ _
    obtain ⟨wa, hwa⟩ : ∃ wa, wa = wy2 := ⟨_, rfl⟩
    rw [← hwa] at hHeld ⊢
    have hbA := bthen hbk hHeld
    clear hwa p0 p1 p2 q0 hC1 hC2 k0 k1 k2
    go_wp2_with fail
    go_roundw
    case rel => exact ⟨k + 1, by omega, by go_num, by rw [HF.out]; exact RowR.keep hR HRow.out hHeld hbz, hbA, HBD.out.under hHeld, HBR.out.under hHeld⟩
    case measure => simp [intOf]; omega
  ·have hkn : k = m.fInodes.length := by omega
   subst hkn
   have hrow := HRow.out
   rw [List.take_length] at hrow
   obtain ⟨ar, cr, hv, hlf⟩ := hrow.leaf hR (Nat.le_trans hBB hbk.size)
   subst hv
   have x1 := HBD.out.cell 1 _ rfl
   have x2 := HBD.out.cell 2 _ rfl
   have x3 := HBD.out.cell 3 _ rfl
   have f0 := HBD.out.free 0
   obtain ⟨ze0, zf0, ze1, zf1, ze2, zf2, ze3, zf3⟩ := HBR.out.c8
   have HRW : Hid (RowR 3 94 R B wr (w.heap.size + 2) (.slice ar (keepI m).length cr) (keepI m)) := hrow
   have hkl : ((m.fInodes.filter (isNamed m)).length : Int) = ((keepI m).length : Int) := rfl
   have HKL : Hid ((m.fInodes.filter (isNamed m)).length = (keepI m).length) := rfl
   clear hrow hlf hkl
   go_wp2_with fail
   rw [HKL.out]
   refine bodyPost_ret (v := .agg #[.slice ar (keepI m).length cr, .slice a1 m.fNames.length c1, .slice a2 m.fSafe.length c2, .int .i64 m.fNext]) (by rw [← HKL.out]; simp [results, Tryz.results109, go_sem, *]) rfl ⟨ar, cr, rfl, ?_, ?_⟩
   ·refine RowR.turn hR (F := [w.heap.size, w.heap.size + 1]) HRW.out ?_ (fun k hk => by simp at hk; omega) (Nat.le_trans hBB hbk.size) (by omega)
    repeat (first | with_reducible exact Turn.refl _ _ | with_reducible refine Turn.setCell ?_ (by simp) _)
   ·refine hbk.trans (Turn.below (F := [w.heap.size, w.heap.size + 1]) ?_ (fun k hk => by simp at hk; omega) hbk.size)
    repeat (first | with_reducible exact Turn.refl _ _ | with_reducible refine Turn.setCell ?_ (by simp) _)
end Go.Proofs.YtddejboifpepcaaGreatDoor

namespace Go.Proofs.YtddejboifpepcaaGreatDoor
open Go.RowKit Go.Maps Go.Shelf Go.Lib Go.Sort
theorem encs_len (l : List MEntry) : ∀ c, c ∈ l.map encE → c.length = 2 := by
 intro c hc
 obtain ⟨e, _, rfl⟩ := List.mem_map.1 hc
 rfl
section
variable [Inhabited MEntry]
theorem flatK_at (d : Array MEntry) (t : Nat) (h : t < d.size * 2) : (d.toList.map encE).flatten[t]? = some ((flatK encE 2 d)[t]!) := by
 rw [get_flatK encE 2 d t h]
 have h1 : t / 2 < d.size := by omega
 have e1 : t = t / 2 * 2 + t % 2 := by omega
 have hf := flatten_at (encs_len d.toList) (j := t / 2) (i := t % 2) (by omega)
 rw [← e1] at hf
 rw [hf, List.getElem?_map, List.getElem?_eq_getElem (by simpa using h1)]
 simp only [Option.map_some, Option.bind_some, Array.getElem_toList]
 rw [getElem!_pos d (t / 2) h1]
 have h2 : t % 2 < 2 := by omega
 generalize t % 2 = r at *
 match r, h2 with
 | 0, _ => rfl
 | 1, _ => rfl
theorem holdsE {w : World} {base g cap : Nat} {l : List MEntry} {e : TypeId} {B : Nat} (h : RowR 2 e rEntry B w base (.slice (some ⟨g, 0, none⟩) l.length cap) l) : HoldsK encE 2 w g 0 l.toArray ∧ g < w.heap.size ∧ base ≤ g ∧ ∃ cur, w.heap[g]? = some (.cells cur e (0, 0)) ∧ cur.size = cap * 2 ∧ l.length ≤ cap ∧ cap ≤ maxLen ∧ ∀ x, x ∈ l → x.fName.size ≤ 9223372036854775807 ∧ (Lit.int .i64 x.fId).wf = true := by
 obtain ⟨css, r1, r2, r3, r4⟩ := h
 have hcss : css = l.map encE := by
  apply List.ext_getElem (by simp [r1])
  intro i h1 h2
  obtain ⟨e1, _⟩ := r3 i (by omega) h1
  rw [e1]
  simp [encE]
 rcases r4.2 with ⟨h0, _⟩ | ⟨g', cap', cur, h0, hb, hg, hnc, hm, hs, ht⟩
 ·cases h0
 ·simp only [Value.slice.injEq, Option.some.injEq, Addr.mk.injEq, and_true, true_and] at h0
  obtain ⟨rfl, rfl⟩ := h0
  refine ⟨?_, (Array.getElem?_eq_some_iff.1 hg).1, hb, cur, hg, hs, hnc, hm, ?_⟩
  ·intro j hj
   have hj2 : j < l.toArray.size * 2 := by simpa using hj
   refine ⟨?_, frozen_of_row w g _ cur e hg⟩
   rw [Nat.zero_add, cell_of_row w g j cur e (0, 0) hg]
   have hf := flatK_at l.toArray j hj2
   have hlt : j < l.length * 2 := by simpa using hj2
   rw [List.toList_toArray, ← hcss, ← ht, List.getElem?_take, if_pos hlt] at hf
   show cur[j]? = some ((flatK encE 2 l.toArray)[j]!)
   rw [← hf]
   simp
  ·intro x hx
   obtain ⟨i, hi, rfl⟩ := List.mem_iff_getElem.1 hx
   obtain ⟨_, e2, e3, _⟩ := r3 i hi (by omega)
   exact ⟨e2, e3⟩
theorem sortedE {w : World} {g cap n : Nat} {e : TypeId} {cur : Array Value} (hg : w.heap[g]? = some (.cells cur e (0, 0))) (hs : cur.size = cap * 2) (hnc : n ≤ cap) (hm : cap ≤ maxLen) (d : Array MEntry) (hd : d.size = n) (hx : ∀ x, x ∈ d.toList → x.fName.size ≤ 9223372036854775807 ∧ (Lit.int .i64 x.fId).wf = true) (m : Nat) (os : Array Obj) :
  ownS 2 e oEntry (sortWorldK encE 2 w g 0 m d os) (.slice (some ⟨g, 0, none⟩) n cap) d.toList [g] ∧ Turn [g] w (sortWorldK encE 2 w g 0 m d os) := by
 have hgl : g < w.heap.size := (Array.getElem?_eq_some_iff.1 hg).1
 have hheap : (sortWorldK encE 2 w g 0 m d os).heap = w.heap.modify g (onCells (putCells id 0 (flatK encE 2 d))) ++ os := rfl
 have hblk : (sortWorldK encE 2 w g 0 m d os).heap[g]? = some (.cells (putCells id 0 (flatK encE 2 d) cur) e (0, 0)) := by
  rw [hheap, Array.getElem?_append_left (by simpa using hgl), Array.getElem?_modify, if_pos rfl, hg]
  rfl
 have hput : ∀ t, t < n * 2 → (putCells id 0 (flatK encE 2 d) cur)[t]? = (d.toList.map encE).flatten[t]? := by
  intro t ht
  have hcur : t < cur.size := by rw [hs]; have := Nat.mul_le_mul_right 2 hnc; omega
  rw [flatK_at d t (by rw [hd]; exact ht)]
  unfold putCells
  rw [Array.getElem?_mapIdx, Array.getElem?_eq_getElem hcur]
  simp only [Option.map_some, Nat.zero_add, Nat.zero_le, true_and, size_flatK, Nat.sub_zero, id]
  rw [if_pos (by rw [hd]; exact ht)]
 have hrow : (sortWorldK encE 2 w g 0 m d os).ownsRow 0 e 2 (.slice (some ⟨g, 0, none⟩) n cap) n (d.toList.map encE).flatten := by
  refine ⟨by rw [flat_len (encs_len _)]; simp [hd], .inr ⟨g, cap, _, rfl, Nat.zero_le _, hblk, hnc, hm, by unfold putCells; rw [Array.size_mapIdx]; exact hs, ?_⟩⟩
  apply List.ext_getElem?
  intro t
  rw [List.getElem?_take]
  by_cases ht : t < n * 2
  ·rw [if_pos ht, ← hput t ht]
   simp
  ·rw [if_neg ht, List.getElem?_eq_none (by rw [flat_len (encs_len _)]; simp [hd]; omega)]
 refine ⟨?_, ⟨rfl, rfl, rfl, by rw [hheap]; simp, fun b hb hne => ?_⟩⟩
 ·have h := ownS_row (l := d.toList) (css := d.toList.map encE) (B := 0) (w0 := w) (n := n) (by simpa using hd) (by simp) (encs_len _) (fun j h1 h2 => by
   have := hx d.toList[j] (List.getElem_mem h1)
   rw [List.getElem_map]
   exact ⟨rfl, this.1, this.2, trivial⟩) hrow
  simpa [Value.ownBlock] using h
 ·rw [hheap, Array.getElem?_append_left (by simpa using hb), Array.getElem?_modify, if_neg (by simp at hne; omega)]
theorem sorted_rise {l : List MEntry} {d d' : Array MEntry} (hl : d.toList.Perm l) (hr : Rise l) (hp : PermIn 0 d.size d d') (hs : SortedIn (ltOf cmpE) 0 d.size d') : d'.toList = l := by
 obtain ⟨h1, _, h3⟩ := hp
 have e1 : (d'.extract 0 d.size).toList = d'.toList := by simp [← h1]
 have e2 : (d.extract 0 d.size).toList = d.toList := by simp
 rw [e1, e2] at h3
 have hperm : d'.toList.Perm l := h3.trans hl
 refine rise_unique hperm ?_ hr
 have hnd : l.Pairwise (fun x y => x.fName ≠ y.fName) := hr.imp (fun h e => by rw [e, strLt_irrefl] at h; cases h)
 have hnd' : d'.toList.Pairwise (fun x y => x.fName ≠ y.fName) := hperm.symm.pairwise hnd (fun {a b} h => Ne.symm h)
 unfold Rise
 rw [List.pairwise_iff_getElem] at hnd' ⊢
 intro i j hi hj hij
 have h4 := hs i j (Nat.zero_le _) hij (by simp at hj; omega)
 have hi' : i < d'.size := by simpa using hi
 have hj' : j < d'.size := by simpa using hj
 rw [getElem!_pos d' i hi', getElem!_pos d' j hj', ltOfE] at h4
 have h5 := hnd' i j hi hj hij
 simp only [Array.getElem_toList] at h5 ⊢
 exact strLt_tri h4 (Ne.symm h5)
end
end Go.Proofs.YtddejboifpepcaaGreatDoor

namespace Go.Proofs.YtddejboifpepcaaGreatDoor
open Go.RowKit Go.Maps Go.Shelf Go.Lib Go.Sort
set_option maxHeartbeats 2000000 in
theorem insNone (p : Option Addr) (cap : Nat) (fv : Value) (w : World) :
  Calls Tryz.prog 153 #[.slice p 0 cap, .int .i64 0, .int .i64 0, fv] w fun e w' => e = .returned (.tuple #[]) ∧ w' = w := by
 go_enter Tryz.func153, Tryz.ntmps153
 go_wp2
 refine wp_loop_rounds 1 ?_
 rw [rounds_succ]
 go_wp2
 go_end0
 exact ⟨rfl, rfl⟩
set_option maxHeartbeats 2000000 in
theorem pdqNone (p : Option Addr) (cap : Nat) (lim : Int) (fv : Value) (w : World) :
  Calls Tryz.prog 144 #[.slice p 0 cap, .int .i64 0, .int .i64 0, .int .i64 lim, fv] w fun e w' => e = .returned (.tuple #[]) ∧ w' = w := by
 have hi := fun W => insNone p cap fv W
 go_enter Tryz.func144, Tryz.ntmps144
 go_wp2_with fail
 refine wp_loop_rounds 1 ?_
 rw [rounds_succ]
 go_wp2_with (go_at_call 153; refine (hi _).mono ?_; rintro e w' ⟨rfl, rfl⟩)
 (try simp only [Exit.inBlock, Exit.then])
 refine bodyPost_ret (results_none rfl _ _ _) rfl ?_
 exact ⟨rfl, rfl⟩
set_option maxHeartbeats 2000000 in
theorem sortNone (p : Option Addr) (cap : Nat) (fv : Value) (w : World) :
  Calls Tryz.prog 131 #[.slice p 0 cap, fv] w fun e w' => e = .returned (.tuple #[]) ∧ w' = w := by
 have hp := fun lim W => pdqNone p cap lim fv W
 have hl : ∀ W, Calls Tryz.prog 145 #[.int .u64 0] W fun e w' => e = .returned (.int .i64 (Lib.bitLen 0 : Nat)) ∧ w' = W := fun W => by
  have h := Any.bits_Len (SlLaysF0.n15.bits (P := Tryz.prog) (ρ := sortEnt_ren) { sortEnt with }) 0 W (by omega) (by omega)
  exact h
 go_enter Tryz.func131, Tryz.ntmps131
 go_wp2_with (first | (go_at_call 145; refine (hl _).mono ?_; rintro e w' ⟨rfl, rfl⟩) | (go_at_call 144; refine (hp _ _).mono ?_; rintro e w' ⟨rfl, rfl⟩))
 go_end0
 exact ⟨rfl, rfl⟩
theorem keyStr_inv {key : Value} {kl : Lit} (h : keyOf Tryz.prog 9 key = some kl) : ∃ s : ByteArray, key = .string s := by
 obtain ⟨x, rfl, _⟩ := Maps.keyOf_str Tryz.underlying9 h
 exact ⟨_, rfl⟩
theorem keyStr_is {s : ByteArray} {kl : Lit} (h : keyOf Tryz.prog 9 (.string s) = some kl) : kl = kS s ∧ s.size ≤ 9223372036854775807 := by
 obtain ⟨x, hx, rfl, hl⟩ := Maps.keyOf_str Tryz.underlying9 h
 simp only [encStr, Value.string.injEq] at hx
 subst hx
 refine ⟨by simp [kS], ?_⟩
 have h2 : (ByteArray.mk x.toArray).size = x.length := by show x.toArray.size = _; simp
 unfold maxLen at hl
 omega
theorem met_entry {D : DataW Unit} {l : List MEntry} (hM : MapIs D l) {s : ByteArray} {c : Int} (hat : ∀ zd, D.atKey (kS s) zd = .lit (.int .i64 c)) : (⟨s, c⟩ : MEntry) ∈ l := by
 have hh : Maps.has D (kS s) = true := has_true_of_atKey hat
 obtain ⟨e, he, hn⟩ := hasName_iff.1 ((hM.2.1 s).1 hh)
 have h1 := hM.2.2 e he
 rw [hn, hat] at h1
 simp only [DataW.lit.injEq, Lit.int.injEq, true_and] at h1
 have : (⟨s, c⟩ : MEntry) = e := by cases e; simp at hn h1; subst hn; subst h1; rfl
 rw [this]
 exact he
theorem nodup_fitB {l m : List (List UInt8)} (h : l.Nodup) (hs : ∀ x, x ∈ l → x ∈ m) : l.length ≤ m.length := by
 induction l generalizing m with
 | nil => simp
 | cons x r ih =>
  have hn := List.nodup_cons.1 h
  have hx := hs x (by simp)
  have h1 := ih hn.2 (m := m.erase x) (fun y hy => (List.mem_erase_of_ne (fun (e : y = x) => hn.1 (by rw [← e]; exact hy))).2 (hs y (by simp [hy])))
  have h2 := List.length_erase_of_mem hx
  have h3 : 0 < m.length := List.length_pos_of_mem hx
  simp only [List.length_cons]
  omega
theorem met_fit {l o : List MEntry} {left : Lit → Bool} (h : Met l left o) : o.length ≤ l.length := by
 have h1 := nodup_fitB (l := o.map (fun e => e.fName.data.toList)) (m := l.map (fun e => e.fName.data.toList)) (List.pairwise_map.2 (h.once.imp (fun {a b} (hne : a.fName ≠ b.fName) (he : a.fName.data.toList = b.fName.data.toList) => kS_ne hne (by unfold kS; rw [he])))) (fun x hx => by
  obtain ⟨e, he, rfl⟩ := List.mem_map.1 hx
  exact List.mem_map.2 ⟨e, h.sub e he, rfl⟩)
 simpa using h1
theorem RowR.shape {α : Type} {size : Nat} {e : TypeId} {R : Rep α} {B base : Nat} {w : World} {v : Value} {l : List α} (h : RowR size e R B w base v l) (hl : 0 < l.length) : ∃ g cap, v = .slice (some ⟨g, 0, none⟩) l.length cap := by
 obtain ⟨css, r1, r2, r3, r4⟩ := h
 rcases r4.2 with ⟨_, h0⟩ | ⟨g, cap, cur, rfl, _⟩
 ·omega
 ·exact ⟨g, cap, rfl⟩
set_option maxHeartbeats 2000000 in
theorem entryList_any (b n : Nat) (D : DataW Unit) (l : List MEntry) (w : World) (hown : w.ownsMap Tryz.prog 9 (plainElem Tryz.prog 3) b n D) (hM : MapIs D l) (hr : Rise l) (hl : l.length ≤ 1000) :
  Calls Tryz.prog 123 #[.map (some b)] w fun e w' => ∃ (a : Option Addr) (c : Nat) (F : List Nat), e = .returned (.slice a l.length c) ∧ ownS 2 101 oEntry w' (.slice a l.length c) l F ∧ (∀ x, x ∈ F → w.heap.size ≤ x) ∧ Below w.heap.size w w' := by
 obtain ⟨iE, hiE, hzE0, hzE1, hzE2⟩ := info_parts Tryz.infoOfEntry
 have HM := Hid.mk hM
 have HRI := Hid.mk hr
 have hbl := ownsMap_lt hown
 clear hM hr
 go_enter Tryz.func123, Tryz.ntmps123
 go_wp2_with (at_range; refine wpList_range_own _ rfl _ 120 rfl 9 3 lawStr Tryz.underlying120 _ b n D rfl hown ?_; intro w0 hrg0 hg0 hs0)
 have hb0 : Below w.heap.size w w0 := (Below.refl _ _).grown hg0 (Nat.le_refl _) (fun k h => by cases h)
 have hs0' : w.heap.size + 1 ≤ w0.heap.size := by omega
 have HS0 := Hid.mk hs0
 clear hs0 hg0
 go_frame
 go_loopw [3] (fun v wr => ∃ (left : Lit → Bool) (cnt : Nat) (o : List MEntry), wr.ranges Tryz.prog 9 (plainElem Tryz.prog 3) b w.heap.size n D left cnt ∧ Met l left o ∧ RowR 2 101 rEntry w.heap.size wr (w.heap.size + 1) v o ∧ Below w.heap.size w wr ∧ w.heap.size + 1 ≤ wr.heap.size) (fun _ wr => wr.rangeLeft b w.heap.size)
 case atStart => exact ⟨_, _, [], hrg0, Met.start HM.out, RowR.start, hb0, hs0'⟩
 case round =>
  obtain ⟨left, cnt, o, hrg, hmet, hrow, hbk, hzk⟩ := hrel
  have HMET := Hid.mk hmet
  have HROW := Hid.mk hrow
  have hol : o.length ≤ 1000 := Nat.le_trans (met_fit hmet) hl
  clear hmet hrow hrg0 hb0 hs0'
  go_wp2_with (at_next; refine wpList_next_ranges _ rfl _ rfl 9 lawStr (plainElem Tryz.prog 3) Value.string (Value.int .i64) (fun key kl hkey => keyStr_inv hkey) (fun v y hv => by obtain ⟨c, rfl, _⟩ := plainElem_int_inv Tryz.underlying3 hv; exact ⟨c, rfl⟩) b w.heap.size n D left cnt rfl hrg ?_ ?_)
  ·intro hc0 hl0
   have hperm := HMET.out.perm HRI.out hl0
   have hlen : o.length = l.length := hperm.length_eq
   have HPERM := Hid.mk hperm
   by_cases hl1 : l.length = 0
   ·have hln : l = [] := List.eq_nil_of_length_eq_zero hl1
    have hon : o = [] := List.eq_nil_of_length_eq_zero (by omega)
    subst hln
    subst hon
    obtain ⟨ar, cr, hv, _⟩ := HROW.out.leaf rEntry_good hbk.size
    subst hv
    have hos : ∃ F, ownS 2 101 oEntry wr (.slice ar 0 cr) [] F ∧ ∀ x, x ∈ F → w.heap.size ≤ x := by
     obtain ⟨css, r1, r2, r3, r4⟩ := HROW.out
     refine ⟨_, ownS_row (l := []) (n := 0) (B := w.heap.size) (w0 := wr) rfl r1 r2 (fun j h1 => by simp at h1) r4, fun x hx => ?_⟩
     have := (r4.lt x (by simpa using hx)).1
     omega
    have HOS := Hid.mk hos
    clear hos hperm hc0 hl0 hrg
    simp only [List.length_nil] at *
    go_wp2_with (go_at_call 131; refine (sortNone ar cr _ _).mono ?_; rintro e w' ⟨rfl, rfl⟩)
    obtain ⟨F, h1, h2⟩ := HOS.out
    go_ret
    exact ⟨ar, cr, F, rfl, h1, h2, hbk⟩
   ·letI := inhE
    obtain ⟨g, cap, hv⟩ := RowR.shape HROW.out (by omega)
    subst hv
    obtain ⟨hH, hgl, hgb, cur, hg, hs, hnc, hmx, hxe⟩ := holdsE HROW.out
    have hcon := sortE_any g cap o.toArray wr hH hgl (by simp; omega)
    simp only [List.size_toArray] at hcon
    have HCON : Hid (∀ d' : Array MEntry, PermIn 0 o.length o.toArray d' → SortedIn (ltOf cmpE) 0 o.length d' → d'.toList = l) := fun d' h1 h2 => sorted_rise (d := o.toArray) (by simpa using HPERM.out) HRI.out (by simpa using h1) (by simpa using h2)
    have HSO : Hid (∀ (d' : Array MEntry) (m : Nat) (os : Array Obj), d'.toList = l → ownS 2 101 oEntry (sortWorldK encE 2 wr g 0 m d' os) (.slice (some ⟨g, 0, none⟩) l.length cap) l [g] ∧ Turn [g] wr (sortWorldK encE 2 wr g 0 m d' os)) := fun d' m os hd => by
     have h := sortedE (n := l.length) hg hs (by omega) hmx d' (by rw [← hd]; simp) (fun x hx => hxe x (HPERM.out.mem_iff.2 (by rw [← hd]; exact hx))) m os
     rw [hd] at h
     exact h
    clear hperm hc0 hl0 hrg hH hxe hg hs
    rw [hlen] at hcon ⊢
    go_wp2_with (go_at_call 131; refine hcon.mono ?_; rintro e w' ⟨rfl, d', m, os, h1, h2, rfl⟩)
    have hd := HCON.out d' (by rw [hlen]; exact h1) (by rw [hlen]; exact h2)
    obtain ⟨h3, h4⟩ := HSO.out d' m os hd
    go_ret
    exact ⟨some ⟨g, 0, none⟩, cap, [g], rfl, h3, fun x hx => by simp at hx; omega, hbk.trans (h4.below (fun k hk => by simp at hk; omega) hbk.size)⟩
  ·intro x c kl yd yp w1 cnt1 hkey hlk hv hat hrg1 hlt hg1 hs1 hen
   obtain ⟨hkl, hsz⟩ := keyStr_is hkey
   subst hkl
   obtain ⟨c', ec, ey, hwc⟩ := plainElem_int_inv Tryz.underlying3 hv
   cases ec
   simp only [Prod.mk.injEq] at ey
   obtain ⟨rfl, rfl⟩ := ey
   have HMET2 := Hid.mk (HMET.out.step HRI.out (met_entry HM.out hat) hlk)
   have hT1 : Turn [w.heap.size] wr w1 := Turn.ofGrown hg1 (fun k hk => by cases hk; simp)
   have hrow1 := RowR.turn rEntry_good HROW.out hT1 (fun k hk => by simp at hk; omega) hbk.size (Nat.le_refl _)
   have hb1 : Below w.heap.size w w1 := hbk.trans (hT1.below (fun k hk => by simp at hk; omega) hbk.size)
   have hz1 : w.heap.size + 1 ≤ w1.heap.size := by omega
   obtain ⟨css, r1, r2, r3, r4⟩ := hrow1
   have HRG := Hid.mk hrg
   have HRG1 := Hid.mk hrg1
   have hlc := hlt
   clear hs1 hat hlk hkey hv hrg hrg1 HROW HMET hT1 hg1
   go_wp2_with (at_builtin; refine wpList_append_own_at _ rfl _ _ 32 rfl (w.heap.size + 1) 101 iE (.agg #[.string ⟨#[]⟩, .int .i64 0]) 2 24 Tryz.underlying32 hiE hzE0 hzE1 hzE2 rfl (by decide) _ _ _ rfl (own_below r4 ((Below.refl _ _).alloc (Nat.le_refl _) _)) ⟨w1.heap.size, 0, none⟩ 1 1 [.string x, .int .i64 c] rfl rfl (bx_news (Bx.new w1 _ _)) (by intro u hu; simp at hu; rcases hu with rfl | rfl <;> rfl) (by unfold maxLen; omega) (by omega) (by simp; omega) ?_; intro v' w3 hown3 hgrow3 hnil hloc)
   have hT := Turn.after ((Below.refl w1.heap.size w1).alloc (Nat.le_refl _) _) (turnOwn hgrow3)
   have hge : ∀ k, k ∈ (Value.ownBlock _).toList → w.heap.size + 1 ≤ k := fun k hk => (r4.lt k (by simpa using hk)).1
   have hBl : Below w.heap.size w1 w3 := Turn.below hT (fun k hk => by have := hge k hk; omega) (by omega)
   have hrg3 := (HRG1.out.alloc (.cells #[.string x, .int .i64 c] 101)).kept hgrow3 (fun e => by have := (r4.lt b e.symm).1; omega) (fun e => by have := (r4.lt w.heap.size e.symm).1; omega)
   go_roundw
   case rel => exact ⟨_, cnt1, o ++ [⟨x, c⟩], hrg3, HMET2.out, RowR.push rEntry_good r1 r2 r3 hBl rfl ⟨rfl, hsz, hwc, trivial⟩ hown3, hb1.trans hBl, Nat.le_trans hz1 hT.size⟩
   case measure => rw [hrg3.left_eq, HRG.out.left_eq]; omega
end Go.Proofs.YtddejboifpepcaaGreatDoor

namespace Go.Proofs.YtddejboifpepcaaGreatDoor
open Go.RowKit
theorem sumW_names {l : List MEntry} (h : ∀ e, e ∈ l → nameOk e.fName = true) : sumW wEntry l ≤ 12 * l.length := by
 induction l with
 | nil => simp [sumW]
 | cons x r ih =>
  have h1 := ih (fun e he => h e (by simp [he]))
  have h2 := h x (by simp)
  unfold nameOk at h2
  rw [Bool.and_eq_true] at h2
  have h3 := (of_decide_eq_true h2.1).2
  have h4 : wEntry x = x.fName.size := rfl
  simp only [sumW, List.length_cons]
  omega
theorem ok_weight {m : MDisk} (h : diskOk m = true) : m.fInodes.length ≤ 60 ∧ sumW wInode m.fInodes ≤ 60000 ∧ m.fNames.length ≤ 30 ∧ sumW wEntry m.fNames ≤ 360 ∧ m.fSafe.length ≤ 30 ∧ sumW wEntry m.fSafe ≤ 360 := by
 have hr := diskOk_iff.1 h
 have h1 := named_fit (d := m) (diskOk_parts h).1 (List.all_eq_true.2 hr.all)
 have h2 := sumW_names (fun e he => (hr.names.1 e he).2)
 have h3 := sumW_names (fun e he => (hr.safe.1 e he).2)
 have h4 := hr.few
 have h5 := hr.few'
 have h6 := hr.size
 omega
end Go.Proofs.YtddejboifpepcaaGreatDoor
