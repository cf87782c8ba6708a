/-
  Part 5 of the texts that the proof leans on.
-/
import Derived.Lib.DecodeN
import Derived.Test.YtocgbeoglgkibaaDoorTbp3
import Derived.Shelf.Unicode.DecodeAny
import Derived.Test.YtocgbeoglgkibaaDoorProg
import Derived.Test.YtocgbeoglgkibaaDoorTbp2
import Derived.Test.YtocgbeoglgkibaaDoorTbp1
import Derived.Lib.OthersKept
import Derived.Deep.RegionHeld3
set_option linter.unusedVariables false
set_option linter.unusedSimpArgs false
set_option maxRecDepth 10000

namespace Go.Proofs.YtocgbeoglgkibaaDoor
open Go Go.Lib Go.RowKit
set_option maxRecDepth 100000

def bAt (l : List UInt8) (k : Nat) : Nat := (l[k]?.getD 0).toNat
def decL (l : List UInt8) : Nat × Nat := decodeN l.length (bAt l 0) (bAt l 1) (bAt l 2) (bAt l 3)

/-- A whole rune at the head of l: r, of n bytes. -/
def Whole (l : List UInt8) (r n : Nat) : Prop :=
  (∃ a t, l = a :: t ∧ a.toNat < 128 ∧ r = a.toNat ∧ n = 1) ∨
  (∃ a b t, l = a :: b :: t ∧ 194 ≤ a.toNat ∧ a.toNat < 224 ∧ b.toNat / 64 = 2 ∧ r = a.toNat % 32 * 64 + b.toNat % 64 ∧ n = 2) ∨
  (∃ a b c t, l = a :: b :: c :: t ∧ 224 ≤ a.toNat ∧ a.toNat < 240 ∧ b.toNat / 64 = 2 ∧ c.toNat / 64 = 2 ∧ r = a.toNat % 16 * 4096 + b.toNat % 64 * 64 + c.toNat % 64 ∧ 2048 ≤ r ∧ n = 3) ∨
  (∃ a b c d t, l = a :: b :: c :: d :: t ∧ 240 ≤ a.toNat ∧ a.toNat < 248 ∧ b.toNat / 64 = 2 ∧ c.toNat / 64 = 2 ∧ d.toNat / 64 = 2 ∧ r = a.toNat % 8 * 262144 + b.toNat % 64 * 4096 + c.toNat % 64 * 64 + d.toNat % 64 ∧ 65536 ≤ r ∧ n = 4)

set_option maxHeartbeats 2000000 in
theorem decN_cases {m p q u v r n : Nat} (h : decodeN m p q u v = (r, n)) (hr : r ≠ 65533) :
    (p < 128 ∧ r = p ∧ n = 1) ∨ (1 < m ∧ 194 ≤ p ∧ p < 224 ∧ q / 64 = 2 ∧ r = p % 32 * 64 + q % 64 ∧ n = 2) ∨
    (2 < m ∧ 224 ≤ p ∧ p < 240 ∧ q / 64 = 2 ∧ u / 64 = 2 ∧ r = p % 16 * 4096 + q % 64 * 64 + u % 64 ∧ 2048 ≤ r ∧ n = 3) ∨
    (3 < m ∧ 240 ≤ p ∧ p < 248 ∧ q / 64 = 2 ∧ u / 64 = 2 ∧ v / 64 = 2 ∧ r = p % 8 * 262144 + q % 64 * 4096 + u % 64 * 64 + v % 64 ∧ 65536 ≤ r ∧ n = 4) := by
  unfold decodeN at h
  by_cases h0 : p < 128
  · rw [if_pos h0] at h
    have h1 := congrArg Prod.fst h
    have h2 := congrArg Prod.snd h
    exact .inl ⟨h0, h1.symm, h2.symm⟩
  rw [if_neg h0] at h
  by_cases h1 : p / 32 = 6 ∧ (1 < m ∧ q / 64 = 2)
  · rw [if_pos h1] at h
    by_cases h2 : p % 32 * 64 + q % 64 ≥ 128
    · rw [if_pos h2] at h
      have e1 := congrArg Prod.fst h
      have e2 := congrArg Prod.snd h
      exact .inr (.inl ⟨h1.2.1, by omega, by omega, h1.2.2, e1.symm, e2.symm⟩)
    · rw [if_neg h2] at h
      exact absurd (congrArg Prod.fst h).symm hr
  rw [if_neg h1] at h
  by_cases h2 : p / 16 = 14 ∧ (1 < m ∧ q / 64 = 2) ∧ (2 < m ∧ u / 64 = 2)
  · rw [if_pos h2] at h
    split at h
    · rename_i h3
      have e1 := congrArg Prod.fst h
      have e2 := congrArg Prod.snd h
      simp only at e1 e2
      exact .inr (.inr (.inl ⟨h2.2.2.1, by omega, by omega, h2.2.1.2, h2.2.2.2, e1.symm, by omega, e2.symm⟩))
    · exact absurd (congrArg Prod.fst h).symm hr
  rw [if_neg h2] at h
  by_cases h3 : p / 8 = 30 ∧ (1 < m ∧ q / 64 = 2) ∧ (2 < m ∧ u / 64 = 2) ∧ (3 < m ∧ v / 64 = 2)
  · rw [if_pos h3] at h
    split at h
    · rename_i h4
      have e1 := congrArg Prod.fst h
      have e2 := congrArg Prod.snd h
      simp only at e1 e2
      exact .inr (.inr (.inr ⟨h3.2.2.2.1, by omega, by omega, h3.2.1.2, h3.2.2.1.2, h3.2.2.2.2, e1.symm, by omega, e2.symm⟩))
    · exact absurd (congrArg Prod.fst h).symm hr
  rw [if_neg h3] at h
  exact absurd (congrArg Prod.fst h).symm hr

theorem whole_of {l : List UInt8} {r n : Nat} (h : decL l = (r, n)) (hl : l ≠ []) (hr : r ≠ 65533) : Whole l r n := by
  have hc := decN_cases h hr
  clear h
  match l, hl, hc with
  | a :: t, _, .inl ⟨h1, h2, h3⟩ => exact .inl ⟨a, t, rfl, h1, h2, h3⟩
  | [a], _, .inr (.inl ⟨h1, _⟩) => simp at h1
  | a :: b :: t, _, .inr (.inl ⟨_, h1, h2, h3, h4, h5⟩) => exact .inr (.inl ⟨a, b, t, rfl, h1, h2, h3, h4, h5⟩)
  | [a], _, .inr (.inr (.inl ⟨h1, _⟩)) => simp at h1
  | [a, b], _, .inr (.inr (.inl ⟨h1, _⟩)) => simp at h1
  | a :: b :: c :: t, _, .inr (.inr (.inl ⟨_, h1, h2, h3, h4, h5, h6, h7⟩)) => exact .inr (.inr (.inl ⟨a, b, c, t, rfl, h1, h2, h3, h4, h5, h6, h7⟩))
  | [a], _, .inr (.inr (.inr ⟨h1, _⟩)) => simp at h1
  | [a, b], _, .inr (.inr (.inr ⟨h1, _⟩)) => simp at h1
  | [a, b, c], _, .inr (.inr (.inr ⟨h1, _⟩)) => simp at h1
  | a :: b :: c :: d :: t, _, .inr (.inr (.inr ⟨_, h1, h2, h3, h4, h5, h6, h7, h8⟩)) => exact .inr (.inr (.inr ⟨a, b, c, d, t, rfl, h1, h2, h3, h4, h5, h6, h7, h8⟩))

theorem u8_ext {a b : UInt8} (h : a.toNat = b.toNat) : a = b := UInt8.toNat_inj.1 h
theorem u8_lt {a b : UInt8} : a < b ↔ a.toNat < b.toNat := UInt8.lt_iff_toNat_lt

theorem whole_same {x y : List UInt8} {r n k : Nat} (hx : Whole x r n) (hy : Whole y r k) : n = k ∧ n ≤ x.length ∧ n ≤ y.length ∧ x.take n = y.take n ∧ 1 ≤ n := by
  rcases hx with ⟨a, t, rfl, h1, h2, rfl⟩ | ⟨a, b, t, rfl, h1, h2, h3, h4, rfl⟩ | ⟨a, b, c, t, rfl, h1, h2, h3, h4, h5, h6, rfl⟩ | ⟨a, b, c, d, t, rfl, h1, h2, h3, h4, h5, h6, h7, rfl⟩ <;>
  rcases hy with ⟨a', t', rfl, g1, g2, rfl⟩ | ⟨a', b', t', rfl, g1, g2, g3, g4, rfl⟩ | ⟨a', b', c', t', rfl, g1, g2, g3, g4, g5, g6, rfl⟩ | ⟨a', b', c', d', t', rfl, g1, g2, g3, g4, g5, g6, g7, rfl⟩ <;>
  first
  | (exfalso; omega)
  | (have e1 : a = a' := u8_ext (by omega)
     have e2 : b = b' := u8_ext (by omega)
     have e3 : c = c' := u8_ext (by omega)
     have e4 : d = d' := u8_ext (by omega)
     subst e1 e2 e3 e4
     exact ⟨rfl, by simp, by simp, by simp, by omega⟩)
  | (have e1 : a = a' := u8_ext (by omega)
     have e2 : b = b' := u8_ext (by omega)
     have e3 : c = c' := u8_ext (by omega)
     subst e1 e2 e3
     exact ⟨rfl, by simp, by simp, by simp, by omega⟩)
  | (have e1 : a = a' := u8_ext (by omega)
     have e2 : b = b' := u8_ext (by omega)
     subst e1 e2
     exact ⟨rfl, by simp, by simp, by simp, by omega⟩)
  | (have e1 : a = a' := u8_ext (by omega)
     subst e1
     exact ⟨rfl, by simp, by simp, by simp, by omega⟩)

theorem bl_head {a b : UInt8} {x y : List UInt8} (h : a.toNat < b.toNat) : Op.bytesLess (a :: x) (b :: y) = true := by
  simp [Op.bytesLess, u8_lt.2 h]
theorem bl_tail {a : UInt8} {x y : List UInt8} : Op.bytesLess (a :: x) (a :: y) = Op.bytesLess x y := by
  simp [Op.bytesLess]

theorem whole_less {x y : List UInt8} {r s n k : Nat} (hx : Whole x r n) (hy : Whole y s k) (h : r < s) : Op.bytesLess x y = true := by
  rcases hx with ⟨a, t, rfl, h1, h2, rfl⟩ | ⟨a, b, t, rfl, h1, h2, h3, h4, rfl⟩ | ⟨a, b, c, t, rfl, h1, h2, h3, h4, h5, h6, rfl⟩ | ⟨a, b, c, d, t, rfl, h1, h2, h3, h4, h5, h6, h7, rfl⟩ <;>
  rcases hy with ⟨a', t', rfl, g1, g2, rfl⟩ | ⟨a', b', t', rfl, g1, g2, g3, g4, rfl⟩ | ⟨a', b', c', t', rfl, g1, g2, g3, g4, g5, g6, rfl⟩ | ⟨a', b', c', d', t', rfl, g1, g2, g3, g4, g5, g6, g7, rfl⟩ <;>
  first
  | (exfalso; omega)
  | exact bl_head (by omega)
  | (by_cases e1 : a.toNat = a'.toNat
     · have e1 := u8_ext e1
       subst e1
       rw [bl_tail]
       first
       | exact bl_head (by omega)
       | (by_cases e2 : b.toNat = b'.toNat
          · have e2 := u8_ext e2
            subst e2
            rw [bl_tail]
            first
            | exact bl_head (by omega)
            | (by_cases e3 : c.toNat = c'.toNat
               · have e3 := u8_ext e3
                 subst e3
                 rw [bl_tail]
                 exact bl_head (by omega)
               · exact bl_head (by omega))
          · exact bl_head (by omega))
     · exact bl_head (by omega))

theorem bl_pre : ∀ (p : List UInt8) {x y : List UInt8}, Op.bytesLess (p ++ x) (p ++ y) = Op.bytesLess x y
  | [], _, _ => rfl
  | a :: p, x, y => by rw [List.cons_append, List.cons_append, bl_tail, bl_pre p]

theorem bl_drop {x y : List UInt8} {i : Nat} (h : x.take i = y.take i) : Op.bytesLess x y = Op.bytesLess (x.drop i) (y.drop i) := by
  conv => lhs; rw [← List.take_append_drop i x, ← List.take_append_drop i y, h]
  exact bl_pre _


theorem bAt_get (s : ByteArray) (j : Nat) : bAt s.toList j = (s.get! j).toNat := by
  unfold bAt
  rw [ByteArray.toList_eq, Array.getElem?_toList]
  show _ = (s.data[j]!).toNat
  rw [getElem!_def]
  cases s.data[j]? <;> rfl
theorem bAt_drop (l : List UInt8) (i k : Nat) : bAt (l.drop i) k = bAt l (i + k) := by
  unfold bAt
  rw [List.getElem?_drop]
theorem decode_decL (s : ByteArray) (i : Nat) : Utf8.decode s i = decL (s.toList.drop i) := by
  rw [decode_at]
  unfold decL
  rw [bAt_drop, bAt_drop, bAt_drop, bAt_drop, bAt_get, bAt_get, bAt_get, bAt_get, List.length_drop, k_len]
  rfl
theorem toList_extract (s : ByteArray) (i : Nat) : (s.extract i s.size).toList = s.toList.drop i := by
  rw [ByteArray.toList_eq, ByteArray.toList_eq]
  simp
  apply List.take_of_length_le
  simp

/-- Below, the same, above: as cmp.Compare says it. -/
def ordK (a b : ByteArray) : Int := if kLt a b then -1 else if kLt b a then 1 else 0
theorem ordK_lt {a b : ByteArray} (h : kLt a b = true) : ordK a b = -1 := by unfold ordK; rw [if_pos h]
theorem ordK_gt {a b : ByteArray} (h : kLt b a = true) : ordK a b = 1 := by unfold ordK; rw [kLt_asymm h, if_pos h]; rfl
theorem ordK_eq {a b : ByteArray} (h : a = b) : ordK a b = 0 := by unfold ordK; rw [h, kLt_irrefl]; rfl

/-- Both go on alike up to a place. -/
structure Alike (a b : ByteArray) (pos : Nat) : Prop where
  la : pos ≤ a.size
  lb : pos ≤ b.size
  eq : a.toList.take pos = b.toList.take pos

theorem Alike.zero (a b : ByteArray) : Alike a b 0 := ⟨Nat.zero_le _, Nat.zero_le _, rfl⟩
theorem Alike.kLt {a b : ByteArray} {pos : Nat} (h : Alike a b pos) : kLt a b = kLt (a.extract pos a.size) (b.extract pos b.size) := by
  unfold Go.Proofs.YtocgbeoglgkibaaDoor.kLt
  rw [toList_extract, toList_extract]
  exact bl_drop h.eq
theorem Alike.symm {a b : ByteArray} {pos : Nat} (h : Alike a b pos) : Alike b a pos := ⟨h.lb, h.la, h.eq.symm⟩
theorem Alike.ord {a b : ByteArray} {pos : Nat} (h : Alike a b pos) : ordK (a.extract pos a.size) (b.extract pos b.size) = ordK a b := by
  unfold ordK
  rw [h.kLt, h.symm.kLt]
/-- At the end of a. -/
theorem Alike.fin {a b : ByteArray} (h : Alike a b a.size) : ordK a b = if a.size < b.size then -1 else 0 := by
  have h1 : a.toList.take a.size = a.toList := by rw [← k_len]; exact List.take_length
  have hb := h.eq
  rw [h1] at hb
  split
  · rename_i hlt
    apply ordK_lt
    rw [h.kLt]
    unfold Go.Proofs.YtocgbeoglgkibaaDoor.kLt
    rw [toList_extract, toList_extract]
    have e1 : a.toList.drop a.size = [] := List.drop_eq_nil_of_le (by rw [k_len]; exact Nat.le_refl _)
    rw [e1]
    match hm : b.toList.drop a.size with
    | [] =>
      have := congrArg List.length hm
      rw [List.length_drop, k_len] at this
      simp at this
      omega
    | x :: r => rfl
  · rename_i hlt
    have := h.lb
    have e : a.size = b.size := by omega
    apply ordK_eq
    apply k_eq.1
    rw [beq_iff_eq, hb, e, ← k_len]
    exact List.take_length
/-- The runes of a and of the rest of b, both whole. -/
def goDec (b : ByteArray) (pos : Nat) : Nat × Nat := if b.size - pos = 0 then (65533, 0) else Utf8.decode (b.extract pos b.size) 0
theorem goDec_L {b : ByteArray} {pos : Nat} (h : (goDec b pos).1 ≠ 65533) : pos < b.size ∧ goDec b pos = decL (b.toList.drop pos) := by
  unfold goDec at h ⊢
  by_cases hz : b.size - pos = 0
  · rw [if_pos hz] at h; exact absurd rfl h
  · rw [if_neg hz] at h ⊢
    refine ⟨by omega, ?_⟩
    rw [decode_decL, toList_extract, List.drop_zero]
theorem drop_ne {s : ByteArray} {pos : Nat} (h : pos < s.size) : s.toList.drop pos ≠ [] := fun e => by
  have := congrArg List.length e
  rw [List.length_drop, k_len] at this
  simp at this
  omega
theorem Alike.runes {a b : ByteArray} {pos : Nat} (h : Alike a b pos) (ha : pos < a.size) (h1 : (Utf8.decode a pos).1 ≠ 65533) (h2 : (goDec b pos).1 ≠ 65533) :
    Whole (a.toList.drop pos) (Utf8.decode a pos).1 (Utf8.decode a pos).2 ∧ Whole (b.toList.drop pos) (goDec b pos).1 (goDec b pos).2 := by
  obtain ⟨hb, he⟩ := goDec_L h2
  refine ⟨whole_of (by rw [decode_decL]) (drop_ne ha) h1, ?_⟩
  exact whole_of (by rw [he]) (drop_ne hb) h2
theorem Alike.less {a b : ByteArray} {pos : Nat} (h : Alike a b pos) (ha : pos < a.size) (h1 : (Utf8.decode a pos).1 ≠ 65533) (h2 : (goDec b pos).1 ≠ 65533) (hlt : (Utf8.decode a pos).1 < (goDec b pos).1) : ordK a b = -1 := by
  obtain ⟨w1, w2⟩ := h.runes ha h1 h2
  apply ordK_lt
  rw [h.kLt]
  unfold Go.Proofs.YtocgbeoglgkibaaDoor.kLt
  rw [toList_extract, toList_extract]
  exact whole_less w1 w2 hlt
theorem Alike.more {a b : ByteArray} {pos : Nat} (h : Alike a b pos) (ha : pos < a.size) (h1 : (Utf8.decode a pos).1 ≠ 65533) (h2 : (goDec b pos).1 ≠ 65533) (hlt : (goDec b pos).1 < (Utf8.decode a pos).1) : ordK a b = 1 := by
  obtain ⟨w1, w2⟩ := h.runes ha h1 h2
  apply ordK_gt
  rw [h.symm.kLt]
  unfold Go.Proofs.YtocgbeoglgkibaaDoor.kLt
  rw [toList_extract, toList_extract]
  exact whole_less w2 w1 hlt
theorem Alike.next {a b : ByteArray} {pos : Nat} (h : Alike a b pos) (ha : pos < a.size) (h1 : (Utf8.decode a pos).1 ≠ 65533) (h2 : (goDec b pos).1 ≠ 65533) (he : (Utf8.decode a pos).1 = (goDec b pos).1) : Alike a b (pos + (Utf8.decode a pos).2) ∧ 1 ≤ (Utf8.decode a pos).2 := by
  obtain ⟨w1, w2⟩ := h.runes ha h1 h2
  rw [← he] at w2
  obtain ⟨e1, e2, e3, e4, e5⟩ := whole_same w1 w2
  rw [List.length_drop, k_len] at e2 e3
  refine ⟨⟨by omega, by omega, ?_⟩, e5⟩
  rw [List.take_add, List.take_add, h.eq, e4]

end Go.Proofs.YtocgbeoglgkibaaDoor

namespace Go.Proofs.YtocgbeoglgkibaaDoor
open Go.Proofs Go.Shelf

def layDec_ren : Go.Shelf.Ren := ⟨fun | 197 => 69 | 260 => 74 | n => n, fun | 9 => 9 | 21 => 21 | 3 => 3 | 4 => 4 | 5 => 5 | 105 => 110 | 119 => 118 | 0 => 0 | 46 => 79 | 139 => 121 | 138 => 120 | n => n, fun | 3 => 2 | 4 => 3 | n => n⟩
theorem layDec : Go.Proofs.Lays.n197 Tryd.prog layDec_ren := {
  mixed := by kernel_rfl
  f197 := Tryd.func69.trans (congrArg some (by kernel_rfl))
  f260 := Tryd.func74.trans (congrArg some (by kernel_rfl))
  t0 := Tryd.underlying0
  a0 := Tryd.isAgg0
  z0 := Tryd.sizeOf0
  v0 := Tryd.zeroValue0
  t3 := Tryd.underlying3
  a3 := Tryd.isAgg3
  z3 := Tryd.sizeOf3
  v3 := Tryd.zeroValue3
  t4 := Tryd.underlying4
  a4 := Tryd.isAgg4
  z4 := Tryd.sizeOf4
  v4 := Tryd.zeroValue4
  t5 := Tryd.underlying5
  a5 := Tryd.isAgg5
  z5 := Tryd.sizeOf5
  v5 := Tryd.zeroValue5
  t9 := Tryd.underlying9
  a9 := Tryd.isAgg9
  z9 := Tryd.sizeOf9
  v9 := Tryd.zeroValue9
  t21 := Tryd.underlying21
  a21 := Tryd.isAgg21
  z21 := Tryd.sizeOf21
  v21 := Tryd.zeroValue21
  t46 := Tryd.underlying79
  a46 := Tryd.isAgg79
  z46 := Tryd.sizeOf79
  v46 := Tryd.zeroValue79
  t105 := Tryd.underlying110
  a105 := Tryd.isAgg110
  z105 := Tryd.sizeOf110
  v105 := Tryd.zeroValue110
  t119 := Tryd.underlying118
  a119 := Tryd.isAgg118
  z119 := Tryd.sizeOf118
  t138 := Tryd.underlying120
  a138 := Tryd.isAgg120
  z138 := Tryd.sizeOf120
  v138 := Tryd.zeroValue120
  t139 := Tryd.underlying121
  a139 := Tryd.isAgg121
  z139 := Tryd.sizeOf121
  v139 := Tryd.zeroValue121
  g3 := by kernel_rfl
  g4 := by kernel_rfl }

end Go.Proofs.YtocgbeoglgkibaaDoor

namespace Go.Proofs.YtocgbeoglgkibaaDoor
open Go.RowKit Go.Maps Go.Shelf
abbrev qfc5_57_6_0 : Oper := ⟨some 28, .move (.tmp 0), 9, "l04_mem.go:87", #[], none⟩
abbrev qfc5_57_6_1 : Oper := ⟨some 29, .move (.tmp 5), 3, "l04_mem.go:87", #[], none⟩
abbrev qfc5_57_6_2 : Oper := ⟨some 30, .slice 9 (.tmp 28) (some (.tmp 29)) none none, 9, "l04_mem.go:87", #[⟨0, .data⟩, ⟨1, .data⟩], none⟩
abbrev qfc5_57_6_3 : Oper := ⟨some 31, .move (.tmp 1), 9, "l04_mem.go:87", #[], none⟩
abbrev qfc5_57_6_4 : Oper := ⟨some 32, .move (.tmp 5), 3, "l04_mem.go:87", #[], none⟩
abbrev qfc5_57_6_5 : Oper := ⟨some 33, .slice 9 (.tmp 31) (some (.tmp 32)) none none, 9, "l04_mem.go:87", #[⟨3, .data⟩, ⟨4, .data⟩], none⟩
abbrev qfc5_57_6_6 : Oper := ⟨some 34, .call { callee := .value (.func 70), args := #[.tmp 30, .tmp 33], argTypes := #[9, 9] }, 3, "l04_mem.go:87", #[⟨2, .data⟩, ⟨5, .data⟩], none⟩
abbrev qfc5_57_6_7 : Oper := ⟨some 4, .assign (.tmp 34), 3, "l04_mem.go:87", #[⟨6, .data⟩, ⟨6, .chain⟩, ⟨0, .phase⟩, ⟨1, .phase⟩, ⟨2, .phase⟩, ⟨3, .phase⟩, ⟨4, .phase⟩, ⟨5, .phase⟩, ⟨6, .phase⟩], none⟩

/-- The library's two tables, as they are laid. -/
def Tabs (w : World) : Prop := Lib.Utf8Tabs (layDec_ren.g 3) (layDec_ren.g 4) w
theorem Tabs.below {w w' : World} (h : Tabs w) (hb : Below w.heap.size w w') : Tabs w' := Utf8Tabs_below h hb

theorem dec_any (s : ByteArray) (w : World) (hT : Tabs w) :
    Calls Tryd.prog 69 #[.string s] w fun e w' => e = .returned (.tuple #[.int .i32 (Lib.decodeGo s).1, .int .i64 (Lib.decodeGo s).2]) ∧ Below w.heap.size w w' :=
  Any.utf8_DecodeRuneInString layDec s w hT
theorem decodeGo_ext (b : ByteArray) (pos : Nat) : Lib.decodeGo (b.extract pos b.size) = goDec b pos := by
  unfold Lib.decodeGo goDec
  have : (b.extract pos b.size).size = b.size - pos := by rw [← k_len, toList_extract, List.length_drop, k_len]
  rw [this]

theorem kLt_facts {a b : ByteArray} (h : kLt a b = true) : Op.bytesLess a.toList b.toList = true ∧ Op.bytesLess b.toList a.toList = false ∧ (b.toList == a.toList) = false := by
  refine ⟨h, kl_asymm h, ?_⟩
  rw [beq_eq_false_iff_ne]
  intro e
  have h2 : Op.bytesLess a.toList b.toList = true := h
  rw [e, kl_irrefl] at h2
  cases h2

set_option maxHeartbeats 1000000 in
theorem cmpS_any (a b : ByteArray) (w : World) :
    Calls Tryd.prog 70 #[.string a, .string b] w fun e w' => e = .returned (.int .i64 (ordK a b)) ∧ w' = w := by
  by_cases h1 : kLt a b = true
  · rw [ordK_lt h1]
    obtain ⟨p1, p2, p3⟩ := kLt_facts h1
    clear h1
    go_enter Tryd.func70, Tryd.ntmps70
    go_wp2
    go_ret
    exact ⟨rfl, rfl⟩
  · by_cases h2 : kLt b a = true
    · rw [ordK_gt h2]
      obtain ⟨p1, p2, p3⟩ := kLt_facts h2
      clear h1 h2
      go_enter Tryd.func70, Tryd.ntmps70
      go_wp2
      go_ret
      exact ⟨rfl, rfl⟩
    · have h1' : kLt a b = false := Bool.eq_false_iff.2 h1
      have he : a = b := by
        by_cases h : a = b
        · exact h
        · exact absurd (kLt_tri h1' h) h2
      rw [ordK_eq he]
      subst he
      have p1 : Op.bytesLess a.toList a.toList = false := h1'
      clear h1 h2 h1'
      go_enter Tryd.func70, Tryd.ntmps70
      go_wp2
      go_ret
      exact ⟨rfl, rfl⟩

def ordI (x y : Int) : Int := if x < y then -1 else if y < x then 1 else 0
theorem ordI_lt {x y : Int} (h : x < y) : ordI x y = -1 := if_pos h
theorem ordI_gt {x y : Int} (h : y < x) : ordI x y = 1 := by unfold ordI; rw [if_neg (by omega), if_pos h]
theorem ordI_eq {x y : Int} (h : x = y) : ordI x y = 0 := by unfold ordI; rw [if_neg (by omega), if_neg (by omega)]

set_option maxHeartbeats 400000 in
theorem cmpJ_any (x y : Int) (w : World) :
    Calls Tryd.prog 72 #[.int .i64 x, .int .i64 y] w fun e w' => e = .returned (.int .i64 (ordI x y)) ∧ w' = w := by
  by_cases h1 : x < y
  · have HV := Hid.mk (ordI_lt h1)
    go_enter Tryd.func72, Tryd.ntmps72
    go_wp2
    go_ret
    exact ⟨by rw [HV.out]; rfl, rfl⟩
  · by_cases h2 : y < x
    · have HV := Hid.mk (ordI_gt h2)
      go_enter Tryd.func72, Tryd.ntmps72
      go_wp2
      go_ret
      exact ⟨by rw [HV.out]; rfl, rfl⟩
    · have HV := Hid.mk (ordI_eq (x := x) (y := y) (by omega))
      go_enter Tryd.func72, Tryd.ntmps72
      go_wp2
      go_ret
      exact ⟨by rw [HV.out]; rfl, rfl⟩

set_option maxHeartbeats 400000 in
theorem cmpR_any (x y : Int) (w : World) :
    Calls Tryd.prog 71 #[.int .i32 x, .int .i32 y] w fun e w' => e = .returned (.int .i64 (ordI x y)) ∧ w' = w := by
  by_cases h1 : x < y
  · have HV := Hid.mk (ordI_lt h1)
    go_enter Tryd.func71, Tryd.ntmps71
    go_wp2
    go_ret
    exact ⟨by rw [HV.out]; rfl, rfl⟩
  · by_cases h2 : y < x
    · have HV := Hid.mk (ordI_gt h2)
      go_enter Tryd.func71, Tryd.ntmps71
      go_wp2
      go_ret
      exact ⟨by rw [HV.out]; rfl, rfl⟩
    · have HV := Hid.mk (ordI_eq (x := x) (y := y) (by omega))
      go_enter Tryd.func71, Tryd.ntmps71
      go_wp2
      go_ret
      exact ⟨by rw [HV.out]; rfl, rfl⟩

theorem iterPos_at {wr : World} {k : Nat} {s : ByteArray} {pos : Nat} (h : wr.heap[k]? = some (.stringIter s pos)) : wr.iterPos k = pos := by
  unfold World.iterPos
  rw [h]

set_option maxHeartbeats 4000000 in
theorem keyOrder_any (a b : ByteArray) (w : World) (hT : Tabs w) (ha : a.size ≤ 9223372036854775807) (hb : b.size ≤ 9223372036854775807) :
    Calls Tryd.prog 57 #[.string a, .string b] w fun e w' => e = .returned (.int .i64 (ordK a b)) ∧ Below w.heap.size w w' := by
  have HT := Hid.mk hT
  clear hT
  go_enter Tryd.func57, Tryd.ntmps57
  go_wp2_with fail
  go_loopw [] (fun wr => ∃ pos : Nat, wr.heap[w.heap.size]? = some (.stringIter a pos) ∧ Hid (Alike a b pos) ∧ Below w.heap.size w wr) (fun wr => a.size - wr.iterPos w.heap.size)
  case atStart => exact ⟨0, World.iter_heap w a 0, Alike.zero a b, (Below.refl _ _).alloc (Nat.le_refl _) _⟩
  case round =>
    obtain ⟨pos, hit, HAL, hbw⟩ := hrel
    have hpos0 := iterPos_at hit
    have HP0 := Hid.mk hpos0
    clear hpos0
    have hpb := HAL.out.lb
    have hpa := HAL.out.la
    by_cases hp : pos < a.size
    · have hnx : ∀ ty, (Instr.next (.pointer (some ⟨w.heap.size, 0, none⟩)) true ty).run Tryd.prog wr = _ := fun ty => Lib.run_next_any_at wr w.heap.size a pos ty hit hp
      have hit2 := Lib.iterAt_heap wr w.heap.size a pos (pos + (Utf8.decode a pos).2) hit
      have hbw2 := Lib.below_iterAt hbw (k := w.heap.size) (Nat.le_refl _) a (pos + (Utf8.decode a pos).2)
      obtain ⟨W1, hW1⟩ : ∃ W1, W1 = wr.iterAt w.heap.size a (pos + (Utf8.decode a pos).2) := ⟨_, rfl⟩
      rw [← hW1] at hnx hit2 hbw2
      have HLess := Hid.mk (fun h1 h2 h3 => HAL.out.less hp h1 h2 h3)
      have HMore := Hid.mk (fun h1 h2 h3 => HAL.out.more hp h1 h2 h3)
      have HNext := Hid.mk (fun h1 h2 h3 => HAL.out.next hp h1 h2 h3)
      have HOrd := Hid.mk HAL.out.ord
      obtain ⟨r, hr⟩ : ∃ r, r = (Utf8.decode a pos).1 := ⟨_, rfl⟩
      obtain ⟨n, hn⟩ : ∃ n, n = (Utf8.decode a pos).2 := ⟨_, rfl⟩
      rw [← hr] at hnx HLess HMore HNext
      rw [← hn] at hit2 HNext
      clear hr hn hW1 hit hbw
      have HIT := Hid.mk hit2
      have hlt2 : w.heap.size < W1.heap.size := (Array.getElem?_eq_some_iff.1 hit2).1
      clear hit2
      have hpb1 : (0 : Int) ≤ (pos : Int) := by omega
      have hpb2 : (pos : Int) ≤ (b.size : Int) := by omega
      have hpa2 : (pos : Int) ≤ (a.size : Int) := by omega
      go_wp2_with fail
      refine (dec_any _ W1 (HT.out.below hbw2)).mono ?_
      rintro e w2 ⟨rfl, hx2⟩
      rw [decodeGo_ext]
      obtain ⟨s, hs⟩ : ∃ s, s = (goDec b pos).1 := ⟨_, rfl⟩
      rw [← hs] at HLess HMore HNext ⊢
      clear hs
      obtain ⟨sz, hsz⟩ : ∃ sz, sz = (goDec b pos).2 := ⟨_, rfl⟩
      rw [← hsz]
      clear hsz
      have hb2 : Below w.heap.size w w2 := bthen hbw2 hx2
      have hit3 : w2.heap[w.heap.size]? = some (.stringIter a (pos + n)) := (hx2.block _ hlt2).trans HIT.out
      have hlt3 : w.heap.size < w2.heap.size := Nat.lt_of_lt_of_le hlt2 hx2.size
      have HIT3 := Hid.mk hit3
      clear hit3 hnx
      by_cases h1 : r = 65533
      · subst h1
        go_wp2_with fail
        refine wp_region_held_drew (S := fun W' => Below w2.heap.size w2 W') (by kernel_rfl) (Below.drew (Below.refl _ _)) (fun hHeld => ?_)
        refine tk 0 qfc5_57_6_0 (some 28) (v := ?v1) rfl rfl (by kernel_rfl) hHeld (by rfl) (fun _ _ _ x => x) (fun w h => ?y1) ?_; (case y1 => (try dsimp only at h); go_simp; try (with_reducible rfl)); try simp only [Act.put, sa, s0, s1]
        refine tk 1 qfc5_57_6_1 (some 29) (v := ?v2) rfl rfl (by kernel_rfl) hHeld (by rfl) (fun _ _ _ x => x) (fun w h => ?y2) ?_; (case y2 => (try dsimp only at h); go_simp; try (with_reducible rfl)); try simp only [Act.put, sa, s0, s1]
        refine tk 2 qfc5_57_6_2 (some 30) (v := ?v3) rfl rfl (by kernel_rfl) hHeld (by rfl) (fun _ _ _ x => x) (fun w h => ?y3) ?_; (case y3 => (try dsimp only at h); go_simp; try (with_reducible rfl)); try simp only [Act.put, sa, s0, s1]
        refine tk 3 qfc5_57_6_3 (some 31) (v := ?v4) rfl rfl (by kernel_rfl) hHeld (by rfl) (fun _ _ _ x => x) (fun w h => ?y4) ?_; (case y4 => (try dsimp only at h); go_simp; try (with_reducible rfl)); try simp only [Act.put, sa, s0, s1]
        refine tk 4 qfc5_57_6_4 (some 32) (v := ?v5) rfl rfl (by kernel_rfl) hHeld (by rfl) (fun _ _ _ x => x) (fun w h => ?y5) ?_; (case y5 => (try dsimp only at h); go_simp; try (with_reducible rfl)); try simp only [Act.put, sa, s0, s1]
        refine tk 5 qfc5_57_6_5 (some 33) (v := ?v6) rfl rfl (by kernel_rfl) hHeld (by rfl) (fun _ _ _ x => x) (fun w h => ?y6) ?_; (case y6 => (try dsimp only at h); go_simp; try (with_reducible rfl)); try simp only [Act.put, sa, s0, s1]
        refine wpAnyH_ready (rs := [6]) (by kernel_rfl) (by simp) ?_
        refine AllReadyH.cons (o := qfc5_57_6_6) rfl (fun K hK => ?_) AllReadyH.nil
        go_simp
        refine Calls.mono (cmpS_any _ _ _) ?_
        rintro e wy1 ⟨rfl, hw1⟩
        have hy1 := below_same hw1
        clear hw1
        go_wp2_with fail
        refine hK.out _ _ (bthen hHeld hy1) (fun hHeld => ?_)
        clear hK K
        try simp only [Act.put, sa, s0, s1]
        refine tk 7 qfc5_57_6_7 (some 4) (v := ?v7) rfl rfl (by kernel_rfl) hHeld (by rfl) (fun _ _ _ x => x) (fun w h => ?y7) ?_; (case y7 => (try dsimp only at h); go_simp; try (with_reducible rfl)); try simp only [Act.put, sa, s0, s1]
        refine wpAnyH_done (by kernel_rfl) ?_ _
        rw [HOrd.out]
        go_wp2_with fail
        go_ret
        exact ⟨rfl, bthen hb2 hHeld⟩
      · by_cases h2 : s = 65533
        · subst h2
          have h1i : ¬ ((r : Nat) : Int) = 65533 := by omega
          go_wp2_with fail
          refine wp_region_held_drew (S := fun W' => Below w2.heap.size w2 W') (by kernel_rfl) (Below.drew (Below.refl _ _)) (fun hHeld => ?_)
          refine tk 0 qfc5_57_6_0 (some 28) (v := ?v8) rfl rfl (by kernel_rfl) hHeld (by rfl) (fun _ _ _ x => x) (fun w h => ?y8) ?_; (case y8 => (try dsimp only at h); go_simp; try (with_reducible rfl)); try simp only [Act.put, sa, s0, s1]
          refine tk 1 qfc5_57_6_1 (some 29) (v := ?v9) rfl rfl (by kernel_rfl) hHeld (by rfl) (fun _ _ _ x => x) (fun w h => ?y9) ?_; (case y9 => (try dsimp only at h); go_simp; try (with_reducible rfl)); try simp only [Act.put, sa, s0, s1]
          refine tk 2 qfc5_57_6_2 (some 30) (v := ?v10) rfl rfl (by kernel_rfl) hHeld (by rfl) (fun _ _ _ x => x) (fun w h => ?y10) ?_; (case y10 => (try dsimp only at h); go_simp; try (with_reducible rfl)); try simp only [Act.put, sa, s0, s1]
          refine tk 3 qfc5_57_6_3 (some 31) (v := ?v11) rfl rfl (by kernel_rfl) hHeld (by rfl) (fun _ _ _ x => x) (fun w h => ?y11) ?_; (case y11 => (try dsimp only at h); go_simp; try (with_reducible rfl)); try simp only [Act.put, sa, s0, s1]
          refine tk 4 qfc5_57_6_4 (some 32) (v := ?v12) rfl rfl (by kernel_rfl) hHeld (by rfl) (fun _ _ _ x => x) (fun w h => ?y12) ?_; (case y12 => (try dsimp only at h); go_simp; try (with_reducible rfl)); try simp only [Act.put, sa, s0, s1]
          refine tk 5 qfc5_57_6_5 (some 33) (v := ?v13) rfl rfl (by kernel_rfl) hHeld (by rfl) (fun _ _ _ x => x) (fun w h => ?y13) ?_; (case y13 => (try dsimp only at h); go_simp; try (with_reducible rfl)); try simp only [Act.put, sa, s0, s1]
          refine wpAnyH_ready (rs := [6]) (by kernel_rfl) (by simp) ?_
          refine AllReadyH.cons (o := qfc5_57_6_6) rfl (fun K hK => ?_) AllReadyH.nil
          go_simp
          refine Calls.mono (cmpS_any _ _ _) ?_
          rintro e wy1 ⟨rfl, hw1⟩
          have hy1 := below_same hw1
          clear hw1
          go_wp2_with fail
          refine hK.out _ _ (bthen hHeld hy1) (fun hHeld => ?_)
          clear hK K
          try simp only [Act.put, sa, s0, s1]
          refine tk 7 qfc5_57_6_7 (some 4) (v := ?v14) rfl rfl (by kernel_rfl) hHeld (by rfl) (fun _ _ _ x => x) (fun w h => ?y14) ?_; (case y14 => (try dsimp only at h); go_simp; try (with_reducible rfl)); try simp only [Act.put, sa, s0, s1]
          refine wpAnyH_done (by kernel_rfl) ?_ _
          rw [HOrd.out]
          go_wp2_with fail
          go_ret
          exact ⟨rfl, bthen hb2 hHeld⟩
        · have h1i : ¬ ((r : Nat) : Int) = 65533 := by omega
          have h2i : ¬ ((s : Nat) : Int) = 65533 := by omega
          have e1 : (((r : Nat) : Int) == 65533) = false := beq_eq_false_iff_ne.2 h1i
          have e2 : (((s : Nat) : Int) == 65533) = false := beq_eq_false_iff_ne.2 h2i
          by_cases h3 : r < s
          · have hv := HLess.out h1 h2 h3
            have hne : ¬ ((r : Nat) : Int) = ((s : Nat) : Int) := by omega
            have hnb : (((r : Nat) : Int) != ((s : Nat) : Int)) = true := bne_iff_ne.2 hne
            have HV := Hid.mk hv
            clear hv
            go_wp2_with fail
            refine (cmpR_any _ _ _).mono ?_
            rintro e w3 ⟨rfl, hw3⟩
            have hw4 := hw3.symm
            clear hw3
            subst hw4
            rw [ordI_lt (by omega)]
            go_wp2_with fail
            go_ret
            exact ⟨by rw [HV.out]; rfl, hb2⟩
          · by_cases h4 : s < r
            · have hv := HMore.out h1 h2 h4
              have hne : ¬ ((r : Nat) : Int) = ((s : Nat) : Int) := by omega
              have hnb : (((r : Nat) : Int) != ((s : Nat) : Int)) = true := bne_iff_ne.2 hne
              have HV := Hid.mk hv
              clear hv
              go_wp2_with fail
              refine (cmpR_any _ _ _).mono ?_
              rintro e w3 ⟨rfl, hw3⟩
              have hw4 := hw3.symm
              clear hw3
              subst hw4
              rw [ordI_gt (by omega)]
              go_wp2_with fail
              go_ret
              exact ⟨by rw [HV.out]; rfl, hb2⟩
            · have he : r = s := by omega
              have HN := Hid.mk (HNext.out h1 h2 he)
              subst he
              go_wp2_with fail
              go_roundw
              case rel => exact ⟨pos + n, HIT3.out, HN.out.1, hb2⟩
              case measure => rw [iterPos_at HIT3.out, HP0.out]; have := HN.out.2; omega
    · have hnx : ∀ ty, (Instr.next (.pointer (some ⟨w.heap.size, 0, none⟩)) true ty).run Tryd.prog wr = _ := fun ty => Lib.run_next_end_at wr w.heap.size a pos ty hit hp
      have he : pos = a.size := by omega
      subst he
      have HF := Hid.mk HAL.out.fin
      have hal : ordI (a.size : Int) (b.size : Int) = ordK a b := by
        rw [HF.out]
        split
        · exact ordI_lt (by omega)
        · exact ordI_eq (by omega)
      have HO := Hid.mk hal
      clear hal
      go_wp2_with fail
      refine (cmpJ_any _ _ _).mono ?_
      rintro e w3 ⟨rfl, hw3⟩
      have hw4 := hw3.symm
      clear hw3
      subst hw4
      rw [HO.out]
      go_wp2_with fail
      go_ret
      exact ⟨rfl, hbw⟩

end Go.Proofs.YtocgbeoglgkibaaDoor
