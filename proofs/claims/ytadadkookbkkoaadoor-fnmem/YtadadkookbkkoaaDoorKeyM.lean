/-
  Texts whose runes are whole have the order of their runes; no program is named here.
-/
import Derived.Lib.DecodeN
import Derived.Test.YtadadkookbkkoaaDoorStrM
namespace Go.Proofs.YtadadkookbkkoaaDoor
open Go Go.Lib Go.RowKit
set_option linter.unusedVariables false
set_option linter.unusedSimpArgs false
set_option maxRecDepth 100000

def bAt (l : List UInt8) (k : Nat) : Nat := (l[k]?.getD 0).toNat
def decL (l : List UInt8) : Nat × Nat := decodeN l.length (bAt l 0) (bAt l 1) (bAt l 2) (bAt l 3)

/-- A whole rune at the head of l: r, of n bytes. -/
def Whole (l : List UInt8) (r n : Nat) : Prop :=
  (∃ a t, l = a :: t ∧ a.toNat < 128 ∧ r = a.toNat ∧ n = 1) ∨
  (∃ a b t, l = a :: b :: t ∧ 194 ≤ a.toNat ∧ a.toNat < 224 ∧ b.toNat / 64 = 2 ∧ r = a.toNat % 32 * 64 + b.toNat % 64 ∧ n = 2) ∨
  (∃ a b c t, l = a :: b :: c :: t ∧ 224 ≤ a.toNat ∧ a.toNat < 240 ∧ b.toNat / 64 = 2 ∧ c.toNat / 64 = 2 ∧ r = a.toNat % 16 * 4096 + b.toNat % 64 * 64 + c.toNat % 64 ∧ 2048 ≤ r ∧ n = 3) ∨
  (∃ a b c d t, l = a :: b :: c :: d :: t ∧ 240 ≤ a.toNat ∧ a.toNat < 248 ∧ b.toNat / 64 = 2 ∧ c.toNat / 64 = 2 ∧ d.toNat / 64 = 2 ∧ r = a.toNat % 8 * 262144 + b.toNat % 64 * 4096 + c.toNat % 64 * 64 + d.toNat % 64 ∧ 65536 ≤ r ∧ n = 4)

set_option maxHeartbeats 2000000 in
theorem decN_cases {m p q u v r n : Nat} (h : decodeN m p q u v = (r, n)) (hr : r ≠ 65533) :
    (p < 128 ∧ r = p ∧ n = 1) ∨ (1 < m ∧ 194 ≤ p ∧ p < 224 ∧ q / 64 = 2 ∧ r = p % 32 * 64 + q % 64 ∧ n = 2) ∨
    (2 < m ∧ 224 ≤ p ∧ p < 240 ∧ q / 64 = 2 ∧ u / 64 = 2 ∧ r = p % 16 * 4096 + q % 64 * 64 + u % 64 ∧ 2048 ≤ r ∧ n = 3) ∨
    (3 < m ∧ 240 ≤ p ∧ p < 248 ∧ q / 64 = 2 ∧ u / 64 = 2 ∧ v / 64 = 2 ∧ r = p % 8 * 262144 + q % 64 * 4096 + u % 64 * 64 + v % 64 ∧ 65536 ≤ r ∧ n = 4) := by
  unfold decodeN at h
  by_cases h0 : p < 128
  · rw [if_pos h0] at h
    have h1 := congrArg Prod.fst h
    have h2 := congrArg Prod.snd h
    exact .inl ⟨h0, h1.symm, h2.symm⟩
  rw [if_neg h0] at h
  by_cases h1 : p / 32 = 6 ∧ (1 < m ∧ q / 64 = 2)
  · rw [if_pos h1] at h
    by_cases h2 : p % 32 * 64 + q % 64 ≥ 128
    · rw [if_pos h2] at h
      have e1 := congrArg Prod.fst h
      have e2 := congrArg Prod.snd h
      exact .inr (.inl ⟨h1.2.1, by omega, by omega, h1.2.2, e1.symm, e2.symm⟩)
    · rw [if_neg h2] at h
      exact absurd (congrArg Prod.fst h).symm hr
  rw [if_neg h1] at h
  by_cases h2 : p / 16 = 14 ∧ (1 < m ∧ q / 64 = 2) ∧ (2 < m ∧ u / 64 = 2)
  · rw [if_pos h2] at h
    split at h
    · rename_i h3
      have e1 := congrArg Prod.fst h
      have e2 := congrArg Prod.snd h
      simp only at e1 e2
      exact .inr (.inr (.inl ⟨h2.2.2.1, by omega, by omega, h2.2.1.2, h2.2.2.2, e1.symm, by omega, e2.symm⟩))
    · exact absurd (congrArg Prod.fst h).symm hr
  rw [if_neg h2] at h
  by_cases h3 : p / 8 = 30 ∧ (1 < m ∧ q / 64 = 2) ∧ (2 < m ∧ u / 64 = 2) ∧ (3 < m ∧ v / 64 = 2)
  · rw [if_pos h3] at h
    split at h
    · rename_i h4
      have e1 := congrArg Prod.fst h
      have e2 := congrArg Prod.snd h
      simp only at e1 e2
      exact .inr (.inr (.inr ⟨h3.2.2.2.1, by omega, by omega, h3.2.1.2, h3.2.2.1.2, h3.2.2.2.2, e1.symm, by omega, e2.symm⟩))
    · exact absurd (congrArg Prod.fst h).symm hr
  rw [if_neg h3] at h
  exact absurd (congrArg Prod.fst h).symm hr

theorem whole_of {l : List UInt8} {r n : Nat} (h : decL l = (r, n)) (hl : l ≠ []) (hr : r ≠ 65533) : Whole l r n := by
  have hc := decN_cases h hr
  clear h
  match l, hl, hc with
  | a :: t, _, .inl ⟨h1, h2, h3⟩ => exact .inl ⟨a, t, rfl, h1, h2, h3⟩
  | [a], _, .inr (.inl ⟨h1, _⟩) => simp at h1
  | a :: b :: t, _, .inr (.inl ⟨_, h1, h2, h3, h4, h5⟩) => exact .inr (.inl ⟨a, b, t, rfl, h1, h2, h3, h4, h5⟩)
  | [a], _, .inr (.inr (.inl ⟨h1, _⟩)) => simp at h1
  | [a, b], _, .inr (.inr (.inl ⟨h1, _⟩)) => simp at h1
  | a :: b :: c :: t, _, .inr (.inr (.inl ⟨_, h1, h2, h3, h4, h5, h6, h7⟩)) => exact .inr (.inr (.inl ⟨a, b, c, t, rfl, h1, h2, h3, h4, h5, h6, h7⟩))
  | [a], _, .inr (.inr (.inr ⟨h1, _⟩)) => simp at h1
  | [a, b], _, .inr (.inr (.inr ⟨h1, _⟩)) => simp at h1
  | [a, b, c], _, .inr (.inr (.inr ⟨h1, _⟩)) => simp at h1
  | a :: b :: c :: d :: t, _, .inr (.inr (.inr ⟨_, h1, h2, h3, h4, h5, h6, h7, h8⟩)) => exact .inr (.inr (.inr ⟨a, b, c, d, t, rfl, h1, h2, h3, h4, h5, h6, h7, h8⟩))

theorem u8_ext {a b : UInt8} (h : a.toNat = b.toNat) : a = b := UInt8.toNat_inj.1 h
theorem u8_lt {a b : UInt8} : a < b ↔ a.toNat < b.toNat := UInt8.lt_iff_toNat_lt

theorem whole_same {x y : List UInt8} {r n k : Nat} (hx : Whole x r n) (hy : Whole y r k) : n = k ∧ n ≤ x.length ∧ n ≤ y.length ∧ x.take n = y.take n ∧ 1 ≤ n := by
  rcases hx with ⟨a, t, rfl, h1, h2, rfl⟩ | ⟨a, b, t, rfl, h1, h2, h3, h4, rfl⟩ | ⟨a, b, c, t, rfl, h1, h2, h3, h4, h5, h6, rfl⟩ | ⟨a, b, c, d, t, rfl, h1, h2, h3, h4, h5, h6, h7, rfl⟩ <;>
  rcases hy with ⟨a', t', rfl, g1, g2, rfl⟩ | ⟨a', b', t', rfl, g1, g2, g3, g4, rfl⟩ | ⟨a', b', c', t', rfl, g1, g2, g3, g4, g5, g6, rfl⟩ | ⟨a', b', c', d', t', rfl, g1, g2, g3, g4, g5, g6, g7, rfl⟩ <;>
  first
  | (exfalso; omega)
  | (have e1 : a = a' := u8_ext (by omega)
     have e2 : b = b' := u8_ext (by omega)
     have e3 : c = c' := u8_ext (by omega)
     have e4 : d = d' := u8_ext (by omega)
     subst e1 e2 e3 e4
     exact ⟨rfl, by simp, by simp, by simp, by omega⟩)
  | (have e1 : a = a' := u8_ext (by omega)
     have e2 : b = b' := u8_ext (by omega)
     have e3 : c = c' := u8_ext (by omega)
     subst e1 e2 e3
     exact ⟨rfl, by simp, by simp, by simp, by omega⟩)
  | (have e1 : a = a' := u8_ext (by omega)
     have e2 : b = b' := u8_ext (by omega)
     subst e1 e2
     exact ⟨rfl, by simp, by simp, by simp, by omega⟩)
  | (have e1 : a = a' := u8_ext (by omega)
     subst e1
     exact ⟨rfl, by simp, by simp, by simp, by omega⟩)

theorem bl_head {a b : UInt8} {x y : List UInt8} (h : a.toNat < b.toNat) : Op.bytesLess (a :: x) (b :: y) = true := by
  simp [Op.bytesLess, u8_lt.2 h]
theorem bl_tail {a : UInt8} {x y : List UInt8} : Op.bytesLess (a :: x) (a :: y) = Op.bytesLess x y := by
  simp [Op.bytesLess]

theorem whole_less {x y : List UInt8} {r s n k : Nat} (hx : Whole x r n) (hy : Whole y s k) (h : r < s) : Op.bytesLess x y = true := by
  rcases hx with ⟨a, t, rfl, h1, h2, rfl⟩ | ⟨a, b, t, rfl, h1, h2, h3, h4, rfl⟩ | ⟨a, b, c, t, rfl, h1, h2, h3, h4, h5, h6, rfl⟩ | ⟨a, b, c, d, t, rfl, h1, h2, h3, h4, h5, h6, h7, rfl⟩ <;>
  rcases hy with ⟨a', t', rfl, g1, g2, rfl⟩ | ⟨a', b', t', rfl, g1, g2, g3, g4, rfl⟩ | ⟨a', b', c', t', rfl, g1, g2, g3, g4, g5, g6, rfl⟩ | ⟨a', b', c', d', t', rfl, g1, g2, g3, g4, g5, g6, g7, rfl⟩ <;>
  first
  | (exfalso; omega)
  | exact bl_head (by omega)
  | (by_cases e1 : a.toNat = a'.toNat
     · have e1 := u8_ext e1
       subst e1
       rw [bl_tail]
       first
       | exact bl_head (by omega)
       | (by_cases e2 : b.toNat = b'.toNat
          · have e2 := u8_ext e2
            subst e2
            rw [bl_tail]
            first
            | exact bl_head (by omega)
            | (by_cases e3 : c.toNat = c'.toNat
               · have e3 := u8_ext e3
                 subst e3
                 rw [bl_tail]
                 exact bl_head (by omega)
               · exact bl_head (by omega))
          · exact bl_head (by omega))
     · exact bl_head (by omega))

theorem bl_pre : ∀ (p : List UInt8) {x y : List UInt8}, Op.bytesLess (p ++ x) (p ++ y) = Op.bytesLess x y
  | [], _, _ => rfl
  | a :: p, x, y => by rw [List.cons_append, List.cons_append, bl_tail, bl_pre p]

theorem bl_drop {x y : List UInt8} {i : Nat} (h : x.take i = y.take i) : Op.bytesLess x y = Op.bytesLess (x.drop i) (y.drop i) := by
  conv => lhs; rw [← List.take_append_drop i x, ← List.take_append_drop i y, h]
  exact bl_pre _


theorem bAt_get (s : ByteArray) (j : Nat) : bAt s.toList j = (s.get! j).toNat := by
  unfold bAt
  rw [ByteArray.toList_eq, Array.getElem?_toList]
  show _ = (s.data[j]!).toNat
  rw [getElem!_def]
  cases s.data[j]? <;> rfl
theorem bAt_drop (l : List UInt8) (i k : Nat) : bAt (l.drop i) k = bAt l (i + k) := by
  unfold bAt
  rw [List.getElem?_drop]
theorem decode_decL (s : ByteArray) (i : Nat) : Utf8.decode s i = decL (s.toList.drop i) := by
  rw [decode_at]
  unfold decL
  rw [bAt_drop, bAt_drop, bAt_drop, bAt_drop, bAt_get, bAt_get, bAt_get, bAt_get, List.length_drop, k_len]
  rfl
theorem toList_extract (s : ByteArray) (i : Nat) : (s.extract i s.size).toList = s.toList.drop i := by
  rw [ByteArray.toList_eq, ByteArray.toList_eq]
  simp
  apply List.take_of_length_le
  simp

/-- Below, the same, above: as cmp.Compare says it. -/
def ordK (a b : ByteArray) : Int := if kLt a b then -1 else if kLt b a then 1 else 0
theorem ordK_lt {a b : ByteArray} (h : kLt a b = true) : ordK a b = -1 := by unfold ordK; rw [if_pos h]
theorem ordK_gt {a b : ByteArray} (h : kLt b a = true) : ordK a b = 1 := by unfold ordK; rw [kLt_asymm h, if_pos h]; rfl
theorem ordK_eq {a b : ByteArray} (h : a = b) : ordK a b = 0 := by unfold ordK; rw [h, kLt_irrefl]; rfl

/-- Both go on alike up to a place. -/
structure Alike (a b : ByteArray) (pos : Nat) : Prop where
  la : pos ≤ a.size
  lb : pos ≤ b.size
  eq : a.toList.take pos = b.toList.take pos

theorem Alike.zero (a b : ByteArray) : Alike a b 0 := ⟨Nat.zero_le _, Nat.zero_le _, rfl⟩
theorem Alike.kLt {a b : ByteArray} {pos : Nat} (h : Alike a b pos) : kLt a b = kLt (a.extract pos a.size) (b.extract pos b.size) := by
  unfold Go.Proofs.YtadadkookbkkoaaDoor.kLt
  rw [toList_extract, toList_extract]
  exact bl_drop h.eq
theorem Alike.symm {a b : ByteArray} {pos : Nat} (h : Alike a b pos) : Alike b a pos := ⟨h.lb, h.la, h.eq.symm⟩
theorem Alike.ord {a b : ByteArray} {pos : Nat} (h : Alike a b pos) : ordK (a.extract pos a.size) (b.extract pos b.size) = ordK a b := by
  unfold ordK
  rw [h.kLt, h.symm.kLt]
/-- At the end of a. -/
theorem Alike.fin {a b : ByteArray} (h : Alike a b a.size) : ordK a b = if a.size < b.size then -1 else 0 := by
  have h1 : a.toList.take a.size = a.toList := by rw [← k_len]; exact List.take_length
  have hb := h.eq
  rw [h1] at hb
  split
  · rename_i hlt
    apply ordK_lt
    rw [h.kLt]
    unfold Go.Proofs.YtadadkookbkkoaaDoor.kLt
    rw [toList_extract, toList_extract]
    have e1 : a.toList.drop a.size = [] := List.drop_eq_nil_of_le (by rw [k_len]; exact Nat.le_refl _)
    rw [e1]
    match hm : b.toList.drop a.size with
    | [] =>
      have := congrArg List.length hm
      rw [List.length_drop, k_len] at this
      simp at this
      omega
    | x :: r => rfl
  · rename_i hlt
    have := h.lb
    have e : a.size = b.size := by omega
    apply ordK_eq
    apply k_eq.1
    rw [beq_iff_eq, hb, e, ← k_len]
    exact List.take_length
/-- The runes of a and of the rest of b, both whole. -/
def goDec (b : ByteArray) (pos : Nat) : Nat × Nat := if b.size - pos = 0 then (65533, 0) else Utf8.decode (b.extract pos b.size) 0
theorem goDec_L {b : ByteArray} {pos : Nat} (h : (goDec b pos).1 ≠ 65533) : pos < b.size ∧ goDec b pos = decL (b.toList.drop pos) := by
  unfold goDec at h ⊢
  by_cases hz : b.size - pos = 0
  · rw [if_pos hz] at h; exact absurd rfl h
  · rw [if_neg hz] at h ⊢
    refine ⟨by omega, ?_⟩
    rw [decode_decL, toList_extract, List.drop_zero]
theorem drop_ne {s : ByteArray} {pos : Nat} (h : pos < s.size) : s.toList.drop pos ≠ [] := fun e => by
  have := congrArg List.length e
  rw [List.length_drop, k_len] at this
  simp at this
  omega
theorem Alike.runes {a b : ByteArray} {pos : Nat} (h : Alike a b pos) (ha : pos < a.size) (h1 : (Utf8.decode a pos).1 ≠ 65533) (h2 : (goDec b pos).1 ≠ 65533) :
    Whole (a.toList.drop pos) (Utf8.decode a pos).1 (Utf8.decode a pos).2 ∧ Whole (b.toList.drop pos) (goDec b pos).1 (goDec b pos).2 := by
  obtain ⟨hb, he⟩ := goDec_L h2
  refine ⟨whole_of (by rw [decode_decL]) (drop_ne ha) h1, ?_⟩
  exact whole_of (by rw [he]) (drop_ne hb) h2
theorem Alike.less {a b : ByteArray} {pos : Nat} (h : Alike a b pos) (ha : pos < a.size) (h1 : (Utf8.decode a pos).1 ≠ 65533) (h2 : (goDec b pos).1 ≠ 65533) (hlt : (Utf8.decode a pos).1 < (goDec b pos).1) : ordK a b = -1 := by
  obtain ⟨w1, w2⟩ := h.runes ha h1 h2
  apply ordK_lt
  rw [h.kLt]
  unfold Go.Proofs.YtadadkookbkkoaaDoor.kLt
  rw [toList_extract, toList_extract]
  exact whole_less w1 w2 hlt
theorem Alike.more {a b : ByteArray} {pos : Nat} (h : Alike a b pos) (ha : pos < a.size) (h1 : (Utf8.decode a pos).1 ≠ 65533) (h2 : (goDec b pos).1 ≠ 65533) (hlt : (goDec b pos).1 < (Utf8.decode a pos).1) : ordK a b = 1 := by
  obtain ⟨w1, w2⟩ := h.runes ha h1 h2
  apply ordK_gt
  rw [h.symm.kLt]
  unfold Go.Proofs.YtadadkookbkkoaaDoor.kLt
  rw [toList_extract, toList_extract]
  exact whole_less w2 w1 hlt
theorem Alike.next {a b : ByteArray} {pos : Nat} (h : Alike a b pos) (ha : pos < a.size) (h1 : (Utf8.decode a pos).1 ≠ 65533) (h2 : (goDec b pos).1 ≠ 65533) (he : (Utf8.decode a pos).1 = (goDec b pos).1) : Alike a b (pos + (Utf8.decode a pos).2) ∧ 1 ≤ (Utf8.decode a pos).2 := by
  obtain ⟨w1, w2⟩ := h.runes ha h1 h2
  rw [← he] at w2
  obtain ⟨e1, e2, e3, e4, e5⟩ := whole_same w1 w2
  rw [List.length_drop, k_len] at e2 e3
  refine ⟨⟨by omega, by omega, ?_⟩, e5⟩
  rw [List.take_add, List.take_add, h.eq, e4]

end Go.Proofs.YtadadkookbkkoaaDoor
