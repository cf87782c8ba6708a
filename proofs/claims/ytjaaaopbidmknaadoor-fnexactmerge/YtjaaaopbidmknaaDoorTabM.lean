/-
  A table's bytes, as plain functions on lists: blocks of four pairs, the index, the place.
-/
import Derived.Test.YtjaaaopbidmknaaDoorFltM
import Derived.Test.YtjaaaopbidmknaaDoorPutT
import Derived.Test.YtjaaaopbidmknaaDoorFrame
import Derived.Test.YtjaaaopbidmknaaDoorPairL
namespace Go.Proofs.YtjaaaopbidmknaaDoor
open Go.RowKit
set_option linter.unusedVariables false
set_option linter.unusedSimpArgs false

/-- How many first elements two lists have in common. -/
def comL : List UInt8 → List UInt8 → Nat
  | x :: xs, y :: ys => if x = y then comL xs ys + 1 else 0
  | [], _ => 0
  | _ :: _, [] => 0
theorem comL_le (a b : List UInt8) : comL a b ≤ a.length ∧ comL a b ≤ b.length := by
  induction a generalizing b with
  | nil => simp [comL]
  | cons x xs ih =>
    cases b with
    | nil => simp [comL]
    | cons y ys =>
      have := ih ys
      simp only [comL]
      split <;> simp <;> omega
theorem comL_eq (a b : List UInt8) (k : Nat) (ha : k ≤ a.length) (hb : k ≤ b.length) (h : ∀ j, j < k → a[j]? = b[j]?) (he : k = a.length ∨ k = b.length ∨ a[k]? ≠ b[k]?) : comL a b = k := by
  induction k generalizing a b with
  | zero =>
    cases a with
    | nil => cases b <;> rfl
    | cons x xs =>
      cases b with
      | nil => rfl
      | cons y ys =>
        simp only [comL]
        rw [if_neg]
        rintro rfl
        simp at he
  | succ k ih =>
    cases a with
    | nil => simp at ha
    | cons x xs =>
      cases b with
      | nil => simp at hb
      | cons y ys =>
        have h0 := h 0 (by omega)
        simp at h0
        subst h0
        simp only [comL]
        rw [if_pos trivial, ih xs ys (by simpa using ha) (by simpa using hb) (fun j hj => by have := h (j + 1) (by omega); simpa using this) (by simpa using he)]
def com (a b : ByteArray) : Nat := comL a.data.toList b.data.toList
theorem com_le (a b : ByteArray) : com a b ≤ a.size ∧ com a b ≤ b.size := comL_le _ _

def goneI (p : MPair) : Int := if p.fGone then 1 else 0
/-- A pair behind another key. -/
def pairB (last : ByteArray) (p : MPair) : List Int :=
  putText (putText (putNum (clampN (com last p.fKey))) (p.fKey.extract (com last p.fKey) p.fKey.size) ++ [goneI p]) p.fVal
def lastK : ByteArray → List MPair → ByteArray
  | k, [] => k
  | _, p :: ps => lastK p.fKey ps
def blockB : ByteArray → List MPair → List Int
  | _, [] => []
  | k, p :: ps => pairB k p ++ blockB p.fKey ps
theorem blockB_snoc (k : ByteArray) (l : List MPair) (p : MPair) : blockB k (l ++ [p]) = blockB k l ++ pairB (lastK k l) p := by
  induction l generalizing k with
  | nil => simp [blockB, lastK]
  | cons q l ih => simp [blockB, lastK, ih]
theorem lastK_snoc (k : ByteArray) (l : List MPair) (p : MPair) : lastK k (l ++ [p]) = p.fKey := by
  induction l generalizing k with
  | nil => rfl
  | cons q l ih => simp [lastK, ih]
theorem strInts_ok (s : ByteArray) : BytesOk (strInts s) := by
  intro z hz
  simp only [strInts, List.mem_map] at hz
  obtain ⟨b, _, rfl⟩ := hz
  have := b.toNat_lt
  omega
theorem strInts_byteInts (s : ByteArray) : strInts s = byteInts s := by simp [strInts, byteInts]
theorem putText_ok {zs : List Int} (h : BytesOk zs) (s : ByteArray) : BytesOk (putText zs s) := (h.append (putNum_ok _)).append (strInts_ok s)
theorem putText_pre (a b : List Int) (s : ByteArray) : putText (a ++ b) s = a ++ putText b s := by simp [putText]
theorem goneI_ok (p : MPair) : BytesOk [goneI p] := by
  intro z hz
  simp only [List.mem_singleton] at hz
  subst hz
  unfold goneI
  split <;> omega
theorem pairB_ok (k : ByteArray) (p : MPair) : BytesOk (pairB k p) := putText_ok ((putText_ok (putNum_ok _) _).append (goneI_ok p)) _
theorem blockB_ok (k : ByteArray) (l : List MPair) : BytesOk (blockB k l) := by
  induction l generalizing k with
  | nil => intro z hz; simp [blockB] at hz
  | cons p l ih => exact (pairB_ok k p).append (ih _)
theorem putText_len (zs : List Int) (s : ByteArray) : (putText zs s).length ≤ zs.length + 5 + s.size := by
  have := (putNum_length (clampN s.size)).2
  simp only [putText, List.length_append, strInts_length]
  omega
theorem ext_size (s : ByteArray) (n : Nat) : (s.extract n s.size).size ≤ s.size := by rw [ByteArray.size_extract]; omega
theorem pairB_len (k : ByteArray) (p : MPair) : (pairB k p).length ≤ 16 + wPair p := by
  have h1 := putText_len (putText (putNum (clampN (com k p.fKey))) (p.fKey.extract (com k p.fKey) p.fKey.size) ++ [goneI p]) p.fVal
  have h2 := putText_len (putNum (clampN (com k p.fKey))) (p.fKey.extract (com k p.fKey) p.fKey.size)
  have h3 := (putNum_length (clampN (com k p.fKey))).2
  have h4 := ext_size p.fKey (com k p.fKey)
  have h5 : wPair p = p.fKey.size + p.fVal.size := rfl
  rw [List.length_append, List.length_singleton] at h1
  unfold pairB
  omega
theorem blockB_len (k : ByteArray) (l : List MPair) : (blockB k l).length ≤ 16 * l.length + sumW wPair l := by
  induction l generalizing k with
  | nil => simp [blockB]
  | cons p l ih =>
    have h1 := pairB_len k p
    have h2 := ih p.fKey
    simp only [blockB, List.length_append, List.length_cons, sumW]
    omega

/-- The pairs of a block. -/
def blk (l : List MPair) (i : Nat) : List MPair := (l.drop (4 * i)).take 4
def outB (l : List MPair) : Nat → List Int
  | 0 => []
  | i + 1 => outB l i ++ frame (blockB ByteArray.empty (blk l i))
def idx1 (l : List MPair) (i : Nat) : List Int := putText [] (lastK ByteArray.empty (blk l i)) ++ putNum (clampN (outB l i).length)
def idxB (l : List MPair) : Nat → List Int
  | 0 => []
  | i + 1 => idxB l i ++ idx1 l i
def nBlk (l : List MPair) : Nat := (l.length + 3) / 4
def keysP (l : List MPair) : List ByteArray := l.map fun p => p.fKey
def tabB (l : List MPair) : List Int :=
  outB l (nBlk l) ++ frame (putNum (clampN (nBlk l)) ++ idxB l (nBlk l) ++ flt (keysP l)) ++ four (outB l (nBlk l)).length

end Go.Proofs.YtjaaaopbidmknaaDoor
