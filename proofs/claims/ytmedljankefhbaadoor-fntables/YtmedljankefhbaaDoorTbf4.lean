/-
  Part 5 of the texts that the proof leans on.
-/
import Derived.Test.YtmedljankefhbaaDoorTbf1
import Derived.Test.YtmedljankefhbaaDoorChecked
import Derived.Test.YtmedljankefhbaaDoorTbf3
import Derived.Test.YtmedljankefhbaaDoorTbf0
import Derived.Deep.RegionHeld3
import Derived.Test.YtmedljankefhbaaDoorTbf2
import Derived.Test.YtmedljankefhbaaDoorRows
import Derived.Laws.Bits128
set_option linter.unusedVariables false
set_option linter.unusedSimpArgs false
set_option maxRecDepth 10000

namespace Go.Proofs.YtmedljankefhbaaDoor
open Go.RowKit

/-- The strings that a slice's cells hold. -/
def RdT (B : Nat) (w : World) (a : Option Addr) (l : List ByteArray) : Prop :=
  ∀ j, (h : j < l.length) → ∃ b off, a = some ⟨b, off, none⟩ ∧ b < B ∧ w.cell? ⟨b, off + j, none⟩ = some (.string l[j])
def rdT (B : Nat) (w : World) (v : Value) (l : List ByteArray) : Prop := ∃ a c, v = .slice a l.length c ∧ l.length ≤ c ∧ c ≤ 9223372036854775807 ∧ RdT B w a l
def ownT (e : TypeId) (w : World) (v : Value) (l : List ByteArray) (F : List Nat) : Prop := w.ownsRow 0 e 1 v l.length (l.map Value.string) ∧ F = v.ownBlock.toList

theorem RdT.below {B : Nat} {w w' : World} {a : Option Addr} {l : List ByteArray} (h : RdT B w a l) (hb : Below B w w') : RdT B w' a l := by
  intro j hj
  obtain ⟨b, off, e, hB, hc⟩ := h j hj
  exact ⟨b, off, e, hB, (hb.cell (p := ⟨b, off + j, none⟩) hB).trans hc⟩
theorem rdT.below {B : Nat} {w w' : World} {v : Value} {l : List ByteArray} (h : rdT B w v l) (hb : Below B w w') : rdT B w' v l := by
  obtain ⟨a, c, e, h1, h2, h3⟩ := h
  exact ⟨a, c, e, h1, h2, h3.below hb⟩
theorem rdT.mono {B B' : Nat} {w : World} {v : Value} {l : List ByteArray} (h : rdT B w v l) (hB : B ≤ B') : rdT B' w v l := by
  obtain ⟨a, c, e, h1, h2, h3⟩ := h
  refine ⟨a, c, e, h1, h2, fun j hj => ?_⟩
  obtain ⟨b, off, e, hb, hc⟩ := h3 j hj
  exact ⟨b, off, e, by omega, hc⟩
theorem ownT.frame {e : TypeId} {w w' : World} {v : Value} {l : List ByteArray} {F : List Nat} (h : ownT e w v l F) (hb : ∀ k, k ∈ F → w'.heap[k]? = w.heap[k]?) : ownT e w' v l F := by
  obtain ⟨h1, rfl⟩ := h
  exact ⟨own_of_block h1 (fun k hk => hb k (by simp [hk])), rfl⟩
theorem ownT.lt {e : TypeId} {w : World} {v : Value} {l : List ByteArray} {F : List Nat} (h : ownT e w v l F) : ∀ k, k ∈ F → k < w.heap.size := by
  obtain ⟨h1, rfl⟩ := h
  intro k hk
  exact (h1.lt k (by simpa using hk)).2
theorem rdT_own {e : TypeId} {w : World} {v : Value} {l : List ByteArray} {F : List Nat} (h : ownT e w v l F) : rdT w.heap.size w v l := by
  obtain ⟨h1, rfl⟩ := h
  rcases h1.2 with ⟨rfl, h'⟩ | ⟨g, cap, cur, rfl, hb, hg, hnc, hm, _⟩
  · exact ⟨none, 0, by rw [h'], by omega, by omega, fun j hj => by omega⟩
  · refine ⟨_, cap, rfl, hnc, by simpa [maxLen] using hm, fun j hj => ⟨g, 0, rfl, (h1.lt g rfl).2, ?_⟩⟩
    have := h1.cellAt j (by omega)
    rw [Nat.zero_add, this]
    simp [hj]


theorem Tryd.infoOfStr : (Tryd.prog.info? 9).map (fun i => (i.zero, i.size, i.bytes)) = some (some (.string ByteArray.empty), 1, 16) := by kernel_rfl


def rdB (B : Nat) (w : World) (v : Value) (zs : List Int) : Prop := ∃ a c, v = .slice a zs.length c ∧ LeafB B w a c zs
theorem rdB.below {B : Nat} {w w' : World} {v : Value} {zs : List Int} (h : rdB B w v zs) (hb : Below B w w') : rdB B w' v zs := by
  obtain ⟨a, c, e, h1⟩ := h
  exact ⟨a, c, e, h1.below hb⟩
theorem rdB.mono {B B' : Nat} {w : World} {v : Value} {zs : List Int} (h : rdB B w v zs) (hB : B ≤ B') : rdB B' w v zs := by
  obtain ⟨a, c, e, h1⟩ := h
  exact ⟨a, c, e, h1.mono hB⟩
theorem rdB_own {e : TypeId} {w : World} {v : Value} {zs : List Int} {F : List Nat} (h : ownB e w v zs F) : rdB w.heap.size w v zs := h.read




theorem shl_byte {k : Nat} (h : k < 8) : IntKind.u8.wrap (1 * 2 ^ k) = 2 ^ k := by
  have := pow8 h
  rw [IntKind.wrap_u8', Int.one_mul]
  omega
theorem shl_byte' {k : Nat} (h : k < 8) : IntKind.u8.wrap (2 ^ k) = 2 ^ k := by
  have := pow8 h
  rw [IntKind.wrap_u8']
  omega
/-- A bit that is set in a row of one's own. -/
theorem bit_own {w : World} {base e g : Nat} {f : List Int} {n : Int} (hf : f.length = 8) (h0 : 0 ≤ n) (h1 : n < 64)
    (h : w.ownsRow base e 1 (.slice (some ⟨g, 0, none⟩) 8 8) 8 (f.map (Value.int .u8))) :
    w.cell? ⟨g, (n / 8).toNat, none⟩ = some (.int .u8 (f.getD (n / 8).toNat 0)) ∧ w.frozen? ⟨g, (n / 8).toNat, none⟩ = false ∧
      (w.setCell ⟨g, (n / 8).toNat, none⟩ (.int .u8 (orB (f.getD (n / 8).toNat 0) (2 ^ (n % 8).toNat)))).ownsRow base e 1 (.slice (some ⟨g, 0, none⟩) 8 8) 8 ((bitOn f n).map (Value.int .u8)) := by
  refine ⟨?_, ?_, ?_⟩
  · have h2 := h.cellAt (n / 8).toNat (by omega)
    rw [h2]
    have : (n / 8).toNat < f.length := by omega
    simp [this]
  · exact h.frozenAt (n / 8).toNat
  · have h2 := (h.stored (n / 8).toNat (.int .u8 (orB (f.getD (n / 8).toNat 0) (2 ^ (n % 8).toNat)))).1
    unfold bitOn
    rw [List.map_set]
    exact h2

set_option maxHeartbeats 800000 in
theorem implFilter_any (a : Option Addr) (n cap : Nat) (l : List ByteArray) (w : World) (hx : l.length = n) (hlen : n ≤ 9223372036854775807) (hs : ∀ s, s ∈ l → s.size ≤ 140737488351232) (hr : RdT w.heap.size w a l) (ht : TabAt w) :
    Calls Tryd.prog 10 #[.slice a n cap] w fun e w' => ∃ v, e = .returned v ∧
      w'.ownsRow w.heap.size 5 1 v 8 ((flt l).map (Value.int .u8)) ∧ Below w.heap.size w w' := by
  obtain ⟨i0, hi, hz0, hz1, hz2⟩ := info_parts Tryd.info5
  have HX := Hid.mk hx
  clear hx
  go_enter Tryd.func10, Tryd.ntmps10
  go_wp2_with (at_make; refine wpList_make_full _ rfl _ _ 22 rfl w.heap.size 5 i0 (.int .u8 0) 1 Tryd.underlying22 hi hz0 hz1 .i64 .i64 _ _ 8 rfl rfl rfl rfl ?c1 ?c2 (Nat.le_refl _) ?_)
  case c1 => rw [hz2]; omega
  case c2 => unfold maxLen; omega
  intro w1 hown hgr
  have hb1 : Below w.heap.size w w1 := (Below.refl _ _).grown hgr (Nat.le_refl _) (fun k h => by cases h)
  rw [toList_madeCells_one] at hown
  clear hgr hi hz0 hz1 hz2
  go_wp2_with fail
  go_loopw [11] (fun i wr => ∃ k : Nat, k ≤ n ∧ i = .int .i64 k ∧ wr.ownsRow w.heap.size 5 1 (.slice (some ⟨w.heap.size, 0, none⟩) 8 8) 8 ((flt (l.take k)).map (Value.int .u8)) ∧ Below w.heap.size w wr) (fun i _ => n - (intOf i).toNat)
  case atStart => exact ⟨0, Nat.zero_le _, rfl, by simpa [flt] using hown, hb1⟩
  case round =>
    obtain ⟨k, hk, rfl, hownk, hbk⟩ := hrel
    clear hown hb1
    by_cases hlt : k < n
    · have hkl : k < l.length := by rw [HX.out]; exact hlt
      have HS := Hid.mk (flt_step hkl)
      have hsk := hs _ (List.getElem_mem hkl)
      obtain ⟨b1, o1, rfl, _, hc1⟩ := (hr.below hbk) k hkl
      have hfl := flt_length (l.take k)
      have hfo := flt_ok (l.take k)
      generalize l[k] = s at *
      generalize flt (l.take k) = f at *
      go_wp2_with fail
      refine (implMark_any s wr hsk (ht.below hbk ht.size)).mono ?_
      rintro e w2 ⟨rfl, hb2⟩
      have hbk2 := hbk.trans (hb2.mono hbk.size)
      have hown2 := own_below hownk hb2
      have g1 := mk1_bd s
      have g2 := mk2_bd s
      have HS2 : Hid (flt (l.take (k + 1)) = bitOn (bitOn f (mk1 s)) (mk2 s)) := HS.out
      generalize mk1 s = x1 at *
      generalize mk2 s = x2 at *
      obtain ⟨q1, q2, q3⟩ := bit_own hfl g1.1 g1.2 hown2
      have e11 : x1.tdiv 8 = x1 / 8 := Int.tdiv_eq_ediv_of_nonneg g1.1
      have e12 : x1.tmod 8 = x1 % 8 := Int.tmod_eq_emod_of_nonneg g1.1
      have e13 := shl_byte (k := (x1 % 8).toNat) (by omega)
      have e14 := shl_byte' (k := (x1 % 8).toNat) (by omega)
      have hp1 := pow8 (k := (x1 % 8).toNat) (by omega)
      have hy1 := getD_byte hfo (x1 / 8).toNat
      have ho1 : bits .or .u8 (f.getD (x1 / 8).toNat 0) (2 ^ (x1 % 8).toNat) = orB (f.getD (x1 / 8).toNat 0) (2 ^ (x1 % 8).toNat) := u8_or _ _ hy1.1 (by omega) hp1.1 (by omega)
      have hfl' : (bitOn f x1).length = 8 := by rw [bitOn_length]; exact hfl
      have hfo' : BytesOk (bitOn f x1) := bitOn_ok hfo
      generalize bitOn f x1 = f1 at *
      generalize f.getD (x1 / 8).toNat 0 = yx1 at *
      generalize orB yx1 (2 ^ (x1 % 8).toNat) = zx1 at *
      clear hown2
      go_wp2_with fail
      go_region
      obtain ⟨w3, hw3⟩ : ∃ W, W = (w2.setCell ⟨w.heap.size, (x1 / 8).toNat, none⟩ (.int .u8 zx1)).drew := ⟨_, rfl⟩
      have hown3 : w3.ownsRow w.heap.size 5 1 (.slice (some ⟨w.heap.size, 0, none⟩) 8 8) 8 (f1.map (Value.int .u8)) := by rw [hw3]; exact q3
      have hbk3 : Below w.heap.size w w3 := by rw [hw3]; exact Below.drew (hbk2.setCell (Nat.le_refl _) _)
      rw [← hw3]
      clear hw3 q1 q2 q3 e11 e12 e13 e14 ho1 hy1 hp1
      obtain ⟨q1, q2, q3⟩ := bit_own hfl' g2.1 g2.2 hown3
      have e11 : x2.tdiv 8 = x2 / 8 := Int.tdiv_eq_ediv_of_nonneg g2.1
      have e12 : x2.tmod 8 = x2 % 8 := Int.tmod_eq_emod_of_nonneg g2.1
      have e13 := shl_byte (k := (x2 % 8).toNat) (by omega)
      have e14 := shl_byte' (k := (x2 % 8).toNat) (by omega)
      have hp1 := pow8 (k := (x2 % 8).toNat) (by omega)
      have hy1 := getD_byte hfo' (x2 / 8).toNat
      have ho1 : bits .or .u8 (f1.getD (x2 / 8).toNat 0) (2 ^ (x2 % 8).toNat) = orB (f1.getD (x2 / 8).toNat 0) (2 ^ (x2 % 8).toNat) := u8_or _ _ hy1.1 (by omega) hp1.1 (by omega)
      have hfl'' : (bitOn f1 x2).length = 8 := by rw [bitOn_length]; exact hfl'
      have hfo'' : BytesOk (bitOn f1 x2) := bitOn_ok hfo'
      generalize bitOn f1 x2 = f2 at *
      generalize f1.getD (x2 / 8).toNat 0 = yx2 at *
      generalize orB yx2 (2 ^ (x2 % 8).toNat) = zx2 at *
      clear hown3
      go_wp2_with fail
      go_region
      obtain ⟨w4, hw4⟩ : ∃ W, W = (w3.setCell ⟨w.heap.size, (x2 / 8).toNat, none⟩ (.int .u8 zx2)).drew := ⟨_, rfl⟩
      have hown4 : w4.ownsRow w.heap.size 5 1 (.slice (some ⟨w.heap.size, 0, none⟩) 8 8) 8 (f2.map (Value.int .u8)) := by rw [hw4]; exact q3
      have hbk4 : Below w.heap.size w w4 := by rw [hw4]; exact Below.drew (hbk3.setCell (Nat.le_refl _) _)
      rw [← hw4]
      clear hw4 q1 q2 q3 e11 e12 e13 e14 ho1 hy1 hp1
      go_wp2_with fail
      go_roundw
      case rel => exact ⟨k + 1, by omega, by go_num, by rw [HS2.out]; exact hown4, hbk4⟩
      case measure => simp [intOf]; omega
    · have HT : Hid (l.take k = l) := List.take_of_length_le (by rw [HX.out]; omega)
      go_wp2_with fail
      go_ret
      exact ⟨_, rfl, by rw [← HT.out]; exact hownk, hbk⟩

end Go.Proofs.YtmedljankefhbaaDoor

namespace Go.Proofs.YtmedljankefhbaaDoor
open Go.RowKit Go.Maps

end Go.Proofs.YtmedljankefhbaaDoor

namespace Go.Proofs.YtmedljankefhbaaDoor
open Go.RowKit

end Go.Proofs.YtmedljankefhbaaDoor

namespace Go.Proofs.YtmedljankefhbaaDoor
open Go.RowKit Go.Maps

theorem idxB_len {l : List MPair} (hw : sumW wPair l ≤ 1048576) (i : Nat) : (idxB l i).length ≤ 1048586 * i := by
  induction i with
  | zero => simp [idxB]
  | succ i ih =>
    have h1 := putText_len [] (lastK ByteArray.empty (blk l i))
    have h2 := (putNum_length (clampN ((outB l i).length : Int))).2
    have h3 := lastK_wt (blk l i)
    have h4 := blk_weight l i
    simp only [idxB, idx1, List.length_append, List.length_nil] at *
    omega
theorem idxB_ok (l : List MPair) (i : Nat) : BytesOk (idxB l i) := by
  induction i with
  | zero => intro z hz; cases hz
  | succ i ih => exact ih.append ((putText_ok (by intro z hz; cases hz) _).append (putNum_ok _))

end Go.Proofs.YtmedljankefhbaaDoor

namespace Go.Proofs.YtmedljankefhbaaDoor

theorem gnS_bounds (f : Nat) (l : List Int) (n p : Int) (h0 : 0 ≤ n) (h : (gnS f l n p).2.2 = true) :
    0 ≤ (gnS f l n p).1 ∧ (gnS f l n p).1 ≤ 1000000000 ∧ p < (gnS f l n p).2.1 ∧ (gnS f l n p).2.1 ≤ p + l.length := by
  induction f generalizing l n p with
  | zero => simp [gnS, noNum] at h
  | succ f ih =>
    cases l with
    | nil => simp [gnS, noNum] at h
    | cons c r =>
      simp only [gnS] at h ⊢
      by_cases hc : c < 128
      · rw [if_pos hc] at h ⊢
        by_cases hn : 1000000000 < n * 128 + c % 128
        · rw [if_pos hn] at h; simp [noNum] at h
        · rw [if_neg hn]; simp only [List.length_cons]; omega
      · rw [if_neg hc] at h ⊢
        have := ih r (n * 128 + c % 128) (p + 1) (by omega) h
        simp only [List.length_cons]; omega

/-- A number that is read lies within the bytes. -/
theorem getNum_bounds {b : List Int} {p : Int} (h : (getNum b p).2.2 = true) :
    0 ≤ (getNum b p).1 ∧ (getNum b p).1 ≤ 1000000000 ∧ 0 < (getNum b p).2.1 ∧ (getNum b p).2.1 ≤ b.length := by
  simp only [getNum] at h ⊢
  by_cases h1 : p < 0 ∨ (b.length : Int) ≤ p
  · rw [if_pos h1] at h; simp [noNum] at h
  · rw [if_neg h1] at h ⊢
    by_cases h2 : b.getD p.toNat 0 = 128
    · rw [if_pos h2] at h; simp [noNum] at h
    · rw [if_neg h2] at h ⊢
      have := gnS_bounds 5 _ 0 p (by omega) h
      simp only [List.length_drop] at this
      omega

/-- What both programs answer of a text: its bytes, the place behind it, whether it is there. -/
def getText (b : List Int) (p : Int) : List Int × Int × Bool :=
  if (getNum b p).2.2 = true ∧ (getNum b p).1 ≤ b.length - (getNum b p).2.1 then ((b.drop (getNum b p).2.1.toNat).take (getNum b p).1.toNat, (getNum b p).2.1 + (getNum b p).1, true) else ([], 0, false)

theorem getText_yes {b : List Int} {p : Int} {m f : Nat} (h : getNum b p = ((m : Int), (f : Int), true)) (hm : f + m ≤ b.length) : getText b p = ((b.drop f).take m, ((f + m : Nat) : Int), true) := by
  simp only [getText, h]
  rw [if_pos ⟨trivial, by omega⟩]
  simp

theorem getText_no {b : List Int} {p : Int} (h : (getNum b p).2.2 = false ∨ (b.length : Int) - (getNum b p).2.1 < (getNum b p).1) : getText b p = ([], 0, false) := by
  simp only [getText]
  rw [if_neg]
  rintro ⟨h1, h2⟩
  rcases h with h | h
  · rw [h1] at h; cases h
  · omega

/-- The three ways of a text. -/
theorem text_cases (b : List Int) (p : Int) :
    (∃ r0 r1, getNum b p = (r0, r1, false) ∧ getText b p = ([], 0, false)) ∨
    (∃ m f : Nat, getNum b p = ((m : Int), (f : Int), true) ∧ f ≤ b.length ∧ m ≤ 1000000000 ∧ b.length < f + m ∧ getText b p = ([], 0, false)) ∨
    (∃ m f : Nat, getNum b p = ((m : Int), (f : Int), true) ∧ 0 < f ∧ m ≤ 1000000000 ∧ f + m ≤ b.length ∧ getText b p = ((b.drop f).take m, ((f + m : Nat) : Int), true)) := by
  have hbd := @getNum_bounds b p
  have hno := @getText_no b p
  have hyes := fun m f => @getText_yes b p m f
  generalize getNum b p = R at hbd hno hyes ⊢
  obtain ⟨r0, r1, r2⟩ := R
  cases r2 with
  | false => exact Or.inl ⟨r0, r1, rfl, hno (Or.inl rfl)⟩
  | true =>
    have h := hbd rfl
    simp only at h hno
    obtain ⟨m, rfl⟩ := Int.eq_ofNat_of_zero_le h.1
    obtain ⟨f, rfl⟩ := Int.eq_ofNat_of_zero_le (show 0 ≤ r1 by omega)
    by_cases hm : f + m ≤ b.length
    · exact Or.inr (Or.inr ⟨m, f, rfl, by omega, by omega, hm, hyes m f rfl hm⟩)
    · exact Or.inr (Or.inl ⟨m, f, rfl, by omega, by omega, by omega, hno (Or.inr (by omega))⟩)

theorem take_drop_getD {b : List Int} {f m i : Nat} (h : i < m) : ((b.drop f).take m).getD i 0 = b.getD (f + i) 0 := by
  simp only [List.getD_eq_getElem?_getD, List.getElem?_take, List.getElem?_drop, h, if_true]

theorem take_drop_length {b : List Int} {f m : Nat} (hf : f + m ≤ b.length) : ((b.drop f).take m).length = m := by simp; omega


theorem gnS_lo (f : Nat) (c : Int) (r : List Int) (n p : Int) (h : c < 128) (hn : ¬ 1000000000 < n * 128 + c % 128) : gnS (f + 1) (c :: r) n p = (n * 128 + c % 128, p + 1, true) := by
  simp only [gnS]; rw [if_pos h, if_neg hn]
theorem gnS_hi (f : Nat) (c : Int) (r : List Int) (n p : Int) (h : ¬ c < 128) : gnS (f + 1) (c :: r) n p = gnS f r (n * 128 + c % 128) (p + 1) := by
  simp only [gnS]; rw [if_neg h]

/-- The five shapes of a number's bytes. -/
theorem putNum_cases {N : Int} (h0 : 0 ≤ N) (h1 : N ≤ 1000000000) :
    (N < 128 ∧ putNum N = [N % 128]) ∨
    (128 ≤ N ∧ N < 16384 ∧ putNum N = [N / 128 % 128 + 128, N % 128]) ∨
    (16384 ≤ N ∧ N < 2097152 ∧ putNum N = [N / 16384 % 128 + 128, N / 128 % 128 + 128, N % 128]) ∨
    (2097152 ≤ N ∧ N < 268435456 ∧ putNum N = [N / 2097152 % 128 + 128, N / 16384 % 128 + 128, N / 128 % 128 + 128, N % 128]) ∨
    (268435456 ≤ N ∧ putNum N = [N / 268435456 % 128 + 128, N / 2097152 % 128 + 128, N / 16384 % 128 + 128, N / 128 % 128 + 128, N % 128]) := by
  by_cases a : N < 128
  · left
    refine ⟨a, ?_⟩
    simp only [putNum, hiTo]
    rw [hiG_no (by omega), hiG_no (by omega), hiG_no (by omega), hiG_no (by omega)]
    rfl
  · right
    by_cases b : N < 16384
    · left
      refine ⟨by omega, b, ?_⟩
      simp only [putNum, hiTo]
      rw [hiG_no (by omega), hiG_no (by omega), hiG_no (by omega), hiG_yes (by omega)]
      rfl
    · right
      by_cases c : N < 2097152
      · left
        refine ⟨by omega, c, ?_⟩
        simp only [putNum, hiTo]
        rw [hiG_no (by omega), hiG_no (by omega), hiG_yes (by omega), hiG_yes (by omega)]
        rfl
      · right
        by_cases d : N < 268435456
        · left
          refine ⟨by omega, d, ?_⟩
          simp only [putNum, hiTo]
          rw [hiG_no (by omega), hiG_yes (by omega), hiG_yes (by omega), hiG_yes (by omega)]
          rfl
        · right
          refine ⟨by omega, ?_⟩
          simp only [putNum, hiTo]
          rw [hiG_yes (by omega), hiG_yes (by omega), hiG_yes (by omega), hiG_yes (by omega)]
          rfl

theorem num_eq {a b : Int × Int × Bool} (h1 : a.1 = b.1) (h2 : a.2.1 = b.2.1) (h3 : a.2.2 = b.2.2) : a = b := by
  obtain ⟨a1, a2, a3⟩ := a
  obtain ⟨b1, b2, b3⟩ := b
  simp only at h1 h2 h3
  subst h1 h2 h3
  rfl

theorem gnS_put {N : Int} (h0 : 0 ≤ N) (h1 : N ≤ 1000000000) (r : List Int) (p : Int) : gnS 5 (putNum N ++ r) 0 p = (N, p + (putNum N).length, true) := by
  rcases putNum_cases h0 h1 with ⟨a, e⟩ | ⟨a, b, e⟩ | ⟨a, b, e⟩ | ⟨a, b, e⟩ | ⟨a, e⟩
  all_goals rw [e]; simp only [List.cons_append, List.nil_append, List.length_cons, List.length_nil]
  · rw [gnS_lo _ _ _ _ _ (by omega) (by omega)]
    refine num_eq ?_ ?_ rfl <;> simp only <;> omega
  · rw [gnS_hi _ _ _ _ _ (by omega), gnS_lo _ _ _ _ _ (by omega) (by omega)]
    refine num_eq ?_ ?_ rfl <;> simp only <;> omega
  · rw [gnS_hi _ _ _ _ _ (by omega), gnS_hi _ _ _ _ _ (by omega), gnS_lo _ _ _ _ _ (by omega) (by omega)]
    refine num_eq ?_ ?_ rfl <;> simp only <;> omega
  · rw [gnS_hi _ _ _ _ _ (by omega), gnS_hi _ _ _ _ _ (by omega), gnS_hi _ _ _ _ _ (by omega), gnS_lo _ _ _ _ _ (by omega) (by omega)]
    refine num_eq ?_ ?_ rfl <;> simp only <;> omega
  · rw [gnS_hi _ _ _ _ _ (by omega), gnS_hi _ _ _ _ _ (by omega), gnS_hi _ _ _ _ _ (by omega), gnS_hi _ _ _ _ _ (by omega), gnS_lo _ _ _ _ _ (by omega) (by omega)]
    refine num_eq ?_ ?_ rfl <;> simp only <;> omega

theorem put_head {N : Int} (h0 : 0 ≤ N) (h1 : N ≤ 1000000000) : (putNum N).getD 0 0 ≠ 128 := by
  rcases putNum_cases h0 h1 with ⟨a, e⟩ | ⟨a, b, e⟩ | ⟨a, b, e⟩ | ⟨a, b, e⟩ | ⟨a, e⟩
  all_goals rw [e]; simp only [List.getD_cons_zero]; omega

theorem getD_append_at (zs l : List Int) : (zs ++ l).getD zs.length 0 = l.getD 0 0 := by
  rw [List.getD_eq_getElem?_getD, List.getD_eq_getElem?_getD, List.getElem?_append_right (Nat.le_refl _), Nat.sub_self]

/-- A number that was put comes back. -/
theorem getNum_put {N : Int} (h0 : 0 ≤ N) (h1 : N ≤ 1000000000) (zs r : List Int) : getNum (zs ++ putNum N ++ r) zs.length = (N, ((zs ++ putNum N).length : Int), true) := by
  have hl := putNum_length N
  rw [List.append_assoc]
  have hd : (zs ++ (putNum N ++ r)).getD zs.length 0 = (putNum N).getD 0 0 := by
    rw [getD_append_at]
    cases hp : putNum N with
    | nil => rw [hp] at hl; simp at hl
    | cons a b => rfl
  rw [getNum_S (by simp; omega) (by rw [hd]; exact put_head h0 h1), List.drop_left, gnS_put h0 h1]
  refine num_eq rfl ?_ rfl
  simp

end Go.Proofs.YtmedljankefhbaaDoor

namespace Go.Proofs.YtmedljankefhbaaDoor
open Go.RowKit

def numVal (r : Int × Int × Bool) : Value := .tuple #[.int .i64 r.1, .int .i64 r.2.1, .bool r.2.2]

set_option maxHeartbeats 400000 in
theorem implGetNum_any (a : Option Addr) (n cap : Nat) (zs : List Int) (p : Int) (w : World) (B : Nat) (hx : zs.length = n) (hlen : n ≤ 140737488351232) (hb : BytesOk zs) (hra : Rd .u8 B w a zs) :
    Calls Tryd.prog 29 #[.slice a n cap, .int .i64 p] w fun e w' => e = .returned (numVal (getNum zs p)) ∧ w' = w := by
  have HX : Hid (zs.length = n) := hx
  clear hx
  by_cases h0 : 0 ≤ p
  · obtain ⟨p, rfl⟩ := Int.eq_ofNat_of_zero_le h0
    by_cases h1 : p < n
    · obtain ⟨b1, o1, rfl, _, hc1⟩ := hra p (by rw [HX.out]; exact h1)
      by_cases h128 : zs.getD p 0 = 128
      · have hv : Hid (getNum zs p = noNum) := getNum_128 (by rw [HX.out]; exact h1) h128
        rw [h128] at hc1
        clear h128 hra
        go_enter Tryd.func29, Tryd.ntmps29
        go_wp2
        go_ret3
        exact ⟨by rw [hv.out]; rfl, rfl⟩
      · have hv : Hid (getNum zs p = gnI (zs.drop p) 0 p) := getNum_I (by rw [HX.out]; exact h1) h128 hb
        have hne : (zs.getD p 0 == 128) = false := by simp; simpa using h128
        generalize zs.getD p 0 = c0 at hc1 hne
        clear h128
        go_enter Tryd.func29, Tryd.ntmps29
        go_wp2
        go_loop [7, 8] (fun N i => ∃ (k : Nat) (M : Int), k ≤ n ∧ i = .int .i64 k ∧ N = .int .i64 M ∧ 0 ≤ M ∧ M ≤ 1000000000 ∧ getNum zs p = gnI (zs.drop k) M k) (fun _ i => n - (intOf i).toNat)
        case atStart => exact ⟨p, 0, by omega, rfl, rfl, by omega, by omega, hv.out⟩
        case round =>
          obtain ⟨k, M, hk, rfl, rfl, hM0, hM1, hD⟩ := hrel
          have HD : Hid (getNum zs p = gnI (zs.drop k) M k) := hD
          clear hD hv hc1 hne
          by_cases hlt : k < n
          · obtain ⟨b1, o1, he, _, hc1⟩ := hra k (by rw [HX.out]; exact hlt)
            simp only [Option.some.injEq, Addr.mk.injEq, and_true] at he
            obtain ⟨rfl, rfl⟩ := he
            have hcr := hb.getD k
            generalize hC : zs.getD k 0 = c at hc1 hcr
            have HC : Hid (zs.getD k 0 = c) := hC
            obtain ⟨hc0, hc255⟩ := hcr
            have hj : k < zs.length := by rw [HX.out]; exact hlt
            clear hC hra hb
            by_cases hN : 1000000000 < M * 128 + c % 128
            · have hv : Hid (getNum zs p = noNum) := by unfold Hid; rw [HD.out]; exact gnI_over hj HC.out hN
              go_wp2
              all_goals
                go_ret3
                exact ⟨by rw [hv.out]; rfl, rfl⟩
            · by_cases h7 : c < 128
              · have hv : Hid (getNum zs p = (M * 128 + c % 128, (k : Int) + 1, true)) := by unfold Hid; rw [HD.out]; exact gnI_last hj HC.out h7 hN
                go_wp2
                all_goals
                  go_ret3
                  exact ⟨by rw [hv.out]; rfl, rfl⟩
              · have hv : Hid (getNum zs p = gnI (zs.drop (k + 1)) (M * 128 + c % 128) ((k : Int) + 1)) := by unfold Hid; rw [HD.out]; exact gnI_more hj HC.out h7 hN
                go_wp2
                all_goals
                  go_round
                  case rel => exact ⟨k + 1, M * 128 + c % 128, by omega, by go_num, rfl, by omega, by omega, by rw [hv.out]; rfl⟩
                  case measure => simp [intOf]; omega
          · have hv : Hid (getNum zs p = noNum) := by
              unfold Hid
              rw [HD.out]
              exact gnI_end (by rw [HX.out]; omega)
            go_wp2
            all_goals
              go_ret3
              exact ⟨by rw [hv.out]; rfl, rfl⟩
    · have hv : Hid (getNum zs p = noNum) := getNum_out (by right; rw [HX.out]; omega)
      go_enter Tryd.func29, Tryd.ntmps29
      go_wp2
      all_goals
        go_ret3
        exact ⟨by rw [hv.out]; rfl, rfl⟩
  · have hv : Hid (getNum zs p = noNum) := getNum_out (by left; omega)
    go_enter Tryd.func29, Tryd.ntmps29
    go_wp2
    all_goals
      go_ret3
      exact ⟨by rw [hv.out]; rfl, rfl⟩


/-- Four bytes as a number. -/
def rd4 (zs : List Int) (p : Nat) : Int := zs.getD p 0 * 16777216 + zs.getD (p + 1) 0 * 65536 + zs.getD (p + 2) 0 * 256 + zs.getD (p + 3) 0

theorem rd4_bd {zs : List Int} (hb : BytesOk zs) (p : Nat) : 0 ≤ rd4 zs p ∧ rd4 zs p < 4294967296 := by
  have h0 := hb.getD p
  have h1 := hb.getD (p + 1)
  have h2 := hb.getD (p + 2)
  have h3 := hb.getD (p + 3)
  unfold rd4
  omega

/-- What both programs answer of a frame. -/
def unframe (zs : List Int) (p : Int) : List Int × Int × Bool :=
  if p < 0 ∨ (zs.length : Int) - 4 < p then ([], p, false)
  else if (getText zs (p + 4)).2.2 = true ∧ crc (getText zs (p + 4)).1 = rd4 zs p.toNat then ((getText zs (p + 4)).1, (getText zs (p + 4)).2.1, true) else ([], p, false)

theorem unframe_out {zs : List Int} {p : Int} (h : p < 0 ∨ (zs.length : Int) - 4 < p) : unframe zs p = ([], p, false) := by unfold unframe; rw [if_pos h]
theorem unframe_no {zs : List Int} {p : Nat} (h : p + 4 ≤ zs.length) (ht : getText zs ((p : Int) + 4) = ([], 0, false)) : unframe zs p = ([], (p : Int), false) := by
  unfold unframe; rw [if_neg (by omega), ht, if_neg (by simp)]
theorem unframe_sum {zs : List Int} {p : Nat} {b : List Int} {q : Int} (h : p + 4 ≤ zs.length) (ht : getText zs ((p : Int) + 4) = (b, q, true)) (hc : ¬ crc b = rd4 zs p) : unframe zs p = ([], (p : Int), false) := by
  unfold unframe; rw [if_neg (by omega), ht, if_neg (by simp [hc])]
theorem unframe_yes {zs : List Int} {p : Nat} {b : List Int} {q : Int} (h : p + 4 ≤ zs.length) (ht : getText zs ((p : Int) + 4) = (b, q, true)) (hc : crc b = rd4 zs p) : unframe zs p = (b, q, true) := by
  unfold unframe; rw [if_neg (by omega), ht, if_pos (by simp [hc])]

theorem Rd.sub {k : IntKind} {B : Nat} {w : World} {b o f m : Nat} {zs : List Int} (h : Rd k B w (some ⟨b, o, none⟩) zs) (hf : f + m ≤ zs.length) : Rd k B w (some ⟨b, o + f, none⟩) ((zs.drop f).take m) := by
  intro j hj
  rw [take_drop_length hf] at hj
  obtain ⟨b', o', e, hB, hc⟩ := h (f + j) (by omega)
  simp only [Option.some.injEq, Addr.mk.injEq, and_true] at e
  obtain ⟨rfl, rfl⟩ := e
  exact ⟨b, o + f, rfl, hB, by rw [take_drop_getD hj, Nat.add_assoc]; exact hc⟩

theorem Rd.nil {k : IntKind} {B : Nat} {w : World} {a : Option Addr} : Rd k B w a [] := fun j hj => by simp at hj

/-- Bytes as a number, the first the highest. -/
def rdN (zs : List Int) : Int := zs.foldl (fun n c => n * 256 + c) 0

theorem rdN_snoc (l : List Int) (c : Int) : rdN (l ++ [c]) = rdN l * 256 + c := by simp [rdN]

theorem rdN_bd {zs : List Int} (hb : BytesOk zs) (k : Nat) (hk : k ≤ 4) : 0 ≤ rdN (zs.take k) ∧ rdN (zs.take k) < 4294967296 ∧ (k < 4 → rdN (zs.take k) < 16777216) := by
  have step : ∀ j, 0 ≤ rdN (zs.take j) → (rdN (zs.take (j + 1)) = rdN (zs.take j) ∨ ∃ c, 0 ≤ c ∧ c ≤ 255 ∧ rdN (zs.take (j + 1)) = rdN (zs.take j) * 256 + c) := by
    intro j _
    by_cases hj : j < zs.length
    · right
      refine ⟨zs.getD j 0, (hb.getD j).1, (hb.getD j).2, ?_⟩
      rw [← rdN_snoc]
      congr 1
      rw [List.take_succ_eq_append_getElem hj, List.getD_eq_getElem?_getD, List.getElem?_eq_getElem hj]
      rfl
    · left
      rw [List.take_of_length_le (by omega), List.take_of_length_le (by omega)]
  have e0 : rdN (zs.take 0) = 0 := by simp [rdN]
  have s0 := step 0 (by omega)
  have b1 : 0 ≤ rdN (zs.take 1) ∧ rdN (zs.take 1) < 256 := by rcases s0 with h | ⟨c, h1, h2, h⟩ <;> rw [e0] at h <;> simp only [Nat.zero_add] at h <;> omega
  have s1 := step 1 b1.1
  have b2 : 0 ≤ rdN (zs.take 2) ∧ rdN (zs.take 2) < 65536 := by rcases s1 with h | ⟨c, h1, h2, h⟩ <;> simp only [Nat.reduceAdd] at h <;> omega
  have s2 := step 2 b2.1
  have b3 : 0 ≤ rdN (zs.take 3) ∧ rdN (zs.take 3) < 16777216 := by rcases s2 with h | ⟨c, h1, h2, h⟩ <;> simp only [Nat.reduceAdd] at h <;> omega
  have s3 := step 3 b3.1
  have b4 : 0 ≤ rdN (zs.take 4) ∧ rdN (zs.take 4) < 4294967296 := by rcases s3 with h | ⟨c, h1, h2, h⟩ <;> simp only [Nat.reduceAdd] at h <;> omega
  rcases (show k = 0 ∨ k = 1 ∨ k = 2 ∨ k = 3 ∨ k = 4 from by omega) with rfl | rfl | rfl | rfl | rfl
  · rw [e0]; omega
  · omega
  · omega
  · omega
  · omega

theorem rdN_four {zs : List Int} {p : Nat} (h : p + 4 ≤ zs.length) : rdN ((zs.drop p).take 4) = rd4 zs p := by
  have e : (zs.drop p).take 4 = [zs.getD p 0, zs.getD (p + 1) 0, zs.getD (p + 2) 0, zs.getD (p + 3) 0] := by
    apply List.ext_getElem?
    intro j
    rw [List.getElem?_take, List.getElem?_drop]
    rcases (show j = 0 ∨ j = 1 ∨ j = 2 ∨ j = 3 ∨ 4 ≤ j from by omega) with rfl | rfl | rfl | rfl | hj
    all_goals first | (rw [if_neg (by omega), List.getElem?_eq_none (by simpa using hj)]) | (rw [if_pos (by omega), List.getElem?_eq_getElem (by omega)]; simp [List.getElem?_eq_getElem (show p < zs.length from by omega), List.getElem?_eq_getElem (show p + 1 < zs.length from by omega), List.getElem?_eq_getElem (show p + 2 < zs.length from by omega), List.getElem?_eq_getElem (show p + 3 < zs.length from by omega)])
  rw [e]
  simp only [rdN, List.foldl_cons, List.foldl_nil, rd4]
  omega

set_option maxHeartbeats 400000 in
theorem readFour_any (a : Option Addr) (cap : Nat) (zs : List Int) (w : World) (B : Nat) (hx : zs.length = 4) (hb : BytesOk zs) (hr : Rd .u8 B w a zs) :
    Calls Tryd.prog 30 #[.slice a 4 cap] w fun e w' => e = .returned (.int .i64 (rdN zs)) ∧ w' = w := by
  have HX : Hid (zs.length = 4) := hx
  clear hx
  go_enter Tryd.func30, Tryd.ntmps30
  go_wp2
  go_loop [3, 5, 8] (fun x c i => ∃ k : Nat, k ≤ 4 ∧ i = .int .i64 k ∧ x = .int .i64 (rdN (zs.take k))) (fun _ _ i => 4 - (intOf i).toNat)
  case atStart => exact ⟨0, Nat.zero_le _, rfl, rfl⟩
  case round =>
    obtain ⟨k, hk, rfl, rfl⟩ := hrel
    have hbd := rdN_bd hb k hk
    by_cases hlt : k < 4
    · obtain ⟨b1, o1, rfl, _, hc1⟩ := hr k (by rw [HX.out]; exact hlt)
      have hcr := hb.getD k
      have HS : Hid (rdN (zs.take (k + 1)) = rdN (zs.take k) * 256 + zs.getD k 0) := by
        unfold Hid
        rw [← rdN_snoc]
        congr 1
        rw [List.take_succ_eq_append_getElem (by rw [HX.out]; exact hlt), List.getD_eq_getElem?_getD, List.getElem?_eq_getElem (by rw [HX.out]; exact hlt)]
        rfl
      have hbl := hbd.2.2 hlt
      obtain ⟨hb0, _, _⟩ := hbd
      generalize zs.getD k 0 = c at hc1 hcr HS
      generalize rdN (zs.take k) = X at hbl hb0 HS
      clear hr hb
      go_wp2
      go_round
      case rel => exact ⟨k + 1, by omega, by go_num, by rw [HS.out]⟩
      case measure => simp [intOf]; omega
    · have hk4 : k = 4 := by omega
      have HT : Hid (rdN zs = rdN (zs.take k)) := by unfold Hid; rw [List.take_of_length_le (by rw [HX.out]; omega)]
      generalize rdN (zs.take k) = X at HT
      go_wp2
      go_ret
      exact ⟨by rw [HT.out]; rfl, rfl⟩


theorem getNum_at {N : Int} (h0 : 0 ≤ N) (h1 : N ≤ 1000000000) (pre r : List Int) : getNum (pre ++ (putNum N ++ r)) (pre.length : Nat) = (N, ((pre.length + (putNum N).length : Nat) : Int), true) := by
  have h := getNum_put h0 h1 pre r
  rw [List.append_assoc] at h
  rw [h]
  simp
theorem getText_at (pre ts r : List Int) (h : ts.length ≤ 1000000000) : getText (pre ++ (putNum (ts.length : Int) ++ (ts ++ r))) (pre.length : Nat) = (ts, ((pre.length + (putNum (ts.length : Int)).length + ts.length : Nat) : Int), true) := by
  have hg := getNum_at (N := (ts.length : Int)) (by omega) (by omega) pre (ts ++ r)
  rw [getText_yes hg (by simp; omega)]
  have e : (List.drop (pre.length + (putNum (ts.length : Int)).length) (pre ++ (putNum (ts.length : Int) ++ (ts ++ r)))).take ts.length = ts := by
    rw [← List.append_assoc pre, List.drop_left' (by simp), List.take_left' rfl]
  rw [e]
theorem rd4_at (pre r : List Int) {x : Int} (h0 : 0 ≤ x) (h1 : x < 4294967296) : rd4 (pre ++ (four x ++ r)) pre.length = x := by
  have g : ∀ j, (pre ++ (four x ++ r)).getD (pre.length + j) 0 = (four x ++ r).getD j 0 := by
    intro j
    rw [List.getD_eq_getElem?_getD, List.getD_eq_getElem?_getD, List.getElem?_append_right (by omega)]
    congr 2
    omega
  have g0 := g 0
  have g1 := g 1
  have g2 := g 2
  have g3 := g 3
  rw [Nat.add_zero] at g0
  unfold rd4
  rw [g0, g1, g2, g3]
  show x / 16777216 * 16777216 + x / 65536 % 256 * 65536 + x / 256 % 256 * 256 + x % 256 = x
  omega
theorem unframe_at (pre t bs : List Int) (hb : BytesOk bs) (h : bs.length ≤ 1000000000) : unframe (pre ++ (frame bs ++ t)) (pre.length : Nat) = (bs, ((pre.length + (frame bs).length : Nat) : Int), true) := by
  have hc := crc_bd hb
  have e : pre ++ (frame bs ++ t) = (pre ++ four (crc bs)) ++ (putNum (bs.length : Int) ++ (bs ++ t)) := by
    unfold frame
    rw [clampN_in (by omega) (by omega)]
    simp
  have ht := getText_at (pre ++ four (crc bs)) bs t h
  rw [← e] at ht
  have e2 : (((pre ++ four (crc bs)).length : Nat) : Int) = ((pre.length : Nat) : Int) + 4 := by simp [four]
  rw [e2] at ht
  have hr : rd4 (pre ++ (frame bs ++ t)) pre.length = crc bs := by
    have h := rd4_at pre (putNum (bs.length : Int) ++ (bs ++ t)) hc.1 hc.2
    rw [e, List.append_assoc]
    exact h
  have hl : (frame bs).length = 4 + (putNum (bs.length : Int)).length + bs.length := by
    unfold frame
    rw [clampN_in (by omega) (by omega)]
    simp [four]
    omega
  rw [unframe_yes (by simp; omega) ht hr.symm]
  refine Prod.ext rfl (Prod.ext ?_ rfl)
  show (((pre ++ four (crc bs)).length + (putNum (bs.length : Int)).length + bs.length : Nat) : Int) = _
  rw [hl]
  simp [four]
  omega

theorem strOf_ints (s : ByteArray) : strOfNums (strInts s) = s := by
  apply ByteArray.ext
  apply Array.ext'
  show ((strInts s).map fun n => UInt8.ofNat n.toNat).toArray.toList = s.data.toList
  simp only [strInts, List.map_map]
  rw [List.map_congr_left (g := id)]
  · simp
  · intro b _
    simp

/-- A pair that is read of a body at a place, behind a key: the specification's way. -/
def spStep (body : List Int) (k : Int) (last : ByteArray) : Option (MPair × Int) :=
  let g := getNum body k
  let t := getText body g.2.1
  let v := getText body (t.2.1 + 1)
  if g.2.2 = true ∧ t.2.2 = true ∧ g.1 ≤ last.size ∧ t.2.1 < body.length ∧ body.getD t.2.1.toNat 0 ≤ 1 ∧ v.2.2 = true then
    some (⟨last.extract 0 g.1.toNat ++ strOfNums t.1, strOfNums v.1, decide (body.getD t.2.1.toNat 0 = 1)⟩, v.2.1)
  else none
def spGo (body : List Int) : Nat → Int → ByteArray → List MPair → List MPair × Bool
  | 0, _, _, out => (out, true)
  | f + 1, k, last, out => if (body.length : Int) ≤ k then (out, true) else match spStep body k last with
    | none => (out, false)
    | some (p, e) => spGo body f e p.fKey (out ++ [p])
def prsS (body : List Int) : List MPair × Bool := spGo body (body.length + 1) 0 ByteArray.empty []

/-- The key's first bytes, and the rest of it. -/
theorem com_back (a b : ByteArray) : a.extract 0 (com a b) ++ b.extract (com a b) b.size = b := by
  have key : ∀ x y : List UInt8, x.take (comL x y) ++ y.drop (comL x y) = y := by
    intro x
    induction x with
    | nil => intro y; cases y <;> simp [comL]
    | cons u us ih =>
      intro y
      cases y with
      | nil => simp [comL]
      | cons v vs =>
        simp only [comL]
        by_cases h : u = v
        · rw [if_pos h]
          subst h
          simp [ih vs]
        · rw [if_neg h]
          simp
  apply ByteArray.ext
  apply Array.ext'
  have h := key a.data.toList b.data.toList
  have hb : b.data.size = b.size := rfl
  simp only [ByteArray.data_append, ByteArray.data_extract, Array.toList_append, Array.toList_extract, List.extract_eq_take_drop, List.drop_zero, Nat.sub_zero]
  show List.take (com a b) a.data.toList ++ List.take (b.size - com a b) (List.drop (com a b) b.data.toList) = _
  have e2 : List.take (b.size - com a b) (List.drop (com a b) b.data.toList) = List.drop (com a b) b.data.toList := List.take_of_length_le (by rw [List.length_drop, Array.length_toList, hb]; omega)
  rw [e2]
  exact h

theorem sizeInts (s : ByteArray) : (s.size : Int) = ((strInts s).length : Int) := by rw [strInts_length]
/-- The bytes of a pair, one thing behind the other. -/
theorem pairB_lay (last : ByteArray) (p : MPair) (h1 : p.fKey.size ≤ 1000000) (h2 : p.fVal.size ≤ 1000000) : pairB last p =
    putNum (com last p.fKey : Int) ++ (putNum ((strInts (p.fKey.extract (com last p.fKey) p.fKey.size)).length : Int) ++ (strInts (p.fKey.extract (com last p.fKey) p.fKey.size) ++ ([goneI p] ++ (putNum ((strInts p.fVal).length : Int) ++ strInts p.fVal)))) := by
  have hc := com_le last p.fKey
  have hx := ext_size p.fKey (com last p.fKey)
  unfold pairB putText
  rw [clampN_in (by omega) (by omega), clampN_in (by omega) (by omega), clampN_in (by omega) (by omega), sizeInts, sizeInts]
  simp
theorem goneI_le (p : MPair) : goneI p ≤ 1 := by unfold goneI; split <;> omega
theorem goneI_on (p : MPair) : decide (goneI p = 1) = p.fGone := by unfold goneI; cases p.fGone <;> simp

theorem spStep_pair (pre r : List Int) (last : ByteArray) (p : MPair) (h1 : p.fKey.size ≤ 1000000) (h2 : p.fVal.size ≤ 1000000) :
    spStep (pre ++ (pairB last p ++ r)) (pre.length : Nat) last = some (p, ((pre.length + (pairB last p).length : Nat) : Int)) := by
  have hc := com_le last p.fKey
  have hx := ext_size p.fKey (com last p.fKey)
  have hxl : (strInts (p.fKey.extract (com last p.fKey) p.fKey.size)).length ≤ 1000000 := by rw [strInts_length]; omega
  have hvl : (strInts p.fVal).length ≤ 1000000 := by rw [strInts_length]; omega
  rw [pairB_lay last p h1 h2]
  have HB := com_back last p.fKey
  have HS := strOf_ints (p.fKey.extract (com last p.fKey) p.fKey.size)
  have HV := strOf_ints p.fVal
  generalize hrs : strInts (p.fKey.extract (com last p.fKey) p.fKey.size) = rs at *
  generalize hvs : strInts p.fVal = vs at *
  generalize hcc : com last p.fKey = c at *
  have n1 := getNum_at (N := (c : Int)) (by omega) (by omega) pre (putNum (rs.length : Int) ++ (rs ++ ([goneI p] ++ (putNum (vs.length : Int) ++ (vs ++ r)))))
  have t1 := getText_at (pre ++ putNum (c : Int)) rs ([goneI p] ++ (putNum (vs.length : Int) ++ (vs ++ r))) (by omega)
  have t2 := getText_at (pre ++ putNum (c : Int) ++ putNum (rs.length : Int) ++ rs ++ [goneI p]) vs r (by omega)
  obtain ⟨body, hbody⟩ : ∃ body, body = pre ++ ((putNum (c : Int) ++ (putNum (rs.length : Int) ++ (rs ++ ([goneI p] ++ (putNum (vs.length : Int) ++ vs))))) ++ r) := ⟨_, rfl⟩
  have e1 : pre ++ (putNum (c : Int) ++ (putNum (rs.length : Int) ++ (rs ++ ([goneI p] ++ (putNum (vs.length : Int) ++ (vs ++ r)))))) = body := by rw [hbody]; simp
  have e2 : (pre ++ putNum (c : Int)) ++ (putNum (rs.length : Int) ++ (rs ++ ([goneI p] ++ (putNum (vs.length : Int) ++ (vs ++ r))))) = body := by rw [hbody]; simp
  have e3 : (pre ++ putNum (c : Int) ++ putNum (rs.length : Int) ++ rs ++ [goneI p]) ++ (putNum (vs.length : Int) ++ (vs ++ r)) = body := by rw [hbody]; simp
  rw [e1] at n1
  rw [e2] at t1
  rw [e3] at t2
  have e4 : (pre ++ putNum (c : Int) ++ putNum (rs.length : Int) ++ rs) ++ (goneI p :: (putNum (vs.length : Int) ++ (vs ++ r))) = body := by rw [hbody]; simp
  have hg : body.getD (pre.length + (putNum (c : Int)).length + (putNum (rs.length : Int)).length + rs.length) 0 = goneI p := by
    rw [← e4, List.getD_eq_getElem?_getD, List.getElem?_append_right (by simp; omega)]
    simp
    rw [show pre.length + (putNum (c : Int)).length + (putNum (rs.length : Int)).length + rs.length - (pre.length + ((putNum (c : Int)).length + ((putNum (rs.length : Int)).length + rs.length))) = 0 by omega]
    rfl
  have hl : body.length = pre.length + (putNum (c : Int)).length + (putNum (rs.length : Int)).length + rs.length + 1 + (putNum (vs.length : Int)).length + vs.length + r.length := by rw [hbody]; simp; omega
  rw [← hbody]
  unfold spStep
  simp only [List.length_append] at t1 t2
  rw [n1]
  simp only
  rw [t1]
  simp only
  have e5 : (((pre.length + (putNum (c : Int)).length + (putNum (rs.length : Int)).length + rs.length : Nat) : Int)) + 1 = ((pre.length + (putNum (c : Int)).length + (putNum (rs.length : Int)).length + rs.length + ([goneI p] : List Int).length : Nat) : Int) := by simp
  rw [e5, t2]
  simp only [Int.toNat_natCast]
  simp only [hg]
  rw [if_pos ⟨trivial, trivial, by omega, by omega, goneI_le p, trivial⟩]
  rw [HS, HV, HB, goneI_on]
  refine congrArg some (Prod.ext rfl ?_)
  simp
  omega

theorem spGo_block (rest : List MPair) : ∀ (f : Nat) (pre : List Int) (last : ByteArray) (out : List MPair) (hf : rest.length < f) (hs : ∀ p, p ∈ rest → p.fKey.size ≤ 1000000 ∧ p.fVal.size ≤ 1000000),
    spGo (pre ++ blockB last rest) f (pre.length : Nat) last out = (out ++ rest, true) := by
  induction rest with
  | nil =>
    intro f pre last out hf hs
    cases f with
    | zero => omega
    | succ f => simp [spGo, blockB]
  | cons p rest ih =>
    intro f pre last out hf hs
    cases f with
    | zero => omega
    | succ f =>
      obtain ⟨h1, h2⟩ := hs p (by simp)
      have hst := spStep_pair pre (blockB p.fKey rest) last p h1 h2
      have hpos : 0 < (pairB last p).length := by rw [pairB_lay last p h1 h2]; simp; omega
      rw [blockB, spGo, hst, if_neg (by simp; omega)]
      have h := ih f (pre ++ pairB last p) p.fKey (out ++ [p]) (by simp at hf; omega) (fun q hq => hs q (by simp [hq]))
      rw [List.append_assoc, List.length_append] at h
      refine Eq.trans h ?_
      simp

theorem prsS_block (l : List MPair) (hs : ∀ p, p ∈ l → p.fKey.size ≤ 1000000 ∧ p.fVal.size ≤ 1000000) : prsS (blockB ByteArray.empty l) = (l, true) := by
  have hl : l.length ≤ (blockB ByteArray.empty l).length := by
    have : ∀ (k : ByteArray), l.length ≤ (blockB k l).length := by
      induction l with
      | nil => intro k; simp
      | cons p l ih =>
        intro k
        obtain ⟨h1, h2⟩ := hs p (by simp)
        have hpos : 0 < (pairB k p).length := by rw [pairB_lay k p h1 h2]; simp; omega
        have := ih (fun q hq => hs q (by simp [hq])) p.fKey
        rw [blockB, List.length_append, List.length_cons]
        omega
    exact this _
  have h := spGo_block l ((blockB ByteArray.empty l).length + 1) [] ByteArray.empty [] (by omega) hs
  simpa [prsS] using h

end Go.Proofs.YtmedljankefhbaaDoor
