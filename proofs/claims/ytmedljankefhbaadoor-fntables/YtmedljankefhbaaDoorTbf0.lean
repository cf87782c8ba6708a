/-
  Part 1 of the texts that the proof leans on.
-/
import Derived.Deep.RegionHeld3
import Derived.WalkKit
import Derived.WalkSpells
import Derived.WalkLawsBesides
import Derived.Deep.QuietTactic
import Derived.BigQuiet
import Derived.OpenShut
import Derived.Test.YtmedljankefhbaaDoorRows
import Derived.Test.YtmedljankefhbaaDoorChecked
import Derived.Lib.ConvBytes
import Derived.Laws.BitsLemmas
import Derived.Laws.BitsAllLaws
import Derived.Deep.AppendSrc
import Derived.Laws.CopyOwn
import Derived.Laws.Bits128
import Derived.Deep.DeepCutAuto
set_option linter.unusedVariables false
set_option linter.unusedSimpArgs false
set_option maxRecDepth 10000

namespace Go.Proofs.YtmedljankefhbaaDoor
open Go

section
variable {P : Program} {md : Region.Mode} {ops : Array Oper} {Q : Exit → Act → World → Prop} {S : World → Prop}
/-- An operation that is wanted comes first: it yields v. -/
theorem tk (i : Nat) (oi : Oper) (d : Option Tmp) {v : Value} {fuel : Nat} {listed : Array Bool} {a : Act} {w : World} (hi : ops[i]? = some oi) (hd : oi.dst = d)
    (hc : (Region.noSelect ops && (Region.free md ops listed i && (Region.ready md ops listed).contains i)) = true) (hS : S w) (hw : Region.wanted oi (yielded ops a.tmps) = true)
    (hQ : ∀ c a w, Q (.panic c) (a.put d v) w → Q (.panic c) a w) (hy : ∀ w, S w → (execOp a.eval oi).run P w = .ok (.value v) w)
    (h : wpAnyH P md ops Q S fuel (listed.setIfInBounds i true) (a.put d v) w) : wpAnyH P md ops Q S (fuel + 1) listed a w := by
  subst hd
  simp only [Bool.and_eq_true] at hc
  exact wpAnyH_take hi hc.1 hc.2.1 hc.2.2 hQ (.inl ⟨hw, hy⟩) hS h
/-- One that is not wanted comes first. -/
theorem tn (i : Nat) (oi : Oper) (d : Option Tmp) {fuel : Nat} {listed : Array Bool} {a : Act} {w : World} (hi : ops[i]? = some oi) (hd : oi.dst = d)
    (hc : (Region.noSelect ops && (Region.free md ops listed i && (Region.ready md ops listed).contains i)) = true) (hS : S w) (hw : Region.wanted oi (yielded ops a.tmps) = false)
    (hQ : ∀ c a w, Q (.panic c) (a.put d undef) w → Q (.panic c) a w)
    (h : wpAnyH P md ops Q S fuel (listed.setIfInBounds i true) (a.put d undef) w) : wpAnyH P md ops Q S (fuel + 1) listed a w := by
  subst hd
  simp only [Bool.and_eq_true] at hc
  exact wpAnyH_take hi hc.1 hc.2.1 hc.2.2 hQ (.inr ⟨hw, rfl⟩) hS h
end
theorem sa {α : Type} (l : List α) (i : Nat) (a : α) : l.toArray.setIfInBounds i a = (l.set i a).toArray := List.setIfInBounds_toArray ..
theorem s0 {α : Type} (a b : α) (l : List α) : (a :: l).set 0 b = b :: l := rfl
theorem s1 {α : Type} (a b : α) (l : List α) (i : Nat) : (a :: l).set (i + 1) b = a :: l.set i b := rfl

end Go.Proofs.YtmedljankefhbaaDoor

namespace Go.Proofs.YtmedljankefhbaaDoor
open Go.RowKit

/-- The numbers that a slice's cells hold, all of them below block number B. -/
def Rd (k : IntKind) (B : Nat) (w : World) (a : Option Addr) (zs : List Int) : Prop :=
  ∀ j, j < zs.length → ∃ b off, a = some ⟨b, off, none⟩ ∧ b < B ∧ w.cell? ⟨b, off + j, none⟩ = some (.int k (zs.getD j 0))

theorem Rd.below {k : IntKind} {B : Nat} {w w' : World} {a : Option Addr} {zs : List Int} (h : Rd k B w a zs) (hb : Below B w w') : Rd k B w' a zs := by
  intro j hj
  obtain ⟨b, off, e, hlt, hc⟩ := h j hj
  exact ⟨b, off, e, hlt, (hb.cell (p := ⟨b, off + j, none⟩) hlt).trans hc⟩

theorem Rd.mono {k : IntKind} {B B' : Nat} {w : World} {a : Option Addr} {zs : List Int} (h : Rd k B w a zs) (hB : B ≤ B') : Rd k B' w a zs := by
  intro j hj
  obtain ⟨b, off, e, hlt, hc⟩ := h j hj
  exact ⟨b, off, e, by omega, hc⟩

/-- What is owned can be read. -/
theorem Rd.own {k : IntKind} {w : World} {base e g cap n : Nat} {zs : List Int} (hn : zs.length = n)
    (h : w.ownsRow base e 1 (.slice (some ⟨g, 0, none⟩) n cap) n (zs.map (Value.int k))) : Rd k w.heap.size w (some ⟨g, 0, none⟩) zs := by
  intro j hj
  refine ⟨g, 0, rfl, (h.lt g rfl).2, ?_⟩
  have := h.cellAt j (by omega)
  rw [Nat.zero_add, this]
  simp [hj]

/-- What markByteS lays down: the numbers from k on, as bytes. -/
def marks (k : Int) : Nat → List Int
  | 0 => []
  | n + 1 => k % 256 :: marks (k + 1) n

theorem grown_trans {a b c : World} {r : Option Nat} (h : a.grownBy b r) (k : b.grownBy c r) : a.grownBy c r :=
  ⟨k.os.trans h.os, k.tape.trans h.tape, k.output.trans h.output, Nat.le_trans h.size k.size, fun i hi hne => (k.block i (Nat.lt_of_lt_of_le hi h.size) hne).trans (h.block i hi hne)⟩

def BytesOk (zs : List Int) : Prop := ∀ z, z ∈ zs → 0 ≤ z ∧ z ≤ 255

theorem Hid.mk {p : Prop} (h : p) : Hid p := h

theorem oneInt (k : IntKind) (x : Int) : ∀ u ∈ [Value.int k x], u.oneCell' = true := by
  intro u hu
  simp at hu
  subst hu
  rfl

/-- Behind an append of one element (it is laid in a new block first). -/
theorem below_app {B e size n : Nat} {w wr w2 : World} {o : Obj} {v : Value} {xs : List Value} (hb : Below B w wr) (hB : B ≤ w.heap.size) (hown : wr.ownsRow B e size v n xs) (hg : (wr.alloc o).grownBy w2 v.ownBlock) : Below B w w2 :=
  (hb.alloc (Nat.le_trans hB hb.size) o).grown hg (by have := hb.size; simp; omega) (fun k h => (hown.lt k h).1)

theorem own_congr {w : World} {base e size : Nat} {v : Value} {n n' : Nat} {xs ys : List Value} (h : w.ownsRow base e size v n xs) (hn : n = n') (hx : xs = ys) : w.ownsRow base e size v n' ys := by
  subst hn
  subst hx
  exact h

theorem own_base {w : World} {base base' e size : Nat} {v : Value} {n : Nat} {xs : List Value} (h : w.ownsRow base e size v n xs) (hb : base' ≤ base) : w.ownsRow base' e size v n xs := by
  refine ⟨h.1, ?_⟩
  rcases h.2 with h' | ⟨g, cap, cur, rfl, hg, rest⟩
  · exact .inl h'
  · exact .inr ⟨g, cap, cur, rfl, by omega, rest⟩

/-- One number laid in a new block. -/
theorem rd_one (k : IntKind) (w : World) (x : Int) (t : TypeId) : Rd k (w.heap.size + 1) (w.alloc (.cells #[.int k x] t)) (some ⟨w.heap.size, 0, none⟩) [x] := by
  intro j hj
  simp only [List.length_cons, List.length_nil] at hj
  have hj0 : j = 0 := by omega
  subst hj0
  exact ⟨w.heap.size, 0, rfl, by omega, by simp⟩

theorem own_rd {k : IntKind} {w : World} {base e n : Nat} {v : Value} {zs : List Int} (hn : zs.length = n) (h : w.ownsRow base e 1 v n (zs.map (Value.int k))) :
    ∃ a c, v = .slice a n c ∧ n ≤ c ∧ Rd k w.heap.size w a zs := by
  rcases h.2 with ⟨rfl, h'⟩ | ⟨g, cap, cur, rfl, hb, hg, hnc, _⟩
  · subst h'
    exact ⟨none, 0, rfl, Nat.le_refl _, fun j hj => by omega⟩
  · exact ⟨_, cap, rfl, hnc, Rd.own hn h⟩

/-- What is owned stays so while a call makes new memory alone. -/
theorem own_below {w w' : World} {base e size n : Nat} {v : Value} {xs : List Value} (h : w.ownsRow base e size v n xs) (hb : Below w.heap.size w w') : w'.ownsRow base e size v n xs := by
  refine ⟨h.1, ?_⟩
  rcases h.2 with h' | ⟨g, cap, cur, rfl, hg, hh, rest⟩
  · exact .inl h'
  · exact .inr ⟨g, cap, cur, rfl, hg, by rw [hb.block g (h.lt g rfl).2]; exact hh, rest⟩

theorem own_drewN {w : World} {base e size n d : Nat} {v : Value} {xs : List Value} (h : w.ownsRow base e size v n xs) : (w.drewN d).ownsRow base e size v n xs := h

theorem Rd.drewN {k : IntKind} {B d : Nat} {w : World} {a : Option Addr} {zs : List Int} (h : Rd k B w a zs) : Rd k B (w.drewN d) a zs := h

theorem Rd.grown {k : IntKind} {B : Nat} {w w' : World} {r : Option Nat} {a : Option Addr} {zs : List Int} (h : Rd k B w a zs) (hg : w.grownBy w' r) (hr : ∀ i, r = some i → B ≤ i) : Rd k B w' a zs := by
  intro j hj
  obtain ⟨b, off, e, hlt, hc⟩ := h j hj
  exact ⟨b, off, e, hlt, hg.cell hc (fun e => by have := hr b e.symm; omega)⟩

/-- A text's bytes. -/
def byteInts (s : ByteArray) : List Int := s.data.toList.map fun b => (b.toNat : Int)
theorem byteInts_length (s : ByteArray) : (byteInts s).length = s.size := by simp [byteInts]


theorem bytesWorld_below (w : World) (e : TypeId) (s : ByteArray) : Below w.heap.size w (Lib.bytesWorld w e s) := by
  refine ⟨?_, ?_, ?_, by rw [Lib.bytesWorld_size]; omega, fun k hk => Lib.bytesWorld_at_old w e s k hk⟩
  all_goals (unfold Lib.bytesWorld World.freeze; rfl)

theorem byteInts_at {s : ByteArray} {j : Nat} (h : j < (byteInts s).length) : ((s.data.toList.getD j 0).toNat : Int) = (byteInts s)[j] := by
  have hj : j < s.data.toList.length := by simpa [byteInts] using h
  rw [List.getD_eq_getElem?_getD, List.getElem?_eq_getElem hj]
  simp [byteInts]

theorem strBytes (s : ByteArray) (w : World) : ∃ (w1 : World) (cap : Nat), (convert 9 22 (.string s)).run Tryd.prog w = .ok (.slice (some ⟨w.heap.size, 0, none⟩) s.size cap) w1 ∧ Below w.heap.size w w1 ∧ w.heap.size < w1.heap.size ∧
    ∀ j, (h : j < (byteInts s).length) → w1.cell? ⟨w.heap.size, j, none⟩ = some (.int .u8 (byteInts s)[j]) := by
  refine ⟨_, _, Lib.run_convert_string_bytes w 9 22 5 s Tryd.underlying9 Tryd.underlying22 Tryd.underlying5, bytesWorld_below w _ s, by rw [Lib.bytesWorld_size]; omega, fun j h => ?_⟩
  rw [Lib.bytesWorld_cell w _ s j (by rw [← byteInts_length]; exact h), byteInts_at h]

theorem byteInts_ok (s : ByteArray) : BytesOk (byteInts s) := by
  intro z hz
  simp only [byteInts, List.mem_map] at hz
  obtain ⟨b, _, rfl⟩ := hz
  have := b.toNat_lt
  omega

/-- The conversion, as a reading. -/
theorem strRd (s : ByteArray) (w : World) : ∃ (w1 : World) (cap : Nat), (convert 9 22 (.string s)).run Tryd.prog w = .ok (.slice (some ⟨w.heap.size, 0, none⟩) s.size cap) w1 ∧ Below w.heap.size w w1 ∧ Rd .u8 w1.heap.size w1 (some ⟨w.heap.size, 0, none⟩) (byteInts s) := by
  obtain ⟨w1, cap, hcv, hb1, hz1, hcl⟩ := strBytes s w
  refine ⟨w1, cap, hcv, hb1, fun j hj => ⟨w.heap.size, 0, rfl, hz1, ?_⟩⟩
  rw [Nat.zero_add, hcl j hj, List.getD_eq_getElem?_getD, List.getElem?_eq_getElem hj]
  rfl

end Go.Proofs.YtmedljankefhbaaDoor

namespace Go.Proofs.YtmedljankefhbaaDoor

theorem BytesOk.getD {zs : List Int} (h : BytesOk zs) (j : Nat) : 0 ≤ zs.getD j 0 ∧ zs.getD j 0 ≤ 255 := by
  rw [List.getD_eq_getElem?_getD]
  by_cases hj : j < zs.length
  · rw [List.getElem?_eq_getElem hj]
    exact h _ (List.getElem_mem hj)
  · rw [List.getElem?_eq_none (by omega)]
    simp

def noNum : Int × Int × Bool := (0, 0, false)

/-- At most f groups more, n read so far, p the next place. -/
def gnS : Nat → List Int → Int → Int → Int × Int × Bool
  | 0, _, _, _ => noNum
  | _ + 1, [], _, _ => noNum
  | f + 1, c :: r, n, p => if c < 128 then (if 1000000000 < n * 128 + c % 128 then noNum else (n * 128 + c % 128, p + 1, true)) else gnS f r (n * 128 + c % 128) (p + 1)

/-- The same without a count of groups: too great a number ends it. -/
def gnI : List Int → Int → Int → Int × Int × Bool
  | [], _, _ => noNum
  | c :: r, n, p => if 1000000000 < n * 128 + c % 128 then noNum else if c < 128 then (n * 128 + c % 128, p + 1, true) else gnI r (n * 128 + c % 128) (p + 1)

theorem gnS_big (f : Nat) (l : List Int) (n p : Int) (h : 1000000000 < n) : gnS f l n p = noNum := by
  induction f generalizing l n p with
  | zero => rfl
  | succ f ih =>
    cases l with
    | nil => rfl
    | cons c r =>
      simp only [gnS]
      by_cases hc : c < 128
      · rw [if_pos hc, if_pos (by omega)]
      · rw [if_neg hc, ih _ _ _ (by omega)]

theorem gnI_eq (f : Nat) (l : List Int) (n p : Int) (h : 268435456 ≤ n * 128 ^ f) (h0 : 0 ≤ n) : gnI l n p = gnS f l n p := by
  induction f generalizing l n p with
  | zero =>
    cases l with
    | nil => rfl
    | cons c r =>
      simp only [gnI, gnS]
      rw [if_pos (by omega)]
  | succ f ih =>
    cases l with
    | nil => rfl
    | cons c r =>
      simp only [gnI, gnS]
      by_cases hc : c < 128
      · by_cases hn : 1000000000 < n * 128 + c % 128 <;> simp [hc, hn]
      · by_cases hn : 1000000000 < n * 128 + c % 128
        · rw [if_pos hn, if_neg hc, gnS_big _ _ _ _ hn]
        · rw [if_neg hn, if_neg hc, if_neg hc]
          refine ih _ _ _ ?_ (by omega)
          have h2 : n * 128 ^ (f + 1) = (n * 128) * 128 ^ f := by rw [Int.pow_succ, Int.mul_assoc, Int.mul_comm (128 ^ f) 128]
          have h3 : (n * 128) * 128 ^ f ≤ (n * 128 + c % 128) * 128 ^ f := Int.mul_le_mul_of_nonneg_right (by omega) (Int.pow_nonneg (by omega))
          omega

/-- What both programs answer. -/
def getNum (b : List Int) (p : Int) : Int × Int × Bool :=
  if p < 0 ∨ (b.length : Int) ≤ p then noNum else if b.getD p.toNat 0 = 128 then noNum else gnS 5 (b.drop p.toNat) 0 p

theorem getNum_out {b : List Int} {p : Int} (h : p < 0 ∨ (b.length : Int) ≤ p) : getNum b p = noNum := by simp only [getNum]; rw [if_pos h]

theorem drop_cons {b : List Int} {j : Nat} (h : j < b.length) : b.drop j = b.getD j 0 :: b.drop (j + 1) := by
  rw [List.drop_eq_getElem_cons h, List.getD_eq_getElem?_getD, List.getElem?_eq_getElem h]
  rfl

theorem getNum_128 {b : List Int} {p : Nat} (hp : p < b.length) (h : b.getD p 0 = 128) : getNum b p = noNum := by
  simp only [getNum]
  rw [if_neg (by omega), Int.toNat_natCast, if_pos h]

theorem getNum_S {b : List Int} {p : Nat} (hp : p < b.length) (h : b.getD p 0 ≠ 128) : getNum b p = gnS 5 (b.drop p) 0 p := by
  simp only [getNum]
  rw [if_neg (by omega), Int.toNat_natCast, if_neg h]

theorem getNum_I {b : List Int} {p : Nat} (hp : p < b.length) (h : b.getD p 0 ≠ 128) (hb : BytesOk b) : getNum b p = gnI (b.drop p) 0 p := by
  rw [getNum_S hp h, drop_cons hp]
  have hr := hb.getD p
  generalize b.getD p 0 = c at *
  simp only [gnS, gnI]
  by_cases hc : c < 128
  · rw [if_pos hc, if_neg (by omega), if_neg (by omega), if_pos hc]
  · rw [if_neg hc, if_neg (by omega), if_neg hc]
    exact (gnI_eq 4 _ _ _ (by omega) (by omega)).symm

theorem gnI_last {b : List Int} {j : Nat} {M p c : Int} (hj : j < b.length) (hc : b.getD j 0 = c) (h : c < 128) (hn : ¬ 1000000000 < M * 128 + c % 128) : gnI (b.drop j) M p = (M * 128 + c % 128, p + 1, true) := by
  rw [drop_cons hj, hc]; simp only [gnI]; rw [if_neg hn, if_pos h]
theorem gnI_over {b : List Int} {j : Nat} {M p c : Int} (hj : j < b.length) (hc : b.getD j 0 = c) (hn : 1000000000 < M * 128 + c % 128) : gnI (b.drop j) M p = noNum := by
  rw [drop_cons hj, hc]; simp only [gnI]; rw [if_pos hn]
theorem gnI_more {b : List Int} {j : Nat} {M p c : Int} (hj : j < b.length) (hc : b.getD j 0 = c) (h : ¬ c < 128) (hn : ¬ 1000000000 < M * 128 + c % 128) : gnI (b.drop j) M p = gnI (b.drop (j + 1)) (M * 128 + c % 128) (p + 1) := by
  rw [drop_cons hj, hc]; simp only [gnI]; rw [if_neg hn, if_neg h]
theorem gnI_end {b : List Int} {j : Nat} {M p : Int} (hj : b.length ≤ j) : gnI (b.drop j) M p = noNum := by
  rw [List.drop_eq_nil_of_le hj]; rfl


/-- 'xor' of two numbers that are not negative. -/
def xr (a b : Int) : Int := ((a.toNat ^^^ b.toNat : Nat) : Int)

theorem xr_lt {a b : Int} (ha : a < 4294967296) (hb : b < 4294967296) : 0 ≤ xr a b ∧ xr a b < 4294967296 := by
  have h := Nat.xor_lt_two_pow (x := a.toNat) (y := b.toNat) (n := 32) (by omega) (by omega)
  unfold xr
  omega

theorem xor_u32 (a b : Int) (h1 : 0 ≤ a) (h2 : a < 4294967296) (h3 : 0 ≤ b) (h4 : b < 4294967296) : bits .xor .u32 a b = xr a b := u32_xor a b h1 h2 h3 h4

/-! ### In natural numbers -/
def stN (x : Nat) : Nat := x / 2 ^^^ (if x % 2 = 1 then 2197175160 else 0)
def tabN (r : Nat) : Nat := [0, 274646895, 549293790, 820201905, 1098587580, 1361435347, 1640403810, 1905808397, 2197175160, 2460548119, 2722870694, 2987750089, 3280807620, 3553878443, 3811616794, 4084100981].getD r 0

theorem stN_xor (a b : Nat) : stN (a ^^^ b) = stN a ^^^ stN b := by
  have h1 : (a ^^^ b) / 2 = a / 2 ^^^ b / 2 := Nat.xor_div_two
  have h2 : (a ^^^ b) % 2 = a % 2 ^^^ b % 2 := Nat.xor_mod_two_pow (n := 1)
  unfold stN
  rw [h1, h2]
  rcases Nat.mod_two_eq_zero_or_one a with ha | ha <;> rcases Nat.mod_two_eq_zero_or_one b with hb | hb <;> simp only [ha, hb] <;> simp
  · rw [Nat.xor_assoc]
  · rw [Nat.xor_assoc, Nat.xor_assoc, Nat.xor_comm (b / 2)]
  · rw [Nat.xor_assoc, Nat.xor_comm 2197175160, Nat.xor_assoc, Nat.xor_self, Nat.xor_zero]

theorem stN_even (a : Nat) : stN (2 * a) = a := by
  unfold stN
  rw [if_neg (by omega), Nat.xor_zero]
  omega

theorem split16 (x : Nat) : x = 16 * (x / 16) ^^^ x % 16 := by
  have h : x = 2 ^ 4 * (x / 2 ^ 4) ^^^ x % 2 ^ 4 := by
    apply Nat.eq_of_testBit_eq
    intro i
    rw [Nat.testBit_xor, Nat.testBit_two_pow_mul, Nat.testBit_mod_two_pow, Nat.testBit_div_two_pow]
    by_cases hi : 4 ≤ i
    · rw [show i - 4 + 4 = i from by omega]
      simp [hi, show ¬ i < 4 from by omega]
    · simp [hi, show i < 4 from by omega]
  exact h

theorem st4_small : ∀ r : Fin 16, stN (stN (stN (stN r.val))) = tabN r.val := by decide +kernel

theorem st4 (x : Nat) : stN (stN (stN (stN x))) = x / 16 ^^^ tabN (x % 16) := by
  have h := split16 x
  generalize x / 16 = q at h ⊢
  generalize hr : x % 16 = r at h ⊢
  have hs := st4_small ⟨r, by omega⟩
  simp only at hs
  rw [h, stN_xor, stN_xor, stN_xor, stN_xor, hs, show 16 * q = 2 * (2 * (2 * (2 * q))) from by omega, stN_even, stN_even, stN_even, stN_even]

/-! ### In integers, as the walks meet them -/
def stI (x : Int) : Int := if x % 2 = 1 then xr (x / 2) 2197175160 else x / 2
theorem stI_odd {x : Int} (h : x % 2 = 1) : stI x = xr (x / 2) 2197175160 := by unfold stI; rw [if_pos h]
theorem stI_even {x : Int} (h : ¬ x % 2 = 1) : stI x = x / 2 := by unfold stI; rw [if_neg h]

theorem stI_cast (x : Nat) : stI x = (stN x : Nat) := by
  unfold stN
  by_cases h : x % 2 = 1
  · rw [stI_odd (by omega), if_pos h]
    unfold xr
    rw [show ((x : Int) / 2).toNat = x / 2 from by omega]
    rfl
  · rw [stI_even (by omega), if_neg h, Nat.xor_zero]
    omega

theorem stI_bd {x : Int} (h0 : 0 ≤ x) (h1 : x < 4294967296) : 0 ≤ stI x ∧ stI x < 4294967296 := by
  by_cases h : x % 2 = 1
  · rw [stI_odd h]; exact xr_lt (by omega) (by omega)
  · rw [stI_even h]; omega

def itI : Nat → Int → Int
  | 0, y => y
  | k + 1, y => stI (itI k y)

theorem itI_bd (k : Nat) {y : Int} (h0 : 0 ≤ y) (h1 : y < 4294967296) : 0 ≤ itI k y ∧ itI k y < 4294967296 := by
  induction k with
  | zero => exact ⟨h0, h1⟩
  | succ k ih => exact stI_bd ih.1 ih.2

def tabI (r : Int) : Int := (tabN r.toNat : Nat)
theorem tabN_lt : ∀ r : Fin 16, tabN r.val < 4294967296 := by decide +kernel
theorem tabI_bd {r : Int} (h0 : 0 ≤ r) (h1 : r < 16) : 0 ≤ tabI r ∧ tabI r < 4294967296 := by
  have := tabN_lt ⟨r.toNat, by omega⟩
  simp only at this
  unfold tabI
  omega

/-- Half a byte at once. -/
def hfI (y : Int) : Int := xr (y / 16) (tabI (y % 16))
theorem hfI_bd {y : Int} (h1 : y < 4294967296) : 0 ≤ hfI y ∧ hfI y < 4294967296 :=
  xr_lt (by omega) (tabI_bd (by omega) (by omega)).2

theorem hfI_cast (y : Nat) : hfI y = (y / 16 ^^^ tabN (y % 16) : Nat) := by
  unfold hfI xr tabI
  rw [show ((y : Int) / 16).toNat = y / 16 from by omega, show ((y : Int) % 16).toNat = y % 16 from by omega, Int.toNat_natCast]

theorem it4 (y : Nat) : itI 4 y = hfI y := by
  simp only [itI]
  rw [stI_cast, stI_cast, stI_cast, stI_cast, st4, hfI_cast]

theorem it_add (j k : Nat) (y : Int) : itI (j + k) y = itI j (itI k y) := by
  induction j with
  | zero => rw [Nat.zero_add]; rfl
  | succ j ih => rw [Nat.succ_add]; simp only [itI]; rw [ih]

theorem it8 {y : Int} (h0 : 0 ≤ y) : itI 8 y = hfI (hfI y) := by
  obtain ⟨y, rfl⟩ := Int.eq_ofNat_of_zero_le h0
  rw [show 8 = 4 + 4 from rfl, it_add, it4, hfI_cast, it4]

def byI (x c : Int) : Int := itI 8 (xr x c)
def runI (zs : List Int) : Int := zs.foldl byI 4294967295
/-- What both programs answer of a sum. -/
def crc (zs : List Int) : Int := xr (runI zs) 4294967295

theorem runI_snoc (l : List Int) (c : Int) : runI (l ++ [c]) = byI (runI l) c := by simp [runI]

theorem foldl_bd (zs : List Int) (hb : BytesOk zs) (x : Int) (h0 : 0 ≤ x) (h1 : x < 4294967296) : 0 ≤ zs.foldl byI x ∧ zs.foldl byI x < 4294967296 := by
  induction zs generalizing x with
  | nil => exact ⟨h0, h1⟩
  | cons c r ih =>
    have hc := hb c (by simp)
    have hx := xr_lt (a := x) (b := c) h1 (by omega)
    have := itI_bd 8 hx.1 hx.2
    exact ih (fun z hz => hb z (by simp [hz])) _ this.1 this.2

theorem runI_bd {zs : List Int} (hb : BytesOk zs) : 0 ≤ runI zs ∧ runI zs < 4294967296 := foldl_bd zs hb _ (by omega) (by omega)

theorem crc_bd {zs : List Int} (hb : BytesOk zs) : 0 ≤ crc zs ∧ crc zs < 4294967296 := xr_lt (runI_bd hb).2 (by omega)

theorem BytesOk.take {zs : List Int} (h : BytesOk zs) (k : Nat) : BytesOk (zs.take k) := fun z hz => h z (List.mem_of_mem_take hz)

theorem runI_step {zs : List Int} {k n : Nat} {c : Int} (hx : zs.length = n) (hk : k < n) (hc : zs.getD k 0 = c) : runI (zs.take (k + 1)) = byI (runI (zs.take k)) c := by
  rw [← hc, ← runI_snoc]
  congr 1
  rw [List.take_succ_eq_append_getElem (by omega), List.getD_eq_getElem?_getD, List.getElem?_eq_getElem (by omega)]
  rfl

theorem not_u32 {X : Int} (h0 : 0 ≤ X) (h1 : X < 4294967296) : bits .xor .u32 IntKind.u32.max X = xr X 4294967295 := by
  rw [show IntKind.u32.max = 4294967295 from by decide, xor_u32 4294967295 X (by omega) (by omega) h0 h1]
  unfold xr
  rw [Nat.xor_comm]

open Go.RowKit

/-- What the table's variable holds. -/
def TabAt (w : World) : Prop := ∀ r : Nat, r < 16 → w.cell? ⟨2, r, none⟩ = some (.int .u32 (tabI r))

theorem TabAt.size {w : World} (h : TabAt w) : 0 < w.heap.size := Nat.lt_of_le_of_lt (Nat.zero_le _) (World.block_lt_of_cell? _ _ (h 0 (by decide)))
theorem TabAt.below {w w' : World} (h : TabAt w) (hb : Below w.heap.size w w') (_hB : 0 < w.heap.size) : TabAt w' := fun r hr => (hb.cell (p := ⟨2, r, none⟩) (World.block_lt_of_cell? _ _ (h r hr))).trans (h r hr)

set_option maxHeartbeats 400000 in
theorem implSum_any (a : Option Addr) (n cap : Nat) (zs : List Int) (w : World) (B : Nat) (hx : zs.length = n) (hlen : n ≤ 140737488351232) (hb : BytesOk zs) (hra : Rd .u8 B w a zs) (ht : TabAt w) :
    Calls Tryd.prog 27 #[.slice a n cap] w fun e w' => e = .returned (.int .i64 (crc zs)) ∧ w' = w := by
  have HX : Hid (zs.length = n) := hx
  clear hx
  go_enter Tryd.func27, Tryd.ntmps27
  go_wp2
  go_loop [3, 5, 8] (fun x q i => ∃ k : Nat, k ≤ n ∧ i = .int .i64 k ∧ x = .int .u32 (runI (zs.take k))) (fun _ _ i => n - (intOf i).toNat)
  case atStart => exact ⟨0, Nat.zero_le _, rfl, rfl⟩
  case round =>
    obtain ⟨k, hk, rfl, rfl⟩ := hrel
    have hbd := runI_bd (hb.take k)
    by_cases hlt : k < n
    · obtain ⟨b1, o1, rfl, _, hc1⟩ := hra k (by rw [HX.out]; exact hlt)
      have hcr := hb.getD k
      generalize hC : zs.getD k 0 = c at hc1 hcr
      have HS := Hid.mk (runI_step HX.out hlt hC)
      clear hC hra hb
      generalize runI (zs.take k) = X at hbd HS
      have hx1 := xor_u32 X c hbd.1 hbd.2 hcr.1 (by omega)
      have hxb := xr_lt (a := X) (b := c) hbd.2 (by omega)
      have HB : Hid (byI X c = hfI (hfI (xr X c))) := it8 hxb.1
      generalize xr X c = Y at hx1 hxb HB
      have ht1 := ht (Y % 16).toNat (by omega)
      rw [show (((Y % 16).toNat : Nat) : Int) = Y % 16 from by omega] at ht1
      have htb := tabI_bd (r := Y % 16) (by omega) (by omega)
      have hx2 := xor_u32 (Y / 16) (tabI (Y % 16)) (by omega) (by omega) htb.1 htb.2
      have hyb := hfI_bd hxb.2
      have e2 : xr (Y / 16) (tabI (Y % 16)) = hfI Y := rfl
      rw [e2] at hx2
      generalize hfI Y = Z at hx2 hyb HB
      generalize tabI (Y % 16) = t1 at ht1 htb hx2
      have ht2 := ht (Z % 16).toNat (by omega)
      rw [show (((Z % 16).toNat : Nat) : Int) = Z % 16 from by omega] at ht2
      have htb2 := tabI_bd (r := Z % 16) (by omega) (by omega)
      have hx3 := xor_u32 (Z / 16) (tabI (Z % 16)) (by omega) (by omega) htb2.1 htb2.2
      have e3 : xr (Z / 16) (tabI (Z % 16)) = hfI Z := rfl
      rw [e3] at hx3
      generalize hfI Z = V at hx3 HB
      generalize tabI (Z % 16) = t2 at ht2 htb2 hx3
      clear ht e2 e3
      go_wp2
      go_round
      case rel => exact ⟨k + 1, by omega, by go_num, by rw [HS.out, HB.out]⟩
      case measure => simp [intOf]; omega
    · have hkn : k = n := by omega
      have HT : Hid (crc zs = xr (runI (zs.take k)) 4294967295) := by unfold Hid crc; rw [List.take_of_length_le (by rw [HX.out]; omega)]
      generalize runI (zs.take k) = X at hbd HT
      have hx1 := not_u32 hbd.1 hbd.2
      have hxb := xr_lt (a := X) (b := 4294967295) hbd.2 (by omega)
      generalize xr X 4294967295 = V at hx1 hxb HT
      go_wp2
      go_ret
      refine ⟨?_, rfl⟩
      rw [HT.out]
      show Ending.returned (Value.int .i64 (wrap64 V)) = _
      rw [show wrap64 V = V from by unfold wrap64; omega]

end Go.Proofs.YtmedljankefhbaaDoor

namespace Go.Proofs.YtmedljankefhbaaDoor
open Go.RowKit

def mk1 (s : ByteArray) : Int := crc (byteInts s) % 64
def mk2 (s : ByteArray) : Int := crc (byteInts s) / 64 % 64
theorem mk1_bd (s : ByteArray) : 0 ≤ mk1 s ∧ mk1 s < 64 := by unfold mk1; omega
theorem mk2_bd (s : ByteArray) : 0 ≤ mk2 s ∧ mk2 s < 64 := by unfold mk2; omega

set_option maxHeartbeats 800000 in
theorem implMark_any (s : ByteArray) (w : World) (hs : s.size ≤ 140737488351232) (ht : TabAt w) :
    Calls Tryd.prog 11 #[.string s] w fun e w' => e = .returned (.tuple #[.int .i64 (mk1 s), .int .i64 (mk2 s)]) ∧ Below w.heap.size w w' := by
  obtain ⟨w1, cap, hcv, hb1, hr1⟩ := strRd s w
  have hR := crc_bd (byteInts_ok s)
  have hsz : 0 < w.heap.size := ht.size
  go_enter Tryd.func11, Tryd.ntmps11
  go_wp2_with fail
  refine (implSum_any _ s.size cap (byteInts s) w1 w1.heap.size (byteInts_length s) hs (byteInts_ok s) hr1 (ht.below hb1 hsz)).mono ?_
  rintro e w2 ⟨rfl, rfl⟩
  obtain ⟨R, hRR⟩ : ∃ R, R = crc (byteInts s) := ⟨_, rfl⟩
  have HM : Hid (mk1 s = R % 64 ∧ mk2 s = R / 64 % 64) := ⟨by rw [hRR]; rfl, by rw [hRR]; rfl⟩
  rw [← hRR] at hR ⊢
  clear hRR
  have e1 : R.tmod 64 = R % 64 := Int.tmod_eq_emod_of_nonneg hR.1
  have e2 : R.tdiv 64 = R / 64 := Int.tdiv_eq_ediv_of_nonneg hR.1
  have e3 : (R / 64).tmod 64 = R / 64 % 64 := Int.tmod_eq_emod_of_nonneg (by omega)
  go_wp2_with fail
  go_ret2
  exact ⟨by rw [HM.out.1, HM.out.2]; rfl, hb1⟩


def orB (a b : Int) : Int := ((a.toNat ||| b.toNat : Nat) : Int)
def bitOn (f : List Int) (n : Int) : List Int := f.set (n / 8).toNat (orB (f.getD (n / 8).toNat 0) (2 ^ (n % 8).toNat))
def fltAdd (f : List Int) (s : ByteArray) : List Int := bitOn (bitOn f (mk1 s)) (mk2 s)
/-- The eight bytes of the keys' bits. -/
def flt (ks : List ByteArray) : List Int := ks.foldl fltAdd (List.replicate 8 0)
def hasB (f : List Int) (n : Int) : Bool := decide (f.getD (n / 8).toNat 0 / 2 ^ (n % 8).toNat % 2 = 1)
/-- Whether both bits of a key are there. -/
def mayP (f : List Int) (s : ByteArray) : Bool := !decide (f.length = 8) || (hasB f (mk1 s) && hasB f (mk2 s))

theorem orB_byte {a b : Int} (ha : 0 ≤ a ∧ a ≤ 255) (hb : 0 ≤ b ∧ b ≤ 255) : 0 ≤ orB a b ∧ orB a b ≤ 255 := by
  have h := Nat.or_lt_two_pow (x := a.toNat) (y := b.toNat) (n := 8) (by omega) (by omega)
  unfold orB
  omega
theorem pow8 {k : Nat} (h : k < 8) : (0 : Int) ≤ 2 ^ k ∧ (2 : Int) ^ k ≤ 128 := by
  match k, h with
  | 0, _ => decide
  | 1, _ => decide
  | 2, _ => decide
  | 3, _ => decide
  | 4, _ => decide
  | 5, _ => decide
  | 6, _ => decide
  | 7, _ => decide
theorem getD_byte {f : List Int} (h : BytesOk f) (i : Nat) : 0 ≤ f.getD i 0 ∧ f.getD i 0 ≤ 255 := by
  rw [List.getD_eq_getElem?_getD]
  by_cases hi : i < f.length
  · rw [List.getElem?_eq_getElem hi]
    exact h _ (List.getElem_mem hi)
  · rw [List.getElem?_eq_none (by omega)]
    simp
theorem bitOn_length (f : List Int) (n : Int) : (bitOn f n).length = f.length := by simp [bitOn]
theorem bitOn_ok {f : List Int} {n : Int} (h : BytesOk f) : BytesOk (bitOn f n) := by
  intro z hz
  unfold bitOn at hz
  rcases List.mem_or_eq_of_mem_set hz with h1 | rfl
  · exact h z h1
  · have hp := pow8 (k := (n % 8).toNat) (by omega)
    exact orB_byte (getD_byte h _) ⟨hp.1, by omega⟩
theorem fltAdd_length (f : List Int) (s : ByteArray) : (fltAdd f s).length = f.length := by simp [fltAdd, bitOn_length]
theorem fltAdd_ok {f : List Int} {s : ByteArray} (h : BytesOk f) : BytesOk (fltAdd f s) := bitOn_ok (bitOn_ok h)
theorem fold_length (ks : List ByteArray) (f : List Int) : (ks.foldl fltAdd f).length = f.length := by
  induction ks generalizing f with
  | nil => rfl
  | cons k ks ih => rw [List.foldl_cons, ih, fltAdd_length]
theorem fold_ok (ks : List ByteArray) {f : List Int} (h : BytesOk f) : BytesOk (ks.foldl fltAdd f) := by
  induction ks generalizing f with
  | nil => exact h
  | cons k ks ih => exact ih (fltAdd_ok h)
theorem flt_length (ks : List ByteArray) : (flt ks).length = 8 := by unfold flt; rw [fold_length]; rfl
theorem flt_ok (ks : List ByteArray) : BytesOk (flt ks) := fold_ok ks (by intro z hz; rw [List.eq_of_mem_replicate hz]; omega)
theorem flt_step {l : List ByteArray} {k : Nat} (h : k < l.length) : flt (l.take (k + 1)) = fltAdd (flt (l.take k)) l[k] := by
  unfold flt
  rw [List.take_succ_eq_append_getElem h, List.foldl_append]
  rfl


theorem Tryd.info5 : (Tryd.prog.info? 5).map (fun i => (i.zero, i.size, i.bytes)) = some (some (.int .u8 0), 1, 1) := by kernel_rfl


theorem setCells_row (g : Nat) (e : TypeId) : ∀ (news : List Value) (o : Nat) (w : World) (cur : Array Value), w.heap[g]? = some (.cells cur e (0, 0)) → o + news.length ≤ cur.size →
    (∃ cur', (w.setCells g o news).heap[g]? = some (.cells cur' e (0, 0)) ∧ cur'.size = cur.size ∧ cur'.toList.take (o + news.length) = cur.toList.take o ++ news) ∧ w.grownBy (w.setCells g o news) (some g)
  | [], o, w, cur, hg, _ => ⟨⟨cur, hg, rfl, by simp⟩, World.grownBy.refl _ _⟩
  | u :: r, o, w, cur, hg, hfit => by
    have h1 := heap_setCell_same w g o cur e u hg
    obtain ⟨⟨cur', h2, h3, h4⟩, h5⟩ := setCells_row g e r (o + 1) (w.setCell ⟨g, o, none⟩ u) (cur.setIfInBounds o u) h1 (by simp at hfit ⊢; omega)
    refine ⟨⟨cur', h2, by simpa using h3, ?_⟩, ?_⟩
    · have e1 : o + (u :: r).length = o + 1 + r.length := by simp; omega
      rw [e1, h4, Array.toList_setIfInBounds]
      have ho : o < cur.toList.length := by simp at hfit ⊢; omega
      rw [List.take_set, List.take_succ_eq_append_getElem ho, List.set_append_right _ _ (by simp; omega)]
      have e2 : o - (cur.toList.take o).length = 0 := by simp; omega
      rw [e2]
      simp
    · exact grown_trans (b := w.setCell ⟨g, o, none⟩ u) ⟨rfl, rfl, rfl, by simp, fun k _ hk => heap_setCell_other w ⟨g, o, none⟩ k u (fun e => hk (by simp [e]))⟩ h5

section
variable {P : Program} (w : World)

theorem run_append_src (base : Nat) (t tx ty e : TypeId) (i : TypeInfo) (z : Value) (size bytes : Nat) (ht : P.underlying t = some (.slice e)) (hi : P.info? e = some i) (hz : i.zero = some z)
    (hsize : i.size = size) (hby : i.bytes = bytes) (hzs : z.cells.size = size)
    (v : Value) (n : Nat) (xs : List Value) (hown : w.ownsRow base e size v n xs) (x : Value) (m : Nat) (news : List Value) (hs : Src P size tx x m news w)
    (h63 : n + m ≤ maxLen) (hbytes : (n + m) * bytes ≤ 140737488355328) (hbase : base ≤ w.heap.size) :
    ∃ v' w', (Builtin.append_ #[t, tx] ty #[v, x]).run P w = .ok v' w' ∧ w'.ownsRow base e size v' (n + m) (xs ++ news) ∧ w.grownBy w' v.ownBlock := by
  subst hsize
  subst hby
  have hl := hs.newsLen
  have hsmall : n + m ≤ 9223372036854775807 := by simp only [maxLen] at h63; omega
  have hlen : (xs ++ news).length = (n + m) * i.size := by rw [List.length_append, hown.1, hl, Nat.add_mul]
  have grown : ∀ (old : Nat), old < n + m → ∀ (row : Option Nat),
      (w.drew.alloc (.cells ((xs ++ news).toArray ++ Builtin.zeroCells z.cells (grownCap w (n + m) old e - (n + m))) e)).ownsRow base e i.size
        (.slice (some ⟨w.heap.size, 0, none⟩) (n + m) (grownCap w (n + m) old e)) (n + m) (xs ++ news) ∧
      w.grownBy (w.drew.alloc (.cells ((xs ++ news).toArray ++ Builtin.zeroCells z.cells (grownCap w (n + m) old e - (n + m))) e)) row := by
    intro old ho row
    have hge := grownCap_ge w (n + m) old e
    have hcm : grownCap w (n + m) old e ≤ maxLen := grownCap_le_maxLen w (n + m) old e h63
    refine ⟨⟨hlen, .inr ⟨w.heap.size, _, _, rfl, hbase, heap_alloc_new w.drew _, hge, hcm, ?_, ?_⟩⟩, ⟨rfl, rfl, rfl, by simp, fun k hk _ => Go.heap_alloc_old w.drew _ hk⟩⟩
    · rw [Array.size_append, List.size_toArray, size_zeroCells, hzs, hlen, ← Nat.add_mul]
      congr 1
      omega
    · rw [Array.toList_append, ← hlen]
      exact List.take_left
  rcases hown.2 with ⟨rfl, rfl⟩ | ⟨g, cap, cur, rfl, hbg, hg, hnc, hcm, hcs, htake⟩
  · have hx : xs = [] := List.eq_nil_of_length_eq_zero (by simpa using hown.1)
    subst hx
    by_cases hm : m = 0
    · subst hm
      have hn : news = [] := List.eq_nil_of_length_eq_zero (by simpa using hl)
      subst hn
      refine ⟨.slice none 0 0, w, ?_, World.ownsRow_nil w base e i.size, World.grownBy.refl _ _⟩
      rcases hs.kind with ⟨e', hk⟩ | hk <;> simp [Builtin.append_, run_underlying ht, run_underlying hk, sizeOf, typeInfo, hi, hs.len, hs.cells]
    · have hr := run_append_grow_src (P := P) w t tx ty e i z ht hi hz none 0 0 [] (run_firstCells_none w.drew i.size 0 0 0) x m news hs (by omega) (by omega) (growslice_fits (by omega) hbytes)
      have hgr := grown 0 (by omega) (Value.ownBlock (.slice none 0 0))
      exact ⟨_, _, hr, hgr.1, hgr.2⟩
  · by_cases hroom : n + m ≤ cap
    · have hfit : n * i.size + news.length ≤ cur.size := by rw [hl, hcs, ← Nat.add_mul]; exact Nat.mul_le_mul_right _ hroom
      have hr := run_append_room_src (P := P) w t tx ty e i ht hi g 0 n cap x m news hs hroom
        (fun j hj => by rw [Nat.zero_add, cell_of_row w g _ cur e (0, 0) hg, Array.getElem?_eq_getElem (by omega)]; rfl) (fun j hj => frozen_of_row w g _ cur e hg)
      rw [Nat.zero_add] at hr
      obtain ⟨⟨cur', h2, h3, h4⟩, h5⟩ := setCells_row g e news (n * i.size) w cur hg hfit
      refine ⟨_, _, hr, ⟨hlen, .inr ⟨g, cap, cur', rfl, hbg, h2, hroom, hcm, by rw [h3, hcs], ?_⟩⟩, h5⟩
      rw [Nat.add_mul, ← hl, h4, htake]
    · have holds : (Builtin.firstCells i.size n (.slice (some ⟨g, 0, none⟩) n cap)).run P w.drew = .ok xs.toArray w.drew :=
        run_firstCells_some w.drew i.size n ⟨g, 0, none⟩ n cap xs hown.1 (by simpa using hown.cells (g := g) rfl)
      have hr := run_append_grow_src (P := P) w t tx ty e i z ht hi hz (some ⟨g, 0, none⟩) n cap xs holds x m news hs (by omega) (by omega) (growslice_fits (by omega) hbytes)
      have hgr := grown cap (by omega) (Value.ownBlock (.slice (some ⟨g, 0, none⟩) n cap))
      exact ⟨_, _, hr, hgr.1, hgr.2⟩

/-- The same in a walk: 'go_wp2_with (at_builtin; refine wpList_append_src ..)'. -/
theorem wpList_append_src {ops : Array Oper} {rest : List Oper} {o : Oper} {a : Act} {Q : Exit → Act → World → Prop} (hgd : o.guard = none) (s x : Operand) (t tx : TypeId)
    (ho : o.op = .call { callee := .builtin .append, args := #[s, x], argTypes := #[t, tx] })
    (base : Nat) (e : TypeId) (i : TypeInfo) (z : Value) (size bytes : Nat) (ht : P.underlying t = some (.slice e)) (hi : P.info? e = some i) (hz : i.zero = some z)
    (hsize : i.size = size) (hby : i.bytes = bytes) (hzs : z.cells.size = size)
    (v : Value) (n : Nat) (xs : List Value) (hs : a.eval s = v) (hown : w.ownsRow base e size v n xs)
    (m : Nat) (news : List Value) (hx : Src P size tx (a.eval x) m news w)
    (h63 : n + m ≤ maxLen) (hbytes : (n + m) * bytes ≤ 140737488355328) (hbase : base ≤ w.heap.size)
    (h : ∀ v' w', w'.ownsRow base e size v' (n + m) (xs ++ news) → w.grownBy w' v.ownBlock → wpList P ops Q rest (a.put o.dst v') w') : wpList P ops Q (o :: rest) a w := by
  refine wpList_plain hgd fun K hK => ?_
  obtain ⟨v', w', hr, h2, h3⟩ := run_append_src (P := P) w base t tx o.type e i z size bytes ht hi hz hsize hby hzs v n xs hown (a.eval x) m news hx h63 hbytes hbase
  unfold Oper.wp execOp
  simp only [ho, resolve, invoke, builtin, Sem.run_bind, Sem.run_pure, Result.andThen_ok, List.map_toArray, List.map_cons, List.map_nil, hs, hr]
  exact hK _ _ (h v' w' h2 h3)

end

/-- What is read of a slice of integers, as the source of an append. -/
theorem Src.rd {P : Program} {w : World} {k : IntKind} {B : Nat} {a : Option Addr} {zs : List Int} {tx e' : TypeId} {n c : Nat} (hk : P.underlying tx = some (.slice e')) (hn : zs.length = n) (hr : Rd k B w a zs) :
    Src P 1 tx (.slice a n c) n (zs.map (Value.int k)) w := by
  cases a with
  | none =>
    have hz : zs = [] := by
      cases zs with
      | nil => rfl
      | cons z r =>
        obtain ⟨_, _, h, _⟩ := hr 0 (by simp)
        cases h
    subst hz
    simp only [List.length_nil] at hn
    subst hn
    exact Src.ofNil w hk c
  | some ad =>
    refine Src.ofSlice w hk ad n c _ (by simp [hn]) (fun j u hu => ?_) (ints_oneCell k zs)
    have hj : j < zs.length := by
      rcases Nat.lt_or_ge j zs.length with h | h
      · exact h
      · simp [List.getElem?_eq_none h] at hu
    obtain ⟨b, off, e, _, hc⟩ := hr j hj
    simp only [Option.some.injEq] at e
    subst e
    rw [Addr.add_lit, hc]
    simp [List.getElem?_eq_getElem hj] at hu
    simp [List.getElem?_eq_getElem hj, hu]

/-- 'make([]T, l, c)', elements of one cell: l zero elements are owned. -/
theorem wpList_make_any {P : Program} (w : World) {ops : Array Oper} {rest : List Oper} {o : Oper} {a : Act} {Q : Exit → Act → World → Prop}
    (hg : o.guard = none) (l c : Operand) (t : TypeId) (hop : o.op = Op.makeSlice t l c)
    (base : Nat) (e : TypeId) (i : TypeInfo) (z : Value) (h1 : P.underlying t = some (.slice e)) (h2 : P.info? e = some i) (h3 : i.zero = some z) (h4 : i.size = 1) (h5 : z.cells = #[z])
    (kl kc : IntKind) (L C : Int) (n m : Nat) (hl : a.eval l = .int kl L) (hc : a.eval c = .int kc C) (hL : L = (n : Int)) (hC : C = (m : Int)) (hnm : n ≤ m) (b2 : i.bytes * m ≤ 281474976710656) (b3 : m ≤ maxLen) (b4 : base ≤ w.heap.size)
    (hK : ∀ w', w'.ownsRow base e 1 (.slice (some ⟨w.heap.size, 0, none⟩) n m) n (List.replicate n z) → w.grownBy w' none → wpList P ops Q rest (a.put o.dst (.slice (some ⟨w.heap.size, 0, none⟩) n m)) w') :
    wpList P ops Q (o :: rest) a w := by
  refine wpList_plain hg fun K hK' => ?_
  have hb' : (i.bytes : Int) * (m : Int) ≤ 281474976710656 := by
    have h : ((i.bytes * m : Nat) : Int) ≤ 281474976710656 := by omega
    rwa [Int.natCast_mul] at h
  have hrun := run_make (P := P) w t e i z h1 h2 h3 kl kc n m (by omega) (by omega) hb' (by simp [maxLen] at b3; omega)
  simp only [Int.toNat_natCast, h4, Nat.mul_one, h5] at hrun
  subst hL
  subst hC
  unfold Oper.wp
  simp [execOp, hop, hl, hc, hrun, Result.andThen]
  refine hK' _ _ (hK _ ⟨by simp, .inr ⟨w.heap.size, m, _, rfl, b4, heap_alloc_new w _, hnm, b3, by simp [size_madeCells], ?_⟩⟩ (World.grownBy_alloc w _ none))
  rw [toList_madeCells_one]
  simp [hnm]

/-- 'copy(out, src)', out a row of the call's own, no longer than src. -/
theorem wpList_copy_le {P : Program} {w : World} {ops : Array Oper} {rest : List Oper} {o : Oper} {a : Act} {Q : Exit → Act → World → Prop} (hgd : o.guard = none) (d s : Operand) (dT sT : TypeId)
    (ho : o.op = .call { callee := .builtin .copy, args := #[d, s], argTypes := #[dT, sT] }) (e : TypeId) (i : TypeInfo) (hu : P.underlying dT = some (.slice e)) (hi : P.info? e = some i) (hsz : i.size = 1)
    (base g n cap sl scap : Nat) (ao : Option Addr) (hd : a.eval d = .slice (some ⟨g, 0, none⟩) n cap) (hs : a.eval s = .slice ao sl scap)
    (xs : List Value) (hown : w.ownsRow base e 1 (.slice (some ⟨g, 0, none⟩) n cap) n xs)
    (k : IntKind) (zs : List Int) (B : Nat) (hz : zs.length = sl) (hle : n ≤ sl) (hr : Rd k B w ao zs)
    (h : ∀ w', w'.ownsRow base e 1 (.slice (some ⟨g, 0, none⟩) n cap) n ((zs.take n).map (Value.int k)) → w.grownBy w' (some g) → wpList P ops Q rest (a.put o.dst (goInt n)) w') : wpList P ops Q (o :: rest) a w := by
  have hsz' : (P.info? e).map (·.size) = some 1 := by rw [hi]; simp [hsz]
  by_cases h0 : n = 0
  · subst h0
    have hx' : xs = [] := List.eq_nil_of_length_eq_zero (by simpa using hown.1)
    subst hx'
    exact wpList_copy_nothing hgd d s dT sT ho e hu hsz' _ _ _ _ _ _ hd hs (by simp) (h w (by simpa using hown) (World.grownBy.refl _ _))
  · obtain ⟨b, off, rfl, _, _⟩ := hr 0 (by omega)
    rcases hown.2 with ⟨h', _⟩ | ⟨g', cap', cur, h', hb, hg, hnc, hcm, hcs, htake⟩
    · simp at h'
    · simp only [Value.slice.injEq, Option.some.injEq, Addr.mk.injEq, and_true, true_and] at h'
      obtain ⟨rfl, rfl⟩ := h'
      have hl : ((zs.take n).map (Value.int k)).length = n := by simp [hz, hle]
      refine wpList_copy_own hgd d s dT sT ho e hu hsz' g 0 n cap ⟨b, off, none⟩ sl scap hd hs cur e hg ((zs.take n).map (Value.int k)) (by rw [hl]; exact (Nat.min_eq_right hle).symm) ?_ (by rw [hl]; omega) (ints_oneCell k _) ?_
      · intro j u hu
        have hjn : j < n := by
          rcases Nat.lt_or_ge j n with h | h
          · exact h
          · rw [List.getElem?_eq_none (by rw [hl]; exact h)] at hu; cases hu
        have hj : j < zs.length := by omega
        obtain ⟨b', off', e', _, hc⟩ := hr j hj
        simp only [Option.some.injEq, Addr.mk.injEq, and_true] at e'
        obtain ⟨rfl, rfl⟩ := e'
        rw [Addr.add_lit, hc]
        simp [hjn, List.getElem?_eq_getElem hj] at hu
        simp [List.getElem?_eq_getElem hj, hu]
      · rw [hl]
        refine h _ ⟨by rw [hl, Nat.mul_one], .inr ⟨g, cap, _, rfl, hb, setRow_heap w g cur _ e _ hg, hnc, hcm, ?_, ?_⟩⟩ ⟨rfl, rfl, rfl, by simp [World.setRow], fun k _ hk => setRow_other w g k _ (fun e => hk (by simp [e]))⟩
        · simp [hz]; omega
        · simp [hz, hle]

theorem wpList_copy_rd {P : Program} {w : World} {ops : Array Oper} {rest : List Oper} {o : Oper} {a : Act} {Q : Exit → Act → World → Prop} (hgd : o.guard = none) (d s : Operand) (dT sT : TypeId)
    (ho : o.op = .call { callee := .builtin .copy, args := #[d, s], argTypes := #[dT, sT] }) (e : TypeId) (i : TypeInfo) (hu : P.underlying dT = some (.slice e)) (hi : P.info? e = some i) (hsz : i.size = 1)
    (base g n cap scap : Nat) (ao : Option Addr) (hd : a.eval d = .slice (some ⟨g, 0, none⟩) n cap) (hs : a.eval s = .slice ao n scap)
    (xs : List Value) (hown : w.ownsRow base e 1 (.slice (some ⟨g, 0, none⟩) n cap) n xs)
    (k : IntKind) (zs : List Int) (B : Nat) (hz : zs.length = n) (hr : Rd k B w ao zs)
    (h : ∀ w', w'.ownsRow base e 1 (.slice (some ⟨g, 0, none⟩) n cap) n (zs.map (Value.int k)) → w.grownBy w' (some g) → wpList P ops Q rest (a.put o.dst (goInt n)) w') : wpList P ops Q (o :: rest) a w :=
  wpList_copy_le hgd d s dT sT ho e i hu hi hsz base g n cap n scap ao hd hs xs hown k zs B hz (Nat.le_refl _) hr (fun w' h1 h2 => h w' (by rwa [List.take_of_length_le (Nat.le_of_eq hz)] at h1) h2)

end Go.Proofs.YtmedljankefhbaaDoor

namespace Go.Proofs.YtmedljankefhbaaDoor

/-- The nearest number that is kept. -/
def clampN (n : Int) : Int := if 1000000000 < n then 1000000000 else if n < 0 then 0 else n

theorem clampN_lo {n : Int} (h : n < 0) : clampN n = 0 := by unfold clampN; rw [if_neg (by omega), if_pos h]
theorem clampN_hi {n : Int} (h : 1000000000 < n) : clampN n = 1000000000 := by unfold clampN; rw [if_pos h]
theorem clampN_in {n : Int} (h : 0 ≤ n) (h' : n ≤ 1000000000) : clampN n = n := by unfold clampN; rw [if_neg (by omega), if_neg (by omega)]
/-- The group at d (a power of 128), if it or a higher one is there. -/
def hiG (n d : Int) : List Int := if 0 < n / d then [n / d % 128 + 128] else []

theorem hiG_yes {n d : Int} (h : 0 < n / d) : hiG n d = [n / d % 128 + 128] := by unfold hiG; rw [if_pos h]
theorem hiG_no {n d : Int} (h : ¬ 0 < n / d) : hiG n d = [] := by unfold hiG; rw [if_neg h]

/-- The groups that the first j rounds lay. -/
def hiTo (n : Int) : Nat → List Int
  | 0 => []
  | 1 => hiG n 268435456
  | 2 => hiG n 268435456 ++ hiG n 2097152
  | 3 => hiG n 268435456 ++ hiG n 2097152 ++ hiG n 16384
  | _ => hiG n 268435456 ++ hiG n 2097152 ++ hiG n 16384 ++ hiG n 128

/-- The bytes of a number from 0 to MaxNum. -/
def putNum (n : Int) : List Int := hiTo n 4 ++ [n % 128]

theorem hiG_ok (n d : Int) : BytesOk (hiG n d) := by
  intro z hz
  unfold hiG at hz
  split at hz
  · simp at hz; omega
  · simp at hz

theorem hiG_length (n d : Int) : (hiG n d).length ≤ 1 := by unfold hiG; split <;> simp

theorem BytesOk.append {a b : List Int} (ha : BytesOk a) (hb : BytesOk b) : BytesOk (a ++ b) := by
  intro z hz
  rcases List.mem_append.1 hz with h | h
  · exact ha z h
  · exact hb z h

theorem putNum_ok (n : Int) : BytesOk (putNum n) := by
  refine BytesOk.append (BytesOk.append (BytesOk.append (BytesOk.append (hiG_ok _ _) (hiG_ok _ _)) (hiG_ok _ _)) (hiG_ok _ _)) ?_
  intro z hz
  simp at hz
  omega

theorem hiTo_length (n : Int) (j : Nat) : (hiTo n j).length ≤ 4 := by
  have h1 := hiG_length n 268435456
  have h2 := hiG_length n 2097152
  have h3 := hiG_length n 16384
  have h4 := hiG_length n 128
  unfold hiTo
  split <;> simp <;> omega

theorem putNum_length (n : Int) : 1 ≤ (putNum n).length ∧ (putNum n).length ≤ 5 := by
  have := hiTo_length n 4
  simp [putNum]
  omega

theorem or128_nat : ∀ z : Fin 256, (z.val ||| 128) = z.val % 128 + 128 := by decide +kernel

theorem or128_u8 (y : Int) : bits .or .u8 (y % 256) 128 = y % 128 + 128 := by
  rw [u8_or (y % 256) 128 (by omega) (by omega) (by omega) (by omega)]
  have h := or128_nat ⟨(y % 256).toNat, by omega⟩
  simp only at h
  have e : (128 : Int).toNat = 128 := rfl
  rw [e, h]
  omega

/-- The bytes of several numbers, one behind the other. -/
def putNums (l : List Int) : List Int := (l.map (fun n => putNum (clampN n))).flatten

theorem putNums_snoc (l : List Int) (n : Int) : putNums (l ++ [n]) = putNums l ++ putNum (clampN n) := by simp [putNums]

theorem putNums_length (l : List Int) : (putNums l).length ≤ 5 * l.length := by
  induction l with
  | nil => simp [putNums]
  | cons a r ih =>
    have := putNum_length (clampN a)
    simp only [putNums, List.map_cons, List.flatten_cons, List.length_append, List.length_cons] at ih ⊢
    omega

end Go.Proofs.YtmedljankefhbaaDoor

namespace Go.Proofs.YtmedljankefhbaaDoor
open Go.RowKit

set_option maxHeartbeats 800000 in
theorem addGroups_own (v : Value) (n base : Nat) (zs : List Int) (N : Int) (w : World) (hlen : n ≤ 70368744177664) (hN0 : 0 ≤ N) (hN1 : N ≤ 1000000000) (hbase : base ≤ w.heap.size)
    (hown : w.ownsRow base 5 1 v n (zs.map (Value.int .u8))) :
    Calls Tryd.prog 52 #[v, .int .i64 N] w fun e w' => ∃ v', e = .returned v' ∧
      w'.ownsRow base 5 1 v' (n + (putNum N).length) ((zs ++ putNum N).map (Value.int .u8)) ∧ Below base w w' := by
  obtain ⟨i0, hi, hz0, hz1, hz2⟩ := info_parts Tryd.info5
  go_enter Tryd.func52, Tryd.ntmps52
  go_wp2_with fail
  go_loopw [0, 5] (fun o k wr => ∃ j : Nat, j ≤ 4 ∧ k = .int .i64 (28 - 7 * (j : Int)) ∧
    wr.ownsRow base 5 1 o (n + (hiTo N j).length) ((zs ++ hiTo N j).map (Value.int .u8)) ∧ Below base w wr) (fun _ k _ => (intOf k).toNat)
  case atStart => exact ⟨0, by omega, rfl, by simpa [hiTo] using hown, Below.refl _ _⟩
  case round =>
    obtain ⟨j, hj, rfl, hownk, hbk⟩ := hrel
    clear hown
    rcases (show j = 0 ∨ j = 1 ∨ j = 2 ∨ j = 3 ∨ j = 4 from by omega) with rfl | rfl | rfl | rfl | rfl
    · have hor : bits .or .u8 (N / 268435456) 128 = N / 268435456 % 128 + 128 := by have h := or128_u8 (N / 268435456); rwa [show N / 268435456 % 256 = N / 268435456 from by omega] at h
      have hll := hiTo_length N 0
      by_cases hg : 0 < N / 268435456
      · have hstep : hiTo N (0 + 1) = hiTo N 0 ++ [N / 268435456 % 128 + 128] := by simp only [hiTo, hiG_yes hg]; try rfl
        have HS := Hid.mk hstep
        clear hstep
        go_wp2_with (at_builtin; refine wpList_append_src _ rfl _ _ 22 22 rfl base 5 i0 (.int .u8 0) 1 1 Tryd.underlying22 hi hz0 hz1 hz2 rfl _ _ _ rfl (hownk.alloc _) 1 [.int .u8 (N / 268435456 % 128 + 128)] (Src.ofSlice _ Tryd.underlying22 ⟨_, 0, none⟩ 1 1 _ rfl (cell_one_new _ _ _) (oneInt _ _)) (by unfold maxLen; omega) (by omega) (by have := hbk.size; simp; omega) ?_)
        intro v2 w2 hown2 hgr2
        have hb2 := below_app hbk hbase hownk hgr2
        clear hgr2
        go_wp2
        go_roundw
        case rel =>
          refine ⟨0 + 1, by omega, by go_num, ?_, hb2⟩
          exact own_congr hown2 (by rw [HS.out]; simp; try omega) (by rw [HS.out]; simp)
        case measure => simp [intOf]
      · have hstep : hiTo N (0 + 1) = hiTo N 0 := by simp [hiTo, hiG_no hg]
        have HS := Hid.mk hstep
        clear hstep hor
        go_wp2
        go_roundw
        case rel =>
          refine ⟨0 + 1, by omega, by go_num, ?_, hbk⟩
          rw [HS.out]
          exact hownk
        case measure => simp [intOf]
    · have hor := or128_u8 (N / 2097152)
      have hll := hiTo_length N 1
      by_cases hg : 0 < N / 2097152
      · have hstep : hiTo N (1 + 1) = hiTo N 1 ++ [N / 2097152 % 128 + 128] := by simp only [hiTo, hiG_yes hg]; try rfl
        have HS := Hid.mk hstep
        clear hstep
        go_wp2_with (at_builtin; refine wpList_append_src _ rfl _ _ 22 22 rfl base 5 i0 (.int .u8 0) 1 1 Tryd.underlying22 hi hz0 hz1 hz2 rfl _ _ _ rfl (hownk.alloc _) 1 [.int .u8 (N / 2097152 % 128 + 128)] (Src.ofSlice _ Tryd.underlying22 ⟨_, 0, none⟩ 1 1 _ rfl (cell_one_new _ _ _) (oneInt _ _)) (by unfold maxLen; omega) (by omega) (by have := hbk.size; simp; omega) ?_)
        intro v2 w2 hown2 hgr2
        have hb2 := below_app hbk hbase hownk hgr2
        clear hgr2
        go_wp2
        go_roundw
        case rel =>
          refine ⟨1 + 1, by omega, by go_num, ?_, hb2⟩
          exact own_congr hown2 (by rw [HS.out]; simp; try omega) (by rw [HS.out]; simp)
        case measure => simp [intOf]
      · have hstep : hiTo N (1 + 1) = hiTo N 1 := by simp [hiTo, hiG_no hg]
        have HS := Hid.mk hstep
        clear hstep hor
        go_wp2
        go_roundw
        case rel =>
          refine ⟨1 + 1, by omega, by go_num, ?_, hbk⟩
          rw [HS.out]
          exact hownk
        case measure => simp [intOf]
    · have hor := or128_u8 (N / 16384)
      have hll := hiTo_length N 2
      by_cases hg : 0 < N / 16384
      · have hstep : hiTo N (2 + 1) = hiTo N 2 ++ [N / 16384 % 128 + 128] := by simp only [hiTo, hiG_yes hg]; try rfl
        have HS := Hid.mk hstep
        clear hstep
        go_wp2_with (at_builtin; refine wpList_append_src _ rfl _ _ 22 22 rfl base 5 i0 (.int .u8 0) 1 1 Tryd.underlying22 hi hz0 hz1 hz2 rfl _ _ _ rfl (hownk.alloc _) 1 [.int .u8 (N / 16384 % 128 + 128)] (Src.ofSlice _ Tryd.underlying22 ⟨_, 0, none⟩ 1 1 _ rfl (cell_one_new _ _ _) (oneInt _ _)) (by unfold maxLen; omega) (by omega) (by have := hbk.size; simp; omega) ?_)
        intro v2 w2 hown2 hgr2
        have hb2 := below_app hbk hbase hownk hgr2
        clear hgr2
        go_wp2
        go_roundw
        case rel =>
          refine ⟨2 + 1, by omega, by go_num, ?_, hb2⟩
          exact own_congr hown2 (by rw [HS.out]; simp; try omega) (by rw [HS.out]; simp)
        case measure => simp [intOf]
      · have hstep : hiTo N (2 + 1) = hiTo N 2 := by simp [hiTo, hiG_no hg]
        have HS := Hid.mk hstep
        clear hstep hor
        go_wp2
        go_roundw
        case rel =>
          refine ⟨2 + 1, by omega, by go_num, ?_, hbk⟩
          rw [HS.out]
          exact hownk
        case measure => simp [intOf]
    · have hor := or128_u8 (N / 128)
      have hll := hiTo_length N 3
      by_cases hg : 0 < N / 128
      · have hstep : hiTo N (3 + 1) = hiTo N 3 ++ [N / 128 % 128 + 128] := by simp only [hiTo, hiG_yes hg]; try rfl
        have HS := Hid.mk hstep
        clear hstep
        go_wp2_with (at_builtin; refine wpList_append_src _ rfl _ _ 22 22 rfl base 5 i0 (.int .u8 0) 1 1 Tryd.underlying22 hi hz0 hz1 hz2 rfl _ _ _ rfl (hownk.alloc _) 1 [.int .u8 (N / 128 % 128 + 128)] (Src.ofSlice _ Tryd.underlying22 ⟨_, 0, none⟩ 1 1 _ rfl (cell_one_new _ _ _) (oneInt _ _)) (by unfold maxLen; omega) (by omega) (by have := hbk.size; simp; omega) ?_)
        intro v2 w2 hown2 hgr2
        have hb2 := below_app hbk hbase hownk hgr2
        clear hgr2
        go_wp2
        go_roundw
        case rel =>
          refine ⟨3 + 1, by omega, by go_num, ?_, hb2⟩
          exact own_congr hown2 (by rw [HS.out]; simp; try omega) (by rw [HS.out]; simp)
        case measure => simp [intOf]
      · have hstep : hiTo N (3 + 1) = hiTo N 3 := by simp [hiTo, hiG_no hg]
        have HS := Hid.mk hstep
        clear hstep hor
        go_wp2
        go_roundw
        case rel =>
          refine ⟨3 + 1, by omega, by go_num, ?_, hbk⟩
          rw [HS.out]
          exact hownk
        case measure => simp [intOf]
    · have hll := hiTo_length N 4
      go_wp2_with (at_builtin; refine wpList_append_src _ rfl _ _ 22 22 rfl base 5 i0 (.int .u8 0) 1 1 Tryd.underlying22 hi hz0 hz1 hz2 rfl _ _ _ rfl (hownk.alloc _) 1 [.int .u8 (N % 128)] (Src.ofSlice _ Tryd.underlying22 ⟨_, 0, none⟩ 1 1 _ rfl (cell_one_new _ _ _) (oneInt _ _)) (by unfold maxLen; omega) (by omega) (by have := hbk.size; simp; omega) ?_)
      intro v2 w2 hown2 hgr2
      have hb2 := below_app hbk hbase hownk hgr2
      clear hgr2
      go_wp2
      go_ret
      refine ⟨v2, rfl, ?_, hb2⟩
      exact own_congr hown2 (by simp [putNum]; try omega) (by simp [putNum])



end Go.Proofs.YtmedljankefhbaaDoor
