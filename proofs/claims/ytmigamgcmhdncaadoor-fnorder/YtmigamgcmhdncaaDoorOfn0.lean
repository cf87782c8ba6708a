/-
  Part 1 of the texts that the proof leans on.
-/
import Derived.Deep.RegionHeld3
import Derived.WalkKit
import Derived.WalkSpells
import Derived.WalkLawsBesides
import Derived.Deep.QuietTactic
import Derived.BigQuiet
import Derived.OpenShut
import Derived.Deep.AppendSrc
import Derived.Laws.CopyOwn
import Derived.Test.YtmigamgcmhdncaaDoorRows
import Derived.Test.YtmigamgcmhdncaaDoorChecked
import Derived.Laws.BitsLemmas
import Derived.Maps.Range
import Derived.Deep.RegionWith
import Derived.Laws.BytesArg
set_option linter.unusedVariables false
set_option linter.unusedSimpArgs false
set_option maxRecDepth 10000

namespace Go.Proofs.YtmigamgcmhdncaaDoor
open Go

section
variable {P : Program} {md : Region.Mode} {ops : Array Oper} {Q : Exit → Act → World → Prop} {S : World → Prop}
/-- An operation that is wanted comes first: it yields v. -/
theorem tk (i : Nat) (oi : Oper) (d : Option Tmp) {v : Value} {fuel : Nat} {listed : Array Bool} {a : Act} {w : World} (hi : ops[i]? = some oi) (hd : oi.dst = d)
    (hc : (Region.noSelect ops && (Region.free md ops listed i && (Region.ready md ops listed).contains i)) = true) (hS : S w) (hw : Region.wanted oi (yielded ops a.tmps) = true)
    (hQ : ∀ c a w, Q (.panic c) (a.put d v) w → Q (.panic c) a w) (hy : ∀ w, S w → (execOp a.eval oi).run P w = .ok (.value v) w)
    (h : wpAnyH P md ops Q S fuel (listed.setIfInBounds i true) (a.put d v) w) : wpAnyH P md ops Q S (fuel + 1) listed a w := by
  subst hd
  simp only [Bool.and_eq_true] at hc
  exact wpAnyH_take hi hc.1 hc.2.1 hc.2.2 hQ (.inl ⟨hw, hy⟩) hS h
/-- One that is not wanted comes first. -/
theorem tn (i : Nat) (oi : Oper) (d : Option Tmp) {fuel : Nat} {listed : Array Bool} {a : Act} {w : World} (hi : ops[i]? = some oi) (hd : oi.dst = d)
    (hc : (Region.noSelect ops && (Region.free md ops listed i && (Region.ready md ops listed).contains i)) = true) (hS : S w) (hw : Region.wanted oi (yielded ops a.tmps) = false)
    (hQ : ∀ c a w, Q (.panic c) (a.put d undef) w → Q (.panic c) a w)
    (h : wpAnyH P md ops Q S fuel (listed.setIfInBounds i true) (a.put d undef) w) : wpAnyH P md ops Q S (fuel + 1) listed a w := by
  subst hd
  simp only [Bool.and_eq_true] at hc
  exact wpAnyH_take hi hc.1 hc.2.1 hc.2.2 hQ (.inr ⟨hw, rfl⟩) hS h
end
theorem sa {α : Type} (l : List α) (i : Nat) (a : α) : l.toArray.setIfInBounds i a = (l.set i a).toArray := List.setIfInBounds_toArray ..
theorem s0 {α : Type} (a b : α) (l : List α) : (a :: l).set 0 b = b :: l := rfl
theorem s1 {α : Type} (a b : α) (l : List α) (i : Nat) : (a :: l).set (i + 1) b = a :: l.set i b := rfl

end Go.Proofs.YtmigamgcmhdncaaDoor

namespace Go.Proofs.YtmigamgcmhdncaaDoor
open Go.RowKit

/-- The numbers that a slice's cells hold, all of them below block number B. -/
def Rd (k : IntKind) (B : Nat) (w : World) (a : Option Addr) (zs : List Int) : Prop :=
  ∀ j, j < zs.length → ∃ b off, a = some ⟨b, off, none⟩ ∧ b < B ∧ w.cell? ⟨b, off + j, none⟩ = some (.int k (zs.getD j 0))

theorem Rd.below {k : IntKind} {B : Nat} {w w' : World} {a : Option Addr} {zs : List Int} (h : Rd k B w a zs) (hb : Below B w w') : Rd k B w' a zs := by
  intro j hj
  obtain ⟨b, off, e, hlt, hc⟩ := h j hj
  exact ⟨b, off, e, hlt, (hb.cell (p := ⟨b, off + j, none⟩) hlt).trans hc⟩

theorem Rd.mono {k : IntKind} {B B' : Nat} {w : World} {a : Option Addr} {zs : List Int} (h : Rd k B w a zs) (hB : B ≤ B') : Rd k B' w a zs := by
  intro j hj
  obtain ⟨b, off, e, hlt, hc⟩ := h j hj
  exact ⟨b, off, e, by omega, hc⟩

/-- What is owned can be read. -/
theorem Rd.own {k : IntKind} {w : World} {base e g cap n : Nat} {zs : List Int} (hn : zs.length = n)
    (h : w.ownsRow base e 1 (.slice (some ⟨g, 0, none⟩) n cap) n (zs.map (Value.int k))) : Rd k w.heap.size w (some ⟨g, 0, none⟩) zs := by
  intro j hj
  refine ⟨g, 0, rfl, (h.lt g rfl).2, ?_⟩
  have := h.cellAt j (by omega)
  rw [Nat.zero_add, this]
  simp [hj]

theorem grown_trans {a b c : World} {r : Option Nat} (h : a.grownBy b r) (k : b.grownBy c r) : a.grownBy c r :=
  ⟨k.os.trans h.os, k.tape.trans h.tape, k.output.trans h.output, Nat.le_trans h.size k.size, fun i hi hne => (k.block i (Nat.lt_of_lt_of_le hi h.size) hne).trans (h.block i hi hne)⟩

def BytesOk (zs : List Int) : Prop := ∀ z, z ∈ zs → 0 ≤ z ∧ z ≤ 255

theorem Hid.mk {p : Prop} (h : p) : Hid p := h

theorem own_base {w : World} {base base' e size : Nat} {v : Value} {n : Nat} {xs : List Value} (h : w.ownsRow base e size v n xs) (hb : base' ≤ base) : w.ownsRow base' e size v n xs := by
  refine ⟨h.1, ?_⟩
  rcases h.2 with h' | ⟨g, cap, cur, rfl, hg, rest⟩
  · exact .inl h'
  · exact .inr ⟨g, cap, cur, rfl, by omega, rest⟩

/-- What is owned stays so while a call makes new memory alone. -/
theorem own_below {w w' : World} {base e size n : Nat} {v : Value} {xs : List Value} (h : w.ownsRow base e size v n xs) (hb : Below w.heap.size w w') : w'.ownsRow base e size v n xs := by
  refine ⟨h.1, ?_⟩
  rcases h.2 with h' | ⟨g, cap, cur, rfl, hg, hh, rest⟩
  · exact .inl h'
  · exact .inr ⟨g, cap, cur, rfl, hg, by rw [hb.block g (h.lt g rfl).2]; exact hh, rest⟩

theorem Rd.drewN {k : IntKind} {B d : Nat} {w : World} {a : Option Addr} {zs : List Int} (h : Rd k B w a zs) : Rd k B (w.drewN d) a zs := h

theorem Rd.grown {k : IntKind} {B : Nat} {w w' : World} {r : Option Nat} {a : Option Addr} {zs : List Int} (h : Rd k B w a zs) (hg : w.grownBy w' r) (hr : ∀ i, r = some i → B ≤ i) : Rd k B w' a zs := by
  intro j hj
  obtain ⟨b, off, e, hlt, hc⟩ := h j hj
  exact ⟨b, off, e, hlt, hg.cell hc (fun e => by have := hr b e.symm; omega)⟩


theorem setCells_row (g : Nat) (e : TypeId) : ∀ (news : List Value) (o : Nat) (w : World) (cur : Array Value), w.heap[g]? = some (.cells cur e (0, 0)) → o + news.length ≤ cur.size →
    (∃ cur', (w.setCells g o news).heap[g]? = some (.cells cur' e (0, 0)) ∧ cur'.size = cur.size ∧ cur'.toList.take (o + news.length) = cur.toList.take o ++ news) ∧ w.grownBy (w.setCells g o news) (some g)
  | [], o, w, cur, hg, _ => ⟨⟨cur, hg, rfl, by simp⟩, World.grownBy.refl _ _⟩
  | u :: r, o, w, cur, hg, hfit => by
    have h1 := heap_setCell_same w g o cur e u hg
    obtain ⟨⟨cur', h2, h3, h4⟩, h5⟩ := setCells_row g e r (o + 1) (w.setCell ⟨g, o, none⟩ u) (cur.setIfInBounds o u) h1 (by simp at hfit ⊢; omega)
    refine ⟨⟨cur', h2, by simpa using h3, ?_⟩, ?_⟩
    · have e1 : o + (u :: r).length = o + 1 + r.length := by simp; omega
      rw [e1, h4, Array.toList_setIfInBounds]
      have ho : o < cur.toList.length := by simp at hfit ⊢; omega
      rw [List.take_set, List.take_succ_eq_append_getElem ho, List.set_append_right _ _ (by simp; omega)]
      have e2 : o - (cur.toList.take o).length = 0 := by simp; omega
      rw [e2]
      simp
    · exact grown_trans (b := w.setCell ⟨g, o, none⟩ u) ⟨rfl, rfl, rfl, by simp, fun k _ hk => heap_setCell_other w ⟨g, o, none⟩ k u (fun e => hk (by simp [e]))⟩ h5

section
variable {P : Program} (w : World)

end

end Go.Proofs.YtmigamgcmhdncaaDoor

namespace Go.Proofs.YtmigamgcmhdncaaDoor
open Go.RowKit


/-- A cursor over the code lies alone in block g. -/
def Cur (w : World) (g : Nat) (sv : Value) (n : Nat) : Prop :=
  ∃ i h : Int, 0 ≤ i ∧ i ≤ n ∧ w.heap[g]? = some (.cells #[sv, .int .i64 i, .int .i64 h] 113 (0, 0))

theorem and255_i64 (n : Int) : bits .and .i64 n 255 = n % 256 := by
  have h1 : (BitVec.ofInt 64 255).toNat = 2 ^ 8 - 1 := by decide
  have key : (BitVec.ofInt 64 n &&& BitVec.ofInt 64 255).toNat = (n % ((2 ^ 64 : Nat) : Int)).toNat % 2 ^ 8 := by
    rw [BitVec.toNat_and, BitVec.toNat_ofInt, h1, Nat.and_two_pow_sub_one_eq_mod]
  show IntKind.i64.wrap ((BitVec.ofInt 64 n &&& BitVec.ofInt 64 255).toNat : Nat) = n % 256
  rw [key, IntKind.wrap_i64]
  omega

theorem row_set {w : World} {g j : Nat} {cs : Array Value} {e : TypeId} (h : w.heap[g]? = some (.cells cs e (0, 0))) (u : Value) :
    (w.setCell ⟨g, j, none⟩ u).heap[g]? = some (.cells (cs.setIfInBounds j u) e (0, 0)) ∧ w.grownBy (w.setCell ⟨g, j, none⟩ u) (some g) :=
  ⟨heap_setCell_same w g j cs e u h, ⟨rfl, rfl, rfl, by simp, fun k _ hk => heap_setCell_other w ⟨g, j, none⟩ k u (fun e => hk (by simp [e]))⟩⟩

theorem emod_byte (x : Int) : 0 ≤ x % 256 ∧ x % 256 ≤ 255 := by omega

theorem grown_drewN {w w' : World} {r : Option Nat} (h : w.grownBy w' r) (d : Nat) : w.grownBy (w'.drewN d) r := ⟨h.os, h.tape, h.output, h.size, h.block⟩

theorem cur_step1 {w : World} {g n : Nat} {sv : Value} {i h : Int} (hg : w.heap[g]? = some (.cells #[sv, .int .i64 i, .int .i64 h] 113 (0, 0))) (h0 : 0 ≤ i) (h1 : i ≤ n) {h' : Int} (j k : Nat) :
    Cur (((w.setCell ⟨g, 2, none⟩ (.int .i64 h')).drewN j).drewN k) g sv n := ⟨i, h', h0, h1, (row_set (j := 2) hg _).1⟩

theorem cur_grown1 {w : World} {g : Nat} {cs : Array Value} {e : TypeId} (hg : w.heap[g]? = some (.cells cs e (0, 0))) {u : Value} (j k : Nat) :
    w.grownBy (((w.setCell ⟨g, 2, none⟩ u).drewN j).drewN k) (some g) := grown_drewN (grown_drewN (row_set (j := 2) hg u).2 j) k

theorem cur_step2 {w : World} {g n : Nat} {sv : Value} {i h : Int} (hg : w.heap[g]? = some (.cells #[sv, .int .i64 i, .int .i64 h] 113 (0, 0))) (h0 : 0 ≤ i) (h1 : i + 1 ≤ n) (h' : Int) (k : Nat) (i' : Int) (hi' : i' = i + 1) :
    Cur (((w.setCell ⟨g, 2, none⟩ (.int .i64 h')).drewN k).setCell ⟨g, 1, none⟩ (.int .i64 i')) g sv n := by
  subst hi'
  exact ⟨i + 1, h', by omega, h1, (row_set (w := (w.setCell ⟨g, 2, none⟩ (.int .i64 h')).drewN k) (j := 1) (row_set (j := 2) hg (.int .i64 h')).1 (.int .i64 (i + 1))).1⟩

theorem cur_grown2 {w : World} {g : Nat} {cs : Array Value} {e : TypeId} (hg : w.heap[g]? = some (.cells cs e (0, 0))) (u : Value) (k : Nat) (v : Value) :
    w.grownBy (((w.setCell ⟨g, 2, none⟩ u).drewN k).setCell ⟨g, 1, none⟩ v) (some g) :=
  grown_trans (grown_drewN (row_set (j := 2) hg u).2 k) (row_set (w := (w.setCell ⟨g, 2, none⟩ u).drewN k) (j := 1) (row_set (j := 2) hg u).1 v).2

set_option maxHeartbeats 800000 in
theorem l1Byte_any (g n cap B : Nat) (a : Option Addr) (zs : List Int) (w : World) (hx : zs.length = n) (hlen : n ≤ 140737488351232) (hr : Rd .u8 B w a zs) (hBg : B ≤ g) (hc : Cur w g (.slice a n cap) n) :
    Calls Tryd.prog 103 #[.pointer (some ⟨g, 0, none⟩)] w fun e w' => ∃ x : Int, e = .returned (.int .i64 x) ∧ (0 ≤ x ∧ x ≤ 255) ∧ Cur w' g (.slice a n cap) n ∧ w.grownBy w' (some g) := by
  obtain ⟨i, h, hi0, hin, hg⟩ := hc
  have HX : Hid (zs.length = n) := hx
  clear hx
  have c0 : w.cell? ⟨g, 0, none⟩ = some (.slice a n cap) := cell_of_row w g 0 _ _ _ hg
  have c1 : w.cell? ⟨g, 1, none⟩ = some (.int .i64 i) := cell_of_row w g 1 _ _ _ hg
  have c2 : w.cell? ⟨g, 2, none⟩ = some (.int .i64 h) := cell_of_row w g 2 _ _ _ hg
  have f1 : w.frozen? ⟨g, 1, none⟩ = false := frozen_of_row w g 1 _ _ hg
  have f2 : w.frozen? ⟨g, 2, none⟩ = false := frozen_of_row w g 2 _ _ hg
  by_cases hlt : i < n
  · obtain ⟨i, rfl⟩ := Int.eq_ofNat_of_zero_le hi0
    obtain ⟨b1, o1, rfl, hB, hcc⟩ := hr i (by rw [HX.out]; omega)
    have hne : b1 ≠ g := by omega
    have hand := and255_i64
    generalize zs.getD i 0 = c at hcc
    go_enter Tryd.func103, Tryd.ntmps103
    go_wp2
    go_quiet (fail)
    go_wp2
    go_quiet (fail)
    go_wp2
    go_quiet (fail)
    go_wp2
    go_ret
    exact ⟨_, rfl, emod_byte _, cur_step2 hg hi0 (by omega) _ _ _ rfl, (cur_grown2 hg _ _ _)⟩
  · have hand := and255_i64
    go_enter Tryd.func103, Tryd.ntmps103
    go_wp2
    go_quiet (fail)
    go_wp2
    go_quiet (fail)
    go_wp2
    go_ret
    exact ⟨_, rfl, emod_byte _, cur_step1 hg hi0 hin _ _, cur_grown1 hg _ _⟩


/-- A cursor at block g over bytes that lie below it. -/
def CurOk (w : World) (g : Nat) : Prop :=
  ∃ a n cap B, ∃ zs : List Int, zs.length = n ∧ n ≤ 140737488351232 ∧ B ≤ g ∧ Rd .u8 B w a zs ∧ Cur w g (.slice a n cap) n ∧ g < w.heap.size

theorem CurOk.lt {w : World} {g : Nat} (h : CurOk w g) : g < w.heap.size := by obtain ⟨_, _, _, _, _, _, _, _, _, _, h⟩ := h; exact h

theorem CurOk.grown {w w' : World} {g : Nat} {r : Option Nat} (h : CurOk w g) (hg : w.grownBy w' r) (hr : ∀ k, r = some k → g < k) : CurOk w' g := by
  obtain ⟨a, n, cap, B, zs, h1, h2, h3, h4, ⟨i, q, h5, h6, h7⟩, h8⟩ := h
  refine ⟨a, n, cap, B, zs, h1, h2, h3, h4.grown hg (fun k hk => by have := hr k hk; omega), ⟨i, q, h5, h6, ?_⟩, Nat.lt_of_lt_of_le h8 hg.size⟩
  rw [hg.block g h8 (fun e => by have := hr g e.symm; omega)]
  exact h7

theorem CurOk.below {w w' : World} {g : Nat} (h : CurOk w g) (hb : Below w.heap.size w w') : CurOk w' g := by
  obtain ⟨a, n, cap, B, zs, h1, h2, h3, h4, ⟨i, q, h5, h6, h7⟩, h8⟩ := h
  refine ⟨a, n, cap, B, zs, h1, h2, h3, h4.below (hb.mono (by omega)), ⟨i, q, h5, h6, ?_⟩, Nat.lt_of_lt_of_le h8 hb.size⟩
  rw [hb.block g h8]
  exact h7

theorem CurOk.drewN {w : World} {g : Nat} (h : CurOk w g) (d : Nat) : CurOk (w.drewN d) g := h

theorem l1Byte_ok {g : Nat} {w : World} (hc : CurOk w g) :
    Calls Tryd.prog 103 #[.pointer (some ⟨g, 0, none⟩)] w fun e w' => ∃ x : Int, e = .returned (.int .i64 x) ∧ (0 ≤ x ∧ x ≤ 255) ∧ CurOk w' g ∧ w.grownBy w' (some g) := by
  obtain ⟨a, n, cap, B, zs, h1, h2, h3, h4, h5, h8⟩ := hc
  refine (l1Byte_any g n cap B a zs w h1 h2 h4 h3 h5).mono ?_
  rintro e w' ⟨x, rfl, hx, hcur, hg⟩
  exact ⟨x, rfl, hx, ⟨a, n, cap, B, zs, h1, h2, h3, h4.grown hg (fun k hk => by simp at hk; omega), hcur, Nat.lt_of_lt_of_le h8 hg.size⟩, hg⟩

theorem emod_le {a b : Int} (ha : 0 ≤ a) (hb : 0 < b) : a % b ≤ a := by
  have h1 := Int.emod_add_mul_ediv a b
  have h2 := Int.mul_nonneg (show 0 ≤ b by omega) (Int.ediv_nonneg ha (show 0 ≤ b by omega))
  omega

set_option maxHeartbeats 400000 in
theorem l1Below_ok {g : Nat} {w : World} (q : Int) (hc : CurOk w g) :
    Calls Tryd.prog 78 #[.pointer (some ⟨g, 0, none⟩), .int .i64 q] w fun e w' => ∃ x : Int, e = .returned (.int .i64 x) ∧ (0 ≤ x ∧ x < 16777216 ∧ (0 < q → x < q) ∧ (q ≤ 0 → x = 0)) ∧ CurOk w' g ∧ w.grownBy w' (some g) := by
  by_cases h0 : q ≤ 0
  · go_enter Tryd.func78, Tryd.ntmps78
    go_wp2_with fail
    go_ret
    exact ⟨0, rfl, by omega, hc, World.grownBy.refl _ _⟩
  · by_cases h1 : q ≤ 256
    · go_enter Tryd.func78, Tryd.ntmps78
      go_wp2_with fail
      refine (l1Byte_ok hc).mono ?_
      rintro e w1 ⟨x, rfl, hx, hc1, hg1⟩
      have hq0 : (q == 0) = false := by simp; omega
      have hm := Int.emod_lt_of_pos x (show 0 < q by omega)
      have hm0 := Int.emod_nonneg x (show q ≠ 0 by omega)
      go_wp2_with fail
      go_ret
      exact ⟨_, rfl, by omega, hc1, hg1⟩
    · go_enter Tryd.func78, Tryd.ntmps78
      go_wp2_with fail
      refine (l1Byte_ok hc).mono ?_
      rintro e w1 ⟨x, rfl, hx, hc1, hg1⟩
      go_wp2_with fail
      refine (l1Byte_ok hc1).mono ?_
      rintro e w2 ⟨y, rfl, hy, hc2, hg2⟩
      go_wp2_with fail
      refine (l1Byte_ok hc2).mono ?_
      rintro e w3 ⟨z, rfl, hz, hc3, hg3⟩
      have hq0 : (q == 0) = false := by simp; omega
      have hm := Int.emod_lt_of_pos (x * 65536 + y * 256 + z) (show 0 < q by omega)
      have hm0 := Int.emod_nonneg (x * 65536 + y * 256 + z) (show q ≠ 0 by omega)
      have hm1 := emod_le (a := x * 65536 + y * 256 + z) (b := q) (by omega) (by omega)
      go_wp2_with fail
      go_ret
      exact ⟨_, rfl, by omega, hc3, grown_trans hg1 (grown_trans hg2 hg3)⟩


set_option maxRecDepth 100000 in
set_option maxHeartbeats 400000 in
theorem l1New_any (a : Option Addr) (n cap : Nat) (zs : List Int) (w : World) (hx : zs.length = n) (hlen : n ≤ 140737488351232) (hr : Rd .u8 w.heap.size w a zs) :
    Calls Tryd.prog 53 #[.slice a n cap] w fun e w' => e = .returned (.pointer (some ⟨w.heap.size, 0, none⟩)) ∧ CurOk w' w.heap.size ∧ Below w.heap.size w w' := by
  have HX : Hid (zs.length = n) := hx
  clear hx
  go_enter Tryd.func53, Tryd.ntmps53
  go_wp2
  go_loop [3, 4] (fun h i => ∃ (k : Nat) (H : Int), k ≤ n ∧ i = .int .i64 k ∧ h = .int .i64 H) (fun _ i => n - (intOf i).toNat)
  case atStart => exact ⟨0, _, Nat.zero_le _, rfl, rfl⟩
  case round =>
    obtain ⟨k, H, hk, rfl, rfl⟩ := hrel
    have fin : ∀ H : Int, CurOk (w.alloc (.cells #[.slice a n cap, .int .i64 0, .int .i64 H] 113)) w.heap.size := fun H =>
      ⟨a, n, cap, w.heap.size, zs, HX.out, hlen, Nat.le_refl _, hr.below ((Below.refl _ _).alloc (Nat.le_refl _) _), ⟨0, H, by omega, by omega, heap_alloc_new w _⟩, by simp⟩
    by_cases hlt : k < n
    · by_cases h4 : k < 4000
      · obtain ⟨b1, o1, rfl, _, hc1⟩ := hr k (by rw [HX.out]; exact hlt)
        generalize zs.getD k 0 = c at hc1
        clear fin hr
        go_wp2
        go_round
        case rel => exact ⟨k + 1, _, by omega, by go_num, rfl⟩
        case measure => simp [intOf]; omega
      · go_wp2
        go_ret
        exact ⟨rfl, fin _, (Below.refl _ _).alloc (Nat.le_refl _) _⟩
    · go_wp2
      go_ret
      exact ⟨rfl, fin _, (Below.refl _ _).alloc (Nat.le_refl _) _⟩


set_option maxHeartbeats 400000 in
theorem l1Int_ok {g : Nat} {w : World} (la : Option Addr) (m cap : Nat) (ns : List Int) (hc : CurOk w g) (hm : ns.length = m) (h0 : 0 < m) (hm2 : m ≤ 1000000) (B : Nat) (hr : Rd .i64 B w la ns) (hne : ∀ b o, la = some ⟨b, o, none⟩ → b ≠ g) :
    Calls Tryd.prog 79 #[.pointer (some ⟨g, 0, none⟩), .slice la m cap] w fun e w' => ∃ j : Nat, (j < m ∧ e = .returned (.int .i64 (ns.getD j 0))) ∧ CurOk w' g ∧ w.grownBy w' (some g) := by
  have HM : Hid (ns.length = m) := hm
  clear hm
  go_enter Tryd.func79, Tryd.ntmps79
  go_wp2_with fail
  refine (l1Below_ok _ hc).mono ?_
  rintro e w1 ⟨x, rfl, hx, hc1, hg1⟩
  obtain ⟨x, rfl⟩ := Int.eq_ofNat_of_zero_le hx.1
  have hxm : x < m := by omega
  obtain ⟨b1, o1, rfl, hB, hcell⟩ := hr x (by rw [HM.out]; exact hxm)
  have hcell1 : w1.cell? ⟨b1, o1 + x, none⟩ = some (.int .i64 (ns.getD x 0)) := hg1.cell hcell (by have := hne b1 o1 rfl; simpa using this)
  generalize hv : ns.getD x 0 = v at hcell1
  have HV := Hid.mk hv
  clear hv hcell hr hne hx
  go_wp2_with fail
  go_ret
  exact ⟨x, ⟨hxm, by rw [HV.out]; rfl⟩, hc1, hg1⟩

set_option maxHeartbeats 400000 in
theorem l1Once_ok {g : Nat} {w : World} (q : Int) (hc : CurOk w g) :
    Calls Tryd.prog 77 #[.pointer (some ⟨g, 0, none⟩), .int .i64 q] w fun e w' => ∃ x : Bool, e = .returned (.bool x) ∧ CurOk w' g ∧ w.grownBy w' (some g) := by
  go_enter Tryd.func77, Tryd.ntmps77
  go_wp2_with fail
  refine (l1Below_ok _ hc).mono ?_
  rintro e w1 ⟨x, rfl, hx, hc1, hg1⟩
  go_wp2_with fail
  go_ret
  exact ⟨_, rfl, hc1, hg1⟩

def SizePost (w : World) (e : Ending) (w' : World) : Prop := ∃ x : Int, (e = .returned (.int .i64 x) ∧ x ≤ 100) ∧ w' = w

set_option maxHeartbeats 400000 in
theorem l1Size_ok (a : Option Addr) (n cap : Nat) (q : Int) (w : World) (hn : n ≤ 1048576) (hq : 0 ≤ q) (hq2 : q ≤ 100) :
    Calls Tryd.prog 55 #[.slice a n cap, .int .i64 q] w fun e w' => SizePost w e w' := by
  have e1 : ((n : Int)).tdiv 12 = (n : Int) / 12 := Int.tdiv_eq_ediv_of_nonneg (by omega)
  have e2 : IntKind.i64.wrap ((n : Int) / 12) = (n : Int) / 12 := by rw [IntKind.wrap_i64]; omega
  go_enter Tryd.func55, Tryd.ntmps55
  by_cases h : q < 3 + (n : Int) / 12
  · go_wp2_with fail
    go_ret
    exact (show SizePost w _ _ from ⟨q, ⟨rfl, hq2⟩, rfl⟩)
  · go_wp2_with fail
    go_ret
    exact (show SizePost w _ _ from ⟨3 + (n : Int) / 12, ⟨rfl, by omega⟩, rfl⟩)

/-- A Dot was drawn: both numbers are small and from one on; only the cursor was written. -/
def DotDrawn (w : World) (g : Nat) (e : Ending) (w' : World) : Prop :=
  ∃ r n : Int, (e = .returned (.agg #[.int .i64 r, .int .i64 n]) ∧ 1 ≤ r ∧ r ≤ 3 ∧ 1 ≤ n ∧ n ≤ 5) ∧ CurOk w' g ∧ w.grownBy w' (some g)

end Go.Proofs.YtmigamgcmhdncaaDoor
