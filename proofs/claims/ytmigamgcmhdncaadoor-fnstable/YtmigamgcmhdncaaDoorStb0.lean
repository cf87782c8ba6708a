/-
  Part 1 of the texts that the proof leans on.
-/
import Derived.Deep.RegionHeld3
import Derived.WalkKit
import Derived.WalkSpells
import Derived.WalkLawsBesides
import Derived.Deep.QuietTactic
import Derived.BigQuiet
import Derived.OpenShut
import Derived.Deep.AppendSrc
import Derived.Laws.CopyOwn
import Derived.Test.YtmigamgcmhdncaaDoorRows
import Derived.Test.YtmigamgcmhdncaaDoorChecked
import Derived.Laws.BitsLemmas
import Derived.Maps.Range
import Derived.Deep.RegionWith
import Derived.Laws.BytesArg
set_option linter.unusedVariables false
set_option linter.unusedSimpArgs false
set_option maxRecDepth 10000

namespace Go.Proofs.YtmigamgcmhdncaaDoor
open Go

section
variable {P : Program} {md : Region.Mode} {ops : Array Oper} {Q : Exit → Act → World → Prop} {S : World → Prop}
/-- An operation that is wanted comes first: it yields v. -/
theorem tk (i : Nat) (oi : Oper) (d : Option Tmp) {v : Value} {fuel : Nat} {listed : Array Bool} {a : Act} {w : World} (hi : ops[i]? = some oi) (hd : oi.dst = d)
    (hc : (Region.noSelect ops && (Region.free md ops listed i && (Region.ready md ops listed).contains i)) = true) (hS : S w) (hw : Region.wanted oi (yielded ops a.tmps) = true)
    (hQ : ∀ c a w, Q (.panic c) (a.put d v) w → Q (.panic c) a w) (hy : ∀ w, S w → (execOp a.eval oi).run P w = .ok (.value v) w)
    (h : wpAnyH P md ops Q S fuel (listed.setIfInBounds i true) (a.put d v) w) : wpAnyH P md ops Q S (fuel + 1) listed a w := by
  subst hd
  simp only [Bool.and_eq_true] at hc
  exact wpAnyH_take hi hc.1 hc.2.1 hc.2.2 hQ (.inl ⟨hw, hy⟩) hS h
/-- One that is not wanted comes first. -/
theorem tn (i : Nat) (oi : Oper) (d : Option Tmp) {fuel : Nat} {listed : Array Bool} {a : Act} {w : World} (hi : ops[i]? = some oi) (hd : oi.dst = d)
    (hc : (Region.noSelect ops && (Region.free md ops listed i && (Region.ready md ops listed).contains i)) = true) (hS : S w) (hw : Region.wanted oi (yielded ops a.tmps) = false)
    (hQ : ∀ c a w, Q (.panic c) (a.put d undef) w → Q (.panic c) a w)
    (h : wpAnyH P md ops Q S fuel (listed.setIfInBounds i true) (a.put d undef) w) : wpAnyH P md ops Q S (fuel + 1) listed a w := by
  subst hd
  simp only [Bool.and_eq_true] at hc
  exact wpAnyH_take hi hc.1 hc.2.1 hc.2.2 hQ (.inr ⟨hw, rfl⟩) hS h
end
theorem sa {α : Type} (l : List α) (i : Nat) (a : α) : l.toArray.setIfInBounds i a = (l.set i a).toArray := List.setIfInBounds_toArray ..
theorem s0 {α : Type} (a b : α) (l : List α) : (a :: l).set 0 b = b :: l := rfl
theorem s1 {α : Type} (a b : α) (l : List α) (i : Nat) : (a :: l).set (i + 1) b = a :: l.set i b := rfl

end Go.Proofs.YtmigamgcmhdncaaDoor

namespace Go.Proofs.YtmigamgcmhdncaaDoor
open Go.RowKit

/-- The numbers that a slice's cells hold, all of them below block number B. -/
def Rd (k : IntKind) (B : Nat) (w : World) (a : Option Addr) (zs : List Int) : Prop :=
  ∀ j, j < zs.length → ∃ b off, a = some ⟨b, off, none⟩ ∧ b < B ∧ w.cell? ⟨b, off + j, none⟩ = some (.int k (zs.getD j 0))

theorem Rd.below {k : IntKind} {B : Nat} {w w' : World} {a : Option Addr} {zs : List Int} (h : Rd k B w a zs) (hb : Below B w w') : Rd k B w' a zs := by
  intro j hj
  obtain ⟨b, off, e, hlt, hc⟩ := h j hj
  exact ⟨b, off, e, hlt, (hb.cell (p := ⟨b, off + j, none⟩) hlt).trans hc⟩

theorem Rd.mono {k : IntKind} {B B' : Nat} {w : World} {a : Option Addr} {zs : List Int} (h : Rd k B w a zs) (hB : B ≤ B') : Rd k B' w a zs := by
  intro j hj
  obtain ⟨b, off, e, hlt, hc⟩ := h j hj
  exact ⟨b, off, e, by omega, hc⟩

/-- What is owned can be read. -/
theorem Rd.own {k : IntKind} {w : World} {base e g cap n : Nat} {zs : List Int} (hn : zs.length = n)
    (h : w.ownsRow base e 1 (.slice (some ⟨g, 0, none⟩) n cap) n (zs.map (Value.int k))) : Rd k w.heap.size w (some ⟨g, 0, none⟩) zs := by
  intro j hj
  refine ⟨g, 0, rfl, (h.lt g rfl).2, ?_⟩
  have := h.cellAt j (by omega)
  rw [Nat.zero_add, this]
  simp [hj]

theorem grown_trans {a b c : World} {r : Option Nat} (h : a.grownBy b r) (k : b.grownBy c r) : a.grownBy c r :=
  ⟨k.os.trans h.os, k.tape.trans h.tape, k.output.trans h.output, Nat.le_trans h.size k.size, fun i hi hne => (k.block i (Nat.lt_of_lt_of_le hi h.size) hne).trans (h.block i hi hne)⟩

def BytesOk (zs : List Int) : Prop := ∀ z, z ∈ zs → 0 ≤ z ∧ z ≤ 255

theorem Hid.mk {p : Prop} (h : p) : Hid p := h

theorem own_base {w : World} {base base' e size : Nat} {v : Value} {n : Nat} {xs : List Value} (h : w.ownsRow base e size v n xs) (hb : base' ≤ base) : w.ownsRow base' e size v n xs := by
  refine ⟨h.1, ?_⟩
  rcases h.2 with h' | ⟨g, cap, cur, rfl, hg, rest⟩
  · exact .inl h'
  · exact .inr ⟨g, cap, cur, rfl, by omega, rest⟩

/-- What is owned stays so while a call makes new memory alone. -/
theorem own_below {w w' : World} {base e size n : Nat} {v : Value} {xs : List Value} (h : w.ownsRow base e size v n xs) (hb : Below w.heap.size w w') : w'.ownsRow base e size v n xs := by
  refine ⟨h.1, ?_⟩
  rcases h.2 with h' | ⟨g, cap, cur, rfl, hg, hh, rest⟩
  · exact .inl h'
  · exact .inr ⟨g, cap, cur, rfl, hg, by rw [hb.block g (h.lt g rfl).2]; exact hh, rest⟩

theorem Rd.drewN {k : IntKind} {B d : Nat} {w : World} {a : Option Addr} {zs : List Int} (h : Rd k B w a zs) : Rd k B (w.drewN d) a zs := h

theorem Rd.grown {k : IntKind} {B : Nat} {w w' : World} {r : Option Nat} {a : Option Addr} {zs : List Int} (h : Rd k B w a zs) (hg : w.grownBy w' r) (hr : ∀ i, r = some i → B ≤ i) : Rd k B w' a zs := by
  intro j hj
  obtain ⟨b, off, e, hlt, hc⟩ := h j hj
  exact ⟨b, off, e, hlt, hg.cell hc (fun e => by have := hr b e.symm; omega)⟩


theorem setCells_row (g : Nat) (e : TypeId) : ∀ (news : List Value) (o : Nat) (w : World) (cur : Array Value), w.heap[g]? = some (.cells cur e (0, 0)) → o + news.length ≤ cur.size →
    (∃ cur', (w.setCells g o news).heap[g]? = some (.cells cur' e (0, 0)) ∧ cur'.size = cur.size ∧ cur'.toList.take (o + news.length) = cur.toList.take o ++ news) ∧ w.grownBy (w.setCells g o news) (some g)
  | [], o, w, cur, hg, _ => ⟨⟨cur, hg, rfl, by simp⟩, World.grownBy.refl _ _⟩
  | u :: r, o, w, cur, hg, hfit => by
    have h1 := heap_setCell_same w g o cur e u hg
    obtain ⟨⟨cur', h2, h3, h4⟩, h5⟩ := setCells_row g e r (o + 1) (w.setCell ⟨g, o, none⟩ u) (cur.setIfInBounds o u) h1 (by simp at hfit ⊢; omega)
    refine ⟨⟨cur', h2, by simpa using h3, ?_⟩, ?_⟩
    · have e1 : o + (u :: r).length = o + 1 + r.length := by simp; omega
      rw [e1, h4, Array.toList_setIfInBounds]
      have ho : o < cur.toList.length := by simp at hfit ⊢; omega
      rw [List.take_set, List.take_succ_eq_append_getElem ho, List.set_append_right _ _ (by simp; omega)]
      have e2 : o - (cur.toList.take o).length = 0 := by simp; omega
      rw [e2]
      simp
    · exact grown_trans (b := w.setCell ⟨g, o, none⟩ u) ⟨rfl, rfl, rfl, by simp, fun k _ hk => heap_setCell_other w ⟨g, o, none⟩ k u (fun e => hk (by simp [e]))⟩ h5

section
variable {P : Program} (w : World)

end

end Go.Proofs.YtmigamgcmhdncaaDoor

namespace Go.Proofs.YtmigamgcmhdncaaDoor
open Go.RowKit


/-- A cursor over the code lies alone in block g. -/
def Cur (w : World) (g : Nat) (sv : Value) (n : Nat) : Prop :=
  ∃ i h : Int, 0 ≤ i ∧ i ≤ n ∧ w.heap[g]? = some (.cells #[sv, .int .i64 i, .int .i64 h] 113 (0, 0))

theorem and255_i64 (n : Int) : bits .and .i64 n 255 = n % 256 := by
  have h1 : (BitVec.ofInt 64 255).toNat = 2 ^ 8 - 1 := by decide
  have key : (BitVec.ofInt 64 n &&& BitVec.ofInt 64 255).toNat = (n % ((2 ^ 64 : Nat) : Int)).toNat % 2 ^ 8 := by
    rw [BitVec.toNat_and, BitVec.toNat_ofInt, h1, Nat.and_two_pow_sub_one_eq_mod]
  show IntKind.i64.wrap ((BitVec.ofInt 64 n &&& BitVec.ofInt 64 255).toNat : Nat) = n % 256
  rw [key, IntKind.wrap_i64]
  omega

theorem row_set {w : World} {g j : Nat} {cs : Array Value} {e : TypeId} (h : w.heap[g]? = some (.cells cs e (0, 0))) (u : Value) :
    (w.setCell ⟨g, j, none⟩ u).heap[g]? = some (.cells (cs.setIfInBounds j u) e (0, 0)) ∧ w.grownBy (w.setCell ⟨g, j, none⟩ u) (some g) :=
  ⟨heap_setCell_same w g j cs e u h, ⟨rfl, rfl, rfl, by simp, fun k _ hk => heap_setCell_other w ⟨g, j, none⟩ k u (fun e => hk (by simp [e]))⟩⟩

theorem emod_byte (x : Int) : 0 ≤ x % 256 ∧ x % 256 ≤ 255 := by omega

theorem grown_drewN {w w' : World} {r : Option Nat} (h : w.grownBy w' r) (d : Nat) : w.grownBy (w'.drewN d) r := ⟨h.os, h.tape, h.output, h.size, h.block⟩

theorem cur_step1 {w : World} {g n : Nat} {sv : Value} {i h : Int} (hg : w.heap[g]? = some (.cells #[sv, .int .i64 i, .int .i64 h] 113 (0, 0))) (h0 : 0 ≤ i) (h1 : i ≤ n) {h' : Int} (j k : Nat) :
    Cur (((w.setCell ⟨g, 2, none⟩ (.int .i64 h')).drewN j).drewN k) g sv n := ⟨i, h', h0, h1, (row_set (j := 2) hg _).1⟩

theorem cur_grown1 {w : World} {g : Nat} {cs : Array Value} {e : TypeId} (hg : w.heap[g]? = some (.cells cs e (0, 0))) {u : Value} (j k : Nat) :
    w.grownBy (((w.setCell ⟨g, 2, none⟩ u).drewN j).drewN k) (some g) := grown_drewN (grown_drewN (row_set (j := 2) hg u).2 j) k

theorem cur_step2 {w : World} {g n : Nat} {sv : Value} {i h : Int} (hg : w.heap[g]? = some (.cells #[sv, .int .i64 i, .int .i64 h] 113 (0, 0))) (h0 : 0 ≤ i) (h1 : i + 1 ≤ n) (h' : Int) (k : Nat) (i' : Int) (hi' : i' = i + 1) :
    Cur (((w.setCell ⟨g, 2, none⟩ (.int .i64 h')).drewN k).setCell ⟨g, 1, none⟩ (.int .i64 i')) g sv n := by
  subst hi'
  exact ⟨i + 1, h', by omega, h1, (row_set (w := (w.setCell ⟨g, 2, none⟩ (.int .i64 h')).drewN k) (j := 1) (row_set (j := 2) hg (.int .i64 h')).1 (.int .i64 (i + 1))).1⟩

theorem cur_grown2 {w : World} {g : Nat} {cs : Array Value} {e : TypeId} (hg : w.heap[g]? = some (.cells cs e (0, 0))) (u : Value) (k : Nat) (v : Value) :
    w.grownBy (((w.setCell ⟨g, 2, none⟩ u).drewN k).setCell ⟨g, 1, none⟩ v) (some g) :=
  grown_trans (grown_drewN (row_set (j := 2) hg u).2 k) (row_set (w := (w.setCell ⟨g, 2, none⟩ u).drewN k) (j := 1) (row_set (j := 2) hg u).1 v).2

set_option maxHeartbeats 800000 in
theorem l1Byte_any (g n cap B : Nat) (a : Option Addr) (zs : List Int) (w : World) (hx : zs.length = n) (hlen : n ≤ 140737488351232) (hr : Rd .u8 B w a zs) (hBg : B ≤ g) (hc : Cur w g (.slice a n cap) n) :
    Calls Tryd.prog 103 #[.pointer (some ⟨g, 0, none⟩)] w fun e w' => ∃ x : Int, e = .returned (.int .i64 x) ∧ (0 ≤ x ∧ x ≤ 255) ∧ Cur w' g (.slice a n cap) n ∧ w.grownBy w' (some g) := by
  obtain ⟨i, h, hi0, hin, hg⟩ := hc
  have HX : Hid (zs.length = n) := hx
  clear hx
  have c0 : w.cell? ⟨g, 0, none⟩ = some (.slice a n cap) := cell_of_row w g 0 _ _ _ hg
  have c1 : w.cell? ⟨g, 1, none⟩ = some (.int .i64 i) := cell_of_row w g 1 _ _ _ hg
  have c2 : w.cell? ⟨g, 2, none⟩ = some (.int .i64 h) := cell_of_row w g 2 _ _ _ hg
  have f1 : w.frozen? ⟨g, 1, none⟩ = false := frozen_of_row w g 1 _ _ hg
  have f2 : w.frozen? ⟨g, 2, none⟩ = false := frozen_of_row w g 2 _ _ hg
  by_cases hlt : i < n
  · obtain ⟨i, rfl⟩ := Int.eq_ofNat_of_zero_le hi0
    obtain ⟨b1, o1, rfl, hB, hcc⟩ := hr i (by rw [HX.out]; omega)
    have hne : b1 ≠ g := by omega
    have hand := and255_i64
    generalize zs.getD i 0 = c at hcc
    go_enter Tryd.func103, Tryd.ntmps103
    go_wp2
    go_quiet (fail)
    go_wp2
    go_quiet (fail)
    go_wp2
    go_quiet (fail)
    go_wp2
    go_ret
    exact ⟨_, rfl, emod_byte _, cur_step2 hg hi0 (by omega) _ _ _ rfl, (cur_grown2 hg _ _ _)⟩
  · have hand := and255_i64
    go_enter Tryd.func103, Tryd.ntmps103
    go_wp2
    go_quiet (fail)
    go_wp2
    go_quiet (fail)
    go_wp2
    go_ret
    exact ⟨_, rfl, emod_byte _, cur_step1 hg hi0 hin _ _, cur_grown1 hg _ _⟩


/-- A cursor at block g over bytes that lie below it. -/
def CurOk (w : World) (g : Nat) : Prop :=
  ∃ a n cap B, ∃ zs : List Int, zs.length = n ∧ n ≤ 140737488351232 ∧ B ≤ g ∧ Rd .u8 B w a zs ∧ Cur w g (.slice a n cap) n ∧ g < w.heap.size

theorem CurOk.lt {w : World} {g : Nat} (h : CurOk w g) : g < w.heap.size := by obtain ⟨_, _, _, _, _, _, _, _, _, _, h⟩ := h; exact h

theorem CurOk.grown {w w' : World} {g : Nat} {r : Option Nat} (h : CurOk w g) (hg : w.grownBy w' r) (hr : ∀ k, r = some k → g < k) : CurOk w' g := by
  obtain ⟨a, n, cap, B, zs, h1, h2, h3, h4, ⟨i, q, h5, h6, h7⟩, h8⟩ := h
  refine ⟨a, n, cap, B, zs, h1, h2, h3, h4.grown hg (fun k hk => by have := hr k hk; omega), ⟨i, q, h5, h6, ?_⟩, Nat.lt_of_lt_of_le h8 hg.size⟩
  rw [hg.block g h8 (fun e => by have := hr g e.symm; omega)]
  exact h7

theorem CurOk.below {w w' : World} {g : Nat} (h : CurOk w g) (hb : Below w.heap.size w w') : CurOk w' g := by
  obtain ⟨a, n, cap, B, zs, h1, h2, h3, h4, ⟨i, q, h5, h6, h7⟩, h8⟩ := h
  refine ⟨a, n, cap, B, zs, h1, h2, h3, h4.below (hb.mono (by omega)), ⟨i, q, h5, h6, ?_⟩, Nat.lt_of_lt_of_le h8 hb.size⟩
  rw [hb.block g h8]
  exact h7

theorem CurOk.drewN {w : World} {g : Nat} (h : CurOk w g) (d : Nat) : CurOk (w.drewN d) g := h

theorem l1Byte_ok {g : Nat} {w : World} (hc : CurOk w g) :
    Calls Tryd.prog 103 #[.pointer (some ⟨g, 0, none⟩)] w fun e w' => ∃ x : Int, e = .returned (.int .i64 x) ∧ (0 ≤ x ∧ x ≤ 255) ∧ CurOk w' g ∧ w.grownBy w' (some g) := by
  obtain ⟨a, n, cap, B, zs, h1, h2, h3, h4, h5, h8⟩ := hc
  refine (l1Byte_any g n cap B a zs w h1 h2 h4 h3 h5).mono ?_
  rintro e w' ⟨x, rfl, hx, hcur, hg⟩
  exact ⟨x, rfl, hx, ⟨a, n, cap, B, zs, h1, h2, h3, h4.grown hg (fun k hk => by simp at hk; omega), hcur, Nat.lt_of_lt_of_le h8 hg.size⟩, hg⟩

theorem emod_le {a b : Int} (ha : 0 ≤ a) (hb : 0 < b) : a % b ≤ a := by
  have h1 := Int.emod_add_mul_ediv a b
  have h2 := Int.mul_nonneg (show 0 ≤ b by omega) (Int.ediv_nonneg ha (show 0 ≤ b by omega))
  omega

set_option maxHeartbeats 400000 in
theorem l1Below_ok {g : Nat} {w : World} (q : Int) (hc : CurOk w g) :
    Calls Tryd.prog 78 #[.pointer (some ⟨g, 0, none⟩), .int .i64 q] w fun e w' => ∃ x : Int, e = .returned (.int .i64 x) ∧ (0 ≤ x ∧ x < 16777216 ∧ (0 < q → x < q) ∧ (q ≤ 0 → x = 0)) ∧ CurOk w' g ∧ w.grownBy w' (some g) := by
  by_cases h0 : q ≤ 0
  · go_enter Tryd.func78, Tryd.ntmps78
    go_wp2_with fail
    go_ret
    exact ⟨0, rfl, by omega, hc, World.grownBy.refl _ _⟩
  · by_cases h1 : q ≤ 256
    · go_enter Tryd.func78, Tryd.ntmps78
      go_wp2_with fail
      refine (l1Byte_ok hc).mono ?_
      rintro e w1 ⟨x, rfl, hx, hc1, hg1⟩
      have hq0 : (q == 0) = false := by simp; omega
      have hm := Int.emod_lt_of_pos x (show 0 < q by omega)
      have hm0 := Int.emod_nonneg x (show q ≠ 0 by omega)
      go_wp2_with fail
      go_ret
      exact ⟨_, rfl, by omega, hc1, hg1⟩
    · go_enter Tryd.func78, Tryd.ntmps78
      go_wp2_with fail
      refine (l1Byte_ok hc).mono ?_
      rintro e w1 ⟨x, rfl, hx, hc1, hg1⟩
      go_wp2_with fail
      refine (l1Byte_ok hc1).mono ?_
      rintro e w2 ⟨y, rfl, hy, hc2, hg2⟩
      go_wp2_with fail
      refine (l1Byte_ok hc2).mono ?_
      rintro e w3 ⟨z, rfl, hz, hc3, hg3⟩
      have hq0 : (q == 0) = false := by simp; omega
      have hm := Int.emod_lt_of_pos (x * 65536 + y * 256 + z) (show 0 < q by omega)
      have hm0 := Int.emod_nonneg (x * 65536 + y * 256 + z) (show q ≠ 0 by omega)
      have hm1 := emod_le (a := x * 65536 + y * 256 + z) (b := q) (by omega) (by omega)
      go_wp2_with fail
      go_ret
      exact ⟨_, rfl, by omega, hc3, grown_trans hg1 (grown_trans hg2 hg3)⟩


set_option maxRecDepth 100000 in
set_option maxHeartbeats 400000 in
theorem l1New_any (a : Option Addr) (n cap : Nat) (zs : List Int) (w : World) (hx : zs.length = n) (hlen : n ≤ 140737488351232) (hr : Rd .u8 w.heap.size w a zs) :
    Calls Tryd.prog 53 #[.slice a n cap] w fun e w' => e = .returned (.pointer (some ⟨w.heap.size, 0, none⟩)) ∧ CurOk w' w.heap.size ∧ Below w.heap.size w w' := by
  have HX : Hid (zs.length = n) := hx
  clear hx
  go_enter Tryd.func53, Tryd.ntmps53
  go_wp2
  go_loop [3, 4] (fun h i => ∃ (k : Nat) (H : Int), k ≤ n ∧ i = .int .i64 k ∧ h = .int .i64 H) (fun _ i => n - (intOf i).toNat)
  case atStart => exact ⟨0, _, Nat.zero_le _, rfl, rfl⟩
  case round =>
    obtain ⟨k, H, hk, rfl, rfl⟩ := hrel
    have fin : ∀ H : Int, CurOk (w.alloc (.cells #[.slice a n cap, .int .i64 0, .int .i64 H] 113)) w.heap.size := fun H =>
      ⟨a, n, cap, w.heap.size, zs, HX.out, hlen, Nat.le_refl _, hr.below ((Below.refl _ _).alloc (Nat.le_refl _) _), ⟨0, H, by omega, by omega, heap_alloc_new w _⟩, by simp⟩
    by_cases hlt : k < n
    · by_cases h4 : k < 4000
      · obtain ⟨b1, o1, rfl, _, hc1⟩ := hr k (by rw [HX.out]; exact hlt)
        generalize zs.getD k 0 = c at hc1
        clear fin hr
        go_wp2
        go_round
        case rel => exact ⟨k + 1, _, by omega, by go_num, rfl⟩
        case measure => simp [intOf]; omega
      · go_wp2
        go_ret
        exact ⟨rfl, fin _, (Below.refl _ _).alloc (Nat.le_refl _) _⟩
    · go_wp2
      go_ret
      exact ⟨rfl, fin _, (Below.refl _ _).alloc (Nat.le_refl _) _⟩


set_option maxHeartbeats 400000 in
theorem l1Once_ok {g : Nat} {w : World} (q : Int) (hc : CurOk w g) :
    Calls Tryd.prog 77 #[.pointer (some ⟨g, 0, none⟩), .int .i64 q] w fun e w' => ∃ x : Bool, e = .returned (.bool x) ∧ CurOk w' g ∧ w.grownBy w' (some g) := by
  go_enter Tryd.func77, Tryd.ntmps77
  go_wp2_with fail
  refine (l1Below_ok _ hc).mono ?_
  rintro e w1 ⟨x, rfl, hx, hc1, hg1⟩
  go_wp2_with fail
  go_ret
  exact ⟨_, rfl, hc1, hg1⟩


/-- How cells stand for something of type α, in memory below block B. -/
abbrev Rep (α : Type) := Nat → World → List Value → α → Prop
/-- The same, owned: all blocks that it leads to are listed. -/
abbrev ORep (α : Type) := World → List Value → α → List Nat → Prop

structure Rep.Good {α : Type} (R : Rep α) : Prop where
  below : ∀ {B w w' cs m}, R B w cs m → Below B w w' → R B w' cs m
  mono : ∀ {B B' w cs m}, R B w cs m → B ≤ B' → R B' w cs m

structure ORep.Good {α : Type} (O : ORep α) (R : Rep α) (size : Nat) : Prop where
  frame : ∀ {w w' cs m F}, O w cs m F → (∀ k, k ∈ F → w'.heap[k]? = w.heap[k]?) → O w' cs m F
  lt : ∀ {w cs m F}, O w cs m F → ∀ k, k ∈ F → k < w.heap.size
  read : ∀ {w cs m F}, O w cs m F → R w.heap.size w cs m
  len : ∀ {w cs m F}, O w cs m F → cs.length = size

/-- Elements of 'size' cells each behind an address. -/
def RdS {α : Type} (size : Nat) (R : Rep α) (B : Nat) (w : World) (a : Option Addr) (l : List α) : Prop :=
  ∀ j, (h : j < l.length) → ∃ b off, a = some ⟨b, off, none⟩ ∧ b < B ∧ ∃ cs : List Value, cs.length = size ∧ (∀ i u, cs[i]? = some u → w.cell? ⟨b, off + j * size + i, none⟩ = some u) ∧ R B w cs l[j]

theorem RdS.below {α : Type} {size : Nat} {R : Rep α} (hR : R.Good) {B : Nat} {w w' : World} {a : Option Addr} {l : List α} (h : RdS size R B w a l) (hb : Below B w w') : RdS size R B w' a l := by
  intro j hj
  obtain ⟨b, off, e, hB, cs, h1, h2, h3⟩ := h j hj
  exact ⟨b, off, e, hB, cs, h1, fun i u hu => (hb.cell (p := ⟨b, off + j * size + i, none⟩) hB).trans (h2 i u hu), hR.below h3 hb⟩

theorem RdS.mono {α : Type} {size : Nat} {R : Rep α} (hR : R.Good) {B B' : Nat} {w : World} {a : Option Addr} {l : List α} (h : RdS size R B w a l) (hB : B ≤ B') : RdS size R B' w a l := by
  intro j hj
  obtain ⟨b, off, e, hb, cs, h1, h2, h3⟩ := h j hj
  exact ⟨b, off, e, by omega, cs, h1, h2, hR.mono h3 hB⟩

theorem own_of_block {w w' : World} {base e size n : Nat} {v : Value} {xs : List Value} (h : w.ownsRow base e size v n xs) (hb : ∀ k, v.ownBlock = some k → w'.heap[k]? = w.heap[k]?) : w'.ownsRow base e size v n xs := by
  refine ⟨h.1, ?_⟩
  rcases h.2 with h' | ⟨g, cap, cur, rfl, hg, hh, rest⟩
  · exact .inl h'
  · exact .inr ⟨g, cap, cur, rfl, hg, by rw [hb g rfl]; exact hh, rest⟩

/-- A slice of bytes of one's own. -/
def ownB (e : TypeId) (w : World) (v : Value) (zs : List Int) (F : List Nat) : Prop :=
  w.ownsRow 0 e 1 v zs.length (zs.map (Value.int .u8)) ∧ BytesOk zs ∧ F = v.ownBlock.toList

theorem ownB.frame {e : TypeId} {w w' : World} {v : Value} {zs : List Int} {F : List Nat} (h : ownB e w v zs F) (hb : ∀ k, k ∈ F → w'.heap[k]? = w.heap[k]?) : ownB e w' v zs F := by
  obtain ⟨h1, h2, rfl⟩ := h
  exact ⟨own_of_block h1 (fun k hk => hb k (by simp [hk])), h2, rfl⟩

theorem ownB.lt {e : TypeId} {w : World} {v : Value} {zs : List Int} {F : List Nat} (h : ownB e w v zs F) : ∀ k, k ∈ F → k < w.heap.size := by
  obtain ⟨h1, h2, rfl⟩ := h
  intro k hk
  exact (h1.lt k (by simpa using hk)).2

theorem ownB.read {e : TypeId} {w : World} {v : Value} {zs : List Int} {F : List Nat} (h : ownB e w v zs F) :
    ∃ a c, v = .slice a zs.length c ∧ zs.length ≤ c ∧ c ≤ 9223372036854775807 ∧ Rd .u8 w.heap.size w a zs ∧ BytesOk zs := by
  obtain ⟨h1, h2, rfl⟩ := h
  rcases h1.2 with ⟨rfl, h'⟩ | ⟨g, cap, cur, rfl, hb, hg, hnc, hm, _⟩
  · exact ⟨none, 0, by rw [h'], by omega, by omega, fun j hj => by omega, h2⟩
  · exact ⟨_, cap, rfl, hnc, by simpa [maxLen] using hm, Rd.own rfl h1, h2⟩

/-- A slice of structs of one's own: its row, and what each element leads to. -/
def ownS {α : Type} (size : Nat) (e : TypeId) (O : ORep α) (w : World) (v : Value) (l : List α) (F : List Nat) : Prop :=
  (v = .slice none 0 0 ∧ l = [] ∧ F = []) ∨
  ∃ g cap, ∃ cur : Array Value, ∃ Fs : List (List Nat), v = .slice (some ⟨g, 0, none⟩) l.length cap ∧ w.heap[g]? = some (.cells cur e (0, 0)) ∧ l.length ≤ cap ∧ cap ≤ maxLen ∧ cur.size = cap * size ∧ Fs.length = l.length ∧
    (∀ j, (h : j < l.length) → O w ((cur.toList.drop (j * size)).take size) l[j] (Fs.getD j [])) ∧ F = g :: Fs.flatten

theorem mem_flatten_getD {Fs : List (List Nat)} {j k : Nat} (hj : j < Fs.length) (h : k ∈ Fs.getD j []) : k ∈ Fs.flatten := by
  rw [List.getD_eq_getElem?_getD, List.getElem?_eq_getElem hj] at h
  exact List.mem_flatten.2 ⟨_, List.getElem_mem hj, h⟩

theorem of_mem_flatten {Fs : List (List Nat)} {k : Nat} (h : k ∈ Fs.flatten) : ∃ j, j < Fs.length ∧ k ∈ Fs.getD j [] := by
  obtain ⟨l, hl, hk⟩ := List.mem_flatten.1 h
  obtain ⟨j, hj, rfl⟩ := List.mem_iff_getElem.1 hl
  exact ⟨j, hj, by rw [List.getD_eq_getElem?_getD, List.getElem?_eq_getElem hj]; exact hk⟩

theorem ownS.frame {α : Type} {size : Nat} {e : TypeId} {O : ORep α} {R : Rep α} (hO : O.Good R size) {w w' : World} {v : Value} {l : List α} {F : List Nat} (h : ownS size e O w v l F) (hb : ∀ k, k ∈ F → w'.heap[k]? = w.heap[k]?) : ownS size e O w' v l F := by
  rcases h with h | ⟨g, cap, cur, Fs, h1, h2, h3, h4, h5, h6, h7, rfl⟩
  · exact .inl h
  · refine .inr ⟨g, cap, cur, Fs, h1, by rw [hb g (by simp)]; exact h2, h3, h4, h5, h6, fun j hj => hO.frame (h7 j hj) (fun k hk => hb k ?_), rfl⟩
    exact List.mem_cons_of_mem _ (mem_flatten_getD (by omega) hk)

theorem ownS.lt {α : Type} {size : Nat} {e : TypeId} {O : ORep α} {R : Rep α} (hO : O.Good R size) {w : World} {v : Value} {l : List α} {F : List Nat} (h : ownS size e O w v l F) : ∀ k, k ∈ F → k < w.heap.size := by
  rcases h with ⟨_, _, rfl⟩ | ⟨g, cap, cur, Fs, h1, h2, h3, h4, h5, h6, h7, rfl⟩
  · intro k hk; cases hk
  · intro k hk
    rcases List.mem_cons.1 hk with rfl | hk
    · exact (Array.getElem?_eq_some_iff.1 h2).1
    · obtain ⟨j, hj, hkj⟩ := of_mem_flatten hk
      exact hO.lt (h7 j (by omega)) k hkj

theorem ownS.read {α : Type} {size : Nat} {e : TypeId} {O : ORep α} {R : Rep α} (hO : O.Good R size) {w : World} {v : Value} {l : List α} {F : List Nat} (h : ownS size e O w v l F) :
    ∃ a c, v = .slice a l.length c ∧ l.length ≤ c ∧ c ≤ 9223372036854775807 ∧ RdS size R w.heap.size w a l := by
  rcases h with ⟨rfl, rfl, _⟩ | ⟨g, cap, cur, Fs, rfl, h2, h3, h4, h5, h6, h7, rfl⟩
  · exact ⟨none, 0, rfl, by simp, by omega, fun j hj => by simp at hj⟩
  · refine ⟨_, cap, rfl, h3, by simpa [maxLen] using h4, fun j hj => ⟨g, 0, rfl, (Array.getElem?_eq_some_iff.1 h2).1, _, hO.len (h7 j hj), ?_, hO.read (h7 j hj)⟩⟩
    intro i u hu
    rw [Nat.zero_add, cell_of_row w g _ cur e (0, 0) h2]
    rw [List.getElem?_take] at hu
    split at hu
    · rw [List.getElem?_drop] at hu
      simpa using hu
    · cases hu

/-- A row that is being filled, element by element: k of n are there. -/
structure Fill {α : Type} (size : Nat) (e : TypeId) (O : ORep α) (w : World) (g n : Nat) (l : List α) (k : Nat) (Fs : List (List Nat)) : Prop where
  row : ∃ cur : Array Value, w.heap[g]? = some (.cells cur e (0, 0)) ∧ cur.size = n * size ∧ ∀ j, (h : j < l.length) → j < k → O w ((cur.toList.drop (j * size)).take size) l[j] (Fs.getD j [])
  flen : Fs.length = k
  over : ∀ b, b ∈ Fs.flatten → g < b ∧ b < w.heap.size
  nodup : Fs.flatten.Nodup

theorem setCells_row' (g : Nat) (e : TypeId) : ∀ (news : List Value) (o : Nat) (w : World) (cur : Array Value), w.heap[g]? = some (.cells cur e (0, 0)) → o + news.length ≤ cur.size →
    ∃ cur' : Array Value, (w.setCells g o news).heap[g]? = some (.cells cur' e (0, 0)) ∧ cur'.size = cur.size ∧ cur'.toList = cur.toList.take o ++ news ++ cur.toList.drop (o + news.length)
  | [], o, w, cur, hg, _ => ⟨cur, hg, rfl, by simp⟩
  | u :: r, o, w, cur, hg, hfit => by
    have h1 := heap_setCell_same w g o cur e u hg
    obtain ⟨cur', h2, h3, h4⟩ := setCells_row' g e r (o + 1) (w.setCell ⟨g, o, none⟩ u) (cur.setIfInBounds o u) h1 (by simp at hfit ⊢; omega)
    refine ⟨cur', h2, by simpa using h3, ?_⟩
    have ho : o < cur.toList.length := by simp at hfit ⊢; omega
    have e0 : (cur.toList.set o u).take (o + 1) = cur.toList.take o ++ [u] := by
      rw [List.take_set, List.take_succ_eq_append_getElem ho, List.set_append_right _ _ (by simp; omega)]
      have e2 : o - (cur.toList.take o).length = 0 := by simp; omega
      rw [e2]
      simp
    have e3 : (cur.toList.set o u).drop (o + 1 + r.length) = cur.toList.drop (o + (u :: r).length) := by
      rw [List.drop_set_of_lt (by omega)]
      congr 1
      simp; omega
    rw [h4, Array.toList_setIfInBounds, e0, e3]
    simp

theorem heap_setCells_ne (g : Nat) : ∀ (news : List Value) (o : Nat) (w : World) (k : Nat), k ≠ g → (w.setCells g o news).heap[k]? = w.heap[k]?
  | [], _, _, _, _ => rfl
  | u :: r, o, w, k, hk => by
    show ((w.setCell ⟨g, o, none⟩ u).setCells g (o + 1) r).heap[k]? = _
    rw [heap_setCells_ne g r (o + 1) _ k hk]
    exact heap_setCell_other w ⟨g, o, none⟩ k u (fun e => hk e)

theorem size_setCells_w (g : Nat) : ∀ (news : List Value) (o : Nat) (w : World), (w.setCells g o news).heap.size = w.heap.size
  | [], _, _ => rfl
  | u :: r, o, w => by
    show ((w.setCell ⟨g, o, none⟩ u).setCells g (o + 1) r).heap.size = _
    rw [size_setCells_w g r (o + 1) _]
    simp

theorem Fill.step {α : Type} {size : Nat} {e : TypeId} {O : ORep α} {R : Rep α} (hO : O.Good R size) {w w1 : World} {g n k : Nat} {l : List α} {Fs : List (List Nat)} (h : Fill size e O w g n l k Fs) (hg : g < w.heap.size) (hk : k < l.length) (hkn : k < n)
    (hb : Below w.heap.size w w1) {cs : List Value} {F : List Nat} (ho : O w1 cs l[k] F) (hF : ∀ b, b ∈ F → w.heap.size ≤ b) (hN : F.Nodup) :
    Fill size e O (w1.setCells g (k * size) cs) g n l (k + 1) (Fs ++ [F]) := by
  obtain ⟨⟨cur, c1, c2, c3⟩, f1, f2, f3⟩ := h
  have hcl := hO.len ho
  have hfit : k * size + cs.length ≤ cur.size := by
    rw [hcl, c2, ← Nat.succ_mul]
    exact Nat.mul_le_mul_right _ hkn
  have c1' : w1.heap[g]? = some (.cells cur e (0, 0)) := by rw [hb.block g hg]; exact c1
  obtain ⟨cur', d1, d2, d3⟩ := setCells_row' g e cs (k * size) w1 cur c1' hfit
  have hFlt : ∀ b, b ∈ F → b < w1.heap.size := fun b hbF => hO.lt ho b hbF
  refine ⟨⟨cur', d1, by rw [d2, c2], ?_⟩, by simp [f1], ?_, ?_⟩
  · intro j hj hjk
    have hlen : cur.toList.length = n * size := by simpa using c2
    by_cases hjk' : j = k
    · subst hjk'
      have e1 : (cur'.toList.drop (j * size)).take size = cs := by
        rw [d3, List.append_assoc, List.drop_append, List.drop_eq_nil_of_le (by simp; omega), List.nil_append]
        have : j * size - (cur.toList.take (j * size)).length = 0 := by simp; omega
        rw [this, List.drop_zero, List.take_append, List.take_of_length_le (by omega), hcl, Nat.sub_self, List.take_zero, List.append_nil]
      have e2 : (Fs ++ [F]).getD j [] = F := by rw [List.getD_eq_getElem?_getD, List.getElem?_append_right (by omega), f1, Nat.sub_self]; rfl
      rw [e1, e2]
      exact hO.frame ho (fun b hbF => heap_setCells_ne g cs _ w1 b (by have := hF b hbF; omega))
    · have hlt : j < k := by omega
      have hmul : (j + 1) * size ≤ k * size := Nat.mul_le_mul_right _ hlt
      rw [Nat.succ_mul] at hmul
      have e1 : (cur'.toList.drop (j * size)).take size = (cur.toList.drop (j * size)).take size := by
        rw [d3, List.append_assoc]
        apply List.ext_getElem?
        intro i
        rw [List.getElem?_take, List.getElem?_take, List.getElem?_drop, List.getElem?_drop]
        by_cases hi : i < size
        · rw [if_pos hi, if_pos hi, List.getElem?_append_left (by simp; omega), List.getElem?_take, if_pos (by omega)]
        · rw [if_neg hi, if_neg hi]
      have e2 : (Fs ++ [F]).getD j [] = Fs.getD j [] := by rw [List.getD_eq_getElem?_getD, List.getD_eq_getElem?_getD, List.getElem?_append_left (by omega)]
      rw [e1, e2]
      have ho' := hO.frame (c3 j hj hlt) (w' := w1) (fun b hbF => hb.block b (hO.lt (c3 j hj hlt) b hbF))
      exact hO.frame ho' (fun b hbF => heap_setCells_ne g cs _ w1 b (by have := f2 b (mem_flatten_getD (by omega) hbF); omega))
  · intro b hbF
    rw [size_setCells_w]
    rw [List.flatten_append, List.mem_append] at hbF
    rcases hbF with hbF | hbF
    · have := f2 b hbF; have := hb.size; omega
    · have hbF : b ∈ F := by simpa using hbF
      have := hF b hbF; have := hFlt b hbF; omega
  · rw [List.flatten_append]
    refine List.nodup_append.2 ⟨f3, by simpa using hN, ?_⟩
    intro a ha b hb' hab
    subst hab
    have h1 := f2 a ha
    have h2 := hF a (by simpa using hb')
    omega

theorem Fill.done {α : Type} {size : Nat} {e : TypeId} {O : ORep α} {w : World} {g n : Nat} {l : List α} {Fs : List (List Nat)} (h : Fill size e O w g n l n Fs) (hn : l.length = n) (hm : n ≤ maxLen) :
    ownS size e O w (.slice (some ⟨g, 0, none⟩) n n) l (g :: Fs.flatten) ∧ (g :: Fs.flatten).Nodup := by
  obtain ⟨⟨cur, c1, c2, c3⟩, f1, f2, f3⟩ := h
  refine ⟨.inr ⟨g, n, cur, Fs, by rw [hn], c1, by omega, hm, c2, by rw [f1, hn], fun j hj => c3 j hj (by omega), rfl⟩, List.nodup_cons.2 ⟨fun hg => by have := f2 g hg; omega, f3⟩⟩

/-- The cell of a slice of bytes; of a slice of structs. -/
def LeafB (B : Nat) (w : World) (a : Option Addr) (c : Nat) (zs : List Int) : Prop := zs.length ≤ c ∧ c ≤ 9223372036854775807 ∧ Rd .u8 B w a zs ∧ BytesOk zs
def LeafL {α : Type} (size : Nat) (R : Rep α) (B : Nat) (w : World) (a : Option Addr) (c : Nat) (l : List α) : Prop := l.length ≤ c ∧ c ≤ 9223372036854775807 ∧ RdS size R B w a l

theorem LeafB.below {B : Nat} {w w' : World} {a : Option Addr} {c : Nat} {zs : List Int} (h : LeafB B w a c zs) (hb : Below B w w') : LeafB B w' a c zs := ⟨h.1, h.2.1, h.2.2.1.below hb, h.2.2.2⟩
theorem LeafB.mono {B B' : Nat} {w : World} {a : Option Addr} {c : Nat} {zs : List Int} (h : LeafB B w a c zs) (hB : B ≤ B') : LeafB B' w a c zs := ⟨h.1, h.2.1, h.2.2.1.mono hB, h.2.2.2⟩
theorem LeafL.below {α : Type} {size : Nat} {R : Rep α} (hR : R.Good) {B : Nat} {w w' : World} {a : Option Addr} {c : Nat} {l : List α} (h : LeafL size R B w a c l) (hb : Below B w w') : LeafL size R B w' a c l := ⟨h.1, h.2.1, h.2.2.below hR hb⟩
theorem LeafL.mono {α : Type} {size : Nat} {R : Rep α} (hR : R.Good) {B B' : Nat} {w : World} {a : Option Addr} {c : Nat} {l : List α} (h : LeafL size R B w a c l) (hB : B ≤ B') : LeafL size R B' w a c l := ⟨h.1, h.2.1, h.2.2.mono hR hB⟩
theorem LeafB.big {B : Nat} {w : World} {a : Option Addr} {c : Nat} {zs : List Int} (h : LeafB B w a c zs) : zs.length ≤ 9223372036854775807 := Nat.le_trans h.1 h.2.1
theorem LeafL.big {α : Type} {size : Nat} {R : Rep α} {B : Nat} {w : World} {a : Option Addr} {c : Nat} {l : List α} (h : LeafL size R B w a c l) : l.length ≤ 9223372036854775807 := Nat.le_trans h.1 h.2.1

/-- The sum of what elements weigh. -/
def sumW {α : Type} (f : α → Nat) : List α → Nat
  | [] => 0
  | m :: r => f m + sumW f r
theorem sumW_take_succ {α : Type} {f : α → Nat} {l : List α} {k : Nat} (h : k < l.length) : sumW f (l.take (k + 1)) = sumW f (l.take k) + f l[k] := by
  induction l generalizing k with
  | nil => simp at h
  | cons m r ih =>
    cases k with
    | zero => simp [sumW]
    | succ k => simp only [List.take_succ_cons, sumW, List.getElem_cons_succ]; rw [ih (by simpa using h)]; omega
theorem sumW_take_le {α : Type} (f : α → Nat) (l : List α) (k : Nat) : sumW f (l.take k) ≤ sumW f l := by
  induction l generalizing k with
  | nil => simp [sumW]
  | cons m r ih =>
    cases k with
    | zero => simp [sumW]
    | succ k => simp only [List.take_succ_cons, sumW]; have := ih k; omega
theorem sumW_le {α : Type} {f : α → Nat} {l : List α} {k : Nat} (h : k < l.length) : f l[k] ≤ sumW f l := by
  have h1 := sumW_take_succ (f := f) h
  have h2 := sumW_take_le f l (k + 1)
  omega

/-- From block X on nothing that was there has turned. -/
structure Above (X : Nat) (w w' : World) : Prop where
  size : w.heap.size ≤ w'.heap.size
  block : ∀ b, X ≤ b → b < w.heap.size → w'.heap[b]? = w.heap[b]?

theorem Above.refl (X : Nat) (w : World) : Above X w w := ⟨Nat.le_refl _, fun _ _ _ => rfl⟩
theorem Above.trans {X : Nat} {a b c : World} (h : Above X a b) (k : Above X b c) : Above X a c := ⟨Nat.le_trans h.size k.size, fun i hX hi => (k.block i hX (Nat.lt_of_lt_of_le hi h.size)).trans (h.block i hX hi)⟩
theorem Above.setCell {X : Nat} {a w : World} (h : Above X a w) {p : Addr} (hp : p.block < X) (u : Value) : Above X a (w.setCell p u) :=
  h.trans ⟨by simp, fun k hX _ => Below.heap_setCell _ _ _ _ (by omega)⟩
theorem Above.below {X : Nat} {w w' : World} (h : Below w.heap.size w w') : Above X w w' := ⟨h.size, fun b _ hb => h.block b hb⟩

/-- A row of zeros, nothing filled yet. -/
theorem Fill.start {α : Type} {size : Nat} {e : TypeId} {O : ORep α} {w : World} {g n base : Nat} {l : List α} {xs : List Value} (h : w.ownsRow base e size (.slice (some ⟨g, 0, none⟩) n n) n xs) : Fill size e O w g n l 0 [] := by
  rcases h.2 with ⟨h', _⟩ | ⟨g', cap, cur, h', hb, hg, hnc, hm, hs, _⟩
  · simp at h'
  · simp only [Value.slice.injEq, Option.some.injEq, Addr.mk.injEq, and_true, true_and] at h'
    obtain ⟨rfl, rfl⟩ := h'
    exact ⟨⟨cur, hg, hs, fun j _ hj => by omega⟩, rfl, fun b hb => by simp at hb, by simp⟩

theorem Fill.keep {α : Type} {size : Nat} {e : TypeId} {O : ORep α} {R : Rep α} (hO : O.Good R size) {w w1 : World} {g n k : Nat} {l : List α} {Fs : List (List Nat)} (h : Fill size e O w g n l k Fs) (hg : g < w.heap.size) (hb : Below w.heap.size w w1) : Fill size e O w1 g n l k Fs := by
  obtain ⟨⟨cur, c1, c2, c3⟩, f1, f2, f3⟩ := h
  exact ⟨⟨cur, by rw [hb.block g hg]; exact c1, c2, fun j hj hjk => hO.frame (c3 j hj hjk) (fun b hbF => hb.block b (hO.lt (c3 j hj hjk) b hbF))⟩, f1, fun b hbF => ⟨(f2 b hbF).1, Nat.lt_of_lt_of_le (f2 b hbF).2 hb.size⟩, f3⟩

theorem Fill.cells {α : Type} {size : Nat} {e : TypeId} {O : ORep α} {w : World} {g n k : Nat} {l : List α} {Fs : List (List Nat)} (h : Fill size e O w g n l k Fs) (hk : k < n) (i : Nat) (hi : i < size) : ∃ u, w.cell? ⟨g, k * size + i, none⟩ = some u := by
  obtain ⟨⟨cur, c1, c2, _⟩, _, _, _⟩ := h
  have hm : (k + 1) * size ≤ n * size := Nat.mul_le_mul_right _ hk
  rw [Nat.succ_mul] at hm
  exact ⟨_, by rw [cell_of_row w g _ cur e (0, 0) c1]; exact Array.getElem?_eq_getElem (by omega)⟩

theorem Fill.free {α : Type} {size : Nat} {e : TypeId} {O : ORep α} {w : World} {g n k : Nat} {l : List α} {Fs : List (List Nat)} (h : Fill size e O w g n l k Fs) (j : Nat) : w.frozen? ⟨g, j, none⟩ = false := by
  obtain ⟨⟨cur, c1, _, _⟩, _, _, _⟩ := h
  exact frozen_of_row w g j cur e c1

end Go.Proofs.YtmigamgcmhdncaaDoor
