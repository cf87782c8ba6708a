/-
  Part 2 of the texts that the proof leans on.
-/
import Derived.Test.YtnohnkcijomdjaaGreatDoorCur0
import Derived.Deep.RegionWith
set_option linter.unusedVariables false
set_option linter.unusedSimpArgs false
set_option maxRecDepth 10000

namespace Go.Proofs.YtnohnkcijomdjaaGreatDoor
open Go.RowKit

set_option maxHeartbeats 400000 in
theorem szByteS_any (a : Option Addr) (n cap : Nat) (left : Int) (w : World) (h0 : 0 ≤ left) (h1 : left ≤ 1048576) (hn : n ≤ 9223372036854775807) :
    Calls Tryz.prog 78 #[.slice a n cap, .int .i64 left] w fun e w' => e = .returned (.int .i64 (szRes left n)) ∧ w' = w := by
  by_cases h : (n : Int) ≤ left
  · have HV := Hid.mk (szRes_yes h)
    go_enter Tryz.func78, Tryz.ntmps78
    go_wp2
    go_ret
    exact ⟨by rw [HV.out]; rfl, rfl⟩
  · have HV := Hid.mk (szRes_no h)
    go_enter Tryz.func78, Tryz.ntmps78
    go_wp2
    go_ret
    exact ⟨by rw [HV.out]; rfl, rfl⟩

set_option maxHeartbeats 400000 in
theorem szInode_any (cs : List Value) (m : MInode) (left : Int) (w : World) (g0 : 0 ≤ left) (g1 : left ≤ 1048576) (hr : rInode w.heap.size w cs m) :
    Calls Tryz.prog 54 #[.agg cs.toArray, .int .i64 left] w fun e w' => e = .returned (.int .i64 (szRes left (wInode m))) ∧ Below w.heap.size w w' := by
  obtain ⟨a1, c1, rfl, h0, h1, h2, _⟩ := hr
  have HW : Hid (wInode m = m.fData.length) := rfl
  have hb0 : Below w.heap.size w (w.alloc (.cells #[.int .i64 m.fId, .slice a1 m.fData.length c1, .int .i64 m.fSure] 85)) := (Below.refl _ _).alloc (Nat.le_refl _) _
  go_enter Tryz.func54, Tryz.ntmps54
  have gb1 := h1.big
  go_wp2_with fail
  refine (szByteS_any a1 _ c1 _ _ (by omega) (by omega) (by omega)).mono ?_
  rintro e wx ⟨rfl, rfl⟩
  by_cases hw1 : ((m.fData.length : Nat) : Int) ≤ left
  rotate_left
  · have HV : Hid (szRes left (wInode m) = -1) := szRes_no (by have h := HW.out; omega)
    rw [szRes_no hw1]
    go_wp2_with fail
    go_ret
    exact ⟨by rw [HV.out]; rfl, hb0⟩
  rw [szRes_yes hw1]
  have HV := Hid.mk (szRes_yes (left := left) (t := wInode m) (by have h := HW.out; omega))
  go_wp2_with fail
  go_ret
  exact ⟨by rw [HV.out, HW.out]; go_num, hb0⟩

set_option maxHeartbeats 400000 in
theorem szInodeS_any (a : Option Addr) (n cap : Nat) (l : List MInode) (left : Int) (w : World) (hx : l.length = n) (g0 : 0 ≤ left) (g1 : left ≤ 1048576) (hn : n ≤ 9223372036854775807) (hr : RdS 3 rInode w.heap.size w a l) :
    Calls Tryz.prog 27 #[.slice a n cap, .int .i64 left] w fun e w' => e = .returned (.int .i64 (szRes left (l.length + sumW wInode l))) ∧ Below w.heap.size w w' := by
  have HX := Hid.mk hx
  rw [hx]
  clear hx
  by_cases h : (n : Int) ≤ left
  · go_enter Tryz.func27, Tryz.ntmps27
    go_wp2_with fail
    go_loopw [1, 5] (fun x i wr => ∃ k : Nat, k ≤ n ∧ i = .int .i64 k ∧ x = .int .i64 (left - n - sumW wInode (l.take k)) ∧ ((n + sumW wInode (l.take k) : Nat) : Int) ≤ left ∧ Below w.heap.size w wr) (fun _ i _ => n - (intOf i).toNat)
    case atStart => exact ⟨0, Nat.zero_le _, rfl, by simp [sumW], by simpa [sumW] using h, Below.refl _ _⟩
    case round =>
      obtain ⟨k, hk, rfl, rfl, hle, hbk⟩ := hrel
      by_cases hlt : k < n
      · have hkl : k < l.length := by rw [HX.out]; exact hlt
        have HS := Hid.mk (sumW_take_succ (f := wInode) hkl)
        have HLe := Hid.mk (sumW_take_le wInode l (k + 1))
        obtain ⟨b1, o1, rfl, hB, cs, hcl, hcell, hrT⟩ := (hr.below rInode_good hbk) k hkl
        generalize l[k] = m at *
        generalize sumW wInode (l.take k) = t at *
        have hrT' := rInode_good.mono hrT hbk.size
        obtain ⟨a1, c1, rfl, h0, h1, h2, _⟩ := hrT
        have k0 := hcell 0 _ rfl
        have k1 := hcell 1 _ rfl
        have k2 := hcell 2 _ rfl
        rw [Nat.add_zero] at k0
        clear hr hcell hcl
        go_wp2_with fail
        refine (szInode_any _ m _ wr (by omega) (by omega) hrT').mono ?_
        rintro e w1 ⟨rfl, hb1⟩
        have hb2 := hbk.trans (hb1.mono hbk.size)
        generalize wInode m = d at *
        by_cases hd : (d : Int) ≤ left - n - t
        · rw [szRes_yes hd]
          go_wp2_with fail
          go_roundw
          case rel => exact ⟨k + 1, by omega, by go_num, by rw [HS.out]; go_num, by rw [HS.out]; omega, hb2⟩
          case measure => simp [intOf]; omega
        · rw [szRes_no hd]
          have HV : Hid (szRes left (n + sumW wInode l) = -1) := szRes_no (by have h1 := HS.out; have h2 := HLe.out; omega)
          go_wp2_with fail
          go_ret
          exact ⟨by rw [HV.out]; rfl, hb2⟩
      · have hkn : k = n := by omega
        have HT : Hid (l.take k = l) := List.take_of_length_le (by rw [HX.out]; omega)
        rw [HT.out] at hle
        rw [HT.out]
        have HV := Hid.mk (szRes_yes hle)
        go_wp2_with fail
        go_ret
        exact ⟨by rw [HV.out]; go_num, hbk⟩
  · have HV : Hid (szRes left (n + sumW wInode l) = -1) := szRes_no (by omega)
    go_enter Tryz.func27, Tryz.ntmps27
    go_wp2_with fail
    go_ret
    exact ⟨by rw [HV.out]; rfl, Below.refl _ _⟩

set_option maxHeartbeats 400000 in
theorem szEntry_any (cs : List Value) (m : MEntry) (left : Int) (w : World) (g0 : 0 ≤ left) (g1 : left ≤ 1048576) (hr : rEntry w.heap.size w cs m) :
    Calls Tryz.prog 55 #[.agg cs.toArray, .int .i64 left] w fun e w' => e = .returned (.int .i64 (szRes left (wEntry m))) ∧ Below w.heap.size w w' := by
  obtain ⟨rfl, h0, h1, _⟩ := hr
  have HW : Hid (wEntry m = m.fName.size) := rfl
  have hb0 : Below w.heap.size w (w.alloc (.cells #[.string m.fName, .int .i64 m.fId] 88)) := (Below.refl _ _).alloc (Nat.le_refl _) _
  go_enter Tryz.func55, Tryz.ntmps55
  by_cases hw0 : ((m.fName.size : Nat) : Int) ≤ left
  rotate_left
  · have HV : Hid (szRes left (wEntry m) = -1) := szRes_no (by have h := HW.out; omega)
    go_wp2_with fail
    go_ret
    exact ⟨by rw [HV.out]; rfl, hb0⟩
  have HV := Hid.mk (szRes_yes (left := left) (t := wEntry m) (by have h := HW.out; omega))
  go_wp2_with fail
  go_ret
  exact ⟨by rw [HV.out, HW.out]; go_num, hb0⟩

set_option maxHeartbeats 400000 in
theorem szEntryS_any (a : Option Addr) (n cap : Nat) (l : List MEntry) (left : Int) (w : World) (hx : l.length = n) (g0 : 0 ≤ left) (g1 : left ≤ 1048576) (hn : n ≤ 9223372036854775807) (hr : RdS 2 rEntry w.heap.size w a l) :
    Calls Tryz.prog 28 #[.slice a n cap, .int .i64 left] w fun e w' => e = .returned (.int .i64 (szRes left (l.length + sumW wEntry l))) ∧ Below w.heap.size w w' := by
  have HX := Hid.mk hx
  rw [hx]
  clear hx
  by_cases h : (n : Int) ≤ left
  · go_enter Tryz.func28, Tryz.ntmps28
    go_wp2_with fail
    go_loopw [1, 5] (fun x i wr => ∃ k : Nat, k ≤ n ∧ i = .int .i64 k ∧ x = .int .i64 (left - n - sumW wEntry (l.take k)) ∧ ((n + sumW wEntry (l.take k) : Nat) : Int) ≤ left ∧ Below w.heap.size w wr) (fun _ i _ => n - (intOf i).toNat)
    case atStart => exact ⟨0, Nat.zero_le _, rfl, by simp [sumW], by simpa [sumW] using h, Below.refl _ _⟩
    case round =>
      obtain ⟨k, hk, rfl, rfl, hle, hbk⟩ := hrel
      by_cases hlt : k < n
      · have hkl : k < l.length := by rw [HX.out]; exact hlt
        have HS := Hid.mk (sumW_take_succ (f := wEntry) hkl)
        have HLe := Hid.mk (sumW_take_le wEntry l (k + 1))
        obtain ⟨b1, o1, rfl, hB, cs, hcl, hcell, hrT⟩ := (hr.below rEntry_good hbk) k hkl
        generalize l[k] = m at *
        generalize sumW wEntry (l.take k) = t at *
        have hrT' := rEntry_good.mono hrT hbk.size
        obtain ⟨rfl, h0, h1, _⟩ := hrT
        have k0 := hcell 0 _ rfl
        have k1 := hcell 1 _ rfl
        rw [Nat.add_zero] at k0
        clear hr hcell hcl
        go_wp2_with fail
        refine (szEntry_any _ m _ wr (by omega) (by omega) hrT').mono ?_
        rintro e w1 ⟨rfl, hb1⟩
        have hb2 := hbk.trans (hb1.mono hbk.size)
        generalize wEntry m = d at *
        by_cases hd : (d : Int) ≤ left - n - t
        · rw [szRes_yes hd]
          go_wp2_with fail
          go_roundw
          case rel => exact ⟨k + 1, by omega, by go_num, by rw [HS.out]; go_num, by rw [HS.out]; omega, hb2⟩
          case measure => simp [intOf]; omega
        · rw [szRes_no hd]
          have HV : Hid (szRes left (n + sumW wEntry l) = -1) := szRes_no (by have h1 := HS.out; have h2 := HLe.out; omega)
          go_wp2_with fail
          go_ret
          exact ⟨by rw [HV.out]; rfl, hb2⟩
      · have hkn : k = n := by omega
        have HT : Hid (l.take k = l) := List.take_of_length_le (by rw [HX.out]; omega)
        rw [HT.out] at hle
        rw [HT.out]
        have HV := Hid.mk (szRes_yes hle)
        go_wp2_with fail
        go_ret
        exact ⟨by rw [HV.out]; go_num, hbk⟩
  · have HV : Hid (szRes left (n + sumW wEntry l) = -1) := szRes_no (by omega)
    go_enter Tryz.func28, Tryz.ntmps28
    go_wp2_with fail
    go_ret
    exact ⟨by rw [HV.out]; rfl, Below.refl _ _⟩

set_option maxHeartbeats 400000 in
theorem szDisk_any (cs : List Value) (m : MDisk) (left : Int) (w : World) (g0 : 0 ≤ left) (g1 : left ≤ 1048576) (hr : rDisk w.heap.size w cs m) :
    Calls Tryz.prog 10 #[.agg cs.toArray, .int .i64 left] w fun e w' => e = .returned (.int .i64 (szRes left (wDisk m))) ∧ Below w.heap.size w w' := by
  obtain ⟨a0, c0, a1, c1, a2, c2, rfl, h0, h1, h2, h3, _⟩ := hr
  have HW : Hid (wDisk m = (m.fInodes.length + sumW wInode m.fInodes) + (m.fNames.length + sumW wEntry m.fNames) + (m.fSafe.length + sumW wEntry m.fSafe)) := rfl
  have hb0 : Below w.heap.size w (w.alloc (.cells #[.slice a0 m.fInodes.length c0, .slice a1 m.fNames.length c1, .slice a2 m.fSafe.length c2, .int .i64 m.fNext] 33)) := (Below.refl _ _).alloc (Nat.le_refl _) _
  go_enter Tryz.func10, Tryz.ntmps10
  have gb0 := h0.big
  go_wp2_with fail
  refine (szInodeS_any a0 _ c0 m.fInodes _ _ rfl (by omega) (by omega) (by omega) (by exact (LeafL.mono rInode_good (h0.below rInode_good hb0) hb0.size).2.2)).mono ?_
  rintro e w1 ⟨rfl, hx1⟩
  obtain ⟨hc1, hf1⟩ := bcell hx1
  have hz1 : w.heap.size < w1.heap.size := by have := hx1.size; simp at this; omega
  have hb1 := hb0.trans (hx1.mono hb0.size)
  by_cases hw0 : ((m.fInodes.length + sumW wInode m.fInodes : Nat) : Int) ≤ left
  rotate_left
  · have HV : Hid (szRes left (wDisk m) = -1) := szRes_no (by have h := HW.out; omega)
    rw [szRes_no hw0]
    go_wp2_with fail
    go_ret
    exact ⟨by rw [HV.out]; rfl, hb1⟩
  rw [szRes_yes hw0]
  have gb1 := h1.big
  go_wp2_with fail
  refine (szEntryS_any a1 _ c1 m.fNames _ _ rfl (by omega) (by omega) (by omega) (by exact (LeafL.mono rEntry_good (h1.below rEntry_good hb1) hb1.size).2.2)).mono ?_
  rintro e w2 ⟨rfl, hx2⟩
  obtain ⟨hc2, hf2⟩ := bcell hx2
  have hz2 : w.heap.size < w2.heap.size := Nat.lt_of_lt_of_le hz1 hx2.size
  have hb2 := hb1.trans (hx2.mono hb1.size)
  by_cases hw1 : ((m.fNames.length + sumW wEntry m.fNames : Nat) : Int) ≤ left - (((m.fInodes.length : Nat) : Int) + ((sumW wInode m.fInodes : Nat) : Int))
  rotate_left
  · have HV : Hid (szRes left (wDisk m) = -1) := szRes_no (by have h := HW.out; omega)
    rw [szRes_no hw1]
    go_wp2_with fail
    go_ret
    exact ⟨by rw [HV.out]; rfl, hb2⟩
  rw [szRes_yes hw1]
  have gb2 := h2.big
  go_wp2_with fail
  refine (szEntryS_any a2 _ c2 m.fSafe _ _ rfl (by omega) (by omega) (by omega) (by exact (LeafL.mono rEntry_good (h2.below rEntry_good hb2) hb2.size).2.2)).mono ?_
  rintro e w3 ⟨rfl, hx3⟩
  obtain ⟨hc3, hf3⟩ := bcell hx3
  have hz3 : w.heap.size < w3.heap.size := Nat.lt_of_lt_of_le hz2 hx3.size
  have hb3 := hb2.trans (hx3.mono hb2.size)
  by_cases hw2 : ((m.fSafe.length + sumW wEntry m.fSafe : Nat) : Int) ≤ left - (((m.fInodes.length : Nat) : Int) + ((sumW wInode m.fInodes : Nat) : Int)) - (((m.fNames.length : Nat) : Int) + ((sumW wEntry m.fNames : Nat) : Int))
  rotate_left
  · have HV : Hid (szRes left (wDisk m) = -1) := szRes_no (by have h := HW.out; omega)
    rw [szRes_no hw2]
    go_wp2_with fail
    go_ret
    exact ⟨by rw [HV.out]; rfl, hb3⟩
  rw [szRes_yes hw2]
  have HV := Hid.mk (szRes_yes (left := left) (t := wDisk m) (by have h := HW.out; omega))
  go_wp2_with fail
  go_ret
  exact ⟨by rw [HV.out, HW.out]; go_num, hb3⟩


/-- Blocks of F alone have turned; new ones may have come. -/
structure Turn (F : List Nat) (w w' : World) : Prop where
  os : w'.os = w.os
  tape : w'.tape = w.tape
  output : w'.output = w.output
  size : w.heap.size ≤ w'.heap.size
  block : ∀ b, b < w.heap.size → b ∉ F → w'.heap[b]? = w.heap[b]?

theorem Turn.refl (F : List Nat) (w : World) : Turn F w w := ⟨rfl, rfl, rfl, Nat.le_refl _, fun _ _ _ => rfl⟩
theorem Turn.trans {F : List Nat} {a b c : World} (h : Turn F a b) (k : Turn F b c) : Turn F a c :=
  ⟨k.os.trans h.os, k.tape.trans h.tape, k.output.trans h.output, Nat.le_trans h.size k.size, fun i hi hF => (k.block i (Nat.lt_of_lt_of_le hi h.size) hF).trans (h.block i hi hF)⟩
theorem Turn.mono {F G : List Nat} {a b : World} (h : Turn F a b) (hF : ∀ k, k ∈ F → k ∈ G) : Turn G a b :=
  ⟨h.os, h.tape, h.output, h.size, fun i hi hG => h.block i hi (fun hk => hG (hF i hk))⟩
theorem Turn.ofBelow {F : List Nat} {a b : World} (h : Below a.heap.size a b) : Turn F a b := ⟨h.os, h.tape, h.output, h.size, fun i hi _ => h.block i hi⟩
theorem Turn.below {F : List Nat} {B : Nat} {a b : World} (h : Turn F a b) (hF : ∀ k, k ∈ F → B ≤ k) (hB : B ≤ a.heap.size) : Below B a b :=
  ⟨h.os, h.tape, h.output, h.size, fun i hi => h.block i (Nat.lt_of_lt_of_le hi hB) (fun hk => by have := hF i hk; omega)⟩
theorem Turn.setCell {F : List Nat} {a b : World} (h : Turn F a b) {p : Addr} (hp : p.block ∈ F) (u : Value) : Turn F a (b.setCell p u) := by
  refine h.trans ⟨?_, ?_, ?_, by simp, fun i hi hF => heap_setCell_other b p i u (fun e => hF (e ▸ hp))⟩
  all_goals
    have hb := (Below.refl 0 b).setCell (p := p) (Nat.zero_le _) u
  · exact hb.os
  · exact hb.tape
  · exact hb.output
theorem Turn.ofGrown {F : List Nat} {a b : World} {r : Option Nat} (h : a.grownBy b r) (hr : ∀ k, r = some k → k ∈ F) : Turn F a b :=
  ⟨h.os, h.tape, h.output, h.size, fun i hi hF => h.block i hi (fun e => hF (hr i e.symm))⟩

theorem Turn.cell {F : List Nat} {w w' : World} (h : Turn F w w') {p : Addr} (hp : p.block < w.heap.size) (hF : p.block ∉ F) : w'.cell? p = w.cell? p := World.cell?_of_block (w := w) (h.block p.block hp hF)

theorem below_same {w w' : World} (h : w' = w) : Below w.heap.size w w' := by subst h; exact Below.refl _ _
theorem bthen {w w1 w2 : World} (h : Below w.heap.size w w1) (hx : Below w1.heap.size w1 w2) : Below w.heap.size w w2 := h.trans (hx.mono h.size)
theorem Turn.after {F : List Nat} {w w1 w2 : World} (h : Below w.heap.size w w1) (hx : Turn F w1 w2) : Turn F w w2 := (Turn.ofBelow h).trans hx
theorem Turn.under {F : List Nat} {w w1 w2 : World} (h : Below w.heap.size w w1) (hx : Turn F w1 w2) (hF : ∀ k, k ∈ F → w.heap.size ≤ k) : Below w.heap.size w w2 := h.trans (hx.below hF h.size)

theorem turnOwn {a b : World} {r : Option Nat} (h : a.grownBy b r) : Turn r.toList a b := Turn.ofGrown h (fun k hk => by simp [hk])

/-- A variable's block, cell by cell. -/
def Bx (w : World) (b : Nat) (vs : List Value) : Prop := b < w.heap.size ∧ ∀ i u, vs[i]? = some u → w.cell? ⟨b, i, none⟩ = some u

theorem Bx.new (w : World) (vs : List Value) (t : TypeId) : Bx (w.alloc (.cells vs.toArray t)) w.heap.size vs := by
  refine ⟨by simp, fun i u hu => ?_⟩
  rw [cell_of_row (w.alloc (.cells vs.toArray t)) w.heap.size i vs.toArray t (0, 0) (by show (w.heap.push _)[w.heap.size]? = _; rw [Array.getElem?_push_size])]
  simpa using hu
theorem Bx.alloc {w : World} {b : Nat} {vs : List Value} (h : Bx w b vs) (o : Obj) : Bx (w.alloc o) b vs :=
  ⟨by have := h.1; simp; omega, fun i u hu => by
    have hb := (Below.refl w.heap.size w).alloc (Nat.le_refl _) o
    exact (hb.cell (p := ⟨b, i, none⟩) h.1).trans (h.2 i u hu)⟩
theorem Bx.drewN {w : World} {b : Nat} {vs : List Value} (h : Bx w b vs) (d : Nat) : Bx (w.drewN d) b vs := h
theorem Bx.drew {w : World} {b : Nat} {vs : List Value} (h : Bx w b vs) : Bx w.drew b vs := h
theorem Bx.below {B : Nat} {w w' : World} {b : Nat} {vs : List Value} (h : Bx w b vs) (hb : Below B w w') (hB : b < B) : Bx w' b vs :=
  ⟨Nat.lt_of_lt_of_le h.1 hb.size, fun i u hu => (hb.cell (p := ⟨b, i, none⟩) hB).trans (h.2 i u hu)⟩
theorem Bx.under {w w' : World} {b : Nat} {vs : List Value} (h : Bx w b vs) (hb : Below w.heap.size w w') : Bx w' b vs := h.below hb h.1
theorem Bx.turn {F : List Nat} {w w' : World} {b : Nat} {vs : List Value} (h : Bx w b vs) (ht : Turn F w w') (hF : b ∉ F) : Bx w' b vs :=
  ⟨Nat.lt_of_lt_of_le h.1 ht.size, fun i u hu => (ht.cell (p := ⟨b, i, none⟩) h.1 hF).trans (h.2 i u hu)⟩

/-- The cells of element j. -/
def seg (size : Nat) (cur : Array Value) (j : Nat) : List Value := (cur.toList.drop (j * size)).take size

theorem seg_get {size : Nat} {cur : Array Value} {j i : Nat} (hi : i < size) : (seg size cur j)[i]? = cur[j * size + i]? := by
  unfold seg
  rw [List.getElem?_take, if_pos hi, List.getElem?_drop]
  simp

theorem seg_set {size : Nat} {cur : Array Value} {k i : Nat} (hi : i < size) (u : Value) : seg size (cur.setIfInBounds (k * size + i) u) k = (seg size cur k).set i u := by
  unfold seg
  rw [Array.toList_setIfInBounds]
  apply List.ext_getElem?
  intro j
  simp only [List.getElem?_take, List.getElem?_drop, List.getElem?_set, List.length_take, List.length_drop]
  by_cases hj : j < size
  · by_cases hij : i = j
    · subst hij
      by_cases hb : k * size + i < cur.toList.length
      · have hb' : i < min size (cur.toList.length - k * size) := by omega
        rw [if_pos hj, if_pos rfl, if_pos rfl, if_pos hb, if_pos hb']
      · have hb' : ¬ i < min size (cur.toList.length - k * size) := by omega
        rw [if_pos hj, if_pos rfl, if_pos rfl, if_neg hb, if_neg hb']
    · rw [if_pos hj, if_neg (by omega), if_neg hij, if_pos hj]
  · rw [if_neg hj, if_neg hj]
    split
    · split
      · omega
      · rfl
    · rfl

theorem seg_set_other {size : Nat} {cur : Array Value} {k i j : Nat} (hi : i < size) (hjk : j ≠ k) (u : Value) : seg size (cur.setIfInBounds (k * size + i) u) j = seg size cur j := by
  unfold seg
  rw [Array.toList_setIfInBounds]
  apply List.ext_getElem?
  intro x
  simp only [List.getElem?_take, List.getElem?_drop, List.getElem?_set]
  by_cases hx : x < size
  · rw [if_pos hx, if_pos hx, if_neg]
    intro h
    rcases Nat.lt_or_gt_of_ne hjk with h1 | h1
    · have := Nat.mul_le_mul_right size h1
      rw [Nat.succ_mul] at this
      omega
    · have := Nat.mul_le_mul_right size h1
      rw [Nat.succ_mul] at this
      omega
  · rw [if_neg hx, if_neg hx]

/-- A row of structs of one's own, laid open. -/
structure OwnRow {α : Type} (size : Nat) (e : TypeId) (O : ORep α) (w : World) (g cap : Nat) (l : List α) (cur : Array Value) (Fs : List (List Nat)) : Prop where
  heap : w.heap[g]? = some (.cells cur e (0, 0))
  le : l.length ≤ cap
  max : cap ≤ maxLen
  fit : cur.size = cap * size
  flen : Fs.length = l.length
  each : ∀ j, (h : j < l.length) → O w (seg size cur j) l[j] (Fs.getD j [])
  nodup : (g :: Fs.flatten).Nodup

theorem ownS.open {α : Type} {size : Nat} {e : TypeId} {O : ORep α} {w : World} {v : Value} {l : List α} {F : List Nat} (h : ownS size e O w v l F) (hN : F.Nodup) :
    (v = .slice none 0 0 ∧ l = [] ∧ F = []) ∨ ∃ g cap cur Fs, v = .slice (some ⟨g, 0, none⟩) l.length cap ∧ OwnRow size e O w g cap l cur Fs ∧ F = g :: Fs.flatten := by
  rcases h with h | ⟨g, cap, cur, Fs, h1, h2, h3, h4, h5, h6, h7, rfl⟩
  · exact .inl h
  · exact .inr ⟨g, cap, cur, Fs, h1, ⟨h2, h3, h4, h5, h6, h7, hN⟩, rfl⟩

theorem OwnRow.shut {α : Type} {size : Nat} {e : TypeId} {O : ORep α} {w : World} {g cap : Nat} {l : List α} {cur : Array Value} {Fs : List (List Nat)} (h : OwnRow size e O w g cap l cur Fs) :
    ownS size e O w (.slice (some ⟨g, 0, none⟩) l.length cap) l (g :: Fs.flatten) :=
  .inr ⟨g, cap, cur, Fs, rfl, h.heap, h.le, h.max, h.fit, h.flen, h.each, rfl⟩

theorem OwnRow.lt {α : Type} {size : Nat} {e : TypeId} {O : ORep α} {w : World} {g cap : Nat} {l : List α} {cur : Array Value} {Fs : List (List Nat)} (h : OwnRow size e O w g cap l cur Fs) : g < w.heap.size := (Array.getElem?_eq_some_iff.1 h.heap).1

/-- Element k is being edited: the world's row is as it was but for that element, which reads as cs. -/
structure Edit (size : Nat) (e : TypeId) (g k : Nat) (F : List Nat) (cur : Array Value) (w w' : World) (cs : List Value) : Prop where
  row : ∃ cur' : Array Value, w'.heap[g]? = some (.cells cur' e (0, 0)) ∧ cur'.size = cur.size ∧ (∀ j, j ≠ k → seg size cur' j = seg size cur j) ∧ seg size cur' k = cs
  turn : Turn (g :: F) w w'

theorem Edit.start {α : Type} {size : Nat} {e : TypeId} {O : ORep α} {w : World} {g cap : Nat} {l : List α} {cur : Array Value} {Fs : List (List Nat)} (h : OwnRow size e O w g cap l cur Fs) (k : Nat) (F : List Nat) : Edit size e g k F cur w w (seg size cur k) :=
  ⟨⟨cur, h.heap, rfl, fun _ _ => rfl, rfl⟩, Turn.refl _ _⟩

theorem Edit.set {size : Nat} {e : TypeId} {g k : Nat} {F : List Nat} {cur : Array Value} {w w' : World} {cs : List Value} (h : Edit size e g k F cur w w' cs) {i : Nat} (hi : i < size) (u : Value) :
    Edit size e g k F cur w (w'.setCell ⟨g, k * size + i, none⟩ u) (cs.set i u) := by
  obtain ⟨⟨cur', c1, c2, c3, c4⟩, ht⟩ := h
  refine ⟨⟨_, heap_setCell_same w' g _ cur' e u c1, by simpa using c2, fun j hj => ?_, ?_⟩, ht.setCell (by simp) u⟩
  · rw [seg_set_other hi hj]; exact c3 j hj
  · rw [seg_set hi, c4]

theorem Edit.keep {size : Nat} {e : TypeId} {g k : Nat} {F : List Nat} {cur : Array Value} {w w1 w2 : World} {cs : List Value} (h : Edit size e g k F cur w w1 cs) (ht : Turn F w1 w2) (hg : g ∉ F) :
    Edit size e g k F cur w w2 cs := by
  obtain ⟨⟨cur', c1, c2, c3, c4⟩, ht'⟩ := h
  exact ⟨⟨cur', by rw [ht.block g (Array.getElem?_eq_some_iff.1 c1).1 hg]; exact c1, c2, c3, c4⟩, ht'.trans (ht.mono (fun k hk => List.mem_cons_of_mem _ hk))⟩

theorem Edit.cellAt {size : Nat} {e : TypeId} {g k : Nat} {F : List Nat} {cur : Array Value} {w w' : World} {cs : List Value} (h : Edit size e g k F cur w w' cs) {i : Nat} (hi : i < size) {u : Value} (hu : cs[i]? = some u) :
    w'.cell? ⟨g, k * size + i, none⟩ = some u := by
  obtain ⟨⟨cur', c1, c2, c3, c4⟩, _⟩ := h
  rw [cell_of_row w' g _ cur' e (0, 0) c1, ← seg_get hi, c4, hu]

theorem Edit.free {size : Nat} {e : TypeId} {g k : Nat} {F : List Nat} {cur : Array Value} {w w' : World} {cs : List Value} (h : Edit size e g k F cur w w' cs) (j : Nat) :
    w'.frozen? ⟨g, j, none⟩ = false := by
  obtain ⟨⟨cur', c1, c2, c3, c4⟩, _⟩ := h
  exact frozen_of_row w' g j cur' e c1

theorem nodup_getD_disj {Fs : List (List Nat)} (h : Fs.flatten.Nodup) {j k : Nat} (hj : j < Fs.length) (hk : k < Fs.length) (hjk : j ≠ k) : ∀ b, b ∈ Fs.getD j [] → b ∉ Fs.getD k [] := by
  intro b hb hb'
  rw [List.getD_eq_getElem?_getD, List.getElem?_eq_getElem hj] at hb
  rw [List.getD_eq_getElem?_getD, List.getElem?_eq_getElem hk] at hb'
  have hp := (List.pairwise_flatten.1 h).2
  have hb : b ∈ Fs[j] := hb
  have hb' : b ∈ Fs[k] := hb'
  rcases Nat.lt_or_gt_of_ne hjk with h1 | h1
  · exact (List.pairwise_iff_getElem.1 hp j k hj hk h1) b hb b hb' rfl
  · exact (List.pairwise_iff_getElem.1 hp k j hk hj h1) b hb' b hb rfl

theorem OwnRow.edit {α : Type} {size : Nat} {e : TypeId} {O : ORep α} {R : Rep α} (hO : O.Good R size) {w w' : World} {g cap k : Nat} {l : List α} {cur : Array Value} {Fs : List (List Nat)} {cs : List Value} {m' : α}
    (h : OwnRow size e O w g cap l cur Fs) (hk : k < l.length) (he : Edit size e g k (Fs.getD k []) cur w w' cs) (ho : O w' cs m' (Fs.getD k [])) :
    (∃ cur', OwnRow size e O w' g cap (l.set k m') cur' Fs) ∧ Turn (g :: Fs.flatten) w w' := by
  obtain ⟨⟨cur', c1, c2, c3, c4⟩, ht⟩ := he
  have hsub : ∀ b, b ∈ g :: Fs.getD k [] → b ∈ g :: Fs.flatten := by
    intro b hb
    rcases List.mem_cons.1 hb with rfl | hb
    · simp
    · exact List.mem_cons_of_mem _ (mem_flatten_getD (by rw [h.flen]; exact hk) hb)
  refine ⟨⟨cur', c1, by simpa using h.le, h.max, by rw [c2, h.fit], by simpa using h.flen, ?_, h.nodup⟩, ht.mono hsub⟩
  intro j hj
  have hj' : j < l.length := by simpa using hj
  by_cases hjk : j = k
  · subst hjk
    rw [c4]
    simpa using ho
  · rw [c3 j hjk, List.getElem_set_ne (fun e => hjk e.symm)]
    refine hO.frame (h.each j hj') (fun b hb => ht.block b (hO.lt (h.each j hj') b hb) ?_)
    intro hm
    have hbf := mem_flatten_getD (by rw [h.flen]; exact hj') hb
    rcases List.mem_cons.1 hm with rfl | hm
    · exact (List.nodup_cons.1 h.nodup).1 hbf
    · exact nodup_getD_disj (List.nodup_cons.1 h.nodup).2 (by rw [h.flen]; exact hj') (by rw [h.flen]; exact hk) hjk b hb hm

theorem OwnRow.part {α : Type} {size : Nat} {e : TypeId} {O : ORep α} {w : World} {g cap : Nat} {l : List α} {cur : Array Value} {Fs : List (List Nat)} (h : OwnRow size e O w g cap l cur Fs) {k : Nat} (hk : k < l.length) :
    g ∉ Fs.getD k [] ∧ (Fs.getD k []).Nodup := by
  have hk' : k < Fs.length := by rw [h.flen]; exact hk
  have hn := List.nodup_cons.1 h.nodup
  refine ⟨fun hm => hn.1 (mem_flatten_getD hk' hm), ?_⟩
  rw [List.getD_eq_getElem?_getD, List.getElem?_eq_getElem hk']
  exact (List.pairwise_flatten.1 hn.2).1 _ (List.getElem_mem hk')

/-- What is left of marks, element behind element: from number q on, up to q'. -/
def hdS {α : Type} (hd : α → Int → Int → Prop) : List α → Int → Int → Prop
  | [], q, q' => q' = q
  | x :: r, q, q' => ∃ q1, hd x q q1 ∧ hdS hd r q1 q'

theorem hdS_snoc {α : Type} {hd : α → Int → Int → Prop} {l : List α} {x : α} {q q1 q2 : Int} (h : hdS hd l q q1) (hx : hd x q1 q2) : hdS hd (l ++ [x]) q q2 := by
  induction l generalizing q with
  | nil => simp only [hdS] at h; subst h; exact ⟨q2, hx, rfl⟩
  | cons y r ih => obtain ⟨q3, h1, h2⟩ := h; exact ⟨q3, h1, ih h2⟩

theorem hdS_end {α : Type} {hd : α → Int → Int → Prop} {cnt : α → Nat} (hc : ∀ m q q', hd m q q' → q' = q + cnt m) {l : List α} {q q' : Int} (h : hdS hd l q q') : q' = q + sumW cnt l := by
  induction l generalizing q with
  | nil => simp only [hdS] at h; subst h; simp [sumW]
  | cons y r ih => obtain ⟨q3, h1, h2⟩ := h; have h3 := hc _ _ _ h1; have h4 := ih h2; simp only [sumW]; omega

theorem sumW_cnt_le {α : Type} {f g : α → Nat} (h : ∀ x, f x ≤ 32 * (1 + g x)) (l : List α) : sumW f l ≤ 32 * (l.length + sumW g l) := by
  induction l with
  | nil => simp [sumW]
  | cons x r ih => have := h x; simp only [sumW, List.length_cons]; omega

theorem set_mid {α : Type} {l l' : List α} {k : Nat} (hl : l'.length = k) (hk : k < l.length) (m' : α) : (l' ++ l.drop k).set k m' = (l' ++ [m']) ++ l.drop (k + 1) := by
  rw [List.set_append_right _ _ (by omega), hl, Nat.sub_self, List.drop_eq_getElem_cons hk, List.set_cons_zero, List.append_assoc]
  rfl

theorem get_mid {α : Type} {l l' : List α} {k : Nat} (hl : l'.length = k) (hk : k < l.length) (h : k < (l' ++ l.drop k).length) : (l' ++ l.drop k)[k] = l[k] := by
  rw [List.getElem_append_right (by omega)]
  simp [hl]


theorem Tryz.infoOfInode : (Tryz.prog.info? 92).map (fun i => (i.zero, i.size, i.bytes)) = some (some (.agg #[.int .i64 0, .slice none 0 0, .int .i64 0]), 3, 40) := by kernel_rfl
theorem Tryz.infoOfEntry : (Tryz.prog.info? 90).map (fun i => (i.zero, i.size, i.bytes)) = some (some (.agg #[.string ⟨#[]⟩, .int .i64 0]), 2, 24) := by kernel_rfl


def rdB (B : Nat) (w : World) (v : Value) (zs : List Int) : Prop := ∃ a c, v = .slice a zs.length c ∧ LeafB B w a c zs
theorem rdB.below {B : Nat} {w w' : World} {v : Value} {zs : List Int} (h : rdB B w v zs) (hb : Below B w w') : rdB B w' v zs := by
  obtain ⟨a, c, e, h1⟩ := h
  exact ⟨a, c, e, h1.below hb⟩
theorem rdB.mono {B B' : Nat} {w : World} {v : Value} {zs : List Int} (h : rdB B w v zs) (hB : B ≤ B') : rdB B' w v zs := by
  obtain ⟨a, c, e, h1⟩ := h
  exact ⟨a, c, e, h1.mono hB⟩
theorem rdB_own {e : TypeId} {w : World} {v : Value} {zs : List Int} {F : List Nat} (h : ownB e w v zs F) : rdB w.heap.size w v zs := h.read


theorem markByteS_o (v : Value) (zs : List Int) (F : List Nat) (q : Int) (w : World) (hq : 0 ≤ q) (hq2 : q + zs.length ≤ 70368744177664) (ho : ownB 5 w v zs F) :
    Calls Tryz.prog 65 #[v, .int .i64 q] w fun e w' => e = .returned (.int .i64 (q + zs.length)) ∧ ownB 5 w' v (marks q zs.length) F ∧ Turn F w w' := by
  obtain ⟨a, c, rfl, hc, hcm, hrd, hby⟩ := ho.read
  obtain ⟨h1, h2, rfl⟩ := ho
  refine (markByteS_gen a zs.length c 0 zs q w hq (by omega) (by omega) rfl h1).mono ?_
  rintro e w' ⟨rfl, hown, hg⟩
  refine ⟨rfl, ⟨own_congr hown (marks_length _ _).symm rfl, ?_, rfl⟩, Turn.ofGrown hg (fun k hk => by simp [hk])⟩
  intro z hz
  obtain ⟨j, hj, rfl⟩ := List.mem_iff_getElem.1 hz
  have := marks_getD q zs.length j (by simpa [marks_length] using hj)
  rw [List.getD_eq_getElem?_getD, List.getElem?_eq_getElem hj] at this
  simp only [Option.getD_some] at this
  rw [this]
  omega


theorem toByteS_own (a : Option Addr) (n cap : Nat) (zs : List Int) (w : World) (hx : zs.length = n) (hr : LeafB w.heap.size w a cap zs) (hlen : n ≤ 1048576) :
    Calls Tryz.prog 81 #[.slice a n cap] w fun e w' => ∃ (v : Value) (F : List Nat), e = .returned v ∧ ownB 5 w' v zs F ∧ F.Nodup ∧ (∀ b, b ∈ F → w.heap.size ≤ b) ∧ Below w.heap.size w w' := by
  refine (toByteS_any a n cap zs w hx (by omega) hr.2.2.1).mono ?_
  rintro e w1 ⟨rfl, ho, hb⟩
  refine ⟨_, [w.heap.size], rfl, ⟨own_base (own_congr ho hx.symm rfl) (Nat.zero_le _), hr.2.2.2, rfl⟩, by simp, ?_, hb⟩
  intro b hbm
  simp at hbm
  omega


set_option maxHeartbeats 1000000 in
theorem toInode_any (cs : List Value) (m : MInode) (w : World) (hr : rInode w.heap.size w cs m) (hsz : wInode m ≤ 1048576) :
    Calls Tryz.prog 59 #[.agg cs.toArray] w fun e w' => ∃ (cs' : List Value) (F : List Nat), e = .returned (.agg cs'.toArray) ∧ oInode w' cs' m F ∧ F.Nodup ∧ (∀ b, b ∈ F → w.heap.size ≤ b) ∧ Below w.heap.size w w' := by
  obtain ⟨a1, c1, rfl, h0, h1, h2, _⟩ := hr
  have hsz' : m.fData.length ≤ 1048576 := hsz
  clear hsz
  have hbA : ∀ o1 o2 o3, Below w.heap.size w (((w.alloc o1).alloc o2).alloc o3) := fun o1 o2 o3 => (((Below.refl _ _).alloc (Nat.le_refl _) o1).alloc (by simp) o2).alloc (by simp; omega) o3
  go_enter Tryz.func59, Tryz.ntmps59
  have hC1 := fun (W : World) (hb : Below w.heap.size w W) => toByteS_own a1 _ c1 m.fData W rfl (LeafB.mono (h1.below hb) hb.size) (by omega)
  go_wp2_with fail
  refine Calls.mono (hC1 _ ?_) ?_
  · exact (hbA _ _ _)
  clear hC1
  rintro e w1 ⟨v1, F1, rfl, ho1, hn1, hl1, hx1⟩
  obtain ⟨ax1, cx1, rfl, _⟩ := ho1.read
  obtain ⟨hc1, hf1⟩ := bcell hx1
  have hz1 : w.heap.size + 1 + 1 + 1 ≤ w1.heap.size := by have := hx1.size; simpa using this
  have hB1 : Below w.heap.size w w1 := Below.trans (hbA _ _ _) (hx1.mono (by first | (simp; omega) | (have := hz1; simp; omega)))
  have hy1a : w.heap.size < w1.heap.size := by omega
  have hy1b : w.heap.size + 1 < w1.heap.size := by omega
  have hy1c : w.heap.size + 1 + 1 < w1.heap.size := by omega
  have hA1 := Above.below (X := w.heap.size + 1 + 1 + 1) hx1
  have hlo1 : ∀ b, b ∈ F1 → w.heap.size + 1 + 1 + 1 ≤ b := fun b hb => by have h := hl1 b hb; simp at h; omega
  have hhi1 : ∀ b, b ∈ F1 → b < w1.heap.size := ho1.lt
  clear hl1
  go_wp2_with fail
  refine bodyPost_ret (v := .agg #[.int .i64 m.fId, .slice ax1 m.fData.length cx1, .int .i64 m.fSure]) (by simp [results, Tryz.results59, go_sem, *]) rfl ⟨[.int .i64 m.fId, .slice ax1 m.fData.length cx1, .int .i64 m.fSure], F1 ++ [], rfl, ?_, (by rw [List.append_nil]; exact hn1), (by rw [List.append_nil]; exact (fun b hb => by have := hlo1 b hb; omega)), (by repeat (first | with_reducible exact hB1 | refine Below.setCell ?_ (by dsimp only; omega) _))⟩
  exact ⟨_, F1, rfl, h0, ho1.frame (fun b hb => (show Above (w.heap.size + 1 + 1 + 1) w1 _ from by repeat (first | with_reducible exact Above.refl _ _ | refine Above.setCell ?_ (by dsimp only; omega) _ | with_reducible refine Above.trans ?_ hA1)).block b (hlo1 b hb) (hhi1 b hb)), h2, rfl⟩


set_option maxHeartbeats 1000000 in
theorem toInodeS_any (a : Option Addr) (n cap : Nat) (l : List MInode) (w : World) (hx : l.length = n) (hr : LeafL 3 rInode w.heap.size w a cap l) (hsz : n + sumW wInode l ≤ 1048576) :
    Calls Tryz.prog 30 #[.slice a n cap] w fun e w' => ∃ (v : Value) (F : List Nat), e = .returned v ∧ ownS 3 92 oInode w' v l F ∧ F.Nodup ∧ (∀ b, b ∈ F → w.heap.size ≤ b) ∧ Below w.heap.size w w' := by
  obtain ⟨i0, hi, hz0, hz1, hz2⟩ := info_parts Tryz.infoOfInode
  have HX := Hid.mk hx
  clear hx
  replace hr := hr.2.2
  go_enter Tryz.func30, Tryz.ntmps30
  go_wp2_with (at_make; refine wpList_make_full _ rfl _ _ 36 rfl w.heap.size 92 i0 (.agg #[.int .i64 0, .slice none 0 0, .int .i64 0]) 3 Tryz.underlying36 hi hz0 hz1 .i64 .i64 _ _ n rfl rfl rfl rfl (by rw [hz2]; omega) (by unfold maxLen; omega) (Nat.le_refl _) ?_)
  intro w0 hown hgr
  have hb0 : Below w.heap.size w w0 := (Below.refl _ _).grown hgr (Nat.le_refl _) (fun k h => by cases h)
  have hg0 : w.heap.size < w0.heap.size := (hown.lt w.heap.size rfl).2
  have hF0 : Fill 3 92 oInode w0 w.heap.size n l 0 [] := Fill.start hown
  clear hgr hi hz0 hz1 hz2 hown
  go_wp2_with fail
  go_loopw [4] (fun i wr => ∃ (k : Nat) (Fs : List (List Nat)), k ≤ n ∧ i = .int .i64 k ∧ Fill 3 92 oInode wr w.heap.size n l k Fs ∧ w.heap.size < wr.heap.size ∧ Below w.heap.size w wr) (fun i _ => n - (intOf i).toNat)
  case atStart => exact ⟨0, [], Nat.zero_le _, rfl, hF0, hg0, hb0⟩
  case round =>
    obtain ⟨k, Fs, hk, rfl, hFk, hgk, hbk⟩ := hrel
    clear hF0 hg0 hb0
    by_cases hlt : k < n
    · have hkl : k < l.length := by rw [HX.out]; exact hlt
      have hwk := sumW_le (f := wInode) hkl
      obtain ⟨b1, o1, rfl, hB, cs, hcl, hcell, hrT⟩ := (hr.below rInode_good hbk) k hkl
      have hrT' := rInode_good.mono hrT hbk.size
      have hstep := fun (w1 : World) (hb : Below wr.heap.size wr w1) (cs : List Value) (F : List Nat) ho hF hN => Fill.step (w1 := w1) oInode_good hFk hgk hkl hlt hb (cs := cs) (F := F) ho hF hN
      generalize l[k] = m at *
      obtain ⟨a1, c1, rfl, h0, h1, h2, _⟩ := hrT
      have k0 := hcell 0 _ rfl
      have k1 := hcell 1 _ rfl
      have k2 := hcell 2 _ rfl
      rw [Nat.add_zero] at k0
      clear hcell hcl
      go_wp2_with fail
      refine (toInode_any _ m wr hrT' (by omega)).mono ?_
      rintro e w1 ⟨cs1, F1, rfl, ho1, hn1, hl1, hb1⟩
      have hst := hstep w1 hb1 cs1 F1 ho1 hl1 hn1
      have hF1 := hFk.keep oInode_good hgk hb1
      have hB1 := hbk.trans (hb1.mono hbk.size)
      have hg1 : w.heap.size < w1.heap.size := Nat.lt_of_lt_of_le hgk hb1.size
      obtain ⟨v1, G1, rfl, y0, y1, y2, hG⟩ := ho1
      obtain ⟨ax1, cx1, rfl, _⟩ := y1.read
      obtain ⟨u0, q0⟩ := hF1.cells hlt 0 (by omega)
      have r0 := hF1.free (k * 3 + 0)
      obtain ⟨u1, q1⟩ := hF1.cells hlt 1 (by omega)
      have r1 := hF1.free (k * 3 + 1)
      obtain ⟨u2, q2⟩ := hF1.cells hlt 2 (by omega)
      have r2 := hF1.free (k * 3 + 2)
      rw [Nat.add_zero] at q0 r0
      clear hstep hF1 hFk hrT' hl1 hn1
      go_wp2_with fail
      go_roundw
      case rel => exact ⟨k + 1, Fs ++ [F1], by omega, by go_num, hst, by simpa using hg1, below_setCells (Nat.le_refl _) [.int .i64 m.fId, .slice ax1 m.fData.length cx1, .int .i64 m.fSure] _ _ _ hB1⟩
      case measure => simp [intOf]; omega
    · have hkn : k = n := by omega
      subst hkn
      have hd := hFk.done HX.out (by unfold maxLen; omega)
      go_wp2_with fail
      go_ret
      refine ⟨_, _, rfl, hd.1, hd.2, ?_, hbk⟩
      intro b hb
      rcases List.mem_cons.1 hb with rfl | hb
      · exact Nat.le_refl _
      · have := (hFk.over b hb).1; omega

set_option maxHeartbeats 1000000 in
theorem toEntry_any (cs : List Value) (m : MEntry) (w : World) (hr : rEntry w.heap.size w cs m) (hsz : wEntry m ≤ 1048576) :
    Calls Tryz.prog 60 #[.agg cs.toArray] w fun e w' => ∃ (cs' : List Value) (F : List Nat), e = .returned (.agg cs'.toArray) ∧ oEntry w' cs' m F ∧ F.Nodup ∧ (∀ b, b ∈ F → w.heap.size ≤ b) ∧ Below w.heap.size w w' := by
  obtain ⟨rfl, h0, h1, _⟩ := hr
  have hsz' : m.fName.size ≤ 1048576 := hsz
  clear hsz
  have hbA : ∀ o1 o2 o3, Below w.heap.size w (((w.alloc o1).alloc o2).alloc o3) := fun o1 o2 o3 => (((Below.refl _ _).alloc (Nat.le_refl _) o1).alloc (by simp) o2).alloc (by simp; omega) o3
  go_enter Tryz.func60, Tryz.ntmps60
  go_wp2_with fail
  refine bodyPost_ret (v := .agg #[.string m.fName, .int .i64 m.fId]) (by simp [results, Tryz.results60, go_sem]) rfl ⟨[.string m.fName, .int .i64 m.fId], [], rfl, ?_, List.nodup_nil, (fun b hb => by cases hb), (hbA _ _ _)⟩
  exact ⟨rfl, h0, h1, rfl⟩


set_option maxHeartbeats 1000000 in
theorem toEntryS_any (a : Option Addr) (n cap : Nat) (l : List MEntry) (w : World) (hx : l.length = n) (hr : LeafL 2 rEntry w.heap.size w a cap l) (hsz : n + sumW wEntry l ≤ 1048576) :
    Calls Tryz.prog 31 #[.slice a n cap] w fun e w' => ∃ (v : Value) (F : List Nat), e = .returned v ∧ ownS 2 90 oEntry w' v l F ∧ F.Nodup ∧ (∀ b, b ∈ F → w.heap.size ≤ b) ∧ Below w.heap.size w w' := by
  obtain ⟨i0, hi, hz0, hz1, hz2⟩ := info_parts Tryz.infoOfEntry
  have HX := Hid.mk hx
  clear hx
  replace hr := hr.2.2
  go_enter Tryz.func31, Tryz.ntmps31
  go_wp2_with (at_make; refine wpList_make_full _ rfl _ _ 37 rfl w.heap.size 90 i0 (.agg #[.string ⟨#[]⟩, .int .i64 0]) 2 Tryz.underlying37 hi hz0 hz1 .i64 .i64 _ _ n rfl rfl rfl rfl (by rw [hz2]; omega) (by unfold maxLen; omega) (Nat.le_refl _) ?_)
  intro w0 hown hgr
  have hb0 : Below w.heap.size w w0 := (Below.refl _ _).grown hgr (Nat.le_refl _) (fun k h => by cases h)
  have hg0 : w.heap.size < w0.heap.size := (hown.lt w.heap.size rfl).2
  have hF0 : Fill 2 90 oEntry w0 w.heap.size n l 0 [] := Fill.start hown
  clear hgr hi hz0 hz1 hz2 hown
  go_wp2_with fail
  go_loopw [4] (fun i wr => ∃ (k : Nat) (Fs : List (List Nat)), k ≤ n ∧ i = .int .i64 k ∧ Fill 2 90 oEntry wr w.heap.size n l k Fs ∧ w.heap.size < wr.heap.size ∧ Below w.heap.size w wr) (fun i _ => n - (intOf i).toNat)
  case atStart => exact ⟨0, [], Nat.zero_le _, rfl, hF0, hg0, hb0⟩
  case round =>
    obtain ⟨k, Fs, hk, rfl, hFk, hgk, hbk⟩ := hrel
    clear hF0 hg0 hb0
    by_cases hlt : k < n
    · have hkl : k < l.length := by rw [HX.out]; exact hlt
      have hwk := sumW_le (f := wEntry) hkl
      obtain ⟨b1, o1, rfl, hB, cs, hcl, hcell, hrT⟩ := (hr.below rEntry_good hbk) k hkl
      have hrT' := rEntry_good.mono hrT hbk.size
      have hstep := fun (w1 : World) (hb : Below wr.heap.size wr w1) (cs : List Value) (F : List Nat) ho hF hN => Fill.step (w1 := w1) oEntry_good hFk hgk hkl hlt hb (cs := cs) (F := F) ho hF hN
      generalize l[k] = m at *
      obtain ⟨rfl, h0, h1, _⟩ := hrT
      have k0 := hcell 0 _ rfl
      have k1 := hcell 1 _ rfl
      rw [Nat.add_zero] at k0
      clear hcell hcl
      go_wp2_with fail
      refine (toEntry_any _ m wr hrT' (by omega)).mono ?_
      rintro e w1 ⟨cs1, F1, rfl, ho1, hn1, hl1, hb1⟩
      have hst := hstep w1 hb1 cs1 F1 ho1 hl1 hn1
      have hF1 := hFk.keep oEntry_good hgk hb1
      have hB1 := hbk.trans (hb1.mono hbk.size)
      have hg1 : w.heap.size < w1.heap.size := Nat.lt_of_lt_of_le hgk hb1.size
      obtain ⟨rfl, y0, y1, hG⟩ := ho1
      obtain ⟨u0, q0⟩ := hF1.cells hlt 0 (by omega)
      have r0 := hF1.free (k * 2 + 0)
      obtain ⟨u1, q1⟩ := hF1.cells hlt 1 (by omega)
      have r1 := hF1.free (k * 2 + 1)
      rw [Nat.add_zero] at q0 r0
      clear hstep hF1 hFk hrT' hl1 hn1
      go_wp2_with fail
      go_roundw
      case rel => exact ⟨k + 1, Fs ++ [F1], by omega, by go_num, hst, by simpa using hg1, below_setCells (Nat.le_refl _) [.string m.fName, .int .i64 m.fId] _ _ _ hB1⟩
      case measure => simp [intOf]; omega
    · have hkn : k = n := by omega
      subst hkn
      have hd := hFk.done HX.out (by unfold maxLen; omega)
      go_wp2_with fail
      go_ret
      refine ⟨_, _, rfl, hd.1, hd.2, ?_, hbk⟩
      intro b hb
      rcases List.mem_cons.1 hb with rfl | hb
      · exact Nat.le_refl _
      · have := (hFk.over b hb).1; omega

set_option maxHeartbeats 1000000 in
theorem toDisk_any (cs : List Value) (m : MDisk) (w : World) (hr : rDisk w.heap.size w cs m) (hsz : wDisk m ≤ 1048576) :
    Calls Tryz.prog 12 #[.agg cs.toArray] w fun e w' => ∃ (cs' : List Value) (F : List Nat), e = .returned (.agg cs'.toArray) ∧ oDisk w' cs' m F ∧ F.Nodup ∧ (∀ b, b ∈ F → w.heap.size ≤ b) ∧ Below w.heap.size w w' := by
  obtain ⟨a0, c0, a1, c1, a2, c2, rfl, h0, h1, h2, h3, _⟩ := hr
  have hsz' : (m.fInodes.length + sumW wInode m.fInodes) + (m.fNames.length + sumW wEntry m.fNames) + (m.fSafe.length + sumW wEntry m.fSafe) ≤ 1048576 := hsz
  clear hsz
  have hbA : ∀ o1 o2 o3, Below w.heap.size w (((w.alloc o1).alloc o2).alloc o3) := fun o1 o2 o3 => (((Below.refl _ _).alloc (Nat.le_refl _) o1).alloc (by simp) o2).alloc (by simp; omega) o3
  go_enter Tryz.func12, Tryz.ntmps12
  have hC1 := fun (W : World) (hb : Below w.heap.size w W) => toInodeS_any a0 _ c0 m.fInodes W rfl (LeafL.mono rInode_good (h0.below rInode_good hb) hb.size) (by omega)
  go_wp2_with fail
  refine Calls.mono (hC1 _ ?_) ?_
  · exact (hbA _ _ _)
  clear hC1
  rintro e w1 ⟨v1, F1, rfl, ho1, hn1, hl1, hx1⟩
  obtain ⟨ax1, cx1, rfl, _⟩ := ownS.read oInode_good ho1
  obtain ⟨hc1, hf1⟩ := bcell hx1
  have hz1 : w.heap.size + 1 + 1 + 1 ≤ w1.heap.size := by have := hx1.size; simpa using this
  have hB1 : Below w.heap.size w w1 := Below.trans (hbA _ _ _) (hx1.mono (by first | (simp; omega) | (have := hz1; simp; omega)))
  have hy1a : w.heap.size < w1.heap.size := by omega
  have hy1b : w.heap.size + 1 < w1.heap.size := by omega
  have hy1c : w.heap.size + 1 + 1 < w1.heap.size := by omega
  have hA1 := Above.below (X := w.heap.size + 1 + 1 + 1) hx1
  have hlo1 : ∀ b, b ∈ F1 → w.heap.size + 1 + 1 + 1 ≤ b := fun b hb => by have h := hl1 b hb; simp at h; omega
  have hhi1 : ∀ b, b ∈ F1 → b < w1.heap.size := ownS.lt oInode_good ho1
  clear hl1
  have hC2 := fun (W : World) (hb : Below w.heap.size w W) => toEntryS_any a1 _ c1 m.fNames W rfl (LeafL.mono rEntry_good (h1.below rEntry_good hb) hb.size) (by omega)
  go_wp2_with fail
  refine Calls.mono (hC2 _ ?_) ?_
  · exact (by repeat (first | with_reducible exact hB1 | refine Below.setCell ?_ (by dsimp only; omega) _))
  clear hC2
  rintro e w2 ⟨v2, F2, rfl, ho2, hn2, hl2, hx2⟩
  obtain ⟨ax2, cx2, rfl, _⟩ := ownS.read oEntry_good ho2
  obtain ⟨hc2, hf2⟩ := bcell hx2
  have hz2 : w.heap.size + 1 + 1 + 1 ≤ w2.heap.size := by have := hx2.size; simp at this; omega
  have hB2 : Below w.heap.size w w2 := Below.trans (by repeat (first | with_reducible exact hB1 | refine Below.setCell ?_ (by dsimp only; omega) _)) (hx2.mono (by first | (simp; omega) | (have := hz1; simp; omega)))
  have hy2a : w.heap.size < w2.heap.size := by omega
  have hy2b : w.heap.size + 1 < w2.heap.size := by omega
  have hy2c : w.heap.size + 1 + 1 < w2.heap.size := by omega
  have hA2 := Above.below (X := w.heap.size + 1 + 1 + 1) hx2
  have hlo2 : ∀ b, b ∈ F2 → w.heap.size + 1 + 1 + 1 ≤ b := fun b hb => by have h := hl2 b hb; simp at h; omega
  have hhi2 : ∀ b, b ∈ F2 → b < w2.heap.size := ownS.lt oEntry_good ho2
  have hs2 : w1.heap.size ≤ w2.heap.size := by have h := hx2.size; simpa using h
  have hg2 : ∀ b, b ∈ F2 → w1.heap.size ≤ b := fun b hb => by simpa using hl2 b hb
  clear hl2
  have hC3 := fun (W : World) (hb : Below w.heap.size w W) => toEntryS_any a2 _ c2 m.fSafe W rfl (LeafL.mono rEntry_good (h2.below rEntry_good hb) hb.size) (by omega)
  go_wp2_with fail
  refine Calls.mono (hC3 _ ?_) ?_
  · exact (by repeat (first | with_reducible exact hB2 | refine Below.setCell ?_ (by dsimp only; omega) _))
  clear hC3
  rintro e w3 ⟨v3, F3, rfl, ho3, hn3, hl3, hx3⟩
  obtain ⟨ax3, cx3, rfl, _⟩ := ownS.read oEntry_good ho3
  obtain ⟨hc3, hf3⟩ := bcell hx3
  have hz3 : w.heap.size + 1 + 1 + 1 ≤ w3.heap.size := by have := hx3.size; simp at this; omega
  have hB3 : Below w.heap.size w w3 := Below.trans (by repeat (first | with_reducible exact hB2 | refine Below.setCell ?_ (by dsimp only; omega) _)) (hx3.mono (by first | (simp; omega) | (have := hz2; simp; omega)))
  have hy3a : w.heap.size < w3.heap.size := by omega
  have hy3b : w.heap.size + 1 < w3.heap.size := by omega
  have hy3c : w.heap.size + 1 + 1 < w3.heap.size := by omega
  have hA3 := Above.below (X := w.heap.size + 1 + 1 + 1) hx3
  have hlo3 : ∀ b, b ∈ F3 → w.heap.size + 1 + 1 + 1 ≤ b := fun b hb => by have h := hl3 b hb; simp at h; omega
  have hhi3 : ∀ b, b ∈ F3 → b < w3.heap.size := ownS.lt oEntry_good ho3
  have hs3 : w2.heap.size ≤ w3.heap.size := by have h := hx3.size; simpa using h
  have hg3 : ∀ b, b ∈ F3 → w2.heap.size ≤ b := fun b hb => by simpa using hl3 b hb
  clear hl3
  go_wp2_with fail
  refine bodyPost_ret (v := .agg #[.slice ax1 m.fInodes.length cx1, .slice ax2 m.fNames.length cx2, .slice ax3 m.fSafe.length cx3, .int .i64 m.fNext]) (by simp [results, Tryz.results12, go_sem, *]) rfl ⟨[.slice ax1 m.fInodes.length cx1, .slice ax2 m.fNames.length cx2, .slice ax3 m.fSafe.length cx3, .int .i64 m.fNext], F1 ++ F2 ++ F3 ++ [], rfl, ?_, (by rw [List.append_nil]; exact (nodup_app (nodup_app hn1 hn2 hhi1 hg2) hn3 (app_lt hhi1 hhi2 hs2) hg3)), (by rw [List.append_nil]; exact (app_ge (app_ge (fun b hb => by have := hlo1 b hb; omega) (fun b hb => by have := hlo2 b hb; omega)) (fun b hb => by have := hlo3 b hb; omega))), (by repeat (first | with_reducible exact hB3 | refine Below.setCell ?_ (by dsimp only; omega) _))⟩
  exact ⟨_, F1, _, F2, _, F3, rfl, ownS.frame oInode_good ho1 (fun b hb => (show Above (w.heap.size + 1 + 1 + 1) w1 _ from by repeat (first | with_reducible exact Above.refl _ _ | refine Above.setCell ?_ (by dsimp only; omega) _ | with_reducible refine Above.trans ?_ hA3 | with_reducible refine Above.trans ?_ hA2 | with_reducible refine Above.trans ?_ hA1)).block b (hlo1 b hb) (hhi1 b hb)), ownS.frame oEntry_good ho2 (fun b hb => (show Above (w.heap.size + 1 + 1 + 1) w2 _ from by repeat (first | with_reducible exact Above.refl _ _ | refine Above.setCell ?_ (by dsimp only; omega) _ | with_reducible refine Above.trans ?_ hA3 | with_reducible refine Above.trans ?_ hA2 | with_reducible refine Above.trans ?_ hA1)).block b (hlo2 b hb) (hhi2 b hb)), ownS.frame oEntry_good ho3 (fun b hb => (show Above (w.heap.size + 1 + 1 + 1) w3 _ from by repeat (first | with_reducible exact Above.refl _ _ | refine Above.setCell ?_ (by dsimp only; omega) _ | with_reducible refine Above.trans ?_ hA3 | with_reducible refine Above.trans ?_ hA2 | with_reducible refine Above.trans ?_ hA1)).block b (hlo3 b hb) (hhi3 b hb)), h3, rfl⟩


set_option maxHeartbeats 1000000 in
theorem eqInode_yes (cs1 cs2 : List Value) (m : MInode) (w : World) (hr1 : rInode w.heap.size w cs1 m) (hr2 : rInode w.heap.size w cs2 m) (hsz : wInode m ≤ 1099511627776) :
    Calls Tryz.prog 63 #[.agg cs1.toArray, .agg cs2.toArray] w fun e w' => e = .returned (.bool true) ∧ Below w.heap.size w w' := by
  obtain ⟨a1, c1, rfl, h0, h1, h2, _⟩ := hr1
  obtain ⟨b1, d1, rfl, g0, g1, g2, _⟩ := hr2
  have hsz' : m.fData.length ≤ 1099511627776 := hsz
  clear hsz
  have hbA : ∀ o1 o2, Below w.heap.size w ((w.alloc o1).alloc o2) := fun o1 o2 => ((Below.refl _ _).alloc (Nat.le_refl _) o1).alloc (by simp) o2
  go_enter Tryz.func63, Tryz.ntmps63
  have hC1 := fun (W : World) (hb : Below w.heap.size w W) => eqByteS_any a1 b1 _ _ c1 d1 m.fData m.fData W w.heap.size rfl rfl (by omega) (h1.2.2.1.below hb) (g1.2.2.1.below hb)
  go_wp2_with fail
  refine Calls.mono (hC1 _ ?_) ?_
  · exact (hbA _ _)
  rintro e w1 ⟨rfl, d, hw1⟩
  rw [decide_eq_true trivial]
  have hB1 : Below w.heap.size w w1 := by rw [hw1]; exact below_drewN (hbA _ _) d
  subst hw1
  clear hC1
  go_wp2_with fail
  go_ret
  exact ⟨rfl, hB1⟩

set_option maxHeartbeats 1000000 in
theorem eqInodeS_yes (a b : Option Addr) (n ca cb : Nat) (l : List MInode) (w : World) (hx : l.length = n) (hra : LeafL 3 rInode w.heap.size w a ca l) (hrb : LeafL 3 rInode w.heap.size w b cb l) (hsz : n + sumW wInode l ≤ 1099511627776) :
    Calls Tryz.prog 33 #[.slice a n ca, .slice b n cb] w fun e w' => e = .returned (.bool true) ∧ Below w.heap.size w w' := by
  have HX := Hid.mk hx
  clear hx
  replace hra := hra.2.2
  replace hrb := hrb.2.2
  go_enter Tryz.func33, Tryz.ntmps33
  go_wp2_with fail
  go_loopw [5] (fun i wr => ∃ k : Nat, k ≤ n ∧ i = .int .i64 k ∧ Below w.heap.size w wr) (fun i _ => n - (intOf i).toNat)
  case atStart => exact ⟨0, Nat.zero_le _, rfl, Below.refl _ _⟩
  case round =>
    obtain ⟨k, hk, rfl, hbk⟩ := hrel
    by_cases hlt : k < n
    · have hkl : k < l.length := by rw [HX.out]; exact hlt
      have hwk := sumW_le (f := wInode) hkl
      obtain ⟨bA, oA, rfl, hBA, csA, hlA, hcA, hrA⟩ := (hra.below rInode_good hbk) k hkl
      obtain ⟨bB, oB, rfl, hBB, csB, hlB, hcB, hrB⟩ := (hrb.below rInode_good hbk) k hkl
      have hrA' := rInode_good.mono hrA hbk.size
      have hrB' := rInode_good.mono hrB hbk.size
      generalize l[k] = m at *
      obtain ⟨a1, c1, rfl, h0, h1, h2, _⟩ := hrA
      obtain ⟨b1, d1, rfl, g0, g1, g2, _⟩ := hrB
      have k0 := hcA 0 _ rfl
      have j0 := hcB 0 _ rfl
      have k1 := hcA 1 _ rfl
      have j1 := hcB 1 _ rfl
      have k2 := hcA 2 _ rfl
      have j2 := hcB 2 _ rfl
      rw [Nat.add_zero] at k0 j0
      have hm : wInode m ≤ 1099511627776 := by omega
      clear hcA hcB hlA hlB hra hrb hwk
      go_wp2_with fail
      go_region_with (go_at_call 63; refine (eqInode_yes _ _ m _ (by exact hrA') (by exact hrB') hm).mono ?_; rintro e w1 ⟨rfl, hb1⟩)
      all_goals
        have hb2 : Below w.heap.size w w1 := Below.trans hbk (Below.mono (Below.trans (Below.drew (Below.refl _ _)) hb1) hbk.size)
        go_wp2_with fail
        go_roundw
        case rel => exact ⟨k + 1, by omega, by go_num, hb2⟩
        case measure => simp [intOf]; omega
    · go_wp2_with fail
      go_ret
      exact ⟨rfl, hbk⟩

set_option maxHeartbeats 1000000 in
theorem eqEntry_yes (cs1 cs2 : List Value) (m : MEntry) (w : World) (hr1 : rEntry w.heap.size w cs1 m) (hr2 : rEntry w.heap.size w cs2 m) (hsz : wEntry m ≤ 1099511627776) :
    Calls Tryz.prog 64 #[.agg cs1.toArray, .agg cs2.toArray] w fun e w' => e = .returned (.bool true) ∧ Below w.heap.size w w' := by
  obtain ⟨rfl, h0, h1, _⟩ := hr1
  obtain ⟨rfl, g0, g1, _⟩ := hr2
  have hsz' : m.fName.size ≤ 1099511627776 := hsz
  clear hsz
  have hbA : ∀ o1 o2, Below w.heap.size w ((w.alloc o1).alloc o2) := fun o1 o2 => ((Below.refl _ _).alloc (Nat.le_refl _) o1).alloc (by simp) o2
  go_enter Tryz.func64, Tryz.ntmps64
  go_wp2_with fail
  go_ret
  exact ⟨rfl, (hbA _ _)⟩

set_option maxHeartbeats 1000000 in
theorem eqEntryS_yes (a b : Option Addr) (n ca cb : Nat) (l : List MEntry) (w : World) (hx : l.length = n) (hra : LeafL 2 rEntry w.heap.size w a ca l) (hrb : LeafL 2 rEntry w.heap.size w b cb l) (hsz : n + sumW wEntry l ≤ 1099511627776) :
    Calls Tryz.prog 34 #[.slice a n ca, .slice b n cb] w fun e w' => e = .returned (.bool true) ∧ Below w.heap.size w w' := by
  have HX := Hid.mk hx
  clear hx
  replace hra := hra.2.2
  replace hrb := hrb.2.2
  go_enter Tryz.func34, Tryz.ntmps34
  go_wp2_with fail
  go_loopw [5] (fun i wr => ∃ k : Nat, k ≤ n ∧ i = .int .i64 k ∧ Below w.heap.size w wr) (fun i _ => n - (intOf i).toNat)
  case atStart => exact ⟨0, Nat.zero_le _, rfl, Below.refl _ _⟩
  case round =>
    obtain ⟨k, hk, rfl, hbk⟩ := hrel
    by_cases hlt : k < n
    · have hkl : k < l.length := by rw [HX.out]; exact hlt
      have hwk := sumW_le (f := wEntry) hkl
      obtain ⟨bA, oA, rfl, hBA, csA, hlA, hcA, hrA⟩ := (hra.below rEntry_good hbk) k hkl
      obtain ⟨bB, oB, rfl, hBB, csB, hlB, hcB, hrB⟩ := (hrb.below rEntry_good hbk) k hkl
      have hrA' := rEntry_good.mono hrA hbk.size
      have hrB' := rEntry_good.mono hrB hbk.size
      generalize l[k] = m at *
      obtain ⟨rfl, h0, h1, _⟩ := hrA
      obtain ⟨rfl, g0, g1, _⟩ := hrB
      have k0 := hcA 0 _ rfl
      have j0 := hcB 0 _ rfl
      have k1 := hcA 1 _ rfl
      have j1 := hcB 1 _ rfl
      rw [Nat.add_zero] at k0 j0
      have hm : wEntry m ≤ 1099511627776 := by omega
      clear hcA hcB hlA hlB hra hrb hwk
      go_wp2_with fail
      go_region_with (go_at_call 64; refine (eqEntry_yes _ _ m _ (by exact hrA') (by exact hrB') hm).mono ?_; rintro e w1 ⟨rfl, hb1⟩)
      all_goals
        have hb2 : Below w.heap.size w w1 := Below.trans hbk (Below.mono (Below.trans (Below.drew (Below.refl _ _)) hb1) hbk.size)
        go_wp2_with fail
        go_roundw
        case rel => exact ⟨k + 1, by omega, by go_num, hb2⟩
        case measure => simp [intOf]; omega
    · go_wp2_with fail
      go_ret
      exact ⟨rfl, hbk⟩

set_option maxHeartbeats 1000000 in
theorem eqDisk_yes (cs1 cs2 : List Value) (m : MDisk) (w : World) (hr1 : rDisk w.heap.size w cs1 m) (hr2 : rDisk w.heap.size w cs2 m) (hsz : wDisk m ≤ 1099511627776) :
    Calls Tryz.prog 14 #[.agg cs1.toArray, .agg cs2.toArray] w fun e w' => e = .returned (.bool true) ∧ Below w.heap.size w w' := by
  obtain ⟨a0, c0, a1, c1, a2, c2, rfl, h0, h1, h2, h3, _⟩ := hr1
  obtain ⟨b0, d0, b1, d1, b2, d2, rfl, g0, g1, g2, g3, _⟩ := hr2
  have hsz' : (m.fInodes.length + sumW wInode m.fInodes) + (m.fNames.length + sumW wEntry m.fNames) + (m.fSafe.length + sumW wEntry m.fSafe) ≤ 1099511627776 := hsz
  clear hsz
  have hbA : ∀ o1 o2, Below w.heap.size w ((w.alloc o1).alloc o2) := fun o1 o2 => ((Below.refl _ _).alloc (Nat.le_refl _) o1).alloc (by simp) o2
  go_enter Tryz.func14, Tryz.ntmps14
  have hC1 := fun (W : World) (hb : Below w.heap.size w W) => eqInodeS_yes a0 b0 _ c0 d0 m.fInodes W rfl (LeafL.mono rInode_good (h0.below rInode_good hb) hb.size) (LeafL.mono rInode_good (g0.below rInode_good hb) hb.size) (by omega)
  go_wp2_with fail
  refine Calls.mono (hC1 _ ?_) ?_
  · exact (hbA _ _)
  rintro e w1 ⟨rfl, hx1⟩
  obtain ⟨hc1, hf1⟩ := bcell hx1
  have hz1 : w.heap.size + 1 + 1 ≤ w1.heap.size := by have h := hx1.size; first | omega | (simp at h; omega)
  have hy1a : w.heap.size < w1.heap.size := by omega
  have hy1b : w.heap.size + 1 < w1.heap.size := by omega
  have hB1 : Below w.heap.size w w1 := Below.trans (hbA _ _) (hx1.mono (by first | (simp; omega) | simp | omega))
  clear hC1
  have hC2 := fun (W : World) (hb : Below w.heap.size w W) => eqEntryS_yes a1 b1 _ c1 d1 m.fNames W rfl (LeafL.mono rEntry_good (h1.below rEntry_good hb) hb.size) (LeafL.mono rEntry_good (g1.below rEntry_good hb) hb.size) (by omega)
  go_wp2_with fail
  refine Calls.mono (hC2 _ ?_) ?_
  · exact hB1
  rintro e w2 ⟨rfl, hx2⟩
  obtain ⟨hc2, hf2⟩ := bcell hx2
  have hz2 : w.heap.size + 1 + 1 ≤ w2.heap.size := by have h := hx2.size; first | omega | (simp at h; omega)
  have hy2a : w.heap.size < w2.heap.size := by omega
  have hy2b : w.heap.size + 1 < w2.heap.size := by omega
  have hB2 : Below w.heap.size w w2 := Below.trans hB1 (hx2.mono (by first | (simp; omega) | simp | omega))
  clear hC2
  have hC3 := fun (W : World) (hb : Below w.heap.size w W) => eqEntryS_yes a2 b2 _ c2 d2 m.fSafe W rfl (LeafL.mono rEntry_good (h2.below rEntry_good hb) hb.size) (LeafL.mono rEntry_good (g2.below rEntry_good hb) hb.size) (by omega)
  go_wp2_with fail
  refine Calls.mono (hC3 _ ?_) ?_
  · exact hB2
  rintro e w3 ⟨rfl, hx3⟩
  obtain ⟨hc3, hf3⟩ := bcell hx3
  have hz3 : w.heap.size + 1 + 1 ≤ w3.heap.size := by have h := hx3.size; first | omega | (simp at h; omega)
  have hy3a : w.heap.size < w3.heap.size := by omega
  have hy3b : w.heap.size + 1 < w3.heap.size := by omega
  have hB3 : Below w.heap.size w w3 := Below.trans hB2 (hx3.mono (by first | (simp; omega) | simp | omega))
  clear hC3
  go_wp2_with fail
  go_ret
  exact ⟨rfl, hB3⟩

end Go.Proofs.YtnohnkcijomdjaaGreatDoor
