/-
  Part 10 of the texts that the proof leans on.
-/
import Derived.Test.YtmbobjhplkpfoaaFfl1
import Derived.Test.YtmbobjhplkpfoaaFfl0
import Derived.Laws.BitsLemmas
import Derived.Maps.Range
import Derived.Deep.RegionWith
import Derived.Laws.BytesArg
import Derived.Test.YtmbobjhplkpfoaaFfl2
set_option linter.unusedVariables false
set_option linter.unusedSimpArgs false
set_option maxRecDepth 10000

namespace Go.Proofs.Ytmbobjhplkpfoaa
open Go.RowKit

theorem ok_small {m : MDisk} (h : diskOk m = true) : wDisk m ≤ 1048576 := by
  have := ok_weight h
  rw [wDisk_eq]
  omega
theorem small_create {m : MDisk} {s : ByteArray} (h : wDisk m ≤ 1048576) : wDisk (createP m s) ≤ 1048576 := by
  unfold createP
  split
  · rename_i hc
    exact ok_small hc.2
  · exact h
theorem small_append {m : MDisk} {s : ByteArray} {b : List Int} (h : wDisk m ≤ 1048576) : wDisk (appendP m s b) ≤ 1048576 := by
  unfold appendP
  split
  · rename_i hc
    exact ok_small hc.2
  · exact h
theorem small_sync {m : MDisk} {s : ByteArray} (h : wDisk m ≤ 1048576) : wDisk (syncP m s) ≤ 1048576 := by
  unfold syncP
  split
  · have h1 := sumW_updI (l := m.fInodes) (k := fileAt m s) (f := sureI) (c := 0) (fun n => Nat.le_refl _)
    have h2 := updI_length (l := m.fInodes) (k := fileAt m s) (f := sureI)
    rw [wDisk_eq] at h ⊢
    simp only
    omega
  · exact h
theorem small_syncDir {m : MDisk} (h : wDisk m ≤ 1048576) : wDisk (syncDirP m) ≤ 1048576 := by
  unfold syncDirP
  split
  · rename_i hc
    exact ok_small (syncDir_ok hc)
  · exact h

/-- The disk behind so many steps, and their last code: the steps are Create, Append, Sync, Rename, SyncDir. -/
def swD (m : MDisk) (t : ByteArray) (b : List Int) (s : ByteArray) : Nat → MDisk
  | 0 => m
  | 1 => createP m t
  | 2 => appendP (createP m t) t b
  | 3 => syncP (appendP (createP m t) t b) t
  | 4 => renameP (syncP (appendP (createP m t) t b) t) t s
  | _ => syncDirP (renameP (syncP (appendP (createP m t) t b) t) t s)
def swC (m : MDisk) (t : ByteArray) (b : List Int) (s : ByteArray) : Nat → Int
  | 0 => createC m t
  | 1 => appendC (createP m t) t b
  | 2 => callP (appendP (createP m t) t b) t
  | 3 => renameC (syncP (appendP (createP m t) t b) t) t s
  | _ => syncDirC (renameP (syncP (appendP (createP m t) t b) t) t s)
/-- The steps from k on: at the first code that is not 0 they end. -/
def swR (m : MDisk) (t : ByteArray) (b : List Int) (s : ByteArray) : Nat → Nat → MDisk × Int
  | 0, k => (swD m t b s k, 0)
  | f + 1, k => if swC m t b s k = 0 then swR m t b s f (k + 1) else (swD m t b s (k + 1), swC m t b s k)
/-- The file that is switched: what was there under the other name is removed first. -/
def switchP (m : MDisk) (t : ByteArray) (b : List Int) (s : ByteArray) : MDisk × Int := swR (removeP m t) t b s 5 0
/-- What is to come, at step k. -/
def SwAt (m : MDisk) (t : ByteArray) (b : List Int) (s : ByteArray) (k : Nat) : Prop := switchP m t b s = swR (removeP m t) t b s (5 - k) k
theorem SwAt.start (m : MDisk) (t : ByteArray) (b : List Int) (s : ByteArray) : SwAt m t b s 0 := rfl
theorem SwAt.on {m : MDisk} {t : ByteArray} {b : List Int} {s : ByteArray} {k : Nat} (h : SwAt m t b s k) (hk : k < 5) (hc : swC (removeP m t) t b s k = 0) : SwAt m t b s (k + 1) := by
  unfold SwAt at h ⊢
  obtain ⟨f, hf⟩ : ∃ f, 5 - k = f + 1 := ⟨4 - k, by omega⟩
  rw [h, hf, swR, if_pos hc]
  congr 1
  omega
theorem SwAt.out {m : MDisk} {t : ByteArray} {b : List Int} {s : ByteArray} {k : Nat} (h : SwAt m t b s k) (hk : k < 5) (hc : swC (removeP m t) t b s k ≠ 0) : switchP m t b s = (swD (removeP m t) t b s (k + 1), swC (removeP m t) t b s k) := by
  unfold SwAt at h
  obtain ⟨f, hf⟩ : ∃ f, 5 - k = f + 1 := ⟨4 - k, by omega⟩
  rw [h, hf, swR, if_neg hc]
theorem SwAt.done {m : MDisk} {t : ByteArray} {b : List Int} {s : ByteArray} (h : SwAt m t b s 5) : switchP m t b s = (swD (removeP m t) t b s 5, 0) := h

theorem idOf_eq {m : MDisk} {e : MEntry} (h : Rise m.fNames) (he : e ∈ m.fNames) : idOf m.fNames e.fName = e.fId := by
  have h1 : hasName m.fNames e.fName = true := hasName_iff.2 ⟨e, he, rfl⟩
  have h2 := entry_of h1
  have h3 := names_once' h h2 he rfl
  rw [← h3]
theorem data_eq {m : MDisk} {s : ByteArray} (h : callP m s = 0) {x : MInode} (hx : x ∈ m.fInodes) (he : x.fId = idOf m.fNames s) : dataOf m s = x.fData := by
  obtain ⟨p, hp, rfl⟩ := List.mem_iff_getElem.1 hx
  have h1 := file_only h hp he
  unfold dataOf
  have h2 : placeOf m.fInodes (idOf m.fNames s) = p := by rw [h1]; rfl
  rw [h2, List.getElem?_eq_getElem hp]
  rfl
section
variable {m : MDisk} {s t : ByteArray}
theorem fall_names {k : Int} (h : diskOk m = true) (hk : 0 ≤ k) : (fallP m k).fNames = m.fSafe := by
  unfold fallP
  rw [if_pos ⟨h, hk⟩]
end

end Go.Proofs.Ytmbobjhplkpfoaa

namespace Go.Proofs.Ytmbobjhplkpfoaa
open Go.RowKit

/-- A cursor over the code lies alone in block g. -/
def Cur (w : World) (g : Nat) (sv : Value) (n : Nat) : Prop :=
  ∃ i h : Int, 0 ≤ i ∧ i ≤ n ∧ w.heap[g]? = some (.cells #[sv, .int .i64 i, .int .i64 h] 76 (0, 0))

theorem and255_i64 (n : Int) : bits .and .i64 n 255 = n % 256 := by
  have h1 : (BitVec.ofInt 64 255).toNat = 2 ^ 8 - 1 := by decide
  have key : (BitVec.ofInt 64 n &&& BitVec.ofInt 64 255).toNat = (n % ((2 ^ 64 : Nat) : Int)).toNat % 2 ^ 8 := by
    rw [BitVec.toNat_and, BitVec.toNat_ofInt, h1, Nat.and_two_pow_sub_one_eq_mod]
  show IntKind.i64.wrap ((BitVec.ofInt 64 n &&& BitVec.ofInt 64 255).toNat : Nat) = n % 256
  rw [key, IntKind.wrap_i64]
  omega

theorem row_set {w : World} {g j : Nat} {cs : Array Value} {e : TypeId} (h : w.heap[g]? = some (.cells cs e (0, 0))) (u : Value) :
    (w.setCell ⟨g, j, none⟩ u).heap[g]? = some (.cells (cs.setIfInBounds j u) e (0, 0)) ∧ w.grownBy (w.setCell ⟨g, j, none⟩ u) (some g) :=
  ⟨heap_setCell_same w g j cs e u h, ⟨rfl, rfl, rfl, by simp, fun k _ hk => heap_setCell_other w ⟨g, j, none⟩ k u (fun e => hk (by simp [e]))⟩⟩

theorem emod_byte (x : Int) : 0 ≤ x % 256 ∧ x % 256 ≤ 255 := by omega

theorem grown_drewN {w w' : World} {r : Option Nat} (h : w.grownBy w' r) (d : Nat) : w.grownBy (w'.drewN d) r := ⟨h.os, h.tape, h.output, h.size, h.block⟩

theorem cur_step1 {w : World} {g n : Nat} {sv : Value} {i h : Int} (hg : w.heap[g]? = some (.cells #[sv, .int .i64 i, .int .i64 h] 76 (0, 0))) (h0 : 0 ≤ i) (h1 : i ≤ n) {h' : Int} (j k : Nat) :
    Cur (((w.setCell ⟨g, 2, none⟩ (.int .i64 h')).drewN j).drewN k) g sv n := ⟨i, h', h0, h1, (row_set (j := 2) hg _).1⟩

theorem cur_grown1 {w : World} {g : Nat} {cs : Array Value} {e : TypeId} (hg : w.heap[g]? = some (.cells cs e (0, 0))) {u : Value} (j k : Nat) :
    w.grownBy (((w.setCell ⟨g, 2, none⟩ u).drewN j).drewN k) (some g) := grown_drewN (grown_drewN (row_set (j := 2) hg u).2 j) k

theorem cur_step2 {w : World} {g n : Nat} {sv : Value} {i h : Int} (hg : w.heap[g]? = some (.cells #[sv, .int .i64 i, .int .i64 h] 76 (0, 0))) (h0 : 0 ≤ i) (h1 : i + 1 ≤ n) (h' : Int) (k : Nat) (i' : Int) (hi' : i' = i + 1) :
    Cur (((w.setCell ⟨g, 2, none⟩ (.int .i64 h')).drewN k).setCell ⟨g, 1, none⟩ (.int .i64 i')) g sv n := by
  subst hi'
  exact ⟨i + 1, h', by omega, h1, (row_set (w := (w.setCell ⟨g, 2, none⟩ (.int .i64 h')).drewN k) (j := 1) (row_set (j := 2) hg (.int .i64 h')).1 (.int .i64 (i + 1))).1⟩

theorem cur_grown2 {w : World} {g : Nat} {cs : Array Value} {e : TypeId} (hg : w.heap[g]? = some (.cells cs e (0, 0))) (u : Value) (k : Nat) (v : Value) :
    w.grownBy (((w.setCell ⟨g, 2, none⟩ u).drewN k).setCell ⟨g, 1, none⟩ v) (some g) :=
  grown_trans (grown_drewN (row_set (j := 2) hg u).2 k) (row_set (w := (w.setCell ⟨g, 2, none⟩ u).drewN k) (j := 1) (row_set (j := 2) hg u).1 v).2

set_option maxHeartbeats 800000 in
theorem l1Byte_any (g n cap B : Nat) (a : Option Addr) (zs : List Int) (w : World) (hx : zs.length = n) (hlen : n ≤ 140737488351232) (hr : Rd .u8 B w a zs) (hBg : B ≤ g) (hc : Cur w g (.slice a n cap) n) :
    Calls Try.prog 65 #[.pointer (some ⟨g, 0, none⟩)] w fun e w' => ∃ x : Int, e = .returned (.int .i64 x) ∧ (0 ≤ x ∧ x ≤ 255) ∧ Cur w' g (.slice a n cap) n ∧ w.grownBy w' (some g) := by
  obtain ⟨i, h, hi0, hin, hg⟩ := hc
  have HX : Hid (zs.length = n) := hx
  clear hx
  have c0 : w.cell? ⟨g, 0, none⟩ = some (.slice a n cap) := cell_of_row w g 0 _ _ _ hg
  have c1 : w.cell? ⟨g, 1, none⟩ = some (.int .i64 i) := cell_of_row w g 1 _ _ _ hg
  have c2 : w.cell? ⟨g, 2, none⟩ = some (.int .i64 h) := cell_of_row w g 2 _ _ _ hg
  have f1 : w.frozen? ⟨g, 1, none⟩ = false := frozen_of_row w g 1 _ _ hg
  have f2 : w.frozen? ⟨g, 2, none⟩ = false := frozen_of_row w g 2 _ _ hg
  by_cases hlt : i < n
  · obtain ⟨i, rfl⟩ := Int.eq_ofNat_of_zero_le hi0
    obtain ⟨b1, o1, rfl, hB, hcc⟩ := hr i (by rw [HX.out]; omega)
    have hne : b1 ≠ g := by omega
    have hand := and255_i64
    generalize zs.getD i 0 = c at hcc
    go_enter Try.func65, Try.ntmps65
    go_wp2
    go_quiet (fail)
    go_wp2
    go_quiet (fail)
    go_wp2
    go_quiet (fail)
    go_wp2
    go_ret
    exact ⟨_, rfl, emod_byte _, cur_step2 hg hi0 (by omega) _ _ _ rfl, (cur_grown2 hg _ _ _)⟩
  · have hand := and255_i64
    go_enter Try.func65, Try.ntmps65
    go_wp2
    go_quiet (fail)
    go_wp2
    go_quiet (fail)
    go_wp2
    go_ret
    exact ⟨_, rfl, emod_byte _, cur_step1 hg hi0 hin _ _, cur_grown1 hg _ _⟩


/-- A cursor at block g over bytes that lie below it. -/
def CurOk (w : World) (g : Nat) : Prop :=
  ∃ a n cap B, ∃ zs : List Int, zs.length = n ∧ n ≤ 140737488351232 ∧ B ≤ g ∧ Rd .u8 B w a zs ∧ Cur w g (.slice a n cap) n ∧ g < w.heap.size

theorem CurOk.lt {w : World} {g : Nat} (h : CurOk w g) : g < w.heap.size := by obtain ⟨_, _, _, _, _, _, _, _, _, _, h⟩ := h; exact h

theorem CurOk.grown {w w' : World} {g : Nat} {r : Option Nat} (h : CurOk w g) (hg : w.grownBy w' r) (hr : ∀ k, r = some k → g < k) : CurOk w' g := by
  obtain ⟨a, n, cap, B, zs, h1, h2, h3, h4, ⟨i, q, h5, h6, h7⟩, h8⟩ := h
  refine ⟨a, n, cap, B, zs, h1, h2, h3, h4.grown hg (fun k hk => by have := hr k hk; omega), ⟨i, q, h5, h6, ?_⟩, Nat.lt_of_lt_of_le h8 hg.size⟩
  rw [hg.block g h8 (fun e => by have := hr g e.symm; omega)]
  exact h7

theorem CurOk.below {w w' : World} {g : Nat} (h : CurOk w g) (hb : Below w.heap.size w w') : CurOk w' g := by
  obtain ⟨a, n, cap, B, zs, h1, h2, h3, h4, ⟨i, q, h5, h6, h7⟩, h8⟩ := h
  refine ⟨a, n, cap, B, zs, h1, h2, h3, h4.below (hb.mono (by omega)), ⟨i, q, h5, h6, ?_⟩, Nat.lt_of_lt_of_le h8 hb.size⟩
  rw [hb.block g h8]
  exact h7

theorem CurOk.drewN {w : World} {g : Nat} (h : CurOk w g) (d : Nat) : CurOk (w.drewN d) g := h

theorem l1Byte_ok {g : Nat} {w : World} (hc : CurOk w g) :
    Calls Try.prog 65 #[.pointer (some ⟨g, 0, none⟩)] w fun e w' => ∃ x : Int, e = .returned (.int .i64 x) ∧ (0 ≤ x ∧ x ≤ 255) ∧ CurOk w' g ∧ w.grownBy w' (some g) := by
  obtain ⟨a, n, cap, B, zs, h1, h2, h3, h4, h5, h8⟩ := hc
  refine (l1Byte_any g n cap B a zs w h1 h2 h4 h3 h5).mono ?_
  rintro e w' ⟨x, rfl, hx, hcur, hg⟩
  exact ⟨x, rfl, hx, ⟨a, n, cap, B, zs, h1, h2, h3, h4.grown hg (fun k hk => by simp at hk; omega), hcur, Nat.lt_of_lt_of_le h8 hg.size⟩, hg⟩

theorem emod_le {a b : Int} (ha : 0 ≤ a) (hb : 0 < b) : a % b ≤ a := by
  have h1 := Int.emod_add_mul_ediv a b
  have h2 := Int.mul_nonneg (show 0 ≤ b by omega) (Int.ediv_nonneg ha (show 0 ≤ b by omega))
  omega

set_option maxHeartbeats 400000 in
theorem l1Below_ok {g : Nat} {w : World} (q : Int) (hc : CurOk w g) :
    Calls Try.prog 47 #[.pointer (some ⟨g, 0, none⟩), .int .i64 q] w fun e w' => ∃ x : Int, e = .returned (.int .i64 x) ∧ (0 ≤ x ∧ x < 16777216 ∧ (0 < q → x < q) ∧ (q ≤ 0 → x = 0)) ∧ CurOk w' g ∧ w.grownBy w' (some g) := by
  by_cases h0 : q ≤ 0
  · go_enter Try.func47, Try.ntmps47
    go_wp2_with fail
    go_ret
    exact ⟨0, rfl, by omega, hc, World.grownBy.refl _ _⟩
  · by_cases h1 : q ≤ 256
    · go_enter Try.func47, Try.ntmps47
      go_wp2_with fail
      refine (l1Byte_ok hc).mono ?_
      rintro e w1 ⟨x, rfl, hx, hc1, hg1⟩
      have hq0 : (q == 0) = false := by simp; omega
      have hm := Int.emod_lt_of_pos x (show 0 < q by omega)
      have hm0 := Int.emod_nonneg x (show q ≠ 0 by omega)
      go_wp2_with fail
      go_ret
      exact ⟨_, rfl, by omega, hc1, hg1⟩
    · go_enter Try.func47, Try.ntmps47
      go_wp2_with fail
      refine (l1Byte_ok hc).mono ?_
      rintro e w1 ⟨x, rfl, hx, hc1, hg1⟩
      go_wp2_with fail
      refine (l1Byte_ok hc1).mono ?_
      rintro e w2 ⟨y, rfl, hy, hc2, hg2⟩
      go_wp2_with fail
      refine (l1Byte_ok hc2).mono ?_
      rintro e w3 ⟨z, rfl, hz, hc3, hg3⟩
      have hq0 : (q == 0) = false := by simp; omega
      have hm := Int.emod_lt_of_pos (x * 65536 + y * 256 + z) (show 0 < q by omega)
      have hm0 := Int.emod_nonneg (x * 65536 + y * 256 + z) (show q ≠ 0 by omega)
      have hm1 := emod_le (a := x * 65536 + y * 256 + z) (b := q) (by omega) (by omega)
      go_wp2_with fail
      go_ret
      exact ⟨_, rfl, by omega, hc3, grown_trans hg1 (grown_trans hg2 hg3)⟩


set_option maxHeartbeats 400000 in
theorem l1Int_ok {g : Nat} {w : World} (la : Option Addr) (m cap : Nat) (ns : List Int) (hc : CurOk w g) (hm : ns.length = m) (h0 : 0 < m) (hm2 : m ≤ 1000000) (B : Nat) (hr : Rd .i64 B w la ns) (hne : ∀ b o, la = some ⟨b, o, none⟩ → b ≠ g) :
    Calls Try.prog 55 #[.pointer (some ⟨g, 0, none⟩), .slice la m cap] w fun e w' => ∃ j : Nat, (j < m ∧ e = .returned (.int .i64 (ns.getD j 0))) ∧ CurOk w' g ∧ w.grownBy w' (some g) := by
  have HM : Hid (ns.length = m) := hm
  clear hm
  go_enter Try.func55, Try.ntmps55
  go_wp2_with fail
  refine (l1Below_ok _ hc).mono ?_
  rintro e w1 ⟨x, rfl, hx, hc1, hg1⟩
  obtain ⟨x, rfl⟩ := Int.eq_ofNat_of_zero_le hx.1
  have hxm : x < m := by omega
  obtain ⟨b1, o1, rfl, hB, hcell⟩ := hr x (by rw [HM.out]; exact hxm)
  have hcell1 : w1.cell? ⟨b1, o1 + x, none⟩ = some (.int .i64 (ns.getD x 0)) := hg1.cell hcell (by have := hne b1 o1 rfl; simpa using this)
  generalize hv : ns.getD x 0 = v at hcell1
  have HV := Hid.mk hv
  clear hv hcell hr hne hx
  go_wp2_with fail
  go_ret
  exact ⟨x, ⟨hxm, by rw [HV.out]; rfl⟩, hc1, hg1⟩

/-- Bytes that a draw made. -/
def Drawn (w w' : World) (v : Value) (g : Nat) (most : Nat) : Prop :=
  ∃ bs : List Int, bs.length ≤ most ∧ BytesOk bs ∧ w'.ownsRow w.heap.size 5 1 v bs.length (bs.map (Value.int .u8)) ∧ CurOk w' g ∧ w.grownBy w' (some g)

theorem own_not {w : World} {base e size n g : Nat} {v : Value} {xs : List Value} (h : w.ownsRow base e size v n xs) (hg : g < base) : v.ownBlock = none ∨ v.ownBlock ≠ some g := by
  cases e1 : v.ownBlock with
  | none => exact .inl rfl
  | some k =>
    right
    have := (h.lt k e1).1
    intro e2
    simp only [Option.some.injEq] at e2
    omega

set_option maxHeartbeats 400000 in
theorem l1Bytes_ok {g : Nat} {w : World} (q : Nat) (hc : CurOk w g) (hq : q ≤ 1000000) :
    Calls Try.prog 54 #[.pointer (some ⟨g, 0, none⟩), .int .i64 q] w fun e w' => ∃ v, e = .returned v ∧ Drawn w w' v g q := by
  obtain ⟨i0, hi, hz0, hz1, hz2⟩ := info_parts Try.info5
  have hgl := hc.lt
  have hc0 : CurOk (w.alloc (.cells #[] 5)) g := hc.below ((Below.refl _ _).alloc (Nat.le_refl _) _)
  have hg0 : w.grownBy (w.alloc (.cells #[] 5)) (some g) := World.grownBy_alloc w _ _
  have ho0 : (w.alloc (.cells #[] 5)).ownsRow w.heap.size 5 1 (.slice (some ⟨w.heap.size, 0, none⟩) 0 0) 0 [] := World.ownsRow_lit w #[] 0 (Nat.le_refl _) (by decide) rfl
  go_enter Try.func54, Try.ntmps54
  go_wp2_with fail
  go_loopw [5, 6] (fun o i wr => ∃ k : Nat, k ≤ q ∧ i = .int .i64 k ∧ ∃ bs : List Int, bs.length = k ∧ BytesOk bs ∧ wr.ownsRow w.heap.size 5 1 o k (bs.map (Value.int .u8)) ∧ CurOk wr g ∧ w.grownBy wr (some g)) (fun _ i _ => q - (intOf i).toNat)
  case atStart => exact ⟨0, Nat.zero_le _, rfl, [], rfl, fun z hz => (by cases hz), ho0, hc0, hg0⟩
  case round =>
    obtain ⟨k, hk, rfl, bs, hbl, hbo, hown, hck, hgk⟩ := hrel
    have HBL := Hid.mk hbl
    clear hbl hc0 hg0 ho0 hc
    by_cases hlt : k < q
    · go_wp2_with fail
      refine (l1Byte_ok hck).mono ?_
      rintro e w1 ⟨x, rfl, hx, hc1, hg1⟩
      have hown1 := hown.kept hg1 (own_not hown hgl)
      have hgk1 := grown_trans hgk hg1
      clear hown hck hgk hg1
      go_wp2_with (at_builtin; refine wpList_append_src _ rfl _ _ 22 22 rfl w.heap.size 5 i0 (.int .u8 0) 1 1 Try.underlying22 hi hz0 hz1 hz2 rfl _ _ _ rfl (hown1.alloc _) 1 [.int .u8 x] (Src.ofSlice _ Try.underlying22 ⟨_, 0, none⟩ 1 1 _ rfl (cell_one_new _ _ _) (oneInt _ _)) (by unfold maxLen; omega) (by omega) (by have := hgk1.size; simp; omega) ?_)
      intro v2 w2 hown2 hgr2
      have hc2 : CurOk w2 g := (hc1.below ((Below.refl _ _).alloc (Nat.le_refl _) _)).grown hgr2 (fun j hj => by have := (hown1.lt j hj).1; omega)
      have hg2 : w.grownBy w2 (some g) := (World.grownBy.andThen (World.grownBy.andThen hgk1 (World.grownBy_alloc w1 _ none) (fun j hj => by cases hj)) hgr2 (fun j hj => Or.inl (hown1.lt j hj).1))
      clear hgr2 hgk1 hown1 hc1
      go_wp2_with fail
      go_roundw
      case rel =>
        refine ⟨k + 1, by omega, by go_num, bs ++ [x], by simp [HBL.out], ?_, own_congr hown2 rfl (by simp), hc2, hg2⟩
        intro z hz
        rcases List.mem_append.1 hz with h | h
        · exact hbo z h
        · simp at h; omega
      case measure => simp [intOf]; omega
    · have hkq : k = q := by omega
      subst hkq
      go_wp2_with fail
      go_ret
      exact ⟨_, rfl, bs, by rw [HBL.out]; exact Nat.le_refl _, hbo, own_congr hown HBL.out.symm rfl, hck, hgk⟩


set_option maxRecDepth 100000 in
set_option maxHeartbeats 400000 in
theorem l1New_any (a : Option Addr) (n cap : Nat) (zs : List Int) (w : World) (hx : zs.length = n) (hlen : n ≤ 140737488351232) (hr : Rd .u8 w.heap.size w a zs) :
    Calls Try.prog 23 #[.slice a n cap] w fun e w' => e = .returned (.pointer (some ⟨w.heap.size, 0, none⟩)) ∧ CurOk w' w.heap.size ∧ Below w.heap.size w w' := by
  have HX : Hid (zs.length = n) := hx
  clear hx
  go_enter Try.func23, Try.ntmps23
  go_wp2
  go_loop [3, 4] (fun h i => ∃ (k : Nat) (H : Int), k ≤ n ∧ i = .int .i64 k ∧ h = .int .i64 H) (fun _ i => n - (intOf i).toNat)
  case atStart => exact ⟨0, _, Nat.zero_le _, rfl, rfl⟩
  case round =>
    obtain ⟨k, H, hk, rfl, rfl⟩ := hrel
    have fin : ∀ H : Int, CurOk (w.alloc (.cells #[.slice a n cap, .int .i64 0, .int .i64 H] 76)) w.heap.size := fun H =>
      ⟨a, n, cap, w.heap.size, zs, HX.out, hlen, Nat.le_refl _, hr.below ((Below.refl _ _).alloc (Nat.le_refl _) _), ⟨0, H, by omega, by omega, heap_alloc_new w _⟩, by simp⟩
    by_cases hlt : k < n
    · by_cases h4 : k < 4000
      · obtain ⟨b1, o1, rfl, _, hc1⟩ := hr k (by rw [HX.out]; exact hlt)
        generalize zs.getD k 0 = c at hc1
        clear fin hr
        go_wp2
        go_round
        case rel => exact ⟨k + 1, _, by omega, by go_num, rfl⟩
        case measure => simp [intOf]; omega
      · go_wp2
        go_ret
        exact ⟨rfl, fin _, (Below.refl _ _).alloc (Nat.le_refl _) _⟩
    · go_wp2
      go_ret
      exact ⟨rfl, fin _, (Below.refl _ _).alloc (Nat.le_refl _) _⟩


theorem some_list (j : Nat) (h : j < 5) : ∃ q : Nat, ([0, 1, 2, 5, 9] : List Int).getD j 0 = (q : Int) ∧ q ≤ 9 := by
  rcases (show j = 0 ∨ j = 1 ∨ j = 2 ∨ j = 3 ∨ j = 4 from by omega) with rfl | rfl | rfl | rfl | rfl
  · exact ⟨0, rfl, by omega⟩
  · exact ⟨1, rfl, by omega⟩
  · exact ⟨2, rfl, by omega⟩
  · exact ⟨5, rfl, by omega⟩
  · exact ⟨9, rfl, by omega⟩

/-- Numbers laid in a new block. -/
theorem rd_lit (k : IntKind) (w : World) (xs : List Int) (t : TypeId) : Rd k (w.heap.size + 1) (w.alloc (.cells (xs.map (Value.int k)).toArray t)) (some ⟨w.heap.size, 0, none⟩) xs := by
  intro j hj
  refine ⟨w.heap.size, 0, rfl, by omega, ?_⟩
  rw [Nat.zero_add, World.cell?_alloc_mark]
  simp [hj]

set_option maxHeartbeats 400000 in
theorem l1Some_ok {g : Nat} {w : World} (hc : CurOk w g) :
    Calls Try.prog 26 #[.pointer (some ⟨g, 0, none⟩)] w fun e w' => ∃ v, e = .returned v ∧ Drawn w w' v g 9 := by
  have hgl := hc.lt
  have hc0 : CurOk (w.alloc (.cells (([0, 1, 2, 5, 9] : List Int).map (Value.int .i64)).toArray 3)) g := hc.below ((Below.refl _ _).alloc (Nat.le_refl _) _)
  have hg0 : w.grownBy (w.alloc (.cells (([0, 1, 2, 5, 9] : List Int).map (Value.int .i64)).toArray 3)) (some g) := World.grownBy_alloc w _ _
  have hrd := rd_lit .i64 w [0, 1, 2, 5, 9] 3
  go_enter Try.func26, Try.ntmps26
  go_wp2_with fail
  refine (l1Int_ok _ 5 5 [0, 1, 2, 5, 9] (by exact hc0) rfl (by omega) (by omega) _ (by exact hrd) (by intro b o h; simp at h; omega)).mono ?_
  rintro e w1 ⟨j, ⟨hj, rfl⟩, hc1, hg1⟩
  obtain ⟨q, hq, hq9⟩ := some_list j hj
  rw [hq]
  have hg01 := grown_trans hg0 hg1
  clear hq hc0 hg0 hg1 hrd
  go_wp2_with fail
  refine (l1Bytes_ok q hc1 (by omega)).mono ?_
  rintro e w2 ⟨v, rfl, bs, hbl, hbo, hown, hc2, hg2⟩
  have hfin : Drawn w w2 v g 9 := ⟨bs, by omega, hbo, own_base hown hg01.size, hc2, grown_trans hg01 hg2⟩
  clear hown hc2 hg2 hg01 hc1
  go_wp2_with fail
  go_ret
  exact ⟨v, rfl, hfin⟩


theorem Bx.grown {w w' : World} {b : Nat} {vs : List Value} {r : Option Nat} (h : Bx w b vs) (hg : w.grownBy w' r) (hr : r ≠ some b) : Bx w' b vs :=
  ⟨Nat.lt_of_lt_of_le h.1 hg.size, fun i u hu => (World.cell?_of_block (w := w) (hg.block b h.1 (fun e => hr e.symm))).trans (h.2 i u hu)⟩

set_option maxHeartbeats 400000 in
theorem l1Str_ok {g : Nat} {w : World} (b n : Nat) (ss : List ByteArray) (hc : CurOk w g) (hb : Bx w b (ss.map Value.string)) (hne : b ≠ g) (hn : ss.length = n) (h0 : 0 < n) (h1 : n ≤ 1000000) :
    Calls Try.prog 63 #[.pointer (some ⟨g, 0, none⟩), .slice (some ⟨b, 0, none⟩) n n] w fun e w' => ∃ s, (s ∈ ss ∧ e = .returned (.string s)) ∧ CurOk w' g ∧ w.grownBy w' (some g) := by
  have HN := Hid.mk hn
  clear hn
  go_enter Try.func63, Try.ntmps63
  go_wp2_with fail
  refine (l1Below_ok _ hc).mono ?_
  rintro e w1 ⟨x, rfl, hx, hc1, hg1⟩
  obtain ⟨x, rfl⟩ := Int.eq_ofNat_of_zero_le hx.1
  have hxm : x < n := by omega
  have hxs : x < ss.length := by rw [HN.out]; exact hxm
  have hcell := (hb.grown hg1 (fun e => hne (Option.some.inj e).symm)).2 x (.string ss[x]) (by simp [hxs])
  have HM := Hid.mk (List.getElem_mem hxs)
  generalize ss[x] = s at *
  clear hx
  go_wp2_with fail
  go_ret
  exact ⟨s, ⟨HM.out, rfl⟩, hc1, hg1⟩

def namesL : List ByteArray := [⟨#[97]⟩, ⟨#[98]⟩, ⟨#[108, 111, 103, 45, 49]⟩, ⟨#[99, 117, 114]⟩, ⟨#[116, 109, 112]⟩, ⟨#[120, 46, 57]⟩]
theorem namesL_short : ∀ s, s ∈ namesL → s.size ≤ 20 := by decide
set_option maxHeartbeats 400000 in
theorem l2DrawName_ok {g : Nat} {w : World} (hc : CurOk w g) :
    Calls Try.prog 48 #[.pointer (some ⟨g, 0, none⟩)] w fun e w' => ∃ s : ByteArray, (e = .returned (.string s) ∧ s ∈ namesL) ∧ CurOk w' g ∧ w.grownBy w' (some g) := by
  have hgl := hc.lt
  go_enter Try.func48, Try.ntmps48
  go_wp2_with fail
  refine (l1Str_ok w.heap.size 6 namesL (hc.below ((Below.refl _ _).alloc (Nat.le_refl _) _)) (Bx.new w (namesL.map Value.string) 9) (by omega) rfl (by omega) (by omega)).mono ?_
  rintro e w1 ⟨s, ⟨hs, rfl⟩, hc1, hg1⟩
  have HS := Hid.mk hs
  clear hs
  go_wp2_with fail
  go_ret
  exact ⟨s, ⟨rfl, HS.out⟩, hc1, grown_trans (World.grownBy_alloc w _ _) hg1⟩


/-- A block that is a disk's box: three slices and a number. -/
def DBox (w : World) (b : Nat) : Prop := ∃ (t : TypeId) (a0 a1 a2 : Option Addr) (n0 c0 n1 c1 n2 c2 : Nat) (z : Int), Bw w b t [.slice a0 n0 c0, .slice a1 n1 c1, .slice a2 n2 c2, .int .i64 z]
theorem DBox.at {w : World} {b : Nat} (h : DBox w b) (k : Nat) : (∃ a n c, w.cell? ⟨b, k, none⟩ = some (.slice a n c)) ∨ (k = 3 ∧ ∃ z, w.cell? ⟨b, k, none⟩ = some (.int .i64 z)) ∨ (4 ≤ k ∧ w.cell? ⟨b, k, none⟩ = none) := by
  obtain ⟨t, a0, a1, a2, n0, c0, n1, c1, n2, c2, z, hb⟩ := h
  have hc := cell_of_row w b k _ t (0, 0) hb
  rw [hc]
  match k with
  | 0 => exact .inl ⟨_, _, _, rfl⟩
  | 1 => exact .inl ⟨_, _, _, rfl⟩
  | 2 => exact .inl ⟨_, _, _, rfl⟩
  | 3 => exact .inr (.inl ⟨rfl, _, rfl⟩)
  | k + 4 => exact .inr (.inr ⟨by omega, rfl⟩)
section
variable {B : Nat} {w w' : World} {b : Nat}
theorem turn_cell (h : Turn [b] w w') {g k : Nat} (hg : g ≠ b) {u : Value} (hu : w.cell? ⟨g, k, none⟩ = some u) : w'.cell? ⟨g, k, none⟩ = some u := by
  have hlt : g < w.heap.size := World.block_lt_of_cell? _ _ hu
  have hs := h.block g hlt (by simpa using hg)
  have : w'.cell? ⟨g, k, none⟩ = w.cell? ⟨g, k, none⟩ := by simp [World.cell?, hs]
  rw [this, hu]
theorem leafB_turn (hx : DBox w b) (h : Turn [b] w w') {a : Option Addr} {c : Nat} {zs : List Int} (hl : LeafB B w a c zs) : LeafB B w' a c zs := by
  refine ⟨hl.1, hl.2.1, fun j hj => ?_, hl.2.2.2⟩
  obtain ⟨g, off, e, hB, hc⟩ := hl.2.2.1 j hj
  refine ⟨g, off, e, hB, turn_cell h ?_ hc⟩
  rintro rfl
  rcases hx.at (off + j) with ⟨_, _, _, h1⟩ | ⟨_, z, h1⟩ | ⟨_, h1⟩ <;> rw [hc] at h1 <;> cases h1
theorem leafE_turn (hx : DBox w b) (h : Turn [b] w w') {a : Option Addr} {c : Nat} {l : List MEntry} (hl : LeafL 2 rEntry B w a c l) : LeafL 2 rEntry B w' a c l := by
  refine ⟨hl.1, hl.2.1, fun j hj => ?_⟩
  obtain ⟨g, off, e, hB, cs, h1, h2, h3⟩ := hl.2.2 j hj
  have h3' := h3
  obtain ⟨rfl, _⟩ := h3
  have hne : g ≠ b := by
    rintro rfl
    have h4 := h2 0 _ rfl
    rcases hx.at (off + j * 2 + 0) with ⟨_, _, _, h5⟩ | ⟨_, z, h5⟩ | ⟨_, h5⟩ <;> rw [h4] at h5 <;> cases h5
  exact ⟨g, off, e, hB, _, h1, fun i u hu => turn_cell h hne (h2 i u hu), h3'⟩
theorem leafI_turn (hx : DBox w b) (h : Turn [b] w w') {a : Option Addr} {c : Nat} {l : List MInode} (hl : LeafL 3 rInode B w a c l) : LeafL 3 rInode B w' a c l := by
  refine ⟨hl.1, hl.2.1, fun j hj => ?_⟩
  obtain ⟨g, off, e, hB, cs, h1, h2, a1, c1, rfl, h3, h4, h5, _⟩ := hl.2.2 j hj
  have hne : g ≠ b := by
    rintro rfl
    have h6 := h2 0 _ rfl
    have h7 := h2 1 _ rfl
    rcases hx.at (off + j * 3 + 0) with ⟨_, _, _, h8⟩ | ⟨hk, z, h8⟩ | ⟨_, h8⟩
    · rw [h6] at h8; cases h8
    · rcases hx.at (off + j * 3 + 1) with ⟨_, _, _, h9⟩ | ⟨hk2, z, h9⟩ | ⟨_, h9⟩
      · have hk3 : off + j * 3 + 1 = 4 := by omega
        have := hx.at 4
        rw [hk3] at h9
        rcases this with ⟨_, _, _, h10⟩ | ⟨h10, _⟩ | ⟨_, h10⟩
        · obtain ⟨t, b0, b1, b2, n0, c0, n1, c1', n2, c2, z2, hb⟩ := hx
          have hc := cell_of_row w g 4 _ t (0, 0) hb
          rw [hc] at h10
          cases h10
        · omega
        · rw [h10] at h9; cases h9
      · omega
      · rw [h7] at h9; cases h9
    · rw [h6] at h8; cases h8
  exact ⟨g, off, e, hB, _, h1, fun i u hu => turn_cell h hne (h2 i u hu), a1, c1, rfl, h3, leafB_turn hx h h4, h5, trivial⟩
/-- A disk that is read stands where a disk's box is written. -/
theorem rDisk_turn {cs : List Value} {m : MDisk} (hx : DBox w b) (h : Turn [b] w w') (hr : rDisk B w cs m) : rDisk B w' cs m := by
  obtain ⟨a0, c0, a1, c1, a2, c2, rfl, h0, h1, h2, h3, _⟩ := hr
  exact ⟨a0, c0, a1, c1, a2, c2, rfl, leafI_turn hx h h0, leafE_turn hx h h1, leafE_turn hx h h2, h3, trivial⟩
end
theorem Bw.dbox {w : World} {b : Nat} {t : TypeId} {cs : List Value} {B : Nat} {W : World} {m : MDisk} (h : Bw w b t cs) (hr : rDisk B W cs m) : DBox w b := by
  obtain ⟨a0, c0, a1, c1, a2, c2, rfl, _⟩ := hr
  exact ⟨t, a0, a1, a2, _, _, _, _, _, _, _, h⟩
theorem Bw.dzero {w : World} {b : Nat} {t : TypeId} (h : Bw w b t [.slice none 0 0, .slice none 0 0, .slice none 0 0, .int .i64 0]) : DBox w b := ⟨t, _, _, _, _, _, _, _, _, _, _, h⟩

end Go.Proofs.Ytmbobjhplkpfoaa

namespace Go.Proofs.Ytmbobjhplkpfoaa
open Go.RowKit

theorem Bw.put4 {w : World} {b : Nat} {t : TypeId} {vs : List Value} (h : Bw w b t vs) (hl : vs.length = 4) (x0 x1 x2 x3 : Value) : Bw ((((w.setCell ⟨b, 0, none⟩ x0).setCell ⟨b, 1, none⟩ x1).setCell ⟨b, 2, none⟩ x2).setCell ⟨b, 3, none⟩ x3) b t [x0, x1, x2, x3] := by
  have h4 := (((h.put 0 x0).put 1 x1).put 2 x2).put 3 x3
  obtain ⟨y0, y1, y2, y3, rfl⟩ : ∃ y0 y1 y2 y3, vs = [y0, y1, y2, y3] := by
    match vs, hl with
    | [y0, y1, y2, y3], _ => exact ⟨y0, y1, y2, y3, rfl⟩
  exact h4
/-- The disk in its box, and the box for the answer. -/
def SpW (w : World) (W : World) (cs : List Value) (d : MDisk) : Prop :=
  Bw W (w.heap.size + 1 + 1) 27 cs ∧ rDisk W.heap.size W cs d ∧ Bw W (w.heap.size + 1) 27 [.slice none 0 0, .slice none 0 0, .slice none 0 0, .int .i64 0] ∧ Below w.heap.size w W
theorem SpW.step {w W W' : World} {cs : List Value} {d d' : MDisk} {x0 x1 x2 x3 : Value} (h : SpW w W cs d) (hl : cs.length = 4) (hx : Below W.heap.size W W') (hr : rDisk W'.heap.size W' [x0, x1, x2, x3] d') :
    SpW w ((((W'.setCell ⟨w.heap.size + 1 + 1, 0, none⟩ x0).setCell ⟨w.heap.size + 1 + 1, 1, none⟩ x1).setCell ⟨w.heap.size + 1 + 1, 2, none⟩ x2).setCell ⟨w.heap.size + 1 + 1, 3, none⟩ x3) [x0, x1, x2, x3] d' := by
  obtain ⟨h1, h2, h3, h4⟩ := h
  have hT := turn4 W' (w.heap.size + 1 + 1) x0 x1 x2 x3
  have hb := bthen h4 hx
  have hz : ((((W'.setCell ⟨w.heap.size + 1 + 1, 0, none⟩ x0).setCell ⟨w.heap.size + 1 + 1, 1, none⟩ x1).setCell ⟨w.heap.size + 1 + 1, 2, none⟩ x2).setCell ⟨w.heap.size + 1 + 1, 3, none⟩ x3).heap.size = W'.heap.size := by simp
  refine ⟨(h1.under hx).put4 hl x0 x1 x2 x3, ?_, (h3.under hx).turn hT (by simp), hb.trans (hT.below (fun k hk => by simp at hk; omega) hb.size)⟩
  rw [hz]
  exact rDisk_turn ((h1.under hx).dbox h2) hT hr


def Fit (m : MDisk) : Prop := wDisk m ≤ 60840
theorem fit_ok {m : MDisk} (h : diskOk m = true) : Fit m := by
  have := ok_weight h
  unfold Fit
  rw [wDisk_eq]
  omega
theorem fit_remove {m : MDisk} {s : ByteArray} (h : Fit m) : Fit (removeP m s) := by
  unfold removeP
  split
  · rename_i hc
    exact fit_ok (remove_ok (call_good hc).1)
  · exact h
theorem fit_create {m : MDisk} {s : ByteArray} (h : Fit m) : Fit (createP m s) := by
  unfold createP
  split
  · rename_i hc
    exact fit_ok hc.2
  · exact h
theorem fit_append {m : MDisk} {s : ByteArray} {b : List Int} (h : Fit m) : Fit (appendP m s b) := by
  unfold appendP
  split
  · rename_i hc
    exact fit_ok hc.2
  · exact h
theorem fit_sync {m : MDisk} {s : ByteArray} (h : Fit m) : Fit (syncP m s) := by
  unfold syncP
  split
  · have h1 := sumW_updI (l := m.fInodes) (k := fileAt m s) (f := sureI) (c := 0) (fun n => Nat.le_refl _)
    have h2 := updI_length (l := m.fInodes) (k := fileAt m s) (f := sureI)
    unfold Fit at h ⊢
    rw [wDisk_eq] at h ⊢
    simp only
    omega
  · exact h
theorem fit_rename {m : MDisk} {s t : ByteArray} (h : Fit m) : Fit (renameP m s t) := by
  unfold renameP
  split
  · rename_i hc
    unfold renameC at hc
    split at hc
    · rename_i ht
      exact fit_ok (rename_ok hc ht)
    · cases hc
  · exact h
theorem fit_syncDir {m : MDisk} (h : Fit m) : Fit (syncDirP m) := by
  unfold syncDirP
  split
  · rename_i hc
    exact fit_ok (syncDir_ok hc)
  · exact h
theorem fit_fall {m : MDisk} {k : Int} (h : Fit m) : Fit (fallP m k) := by
  unfold fallP
  split
  · rename_i hc
    have hw := ok_weight hc.1
    have h1 := keepD_weight { m with fNames := m.fSafe }
    rw [wDisk_eq { m with fNames := m.fSafe }] at h1
    unfold keepD at h1
    rw [wDisk_eq] at h1
    unfold Fit
    rw [wDisk_eq]
    have h2 := sumW_map_le (f := cutI k) (fun n => by unfold cutI wInode; simp; omega) (keepI { m with fNames := m.fSafe })
    simp only [List.length_map] at h1 ⊢
    omega
  · exact h
theorem fit_new : Fit ⟨[], [], [], 1⟩ := by simp [Fit, wDisk, sumW]
theorem Fit.small {m : MDisk} (h : Fit m) : wDisk m ≤ 1048576 := by unfold Fit at h; omega

def dZ : List Value := [.slice none 0 0, .slice none 0 0, .slice none 0 0, .int .i64 0]
/-- The disk in its box, the answer's box, the cursor. -/
structure DSt (w : World) (g br bd : Nat) (W : World) (cs : List Value) (m : MDisk) : Prop where
  d : Bw W bd 27 cs
  r : Bw W br 27 dZ
  o : ∃ F, oDisk W cs m F ∧ ∀ b, b ∈ F → w.heap.size ≤ b ∧ b ≠ bd ∧ b ≠ br
  f : Fit m
  c : CurOk W g
  t : Turn [g] w W
/-- Where the boxes lie. -/
structure DPl (w : World) (g br bd : Nat) : Prop where
  g : g < w.heap.size
  r : w.heap.size ≤ br
  d : w.heap.size ≤ bd
  n : br ≠ bd
section
variable {w : World} {g br bd : Nat} {W W' : World} {cs : List Value} {m : MDisk}
theorem DSt.read (h : DSt w g br bd W cs m) : rDisk W.heap.size W cs m := by obtain ⟨F, ho, _⟩ := h.o; exact oDisk_good.read ho
theorem DSt.cur (hp : DPl w g br bd) (h : DSt w g br bd W cs m) (hg : W.grownBy W' (some g)) (hc : CurOk W' g) : DSt w g br bd W' cs m := by
  have ht : Turn [g] W W' := Turn.ofGrown hg (fun k hk => by simp at hk; simp [hk])
  have h1 := hp.g
  have h2 := hp.r
  have h3 := hp.d
  refine ⟨h.d.turn ht (by simp; omega), h.r.turn ht (by simp; omega), ?_, h.f, hc, h.t.trans ht⟩
  obtain ⟨F, ho, hF⟩ := h.o
  refine ⟨F, oDisk_good.frame ho (fun b hb => ht.block b (oDisk_good.lt ho b hb) (fun e => ?_)), hF⟩
  have := (hF b hb).1
  simp at e
  omega
theorem DSt.drew (h : DSt w g br bd W cs m) : DSt w g br bd W.drew cs m :=
  ⟨h.d, h.r, by obtain ⟨F, ho, hF⟩ := h.o; exact ⟨F, oDisk_good.frame ho (fun b hb => rfl), hF⟩, h.f, h.c.below (Below.drew (Below.refl _ _)), h.t.drew⟩
theorem DSt.put {m' : MDisk} {x0 x1 x2 x3 : Value} (hp : DPl w g br bd) (h : DSt w g br bd W cs m) (hl : cs.length = 4) (hx : Below W.heap.size W W') (ho : ∃ F, oDisk W' [x0, x1, x2, x3] m' F ∧ ∀ b, b ∈ F → W.heap.size ≤ b) (hf : Fit m') :
    DSt w g br bd ((((W'.setCell ⟨bd, 0, none⟩ x0).setCell ⟨bd, 1, none⟩ x1).setCell ⟨bd, 2, none⟩ x2).setCell ⟨bd, 3, none⟩ x3) [x0, x1, x2, x3] m' := by
  have h1 := hp.g
  have h2 := hp.r
  have h3 := hp.d
  have h4 := hp.n
  have hT := turn4 W' bd x0 x1 x2 x3
  obtain ⟨F, ho, hF⟩ := ho
  have ld := h.d.lt
  have lr := h.r.lt
  have hz := h.t.size
  refine ⟨(h.d.under hx).put4 hl x0 x1 x2 x3, (h.r.under hx).turn hT (by simp; omega), ⟨F, oDisk_good.frame ho (fun b hb => hT.block b (oDisk_good.lt ho b hb) (fun e => ?_)), fun b hb => ?_⟩, hf, ?_, ?_⟩
  · have := hF b hb
    simp at e
    omega
  · have := hF b hb
    omega
  · have hc := h.c.below hx
    obtain ⟨a, n, cap, B, zs, e1, e2, e3, e4, ⟨i, q, e5, e6, e7⟩, e8⟩ := hc
    refine ⟨a, n, cap, B, zs, e1, e2, e3, e4.below (hT.below (fun k hk => by simp at hk; omega) (by have := hx.size; omega)), ⟨i, q, e5, e6, ?_⟩, by simpa using e8⟩
    rw [hT.block g e8 (by simp; omega)]
    exact e7
  · exact (h.t.trans (Turn.ofBelow hx)).join hT (fun k hk => by simp at hk; right; omega)
theorem CurOk.turn {b : Nat} (h : CurOk W g) (hT : Turn [b] W W') (hb : g < b) : CurOk W' g := by
  obtain ⟨a, n, cap, B, zs, e1, e2, e3, e4, ⟨i, q, e5, e6, e7⟩, e8⟩ := h
  refine ⟨a, n, cap, B, zs, e1, e2, e3, e4.below (hT.below (fun k hk => by simp at hk; omega) (by omega)), ⟨i, q, e5, e6, ?_⟩, Nat.lt_of_lt_of_le e8 hT.size⟩
  rw [hT.block g e8 (by simp; omega)]
  exact e7
theorem DSt.leave (hp : DPl w g br bd) (h : DSt w g br bd W cs m) (hT : Turn [br] W W') : (∃ F, oDisk W' cs m F ∧ ∀ b, b ∈ F → w.heap.size ≤ b) ∧ Fit m ∧ CurOk W' g ∧ Turn [g] w W' := by
  have h1 := hp.g
  have h2 := hp.r
  obtain ⟨F, ho, hF⟩ := h.o
  refine ⟨⟨F, oDisk_good.frame ho (fun b hb => hT.block b (oDisk_good.lt ho b hb) (fun e => ?_)), fun b hb => (hF b hb).1⟩, h.f, h.c.turn hT (by omega), h.t.join hT (fun k hk => by simp at hk; right; omega)⟩
  have := (hF b hb).2.2
  simp at e
  exact this e
end

end Go.Proofs.Ytmbobjhplkpfoaa
