/-
  Part 9 of the texts that the proof leans on.
-/
import Derived.Test.YtcamcgfbljhbhaaGreatDoorMan1
import Derived.Test.YtcamcgfbljhbhaaGreatDoorMan0
import Derived.Laws.BitsLemmas
import Derived.Maps.Range
import Derived.Deep.RegionWith
import Derived.Laws.BytesArg
import Derived.Test.YtcamcgfbljhbhaaGreatDoorMan2
set_option linter.unusedVariables false
set_option linter.unusedSimpArgs false
set_option maxRecDepth 10000
set_option maxHeartbeats 20000000

namespace Go.Proofs.YtcamcgfbljhbhaaGreatDoor
open Go.RowKit
theorem pJ {m : az} (h : bc m = true) : aZ m <= 1048576 := by
 have := eB h; rw [cR]; omega
theorem lS {m : az} {s : ByteArray} (h : aZ m <= 1048576) : aZ (bA m s) <= 1048576 := by
 unfold bA
 split
 ·rename_i hc
  exact pJ (uj (cW hc).1)
 ·exact h
theorem gR {m : az} {s : ByteArray} (h : aZ m <= 1048576) : aZ (aX m s) <= 1048576 := by
 unfold aX
 split
 ·rename_i hc
  exact pJ hc.2
 ·exact h
theorem iU {m : az} {s : ByteArray} {b : List Int} (h : aZ m <= 1048576) : aZ (bh m s b) <= 1048576 := by
 unfold bh
 split
 ·rename_i hc
  exact pJ hc.2
 ·exact h
theorem mi {m : az} {s : ByteArray} (h : aZ m <= 1048576) : aZ (dW m s) <= 1048576 := by
 unfold dW
 split
 ·have h1 := nU (l := m.aa) (k := fileAt m s) (f := jR) (c := 0) (fun n => rN)
  have h2 := jD (l := m.aa) (k := fileAt m s) (f := jR); rw [cR] at h ⊢; simp only; omega
 ·exact h
theorem oH {m : az} {s t : ByteArray} (h : aZ m <= 1048576) : aZ (bQ m s t) <= 1048576 := by
 unfold bQ
 split
 ·rename_i hc
  unfold cD at hc
  split at hc
  ·rename_i ht
   exact pJ (qD hc ht)
  ·cases hc
 ·exact h
theorem yO {m : az} (h : aZ m <= 1048576) : aZ (cC m) <= 1048576 := by
 unfold cC
 split
 ·rename_i hc
  exact pJ (oD hc)
 ·exact h
def qE (m : az) (t : ByteArray) (b : List Int) (s : ByteArray) : Nat -> az
 | 0 => m
 | 1 => aX m t
 | 2 => bh (aX m t) t b
 | 3 => dW (bh (aX m t) t b) t
 | 4 => bQ (dW (bh (aX m t) t b) t) t s
 | _ => cC (bQ (dW (bh (aX m t) t b) t) t s)
def u9 (m : az) (t : ByteArray) (b : List Int) (s : ByteArray) : Nat -> Int
 | 0 => cK m t
 | 1 => dD (aX m t) t b
 | 2 => aS (bh (aX m t) t b) t
 | 3 => cD (dW (bh (aX m t) t b) t) t s
 | _ => eL (bQ (dW (bh (aX m t) t b) t) t s)
theorem uk {m : az} {t : ByteArray} {b : List Int} {s : ByteArray} (h : aZ m <= 1048576) (k : Nat) : aZ (qE m t b s k) <= 1048576 := by
 match k with
 | 0 => exact h
 | 1 => exact gR h
 | 2 => exact iU (gR h)
 | 3 => exact mi (iU (gR h))
 | 4 => exact oH (mi (iU (gR h)))
 | _ + 5 => exact yO (oH (mi (iU (gR h))))
def rh (m : az) (t : ByteArray) (b : List Int) (s : ByteArray) : Nat -> Nat -> az × Int
 | 0, k => (qE m t b s k, 0)
 | f + 1, k => if u9 m t b s k = 0 then rh m t b s f (k + 1) else (qE m t b s (k + 1), u9 m t b s k)
def dv (m : az) (t : ByteArray) (b : List Int) (s : ByteArray) : az × Int := rh (bA m t) t b s 5 0
theorem ul {m : az} {t : ByteArray} {b : List Int} {s : ByteArray} (h : aZ m <= 1048576) : ∀ f k, aZ (rh m t b s f k).1 <= 1048576
 | 0, k => uk h k
 | f + 1, k => by
  rw [rh]
  split
  ·exact ul h f (k + 1)
  ·exact uk h (k + 1)
theorem Ao {m : az} {t : ByteArray} {b : List Int} {s : ByteArray} (h : aZ m <= 1048576) : aZ (dv m t b s).1 <= 1048576 := ul (lS h) 5 0
def py (m : az) (t : ByteArray) (b : List Int) (s : ByteArray) (k : Nat) : Prop := dv m t b s = rh (bA m t) t b s (5 - k) k
theorem py.start (m : az) (t : ByteArray) (b : List Int) (s : ByteArray) : py m t b s 0 := rfl
theorem py.on {m : az} {t : ByteArray} {b : List Int} {s : ByteArray} {k : Nat} (h : py m t b s k) (hk : k < 5) (hc : u9 (bA m t) t b s k = 0) : py m t b s (k + 1) := by
 unfold py at h ⊢; obtain ⟨f, hf⟩ : ∃ f, 5 - k = f + 1 := ⟨4 - k, by omega⟩
 rw [h, hf, rh, if_pos hc]
 congr 1
 omega
theorem py.out {m : az} {t : ByteArray} {b : List Int} {s : ByteArray} {k : Nat} (h : py m t b s k) (hk : k < 5) (hc : u9 (bA m t) t b s k ≠ 0) : dv m t b s = (qE (bA m t) t b s (k + 1), u9 (bA m t) t b s k) := by
 unfold py at h; obtain ⟨f, hf⟩ : ∃ f, 5 - k = f + 1 := ⟨4 - k, by omega⟩
 rw [h, hf, rh, if_neg hc]
theorem py.done {m : az} {t : ByteArray} {b : List Int} {s : ByteArray} (h : py m t b s 5) : dv m t b s = (qE (bA m t) t b s 5, 0) := h
theorem BN {m : az} {t : ByteArray} (h : hasName m.ae t = false) : bA m t = m := by
 unfold bA; rw [if_neg]; intro hc; rw [(cW hc).2.2] at h; cases h
theorem Fl {m : az} {e : aB} (h : kr m.ae) (he : e ∈ m.ae) : eK m.ae e.ax = e.bi := by
 have h1 : hasName m.ae e.ax = true := eh.2 ⟨e, he, rfl⟩; have h2 := pH h1; have h3 := u5 h h2 he rfl; rw [<- h3]
theorem LD {m : az} {s : ByteArray} (h : aS m s = 0) {x : aI} (hx : x ∈ m.aa) (he : x.bi = eK m.ae s) : rJ m s = x.aG := by
 obtain ⟨p, hp, rfl⟩ := List.mem_iff_getElem.1 hx; have h1 := qC h hp he; unfold rJ; have h2 : placeOf m.aa (eK m.ae s) = p := by rw [h1]; rfl
 rw [h2, List.getElem?_eq_getElem hp]; rfl
section
variable {m : az} {s t : ByteArray}
theorem BO (hc : cD m s t = 0) : aS m s = 0 /\ bH t = true := by
 unfold cD at hc
 split at hc
 ·rename_i ht
  exact ⟨hc, ht⟩
 ·cases hc
theorem un (hc : cD m s t = 0) : bQ m s t = lR m s t := by unfold bQ; rw [if_pos hc]
theorem GH (hc : cD m s t = 0) : aS (bQ m s t) t = 0 := by
 obtain ⟨h1, h2⟩ := BO hc; rw [un hc]; have h3 := qD h1 h2; have h4 : hasName (lR m s t).ae t = true := eh.2 ⟨⟨t, eK m.ae s⟩, by show _ ∈ bC m s t; unfold bC; exact gp.2 (.inl rfl), rfl⟩; unfold aS; rw [h3, h2, h4]; rfl
end
end Go.Proofs.YtcamcgfbljhbhaaGreatDoor

namespace Go.Proofs.YtcamcgfbljhbhaaGreatDoor
open Go.RowKit
def Re (w : World) (g : Nat) (sv : Value) (n : Nat) : Prop :=
 ∃ i h : Int, 0 <= i /\ i <= n /\ w.heap[g]? = some (.cells #[sv, .int .i64 i, .int .i64 h] 75 (0, 0))
theorem wM (n : Int) : bits .and .i64 n 255 = n % 256 := by
 have h1 : (BitVec.ofInt 64 255).toNat = 2 ^ 8 - 1 := by decide
 have key : (BitVec.ofInt 64 n &&& BitVec.ofInt 64 255).toNat = (n % ((2 ^ 64 : Nat) : Int)).toNat % 2 ^ 8 := by
  rw [BitVec.toNat_and, BitVec.toNat_ofInt, h1, Nat.and_two_pow_sub_one_eq_mod]
 show IntKind.i64.wrap ((BitVec.ofInt 64 n &&& BitVec.ofInt 64 255).toNat : Nat) = n % 256; rw [key, IntKind.wrap_i64]; omega
theorem oI {w : World} {g j : Nat} {cs : Array Value} {e : TypeId} (h : w.heap[g]? = some (.cells cs e (0, 0))) (u : Value) :
  (w.setCell ⟨g, j, none⟩ u).heap[g]? = some (.cells (cs.setIfInBounds j u) e (0, 0)) /\ w.grownBy (w.setCell ⟨g, j, none⟩ u) (some g) :=
 ⟨heap_setCell_same w g j cs e u h, ⟨rfl, rfl, rfl, by simp, fun k _ hk => heap_setCell_other w ⟨g, j, none⟩ k u (fun e => hk (by simp [e]))⟩⟩
theorem zt (x : Int) : 0 <= x % 256 /\ x % 256 <= 255 := by omega
theorem pK {w w' : World} {r : Option Nat} (h : w.grownBy w' r) (d : Nat) : w.grownBy (w'.drewN d) r := ⟨h.os, h.tape, h.output, h.size, h.block⟩
theorem GI {w : World} {g n : Nat} {sv : Value} {i h : Int} (hg : w.heap[g]? = some (.cells #[sv, .int .i64 i, .int .i64 h] 75 (0, 0))) (h0 : 0 <= i) (h1 : i <= n) {h' : Int} (j k : Nat) :
  Re (((w.setCell ⟨g, 2, none⟩ (.int .i64 h')).drewN j).drewN k) g sv n := ⟨i, h', h0, h1, (oI (j := 2) hg _).1⟩
theorem DL {w : World} {g : Nat} {cs : Array Value} {e : TypeId} (hg : w.heap[g]? = some (.cells cs e (0, 0))) {u : Value} (j k : Nat) :
  w.grownBy (((w.setCell ⟨g, 2, none⟩ u).drewN j).drewN k) (some g) := pK (pK (oI (j := 2) hg u).2 j) k
theorem GJ {w : World} {g n : Nat} {sv : Value} {i h : Int} (hg : w.heap[g]? = some (.cells #[sv, .int .i64 i, .int .i64 h] 75 (0, 0))) (h0 : 0 <= i) (h1 : i + 1 <= n) (h' : Int) (k : Nat) (i' : Int) (hi' : i' = i + 1) :
  Re (((w.setCell ⟨g, 2, none⟩ (.int .i64 h')).drewN k).setCell ⟨g, 1, none⟩ (.int .i64 i')) g sv n := by
 subst hi'; exact ⟨i + 1, h', by omega, h1, (oI (w := (w.setCell ⟨g, 2, none⟩ (.int .i64 h')).drewN k) (j := 1) (oI (j := 2) hg (.int .i64 h')).1 (.int .i64 (i + 1))).1⟩
theorem DM {w : World} {g : Nat} {cs : Array Value} {e : TypeId} (hg : w.heap[g]? = some (.cells cs e (0, 0))) (u : Value) (k : Nat) (v : Value) :
  w.grownBy (((w.setCell ⟨g, 2, none⟩ u).drewN k).setCell ⟨g, 1, none⟩ v) (some g) :=
 ed (pK (oI (j := 2) hg u).2 k) (oI (w := (w.setCell ⟨g, 2, none⟩ u).drewN k) (j := 1) (oI (j := 2) hg u).1 v).2
theorem DN (g n cap B : Nat) (a : Option Addr) (zs : List Int) (w : World) (hx : zs.length = n) (hlen : n <= 140737488351232) (hr : Rd .u8 B w a zs) (hBg : B <= g) (hc : Re w g (.slice a n cap) n) :
  Calls Tryz.prog 91 #[.pointer (some ⟨g, 0, none⟩)] w fun e w' => ∃ x : Int, e = .returned (.int .i64 x) /\ (0 <= x /\ x <= 255) /\ Re w' g (.slice a n cap) n /\ w.grownBy w' (some g) := by
 obtain ⟨i, h, IR, Nr, hg⟩ := hc; have HX : Hid (zs.length = n) := hx; clear hx; have c0 : w.cell? ⟨g, 0, none⟩ = some (.slice a n cap) := cell_of_row w g 0 _ _ _ hg; have c1 : w.cell? ⟨g, 1, none⟩ = some (.int .i64 i) := cell_of_row w g 1 _ _ _ hg; have c2 : w.cell? ⟨g, 2, none⟩ = some (.int .i64 h) := cell_of_row w g 2 _ _ _ hg; have f1 : w.frozen? ⟨g, 1, none⟩ = false := frozen_of_row w g 1 _ _ hg; have f2 : w.frozen? ⟨g, 2, none⟩ = false := frozen_of_row w g 2 _ _ hg
 by_cases hlt : i < n
 ·obtain ⟨i, rfl⟩ := Int.eq_ofNat_of_zero_le IR
  obtain ⟨b1, o1, rfl, hB, hcc⟩ := hr i (by rw [HX.out]; omega); have hne : b1 ≠ g := by omega
  have hand := wM; generalize zs.getD i 0 = c at hcc; go_enter Tryz.func91, Tryz.ntmps91
  go_wp2
  go_quiet (fail)
  go_wp2
  go_quiet (fail)
  go_wp2
  go_quiet (fail)
  go_wp2
  go_ret; exact ⟨_, rfl, zt _, GJ hg IR (by omega) _ _ _ rfl, (DM hg _ _ _)⟩
 ·have hand := wM
  go_enter Tryz.func91, Tryz.ntmps91
  go_wp2
  go_quiet (fail)
  go_wp2
  go_quiet (fail)
  go_wp2
  go_ret; exact ⟨_, rfl, zt _, GI hg IR Nr _ _, DL hg _ _⟩
def b5 (w : World) (g : Nat) : Prop :=
 ∃ a n cap B, ∃ zs : List Int, zs.length = n /\ n <= 140737488351232 /\ B <= g /\ Rd .u8 B w a zs /\ Re w g (.slice a n cap) n /\ g < w.heap.size
theorem b5.lt {w : World} {g : Nat} (h : b5 w g) : g < w.heap.size := by obtain ⟨_, _, _, _, _, _, _, _, _, _, h⟩ := h; exact h
theorem b5.grown {w w' : World} {g : Nat} {r : Option Nat} (h : b5 w g) (hg : w.grownBy w' r) (hr : ∀ k, r = some k -> g < k) : b5 w' g := by
 obtain ⟨a, n, cap, B, zs, h1, h2, h3, h4, ⟨i, q, h5, h6, h7⟩, h8⟩ := h; refine ⟨a, n, cap, B, zs, h1, h2, h3, h4.grown hg (fun k hk => by have := hr k hk; omega), ⟨i, q, h5, h6, ?_⟩, Nat.lt_of_lt_of_le h8 hg.size⟩; rw [hg.block g h8 (fun e => by have := hr g e.symm; omega)]; exact h7
theorem b5.below {w w' : World} {g : Nat} (h : b5 w g) (hb : Below w.heap.size w w') : b5 w' g := by
 obtain ⟨a, n, cap, B, zs, h1, h2, h3, h4, ⟨i, q, h5, h6, h7⟩, h8⟩ := h; refine ⟨a, n, cap, B, zs, h1, h2, h3, h4.below (hb.mono (by omega)), ⟨i, q, h5, h6, ?_⟩, Nat.lt_of_lt_of_le h8 hb.size⟩; rw [hb.block g h8]; exact h7
theorem b5.drewN {w : World} {g : Nat} (h : b5 w g) (d : Nat) : b5 (w.drewN d) g := h
theorem nV {g : Nat} {w : World} (hc : b5 w g) :
  Calls Tryz.prog 91 #[.pointer (some ⟨g, 0, none⟩)] w fun e w' => ∃ x : Int, e = .returned (.int .i64 x) /\ (0 <= x /\ x <= 255) /\ b5 w' g /\ w.grownBy w' (some g) := by
 obtain ⟨a, n, cap, B, zs, h1, h2, h3, h4, h5, h8⟩ := hc; refine (DN g n cap B a zs w h1 h2 h4 h3 h5).mono ?_; rintro e w' ⟨x, rfl, hx, DO, hg⟩; exact ⟨x, rfl, hx, ⟨a, n, cap, B, zs, h1, h2, h3, h4.grown hg (fun k hk => by simp at hk; omega), DO, Nat.lt_of_lt_of_le h8 hg.size⟩, hg⟩
theorem emod_le {a b : Int} (ha : 0 <= a) (hb : 0 < b) : a % b <= a := by
 have h1 := Int.emod_add_mul_ediv a b; have h2 := Int.mul_nonneg (show 0 <= b by omega) (Int.ediv_nonneg ha (show 0 <= b by omega)); omega
theorem cz {g : Nat} {w : World} (q : Int) (hc : b5 w g) :
  Calls Tryz.prog 40 #[.pointer (some ⟨g, 0, none⟩), .int .i64 q] w fun e w' => ∃ x : Int, e = .returned (.int .i64 x) /\ (0 <= x /\ x < 16777216 /\ (0 < q -> x < q) /\ (q <= 0 -> x = 0)) /\ b5 w' g /\ w.grownBy w' (some g) := by
 by_cases h0 : q <= 0
 ·go_enter Tryz.func40, Tryz.ntmps40
  go_wp2_with fail; go_ret; exact ⟨0, rfl, by omega, hc, World.grownBy.refl _ _⟩
 ·by_cases h1 : q <= 256
  ·go_enter Tryz.func40, Tryz.ntmps40
   go_wp2_with fail; refine (nV hc).mono ?_; rintro e w1 ⟨x, rfl, hx, hc1, hg1⟩; have sD : (q == 0) = false := by simp; omega
   have hm := Int.emod_lt_of_pos x (show 0 < q by omega); have Uc := Int.emod_nonneg x (show q ≠ 0 by omega); go_wp2_with fail; go_ret; exact ⟨_, rfl, by omega, hc1, hg1⟩
  ·go_enter Tryz.func40, Tryz.ntmps40
   go_wp2_with fail; refine (nV hc).mono ?_; rintro e w1 ⟨x, rfl, hx, hc1, hg1⟩; go_wp2_with fail; refine (nV hc1).mono ?_; rintro e w2 ⟨y, rfl, hy, hc2, hg2⟩; go_wp2_with fail; refine (nV hc2).mono ?_; rintro e w3 ⟨z, rfl, hz, hc3, hg3⟩; have sD : (q == 0) = false := by simp; omega
   have hm := Int.emod_lt_of_pos (x * 65536 + y * 256 + z) (show 0 < q by omega); have Uc := Int.emod_nonneg (x * 65536 + y * 256 + z) (show q ≠ 0 by omega); have Ns := emod_le (a := x * 65536 + y * 256 + z) (b := q) (by omega) (by omega); go_wp2_with fail; go_ret; exact ⟨_, rfl, by omega, hc3, ed hg1 (ed hg2 hg3)⟩
theorem mj {g : Nat} {w : World} (la : Option Addr) (m cap : Nat) (ns : List Int) (hc : b5 w g) (hm : ns.length = m) (h0 : 0 < m) (Rf : m <= 1000000) (B : Nat) (hr : Rd .i64 B w la ns) (hne : ∀ b o, la = some ⟨b, o, none⟩ -> b ≠ g) :
  Calls Tryz.prog 41 #[.pointer (some ⟨g, 0, none⟩), .slice la m cap] w fun e w' => ∃ j : Nat, (j < m /\ e = .returned (.int .i64 (ns.getD j 0))) /\ b5 w' g /\ w.grownBy w' (some g) := by
 have HM : Hid (ns.length = m) := hm; clear hm; go_enter Tryz.func41, Tryz.ntmps41; go_wp2_with fail; refine (cz _ hc).mono ?_; rintro e w1 ⟨x, rfl, hx, hc1, hg1⟩; obtain ⟨x, rfl⟩ := Int.eq_ofNat_of_zero_le hx.1; have Ap : x < m := by omega
 obtain ⟨b1, o1, rfl, hB, hcell⟩ := hr x (by rw [HM.out]; exact Ap); have nI : w1.cell? ⟨b1, o1 + x, none⟩ = some (.int .i64 (ns.getD x 0)) := hg1.cell hcell (by have := hne b1 o1 rfl; simpa using this); generalize hv : ns.getD x 0 = v at nI; have HV := Hm hv; clear hv hcell hr hne hx; go_wp2_with fail; go_ret; exact ⟨x, ⟨Ap, by rw [HV.out]; rfl⟩, hc1, hg1⟩
def Ji (w w' : World) (v : Value) (g : Nat) (most : Nat) : Prop :=
 ∃ bs : List Int, bs.length <= most /\ nc bs /\ w'.ownsRow w.heap.size 5 1 v bs.length (bs.map (Value.int .u8)) /\ b5 w' g /\ w.grownBy w' (some g)
theorem LF {w : World} {base e size n g : Nat} {v : Value} {xs : List Value} (h : w.ownsRow base e size v n xs) (hg : g < base) : v.ownBlock = none ∨ v.ownBlock ≠ some g := by
 cases e1 : v.ownBlock with
 | none => exact .inl rfl
 | some k =>
  right; have := (h.lt k e1).1; intro e2; simp only [Option.some.injEq] at e2; omega
theorem DR {g : Nat} {w : World} (q : Nat) (hc : b5 w g) (hq : q <= 1000000) :
  Calls Tryz.prog 109 #[.pointer (some ⟨g, 0, none⟩), .int .i64 q] w fun e w' => ∃ v, e = .returned v /\ Ji w w' v g q := by
 obtain ⟨i0, hi, hz0, hz1, hz2⟩ := info_parts Tryz.wI; have iV := hc.lt; have hc0 : b5 (w.alloc (.cells #[] 5)) g := hc.below (rB.alloc rN _); have hg0 : w.grownBy (w.alloc (.cells #[] 5)) (some g) := World.grownBy_alloc w _ _; have Ud : (w.alloc (.cells #[] 5)).ownsRow w.heap.size 5 1 (.slice (some ⟨w.heap.size, 0, none⟩) 0 0) 0 [] := World.ownsRow_lit w #[] 0 rN (by decide) rfl; go_enter Tryz.func109, Tryz.ntmps109; go_wp2_with fail
 go_loopw [5, 6] (fun o i wr => ∃ k : Nat, k <= q /\ i = .int .i64 k /\ ∃ bs : List Int, bs.length = k /\ nc bs /\ wr.ownsRow w.heap.size 5 1 o k (bs.map (Value.int .u8)) /\ b5 wr g /\ w.grownBy wr (some g)) (fun _ i _ => q - (intOf i).toNat)
 case atStart => exact ⟨0, Nat.zero_le _, rfl, [], rfl, fun z hz => (by cases hz), Ud, hc0, hg0⟩
 case round =>
  obtain ⟨k, hk, rfl, bs, hbl, ej, hown, Ue, BP⟩ := hrel; have qF := Hm hbl; clear hbl hc0 hg0 Ud hc
  by_cases hlt : k < q
  ·go_wp2_with fail
   refine (nV Ue).mono ?_; rintro e w1 ⟨x, rfl, hx, hc1, hg1⟩; have hown1 := hown.kept hg1 (LF hown iV); have Oc := ed BP hg1; clear hown Ue BP hg1; go_wp2_with (at_builtin; refine sM _ rfl _ _ 22 22 rfl w.heap.size 5 i0 (.int .u8 0) 1 1 Tryz.underlying22 hi hz0 hz1 hz2 rfl _ _ _ rfl (hown1.alloc _) 1 [.int .u8 x] (Src.ofSlice _ Tryz.underlying22 ⟨_, 0, none⟩ 1 1 _ rfl (cell_one_new _ _ _) (N9 _ _)) (by unfold maxLen; omega) (by omega) (by have := Oc.size; simp; omega) ?_); intro v2 w2 hown2 BQ; have hc2 : b5 w2 g := (hc1.below (rB.alloc rN _)).grown BQ (fun j hj => by have := (hown1.lt j hj).1; omega); have hg2 : w.grownBy w2 (some g) := (World.grownBy.andThen (World.grownBy.andThen Oc (World.grownBy_alloc w1 _ none) (fun j hj => by cases hj)) BQ (fun j hj => Or.inl (hown1.lt j hj).1))
   clear BQ Oc hown1 hc1; go_wp2_with fail
   go_roundw
   case rel =>
    refine ⟨k + 1, by omega, by go_num, bs ++ [x], by simp [qF.out], ?_, cM hown2 rfl (by simp), hc2, hg2⟩; intro z hz; rcases List.mem_append.1 hz with h | h
    ·exact ej z h
    ·simp at h; omega
   case measure => simp [intOf]; omega
  ·have GK : k = q := by omega
   subst GK; go_wp2_with fail; go_ret; exact ⟨_, rfl, bs, by rw [qF.out]; exact rN, ej, cM hown qF.out.symm rfl, Ue, BP⟩
set_option maxRecDepth 100000 in
theorem GL (a : Option Addr) (n cap : Nat) (zs : List Int) (w : World) (hx : zs.length = n) (hlen : n <= 140737488351232) (hr : Rd .u8 w.heap.size w a zs) :
  Calls Tryz.prog 16 #[.slice a n cap] w fun e w' => e = .returned (.pointer (some ⟨w.heap.size, 0, none⟩)) /\ b5 w' w.heap.size /\ Below w.heap.size w w' := by
 have HX : Hid (zs.length = n) := hx; clear hx; go_enter Tryz.func16, Tryz.ntmps16
 go_wp2
 go_loop [3, 4] (fun h i => ∃ (k : Nat) (H : Int), k <= n /\ i = .int .i64 k /\ h = .int .i64 H) (fun _ i => n - (intOf i).toNat)
 case atStart => exact ⟨0, _, Nat.zero_le _, rfl, rfl⟩
 case round =>
  obtain ⟨k, H, hk, rfl, rfl⟩ := hrel
  have fin : ∀ H : Int, b5 (w.alloc (.cells #[.slice a n cap, .int .i64 0, .int .i64 H] 75)) w.heap.size := fun H =>
   ⟨a, n, cap, w.heap.size, zs, HX.out, hlen, rN, hr.below (rB.alloc rN _), ⟨0, H, by omega, by omega, heap_alloc_new w _⟩, by simp⟩
  by_cases hlt : k < n
  ·by_cases h4 : k < 4000
   ·obtain ⟨b1, o1, rfl, _, hc1⟩ := hr k (by rw [HX.out]; exact hlt)
    generalize zs.getD k 0 = c at hc1; clear fin hr
    go_wp2
    go_round
    case rel => exact ⟨k + 1, _, by omega, by go_num, rfl⟩
    case measure => simp [intOf]; omega
   ·go_wp2
    go_ret; exact ⟨rfl, fin _, rB.alloc rN _⟩
  ·go_wp2
   go_ret; exact ⟨rfl, fin _, rB.alloc rN _⟩
theorem GM (j : Nat) (h : j < 5) : ∃ q : Nat, ([0, 1, 2, 5, 9] : List Int).getD j 0 = (q : Int) /\ q <= 9 := by
 rcases (show j = 0 ∨ j = 1 ∨ j = 2 ∨ j = 3 ∨ j = 4 from by omega) with rfl | rfl | rfl | rfl | rfl
 ·exact ⟨0, rfl, by omega⟩
 ·exact ⟨1, rfl, by omega⟩
 ·exact ⟨2, rfl, by omega⟩
 ·exact ⟨5, rfl, by omega⟩
 ·exact ⟨9, rfl, by omega⟩
theorem uo (k : IntKind) (w : World) (xs : List Int) (t : TypeId) : Rd k (w.heap.size + 1) (w.alloc (.cells (xs.map (Value.int k)).toArray t)) (some ⟨w.heap.size, 0, none⟩) xs := by
 intro j hj; refine ⟨w.heap.size, 0, rfl, by omega, ?_⟩; rw [Nat.zero_add, World.cell?_alloc_mark]; simp [hj]
theorem qG {g : Nat} {w : World} (hc : b5 w g) :
  Calls Tryz.prog 89 #[.pointer (some ⟨g, 0, none⟩)] w fun e w' => ∃ v, e = .returned v /\ Ji w w' v g 9 := by
 have iV := hc.lt; have hc0 : b5 (w.alloc (.cells (([0, 1, 2, 5, 9] : List Int).map (Value.int .i64)).toArray 3)) g := hc.below (rB.alloc rN _); have hg0 : w.grownBy (w.alloc (.cells (([0, 1, 2, 5, 9] : List Int).map (Value.int .i64)).toArray 3)) (some g) := World.grownBy_alloc w _ _; have qQ := uo .i64 w [0, 1, 2, 5, 9] 3; go_enter Tryz.func89, Tryz.ntmps89; go_wp2_with fail; refine (mj _ 5 5 [0, 1, 2, 5, 9] (by exact hc0) rfl (by omega) (by omega) _ (by exact qQ) (by intro b o h; simp at h; omega)).mono ?_; rintro e w1 ⟨j, ⟨hj, rfl⟩, hc1, hg1⟩; obtain ⟨q, hq, jM⟩ := GM j hj; rw [hq]; have Od := ed hg0 hg1; clear hq hc0 hg0 hg1 qQ; go_wp2_with fail; refine (DR q hc1 (by omega)).mono ?_; rintro e w2 ⟨v, rfl, bs, hbl, ej, hown, hc2, hg2⟩; have Vi : Ji w w2 v g 9 := ⟨bs, by omega, ej, ep hown Od.size, hc2, ed Od hg2⟩
 clear hown hc2 hg2 Od hc1; go_wp2_with fail; go_ret; exact ⟨v, rfl, Vi⟩
theorem Bx.grown {w w' : World} {b : Nat} {vs : List Value} {r : Option Nat} (h : Bx w b vs) (hg : w.grownBy w' r) (hr : r ≠ some b) : Bx w' b vs :=
 ⟨Nat.lt_of_lt_of_le h.1 hg.size, fun i u hu => (World.cell?_of_block (w := w) (hg.block b h.1 (fun e => hr e.symm))).trans (h.2 i u hu)⟩
theorem wP {g : Nat} {w : World} (b n : Nat) (ss : List ByteArray) (hc : b5 w g) (hb : Bx w b (ss.map Value.string)) (hne : b ≠ g) (hn : ss.length = n) (h0 : 0 < n) (h1 : n <= 1000000) :
  Calls Tryz.prog 93 #[.pointer (some ⟨g, 0, none⟩), .slice (some ⟨b, 0, none⟩) n n] w fun e w' => ∃ s, (s ∈ ss /\ e = .returned (.string s)) /\ b5 w' g /\ w.grownBy w' (some g) := by
 have HN := Hm hn; clear hn; go_enter Tryz.func93, Tryz.ntmps93; go_wp2_with fail; refine (cz _ hc).mono ?_; rintro e w1 ⟨x, rfl, hx, hc1, hg1⟩; obtain ⟨x, rfl⟩ := Int.eq_ofNat_of_zero_le hx.1; have Ap : x < n := by omega
 have nJ : x < ss.length := by rw [HN.out]; exact Ap
 have hcell := (hb.grown hg1 (fun e => hne (Option.some.inj e).symm)).2 x (.string ss[x]) (by simp [nJ]); have HM := Hm (List.getElem_mem nJ); generalize ss[x] = s at *; clear hx; go_wp2_with fail; go_ret; exact ⟨s, ⟨HM.out, rfl⟩, hc1, hg1⟩
theorem GU {g : Nat} {w : World} (q : Int) (hc : b5 w g) :
  Calls Tryz.prog 92 #[.pointer (some ⟨g, 0, none⟩), .int .i64 q] w fun e w' => ∃ x : Bool, e = .returned (.bool x) /\ b5 w' g /\ w.grownBy w' (some g) := by
 go_enter Tryz.func92, Tryz.ntmps92; go_wp2_with fail; refine (cz _ hc).mono ?_; rintro e w1 ⟨x, rfl, hx, hc1, hg1⟩; go_wp2_with fail; go_ret; exact ⟨_, rfl, hc1, hg1⟩
def Ar : List ByteArray := [⟨#[97]⟩, ⟨#[98]⟩, ⟨#[108, 111, 103, 45, 49]⟩, ⟨#[99, 117, 114]⟩, ⟨#[116, 109, 112]⟩, ⟨#[120, 46, 57]⟩]
theorem lT : ∀ s, s ∈ Ar -> s.size <= 20 := by decide
def Jj : List ByteArray := [⟨#[]⟩, ⟨#[65]⟩, ⟨#[116, 104, 105, 114, 116, 101, 101, 110, 45, 108, 111, 110, 103]⟩, ⟨#[116, 119, 101, 108, 118, 101, 45, 108, 111, 110, 103, 49]⟩, ⟨#[97, 32, 98]⟩]
theorem BU : ∀ s, s ∈ Jj -> s.size <= 20 := by decide
theorem kQ {g : Nat} {w : World} (hc : b5 w g) :
  Calls Tryz.prog 88 #[.pointer (some ⟨g, 0, none⟩)] w fun e w' => ∃ s : ByteArray, (e = .returned (.string s) /\ s ∈ Ar) /\ b5 w' g /\ w.grownBy w' (some g) := by
 have iV := hc.lt; go_enter Tryz.func88, Tryz.ntmps88; go_wp2_with fail; refine (wP w.heap.size 6 Ar (hc.below (rB.alloc rN _)) (Bx.new w (Ar.map Value.string) 9) (by omega) rfl (by omega) (by omega)).mono ?_; rintro e w1 ⟨s, ⟨hs, rfl⟩, hc1, hg1⟩; have HS := Hm hs; clear hs; go_wp2_with fail; go_ret; exact ⟨s, ⟨rfl, HS.out⟩, hc1, ed (World.grownBy_alloc w _ _) hg1⟩
theorem sW {g : Nat} {w : World} (hc : b5 w g) :
  Calls Tryz.prog 42 #[.pointer (some ⟨g, 0, none⟩)] w fun e w' => ∃ s : ByteArray, (e = .returned (.string s) /\ s.size <= 20) /\ b5 w' g /\ w.grownBy w' (some g) := by
 go_enter Tryz.func42, Tryz.ntmps42; go_wp2_with fail; refine (GU _ hc).mono ?_; rintro e w1 ⟨x, rfl, hc1, hg1⟩; have iV := hc1.lt; cases x
 ·go_wp2_with fail
  refine (kQ hc1).mono ?_; rintro e w2 ⟨s, ⟨rfl, hs⟩, hc2, hg2⟩; have hz := lT s hs; go_wp2_with fail; go_ret; exact ⟨s, ⟨rfl, hz⟩, hc2, ed hg1 hg2⟩
 ·go_wp2_with fail
  refine (wP w1.heap.size 5 Jj (hc1.below (rB.alloc rN _)) (Bx.new w1 (Jj.map Value.string) 9) (by omega) rfl (by omega) (by omega)).mono ?_; rintro e w2 ⟨s, ⟨hs, rfl⟩, hc2, hg2⟩; have hz := BU s hs; go_wp2_with fail; go_ret; exact ⟨s, ⟨rfl, hz⟩, hc2, ed hg1 (ed (World.grownBy_alloc w1 _ _) hg2)⟩
def Au (w : World) (b : Nat) : Prop := ∃ (t : TypeId) (a0 a1 a2 : Option Addr) (n0 c0 n1 c1 n2 c2 : Nat) (z : Int), Bw w b t [.slice a0 n0 c0, .slice a1 n1 c1, .slice a2 n2 c2, .int .i64 z]
theorem Au.at {w : World} {b : Nat} (h : Au w b) (k : Nat) : (∃ a n c, w.cell? ⟨b, k, none⟩ = some (.slice a n c)) ∨ (k = 3 /\ ∃ z, w.cell? ⟨b, k, none⟩ = some (.int .i64 z)) ∨ (4 <= k /\ w.cell? ⟨b, k, none⟩ = none) := by
 obtain ⟨t, a0, a1, a2, n0, c0, n1, c1, n2, c2, z, hb⟩ := h; have hc := cell_of_row w b k _ t (0, 0) hb; rw [hc]
 match k with
 | 0 => exact .inl ⟨_, _, _, rfl⟩
 | 1 => exact .inl ⟨_, _, _, rfl⟩
 | 2 => exact .inl ⟨_, _, _, rfl⟩
 | 3 => exact .inr (.inl ⟨rfl, _, rfl⟩)
 | k + 4 => exact .inr (.inr ⟨by omega, rfl⟩)
section
variable {B : Nat} {w w' : World} {b : Nat}
theorem iW (h : aw [b] w w') {g k : Nat} (hg : g ≠ b) {u : Value} (hu : w.cell? ⟨g, k, none⟩ = some u) : w'.cell? ⟨g, k, none⟩ = some u := by
 have hlt : g < w.heap.size := World.block_lt_of_cell? _ _ hu; have hs := h.block g hlt (by simpa using hg); have : w'.cell? ⟨g, k, none⟩ = w.cell? ⟨g, k, none⟩ := by simp [World.cell?, hs]
 rw [this, hu]
theorem DT (hx : Au w b) (h : aw [b] w w') {a : Option Addr} {c : Nat} {zs : List Int} (hl : fM B w a c zs) : fM B w' a c zs := by
 refine ⟨hl.1, hl.2.1, fun j hj => ?_, hl.2.2.2⟩; obtain ⟨g, off, e, hB, hc⟩ := hl.2.2.1 j hj; refine ⟨g, off, e, hB, iW h ?_ hc⟩; rintro rfl; rcases hx.at (off + j) with ⟨_, _, _, h1⟩ | ⟨_, z, h1⟩ | ⟨_, h1⟩ <;> rw [hc] at h1 <;> cases h1
theorem wQ (hx : Au w b) (h : aw [b] w w') {a : Option Addr} {c : Nat} {l : List aB} (hl : bw 2 cy B w a c l) : bw 2 cy B w' a c l := by
 refine ⟨hl.1, hl.2.1, fun j hj => ?_⟩; obtain ⟨g, off, e, hB, cs, h1, h2, h3⟩ := hl.2.2 j hj; have Rk := h3; obtain ⟨rfl, _⟩ := h3
 have hne : g ≠ b := by
  rintro rfl; have h4 := h2 0 _ rfl; rcases hx.at (off + j * 2 + 0) with ⟨_, _, _, h5⟩ | ⟨_, z, h5⟩ | ⟨_, h5⟩ <;> rw [h4] at h5 <;> cases h5
 exact ⟨g, off, e, hB, _, h1, fun i u hu => iW h hne (h2 i u hu), Rk⟩
theorem DU (hx : Au w b) (h : aw [b] w w') {a : Option Addr} {c : Nat} {l : List aI} (hl : bw 3 dL B w a c l) : bw 3 dL B w' a c l := by
 refine ⟨hl.1, hl.2.1, fun j hj => ?_⟩; obtain ⟨g, off, e, hB, cs, h1, h2, a1, c1, rfl, h3, h4, h5, _⟩ := hl.2.2 j hj
 have hne : g ≠ b := by
  rintro rfl; have h6 := h2 0 _ rfl; have h7 := h2 1 _ rfl; rcases hx.at (off + j * 3 + 0) with ⟨_, _, _, h8⟩ | ⟨hk, z, h8⟩ | ⟨_, h8⟩
  ·rw [h6] at h8; cases h8
  ·rcases hx.at (off + j * 3 + 1) with ⟨_, _, _, h9⟩ | ⟨hk2, z, h9⟩ | ⟨_, h9⟩
   ·have hk3 : off + j * 3 + 1 = 4 := by omega
    have := hx.at 4; rw [hk3] at h9; rcases this with ⟨_, _, _, h10⟩ | ⟨h10, _⟩ | ⟨_, h10⟩
    ·obtain ⟨t, b0, b1, b2, n0, c0, n1, c1', n2, c2, z2, hb⟩ := hx
     have hc := cell_of_row w g 4 _ t (0, 0) hb; rw [hc] at h10; cases h10
    ·omega
    ·rw [h10] at h9; cases h9
   ·omega
   ·rw [h7] at h9; cases h9
  ·rw [h6] at h8; cases h8
 exact ⟨g, off, e, hB, _, h1, fun i u hu => iW h hne (h2 i u hu), a1, c1, rfl, h3, DT hx h h4, h5, trivial⟩
theorem cA {cs : List Value} {m : az} (hx : Au w b) (h : aw [b] w w') (hr : bg B w cs m) : bg B w' cs m := by
 obtain ⟨a0, c0, a1, c1, a2, c2, rfl, h0, h1, h2, h3, _⟩ := hr; exact ⟨a0, c0, a1, c1, a2, c2, rfl, DU hx h h0, wQ hx h h1, wQ hx h h2, h3, trivial⟩
end
theorem Bw.Oi {w : World} {b : Nat} {t : TypeId} {cs : List Value} {B : Nat} {W : World} {m : az} (h : Bw w b t cs) (hr : bg B W cs m) : Au w b := by
 obtain ⟨a0, c0, a1, c1, a2, c2, rfl, _⟩ := hr; exact ⟨t, a0, a1, a2, _, _, _, _, _, _, _, h⟩
theorem Bw.kV {w : World} {b : Nat} {t : TypeId} (h : Bw w b t oz) : Au w b := ⟨t, _, _, _, _, _, _, _, _, _, _, h⟩
end Go.Proofs.YtcamcgfbljhbhaaGreatDoor

namespace Go.Proofs.YtcamcgfbljhbhaaGreatDoor
open Go.RowKit
theorem Bw.uw {w : World} {b : Nat} {t : TypeId} {vs : List Value} (h : Bw w b t vs) (hl : vs.length = 4) (x0 x1 x2 x3 : Value) : Bw ((((w.setCell ⟨b, 0, none⟩ x0).setCell ⟨b, 1, none⟩ x1).setCell ⟨b, 2, none⟩ x2).setCell ⟨b, 3, none⟩ x3) b t [x0, x1, x2, x3] := by
 have h4 := (((h.put 0 x0).put 1 x1).put 2 x2).put 3 x3
 obtain ⟨y0, y1, y2, y3, rfl⟩ : ∃ y0 y1 y2 y3, vs = [y0, y1, y2, y3] := by
  match vs, hl with
  | [y0, y1, y2, y3], _ => exact ⟨y0, y1, y2, y3, rfl⟩
 exact h4
def Ug (w : World) (W : World) (cs : List Value) (d : az) : Prop :=
 Bw W (w.heap.size + 1 + 1) 27 cs /\ bg W.heap.size W cs d /\ Bw W (w.heap.size + 1) 27 oz /\ Below w.heap.size w W
theorem Ug.step {w W W' : World} {cs : List Value} {d d' : az} {x0 x1 x2 x3 : Value} (h : Ug w W cs d) (hl : cs.length = 4) (hx : Below W.heap.size W W') (hr : bg W'.heap.size W' [x0, x1, x2, x3] d') :
  Ug w ((((W'.setCell ⟨w.heap.size + 1 + 1, 0, none⟩ x0).setCell ⟨w.heap.size + 1 + 1, 1, none⟩ x1).setCell ⟨w.heap.size + 1 + 1, 2, none⟩ x2).setCell ⟨w.heap.size + 1 + 1, 3, none⟩ x3) [x0, x1, x2, x3] d' := by
 obtain ⟨h1, h2, h3, h4⟩ := h; have hT := bE W' (w.heap.size + 1 + 1) x0 x1 x2 x3; have hb := af h4 hx; have hz : ((((W'.setCell ⟨w.heap.size + 1 + 1, 0, none⟩ x0).setCell ⟨w.heap.size + 1 + 1, 1, none⟩ x1).setCell ⟨w.heap.size + 1 + 1, 2, none⟩ x2).setCell ⟨w.heap.size + 1 + 1, 3, none⟩ x3).heap.size = W'.heap.size := by simp
 refine ⟨(h1.under hx).uw hl x0 x1 x2 x3, ?_, (h3.under hx).turn hT (by simp), hb.trans (hT.below (fun k hk => by simp at hk; omega) hb.size)⟩; rw [hz]; exact cA ((h1.under hx).Oi h2) hT hr
def Fit (m : az) : Prop := aZ m <= 60840
theorem rL {m : az} (h : bc m = true) : Fit m := by
 have := eB h; unfold Fit; rw [cR]; omega
theorem DV {m : az} {s : ByteArray} (h : Fit m) : Fit (bA m s) := by
 unfold bA
 split
 ·rename_i hc
  exact rL (uj (cW hc).1)
 ·exact h
theorem rM {m : az} {s : ByteArray} (h : Fit m) : Fit (aX m s) := by
 unfold aX
 split
 ·rename_i hc
  exact rL hc.2
 ·exact h
theorem oJ {m : az} {s : ByteArray} {b : List Int} (h : Fit m) : Fit (bh m s b) := by
 unfold bh
 split
 ·rename_i hc
  exact rL hc.2
 ·exact h
theorem Jk {m : az} {s : ByteArray} (h : Fit m) : Fit (dW m s) := by
 unfold dW
 split
 ·have h1 := nU (l := m.aa) (k := fileAt m s) (f := jR) (c := 0) (fun n => rN)
  have h2 := jD (l := m.aa) (k := fileAt m s) (f := jR); unfold Fit at h ⊢; rw [cR] at h ⊢; simp only; omega
 ·exact h
theorem wR {m : az} {s t : ByteArray} (h : Fit m) : Fit (bQ m s t) := by
 unfold bQ
 split
 ·rename_i hc
  unfold cD at hc
  split at hc
  ·rename_i ht
   exact rL (qD hc ht)
  ·cases hc
 ·exact h
theorem BV {m : az} (h : Fit m) : Fit (cC m) := by
 unfold cC
 split
 ·rename_i hc
  exact rL (oD hc)
 ·exact h
theorem wT {m : az} {k : Int} (h : Fit m) : Fit (ei m k) := by
 unfold ei
 split
 ·rename_i hc
  have hw := eB hc.1; have h1 := jS { m with ae := m.ag }; rw [cR { m with ae := m.ag }] at h1; unfold aY at h1; rw [cR] at h1; unfold Fit; rw [cR]; have h2 := nj (f := eb k) (fun n => by unfold eb aJ; simp; omega) (bV { m with ae := m.ag }); simp only [List.length_map] at h1 ⊢; omega
 ·exact h
theorem LL : Fit ⟨[], [], [], 1⟩ := by simp [Fit, aZ, aP]
theorem Fit.small {m : az} (h : Fit m) : aZ m <= 1048576 := by unfold Fit at h; omega
def dZ : List Value := oz
structure ez (w : World) (g br bd : Nat) (W : World) (cs : List Value) (m : az) : Prop where
 d : Bw W bd 27 cs
 r : Bw W br 27 dZ
 o : ∃ F, ba W cs m F /\ ∀ b, b ∈ F -> w.heap.size <= b /\ b ≠ bd /\ b ≠ br
 f : Fit m
 c : b5 W g
 t : aw [g] w W
structure LM (w : World) (g br bd : Nat) : Prop where
 g : g < w.heap.size
 r : w.heap.size <= br
 d : w.heap.size <= bd
 n : br ≠ bd
section
variable {w : World} {g br bd : Nat} {W W' : World} {cs : List Value} {m : az}
theorem ez.read (h : ez w g br bd W cs m) : bg W.heap.size W cs m := by obtain ⟨F, ho, _⟩ := h.o; exact aj.read ho
theorem ez.cur (hp : LM w g br bd) (h : ez w g br bd W cs m) (hg : W.grownBy W' (some g)) (hc : b5 W' g) : ez w g br bd W' cs m := by
 have ht : aw [g] W W' := aw.eZ hg (fun k hk => by simp at hk; simp [hk]); have h1 := hp.g; have h2 := hp.r; have h3 := hp.d; refine ⟨h.d.turn ht (by simp; omega), h.r.turn ht (by simp; omega), ?_, h.f, hc, h.t.trans ht⟩; obtain ⟨F, ho, hF⟩ := h.o; refine ⟨F, aj.frame ho (fun b hb => ht.block b (aj.lt ho b hb) (fun e => ?_)), hF⟩; have := (hF b hb).1; simp at e; omega
theorem ez.drew (h : ez w g br bd W cs m) : ez w g br bd W.drew cs m :=
 ⟨h.d, h.r, by obtain ⟨F, ho, hF⟩ := h.o; exact ⟨F, aj.frame ho (fun b hb => rfl), hF⟩, h.f, h.c.below (Below.drew rB), h.t.drew⟩
theorem ez.put {m' : az} {x0 x1 x2 x3 : Value} (hp : LM w g br bd) (h : ez w g br bd W cs m) (hl : cs.length = 4) (hx : Below W.heap.size W W') (ho : ∃ F, ba W' [x0, x1, x2, x3] m' F /\ ∀ b, b ∈ F -> W.heap.size <= b) (hf : Fit m') :
  ez w g br bd ((((W'.setCell ⟨bd, 0, none⟩ x0).setCell ⟨bd, 1, none⟩ x1).setCell ⟨bd, 2, none⟩ x2).setCell ⟨bd, 3, none⟩ x3) [x0, x1, x2, x3] m' := by
 have h1 := hp.g; have h2 := hp.r; have h3 := hp.d; have h4 := hp.n; have hT := bE W' bd x0 x1 x2 x3; obtain ⟨F, ho, hF⟩ := ho; have ld := h.d.lt; have lr := h.r.lt; have hz := h.t.size; refine ⟨(h.d.under hx).uw hl x0 x1 x2 x3, (h.r.under hx).turn hT (by simp; omega), ⟨F, aj.frame ho (fun b hb => hT.block b (aj.lt ho b hb) (fun e => ?_)), fun b hb => ?_⟩, hf, ?_, ?_⟩
 ·have := hF b hb
  simp at e; omega
 ·have := hF b hb
  omega
 ·have hc := h.c.below hx
  obtain ⟨a, n, cap, B, zs, e1, e2, e3, e4, ⟨i, q, e5, e6, e7⟩, e8⟩ := hc; refine ⟨a, n, cap, B, zs, e1, e2, e3, e4.below (hT.below (fun k hk => by simp at hk; omega) (by have := hx.size; omega)), ⟨i, q, e5, e6, ?_⟩, by simpa using e8⟩; rw [hT.block g e8 (by simp; omega)]; exact e7
 ·exact (h.t.trans (aw.bz hx)).join hT (fun k hk => by simp at hk; right; omega)
theorem b5.turn {b : Nat} (h : b5 W g) (hT : aw [b] W W') (hb : g < b) : b5 W' g := by
 obtain ⟨a, n, cap, B, zs, e1, e2, e3, e4, ⟨i, q, e5, e6, e7⟩, e8⟩ := h; refine ⟨a, n, cap, B, zs, e1, e2, e3, e4.below (hT.below (fun k hk => by simp at hk; omega) (by omega)), ⟨i, q, e5, e6, ?_⟩, Nat.lt_of_lt_of_le e8 hT.size⟩; rw [hT.block g e8 (by simp; omega)]; exact e7
theorem ez.leave (hp : LM w g br bd) (h : ez w g br bd W cs m) (hT : aw [br] W W') : (∃ F, ba W' cs m F /\ ∀ b, b ∈ F -> w.heap.size <= b) /\ Fit m /\ b5 W' g /\ aw [g] w W' := by
 have h1 := hp.g; have h2 := hp.r; obtain ⟨F, ho, hF⟩ := h.o; refine ⟨⟨F, aj.frame ho (fun b hb => hT.block b (aj.lt ho b hb) (fun e => ?_)), fun b hb => (hF b hb).1⟩, h.f, h.c.turn hT (by omega), h.t.join hT (fun k hk => by simp at hk; right; omega)⟩; have := (hF b hb).2.2; simp at e; exact this e
end
end Go.Proofs.YtcamcgfbljhbhaaGreatDoor

namespace Go.Proofs.YtcamcgfbljhbhaaGreatDoor
open Go.RowKit
theorem wU {P : Program} (w : World) (base : Nat) (t tx ty e : TypeId) (i : TypeInfo) (z : Value) (size bytes : Nat) (ht : P.underlying t = some (.slice e)) (hi : P.info? e = some i) (hz : i.zero = some z)
  (hsize : i.size = size) (hby : i.bytes = bytes) (hzs : z.cells.size = size)
  (v : Value) (n : Nat) (xs : List Value) (hown : w.ownsRow base e size v n xs) (x : Value) (m : Nat) (news : List Value) (hs : Src P size tx x m news w) (Uc : 0 < m)
  (h63 : n + m <= maxLen) (hbytes : (n + m) * bytes <= 140737488355328) (hbase : base <= w.heap.size) :
  ∃ v' w', (Builtin.append_ #[t, tx] ty #[v, x]).run P w = .ok v' w' /\ w'.ownsRow base e size v' (n + m) (xs ++ news) /\ w.grownBy w' v.ownBlock /\ (v'.ownBlock = v.ownBlock ∨ v'.ownBlock = some w.heap.size) /\
   ((∃ g cap, v = .slice (some ⟨g, 0, none⟩) n cap /\ w' = w.setCells g (n * size) news) ∨ Below w.heap.size w w') := by
 subst hsize; subst hby; have hl := hs.newsLen; have I8 : n + m <= 9223372036854775807 := by simp only [maxLen] at h63; omega
 have hlen : (xs ++ news).length = (n + m) * i.size := by rw [List.length_append, hown.1, hl, Nat.add_mul]
 have grown : ∀ (old : Nat), old < n + m -> ∀ (row : Option Nat),
   (w.drew.alloc (.cells ((xs ++ news).toArray ++ Builtin.zeroCells z.cells (grownCap w (n + m) old e - (n + m))) e)).ownsRow base e i.size
    (.slice (some ⟨w.heap.size, 0, none⟩) (n + m) (grownCap w (n + m) old e)) (n + m) (xs ++ news) /\
   w.grownBy (w.drew.alloc (.cells ((xs ++ news).toArray ++ Builtin.zeroCells z.cells (grownCap w (n + m) old e - (n + m))) e)) row := by
  intro old ho row; have lx := grownCap_ge w (n + m) old e; have hcm : grownCap w (n + m) old e <= maxLen := grownCap_le_maxLen w (n + m) old e h63; refine ⟨⟨hlen, .inr ⟨w.heap.size, _, _, rfl, hbase, heap_alloc_new w.drew _, lx, hcm, ?_, ?_⟩⟩, ⟨rfl, rfl, rfl, by simp, fun k hk _ => Go.heap_alloc_old w.drew _ hk⟩⟩
  ·rw [Array.size_append, List.size_toArray, size_zeroCells, hzs, hlen, <- Nat.add_mul]
   congr 1
   omega
  ·rw [Array.toList_append, <- hlen]
   exact List.take_left
 rcases hown.2 with ⟨rfl, rfl⟩ | ⟨g, cap, cur, rfl, hbg, hg, po, hcm, hcs, sL⟩
 ·have hx : xs = [] := List.eq_nil_of_length_eq_zero (by simpa using hown.1)
  subst hx; have hr := run_append_grow_src (P := P) w t tx ty e i z ht hi hz none 0 0 [] (run_firstCells_none w.drew i.size 0 0 0) x m news hs (by omega) (by omega) (growslice_fits (by omega) hbytes); have hgr := grown 0 (by omega) (Value.ownBlock (.slice none 0 0)); exact ⟨_, _, hr, hgr.1, hgr.2, .inr rfl, .inr (Below.alloc (Below.drew rB) rN _)⟩
 ·by_cases hroom : n + m <= cap
  ·have lz : n * i.size + news.length <= cur.size := by rw [hl, hcs, <- Nat.add_mul]; exact Nat.mul_le_mul_right _ hroom
   have hr := run_append_room_src (P := P) w t tx ty e i ht hi g 0 n cap x m news hs hroom
    (fun j hj => by rw [Nat.zero_add, cell_of_row w g _ cur e (0, 0) hg, Array.getElem?_eq_getElem (by omega)]; rfl) (fun j hj => frozen_of_row w g _ cur e hg)
   rw [Nat.zero_add] at hr; obtain ⟨⟨cur', h2, h3, h4⟩, h5⟩ := lN g e news (n * i.size) w cur hg lz; refine ⟨_, _, hr, ⟨hlen, .inr ⟨g, cap, cur', rfl, hbg, h2, hroom, hcm, by rw [h3, hcs], ?_⟩⟩, h5, .inl rfl, .inl ⟨g, cap, rfl, rfl⟩⟩; rw [Nat.add_mul, <- hl, h4, sL]
  ·have holds : (Builtin.firstCells i.size n (.slice (some ⟨g, 0, none⟩) n cap)).run P w.drew = .ok xs.toArray w.drew :=
    run_firstCells_some w.drew i.size n ⟨g, 0, none⟩ n cap xs hown.1 (by simpa using hown.cells (g := g) rfl)
   have hr := run_append_grow_src (P := P) w t tx ty e i z ht hi hz (some ⟨g, 0, none⟩) n cap xs holds x m news hs (by omega) (by omega) (growslice_fits (by omega) hbytes); have hgr := grown cap (by omega) (Value.ownBlock (.slice (some ⟨g, 0, none⟩) n cap)); exact ⟨_, _, hr, hgr.1, hgr.2, .inr rfl, .inr (Below.alloc (Below.drew rB) rN _)⟩
theorem ju {P : Program} (w : World) {ops : Array Oper} {o : Oper} {a : Act} {K : Act -> World -> Prop} {Q : Exit -> Act -> World -> Prop} {E : Prop} (hgd : o.guard = none) (s x : Operand) (t tx : TypeId)
  (ho : o.op = .call { callee := .builtin .append, args := #[s, x], argTypes := #[t, tx] })
  (base : Nat) (e : TypeId) (i : TypeInfo) (z : Value) (size bytes : Nat) (ht : P.underlying t = some (.slice e)) (hi : P.info? e = some i) (hz : i.zero = some z)
  (hsize : i.size = size) (hby : i.bytes = bytes) (hzs : z.cells.size = size)
  (v : Value) (n : Nat) (xs : List Value) (hs : a.eval s = v) (hown : w.ownsRow base e size v n xs)
  (y : Value) (hy : a.eval x = y) (m : Nat) (news : List Value) (hx : Src P size tx y m news w) (Uc : 0 < m)
  (h63 : n + m <= maxLen) (hbytes : (n + m) * bytes <= 140737488355328) (hbase : base <= w.heap.size)
  (h : ∀ v' w', w'.ownsRow base e size v' (n + m) (xs ++ news) -> w.grownBy w' v.ownBlock -> (v'.ownBlock = v.ownBlock ∨ v'.ownBlock = some w.heap.size) ->
   ((∃ g cap, v = .slice (some ⟨g, 0, none⟩) n cap /\ w' = w.setCells g (n * size) news) ∨ Below w.heap.size w w') -> K (a.put o.dst v') w') :
  if Region.wanted o (yielded ops a.tmps) = true then Oper.wp P o a w K Q else E := by
 have hw : Region.wanted o (yielded ops a.tmps) = true := by simp [Region.wanted, hgd]
 rw [if_pos hw]; subst hy; obtain ⟨v', w', hr, h2, h3, h4, h5⟩ := wU (P := P) w base t tx o.type e i z size bytes ht hi hz hsize hby hzs v n xs hown (a.eval x) m news hx Uc h63 hbytes hbase; unfold Oper.wp execOp; simp only [ho, resolve, invoke, builtin, Sem.run_bind, Sem.run_pure, Result.andThen_ok, List.map_toArray, List.map_cons, List.map_nil, hs, hr]; exact h v' w' h2 h3 h4 h5
theorem ux {α : Type} {size : Nat} {e : TypeId} {O : jy α} {w : World} {v : Value} {l : List α} {F : List Nat} (h : aF size e O w v l F) : ∀ b, v.ownBlock = some b -> b ∈ F /\ ∃ cur, w.heap[b]? = some (.cells cur e (0, 0)) := by
 rcases h with ⟨rfl, _, _⟩ | ⟨g, cap, cur, Fs, rfl, hg, _, _, _, _, _, rfl⟩
 ·intro b hb; simp [Value.ownBlock] at hb
 ·intro b hb; simp [Value.ownBlock] at hb; subst hb; exact ⟨by simp, cur, hg⟩
theorem BW {w : World} {v : Value} {l : List aI} {F : List Nat} (h : aF 3 73 fX w v l F) : ∀ b, b ∈ F -> ∃ cur e, w.heap[b]? = some (.cells cur e (0, 0)) /\ e ≠ 68 := by
 rcases h with ⟨rfl, _, rfl⟩ | ⟨g, cap, cur, Fs, rfl, hg, _, _, _, wN, Jl, rfl⟩
 ·intro b hb; cases hb
 ·intro b hb
  rcases List.mem_cons.1 hb with rfl | hb
  ·exact ⟨cur, _, hg, by decide⟩
  ·obtain ⟨j, hj, hjb⟩ := jN hb
   obtain ⟨v1, F1, _, _, ⟨ho, _, LN⟩, _, hF⟩ := Jl j (by omega); rw [hF, List.append_nil, LN] at hjb; rcases ho.2 with ⟨rfl, _⟩ | ⟨g1, aaw, Vq, rfl, _, hg1, _⟩
   ·simp [Value.ownBlock] at hjb
   ·simp [Value.ownBlock] at hjb
    subst hjb; exact ⟨Vq, _, hg1, by decide⟩
theorem BX {w : World} {v : Value} {l : List aB} {F : List Nat} (h : aF 2 68 cN w v l F) : F.Nodup := by
 rcases h with ⟨rfl, _, rfl⟩ | ⟨g, cap, cur, Fs, rfl, hg, _, _, _, wN, Jl, rfl⟩
 ·simp
 ·have hz : Fs.flatten = [] := by
   cases hF : Fs.flatten with
   | nil => rfl
   | cons x r =>
    obtain ⟨j, hj, hjb⟩ := jN (show x ∈ Fs.flatten by rw [hF]; simp); obtain ⟨_, _, _, he⟩ := Jl j (by omega); rw [he] at hjb; cases hjb
  rw [hz]; simp
theorem GV {w : World} {a : Option Addr} {c : Nat} {l : List aB} {F : List Nat} {g n : Nat} {cur : Array Value} {x : aB} (ho : aF 2 68 cN w (.slice a l.length c) l F) (hx : x.ax.size <= 9223372036854775807 /\ (Lit.int .i64 x.bi).wf = true) (hg : w.heap[g]? = some (.cells cur 68 (0, 0))) (lz : n * 2 + 2 <= cur.size) :
  ∃ l', l'.length = l.length /\ bw 2 cy w.heap.size (w.setCells g (n * 2) [.string x.ax, .int .i64 x.bi]) a c l' /\ aP a7 l' <= aP a7 l + x.ax.size := by
 have wV := aF.leaf ay ho
 by_cases Yg : ∃ o, a = some ⟨g, o, none⟩
 ·obtain ⟨o, rfl⟩ := Yg
  have Ud : l ≠ [] -> o = 0 := by
   intro hne; rcases ho with ⟨h, hl, _⟩ | ⟨g2, aax, Vr, Fs2, h, _⟩
   ·exact absurd hl hne
   ·injection h with h1; injection h1 with h1; injection h1
  refine ⟨l.set n x, by simp, ⟨by simpa using wV.1, wV.2.1, fun j hj => ?_⟩, ?_⟩
  ·have hj' : j < l.length := by simpa using hj
   have hoz : o = 0 := Ud (by intro h; subst h; simp at hj'); subst hoz; obtain ⟨b, off, he, hB, cs, h1, h2, h3⟩ := wV.2.2 j hj'; injection he with he
   injection he with IV DW
   subst IV; subst DW
   have Nr := World.cell?_setCells_in g [.string x.ax, .int .i64 x.bi] (n * 2) w (fun k hk => by
    rw [cell_of_row w g _ cur _ (0, 0) hg, Array.getElem?_eq_getElem (by simp at hk; omega)]; rfl)
   by_cases LO : j = n
   ·subst LO
    refine ⟨g, 0, rfl, hB, [.string x.ax, .int .i64 x.bi], rfl, ?_, ?_⟩
    ·intro i u hu
     match i, hu with
     | 0, hu => simp at hu; subst hu; have := Nr 0 (by simp); simpa using this
     | 1, hu => simp at hu; subst hu; have := Nr 1 (by simp); simpa using this
    ·have : (l.set j x)[j] = x := by simp
     rw [this]; exact ⟨rfl, hx.1, hx.2, trivial⟩
   ·refine ⟨g, 0, rfl, hB, cs, h1, ?_, ?_⟩
    ·intro i u hu
     have hi : i < 2 := by rw [<- h1]; exact (List.getElem?_eq_some_iff.1 hu).1
     rw [World.cell?_setCells_out g _ _ w ⟨g, 0 + j * 2 + i, none⟩ (fun _ _ => by simp; omega)]; exact h2 i u hu
    ·have : (l.set n x)[j] = l[j] := List.getElem_set_ne (fun h => LO h.symm) _
     rw [this]; obtain ⟨e1, e2, e3, _⟩ := h3; exact ⟨e1, e2, e3, trivial⟩
  ·have key : ∀ (q : List aB) (k : Nat), aP a7 (q.set k x) <= aP a7 q + x.ax.size := by
    intro q
    induction q with
    | nil => intro k; simp [aP]
    | cons y r ih =>
     intro k; cases k with
     | zero => simp only [List.set_cons_zero, aP, a7]; omega
     | succ k => have := ih k; simp only [List.set_cons_succ, aP]; omega
   exact key l n
 ·refine ⟨l, rfl, ⟨wV.1, wV.2.1, fun j hj => ?_⟩, by omega⟩
  obtain ⟨b, off, he, hB, cs, h1, h2, h3⟩ := wV.2.2 j hj; have hbg : b ≠ g := fun h => Yg ⟨off, by rw [he, h]⟩
  refine ⟨b, off, he, hB, cs, h1, fun i u hu => ?_, ?_⟩
  ·rw [World.cell?_setCells_out g _ _ w ⟨b, _, none⟩ (fun h _ => absurd h hbg)]
   exact h2 i u hu
  ·obtain ⟨e1, e2, e3, _⟩ := h3
   exact ⟨e1, e2, e3, trivial⟩
end Go.Proofs.YtcamcgfbljhbhaaGreatDoor
