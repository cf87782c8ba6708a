/-
  The draws' small functions over a cursor: what comes out lies within its bounds; only the cursor is written.
-/
import Derived.Test.YtconfeecfgdopaaCur
import Derived.Maps.Range
namespace Go.Proofs.Ytconfeecfgdopaa
open Go.RowKit

/-- A cursor at block g over bytes that lie below it. -/
def CurOk (w : World) (g : Nat) : Prop :=
  ∃ a n cap B, ∃ zs : List Int, zs.length = n ∧ n ≤ 140737488351232 ∧ B ≤ g ∧ Rd .u8 B w a zs ∧ Cur w g (.slice a n cap) n ∧ g < w.heap.size

theorem CurOk.lt {w : World} {g : Nat} (h : CurOk w g) : g < w.heap.size := by obtain ⟨_, _, _, _, _, _, _, _, _, _, h⟩ := h; exact h

theorem CurOk.grown {w w' : World} {g : Nat} {r : Option Nat} (h : CurOk w g) (hg : w.grownBy w' r) (hr : ∀ k, r = some k → g < k) : CurOk w' g := by
  obtain ⟨a, n, cap, B, zs, h1, h2, h3, h4, ⟨i, q, h5, h6, h7⟩, h8⟩ := h
  refine ⟨a, n, cap, B, zs, h1, h2, h3, h4.grown hg (fun k hk => by have := hr k hk; omega), ⟨i, q, h5, h6, ?_⟩, Nat.lt_of_lt_of_le h8 hg.size⟩
  rw [hg.block g h8 (fun e => by have := hr g e.symm; omega)]
  exact h7

theorem CurOk.below {w w' : World} {g : Nat} (h : CurOk w g) (hb : Below w.heap.size w w') : CurOk w' g := by
  obtain ⟨a, n, cap, B, zs, h1, h2, h3, h4, ⟨i, q, h5, h6, h7⟩, h8⟩ := h
  refine ⟨a, n, cap, B, zs, h1, h2, h3, h4.below (hb.mono (by omega)), ⟨i, q, h5, h6, ?_⟩, Nat.lt_of_lt_of_le h8 hb.size⟩
  rw [hb.block g h8]
  exact h7

theorem CurOk.drewN {w : World} {g : Nat} (h : CurOk w g) (d : Nat) : CurOk (w.drewN d) g := h

theorem l1Byte_ok {g : Nat} {w : World} (hc : CurOk w g) :
    Calls Try.prog 29 #[.pointer (some ⟨g, 0, none⟩)] w fun e w' => ∃ x : Int, e = .returned (.int .i64 x) ∧ (0 ≤ x ∧ x ≤ 255) ∧ CurOk w' g ∧ w.grownBy w' (some g) := by
  obtain ⟨a, n, cap, B, zs, h1, h2, h3, h4, h5, h8⟩ := hc
  refine (l1Byte_any g n cap B a zs w h1 h2 h4 h3 h5).mono ?_
  rintro e w' ⟨x, rfl, hx, hcur, hg⟩
  exact ⟨x, rfl, hx, ⟨a, n, cap, B, zs, h1, h2, h3, h4.grown hg (fun k hk => by simp at hk; omega), hcur, Nat.lt_of_lt_of_le h8 hg.size⟩, hg⟩

theorem emod_le {a b : Int} (ha : 0 ≤ a) (hb : 0 < b) : a % b ≤ a := by
  have h1 := Int.emod_add_mul_ediv a b
  have h2 := Int.mul_nonneg (show 0 ≤ b by omega) (Int.ediv_nonneg ha (show 0 ≤ b by omega))
  omega

set_option maxHeartbeats 400000 in
theorem l1Below_ok {g : Nat} {w : World} (q : Int) (hc : CurOk w g) :
    Calls Try.prog 26 #[.pointer (some ⟨g, 0, none⟩), .int .i64 q] w fun e w' => ∃ x : Int, e = .returned (.int .i64 x) ∧ (0 ≤ x ∧ x < 16777216 ∧ (0 < q → x < q) ∧ (q ≤ 0 → x = 0)) ∧ CurOk w' g ∧ w.grownBy w' (some g) := by
  by_cases h0 : q ≤ 0
  · go_enter Try.func26, Try.ntmps26
    go_wp2_with fail
    go_ret
    exact ⟨0, rfl, by omega, hc, World.grownBy.refl _ _⟩
  · by_cases h1 : q ≤ 256
    · go_enter Try.func26, Try.ntmps26
      go_wp2_with fail
      refine (l1Byte_ok hc).mono ?_
      rintro e w1 ⟨x, rfl, hx, hc1, hg1⟩
      have hq0 : (q == 0) = false := by simp; omega
      have hm := Int.emod_lt_of_pos x (show 0 < q by omega)
      have hm0 := Int.emod_nonneg x (show q ≠ 0 by omega)
      go_wp2_with fail
      go_ret
      exact ⟨_, rfl, by omega, hc1, hg1⟩
    · go_enter Try.func26, Try.ntmps26
      go_wp2_with fail
      refine (l1Byte_ok hc).mono ?_
      rintro e w1 ⟨x, rfl, hx, hc1, hg1⟩
      go_wp2_with fail
      refine (l1Byte_ok hc1).mono ?_
      rintro e w2 ⟨y, rfl, hy, hc2, hg2⟩
      go_wp2_with fail
      refine (l1Byte_ok hc2).mono ?_
      rintro e w3 ⟨z, rfl, hz, hc3, hg3⟩
      have hq0 : (q == 0) = false := by simp; omega
      have hm := Int.emod_lt_of_pos (x * 65536 + y * 256 + z) (show 0 < q by omega)
      have hm0 := Int.emod_nonneg (x * 65536 + y * 256 + z) (show q ≠ 0 by omega)
      have hm1 := emod_le (a := x * 65536 + y * 256 + z) (b := q) (by omega) (by omega)
      go_wp2_with fail
      go_ret
      exact ⟨_, rfl, by omega, hc3, grown_trans hg1 (grown_trans hg2 hg3)⟩

set_option maxHeartbeats 400000 in
theorem l1Int_ok {g : Nat} {w : World} (la : Option Addr) (m cap : Nat) (ns : List Int) (hc : CurOk w g) (hm : ns.length = m) (h0 : 0 < m) (hm2 : m ≤ 1000000) (B : Nat) (hr : Rd .i64 B w la ns) (hne : ∀ b o, la = some ⟨b, o, none⟩ → b ≠ g) :
    Calls Try.prog 25 #[.pointer (some ⟨g, 0, none⟩), .slice la m cap] w fun e w' => ∃ j : Nat, (j < m ∧ e = .returned (.int .i64 (ns.getD j 0))) ∧ CurOk w' g ∧ w.grownBy w' (some g) := by
  have HM : Hid (ns.length = m) := hm
  clear hm
  go_enter Try.func25, Try.ntmps25
  go_wp2_with fail
  refine (l1Below_ok _ hc).mono ?_
  rintro e w1 ⟨x, rfl, hx, hc1, hg1⟩
  obtain ⟨x, rfl⟩ := Int.eq_ofNat_of_zero_le hx.1
  have hxm : x < m := by omega
  obtain ⟨b1, o1, rfl, hB, hcell⟩ := hr x (by rw [HM.out]; exact hxm)
  have hcell1 : w1.cell? ⟨b1, o1 + x, none⟩ = some (.int .i64 (ns.getD x 0)) := hg1.cell hcell (by have := hne b1 o1 rfl; simpa using this)
  generalize hv : ns.getD x 0 = v at hcell1
  have HV := Hid.mk hv
  clear hv hcell hr hne hx
  go_wp2_with fail
  go_ret
  exact ⟨x, ⟨hxm, by rw [HV.out]; rfl⟩, hc1, hg1⟩

/-- Bytes that a draw made. -/
def Drawn (w w' : World) (v : Value) (g : Nat) (most : Nat) : Prop :=
  ∃ bs : List Int, bs.length ≤ most ∧ BytesOk bs ∧ w'.ownsRow w.heap.size 5 1 v bs.length (bs.map (Value.int .u8)) ∧ CurOk w' g ∧ w.grownBy w' (some g)

theorem own_not {w : World} {base e size n g : Nat} {v : Value} {xs : List Value} (h : w.ownsRow base e size v n xs) (hg : g < base) : v.ownBlock = none ∨ v.ownBlock ≠ some g := by
  cases e1 : v.ownBlock with
  | none => exact .inl rfl
  | some k =>
    right
    have := (h.lt k e1).1
    intro e2
    simp only [Option.some.injEq] at e2
    omega

set_option maxHeartbeats 400000 in
theorem l1Bytes_ok {g : Nat} {w : World} (q : Nat) (hc : CurOk w g) (hq : q ≤ 1000000) :
    Calls Try.prog 28 #[.pointer (some ⟨g, 0, none⟩), .int .i64 q] w fun e w' => ∃ v, e = .returned v ∧ Drawn w w' v g q := by
  obtain ⟨i0, hi, hz0, hz1, hz2⟩ := info_parts Try.info5
  have hgl := hc.lt
  have hc0 : CurOk (w.alloc (.cells #[] 5)) g := hc.below ((Below.refl _ _).alloc (Nat.le_refl _) _)
  have hg0 : w.grownBy (w.alloc (.cells #[] 5)) (some g) := World.grownBy_alloc w _ _
  have ho0 : (w.alloc (.cells #[] 5)).ownsRow w.heap.size 5 1 (.slice (some ⟨w.heap.size, 0, none⟩) 0 0) 0 [] := World.ownsRow_lit w #[] 0 (Nat.le_refl _) (by decide) rfl
  go_enter Try.func28, Try.ntmps28
  go_wp2_with fail
  go_loopw [5, 6] (fun o i wr => ∃ k : Nat, k ≤ q ∧ i = .int .i64 k ∧ ∃ bs : List Int, bs.length = k ∧ BytesOk bs ∧ wr.ownsRow w.heap.size 5 1 o k (bs.map (Value.int .u8)) ∧ CurOk wr g ∧ w.grownBy wr (some g)) (fun _ i _ => q - (intOf i).toNat)
  case atStart => exact ⟨0, Nat.zero_le _, rfl, [], rfl, fun z hz => (by cases hz), ho0, hc0, hg0⟩
  case round =>
    obtain ⟨k, hk, rfl, bs, hbl, hbo, hown, hck, hgk⟩ := hrel
    have HBL := Hid.mk hbl
    clear hbl hc0 hg0 ho0 hc
    by_cases hlt : k < q
    · go_wp2_with fail
      refine (l1Byte_ok hck).mono ?_
      rintro e w1 ⟨x, rfl, hx, hc1, hg1⟩
      have hown1 := hown.kept hg1 (own_not hown hgl)
      have hgk1 := grown_trans hgk hg1
      clear hown hck hgk hg1
      go_wp2_with (at_builtin; refine wpList_append_src _ rfl _ _ 22 22 rfl w.heap.size 5 i0 (.int .u8 0) 1 1 Try.underlying22 hi hz0 hz1 hz2 rfl _ _ _ rfl (hown1.alloc _) 1 [.int .u8 x] (Src.ofSlice _ Try.underlying22 ⟨_, 0, none⟩ 1 1 _ rfl (cell_one_new _ _ _) (oneInt _ _)) (by unfold maxLen; omega) (by omega) (by have := hgk1.size; simp; omega) ?_)
      intro v2 w2 hown2 hgr2
      have hc2 : CurOk w2 g := (hc1.below ((Below.refl _ _).alloc (Nat.le_refl _) _)).grown hgr2 (fun j hj => by have := (hown1.lt j hj).1; omega)
      have hg2 : w.grownBy w2 (some g) := (World.grownBy.andThen (World.grownBy.andThen hgk1 (World.grownBy_alloc w1 _ none) (fun j hj => by cases hj)) hgr2 (fun j hj => Or.inl (hown1.lt j hj).1))
      clear hgr2 hgk1 hown1 hc1
      go_wp2_with fail
      go_roundw
      case rel =>
        refine ⟨k + 1, by omega, by go_num, bs ++ [x], by simp [HBL.out], ?_, own_congr hown2 rfl (by simp), hc2, hg2⟩
        intro z hz
        rcases List.mem_append.1 hz with h | h
        · exact hbo z h
        · simp at h; omega
      case measure => simp [intOf]; omega
    · have hkq : k = q := by omega
      subst hkq
      go_wp2_with fail
      go_ret
      exact ⟨_, rfl, bs, by rw [HBL.out]; exact Nat.le_refl _, hbo, own_congr hown HBL.out.symm rfl, hck, hgk⟩

end Go.Proofs.Ytconfeecfgdopaa
