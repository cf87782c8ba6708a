/-
  The draws' small functions over a cursor, with lists: what comes out lies within its bounds; only the cursor is written.
-/
import Derived.Test.YtiahmcclmlmgpaaDoorDrawA
namespace Go.Proofs.YtiahmcclmlmgpaaDoor
open Go.RowKit

set_option maxHeartbeats 400000 in
theorem l1Int_ok {g : Nat} {w : World} (la : Option Addr) (m cap : Nat) (ns : List Int) (hc : CurOk w g) (hm : ns.length = m) (h0 : 0 < m) (hm2 : m ≤ 1000000) (B : Nat) (hr : Rd .i64 B w la ns) (hne : ∀ b o, la = some ⟨b, o, none⟩ → b ≠ g) :
    Calls Tryd.prog 55 #[.pointer (some ⟨g, 0, none⟩), .slice la m cap] w fun e w' => ∃ j : Nat, (j < m ∧ e = .returned (.int .i64 (ns.getD j 0))) ∧ CurOk w' g ∧ w.grownBy w' (some g) := by
  have HM : Hid (ns.length = m) := hm
  clear hm
  go_enter Tryd.func55, Tryd.ntmps55
  go_wp2_with fail
  refine (l1Below_ok _ hc).mono ?_
  rintro e w1 ⟨x, rfl, hx, hc1, hg1⟩
  obtain ⟨x, rfl⟩ := Int.eq_ofNat_of_zero_le hx.1
  have hxm : x < m := by omega
  obtain ⟨b1, o1, rfl, hB, hcell⟩ := hr x (by rw [HM.out]; exact hxm)
  have hcell1 : w1.cell? ⟨b1, o1 + x, none⟩ = some (.int .i64 (ns.getD x 0)) := hg1.cell hcell (by have := hne b1 o1 rfl; simpa using this)
  generalize hv : ns.getD x 0 = v at hcell1
  have HV := Hid.mk hv
  clear hv hcell hr hne hx
  go_wp2_with fail
  go_ret
  exact ⟨x, ⟨hxm, by rw [HV.out]; rfl⟩, hc1, hg1⟩

/-- Bytes that a draw made. -/
def Drawn (w w' : World) (v : Value) (g : Nat) (most : Nat) : Prop :=
  ∃ bs : List Int, bs.length ≤ most ∧ BytesOk bs ∧ w'.ownsRow w.heap.size 5 1 v bs.length (bs.map (Value.int .u8)) ∧ CurOk w' g ∧ w.grownBy w' (some g)

theorem own_not {w : World} {base e size n g : Nat} {v : Value} {xs : List Value} (h : w.ownsRow base e size v n xs) (hg : g < base) : v.ownBlock = none ∨ v.ownBlock ≠ some g := by
  cases e1 : v.ownBlock with
  | none => exact .inl rfl
  | some k =>
    right
    have := (h.lt k e1).1
    intro e2
    simp only [Option.some.injEq] at e2
    omega

set_option maxHeartbeats 400000 in
theorem l1Bytes_ok {g : Nat} {w : World} (q : Nat) (hc : CurOk w g) (hq : q ≤ 1000000) :
    Calls Tryd.prog 73 #[.pointer (some ⟨g, 0, none⟩), .int .i64 q] w fun e w' => ∃ v, e = .returned v ∧ Drawn w w' v g q := by
  obtain ⟨i0, hi, hz0, hz1, hz2⟩ := info_parts Tryd.info5
  have hgl := hc.lt
  have hc0 : CurOk (w.alloc (.cells #[] 5)) g := hc.below ((Below.refl _ _).alloc (Nat.le_refl _) _)
  have hg0 : w.grownBy (w.alloc (.cells #[] 5)) (some g) := World.grownBy_alloc w _ _
  have ho0 : (w.alloc (.cells #[] 5)).ownsRow w.heap.size 5 1 (.slice (some ⟨w.heap.size, 0, none⟩) 0 0) 0 [] := World.ownsRow_lit w #[] 0 (Nat.le_refl _) (by decide) rfl
  go_enter Tryd.func73, Tryd.ntmps73
  go_wp2_with fail
  go_loopw [5, 6] (fun o i wr => ∃ k : Nat, k ≤ q ∧ i = .int .i64 k ∧ ∃ bs : List Int, bs.length = k ∧ BytesOk bs ∧ wr.ownsRow w.heap.size 5 1 o k (bs.map (Value.int .u8)) ∧ CurOk wr g ∧ w.grownBy wr (some g)) (fun _ i _ => q - (intOf i).toNat)
  case atStart => exact ⟨0, Nat.zero_le _, rfl, [], rfl, fun z hz => (by cases hz), ho0, hc0, hg0⟩
  case round =>
    obtain ⟨k, hk, rfl, bs, hbl, hbo, hown, hck, hgk⟩ := hrel
    have HBL := Hid.mk hbl
    clear hbl hc0 hg0 ho0 hc
    by_cases hlt : k < q
    · go_wp2_with fail
      refine (l1Byte_ok hck).mono ?_
      rintro e w1 ⟨x, rfl, hx, hc1, hg1⟩
      have hown1 := hown.kept hg1 (own_not hown hgl)
      have hgk1 := grown_trans hgk hg1
      clear hown hck hgk hg1
      go_wp2_with (at_builtin; refine wpList_append_src _ rfl _ _ 22 22 rfl w.heap.size 5 i0 (.int .u8 0) 1 1 Tryd.underlying22 hi hz0 hz1 hz2 rfl _ _ _ rfl (hown1.alloc _) 1 [.int .u8 x] (Src.ofSlice _ Tryd.underlying22 ⟨_, 0, none⟩ 1 1 _ rfl (cell_one_new _ _ _) (oneInt _ _)) (by unfold maxLen; omega) (by omega) (by have := hgk1.size; simp; omega) ?_)
      intro v2 w2 hown2 hgr2
      have hc2 : CurOk w2 g := (hc1.below ((Below.refl _ _).alloc (Nat.le_refl _) _)).grown hgr2 (fun j hj => by have := (hown1.lt j hj).1; omega)
      have hg2 : w.grownBy w2 (some g) := (World.grownBy.andThen (World.grownBy.andThen hgk1 (World.grownBy_alloc w1 _ none) (fun j hj => by cases hj)) hgr2 (fun j hj => Or.inl (hown1.lt j hj).1))
      clear hgr2 hgk1 hown1 hc1
      go_wp2_with fail
      go_roundw
      case rel =>
        refine ⟨k + 1, by omega, by go_num, bs ++ [x], by simp [HBL.out], ?_, own_congr hown2 rfl (by simp), hc2, hg2⟩
        intro z hz
        rcases List.mem_append.1 hz with h | h
        · exact hbo z h
        · simp at h; omega
      case measure => simp [intOf]; omega
    · have hkq : k = q := by omega
      subst hkq
      go_wp2_with fail
      go_ret
      exact ⟨_, rfl, bs, by rw [HBL.out]; exact Nat.le_refl _, hbo, own_congr hown HBL.out.symm rfl, hck, hgk⟩

end Go.Proofs.YtiahmcclmlmgpaaDoor
