/-
  The exact law of Unframe: at every slice of bytes and every place the two answers are the same, in memory of their own.
-/
import Derived.Test.YtconfeecfgdopaaDoorBase
import Derived.Test.YtconfeecfgdopaaDoorUnfI
namespace Go.Proofs.YtconfeecfgdopaaDoor
open Go.RowKit
set_option linter.unusedVariables false

set_option maxHeartbeats 1000000 in
theorem law_FnExactUnframe (a : Option Addr) (n cap : Nat) (zs : List Int) (p : Int) (w : World) (hx : zs.length = n) (hn : n ≤ 9223372036854775807) (hb : BytesOk zs) (hr : Rd .u8 w.heap.size w a zs) (ht : TabAt w) :
    Calls Tryd.prog 5 #[.slice a n cap, .int .i64 p] w fun e w' => e = .returned (.bool true) ∧ Below w.heap.size w w' := by
  have HX : Hid (zs.length = n) := hx
  clear hx
  have hsz : 0 < w.heap.size := World.block_lt_of_cell? _ _ (ht 0 (by decide))
  by_cases hbig : 1048576 < n
  · go_enter Tryd.func5, Tryd.ntmps5
    go_wp2
    all_goals
      go_ret
      exact ⟨rfl, Below.refl _ _⟩
  · obtain ⟨⟨R, r1, r2⟩, hU⟩ : ∃ U : List Int × Int × Bool, U = unframe zs p := ⟨_, rfl⟩
    have hRl : R.length ≤ 1048576 := by have h := unframe_len zs p; rw [← hU] at h; have := HX.out; simp only at h; omega
    have HU := Hid.mk hU.symm
    clear hU
    go_enter Tryd.func5, Tryd.ntmps5
    go_wp2_with fail
    refine (toByteS_any a n cap zs _ HX.out (by omega) (by exact hr)).mono ?_
    rintro e w1 ⟨rfl, hown1, hb1⟩
    have hr1 := (hr.below hb1).mono hb1.size
    go_wp2_with fail
    refine (specUnframe_any _ n n zs p _ HX.out (by omega) (Nat.le_refl _) hb (by exact Rd.own HX.out hown1)).mono ?_
    rintro e w2 ⟨v2, rfl, hown2, hb2⟩
    simp only [HU.out] at hown2 ⊢
    obtain ⟨a2, c2, rfl, _, hq2⟩ := own_rd rfl hown2
    have hr2 := (hr1.below hb2).mono hb2.size
    have hB2 := hb1.trans (hb2.mono hb1.size)
    clear hown1 hr1 hb1 hb2
    go_wp2_with fail
    refine (toByteS_any a n cap zs _ HX.out (by omega) (by exact hr2)).mono ?_
    rintro e w3 ⟨rfl, hown3, hb3⟩
    have hq3 := Rd.own HX.out hown3
    have hr3 := (hr2.below hb3).mono hb3.size
    have hB3 := hB2.trans (hb3.mono hB2.size)
    have h2at3 := own_below hown2 hb3
    have hx3 : ∀ k, Value.ownBlock (.slice a2 R.length c2) = some k → k < w2.heap.size := fun k h => (hown2.lt k h).2
    have hs3 : w2.heap.size < w3.heap.size := (hown3.lt w2.heap.size rfl).2
    clear hr2 hb3 hown2 hq2
    go_wp2_with fail
    refine (implUnframe_any _ n n zs p _ HX.out (by omega) (Nat.le_refl _) hb (by exact hq3) (ht.below hB3 hsz)).mono ?_
    rintro e w4 ⟨v4, rfl, hown4, hb4⟩
    simp only [HU.out] at hown4 ⊢
    obtain ⟨a4, c4, rfl, _, hq4⟩ := own_rd rfl hown4
    have hr4 := (hr3.below hb4).mono hb4.size
    have hB4 := hB3.trans (hb4.mono hB3.size)
    have h2at4 := own_below h2at3 hb4
    have h3at4 := own_below hown3 hb4
    have hs4 : w3.heap.size ≤ w4.heap.size := hb4.size
    clear hr3 hb4 h2at3 hown3 hq3
    obtain ⟨_, _, e2, _, hq2⟩ := own_rd rfl h2at4
    simp only [Value.slice.injEq, true_and] at e2
    obtain ⟨rfl, rfl⟩ := e2
    go_wp2_with fail
    refine (eqByteS_any _ _ R.length R.length _ _ R R w4 w4.heap.size rfl rfl (by omega) hq4 hq2).mono ?_
    rintro e w5 ⟨rfl, d5, rfl⟩
    rw [decide_eq_true rfl]
    clear hq4 hq2
    go_wp2_with fail
    refine (toByteS_any a n cap zs _ HX.out (by omega) (by exact hr4)).mono ?_
    rintro e w6 ⟨rfl, hown6, hb6⟩
    have hr6 := (Rd.below (Rd.drewN (d := d5) hr4) hb6).mono hb6.size
    have hB6 := (below_drewN hB4 d5).trans (hb6.mono hB4.size)
    have h2at6 := own_below (own_drewN (d := d5) h2at4) hb6
    have h3at6 := own_below (own_drewN (d := d5) h3at4) hb6
    have h4at6 := own_below (own_drewN (d := d5) hown4) hb6
    have hs6 : w3.heap.size ≤ w6.heap.size := Nat.le_trans hs4 (by simpa using hb6.size)
    clear hr4 hb6 h2at4 h3at4 hown4
    go_wp2_with fail
    refine (eqByteS_any _ _ n n _ _ zs zs w6 w6.heap.size HX.out HX.out (by omega) (Rd.own HX.out h3at6) (Rd.own HX.out hown6)).mono ?_
    rintro e w7 ⟨rfl, d7, rfl⟩
    rw [decide_eq_true rfl]
    clear hown6
    go_wp2_with fail
    refine (markByteS_gen _ n _ w2.heap.size zs 1 _ (by omega) (by omega) (by omega) HX.out (by exact h3at6)).mono ?_
    rintro e w8 ⟨rfl, _, hg8⟩
    have hB8 : Below w.heap.size w w8 := (below_drewN hB6 d7).grown hg8 (by simpa using hB6.size) (fun k h => by simp [Value.ownBlock] at h; have := hB2.size; omega)
    have hr8 : Rd .u8 w.heap.size w8 a zs := hr.below hB8
    have h2at8 := World.ownsRow.kept (own_drewN (d := d7) h2at6) hg8 (own_apart hx3 (own_drewN (d := d7) h3at6))
    have h4at8 := World.ownsRow.kept (own_drewN (d := d7) h4at6) hg8 (own_apart' (B := w3.heap.size) (fun k h => by simp [Value.ownBlock] at h; omega) (own_drewN (d := d7) h4at6))
    clear h2at6 h3at6 h4at6 hg8 hr6
    obtain ⟨_, _, e2, _, hq2⟩ := own_rd rfl h2at8
    simp only [Value.slice.injEq, true_and] at e2
    obtain ⟨rfl, rfl⟩ := e2
    obtain ⟨_, _, e4, _, hq4⟩ := own_rd rfl h4at8
    simp only [Value.slice.injEq, true_and] at e4
    obtain ⟨rfl, rfl⟩ := e4
    go_wp2_with fail
    refine (eqByteS_any _ _ R.length R.length _ _ R R w8 w8.heap.size rfl rfl (by omega) hq4 hq2).mono ?_
    rintro e w9 ⟨rfl, d9, rfl⟩
    rw [decide_eq_true rfl]
    clear hq4 hq2
    go_wp2_with fail
    refine (markByteS_gen _ R.length _ w3.heap.size R 1 _ (by omega) (by omega) (by omega) rfl (by exact h4at8)).mono ?_
    rintro e w10 ⟨rfl, h4at10, hg10⟩
    have hB10 : Below w.heap.size w w10 := (below_drewN hB8 d9).grown hg10 (by simpa using hB8.size) (fun k h => by have := (h4at8.lt k h).1; have := hB2.size; omega)
    have hr10 := (hr.below hB10).mono hB10.size
    have h2at10 := World.ownsRow.kept (own_drewN (d := d9) h2at8) hg10 (own_apart (B := w3.heap.size) (fun k h => by have := hx3 k h; omega) (own_drewN (d := d9) h4at8))
    have hq10 := (own_rd (marks_length 1 R.length) h4at10)
    obtain ⟨_, _, e4, _, hq10⟩ := hq10
    simp only [Value.slice.injEq, true_and] at e4
    obtain ⟨rfl, rfl⟩ := e4
    clear h2at8 h4at8 hg10 hr8
    go_wp2_with fail
    refine (heldByteS_yes _ R.length _ 1 w10 w10.heap.size (by omega) (by omega) (by omega) hq10).mono ?_
    rintro e w11 ⟨rfl, hw11⟩
    subst hw11
    go_wp2_with fail
    refine (toByteS_any a n cap zs _ HX.out (by omega) (by exact hr10)).mono ?_
    rintro e w12 ⟨rfl, hown12, hb12⟩
    have hB12 := hB10.trans (hb12.mono hB10.size)
    have h2at12 := own_below h2at10 hb12
    have h4at12 := own_below h4at10 hb12
    clear hr10 hb12 h2at10 h4at10 hq10
    go_wp2_with fail
    refine (implUnframe_any _ n n zs p _ HX.out (by omega) (Nat.le_refl _) hb (by exact Rd.own HX.out hown12) (ht.below hB12 hsz)).mono ?_
    rintro e w13 ⟨v13, rfl, hown13, hb13⟩
    simp only [HU.out] at hown13 ⊢
    obtain ⟨a13, c13, rfl, _, hq13⟩ := own_rd rfl hown13
    have hB13 := hB12.trans (hb13.mono hB12.size)
    have h2at13 := own_below h2at12 hb13
    have h4at13 := own_below h4at12 hb13
    clear hb13 h2at12 h4at12 hown12
    obtain ⟨_, _, e2, _, hq2⟩ := own_rd rfl h2at13
    simp only [Value.slice.injEq, true_and] at e2
    obtain ⟨rfl, rfl⟩ := e2
    go_wp2_with fail
    refine (eqByteS_any _ _ R.length R.length _ _ R R w13 w13.heap.size rfl rfl (by omega) hq13 hq2).mono ?_
    rintro e w14 ⟨rfl, d14, rfl⟩
    rw [decide_eq_true rfl]
    clear hq13 hq2
    obtain ⟨_, _, e4, _, hq10⟩ := own_rd (marks_length 1 R.length) (own_drewN (d := d14) h4at13)
    simp only [Value.slice.injEq, true_and] at e4
    obtain ⟨rfl, rfl⟩ := e4
    go_wp2_with fail
    refine (heldByteS_yes _ R.length _ 1 _ _ (by omega) (by omega) (by omega) (by exact hq10)).mono ?_
    rintro e w15 ⟨rfl, hw15⟩
    subst hw15
    go_wp2
    go_ret
    exact ⟨rfl, below_drewN hB13 d14⟩

end Go.Proofs.YtconfeecfgdopaaDoor
