/-
  Part 22 of the texts that the proof leans on.
-/
import Derived.Test.YtolciaheoanlbaaGreatDoorPack20
import Derived.Test.YtolciaheoanlbaaGreatDoorPack19
import Derived.Test.YtolciaheoanlbaaGreatDoorPack12
import Derived.Test.YtolciaheoanlbaaGreatDoorPack2
import Derived.Test.YtolciaheoanlbaaGreatDoorPack15
import Derived.Test.YtolciaheoanlbaaGreatDoorPack11
import Derived.Test.YtolciaheoanlbaaGreatDoorPack1
import Derived.Test.YtolciaheoanlbaaGreatDoorPack0
import Derived.Deep.AppendSrc

/-
  The records of a log, as the program reads them: a range over its own iterator, walked in place.
-/
namespace Go.Proofs.YtolciaheoanlbaaGreatDoor
open Go.RowKit Go.Shelf Go.Maps
set_option linter.unusedVariables false
set_option linter.unusedSimpArgs false
set_option maxRecDepth 10000
attribute [local go_sem] Oper.semAt_some
set_option maxHeartbeats 1000000 in
theorem cuts_any (a : Option Addr) (n cap : Nat) (w : World) :
  Calls Tryz.prog 85 #[.slice a n cap] w fun e w' => e = .returned (.func (.func 133) #[] #[.pointer (some ⟨w.heap.size, 0, none⟩)]) ∧ w' = w.alloc (.cells #[.slice a n cap] 62) := by
 go_enter Tryz.func85, Tryz.ntmps85
 go_wp2
 go_ret
 exact ⟨rfl, rfl⟩
def RecW (w : World) (hdr : Value) (W : World) (v : Value) (out : List (List Int)) (F : List Nat) (p : Int) : Prop :=
 Boxed W w.heap.size 31 v ∧ Boxed W (w.heap.size + 1) 3 (.int .i64 p) ∧ Boxed W (w.heap.size + 1 + 1) 62 hdr ∧ W.heap[w.heap.size + 3]? = some (.deferred (some [])) ∧
 ownS 1 62 oBy W v out F ∧ F.Nodup ∧ (∀ b, b ∈ F → w.heap.size + 5 ≤ b) ∧ w.heap.size + 5 ≤ W.heap.size ∧ Below w.heap.size w W
theorem RecW.frame {w : World} {hdr : Value} {W W' : World} {v : Value} {out : List (List Int)} {F : List Nat} {p : Int} (h : RecW w hdr W v out F p) (hs : W.heap.size ≤ W'.heap.size)
  (hk : ∀ b, b < W.heap.size → b ≠ w.heap.size + 4 → W'.heap[b]? = W.heap[b]?) (hb : Below w.heap.size W W') : RecW w hdr W' v out F p := by
 obtain ⟨h1, h2, h3, h4, h5, h6, h7, h8, h9⟩ := h
 refine ⟨(hk _ (by omega) (by omega)).trans h1, (hk _ (by omega) (by omega)).trans h2, (hk _ (by omega) (by omega)).trans h3, (hk _ (by omega) (by omega)).trans h4, ?_, h6, h7, by omega, h9.trans hb⟩
 exact ownS.frame oBy_good h5 (fun b hb' => hk b (ownS.lt oBy_good h5 b hb') (by have := h7 b hb'; omega))
theorem RecW.under {w : World} {hdr : Value} {W W' : World} {v : Value} {out : List (List Int)} {F : List Nat} {p : Int} (h : RecW w hdr W v out F p) (hb : Below W.heap.size W W') : RecW w hdr W' v out F p :=
 h.frame hb.size (fun b hlt _ => hb.block b hlt) (hb.mono h.2.2.2.2.2.2.2.2.size)
theorem RecW.put {w : World} {hdr : Value} {W : World} {v : Value} {out : List (List Int)} {F : List Nat} {p : Int} (h : RecW w hdr W v out F p) (o : Obj) : RecW w hdr (W.putObj (w.heap.size + 4) o) v out F p :=
 h.frame (by simp) (fun b _ hne => World.putObj_heap_other hne) ((Below.refl _ W).grown (grownBy_putObj' W _ o) (by have := h.2.2.2.2.2.2.2.1; omega) (fun k e => by cases e; omega))
theorem RecW.setE {w : World} {hdr : Value} {W : World} {v : Value} {out : List (List Int)} {F : List Nat} {p : Int} (h : RecW w hdr W v out F p) (q : Int) : RecW w hdr (W.setCell ⟨w.heap.size + 1, 0, none⟩ (.int .i64 q)) v out F q := by
 obtain ⟨h1, h2, h3, h4, h5, h6, h7, h8, h9⟩ := h
 have hg := grownBy_setCell' W (w.heap.size + 1) (.int .i64 q)
 have hk : ∀ b, b < W.heap.size → b ≠ w.heap.size + 1 → (W.setCell ⟨w.heap.size + 1, 0, none⟩ (.int .i64 q)).heap[b]? = W.heap[b]? := fun b hb hne => hg.block b hb (fun e => hne (by cases e; rfl))
 refine ⟨(hk _ (by omega) (by omega)).trans h1, h2.set _, (hk _ (by omega) (by omega)).trans h3, (hk _ (by omega) (by omega)).trans h4, ?_, h6, h7, Nat.le_trans h8 hg.size, h9.setCell (p := ⟨w.heap.size + 1, 0, none⟩) (Nat.le_succ _) _⟩
 exact ownS.frame oBy_good h5 (fun b hb' => hk b (ownS.lt oBy_good h5 b hb') (by have := h7 b hb'; omega))
theorem cell_same {W W' : World} {b k : Nat} (h : W'.heap[b]? = W.heap[b]?) : W'.cell? ⟨b, k, none⟩ = W.cell? ⟨b, k, none⟩ := by simp [World.cell?, h]
set_option maxHeartbeats 4000000 in
theorem implRecords_any (a : Option Addr) (n cap : Nat) (zs : List Int) (w : World) (hx : zs.length = n) (hlen : n ≤ 1048576) (hcap : n ≤ cap) (hb : BytesOk zs) (hr : Rd .u8 w.heap.size w a zs) (hT : TabAt w) :
  Calls Tryz.prog 39 #[.slice a n cap] w fun e w' => ∃ v F, e = .returned (.tuple #[v, .int .i64 (recsP zs).2]) ∧ ownS 1 62 oBy w' v (recsP zs).1 F ∧ F.Nodup ∧ (∀ b, b ∈ F → w.heap.size ≤ b) ∧ Below w.heap.size w w' := by
 obtain ⟨i0, hi, hz0, hz1, hz2⟩ := info_parts Tryz.infoBS
 have HX := Hid.mk hx
 have HB := Hid.mk hb
 have HR := Hid.mk hr
 have HT := Hid.mk hT
 clear hx hb hr hT
 refine (callsIn_wide (n := 5)).1 ?_
 refine callsIn_of_wp_marks Tryz.func39 rfl trivial ?_ rfl
 simp only [Tryz.ntmps39, List.size_toArray, List.length_cons, List.length_nil, Nat.reduceAdd, Nat.reduceSub, Array.replicate_succ, Array.replicate_zero, List.push_toArray, List.append_toArray, List.nil_append, List.cons_append]
 gi_wp2_with (refine ⟨trivial, ?_⟩; gi_at_call 85; refine (callsIn_wide.2 (cuts_any _ _ _ _)).mono ?_; rintro e w' ⟨rfl, rfl⟩)
 obtain ⟨W0, hW0⟩ : ∃ W0, W0 = ((w.alloc (.cells #[.slice none 0 0] 31)).alloc (.cells #[.int .i64 0] 3)).alloc (.cells #[.slice a n cap] 62) := ⟨_, rfl⟩
 rw [← hW0]
 have hs0 : W0.heap.size = w.heap.size + 3 := by rw [hW0]; simp
 have bB : Boxed W0 w.heap.size 31 (.slice none 0 0) := by rw [hW0]; exact ((Boxed.new w _ _).alloc _).alloc _
 have bE : Boxed W0 (w.heap.size + 1) 3 (.int .i64 0) := by
  rw [hW0]
  have := Boxed.new (w.alloc (.cells #[.slice none 0 0] 31)) 3 (.int .i64 0)
  rw [World.size_alloc] at this
  exact this.alloc _
 have bH : Boxed W0 (w.heap.size + 1 + 1) 62 (.slice a n cap) := by
  rw [hW0]
  have := Boxed.new ((w.alloc (.cells #[.slice none 0 0] 31)).alloc (.cells #[.int .i64 0] 3)) 62 (.slice a n cap)
  rw [World.size_alloc, World.size_alloc] at this
  exact this
 have hB0 : Below w.heap.size w W0 := by rw [hW0]; exact (((Below.refl _ w).alloc (Nat.le_refl _) _).alloc (by simp) _).alloc (by simp; omega) _
 clear hW0
 refine range_begins (gf := 133) (lb := #[.pointer (some ⟨w.heap.size + 1 + 1, 0, none⟩)]) rfl (enters_of Tryz.func133 (by kernel_rfl) rfl) ?_ (by omega)
 intro fn r hst hpe hps htm has hbo W1 hl hd hs1 hb1
 rw [hs0] at hl hd hs1 ⊢
 have hJ1 : RecW w (.slice a n cap) W1 (.slice none 0 0) [] [] 0 := ⟨(hb1.block _ (by omega)).trans bB, (hb1.block _ (by omega)).trans bE, (hb1.block _ (by omega)).trans bH, hd, .inl ⟨rfl, rfl, rfl⟩, by simp, by simp, by omega, hB0.trans (hb1.mono (by omega))⟩
 clear bB bE bH hB0 hb1 hs1 hd hs0
 simp only [List.append_toArray, List.nil_append, List.cons_append]
 refine (callsIn_wide (n := 3)).1 ?_
 refine callsIn_of_wp Tryz.func133 rfl trivial ?_ rfl
 simp only [Tryz.ntmps133, List.size_toArray, List.length_cons, List.length_nil, Nat.reduceAdd, Nat.reduceSub, Array.replicate_succ, Array.replicate_zero, List.push_toArray, List.append_toArray, List.nil_append, List.cons_append]
 gi_wp2
 gi_loopw [3, 4] (fun pv wh wr => ∃ (p : Nat) (out : List (List Int)) (v : Value) (F : List Nat), p ≤ n ∧ out.length ≤ p ∧ pv = .int .i64 p ∧ wh = .bool true ∧ RecAt zs out p ∧ RecW w (.slice a n cap) wr v out F p ∧ wr.heap[w.heap.size + 3 + 1]? = some (.loop r)) (fun pv _ _ => n + 1 - (intOf pv).toNat)
 case atStart => exact ⟨0, [], _, [], Nat.zero_le _, Nat.le_refl _, rfl, rfl, RecAt.start zs, hJ1, hl⟩
 case round =>
  obtain ⟨p, out, v, F, hp, hol, rfl, rfl, hra, hJ, hlr⟩ := hrel
  have hBw := hJ.2.2.2.2.2.2.2.2
  have hcH := hJ.2.2.1.cell
  have HRA := Hid.mk hra
  have HJ := Hid.mk hJ
  clear hra hJ
  have hR1 := (HR.out.below hBw).mono hBw.size
  gi_wp2_with fail
  refine ⟨trivial, ?_⟩
  refine (callsIn_wide.2 (implUnframe_any a n cap zs p wr HX.out (by omega) hcap HB.out hR1 (HT.out.below hBw HT.out.size))).mono ?_
  rintro e w1 ⟨v1, rfl, ho1, hx1⟩
  have hJ1 := HJ.out.under hx1
  have hl1 : w1.heap[w.heap.size + 3 + 1]? = some (.loop r) := (hx1.block _ (by have := HJ.out.2.2.2.2.2.2.2.1; omega)).trans hlr
  obtain ⟨r1, q1, rfl, _, _⟩ := own_rd rfl ho1
  cases hu : (unframe zs p).2.2 with
  | false =>
   have HD : Hid (recsP zs = (out, (p : Int))) := RecAt.done HRA.out (by rw [HX.out]; omega) hu
   have hbad := unframe_bad hu
   rw [hbad] at ho1 ⊢
   have hy := run_yield (P := Tryz.prog) (args := #[.agg #[.slice r1 0 q1, .int .i64 p], .bool false]) hl1 (by rw [hps]; rfl)
   gi_wp2_with fail
   refine round_runs hst ?_
   gi_wp2_with fail
   obtain ⟨w2, hw2⟩ : ∃ x, x = w1.alloc (.cells #[.slice r1 0 q1, .int .i64 p] 122) := ⟨_, rfl⟩
   rw [← hw2]
   have hx2 : Below w1.heap.size w1 w2 := by rw [hw2]; exact (Below.refl _ _).alloc (Nat.le_refl _) _
   have hJ2 := hJ1.under hx2
   have hs1 := hJ1.2.2.2.2.2.2.2.1
   have hl2 : w2.heap[w.heap.size + 3 + 1]? = some (.loop r) := (hx2.block _ (by omega)).trans hl1
   have hbx : Bx w2 w1.heap.size [.slice r1 0 q1, .int .i64 p] := by rw [hw2]; exact Bx.new _ _ _
   refine ⟨hl2, ?_⟩
   obtain ⟨w3, hw3⟩ : ∃ x, x = w2.putObj (w.heap.size + 3 + 1) (.loop { r with state := .busy }) := ⟨_, rfl⟩
   rw [← hw3]
   have hJ3 : RecW w (.slice a n cap) w3 v out F p := by rw [hw3]; exact hJ2.put _
   have hl3 : w3.heap[w.heap.size + 3 + 1]? = some (.loop { r with state := .busy }) := by rw [hw3]; exact World.putObj_heap_same (Array.getElem?_eq_some_iff.1 hl2).1
   have d0 : w3.cell? ⟨w1.heap.size, 0, none⟩ = some (.slice r1 0 q1) := by rw [hw3, cell_same (World.putObj_heap_other (by omega))]; exact hbx.2 0 _ rfl
   have d1 : w3.cell? ⟨w1.heap.size, 1, none⟩ = some (.int .i64 p) := by rw [hw3, cell_same (World.putObj_heap_other (by omega))]; exact hbx.2 1 _ rfl
   have hcE := hJ3.2.1.cell
   have hfE := hJ3.2.1.frozen
   clear hw2 hw3 hbx hl2 hJ2 hJ1 hl1 hy
   gi_wp2_with fail
   obtain ⟨w4, hw4⟩ : ∃ x, x = w3.setCell ⟨w.heap.size + 1, 0, none⟩ (.int .i64 p) := ⟨_, rfl⟩
   rw [← hw4]
   have hJ4 : RecW w (.slice a n cap) w4 v out F p := by rw [hw4]; exact hJ3.setE p
   have hl4 : w4.heap[w.heap.size + 3 + 1]? = some (.loop { r with state := .busy }) := by rw [hw4]; exact ((grownBy_setCell' w3 (w.heap.size + 1) (.int .i64 p)).block _ (Array.getElem?_eq_some_iff.1 hl3).1 (by simp)).trans hl3
   clear hw4 hJ3 hl3 d0 d1 hcE hfE
   refine ⟨hl4, ?_⟩
   obtain ⟨w5, hw5⟩ : ∃ x, x = w4.putObj (w.heap.size + 3 + 1) (.loop { r with state := .done, pending := some (.exit 0) }) := ⟨_, rfl⟩
   rw [← hw5]
   have hJ5 : RecW w (.slice a n cap) w5 v out F p := by rw [hw5]; exact hJ4.put _
   have hl5 : w5.heap[w.heap.size + 3 + 1]? = some (.loop { r with state := .done, pending := some (.exit 0) }) := by rw [hw5]; exact World.putObj_heap_same (Array.getElem?_eq_some_iff.1 hl4).1
   clear hw5 hJ4 hl4
   gi_wp2_with fail
   refine bodyPost_ret (results_none rfl _ _ _) rfl ?_
   refine ⟨⟨_, rfl⟩, _, hl5, by simp, hJ5.2.2.2.1, ?_⟩
   have hJ6 := hJ5.put (.loop { ({ r with state := .done, pending := some (.exit 0) } : Loop) with state := .exhausted })
   obtain ⟨w6, hw6⟩ : ∃ x, x = w5.putObj (w.heap.size + 3 + 1) (.loop { ({ r with state := .done, pending := some (.exit 0) } : Loop) with state := .exhausted }) := ⟨_, rfl⟩
   rw [show w.heap.size + 4 = w.heap.size + 3 + 1 from rfl, ← hw6] at hJ6
   rw [← hw6]
   clear hw6 hJ5 hl5
   have hcB := hJ6.1.cell
   have hcE := hJ6.2.1.cell
   show Code.wpIn _ _ _ (.exit 0) _ _ _
   gi_wp2_with fail
   have hmix : Tryz.prog.follows .mixedOrders = true := by kernel_rfl
   have hlate : Tryz.prog.follows .lateStores = true := by kernel_rfl
   gi_region
   all_goals gi_wp2_with fail
   have hK : w6.drew.heap[w.heap.size + 3]? = some (.deferred (some [])) := hJ6.2.2.2.1
   have h5 := hJ6.2.2.2.2.1
   have h7 := hJ6.2.2.2.2.2.2.1
   have h8 := hJ6.2.2.2.2.2.2.2.1
   refine ⟨by simp, .inl ⟨_, _, rfl, run_takeDeferred hK, ?_⟩⟩
   refine ⟨.tuple #[v, .int .i64 p], by simp [results, Tryz.results39, go_sem], v, F, by rw [HD.out], ?_, hJ6.2.2.2.2.2.1, fun b hb => by have := h7 b hb; omega, ?_⟩
   ·rw [HD.out]
    exact ownS.frame oBy_good h5 (fun b hb => World.putObj_heap_other (by have := h7 b hb; omega))
   ·exact (Below.drew hJ6.2.2.2.2.2.2.2.2).trans (belowK_b (w := w) (Nat.le_refl _) _ _ _ _ (by omega) hK rfl rfl)
  | true =>
   have hbd := unframe_bd HB.out hu
   have HN := Hid.mk (RecAt.on HB.out HRA.out hu)
   obtain ⟨bd, hbdd⟩ : ∃ x, x = (unframe zs p).1 := ⟨_, rfl⟩
   obtain ⟨nx, hnx⟩ : ∃ x : Nat, (x : Int) = (unframe zs p).2.1 := ⟨(unframe zs p).2.1.toNat, by omega⟩
   rw [← hbdd] at ho1 hbd HN
   rw [← hbdd]
   rw [← hnx] at hbd HN ⊢
   have hln : (nx : Int) ≤ n := by have := hbd.2.2.1; rw [HX.out] at this; exact this
   have hon : (p : Int) < nx := hbd.2.1
   have hbl : bd.length ≤ n := by have := hbd.2.2.2.2; rw [HX.out] at this; exact this
   have hO1 := newB_own hbd.2.2.2.1 ho1
   have hF1 : ∀ b, b ∈ (Value.slice r1 bd.length q1).ownBlock.toList → wr.heap.size ≤ b := fun b hb => (ho1.lt b (by simpa using hb)).1
   have hF2 : ∀ b, b ∈ (Value.slice r1 bd.length q1).ownBlock.toList → b < w1.heap.size := fun b hb => (ho1.lt b (by simpa using hb)).2
   have HLT : Hid (∀ b, b ∈ F → b < wr.heap.size) := fun b hb => ownS.lt oBy_good HJ.out.2.2.2.2.1 b hb
   have hs0 := HJ.out.2.2.2.2.2.2.2.1
   clear hbdd hnx hu hbd ho1
   have hy := run_yield (P := Tryz.prog) (args := #[.agg #[.slice r1 bd.length q1, .int .i64 nx], .bool true]) hl1 (by rw [hps]; rfl)
   gi_wp2_with fail
   refine round_runs hst ?_
   gi_wp2_with fail
   obtain ⟨w2, hw2⟩ : ∃ x, x = w1.alloc (.cells #[.slice r1 bd.length q1, .int .i64 nx] 122) := ⟨_, rfl⟩
   rw [← hw2]
   have hx2 : Below w1.heap.size w1 w2 := by rw [hw2]; exact (Below.refl _ _).alloc (Nat.le_refl _) _
   have hJ2 := hJ1.under hx2
   have hs1 := hJ1.2.2.2.2.2.2.2.1
   have hl2 : w2.heap[w.heap.size + 3 + 1]? = some (.loop r) := (hx2.block _ (by omega)).trans hl1
   have hbx : Bx w2 w1.heap.size [.slice r1 bd.length q1, .int .i64 nx] := by rw [hw2]; exact Bx.new _ _ _
   have hO2 := oBy_good.frame hO1 (fun b hb => hx2.block b (oBy_good.lt hO1 b hb))
   refine ⟨hl2, ?_⟩
   obtain ⟨w3, hw3⟩ : ∃ x, x = w2.putObj (w.heap.size + 3 + 1) (.loop { r with state := .busy }) := ⟨_, rfl⟩
   rw [← hw3]
   have hJ3 : RecW w (.slice a n cap) w3 v out F p := by rw [hw3]; exact hJ2.put _
   have hl3 : w3.heap[w.heap.size + 3 + 1]? = some (.loop { r with state := .busy }) := by rw [hw3]; exact World.putObj_heap_same (Array.getElem?_eq_some_iff.1 hl2).1
   have hO3 := oBy_good.frame (w' := w3) hO2 (fun b hb => by rw [hw3]; exact World.putObj_heap_other (by have := hF1 b hb; omega))
   have hs3 : w1.heap.size < w3.heap.size := by rw [hw3]; simp; exact hbx.1
   have d0 : w3.cell? ⟨w1.heap.size, 0, none⟩ = some (.slice r1 bd.length q1) := by rw [hw3, cell_same (World.putObj_heap_other (by omega))]; exact hbx.2 0 _ rfl
   have d1 : w3.cell? ⟨w1.heap.size, 1, none⟩ = some (.int .i64 nx) := by rw [hw3, cell_same (World.putObj_heap_other (by omega))]; exact hbx.2 1 _ rfl
   obtain ⟨w4, hw4⟩ : ∃ x, x = w3.setCell ⟨w.heap.size + 1, 0, none⟩ (.int .i64 nx) := ⟨_, rfl⟩
   have hJ4 : RecW w (.slice a n cap) w4 v out F nx := by rw [hw4]; exact hJ3.setE nx
   have hg4 := grownBy_setCell' w3 (w.heap.size + 1) (.int .i64 nx)
   rw [← hw4] at hg4
   have hl4 : w4.heap[w.heap.size + 3 + 1]? = some (.loop { r with state := .busy }) := (hg4.block _ (Array.getElem?_eq_some_iff.1 hl3).1 (by simp)).trans hl3
   have e0 : w4.cell? ⟨w1.heap.size, 0, none⟩ = some (.slice r1 bd.length q1) := by rw [cell_same (hg4.block _ hs3 (by simp; omega))]; exact d0
   have hO4 := oBy_good.frame (w' := w4) hO3 (fun b hb => hg4.block b (oBy_good.lt hO3 b hb) (by have := hF1 b hb; simp; omega))
   have hcE := hJ3.2.1.cell
   have hfE := hJ3.2.1.frozen
   have hcB := hJ4.1.cell
   obtain ⟨xs, hxs, hpush⟩ := ownS.push oBy_good (ownS.frame oBy_good hJ4.2.2.2.2.1 (fun b hb => (show Below w4.heap.size w4 (w4.alloc (.cells #[.slice r1 bd.length q1] 62)) from (Below.refl _ _).alloc (Nat.le_refl _) _).block b (ownS.lt oBy_good hJ4.2.2.2.2.1 b hb))) hJ4.2.2.2.2.2.1
   obtain ⟨w5, hw5⟩ : ∃ x, x = w4.alloc (.cells #[.slice r1 bd.length q1] 62) := ⟨_, rfl⟩
   rw [← hw5] at hxs hpush
   have hx5 : Below w4.heap.size w4 w5 := by rw [hw5]; exact (Below.refl _ _).alloc (Nat.le_refl _) _
   have hz4 : w4.heap.size = w3.heap.size := by rw [hw4]; simp
   have hbx5 : Bx w5 w3.heap.size [.slice r1 bd.length q1] := by rw [← hz4, hw5]; exact Bx.new _ _ _
   have hJ5 := hJ4.under hx5
   have hl5 : w5.heap[w.heap.size + 3 + 1]? = some (.loop { r with state := .busy }) := (hx5.block _ (Array.getElem?_eq_some_iff.1 hl4).1).trans hl4
   have hO5 := oBy_good.frame hO4 (fun b hb => hx5.block b (oBy_good.lt hO4 b hb))
   have hob := ownS_in hJ5.2.2.2.2.1
   have HL5 := Hid.mk hl5
   have HPU := Hid.mk hpush
   have HJ5 := Hid.mk hJ5
   have HOB := Hid.mk hob
   rw [hw4] at hcB e0
   clear hw2 hw3 hbx hl2 hJ2 hJ1 hl1 hy hO2 hO3 hO1 hpush hJ5 hl5 hob hJ4 hJ3 hl3 hl4 hO4 hg4 hz4
   gi_wp2_with (gi_at_builtin; rw [← hw4, ← hw5]; refine wpListIn_append_own_at _ rfl _ _ 31 rfl 0 62 i0 (.slice none 0 0) 1 24 Tryz.underlying31 hi hz0 hz1 hz2 rfl (by decide) _ _ _ rfl hxs ⟨w3.heap.size, 0, none⟩ 1 1 [.slice r1 bd.length q1] rfl rfl (bx_news hbx5) (by intro u hu; simp at hu; subst hu; rfl) (by unfold maxLen; omega) (by omega) (by omega) ?_; intro v6 w6 hown6 hgrow6 hnil6 hloc6; obtain ⟨g6, cap6, rfl⟩ := ownsRow_succ hown6; have hb6 : Boxed w6 w.heap.size 31 v := (hgrow6.block _ HJ5.out.1.lt (fun e => by have := HJ5.out.2.2.2.2.2.2.1 _ (HOB.out _ e.symm); omega)).trans HJ5.out.1; have hc6 := hb6.cell; have hf6 := hb6.frozen)
   obtain ⟨F', hF', hN', hin⟩ := HPU.out w6 _ _ bd _ hown6 hgrow6 hloc6 hO5 (by cases (Value.ownBlock _) <;> simp) (fun b hb hbF => by have h1 := hF1 b hb; have h2 := HLT.out b hbF; omega)
   have hs5 := HJ5.out.2.2.2.2.2.2.2.1
   have hge' : ∀ b, b ∈ F' → w.heap.size + 5 ≤ b := fun b hb => by
    rcases hin b hb with h | h | h
    ·exact HJ5.out.2.2.2.2.2.2.1 b h
    ·exact Nat.le_trans hs0 (hF1 b h)
    ·rw [h]; exact hs5
   have hk6 : ∀ b, b < w.heap.size + 5 → w6.heap[b]? = w5.heap[b]? := fun b hb => hgrow6.block b (by omega) (fun e => by have := HJ5.out.2.2.2.2.2.2.1 b (HOB.out b e.symm); omega)
   have hz6 := hgrow6.size
   have hB6 := HJ5.out.2.2.2.2.2.2.2.2.grown hgrow6 HJ5.out.2.2.2.2.2.2.2.2.size (fun k e => by have := HJ5.out.2.2.2.2.2.2.1 k (HOB.out k e); omega)
   have hg7 := grownBy_setCell' w6 w.heap.size (.slice (some ⟨g6, 0, none⟩) (out.length + 1) cap6)
   obtain ⟨w7, hw7⟩ : ∃ x, x = w6.setCell ⟨w.heap.size, 0, none⟩ (.slice (some ⟨g6, 0, none⟩) (out.length + 1) cap6) := ⟨_, rfl⟩
   have hb7 : Boxed w7 w.heap.size 31 (.slice (some ⟨g6, 0, none⟩) (out.length + 1) cap6) := by rw [hw7]; exact hb6.set _
   have hB7 : Below w.heap.size w w7 := by rw [hw7]; exact hB6.setCell (p := ⟨w.heap.size, 0, none⟩) (Nat.le_refl _) _
   rw [← hw7] at hg7 ⊢
   have hk7 : ∀ b, b < w6.heap.size → b ≠ w.heap.size → w7.heap[b]? = w6.heap[b]? := fun b hb hne => hg7.block b hb (fun e => hne (by cases e; rfl))
   have hk76 : ∀ b, b < w.heap.size + 5 → b ≠ w.heap.size → w7.heap[b]? = w5.heap[b]? := fun b hb hne => (hk7 b (by omega) hne).trans (hk6 b hb)
   have hJ7 : RecW w (.slice a n cap) w7 (.slice (some ⟨g6, 0, none⟩) (out.length + 1) cap6) (out ++ [bd]) F' nx :=
    ⟨hb7, (hk76 _ (by omega) (by omega)).trans HJ5.out.2.1, (hk76 _ (by omega) (by omega)).trans HJ5.out.2.2.1, (hk76 _ (by omega) (by omega)).trans HJ5.out.2.2.2.1,
     ownS.frame oBy_good hF' (fun b hb => hk7 b (ownS.lt oBy_good hF' b hb) (by have := hge' b hb; omega)), hN', hge', by have := hg7.size; omega, hB7⟩
   have hl7 : w7.heap[w.heap.size + 3 + 1]? = some (.loop { r with state := .busy }) := (hk76 _ (by omega) (by omega)).trans HL5.out
   clear hw7 hb7 hB7 hk7 hk76 hg7 hB6 hk6 hF' hb6 hc6 hf6 hown6 hgrow6 hnil6 hloc6 hO5 hbx5 hxs
   refine ⟨hl7, ?_⟩
   have her : ({ r with state := .ready, pending := none } : Loop) = r := by cases r; simp only at hst hpe; subst hst; subst hpe; rfl
   rw [her]
   obtain ⟨w8, hw8⟩ : ∃ x, x = w7.putObj (w.heap.size + 3 + 1) (.loop r) := ⟨_, rfl⟩
   have hJ8 : RecW w (.slice a n cap) w8 (.slice (some ⟨g6, 0, none⟩) (out.length + 1) cap6) (out ++ [bd]) F' nx := by rw [hw8]; exact hJ7.put _
   have hl8 : w8.heap[w.heap.size + 3 + 1]? = some (.loop r) := by rw [hw8]; exact World.putObj_heap_same (Array.getElem?_eq_some_iff.1 hl7).1
   rw [← hw8]
   clear hw8 hJ7 hl7 her
   gi_wp2_with fail
   go_roundw
   case rel => exact ⟨nx, out ++ [bd], _, F', by omega, by simp; omega, rfl, rfl, HN.out, hJ8, hl8⟩
   case measure => simp [intOf]; omega
end Go.Proofs.YtolciaheoanlbaaGreatDoor

/-
  The program's Bytes.
-/
namespace Go.Proofs.YtolciaheoanlbaaGreatDoor
open Go.RowKit Go.Maps
set_option linter.unusedVariables false
set_option linter.unusedSimpArgs false
set_option maxRecDepth 10000
end Go.Proofs.YtolciaheoanlbaaGreatDoor

/-
  The specification's Bytes.
-/
namespace Go.Proofs.YtolciaheoanlbaaGreatDoor
open Go.RowKit
set_option linter.unusedVariables false
set_option linter.unusedSimpArgs false
set_option maxRecDepth 10000
abbrev qb4d_32_3_0 : Oper := ⟨some 12, .load 30 (.tmp 2), 30, "l02_files.go:234", #[], none⟩
abbrev qb4d_32_3_1 : Oper := ⟨some 13, .fieldAddr 30 (.tmp 2) 1, 0, "l02_files.go:234", #[], none⟩
abbrev qb4d_32_3_2 : Oper := ⟨some 14, .load 28 (.tmp 13), 28, "l02_files.go:234", #[⟨1, .data⟩], none⟩
abbrev qb4d_32_3_3 : Oper := ⟨some 15, .fieldAddr 30 (.tmp 2) 1, 0, "l02_files.go:234", #[], none⟩
abbrev qb4d_32_3_4 : Oper := ⟨some 16, .load 28 (.tmp 15), 28, "l02_files.go:234", #[⟨3, .data⟩], none⟩
abbrev qb4d_32_3_5 : Oper := ⟨some 17, .move (.tmp 1), 9, "l02_files.go:234", #[], none⟩
abbrev qb4d_32_3_6 : Oper := ⟨some 18, .call { callee := .value (.func 72), args := #[.tmp 16, .tmp 17], argTypes := #[28, 9] }, 3, "l02_files.go:234", #[⟨4, .data⟩, ⟨5, .data⟩], none⟩
abbrev qb4d_32_3_7 : Oper := ⟨some 19, .indexAddr 28 (.tmp 14) (.tmp 18), 0, "l02_files.go:234", #[⟨2, .data⟩, ⟨6, .data⟩], none⟩
abbrev qb4d_32_3_8 : Oper := ⟨some 20, .fieldAddr 106 (.tmp 19) 1, 0, "l02_files.go:234", #[⟨7, .data⟩], none⟩
abbrev qb4d_32_3_9 : Oper := ⟨some 21, .load 3 (.tmp 20), 3, "l02_files.go:234", #[⟨8, .data⟩], none⟩
abbrev qb4d_32_3_10 : Oper := ⟨some 22, .call { callee := .value (.func 73), args := #[.tmp 12, .tmp 21], argTypes := #[30, 3] }, 3, "l02_files.go:234", #[⟨0, .data⟩, ⟨9, .data⟩, ⟨6, .chain⟩], none⟩
abbrev qb4d_32_3_11 : Oper := ⟨some 6, .assign (.tmp 22), 3, "l02_files.go:234", #[⟨10, .data⟩, ⟨10, .chain⟩, ⟨0, .phase⟩, ⟨1, .phase⟩, ⟨2, .phase⟩, ⟨3, .phase⟩, ⟨4, .phase⟩, ⟨5, .phase⟩, ⟨6, .phase⟩, ⟨7, .phase⟩, ⟨8, .phase⟩, ⟨9, .phase⟩, ⟨10, .phase⟩], none⟩
set_option maxHeartbeats 4000000 in
theorem specBytes_c (cs : List Value) (m : MDisk) (s : ByteArray) (w : World) (hr : rDisk w.heap.size w cs m) (hs : s.size ≤ 9223372036854775807) (hw : wDisk m ≤ 1048576) (hw1 : s.size ≤ 1048576) :
  Calls Tryz.prog 32 #[.agg cs.toArray, .string s] w fun e w' => ∃ v : Value, e = .returned (.tuple #[v, .bool (decide (callP m s = 0))]) ∧ rdB w'.heap.size w' v (bytesP m s) ∧ Below w.heap.size w w' := by
 have hq := hr
 obtain ⟨a0, c0, a1, c1, a2, c2, rfl, hI, hNm, hSf, hnx, _⟩ := hq
 have hw2 : m.fInodes.length + sumW wInode m.fInodes + (m.fNames.length + sumW wEntry m.fNames) + (m.fSafe.length + sumW wEntry m.fSafe) ≤ 1048576 := hw
 have HW := Hid.mk hw
 have HR := Hid.mk hr
 have HI := Hid.mk hI
 have HNL := Hid.mk hNm
 clear hr hI hNm hSf hw
 obtain ⟨i0, hi, hz0, hz1, hz2⟩ := info_parts Tryz.info5
 have hbA := (Below.refl w.heap.size w).alloc (Nat.le_refl _) (.cells #[.slice a0 m.fInodes.length c0, .slice a1 m.fNames.length c1, .slice a2 m.fSafe.length c2, .int .i64 m.fNext] 30)
 go_enter Tryz.func32, Tryz.ntmps32
 go_wp2_with fail
 refine (l2Call_any _ m s _ (rDisk_good.mono (rDisk_good.below HR.out hbA) hbA.size) HW.out hs).mono ?_
 rintro e w1 ⟨rfl, hx1⟩
 have hb1 := bthen hbA hx1
 have hbx := (Bx.new w [.slice a0 m.fInodes.length c0, .slice a1 m.fNames.length c1, .slice a2 m.fSafe.length c2, .int .i64 m.fNext] 30).under hx1
 by_cases hC : callP m s = 0
 ·have hok : diskOk m = true ∧ hasName m.fNames s = true := by
   unfold callP at hC
   by_cases h : (diskOk m && nameOk s) = true
   ·rw [if_pos h] at hC
    rw [Bool.and_eq_true] at h
    by_cases h2 : hasName m.fNames s = true
    ·exact ⟨h.1, h2⟩
    ·rw [if_neg h2] at hC; cases hC
   ·rw [if_neg h] at hC; cases hC
  obtain ⟨hk, hid, hhas⟩ := file_there hok.1 hok.2
  obtain ⟨hpl, hpi⟩ := hasId_at hhas
  have HD : Hid (bytesP m s = m.fInodes[placeOf m.fInodes (idOf m.fNames s)].fData) := by
   show bytesP m s = _
   unfold bytesP dataOf
   rw [if_pos hC, List.getElem?_eq_getElem hpl]
   rfl
  have hnz : nameZ m.fNames s = (nameAt m.fNames s : Int) := by unfold nameZ; rw [hok.2, if_pos rfl]
  have hpz : placeZ m.fInodes (idOf m.fNames s) = (placeOf m.fInodes (idOf m.fNames s) : Int) := by unfold placeZ; rw [hhas, if_pos rfl]
  have HC := Hid.mk hC
  have hwk := sumW_le (f := wInode) hpl
  have hdl : m.fInodes[placeOf m.fInodes (idOf m.fNames s)].fData.length ≤ 1048576 := by have : wInode m.fInodes[placeOf m.fInodes (idOf m.fNames s)] = m.fInodes[placeOf m.fInodes (idOf m.fNames s)].fData.length := rfl; omega
  obtain ⟨b1, o1, rfl, hB1, cs1, hcl1, hcell1, rfl, hrest1⟩ := (HNL.out.2.2.below rEntry_good hb1) (nameAt m.fNames s) hk
  have k1 := hcell1 1 _ rfl
  rw [← hid] at k1
  have hy1 : b1 < w1.heap.size := Nat.lt_of_lt_of_le hB1 hb1.size
  have q1 : ∀ W, Below w1.heap.size w1 W → W.cell? ⟨b1, o1 + nameAt m.fNames s * 2 + 1, none⟩ = some (.int .i64 (idOf m.fNames s)) := fun W hb => (hb.cell (p := ⟨b1, o1 + nameAt m.fNames s * 2 + 1, none⟩) hy1).trans k1
  have hCt := fun W (hb : Below w1.heap.size w1 W) => l2At_any (some ⟨b1, o1, none⟩) _ c1 m.fNames s W w.heap.size rfl (by omega) (HNL.out.2.2.below rEntry_good (bthen hb1 hb))
  have hCi := fun W (hb : Below w1.heap.size w1 W) => l2Inode_any _ m (idOf m.fNames s) W (rDisk_good.mono (rDisk_good.below HR.out (bthen hb1 hb)) (bthen hb1 hb).size) (by omega)
  simp only [hnz] at hCt
  simp only [hpz] at hCi
  rw [hC]
  have p0 : ∀ W, Below w1.heap.size w1 W → W.cell? ⟨w.heap.size, 0, none⟩ = some (.slice a0 m.fInodes.length c0) := fun W hb => (hbx.under hb).2 0 _ rfl
  have p1 : ∀ W, Below w1.heap.size w1 W → W.cell? ⟨w.heap.size, 1, none⟩ = some (.slice (some ⟨b1, o1, none⟩) m.fNames.length c1) := fun W hb => (hbx.under hb).2 1 _ rfl
  have p2 : ∀ W, Below w1.heap.size w1 W → W.cell? ⟨w.heap.size, 2, none⟩ = some (.slice a2 m.fSafe.length c2) := fun W hb => (hbx.under hb).2 2 _ rfl
  have p3 : ∀ W, Below w1.heap.size w1 W → W.cell? ⟨w.heap.size, 3, none⟩ = some (.int .i64 m.fNext) := fun W hb => (hbx.under hb).2 3 _ rfl
  have hu1 : (0 : Int) ≤ (nameAt m.fNames s : Int) := by omega
  have hu2 : (nameAt m.fNames s : Int) < (m.fNames.length : Int) := by omega
  have hu3 : (0 : Int) ≤ (placeOf m.fInodes (idOf m.fNames s) : Int) := by omega
  have hu4 : (placeOf m.fInodes (idOf m.fNames s) : Int) < (m.fInodes.length : Int) := by omega
  obtain ⟨dt, hdt⟩ : ∃ dt, dt = m.fInodes[placeOf m.fInodes (idOf m.fNames s)].fData := ⟨_, rfl⟩
  rw [← hdt] at hdl
  have HD2 : Hid (bytesP m s = dt) := HD.out.trans hdt.symm
  have HPL2 : Hid (∀ W, Below w.heap.size w W → ∃ b off ad cd, a0 = some ⟨b, off, none⟩ ∧ b < w.heap.size ∧ W.cell? ⟨b, off + placeOf m.fInodes (idOf m.fNames s) * 3 + 1, none⟩ = some (.slice ad dt.length cd) ∧ LeafB w.heap.size W ad cd dt) := by
   intro W hb
   obtain ⟨b, off, e, hB, cs2, _, hcell2, ad, cd, rfl, _, hda, _⟩ := (HI.out.2.2.below rInode_good hb) _ hpl
   rw [hdt]
   exact ⟨b, off, ad, cd, e, hB, hcell2 1 _ rfl, hda⟩
  clear hC hok hhas hpi hid hnz hpz hwk hcell1 hcl1 k1 HD hdt hpl hrest1 hk
  generalize nameAt m.fNames s = na at *
  generalize placeOf m.fInodes (idOf m.fNames s) = pa at *
  go_wp2_with fail
  refine wp_region_held_drew (S := fun W => Below w1.heap.size w1 W) (by kernel_rfl) (Below.drew (Below.refl _ _)) (fun hHeld => ?_)
  refine tq 0 qb4d_32_3_0 12 hHeld ?_; try simp only[Act.put,sa,s0,s1]
  refine tq 1 qb4d_32_3_1 13 hHeld ?_; try simp only[Act.put,sa,s0,s1]
  refine tq 2 qb4d_32_3_2 14 hHeld ?_; try simp only[Act.put,sa,s0,s1]
  refine tq 3 qb4d_32_3_3 15 hHeld ?_; try simp only[Act.put,sa,s0,s1]
  refine tq 4 qb4d_32_3_4 16 hHeld ?_; try simp only[Act.put,sa,s0,s1]
  refine tq 5 qb4d_32_3_5 17 hHeld ?_; try simp only[Act.put,sa,s0,s1]
  refine arR [6] ?_
  refine AllReadyH.cons (o := qb4d_32_3_6) rfl (fun K hK => ?_) AllReadyH.nil
  go_simp
  refine Calls.mono (hCt _ hHeld) ?_
  rintro e w1 ⟨rfl, hw1⟩
  have hx1 := below_same hw1
  clear hw1
  go_wp2_with fail
  refine hK.out _ _ (bthen hHeld hx1) (fun hHeld => ?_)
  clear hK K
  try simp only[Act.put,sa,s0,s1]
  refine tq 7 qb4d_32_3_7 19 hHeld ?_; try simp only[Act.put,sa,s0,s1]
  refine tq 8 qb4d_32_3_8 20 hHeld ?_; try simp only[Act.put,sa,s0,s1]
  refine tq 9 qb4d_32_3_9 21 hHeld ?_; try simp only[Act.put,sa,s0,s1]
  refine arR [10] ?_
  refine AllReadyH.cons (o := qb4d_32_3_10) rfl (fun K hK => ?_) AllReadyH.nil
  go_simp
  refine Calls.mono (hCi _ hHeld) ?_
  rintro e w2 ⟨rfl, hx2⟩
  go_wp2_with fail
  refine hK.out _ _ (bthen hHeld hx2) (fun hHeld => ?_)
  clear hK K
  try simp only[Act.put,sa,s0,s1]
  refine tq 11 qb4d_32_3_11 6 hHeld ?_; try simp only[Act.put,sa,s0,s1]
  refine wpAnyH_done (by kernel_rfl) ?_ _
  have hbW := bthen hb1 hHeld
  obtain ⟨b2, o2, ad, cd, ha0, hB2, kd, hda⟩ := HPL2.out _ hbW
  subst ha0
  have y0 := p0 _ hHeld
  have hlz := (hbx.under hHeld).1
  have hB2' : b2 < w2.heap.size := Nat.lt_of_lt_of_le hB2 hbW.size
  have hbq : Below w2.heap.size w2 (w2.alloc (.cells #[] 5)) := (Below.refl _ _).alloc (Nat.le_refl _) _
  have hrd := (hda.below (hbq.mono hbW.size)).2.2.1
  have hbyt := hda.2.2.2
  go_wp2_with (at_builtin; refine wpList_append_src _ rfl _ _ 62 62 rfl w2.heap.size 5 i0 (.int .u8 0) 1 1 Tryz.underlying62 hi hz0 hz1 hz2 rfl (.slice (some ⟨w2.heap.size, 0, none⟩) 0 0) 0 [] rfl (World.ownsRow_lit w2 #[] 0 (Nat.le_refl _) (by decide) rfl) dt.length (dt.map (Value.int .u8)) (Src.rd Tryz.underlying62 rfl hrd) (by unfold maxLen; omega) (by omega) (by simp) ?_; intro v3 w3 hown3 hg3)
  have hb3 : Below w2.heap.size w2 w3 := hbq.trans ((Turn.below (turnOwn hg3) (fun k hk => by simp [Value.ownBlock] at hk; omega) (by simp)))
  have hown4 : w3.ownsRow 0 5 1 v3 dt.length (dt.map (Value.int .u8)) := own_base (own_congr hown3 (by simp) (by simp)) (Nat.zero_le _)
  obtain ⟨ar, cr, hvr, hlr⟩ := (show ownB 5 w3 v3 dt v3.ownBlock.toList from ⟨hown4, hbyt, rfl⟩).read
  subst hvr
  refine bodyPost_ret (v := .tuple #[.slice ar dt.length cr, .bool true]) (by simp [results, Tryz.results32, go_sem, *]) rfl ⟨_, by rw [decide_eq_true HC.out], ?_, bthen hbW hb3⟩
  rw [HD2.out]
  exact ⟨ar, cr, rfl, hlr⟩
 ·have HD : Hid (bytesP m s = []) := by show bytesP m s = _; unfold bytesP; rw [if_neg hC]
  have HC := Hid.mk (decide_eq_false hC)
  have hcn : (callP m s == 0) = false := beq_eq_false_iff_ne.2 hC
  have hcn2 : (callP m s != 0) = true := bne_iff_ne.2 hC
  clear hC
  generalize callP m s = cp at hcn hcn2 ⊢
  go_wp2_with fail
  refine bodyPost_ret (v := .tuple #[.slice (some ⟨w1.heap.size, 0, none⟩) 0 0, .bool false]) (by simp [results, Tryz.results32, go_sem, *]) rfl ⟨_, by rw [HC.out], ?_, bthen hb1 ((Below.refl _ _).alloc (Nat.le_refl _) _)⟩
  rw [HD.out]
  exact ⟨_, _, rfl, by simp, by omega, (fun j hj => by simp at hj), (fun z hz => by cases hz)⟩
end Go.Proofs.YtolciaheoanlbaaGreatDoor
