/-
  Part 26 of the texts that the proof leans on.
-/
import Derived.Test.YtegonncmopecnaaGreatDoorMnd24
import Derived.Test.YtegonncmopecnaaGreatDoorMnd22
set_option linter.unusedVariables false
set_option linter.unusedSimpArgs false
set_option maxRecDepth 10000

namespace Go.Proofs.YtegonncmopecnaaGreatDoor
open Go.RowKit Go.Shelf Go.Maps
attribute [local go_sem] Oper.semAt_some
set_option maxHeartbeats 1000000 in
theorem cuts_any (a : Option Addr) (n cap : Nat) (w : World) :
  Calls Tryz.prog 26 #[.slice a n cap] w fun e w' => e = .returned (.func (.func 63) #[] #[.pointer (some ⟨w.heap.size, 0, none⟩)]) /\ w' = w.alloc (.cells #[.slice a n cap] 22) := by
 go_enter Tryz.func26, Tryz.ntmps26
 go_wp2
 go_ret
 exact ⟨rfl, rfl⟩
def RecW (w : World) (hdr : Value) (W : World) (v : Value) (out : List (List Int)) (F : List Nat) (p : Int) : Prop :=
 Boxed W w.heap.size 30 v /\ Boxed W (w.heap.size + 1) 3 (.int .i64 p) /\ Boxed W (w.heap.size + 1 + 1) 22 hdr /\ W.heap[w.heap.size + 3]? = some (.deferred (some [])) /\
 ownS 1 22 oBy W v out F /\ F.Nodup /\ (∀ b, b ∈ F -> w.heap.size + 5 <= b) /\ w.heap.size + 5 <= W.heap.size /\ Below w.heap.size w W
theorem RecW.frame {w : World} {hdr : Value} {W W' : World} {v : Value} {out : List (List Int)} {F : List Nat} {p : Int} (h : RecW w hdr W v out F p) (hs : W.heap.size <= W'.heap.size)
  (hk : ∀ b, b < W.heap.size -> b ≠ w.heap.size + 4 -> W'.heap[b]? = W.heap[b]?) (hb : Below w.heap.size W W') : RecW w hdr W' v out F p := by
 obtain ⟨h1, h2, h3, h4, h5, h6, h7, h8, h9⟩ := h
 refine ⟨(hk _ (by omega) (by omega)).trans h1, (hk _ (by omega) (by omega)).trans h2, (hk _ (by omega) (by omega)).trans h3, (hk _ (by omega) (by omega)).trans h4, ?_, h6, h7, by omega, h9.trans hb⟩
 exact ownS.frame oBy_good h5 (fun b hb' => hk b (ownS.lt oBy_good h5 b hb') (by have := h7 b hb'; omega))
theorem RecW.under {w : World} {hdr : Value} {W W' : World} {v : Value} {out : List (List Int)} {F : List Nat} {p : Int} (h : RecW w hdr W v out F p) (hb : Below W.heap.size W W') : RecW w hdr W' v out F p :=
 h.frame hb.size (fun b hlt _ => hb.block b hlt) (hb.mono h.2.2.2.2.2.2.2.2.size)
theorem RecW.put {w : World} {hdr : Value} {W : World} {v : Value} {out : List (List Int)} {F : List Nat} {p : Int} (h : RecW w hdr W v out F p) (o : Obj) : RecW w hdr (W.putObj (w.heap.size + 4) o) v out F p :=
 h.frame (by simp) (fun b _ hne => World.putObj_heap_other hne) ((Below.refl _ W).grown (grownBy_putObj' W _ o) (by have := h.2.2.2.2.2.2.2.1; omega) (fun k e => by cases e; omega))
theorem RecW.setE {w : World} {hdr : Value} {W : World} {v : Value} {out : List (List Int)} {F : List Nat} {p : Int} (h : RecW w hdr W v out F p) (q : Int) : RecW w hdr (W.setCell ⟨w.heap.size + 1, 0, none⟩ (.int .i64 q)) v out F q := by
 obtain ⟨h1, h2, h3, h4, h5, h6, h7, h8, h9⟩ := h
 have hg := grownBy_setCell' W (w.heap.size + 1) (.int .i64 q)
 have hk : ∀ b, b < W.heap.size -> b ≠ w.heap.size + 1 -> (W.setCell ⟨w.heap.size + 1, 0, none⟩ (.int .i64 q)).heap[b]? = W.heap[b]? := fun b hb hne => hg.block b hb (fun e => hne (by cases e; rfl))
 refine ⟨(hk _ (by omega) (by omega)).trans h1, h2.set _, (hk _ (by omega) (by omega)).trans h3, (hk _ (by omega) (by omega)).trans h4, ?_, h6, h7, Nat.le_trans h8 hg.size, h9.setCell (p := ⟨w.heap.size + 1, 0, none⟩) (Nat.le_succ _) _⟩
 exact ownS.frame oBy_good h5 (fun b hb' => hk b (ownS.lt oBy_good h5 b hb') (by have := h7 b hb'; omega))
theorem cell_same {W W' : World} {b k : Nat} (h : W'.heap[b]? = W.heap[b]?) : W'.cell? ⟨b, k, none⟩ = W.cell? ⟨b, k, none⟩ := by simp [World.cell?, h]
set_option maxHeartbeats 4000000 in
theorem implRecords_any (a : Option Addr) (n cap : Nat) (zs : List Int) (w : World) (hx : zs.length = n) (hlen : n <= 1048576) (hcap : n <= cap) (hb : BytesOk zs) (hr : Rd .u8 w.heap.size w a zs) (hT : TabAt w) :
  Calls Tryz.prog 9 #[.slice a n cap] w fun e w' => ∃ v F, e = .returned (.tuple #[v, .int .i64 (recsP zs).2]) /\ ownS 1 22 oBy w' v (recsP zs).1 F /\ F.Nodup /\ (∀ b, b ∈ F -> w.heap.size <= b) /\ Below w.heap.size w w' := by
 obtain ⟨i0, hi, hz0, hz1, hz2⟩ := info_parts Tryz.infoBS
 have HX := Hm hx
 have HB := Hm hb
 have HR := Hm hr
 have HT := Hm hT
 clear hx hb hr hT
 refine (callsIn_wide (n := 5)).1 ?_
 refine callsIn_of_wp_marks Tryz.func9 rfl trivial ?_ rfl
 simp only [Tryz.ntmps9, List.size_toArray, List.length_cons, List.length_nil, Nat.reduceAdd, Nat.reduceSub, Array.replicate_succ, Array.replicate_zero, List.push_toArray, List.append_toArray, List.nil_append, List.cons_append]
 gi_wp2_with (refine ⟨trivial, ?_⟩; gi_at_call 26; refine (callsIn_wide.2 (cuts_any _ _ _ _)).mono ?_; rintro e w' ⟨rfl, rfl⟩)
 obtain ⟨W0, hW0⟩ : ∃ W0, W0 = ((w.alloc (.cells #[.slice none 0 0] 30)).alloc (.cells #[.int .i64 0] 3)).alloc (.cells #[.slice a n cap] 22) := ⟨_, rfl⟩
 rw [<- hW0]
 have hs0 : W0.heap.size = w.heap.size + 3 := by rw [hW0]; simp
 have bB : Boxed W0 w.heap.size 30 (.slice none 0 0) := by rw [hW0]; exact ((Boxed.new w _ _).alloc _).alloc _
 have bE : Boxed W0 (w.heap.size + 1) 3 (.int .i64 0) := by
  rw [hW0]
  have := Boxed.new (w.alloc (.cells #[.slice none 0 0] 30)) 3 (.int .i64 0)
  rw [World.size_alloc] at this
  exact this.alloc _
 have bH : Boxed W0 (w.heap.size + 1 + 1) 22 (.slice a n cap) := by
  rw [hW0]
  have := Boxed.new ((w.alloc (.cells #[.slice none 0 0] 30)).alloc (.cells #[.int .i64 0] 3)) 22 (.slice a n cap)
  rw [World.size_alloc, World.size_alloc] at this
  exact this
 have hB0 : Below w.heap.size w W0 := by rw [hW0]; exact (((Below.refl _ w).alloc rN _).alloc (by simp) _).alloc (by simp; omega) _
 clear hW0
 refine range_begins (gf := 63) (lb := #[.pointer (some ⟨w.heap.size + 1 + 1, 0, none⟩)]) rfl (enters_of Tryz.func63 (by kernel_rfl) rfl) ?_ (by omega)
 intro fn r hst hpe hps htm has hbo W1 hl hd hs1 hb1
 rw [hs0] at hl hd hs1 ⊢
 have hJ1 : RecW w (.slice a n cap) W1 (.slice none 0 0) [] [] 0 := ⟨(hb1.block _ (by omega)).trans bB, (hb1.block _ (by omega)).trans bE, (hb1.block _ (by omega)).trans bH, hd, .inl ⟨rfl, rfl, rfl⟩, by simp, by simp, by omega, hB0.trans (hb1.mono (by omega))⟩
 clear bB bE bH hB0 hb1 hs1 hd hs0
 simp only [List.append_toArray, List.nil_append, List.cons_append]
 refine (callsIn_wide (n := 3)).1 ?_
 refine callsIn_of_wp Tryz.func63 rfl trivial ?_ rfl
 simp only [Tryz.ntmps63, List.size_toArray, List.length_cons, List.length_nil, Nat.reduceAdd, Nat.reduceSub, Array.replicate_succ, Array.replicate_zero, List.push_toArray, List.append_toArray, List.nil_append, List.cons_append]
 gi_wp2
 gi_loopw [3, 4] (fun pv wh wr => ∃ (p : Nat) (out : List (List Int)) (v : Value) (F : List Nat), p <= n /\ out.length <= p /\ pv = .int .i64 p /\ wh = .bool true /\ RecAt zs out p /\ RecW w (.slice a n cap) wr v out F p /\ wr.heap[w.heap.size + 3 + 1]? = some (.loop r)) (fun pv _ _ => n + 1 - (intOf pv).toNat)
 case atStart => exact ⟨0, [], _, [], Nat.zero_le _, rN, rfl, rfl, RecAt.start zs, hJ1, hl⟩
 case round =>
  obtain ⟨p, out, v, F, hp, hol, rfl, rfl, hra, hJ, hlr⟩ := hrel
  have hBw := hJ.2.2.2.2.2.2.2.2
  have hcH := hJ.2.2.1.cell
  have HRA := Hm hra
  have HJ := Hm hJ
  clear hra hJ
  have hR1 := (HR.out.below hBw).mono hBw.size
  gi_wp2_with fail
  refine ⟨trivial, ?_⟩
  refine (callsIn_wide.2 (implUnframe_any a n cap zs p wr HX.out (by omega) hcap HB.out hR1 (HT.out.below hBw HT.out.size))).mono ?_
  rintro e w1 ⟨v1, rfl, ho1, hx1⟩
  have hJ1 := HJ.out.under hx1
  have hl1 : w1.heap[w.heap.size + 3 + 1]? = some (.loop r) := (hx1.block _ (by have := HJ.out.2.2.2.2.2.2.2.1; omega)).trans hlr
  obtain ⟨r1, q1, rfl, _, _⟩ := own_rd rfl ho1
  cases hu : (unframe zs p).2.2 with
  | false =>
   have HD : Hid (recsP zs = (out, (p : Int))) := RecAt.done HRA.out (by rw [HX.out]; omega) hu
   have hbad := unframe_bad hu
   rw [hbad] at ho1 ⊢
   have hy := run_yield (P := Tryz.prog) (args := #[.agg #[.slice r1 0 q1, .int .i64 p], .bool false]) hl1 (by rw [hps]; rfl)
   gi_wp2_with fail
   refine round_runs hst ?_
   gi_wp2_with fail
   obtain ⟨w2, hw2⟩ : ∃ x, x = w1.alloc (.cells #[.slice r1 0 q1, .int .i64 p] 58) := ⟨_, rfl⟩
   rw [<- hw2]
   have hx2 : Below w1.heap.size w1 w2 := by rw [hw2]; exact rB.alloc rN _
   have hJ2 := hJ1.under hx2
   have hs1 := hJ1.2.2.2.2.2.2.2.1
   have hl2 : w2.heap[w.heap.size + 3 + 1]? = some (.loop r) := (hx2.block _ (by omega)).trans hl1
   have hbx : Bx w2 w1.heap.size [.slice r1 0 q1, .int .i64 p] := by rw [hw2]; exact Bx.new _ _ _
   refine ⟨hl2, ?_⟩
   obtain ⟨w3, hw3⟩ : ∃ x, x = w2.putObj (w.heap.size + 3 + 1) (.loop { r with state := .busy }) := ⟨_, rfl⟩
   rw [<- hw3]
   have hJ3 : RecW w (.slice a n cap) w3 v out F p := by rw [hw3]; exact hJ2.put _
   have hl3 : w3.heap[w.heap.size + 3 + 1]? = some (.loop { r with state := .busy }) := by rw [hw3]; exact World.putObj_heap_same (Array.getElem?_eq_some_iff.1 hl2).1
   have d0 : w3.cell? ⟨w1.heap.size, 0, none⟩ = some (.slice r1 0 q1) := by rw [hw3, cell_same (World.putObj_heap_other (by omega))]; exact hbx.2 0 _ rfl
   have d1 : w3.cell? ⟨w1.heap.size, 1, none⟩ = some (.int .i64 p) := by rw [hw3, cell_same (World.putObj_heap_other (by omega))]; exact hbx.2 1 _ rfl
   have hcE := hJ3.2.1.cell
   have hfE := hJ3.2.1.frozen
   clear hw2 hw3 hbx hl2 hJ2 hJ1 hl1 hy
   gi_wp2_with fail
   obtain ⟨w4, hw4⟩ : ∃ x, x = w3.setCell ⟨w.heap.size + 1, 0, none⟩ (.int .i64 p) := ⟨_, rfl⟩
   rw [<- hw4]
   have hJ4 : RecW w (.slice a n cap) w4 v out F p := by rw [hw4]; exact hJ3.setE p
   have hl4 : w4.heap[w.heap.size + 3 + 1]? = some (.loop { r with state := .busy }) := by rw [hw4]; exact ((grownBy_setCell' w3 (w.heap.size + 1) (.int .i64 p)).block _ (Array.getElem?_eq_some_iff.1 hl3).1 (by simp)).trans hl3
   clear hw4 hJ3 hl3 d0 d1 hcE hfE
   refine ⟨hl4, ?_⟩
   obtain ⟨w5, hw5⟩ : ∃ x, x = w4.putObj (w.heap.size + 3 + 1) (.loop { r with state := .done, pending := some (.exit 0) }) := ⟨_, rfl⟩
   rw [<- hw5]
   have hJ5 : RecW w (.slice a n cap) w5 v out F p := by rw [hw5]; exact hJ4.put _
   have hl5 : w5.heap[w.heap.size + 3 + 1]? = some (.loop { r with state := .done, pending := some (.exit 0) }) := by rw [hw5]; exact World.putObj_heap_same (Array.getElem?_eq_some_iff.1 hl4).1
   clear hw5 hJ4 hl4
   gi_wp2_with fail
   refine bodyPost_ret (results_none rfl _ _ _) rfl ?_
   refine ⟨⟨_, rfl⟩, _, hl5, by simp, hJ5.2.2.2.1, ?_⟩
   have hJ6 := hJ5.put (.loop { ({ r with state := .done, pending := some (.exit 0) } : Loop) with state := .exhausted })
   obtain ⟨w6, hw6⟩ : ∃ x, x = w5.putObj (w.heap.size + 3 + 1) (.loop { ({ r with state := .done, pending := some (.exit 0) } : Loop) with state := .exhausted }) := ⟨_, rfl⟩
   rw [show w.heap.size + 4 = w.heap.size + 3 + 1 from rfl, <- hw6] at hJ6
   rw [<- hw6]
   clear hw6 hJ5 hl5
   have hcB := hJ6.1.cell
   have hcE := hJ6.2.1.cell
   show Code.wpIn _ _ _ (.exit 0) _ _ _
   gi_wp2_with fail
   have hmix : Tryz.prog.follows .mixedOrders = true := by kernel_rfl
   have hlate : Tryz.prog.follows .lateStores = true := by kernel_rfl
   gi_region
   all_goals gi_wp2_with fail
   have hK : w6.drew.heap[w.heap.size + 3]? = some (.deferred (some [])) := hJ6.2.2.2.1
   have h5 := hJ6.2.2.2.2.1
   have h7 := hJ6.2.2.2.2.2.2.1
   have h8 := hJ6.2.2.2.2.2.2.2.1
   refine ⟨by simp, .inl ⟨_, _, rfl, run_takeDeferred hK, ?_⟩⟩
   refine ⟨.tuple #[v, .int .i64 p], by simp [results, Tryz.results9, go_sem], v, F, by rw [HD.out], ?_, hJ6.2.2.2.2.2.1, fun b hb => by have := h7 b hb; omega, ?_⟩
   ·rw [HD.out]
    exact ownS.frame oBy_good h5 (fun b hb => World.putObj_heap_other (by have := h7 b hb; omega))
   ·exact (Below.drew hJ6.2.2.2.2.2.2.2.2).trans (belowK_b (w := w) rN _ _ _ _ (by omega) hK rfl rfl)
  | true =>
   have hbd := unframe_bd HB.out hu
   have HN := Hm (RecAt.on HB.out HRA.out hu)
   obtain ⟨bd, hbdd⟩ : ∃ x, x = (unframe zs p).1 := ⟨_, rfl⟩
   obtain ⟨nx, hnx⟩ : ∃ x : Nat, (x : Int) = (unframe zs p).2.1 := ⟨(unframe zs p).2.1.toNat, by omega⟩
   rw [<- hbdd] at ho1 hbd HN
   rw [<- hbdd]
   rw [<- hnx] at hbd HN ⊢
   have hln : (nx : Int) <= n := by have := hbd.2.2.1; rw [HX.out] at this; exact this
   have hon : (p : Int) < nx := hbd.2.1
   have hbl : bd.length <= n := by have := hbd.2.2.2.2; rw [HX.out] at this; exact this
   have hO1 := newB_own hbd.2.2.2.1 ho1
   have hF1 : ∀ b, b ∈ (Value.slice r1 bd.length q1).ownBlock.toList -> wr.heap.size <= b := fun b hb => (ho1.lt b (by simpa using hb)).1
   have hF2 : ∀ b, b ∈ (Value.slice r1 bd.length q1).ownBlock.toList -> b < w1.heap.size := fun b hb => (ho1.lt b (by simpa using hb)).2
   have HLT : Hid (∀ b, b ∈ F -> b < wr.heap.size) := fun b hb => ownS.lt oBy_good HJ.out.2.2.2.2.1 b hb
   have hs0 := HJ.out.2.2.2.2.2.2.2.1
   clear hbdd hnx hu hbd ho1
   have hy := run_yield (P := Tryz.prog) (args := #[.agg #[.slice r1 bd.length q1, .int .i64 nx], .bool true]) hl1 (by rw [hps]; rfl)
   gi_wp2_with fail
   refine round_runs hst ?_
   gi_wp2_with fail
   obtain ⟨w2, hw2⟩ : ∃ x, x = w1.alloc (.cells #[.slice r1 bd.length q1, .int .i64 nx] 58) := ⟨_, rfl⟩
   rw [<- hw2]
   have hx2 : Below w1.heap.size w1 w2 := by rw [hw2]; exact rB.alloc rN _
   have hJ2 := hJ1.under hx2
   have hs1 := hJ1.2.2.2.2.2.2.2.1
   have hl2 : w2.heap[w.heap.size + 3 + 1]? = some (.loop r) := (hx2.block _ (by omega)).trans hl1
   have hbx : Bx w2 w1.heap.size [.slice r1 bd.length q1, .int .i64 nx] := by rw [hw2]; exact Bx.new _ _ _
   have hO2 := oBy_good.frame hO1 (fun b hb => hx2.block b (oBy_good.lt hO1 b hb))
   refine ⟨hl2, ?_⟩
   obtain ⟨w3, hw3⟩ : ∃ x, x = w2.putObj (w.heap.size + 3 + 1) (.loop { r with state := .busy }) := ⟨_, rfl⟩
   rw [<- hw3]
   have hJ3 : RecW w (.slice a n cap) w3 v out F p := by rw [hw3]; exact hJ2.put _
   have hl3 : w3.heap[w.heap.size + 3 + 1]? = some (.loop { r with state := .busy }) := by rw [hw3]; exact World.putObj_heap_same (Array.getElem?_eq_some_iff.1 hl2).1
   have hO3 := oBy_good.frame (w' := w3) hO2 (fun b hb => by rw [hw3]; exact World.putObj_heap_other (by have := hF1 b hb; omega))
   have hs3 : w1.heap.size < w3.heap.size := by rw [hw3]; simp; exact hbx.1
   have d0 : w3.cell? ⟨w1.heap.size, 0, none⟩ = some (.slice r1 bd.length q1) := by rw [hw3, cell_same (World.putObj_heap_other (by omega))]; exact hbx.2 0 _ rfl
   have d1 : w3.cell? ⟨w1.heap.size, 1, none⟩ = some (.int .i64 nx) := by rw [hw3, cell_same (World.putObj_heap_other (by omega))]; exact hbx.2 1 _ rfl
   obtain ⟨w4, hw4⟩ : ∃ x, x = w3.setCell ⟨w.heap.size + 1, 0, none⟩ (.int .i64 nx) := ⟨_, rfl⟩
   have hJ4 : RecW w (.slice a n cap) w4 v out F nx := by rw [hw4]; exact hJ3.setE nx
   have hg4 := grownBy_setCell' w3 (w.heap.size + 1) (.int .i64 nx)
   rw [<- hw4] at hg4
   have hl4 : w4.heap[w.heap.size + 3 + 1]? = some (.loop { r with state := .busy }) := (hg4.block _ (Array.getElem?_eq_some_iff.1 hl3).1 (by simp)).trans hl3
   have e0 : w4.cell? ⟨w1.heap.size, 0, none⟩ = some (.slice r1 bd.length q1) := by rw [cell_same (hg4.block _ hs3 (by simp; omega))]; exact d0
   have hO4 := oBy_good.frame (w' := w4) hO3 (fun b hb => hg4.block b (oBy_good.lt hO3 b hb) (by have := hF1 b hb; simp; omega))
   have hcE := hJ3.2.1.cell
   have hfE := hJ3.2.1.frozen
   have hcB := hJ4.1.cell
   obtain ⟨xs, hxs, hpush⟩ := ownS.push oBy_good (ownS.frame oBy_good hJ4.2.2.2.2.1 (fun b hb => (show Below w4.heap.size w4 (w4.alloc (.cells #[.slice r1 bd.length q1] 22)) from rB.alloc rN _).block b (ownS.lt oBy_good hJ4.2.2.2.2.1 b hb))) hJ4.2.2.2.2.2.1
   obtain ⟨w5, hw5⟩ : ∃ x, x = w4.alloc (.cells #[.slice r1 bd.length q1] 22) := ⟨_, rfl⟩
   rw [<- hw5] at hxs hpush
   have hx5 : Below w4.heap.size w4 w5 := by rw [hw5]; exact rB.alloc rN _
   have hz4 : w4.heap.size = w3.heap.size := by rw [hw4]; simp
   have hbx5 : Bx w5 w3.heap.size [.slice r1 bd.length q1] := by rw [<- hz4, hw5]; exact Bx.new _ _ _
   have hJ5 := hJ4.under hx5
   have hl5 : w5.heap[w.heap.size + 3 + 1]? = some (.loop { r with state := .busy }) := (hx5.block _ (Array.getElem?_eq_some_iff.1 hl4).1).trans hl4
   have hO5 := oBy_good.frame hO4 (fun b hb => hx5.block b (oBy_good.lt hO4 b hb))
   have hob := ownS_in hJ5.2.2.2.2.1
   have HL5 := Hm hl5
   have HPU := Hm hpush
   have HJ5 := Hm hJ5
   have HOB := Hm hob
   rw [hw4] at hcB e0
   clear hw2 hw3 hbx hl2 hJ2 hJ1 hl1 hy hO2 hO3 hO1 hpush hJ5 hl5 hob hJ4 hJ3 hl3 hl4 hO4 hg4 hz4
   gi_wp2_with (gi_at_builtin; rw [<- hw4, <- hw5]; refine wpListIn_append_own_at _ rfl _ _ 30 rfl 0 22 i0 (.slice none 0 0) 1 24 Tryz.underlying30 hi hz0 hz1 hz2 rfl (by decide) _ _ _ rfl hxs ⟨w3.heap.size, 0, none⟩ 1 1 [.slice r1 bd.length q1] rfl rfl (bx_news hbx5) (by intro u hu; simp at hu; subst hu; rfl) (by unfold maxLen; omega) (by omega) (by omega) ?_; intro v6 w6 hown6 hgrow6 hnil6 hloc6; obtain ⟨g6, cap6, rfl⟩ := ownsRow_succ hown6; have hb6 : Boxed w6 w.heap.size 30 v := (hgrow6.block _ HJ5.out.1.lt (fun e => by have := HJ5.out.2.2.2.2.2.2.1 _ (HOB.out _ e.symm); omega)).trans HJ5.out.1; have hc6 := hb6.cell; have hf6 := hb6.frozen)
   obtain ⟨F', hF', hN', hin⟩ := HPU.out w6 _ _ bd _ hown6 hgrow6 hloc6 hO5 (by cases (Value.ownBlock _) <;> simp) (fun b hb hbF => by have h1 := hF1 b hb; have h2 := HLT.out b hbF; omega)
   have hs5 := HJ5.out.2.2.2.2.2.2.2.1
   have hge' : ∀ b, b ∈ F' -> w.heap.size + 5 <= b := fun b hb => by
    rcases hin b hb with h | h | h
    ·exact HJ5.out.2.2.2.2.2.2.1 b h
    ·exact Nat.le_trans hs0 (hF1 b h)
    ·rw [h]; exact hs5
   have hk6 : ∀ b, b < w.heap.size + 5 -> w6.heap[b]? = w5.heap[b]? := fun b hb => hgrow6.block b (by omega) (fun e => by have := HJ5.out.2.2.2.2.2.2.1 b (HOB.out b e.symm); omega)
   have hz6 := hgrow6.size
   have hB6 := HJ5.out.2.2.2.2.2.2.2.2.grown hgrow6 HJ5.out.2.2.2.2.2.2.2.2.size (fun k e => by have := HJ5.out.2.2.2.2.2.2.1 k (HOB.out k e); omega)
   have hg7 := grownBy_setCell' w6 w.heap.size (.slice (some ⟨g6, 0, none⟩) (out.length + 1) cap6)
   obtain ⟨w7, hw7⟩ : ∃ x, x = w6.setCell ⟨w.heap.size, 0, none⟩ (.slice (some ⟨g6, 0, none⟩) (out.length + 1) cap6) := ⟨_, rfl⟩
   have hb7 : Boxed w7 w.heap.size 30 (.slice (some ⟨g6, 0, none⟩) (out.length + 1) cap6) := by rw [hw7]; exact hb6.set _
   have hB7 : Below w.heap.size w w7 := by rw [hw7]; exact hB6.setCell (p := ⟨w.heap.size, 0, none⟩) rN _
   rw [<- hw7] at hg7 ⊢
   have hk7 : ∀ b, b < w6.heap.size -> b ≠ w.heap.size -> w7.heap[b]? = w6.heap[b]? := fun b hb hne => hg7.block b hb (fun e => hne (by cases e; rfl))
   have hk76 : ∀ b, b < w.heap.size + 5 -> b ≠ w.heap.size -> w7.heap[b]? = w5.heap[b]? := fun b hb hne => (hk7 b (by omega) hne).trans (hk6 b hb)
   have hJ7 : RecW w (.slice a n cap) w7 (.slice (some ⟨g6, 0, none⟩) (out.length + 1) cap6) (out ++ [bd]) F' nx :=
    ⟨hb7, (hk76 _ (by omega) (by omega)).trans HJ5.out.2.1, (hk76 _ (by omega) (by omega)).trans HJ5.out.2.2.1, (hk76 _ (by omega) (by omega)).trans HJ5.out.2.2.2.1,
     ownS.frame oBy_good hF' (fun b hb => hk7 b (ownS.lt oBy_good hF' b hb) (by have := hge' b hb; omega)), hN', hge', by have := hg7.size; omega, hB7⟩
   have hl7 : w7.heap[w.heap.size + 3 + 1]? = some (.loop { r with state := .busy }) := (hk76 _ (by omega) (by omega)).trans HL5.out
   clear hw7 hb7 hB7 hk7 hk76 hg7 hB6 hk6 hF' hb6 hc6 hf6 hown6 hgrow6 hnil6 hloc6 hO5 hbx5 hxs
   refine ⟨hl7, ?_⟩
   have her : ({ r with state := .ready, pending := none } : Loop) = r := by cases r; simp only at hst hpe; subst hst; subst hpe; rfl
   rw [her]
   obtain ⟨w8, hw8⟩ : ∃ x, x = w7.putObj (w.heap.size + 3 + 1) (.loop r) := ⟨_, rfl⟩
   have hJ8 : RecW w (.slice a n cap) w8 (.slice (some ⟨g6, 0, none⟩) (out.length + 1) cap6) (out ++ [bd]) F' nx := by rw [hw8]; exact hJ7.put _
   have hl8 : w8.heap[w.heap.size + 3 + 1]? = some (.loop r) := by rw [hw8]; exact World.putObj_heap_same (Array.getElem?_eq_some_iff.1 hl7).1
   rw [<- hw8]
   clear hw8 hJ7 hl7 her
   gi_wp2_with fail
   go_roundw
   case rel => exact ⟨nx, out ++ [bd], _, F', by omega, by simp; omega, rfl, rfl, HN.out, hJ8, hl8⟩
   case measure => simp [intOf]; omega
end Go.Proofs.YtegonncmopecnaaGreatDoor
