/-
  What is reached from one command: the draw, a byte of the code, and the memory while the queue and the part are gathered.
-/
import Derived.Test.YtmigamgcmhdncaaDoorDrGS
import Derived.Test.YtmigamgcmhdncaaDoorDrGG
import Derived.Test.YtmigamgcmhdncaaDoorStbP
namespace Go.Proofs.YtmigamgcmhdncaaDoor
open Go.RowKit
set_option linter.unusedVariables false
set_option linter.unusedSimpArgs false
set_option maxRecDepth 10000

set_option maxHeartbeats 400000 in
theorem atG_any (a : Option Addr) (n cap i : Nat) (zs : List Int) (w : World) (hx : zs.length = n) (hlen : n ≤ 1048576) (hi : i ≤ 1000) (hb : BytesOk zs) (hr : Rd .u8 w.heap.size w a zs) :
    Calls Tryd.prog 31 #[.slice a n cap, .int .i64 i] w fun e w' => ∃ x : Nat, (e = .returned (.int .i64 x) ∧ x ≤ 255) ∧ w' = w := by
  have HX := Hid.mk hx
  clear hx
  by_cases hlt : i < n
  · obtain ⟨b1, o1, rfl, _, hc1⟩ := hr i (by rw [HX.out]; exact hlt)
    have hbd : 0 ≤ zs.getD i 0 ∧ zs.getD i 0 ≤ 255 := by
      have hil : i < zs.length := by rw [HX.out]; exact hlt
      rw [List.getD_eq_getElem?_getD, List.getElem?_eq_getElem hil, Option.getD_some]
      exact hb _ (List.getElem_mem _)
    generalize zs.getD i 0 = z at hc1 hbd
    go_enter Tryd.func31, Tryd.ntmps31
    go_wp2_with fail
    go_ret
    obtain ⟨x, rfl⟩ := Int.eq_ofNat_of_zero_le hbd.1
    exact ⟨x, ⟨by go_num, by omega⟩, rfl⟩
  · go_enter Tryd.func31, Tryd.ntmps31
    go_wp2_with fail
    go_ret
    exact ⟨(i * 31 + n * 7) % 256, ⟨by go_num, by omega⟩, rfl⟩

def FulPost (w : World) (e : Ending) (w' : World) : Prop :=
  ∃ (a : Option Addr) (c : Nat) (m : MGraph), e = .returned (.agg #[.slice a m.fItems.length c]) ∧ rGraph w'.heap.size w' [.slice a m.fItems.length c] m ∧ FulSt m 12 ∧ Below w.heap.size w w'
set_option maxHeartbeats 2000000 in
theorem drawGraph_ok (a : Option Addr) (n cap : Nat) (zs : List Int) (w : World) (hx : zs.length = n) (hlen : n ≤ 1048576) (hr : Rd .u8 w.heap.size w a zs) :
    Calls Tryd.prog 30 #[.slice a n cap] w fun e w' => FulPost w e w' := by
  obtain ⟨w0, hw0⟩ : ∃ x, x = w.alloc (.cells #[.slice none 0 0] 30) := ⟨_, rfl⟩
  have hbr : Bw w0 w.heap.size 30 [.slice none 0 0] := by rw [hw0]; exact Bw.new _ _ _
  have hb0 : Below w.heap.size w w0 := by rw [hw0]; exact (Below.refl _ _).alloc (Nat.le_refl _) _
  have hz0 := hbr.lt
  go_enter Tryd.func30, Tryd.ntmps30
  go_wp2_with (rw [← hw0])
  try rw [← hw0]
  clear hw0
  refine (l1New_any a n cap zs w0 hx (by omega) ((hr.below hb0).mono hb0.size)).mono ?_
  rintro e w1 ⟨rfl, hc1, hb1⟩
  obtain ⟨g, hg⟩ : ∃ g, g = w0.heap.size := ⟨_, rfl⟩
  rw [← hg] at hc1
  have hbr1 := hbr.under hb1
  have hgl := hc1.lt
  have hb01 := bthen hb0 hb1
  go_wp2_with (rw [← hg])
  try rw [← hg]
  refine (l8Full_full hc1).mono ?_
  rintro e w2 ⟨cs, m, rfl, hO, hF, hc2, hg2⟩
  obtain ⟨a2, c2, rfl⟩ := hO.shape
  have hbr2 := hbr1.grown hg2 (by simp; omega)
  have hb12 : Below w.heap.size w w2 := hb01.grown hg2 hb01.size (fun k hk => by simp at hk; omega)
  have q0 := hbr2.cell 0 _ rfl
  have q1 := hbr2.free 0
  have q2 := hbr2.lt
  have HF2 := Hid.mk hF
  have HF : Hid (∀ W, W = w2.setCell ⟨w.heap.size, 0, none⟩ (.slice a2 m.fItems.length c2) → rGraph W.heap.size W [.slice a2 m.fItems.length c2] m ∧ Below w.heap.size w W) := by
    intro W hW
    have hbw : Below w.heap.size w W := by rw [hW]; exact hb12.setCell (p := ⟨w.heap.size, 0, none⟩) (Nat.le_refl _) _
    have hOW : OutG w1.heap.size W [.slice a2 m.fItems.length c2] m := by
      rw [hW]
      exact hO.keep (fun b hB hl => heap_setCell_other _ ⟨w.heap.size, 0, none⟩ b _ (by show b ≠ w.heap.size; omega))
    exact ⟨hOW.read, hbw⟩
  clear hbr hb0 hb1 hbr1 hb01 hbr2 hO hg2 hb12 hF
  go_wp2_with fail
  have hfin := HF.out _ rfl
  exact bodyPost_ret (v := .agg #[.slice a2 m.fItems.length c2]) (by simp [results, Tryd.results30, go_sem, *]) rfl (show FulPost w _ _ from ⟨a2, c2, m, rfl, hfin.1, HF2.out, hfin.2⟩)

/-- While the queue and the part are gathered: the part's box at bp, the part and the queue in blocks beside it, all else as it was. -/
structure StSt (wA : World) (bp : Nat) (qv : Value) (q : List MDot) (Fq : List Nat) (pv : Value) (p : MGraph) (F : List Nat) (W : World) : Prop where
  k : Below wA.heap.size wA W
  lb : wA.heap.size ≤ bp
  x : Bw W bp 30 [pv]
  o : ownS 3 52 oItem W pv p.fItems F
  f : ∀ b, b ∈ F → wA.heap.size ≤ b ∧ b ≠ bp
  e : ownS 2 40 oDot W qv q Fq
  n : Fq.Nodup
  h : ∀ b, b ∈ Fq → wA.heap.size ≤ b ∧ b ≠ bp ∧ b ∉ F
theorem StSt.below {wA W W' : World} {bp : Nat} {qv pv : Value} {q : List MDot} {Fq F : List Nat} {p : MGraph} (h : StSt wA bp qv q Fq pv p F W) (hb : Below W.heap.size W W') : StSt wA bp qv q Fq pv p F W' :=
  ⟨bthen h.k hb, h.lb, h.x.under hb, ownS.frame oItem_good h.o (fun b hm => hb.block b (ownS.lt oItem_good h.o b hm)), h.f, ownS.frame oDot_good h.e (fun b hm => hb.block b (ownS.lt oDot_good h.e b hm)), h.n, h.h⟩
theorem StSt.part {wA W : World} {bp : Nat} {qv pv : Value} {q : List MDot} {Fq F : List Nat} {p : MGraph} (h : StSt wA bp qv q Fq pv p F W) : rGraph W.heap.size W [pv] p := by
  obtain ⟨a, c, rfl, hL⟩ := ownS.read oItem_good h.o
  exact ⟨a, c, rfl, hL, trivial⟩
theorem StSt.queue {wA W : World} {bp : Nat} {qv pv : Value} {q : List MDot} {Fq F : List Nat} {p : MGraph} (h : StSt wA bp qv q Fq pv p F W) : rdDs W.heap.size W qv q := rdDs_own h.e
theorem StSt.app {wA W : World} {bp : Nat} {qv pv : Value} {q : List MDot} {Fq F : List Nat} {p : MGraph} (h : StSt wA bp qv q Fq pv p F W) :
    ∃ xs, W.ownsRow 0 40 2 qv q.length xs ∧ ∀ (W' : World) (v' : Value) (news : List Value) (d : MDot), W'.ownsRow 0 40 2 v' (q.length + 1) (xs ++ news) → W.grownBy W' qv.ownBlock → (v'.ownBlock = qv.ownBlock ∨ v'.ownBlock = some W.heap.size) → oDot W news d [] →
      ∃ Fq' a c, v' = .slice a (q ++ [d]).length c ∧ StSt wA bp v' (q ++ [d]) Fq' pv p F W' := by
  obtain ⟨xs, hox, hnext⟩ := ownS.push oDot_good h.e h.n
  refine ⟨xs, hox, fun W' v' news d ho hg hat hd => ?_⟩
  obtain ⟨F', ho', hN', hF'⟩ := hnext W' v' news d [] ho hg hat hd List.nodup_nil (fun b hb => by cases hb)
  obtain ⟨a, c, hv, _⟩ := id (ownS.read oDot_good ho')
  have hk : ∀ b, qv.ownBlock = some b → wA.heap.size ≤ b ∧ b ≠ bp ∧ b ∉ F := fun b hb => h.h b (ownS.blk h.e b hb)
  have hbl := h.x.lt
  refine ⟨F', a, c, hv, ?_, h.lb, ?_, ?_, h.f, ho', hN', fun b hb => ?_⟩
  · exact h.k.grown hg h.k.size (fun b hb => (hk b hb).1)
  · exact (hg.block _ hbl (fun e => (hk _ e.symm).2.1 rfl)).trans h.x
  · exact ownS.frame oItem_good h.o (fun b hb => hg.block b (ownS.lt oItem_good h.o b hb) (fun e => (hk _ e.symm).2.2 hb))
  · rcases hF' b hb with h1 | h1 | h1
    · exact h.h b h1
    · cases h1
    · have h2 := h.k.size
      exact ⟨by omega, by omega, fun hm => by have := ownS.lt oItem_good h.o b hm; omega⟩
theorem StSt.put {wA W W2 : World} {bp : Nat} {qv pv pv' : Value} {q : List MDot} {Fq F F' : List Nat} {p p' : MGraph} (h : StSt wA bp qv q Fq pv p F W) (hb : Below W.heap.size W W2) (ho : ownS 3 52 oItem W2 pv' p'.fItems F') (hge : ∀ b, b ∈ F' → W.heap.size ≤ b) :
    StSt wA bp qv q Fq pv' p' F' (W2.setCell ⟨bp, 0, none⟩ pv') := by
  have h2 := h.below hb
  have hbl := h.x.lt
  have hlb := h.lb
  have hs := h.k.size
  refine ⟨h2.k.setCell (p := ⟨bp, 0, none⟩) hlb _, h.lb, h2.x.put 0 _, ownS.frame oItem_good ho (fun b hb => heap_setCell_other W2 ⟨bp, 0, none⟩ b _ (by have := hge b hb; show b ≠ bp; omega)), fun b hb => by have := hge b hb; constructor <;> omega, ownS.frame oDot_good h2.e (fun b hb => heap_setCell_other W2 ⟨bp, 0, none⟩ b _ (h2.h b hb).2.1), h2.n, fun b hb => ?_⟩
  exact ⟨(h2.h b hb).1, (h2.h b hb).2.1, fun hm => by have h3 := hge b hm; have h4 := ownS.lt oDot_good h.e b hb; omega⟩
theorem StSt.start {wA W : World} {bp bq : Nat} {d : MDot} (hk : Below wA.heap.size wA W) (hp : wA.heap.size ≤ bp) (hq : wA.heap.size ≤ bq) (hne : bq ≠ bp) (hx : Bw W bp 30 [.slice none 0 0]) (hb : Bw W bq 40 [.int .i64 d.fR, .int .i64 d.fN]) (h0 : (Lit.int .i64 d.fR).wf = true) (h1 : (Lit.int .i64 d.fN).wf = true) :
    StSt wA bp (.slice (some ⟨bq, 0, none⟩) 1 1) [d] [bq] (.slice none 0 0) ⟨[]⟩ [] W := by
  refine ⟨hk, hp, hx, .inl ⟨rfl, rfl, rfl⟩, (fun b hb => by cases hb), .inr ⟨bq, 1, #[.int .i64 d.fR, .int .i64 d.fN], [[]], rfl, hb, Nat.le_refl _, by unfold maxLen; omega, rfl, rfl, ?_, rfl⟩, by simp, fun b hb => by rw [List.mem_singleton.1 hb]; exact ⟨hq, hne, by simp⟩⟩
  intro j hj
  have : j = 0 := by simp at hj; omega
  subst this
  exact ⟨rfl, h0, h1, rfl⟩

end Go.Proofs.YtmigamgcmhdncaaDoor
