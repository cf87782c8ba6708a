/-
  Part 23 of the texts that the proof leans on.
-/
import Derived.Test.YtmigamgcmhdncaaDoorStb0
import Derived.Test.YtmigamgcmhdncaaDoorStb17
import Derived.Test.YtmigamgcmhdncaaDoorStb21
import Derived.Test.YtmigamgcmhdncaaDoorStb18
import Derived.Test.YtmigamgcmhdncaaDoorRows
import Derived.Test.YtmigamgcmhdncaaDoorStb1
import Derived.ProofKit
import Derived.Deep.Slices
set_option linter.unusedVariables false
set_option linter.unusedSimpArgs false
set_option maxRecDepth 10000

namespace Go.Proofs.YtmigamgcmhdncaaDoor
open Go.RowKit
/-- Rows of flags that are read, and one row. -/
def MatAt (n br : Nat) (gf : Nat → Nat) (R : Nat → Nat → Bool) (W : World) : Prop := (∀ j, j < n → W.cell? ⟨br, j, none⟩ = some (.slice (some ⟨gf j, 0, none⟩) n n)) ∧ ∀ j x, j < n → x < n → W.cell? ⟨gf j, x, none⟩ = some (.bool (R j x))
def RowAt (n bd : Nat) (D : Nat → Bool) (W : World) : Prop := ∀ j, j < n → W.cell? ⟨bd, j, none⟩ = some (.bool (D j))
theorem MatAt.under {n br : Nat} {gf : Nat → Nat} {R : Nat → Nat → Bool} {W W' : World} (h : MatAt n br gf R W) (hb : Below W.heap.size W W') : MatAt n br gf R W' :=
  ⟨fun j hj => (hb.cell (World.block_lt_of_cell? _ _ (h.1 j hj))).trans (h.1 j hj), fun j x hj hx => (hb.cell (World.block_lt_of_cell? _ _ (h.2 j x hj hx))).trans (h.2 j x hj hx)⟩
theorem RowAt.under {n bd : Nat} {D : Nat → Bool} {W W' : World} (h : RowAt n bd D W) (hb : Below W.heap.size W W') : RowAt n bd D W' := fun j hj => (hb.cell (World.block_lt_of_cell? _ _ (h j hj))).trans (h j hj)
def inK (R : Nat → Nat → Bool) (k i : Nat) : Bool := decide (i = k) || (R k i && R i k)
def depOk (l : List MItem) (R : Nat → Nat → Bool) (D : Nat → Bool) (k : Nat) (d : MDot) : Prop := ∀ t, (ht : t < l.length) → sameD l[t].fD d = true → (D t || inK R k t) = true
def readyP (l : List MItem) (R : Nat → Nat → Bool) (D : Nat → Bool) (k : Nat) : Prop := ∀ i, (hi : i < l.length) → inK R k i = true → ∀ d, d ∈ l[i].fDeps → depOk l R D k d


theorem inK_iff {l : List MItem} {n : Nat} (hx : n = l.length) {R : Nat → Nat → Bool} (hR : ∀ a b, a < n → (R a b = true ↔ Reach l a b)) {k i : Nat} (hk : k < n) (hi : i < n) : inK R k i = true ↔ ring l k i := by
  unfold inK ring
  rw [Bool.or_eq_true, Bool.and_eq_true, decide_eq_true_iff, hR k i hk, hR i k hi]
  exact or_congr_right ⟨fun h => ⟨h.2, h.1⟩, fun h => ⟨h.2, h.1⟩⟩
/-- The specification's question is whether all that is needed is taken. -/
theorem ready_iff {l : List MItem} {n : Nat} (hx : n = l.length) {R : Nat → Nat → Bool} (hR : ∀ a b, a < n → (R a b = true ↔ Reach l a b)) {qs : List Nat} (ho : OrdOk l qs) {D : Nat → Bool} (hD : ∀ j, j < n → (D j = true ↔ takenBy l qs j)) {k : Nat} (hk : k < n) :
    readyP l R D k ↔ ∀ j, Reach l k j → ¬ ring l k j → takenBy l qs j := by
  constructor
  · intro h j hj hn
    have key : takenBy l qs j ∨ ring l k j := by
      have step : ∀ i x, ring l k i → i < l.length → stepTo l i x → takenBy l qs x ∨ ring l k x := by
        rintro i x hr hi ⟨_, hxl, d, hd, hs⟩
        have h1 := h i hi ((inK_iff hx hR hk (by omega)).2 hr) d hd x hxl hs
        rw [Bool.or_eq_true] at h1
        exact h1.imp (hD x (by omega)).1 (inK_iff hx hR hk (by omega)).1
      refine reach_of (M := fun x => takenBy l qs x ∨ ring l k x) (fun x hs => step k x (ring.refl _ _) (by omega) hs) (fun x y hM hs => ?_) hj
      rcases hM with hM | hM
      · exact .inl (ho.closed hM (Reach.base hs))
      · exact step x y hM (hM.lt (by omega)) hs
    exact key.resolve_right hn
  · intro h i hi hin d hd t ht hs
    have hr := (inK_iff hx hR hk (by omega)).1 hin
    have hst : stepTo l i t := ⟨hi, ht, d, hd, hs⟩
    have hkt : Reach l k t := by
      rcases hr with rfl | hr
      · exact Reach.base hst
      · exact hr.2.step hst
    rw [Bool.or_eq_true]
    by_cases hrt : ring l k t
    · exact .inr ((inK_iff hx hR hk (by omega)).2 hrt)
    · exact .inl ((hD t (by omega)).2 (h t hkt hrt))
/-- What was done, and what is out. -/
structure DoneSt (l : List MItem) (n : Nat) (qs : List Nat) (dn : List Bool) (L : List MDot) : Prop where
  ord : OrdOk l qs
  len : dn.length = n
  got : ∀ j, j < n → (dn.getD j false = true ↔ takenBy l qs j)
  dots : DotsOf l qs L
theorem DoneSt.start {l : List MItem} {n : Nat} : DoneSt l n [] (List.replicate n false) [] :=
  ⟨OrdOk.nil l, by simp, fun j hj => by
    rw [List.getD_eq_getElem?_getD, List.getElem?_replicate]
    constructor
    · intro h; split at h <;> cases h
    · intro h; exact (takenBy_nil h).elim, DotsOf.nil l⟩
theorem DoneSt.cand {l : List MItem} {n : Nat} (hx : n = l.length) {qs : List Nat} {dn : List Bool} {L : List MDot} (h : DoneSt l n qs dn L) {R : Nat → Nat → Bool} (hR : ∀ a b, a < n → (R a b = true ↔ Reach l a b)) {k : Nat} (hk : k < n) :
    cand l qs k ↔ wholeAt l k ∧ dn.getD k false = false ∧ readyP l R (fun j => dn.getD j false) k := by
  rw [ready_iff hx hR h.ord h.got hk]
  unfold Go.Proofs.YtmigamgcmhdncaaDoor.cand
  constructor
  · rintro ⟨_, h2, h3, h4⟩
    exact ⟨h2, Bool.eq_false_iff.2 (fun hc => h3 ((h.got k hk).1 hc)), h4⟩
  · rintro ⟨h2, h3, h4⟩
    exact ⟨by omega, h2, (fun ht => by rw [(h.got k hk).2 ht] at h3; cases h3), h4⟩
/-- One group more: the flags of its ring are set, its dots are behind. -/
theorem DoneSt.take {l : List MItem} {n : Nat} (hx : n = l.length) {qs : List Nat} {dn dn2 : List Bool} {L : List MDot} (h : DoneSt l n qs dn L) {R : Nat → Nat → Bool} (hR : ∀ a b, a < n → (R a b = true ↔ Reach l a b)) {k : Nat} (hk : k < n) (hc : nextOk l qs k) (hl : dn2.length = n) (h2 : ∀ j, j < n → dn2.getD j false = (dn.getD j false || inK R k j)) : DoneSt l n (qs ++ [k]) dn2 (L ++ pickT (inK R k) l n) := by
  refine ⟨h.ord.snoc hc, hl, fun j hj => ?_, ?_⟩
  · rw [h2 j hj, Bool.or_eq_true, h.got j hj, inK_iff hx hR hk hj, takenBy_snoc]
  · rw [hx]
    exact h.dots.snoc ⟨inK R k, fun j hj => inK_iff hx hR hk (by omega), rfl⟩

/-- What stays while groups are taken: the rows of what is reached, of what is whole, the flags, the dots. -/
structure OSt (m : MGraph) (B z2 z3 z4 : Nat) (w3 : World) (n : Nat) (a : Option Addr) (cap : Nat) (vo : Value) (dn : List Bool) (L : List MDot) (W : World) : Prop where
  out : RowR 2 40 rDot B W (B + 1) vo L
  blk : ∀ b, vo.ownBlock = some b → b < z2 ∨ z4 ≤ b
  rows : ∀ b, z2 ≤ b → b < z3 → W.heap[b]? = w3.heap[b]?
  flags : Bw W z3 4 (boolC dn)
  box : Bx W B [.slice a n cap]
  low : Below B w3 W
  big : z4 ≤ W.heap.size
  len : L.length ≤ 10000
  flen : dn.length = n
theorem OSt.under {m : MGraph} {B z2 z3 z4 : Nat} {w3 : World} {n : Nat} {a : Option Addr} {cap : Nat} {vo : Value} {dn : List Bool} {L : List MDot} {W W' : World} (h : OSt m B z2 z3 z4 w3 n a cap vo dn L W) (hz : z3 < z4) (hB : B ≤ W.heap.size) (hb : Below W.heap.size W W') : OSt m B z2 z3 z4 w3 n a cap vo dn L W' :=
  ⟨RowR.keep rDot_good h.out hb hB, h.blk, fun b h1 h2 => (hb.block b (by have := h.big; omega)).trans (h.rows b h1 h2), h.flags.under hb, h.box.under hb, h.low.trans (hb.mono hB), Nat.le_trans h.big hb.size, h.len, h.flen⟩


theorem implOrderOf_c (R : List MDot) (cs : List Value) (m : MGraph) (hR : OrderL m R) (w : World) (hr : rGraph w.heap.size w cs m) (hw : wGraph m ≤ 1048576) (hT : TzAt w) :
    Calls Tryd.prog 22 #[.agg cs.toArray] w fun e w' => ∃ (v : Value) (F : List Nat), e = .returned v ∧ ownS 2 40 oDot w' v R F ∧ F.Nodup ∧ (∀ b, b ∈ F → w.heap.size ≤ b) ∧ Below w.heap.size w w' := by
  refine (implOrderOf_any cs m w hr hw hT).mono ?_
  rintro e w' ⟨v, L, rfl, hL, hrow, hb⟩
  rw [hL.one hR] at hrow
  obtain ⟨h1, h2, h3⟩ := dots_own hrow
  exact ⟨v, _, rfl, h1, h2, h3, hb⟩


section
variable {H : Type} {enc : TypeId × Value → H} {w : World} {base fuel : Nat} {spare : Nat → Bool} {held : Bool} {cs : List Value} {x : DataW H × List MemPlace}

theorem openBytes {t e : TypeId} (ht : Tryd.prog.underlying t = some (.slice e)) (he : Tryd.prog.underlying e = some (.int .u8)) (hc : Tryd.prog.cellsOf e = 1) (h : DataW.trod enc Tryd.prog w base spare held fuel t cs = some x) :
    ∃ a c, ∃ zs : List Int, cs = [.slice a zs.length c] ∧ LeafB w.heap.size w a c zs := by
  rcases Go.ChangeShapes.open_ints ht he hc h with ⟨rfl, _⟩ | ⟨a, len, cap, zs, rfl, _, hl, hm, hz, _, hcell, hwf⟩
  · exact ⟨none, 0, [], rfl, by simp, by omega, fun j hj => by simp at hj, fun z hz => by cases hz⟩
  · have hzl : len ≤ zs.length := by rw [hz]; split <;> omega
    refine ⟨some a, cap, zs.take len, by simp [hzl], by simp; omega, by simpa [maxLen] using hm, ?_, ?_⟩
    · intro j hj
      have hj' : j < len := by simp at hj; omega
      obtain ⟨b, off, rfl, hcc⟩ := ints_at hcell (by omega)
      have hcj := hcc j (by omega)
      refine ⟨b, off, rfl, World.block_lt_of_cell? _ _ hcj, ?_⟩
      rw [hcj]
      congr 2
      simp only [List.getD_eq_getElem?_getD, List.getElem?_take, hj', if_true]
    · intro z hz'
      have := hwf z (List.mem_of_mem_take hz')
      simpa [Lit.wf, IntKind.min, IntKind.max, IntKind.signed, IntKind.bits] using this

end
end Go.Proofs.YtmigamgcmhdncaaDoor
