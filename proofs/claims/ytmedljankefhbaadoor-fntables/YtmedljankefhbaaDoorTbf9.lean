/-
  Part 10 of the texts that the proof leans on.
-/
import Derived.Test.YtmedljankefhbaaDoorTbf8
set_option linter.unusedVariables false
set_option linter.unusedSimpArgs false
set_option maxRecDepth 10000

namespace Go.Proofs.YtmedljankefhbaaDoor
open Go.RowKit Go.Maps Go.Shelf

theorem pairR_bd {zs : List Int} {ahead : ByteArray} {p : MPair} {r : List Int} (h : pairR zs ahead = some (p, r)) : p.fKey.size + r.length ≤ ahead.size + zs.length ∧ p.fKey.size + p.fVal.size ≤ ahead.size + zs.length ∧ r.length < zs.length := by
  unfold pairR at h
  split at h
  · rename_i hc
    obtain ⟨c1, c2, c3, c4, c5⟩ := hc
    simp only [Option.some.injEq, Prod.mk.injEq] at h
    obtain ⟨rfl, rfl⟩ := h
    have g1 := getNum_gt c1
    have g2 := getText_gt c2
    have g4 := getText_gt c4
    have l1 : (pR1 zs).length = zs.length - (getNum zs 0).2.1.toNat := by unfold pR1 restL; rw [if_pos c1, List.length_drop]
    have l2 : (pR2 zs).length = (pR1 zs).length - (getText (pR1 zs) 0).2.1.toNat := by unfold pR2 restL; rw [if_pos c2, List.length_drop]
    have l3 : (pR3 zs).length = (pR2 zs).length - 1 := by unfold pR3 restL; rw [if_pos c3, List.length_drop]; rfl
    have l4 : (pR4 zs).length = (pR3 zs).length - (getText (pR3 zs) 0).2.1.toNat := by unfold pR4 restL; rw [if_pos c4, List.length_drop]
    have e1 : (ahead.extract 0 (getNum zs 0).1.toNat ++ strOfNums (getText (pR1 zs) 0).1).size ≤ ahead.size + (getText (pR1 zs) 0).1.length := by
      rw [ByteArray.size_append, ByteArray.size_extract, strOfNums_size]
      omega
    have e2 : (strOfNums (getText (pR3 zs) 0).1).size = (getText (pR3 zs) 0).1.length := strOfNums_size _
    simp only
    omega
  · cases h
theorem pairR_ok {zs : List Int} {ahead : ByteArray} {p : MPair} {r : List Int} (hb : BytesOk zs) (h : pairR zs ahead = some (p, r)) : BytesOk r := by
  unfold pairR at h
  split at h
  · simp only [Option.some.injEq, Prod.mk.injEq] at h
    obtain ⟨_, rfl⟩ := h
    exact restL_ok (restL_ok (restL_ok (restL_ok hb)))
  · cases h
def collD (r : Nat) : Deferred := { target := .collected r, args := #[] }
theorem leaves_all {F : Fence} {n : Nat} {P : Program} {fn : Func} {tmps : Array Value} {R : Ending → World → Prop} : ∀ (rs : List Nat) (W : World), rs.Nodup → (∀ r, r ∈ rs → W.heap[r]? = some (.deferred (some []))) →
    (∀ W', Turn rs W W' → LeavesIn F n P fn tmps R [] .returning W') → LeavesInM F n P fn tmps R (rs.map collD) .returning W := by
  intro rs
  induction rs with
  | nil => intro W _ _ h; exact h W (Turn.refl _ _)
  | cons r rs ih =>
    intro W hN hd h
    have hr := hd r (by simp)
    refine ⟨by simp, .inl ⟨r, _, rfl, run_takeDeferred hr, ?_⟩⟩
    have ht : Turn (r :: rs) W (W.putObj r (.deferred none)) := Turn.ofGrown (grownBy_putObj' W r _) (fun k hk => by simp only [Option.some.injEq] at hk; simp [hk])
    refine ih _ (List.nodup_cons.1 hN).2 (fun q hq => ?_) (fun W' hW => h W' (ht.trans (hW.mono (fun k hk => by simp [hk]))))
    have hne : q ≠ r := fun e => (List.nodup_cons.1 hN).1 (e ▸ hq)
    exact (World.putObj_heap_other hne).trans (hd q (by simp [hq]))

def RP (w : World) (X O B0 : Nat) (vm vf : Value) (pt : Int) (marks : List (ByteArray × Int)) (W : World) (vO : Value) (out : List MPair) (rs : List Nat) : Prop :=
  Bw W w.heap.size 24 [.slice none 0 0] ∧ Bw W (w.heap.size + 1) 55 [.nilIface] ∧ Bw W X 80 [vm, vf, .int .i64 pt] ∧ Bw W O 24 [vO] ∧
  RowR 3 32 rPair 0 W B0 vO out ∧ RowR 2 49 rMark 0 W w.heap.size vm marks ∧ rs.Nodup ∧ (∀ r, r ∈ rs → B0 ≤ r ∧ r < W.heap.size ∧ W.heap[r]? = some (.deferred (some []))) ∧
  (∀ k, vO.ownBlock = some k → k ∉ rs) ∧ w.heap.size + 1 < X ∧ X < O ∧ O < B0 ∧ B0 ≤ W.heap.size ∧ (∀ k, vm.ownBlock = some k → k < X) ∧ Below w.heap.size w W
section
variable {w : World} {X O B0 : Nat} {vm vf : Value} {pt : Int} {marks : List (ByteArray × Int)} {W W' : World} {vO : Value} {out : List MPair} {rs F : List Nat}
theorem RP.size (h : RP w X O B0 vm vf pt marks W vO out rs) : w.heap.size + 1 < X ∧ X < O ∧ O < B0 ∧ B0 ≤ W.heap.size := by
  obtain ⟨_, _, _, _, _, _, _, _, _, h1, h2, h3, h4, _, _⟩ := h
  exact ⟨h1, h2, h3, h4⟩
theorem RP.below (h : RP w X O B0 vm vf pt marks W vO out rs) : Below w.heap.size w W := by
  obtain ⟨_, _, _, _, _, _, _, _, _, _, _, _, _, _, h⟩ := h
  exact h
theorem RP.turn (h : RP w X O B0 vm vf pt marks W vO out rs) (ht : Turn F W W') (hF : ∀ k, k ∈ F → B0 ≤ k ∧ k ∉ rs ∧ vO.ownBlock ≠ some k) : RP w X O B0 vm vf pt marks W' vO out rs := by
  obtain ⟨h1, h2, h3, h4, h5, h6, h7, h8, h9, s1, s2, s3, s4, hv, hb⟩ := h
  have no : ∀ b, b < B0 → b ∉ F := fun b hb hm => by have := (hF b hm).1; omega
  obtain ⟨css, r1, r2, r3, r4⟩ := h5
  obtain ⟨css', q1, q2, q3, q4⟩ := h6
  refine ⟨h1.turn ht (no _ (by omega)), h2.turn ht (no _ (by omega)), h3.turn ht (no _ (by omega)), h4.turn ht (no _ (by omega)), ⟨css, r1, r2, fun j a b => r3 j a b, own_of_block r4 (fun k hk => ht.block k (r4.lt k hk).2 (fun hm => (hF k hm).2.2 hk))⟩,
    ⟨css', q1, q2, fun j a b => q3 j a b, own_of_block q4 (fun k hk => ht.block k (q4.lt k hk).2 (no k (by have := hv k hk; omega)))⟩, h7, fun r hr => ?_, h9, s1, s2, s3, Nat.le_trans s4 ht.size, hv, hb.trans (ht.below (fun k hk => by have := (hF k hk).1; omega) (by omega))⟩
  obtain ⟨a1, a2, a3⟩ := h8 r hr
  exact ⟨a1, Nat.lt_of_lt_of_le a2 ht.size, (ht.block r a2 (fun hm => (hF r hm).2.1 hr)).trans a3⟩
theorem RP.under (h : RP w X O B0 vm vf pt marks W vO out rs) (hb : Below W.heap.size W W') : RP w X O B0 vm vf pt marks W' vO out rs := h.turn (Turn.ofBelow (F := []) hb) (fun k hk => by cases hk)
theorem RP.put (h : RP w X O B0 vm vf pt marks W vO out rs) {l : Nat} (o : Obj) (h1 : B0 ≤ l) (h2 : l ∉ rs) (h3 : vO.ownBlock ≠ some l) : RP w X O B0 vm vf pt marks (W.putObj l o) vO out rs :=
  h.turn (F := [l]) (Turn.ofGrown (grownBy_putObj' W l o) (fun k hk => by simp only [Option.some.injEq] at hk; simp [hk])) (fun k hk => by simp only [List.mem_singleton] at hk; subst hk; exact ⟨h1, h2, h3⟩)
theorem RP.mark (h : RP w X O B0 vm vf pt marks W vO out rs) {r : Nat} (h1 : B0 ≤ r) (h2 : r < W.heap.size) (h3 : W.heap[r]? = some (.deferred (some []))) (h4 : r ∉ rs) (h5 : vO.ownBlock ≠ some r) : RP w X O B0 vm vf pt marks W vO out (r :: rs) := by
  obtain ⟨g1, g2, g3, g4, g5, g6, g7, g8, g9, s⟩ := h
  refine ⟨g1, g2, g3, g4, g5, g6, List.nodup_cons.2 ⟨h4, g7⟩, fun q hq => ?_, fun k hk => ?_, s⟩
  · rcases List.mem_cons.1 hq with rfl | hq
    · exact ⟨h1, h2, h3⟩
    · exact g8 q hq
  · intro hm
    rcases List.mem_cons.1 hm with rfl | hm
    · exact h5 hk
    · exact g9 k hk hm
/-- One pair more: the row has grown, and its box is written. -/
theorem RP.push {W2 W3 : World} {v3 : Value} {p : MPair} {css : List (List Value)} (h : RP w X O B0 vm vf pt marks W vO out rs) (hb : Below W.heap.size W W2) (r1 : css.length = out.length) (r2 : ∀ c, c ∈ css → c.length = 3) (r3 : ∀ j, (a : j < out.length) → (b : j < css.length) → rPair 0 W css[j] out[j])
    (ho : W3.ownsRow B0 32 3 v3 (out.length + 1) (css.flatten ++ [.string p.fKey, .string p.fVal, .bool p.fGone])) (hg : W2.grownBy W3 vO.ownBlock) (hl : v3.ownBlock = vO.ownBlock ∨ v3.ownBlock = some W2.heap.size) (hk1 : p.fKey.size ≤ 9223372036854775807) (hk2 : p.fVal.size ≤ 9223372036854775807) :
    RP w X O B0 vm vf pt marks (W3.setCell ⟨O, 0, none⟩ v3) v3 (out ++ [p]) rs := by
  have h0 := h
  obtain ⟨h1, h2, h3, h4, h5, h6, h7, h8, h9, s1, s2, s3, s4, hv, hbw⟩ := h.under hb
  have hrow : RowR 3 32 rPair 0 W3 B0 v3 (out ++ [p]) := RowR.push rPair_good (w := W) r1 r2 (fun j a b => r3 j a b) ⟨hg.os.trans hb.os, hg.tape.trans hb.tape, hg.output.trans hb.output, Nat.le_trans hb.size hg.size, fun k hk => by omega⟩ rfl ⟨rfl, hk1, hk2, trivial, trivial⟩ ho
  have hgB : ∀ k, vO.ownBlock = some k → B0 ≤ k := fun k hk => by obtain ⟨_, _, _, _, q⟩ := h5; exact (q.lt k hk).1
  have ht := turnOwn hg
  have hF1 : ∀ k, k ∈ vO.ownBlock.toList → vO.ownBlock = some k := fun k hk => by simpa using hk
  have no : ∀ b, b < B0 → b ∉ vO.ownBlock.toList := fun b hb hm => by have := hgB b (hF1 b hm); omega
  have hT : Turn [O] W3 (W3.setCell ⟨O, 0, none⟩ v3) := (Turn.refl _ _).setCell (by simp) _
  have hO3 : Bw W3 O 24 [vO] := h4.turn ht (no _ (by omega))
  have hob := fun k hk => (ho.lt k hk)
  obtain ⟨css2, c1, c2, c3, c4⟩ := hrow
  obtain ⟨css', q1, q2, q3, q4⟩ := h6
  refine ⟨(h1.turn ht (no _ (by omega))).turn hT (by simp; omega), (h2.turn ht (no _ (by omega))).turn hT (by simp; omega), (h3.turn ht (no _ (by omega))).turn hT (by simp; omega), hO3.put 0 _,
    ⟨css2, c1, c2, fun j a b => c3 j a b, own_of_block c4 (fun k hk => hT.block k (c4.lt k hk).2 (by have := (c4.lt k hk).1; simp; omega))⟩,
    ⟨css', q1, q2, fun j a b => q3 j a b, own_of_block q4 (fun k hk => (hT.block k (Nat.lt_of_lt_of_le (q4.lt k hk).2 hg.size) (by have := hv k hk; simp; omega)).trans (ht.block k (q4.lt k hk).2 (no k (by have := hv k hk; omega))))⟩,
    h7, fun r hr => ?_, fun k hk hm => ?_, s1, s2, s3, Nat.le_trans s4 (Nat.le_trans hg.size hT.size), hv, (hbw.grown hg hbw.size (fun k hk => by have := hgB k hk; omega)).trans (hT.below (fun k hk => by simp at hk; omega) (by have := hg.size; omega))⟩
  · obtain ⟨a1, a2, a3⟩ := h8 r hr
    exact ⟨a1, Nat.lt_of_lt_of_le a2 (Nat.le_trans hg.size hT.size), ((hT.block r (Nat.lt_of_lt_of_le a2 hg.size) (by simp; omega)).trans (ht.block r a2 (fun hm => h9 r (hF1 r hm) hr))).trans a3⟩
  · rcases hl with e | e
    · exact h9 k (e ▸ hk) hm
    · rw [e] at hk
      have := (h8 k hm).2.1
      simp at hk
      omega
end

/-- The two results are written: nothing, and an error. -/
def RE (w W : World) (rs : List Nat) (ev : Value) : Prop :=
  Bw W w.heap.size 24 [.slice none 0 0] ∧ Bw W (w.heap.size + 1) 55 [ev] ∧ rs.Nodup ∧ (∀ r, r ∈ rs → w.heap.size + 1 < r ∧ r < W.heap.size ∧ W.heap[r]? = some (.deferred (some []))) ∧ Below w.heap.size w W
theorem RP.fail {w : World} {X O B0 : Nat} {vm vf : Value} {pt : Int} {marks : List (ByteArray × Int)} {W : World} {vO : Value} {out : List MPair} {rs : List Nat} (h : RP w X O B0 vm vf pt marks W vO out rs) (ev : Value) :
    RE w ((W.setCell ⟨w.heap.size, 0, none⟩ (.slice none 0 0)).setCell ⟨w.heap.size + 1, 0, none⟩ ev) rs ev ∧ Turn [w.heap.size, w.heap.size + 1] W ((W.setCell ⟨w.heap.size, 0, none⟩ (.slice none 0 0)).setCell ⟨w.heap.size + 1, 0, none⟩ ev) := by
  obtain ⟨h1, h2, _, _, _, _, h7, h8, _, s1, s2, s3, s4, _, hb⟩ := h
  have t1 : Turn [w.heap.size] W (W.setCell ⟨w.heap.size, 0, none⟩ (.slice none 0 0)) := (Turn.refl _ _).setCell (by simp) _
  have t2 : Turn [w.heap.size + 1] (W.setCell ⟨w.heap.size, 0, none⟩ (.slice none 0 0)) ((W.setCell ⟨w.heap.size, 0, none⟩ (.slice none 0 0)).setCell ⟨w.heap.size + 1, 0, none⟩ ev) := (Turn.refl _ _).setCell (by simp) _
  have t : Turn [w.heap.size, w.heap.size + 1] W ((W.setCell ⟨w.heap.size, 0, none⟩ (.slice none 0 0)).setCell ⟨w.heap.size + 1, 0, none⟩ ev) := (t1.mono (fun k hk => by simp at hk; simp [hk])).trans (t2.mono (fun k hk => by simp at hk; simp [hk]))
  refine ⟨⟨(h1.put 0 _).turn t2 (by simp), (h2.turn t1 (by simp)).put 0 _, h7, fun r hr => ?_, hb.trans (t.below (fun k hk => by simp at hk; omega) hb.size)⟩, t⟩
  obtain ⟨a1, a2, a3⟩ := h8 r hr
  exact ⟨by omega, Nat.lt_of_lt_of_le a2 t.size, (t.block r a2 (by simp; omega)).trans a3⟩
theorem RE.put {w W : World} {rs : List Nat} {ev : Value} (h : RE w W rs ev) {l : Nat} (o : Obj) (h1 : w.heap.size + 1 < l) (h2 : l ∉ rs) : RE w (W.putObj l o) rs ev := by
  obtain ⟨a1, a2, a3, a4, a5⟩ := h
  have t : Turn [l] W (W.putObj l o) := Turn.ofGrown (grownBy_putObj' W l o) (fun k hk => by simp only [Option.some.injEq] at hk; simp [hk])
  refine ⟨a1.turn t (by simp; omega), a2.turn t (by simp; omega), a3, fun r hr => ?_, a5.trans (t.below (fun k hk => by simp at hk; omega) a5.size)⟩
  obtain ⟨b1, b2, b3⟩ := a4 r hr
  exact ⟨b1, Nat.lt_of_lt_of_le b2 t.size, (t.block r b2 (fun hm => by simp at hm; exact h2 (hm ▸ hr))).trans b3⟩
theorem RE.taken {w W W' : World} {rs : List Nat} {ev : Value} (h : RE w W rs ev) (ht : Turn rs W W') : Bw W' w.heap.size 24 [.slice none 0 0] ∧ Bw W' (w.heap.size + 1) 55 [ev] ∧ Below w.heap.size w W' := by
  obtain ⟨a1, a2, a3, a4, a5⟩ := h
  exact ⟨a1.turn ht (fun hm => by have := (a4 _ hm).1; omega), a2.turn ht (fun hm => by have := (a4 _ hm).1; omega), a5.trans (ht.below (fun k hk => by have := (a4 k hk).1; omega) a5.size)⟩

theorem RP.good {w : World} {X O B0 : Nat} {vm vf : Value} {pt : Int} {marks : List (ByteArray × Int)} {W : World} {vO : Value} {out : List MPair} {rs : List Nat} (h : RP w X O B0 vm vf pt marks W vO out rs) :
    rs.Nodup ∧ (∀ r, r ∈ rs → ((W.setCell ⟨w.heap.size, 0, none⟩ vO).setCell ⟨w.heap.size + 1, 0, none⟩ .nilIface).heap[r]? = some (.deferred (some []))) ∧ (∀ W8, Turn rs ((W.setCell ⟨w.heap.size, 0, none⟩ vO).setCell ⟨w.heap.size + 1, 0, none⟩ .nilIface) W8 →
      Bw W8 w.heap.size 24 [vO] ∧ Bw W8 (w.heap.size + 1) 55 [.nilIface] ∧ RowR 3 32 rPair 0 W8 w.heap.size vO out ∧ Below w.heap.size w W8) := by
  obtain ⟨h1, h2, _, _, h5, _, h7, h8, h9, s1, s2, s3, s4, _, hb⟩ := h
  have t1 : Turn [w.heap.size] W (W.setCell ⟨w.heap.size, 0, none⟩ vO) := (Turn.refl _ _).setCell (by simp) _
  have t2 : Turn [w.heap.size + 1] (W.setCell ⟨w.heap.size, 0, none⟩ vO) ((W.setCell ⟨w.heap.size, 0, none⟩ vO).setCell ⟨w.heap.size + 1, 0, none⟩ .nilIface) := (Turn.refl _ _).setCell (by simp) _
  have t : Turn [w.heap.size, w.heap.size + 1] W ((W.setCell ⟨w.heap.size, 0, none⟩ vO).setCell ⟨w.heap.size + 1, 0, none⟩ .nilIface) := (t1.mono (fun k hk => by simp at hk; simp [hk])).trans (t2.mono (fun k hk => by simp at hk; simp [hk]))
  refine ⟨h7, fun r hr => ?_, fun W8 h8' => ?_⟩
  · obtain ⟨a1, a2, a3⟩ := h8 r hr
    exact (t.block r a2 (by simp; omega)).trans a3
  · have no : ∀ b, b < B0 → b ∉ rs := fun b hb hm => by have := (h8 b hm).1; omega
    obtain ⟨css, r1, r2, r3, r4⟩ := h5
    refine ⟨((h1.put 0 vO).turn t2 (by simp)).turn h8' (no _ (by omega)), ((h2.turn t1 (by simp)).put 0 .nilIface).turn h8' (no _ (by omega)), ⟨css, r1, r2, fun j a b => r3 j a b, own_base (own_of_block r4 (fun k hk => (h8'.block k (Nat.lt_of_lt_of_le (r4.lt k hk).2 t.size) (h9 k hk)).trans (t.block k (r4.lt k hk).2 (by have := (r4.lt k hk).1; simp; omega)))) (by omega)⟩, (hb.trans (t.below (fun k hk => by simp at hk; omega) hb.size)).trans (h8'.below (fun k hk => by have := (h8 k hk).1; omega) (Nat.le_trans hb.size t.size))⟩

end Go.Proofs.YtmedljankefhbaaDoor
