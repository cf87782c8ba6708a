/-
  Part 6 of the texts that the proof leans on.
-/
import Derived.Test.YtddejboifpepcaaGreatDoorInp4
import Derived.Test.YtddejboifpepcaaGreatDoorInp0
import Derived.Test.YtddejboifpepcaaGreatDoorInp1
import Derived.Test.YtddejboifpepcaaGreatDoorInp3
import Derived.Deep.RegionHeld3
import Derived.Test.YtddejboifpepcaaGreatDoorRows
import Derived.Test.YtddejboifpepcaaGreatDoorChecked
import Derived.Lib.ConvBytes
set_option linter.unusedVariables false
set_option linter.unusedSimpArgs false
set_option maxRecDepth 10000

namespace Go.Proofs.YtddejboifpepcaaGreatDoor
open Go.RowKit
theorem oDisk_cells {w : World} {cs : List Value} {m : MDisk} {F : List Nat} (h : oDisk w cs m F) : ∃ a0 c0 a1 c1 a2 c2 F0 F1 F2, cs = [.slice a0 m.fInodes.length c0, .slice a1 m.fNames.length c1, .slice a2 m.fSafe.length c2, .int .i64 m.fNext] ∧
  ownS 3 94 oInode w (.slice a0 m.fInodes.length c0) m.fInodes F0 ∧ ownS 2 101 oEntry w (.slice a1 m.fNames.length c1) m.fNames F1 ∧ ownS 2 101 oEntry w (.slice a2 m.fSafe.length c2) m.fSafe F2 ∧ (Lit.int .i64 m.fNext).wf = true ∧ F = F0 ++ F1 ++ F2 ++ [] := by
 obtain ⟨v0, F0, v1, F1, v2, F2, rfl, h0, h1, h2, h3, rfl⟩ := h
 obtain ⟨a0, c0, rfl, _⟩ := ownS.read oInode_good h0
 obtain ⟨a1, c1, rfl, _⟩ := ownS.read oEntry_good h1
 obtain ⟨a2, c2, rfl, _⟩ := ownS.read oEntry_good h2
 exact ⟨a0, c0, a1, c1, a2, c2, F0, F1, F2, rfl, h0, h1, h2, h3, rfl⟩
theorem oDisk_inode {w : World} {g c0 : Nat} {a1 a2 : Option Addr} {c1 c2 : Nat} {m : MDisk} {F0 F1 F2 : List Nat} (h0 : ownS 3 94 oInode w (.slice (some ⟨g, 0, none⟩) m.fInodes.length c0) m.fInodes F0) (h1 : ownS 2 101 oEntry w (.slice a1 m.fNames.length c1) m.fNames F1) (h2 : ownS 2 101 oEntry w (.slice a2 m.fSafe.length c2) m.fSafe F2)
  (h3 : (Lit.int .i64 m.fNext).wf = true) (hN : (F0 ++ F1 ++ F2 ++ []).Nodup) {p i : Nat} (hp : p < m.fInodes.length) (hi : i < 3) (u : Value) (f : MInode → MInode) (Fn : List Nat) (hFn : ∀ b, b ∈ Fn → b ∉ F0 ++ F1 ++ F2)
  (hm : ∀ cs Fk, oInode w cs m.fInodes[p] Fk → Fk.Nodup → ∃ G, oInode w (cs.set i u) (f m.fInodes[p]) G ∧ G.Nodup ∧ ∀ b, b ∈ G → b ∈ Fk ∨ b ∈ Fn) :
  ∃ F', oDisk (w.setCell ⟨g, p * 3 + i, none⟩ u) [.slice (some ⟨g, 0, none⟩) m.fInodes.length c0, .slice a1 m.fNames.length c1, .slice a2 m.fSafe.length c2, .int .i64 m.fNext] { m with fInodes := updI m.fInodes p f } F' ∧ F'.Nodup ∧ (∀ b, b ∈ F' → b ∈ F0 ++ F1 ++ F2 ∨ b ∈ Fn) ∧ g ∈ F0 := by
 rw [List.append_nil, List.append_assoc, List.nodup_append] at hN
 obtain ⟨n0, n1, n2⟩ := hN
 obtain ⟨G, g1, g2, g3, g4⟩ := ownS.cellPut oInode_good h0 n0 hp hi u (f m.fInodes[p]) Fn (fun b hb hb0 => hFn b hb (by simp [hb0])) hm
 have hT : Turn [g] w (w.setCell ⟨g, p * 3 + i, none⟩ u) := Turn.setCell (Turn.refl _ _) (by simp) _
 have hg1 : g ∉ F1 := fun h => n2 g g4 g (by simp [h]) rfl
 have hg2 : g ∉ F2 := fun h => n2 g g4 g (by simp [h]) rfl
 have e1 := ownS.frame (w' := w.setCell ⟨g, p * 3 + i, none⟩ u) oEntry_good h1 (fun b hb => hT.block b (ownS.lt oEntry_good h1 b hb) (by intro h; simp at h; subst h; exact hg1 hb))
 have e2 := ownS.frame (w' := w.setCell ⟨g, p * 3 + i, none⟩ u) oEntry_good h2 (fun b hb => hT.block b (ownS.lt oEntry_good h2 b hb) (by intro h; simp at h; subst h; exact hg2 hb))
 refine ⟨G ++ F1 ++ F2 ++ [], ⟨_, G, _, F1, _, F2, rfl, ?_, e1, e2, h3, rfl⟩, ?_, ?_, g4⟩
 ·rw [updI_at hp]
  exact g1
 ·rw [List.append_nil, List.append_assoc, List.nodup_append]
  refine ⟨g2, n1, fun a ha b hb hab => ?_⟩
  subst hab
  rcases g3 a ha with h | h
  ·exact n2 a h a hb rfl
  ·exact hFn a h (by simp at hb; simp; exact .inr hb)
 ·intro b hb
  simp at hb ⊢
  rcases hb with h | h | h
  ·rcases g3 b h with h | h
   ·exact .inl (.inl h)
   ·exact .inr h
  ·exact .inl (.inr (.inl h))
  ·exact .inl (.inr (.inr h))
theorem ownS.split {α : Type} {size : Nat} {e : TypeId} {O : ORep α} {R : Rep α} (hO : O.Good R size) {w : World} {g cap : Nat} {l : List α} {F : List Nat} (h : ownS size e O w (.slice (some ⟨g, 0, none⟩) l.length cap) l F) (hN : F.Nodup) {k : Nat} (hk : k < l.length) :
  ∃ cs Fk, O w cs l[k] Fk ∧ Fk.Nodup ∧ (∀ b, b ∈ Fk → b ∈ F ∧ b ≠ g) ∧ g ∈ F ∧ (∀ i u, cs[i]? = some u → w.cell? ⟨g, k * size + i, none⟩ = some u) ∧ (∀ i, w.frozen? ⟨g, i, none⟩ = false) ∧
   ∀ (W : World) (i : Nat) (u : Value) (m' : α) (G Fn : List Nat), i < size → Turn Fk w W → O W (cs.set i u) m' G → G.Nodup → (∀ b, b ∈ G → b ∈ Fk ∨ b ∈ Fn) → (∀ b, b ∈ Fn → b ∉ F) →
    ∃ F', ownS size e O (W.setCell ⟨g, k * size + i, none⟩ u) (.slice (some ⟨g, 0, none⟩) l.length cap) (l.set k m') F' ∧ F'.Nodup ∧ ∀ b, b ∈ F' → b ∈ F ∨ b ∈ Fn := by
 rcases h with ⟨h0, _, _⟩ | ⟨g', cap', cur, Fs, h1, h2, h3, h4, h5, h6, h7, rfl⟩
 ·cases h0
 ·simp only [Value.slice.injEq, Option.some.injEq, Addr.mk.injEq, and_true, true_and] at h1
  obtain ⟨rfl, rfl⟩ := h1
  rw [List.nodup_cons] at hN
  have hkF : k < Fs.length := by omega
  have hgk : Fs.getD k [] = Fs[k] := by rw [List.getD_eq_getElem?_getD, List.getElem?_eq_getElem hkF]; rfl
  have hfn := flatten_nodup_iff.1 hN.2
  have hnk : (Fs.getD k []).Nodup := by rw [hgk]; exact hfn.1 _ (List.getElem_mem hkF)
  refine ⟨_, _, h7 k hk, hnk, fun b hb => ⟨List.mem_cons_of_mem _ (mem_flatten_getD hkF hb), fun e => hN.1 (by rw [← e]; exact mem_flatten_getD hkF hb)⟩, by simp, fun i u hu => ?_, fun i => frozen_of_row w g i cur e h2, ?_⟩
  ·rw [cell_of_row w g _ cur e (0, 0) h2]
   rw [List.getElem?_take] at hu
   split at hu
   ·rw [List.getElem?_drop] at hu
    simpa using hu
   ·cases hu
  intro W i u m' G Fn hi hT g1 g2 g3 hFn
  have hFn' : ∀ b, b ∈ Fn → b ∉ Fs.flatten := fun b hb hb2 => hFn b hb (List.mem_cons_of_mem _ hb2)
  obtain ⟨n1, n2⟩ := set_nodup hkF hN.2 g2 g3 hFn'
  have hgF : g ∉ (Fs.set k G).flatten := by
   intro hg
   rcases n2 g hg with hg | hg
   ·exact hN.1 hg
   ·exact hFn g hg (by simp)
  have hgW : W.heap[g]? = some (.cells cur e (0, 0)) := (hT.block g (Array.getElem?_eq_some_iff.1 h2).1 (fun hm => hN.1 (mem_flatten_getD hkF hm))).trans h2
  have hs := heap_setCell_same W g (k * size + i) cur e u hgW
  refine ⟨g :: (Fs.set k G).flatten, .inr ⟨g, cap, cur.setIfInBounds (k * size + i) u, Fs.set k G, by simp, hs, by simpa using h3, h4, by simpa using h5, by simp [h6], ?_, rfl⟩, List.nodup_cons.2 ⟨hgF, n1⟩, ?_⟩
  ·intro j hj
   have hj' : j < l.length := by simpa using hj
   have hfr : ∀ b, b ∈ (Fs.set k G).getD j [] → (W.setCell ⟨g, k * size + i, none⟩ u).heap[b]? = W.heap[b]? := by
    intro b hb
    have hbf : b ∈ (Fs.set k G).flatten := mem_flatten_getD (by simp; omega) hb
    exact heap_setCell_other W ⟨g, k * size + i, none⟩ b u (fun hh => hgF (by have : b = g := hh; rw [← this]; exact hbf))
   have hlen : cur.toList.length = cap * size := by simpa using h5
   by_cases hjk : j = k
   ·subst hjk
    have e1 : ((cur.setIfInBounds (j * size + i) u).toList.drop (j * size)).take size = ((cur.toList.drop (j * size)).take size).set i u := by
     rw [Array.toList_setIfInBounds]
     apply List.ext_getElem?
     intro x
     rw [List.getElem?_take, List.getElem?_drop, List.getElem?_set, List.getElem?_set, List.getElem?_take, List.getElem?_drop]
     by_cases hx : x < size
     ·rw [if_pos hx, if_pos hx]
      by_cases hxi : i = x
      ·subst hxi
       have hmul : (j + 1) * size ≤ cap * size := Nat.mul_le_mul_right _ (by omega)
       rw [Nat.succ_mul] at hmul
       rw [if_pos rfl, if_pos rfl, if_pos (by omega), if_pos (by simp; omega)]
      ·rw [if_neg (by omega), if_neg hxi]
     ·rw [if_neg hx, if_neg (by omega), if_neg hx]
    have e2 : (Fs.set j G).getD j [] = G := by rw [List.getD_eq_getElem?_getD, List.getElem?_set_self (by omega)]; rfl
    rw [List.getElem_set_self, e1]
    rw [e2] at hfr ⊢
    exact hO.frame g1 hfr
   ·have e1 : ((cur.setIfInBounds (k * size + i) u).toList.drop (j * size)).take size = (cur.toList.drop (j * size)).take size := by
     rw [Array.toList_setIfInBounds]
     apply List.ext_getElem?
     intro x
     rw [List.getElem?_take, List.getElem?_drop, List.getElem?_set, List.getElem?_take, List.getElem?_drop]
     by_cases hx : x < size
     ·rw [if_pos hx, if_pos hx]
      have : k * size + i ≠ j * size + x := by
       intro hh
       rcases Nat.lt_or_gt_of_ne hjk with hlt | hlt
       ·have hmul : (j + 1) * size ≤ k * size := Nat.mul_le_mul_right _ hlt
        rw [Nat.succ_mul] at hmul; omega
       ·have hmul : (k + 1) * size ≤ j * size := Nat.mul_le_mul_right _ hlt
        rw [Nat.succ_mul] at hmul; omega
      rw [if_neg this]
     ·rw [if_neg hx, if_neg hx]
    have e2 : (Fs.set k G).getD j [] = Fs.getD j [] := by rw [List.getD_eq_getElem?_getD, List.getD_eq_getElem?_getD, List.getElem?_set_ne (Ne.symm hjk)]
    rw [List.getElem_set_ne (Ne.symm hjk), e1]
    rw [e2] at hfr ⊢
    have hjF : j < Fs.length := by omega
    have hgj : Fs.getD j [] = Fs[j] := by rw [List.getD_eq_getElem?_getD, List.getElem?_eq_getElem hjF]; rfl
    have hW : O W ((cur.toList.drop (j * size)).take size) l[j] (Fs.getD j []) := hO.frame (h7 j hj') (fun b hb => hT.block b (hO.lt (h7 j hj') b hb) (fun hm => by
     rw [hgj] at hb
     rw [hgk] at hm
     have hp := List.pairwise_iff_getElem.1 hfn.2
     rcases Nat.lt_or_gt_of_ne hjk with hlt | hlt
     ·exact hp j k hjF hkF hlt b hb hm
     ·exact hp k j hkF hjF hlt b hm hb))
    exact hO.frame hW hfr
  ·intro b hb
   rcases List.mem_cons.1 hb with rfl | hb
   ·exact .inl (by simp)
   ·rcases n2 b hb with h | h
    ·exact .inl (List.mem_cons_of_mem _ h)
    ·exact .inr h
theorem oDisk_put {W : World} {g c0 : Nat} {a1 a2 : Option Addr} {c1 c2 : Nat} {m : MDisk} {F0 F1 F2 : List Nat} {p : Nat} {f : MInode → MInode} (hp : p < m.fInodes.length) (h0 : ownS 3 94 oInode W (.slice (some ⟨g, 0, none⟩) m.fInodes.length c0) (m.fInodes.set p (f m.fInodes[p])) F0) (h1 : ownS 2 101 oEntry W (.slice a1 m.fNames.length c1) m.fNames F1) (h2 : ownS 2 101 oEntry W (.slice a2 m.fSafe.length c2) m.fSafe F2)
  (h3 : (Lit.int .i64 m.fNext).wf = true) : oDisk W [.slice (some ⟨g, 0, none⟩) m.fInodes.length c0, .slice a1 m.fNames.length c1, .slice a2 m.fSafe.length c2, .int .i64 m.fNext] { m with fInodes := updI m.fInodes p f } (F0 ++ F1 ++ F2 ++ []) :=
 ⟨_, F0, _, F1, _, F2, rfl, by rw [updI_at hp]; exact h0, h1, h2, h3, rfl⟩
theorem wpList_copy_in {P : Program} {w : World} {ops : Array Oper} {rest : List Oper} {o : Oper} {a : Act} {Q : Exit → Act → World → Prop} (hgd : o.guard = none) (d s : Operand) (dT sT : TypeId)
  (ho : o.op = .call { callee := .builtin .copy, args := #[d, s], argTypes := #[dT, sT] }) (e : TypeId) (i : TypeInfo) (hu : P.underlying dT = some (.slice e)) (hi : P.info? e = some i) (hsz : i.size = 1)
  (base g off tot cap n dcap sl scap : Nat) (ao : Option Addr) (hd : a.eval d = .slice (some ⟨g, off, none⟩) n dcap) (hs : a.eval s = .slice ao sl scap)
  (xs : List Value) (hown : w.ownsRow base e 1 (.slice (some ⟨g, 0, none⟩) tot cap) tot xs)
  (k : IntKind) (zs : List Int) (B : Nat) (hz : zs.length = sl) (hle : sl ≤ n) (hfit : off + sl ≤ tot) (hr : Rd k B w ao zs)
  (h : ∀ w', w'.ownsRow base e 1 (.slice (some ⟨g, 0, none⟩) tot cap) tot (xs.take off ++ (zs.map (Value.int k) ++ xs.drop (off + sl))) → w.grownBy w' (some g) → wpList P ops Q rest (a.put o.dst (goInt sl)) w') : wpList P ops Q (o :: rest) a w := by
 have hsz' : (P.info? e).map (·.size) = some 1 := by rw [hi]; simp [hsz]
 by_cases h0 : sl = 0
 ·subst h0
  have hz' : zs = [] := List.eq_nil_of_length_eq_zero hz
  subst hz'
  refine wpList_copy_nothing hgd d s dT sT ho e hu hsz' _ _ _ _ _ _ hd hs (by simp) (h w ?_ (World.grownBy.refl _ _))
  simpa using hown
 ·obtain ⟨b, so, rfl, _, _⟩ := hr 0 (by omega)
  rcases hown.2 with ⟨h', _⟩ | ⟨g', cap', cur, h', hb, hg, hnc, hcm, hcs, htake⟩
  ·simp at h'
  ·simp only [Value.slice.injEq, Option.some.injEq, Addr.mk.injEq, and_true, true_and] at h'
   obtain ⟨rfl, rfl⟩ := h'
   have hl : (zs.map (Value.int k)).length = sl := by simp [hz]
   refine wpList_copy_own hgd d s dT sT ho e hu hsz' g off n dcap ⟨b, so, none⟩ sl scap hd hs cur e hg (zs.map (Value.int k)) (by rw [hl]; exact (Nat.min_eq_left hle).symm) ?_ (by rw [hl]; omega) (ints_oneCell k _) ?_
   ·intro j u hu
    have hj : j < zs.length := by
     rcases Nat.lt_or_ge j zs.length with h | h
     ·exact h
     ·rw [List.getElem?_eq_none (by simpa using h)] at hu; cases hu
    obtain ⟨b', off', e', _, hc⟩ := hr j hj
    simp only [Option.some.injEq, Addr.mk.injEq, and_true] at e'
    obtain ⟨rfl, rfl⟩ := e'
    rw [Addr.add_lit, hc]
    simp [List.getElem?_eq_getElem hj] at hu
    simp [List.getElem?_eq_getElem hj, hu]
   ·rw [hl]
    have hlen := hown.1
    simp only [Nat.mul_one] at hlen hcs htake
    have hct : cur.toList.length = cap := by simpa using hcs
    refine h _ ⟨by simp [hz]; omega, .inr ⟨g, cap, _, rfl, hb, setRow_heap w g cur _ e _ hg, hnc, hcm, ?_, ?_⟩⟩ ⟨rfl, rfl, rfl, by simp [World.setRow], fun k _ hk => setRow_other w g k _ (fun e => hk (by simp [e]))⟩
    ·simp [hz]; omega
    ·rw [List.toList_toArray, Nat.mul_one, ← htake]
     have e1 : min off cap = off := by omega
     have e2 : min off (min tot cap) = off := by omega
     apply List.ext_getElem?
     intro j
     simp only [List.getElem?_take, List.getElem?_append, List.length_take, List.getElem?_drop, List.length_map, hz, hct, e1, e2]
     by_cases h1 : j < off
     ·have hj : j < tot := by omega
      simp [h1, hj]
     ·by_cases h2 : j - off < sl
      ·have hj : j < tot := by omega
       simp [h1, h2, hj]
      ·have e3 : off + sl + (j - off - sl) = j := by omega
       simp [h1, h2, e3]
set_option maxHeartbeats 400000 in
theorem joinBytes_any (a b : Option Addr) (ca cb : Nat) (za zb : List Int) (w : World) (ha : LeafB w.heap.size w a ca za) (hb : LeafB w.heap.size w b cb zb) (hla : za.length ≤ 2097152) (hlb : zb.length ≤ 2097152) :
  Calls Tryz.prog 79 #[.slice a za.length ca, .slice b zb.length cb] w fun e w' => ∃ (v : Value) (F : List Nat), e = .returned v ∧ ownB 5 w' v (za ++ zb) F ∧ F.Nodup ∧ (∀ b, b ∈ F → w.heap.size ≤ b) ∧ Below w.heap.size w w' := by
 obtain ⟨i0, hi, hz0, hz1, hz2⟩ := info_parts Tryz.info5
 have HA := Hid.mk ha
 have HB := Hid.mk hb
 clear ha hb
 obtain ⟨na, hna⟩ : ∃ n, za.length = n := ⟨_, rfl⟩
 obtain ⟨nb, hnb⟩ : ∃ n, zb.length = n := ⟨_, rfl⟩
 have HNA := Hid.mk hna
 have HNB := Hid.mk hnb
 rw [hna] at hla ⊢
 rw [hnb] at hlb ⊢
 clear hna hnb
 go_enter Tryz.func79, Tryz.ntmps79
 go_wp2_with (at_make; refine wpList_make_full _ rfl _ _ 63 rfl w.heap.size 5 i0 (.int .u8 0) 1 Tryz.underlying63 hi hz0 hz1 .i64 .i64 _ _ (na + nb) rfl rfl (by first | rfl | (push_cast; rfl) | simp) rfl (by rw [hz2]; omega) (by unfold maxLen; omega) (Nat.le_refl _) ?_)
 intro w1 hown hgr
 have hb1 : Below w.heap.size w w1 := (Below.refl _ _).grown hgr (Nat.le_refl _) (fun k h => by cases h)
 rw [toList_madeCells_one] at hown
 have ra := (HA.out.below hb1).2.2.1
 have hlt1 : w.heap.size < w1.heap.size := (hown.lt w.heap.size rfl).2
 by_cases h0 : nb = 0
 ·subst h0
  have hzb : zb = [] := List.eq_nil_of_length_eq_zero HNB.out
  subst hzb
  rw [Nat.add_zero] at *
  go_wp2_with (first
   | (refine wpList_copy_in rfl _ _ 63 63 rfl 5 i0 Tryz.underlying63 hi hz1 w.heap.size w.heap.size 0 (na) (na) (na) (na) na ca _ rfl rfl _ hown .u8 za w.heap.size HNA.out (by omega) (by omega) ra ?_; intro w2 hown2 hg2)
   | (refine wpList_copy_nothing rfl _ _ 63 63 rfl 5 Tryz.underlying63 (by rw [hi]; simp [hz1]) _ _ _ _ _ _ rfl rfl (by simp) ?_))
  have hb2 : Below w.heap.size w w2 := hb1.grown hg2 (Nat.le_of_lt hlt1) (fun k h => by cases h; exact Nat.le_refl _)
  go_ret
  refine ⟨_, [w.heap.size], rfl, ⟨?_, ?_, rfl⟩, by simp, (fun b hb => by simp at hb; omega), hb2⟩
  ·refine own_base (own_congr hown2 (by simp [HNA.out]) ?_) (Nat.zero_le _)
   simp
  ·rw [List.append_nil]
   exact HA.out.2.2.2
 ·have hnb0 : 0 < nb := by omega
  go_wp2_with (first
   | (refine wpList_copy_in rfl _ _ 63 63 rfl 5 i0 Tryz.underlying63 hi hz1 w.heap.size w.heap.size 0 (na + nb) (na + nb) (na + nb) (na + nb) na ca _ rfl rfl _ hown .u8 za w.heap.size HNA.out (by omega) (by omega) ra ?_; intro w2 hown2 hg2; have hb2 : Below w.heap.size w w2 := hb1.grown hg2 (Nat.le_of_lt hlt1) (fun k h => by cases h; exact Nat.le_refl _); have hlt2 : w.heap.size < w2.heap.size := (hown2.lt w.heap.size rfl).2; have rb := (HB.out.below hb2).2.2.1)
   | (refine wpList_copy_in rfl _ _ 63 63 rfl 5 i0 Tryz.underlying63 hi hz1 w.heap.size w.heap.size na (na + nb) (na + nb) nb nb nb cb _ rfl rfl _ hown2 .u8 zb w.heap.size HNB.out (by omega) (by omega) rb ?_; intro w3 hown3 hg3))
  have hb3 : Below w.heap.size w w3 := hb2.grown hg3 (Nat.le_of_lt hlt2) (fun k h => by cases h; exact Nat.le_refl _)
  go_ret
  refine ⟨_, [w.heap.size], rfl, ⟨?_, ?_, rfl⟩, by simp, (fun b hb => by simp at hb; omega), hb3⟩
  ·refine own_base (own_congr hown3 (by simp [HNA.out, HNB.out]) ?_) (Nat.zero_le _)
   have hna := HNA.out
   simp [hna]
   done
  ·intro z hz
   rcases List.mem_append.1 hz with h | h
   ·exact HA.out.2.2.2 z h
   ·exact HB.out.2.2.2 z h
abbrev q843_35_5_0 : Oper := ⟨some 29, .fieldAddr 34 (.tmp 3) 0, 0, "l02_files.go:276", #[], none⟩
abbrev q843_35_5_1 : Oper := ⟨some 30, .load 31 (.tmp 29), 31, "l02_files.go:276", #[⟨0, .data⟩], none⟩
abbrev q843_35_5_2 : Oper := ⟨some 31, .move (.tmp 4), 3, "l02_files.go:276", #[], none⟩
abbrev q843_35_5_3 : Oper := ⟨some 32, .fieldAddr 94 (.tmp 5) 0, 0, "l02_files.go:276", #[], none⟩
abbrev q843_35_5_4 : Oper := ⟨some 33, .load 3 (.tmp 32), 3, "l02_files.go:276", #[⟨3, .data⟩], none⟩
abbrev q843_35_5_5 : Oper := ⟨some 34, .fieldAddr 94 (.tmp 5) 1, 0, "l02_files.go:276", #[], none⟩
abbrev q843_35_5_6 : Oper := ⟨some 35, .load 63 (.tmp 34), 63, "l02_files.go:276", #[⟨5, .data⟩], none⟩
abbrev q843_35_5_8 : Oper := ⟨some 37, .fieldAddr 94 (.tmp 5) 2, 0, "l02_files.go:276", #[], none⟩
abbrev q843_35_5_9 : Oper := ⟨some 38, .load 3 (.tmp 37), 3, "l02_files.go:276", #[⟨8, .data⟩], none⟩
abbrev q843_35_5_7 : Oper := ⟨some 36, .call { callee := .value (.func 79), args := #[.tmp 35, .const (.slice none 0 0)], argTypes := #[63, 63] }, 63, "l02_files.go:276", #[⟨6, .data⟩], none⟩
abbrev q843_35_5_10 : Oper := ⟨some 39, .build 94 #[(0, .tmp 33), (1, .tmp 36), (2, .tmp 38)], 94, "l02_files.go:276", #[⟨4, .data⟩, ⟨7, .data⟩, ⟨9, .data⟩], none⟩
abbrev q843_35_5_11 : Oper := ⟨some 40, .indexAddr 31 (.tmp 30) (.tmp 31), 0, "l02_files.go:276", #[⟨1, .data⟩, ⟨2, .data⟩, ⟨0, .phase⟩, ⟨1, .phase⟩, ⟨2, .phase⟩, ⟨3, .phase⟩, ⟨4, .phase⟩, ⟨5, .phase⟩, ⟨6, .phase⟩, ⟨7, .phase⟩, ⟨8, .phase⟩, ⟨9, .phase⟩, ⟨10, .phase⟩], none⟩
abbrev q843_35_5_12 : Oper := ⟨none, .store 94 (.tmp 40) (.tmp 39), 0, "l02_files.go:276", #[⟨11, .data⟩, ⟨10, .data⟩, ⟨7, .chain⟩, ⟨0, .phase⟩, ⟨1, .phase⟩, ⟨2, .phase⟩, ⟨3, .phase⟩, ⟨4, .phase⟩, ⟨5, .phase⟩, ⟨6, .phase⟩, ⟨7, .phase⟩, ⟨8, .phase⟩, ⟨9, .phase⟩, ⟨10, .phase⟩], none⟩
theorem al_heap (w : World) (o : Obj) (k : Nat) : (w.alloc o).heap[k]? = if k = w.heap.size then some o else w.heap[k]? := by
 show (w.heap.push o)[k]? = _
 rw [Array.getElem?_push]
theorem drew_heap (w : World) : w.drew.heap = w.heap := rfl
theorem four0 (w : World) (a b c d : Obj) : ((((w.alloc a).alloc b).alloc c).alloc d).drew.heap[w.heap.size]? = some a := by
 rw [drew_heap, al_heap, if_neg (by simp; omega), al_heap, if_neg (by simp; omega), al_heap, if_neg (by simp), al_heap, if_pos rfl]
theorem four1 (w : World) (a b c d : Obj) : ((((w.alloc a).alloc b).alloc c).alloc d).drew.heap[w.heap.size + 1]? = some b := by
 rw [drew_heap, al_heap, if_neg (by simp), al_heap, if_neg (by simp), al_heap, if_pos (by simp)]
theorem four2 (w : World) (a b c d : Obj) : ((((w.alloc a).alloc b).alloc c).alloc d).drew.heap[w.heap.size + 1 + 1]? = some c := by
 rw [drew_heap, al_heap, if_neg (by simp), al_heap, if_pos (by simp)]
theorem four3 (w : World) (a b c d : Obj) : ((((w.alloc a).alloc b).alloc c).alloc d).drew.heap[w.heap.size + 1 + 1 + 1]? = some d := by
 rw [drew_heap, al_heap, if_pos (by simp)]
set_option maxHeartbeats 2000000 in
theorem copyDisk_any (cs : List Value) (m : MDisk) (w : World) (hr : rDisk w.heap.size w cs m) (hw : wDisk m ≤ 1048576) :
  Calls Tryz.prog 35 #[.agg cs.toArray] w fun e w' => ∃ (cs' : List Value) (F : List Nat), e = .returned (.agg cs'.toArray) ∧ oDisk w' cs' m F ∧ F.Nodup ∧ (∀ b, b ∈ F → w.heap.size ≤ b) ∧ Below w.heap.size w w' := by
 have hq := hr
 obtain ⟨a0, c0, a1, c1, a2, c2, rfl, hI, hNm, hSf, hnx, _⟩ := hq
 have hw2 : m.fInodes.length + sumW wInode m.fInodes + (m.fNames.length + sumW wEntry m.fNames) + (m.fSafe.length + sumW wEntry m.fSafe) ≤ 1048576 := hw
 obtain ⟨iI, hiI, hzI0, hzI1, hzI2⟩ := info_parts Tryz.infoOfInode
 obtain ⟨iE, hiE, hzE0, hzE1, hzE2⟩ := info_parts Tryz.infoOfEntry
 have mk0 : ∀ W : World, (Instr.makeSlice 31 (.int .i64 (m.fInodes.length : Int)) (.int .i64 (m.fInodes.length : Int))).run Tryz.prog W = .ok (.slice (some ⟨W.heap.size, 0, none⟩) m.fInodes.length m.fInodes.length) (W.alloc (.cells (madeCells #[.int .i64 0, .slice none 0 0, .int .i64 0] (m.fInodes.length * 3)) 94)) := fun W => by
  have h := run_make (P := Tryz.prog) W 31 94 iI _ Tryz.underlying31 hiI hzI0 .i64 .i64 (m.fInodes.length : Int) (m.fInodes.length : Int) (by omega) (by omega) (by rw [hzI2]; omega) (by omega)
  rw [hzI1] at h
  simpa [Value.cells] using h
 have mk1 : ∀ W : World, (Instr.makeSlice 32 (.int .i64 (m.fNames.length : Int)) (.int .i64 (m.fNames.length : Int))).run Tryz.prog W = .ok (.slice (some ⟨W.heap.size, 0, none⟩) m.fNames.length m.fNames.length) (W.alloc (.cells (madeCells #[.string ⟨#[]⟩, .int .i64 0] (m.fNames.length * 2)) 101)) := fun W => by
  have h := run_make (P := Tryz.prog) W 32 101 iE _ Tryz.underlying32 hiE hzE0 .i64 .i64 (m.fNames.length : Int) (m.fNames.length : Int) (by omega) (by omega) (by rw [hzE2]; omega) (by omega)
  rw [hzE1] at h
  simpa [Value.cells] using h
 have mk2 : ∀ W : World, (Instr.makeSlice 32 (.int .i64 (m.fSafe.length : Int)) (.int .i64 (m.fSafe.length : Int))).run Tryz.prog W = .ok (.slice (some ⟨W.heap.size, 0, none⟩) m.fSafe.length m.fSafe.length) (W.alloc (.cells (madeCells #[.string ⟨#[]⟩, .int .i64 0] (m.fSafe.length * 2)) 101)) := fun W => by
  have h := run_make (P := Tryz.prog) W 32 101 iE _ Tryz.underlying32 hiE hzE0 .i64 .i64 (m.fSafe.length : Int) (m.fSafe.length : Int) (by omega) (by omega) (by rw [hzE2]; omega) (by omega)
  rw [hzE1] at h
  simpa [Value.cells] using h
 clear hiI hzI0 hzI1 hzI2 hiE hzE0 hzE1 hzE2
 go_enter Tryz.func35, Tryz.ntmps35
 go_wp2_with fail
 obtain ⟨wq, hwq⟩ : ∃ wq, wq = (w.alloc (.cells #[.slice a0 m.fInodes.length c0, .slice a1 m.fNames.length c1, .slice a2 m.fSafe.length c2, .int .i64 m.fNext] 34)).alloc (.cells #[.slice none 0 0, .slice none 0 0, .slice none 0 0, .int .i64 0] 34) := ⟨_, rfl⟩
 have hbW : Below w.heap.size w wq := by rw [hwq]; exact ((Below.refl _ _).alloc (Nat.le_refl _) _).alloc (by simp) _
 have hbx : Bx wq w.heap.size [.slice a0 m.fInodes.length c0, .slice a1 m.fNames.length c1, .slice a2 m.fSafe.length c2, .int .i64 m.fNext] := by rw [hwq]; exact (Bx.new _ _ _).alloc _
 have hres : wq.heap[w.heap.size + 1]? = some (.cells #[.slice none 0 0, .slice none 0 0, .slice none 0 0, .int .i64 0] 34 (0, 0)) := by rw [hwq, al_heap, if_pos (by simp)]
 have HRES := Hid.mk hres
 clear hres
 rw [← hwq]
 clear hwq
 have p0 : ∀ W, Below wq.heap.size wq W → W.cell? ⟨w.heap.size, 0, none⟩ = some (.slice a0 m.fInodes.length c0) := fun W hb => (hbx.under hb).2 0 _ rfl
 have p1 : ∀ W, Below wq.heap.size wq W → W.cell? ⟨w.heap.size, 1, none⟩ = some (.slice a1 m.fNames.length c1) := fun W hb => (hbx.under hb).2 1 _ rfl
 have p2 : ∀ W, Below wq.heap.size wq W → W.cell? ⟨w.heap.size, 2, none⟩ = some (.slice a2 m.fSafe.length c2) := fun W hb => (hbx.under hb).2 2 _ rfl
 have p3 : ∀ W, Below wq.heap.size wq W → W.cell? ⟨w.heap.size, 3, none⟩ = some (.int .i64 m.fNext) := fun W hb => (hbx.under hb).2 3 _ rfl
 refine Code.wp_mono (Q := fun e a' w' => e = .normal ∧ ∃ g0 g1 g2 gb : Nat, a' = { tmps := #[.agg #[.slice a0 m.fInodes.length c0, .slice a1 m.fNames.length c1, .slice a2 m.fSafe.length c2, .int .i64 m.fNext], .pointer (some ⟨w.heap.size, 0, none⟩), .pointer (some ⟨w.heap.size + 1, 0, none⟩), .pointer (some ⟨gb, 0, none⟩), undef, undef, .pointer (some ⟨w.heap.size, 0, none⟩), .slice a0 m.fInodes.length c0, .int .i64 m.fInodes.length, .slice (some ⟨g0, 0, none⟩) m.fInodes.length m.fInodes.length, .pointer (some ⟨w.heap.size, 1, none⟩), .slice a1 m.fNames.length c1, .int .i64 m.fNames.length, .slice (some ⟨g1, 0, none⟩) m.fNames.length m.fNames.length, .pointer (some ⟨w.heap.size, 2, none⟩), .slice a2 m.fSafe.length c2, .int .i64 m.fSafe.length, .slice (some ⟨g2, 0, none⟩) m.fSafe.length m.fSafe.length, .pointer (some ⟨w.heap.size, 3, none⟩), .int .i64 m.fNext, .agg #[.slice (some ⟨g0, 0, none⟩) m.fInodes.length m.fInodes.length, .slice (some ⟨g1, 0, none⟩) m.fNames.length m.fNames.length, .slice (some ⟨g2, 0, none⟩) m.fSafe.length m.fSafe.length, .int .i64 m.fNext], undef, undef, undef, undef, undef, undef, undef, undef, undef, undef, undef, undef, undef, undef, undef, undef, undef, undef, undef, undef, undef, undef, undef, undef, undef, undef, undef, undef, undef, undef, undef, undef], defers := [] } ∧ (wq.heap.size ≤ g0 ∧ wq.heap.size ≤ g1 ∧ wq.heap.size ≤ g2 ∧ wq.heap.size ≤ gb ∧ g0 ≠ g1 ∧ g0 ≠ g2 ∧ g1 ≠ g2 ∧ gb ≠ g0 ∧ gb ≠ g1 ∧ gb ≠ g2) ∧
   w'.heap[g0]? = some (.cells (madeCells #[.int .i64 0, .slice none 0 0, .int .i64 0] (m.fInodes.length * 3)) 94 (0, 0)) ∧ w'.heap[g1]? = some (.cells (madeCells #[.string ⟨#[]⟩, .int .i64 0] (m.fNames.length * 2)) 101 (0, 0)) ∧ w'.heap[g2]? = some (.cells (madeCells #[.string ⟨#[]⟩, .int .i64 0] (m.fSafe.length * 2)) 101 (0, 0)) ∧
   w'.heap[gb]? = some (.cells #[.slice (some ⟨g0, 0, none⟩) m.fInodes.length m.fInodes.length, .slice (some ⟨g1, 0, none⟩) m.fNames.length m.fNames.length, .slice (some ⟨g2, 0, none⟩) m.fSafe.length m.fSafe.length, .int .i64 m.fNext] 34 (0, 0)) ∧ Below wq.heap.size wq w') ?mono ?reg
 case reg =>
  go_region_held3 (fun W => Below wq.heap.size wq W) (first | exact Below.drew (Below.refl _ _) | (repeat (first | with_reducible assumption | with_reducible refine Below.setCell ?_ (by first | (simp; done) | (simp; omega)) _ | with_reducible refine Below.alloc ?_ (by first | exact Nat.le_refl _ | (simp; done) | (simp; omega)) _ | with_reducible refine Below.drew ?_ | with_reducible exact Below.refl _ _))) (fail)
  all_goals
   refine ⟨rfl, _, _, _, _, rfl, by omega, ?_, ?_, ?_, ?_, by repeat (first | with_reducible assumption | with_reducible refine Below.alloc ?_ (by first | exact Nat.le_refl _ | (simp; done) | (simp; omega)) _ | with_reducible refine Below.drew ?_ | with_reducible exact Below.refl _ _)⟩
   all_goals first | exact four0 _ _ _ _ _ | exact four1 _ _ _ _ _ | exact four2 _ _ _ _ _ | exact four3 _ _ _ _ _
 case mono =>
  rintro e a' w1 ⟨rfl, g0, g1, g2, gb, rfl, hgs, hg0, hg1, hg2, hgb, hb1⟩
  obtain ⟨hs0, hs1, hs2, hs3, hd1, hd2, hd3, hd4, hd5, hd6⟩ := hgs
  have hbA := bthen hbW hb1
  have hq1 := hb1.size
  have hq0 := hbW.size
  have l0 : g0 < w1.heap.size := (Array.getElem?_eq_some_iff.1 hg0).1
  have l1 : g1 < w1.heap.size := (Array.getElem?_eq_some_iff.1 hg1).1
  have l2 : g2 < w1.heap.size := (Array.getElem?_eq_some_iff.1 hg2).1
  have lb : gb < w1.heap.size := (Array.getElem?_eq_some_iff.1 hgb).1
  have hF0 : Fill 3 94 oInode w1 g0 m.fInodes.length m.fInodes 0 [] := ⟨⟨_, hg0, by rw [size_madeCells], (fun j _ hj => by omega)⟩, rfl, (fun b hb => by simp at hb), by simp⟩
  have hbx1 := hbx.under hb1
  have hlx := hbx.1
  have HB1 := Hid.mk hb1
  have HQ2 : Hid (w.heap.size + 1 < wq.heap.size) := (Array.getElem?_eq_some_iff.1 HRES.out).1
  have hQ2 := HQ2.out
  have HG0 := Hid.mk hg0
  have HG1 := Hid.mk hg1
  have HG2 := Hid.mk hg2
  have HGB := Hid.mk hgb
  have HI := Hid.mk hI
  have HN := Hid.mk hNm
  have HS := Hid.mk hSf
  have HBA := Hid.mk hbA
  have HX := Hid.mk hbx1
  have HF0 := Hid.mk hF0
  have cb := fun (W : World) (hT : Turn [g0] w1 W) (j : Nat) (u : Value) (hu : (#[Value.slice (some ⟨g0, 0, none⟩) m.fInodes.length m.fInodes.length, .slice (some ⟨g1, 0, none⟩) m.fNames.length m.fNames.length, .slice (some ⟨g2, 0, none⟩) m.fSafe.length m.fSafe.length, .int .i64 m.fNext] : Array Value)[j]? = some u) => (show W.cell? ⟨gb, j, none⟩ = some u by rw [hT.cell (p := ⟨gb, j, none⟩) lb (by simp; omega), cell_of_row w1 gb j _ _ (0, 0) HGB.out]; exact hu)
  have ca := fun (W : World) (hT : Turn [g0] w1 W) => HX.out.turn hT (by simp; omega)
  have HCB := Hid.mk cb
  have HCA := Hid.mk ca
  clear hr hI hNm hSf hg0 hg1 hg2 hgb hbA hbx hbx1 p0 p1 p2 p3 mk0 mk1 mk2 hb1 hbW hF0 cb ca hw
  have x0 := (HCA.out w1 (Turn.refl _ _)).2 0 _ rfl
  go_wp2_with fail
  go_loopw [24] (fun i wr => ∃ (k : Nat) (Fs : List (List Nat)), k ≤ m.fInodes.length ∧ i = .int .i64 k ∧ Fill 3 94 oInode wr g0 m.fInodes.length m.fInodes k Fs ∧ (∀ b, b ∈ Fs.flatten → w1.heap.size ≤ b) ∧ Turn [g0] w1 wr) (fun i _ => m.fInodes.length - (intOf i).toNat)
  case atStart => exact ⟨0, [], Nat.zero_le _, rfl, HF0.out, (fun b hb => by simp at hb), Turn.refl _ _⟩
  case round =>
   obtain ⟨k, Fs, hk, rfl, hFk, hFge, hTk⟩ := hrel
   have HFk := Hid.mk hFk
   have HTk := Hid.mk hTk
   have hsz := hTk.size
   have HGE := Hid.mk hFge
   clear hFk hFge x0
   by_cases hlt : k < m.fInodes.length
   ·have hbR := Turn.under HBA.out hTk (fun k hk => by simp at hk; omega)
    have hwk := sumW_le (f := wInode) hlt
    obtain ⟨b1, o1, rfl, hB, cs, hcl, hcell, hrT⟩ := (HI.out.2.2.below rInode_good hbR) k hlt
    obtain ⟨n, hn⟩ : ∃ n, m.fInodes[k] = n := ⟨_, rfl⟩
    rw [hn] at hrT hwk
    have HNd : Hid (m.fInodes[k] = n) := hn
    clear hn
    obtain ⟨ad, cd, rfl, hid, hda, hsu, _⟩ := hrT
    have k0 := hcell 0 _ rfl
    have k1 := hcell 1 _ rfl
    have k2 := hcell 2 _ rfl
    rw [Nat.add_zero] at k0
    have hdl : n.fData.length ≤ 1048576 := by have : wInode n = n.fData.length := rfl; omega
    have HDA := Hid.mk hda
    have HBR := Hid.mk hbR
    clear hcell hcl hwk hda hbR hTk
    go_wp2_with fail
    obtain ⟨wi, hwi⟩ : ∃ wi, wi = wr.alloc (.cells #[.int .i64 n.fId, .slice ad n.fData.length cd, .int .i64 n.fSure] 94) := ⟨_, rfl⟩
    have hbi : Below wr.heap.size wr wi := by rw [hwi]; exact (Below.refl _ _).alloc (Nat.le_refl _) _
    have hbn : Bx wi wr.heap.size [.int .i64 n.fId, .slice ad n.fData.length cd, .int .i64 n.fSure] := by rw [hwi]; exact Bx.new _ _ _
    have hzi : wi.heap.size = wr.heap.size + 1 := by rw [hwi]; simp
    rw [← hwi]
    clear hwi k0 k1 k2
    have hTi : Turn [g0] w1 wi := HTk.out.trans (Turn.ofBelow hbi)
    have y0 : ∀ W, Turn [g0] wi W → W.cell? ⟨gb, 0, none⟩ = some (.slice (some ⟨g0, 0, none⟩) m.fInodes.length m.fInodes.length) := fun W hT => HCB.out W (hTi.trans hT) 0 _ rfl
    have n0 : ∀ W, Turn [g0] wi W → W.cell? ⟨wr.heap.size, 0, none⟩ = some (.int .i64 n.fId) := fun W hT => (hbn.turn hT (by simp; omega)).2 0 _ rfl
    have n1 : ∀ W, Turn [g0] wi W → W.cell? ⟨wr.heap.size, 1, none⟩ = some (.slice ad n.fData.length cd) := fun W hT => (hbn.turn hT (by simp; omega)).2 1 _ rfl
    have n2 : ∀ W, Turn [g0] wi W → W.cell? ⟨wr.heap.size, 2, none⟩ = some (.int .i64 n.fSure) := fun W hT => (hbn.turn hT (by simp; omega)).2 2 _ rfl
    have hCj := fun (W : World) (hT : Turn [g0] wi W) => joinBytes_any ad none cd 0 n.fData [] W (LeafB.mono (HDA.out.below ((hbi.mono HBR.out.size).trans (hT.below (fun k hk => by simp at hk; omega) (by omega)))) (by have := hT.size; have := HBR.out.size; omega)) ⟨by simp, by omega, (fun j hj => by simp at hj), (fun z hz => by cases hz)⟩ (by omega) (by simp)
    simp only [List.append_nil, List.length_nil] at hCj
    have HTI := Hid.mk hTi
    have HBI := Hid.mk hbi
    clear hbn hTi hbi
    refine wp_region_held_drew (S := fun W => Turn [g0] wi W) (by kernel_rfl) (Turn.ofBelow (Below.drew (Below.refl _ _))) (fun hHeld => ?_)
    refine uq 0 q843_35_5_0 29 hHeld ?_
    refine uq 1 q843_35_5_1 30 hHeld ?_
    refine uq 2 q843_35_5_2 31 hHeld ?_
    refine uq 3 q843_35_5_3 32 hHeld ?_
    refine uq 4 q843_35_5_4 33 hHeld ?_
    refine uq 5 q843_35_5_5 34 hHeld ?_
    refine uq 6 q843_35_5_6 35 hHeld ?_
    refine uq 8 q843_35_5_8 37 hHeld ?_
    refine uq 9 q843_35_5_9 38 hHeld ?_
    refine ar1 7 q843_35_5_7 fun K hK => ?_
    go_simp
    refine Calls.mono (hCj _ hHeld) ?_
    rintro e w2 ⟨v2, F2, rfl, ho2, hN2, hge2, hx1⟩
    have hge2o : ∀ b, b ∈ F2 → wi.heap.size ≤ b := fun b hb => Nat.le_trans (hHeld.size) (hge2 b hb)
    clear hge2
    obtain ⟨ar, cr, rfl, _⟩ := id ho2.read
    go_wp2_with fail
    refine hK.out _ _ (hHeld.trans (Turn.ofBelow hx1)) (fun hHeld => ?_)
    clear hK K
    try simp only[Act.put,sa,s0,s1]
    refine uq 10 q843_35_5_10 39 hHeld ?_
    refine uq 11 q843_35_5_11 40 hHeld ?_
    refine ar1 12 q843_35_5_12 fun K hK => ?_
    go_simp
    have hbs : Below wi.heap.size wi w2 := bthen (Below.drew (Below.refl _ _)) hx1
    have hF1 := HFk.out.keep oInode_good (by omega) (bthen HBI.out hbs)
    obtain ⟨u0, q0⟩ := hF1.cells hlt 0 (by omega)
    have r0 := hF1.free (k * 3 + 0)
    obtain ⟨u1, q1⟩ := hF1.cells hlt 1 (by omega)
    have r1 := hF1.free (k * 3 + 1)
    obtain ⟨u2, q2⟩ := hF1.cells hlt 2 (by omega)
    have r2 := hF1.free (k * 3 + 2)
    rw [Nat.add_zero] at q0 r0
    go_simp
    refine hK.out _ _ (Turn.setCell (Turn.setCell (Turn.setCell (Turn.ofBelow hbs) (by simp) _) (by simp) _) (by simp) _) (fun hHeld => ?_)
    clear hK K
    try simp only[Act.put,sa,s0,s1]
    refine wpAnyH_done (by kernel_rfl) ?_ _
    have hst := Fill.step (w1 := w2) oInode_good HFk.out (by omega) hlt hlt (bthen HBI.out hbs) (cs := [.int .i64 n.fId, .slice ar n.fData.length cr, .int .i64 n.fSure]) (F := F2 ++ []) (by rw [HNd.out]; exact ⟨_, F2, rfl, hid, ho2, hsu, rfl⟩) (fun b hb => by have := hge2o b (by simpa using hb); omega) (by simpa using hN2)
    have hT2 : Turn [g0] w1 (w2.setCells g0 (k * 3) [.int .i64 n.fId, .slice ar n.fData.length cr, .int .i64 n.fSure]) := HTI.out.trans hHeld
    have hge3 : ∀ b, b ∈ (Fs ++ [F2 ++ []]).flatten → w1.heap.size ≤ b := by
     intro b hb
     rw [List.flatten_append, List.mem_append] at hb
     rcases hb with hb | hb
     ·exact HGE.out b hb
     ·have := hge2o b (by simpa using hb); omega
    clear hHeld hF1 q0 q1 q2 r0 r1 r2
    go_wp2_with fail
    go_roundw
    case rel => exact ⟨k + 1, Fs ++ [F2 ++ []], by omega, by go_num, hst, hge3, hT2⟩
    case measure => simp [intOf]; omega
   ·have hkn : k = m.fInodes.length := by omega
    subst hkn
    have hd := HFk.out.done rfl (by unfold maxLen; omega)
    have hbR := Turn.under HBA.out hTk (fun k hk => by simp at hk; omega)
    have x1 := (HCA.out wr hTk).2 1 _ rfl
    have x2 := (HCA.out wr hTk).2 2 _ rfl
    have z1 := HCB.out wr hTk 1 _ rfl
    have z2 := HCB.out wr hTk 2 _ rfl
    have hgr1 : wr.heap[g1]? = _ := (hTk.block g1 l1 (by simp; omega)).trans HG1.out
    have hrn := HN.out.2.2.below rEntry_good hbR
    have HD := Hid.mk hd
    have HGE2 := HGE
    clear hd
    have c1f := fun (W : World) (hT : Turn [g1] wr W) (j : Nat) (u : Value) (hu : wr.cell? ⟨gb, j, none⟩ = some u) => (hT.cell (p := ⟨gb, j, none⟩) (by simp; omega) (by simp; omega)).trans hu
    have d1f := fun (W : World) (hT : Turn [g1] wr W) (j : Nat) (u : Value) (hu : wr.cell? ⟨w.heap.size, j, none⟩ = some u) => (hT.cell (p := ⟨w.heap.size, j, none⟩) (by simp; omega) (by simp; omega)).trans hu
    have hgr2 : ∀ W, Turn [g1] wr W → W.heap[g2]? = some (.cells (madeCells #[.string ⟨#[]⟩, .int .i64 0] (m.fSafe.length * 2)) 101 (0, 0)) := fun W hT => (hT.block g2 (by omega) (by simp; omega)).trans ((hTk.block g2 l2 (by simp; omega)).trans HG2.out)
    have hrs : ∀ W, Turn [g1] wr W → RdS 2 rEntry w.heap.size W a2 m.fSafe := fun W hT => HS.out.2.2.below rEntry_good (hbR.trans (hT.below (fun k hk => by simp at hk; omega) hbR.size))
    have hall := fun (W W2 : World) (hT1 : Turn [g1] wr W) (hT2 : Turn [g2] W W2) => (show W2.cell? ⟨gb, 0, none⟩ = some (.slice (some ⟨g0, 0, none⟩) m.fInodes.length m.fInodes.length) ∧ W2.cell? ⟨gb, 1, none⟩ = some (.slice (some ⟨g1, 0, none⟩) m.fNames.length m.fNames.length) ∧ W2.cell? ⟨gb, 2, none⟩ = some (.slice (some ⟨g2, 0, none⟩) m.fSafe.length m.fSafe.length) ∧ W2.cell? ⟨gb, 3, none⟩ = some (.int .i64 m.fNext) ∧ W2.cell? ⟨w.heap.size + 1, 0, none⟩ = some (.slice none 0 0) ∧ W2.cell? ⟨w.heap.size + 1, 1, none⟩ = some (.slice none 0 0) ∧ W2.cell? ⟨w.heap.size + 1, 2, none⟩ = some (.slice none 0 0) ∧ W2.cell? ⟨w.heap.size + 1, 3, none⟩ = some (.int .i64 0) ∧ W2.frozen? ⟨w.heap.size + 1, 0, none⟩ = false ∧ W2.frozen? ⟨w.heap.size + 1, 1, none⟩ = false ∧ W2.frozen? ⟨w.heap.size + 1, 2, none⟩ = false ∧ W2.frozen? ⟨w.heap.size + 1, 3, none⟩ = false from by
     have hz1 := hT1.size
     have cc : ∀ j u, wr.cell? ⟨gb, j, none⟩ = some u → W2.cell? ⟨gb, j, none⟩ = some u := fun j u hu => (hT2.cell (p := ⟨gb, j, none⟩) (by simp; omega) (by simp; omega)).trans (c1f W hT1 j u hu)
     have hr2 : W2.heap[w.heap.size + 1]? = some (.cells #[.slice none 0 0, .slice none 0 0, .slice none 0 0, .int .i64 0] 34 (0, 0)) := by
      rw [hT2.block _ (by omega) (by simp; omega), hT1.block _ (by omega) (by simp; omega), hTk.block _ (by omega) (by simp; omega), HB1.out.block _ HQ2.out]
      exact HRES.out
     refine ⟨cc 0 _ (HCB.out wr hTk 0 _ rfl), cc 1 _ z1, cc 2 _ z2, cc 3 _ (HCB.out wr hTk 3 _ rfl), ?_, ?_, ?_, ?_, frozen_of_row _ _ _ _ _ hr2, frozen_of_row _ _ _ _ _ hr2, frozen_of_row _ _ _ _ _ hr2, frozen_of_row _ _ _ _ _ hr2⟩
     all_goals (rw [cell_of_row _ _ _ _ _ (0, 0) hr2]; rfl))
    have HALL := Hid.mk hall
    clear hall
    have HC1 := Hid.mk c1f
    have HD1 := Hid.mk d1f
    have HG2' := Hid.mk hgr2
    have HRS' := Hid.mk hrs
    clear c1f d1f hgr2 hrs
    go_wp2_with (first
     | (refine wpList_copy_ent rfl _ _ 32 32 rfl 101 Tryz.underlying32 (by kernel_rfl) g1 m.fNames.length c1 a1 rfl rfl _ hgr1 (by rw [size_madeCells]) m.fNames rfl w.heap.size hrn (by unfold maxLen; omega) ?_; intro w2 how1 hT1; have x2' := HD1.out w2 hT1 2 _ x2; have z2' := HC1.out w2 hT1 2 _ z2; have hgr2 := HG2'.out w2 hT1; have hrs := HRS'.out w2 hT1)
     | (refine wpList_copy_ent rfl _ _ 32 32 rfl 101 Tryz.underlying32 (by kernel_rfl) g2 m.fSafe.length c2 a2 rfl rfl _ hgr2 (by rw [size_madeCells]) m.fSafe rfl w.heap.size hrs (by unfold maxLen; omega) ?_; intro w3 how2 hT2; have hA3 := HALL.out w2 w3 hT1 hT2; obtain ⟨v0, v1, v2, v3, e0, e1, e2, e3, f0, f1, f2, f3⟩ := hA3))
    have hAbv : Above (w.heap.size + 2) w3 ((((w3.setCell ⟨w.heap.size + 1, 0, none⟩ (.slice (some ⟨g0, 0, none⟩) m.fInodes.length m.fInodes.length)).setCell ⟨w.heap.size + 1, 1, none⟩ (.slice (some ⟨g1, 0, none⟩) m.fNames.length m.fNames.length)).setCell ⟨w.heap.size + 1, 2, none⟩ (.slice (some ⟨g2, 0, none⟩) m.fSafe.length m.fSafe.length)).setCell ⟨w.heap.size + 1, 3, none⟩ (.int .i64 m.fNext)) := (((((Above.refl _ _).setCell (by simp) _).setCell (by simp) _).setCell (by simp) _).setCell (by simp) _)
    have hz2 := hT1.size
    have hz3 := hT2.size
    have hwq2 := HQ2.out
    refine bodyPost_ret (v := .agg #[.slice (some ⟨g0, 0, none⟩) m.fInodes.length m.fInodes.length, .slice (some ⟨g1, 0, none⟩) m.fNames.length m.fNames.length, .slice (some ⟨g2, 0, none⟩) m.fSafe.length m.fSafe.length, .int .i64 m.fNext]) (by simp [results, Tryz.results35, go_sem, *]) rfl ⟨[.slice (some ⟨g0, 0, none⟩) m.fInodes.length m.fInodes.length, .slice (some ⟨g1, 0, none⟩) m.fNames.length m.fNames.length, .slice (some ⟨g2, 0, none⟩) m.fSafe.length m.fSafe.length, .int .i64 m.fNext], (g0 :: Fs.flatten) ++ [g1] ++ [g2] ++ [], rfl, ?_, ?_, ?_, ?_⟩
    ·refine ⟨_, g0 :: Fs.flatten, _, [g1], _, [g2], rfl, ?_, ?_, ?_, hnx, rfl⟩
     ·refine ownS.frame oInode_good HD.out.1 (fun b hb => ?_)
      have hbl : b < wr.heap.size := ownS.lt oInode_good HD.out.1 b hb
      have hbg : w.heap.size + 2 ≤ b ∧ b ≠ g1 ∧ b ≠ g2 := by
       rcases List.mem_cons.1 hb with rfl | hb
       ·omega
       ·have := HGE.out b hb; omega
      rw [hAbv.block b hbg.1 (by omega), hT2.block b (by omega) (by simp; omega), hT1.block b hbl (by simp; omega)]
     ·refine ownS.frame oEntry_good how1 (fun b hb => ?_)
      have hb : b = g1 := by simpa using hb
      subst hb
      rw [hAbv.block b (by omega) (by omega), hT2.block b (by omega) (by simp; omega)]
     ·refine ownS.frame oEntry_good how2 (fun b hb => ?_)
      have hb : b = g2 := by simpa using hb
      subst hb
      rw [hAbv.block b (by omega) (by omega)]
    ·rw [List.append_nil, List.append_assoc]
     refine List.nodup_append.2 ⟨HD.out.2, by simp; omega, fun x hx y hy hxy => ?_⟩
     subst hxy
     simp at hy
     rcases List.mem_cons.1 hx with rfl | hx
     ·omega
     ·have := HGE.out x hx; omega
    ·intro b hb
     simp at hb
     rcases hb with rfl | hb | rfl | rfl
     ·omega
     ·obtain ⟨G, hG, hbG⟩ := hb
      have := HGE.out b (List.mem_flatten.2 ⟨G, hG, hbG⟩); omega
     ·omega
     ·omega
    ·have hB3 : Below w.heap.size w w3 := (hbR.trans (hT1.below (fun k hk => by simp at hk; omega) hbR.size)).trans (hT2.below (fun k hk => by simp at hk; omega) (by omega))
     repeat (first | with_reducible exact hB3 | refine Below.setCell ?_ (by simp) _)
theorem bytesWorld_below (w : World) (e : TypeId) (s : ByteArray) : Below w.heap.size w (Lib.bytesWorld w e s) := by
 refine ⟨?_, ?_, ?_, by rw [Lib.bytesWorld_size]; omega, fun k hk => Lib.bytesWorld_at_old w e s k hk⟩
 all_goals (unfold Lib.bytesWorld World.freeze; rfl)
theorem byteInts_at {s : ByteArray} {j : Nat} (h : j < (byteInts s).length) : ((s.data.toList.getD j 0).toNat : Int) = (byteInts s)[j] := by
 have hj : j < s.data.toList.length := by simpa [byteInts] using h
 rw [List.getD_eq_getElem?_getD, List.getElem?_eq_getElem hj]
 simp [byteInts]
theorem strBytes (s : ByteArray) (w : World) : ∃ (w1 : World) (cap : Nat), (convert 9 63 (.string s)).run Tryz.prog w = .ok (.slice (some ⟨w.heap.size, 0, none⟩) s.size cap) w1 ∧ Below w.heap.size w w1 ∧ w.heap.size < w1.heap.size ∧
  ∀ j, (h : j < (byteInts s).length) → w1.cell? ⟨w.heap.size, j, none⟩ = some (.int .u8 (byteInts s)[j]) := by
 refine ⟨_, _, Lib.run_convert_string_bytes w 9 63 5 s Tryz.underlying9 Tryz.underlying63 Tryz.underlying5, bytesWorld_below w _ s, by rw [Lib.bytesWorld_size]; omega, fun j h => ?_⟩
 rw [Lib.bytesWorld_cell w _ s j (by rw [← byteInts_length]; exact h), byteInts_at h]
theorem byteInts_ok (s : ByteArray) : BytesOk (byteInts s) := by
 intro z hz
 simp only [byteInts, List.mem_map] at hz
 obtain ⟨b, _, rfl⟩ := hz
 have := b.toNat_lt
 omega
theorem strRd (s : ByteArray) (w : World) : ∃ (w1 : World) (cap : Nat), (convert 9 63 (.string s)).run Tryz.prog w = .ok (.slice (some ⟨w.heap.size, 0, none⟩) s.size cap) w1 ∧ Below w.heap.size w w1 ∧ Rd .u8 w1.heap.size w1 (some ⟨w.heap.size, 0, none⟩) (byteInts s) := by
 obtain ⟨w1, cap, hcv, hb1, hz1, hcl⟩ := strBytes s w
 refine ⟨w1, cap, hcv, hb1, fun j hj => ⟨w.heap.size, 0, rfl, hz1, ?_⟩⟩
 rw [Nat.zero_add, hcl j hj, List.getD_eq_getElem?_getD, List.getElem?_eq_getElem hj]
 rfl
set_option maxHeartbeats 800000 in
theorem implNameOk_any (s : ByteArray) (w : World) (hs : s.size ≤ 9223372036854775807) :
  Calls Tryz.prog 122 #[.string s] w fun e w' => e = .returned (.bool (nameOk s)) ∧ Below w.heap.size w w' := by
 by_cases hr : 1 ≤ s.size ∧ s.size ≤ 12
 ·have HR := Hid.mk hr
  obtain ⟨hr1, hr2⟩ := hr
  obtain ⟨w1, cap, hcv, hb1, hz1, hcl⟩ := strBytes s w
  have hg1 : (1 : Int) ≤ (s.size : Int) := by omega
  have hg2 : (s.size : Int) ≤ 12 := by omega
  go_enter Tryz.func122, Tryz.ntmps122
  go_wp2_with fail
  go_loop [16] (fun i => ∃ k : Nat, k ≤ s.size ∧ i = .int .i64 k ∧ ∀ j, (hj : j < (byteInts s).length) → j < k → nameByte (byteInts s)[j] = true) (fun i => s.size - (intOf i).toNat)
  case atStart => exact ⟨0, Nat.zero_le _, rfl, fun j _ hj => by omega⟩
  case round =>
   obtain ⟨k, hk, rfl, hno⟩ := hrel
   have HNo := Hid.mk hno
   clear hno
   by_cases hlt : k < s.size
   ·have hcl' : k < (byteInts s).length := by rw [byteInts_length]; exact hlt
    have hck := hcl k hcl'
    have HNX : Hid (nameByte (byteInts s)[k] = true → ∀ j, (hj : j < (byteInts s).length) → j < k + 1 → nameByte (byteInts s)[j] = true) := fun hb j hj hjk => by
     by_cases hjk' : j = k
     ·subst hjk'; exact hb
     ·exact HNo.out j hj (by omega)
    have HBX : Hid (nameByte (byteInts s)[k] = false → nameOk s = false) := fun hb => nameOk_bad hcl' hb
    clear HNo hcl
    generalize (byteInts s)[k] = c at *
    by_cases g1 : 122 < c
    ·have HB : Hid (nameByte c = false) := decide_eq_false (by omega)
     have p0 : (97 ≤ c) = True := eq_true (by omega)
     have p1 : (c ≤ 122) = False := eq_false (by omega)
     have p2 : (48 ≤ c) = True := eq_true (by omega)
     have p3 : (c ≤ 57) = False := eq_false (by omega)
     have p4 : (c = 45) = False := eq_false (by omega)
     have p5 : (c = 46) = False := eq_false (by omega)
     have g7 : (c == 45) = false := beq_eq_false_iff_ne.2 (by omega)
     have g8 : (c == 46) = false := beq_eq_false_iff_ne.2 (by omega)
     clear g1
     go_wp2_with fail
     go_ret
     exact ⟨by rw [HBX.out HB.out]; rfl, hb1⟩
    ·by_cases g2 : 97 ≤ c
     ·have HB : Hid (nameByte c = true) := decide_eq_true (by omega)
      have p0 : (97 ≤ c) = True := eq_true (by omega)
      have p1 : (c ≤ 122) = True := eq_true (by omega)
      have p2 : (48 ≤ c) = True := eq_true (by omega)
      have p3 : (c ≤ 57) = False := eq_false (by omega)
      have p4 : (c = 45) = False := eq_false (by omega)
      have p5 : (c = 46) = False := eq_false (by omega)
      have g7 : (c == 45) = false := beq_eq_false_iff_ne.2 (by omega)
      have g8 : (c == 46) = false := beq_eq_false_iff_ne.2 (by omega)
      clear g1 g2
      go_wp2_with fail
      go_round
      case rel => exact ⟨k + 1, by omega, by go_num, HNX.out HB.out⟩
      case measure => simp [intOf]; omega
     ·by_cases g3 : 57 < c
      ·have HB : Hid (nameByte c = false) := decide_eq_false (by omega)
       have p0 : (97 ≤ c) = False := eq_false (by omega)
       have p1 : (c ≤ 122) = True := eq_true (by omega)
       have p2 : (48 ≤ c) = True := eq_true (by omega)
       have p3 : (c ≤ 57) = False := eq_false (by omega)
       have p4 : (c = 45) = False := eq_false (by omega)
       have p5 : (c = 46) = False := eq_false (by omega)
       have g7 : (c == 45) = false := beq_eq_false_iff_ne.2 (by omega)
       have g8 : (c == 46) = false := beq_eq_false_iff_ne.2 (by omega)
       clear g1 g2 g3
       go_wp2_with fail
       go_ret
       exact ⟨by rw [HBX.out HB.out]; rfl, hb1⟩
      ·by_cases g4 : 48 ≤ c
       ·have HB : Hid (nameByte c = true) := decide_eq_true (by omega)
        have p0 : (97 ≤ c) = False := eq_false (by omega)
        have p1 : (c ≤ 122) = True := eq_true (by omega)
        have p2 : (48 ≤ c) = True := eq_true (by omega)
        have p3 : (c ≤ 57) = True := eq_true (by omega)
        have p4 : (c = 45) = False := eq_false (by omega)
        have p5 : (c = 46) = False := eq_false (by omega)
        have g7 : (c == 45) = false := beq_eq_false_iff_ne.2 (by omega)
        have g8 : (c == 46) = false := beq_eq_false_iff_ne.2 (by omega)
        clear g1 g2 g3 g4
        go_wp2_with fail
        go_round
        case rel => exact ⟨k + 1, by omega, by go_num, HNX.out HB.out⟩
        case measure => simp [intOf]; omega
       ·by_cases g5 : c = 45
        ·have HB : Hid (nameByte c = true) := decide_eq_true (by omega)
         subst g5
         clear g1 g2 g3 g4
         go_wp2_with fail
         go_round
         case rel => exact ⟨k + 1, by omega, by go_num, HNX.out HB.out⟩
         case measure => simp [intOf]; omega
        ·by_cases g6 : c = 46
         ·have HB : Hid (nameByte c = true) := decide_eq_true (by omega)
          subst g6
          clear g1 g2 g3 g4 g5
          go_wp2_with fail
          go_round
          case rel => exact ⟨k + 1, by omega, by go_num, HNX.out HB.out⟩
          case measure => simp [intOf]; omega
         ·have HB : Hid (nameByte c = false) := decide_eq_false (by omega)
          have p0 : (97 ≤ c) = False := eq_false (by omega)
          have p1 : (c ≤ 122) = True := eq_true (by omega)
          have p2 : (48 ≤ c) = False := eq_false (by omega)
          have p3 : (c ≤ 57) = True := eq_true (by omega)
          have p4 : (c = 45) = False := eq_false (by omega)
          have p5 : (c = 46) = False := eq_false (by omega)
          have g7 : (c == 45) = false := beq_eq_false_iff_ne.2 (by omega)
          have g8 : (c == 46) = false := beq_eq_false_iff_ne.2 (by omega)
          have g7 : (c == 45) = false := by simp [g5]
          have g8 : (c == 46) = false := by simp [g6]
          clear g1 g2 g3 g4 g5 g6
          go_wp2_with fail
          go_ret
          exact ⟨by rw [HBX.out HB.out]; rfl, hb1⟩
   ·have HV := Hid.mk (nameOk_good HR.out (fun j hj => HNo.out j hj (by have := byteInts_length s; omega)))
    clear hcl
    go_wp2_with fail
    go_ret
    exact ⟨by rw [HV.out]; rfl, hb1⟩
 ·have HV := Hid.mk (nameOk_long hr)
  by_cases h1 : s.size < 1
  ·have h1' : (s.size : Int) < 1 := by omega
   go_enter Tryz.func122, Tryz.ntmps122
   go_wp2_with fail
   go_ret
   exact ⟨by rw [HV.out]; rfl, Below.refl _ _⟩
  ·have h1' : (12 : Int) < (s.size : Int) := by omega
   have h2' : ¬ (s.size : Int) < 1 := by omega
   go_enter Tryz.func122, Tryz.ntmps122
   go_wp2_with fail
   go_ret
   exact ⟨by rw [HV.out]; rfl, Below.refl _ _⟩
set_option maxHeartbeats 1000000 in
theorem inodesOk_any (a : Option Addr) (cap : Nat) (l : List MInode) (nx : Int) (w : World) (hl : LeafL 3 rInode w.heap.size w a cap l) (hw : l.length + sumW wInode l ≤ 16777216) (hn : -9223372036854775808 ≤ nx ∧ nx ≤ 9223372036854775807) :
  Calls Tryz.prog 126 #[.slice a l.length cap, .int .i64 nx] w fun e w' => e = .returned (.bool (okI nx 0 l && decide (sumW wInode l ≤ 60000))) ∧ Below w.heap.size w w' := by
 have HI := Hid.mk hl.2.2
 clear hl
 obtain ⟨hn1, hn2⟩ := hn
 go_enter Tryz.func126, Tryz.ntmps126
 go_wp2_with fail
 go_loopw [5, 6, 11] (fun lv sv i wr => ∃ k sz : Nat, k ≤ l.length ∧ lv = .int .i64 (prevId l k) ∧ i = .int .i64 k ∧ sv = .int .i64 sz ∧ sz = sumW wInode (l.take k) ∧ sz ≤ 60000 ∧ okI nx 0 l = okI nx (prevId l k) (l.drop k) ∧ Below w.heap.size w wr) (fun _ _ i _ => l.length - (intOf i).toNat)
 case atStart => exact ⟨0, 0, Nat.zero_le _, rfl, rfl, rfl, rfl, by omega, rfl, Below.refl _ _⟩
 case round =>
  obtain ⟨k, sz, hk, rfl, rfl, rfl, hsz, hszb, hinv, hbk⟩ := hrel
  have HSZ := Hid.mk hsz
  have HINV := Hid.mk hinv
  clear hsz hinv
  by_cases hlt : k < l.length
  ·obtain ⟨b1, o1, rfl, hB, cs, hcl, hcell, hrI⟩ := (HI.out.below rInode_good hbk) k hlt
   have hwk := sumW_le (f := wInode) hlt
   have hws := sumW_take_succ (f := wInode) hlt
   have hwl := sumW_take_le wInode l (k + 1)
   have HST := Hid.mk (okI_step (next := nx) hlt)
   have HPS := Hid.mk (prevId_succ hlt)
   obtain ⟨n, hn⟩ : ∃ n, l[k] = n := ⟨_, rfl⟩
   rw [hn] at hrI hwk hws
   have HNd : Hid (l[k] = n) := hn
   clear hn
   obtain ⟨ad, cd, rfl, hid, hda, hsu, _⟩ := hrI
   have k0 := hcell 0 _ rfl
   have k1 := hcell 1 _ rfl
   have k2 := hcell 2 _ rfl
   rw [Nat.add_zero] at k0
   have HD : Hid (wInode n = n.fData.length) := rfl
   rw [HD.out] at hwk hws
   have hdl : n.fData.length ≤ 16777216 := by omega
   have HWS : Hid (sz + n.fData.length = sumW wInode (l.take (k + 1))) := by show _ = _; rw [HSZ.out, hws]
   have HBIG : Hid (60000 < sz + n.fData.length → (okI nx 0 l && decide (sumW wInode l ≤ 60000)) = false) := by
    intro h
    rw [Bool.and_eq_false_iff]
    right
    exact decide_eq_false (by have := HSZ.out; omega)
   have HFAIL : Hid (stepI nx (prevId l k) n = false → (okI nx 0 l && decide (sumW wInode l ≤ 60000)) = false) := by
    intro h
    rw [HINV.out, HST.out, HNd.out, h]
    rfl
   have HGO : Hid (stepI nx (prevId l k) n = true → okI nx 0 l = okI nx (prevId l (k + 1)) (l.drop (k + 1))) := by
    intro h
    rw [HINV.out, HST.out, HNd.out, h, Bool.true_and]
   have HPI : Hid (prevId l (k + 1) = n.fId) := by show _ = _; rw [HPS.out, HNd.out]
   have hib : -9223372036854775808 ≤ n.fId ∧ n.fId ≤ 9223372036854775807 := by simpa [Lit.wf, IntKind.min, IntKind.max, IntKind.signed, IntKind.bits] using hid
   have hsb : -9223372036854775808 ≤ n.fSure ∧ n.fSure ≤ 9223372036854775807 := by simpa [Lit.wf, IntKind.min, IntKind.max, IntKind.signed, IntKind.bits] using hsu
   obtain ⟨hib1, hib2⟩ := hib
   obtain ⟨hsb1, hsb2⟩ := hsb
   clear hcell hcl hda hws hwl hwk hid hsu HST HPS HNd HINV
   generalize prevId l k = lst at *
   by_cases g0 : n.fId ≤ lst
   ·have p0 : (n.fId ≤ lst) = True := eq_true g0
    have HV : Hid ((okI nx 0 l && decide (sumW wInode l ≤ 60000)) = false) := HFAIL.out (decide_eq_false (by omega))
    clear g0 HFAIL HBIG HGO
    go_wp2_with fail
    go_ret
    exact ⟨by rw [HV.out]; rfl, hbk.alloc hbk.size _⟩
   ·have p0 : (n.fId ≤ lst) = False := eq_false g0
    by_cases g1 : nx ≤ n.fId
    ·have p1 : (nx ≤ n.fId) = True := eq_true g1
     have HV : Hid ((okI nx 0 l && decide (sumW wInode l ≤ 60000)) = false) := HFAIL.out (decide_eq_false (by omega))
     clear g1 HFAIL HBIG HGO
     go_wp2_with fail
     go_ret
     exact ⟨by rw [HV.out]; rfl, hbk.alloc hbk.size _⟩
    ·have p1 : (nx ≤ n.fId) = False := eq_false g1
     by_cases g2 : n.fSure < 0
     ·have p2 : (n.fSure < 0) = True := eq_true g2
      have HV : Hid ((okI nx 0 l && decide (sumW wInode l ≤ 60000)) = false) := HFAIL.out (decide_eq_false (by omega))
      clear g2 HFAIL HBIG HGO
      go_wp2_with fail
      go_ret
      exact ⟨by rw [HV.out]; rfl, hbk.alloc hbk.size _⟩
     ·have p2 : (n.fSure < 0) = False := eq_false g2
      by_cases g3 : (n.fData.length : Int) < n.fSure
      ·have p3 : ((n.fData.length : Int) < n.fSure) = True := eq_true g3
       have HV : Hid ((okI nx 0 l && decide (sumW wInode l ≤ 60000)) = false) := HFAIL.out (decide_eq_false (by omega))
       clear g3 HFAIL HBIG HGO
       go_wp2_with fail
       go_ret
       exact ⟨by rw [HV.out]; rfl, hbk.alloc hbk.size _⟩
      ·have p3 : ((n.fData.length : Int) < n.fSure) = False := eq_false g3
       by_cases g4 : (60000 : Int) < (sz : Int) + n.fData.length
       ·have p4 : ((60000 : Int) < (sz : Int) + n.fData.length) = True := eq_true g4
        have HV : Hid ((okI nx 0 l && decide (sumW wInode l ≤ 60000)) = false) := HBIG.out (by omega)
        clear g4 HFAIL HBIG HGO
        go_wp2_with fail
        go_ret
        exact ⟨by rw [HV.out]; rfl, hbk.alloc hbk.size _⟩
       ·have p4 : ((60000 : Int) < (sz : Int) + n.fData.length) = False := eq_false g4
        have HGo := Hid.mk (HGO.out (decide_eq_true (by omega)))
        have hsz2 : sz + n.fData.length ≤ 60000 := by omega
        clear g0 g1 g2 g3 g4 HFAIL HBIG HGO
        go_wp2_with fail
        go_roundw
        case rel => exact ⟨k + 1, sz + n.fData.length, by omega, by rw [HPI.out], by go_num, by go_num, by rw [HWS.out], hsz2, HGo.out, hbk.alloc hbk.size _⟩
        case measure => simp [intOf]; omega
  ·have hkn : k = l.length := by omega
   subst hkn
   have HV : Hid ((okI nx 0 l && decide (sumW wInode l ≤ 60000)) = true) := by
    show _ = true
    have h1 := HSZ.out
    rw [List.take_length] at h1
    rw [HINV.out, List.drop_length, decide_eq_true (by omega)]
    rfl
   go_wp2_with fail
   go_ret
   exact ⟨by rw [HV.out]; rfl, hbk⟩
end Go.Proofs.YtddejboifpepcaaGreatDoor
