/-
  Two slices of bytes, one behind the other, in memory of their own.
-/
import Derived.Test.YtnohnkcijomdjaaGreatDoorInfB
import Derived.Test.YtnohnkcijomdjaaGreatDoorDatI
import Derived.Test.YtnohnkcijomdjaaGreatDoorByteR
namespace Go.Proofs.YtnohnkcijomdjaaGreatDoor
open Go.RowKit
set_option linter.unusedVariables false
set_option linter.unusedSimpArgs false
set_option maxRecDepth 10000

/-- 'copy(out[o:], src)', out a row of the call's own, with room for src. -/
theorem wpList_copy_in {P : Program} {w : World} {ops : Array Oper} {rest : List Oper} {o : Oper} {a : Act} {Q : Exit → Act → World → Prop} (hgd : o.guard = none) (d s : Operand) (dT sT : TypeId)
    (ho : o.op = .call { callee := .builtin .copy, args := #[d, s], argTypes := #[dT, sT] }) (e : TypeId) (i : TypeInfo) (hu : P.underlying dT = some (.slice e)) (hi : P.info? e = some i) (hsz : i.size = 1)
    (base g off tot cap n dcap sl scap : Nat) (ao : Option Addr) (hd : a.eval d = .slice (some ⟨g, off, none⟩) n dcap) (hs : a.eval s = .slice ao sl scap)
    (xs : List Value) (hown : w.ownsRow base e 1 (.slice (some ⟨g, 0, none⟩) tot cap) tot xs)
    (k : IntKind) (zs : List Int) (B : Nat) (hz : zs.length = sl) (hle : sl ≤ n) (hfit : off + sl ≤ tot) (hr : Rd k B w ao zs)
    (h : ∀ w', w'.ownsRow base e 1 (.slice (some ⟨g, 0, none⟩) tot cap) tot (xs.take off ++ (zs.map (Value.int k) ++ xs.drop (off + sl))) → w.grownBy w' (some g) → wpList P ops Q rest (a.put o.dst (goInt sl)) w') : wpList P ops Q (o :: rest) a w := by
  have hsz' : (P.info? e).map (·.size) = some 1 := by rw [hi]; simp [hsz]
  by_cases h0 : sl = 0
  · subst h0
    have hz' : zs = [] := List.eq_nil_of_length_eq_zero hz
    subst hz'
    refine wpList_copy_nothing hgd d s dT sT ho e hu hsz' _ _ _ _ _ _ hd hs (by simp) (h w ?_ (World.grownBy.refl _ _))
    simpa using hown
  · obtain ⟨b, so, rfl, _, _⟩ := hr 0 (by omega)
    rcases hown.2 with ⟨h', _⟩ | ⟨g', cap', cur, h', hb, hg, hnc, hcm, hcs, htake⟩
    · simp at h'
    · simp only [Value.slice.injEq, Option.some.injEq, Addr.mk.injEq, and_true, true_and] at h'
      obtain ⟨rfl, rfl⟩ := h'
      have hl : (zs.map (Value.int k)).length = sl := by simp [hz]
      refine wpList_copy_own hgd d s dT sT ho e hu hsz' g off n dcap ⟨b, so, none⟩ sl scap hd hs cur e hg (zs.map (Value.int k)) (by rw [hl]; exact (Nat.min_eq_left hle).symm) ?_ (by rw [hl]; omega) (ints_oneCell k _) ?_
      · intro j u hu
        have hj : j < zs.length := by
          rcases Nat.lt_or_ge j zs.length with h | h
          · exact h
          · rw [List.getElem?_eq_none (by simpa using h)] at hu; cases hu
        obtain ⟨b', off', e', _, hc⟩ := hr j hj
        simp only [Option.some.injEq, Addr.mk.injEq, and_true] at e'
        obtain ⟨rfl, rfl⟩ := e'
        rw [Addr.add_lit, hc]
        simp [List.getElem?_eq_getElem hj] at hu
        simp [List.getElem?_eq_getElem hj, hu]
      · rw [hl]
        have hlen := hown.1
        simp only [Nat.mul_one] at hlen hcs htake
        have hct : cur.toList.length = cap := by simpa using hcs
        refine h _ ⟨by simp [hz]; omega, .inr ⟨g, cap, _, rfl, hb, setRow_heap w g cur _ e _ hg, hnc, hcm, ?_, ?_⟩⟩ ⟨rfl, rfl, rfl, by simp [World.setRow], fun k _ hk => setRow_other w g k _ (fun e => hk (by simp [e]))⟩
        · simp [hz]; omega
        · rw [List.toList_toArray, Nat.mul_one, ← htake]
          have e1 : min off cap = off := by omega
          have e2 : min off (min tot cap) = off := by omega
          apply List.ext_getElem?
          intro j
          simp only [List.getElem?_take, List.getElem?_append, List.length_take, List.getElem?_drop, List.length_map, hz, hct, e1, e2]
          by_cases h1 : j < off
          · have hj : j < tot := by omega
            simp [h1, hj]
          · by_cases h2 : j - off < sl
            · have hj : j < tot := by omega
              simp [h1, h2, hj]
            · have e3 : off + sl + (j - off - sl) = j := by omega
              simp [h1, h2, e3]

set_option maxHeartbeats 400000 in
theorem joinBytes_any (a b : Option Addr) (ca cb : Nat) (za zb : List Int) (w : World) (ha : LeafB w.heap.size w a ca za) (hb : LeafB w.heap.size w b cb zb) (hla : za.length ≤ 2097152) (hlb : zb.length ≤ 2097152) :
    Calls Tryz.prog 62 #[.slice a za.length ca, .slice b zb.length cb] w fun e w' => ∃ (v : Value) (F : List Nat), e = .returned v ∧ ownB 5 w' v (za ++ zb) F ∧ F.Nodup ∧ (∀ b, b ∈ F → w.heap.size ≤ b) ∧ Below w.heap.size w w' := by
  obtain ⟨i0, hi, hz0, hz1, hz2⟩ := info_parts Tryz.info5
  have HA := Hid.mk ha
  have HB := Hid.mk hb
  clear ha hb
  obtain ⟨na, hna⟩ : ∃ n, za.length = n := ⟨_, rfl⟩
  obtain ⟨nb, hnb⟩ : ∃ n, zb.length = n := ⟨_, rfl⟩
  have HNA := Hid.mk hna
  have HNB := Hid.mk hnb
  rw [hna] at hla ⊢
  rw [hnb] at hlb ⊢
  clear hna hnb
  go_enter Tryz.func62, Tryz.ntmps62
  go_wp2_with (at_make; refine wpList_make_full _ rfl _ _ 60 rfl w.heap.size 5 i0 (.int .u8 0) 1 Tryz.underlying60 hi hz0 hz1 .i64 .i64 _ _ (na + nb) rfl rfl (by first | rfl | (push_cast; rfl) | simp) rfl (by rw [hz2]; omega) (by unfold maxLen; omega) (Nat.le_refl _) ?_)
  intro w1 hown hgr
  have hb1 : Below w.heap.size w w1 := (Below.refl _ _).grown hgr (Nat.le_refl _) (fun k h => by cases h)
  rw [toList_madeCells_one] at hown
  have ra := (HA.out.below hb1).2.2.1
  have hlt1 : w.heap.size < w1.heap.size := (hown.lt w.heap.size rfl).2
  by_cases h0 : nb = 0
  · subst h0
    have hzb : zb = [] := List.eq_nil_of_length_eq_zero HNB.out
    subst hzb
    rw [Nat.add_zero] at *
    go_wp2_with (first
      | (refine wpList_copy_in rfl _ _ 60 60 rfl 5 i0 Tryz.underlying60 hi hz1 w.heap.size w.heap.size 0 (na) (na) (na) (na) na ca _ rfl rfl _ hown .u8 za w.heap.size HNA.out (by omega) (by omega) ra ?_; intro w2 hown2 hg2)
      | (refine wpList_copy_nothing rfl _ _ 60 60 rfl 5 Tryz.underlying60 (by rw [hi]; simp [hz1]) _ _ _ _ _ _ rfl rfl (by simp) ?_))
    have hb2 : Below w.heap.size w w2 := hb1.grown hg2 (Nat.le_of_lt hlt1) (fun k h => by cases h; exact Nat.le_refl _)
    go_ret
    refine ⟨_, [w.heap.size], rfl, ⟨?_, ?_, rfl⟩, by simp, (fun b hb => by simp at hb; omega), hb2⟩
    · refine own_base (own_congr hown2 (by simp [HNA.out]) ?_) (Nat.zero_le _)
      simp
    · rw [List.append_nil]
      exact HA.out.2.2.2
  · have hnb0 : 0 < nb := by omega
    go_wp2_with (first
      | (refine wpList_copy_in rfl _ _ 60 60 rfl 5 i0 Tryz.underlying60 hi hz1 w.heap.size w.heap.size 0 (na + nb) (na + nb) (na + nb) (na + nb) na ca _ rfl rfl _ hown .u8 za w.heap.size HNA.out (by omega) (by omega) ra ?_; intro w2 hown2 hg2; have hb2 : Below w.heap.size w w2 := hb1.grown hg2 (Nat.le_of_lt hlt1) (fun k h => by cases h; exact Nat.le_refl _); have hlt2 : w.heap.size < w2.heap.size := (hown2.lt w.heap.size rfl).2; have rb := (HB.out.below hb2).2.2.1)
      | (refine wpList_copy_in rfl _ _ 60 60 rfl 5 i0 Tryz.underlying60 hi hz1 w.heap.size w.heap.size na (na + nb) (na + nb) nb nb nb cb _ rfl rfl _ hown2 .u8 zb w.heap.size HNB.out (by omega) (by omega) rb ?_; intro w3 hown3 hg3))
    have hb3 : Below w.heap.size w w3 := hb2.grown hg3 (Nat.le_of_lt hlt2) (fun k h => by cases h; exact Nat.le_refl _)
    go_ret
    refine ⟨_, [w.heap.size], rfl, ⟨?_, ?_, rfl⟩, by simp, (fun b hb => by simp at hb; omega), hb3⟩
    · refine own_base (own_congr hown3 (by simp [HNA.out, HNB.out]) ?_) (Nat.zero_le _)
      have hna := HNA.out
      simp [hna]
      done
    · intro z hz
      rcases List.mem_append.1 hz with h | h
      · exact HA.out.2.2.2 z h
      · exact HB.out.2.2.2 z h

end Go.Proofs.YtnohnkcijomdjaaGreatDoor
