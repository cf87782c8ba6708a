/-
  Part 12 of the texts that the proof leans on.
-/
import Derived.Test.YtocgbeoglgkibaaDoorTbp10
import Derived.Test.YtocgbeoglgkibaaDoorTbp1
import Derived.Test.YtocgbeoglgkibaaDoorTbp2
import Derived.Test.YtocgbeoglgkibaaDoorTbp6
import Derived.Test.YtocgbeoglgkibaaDoorTbp3
set_option linter.unusedVariables false
set_option linter.unusedSimpArgs false
set_option maxRecDepth 10000

namespace Go.Proofs.YtocgbeoglgkibaaDoor
open Go.RowKit

/-- A pair that a reader takes, behind a key. -/
def pR1 (zs : List Int) : List Int := restL (getNum zs 0).2.2 zs (getNum zs 0).2.1
def pR2 (zs : List Int) : List Int := restL (getText (pR1 zs) 0).2.2 (pR1 zs) (getText (pR1 zs) 0).2.1
def pR3 (zs : List Int) : List Int := restL (flagOk (pR2 zs)) (pR2 zs) 1
def pR4 (zs : List Int) : List Int := restL (getText (pR3 zs) 0).2.2 (pR3 zs) (getText (pR3 zs) 0).2.1
def pairR (zs : List Int) (ahead : ByteArray) : Option (MPair × List Int) :=
  if (getNum zs 0).2.2 = true ∧ (getText (pR1 zs) 0).2.2 = true ∧ flagOk (pR2 zs) = true ∧ (getText (pR3 zs) 0).2.2 = true ∧ (getNum zs 0).1 ≤ ahead.size then
    some (⟨ahead.extract 0 (getNum zs 0).1.toNat ++ strOfNums (getText (pR1 zs) 0).1, strOfNums (getText (pR3 zs) 0).1, flagOn (pR2 zs)⟩, pR4 zs)
  else none
def irGo : Nat → List Int → ByteArray → List MPair → List MPair × Bool
  | 0, _, _, out => (out, true)
  | f + 1, zs, ahead, out => if zs.length = 0 then (out, true) else match pairR zs ahead with
    | none => (out, false)
    | some (p, r) => if out.length = 200 then (out, false) else irGo f r p.fKey (out ++ [p])
def irAt (blocks : List Int) (p : Int) (out : List MPair) : List MPair × Bool :=
  if (unframe blocks p).2.2 = true then irGo ((unframe blocks p).1.length + 1) (unframe blocks p).1 ByteArray.empty out else (out, false)
def irAll (blocks : List Int) : List Int → List MPair → List MPair × Bool
  | [], out => (out, true)
  | p :: ps, out => if (irAt blocks p out).2 = true then irAll blocks ps (irAt blocks p out).1 else ((irAt blocks p out).1, false)
/-- The index: one step, all steps. -/
def xR1 (zs : List Int) : List Int := restL (getText zs 0).2.2 zs (getText zs 0).2.1
def xR2 (zs : List Int) : List Int := restL (getNum (xR1 zs) 0).2.2 (xR1 zs) (getNum (xR1 zs) 0).2.1
def xBad (zs : List Int) (bad : Bool) : Bool := badB (getNum (xR1 zs) 0).2.2 (badB (getText zs 0).2.2 bad)
def xAt (zs : List Int) : Int := (getNum (xR1 zs) 0).1
def ixrGo (n : Int) : Nat → List Int → Bool → List Int → List Int × List Int × Bool
  | 0, zs, bad, ps => (ps, zs, bad)
  | f + 1, zs, bad, ps => if (ps.length : Int) < n ∧ bad = false then ixrGo n f (xR2 zs) (xBad zs bad) (ps ++ [xAt zs]) else (ps, zs, bad)
def ixrE (r : List Int × List Int × Bool) : Option (List Int) := if r.2.2 = false ∧ r.2.1.length = 8 then some r.1 else none
def ixrB (body : List Int) : Option (List Int) := ixrE (ixrGo (getNum body 0).1 (body.length + 2) (restL (getNum body 0).2.2 body (getNum body 0).2.1) (badB (getNum body 0).2.2 false) [])
def ixR (zs : List Int) : Option (List Int) :=
  if zs.length < 4 then none
  else if (unframe zs (rd4 zs (zs.length - 4))).2.2 = true ∧ (unframe zs (rd4 zs (zs.length - 4))).2.1 = (zs.length : Int) - 4 then ixrB (unframe zs (rd4 zs (zs.length - 4))).1 else none
def rpS (zs : List Int) : List MPair × Bool := match ixR zs with
  | none => ([], false)
  | some ps => irAll (zs.take (rd4 zs (zs.length - 4)).toNat) ps []

theorem restL_pre (pre r : List Int) : restL true (pre ++ r) (pre.length : Nat) = r := by
  unfold restL
  rw [if_pos rfl, Int.toNat_natCast, List.drop_left]
theorem num_head {N : Int} (h0 : 0 ≤ N) (h1 : N ≤ 1000000000) (r : List Int) : getNum (putNum N ++ r) 0 = (N, (((putNum N).length : Nat) : Int), true) := by
  have h := getNum_at h0 h1 [] r
  simpa using h
theorem text_head (ts r : List Int) (h : ts.length ≤ 1000000000) : getText (putNum (ts.length : Int) ++ (ts ++ r)) 0 = (ts, (((putNum (ts.length : Int) ++ ts).length : Nat) : Int), true) := by
  have h2 := getText_at [] ts r h
  simpa using h2

theorem pairR_pair (r : List Int) (last : ByteArray) (p : MPair) (h1 : p.fKey.size ≤ 1000000) (h2 : p.fVal.size ≤ 1000000) : pairR (pairB last p ++ r) last = some (p, r) := by
  have hc := com_le last p.fKey
  have hx := ext_size p.fKey (com last p.fKey)
  have hxl : (strInts (p.fKey.extract (com last p.fKey) p.fKey.size)).length ≤ 1000000 := by rw [strInts_length]; omega
  have hvl : (strInts p.fVal).length ≤ 1000000 := by rw [strInts_length]; omega
  rw [pairB_lay last p h1 h2]
  have HB := com_back last p.fKey
  have HS := strOf_ints (p.fKey.extract (com last p.fKey) p.fKey.size)
  have HV := strOf_ints p.fVal
  generalize strInts (p.fKey.extract (com last p.fKey) p.fKey.size) = rs at *
  generalize strInts p.fVal = vs at *
  generalize com last p.fKey = c at *
  obtain ⟨zs, hzs⟩ : ∃ zs, zs = (putNum (c : Int) ++ (putNum (rs.length : Int) ++ (rs ++ ([goneI p] ++ (putNum (vs.length : Int) ++ vs))))) ++ r := ⟨_, rfl⟩
  have e0 : zs = putNum (c : Int) ++ (putNum (rs.length : Int) ++ (rs ++ ([goneI p] ++ (putNum (vs.length : Int) ++ (vs ++ r))))) := by rw [hzs]; simp
  have n1 := num_head (N := (c : Int)) (by omega) (by omega) (putNum (rs.length : Int) ++ (rs ++ ([goneI p] ++ (putNum (vs.length : Int) ++ (vs ++ r)))))
  rw [← e0] at n1
  have z1 : pR1 zs = putNum (rs.length : Int) ++ (rs ++ ([goneI p] ++ (putNum (vs.length : Int) ++ (vs ++ r)))) := by
    unfold pR1
    rw [n1, e0]
    exact restL_pre _ _
  have t1 := text_head rs ([goneI p] ++ (putNum (vs.length : Int) ++ (vs ++ r))) (by omega)
  rw [← z1] at t1
  have z2 : pR2 zs = goneI p :: (putNum (vs.length : Int) ++ (vs ++ r)) := by
    unfold pR2
    rw [t1, z1, ← List.append_assoc]
    exact restL_pre _ _
  have fo : flagOk (pR2 zs) = true := by rw [z2]; exact decide_eq_true (goneI_le p)
  have fn : flagOn (pR2 zs) = p.fGone := by rw [z2]; exact goneI_on p
  have z3 : pR3 zs = putNum (vs.length : Int) ++ (vs ++ r) := by
    unfold pR3
    rw [fo, z2]
    exact restL_pre [goneI p] _
  have t2 := text_head vs r (by omega)
  rw [← z3] at t2
  have z4 : pR4 zs = r := by
    unfold pR4
    rw [t2, z3, ← List.append_assoc]
    exact restL_pre _ _
  rw [← hzs]
  unfold pairR
  rw [n1, t1, t2, fo, fn, z4]
  rw [if_pos ⟨rfl, rfl, rfl, rfl, by omega⟩]
  simp only [Int.toNat_natCast]
  rw [HS, HV, HB]

theorem irGo_block (rest : List MPair) : ∀ (f : Nat) (last : ByteArray) (out : List MPair), rest.length < f → out.length + rest.length ≤ 200 → (∀ p, p ∈ rest → p.fKey.size ≤ 1000000 ∧ p.fVal.size ≤ 1000000) →
    irGo f (blockB last rest) last out = (out ++ rest, true) := by
  induction rest with
  | nil =>
    intro f last out hf hl hs
    cases f with
    | zero => omega
    | succ f => simp [irGo, blockB]
  | cons p rest ih =>
    intro f last out hf hl hs
    cases f with
    | zero => omega
    | succ f =>
      obtain ⟨h1, h2⟩ := hs p (by simp)
      have hst := pairR_pair (blockB p.fKey rest) last p h1 h2
      have hpos : 0 < (pairB last p).length := by rw [pairB_lay last p h1 h2]; simp; omega
      simp only [List.length_cons] at hf hl
      rw [blockB, irGo, hst, if_neg (by rw [List.length_append]; omega)]
      simp only
      rw [if_neg (by omega)]
      have h := ih f p.fKey (out ++ [p]) (by omega) (by simp; omega) (fun q hq => hs q (by simp [hq]))
      rw [h]
      simp
theorem blockB_long (l : List MPair) (hs : ∀ p, p ∈ l → p.fKey.size ≤ 1000000 ∧ p.fVal.size ≤ 1000000) : ∀ k : ByteArray, l.length ≤ (blockB k l).length := by
  induction l with
  | nil => intro k; simp
  | cons p l ih =>
    intro k
    obtain ⟨h1, h2⟩ := hs p (by simp)
    have hpos : 0 < (pairB k p).length := by rw [pairB_lay k p h1 h2]; simp; omega
    have := ih (fun q hq => hs q (by simp [hq])) p.fKey
    rw [blockB, List.length_append, List.length_cons]
    omega
theorem irAt_tab {l : List MPair} (h : tabOk l = true) {i : Nat} (hi : i < nBlk l) (out : List MPair) (ho : out.length + (blk l i).length ≤ 200) : irAt (outB l (nBlk l)) ((outB l i).length : Int) out = (out ++ blk l i, true) := by
  obtain ⟨r, hr⟩ := outB_pre l (i := i + 1) (n := nBlk l) (by omega)
  have e : outB l (nBlk l) = outB l i ++ (frame (blockB ByteArray.empty (blk l i)) ++ r) := by rw [hr, outB]; simp
  have hbl : (blockB ByteArray.empty (blk l i)).length ≤ 1000000000 := by
    have h1 := outB_little h (i + 1) (by omega)
    rw [outB, List.length_append] at h1
    unfold frame at h1
    simp only [List.length_append] at h1
    omega
  have hu := unframe_at (outB l i) r (blockB ByteArray.empty (blk l i)) (blockB_ok _ _) hbl
  have hs : ∀ p, p ∈ blk l i → p.fKey.size ≤ 1000000 ∧ p.fVal.size ≤ 1000000 := fun p hp => by have := tabOk_sizes h p (blk_mem hp); omega
  unfold irAt
  rw [e, hu, if_pos rfl]
  exact irGo_block (blk l i) _ _ out (by have := blockB_long (blk l i) hs ByteArray.empty; simp only; omega) ho hs
theorem irAll_tab {l : List MPair} (h : tabOk l = true) : ∀ (d i : Nat), i + d = nBlk l → irAll (outB l (nBlk l)) ((plc l (nBlk l)).drop i) (l.take (4 * i)) = (l, true) := by
  intro d
  induction d with
  | zero =>
    intro i hi
    have : i = nBlk l := by omega
    subst this
    rw [List.drop_of_length_le (by rw [plc_length]; omega), irAll, List.take_of_length_le (nBlk_le h).2.2]
  | succ d ih =>
    intro i hi
    have hil : i < (plc l (nBlk l)).length := by rw [plc_length]; omega
    have e : (plc l (nBlk l))[i] = ((outB l i).length : Int) := by simp [plc]
    have hl := (tabOk_len h).2
    have ht : (l.take (4 * i)).length + (blk l i).length ≤ 200 := by
      have h2 := congrArg List.length (take_blk l i)
      rw [List.length_append] at h2
      rw [h2, List.length_take]
      omega
    rw [List.drop_eq_getElem_cons hil, irAll, e, irAt_tab h (by omega) _ ht, if_pos rfl, take_blk]
    exact ih (i + 1) (by omega)

theorem ixr_step {l : List MPair} (hs : ∀ p, p ∈ l → p.fKey.size ≤ 20 ∧ p.fVal.size ≤ 20) (i : Nat) (hO : (outB l i).length ≤ 1000000000) (F : List Int) :
    xR2 (idx1 l i ++ F) = F ∧ xBad (idx1 l i ++ F) false = false ∧ xAt (idx1 l i ++ F) = ((outB l i).length : Int) := by
  have hk := lastK_few (l := blk l i) (fun p hp => hs p (blk_mem hp))
  have hkl : (strInts (lastK ByteArray.empty (blk l i))).length ≤ 20 := by rw [strInts_length]; exact hk
  have e0 : idx1 l i ++ F = putNum ((strInts (lastK ByteArray.empty (blk l i))).length : Int) ++ (strInts (lastK ByteArray.empty (blk l i)) ++ (putNum ((outB l i).length : Int) ++ F)) := by
    unfold idx1 putText
    rw [clampN_in (by omega) (by omega), clampN_in (by omega) (by omega), sizeInts]
    simp
  rw [e0]
  generalize strInts (lastK ByteArray.empty (blk l i)) = ts at *
  have t := text_head ts (putNum ((outB l i).length : Int) ++ F) (by omega)
  have z1 : xR1 (putNum (ts.length : Int) ++ (ts ++ (putNum ((outB l i).length : Int) ++ F))) = putNum ((outB l i).length : Int) ++ F := by
    unfold xR1
    rw [t, ← List.append_assoc]
    exact restL_pre _ _
  have g := num_head (N := ((outB l i).length : Int)) (by omega) (by omega) F
  refine ⟨?_, ?_, ?_⟩
  · unfold xR2
    rw [z1, g]
    exact restL_pre _ _
  · unfold xBad
    rw [z1, g, t]
    rfl
  · unfold xAt
    rw [z1, g]
theorem ixrGo_at {l : List MPair} (hs : ∀ p, p ∈ l → p.fKey.size ≤ 20 ∧ p.fVal.size ≤ 20) (n : Nat) (hO : ∀ i, i ≤ n → (outB l i).length ≤ 1000000000) (F : List Int) :
    ∀ (d i f : Nat) (r : List Int), i + d = n → d < f → idxB l n = idxB l i ++ r → ixrGo (n : Int) f (r ++ F) false (plc l i) = (plc l n, F, false) := by
  intro d
  induction d with
  | zero =>
    intro i f r hi hf hr
    obtain ⟨f, rfl⟩ : ∃ g, f = g + 1 := ⟨f - 1, by omega⟩
    have : i = n := by omega
    subst this
    have h2 := congrArg List.length hr
    rw [List.length_append] at h2
    have hr0 : r = [] := List.eq_nil_of_length_eq_zero (by omega)
    rw [ixrGo, if_neg (by rw [plc_length]; omega), hr0, List.nil_append]
  | succ d ih =>
    intro i f r hi hf hr
    obtain ⟨f, rfl⟩ : ∃ g, f = g + 1 := ⟨f - 1, by omega⟩
    obtain ⟨r2, hr2⟩ := idxB_pre l (i := i + 1) (n := n) (by omega)
    have e : r = idx1 l i ++ r2 := by
      have h2 : idxB l i ++ r = idxB l i ++ (idx1 l i ++ r2) := by rw [← hr, hr2, idxB, List.append_assoc]
      exact List.append_cancel_left h2
    obtain ⟨s1, s2, s3⟩ := ixr_step hs i (hO i (by omega)) (r2 ++ F)
    rw [e, List.append_assoc, ixrGo, if_pos ⟨by rw [plc_length]; omega, rfl⟩, s1, s2, s3, ← plc_succ]
    exact ih (i + 1) f r2 (by omega) (by omega) hr2
theorem ixrB_tab {l : List MPair} (h : tabOk l = true) : ixrB (putNum (clampN (nBlk l)) ++ idxB l (nBlk l) ++ flt (keysP l)) = some (plc l (nBlk l)) := by
  have hn := nBlk_le h
  rw [clampN_in (by omega) (by omega), List.append_assoc]
  have g := num_head (N := (nBlk l : Int)) (by omega) (by omega) (idxB l (nBlk l) ++ flt (keysP l))
  have hlong : nBlk l ≤ (idxB l (nBlk l)).length := by
    have key : ∀ n, n ≤ (idxB l n).length := by
      intro n
      induction n with
      | zero => simp
      | succ n ih =>
        have := (putNum_length (clampN (outB l n).length)).1
        rw [idxB, List.length_append]
        unfold idx1
        rw [List.length_append]
        omega
    exact key _
  have r := ixrGo_at (tabOk_sizes h) (nBlk l) (fun i hi => by have := outB_little h i hi; omega) (flt (keysP l)) (nBlk l) 0 ((putNum (nBlk l : Int) ++ (idxB l (nBlk l) ++ flt (keysP l))).length + 2) (idxB l (nBlk l)) (by omega) (by simp only [List.length_append]; omega) rfl
  unfold ixrB
  rw [g]
  simp only
  rw [restL_pre]
  have hb : badB true false = false := rfl
  have hp : plc l 0 = [] := rfl
  rw [hb, ← hp, r]
  unfold ixrE
  rw [if_pos ⟨rfl, flt_length _⟩]
theorem ixR_tab {l : List MPair} (h : tabOk l = true) : ixR (tabB l) = some (plc l (nBlk l)) ∧ (tabB l).take (rd4 (tabB l) ((tabB l).length - 4)).toNat = outB l (nBlk l) := by
  have hO := outB_little h (nBlk l) (Nat.le_refl _)
  have hI := ixrB_tab h
  have hIl := idx_little h
  have hIo := idx_ok l
  unfold tabB
  generalize putNum (clampN (nBlk l)) ++ idxB l (nBlk l) ++ flt (keysP l) = ix at *
  generalize outB l (nBlk l) = O at *
  have hr := rd4_at (O ++ frame ix) [] (x := (O.length : Int)) (by omega) (by omega)
  rw [List.append_nil] at hr
  have hu := unframe_at O (four (O.length : Int)) ix hIo (by omega)
  rw [← List.append_assoc] at hu
  have hl : (O ++ frame ix ++ four (O.length : Int)).length - 4 = (O ++ frame ix).length := by simp [four_length]; omega
  refine ⟨?_, ?_⟩
  · unfold ixR
    rw [hl, hr, hu, if_neg (by simp [four_length]; omega), if_pos ⟨rfl, by simp [four_length]; omega⟩]
    exact hI
  · rw [hl, hr, Int.toNat_natCast, List.append_assoc, List.take_left' rfl]
theorem rpS_tab {l : List MPair} {zs : List Int} (h : tabOk l = true) (hz : tabB l = zs) : rpS zs = (l, true) := by
  subst hz
  obtain ⟨h1, h2⟩ := ixR_tab h
  have h3 := irAll_tab h (nBlk l) 0 (by omega)
  simp only [List.drop_zero, Nat.mul_zero, List.take_zero] at h3
  unfold rpS
  rw [h1]
  simp only
  rw [h2]
  exact h3
/-- What the program answers is what the specification answers. -/
theorem rp_tp (zs : List Int) : tpS zs = if (rpS zs).2 = true ∧ tabP (rpS zs).1 = zs ∧ zs ≠ [] then ((rpS zs).1, true) else ([], false) := by
  by_cases hc : (rpS zs).2 = true ∧ tabP (rpS zs).1 = zs ∧ zs ≠ []
  · rw [if_pos hc]
    have ho : tabOk (rpS zs).1 = true := by
      by_cases h : tabOk (rpS zs).1 = true
      · exact h
      · have h2 := hc.2.1
        unfold tabP at h2
        rw [if_neg h] at h2
        exact absurd h2.symm hc.2.2
    have h2 := hc.2.1
    unfold tabP at h2
    rw [if_pos ho] at h2
    exact tpS_yes ho h2
  · rw [if_neg hc]
    refine tpS_no fun l hl hz => hc ?_
    have h1 := rpS_tab hl hz
    rw [h1]
    refine ⟨rfl, ?_, ?_⟩
    · unfold tabP; rw [if_pos hl]; exact hz
    · intro h0
      rw [h0] at hz
      have := congrArg List.length hz
      unfold tabB at this
      simp [four_length] at this

end Go.Proofs.YtocgbeoglgkibaaDoor

namespace Go.Proofs.YtocgbeoglgkibaaDoor
open Go.RowKit Go.Maps

/-- The error that says 'no table', and an error that wraps it. -/
def errV (pe : Addr) : Value := .iface 122 (.pointer (some pe))
def partV (s : ByteArray) (pe : Addr) : Value := .iface 93 (.agg #[.string s, errV pe])
def ErrAt (w : World) (pe : Addr) : Prop := w.cell? ⟨0, 0, none⟩ = some (errV pe)
theorem ErrAt.below {w w' : World} {pe : Addr} (h : ErrAt w pe) (hb : Below w.heap.size w w') : ErrAt w' pe := (hb.cell (p := ⟨0, 0, none⟩) (World.block_lt_of_cell? _ _ h)).trans h
theorem ErrAt.turn {w w' : World} {pe : Addr} {F : List Nat} (h : ErrAt w pe) (ht : Turn F w w') (hF : ∀ b, b ∈ F → 0 < b) : ErrAt w' pe := (ht.cell (p := ⟨0, 0, none⟩) (World.block_lt_of_cell? _ _ h) (fun hm => Nat.lt_irrefl _ (hF _ hm))).trans h

set_option maxHeartbeats 400000 in
theorem noTable_any (s : ByteArray) (pe : Addr) (w : World) (hE : ErrAt w pe) :
    Calls Tryd.prog 36 #[.string s] w fun e w' => e = .returned (partV s pe) ∧ w' = w := by
  have h0 : w.cell? ⟨0, 0, none⟩ = some (errV pe) := hE
  unfold errV at h0
  go_enter Tryd.func36, Tryd.ntmps36
  go_wp2_with fail
  go_ret
  exact ⟨rfl, rfl⟩

theorem RdrAt.under {lo : Nat} {w w' : World} {b : Nat} {zs : List Int} {bad : Bool} (h : RdrAt lo w b zs bad) (hb : Below w.heap.size w w') : RdrAt lo w' b zs bad := by
  obtain ⟨a, c, h1, h2, h3, h4, h5⟩ := h
  exact ⟨a, c, h1.under hb, h2, h3, h4.below (hb.mono (Nat.le_of_lt h1.lt)), h5⟩
theorem RdrAt.lt {lo : Nat} {w : World} {b : Nat} {zs : List Int} {bad : Bool} (h : RdrAt lo w b zs bad) : b < w.heap.size := by
  obtain ⟨a, c, h1, _⟩ := h
  exact h1.lt
theorem restL_ok {ok : Bool} {zs : List Int} {q : Int} (h : BytesOk zs) : BytesOk (restL ok zs q) := by
  unfold restL
  split
  · exact fun z hz => h z (List.mem_of_mem_drop hz)
  · intro z hz; cases hz
theorem restL_len {ok : Bool} {zs : List Int} {q : Int} : (restL ok zs q).length ≤ zs.length := by
  unfold restL
  split
  · rw [List.length_drop]; omega
  · simp
theorem badB_no {ok bad : Bool} (h : badB ok bad = false) : ok = true ∧ bad = false := by
  unfold badB at h
  cases ok <;> simp_all

theorem Turn.less {F G : List Nat} {w w' : World} (h : Turn F w w') (hG : ∀ k, k ∈ F → k < w.heap.size → k ∈ G) : Turn G w w' := ⟨h.os, h.tape, h.output, h.size, fun b hb hn => h.block b hb (fun hm => hn (hG b hm hb))⟩
theorem turn_two {w w5 w7 : World} {b : Nat} (h : Turn [b] w w5) (k : Turn [w.heap.size] w5 w7) : Turn [b] w w7 := by
  have h2 := Turn.trans (F := [b, w.heap.size]) (h.mono (by intro k hk; simp at hk; simp [hk])) (k.mono (by intro k hk; simp at hk; simp [hk]))
  refine h2.less (fun k hk hkl => ?_)
  simp at hk
  rcases hk with rfl | rfl
  · simp
  · omega
theorem RdrAt.apart {lo : Nat} {w w' : World} {b g : Nat} {zs : List Int} {bad : Bool} (h : RdrAt lo w b zs bad) (ht : Turn [g] w w') (hg : b < g) : RdrAt lo w' b zs bad := by
  obtain ⟨a, c, h1, h2, h3, h4, h5⟩ := h
  have hl := h1.lt
  refine ⟨a, c, h1.turn ht (by simp; omega), h2, h3, fun j hj => ?_, h5⟩
  obtain ⟨b1, o1, e, hB, hc⟩ := h4 j hj
  exact ⟨b1, o1, e, hB, (ht.cell (p := ⟨b1, o1 + j, none⟩) (by show b1 < _; omega) (by simp; omega)).trans hc⟩
def PaPost (lo b : Nat) (zs : List Int) (ahead : ByteArray) (pe : Addr) (w : World) (e : Ending) (w' : World) : Prop :=
  Turn [b] w w' ∧ ((∃ p r, pairR zs ahead = some (p, r) ∧ e = .returned (.tuple #[.agg #[.string p.fKey, .string p.fVal, .bool p.fGone], .nilIface]) ∧ RdrAt lo w' b r false) ∨
    (pairR zs ahead = none ∧ ∃ s z bad, e = .returned (.tuple #[.agg #[.string ⟨#[]⟩, .string ⟨#[]⟩, .bool false], partV s pe]) ∧ RdrAt lo w' b z bad))

set_option maxHeartbeats 8000000 in
theorem pair_any (lo b : Nat) (zs : List Int) (ahead : ByteArray) (pe : Addr) (w : World) (h : RdrAt lo w b zs false) (hb : BytesOk zs) (hlen : zs.length ≤ 1048576) (ha : ahead.size ≤ 1048576) (hE : ErrAt w pe) (hgb : 0 < b) :
    Calls Tryd.prog 55 #[.pointer (some ⟨b, 0, none⟩), .string ahead] w (PaPost lo b zs ahead pe w) := by
  have hlb := h.lt
  obtain ⟨w1, hw1⟩ : ∃ x, x = w.alloc (.cells #[.string ⟨#[]⟩, .string ⟨#[]⟩, .bool false] 45) := ⟨_, rfl⟩
  have hb1 : Below w.heap.size w w1 := by rw [hw1]; exact (Below.refl _ _).alloc (Nat.le_refl _) _
  have hbx1 : Bw w1 w.heap.size 45 [.string ⟨#[]⟩, .string ⟨#[]⟩, .bool false] := by rw [hw1]; exact Bw.new' _ _ _ rfl
  have h1 := h.under hb1
  have HW1 := Hid.mk hw1
  clear hw1 h
  obtain ⟨G, hG⟩ : ∃ G, getNum zs 0 = G := ⟨_, rfl⟩
  obtain ⟨gn, gq, gok⟩ := G
  obtain ⟨T, hT⟩ : ∃ T, getText (restL gok zs gq) 0 = T := ⟨_, rfl⟩
  obtain ⟨tt, tq, tok⟩ := T
  obtain ⟨V, hV⟩ : ∃ V, getText (restL (flagOk (restL tok (restL gok zs gq) tq)) (restL tok (restL gok zs gq) tq) 1) 0 = V := ⟨_, rfl⟩
  obtain ⟨vt, vq, vok⟩ := V
  have e1 : pR1 zs = restL gok zs gq := by unfold pR1; rw [hG]
  have e2 : pR2 zs = restL tok (restL gok zs gq) tq := by unfold pR2; rw [e1, hT]
  have e3 : pR3 zs = restL (flagOk (restL tok (restL gok zs gq) tq)) (restL tok (restL gok zs gq) tq) 1 := by unfold pR3; rw [e2]
  have e4 : pR4 zs = restL vok (pR3 zs) vq := by unfold pR4; rw [e3, hV]
  rw [← e1] at hT
  rw [← e3] at hV
  have HPR : Hid (pairR zs ahead = if gok = true ∧ tok = true ∧ flagOk (pR2 zs) = true ∧ vok = true ∧ gn ≤ ahead.size then some (⟨ahead.extract 0 gn.toNat ++ strOfNums tt, strOfNums vt, flagOn (pR2 zs)⟩, pR4 zs) else none) := by
    show _ = _
    unfold pairR
    rw [hG, hT, hV]
  have hb2 : BytesOk (pR1 zs) := restL_ok hb
  have hb3 : BytesOk (pR2 zs) := restL_ok hb2
  have hb4 : BytesOk (pR3 zs) := restL_ok hb3
  have l2 : (pR1 zs).length ≤ 1048576 := Nat.le_trans restL_len hlen
  have l3 : (pR2 zs).length ≤ 1048576 := Nat.le_trans restL_len l2
  have l4 : (pR3 zs).length ≤ 1048576 := Nat.le_trans restL_len l3
  have c1 := fun W h => rdrNum_any (lo := lo) b zs false gn gq gok W hG h hb (by omega)
  rw [← e1] at c1
  have c2 := fun W bad h => rdrText_any (lo := lo) b (pR1 zs) bad tt tq tok W hT h hb2 (by omega)
  have c3 := fun W bad h => rdrFlag_any (lo := lo) b (pR2 zs) bad W h hb3
  have c4 := fun W bad h => rdrText_any (lo := lo) b (pR3 zs) bad vt vq vok W hV h hb4 (by omega)
  rw [show restL tok (pR1 zs) tq = pR2 zs from by rw [e1]; exact e2.symm] at c2
  rw [show restL (flagOk (pR2 zs)) (pR2 zs) 1 = pR3 zs from rfl] at c3
  rw [← e4] at c4
  have HGB : Hid (gok = true → 0 ≤ gn) := fun hk => by have := getNum_bounds (b := zs) (p := 0) (by rw [hG]; exact hk); rw [hG] at this; exact this.1
  have HTL1 : Hid (tt.length ≤ 1048576) := by have := HTL (pR1 zs) 0; rw [hT] at this; exact Nat.le_trans this l2
  clear e1 e2 e3 e4 hG hT hV
  go_enter Tryd.func55, Tryd.ntmps55
  go_wp2_with fail
  rw [← HW1.out]
  refine Calls.mono (c1 w1 h1) ?_
  rintro e w2 ⟨rfl, h2, t2⟩
  clear c1
  go_wp2_with fail
  refine Calls.mono (c2 w2 _ h2) ?_
  rintro e w3 ⟨rfl, h3, t3⟩
  clear c2
  go_wp2_with fail
  refine Calls.mono (c3 w3 _ h3) ?_
  rintro e w4 ⟨rfl, h4, t4⟩
  clear c3
  go_wp2_with fail
  refine Calls.mono (c4 w4 _ h4) ?_
  rintro e w5 ⟨rfl, h5, t5⟩
  clear c4
  have t15 : Turn [b] w1 w5 := ((t2.trans t3).trans t4).trans t5
  have hbx5 : Bw w5 w.heap.size 45 [.string ⟨#[]⟩, .string ⟨#[]⟩, .bool false] := hbx1.turn t15 (by simp; omega)
  have hE5 := (hE.below hb1).turn t15 (fun k hk => by simp at hk; omega)
  have tw5 : Turn [b] w w5 := (Turn.ofBelow hb1).trans t15
  have hlw : w.heap.size < w5.heap.size := hbx5.lt
  have y0 := hbx5.cell 0 _ rfl
  have y1 := hbx5.cell 1 _ rfl
  have y2 := hbx5.cell 2 _ rfl
  have f0 := hbx5.free 0
  have f1 := hbx5.free 1
  have f2 := hbx5.free 2
  have HR5 := Hid.mk h5
  obtain ⟨a5, c5, hbw5, _, _, _, _⟩ := h5
  have z1 := hbw5.cell 1 _ rfl
  have HE5 := Hid.mk hE5
  clear hbx1 h1 h2 h3 h4 t2 t3 t4 t5 t15 hE hb1
  generalize hbd : badB vok (badB (flagOk (pR2 zs)) (badB tok (badB gok false))) = bad at *
  cases bad with
  | true =>
    have HN : Hid (pairR zs ahead = none) := by
      show _ = _
      rw [HPR.out, if_neg]
      rintro ⟨g1, g2, g3, g4, _⟩
      rw [g1, g2, g3, g4] at hbd
      cases hbd
    clear hbd HPR
    go_wp2_with fail
    refine Calls.mono (noTable_any _ pe w5 HE5.out) ?_
    rintro e w5 ⟨rfl, rfl⟩
    obtain ⟨w7, hw7⟩ : ∃ x, x = ((w5.setCell ⟨w.heap.size, 0, none⟩ (.string ⟨#[]⟩)).setCell ⟨w.heap.size, 1, none⟩ (.string ⟨#[]⟩)).setCell ⟨w.heap.size, 2, none⟩ (.bool false) := ⟨_, rfl⟩
    have hT7 : Turn [w.heap.size] w5 w7 := by rw [hw7]; exact (((Turn.refl _ _).setCell (by simp) _).setCell (by simp) _).setCell (by simp) _
    have hb7 : Bw w7 w.heap.size 45 [.string ⟨#[]⟩, .string ⟨#[]⟩, .bool false] := by rw [hw7]; exact ((hbx5.put 0 _).put 1 _).put 2 _
    have HR7 := Hid.mk (HR5.out.apart hT7 hlb)
    have HT7 : Hid (Turn [b] w w7) := turn_two tw5 hT7
    have HW7 := Hid.mk hw7
    clear hw7
    unfold partV errV
    go_wp2_with fail
    rw [← HW7.out]
    have q0 := hb7.cell 0 _ rfl
    have q1 := hb7.cell 1 _ rfl
    have q2 := hb7.cell 2 _ rfl
    refine bodyPost_ret (v := .tuple #[.agg #[.string ⟨#[]⟩, .string ⟨#[]⟩, .bool false], partV ⟨#[98, 108, 111, 99, 107]⟩ pe]) (by simp [results, Tryd.results55, go_sem, partV, errV, *]) rfl ?_
    exact ⟨HT7.out, .inr ⟨HN.out, _, _, _, rfl, HR7.out⟩⟩
  | false =>
    obtain ⟨g4, hbd⟩ := badB_no hbd
    obtain ⟨g3, hbd⟩ := badB_no hbd
    obtain ⟨g2, hbd⟩ := badB_no hbd
    obtain ⟨g1, _⟩ := badB_no hbd
    have hgn := HGB.out g1
    by_cases hle : gn ≤ ahead.size
    · obtain ⟨gnn, hgnn⟩ : ∃ x : Nat, (x : Int) = gn := ⟨gn.toNat, by have := HGB.out g1; omega⟩
      subst hgnn
      have HY : Hid (pairR zs ahead = some (⟨ahead.extract 0 gnn ++ strOfNums tt, strOfNums vt, flagOn (pR2 zs)⟩, pR4 zs)) := by
        show _ = _
        rw [HPR.out, if_pos ⟨g1, g2, g3, g4, hle⟩, Int.toNat_natCast]
      have hse2 : ¬ 9223372036854775807 < gnn + (strOfNums tt).size := by rw [strOfNums_size]; have := HTL1.out; omega
      obtain ⟨w7, hw7⟩ : ∃ x, x = ((w5.setCell ⟨w.heap.size, 0, none⟩ (.string (ahead.extract 0 gnn ++ strOfNums tt))).setCell ⟨w.heap.size, 1, none⟩ (.string (strOfNums vt))).setCell ⟨w.heap.size, 2, none⟩ (.bool (flagOn (pR2 zs))) := ⟨_, rfl⟩
      have hT7 : Turn [w.heap.size] w5 w7 := by rw [hw7]; exact (((Turn.refl _ _).setCell (by simp) _).setCell (by simp) _).setCell (by simp) _
      have hb7 : Bw w7 w.heap.size 45 [.string (ahead.extract 0 gnn ++ strOfNums tt), .string (strOfNums vt), .bool (flagOn (pR2 zs))] := by rw [hw7]; exact ((hbx5.put 0 _).put 1 _).put 2 _
      have HR7 := Hid.mk (HR5.out.apart hT7 hlb)
      have HT7 : Hid (Turn [b] w w7) := turn_two tw5 hT7
      have HW7 := Hid.mk hw7
      clear hw7 HPR
      go_wp2_with fail
      rw [← HW7.out]
      have q0 := hb7.cell 0 _ rfl
      have q1 := hb7.cell 1 _ rfl
      have q2 := hb7.cell 2 _ rfl
      refine bodyPost_ret (v := .tuple #[.agg #[.string (ahead.extract 0 gnn ++ strOfNums tt), .string (strOfNums vt), .bool (flagOn (pR2 zs))], .nilIface]) (by simp [results, Tryd.results55, go_sem, *]) rfl ?_
      exact ⟨HT7.out, .inl ⟨_, _, HY.out, rfl, HR7.out⟩⟩
    · have HN : Hid (pairR zs ahead = none) := by
        show _ = _
        rw [HPR.out, if_neg]
        rintro ⟨_, _, _, _, h⟩
        exact hle h
      clear hbd HPR
      go_wp2_with fail
      refine Calls.mono (noTable_any _ pe w5 HE5.out) ?_
      rintro e w5 ⟨rfl, rfl⟩
      obtain ⟨w7, hw7⟩ : ∃ x, x = ((w5.setCell ⟨w.heap.size, 0, none⟩ (.string ⟨#[]⟩)).setCell ⟨w.heap.size, 1, none⟩ (.string ⟨#[]⟩)).setCell ⟨w.heap.size, 2, none⟩ (.bool false) := ⟨_, rfl⟩
      have hT7 : Turn [w.heap.size] w5 w7 := by rw [hw7]; exact (((Turn.refl _ _).setCell (by simp) _).setCell (by simp) _).setCell (by simp) _
      have hb7 : Bw w7 w.heap.size 45 [.string ⟨#[]⟩, .string ⟨#[]⟩, .bool false] := by rw [hw7]; exact ((hbx5.put 0 _).put 1 _).put 2 _
      have HR7 := Hid.mk (HR5.out.apart hT7 hlb)
      have HT7 : Hid (Turn [b] w w7) := turn_two tw5 hT7
      have HW7 := Hid.mk hw7
      clear hw7
      unfold partV errV
      go_wp2_with fail
      rw [← HW7.out]
      have q0 := hb7.cell 0 _ rfl
      have q1 := hb7.cell 1 _ rfl
      have q2 := hb7.cell 2 _ rfl
      refine bodyPost_ret (v := .tuple #[.agg #[.string ⟨#[]⟩, .string ⟨#[]⟩, .bool false], partV ⟨#[98, 108, 111, 99, 107]⟩ pe]) (by simp [results, Tryd.results55, go_sem, partV, errV, *]) rfl ?_
      exact ⟨HT7.out, .inr ⟨HN.out, _, _, _, rfl, HR7.out⟩⟩

end Go.Proofs.YtocgbeoglgkibaaDoor

namespace Go.Proofs.YtocgbeoglgkibaaDoor
open Go.RowKit
abbrev qb34_61_4_0 : Oper := ⟨some 10, .move (.tmp 0), 22, "l05_table.go:165", #[], none⟩
abbrev qb34_61_4_1 : Oper := ⟨some 11, .move (.tmp 1), 9, "l05_table.go:165", #[], none⟩
abbrev qb34_61_4_3 : Oper := ⟨some 13, .move (.tmp 7), 5, "l05_table.go:165", #[], none⟩
abbrev qb34_61_4_6 : Oper := ⟨some 16, .fieldAddr 45 (.tmp 5) 1, 0, "l05_table.go:165", #[], none⟩
abbrev qb34_61_4_7 : Oper := ⟨some 17, .load 9 (.tmp 16), 9, "l05_table.go:165", #[⟨6, .data⟩], none⟩
abbrev qb34_61_4_4 : Oper := ⟨some 14, .buildSlice 22 1 #[(0, .tmp 13)], 22, "l05_table.go:165", #[⟨3, .data⟩], none⟩
abbrev qb34_61_4_2 : Oper := ⟨some 12, .call { callee := .value (.func 62), args := #[.tmp 10, .tmp 11], argTypes := #[22, 9] }, 22, "l05_table.go:165", #[⟨0, .data⟩, ⟨1, .data⟩], none⟩
abbrev qb34_61_4_5 : Oper := ⟨some 15, .call { callee := .builtin .append, args := #[.tmp 12, .tmp 14], argTypes := #[22, 22] }, 22, "l05_table.go:165", #[⟨2, .data⟩, ⟨4, .data⟩, ⟨2, .chain⟩], none⟩
abbrev qb34_61_4_8 : Oper := ⟨some 18, .call { callee := .value (.func 62), args := #[.tmp 15, .tmp 17], argTypes := #[22, 9] }, 22, "l05_table.go:165", #[⟨5, .data⟩, ⟨7, .data⟩, ⟨5, .chain⟩], none⟩
abbrev qb34_61_4_9 : Oper := ⟨some 6, .assign (.tmp 18), 22, "l05_table.go:165", #[⟨8, .data⟩, ⟨8, .chain⟩, ⟨0, .phase⟩, ⟨1, .phase⟩, ⟨2, .phase⟩, ⟨3, .phase⟩, ⟨4, .phase⟩, ⟨5, .phase⟩, ⟨6, .phase⟩, ⟨7, .phase⟩, ⟨8, .phase⟩], none⟩

set_option maxHeartbeats 4000000 in
theorem putPair_any (a : Option Addr) (n cap : Nat) (zs : List Int) (s : ByteArray) (p : MPair) (w : World) (hx : zs.length = n) (hlen : n ≤ 100000000) (hr : Rd .u8 w.heap.size w a zs) (hs : s.size ≤ 1048576) (hsv : p.fVal.size ≤ 1048576) :
    Calls Tryd.prog 61 #[.slice a n cap, .string s, .agg #[.string p.fKey, .string p.fVal, .bool p.fGone]] w fun e w' => ∃ v, e = .returned v ∧
      w'.ownsRow w.heap.size 5 1 v (putText (putText zs s ++ [goneI p]) p.fVal).length ((putText (putText zs s ++ [goneI p]) p.fVal).map (Value.int .u8)) ∧ Below w.heap.size w w' := by
  obtain ⟨i0, hi, hz0, hz1, hz2⟩ := info_parts Tryd.info5
  have HI := Hid.mk (show _ ∧ _ ∧ _ ∧ _ from ⟨hi, hz0, hz1, hz2⟩)
  have HG : Hid (goneI p = if p.fGone then 1 else 0) := rfl
  obtain ⟨wq, hwq⟩ : ∃ x, x = w.alloc (.cells #[.string p.fKey, .string p.fVal, .bool p.fGone] 45) := ⟨_, rfl⟩
  have hbq : Below w.heap.size w wq := by rw [hwq]; exact (Below.refl _ _).alloc (Nat.le_refl _) _
  have hbx : Bx wq w.heap.size [.string p.fKey, .string p.fVal, .bool p.fGone] := by rw [hwq]; exact Bx.new _ _ _
  have HWQ := Hid.mk hwq
  clear hwq
  have hlq : w.heap.size < wq.heap.size := hbx.1
  have k1 := hbx.2 1 _ rfl
  have k2 := hbx.2 2 _ rfl
  have HC1 : Hid (∀ W, Below wq.heap.size wq W → W.cell? ⟨w.heap.size, 1, none⟩ = some (.string p.fVal)) := fun W hW => (hW.cell (p := ⟨w.heap.size, 1, none⟩) hlq).trans k1
  have HX := Hid.mk hx
  have HR := Hid.mk ((hr.below hbq).mono hbq.size)
  obtain ⟨z2, HZ2⟩ : ∃ z, Hid (z = putText zs s) := ⟨_, rfl⟩
  have hl2 : z2.length ≤ 102000000 := by rw [HZ2.out]; have := putText_len zs s; omega
  obtain ⟨z4, HZ4⟩ : ∃ z, Hid (z = z2 ++ [goneI p]) := ⟨_, rfl⟩
  have hl4 : z4.length ≤ 102000001 := by rw [HZ4.out, List.length_append]; simp; omega
  clear hx hi hz0 hz1 hz2 hr hbx
  go_enter Tryd.func61, Tryd.ntmps61
  rcases hgo : p.fGone with _ | _
  · rw [hgo] at HWQ
    go_wp2_with fail
    rw [← HWQ.out]
    have HG2 : Hid (goneI p = 0) := by unfold Hid; rw [HG.out, hgo]; rfl
    rw [hgo] at k2
    go_wp2_with fail
    refine wp_region_held_drew (S := fun W => W.cell? ⟨w.heap.size, 1, none⟩ = some (.string p.fVal) ∧ Below wq.heap.size wq W) (by kernel_rfl) (⟨k1, Below.drew (Below.refl _ _)⟩) (fun hHeld => ?_)
    obtain ⟨wS, hwS⟩ : ∃ wS, wS = wq.drew := ⟨_, rfl⟩
    rw [← hwS] at hHeld ⊢
    clear hwS
    refine tk 0 qb34_61_4_0 (some 10) (v := ?v1) rfl rfl (by kernel_rfl) hHeld (by rfl) (fun _ _ _ x => x) (fun w h => ?y1) ?_; (case y1 => (try dsimp only at h); go_simp; try (with_reducible rfl)); try simp only [Act.put, sa, s0, s1]
    refine tk 1 qb34_61_4_1 (some 11) (v := ?v2) rfl rfl (by kernel_rfl) hHeld (by rfl) (fun _ _ _ x => x) (fun w h => ?y2) ?_; (case y2 => (try dsimp only at h); go_simp; try (with_reducible rfl)); try simp only [Act.put, sa, s0, s1]
    refine tk 3 qb34_61_4_3 (some 13) (v := ?v3) rfl rfl (by kernel_rfl) hHeld (by rfl) (fun _ _ _ x => x) (fun w h => ?y3) ?_; (case y3 => (try dsimp only at h); go_simp; try (with_reducible rfl)); try simp only [Act.put, sa, s0, s1]
    refine tk 6 qb34_61_4_6 (some 16) (v := ?v4) rfl rfl (by kernel_rfl) hHeld (by rfl) (fun _ _ _ x => x) (fun w h => ?y4) ?_; (case y4 => (try dsimp only at h); go_simp; try (with_reducible rfl)); try simp only [Act.put, sa, s0, s1]
    refine tk 7 qb34_61_4_7 (some 17) (v := ?v5) rfl rfl (by kernel_rfl) hHeld (by rfl) (fun _ _ _ x => x) (fun w h => ?y5) ?_; (case y5 => (try dsimp only at h); go_simp; try (with_reducible rfl)); try simp only [Act.put, sa, s0, s1]
    refine wpAnyH_ready (rs := [2, 4]) (by kernel_rfl) (by simp) ?_
    refine (AllReadyH.cons (o := qb34_61_4_2) rfl (fun K hK => ?_) (AllReadyH.cons (o := qb34_61_4_4) rfl (fun K hK => ?_) AllReadyH.nil))
    · go_simp
      refine Calls.mono (implPutText_R a n cap zs s wS HX.out (by omega) ((HR.out.below hHeld.2).mono hHeld.2.size) (by omega)) ?_
      rintro e wE2 ⟨v2, rfl, ho2, hop2⟩
      rw [← HZ2.out] at ho2
      have HB2 := hHeld.2.trans (hop2.mono hHeld.2.size)
      have ho2' := own_base ho2 hHeld.2.size
      obtain ⟨r2, q2, rfl, _, _⟩ := own_rd rfl ho2'
      have HO2 := Hid.mk ho2'
      clear ho2 ho2'
      go_wp2_with fail
      refine hK.out _ _ (⟨HC1.out _ HB2, HB2⟩) (fun hHeld => ?_)
      clear hK K
      try simp only [Act.put, sa, s0, s1]
      refine wpAnyH_ready (rs := [4]) (by kernel_rfl) (by simp) ?_
      refine (AllReadyH.cons (o := qb34_61_4_4) rfl (fun K hK => ?_) AllReadyH.nil)
      · go_simp
        obtain ⟨wE4, hq4⟩ : ∃ x, x = wE2.alloc (.cells #[.int .u8 0] 5) := ⟨_, rfl⟩
        have hop4 : Below wE2.heap.size wE2 wE4 := by rw [hq4]; exact (Below.refl _ _).alloc (Nat.le_refl _) _
        have HB4 := hHeld.2.trans (hop4.mono hHeld.2.size)
        obtain ⟨g4, HG4⟩ : ∃ g, Hid (g = wE2.heap.size) := ⟨_, rfl⟩
        have HR4 : Hid (Rd .u8 wE4.heap.size wE4 (some ⟨g4, 0, none⟩) [0]) := by unfold Hid; rw [HG4.out, hq4]; simpa using rd_one .u8 wE2 0 5
        rw [← HG4.out]
        rw [← hq4]
        clear hq4
        refine hK.out _ _ (⟨HC1.out _ HB4, HB4⟩) (fun hHeld => ?_)
        clear hK K
        try simp only [Act.put, sa, s0, s1]
        refine wpAnyH_ready (rs := [5]) (by kernel_rfl) (by simp) ?_
        refine (AllReadyH.cons (o := qb34_61_4_5) rfl (fun K hK => ?_) AllReadyH.nil)
        · skip
          have HO5 := Hid.mk (own_below HO2.out (show Below wE2.heap.size wE2 wE4 from bthen (Below.refl _ _) hop4))
          refine step_append_src wE4 rfl _ _ 22 22 rfl wq.heap.size 5 i0 (.int .u8 0) 1 1 Tryd.underlying22 HI.out.1 HI.out.2.1 HI.out.2.2.1 HI.out.2.2.2 rfl (.slice r2 z2.length q2) z2.length (z2.map (Value.int .u8)) rfl HO5.out (.slice (some ⟨g4, 0, none⟩) 1 1) rfl 1 ([0].map (Value.int .u8)) (Src.rd Tryd.underlying22 rfl (HR4.out.below (show Below wE4.heap.size wE4 wE4 from Below.refl _ _))) (by unfold maxLen; omega) (by omega) hHeld.2.size ?_
          intro v5 wE5 ho5 hgr5 hat5
          have HB5 : Below wq.heap.size wq wE5 := hHeld.2.grown hgr5 hHeld.2.size (fun k h => (HO5.out.lt k h).1)
          have ho6 : wE5.ownsRow wq.heap.size 5 1 v5 z4.length (z4.map (Value.int .u8)) := own_congr ho5 (by rw [HZ4.out, HG2.out]; simp) (by rw [HZ4.out, HG2.out]; simp)
          obtain ⟨r5, q5, rfl, _, hr5⟩ := own_rd rfl ho6
          clear ho5 hgr5 hat5 ho6
          refine hK.out _ _ (⟨HC1.out _ HB5, HB5⟩) (fun hHeld => ?_)
          clear hK K
          try simp only [Act.put, sa, s0, s1]
          refine wpAnyH_ready (rs := [8]) (by kernel_rfl) (by simp) ?_
          refine (AllReadyH.cons (o := qb34_61_4_8) rfl (fun K hK => ?_) AllReadyH.nil)
          · go_simp
            refine Calls.mono (implPutText_R r5 _ q5 z4 p.fVal wE5 rfl (by omega) hr5 (by omega)) ?_
            rintro e wE8 ⟨v8, rfl, ho8, hop8⟩
            have HB8 := hHeld.2.trans (hop8.mono hHeld.2.size)
            have HO8 := Hid.mk (own_base ho8 (Nat.le_trans hbq.size hHeld.2.size))
            clear ho8
            go_wp2_with fail
            refine hK.out _ _ (⟨HC1.out _ HB8, HB8⟩) (fun hHeld => ?_)
            clear hK K
            try simp only [Act.put, sa, s0, s1]
            refine tk 9 qb34_61_4_9 (some 6) (v := ?v6) rfl rfl (by kernel_rfl) hHeld (by rfl) (fun _ _ _ x => x) (fun w h => ?y6) ?_; (case y6 => (try dsimp only at h); go_simp; try (with_reducible rfl)); try simp only [Act.put, sa, s0, s1]
            refine wpAnyH_done (by kernel_rfl) ?_ _
            go_wp2_with fail
            go_ret
            exact ⟨v8, rfl, by have h := HO8.out; rw [HZ4.out, HZ2.out] at h; exact h, hbq.trans (HB8.mono hbq.size)⟩
    · go_simp
      obtain ⟨wE4, hq4⟩ : ∃ x, x = wS.alloc (.cells #[.int .u8 0] 5) := ⟨_, rfl⟩
      have hop4 : Below wS.heap.size wS wE4 := by rw [hq4]; exact (Below.refl _ _).alloc (Nat.le_refl _) _
      have HB4 := hHeld.2.trans (hop4.mono hHeld.2.size)
      obtain ⟨g4, HG4⟩ : ∃ g, Hid (g = wS.heap.size) := ⟨_, rfl⟩
      have HR4 : Hid (Rd .u8 wE4.heap.size wE4 (some ⟨g4, 0, none⟩) [0]) := by unfold Hid; rw [HG4.out, hq4]; simpa using rd_one .u8 wS 0 5
      rw [← HG4.out]
      rw [← hq4]
      clear hq4
      refine hK.out _ _ (⟨HC1.out _ HB4, HB4⟩) (fun hHeld => ?_)
      clear hK K
      try simp only [Act.put, sa, s0, s1]
      refine wpAnyH_ready (rs := [2]) (by kernel_rfl) (by simp) ?_
      refine (AllReadyH.cons (o := qb34_61_4_2) rfl (fun K hK => ?_) AllReadyH.nil)
      · go_simp
        refine Calls.mono (implPutText_R a n cap zs s wE4 HX.out (by omega) ((HR.out.below hHeld.2).mono hHeld.2.size) (by omega)) ?_
        rintro e wE2 ⟨v2, rfl, ho2, hop2⟩
        rw [← HZ2.out] at ho2
        have HB2 := hHeld.2.trans (hop2.mono hHeld.2.size)
        have ho2' := own_base ho2 hHeld.2.size
        obtain ⟨r2, q2, rfl, _, _⟩ := own_rd rfl ho2'
        have HO2 := Hid.mk ho2'
        clear ho2 ho2'
        go_wp2_with fail
        refine hK.out _ _ (⟨HC1.out _ HB2, HB2⟩) (fun hHeld => ?_)
        clear hK K
        try simp only [Act.put, sa, s0, s1]
        refine wpAnyH_ready (rs := [5]) (by kernel_rfl) (by simp) ?_
        refine (AllReadyH.cons (o := qb34_61_4_5) rfl (fun K hK => ?_) AllReadyH.nil)
        · skip
          have HO5 := Hid.mk (own_below HO2.out (show Below wE2.heap.size wE2 wE2 from Below.refl _ _))
          refine step_append_src wE2 rfl _ _ 22 22 rfl wq.heap.size 5 i0 (.int .u8 0) 1 1 Tryd.underlying22 HI.out.1 HI.out.2.1 HI.out.2.2.1 HI.out.2.2.2 rfl (.slice r2 z2.length q2) z2.length (z2.map (Value.int .u8)) rfl HO5.out (.slice (some ⟨g4, 0, none⟩) 1 1) rfl 1 ([0].map (Value.int .u8)) (Src.rd Tryd.underlying22 rfl (HR4.out.below (show Below wE4.heap.size wE4 wE2 from bthen (Below.refl _ _) hop2))) (by unfold maxLen; omega) (by omega) hHeld.2.size ?_
          intro v5 wE5 ho5 hgr5 hat5
          have HB5 : Below wq.heap.size wq wE5 := hHeld.2.grown hgr5 hHeld.2.size (fun k h => (HO5.out.lt k h).1)
          have ho6 : wE5.ownsRow wq.heap.size 5 1 v5 z4.length (z4.map (Value.int .u8)) := own_congr ho5 (by rw [HZ4.out, HG2.out]; simp) (by rw [HZ4.out, HG2.out]; simp)
          obtain ⟨r5, q5, rfl, _, hr5⟩ := own_rd rfl ho6
          clear ho5 hgr5 hat5 ho6
          refine hK.out _ _ (⟨HC1.out _ HB5, HB5⟩) (fun hHeld => ?_)
          clear hK K
          try simp only [Act.put, sa, s0, s1]
          refine wpAnyH_ready (rs := [8]) (by kernel_rfl) (by simp) ?_
          refine (AllReadyH.cons (o := qb34_61_4_8) rfl (fun K hK => ?_) AllReadyH.nil)
          · go_simp
            refine Calls.mono (implPutText_R r5 _ q5 z4 p.fVal wE5 rfl (by omega) hr5 (by omega)) ?_
            rintro e wE8 ⟨v8, rfl, ho8, hop8⟩
            have HB8 := hHeld.2.trans (hop8.mono hHeld.2.size)
            have HO8 := Hid.mk (own_base ho8 (Nat.le_trans hbq.size hHeld.2.size))
            clear ho8
            go_wp2_with fail
            refine hK.out _ _ (⟨HC1.out _ HB8, HB8⟩) (fun hHeld => ?_)
            clear hK K
            try simp only [Act.put, sa, s0, s1]
            refine tk 9 qb34_61_4_9 (some 6) (v := ?v7) rfl rfl (by kernel_rfl) hHeld (by rfl) (fun _ _ _ x => x) (fun w h => ?y7) ?_; (case y7 => (try dsimp only at h); go_simp; try (with_reducible rfl)); try simp only [Act.put, sa, s0, s1]
            refine wpAnyH_done (by kernel_rfl) ?_ _
            go_wp2_with fail
            go_ret
            exact ⟨v8, rfl, by have h := HO8.out; rw [HZ4.out, HZ2.out] at h; exact h, hbq.trans (HB8.mono hbq.size)⟩
  · rw [hgo] at HWQ
    go_wp2_with fail
    rw [← HWQ.out]
    have HG2 : Hid (goneI p = 1) := by unfold Hid; rw [HG.out, hgo]; rfl
    rw [hgo] at k2
    go_wp2_with fail
    refine wp_region_held_drew (S := fun W => W.cell? ⟨w.heap.size, 1, none⟩ = some (.string p.fVal) ∧ Below wq.heap.size wq W) (by kernel_rfl) (⟨k1, Below.drew (Below.refl _ _)⟩) (fun hHeld => ?_)
    obtain ⟨wS, hwS⟩ : ∃ wS, wS = wq.drew := ⟨_, rfl⟩
    rw [← hwS] at hHeld ⊢
    clear hwS
    refine tk 0 qb34_61_4_0 (some 10) (v := ?v8) rfl rfl (by kernel_rfl) hHeld (by rfl) (fun _ _ _ x => x) (fun w h => ?y8) ?_; (case y8 => (try dsimp only at h); go_simp; try (with_reducible rfl)); try simp only [Act.put, sa, s0, s1]
    refine tk 1 qb34_61_4_1 (some 11) (v := ?v9) rfl rfl (by kernel_rfl) hHeld (by rfl) (fun _ _ _ x => x) (fun w h => ?y9) ?_; (case y9 => (try dsimp only at h); go_simp; try (with_reducible rfl)); try simp only [Act.put, sa, s0, s1]
    refine tk 3 qb34_61_4_3 (some 13) (v := ?v10) rfl rfl (by kernel_rfl) hHeld (by rfl) (fun _ _ _ x => x) (fun w h => ?y10) ?_; (case y10 => (try dsimp only at h); go_simp; try (with_reducible rfl)); try simp only [Act.put, sa, s0, s1]
    refine tk 6 qb34_61_4_6 (some 16) (v := ?v11) rfl rfl (by kernel_rfl) hHeld (by rfl) (fun _ _ _ x => x) (fun w h => ?y11) ?_; (case y11 => (try dsimp only at h); go_simp; try (with_reducible rfl)); try simp only [Act.put, sa, s0, s1]
    refine tk 7 qb34_61_4_7 (some 17) (v := ?v12) rfl rfl (by kernel_rfl) hHeld (by rfl) (fun _ _ _ x => x) (fun w h => ?y12) ?_; (case y12 => (try dsimp only at h); go_simp; try (with_reducible rfl)); try simp only [Act.put, sa, s0, s1]
    refine wpAnyH_ready (rs := [2, 4]) (by kernel_rfl) (by simp) ?_
    refine (AllReadyH.cons (o := qb34_61_4_2) rfl (fun K hK => ?_) (AllReadyH.cons (o := qb34_61_4_4) rfl (fun K hK => ?_) AllReadyH.nil))
    · go_simp
      refine Calls.mono (implPutText_R a n cap zs s wS HX.out (by omega) ((HR.out.below hHeld.2).mono hHeld.2.size) (by omega)) ?_
      rintro e wE2 ⟨v2, rfl, ho2, hop2⟩
      rw [← HZ2.out] at ho2
      have HB2 := hHeld.2.trans (hop2.mono hHeld.2.size)
      have ho2' := own_base ho2 hHeld.2.size
      obtain ⟨r2, q2, rfl, _, _⟩ := own_rd rfl ho2'
      have HO2 := Hid.mk ho2'
      clear ho2 ho2'
      go_wp2_with fail
      refine hK.out _ _ (⟨HC1.out _ HB2, HB2⟩) (fun hHeld => ?_)
      clear hK K
      try simp only [Act.put, sa, s0, s1]
      refine wpAnyH_ready (rs := [4]) (by kernel_rfl) (by simp) ?_
      refine (AllReadyH.cons (o := qb34_61_4_4) rfl (fun K hK => ?_) AllReadyH.nil)
      · go_simp
        obtain ⟨wE4, hq4⟩ : ∃ x, x = wE2.alloc (.cells #[.int .u8 1] 5) := ⟨_, rfl⟩
        have hop4 : Below wE2.heap.size wE2 wE4 := by rw [hq4]; exact (Below.refl _ _).alloc (Nat.le_refl _) _
        have HB4 := hHeld.2.trans (hop4.mono hHeld.2.size)
        obtain ⟨g4, HG4⟩ : ∃ g, Hid (g = wE2.heap.size) := ⟨_, rfl⟩
        have HR4 : Hid (Rd .u8 wE4.heap.size wE4 (some ⟨g4, 0, none⟩) [1]) := by unfold Hid; rw [HG4.out, hq4]; simpa using rd_one .u8 wE2 1 5
        rw [← HG4.out]
        rw [← hq4]
        clear hq4
        refine hK.out _ _ (⟨HC1.out _ HB4, HB4⟩) (fun hHeld => ?_)
        clear hK K
        try simp only [Act.put, sa, s0, s1]
        refine wpAnyH_ready (rs := [5]) (by kernel_rfl) (by simp) ?_
        refine (AllReadyH.cons (o := qb34_61_4_5) rfl (fun K hK => ?_) AllReadyH.nil)
        · skip
          have HO5 := Hid.mk (own_below HO2.out (show Below wE2.heap.size wE2 wE4 from bthen (Below.refl _ _) hop4))
          refine step_append_src wE4 rfl _ _ 22 22 rfl wq.heap.size 5 i0 (.int .u8 0) 1 1 Tryd.underlying22 HI.out.1 HI.out.2.1 HI.out.2.2.1 HI.out.2.2.2 rfl (.slice r2 z2.length q2) z2.length (z2.map (Value.int .u8)) rfl HO5.out (.slice (some ⟨g4, 0, none⟩) 1 1) rfl 1 ([1].map (Value.int .u8)) (Src.rd Tryd.underlying22 rfl (HR4.out.below (show Below wE4.heap.size wE4 wE4 from Below.refl _ _))) (by unfold maxLen; omega) (by omega) hHeld.2.size ?_
          intro v5 wE5 ho5 hgr5 hat5
          have HB5 : Below wq.heap.size wq wE5 := hHeld.2.grown hgr5 hHeld.2.size (fun k h => (HO5.out.lt k h).1)
          have ho6 : wE5.ownsRow wq.heap.size 5 1 v5 z4.length (z4.map (Value.int .u8)) := own_congr ho5 (by rw [HZ4.out, HG2.out]; simp) (by rw [HZ4.out, HG2.out]; simp)
          obtain ⟨r5, q5, rfl, _, hr5⟩ := own_rd rfl ho6
          clear ho5 hgr5 hat5 ho6
          refine hK.out _ _ (⟨HC1.out _ HB5, HB5⟩) (fun hHeld => ?_)
          clear hK K
          try simp only [Act.put, sa, s0, s1]
          refine wpAnyH_ready (rs := [8]) (by kernel_rfl) (by simp) ?_
          refine (AllReadyH.cons (o := qb34_61_4_8) rfl (fun K hK => ?_) AllReadyH.nil)
          · go_simp
            refine Calls.mono (implPutText_R r5 _ q5 z4 p.fVal wE5 rfl (by omega) hr5 (by omega)) ?_
            rintro e wE8 ⟨v8, rfl, ho8, hop8⟩
            have HB8 := hHeld.2.trans (hop8.mono hHeld.2.size)
            have HO8 := Hid.mk (own_base ho8 (Nat.le_trans hbq.size hHeld.2.size))
            clear ho8
            go_wp2_with fail
            refine hK.out _ _ (⟨HC1.out _ HB8, HB8⟩) (fun hHeld => ?_)
            clear hK K
            try simp only [Act.put, sa, s0, s1]
            refine tk 9 qb34_61_4_9 (some 6) (v := ?v13) rfl rfl (by kernel_rfl) hHeld (by rfl) (fun _ _ _ x => x) (fun w h => ?y13) ?_; (case y13 => (try dsimp only at h); go_simp; try (with_reducible rfl)); try simp only [Act.put, sa, s0, s1]
            refine wpAnyH_done (by kernel_rfl) ?_ _
            go_wp2_with fail
            go_ret
            exact ⟨v8, rfl, by have h := HO8.out; rw [HZ4.out, HZ2.out] at h; exact h, hbq.trans (HB8.mono hbq.size)⟩
    · go_simp
      obtain ⟨wE4, hq4⟩ : ∃ x, x = wS.alloc (.cells #[.int .u8 1] 5) := ⟨_, rfl⟩
      have hop4 : Below wS.heap.size wS wE4 := by rw [hq4]; exact (Below.refl _ _).alloc (Nat.le_refl _) _
      have HB4 := hHeld.2.trans (hop4.mono hHeld.2.size)
      obtain ⟨g4, HG4⟩ : ∃ g, Hid (g = wS.heap.size) := ⟨_, rfl⟩
      have HR4 : Hid (Rd .u8 wE4.heap.size wE4 (some ⟨g4, 0, none⟩) [1]) := by unfold Hid; rw [HG4.out, hq4]; simpa using rd_one .u8 wS 1 5
      rw [← HG4.out]
      rw [← hq4]
      clear hq4
      refine hK.out _ _ (⟨HC1.out _ HB4, HB4⟩) (fun hHeld => ?_)
      clear hK K
      try simp only [Act.put, sa, s0, s1]
      refine wpAnyH_ready (rs := [2]) (by kernel_rfl) (by simp) ?_
      refine (AllReadyH.cons (o := qb34_61_4_2) rfl (fun K hK => ?_) AllReadyH.nil)
      · go_simp
        refine Calls.mono (implPutText_R a n cap zs s wE4 HX.out (by omega) ((HR.out.below hHeld.2).mono hHeld.2.size) (by omega)) ?_
        rintro e wE2 ⟨v2, rfl, ho2, hop2⟩
        rw [← HZ2.out] at ho2
        have HB2 := hHeld.2.trans (hop2.mono hHeld.2.size)
        have ho2' := own_base ho2 hHeld.2.size
        obtain ⟨r2, q2, rfl, _, _⟩ := own_rd rfl ho2'
        have HO2 := Hid.mk ho2'
        clear ho2 ho2'
        go_wp2_with fail
        refine hK.out _ _ (⟨HC1.out _ HB2, HB2⟩) (fun hHeld => ?_)
        clear hK K
        try simp only [Act.put, sa, s0, s1]
        refine wpAnyH_ready (rs := [5]) (by kernel_rfl) (by simp) ?_
        refine (AllReadyH.cons (o := qb34_61_4_5) rfl (fun K hK => ?_) AllReadyH.nil)
        · skip
          have HO5 := Hid.mk (own_below HO2.out (show Below wE2.heap.size wE2 wE2 from Below.refl _ _))
          refine step_append_src wE2 rfl _ _ 22 22 rfl wq.heap.size 5 i0 (.int .u8 0) 1 1 Tryd.underlying22 HI.out.1 HI.out.2.1 HI.out.2.2.1 HI.out.2.2.2 rfl (.slice r2 z2.length q2) z2.length (z2.map (Value.int .u8)) rfl HO5.out (.slice (some ⟨g4, 0, none⟩) 1 1) rfl 1 ([1].map (Value.int .u8)) (Src.rd Tryd.underlying22 rfl (HR4.out.below (show Below wE4.heap.size wE4 wE2 from bthen (Below.refl _ _) hop2))) (by unfold maxLen; omega) (by omega) hHeld.2.size ?_
          intro v5 wE5 ho5 hgr5 hat5
          have HB5 : Below wq.heap.size wq wE5 := hHeld.2.grown hgr5 hHeld.2.size (fun k h => (HO5.out.lt k h).1)
          have ho6 : wE5.ownsRow wq.heap.size 5 1 v5 z4.length (z4.map (Value.int .u8)) := own_congr ho5 (by rw [HZ4.out, HG2.out]; simp) (by rw [HZ4.out, HG2.out]; simp)
          obtain ⟨r5, q5, rfl, _, hr5⟩ := own_rd rfl ho6
          clear ho5 hgr5 hat5 ho6
          refine hK.out _ _ (⟨HC1.out _ HB5, HB5⟩) (fun hHeld => ?_)
          clear hK K
          try simp only [Act.put, sa, s0, s1]
          refine wpAnyH_ready (rs := [8]) (by kernel_rfl) (by simp) ?_
          refine (AllReadyH.cons (o := qb34_61_4_8) rfl (fun K hK => ?_) AllReadyH.nil)
          · go_simp
            refine Calls.mono (implPutText_R r5 _ q5 z4 p.fVal wE5 rfl (by omega) hr5 (by omega)) ?_
            rintro e wE8 ⟨v8, rfl, ho8, hop8⟩
            have HB8 := hHeld.2.trans (hop8.mono hHeld.2.size)
            have HO8 := Hid.mk (own_base ho8 (Nat.le_trans hbq.size hHeld.2.size))
            clear ho8
            go_wp2_with fail
            refine hK.out _ _ (⟨HC1.out _ HB8, HB8⟩) (fun hHeld => ?_)
            clear hK K
            try simp only [Act.put, sa, s0, s1]
            refine tk 9 qb34_61_4_9 (some 6) (v := ?v14) rfl rfl (by kernel_rfl) hHeld (by rfl) (fun _ _ _ x => x) (fun w h => ?y14) ?_; (case y14 => (try dsimp only at h); go_simp; try (with_reducible rfl)); try simp only [Act.put, sa, s0, s1]
            refine wpAnyH_done (by kernel_rfl) ?_ _
            go_wp2_with fail
            go_ret
            exact ⟨v8, rfl, by have h := HO8.out; rw [HZ4.out, HZ2.out] at h; exact h, hbq.trans (HB8.mono hbq.size)⟩

end Go.Proofs.YtocgbeoglgkibaaDoor
