/-
  Part 10 of the texts that the proof leans on.
-/
import Derived.Test.YtocgbeoglgkibaaDoorTbp8
import Derived.Laws.BytesArg
set_option linter.unusedVariables false
set_option linter.unusedSimpArgs false
set_option maxRecDepth 10000

namespace Go.Proofs.YtocgbeoglgkibaaDoor
open Go.RowKit

theorem getNum_at {N : Int} (h0 : 0 ≤ N) (h1 : N ≤ 1000000000) (pre r : List Int) : getNum (pre ++ (putNum N ++ r)) (pre.length : Nat) = (N, ((pre.length + (putNum N).length : Nat) : Int), true) := by
  have h := getNum_put h0 h1 pre r
  rw [List.append_assoc] at h
  rw [h]
  simp
theorem getText_at (pre ts r : List Int) (h : ts.length ≤ 1000000000) : getText (pre ++ (putNum (ts.length : Int) ++ (ts ++ r))) (pre.length : Nat) = (ts, ((pre.length + (putNum (ts.length : Int)).length + ts.length : Nat) : Int), true) := by
  have hg := getNum_at (N := (ts.length : Int)) (by omega) (by omega) pre (ts ++ r)
  rw [getText_yes hg (by simp; omega)]
  have e : (List.drop (pre.length + (putNum (ts.length : Int)).length) (pre ++ (putNum (ts.length : Int) ++ (ts ++ r)))).take ts.length = ts := by
    rw [← List.append_assoc pre, List.drop_left' (by simp), List.take_left' rfl]
  rw [e]
theorem rd4_at (pre r : List Int) {x : Int} (h0 : 0 ≤ x) (h1 : x < 4294967296) : rd4 (pre ++ (four x ++ r)) pre.length = x := by
  have g : ∀ j, (pre ++ (four x ++ r)).getD (pre.length + j) 0 = (four x ++ r).getD j 0 := by
    intro j
    rw [List.getD_eq_getElem?_getD, List.getD_eq_getElem?_getD, List.getElem?_append_right (by omega)]
    congr 2
    omega
  have g0 := g 0
  have g1 := g 1
  have g2 := g 2
  have g3 := g 3
  rw [Nat.add_zero] at g0
  unfold rd4
  rw [g0, g1, g2, g3]
  show x / 16777216 * 16777216 + x / 65536 % 256 * 65536 + x / 256 % 256 * 256 + x % 256 = x
  omega
theorem unframe_at (pre t bs : List Int) (hb : BytesOk bs) (h : bs.length ≤ 1000000000) : unframe (pre ++ (frame bs ++ t)) (pre.length : Nat) = (bs, ((pre.length + (frame bs).length : Nat) : Int), true) := by
  have hc := crc_bd hb
  have e : pre ++ (frame bs ++ t) = (pre ++ four (crc bs)) ++ (putNum (bs.length : Int) ++ (bs ++ t)) := by
    unfold frame
    rw [clampN_in (by omega) (by omega)]
    simp
  have ht := getText_at (pre ++ four (crc bs)) bs t h
  rw [← e] at ht
  have e2 : (((pre ++ four (crc bs)).length : Nat) : Int) = ((pre.length : Nat) : Int) + 4 := by simp [four]
  rw [e2] at ht
  have hr : rd4 (pre ++ (frame bs ++ t)) pre.length = crc bs := by
    have h := rd4_at pre (putNum (bs.length : Int) ++ (bs ++ t)) hc.1 hc.2
    rw [e, List.append_assoc]
    exact h
  have hl : (frame bs).length = 4 + (putNum (bs.length : Int)).length + bs.length := by
    unfold frame
    rw [clampN_in (by omega) (by omega)]
    simp [four]
    omega
  rw [unframe_yes (by simp; omega) ht hr.symm]
  refine Prod.ext rfl (Prod.ext ?_ rfl)
  show (((pre ++ four (crc bs)).length + (putNum (bs.length : Int)).length + bs.length : Nat) : Int) = _
  rw [hl]
  simp [four]
  omega

theorem strOf_ints (s : ByteArray) : strOfNums (strInts s) = s := by
  apply ByteArray.ext
  apply Array.ext'
  show ((strInts s).map fun n => UInt8.ofNat n.toNat).toArray.toList = s.data.toList
  simp only [strInts, List.map_map]
  rw [List.map_congr_left (g := id)]
  · simp
  · intro b _
    simp

/-- A pair that is read of a body at a place, behind a key: the specification's way. -/
def spStep (body : List Int) (k : Int) (last : ByteArray) : Option (MPair × Int) :=
  let g := getNum body k
  let t := getText body g.2.1
  let v := getText body (t.2.1 + 1)
  if g.2.2 = true ∧ t.2.2 = true ∧ g.1 ≤ last.size ∧ t.2.1 < body.length ∧ body.getD t.2.1.toNat 0 ≤ 1 ∧ v.2.2 = true then
    some (⟨last.extract 0 g.1.toNat ++ strOfNums t.1, strOfNums v.1, decide (body.getD t.2.1.toNat 0 = 1)⟩, v.2.1)
  else none
def spGo (body : List Int) : Nat → Int → ByteArray → List MPair → List MPair × Bool
  | 0, _, _, out => (out, true)
  | f + 1, k, last, out => if (body.length : Int) ≤ k then (out, true) else match spStep body k last with
    | none => (out, false)
    | some (p, e) => spGo body f e p.fKey (out ++ [p])
def prsS (body : List Int) : List MPair × Bool := spGo body (body.length + 1) 0 ByteArray.empty []

/-- The key's first bytes, and the rest of it. -/
theorem com_back (a b : ByteArray) : a.extract 0 (com a b) ++ b.extract (com a b) b.size = b := by
  have key : ∀ x y : List UInt8, x.take (comL x y) ++ y.drop (comL x y) = y := by
    intro x
    induction x with
    | nil => intro y; cases y <;> simp [comL]
    | cons u us ih =>
      intro y
      cases y with
      | nil => simp [comL]
      | cons v vs =>
        simp only [comL]
        by_cases h : u = v
        · rw [if_pos h]
          subst h
          simp [ih vs]
        · rw [if_neg h]
          simp
  apply ByteArray.ext
  apply Array.ext'
  have h := key a.data.toList b.data.toList
  have hb : b.data.size = b.size := rfl
  simp only [ByteArray.data_append, ByteArray.data_extract, Array.toList_append, Array.toList_extract, List.extract_eq_take_drop, List.drop_zero, Nat.sub_zero]
  show List.take (com a b) a.data.toList ++ List.take (b.size - com a b) (List.drop (com a b) b.data.toList) = _
  have e2 : List.take (b.size - com a b) (List.drop (com a b) b.data.toList) = List.drop (com a b) b.data.toList := List.take_of_length_le (by rw [List.length_drop, Array.length_toList, hb]; omega)
  rw [e2]
  exact h

theorem sizeInts (s : ByteArray) : (s.size : Int) = ((strInts s).length : Int) := by rw [strInts_length]
/-- The bytes of a pair, one thing behind the other. -/
theorem pairB_lay (last : ByteArray) (p : MPair) (h1 : p.fKey.size ≤ 1000000) (h2 : p.fVal.size ≤ 1000000) : pairB last p =
    putNum (com last p.fKey : Int) ++ (putNum ((strInts (p.fKey.extract (com last p.fKey) p.fKey.size)).length : Int) ++ (strInts (p.fKey.extract (com last p.fKey) p.fKey.size) ++ ([goneI p] ++ (putNum ((strInts p.fVal).length : Int) ++ strInts p.fVal)))) := by
  have hc := com_le last p.fKey
  have hx := ext_size p.fKey (com last p.fKey)
  unfold pairB putText
  rw [clampN_in (by omega) (by omega), clampN_in (by omega) (by omega), clampN_in (by omega) (by omega), sizeInts, sizeInts]
  simp
theorem goneI_le (p : MPair) : goneI p ≤ 1 := by unfold goneI; split <;> omega
theorem goneI_on (p : MPair) : decide (goneI p = 1) = p.fGone := by unfold goneI; cases p.fGone <;> simp

theorem spStep_pair (pre r : List Int) (last : ByteArray) (p : MPair) (h1 : p.fKey.size ≤ 1000000) (h2 : p.fVal.size ≤ 1000000) :
    spStep (pre ++ (pairB last p ++ r)) (pre.length : Nat) last = some (p, ((pre.length + (pairB last p).length : Nat) : Int)) := by
  have hc := com_le last p.fKey
  have hx := ext_size p.fKey (com last p.fKey)
  have hxl : (strInts (p.fKey.extract (com last p.fKey) p.fKey.size)).length ≤ 1000000 := by rw [strInts_length]; omega
  have hvl : (strInts p.fVal).length ≤ 1000000 := by rw [strInts_length]; omega
  rw [pairB_lay last p h1 h2]
  have HB := com_back last p.fKey
  have HS := strOf_ints (p.fKey.extract (com last p.fKey) p.fKey.size)
  have HV := strOf_ints p.fVal
  generalize hrs : strInts (p.fKey.extract (com last p.fKey) p.fKey.size) = rs at *
  generalize hvs : strInts p.fVal = vs at *
  generalize hcc : com last p.fKey = c at *
  have n1 := getNum_at (N := (c : Int)) (by omega) (by omega) pre (putNum (rs.length : Int) ++ (rs ++ ([goneI p] ++ (putNum (vs.length : Int) ++ (vs ++ r)))))
  have t1 := getText_at (pre ++ putNum (c : Int)) rs ([goneI p] ++ (putNum (vs.length : Int) ++ (vs ++ r))) (by omega)
  have t2 := getText_at (pre ++ putNum (c : Int) ++ putNum (rs.length : Int) ++ rs ++ [goneI p]) vs r (by omega)
  obtain ⟨body, hbody⟩ : ∃ body, body = pre ++ ((putNum (c : Int) ++ (putNum (rs.length : Int) ++ (rs ++ ([goneI p] ++ (putNum (vs.length : Int) ++ vs))))) ++ r) := ⟨_, rfl⟩
  have e1 : pre ++ (putNum (c : Int) ++ (putNum (rs.length : Int) ++ (rs ++ ([goneI p] ++ (putNum (vs.length : Int) ++ (vs ++ r)))))) = body := by rw [hbody]; simp
  have e2 : (pre ++ putNum (c : Int)) ++ (putNum (rs.length : Int) ++ (rs ++ ([goneI p] ++ (putNum (vs.length : Int) ++ (vs ++ r))))) = body := by rw [hbody]; simp
  have e3 : (pre ++ putNum (c : Int) ++ putNum (rs.length : Int) ++ rs ++ [goneI p]) ++ (putNum (vs.length : Int) ++ (vs ++ r)) = body := by rw [hbody]; simp
  rw [e1] at n1
  rw [e2] at t1
  rw [e3] at t2
  have e4 : (pre ++ putNum (c : Int) ++ putNum (rs.length : Int) ++ rs) ++ (goneI p :: (putNum (vs.length : Int) ++ (vs ++ r))) = body := by rw [hbody]; simp
  have hg : body.getD (pre.length + (putNum (c : Int)).length + (putNum (rs.length : Int)).length + rs.length) 0 = goneI p := by
    rw [← e4, List.getD_eq_getElem?_getD, List.getElem?_append_right (by simp; omega)]
    simp
    rw [show pre.length + (putNum (c : Int)).length + (putNum (rs.length : Int)).length + rs.length - (pre.length + ((putNum (c : Int)).length + ((putNum (rs.length : Int)).length + rs.length))) = 0 by omega]
    rfl
  have hl : body.length = pre.length + (putNum (c : Int)).length + (putNum (rs.length : Int)).length + rs.length + 1 + (putNum (vs.length : Int)).length + vs.length + r.length := by rw [hbody]; simp; omega
  rw [← hbody]
  unfold spStep
  simp only [List.length_append] at t1 t2
  rw [n1]
  simp only
  rw [t1]
  simp only
  have e5 : (((pre.length + (putNum (c : Int)).length + (putNum (rs.length : Int)).length + rs.length : Nat) : Int)) + 1 = ((pre.length + (putNum (c : Int)).length + (putNum (rs.length : Int)).length + rs.length + ([goneI p] : List Int).length : Nat) : Int) := by simp
  rw [e5, t2]
  simp only [Int.toNat_natCast]
  simp only [hg]
  rw [if_pos ⟨trivial, trivial, by omega, by omega, goneI_le p, trivial⟩]
  rw [HS, HV, HB, goneI_on]
  refine congrArg some (Prod.ext rfl ?_)
  simp
  omega

theorem spGo_block (rest : List MPair) : ∀ (f : Nat) (pre : List Int) (last : ByteArray) (out : List MPair) (hf : rest.length < f) (hs : ∀ p, p ∈ rest → p.fKey.size ≤ 1000000 ∧ p.fVal.size ≤ 1000000),
    spGo (pre ++ blockB last rest) f (pre.length : Nat) last out = (out ++ rest, true) := by
  induction rest with
  | nil =>
    intro f pre last out hf hs
    cases f with
    | zero => omega
    | succ f => simp [spGo, blockB]
  | cons p rest ih =>
    intro f pre last out hf hs
    cases f with
    | zero => omega
    | succ f =>
      obtain ⟨h1, h2⟩ := hs p (by simp)
      have hst := spStep_pair pre (blockB p.fKey rest) last p h1 h2
      have hpos : 0 < (pairB last p).length := by rw [pairB_lay last p h1 h2]; simp; omega
      rw [blockB, spGo, hst, if_neg (by simp; omega)]
      have h := ih f (pre ++ pairB last p) p.fKey (out ++ [p]) (by simp at hf; omega) (fun q hq => hs q (by simp [hq]))
      rw [List.append_assoc, List.length_append] at h
      refine Eq.trans h ?_
      simp

theorem prsS_block (l : List MPair) (hs : ∀ p, p ∈ l → p.fKey.size ≤ 1000000 ∧ p.fVal.size ≤ 1000000) : prsS (blockB ByteArray.empty l) = (l, true) := by
  have hl : l.length ≤ (blockB ByteArray.empty l).length := by
    have : ∀ (k : ByteArray), l.length ≤ (blockB k l).length := by
      induction l with
      | nil => intro k; simp
      | cons p l ih =>
        intro k
        obtain ⟨h1, h2⟩ := hs p (by simp)
        have hpos : 0 < (pairB k p).length := by rw [pairB_lay k p h1 h2]; simp; omega
        have := ih (fun q hq => hs q (by simp [hq])) p.fKey
        rw [blockB, List.length_append, List.length_cons]
        omega
    exact this _
  have h := spGo_block l ((blockB ByteArray.empty l).length + 1) [] ByteArray.empty [] (by omega) hs
  simpa [prsS] using h


def ixStep (body : List Int) (k : Int) : Int × Int × Bool := ((getNum body (getText body k).2.1).1, (getNum body (getText body k).2.1).2.1, (getText body k).2.2 && (getNum body (getText body k).2.1).2.2)
def ixGo (body : List Int) (n : Int) : Nat → Int → Bool → List Int → List Int × Int × Bool
  | 0, k, is, ps => (ps, k, is)
  | f + 1, k, is, ps => if (ps.length : Int) < n ∧ is = true then ixGo body n f (ixStep body k).2.1 (ixStep body k).2.2 (ps ++ [(ixStep body k).1]) else (ps, k, is)
def ixE (n : Int) (len : Nat) (r : List Int × Int × Bool) : List Int × Bool := (r.1, r.2.2 && decide ((r.1.length : Int) = n) && decide ((len : Int) - r.2.1 = 8))
def ixB (body : List Int) : List Int × Bool := ixE (getNum body 0).1 body.length (ixGo body (getNum body 0).1 100 (getNum body 0).2.1 (getNum body 0).2.2 [])
def ixS (zs : List Int) : List Int × Bool :=
  if zs.length < 4 then ([], false) else if (zs.length : Int) - 4 < rd4 zs (zs.length - 4) then ([], false)
  else if (unframe (zs.take (zs.length - 4)) (rd4 zs (zs.length - 4))).2.2 = true ∧ (unframe (zs.take (zs.length - 4)) (rd4 zs (zs.length - 4))).2.1 = (zs.length : Int) - 4 then ixB (unframe (zs.take (zs.length - 4)) (rd4 zs (zs.length - 4))).1
  else ([], false)
def prsAt (zs : List Int) (p : Int) : List MPair × Bool := if (unframe zs p).2.2 = true then prsS (unframe zs p).1 else ([], false)
def tpGo (zs : List Int) : List Int → List MPair → List MPair × Bool
  | [], out => (out, true)
  | p :: ps, out => if (prsAt zs p).2 = true then tpGo zs ps (out ++ (prsAt zs p).1) else (out ++ (prsAt zs p).1, false)
def tpE (zs : List Int) (r : List MPair × Bool) : List MPair × Bool := if r.2 = true ∧ tabP r.1 = zs then (r.1, true) else ([], false)
def tpS (zs : List Int) : List MPair × Bool := if (ixS zs).2 = true then tpE zs (tpGo zs (ixS zs).1 []) else ([], false)

theorem upFrom_mem : ∀ (l : List MPair) (pv : Option ByteArray), upFrom pv l = true → ∀ p, p ∈ l → pairOkP p = true := by
  intro l
  induction l with
  | nil => intro pv _ p hp; cases hp
  | cons q l ih =>
    intro pv h p hp
    simp only [upFrom, Bool.and_eq_true] at h
    rcases List.mem_cons.1 hp with rfl | hp
    · exact h.1.1
    · exact ih _ h.2 p hp
theorem tabOk_sizes {l : List MPair} (h : tabOk l = true) : ∀ p, p ∈ l → p.fKey.size ≤ 20 ∧ p.fVal.size ≤ 20 := by
  intro p hp
  unfold tabOk at h
  simp only [Bool.and_eq_true] at h
  have h1 := upFrom_mem l none h.1 p hp
  unfold pairOkP keyOkP at h1
  simp only [Bool.and_eq_true, decide_eq_true_eq] at h1
  exact ⟨h1.1.1.2, h1.1.2⟩
theorem tabOk_len {l : List MPair} (h : tabOk l = true) : 1 ≤ l.length ∧ l.length ≤ 200 := by
  unfold tabOk at h
  simp only [Bool.and_eq_true, decide_eq_true_eq] at h
  exact h.2
theorem tabOk_w {l : List MPair} (h : tabOk l = true) : sumW wPair l ≤ 8000 := by
  have h1 := tabOk_sizes h
  have h2 := (tabOk_len h).2
  have key : ∀ k : List MPair, (∀ p, p ∈ k → p.fKey.size ≤ 20 ∧ p.fVal.size ≤ 20) → sumW wPair k ≤ 40 * k.length := by
    intro k
    induction k with
    | nil => intro _; simp [sumW]
    | cons q k ih =>
      intro hk
      have g1 := ih (fun p hp => hk p (by simp [hp]))
      have g2 := hk q (by simp)
      have g3 : wPair q = q.fKey.size + q.fVal.size := rfl
      simp only [sumW, List.length_cons]
      omega
  have := key l h1
  omega

theorem outB_pre (l : List MPair) {i n : Nat} (h : i ≤ n) : ∃ r, outB l n = outB l i ++ r := by
  induction n with
  | zero => exact ⟨[], by have : i = 0 := by omega
                          subst this; simp⟩
  | succ n ih =>
    by_cases hi : i = n + 1
    · subst hi; exact ⟨[], by simp⟩
    · obtain ⟨r, hr⟩ := ih (by omega)
      exact ⟨r ++ frame (blockB ByteArray.empty (blk l n)), by rw [outB, hr, List.append_assoc]⟩
theorem idxB_pre (l : List MPair) {i n : Nat} (h : i ≤ n) : ∃ r, idxB l n = idxB l i ++ r := by
  induction n with
  | zero => exact ⟨[], by have : i = 0 := by omega
                          subst this; simp⟩
  | succ n ih =>
    by_cases hi : i = n + 1
    · subst hi; exact ⟨[], by simp⟩
    · obtain ⟨r, hr⟩ := ih (by omega)
      exact ⟨r ++ idx1 l n, by rw [idxB, hr, List.append_assoc]⟩
def plc (l : List MPair) (i : Nat) : List Int := (List.range i).map fun j => ((outB l j).length : Int)
theorem plc_succ (l : List MPair) (i : Nat) : plc l (i + 1) = plc l i ++ [((outB l i).length : Int)] := by simp [plc, List.range_succ]
theorem plc_length (l : List MPair) (i : Nat) : (plc l i).length = i := by simp [plc]
theorem lastK_few {l : List MPair} (h : ∀ p, p ∈ l → p.fKey.size ≤ 20 ∧ p.fVal.size ≤ 20) : (lastK ByteArray.empty l).size ≤ 20 := by
  have key : ∀ (l : List MPair) (k : ByteArray), k.size ≤ 20 → (∀ p, p ∈ l → p.fKey.size ≤ 20 ∧ p.fVal.size ≤ 20) → (lastK k l).size ≤ 20 := by
    intro l
    induction l with
    | nil => intro k hk _; exact hk
    | cons q l ih => intro k hk h; exact ih _ (h q (by simp)).1 (fun p hp => h p (by simp [hp]))
  exact key l _ (by decide) h
theorem blk_mem {l : List MPair} {i : Nat} {p : MPair} (h : p ∈ blk l i) : p ∈ l := List.mem_of_mem_drop (List.mem_of_mem_take h)

theorem ixStep_at {l : List MPair} (hs : ∀ p, p ∈ l → p.fKey.size ≤ 20 ∧ p.fVal.size ≤ 20) (i : Nat) (hO : (outB l i).length ≤ 1000000000) (P F : List Int) :
    ixStep (P ++ (idxB l i ++ (idx1 l i ++ F))) ((P.length + (idxB l i).length : Nat) : Int) = (((outB l i).length : Int), ((P.length + (idxB l (i + 1)).length : Nat) : Int), true) := by
  have hk := lastK_few (l := blk l i) (fun p hp => hs p (blk_mem hp))
  have hkl : (strInts (lastK ByteArray.empty (blk l i))).length ≤ 20 := by rw [strInts_length]; exact hk
  have e0 : idx1 l i = putNum ((strInts (lastK ByteArray.empty (blk l i))).length : Int) ++ (strInts (lastK ByteArray.empty (blk l i)) ++ putNum ((outB l i).length : Int)) := by
    unfold idx1 putText
    rw [clampN_in (by omega) (by omega), clampN_in (by omega) (by omega), sizeInts]
    simp
  have el : (idxB l (i + 1)).length = (idxB l i).length + (idx1 l i).length := by rw [idxB, List.length_append]
  rw [el, e0]
  generalize strInts (lastK ByteArray.empty (blk l i)) = ts at *
  have t := getText_at (P ++ idxB l i) ts (putNum ((outB l i).length : Int) ++ F) (by omega)
  have g := getNum_at (N := ((outB l i).length : Int)) (by omega) (by omega) (P ++ idxB l i ++ putNum (ts.length : Int) ++ ts) F
  have e1 : (P ++ idxB l i) ++ (putNum (ts.length : Int) ++ (ts ++ (putNum ((outB l i).length : Int) ++ F))) = P ++ (idxB l i ++ (putNum (ts.length : Int) ++ (ts ++ putNum ((outB l i).length : Int)) ++ F)) := by simp
  have e2 : (P ++ idxB l i ++ putNum (ts.length : Int) ++ ts) ++ (putNum ((outB l i).length : Int) ++ F) = P ++ (idxB l i ++ (putNum (ts.length : Int) ++ (ts ++ putNum ((outB l i).length : Int)) ++ F)) := by simp
  rw [e1] at t
  rw [e2] at g
  simp only [List.length_append] at t g
  unfold ixStep
  rw [t]
  simp only
  rw [g]
  refine Prod.ext rfl (Prod.ext ?_ rfl)
  simp
  omega

theorem ixGo_at {l : List MPair} (hs : ∀ p, p ∈ l → p.fKey.size ≤ 20 ∧ p.fVal.size ≤ 20) (n : Nat) (hO : ∀ i, i ≤ n → (outB l i).length ≤ 1000000000) (P F : List Int) :
    ∀ (d i f : Nat), i + d = n → d < f → ixGo (P ++ (idxB l n ++ F)) (n : Int) f ((P.length + (idxB l i).length : Nat) : Int) true (plc l i) = (plc l n, ((P.length + (idxB l n).length : Nat) : Int), true) := by
  intro d
  induction d with
  | zero =>
    intro i f hi hf
    obtain ⟨f, rfl⟩ : ∃ g, f = g + 1 := ⟨f - 1, by omega⟩
    have : i = n := by omega
    subst this
    rw [ixGo, if_neg (by rw [plc_length]; omega)]
  | succ d ih =>
    intro i f hi hf
    obtain ⟨f, rfl⟩ : ∃ g, f = g + 1 := ⟨f - 1, by omega⟩
    obtain ⟨r, hr⟩ := idxB_pre l (i := i + 1) (n := n) (by omega)
    have e : idxB l n = idxB l i ++ (idx1 l i ++ r) := by rw [hr, idxB, List.append_assoc]
    have hst := ixStep_at hs i (hO i (by omega)) P (r ++ F)
    have e2 : P ++ (idxB l i ++ (idx1 l i ++ (r ++ F))) = P ++ (idxB l n ++ F) := by rw [e]; simp
    rw [e2] at hst
    rw [ixGo, if_pos ⟨by rw [plc_length]; omega, rfl⟩, hst, ← plc_succ]
    exact ih (i + 1) f (by omega) (by omega)

theorem nBlk_le {l : List MPair} (h : tabOk l = true) : 1 ≤ nBlk l ∧ nBlk l ≤ 50 ∧ l.length ≤ 4 * nBlk l := by
  have := tabOk_len h
  unfold nBlk
  omega
theorem outB_little {l : List MPair} (h : tabOk l = true) (i : Nat) (hi : i ≤ nBlk l) : (outB l i).length ≤ 100000000 := by
  have h1 := outB_len (l := l) (by have := tabOk_w h; omega) i
  have h2 := nBlk_le h
  omega
theorem ixB_tab {l : List MPair} (h : tabOk l = true) : ixB (putNum (clampN (nBlk l)) ++ idxB l (nBlk l) ++ flt (keysP l)) = (plc l (nBlk l), true) := by
  have hn := nBlk_le h
  rw [clampN_in (by omega) (by omega)]
  have g := getNum_at (N := (nBlk l : Int)) (by omega) (by omega) [] (idxB l (nBlk l) ++ flt (keysP l))
  simp only [List.nil_append, List.length_nil, Nat.zero_add] at g
  have r := ixGo_at (tabOk_sizes h) (nBlk l) (fun i hi => by have := outB_little h i hi; omega) (putNum (nBlk l : Int)) (flt (keysP l)) (nBlk l) 0 100 (by omega) (by omega)
  have hp0 : plc l 0 = [] := rfl
  have hi0 : (idxB l 0).length = 0 := rfl
  rw [hp0, hi0, Nat.add_zero] at r
  unfold ixB
  rw [List.append_assoc]
  rw [show (0 : Int) = ((0 : Nat) : Int) from rfl, g]
  simp only
  rw [r]
  unfold ixE
  simp only [plc_length, List.length_append, flt_length]
  refine Prod.ext rfl ?_
  simp
  omega

theorem idx_ok (l : List MPair) : BytesOk (putNum (clampN (nBlk l)) ++ idxB l (nBlk l) ++ flt (keysP l)) := ((putNum_ok _).append (idxB_ok _ _)).append (flt_ok _)
theorem idx_little {l : List MPair} (h : tabOk l = true) : (putNum (clampN (nBlk l)) ++ idxB l (nBlk l) ++ flt (keysP l)).length ≤ 100000000 := by
  have h1 := idxB_len (l := l) (by have := tabOk_w h; omega) (nBlk l)
  have h2 := nBlk_le h
  have h3 := (putNum_length (clampN (nBlk l))).2
  simp only [List.length_append, flt_length]
  omega
theorem ixS_tab {l : List MPair} (h : tabOk l = true) : ixS (tabB l) = (plc l (nBlk l), true) := by
  have hO := outB_little h (nBlk l) (Nat.le_refl _)
  have hI := ixB_tab h
  have hIl := idx_little h
  have hIo := idx_ok l
  unfold tabB
  generalize putNum (clampN (nBlk l)) ++ idxB l (nBlk l) ++ flt (keysP l) = ix at *
  generalize outB l (nBlk l) = O at *
  have hr := rd4_at (O ++ frame ix) [] (x := (O.length : Int)) (by omega) (by omega)
  rw [List.append_nil] at hr
  have hu := unframe_at O [] ix hIo (by omega)
  rw [List.append_nil] at hu
  have hl : (O ++ frame ix ++ four (O.length : Int)).length - 4 = (O ++ frame ix).length := by simp [four_length]; omega
  have ht : (O ++ frame ix ++ four (O.length : Int)).take (O ++ frame ix).length = O ++ frame ix := List.take_left' rfl
  unfold ixS
  rw [hl, hr, ht, hu, if_neg (by simp [four_length]; omega), if_neg (by simp [four_length]; omega), if_pos ⟨rfl, by simp [four_length]; omega⟩]
  exact hI

theorem prsAt_tab {l : List MPair} (h : tabOk l = true) {i : Nat} (hi : i < nBlk l) (t : List Int) : prsAt (outB l (nBlk l) ++ t) ((outB l i).length : Int) = (blk l i, true) := by
  obtain ⟨r, hr⟩ := outB_pre l (i := i + 1) (n := nBlk l) (by omega)
  have e : outB l (nBlk l) ++ t = outB l i ++ (frame (blockB ByteArray.empty (blk l i)) ++ (r ++ t)) := by rw [hr, outB]; simp
  have hbl : (blockB ByteArray.empty (blk l i)).length ≤ 1000000000 := by
    have h1 := outB_little h (i + 1) (by omega)
    rw [outB, List.length_append] at h1
    unfold frame at h1
    simp only [List.length_append] at h1
    omega
  have hu := unframe_at (outB l i) (r ++ t) (blockB ByteArray.empty (blk l i)) (blockB_ok _ _) hbl
  unfold prsAt
  rw [e, hu, if_pos rfl]
  exact prsS_block (blk l i) (fun p hp => by have := tabOk_sizes h p (blk_mem hp); omega)
theorem take_blk (l : List MPair) (i : Nat) : l.take (4 * i) ++ blk l i = l.take (4 * (i + 1)) := by
  unfold blk
  rw [show 4 * (i + 1) = 4 * i + 4 by omega, List.take_add]
theorem tpGo_tab {l : List MPair} (h : tabOk l = true) (t : List Int) : ∀ (d i : Nat), i + d = nBlk l → tpGo (outB l (nBlk l) ++ t) ((plc l (nBlk l)).drop i) (l.take (4 * i)) = (l, true) := by
  intro d
  induction d with
  | zero =>
    intro i hi
    have : i = nBlk l := by omega
    subst this
    rw [List.drop_of_length_le (by rw [plc_length]; omega), tpGo, List.take_of_length_le (nBlk_le h).2.2]
  | succ d ih =>
    intro i hi
    have hil : i < (plc l (nBlk l)).length := by rw [plc_length]; omega
    have e : (plc l (nBlk l))[i] = ((outB l i).length : Int) := by simp [plc]
    rw [List.drop_eq_getElem_cons hil, tpGo, e, prsAt_tab h (by omega) t, if_pos rfl, take_blk]
    exact ih (i + 1) (by omega)
theorem tpS_yes {l : List MPair} {zs : List Int} (h : tabOk l = true) (hz : tabB l = zs) : tpS zs = (l, true) := by
  subst hz
  have e : tabB l = outB l (nBlk l) ++ (frame (putNum (clampN (nBlk l)) ++ idxB l (nBlk l) ++ flt (keysP l)) ++ four (outB l (nBlk l)).length) := by unfold tabB; simp
  have hg := tpGo_tab h (frame (putNum (clampN (nBlk l)) ++ idxB l (nBlk l) ++ flt (keysP l)) ++ four (outB l (nBlk l)).length) (nBlk l) 0 (by omega)
  rw [← e] at hg
  simp only [List.drop_zero, Nat.mul_zero, List.take_zero] at hg
  have hp : tabP l = tabB l := by unfold tabP; rw [if_pos h]
  unfold tpS
  rw [ixS_tab h, if_pos rfl, hg]
  unfold tpE
  rw [if_pos ⟨rfl, hp⟩]
theorem ixS_long {zs : List Int} (h : (ixS zs).2 = true) : 4 ≤ zs.length := by
  by_cases h4 : zs.length < 4
  · unfold ixS at h; rw [if_pos h4] at h; cases h
  · omega
theorem tpS_cases (zs : List Int) : (tpS zs = ([], false)) ∨ (∃ l, tabOk l = true ∧ tabB l = zs ∧ tpS zs = (l, true)) := by
  by_cases hx : (ixS zs).2 = true
  · have hl := ixS_long hx
    by_cases hr : (tpGo zs (ixS zs).1 []).2 = true ∧ tabP (tpGo zs (ixS zs).1 []).1 = zs
    · by_cases ho : tabOk (tpGo zs (ixS zs).1 []).1 = true
      · right
        refine ⟨(tpGo zs (ixS zs).1 []).1, ho, ?_, ?_⟩
        · have h2 := hr.2
          unfold tabP at h2
          rwa [if_pos ho] at h2
        · unfold tpS tpE
          rw [if_pos hx, if_pos hr]
      · have h2 := hr.2
        unfold tabP at h2
        rw [if_neg ho] at h2
        rw [← h2] at hl
        simp at hl
    · left
      unfold tpS tpE
      rw [if_pos hx, if_neg hr]
  · left
    unfold tpS
    rw [if_neg hx]
theorem tpS_no {zs : List Int} (h : ∀ l, tabOk l = true → tabB l ≠ zs) : tpS zs = ([], false) := by
  rcases tpS_cases zs with h1 | ⟨l, h1, h2, _⟩
  · exact h1
  · exact absurd h2 (h l h1)
theorem boundTablePairs_0 (zs : List Int) (h : zs.length ≤ 1048576) : wPs (tpS zs).1 ≤ 1099511627776 := by
  rcases tpS_cases zs with h1 | ⟨l, h1, h2, h3⟩
  · rw [h1]; simp [wPs, sumW]
  · rw [h3]
    have g1 := tabOk_w h1
    have g2 := tabOk_len h1
    show l.length + sumW wPair l ≤ _
    omega


theorem getText_ok {zs : List Int} (hb : BytesOk zs) (f m : Nat) : BytesOk ((zs.drop f).take m) := fun z hz => hb z (List.mem_of_mem_drop (List.mem_of_mem_take hz))

/-- What an Unframe answers: a slice that is owned, a place, a flag. -/
def UnfPost (w : World) (U : List Int × Int × Bool) (e : Ending) (w' : World) : Prop :=
  ∃ v, e = .returned (.tuple #[v, .int .i64 U.2.1, .bool U.2.2]) ∧ w'.ownsRow w.heap.size 5 1 v U.1.length (U.1.map (Value.int .u8)) ∧ Below w.heap.size w w'

theorem unf_empty {w w1 : World} {p : Int} (hb : Below w.heap.size w w1) : UnfPost w ([], p, false) (.returned (.tuple #[.slice (some ⟨w1.heap.size, 0, none⟩) 0 0, .int .i64 p, .bool false])) (w1.alloc (.cells #[] 5)) :=
  ⟨_, rfl, World.ownsRow_lit w1 #[] 0 hb.size (by decide) rfl, hb.alloc hb.size _⟩

theorem unf_nil {w w1 : World} {p : Int} (hb : Below w.heap.size w w1) : UnfPost w ([], p, false) (.returned (.tuple #[.slice none 0 0, .int .i64 p, .bool false])) w1 :=
  ⟨_, rfl, World.ownsRow_nil _ _ _ _, hb⟩

set_option maxHeartbeats 800000 in
theorem specUnframe_any (a : Option Addr) (n cap : Nat) (zs : List Int) (p : Int) (w : World) (hx : zs.length = n) (hlen : n ≤ 35184372088832) (hcap : n ≤ cap) (hb : BytesOk zs) (hr : Rd .u8 w.heap.size w a zs) :
    Calls Tryd.prog 23 #[.slice a n cap, .int .i64 p] w (UnfPost w (unframe zs p)) := by
  obtain ⟨i0, hi, hz0, hz1, hz2⟩ := info_parts Tryd.info5
  have HX : Hid (zs.length = n) := hx
  clear hx
  by_cases hout : p < 0 ∨ (n : Int) - 4 < p
  · have HV : Hid (unframe zs p = ([], p, false)) := unframe_out (by rw [HX.out]; exact hout)
    have hF := fourAt_no a n cap p w hout (by omega)
    clear hout
    go_enter Tryd.func23, Tryd.ntmps23
    go_wp2_with fail
    refine hF.mono ?_
    rintro e w1 ⟨rfl, rfl⟩
    go_wp2
    go_ret3
    rw [HV.out]
    exact unf_empty (Below.refl _ _)
  · obtain ⟨p, rfl⟩ := Int.eq_ofNat_of_zero_le (show 0 ≤ p by omega)
    have hp : p + 4 ≤ n := by omega
    clear hout
    have hF := fourAt_yes a n cap p zs w w.heap.size HX.out hp (by omega) hb hr
    have hN := fun d => specGetNum_any a n cap zs ((p : Int) + 4) (w.drewN d) w.heap.size HX.out (by omega) hb (by exact hr)
    go_enter Tryd.func23, Tryd.ntmps23
    go_wp2_with fail
    refine hF.mono ?_
    rintro e w1 ⟨rfl, d, rfl⟩
    have hB : Below w.heap.size w (w.drewN d) := below_drewN (Below.refl _ _) d
    go_wp2_with fail
    refine (hN d).mono ?_
    rintro e w2 ⟨rfl, rfl⟩
    clear hF hN
    rcases text_cases zs ((p : Int) + 4) with ⟨r0, r1, hR, hv⟩ | ⟨m, f, hR, hf, hm, hout, hv⟩ | ⟨m, f, hR, hf, hm, hin, hv⟩
    · have HV := Hid.mk (unframe_no (by rw [HX.out]; exact hp) hv)
      rw [hR]
      unfold numVal
      clear hR hv
      go_wp2
      go_ret3
      rw [HV.out]
      exact unf_empty hB
    · have HV := Hid.mk (unframe_no (by rw [HX.out]; exact hp) hv)
      rw [hR]
      unfold numVal
      clear hR hv
      rw [HX.out] at hf hout
      go_wp2
      go_ret3
      rw [HV.out]
      exact unf_empty hB
    · have HYes := fun h => Hid.mk (unframe_yes (by rw [HX.out]; exact hp) hv h)
      have HNo := fun h => Hid.mk (unframe_sum (by rw [HX.out]; exact hp) hv h)
      rw [hR]
      unfold numVal
      clear hR hv
      have hbody := getText_ok hb f m
      have hbl : ((zs.drop f).take m).length = m := take_drop_length hin
      obtain ⟨b1, o1, rfl, _, _⟩ := hr 0 (by omega)
      have hsub : Rd .u8 w.heap.size w (some ⟨b1, o1 + f, none⟩) ((zs.drop f).take m) := hr.sub hin
      generalize hBody : (zs.drop f).take m = body at hbody hbl hsub HYes HNo
      clear hBody
      have HBL := Hid.mk hbl
      clear hbl
      rw [HX.out] at hin
      by_cases hcf : cap = f
      · subst hcf
        obtain rfl : m = 0 := by omega
        go_wp2_with (at_builtin; refine wpList_append_src _ rfl _ _ 22 22 rfl w.heap.size 5 i0 (.int .u8 0) 1 1 Tryd.underlying22 hi hz0 hz1 hz2 rfl (.slice (some ⟨w.heap.size, 0, none⟩) 0 0) 0 [] rfl (own_drewN (d := d) (World.ownsRow_lit w #[] 0 (Nat.le_refl _) (by decide) rfl)) 0 (body.map (Value.int .u8)) (Src.rd Tryd.underlying22 HBL.out (by rw [List.eq_nil_of_length_eq_zero HBL.out]; exact Rd.nil (B := 0))) (by unfold maxLen; omega) (by omega) (by simp) ?_)
        intro v3 w3 hown3 hgr3
        have hB3 : Below w.heap.size w w3 := (below_drewN ((Below.refl _ _).alloc (Nat.le_refl _) _) d).grown hgr3 (by simp) (fun k h => by simp [Value.ownBlock] at h; omega)
        have hown3' : w3.ownsRow w.heap.size 5 1 v3 body.length (body.map (Value.int .u8)) := own_congr hown3 (by have h := HBL.out; omega) (by simp)
        clear hown3 hgr3
        obtain ⟨a3, c3, rfl, _, hq3⟩ := own_rd rfl hown3'
        have hcb := crc_bd hbody
        have hrb := rd4_bd hb p
        go_wp2_with fail
        refine (specSum_any a3 body.length c3 body w3 w3.heap.size rfl (by rw [HBL.out]; omega) hbody hq3).mono ?_
        rintro e w4 ⟨rfl, rfl⟩
        by_cases hc : crc body = rd4 zs p
        · have HV := HYes hc
          have hcb' : (crc body != rd4 zs p) = false := by simp [hc]
          clear HYes HNo hc
          generalize crc body = C1 at *
          generalize rd4 zs p = C2 at *
          go_wp2
          go_ret3
          rw [HV.out]
          exact ⟨_, rfl, hown3', hB3⟩
        · have HV := HNo hc
          have hcb' : (crc body != rd4 zs p) = true := by simp [hc]
          clear HYes HNo hc
          generalize crc body = C1 at *
          generalize rd4 zs p = C2 at *
          go_wp2
          go_ret3
          rw [HV.out]
          exact unf_empty hB3
      · go_wp2_with (at_builtin; (try rw [Nat.add_sub_cancel_left]); refine wpList_append_src _ rfl _ _ 22 22 rfl w.heap.size 5 i0 (.int .u8 0) 1 1 Tryd.underlying22 hi hz0 hz1 hz2 rfl (.slice (some ⟨w.heap.size, 0, none⟩) 0 0) 0 [] rfl (own_drewN (d := d) (World.ownsRow_lit w #[] 0 (Nat.le_refl _) (by decide) rfl)) m (body.map (Value.int .u8)) (Src.rd Tryd.underlying22 HBL.out (hsub.below (hB.alloc (by simp) _))) (by unfold maxLen; omega) (by omega) (by simp) ?_)
        intro v3 w3 hown3 hgr3
        have hB3 : Below w.heap.size w w3 := (below_drewN ((Below.refl _ _).alloc (Nat.le_refl _) _) d).grown hgr3 (by simp) (fun k h => by simp [Value.ownBlock] at h; omega)
        have hown3' : w3.ownsRow w.heap.size 5 1 v3 body.length (body.map (Value.int .u8)) := own_congr hown3 (by have h := HBL.out; omega) (by simp)
        clear hown3 hgr3
        obtain ⟨a3, c3, rfl, _, hq3⟩ := own_rd rfl hown3'
        have hcb := crc_bd hbody
        have hrb := rd4_bd hb p
        go_wp2_with fail
        refine (specSum_any a3 body.length c3 body w3 w3.heap.size rfl (by rw [HBL.out]; omega) hbody hq3).mono ?_
        rintro e w4 ⟨rfl, rfl⟩
        by_cases hc : crc body = rd4 zs p
        · have HV := HYes hc
          have hcb' : (crc body != rd4 zs p) = false := by simp [hc]
          clear HYes HNo hc
          generalize crc body = C1 at *
          generalize rd4 zs p = C2 at *
          go_wp2
          go_ret3
          rw [HV.out]
          exact ⟨_, rfl, hown3', hB3⟩
        · have HV := HNo hc
          have hcb' : (crc body != rd4 zs p) = true := by simp [hc]
          clear HYes HNo hc
          generalize crc body = C1 at *
          generalize rd4 zs p = C2 at *
          go_wp2
          go_ret3
          rw [HV.out]
          exact unf_empty hB3


set_option maxHeartbeats 800000 in
theorem implUnframe_any (a : Option Addr) (n cap : Nat) (zs : List Int) (p : Int) (w : World) (hx : zs.length = n) (hlen : n ≤ 35184372088832) (hcap : n ≤ cap) (hb : BytesOk zs) (hr : Rd .u8 w.heap.size w a zs) (ht : TabAt w) :
    Calls Tryd.prog 51 #[.slice a n cap, .int .i64 p] w (UnfPost w (unframe zs p)) := by
  obtain ⟨i0, hi, hz0, hz1, hz2⟩ := info_parts Tryd.info5
  have HX : Hid (zs.length = n) := hx
  clear hx
  have hsz : 0 < w.heap.size := ht.size
  by_cases hout : p < 0 ∨ (n : Int) - 4 < p
  · have HV : Hid (unframe zs p = ([], p, false)) := unframe_out (by rw [HX.out]; exact hout)
    by_cases h0 : p < 0
    · clear hout
      go_enter Tryd.func51, Tryd.ntmps51
      go_wp2
      go_ret3
      rw [HV.out]
      exact unf_nil (Below.refl _ _)
    · have h1 : (n : Int) - 4 < p := by omega
      clear hout
      go_enter Tryd.func51, Tryd.ntmps51
      go_wp2
      go_ret3
      rw [HV.out]
      exact unf_nil (Below.refl _ _)
  · obtain ⟨p, rfl⟩ := Int.eq_ofNat_of_zero_le (show 0 ≤ p by omega)
    have hp : p + 4 ≤ n := by omega
    clear hout
    have hN := implGetNum_any a n cap zs ((p : Int) + 4) w w.heap.size HX.out (by omega) hb hr
    go_enter Tryd.func51, Tryd.ntmps51
    go_wp2_with fail
    refine hN.mono ?_
    rintro e w1 ⟨rfl, rfl⟩
    clear hN
    rcases text_cases zs ((p : Int) + 4) with ⟨r0, r1, hR, hv⟩ | ⟨m, f, hR, hf, hm, hout, hv⟩ | ⟨m, f, hR, hf, hm, hin, hv⟩
    · have HV := Hid.mk (unframe_no (by rw [HX.out]; exact hp) hv)
      rw [hR]
      unfold numVal
      clear hR hv
      go_wp2
      go_ret3
      rw [HV.out]
      exact unf_nil (Below.refl _ _)
    · have HV := Hid.mk (unframe_no (by rw [HX.out]; exact hp) hv)
      rw [hR]
      unfold numVal
      clear hR hv
      rw [HX.out] at hf hout
      go_wp2
      go_ret3
      rw [HV.out]
      exact unf_nil (Below.refl _ _)
    · have HYes := fun h => Hid.mk (unframe_yes (by rw [HX.out]; exact hp) hv h)
      have HNo := fun h => Hid.mk (unframe_sum (by rw [HX.out]; exact hp) hv h)
      rw [hR]
      unfold numVal
      clear hR hv
      have hbody := getText_ok hb f m
      have hbl : ((zs.drop f).take m).length = m := take_drop_length hin
      obtain ⟨b1, o1, rfl, _, _⟩ := hr 0 (by omega)
      have hsub : Rd .u8 w1.heap.size w1 (some ⟨b1, o1 + f, none⟩) ((zs.drop f).take (n - f)) := hr.sub (by have := HX.out; omega)
      have hfour : Rd .u8 w1.heap.size w1 (some ⟨b1, o1 + p, none⟩) ((zs.drop p).take 4) := hr.sub (by rw [HX.out]; exact hp)
      have h4l : ((zs.drop p).take 4).length = 4 := take_drop_length (by rw [HX.out]; exact hp)
      have h4b := getText_ok hb p 4
      have HR4 := Hid.mk (rdN_four (zs := zs) (p := p) (by rw [HX.out]; exact hp))
      have hsubl : ((zs.drop f).take (n - f)).length = n - f := take_drop_length (by have := HX.out; omega)
      have HBody : Hid (((zs.drop f).take (n - f)).take m = (zs.drop f).take m) := by
        unfold Hid
        rw [List.take_take, Nat.min_eq_left (by have := HX.out; omega)]
      generalize (zs.drop f).take (n - f) = src at hsub hsubl HBody
      generalize (zs.drop f).take m = body at hbody hbl HYes HNo HBody
      generalize (zs.drop p).take 4 = fr at hfour h4l h4b HR4
      rw [HX.out] at hin
      have hcapf : f < cap ∨ (cap = f ∧ m = 0 ∧ n = f) := by omega
      have HBL := Hid.mk hbl
      have HSL := Hid.mk hsubl
      have H4L := Hid.mk h4l
      clear hbl hsubl h4l
      rcases hcapf with hcf | ⟨hc1, hc2, hc3⟩
      · have hcf' : ¬ cap = f := by omega
        go_wp2_with (at_make; refine wpList_make_full _ rfl _ _ 22 rfl w1.heap.size 5 i0 (.int .u8 0) 1 Tryd.underlying22 hi hz0 hz1 .i64 .i64 _ _ m rfl rfl rfl rfl (by rw [hz2]; omega) (by unfold maxLen; omega) (Nat.le_refl _) ?_)
        intro w2 hown2 hgr2
        have hB2 : Below w1.heap.size w1 w2 := (Below.refl _ _).grown hgr2 (Nat.le_refl _) (fun k h => by cases h)
        clear hgr2
        go_wp2_with (refine wpList_copy_le rfl _ _ 22 22 rfl 5 i0 Tryd.underlying22 hi hz1 w1.heap.size w1.heap.size m m (n - f) (cap - f) (some ⟨b1, o1 + f, none⟩) rfl rfl _ hown2 .u8 src w1.heap.size HSL.out (by omega) (hsub.below hB2) ?_)
        intro w3 hown3 hgr3
        have hB3 : Below w1.heap.size w1 w3 := hB2.grown hgr3 hB2.size (fun k h => by simp at h; omega)
        rw [← List.map_take, HBody.out] at hown3
        clear hgr3 hown2 hB2
        have hq3 := Rd.own HBL.out hown3
        have ht3 := ht.below hB3 hsz
        have hf3 := hfour.below hB3
        by_cases hc : crc body = rd4 zs p
        · have HV := HYes hc
          have hcb : (crc body != rdN fr) = false := by rw [HR4.out]; simp [hc]
          clear HYes HNo hc
          go_wp2_with fail
          go_quiet (first | (go_at_call 59; exact Calls.quiet_of_same (implSum_any _ m m body _ _ HBL.out (by omega) hbody (by exact hq3) (by exact ht3))) | (go_at_call 50; exact Calls.quiet_of_same (readFour_any _ _ fr _ _ H4L.out h4b (by exact hf3))))
          go_wp2
          go_ret3
          rw [HV.out]
          exact ⟨_, rfl, own_drewN (own_congr hown3 HBL.out.symm rfl), below_drewN hB3 _⟩
        · have HV := HNo hc
          have hcb : (crc body != rdN fr) = true := by rw [HR4.out]; simp [hc]
          clear HYes HNo hc
          go_wp2_with fail
          go_quiet (first | (go_at_call 59; exact Calls.quiet_of_same (implSum_any _ m m body _ _ HBL.out (by omega) hbody (by exact hq3) (by exact ht3))) | (go_at_call 50; exact Calls.quiet_of_same (readFour_any _ _ fr _ _ H4L.out h4b (by exact hf3))))
          go_wp2
          go_ret3
          rw [HV.out]
          exact unf_nil (below_drewN hB3 _)
      · subst hc1
        subst hc2
        subst hc3
        have hsrc : src = [] := List.eq_nil_of_length_eq_zero (by rw [HSL.out]; omega)
        subst hsrc
        go_wp2_with (at_make; refine wpList_make_full _ rfl _ _ 22 rfl w1.heap.size 5 i0 (.int .u8 0) 1 Tryd.underlying22 hi hz0 hz1 .i64 .i64 _ _ 0 rfl rfl rfl rfl (by rw [hz2]; omega) (by unfold maxLen; omega) (Nat.le_refl _) ?_)
        intro w2 hown2 hgr2
        have hB2 : Below w1.heap.size w1 w2 := (Below.refl _ _).grown hgr2 (Nat.le_refl _) (fun k h => by cases h)
        clear hgr2
        go_wp2_with (refine wpList_copy_le rfl _ _ 22 22 rfl 5 i0 Tryd.underlying22 hi hz1 w1.heap.size w1.heap.size 0 0 0 0 (some ⟨b1, o1, none⟩) rfl rfl _ hown2 .u8 [] 0 rfl (by omega) Rd.nil ?_)
        intro w3 hown3 hgr3
        have hB3 : Below w1.heap.size w1 w3 := hB2.grown hgr3 hB2.size (fun k h => by simp at h; omega)
        have hbn : body = [] := List.eq_nil_of_length_eq_zero HBL.out
        clear hgr3 hown2 hB2
        have hq3 : Rd .u8 w3.heap.size w3 (some ⟨w1.heap.size, 0, none⟩) body := by rw [hbn]; exact Rd.nil
        have hown3' : w3.ownsRow w1.heap.size 5 1 (.slice (some ⟨w1.heap.size, 0, none⟩) 0 0) body.length (body.map (Value.int .u8)) := by rw [hbn]; exact hown3
        clear hbn
        have ht3 := ht.below hB3 hsz
        have hf3 := hfour.below hB3
        by_cases hc : crc body = rd4 zs p
        · have HV := HYes hc
          have hcb : (crc body != rdN fr) = false := by rw [HR4.out]; simp [hc]
          clear HYes HNo hc
          go_wp2_with fail
          go_quiet (first | (go_at_call 59; exact Calls.quiet_of_same (implSum_any _ 0 0 body _ _ HBL.out (by omega) hbody (by exact hq3) (by exact ht3))) | (go_at_call 50; exact Calls.quiet_of_same (readFour_any _ _ fr _ _ H4L.out h4b (by exact hf3))))
          go_wp2
          go_ret3
          rw [HV.out]
          exact ⟨_, rfl, own_drewN hown3', below_drewN hB3 _⟩
        · have HV := HNo hc
          have hcb : (crc body != rdN fr) = true := by rw [HR4.out]; simp [hc]
          clear HYes HNo hc
          go_wp2_with fail
          go_quiet (first | (go_at_call 59; exact Calls.quiet_of_same (implSum_any _ 0 0 body _ _ HBL.out (by omega) hbody (by exact hq3) (by exact ht3))) | (go_at_call 50; exact Calls.quiet_of_same (readFour_any _ _ fr _ _ H4L.out h4b (by exact hf3))))
          go_wp2
          go_ret3
          rw [HV.out]
          exact unf_nil (below_drewN hB3 _)

theorem unframe_len (zs : List Int) (p : Int) : (unframe zs p).1.length ≤ zs.length := by
  unfold unframe getText
  split
  · simp
  · split
    · split
      · simp; omega
      · simp
    · simp


def textVal (r : List Int × Int × Bool) : Value := .tuple #[.string (strOfNums r.1), .int .i64 r.2.1, .bool r.2.2]

theorem conv_part {b1 o1 c m f B : Nat} {zs : List Int} {w : World} {a : Option Addr} (hin : f + m ≤ zs.length) (hra : Rd .u8 B w a zs) (ha : a = some ⟨b1, o1, none⟩) :
    (convert 22 9 (.slice (some ⟨b1, o1 + f, none⟩) m c)).run Tryd.prog w = .ok (.string (strOfNums ((zs.drop f).take m))) w :=
  run_convert_bytes_arg w 22 5 Tryd.underlying22 Tryd.underlying5 b1 (o1 + f) m c _ (take_drop_length hin) (fun i hi => by
    obtain ⟨b2, o2, e, _, hc⟩ := hra (f + i) (by omega)
    rw [ha] at e
    simp only [Option.some.injEq, Addr.mk.injEq, and_true] at e
    obtain ⟨rfl, rfl⟩ := e
    rw [take_drop_getD hi, Nat.add_assoc]
    exact hc) 9 Tryd.underlying9

theorem conv_none (w : World) (b1 o1 c : Nat) :
    (convert 22 9 (.slice (some ⟨b1, o1, none⟩) 0 c)).run Tryd.prog w = .ok (.string (strOfNums [])) w :=
  run_convert_bytes_arg w 22 5 Tryd.underlying22 Tryd.underlying5 b1 o1 0 c [] rfl (fun i hi => by omega) 9 Tryd.underlying9

set_option maxHeartbeats 400000 in
theorem specGetText_any (a : Option Addr) (n cap : Nat) (zs : List Int) (p : Int) (w : World) (B : Nat) (hx : zs.length = n) (hlen : n ≤ 140737488351232) (hcap : n ≤ cap) (hb : BytesOk zs) (hra : Rd .u8 B w a zs) :
    Calls Tryd.prog 25 #[.slice a n cap, .int .i64 p] w fun e w' => e = .returned (textVal (getText zs p)) ∧ w' = w := by
  have HX : Hid (zs.length = n) := hx
  clear hx
  go_enter Tryd.func25, Tryd.ntmps25
  go_wp2_with fail
  refine (specGetNum_any a n cap zs p _ B HX.out hlen hb hra).mono ?_
  rintro e w1 ⟨rfl, rfl⟩
  rcases text_cases zs p with ⟨r0, r1, hR, hv⟩ | ⟨m, f, hR, hf, hm, hout, hv⟩ | ⟨m, f, hR, hf, hm, hin, hv⟩
  all_goals
    rw [hR]
    have HV := Hid.mk hv
    clear hR hv
    unfold numVal
  · go_wp2
    go_ret3
    exact ⟨by rw [HV.out]; rfl, rfl⟩
  · rw [HX.out] at hf hout
    go_wp2
    go_ret3
    exact ⟨by rw [HV.out]; rfl, rfl⟩
  · have hcv := fun b1 o1 c => conv_part (b1 := b1) (o1 := o1) (c := c) (B := B) (w := w1) hin hra
    rw [HX.out] at hin
    obtain ⟨b1, o1, rfl, _, _⟩ := hra 0 (by rw [HX.out]; omega)
    have hcv := hcv b1 o1
    by_cases hcf : cap = f
    · subst hcf
      obtain rfl : m = 0 := by omega
      have hcn := conv_none w1 b1 o1 0
      clear hcv
      go_wp2
      go_ret3
      exact ⟨by rw [HV.out]; rfl, rfl⟩
    · have hcv := hcv (cap - f) rfl
      go_wp2
      go_ret3
      exact ⟨by rw [HV.out]; simp [textVal], rfl⟩

set_option maxHeartbeats 400000 in
theorem implGetText_any (a : Option Addr) (n cap : Nat) (zs : List Int) (p : Int) (w : World) (B : Nat) (hx : zs.length = n) (hlen : n ≤ 140737488351232) (hcap : n ≤ cap) (hb : BytesOk zs) (hra : Rd .u8 B w a zs) :
    Calls Tryd.prog 66 #[.slice a n cap, .int .i64 p] w fun e w' => e = .returned (textVal (getText zs p)) ∧ w' = w := by
  have HX : Hid (zs.length = n) := hx
  clear hx
  go_enter Tryd.func66, Tryd.ntmps66
  go_wp2_with fail
  refine (implGetNum_any a n cap zs p _ B HX.out hlen hb hra).mono ?_
  rintro e w1 ⟨rfl, rfl⟩
  rcases text_cases zs p with ⟨r0, r1, hR, hv⟩ | ⟨m, f, hR, hf, hm, hout, hv⟩ | ⟨m, f, hR, hf, hm, hin, hv⟩
  all_goals
    rw [hR]
    have HV := Hid.mk hv
    clear hR hv
    unfold numVal
  · go_wp2
    go_ret3
    exact ⟨by rw [HV.out]; rfl, rfl⟩
  · rw [HX.out] at hf hout
    go_wp2
    go_ret3
    exact ⟨by rw [HV.out]; rfl, rfl⟩
  · have hcv := fun b1 o1 c => conv_part (b1 := b1) (o1 := o1) (c := c) (B := B) (w := w1) hin hra
    rw [HX.out] at hin
    obtain ⟨b1, o1, rfl, _, _⟩ := hra 0 (by rw [HX.out]; omega)
    have hcv := hcv b1 o1
    by_cases hcf : cap = f
    · subst hcf
      obtain rfl : m = 0 := by omega
      have hcn := conv_none w1 b1 o1 0
      clear hcv
      go_wp2
      go_ret3
      exact ⟨by rw [HV.out]; rfl, rfl⟩
    · have hcv := hcv (cap - f) rfl
      go_wp2
      go_ret3
      exact ⟨by rw [HV.out]; simp [textVal], rfl⟩

end Go.Proofs.YtocgbeoglgkibaaDoor
