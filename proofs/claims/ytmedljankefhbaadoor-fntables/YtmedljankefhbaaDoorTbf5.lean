/-
  Part 6 of the texts that the proof leans on.
-/
import Derived.Test.YtmedljankefhbaaDoorTbf4
import Derived.Laws.BytesArg
import Derived.Test.YtmedljankefhbaaDoorTbf0
import Derived.Test.YtmedljankefhbaaDoorTbf2
set_option linter.unusedVariables false
set_option linter.unusedSimpArgs false
set_option maxRecDepth 10000

namespace Go.Proofs.YtmedljankefhbaaDoor
open Go.RowKit

def ixStep (body : List Int) (k : Int) : Int × Int × Bool := ((getNum body (getText body k).2.1).1, (getNum body (getText body k).2.1).2.1, (getText body k).2.2 && (getNum body (getText body k).2.1).2.2)
def ixGo (body : List Int) (n : Int) : Nat → Int → Bool → List Int → List Int × Int × Bool
  | 0, k, is, ps => (ps, k, is)
  | f + 1, k, is, ps => if (ps.length : Int) < n ∧ is = true then ixGo body n f (ixStep body k).2.1 (ixStep body k).2.2 (ps ++ [(ixStep body k).1]) else (ps, k, is)
def ixE (n : Int) (len : Nat) (r : List Int × Int × Bool) : List Int × Bool := (r.1, r.2.2 && decide ((r.1.length : Int) = n) && decide ((len : Int) - r.2.1 = 8))
def ixB (body : List Int) : List Int × Bool := ixE (getNum body 0).1 body.length (ixGo body (getNum body 0).1 100 (getNum body 0).2.1 (getNum body 0).2.2 [])
def ixS (zs : List Int) : List Int × Bool :=
  if zs.length < 4 then ([], false) else if (zs.length : Int) - 4 < rd4 zs (zs.length - 4) then ([], false)
  else if (unframe (zs.take (zs.length - 4)) (rd4 zs (zs.length - 4))).2.2 = true ∧ (unframe (zs.take (zs.length - 4)) (rd4 zs (zs.length - 4))).2.1 = (zs.length : Int) - 4 then ixB (unframe (zs.take (zs.length - 4)) (rd4 zs (zs.length - 4))).1
  else ([], false)
def prsAt (zs : List Int) (p : Int) : List MPair × Bool := if (unframe zs p).2.2 = true then prsS (unframe zs p).1 else ([], false)
def tpGo (zs : List Int) : List Int → List MPair → List MPair × Bool
  | [], out => (out, true)
  | p :: ps, out => if (prsAt zs p).2 = true then tpGo zs ps (out ++ (prsAt zs p).1) else (out ++ (prsAt zs p).1, false)
def tpE (zs : List Int) (r : List MPair × Bool) : List MPair × Bool := if r.2 = true ∧ tabP r.1 = zs then (r.1, true) else ([], false)
def tpS (zs : List Int) : List MPair × Bool := if (ixS zs).2 = true then tpE zs (tpGo zs (ixS zs).1 []) else ([], false)

theorem upFrom_mem : ∀ (l : List MPair) (pv : Option ByteArray), upFrom pv l = true → ∀ p, p ∈ l → pairOkP p = true := by
  intro l
  induction l with
  | nil => intro pv _ p hp; cases hp
  | cons q l ih =>
    intro pv h p hp
    simp only [upFrom, Bool.and_eq_true] at h
    rcases List.mem_cons.1 hp with rfl | hp
    · exact h.1.1
    · exact ih _ h.2 p hp
theorem tabOk_sizes {l : List MPair} (h : tabOk l = true) : ∀ p, p ∈ l → p.fKey.size ≤ 20 ∧ p.fVal.size ≤ 20 := by
  intro p hp
  unfold tabOk at h
  simp only [Bool.and_eq_true] at h
  have h1 := upFrom_mem l none h.1 p hp
  unfold pairOkP keyOkP at h1
  simp only [Bool.and_eq_true, decide_eq_true_eq] at h1
  exact ⟨h1.1.1.2, h1.1.2⟩
theorem tabOk_len {l : List MPair} (h : tabOk l = true) : 1 ≤ l.length ∧ l.length ≤ 200 := by
  unfold tabOk at h
  simp only [Bool.and_eq_true, decide_eq_true_eq] at h
  exact h.2
theorem tabOk_w {l : List MPair} (h : tabOk l = true) : sumW wPair l ≤ 8000 := by
  have h1 := tabOk_sizes h
  have h2 := (tabOk_len h).2
  have key : ∀ k : List MPair, (∀ p, p ∈ k → p.fKey.size ≤ 20 ∧ p.fVal.size ≤ 20) → sumW wPair k ≤ 40 * k.length := by
    intro k
    induction k with
    | nil => intro _; simp [sumW]
    | cons q k ih =>
      intro hk
      have g1 := ih (fun p hp => hk p (by simp [hp]))
      have g2 := hk q (by simp)
      have g3 : wPair q = q.fKey.size + q.fVal.size := rfl
      simp only [sumW, List.length_cons]
      omega
  have := key l h1
  omega

theorem outB_pre (l : List MPair) {i n : Nat} (h : i ≤ n) : ∃ r, outB l n = outB l i ++ r := by
  induction n with
  | zero => exact ⟨[], by have : i = 0 := by omega
                          subst this; simp⟩
  | succ n ih =>
    by_cases hi : i = n + 1
    · subst hi; exact ⟨[], by simp⟩
    · obtain ⟨r, hr⟩ := ih (by omega)
      exact ⟨r ++ frame (blockB ByteArray.empty (blk l n)), by rw [outB, hr, List.append_assoc]⟩
theorem idxB_pre (l : List MPair) {i n : Nat} (h : i ≤ n) : ∃ r, idxB l n = idxB l i ++ r := by
  induction n with
  | zero => exact ⟨[], by have : i = 0 := by omega
                          subst this; simp⟩
  | succ n ih =>
    by_cases hi : i = n + 1
    · subst hi; exact ⟨[], by simp⟩
    · obtain ⟨r, hr⟩ := ih (by omega)
      exact ⟨r ++ idx1 l n, by rw [idxB, hr, List.append_assoc]⟩
def plc (l : List MPair) (i : Nat) : List Int := (List.range i).map fun j => ((outB l j).length : Int)
theorem plc_succ (l : List MPair) (i : Nat) : plc l (i + 1) = plc l i ++ [((outB l i).length : Int)] := by simp [plc, List.range_succ]
theorem plc_length (l : List MPair) (i : Nat) : (plc l i).length = i := by simp [plc]
theorem lastK_few {l : List MPair} (h : ∀ p, p ∈ l → p.fKey.size ≤ 20 ∧ p.fVal.size ≤ 20) : (lastK ByteArray.empty l).size ≤ 20 := by
  have key : ∀ (l : List MPair) (k : ByteArray), k.size ≤ 20 → (∀ p, p ∈ l → p.fKey.size ≤ 20 ∧ p.fVal.size ≤ 20) → (lastK k l).size ≤ 20 := by
    intro l
    induction l with
    | nil => intro k hk _; exact hk
    | cons q l ih => intro k hk h; exact ih _ (h q (by simp)).1 (fun p hp => h p (by simp [hp]))
  exact key l _ (by decide) h
theorem blk_mem {l : List MPair} {i : Nat} {p : MPair} (h : p ∈ blk l i) : p ∈ l := List.mem_of_mem_drop (List.mem_of_mem_take h)

theorem ixStep_at {l : List MPair} (hs : ∀ p, p ∈ l → p.fKey.size ≤ 20 ∧ p.fVal.size ≤ 20) (i : Nat) (hO : (outB l i).length ≤ 1000000000) (P F : List Int) :
    ixStep (P ++ (idxB l i ++ (idx1 l i ++ F))) ((P.length + (idxB l i).length : Nat) : Int) = (((outB l i).length : Int), ((P.length + (idxB l (i + 1)).length : Nat) : Int), true) := by
  have hk := lastK_few (l := blk l i) (fun p hp => hs p (blk_mem hp))
  have hkl : (strInts (lastK ByteArray.empty (blk l i))).length ≤ 20 := by rw [strInts_length]; exact hk
  have e0 : idx1 l i = putNum ((strInts (lastK ByteArray.empty (blk l i))).length : Int) ++ (strInts (lastK ByteArray.empty (blk l i)) ++ putNum ((outB l i).length : Int)) := by
    unfold idx1 putText
    rw [clampN_in (by omega) (by omega), clampN_in (by omega) (by omega), sizeInts]
    simp
  have el : (idxB l (i + 1)).length = (idxB l i).length + (idx1 l i).length := by rw [idxB, List.length_append]
  rw [el, e0]
  generalize strInts (lastK ByteArray.empty (blk l i)) = ts at *
  have t := getText_at (P ++ idxB l i) ts (putNum ((outB l i).length : Int) ++ F) (by omega)
  have g := getNum_at (N := ((outB l i).length : Int)) (by omega) (by omega) (P ++ idxB l i ++ putNum (ts.length : Int) ++ ts) F
  have e1 : (P ++ idxB l i) ++ (putNum (ts.length : Int) ++ (ts ++ (putNum ((outB l i).length : Int) ++ F))) = P ++ (idxB l i ++ (putNum (ts.length : Int) ++ (ts ++ putNum ((outB l i).length : Int)) ++ F)) := by simp
  have e2 : (P ++ idxB l i ++ putNum (ts.length : Int) ++ ts) ++ (putNum ((outB l i).length : Int) ++ F) = P ++ (idxB l i ++ (putNum (ts.length : Int) ++ (ts ++ putNum ((outB l i).length : Int)) ++ F)) := by simp
  rw [e1] at t
  rw [e2] at g
  simp only [List.length_append] at t g
  unfold ixStep
  rw [t]
  simp only
  rw [g]
  refine Prod.ext rfl (Prod.ext ?_ rfl)
  simp
  omega

theorem ixGo_at {l : List MPair} (hs : ∀ p, p ∈ l → p.fKey.size ≤ 20 ∧ p.fVal.size ≤ 20) (n : Nat) (hO : ∀ i, i ≤ n → (outB l i).length ≤ 1000000000) (P F : List Int) :
    ∀ (d i f : Nat), i + d = n → d < f → ixGo (P ++ (idxB l n ++ F)) (n : Int) f ((P.length + (idxB l i).length : Nat) : Int) true (plc l i) = (plc l n, ((P.length + (idxB l n).length : Nat) : Int), true) := by
  intro d
  induction d with
  | zero =>
    intro i f hi hf
    obtain ⟨f, rfl⟩ : ∃ g, f = g + 1 := ⟨f - 1, by omega⟩
    have : i = n := by omega
    subst this
    rw [ixGo, if_neg (by rw [plc_length]; omega)]
  | succ d ih =>
    intro i f hi hf
    obtain ⟨f, rfl⟩ : ∃ g, f = g + 1 := ⟨f - 1, by omega⟩
    obtain ⟨r, hr⟩ := idxB_pre l (i := i + 1) (n := n) (by omega)
    have e : idxB l n = idxB l i ++ (idx1 l i ++ r) := by rw [hr, idxB, List.append_assoc]
    have hst := ixStep_at hs i (hO i (by omega)) P (r ++ F)
    have e2 : P ++ (idxB l i ++ (idx1 l i ++ (r ++ F))) = P ++ (idxB l n ++ F) := by rw [e]; simp
    rw [e2] at hst
    rw [ixGo, if_pos ⟨by rw [plc_length]; omega, rfl⟩, hst, ← plc_succ]
    exact ih (i + 1) f (by omega) (by omega)

theorem nBlk_le {l : List MPair} (h : tabOk l = true) : 1 ≤ nBlk l ∧ nBlk l ≤ 50 ∧ l.length ≤ 4 * nBlk l := by
  have := tabOk_len h
  unfold nBlk
  omega
theorem outB_little {l : List MPair} (h : tabOk l = true) (i : Nat) (hi : i ≤ nBlk l) : (outB l i).length ≤ 100000000 := by
  have h1 := outB_len (l := l) (by have := tabOk_w h; omega) i
  have h2 := nBlk_le h
  omega
theorem ixB_tab {l : List MPair} (h : tabOk l = true) : ixB (putNum (clampN (nBlk l)) ++ idxB l (nBlk l) ++ flt (keysP l)) = (plc l (nBlk l), true) := by
  have hn := nBlk_le h
  rw [clampN_in (by omega) (by omega)]
  have g := getNum_at (N := (nBlk l : Int)) (by omega) (by omega) [] (idxB l (nBlk l) ++ flt (keysP l))
  simp only [List.nil_append, List.length_nil, Nat.zero_add] at g
  have r := ixGo_at (tabOk_sizes h) (nBlk l) (fun i hi => by have := outB_little h i hi; omega) (putNum (nBlk l : Int)) (flt (keysP l)) (nBlk l) 0 100 (by omega) (by omega)
  have hp0 : plc l 0 = [] := rfl
  have hi0 : (idxB l 0).length = 0 := rfl
  rw [hp0, hi0, Nat.add_zero] at r
  unfold ixB
  rw [List.append_assoc]
  rw [show (0 : Int) = ((0 : Nat) : Int) from rfl, g]
  simp only
  rw [r]
  unfold ixE
  simp only [plc_length, List.length_append, flt_length]
  refine Prod.ext rfl ?_
  simp
  omega

theorem idx_ok (l : List MPair) : BytesOk (putNum (clampN (nBlk l)) ++ idxB l (nBlk l) ++ flt (keysP l)) := ((putNum_ok _).append (idxB_ok _ _)).append (flt_ok _)
theorem idx_little {l : List MPair} (h : tabOk l = true) : (putNum (clampN (nBlk l)) ++ idxB l (nBlk l) ++ flt (keysP l)).length ≤ 100000000 := by
  have h1 := idxB_len (l := l) (by have := tabOk_w h; omega) (nBlk l)
  have h2 := nBlk_le h
  have h3 := (putNum_length (clampN (nBlk l))).2
  simp only [List.length_append, flt_length]
  omega
theorem ixS_tab {l : List MPair} (h : tabOk l = true) : ixS (tabB l) = (plc l (nBlk l), true) := by
  have hO := outB_little h (nBlk l) (Nat.le_refl _)
  have hI := ixB_tab h
  have hIl := idx_little h
  have hIo := idx_ok l
  unfold tabB
  generalize putNum (clampN (nBlk l)) ++ idxB l (nBlk l) ++ flt (keysP l) = ix at *
  generalize outB l (nBlk l) = O at *
  have hr := rd4_at (O ++ frame ix) [] (x := (O.length : Int)) (by omega) (by omega)
  rw [List.append_nil] at hr
  have hu := unframe_at O [] ix hIo (by omega)
  rw [List.append_nil] at hu
  have hl : (O ++ frame ix ++ four (O.length : Int)).length - 4 = (O ++ frame ix).length := by simp [four_length]; omega
  have ht : (O ++ frame ix ++ four (O.length : Int)).take (O ++ frame ix).length = O ++ frame ix := List.take_left' rfl
  unfold ixS
  rw [hl, hr, ht, hu, if_neg (by simp [four_length]; omega), if_neg (by simp [four_length]; omega), if_pos ⟨rfl, by simp [four_length]; omega⟩]
  exact hI

theorem prsAt_tab {l : List MPair} (h : tabOk l = true) {i : Nat} (hi : i < nBlk l) (t : List Int) : prsAt (outB l (nBlk l) ++ t) ((outB l i).length : Int) = (blk l i, true) := by
  obtain ⟨r, hr⟩ := outB_pre l (i := i + 1) (n := nBlk l) (by omega)
  have e : outB l (nBlk l) ++ t = outB l i ++ (frame (blockB ByteArray.empty (blk l i)) ++ (r ++ t)) := by rw [hr, outB]; simp
  have hbl : (blockB ByteArray.empty (blk l i)).length ≤ 1000000000 := by
    have h1 := outB_little h (i + 1) (by omega)
    rw [outB, List.length_append] at h1
    unfold frame at h1
    simp only [List.length_append] at h1
    omega
  have hu := unframe_at (outB l i) (r ++ t) (blockB ByteArray.empty (blk l i)) (blockB_ok _ _) hbl
  unfold prsAt
  rw [e, hu, if_pos rfl]
  exact prsS_block (blk l i) (fun p hp => by have := tabOk_sizes h p (blk_mem hp); omega)
theorem take_blk (l : List MPair) (i : Nat) : l.take (4 * i) ++ blk l i = l.take (4 * (i + 1)) := by
  unfold blk
  rw [show 4 * (i + 1) = 4 * i + 4 by omega, List.take_add]
theorem tpGo_tab {l : List MPair} (h : tabOk l = true) (t : List Int) : ∀ (d i : Nat), i + d = nBlk l → tpGo (outB l (nBlk l) ++ t) ((plc l (nBlk l)).drop i) (l.take (4 * i)) = (l, true) := by
  intro d
  induction d with
  | zero =>
    intro i hi
    have : i = nBlk l := by omega
    subst this
    rw [List.drop_of_length_le (by rw [plc_length]; omega), tpGo, List.take_of_length_le (nBlk_le h).2.2]
  | succ d ih =>
    intro i hi
    have hil : i < (plc l (nBlk l)).length := by rw [plc_length]; omega
    have e : (plc l (nBlk l))[i] = ((outB l i).length : Int) := by simp [plc]
    rw [List.drop_eq_getElem_cons hil, tpGo, e, prsAt_tab h (by omega) t, if_pos rfl, take_blk]
    exact ih (i + 1) (by omega)
theorem tpS_yes {l : List MPair} {zs : List Int} (h : tabOk l = true) (hz : tabB l = zs) : tpS zs = (l, true) := by
  subst hz
  have e : tabB l = outB l (nBlk l) ++ (frame (putNum (clampN (nBlk l)) ++ idxB l (nBlk l) ++ flt (keysP l)) ++ four (outB l (nBlk l)).length) := by unfold tabB; simp
  have hg := tpGo_tab h (frame (putNum (clampN (nBlk l)) ++ idxB l (nBlk l) ++ flt (keysP l)) ++ four (outB l (nBlk l)).length) (nBlk l) 0 (by omega)
  rw [← e] at hg
  simp only [List.drop_zero, Nat.mul_zero, List.take_zero] at hg
  have hp : tabP l = tabB l := by unfold tabP; rw [if_pos h]
  unfold tpS
  rw [ixS_tab h, if_pos rfl, hg]
  unfold tpE
  rw [if_pos ⟨rfl, hp⟩]
theorem ixS_long {zs : List Int} (h : (ixS zs).2 = true) : 4 ≤ zs.length := by
  by_cases h4 : zs.length < 4
  · unfold ixS at h; rw [if_pos h4] at h; cases h
  · omega
theorem tpS_cases (zs : List Int) : (tpS zs = ([], false)) ∨ (∃ l, tabOk l = true ∧ tabB l = zs ∧ tpS zs = (l, true)) := by
  by_cases hx : (ixS zs).2 = true
  · have hl := ixS_long hx
    by_cases hr : (tpGo zs (ixS zs).1 []).2 = true ∧ tabP (tpGo zs (ixS zs).1 []).1 = zs
    · by_cases ho : tabOk (tpGo zs (ixS zs).1 []).1 = true
      · right
        refine ⟨(tpGo zs (ixS zs).1 []).1, ho, ?_, ?_⟩
        · have h2 := hr.2
          unfold tabP at h2
          rwa [if_pos ho] at h2
        · unfold tpS tpE
          rw [if_pos hx, if_pos hr]
      · have h2 := hr.2
        unfold tabP at h2
        rw [if_neg ho] at h2
        rw [← h2] at hl
        simp at hl
    · left
      unfold tpS tpE
      rw [if_pos hx, if_neg hr]
  · left
    unfold tpS
    rw [if_neg hx]
theorem tpS_no {zs : List Int} (h : ∀ l, tabOk l = true → tabB l ≠ zs) : tpS zs = ([], false) := by
  rcases tpS_cases zs with h1 | ⟨l, h1, h2, _⟩
  · exact h1
  · exact absurd h2 (h l h1)

theorem getText_ok {zs : List Int} (hb : BytesOk zs) (f m : Nat) : BytesOk ((zs.drop f).take m) := fun z hz => hb z (List.mem_of_mem_drop (List.mem_of_mem_take hz))

/-- What an Unframe answers: a slice that is owned, a place, a flag. -/
def UnfPost (w : World) (U : List Int × Int × Bool) (e : Ending) (w' : World) : Prop :=
  ∃ v, e = .returned (.tuple #[v, .int .i64 U.2.1, .bool U.2.2]) ∧ w'.ownsRow w.heap.size 5 1 v U.1.length (U.1.map (Value.int .u8)) ∧ Below w.heap.size w w'

theorem unf_nil {w w1 : World} {p : Int} (hb : Below w.heap.size w w1) : UnfPost w ([], p, false) (.returned (.tuple #[.slice none 0 0, .int .i64 p, .bool false])) w1 :=
  ⟨_, rfl, World.ownsRow_nil _ _ _ _, hb⟩


set_option maxHeartbeats 800000 in
theorem implUnframe_any (a : Option Addr) (n cap : Nat) (zs : List Int) (p : Int) (w : World) (hx : zs.length = n) (hlen : n ≤ 35184372088832) (hcap : n ≤ cap) (hb : BytesOk zs) (hr : Rd .u8 w.heap.size w a zs) (ht : TabAt w) :
    Calls Tryd.prog 14 #[.slice a n cap, .int .i64 p] w (UnfPost w (unframe zs p)) := by
  obtain ⟨i0, hi, hz0, hz1, hz2⟩ := info_parts Tryd.info5
  have HX : Hid (zs.length = n) := hx
  clear hx
  have hsz : 0 < w.heap.size := ht.size
  by_cases hout : p < 0 ∨ (n : Int) - 4 < p
  · have HV : Hid (unframe zs p = ([], p, false)) := unframe_out (by rw [HX.out]; exact hout)
    by_cases h0 : p < 0
    · clear hout
      go_enter Tryd.func14, Tryd.ntmps14
      go_wp2
      go_ret3
      rw [HV.out]
      exact unf_nil (Below.refl _ _)
    · have h1 : (n : Int) - 4 < p := by omega
      clear hout
      go_enter Tryd.func14, Tryd.ntmps14
      go_wp2
      go_ret3
      rw [HV.out]
      exact unf_nil (Below.refl _ _)
  · obtain ⟨p, rfl⟩ := Int.eq_ofNat_of_zero_le (show 0 ≤ p by omega)
    have hp : p + 4 ≤ n := by omega
    clear hout
    have hN := implGetNum_any a n cap zs ((p : Int) + 4) w w.heap.size HX.out (by omega) hb hr
    go_enter Tryd.func14, Tryd.ntmps14
    go_wp2_with fail
    refine hN.mono ?_
    rintro e w1 ⟨rfl, rfl⟩
    clear hN
    rcases text_cases zs ((p : Int) + 4) with ⟨r0, r1, hR, hv⟩ | ⟨m, f, hR, hf, hm, hout, hv⟩ | ⟨m, f, hR, hf, hm, hin, hv⟩
    · have HV := Hid.mk (unframe_no (by rw [HX.out]; exact hp) hv)
      rw [hR]
      unfold numVal
      clear hR hv
      go_wp2
      go_ret3
      rw [HV.out]
      exact unf_nil (Below.refl _ _)
    · have HV := Hid.mk (unframe_no (by rw [HX.out]; exact hp) hv)
      rw [hR]
      unfold numVal
      clear hR hv
      rw [HX.out] at hf hout
      go_wp2
      go_ret3
      rw [HV.out]
      exact unf_nil (Below.refl _ _)
    · have HYes := fun h => Hid.mk (unframe_yes (by rw [HX.out]; exact hp) hv h)
      have HNo := fun h => Hid.mk (unframe_sum (by rw [HX.out]; exact hp) hv h)
      rw [hR]
      unfold numVal
      clear hR hv
      have hbody := getText_ok hb f m
      have hbl : ((zs.drop f).take m).length = m := take_drop_length hin
      obtain ⟨b1, o1, rfl, _, _⟩ := hr 0 (by omega)
      have hsub : Rd .u8 w1.heap.size w1 (some ⟨b1, o1 + f, none⟩) ((zs.drop f).take (n - f)) := hr.sub (by have := HX.out; omega)
      have hfour : Rd .u8 w1.heap.size w1 (some ⟨b1, o1 + p, none⟩) ((zs.drop p).take 4) := hr.sub (by rw [HX.out]; exact hp)
      have h4l : ((zs.drop p).take 4).length = 4 := take_drop_length (by rw [HX.out]; exact hp)
      have h4b := getText_ok hb p 4
      have HR4 := Hid.mk (rdN_four (zs := zs) (p := p) (by rw [HX.out]; exact hp))
      have hsubl : ((zs.drop f).take (n - f)).length = n - f := take_drop_length (by have := HX.out; omega)
      have HBody : Hid (((zs.drop f).take (n - f)).take m = (zs.drop f).take m) := by
        unfold Hid
        rw [List.take_take, Nat.min_eq_left (by have := HX.out; omega)]
      generalize (zs.drop f).take (n - f) = src at hsub hsubl HBody
      generalize (zs.drop f).take m = body at hbody hbl HYes HNo HBody
      generalize (zs.drop p).take 4 = fr at hfour h4l h4b HR4
      rw [HX.out] at hin
      have hcapf : f < cap ∨ (cap = f ∧ m = 0 ∧ n = f) := by omega
      have HBL := Hid.mk hbl
      have HSL := Hid.mk hsubl
      have H4L := Hid.mk h4l
      clear hbl hsubl h4l
      rcases hcapf with hcf | ⟨hc1, hc2, hc3⟩
      · have hcf' : ¬ cap = f := by omega
        go_wp2_with (at_make; refine wpList_make_full _ rfl _ _ 22 rfl w1.heap.size 5 i0 (.int .u8 0) 1 Tryd.underlying22 hi hz0 hz1 .i64 .i64 _ _ m rfl rfl rfl rfl (by rw [hz2]; omega) (by unfold maxLen; omega) (Nat.le_refl _) ?_)
        intro w2 hown2 hgr2
        have hB2 : Below w1.heap.size w1 w2 := (Below.refl _ _).grown hgr2 (Nat.le_refl _) (fun k h => by cases h)
        clear hgr2
        go_wp2_with (refine wpList_copy_le rfl _ _ 22 22 rfl 5 i0 Tryd.underlying22 hi hz1 w1.heap.size w1.heap.size m m (n - f) (cap - f) (some ⟨b1, o1 + f, none⟩) rfl rfl _ hown2 .u8 src w1.heap.size HSL.out (by omega) (hsub.below hB2) ?_)
        intro w3 hown3 hgr3
        have hB3 : Below w1.heap.size w1 w3 := hB2.grown hgr3 hB2.size (fun k h => by simp at h; omega)
        rw [← List.map_take, HBody.out] at hown3
        clear hgr3 hown2 hB2
        have hq3 := Rd.own HBL.out hown3
        have ht3 := ht.below hB3 hsz
        have hf3 := hfour.below hB3
        by_cases hc : crc body = rd4 zs p
        · have HV := HYes hc
          have hcb : (crc body != rdN fr) = false := by rw [HR4.out]; simp [hc]
          clear HYes HNo hc
          go_wp2_with fail
          go_quiet (first | (go_at_call 27; exact Calls.quiet_of_same (implSum_any _ m m body _ _ HBL.out (by omega) hbody (by exact hq3) (by exact ht3))) | (go_at_call 30; exact Calls.quiet_of_same (readFour_any _ _ fr _ _ H4L.out h4b (by exact hf3))))
          go_wp2
          go_ret3
          rw [HV.out]
          exact ⟨_, rfl, own_drewN (own_congr hown3 HBL.out.symm rfl), below_drewN hB3 _⟩
        · have HV := HNo hc
          have hcb : (crc body != rdN fr) = true := by rw [HR4.out]; simp [hc]
          clear HYes HNo hc
          go_wp2_with fail
          go_quiet (first | (go_at_call 27; exact Calls.quiet_of_same (implSum_any _ m m body _ _ HBL.out (by omega) hbody (by exact hq3) (by exact ht3))) | (go_at_call 30; exact Calls.quiet_of_same (readFour_any _ _ fr _ _ H4L.out h4b (by exact hf3))))
          go_wp2
          go_ret3
          rw [HV.out]
          exact unf_nil (below_drewN hB3 _)
      · subst hc1
        subst hc2
        subst hc3
        have hsrc : src = [] := List.eq_nil_of_length_eq_zero (by rw [HSL.out]; omega)
        subst hsrc
        go_wp2_with (at_make; refine wpList_make_full _ rfl _ _ 22 rfl w1.heap.size 5 i0 (.int .u8 0) 1 Tryd.underlying22 hi hz0 hz1 .i64 .i64 _ _ 0 rfl rfl rfl rfl (by rw [hz2]; omega) (by unfold maxLen; omega) (Nat.le_refl _) ?_)
        intro w2 hown2 hgr2
        have hB2 : Below w1.heap.size w1 w2 := (Below.refl _ _).grown hgr2 (Nat.le_refl _) (fun k h => by cases h)
        clear hgr2
        go_wp2_with (refine wpList_copy_le rfl _ _ 22 22 rfl 5 i0 Tryd.underlying22 hi hz1 w1.heap.size w1.heap.size 0 0 0 0 (some ⟨b1, o1, none⟩) rfl rfl _ hown2 .u8 [] 0 rfl (by omega) Rd.nil ?_)
        intro w3 hown3 hgr3
        have hB3 : Below w1.heap.size w1 w3 := hB2.grown hgr3 hB2.size (fun k h => by simp at h; omega)
        have hbn : body = [] := List.eq_nil_of_length_eq_zero HBL.out
        clear hgr3 hown2 hB2
        have hq3 : Rd .u8 w3.heap.size w3 (some ⟨w1.heap.size, 0, none⟩) body := by rw [hbn]; exact Rd.nil
        have hown3' : w3.ownsRow w1.heap.size 5 1 (.slice (some ⟨w1.heap.size, 0, none⟩) 0 0) body.length (body.map (Value.int .u8)) := by rw [hbn]; exact hown3
        clear hbn
        have ht3 := ht.below hB3 hsz
        have hf3 := hfour.below hB3
        by_cases hc : crc body = rd4 zs p
        · have HV := HYes hc
          have hcb : (crc body != rdN fr) = false := by rw [HR4.out]; simp [hc]
          clear HYes HNo hc
          go_wp2_with fail
          go_quiet (first | (go_at_call 27; exact Calls.quiet_of_same (implSum_any _ 0 0 body _ _ HBL.out (by omega) hbody (by exact hq3) (by exact ht3))) | (go_at_call 30; exact Calls.quiet_of_same (readFour_any _ _ fr _ _ H4L.out h4b (by exact hf3))))
          go_wp2
          go_ret3
          rw [HV.out]
          exact ⟨_, rfl, own_drewN hown3', below_drewN hB3 _⟩
        · have HV := HNo hc
          have hcb : (crc body != rdN fr) = true := by rw [HR4.out]; simp [hc]
          clear HYes HNo hc
          go_wp2_with fail
          go_quiet (first | (go_at_call 27; exact Calls.quiet_of_same (implSum_any _ 0 0 body _ _ HBL.out (by omega) hbody (by exact hq3) (by exact ht3))) | (go_at_call 30; exact Calls.quiet_of_same (readFour_any _ _ fr _ _ H4L.out h4b (by exact hf3))))
          go_wp2
          go_ret3
          rw [HV.out]
          exact unf_nil (below_drewN hB3 _)

theorem unframe_len (zs : List Int) (p : Int) : (unframe zs p).1.length ≤ zs.length := by
  unfold unframe getText
  split
  · simp
  · split
    · split
      · simp; omega
      · simp
    · simp


def textVal (r : List Int × Int × Bool) : Value := .tuple #[.string (strOfNums r.1), .int .i64 r.2.1, .bool r.2.2]

theorem conv_part {b1 o1 c m f B : Nat} {zs : List Int} {w : World} {a : Option Addr} (hin : f + m ≤ zs.length) (hra : Rd .u8 B w a zs) (ha : a = some ⟨b1, o1, none⟩) :
    (convert 22 9 (.slice (some ⟨b1, o1 + f, none⟩) m c)).run Tryd.prog w = .ok (.string (strOfNums ((zs.drop f).take m))) w :=
  run_convert_bytes_arg w 22 5 Tryd.underlying22 Tryd.underlying5 b1 (o1 + f) m c _ (take_drop_length hin) (fun i hi => by
    obtain ⟨b2, o2, e, _, hc⟩ := hra (f + i) (by omega)
    rw [ha] at e
    simp only [Option.some.injEq, Addr.mk.injEq, and_true] at e
    obtain ⟨rfl, rfl⟩ := e
    rw [take_drop_getD hi, Nat.add_assoc]
    exact hc) 9 Tryd.underlying9

theorem conv_none (w : World) (b1 o1 c : Nat) :
    (convert 22 9 (.slice (some ⟨b1, o1, none⟩) 0 c)).run Tryd.prog w = .ok (.string (strOfNums [])) w :=
  run_convert_bytes_arg w 22 5 Tryd.underlying22 Tryd.underlying5 b1 o1 0 c [] rfl (fun i hi => by omega) 9 Tryd.underlying9

set_option maxHeartbeats 400000 in
theorem implGetText_any (a : Option Addr) (n cap : Nat) (zs : List Int) (p : Int) (w : World) (B : Nat) (hx : zs.length = n) (hlen : n ≤ 140737488351232) (hcap : n ≤ cap) (hb : BytesOk zs) (hra : Rd .u8 B w a zs) :
    Calls Tryd.prog 69 #[.slice a n cap, .int .i64 p] w fun e w' => e = .returned (textVal (getText zs p)) ∧ w' = w := by
  have HX : Hid (zs.length = n) := hx
  clear hx
  go_enter Tryd.func69, Tryd.ntmps69
  go_wp2_with fail
  refine (implGetNum_any a n cap zs p _ B HX.out hlen hb hra).mono ?_
  rintro e w1 ⟨rfl, rfl⟩
  rcases text_cases zs p with ⟨r0, r1, hR, hv⟩ | ⟨m, f, hR, hf, hm, hout, hv⟩ | ⟨m, f, hR, hf, hm, hin, hv⟩
  all_goals
    rw [hR]
    have HV := Hid.mk hv
    clear hR hv
    unfold numVal
  · go_wp2
    go_ret3
    exact ⟨by rw [HV.out]; rfl, rfl⟩
  · rw [HX.out] at hf hout
    go_wp2
    go_ret3
    exact ⟨by rw [HV.out]; rfl, rfl⟩
  · have hcv := fun b1 o1 c => conv_part (b1 := b1) (o1 := o1) (c := c) (B := B) (w := w1) hin hra
    rw [HX.out] at hin
    obtain ⟨b1, o1, rfl, _, _⟩ := hra 0 (by rw [HX.out]; omega)
    have hcv := hcv b1 o1
    by_cases hcf : cap = f
    · subst hcf
      obtain rfl : m = 0 := by omega
      have hcn := conv_none w1 b1 o1 0
      clear hcv
      go_wp2
      go_ret3
      exact ⟨by rw [HV.out]; rfl, rfl⟩
    · have hcv := hcv (cap - f) rfl
      go_wp2
      go_ret3
      exact ⟨by rw [HV.out]; simp [textVal], rfl⟩

end Go.Proofs.YtmedljankefhbaaDoor

namespace Go.Proofs.YtmedljankefhbaaDoor
open Go.RowKit Go.Maps

theorem Rd.first {k : IntKind} {B : Nat} {w : World} {a : Option Addr} {zs : List Int} (m : Nat) (h : Rd k B w a zs) : Rd k B w a (zs.take m) := by
  intro j hj
  have hj2 : j < zs.length := by simp at hj; omega
  obtain ⟨b, off, e, hB, hc⟩ := h j hj2
  refine ⟨b, off, e, hB, ?_⟩
  rw [hc]
  congr 2
  rw [List.getD_eq_getElem?_getD, List.getD_eq_getElem?_getD, List.getElem?_take, if_pos (by simp at hj; omega)]
theorem BytesOk.first {zs : List Int} (m : Nat) (h : BytesOk zs) : BytesOk (zs.take m) := fun z hz => h z (List.mem_of_mem_take hz)
theorem unframe_okB {zs : List Int} {p : Int} (hb : BytesOk zs) : BytesOk (unframe zs p).1 := by
  unfold unframe
  split
  · intro z hz; cases hz
  · split
    · rcases text_cases zs (p + 4) with ⟨_, _, _, h2⟩ | ⟨m, f, _, _, _, _, h2⟩ | ⟨m, f, _, _, _, _, h2⟩
      all_goals rw [h2]
      · intro z hz; cases hz
      · intro z hz; cases hz
      · exact fun z hz => hb z (List.mem_of_mem_drop (List.mem_of_mem_take hz))
    · intro z hz; cases hz

end Go.Proofs.YtmedljankefhbaaDoor

namespace Go.Proofs.YtmedljankefhbaaDoor
open Go.RowKit

theorem getNum_gt {b : List Int} {p : Int} (h : (getNum b p).2.2 = true) : p < (getNum b p).2.1 ∧ (getNum b p).2.1 ≤ b.length := by
  have h2 := (getNum_bounds h).2.2.2
  refine ⟨?_, h2⟩
  simp only [getNum] at h ⊢
  by_cases h1 : p < 0 ∨ (b.length : Int) ≤ p
  · rw [if_pos h1] at h; simp [noNum] at h
  · rw [if_neg h1] at h ⊢
    by_cases h3 : b.getD p.toNat 0 = 128
    · rw [if_pos h3] at h; simp [noNum] at h
    · rw [if_neg h3] at h ⊢
      exact (gnS_bounds 5 _ 0 p (by omega) h).2.2.1
theorem getText_gt {b : List Int} {p : Int} (h : (getText b p).2.2 = true) : p + ((getText b p).1.length : Int) < (getText b p).2.1 ∧ (getText b p).2.1 ≤ b.length ∧ 0 ≤ (getText b p).2.1 := by
  rcases text_cases b p with ⟨_, _, _, h2⟩ | ⟨m, f, _, _, _, _, h2⟩ | ⟨m, f, h1, h3, _, h4, h2⟩
  · rw [h2] at h; cases h
  · rw [h2] at h; cases h
  · have h5 := getNum_gt (b := b) (p := p) (by rw [h1])
    rw [h1] at h5
    rw [h2]
    simp only [List.length_take, List.length_drop] at *
    omega
theorem HTL (b : List Int) (p : Int) : (getText b p).1.length ≤ b.length := by
  rcases text_cases b p with ⟨_, _, _, h2⟩ | ⟨m, f, _, _, _, _, h2⟩ | ⟨m, f, _, _, _, _, h2⟩
  all_goals rw [h2]
  · simp
  · simp
  · simp only [List.length_take, List.length_drop]; omega
def lightP (n : Nat) (l : List MPair) : Prop := ∀ p, p ∈ l → p.fKey.size + p.fVal.size ≤ n

/-- A reader in block b: these bytes are left; whether something was not there as told. -/
def RdrAt (lo : Nat) (w : World) (b : Nat) (zs : List Int) (bad : Bool) : Prop :=
  ∃ a c, Bw w b 107 [.slice a zs.length c, .bool bad] ∧ zs.length ≤ c ∧ c ≤ 9223372036854775807 ∧ Rd .u8 b w a zs ∧ (∀ b1 o1, a = some ⟨b1, o1, none⟩ → 0 < zs.length → lo ≤ b1)
theorem Rd.turn {k : IntKind} {b : Nat} {w w' : World} {a : Option Addr} {zs : List Int} (h : Rd k b w a zs) (ht : Turn [b] w w') : Rd k b w' a zs := by
  intro j hj
  obtain ⟨b1, o1, e, hB, hc⟩ := h j hj
  refine ⟨b1, o1, e, hB, ?_⟩
  have hl := World.block_lt_of_cell? _ _ hc
  have := ht.block b1 hl (by simp; omega)
  rw [← hc]
  simp only [World.cell?, this]
theorem Rd.rest {k : IntKind} {B : Nat} {w : World} {b o c : Nat} {zs : List Int} {f : Nat} (h : Rd k B w (some ⟨b, o, none⟩) zs) (hf : f ≤ zs.length) (hc : zs.length ≤ c) :
    Rd k B w (if c = f then some ⟨b, o, none⟩ else some ⟨b, o + f, none⟩) (zs.drop f) := by
  by_cases h1 : c = f
  · have : zs.drop f = [] := List.drop_of_length_le (by omega)
    rw [this]
    intro j hj
    simp at hj
  · rw [if_neg h1]
    have h2 := Rd.sub h (f := f) (m := zs.length - f) (by omega)
    rwa [List.take_of_length_le (by simp)] at h2

/-- What is left, and whether it is bad, behind something that was there or not. -/
def restL (ok : Bool) (zs : List Int) (q : Int) : List Int := if ok then zs.drop q.toNat else []
def badB (ok bad : Bool) : Bool := if ok then bad else true

set_option maxHeartbeats 1000000 in
theorem take_any {lo : Nat} (b : Nat) (nx : Int) (ok : Bool) (zs : List Int) (bad : Bool) (w : World) (h : RdrAt lo w b zs bad) (hn : ok = true → 0 < nx ∧ nx ≤ zs.length) :
    Calls Tryd.prog 68 #[.pointer (some ⟨b, 0, none⟩), .int .i64 nx, .bool ok] w fun e w' => (∃ v, e = .returned v) ∧ RdrAt lo w' b (restL ok zs nx) (badB ok bad) ∧ Turn [b] w w' := by
  obtain ⟨a, c, hb, h1, h2, h3, h9⟩ := h
  have y0 := hb.cell 0 _ rfl
  have y1 := hb.cell 1 _ rfl
  have f0 := hb.free 0
  have f1 := hb.free 1
  cases ok with
  | false =>
    have hb2 := (hb.put 0 (.slice none 0 0)).put 1 (.bool true)
    have ht : Turn [b] w ((w.setCell ⟨b, 0, none⟩ (.slice none 0 0)).setCell ⟨b, 1, none⟩ (.bool true)) := Turn.setCell (Turn.setCell (Turn.refl _ _) (by simp) _) (by simp) _
    go_enter Tryd.func68, Tryd.ntmps68
    go_wp2_with fail
    refine bodyPost_ret (results_none rfl _ _ _) rfl ?_
    exact ⟨⟨_, rfl⟩, ⟨none, 0, hb2, Nat.le_refl _, by omega, (fun j hj => absurd hj (Nat.not_lt_zero j)), (fun _ _ h => by cases h)⟩, ht⟩
  | true =>
    obtain ⟨g1, g2⟩ := hn rfl
    obtain ⟨f, hf⟩ : ∃ f : Nat, (f : Int) = nx := ⟨nx.toNat, by omega⟩
    have hfl : f ≤ zs.length := by omega
    obtain ⟨b1, o1, rfl, hB, _⟩ := h3 0 (by omega)
    have hlo := h9 b1 o1 rfl (by omega)
    have hrd := Rd.rest (c := c) h3 hfl h1
    have hfc : f ≤ c := by omega
    have HF : Hid (nx.toNat = f) := by show _ = _; omega
    have HRE : Hid (restL true zs (f : Int) = zs.drop f ∧ badB true bad = bad) := ⟨by simp [restL], rfl⟩
    have HLD : Hid ((zs.drop f).length = zs.length - f) := by show _ = _; simp
    have hb2 := hb.put 0 (.slice (if c = f then some ⟨b1, o1, none⟩ else some ⟨b1, o1 + f, none⟩) (zs.length - f) (c - f))
    have ht : Turn [b] w (w.setCell ⟨b, 0, none⟩ (.slice (if c = f then some ⟨b1, o1, none⟩ else some ⟨b1, o1 + f, none⟩) (zs.length - f) (c - f))) := Turn.setCell (Turn.refl _ _) (by simp) _
    have hrd2 := hrd.turn ht
    subst hf
    clear h3 hrd hn
    by_cases hcf : c = f
    · rw [if_pos hcf] at hb2 ht hrd2
      go_enter Tryd.func68, Tryd.ntmps68
      go_wp2_with fail
      go_end0
      rw [HRE.out.1, HRE.out.2]
      have hc0 : c - f = 0 := by omega
      rw [hc0] at hb2 ht hrd2
      refine ⟨⟨_, rfl⟩, ⟨some ⟨b1, o1, none⟩, 0, ?_, ?_, by omega, ?_, (fun b2 o2 h _ => by simp only [Option.some.injEq, Addr.mk.injEq, and_true] at h; omega)⟩, ht⟩
      · try simp only [if_true, HF.out]
        rw [HLD.out]
        exact hb2
      · try simp only [if_true, HF.out]
        rw [HLD.out]
        omega
      · try simp only [if_true, HF.out]
        exact hrd2
    · rw [if_neg hcf] at hb2 ht hrd2
      go_enter Tryd.func68, Tryd.ntmps68
      go_wp2_with fail
      go_end0
      rw [HRE.out.1, HRE.out.2]
      refine ⟨⟨_, rfl⟩, ⟨some ⟨b1, o1 + f, none⟩, c - f, ?_, ?_, by omega, ?_, (fun b2 o2 h _ => by simp only [Option.some.injEq, Addr.mk.injEq, and_true] at h; omega)⟩, ht⟩
      · try simp only [if_true, HF.out]
        rw [HLD.out]
        exact hb2
      · try simp only [if_true, HF.out]
        rw [HLD.out]
        omega
      · try simp only [if_true, HF.out]
        exact hrd2

set_option maxHeartbeats 1000000 in
theorem rdrNum_any {lo : Nat} (b : Nat) (zs : List Int) (bad : Bool) (n q : Int) (ok : Bool) (w : World) (hg : getNum zs 0 = (n, q, ok)) (h : RdrAt lo w b zs bad) (hb : BytesOk zs) (hlen : zs.length ≤ 140737488351232) :
    Calls Tryd.prog 53 #[.pointer (some ⟨b, 0, none⟩)] w fun e w' => e = .returned (.int .i64 n) ∧ RdrAt lo w' b (restL ok zs q) (badB ok bad) ∧ Turn [b] w w' := by
  have HC := Hid.mk (take_any b q ok zs bad w h (fun ho => by have h1 := getNum_bounds (b := zs) (p := 0) (by rw [hg]; exact ho); rw [hg] at h1; exact ⟨h1.2.2.1, h1.2.2.2⟩))
  obtain ⟨a, c, hbw, h1, h2, h3, _⟩ := h
  have y0 := hbw.cell 0 _ rfl
  have HG := Hid.mk hg
  clear hg
  go_enter Tryd.func53, Tryd.ntmps53
  go_wp2_with fail
  refine (implGetNum_any a _ c zs 0 w b rfl hlen hb h3).mono ?_
  rintro e w1 ⟨rfl, rfl⟩
  rw [HG.out]
  unfold numVal
  go_wp2_with fail
  refine Calls.mono HC.out ?_
  rintro e w2 ⟨⟨v, rfl⟩, hr2, ht2⟩
  have HR2 := Hid.mk hr2
  clear hr2
  go_wp2_with fail
  go_ret
  exact ⟨rfl, HR2.out, ht2⟩

theorem getText_bd {zs : List Int} (h : (getText zs 0).2.2 = true) : 0 < (getText zs 0).2.1 ∧ (getText zs 0).2.1 ≤ zs.length := by
  rcases text_cases zs 0 with ⟨r0, r1, _, h2⟩ | ⟨m, f, _, _, _, _, h2⟩ | ⟨m, f, _, h3, _, h4, h2⟩
  · rw [h2] at h; cases h
  · rw [h2] at h; cases h
  · rw [h2]
    constructor
    · show (0 : Int) < ((f + m : Nat) : Int); omega
    · show ((f + m : Nat) : Int) ≤ zs.length; omega
set_option maxHeartbeats 1000000 in
theorem rdrText_any {lo : Nat} (b : Nat) (zs : List Int) (bad : Bool) (t : List Int) (q : Int) (ok : Bool) (w : World) (hg : getText zs 0 = (t, q, ok)) (h : RdrAt lo w b zs bad) (hb : BytesOk zs) (hlen : zs.length ≤ 140737488351232) :
    Calls Tryd.prog 54 #[.pointer (some ⟨b, 0, none⟩)] w fun e w' => e = .returned (.string (strOfNums t)) ∧ RdrAt lo w' b (restL ok zs q) (badB ok bad) ∧ Turn [b] w w' := by
  have HC := Hid.mk (take_any b q ok zs bad w h (fun ho => by have h1 := getText_bd (zs := zs) (by rw [hg]; exact ho); rw [hg] at h1; exact h1))
  obtain ⟨a, c, hbw, h1, h2, h3, _⟩ := h
  have y0 := hbw.cell 0 _ rfl
  have HG := Hid.mk hg
  clear hg
  go_enter Tryd.func54, Tryd.ntmps54
  go_wp2_with fail
  refine (implGetText_any a _ c zs 0 w b rfl hlen h1 hb h3).mono ?_
  rintro e w1 ⟨rfl, rfl⟩
  rw [HG.out]
  unfold textVal
  go_wp2_with fail
  refine Calls.mono HC.out ?_
  rintro e w2 ⟨⟨v, rfl⟩, hr2, ht2⟩
  have HR2 := Hid.mk hr2
  clear hr2
  go_wp2_with fail
  go_ret
  exact ⟨rfl, HR2.out, ht2⟩

def flagOk (zs : List Int) : Bool := match zs with
  | [] => false
  | c :: _ => decide (c ≤ 1)
def flagOn (zs : List Int) : Bool := match zs with
  | [] => false
  | c :: _ => decide (c = 1)
set_option maxHeartbeats 1000000 in
theorem rdrFlag_any {lo : Nat} (b : Nat) (zs : List Int) (bad : Bool) (w : World) (h : RdrAt lo w b zs bad) (hb : BytesOk zs) :
    Calls Tryd.prog 70 #[.pointer (some ⟨b, 0, none⟩)] w fun e w' => e = .returned (.bool (flagOn zs)) ∧ RdrAt lo w' b (restL (flagOk zs) zs 1) (badB (flagOk zs) bad) ∧ Turn [b] w w' := by
  have HR := Hid.mk h
  obtain ⟨a, c, hbw, h1, h2, h3, _⟩ := h
  have y0 := hbw.cell 0 _ rfl
  cases zs with
  | nil =>
    have HC := Hid.mk (take_any b 1 false [] bad w HR.out (fun h => by cases h))
    simp only [List.length_nil] at y0
    go_enter Tryd.func70, Tryd.ntmps70
    go_wp2_with fail
    refine Calls.mono HC.out ?_
    rintro e w2 ⟨⟨v, rfl⟩, hr2, ht2⟩
    have HR2 := Hid.mk hr2
    clear hr2
    go_wp2_with fail
    go_ret
    exact ⟨rfl, HR2.out, ht2⟩
  | cons x r =>
    obtain ⟨b1, o1, rfl, hB, hc⟩ := h3 0 (by simp)
    simp only [List.getD_cons_zero, Nat.add_zero] at hc
    have hx := hb x (by simp)
    simp only [List.length_cons] at y0 h1
    by_cases g1 : x ≤ 1
    · have HK : Hid (flagOk (x :: r) = true) := decide_eq_true g1
      have HC := Hid.mk (take_any b 1 true (x :: r) bad w HR.out (fun _ => ⟨by omega, by simp only [List.length_cons]; omega⟩))
      by_cases g2 : x = 1
      · have HN : Hid (flagOn (x :: r) = true) := decide_eq_true g2
        have g3 : (x == 1) = true := beq_iff_eq.2 g2
        go_enter Tryd.func70, Tryd.ntmps70
        go_wp2_with fail
        refine Calls.mono HC.out ?_
        rintro e w2 ⟨⟨v, rfl⟩, hr2, ht2⟩
        have HR2 := Hid.mk hr2
        clear hr2
        go_wp2_with fail
        go_ret
        exact ⟨by rw [HN.out]; rfl, by rw [HK.out]; exact HR2.out, ht2⟩
      · have HN : Hid (flagOn (x :: r) = false) := decide_eq_false g2
        have g3 : (x == 1) = false := beq_eq_false_iff_ne.2 g2
        go_enter Tryd.func70, Tryd.ntmps70
        go_wp2_with fail
        refine Calls.mono HC.out ?_
        rintro e w2 ⟨⟨v, rfl⟩, hr2, ht2⟩
        have HR2 := Hid.mk hr2
        clear hr2
        go_wp2_with fail
        go_ret
        exact ⟨by rw [HN.out]; rfl, by rw [HK.out]; exact HR2.out, ht2⟩
    · have HK : Hid (flagOk (x :: r) = false) := decide_eq_false g1
      have HN : Hid (flagOn (x :: r) = false) := decide_eq_false (by omega)
      have HC := Hid.mk (take_any b 1 false (x :: r) bad w HR.out (fun h => by cases h))
      go_enter Tryd.func70, Tryd.ntmps70
      go_wp2_with fail
      refine Calls.mono HC.out ?_
      rintro e w2 ⟨⟨v, rfl⟩, hr2, ht2⟩
      have HR2 := Hid.mk hr2
      clear hr2
      go_wp2_with fail
      go_ret
      exact ⟨by rw [HN.out]; rfl, by rw [HK.out]; exact HR2.out, ht2⟩


/-- A pair that a reader takes, behind a key. -/
def pR1 (zs : List Int) : List Int := restL (getNum zs 0).2.2 zs (getNum zs 0).2.1
def pR2 (zs : List Int) : List Int := restL (getText (pR1 zs) 0).2.2 (pR1 zs) (getText (pR1 zs) 0).2.1
def pR3 (zs : List Int) : List Int := restL (flagOk (pR2 zs)) (pR2 zs) 1
def pR4 (zs : List Int) : List Int := restL (getText (pR3 zs) 0).2.2 (pR3 zs) (getText (pR3 zs) 0).2.1
def pairR (zs : List Int) (ahead : ByteArray) : Option (MPair × List Int) :=
  if (getNum zs 0).2.2 = true ∧ (getText (pR1 zs) 0).2.2 = true ∧ flagOk (pR2 zs) = true ∧ (getText (pR3 zs) 0).2.2 = true ∧ (getNum zs 0).1 ≤ ahead.size then
    some (⟨ahead.extract 0 (getNum zs 0).1.toNat ++ strOfNums (getText (pR1 zs) 0).1, strOfNums (getText (pR3 zs) 0).1, flagOn (pR2 zs)⟩, pR4 zs)
  else none
def irGo : Nat → List Int → ByteArray → List MPair → List MPair × Bool
  | 0, _, _, out => (out, true)
  | f + 1, zs, ahead, out => if zs.length = 0 then (out, true) else match pairR zs ahead with
    | none => (out, false)
    | some (p, r) => if out.length = 200 then (out, false) else irGo f r p.fKey (out ++ [p])
def irAt (blocks : List Int) (p : Int) (out : List MPair) : List MPair × Bool :=
  if (unframe blocks p).2.2 = true then irGo ((unframe blocks p).1.length + 1) (unframe blocks p).1 ByteArray.empty out else (out, false)
def irAll (blocks : List Int) : List Int → List MPair → List MPair × Bool
  | [], out => (out, true)
  | p :: ps, out => if (irAt blocks p out).2 = true then irAll blocks ps (irAt blocks p out).1 else ((irAt blocks p out).1, false)
/-- The index: one step, all steps. -/
def xR1 (zs : List Int) : List Int := restL (getText zs 0).2.2 zs (getText zs 0).2.1
def xR2 (zs : List Int) : List Int := restL (getNum (xR1 zs) 0).2.2 (xR1 zs) (getNum (xR1 zs) 0).2.1
def xBad (zs : List Int) (bad : Bool) : Bool := badB (getNum (xR1 zs) 0).2.2 (badB (getText zs 0).2.2 bad)
def xAt (zs : List Int) : Int := (getNum (xR1 zs) 0).1
def ixrGo (n : Int) : Nat → List Int → Bool → List Int → List Int × List Int × Bool
  | 0, zs, bad, ps => (ps, zs, bad)
  | f + 1, zs, bad, ps => if (ps.length : Int) < n ∧ bad = false then ixrGo n f (xR2 zs) (xBad zs bad) (ps ++ [xAt zs]) else (ps, zs, bad)
def ixrE (r : List Int × List Int × Bool) : Option (List Int) := if r.2.2 = false ∧ r.2.1.length = 8 then some r.1 else none
def ixrB (body : List Int) : Option (List Int) := ixrE (ixrGo (getNum body 0).1 (body.length + 2) (restL (getNum body 0).2.2 body (getNum body 0).2.1) (badB (getNum body 0).2.2 false) [])
def ixR (zs : List Int) : Option (List Int) :=
  if zs.length < 4 then none
  else if (unframe zs (rd4 zs (zs.length - 4))).2.2 = true ∧ (unframe zs (rd4 zs (zs.length - 4))).2.1 = (zs.length : Int) - 4 then ixrB (unframe zs (rd4 zs (zs.length - 4))).1 else none
def rpS (zs : List Int) : List MPair × Bool := match ixR zs with
  | none => ([], false)
  | some ps => irAll (zs.take (rd4 zs (zs.length - 4)).toNat) ps []

theorem restL_pre (pre r : List Int) : restL true (pre ++ r) (pre.length : Nat) = r := by
  unfold restL
  rw [if_pos rfl, Int.toNat_natCast, List.drop_left]
theorem num_head {N : Int} (h0 : 0 ≤ N) (h1 : N ≤ 1000000000) (r : List Int) : getNum (putNum N ++ r) 0 = (N, (((putNum N).length : Nat) : Int), true) := by
  have h := getNum_at h0 h1 [] r
  simpa using h
theorem text_head (ts r : List Int) (h : ts.length ≤ 1000000000) : getText (putNum (ts.length : Int) ++ (ts ++ r)) 0 = (ts, (((putNum (ts.length : Int) ++ ts).length : Nat) : Int), true) := by
  have h2 := getText_at [] ts r h
  simpa using h2

theorem pairR_pair (r : List Int) (last : ByteArray) (p : MPair) (h1 : p.fKey.size ≤ 1000000) (h2 : p.fVal.size ≤ 1000000) : pairR (pairB last p ++ r) last = some (p, r) := by
  have hc := com_le last p.fKey
  have hx := ext_size p.fKey (com last p.fKey)
  have hxl : (strInts (p.fKey.extract (com last p.fKey) p.fKey.size)).length ≤ 1000000 := by rw [strInts_length]; omega
  have hvl : (strInts p.fVal).length ≤ 1000000 := by rw [strInts_length]; omega
  rw [pairB_lay last p h1 h2]
  have HB := com_back last p.fKey
  have HS := strOf_ints (p.fKey.extract (com last p.fKey) p.fKey.size)
  have HV := strOf_ints p.fVal
  generalize strInts (p.fKey.extract (com last p.fKey) p.fKey.size) = rs at *
  generalize strInts p.fVal = vs at *
  generalize com last p.fKey = c at *
  obtain ⟨zs, hzs⟩ : ∃ zs, zs = (putNum (c : Int) ++ (putNum (rs.length : Int) ++ (rs ++ ([goneI p] ++ (putNum (vs.length : Int) ++ vs))))) ++ r := ⟨_, rfl⟩
  have e0 : zs = putNum (c : Int) ++ (putNum (rs.length : Int) ++ (rs ++ ([goneI p] ++ (putNum (vs.length : Int) ++ (vs ++ r))))) := by rw [hzs]; simp
  have n1 := num_head (N := (c : Int)) (by omega) (by omega) (putNum (rs.length : Int) ++ (rs ++ ([goneI p] ++ (putNum (vs.length : Int) ++ (vs ++ r)))))
  rw [← e0] at n1
  have z1 : pR1 zs = putNum (rs.length : Int) ++ (rs ++ ([goneI p] ++ (putNum (vs.length : Int) ++ (vs ++ r)))) := by
    unfold pR1
    rw [n1, e0]
    exact restL_pre _ _
  have t1 := text_head rs ([goneI p] ++ (putNum (vs.length : Int) ++ (vs ++ r))) (by omega)
  rw [← z1] at t1
  have z2 : pR2 zs = goneI p :: (putNum (vs.length : Int) ++ (vs ++ r)) := by
    unfold pR2
    rw [t1, z1, ← List.append_assoc]
    exact restL_pre _ _
  have fo : flagOk (pR2 zs) = true := by rw [z2]; exact decide_eq_true (goneI_le p)
  have fn : flagOn (pR2 zs) = p.fGone := by rw [z2]; exact goneI_on p
  have z3 : pR3 zs = putNum (vs.length : Int) ++ (vs ++ r) := by
    unfold pR3
    rw [fo, z2]
    exact restL_pre [goneI p] _
  have t2 := text_head vs r (by omega)
  rw [← z3] at t2
  have z4 : pR4 zs = r := by
    unfold pR4
    rw [t2, z3, ← List.append_assoc]
    exact restL_pre _ _
  rw [← hzs]
  unfold pairR
  rw [n1, t1, t2, fo, fn, z4]
  rw [if_pos ⟨rfl, rfl, rfl, rfl, by omega⟩]
  simp only [Int.toNat_natCast]
  rw [HS, HV, HB]

theorem irGo_block (rest : List MPair) : ∀ (f : Nat) (last : ByteArray) (out : List MPair), rest.length < f → out.length + rest.length ≤ 200 → (∀ p, p ∈ rest → p.fKey.size ≤ 1000000 ∧ p.fVal.size ≤ 1000000) →
    irGo f (blockB last rest) last out = (out ++ rest, true) := by
  induction rest with
  | nil =>
    intro f last out hf hl hs
    cases f with
    | zero => omega
    | succ f => simp [irGo, blockB]
  | cons p rest ih =>
    intro f last out hf hl hs
    cases f with
    | zero => omega
    | succ f =>
      obtain ⟨h1, h2⟩ := hs p (by simp)
      have hst := pairR_pair (blockB p.fKey rest) last p h1 h2
      have hpos : 0 < (pairB last p).length := by rw [pairB_lay last p h1 h2]; simp; omega
      simp only [List.length_cons] at hf hl
      rw [blockB, irGo, hst, if_neg (by rw [List.length_append]; omega)]
      simp only
      rw [if_neg (by omega)]
      have h := ih f p.fKey (out ++ [p]) (by omega) (by simp; omega) (fun q hq => hs q (by simp [hq]))
      rw [h]
      simp
theorem blockB_long (l : List MPair) (hs : ∀ p, p ∈ l → p.fKey.size ≤ 1000000 ∧ p.fVal.size ≤ 1000000) : ∀ k : ByteArray, l.length ≤ (blockB k l).length := by
  induction l with
  | nil => intro k; simp
  | cons p l ih =>
    intro k
    obtain ⟨h1, h2⟩ := hs p (by simp)
    have hpos : 0 < (pairB k p).length := by rw [pairB_lay k p h1 h2]; simp; omega
    have := ih (fun q hq => hs q (by simp [hq])) p.fKey
    rw [blockB, List.length_append, List.length_cons]
    omega
theorem irAt_tab {l : List MPair} (h : tabOk l = true) {i : Nat} (hi : i < nBlk l) (out : List MPair) (ho : out.length + (blk l i).length ≤ 200) : irAt (outB l (nBlk l)) ((outB l i).length : Int) out = (out ++ blk l i, true) := by
  obtain ⟨r, hr⟩ := outB_pre l (i := i + 1) (n := nBlk l) (by omega)
  have e : outB l (nBlk l) = outB l i ++ (frame (blockB ByteArray.empty (blk l i)) ++ r) := by rw [hr, outB]; simp
  have hbl : (blockB ByteArray.empty (blk l i)).length ≤ 1000000000 := by
    have h1 := outB_little h (i + 1) (by omega)
    rw [outB, List.length_append] at h1
    unfold frame at h1
    simp only [List.length_append] at h1
    omega
  have hu := unframe_at (outB l i) r (blockB ByteArray.empty (blk l i)) (blockB_ok _ _) hbl
  have hs : ∀ p, p ∈ blk l i → p.fKey.size ≤ 1000000 ∧ p.fVal.size ≤ 1000000 := fun p hp => by have := tabOk_sizes h p (blk_mem hp); omega
  unfold irAt
  rw [e, hu, if_pos rfl]
  exact irGo_block (blk l i) _ _ out (by have := blockB_long (blk l i) hs ByteArray.empty; simp only; omega) ho hs
theorem irAll_tab {l : List MPair} (h : tabOk l = true) : ∀ (d i : Nat), i + d = nBlk l → irAll (outB l (nBlk l)) ((plc l (nBlk l)).drop i) (l.take (4 * i)) = (l, true) := by
  intro d
  induction d with
  | zero =>
    intro i hi
    have : i = nBlk l := by omega
    subst this
    rw [List.drop_of_length_le (by rw [plc_length]; omega), irAll, List.take_of_length_le (nBlk_le h).2.2]
  | succ d ih =>
    intro i hi
    have hil : i < (plc l (nBlk l)).length := by rw [plc_length]; omega
    have e : (plc l (nBlk l))[i] = ((outB l i).length : Int) := by simp [plc]
    have hl := (tabOk_len h).2
    have ht : (l.take (4 * i)).length + (blk l i).length ≤ 200 := by
      have h2 := congrArg List.length (take_blk l i)
      rw [List.length_append] at h2
      rw [h2, List.length_take]
      omega
    rw [List.drop_eq_getElem_cons hil, irAll, e, irAt_tab h (by omega) _ ht, if_pos rfl, take_blk]
    exact ih (i + 1) (by omega)

theorem ixr_step {l : List MPair} (hs : ∀ p, p ∈ l → p.fKey.size ≤ 20 ∧ p.fVal.size ≤ 20) (i : Nat) (hO : (outB l i).length ≤ 1000000000) (F : List Int) :
    xR2 (idx1 l i ++ F) = F ∧ xBad (idx1 l i ++ F) false = false ∧ xAt (idx1 l i ++ F) = ((outB l i).length : Int) := by
  have hk := lastK_few (l := blk l i) (fun p hp => hs p (blk_mem hp))
  have hkl : (strInts (lastK ByteArray.empty (blk l i))).length ≤ 20 := by rw [strInts_length]; exact hk
  have e0 : idx1 l i ++ F = putNum ((strInts (lastK ByteArray.empty (blk l i))).length : Int) ++ (strInts (lastK ByteArray.empty (blk l i)) ++ (putNum ((outB l i).length : Int) ++ F)) := by
    unfold idx1 putText
    rw [clampN_in (by omega) (by omega), clampN_in (by omega) (by omega), sizeInts]
    simp
  rw [e0]
  generalize strInts (lastK ByteArray.empty (blk l i)) = ts at *
  have t := text_head ts (putNum ((outB l i).length : Int) ++ F) (by omega)
  have z1 : xR1 (putNum (ts.length : Int) ++ (ts ++ (putNum ((outB l i).length : Int) ++ F))) = putNum ((outB l i).length : Int) ++ F := by
    unfold xR1
    rw [t, ← List.append_assoc]
    exact restL_pre _ _
  have g := num_head (N := ((outB l i).length : Int)) (by omega) (by omega) F
  refine ⟨?_, ?_, ?_⟩
  · unfold xR2
    rw [z1, g]
    exact restL_pre _ _
  · unfold xBad
    rw [z1, g, t]
    rfl
  · unfold xAt
    rw [z1, g]
theorem ixrGo_at {l : List MPair} (hs : ∀ p, p ∈ l → p.fKey.size ≤ 20 ∧ p.fVal.size ≤ 20) (n : Nat) (hO : ∀ i, i ≤ n → (outB l i).length ≤ 1000000000) (F : List Int) :
    ∀ (d i f : Nat) (r : List Int), i + d = n → d < f → idxB l n = idxB l i ++ r → ixrGo (n : Int) f (r ++ F) false (plc l i) = (plc l n, F, false) := by
  intro d
  induction d with
  | zero =>
    intro i f r hi hf hr
    obtain ⟨f, rfl⟩ : ∃ g, f = g + 1 := ⟨f - 1, by omega⟩
    have : i = n := by omega
    subst this
    have h2 := congrArg List.length hr
    rw [List.length_append] at h2
    have hr0 : r = [] := List.eq_nil_of_length_eq_zero (by omega)
    rw [ixrGo, if_neg (by rw [plc_length]; omega), hr0, List.nil_append]
  | succ d ih =>
    intro i f r hi hf hr
    obtain ⟨f, rfl⟩ : ∃ g, f = g + 1 := ⟨f - 1, by omega⟩
    obtain ⟨r2, hr2⟩ := idxB_pre l (i := i + 1) (n := n) (by omega)
    have e : r = idx1 l i ++ r2 := by
      have h2 : idxB l i ++ r = idxB l i ++ (idx1 l i ++ r2) := by rw [← hr, hr2, idxB, List.append_assoc]
      exact List.append_cancel_left h2
    obtain ⟨s1, s2, s3⟩ := ixr_step hs i (hO i (by omega)) (r2 ++ F)
    rw [e, List.append_assoc, ixrGo, if_pos ⟨by rw [plc_length]; omega, rfl⟩, s1, s2, s3, ← plc_succ]
    exact ih (i + 1) f r2 (by omega) (by omega) hr2
theorem ixrB_tab {l : List MPair} (h : tabOk l = true) : ixrB (putNum (clampN (nBlk l)) ++ idxB l (nBlk l) ++ flt (keysP l)) = some (plc l (nBlk l)) := by
  have hn := nBlk_le h
  rw [clampN_in (by omega) (by omega), List.append_assoc]
  have g := num_head (N := (nBlk l : Int)) (by omega) (by omega) (idxB l (nBlk l) ++ flt (keysP l))
  have hlong : nBlk l ≤ (idxB l (nBlk l)).length := by
    have key : ∀ n, n ≤ (idxB l n).length := by
      intro n
      induction n with
      | zero => simp
      | succ n ih =>
        have := (putNum_length (clampN (outB l n).length)).1
        rw [idxB, List.length_append]
        unfold idx1
        rw [List.length_append]
        omega
    exact key _
  have r := ixrGo_at (tabOk_sizes h) (nBlk l) (fun i hi => by have := outB_little h i hi; omega) (flt (keysP l)) (nBlk l) 0 ((putNum (nBlk l : Int) ++ (idxB l (nBlk l) ++ flt (keysP l))).length + 2) (idxB l (nBlk l)) (by omega) (by simp only [List.length_append]; omega) rfl
  unfold ixrB
  rw [g]
  simp only
  rw [restL_pre]
  have hb : badB true false = false := rfl
  have hp : plc l 0 = [] := rfl
  rw [hb, ← hp, r]
  unfold ixrE
  rw [if_pos ⟨rfl, flt_length _⟩]
theorem ixR_tab {l : List MPair} (h : tabOk l = true) : ixR (tabB l) = some (plc l (nBlk l)) ∧ (tabB l).take (rd4 (tabB l) ((tabB l).length - 4)).toNat = outB l (nBlk l) := by
  have hO := outB_little h (nBlk l) (Nat.le_refl _)
  have hI := ixrB_tab h
  have hIl := idx_little h
  have hIo := idx_ok l
  unfold tabB
  generalize putNum (clampN (nBlk l)) ++ idxB l (nBlk l) ++ flt (keysP l) = ix at *
  generalize outB l (nBlk l) = O at *
  have hr := rd4_at (O ++ frame ix) [] (x := (O.length : Int)) (by omega) (by omega)
  rw [List.append_nil] at hr
  have hu := unframe_at O (four (O.length : Int)) ix hIo (by omega)
  rw [← List.append_assoc] at hu
  have hl : (O ++ frame ix ++ four (O.length : Int)).length - 4 = (O ++ frame ix).length := by simp [four_length]; omega
  refine ⟨?_, ?_⟩
  · unfold ixR
    rw [hl, hr, hu, if_neg (by simp [four_length]; omega), if_pos ⟨rfl, by simp [four_length]; omega⟩]
    exact hI
  · rw [hl, hr, Int.toNat_natCast, List.append_assoc, List.take_left' rfl]
theorem rpS_tab {l : List MPair} {zs : List Int} (h : tabOk l = true) (hz : tabB l = zs) : rpS zs = (l, true) := by
  subst hz
  obtain ⟨h1, h2⟩ := ixR_tab h
  have h3 := irAll_tab h (nBlk l) 0 (by omega)
  simp only [List.drop_zero, Nat.mul_zero, List.take_zero] at h3
  unfold rpS
  rw [h1]
  simp only
  rw [h2]
  exact h3
/-- What the program answers is what the specification answers. -/
theorem rp_tp (zs : List Int) : tpS zs = if (rpS zs).2 = true ∧ tabP (rpS zs).1 = zs ∧ zs ≠ [] then ((rpS zs).1, true) else ([], false) := by
  by_cases hc : (rpS zs).2 = true ∧ tabP (rpS zs).1 = zs ∧ zs ≠ []
  · rw [if_pos hc]
    have ho : tabOk (rpS zs).1 = true := by
      by_cases h : tabOk (rpS zs).1 = true
      · exact h
      · have h2 := hc.2.1
        unfold tabP at h2
        rw [if_neg h] at h2
        exact absurd h2.symm hc.2.2
    have h2 := hc.2.1
    unfold tabP at h2
    rw [if_pos ho] at h2
    exact tpS_yes ho h2
  · rw [if_neg hc]
    refine tpS_no fun l hl hz => hc ?_
    have h1 := rpS_tab hl hz
    rw [h1]
    refine ⟨rfl, ?_, ?_⟩
    · unfold tabP; rw [if_pos hl]; exact hz
    · intro h0
      rw [h0] at hz
      have := congrArg List.length hz
      unfold tabB at this
      simp [four_length] at this

end Go.Proofs.YtmedljankefhbaaDoor
