/-
  'copy' between slices of structs; no program is named here.
-/
import Derived.Laws.CopyOwn
import Derived.Test.YtcbhmbgmeodjdaaDoorDatR
import Derived.Test.YtcbhmbgmeodjdaaDoorDat
namespace Go.Proofs.YtcbhmbgmeodjdaaDoor
open Go.RowKit

theorem run_copy_rows {P : Program} (w : World) (dT sT ty elem : TypeId) (size : Nat) (g o dLen dCap : Nat) (a : Addr) (sLen sCap : Nat) (cur : Array Value) (t : TypeId) (cs : List Value)
    (hu : P.underlying dT = some (.slice elem)) (hs : (P.info? elem).map (·.size) = some size)
    (hg : w.heap[g]? = some (.cells cur t (0, 0))) (hn : cs.length = Nat.min sLen dLen * size)
    (hsrc : ∀ j v, cs[j]? = some v → w.cell? (a.add j) = some v) (hfit : o + cs.length ≤ cur.size) (h1 : ∀ v ∈ cs, v.oneCell' = true) :
    (Builtin.copy_ #[dT, sT] ty #[.slice (some ⟨g, o, none⟩) dLen dCap, .slice (some a) sLen sCap]).run P w =
      .ok (goInt (Nat.min sLen dLen)) (w.setRow g (cur.toList.take o ++ cs ++ cur.toList.drop (o + cs.length)).toArray) := by
  have hl := run_loadCells_list (P := P) w a cs hsrc
  have hst := run_storeCells_at P g o t cs 0 cur w hg (by simpa using hfit) h1
  cases hq : P.info? elem with
  | none => simp [hq] at hs
  | some i =>
    have hi : i.size = size := by simpa [hq] using hs
    simp [Builtin.copy_, run_underlying hu, Builtin.lenOf, Builtin.firstCells, sizeOf, typeInfo, hq, hi, ← hn, hl, hst]

theorem wpList_copy_rows {P : Program} {w : World} {ops : Array Oper} {rest : List Oper} {o : Oper} {a : Act} {Q : Exit → Act → World → Prop} (hgd : o.guard = none) (d s : Operand) (dT sT : TypeId)
    (ho : o.op = .call { callee := .builtin .copy, args := #[d, s], argTypes := #[dT, sT] }) (elem : TypeId) (size : Nat) (hu : P.underlying dT = some (.slice elem)) (hsz : (P.info? elem).map (·.size) = some size)
    (g off dLen dCap : Nat) (ad : Addr) (sLen sCap : Nat) (hd : a.eval d = .slice (some ⟨g, off, none⟩) dLen dCap) (hs : a.eval s = .slice (some ad) sLen sCap)
    (cur : Array Value) (t : TypeId) (hg : w.heap[g]? = some (.cells cur t (0, 0))) (cs : List Value) (hn : cs.length = Nat.min sLen dLen * size)
    (hsrc : ∀ j v, cs[j]? = some v → w.cell? (ad.add j) = some v) (hfit : off + cs.length ≤ cur.size) (h1 : ∀ v ∈ cs, v.oneCell' = true)
    (h : wpList P ops Q rest (a.put o.dst (goInt (Nat.min sLen dLen))) (w.setRow g (cur.toList.take off ++ (cs ++ cur.toList.drop (off + cs.length))).toArray)) : wpList P ops Q (o :: rest) a w := by
  refine wpList_plain hgd fun K hK => ?_
  have hrun := run_copy_rows (P := P) w dT sT o.type elem size g off dLen dCap ad sLen sCap cur t cs hu hsz hg hn hsrc hfit h1
  unfold Oper.wp
  simp [execOp, ho, resolve, invoke, builtin, hd, hs, hrun, Result.andThen]
  exact hK _ _ h

/-- The cells of a list that is read, one behind the other. -/
theorem RdS.cells {α : Type} {size : Nat} {R : Rep α} {B : Nat} {w : World} {b off : Nat} {l : List α} (h : RdS size R B w (some ⟨b, off, none⟩) l) : ∀ k, k ≤ l.length →
    ∃ css : List (List Value), css.length = k ∧ (∀ c, c ∈ css → c.length = size) ∧ (∀ j, (h1 : j < l.length) → (h2 : j < css.length) → R B w css[j] l[j]) ∧ ∀ i u, css.flatten[i]? = some u → w.cell? ⟨b, off + i, none⟩ = some u
  | 0, _ => ⟨[], rfl, (fun _ hc => by cases hc), (fun _ _ h2 => by simp at h2), (fun i u hu => by simp at hu)⟩
  | k + 1, hk => by
    obtain ⟨css, h1, h2, h3, h4⟩ := RdS.cells h k (by omega)
    obtain ⟨b', off', e, _, cs, hc1, hc2, hc3⟩ := h k (by omega)
    simp only [Option.some.injEq, Addr.mk.injEq, and_true] at e
    obtain ⟨rfl, rfl⟩ := e
    have hfl : css.flatten.length = k * size := by
      rw [List.length_flatten]
      have : css.map List.length = List.replicate k size := by
        apply List.ext_getElem
        · simp [h1]
        · intro i hi1 hi2
          simp only [List.getElem_map, List.getElem_replicate]
          exact h2 _ (List.getElem_mem _)
      rw [this]
      simp
    refine ⟨css ++ [cs], by simp [h1], ?_, ?_, ?_⟩
    · intro c hc
      rcases List.mem_append.1 hc with hc | hc
      · exact h2 c hc
      · simp at hc; subst hc; exact hc1
    · intro j hj hj2
      by_cases hjk : j < k
      · rw [List.getElem_append_left (by omega)]
        exact h3 j hj (by omega)
      · have hje : j = k := by simp at hj2; omega
        subst hje
        rw [List.getElem_append_right (by omega)]
        simpa [h1] using hc3
    · intro i u hu
      rw [List.flatten_append] at hu
      by_cases hi : i < k * size
      · rw [List.getElem?_append_left (by omega)] at hu
        exact h4 i u hu
      · rw [List.getElem?_append_right (by omega), hfl] at hu
        have h5 := hc2 (i - k * size) u (by simpa using hu)
        rw [show off + k * size + (i - k * size) = off + i from by omega] at h5
        exact h5

theorem flat_part {size : Nat} {css : List (List Value)} (h : ∀ c, c ∈ css → c.length = size) {j : Nat} (hj : j < css.length) : (css.flatten.drop (j * size)).take size = css[j] := by
  apply List.ext_getElem?
  intro i
  rw [List.getElem?_take, List.getElem?_drop]
  by_cases hi : i < size
  · rw [if_pos hi, flatten_at h hi, List.getElem?_eq_getElem hj, Option.bind_some]
  · rw [if_neg hi, List.getElem?_eq_none (by rw [h _ (List.getElem_mem hj)]; omega)]

theorem flat_len {size : Nat} : ∀ {css : List (List Value)}, (∀ c, c ∈ css → c.length = size) → css.flatten.length = css.length * size
  | [], _ => by simp
  | c :: r, h => by
    rw [List.flatten_cons, List.length_append, h c (by simp), flat_len (fun x hx => h x (by simp [hx])), List.length_cons, Nat.succ_mul]
    omega

/-- Rows of entries in a block of one's own. -/
theorem ownS_ents {w : World} {elem g n : Nat} {l : List MEntry} {css : List (List Value)} (hl : l.length = n) (hm : n ≤ maxLen) (hc : css.length = n) (h2 : ∀ c, c ∈ css → c.length = 2) {B : Nat} {w0 : World} (h3 : ∀ j, (h1 : j < l.length) → (h2 : j < css.length) → rEntry B w0 css[j] l[j])
    (hg : w.heap[g]? = some (.cells css.flatten.toArray elem (0, 0))) : ownS 2 elem oEntry w (.slice (some ⟨g, 0, none⟩) n n) l [g] := by
  refine .inr ⟨g, n, _, List.replicate n [], by rw [hl], hg, by omega, hm, by rw [List.size_toArray, flat_len h2, hc], by simp [hl], ?_, by simp⟩
  intro j hj
  have hj2 : j < css.length := by omega
  rw [List.toList_toArray, flat_part h2 hj2]
  obtain ⟨e1, e2, e3, _⟩ := h3 j hj hj2
  refine ⟨e1, e2, e3, ?_⟩
  rw [List.getD_eq_getElem?_getD]
  simp [show j < n from by omega]

theorem run_copy_none' {P : Program} (w : World) (dT sT ty elem : TypeId) (size : Nat) (dp sp : Option Addr) (dCap sCap : Nat)
    (hu : P.underlying dT = some (.slice elem)) (hs : (P.info? elem).map (·.size) = some size) :
    (Builtin.copy_ #[dT, sT] ty #[.slice dp 0 dCap, .slice sp 0 sCap]).run P w = .ok (goInt 0) w := by
  cases hq : P.info? elem with
  | none => simp [hq] at hs
  | some i => cases sp <;> cases dp <;> simp [Builtin.copy_, run_underlying hu, Builtin.lenOf, Builtin.firstCells, sizeOf, typeInfo, hq, loadCells, loadCellsFrom, storeCells]

theorem wpList_copy_ent {P : Program} {w : World} {ops : Array Oper} {rest : List Oper} {o : Oper} {a : Act} {Q : Exit → Act → World → Prop} (hgd : o.guard = none) (d s : Operand) (dT sT : TypeId)
    (ho : o.op = .call { callee := .builtin .copy, args := #[d, s], argTypes := #[dT, sT] }) (elem : TypeId) (hu : P.underlying dT = some (.slice elem)) (hsz : (P.info? elem).map (·.size) = some 2)
    (g n c : Nat) (ao : Option Addr) (hd : a.eval d = .slice (some ⟨g, 0, none⟩) n n) (hs : a.eval s = .slice ao n c)
    (cur : Array Value) (hg : w.heap[g]? = some (.cells cur elem (0, 0))) (hcur : cur.size = n * 2) (l : List MEntry) (hl : l.length = n) (B : Nat) (hr : RdS 2 rEntry B w ao l) (hm : n ≤ maxLen)
    (h : ∀ w', ownS 2 elem oEntry w' (.slice (some ⟨g, 0, none⟩) n n) l [g] → Turn [g] w w' → wpList P ops Q rest (a.put o.dst (goInt n)) w') : wpList P ops Q (o :: rest) a w := by
  by_cases h0 : n = 0
  · subst h0
    have hnil : l = [] := List.eq_nil_of_length_eq_zero hl
    subst hnil
    refine wpList_plain hgd fun K hK => ?_
    have hrun := run_copy_none' (P := P) w dT sT o.type elem 2 (some ⟨g, 0, none⟩) ao 0 c hu hsz
    unfold Oper.wp
    simp [execOp, ho, resolve, invoke, builtin, hd, hs, hrun, Result.andThen]
    refine hK _ _ (h w ?_ (Turn.refl _ _))
    exact ownS_ents (css := []) rfl (by simp [maxLen]) rfl (fun _ hc => by cases hc) (B := B) (w0 := w) (fun j hj => by simp at hj) (by have : cur = #[] := Array.eq_empty_of_size_eq_zero (by omega); rw [this] at hg; simpa using hg)
  · obtain ⟨b, off, rfl, _⟩ := hr 0 (by omega)
    obtain ⟨css, c1, c2, c3, c4⟩ := hr.cells l.length (Nat.le_refl _)
    have hfl := flat_len c2
    rw [c1, hl] at hfl
    have hone : ∀ v ∈ css.flatten, v.oneCell' = true := by
      intro v hv
      obtain ⟨cs, hcs, hvc⟩ := List.mem_flatten.1 hv
      obtain ⟨j, hj, rfl⟩ := List.mem_iff_getElem.1 hcs
      obtain ⟨e1, _⟩ := c3 j (by omega) hj
      rw [e1] at hvc
      simp at hvc
      rcases hvc with rfl | rfl <;> rfl
    refine wpList_copy_rows hgd d s dT sT ho elem 2 hu hsz g 0 n n ⟨b, off, none⟩ n c hd hs cur elem hg css.flatten (by rw [hfl]; simp) ?_ (by omega) hone ?_
    · intro j v hv
      rw [Addr.add_lit]
      exact c4 j v hv
    · have e1 : cur.toList.take 0 ++ (css.flatten ++ cur.toList.drop (0 + css.flatten.length)) = css.flatten := by
        rw [List.take_zero, List.nil_append, List.drop_eq_nil_of_le (by rw [Array.length_toList, hcur, Nat.zero_add, hfl]; exact Nat.le_refl _), List.append_nil]
      rw [e1]
      have e2 : Nat.min n n = n := Nat.min_self n
      rw [e2]
      refine h _ (ownS_ents hl hm (by omega) c2 c3 (setRow_heap w g cur _ elem _ hg)) ⟨rfl, rfl, rfl, by simp [World.setRow], fun k _ hk => setRow_other w g k _ (fun e => hk (by simp [e]))⟩

end Go.Proofs.YtcbhmbgmeodjdaaDoor
