/-
  Part 4 of the texts that the proof leans on.
-/
import Derived.Laws.CopyOwn
import Derived.Test.YtolciaheoanlbaaGreatDoorPack2
import Derived.Test.YtolciaheoanlbaaGreatDoorPack0
import Derived.Test.YtolciaheoanlbaaGreatDoorRows
import Derived.Test.YtolciaheoanlbaaGreatDoorChecked

/-
  Rows of structs: 'copy' between them, appends onto those of one's own, variables' blocks that may be written; no program is named here.
-/
namespace Go.Proofs.YtolciaheoanlbaaGreatDoor
open Go.RowKit
set_option linter.unusedVariables false
set_option linter.unusedSimpArgs false
theorem run_copy_rows {P : Program} (w : World) (dT sT ty elem : TypeId) (size : Nat) (g o dLen dCap : Nat) (a : Addr) (sLen sCap : Nat) (cur : Array Value) (t : TypeId) (cs : List Value)
  (hu : P.underlying dT = some (.slice elem)) (hs : (P.info? elem).map (·.size) = some size)
  (hg : w.heap[g]? = some (.cells cur t (0, 0))) (hn : cs.length = Nat.min sLen dLen * size)
  (hsrc : ∀ j v, cs[j]? = some v → w.cell? (a.add j) = some v) (hfit : o + cs.length ≤ cur.size) (h1 : ∀ v ∈ cs, v.oneCell' = true) :
  (Builtin.copy_ #[dT, sT] ty #[.slice (some ⟨g, o, none⟩) dLen dCap, .slice (some a) sLen sCap]).run P w =
   .ok (goInt (Nat.min sLen dLen)) (w.setRow g (cur.toList.take o ++ cs ++ cur.toList.drop (o + cs.length)).toArray) := by
 have hl := run_loadCells_list (P := P) w a cs hsrc
 have hst := run_storeCells_at P g o t cs 0 cur w hg (by simpa using hfit) h1
 cases hq : P.info? elem with
 | none => simp [hq] at hs
 | some i =>
  have hi : i.size = size := by simpa [hq] using hs
  simp [Builtin.copy_, run_underlying hu, Builtin.lenOf, Builtin.firstCells, sizeOf, typeInfo, hq, hi, ← hn, hl, hst]
theorem wpList_copy_rows {P : Program} {w : World} {ops : Array Oper} {rest : List Oper} {o : Oper} {a : Act} {Q : Exit → Act → World → Prop} (hgd : o.guard = none) (d s : Operand) (dT sT : TypeId)
  (ho : o.op = .call { callee := .builtin .copy, args := #[d, s], argTypes := #[dT, sT] }) (elem : TypeId) (size : Nat) (hu : P.underlying dT = some (.slice elem)) (hsz : (P.info? elem).map (·.size) = some size)
  (g off dLen dCap : Nat) (ad : Addr) (sLen sCap : Nat) (hd : a.eval d = .slice (some ⟨g, off, none⟩) dLen dCap) (hs : a.eval s = .slice (some ad) sLen sCap)
  (cur : Array Value) (t : TypeId) (hg : w.heap[g]? = some (.cells cur t (0, 0))) (cs : List Value) (hn : cs.length = Nat.min sLen dLen * size)
  (hsrc : ∀ j v, cs[j]? = some v → w.cell? (ad.add j) = some v) (hfit : off + cs.length ≤ cur.size) (h1 : ∀ v ∈ cs, v.oneCell' = true)
  (h : wpList P ops Q rest (a.put o.dst (goInt (Nat.min sLen dLen))) (w.setRow g (cur.toList.take off ++ (cs ++ cur.toList.drop (off + cs.length))).toArray)) : wpList P ops Q (o :: rest) a w := by
 refine wpList_plain hgd fun K hK => ?_
 have hrun := run_copy_rows (P := P) w dT sT o.type elem size g off dLen dCap ad sLen sCap cur t cs hu hsz hg hn hsrc hfit h1
 unfold Oper.wp
 simp [execOp, ho, resolve, invoke, builtin, hd, hs, hrun, Result.andThen]
 exact hK _ _ h
theorem RdS.cells {α : Type} {size : Nat} {R : Rep α} {B : Nat} {w : World} {b off : Nat} {l : List α} (h : RdS size R B w (some ⟨b, off, none⟩) l) : ∀ k, k ≤ l.length →
  ∃ css : List (List Value), css.length = k ∧ (∀ c, c ∈ css → c.length = size) ∧ (∀ j, (h1 : j < l.length) → (h2 : j < css.length) → R B w css[j] l[j]) ∧ ∀ i u, css.flatten[i]? = some u → w.cell? ⟨b, off + i, none⟩ = some u
 | 0, _ => ⟨[], rfl, (fun _ hc => by cases hc), (fun _ _ h2 => by simp at h2), (fun i u hu => by simp at hu)⟩
 | k + 1, hk => by
  obtain ⟨css, h1, h2, h3, h4⟩ := RdS.cells h k (by omega)
  obtain ⟨b', off', e, _, cs, hc1, hc2, hc3⟩ := h k (by omega)
  simp only [Option.some.injEq, Addr.mk.injEq, and_true] at e
  obtain ⟨rfl, rfl⟩ := e
  have hfl : css.flatten.length = k * size := by
   rw [List.length_flatten]
   have : css.map List.length = List.replicate k size := by
    apply List.ext_getElem
    ·simp [h1]
    ·intro i hi1 hi2
     simp only [List.getElem_map, List.getElem_replicate]
     exact h2 _ (List.getElem_mem _)
   rw [this]
   simp
  refine ⟨css ++ [cs], by simp [h1], ?_, ?_, ?_⟩
  ·intro c hc
   rcases List.mem_append.1 hc with hc | hc
   ·exact h2 c hc
   ·simp at hc; subst hc; exact hc1
  ·intro j hj hj2
   by_cases hjk : j < k
   ·rw [List.getElem_append_left (by omega)]
    exact h3 j hj (by omega)
   ·have hje : j = k := by simp at hj2; omega
    subst hje
    rw [List.getElem_append_right (by omega)]
    simpa [h1] using hc3
  ·intro i u hu
   rw [List.flatten_append] at hu
   by_cases hi : i < k * size
   ·rw [List.getElem?_append_left (by omega)] at hu
    exact h4 i u hu
   ·rw [List.getElem?_append_right (by omega), hfl] at hu
    have h5 := hc2 (i - k * size) u (by simpa using hu)
    rw [show off + k * size + (i - k * size) = off + i from by omega] at h5
    exact h5
theorem flat_part {size : Nat} {css : List (List Value)} (h : ∀ c, c ∈ css → c.length = size) {j : Nat} (hj : j < css.length) : (css.flatten.drop (j * size)).take size = css[j] := by
 apply List.ext_getElem?
 intro i
 rw [List.getElem?_take, List.getElem?_drop]
 by_cases hi : i < size
 ·rw [if_pos hi, flatten_at h hi, List.getElem?_eq_getElem hj, Option.bind_some]
 ·rw [if_neg hi, List.getElem?_eq_none (by rw [h _ (List.getElem_mem hj)]; omega)]
theorem flat_len {size : Nat} : ∀ {css : List (List Value)}, (∀ c, c ∈ css → c.length = size) → css.flatten.length = css.length * size
 | [], _ => by simp
 | c :: r, h => by
  rw [List.flatten_cons, List.length_append, h c (by simp), flat_len (fun x hx => h x (by simp [hx])), List.length_cons, Nat.succ_mul]
  omega
theorem run_copy_none' {P : Program} (w : World) (dT sT ty elem : TypeId) (size : Nat) (dp sp : Option Addr) (dCap sCap : Nat)
  (hu : P.underlying dT = some (.slice elem)) (hs : (P.info? elem).map (·.size) = some size) :
  (Builtin.copy_ #[dT, sT] ty #[.slice dp 0 dCap, .slice sp 0 sCap]).run P w = .ok (goInt 0) w := by
 cases hq : P.info? elem with
 | none => simp [hq] at hs
 | some i => cases sp <;> cases dp <;> simp [Builtin.copy_, run_underlying hu, Builtin.lenOf, Builtin.firstCells, sizeOf, typeInfo, hq, loadCells, loadCellsFrom, storeCells]
section
variable {P : Program} (w : World)
theorem run_append_src_at (base : Nat) (t tx ty e : TypeId) (i : TypeInfo) (z : Value) (size bytes : Nat) (ht : P.underlying t = some (.slice e)) (hi : P.info? e = some i) (hz : i.zero = some z)
  (hsize : i.size = size) (hby : i.bytes = bytes) (hzs : z.cells.size = size)
  (v : Value) (n : Nat) (xs : List Value) (hown : w.ownsRow base e size v n xs) (x : Value) (m : Nat) (news : List Value) (hs : Src P size tx x m news w)
  (h63 : n + m ≤ maxLen) (hbytes : (n + m) * bytes ≤ 140737488355328) (hbase : base ≤ w.heap.size) :
  ∃ v' w', (Builtin.append_ #[t, tx] ty #[v, x]).run P w = .ok v' w' ∧ w'.ownsRow base e size v' (n + m) (xs ++ news) ∧ w.grownBy w' v.ownBlock ∧ (v'.ownBlock = v.ownBlock ∨ v'.ownBlock = some w.heap.size) := by
 subst hsize
 subst hby
 have hl := hs.newsLen
 have hsmall : n + m ≤ 9223372036854775807 := by simp only [maxLen] at h63; omega
 have hlen : (xs ++ news).length = (n + m) * i.size := by rw [List.length_append, hown.1, hl, Nat.add_mul]
 have grown : ∀ (old : Nat), old < n + m → ∀ (row : Option Nat),
   (w.drew.alloc (.cells ((xs ++ news).toArray ++ Builtin.zeroCells z.cells (grownCap w (n + m) old e - (n + m))) e)).ownsRow base e i.size
    (.slice (some ⟨w.heap.size, 0, none⟩) (n + m) (grownCap w (n + m) old e)) (n + m) (xs ++ news) ∧
   w.grownBy (w.drew.alloc (.cells ((xs ++ news).toArray ++ Builtin.zeroCells z.cells (grownCap w (n + m) old e - (n + m))) e)) row := by
  intro old ho row
  have hge := grownCap_ge w (n + m) old e
  have hcm : grownCap w (n + m) old e ≤ maxLen := grownCap_le_maxLen w (n + m) old e h63
  refine ⟨⟨hlen, .inr ⟨w.heap.size, _, _, rfl, hbase, heap_alloc_new w.drew _, hge, hcm, ?_, ?_⟩⟩, ⟨rfl, rfl, rfl, by simp, fun k hk _ => Go.heap_alloc_old w.drew _ hk⟩⟩
  ·rw [Array.size_append, List.size_toArray, size_zeroCells, hzs, hlen, ← Nat.add_mul]
   congr 1
   omega
  ·rw [Array.toList_append, ← hlen]
   exact List.take_left
 rcases hown.2 with ⟨rfl, rfl⟩ | ⟨g, cap, cur, rfl, hbg, hg, hnc, hcm, hcs, htake⟩
 ·have hx : xs = [] := List.eq_nil_of_length_eq_zero (by simpa using hown.1)
  subst hx
  by_cases hm : m = 0
  ·subst hm
   have hn : news = [] := List.eq_nil_of_length_eq_zero (by simpa using hl)
   subst hn
   refine ⟨.slice none 0 0, w, ?_, World.ownsRow_nil w base e i.size, World.grownBy.refl _ _, .inl rfl⟩
   rcases hs.kind with ⟨e', hk⟩ | hk <;> simp [Builtin.append_, run_underlying ht, run_underlying hk, sizeOf, typeInfo, hi, hs.len, hs.cells]
  ·have hr := run_append_grow_src (P := P) w t tx ty e i z ht hi hz none 0 0 [] (run_firstCells_none w.drew i.size 0 0 0) x m news hs (by omega) (by omega) (growslice_fits (by omega) hbytes)
   have hgr := grown 0 (by omega) (Value.ownBlock (.slice none 0 0))
   exact ⟨_, _, hr, hgr.1, hgr.2, .inr rfl⟩
 ·by_cases hroom : n + m ≤ cap
  ·have hfit : n * i.size + news.length ≤ cur.size := by rw [hl, hcs, ← Nat.add_mul]; exact Nat.mul_le_mul_right _ hroom
   have hr := run_append_room_src (P := P) w t tx ty e i ht hi g 0 n cap x m news hs hroom
    (fun j hj => by rw [Nat.zero_add, cell_of_row w g _ cur e (0, 0) hg, Array.getElem?_eq_getElem (by omega)]; rfl) (fun j hj => frozen_of_row w g _ cur e hg)
   rw [Nat.zero_add] at hr
   obtain ⟨⟨cur', h2, h3, h4⟩, h5⟩ := setCells_row g e news (n * i.size) w cur hg hfit
   refine ⟨_, _, hr, ⟨hlen, .inr ⟨g, cap, cur', rfl, hbg, h2, hroom, hcm, by rw [h3, hcs], ?_⟩⟩, h5, .inl rfl⟩
   rw [Nat.add_mul, ← hl, h4, htake]
  ·have holds : (Builtin.firstCells i.size n (.slice (some ⟨g, 0, none⟩) n cap)).run P w.drew = .ok xs.toArray w.drew :=
    run_firstCells_some w.drew i.size n ⟨g, 0, none⟩ n cap xs hown.1 (by simpa using hown.cells (g := g) rfl)
   have hr := run_append_grow_src (P := P) w t tx ty e i z ht hi hz (some ⟨g, 0, none⟩) n cap xs holds x m news hs (by omega) (by omega) (growslice_fits (by omega) hbytes)
   have hgr := grown cap (by omega) (Value.ownBlock (.slice (some ⟨g, 0, none⟩) n cap))
   exact ⟨_, _, hr, hgr.1, hgr.2, .inr rfl⟩
theorem run_append_lit (base : Nat) (t tx ty e : TypeId) (i : TypeInfo) (z : Value) (size bytes : Nat) (ht : P.underlying t = some (.slice e)) (hi : P.info? e = some i) (hz : i.zero = some z)
  (hsize : i.size = size) (hby : i.bytes = bytes) (hzs : z.cells.size = size)
  (g : Nat) (hown : w.ownsRow base e size (.slice (some ⟨g, 0, none⟩) 0 0) 0 []) (x : Value) (m : Nat) (news : List Value) (hs : Src P size tx x m news w)
  (h63 : m ≤ maxLen) (hbytes : m * bytes ≤ 140737488355328) (hbase : base ≤ w.heap.size) :
  ∃ v' w', (Builtin.append_ #[t, tx] ty #[.slice (some ⟨g, 0, none⟩) 0 0, x]).run P w = .ok v' w' ∧ w'.ownsRow base e size v' m news ∧ Below w.heap.size w w' ∧ (v'.ownBlock = some g ∨ v'.ownBlock = some w.heap.size) := by
 subst hsize
 subst hby
 have hl := hs.newsLen
 rcases hown.2 with ⟨h0, _⟩ | ⟨g', cap, cur, h0, hbg, hg, hnc, hcm, hcs, htake⟩
 ·cases h0
 ·simp only [Value.slice.injEq, Option.some.injEq, Addr.mk.injEq, and_true, true_and] at h0
  obtain ⟨rfl, rfl⟩ := h0
  by_cases hm : m = 0
  ·subst hm
   have hn : news = [] := List.eq_nil_of_length_eq_zero (by simpa using hl)
   subst hn
   have hr := run_append_room_src (P := P) w t tx ty e i ht hi g 0 0 0 x 0 [] hs (by omega) (fun j hj => by simp at hj) (fun j hj => by simp at hj)
   exact ⟨_, _, hr, hown, Below.refl _ _, .inl rfl⟩
  ·have holds : (Builtin.firstCells i.size 0 (.slice (some ⟨g, 0, none⟩) 0 0)).run P w.drew = .ok ([] : List Value).toArray w.drew :=
    run_firstCells_some w.drew i.size 0 ⟨g, 0, none⟩ 0 0 [] (by simp) (fun j u hu => by simp at hu)
   have hr := run_append_grow_src (P := P) w t tx ty e i z ht hi hz (some ⟨g, 0, none⟩) 0 0 [] holds x m news hs (by omega) (by simp only [maxLen] at h63; omega) (growslice_fits (by omega) (by simpa using hbytes))
   simp only [List.nil_append, Nat.zero_add] at hr
   have hge := grownCap_ge w m 0 e
   have hcm2 : grownCap w m 0 e ≤ maxLen := grownCap_le_maxLen w m 0 e h63
   refine ⟨_, _, hr, ⟨hl, .inr ⟨w.heap.size, _, _, rfl, hbase, heap_alloc_new w.drew _, hge, hcm2, ?_, ?_⟩⟩, Below.alloc (Below.drew (Below.refl _ _)) (Nat.le_refl _) _, .inr rfl⟩
   ·rw [Array.size_append, List.size_toArray, size_zeroCells, hzs, hl, ← Nat.add_mul]
    congr 1
    omega
   ·rw [Array.toList_append, ← hl]
    exact List.take_left
theorem step_append_lit {ops : Array Oper} {o : Oper} {a : Act} {K : Act → World → Prop} {Q : Exit → Act → World → Prop} {E : Prop} (hgd : o.guard = none) (s x : Operand) (t tx : TypeId)
  (ho : o.op = .call { callee := .builtin .append, args := #[s, x], argTypes := #[t, tx] })
  (base : Nat) (e : TypeId) (i : TypeInfo) (z : Value) (size bytes : Nat) (ht : P.underlying t = some (.slice e)) (hi : P.info? e = some i) (hz : i.zero = some z)
  (hsize : i.size = size) (hby : i.bytes = bytes) (hzs : z.cells.size = size)
  (g : Nat) (hs : a.eval s = .slice (some ⟨g, 0, none⟩) 0 0) (hown : w.ownsRow base e size (.slice (some ⟨g, 0, none⟩) 0 0) 0 [])
  (y : Value) (hy : a.eval x = y) (m : Nat) (news : List Value) (hx : Src P size tx y m news w)
  (h63 : m ≤ maxLen) (hbytes : m * bytes ≤ 140737488355328) (hbase : base ≤ w.heap.size)
  (h : ∀ v' w', w'.ownsRow base e size v' m news → Below w.heap.size w w' → (v'.ownBlock = some g ∨ v'.ownBlock = some w.heap.size) → K (a.put o.dst v') w') :
  if Region.wanted o (yielded ops a.tmps) = true then Oper.wp P o a w K Q else E := by
 have hw : Region.wanted o (yielded ops a.tmps) = true := by simp [Region.wanted, hgd]
 rw [if_pos hw]
 subst hy
 obtain ⟨v', w', hr, h2, h3, h4⟩ := run_append_lit (P := P) w base t tx o.type e i z size bytes ht hi hz hsize hby hzs g hown (a.eval x) m news hx h63 hbytes hbase
 unfold Oper.wp execOp
 simp only [ho, resolve, invoke, builtin, Sem.run_bind, Sem.run_pure, Result.andThen_ok, List.map_toArray, List.map_cons, List.map_nil, hs, hr]
 exact h v' w' h2 h3 h4
theorem step_append_src {ops : Array Oper} {o : Oper} {a : Act} {K : Act → World → Prop} {Q : Exit → Act → World → Prop} {E : Prop} (hgd : o.guard = none) (s x : Operand) (t tx : TypeId)
  (ho : o.op = .call { callee := .builtin .append, args := #[s, x], argTypes := #[t, tx] })
  (base : Nat) (e : TypeId) (i : TypeInfo) (z : Value) (size bytes : Nat) (ht : P.underlying t = some (.slice e)) (hi : P.info? e = some i) (hz : i.zero = some z)
  (hsize : i.size = size) (hby : i.bytes = bytes) (hzs : z.cells.size = size)
  (v : Value) (n : Nat) (xs : List Value) (hs : a.eval s = v) (hown : w.ownsRow base e size v n xs)
  (y : Value) (hy : a.eval x = y) (m : Nat) (news : List Value) (hx : Src P size tx y m news w)
  (h63 : n + m ≤ maxLen) (hbytes : (n + m) * bytes ≤ 140737488355328) (hbase : base ≤ w.heap.size)
  (h : ∀ v' w', w'.ownsRow base e size v' (n + m) (xs ++ news) → w.grownBy w' v.ownBlock → (v'.ownBlock = v.ownBlock ∨ v'.ownBlock = some w.heap.size) → K (a.put o.dst v') w') :
  if Region.wanted o (yielded ops a.tmps) = true then Oper.wp P o a w K Q else E := by
 have hw : Region.wanted o (yielded ops a.tmps) = true := by simp [Region.wanted, hgd]
 rw [if_pos hw]
 subst hy
 obtain ⟨v', w', hr, h2, h3, h4⟩ := run_append_src_at (P := P) w base t tx o.type e i z size bytes ht hi hz hsize hby hzs v n xs hown (a.eval x) m news hx h63 hbytes hbase
 unfold Oper.wp execOp
 simp only [ho, resolve, invoke, builtin, Sem.run_bind, Sem.run_pure, Result.andThen_ok, List.map_toArray, List.map_cons, List.map_nil, hs, hr]
 exact h v' w' h2 h3 h4
end
theorem Turn.drew {F : List Nat} {a b : World} (h : Turn F a b) : Turn F a b.drew := h.trans (Turn.ofBelow (Below.drew (Below.refl _ _)))
theorem Turn.alloc {F : List Nat} {a b : World} (h : Turn F a b) (o : Obj) : Turn F a (b.alloc o) := h.trans (Turn.ofBelow (Below.alloc (Below.refl _ _) (Nat.le_refl _) o))
theorem Turn.join {F G : List Nat} {a b c : World} (h : Turn F a b) (k : Turn G b c) (hG : ∀ x, x ∈ G → x ∈ F ∨ a.heap.size ≤ x) : Turn F a c :=
 ⟨k.os.trans h.os, k.tape.trans h.tape, k.output.trans h.output, Nat.le_trans h.size k.size, fun i hi hF => (k.block i (Nat.lt_of_lt_of_le hi h.size) (fun hm => by rcases hG i hm with h1 | h1; exact hF h1; omega)).trans (h.block i hi hF)⟩
theorem rowC {w : World} {g : Nat} {cs : Array Value} {t : TypeId} (h : w.heap[g]? = some (.cells cs t (0, 0))) (j : Nat) {v : Value} (hv : cs[j]? = some v) : w.cell? ⟨g, j, none⟩ = some v := by rw [cell_of_row _ _ _ _ _ (0, 0) h]; exact hv
theorem spot {w : World} {base e size n g s : Nat} {v : Value} {xs : List Value} (hw : w.ownsRow base e size v n xs) (hat : v.ownBlock = some g ∨ v.ownBlock = some s) : ∀ j, j ∈ v.ownBlock.toList → (j = g ∨ j = s) ∧ j < w.heap.size := fun j hj => by
 have h1 := (hw.lt j (by simpa using hj)).2
 rcases hat with h | h <;> (rw [h] at hj; simp at hj; subst hj; exact ⟨by simp, h1⟩)
theorem own_slice {w : World} {base e size n : Nat} {v : Value} {xs : List Value} (h : w.ownsRow base e size v n xs) : ∃ a c, v = .slice a n c := by
 rcases h.2 with ⟨rfl, h0⟩ | ⟨g, cap, cur, rfl, _⟩
 ·exact ⟨none, 0, by rw [h0]⟩
 ·exact ⟨_, cap, rfl⟩
theorem ownS.push {α : Type} {size : Nat} {e : TypeId} {O : ORep α} {R : Rep α} (hO : O.Good R size) {w : World} {v : Value} {l : List α} {F : List Nat} (h : ownS size e O w v l F) (hN : F.Nodup) :
  ∃ xs, w.ownsRow 0 e size v l.length xs ∧ ∀ (w' : World) (v' : Value) (news : List Value) (m' : α) (Fx : List Nat), w'.ownsRow 0 e size v' (l.length + 1) (xs ++ news) → w.grownBy w' v.ownBlock → (v'.ownBlock = v.ownBlock ∨ v'.ownBlock = some w.heap.size) → O w news m' Fx → Fx.Nodup → (∀ b, b ∈ Fx → b ∉ F) →
   ∃ F', ownS size e O w' v' (l ++ [m']) F' ∧ F'.Nodup ∧ ∀ b, b ∈ F' → b ∈ F ∨ b ∈ Fx ∨ b = w.heap.size := by
 have key : ∀ (Fs : List (List Nat)) (xs : List Value), Fs.length = l.length → (∀ j, (h : j < l.length) → O w ((xs.drop (j * size)).take size) l[j] (Fs.getD j [])) → (∀ b, b ∈ Fs.flatten → b ∈ F) → Fs.flatten.Nodup → (∀ k, v.ownBlock = some k → k ∈ F ∧ k ∉ Fs.flatten) → xs.length = l.length * size → 
   ∀ (w' : World) (v' : Value) (news : List Value) (m' : α) (Fx : List Nat), w'.ownsRow 0 e size v' (l.length + 1) (xs ++ news) → w.grownBy w' v.ownBlock → (v'.ownBlock = v.ownBlock ∨ v'.ownBlock = some w.heap.size) → O w news m' Fx → Fx.Nodup → (∀ b, b ∈ Fx → b ∉ F) →
   ∃ F', ownS size e O w' v' (l ++ [m']) F' ∧ F'.Nodup ∧ ∀ b, b ∈ F' → b ∈ F ∨ b ∈ Fx ∨ b = w.heap.size := by
  intro Fs xs f1 f2 f3 f4 f5 hxl w' v' news m' Fx ho hg hat hx hxN hxF
  have hnl := hO.len hx
  have hfr : ∀ b, b < w.heap.size → (∀ k, v.ownBlock = some k → b ≠ k) → w'.heap[b]? = w.heap[b]? := fun b hb hne => hg.block b hb (fun hh => hne b hh.symm rfl)
  have hFlt : ∀ j, (h : j < l.length) → ∀ b, b ∈ Fs.getD j [] → b < w.heap.size := fun j hj b hb => hO.lt (f2 j hj) b hb
  have hFin : ∀ j, (h : j < l.length) → ∀ b, b ∈ Fs.getD j [] → b ∈ Fs.flatten := fun j hj b hb => mem_flatten_getD (by omega) hb
  rcases ho.2 with ⟨_, h0⟩ | ⟨g, cap, cur, rfl, hb, hg', hnc, hm, hs, ht⟩
  ·omega
  ·have hgb : g ∈ F ∨ g = w.heap.size := by
    rcases hat with h | h
    ·exact .inl (f5 g h.symm).1
    ·right; simpa [Value.ownBlock] using h
   have hgn : g ∉ (Fs ++ [Fx]).flatten := by
    rw [List.flatten_append, List.mem_append]
    rintro (h | h)
    ·rcases hat with h' | h'
     ·exact (f5 g h'.symm).2 h
     ·have hgw : g = w.heap.size := by simpa [Value.ownBlock] using h'
      obtain ⟨j, hj, hjb⟩ := of_mem_flatten h
      have := hFlt j (by omega) g hjb
      omega
    ·have h : g ∈ Fx := by simpa using h
     rcases hgb with h' | h'
     ·exact hxF g h h'
     ·have := hO.lt hx g h; omega
   refine ⟨g :: (Fs ++ [Fx]).flatten, .inr ⟨g, cap, cur, Fs ++ [Fx], by simp, hg', by simpa using hnc, hm, hs, by simp [f1], ?_, rfl⟩, List.nodup_cons.2 ⟨hgn, ?_⟩, ?_⟩
   ·intro j hj
    have hj1 : j ≤ l.length := by simp at hj; omega
    have hpart : ∀ j, j ≤ l.length → (cur.toList.drop (j * size)).take size = ((xs ++ news).drop (j * size)).take size := by
     intro j hj
     rw [← ht]
     have hmul : (j + 1) * size ≤ (l.length + 1) * size := Nat.mul_le_mul_right _ (by omega)
     rw [Nat.succ_mul] at hmul
     apply List.ext_getElem?
     intro i
     rw [List.getElem?_take, List.getElem?_take, List.getElem?_drop, List.getElem?_drop, List.getElem?_take]
     by_cases hi : i < size
     ·rw [if_pos hi, if_pos hi, if_pos (by omega)]
     ·rw [if_neg hi, if_neg hi]
    by_cases hjl : j < l.length
    ·have e1 : ((xs ++ news).drop (j * size)).take size = (xs.drop (j * size)).take size := by
      have hmul : (j + 1) * size ≤ l.length * size := Nat.mul_le_mul_right _ hjl
      rw [Nat.succ_mul] at hmul
      apply List.ext_getElem?
      intro i
      rw [List.getElem?_take, List.getElem?_take, List.getElem?_drop, List.getElem?_drop]
      by_cases hi : i < size
      ·rw [if_pos hi, if_pos hi, List.getElem?_append_left (by omega)]
      ·rw [if_neg hi, if_neg hi]
     have e2 : (Fs ++ [Fx]).getD j [] = Fs.getD j [] := by rw [List.getD_eq_getElem?_getD, List.getD_eq_getElem?_getD, List.getElem?_append_left (by omega)]
     rw [hpart j hj1, e1, e2, List.getElem_append_left hjl]
     refine hO.frame (f2 j hjl) (fun b hb => hfr b (hFlt j hjl b hb) (fun k hk hbk => ?_))
     subst hbk
     exact (f5 b hk).2 (hFin j hjl b hb)
    ·have hje : j = l.length := by omega
     subst hje
     have e1 : ((xs ++ news).drop (l.length * size)).take size = news := by
      rw [← hxl, List.drop_left, List.take_of_length_le (by omega)]
     have e2 : (Fs ++ [Fx]).getD l.length [] = Fx := by rw [List.getD_eq_getElem?_getD, List.getElem?_append_right (by omega), f1, Nat.sub_self]; rfl
     rw [hpart _ hj1, e1, e2]
     have e3 : (l ++ [m'])[l.length] = m' := by simp
     rw [e3]
     refine hO.frame hx (fun b hb => hfr b (hO.lt hx b hb) (fun k hk hbk => ?_))
     subst hbk
     exact hxF b hb (f5 b hk).1
   ·rw [List.flatten_append]
    refine List.nodup_append.2 ⟨f4, by simpa using hxN, ?_⟩
    intro a ha b hb' hab
    subst hab
    exact hxF a (by simpa using hb') (f3 a ha)
   ·intro b hb
    rcases List.mem_cons.1 hb with rfl | hb
    ·rcases hgb with h | h
     ·exact .inl h
     ·exact .inr (.inr h)
    ·rw [List.flatten_append, List.mem_append] at hb
     rcases hb with hb | hb
     ·exact .inl (f3 b hb)
     ·exact .inr (.inl (by simpa using hb))
 rcases h with ⟨rfl, rfl, rfl⟩ | ⟨g, cap, cur, Fs, rfl, h2, h3, h4, h5, h6, h7, rfl⟩
 ·exact ⟨[], World.ownsRow_nil w 0 e size, key [] [] rfl (fun j hj => by simp at hj) (fun b hb => by simp at hb) (by simp) (fun k hk => by simp [Value.ownBlock] at hk) (by simp)⟩
 ·rw [List.nodup_cons] at hN
  have hcl : cur.toList.length = cap * size := by simpa using h5
  have hle : l.length * size ≤ cap * size := Nat.mul_le_mul_right _ h3
  refine ⟨cur.toList.take (l.length * size), ⟨by rw [List.length_take]; omega, .inr ⟨g, cap, cur, rfl, Nat.zero_le _, h2, h3, h4, h5, rfl⟩⟩, key Fs _ h6 ?_ (fun b hb => List.mem_cons_of_mem _ hb) hN.2 (fun k hk => by simp [Value.ownBlock] at hk; subst hk; exact ⟨by simp, hN.1⟩) (by rw [List.length_take]; omega)⟩
  intro j hj
  have hmul : (j + 1) * size ≤ l.length * size := Nat.mul_le_mul_right _ hj
  rw [Nat.succ_mul] at hmul
  have e1 : ((cur.toList.take (l.length * size)).drop (j * size)).take size = (cur.toList.drop (j * size)).take size := by
   apply List.ext_getElem?
   intro i
   rw [List.getElem?_take, List.getElem?_take, List.getElem?_drop, List.getElem?_drop, List.getElem?_take]
   by_cases hi : i < size
   ·rw [if_pos hi, if_pos hi, if_pos (by omega)]
   ·rw [if_neg hi, if_neg hi]
  rw [e1]
  exact h7 j hj
def Bw (w : World) (b : Nat) (t : TypeId) (vs : List Value) : Prop := w.heap[b]? = some (.cells vs.toArray t (0, 0))
theorem Bw.lt {w : World} {b : Nat} {t : TypeId} {vs : List Value} (h : Bw w b t vs) : b < w.heap.size := (Array.getElem?_eq_some_iff.1 h).1
theorem Bw.cell {w : World} {b : Nat} {t : TypeId} {vs : List Value} (h : Bw w b t vs) (i : Nat) (u : Value) (hu : vs[i]? = some u) : w.cell? ⟨b, i, none⟩ = some u := by
 rw [cell_of_row w b i vs.toArray t (0, 0) h]
 simpa using hu
theorem Bw.free {w : World} {b : Nat} {t : TypeId} {vs : List Value} (h : Bw w b t vs) (i : Nat) : w.frozen? ⟨b, i, none⟩ = false := frozen_of_row w b i _ t h
theorem Bw.below {B : Nat} {w w' : World} {b : Nat} {t : TypeId} {vs : List Value} (h : Bw w b t vs) (hb : Below B w w') (hB : b < B) : Bw w' b t vs := (hb.block b hB).trans h
theorem Bw.under {w w' : World} {b : Nat} {t : TypeId} {vs : List Value} (h : Bw w b t vs) (hb : Below w.heap.size w w') : Bw w' b t vs := h.below hb h.lt
theorem Bw.turn {F : List Nat} {w w' : World} {b : Nat} {t : TypeId} {vs : List Value} (h : Bw w b t vs) (ht : Turn F w w') (hF : b ∉ F) : Bw w' b t vs := (ht.block b h.lt hF).trans h
theorem Bw.alloc {w : World} {b : Nat} {t : TypeId} {vs : List Value} (h : Bw w b t vs) (o : Obj) : Bw (w.alloc o) b t vs := h.under ((Below.refl _ _).alloc (Nat.le_refl _) o)
theorem Bw.new (w : World) (t : TypeId) (vs : List Value) : Bw (w.alloc (.cells vs.toArray t)) w.heap.size t vs := by
 show (w.heap.push _)[w.heap.size]? = _
 rw [Array.getElem?_push_size]
theorem Bw.new' (w : World) (t : TypeId) (vs : List Value) {b : Nat} (hb : b = w.heap.size) : Bw (w.alloc (.cells vs.toArray t)) b t vs := by
 subst hb
 exact Bw.new w t vs
theorem Bw.drew {w : World} {b : Nat} {t : TypeId} {vs : List Value} (h : Bw w b t vs) : Bw w.drew b t vs := h
theorem Bw.put {w : World} {b : Nat} {t : TypeId} {vs : List Value} (h : Bw w b t vs) (i : Nat) (u : Value) : Bw (w.setCell ⟨b, i, none⟩ u) b t (vs.set i u) := by
 have := heap_setCell_same w b i vs.toArray t u h
 unfold Bw
 rw [this]
 simp
theorem turn4 (w : World) (b : Nat) (u0 u1 u2 u3 : Value) : Turn [b] w ((((w.setCell ⟨b, 0, none⟩ u0).setCell ⟨b, 1, none⟩ u1).setCell ⟨b, 2, none⟩ u2).setCell ⟨b, 3, none⟩ u3) :=
 Turn.setCell (Turn.setCell (Turn.setCell (Turn.setCell (Turn.refl _ _) (by simp) _) (by simp) _) (by simp) _) (by simp) _
theorem ownS.leaf {α : Type} {size : Nat} {e : TypeId} {O : ORep α} {R : Rep α} (hO : O.Good R size) {w : World} {a : Option Addr} {c : Nat} {l : List α} {F : List Nat} (h : ownS size e O w (.slice a l.length c) l F) : LeafL size R w.heap.size w a c l := by
 obtain ⟨a', c', he, h1, h2, h3⟩ := ownS.read hO h
 simp only [Value.slice.injEq, true_and] at he
 obtain ⟨rfl, rfl⟩ := he
 exact ⟨h1, h2, h3⟩
end Go.Proofs.YtolciaheoanlbaaGreatDoor

/-
  Rows of entries: copied, appended; no program is named here.
-/
namespace Go.Proofs.YtolciaheoanlbaaGreatDoor
open Go.RowKit
set_option linter.unusedVariables false
set_option linter.unusedSimpArgs false
theorem ownS_ents {w : World} {elem g n : Nat} {l : List MEntry} {css : List (List Value)} (hl : l.length = n) (hm : n ≤ maxLen) (hc : css.length = n) (h2 : ∀ c, c ∈ css → c.length = 2) {B : Nat} {w0 : World} (h3 : ∀ j, (h1 : j < l.length) → (h2 : j < css.length) → rEntry B w0 css[j] l[j])
  (hg : w.heap[g]? = some (.cells css.flatten.toArray elem (0, 0))) : ownS 2 elem oEntry w (.slice (some ⟨g, 0, none⟩) n n) l [g] := by
 refine .inr ⟨g, n, _, List.replicate n [], by rw [hl], hg, by omega, hm, by rw [List.size_toArray, flat_len h2, hc], by simp [hl], ?_, by simp⟩
 intro j hj
 have hj2 : j < css.length := by omega
 rw [List.toList_toArray, flat_part h2 hj2]
 obtain ⟨e1, e2, e3, _⟩ := h3 j hj hj2
 refine ⟨e1, e2, e3, ?_⟩
 rw [List.getD_eq_getElem?_getD]
 simp [show j < n from by omega]
theorem wpList_copy_ent {P : Program} {w : World} {ops : Array Oper} {rest : List Oper} {o : Oper} {a : Act} {Q : Exit → Act → World → Prop} (hgd : o.guard = none) (d s : Operand) (dT sT : TypeId)
  (ho : o.op = .call { callee := .builtin .copy, args := #[d, s], argTypes := #[dT, sT] }) (elem : TypeId) (hu : P.underlying dT = some (.slice elem)) (hsz : (P.info? elem).map (·.size) = some 2)
  (g n c : Nat) (ao : Option Addr) (hd : a.eval d = .slice (some ⟨g, 0, none⟩) n n) (hs : a.eval s = .slice ao n c)
  (cur : Array Value) (hg : w.heap[g]? = some (.cells cur elem (0, 0))) (hcur : cur.size = n * 2) (l : List MEntry) (hl : l.length = n) (B : Nat) (hr : RdS 2 rEntry B w ao l) (hm : n ≤ maxLen)
  (h : ∀ w', ownS 2 elem oEntry w' (.slice (some ⟨g, 0, none⟩) n n) l [g] → Turn [g] w w' → wpList P ops Q rest (a.put o.dst (goInt n)) w') : wpList P ops Q (o :: rest) a w := by
 by_cases h0 : n = 0
 ·subst h0
  have hnil : l = [] := List.eq_nil_of_length_eq_zero hl
  subst hnil
  refine wpList_plain hgd fun K hK => ?_
  have hrun := run_copy_none' (P := P) w dT sT o.type elem 2 (some ⟨g, 0, none⟩) ao 0 c hu hsz
  unfold Oper.wp
  simp [execOp, ho, resolve, invoke, builtin, hd, hs, hrun, Result.andThen]
  refine hK _ _ (h w ?_ (Turn.refl _ _))
  exact ownS_ents (css := []) rfl (by simp [maxLen]) rfl (fun _ hc => by cases hc) (B := B) (w0 := w) (fun j hj => by simp at hj) (by have : cur = #[] := Array.eq_empty_of_size_eq_zero (by omega); rw [this] at hg; simpa using hg)
 ·obtain ⟨b, off, rfl, _⟩ := hr 0 (by omega)
  obtain ⟨css, c1, c2, c3, c4⟩ := hr.cells l.length (Nat.le_refl _)
  have hfl := flat_len c2
  rw [c1, hl] at hfl
  have hone : ∀ v ∈ css.flatten, v.oneCell' = true := by
   intro v hv
   obtain ⟨cs, hcs, hvc⟩ := List.mem_flatten.1 hv
   obtain ⟨j, hj, rfl⟩ := List.mem_iff_getElem.1 hcs
   obtain ⟨e1, _⟩ := c3 j (by omega) hj
   rw [e1] at hvc
   simp at hvc
   rcases hvc with rfl | rfl <;> rfl
  refine wpList_copy_rows hgd d s dT sT ho elem 2 hu hsz g 0 n n ⟨b, off, none⟩ n c hd hs cur elem hg css.flatten (by rw [hfl]; simp) ?_ (by omega) hone ?_
  ·intro j v hv
   rw [Addr.add_lit]
   exact c4 j v hv
  ·have e1 : cur.toList.take 0 ++ (css.flatten ++ cur.toList.drop (0 + css.flatten.length)) = css.flatten := by
    rw [List.take_zero, List.nil_append, List.drop_eq_nil_of_le (by rw [Array.length_toList, hcur, Nat.zero_add, hfl]; exact Nat.le_refl _), List.append_nil]
   rw [e1]
   have e2 : Nat.min n n = n := Nat.min_self n
   rw [e2]
   refine h _ (ownS_ents hl hm (by omega) c2 c3 (setRow_heap w g cur _ elem _ hg)) ⟨rfl, rfl, rfl, by simp [World.setRow], fun k _ hk => setRow_other w g k _ (fun e => hk (by simp [e]))⟩
theorem Src.ents {P : Program} {w : World} {B : Nat} {a : Option Addr} {l : List MEntry} {tx e' : TypeId} {n c : Nat} (hk : P.underlying tx = some (.slice e')) (hn : l.length = n) (hr : RdS 2 rEntry B w a l) :
  ∃ css : List (List Value), css.length = l.length ∧ (∀ c, c ∈ css → c.length = 2) ∧ (∀ j, (h1 : j < l.length) → (h2 : j < css.length) → rEntry B w css[j] l[j]) ∧ Src P 2 tx (.slice a n c) n css.flatten w := by
 cases a with
 | none =>
  have hz : l = [] := by
   cases l with
   | nil => rfl
   | cons z r =>
    obtain ⟨_, _, h, _⟩ := hr 0 (by simp)
    cases h
  subst hz
  simp only [List.length_nil] at hn
  subst hn
  exact ⟨[], rfl, (fun _ h => by cases h), (fun _ h => by simp at h), Src.ofNil w hk c⟩
 | some ad =>
  by_cases h0 : n = 0
  ·subst h0
   have hz : l = [] := List.eq_nil_of_length_eq_zero hn
   subst hz
   exact ⟨[], rfl, (fun _ h => by cases h), (fun _ h => by simp at h), Src.ofSlice w hk ad 0 c [] (by simp) (fun j u hu => by simp at hu) (fun u hu => by cases hu)⟩
  ·obtain ⟨b, off, e, _⟩ := hr 0 (by omega)
   simp only [Option.some.injEq] at e
   subst e
   obtain ⟨css, c1, c2, c3, c4⟩ := hr.cells l.length (Nat.le_refl _)
   have hfl := flat_len c2
   refine ⟨css, c1, c2, c3, Src.ofSlice w hk ⟨b, off, none⟩ n c css.flatten (by rw [hfl, c1, hn]) (fun j u hu => by rw [Addr.add_lit]; exact c4 j u hu) ?_⟩
   intro v hv
   obtain ⟨cs, hcs, hvc⟩ := List.mem_flatten.1 hv
   obtain ⟨j, hj, rfl⟩ := List.mem_iff_getElem.1 hcs
   obtain ⟨e1, _⟩ := c3 j (by omega) hj
   rw [e1] at hvc
   simp at hvc
   rcases hvc with rfl | rfl <;> rfl
theorem ownS_row {w w0 : World} {base elem : Nat} {v : Value} {l : List MEntry} {css : List (List Value)} {B n : Nat} (hn : l.length = n) (h1 : css.length = l.length) (h2 : ∀ c, c ∈ css → c.length = 2) (h3 : ∀ j, (h1 : j < l.length) → (h2 : j < css.length) → rEntry B w0 css[j] l[j])
  (h : w.ownsRow base elem 2 v n css.flatten) : ownS 2 elem oEntry w v l v.ownBlock.toList := by
 subst hn
 rcases h.2 with ⟨rfl, h0⟩ | ⟨g, cap, cur, rfl, hb, hg, hnc, hm, hs, ht⟩
 ·exact .inl ⟨rfl, List.eq_nil_of_length_eq_zero h0, rfl⟩
 ·refine .inr ⟨g, cap, cur, List.replicate l.length [], rfl, hg, hnc, hm, hs, by simp, ?_, by simp [Value.ownBlock]⟩
  intro j hj
  have hj2 : j < css.length := by omega
  have e0 : (cur.toList.drop (j * 2)).take 2 = css[j] := by
   rw [← flat_part h2 hj2, ← ht]
   apply List.ext_getElem?
   intro i
   rw [List.getElem?_take, List.getElem?_take, List.getElem?_drop, List.getElem?_drop, List.getElem?_take]
   by_cases hi : i < 2
   ·rw [if_pos hi, if_pos hi, if_pos (by omega)]
   ·rw [if_neg hi, if_neg hi]
  rw [e0]
  obtain ⟨e1, e2, e3, _⟩ := h3 j hj hj2
  refine ⟨e1, e2, e3, ?_⟩
  rw [List.getD_eq_getElem?_getD]
  simp [hj]
end Go.Proofs.YtolciaheoanlbaaGreatDoor

/-
  The specification's question whether a number lies between two others.
-/
namespace Go.Proofs.YtolciaheoanlbaaGreatDoor
open Go.RowKit
set_option linter.unusedVariables false
set_option maxRecDepth 10000
def inRange (x a b : Int) : Bool := decide (a ≤ x ∧ x ≤ b)
theorem inRange_yes {x a b : Int} (h1 : a ≤ x) (h2 : x ≤ b) : inRange x a b = true := decide_eq_true ⟨h1, h2⟩
theorem inRange_no {x a b : Int} (h : ¬ (a ≤ x ∧ x ≤ b)) : inRange x a b = false := decide_eq_false h
set_option maxHeartbeats 400000 in
theorem l1In_any (x a b : Int) (w : World) :
  Calls Tryz.prog 100 #[.int .i64 x, .int .i64 a, .int .i64 b] w fun e w' => e = .returned (.bool (inRange x a b)) ∧ w' = w := by
 by_cases h1 : a ≤ x
 ·by_cases h2 : x ≤ b
  ·have HV := Hid.mk (inRange_yes h1 h2)
   go_enter Tryz.func100, Tryz.ntmps100
   go_wp2
   go_ret
   exact ⟨by rw [HV.out]; rfl, rfl⟩
  ·have HV := Hid.mk (inRange_no (x := x) (a := a) (b := b) (by omega))
   go_enter Tryz.func100, Tryz.ntmps100
   go_wp2
   go_ret
   exact ⟨by rw [HV.out]; rfl, rfl⟩
 ·have HV := Hid.mk (inRange_no (x := x) (a := a) (b := b) (by omega))
  go_enter Tryz.func100, Tryz.ntmps100
  go_wp2
  go_ret
  exact ⟨by rw [HV.out]; rfl, rfl⟩
end Go.Proofs.YtolciaheoanlbaaGreatDoor

/-
  Disks, as plain functions: which are right; no program is named here.
-/
namespace Go.Proofs.YtolciaheoanlbaaGreatDoor
open Go.RowKit
def nameByte (c : Int) : Bool := decide (97 ≤ c ∧ c ≤ 122 ∨ 48 ≤ c ∧ c ≤ 57 ∨ c = 45 ∨ c = 46)
def nameOk (s : ByteArray) : Bool := decide (1 ≤ s.size ∧ s.size ≤ 12) && (byteInts s).all nameByte
theorem nameOk_long {s : ByteArray} (h : ¬ (1 ≤ s.size ∧ s.size ≤ 12)) : nameOk s = false := by
 unfold nameOk
 rw [decide_eq_false h]
 rfl
theorem nameOk_bad {s : ByteArray} {k : Nat} (hk : k < (byteInts s).length) (h : nameByte (byteInts s)[k] = false) : nameOk s = false := by
 unfold nameOk
 rw [Bool.and_eq_false_iff]
 right
 rw [List.all_eq_false]
 exact ⟨_, List.getElem_mem hk, by simp [h]⟩
theorem nameOk_good {s : ByteArray} (h : 1 ≤ s.size ∧ s.size ≤ 12) (ha : ∀ k, (hk : k < (byteInts s).length) → nameByte (byteInts s)[k] = true) : nameOk s = true := by
 unfold nameOk
 rw [decide_eq_true h, Bool.true_and, List.all_eq_true]
 intro x hx
 obtain ⟨k, hk, rfl⟩ := List.mem_iff_getElem.1 hx
 exact ha k hk
def named (l : List MEntry) (id : Int) : Bool := l.any fun e => decide (e.fId = id)
theorem named_yes {l : List MEntry} {id : Int} {k : Nat} (h : k < l.length) (he : l[k].fId = id) : named l id = true := by
 unfold named
 rw [List.any_eq_true]
 exact ⟨l[k], List.getElem_mem h, by simp [he]⟩
theorem named_no {l : List MEntry} {id : Int} (h : ∀ k, (hk : k < l.length) → l[k].fId ≠ id) : named l id = false := by
 unfold named
 rw [List.any_eq_false]
 intro e he
 obtain ⟨k, hk, rfl⟩ := List.mem_iff_getElem.1 he
 simp [h k hk]
def placeOf (l : List MInode) (id : Int) : Nat := l.findIdx fun n => decide (n.fId = id)
def hasId (l : List MInode) (id : Int) : Bool := l.any fun n => decide (n.fId = id)
def placeZ (l : List MInode) (id : Int) : Int := if hasId l id then (placeOf l id : Int) else -1
theorem hasId_yes {l : List MInode} {id : Int} {k : Nat} (h : k < l.length) (he : l[k].fId = id) : hasId l id = true := by
 unfold hasId
 rw [List.any_eq_true]
 exact ⟨l[k], List.getElem_mem h, by simp [he]⟩
theorem hasId_no {l : List MInode} {id : Int} (h : ∀ k, (hk : k < l.length) → l[k].fId ≠ id) : hasId l id = false := by
 unfold hasId
 rw [List.any_eq_false]
 intro e he
 obtain ⟨k, hk, rfl⟩ := List.mem_iff_getElem.1 he
 simp [h k hk]
theorem placeZ_at {l : List MInode} {id : Int} {k : Nat} (h : k < l.length) (he : l[k].fId = id) (hn : ∀ j, (hj : j < l.length) → j < k → l[j].fId ≠ id) : placeZ l id = k := by
 unfold placeZ
 rw [hasId_yes h he, if_pos rfl]
 have : placeOf l id = k := by
  unfold placeOf
  rw [List.findIdx_eq h]
  exact ⟨decide_eq_true he, fun j hj => by simp [hn j (by omega) hj]⟩
 rw [this]
theorem placeZ_no {l : List MInode} {id : Int} (hn : ∀ j, (hj : j < l.length) → l[j].fId ≠ id) : placeZ l id = -1 := by
 unfold placeZ
 rw [hasId_no hn]
 rfl
theorem placeZ_neg {l : List MInode} {id : Int} : placeZ l id < 0 ↔ hasId l id = false := by
 unfold placeZ
 cases hasId l id
 ·simp
 ·simp
def strLt (a b : ByteArray) : Bool := Op.bytesLess a.toList b.toList
def stepI (next prev : Int) (n : MInode) : Bool := decide (prev < n.fId ∧ n.fId < next ∧ 0 ≤ n.fSure ∧ n.fSure ≤ n.fData.length)
def okI (next : Int) : Int → List MInode → Bool
 | _, [] => true
 | prev, n :: r => stepI next prev n && okI next n.fId r
def stepE (l : List MInode) (seen : List Int) (prev : ByteArray) (e : MEntry) : Bool := hasId l e.fId && !seen.contains e.fId && strLt prev e.fName && nameOk e.fName
def okE (l : List MInode) : List Int → ByteArray → List MEntry → Bool
 | _, _, [] => true
 | seen, prev, e :: r => stepE l seen prev e && okE l (seen ++ [e.fId]) e.fName r
def isNamed (d : MDisk) (n : MInode) : Bool := named d.fNames n.fId || named d.fSafe n.fId
def diskOk (d : MDisk) : Bool :=
 decide (1 ≤ d.fNext ∧ d.fNext ≤ 1000000) && okI d.fNext 0 d.fInodes && decide (sumW wInode d.fInodes ≤ 60000) &&
  decide (d.fNames.length ≤ 30) && okE d.fInodes [] ByteArray.empty d.fNames && decide (d.fSafe.length ≤ 30) && okE d.fInodes [] ByteArray.empty d.fSafe && d.fInodes.all (isNamed d)
def keepI (d : MDisk) : List MInode := d.fInodes.filter (isNamed d)
def prevId (l : List MInode) (k : Nat) : Int := match k with | 0 => 0 | k + 1 => (l[k]?.map (·.fId)).getD 0
def prevName (l : List MEntry) (k : Nat) : ByteArray := match k with | 0 => ByteArray.empty | k + 1 => (l[k]?.map (·.fName)).getD ByteArray.empty
def idsTo (l : List MEntry) (k : Nat) : List Int := (l.take k).map (·.fId)
theorem prevId_succ {l : List MInode} {k : Nat} (h : k < l.length) : prevId l (k + 1) = l[k].fId := by simp [prevId, h]
theorem prevName_succ {l : List MEntry} {k : Nat} (h : k < l.length) : prevName l (k + 1) = l[k].fName := by simp [prevName, h]
theorem idsTo_succ {l : List MEntry} {k : Nat} (h : k < l.length) : idsTo l (k + 1) = idsTo l k ++ [l[k].fId] := by
 unfold idsTo
 rw [List.take_succ_eq_append_getElem h, List.map_append]
 rfl
theorem okI_step {next : Int} {l : List MInode} {k : Nat} (h : k < l.length) : okI next (prevId l k) (l.drop k) = (stepI next (prevId l k) l[k] && okI next (prevId l (k + 1)) (l.drop (k + 1))) := by
 rw [List.drop_eq_getElem_cons h, okI, prevId_succ h]
theorem okE_step {ins : List MInode} {l : List MEntry} {k : Nat} (h : k < l.length) : okE ins (idsTo l k) (prevName l k) (l.drop k) = (stepE ins (idsTo l k) (prevName l k) l[k] && okE ins (idsTo l (k + 1)) (prevName l (k + 1)) (l.drop (k + 1))) := by
 rw [List.drop_eq_getElem_cons h, okE, prevName_succ h, idsTo_succ h]
theorem nodup_fit {l m : List Int} (h : l.Nodup) (hs : ∀ x, x ∈ l → x ∈ m) : l.length ≤ m.length := by
 induction l generalizing m with
 | nil => simp
 | cons x r ih =>
  have hn := List.nodup_cons.1 h
  have hx := hs x (by simp)
  have h1 := ih hn.2 (m := m.erase x) (fun y hy => (List.mem_erase_of_ne (fun (e : y = x) => hn.1 (by rw [← e]; exact hy))).2 (hs y (by simp [hy])))
  have h2 := List.length_erase_of_mem hx
  have h3 : 0 < m.length := List.length_pos_of_mem hx
  simp only [List.length_cons]
  omega
theorem okI_lower {next : Int} {l : List MInode} : ∀ {prev : Int}, okI next prev l = true → ∀ n, n ∈ l → prev < n.fId := by
 induction l with
 | nil => intro prev _ n hn; cases hn
 | cons x r ih =>
  intro prev h n hn
  rw [okI, Bool.and_eq_true] at h
  have hx : prev < x.fId := by have := of_decide_eq_true h.1; omega
  rcases List.mem_cons.1 hn with rfl | hn
  ·exact hx
  ·have := ih h.2 n hn; omega
theorem okI_nodup {next : Int} {l : List MInode} : ∀ {prev : Int}, okI next prev l = true → (l.map (·.fId)).Nodup := by
 induction l with
 | nil => intro _ _; simp
 | cons x r ih =>
  intro prev h
  rw [okI, Bool.and_eq_true] at h
  rw [List.map_cons, List.nodup_cons]
  refine ⟨fun hm => ?_, ih h.2⟩
  obtain ⟨y, hy, he⟩ := List.mem_map.1 hm
  have := okI_lower h.2 y hy
  omega
theorem named_mem {l : List MEntry} {id : Int} (h : named l id = true) : id ∈ l.map (·.fId) := by
 unfold named at h
 rw [List.any_eq_true] at h
 obtain ⟨e, he, h2⟩ := h
 exact List.mem_map.2 ⟨e, he, of_decide_eq_true h2⟩
theorem named_fit {d : MDisk} {prev : Int} (h1 : okI d.fNext prev d.fInodes = true) (h2 : d.fInodes.all (isNamed d) = true) : d.fInodes.length ≤ d.fNames.length + d.fSafe.length := by
 have h3 := nodup_fit (okI_nodup h1) (m := d.fNames.map (·.fId) ++ d.fSafe.map (·.fId)) (by
  intro x hx
  obtain ⟨n, hn, rfl⟩ := List.mem_map.1 hx
  have h4 := List.all_eq_true.1 h2 n hn
  unfold isNamed at h4
  rw [Bool.or_eq_true] at h4
  rw [List.mem_append]
  exact h4.imp named_mem named_mem)
 simpa using h3
theorem bl_asymm : ∀ {x y : List UInt8}, Op.bytesLess x y = true → Op.bytesLess y x = false
 | _, [], h => by simp [Op.bytesLess] at h
 | [], _ :: _, _ => by simp [Op.bytesLess]
 | a :: x, b :: y, h => by
  simp only [Op.bytesLess, Bool.or_eq_true, Bool.and_eq_true, decide_eq_true_eq, beq_iff_eq, Bool.or_eq_false_iff, Bool.and_eq_false_iff, decide_eq_false_iff_not, beq_eq_false_iff_ne] at h ⊢
  rcases h with h | ⟨rfl, h⟩
  ·exact ⟨fun h2 => absurd (UInt8.lt_trans h h2) (UInt8.lt_irrefl _), .inl (fun e => by subst e; exact UInt8.lt_irrefl _ h)⟩
  ·exact ⟨UInt8.lt_irrefl _, .inr (bl_asymm h)⟩
theorem bl_irrefl (x : List UInt8) : Op.bytesLess x x = false := by
 cases h : Op.bytesLess x x with
 | false => rfl
 | true => have := bl_asymm h; rw [h] at this; cases this
theorem bl_total : ∀ {x y : List UInt8}, Op.bytesLess x y = false → x ≠ y → Op.bytesLess y x = true
 | [], [], _, hn => absurd rfl hn
 | _ :: _, [], _, _ => by simp [Op.bytesLess]
 | [], _ :: _, h, _ => by simp [Op.bytesLess] at h
 | a :: x, b :: y, h, hn => by
  simp only [Op.bytesLess, Bool.or_eq_true, Bool.and_eq_true, decide_eq_true_eq, beq_iff_eq, Bool.or_eq_false_iff, Bool.and_eq_false_iff, decide_eq_false_iff_not, beq_eq_false_iff_ne] at h ⊢
  by_cases hab : a = b
  ·subst hab
   right
   refine ⟨rfl, bl_total ?_ (fun e => hn (by rw [e]))⟩
   rcases h.2 with h2 | h2
   ·exact absurd rfl h2
   ·exact h2
  ·left
   rcases UInt8.lt_or_lt_of_ne hab with h1 | h1
   ·exact absurd h1 h.1
   ·exact h1
theorem strLt_facts {a b : ByteArray} (h : strLt a b = true) : Op.bytesLess a.toList b.toList = true ∧ Op.bytesLess b.toList a.toList = false ∧ (b.toList == a.toList) = false := by
 refine ⟨h, bl_asymm h, ?_⟩
 rw [beq_eq_false_iff_ne]
 intro e
 have h2 : Op.bytesLess a.toList b.toList = true := h
 rw [e, bl_irrefl] at h2
 cases h2
theorem strLt_not {a b : ByteArray} (h : strLt a b = false) : Op.bytesLess b.toList a.toList = true ∨ (b.toList == a.toList) = true := by
 by_cases e : a.toList = b.toList
 ·right; rw [beq_iff_eq]; exact e.symm
 ·left; exact bl_total h e
theorem toList_length' (s : ByteArray) : s.toList.length = s.size := by
 rw [ByteArray.toList_eq]
 simp
theorem empty_lt {s : ByteArray} (h : 1 ≤ s.size) : strLt ByteArray.empty s = true := by
 unfold strLt
 have hl : 1 ≤ s.toList.length := by rw [toList_length']; exact h
 match hs : s.toList, hl with
 | x :: r, _ =>
  rw [show ByteArray.empty.toList = [] from by rw [ByteArray.toList_eq]; rfl]
  rfl
theorem nameOk_pos {s : ByteArray} (h : nameOk s = true) : 1 ≤ s.size := by
 unfold nameOk at h
 rw [Bool.and_eq_true] at h
 exact (of_decide_eq_true h.1).1
theorem in_ids {l : List MEntry} {k j : Nat} {id : Int} (hj : j < l.length) (hjk : j < k) (he : l[j].fId = id) : (idsTo l k).contains id = true := by
 unfold idsTo
 rw [List.contains_iff_mem]
 refine List.mem_map.2 ⟨l[j], ?_, he⟩
 rw [List.mem_iff_getElem]
 exact ⟨j, by simp; omega, by simp⟩
theorem notin_ids {l : List MEntry} {k : Nat} {id : Int} (h : ∀ j, (hj : j < l.length) → j < k → l[j].fId ≠ id) : (idsTo l k).contains id = false := by
 unfold idsTo
 rw [Bool.eq_false_iff]
 intro hc
 rw [List.contains_iff_mem] at hc
 obtain ⟨e, he, hi⟩ := List.mem_map.1 hc
 obtain ⟨j, hj, rfl⟩ := List.mem_iff_getElem.1 he
 simp at hj
 rw [List.getElem_take] at hi
 exact h j (by omega) (by omega) hi
end Go.Proofs.YtolciaheoanlbaaGreatDoor

/-
  Files found by their names, as plain functions; no program is named here.
-/
namespace Go.Proofs.YtolciaheoanlbaaGreatDoor
open Go.RowKit
set_option linter.unusedVariables false
set_option linter.unusedSimpArgs false
theorem bl_trans : ∀ {x y z : List UInt8}, Op.bytesLess x y = true → Op.bytesLess y z = true → Op.bytesLess x z = true
 | _, [], _, h, _ => by simp [Op.bytesLess] at h
 | _, _ :: _, [], _, h => by simp [Op.bytesLess] at h
 | [], _ :: _, _ :: _, _, _ => by simp [Op.bytesLess]
 | a :: x, b :: y, c :: z, h1, h2 => by
  simp only [Op.bytesLess, Bool.or_eq_true, Bool.and_eq_true, decide_eq_true_eq, beq_iff_eq] at h1 h2 ⊢
  rcases h1 with h1 | ⟨rfl, h1⟩
  ·rcases h2 with h2 | ⟨rfl, h2⟩
   ·exact .inl (UInt8.lt_trans h1 h2)
   ·exact .inl h1
  ·rcases h2 with h2 | ⟨rfl, h2⟩
   ·exact .inl h2
   ·exact .inr ⟨rfl, bl_trans h1 h2⟩
theorem strLt_trans {a b c : ByteArray} (h1 : strLt a b = true) (h2 : strLt b c = true) : strLt a c = true := bl_trans h1 h2
theorem str_eq {a b : ByteArray} : (a.toList == b.toList) = true ↔ a = b := by
 rw [beq_iff_eq, ByteArray.toList_eq, ByteArray.toList_eq]
 constructor
 ·intro h
  cases a; cases b
  simpa using Array.toList_inj.1 h
 ·intro h; rw [h]
theorem str_ne {a b : ByteArray} (h : a ≠ b) : (a.toList == b.toList) = false := by
 rw [Bool.eq_false_iff]
 exact fun e => h (str_eq.1 e)
theorem str_same {a b : ByteArray} (h : a = b) : (a.toList == b.toList) = true := str_eq.2 h
def hasName (l : List MEntry) (s : ByteArray) : Bool := l.any fun e => decide (e.fName = s)
def nameAt (l : List MEntry) (s : ByteArray) : Nat := l.findIdx fun e => decide (e.fName = s)
def nameZ (l : List MEntry) (s : ByteArray) : Int := if hasName l s then (nameAt l s : Int) else -1
def idOf (l : List MEntry) (s : ByteArray) : Int := ((l[nameAt l s]?).map (·.fId)).getD 0
theorem hasName_yes {l : List MEntry} {s : ByteArray} {k : Nat} (h : k < l.length) (he : l[k].fName = s) : hasName l s = true := by
 unfold hasName
 rw [List.any_eq_true]
 exact ⟨l[k], List.getElem_mem h, by simp [he]⟩
theorem hasName_no {l : List MEntry} {s : ByteArray} (h : ∀ k, (hk : k < l.length) → l[k].fName ≠ s) : hasName l s = false := by
 unfold hasName
 rw [List.any_eq_false]
 intro e he
 obtain ⟨k, hk, rfl⟩ := List.mem_iff_getElem.1 he
 simp [h k hk]
theorem nameAt_is {l : List MEntry} {s : ByteArray} {k : Nat} (h : k < l.length) (he : l[k].fName = s) (hn : ∀ j, (hj : j < l.length) → j < k → l[j].fName ≠ s) : nameAt l s = k := by
 unfold nameAt
 rw [List.findIdx_eq h]
 exact ⟨decide_eq_true he, fun j hj => by simp [hn j (by omega) hj]⟩
theorem nameZ_at {l : List MEntry} {s : ByteArray} {k : Nat} (h : k < l.length) (he : l[k].fName = s) (hn : ∀ j, (hj : j < l.length) → j < k → l[j].fName ≠ s) : nameZ l s = k := by
 unfold nameZ
 rw [hasName_yes h he, if_pos rfl, nameAt_is h he hn]
theorem nameZ_no {l : List MEntry} {s : ByteArray} (hn : ∀ j, (hj : j < l.length) → l[j].fName ≠ s) : nameZ l s = -1 := by
 unfold nameZ
 rw [hasName_no hn]
 rfl
theorem hasName_at {l : List MEntry} {s : ByteArray} (h : hasName l s = true) : ∃ hk : nameAt l s < l.length, l[nameAt l s].fName = s := by
 unfold hasName at h
 rw [List.any_eq_true] at h
 obtain ⟨e, he, h2⟩ := h
 have hk : nameAt l s < l.length := List.findIdx_lt_length_of_exists ⟨e, he, h2⟩
 exact ⟨hk, of_decide_eq_true (List.findIdx_getElem (w := hk))⟩
def callP (m : MDisk) (s : ByteArray) : Int := if diskOk m && nameOk s then (if hasName m.fNames s then 0 else 2) else 1
def dataOf (m : MDisk) (s : ByteArray) : List Int := ((m.fInodes[placeOf m.fInodes (idOf m.fNames s)]?).map (·.fData)).getD []
def bytesP (m : MDisk) (s : ByteArray) : List Int := if callP m s = 0 then dataOf m s else []
theorem okE_has {ins : List MInode} : ∀ {l : List MEntry} {seen : List Int} {prev : ByteArray}, okE ins seen prev l = true → ∀ e, e ∈ l → hasId ins e.fId = true
 | [], _, _, _, e, he => by cases he
 | x :: r, seen, prev, h, e, he => by
  rw [okE, Bool.and_eq_true] at h
  rcases List.mem_cons.1 he with rfl | he
  ·have h1 := h.1
   unfold stepE at h1
   simp only [Bool.and_eq_true] at h1
   exact h1.1.1.1
  ·exact okE_has h.2 e he
theorem diskOk_parts {m : MDisk} (h : diskOk m = true) : okI m.fNext 0 m.fInodes = true ∧ okE m.fInodes [] ByteArray.empty m.fNames = true ∧ okE m.fInodes [] ByteArray.empty m.fSafe = true := by
 unfold diskOk at h
 simp only [Bool.and_eq_true] at h
 exact ⟨h.1.1.1.1.1.1.2, h.1.1.1.2, h.1.2⟩
theorem file_there {m : MDisk} {s : ByteArray} (h : diskOk m = true) (hn : hasName m.fNames s = true) : ∃ hk : nameAt m.fNames s < m.fNames.length, idOf m.fNames s = m.fNames[nameAt m.fNames s].fId ∧ hasId m.fInodes (idOf m.fNames s) = true := by
 obtain ⟨hk, he⟩ := hasName_at hn
 have hid : idOf m.fNames s = m.fNames[nameAt m.fNames s].fId := by unfold idOf; rw [List.getElem?_eq_getElem hk]; rfl
 exact ⟨hk, hid, by rw [hid]; exact okE_has (diskOk_parts h).2.1 _ (List.getElem_mem hk)⟩
theorem hasId_at {l : List MInode} {id : Int} (h : hasId l id = true) : ∃ hk : placeOf l id < l.length, l[placeOf l id].fId = id := by
 unfold hasId at h
 rw [List.any_eq_true] at h
 obtain ⟨e, he, h2⟩ := h
 have hk : placeOf l id < l.length := List.findIdx_lt_length_of_exists ⟨e, he, h2⟩
 exact ⟨hk, of_decide_eq_true (List.findIdx_getElem (w := hk))⟩
end Go.Proofs.YtolciaheoanlbaaGreatDoor
