/-
  Rows of structs: 'copy' between them, appends onto those of one's own, variables' blocks that may be written; no program is named here.
-/
import Derived.Laws.CopyOwn
import Derived.Test.YtembioiaeimegaaDatR
import Derived.Test.YtembioiaeimegaaDatX
namespace Go.Proofs.Ytembioiaeimegaa
open Go.RowKit
set_option linter.unusedVariables false
set_option linter.unusedSimpArgs false

theorem run_copy_rows {P : Program} (w : World) (dT sT ty elem : TypeId) (size : Nat) (g o dLen dCap : Nat) (a : Addr) (sLen sCap : Nat) (cur : Array Value) (t : TypeId) (cs : List Value)
    (hu : P.underlying dT = some (.slice elem)) (hs : (P.info? elem).map (·.size) = some size)
    (hg : w.heap[g]? = some (.cells cur t (0, 0))) (hn : cs.length = Nat.min sLen dLen * size)
    (hsrc : ∀ j v, cs[j]? = some v → w.cell? (a.add j) = some v) (hfit : o + cs.length ≤ cur.size) (h1 : ∀ v ∈ cs, v.oneCell' = true) :
    (Builtin.copy_ #[dT, sT] ty #[.slice (some ⟨g, o, none⟩) dLen dCap, .slice (some a) sLen sCap]).run P w =
      .ok (goInt (Nat.min sLen dLen)) (w.setRow g (cur.toList.take o ++ cs ++ cur.toList.drop (o + cs.length)).toArray) := by
  have hl := run_loadCells_list (P := P) w a cs hsrc
  have hst := run_storeCells_at P g o t cs 0 cur w hg (by simpa using hfit) h1
  cases hq : P.info? elem with
  | none => simp [hq] at hs
  | some i =>
    have hi : i.size = size := by simpa [hq] using hs
    simp [Builtin.copy_, run_underlying hu, Builtin.lenOf, Builtin.firstCells, sizeOf, typeInfo, hq, hi, ← hn, hl, hst]

theorem wpList_copy_rows {P : Program} {w : World} {ops : Array Oper} {rest : List Oper} {o : Oper} {a : Act} {Q : Exit → Act → World → Prop} (hgd : o.guard = none) (d s : Operand) (dT sT : TypeId)
    (ho : o.op = .call { callee := .builtin .copy, args := #[d, s], argTypes := #[dT, sT] }) (elem : TypeId) (size : Nat) (hu : P.underlying dT = some (.slice elem)) (hsz : (P.info? elem).map (·.size) = some size)
    (g off dLen dCap : Nat) (ad : Addr) (sLen sCap : Nat) (hd : a.eval d = .slice (some ⟨g, off, none⟩) dLen dCap) (hs : a.eval s = .slice (some ad) sLen sCap)
    (cur : Array Value) (t : TypeId) (hg : w.heap[g]? = some (.cells cur t (0, 0))) (cs : List Value) (hn : cs.length = Nat.min sLen dLen * size)
    (hsrc : ∀ j v, cs[j]? = some v → w.cell? (ad.add j) = some v) (hfit : off + cs.length ≤ cur.size) (h1 : ∀ v ∈ cs, v.oneCell' = true)
    (h : wpList P ops Q rest (a.put o.dst (goInt (Nat.min sLen dLen))) (w.setRow g (cur.toList.take off ++ (cs ++ cur.toList.drop (off + cs.length))).toArray)) : wpList P ops Q (o :: rest) a w := by
  refine wpList_plain hgd fun K hK => ?_
  have hrun := run_copy_rows (P := P) w dT sT o.type elem size g off dLen dCap ad sLen sCap cur t cs hu hsz hg hn hsrc hfit h1
  unfold Oper.wp
  simp [execOp, ho, resolve, invoke, builtin, hd, hs, hrun, Result.andThen]
  exact hK _ _ h

/-- The cells of a list that is read, one behind the other. -/
theorem RdS.cells {α : Type} {size : Nat} {R : Rep α} {B : Nat} {w : World} {b off : Nat} {l : List α} (h : RdS size R B w (some ⟨b, off, none⟩) l) : ∀ k, k ≤ l.length →
    ∃ css : List (List Value), css.length = k ∧ (∀ c, c ∈ css → c.length = size) ∧ (∀ j, (h1 : j < l.length) → (h2 : j < css.length) → R B w css[j] l[j]) ∧ ∀ i u, css.flatten[i]? = some u → w.cell? ⟨b, off + i, none⟩ = some u
  | 0, _ => ⟨[], rfl, (fun _ hc => by cases hc), (fun _ _ h2 => by simp at h2), (fun i u hu => by simp at hu)⟩
  | k + 1, hk => by
    obtain ⟨css, h1, h2, h3, h4⟩ := RdS.cells h k (by omega)
    obtain ⟨b', off', e, _, cs, hc1, hc2, hc3⟩ := h k (by omega)
    simp only [Option.some.injEq, Addr.mk.injEq, and_true] at e
    obtain ⟨rfl, rfl⟩ := e
    have hfl : css.flatten.length = k * size := by
      rw [List.length_flatten]
      have : css.map List.length = List.replicate k size := by
        apply List.ext_getElem
        · simp [h1]
        · intro i hi1 hi2
          simp only [List.getElem_map, List.getElem_replicate]
          exact h2 _ (List.getElem_mem _)
      rw [this]
      simp
    refine ⟨css ++ [cs], by simp [h1], ?_, ?_, ?_⟩
    · intro c hc
      rcases List.mem_append.1 hc with hc | hc
      · exact h2 c hc
      · simp at hc; subst hc; exact hc1
    · intro j hj hj2
      by_cases hjk : j < k
      · rw [List.getElem_append_left (by omega)]
        exact h3 j hj (by omega)
      · have hje : j = k := by simp at hj2; omega
        subst hje
        rw [List.getElem_append_right (by omega)]
        simpa [h1] using hc3
    · intro i u hu
      rw [List.flatten_append] at hu
      by_cases hi : i < k * size
      · rw [List.getElem?_append_left (by omega)] at hu
        exact h4 i u hu
      · rw [List.getElem?_append_right (by omega), hfl] at hu
        have h5 := hc2 (i - k * size) u (by simpa using hu)
        rw [show off + k * size + (i - k * size) = off + i from by omega] at h5
        exact h5

theorem flat_part {size : Nat} {css : List (List Value)} (h : ∀ c, c ∈ css → c.length = size) {j : Nat} (hj : j < css.length) : (css.flatten.drop (j * size)).take size = css[j] := by
  apply List.ext_getElem?
  intro i
  rw [List.getElem?_take, List.getElem?_drop]
  by_cases hi : i < size
  · rw [if_pos hi, flatten_at h hi, List.getElem?_eq_getElem hj, Option.bind_some]
  · rw [if_neg hi, List.getElem?_eq_none (by rw [h _ (List.getElem_mem hj)]; omega)]

theorem flat_len {size : Nat} : ∀ {css : List (List Value)}, (∀ c, c ∈ css → c.length = size) → css.flatten.length = css.length * size
  | [], _ => by simp
  | c :: r, h => by
    rw [List.flatten_cons, List.length_append, h c (by simp), flat_len (fun x hx => h x (by simp [hx])), List.length_cons, Nat.succ_mul]
    omega

theorem run_copy_none' {P : Program} (w : World) (dT sT ty elem : TypeId) (size : Nat) (dp sp : Option Addr) (dCap sCap : Nat)
    (hu : P.underlying dT = some (.slice elem)) (hs : (P.info? elem).map (·.size) = some size) :
    (Builtin.copy_ #[dT, sT] ty #[.slice dp 0 dCap, .slice sp 0 sCap]).run P w = .ok (goInt 0) w := by
  cases hq : P.info? elem with
  | none => simp [hq] at hs
  | some i => cases sp <;> cases dp <;> simp [Builtin.copy_, run_underlying hu, Builtin.lenOf, Builtin.firstCells, sizeOf, typeInfo, hq, loadCells, loadCellsFrom, storeCells]

section
variable {P : Program} (w : World)

theorem run_append_src_at (base : Nat) (t tx ty e : TypeId) (i : TypeInfo) (z : Value) (size bytes : Nat) (ht : P.underlying t = some (.slice e)) (hi : P.info? e = some i) (hz : i.zero = some z)
    (hsize : i.size = size) (hby : i.bytes = bytes) (hzs : z.cells.size = size)
    (v : Value) (n : Nat) (xs : List Value) (hown : w.ownsRow base e size v n xs) (x : Value) (m : Nat) (news : List Value) (hs : Src P size tx x m news w)
    (h63 : n + m ≤ maxLen) (hbytes : (n + m) * bytes ≤ 140737488355328) (hbase : base ≤ w.heap.size) :
    ∃ v' w', (Builtin.append_ #[t, tx] ty #[v, x]).run P w = .ok v' w' ∧ w'.ownsRow base e size v' (n + m) (xs ++ news) ∧ w.grownBy w' v.ownBlock ∧ (v'.ownBlock = v.ownBlock ∨ v'.ownBlock = some w.heap.size) := by
  subst hsize
  subst hby
  have hl := hs.newsLen
  have hsmall : n + m ≤ 9223372036854775807 := by simp only [maxLen] at h63; omega
  have hlen : (xs ++ news).length = (n + m) * i.size := by rw [List.length_append, hown.1, hl, Nat.add_mul]
  have grown : ∀ (old : Nat), old < n + m → ∀ (row : Option Nat),
      (w.drew.alloc (.cells ((xs ++ news).toArray ++ Builtin.zeroCells z.cells (grownCap w (n + m) old e - (n + m))) e)).ownsRow base e i.size
        (.slice (some ⟨w.heap.size, 0, none⟩) (n + m) (grownCap w (n + m) old e)) (n + m) (xs ++ news) ∧
      w.grownBy (w.drew.alloc (.cells ((xs ++ news).toArray ++ Builtin.zeroCells z.cells (grownCap w (n + m) old e - (n + m))) e)) row := by
    intro old ho row
    have hge := grownCap_ge w (n + m) old e
    have hcm : grownCap w (n + m) old e ≤ maxLen := grownCap_le_maxLen w (n + m) old e h63
    refine ⟨⟨hlen, .inr ⟨w.heap.size, _, _, rfl, hbase, heap_alloc_new w.drew _, hge, hcm, ?_, ?_⟩⟩, ⟨rfl, rfl, rfl, by simp, fun k hk _ => Go.heap_alloc_old w.drew _ hk⟩⟩
    · rw [Array.size_append, List.size_toArray, size_zeroCells, hzs, hlen, ← Nat.add_mul]
      congr 1
      omega
    · rw [Array.toList_append, ← hlen]
      exact List.take_left
  rcases hown.2 with ⟨rfl, rfl⟩ | ⟨g, cap, cur, rfl, hbg, hg, hnc, hcm, hcs, htake⟩
  · have hx : xs = [] := List.eq_nil_of_length_eq_zero (by simpa using hown.1)
    subst hx
    by_cases hm : m = 0
    · subst hm
      have hn : news = [] := List.eq_nil_of_length_eq_zero (by simpa using hl)
      subst hn
      refine ⟨.slice none 0 0, w, ?_, World.ownsRow_nil w base e i.size, World.grownBy.refl _ _, .inl rfl⟩
      rcases hs.kind with ⟨e', hk⟩ | hk <;> simp [Builtin.append_, run_underlying ht, run_underlying hk, sizeOf, typeInfo, hi, hs.len, hs.cells]
    · have hr := run_append_grow_src (P := P) w t tx ty e i z ht hi hz none 0 0 [] (run_firstCells_none w.drew i.size 0 0 0) x m news hs (by omega) (by omega) (growslice_fits (by omega) hbytes)
      have hgr := grown 0 (by omega) (Value.ownBlock (.slice none 0 0))
      exact ⟨_, _, hr, hgr.1, hgr.2, .inr rfl⟩
  · by_cases hroom : n + m ≤ cap
    · have hfit : n * i.size + news.length ≤ cur.size := by rw [hl, hcs, ← Nat.add_mul]; exact Nat.mul_le_mul_right _ hroom
      have hr := run_append_room_src (P := P) w t tx ty e i ht hi g 0 n cap x m news hs hroom
        (fun j hj => by rw [Nat.zero_add, cell_of_row w g _ cur e (0, 0) hg, Array.getElem?_eq_getElem (by omega)]; rfl) (fun j hj => frozen_of_row w g _ cur e hg)
      rw [Nat.zero_add] at hr
      obtain ⟨⟨cur', h2, h3, h4⟩, h5⟩ := setCells_row g e news (n * i.size) w cur hg hfit
      refine ⟨_, _, hr, ⟨hlen, .inr ⟨g, cap, cur', rfl, hbg, h2, hroom, hcm, by rw [h3, hcs], ?_⟩⟩, h5, .inl rfl⟩
      rw [Nat.add_mul, ← hl, h4, htake]
    · have holds : (Builtin.firstCells i.size n (.slice (some ⟨g, 0, none⟩) n cap)).run P w.drew = .ok xs.toArray w.drew :=
        run_firstCells_some w.drew i.size n ⟨g, 0, none⟩ n cap xs hown.1 (by simpa using hown.cells (g := g) rfl)
      have hr := run_append_grow_src (P := P) w t tx ty e i z ht hi hz (some ⟨g, 0, none⟩) n cap xs holds x m news hs (by omega) (by omega) (growslice_fits (by omega) hbytes)
      have hgr := grown cap (by omega) (Value.ownBlock (.slice (some ⟨g, 0, none⟩) n cap))
      exact ⟨_, _, hr, hgr.1, hgr.2, .inr rfl⟩

/-- Onto a literal without elements: nothing that was there turns. -/
theorem run_append_lit (base : Nat) (t tx ty e : TypeId) (i : TypeInfo) (z : Value) (size bytes : Nat) (ht : P.underlying t = some (.slice e)) (hi : P.info? e = some i) (hz : i.zero = some z)
    (hsize : i.size = size) (hby : i.bytes = bytes) (hzs : z.cells.size = size)
    (g : Nat) (hown : w.ownsRow base e size (.slice (some ⟨g, 0, none⟩) 0 0) 0 []) (x : Value) (m : Nat) (news : List Value) (hs : Src P size tx x m news w)
    (h63 : m ≤ maxLen) (hbytes : m * bytes ≤ 140737488355328) (hbase : base ≤ w.heap.size) :
    ∃ v' w', (Builtin.append_ #[t, tx] ty #[.slice (some ⟨g, 0, none⟩) 0 0, x]).run P w = .ok v' w' ∧ w'.ownsRow base e size v' m news ∧ Below w.heap.size w w' ∧ (v'.ownBlock = some g ∨ v'.ownBlock = some w.heap.size) := by
  subst hsize
  subst hby
  have hl := hs.newsLen
  rcases hown.2 with ⟨h0, _⟩ | ⟨g', cap, cur, h0, hbg, hg, hnc, hcm, hcs, htake⟩
  · cases h0
  · simp only [Value.slice.injEq, Option.some.injEq, Addr.mk.injEq, and_true, true_and] at h0
    obtain ⟨rfl, rfl⟩ := h0
    by_cases hm : m = 0
    · subst hm
      have hn : news = [] := List.eq_nil_of_length_eq_zero (by simpa using hl)
      subst hn
      have hr := run_append_room_src (P := P) w t tx ty e i ht hi g 0 0 0 x 0 [] hs (by omega) (fun j hj => by simp at hj) (fun j hj => by simp at hj)
      exact ⟨_, _, hr, hown, Below.refl _ _, .inl rfl⟩
    · have holds : (Builtin.firstCells i.size 0 (.slice (some ⟨g, 0, none⟩) 0 0)).run P w.drew = .ok ([] : List Value).toArray w.drew :=
        run_firstCells_some w.drew i.size 0 ⟨g, 0, none⟩ 0 0 [] (by simp) (fun j u hu => by simp at hu)
      have hr := run_append_grow_src (P := P) w t tx ty e i z ht hi hz (some ⟨g, 0, none⟩) 0 0 [] holds x m news hs (by omega) (by simp only [maxLen] at h63; omega) (growslice_fits (by omega) (by simpa using hbytes))
      simp only [List.nil_append, Nat.zero_add] at hr
      have hge := grownCap_ge w m 0 e
      have hcm2 : grownCap w m 0 e ≤ maxLen := grownCap_le_maxLen w m 0 e h63
      refine ⟨_, _, hr, ⟨hl, .inr ⟨w.heap.size, _, _, rfl, hbase, heap_alloc_new w.drew _, hge, hcm2, ?_, ?_⟩⟩, Below.alloc (Below.drew (Below.refl _ _)) (Nat.le_refl _) _, .inr rfl⟩
      · rw [Array.size_append, List.size_toArray, size_zeroCells, hzs, hl, ← Nat.add_mul]
        congr 1
        omega
      · rw [Array.toList_append, ← hl]
        exact List.take_left

theorem step_append_lit {ops : Array Oper} {o : Oper} {a : Act} {K : Act → World → Prop} {Q : Exit → Act → World → Prop} {E : Prop} (hgd : o.guard = none) (s x : Operand) (t tx : TypeId)
    (ho : o.op = .call { callee := .builtin .append, args := #[s, x], argTypes := #[t, tx] })
    (base : Nat) (e : TypeId) (i : TypeInfo) (z : Value) (size bytes : Nat) (ht : P.underlying t = some (.slice e)) (hi : P.info? e = some i) (hz : i.zero = some z)
    (hsize : i.size = size) (hby : i.bytes = bytes) (hzs : z.cells.size = size)
    (g : Nat) (hs : a.eval s = .slice (some ⟨g, 0, none⟩) 0 0) (hown : w.ownsRow base e size (.slice (some ⟨g, 0, none⟩) 0 0) 0 [])
    (y : Value) (hy : a.eval x = y) (m : Nat) (news : List Value) (hx : Src P size tx y m news w)
    (h63 : m ≤ maxLen) (hbytes : m * bytes ≤ 140737488355328) (hbase : base ≤ w.heap.size)
    (h : ∀ v' w', w'.ownsRow base e size v' m news → Below w.heap.size w w' → (v'.ownBlock = some g ∨ v'.ownBlock = some w.heap.size) → K (a.put o.dst v') w') :
    if Region.wanted o (yielded ops a.tmps) = true then Oper.wp P o a w K Q else E := by
  have hw : Region.wanted o (yielded ops a.tmps) = true := by simp [Region.wanted, hgd]
  rw [if_pos hw]
  subst hy
  obtain ⟨v', w', hr, h2, h3, h4⟩ := run_append_lit (P := P) w base t tx o.type e i z size bytes ht hi hz hsize hby hzs g hown (a.eval x) m news hx h63 hbytes hbase
  unfold Oper.wp execOp
  simp only [ho, resolve, invoke, builtin, Sem.run_bind, Sem.run_pure, Result.andThen_ok, List.map_toArray, List.map_cons, List.map_nil, hs, hr]
  exact h v' w' h2 h3 h4

/-- As one step of a region that draws its order. -/
theorem step_append_src {ops : Array Oper} {o : Oper} {a : Act} {K : Act → World → Prop} {Q : Exit → Act → World → Prop} {E : Prop} (hgd : o.guard = none) (s x : Operand) (t tx : TypeId)
    (ho : o.op = .call { callee := .builtin .append, args := #[s, x], argTypes := #[t, tx] })
    (base : Nat) (e : TypeId) (i : TypeInfo) (z : Value) (size bytes : Nat) (ht : P.underlying t = some (.slice e)) (hi : P.info? e = some i) (hz : i.zero = some z)
    (hsize : i.size = size) (hby : i.bytes = bytes) (hzs : z.cells.size = size)
    (v : Value) (n : Nat) (xs : List Value) (hs : a.eval s = v) (hown : w.ownsRow base e size v n xs)
    (y : Value) (hy : a.eval x = y) (m : Nat) (news : List Value) (hx : Src P size tx y m news w)
    (h63 : n + m ≤ maxLen) (hbytes : (n + m) * bytes ≤ 140737488355328) (hbase : base ≤ w.heap.size)
    (h : ∀ v' w', w'.ownsRow base e size v' (n + m) (xs ++ news) → w.grownBy w' v.ownBlock → (v'.ownBlock = v.ownBlock ∨ v'.ownBlock = some w.heap.size) → K (a.put o.dst v') w') :
    if Region.wanted o (yielded ops a.tmps) = true then Oper.wp P o a w K Q else E := by
  have hw : Region.wanted o (yielded ops a.tmps) = true := by simp [Region.wanted, hgd]
  rw [if_pos hw]
  subst hy
  obtain ⟨v', w', hr, h2, h3, h4⟩ := run_append_src_at (P := P) w base t tx o.type e i z size bytes ht hi hz hsize hby hzs v n xs hown (a.eval x) m news hx h63 hbytes hbase
  unfold Oper.wp execOp
  simp only [ho, resolve, invoke, builtin, Sem.run_bind, Sem.run_pure, Result.andThen_ok, List.map_toArray, List.map_cons, List.map_nil, hs, hr]
  exact h v' w' h2 h3 h4

end

theorem Turn.drew {F : List Nat} {a b : World} (h : Turn F a b) : Turn F a b.drew := h.trans (Turn.ofBelow (Below.drew (Below.refl _ _)))

theorem Turn.alloc {F : List Nat} {a b : World} (h : Turn F a b) (o : Obj) : Turn F a (b.alloc o) := h.trans (Turn.ofBelow (Below.alloc (Below.refl _ _) (Nat.le_refl _) o))

theorem Turn.join {F G : List Nat} {a b c : World} (h : Turn F a b) (k : Turn G b c) (hG : ∀ x, x ∈ G → x ∈ F ∨ a.heap.size ≤ x) : Turn F a c :=
  ⟨k.os.trans h.os, k.tape.trans h.tape, k.output.trans h.output, Nat.le_trans h.size k.size, fun i hi hF => (k.block i (Nat.lt_of_lt_of_le hi h.size) (fun hm => by rcases hG i hm with h1 | h1; exact hF h1; omega)).trans (h.block i hi hF)⟩

theorem own_slice {w : World} {base e size n : Nat} {v : Value} {xs : List Value} (h : w.ownsRow base e size v n xs) : ∃ a c, v = .slice a n c := by
  rcases h.2 with ⟨rfl, h0⟩ | ⟨g, cap, cur, rfl, _⟩
  · exact ⟨none, 0, by rw [h0]⟩
  · exact ⟨_, cap, rfl⟩

/-- One more element behind a list of one's own. -/
theorem ownS.push {α : Type} {size : Nat} {e : TypeId} {O : ORep α} {R : Rep α} (hO : O.Good R size) {w : World} {v : Value} {l : List α} {F : List Nat} (h : ownS size e O w v l F) (hN : F.Nodup) :
    ∃ xs, w.ownsRow 0 e size v l.length xs ∧ ∀ (w' : World) (v' : Value) (news : List Value) (m' : α) (Fx : List Nat), w'.ownsRow 0 e size v' (l.length + 1) (xs ++ news) → w.grownBy w' v.ownBlock → (v'.ownBlock = v.ownBlock ∨ v'.ownBlock = some w.heap.size) → O w news m' Fx → Fx.Nodup → (∀ b, b ∈ Fx → b ∉ F) →
      ∃ F', ownS size e O w' v' (l ++ [m']) F' ∧ F'.Nodup ∧ ∀ b, b ∈ F' → b ∈ F ∨ b ∈ Fx ∨ b = w.heap.size := by
  have key : ∀ (Fs : List (List Nat)) (xs : List Value), Fs.length = l.length → (∀ j, (h : j < l.length) → O w ((xs.drop (j * size)).take size) l[j] (Fs.getD j [])) → (∀ b, b ∈ Fs.flatten → b ∈ F) → Fs.flatten.Nodup → (∀ k, v.ownBlock = some k → k ∈ F ∧ k ∉ Fs.flatten) → xs.length = l.length * size → 
      ∀ (w' : World) (v' : Value) (news : List Value) (m' : α) (Fx : List Nat), w'.ownsRow 0 e size v' (l.length + 1) (xs ++ news) → w.grownBy w' v.ownBlock → (v'.ownBlock = v.ownBlock ∨ v'.ownBlock = some w.heap.size) → O w news m' Fx → Fx.Nodup → (∀ b, b ∈ Fx → b ∉ F) →
      ∃ F', ownS size e O w' v' (l ++ [m']) F' ∧ F'.Nodup ∧ ∀ b, b ∈ F' → b ∈ F ∨ b ∈ Fx ∨ b = w.heap.size := by
    intro Fs xs f1 f2 f3 f4 f5 hxl w' v' news m' Fx ho hg hat hx hxN hxF
    have hnl := hO.len hx
    have hfr : ∀ b, b < w.heap.size → (∀ k, v.ownBlock = some k → b ≠ k) → w'.heap[b]? = w.heap[b]? := fun b hb hne => hg.block b hb (fun hh => hne b hh.symm rfl)
    have hFlt : ∀ j, (h : j < l.length) → ∀ b, b ∈ Fs.getD j [] → b < w.heap.size := fun j hj b hb => hO.lt (f2 j hj) b hb
    have hFin : ∀ j, (h : j < l.length) → ∀ b, b ∈ Fs.getD j [] → b ∈ Fs.flatten := fun j hj b hb => mem_flatten_getD (by omega) hb
    rcases ho.2 with ⟨_, h0⟩ | ⟨g, cap, cur, rfl, hb, hg', hnc, hm, hs, ht⟩
    · omega
    · have hgb : g ∈ F ∨ g = w.heap.size := by
        rcases hat with h | h
        · exact .inl (f5 g h.symm).1
        · right; simpa [Value.ownBlock] using h
      have hgn : g ∉ (Fs ++ [Fx]).flatten := by
        rw [List.flatten_append, List.mem_append]
        rintro (h | h)
        · rcases hat with h' | h'
          · exact (f5 g h'.symm).2 h
          · have hgw : g = w.heap.size := by simpa [Value.ownBlock] using h'
            obtain ⟨j, hj, hjb⟩ := of_mem_flatten h
            have := hFlt j (by omega) g hjb
            omega
        · have h : g ∈ Fx := by simpa using h
          rcases hgb with h' | h'
          · exact hxF g h h'
          · have := hO.lt hx g h; omega
      refine ⟨g :: (Fs ++ [Fx]).flatten, .inr ⟨g, cap, cur, Fs ++ [Fx], by simp, hg', by simpa using hnc, hm, hs, by simp [f1], ?_, rfl⟩, List.nodup_cons.2 ⟨hgn, ?_⟩, ?_⟩
      · intro j hj
        have hj1 : j ≤ l.length := by simp at hj; omega
        have hpart : ∀ j, j ≤ l.length → (cur.toList.drop (j * size)).take size = ((xs ++ news).drop (j * size)).take size := by
          intro j hj
          rw [← ht]
          have hmul : (j + 1) * size ≤ (l.length + 1) * size := Nat.mul_le_mul_right _ (by omega)
          rw [Nat.succ_mul] at hmul
          apply List.ext_getElem?
          intro i
          rw [List.getElem?_take, List.getElem?_take, List.getElem?_drop, List.getElem?_drop, List.getElem?_take]
          by_cases hi : i < size
          · rw [if_pos hi, if_pos hi, if_pos (by omega)]
          · rw [if_neg hi, if_neg hi]
        by_cases hjl : j < l.length
        · have e1 : ((xs ++ news).drop (j * size)).take size = (xs.drop (j * size)).take size := by
            have hmul : (j + 1) * size ≤ l.length * size := Nat.mul_le_mul_right _ hjl
            rw [Nat.succ_mul] at hmul
            apply List.ext_getElem?
            intro i
            rw [List.getElem?_take, List.getElem?_take, List.getElem?_drop, List.getElem?_drop]
            by_cases hi : i < size
            · rw [if_pos hi, if_pos hi, List.getElem?_append_left (by omega)]
            · rw [if_neg hi, if_neg hi]
          have e2 : (Fs ++ [Fx]).getD j [] = Fs.getD j [] := by rw [List.getD_eq_getElem?_getD, List.getD_eq_getElem?_getD, List.getElem?_append_left (by omega)]
          rw [hpart j hj1, e1, e2, List.getElem_append_left hjl]
          refine hO.frame (f2 j hjl) (fun b hb => hfr b (hFlt j hjl b hb) (fun k hk hbk => ?_))
          subst hbk
          exact (f5 b hk).2 (hFin j hjl b hb)
        · have hje : j = l.length := by omega
          subst hje
          have e1 : ((xs ++ news).drop (l.length * size)).take size = news := by
            rw [← hxl, List.drop_left, List.take_of_length_le (by omega)]
          have e2 : (Fs ++ [Fx]).getD l.length [] = Fx := by rw [List.getD_eq_getElem?_getD, List.getElem?_append_right (by omega), f1, Nat.sub_self]; rfl
          rw [hpart _ hj1, e1, e2]
          have e3 : (l ++ [m'])[l.length] = m' := by simp
          rw [e3]
          refine hO.frame hx (fun b hb => hfr b (hO.lt hx b hb) (fun k hk hbk => ?_))
          subst hbk
          exact hxF b hb (f5 b hk).1
      · rw [List.flatten_append]
        refine List.nodup_append.2 ⟨f4, by simpa using hxN, ?_⟩
        intro a ha b hb' hab
        subst hab
        exact hxF a (by simpa using hb') (f3 a ha)
      · intro b hb
        rcases List.mem_cons.1 hb with rfl | hb
        · rcases hgb with h | h
          · exact .inl h
          · exact .inr (.inr h)
        · rw [List.flatten_append, List.mem_append] at hb
          rcases hb with hb | hb
          · exact .inl (f3 b hb)
          · exact .inr (.inl (by simpa using hb))
  rcases h with ⟨rfl, rfl, rfl⟩ | ⟨g, cap, cur, Fs, rfl, h2, h3, h4, h5, h6, h7, rfl⟩
  · exact ⟨[], World.ownsRow_nil w 0 e size, key [] [] rfl (fun j hj => by simp at hj) (fun b hb => by simp at hb) (by simp) (fun k hk => by simp [Value.ownBlock] at hk) (by simp)⟩
  · rw [List.nodup_cons] at hN
    have hcl : cur.toList.length = cap * size := by simpa using h5
    have hle : l.length * size ≤ cap * size := Nat.mul_le_mul_right _ h3
    refine ⟨cur.toList.take (l.length * size), ⟨by rw [List.length_take]; omega, .inr ⟨g, cap, cur, rfl, Nat.zero_le _, h2, h3, h4, h5, rfl⟩⟩, key Fs _ h6 ?_ (fun b hb => List.mem_cons_of_mem _ hb) hN.2 (fun k hk => by simp [Value.ownBlock] at hk; subst hk; exact ⟨by simp, hN.1⟩) (by rw [List.length_take]; omega)⟩
    intro j hj
    have hmul : (j + 1) * size ≤ l.length * size := Nat.mul_le_mul_right _ hj
    rw [Nat.succ_mul] at hmul
    have e1 : ((cur.toList.take (l.length * size)).drop (j * size)).take size = (cur.toList.drop (j * size)).take size := by
      apply List.ext_getElem?
      intro i
      rw [List.getElem?_take, List.getElem?_take, List.getElem?_drop, List.getElem?_drop, List.getElem?_take]
      by_cases hi : i < size
      · rw [if_pos hi, if_pos hi, if_pos (by omega)]
      · rw [if_neg hi, if_neg hi]
    rw [e1]
    exact h7 j hj

def Bw (w : World) (b : Nat) (t : TypeId) (vs : List Value) : Prop := w.heap[b]? = some (.cells vs.toArray t (0, 0))

theorem Bw.lt {w : World} {b : Nat} {t : TypeId} {vs : List Value} (h : Bw w b t vs) : b < w.heap.size := (Array.getElem?_eq_some_iff.1 h).1

theorem Bw.cell {w : World} {b : Nat} {t : TypeId} {vs : List Value} (h : Bw w b t vs) (i : Nat) (u : Value) (hu : vs[i]? = some u) : w.cell? ⟨b, i, none⟩ = some u := by
  rw [cell_of_row w b i vs.toArray t (0, 0) h]
  simpa using hu

theorem Bw.free {w : World} {b : Nat} {t : TypeId} {vs : List Value} (h : Bw w b t vs) (i : Nat) : w.frozen? ⟨b, i, none⟩ = false := frozen_of_row w b i _ t h

theorem Bw.below {B : Nat} {w w' : World} {b : Nat} {t : TypeId} {vs : List Value} (h : Bw w b t vs) (hb : Below B w w') (hB : b < B) : Bw w' b t vs := (hb.block b hB).trans h

theorem Bw.under {w w' : World} {b : Nat} {t : TypeId} {vs : List Value} (h : Bw w b t vs) (hb : Below w.heap.size w w') : Bw w' b t vs := h.below hb h.lt

theorem Bw.turn {F : List Nat} {w w' : World} {b : Nat} {t : TypeId} {vs : List Value} (h : Bw w b t vs) (ht : Turn F w w') (hF : b ∉ F) : Bw w' b t vs := (ht.block b h.lt hF).trans h

theorem Bw.alloc {w : World} {b : Nat} {t : TypeId} {vs : List Value} (h : Bw w b t vs) (o : Obj) : Bw (w.alloc o) b t vs := h.under ((Below.refl _ _).alloc (Nat.le_refl _) o)

theorem Bw.new (w : World) (t : TypeId) (vs : List Value) : Bw (w.alloc (.cells vs.toArray t)) w.heap.size t vs := by
  show (w.heap.push _)[w.heap.size]? = _
  rw [Array.getElem?_push_size]

theorem Bw.new' (w : World) (t : TypeId) (vs : List Value) {b : Nat} (hb : b = w.heap.size) : Bw (w.alloc (.cells vs.toArray t)) b t vs := by
  subst hb
  exact Bw.new w t vs

theorem Bw.drew {w : World} {b : Nat} {t : TypeId} {vs : List Value} (h : Bw w b t vs) : Bw w.drew b t vs := h

theorem Bw.bx {w : World} {b : Nat} {t : TypeId} {vs : List Value} (h : Bw w b t vs) : Bx w b vs := ⟨h.lt, fun i u hu => h.cell i u hu⟩

theorem Bw.put {w : World} {b : Nat} {t : TypeId} {vs : List Value} (h : Bw w b t vs) (i : Nat) (u : Value) : Bw (w.setCell ⟨b, i, none⟩ u) b t (vs.set i u) := by
  have := heap_setCell_same w b i vs.toArray t u h
  unfold Bw
  rw [this]
  simp

/-- Four cells of one block are written. -/
theorem turn4 (w : World) (b : Nat) (u0 u1 u2 u3 : Value) : Turn [b] w ((((w.setCell ⟨b, 0, none⟩ u0).setCell ⟨b, 1, none⟩ u1).setCell ⟨b, 2, none⟩ u2).setCell ⟨b, 3, none⟩ u3) :=
  Turn.setCell (Turn.setCell (Turn.setCell (Turn.setCell (Turn.refl _ _) (by simp) _) (by simp) _) (by simp) _) (by simp) _

theorem ownS.leaf {α : Type} {size : Nat} {e : TypeId} {O : ORep α} {R : Rep α} (hO : O.Good R size) {w : World} {a : Option Addr} {c : Nat} {l : List α} {F : List Nat} (h : ownS size e O w (.slice a l.length c) l F) : LeafL size R w.heap.size w a c l := by
  obtain ⟨a', c', he, h1, h2, h3⟩ := ownS.read hO h
  simp only [Value.slice.injEq, true_and] at he
  obtain ⟨rfl, rfl⟩ := he
  exact ⟨h1, h2, h3⟩

end Go.Proofs.Ytembioiaeimegaa
