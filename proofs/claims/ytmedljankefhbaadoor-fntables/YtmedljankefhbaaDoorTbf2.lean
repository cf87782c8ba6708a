/-
  Part 3 of the texts that the proof leans on.
-/
import Derived.Laws.CopyOwn
import Derived.Test.YtmedljankefhbaaDoorTbf1
import Derived.Test.YtmedljankefhbaaDoorTbf0
import Derived.Test.YtmedljankefhbaaDoorChecked
import Derived.Lib.DecodeN
import Derived.Shelf.Unicode.DecodeAny
import Derived.Test.YtmedljankefhbaaDoorProg
set_option linter.unusedVariables false
set_option linter.unusedSimpArgs false
set_option maxRecDepth 10000

namespace Go.Proofs.YtmedljankefhbaaDoor
open Go.RowKit

/-- The cells of a list that is read, one behind the other. -/
theorem RdS.cells {α : Type} {size : Nat} {R : Rep α} {B : Nat} {w : World} {b off : Nat} {l : List α} (h : RdS size R B w (some ⟨b, off, none⟩) l) : ∀ k, k ≤ l.length →
    ∃ css : List (List Value), css.length = k ∧ (∀ c, c ∈ css → c.length = size) ∧ (∀ j, (h1 : j < l.length) → (h2 : j < css.length) → R B w css[j] l[j]) ∧ ∀ i u, css.flatten[i]? = some u → w.cell? ⟨b, off + i, none⟩ = some u
  | 0, _ => ⟨[], rfl, (fun _ hc => by cases hc), (fun _ _ h2 => by simp at h2), (fun i u hu => by simp at hu)⟩
  | k + 1, hk => by
    obtain ⟨css, h1, h2, h3, h4⟩ := RdS.cells h k (by omega)
    obtain ⟨b', off', e, _, cs, hc1, hc2, hc3⟩ := h k (by omega)
    simp only [Option.some.injEq, Addr.mk.injEq, and_true] at e
    obtain ⟨rfl, rfl⟩ := e
    have hfl : css.flatten.length = k * size := by
      rw [List.length_flatten]
      have : css.map List.length = List.replicate k size := by
        apply List.ext_getElem
        · simp [h1]
        · intro i hi1 hi2
          simp only [List.getElem_map, List.getElem_replicate]
          exact h2 _ (List.getElem_mem _)
      rw [this]
      simp
    refine ⟨css ++ [cs], by simp [h1], ?_, ?_, ?_⟩
    · intro c hc
      rcases List.mem_append.1 hc with hc | hc
      · exact h2 c hc
      · simp at hc; subst hc; exact hc1
    · intro j hj hj2
      by_cases hjk : j < k
      · rw [List.getElem_append_left (by omega)]
        exact h3 j hj (by omega)
      · have hje : j = k := by simp at hj2; omega
        subst hje
        rw [List.getElem_append_right (by omega)]
        simpa [h1] using hc3
    · intro i u hu
      rw [List.flatten_append] at hu
      by_cases hi : i < k * size
      · rw [List.getElem?_append_left (by omega)] at hu
        exact h4 i u hu
      · rw [List.getElem?_append_right (by omega), hfl] at hu
        have h5 := hc2 (i - k * size) u (by simpa using hu)
        rw [show off + k * size + (i - k * size) = off + i from by omega] at h5
        exact h5

theorem flat_part {size : Nat} {css : List (List Value)} (h : ∀ c, c ∈ css → c.length = size) {j : Nat} (hj : j < css.length) : (css.flatten.drop (j * size)).take size = css[j] := by
  apply List.ext_getElem?
  intro i
  rw [List.getElem?_take, List.getElem?_drop]
  by_cases hi : i < size
  · rw [if_pos hi, flatten_at h hi, List.getElem?_eq_getElem hj, Option.bind_some]
  · rw [if_neg hi, List.getElem?_eq_none (by rw [h _ (List.getElem_mem hj)]; omega)]

theorem flat_len {size : Nat} : ∀ {css : List (List Value)}, (∀ c, c ∈ css → c.length = size) → css.flatten.length = css.length * size
  | [], _ => by simp
  | c :: r, h => by
    rw [List.flatten_cons, List.length_append, h c (by simp), flat_len (fun x hx => h x (by simp [hx])), List.length_cons, Nat.succ_mul]
    omega

section
variable {P : Program} (w : World)

theorem run_append_src_at (base : Nat) (t tx ty e : TypeId) (i : TypeInfo) (z : Value) (size bytes : Nat) (ht : P.underlying t = some (.slice e)) (hi : P.info? e = some i) (hz : i.zero = some z)
    (hsize : i.size = size) (hby : i.bytes = bytes) (hzs : z.cells.size = size)
    (v : Value) (n : Nat) (xs : List Value) (hown : w.ownsRow base e size v n xs) (x : Value) (m : Nat) (news : List Value) (hs : Src P size tx x m news w)
    (h63 : n + m ≤ maxLen) (hbytes : (n + m) * bytes ≤ 140737488355328) (hbase : base ≤ w.heap.size) :
    ∃ v' w', (Builtin.append_ #[t, tx] ty #[v, x]).run P w = .ok v' w' ∧ w'.ownsRow base e size v' (n + m) (xs ++ news) ∧ w.grownBy w' v.ownBlock ∧ (v'.ownBlock = v.ownBlock ∨ v'.ownBlock = some w.heap.size) := by
  subst hsize
  subst hby
  have hl := hs.newsLen
  have hsmall : n + m ≤ 9223372036854775807 := by simp only [maxLen] at h63; omega
  have hlen : (xs ++ news).length = (n + m) * i.size := by rw [List.length_append, hown.1, hl, Nat.add_mul]
  have grown : ∀ (old : Nat), old < n + m → ∀ (row : Option Nat),
      (w.drew.alloc (.cells ((xs ++ news).toArray ++ Builtin.zeroCells z.cells (grownCap w (n + m) old e - (n + m))) e)).ownsRow base e i.size
        (.slice (some ⟨w.heap.size, 0, none⟩) (n + m) (grownCap w (n + m) old e)) (n + m) (xs ++ news) ∧
      w.grownBy (w.drew.alloc (.cells ((xs ++ news).toArray ++ Builtin.zeroCells z.cells (grownCap w (n + m) old e - (n + m))) e)) row := by
    intro old ho row
    have hge := grownCap_ge w (n + m) old e
    have hcm : grownCap w (n + m) old e ≤ maxLen := grownCap_le_maxLen w (n + m) old e h63
    refine ⟨⟨hlen, .inr ⟨w.heap.size, _, _, rfl, hbase, heap_alloc_new w.drew _, hge, hcm, ?_, ?_⟩⟩, ⟨rfl, rfl, rfl, by simp, fun k hk _ => Go.heap_alloc_old w.drew _ hk⟩⟩
    · rw [Array.size_append, List.size_toArray, size_zeroCells, hzs, hlen, ← Nat.add_mul]
      congr 1
      omega
    · rw [Array.toList_append, ← hlen]
      exact List.take_left
  rcases hown.2 with ⟨rfl, rfl⟩ | ⟨g, cap, cur, rfl, hbg, hg, hnc, hcm, hcs, htake⟩
  · have hx : xs = [] := List.eq_nil_of_length_eq_zero (by simpa using hown.1)
    subst hx
    by_cases hm : m = 0
    · subst hm
      have hn : news = [] := List.eq_nil_of_length_eq_zero (by simpa using hl)
      subst hn
      refine ⟨.slice none 0 0, w, ?_, World.ownsRow_nil w base e i.size, World.grownBy.refl _ _, .inl rfl⟩
      rcases hs.kind with ⟨e', hk⟩ | hk <;> simp [Builtin.append_, run_underlying ht, run_underlying hk, sizeOf, typeInfo, hi, hs.len, hs.cells]
    · have hr := run_append_grow_src (P := P) w t tx ty e i z ht hi hz none 0 0 [] (run_firstCells_none w.drew i.size 0 0 0) x m news hs (by omega) (by omega) (growslice_fits (by omega) hbytes)
      have hgr := grown 0 (by omega) (Value.ownBlock (.slice none 0 0))
      exact ⟨_, _, hr, hgr.1, hgr.2, .inr rfl⟩
  · by_cases hroom : n + m ≤ cap
    · have hfit : n * i.size + news.length ≤ cur.size := by rw [hl, hcs, ← Nat.add_mul]; exact Nat.mul_le_mul_right _ hroom
      have hr := run_append_room_src (P := P) w t tx ty e i ht hi g 0 n cap x m news hs hroom
        (fun j hj => by rw [Nat.zero_add, cell_of_row w g _ cur e (0, 0) hg, Array.getElem?_eq_getElem (by omega)]; rfl) (fun j hj => frozen_of_row w g _ cur e hg)
      rw [Nat.zero_add] at hr
      obtain ⟨⟨cur', h2, h3, h4⟩, h5⟩ := setCells_row g e news (n * i.size) w cur hg hfit
      refine ⟨_, _, hr, ⟨hlen, .inr ⟨g, cap, cur', rfl, hbg, h2, hroom, hcm, by rw [h3, hcs], ?_⟩⟩, h5, .inl rfl⟩
      rw [Nat.add_mul, ← hl, h4, htake]
    · have holds : (Builtin.firstCells i.size n (.slice (some ⟨g, 0, none⟩) n cap)).run P w.drew = .ok xs.toArray w.drew :=
        run_firstCells_some w.drew i.size n ⟨g, 0, none⟩ n cap xs hown.1 (by simpa using hown.cells (g := g) rfl)
      have hr := run_append_grow_src (P := P) w t tx ty e i z ht hi hz (some ⟨g, 0, none⟩) n cap xs holds x m news hs (by omega) (by omega) (growslice_fits (by omega) hbytes)
      have hgr := grown cap (by omega) (Value.ownBlock (.slice (some ⟨g, 0, none⟩) n cap))
      exact ⟨_, _, hr, hgr.1, hgr.2, .inr rfl⟩

/-- As one step of a region that draws its order. -/
theorem step_append_src {ops : Array Oper} {o : Oper} {a : Act} {K : Act → World → Prop} {Q : Exit → Act → World → Prop} {E : Prop} (hgd : o.guard = none) (s x : Operand) (t tx : TypeId)
    (ho : o.op = .call { callee := .builtin .append, args := #[s, x], argTypes := #[t, tx] })
    (base : Nat) (e : TypeId) (i : TypeInfo) (z : Value) (size bytes : Nat) (ht : P.underlying t = some (.slice e)) (hi : P.info? e = some i) (hz : i.zero = some z)
    (hsize : i.size = size) (hby : i.bytes = bytes) (hzs : z.cells.size = size)
    (v : Value) (n : Nat) (xs : List Value) (hs : a.eval s = v) (hown : w.ownsRow base e size v n xs)
    (y : Value) (hy : a.eval x = y) (m : Nat) (news : List Value) (hx : Src P size tx y m news w)
    (h63 : n + m ≤ maxLen) (hbytes : (n + m) * bytes ≤ 140737488355328) (hbase : base ≤ w.heap.size)
    (h : ∀ v' w', w'.ownsRow base e size v' (n + m) (xs ++ news) → w.grownBy w' v.ownBlock → (v'.ownBlock = v.ownBlock ∨ v'.ownBlock = some w.heap.size) → K (a.put o.dst v') w') :
    if Region.wanted o (yielded ops a.tmps) = true then Oper.wp P o a w K Q else E := by
  have hw : Region.wanted o (yielded ops a.tmps) = true := by simp [Region.wanted, hgd]
  rw [if_pos hw]
  subst hy
  obtain ⟨v', w', hr, h2, h3, h4⟩ := run_append_src_at (P := P) w base t tx o.type e i z size bytes ht hi hz hsize hby hzs v n xs hown (a.eval x) m news hx h63 hbytes hbase
  unfold Oper.wp execOp
  simp only [ho, resolve, invoke, builtin, Sem.run_bind, Sem.run_pure, Result.andThen_ok, List.map_toArray, List.map_cons, List.map_nil, hs, hr]
  exact h v' w' h2 h3 h4

end

theorem Turn.drew {F : List Nat} {a b : World} (h : Turn F a b) : Turn F a b.drew := h.trans (Turn.ofBelow (Below.drew (Below.refl _ _)))

theorem Turn.alloc {F : List Nat} {a b : World} (h : Turn F a b) (o : Obj) : Turn F a (b.alloc o) := h.trans (Turn.ofBelow (Below.alloc (Below.refl _ _) (Nat.le_refl _) o))

theorem own_slice {w : World} {base e size n : Nat} {v : Value} {xs : List Value} (h : w.ownsRow base e size v n xs) : ∃ a c, v = .slice a n c := by
  rcases h.2 with ⟨rfl, h0⟩ | ⟨g, cap, cur, rfl, _⟩
  · exact ⟨none, 0, by rw [h0]⟩
  · exact ⟨_, cap, rfl⟩

/-- One more element behind a list of one's own. -/
theorem ownS.push {α : Type} {size : Nat} {e : TypeId} {O : ORep α} {R : Rep α} (hO : O.Good R size) {w : World} {v : Value} {l : List α} {F : List Nat} (h : ownS size e O w v l F) (hN : F.Nodup) :
    ∃ xs, w.ownsRow 0 e size v l.length xs ∧ ∀ (w' : World) (v' : Value) (news : List Value) (m' : α) (Fx : List Nat), w'.ownsRow 0 e size v' (l.length + 1) (xs ++ news) → w.grownBy w' v.ownBlock → (v'.ownBlock = v.ownBlock ∨ v'.ownBlock = some w.heap.size) → O w news m' Fx → Fx.Nodup → (∀ b, b ∈ Fx → b ∉ F) →
      ∃ F', ownS size e O w' v' (l ++ [m']) F' ∧ F'.Nodup ∧ ∀ b, b ∈ F' → b ∈ F ∨ b ∈ Fx ∨ b = w.heap.size := by
  have key : ∀ (Fs : List (List Nat)) (xs : List Value), Fs.length = l.length → (∀ j, (h : j < l.length) → O w ((xs.drop (j * size)).take size) l[j] (Fs.getD j [])) → (∀ b, b ∈ Fs.flatten → b ∈ F) → Fs.flatten.Nodup → (∀ k, v.ownBlock = some k → k ∈ F ∧ k ∉ Fs.flatten) → xs.length = l.length * size → 
      ∀ (w' : World) (v' : Value) (news : List Value) (m' : α) (Fx : List Nat), w'.ownsRow 0 e size v' (l.length + 1) (xs ++ news) → w.grownBy w' v.ownBlock → (v'.ownBlock = v.ownBlock ∨ v'.ownBlock = some w.heap.size) → O w news m' Fx → Fx.Nodup → (∀ b, b ∈ Fx → b ∉ F) →
      ∃ F', ownS size e O w' v' (l ++ [m']) F' ∧ F'.Nodup ∧ ∀ b, b ∈ F' → b ∈ F ∨ b ∈ Fx ∨ b = w.heap.size := by
    intro Fs xs f1 f2 f3 f4 f5 hxl w' v' news m' Fx ho hg hat hx hxN hxF
    have hnl := hO.len hx
    have hfr : ∀ b, b < w.heap.size → (∀ k, v.ownBlock = some k → b ≠ k) → w'.heap[b]? = w.heap[b]? := fun b hb hne => hg.block b hb (fun hh => hne b hh.symm rfl)
    have hFlt : ∀ j, (h : j < l.length) → ∀ b, b ∈ Fs.getD j [] → b < w.heap.size := fun j hj b hb => hO.lt (f2 j hj) b hb
    have hFin : ∀ j, (h : j < l.length) → ∀ b, b ∈ Fs.getD j [] → b ∈ Fs.flatten := fun j hj b hb => mem_flatten_getD (by omega) hb
    rcases ho.2 with ⟨_, h0⟩ | ⟨g, cap, cur, rfl, hb, hg', hnc, hm, hs, ht⟩
    · omega
    · have hgb : g ∈ F ∨ g = w.heap.size := by
        rcases hat with h | h
        · exact .inl (f5 g h.symm).1
        · right; simpa [Value.ownBlock] using h
      have hgn : g ∉ (Fs ++ [Fx]).flatten := by
        rw [List.flatten_append, List.mem_append]
        rintro (h | h)
        · rcases hat with h' | h'
          · exact (f5 g h'.symm).2 h
          · have hgw : g = w.heap.size := by simpa [Value.ownBlock] using h'
            obtain ⟨j, hj, hjb⟩ := of_mem_flatten h
            have := hFlt j (by omega) g hjb
            omega
        · have h : g ∈ Fx := by simpa using h
          rcases hgb with h' | h'
          · exact hxF g h h'
          · have := hO.lt hx g h; omega
      refine ⟨g :: (Fs ++ [Fx]).flatten, .inr ⟨g, cap, cur, Fs ++ [Fx], by simp, hg', by simpa using hnc, hm, hs, by simp [f1], ?_, rfl⟩, List.nodup_cons.2 ⟨hgn, ?_⟩, ?_⟩
      · intro j hj
        have hj1 : j ≤ l.length := by simp at hj; omega
        have hpart : ∀ j, j ≤ l.length → (cur.toList.drop (j * size)).take size = ((xs ++ news).drop (j * size)).take size := by
          intro j hj
          rw [← ht]
          have hmul : (j + 1) * size ≤ (l.length + 1) * size := Nat.mul_le_mul_right _ (by omega)
          rw [Nat.succ_mul] at hmul
          apply List.ext_getElem?
          intro i
          rw [List.getElem?_take, List.getElem?_take, List.getElem?_drop, List.getElem?_drop, List.getElem?_take]
          by_cases hi : i < size
          · rw [if_pos hi, if_pos hi, if_pos (by omega)]
          · rw [if_neg hi, if_neg hi]
        by_cases hjl : j < l.length
        · have e1 : ((xs ++ news).drop (j * size)).take size = (xs.drop (j * size)).take size := by
            have hmul : (j + 1) * size ≤ l.length * size := Nat.mul_le_mul_right _ hjl
            rw [Nat.succ_mul] at hmul
            apply List.ext_getElem?
            intro i
            rw [List.getElem?_take, List.getElem?_take, List.getElem?_drop, List.getElem?_drop]
            by_cases hi : i < size
            · rw [if_pos hi, if_pos hi, List.getElem?_append_left (by omega)]
            · rw [if_neg hi, if_neg hi]
          have e2 : (Fs ++ [Fx]).getD j [] = Fs.getD j [] := by rw [List.getD_eq_getElem?_getD, List.getD_eq_getElem?_getD, List.getElem?_append_left (by omega)]
          rw [hpart j hj1, e1, e2, List.getElem_append_left hjl]
          refine hO.frame (f2 j hjl) (fun b hb => hfr b (hFlt j hjl b hb) (fun k hk hbk => ?_))
          subst hbk
          exact (f5 b hk).2 (hFin j hjl b hb)
        · have hje : j = l.length := by omega
          subst hje
          have e1 : ((xs ++ news).drop (l.length * size)).take size = news := by
            rw [← hxl, List.drop_left, List.take_of_length_le (by omega)]
          have e2 : (Fs ++ [Fx]).getD l.length [] = Fx := by rw [List.getD_eq_getElem?_getD, List.getElem?_append_right (by omega), f1, Nat.sub_self]; rfl
          rw [hpart _ hj1, e1, e2]
          have e3 : (l ++ [m'])[l.length] = m' := by simp
          rw [e3]
          refine hO.frame hx (fun b hb => hfr b (hO.lt hx b hb) (fun k hk hbk => ?_))
          subst hbk
          exact hxF b hb (f5 b hk).1
      · rw [List.flatten_append]
        refine List.nodup_append.2 ⟨f4, by simpa using hxN, ?_⟩
        intro a ha b hb' hab
        subst hab
        exact hxF a (by simpa using hb') (f3 a ha)
      · intro b hb
        rcases List.mem_cons.1 hb with rfl | hb
        · rcases hgb with h | h
          · exact .inl h
          · exact .inr (.inr h)
        · rw [List.flatten_append, List.mem_append] at hb
          rcases hb with hb | hb
          · exact .inl (f3 b hb)
          · exact .inr (.inl (by simpa using hb))
  rcases h with ⟨rfl, rfl, rfl⟩ | ⟨g, cap, cur, Fs, rfl, h2, h3, h4, h5, h6, h7, rfl⟩
  · exact ⟨[], World.ownsRow_nil w 0 e size, key [] [] rfl (fun j hj => by simp at hj) (fun b hb => by simp at hb) (by simp) (fun k hk => by simp [Value.ownBlock] at hk) (by simp)⟩
  · rw [List.nodup_cons] at hN
    have hcl : cur.toList.length = cap * size := by simpa using h5
    have hle : l.length * size ≤ cap * size := Nat.mul_le_mul_right _ h3
    refine ⟨cur.toList.take (l.length * size), ⟨by rw [List.length_take]; omega, .inr ⟨g, cap, cur, rfl, Nat.zero_le _, h2, h3, h4, h5, rfl⟩⟩, key Fs _ h6 ?_ (fun b hb => List.mem_cons_of_mem _ hb) hN.2 (fun k hk => by simp [Value.ownBlock] at hk; subst hk; exact ⟨by simp, hN.1⟩) (by rw [List.length_take]; omega)⟩
    intro j hj
    have hmul : (j + 1) * size ≤ l.length * size := Nat.mul_le_mul_right _ hj
    rw [Nat.succ_mul] at hmul
    have e1 : ((cur.toList.take (l.length * size)).drop (j * size)).take size = (cur.toList.drop (j * size)).take size := by
      apply List.ext_getElem?
      intro i
      rw [List.getElem?_take, List.getElem?_take, List.getElem?_drop, List.getElem?_drop, List.getElem?_take]
      by_cases hi : i < size
      · rw [if_pos hi, if_pos hi, if_pos (by omega)]
      · rw [if_neg hi, if_neg hi]
    rw [e1]
    exact h7 j hj

def Bw (w : World) (b : Nat) (t : TypeId) (vs : List Value) : Prop := w.heap[b]? = some (.cells vs.toArray t (0, 0))

theorem Bw.lt {w : World} {b : Nat} {t : TypeId} {vs : List Value} (h : Bw w b t vs) : b < w.heap.size := (Array.getElem?_eq_some_iff.1 h).1

theorem Bw.cell {w : World} {b : Nat} {t : TypeId} {vs : List Value} (h : Bw w b t vs) (i : Nat) (u : Value) (hu : vs[i]? = some u) : w.cell? ⟨b, i, none⟩ = some u := by
  rw [cell_of_row w b i vs.toArray t (0, 0) h]
  simpa using hu

theorem Bw.free {w : World} {b : Nat} {t : TypeId} {vs : List Value} (h : Bw w b t vs) (i : Nat) : w.frozen? ⟨b, i, none⟩ = false := frozen_of_row w b i _ t h

theorem Bw.below {B : Nat} {w w' : World} {b : Nat} {t : TypeId} {vs : List Value} (h : Bw w b t vs) (hb : Below B w w') (hB : b < B) : Bw w' b t vs := (hb.block b hB).trans h

theorem Bw.under {w w' : World} {b : Nat} {t : TypeId} {vs : List Value} (h : Bw w b t vs) (hb : Below w.heap.size w w') : Bw w' b t vs := h.below hb h.lt

theorem Bw.turn {F : List Nat} {w w' : World} {b : Nat} {t : TypeId} {vs : List Value} (h : Bw w b t vs) (ht : Turn F w w') (hF : b ∉ F) : Bw w' b t vs := (ht.block b h.lt hF).trans h

theorem Bw.alloc {w : World} {b : Nat} {t : TypeId} {vs : List Value} (h : Bw w b t vs) (o : Obj) : Bw (w.alloc o) b t vs := h.under ((Below.refl _ _).alloc (Nat.le_refl _) o)

theorem Bw.new (w : World) (t : TypeId) (vs : List Value) : Bw (w.alloc (.cells vs.toArray t)) w.heap.size t vs := by
  show (w.heap.push _)[w.heap.size]? = _
  rw [Array.getElem?_push_size]

theorem Bw.new' (w : World) (t : TypeId) (vs : List Value) {b : Nat} (hb : b = w.heap.size) : Bw (w.alloc (.cells vs.toArray t)) b t vs := by
  subst hb
  exact Bw.new w t vs

theorem Bw.drew {w : World} {b : Nat} {t : TypeId} {vs : List Value} (h : Bw w b t vs) : Bw w.drew b t vs := h

theorem Bw.put {w : World} {b : Nat} {t : TypeId} {vs : List Value} (h : Bw w b t vs) (i : Nat) (u : Value) : Bw (w.setCell ⟨b, i, none⟩ u) b t (vs.set i u) := by
  have := heap_setCell_same w b i vs.toArray t u h
  unfold Bw
  rw [this]
  simp

theorem ownS.leaf {α : Type} {size : Nat} {e : TypeId} {O : ORep α} {R : Rep α} (hO : O.Good R size) {w : World} {a : Option Addr} {c : Nat} {l : List α} {F : List Nat} (h : ownS size e O w (.slice a l.length c) l F) : LeafL size R w.heap.size w a c l := by
  obtain ⟨a', c', he, h1, h2, h3⟩ := ownS.read hO h
  simp only [Value.slice.injEq, true_and] at he
  obtain ⟨rfl, rfl⟩ := he
  exact ⟨h1, h2, h3⟩

end Go.Proofs.YtmedljankefhbaaDoor

namespace Go.Proofs.YtmedljankefhbaaDoor
open Go.RowKit Go.Maps

def rdPs (B : Nat) (w : World) (v : Value) (l : List MPair) : Prop := ∃ a c, v = .slice a l.length c ∧ LeafL 3 rPair B w a c l
theorem rdPs.below {B : Nat} {w w' : World} {v : Value} {l : List MPair} (h : rdPs B w v l) (hb : Below B w w') : rdPs B w' v l := by
  obtain ⟨a, c, e, h1⟩ := h
  exact ⟨a, c, e, h1.below rPair_good hb⟩
theorem rdPs.mono {B B' : Nat} {w : World} {v : Value} {l : List MPair} (h : rdPs B w v l) (hB : B ≤ B') : rdPs B' w v l := by
  obtain ⟨a, c, e, h1⟩ := h
  exact ⟨a, c, e, LeafL.mono rPair_good h1 hB⟩
theorem rdPs_own {e : TypeId} {w : World} {v : Value} {l : List MPair} {F : List Nat} (h : ownS 3 e oPair w v l F) : rdPs w.heap.size w v l := ownS.read oPair_good h
theorem sumW_sublist' {α : Type} {f : α → Nat} {l k : List α} (h : l.Sublist k) : sumW f l ≤ sumW f k := by
  induction h with
  | slnil => exact Nat.le_refl _
  | cons a _ ih => simp only [sumW]; omega
  | cons_cons a _ ih => simp only [sumW]; omega

/-- A row that was made is one's own. -/
theorem pairs_own {B base elem : Nat} {w : World} {v : Value} {l : List MPair} (h : RowR 3 elem rPair B w base v l) : ownS 3 elem oPair w v l v.ownBlock.toList ∧ v.ownBlock.toList.Nodup ∧ ∀ b, b ∈ v.ownBlock.toList → base ≤ b := by
  obtain ⟨css, h1, h2, h3, h4⟩ := h
  have hge : ∀ b, b ∈ v.ownBlock.toList → base ≤ b := fun b hb => (h4.lt b (by simpa using hb)).1
  refine ⟨?_, by cases v.ownBlock <;> simp, hge⟩
  rcases h4.2 with ⟨rfl, h0⟩ | ⟨g, cap, cur, rfl, hb, hg, hnc, hm, hs, ht⟩
  · exact .inl ⟨rfl, List.eq_nil_of_length_eq_zero h0, rfl⟩
  · refine .inr ⟨g, cap, cur, List.replicate l.length [], rfl, hg, hnc, hm, hs, by simp, ?_, by simp [Value.ownBlock]⟩
    intro j hj
    have hj2 : j < css.length := by omega
    have e0 : (cur.toList.drop (j * 3)).take 3 = css[j] := by
      rw [← flat_part h2 hj2, ← ht]
      apply List.ext_getElem?
      intro i
      rw [List.getElem?_take, List.getElem?_take, List.getElem?_drop, List.getElem?_drop, List.getElem?_take]
      by_cases hi : i < 3
      · rw [if_pos hi, if_pos hi, if_pos (by omega)]
      · rw [if_neg hi, if_neg hi]
    rw [e0]
    obtain ⟨e1, e2, e3, e4, _⟩ := h3 j hj hj2
    refine ⟨e1, e2, e3, trivial, ?_⟩
    rw [List.getD_eq_getElem?_getD]
    simp [hj]


theorem own_lit1 (w : World) (base e size : Nat) (h : base ≤ w.heap.size) : (w.alloc (.cells #[] e)).ownsRow base e size (.slice (some ⟨w.heap.size, 0, none⟩) 0 0) 0 [] :=
  ⟨by simp, .inr ⟨w.heap.size, 0, #[], rfl, h, (show (w.heap.push _)[w.heap.size]? = _ from Array.getElem?_push_size), by omega, by simp [maxLen], by simp, by simp⟩⟩

end Go.Proofs.YtmedljankefhbaaDoor

namespace Go.Proofs.YtmedljankefhbaaDoor
open Go.RowKit

/-- How many first elements two lists have in common. -/
def comL : List UInt8 → List UInt8 → Nat
  | x :: xs, y :: ys => if x = y then comL xs ys + 1 else 0
  | [], _ => 0
  | _ :: _, [] => 0
theorem comL_le (a b : List UInt8) : comL a b ≤ a.length ∧ comL a b ≤ b.length := by
  induction a generalizing b with
  | nil => simp [comL]
  | cons x xs ih =>
    cases b with
    | nil => simp [comL]
    | cons y ys =>
      have := ih ys
      simp only [comL]
      split <;> simp <;> omega
theorem comL_eq (a b : List UInt8) (k : Nat) (ha : k ≤ a.length) (hb : k ≤ b.length) (h : ∀ j, j < k → a[j]? = b[j]?) (he : k = a.length ∨ k = b.length ∨ a[k]? ≠ b[k]?) : comL a b = k := by
  induction k generalizing a b with
  | zero =>
    cases a with
    | nil => cases b <;> rfl
    | cons x xs =>
      cases b with
      | nil => rfl
      | cons y ys =>
        simp only [comL]
        rw [if_neg]
        rintro rfl
        simp at he
  | succ k ih =>
    cases a with
    | nil => simp at ha
    | cons x xs =>
      cases b with
      | nil => simp at hb
      | cons y ys =>
        have h0 := h 0 (by omega)
        simp at h0
        subst h0
        simp only [comL]
        rw [if_pos trivial, ih xs ys (by simpa using ha) (by simpa using hb) (fun j hj => by have := h (j + 1) (by omega); simpa using this) (by simpa using he)]
def com (a b : ByteArray) : Nat := comL a.data.toList b.data.toList
theorem com_le (a b : ByteArray) : com a b ≤ a.size ∧ com a b ≤ b.size := comL_le _ _

def goneI (p : MPair) : Int := if p.fGone then 1 else 0
/-- A pair behind another key. -/
def pairB (last : ByteArray) (p : MPair) : List Int :=
  putText (putText (putNum (clampN (com last p.fKey))) (p.fKey.extract (com last p.fKey) p.fKey.size) ++ [goneI p]) p.fVal
def lastK : ByteArray → List MPair → ByteArray
  | k, [] => k
  | _, p :: ps => lastK p.fKey ps
def blockB : ByteArray → List MPair → List Int
  | _, [] => []
  | k, p :: ps => pairB k p ++ blockB p.fKey ps
theorem blockB_snoc (k : ByteArray) (l : List MPair) (p : MPair) : blockB k (l ++ [p]) = blockB k l ++ pairB (lastK k l) p := by
  induction l generalizing k with
  | nil => simp [blockB, lastK]
  | cons q l ih => simp [blockB, lastK, ih]
theorem lastK_snoc (k : ByteArray) (l : List MPair) (p : MPair) : lastK k (l ++ [p]) = p.fKey := by
  induction l generalizing k with
  | nil => rfl
  | cons q l ih => simp [lastK, ih]
theorem strInts_ok (s : ByteArray) : BytesOk (strInts s) := by
  intro z hz
  simp only [strInts, List.mem_map] at hz
  obtain ⟨b, _, rfl⟩ := hz
  have := b.toNat_lt
  omega
theorem putText_ok {zs : List Int} (h : BytesOk zs) (s : ByteArray) : BytesOk (putText zs s) := (h.append (putNum_ok _)).append (strInts_ok s)
theorem goneI_ok (p : MPair) : BytesOk [goneI p] := by
  intro z hz
  simp only [List.mem_singleton] at hz
  subst hz
  unfold goneI
  split <;> omega
theorem pairB_ok (k : ByteArray) (p : MPair) : BytesOk (pairB k p) := putText_ok ((putText_ok (putNum_ok _) _).append (goneI_ok p)) _
theorem blockB_ok (k : ByteArray) (l : List MPair) : BytesOk (blockB k l) := by
  induction l generalizing k with
  | nil => intro z hz; simp [blockB] at hz
  | cons p l ih => exact (pairB_ok k p).append (ih _)
theorem putText_len (zs : List Int) (s : ByteArray) : (putText zs s).length ≤ zs.length + 5 + s.size := by
  have := (putNum_length (clampN s.size)).2
  simp only [putText, List.length_append, strInts_length]
  omega
theorem ext_size (s : ByteArray) (n : Nat) : (s.extract n s.size).size ≤ s.size := by rw [ByteArray.size_extract]; omega
theorem pairB_len (k : ByteArray) (p : MPair) : (pairB k p).length ≤ 16 + wPair p := by
  have h1 := putText_len (putText (putNum (clampN (com k p.fKey))) (p.fKey.extract (com k p.fKey) p.fKey.size) ++ [goneI p]) p.fVal
  have h2 := putText_len (putNum (clampN (com k p.fKey))) (p.fKey.extract (com k p.fKey) p.fKey.size)
  have h3 := (putNum_length (clampN (com k p.fKey))).2
  have h4 := ext_size p.fKey (com k p.fKey)
  have h5 : wPair p = p.fKey.size + p.fVal.size := rfl
  rw [List.length_append, List.length_singleton] at h1
  unfold pairB
  omega
theorem blockB_len (k : ByteArray) (l : List MPair) : (blockB k l).length ≤ 16 * l.length + sumW wPair l := by
  induction l generalizing k with
  | nil => simp [blockB]
  | cons p l ih =>
    have h1 := pairB_len k p
    have h2 := ih p.fKey
    simp only [blockB, List.length_append, List.length_cons, sumW]
    omega

/-- The pairs of a block. -/
def blk (l : List MPair) (i : Nat) : List MPair := (l.drop (4 * i)).take 4
def outB (l : List MPair) : Nat → List Int
  | 0 => []
  | i + 1 => outB l i ++ frame (blockB ByteArray.empty (blk l i))
def idx1 (l : List MPair) (i : Nat) : List Int := putText [] (lastK ByteArray.empty (blk l i)) ++ putNum (clampN (outB l i).length)
def idxB (l : List MPair) : Nat → List Int
  | 0 => []
  | i + 1 => idxB l i ++ idx1 l i
def nBlk (l : List MPair) : Nat := (l.length + 3) / 4
def keysP (l : List MPair) : List ByteArray := l.map fun p => p.fKey
def tabB (l : List MPair) : List Int :=
  outB l (nBlk l) ++ frame (putNum (clampN (nBlk l)) ++ idxB l (nBlk l) ++ flt (keysP l)) ++ four (outB l (nBlk l)).length


def kLt (a b : ByteArray) : Bool := Op.bytesLess a.toList b.toList
theorem kl_asymm : ∀ {x y : List UInt8}, Op.bytesLess x y = true → Op.bytesLess y x = false
  | _, [], h => by simp [Op.bytesLess] at h
  | [], _ :: _, _ => by simp [Op.bytesLess]
  | a :: x, b :: y, h => by
    simp only [Op.bytesLess, Bool.or_eq_true, Bool.and_eq_true, decide_eq_true_eq, beq_iff_eq, Bool.or_eq_false_iff, Bool.and_eq_false_iff, decide_eq_false_iff_not, beq_eq_false_iff_ne] at h ⊢
    rcases h with h | ⟨rfl, h⟩
    · exact ⟨fun h2 => absurd (UInt8.lt_trans h h2) (UInt8.lt_irrefl _), .inl (fun e => by subst e; exact UInt8.lt_irrefl _ h)⟩
    · exact ⟨UInt8.lt_irrefl _, .inr (kl_asymm h)⟩
theorem kl_irrefl (x : List UInt8) : Op.bytesLess x x = false := by
  cases h : Op.bytesLess x x with
  | false => rfl
  | true => have := kl_asymm h; rw [h] at this; cases this
theorem kl_total : ∀ {x y : List UInt8}, Op.bytesLess x y = false → x ≠ y → Op.bytesLess y x = true
  | [], [], _, hn => absurd rfl hn
  | _ :: _, [], _, _ => by simp [Op.bytesLess]
  | [], _ :: _, h, _ => by simp [Op.bytesLess] at h
  | a :: x, b :: y, h, hn => by
    simp only [Op.bytesLess, Bool.or_eq_true, Bool.and_eq_true, decide_eq_true_eq, beq_iff_eq, Bool.or_eq_false_iff, Bool.and_eq_false_iff, decide_eq_false_iff_not, beq_eq_false_iff_ne] at h ⊢
    by_cases hab : a = b
    · subst hab
      right
      refine ⟨rfl, kl_total ?_ (fun e => hn (by rw [e]))⟩
      rcases h.2 with h2 | h2
      · exact absurd rfl h2
      · exact h2
    · left
      rcases UInt8.lt_or_lt_of_ne hab with h1 | h1
      · exact absurd h1 h.1
      · exact h1
theorem kl_trans : ∀ {x y z : List UInt8}, Op.bytesLess x y = true → Op.bytesLess y z = true → Op.bytesLess x z = true
  | _, [], _, h, _ => by simp [Op.bytesLess] at h
  | _, _ :: _, [], _, h => by simp [Op.bytesLess] at h
  | [], _ :: _, _ :: _, _, _ => by simp [Op.bytesLess]
  | a :: x, b :: y, c :: z, h1, h2 => by
    simp only [Op.bytesLess, Bool.or_eq_true, Bool.and_eq_true, decide_eq_true_eq, beq_iff_eq] at h1 h2 ⊢
    rcases h1 with h1 | ⟨rfl, h1⟩
    · rcases h2 with h2 | ⟨rfl, h2⟩
      · exact .inl (UInt8.lt_trans h1 h2)
      · exact .inl h1
    · rcases h2 with h2 | ⟨rfl, h2⟩
      · exact .inl h2
      · exact .inr ⟨rfl, kl_trans h1 h2⟩
theorem k_eq {a b : ByteArray} : (a.toList == b.toList) = true ↔ a = b := by
  rw [beq_iff_eq, ByteArray.toList_eq, ByteArray.toList_eq]
  constructor
  · intro h
    cases a; cases b
    simpa using Array.toList_inj.1 h
  · intro h; rw [h]

theorem k_ne {a b : ByteArray} (h : a ≠ b) : (a.toList == b.toList) = false := by
  rw [Bool.eq_false_iff]
  exact fun e => h (k_eq.1 e)
theorem k_same {a b : ByteArray} (h : a = b) : (a.toList == b.toList) = true := k_eq.2 h


theorem kLt_irrefl (s : ByteArray) : kLt s s = false := kl_irrefl _
theorem kLt_asymm {a b : ByteArray} (h : kLt a b = true) : kLt b a = false := kl_asymm h
theorem kLt_trans {a b c : ByteArray} (h1 : kLt a b = true) (h2 : kLt b c = true) : kLt a c = true := kl_trans h1 h2
theorem kLt_tri {a b : ByteArray} (h1 : kLt a b = false) (h2 : a ≠ b) : kLt b a = true := kl_total h1 (fun e => h2 (k_eq.1 (by rw [e]; simp)))
theorem k_len (s : ByteArray) : s.toList.length = s.size := by
  rw [ByteArray.toList_eq]
  simp
theorem k_emp {s : ByteArray} (h : s.size = 0) : s.toList.isEmpty = true := by
  rw [List.isEmpty_iff]
  apply List.eq_nil_of_length_eq_zero
  rw [k_len]
  exact h
theorem k_nemp {s : ByteArray} (h : s.size ≠ 0) : s.toList.isEmpty = false := by
  rw [List.isEmpty_eq_false_iff]
  intro e
  have := k_len s
  rw [e] at this
  exact h this.symm

def inR (x a b : Int) : Bool := decide (a ≤ x ∧ x ≤ b)
def keyOkP (s : ByteArray) : Bool := decide (1 ≤ s.size ∧ s.size ≤ 20)
def pairOkP (m : MPair) : Bool := keyOkP m.fKey && decide (m.fVal.size ≤ 20) && (!m.fGone || decide (m.fVal.size = 0))

end Go.Proofs.YtmedljankefhbaaDoor

namespace Go.Proofs.YtmedljankefhbaaDoor
open Go.RowKit Go.Maps

set_option maxHeartbeats 400000 in
theorem inR_any (x a b : Int) (w : World) :
    Calls Tryd.prog 60 #[.int .i64 x, .int .i64 a, .int .i64 b] w fun e w' => e = .returned (.bool (inR x a b)) ∧ w' = w := by
  by_cases h1 : a ≤ x
  · by_cases h2 : x ≤ b
    · have HV : Hid (inR x a b = true) := decide_eq_true ⟨h1, h2⟩
      go_enter Tryd.func60, Tryd.ntmps60
      go_wp2
      go_ret
      exact ⟨by rw [HV.out]; rfl, rfl⟩
    · have HV : Hid (inR x a b = false) := decide_eq_false (fun h => h2 h.2)
      go_enter Tryd.func60, Tryd.ntmps60
      go_wp2
      go_ret
      exact ⟨by rw [HV.out]; rfl, rfl⟩
  · have HV : Hid (inR x a b = false) := decide_eq_false (fun h => h1 h.1)
    go_enter Tryd.func60, Tryd.ntmps60
    go_wp2
    go_ret
    exact ⟨by rw [HV.out]; rfl, rfl⟩

set_option maxHeartbeats 400000 in
theorem keyOk_any (s : ByteArray) (w : World) (hs : s.size ≤ 9223372036854775807) :
    Calls Tryd.prog 47 #[.string s] w fun e w' => e = .returned (.bool (keyOkP s)) ∧ w' = w := by
  by_cases h0 : s.size = 0
  · have HV : Hid (keyOkP s = false) := decide_eq_false (fun h => by omega)
    have he := k_emp h0
    go_enter Tryd.func47, Tryd.ntmps47
    go_wp2
    go_ret
    exact ⟨by rw [HV.out]; rfl, rfl⟩
  · have he := k_nemp h0
    by_cases h1 : s.size ≤ 20
    · have HV : Hid (keyOkP s = true) := decide_eq_true ⟨by omega, h1⟩
      have h2 : (s.size : Int) ≤ 20 := by omega
      go_enter Tryd.func47, Tryd.ntmps47
      go_wp2
      go_ret
      exact ⟨by rw [HV.out]; rfl, rfl⟩
    · have HV : Hid (keyOkP s = false) := decide_eq_false (fun h => by omega)
      have h2 : ¬ (s.size : Int) ≤ 20 := by omega
      go_enter Tryd.func47, Tryd.ntmps47
      go_wp2
      go_ret
      exact ⟨by rw [HV.out]; rfl, rfl⟩

set_option maxHeartbeats 1000000 in
theorem implPairOk_c (cs : List Value) (m : MPair) (w : World) (hr : rPair w.heap.size w cs m) (hw : wPair m ≤ 1048576) :
    Calls Tryd.prog 32 #[.agg cs.toArray] w fun e w' => e = .returned (.bool (pairOkP m)) ∧ Below w.heap.size w w' := by
  obtain ⟨rfl, h0, h1, h2, _⟩ := hr
  have hbA := (Below.refl w.heap.size w).alloc (Nat.le_refl _) (.cells #[.string m.fKey, .string m.fVal, .bool m.fGone] 32)
  have HV : Hid (pairOkP m = (keyOkP m.fKey && decide (m.fVal.size ≤ 20) && (!m.fGone || decide (m.fVal.size = 0)))) := rfl
  have hbx := Bx.new w [.string m.fKey, .string m.fVal, .bool m.fGone] 32
  have y0 := hbx.2 0 _ rfl
  have y1 := hbx.2 1 _ rfl
  have y2 := hbx.2 2 _ rfl
  go_enter Tryd.func32, Tryd.ntmps32
  go_wp2_with fail
  refine (keyOk_any m.fKey _ h0).mono ?_
  rintro e w1 ⟨rfl, hw1⟩
  subst hw1
  by_cases hk : keyOkP m.fKey = true
  · rw [hk]
    by_cases hv : m.fVal.size ≤ 20
    · have hv2 : (m.fVal.size : Int) ≤ 20 := by omega
      have HV2 : Hid (pairOkP m = (!m.fGone || decide (m.fVal.size = 0))) := by show _ = _; rw [HV.out, hk, decide_eq_true hv]; rfl
      by_cases hg : m.fGone = true
      · rw [hg] at HV2 y2 hbA
        by_cases he : m.fVal.size = 0
        · have HV3 : Hid (pairOkP m = true) := by show _ = _; rw [HV2.out, decide_eq_true he]; rfl
          have hs := k_emp he
          rw [hg]
          clear hg
          go_wp2_with fail
          go_ret
          exact ⟨by rw [HV3.out]; rfl, hbA⟩
        · have HV3 : Hid (pairOkP m = false) := by show _ = _; rw [HV2.out, decide_eq_false he]; rfl
          have hs := k_nemp he
          rw [hg]
          clear hg
          go_wp2_with fail
          go_ret
          exact ⟨by rw [HV3.out]; rfl, hbA⟩
      · have hg2 : m.fGone = false := Bool.eq_false_iff.2 hg
        have HV3 : Hid (pairOkP m = true) := by show _ = _; rw [HV2.out, hg2]; rfl
        rw [hg2]
        rw [hg2] at hbA
        clear hg hg2
        go_wp2_with fail
        go_ret
        exact ⟨by rw [HV3.out]; rfl, hbA⟩
    · have hv2 : ¬ (m.fVal.size : Int) ≤ 20 := by omega
      have HV3 : Hid (pairOkP m = false) := by show _ = _; rw [HV.out, decide_eq_false hv, Bool.and_false, Bool.false_and]
      go_wp2_with fail
      go_ret
      exact ⟨by rw [HV3.out]; rfl, hbA⟩
  · have hk2 : keyOkP m.fKey = false := Bool.eq_false_iff.2 hk
    have HV3 : Hid (pairOkP m = false) := by show _ = _; rw [HV.out, hk2, Bool.false_and, Bool.false_and]
    rw [hk2]
    go_wp2_with fail
    go_ret
    exact ⟨by rw [HV3.out]; rfl, hbA⟩

set_option maxHeartbeats 1000000 in
theorem specPairOk_c (cs : List Value) (m : MPair) (w : World) (hr : rPair w.heap.size w cs m) (hw : wPair m ≤ 1048576) :
    Calls Tryd.prog 59 #[.agg cs.toArray] w fun e w' => e = .returned (.bool (pairOkP m)) ∧ Below w.heap.size w w' := by
  obtain ⟨rfl, h0, h1, h2, _⟩ := hr
  have hbA := (Below.refl w.heap.size w).alloc (Nat.le_refl _) (.cells #[.string m.fKey, .string m.fVal, .bool m.fGone] 32)
  have HV : Hid (pairOkP m = (keyOkP m.fKey && decide (m.fVal.size ≤ 20) && (!m.fGone || decide (m.fVal.size = 0)))) := rfl
  have hbx := Bx.new w [.string m.fKey, .string m.fVal, .bool m.fGone] 32
  have y0 := hbx.2 0 _ rfl
  have y1 := hbx.2 1 _ rfl
  have y2 := hbx.2 2 _ rfl
  go_enter Tryd.func59, Tryd.ntmps59
  go_wp2_with fail
  refine (inR_any _ _ _ _).mono ?_
  rintro e w1 ⟨rfl, hw1⟩
  subst hw1
  have hin : inR (m.fKey.size : Int) 1 20 = keyOkP m.fKey := by unfold inR keyOkP; congr 1; exact propext ⟨fun h => by omega, fun h => by omega⟩
  rw [hin]
  clear hin
  by_cases hk : keyOkP m.fKey = true
  · rw [hk]
    by_cases hv : m.fVal.size ≤ 20
    · have hv2 : (m.fVal.size : Int) ≤ 20 := by omega
      have HV2 : Hid (pairOkP m = (!m.fGone || decide (m.fVal.size = 0))) := by show _ = _; rw [HV.out, hk, decide_eq_true hv]; rfl
      by_cases hg : m.fGone = true
      · rw [hg] at HV2 y2 hbA
        by_cases he : m.fVal.size = 0
        · have HV3 : Hid (pairOkP m = true) := by show _ = _; rw [HV2.out, decide_eq_true he]; rfl
          have hs := k_emp he
          rw [hg]
          clear hg
          go_wp2_with fail
          go_ret
          exact ⟨by rw [HV3.out]; rfl, hbA⟩
        · have HV3 : Hid (pairOkP m = false) := by show _ = _; rw [HV2.out, decide_eq_false he]; rfl
          have hs := k_nemp he
          rw [hg]
          clear hg
          go_wp2_with fail
          go_ret
          exact ⟨by rw [HV3.out]; rfl, hbA⟩
      · have hg2 : m.fGone = false := Bool.eq_false_iff.2 hg
        have HV3 : Hid (pairOkP m = true) := by show _ = _; rw [HV2.out, hg2]; rfl
        rw [hg2]
        rw [hg2] at hbA
        clear hg hg2
        go_wp2_with fail
        go_ret
        exact ⟨by rw [HV3.out]; rfl, hbA⟩
    · have hv2 : ¬ (m.fVal.size : Int) ≤ 20 := by omega
      have HV3 : Hid (pairOkP m = false) := by show _ = _; rw [HV.out, decide_eq_false hv, Bool.and_false, Bool.false_and]
      go_wp2_with fail
      go_ret
      exact ⟨by rw [HV3.out]; rfl, hbA⟩
  · have hk2 : keyOkP m.fKey = false := Bool.eq_false_iff.2 hk
    have HV3 : Hid (pairOkP m = false) := by show _ = _; rw [HV.out, hk2, Bool.false_and, Bool.false_and]
    rw [hk2]
    go_wp2_with fail
    go_ret
    exact ⟨by rw [HV3.out]; rfl, hbA⟩

end Go.Proofs.YtmedljankefhbaaDoor

namespace Go.Proofs.YtmedljankefhbaaDoor
open Go.RowKit

def okPrev : Option ByteArray → ByteArray → Bool
  | none, _ => true
  | some s, t => kLt s t
/-- Right pairs, each key above the one ahead. -/
def upFrom : Option ByteArray → List MPair → Bool
  | _, [] => true
  | pv, p :: r => pairOkP p && okPrev pv p.fKey && upFrom (some p.fKey) r
def prevK (l : List MPair) : Nat → Option ByteArray
  | 0 => none
  | k + 1 => (l[k]?).map MPair.fKey
def pairsOkP (l : List MPair) : Bool := upFrom none l
theorem upFrom_step {l : List MPair} {k : Nat} (h : k < l.length) : upFrom (prevK l k) (l.drop k) = (pairOkP l[k] && okPrev (prevK l k) l[k].fKey && upFrom (prevK l (k + 1)) (l.drop (k + 1))) := by
  rw [List.drop_eq_getElem_cons h]
  simp only [upFrom, prevK, List.getElem?_eq_getElem h, Option.map_some]
theorem upFrom_end {l : List MPair} {k : Nat} (h : l.length ≤ k) : upFrom (prevK l k) (l.drop k) = true := by
  rw [List.drop_eq_nil_of_le h]
  rfl
theorem upFrom_bad1 {l : List MPair} {k : Nat} (h : k < l.length) (hb : pairOkP l[k] = false) : upFrom (prevK l k) (l.drop k) = false := by
  rw [upFrom_step h, hb, Bool.false_and, Bool.false_and]
theorem upFrom_bad2 {l : List MPair} {k : Nat} (h : k < l.length) (hb : okPrev (prevK l k) l[k].fKey = false) : upFrom (prevK l k) (l.drop k) = false := by
  rw [upFrom_step h, hb, Bool.and_false, Bool.false_and]
theorem upFrom_good {l : List MPair} {k : Nat} (h : k < l.length) (h1 : pairOkP l[k] = true) (h2 : okPrev (prevK l k) l[k].fKey = true) : upFrom (prevK l k) (l.drop k) = upFrom (prevK l (k + 1)) (l.drop (k + 1)) := by
  rw [upFrom_step h, h1, h2, Bool.true_and, Bool.true_and]
theorem prevK_succ {l : List MPair} {j : Nat} (h : j < l.length) : prevK l (j + 1) = some l[j].fKey := by
  simp only [prevK, List.getElem?_eq_getElem h, Option.map_some]

end Go.Proofs.YtmedljankefhbaaDoor

namespace Go.Proofs.YtmedljankefhbaaDoor
open Go Go.Lib Go.RowKit
set_option maxRecDepth 100000

def bAt (l : List UInt8) (k : Nat) : Nat := (l[k]?.getD 0).toNat
def decL (l : List UInt8) : Nat × Nat := decodeN l.length (bAt l 0) (bAt l 1) (bAt l 2) (bAt l 3)

/-- A whole rune at the head of l: r, of n bytes. -/
def Whole (l : List UInt8) (r n : Nat) : Prop :=
  (∃ a t, l = a :: t ∧ a.toNat < 128 ∧ r = a.toNat ∧ n = 1) ∨
  (∃ a b t, l = a :: b :: t ∧ 194 ≤ a.toNat ∧ a.toNat < 224 ∧ b.toNat / 64 = 2 ∧ r = a.toNat % 32 * 64 + b.toNat % 64 ∧ n = 2) ∨
  (∃ a b c t, l = a :: b :: c :: t ∧ 224 ≤ a.toNat ∧ a.toNat < 240 ∧ b.toNat / 64 = 2 ∧ c.toNat / 64 = 2 ∧ r = a.toNat % 16 * 4096 + b.toNat % 64 * 64 + c.toNat % 64 ∧ 2048 ≤ r ∧ n = 3) ∨
  (∃ a b c d t, l = a :: b :: c :: d :: t ∧ 240 ≤ a.toNat ∧ a.toNat < 248 ∧ b.toNat / 64 = 2 ∧ c.toNat / 64 = 2 ∧ d.toNat / 64 = 2 ∧ r = a.toNat % 8 * 262144 + b.toNat % 64 * 4096 + c.toNat % 64 * 64 + d.toNat % 64 ∧ 65536 ≤ r ∧ n = 4)

set_option maxHeartbeats 2000000 in
theorem decN_cases {m p q u v r n : Nat} (h : decodeN m p q u v = (r, n)) (hr : r ≠ 65533) :
    (p < 128 ∧ r = p ∧ n = 1) ∨ (1 < m ∧ 194 ≤ p ∧ p < 224 ∧ q / 64 = 2 ∧ r = p % 32 * 64 + q % 64 ∧ n = 2) ∨
    (2 < m ∧ 224 ≤ p ∧ p < 240 ∧ q / 64 = 2 ∧ u / 64 = 2 ∧ r = p % 16 * 4096 + q % 64 * 64 + u % 64 ∧ 2048 ≤ r ∧ n = 3) ∨
    (3 < m ∧ 240 ≤ p ∧ p < 248 ∧ q / 64 = 2 ∧ u / 64 = 2 ∧ v / 64 = 2 ∧ r = p % 8 * 262144 + q % 64 * 4096 + u % 64 * 64 + v % 64 ∧ 65536 ≤ r ∧ n = 4) := by
  unfold decodeN at h
  by_cases h0 : p < 128
  · rw [if_pos h0] at h
    have h1 := congrArg Prod.fst h
    have h2 := congrArg Prod.snd h
    exact .inl ⟨h0, h1.symm, h2.symm⟩
  rw [if_neg h0] at h
  by_cases h1 : p / 32 = 6 ∧ (1 < m ∧ q / 64 = 2)
  · rw [if_pos h1] at h
    by_cases h2 : p % 32 * 64 + q % 64 ≥ 128
    · rw [if_pos h2] at h
      have e1 := congrArg Prod.fst h
      have e2 := congrArg Prod.snd h
      exact .inr (.inl ⟨h1.2.1, by omega, by omega, h1.2.2, e1.symm, e2.symm⟩)
    · rw [if_neg h2] at h
      exact absurd (congrArg Prod.fst h).symm hr
  rw [if_neg h1] at h
  by_cases h2 : p / 16 = 14 ∧ (1 < m ∧ q / 64 = 2) ∧ (2 < m ∧ u / 64 = 2)
  · rw [if_pos h2] at h
    split at h
    · rename_i h3
      have e1 := congrArg Prod.fst h
      have e2 := congrArg Prod.snd h
      simp only at e1 e2
      exact .inr (.inr (.inl ⟨h2.2.2.1, by omega, by omega, h2.2.1.2, h2.2.2.2, e1.symm, by omega, e2.symm⟩))
    · exact absurd (congrArg Prod.fst h).symm hr
  rw [if_neg h2] at h
  by_cases h3 : p / 8 = 30 ∧ (1 < m ∧ q / 64 = 2) ∧ (2 < m ∧ u / 64 = 2) ∧ (3 < m ∧ v / 64 = 2)
  · rw [if_pos h3] at h
    split at h
    · rename_i h4
      have e1 := congrArg Prod.fst h
      have e2 := congrArg Prod.snd h
      simp only at e1 e2
      exact .inr (.inr (.inr ⟨h3.2.2.2.1, by omega, by omega, h3.2.1.2, h3.2.2.1.2, h3.2.2.2.2, e1.symm, by omega, e2.symm⟩))
    · exact absurd (congrArg Prod.fst h).symm hr
  rw [if_neg h3] at h
  exact absurd (congrArg Prod.fst h).symm hr

theorem whole_of {l : List UInt8} {r n : Nat} (h : decL l = (r, n)) (hl : l ≠ []) (hr : r ≠ 65533) : Whole l r n := by
  have hc := decN_cases h hr
  clear h
  match l, hl, hc with
  | a :: t, _, .inl ⟨h1, h2, h3⟩ => exact .inl ⟨a, t, rfl, h1, h2, h3⟩
  | [a], _, .inr (.inl ⟨h1, _⟩) => simp at h1
  | a :: b :: t, _, .inr (.inl ⟨_, h1, h2, h3, h4, h5⟩) => exact .inr (.inl ⟨a, b, t, rfl, h1, h2, h3, h4, h5⟩)
  | [a], _, .inr (.inr (.inl ⟨h1, _⟩)) => simp at h1
  | [a, b], _, .inr (.inr (.inl ⟨h1, _⟩)) => simp at h1
  | a :: b :: c :: t, _, .inr (.inr (.inl ⟨_, h1, h2, h3, h4, h5, h6, h7⟩)) => exact .inr (.inr (.inl ⟨a, b, c, t, rfl, h1, h2, h3, h4, h5, h6, h7⟩))
  | [a], _, .inr (.inr (.inr ⟨h1, _⟩)) => simp at h1
  | [a, b], _, .inr (.inr (.inr ⟨h1, _⟩)) => simp at h1
  | [a, b, c], _, .inr (.inr (.inr ⟨h1, _⟩)) => simp at h1
  | a :: b :: c :: d :: t, _, .inr (.inr (.inr ⟨_, h1, h2, h3, h4, h5, h6, h7, h8⟩)) => exact .inr (.inr (.inr ⟨a, b, c, d, t, rfl, h1, h2, h3, h4, h5, h6, h7, h8⟩))

theorem u8_ext {a b : UInt8} (h : a.toNat = b.toNat) : a = b := UInt8.toNat_inj.1 h
theorem u8_lt {a b : UInt8} : a < b ↔ a.toNat < b.toNat := UInt8.lt_iff_toNat_lt

theorem whole_same {x y : List UInt8} {r n k : Nat} (hx : Whole x r n) (hy : Whole y r k) : n = k ∧ n ≤ x.length ∧ n ≤ y.length ∧ x.take n = y.take n ∧ 1 ≤ n := by
  rcases hx with ⟨a, t, rfl, h1, h2, rfl⟩ | ⟨a, b, t, rfl, h1, h2, h3, h4, rfl⟩ | ⟨a, b, c, t, rfl, h1, h2, h3, h4, h5, h6, rfl⟩ | ⟨a, b, c, d, t, rfl, h1, h2, h3, h4, h5, h6, h7, rfl⟩ <;>
  rcases hy with ⟨a', t', rfl, g1, g2, rfl⟩ | ⟨a', b', t', rfl, g1, g2, g3, g4, rfl⟩ | ⟨a', b', c', t', rfl, g1, g2, g3, g4, g5, g6, rfl⟩ | ⟨a', b', c', d', t', rfl, g1, g2, g3, g4, g5, g6, g7, rfl⟩ <;>
  first
  | (exfalso; omega)
  | (have e1 : a = a' := u8_ext (by omega)
     have e2 : b = b' := u8_ext (by omega)
     have e3 : c = c' := u8_ext (by omega)
     have e4 : d = d' := u8_ext (by omega)
     subst e1 e2 e3 e4
     exact ⟨rfl, by simp, by simp, by simp, by omega⟩)
  | (have e1 : a = a' := u8_ext (by omega)
     have e2 : b = b' := u8_ext (by omega)
     have e3 : c = c' := u8_ext (by omega)
     subst e1 e2 e3
     exact ⟨rfl, by simp, by simp, by simp, by omega⟩)
  | (have e1 : a = a' := u8_ext (by omega)
     have e2 : b = b' := u8_ext (by omega)
     subst e1 e2
     exact ⟨rfl, by simp, by simp, by simp, by omega⟩)
  | (have e1 : a = a' := u8_ext (by omega)
     subst e1
     exact ⟨rfl, by simp, by simp, by simp, by omega⟩)

theorem bl_head {a b : UInt8} {x y : List UInt8} (h : a.toNat < b.toNat) : Op.bytesLess (a :: x) (b :: y) = true := by
  simp [Op.bytesLess, u8_lt.2 h]
theorem bl_tail {a : UInt8} {x y : List UInt8} : Op.bytesLess (a :: x) (a :: y) = Op.bytesLess x y := by
  simp [Op.bytesLess]

theorem whole_less {x y : List UInt8} {r s n k : Nat} (hx : Whole x r n) (hy : Whole y s k) (h : r < s) : Op.bytesLess x y = true := by
  rcases hx with ⟨a, t, rfl, h1, h2, rfl⟩ | ⟨a, b, t, rfl, h1, h2, h3, h4, rfl⟩ | ⟨a, b, c, t, rfl, h1, h2, h3, h4, h5, h6, rfl⟩ | ⟨a, b, c, d, t, rfl, h1, h2, h3, h4, h5, h6, h7, rfl⟩ <;>
  rcases hy with ⟨a', t', rfl, g1, g2, rfl⟩ | ⟨a', b', t', rfl, g1, g2, g3, g4, rfl⟩ | ⟨a', b', c', t', rfl, g1, g2, g3, g4, g5, g6, rfl⟩ | ⟨a', b', c', d', t', rfl, g1, g2, g3, g4, g5, g6, g7, rfl⟩ <;>
  first
  | (exfalso; omega)
  | exact bl_head (by omega)
  | (by_cases e1 : a.toNat = a'.toNat
     · have e1 := u8_ext e1
       subst e1
       rw [bl_tail]
       first
       | exact bl_head (by omega)
       | (by_cases e2 : b.toNat = b'.toNat
          · have e2 := u8_ext e2
            subst e2
            rw [bl_tail]
            first
            | exact bl_head (by omega)
            | (by_cases e3 : c.toNat = c'.toNat
               · have e3 := u8_ext e3
                 subst e3
                 rw [bl_tail]
                 exact bl_head (by omega)
               · exact bl_head (by omega))
          · exact bl_head (by omega))
     · exact bl_head (by omega))

theorem bl_pre : ∀ (p : List UInt8) {x y : List UInt8}, Op.bytesLess (p ++ x) (p ++ y) = Op.bytesLess x y
  | [], _, _ => rfl
  | a :: p, x, y => by rw [List.cons_append, List.cons_append, bl_tail, bl_pre p]

theorem bl_drop {x y : List UInt8} {i : Nat} (h : x.take i = y.take i) : Op.bytesLess x y = Op.bytesLess (x.drop i) (y.drop i) := by
  conv => lhs; rw [← List.take_append_drop i x, ← List.take_append_drop i y, h]
  exact bl_pre _


theorem bAt_get (s : ByteArray) (j : Nat) : bAt s.toList j = (s.get! j).toNat := by
  unfold bAt
  rw [ByteArray.toList_eq, Array.getElem?_toList]
  show _ = (s.data[j]!).toNat
  rw [getElem!_def]
  cases s.data[j]? <;> rfl
theorem bAt_drop (l : List UInt8) (i k : Nat) : bAt (l.drop i) k = bAt l (i + k) := by
  unfold bAt
  rw [List.getElem?_drop]
theorem decode_decL (s : ByteArray) (i : Nat) : Utf8.decode s i = decL (s.toList.drop i) := by
  rw [decode_at]
  unfold decL
  rw [bAt_drop, bAt_drop, bAt_drop, bAt_drop, bAt_get, bAt_get, bAt_get, bAt_get, List.length_drop, k_len]
  rfl
theorem toList_extract (s : ByteArray) (i : Nat) : (s.extract i s.size).toList = s.toList.drop i := by
  rw [ByteArray.toList_eq, ByteArray.toList_eq]
  simp
  apply List.take_of_length_le
  simp

/-- Below, the same, above: as cmp.Compare says it. -/
def ordK (a b : ByteArray) : Int := if kLt a b then -1 else if kLt b a then 1 else 0
theorem ordK_lt {a b : ByteArray} (h : kLt a b = true) : ordK a b = -1 := by unfold ordK; rw [if_pos h]
theorem ordK_gt {a b : ByteArray} (h : kLt b a = true) : ordK a b = 1 := by unfold ordK; rw [kLt_asymm h, if_pos h]; rfl
theorem ordK_eq {a b : ByteArray} (h : a = b) : ordK a b = 0 := by unfold ordK; rw [h, kLt_irrefl]; rfl

/-- Both go on alike up to a place. -/
structure Alike (a b : ByteArray) (pos : Nat) : Prop where
  la : pos ≤ a.size
  lb : pos ≤ b.size
  eq : a.toList.take pos = b.toList.take pos

theorem Alike.zero (a b : ByteArray) : Alike a b 0 := ⟨Nat.zero_le _, Nat.zero_le _, rfl⟩
theorem Alike.kLt {a b : ByteArray} {pos : Nat} (h : Alike a b pos) : kLt a b = kLt (a.extract pos a.size) (b.extract pos b.size) := by
  unfold Go.Proofs.YtmedljankefhbaaDoor.kLt
  rw [toList_extract, toList_extract]
  exact bl_drop h.eq
theorem Alike.symm {a b : ByteArray} {pos : Nat} (h : Alike a b pos) : Alike b a pos := ⟨h.lb, h.la, h.eq.symm⟩
theorem Alike.ord {a b : ByteArray} {pos : Nat} (h : Alike a b pos) : ordK (a.extract pos a.size) (b.extract pos b.size) = ordK a b := by
  unfold ordK
  rw [h.kLt, h.symm.kLt]
/-- At the end of a. -/
theorem Alike.fin {a b : ByteArray} (h : Alike a b a.size) : ordK a b = if a.size < b.size then -1 else 0 := by
  have h1 : a.toList.take a.size = a.toList := by rw [← k_len]; exact List.take_length
  have hb := h.eq
  rw [h1] at hb
  split
  · rename_i hlt
    apply ordK_lt
    rw [h.kLt]
    unfold Go.Proofs.YtmedljankefhbaaDoor.kLt
    rw [toList_extract, toList_extract]
    have e1 : a.toList.drop a.size = [] := List.drop_eq_nil_of_le (by rw [k_len]; exact Nat.le_refl _)
    rw [e1]
    match hm : b.toList.drop a.size with
    | [] =>
      have := congrArg List.length hm
      rw [List.length_drop, k_len] at this
      simp at this
      omega
    | x :: r => rfl
  · rename_i hlt
    have := h.lb
    have e : a.size = b.size := by omega
    apply ordK_eq
    apply k_eq.1
    rw [beq_iff_eq, hb, e, ← k_len]
    exact List.take_length
/-- The runes of a and of the rest of b, both whole. -/
def goDec (b : ByteArray) (pos : Nat) : Nat × Nat := if b.size - pos = 0 then (65533, 0) else Utf8.decode (b.extract pos b.size) 0
theorem goDec_L {b : ByteArray} {pos : Nat} (h : (goDec b pos).1 ≠ 65533) : pos < b.size ∧ goDec b pos = decL (b.toList.drop pos) := by
  unfold goDec at h ⊢
  by_cases hz : b.size - pos = 0
  · rw [if_pos hz] at h; exact absurd rfl h
  · rw [if_neg hz] at h ⊢
    refine ⟨by omega, ?_⟩
    rw [decode_decL, toList_extract, List.drop_zero]
theorem drop_ne {s : ByteArray} {pos : Nat} (h : pos < s.size) : s.toList.drop pos ≠ [] := fun e => by
  have := congrArg List.length e
  rw [List.length_drop, k_len] at this
  simp at this
  omega
theorem Alike.runes {a b : ByteArray} {pos : Nat} (h : Alike a b pos) (ha : pos < a.size) (h1 : (Utf8.decode a pos).1 ≠ 65533) (h2 : (goDec b pos).1 ≠ 65533) :
    Whole (a.toList.drop pos) (Utf8.decode a pos).1 (Utf8.decode a pos).2 ∧ Whole (b.toList.drop pos) (goDec b pos).1 (goDec b pos).2 := by
  obtain ⟨hb, he⟩ := goDec_L h2
  refine ⟨whole_of (by rw [decode_decL]) (drop_ne ha) h1, ?_⟩
  exact whole_of (by rw [he]) (drop_ne hb) h2
theorem Alike.less {a b : ByteArray} {pos : Nat} (h : Alike a b pos) (ha : pos < a.size) (h1 : (Utf8.decode a pos).1 ≠ 65533) (h2 : (goDec b pos).1 ≠ 65533) (hlt : (Utf8.decode a pos).1 < (goDec b pos).1) : ordK a b = -1 := by
  obtain ⟨w1, w2⟩ := h.runes ha h1 h2
  apply ordK_lt
  rw [h.kLt]
  unfold Go.Proofs.YtmedljankefhbaaDoor.kLt
  rw [toList_extract, toList_extract]
  exact whole_less w1 w2 hlt
theorem Alike.more {a b : ByteArray} {pos : Nat} (h : Alike a b pos) (ha : pos < a.size) (h1 : (Utf8.decode a pos).1 ≠ 65533) (h2 : (goDec b pos).1 ≠ 65533) (hlt : (goDec b pos).1 < (Utf8.decode a pos).1) : ordK a b = 1 := by
  obtain ⟨w1, w2⟩ := h.runes ha h1 h2
  apply ordK_gt
  rw [h.symm.kLt]
  unfold Go.Proofs.YtmedljankefhbaaDoor.kLt
  rw [toList_extract, toList_extract]
  exact whole_less w2 w1 hlt
theorem Alike.next {a b : ByteArray} {pos : Nat} (h : Alike a b pos) (ha : pos < a.size) (h1 : (Utf8.decode a pos).1 ≠ 65533) (h2 : (goDec b pos).1 ≠ 65533) (he : (Utf8.decode a pos).1 = (goDec b pos).1) : Alike a b (pos + (Utf8.decode a pos).2) ∧ 1 ≤ (Utf8.decode a pos).2 := by
  obtain ⟨w1, w2⟩ := h.runes ha h1 h2
  rw [← he] at w2
  obtain ⟨e1, e2, e3, e4, e5⟩ := whole_same w1 w2
  rw [List.length_drop, k_len] at e2 e3
  refine ⟨⟨by omega, by omega, ?_⟩, e5⟩
  rw [List.take_add, List.take_add, h.eq, e4]

end Go.Proofs.YtmedljankefhbaaDoor

namespace Go.Proofs.YtmedljankefhbaaDoor
open Go.Proofs Go.Shelf

def layDec_ren : Go.Shelf.Ren := ⟨fun | 197 => 48 | 260 => 64 | n => n, fun | 9 => 9 | 21 => 21 | 3 => 3 | 4 => 4 | 5 => 5 | 105 => 100 | 119 => 137 | 0 => 0 | 46 => 42 | 139 => 140 | 138 => 139 | n => n, fun | 3 => 3 | 4 => 4 | n => n⟩
theorem layDec : Go.Proofs.Lays.n197 Tryd.prog layDec_ren := {
  mixed := by kernel_rfl
  f197 := Tryd.func48.trans (congrArg some (by kernel_rfl))
  f260 := Tryd.func64.trans (congrArg some (by kernel_rfl))
  t0 := Tryd.underlying0
  a0 := Tryd.isAgg0
  z0 := Tryd.sizeOf0
  v0 := Tryd.zeroValue0
  t3 := Tryd.underlying3
  a3 := Tryd.isAgg3
  z3 := Tryd.sizeOf3
  v3 := Tryd.zeroValue3
  t4 := Tryd.underlying4
  a4 := Tryd.isAgg4
  z4 := Tryd.sizeOf4
  v4 := Tryd.zeroValue4
  t5 := Tryd.underlying5
  a5 := Tryd.isAgg5
  z5 := Tryd.sizeOf5
  v5 := Tryd.zeroValue5
  t9 := Tryd.underlying9
  a9 := Tryd.isAgg9
  z9 := Tryd.sizeOf9
  v9 := Tryd.zeroValue9
  t21 := Tryd.underlying21
  a21 := Tryd.isAgg21
  z21 := Tryd.sizeOf21
  v21 := Tryd.zeroValue21
  t46 := Tryd.underlying42
  a46 := Tryd.isAgg42
  z46 := Tryd.sizeOf42
  v46 := Tryd.zeroValue42
  t105 := Tryd.underlying100
  a105 := Tryd.isAgg100
  z105 := Tryd.sizeOf100
  v105 := Tryd.zeroValue100
  t119 := Tryd.underlying137
  a119 := Tryd.isAgg137
  z119 := Tryd.sizeOf137
  t138 := Tryd.underlying139
  a138 := Tryd.isAgg139
  z138 := Tryd.sizeOf139
  v138 := Tryd.zeroValue139
  t139 := Tryd.underlying140
  a139 := Tryd.isAgg140
  z139 := Tryd.sizeOf140
  v139 := Tryd.zeroValue140
  g3 := by kernel_rfl
  g4 := by kernel_rfl }

end Go.Proofs.YtmedljankefhbaaDoor
