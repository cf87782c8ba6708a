/-
  Part 5 of the texts that the proof leans on.
-/
import Derived.Laws.CopyOwn
import Derived.Test.YtnohnkcijomdjaaGreatDoorCur3
import Derived.Test.YtnohnkcijomdjaaGreatDoorCur2
import Derived.Test.YtnohnkcijomdjaaGreatDoorCur0
import Derived.Test.YtnohnkcijomdjaaGreatDoorChecked
import Derived.Test.YtnohnkcijomdjaaGreatDoorCur1
import Derived.Test.YtnohnkcijomdjaaGreatDoorRows
set_option linter.unusedVariables false
set_option linter.unusedSimpArgs false
set_option maxRecDepth 10000

namespace Go.Proofs.YtnohnkcijomdjaaGreatDoor
open Go.RowKit

/-- The cells of a list that is read, one behind the other. -/
theorem RdS.cells {α : Type} {size : Nat} {R : Rep α} {B : Nat} {w : World} {b off : Nat} {l : List α} (h : RdS size R B w (some ⟨b, off, none⟩) l) : ∀ k, k ≤ l.length →
    ∃ css : List (List Value), css.length = k ∧ (∀ c, c ∈ css → c.length = size) ∧ (∀ j, (h1 : j < l.length) → (h2 : j < css.length) → R B w css[j] l[j]) ∧ ∀ i u, css.flatten[i]? = some u → w.cell? ⟨b, off + i, none⟩ = some u
  | 0, _ => ⟨[], rfl, (fun _ hc => by cases hc), (fun _ _ h2 => by simp at h2), (fun i u hu => by simp at hu)⟩
  | k + 1, hk => by
    obtain ⟨css, h1, h2, h3, h4⟩ := RdS.cells h k (by omega)
    obtain ⟨b', off', e, _, cs, hc1, hc2, hc3⟩ := h k (by omega)
    simp only [Option.some.injEq, Addr.mk.injEq, and_true] at e
    obtain ⟨rfl, rfl⟩ := e
    have hfl : css.flatten.length = k * size := by
      rw [List.length_flatten]
      have : css.map List.length = List.replicate k size := by
        apply List.ext_getElem
        · simp [h1]
        · intro i hi1 hi2
          simp only [List.getElem_map, List.getElem_replicate]
          exact h2 _ (List.getElem_mem _)
      rw [this]
      simp
    refine ⟨css ++ [cs], by simp [h1], ?_, ?_, ?_⟩
    · intro c hc
      rcases List.mem_append.1 hc with hc | hc
      · exact h2 c hc
      · simp at hc; subst hc; exact hc1
    · intro j hj hj2
      by_cases hjk : j < k
      · rw [List.getElem_append_left (by omega)]
        exact h3 j hj (by omega)
      · have hje : j = k := by simp at hj2; omega
        subst hje
        rw [List.getElem_append_right (by omega)]
        simpa [h1] using hc3
    · intro i u hu
      rw [List.flatten_append] at hu
      by_cases hi : i < k * size
      · rw [List.getElem?_append_left (by omega)] at hu
        exact h4 i u hu
      · rw [List.getElem?_append_right (by omega), hfl] at hu
        have h5 := hc2 (i - k * size) u (by simpa using hu)
        rw [show off + k * size + (i - k * size) = off + i from by omega] at h5
        exact h5

section
variable {P : Program} (w : World)

theorem run_append_src_at (base : Nat) (t tx ty e : TypeId) (i : TypeInfo) (z : Value) (size bytes : Nat) (ht : P.underlying t = some (.slice e)) (hi : P.info? e = some i) (hz : i.zero = some z)
    (hsize : i.size = size) (hby : i.bytes = bytes) (hzs : z.cells.size = size)
    (v : Value) (n : Nat) (xs : List Value) (hown : w.ownsRow base e size v n xs) (x : Value) (m : Nat) (news : List Value) (hs : Src P size tx x m news w)
    (h63 : n + m ≤ maxLen) (hbytes : (n + m) * bytes ≤ 140737488355328) (hbase : base ≤ w.heap.size) :
    ∃ v' w', (Builtin.append_ #[t, tx] ty #[v, x]).run P w = .ok v' w' ∧ w'.ownsRow base e size v' (n + m) (xs ++ news) ∧ w.grownBy w' v.ownBlock ∧ (v'.ownBlock = v.ownBlock ∨ v'.ownBlock = some w.heap.size) := by
  subst hsize
  subst hby
  have hl := hs.newsLen
  have hsmall : n + m ≤ 9223372036854775807 := by simp only [maxLen] at h63; omega
  have hlen : (xs ++ news).length = (n + m) * i.size := by rw [List.length_append, hown.1, hl, Nat.add_mul]
  have grown : ∀ (old : Nat), old < n + m → ∀ (row : Option Nat),
      (w.drew.alloc (.cells ((xs ++ news).toArray ++ Builtin.zeroCells z.cells (grownCap w (n + m) old e - (n + m))) e)).ownsRow base e i.size
        (.slice (some ⟨w.heap.size, 0, none⟩) (n + m) (grownCap w (n + m) old e)) (n + m) (xs ++ news) ∧
      w.grownBy (w.drew.alloc (.cells ((xs ++ news).toArray ++ Builtin.zeroCells z.cells (grownCap w (n + m) old e - (n + m))) e)) row := by
    intro old ho row
    have hge := grownCap_ge w (n + m) old e
    have hcm : grownCap w (n + m) old e ≤ maxLen := grownCap_le_maxLen w (n + m) old e h63
    refine ⟨⟨hlen, .inr ⟨w.heap.size, _, _, rfl, hbase, heap_alloc_new w.drew _, hge, hcm, ?_, ?_⟩⟩, ⟨rfl, rfl, rfl, by simp, fun k hk _ => Go.heap_alloc_old w.drew _ hk⟩⟩
    · rw [Array.size_append, List.size_toArray, size_zeroCells, hzs, hlen, ← Nat.add_mul]
      congr 1
      omega
    · rw [Array.toList_append, ← hlen]
      exact List.take_left
  rcases hown.2 with ⟨rfl, rfl⟩ | ⟨g, cap, cur, rfl, hbg, hg, hnc, hcm, hcs, htake⟩
  · have hx : xs = [] := List.eq_nil_of_length_eq_zero (by simpa using hown.1)
    subst hx
    by_cases hm : m = 0
    · subst hm
      have hn : news = [] := List.eq_nil_of_length_eq_zero (by simpa using hl)
      subst hn
      refine ⟨.slice none 0 0, w, ?_, World.ownsRow_nil w base e i.size, World.grownBy.refl _ _, .inl rfl⟩
      rcases hs.kind with ⟨e', hk⟩ | hk <;> simp [Builtin.append_, run_underlying ht, run_underlying hk, sizeOf, typeInfo, hi, hs.len, hs.cells]
    · have hr := run_append_grow_src (P := P) w t tx ty e i z ht hi hz none 0 0 [] (run_firstCells_none w.drew i.size 0 0 0) x m news hs (by omega) (by omega) (growslice_fits (by omega) hbytes)
      have hgr := grown 0 (by omega) (Value.ownBlock (.slice none 0 0))
      exact ⟨_, _, hr, hgr.1, hgr.2, .inr rfl⟩
  · by_cases hroom : n + m ≤ cap
    · have hfit : n * i.size + news.length ≤ cur.size := by rw [hl, hcs, ← Nat.add_mul]; exact Nat.mul_le_mul_right _ hroom
      have hr := run_append_room_src (P := P) w t tx ty e i ht hi g 0 n cap x m news hs hroom
        (fun j hj => by rw [Nat.zero_add, cell_of_row w g _ cur e (0, 0) hg, Array.getElem?_eq_getElem (by omega)]; rfl) (fun j hj => frozen_of_row w g _ cur e hg)
      rw [Nat.zero_add] at hr
      obtain ⟨⟨cur', h2, h3, h4⟩, h5⟩ := setCells_row g e news (n * i.size) w cur hg hfit
      refine ⟨_, _, hr, ⟨hlen, .inr ⟨g, cap, cur', rfl, hbg, h2, hroom, hcm, by rw [h3, hcs], ?_⟩⟩, h5, .inl rfl⟩
      rw [Nat.add_mul, ← hl, h4, htake]
    · have holds : (Builtin.firstCells i.size n (.slice (some ⟨g, 0, none⟩) n cap)).run P w.drew = .ok xs.toArray w.drew :=
        run_firstCells_some w.drew i.size n ⟨g, 0, none⟩ n cap xs hown.1 (by simpa using hown.cells (g := g) rfl)
      have hr := run_append_grow_src (P := P) w t tx ty e i z ht hi hz (some ⟨g, 0, none⟩) n cap xs holds x m news hs (by omega) (by omega) (growslice_fits (by omega) hbytes)
      have hgr := grown cap (by omega) (Value.ownBlock (.slice (some ⟨g, 0, none⟩) n cap))
      exact ⟨_, _, hr, hgr.1, hgr.2, .inr rfl⟩

/-- As one step of a region that draws its order. -/
theorem step_append_src {ops : Array Oper} {o : Oper} {a : Act} {K : Act → World → Prop} {Q : Exit → Act → World → Prop} {E : Prop} (hgd : o.guard = none) (s x : Operand) (t tx : TypeId)
    (ho : o.op = .call { callee := .builtin .append, args := #[s, x], argTypes := #[t, tx] })
    (base : Nat) (e : TypeId) (i : TypeInfo) (z : Value) (size bytes : Nat) (ht : P.underlying t = some (.slice e)) (hi : P.info? e = some i) (hz : i.zero = some z)
    (hsize : i.size = size) (hby : i.bytes = bytes) (hzs : z.cells.size = size)
    (v : Value) (n : Nat) (xs : List Value) (hs : a.eval s = v) (hown : w.ownsRow base e size v n xs)
    (y : Value) (hy : a.eval x = y) (m : Nat) (news : List Value) (hx : Src P size tx y m news w)
    (h63 : n + m ≤ maxLen) (hbytes : (n + m) * bytes ≤ 140737488355328) (hbase : base ≤ w.heap.size)
    (h : ∀ v' w', w'.ownsRow base e size v' (n + m) (xs ++ news) → w.grownBy w' v.ownBlock → (v'.ownBlock = v.ownBlock ∨ v'.ownBlock = some w.heap.size) → K (a.put o.dst v') w') :
    if Region.wanted o (yielded ops a.tmps) = true then Oper.wp P o a w K Q else E := by
  have hw : Region.wanted o (yielded ops a.tmps) = true := by simp [Region.wanted, hgd]
  rw [if_pos hw]
  subst hy
  obtain ⟨v', w', hr, h2, h3, h4⟩ := run_append_src_at (P := P) w base t tx o.type e i z size bytes ht hi hz hsize hby hzs v n xs hown (a.eval x) m news hx h63 hbytes hbase
  unfold Oper.wp execOp
  simp only [ho, resolve, invoke, builtin, Sem.run_bind, Sem.run_pure, Result.andThen_ok, List.map_toArray, List.map_cons, List.map_nil, hs, hr]
  exact h v' w' h2 h3 h4

end

theorem Turn.drew {F : List Nat} {a b : World} (h : Turn F a b) : Turn F a b.drew := h.trans (Turn.ofBelow (Below.drew (Below.refl _ _)))

theorem Turn.alloc {F : List Nat} {a b : World} (h : Turn F a b) (o : Obj) : Turn F a (b.alloc o) := h.trans (Turn.ofBelow (Below.alloc (Below.refl _ _) (Nat.le_refl _) o))

theorem Turn.join {F G : List Nat} {a b c : World} (h : Turn F a b) (k : Turn G b c) (hG : ∀ x, x ∈ G → x ∈ F ∨ a.heap.size ≤ x) : Turn F a c :=
  ⟨k.os.trans h.os, k.tape.trans h.tape, k.output.trans h.output, Nat.le_trans h.size k.size, fun i hi hF => (k.block i (Nat.lt_of_lt_of_le hi h.size) (fun hm => by rcases hG i hm with h1 | h1; exact hF h1; omega)).trans (h.block i hi hF)⟩

theorem own_slice {w : World} {base e size n : Nat} {v : Value} {xs : List Value} (h : w.ownsRow base e size v n xs) : ∃ a c, v = .slice a n c := by
  rcases h.2 with ⟨rfl, h0⟩ | ⟨g, cap, cur, rfl, _⟩
  · exact ⟨none, 0, by rw [h0]⟩
  · exact ⟨_, cap, rfl⟩

/-- One more element behind a list of one's own. -/
theorem ownS.push {α : Type} {size : Nat} {e : TypeId} {O : ORep α} {R : Rep α} (hO : O.Good R size) {w : World} {v : Value} {l : List α} {F : List Nat} (h : ownS size e O w v l F) (hN : F.Nodup) :
    ∃ xs, w.ownsRow 0 e size v l.length xs ∧ ∀ (w' : World) (v' : Value) (news : List Value) (m' : α) (Fx : List Nat), w'.ownsRow 0 e size v' (l.length + 1) (xs ++ news) → w.grownBy w' v.ownBlock → (v'.ownBlock = v.ownBlock ∨ v'.ownBlock = some w.heap.size) → O w news m' Fx → Fx.Nodup → (∀ b, b ∈ Fx → b ∉ F) →
      ∃ F', ownS size e O w' v' (l ++ [m']) F' ∧ F'.Nodup ∧ ∀ b, b ∈ F' → b ∈ F ∨ b ∈ Fx ∨ b = w.heap.size := by
  have key : ∀ (Fs : List (List Nat)) (xs : List Value), Fs.length = l.length → (∀ j, (h : j < l.length) → O w ((xs.drop (j * size)).take size) l[j] (Fs.getD j [])) → (∀ b, b ∈ Fs.flatten → b ∈ F) → Fs.flatten.Nodup → (∀ k, v.ownBlock = some k → k ∈ F ∧ k ∉ Fs.flatten) → xs.length = l.length * size → 
      ∀ (w' : World) (v' : Value) (news : List Value) (m' : α) (Fx : List Nat), w'.ownsRow 0 e size v' (l.length + 1) (xs ++ news) → w.grownBy w' v.ownBlock → (v'.ownBlock = v.ownBlock ∨ v'.ownBlock = some w.heap.size) → O w news m' Fx → Fx.Nodup → (∀ b, b ∈ Fx → b ∉ F) →
      ∃ F', ownS size e O w' v' (l ++ [m']) F' ∧ F'.Nodup ∧ ∀ b, b ∈ F' → b ∈ F ∨ b ∈ Fx ∨ b = w.heap.size := by
    intro Fs xs f1 f2 f3 f4 f5 hxl w' v' news m' Fx ho hg hat hx hxN hxF
    have hnl := hO.len hx
    have hfr : ∀ b, b < w.heap.size → (∀ k, v.ownBlock = some k → b ≠ k) → w'.heap[b]? = w.heap[b]? := fun b hb hne => hg.block b hb (fun hh => hne b hh.symm rfl)
    have hFlt : ∀ j, (h : j < l.length) → ∀ b, b ∈ Fs.getD j [] → b < w.heap.size := fun j hj b hb => hO.lt (f2 j hj) b hb
    have hFin : ∀ j, (h : j < l.length) → ∀ b, b ∈ Fs.getD j [] → b ∈ Fs.flatten := fun j hj b hb => mem_flatten_getD (by omega) hb
    rcases ho.2 with ⟨_, h0⟩ | ⟨g, cap, cur, rfl, hb, hg', hnc, hm, hs, ht⟩
    · omega
    · have hgb : g ∈ F ∨ g = w.heap.size := by
        rcases hat with h | h
        · exact .inl (f5 g h.symm).1
        · right; simpa [Value.ownBlock] using h
      have hgn : g ∉ (Fs ++ [Fx]).flatten := by
        rw [List.flatten_append, List.mem_append]
        rintro (h | h)
        · rcases hat with h' | h'
          · exact (f5 g h'.symm).2 h
          · have hgw : g = w.heap.size := by simpa [Value.ownBlock] using h'
            obtain ⟨j, hj, hjb⟩ := of_mem_flatten h
            have := hFlt j (by omega) g hjb
            omega
        · have h : g ∈ Fx := by simpa using h
          rcases hgb with h' | h'
          · exact hxF g h h'
          · have := hO.lt hx g h; omega
      refine ⟨g :: (Fs ++ [Fx]).flatten, .inr ⟨g, cap, cur, Fs ++ [Fx], by simp, hg', by simpa using hnc, hm, hs, by simp [f1], ?_, rfl⟩, List.nodup_cons.2 ⟨hgn, ?_⟩, ?_⟩
      · intro j hj
        have hj1 : j ≤ l.length := by simp at hj; omega
        have hpart : ∀ j, j ≤ l.length → (cur.toList.drop (j * size)).take size = ((xs ++ news).drop (j * size)).take size := by
          intro j hj
          rw [← ht]
          have hmul : (j + 1) * size ≤ (l.length + 1) * size := Nat.mul_le_mul_right _ (by omega)
          rw [Nat.succ_mul] at hmul
          apply List.ext_getElem?
          intro i
          rw [List.getElem?_take, List.getElem?_take, List.getElem?_drop, List.getElem?_drop, List.getElem?_take]
          by_cases hi : i < size
          · rw [if_pos hi, if_pos hi, if_pos (by omega)]
          · rw [if_neg hi, if_neg hi]
        by_cases hjl : j < l.length
        · have e1 : ((xs ++ news).drop (j * size)).take size = (xs.drop (j * size)).take size := by
            have hmul : (j + 1) * size ≤ l.length * size := Nat.mul_le_mul_right _ hjl
            rw [Nat.succ_mul] at hmul
            apply List.ext_getElem?
            intro i
            rw [List.getElem?_take, List.getElem?_take, List.getElem?_drop, List.getElem?_drop]
            by_cases hi : i < size
            · rw [if_pos hi, if_pos hi, List.getElem?_append_left (by omega)]
            · rw [if_neg hi, if_neg hi]
          have e2 : (Fs ++ [Fx]).getD j [] = Fs.getD j [] := by rw [List.getD_eq_getElem?_getD, List.getD_eq_getElem?_getD, List.getElem?_append_left (by omega)]
          rw [hpart j hj1, e1, e2, List.getElem_append_left hjl]
          refine hO.frame (f2 j hjl) (fun b hb => hfr b (hFlt j hjl b hb) (fun k hk hbk => ?_))
          subst hbk
          exact (f5 b hk).2 (hFin j hjl b hb)
        · have hje : j = l.length := by omega
          subst hje
          have e1 : ((xs ++ news).drop (l.length * size)).take size = news := by
            rw [← hxl, List.drop_left, List.take_of_length_le (by omega)]
          have e2 : (Fs ++ [Fx]).getD l.length [] = Fx := by rw [List.getD_eq_getElem?_getD, List.getElem?_append_right (by omega), f1, Nat.sub_self]; rfl
          rw [hpart _ hj1, e1, e2]
          have e3 : (l ++ [m'])[l.length] = m' := by simp
          rw [e3]
          refine hO.frame hx (fun b hb => hfr b (hO.lt hx b hb) (fun k hk hbk => ?_))
          subst hbk
          exact hxF b hb (f5 b hk).1
      · rw [List.flatten_append]
        refine List.nodup_append.2 ⟨f4, by simpa using hxN, ?_⟩
        intro a ha b hb' hab
        subst hab
        exact hxF a (by simpa using hb') (f3 a ha)
      · intro b hb
        rcases List.mem_cons.1 hb with rfl | hb
        · rcases hgb with h | h
          · exact .inl h
          · exact .inr (.inr h)
        · rw [List.flatten_append, List.mem_append] at hb
          rcases hb with hb | hb
          · exact .inl (f3 b hb)
          · exact .inr (.inl (by simpa using hb))
  rcases h with ⟨rfl, rfl, rfl⟩ | ⟨g, cap, cur, Fs, rfl, h2, h3, h4, h5, h6, h7, rfl⟩
  · exact ⟨[], World.ownsRow_nil w 0 e size, key [] [] rfl (fun j hj => by simp at hj) (fun b hb => by simp at hb) (by simp) (fun k hk => by simp [Value.ownBlock] at hk) (by simp)⟩
  · rw [List.nodup_cons] at hN
    have hcl : cur.toList.length = cap * size := by simpa using h5
    have hle : l.length * size ≤ cap * size := Nat.mul_le_mul_right _ h3
    refine ⟨cur.toList.take (l.length * size), ⟨by rw [List.length_take]; omega, .inr ⟨g, cap, cur, rfl, Nat.zero_le _, h2, h3, h4, h5, rfl⟩⟩, key Fs _ h6 ?_ (fun b hb => List.mem_cons_of_mem _ hb) hN.2 (fun k hk => by simp [Value.ownBlock] at hk; subst hk; exact ⟨by simp, hN.1⟩) (by rw [List.length_take]; omega)⟩
    intro j hj
    have hmul : (j + 1) * size ≤ l.length * size := Nat.mul_le_mul_right _ hj
    rw [Nat.succ_mul] at hmul
    have e1 : ((cur.toList.take (l.length * size)).drop (j * size)).take size = (cur.toList.drop (j * size)).take size := by
      apply List.ext_getElem?
      intro i
      rw [List.getElem?_take, List.getElem?_take, List.getElem?_drop, List.getElem?_drop, List.getElem?_take]
      by_cases hi : i < size
      · rw [if_pos hi, if_pos hi, if_pos (by omega)]
      · rw [if_neg hi, if_neg hi]
    rw [e1]
    exact h7 j hj

def Bw (w : World) (b : Nat) (t : TypeId) (vs : List Value) : Prop := w.heap[b]? = some (.cells vs.toArray t (0, 0))

theorem Bw.lt {w : World} {b : Nat} {t : TypeId} {vs : List Value} (h : Bw w b t vs) : b < w.heap.size := (Array.getElem?_eq_some_iff.1 h).1

theorem Bw.cell {w : World} {b : Nat} {t : TypeId} {vs : List Value} (h : Bw w b t vs) (i : Nat) (u : Value) (hu : vs[i]? = some u) : w.cell? ⟨b, i, none⟩ = some u := by
  rw [cell_of_row w b i vs.toArray t (0, 0) h]
  simpa using hu

theorem Bw.free {w : World} {b : Nat} {t : TypeId} {vs : List Value} (h : Bw w b t vs) (i : Nat) : w.frozen? ⟨b, i, none⟩ = false := frozen_of_row w b i _ t h

theorem Bw.below {B : Nat} {w w' : World} {b : Nat} {t : TypeId} {vs : List Value} (h : Bw w b t vs) (hb : Below B w w') (hB : b < B) : Bw w' b t vs := (hb.block b hB).trans h

theorem Bw.under {w w' : World} {b : Nat} {t : TypeId} {vs : List Value} (h : Bw w b t vs) (hb : Below w.heap.size w w') : Bw w' b t vs := h.below hb h.lt

theorem Bw.turn {F : List Nat} {w w' : World} {b : Nat} {t : TypeId} {vs : List Value} (h : Bw w b t vs) (ht : Turn F w w') (hF : b ∉ F) : Bw w' b t vs := (ht.block b h.lt hF).trans h

theorem Bw.alloc {w : World} {b : Nat} {t : TypeId} {vs : List Value} (h : Bw w b t vs) (o : Obj) : Bw (w.alloc o) b t vs := h.under ((Below.refl _ _).alloc (Nat.le_refl _) o)

theorem Bw.new (w : World) (t : TypeId) (vs : List Value) : Bw (w.alloc (.cells vs.toArray t)) w.heap.size t vs := by
  show (w.heap.push _)[w.heap.size]? = _
  rw [Array.getElem?_push_size]

theorem Bw.new' (w : World) (t : TypeId) (vs : List Value) {b : Nat} (hb : b = w.heap.size) : Bw (w.alloc (.cells vs.toArray t)) b t vs := by
  subst hb
  exact Bw.new w t vs

theorem Bw.drew {w : World} {b : Nat} {t : TypeId} {vs : List Value} (h : Bw w b t vs) : Bw w.drew b t vs := h

theorem Bw.put {w : World} {b : Nat} {t : TypeId} {vs : List Value} (h : Bw w b t vs) (i : Nat) (u : Value) : Bw (w.setCell ⟨b, i, none⟩ u) b t (vs.set i u) := by
  have := heap_setCell_same w b i vs.toArray t u h
  unfold Bw
  rw [this]
  simp

theorem ownS.leaf {α : Type} {size : Nat} {e : TypeId} {O : ORep α} {R : Rep α} (hO : O.Good R size) {w : World} {a : Option Addr} {c : Nat} {l : List α} {F : List Nat} (h : ownS size e O w (.slice a l.length c) l F) : LeafL size R w.heap.size w a c l := by
  obtain ⟨a', c', he, h1, h2, h3⟩ := ownS.read hO h
  simp only [Value.slice.injEq, true_and] at he
  obtain ⟨rfl, rfl⟩ := he
  exact ⟨h1, h2, h3⟩

end Go.Proofs.YtnohnkcijomdjaaGreatDoor

namespace Go.Proofs.YtnohnkcijomdjaaGreatDoor
open Go.RowKit Go.Maps
abbrev q15c_74_5_0 : Oper := ⟨some 13, .move (.tmp 3), 60, "l06_manifest.go:96", #[], none⟩
abbrev q15c_74_5_1 : Oper := ⟨some 14, .move (.tmp 5), 5, "l06_manifest.go:96", #[], none⟩
abbrev q15c_74_5_2 : Oper := ⟨some 15, .binOp .quo 5 (.tmp 14) (.const (.int .u8 16)) 5, 5, "l06_manifest.go:96", #[⟨1, .data⟩], none⟩
abbrev q15c_74_5_3 : Oper := ⟨some 16, .index 9 (.const (.string { data := #[48, 49, 50, 51, 52, 53, 54, 55, 56, 57, 97, 98, 99, 100, 101, 102] })) (.tmp 15), 5, "l06_manifest.go:96", #[⟨2, .data⟩], none⟩
abbrev q15c_74_5_4 : Oper := ⟨some 17, .move (.tmp 5), 5, "l06_manifest.go:96", #[], none⟩
abbrev q15c_74_5_5 : Oper := ⟨some 18, .binOp .rem 5 (.tmp 17) (.const (.int .u8 16)) 5, 5, "l06_manifest.go:96", #[⟨4, .data⟩], none⟩
abbrev q15c_74_5_6 : Oper := ⟨some 19, .index 9 (.const (.string { data := #[48, 49, 50, 51, 52, 53, 54, 55, 56, 57, 97, 98, 99, 100, 101, 102] })) (.tmp 18), 5, "l06_manifest.go:96", #[⟨5, .data⟩], none⟩
abbrev q15c_74_5_7 : Oper := ⟨some 20, .buildSlice 60 2 #[(0, .tmp 16), (1, .tmp 19)], 60, "l06_manifest.go:96", #[⟨3, .data⟩, ⟨6, .data⟩], none⟩
abbrev q15c_74_5_8 : Oper := ⟨some 21, .call { callee := .builtin .append, args := #[.tmp 13, .tmp 20], argTypes := #[60, 60] }, 60, "l06_manifest.go:96", #[⟨0, .data⟩, ⟨7, .data⟩], none⟩
abbrev q15c_74_5_9 : Oper := ⟨some 3, .assign (.tmp 21), 60, "l06_manifest.go:96", #[⟨8, .data⟩, ⟨8, .chain⟩, ⟨0, .phase⟩, ⟨1, .phase⟩, ⟨2, .phase⟩, ⟨3, .phase⟩, ⟨4, .phase⟩, ⟨5, .phase⟩, ⟨6, .phase⟩, ⟨7, .phase⟩, ⟨8, .phase⟩], none⟩
abbrev q15c_41_6_0 : Oper := ⟨some 13, .move (.tmp 4), 60, "l06_manifest.go:41", #[], none⟩
abbrev q15c_41_6_1 : Oper := ⟨some 14, .move (.tmp 3), 9, "l06_manifest.go:41", #[], none⟩
abbrev q15c_41_6_2 : Oper := ⟨some 15, .move (.tmp 0), 9, "l06_manifest.go:41", #[], none⟩
abbrev q15c_41_6_3 : Oper := ⟨some 16, .move (.tmp 5), 3, "l06_manifest.go:41", #[], none⟩
abbrev q15c_41_6_4 : Oper := ⟨some 17, .index 9 (.tmp 15) (.tmp 16), 5, "l06_manifest.go:41", #[⟨2, .data⟩, ⟨3, .data⟩], none⟩
abbrev q15c_41_6_5 : Oper := ⟨some 18, .binOp .shr 5 (.tmp 17) (.const (.int .u64 4)) 101, 5, "l06_manifest.go:41", #[⟨4, .data⟩], none⟩
abbrev q15c_41_6_6 : Oper := ⟨some 19, .index 9 (.tmp 14) (.tmp 18), 5, "l06_manifest.go:41", #[⟨1, .data⟩, ⟨5, .data⟩], none⟩
abbrev q15c_41_6_7 : Oper := ⟨some 20, .move (.tmp 3), 9, "l06_manifest.go:41", #[], none⟩
abbrev q15c_41_6_8 : Oper := ⟨some 21, .move (.tmp 0), 9, "l06_manifest.go:41", #[], none⟩
abbrev q15c_41_6_9 : Oper := ⟨some 22, .move (.tmp 5), 3, "l06_manifest.go:41", #[], none⟩
abbrev q15c_41_6_10 : Oper := ⟨some 23, .index 9 (.tmp 21) (.tmp 22), 5, "l06_manifest.go:41", #[⟨8, .data⟩, ⟨9, .data⟩], none⟩
abbrev q15c_41_6_11 : Oper := ⟨some 24, .binOp .and 5 (.tmp 23) (.const (.int .u8 15)) 5, 5, "l06_manifest.go:41", #[⟨10, .data⟩], none⟩
abbrev q15c_41_6_12 : Oper := ⟨some 25, .index 9 (.tmp 20) (.tmp 24), 5, "l06_manifest.go:41", #[⟨7, .data⟩, ⟨11, .data⟩], none⟩
abbrev q15c_41_6_13 : Oper := ⟨some 26, .buildSlice 60 2 #[(0, .tmp 19), (1, .tmp 25)], 60, "l06_manifest.go:41", #[⟨6, .data⟩, ⟨12, .data⟩], none⟩
abbrev q15c_41_6_14 : Oper := ⟨some 27, .call { callee := .builtin .append, args := #[.tmp 13, .tmp 26], argTypes := #[60, 60] }, 60, "l06_manifest.go:41", #[⟨0, .data⟩, ⟨13, .data⟩], none⟩
abbrev q15c_41_6_15 : Oper := ⟨some 4, .assign (.tmp 27), 60, "l06_manifest.go:41", #[⟨14, .data⟩, ⟨14, .chain⟩, ⟨0, .phase⟩, ⟨1, .phase⟩, ⟨2, .phase⟩, ⟨3, .phase⟩, ⟨4, .phase⟩, ⟨5, .phase⟩, ⟨6, .phase⟩, ⟨7, .phase⟩, ⟨8, .phase⟩, ⟨9, .phase⟩, ⟨10, .phase⟩, ⟨11, .phase⟩, ⟨12, .phase⟩, ⟨13, .phase⟩, ⟨14, .phase⟩], none⟩

/-- The digits, as numbers. -/
def hexZ (zs : List Int) : List Int := zs.flatMap fun c => [((hexD (c / 16).toNat).toNat : Int), ((hexD (c % 16).toNat).toNat : Int)]
theorem hexZ_take {zs : List Int} {k : Nat} (h : k < zs.length) : hexZ (zs.take (k + 1)) = hexZ (zs.take k) ++ [((hexD (zs[k] / 16).toNat).toNat : Int), ((hexD (zs[k] % 16).toNat).toNat : Int)] := by
  unfold hexZ
  rw [List.take_succ_eq_append_getElem h, List.flatMap_append]
  simp
theorem hexZ_len (zs : List Int) : (hexZ zs).length = 2 * zs.length := by
  induction zs with
  | nil => rfl
  | cons x r ih => unfold hexZ at ih ⊢; rw [List.flatMap_cons, List.length_append, ih]; simp; omega
theorem hexZ_str (s : ByteArray) : strOfNums (hexZ (byteInts s)) = strB (hexT s) := by
  rw [strB_nums]
  apply strB_inj
  unfold hexZ byteInts hexT
  induction s.data.toList with
  | nil => rfl
  | cons x r ih =>
    rw [List.map_cons, List.flatMap_cons, List.flatMap_cons, List.map_append, ih]
    congr 1
    simp only [hexB, List.map_cons, List.map_nil]
    have h1 : (((x.toNat : Nat) : Int) / 16).toNat = x.toNat / 16 := by omega
    have h2 : (((x.toNat : Nat) : Int) % 16).toNat = x.toNat % 16 := by omega
    rw [h1, h2]
    simp
theorem conv_hex {w : World} {base e : Nat} {v : Value} {bs : List Int} (h : w.ownsRow base e 1 v bs.length (bs.map (Value.int .u8))) :
    (convert 60 9 v).run Tryz.prog w = .ok (.string (strOfNums bs)) w := by
  obtain ⟨a, c, rfl, _, hr⟩ := own_rd rfl h
  cases a with
  | none =>
    have hz : bs = [] := by
      cases bs with
      | nil => rfl
      | cons z r =>
        obtain ⟨_, _, h, _⟩ := hr 0 (by simp)
        cases h
    subst hz
    exact run_convert_bytes_nil w 60 5 Tryz.underlying60 Tryz.underlying5 _ _ 9 Tryz.underlying9
  | some ad =>
    rcases h.2 with ⟨h', _⟩ | ⟨g, cap, cur, h', _⟩
    · simp at h'
    · simp only [Value.slice.injEq, Option.some.injEq, true_and] at h'
      obtain ⟨rfl, rfl⟩ := h'
      exact run_convert_bytes_arg w 60 5 Tryz.underlying60 Tryz.underlying5 g 0 bs.length c bs rfl (fun i hi => by
        obtain ⟨b', o', e', _, hc⟩ := hr i hi
        simp only [Option.some.injEq, Addr.mk.injEq, and_true] at e'
        obtain ⟨rfl, rfl⟩ := e'
        exact hc) 9 Tryz.underlying9

/-- Two numbers laid in a new block. -/
theorem rd_two (k : IntKind) (w : World) (x y : Int) (t : TypeId) : Rd k (w.heap.size + 1) (w.alloc (.cells #[.int k x, .int k y] t)) (some ⟨w.heap.size, 0, none⟩) [x, y] := by
  intro j hj
  simp only [List.length_cons, List.length_nil] at hj
  have hj0 : j = 0 ∨ j = 1 := by omega
  rcases hj0 with rfl | rfl
  · exact ⟨w.heap.size, 0, rfl, by omega, by simp⟩
  · exact ⟨w.heap.size, 0, rfl, by omega, by simp⟩

theorem hexAt (c : Int) (w : World) (h0 : 0 ≤ c) (h1 : c < 16) :
    (Instr.index 9 (.string ⟨#[48, 49, 50, 51, 52, 53, 54, 55, 56, 57, 97, 98, 99, 100, 101, 102]⟩) (.int .u8 c)).run Tryz.prog w = .ok (.int .u8 ((hexD c.toNat).toNat : Int)) w := by
  have hh : ∀ i : Fin 16, (Instr.index 9 (.string ⟨#[48, 49, 50, 51, 52, 53, 54, 55, 56, 57, 97, 98, 99, 100, 101, 102]⟩) (.int .u8 (i.val : Int))).run Tryz.prog w = .ok (.int .u8 ((hexD i.val).toNat : Int)) w := by
    intro i
    rw [run_index_string w 9 _ .u8 _ Tryz.underlying9]
    have hi : (0 : Int) ≤ (i.val : Int) ∧ (i.val : Int) < ((⟨#[48, 49, 50, 51, 52, 53, 54, 55, 56, 57, 97, 98, 99, 100, 101, 102]⟩ : ByteArray).size : Int) := ⟨by omega, by have := i.isLt; show (i.val : Int) < 16; omega⟩
    rw [dif_pos hi]
    congr 3
    revert i
    decide
  obtain ⟨i, hi⟩ : ∃ i : Nat, c = (i : Int) := ⟨c.toNat, by omega⟩
  subst hi
  exact hh ⟨i, by omega⟩

set_option maxHeartbeats 2000000 in
theorem digitsOf_any (s : ByteArray) (w : World) (hs : s.size ≤ 1048576) :
    Calls Tryz.prog 74 #[.string s] w fun e w' => e = .returned (.string (strB (hexT s))) ∧ Below w.heap.size w w' := by
  obtain ⟨i0, hi0⟩ := info_parts Tryz.info5
  have HI := Hid.mk hi0
  clear hi0
  obtain ⟨w1, cap, hcv, hb1, hr1⟩ := strRd s w
  have HR := Hid.mk hr1
  have HO := Hid.mk (byteInts_ok s)
  have HS := Hid.mk (hexZ_str s)
  obtain ⟨zs, hzs⟩ : ∃ z, z = byteInts s := ⟨_, rfl⟩
  have hzl : zs.length = s.size := by rw [hzs]; exact byteInts_length s
  rw [← hzs] at HR HO HS
  obtain ⟨n, hn⟩ : ∃ n, n = s.size := ⟨_, rfl⟩
  rw [← hn] at hzl hs hcv
  have HX := Hid.mk hzl
  clear hzs hzl hr1 hn
  go_enter Tryz.func74, Tryz.ntmps74
  go_wp2_with fail
  clear hcv
  go_loopw [3, 9] (fun v i wr => ∃ k : Nat, k ≤ n ∧ i = .int .i64 k ∧ wr.ownsRow w1.heap.size 5 1 v (hexZ (zs.take k)).length ((hexZ (zs.take k)).map (Value.int .u8)) ∧ Below w1.heap.size w1 wr) (fun _ i _ => n - (intOf i).toNat)
  case atStart => exact ⟨0, Nat.zero_le _, rfl, ⟨rfl, .inl ⟨rfl, rfl⟩⟩, Below.refl _ _⟩
  case round =>
    obtain ⟨k, hk, rfl, hown, hbk⟩ := hrel
    by_cases hlt : k < n
    · have hkl : k < zs.length := by rw [HX.out]; exact hlt
      obtain ⟨b2, o2, he2, hB2, hc2⟩ := (HR.out.below hbk) k hkl
      simp only [Option.some.injEq, Addr.mk.injEq, and_true] at he2
      obtain ⟨rfl, rfl⟩ := he2
      have hcb := HO.out zs[k] (List.getElem_mem hkl)
      have HZ := Hid.mk (hexZ_take hkl)
      rw [List.getD_eq_getElem?_getD, List.getElem?_eq_getElem hkl, Option.getD_some, Nat.zero_add] at hc2
      generalize zs[k] = c at *
      have hl2 : (hexZ (zs.take k)).length ≤ 2097152 := by rw [hexZ_len]; simp; omega
      generalize hexZ (zs.take k) = out at *
      have hB3 : w.heap.size < wr.heap.size := Nat.lt_of_lt_of_le hB2 hbk.size
      have e1 : c.tdiv 16 = c / 16 := Int.tdiv_eq_ediv_of_nonneg hcb.1
      have e2 : c.tmod 16 = c % 16 := Int.tmod_eq_emod_of_nonneg hcb.1
      have hd1 : 0 ≤ c / 16 ∧ c / 16 < 16 := by omega
      have hd2 : 0 ≤ c % 16 ∧ c % 16 < 16 := by omega
      have hw1 : IntKind.u8.wrap (c / 16) = c / 16 := by rw [IntKind.wrap_u8]; omega
      have hw2 : IntKind.u8.wrap (c % 16) = c % 16 := by rw [IntKind.wrap_u8]; omega
      have hx1 := fun (W : World) => hexAt (c / 16) W hd1.1 hd1.2
      have hx2 := fun (W : World) => hexAt (c % 16) W hd2.1 hd2.2
      generalize ((hexD (c / 16).toNat).toNat : Int) = x1 at *
      generalize ((hexD (c % 16).toNat).toNat : Int) = x2 at *
      go_wp2_with fail
      refine wp_region_held_drew (S := fun W => Below w1.heap.size w1 W) (by kernel_rfl) (Below.drew hbk) (fun hHeld => ?_)
      refine tk 0 q15c_74_5_0 (some 13) (v := ?v1) rfl rfl (by kernel_rfl) hHeld (by rfl) (fun _ _ _ x => x) (fun w h => ?y1) ?_; (case y1 => (try dsimp only at h); go_simp; try (with_reducible rfl)); try simp only [Act.put, sa, s0, s1]
      refine tk 1 q15c_74_5_1 (some 14) (v := ?v2) rfl rfl (by kernel_rfl) hHeld (by rfl) (fun _ _ _ x => x) (fun w h => ?y2) ?_; (case y2 => (try dsimp only at h); go_simp; try (with_reducible rfl)); try simp only [Act.put, sa, s0, s1]
      refine tk 2 q15c_74_5_2 (some 15) (v := ?v3) rfl rfl (by kernel_rfl) hHeld (by rfl) (fun _ _ _ x => x) (fun w h => ?y3) ?_; (case y3 => (try dsimp only at h); go_simp; try (with_reducible rfl)); try simp only [Act.put, sa, s0, s1]
      refine tk 3 q15c_74_5_3 (some 16) (v := ?v4) rfl rfl (by kernel_rfl) hHeld (by rfl) (fun _ _ _ x => x) (fun w h => ?y4) ?_; (case y4 => (try dsimp only at h); go_simp; try (with_reducible rfl)); try simp only [Act.put, sa, s0, s1]
      refine tk 4 q15c_74_5_4 (some 17) (v := ?v5) rfl rfl (by kernel_rfl) hHeld (by rfl) (fun _ _ _ x => x) (fun w h => ?y5) ?_; (case y5 => (try dsimp only at h); go_simp; try (with_reducible rfl)); try simp only [Act.put, sa, s0, s1]
      refine tk 5 q15c_74_5_5 (some 18) (v := ?v6) rfl rfl (by kernel_rfl) hHeld (by rfl) (fun _ _ _ x => x) (fun w h => ?y6) ?_; (case y6 => (try dsimp only at h); go_simp; try (with_reducible rfl)); try simp only [Act.put, sa, s0, s1]
      refine tk 6 q15c_74_5_6 (some 19) (v := ?v7) rfl rfl (by kernel_rfl) hHeld (by rfl) (fun _ _ _ x => x) (fun w h => ?y7) ?_; (case y7 => (try dsimp only at h); go_simp; try (with_reducible rfl)); try simp only [Act.put, sa, s0, s1]
      refine wpAnyH_ready (rs := [7]) (by kernel_rfl) (by simp) ?_
      refine AllReadyH.cons (o := q15c_74_5_7) rfl (fun K hK => ?_) AllReadyH.nil
      go_simp
      obtain ⟨w5, hq5⟩ : ∃ x, x = (wr.alloc (.cells (List.toArray [Value.int .u8 x1, Value.int .u8 x2]) 5)).drew := ⟨_, rfl⟩
      have hx1 : Below wr.heap.size wr w5 := by rw [hq5]; exact Below.drew ((Below.refl _ _).alloc (Nat.le_refl _) _)
      have hop1 : Below w1.heap.size w1 w5 := hbk.trans (hx1.mono hbk.size)
      have HR5 : Hid (Rd .u8 (wr.heap.size + 1) w5 (some ⟨wr.heap.size, 0, none⟩) [x1, x2]) := by rw [hq5]; exact rd_two .u8 wr x1 x2 5
      have HO5 := Hid.mk (own_below hown hx1)
      rw [← hq5]
      clear hq5
      refine hK.out _ _ (hop1) (fun hHeld => ?_)
      clear hK K
      try simp only [Act.put, sa, s0, s1]
      refine wpAnyH_ready (rs := [8]) (by kernel_rfl) (by simp) ?_
      refine AllReadyH.cons (o := q15c_74_5_8) rfl (fun K hK => ?_) AllReadyH.nil
      refine step_append_src w5 rfl _ _ 60 60 rfl w1.heap.size 5 i0 (.int .u8 0) 1 1 Tryz.underlying60 HI.out.1 HI.out.2.1 HI.out.2.2.1 HI.out.2.2.2 rfl u3 out.length (out.map (Value.int .u8)) rfl HO5.out (.slice (some ⟨wr.heap.size, 0, none⟩) 2 2) rfl 2 ([x1, x2].map (Value.int .u8)) (Src.rd Tryz.underlying60 rfl HR5.out) (by unfold maxLen; omega) (by omega) hop1.size ?_
      intro v6 w6 ho6 hgr6 hat6
      have hop2 : Below w1.heap.size w1 w6 := hop1.grown hgr6 hop1.size (fun k h => (HO5.out.lt k h).1)
      have HO6 : Hid (w6.ownsRow w1.heap.size 5 1 v6 (out ++ [x1, x2]).length ((out ++ [x1, x2]).map (Value.int .u8))) := own_congr ho6 (by simp) (by simp)
      clear ho6 hgr6 hat6
      refine hK.out _ _ (hop2) (fun hHeld => ?_)
      clear hK K
      try simp only [Act.put, sa, s0, s1]
      refine tk 9 q15c_74_5_9 (some 3) (v := ?v8) rfl rfl (by kernel_rfl) hHeld (by rfl) (fun _ _ _ x => x) (fun w h => ?y8) ?_; (case y8 => (try dsimp only at h); go_simp; try (with_reducible rfl)); try simp only [Act.put, sa, s0, s1]
      refine wpAnyH_done (by kernel_rfl) ?_ _
      go_wp2_with fail
      go_roundw
      case rel => exact ⟨k + 1, by omega, by go_num, by rw [HZ.out]; exact HO6.out, hop2⟩
      case measure => simp [intOf]; omega
    · have HT1 : Hid (zs.take k = zs) := List.take_of_length_le (by rw [HX.out]; omega)
      rw [HT1.out] at hown
      have hcv := conv_hex hown
      rw [HS.out] at hcv
      go_wp2_with fail
      go_ret
      exact ⟨rfl, bthen hb1 hbk⟩

theorem and15_u8 {x : Int} (h0 : 0 ≤ x) (h1 : x ≤ 255) : bits .and .u8 x 15 = x % 16 := by
  rw [u8_and x 15 h0 (by omega) (by omega) (by omega)]
  have : x.toNat &&& (15 : Int).toNat = x.toNat % 16 := Nat.and_two_pow_sub_one_eq_mod x.toNat 4
  omega

theorem strAt (s : ByteArray) {k : Nat} (w : World) (h : k < (byteInts s).length) :
    (Instr.index 9 (.string s) (.int .i64 k)).run Tryz.prog w = .ok (.int .u8 (byteInts s)[k]) w := by
  have hs : k < s.size := by rw [← byteInts_length]; exact h
  rw [run_index_string w 9 _ .i64 _ Tryz.underlying9, dif_pos ⟨by omega, by omega⟩]
  congr 2
  simp [byteInts]
  rfl

set_option maxHeartbeats 2000000 in
theorem l6Hex_any (s : ByteArray) (w : World) (hs : s.size ≤ 1048576) :
    Calls Tryz.prog 41 #[.string s] w fun e w' => e = .returned (.string (strB (hexT s))) ∧ Below w.heap.size w w' := by
  obtain ⟨i0, hi0⟩ := info_parts Tryz.info5
  have HI := Hid.mk hi0
  clear hi0
  have HO := Hid.mk (byteInts_ok s)
  have HS := Hid.mk (hexZ_str s)
  obtain ⟨zs, hzs⟩ : ∃ z, z = byteInts s := ⟨_, rfl⟩
  have hzl : zs.length = s.size := by rw [hzs]; exact byteInts_length s
  rw [← hzs] at HO HS
  have HA : Hid (∀ (k : Nat) (W : World) (h : k < zs.length), (Instr.index 9 (.string s) (.int .i64 k)).run Tryz.prog W = .ok (.int .u8 zs[k]) W) := by subst hzs; exact fun k W h => strAt s W h
  have HX := Hid.mk hzl
  clear hzs hzl
  go_enter Tryz.func41, Tryz.ntmps41
  go_wp2_with fail
  obtain ⟨wq, hwq⟩ : ∃ x, x = w.alloc (.cells #[] 5) := ⟨_, rfl⟩
  have hbq : Below w.heap.size w wq := by rw [hwq]; exact (Below.refl _ _).alloc (Nat.le_refl _) _
  have hoo : wq.ownsRow w.heap.size 5 1 (.slice (some ⟨w.heap.size, 0, none⟩) 0 0) 0 [] := by
    rw [hwq]
    exact ⟨by simp, .inr ⟨w.heap.size, 0, #[], rfl, Nat.le_refl _, (show (w.heap.push _)[w.heap.size]? = _ from Array.getElem?_push_size), by omega, by simp [maxLen], by simp, by simp⟩⟩
  rw [← hwq]
  clear hwq
  go_loopw [4, 5] (fun v i wr => ∃ k : Nat, k ≤ s.size ∧ i = .int .i64 k ∧ wr.ownsRow w.heap.size 5 1 v (hexZ (zs.take k)).length ((hexZ (zs.take k)).map (Value.int .u8)) ∧ Below w.heap.size w wr) (fun _ i _ => s.size - (intOf i).toNat)
  case atStart => exact ⟨0, Nat.zero_le _, rfl, hoo, hbq⟩
  case round =>
    obtain ⟨k, hk, rfl, hown, hbk⟩ := hrel
    clear hoo hbq
    by_cases hlt : k < s.size
    · have hkl : k < zs.length := by rw [HX.out]; exact hlt
      have hcb := HO.out zs[k] (List.getElem_mem hkl)
      have HZ := Hid.mk (hexZ_take hkl)
      have hsk := fun W => HA.out k W hkl
      generalize zs[k] = c at *
      have hl2 : (hexZ (zs.take k)).length ≤ 2097152 := by rw [hexZ_len]; simp; omega
      generalize hexZ (zs.take k) = out at *
      have hd1 : 0 ≤ c / 16 ∧ c / 16 < 16 := by omega
      have hd2 : 0 ≤ c % 16 ∧ c % 16 < 16 := by omega
      have hw1 : IntKind.u8.wrap (c / 16) = c / 16 := by rw [IntKind.wrap_u8]; omega
      have hw2 : IntKind.u8.wrap (c % 16) = c % 16 := by rw [IntKind.wrap_u8]; omega
      have hx1 := fun (W : World) => hexAt (c / 16) W hd1.1 hd1.2
      have hx2 := fun (W : World) => hexAt (c % 16) W hd2.1 hd2.2
      have ha2 := and15_u8 hcb.1 hcb.2
      generalize ((hexD (c / 16).toNat).toNat : Int) = x1 at *
      generalize ((hexD (c % 16).toNat).toNat : Int) = x2 at *
      go_wp2_with fail
      refine wp_region_held_drew (S := fun W => Below w.heap.size w W) (by kernel_rfl) (Below.drew hbk) (fun hHeld => ?_)
      refine tk 0 q15c_41_6_0 (some 13) (v := ?v9) rfl rfl (by kernel_rfl) hHeld (by rfl) (fun _ _ _ x => x) (fun w h => ?y9) ?_; (case y9 => (try dsimp only at h); go_simp; try (with_reducible rfl)); try simp only [Act.put, sa, s0, s1]
      refine tk 1 q15c_41_6_1 (some 14) (v := ?v10) rfl rfl (by kernel_rfl) hHeld (by rfl) (fun _ _ _ x => x) (fun w h => ?y10) ?_; (case y10 => (try dsimp only at h); go_simp; try (with_reducible rfl)); try simp only [Act.put, sa, s0, s1]
      refine tk 2 q15c_41_6_2 (some 15) (v := ?v11) rfl rfl (by kernel_rfl) hHeld (by rfl) (fun _ _ _ x => x) (fun w h => ?y11) ?_; (case y11 => (try dsimp only at h); go_simp; try (with_reducible rfl)); try simp only [Act.put, sa, s0, s1]
      refine tk 3 q15c_41_6_3 (some 16) (v := ?v12) rfl rfl (by kernel_rfl) hHeld (by rfl) (fun _ _ _ x => x) (fun w h => ?y12) ?_; (case y12 => (try dsimp only at h); go_simp; try (with_reducible rfl)); try simp only [Act.put, sa, s0, s1]
      refine tk 4 q15c_41_6_4 (some 17) (v := ?v13) rfl rfl (by kernel_rfl) hHeld (by rfl) (fun _ _ _ x => x) (fun w h => ?y13) ?_; (case y13 => (try dsimp only at h); go_simp; try (with_reducible rfl)); try simp only [Act.put, sa, s0, s1]
      refine tk 5 q15c_41_6_5 (some 18) (v := ?v14) rfl rfl (by kernel_rfl) hHeld (by rfl) (fun _ _ _ x => x) (fun w h => ?y14) ?_; (case y14 => (try dsimp only at h); go_simp; try (with_reducible rfl)); try simp only [Act.put, sa, s0, s1]
      refine tk 6 q15c_41_6_6 (some 19) (v := ?v15) rfl rfl (by kernel_rfl) hHeld (by rfl) (fun _ _ _ x => x) (fun w h => ?y15) ?_; (case y15 => (try dsimp only at h); go_simp; try (with_reducible rfl)); try simp only [Act.put, sa, s0, s1]
      refine tk 7 q15c_41_6_7 (some 20) (v := ?v16) rfl rfl (by kernel_rfl) hHeld (by rfl) (fun _ _ _ x => x) (fun w h => ?y16) ?_; (case y16 => (try dsimp only at h); go_simp; try (with_reducible rfl)); try simp only [Act.put, sa, s0, s1]
      refine tk 8 q15c_41_6_8 (some 21) (v := ?v17) rfl rfl (by kernel_rfl) hHeld (by rfl) (fun _ _ _ x => x) (fun w h => ?y17) ?_; (case y17 => (try dsimp only at h); go_simp; try (with_reducible rfl)); try simp only [Act.put, sa, s0, s1]
      refine tk 9 q15c_41_6_9 (some 22) (v := ?v18) rfl rfl (by kernel_rfl) hHeld (by rfl) (fun _ _ _ x => x) (fun w h => ?y18) ?_; (case y18 => (try dsimp only at h); go_simp; try (with_reducible rfl)); try simp only [Act.put, sa, s0, s1]
      refine tk 10 q15c_41_6_10 (some 23) (v := ?v19) rfl rfl (by kernel_rfl) hHeld (by rfl) (fun _ _ _ x => x) (fun w h => ?y19) ?_; (case y19 => (try dsimp only at h); go_simp; try (with_reducible rfl)); try simp only [Act.put, sa, s0, s1]
      refine tk 11 q15c_41_6_11 (some 24) (v := ?v20) rfl rfl (by kernel_rfl) hHeld (by rfl) (fun _ _ _ x => x) (fun w h => ?y20) ?_; (case y20 => (try dsimp only at h); go_simp; try (with_reducible rfl)); try simp only [Act.put, sa, s0, s1]
      refine tk 12 q15c_41_6_12 (some 25) (v := ?v21) rfl rfl (by kernel_rfl) hHeld (by rfl) (fun _ _ _ x => x) (fun w h => ?y21) ?_; (case y21 => (try dsimp only at h); go_simp; try (with_reducible rfl)); try simp only [Act.put, sa, s0, s1]
      refine wpAnyH_ready (rs := [13]) (by kernel_rfl) (by simp) ?_
      refine AllReadyH.cons (o := q15c_41_6_13) rfl (fun K hK => ?_) AllReadyH.nil
      go_simp
      obtain ⟨w5, hq5⟩ : ∃ x, x = (wr.alloc (.cells (List.toArray [Value.int .u8 x1, Value.int .u8 x2]) 5)).drew := ⟨_, rfl⟩
      have hx1 : Below wr.heap.size wr w5 := by rw [hq5]; exact Below.drew ((Below.refl _ _).alloc (Nat.le_refl _) _)
      have hop1 : Below w.heap.size w w5 := hbk.trans (hx1.mono hbk.size)
      have HR5 : Hid (Rd .u8 (wr.heap.size + 1) w5 (some ⟨wr.heap.size, 0, none⟩) [x1, x2]) := by rw [hq5]; exact rd_two .u8 wr x1 x2 5
      have HO5 := Hid.mk (own_below hown hx1)
      rw [← hq5]
      clear hq5
      refine hK.out _ _ (hop1) (fun hHeld => ?_)
      clear hK K
      try simp only [Act.put, sa, s0, s1]
      refine wpAnyH_ready (rs := [14]) (by kernel_rfl) (by simp) ?_
      refine AllReadyH.cons (o := q15c_41_6_14) rfl (fun K hK => ?_) AllReadyH.nil
      refine step_append_src w5 rfl _ _ 60 60 rfl w.heap.size 5 i0 (.int .u8 0) 1 1 Tryz.underlying60 HI.out.1 HI.out.2.1 HI.out.2.2.1 HI.out.2.2.2 rfl u4 out.length (out.map (Value.int .u8)) rfl HO5.out (.slice (some ⟨wr.heap.size, 0, none⟩) 2 2) rfl 2 ([x1, x2].map (Value.int .u8)) (Src.rd Tryz.underlying60 rfl HR5.out) (by unfold maxLen; omega) (by omega) hop1.size ?_
      intro v6 w6 ho6 hgr6 hat6
      have hop2 : Below w.heap.size w w6 := hop1.grown hgr6 hop1.size (fun k h => (HO5.out.lt k h).1)
      have HO6 : Hid (w6.ownsRow w.heap.size 5 1 v6 (out ++ [x1, x2]).length ((out ++ [x1, x2]).map (Value.int .u8))) := own_congr ho6 (by simp) (by simp)
      clear ho6 hgr6 hat6
      refine hK.out _ _ (hop2) (fun hHeld => ?_)
      clear hK K
      try simp only [Act.put, sa, s0, s1]
      refine tk 15 q15c_41_6_15 (some 4) (v := ?v22) rfl rfl (by kernel_rfl) hHeld (by rfl) (fun _ _ _ x => x) (fun w h => ?y22) ?_; (case y22 => (try dsimp only at h); go_simp; try (with_reducible rfl)); try simp only [Act.put, sa, s0, s1]
      refine wpAnyH_done (by kernel_rfl) ?_ _
      go_wp2_with fail
      go_roundw
      case rel => exact ⟨k + 1, by omega, by go_num, by rw [HZ.out]; exact HO6.out, hop2⟩
      case measure => simp [intOf]; omega
    · have HT1 : Hid (zs.take k = zs) := List.take_of_length_le (by rw [HX.out]; omega)
      rw [HT1.out] at hown
      have hcv := conv_hex hown
      rw [HS.out] at hcv
      go_wp2_with fail
      go_ret
      exact ⟨rfl, hbk⟩


set_option maxHeartbeats 400000 in
theorem reaches_any (t : MMeta) (lo hi : ByteArray) (w : World) :
    Calls Tryz.prog 93 #[.agg #[.int .i64 t.fNo, .int .i64 t.fLevel, .string t.fLo, .string t.fHi], .string lo, .string hi] w fun e w' => e = .returned (.bool (reachP t lo hi)) ∧ Below w.heap.size w w' := by
  have HV : Hid (reachP t lo hi = kLe (maxK t.fLo lo) (minK t.fHi hi)) := rfl
  have hbx := Bx.new w [.int .i64 t.fNo, .int .i64 t.fLevel, .string t.fLo, .string t.fHi] 49
  have y2 := hbx.2 2 _ rfl
  have y3 := hbx.2 3 _ rfl
  have HB : Hid (Below w.heap.size w (w.alloc (.cells #[.int .i64 t.fNo, .int .i64 t.fLevel, .string t.fLo, .string t.fHi] 49))) := (Below.refl _ _).alloc (Nat.le_refl _) _
  have hmx := fun (W : World) => run_max_k (P := Tryz.prog) (w := W) #[9, 9] 9 t.fLo lo
  have hmn := fun (W : World) => run_min_k (P := Tryz.prog) (w := W) #[9, 9] 9 t.fHi hi
  generalize maxK t.fLo lo = a at *
  generalize minK t.fHi hi = b at *
  go_enter Tryz.func93, Tryz.ntmps93
  by_cases hk : kLe a b = true
  · have HV2 : Hid (reachP t lo hi = true) := by show _ = _; rw [HV.out, hk]
    have hq := kLe_yes hk
    rcases hq with hq | hq
    · go_wp2_with fail
      go_ret
      exact ⟨by rw [HV2.out]; rfl, HB.out⟩
    · go_wp2_with fail
      go_ret
      exact ⟨by rw [HV2.out]; rfl, HB.out⟩
  · have hk2 := Bool.eq_false_iff.2 hk
    have HV2 : Hid (reachP t lo hi = false) := by show _ = _; rw [HV.out, hk2]
    obtain ⟨hq1, hq2⟩ := kLe_no hk2
    go_wp2_with fail
    go_ret
    exact ⟨by rw [HV2.out]; rfl, HB.out⟩

set_option maxHeartbeats 400000 in
theorem mkey_any (s : ByteArray) (w : World) (hs : s.size ≤ 9223372036854775807) :
    Calls Tryz.prog 92 #[.string s] w fun e w' => e = .returned (.bool (mKeyP s)) ∧ w' = w := by
  by_cases h0 : s.size = 0
  · have HV : Hid (mKeyP s = false) := decide_eq_false (fun h => by omega)
    have he := k_emp h0
    go_enter Tryz.func92, Tryz.ntmps92
    go_wp2
    go_ret
    exact ⟨by rw [HV.out]; rfl, rfl⟩
  · have he := k_nemp h0
    by_cases h1 : s.size ≤ 20
    · have HV : Hid (mKeyP s = true) := decide_eq_true ⟨by omega, h1⟩
      have h2 : (s.size : Int) ≤ 20 := by omega
      go_enter Tryz.func92, Tryz.ntmps92
      go_wp2
      go_ret
      exact ⟨by rw [HV.out]; rfl, rfl⟩
    · have HV : Hid (mKeyP s = false) := decide_eq_false (fun h => by omega)
      have h2 : ¬ (s.size : Int) ≤ 20 := by omega
      go_enter Tryz.func92, Tryz.ntmps92
      go_wp2
      go_ret
      exact ⟨by rw [HV.out]; rfl, rfl⟩

set_option maxHeartbeats 1000000 in
theorem metaOk_any (t : MMeta) (w : World) (h2 : t.fLo.size ≤ 9223372036854775807) (h3 : t.fHi.size ≤ 9223372036854775807) :
    Calls Tryz.prog 71 #[.agg #[.int .i64 t.fNo, .int .i64 t.fLevel, .string t.fLo, .string t.fHi]] w fun e w' => e = .returned (.bool (spanP t)) ∧ Below w.heap.size w w' := by
  have HV : Hid (spanP t = (decide (0 ≤ t.fLevel ∧ t.fLevel ≤ 3) && mKeyP t.fLo && mKeyP t.fHi && kLe t.fLo t.fHi)) := rfl
  have hbx := Bx.new w [.int .i64 t.fNo, .int .i64 t.fLevel, .string t.fLo, .string t.fHi] 49
  have y1 := hbx.2 1 _ rfl
  have y2 := hbx.2 2 _ rfl
  have y3 := hbx.2 3 _ rfl
  have HB : Hid (Below w.heap.size w (w.alloc (.cells #[.int .i64 t.fNo, .int .i64 t.fLevel, .string t.fLo, .string t.fHi] 49))) := (Below.refl _ _).alloc (Nat.le_refl _) _
  have hk1 := fun W => mkey_any t.fLo W h2
  have hk2 := fun W => mkey_any t.fHi W h3
  generalize mKeyP t.fLo = a at *
  generalize mKeyP t.fHi = b at *
  go_enter Tryz.func71, Tryz.ntmps71
  by_cases hl : 0 ≤ t.fLevel ∧ t.fLevel ≤ 3
  rotate_left
  · have HV2 : Hid (spanP t = false) := by show _ = _; rw [HV.out, decide_eq_false hl]; simp
    by_cases hl0 : 0 ≤ t.fLevel
    · have hl1 : ¬ t.fLevel ≤ 3 := fun h => hl ⟨hl0, h⟩
      go_wp2_with fail
      go_ret
      exact ⟨by rw [HV2.out]; rfl, HB.out⟩
    · go_wp2_with fail
      go_ret
      exact ⟨by rw [HV2.out]; rfl, HB.out⟩
  obtain ⟨hl0, hl1⟩ := hl
  have HV3 : Hid (spanP t = (a && b && kLe t.fLo t.fHi)) := by show _ = _; rw [HV.out, decide_eq_true (show 0 ≤ t.fLevel ∧ t.fLevel ≤ 3 from ⟨hl0, hl1⟩)]; simp
  cases a with
  | false =>
    have HV2 : Hid (spanP t = false) := by show _ = _; rw [HV3.out]; simp
    go_wp2_with fail
    refine (hk1 _).mono ?_
    rintro e w1 ⟨rfl, hw1⟩
    subst hw1
    go_wp2_with fail
    go_ret
    exact ⟨by rw [HV2.out]; rfl, HB.out⟩
  | true =>
    cases b with
    | false =>
      have HV2 : Hid (spanP t = false) := by show _ = _; rw [HV3.out]; simp
      go_wp2_with fail
      refine (hk1 _).mono ?_
      rintro e w1 ⟨rfl, hw1⟩
      subst hw1
      go_wp2_with fail
      refine (hk2 _).mono ?_
      rintro e w1 ⟨rfl, hw1⟩
      subst hw1
      go_wp2_with fail
      go_ret
      exact ⟨by rw [HV2.out]; rfl, HB.out⟩
    | true =>
      by_cases hk : kLe t.fLo t.fHi = true
      · have HV2 : Hid (spanP t = true) := by show _ = _; rw [HV3.out, hk]; rfl
        rcases kLe_yes hk with hq | hq
        · go_wp2_with fail
          refine (hk1 _).mono ?_
          rintro e w1 ⟨rfl, hw1⟩
          subst hw1
          go_wp2_with fail
          refine (hk2 _).mono ?_
          rintro e w1 ⟨rfl, hw1⟩
          subst hw1
          go_wp2_with fail
          go_ret
          exact ⟨by rw [HV2.out]; rfl, HB.out⟩
        · go_wp2_with fail
          refine (hk1 _).mono ?_
          rintro e w1 ⟨rfl, hw1⟩
          subst hw1
          go_wp2_with fail
          refine (hk2 _).mono ?_
          rintro e w1 ⟨rfl, hw1⟩
          subst hw1
          go_wp2_with fail
          go_ret
          exact ⟨by rw [HV2.out]; rfl, HB.out⟩
      · have hkf := Bool.eq_false_iff.2 hk
        have HV2 : Hid (spanP t = false) := by show _ = _; rw [HV3.out, hkf]; rfl
        obtain ⟨hq1, hq2⟩ := kLe_no hkf
        go_wp2_with fail
        refine (hk1 _).mono ?_
        rintro e w1 ⟨rfl, hw1⟩
        subst hw1
        go_wp2_with fail
        refine (hk2 _).mono ?_
        rintro e w1 ⟨rfl, hw1⟩
        subst hw1
        go_wp2_with fail
        go_ret
        exact ⟨by rw [HV2.out]; rfl, HB.out⟩

theorem all_take {α : Type} {f : α → Bool} {l : List α} {k : Nat} (h : k < l.length) : (l.take (k + 1)).all f = ((l.take k).all f && f l[k]) := by
  rw [List.take_succ_eq_append_getElem h, List.all_append]; simp
theorem all_bad {α : Type} {f : α → Bool} {l : List α} {k : Nat} (h : k < l.length) (hb : f l[k] = false) : l.all f = false := by
  rw [List.all_eq_false]; exact ⟨l[k], List.getElem_mem h, by rw [hb]; simp⟩

set_option maxHeartbeats 4000000 in
theorem liesApart_any (t : MMeta) (a : Option Addr) (n c : Nat) (l : List MMeta) (w : World) (hx : l.length = n) (hn : n ≤ 1048576) (hL : LeafL 4 rMeta w.heap.size w a c l) :
    Calls Tryz.prog 72 #[.agg #[.int .i64 t.fNo, .int .i64 t.fLevel, .string t.fLo, .string t.fHi], .slice a n c] w fun e w' => e = .returned (.bool (apartI t l)) ∧ Below w.heap.size w w' := by
  have HX := Hid.mk hx
  have HL := Hid.mk hL
  have HV : Hid (apartI t l = (decide (t.fLevel = 0) || l.all (fun o => !(decide (o.fLevel = t.fLevel) && reachP o t.fLo t.fHi)))) := rfl
  obtain ⟨f, hf⟩ : ∃ f : MMeta → Bool, f = (fun o => !(decide (o.fLevel = t.fLevel) && reachP o t.fLo t.fHi)) := ⟨_, rfl⟩
  rw [← hf] at HV
  have HF := Hid.mk hf
  clear hx hL hf
  go_enter Tryz.func72, Tryz.ntmps72
  obtain ⟨wq, hwq⟩ : ∃ wq, wq = w.alloc (.cells #[.int .i64 t.fNo, .int .i64 t.fLevel, .string t.fLo, .string t.fHi] 49) := ⟨_, rfl⟩
  have hbq : Below w.heap.size w wq := by rw [hwq]; exact (Below.refl _ _).alloc (Nat.le_refl _) _
  have hbx : Bx wq w.heap.size [.int .i64 t.fNo, .int .i64 t.fLevel, .string t.fLo, .string t.fHi] := by rw [hwq]; exact Bx.new _ _ _
  by_cases h0 : t.fLevel = 0
  · have HV2 : Hid (apartI t l = true) := by show _ = _; rw [HV.out, decide_eq_true h0]; rfl
    have y1 := hbx.2 1 _ rfl
    rw [h0] at y1
    go_wp2_with fail
    go_ret
    exact ⟨by rw [HV2.out]; rfl, (Below.refl _ _).alloc (Nat.le_refl _) _⟩
  have HV2 : Hid (apartI t l = l.all f) := by show _ = _; rw [HV.out, decide_eq_false h0]; rfl
  clear HV
  have y1 := hbx.2 1 _ rfl
  rw [hwq] at y1
  go_wp2_with fail
  rw [← hwq]
  simp only [show (t.fLevel == 0) = false from by simpa using h0]
  clear y1 hwq h0
  go_loopw [12] (fun i wr => ∃ k : Nat, k ≤ n ∧ i = .int .i64 k ∧ Hid ((l.take k).all f = true) ∧ Below wq.heap.size wq wr) (fun i _ => n - (intOf i).toNat)
  case atStart => exact ⟨0, Nat.zero_le _, rfl, rfl, Below.refl _ _⟩
  case round =>
    obtain ⟨k, hk, rfl, HI, hbk⟩ := hrel
    have hbw := bthen hbq hbk
    have hbz := hbw.size
    by_cases hlt : k < n
    · have hkl : k < l.length := by rw [HX.out]; exact hlt
      obtain ⟨b1, o1, rfl, hB, cs, hcl, hcell, rfl, g0, g1, g2, g3, _⟩ := (HL.out.2.2.below rMeta_good hbw) k hkl
      have hB' : b1 < wr.heap.size := by omega
      have k0 := hcell 0 _ rfl
      have k1 := hcell 1 _ rfl
      have k2 := hcell 2 _ rfl
      have k3 := hcell 3 _ rfl
      rw [Nat.add_zero] at k0
      have HT : Hid (f l[k] = true → (l.take (k + 1)).all f = true) := fun h => by rw [all_take hkl, HI.out, h]; rfl
      have HBad : Hid (f l[k] = false → apartI t l = false) := fun h => by rw [HV2.out]; exact all_bad hkl h
      have HFk : Hid (f l[k] = !(decide (l[k].fLevel = t.fLevel) && reachP l[k] t.fLo t.fHi)) := by show _ = _; rw [HF.out]
      clear hcell hcl
      generalize f l[k] = fk at *
      generalize l[k] = x at *
      have hbxr := hbx.under hbk
      have t1 := hbxr.2 1 _ rfl
      have t2 := hbxr.2 2 _ rfl
      have t3 := hbxr.2 3 _ rfl
      have hlr := hbxr.1
      by_cases hv : x.fLevel = t.fLevel
      · have HF2 : Hid (fk = !reachP x t.fLo t.fHi) := by show _ = _; rw [HFk.out, decide_eq_true hv]; rfl
        have hC := fun W => reaches_any x t.fLo t.fHi W
        rw [hv] at k1
        simp only [hv] at hC
        clear hv HFk
        generalize reachP x t.fLo t.fHi = rc at *
        go_wp2_with fail
        refine (hC _).mono ?_
        rintro e w2 ⟨rfl, hx2⟩
        have hb2 := bthen hbk (bthen ((Below.refl _ _).alloc (Nat.le_refl _) _) hx2)
        clear hC t1 t2 t3 hx2
        cases rc with
        | false =>
          have HD := HT.out HF2.out
          go_wp2_with fail
          go_roundw
          case rel => exact ⟨k + 1, by omega, by go_num, HD, hb2⟩
          case measure => simp [intOf]; omega
        | true =>
          have HD := Hid.mk (HBad.out HF2.out)
          go_wp2_with fail
          go_ret
          exact ⟨by rw [HD.out]; rfl, bthen hbq hb2⟩
      · have HF2 : Hid (fk = true) := by show _ = _; rw [HFk.out, decide_eq_false hv]; rfl
        have HD := Hid.mk (HT.out HF2.out)
        go_wp2_with fail
        go_roundw
        case rel => exact ⟨k + 1, by omega, by go_num, HD, bthen hbk ((Below.refl _ _).alloc (Nat.le_refl _) _)⟩
        case measure => simp [intOf]; omega
    · have HD : Hid (apartI t l = true) := by show _ = _; rw [HV2.out]; have h := HI.out; rw [show k = l.length by rw [HX.out]; omega, List.take_length] at h; exact h
      go_wp2_with fail
      go_ret
      exact ⟨by rw [HD.out]; rfl, hbw⟩

end Go.Proofs.YtnohnkcijomdjaaGreatDoor
