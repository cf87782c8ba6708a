/-
  Part 6 of the texts that the proof leans on.
-/
import Derived.Test.YtmigamgcmhdncaaDoorStb4
import Derived.Lib.AppendZerosOnto
import Derived.Test.YtmigamgcmhdncaaDoorRows
import Derived.Test.YtmigamgcmhdncaaDoorStb0
import Derived.Test.YtmigamgcmhdncaaDoorStb1
import Derived.Test.YtmigamgcmhdncaaDoorChecked
set_option linter.unusedVariables false
set_option linter.unusedSimpArgs false
set_option maxRecDepth 10000

namespace Go.Proofs.YtmigamgcmhdncaaDoor
open Go.RowKit

/-- A part of a list that is read. -/
theorem LeafL.part {α : Type} {size : Nat} {R : Rep α} {B : Nat} {w : World} {b o c : Nat} {l : List α} (h : LeafL size R B w (some ⟨b, o, none⟩) c l) {f m c' : Nat} (hf : f + m ≤ l.length) (hm : m ≤ c') (hc : c' ≤ 9223372036854775807) :
    LeafL size R B w (some ⟨b, o + f * size, none⟩) c' ((l.drop f).take m) := by
  have hl : ((l.drop f).take m).length = m := by simp; omega
  refine ⟨by omega, hc, fun j hj => ?_⟩
  rw [hl] at hj
  obtain ⟨b1, o1, e, hb, cs, h1, h2, h3⟩ := h.2.2 (f + j) (by omega)
  simp only [Option.some.injEq, Addr.mk.injEq, and_true] at e
  obtain ⟨rfl, rfl⟩ := e
  refine ⟨b, o + f * size, rfl, hb, cs, h1, fun i u hu => ?_, ?_⟩
  · have := h2 i u hu
    rw [← this]
    congr 2
    rw [Nat.add_mul]
    omega
  · have e : ((l.drop f).take m)[j]'(by rw [hl]; exact hj) = l[f + j] := by simp
    rw [e]
    exact h3


/-- A list of structs that is read, as what is appended. -/
theorem Src.any {α : Type} {size : Nat} {R : Rep α} (h1c : ∀ B w cs m, R B w cs m → ∀ u, u ∈ cs → u.oneCell' = true) {P : Program} {w : World} {B : Nat} {a : Option Addr} {l : List α} {tx e' : TypeId} {n c : Nat} (hk : P.underlying tx = some (.slice e')) (hn : l.length = n) (hr : RdS size R B w a l) :
    ∃ css : List (List Value), css.length = l.length ∧ (∀ c, c ∈ css → c.length = size) ∧ (∀ j, (h1 : j < l.length) → (h2 : j < css.length) → R B w css[j] l[j]) ∧ Src P size tx (.slice a n c) n css.flatten w := by
  cases a with
  | none =>
    have hz : l = [] := by
      cases l with
      | nil => rfl
      | cons z r =>
        obtain ⟨_, _, h, _⟩ := hr 0 (by simp)
        cases h
    subst hz
    simp only [List.length_nil] at hn
    subst hn
    exact ⟨[], rfl, (fun _ h => by cases h), (fun _ h => by simp at h), Src.ofNil w hk c⟩
  | some ad =>
    by_cases h0 : n = 0
    · subst h0
      have hz : l = [] := List.eq_nil_of_length_eq_zero hn
      subst hz
      exact ⟨[], rfl, (fun _ h => by cases h), (fun _ h => by simp at h), Src.ofSlice w hk ad 0 c [] (by simp) (fun j u hu => by simp at hu) (fun u hu => by cases hu)⟩
    · obtain ⟨b, off, e, _⟩ := hr 0 (by omega)
      simp only [Option.some.injEq] at e
      subst e
      obtain ⟨css, c1, c2, c3, c4⟩ := hr.cells l.length (Nat.le_refl _)
      have hfl := flat_len c2
      refine ⟨css, c1, c2, c3, Src.ofSlice w hk ⟨b, off, none⟩ n c css.flatten (by rw [hfl, c1, hn]) (fun j u hu => by rw [Addr.add_lit]; exact c4 j u hu) ?_⟩
      intro v hv
      obtain ⟨cs, hcs, hvc⟩ := List.mem_flatten.1 hv
      obtain ⟨j, hj, rfl⟩ := List.mem_iff_getElem.1 hcs
      exact h1c _ _ _ _ (c3 j (by omega) hj) v hvc

/-- A row of one's own, and what was appended. -/
theorem RowR.cat {α : Type} {size : Nat} {e : TypeId} {R : Rep α} (hR : R.Good) {B : Nat} {w w' : World} {base : Nat} {v' : Value} {l1 l2 : List α} {c1 c2 : List (List Value)}
    (a1 : c1.length = l1.length) (a2 : ∀ c, c ∈ c1 → c.length = size) (a3 : ∀ j, (h1 : j < l1.length) → (h2 : j < c1.length) → R B w c1[j] l1[j])
    (b1 : c2.length = l2.length) (b2 : ∀ c, c ∈ c2 → c.length = size) (b3 : ∀ j, (h1 : j < l2.length) → (h2 : j < c2.length) → R B w c2[j] l2[j]) (hb : Below B w w')
    (ho : w'.ownsRow base e size v' (l1.length + l2.length) (c1.flatten ++ c2.flatten)) : RowR size e R B w' base v' (l1 ++ l2) := by
  refine ⟨c1 ++ c2, by simp [a1, b1], fun c hc => (List.mem_append.1 hc).elim (a2 c) (b2 c), fun j h1 h2 => ?_, by simpa using ho⟩
  refine hR.below ?_ hb
  by_cases hj : j < l1.length
  · rw [List.getElem_append_left (by omega), List.getElem_append_left hj]
    exact a3 j hj (by omega)
  · simp only [List.length_append] at h1 h2
    rw [List.getElem_append_right (by omega), List.getElem_append_right (by omega)]
    have h := b3 (j - l1.length) (by omega) (by omega)
    simpa [a1] using h

theorem wpList_append_src_y {P : Program} {w : World} {ops : Array Oper} {rest : List Oper} {o : Oper} {a : Act} {Q : Exit → Act → World → Prop} (hgd : o.guard = none) (s x : Operand) (t tx : TypeId)
    (ho : o.op = .call { callee := .builtin .append, args := #[s, x], argTypes := #[t, tx] })
    (base : Nat) (e : TypeId) (i : TypeInfo) (z : Value) (size bytes : Nat) (ht : P.underlying t = some (.slice e)) (hi : P.info? e = some i) (hz : i.zero = some z)
    (hsize : i.size = size) (hby : i.bytes = bytes) (hzs : z.cells.size = size)
    (v : Value) (n : Nat) (xs : List Value) (hs : a.eval s = v) (hown : w.ownsRow base e size v n xs)
    (y : Value) (hy : a.eval x = y) (m : Nat) (news : List Value) (hx : Src P size tx y m news w)
    (h63 : n + m ≤ maxLen) (hbytes : (n + m) * bytes ≤ 140737488355328) (hbase : base ≤ w.heap.size)
    (h : ∀ v' w', w'.ownsRow base e size v' (n + m) (xs ++ news) → w.grownBy w' v.ownBlock → (v'.ownBlock = v.ownBlock ∨ v'.ownBlock = some w.heap.size) → wpList P ops Q rest (a.put o.dst v') w') :
    wpList P ops Q (o :: rest) a w := by
  refine wpList_plain hgd fun K hK => ?_
  obtain ⟨v', w', hr, h2, h3, h4⟩ := run_append_src_at (P := P) w base t tx o.type e i z size bytes ht hi hz hsize hby hzs v n xs hown y m news hx h63 hbytes hbase
  unfold Oper.wp execOp
  simp only [ho, resolve, invoke, builtin, Sem.run_bind, Sem.run_pure, Result.andThen_ok, List.map_toArray, List.map_cons, List.map_nil, hs, hy, hr]
  exact hK _ _ (h v' w' h2 h3 h4)

theorem run_append_zeros {P : Program} (w : World) (t tn ty e : TypeId) (i : TypeInfo) (z : Value) (kq kn : IntKind) (ht : P.underlying t = some (.slice e)) (htn : P.underlying tn = some (.int kn)) (hi : P.info? e = some i) (hz : i.zero = some z)
    (size bytes : Nat) (hsize : i.size = size) (hby : i.bytes = bytes) (hzs : z.cells.size = size) (k : Nat) (h0 : 0 < k) (hs : 0 < size) (h63 : k ≤ maxLen) (hbytes : k * bytes ≤ 140737488355328) (base : Nat) (hbase : base ≤ w.heap.size) :
    ∃ cap w', (Builtin.append_ #[t, tn] ty #[.slice none 0 0, .int kq k]).run P w = .ok (.slice (some ⟨w.heap.size, 0, none⟩) k cap) w' ∧ k ≤ cap ∧ w'.ownsRow base e size (.slice (some ⟨w.heap.size, 0, none⟩) 0 cap) 0 [] ∧ Below w.heap.size w w' := by
  subst hsize
  subst hby
  have hk63 : k ≤ 9223372036854775807 := by simp only [maxLen] at h63; omega
  have hr := Lib.run_append_grow_zeros (P := P) w t tn ty e i z kq kn ht htn hi hz none 0 0 [] (run_firstCells_none w.drew i.size 0 0 0) k h0 hs (by omega) (by omega) (by omega) (growslice_fits (by omega) (by simpa using hbytes))
  rw [Nat.zero_add] at hr
  have hge := grownCap_ge w k 0 e
  have hcm : grownCap w k 0 e ≤ maxLen := grownCap_le_maxLen w k 0 e h63
  refine ⟨_, _, hr, hge, ⟨by simp, .inr ⟨w.heap.size, _, _, rfl, hbase, heap_alloc_new w.drew _, Nat.zero_le _, hcm, ?_, by simp⟩⟩, Below.drew (Below.refl _ _) |>.alloc (Nat.le_refl _) _⟩
  rw [Array.size_append, Array.size_append, size_zeroCells, size_zeroCells, hzs]
  have e0 : (#[] : Array Value).size = 0 := rfl
  show (#[] : Array Value).size + k * i.size + (grownCap w k 0 e - k) * i.size = _
  rw [e0, Nat.zero_add, ← Nat.add_mul]
  congr 1
  omega

theorem wpList_append_zeros {P : Program} {w : World} {ops : Array Oper} {rest : List Oper} {o : Oper} {a : Act} {Q : Exit → Act → World → Prop} (hgd : o.guard = none) (s x : Operand) (t tn : TypeId)
    (ho : o.op = .call { callee := .builtin .append, args := #[s, x], argTypes := #[t, tn] }) (e : TypeId) (i : TypeInfo) (z : Value) (kq kn : IntKind) (ht : P.underlying t = some (.slice e)) (htn : P.underlying tn = some (.int kn)) (hi : P.info? e = some i) (hz : i.zero = some z)
    (size bytes : Nat) (hsize : i.size = size) (hby : i.bytes = bytes) (hzs : z.cells.size = size) (k : Nat) (h0 : 0 < k) (hs : 0 < size) (h63 : k ≤ maxLen) (hbytes : k * bytes ≤ 140737488355328) (base : Nat) (hbase : base ≤ w.heap.size)
    (hes : a.eval s = .slice none 0 0) (hex : a.eval x = .int kq k)
    (h : ∀ cap w', k ≤ cap → w'.ownsRow base e size (.slice (some ⟨w.heap.size, 0, none⟩) 0 cap) 0 [] → Below w.heap.size w w' → wpList P ops Q rest (a.put o.dst (.slice (some ⟨w.heap.size, 0, none⟩) k cap)) w') : wpList P ops Q (o :: rest) a w := by
  refine wpList_plain hgd fun K hK => ?_
  obtain ⟨cap, w', hr, h1, h2, h3⟩ := run_append_zeros (P := P) w t tn o.type e i z kq kn ht htn hi hz size bytes hsize hby hzs k h0 hs h63 hbytes base hbase
  unfold Oper.wp execOp
  simp only [ho, resolve, invoke, builtin, Sem.run_bind, Sem.run_pure, Result.andThen_ok, List.map_toArray, List.map_cons, List.map_nil, hes, hex, hr]
  exact hK _ _ (h cap w' h1 h2 h3)


structure Half {α : Type} (size : Nat) (e : TypeId) (O : ORep α) (R : Rep α) (B : Nat) (w : World) (g cap : Nat) (l : List α) (k : Nat) (Fs : List (List Nat)) : Prop where
  row : ∃ cur : Array Value, w.heap[g]? = some (.cells cur e (0, 0)) ∧ cur.size = cap * size ∧ (∀ j, (h : j < l.length) → j < k → O w (seg size cur j) l[j] (Fs.getD j [])) ∧ ∀ j, (h : j < l.length) → k ≤ j → R B w (seg size cur j) l[j] ∧ (seg size cur j).length = size
  le : l.length ≤ cap
  max : cap ≤ maxLen
  flen : Fs.length = k
  over : ∀ b, b ∈ Fs.flatten → g < b ∧ b < w.heap.size
  nodup : Fs.flatten.Nodup

theorem Half.start {α : Type} {size : Nat} {e : TypeId} {O : ORep α} {R : Rep α} {B : Nat} {w : World} {base g cap : Nat} {l : List α} (h : RowR size e R B w base (.slice (some ⟨g, 0, none⟩) l.length cap) l) : Half size e O R B w g cap l 0 [] ∧ base ≤ g ∧ g < w.heap.size := by
  obtain ⟨css, h1, h2, h3, h4⟩ := h
  rcases h4.2 with ⟨hv, _⟩ | ⟨g', cap', cur, hv, hb, hg, hnc, hm, hs, ht⟩
  · cases hv
  · simp only [Value.slice.injEq, Option.some.injEq, Addr.mk.injEq, and_true, true_and] at hv
    obtain ⟨rfl, rfl⟩ := hv
    refine ⟨⟨⟨cur, hg, hs, fun j hj hk => by omega, fun j hj _ => ?_⟩, hnc, hm, rfl, fun b hb => by simp at hb, by simp⟩, hb, (Array.getElem?_eq_some_iff.1 hg).1⟩
    have hj2 : j < css.length := by omega
    have hmul : (j + 1) * size ≤ l.length * size := Nat.mul_le_mul_right _ hj
    rw [Nat.succ_mul] at hmul
    have e0 : seg size cur j = css[j] := by
      unfold seg
      rw [← flat_part h2 hj2, ← ht]
      apply List.ext_getElem?
      intro i
      rw [List.getElem?_take, List.getElem?_take, List.getElem?_drop, List.getElem?_drop, List.getElem?_take]
      by_cases hi : i < size
      · rw [if_pos hi, if_pos hi, if_pos (by omega)]
      · rw [if_neg hi, if_neg hi]
    rw [e0]
    exact ⟨h3 j hj hj2, h2 _ (List.getElem_mem hj2)⟩

theorem Half.at {α : Type} {size : Nat} {e : TypeId} {O : ORep α} {R : Rep α} {B : Nat} {w : World} {g cap : Nat} {l : List α} {k : Nat} {Fs : List (List Nat)} (h : Half size e O R B w g cap l k Fs) (hk : k < l.length) :
    ∃ cs, R B w cs l[k] ∧ cs.length = size ∧ (∀ i u, cs[i]? = some u → w.cell? ⟨g, k * size + i, none⟩ = some u) ∧ (∀ i, w.frozen? ⟨g, i, none⟩ = false) ∧
      ∀ (w1 : World) (i : Nat) (u : Value) (F : List Nat), B ≤ g → g < w.heap.size → Below w.heap.size w w1 → i < size → R.Good → O.Good R size → O w1 (cs.set i u) l[k] F → F.Nodup → (∀ b, b ∈ F → w.heap.size ≤ b) → B ≤ w.heap.size → Half size e O R B (w1.setCell ⟨g, k * size + i, none⟩ u) g cap l (k + 1) (Fs ++ [F]) := by
  obtain ⟨⟨cur, c1, c2, c3, c4⟩, hle, hmax, f1, f2, f3⟩ := h
  refine ⟨seg size cur k, (c4 k hk (Nat.le_refl _)).1, (c4 k hk (Nat.le_refl _)).2, ?_, fun i => frozen_of_row w g i cur e c1, ?_⟩
  · intro i u hu
    rw [cell_of_row w g _ cur e (0, 0) c1]
    have hi : i < size := by
      have h1 := (List.getElem?_eq_some_iff.1 hu).1
      rw [(c4 k hk (Nat.le_refl _)).2] at h1
      exact h1
    rw [seg_get hi] at hu
    exact hu
  · intro w1 i u F hBg hg hb hi hR hO ho hN hF hBw
    have c1' : w1.heap[g]? = some (.cells cur e (0, 0)) := by rw [hb.block g hg]; exact c1
    have hbk : ∀ b, b ≠ g → (w1.setCell ⟨g, k * size + i, none⟩ u).heap[b]? = w1.heap[b]? := fun b hne => heap_setCell_other w1 ⟨g, k * size + i, none⟩ b u hne
    have hBl : Below B w (w1.setCell ⟨g, k * size + i, none⟩ u) := (hb.mono hBw).setCell hBg u
    refine ⟨⟨cur.setIfInBounds (k * size + i) u, heap_setCell_same w1 g _ cur e u c1', by simpa using c2, ?_, ?_⟩, hle, hmax, by simp [f1], ?_, ?_⟩
    · intro j hj hjk
      by_cases hje : j = k
      · subst hje
        rw [seg_set hi]
        have e2 : (Fs ++ [F]).getD j [] = F := by rw [List.getD_eq_getElem?_getD, List.getElem?_append_right (by omega), f1, Nat.sub_self]; rfl
        rw [e2]
        exact hO.frame ho (fun b hb' => hbk b (by have := hF b hb'; omega))
      · have hlt : j < k := by omega
        rw [seg_set_other hi hje]
        have e2 : (Fs ++ [F]).getD j [] = Fs.getD j [] := by rw [List.getD_eq_getElem?_getD, List.getD_eq_getElem?_getD, List.getElem?_append_left (by omega)]
        rw [e2]
        refine hO.frame (c3 j hj hlt) (fun b hb' => ?_)
        have h2 := f2 b (mem_flatten_getD (by omega) hb')
        rw [hbk b (by omega), hb.block b h2.2]
    · intro j hj hjk
      rw [seg_set_other hi (by omega)]
      exact ⟨hR.below (c4 j hj (by omega)).1 hBl, (c4 j hj (by omega)).2⟩
    · intro b hbF
      rw [List.flatten_append, List.mem_append] at hbF
      have hsz : (w1.setCell ⟨g, k * size + i, none⟩ u).heap.size = w1.heap.size := by simp
      rw [hsz]
      rcases hbF with hbF | hbF
      · have := f2 b hbF; have := hb.size; omega
      · have hbF : b ∈ F := by simpa using hbF
        have h1 := hF b hbF; have h2 := hO.lt ho b hbF; omega
    · rw [List.flatten_append]
      refine List.nodup_append.2 ⟨f3, by simpa using hN, ?_⟩
      intro a ha b hb' hab
      subst hab
      have h1 := f2 a ha
      have h2 := hF a (by simpa using hb')
      omega

theorem Half.done {α : Type} {size : Nat} {e : TypeId} {O : ORep α} {R : Rep α} {B : Nat} {w : World} {g cap : Nat} {l : List α} {k : Nat} {Fs : List (List Nat)} (h : Half size e O R B w g cap l k Fs) (hk : l.length ≤ k) (hkl : k ≤ l.length) :
    ownS size e O w (.slice (some ⟨g, 0, none⟩) l.length cap) l (g :: Fs.flatten) ∧ (g :: Fs.flatten).Nodup := by
  obtain ⟨⟨cur, c1, c2, c3, c4⟩, hle, hmax, f1, f2, f3⟩ := h
  refine ⟨.inr ⟨g, cap, cur, Fs, rfl, c1, hle, hmax, c2, by omega, fun j hj => c3 j hj (by omega), rfl⟩, List.nodup_cons.2 ⟨fun hm => ?_, f3⟩⟩
  have := f2 g hm
  omega


theorem Tryd.infoOfDot : (Tryd.prog.info? 40).map (fun i => (i.zero, i.size, i.bytes)) = some (some (.agg #[.int .i64 0, .int .i64 0]), 2, 16) := by kernel_rfl

theorem Tryd.infoOfItem : (Tryd.prog.info? 52).map (fun i => (i.zero, i.size, i.bytes)) = some (some (.agg #[.int .i64 0, .int .i64 0, .slice none 0 0]), 3, 40) := by kernel_rfl


theorem oneItem (B : Nat) (w : World) (cs : List Value) (m : MItem) (h : rItem B w cs m) : ∀ u, u ∈ cs → u.oneCell' = true := by
  obtain ⟨a2, c2, rfl, _⟩ := h
  intro u hu
  simp at hu
  rcases hu with rfl | rfl | rfl <;> rfl
def lenItem (s : Option Addr × Nat × List MItem) : Nat := s.2.2.length
def catItem (ss : List (Option Addr × Nat × List MItem)) : List MItem := (ss.map (fun s => s.2.2)).flatten
theorem catItem_length (ss : List (Option Addr × Nat × List MItem)) : (catItem ss).length = sumW lenItem ss := by
  induction ss with
  | nil => rfl
  | cons a t ih => simp only [catItem, List.map_cons, List.flatten_cons, List.length_append, sumW] at ih ⊢; rw [ih]; rfl
theorem catItem_take {ss : List (Option Addr × Nat × List MItem)} {k : Nat} (h : k < ss.length) : catItem (ss.take (k + 1)) = catItem (ss.take k) ++ ss[k].2.2 := by
  unfold catItem
  rw [List.take_succ_eq_append_getElem h, List.map_append, List.flatten_append]
  simp

set_option maxHeartbeats 1000000 in
theorem growItem_any (n : Nat) (hn : n ≤ 16777216) (w : World) :
    Calls Tryd.prog 85 #[.slice none 0 0, .int .i64 n] w fun e w' => ∃ v, e = .returned v ∧ w'.ownsRow w.heap.size 52 3 v 0 [] ∧ Below w.heap.size w w' := by
  obtain ⟨iT, hiT, hz0, hz1, hz2⟩ := info_parts Tryd.infoOfItem
  have h0 : ¬ (n : Int) < 0 := by omega
  by_cases hz : n = 0
  · subst hz
    go_enter Tryd.func85, Tryd.ntmps85
    go_wp2_with fail
    go_ret
    exact ⟨_, rfl, World.ownsRow_nil _ _ _ _, Below.refl _ _⟩
  · have hp : (0 : Int) < (n : Int) := by omega
    go_enter Tryd.func85, Tryd.ntmps85
    go_wp2_with (at_builtin; refine wpList_append_zeros rfl _ _ 28 3 rfl 52 iT (.agg #[.int .i64 0, .int .i64 0, .slice none 0 0]) .i64 .i64 Tryd.underlying28 Tryd.underlying3 hiT hz0 3 40 hz1 hz2 rfl n (by omega) (by decide) (by unfold maxLen; omega) (by omega) w.heap.size (Nat.le_refl _) rfl rfl ?_; intro cap w1 hcap hown hb1)
    go_ret
    exact ⟨_, rfl, hown, hb1⟩

set_option maxHeartbeats 4000000 in
theorem concatItem_any (g m : Nat) (ss : List (Option Addr × Nat × List MItem)) (w : World) (hs : ss.length = m) (hm : m ≤ 1048576) (hg : g < w.heap.size)
    (hc : ∀ i, (h : i < ss.length) → w.cell? ⟨g, i, none⟩ = some (.slice ss[i].1 ss[i].2.2.length ss[i].2.1)) (hr : ∀ i, (h : i < ss.length) → LeafL 3 rItem w.heap.size w ss[i].1 ss[i].2.1 ss[i].2.2) (hw : sumW lenItem ss ≤ 8388608) :
    Calls Tryd.prog 60 #[.slice (some ⟨g, 0, none⟩) m m] w fun e w' => ∃ v, e = .returned v ∧ RowR 3 52 rItem w.heap.size w' w.heap.size v (catItem ss) ∧ Below w.heap.size w w' := by
  obtain ⟨iT, hiT, hz0, hz1, hz2⟩ := info_parts Tryd.infoOfItem
  have HX := Hid.mk hs
  have HC := Hid.mk hc
  have HR := Hid.mk hr
  have HW := Hid.mk hw
  clear hs hc hr hw
  go_enter Tryd.func60, Tryd.ntmps60
  go_wp2_with fail
  go_loopw [3, 11] (fun x i wr => ∃ k : Nat, k ≤ m ∧ i = .int .i64 k ∧ x = .int .i64 (sumW lenItem (ss.take k) : Nat) ∧ wr = w) (fun _ i _ => m - (intOf i).toNat)
  case atStart => exact ⟨0, Nat.zero_le _, rfl, rfl, rfl⟩
  case round =>
    obtain ⟨k, hk, rfl, rfl, hwr⟩ := hrel
    replace hwr := hwr.symm
    subst hwr
    by_cases hlt : k < m
    · have hkl : k < ss.length := by rw [HX.out]; exact hlt
      have k0 := HC.out k hkl
      have HS := Hid.mk (sumW_take_succ (f := lenItem) hkl)
      have HLe : Hid (sumW lenItem (ss.take (k + 1)) ≤ 8388608) := Hid.mk (Nat.le_trans (sumW_take_le lenItem ss (k + 1)) HW.out)
      have HLk : Hid (lenItem ss[k] = ss[k].2.2.length) := rfl
      generalize ss[k] = s at *
      obtain ⟨aa, ca, la⟩ := s
      simp only at k0 HLk
      have hbd : sumW lenItem (ss.take k) + la.length ≤ 8388608 := by have h1 := HS.out; have h2 := HLe.out; have h3 := HLk.out; omega
      have HS2 : Hid (sumW lenItem (ss.take (k + 1)) = sumW lenItem (ss.take k) + la.length) := by unfold Hid; rw [HS.out, HLk.out]
      clear HS HLe HLk
      generalize sumW lenItem (ss.take k) = t at *
      have hng : ¬ ((t : Int) + (la.length : Int)) < 0 := by omega
      go_wp2_with fail
      go_roundw
      case rel => exact ⟨k + 1, by omega, by go_num, by rw [HS2.out]; go_num, by trivial⟩
      case measure => simp [intOf]; omega
    · have hkm : k = m := by omega
      have HT : Hid (ss.take k = ss) := List.take_of_length_le (by rw [HX.out]; omega)
      rw [HT.out]
      have hw := HW.out
      have HTL : Hid (sumW lenItem ss = sumW lenItem ss) := rfl
      generalize sumW lenItem ss = tt at hw ⊢
      go_wp2_with fail
      refine (growItem_any tt (by omega) w).mono ?_
      rintro e w1 ⟨v1, rfl, ho1, hb1⟩
      have HRow : Hid (RowR 3 52 rItem w.heap.size w1 w.heap.size v1 (catItem (ss.take 0))) := ⟨[], rfl, (fun _ h => by cases h), (fun _ h => by simp [catItem] at h), by simpa [catItem] using ho1⟩
      clear ho1 hw HT hkm hlt hk
      go_wp2_with fail
      go_loopw [6, 27] (fun v i wr => ∃ k : Nat, k ≤ m ∧ i = .int .i64 k ∧ Hid (RowR 3 52 rItem w.heap.size wr w.heap.size v (catItem (ss.take k))) ∧ Below w.heap.size w wr) (fun _ i _ => m - (intOf i).toNat)
      case atStart => exact ⟨0, Nat.zero_le _, rfl, HRow, hb1⟩
      case round =>
        obtain ⟨q, hq, rfl, HRq, hbq⟩ := hrel
        have hbz := hbq.size
        by_cases hlt : q < m
        · have hql : q < ss.length := by rw [HX.out]; exact hlt
          have k0 := (hbq.cell (p := ⟨g, q, none⟩) hg).trans (HC.out q hql)
          have HLq := Hid.mk ((HR.out q hql).below rItem_good hbq)
          have HS := Hid.mk (catItem_take hql)
          have HN := Hid.mk (catItem_length (ss.take (q + 1)))
          have HLe : Hid (sumW lenItem (ss.take (q + 1)) ≤ 8388608) := Hid.mk (Nat.le_trans (sumW_take_le lenItem ss (q + 1)) HW.out)
          generalize ss[q] = s at *
          obtain ⟨aa, ca, la⟩ := s
          simp only at k0 HLq HS
          have hbd : (catItem (ss.take q)).length + la.length ≤ 8388608 := by have h1 := HN.out; have h2 := HLe.out; rw [HS.out, List.length_append] at h1; omega
          clear HN HLe
          generalize catItem (ss.take q) = lq at *
          obtain ⟨css, r1, r2, r3, r4⟩ := HRq.out
          obtain ⟨s1, u1, u2, u3, u4⟩ := Src.any oneItem (P := Tryd.prog) (n := la.length) (c := ca) Tryd.underlying28 rfl HLq.out.2.2
          have HR1 := Hid.mk r1
          have HR2 := Hid.mk r2
          have HR3 := Hid.mk r3
          have HU1 := Hid.mk u1
          have HU2 := Hid.mk u2
          have HU3 := Hid.mk u3
          clear r1 r2 r3 u1 u2 u3 HRq
          go_wp2_with (at_builtin; refine wpList_append_src_y rfl _ _ 28 28 rfl w.heap.size 52 iT (.agg #[.int .i64 0, .int .i64 0, .slice none 0 0]) 3 40 Tryd.underlying28 hiT hz0 hz1 hz2 rfl _ _ _ rfl r4 _ rfl _ s1.flatten u4 (by unfold maxLen; omega) (by omega) hbz ?_; intro v2 w2 ho2 hgr2 hat2)
          have hB2 := hbq.grown hgr2 hbz (fun k h => (r4.lt k h).1)
          have hBz : Below w.heap.size wr w2 := (Below.refl _ _).grown hgr2 hbz (fun k h => (r4.lt k h).1)
          have HF : Hid (RowR 3 52 rItem w.heap.size w2 w.heap.size v2 (lq ++ la)) := RowR.cat rItem_good HR1.out HR2.out HR3.out HU1.out HU2.out HU3.out hBz ho2
          rw [← HS.out] at HF
          clear r4 u4 ho2 hgr2 hat2
          go_wp2_with fail
          go_roundw
          case rel => exact ⟨q + 1, by omega, by go_num, HF, hB2⟩
          case measure => simp [intOf]; omega
        · have HT : Hid (ss.take q = ss) := List.take_of_length_le (by rw [HX.out]; omega)
          rw [HT.out] at HRq
          go_wp2_with fail
          go_ret
          exact ⟨_, rfl, HRq.out, hbq⟩


theorem oneDot (B : Nat) (w : World) (cs : List Value) (m : MDot) (h : rDot B w cs m) : ∀ u, u ∈ cs → u.oneCell' = true := by
  obtain ⟨rfl, _⟩ := h
  intro u hu
  simp at hu
  rcases hu with rfl | rfl <;> rfl
theorem dots_own {B base elem : Nat} {w : World} {v : Value} {l : List MDot} (h : RowR 2 elem rDot B w base v l) : ownS 2 elem oDot w v l v.ownBlock.toList ∧ v.ownBlock.toList.Nodup ∧ ∀ b, b ∈ v.ownBlock.toList → base ≤ b := by
  obtain ⟨css, h1, h2, h3, h4⟩ := h
  have hge : ∀ b, b ∈ v.ownBlock.toList → base ≤ b := fun b hb => (h4.lt b (by simpa using hb)).1
  refine ⟨?_, by cases v.ownBlock <;> simp, hge⟩
  rcases h4.2 with ⟨rfl, h0⟩ | ⟨g, cap, cur, rfl, hb, hg, hnc, hm, hs, ht⟩
  · exact .inl ⟨rfl, List.eq_nil_of_length_eq_zero h0, rfl⟩
  · refine .inr ⟨g, cap, cur, List.replicate l.length [], rfl, hg, hnc, hm, hs, by simp, ?_, by simp [Value.ownBlock]⟩
    intro j hj
    have hj2 : j < css.length := by omega
    have e0 : (cur.toList.drop (j * 2)).take 2 = css[j] := by
      rw [← flat_part h2 hj2, ← ht]
      apply List.ext_getElem?
      intro i
      rw [List.getElem?_take, List.getElem?_take, List.getElem?_drop, List.getElem?_drop, List.getElem?_take]
      by_cases hi : i < 2
      · rw [if_pos hi, if_pos hi, if_pos (by omega)]
      · rw [if_neg hi, if_neg hi]
    rw [e0]
    obtain ⟨e1, e2, e3, _⟩ := h3 j hj hj2
    refine ⟨e1, e2, e3, ?_⟩
    rw [List.getD_eq_getElem?_getD]
    simp [hj]

def lenDot (s : Option Addr × Nat × List MDot) : Nat := s.2.2.length
def catDot (ss : List (Option Addr × Nat × List MDot)) : List MDot := (ss.map (fun s => s.2.2)).flatten
theorem catDot_length (ss : List (Option Addr × Nat × List MDot)) : (catDot ss).length = sumW lenDot ss := by
  induction ss with
  | nil => rfl
  | cons a t ih => simp only [catDot, List.map_cons, List.flatten_cons, List.length_append, sumW] at ih ⊢; rw [ih]; rfl
theorem catDot_take {ss : List (Option Addr × Nat × List MDot)} {k : Nat} (h : k < ss.length) : catDot (ss.take (k + 1)) = catDot (ss.take k) ++ ss[k].2.2 := by
  unfold catDot
  rw [List.take_succ_eq_append_getElem h, List.map_append, List.flatten_append]
  simp

set_option maxHeartbeats 1000000 in
theorem growDot_any (n : Nat) (hn : n ≤ 16777216) (w : World) :
    Calls Tryd.prog 107 #[.slice none 0 0, .int .i64 n] w fun e w' => ∃ v, e = .returned v ∧ w'.ownsRow w.heap.size 40 2 v 0 [] ∧ Below w.heap.size w w' := by
  obtain ⟨iT, hiT, hz0, hz1, hz2⟩ := info_parts Tryd.infoOfDot
  have h0 : ¬ (n : Int) < 0 := by omega
  by_cases hz : n = 0
  · subst hz
    go_enter Tryd.func107, Tryd.ntmps107
    go_wp2_with fail
    go_ret
    exact ⟨_, rfl, World.ownsRow_nil _ _ _ _, Below.refl _ _⟩
  · have hp : (0 : Int) < (n : Int) := by omega
    go_enter Tryd.func107, Tryd.ntmps107
    go_wp2_with (at_builtin; refine wpList_append_zeros rfl _ _ 26 3 rfl 40 iT (.agg #[.int .i64 0, .int .i64 0]) .i64 .i64 Tryd.underlying26 Tryd.underlying3 hiT hz0 2 16 hz1 hz2 rfl n (by omega) (by decide) (by unfold maxLen; omega) (by omega) w.heap.size (Nat.le_refl _) rfl rfl ?_; intro cap w1 hcap hown hb1)
    go_ret
    exact ⟨_, rfl, hown, hb1⟩

set_option maxHeartbeats 4000000 in
theorem concatDot_any (g m : Nat) (ss : List (Option Addr × Nat × List MDot)) (w : World) (hs : ss.length = m) (hm : m ≤ 1048576) (hg : g < w.heap.size)
    (hc : ∀ i, (h : i < ss.length) → w.cell? ⟨g, i, none⟩ = some (.slice ss[i].1 ss[i].2.2.length ss[i].2.1)) (hr : ∀ i, (h : i < ss.length) → LeafL 2 rDot w.heap.size w ss[i].1 ss[i].2.1 ss[i].2.2) (hw : sumW lenDot ss ≤ 8388608) :
    Calls Tryd.prog 84 #[.slice (some ⟨g, 0, none⟩) m m] w fun e w' => ∃ v, e = .returned v ∧ RowR 2 40 rDot w.heap.size w' w.heap.size v (catDot ss) ∧ Below w.heap.size w w' := by
  obtain ⟨iT, hiT, hz0, hz1, hz2⟩ := info_parts Tryd.infoOfDot
  have HX := Hid.mk hs
  have HC := Hid.mk hc
  have HR := Hid.mk hr
  have HW := Hid.mk hw
  clear hs hc hr hw
  go_enter Tryd.func84, Tryd.ntmps84
  go_wp2_with fail
  go_loopw [3, 11] (fun x i wr => ∃ k : Nat, k ≤ m ∧ i = .int .i64 k ∧ x = .int .i64 (sumW lenDot (ss.take k) : Nat) ∧ wr = w) (fun _ i _ => m - (intOf i).toNat)
  case atStart => exact ⟨0, Nat.zero_le _, rfl, rfl, rfl⟩
  case round =>
    obtain ⟨k, hk, rfl, rfl, hwr⟩ := hrel
    replace hwr := hwr.symm
    subst hwr
    by_cases hlt : k < m
    · have hkl : k < ss.length := by rw [HX.out]; exact hlt
      have k0 := HC.out k hkl
      have HS := Hid.mk (sumW_take_succ (f := lenDot) hkl)
      have HLe : Hid (sumW lenDot (ss.take (k + 1)) ≤ 8388608) := Hid.mk (Nat.le_trans (sumW_take_le lenDot ss (k + 1)) HW.out)
      have HLk : Hid (lenDot ss[k] = ss[k].2.2.length) := rfl
      generalize ss[k] = s at *
      obtain ⟨aa, ca, la⟩ := s
      simp only at k0 HLk
      have hbd : sumW lenDot (ss.take k) + la.length ≤ 8388608 := by have h1 := HS.out; have h2 := HLe.out; have h3 := HLk.out; omega
      have HS2 : Hid (sumW lenDot (ss.take (k + 1)) = sumW lenDot (ss.take k) + la.length) := by unfold Hid; rw [HS.out, HLk.out]
      clear HS HLe HLk
      generalize sumW lenDot (ss.take k) = t at *
      have hng : ¬ ((t : Int) + (la.length : Int)) < 0 := by omega
      go_wp2_with fail
      go_roundw
      case rel => exact ⟨k + 1, by omega, by go_num, by rw [HS2.out]; go_num, by trivial⟩
      case measure => simp [intOf]; omega
    · have hkm : k = m := by omega
      have HT : Hid (ss.take k = ss) := List.take_of_length_le (by rw [HX.out]; omega)
      rw [HT.out]
      have hw := HW.out
      have HTL : Hid (sumW lenDot ss = sumW lenDot ss) := rfl
      generalize sumW lenDot ss = tt at hw ⊢
      go_wp2_with fail
      refine (growDot_any tt (by omega) w).mono ?_
      rintro e w1 ⟨v1, rfl, ho1, hb1⟩
      have HRow : Hid (RowR 2 40 rDot w.heap.size w1 w.heap.size v1 (catDot (ss.take 0))) := ⟨[], rfl, (fun _ h => by cases h), (fun _ h => by simp [catDot] at h), by simpa [catDot] using ho1⟩
      clear ho1 hw HT hkm hlt hk
      go_wp2_with fail
      go_loopw [6, 27] (fun v i wr => ∃ k : Nat, k ≤ m ∧ i = .int .i64 k ∧ Hid (RowR 2 40 rDot w.heap.size wr w.heap.size v (catDot (ss.take k))) ∧ Below w.heap.size w wr) (fun _ i _ => m - (intOf i).toNat)
      case atStart => exact ⟨0, Nat.zero_le _, rfl, HRow, hb1⟩
      case round =>
        obtain ⟨q, hq, rfl, HRq, hbq⟩ := hrel
        have hbz := hbq.size
        by_cases hlt : q < m
        · have hql : q < ss.length := by rw [HX.out]; exact hlt
          have k0 := (hbq.cell (p := ⟨g, q, none⟩) hg).trans (HC.out q hql)
          have HLq := Hid.mk ((HR.out q hql).below rDot_good hbq)
          have HS := Hid.mk (catDot_take hql)
          have HN := Hid.mk (catDot_length (ss.take (q + 1)))
          have HLe : Hid (sumW lenDot (ss.take (q + 1)) ≤ 8388608) := Hid.mk (Nat.le_trans (sumW_take_le lenDot ss (q + 1)) HW.out)
          generalize ss[q] = s at *
          obtain ⟨aa, ca, la⟩ := s
          simp only at k0 HLq HS
          have hbd : (catDot (ss.take q)).length + la.length ≤ 8388608 := by have h1 := HN.out; have h2 := HLe.out; rw [HS.out, List.length_append] at h1; omega
          clear HN HLe
          generalize catDot (ss.take q) = lq at *
          obtain ⟨css, r1, r2, r3, r4⟩ := HRq.out
          obtain ⟨s1, u1, u2, u3, u4⟩ := Src.any oneDot (P := Tryd.prog) (n := la.length) (c := ca) Tryd.underlying26 rfl HLq.out.2.2
          have HR1 := Hid.mk r1
          have HR2 := Hid.mk r2
          have HR3 := Hid.mk r3
          have HU1 := Hid.mk u1
          have HU2 := Hid.mk u2
          have HU3 := Hid.mk u3
          clear r1 r2 r3 u1 u2 u3 HRq
          go_wp2_with (at_builtin; refine wpList_append_src_y rfl _ _ 26 26 rfl w.heap.size 40 iT (.agg #[.int .i64 0, .int .i64 0]) 2 16 Tryd.underlying26 hiT hz0 hz1 hz2 rfl _ _ _ rfl r4 _ rfl _ s1.flatten u4 (by unfold maxLen; omega) (by omega) hbz ?_; intro v2 w2 ho2 hgr2 hat2)
          have hB2 := hbq.grown hgr2 hbz (fun k h => (r4.lt k h).1)
          have hBz : Below w.heap.size wr w2 := (Below.refl _ _).grown hgr2 hbz (fun k h => (r4.lt k h).1)
          have HF : Hid (RowR 2 40 rDot w.heap.size w2 w.heap.size v2 (lq ++ la)) := RowR.cat rDot_good HR1.out HR2.out HR3.out HU1.out HU2.out HU3.out hBz ho2
          rw [← HS.out] at HF
          clear r4 u4 ho2 hgr2 hat2
          go_wp2_with fail
          go_roundw
          case rel => exact ⟨q + 1, by omega, by go_num, HF, hB2⟩
          case measure => simp [intOf]; omega
        · have HT : Hid (ss.take q = ss) := List.take_of_length_le (by rw [HX.out]; omega)
          rw [HT.out] at HRq
          go_wp2_with fail
          go_ret
          exact ⟨_, rfl, HRq.out, hbq⟩

end Go.Proofs.YtmigamgcmhdncaaDoor
