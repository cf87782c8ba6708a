/-
  Rows of structs put one behind the other, rows that are grown ahead, a row whose elements are made one's own one by one; no program is named here.
-/
import Derived.Test.YtembioiaeimegaaRowG
import Derived.Lib.AppendZerosOnto
namespace Go.Proofs.Ytembioiaeimegaa
open Go.RowKit
set_option linter.unusedVariables false
set_option linter.unusedSimpArgs false

/-- A part of a list that is read. -/
theorem LeafL.part {α : Type} {size : Nat} {R : Rep α} {B : Nat} {w : World} {b o c : Nat} {l : List α} (h : LeafL size R B w (some ⟨b, o, none⟩) c l) {f m c' : Nat} (hf : f + m ≤ l.length) (hm : m ≤ c') (hc : c' ≤ 9223372036854775807) :
    LeafL size R B w (some ⟨b, o + f * size, none⟩) c' ((l.drop f).take m) := by
  have hl : ((l.drop f).take m).length = m := by simp; omega
  refine ⟨by omega, hc, fun j hj => ?_⟩
  rw [hl] at hj
  obtain ⟨b1, o1, e, hb, cs, h1, h2, h3⟩ := h.2.2 (f + j) (by omega)
  simp only [Option.some.injEq, Addr.mk.injEq, and_true] at e
  obtain ⟨rfl, rfl⟩ := e
  refine ⟨b, o + f * size, rfl, hb, cs, h1, fun i u hu => ?_, ?_⟩
  · have := h2 i u hu
    rw [← this]
    congr 2
    rw [Nat.add_mul]
    omega
  · have e : ((l.drop f).take m)[j]'(by rw [hl]; exact hj) = l[f + j] := by simp
    rw [e]
    exact h3


/-- A list of structs that is read, as what is appended. -/
theorem Src.any {α : Type} {size : Nat} {R : Rep α} (h1c : ∀ B w cs m, R B w cs m → ∀ u, u ∈ cs → u.oneCell' = true) {P : Program} {w : World} {B : Nat} {a : Option Addr} {l : List α} {tx e' : TypeId} {n c : Nat} (hk : P.underlying tx = some (.slice e')) (hn : l.length = n) (hr : RdS size R B w a l) :
    ∃ css : List (List Value), css.length = l.length ∧ (∀ c, c ∈ css → c.length = size) ∧ (∀ j, (h1 : j < l.length) → (h2 : j < css.length) → R B w css[j] l[j]) ∧ Src P size tx (.slice a n c) n css.flatten w := by
  cases a with
  | none =>
    have hz : l = [] := by
      cases l with
      | nil => rfl
      | cons z r =>
        obtain ⟨_, _, h, _⟩ := hr 0 (by simp)
        cases h
    subst hz
    simp only [List.length_nil] at hn
    subst hn
    exact ⟨[], rfl, (fun _ h => by cases h), (fun _ h => by simp at h), Src.ofNil w hk c⟩
  | some ad =>
    by_cases h0 : n = 0
    · subst h0
      have hz : l = [] := List.eq_nil_of_length_eq_zero hn
      subst hz
      exact ⟨[], rfl, (fun _ h => by cases h), (fun _ h => by simp at h), Src.ofSlice w hk ad 0 c [] (by simp) (fun j u hu => by simp at hu) (fun u hu => by cases hu)⟩
    · obtain ⟨b, off, e, _⟩ := hr 0 (by omega)
      simp only [Option.some.injEq] at e
      subst e
      obtain ⟨css, c1, c2, c3, c4⟩ := hr.cells l.length (Nat.le_refl _)
      have hfl := flat_len c2
      refine ⟨css, c1, c2, c3, Src.ofSlice w hk ⟨b, off, none⟩ n c css.flatten (by rw [hfl, c1, hn]) (fun j u hu => by rw [Addr.add_lit]; exact c4 j u hu) ?_⟩
      intro v hv
      obtain ⟨cs, hcs, hvc⟩ := List.mem_flatten.1 hv
      obtain ⟨j, hj, rfl⟩ := List.mem_iff_getElem.1 hcs
      exact h1c _ _ _ _ (c3 j (by omega) hj) v hvc

/-- A row of one's own, and what was appended. -/
theorem RowR.cat {α : Type} {size : Nat} {e : TypeId} {R : Rep α} (hR : R.Good) {B : Nat} {w w' : World} {base : Nat} {v' : Value} {l1 l2 : List α} {c1 c2 : List (List Value)}
    (a1 : c1.length = l1.length) (a2 : ∀ c, c ∈ c1 → c.length = size) (a3 : ∀ j, (h1 : j < l1.length) → (h2 : j < c1.length) → R B w c1[j] l1[j])
    (b1 : c2.length = l2.length) (b2 : ∀ c, c ∈ c2 → c.length = size) (b3 : ∀ j, (h1 : j < l2.length) → (h2 : j < c2.length) → R B w c2[j] l2[j]) (hb : Below B w w')
    (ho : w'.ownsRow base e size v' (l1.length + l2.length) (c1.flatten ++ c2.flatten)) : RowR size e R B w' base v' (l1 ++ l2) := by
  refine ⟨c1 ++ c2, by simp [a1, b1], fun c hc => (List.mem_append.1 hc).elim (a2 c) (b2 c), fun j h1 h2 => ?_, by simpa using ho⟩
  refine hR.below ?_ hb
  by_cases hj : j < l1.length
  · rw [List.getElem_append_left (by omega), List.getElem_append_left hj]
    exact a3 j hj (by omega)
  · simp only [List.length_append] at h1 h2
    rw [List.getElem_append_right (by omega), List.getElem_append_right (by omega)]
    have h := b3 (j - l1.length) (by omega) (by omega)
    simpa [a1] using h

theorem wpList_append_src_y {P : Program} {w : World} {ops : Array Oper} {rest : List Oper} {o : Oper} {a : Act} {Q : Exit → Act → World → Prop} (hgd : o.guard = none) (s x : Operand) (t tx : TypeId)
    (ho : o.op = .call { callee := .builtin .append, args := #[s, x], argTypes := #[t, tx] })
    (base : Nat) (e : TypeId) (i : TypeInfo) (z : Value) (size bytes : Nat) (ht : P.underlying t = some (.slice e)) (hi : P.info? e = some i) (hz : i.zero = some z)
    (hsize : i.size = size) (hby : i.bytes = bytes) (hzs : z.cells.size = size)
    (v : Value) (n : Nat) (xs : List Value) (hs : a.eval s = v) (hown : w.ownsRow base e size v n xs)
    (y : Value) (hy : a.eval x = y) (m : Nat) (news : List Value) (hx : Src P size tx y m news w)
    (h63 : n + m ≤ maxLen) (hbytes : (n + m) * bytes ≤ 140737488355328) (hbase : base ≤ w.heap.size)
    (h : ∀ v' w', w'.ownsRow base e size v' (n + m) (xs ++ news) → w.grownBy w' v.ownBlock → (v'.ownBlock = v.ownBlock ∨ v'.ownBlock = some w.heap.size) → wpList P ops Q rest (a.put o.dst v') w') :
    wpList P ops Q (o :: rest) a w := by
  refine wpList_plain hgd fun K hK => ?_
  obtain ⟨v', w', hr, h2, h3, h4⟩ := run_append_src_at (P := P) w base t tx o.type e i z size bytes ht hi hz hsize hby hzs v n xs hown y m news hx h63 hbytes hbase
  unfold Oper.wp execOp
  simp only [ho, resolve, invoke, builtin, Sem.run_bind, Sem.run_pure, Result.andThen_ok, List.map_toArray, List.map_cons, List.map_nil, hs, hy, hr]
  exact hK _ _ (h v' w' h2 h3 h4)

theorem run_append_zeros {P : Program} (w : World) (t tn ty e : TypeId) (i : TypeInfo) (z : Value) (kq kn : IntKind) (ht : P.underlying t = some (.slice e)) (htn : P.underlying tn = some (.int kn)) (hi : P.info? e = some i) (hz : i.zero = some z)
    (size bytes : Nat) (hsize : i.size = size) (hby : i.bytes = bytes) (hzs : z.cells.size = size) (k : Nat) (h0 : 0 < k) (hs : 0 < size) (h63 : k ≤ maxLen) (hbytes : k * bytes ≤ 140737488355328) (base : Nat) (hbase : base ≤ w.heap.size) :
    ∃ cap w', (Builtin.append_ #[t, tn] ty #[.slice none 0 0, .int kq k]).run P w = .ok (.slice (some ⟨w.heap.size, 0, none⟩) k cap) w' ∧ k ≤ cap ∧ w'.ownsRow base e size (.slice (some ⟨w.heap.size, 0, none⟩) 0 cap) 0 [] ∧ Below w.heap.size w w' := by
  subst hsize
  subst hby
  have hk63 : k ≤ 9223372036854775807 := by simp only [maxLen] at h63; omega
  have hr := Lib.run_append_grow_zeros (P := P) w t tn ty e i z kq kn ht htn hi hz none 0 0 [] (run_firstCells_none w.drew i.size 0 0 0) k h0 hs (by omega) (by omega) (by omega) (growslice_fits (by omega) (by simpa using hbytes))
  rw [Nat.zero_add] at hr
  have hge := grownCap_ge w k 0 e
  have hcm : grownCap w k 0 e ≤ maxLen := grownCap_le_maxLen w k 0 e h63
  refine ⟨_, _, hr, hge, ⟨by simp, .inr ⟨w.heap.size, _, _, rfl, hbase, heap_alloc_new w.drew _, Nat.zero_le _, hcm, ?_, by simp⟩⟩, Below.drew (Below.refl _ _) |>.alloc (Nat.le_refl _) _⟩
  rw [Array.size_append, Array.size_append, size_zeroCells, size_zeroCells, hzs]
  have e0 : (#[] : Array Value).size = 0 := rfl
  show (#[] : Array Value).size + k * i.size + (grownCap w k 0 e - k) * i.size = _
  rw [e0, Nat.zero_add, ← Nat.add_mul]
  congr 1
  omega

theorem wpList_append_zeros {P : Program} {w : World} {ops : Array Oper} {rest : List Oper} {o : Oper} {a : Act} {Q : Exit → Act → World → Prop} (hgd : o.guard = none) (s x : Operand) (t tn : TypeId)
    (ho : o.op = .call { callee := .builtin .append, args := #[s, x], argTypes := #[t, tn] }) (e : TypeId) (i : TypeInfo) (z : Value) (kq kn : IntKind) (ht : P.underlying t = some (.slice e)) (htn : P.underlying tn = some (.int kn)) (hi : P.info? e = some i) (hz : i.zero = some z)
    (size bytes : Nat) (hsize : i.size = size) (hby : i.bytes = bytes) (hzs : z.cells.size = size) (k : Nat) (h0 : 0 < k) (hs : 0 < size) (h63 : k ≤ maxLen) (hbytes : k * bytes ≤ 140737488355328) (base : Nat) (hbase : base ≤ w.heap.size)
    (hes : a.eval s = .slice none 0 0) (hex : a.eval x = .int kq k)
    (h : ∀ cap w', k ≤ cap → w'.ownsRow base e size (.slice (some ⟨w.heap.size, 0, none⟩) 0 cap) 0 [] → Below w.heap.size w w' → wpList P ops Q rest (a.put o.dst (.slice (some ⟨w.heap.size, 0, none⟩) k cap)) w') : wpList P ops Q (o :: rest) a w := by
  refine wpList_plain hgd fun K hK => ?_
  obtain ⟨cap, w', hr, h1, h2, h3⟩ := run_append_zeros (P := P) w t tn o.type e i z kq kn ht htn hi hz size bytes hsize hby hzs k h0 hs h63 hbytes base hbase
  unfold Oper.wp execOp
  simp only [ho, resolve, invoke, builtin, Sem.run_bind, Sem.run_pure, Result.andThen_ok, List.map_toArray, List.map_cons, List.map_nil, hes, hex, hr]
  exact hK _ _ (h cap w' h1 h2 h3)

end Go.Proofs.Ytembioiaeimegaa
