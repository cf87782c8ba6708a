/-
  Facts for the walks of PutTable: rows of one's own that do not meet, parts of lists of pairs, a table's numbers.
-/
import Derived.Test.YtjaaaopbidmknaaDoorTabM
import Derived.Test.YtjaaaopbidmknaaDoorRowG
import Derived.Test.YtjaaaopbidmknaaDoorPairsOk
namespace Go.Proofs.YtjaaaopbidmknaaDoor
open Go.RowKit
set_option linter.unusedVariables false
set_option linter.unusedSimpArgs false
set_option maxRecDepth 10000

theorem wpList_append_src_at {P : Program} {w : World} {ops : Array Oper} {rest : List Oper} {o : Oper} {a : Act} {Q : Exit → Act → World → Prop} (hgd : o.guard = none) (s x : Operand) (t tx : TypeId)
    (ho : o.op = .call { callee := .builtin .append, args := #[s, x], argTypes := #[t, tx] })
    (base : Nat) (e : TypeId) (i : TypeInfo) (z : Value) (size bytes : Nat) (ht : P.underlying t = some (.slice e)) (hi : P.info? e = some i) (hz : i.zero = some z)
    (hsize : i.size = size) (hby : i.bytes = bytes) (hzs : z.cells.size = size)
    (v : Value) (n : Nat) (xs : List Value) (hs : a.eval s = v) (hown : w.ownsRow base e size v n xs)
    (y : Value) (hy : a.eval x = y) (m : Nat) (news : List Value) (hx : Src P size tx y m news w)
    (h63 : n + m ≤ maxLen) (hbytes : (n + m) * bytes ≤ 140737488355328) (hbase : base ≤ w.heap.size)
    (h : ∀ v' w', w'.ownsRow base e size v' (n + m) (xs ++ news) → w.grownBy w' v.ownBlock → (v'.ownBlock = v.ownBlock ∨ v'.ownBlock = some w.heap.size) → wpList P ops Q rest (a.put o.dst v') w') :
    wpList P ops Q (o :: rest) a w := by
  refine wpList_plain hgd fun K hK => ?_
  obtain ⟨v', w', hr, h2, h3, h4⟩ := run_append_src_at (P := P) w base t tx o.type e i z size bytes ht hi hz hsize hby hzs v n xs hown y m news hx h63 hbytes hbase
  unfold Oper.wp execOp
  simp only [ho, resolve, invoke, builtin, Sem.run_bind, Sem.run_pure, Result.andThen_ok, List.map_toArray, List.map_cons, List.map_nil, hs, hy, hr]
  exact hK _ _ (h v' w' h2 h3 h4)

/-- Two rows do not lie in one block. -/
def Dis (u v : Value) : Prop := ∀ k, u.ownBlock = some k → v.ownBlock = some k → False
theorem Dis.symm {u v : Value} (h : Dis u v) : Dis v u := fun k h1 h2 => h k h2 h1
theorem own_other {w w' : World} {base e size n : Nat} {u v : Value} {xs : List Value} (h : w.ownsRow base e size v n xs) (hg : w.grownBy w' u.ownBlock) (hd : Dis u v) : w'.ownsRow base e size v n xs :=
  own_of_block h (fun k hk => hg.block k (h.lt k hk).2 (fun e => hd k e.symm hk))
theorem dis_app {w : World} {base e size n : Nat} {u u' v : Value} {xs : List Value} (ha : u'.ownBlock = u.ownBlock ∨ u'.ownBlock = some w.heap.size) (h : w.ownsRow base e size v n xs) (hd : Dis u v) : Dis u' v := by
  intro k h1 h2
  rcases ha with ha | ha
  · exact hd k (ha ▸ h1) h2
  · rw [ha] at h1
    have := (h.lt k h2).2
    simp at h1
    omega
theorem dis_new {w w' : World} {B base e e' size size' n n' : Nat} {u v : Value} {xs ys : List Value} (h : w'.ownsRow B e size u n xs) (hB : w.heap.size ≤ B) (k : w.ownsRow base e' size' v n' ys) : Dis u v := by
  intro j h1 h2
  have a := (h.lt j h1).1
  have b := (k.lt j h2).2
  omega
theorem dis_nil (v : Value) : Dis (.slice none 0 0) v := fun k h => by simp [Value.ownBlock] at h

/-- A part of a list that is read. -/
theorem LeafL.sub {α : Type} {size : Nat} {R : Rep α} {B : Nat} {w : World} {b o c : Nat} {l : List α} (h : LeafL size R B w (some ⟨b, o, none⟩) c l) {f m c' : Nat} (hf : f + m ≤ l.length) (hm : m ≤ c') (hc : c' ≤ 9223372036854775807) :
    LeafL size R B w (some ⟨b, o + f * size, none⟩) c' ((l.drop f).take m) := by
  have hl : ((l.drop f).take m).length = m := by simp; omega
  refine ⟨by omega, hc, fun j hj => ?_⟩
  rw [hl] at hj
  obtain ⟨b1, o1, e, hb, cs, h1, h2, h3⟩ := h.2.2 (f + j) (by omega)
  simp only [Option.some.injEq, Addr.mk.injEq, and_true] at e
  obtain ⟨rfl, rfl⟩ := e
  refine ⟨b, o + f * size, rfl, hb, cs, h1, fun i u hu => ?_, ?_⟩
  · have := h2 i u hu
    rw [← this]
    congr 2
    rw [Nat.add_mul]
    omega
  · have e : ((l.drop f).take m)[j]'(by rw [hl]; exact hj) = l[f + j] := by simp
    rw [e]
    exact h3

theorem blk_length {l : List MPair} {i : Nat} : (blk l i).length = min 4 (l.length - 4 * i) := by simp [blk]
theorem lastK_concat (k : ByteArray) (l : List MPair) (h : 0 < l.length) : lastK k l = (l[l.length - 1]'(by omega)).fKey := by
  rcases List.eq_nil_or_concat l with rfl | ⟨l', p, rfl⟩
  · simp at h
  · simp only [List.concat_eq_append]
    rw [lastK_snoc]
    simp
theorem blk_last {l : List MPair} {i t : Nat} (h : 4 * i < l.length) (ht : t = min (4 * i + 4) l.length) (hl : t - 1 < l.length) : lastK ByteArray.empty (blk l i) = l[t - 1].fKey := by
  have hb := blk_length (l := l) (i := i)
  rw [lastK_concat _ _ (by omega)]
  congr 1
  simp only [blk, List.getElem_take, List.getElem_drop]
  congr 1
  simp
  omega
theorem blk_weight (l : List MPair) (i : Nat) : sumW wPair (blk l i) ≤ sumW wPair l := sumW_sublist' ((List.take_sublist _ _).trans (List.drop_sublist _ _))
theorem frame_len (zs : List Int) : (frame zs).length ≤ zs.length + 9 := by
  have := (putNum_length (clampN zs.length)).2
  simp only [frame, List.length_append, four_length]
  omega
theorem frame_ok {zs : List Int} (h : BytesOk zs) : BytesOk (frame zs) := ((four_ok (crc_bd h).1 (crc_bd h).2).append (putNum_ok _)).append h
theorem outB_ok (l : List MPair) (i : Nat) : BytesOk (outB l i) := by
  induction i with
  | zero => intro z hz; cases hz
  | succ i ih => exact ih.append (frame_ok (blockB_ok _ _))
theorem blk_bd {l : List MPair} (hw : sumW wPair l ≤ 1048576) (i : Nat) : (blockB ByteArray.empty (blk l i)).length ≤ 1048640 := by
  have h1 := blockB_len ByteArray.empty (blk l i)
  have h2 := blk_weight l i
  have h3 := blk_length (l := l) (i := i)
  omega
theorem outB_len {l : List MPair} (hw : sumW wPair l ≤ 1048576) (i : Nat) : (outB l i).length ≤ 1048649 * i := by
  induction i with
  | zero => simp [outB]
  | succ i ih =>
    have h1 := frame_len (blockB ByteArray.empty (blk l i))
    have h2 := blk_bd hw i
    simp only [outB, List.length_append]
    omega
/-- What the index says of the first blocks. -/
def marksB (l : List MPair) : Nat → List (ByteArray × Int)
  | 0 => []
  | i + 1 => marksB l i ++ [(lastK ByteArray.empty (blk l i), ((outB l i).length : Int))]
theorem marksB_length (l : List MPair) (i : Nat) : (marksB l i).length = i := by
  induction i with
  | zero => rfl
  | succ i ih => simp [marksB, ih]
theorem lastK_wt (l : List MPair) : (lastK ByteArray.empty l).size ≤ sumW wPair l := by
  rcases Nat.eq_zero_or_pos l.length with h | h
  · rw [List.eq_nil_of_length_eq_zero h]; exact Nat.zero_le _
  · rw [lastK_concat _ _ h]
    have h1 := sumW_le (f := wPair) (l := l) (k := l.length - 1) (by omega)
    have h2 : wPair (l[l.length - 1]'(by omega)) = (l[l.length - 1]'(by omega)).fKey.size + (l[l.length - 1]'(by omega)).fVal.size := rfl
    omega
theorem marksB_small {l : List MPair} (hw : sumW wPair l ≤ 1048576) (i : Nat) : ∀ m, m ∈ marksB l i → m.1.size ≤ 1048576 := by
  induction i with
  | zero => intro m hm; cases hm
  | succ i ih =>
    intro m hm
    simp only [marksB, List.mem_append, List.mem_singleton] at hm
    rcases hm with hm | rfl
    · exact ih m hm
    · have h1 := lastK_wt (blk l i)
      have h2 := blk_weight l i
      simp only
      omega
def tabOk (l : List MPair) : Bool := pairsOkP l && decide (1 ≤ l.length ∧ l.length ≤ 200)
def tabP (l : List MPair) : List Int := if tabOk l then tabB l else []
theorem tabP_yes {l : List MPair} (h1 : pairsOkP l = true) (h2 : 1 ≤ l.length) (h3 : l.length ≤ 200) : tabP l = tabB l := by
  unfold tabP tabOk
  rw [h1, decide_eq_true ⟨h2, h3⟩]
  rfl
theorem tabP_bad {l : List MPair} (h1 : pairsOkP l = false) : tabP l = [] := by
  unfold tabP tabOk
  rw [h1]
  rfl
theorem tabP_out {l : List MPair} (h : ¬ (1 ≤ l.length ∧ l.length ≤ 200)) : tabP l = [] := by
  unfold tabP tabOk
  rw [decide_eq_false h, Bool.and_false]
  rfl

end Go.Proofs.YtjaaaopbidmknaaDoor
