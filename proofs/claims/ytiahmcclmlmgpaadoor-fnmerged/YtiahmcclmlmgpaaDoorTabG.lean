/-
  Appends in a walk with where the new row lies; rows that do not meet; a part of a list that is read; no program is named here.
-/
import Derived.Test.YtiahmcclmlmgpaaDoorRowG
import Derived.Test.YtiahmcclmlmgpaaDoorPairsOk
namespace Go.Proofs.YtiahmcclmlmgpaaDoor
open Go.RowKit
set_option linter.unusedVariables false
set_option linter.unusedSimpArgs false
set_option maxRecDepth 10000

theorem wpList_append_src_at {P : Program} {w : World} {ops : Array Oper} {rest : List Oper} {o : Oper} {a : Act} {Q : Exit → Act → World → Prop} (hgd : o.guard = none) (s x : Operand) (t tx : TypeId)
    (ho : o.op = .call { callee := .builtin .append, args := #[s, x], argTypes := #[t, tx] })
    (base : Nat) (e : TypeId) (i : TypeInfo) (z : Value) (size bytes : Nat) (ht : P.underlying t = some (.slice e)) (hi : P.info? e = some i) (hz : i.zero = some z)
    (hsize : i.size = size) (hby : i.bytes = bytes) (hzs : z.cells.size = size)
    (v : Value) (n : Nat) (xs : List Value) (hs : a.eval s = v) (hown : w.ownsRow base e size v n xs)
    (y : Value) (hy : a.eval x = y) (m : Nat) (news : List Value) (hx : Src P size tx y m news w)
    (h63 : n + m ≤ maxLen) (hbytes : (n + m) * bytes ≤ 140737488355328) (hbase : base ≤ w.heap.size)
    (h : ∀ v' w', w'.ownsRow base e size v' (n + m) (xs ++ news) → w.grownBy w' v.ownBlock → (v'.ownBlock = v.ownBlock ∨ v'.ownBlock = some w.heap.size) → wpList P ops Q rest (a.put o.dst v') w') :
    wpList P ops Q (o :: rest) a w := by
  refine wpList_plain hgd fun K hK => ?_
  obtain ⟨v', w', hr, h2, h3, h4⟩ := run_append_src_at (P := P) w base t tx o.type e i z size bytes ht hi hz hsize hby hzs v n xs hown y m news hx h63 hbytes hbase
  unfold Oper.wp execOp
  simp only [ho, resolve, invoke, builtin, Sem.run_bind, Sem.run_pure, Result.andThen_ok, List.map_toArray, List.map_cons, List.map_nil, hs, hy, hr]
  exact hK _ _ (h v' w' h2 h3 h4)

/-- Two rows do not lie in one block. -/
def Dis (u v : Value) : Prop := ∀ k, u.ownBlock = some k → v.ownBlock = some k → False
theorem Dis.symm {u v : Value} (h : Dis u v) : Dis v u := fun k h1 h2 => h k h2 h1
theorem own_other {w w' : World} {base e size n : Nat} {u v : Value} {xs : List Value} (h : w.ownsRow base e size v n xs) (hg : w.grownBy w' u.ownBlock) (hd : Dis u v) : w'.ownsRow base e size v n xs :=
  own_of_block h (fun k hk => hg.block k (h.lt k hk).2 (fun e => hd k e.symm hk))
theorem dis_app {w : World} {base e size n : Nat} {u u' v : Value} {xs : List Value} (ha : u'.ownBlock = u.ownBlock ∨ u'.ownBlock = some w.heap.size) (h : w.ownsRow base e size v n xs) (hd : Dis u v) : Dis u' v := by
  intro k h1 h2
  rcases ha with ha | ha
  · exact hd k (ha ▸ h1) h2
  · rw [ha] at h1
    have := (h.lt k h2).2
    simp at h1
    omega
theorem dis_new {w w' : World} {B base e e' size size' n n' : Nat} {u v : Value} {xs ys : List Value} (h : w'.ownsRow B e size u n xs) (hB : w.heap.size ≤ B) (k : w.ownsRow base e' size' v n' ys) : Dis u v := by
  intro j h1 h2
  have a := (h.lt j h1).1
  have b := (k.lt j h2).2
  omega
theorem dis_nil (v : Value) : Dis (.slice none 0 0) v := fun k h => by simp [Value.ownBlock] at h

/-- A part of a list that is read. -/
theorem LeafL.sub {α : Type} {size : Nat} {R : Rep α} {B : Nat} {w : World} {b o c : Nat} {l : List α} (h : LeafL size R B w (some ⟨b, o, none⟩) c l) {f m c' : Nat} (hf : f + m ≤ l.length) (hm : m ≤ c') (hc : c' ≤ 9223372036854775807) :
    LeafL size R B w (some ⟨b, o + f * size, none⟩) c' ((l.drop f).take m) := by
  have hl : ((l.drop f).take m).length = m := by simp; omega
  refine ⟨by omega, hc, fun j hj => ?_⟩
  rw [hl] at hj
  obtain ⟨b1, o1, e, hb, cs, h1, h2, h3⟩ := h.2.2 (f + j) (by omega)
  simp only [Option.some.injEq, Addr.mk.injEq, and_true] at e
  obtain ⟨rfl, rfl⟩ := e
  refine ⟨b, o + f * size, rfl, hb, cs, h1, fun i u hu => ?_, ?_⟩
  · have := h2 i u hu
    rw [← this]
    congr 2
    rw [Nat.add_mul]
    omega
  · have e : ((l.drop f).take m)[j]'(by rw [hl]; exact hj) = l[f + j] := by simp
    rw [e]
    exact h3


end Go.Proofs.YtiahmcclmlmgpaaDoor
