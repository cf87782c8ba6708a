/-
  A map of commands by their dots: what is looked up in it, what is put.
-/
import Derived.Test.YtjipinjdfeihjaaUAsk
import Derived.DeepKeys3
import Derived.Maps.OwnSet
namespace Go.Proofs.Ytjipinjdfeihjaa
open Go.RowKit Go.Maps
set_option linter.unusedVariables false
set_option linter.unusedSimpArgs false
set_option maxRecDepth 10000

theorem eq_dot (x y u v : Int) (w : World) : (Op.equal 43 (.agg #[.int .i64 x, .int .i64 y]) (.agg #[.int .i64 u, .int .i64 v])).run Try.prog w = .ok (decide (x = u) && decide (y = v)) w := by
  show (Op.equalIn 10000 _ _ _).run _ _ = _
  by_cases h1 : x = u
  · by_cases h2 : y = v
    · subst h1; subst h2; go_simp
    · subst h1; have h3 : decide (y = v) = false := decide_eq_false h2; go_simp
  · have h3 : decide (x = u) = false := decide_eq_false h1; go_simp
theorem cells_dot : Try.prog.cellsOf 43 = 2 := by kernel_rfl
theorem cells_int : Try.prog.cellsOf 3 = 1 := by kernel_rfl
theorem check_dot (b : Bool) {x y : Int} (hx : (Lit.int .i64 x).wf = true) (hy : (Lit.int .i64 y).wf = true) (w : World) : (Instr.checkKey b 10000 43 (.agg #[.int .i64 x, .int .i64 y])).run Try.prog w = .ok () w := by
  refine run_checkKey_deep (P := Try.prog) b 9997 3 43 (by kernel_rfl) w 2 (.agg #[.int .i64 x, .int .i64 y]) [.int .i64 x, .int .i64 y] ?_ ?_
  · simp [Value.formed, Try.underlying43, cells_dot]
  · simp [Program.keyLits, Try.underlying43, Try.underlying3, cells_dot, cells_int, Value.cells, hx, hy]

def dotV (d : MDot) : Value := .agg #[.int .i64 d.fR, .int .i64 d.fN]
def cmdV (c : MCmd) : Value := .agg #[.int .i64 c.fKind, .string c.fKey, .string c.fVal]
def kvV (p : MDot × MCmd) : Value × Value := (dotV p.1, cmdV p.2)
def lookD : List (MDot × MCmd) → MDot → Option MCmd
  | [], _ => none
  | p :: l, d => if sameD p.1 d = true then some p.2 else lookD l d
def putD : List (MDot × MCmd) → MDot → MCmd → List (MDot × MCmd)
  | [], d, c => [(d, c)]
  | p :: l, d, c => if sameD p.1 d = true then (d, c) :: l else p :: putD l d c
theorem same_comm (a b : MDot) : sameD a b = sameD b a := by
  unfold sameD
  congr 1
  exact propext ⟨fun h => ⟨h.1.symm, h.2.symm⟩, fun h => ⟨h.1.symm, h.2.symm⟩⟩
theorem same_trans {a b c : MDot} (h : sameD a b = true) : sameD a c = sameD b c := by
  have := sameD_eq h
  unfold sameD
  rw [this.1, this.2]
theorem look_put (c : MCmd) (d e : MDot) : ∀ D : List (MDot × MCmd), lookD (putD D d c) e = if sameD d e = true then some c else lookD D e
  | [] => by simp [putD, lookD]
  | p :: l => by
    have ih := look_put c d e l
    by_cases h : sameD p.1 d = true
    · simp only [putD, if_pos h, lookD]
      rw [same_trans h]
      by_cases h2 : sameD d e = true
      · rw [if_pos h2, if_pos h2]
      · rw [if_neg h2, if_neg h2, if_neg h2]
    · simp only [putD, if_neg h, lookD]
      by_cases h2 : sameD p.1 e = true
      · rw [if_pos h2, if_pos h2]
        rw [if_neg (fun h3 => h (by rw [same_trans h2, same_comm]; exact h3))]
      · rw [if_neg h2, if_neg h2, ih]
/-- Where a dot is first, and what is there. -/
def findE : List (MDot × MCmd) → MDot → Nat → Option (Nat × Value)
  | [], _, _ => none
  | p :: l, d, i => if sameD p.1 d = true then some (i, cmdV p.2) else findE l d (i + 1)
theorem find_look : ∀ (D : List (MDot × MCmd)) (d : MDot) (i : Nat), (findE D d i).map (·.2) = (lookD D d).map cmdV
  | [], _, _ => rfl
  | p :: l, d, i => by
    simp only [findE, lookD]
    by_cases h : sameD p.1 d = true
    · rw [if_pos h, if_pos h]; rfl
    · rw [if_neg h, if_neg h]; exact find_look l d (i + 1)
theorem find_put {d : MDot} {c : MCmd} : ∀ (D : List (MDot × MCmd)) (i : Nat), (findE D d i = none ∧ putD D d c = D ++ [(d, c)]) ∨ ∃ j v, findE D d i = some (i + j, v) ∧ putD D d c = D.set j (d, c) ∧ ∃ q, D[j]? = some q ∧ sameD q.1 d = true
  | [], i => .inl ⟨rfl, rfl⟩
  | p :: l, i => by
    by_cases h : sameD p.1 d = true
    · refine .inr ⟨0, cmdV p.2, ?_, ?_, p, rfl, h⟩
      · simp only [findE, if_pos h]; rfl
      · simp only [putD, if_pos h]; rfl
    · rcases find_put l (i + 1) with ⟨h1, h2⟩ | ⟨j, v, h1, h2, q, h3, h4⟩
      · refine .inl ⟨?_, ?_⟩
        · simp only [findE, if_neg h]; exact h1
        · simp only [putD, if_neg h]; rw [h2]; rfl
      · refine .inr ⟨j + 1, v, ?_, ?_, q, ?_, h4⟩
        · simp only [findE, if_neg h]; rw [h1]; congr 2; omega
        · simp only [putD, if_neg h]; rw [h2]; rfl
        · simpa using h3
theorem asking_run (d : MDot) (w : World) : ∀ (es : List MapEntry) (D : List (MDot × MCmd)) (i : Nat), es.map (fun e => (e.key, e.val)) = D.map kvV → (Instr.findAsking 43 (dotV d) es i).run Try.prog w = .ok (findE D d i) w
  | [], [], i, _ => by simp [Instr.findAsking, findE, go_sem]
  | [], _ :: _, _, h => by cases h
  | _ :: _, [], _, h => by cases h
  | e :: es, p :: D, i, h => by
    simp only [List.map_cons, List.cons.injEq] at h
    obtain ⟨h1, h2⟩ := h
    have hk : e.key = dotV p.1 := congrArg Prod.fst h1
    have hv : e.val = cmdV p.2 := congrArg Prod.snd h1
    have ih := asking_run d w es D (i + 1) h2
    have he : (Op.equal 43 (dotV d) e.key).run Try.prog w = .ok (sameD p.1 d) w := by
      rw [hk]
      refine (eq_dot d.fR d.fN p.1.fR p.1.fN w).trans ?_
      rw [same_comm]
      unfold sameD
      rw [Bool.decide_and]
    by_cases hs : sameD p.1 d = true
    · rw [hs] at he
      simp only [findE, if_pos hs]
      simp [Instr.findAsking, he, hv, go_sem]
    · have hs' := Bool.eq_false_iff.2 hs
      rw [hs'] at he
      simp only [findE, if_neg hs]
      simp [Instr.findAsking, he, ih, go_sem]
theorem key_run (d : MDot) (w : World) (es : List MapEntry) (D : List (MDot × MCmd)) (h : es.map (fun e => (e.key, e.val)) = D.map kvV) : (Instr.findKey 43 (dotV d) es).run Try.prog w = .ok (findE D d 0) w := by
  cases es with
  | nil =>
    cases D with
    | nil => simp [Instr.findKey, run_underlying Try.underlying43, Instr.findNow, findE, go_sem]
    | cons p D => cases h
  | cons e es =>
    have ha := asking_run d w (e :: es) D 0 h
    simp [Instr.findKey, run_underlying Try.underlying43, Instr.findNow, Instr.sameNow, ha, go_sem]
/-- A map in its block. -/
def DMap (w : World) (b : Nat) (D : List (MDot × MCmd)) : Prop := ∃ es clock, w.heap[b]? = some (.map es clock) ∧ es.toList.map (fun e => (e.key, e.val)) = D.map kvV
theorem DMap.lt {w : World} {b : Nat} {D : List (MDot × MCmd)} (h : DMap w b D) : b < w.heap.size := by
  obtain ⟨es, clock, hb, _⟩ := h
  exact (Array.getElem?_eq_some_iff.1 hb).1
theorem DMap.turn {F : List Nat} {w w' : World} {b : Nat} {D : List (MDot × MCmd)} (h : DMap w b D) (ht : Turn F w w') (hF : b ∉ F) : DMap w' b D := by
  have hl := h.lt
  obtain ⟨es, clock, hb, he⟩ := h
  exact ⟨es, clock, (ht.block b hl hF).trans hb, he⟩
theorem DMap.under {w w' : World} {b : Nat} {D : List (MDot × MCmd)} (h : DMap w b D) (hb : Below w.heap.size w w') : DMap w' b D := h.turn (F := []) (Turn.ofBelow hb) (by simp)
theorem zero_cmd (w : World) : (zeroValue 45).run Try.prog w = .ok (cmdV noCmd) w := by
  simp [Try.zeroValue45, cmdV, noCmd]
theorem look_run {w : World} {b : Nat} {D : List (MDot × MCmd)} (h : DMap w b D) {d : MDot} (h0 : (Lit.int .i64 d.fR).wf = true) (h1 : (Lit.int .i64 d.fN).wf = true) :
    (Instr.lookup 76 (.map (some b)) (dotV d) true).run Try.prog w = .ok (.tuple #[cmdV ((lookD D d).getD noCmd), .bool (lookD D d).isSome]) w := by
  obtain ⟨es, clock, hb, he⟩ := h
  have hk := key_run d w es.toList D he
  have hc := fun em => check_dot em h0 h1 w
  have hf := find_look D d 0
  have hz := zero_cmd w
  have hc' : ∀ em, (Instr.checkKey em 10000 43 (dotV d)).run Try.prog w = .ok () w := hc
  cases hl : lookD D d with
  | none =>
    rw [hl] at hf
    have hn : findE D d 0 = none := by simpa using hf
    rw [hn] at hk
    simp [Instr.lookup, run_underlying Try.underlying76, MapKept.run_getObj_map hb, hc', hk, hz, Result.andThen]
  | some c =>
    rw [hl] at hf
    obtain ⟨⟨j, v⟩, h2, h3⟩ := Option.map_eq_some_iff.1 hf
    simp only at h3
    subst h3
    rw [h2] at hk
    simp [Instr.lookup, run_underlying Try.underlying76, MapKept.run_getObj_map hb, hc', hk, Result.andThen]
theorem put_run {w : World} {b : Nat} {D : List (MDot × MCmd)} (h : DMap w b D) {d : MDot} (c : MCmd) (h0 : (Lit.int .i64 d.fR).wf = true) (h1 : (Lit.int .i64 d.fN).wf = true) :
    ∃ w', (Instr.mapUpdate 76 (.map (some b)) (dotV d) (cmdV c)).run Try.prog w = .ok () w' ∧ DMap w' b (putD D d c) ∧ Turn [b] w w' ∧ w'.heap.size = w.heap.size := by
  have hlt := h.lt
  obtain ⟨es, clock, hb, he⟩ := h
  have hk := key_run d w es.toList D he
  have hc' : ∀ em, (Instr.checkKey em 10000 43 (dotV d)).run Try.prog w = .ok () w := fun em => check_dot em h0 h1 w
  have hT : ∀ o, Turn [b] w { w with heap := w.heap.setIfInBounds b o } := fun o => ⟨rfl, rfl, rfl, by simp, fun i hi hF => by simp at hF; simp [Array.getElem?_setIfInBounds, Ne.symm hF]⟩
  rcases find_put (d := d) (c := c) D 0 with ⟨h2, h3⟩ | ⟨j, v, h2, h3, q, h4, h5⟩
  · rw [h2] at hk
    refine ⟨{ w with heap := w.heap.setIfInBounds b (.map (es.push ⟨dotV d, cmdV c, clock⟩) (clock + 1)) }, ?_, ⟨es.push ⟨dotV d, cmdV c, clock⟩, clock + 1, by simp [hlt], ?_⟩, hT _, by simp⟩
    · simp [Instr.mapUpdate, run_underlying Try.underlying76, MapKept.run_getObj_map hb, hc', hk, MapKept.run_setObj_map _ hb, Result.andThen]
    · rw [h3, Array.toList_push, List.map_append, List.map_append, he]; rfl
  · rw [h2] at hk
    rw [Nat.zero_add] at hk
    have hj : es.toList[j]?.map (fun e => (e.key, e.val)) = some (kvV q) := by
      have := congrArg (fun l => l[j]?) he
      simp only [List.getElem?_map] at this
      rw [this, h4]; rfl
    obtain ⟨e0, hj1, hj2⟩ := Option.map_eq_some_iff.1 hj
    have hkey : e0.key = dotV q.1 := congrArg Prod.fst hj2
    have hq : dotV q.1 = dotV d := by have := sameD_eq h5; unfold dotV; rw [this.1, this.2]
    have hj3 : es[j]? = some e0 := by simpa using hj1
    have hst : (Instr.keyThatStays (dotV d) (dotV d)).run Try.prog w = .ok (dotV d) w := by
      have : Instr.sameBits 10000 (dotV d) (dotV d) = true := by simp [dotV, Instr.sameBits]
      simp [Instr.keyThatStays, this, go_sem]
    refine ⟨{ w with heap := w.heap.setIfInBounds b (.map (es.modify j fun e => { e with key := dotV d, val := cmdV c }) clock) }, ?_, ⟨es.modify j fun e => { e with key := dotV d, val := cmdV c }, clock, by simp [hlt], ?_⟩, hT _, by simp⟩
    · simp [Instr.mapUpdate, run_underlying Try.underlying76, MapKept.run_getObj_map hb, hc', hk, hj3, hkey, hq, hst, MapKept.run_setObj_map _ hb, Result.andThen]
    · rw [h3, Array.toList_modify, List.map_set, ← he]
      apply List.ext_getElem?
      intro k
      simp only [List.getElem?_map, List.getElem?_modify, List.getElem?_set]
      by_cases hkj : j = k
      · subst hkj
        have hjl : j < es.toList.length := (List.getElem?_eq_some_iff.1 hj1).1
        simp [hj1, hjl, kvV]
        simpa using hjl
      · simp [hkj]
end Go.Proofs.Ytjipinjdfeihjaa
