/-
  Part 4 of the texts that the proof leans on.
-/
import Derived.Laws.CopyOwn
import Derived.Test.YtegonncmopecnaaGreatDoorMnd2
import Derived.Test.YtegonncmopecnaaGreatDoorMnd0
import Derived.Test.YtegonncmopecnaaGreatDoorMnd1
set_option linter.unusedVariables false
set_option linter.unusedSimpArgs false
set_option maxRecDepth 10000

namespace Go.Proofs.YtegonncmopecnaaGreatDoor
open Go.RowKit
theorem run_copy_rows {P : Program} (w : World) (dT sT ty elem : TypeId) (size : Nat) (g o dLen dCap : Nat) (a : Addr) (sLen sCap : Nat) (cur : Array Value) (t : TypeId) (cs : List Value)
  (hu : P.underlying dT = some (.slice elem)) (hs : (P.info? elem).map (·.size) = some size)
  (hg : w.heap[g]? = some (.cells cur t (0, 0))) (hn : cs.length = Nat.min sLen dLen * size)
  (hsrc : ∀ j v, cs[j]? = some v -> w.cell? (a.add j) = some v) (hfit : o + cs.length <= cur.size) (h1 : ∀ v ∈ cs, v.oneCell' = true) :
  (Builtin.copy_ #[dT, sT] ty #[.slice (some ⟨g, o, none⟩) dLen dCap, .slice (some a) sLen sCap]).run P w =
   .ok (goInt (Nat.min sLen dLen)) (w.setRow g (cur.toList.take o ++ cs ++ cur.toList.drop (o + cs.length)).toArray) := by
 have hl := run_loadCells_list (P := P) w a cs hsrc
 have hst := run_storeCells_at P g o t cs 0 cur w hg (by simpa using hfit) h1
 cases hq : P.info? elem with
 | none => simp [hq] at hs
 | some i =>
  have hi : i.size = size := by simpa [hq] using hs
  simp [Builtin.copy_, run_underlying hu, Builtin.lenOf, Builtin.firstCells, sizeOf, typeInfo, hq, hi, <- hn, hl, hst]
theorem wpList_copy_rows {P : Program} {w : World} {ops : Array Oper} {rest : List Oper} {o : Oper} {a : Act} {Q : Exit -> Act -> World -> Prop} (hgd : o.guard = none) (d s : Operand) (dT sT : TypeId)
  (ho : o.op = .call { callee := .builtin .copy, args := #[d, s], argTypes := #[dT, sT] }) (elem : TypeId) (size : Nat) (hu : P.underlying dT = some (.slice elem)) (hsz : (P.info? elem).map (·.size) = some size)
  (g off dLen dCap : Nat) (ad : Addr) (sLen sCap : Nat) (hd : a.eval d = .slice (some ⟨g, off, none⟩) dLen dCap) (hs : a.eval s = .slice (some ad) sLen sCap)
  (cur : Array Value) (t : TypeId) (hg : w.heap[g]? = some (.cells cur t (0, 0))) (cs : List Value) (hn : cs.length = Nat.min sLen dLen * size)
  (hsrc : ∀ j v, cs[j]? = some v -> w.cell? (ad.add j) = some v) (hfit : off + cs.length <= cur.size) (h1 : ∀ v ∈ cs, v.oneCell' = true)
  (h : wpList P ops Q rest (a.put o.dst (goInt (Nat.min sLen dLen))) (w.setRow g (cur.toList.take off ++ (cs ++ cur.toList.drop (off + cs.length))).toArray)) : wpList P ops Q (o :: rest) a w := by
 refine wpList_plain hgd fun K hK => ?_
 have hrun := run_copy_rows (P := P) w dT sT o.type elem size g off dLen dCap ad sLen sCap cur t cs hu hsz hg hn hsrc hfit h1
 unfold Oper.wp
 simp [execOp, ho, resolve, invoke, builtin, hd, hs, hrun, Result.andThen]
 exact hK _ _ h
theorem RdS.cells {α : Type} {size : Nat} {R : Rep α} {B : Nat} {w : World} {b off : Nat} {l : List α} (h : RdS size R B w (some ⟨b, off, none⟩) l) : ∀ k, k <= l.length ->
  ∃ css : List (List Value), css.length = k /\ (∀ c, c ∈ css -> c.length = size) /\ (∀ j, (h1 : j < l.length) -> (h2 : j < css.length) -> R B w css[j] l[j]) /\ ∀ i u, css.flatten[i]? = some u -> w.cell? ⟨b, off + i, none⟩ = some u
 | 0, _ => ⟨[], rfl, (fun _ hc => by cases hc), (fun _ _ h2 => by simp at h2), (fun i u hu => by simp at hu)⟩
 | k + 1, hk => by
  obtain ⟨css, h1, h2, h3, h4⟩ := RdS.cells h k (by omega)
  obtain ⟨b', off', e, _, cs, hc1, hc2, hc3⟩ := h k (by omega)
  simp only [Option.some.injEq, Addr.mk.injEq, and_true] at e
  obtain ⟨rfl, rfl⟩ := e
  have hfl : css.flatten.length = k * size := by
   rw [List.length_flatten]
   have : css.map List.length = List.replicate k size := by
    apply List.ext_getElem
    ·simp [h1]
    ·intro i hi1 hi2
     simp only [List.getElem_map, List.getElem_replicate]
     exact h2 _ (List.getElem_mem _)
   rw [this]
   simp
  refine ⟨css ++ [cs], by simp [h1], ?_, ?_, ?_⟩
  ·intro c hc
   rcases List.mem_append.1 hc with hc | hc
   ·exact h2 c hc
   ·simp at hc; subst hc; exact hc1
  ·intro j hj hj2
   by_cases hjk : j < k
   ·rw [List.getElem_append_left (by omega)]
    exact h3 j hj (by omega)
   ·have hje : j = k := by simp at hj2; omega
    subst hje
    rw [List.getElem_append_right (by omega)]
    simpa [h1] using hc3
  ·intro i u hu
   rw [List.flatten_append] at hu
   by_cases hi : i < k * size
   ·rw [List.getElem?_append_left (by omega)] at hu
    exact h4 i u hu
   ·rw [List.getElem?_append_right (by omega), hfl] at hu
    have h5 := hc2 (i - k * size) u (by simpa using hu)
    rw [show off + k * size + (i - k * size) = off + i from by omega] at h5
    exact h5
theorem flat_part {size : Nat} {css : List (List Value)} (h : ∀ c, c ∈ css -> c.length = size) {j : Nat} (hj : j < css.length) : (css.flatten.drop (j * size)).take size = css[j] := by
 apply List.ext_getElem?
 intro i
 rw [List.getElem?_take, List.getElem?_drop]
 by_cases hi : i < size
 ·rw [if_pos hi, flatten_at h hi, List.getElem?_eq_getElem hj, Option.bind_some]
 ·rw [if_neg hi, List.getElem?_eq_none (by rw [h _ (List.getElem_mem hj)]; omega)]
theorem flat_len {size : Nat} : ∀ {css : List (List Value)}, (∀ c, c ∈ css -> c.length = size) -> css.flatten.length = css.length * size
 | [], _ => by simp
 | c :: r, h => by
  rw [List.flatten_cons, List.length_append, h c (by simp), flat_len (fun x hx => h x (by simp [hx])), List.length_cons, Nat.succ_mul]
  omega
theorem run_copy_none' {P : Program} (w : World) (dT sT ty elem : TypeId) (size : Nat) (dp sp : Option Addr) (dCap sCap : Nat)
  (hu : P.underlying dT = some (.slice elem)) (hs : (P.info? elem).map (·.size) = some size) :
  (Builtin.copy_ #[dT, sT] ty #[.slice dp 0 dCap, .slice sp 0 sCap]).run P w = .ok (goInt 0) w := by
 cases hq : P.info? elem with
 | none => simp [hq] at hs
 | some i => cases sp <;> cases dp <;> simp [Builtin.copy_, run_underlying hu, Builtin.lenOf, Builtin.firstCells, sizeOf, typeInfo, hq, loadCells, loadCellsFrom, storeCells]
section
variable {P : Program} (w : World)
theorem run_append_src_at (base : Nat) (t tx ty e : TypeId) (i : TypeInfo) (z : Value) (size bytes : Nat) (ht : P.underlying t = some (.slice e)) (hi : P.info? e = some i) (hz : i.zero = some z)
  (hsize : i.size = size) (hby : i.bytes = bytes) (hzs : z.cells.size = size)
  (v : Value) (n : Nat) (xs : List Value) (hown : w.ownsRow base e size v n xs) (x : Value) (m : Nat) (news : List Value) (hs : Src P size tx x m news w)
  (h63 : n + m <= maxLen) (hbytes : (n + m) * bytes <= 140737488355328) (hbase : base <= w.heap.size) :
  ∃ v' w', (Builtin.append_ #[t, tx] ty #[v, x]).run P w = .ok v' w' /\ w'.ownsRow base e size v' (n + m) (xs ++ news) /\ w.grownBy w' v.ownBlock /\ (v'.ownBlock = v.ownBlock ∨ v'.ownBlock = some w.heap.size) := by
 subst hsize
 subst hby
 have hl := hs.newsLen
 have hsmall : n + m <= 9223372036854775807 := by simp only [maxLen] at h63; omega
 have hlen : (xs ++ news).length = (n + m) * i.size := by rw [List.length_append, hown.1, hl, Nat.add_mul]
 have grown : ∀ (old : Nat), old < n + m -> ∀ (row : Option Nat),
   (w.drew.alloc (.cells ((xs ++ news).toArray ++ Builtin.zeroCells z.cells (grownCap w (n + m) old e - (n + m))) e)).ownsRow base e i.size
    (.slice (some ⟨w.heap.size, 0, none⟩) (n + m) (grownCap w (n + m) old e)) (n + m) (xs ++ news) /\
   w.grownBy (w.drew.alloc (.cells ((xs ++ news).toArray ++ Builtin.zeroCells z.cells (grownCap w (n + m) old e - (n + m))) e)) row := by
  intro old ho row
  have hge := grownCap_ge w (n + m) old e
  have hcm : grownCap w (n + m) old e <= maxLen := grownCap_le_maxLen w (n + m) old e h63
  refine ⟨⟨hlen, .inr ⟨w.heap.size, _, _, rfl, hbase, heap_alloc_new w.drew _, hge, hcm, ?_, ?_⟩⟩, ⟨rfl, rfl, rfl, by simp, fun k hk _ => Go.heap_alloc_old w.drew _ hk⟩⟩
  ·rw [Array.size_append, List.size_toArray, size_zeroCells, hzs, hlen, <- Nat.add_mul]
   congr 1
   omega
  ·rw [Array.toList_append, <- hlen]
   exact List.take_left
 rcases hown.2 with ⟨rfl, rfl⟩ | ⟨g, cap, cur, rfl, hbg, hg, hnc, hcm, hcs, htake⟩
 ·have hx : xs = [] := List.eq_nil_of_length_eq_zero (by simpa using hown.1)
  subst hx
  by_cases hm : m = 0
  ·subst hm
   have hn : news = [] := List.eq_nil_of_length_eq_zero (by simpa using hl)
   subst hn
   refine ⟨.slice none 0 0, w, ?_, World.ownsRow_nil w base e i.size, World.grownBy.refl _ _, .inl rfl⟩
   rcases hs.kind with ⟨e', hk⟩ | hk <;> simp [Builtin.append_, run_underlying ht, run_underlying hk, sizeOf, typeInfo, hi, hs.len, hs.cells]
  ·have hr := run_append_grow_src (P := P) w t tx ty e i z ht hi hz none 0 0 [] (run_firstCells_none w.drew i.size 0 0 0) x m news hs (by omega) (by omega) (growslice_fits (by omega) hbytes)
   have hgr := grown 0 (by omega) (Value.ownBlock (.slice none 0 0))
   exact ⟨_, _, hr, hgr.1, hgr.2, .inr rfl⟩
 ·by_cases hroom : n + m <= cap
  ·have hfit : n * i.size + news.length <= cur.size := by rw [hl, hcs, <- Nat.add_mul]; exact Nat.mul_le_mul_right _ hroom
   have hr := run_append_room_src (P := P) w t tx ty e i ht hi g 0 n cap x m news hs hroom
    (fun j hj => by rw [Nat.zero_add, cell_of_row w g _ cur e (0, 0) hg, Array.getElem?_eq_getElem (by omega)]; rfl) (fun j hj => frozen_of_row w g _ cur e hg)
   rw [Nat.zero_add] at hr
   obtain ⟨⟨cur', h2, h3, h4⟩, h5⟩ := setCells_row g e news (n * i.size) w cur hg hfit
   refine ⟨_, _, hr, ⟨hlen, .inr ⟨g, cap, cur', rfl, hbg, h2, hroom, hcm, by rw [h3, hcs], ?_⟩⟩, h5, .inl rfl⟩
   rw [Nat.add_mul, <- hl, h4, htake]
  ·have holds : (Builtin.firstCells i.size n (.slice (some ⟨g, 0, none⟩) n cap)).run P w.drew = .ok xs.toArray w.drew :=
    run_firstCells_some w.drew i.size n ⟨g, 0, none⟩ n cap xs hown.1 (by simpa using hown.cells (g := g) rfl)
   have hr := run_append_grow_src (P := P) w t tx ty e i z ht hi hz (some ⟨g, 0, none⟩) n cap xs holds x m news hs (by omega) (by omega) (growslice_fits (by omega) hbytes)
   have hgr := grown cap (by omega) (Value.ownBlock (.slice (some ⟨g, 0, none⟩) n cap))
   exact ⟨_, _, hr, hgr.1, hgr.2, .inr rfl⟩
theorem run_append_lit (base : Nat) (t tx ty e : TypeId) (i : TypeInfo) (z : Value) (size bytes : Nat) (ht : P.underlying t = some (.slice e)) (hi : P.info? e = some i) (hz : i.zero = some z)
  (hsize : i.size = size) (hby : i.bytes = bytes) (hzs : z.cells.size = size)
  (g : Nat) (hown : w.ownsRow base e size (.slice (some ⟨g, 0, none⟩) 0 0) 0 []) (x : Value) (m : Nat) (news : List Value) (hs : Src P size tx x m news w)
  (h63 : m <= maxLen) (hbytes : m * bytes <= 140737488355328) (hbase : base <= w.heap.size) :
  ∃ v' w', (Builtin.append_ #[t, tx] ty #[.slice (some ⟨g, 0, none⟩) 0 0, x]).run P w = .ok v' w' /\ w'.ownsRow base e size v' m news /\ Below w.heap.size w w' /\ (v'.ownBlock = some g ∨ v'.ownBlock = some w.heap.size) := by
 subst hsize
 subst hby
 have hl := hs.newsLen
 rcases hown.2 with ⟨h0, _⟩ | ⟨g', cap, cur, h0, hbg, hg, hnc, hcm, hcs, htake⟩
 ·cases h0
 ·simp only [Value.slice.injEq, Option.some.injEq, Addr.mk.injEq, and_true, true_and] at h0
  obtain ⟨rfl, rfl⟩ := h0
  by_cases hm : m = 0
  ·subst hm
   have hn : news = [] := List.eq_nil_of_length_eq_zero (by simpa using hl)
   subst hn
   have hr := run_append_room_src (P := P) w t tx ty e i ht hi g 0 0 0 x 0 [] hs (by omega) (fun j hj => by simp at hj) (fun j hj => by simp at hj)
   exact ⟨_, _, hr, hown, rB, .inl rfl⟩
  ·have holds : (Builtin.firstCells i.size 0 (.slice (some ⟨g, 0, none⟩) 0 0)).run P w.drew = .ok ([] : List Value).toArray w.drew :=
    run_firstCells_some w.drew i.size 0 ⟨g, 0, none⟩ 0 0 [] (by simp) (fun j u hu => by simp at hu)
   have hr := run_append_grow_src (P := P) w t tx ty e i z ht hi hz (some ⟨g, 0, none⟩) 0 0 [] holds x m news hs (by omega) (by simp only [maxLen] at h63; omega) (growslice_fits (by omega) (by simpa using hbytes))
   simp only [List.nil_append, Nat.zero_add] at hr
   have hge := grownCap_ge w m 0 e
   have hcm2 : grownCap w m 0 e <= maxLen := grownCap_le_maxLen w m 0 e h63
   refine ⟨_, _, hr, ⟨hl, .inr ⟨w.heap.size, _, _, rfl, hbase, heap_alloc_new w.drew _, hge, hcm2, ?_, ?_⟩⟩, Below.alloc (Below.drew rB) rN _, .inr rfl⟩
   ·rw [Array.size_append, List.size_toArray, size_zeroCells, hzs, hl, <- Nat.add_mul]
    congr 1
    omega
   ·rw [Array.toList_append, <- hl]
    exact List.take_left
theorem step_append_lit {ops : Array Oper} {o : Oper} {a : Act} {K : Act -> World -> Prop} {Q : Exit -> Act -> World -> Prop} {E : Prop} (hgd : o.guard = none) (s x : Operand) (t tx : TypeId)
  (ho : o.op = .call { callee := .builtin .append, args := #[s, x], argTypes := #[t, tx] })
  (base : Nat) (e : TypeId) (i : TypeInfo) (z : Value) (size bytes : Nat) (ht : P.underlying t = some (.slice e)) (hi : P.info? e = some i) (hz : i.zero = some z)
  (hsize : i.size = size) (hby : i.bytes = bytes) (hzs : z.cells.size = size)
  (g : Nat) (hs : a.eval s = .slice (some ⟨g, 0, none⟩) 0 0) (hown : w.ownsRow base e size (.slice (some ⟨g, 0, none⟩) 0 0) 0 [])
  (y : Value) (hy : a.eval x = y) (m : Nat) (news : List Value) (hx : Src P size tx y m news w)
  (h63 : m <= maxLen) (hbytes : m * bytes <= 140737488355328) (hbase : base <= w.heap.size)
  (h : ∀ v' w', w'.ownsRow base e size v' m news -> Below w.heap.size w w' -> (v'.ownBlock = some g ∨ v'.ownBlock = some w.heap.size) -> K (a.put o.dst v') w') :
  if Region.wanted o (yielded ops a.tmps) = true then Oper.wp P o a w K Q else E := by
 have hw : Region.wanted o (yielded ops a.tmps) = true := by simp [Region.wanted, hgd]
 rw [if_pos hw]
 subst hy
 obtain ⟨v', w', hr, h2, h3, h4⟩ := run_append_lit (P := P) w base t tx o.type e i z size bytes ht hi hz hsize hby hzs g hown (a.eval x) m news hx h63 hbytes hbase
 unfold Oper.wp execOp
 simp only [ho, resolve, invoke, builtin, Sem.run_bind, Sem.run_pure, Result.andThen_ok, List.map_toArray, List.map_cons, List.map_nil, hs, hr]
 exact h v' w' h2 h3 h4
theorem step_append_src {ops : Array Oper} {o : Oper} {a : Act} {K : Act -> World -> Prop} {Q : Exit -> Act -> World -> Prop} {E : Prop} (hgd : o.guard = none) (s x : Operand) (t tx : TypeId)
  (ho : o.op = .call { callee := .builtin .append, args := #[s, x], argTypes := #[t, tx] })
  (base : Nat) (e : TypeId) (i : TypeInfo) (z : Value) (size bytes : Nat) (ht : P.underlying t = some (.slice e)) (hi : P.info? e = some i) (hz : i.zero = some z)
  (hsize : i.size = size) (hby : i.bytes = bytes) (hzs : z.cells.size = size)
  (v : Value) (n : Nat) (xs : List Value) (hs : a.eval s = v) (hown : w.ownsRow base e size v n xs)
  (y : Value) (hy : a.eval x = y) (m : Nat) (news : List Value) (hx : Src P size tx y m news w)
  (h63 : n + m <= maxLen) (hbytes : (n + m) * bytes <= 140737488355328) (hbase : base <= w.heap.size)
  (h : ∀ v' w', w'.ownsRow base e size v' (n + m) (xs ++ news) -> w.grownBy w' v.ownBlock -> (v'.ownBlock = v.ownBlock ∨ v'.ownBlock = some w.heap.size) -> K (a.put o.dst v') w') :
  if Region.wanted o (yielded ops a.tmps) = true then Oper.wp P o a w K Q else E := by
 have hw : Region.wanted o (yielded ops a.tmps) = true := by simp [Region.wanted, hgd]
 rw [if_pos hw]
 subst hy
 obtain ⟨v', w', hr, h2, h3, h4⟩ := run_append_src_at (P := P) w base t tx o.type e i z size bytes ht hi hz hsize hby hzs v n xs hown (a.eval x) m news hx h63 hbytes hbase
 unfold Oper.wp execOp
 simp only [ho, resolve, invoke, builtin, Sem.run_bind, Sem.run_pure, Result.andThen_ok, List.map_toArray, List.map_cons, List.map_nil, hs, hr]
 exact h v' w' h2 h3 h4
end
theorem Turn.drew {F : List Nat} {a b : World} (h : Turn F a b) : Turn F a b.drew := h.trans (Turn.ofBelow (Below.drew rB))
theorem Turn.alloc {F : List Nat} {a b : World} (h : Turn F a b) (o : Obj) : Turn F a (b.alloc o) := h.trans (Turn.ofBelow (Below.alloc rB rN o))
theorem Turn.join {F G : List Nat} {a b c : World} (h : Turn F a b) (k : Turn G b c) (hG : ∀ x, x ∈ G -> x ∈ F ∨ a.heap.size <= x) : Turn F a c :=
 ⟨k.os.trans h.os, k.tape.trans h.tape, k.output.trans h.output, Nat.le_trans h.size k.size, fun i hi hF => (k.block i (Nat.lt_of_lt_of_le hi h.size) (fun hm => by rcases hG i hm with h1 | h1; exact hF h1; omega)).trans (h.block i hi hF)⟩
theorem own_slice {w : World} {base e size n : Nat} {v : Value} {xs : List Value} (h : w.ownsRow base e size v n xs) : ∃ a c, v = .slice a n c := by
 rcases h.2 with ⟨rfl, h0⟩ | ⟨g, cap, cur, rfl, _⟩
 ·exact ⟨none, 0, by rw [h0]⟩
 ·exact ⟨_, cap, rfl⟩
theorem ownS.push {α : Type} {size : Nat} {e : TypeId} {O : ORep α} {R : Rep α} (hO : O.Good R size) {w : World} {v : Value} {l : List α} {F : List Nat} (h : ownS size e O w v l F) (hN : F.Nodup) :
  ∃ xs, w.ownsRow 0 e size v l.length xs /\ ∀ (w' : World) (v' : Value) (news : List Value) (m' : α) (Fx : List Nat), w'.ownsRow 0 e size v' (l.length + 1) (xs ++ news) -> w.grownBy w' v.ownBlock -> (v'.ownBlock = v.ownBlock ∨ v'.ownBlock = some w.heap.size) -> O w news m' Fx -> Fx.Nodup -> (∀ b, b ∈ Fx -> b ∉ F) ->
   ∃ F', ownS size e O w' v' (l ++ [m']) F' /\ F'.Nodup /\ ∀ b, b ∈ F' -> b ∈ F ∨ b ∈ Fx ∨ b = w.heap.size := by
 have key : ∀ (Fs : List (List Nat)) (xs : List Value), Fs.length = l.length -> (∀ j, (h : j < l.length) -> O w ((xs.drop (j * size)).take size) l[j] (Fs.getD j [])) -> (∀ b, b ∈ Fs.flatten -> b ∈ F) -> Fs.flatten.Nodup -> (∀ k, v.ownBlock = some k -> k ∈ F /\ k ∉ Fs.flatten) -> xs.length = l.length * size -> 
   ∀ (w' : World) (v' : Value) (news : List Value) (m' : α) (Fx : List Nat), w'.ownsRow 0 e size v' (l.length + 1) (xs ++ news) -> w.grownBy w' v.ownBlock -> (v'.ownBlock = v.ownBlock ∨ v'.ownBlock = some w.heap.size) -> O w news m' Fx -> Fx.Nodup -> (∀ b, b ∈ Fx -> b ∉ F) ->
   ∃ F', ownS size e O w' v' (l ++ [m']) F' /\ F'.Nodup /\ ∀ b, b ∈ F' -> b ∈ F ∨ b ∈ Fx ∨ b = w.heap.size := by
  intro Fs xs f1 f2 f3 f4 f5 hxl w' v' news m' Fx ho hg hat hx hxN hxF
  have hnl := hO.len hx
  have hfr : ∀ b, b < w.heap.size -> (∀ k, v.ownBlock = some k -> b ≠ k) -> w'.heap[b]? = w.heap[b]? := fun b hb hne => hg.block b hb (fun hh => hne b hh.symm rfl)
  have hFlt : ∀ j, (h : j < l.length) -> ∀ b, b ∈ Fs.getD j [] -> b < w.heap.size := fun j hj b hb => hO.lt (f2 j hj) b hb
  have hFin : ∀ j, (h : j < l.length) -> ∀ b, b ∈ Fs.getD j [] -> b ∈ Fs.flatten := fun j hj b hb => mem_flatten_getD (by omega) hb
  rcases ho.2 with ⟨_, h0⟩ | ⟨g, cap, cur, rfl, hb, hg', hnc, hm, hs, ht⟩
  ·omega
  ·have hgb : g ∈ F ∨ g = w.heap.size := by
    rcases hat with h | h
    ·exact .inl (f5 g h.symm).1
    ·right; simpa [Value.ownBlock] using h
   have hgn : g ∉ (Fs ++ [Fx]).flatten := by
    rw [List.flatten_append, List.mem_append]
    rintro (h | h)
    ·rcases hat with h' | h'
     ·exact (f5 g h'.symm).2 h
     ·have hgw : g = w.heap.size := by simpa [Value.ownBlock] using h'
      obtain ⟨j, hj, hjb⟩ := of_mem_flatten h
      have := hFlt j (by omega) g hjb
      omega
    ·have h : g ∈ Fx := by simpa using h
     rcases hgb with h' | h'
     ·exact hxF g h h'
     ·have := hO.lt hx g h; omega
   refine ⟨g :: (Fs ++ [Fx]).flatten, .inr ⟨g, cap, cur, Fs ++ [Fx], by simp, hg', by simpa using hnc, hm, hs, by simp [f1], ?_, rfl⟩, List.nodup_cons.2 ⟨hgn, ?_⟩, ?_⟩
   ·intro j hj
    have hj1 : j <= l.length := by simp at hj; omega
    have hpart : ∀ j, j <= l.length -> (cur.toList.drop (j * size)).take size = ((xs ++ news).drop (j * size)).take size := by
     intro j hj
     rw [<- ht]
     have hmul : (j + 1) * size <= (l.length + 1) * size := Nat.mul_le_mul_right _ (by omega)
     rw [Nat.succ_mul] at hmul
     apply List.ext_getElem?
     intro i
     rw [List.getElem?_take, List.getElem?_take, List.getElem?_drop, List.getElem?_drop, List.getElem?_take]
     by_cases hi : i < size
     ·rw [if_pos hi, if_pos hi, if_pos (by omega)]
     ·rw [if_neg hi, if_neg hi]
    by_cases hjl : j < l.length
    ·have e1 : ((xs ++ news).drop (j * size)).take size = (xs.drop (j * size)).take size := by
      have hmul : (j + 1) * size <= l.length * size := Nat.mul_le_mul_right _ hjl
      rw [Nat.succ_mul] at hmul
      apply List.ext_getElem?
      intro i
      rw [List.getElem?_take, List.getElem?_take, List.getElem?_drop, List.getElem?_drop]
      by_cases hi : i < size
      ·rw [if_pos hi, if_pos hi, List.getElem?_append_left (by omega)]
      ·rw [if_neg hi, if_neg hi]
     have e2 : (Fs ++ [Fx]).getD j [] = Fs.getD j [] := by rw [List.getD_eq_getElem?_getD, List.getD_eq_getElem?_getD, List.getElem?_append_left (by omega)]
     rw [hpart j hj1, e1, e2, List.getElem_append_left hjl]
     refine hO.frame (f2 j hjl) (fun b hb => hfr b (hFlt j hjl b hb) (fun k hk hbk => ?_))
     subst hbk
     exact (f5 b hk).2 (hFin j hjl b hb)
    ·have hje : j = l.length := by omega
     subst hje
     have e1 : ((xs ++ news).drop (l.length * size)).take size = news := by
      rw [<- hxl, List.drop_left, List.take_of_length_le (by omega)]
     have e2 : (Fs ++ [Fx]).getD l.length [] = Fx := by rw [List.getD_eq_getElem?_getD, List.getElem?_append_right (by omega), f1, Nat.sub_self]; rfl
     rw [hpart _ hj1, e1, e2]
     have e3 : (l ++ [m'])[l.length] = m' := by simp
     rw [e3]
     refine hO.frame hx (fun b hb => hfr b (hO.lt hx b hb) (fun k hk hbk => ?_))
     subst hbk
     exact hxF b hb (f5 b hk).1
   ·rw [List.flatten_append]
    refine List.nodup_append.2 ⟨f4, by simpa using hxN, ?_⟩
    intro a ha b hb' hab
    subst hab
    exact hxF a (by simpa using hb') (f3 a ha)
   ·intro b hb
    rcases List.mem_cons.1 hb with rfl | hb
    ·rcases hgb with h | h
     ·exact .inl h
     ·exact .inr (.inr h)
    ·rw [List.flatten_append, List.mem_append] at hb
     rcases hb with hb | hb
     ·exact .inl (f3 b hb)
     ·exact .inr (.inl (by simpa using hb))
 rcases h with ⟨rfl, rfl, rfl⟩ | ⟨g, cap, cur, Fs, rfl, h2, h3, h4, h5, h6, h7, rfl⟩
 ·exact ⟨[], World.ownsRow_nil w 0 e size, key [] [] rfl (fun j hj => by simp at hj) (fun b hb => by simp at hb) (by simp) (fun k hk => by simp [Value.ownBlock] at hk) (by simp)⟩
 ·rw [List.nodup_cons] at hN
  have hcl : cur.toList.length = cap * size := by simpa using h5
  have hle : l.length * size <= cap * size := Nat.mul_le_mul_right _ h3
  refine ⟨cur.toList.take (l.length * size), ⟨by rw [List.length_take]; omega, .inr ⟨g, cap, cur, rfl, Nat.zero_le _, h2, h3, h4, h5, rfl⟩⟩, key Fs _ h6 ?_ (fun b hb => List.mem_cons_of_mem _ hb) hN.2 (fun k hk => by simp [Value.ownBlock] at hk; subst hk; exact ⟨by simp, hN.1⟩) (by rw [List.length_take]; omega)⟩
  intro j hj
  have hmul : (j + 1) * size <= l.length * size := Nat.mul_le_mul_right _ hj
  rw [Nat.succ_mul] at hmul
  have e1 : ((cur.toList.take (l.length * size)).drop (j * size)).take size = (cur.toList.drop (j * size)).take size := by
   apply List.ext_getElem?
   intro i
   rw [List.getElem?_take, List.getElem?_take, List.getElem?_drop, List.getElem?_drop, List.getElem?_take]
   by_cases hi : i < size
   ·rw [if_pos hi, if_pos hi, if_pos (by omega)]
   ·rw [if_neg hi, if_neg hi]
  rw [e1]
  exact h7 j hj
def Bw (w : World) (b : Nat) (t : TypeId) (vs : List Value) : Prop := w.heap[b]? = some (.cells vs.toArray t (0, 0))
theorem Bw.lt {w : World} {b : Nat} {t : TypeId} {vs : List Value} (h : Bw w b t vs) : b < w.heap.size := (Array.getElem?_eq_some_iff.1 h).1
theorem Bw.cell {w : World} {b : Nat} {t : TypeId} {vs : List Value} (h : Bw w b t vs) (i : Nat) (u : Value) (hu : vs[i]? = some u) : w.cell? ⟨b, i, none⟩ = some u := by
 rw [cell_of_row w b i vs.toArray t (0, 0) h]
 simpa using hu
theorem Bw.free {w : World} {b : Nat} {t : TypeId} {vs : List Value} (h : Bw w b t vs) (i : Nat) : w.frozen? ⟨b, i, none⟩ = false := frozen_of_row w b i _ t h
theorem Bw.c4 {w : World} {b : Nat} {t : TypeId} {v0 v1 v2 v3 : Value} (h : Bw w b t [v0, v1, v2, v3]) : w.cell? ⟨b, 0, none⟩ = some v0 /\ w.cell? ⟨b, 1, none⟩ = some v1 /\ w.cell? ⟨b, 2, none⟩ = some v2 /\ w.cell? ⟨b, 3, none⟩ = some v3 := ⟨h.cell 0 _ rfl, h.cell 1 _ rfl, h.cell 2 _ rfl, h.cell 3 _ rfl⟩
theorem Bw.f4 {w : World} {b : Nat} {t : TypeId} {vs : List Value} (h : Bw w b t vs) : w.frozen? ⟨b, 0, none⟩ = false /\ w.frozen? ⟨b, 1, none⟩ = false /\ w.frozen? ⟨b, 2, none⟩ = false /\ w.frozen? ⟨b, 3, none⟩ = false := ⟨h.free 0, h.free 1, h.free 2, h.free 3⟩
theorem Bw.c8 {w : World} {b : Nat} {t : TypeId} {v0 v1 v2 v3 : Value} (h : Bw w b t [v0, v1, v2, v3]) : w.cell? ⟨b, 0, none⟩ = some v0 /\ w.frozen? ⟨b, 0, none⟩ = false /\ w.cell? ⟨b, 1, none⟩ = some v1 /\ w.frozen? ⟨b, 1, none⟩ = false /\ w.cell? ⟨b, 2, none⟩ = some v2 /\ w.frozen? ⟨b, 2, none⟩ = false /\ w.cell? ⟨b, 3, none⟩ = some v3 /\ w.frozen? ⟨b, 3, none⟩ = false := ⟨h.cell 0 _ rfl, h.free 0, h.cell 1 _ rfl, h.free 1, h.cell 2 _ rfl, h.free 2, h.cell 3 _ rfl, h.free 3⟩
theorem Bw.below {B : Nat} {w w' : World} {b : Nat} {t : TypeId} {vs : List Value} (h : Bw w b t vs) (hb : Below B w w') (hB : b < B) : Bw w' b t vs := (hb.block b hB).trans h
theorem Bw.under {w w' : World} {b : Nat} {t : TypeId} {vs : List Value} (h : Bw w b t vs) (hb : Below w.heap.size w w') : Bw w' b t vs := h.below hb h.lt
theorem Bw.turn {F : List Nat} {w w' : World} {b : Nat} {t : TypeId} {vs : List Value} (h : Bw w b t vs) (ht : Turn F w w') (hF : b ∉ F) : Bw w' b t vs := (ht.block b h.lt hF).trans h
theorem Bw.alloc {w : World} {b : Nat} {t : TypeId} {vs : List Value} (h : Bw w b t vs) (o : Obj) : Bw (w.alloc o) b t vs := h.under (rB.alloc rN o)
theorem Bw.new (w : World) (t : TypeId) (vs : List Value) : Bw (w.alloc (.cells vs.toArray t)) w.heap.size t vs := by
 show (w.heap.push _)[w.heap.size]? = _
 rw [Array.getElem?_push_size]
theorem Bw.new' (w : World) (t : TypeId) (vs : List Value) {b : Nat} (hb : b = w.heap.size) : Bw (w.alloc (.cells vs.toArray t)) b t vs := by
 subst hb
 exact Bw.new w t vs
theorem Bw.drew {w : World} {b : Nat} {t : TypeId} {vs : List Value} (h : Bw w b t vs) : Bw w.drew b t vs := h
theorem Bw.put {w : World} {b : Nat} {t : TypeId} {vs : List Value} (h : Bw w b t vs) (i : Nat) (u : Value) : Bw (w.setCell ⟨b, i, none⟩ u) b t (vs.set i u) := by
 have := heap_setCell_same w b i vs.toArray t u h
 unfold Bw
 rw [this]
 simp
theorem turn4 (w : World) (b : Nat) (u0 u1 u2 u3 : Value) : Turn [b] w ((((w.setCell ⟨b, 0, none⟩ u0).setCell ⟨b, 1, none⟩ u1).setCell ⟨b, 2, none⟩ u2).setCell ⟨b, 3, none⟩ u3) :=
 Turn.setCell (Turn.setCell (Turn.setCell (Turn.setCell (Turn.refl _ _) (by simp) _) (by simp) _) (by simp) _) (by simp) _
theorem ownS.leaf {α : Type} {size : Nat} {e : TypeId} {O : ORep α} {R : Rep α} (hO : O.Good R size) {w : World} {a : Option Addr} {c : Nat} {l : List α} {F : List Nat} (h : ownS size e O w (.slice a l.length c) l F) : LeafL size R w.heap.size w a c l := by
 obtain ⟨a', c', he, h1, h2, h3⟩ := ownS.read hO h
 simp only [Value.slice.injEq, true_and] at he
 obtain ⟨rfl, rfl⟩ := he
 exact ⟨h1, h2, h3⟩
end Go.Proofs.YtegonncmopecnaaGreatDoor

namespace Go.Proofs.YtegonncmopecnaaGreatDoor
open Go.RowKit
theorem Bx.grown {w w' : World} {b : Nat} {vs : List Value} {r : Option Nat} (h : Bx w b vs) (hg : w.grownBy w' r) (hr : r ≠ some b) : Bx w' b vs :=
 ⟨Nat.lt_of_lt_of_le h.1 hg.size, fun i u hu => (World.cell?_of_block (w := w) (hg.block b h.1 (fun e => hr e.symm))).trans (h.2 i u hu)⟩
set_option maxHeartbeats 400000 in
theorem l1Str_ok {g : Nat} {w : World} (b n : Nat) (ss : List ByteArray) (hc : CurOk w g) (hb : Bx w b (ss.map Value.string)) (hne : b ≠ g) (hn : ss.length = n) (h0 : 0 < n) (h1 : n <= 1000000) :
  Calls Tryz.prog 71 #[.pointer (some ⟨g, 0, none⟩), .slice (some ⟨b, 0, none⟩) n n] w fun e w' => ∃ s, (s ∈ ss /\ e = .returned (.string s)) /\ CurOk w' g /\ w.grownBy w' (some g) := by
 have HN := Hm hn
 clear hn
 go_enter Tryz.func71, Tryz.ntmps71
 go_wp2_with fail
 refine (l1Below_ok _ hc).mono ?_
 rintro e w1 ⟨x, rfl, hx, hc1, hg1⟩
 obtain ⟨x, rfl⟩ := Int.eq_ofNat_of_zero_le hx.1
 have hxm : x < n := by omega
 have hxs : x < ss.length := by rw [HN.out]; exact hxm
 have hcell := (hb.grown hg1 (fun e => hne (Option.some.inj e).symm)).2 x (.string ss[x]) (by simp [hxs])
 have HM := Hm (List.getElem_mem hxs)
 generalize ss[x] = s at *
 clear hx
 go_wp2_with fail
 go_ret
 exact ⟨s, ⟨HM.out, rfl⟩, hc1, hg1⟩
set_option maxHeartbeats 400000 in
theorem l1Once_ok {g : Nat} {w : World} (q : Int) (hc : CurOk w g) :
  Calls Tryz.prog 15 #[.pointer (some ⟨g, 0, none⟩), .int .i64 q] w fun e w' => ∃ x : Bool, e = .returned (.bool x) /\ CurOk w' g /\ w.grownBy w' (some g) := by
 go_enter Tryz.func15, Tryz.ntmps15
 go_wp2_with fail
 refine (l1Below_ok _ hc).mono ?_
 rintro e w1 ⟨x, rfl, hx, hc1, hg1⟩
 go_wp2_with fail
 go_ret
 exact ⟨_, rfl, hc1, hg1⟩
def namesL : List ByteArray := [⟨#[97]⟩, ⟨#[98]⟩, ⟨#[108, 111, 103, 45, 49]⟩, ⟨#[99, 117, 114]⟩, ⟨#[116, 109, 112]⟩, ⟨#[120, 46, 57]⟩]
theorem namesL_short : ∀ s, s ∈ namesL -> s.size <= 20 := by decide
def oddsL : List ByteArray := [⟨#[]⟩, ⟨#[65]⟩, ⟨#[116, 104, 105, 114, 116, 101, 101, 110, 45, 108, 111, 110, 103]⟩, ⟨#[116, 119, 101, 108, 118, 101, 45, 108, 111, 110, 103, 49]⟩, ⟨#[97, 32, 98]⟩]
theorem oddsL_short : ∀ s, s ∈ oddsL -> s.size <= 20 := by decide
set_option maxHeartbeats 400000 in
theorem l2DrawName_ok {g : Nat} {w : World} (hc : CurOk w g) :
  Calls Tryz.prog 33 #[.pointer (some ⟨g, 0, none⟩)] w fun e w' => ∃ s : ByteArray, (e = .returned (.string s) /\ s ∈ namesL) /\ CurOk w' g /\ w.grownBy w' (some g) := by
 have hgl := hc.lt
 go_enter Tryz.func33, Tryz.ntmps33
 go_wp2_with fail
 refine (l1Str_ok w.heap.size 6 namesL (hc.below (rB.alloc rN _)) (Bx.new w (namesL.map Value.string) 9) (by omega) rfl (by omega) (by omega)).mono ?_
 rintro e w1 ⟨s, ⟨hs, rfl⟩, hc1, hg1⟩
 have HS := Hm hs
 clear hs
 go_wp2_with fail
 go_ret
 exact ⟨s, ⟨rfl, HS.out⟩, hc1, grown_trans (World.grownBy_alloc w _ _) hg1⟩
set_option maxHeartbeats 400000 in
theorem l2NameAny_ok {g : Nat} {w : World} (hc : CurOk w g) :
  Calls Tryz.prog 43 #[.pointer (some ⟨g, 0, none⟩)] w fun e w' => ∃ s : ByteArray, (e = .returned (.string s) /\ s.size <= 20) /\ CurOk w' g /\ w.grownBy w' (some g) := by
 go_enter Tryz.func43, Tryz.ntmps43
 go_wp2_with fail
 refine (l1Once_ok _ hc).mono ?_
 rintro e w1 ⟨x, rfl, hc1, hg1⟩
 have hgl := hc1.lt
 cases x
 ·go_wp2_with fail
  refine (l2DrawName_ok hc1).mono ?_
  rintro e w2 ⟨s, ⟨rfl, hs⟩, hc2, hg2⟩
  have hz := namesL_short s hs
  go_wp2_with fail
  go_ret
  exact ⟨s, ⟨rfl, hz⟩, hc2, grown_trans hg1 hg2⟩
 ·go_wp2_with fail
  refine (l1Str_ok w1.heap.size 5 oddsL (hc1.below (rB.alloc rN _)) (Bx.new w1 (oddsL.map Value.string) 9) (by omega) rfl (by omega) (by omega)).mono ?_
  rintro e w2 ⟨s, ⟨hs, rfl⟩, hc2, hg2⟩
  have hz := oddsL_short s hs
  go_wp2_with fail
  go_ret
  exact ⟨s, ⟨rfl, hz⟩, hc2, grown_trans hg1 (grown_trans (World.grownBy_alloc w1 _ _) hg2)⟩
def DBox (w : World) (b : Nat) : Prop := ∃ (t : TypeId) (a0 a1 a2 : Option Addr) (n0 c0 n1 c1 n2 c2 : Nat) (z : Int), Bw w b t [.slice a0 n0 c0, .slice a1 n1 c1, .slice a2 n2 c2, .int .i64 z]
theorem DBox.at {w : World} {b : Nat} (h : DBox w b) (k : Nat) : (∃ a n c, w.cell? ⟨b, k, none⟩ = some (.slice a n c)) ∨ (k = 3 /\ ∃ z, w.cell? ⟨b, k, none⟩ = some (.int .i64 z)) ∨ (4 <= k /\ w.cell? ⟨b, k, none⟩ = none) := by
 obtain ⟨t, a0, a1, a2, n0, c0, n1, c1, n2, c2, z, hb⟩ := h
 have hc := cell_of_row w b k _ t (0, 0) hb
 rw [hc]
 match k with
 | 0 => exact .inl ⟨_, _, _, rfl⟩
 | 1 => exact .inl ⟨_, _, _, rfl⟩
 | 2 => exact .inl ⟨_, _, _, rfl⟩
 | 3 => exact .inr (.inl ⟨rfl, _, rfl⟩)
 | k + 4 => exact .inr (.inr ⟨by omega, rfl⟩)
section
variable {B : Nat} {w w' : World} {b : Nat}
theorem turn_cell (h : Turn [b] w w') {g k : Nat} (hg : g ≠ b) {u : Value} (hu : w.cell? ⟨g, k, none⟩ = some u) : w'.cell? ⟨g, k, none⟩ = some u := by
 have hlt : g < w.heap.size := World.block_lt_of_cell? _ _ hu
 have hs := h.block g hlt (by simpa using hg)
 have : w'.cell? ⟨g, k, none⟩ = w.cell? ⟨g, k, none⟩ := by simp [World.cell?, hs]
 rw [this, hu]
theorem leafB_turn (hx : DBox w b) (h : Turn [b] w w') {a : Option Addr} {c : Nat} {zs : List Int} (hl : LeafB B w a c zs) : LeafB B w' a c zs := by
 refine ⟨hl.1, hl.2.1, fun j hj => ?_, hl.2.2.2⟩
 obtain ⟨g, off, e, hB, hc⟩ := hl.2.2.1 j hj
 refine ⟨g, off, e, hB, turn_cell h ?_ hc⟩
 rintro rfl
 rcases hx.at (off + j) with ⟨_, _, _, h1⟩ | ⟨_, z, h1⟩ | ⟨_, h1⟩ <;> rw [hc] at h1 <;> cases h1
theorem leafE_turn (hx : DBox w b) (h : Turn [b] w w') {a : Option Addr} {c : Nat} {l : List MEntry} (hl : LeafL 2 rEntry B w a c l) : LeafL 2 rEntry B w' a c l := by
 refine ⟨hl.1, hl.2.1, fun j hj => ?_⟩
 obtain ⟨g, off, e, hB, cs, h1, h2, h3⟩ := hl.2.2 j hj
 have h3' := h3
 obtain ⟨rfl, _⟩ := h3
 have hne : g ≠ b := by
  rintro rfl
  have h4 := h2 0 _ rfl
  rcases hx.at (off + j * 2 + 0) with ⟨_, _, _, h5⟩ | ⟨_, z, h5⟩ | ⟨_, h5⟩ <;> rw [h4] at h5 <;> cases h5
 exact ⟨g, off, e, hB, _, h1, fun i u hu => turn_cell h hne (h2 i u hu), h3'⟩
theorem leafI_turn (hx : DBox w b) (h : Turn [b] w w') {a : Option Addr} {c : Nat} {l : List MInode} (hl : LeafL 3 rInode B w a c l) : LeafL 3 rInode B w' a c l := by
 refine ⟨hl.1, hl.2.1, fun j hj => ?_⟩
 obtain ⟨g, off, e, hB, cs, h1, h2, a1, c1, rfl, h3, h4, h5, _⟩ := hl.2.2 j hj
 have hne : g ≠ b := by
  rintro rfl
  have h6 := h2 0 _ rfl
  have h7 := h2 1 _ rfl
  rcases hx.at (off + j * 3 + 0) with ⟨_, _, _, h8⟩ | ⟨hk, z, h8⟩ | ⟨_, h8⟩
  ·rw [h6] at h8; cases h8
  ·rcases hx.at (off + j * 3 + 1) with ⟨_, _, _, h9⟩ | ⟨hk2, z, h9⟩ | ⟨_, h9⟩
   ·have hk3 : off + j * 3 + 1 = 4 := by omega
    have := hx.at 4
    rw [hk3] at h9
    rcases this with ⟨_, _, _, h10⟩ | ⟨h10, _⟩ | ⟨_, h10⟩
    ·obtain ⟨t, b0, b1, b2, n0, c0, n1, c1', n2, c2, z2, hb⟩ := hx
     have hc := cell_of_row w g 4 _ t (0, 0) hb
     rw [hc] at h10
     cases h10
    ·omega
    ·rw [h10] at h9; cases h9
   ·omega
   ·rw [h7] at h9; cases h9
  ·rw [h6] at h8; cases h8
 exact ⟨g, off, e, hB, _, h1, fun i u hu => turn_cell h hne (h2 i u hu), a1, c1, rfl, h3, leafB_turn hx h h4, h5, trivial⟩
theorem rDisk_turn {cs : List Value} {m : MDisk} (hx : DBox w b) (h : Turn [b] w w') (hr : rDisk B w cs m) : rDisk B w' cs m := by
 obtain ⟨a0, c0, a1, c1, a2, c2, rfl, h0, h1, h2, h3, _⟩ := hr
 exact ⟨a0, c0, a1, c1, a2, c2, rfl, leafI_turn hx h h0, leafE_turn hx h h1, leafE_turn hx h h2, h3, trivial⟩
end
theorem Bw.dbox {w : World} {b : Nat} {t : TypeId} {cs : List Value} {B : Nat} {W : World} {m : MDisk} (h : Bw w b t cs) (hr : rDisk B W cs m) : DBox w b := by
 obtain ⟨a0, c0, a1, c1, a2, c2, rfl, _⟩ := hr
 exact ⟨t, a0, a1, a2, _, _, _, _, _, _, _, h⟩
theorem Bw.dzero {w : World} {b : Nat} {t : TypeId} (h : Bw w b t [.slice none 0 0, .slice none 0 0, .slice none 0 0, .int .i64 0]) : DBox w b := ⟨t, _, _, _, _, _, _, _, _, _, _, h⟩
end Go.Proofs.YtegonncmopecnaaGreatDoor

namespace Go.Proofs.YtegonncmopecnaaGreatDoor
open Go.RowKit
theorem ownS_ents {w : World} {elem g n : Nat} {l : List MEntry} {css : List (List Value)} (hl : l.length = n) (hm : n <= maxLen) (hc : css.length = n) (h2 : ∀ c, c ∈ css -> c.length = 2) {B : Nat} {w0 : World} (h3 : ∀ j, (h1 : j < l.length) -> (h2 : j < css.length) -> rEntry B w0 css[j] l[j])
  (hg : w.heap[g]? = some (.cells css.flatten.toArray elem (0, 0))) : ownS 2 elem oEntry w (.slice (some ⟨g, 0, none⟩) n n) l [g] := by
 refine .inr ⟨g, n, _, List.replicate n [], by rw [hl], hg, by omega, hm, by rw [List.size_toArray, flat_len h2, hc], by simp [hl], ?_, by simp⟩
 intro j hj
 have hj2 : j < css.length := by omega
 rw [List.toList_toArray, flat_part h2 hj2]
 obtain ⟨e1, e2, e3, _⟩ := h3 j hj hj2
 refine ⟨e1, e2, e3, ?_⟩
 rw [List.getD_eq_getElem?_getD]
 simp [show j < n from by omega]
theorem wpList_copy_ent {P : Program} {w : World} {ops : Array Oper} {rest : List Oper} {o : Oper} {a : Act} {Q : Exit -> Act -> World -> Prop} (hgd : o.guard = none) (d s : Operand) (dT sT : TypeId)
  (ho : o.op = .call { callee := .builtin .copy, args := #[d, s], argTypes := #[dT, sT] }) (elem : TypeId) (hu : P.underlying dT = some (.slice elem)) (hsz : (P.info? elem).map (·.size) = some 2)
  (g n c : Nat) (ao : Option Addr) (hd : a.eval d = .slice (some ⟨g, 0, none⟩) n n) (hs : a.eval s = .slice ao n c)
  (cur : Array Value) (hg : w.heap[g]? = some (.cells cur elem (0, 0))) (hcur : cur.size = n * 2) (l : List MEntry) (hl : l.length = n) (B : Nat) (hr : RdS 2 rEntry B w ao l) (hm : n <= maxLen)
  (h : ∀ w', ownS 2 elem oEntry w' (.slice (some ⟨g, 0, none⟩) n n) l [g] -> Turn [g] w w' -> wpList P ops Q rest (a.put o.dst (goInt n)) w') : wpList P ops Q (o :: rest) a w := by
 by_cases h0 : n = 0
 ·subst h0
  have hnil : l = [] := List.eq_nil_of_length_eq_zero hl
  subst hnil
  refine wpList_plain hgd fun K hK => ?_
  have hrun := run_copy_none' (P := P) w dT sT o.type elem 2 (some ⟨g, 0, none⟩) ao 0 c hu hsz
  unfold Oper.wp
  simp [execOp, ho, resolve, invoke, builtin, hd, hs, hrun, Result.andThen]
  refine hK _ _ (h w ?_ (Turn.refl _ _))
  exact ownS_ents (css := []) rfl (by simp [maxLen]) rfl (fun _ hc => by cases hc) (B := B) (w0 := w) (fun j hj => by simp at hj) (by have : cur = #[] := Array.eq_empty_of_size_eq_zero (by omega); rw [this] at hg; simpa using hg)
 ·obtain ⟨b, off, rfl, _⟩ := hr 0 (by omega)
  obtain ⟨css, c1, c2, c3, c4⟩ := hr.cells l.length rN
  have hfl := flat_len c2
  rw [c1, hl] at hfl
  have hone : ∀ v ∈ css.flatten, v.oneCell' = true := by
   intro v hv
   obtain ⟨cs, hcs, hvc⟩ := List.mem_flatten.1 hv
   obtain ⟨j, hj, rfl⟩ := List.mem_iff_getElem.1 hcs
   obtain ⟨e1, _⟩ := c3 j (by omega) hj
   rw [e1] at hvc
   simp at hvc
   rcases hvc with rfl | rfl <;> rfl
  refine wpList_copy_rows hgd d s dT sT ho elem 2 hu hsz g 0 n n ⟨b, off, none⟩ n c hd hs cur elem hg css.flatten (by rw [hfl]; simp) ?_ (by omega) hone ?_
  ·intro j v hv
   rw [Addr.add_lit]
   exact c4 j v hv
  ·have e1 : cur.toList.take 0 ++ (css.flatten ++ cur.toList.drop (0 + css.flatten.length)) = css.flatten := by
    rw [List.take_zero, List.nil_append, List.drop_eq_nil_of_le (by rw [Array.length_toList, hcur, Nat.zero_add, hfl]; exact rN), List.append_nil]
   rw [e1]
   have e2 : Nat.min n n = n := Nat.min_self n
   rw [e2]
   refine h _ (ownS_ents hl hm (by omega) c2 c3 (setRow_heap w g cur _ elem _ hg)) ⟨rfl, rfl, rfl, by simp [World.setRow], fun k _ hk => setRow_other w g k _ (fun e => hk (by simp [e]))⟩
theorem Src.ents {P : Program} {w : World} {B : Nat} {a : Option Addr} {l : List MEntry} {tx e' : TypeId} {n c : Nat} (hk : P.underlying tx = some (.slice e')) (hn : l.length = n) (hr : RdS 2 rEntry B w a l) :
  ∃ css : List (List Value), css.length = l.length /\ (∀ c, c ∈ css -> c.length = 2) /\ (∀ j, (h1 : j < l.length) -> (h2 : j < css.length) -> rEntry B w css[j] l[j]) /\ Src P 2 tx (.slice a n c) n css.flatten w := by
 cases a with
 | none =>
  have hz : l = [] := by
   cases l with
   | nil => rfl
   | cons z r =>
    obtain ⟨_, _, h, _⟩ := hr 0 (by simp)
    cases h
  subst hz
  simp only [List.length_nil] at hn
  subst hn
  exact ⟨[], rfl, (fun _ h => by cases h), (fun _ h => by simp at h), Src.ofNil w hk c⟩
 | some ad =>
  by_cases h0 : n = 0
  ·subst h0
   have hz : l = [] := List.eq_nil_of_length_eq_zero hn
   subst hz
   exact ⟨[], rfl, (fun _ h => by cases h), (fun _ h => by simp at h), Src.ofSlice w hk ad 0 c [] (by simp) (fun j u hu => by simp at hu) (fun u hu => by cases hu)⟩
  ·obtain ⟨b, off, e, _⟩ := hr 0 (by omega)
   simp only [Option.some.injEq] at e
   subst e
   obtain ⟨css, c1, c2, c3, c4⟩ := hr.cells l.length rN
   have hfl := flat_len c2
   refine ⟨css, c1, c2, c3, Src.ofSlice w hk ⟨b, off, none⟩ n c css.flatten (by rw [hfl, c1, hn]) (fun j u hu => by rw [Addr.add_lit]; exact c4 j u hu) ?_⟩
   intro v hv
   obtain ⟨cs, hcs, hvc⟩ := List.mem_flatten.1 hv
   obtain ⟨j, hj, rfl⟩ := List.mem_iff_getElem.1 hcs
   obtain ⟨e1, _⟩ := c3 j (by omega) hj
   rw [e1] at hvc
   simp at hvc
   rcases hvc with rfl | rfl <;> rfl
theorem ownS_row {w w0 : World} {base elem : Nat} {v : Value} {l : List MEntry} {css : List (List Value)} {B n : Nat} (hn : l.length = n) (h1 : css.length = l.length) (h2 : ∀ c, c ∈ css -> c.length = 2) (h3 : ∀ j, (h1 : j < l.length) -> (h2 : j < css.length) -> rEntry B w0 css[j] l[j])
  (h : w.ownsRow base elem 2 v n css.flatten) : ownS 2 elem oEntry w v l v.ownBlock.toList := by
 subst hn
 rcases h.2 with ⟨rfl, h0⟩ | ⟨g, cap, cur, rfl, hb, hg, hnc, hm, hs, ht⟩
 ·exact .inl ⟨rfl, List.eq_nil_of_length_eq_zero h0, rfl⟩
 ·refine .inr ⟨g, cap, cur, List.replicate l.length [], rfl, hg, hnc, hm, hs, by simp, ?_, by simp [Value.ownBlock]⟩
  intro j hj
  have hj2 : j < css.length := by omega
  have e0 : (cur.toList.drop (j * 2)).take 2 = css[j] := by
   rw [<- flat_part h2 hj2, <- ht]
   apply List.ext_getElem?
   intro i
   rw [List.getElem?_take, List.getElem?_take, List.getElem?_drop, List.getElem?_drop, List.getElem?_take]
   by_cases hi : i < 2
   ·rw [if_pos hi, if_pos hi, if_pos (by omega)]
   ·rw [if_neg hi, if_neg hi]
  rw [e0]
  obtain ⟨e1, e2, e3, _⟩ := h3 j hj hj2
  refine ⟨e1, e2, e3, ?_⟩
  rw [List.getD_eq_getElem?_getD]
  simp [hj]
theorem oDisk_cells {w : World} {cs : List Value} {m : MDisk} {F : List Nat} (h : oDisk w cs m F) : ∃ a0 c0 a1 c1 a2 c2 F0 F1 F2, cs = [.slice a0 m.fInodes.length c0, .slice a1 m.fNames.length c1, .slice a2 m.fSafe.length c2, .int .i64 m.fNext] /\
  ownS 3 50 oInode w (.slice a0 m.fInodes.length c0) m.fInodes F0 /\ ownS 2 74 oEntry w (.slice a1 m.fNames.length c1) m.fNames F1 /\ ownS 2 74 oEntry w (.slice a2 m.fSafe.length c2) m.fSafe F2 /\ (Lit.int .i64 m.fNext).wf = true /\ F = F0 ++ F1 ++ F2 ++ [] := by
 obtain ⟨v0, F0, v1, F1, v2, F2, rfl, h0, h1, h2, h3, rfl⟩ := h
 obtain ⟨a0, c0, rfl, _⟩ := ownS.read oInode_good h0
 obtain ⟨a1, c1, rfl, _⟩ := ownS.read oEntry_good h1
 obtain ⟨a2, c2, rfl, _⟩ := ownS.read oEntry_good h2
 exact ⟨a0, c0, a1, c1, a2, c2, F0, F1, F2, rfl, h0, h1, h2, h3, rfl⟩
theorem oDisk_inode {w : World} {g c0 : Nat} {a1 a2 : Option Addr} {c1 c2 : Nat} {m : MDisk} {F0 F1 F2 : List Nat} (h0 : ownS 3 50 oInode w (.slice (some ⟨g, 0, none⟩) m.fInodes.length c0) m.fInodes F0) (h1 : ownS 2 74 oEntry w (.slice a1 m.fNames.length c1) m.fNames F1) (h2 : ownS 2 74 oEntry w (.slice a2 m.fSafe.length c2) m.fSafe F2)
  (h3 : (Lit.int .i64 m.fNext).wf = true) (hN : (F0 ++ F1 ++ F2 ++ []).Nodup) {p i : Nat} (hp : p < m.fInodes.length) (hi : i < 3) (u : Value) (f : MInode -> MInode) (Fn : List Nat) (hFn : ∀ b, b ∈ Fn -> b ∉ F0 ++ F1 ++ F2)
  (hm : ∀ cs Fk, oInode w cs m.fInodes[p] Fk -> Fk.Nodup -> ∃ G, oInode w (cs.set i u) (f m.fInodes[p]) G /\ G.Nodup /\ ∀ b, b ∈ G -> b ∈ Fk ∨ b ∈ Fn) :
  ∃ F', oDisk (w.setCell ⟨g, p * 3 + i, none⟩ u) [.slice (some ⟨g, 0, none⟩) m.fInodes.length c0, .slice a1 m.fNames.length c1, .slice a2 m.fSafe.length c2, .int .i64 m.fNext] { m with fInodes := updI m.fInodes p f } F' /\ F'.Nodup /\ (∀ b, b ∈ F' -> b ∈ F0 ++ F1 ++ F2 ∨ b ∈ Fn) /\ g ∈ F0 := by
 rw [List.append_nil, List.append_assoc, List.nodup_append] at hN
 obtain ⟨n0, n1, n2⟩ := hN
 obtain ⟨G, g1, g2, g3, g4⟩ := ownS.cellPut oInode_good h0 n0 hp hi u (f m.fInodes[p]) Fn (fun b hb hb0 => hFn b hb (by simp [hb0])) hm
 have hT : Turn [g] w (w.setCell ⟨g, p * 3 + i, none⟩ u) := Turn.setCell (Turn.refl _ _) (by simp) _
 have hg1 : g ∉ F1 := fun h => n2 g g4 g (by simp [h]) rfl
 have hg2 : g ∉ F2 := fun h => n2 g g4 g (by simp [h]) rfl
 have e1 := ownS.frame (w' := w.setCell ⟨g, p * 3 + i, none⟩ u) oEntry_good h1 (fun b hb => hT.block b (ownS.lt oEntry_good h1 b hb) (by intro h; simp at h; subst h; exact hg1 hb))
 have e2 := ownS.frame (w' := w.setCell ⟨g, p * 3 + i, none⟩ u) oEntry_good h2 (fun b hb => hT.block b (ownS.lt oEntry_good h2 b hb) (by intro h; simp at h; subst h; exact hg2 hb))
 refine ⟨G ++ F1 ++ F2 ++ [], ⟨_, G, _, F1, _, F2, rfl, ?_, e1, e2, h3, rfl⟩, ?_, ?_, g4⟩
 ·rw [updI_at hp]
  exact g1
 ·rw [List.append_nil, List.append_assoc, List.nodup_append]
  refine ⟨g2, n1, fun a ha b hb hab => ?_⟩
  subst hab
  rcases g3 a ha with h | h
  ·exact n2 a h a hb rfl
  ·exact hFn a h (by simp at hb; simp; exact .inr hb)
 ·intro b hb
  simp at hb ⊢
  rcases hb with h | h | h
  ·rcases g3 b h with h | h
   ·exact .inl (.inl h)
   ·exact .inr h
  ·exact .inl (.inr (.inl h))
  ·exact .inl (.inr (.inr h))
theorem Bw.put4 {w : World} {b : Nat} {t : TypeId} {vs : List Value} (h : Bw w b t vs) (hl : vs.length = 4) (x0 x1 x2 x3 : Value) : Bw ((((w.setCell ⟨b, 0, none⟩ x0).setCell ⟨b, 1, none⟩ x1).setCell ⟨b, 2, none⟩ x2).setCell ⟨b, 3, none⟩ x3) b t [x0, x1, x2, x3] := by
 have h4 := (((h.put 0 x0).put 1 x1).put 2 x2).put 3 x3
 obtain ⟨y0, y1, y2, y3, rfl⟩ : ∃ y0 y1 y2 y3, vs = [y0, y1, y2, y3] := by
  match vs, hl with
  | [y0, y1, y2, y3], _ => exact ⟨y0, y1, y2, y3, rfl⟩
 exact h4
def SpW (w : World) (W : World) (cs : List Value) (d : MDisk) : Prop :=
 Bw W (w.heap.size + 1 + 1) 27 cs /\ rDisk W.heap.size W cs d /\ Bw W (w.heap.size + 1) 27 [.slice none 0 0, .slice none 0 0, .slice none 0 0, .int .i64 0] /\ Below w.heap.size w W
theorem SpW.step {w W W' : World} {cs : List Value} {d d' : MDisk} {x0 x1 x2 x3 : Value} (h : SpW w W cs d) (hl : cs.length = 4) (hx : Below W.heap.size W W') (hr : rDisk W'.heap.size W' [x0, x1, x2, x3] d') :
  SpW w ((((W'.setCell ⟨w.heap.size + 1 + 1, 0, none⟩ x0).setCell ⟨w.heap.size + 1 + 1, 1, none⟩ x1).setCell ⟨w.heap.size + 1 + 1, 2, none⟩ x2).setCell ⟨w.heap.size + 1 + 1, 3, none⟩ x3) [x0, x1, x2, x3] d' := by
 obtain ⟨h1, h2, h3, h4⟩ := h
 have hT := turn4 W' (w.heap.size + 1 + 1) x0 x1 x2 x3
 have hb := bthen h4 hx
 have hz : ((((W'.setCell ⟨w.heap.size + 1 + 1, 0, none⟩ x0).setCell ⟨w.heap.size + 1 + 1, 1, none⟩ x1).setCell ⟨w.heap.size + 1 + 1, 2, none⟩ x2).setCell ⟨w.heap.size + 1 + 1, 3, none⟩ x3).heap.size = W'.heap.size := by simp
 refine ⟨(h1.under hx).put4 hl x0 x1 x2 x3, ?_, (h3.under hx).turn hT (by simp), hb.trans (hT.below (fun k hk => by simp at hk; omega) hb.size)⟩
 rw [hz]
 exact rDisk_turn ((h1.under hx).dbox h2) hT hr
def Fit (m : MDisk) : Prop := wDisk m <= 60840
theorem fit_ok {m : MDisk} (h : diskOk m = true) : Fit m := by
 have := ok_weight h
 unfold Fit
 rw [wDisk_eq]
 omega
theorem fit_remove {m : MDisk} {s : ByteArray} (h : Fit m) : Fit (removeP m s) := by
 unfold removeP
 split
 ·rename_i hc
  exact fit_ok (remove_ok (call_good hc).1)
 ·exact h
theorem fit_create {m : MDisk} {s : ByteArray} (h : Fit m) : Fit (createP m s) := by
 unfold createP
 split
 ·rename_i hc
  exact fit_ok hc.2
 ·exact h
theorem fit_append {m : MDisk} {s : ByteArray} {b : List Int} (h : Fit m) : Fit (appendP m s b) := by
 unfold appendP
 split
 ·rename_i hc
  exact fit_ok hc.2
 ·exact h
theorem fit_sync {m : MDisk} {s : ByteArray} (h : Fit m) : Fit (syncP m s) := by
 unfold syncP
 split
 ·have h1 := sumW_updI (l := m.fInodes) (k := fileAt m s) (f := sureI) (c := 0) (fun n => rN)
  have h2 := updI_length (l := m.fInodes) (k := fileAt m s) (f := sureI)
  unfold Fit at h ⊢
  rw [wDisk_eq] at h ⊢
  simp only
  omega
 ·exact h
theorem fit_rename {m : MDisk} {s t : ByteArray} (h : Fit m) : Fit (renameP m s t) := by
 unfold renameP
 split
 ·rename_i hc
  unfold renameC at hc
  split at hc
  ·rename_i ht
   exact fit_ok (rename_ok hc ht)
  ·cases hc
 ·exact h
theorem fit_syncDir {m : MDisk} (h : Fit m) : Fit (syncDirP m) := by
 unfold syncDirP
 split
 ·rename_i hc
  exact fit_ok (syncDir_ok hc)
 ·exact h
theorem fit_fall {m : MDisk} {k : Int} (h : Fit m) : Fit (fallP m k) := by
 unfold fallP
 split
 ·rename_i hc
  have hw := ok_weight hc.1
  have h1 := keepD_weight { m with fNames := m.fSafe }
  rw [wDisk_eq { m with fNames := m.fSafe }] at h1
  unfold keepD at h1
  rw [wDisk_eq] at h1
  unfold Fit
  rw [wDisk_eq]
  have h2 := sumW_map_le (f := cutI k) (fun n => by unfold cutI wInode; simp; omega) (keepI { m with fNames := m.fSafe })
  simp only [List.length_map] at h1 ⊢
  omega
 ·exact h
theorem fit_new : Fit ⟨[], [], [], 1⟩ := by simp [Fit, wDisk, sumW]
theorem Fit.small {m : MDisk} (h : Fit m) : wDisk m <= 1048576 := by unfold Fit at h; omega
def dZ : List Value := [.slice none 0 0, .slice none 0 0, .slice none 0 0, .int .i64 0]
structure DSt (w : World) (g br bd : Nat) (W : World) (cs : List Value) (m : MDisk) : Prop where
 d : Bw W bd 27 cs
 r : Bw W br 27 dZ
 o : ∃ F, oDisk W cs m F /\ ∀ b, b ∈ F -> w.heap.size <= b /\ b ≠ bd /\ b ≠ br
 f : Fit m
 c : CurOk W g
 t : Turn [g] w W
structure DPl (w : World) (g br bd : Nat) : Prop where
 g : g < w.heap.size
 r : w.heap.size <= br
 d : w.heap.size <= bd
 n : br ≠ bd
section
variable {w : World} {g br bd : Nat} {W W' : World} {cs : List Value} {m : MDisk}
theorem DSt.read (h : DSt w g br bd W cs m) : rDisk W.heap.size W cs m := by obtain ⟨F, ho, _⟩ := h.o; exact oDisk_good.read ho
theorem DSt.cur (hp : DPl w g br bd) (h : DSt w g br bd W cs m) (hg : W.grownBy W' (some g)) (hc : CurOk W' g) : DSt w g br bd W' cs m := by
 have ht : Turn [g] W W' := Turn.ofGrown hg (fun k hk => by simp at hk; simp [hk])
 have h1 := hp.g
 have h2 := hp.r
 have h3 := hp.d
 refine ⟨h.d.turn ht (by simp; omega), h.r.turn ht (by simp; omega), ?_, h.f, hc, h.t.trans ht⟩
 obtain ⟨F, ho, hF⟩ := h.o
 refine ⟨F, oDisk_good.frame ho (fun b hb => ht.block b (oDisk_good.lt ho b hb) (fun e => ?_)), hF⟩
 have := (hF b hb).1
 simp at e
 omega
theorem DSt.drew (h : DSt w g br bd W cs m) : DSt w g br bd W.drew cs m :=
 ⟨h.d, h.r, by obtain ⟨F, ho, hF⟩ := h.o; exact ⟨F, oDisk_good.frame ho (fun b hb => rfl), hF⟩, h.f, h.c.below (Below.drew rB), h.t.drew⟩
theorem DSt.put {m' : MDisk} {x0 x1 x2 x3 : Value} (hp : DPl w g br bd) (h : DSt w g br bd W cs m) (hl : cs.length = 4) (hx : Below W.heap.size W W') (ho : ∃ F, oDisk W' [x0, x1, x2, x3] m' F /\ ∀ b, b ∈ F -> W.heap.size <= b) (hf : Fit m') :
  DSt w g br bd ((((W'.setCell ⟨bd, 0, none⟩ x0).setCell ⟨bd, 1, none⟩ x1).setCell ⟨bd, 2, none⟩ x2).setCell ⟨bd, 3, none⟩ x3) [x0, x1, x2, x3] m' := by
 have h1 := hp.g
 have h2 := hp.r
 have h3 := hp.d
 have h4 := hp.n
 have hT := turn4 W' bd x0 x1 x2 x3
 obtain ⟨F, ho, hF⟩ := ho
 have ld := h.d.lt
 have lr := h.r.lt
 have hz := h.t.size
 refine ⟨(h.d.under hx).put4 hl x0 x1 x2 x3, (h.r.under hx).turn hT (by simp; omega), ⟨F, oDisk_good.frame ho (fun b hb => hT.block b (oDisk_good.lt ho b hb) (fun e => ?_)), fun b hb => ?_⟩, hf, ?_, ?_⟩
 ·have := hF b hb
  simp at e
  omega
 ·have := hF b hb
  omega
 ·have hc := h.c.below hx
  obtain ⟨a, n, cap, B, zs, e1, e2, e3, e4, ⟨i, q, e5, e6, e7⟩, e8⟩ := hc
  refine ⟨a, n, cap, B, zs, e1, e2, e3, e4.below (hT.below (fun k hk => by simp at hk; omega) (by have := hx.size; omega)), ⟨i, q, e5, e6, ?_⟩, by simpa using e8⟩
  rw [hT.block g e8 (by simp; omega)]
  exact e7
 ·exact (h.t.trans (Turn.ofBelow hx)).join hT (fun k hk => by simp at hk; right; omega)
theorem CurOk.turn {b : Nat} (h : CurOk W g) (hT : Turn [b] W W') (hb : g < b) : CurOk W' g := by
 obtain ⟨a, n, cap, B, zs, e1, e2, e3, e4, ⟨i, q, e5, e6, e7⟩, e8⟩ := h
 refine ⟨a, n, cap, B, zs, e1, e2, e3, e4.below (hT.below (fun k hk => by simp at hk; omega) (by omega)), ⟨i, q, e5, e6, ?_⟩, Nat.lt_of_lt_of_le e8 hT.size⟩
 rw [hT.block g e8 (by simp; omega)]
 exact e7
theorem DSt.leave (hp : DPl w g br bd) (h : DSt w g br bd W cs m) (hT : Turn [br] W W') : (∃ F, oDisk W' cs m F /\ ∀ b, b ∈ F -> w.heap.size <= b) /\ Fit m /\ CurOk W' g /\ Turn [g] w W' := by
 have h1 := hp.g
 have h2 := hp.r
 obtain ⟨F, ho, hF⟩ := h.o
 refine ⟨⟨F, oDisk_good.frame ho (fun b hb => hT.block b (oDisk_good.lt ho b hb) (fun e => ?_)), fun b hb => (hF b hb).1⟩, h.f, h.c.turn hT (by omega), h.t.join hT (fun k hk => by simp at hk; right; omega)⟩
 have := (hF b hb).2.2
 simp at e
 exact this e
end
end Go.Proofs.YtegonncmopecnaaGreatDoor
