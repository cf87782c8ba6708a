/-
  Part 3 of the texts that the proof leans on.
-/
import Derived.Laws.CopyOwn
import Derived.Test.YtcamcgfbljhbhaaGreatDoorMan1
import Derived.Test.YtcamcgfbljhbhaaGreatDoorMan0
set_option linter.unusedVariables false
set_option linter.unusedSimpArgs false
set_option maxRecDepth 10000
set_option maxHeartbeats 20000000

namespace Go.Proofs.YtcamcgfbljhbhaaGreatDoor
open Go.RowKit
theorem yQ {P : Program} (w : World) (dT sT ty elem : TypeId) (size : Nat) (g o BR GQ : Nat) (a : Addr) (BS GR : Nat) (cur : Array Value) (t : TypeId) (cs : List Value)
  (hu : P.underlying dT = some (.slice elem)) (hs : (P.info? elem).map (·.size) = some size)
  (hg : w.heap[g]? = some (.cells cur t (0, 0))) (hn : cs.length = Nat.min BS BR * size)
  (Oh : ∀ j v, cs[j]? = some v -> w.cell? (a.add j) = some v) (lz : o + cs.length <= cur.size) (h1 : ∀ v ∈ cs, v.oneCell' = true) :
  (Builtin.copy_ #[dT, sT] ty #[.slice (some ⟨g, o, none⟩) BR GQ, .slice (some a) BS GR]).run P w =
   .ok (goInt (Nat.min BS BR)) (w.setRow g (cur.toList.take o ++ cs ++ cur.toList.drop (o + cs.length)).toArray) := by
 have hl := run_loadCells_list (P := P) w a cs Oh; have hst := run_storeCells_at P g o t cs 0 cur w hg (by simpa using lz) h1; cases hq : P.info? elem with
 | none => simp [hq] at hs
 | some i =>
  have hi : i.size = size := by simpa [hq] using hs
  simp [Builtin.copy_, run_underlying hu, Builtin.lenOf, Builtin.firstCells, sizeOf, typeInfo, hq, hi, <- hn, hl, hst]
theorem uu {P : Program} {w : World} {ops : Array Oper} {rest : List Oper} {o : Oper} {a : Act} {Q : Exit -> Act -> World -> Prop} (hgd : o.guard = none) (d s : Operand) (dT sT : TypeId)
  (ho : o.op = .call { callee := .builtin .copy, args := #[d, s], argTypes := #[dT, sT] }) (elem : TypeId) (size : Nat) (hu : P.underlying dT = some (.slice elem)) (hsz : (P.info? elem).map (·.size) = some size)
  (g off BR GQ : Nat) (ad : Addr) (BS GR : Nat) (hd : a.eval d = .slice (some ⟨g, off, none⟩) BR GQ) (hs : a.eval s = .slice (some ad) BS GR)
  (cur : Array Value) (t : TypeId) (hg : w.heap[g]? = some (.cells cur t (0, 0))) (cs : List Value) (hn : cs.length = Nat.min BS BR * size)
  (Oh : ∀ j v, cs[j]? = some v -> w.cell? (ad.add j) = some v) (lz : off + cs.length <= cur.size) (h1 : ∀ v ∈ cs, v.oneCell' = true)
  (h : wpList P ops Q rest (a.put o.dst (goInt (Nat.min BS BR))) (w.setRow g (cur.toList.take off ++ (cs ++ cur.toList.drop (off + cs.length))).toArray)) : wpList P ops Q (o :: rest) a w := by
 refine wpList_plain hgd fun K hK => ?_
 have hrun := yQ (P := P) w dT sT o.type elem size g off BR GQ ad BS GR cur t cs hu hsz hg hn Oh lz h1; unfold Oper.wp; simp [execOp, ho, resolve, invoke, builtin, hd, hs, hrun, Result.andThen]; exact hK _ _ h
theorem Bk.cells {α : Type} {size : Nat} {R : nS α} {B : Nat} {w : World} {b off : Nat} {l : List α} (h : Bk size R B w (some ⟨b, off, none⟩) l) : ∀ k, k <= l.length ->
  ∃ css : List (List Value), css.length = k /\ (∀ c, c ∈ css -> c.length = size) /\ (∀ j, (h1 : j < l.length) -> (h2 : j < css.length) -> R B w css[j] l[j]) /\ ∀ i u, css.flatten[i]? = some u -> w.cell? ⟨b, off + i, none⟩ = some u
 | 0, _ => ⟨[], rfl, (fun _ hc => by cases hc), (fun _ _ h2 => by simp at h2), (fun i u hu => by simp at hu)⟩
 | k + 1, hk => by
  obtain ⟨css, h1, h2, h3, h4⟩ := Bk.cells h k (by omega); obtain ⟨b', Ri, e, _, cs, hc1, hc2, hc3⟩ := h k (by omega); simp only [Option.some.injEq, Addr.mk.injEq, and_true] at e; obtain ⟨rfl, rfl⟩ := e
  have wN : css.flatten.length = k * size := by
   rw [List.length_flatten]
   have : css.map List.length = List.replicate k size := by
    apply List.ext_getElem
    ·simp [h1]
    ·intro i Uf Ye
     simp only [List.getElem_map, List.getElem_replicate]; exact h2 _ (List.getElem_mem _)
   rw [this]; simp
  refine ⟨css ++ [cs], by simp [h1], ?_, ?_, ?_⟩
  ·intro c hc
   rcases List.mem_append.1 hc with hc | hc
   ·exact h2 c hc
   ·simp at hc; subst hc; exact hc1
  ·intro j hj vd
   by_cases hjk : j < k
   ·rw [List.getElem_append_left (by omega)]
    exact h3 j hj (by omega)
   ·have Oe : j = k := by simp at vd; omega
    subst Oe; rw [List.getElem_append_right (by omega)]
    simpa [h1] using hc3
  ·intro i u hu
   rw [List.flatten_append] at hu
   by_cases hi : i < k * size
   ·rw [List.getElem?_append_left (by omega)] at hu
    exact h4 i u hu
   ·rw [List.getElem?_append_right (by omega), wN] at hu
    have h5 := hc2 (i - k * size) u (by simpa using hu); rw [show off + k * size + (i - k * size) = off + i from by omega] at h5; exact h5
theorem uv {size : Nat} {css : List (List Value)} (h : ∀ c, c ∈ css -> c.length = size) {j : Nat} (hj : j < css.length) : (css.flatten.drop (j * size)).take size = css[j] := by
 apply List.ext_getElem?; intro i; rw [List.getElem?_take, List.getElem?_drop]
 by_cases hi : i < size
 ·rw [if_pos hi, kF h hi, List.getElem?_eq_getElem hj, Option.bind_some]
 ·rw [if_neg hi, List.getElem?_eq_none (by rw [h _ (List.getElem_mem hj)]; omega)]
theorem jm {size : Nat} : ∀ {css : List (List Value)}, (∀ c, c ∈ css -> c.length = size) -> css.flatten.length = css.length * size
 | [], _ => by simp
 | c :: r, h => by
  rw [List.flatten_cons, List.length_append, h c (by simp), jm (fun x hx => h x (by simp [hx])), List.length_cons, Nat.succ_mul]; omega
theorem wO {P : Program} (w : World) (dT sT ty elem : TypeId) (size : Nat) (dp sp : Option Addr) (GQ GR : Nat)
  (hu : P.underlying dT = some (.slice elem)) (hs : (P.info? elem).map (·.size) = some size) :
  (Builtin.copy_ #[dT, sT] ty #[.slice dp 0 GQ, .slice sp 0 GR]).run P w = .ok (goInt 0) w := by
 cases hq : P.info? elem with
 | none => simp [hq] at hs
 | some i => cases sp <;> cases dp <;> simp [Builtin.copy_, run_underlying hu, Builtin.lenOf, Builtin.firstCells, sizeOf, typeInfo, hq, loadCells, loadCellsFrom, storeCells]
section
variable {P : Program} (w : World)
theorem sV (base : Nat) (t tx ty e : TypeId) (i : TypeInfo) (z : Value) (size bytes : Nat) (ht : P.underlying t = some (.slice e)) (hi : P.info? e = some i) (hz : i.zero = some z)
  (hsize : i.size = size) (hby : i.bytes = bytes) (hzs : z.cells.size = size)
  (v : Value) (n : Nat) (xs : List Value) (hown : w.ownsRow base e size v n xs) (x : Value) (m : Nat) (news : List Value) (hs : Src P size tx x m news w)
  (h63 : n + m <= maxLen) (hbytes : (n + m) * bytes <= 140737488355328) (hbase : base <= w.heap.size) :
  ∃ v' w', (Builtin.append_ #[t, tx] ty #[v, x]).run P w = .ok v' w' /\ w'.ownsRow base e size v' (n + m) (xs ++ news) /\ w.grownBy w' v.ownBlock /\ (v'.ownBlock = v.ownBlock ∨ v'.ownBlock = some w.heap.size) := by
 subst hsize; subst hby; have hl := hs.newsLen; have I8 : n + m <= 9223372036854775807 := by simp only [maxLen] at h63; omega
 have hlen : (xs ++ news).length = (n + m) * i.size := by rw [List.length_append, hown.1, hl, Nat.add_mul]
 have grown : ∀ (old : Nat), old < n + m -> ∀ (row : Option Nat),
   (w.drew.alloc (.cells ((xs ++ news).toArray ++ Builtin.zeroCells z.cells (grownCap w (n + m) old e - (n + m))) e)).ownsRow base e i.size
    (.slice (some ⟨w.heap.size, 0, none⟩) (n + m) (grownCap w (n + m) old e)) (n + m) (xs ++ news) /\
   w.grownBy (w.drew.alloc (.cells ((xs ++ news).toArray ++ Builtin.zeroCells z.cells (grownCap w (n + m) old e - (n + m))) e)) row := by
  intro old ho row; have lx := grownCap_ge w (n + m) old e; have hcm : grownCap w (n + m) old e <= maxLen := grownCap_le_maxLen w (n + m) old e h63; refine ⟨⟨hlen, .inr ⟨w.heap.size, _, _, rfl, hbase, heap_alloc_new w.drew _, lx, hcm, ?_, ?_⟩⟩, ⟨rfl, rfl, rfl, by simp, fun k hk _ => Go.heap_alloc_old w.drew _ hk⟩⟩
  ·rw [Array.size_append, List.size_toArray, size_zeroCells, hzs, hlen, <- Nat.add_mul]
   congr 1
   omega
  ·rw [Array.toList_append, <- hlen]
   exact List.take_left
 rcases hown.2 with ⟨rfl, rfl⟩ | ⟨g, cap, cur, rfl, hbg, hg, po, hcm, hcs, sL⟩
 ·have hx : xs = [] := List.eq_nil_of_length_eq_zero (by simpa using hown.1)
  subst hx
  by_cases hm : m = 0
  ·subst hm
   have hn : news = [] := List.eq_nil_of_length_eq_zero (by simpa using hl); subst hn; refine ⟨.slice none 0 0, w, ?_, World.ownsRow_nil w base e i.size, World.grownBy.refl _ _, .inl rfl⟩; rcases hs.kind with ⟨e', hk⟩ | hk <;> simp [Builtin.append_, run_underlying ht, run_underlying hk, sizeOf, typeInfo, hi, hs.len, hs.cells]
  ·have hr := run_append_grow_src (P := P) w t tx ty e i z ht hi hz none 0 0 [] (run_firstCells_none w.drew i.size 0 0 0) x m news hs (by omega) (by omega) (growslice_fits (by omega) hbytes)
   have hgr := grown 0 (by omega) (Value.ownBlock (.slice none 0 0)); exact ⟨_, _, hr, hgr.1, hgr.2, .inr rfl⟩
 ·by_cases hroom : n + m <= cap
  ·have lz : n * i.size + news.length <= cur.size := by rw [hl, hcs, <- Nat.add_mul]; exact Nat.mul_le_mul_right _ hroom
   have hr := run_append_room_src (P := P) w t tx ty e i ht hi g 0 n cap x m news hs hroom
    (fun j hj => by rw [Nat.zero_add, cell_of_row w g _ cur e (0, 0) hg, Array.getElem?_eq_getElem (by omega)]; rfl) (fun j hj => frozen_of_row w g _ cur e hg)
   rw [Nat.zero_add] at hr; obtain ⟨⟨cur', h2, h3, h4⟩, h5⟩ := lN g e news (n * i.size) w cur hg lz; refine ⟨_, _, hr, ⟨hlen, .inr ⟨g, cap, cur', rfl, hbg, h2, hroom, hcm, by rw [h3, hcs], ?_⟩⟩, h5, .inl rfl⟩; rw [Nat.add_mul, <- hl, h4, sL]
  ·have holds : (Builtin.firstCells i.size n (.slice (some ⟨g, 0, none⟩) n cap)).run P w.drew = .ok xs.toArray w.drew :=
    run_firstCells_some w.drew i.size n ⟨g, 0, none⟩ n cap xs hown.1 (by simpa using hown.cells (g := g) rfl)
   have hr := run_append_grow_src (P := P) w t tx ty e i z ht hi hz (some ⟨g, 0, none⟩) n cap xs holds x m news hs (by omega) (by omega) (growslice_fits (by omega) hbytes); have hgr := grown cap (by omega) (Value.ownBlock (.slice (some ⟨g, 0, none⟩) n cap)); exact ⟨_, _, hr, hgr.1, hgr.2, .inr rfl⟩
theorem pL (base : Nat) (t tx ty e : TypeId) (i : TypeInfo) (z : Value) (size bytes : Nat) (ht : P.underlying t = some (.slice e)) (hi : P.info? e = some i) (hz : i.zero = some z)
  (hsize : i.size = size) (hby : i.bytes = bytes) (hzs : z.cells.size = size)
  (g : Nat) (hown : w.ownsRow base e size (.slice (some ⟨g, 0, none⟩) 0 0) 0 []) (x : Value) (m : Nat) (news : List Value) (hs : Src P size tx x m news w)
  (h63 : m <= maxLen) (hbytes : m * bytes <= 140737488355328) (hbase : base <= w.heap.size) :
  ∃ v' w', (Builtin.append_ #[t, tx] ty #[.slice (some ⟨g, 0, none⟩) 0 0, x]).run P w = .ok v' w' /\ w'.ownsRow base e size v' m news /\ Below w.heap.size w w' /\ (v'.ownBlock = some g ∨ v'.ownBlock = some w.heap.size) := by
 subst hsize; subst hby; have hl := hs.newsLen; rcases hown.2 with ⟨h0, _⟩ | ⟨g', cap, cur, h0, hbg, hg, po, hcm, hcs, sL⟩
 ·cases h0
 ·simp only [Value.slice.injEq, Option.some.injEq, Addr.mk.injEq, and_true, true_and] at h0
  obtain ⟨rfl, rfl⟩ := h0
  by_cases hm : m = 0
  ·subst hm
   have hn : news = [] := List.eq_nil_of_length_eq_zero (by simpa using hl); subst hn; have hr := run_append_room_src (P := P) w t tx ty e i ht hi g 0 0 0 x 0 [] hs (by omega) (fun j hj => by simp at hj) (fun j hj => by simp at hj); exact ⟨_, _, hr, hown, rB, .inl rfl⟩
  ·have holds : (Builtin.firstCells i.size 0 (.slice (some ⟨g, 0, none⟩) 0 0)).run P w.drew = .ok ([] : List Value).toArray w.drew :=
    run_firstCells_some w.drew i.size 0 ⟨g, 0, none⟩ 0 0 [] (by simp) (fun j u hu => by simp at hu)
   have hr := run_append_grow_src (P := P) w t tx ty e i z ht hi hz (some ⟨g, 0, none⟩) 0 0 [] holds x m news hs (by omega) (by simp only [maxLen] at h63; omega) (growslice_fits (by omega) (by simpa using hbytes)); simp only [List.nil_append, Nat.zero_add] at hr; have lx := grownCap_ge w m 0 e; have Vl : grownCap w m 0 e <= maxLen := grownCap_le_maxLen w m 0 e h63; refine ⟨_, _, hr, ⟨hl, .inr ⟨w.heap.size, _, _, rfl, hbase, heap_alloc_new w.drew _, lx, Vl, ?_, ?_⟩⟩, Below.alloc (Below.drew rB) rN _, .inr rfl⟩
   ·rw [Array.size_append, List.size_toArray, size_zeroCells, hzs, hl, <- Nat.add_mul]
    congr 1
    omega
   ·rw [Array.toList_append, <- hl]
    exact List.take_left
theorem fc {ops : Array Oper} {o : Oper} {a : Act} {K : Act -> World -> Prop} {Q : Exit -> Act -> World -> Prop} {E : Prop} (hgd : o.guard = none) (s x : Operand) (t tx : TypeId)
  (ho : o.op = .call { callee := .builtin .append, args := #[s, x], argTypes := #[t, tx] })
  (base : Nat) (e : TypeId) (i : TypeInfo) (z : Value) (size bytes : Nat) (ht : P.underlying t = some (.slice e)) (hi : P.info? e = some i) (hz : i.zero = some z)
  (hsize : i.size = size) (hby : i.bytes = bytes) (hzs : z.cells.size = size)
  (g : Nat) (hs : a.eval s = .slice (some ⟨g, 0, none⟩) 0 0) (hown : w.ownsRow base e size (.slice (some ⟨g, 0, none⟩) 0 0) 0 [])
  (y : Value) (hy : a.eval x = y) (m : Nat) (news : List Value) (hx : Src P size tx y m news w)
  (h63 : m <= maxLen) (hbytes : m * bytes <= 140737488355328) (hbase : base <= w.heap.size)
  (h : ∀ v' w', w'.ownsRow base e size v' m news -> Below w.heap.size w w' -> (v'.ownBlock = some g ∨ v'.ownBlock = some w.heap.size) -> K (a.put o.dst v') w') :
  if Region.wanted o (yielded ops a.tmps) = true then Oper.wp P o a w K Q else E := by
 have hw : Region.wanted o (yielded ops a.tmps) = true := by simp [Region.wanted, hgd]
 rw [if_pos hw]; subst hy; obtain ⟨v', w', hr, h2, h3, h4⟩ := pL (P := P) w base t tx o.type e i z size bytes ht hi hz hsize hby hzs g hown (a.eval x) m news hx h63 hbytes hbase; unfold Oper.wp execOp; simp only [ho, resolve, invoke, builtin, Sem.run_bind, Sem.run_pure, Result.andThen_ok, List.map_toArray, List.map_cons, List.map_nil, hs, hr]; exact h v' w' h2 h3 h4
theorem a6 {ops : Array Oper} {o : Oper} {a : Act} {K : Act -> World -> Prop} {Q : Exit -> Act -> World -> Prop} {E : Prop} (hgd : o.guard = none) (s x : Operand) (t tx : TypeId)
  (ho : o.op = .call { callee := .builtin .append, args := #[s, x], argTypes := #[t, tx] })
  (base : Nat) (e : TypeId) (i : TypeInfo) (z : Value) (size bytes : Nat) (ht : P.underlying t = some (.slice e)) (hi : P.info? e = some i) (hz : i.zero = some z)
  (hsize : i.size = size) (hby : i.bytes = bytes) (hzs : z.cells.size = size)
  (v : Value) (n : Nat) (xs : List Value) (hs : a.eval s = v) (hown : w.ownsRow base e size v n xs)
  (y : Value) (hy : a.eval x = y) (m : Nat) (news : List Value) (hx : Src P size tx y m news w)
  (h63 : n + m <= maxLen) (hbytes : (n + m) * bytes <= 140737488355328) (hbase : base <= w.heap.size)
  (h : ∀ v' w', w'.ownsRow base e size v' (n + m) (xs ++ news) -> w.grownBy w' v.ownBlock -> (v'.ownBlock = v.ownBlock ∨ v'.ownBlock = some w.heap.size) -> K (a.put o.dst v') w') :
  if Region.wanted o (yielded ops a.tmps) = true then Oper.wp P o a w K Q else E := by
 have hw : Region.wanted o (yielded ops a.tmps) = true := by simp [Region.wanted, hgd]
 rw [if_pos hw]; subst hy; obtain ⟨v', w', hr, h2, h3, h4⟩ := sV (P := P) w base t tx o.type e i z size bytes ht hi hz hsize hby hzs v n xs hown (a.eval x) m news hx h63 hbytes hbase; unfold Oper.wp execOp; simp only [ho, resolve, invoke, builtin, Sem.run_bind, Sem.run_pure, Result.andThen_ok, List.map_toArray, List.map_cons, List.map_nil, hs, hr]; exact h v' w' h2 h3 h4
end
theorem aw.drew {F : List Nat} {a b : World} (h : aw F a b) : aw F a b.drew := h.trans (aw.bz (Below.drew rB))
theorem aw.alloc {F : List Nat} {a b : World} (h : aw F a b) (o : Obj) : aw F a (b.alloc o) := h.trans (aw.bz (Below.alloc rB rN o))
theorem aw.join {F G : List Nat} {a b c : World} (h : aw F a b) (k : aw G b c) (hG : ∀ x, x ∈ G -> x ∈ F ∨ a.heap.size <= x) : aw F a c :=
 ⟨k.os.trans h.os, k.tape.trans h.tape, k.output.trans h.output, Nat.le_trans h.size k.size, fun i hi hF => (k.block i (Nat.lt_of_lt_of_le hi h.size) (fun hm => by rcases hG i hm with h1 | h1; exact hF h1; omega)).trans (h.block i hi hF)⟩
theorem bk {w : World} {base e size n : Nat} {v : Value} {xs : List Value} (h : w.ownsRow base e size v n xs) : ∃ a c, v = .slice a n c := by
 rcases h.2 with ⟨rfl, h0⟩ | ⟨g, cap, cur, rfl, _⟩
 ·exact ⟨none, 0, by rw [h0]⟩
 ·exact ⟨_, cap, rfl⟩
theorem aF.push {α : Type} {size : Nat} {e : TypeId} {O : jy α} {R : nS α} (hO : O.Good R size) {w : World} {v : Value} {l : List α} {F : List Nat} (h : aF size e O w v l F) (hN : F.Nodup) :
  ∃ xs, w.ownsRow 0 e size v l.length xs /\ ∀ (w' : World) (v' : Value) (news : List Value) (m' : α) (Fx : List Nat), w'.ownsRow 0 e size v' (l.length + 1) (xs ++ news) -> w.grownBy w' v.ownBlock -> (v'.ownBlock = v.ownBlock ∨ v'.ownBlock = some w.heap.size) -> O w news m' Fx -> Fx.Nodup -> (∀ b, b ∈ Fx -> b ∉ F) ->
   ∃ F', aF size e O w' v' (l ++ [m']) F' /\ F'.Nodup /\ ∀ b, b ∈ F' -> b ∈ F ∨ b ∈ Fx ∨ b = w.heap.size := by
 have key : ∀ (Fs : List (List Nat)) (xs : List Value), Fs.length = l.length -> (∀ j, (h : j < l.length) -> O w ((xs.drop (j * size)).take size) l[j] (Fs.getD j [])) -> (∀ b, b ∈ Fs.flatten -> b ∈ F) -> Fs.flatten.Nodup -> (∀ k, v.ownBlock = some k -> k ∈ F /\ k ∉ Fs.flatten) -> xs.length = l.length * size -> 
   ∀ (w' : World) (v' : Value) (news : List Value) (m' : α) (Fx : List Nat), w'.ownsRow 0 e size v' (l.length + 1) (xs ++ news) -> w.grownBy w' v.ownBlock -> (v'.ownBlock = v.ownBlock ∨ v'.ownBlock = some w.heap.size) -> O w news m' Fx -> Fx.Nodup -> (∀ b, b ∈ Fx -> b ∉ F) ->
   ∃ F', aF size e O w' v' (l ++ [m']) F' /\ F'.Nodup /\ ∀ b, b ∈ F' -> b ∈ F ∨ b ∈ Fx ∨ b = w.heap.size := by
  intro Fs xs f1 f2 f3 f4 f5 Jf w' v' news m' Fx ho hg hat hx hxN Vm; have Dp := hO.len hx; have m6 : ∀ b, b < w.heap.size -> (∀ k, v.ownBlock = some k -> b ≠ k) -> w'.heap[b]? = w.heap[b]? := fun b hb hne => hg.block b hb (fun hh => hne b hh.symm rfl)
  have LA : ∀ j, (h : j < l.length) -> ∀ b, b ∈ Fs.getD j [] -> b < w.heap.size := fun j hj b hb => hO.lt (f2 j hj) b hb
  have Vn : ∀ j, (h : j < l.length) -> ∀ b, b ∈ Fs.getD j [] -> b ∈ Fs.flatten := fun j hj b hb => dh (by omega) hb
  rcases ho.2 with ⟨_, h0⟩ | ⟨g, cap, cur, rfl, hb, Rj, po, hm, hs, ht⟩
  ·omega
  ·have hgb : g ∈ F ∨ g = w.heap.size := by
    rcases hat with h | h
    ·exact .inl (f5 g h.symm).1
    ·right; simpa [Value.ownBlock] using h
   have LJ : g ∉ (Fs ++ [Fx]).flatten := by
    rw [List.flatten_append, List.mem_append]; rintro (h | h)
    ·rcases hat with h' | h'
     ·exact (f5 g h'.symm).2 h
     ·have Yf : g = w.heap.size := by simpa [Value.ownBlock] using h'
      obtain ⟨j, hj, hjb⟩ := jN h; have := LA j (by omega) g hjb; omega
    ·have h : g ∈ Fx := by simpa using h
     rcases hgb with h' | h'
     ·exact Vm g h h'
     ·have := hO.lt hx g h; omega
   refine ⟨g :: (Fs ++ [Fx]).flatten, .inr ⟨g, cap, cur, Fs ++ [Fx], by simp, Rj, by simpa using po, hm, hs, by simp [f1], ?_, rfl⟩, List.nodup_cons.2 ⟨LJ, ?_⟩, ?_⟩
   ·intro j hj
    have Vo : j <= l.length := by simp at hj; omega
    have Nv : ∀ j, j <= l.length -> (cur.toList.drop (j * size)).take size = ((xs ++ news).drop (j * size)).take size := by
     intro j hj; rw [<- ht]; have hmul : (j + 1) * size <= (l.length + 1) * size := Nat.mul_le_mul_right _ (by omega); rw [Nat.succ_mul] at hmul; apply List.ext_getElem?; intro i; rw [List.getElem?_take, List.getElem?_take, List.getElem?_drop, List.getElem?_drop, List.getElem?_take]
     by_cases hi : i < size
     ·rw [if_pos hi, if_pos hi, if_pos (by omega)]
     ·rw [if_neg hi, if_neg hi]
    by_cases ur : j < l.length
    ·have e1 : ((xs ++ news).drop (j * size)).take size = (xs.drop (j * size)).take size := by
      have hmul : (j + 1) * size <= l.length * size := Nat.mul_le_mul_right _ ur; rw [Nat.succ_mul] at hmul; apply List.ext_getElem?; intro i; rw [List.getElem?_take, List.getElem?_take, List.getElem?_drop, List.getElem?_drop]
      by_cases hi : i < size
      ·rw [if_pos hi, if_pos hi, List.getElem?_append_left (by omega)]
      ·rw [if_neg hi, if_neg hi]
     have e2 : (Fs ++ [Fx]).getD j [] = Fs.getD j [] := by rw [List.getD_eq_getElem?_getD, List.getD_eq_getElem?_getD, List.getElem?_append_left (by omega)]
     rw [Nv j Vo, e1, e2, List.getElem_append_left ur]; refine hO.frame (f2 j ur) (fun b hb => m6 b (LA j ur b hb) (fun k hk bF => ?_)); subst bF; exact (f5 b hk).2 (Vn j ur b hb)
    ·have Oe : j = l.length := by omega
     subst Oe
     have e1 : ((xs ++ news).drop (l.length * size)).take size = news := by
      rw [<- Jf, List.drop_left, List.take_of_length_le (by omega)]
     have e2 : (Fs ++ [Fx]).getD l.length [] = Fx := by rw [List.getD_eq_getElem?_getD, List.getElem?_append_right (by omega), f1, Nat.sub_self]; rfl
     rw [Nv _ Vo, e1, e2]; have e3 : (l ++ [m'])[l.length] = m' := by simp
     rw [e3]; refine hO.frame hx (fun b hb => m6 b (hO.lt hx b hb) (fun k hk bF => ?_)); subst bF; exact Vm b hb (f5 b hk).1
   ·rw [List.flatten_append]
    refine List.nodup_append.2 ⟨f4, by simpa using hxN, ?_⟩; intro a ha b hb' hab; subst hab; exact Vm a (by simpa using hb') (f3 a ha)
   ·intro b hb
    rcases List.mem_cons.1 hb with rfl | hb
    ·rcases hgb with h | h
     ·exact .inl h
     ·exact .inr (.inr h)
    ·rw [List.flatten_append, List.mem_append] at hb
     rcases hb with hb | hb
     ·exact .inl (f3 b hb)
     ·exact .inr (.inl (by simpa using hb))
 rcases h with ⟨rfl, rfl, rfl⟩ | ⟨g, cap, cur, Fs, rfl, h2, h3, h4, h5, h6, h7, rfl⟩
 ·exact ⟨[], World.ownsRow_nil w 0 e size, key [] [] rfl (fun j hj => by simp at hj) (fun b hb => by simp at hb) (by simp) (fun k hk => by simp [Value.ownBlock] at hk) (by simp)⟩
 ·rw [List.nodup_cons] at hN
  have iw : cur.toList.length = cap * size := by simpa using h5
  have hle : l.length * size <= cap * size := Nat.mul_le_mul_right _ h3; refine ⟨cur.toList.take (l.length * size), ⟨by rw [List.length_take]; omega, .inr ⟨g, cap, cur, rfl, Nat.zero_le _, h2, h3, h4, h5, rfl⟩⟩, key Fs _ h6 ?_ (fun b hb => List.mem_cons_of_mem _ hb) hN.2 (fun k hk => by simp [Value.ownBlock] at hk; subst hk; exact ⟨by simp, hN.1⟩) (by rw [List.length_take]; omega)⟩; intro j hj; have hmul : (j + 1) * size <= l.length * size := Nat.mul_le_mul_right _ hj; rw [Nat.succ_mul] at hmul
  have e1 : ((cur.toList.take (l.length * size)).drop (j * size)).take size = (cur.toList.drop (j * size)).take size := by
   apply List.ext_getElem?; intro i; rw [List.getElem?_take, List.getElem?_take, List.getElem?_drop, List.getElem?_drop, List.getElem?_take]
   by_cases hi : i < size
   ·rw [if_pos hi, if_pos hi, if_pos (by omega)]
   ·rw [if_neg hi, if_neg hi]
  rw [e1]; exact h7 j hj
def Bw (w : World) (b : Nat) (t : TypeId) (vs : List Value) : Prop := w.heap[b]? = some (.cells vs.toArray t (0, 0))
theorem Bw.lt {w : World} {b : Nat} {t : TypeId} {vs : List Value} (h : Bw w b t vs) : b < w.heap.size := (Array.getElem?_eq_some_iff.1 h).1
theorem Bw.cell {w : World} {b : Nat} {t : TypeId} {vs : List Value} (h : Bw w b t vs) (i : Nat) (u : Value) (hu : vs[i]? = some u) : w.cell? ⟨b, i, none⟩ = some u := by
 rw [cell_of_row w b i vs.toArray t (0, 0) h]
 simpa using hu
theorem Bw.free {w : World} {b : Nat} {t : TypeId} {vs : List Value} (h : Bw w b t vs) (i : Nat) : w.frozen? ⟨b, i, none⟩ = false := frozen_of_row w b i _ t h
theorem Bw.c4 {w : World} {b : Nat} {t : TypeId} {v0 v1 v2 v3 : Value} (h : Bw w b t [v0, v1, v2, v3]) : w.cell? ⟨b, 0, none⟩ = some v0 /\ w.cell? ⟨b, 1, none⟩ = some v1 /\ w.cell? ⟨b, 2, none⟩ = some v2 /\ w.cell? ⟨b, 3, none⟩ = some v3 := ⟨h.cell 0 _ rfl, h.cell 1 _ rfl, h.cell 2 _ rfl, h.cell 3 _ rfl⟩
theorem Bw.f4 {w : World} {b : Nat} {t : TypeId} {vs : List Value} (h : Bw w b t vs) : w.frozen? ⟨b, 0, none⟩ = false /\ w.frozen? ⟨b, 1, none⟩ = false /\ w.frozen? ⟨b, 2, none⟩ = false /\ w.frozen? ⟨b, 3, none⟩ = false := ⟨h.free 0, h.free 1, h.free 2, h.free 3⟩
theorem Bw.c8 {w : World} {b : Nat} {t : TypeId} {v0 v1 v2 v3 : Value} (h : Bw w b t [v0, v1, v2, v3]) : w.cell? ⟨b, 0, none⟩ = some v0 /\ w.frozen? ⟨b, 0, none⟩ = false /\ w.cell? ⟨b, 1, none⟩ = some v1 /\ w.frozen? ⟨b, 1, none⟩ = false /\ w.cell? ⟨b, 2, none⟩ = some v2 /\ w.frozen? ⟨b, 2, none⟩ = false /\ w.cell? ⟨b, 3, none⟩ = some v3 /\ w.frozen? ⟨b, 3, none⟩ = false := ⟨h.cell 0 _ rfl, h.free 0, h.cell 1 _ rfl, h.free 1, h.cell 2 _ rfl, h.free 2, h.cell 3 _ rfl, h.free 3⟩
theorem Bw.below {B : Nat} {w w' : World} {b : Nat} {t : TypeId} {vs : List Value} (h : Bw w b t vs) (hb : Below B w w') (hB : b < B) : Bw w' b t vs := (hb.block b hB).trans h
theorem Bw.under {w w' : World} {b : Nat} {t : TypeId} {vs : List Value} (h : Bw w b t vs) (hb : Below w.heap.size w w') : Bw w' b t vs := h.below hb h.lt
theorem Bw.turn {F : List Nat} {w w' : World} {b : Nat} {t : TypeId} {vs : List Value} (h : Bw w b t vs) (ht : aw F w w') (hF : b ∉ F) : Bw w' b t vs := (ht.block b h.lt hF).trans h
theorem Bw.alloc {w : World} {b : Nat} {t : TypeId} {vs : List Value} (h : Bw w b t vs) (o : Obj) : Bw (w.alloc o) b t vs := h.under (rB.alloc rN o)
theorem Bw.new (w : World) (t : TypeId) (vs : List Value) : Bw (w.alloc (.cells vs.toArray t)) w.heap.size t vs := by
 show (w.heap.push _)[w.heap.size]? = _; rw [Array.getElem?_push_size]
theorem Bw.dX (w : World) (t : TypeId) (vs : List Value) {b : Nat} (hb : b = w.heap.size) : Bw (w.alloc (.cells vs.toArray t)) b t vs := by
 subst hb; exact Bw.new w t vs
theorem Bw.drew {w : World} {b : Nat} {t : TypeId} {vs : List Value} (h : Bw w b t vs) : Bw w.drew b t vs := h
theorem Bw.put {w : World} {b : Nat} {t : TypeId} {vs : List Value} (h : Bw w b t vs) (i : Nat) (u : Value) : Bw (w.setCell ⟨b, i, none⟩ u) b t (vs.set i u) := by
 have := heap_setCell_same w b i vs.toArray t u h; unfold Bw; rw [this]; simp
theorem bE (w : World) (b : Nat) (u0 u1 u2 u3 : Value) : aw [b] w ((((w.setCell ⟨b, 0, none⟩ u0).setCell ⟨b, 1, none⟩ u1).setCell ⟨b, 2, none⟩ u2).setCell ⟨b, 3, none⟩ u3) :=
 aw.setCell (aw.setCell (aw.setCell (aw.setCell (aw.refl _ _) (by simp) _) (by simp) _) (by simp) _) (by simp) _
theorem aF.leaf {α : Type} {size : Nat} {e : TypeId} {O : jy α} {R : nS α} (hO : O.Good R size) {w : World} {a : Option Addr} {c : Nat} {l : List α} {F : List Nat} (h : aF size e O w (.slice a l.length c) l F) : bw size R w.heap.size w a c l := by
 obtain ⟨a', c', he, h1, h2, h3⟩ := aF.read hO h; simp only [Value.slice.injEq, true_and] at he; obtain ⟨rfl, rfl⟩ := he; exact ⟨h1, h2, h3⟩
end Go.Proofs.YtcamcgfbljhbhaaGreatDoor

namespace Go.Proofs.YtcamcgfbljhbhaaGreatDoor
open Go.RowKit
theorem zv {w : World} {elem g n : Nat} {l : List aB} {css : List (List Value)} (hl : l.length = n) (hm : n <= maxLen) (hc : css.length = n) (h2 : ∀ c, c ∈ css -> c.length = 2) {B : Nat} {w0 : World} (h3 : ∀ j, (h1 : j < l.length) -> (h2 : j < css.length) -> cy B w0 css[j] l[j])
  (hg : w.heap[g]? = some (.cells css.flatten.toArray elem (0, 0))) : aF 2 elem cN w (.slice (some ⟨g, 0, none⟩) n n) l [g] := by
 refine .inr ⟨g, n, _, List.replicate n [], by rw [hl], hg, by omega, hm, by rw [List.size_toArray, jm h2, hc], by simp [hl], ?_, by simp⟩; intro j hj; have vd : j < css.length := by omega
 rw [List.toList_toArray, uv h2 vd]; obtain ⟨e1, e2, e3, _⟩ := h3 j hj vd; refine ⟨e1, e2, e3, ?_⟩; rw [List.getD_eq_getElem?_getD]; simp [show j < n from by omega]
theorem pp {P : Program} {w : World} {ops : Array Oper} {rest : List Oper} {o : Oper} {a : Act} {Q : Exit -> Act -> World -> Prop} (hgd : o.guard = none) (d s : Operand) (dT sT : TypeId)
  (ho : o.op = .call { callee := .builtin .copy, args := #[d, s], argTypes := #[dT, sT] }) (elem : TypeId) (hu : P.underlying dT = some (.slice elem)) (hsz : (P.info? elem).map (·.size) = some 2)
  (g n c : Nat) (ao : Option Addr) (hd : a.eval d = .slice (some ⟨g, 0, none⟩) n n) (hs : a.eval s = .slice ao n c)
  (cur : Array Value) (hg : w.heap[g]? = some (.cells cur elem (0, 0))) (DO : cur.size = n * 2) (l : List aB) (hl : l.length = n) (B : Nat) (hr : Bk 2 cy B w ao l) (hm : n <= maxLen)
  (h : ∀ w', aF 2 elem cN w' (.slice (some ⟨g, 0, none⟩) n n) l [g] -> aw [g] w w' -> wpList P ops Q rest (a.put o.dst (goInt n)) w') : wpList P ops Q (o :: rest) a w := by
 by_cases h0 : n = 0
 ·subst h0
  have hnil : l = [] := List.eq_nil_of_length_eq_zero hl; subst hnil; refine wpList_plain hgd fun K hK => ?_
  have hrun := wO (P := P) w dT sT o.type elem 2 (some ⟨g, 0, none⟩) ao 0 c hu hsz; unfold Oper.wp; simp [execOp, ho, resolve, invoke, builtin, hd, hs, hrun, Result.andThen]; refine hK _ _ (h w ?_ (aw.refl _ _)); exact zv (css := []) rfl (by simp [maxLen]) rfl (fun _ hc => by cases hc) (B := B) (w0 := w) (fun j hj => by simp at hj) (by have : cur = #[] := Array.eq_empty_of_size_eq_zero (by omega); rw [this] at hg; simpa using hg)
 ·obtain ⟨b, off, rfl, _⟩ := hr 0 (by omega)
  obtain ⟨css, c1, c2, c3, c4⟩ := hr.cells l.length rN; have wN := jm c2; rw [c1, hl] at wN
  have Vp : ∀ v ∈ css.flatten, v.oneCell' = true := by
   intro v hv; obtain ⟨cs, hcs, LK⟩ := List.mem_flatten.1 hv; obtain ⟨j, hj, rfl⟩ := List.mem_iff_getElem.1 hcs; obtain ⟨e1, _⟩ := c3 j (by omega) hj; rw [e1] at LK; simp at LK; rcases LK with rfl | rfl <;> rfl
  refine uu hgd d s dT sT ho elem 2 hu hsz g 0 n n ⟨b, off, none⟩ n c hd hs cur elem hg css.flatten (by rw [wN]; simp) ?_ (by omega) Vp ?_
  ·intro j v hv
   rw [Addr.add_lit]; exact c4 j v hv
  ·have e1 : cur.toList.take 0 ++ (css.flatten ++ cur.toList.drop (0 + css.flatten.length)) = css.flatten := by
    rw [List.take_zero, List.nil_append, List.drop_eq_nil_of_le (by rw [Array.length_toList, DO, Nat.zero_add, wN]; exact rN), List.append_nil]
   rw [e1]; have e2 : Nat.min n n = n := Nat.min_self n; rw [e2]; refine h _ (zv hl hm (by omega) c2 c3 (setRow_heap w g cur _ elem _ hg)) ⟨rfl, rfl, rfl, by simp [World.setRow], fun k _ hk => setRow_other w g k _ (fun e => hk (by simp [e]))⟩
theorem Src.Oj {P : Program} {w : World} {B : Nat} {a : Option Addr} {l : List aB} {tx e' : TypeId} {n c : Nat} (hk : P.underlying tx = some (.slice e')) (hn : l.length = n) (hr : Bk 2 cy B w a l) :
  ∃ css : List (List Value), css.length = l.length /\ (∀ c, c ∈ css -> c.length = 2) /\ (∀ j, (h1 : j < l.length) -> (h2 : j < css.length) -> cy B w css[j] l[j]) /\ Src P 2 tx (.slice a n c) n css.flatten w := by
 cases a with
 | none =>
  have hz : l = [] := by
   cases l with
   | nil => rfl
   | cons z r =>
    obtain ⟨_, _, h, _⟩ := hr 0 (by simp); cases h
  subst hz; simp only [List.length_nil] at hn; subst hn; exact ⟨[], rfl, (fun _ h => by cases h), (fun _ h => by simp at h), Src.ofNil w hk c⟩
 | some ad =>
  by_cases h0 : n = 0
  ·subst h0
   have hz : l = [] := List.eq_nil_of_length_eq_zero hn; subst hz; exact ⟨[], rfl, (fun _ h => by cases h), (fun _ h => by simp at h), Src.ofSlice w hk ad 0 c [] (by simp) (fun j u hu => by simp at hu) (fun u hu => by cases hu)⟩
  ·obtain ⟨b, off, e, _⟩ := hr 0 (by omega)
   simp only [Option.some.injEq] at e; subst e; obtain ⟨css, c1, c2, c3, c4⟩ := hr.cells l.length rN; have wN := jm c2; refine ⟨css, c1, c2, c3, Src.ofSlice w hk ⟨b, off, none⟩ n c css.flatten (by rw [wN, c1, hn]) (fun j u hu => by rw [Addr.add_lit]; exact c4 j u hu) ?_⟩; intro v hv; obtain ⟨cs, hcs, LK⟩ := List.mem_flatten.1 hv; obtain ⟨j, hj, rfl⟩ := List.mem_iff_getElem.1 hcs; obtain ⟨e1, _⟩ := c3 j (by omega) hj; rw [e1] at LK; simp at LK; rcases LK with rfl | rfl <;> rfl
theorem kW {w w0 : World} {base elem : Nat} {v : Value} {l : List aB} {css : List (List Value)} {B n : Nat} (hn : l.length = n) (h1 : css.length = l.length) (h2 : ∀ c, c ∈ css -> c.length = 2) (h3 : ∀ j, (h1 : j < l.length) -> (h2 : j < css.length) -> cy B w0 css[j] l[j])
  (h : w.ownsRow base elem 2 v n css.flatten) : aF 2 elem cN w v l v.ownBlock.toList := by
 subst hn; rcases h.2 with ⟨rfl, h0⟩ | ⟨g, cap, cur, rfl, hb, hg, po, hm, hs, ht⟩
 ·exact .inl ⟨rfl, List.eq_nil_of_length_eq_zero h0, rfl⟩
 ·refine .inr ⟨g, cap, cur, List.replicate l.length [], rfl, hg, po, hm, hs, by simp, ?_, by simp [Value.ownBlock]⟩
  intro j hj; have vd : j < css.length := by omega
  have e0 : (cur.toList.drop (j * 2)).take 2 = css[j] := by
   rw [<- uv h2 vd, <- ht]; apply List.ext_getElem?; intro i; rw [List.getElem?_take, List.getElem?_take, List.getElem?_drop, List.getElem?_drop, List.getElem?_take]
   by_cases hi : i < 2
   ·rw [if_pos hi, if_pos hi, if_pos (by omega)]
   ·rw [if_neg hi, if_neg hi]
  rw [e0]; obtain ⟨e1, e2, e3, _⟩ := h3 j hj vd; refine ⟨e1, e2, e3, ?_⟩; rw [List.getD_eq_getElem?_getD]; simp [hj]
theorem aC {w : World} {cs : List Value} {m : az} {F : List Nat} (h : ba w cs m F) : ∃ a0 c0 a1 c1 a2 c2 F0 F1 F2, cs = (cj a0 c0 a1 c1 a2 c2 m) /\
  aF 3 73 fX w (.slice a0 m.aa.length c0) m.aa F0 /\ aF 2 68 cN w (.slice a1 m.ae.length c1) m.ae F1 /\ aF 2 68 cN w (.slice a2 m.ag.length c2) m.ag F2 /\ (Lit.int .i64 m.ah).wf = true /\ F = F0 ++ F1 ++ F2 ++ [] := by
 obtain ⟨v0, F0, v1, F1, v2, F2, rfl, h0, h1, h2, h3, rfl⟩ := h; obtain ⟨a0, c0, rfl, _⟩ := aF.read aH h0; obtain ⟨a1, c1, rfl, _⟩ := aF.read ay h1; obtain ⟨a2, c2, rfl, _⟩ := aF.read ay h2; exact ⟨a0, c0, a1, c1, a2, c2, F0, F1, F2, rfl, h0, h1, h2, h3, rfl⟩
theorem ve {w : World} {g c0 : Nat} {a1 a2 : Option Addr} {c1 c2 : Nat} {m : az} {F0 F1 F2 : List Nat} (h0 : aF 3 73 fX w (.slice (some ⟨g, 0, none⟩) m.aa.length c0) m.aa F0) (h1 : aF 2 68 cN w (.slice a1 m.ae.length c1) m.ae F1) (h2 : aF 2 68 cN w (.slice a2 m.ag.length c2) m.ag F2)
  (h3 : (Lit.int .i64 m.ah).wf = true) (hN : (F0 ++ F1 ++ F2 ++ []).Nodup) {p i : Nat} (hp : p < m.aa.length) (hi : i < 3) (u : Value) (f : aI -> aI) (Fn : List Nat) (Nu : ∀ b, b ∈ Fn -> b ∉ F0 ++ F1 ++ F2)
  (hm : ∀ cs Fk, fX w cs m.aa[p] Fk -> Fk.Nodup -> ∃ G, fX w (cs.set i u) (f m.aa[p]) G /\ G.Nodup /\ ∀ b, b ∈ G -> b ∈ Fk ∨ b ∈ Fn) :
  ∃ F', ba (w.setCell ⟨g, p * 3 + i, none⟩ u) (cj (some ⟨g, 0, none⟩) c0 a1 c1 a2 c2 m) { m with aa := jQ m.aa p f } F' /\ F'.Nodup /\ (∀ b, b ∈ F' -> b ∈ F0 ++ F1 ++ F2 ∨ b ∈ Fn) /\ g ∈ F0 := by
 rw [List.append_nil, List.append_assoc, List.nodup_append] at hN; obtain ⟨n0, n1, n2⟩ := hN; obtain ⟨G, g1, g2, g3, g4⟩ := aF.LI aH h0 n0 hp hi u (f m.aa[p]) Fn (fun b hb hb0 => Nu b hb (by simp [hb0])) hm; have hT : aw [g] w (w.setCell ⟨g, p * 3 + i, none⟩ u) := aw.setCell (aw.refl _ _) (by simp) _; have hg1 : g ∉ F1 := fun h => n2 g g4 g (by simp [h]) rfl
 have hg2 : g ∉ F2 := fun h => n2 g g4 g (by simp [h]) rfl
 have e1 := aF.frame (w' := w.setCell ⟨g, p * 3 + i, none⟩ u) ay h1 (fun b hb => hT.block b (aF.lt ay h1 b hb) (by intro h; simp at h; subst h; exact hg1 hb)); have e2 := aF.frame (w' := w.setCell ⟨g, p * 3 + i, none⟩ u) ay h2 (fun b hb => hT.block b (aF.lt ay h2 b hb) (by intro h; simp at h; subst h; exact hg2 hb)); refine ⟨G ++ F1 ++ F2 ++ [], ⟨_, G, _, F1, _, F2, rfl, ?_, e1, e2, h3, rfl⟩, ?_, ?_, g4⟩
 ·rw [sR hp]
  exact g1
 ·rw [List.append_nil, List.append_assoc, List.nodup_append]
  refine ⟨g2, n1, fun a ha b hb hab => ?_⟩; subst hab; rcases g3 a ha with h | h
  ·exact n2 a h a hb rfl
  ·exact Nu a h (by simp at hb; simp; exact .inr hb)
 ·intro b hb
  simp at hb ⊢; rcases hb with h | h | h
  ·rcases g3 b h with h | h
   ·exact .inl (.inl h)
   ·exact .inr h
  ·exact .inl (.inr (.inl h))
  ·exact .inl (.inr (.inr h))
theorem Tryz.jE : (Tryz.prog.info? 73).map (fun i => (i.zero, i.size, i.bytes)) = some (some (.agg #[.int .i64 0, .slice none 0 0, .int .i64 0]), 3, 40) := by kernel_rfl
theorem Tryz.gG : (Tryz.prog.info? 68).map (fun i => (i.zero, i.size, i.bytes)) = some (some (.agg #[.string ⟨#[]⟩, .int .i64 0]), 2, 24) := by kernel_rfl
def Av (B : Nat) (w : World) (v : Value) (zs : List Int) : Prop := ∃ a c, v = .slice a zs.length c /\ fM B w a c zs
theorem Av.below {B : Nat} {w w' : World} {v : Value} {zs : List Int} (h : Av B w v zs) (hb : Below B w w') : Av B w' v zs := by
 obtain ⟨a, c, e, h1⟩ := h; exact ⟨a, c, e, h1.below hb⟩
theorem Av.mono {B B' : Nat} {w : World} {v : Value} {zs : List Int} (h : Av B w v zs) (hB : B <= B') : Av B' w v zs := by
 obtain ⟨a, c, e, h1⟩ := h; exact ⟨a, c, e, h1.mono hB⟩
theorem LR {e : TypeId} {w : World} {v : Value} {zs : List Int} {F : List Nat} (h : lO e w v zs F) : Av w.heap.size w v zs := h.read
theorem ml {P : Program} {w : World} {ops : Array Oper} {rest : List Oper} {o : Oper} {a : Act} {Q : Exit -> Act -> World -> Prop} (hgd : o.guard = none) (d s : Operand) (dT sT : TypeId)
  (ho : o.op = .call { callee := .builtin .copy, args := #[d, s], argTypes := #[dT, sT] }) (e : TypeId) (i : TypeInfo) (hu : P.underlying dT = some (.slice e)) (hi : P.info? e = some i) (hsz : i.size = 1)
  (base g off Nw cap n Ro sl Rp : Nat) (ao : Option Addr) (hd : a.eval d = .slice (some ⟨g, off, none⟩) n Ro) (hs : a.eval s = .slice ao sl Rp)
  (xs : List Value) (hown : w.ownsRow base e 1 (.slice (some ⟨g, 0, none⟩) Nw cap) Nw xs)
  (k : IntKind) (zs : List Int) (B : Nat) (hz : zs.length = sl) (hle : sl <= n) (lz : off + sl <= Nw) (hr : Rd k B w ao zs)
  (h : ∀ w', w'.ownsRow base e 1 (.slice (some ⟨g, 0, none⟩) Nw cap) Nw (xs.take off ++ (zs.map (Value.int k) ++ xs.drop (off + sl))) -> w.grownBy w' (some g) -> wpList P ops Q rest (a.put o.dst (goInt sl)) w') : wpList P ops Q (o :: rest) a w := by
 have hsz' : (P.info? e).map (·.size) = some 1 := by rw [hi]; simp [hsz]
 by_cases h0 : sl = 0
 ·subst h0
  have hz' : zs = [] := List.eq_nil_of_length_eq_zero hz; subst hz'; refine wpList_copy_nothing hgd d s dT sT ho e hu hsz' _ _ _ _ _ _ hd hs (by simp) (h w ?_ (World.grownBy.refl _ _))
  simpa using hown
 ·obtain ⟨b, so, rfl, _, _⟩ := hr 0 (by omega)
  rcases hown.2 with ⟨h', _⟩ | ⟨g', cap', cur, h', hb, hg, po, hcm, hcs, sL⟩
  ·simp at h'
  ·simp only [Value.slice.injEq, Option.some.injEq, Addr.mk.injEq, and_true, true_and] at h'
   obtain ⟨rfl, rfl⟩ := h'; have hl : (zs.map (Value.int k)).length = sl := by simp [hz]
   refine wpList_copy_own hgd d s dT sT ho e hu hsz' g off n Ro ⟨b, so, none⟩ sl Rp hd hs cur e hg (zs.map (Value.int k)) (by rw [hl]; exact (Nat.min_eq_left hle).symm) ?_ (by rw [hl]; omega) (ints_oneCell k _) ?_
   ·intro j u hu
    have hj : j < zs.length := by
     rcases Nat.lt_or_ge j zs.length with h | h
     ·exact h
     ·rw [List.getElem?_eq_none (by simpa using h)] at hu; cases hu
    obtain ⟨b', Ri, e', _, hc⟩ := hr j hj; simp only [Option.some.injEq, Addr.mk.injEq, and_true] at e'; obtain ⟨rfl, rfl⟩ := e'; rw [Addr.add_lit, hc]; simp [List.getElem?_eq_getElem hj] at hu; simp [List.getElem?_eq_getElem hj, hu]
   ·rw [hl]
    have hlen := hown.1; simp only [Nat.mul_one] at hlen hcs sL; have Rq : cur.toList.length = cap := by simpa using hcs
    refine h _ ⟨by simp [hz]; omega, .inr ⟨g, cap, _, rfl, hb, setRow_heap w g cur _ e _ hg, po, hcm, ?_, ?_⟩⟩ ⟨rfl, rfl, rfl, by simp [World.setRow], fun k _ hk => setRow_other w g k _ (fun e => hk (by simp [e]))⟩
    ·simp [hz]; omega
    ·rw [List.toList_toArray, Nat.mul_one, <- sL]
     have e1 : min off cap = off := by omega
     have e2 : min off (min Nw cap) = off := by omega
     apply List.ext_getElem?; intro j; simp only [List.getElem?_take, List.getElem?_append, List.length_take, List.getElem?_drop, List.length_map, hz, Rq, e1, e2]
     by_cases h1 : j < off
     ·have hj : j < Nw := by omega
      simp [h1, hj]
     ·by_cases h2 : j - off < sl
      ·have hj : j < Nw := by omega
       simp [h1, h2, hj]
      ·have e3 : off + sl + (j - off - sl) = j := by omega
       simp [h1, h2, e3]
theorem nK (a b : Option Addr) (ca cb : Nat) (za zb : List Int) (w : World) (ha : fM w.heap.size w a ca za) (hb : fM w.heap.size w b cb zb) (VA : za.length <= 2097152) (zw : zb.length <= 2097152) :
  Calls Tryz.prog 50 #[.slice a za.length ca, .slice b zb.length cb] w fun e w' => ∃ (v : Value) (F : List Nat), e = .returned v /\ lO 5 w' v (za ++ zb) F /\ F.Nodup /\ (∀ b, b ∈ F -> w.heap.size <= b) /\ Below w.heap.size w w' := by
 obtain ⟨i0, hi, hz0, hz1, hz2⟩ := info_parts Tryz.wI; have HA := Hm ha; have HB := Hm hb; clear ha hb; obtain ⟨na, Nx⟩ : ∃ n, za.length = n := ⟨_, rfl⟩
 obtain ⟨nb, Ny⟩ : ∃ n, zb.length = n := ⟨_, rfl⟩
 have Rs := Hm Nx; have Rt := Hm Ny; rw [Nx] at VA ⊢; rw [Ny] at zw ⊢; clear Nx Ny; go_enter Tryz.func50, Tryz.ntmps50; go_wp2_with (at_make; refine wpList_make_full _ rfl _ _ 22 rfl w.heap.size 5 i0 (.int .u8 0) 1 Tryz.underlying22 hi hz0 hz1 .i64 .i64 _ _ (na + nb) rfl rfl (by first | rfl | (push_cast; rfl) | simp) rfl (by rw [hz2]; omega) (by unfold maxLen; omega) rN ?_); intro w1 hown hgr; have hb1 : Below w.heap.size w w1 := rB.grown hgr rN (fun k h => by cases h); rw [toList_madeCells_one] at hown; have ra := (HA.out.below hb1).2.2.1; have Ol : w.heap.size < w1.heap.size := (hown.lt w.heap.size rfl).2
 by_cases h0 : nb = 0
 ·subst h0
  have hzb : zb = [] := List.eq_nil_of_length_eq_zero Rt.out; subst hzb; rw [Nat.add_zero] at *
  go_wp2_with (first
   | (refine ml rfl _ _ 22 22 rfl 5 i0 Tryz.underlying22 hi hz1 w.heap.size w.heap.size 0 (na) (na) (na) (na) na ca _ rfl rfl _ hown .u8 za w.heap.size Rs.out (by omega) (by omega) ra ?_; intro w2 hown2 hg2)
   | (refine wpList_copy_nothing rfl _ _ 22 22 rfl 5 Tryz.underlying22 (by rw [hi]; simp [hz1]) _ _ _ _ _ _ rfl rfl (by simp) ?_))
  have hb2 : Below w.heap.size w w2 := hb1.grown hg2 (Nat.le_of_lt Ol) (fun k h => by cases h; exact rN); go_ret; refine ⟨_, [w.heap.size], rfl, ⟨?_, ?_, rfl⟩, by simp, (fun b hb => by simp at hb; omega), hb2⟩
  ·refine ep (cM hown2 (by simp [Rs.out]) ?_) (Nat.zero_le _)
   simp
  ·rw [List.append_nil]
   exact HA.out.2.2.2
 ·have aaI : 0 < nb := by omega
  go_wp2_with (first
   | (refine ml rfl _ _ 22 22 rfl 5 i0 Tryz.underlying22 hi hz1 w.heap.size w.heap.size 0 (na + nb) (na + nb) (na + nb) (na + nb) na ca _ rfl rfl _ hown .u8 za w.heap.size Rs.out (by omega) (by omega) ra ?_; intro w2 hown2 hg2; have hb2 : Below w.heap.size w w2 := hb1.grown hg2 (Nat.le_of_lt Ol) (fun k h => by cases h; exact rN); have GF : w.heap.size < w2.heap.size := (hown2.lt w.heap.size rfl).2; have rb := (HB.out.below hb2).2.2.1)
   | (refine ml rfl _ _ 22 22 rfl 5 i0 Tryz.underlying22 hi hz1 w.heap.size w.heap.size na (na + nb) (na + nb) nb nb nb cb _ rfl rfl _ hown2 .u8 zb w.heap.size Rt.out (by omega) (by omega) rb ?_; intro w3 ek hg3))
  have hb3 : Below w.heap.size w w3 := hb2.grown hg3 (Nat.le_of_lt GF) (fun k h => by cases h; exact rN); go_ret; refine ⟨_, [w.heap.size], rfl, ⟨?_, ?_, rfl⟩, by simp, (fun b hb => by simp at hb; omega), hb3⟩
  ·refine ep (cM ek (by simp [Rs.out, Rt.out]) ?_) (Nat.zero_le _)
   have Nx := Rs.out; simp [Nx]
   done
  ·intro z hz
   rcases List.mem_append.1 hz with h | h
   ·exact HA.out.2.2.2 z h
   ·exact HB.out.2.2.2 z h
end Go.Proofs.YtcamcgfbljhbhaaGreatDoor
