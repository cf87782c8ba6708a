/-
  Part 24 of the texts that the proof leans on.
-/
import Derived.Test.YtcamcgfbljhbhaaGreatDoorMan22
import Derived.Test.YtcamcgfbljhbhaaGreatDoorMan17
import Derived.Test.YtcamcgfbljhbhaaGreatDoorMan0
import Derived.Test.YtcamcgfbljhbhaaGreatDoorMan16
set_option linter.unusedVariables false
set_option linter.unusedSimpArgs false
set_option maxRecDepth 10000
set_option maxHeartbeats 20000000

namespace Go.Proofs.YtcamcgfbljhbhaaGreatDoor
open Go.RowKit
def vT (l : List (List UInt8)) : aT := ⟨(b7 l).1, (b7 l.tail).1, aU (fj l.tail.tail).1, aU (fj l.tail.tail.tail).1⟩
def yl (l : List (List UInt8)) (b : Bool) : Bool := (((b || !(b7 l).2) || !(b7 l.tail).2) || !(fj l.tail.tail).2) || !(fj l.tail.tail.tail).2
def uM (l : List (List UInt8)) (b : Bool) : Bool := (b || !(cV l).2) || !decide ((cV l).1 = m9)
def jg : Nat -> List (List UInt8) -> Bool -> List aT -> List aT × Bool
 | 0, l, b, ts => (ts, true)
 | f + 1, l, b, ts => bif b then (ts, b) else bif decide ((cV l).1 = ia) then (ts, b || !(cV l).2) else
   jg f l.tail.tail.tail.tail.tail (yl l.tail (uM l b)) (ts ++ [vT l.tail])
def tX (l : List (List UInt8)) : Bool :=
 (((((false || !(cV l).2) || !decide ((cV l).1 = [110, 101, 120, 116])) || !(b7 l.tail).2) || !(cV l.tail.tail).2) || !decide ((cV l.tail.tail).1 = [108, 111, 103])) || !(b7 l.tail.tail.tail).2
def fV (l : List (List UInt8)) : aK × Bool :=
 (⟨(b7 l.tail).1, (b7 l.tail.tail.tail).1, (jg (l.length + 2) l.tail.tail.tail.tail (tX l) []).1⟩, (jg (l.length + 2) l.tail.tail.tail.tail (tX l) []).2)
theorem KW {m : aK} (h : bO m = true) : ∀ t, t ∈ m.aD -> 1 <= t.eo.size /\ 1 <= t.em.size := by
 simp only [bO, Bool.and_eq_true, decide_eq_true_eq] at h; intro t ht; have h2 := x8 h.2 t ht; simp only [iH, jp, Bool.and_eq_true, decide_eq_true_eq] at h2; exact ⟨h2.1.1.2.1, h2.1.2.1⟩
theorem KX {nx : Int} (hn : nx <= 100000) {t : aT} (h : mL nx t) (r : List (List UInt8)) :
  vT (cw t.fD :: cw t.aN :: eF t.eo :: eF t.em :: r) = t /\ yl (cw t.fD :: cw t.aN :: eF t.eo :: eF t.em :: r) false = false := by
 have h1 := tW (cw t.aN :: eF t.eo :: eF t.em :: r) (n := t.fD) (by have := h.UR; omega) (by have := h.Q1; omega); have h2 := tW (eF t.eo :: eF t.em :: r) (n := t.aN) h.UT (by have := h.Q2; omega); have h3 := Gj t.eo (eF t.em :: r); have h4 := Gj t.em r; unfold vT yl; simp only [List.tail_cons]; rw [h1, h2, h3, h4]; refine ⟨?_, rfl⟩; simp only [A7]
theorem Ae {nx : Int} (hn : nx <= 100000) : ∀ (ts : List aT) (f : Nat) (acc : List aT), (∀ t, t ∈ ts -> mL nx t) -> ts.length < f -> jg f (ts.flatMap mP ++ [ia]) false acc = (acc ++ ts, false)
 | [], f + 1, acc, _, _ => by
  have hw : cV [ia] = (ia, true) := qO [] (by decide); simp only [List.flatMap_nil, List.nil_append, jg, hw, cond_false, decide_true, cond_true, List.append_nil]; rfl
 | t :: ts, f + 1, acc, h, hf => by
  have e : (t :: ts).flatMap mP ++ [ia] = m9 :: cw t.fD :: cw t.aN :: eF t.eo :: eF t.em :: (ts.flatMap mP ++ [ia]) := by
   rw [List.flatMap_cons]; rfl
  have hw : cV (m9 :: cw t.fD :: cw t.aN :: eF t.eo :: eF t.em :: (ts.flatMap mP ++ [ia])) = (m9, true) := qO _ (by decide); have hr := KX hn (h t (by simp)) (ts.flatMap mP ++ [ia]); have ih := Ae hn ts f (acc ++ [t]) (fun u hu => h u (by simp [hu])) (by simp at hf; omega); rw [e, jg]; unfold uM; rw [hw]; simp only [List.tail_cons, cond_false]; rw [show decide (m9 = ia) = false from by decide, cond_false]; simp only [decide_true, Bool.not_true, Bool.or_false]; rw [hr.1, hr.2, ih]; simp
theorem Iu {m : aK} (h : bO m = true) : fV (Lib.fields (fq m)) = (m, false) := by
 have F := kh h
 have hl : ∀ l : List aT, l.length <= (l.flatMap mP).length := fun l => by
  induction l with
  | nil => simp
  | cons t l ih => rw [List.flatMap_cons, List.length_append, List.length_cons]; have h5 : (mP t).length = 5 := rfl; omega
 rw [CY (KW h)]; obtain ⟨R, hR⟩ : ∃ R, R = m.aD.flatMap mP ++ [ia] := ⟨_, rfl⟩
 have Xy : m.aD.length <= R.length := by rw [hR, List.length_append]; have := hl m.aD; omega
 rw [<- hR]; have h1 : cV ([110, 101, 120, 116] :: cw m.ah :: [108, 111, 103] :: cw m.ce :: R) = ([110, 101, 120, 116], true) := qO _ (by decide); have h2 := tW (n := m.ah) ([108, 111, 103] :: cw m.ce :: R) (by have := F.UU; omega) F.Ij; have h3 : cV ([108, 111, 103] :: cw m.ce :: R) = ([108, 111, 103], true) := qO _ (by decide); have h4 := tW (n := m.ce) R F.UV (by have := F.Q3; have := F.Ij; omega)
 have hH : tX ([110, 101, 120, 116] :: cw m.ah :: [108, 111, 103] :: cw m.ce :: R) = false := by
  unfold tX; simp only [List.tail_cons, h1, h2, h3, h4]
  decide
 show fV ([110, 101, 120, 116] :: cw m.ah :: [108, 111, 103] :: cw m.ce :: R) = _; unfold fV; rw [hH]; simp only [List.tail_cons]; rw [h2, h4, hR, Ae F.Ij m.aD _ [] F.each (by rw [<- hR]; simp only [List.length_cons]; omega)]; rfl
end Go.Proofs.YtcamcgfbljhbhaaGreatDoor

namespace Go.Proofs.YtcamcgfbljhbhaaGreatDoor
open Go.RowKit Go.Maps Go.Shelf
theorem C3 {P : Program} {g : Nat} {F : List Nat} {W W' : World} {n : String} {cs : Array Value} (h : aw F W W') (hg : P.globalNamed n = some g) (Uu : g < W.heap.size) (hF : g ∉ F) (hv : W.var? P n = some cs) : W'.var? P n = some cs := by
 unfold World.var? at hv ⊢; simp only [hg, Option.bind_some] at hv ⊢; rw [h.block g Uu hF]; exact hv
theorem Gd.turn {F : List Nat} {w w' : World} (h : Gd w) (hb : aw F w w') (N1 : b9.g 15 ∉ F) (N2 : b9.g 16 ∉ F) : Gd w' := by
 obtain ⟨⟨⟨t1, p1, h1⟩, k1⟩, ⟨t2, p2, h2⟩, k2⟩ := h; exact ⟨⟨⟨t1, p1, C3 hb (by kernel_rfl) k1 N1 h1⟩, Nat.lt_of_lt_of_le k1 hb.size⟩, ⟨t2, p2, C3 hb (by kernel_rfl) k2 N2 h2⟩, Nat.lt_of_lt_of_le k2 hb.size⟩
structure yJ (w0 : World) (A M : Nat) (w : World) (l : List (List UInt8)) (b : Bool) (cs : List Value) : Prop where
 rd : qh w A l b
 box : Bw w M 30 cs
 P7 : Gd w
 turn : aw [A] w0 w
 old : w0.heap.size <= M
 a0 : A < w0.heap.size
 g15 : b9.g 15 ≠ A
 g16 : b9.g 16 ≠ A
theorem yJ.ne {w0 : World} {A M : Nat} {w : World} {l : List (List UInt8)} {b : Bool} {cs : List Value} (h : yJ w0 A M w l b cs) : M ≠ A := by
 have := h.a0; have := h.old; omega
theorem yJ.next {w0 : World} {A M : Nat} {w w' : World} {l l' : List (List UInt8)} {b b' : Bool} {cs : List Value} (h : yJ w0 A M w l b cs) (hr : qh w' A l' b') (ht : aw [A] w w') : yJ w0 A M w' l' b' cs :=
 ⟨hr, h.box.turn ht (by simpa using h.ne), h.P7.turn ht (by simpa using h.g15) (by simpa using h.g16), h.turn.trans ht, h.old, h.a0, h.g15, h.g16⟩
theorem yJ.number {w0 : World} {A M : Nat} {w : World} {l : List (List UInt8)} {b : Bool} {cs : List Value} (h : yJ w0 A M w l b cs) :
  Calls Tryz.prog 82 #[.pointer (some ⟨A, 0, none⟩)] w fun e w' => e = .returned (.int .i64 (b7 l).1) /\ yJ w0 A M w' l.tail (b || !(b7 l).2) cs := by
 refine (yj A l b w h.rd h.P7 (fun w' ht => h.P7.turn ht (by simpa using h.g15) (by simpa using h.g16))).mono ?_; rintro e w1 ⟨rfl, hr, ht⟩; exact ⟨rfl, h.next hr ht⟩
theorem yJ.name {w0 : World} {A M : Nat} {w : World} {l : List (List UInt8)} {b : Bool} {cs : List Value} (h : yJ w0 A M w l b cs) :
  Calls Tryz.prog 81 #[.pointer (some ⟨A, 0, none⟩)] w fun e w' => e = .returned (.string (aU (cV l).1)) /\ yJ w0 A M w' l.tail (b || !(cV l).2) cs := by
 refine (CW A l b w h.rd).mono ?_; rintro e w1 ⟨rfl, hr, ht⟩; exact ⟨rfl, h.next hr ht⟩
theorem yJ.key {w0 : World} {A M : Nat} {w : World} {l : List (List UInt8)} {b : Bool} {cs : List Value} (h : yJ w0 A M w l b cs) :
  Calls Tryz.prog 83 #[.pointer (some ⟨A, 0, none⟩)] w fun e w' => e = .returned (.string (aU (fj l).1)) /\ yJ w0 A M w' l.tail (b || !(fj l).2) cs := by
 refine (Gf A l b w h.rd).mono ?_; rintro e w1 ⟨rfl, hr, ht⟩; exact ⟨rfl, h.next hr ht⟩
theorem yJ.take {w0 : World} {A M : Nat} {w : World} {l : List (List UInt8)} {b : Bool} {cs : List Value} (h : yJ w0 A M w l b cs) (ok : Bool) :
  Calls Tryz.prog 80 #[.pointer (some ⟨A, 0, none⟩), .bool ok] w fun e w' => e = .returned (.tuple #[]) /\ yJ w0 A M w' l (b || !ok) cs := by
 refine (lw A l b ok w h.rd).mono ?_; rintro e w1 ⟨rfl, hr, ht⟩; exact ⟨rfl, h.next hr ht⟩
theorem yJ.put {w0 : World} {A M : Nat} {w : World} {l : List (List UInt8)} {b : Bool} {cs : List Value} (h : yJ w0 A M w l b cs) (i : Nat) (u : Value) (N1 : b9.g 15 < A) (N2 : b9.g 16 < A) : yJ w0 A M (w.setCell ⟨M, i, none⟩ u) l b (cs.set i u) := by
 have hM : A < M := by have := h.a0; have := h.old; omega
 have ht : aw [M] w (w.setCell ⟨M, i, none⟩ u) := (aw.refl [M] w).setCell (by simp) _; exact ⟨h.rd.turn ht (fun k hk => by simp at hk; omega), h.box.put i u, h.P7.turn ht (by simp; omega) (by simp; omega), h.turn.join ht (fun x hx => by simp at hx; subst hx; exact Or.inr h.old), h.old, h.a0, h.g15, h.g16⟩
end Go.Proofs.YtcamcgfbljhbhaaGreatDoor

namespace Go.Proofs.YtcamcgfbljhbhaaGreatDoor
open Go.RowKit
def mQ (L : List (List UInt8)) : Nat := aP List.length L
theorem Iw {α : Type} (f : α -> Nat) (l : List α) (x : α) : aP f (l ++ [x]) = aP f l + f x := by
 induction l with
 | nil => simp [aP]
 | cons y r ih => simp only [List.cons_append, aP, ih]; omega
def io (s : ByteArray) : aK × Bool := if bO (CU s.data.toList) = true /\ cH (CU s.data.toList) = s then (CU s.data.toList, true) else (⟨0, 0, []⟩, false)
theorem uN {m : aK} (h : bO m = true) : io (cH m) = (m, true) := by
 have e : (cH m).data.toList = fq m := by rw [kg h, eE]
 unfold io; rw [e, Ip h, if_pos ⟨h, rfl⟩]
theorem C4 {s : ByteArray} (h : ∀ m, bO m = true -> cH m ≠ s) : io s = (⟨0, 0, []⟩, false) := by
 unfold io; rw [if_neg (fun hh => h _ hh.1 hh.2)]
theorem Tryz.Ix : (Tryz.prog.info? 50).map (fun i => (i.zero, i.size, i.bytes)) = some (some (.agg #[.int .i64 0, .int .i64 0, .string ⟨#[]⟩, .string ⟨#[]⟩]), 4, 48) := by kernel_rfl
structure C5 (w : World) (br bm gl : Nat) (L : List (List UInt8)) (W : World) (m : aK) (a : Option Addr) (c : Nat) : Prop where
 b : Bw W bm 30 [.int .i64 m.ah, .int .i64 m.ce, .slice a m.aD.length c]
 r : Bw W br 30 [.int .i64 0, .int .i64 0, .slice none 0 0]
 l : Bx W gl (L.map P5)
 o : ∃ F, aF 4 50 vv W (.slice a m.aD.length c) m.aD F /\ F.Nodup /\ ∀ q, q ∈ F -> w.heap.size <= q /\ q ≠ bm /\ q ≠ br /\ q ≠ gl
 x : (Lit.int .i64 m.ah).wf = true /\ (Lit.int .i64 m.ce).wf = true
 t : Below w.heap.size w W
structure U0 (w : World) (br bm gl : Nat) : Prop where
 r : w.heap.size <= br
 m : w.heap.size <= bm
 n1 : br ≠ bm
 n2 : gl ≠ bm
 n3 : gl ≠ br
section
variable {w : World} {br bm gl : Nat} {L : List (List UInt8)} {W W' : World} {m : aK} {a : Option Addr} {c : Nat}
theorem C5.under (h : C5 w br bm gl L W m a c) (hx : Below W.heap.size W W') : C5 w br bm gl L W' m a c := by
 refine ⟨h.b.under hx, h.r.under hx, h.l.under hx, ?_, h.x, af h.t hx⟩; obtain ⟨F, ho, hN, hF⟩ := h.o; exact ⟨F, aF.frame bq ho (fun q hq => hx.block q (aF.lt bq ho q hq)), hN, hF⟩
theorem C5.read (h : C5 w br bm gl L W m a c) : ct W.heap.size W [.int .i64 m.ah, .int .i64 m.ce, .slice a m.aD.length c] m := by
 obtain ⟨F, ho, _⟩ := h.o; exact ⟨a, c, rfl, h.x.1, h.x.2, aF.leaf bq ho, trivial⟩
theorem C5.Tc (hp : U0 w br bm gl) {i : Nat} {u : Value} (h : C5 w br bm gl L W m a c) : (Bw (W.setCell ⟨bm, i, none⟩ u) br 30 [.int .i64 0, .int .i64 0, .slice none 0 0]) /\ Bx (W.setCell ⟨bm, i, none⟩ u) gl (L.map P5) /\ Below w.heap.size w (W.setCell ⟨bm, i, none⟩ u) /\ aw [bm] W (W.setCell ⟨bm, i, none⟩ u) := by
 have hT : aw [bm] W (W.setCell ⟨bm, i, none⟩ u) := (aw.refl _ _).setCell (by simp) _; have h1 := hp.m; have h2 := hp.n1; have h3 := hp.n2; exact ⟨h.r.turn hT (by simpa using h2), h.l.turn hT (by simpa using h3), h.t.trans (hT.below (fun k hk => by simp at hk; omega) h.t.size), hT⟩
theorem C5.next (hp : U0 w br bm gl) (h : C5 w br bm gl L W m a c) {n : Int} (hn : (Lit.int .i64 n).wf = true) : C5 w br bm gl L (W.setCell ⟨bm, 0, none⟩ (.int .i64 n)) { m with ah := n } a c := by
 obtain ⟨h1, h2, h3, hT⟩ := h.Tc hp (i := 0) (u := .int .i64 n); obtain ⟨F, ho, hN, hF⟩ := h.o; exact ⟨h.b.put 0 _, h1, h2, ⟨F, aF.frame bq ho (fun q hq => hT.block q (aF.lt bq ho q hq) (by simpa using (hF q hq).2.1)), hN, hF⟩, ⟨hn, h.x.2⟩, h3⟩
theorem C5.cells (h : C5 w br bm gl L W m a c) {k : Nat} (hk : k < L.length) : W.cell? ⟨gl, k, none⟩ = some (P5 L[k]) := h.l.2 k _ (by rw [List.getElem?_map, List.getElem?_eq_getElem hk]; rfl)
end
theorem Af (w : World) (b : Nat) (u0 u1 u2 : Value) : aw [b] w (((w.setCell ⟨b, 0, none⟩ u0).setCell ⟨b, 1, none⟩ u1).setCell ⟨b, 2, none⟩ u2) :=
 (((aw.refl _ _).setCell (by simp) _).setCell (by simp) _).setCell (by simp) _
theorem C5.leave {w : World} {br bm gl : Nat} {L : List (List UInt8)} {W W' : World} {m : aK} {a : Option Addr} {c : Nat} (hp : U0 w br bm gl) (h : C5 w br bm gl L W m a c) (hT : aw [br] W W') : ct W'.heap.size W' [.int .i64 m.ah, .int .i64 m.ce, .slice a m.aD.length c] m /\ Below w.heap.size w W' := by
 have h1 := hp.r; obtain ⟨F, ho, hN, hF⟩ := h.o; have I9 := aF.frame (w' := W') bq ho (fun q hq => hT.block q (aF.lt bq ho q hq) (by simpa using (hF q hq).2.2.1)); exact ⟨⟨a, c, rfl, h.x.1, h.x.2, aF.leaf bq I9, trivial⟩, h.t.trans (hT.below (fun k hk => by simp at hk; omega) h.t.size)⟩
theorem Gk {α : Type} {size : Nat} {e : TypeId} {O : jy α} {w : World} {v : Value} {l : List α} {F : List Nat} (h : aF size e O w v l F) : ∀ k, v.ownBlock = some k -> k ∈ F := by
 rcases h with ⟨rfl, _, _⟩ | ⟨g, cap, cur, Fs, rfl, _, _, _, _, _, _, rfl⟩
 ·intro k hk; simp [Value.ownBlock] at hk
 ·intro k hk; simp [Value.ownBlock] at hk; subst hk; simp
theorem C5.push {w : World} {br bm gl : Nat} {L : List (List UInt8)} {W : World} {m : aK} {a : Option Addr} {c : Nat} (hp : U0 w br bm gl) (h : C5 w br bm gl L W m a c) : ∃ xs, W.ownsRow 0 50 4 (.slice a m.aD.length c) m.aD.length xs /\
  ∀ (v' : Value) (W' : World) (x1 x2 : Int) (k3 k4 : ByteArray), (Lit.int .i64 x1).wf = true -> (Lit.int .i64 x2).wf = true -> k3.size <= 9223372036854775807 -> k4.size <= 9223372036854775807 -> W'.ownsRow 0 50 4 v' (m.aD.length + 1) (xs ++ [.int .i64 x1, .int .i64 x2, .string k3, .string k4]) -> W.grownBy W' (Value.ownBlock (.slice a m.aD.length c)) -> (v'.ownBlock = Value.ownBlock (.slice a m.aD.length c) ∨ v'.ownBlock = some W.heap.size) ->
   ∀ r q, v' = .slice r (m.aD.length + 1) q -> Bw W' bm 30 [.int .i64 m.ah, .int .i64 m.ce, .slice a m.aD.length c] /\ C5 w br bm gl L (W'.setCell ⟨bm, 2, none⟩ (.slice r (m.aD.length + 1) q)) { m with aD := m.aD ++ [⟨x1, x2, k3, k4⟩] } r q := by
 obtain ⟨F, ho, hN, hF⟩ := h.o; have LP := hp.m; obtain ⟨xs, nJ, cS⟩ := aF.push bq ho hN; refine ⟨xs, nJ, ?_⟩; intro v' W' x1 x2 k3 k4 hx1 hx2 hk3 hk4 hown hgr hat r q hv; subst hv; obtain ⟨F', I9, QL, hF'⟩ := cS W' _ _ ⟨x1, x2, k3, k4⟩ [] hown hgr hat ⟨rfl, hx1, hx2, hk3, hk4, rfl⟩ (by simp) (fun b hb => by cases hb); have pM : aw (Value.ownBlock (.slice a m.aD.length c)).toList W W' := dE hgr; have hblk : ∀ b, b ∈ (Value.ownBlock (.slice a m.aD.length c)).toList -> w.heap.size <= b /\ b ≠ bm /\ b ≠ br /\ b ≠ gl := fun b hb => hF b (Gk ho b (by simpa using hb))
 have hb1 := h.b.turn pM (fun hm => (hblk bm hm).2.1 rfl); have hr1 := h.r.turn pM (fun hm => (hblk br hm).2.2.1 rfl); have sF := h.l.turn pM (fun hm => (hblk gl hm).2.2.2 rfl); have qU : Below w.heap.size w W' := h.t.trans (pM.below (fun k hk => (hblk k hk).1) h.t.size); have hT : aw [bm] W' (W'.setCell ⟨bm, 2, none⟩ (.slice r (m.aD.length + 1) q)) := (aw.refl _ _).setCell (by simp) _; have zw := h.b.lt; have oA := h.r.lt; have Kv := h.l.1
 have hF2 : ∀ b, b ∈ F' -> w.heap.size <= b /\ b ≠ bm /\ b ≠ br /\ b ≠ gl := fun b hb => by
  rcases hF' b hb with h1 | h1 | h1
  ·exact hF b h1
  ·cases h1
  ·have := h.t.size
   refine ⟨by omega, by omega, by omega, by omega⟩
 have e1 : m.aD.length + 1 = (m.aD ++ [(⟨x1, x2, k3, k4⟩ : aT)]).length := by simp
 refine ⟨hb1, ⟨?_, hr1.turn hT (by simpa using hp.n1), sF.turn hT (by simpa using hp.n2), ⟨F', ?_, QL, hF2⟩, h.x, qU.trans (hT.below (fun k hk => by simp at hk; omega) qU.size)⟩⟩
 ·have := hb1.put 2 (.slice r (m.aD.length + 1) q)
  show Bw _ bm _ [.int .i64 m.ah, .int .i64 m.ce, .slice r (m.aD ++ [(⟨x1, x2, k3, k4⟩ : aT)]).length q]; rw [<- e1]; exact this
 ·show aF 4 _ vv _ (.slice r (m.aD ++ [(⟨x1, x2, k3, k4⟩ : aT)]).length q) _ _
  rw [<- e1]; exact aF.frame bq I9 (fun b hb => hT.block b (aF.lt bq I9 b hb) (by simpa using (hF2 b hb).2.1))
theorem Src.meta {P : Program} {w : World} {g tx e' : Nat} {x y : Int} {s t : ByteArray} (hk : P.underlying tx = some (.slice e')) (hb : Bx w g [.int .i64 x, .int .i64 y, .string s, .string t]) : Src P 4 tx (.slice (some ⟨g, 0, none⟩) 1 1) 1 [.int .i64 x, .int .i64 y, .string s, .string t] w :=
 Src.ofSlice w hk ⟨g, 0, none⟩ 1 1 _ rfl (b8 hb) (by intro u hu; simp at hu; rcases hu with rfl | rfl | rfl | rfl <;> rfl)
end Go.Proofs.YtcamcgfbljhbhaaGreatDoor

namespace Go.Proofs.YtcamcgfbljhbhaaGreatDoor
open Go.RowKit Go.Maps Go.Shelf
theorem MT {a b : List UInt8} : (aU a = aU b) ↔ a = b := ⟨fun h => by have := congrArg (fun s : ByteArray => s.data.toList) h; simpa [eE] using this, fun h => by rw [h]⟩
theorem Bb (x y : List UInt8) : ((aU x).toList == (aU y).toList) = decide (x = y) := by
 by_cases hc : x = y
 ·rw [decide_eq_true hc]; exact Kk (by rw [hc])
 ·rw [decide_eq_false hc]; exact k_ne (fun hh => hc (MT.1 hh))
structure pu (w0 : World) (A M R : Nat) (w : World) (l : List (List UInt8)) (b : Bool) (x y : Int) (ts : List aT) (a : Option Addr) (c : Nat) : Prop where
 s : yJ w0 A M w l b [.int .i64 x, .int .i64 y, .slice a ts.length c]
 o : ∃ F, aF 4 50 vv w (.slice a ts.length c) ts F /\ F.Nodup /\ ∀ q, q ∈ F -> w0.heap.size <= q /\ q ≠ M /\ q ≠ R
 r : Bw w R 30 [.int .i64 0, .int .i64 0, .slice none 0 0]
 ro : w0.heap.size <= R
 rn : R ≠ M
section
variable {w0 : World} {A M R : Nat} {w w' : World} {l l' : List (List UInt8)} {b b' : Bool} {x y : Int} {ts : List aT} {a : Option Addr} {c : Nat}
theorem pu.next (h : pu w0 A M R w l b x y ts a c) (hr : qh w' A l' b') (ht : aw [A] w w') : pu w0 A M R w' l' b' x y ts a c := by
 have ha := h.s.a0; have hro := h.ro; refine ⟨h.s.next hr ht, ?_, h.r.turn ht (by simp; omega), h.ro, h.rn⟩; obtain ⟨F, ho, hN, hF⟩ := h.o; exact ⟨F, aF.frame bq ho (fun q hq => ht.block q (aF.lt bq ho q hq) (fun hm => by have := (hF q hq).1; simp at hm; omega)), hN, hF⟩
theorem pu.number (h : pu w0 A M R w l b x y ts a c) :
  Calls Tryz.prog 82 #[.pointer (some ⟨A, 0, none⟩)] w fun e w' => e = .returned (.int .i64 (b7 l).1) /\ pu w0 A M R w' l.tail (b || !(b7 l).2) x y ts a c := by
 refine (yj A l b w h.s.rd h.s.P7 (fun w' ht => h.s.P7.turn ht (by simpa using h.s.g15) (by simpa using h.s.g16))).mono ?_; rintro e w1 ⟨rfl, hr, ht⟩; exact ⟨rfl, h.next hr ht⟩
theorem pu.name (h : pu w0 A M R w l b x y ts a c) :
  Calls Tryz.prog 81 #[.pointer (some ⟨A, 0, none⟩)] w fun e w' => e = .returned (.string (aU (cV l).1)) /\ pu w0 A M R w' l.tail (b || !(cV l).2) x y ts a c := by
 refine (CW A l b w h.s.rd).mono ?_; rintro e w1 ⟨rfl, hr, ht⟩; exact ⟨rfl, h.next hr ht⟩
theorem pu.key (h : pu w0 A M R w l b x y ts a c) :
  Calls Tryz.prog 83 #[.pointer (some ⟨A, 0, none⟩)] w fun e w' => e = .returned (.string (aU (fj l).1)) /\ pu w0 A M R w' l.tail (b || !(fj l).2) x y ts a c := by
 refine (Gf A l b w h.s.rd).mono ?_; rintro e w1 ⟨rfl, hr, ht⟩; exact ⟨rfl, h.next hr ht⟩
theorem pu.take (h : pu w0 A M R w l b x y ts a c) (ok : Bool) :
  Calls Tryz.prog 80 #[.pointer (some ⟨A, 0, none⟩), .bool ok] w fun e w' => e = .returned (.tuple #[]) /\ pu w0 A M R w' l (b || !ok) x y ts a c := by
 refine (lw A l b ok w h.s.rd).mono ?_; rintro e w1 ⟨rfl, hr, ht⟩; exact ⟨rfl, h.next hr ht⟩
theorem pu.under (h : pu w0 A M R w l b x y ts a c) (hx : Below w.heap.size w w') : pu w0 A M R w' l b x y ts a c :=
 h.next (h.s.rd.below hx) (aw.bz hx)
theorem pu.push (N1 : b9.g 15 < A) (N2 : b9.g 16 < A) (h : pu w0 A M R w l b x y ts a c) : ∃ xs, w.ownsRow 0 50 4 (.slice a ts.length c) ts.length xs /\
  ∀ (v' : Value) (W' : World) (t : aT), (Lit.int .i64 t.fD).wf = true -> (Lit.int .i64 t.aN).wf = true -> t.eo.size <= 9223372036854775807 -> t.em.size <= 9223372036854775807 -> W'.ownsRow 0 50 4 v' (ts.length + 1) (xs ++ [.int .i64 t.fD, .int .i64 t.aN, .string t.eo, .string t.em]) -> w.grownBy W' (Value.ownBlock (.slice a ts.length c)) -> (v'.ownBlock = Value.ownBlock (.slice a ts.length c) ∨ v'.ownBlock = some w.heap.size) ->
   ∀ r q, v' = .slice r (ts.length + 1) q -> Bw W' M 30 [.int .i64 x, .int .i64 y, .slice a ts.length c] /\ pu w0 A M R (W'.setCell ⟨M, 2, none⟩ (.slice r (ts.length + 1) q)) l b x y (ts ++ [t]) r q := by
 obtain ⟨F, ho, hN, hF⟩ := h.o; have hM := h.s.old; have hA := h.s.a0; have hsz := h.s.turn.size; obtain ⟨xs, nJ, cS⟩ := aF.push bq ho hN; refine ⟨xs, nJ, ?_⟩; intro v' W' t hx1 hx2 hk3 hk4 hown hgr hat r q hv; subst hv; obtain ⟨F', I9, QL, hF'⟩ := cS W' _ _ t [] hown hgr hat ⟨rfl, hx1, hx2, hk3, hk4, rfl⟩ (by simp) (fun b hb => by cases hb); have pM : aw (Value.ownBlock (.slice a ts.length c)).toList w W' := dE hgr; have hblk : ∀ b, b ∈ (Value.ownBlock (.slice a ts.length c)).toList -> w0.heap.size <= b /\ b ≠ M /\ b ≠ R := fun b hb => hF b (Gk ho b (by simpa using hb))
 have hb1 := h.s.box.turn pM (fun hm => (hblk M hm).2.1 rfl)
 have hS1 : yJ w0 A M W' l b [.int .i64 x, .int .i64 y, .slice a ts.length c] :=
  ⟨h.s.rd.turn pM (fun k hk => by have := (hblk k hk).1; omega), hb1, h.s.P7.turn pM (fun hm => by have := (hblk _ hm).1; omega) (fun hm => by have := (hblk _ hm).1; omega), h.s.turn.join pM (fun k hk => Or.inr (hblk k hk).1), h.s.old, h.s.a0, h.s.g15, h.s.g16⟩
 have hT : aw [M] W' (W'.setCell ⟨M, 2, none⟩ (.slice r (ts.length + 1) q)) := (aw.refl _ _).setCell (by simp) _; have zw := h.s.box.lt; have oA := h.r.lt; have hr1 := h.r.turn pM (fun hm => (hblk R hm).2.2 rfl)
 have hF2 : ∀ b, b ∈ F' -> w0.heap.size <= b /\ b ≠ M /\ b ≠ R := fun b hb => by
  rcases hF' b hb with h1 | h1 | h1
  ·exact hF b h1
  ·cases h1
  ·exact ⟨by omega, by omega, by omega⟩
 have e1 : ts.length + 1 = (ts ++ [t]).length := by simp
 refine ⟨hb1, ⟨?_, ⟨F', ?_, QL, hF2⟩, hr1.turn hT (by simpa using h.rn), h.ro, h.rn⟩⟩
 ·have := hS1.put 2 (.slice r (ts.length + 1) q) N1 N2
  rw [<- e1]; exact this
 ·rw [<- e1]
  exact aF.frame bq I9 (fun b hb => hT.block b (aF.lt bq I9 b hb) (by simpa using (hF2 b hb).2.1))
theorem pu.PQ (N1 : b9.g 15 < A) (N2 : b9.g 16 < A) (h : pu w0 A M R w l b x y ts a c) (n : Int) : pu w0 A M R (w.setCell ⟨M, 0, none⟩ (.int .i64 n)) l b n y ts a c := by
 have hT : aw [M] w (w.setCell ⟨M, 0, none⟩ (.int .i64 n)) := (aw.refl _ _).setCell (by simp) _; obtain ⟨F, ho, hN, hF⟩ := h.o; exact ⟨h.s.put 0 _ N1 N2, ⟨F, aF.frame bq ho (fun q hq => hT.block q (aF.lt bq ho q hq) (by simpa using (hF q hq).2.1)), hN, hF⟩, h.r.turn hT (by simpa using h.rn), h.ro, h.rn⟩
theorem pu.PR (N1 : b9.g 15 < A) (N2 : b9.g 16 < A) (h : pu w0 A M R w l b x y ts a c) (n : Int) : pu w0 A M R (w.setCell ⟨M, 1, none⟩ (.int .i64 n)) l b x n ts a c := by
 have hT : aw [M] w (w.setCell ⟨M, 1, none⟩ (.int .i64 n)) := (aw.refl _ _).setCell (by simp) _; obtain ⟨F, ho, hN, hF⟩ := h.o; exact ⟨h.s.put 1 _ N1 N2, ⟨F, aF.frame bq ho (fun q hq => hT.block q (aF.lt bq ho q hq) (by simpa using (hF q hq).2.1)), hN, hF⟩, h.r.turn hT (by simpa using h.rn), h.ro, h.rn⟩
theorem pu.leave (h : pu w0 A M R w l b x y ts a c) (hT : aw [R] w w') : (∃ l', qh w' A l' b) /\ aw [A] w0 w' /\ ∃ F, aF 4 50 vv w' (.slice a ts.length c) ts F /\ F.Nodup /\ ∀ q, q ∈ F -> w0.heap.size <= q := by
 obtain ⟨F, ho, hN, hF⟩ := h.o; have h1 := h.ro; have h2 := h.s.a0; exact ⟨⟨l, h.s.rd.turn hT (fun k hk => by simp at hk; omega)⟩, h.s.turn.join hT (fun k hk => by simp at hk; subst hk; exact Or.inr h.ro), F, aF.frame bq ho (fun q hq => hT.block q (aF.lt bq ho q hq) (by simpa using (hF q hq).2.2)), hN, fun q hq => (hF q hq).1⟩
end
theorem MU (x : List UInt8) : (Lit.int .i64 (ql x).1).wf = true := by
 unfold ql; cases h : Lib.atoiAll x with
 | ok v => have := Lib.atoiAll_bounds h; exact WalkArith.wf_i64 (by omega)
 | range => have := Lib.atoiSat_bounds x; exact WalkArith.wf_i64 (by omega)
 | _ => rfl
theorem fW (l : List (List UInt8)) : (Lit.int .i64 (b7 l).1).wf = true := MU _
theorem i7 {w : World} {A : Nat} {l : List (List UInt8)} {b : Bool} (h : qh w A l b) : (aU (fj l).1).size <= 1048576 := by
 have h1 := yi h.lens; have h2 := pd _ (fB l).1 rN; rw [fE]
 show (fh (fB l).1).length <= _; omega
def Gl (A : Nat) (w : World) : Nat := match w.cell? ⟨A, 1, none⟩, w.cell? ⟨A, 0, none⟩ with
 | some (.bool true), _ => 0
 | some (.bool false), some (.slice _ n _) => n + 1
 | _, _ => 0
theorem qh.left {w : World} {A : Nat} {l : List (List UInt8)} {b : Bool} (h : qh w A l b) : Gl A w = bif b then 0 else l.length + 1 := by
 obtain ⟨p, c, hb, _, _⟩ := h; unfold Gl; rw [hb.cell 1 _ rfl, hb.cell 0 _ rfl]; cases b <;> rfl
def MV (N : Nat) (T : List aT × Bool) (l : List (List UInt8)) (b : Bool) (ts : List aT) : Prop := ∃ f, jg f l b ts = T /\ 1 <= f /\ (b = false -> l.length + 2 <= f /\ ts.length + l.length <= N)
theorem MV.bad {N : Nat} {T : List aT × Bool} {l : List (List UInt8)} {ts : List aT} (h : MV N T l true ts) : T = (ts, true) := by
 obtain ⟨f, h1, h2, _⟩ := h; obtain ⟨f, rfl⟩ : ∃ g, f = g + 1 := ⟨f - 1, by omega⟩
 rw [<- h1]; rfl
theorem MV.done {N : Nat} {T : List aT × Bool} {l : List (List UInt8)} {ts : List aT} (h : MV N T l false ts) (hn : (cV l).1 = ia) : T = (ts, false || !(cV l).2) := by
 obtain ⟨f, h1, h2, _⟩ := h; obtain ⟨f, rfl⟩ : ∃ g, f = g + 1 := ⟨f - 1, by omega⟩
 rw [<- h1, jg, hn]; simp
theorem Iy (l : List (List UInt8)) : l.tail.tail.tail.tail.tail.length = l.length - 5 := by simp only [List.length_tail]; omega
theorem MW (b : Bool) : uM [] b = true := by cases b <;> rfl
theorem MV.more {N : Nat} {T : List aT × Bool} {l : List (List UInt8)} {ts : List aT} (h : MV N T l false ts) (hn : ¬ (cV l).1 = ia) : MV N T l.tail.tail.tail.tail.tail (yl l.tail (uM l false)) (ts ++ [vT l.tail]) /\ ts.length <= N /\ (bif yl l.tail (uM l false) then 0 else l.tail.tail.tail.tail.tail.length + 1) < l.length + 1 := by
 obtain ⟨f, h1, h2, h3⟩ := h; obtain ⟨h4, h5⟩ := h3 rfl; obtain ⟨f, rfl⟩ : ∃ g, f = g + 1 := ⟨f - 1, by omega⟩
 have hl := Iy l; have hb : l = [] -> yl l.tail (uM l false) = true := by rintro rfl; rw [MW]; unfold yl; simp
 refine ⟨⟨f, ?_, by omega, fun hc => ?_⟩, by omega, ?_⟩
 ·rw [<- h1, jg, decide_eq_false hn]; rfl
 ·have hne : l ≠ [] := fun he => by rw [hb he] at hc; cases hc
  have hp : 0 < l.length := List.length_pos_iff.2 hne; rw [List.length_append, hl]; exact ⟨by omega, by simp; omega⟩
 ·cases hq : yl l.tail (uM l false)
  ·have hne : l ≠ [] := fun he => by rw [hb he] at hq; cases hq
   have hp : 0 < l.length := List.length_pos_iff.2 hne; rw [hl]; simp; omega
  ·simp
end Go.Proofs.YtcamcgfbljhbhaaGreatDoor

namespace Go.Proofs.YtcamcgfbljhbhaaGreatDoor
open Go.RowKit Go.Maps Go.Shelf
theorem C6 (A : Nat) (l : List (List UInt8)) (w : World) (TG : List aT × Bool) (Zv : TG = jg (l.length + 2) l.tail.tail.tail.tail (tX l) []) (h : qh w A l false) (hE : Gd w) (hA : A < w.heap.size) (g15 : b9.g 15 < A) (g16 : b9.g 16 < A) (Kv : l.length <= 1048576) :
  Calls Tryz.prog 35 #[.pointer (some ⟨A, 0, none⟩)] w fun e w' => ∃ (a : Option Addr) (c : Nat), e = .returned (.agg #[.int .i64 (b7 l.tail).1, .int .i64 (b7 l.tail.tail.tail).1, .slice a TG.1.length c]) /\ (∃ l', qh w' A l' TG.2) /\ aw [A] w w' /\ ∃ F, aF 4 50 vv w' (.slice a TG.1.length c) TG.1 F /\ F.Nodup /\ ∀ q, q ∈ F -> w.heap.size <= q := by
 have Zw := Hm Zv; clear Zv; obtain ⟨iT, Cl, hz0, hz1, hz2⟩ := info_parts Tryz.Ix; obtain ⟨w1, di⟩ : ∃ q, q = (w.alloc (.cells #[.int .i64 0, .int .i64 0, .slice none 0 0] 30)).alloc (.cells #[.int .i64 0, .int .i64 0, .slice none 0 0] 30) := ⟨_, rfl⟩
 have hb1 : Below w.heap.size w w1 := by rw [di]; exact (rB.alloc rN _).alloc (by simp) _
 have MA : Hid (pu w A (w.heap.size + 1) w.heap.size w1 l false 0 0 [] none 0) :=
  ⟨⟨h.below hb1, by rw [di]; exact Bw.dX _ _ _ (by simp), hE.below hb1, aw.bz hb1, by omega, hA, by omega, by omega⟩, ⟨[], .inl ⟨rfl, rfl, rfl⟩, by simp, fun q hq => by cases hq⟩, by rw [di]; exact (Bw.new _ _ _).alloc _, rN, by omega⟩
 clear h hE; go_enter Tryz.func35, Tryz.ntmps35; go_wp2_with (rw [<- di]); refine MA.out.name.mono ?_; rintro e w2 ⟨rfl, QK⟩; have Ku := Hm QK; clear MA QK; have hq : ((aU (cV l).1).toList == [110, 101, 120, 116]) = decide ((cV l).1 = [110, 101, 120, 116]) := (congrArg (fun z => (aU (cV l).1).toList == z) (show ([110, 101, 120, 116] : List UInt8) = (aU [110, 101, 120, 116]).toList by decide +kernel)).trans (Bb _ [110, 101, 120, 116]); generalize nk : decide ((cV l).1 = [110, 101, 120, 116]) = bn at hq; have Zx := Hm nk; clear nk; go_wp2_with fail; refine (Ku.out.take _).mono ?_; rintro e w3 ⟨rfl, Pm⟩
 try rw [hq] at Pm
 have dx : Hid (pu w A (w.heap.size + 1) w.heap.size w3 l.tail ((false || !(cV l).2) || !bn) 0 0 [] none 0) := Pm; clear Pm Ku hq; go_wp2_with fail; refine dx.out.number.mono ?_; rintro e w4 ⟨rfl, Td⟩; have c4 := Td.s.box.cell 0 _ rfl; have f4 := Td.s.box.free 0; have hl4 := Td.s.box.lt; have xK := Hm (Td.PQ g15 g16 (b7 l.tail).1); clear Td dx; obtain ⟨w5, pF⟩ : ∃ q, q = w4.setCell ⟨w.heap.size + 1, 0, none⟩ (.int .i64 (b7 l.tail).1) := ⟨_, rfl⟩
 rw [<- pF] at xK; go_wp2_with (rw [<- pF]); clear pF f4 hl4 c4; refine xK.out.name.mono ?_; rintro e w6 ⟨rfl, Zy⟩; have Zz := Hm Zy; clear xK Zy; have hq : ((aU (cV l.tail.tail).1).toList == [108, 111, 103]) = decide ((cV l.tail.tail).1 = [108, 111, 103]) := (congrArg (fun z => (aU (cV l.tail.tail).1).toList == z) (show ([108, 111, 103] : List UInt8) = (aU [108, 111, 103]).toList by decide +kernel)).trans (Bb _ [108, 111, 103]); generalize hbl : decide ((cV l.tail.tail).1 = [108, 111, 103]) = bl at hq; have qF := Hm hbl; clear hbl; go_wp2_with fail; refine (Zz.out.take _).mono ?_; rintro e w7 ⟨rfl, XE⟩
 try rw [hq] at XE
 have ZA := Hm XE; clear Zz XE hq; go_wp2_with fail; refine ZA.out.number.mono ?_; rintro e w8 ⟨rfl, Te⟩; have c8 := Te.s.box.cell 1 _ rfl; have f8 := Te.s.box.free 1; have MX := Te.s.box.lt; have Kh := Hm (Te.PR g15 g16 (b7 l.tail.tail.tail).1); clear Te ZA; obtain ⟨w9, zI⟩ : ∃ q, q = w8.setCell ⟨w.heap.size + 1, 1, none⟩ (.int .i64 (b7 l.tail.tail.tail).1) := ⟨_, rfl⟩
 rw [<- zI] at Kh; go_wp2_with (rw [<- zI]); clear zI f8 MX c8; obtain ⟨B, hB⟩ : ∃ q, q = tX l := ⟨_, rfl⟩
 have hS : pu w A (w.heap.size + 1) w.heap.size w9 l.tail.tail.tail.tail B (b7 l.tail).1 (b7 l.tail.tail.tail).1 [] none 0 := by
  rw [hB]; unfold tX; rw [Zx.out, qF.out]; exact Kh.out
 obtain ⟨R, XF⟩ : ∃ q, q = w.heap.size := ⟨_, rfl⟩
 obtain ⟨M, XG⟩ : ∃ q, q = w.heap.size + 1 := ⟨_, rfl⟩
 have ZB : pu w A M R w9 l.tail.tail.tail.tail B (b7 l.tail).1 (b7 l.tail.tail.tail).1 [] none 0 := by rw [XG, XF]; exact hS
 have U1 : Hid (MV l.length TG l.tail.tail.tail.tail B []) := ⟨_, by rw [hB]; exact Zw.out.symm, by omega, fun _ => by simp only [List.length_tail, List.length_nil]; omega⟩
 have HST := Hm ZB; have Iz := Hm g15; have IA := Hm g16; have UB := Hm Kv; rw [<- XG]; rw [<- XF]; clear ZB XF XG hS hB Zw Kh Zx qF g15 g16 Kv hb1 di; obtain ⟨x, hx⟩ : ∃ q, q = (b7 l.tail).1 := ⟨_, rfl⟩
 obtain ⟨y, hy⟩ : ∃ q, q = (b7 l.tail.tail.tail).1 := ⟨_, rfl⟩
 rw [<- hx, <- hy] at HST; have HX := Hm hx; have HY := Hm hy; clear hx hy; generalize l.tail.tail.tail.tail = L4 at HST U1; generalize l.length = N at U1 UB; go_wp2_with fail
 go_loopw [4] (fun i wr => ∃ (l : List (List UInt8)) (b : Bool) (ts : List aT) (a : Option Addr) (c : Nat), Hid (pu w A M R wr l b x y ts a c) /\ Hid (MV N TG l b ts)) (fun i wr => Gl A wr)
 case atStart => exact ⟨_, _, _, _, _, HST, U1⟩
 case round =>
  clear HST U1; obtain ⟨l, b, ts, a, c, HST, Q7⟩ := hrel; have Lt := Hm HST.out.s.rd.left; have qQ := HST.out.s.rd; obtain ⟨p, cc, uI, _, _⟩ := qQ; have b1 := uI.cell 1 _ rfl; clear uI; cases b
  ·have Lt : Hid (Gl A wr = l.length + 1) := Lt
   go_wp2_with fail; clear b1; refine HST.out.name.mono ?_; rintro e w1 ⟨rfl, Ns⟩; clear HST; have H1 := Hm Ns; clear Ns; have hq : ((aU (cV l).1).toList == [101, 110, 100]) = decide ((cV l).1 = [101, 110, 100]) := (congrArg (fun z => (aU (cV l).1).toList == z) (show ([101, 110, 100] : List UInt8) = (aU [101, 110, 100]).toList by decide +kernel)).trans (Bb _ [101, 110, 100]); have Cu : ((aU (cV l).1).toList == [116, 97, 98]) = decide ((cV l).1 = [116, 97, 98]) := (congrArg (fun z => (aU (cV l).1).toList == z) (show ([116, 97, 98] : List UInt8) = (aU [116, 97, 98]).toList by decide +kernel)).trans (Bb _ [116, 97, 98])
   by_cases hend : (cV l).1 = [101, 110, 100]
   ·rw [decide_eq_true hend] at hq
    have xA := Hm (Q7.out.done hend); clear Cu hend Q7 Lt; generalize aU (cV l).1 = nm at *; have m0 := H1.out.s.box.cell 0 _ rfl; have m1 := H1.out.s.box.cell 1 _ rfl; have m2 := H1.out.s.box.cell 2 _ rfl; have o0 := H1.out.r.cell 0 _ rfl; have o1 := H1.out.r.cell 1 _ rfl; have o2 := H1.out.r.cell 2 _ rfl; have f0 := H1.out.r.free 0; have f1 := H1.out.r.free 1; have f2 := H1.out.r.free 2; have oA := H1.out.r.lt; go_wp2_with fail; refine bodyPost_ret (v := .agg #[.int .i64 x, .int .i64 y, .slice a ts.length c]) (by simp [results, Tryz.results35, go_sem, *]) rfl ?_; rw [xA.out, <- HX.out, <- HY.out]; exact ⟨a, c, rfl, H1.out.leave (Af _ _ _ _ _)⟩
   ·rw [decide_eq_false hend] at hq
    obtain ⟨bt, Q8⟩ : ∃ q, q = decide ((cV l).1 = [116, 97, 98]) := ⟨_, rfl⟩
    rw [<- Q8] at Cu; have MZ : Hid (uM l false = ((false || !(cV l).2) || !bt)) := by show _ = _; rw [Q8]; rfl
    have DA := Hm (Q7.out.more hend); have I7 : Hid (ts.length <= 1048576) := Nat.le_trans DA.out.2.1 UB.out; clear hend Q7 Q8; go_wp2_with fail; refine (H1.out.take _).mono ?_; rintro e w2 ⟨rfl, Rf⟩
    try rw [Cu] at Rf
    have H2 : Hid (pu w A M R w2 l.tail (uM l false) x y ts a c) := by show pu _ _ _ _ _ _ _ _ _ _ _ _; rw [MZ.out]; exact Rf
    clear Rf H1 MZ hq Cu; go_wp2_with fail; refine vE (fun W => True) (trivial) (fun hZ => ?_); obtain ⟨wS, jU⟩ : ∃ wS, wS = w2.drew := ⟨_, rfl⟩
    have gc : Hid (pu w A M R wS l.tail (uM l false) x y ts a c) := by show pu _ _ _ _ _ _ _ _ _ _ _ _; rw [jU]; exact H2.out.under (Below.drew rB)
    rw [<- jU]; clear jU H2; refine uq 0 ?_; refine uq 2 ?_; refine uq 4 ?_; refine uq 6 ?_; refine uq 8 ?_; refine lM [1, 3] ?_; refine (AllReadyH.cons (aM rfl) (fun K hK => ?_) (AllReadyH.cons (aM rfl) (fun K hK => ?_) AllReadyH.nil))
    ·go_simp
     have p2 := gc.out.s.box.cell 2 _ rfl; go_simp; obtain ⟨fy, fA⟩ : ∃ x, x = wS := ⟨_, rfl⟩
     have eD : True := trivial; rw [<- fA] at gc ⊢
     (try rw [<- fA] at bW)
     clear fA p2; refine aL hK (trivial) (fun hZ => ?_); clear hK K; refine bf 3 rfl fun K hK => ?_
     go_simp; refine gc.out.number.mono ?_; rintro e bX ⟨rfl, Tf⟩; clear gc; have gc := Hm Tf; clear Tf; have bU : True := trivial; go_wp2_with fail; refine aL hK (trivial) (fun hZ => ?_); clear hK K; refine bf 5 rfl fun K hK => ?_
     go_simp; refine gc.out.number.mono ?_; rintro e gw ⟨rfl, N3⟩; clear gc; have gc := Hm N3; clear N3; have sr : True := trivial; go_wp2_with fail; refine aL hK (trivial) (fun hZ => ?_); clear hK K; refine bf 7 rfl fun K hK => ?_
     go_simp; have M0 := Hm (i7 gc.out.s.rd); refine gc.out.key.mono ?_; rintro e bR ⟨rfl, KY⟩; clear gc; have gc := Hm KY; clear KY; have cI : True := trivial; go_wp2_with fail; refine aL hK (trivial) (fun hZ => ?_); clear hK K; refine bf 9 rfl fun K hK => ?_
     go_simp; have C7 := Hm (i7 gc.out.s.rd); refine gc.out.key.mono ?_; rintro e cB ⟨rfl, Gm⟩; clear gc; have gc := Hm Gm; clear Gm; have o6 : True := trivial; go_wp2_with fail; refine aL hK (trivial) (fun hZ => ?_); clear hK K; refine uq 10 ?_; refine bf 11 rfl fun K hK => ?_
     go_simp; obtain ⟨aO, bp⟩ : ∃ x, x = cB.alloc (.cells (List.toArray [.int .i64 (b7 l.tail).1, .int .i64 (b7 l.tail.tail).1, .string (aU (fj l.tail.tail.tail).1), .string (aU (fj l.tail.tail.tail.tail).1)]) 50) := ⟨_, rfl⟩
     have iL : Below cB.heap.size cB aO := by rw [bp]; exact rB.alloc rN _
     have iK := Hm (gc.out.under iL); clear gc; have gc := iK; clear iK; have bW : Hid (Bx aO cB.heap.size [.int .i64 (b7 l.tail).1, .int .i64 (b7 l.tail.tail).1, .string (aU (fj l.tail.tail.tail).1), .string (aU (fj l.tail.tail.tail.tail).1)]) := by unfold Hid; rw [bp]; exact Bx.new _ _ _
     obtain ⟨g11, jz⟩ : ∃ x, Hid (x = cB.heap.size) := ⟨_, Hm rfl⟩
     rw [<- jz.out] at bW ⊢; have bG : True := trivial; rw [<- bp]; clear bp iL; refine aL hK (trivial) (fun hZ => ?_); clear hK K; refine bf 12 rfl fun K hK => ?_
     obtain ⟨xs, nJ, cS⟩ := gc.out.push Iz.out IA.out; have AY := Hm cS; clear cS; refine a6 _ rfl _ _ 28 28 rfl 0 50 iT (.agg (List.toArray [.int .i64 0, .int .i64 0, .string ⟨#[]⟩, .string ⟨#[]⟩])) 4 48 Tryz.underlying28 Cl hz0 hz1 hz2 rfl (.slice a ts.length c) ts.length xs rfl nJ (.slice (some ⟨g11, 0, none⟩) 1 1) rfl 1 [.int .i64 (b7 l.tail).1, .int .i64 (b7 l.tail.tail).1, .string (aU (fj l.tail.tail.tail).1), .string (aU (fj l.tail.tail.tail.tail).1)] (Src.meta Tryz.underlying28 bW.out) (by unfold maxLen; have := I7.out; omega) (by have := I7.out; omega) (Nat.zero_le _) ?_; intro v12 cZ dY fp dP; obtain ⟨ic, jn, rfl⟩ := bk dY; have ik := Hm (AY.out _ cZ (vT l.tail) (fW _) (fW _) (Nat.le_trans M0.out (by decide)) (Nat.le_trans C7.out (by decide)) dY fp dP ic jn rfl); have C8 : True := trivial; clear nJ dY dP fp; refine aL hK (trivial) (fun hZ => ?_); clear hK K; refine uq 13 ?_; refine bf 14 rfl fun K hK => ?_
     have ej := ik.out.1; have o2 := ej.cell 2 _ rfl; have f2 := ej.free 2; have lo := ej.lt; go_simp; obtain ⟨im, dR⟩ : ∃ x, x = cZ.setCell ⟨M, 2, none⟩ (.slice ic (ts.length + 1) jn) := ⟨_, rfl⟩
     have HE := Hm ik.out.2; rw [<- dR] at HE ⊢; have C9 : True := trivial; clear dR ej o2 f2 lo; refine aL hK (trivial) (fun hZ => ?_); clear hK K; refine dC ?_; go_wp2_with fail
     go_roundw
     case rel => exact ⟨_, _, _, _, _, HE, Hm DA.out.1⟩
     case measure => rw [HE.out.s.rd.left, Lt.out]; exact DA.out.2.2
    ·go_simp
     refine gc.out.number.mono ?_; rintro e bX ⟨rfl, Tf⟩; clear gc; have gc := Hm Tf; clear Tf; have bU : True := trivial; go_wp2_with fail; refine aL hK (trivial) (fun hZ => ?_); clear hK K; refine lM [1, 5] ?_; refine (AllReadyH.cons (aM rfl) (fun K hK => ?_) (AllReadyH.cons (aM rfl) (fun K hK => ?_) AllReadyH.nil))
     ·go_simp
      have p2 := gc.out.s.box.cell 2 _ rfl; go_simp; obtain ⟨fy, fA⟩ : ∃ x, x = bX := ⟨_, rfl⟩
      have eD : True := trivial; rw [<- fA] at gc ⊢
      (try rw [<- fA] at bW)
      clear fA p2; refine aL hK (trivial) (fun hZ => ?_); clear hK K; refine bf 5 rfl fun K hK => ?_
      go_simp; refine gc.out.number.mono ?_; rintro e gw ⟨rfl, N3⟩; clear gc; have gc := Hm N3; clear N3; have sr : True := trivial; go_wp2_with fail; refine aL hK (trivial) (fun hZ => ?_); clear hK K; refine bf 7 rfl fun K hK => ?_
      go_simp; have M0 := Hm (i7 gc.out.s.rd); refine gc.out.key.mono ?_; rintro e bR ⟨rfl, KY⟩; clear gc; have gc := Hm KY; clear KY; have cI : True := trivial; go_wp2_with fail; refine aL hK (trivial) (fun hZ => ?_); clear hK K; refine bf 9 rfl fun K hK => ?_
      go_simp; have C7 := Hm (i7 gc.out.s.rd); refine gc.out.key.mono ?_; rintro e cB ⟨rfl, Gm⟩; clear gc; have gc := Hm Gm; clear Gm; have o6 : True := trivial; go_wp2_with fail; refine aL hK (trivial) (fun hZ => ?_); clear hK K; refine uq 10 ?_; refine bf 11 rfl fun K hK => ?_
      go_simp; obtain ⟨aO, bp⟩ : ∃ x, x = cB.alloc (.cells (List.toArray [.int .i64 (b7 l.tail).1, .int .i64 (b7 l.tail.tail).1, .string (aU (fj l.tail.tail.tail).1), .string (aU (fj l.tail.tail.tail.tail).1)]) 50) := ⟨_, rfl⟩
      have iL : Below cB.heap.size cB aO := by rw [bp]; exact rB.alloc rN _
      have iK := Hm (gc.out.under iL); clear gc; have gc := iK; clear iK; have bW : Hid (Bx aO cB.heap.size [.int .i64 (b7 l.tail).1, .int .i64 (b7 l.tail.tail).1, .string (aU (fj l.tail.tail.tail).1), .string (aU (fj l.tail.tail.tail.tail).1)]) := by unfold Hid; rw [bp]; exact Bx.new _ _ _
      obtain ⟨g11, jz⟩ : ∃ x, Hid (x = cB.heap.size) := ⟨_, Hm rfl⟩
      rw [<- jz.out] at bW ⊢; have bG : True := trivial; rw [<- bp]; clear bp iL; refine aL hK (trivial) (fun hZ => ?_); clear hK K; refine bf 12 rfl fun K hK => ?_
      obtain ⟨xs, nJ, cS⟩ := gc.out.push Iz.out IA.out; have AY := Hm cS; clear cS; refine a6 _ rfl _ _ 28 28 rfl 0 50 iT (.agg (List.toArray [.int .i64 0, .int .i64 0, .string ⟨#[]⟩, .string ⟨#[]⟩])) 4 48 Tryz.underlying28 Cl hz0 hz1 hz2 rfl (.slice a ts.length c) ts.length xs rfl nJ (.slice (some ⟨g11, 0, none⟩) 1 1) rfl 1 [.int .i64 (b7 l.tail).1, .int .i64 (b7 l.tail.tail).1, .string (aU (fj l.tail.tail.tail).1), .string (aU (fj l.tail.tail.tail.tail).1)] (Src.meta Tryz.underlying28 bW.out) (by unfold maxLen; have := I7.out; omega) (by have := I7.out; omega) (Nat.zero_le _) ?_; intro v12 cZ dY fp dP; obtain ⟨ic, jn, rfl⟩ := bk dY; have ik := Hm (AY.out _ cZ (vT l.tail) (fW _) (fW _) (Nat.le_trans M0.out (by decide)) (Nat.le_trans C7.out (by decide)) dY fp dP ic jn rfl); have C8 : True := trivial; clear nJ dY dP fp; refine aL hK (trivial) (fun hZ => ?_); clear hK K; refine uq 13 ?_; refine bf 14 rfl fun K hK => ?_
      have ej := ik.out.1; have o2 := ej.cell 2 _ rfl; have f2 := ej.free 2; have lo := ej.lt; go_simp; obtain ⟨im, dR⟩ : ∃ x, x = cZ.setCell ⟨M, 2, none⟩ (.slice ic (ts.length + 1) jn) := ⟨_, rfl⟩
      have HE := Hm ik.out.2; rw [<- dR] at HE ⊢; have C9 : True := trivial; clear dR ej o2 f2 lo; refine aL hK (trivial) (fun hZ => ?_); clear hK K; refine dC ?_; go_wp2_with fail
      go_roundw
      case rel => exact ⟨_, _, _, _, _, HE, Hm DA.out.1⟩
      case measure => rw [HE.out.s.rd.left, Lt.out]; exact DA.out.2.2
     ·go_simp
      refine gc.out.number.mono ?_; rintro e gw ⟨rfl, N3⟩; clear gc; have gc := Hm N3; clear N3; have sr : True := trivial; go_wp2_with fail; refine aL hK (trivial) (fun hZ => ?_); clear hK K; refine lM [1, 7] ?_; refine (AllReadyH.cons (aM rfl) (fun K hK => ?_) (AllReadyH.cons (aM rfl) (fun K hK => ?_) AllReadyH.nil))
      ·go_simp
       have p2 := gc.out.s.box.cell 2 _ rfl; go_simp; obtain ⟨fy, fA⟩ : ∃ x, x = gw := ⟨_, rfl⟩
       have eD : True := trivial; rw [<- fA] at gc ⊢
       (try rw [<- fA] at bW)
       clear fA p2; refine aL hK (trivial) (fun hZ => ?_); clear hK K; refine bf 7 rfl fun K hK => ?_
       go_simp; have M0 := Hm (i7 gc.out.s.rd); refine gc.out.key.mono ?_; rintro e bR ⟨rfl, KY⟩; clear gc; have gc := Hm KY; clear KY; have cI : True := trivial; go_wp2_with fail; refine aL hK (trivial) (fun hZ => ?_); clear hK K; refine bf 9 rfl fun K hK => ?_
       go_simp; have C7 := Hm (i7 gc.out.s.rd); refine gc.out.key.mono ?_; rintro e cB ⟨rfl, Gm⟩; clear gc; have gc := Hm Gm; clear Gm; have o6 : True := trivial; go_wp2_with fail; refine aL hK (trivial) (fun hZ => ?_); clear hK K; refine uq 10 ?_; refine bf 11 rfl fun K hK => ?_
       go_simp; obtain ⟨aO, bp⟩ : ∃ x, x = cB.alloc (.cells (List.toArray [.int .i64 (b7 l.tail).1, .int .i64 (b7 l.tail.tail).1, .string (aU (fj l.tail.tail.tail).1), .string (aU (fj l.tail.tail.tail.tail).1)]) 50) := ⟨_, rfl⟩
       have iL : Below cB.heap.size cB aO := by rw [bp]; exact rB.alloc rN _
       have iK := Hm (gc.out.under iL); clear gc; have gc := iK; clear iK; have bW : Hid (Bx aO cB.heap.size [.int .i64 (b7 l.tail).1, .int .i64 (b7 l.tail.tail).1, .string (aU (fj l.tail.tail.tail).1), .string (aU (fj l.tail.tail.tail.tail).1)]) := by unfold Hid; rw [bp]; exact Bx.new _ _ _
       obtain ⟨g11, jz⟩ : ∃ x, Hid (x = cB.heap.size) := ⟨_, Hm rfl⟩
       rw [<- jz.out] at bW ⊢; have bG : True := trivial; rw [<- bp]; clear bp iL; refine aL hK (trivial) (fun hZ => ?_); clear hK K; refine bf 12 rfl fun K hK => ?_
       obtain ⟨xs, nJ, cS⟩ := gc.out.push Iz.out IA.out; have AY := Hm cS; clear cS; refine a6 _ rfl _ _ 28 28 rfl 0 50 iT (.agg (List.toArray [.int .i64 0, .int .i64 0, .string ⟨#[]⟩, .string ⟨#[]⟩])) 4 48 Tryz.underlying28 Cl hz0 hz1 hz2 rfl (.slice a ts.length c) ts.length xs rfl nJ (.slice (some ⟨g11, 0, none⟩) 1 1) rfl 1 [.int .i64 (b7 l.tail).1, .int .i64 (b7 l.tail.tail).1, .string (aU (fj l.tail.tail.tail).1), .string (aU (fj l.tail.tail.tail.tail).1)] (Src.meta Tryz.underlying28 bW.out) (by unfold maxLen; have := I7.out; omega) (by have := I7.out; omega) (Nat.zero_le _) ?_; intro v12 cZ dY fp dP; obtain ⟨ic, jn, rfl⟩ := bk dY; have ik := Hm (AY.out _ cZ (vT l.tail) (fW _) (fW _) (Nat.le_trans M0.out (by decide)) (Nat.le_trans C7.out (by decide)) dY fp dP ic jn rfl); have C8 : True := trivial; clear nJ dY dP fp; refine aL hK (trivial) (fun hZ => ?_); clear hK K; refine uq 13 ?_; refine bf 14 rfl fun K hK => ?_
       have ej := ik.out.1; have o2 := ej.cell 2 _ rfl; have f2 := ej.free 2; have lo := ej.lt; go_simp; obtain ⟨im, dR⟩ : ∃ x, x = cZ.setCell ⟨M, 2, none⟩ (.slice ic (ts.length + 1) jn) := ⟨_, rfl⟩
       have HE := Hm ik.out.2; rw [<- dR] at HE ⊢; have C9 : True := trivial; clear dR ej o2 f2 lo; refine aL hK (trivial) (fun hZ => ?_); clear hK K; refine dC ?_; go_wp2_with fail
       go_roundw
       case rel => exact ⟨_, _, _, _, _, HE, Hm DA.out.1⟩
       case measure => rw [HE.out.s.rd.left, Lt.out]; exact DA.out.2.2
      ·go_simp
       have M0 := Hm (i7 gc.out.s.rd); refine gc.out.key.mono ?_; rintro e bR ⟨rfl, KY⟩; clear gc; have gc := Hm KY; clear KY; have cI : True := trivial; go_wp2_with fail; refine aL hK (trivial) (fun hZ => ?_); clear hK K; refine lM [1, 9] ?_; refine (AllReadyH.cons (aM rfl) (fun K hK => ?_) (AllReadyH.cons (aM rfl) (fun K hK => ?_) AllReadyH.nil))
       ·go_simp
        have p2 := gc.out.s.box.cell 2 _ rfl; go_simp; obtain ⟨fy, fA⟩ : ∃ x, x = bR := ⟨_, rfl⟩
        have eD : True := trivial; rw [<- fA] at gc ⊢
        (try rw [<- fA] at bW)
        clear fA p2; refine aL hK (trivial) (fun hZ => ?_); clear hK K; refine bf 9 rfl fun K hK => ?_
        go_simp; have C7 := Hm (i7 gc.out.s.rd); refine gc.out.key.mono ?_; rintro e cB ⟨rfl, Gm⟩; clear gc; have gc := Hm Gm; clear Gm; have o6 : True := trivial; go_wp2_with fail; refine aL hK (trivial) (fun hZ => ?_); clear hK K; refine uq 10 ?_; refine bf 11 rfl fun K hK => ?_
        go_simp; obtain ⟨aO, bp⟩ : ∃ x, x = cB.alloc (.cells (List.toArray [.int .i64 (b7 l.tail).1, .int .i64 (b7 l.tail.tail).1, .string (aU (fj l.tail.tail.tail).1), .string (aU (fj l.tail.tail.tail.tail).1)]) 50) := ⟨_, rfl⟩
        have iL : Below cB.heap.size cB aO := by rw [bp]; exact rB.alloc rN _
        have iK := Hm (gc.out.under iL); clear gc; have gc := iK; clear iK; have bW : Hid (Bx aO cB.heap.size [.int .i64 (b7 l.tail).1, .int .i64 (b7 l.tail.tail).1, .string (aU (fj l.tail.tail.tail).1), .string (aU (fj l.tail.tail.tail.tail).1)]) := by unfold Hid; rw [bp]; exact Bx.new _ _ _
        obtain ⟨g11, jz⟩ : ∃ x, Hid (x = cB.heap.size) := ⟨_, Hm rfl⟩
        rw [<- jz.out] at bW ⊢; have bG : True := trivial; rw [<- bp]; clear bp iL; refine aL hK (trivial) (fun hZ => ?_); clear hK K; refine bf 12 rfl fun K hK => ?_
        obtain ⟨xs, nJ, cS⟩ := gc.out.push Iz.out IA.out; have AY := Hm cS; clear cS; refine a6 _ rfl _ _ 28 28 rfl 0 50 iT (.agg (List.toArray [.int .i64 0, .int .i64 0, .string ⟨#[]⟩, .string ⟨#[]⟩])) 4 48 Tryz.underlying28 Cl hz0 hz1 hz2 rfl (.slice a ts.length c) ts.length xs rfl nJ (.slice (some ⟨g11, 0, none⟩) 1 1) rfl 1 [.int .i64 (b7 l.tail).1, .int .i64 (b7 l.tail.tail).1, .string (aU (fj l.tail.tail.tail).1), .string (aU (fj l.tail.tail.tail.tail).1)] (Src.meta Tryz.underlying28 bW.out) (by unfold maxLen; have := I7.out; omega) (by have := I7.out; omega) (Nat.zero_le _) ?_; intro v12 cZ dY fp dP; obtain ⟨ic, jn, rfl⟩ := bk dY; have ik := Hm (AY.out _ cZ (vT l.tail) (fW _) (fW _) (Nat.le_trans M0.out (by decide)) (Nat.le_trans C7.out (by decide)) dY fp dP ic jn rfl); have C8 : True := trivial; clear nJ dY dP fp; refine aL hK (trivial) (fun hZ => ?_); clear hK K; refine uq 13 ?_; refine bf 14 rfl fun K hK => ?_
        have ej := ik.out.1; have o2 := ej.cell 2 _ rfl; have f2 := ej.free 2; have lo := ej.lt; go_simp; obtain ⟨im, dR⟩ : ∃ x, x = cZ.setCell ⟨M, 2, none⟩ (.slice ic (ts.length + 1) jn) := ⟨_, rfl⟩
        have HE := Hm ik.out.2; rw [<- dR] at HE ⊢; have C9 : True := trivial; clear dR ej o2 f2 lo; refine aL hK (trivial) (fun hZ => ?_); clear hK K; refine dC ?_; go_wp2_with fail
        go_roundw
        case rel => exact ⟨_, _, _, _, _, HE, Hm DA.out.1⟩
        case measure => rw [HE.out.s.rd.left, Lt.out]; exact DA.out.2.2
       ·go_simp
        have C7 := Hm (i7 gc.out.s.rd); refine gc.out.key.mono ?_; rintro e cB ⟨rfl, Gm⟩; clear gc; have gc := Hm Gm; clear Gm; have o6 : True := trivial; go_wp2_with fail; refine aL hK (trivial) (fun hZ => ?_); clear hK K; refine uq 10 ?_; refine lM [1, 11] ?_; refine (AllReadyH.cons (aM rfl) (fun K hK => ?_) (AllReadyH.cons (aM rfl) (fun K hK => ?_) AllReadyH.nil))
        ·go_simp
         have p2 := gc.out.s.box.cell 2 _ rfl; go_simp; obtain ⟨fy, fA⟩ : ∃ x, x = cB := ⟨_, rfl⟩
         have eD : True := trivial; rw [<- fA] at gc ⊢
         (try rw [<- fA] at bW)
         clear fA p2; refine aL hK (trivial) (fun hZ => ?_); clear hK K; refine bf 11 rfl fun K hK => ?_
         go_simp; obtain ⟨aO, bp⟩ : ∃ x, x = fy.alloc (.cells (List.toArray [.int .i64 (b7 l.tail).1, .int .i64 (b7 l.tail.tail).1, .string (aU (fj l.tail.tail.tail).1), .string (aU (fj l.tail.tail.tail.tail).1)]) 50) := ⟨_, rfl⟩
         have iL : Below fy.heap.size fy aO := by rw [bp]; exact rB.alloc rN _
         have iK := Hm (gc.out.under iL); clear gc; have gc := iK; clear iK; have bW : Hid (Bx aO fy.heap.size [.int .i64 (b7 l.tail).1, .int .i64 (b7 l.tail.tail).1, .string (aU (fj l.tail.tail.tail).1), .string (aU (fj l.tail.tail.tail.tail).1)]) := by unfold Hid; rw [bp]; exact Bx.new _ _ _
         obtain ⟨g11, jz⟩ : ∃ x, Hid (x = fy.heap.size) := ⟨_, Hm rfl⟩
         rw [<- jz.out] at bW ⊢; have bG : True := trivial; rw [<- bp]; clear bp iL; refine aL hK (trivial) (fun hZ => ?_); clear hK K; refine bf 12 rfl fun K hK => ?_
         obtain ⟨xs, nJ, cS⟩ := gc.out.push Iz.out IA.out; have AY := Hm cS; clear cS; refine a6 _ rfl _ _ 28 28 rfl 0 50 iT (.agg (List.toArray [.int .i64 0, .int .i64 0, .string ⟨#[]⟩, .string ⟨#[]⟩])) 4 48 Tryz.underlying28 Cl hz0 hz1 hz2 rfl (.slice a ts.length c) ts.length xs rfl nJ (.slice (some ⟨g11, 0, none⟩) 1 1) rfl 1 [.int .i64 (b7 l.tail).1, .int .i64 (b7 l.tail.tail).1, .string (aU (fj l.tail.tail.tail).1), .string (aU (fj l.tail.tail.tail.tail).1)] (Src.meta Tryz.underlying28 bW.out) (by unfold maxLen; have := I7.out; omega) (by have := I7.out; omega) (Nat.zero_le _) ?_; intro v12 cZ dY fp dP; obtain ⟨ic, jn, rfl⟩ := bk dY; have ik := Hm (AY.out _ cZ (vT l.tail) (fW _) (fW _) (Nat.le_trans M0.out (by decide)) (Nat.le_trans C7.out (by decide)) dY fp dP ic jn rfl); have C8 : True := trivial; clear nJ dY dP fp; refine aL hK (trivial) (fun hZ => ?_); clear hK K; refine uq 13 ?_; refine bf 14 rfl fun K hK => ?_
         have ej := ik.out.1; have o2 := ej.cell 2 _ rfl; have f2 := ej.free 2; have lo := ej.lt; go_simp; obtain ⟨im, dR⟩ : ∃ x, x = cZ.setCell ⟨M, 2, none⟩ (.slice ic (ts.length + 1) jn) := ⟨_, rfl⟩
         have HE := Hm ik.out.2; rw [<- dR] at HE ⊢; have C9 : True := trivial; clear dR ej o2 f2 lo; refine aL hK (trivial) (fun hZ => ?_); clear hK K; refine dC ?_; go_wp2_with fail
         go_roundw
         case rel => exact ⟨_, _, _, _, _, HE, Hm DA.out.1⟩
         case measure => rw [HE.out.s.rd.left, Lt.out]; exact DA.out.2.2
        ·go_simp
         obtain ⟨aO, bp⟩ : ∃ x, x = cB.alloc (.cells (List.toArray [.int .i64 (b7 l.tail).1, .int .i64 (b7 l.tail.tail).1, .string (aU (fj l.tail.tail.tail).1), .string (aU (fj l.tail.tail.tail.tail).1)]) 50) := ⟨_, rfl⟩
         have iL : Below cB.heap.size cB aO := by rw [bp]; exact rB.alloc rN _
         have iK := Hm (gc.out.under iL); clear gc; have gc := iK; clear iK; have bW : Hid (Bx aO cB.heap.size [.int .i64 (b7 l.tail).1, .int .i64 (b7 l.tail.tail).1, .string (aU (fj l.tail.tail.tail).1), .string (aU (fj l.tail.tail.tail.tail).1)]) := by unfold Hid; rw [bp]; exact Bx.new _ _ _
         obtain ⟨g11, jz⟩ : ∃ x, Hid (x = cB.heap.size) := ⟨_, Hm rfl⟩
         rw [<- jz.out] at bW ⊢; have bG : True := trivial; rw [<- bp]; clear bp iL; refine aL hK (trivial) (fun hZ => ?_); clear hK K; refine bf 1 rfl fun K hK => ?_
         go_simp; have p2 := gc.out.s.box.cell 2 _ rfl; go_simp; obtain ⟨fy, fA⟩ : ∃ x, x = aO := ⟨_, rfl⟩
         have eD : True := trivial; rw [<- fA] at gc ⊢
         (try rw [<- fA] at bW)
         clear fA p2; refine aL hK (trivial) (fun hZ => ?_); clear hK K; refine bf 12 rfl fun K hK => ?_
         obtain ⟨xs, nJ, cS⟩ := gc.out.push Iz.out IA.out; have AY := Hm cS; clear cS; refine a6 _ rfl _ _ 28 28 rfl 0 50 iT (.agg (List.toArray [.int .i64 0, .int .i64 0, .string ⟨#[]⟩, .string ⟨#[]⟩])) 4 48 Tryz.underlying28 Cl hz0 hz1 hz2 rfl (.slice a ts.length c) ts.length xs rfl nJ (.slice (some ⟨g11, 0, none⟩) 1 1) rfl 1 [.int .i64 (b7 l.tail).1, .int .i64 (b7 l.tail.tail).1, .string (aU (fj l.tail.tail.tail).1), .string (aU (fj l.tail.tail.tail.tail).1)] (Src.meta Tryz.underlying28 bW.out) (by unfold maxLen; have := I7.out; omega) (by have := I7.out; omega) (Nat.zero_le _) ?_; intro v12 cZ dY fp dP; obtain ⟨ic, jn, rfl⟩ := bk dY; have ik := Hm (AY.out _ cZ (vT l.tail) (fW _) (fW _) (Nat.le_trans M0.out (by decide)) (Nat.le_trans C7.out (by decide)) dY fp dP ic jn rfl); have C8 : True := trivial; clear nJ dY dP fp; refine aL hK (trivial) (fun hZ => ?_); clear hK K; refine uq 13 ?_; refine bf 14 rfl fun K hK => ?_
         have ej := ik.out.1; have o2 := ej.cell 2 _ rfl; have f2 := ej.free 2; have lo := ej.lt; go_simp; obtain ⟨im, dR⟩ : ∃ x, x = cZ.setCell ⟨M, 2, none⟩ (.slice ic (ts.length + 1) jn) := ⟨_, rfl⟩
         have HE := Hm ik.out.2; rw [<- dR] at HE ⊢; have C9 : True := trivial; clear dR ej o2 f2 lo; refine aL hK (trivial) (fun hZ => ?_); clear hK K; refine dC ?_; go_wp2_with fail
         go_roundw
         case rel => exact ⟨_, _, _, _, _, HE, Hm DA.out.1⟩
         case measure => rw [HE.out.s.rd.left, Lt.out]; exact DA.out.2.2
  ·have xA := Hm Q7.out.bad
   clear Q7 Lt; have m0 := HST.out.s.box.cell 0 _ rfl; have m1 := HST.out.s.box.cell 1 _ rfl; have m2 := HST.out.s.box.cell 2 _ rfl; have o0 := HST.out.r.cell 0 _ rfl; have o1 := HST.out.r.cell 1 _ rfl; have o2 := HST.out.r.cell 2 _ rfl; have f0 := HST.out.r.free 0; have f1 := HST.out.r.free 1; have f2 := HST.out.r.free 2; have oA := HST.out.r.lt; go_wp2_with fail; refine bodyPost_ret (v := .agg #[.int .i64 x, .int .i64 y, .slice a ts.length c]) (by simp [results, Tryz.results35, go_sem, *]) rfl ?_; rw [xA.out, <- HX.out, <- HY.out]; exact ⟨a, c, rfl, HST.out.leave (Af _ _ _ _ _)⟩
theorem Bc (A : Nat) (l : List (List UInt8)) (w : World) (h : qh w A l false) (hE : Gd w) (hA : A < w.heap.size) (g15 : b9.g 15 < A) (g16 : b9.g 16 < A) (Kv : l.length <= 1048576) :
  Calls Tryz.prog 35 #[.pointer (some ⟨A, 0, none⟩)] w fun e w' => ∃ (a : Option Addr) (c : Nat), e = .returned (.agg #[.int .i64 (fV l).1.ah, .int .i64 (fV l).1.ce, .slice a (fV l).1.aD.length c]) /\ (∃ l', qh w' A l' (fV l).2) /\ aw [A] w w' /\ ∃ F, aF 4 50 vv w' (.slice a (fV l).1.aD.length c) (fV l).1.aD F /\ F.Nodup /\ ∀ q, q ∈ F -> w.heap.size <= q :=
 C6 A l w _ rfl h hE hA g15 g16 Kv
end Go.Proofs.YtcamcgfbljhbhaaGreatDoor
