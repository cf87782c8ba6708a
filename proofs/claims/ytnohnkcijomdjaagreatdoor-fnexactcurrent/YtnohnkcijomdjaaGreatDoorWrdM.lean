/-
  A manifest read of its words: what stands while it is read.
-/
import Derived.Test.YtnohnkcijomdjaaGreatDoorWrdQ
namespace Go.Proofs.YtnohnkcijomdjaaGreatDoor
open Go.RowKit Go.Maps Go.Shelf
set_option linter.unusedVariables false
set_option linter.unusedSimpArgs false
set_option maxRecDepth 10000

theorem var_turn {P : Program} {g : Nat} {F : List Nat} {W W' : World} {n : String} {cs : Array Value} (h : Turn F W W') (hg : P.globalNamed n = some g) (hgB : g < W.heap.size) (hF : g ∉ F) (hv : W.var? P n = some cs) : W'.var? P n = some cs := by
  unfold World.var? at hv ⊢
  simp only [hg, Option.bind_some] at hv ⊢
  rw [h.block g hgB hF]
  exact hv
theorem Ers.turn {F : List Nat} {w w' : World} (h : Ers w) (hb : Turn F w w') (h15 : layAtoi_ren.g 15 ∉ F) (h16 : layAtoi_ren.g 16 ∉ F) : Ers w' := by
  obtain ⟨⟨⟨t1, p1, h1⟩, k1⟩, ⟨t2, p2, h2⟩, k2⟩ := h
  exact ⟨⟨⟨t1, p1, var_turn hb (by kernel_rfl) k1 h15 h1⟩, Nat.lt_of_lt_of_le k1 hb.size⟩, ⟨t2, p2, var_turn hb (by kernel_rfl) k2 h16 h2⟩, Nat.lt_of_lt_of_le k2 hb.size⟩

/-- While a manifest is read: the reader at A, the manifest's box at M, its tables in memory of its own. -/
structure WdS (w0 : World) (A M : Nat) (w : World) (l : List (List UInt8)) (b : Bool) (cs : List Value) : Prop where
  rd : WdR w A l b
  box : Bw w M 24 cs
  ers : Ers w
  turn : Turn [A] w0 w
  old : w0.heap.size ≤ M
  a0 : A < w0.heap.size
  g15 : layAtoi_ren.g 15 ≠ A
  g16 : layAtoi_ren.g 16 ≠ A
theorem WdS.ne {w0 : World} {A M : Nat} {w : World} {l : List (List UInt8)} {b : Bool} {cs : List Value} (h : WdS w0 A M w l b cs) : M ≠ A := by
  have := h.a0; have := h.old; omega
theorem WdS.next {w0 : World} {A M : Nat} {w w' : World} {l l' : List (List UInt8)} {b b' : Bool} {cs : List Value} (h : WdS w0 A M w l b cs) (hr : WdR w' A l' b') (ht : Turn [A] w w') : WdS w0 A M w' l' b' cs :=
  ⟨hr, h.box.turn ht (by simpa using h.ne), h.ers.turn ht (by simpa using h.g15) (by simpa using h.g16), h.turn.trans ht, h.old, h.a0, h.g15, h.g16⟩
theorem WdS.number {w0 : World} {A M : Nat} {w : World} {l : List (List UInt8)} {b : Bool} {cs : List Value} (h : WdS w0 A M w l b cs) :
    Calls Tryz.prog 46 #[.pointer (some ⟨A, 0, none⟩)] w fun e w' => e = .returned (.int .i64 (numbP l).1) ∧ WdS w0 A M w' l.tail (b || !(numbP l).2) cs := by
  refine (number_any A l b w h.rd h.ers (fun w' ht => h.ers.turn ht (by simpa using h.g15) (by simpa using h.g16))).mono ?_
  rintro e w1 ⟨rfl, hr, ht⟩
  exact ⟨rfl, h.next hr ht⟩
theorem WdS.name {w0 : World} {A M : Nat} {w : World} {l : List (List UInt8)} {b : Bool} {cs : List Value} (h : WdS w0 A M w l b cs) :
    Calls Tryz.prog 45 #[.pointer (some ⟨A, 0, none⟩)] w fun e w' => e = .returned (.string (strB (nameP l).1)) ∧ WdS w0 A M w' l.tail (b || !(nameP l).2) cs := by
  refine (name_any A l b w h.rd).mono ?_
  rintro e w1 ⟨rfl, hr, ht⟩
  exact ⟨rfl, h.next hr ht⟩
theorem WdS.key {w0 : World} {A M : Nat} {w : World} {l : List (List UInt8)} {b : Bool} {cs : List Value} (h : WdS w0 A M w l b cs) :
    Calls Tryz.prog 47 #[.pointer (some ⟨A, 0, none⟩)] w fun e w' => e = .returned (.string (strB (keyP l).1)) ∧ WdS w0 A M w' l.tail (b || !(keyP l).2) cs := by
  refine (key_any A l b w h.rd).mono ?_
  rintro e w1 ⟨rfl, hr, ht⟩
  exact ⟨rfl, h.next hr ht⟩
theorem WdS.take {w0 : World} {A M : Nat} {w : World} {l : List (List UInt8)} {b : Bool} {cs : List Value} (h : WdS w0 A M w l b cs) (ok : Bool) :
    Calls Tryz.prog 44 #[.pointer (some ⟨A, 0, none⟩), .bool ok] w fun e w' => e = .returned (.tuple #[]) ∧ WdS w0 A M w' l (b || !ok) cs := by
  refine (take_any A l b ok w h.rd).mono ?_
  rintro e w1 ⟨rfl, hr, ht⟩
  exact ⟨rfl, h.next hr ht⟩

theorem WdS.put {w0 : World} {A M : Nat} {w : World} {l : List (List UInt8)} {b : Bool} {cs : List Value} (h : WdS w0 A M w l b cs) (i : Nat) (u : Value) (h15 : layAtoi_ren.g 15 < A) (h16 : layAtoi_ren.g 16 < A) : WdS w0 A M (w.setCell ⟨M, i, none⟩ u) l b (cs.set i u) := by
  have hM : A < M := by have := h.a0; have := h.old; omega
  have ht : Turn [M] w (w.setCell ⟨M, i, none⟩ u) := (Turn.refl [M] w).setCell (by simp) _
  exact ⟨h.rd.turn ht (fun k hk => by simp at hk; omega), h.box.put i u, h.ers.turn ht (by simp; omega) (by simp; omega), h.turn.join ht (fun x hx => by simp at hx; subst hx; exact Or.inr h.old), h.old, h.a0, h.g15, h.g16⟩

end Go.Proofs.YtnohnkcijomdjaaGreatDoor
