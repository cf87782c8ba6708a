/-
  What stands while a manifest's tables are read: the reader, the manifest's box, its own row of tables.
-/
import Derived.Test.YtnohnkcijomdjaaGreatDoorWrdM
import Derived.Test.YtnohnkcijomdjaaGreatDoorParV
namespace Go.Proofs.YtnohnkcijomdjaaGreatDoor
open Go.RowKit Go.Maps Go.Shelf
set_option linter.unusedVariables false
set_option linter.unusedSimpArgs false
set_option maxRecDepth 10000

theorem strB_eq {a b : List UInt8} : (strB a = strB b) ↔ a = b := ⟨fun h => by have := congrArg (fun s : ByteArray => s.data.toList) h; simpa [strB_data] using this, fun h => by rw [h]⟩
theorem str_is (x y : List UInt8) : ((strB x).toList == (strB y).toList) = decide (x = y) := by
  by_cases hc : x = y
  · rw [decide_eq_true hc]; exact k_same (by rw [hc])
  · rw [decide_eq_false hc]; exact k_ne (fun hh => hc (strB_eq.1 hh))

structure MSt (w0 : World) (A M R : Nat) (w : World) (l : List (List UInt8)) (b : Bool) (x y : Int) (ts : List MMeta) (a : Option Addr) (c : Nat) : Prop where
  s : WdS w0 A M w l b [.int .i64 x, .int .i64 y, .slice a ts.length c]
  o : ∃ F, ownS 4 49 oMeta w (.slice a ts.length c) ts F ∧ F.Nodup ∧ ∀ q, q ∈ F → w0.heap.size ≤ q ∧ q ≠ M ∧ q ≠ R
  r : Bw w R 24 [.int .i64 0, .int .i64 0, .slice none 0 0]
  ro : w0.heap.size ≤ R
  rn : R ≠ M
section
variable {w0 : World} {A M R : Nat} {w w' : World} {l l' : List (List UInt8)} {b b' : Bool} {x y : Int} {ts : List MMeta} {a : Option Addr} {c : Nat}
theorem MSt.next (h : MSt w0 A M R w l b x y ts a c) (hr : WdR w' A l' b') (ht : Turn [A] w w') : MSt w0 A M R w' l' b' x y ts a c := by
  have ha := h.s.a0
  have hro := h.ro
  refine ⟨h.s.next hr ht, ?_, h.r.turn ht (by simp; omega), h.ro, h.rn⟩
  obtain ⟨F, ho, hN, hF⟩ := h.o
  exact ⟨F, ownS.frame oMeta_good ho (fun q hq => ht.block q (ownS.lt oMeta_good ho q hq) (fun hm => by have := (hF q hq).1; simp at hm; omega)), hN, hF⟩
theorem MSt.number (h : MSt w0 A M R w l b x y ts a c) :
    Calls Tryz.prog 46 #[.pointer (some ⟨A, 0, none⟩)] w fun e w' => e = .returned (.int .i64 (numbP l).1) ∧ MSt w0 A M R w' l.tail (b || !(numbP l).2) x y ts a c := by
  refine (number_any A l b w h.s.rd h.s.ers (fun w' ht => h.s.ers.turn ht (by simpa using h.s.g15) (by simpa using h.s.g16))).mono ?_
  rintro e w1 ⟨rfl, hr, ht⟩
  exact ⟨rfl, h.next hr ht⟩
theorem MSt.name (h : MSt w0 A M R w l b x y ts a c) :
    Calls Tryz.prog 45 #[.pointer (some ⟨A, 0, none⟩)] w fun e w' => e = .returned (.string (strB (nameP l).1)) ∧ MSt w0 A M R w' l.tail (b || !(nameP l).2) x y ts a c := by
  refine (name_any A l b w h.s.rd).mono ?_
  rintro e w1 ⟨rfl, hr, ht⟩
  exact ⟨rfl, h.next hr ht⟩
theorem MSt.key (h : MSt w0 A M R w l b x y ts a c) :
    Calls Tryz.prog 47 #[.pointer (some ⟨A, 0, none⟩)] w fun e w' => e = .returned (.string (strB (keyP l).1)) ∧ MSt w0 A M R w' l.tail (b || !(keyP l).2) x y ts a c := by
  refine (key_any A l b w h.s.rd).mono ?_
  rintro e w1 ⟨rfl, hr, ht⟩
  exact ⟨rfl, h.next hr ht⟩
theorem MSt.take (h : MSt w0 A M R w l b x y ts a c) (ok : Bool) :
    Calls Tryz.prog 44 #[.pointer (some ⟨A, 0, none⟩), .bool ok] w fun e w' => e = .returned (.tuple #[]) ∧ MSt w0 A M R w' l (b || !ok) x y ts a c := by
  refine (take_any A l b ok w h.s.rd).mono ?_
  rintro e w1 ⟨rfl, hr, ht⟩
  exact ⟨rfl, h.next hr ht⟩
theorem MSt.under (h : MSt w0 A M R w l b x y ts a c) (hx : Below w.heap.size w w') : MSt w0 A M R w' l b x y ts a c :=
  h.next (h.s.rd.below hx) (Turn.ofBelow hx)
/-- One more table. -/
theorem MSt.push (h15 : layAtoi_ren.g 15 < A) (h16 : layAtoi_ren.g 16 < A) (h : MSt w0 A M R w l b x y ts a c) : ∃ xs, w.ownsRow 0 49 4 (.slice a ts.length c) ts.length xs ∧
    ∀ (v' : Value) (W' : World) (t : MMeta), (Lit.int .i64 t.fNo).wf = true → (Lit.int .i64 t.fLevel).wf = true → t.fLo.size ≤ 9223372036854775807 → t.fHi.size ≤ 9223372036854775807 → W'.ownsRow 0 49 4 v' (ts.length + 1) (xs ++ [.int .i64 t.fNo, .int .i64 t.fLevel, .string t.fLo, .string t.fHi]) → w.grownBy W' (Value.ownBlock (.slice a ts.length c)) → (v'.ownBlock = Value.ownBlock (.slice a ts.length c) ∨ v'.ownBlock = some w.heap.size) →
      ∀ r q, v' = .slice r (ts.length + 1) q → Bw W' M 24 [.int .i64 x, .int .i64 y, .slice a ts.length c] ∧ MSt w0 A M R (W'.setCell ⟨M, 2, none⟩ (.slice r (ts.length + 1) q)) l b x y (ts ++ [t]) r q := by
  obtain ⟨F, ho, hN, hF⟩ := h.o
  have hM := h.s.old
  have hA := h.s.a0
  have hsz := h.s.turn.size
  obtain ⟨xs, hxs, hpush⟩ := ownS.push oMeta_good ho hN
  refine ⟨xs, hxs, ?_⟩
  intro v' W' t hx1 hx2 hk3 hk4 hown hgr hat r q hv
  subst hv
  obtain ⟨F', ho', hN', hF'⟩ := hpush W' _ _ t [] hown hgr hat ⟨rfl, hx1, hx2, hk3, hk4, rfl⟩ (by simp) (fun b hb => by cases hb)
  have hT1 : Turn (Value.ownBlock (.slice a ts.length c)).toList w W' := turnOwn hgr
  have hblk : ∀ b, b ∈ (Value.ownBlock (.slice a ts.length c)).toList → w0.heap.size ≤ b ∧ b ≠ M ∧ b ≠ R := fun b hb => hF b (own_blk ho b (by simpa using hb))
  have hb1 := h.s.box.turn hT1 (fun hm => (hblk M hm).2.1 rfl)
  have hS1 : WdS w0 A M W' l b [.int .i64 x, .int .i64 y, .slice a ts.length c] :=
    ⟨h.s.rd.turn hT1 (fun k hk => by have := (hblk k hk).1; omega), hb1, h.s.ers.turn hT1 (fun hm => by have := (hblk _ hm).1; omega) (fun hm => by have := (hblk _ hm).1; omega), h.s.turn.join hT1 (fun k hk => Or.inr (hblk k hk).1), h.s.old, h.s.a0, h.s.g15, h.s.g16⟩
  have hT : Turn [M] W' (W'.setCell ⟨M, 2, none⟩ (.slice r (ts.length + 1) q)) := (Turn.refl _ _).setCell (by simp) _
  have hlb := h.s.box.lt
  have hlr := h.r.lt
  have hr1 := h.r.turn hT1 (fun hm => (hblk R hm).2.2 rfl)
  have hF2 : ∀ b, b ∈ F' → w0.heap.size ≤ b ∧ b ≠ M ∧ b ≠ R := fun b hb => by
    rcases hF' b hb with h1 | h1 | h1
    · exact hF b h1
    · cases h1
    · exact ⟨by omega, by omega, by omega⟩
  have e1 : ts.length + 1 = (ts ++ [t]).length := by simp
  refine ⟨hb1, ⟨?_, ⟨F', ?_, hN', hF2⟩, hr1.turn hT (by simpa using h.rn), h.ro, h.rn⟩⟩
  · have := hS1.put 2 (.slice r (ts.length + 1) q) h15 h16
    rw [← e1]
    exact this
  · rw [← e1]
    exact ownS.frame oMeta_good ho' (fun b hb => hT.block b (ownS.lt oMeta_good ho' b hb) (by simpa using (hF2 b hb).2.1))
theorem MSt.put0 (h15 : layAtoi_ren.g 15 < A) (h16 : layAtoi_ren.g 16 < A) (h : MSt w0 A M R w l b x y ts a c) (n : Int) : MSt w0 A M R (w.setCell ⟨M, 0, none⟩ (.int .i64 n)) l b n y ts a c := by
  have hT : Turn [M] w (w.setCell ⟨M, 0, none⟩ (.int .i64 n)) := (Turn.refl _ _).setCell (by simp) _
  obtain ⟨F, ho, hN, hF⟩ := h.o
  exact ⟨h.s.put 0 _ h15 h16, ⟨F, ownS.frame oMeta_good ho (fun q hq => hT.block q (ownS.lt oMeta_good ho q hq) (by simpa using (hF q hq).2.1)), hN, hF⟩, h.r.turn hT (by simpa using h.rn), h.ro, h.rn⟩
theorem MSt.put1 (h15 : layAtoi_ren.g 15 < A) (h16 : layAtoi_ren.g 16 < A) (h : MSt w0 A M R w l b x y ts a c) (n : Int) : MSt w0 A M R (w.setCell ⟨M, 1, none⟩ (.int .i64 n)) l b x n ts a c := by
  have hT : Turn [M] w (w.setCell ⟨M, 1, none⟩ (.int .i64 n)) := (Turn.refl _ _).setCell (by simp) _
  obtain ⟨F, ho, hN, hF⟩ := h.o
  exact ⟨h.s.put 1 _ h15 h16, ⟨F, ownS.frame oMeta_good ho (fun q hq => hT.block q (ownS.lt oMeta_good ho q hq) (by simpa using (hF q hq).2.1)), hN, hF⟩, h.r.turn hT (by simpa using h.rn), h.ro, h.rn⟩
theorem MSt.leave (h : MSt w0 A M R w l b x y ts a c) (hT : Turn [R] w w') : (∃ l', WdR w' A l' b) ∧ Turn [A] w0 w' ∧ ∃ F, ownS 4 49 oMeta w' (.slice a ts.length c) ts F ∧ F.Nodup ∧ ∀ q, q ∈ F → w0.heap.size ≤ q := by
  obtain ⟨F, ho, hN, hF⟩ := h.o
  have h1 := h.ro
  have h2 := h.s.a0
  exact ⟨⟨l, h.s.rd.turn hT (fun k hk => by simp at hk; omega)⟩, h.s.turn.join hT (fun k hk => by simp at hk; subst hk; exact Or.inr h.ro), F, ownS.frame oMeta_good ho (fun q hq => hT.block q (ownS.lt oMeta_good ho q hq) (by simpa using (hF q hq).2.2)), hN, fun q hq => (hF q hq).1⟩
end
theorem atoP_wf (x : List UInt8) : (Lit.int .i64 (atoP x).1).wf = true := by
  unfold atoP
  cases h : Lib.atoiAll x with
  | ok v => have := Lib.atoiAll_bounds h; exact WalkArith.wf_i64 (by omega)
  | range => have := Lib.atoiSat_bounds x; exact WalkArith.wf_i64 (by omega)
  | _ => rfl
theorem numbP_wf (l : List (List UInt8)) : (Lit.int .i64 (numbP l).1).wf = true := atoP_wf _
theorem keyP_size {w : World} {A : Nat} {l : List (List UInt8)} {b : Bool} (h : WdR w A l b) : (strB (keyP l).1).size ≤ 1048576 := by
  have h1 := digs_len h.lens
  have h2 := unk_len _ (digsP l).1 (Nat.le_refl _)
  rw [strB_size]
  show (unkP (digsP l).1).length ≤ _
  omega
/-- How many rounds may be left: by the reader's cells. -/
def leftW (A : Nat) (w : World) : Nat := match w.cell? ⟨A, 1, none⟩, w.cell? ⟨A, 0, none⟩ with
  | some (.bool true), _ => 0
  | some (.bool false), some (.slice _ n _) => n + 1
  | _, _ => 0
theorem WdR.left {w : World} {A : Nat} {l : List (List UInt8)} {b : Bool} (h : WdR w A l b) : leftW A w = bif b then 0 else l.length + 1 := by
  obtain ⟨p, c, hb, _, _⟩ := h
  unfold leftW
  rw [hb.cell 1 _ rfl, hb.cell 0 _ rfl]
  cases b <;> rfl
/-- What is left to read gives what is read in all; how often it may go on. -/
def RdL (N : Nat) (T : List MMeta × Bool) (l : List (List UInt8)) (b : Bool) (ts : List MMeta) : Prop := ∃ f, rdTabs f l b ts = T ∧ 1 ≤ f ∧ (b = false → l.length + 2 ≤ f ∧ ts.length + l.length ≤ N)
theorem RdL.bad {N : Nat} {T : List MMeta × Bool} {l : List (List UInt8)} {ts : List MMeta} (h : RdL N T l true ts) : T = (ts, true) := by
  obtain ⟨f, h1, h2, _⟩ := h
  obtain ⟨f, rfl⟩ : ∃ g, f = g + 1 := ⟨f - 1, by omega⟩
  rw [← h1]; rfl
theorem RdL.done {N : Nat} {T : List MMeta × Bool} {l : List (List UInt8)} {ts : List MMeta} (h : RdL N T l false ts) (hn : (nameP l).1 = endW) : T = (ts, false || !(nameP l).2) := by
  obtain ⟨f, h1, h2, _⟩ := h
  obtain ⟨f, rfl⟩ : ∃ g, f = g + 1 := ⟨f - 1, by omega⟩
  rw [← h1, rdTabs, hn]; simp
theorem tails_len (l : List (List UInt8)) : l.tail.tail.tail.tail.tail.length = l.length - 5 := by simp only [List.length_tail]; omega
theorem tab_nil (b : Bool) : tabB [] b = true := by cases b <;> rfl
theorem RdL.more {N : Nat} {T : List MMeta × Bool} {l : List (List UInt8)} {ts : List MMeta} (h : RdL N T l false ts) (hn : ¬ (nameP l).1 = endW) : RdL N T l.tail.tail.tail.tail.tail (rowB l.tail (tabB l false)) (ts ++ [rowM l.tail]) ∧ ts.length ≤ N ∧ (bif rowB l.tail (tabB l false) then 0 else l.tail.tail.tail.tail.tail.length + 1) < l.length + 1 := by
  obtain ⟨f, h1, h2, h3⟩ := h
  obtain ⟨h4, h5⟩ := h3 rfl
  obtain ⟨f, rfl⟩ : ∃ g, f = g + 1 := ⟨f - 1, by omega⟩
  have hl := tails_len l
  have hb : l = [] → rowB l.tail (tabB l false) = true := by rintro rfl; rw [tab_nil]; unfold rowB; simp
  refine ⟨⟨f, ?_, by omega, fun hc => ?_⟩, by omega, ?_⟩
  · rw [← h1, rdTabs, decide_eq_false hn]; rfl
  · have hne : l ≠ [] := fun he => by rw [hb he] at hc; cases hc
    have hp : 0 < l.length := List.length_pos_iff.2 hne
    rw [List.length_append, hl]
    exact ⟨by omega, by simp; omega⟩
  · cases hq : rowB l.tail (tabB l false)
    · have hne : l ≠ [] := fun he => by rw [hb he] at hq; cases hq
      have hp : 0 < l.length := List.length_pos_iff.2 hne
      rw [hl]; simp; omega
    · simp
end Go.Proofs.YtnohnkcijomdjaaGreatDoor
