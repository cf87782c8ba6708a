/-
  The words of a text, one after another: a word is a name, or it is digits.
-/
import Derived.Test.YtnohnkcijomdjaaGreatDoorWrdL
import Derived.Test.YtnohnkcijomdjaaGreatDoorAtoL
import Derived.Test.YtnohnkcijomdjaaGreatDoorTxtI
import Derived.Test.YtnohnkcijomdjaaGreatDoorParM
import Derived.Test.YtnohnkcijomdjaaGreatDoorRowG
import Derived.Test.YtnohnkcijomdjaaGreatDoorStrM
namespace Go.Proofs.YtnohnkcijomdjaaGreatDoor
open Go.RowKit Go.Maps Go.Shelf
set_option linter.unusedVariables false
set_option linter.unusedSimpArgs false
set_option maxRecDepth 10000

def hexW : List UInt8 := [48, 49, 50, 51, 52, 53, 54, 55, 56, 57, 97, 98, 99, 100, 101, 102]
/-- Whether a word is digits. -/
def digW (x : List UInt8) : Bool := decide (Lib.trimS x hexW = [])
def wordV (x : List UInt8) : Value := bif digW x then .iface 111 (.string (strB x)) else .iface 108 (.string (strB x))

theorem trim_any (x : List UInt8) (w : World) (hx : x.length ≤ 1048576) :
    Calls Tryz.prog 104 #[.string (strB x), .string ⟨#[48, 49, 50, 51, 52, 53, 54, 55, 56, 57, 97, 98, 99, 100, 101, 102]⟩] w fun e w' => e = .returned (.string (strB (Lib.trimS x hexW))) ∧ Below w.heap.size w w' := by
  have hs : (strB x).size = x.length := by rw [Lib.size_eq, strB_data]
  refine (Any.strings_Trim_laid layTrim (by kernel_rfl) (strB x) ⟨hexW.toArray⟩ w (by omega) (by decide) (ascii_of_all (by decide))).mono ?_
  rintro e w1 ⟨rfl, hb⟩
  rw [strB_data]
  exact ⟨rfl, hb⟩

set_option maxHeartbeats 1000000 in
theorem wordOf_any (x : List UInt8) (w : World) (hx : x.length ≤ 1048576) :
    Calls Tryz.prog 88 #[.string (strB x)] w fun e w' => e = .returned (wordV x) ∧ Below w.heap.size w w' := by
  by_cases h : Lib.trimS x hexW = []
  · have HV : Hid (wordV x = .iface 111 (.string (strB x))) := by show _ = _; unfold wordV digW; rw [decide_eq_true h]; rfl
    go_enter Tryz.func88, Tryz.ntmps88
    go_wp2_with fail
    refine (trim_any x w hx).mono ?_
    rintro e w1 ⟨rfl, hb⟩
    rw [h, show strB [] = (⟨#[]⟩ : ByteArray) from rfl]
    go_wp2_with fail
    go_ret
    exact ⟨by rw [HV.out]; rfl, hb⟩
  · have HV : Hid (wordV x = .iface 108 (.string (strB x))) := by show _ = _; unfold wordV digW; rw [decide_eq_false h]; rfl
    have hne : (strB (Lib.trimS x hexW)).toList.isEmpty = false := k_nemp (fun hc => h (by rw [Lib.size_eq, strB_data] at hc; exact List.eq_nil_of_length_eq_zero hc))
    go_enter Tryz.func88, Tryz.ntmps88
    go_wp2_with fail
    refine (trim_any x w hx).mono ?_
    rintro e w1 ⟨rfl, hb⟩
    generalize strB (Lib.trimS x hexW) = y at *
    go_wp2_with fail
    go_ret
    exact ⟨by rw [HV.out]; rfl, hb⟩

/-- A reader in its box: the words that are left, and whether it is bad. -/
def WdR (w : World) (A : Nat) (l : List (List UInt8)) (b : Bool) : Prop :=
  ∃ (p : Option Addr) (c : Nat), Bw w A 54 [.slice p l.length c, .bool b] ∧ l.length ≤ c ∧ ∀ (j : Nat) (x : List UInt8), l[j]? = some x → x.length ≤ 1048576 ∧ ∃ R i, p = some ⟨R, i, none⟩ ∧ R < A ∧ R < w.heap.size ∧ w.cell? ⟨R, i + j, none⟩ = some (.string (strB x))
theorem WdR.turn {w w' : World} {A : Nat} {l : List (List UInt8)} {b : Bool} {F : List Nat} (h : WdR w A l b) (ht : Turn F w w') (hF : ∀ k, k ∈ F → A < k) : WdR w' A l b := by
  obtain ⟨p, c, hb, hc, hw⟩ := h
  refine ⟨p, c, hb.turn ht (fun hm => Nat.lt_irrefl _ (hF A hm)), hc, fun j x hx => ?_⟩
  obtain ⟨h1, R, i, hp, hRA, hR, hcell⟩ := hw j x hx
  exact ⟨h1, R, i, hp, hRA, Nat.lt_of_lt_of_le hR ht.size, (ht.cell hR (fun hm => by have := hF R hm; omega)).trans hcell⟩
theorem WdR.below {w w' : World} {A : Nat} {l : List (List UInt8)} {b : Bool} (h : WdR w A l b) (ht : Below w.heap.size w w') : WdR w' A l b :=
  h.turn (F := []) (Turn.ofBelow ht) (fun k hk => by simp at hk)
theorem WdR.set {w : World} {A : Nat} {l : List (List UInt8)} {b : Bool} (h : WdR w A l b) (b' : Bool) : WdR (w.setCell ⟨A, 1, none⟩ (.bool b')) A l b' := by
  obtain ⟨p, c, hb, hc, hw⟩ := h
  refine ⟨p, c, hb.put 1 (.bool b'), hc, fun j x hx => ?_⟩
  obtain ⟨h1, R, i, hp, hRA, hR, hcell⟩ := hw j x hx
  have ht : Turn [A] w (w.setCell ⟨A, 1, none⟩ (.bool b')) := (Turn.refl [A] w).setCell (by simp) _
  exact ⟨h1, R, i, hp, hRA, Nat.lt_of_lt_of_le hR ht.size, (ht.cell hR (by simpa using Nat.ne_of_lt hRA)).trans hcell⟩

set_option maxHeartbeats 1000000 in
theorem take_any (A : Nat) (l : List (List UInt8)) (b ok : Bool) (w : World) (h : WdR w A l b) :
    Calls Tryz.prog 44 #[.pointer (some ⟨A, 0, none⟩), .bool ok] w fun e w' => e = .returned (.tuple #[]) ∧ WdR w' A l (b || !ok) ∧ Turn [A] w w' := by
  have HN := Hid.mk (h.set (b || !ok))
  have HT := Hid.mk ((Turn.refl [A] w).setCell (p := ⟨A, 1, none⟩) (by simp) (.bool (b || !ok)))
  obtain ⟨p, c, hb, hc, hw⟩ := h
  have c1 := hb.cell 1 _ rfl
  have f1 := hb.free 1
  have hl := hb.lt
  clear hb hc hw
  cases b <;> cases ok
  all_goals
    go_enter Tryz.func44, Tryz.ntmps44
    go_wp2_with fail
    exact bodyPost_end (v := .tuple #[]) (by simp [results, Tryz.results44, go_sem]) rfl ⟨rfl, HN.out, HT.out⟩

/-- What a reader answers as its next word. -/
def nextV : List (List UInt8) → Value
  | [] => .nilIface
  | x :: _ => wordV x

set_option maxHeartbeats 1000000 in
theorem word_any (A : Nat) (l : List (List UInt8)) (b : Bool) (w : World) (h : WdR w A l b) :
    Calls Tryz.prog 68 #[.pointer (some ⟨A, 0, none⟩)] w fun e w' => e = .returned (nextV l) ∧ WdR w' A l.tail b ∧ Turn [A] w w' := by
  have HR := Hid.mk h
  obtain ⟨p, c, hb, hc, hw⟩ := h
  have c0 := hb.cell 0 _ rfl
  have f0 := hb.free 0
  have hl := hb.lt
  cases l with
  | nil =>
    go_enter Tryz.func68, Tryz.ntmps68
    go_wp2_with fail
    go_ret
    exact ⟨rfl, HR.out, Turn.refl _ _⟩
  | cons x l =>
    obtain ⟨hx, R, i, rfl, hRA, hRl, hcx⟩ := hw 0 x rfl
    have hlen : (x :: l).length = l.length + 1 := rfl
    obtain ⟨n, hn⟩ : ∃ n, n = l.length := ⟨_, rfl⟩
    rw [hlen, ← hn] at c0 hc
    have HN := Hid.mk hn
    have HW := Hid.mk hw
    have HB := Hid.mk hb
    clear hlen hn hw hb
    have hlen0 : ¬ (((n + 1 : Nat) : Int) = 0) := by omega
    have hcx : w.cell? ⟨R, i, none⟩ = some (.string (strB x)) := hcx
    have hstep : ∀ (w1 : World) (i' c' : Nat), Below w.heap.size w w1 → n ≤ c' → (n ≠ 0 → i' = i + 1) → WdR (w1.setCell ⟨A, 0, none⟩ (.slice (some ⟨R, i', none⟩) n c')) A l b ∧ Turn [A] w (w1.setCell ⟨A, 0, none⟩ (.slice (some ⟨R, i', none⟩) n c')) := by
      intro w1 i' c' hb1 hn hi
      have ht : Turn [A] w (w1.setCell ⟨A, 0, none⟩ (.slice (some ⟨R, i', none⟩) n c')) := (Turn.ofBelow hb1).setCell (by simp) _
      refine ⟨⟨some ⟨R, i', none⟩, c', ?_, by rw [← HN.out]; exact hn, fun j y hy => ?_⟩, ht⟩
      · rw [← HN.out]; exact (HB.out.under hb1).put 0 _
      · obtain ⟨h1, R1, i1, hp, hRA1, hR1, hcell⟩ := HW.out (j + 1) y (by simpa using hy)
        cases hp
        have hj : j < l.length := (List.getElem?_eq_some_iff.1 hy).1
        have hn0 : n ≠ 0 := by rw [HN.out]; omega
        have hi1 := hi hn0
        subst hi1
        refine ⟨h1, R, i + 1, rfl, hRA, Nat.lt_of_lt_of_le hRl ht.size, ?_⟩
        rw [show i + 1 + j = i + (j + 1) by omega]
        exact (ht.cell hRl (by simpa using Nat.ne_of_lt hRA)).trans hcell
    have HS := Hid.mk hstep
    have hbw := HB.out.free 0
    have HF : Hid (∀ w1, Below w.heap.size w w1 → w1.frozen? ⟨A, 0, none⟩ = false) := fun w1 hb1 => (HB.out.under hb1).free 0
    clear hstep
    by_cases hc1 : c = 1
    · subst hc1
      have hn0 : n = 0 := by omega
      subst hn0
      go_enter Tryz.func68, Tryz.ntmps68
      go_wp2_with fail
      refine (wordOf_any x w hx).mono ?_
      rintro e w1 ⟨rfl, hb1⟩
      have c1 : w1.cell? ⟨A, 0, none⟩ = some (.slice (some ⟨R, i, none⟩) (0 + 1) 1) := (World.cell?_of_block (w := w) (hb1.block A hl)).trans c0
      have f1 := HF.out w1 hb1
      have hl1 : A < w1.heap.size := Nat.lt_of_lt_of_le hl hb1.size
      go_wp2_with fail
      go_ret
      have h2 := HS.out w1 i 0 hb1 (by omega) (by omega)
      exact ⟨rfl, h2.1, h2.2⟩
    · go_enter Tryz.func68, Tryz.ntmps68
      go_wp2_with fail
      refine (wordOf_any x w hx).mono ?_
      rintro e w1 ⟨rfl, hb1⟩
      have c1 : w1.cell? ⟨A, 0, none⟩ = some (.slice (some ⟨R, i, none⟩) (n + 1) c) := (World.cell?_of_block (w := w) (hb1.block A hl)).trans c0
      have f1 := HF.out w1 hb1
      have hl1 : A < w1.heap.size := Nat.lt_of_lt_of_le hl hb1.size
      go_wp2_with fail
      go_ret
      have h2 := HS.out w1 (i + 1) (c - 1) hb1 (by omega) (by omega)
      exact ⟨rfl, h2.1, h2.2⟩

/-- The next word, if it is a name. -/
def nameP : List (List UInt8) → List UInt8 × Bool
  | [] => ([], false)
  | x :: _ => bif digW x then ([], false) else (x, true)
/-- The next word, if it is digits. -/
def digsP : List (List UInt8) → List UInt8 × Bool
  | [] => ([], false)
  | x :: _ => bif digW x then (x, true) else ([], false)
theorem nextV_cases (l : List (List UInt8)) : (nextV l = .nilIface ∧ nameP l = ([], false) ∧ digsP l = ([], false)) ∨ (∃ x, nextV l = .iface 111 (.string (strB x)) ∧ nameP l = ([], false) ∧ digsP l = (x, true)) ∨ (∃ x, nextV l = .iface 108 (.string (strB x)) ∧ nameP l = (x, true) ∧ digsP l = ([], false)) := by
  cases l with
  | nil => exact Or.inl ⟨rfl, rfl, rfl⟩
  | cons x l =>
    cases h : digW x
    · exact Or.inr (Or.inr ⟨x, by simp [nextV, wordV, h], by simp [nameP, h], by simp [digsP, h]⟩)
    · exact Or.inr (Or.inl ⟨x, by simp [nextV, wordV, h], by simp [nameP, h], by simp [digsP, h]⟩)

theorem asN_yes (v : Value) (w : World) : (Instr.typeAssert (.iface 108 v) 20 108 true).run Tryz.prog w = .ok (.tuple #[v, .bool true]) w := by
  simp [Instr.typeAssert, run_underlying Tryz.underlying108, go_sem, Result.andThen]
theorem asN_no (v : Value) (w : World) : (Instr.typeAssert (.iface 111 v) 20 108 true).run Tryz.prog w = .ok (.tuple #[.string ⟨#[]⟩, .bool false]) w := by
  simp [Instr.typeAssert, run_underlying Tryz.underlying108, Tryz.zeroValue108, go_sem, Result.andThen]
theorem asN_nil (w : World) : (Instr.typeAssert .nilIface 20 108 true).run Tryz.prog w = .ok (.tuple #[.string ⟨#[]⟩, .bool false]) w := by
  simp [Instr.typeAssert, run_underlying Tryz.underlying108, Tryz.zeroValue108, go_sem, Result.andThen]
theorem asD_yes (v : Value) (w : World) : (Instr.typeAssert (.iface 111 v) 20 111 true).run Tryz.prog w = .ok (.tuple #[v, .bool true]) w := by
  simp [Instr.typeAssert, run_underlying Tryz.underlying111, go_sem, Result.andThen]
theorem asD_no (v : Value) (w : World) : (Instr.typeAssert (.iface 108 v) 20 111 true).run Tryz.prog w = .ok (.tuple #[.string ⟨#[]⟩, .bool false]) w := by
  simp [Instr.typeAssert, run_underlying Tryz.underlying111, Tryz.zeroValue111, go_sem, Result.andThen]
theorem asD_nil (w : World) : (Instr.typeAssert .nilIface 20 111 true).run Tryz.prog w = .ok (.tuple #[.string ⟨#[]⟩, .bool false]) w := by
  simp [Instr.typeAssert, run_underlying Tryz.underlying111, Tryz.zeroValue111, go_sem, Result.andThen]

set_option maxHeartbeats 1000000 in
theorem name_any (A : Nat) (l : List (List UInt8)) (b : Bool) (w : World) (h : WdR w A l b) :
    Calls Tryz.prog 45 #[.pointer (some ⟨A, 0, none⟩)] w fun e w' => e = .returned (.string (strB (nameP l).1)) ∧ WdR w' A l.tail (b || !(nameP l).2) ∧ Turn [A] w w' := by
  have HC := Hid.mk (word_any A l b w h)
  rcases nextV_cases l with ⟨hv, hN, hD⟩ | ⟨x, hv, hN, hD⟩ | ⟨x, hv, hN, hD⟩
  all_goals
    rw [hN]
    have HV := Hid.mk hv
    have r0 := asN_yes
    have r1 := asN_no
    have r2 := asN_nil
    clear hN hD hv h
    go_enter Tryz.func45, Tryz.ntmps45
    go_wp2_with fail
    refine HC.out.mono ?_
    rintro e w1 ⟨rfl, hr1, ht1⟩
    rw [HV.out]
    go_wp2_with fail
    refine (take_any A l.tail b _ w1 hr1).mono ?_
    rintro e w2 ⟨rfl, hr2, ht2⟩
    go_wp2_with fail
    go_ret
    exact ⟨rfl, hr2, ht1.trans ht2⟩

end Go.Proofs.YtnohnkcijomdjaaGreatDoor
