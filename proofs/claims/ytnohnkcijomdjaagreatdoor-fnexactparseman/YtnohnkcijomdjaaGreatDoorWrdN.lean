/-
  The words of a text: a number is read.
-/
import Derived.Test.YtnohnkcijomdjaaGreatDoorWrdI
import Derived.Test.YtnohnkcijomdjaaGreatDoorStrB
namespace Go.Proofs.YtnohnkcijomdjaaGreatDoor
open Go.RowKit Go.Maps Go.Shelf
set_option linter.unusedVariables false
set_option linter.unusedSimpArgs false
set_option maxRecDepth 10000

/-- The library's two errors, as they are laid. -/
def Ers (w : World) : Prop := ((∃ tp p, w.var? Tryz.prog "strconv.ErrSyntax" = some #[.iface tp p]) ∧ layAtoi_ren.g 15 < w.heap.size) ∧ (∃ tp p, w.var? Tryz.prog "strconv.ErrRange" = some #[.iface tp p]) ∧ layAtoi_ren.g 16 < w.heap.size
theorem Ers.below {w w' : World} (h : Ers w) (hb : Below w.heap.size w w') : Ers w' := by
  obtain ⟨⟨⟨t1, p1, h1⟩, k1⟩, ⟨t2, p2, h2⟩, k2⟩ := h
  exact ⟨⟨⟨t1, p1, var?_below hb (by kernel_rfl) k1 h1⟩, Nat.lt_of_lt_of_le k1 hb.size⟩, ⟨t2, p2, var?_below hb (by kernel_rfl) k2 h2⟩, Nat.lt_of_lt_of_le k2 hb.size⟩

/-- What the library reads: a number, and whether it is one. -/
def atoP (x : List UInt8) : Int × Bool :=
  match Lib.atoiAll x with
  | .ok v => (v, true)
  | .range => (Lib.atoiSat x, false)
  | _ => (0, false)

theorem atoi_any (x : List UInt8) (w : World) (hx : x.length ≤ 1048576) (hE : Ers w) :
    Calls Tryz.prog 69 #[.string (strB x)] w fun e w' => ∃ ev, e = .returned (.tuple #[.int .i64 (atoP x).1, ev]) ∧ ((atoP x).2 = true ∧ ev = .nilIface ∨ (atoP x).2 = false ∧ ∃ N, ev = .iface (layAtoi_ren.t 168) (.pointer (some ⟨N, 0, none⟩))) ∧ Below w.heap.size w w' := by
  have hs : (strB x).size = x.length := by rw [Lib.size_eq, strB_data]
  obtain ⟨⟨⟨t1, p1, h1⟩, k1⟩, ⟨t2, p2, h2⟩, k2⟩ := hE
  unfold atoP
  cases h : Lib.atoiAll x with
  | ok v =>
    refine (Any.strconv_Atoi_ok layAtoi (strB x) (by omega) v (by rw [strB_data]; exact h) w).mono ?_
    rintro e w1 ⟨rfl, hw⟩
    refine ⟨_, rfl, Or.inl ⟨rfl, rfl⟩, ?_⟩
    rcases hw with rfl | ⟨t, rfl⟩
    · exact Below.refl _ _
    · exact bytesWorld_below _ _ _
  | range =>
    refine (Any.strconv_Atoi_range_var layAtoi (strB x) (by omega) (by rw [strB_data]; exact h) t2 p2 w h2).mono ?_
    rintro e w1 ⟨N, rfl, _, _, hb⟩
    exact ⟨_, by rw [strB_data], Or.inr ⟨rfl, N, rfl⟩, hb⟩
  | _ =>
    refine (Any.strconv_Atoi_syntax_var layAtoi (strB x) (by omega) (by rw [strB_data]; exact h) t1 p1 w h1).mono ?_
    rintro e w1 ⟨N, rfl, _, _, hb⟩
    exact ⟨_, rfl, Or.inr ⟨rfl, N, rfl⟩, hb⟩

def numbP (l : List (List UInt8)) : Int × Bool := ((atoP (digsP l).1).1, (digsP l).2 && (atoP (digsP l).1).2)
theorem digs_len {l : List (List UInt8)} (h : ∀ (j : Nat) x, l[j]? = some x → x.length ≤ 1048576) : (digsP l).1.length ≤ 1048576 := by
  cases l with
  | nil => exact Nat.zero_le _
  | cons x l =>
    have := h 0 x rfl
    cases hd : digW x <;> simp [digsP, hd] <;> omega
theorem WdR.lens {w : World} {A : Nat} {l : List (List UInt8)} {b : Bool} (h : WdR w A l b) : ∀ (j : Nat) x, l[j]? = some x → x.length ≤ 1048576 := by
  obtain ⟨p, c, hb, hc, hw⟩ := h
  exact fun j x hx => (hw j x hx).1

set_option maxHeartbeats 1000000 in
theorem number_any (A : Nat) (l : List (List UInt8)) (b : Bool) (w : World) (h : WdR w A l b) (hE : Ers w) (hA : ∀ w', Turn [A] w w' → Ers w') :
    Calls Tryz.prog 46 #[.pointer (some ⟨A, 0, none⟩)] w fun e w' => e = .returned (.int .i64 (numbP l).1) ∧ WdR w' A l.tail (b || !(numbP l).2) ∧ Turn [A] w w' := by
  have HC := Hid.mk (word_any A l b w h)
  have hL := digs_len h.lens
  unfold numbP
  have HAt : Hid (∀ w1, Ers w1 → Calls Tryz.prog 69 #[.string (strB (digsP l).1)] w1 fun e w' => ∃ ev, e = .returned (.tuple #[.int .i64 (atoP (digsP l).1).1, ev]) ∧ ((atoP (digsP l).1).2 = true ∧ ev = .nilIface ∨ (atoP (digsP l).1).2 = false ∧ ∃ N, ev = .iface (layAtoi_ren.t 168) (.pointer (some ⟨N, 0, none⟩))) ∧ Below w1.heap.size w1 w') := fun w1 h1 => atoi_any _ w1 hL h1
  have HA := Hid.mk hA
  generalize hy : (atoP (digsP l).1).1 = y at *
  generalize hz : (atoP (digsP l).1).2 = z at *
  clear hy hz
  rcases nextV_cases l with ⟨hv, hN, hD⟩ | ⟨x, hv, hN, hD⟩ | ⟨x, hv, hN, hD⟩
  all_goals
    rw [hD] at HAt ⊢
    have HV := Hid.mk hv
    have r0 := asD_yes
    have r1 := asD_no
    have r2 := asD_nil
    clear hN hD hv h hL hA
    go_enter Tryz.func46, Tryz.ntmps46
    go_wp2_with fail
    refine HC.out.mono ?_
    rintro e w1 ⟨rfl, hr1, ht1⟩
    rw [HV.out]
    go_wp2_with fail
    refine (HAt.out w1 (HA.out w1 ht1)).mono ?_
    rintro e w2 ⟨ev, rfl, hev, hb2⟩
    rcases hev with ⟨rfl, rfl⟩ | ⟨rfl, N, rfl⟩
    all_goals
      go_wp2_with fail
      refine (take_any A l.tail b _ w2 (hr1.below hb2)).mono ?_
      rintro e w3 ⟨rfl, hr3, ht3⟩
      go_wp2_with fail
      go_ret
      exact ⟨rfl, hr3, (ht1.trans (Turn.ofBelow hb2)).trans ht3⟩

end Go.Proofs.YtnohnkcijomdjaaGreatDoor
