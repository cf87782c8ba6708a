/-
  The program's list of entries out of a map of names: the walk over the map, and the sort.
-/
import Derived.Test.YtcbhmbgmeodjdaaEntl
import Derived.Test.YtcbhmbgmeodjdaaKeep
import Derived.Test.YtcbhmbgmeodjdaaEntS
import Derived.Test.YtcbhmbgmeodjdaaEntN
namespace Go.Proofs.Ytcbhmbgmeodjdaa
open Go.RowKit Go.Maps Go.Shelf Go.Lib Go.Sort
set_option linter.unusedVariables false
set_option linter.unusedSimpArgs false
set_option maxRecDepth 10000

theorem keyStr_inv {key : Value} {kl : Lit} (h : keyOf Try.prog 9 key = some kl) : ∃ s : ByteArray, key = .string s := by
  obtain ⟨x, rfl, _⟩ := Maps.keyOf_str Try.underlying9 h
  exact ⟨_, rfl⟩

theorem keyStr_is {s : ByteArray} {kl : Lit} (h : keyOf Try.prog 9 (.string s) = some kl) : kl = kS s ∧ s.size ≤ 9223372036854775807 := by
  obtain ⟨x, hx, rfl, hl⟩ := Maps.keyOf_str Try.underlying9 h
  simp only [encStr, Value.string.injEq] at hx
  subst hx
  refine ⟨by simp [kS], ?_⟩
  have h2 : (ByteArray.mk x.toArray).size = x.length := by show x.toArray.size = _; simp
  unfold maxLen at hl
  omega

/-- An entry that the walk meets is one of the list. -/
theorem met_entry {D : DataW Unit} {l : List MEntry} (hM : MapIs D l) {s : ByteArray} {c : Int} (hat : ∀ zd, D.atKey (kS s) zd = .lit (.int .i64 c)) : (⟨s, c⟩ : MEntry) ∈ l := by
  have hh : Maps.has D (kS s) = true := has_true_of_atKey hat
  obtain ⟨e, he, hn⟩ := hasName_iff.1 ((hM.2.1 s).1 hh)
  have h1 := hM.2.2 e he
  rw [hn, hat] at h1
  simp only [DataW.lit.injEq, Lit.int.injEq, true_and] at h1
  have : (⟨s, c⟩ : MEntry) = e := by cases e; simp at hn h1; subst hn; subst h1; rfl
  rw [this]
  exact he

theorem nodup_fitB {l m : List (List UInt8)} (h : l.Nodup) (hs : ∀ x, x ∈ l → x ∈ m) : l.length ≤ m.length := by
  induction l generalizing m with
  | nil => simp
  | cons x r ih =>
    have hn := List.nodup_cons.1 h
    have hx := hs x (by simp)
    have h1 := ih hn.2 (m := m.erase x) (fun y hy => (List.mem_erase_of_ne (fun (e : y = x) => hn.1 (by rw [← e]; exact hy))).2 (hs y (by simp [hy])))
    have h2 := List.length_erase_of_mem hx
    have h3 : 0 < m.length := List.length_pos_of_mem hx
    simp only [List.length_cons]
    omega

theorem met_fit {l o : List MEntry} {left : Lit → Bool} (h : Met l left o) : o.length ≤ l.length := by
  have h1 := nodup_fitB (l := o.map (fun e => e.fName.data.toList)) (m := l.map (fun e => e.fName.data.toList)) (List.pairwise_map.2 (h.once.imp (fun {a b} (hne : a.fName ≠ b.fName) (he : a.fName.data.toList = b.fName.data.toList) => kS_ne hne (by unfold kS; rw [he])))) (fun x hx => by
    obtain ⟨e, he, rfl⟩ := List.mem_map.1 hx
    exact List.mem_map.2 ⟨e, h.sub e he, rfl⟩)
  simpa using h1

theorem RowR.shape {α : Type} {size : Nat} {e : TypeId} {R : Rep α} {B base : Nat} {w : World} {v : Value} {l : List α} (h : RowR size e R B w base v l) (hl : 0 < l.length) : ∃ g cap, v = .slice (some ⟨g, 0, none⟩) l.length cap := by
  obtain ⟨css, r1, r2, r3, r4⟩ := h
  rcases r4.2 with ⟨_, h0⟩ | ⟨g, cap, cur, rfl, _⟩
  · omega
  · exact ⟨g, cap, rfl⟩

set_option maxHeartbeats 2000000 in
theorem entryList_any (b n : Nat) (D : DataW Unit) (l : List MEntry) (w : World) (hown : w.ownsMap Try.prog 9 (plainElem Try.prog 3) b n D) (hM : MapIs D l) (hr : Rise l) (hl : l.length ≤ 1000) :
    Calls Try.prog 91 #[.map (some b)] w fun e w' => ∃ (a : Option Addr) (c : Nat) (F : List Nat), e = .returned (.slice a l.length c) ∧ ownS 2 91 oEntry w' (.slice a l.length c) l F ∧ (∀ x, x ∈ F → w.heap.size ≤ x) ∧ Below w.heap.size w w' := by
  obtain ⟨iE, hiE, hzE0, hzE1, hzE2⟩ := info_parts Try.infoOfEntry
  have HM := Hid.mk hM
  have HRI := Hid.mk hr
  have hbl := ownsMap_lt hown
  clear hM hr
  go_enter Try.func91, Try.ntmps91
  go_wp2_with (at_range; refine wpList_range_own _ rfl _ 81 rfl 9 3 lawStr Try.underlying81 _ b n D rfl hown ?_; intro w0 hrg0 hg0 hs0)
  have hb0 : Below w.heap.size w w0 := (Below.refl _ _).grown hg0 (Nat.le_refl _) (fun k h => by cases h)
  have hs0' : w.heap.size + 1 ≤ w0.heap.size := by omega
  have HS0 := Hid.mk hs0
  clear hs0 hg0
  go_frame
  go_loopw [3] (fun v wr => ∃ (left : Lit → Bool) (cnt : Nat) (o : List MEntry), wr.ranges Try.prog 9 (plainElem Try.prog 3) b w.heap.size n D left cnt ∧ Met l left o ∧ RowR 2 91 rEntry w.heap.size wr (w.heap.size + 1) v o ∧ Below w.heap.size w wr ∧ w.heap.size + 1 ≤ wr.heap.size) (fun _ wr => wr.rangeLeft b w.heap.size)
  case atStart => exact ⟨_, _, [], hrg0, Met.start HM.out, RowR.start, hb0, hs0'⟩
  case round =>
    obtain ⟨left, cnt, o, hrg, hmet, hrow, hbk, hzk⟩ := hrel
    have HMET := Hid.mk hmet
    have HROW := Hid.mk hrow
    have hol : o.length ≤ 1000 := Nat.le_trans (met_fit hmet) hl
    clear hmet hrow hrg0 hb0 hs0'
    go_wp2_with (at_next; refine wpList_next_ranges _ rfl _ rfl 9 lawStr (plainElem Try.prog 3) Value.string (Value.int .i64) (fun key kl hkey => keyStr_inv hkey) (fun v y hv => by obtain ⟨c, rfl, _⟩ := plainElem_int_inv Try.underlying3 hv; exact ⟨c, rfl⟩) b w.heap.size n D left cnt rfl hrg ?_ ?_)
    · intro hc0 hl0
      have hperm := HMET.out.perm HRI.out hl0
      have hlen : o.length = l.length := hperm.length_eq
      have HPERM := Hid.mk hperm
      by_cases hl1 : l.length = 0
      · have hln : l = [] := List.eq_nil_of_length_eq_zero hl1
        have hon : o = [] := List.eq_nil_of_length_eq_zero (by omega)
        subst hln
        subst hon
        obtain ⟨ar, cr, hv, _⟩ := HROW.out.leaf rEntry_good hbk.size
        subst hv
        have hos : ∃ F, ownS 2 91 oEntry wr (.slice ar 0 cr) [] F ∧ ∀ x, x ∈ F → w.heap.size ≤ x := by
          obtain ⟨css, r1, r2, r3, r4⟩ := HROW.out
          refine ⟨_, ownS_row (l := []) (n := 0) (B := w.heap.size) (w0 := wr) rfl r1 r2 (fun j h1 => by simp at h1) r4, fun x hx => ?_⟩
          have := (r4.lt x (by simpa using hx)).1
          omega
        have HOS := Hid.mk hos
        clear hos hperm hc0 hl0 hrg
        simp only [List.length_nil] at *
        go_wp2_with (go_at_call 112; refine (sortNone ar cr _ _).mono ?_; rintro e w' ⟨rfl, rfl⟩)
        obtain ⟨F, h1, h2⟩ := HOS.out
        go_ret
        exact ⟨ar, cr, F, rfl, h1, h2, hbk⟩
      · letI := inhE
        obtain ⟨g, cap, hv⟩ := RowR.shape HROW.out (by omega)
        subst hv
        obtain ⟨hH, hgl, hgb, cur, hg, hs, hnc, hmx, hxe⟩ := holdsE HROW.out
        have hcon := sortE_any g cap o.toArray wr hH hgl (by simp; omega)
        simp only [List.size_toArray] at hcon
        have HCON : Hid (∀ d' : Array MEntry, PermIn 0 o.length o.toArray d' → SortedIn (ltOf cmpE) 0 o.length d' → d'.toList = l) := fun d' h1 h2 => sorted_rise (d := o.toArray) (by simpa using HPERM.out) HRI.out (by simpa using h1) (by simpa using h2)
        have HSO : Hid (∀ (d' : Array MEntry) (m : Nat) (os : Array Obj), d'.toList = l → ownS 2 91 oEntry (sortWorldK encE 2 wr g 0 m d' os) (.slice (some ⟨g, 0, none⟩) l.length cap) l [g] ∧ Turn [g] wr (sortWorldK encE 2 wr g 0 m d' os)) := fun d' m os hd => by
          have h := sortedE (n := l.length) hg hs (by omega) hmx d' (by rw [← hd]; simp) (fun x hx => hxe x (HPERM.out.mem_iff.2 (by rw [← hd]; exact hx))) m os
          rw [hd] at h
          exact h
        clear hperm hc0 hl0 hrg hH hxe hg hs
        rw [hlen] at hcon ⊢
        go_wp2_with (go_at_call 112; refine hcon.mono ?_; rintro e w' ⟨rfl, d', m, os, h1, h2, rfl⟩)
        have hd := HCON.out d' (by rw [hlen]; exact h1) (by rw [hlen]; exact h2)
        obtain ⟨h3, h4⟩ := HSO.out d' m os hd
        go_ret
        exact ⟨some ⟨g, 0, none⟩, cap, [g], rfl, h3, fun x hx => by simp at hx; omega, hbk.trans (h4.below (fun k hk => by simp at hk; omega) hbk.size)⟩
    · intro x c kl yd yp w1 cnt1 hkey hlk hv hat hrg1 hlt hg1 hs1 hen
      obtain ⟨hkl, hsz⟩ := keyStr_is hkey
      subst hkl
      obtain ⟨c', ec, ey, hwc⟩ := plainElem_int_inv Try.underlying3 hv
      cases ec
      simp only [Prod.mk.injEq] at ey
      obtain ⟨rfl, rfl⟩ := ey
      have HMET2 := Hid.mk (HMET.out.step HRI.out (met_entry HM.out hat) hlk)
      have hT1 : Turn [w.heap.size] wr w1 := Turn.ofGrown hg1 (fun k hk => by cases hk; simp)
      have hrow1 := RowR.turn rEntry_good HROW.out hT1 (fun k hk => by simp at hk; omega) hbk.size (Nat.le_refl _)
      have hb1 : Below w.heap.size w w1 := hbk.trans (hT1.below (fun k hk => by simp at hk; omega) hbk.size)
      have hz1 : w.heap.size + 1 ≤ w1.heap.size := by omega
      obtain ⟨css, r1, r2, r3, r4⟩ := hrow1
      have HRG := Hid.mk hrg
      have HRG1 := Hid.mk hrg1
      have hlc := hlt
      clear hs1 hat hlk hkey hv hrg hrg1 HROW HMET hT1 hg1
      go_wp2_with (at_builtin; refine wpList_append_own_at _ rfl _ _ 25 rfl (w.heap.size + 1) 91 iE (.agg #[.string ⟨#[]⟩, .int .i64 0]) 2 24 Try.underlying25 hiE hzE0 hzE1 hzE2 rfl (by decide) _ _ _ rfl (own_below r4 ((Below.refl _ _).alloc (Nat.le_refl _) _)) ⟨w1.heap.size, 0, none⟩ 1 1 [.string x, .int .i64 c] rfl rfl (bx_news (Bx.new w1 _ _)) (by intro u hu; simp at hu; rcases hu with rfl | rfl <;> rfl) (by unfold maxLen; omega) (by omega) (by simp; omega) ?_; intro v' w3 hown3 hgrow3 hnil hloc)
      have hT := Turn.after ((Below.refl w1.heap.size w1).alloc (Nat.le_refl _) _) (turnOwn hgrow3)
      have hge : ∀ k, k ∈ (Value.ownBlock _).toList → w.heap.size + 1 ≤ k := fun k hk => (r4.lt k (by simpa using hk)).1
      have hBl : Below w.heap.size w1 w3 := Turn.below hT (fun k hk => by have := hge k hk; omega) (by omega)
      have hrg3 := (HRG1.out.alloc (.cells #[.string x, .int .i64 c] 91)).kept hgrow3 (fun e => by have := (r4.lt b e.symm).1; omega) (fun e => by have := (r4.lt w.heap.size e.symm).1; omega)
      go_roundw
      case rel => exact ⟨_, cnt1, o ++ [⟨x, c⟩], hrg3, HMET2.out, RowR.push rEntry_good r1 r2 r3 hBl rfl ⟨rfl, hsz, hwc, trivial⟩ hown3, hb1.trans hBl, Nat.le_trans hz1 hT.size⟩
      case measure => rw [hrg3.left_eq, HRG.out.left_eq]; omega

end Go.Proofs.Ytcbhmbgmeodjdaa
