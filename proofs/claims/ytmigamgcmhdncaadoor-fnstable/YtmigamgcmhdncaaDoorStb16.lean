/-
  Part 17 of the texts that the proof leans on.
-/
import Derived.Test.YtmigamgcmhdncaaDoorStb15
import Derived.ScopeJumps
import Derived.WalkMore
import Derived.Lib.SliceRun
import Derived.BigFrame
import Derived.Test.YtmigamgcmhdncaaDoorStb13
set_option linter.unusedVariables false
set_option linter.unusedSimpArgs false
set_option maxRecDepth 10000

namespace Go.Proofs.YtmigamgcmhdncaaDoor
open Go.RowKit

theorem MSet.has_top {s : MSet} (h : s.ok) {j : Nat} (hj : 128 ≤ j) : s.has j = false := by
  rw [MSet.has_hi (by omega)]
  have h1 : (18446744073709551616 : Nat) ≤ 2 ^ (j - 64) := by
    have h2 := Nat.pow_le_pow_right (n := 2) (by decide) (show 64 ≤ j - 64 by omega)
    simpa using h2
  exact Nat.testBit_lt_two_pow (Nat.lt_of_lt_of_le h.2 h1)

theorem countP_lt {p q : Nat → Bool} : ∀ {l : List Nat}, (∀ x, x ∈ l → p x = true → q x = true) → (∃ x, x ∈ l ∧ q x = true ∧ p x = false) → l.countP p < l.countP q
  | [], _, ⟨x, h, _⟩ => by cases h
  | a :: r, hpq, ⟨x, hx, hq, hp⟩ => by
    have hle : r.countP p ≤ r.countP q := List.countP_mono_left (fun x hx h => hpq x (List.mem_cons_of_mem _ hx) h)
    rcases List.mem_cons.1 hx with rfl | hx
    · rw [List.countP_cons_of_neg (by rw [hp]; decide), List.countP_cons_of_pos hq]; omega
    · have ih := countP_lt (l := r) (fun x hx h => hpq x (List.mem_cons_of_mem _ hx) h) ⟨x, hx, hq, hp⟩
      rcases ha : p a with _ | _
      · rw [List.countP_cons_of_neg (by rw [ha]; decide)]
        rcases hb : q a with _ | _
        · rw [List.countP_cons_of_neg (by rw [hb]; decide)]; exact ih
        · rw [List.countP_cons_of_pos hb]; omega
      · rw [List.countP_cons_of_pos ha, List.countP_cons_of_pos (hpq a (List.mem_cons_self) ha)]; omega
def MSet.cnt (s : MSet) : Nat := (List.range 128).countP s.has
theorem MSet.cnt_le (s : MSet) : s.cnt ≤ 128 := by have h := List.countP_le_length (p := s.has) (l := List.range 128); simpa [MSet.cnt] using h
theorem MSet.cnt_add {s : MSet} {k : Nat} (hk : k < 128) (h : s.has k = false) : s.cnt < (s.add k).cnt :=
  countP_lt (fun x hx hp => by rw [MSet.add_has hk (List.mem_range.1 hx), hp]; rfl) ⟨k, List.mem_range.2 hk, by rw [MSet.add_has hk hk]; simp, h⟩
def cellNat (w : World) (b i : Nat) : Nat := match w.cell? ⟨b, i, none⟩ with | some (.int _ z) => z.toNat | _ => 0
def setIn (w : World) (b : Nat) : MSet := ⟨cellNat w b 0, cellNat w b 1⟩
theorem setIn_at {w : World} {b : Nat} {T : TypeId} {s : MSet} (h : Bw w b T s.cells) : setIn w b = s := by
  have h0 := h.cell 0 _ rfl
  have h1 := h.cell 1 _ rfl
  unfold setIn cellNat
  rw [h0, h1]
  simp

/-- What is reached from a place, and outside where not all of it is there. -/
structure ReachOk (l : List MItem) (i : Nat) (s : MSet) : Prop where
  ok : s.ok
  met : ∀ j, j < l.length → (s.has j = true ↔ Reach l i j)
  out : s.has 100 = true ↔ ¬ wholeAt l i
  top : ∀ j, s.has j = true → j < l.length ∨ j = 100
structure Reached (l : List MItem) (n k g : Nat) (rs : List MSet) (W : World) : Prop where
  len : rs.length = n
  row : Bw W g 66 (flatS rs)
  did : ∀ i, (hi : i < rs.length) → i < k → ReachOk l i rs[i]
theorem Reached.put {l : List MItem} {n k g : Nat} {rs : List MSet} {W W' : World} (h : Reached l n k g rs W) (hk : k < n) {s : MSet} (hs : ReachOk l k s) (hr : Bw W' g 66 (((flatS rs).set (k * 2) (.int .u64 (s.x0 : Int))).set (k * 2 + 1) (.int .u64 (s.x1 : Int)))) : Reached l n (k + 1) g (rs.set k s) W' := by
  have hkr : k < rs.length := by rw [h.len]; exact hk
  rw [flatS_set hkr] at hr
  refine ⟨by simpa using h.len, hr, fun i hi hik => ?_⟩
  by_cases he : i = k
  · subst he; rw [List.getElem_set_self]; exact hs
  · rw [List.getElem_set_ne (by omega)]; exact h.did i (by simpa using hi) (by omega)

/-- At the label: the walk, in two sets. -/
structure WalkS (l : List MItem) (i : Nat) (sm sk : MSet) (at_ : Nat) : Prop where
  okm : sm.ok
  okk : sk.ok
  walk : Walk l i 100 sm.has sk.has at_
  top : ∀ j, sm.has j = true → j < l.length ∨ j = 100
theorem WalkS.start {l : List MItem} {i : Nat} (hi : i < l.length) : WalkS l i ⟨0, 0⟩ ⟨0, 0⟩ i := by
  have z : ∀ j, MSet.has ⟨0, 0⟩ j = false := MSet.zero_has
  have f : ∀ {j : Nat}, ¬ MSet.has ⟨0, 0⟩ j = true := fun {j} h => by rw [z j] at h; cases h
  exact ⟨⟨by decide, by decide⟩, ⟨by decide, by decide⟩, ⟨hi, z _, .inl rfl, fun j _ h => absurd h f, fun j _ h => absurd h f, fun h => absurd h f, fun j _ => z j⟩, fun j h => absurd h f⟩
/-- Behind one step: what is least of the rest is walked next, or all is through. -/
theorem WalkS.step {l : List MItem} (hn : l.length ≤ 100) {i : Nat} {sm sk st : MSet} {at_ : Nat} (h : WalkS l i sm sk at_) (hst : StepOk l at_ st) {p : Nat} (hp : ((sm.join st).less (sk.add at_)).least p) :
    (p < l.length → WalkS l i (sm.join st) (sk.add at_) p) ∧ (¬ p < l.length → ReachOk l i (sm.join st)) := by
  have hat : at_ < 128 := by have := h.walk.here; omega
  have okm := MSet.join_ok h.okm hst.1
  have okk := MSet.add_ok h.okk hat
  have h1 : ∀ j, j < l.length → ((sm.join st).has j = true ↔ sm.has j = true ∨ stepTo l at_ j) := fun j hj => by
    rw [MSet.join_has, Bool.or_eq_true, hst.2 j (by omega)]
    exact or_congr_right ⟨fun g => g.elim id (fun g => by omega), .inl⟩
  have h2 : (sm.join st).has 100 = true ↔ sm.has 100 = true ∨ lacks l at_ := by
    rw [MSet.join_has, Bool.or_eq_true, hst.2 100 (by omega)]
    exact or_congr_right ⟨fun g => g.elim (fun ⟨_, hk, _⟩ => by omega) (fun g => g.2), fun g => .inr ⟨rfl, g⟩⟩
  have h3 : ∀ j, (sk.add at_).has j = true ↔ sk.has j = true ∨ j = at_ := fun j => by
    by_cases hj : j < 128
    · rw [MSet.add_has hat hj, Bool.or_eq_true, decide_eq_true_iff]
    · rw [MSet.has_top okk (by omega), MSet.has_top h.okk (by omega)]
      constructor
      · intro g; cases g
      · rintro (g | g)
        · cases g
        · omega
  have htop : ∀ j, (sm.join st).has j = true → j < l.length ∨ j = 100 := fun j hj => by
    by_cases hj2 : j < 128
    · rw [MSet.join_has, Bool.or_eq_true] at hj
      rcases hj with g | g
      · exact h.top j g
      · rcases (hst.2 j hj2).1 g with ⟨_, hk, _⟩ | g
        · exact .inl hk
        · exact .inr g.1
    · rw [MSet.has_top okm (by omega)] at hj; cases hj
  obtain ⟨n1, n2, n3, n4, n5⟩ := h.walk.next hn h1 h2 h3
  obtain ⟨p1, p2, p3⟩ := hp
  refine ⟨fun hpl => ?_, fun hpl => ?_⟩
  · have hh := p2 (by omega)
    rw [MSet.less_has okk (by omega), Bool.and_eq_true] at hh
    have hf : (sk.add at_).has p = false := by simpa using hh.2
    exact ⟨okm, okk, ⟨hpl, hf, .inr ⟨n4, hh.1⟩, n1, n2, n3, n5⟩, htop⟩
  · have he : ∀ j, j < l.length → (sm.join st).has j = true → (sk.add at_).has j = true := fun j hj hm => by
      have := p3 j (by omega)
      rw [MSet.less_has okk (by omega), hm, Bool.true_and] at this
      simpa using this
    have hil : i < l.length := by
      rcases h.walk.root with g | g
      · rw [← g]; exact h.walk.here
      · have := (h.walk.got at_ h.walk.here g.2).from; exact this
    obtain ⟨d1, d2⟩ := walk_done n1 n2 n3 hil n4 he
    exact ⟨okm, d1, d2, htop⟩

theorem wp_scope_label {P : Program} {Q : Exit → Act → World → Prop} {a : Act} {w : World} {c r : Code} (l : Nat) (J : Act → World → Prop) (μ : Act → World → Nat) (hf : findLabel c l = some (Code.skip.seq r))
    (pass : ∀ a w, J a w → r.wp P (Exit.jump l (fun a' w' => J a' w' ∧ μ a' w' < μ a w) Q) a w)
    (first : (∀ a w, J a w → r.wp P (Exit.jump l J Q) a w) → c.wp P (Exit.jump l J Q) a w) : (Code.scope c).wp P Q a w :=
  wp_scope_jumps l J μ hf (first (fun a w hJ => wp_mono (pass a w hJ) (fun e a' w' h => by
    cases e with
    | goto l' => exact ⟨h.1, h.2.1⟩
    | _ => exact h))) (fun a w hJ => wp_seq (wp_skip (pass a w hJ)))

theorem zeroWord (w : World) : (zeroValue 64).run Tryd.prog w = .ok (.int .u64 0) w := by kernel_rfl
theorem clear_set {w : World} {b : Nat} {T : TypeId} {s : MSet} (h : Bw w b T s.cells) (ty : TypeId) : (Builtin.clear_ #[126] ty #[.slice (some ⟨b, 0, none⟩) 2 2]).run Tryd.prog w = .ok (.tuple #[]) (w.setCells b 0 (List.replicate 2 (.int .u64 0))) := by
  refine Lib.run_clear_slice w 126 64 ty (.int .u64 0) Tryd.underlying126 zeroWord rfl rfl b 0 2 2 (by omega) (fun j hj => ?_) (fun j hj => ?_)
  · rcases (by omega : j = 0 ∨ j = 1) with rfl | rfl
    · rw [h.cell 0 _ rfl]; rfl
    · rw [Nat.zero_add, h.cell 1 _ rfl]; rfl
  · rw [Nat.zero_add]; exact h.free j
theorem cleared {w : World} {b : Nat} {T : TypeId} {s : MSet} (h : Bw w b T s.cells) : Bw (w.setCells b 0 (List.replicate 2 (.int .u64 0))) b T (MSet.cells ⟨0, 0⟩) ∧ Turn [b] w (w.setCells b 0 (List.replicate 2 (.int .u64 0))) := by
  have h1 := (h.put 0 (.int .u64 0)).put 1 (.int .u64 0)
  exact ⟨h1, ((Turn.refl [b] w).setCell (by simp) _).setCell (by simp) _⟩

set_option maxHeartbeats 8000000 in
theorem reachOf_any (g n : Nat) (l : List MItem) (ss : List MSet) (w : World) (hx : l.length = n) (hn : n ≤ 100) (hS : Steps l n n g ss w) (hT : TzAt w) :
    Calls Tryd.prog 66 #[.slice (some ⟨g, 0, none⟩) n n] w fun e w' => ∃ rs : List MSet, e = .returned (.slice (some ⟨w.heap.size, 0, none⟩) n n) ∧ Reached l n n w.heap.size rs w' ∧ Below w.heap.size w w' := by
  obtain ⟨iS, hiS, hzS0, hzS1, hzS2⟩ := info_parts Tryd.infoOfPlaceSet
  have HX := Hid.mk hx
  have HSt := Hid.mk hS
  have HT := Hid.mk hT
  have hgl : g < w.heap.size := hS.row.lt
  clear hx hS hT
  go_enter Tryd.func66, Tryd.ntmps66
  go_wp2_with (at_make; refine wpList_make_full _ rfl _ _ 99 rfl w.heap.size 66 iS (.agg #[.int .u64 0, .int .u64 0]) 2 Tryd.underlying99 hiS hzS0 hzS1 .i64 .i64 _ _ n rfl rfl rfl rfl (by rw [hzS2]; omega) (by unfold maxLen; omega) (by simp) ?_; intro w1 hown hgr)
  have hb01 : Below w.heap.size w w1 := (Below.refl _ _).grown hgr (Nat.le_refl _) (fun k h => by cases h)
  have hB1 := bw_sets hown
  have hl1 := hB1.lt
  clear hown hgr
  obtain ⟨w2, hw2⟩ : ∃ x, x = (w1.alloc (.cells #[.int .u64 0, .int .u64 0] 66)).alloc (.cells #[.int .u64 0, .int .u64 0] 66) := ⟨_, rfl⟩
  have hb12 : Below w1.heap.size w1 w2 := by rw [hw2]; exact ((Below.refl _ _).alloc (Nat.le_refl _) _).alloc (by simp) _
  have hM0 : Bw w2 w1.heap.size 66 (MSet.cells ⟨0, 0⟩) := by rw [hw2]; exact (Bw.new _ _ _).alloc _
  have hK0 : Bw w2 (w1.heap.size + 1) 66 (MSet.cells ⟨0, 0⟩) := by rw [hw2]; exact Bw.new' _ _ _ (by simp)
  have hb02 : Below w.heap.size w w2 := hb01.trans (hb12.mono (by omega))
  have HR0 : Hid (Reached l n 0 w.heap.size (List.replicate n ⟨0, 0⟩) w2) := ⟨by simp, hB1.under hb12, fun i hi h => by omega⟩
  rw [← hw2]
  clear hw2 hB1
  go_loopw [13] (fun iv wr => ∃ (k : Nat) (rs : List MSet) (sm sk : MSet), k ≤ n ∧ iv = .int .i64 k ∧ Hid (Reached l n k w.heap.size rs wr ∧ Bw wr w1.heap.size 66 sm.cells ∧ Bw wr (w1.heap.size + 1) 66 sk.cells) ∧ Below w.heap.size w wr) (fun iv _ => n - (intOf iv).toNat)
  case atStart => exact ⟨0, _, ⟨0, 0⟩, ⟨0, 0⟩, Nat.zero_le _, rfl, ⟨HR0.out, hM0, hK0⟩, hb02⟩
  case round =>
    obtain ⟨k, rs, sm, sk, hk, rfl, HR, hbk⟩ := hrel
    by_cases hlt : k < n
    · go_wp2_with fail
      refine wp_scope_label 0 (fun a' w' => ∃ (at_ : Nat) (sm sk : MSet) (x16 x17 x18 x19 x20 x21 x22 x23 x24 x25 x26 x27 x28 x29 x30 x31 x32 x33 x34 x35 x36 x37 x38 : Value), a' = { tmps := #[.slice (some ⟨g, 0, none⟩) n n, undef, .slice none 0 0, .slice (some ⟨w.heap.size, 0, none⟩) n n, .pointer (some ⟨w1.heap.size, 0, none⟩), .pointer (some ⟨w1.heap.size + 1, 0, none⟩), .int .i64 k, .int .i64 at_, .slice (some ⟨g, 0, none⟩) n n, .int .i64 n, .slice (some ⟨w.heap.size, 0, none⟩) n n, .slice (some ⟨g, 0, none⟩) n n, .int .i64 n, .int .i64 k, .bool true, .int .i64 k, x16, x17, x18, x19, x20, x21, x22, x23, x24, x25, x26, x27, x28, x29, x30, x31, x32, x33, x34, x35, x36, x37, x38, undef], defers := [] } ∧ Hid (WalkS l k sm sk at_ ∧ Reached l n k w.heap.size rs w' ∧ Bw w' w1.heap.size 66 sm.cells ∧ Bw w' (w1.heap.size + 1) 66 sk.cells) ∧ Below w.heap.size w w') (fun _ w' => 128 - (setIn w' (w1.heap.size + 1)).cnt) rfl ?_ ?_
      · rintro a' w' ⟨at_, sm, sk, x16, x17, x18, x19, x20, x21, x22, x23, x24, x25, x26, x27, x28, x29, x30, x31, x32, x33, x34, x35, x36, x37, x38, rfl, HJ, hbw⟩
        have hat : at_ < n := by have h1 := HJ.out.1.walk.here; have h2 := HX.out; omega
        have hasl : at_ < ss.length := by rw [HSt.out.len]; exact hat
        have HG : Hid (Bw w' g 66 (flatS ss)) := HSt.out.row.below hbw hgl
        have c0 := HG.out.cell (at_ * 2) _ (flatS_at0 hasl)
        have c1 := HG.out.cell (at_ * 2 + 1) _ (flatS_at1 hasl)
        have HSO := Hid.mk (HSt.out.did at_ hasl hat)
        obtain ⟨st, hst⟩ : ∃ st, st = ss[at_] := ⟨_, rfl⟩
        rw [← hst] at c0 c1 HSO
        clear hst
        have ha1 : (0 : Int) ≤ (at_ : Int) := by omega
        have ha2 : (at_ : Int) < (n : Int) := by omega
        have hgm : Hid (w.heap.size < w1.heap.size) := hl1
        obtain ⟨gm, hgm2⟩ : ∃ x, x = w1.heap.size := ⟨_, rfl⟩
        go_wp2_with fail
        refine (join_any w1.heap.size 0 66 sm.cells sm st w' HJ.out.1.okm HSO.out.1 HJ.out.2.2.1 rfl rfl).mono ?_
        rintro e w3 ⟨rfl, hM3, hT3⟩
        have hbw3 : Below w.heap.size w w3 := hbw.trans (hT3.below (fun x hx => by simp at hx; omega) hbw.size)
        have hK3 := HJ.out.2.2.2.turn hT3 (by simp)
        have hR3 := HJ.out.2.1.row.turn hT3 (by simp; omega)
        clear c0 c1 hT3
        go_wp2_with fail
        refine (add_any (w1.heap.size + 1) 0 at_ 66 sk.cells sk w3 HJ.out.1.okk (by omega) hK3 rfl rfl).mono ?_
        rintro e w4 ⟨rfl, hK4, hT4⟩
        have hbw4 : Below w.heap.size w w4 := hbw3.trans (hT4.below (fun x hx => by simp at hx; omega) hbw3.size)
        have hM4 := hM3.turn hT4 (by simp)
        have hR4 := hR3.turn hT4 (by simp; omega)
        have HQ : Hid (Bw w4 w1.heap.size 66 (sm.join st).cells ∧ Bw w4 (w1.heap.size + 1) 66 (sk.add at_).cells ∧ Reached l n k w.heap.size rs w4) := ⟨hM4, hK4, HJ.out.2.1.len, hR4, HJ.out.2.1.did⟩
        have HOK : Hid ((sm.join st).ok ∧ (sk.add at_).ok) := ⟨MSet.join_ok HJ.out.1.okm HSO.out.1, MSet.add_ok HJ.out.1.okk (by omega)⟩
        have HST : Hid (∀ p, ((sm.join st).less (sk.add at_)).least p → (p < l.length → WalkS l k (sm.join st) (sk.add at_) p) ∧ (¬ p < l.length → ReachOk l k (sm.join st))) := fun p hp => HJ.out.1.step (by rw [HX.out]; exact hn) HSO.out hp
        have HMU : Hid (128 - (sk.add at_).cnt < 128 - (setIn w' (w1.heap.size + 1)).cnt) := by
          unfold Hid
          rw [setIn_at HJ.out.2.2.2]
          have h1 := MSet.cnt_add (s := sk) (k := at_) (by omega) HJ.out.1.walk.fresh
          have h2 := MSet.cnt_le (sk.add at_)
          omega
        generalize sm.join st = sm2 at *
        generalize sk.add at_ = sk2 at *
        have m0 := HQ.out.1.cell 0 _ rfl
        have m1 := HQ.out.1.cell 1 _ rfl
        have q0 := HQ.out.2.1.cell 0 _ rfl
        have q1 := HQ.out.2.1.cell 1 _ rfl
        clear hM3 hK3 hR3 hM4 hK4 hR4 hT4 hbw3 HJ HSO HG
        go_wp2_with fail
        refine (without_any sm2 sk2 w4 HOK.out.1 HOK.out.2).mono ?_
        rintro e w5 ⟨rfl, hx5⟩
        have hbw5 : Below w.heap.size w w5 := hbw4.trans (hx5.mono hbw4.size)
        go_wp2_with fail
        refine (first_any (sm2.less sk2) w5 (MSet.less_ok HOK.out.1) (HT.out.below hbw5)).mono ?_
        rintro e w6 ⟨p, rfl, hp, hx6⟩
        have hbw6 : Below w.heap.size w w6 := hbw5.trans (hx6.mono hbw5.size)
        have hx46 := hx5.trans (hx6.mono hx5.size)
        have HQ6 : Hid (Bw w6 w1.heap.size 66 sm2.cells ∧ Bw w6 (w1.heap.size + 1) 66 sk2.cells ∧ Reached l n k w.heap.size rs w6) := ⟨HQ.out.1.under hx46, HQ.out.2.1.under hx46, HQ.out.2.2.len, HQ.out.2.2.row.under hx46, HQ.out.2.2.did⟩
        have HP := Hid.mk (HST.out p hp)
        have hp128 : p ≤ 128 := hp.1
        clear m0 m1 q0 q1 HQ hp hx5 hx6 hx46 HST
        by_cases hpn : p < n
        · have HW := Hid.mk (HP.out.1 (by rw [HX.out]; exact hpn))
          have hp2 : (p : Int) < (n : Int) := by omega
          go_wp2_with fail
          go_step3
          refine ⟨rfl, ⟨p, sm2, sk2, _, _, _, _, _, _, _, _, _, _, _, _, _, _, _, _, _, _, _, _, _, _, _, rfl, ⟨HW.out, HQ6.out.2.2, HQ6.out.1, HQ6.out.2.1⟩, hbw6⟩, ?_⟩
          rw [setIn_at HQ6.out.2.1]
          exact HMU.out
        · have HW := Hid.mk (HP.out.2 (by rw [HX.out]; exact hpn))
          have hp2 : ¬ (p : Int) < (n : Int) := by omega
          have m0 := HQ6.out.1.cell 0 _ rfl
          have m1 := HQ6.out.1.cell 1 _ rfl
          have hkr : k < rs.length := by rw [HQ6.out.2.2.len]; exact hlt
          have r0 := HQ6.out.2.2.row.cell (k * 2) _ (flatS_at0 hkr)
          have r1 := HQ6.out.2.2.row.cell (k * 2 + 1) _ (flatS_at1 hkr)
          have f0 := HQ6.out.2.2.row.free (k * 2)
          have f1 := HQ6.out.2.2.row.free (k * 2 + 1)
          have hrl := HQ6.out.2.2.row.lt
          have hk1 : (0 : Int) ≤ (k : Int) := by omega
          have hk2 : (k : Int) < (n : Int) := by omega
          have HN := Hid.mk (HQ6.out.2.2.put hlt HW.out ((HQ6.out.2.2.row.put (k * 2) (.int .u64 (sm2.x0 : Int))).put (k * 2 + 1) (.int .u64 (sm2.x1 : Int))))
          have HM7 := Hid.mk ((HQ6.out.1.turn (((Turn.refl [w.heap.size] w6).setCell (p := ⟨w.heap.size, k * 2, none⟩) (by simp) (.int .u64 (sm2.x0 : Int))).setCell (p := ⟨w.heap.size, k * 2 + 1, none⟩) (by simp) (.int .u64 (sm2.x1 : Int))) (by simp; omega)))
          have HK7 := Hid.mk ((HQ6.out.2.1.turn (((Turn.refl [w.heap.size] w6).setCell (p := ⟨w.heap.size, k * 2, none⟩) (by simp) (.int .u64 (sm2.x0 : Int))).setCell (p := ⟨w.heap.size, k * 2 + 1, none⟩) (by simp) (.int .u64 (sm2.x1 : Int))) (by simp; omega)))
          have hb7 : Below w.heap.size w ((w6.setCell ⟨w.heap.size, k * 2, none⟩ (.int .u64 (sm2.x0 : Int))).setCell ⟨w.heap.size, k * 2 + 1, none⟩ (.int .u64 (sm2.x1 : Int))) := (hbw6.setCell (by simp) _).setCell (by simp) _
          go_wp2_with fail
          simp only [Exit.jump, Exit.inBlock, Exit.then]
          obtain ⟨w7, hw7⟩ : ∃ x, x = (w6.setCell ⟨w.heap.size, k * 2, none⟩ (.int .u64 (sm2.x0 : Int))).setCell ⟨w.heap.size, k * 2 + 1, none⟩ (.int .u64 (sm2.x1 : Int)) := ⟨_, rfl⟩
          rw [← hw7] at HN HM7 HK7 hb7 ⊢
          clear hw7 m0 m1 r0 r1 f0 f1
          go_wp2_with fail
          go_roundw
          case rel => exact ⟨k + 1, rs.set k sm2, sm2, sk2, by omega, by go_num, ⟨HN.out, HM7.out, HK7.out⟩, hb7⟩
          case measure => simp [intOf]; omega
      · intro hlab
        have hcl1 := fun ty => clear_set HR.out.2.1 ty
        have HC1 := Hid.mk (cleared HR.out.2.1)
        obtain ⟨wa, hwa⟩ : ∃ x, x = wr.setCells w1.heap.size 0 (List.replicate 2 (.int .u64 0)) := ⟨_, rfl⟩
        rw [← hwa] at hcl1 HC1
        have HK1 := Hid.mk (HR.out.2.2.turn HC1.out.2 (by simp))
        have hcl2 := fun ty => clear_set HK1.out ty
        have HC2 := Hid.mk (cleared HK1.out)
        have hba : Below w.heap.size w wa := hbk.trans (HC1.out.2.below (fun x hx => by simp at hx; omega) hbk.size)
        have HRa := Hid.mk (HR.out.1.row.turn HC1.out.2 (by simp; omega))
        clear hwa
        obtain ⟨wb, hwb⟩ : ∃ x, x = wa.setCells (w1.heap.size + 1) 0 (List.replicate 2 (.int .u64 0)) := ⟨_, rfl⟩
        rw [← hwb] at hcl2 HC2
        have hbb : Below w.heap.size w wb := hba.trans (HC2.out.2.below (fun x hx => by simp at hx; omega) hba.size)
        have HJ0 : Hid (WalkS l k ⟨0, 0⟩ ⟨0, 0⟩ k ∧ Reached l n k w.heap.size rs wb ∧ Bw wb w1.heap.size 66 (MSet.cells ⟨0, 0⟩) ∧ Bw wb (w1.heap.size + 1) 66 (MSet.cells ⟨0, 0⟩)) := ⟨WalkS.start (by rw [HX.out]; exact hlt), ⟨HR.out.1.len, HRa.out.turn HC2.out.2 (by simp; omega), HR.out.1.did⟩, HC1.out.1.turn HC2.out.2 (by simp), HC2.out.1⟩
        clear hwb HRa HK1 HC1 HC2
        go_wp2_with (first | simp only [hcl1] | simp only [hcl2])
        go_step3
        simp only [Exit.then]
        apply_assumption
        exact hlab _ _ ⟨k, ⟨0, 0⟩, ⟨0, 0⟩, _, _, _, _, _, _, _, _, _, _, _, _, _, _, _, _, _, _, _, _, _, _, _, rfl, HJ0, hbb⟩
    · have hkn : k = n := by omega
      subst hkn
      go_wp2_with fail
      go_ret
      exact ⟨rs, rfl, HR.out.1, hbk⟩


/-- In one ring: reached from one another, or the same. -/
def ring (l : List MItem) (p j : Nat) : Prop := j = p ∨ (Reach l j p ∧ Reach l p j)
theorem ring.refl (l : List MItem) (p : Nat) : ring l p p := .inl rfl
theorem ring.symm {l : List MItem} {p j : Nat} (h : ring l p j) : ring l j p := h.imp Eq.symm (fun g => ⟨g.2, g.1⟩)
theorem ring.trans {l : List MItem} {p q j : Nat} (h : ring l p q) (k : ring l q j) : ring l p j := by
  rcases h with rfl | h
  · exact k
  · rcases k with rfl | k
    · exact .inr h
    · exact .inr ⟨k.1.trans h.1, h.2.trans k.2⟩
theorem ring.whole {l : List MItem} {p j : Nat} (h : ring l p j) (hw : wholeAt l p) : wholeAt l j := by
  rcases h with rfl | h
  · exact hw
  · exact hw.on h.2
theorem ring.lt {l : List MItem} {p j : Nat} (h : ring l p j) (hp : p < l.length) : j < l.length := by
  rcases h with rfl | h
  · exact hp
  · exact h.2.lt
/-- The least of its ring, of those that are whole. -/
def lead (l : List MItem) (p : Nat) : Prop := wholeAt l p ∧ ∀ q, q < p → ¬ ring l p q
theorem lead_of {l : List MItem} : ∀ (k : Nat), wholeAt l k → ∃ p, p ≤ k ∧ lead l p ∧ ring l p k := by
  intro k
  induction k using Nat.strongRecOn with
  | _ k ih =>
    intro hw
    apply Classical.byContradiction
    intro hn
    apply hn
    refine ⟨k, Nat.le_refl _, ⟨hw, fun q hq hr => ?_⟩, ring.refl _ _⟩
    obtain ⟨p, hp, hl, hpr⟩ := ih q hq (hr.whole hw)
    exact hn ⟨p, by omega, hl, hpr.trans hr.symm⟩
theorem lead.one {l : List MItem} {p q : Nat} (hp : lead l p) (hq : lead l q) (h : ring l p q) : p = q := by
  rcases Nat.lt_trichotomy p q with g | g | g
  · exact absurd h.symm (hq.2 p g)
  · exact g
  · exact absurd h (hp.2 q g)

structure MGrp where
  mem : MSet
  need : MSet
def MGrp.cells (g : MGrp) : List Value := [.int .u64 (g.mem.x0 : Int), .int .u64 (g.mem.x1 : Int), .int .u64 (g.need.x0 : Int), .int .u64 (g.need.x1 : Int)]
def rGrp : Rep MGrp := fun B w cs g => cs = g.cells ∧ g.mem.ok ∧ g.need.ok
theorem rGrp_good : rGrp.Good := ⟨fun h _ => h, fun h _ => h⟩
/-- A group: its ring, and what is reached from it beside this. -/
structure GrpOk (l : List MItem) (p : Nat) (g : MGrp) : Prop where
  okm : g.mem.ok
  okn : g.need.ok
  mem : ∀ j, j < 128 → (g.mem.has j = true ↔ ring l p j)
  need : ∀ j, j < 128 → (g.need.has j = true ↔ Reach l p j ∧ ¬ ring l p j)
structure GroupsOk (l : List MItem) (k : Nat) (ps : List Nat) (gs : List MGrp) : Prop where
  asc : ps.Pairwise (· < ·)
  who : ∀ p, p ∈ ps ↔ p < k ∧ lead l p
  len : gs.length = ps.length
  each : ∀ i, (h : i < ps.length) → (h2 : i < gs.length) → GrpOk l ps[i] gs[i]
structure GroupsSt (l : List MItem) (k : Nat) (ps : List Nat) (gs : List MGrp) (s : MSet) : Prop where
  grp : GroupsOk l k ps gs
  ok : s.ok
  got : ∀ j, j < 128 → (s.has j = true ↔ ∃ p, p ∈ ps ∧ ring l p j)
theorem GroupsSt.start (l : List MItem) : GroupsSt l 0 [] [] ⟨0, 0⟩ :=
  ⟨⟨List.Pairwise.nil, fun p => by simp, rfl, fun i h _ => by simp at h⟩, ⟨by decide, by decide⟩, fun j hj => by rw [MSet.zero_has]; simp⟩
theorem GroupsSt.skip {l : List MItem} {k : Nat} {ps : List Nat} {gs : List MGrp} {s : MSet} (h : GroupsSt l k ps gs s) (hk : ¬ lead l k) : GroupsSt l (k + 1) ps gs s :=
  ⟨⟨h.grp.asc, fun p => by
    rw [h.grp.who]
    constructor
    · rintro ⟨h1, h2⟩; exact ⟨by omega, h2⟩
    · rintro ⟨h1, h2⟩
      refine ⟨?_, h2⟩
      have : p ≠ k := fun e => hk (e ▸ h2)
      omega, h.grp.len, h.grp.each⟩, h.ok, h.got⟩
theorem GroupsSt.push {l : List MItem} {k : Nat} {ps : List Nat} {gs : List MGrp} {s : MSet} (h : GroupsSt l k ps gs s) (hk : lead l k) {g : MGrp} (hg : GrpOk l k g) : GroupsSt l (k + 1) (ps ++ [k]) (gs ++ [g]) (s.join g.mem) := by
  refine ⟨⟨?_, fun p => ?_, by simp [h.grp.len], fun i h1 h2 => ?_⟩, MSet.join_ok h.ok hg.okm, fun j hj => ?_⟩
  · rw [List.pairwise_append]
    exact ⟨h.grp.asc, by simp, fun a ha b hb => by simp at hb; subst hb; exact ((h.grp.who a).1 ha).1⟩
  · rw [List.mem_append, h.grp.who, List.mem_singleton]
    constructor
    · rintro (⟨h1, h2⟩ | rfl)
      · exact ⟨by omega, h2⟩
      · exact ⟨by omega, hk⟩
    · rintro ⟨h1, h2⟩
      by_cases e : p = k
      · exact .inr e
      · exact .inl ⟨by omega, h2⟩
  · by_cases hi : i < ps.length
    · rw [List.getElem_append_left hi, List.getElem_append_left (by rw [h.grp.len]; exact hi)]
      exact h.grp.each i hi _
    · have e : i = ps.length := by simp at h1; omega
      subst e
      rw [List.getElem_append_right (Nat.le_refl _), List.getElem_append_right (by rw [h.grp.len]; exact Nat.le_refl _)]
      simpa using hg
  · rw [MSet.join_has, Bool.or_eq_true, h.got j hj, hg.mem j hj]
    constructor
    · rintro (⟨p, hp, hr⟩ | hr)
      · exact ⟨p, by simp [hp], hr⟩
      · exact ⟨k, by simp, hr⟩
    · rintro ⟨p, hp, hr⟩
      rcases List.mem_append.1 hp with hp | hp
      · exact .inl ⟨p, hp, hr⟩
      · rw [List.mem_singleton] at hp; subst hp; exact .inr hr
/-- Whether a place is the least of a new group. -/
theorem GroupsSt.lead {l : List MItem} {k : Nat} {ps : List Nat} {gs : List MGrp} {s : MSet} (h : GroupsSt l k ps gs s) (hk : k < 128) : (s.has k = true → ¬ lead l k) ∧ (s.has k = false → wholeAt l k → lead l k) := by
  refine ⟨fun hs hl => ?_, fun hs hw => ?_⟩
  · obtain ⟨p, hp, hr⟩ := (h.got k hk).1 hs
    exact hl.2 p ((h.grp.who p).1 hp).1 hr.symm
  · obtain ⟨p, hp, hl, hr⟩ := lead_of k hw
    by_cases e : p = k
    · exact e ▸ hl
    · have := (h.got k hk).2 ⟨p, (h.grp.who p).2 ⟨by omega, hl⟩, hr⟩
      rw [hs] at this; cases this
/-- The program's ring and needs are a group's. -/
theorem grp_ok {l : List MItem} {n k : Nat} {rs : List MSet} (hx : l.length = n) (hn : n ≤ 100) (hl : rs.length = n) (hd : ∀ i, (hi : i < rs.length) → ReachOk l i rs[i]) (hk : k < n) (hw : wholeAt l k) {s r : MSet} (hs : s.ok) (hr : ∃ hk : k < rs.length, rs[k] = r) (hh : ∀ j, j < 128 → s.has j = ringHas rs k n j) : GrpOk l k ⟨s, r.less s⟩ := by
  obtain ⟨hkr, rfl⟩ := hr
  have hm : ∀ j, j < 128 → (s.has j = true ↔ ring l k j) := fun j hj => by
    rw [hh j hj]
    unfold ringHas ring
    rw [Bool.or_eq_true, decide_eq_true_iff]
    refine or_congr_right ?_
    rw [Bool.and_eq_true, Bool.and_eq_true, decide_eq_true_iff]
    constructor
    · rintro ⟨h1, h2, h3⟩
      have hj2 : j < rs.length := by omega
      rw [hasAt_at hj2] at h2
      rw [hasAt_at hkr] at h3
      exact ⟨((hd j hj2).met k (by omega)).1 h2, ((hd k hkr).met j (by omega)).1 h3⟩
    · rintro ⟨h1, h2⟩
      have hjl := h1.from
      have hj2 : j < rs.length := by omega
      rw [hasAt_at hj2, hasAt_at hkr]
      exact ⟨by omega, ((hd j hj2).met k (by omega)).2 h1, ((hd k hkr).met j (by omega)).2 h2⟩
  refine ⟨hs, MSet.less_ok (hd k hkr).ok, hm, fun j hj => ?_⟩
  show ((rs[k]).less s).has j = true ↔ _
  rw [MSet.less_has hs hj, Bool.and_eq_true]
  have hno : (rs[k]).has 100 = true → False := fun h => ((hd k hkr).out.1 h) hw
  have h1 : (rs[k]).has j = true ↔ Reach l k j := by
    constructor
    · intro h
      rcases (hd k hkr).top j h with g | g
      · exact ((hd k hkr).met j g).1 h
      · subst g; exact (hno h).elim
    · intro h; exact ((hd k hkr).met j h.lt).2 h
  rw [h1, ← hm j hj]
  simp


/-- The dots at those places that Q takes. -/
def PickL (l : List MItem) (Q : Nat → Prop) (L : List MDot) : Prop := ∃ P : Nat → Bool, (∀ j, j < l.length → (P j = true ↔ Q j)) ∧ L = pickT P l l.length
theorem PickL.one {l : List MItem} {Q : Nat → Prop} {L K : List MDot} (h : PickL l Q L) (k : PickL l Q K) : L = K := by
  obtain ⟨P, hP, rfl⟩ := h
  obtain ⟨P2, hP2, rfl⟩ := k
  refine pickT_congr (fun j hj => ?_)
  have h2 := (hP j hj).trans (hP2 j hj).symm
  rcases h3 : P j with _ | _ <;> rcases h4 : P2 j with _ | _
  · rfl
  · rw [h3, h4] at h2; exact absurd (h2.2 rfl) (by decide)
  · rw [h3, h4] at h2; exact absurd (h2.1 rfl) (by decide)
  · rfl
theorem PickL.len {l : List MItem} {Q : Nat → Prop} {L : List MDot} (h : PickL l Q L) : L.length ≤ l.length := by
  obtain ⟨P, _, rfl⟩ := h
  exact pickT_len P _ _
theorem PickL.ex (l : List MItem) (Q : Nat → Prop) : ∃ L, PickL l Q L := ⟨_, fun j => @decide _ (Classical.propDecidable (Q j)), fun j _ => by simp, rfl⟩
theorem pickT_none (l : List MItem) : ∀ k, pickT (fun _ => false) l k = []
  | 0 => rfl
  | k + 1 => by rw [pickT_no rfl]; exact pickT_none l k
theorem PickL.none {l : List MItem} {Q : Nat → Prop} (h : ∀ j, j < l.length → ¬ Q j) : PickL l Q [] := ⟨fun _ => false, fun j hj => ⟨fun e => absurd (show false = true from e) (by decide), fun e => absurd e (h j hj)⟩, (pickT_none l _).symm⟩
def rg (bss : List (List Bool)) (a b : Nat) : Bool := (bss.getD a []).getD b false
end Go.Proofs.YtmigamgcmhdncaaDoor
