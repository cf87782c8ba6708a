/-
  Part 4 of the texts that the proof leans on.
-/
import Derived.Test.YtmbobjhplkpfoaaFnn2
import Derived.Test.YtmbobjhplkpfoaaFnn0
import Derived.Test.YtmbobjhplkpfoaaFnn1
set_option linter.unusedVariables false
set_option linter.unusedSimpArgs false
set_option maxRecDepth 10000

namespace Go.Proofs.Ytmbobjhplkpfoaa
open Go.RowKit

theorem Bx.grown {w w' : World} {b : Nat} {vs : List Value} {r : Option Nat} (h : Bx w b vs) (hg : w.grownBy w' r) (hr : r ≠ some b) : Bx w' b vs :=
  ⟨Nat.lt_of_lt_of_le h.1 hg.size, fun i u hu => (World.cell?_of_block (w := w) (hg.block b h.1 (fun e => hr e.symm))).trans (h.2 i u hu)⟩

set_option maxHeartbeats 400000 in
theorem l1Str_ok {g : Nat} {w : World} (b n : Nat) (ss : List ByteArray) (hc : CurOk w g) (hb : Bx w b (ss.map Value.string)) (hne : b ≠ g) (hn : ss.length = n) (h0 : 0 < n) (h1 : n ≤ 1000000) :
    Calls Try.prog 63 #[.pointer (some ⟨g, 0, none⟩), .slice (some ⟨b, 0, none⟩) n n] w fun e w' => ∃ s, (s ∈ ss ∧ e = .returned (.string s)) ∧ CurOk w' g ∧ w.grownBy w' (some g) := by
  have HN := Hid.mk hn
  clear hn
  go_enter Try.func63, Try.ntmps63
  go_wp2_with fail
  refine (l1Below_ok _ hc).mono ?_
  rintro e w1 ⟨x, rfl, hx, hc1, hg1⟩
  obtain ⟨x, rfl⟩ := Int.eq_ofNat_of_zero_le hx.1
  have hxm : x < n := by omega
  have hxs : x < ss.length := by rw [HN.out]; exact hxm
  have hcell := (hb.grown hg1 (fun e => hne (Option.some.inj e).symm)).2 x (.string ss[x]) (by simp [hxs])
  have HM := Hid.mk (List.getElem_mem hxs)
  generalize ss[x] = s at *
  clear hx
  go_wp2_with fail
  go_ret
  exact ⟨s, ⟨HM.out, rfl⟩, hc1, hg1⟩

set_option maxHeartbeats 400000 in
theorem l1Once_ok {g : Nat} {w : World} (q : Int) (hc : CurOk w g) :
    Calls Try.prog 62 #[.pointer (some ⟨g, 0, none⟩), .int .i64 q] w fun e w' => ∃ x : Bool, e = .returned (.bool x) ∧ CurOk w' g ∧ w.grownBy w' (some g) := by
  go_enter Try.func62, Try.ntmps62
  go_wp2_with fail
  refine (l1Below_ok _ hc).mono ?_
  rintro e w1 ⟨x, rfl, hx, hc1, hg1⟩
  go_wp2_with fail
  go_ret
  exact ⟨_, rfl, hc1, hg1⟩

def SizePost (w : World) (e : Ending) (w' : World) : Prop := ∃ x : Int, (e = .returned (.int .i64 x) ∧ x ≤ 100) ∧ w' = w

set_option maxHeartbeats 400000 in
theorem l1Size_ok (a : Option Addr) (n cap : Nat) (q : Int) (w : World) (hn : n ≤ 1048576) (hq : 0 ≤ q) (hq2 : q ≤ 100) :
    Calls Try.prog 25 #[.slice a n cap, .int .i64 q] w fun e w' => SizePost w e w' := by
  have e1 : ((n : Int)).tdiv 12 = (n : Int) / 12 := Int.tdiv_eq_ediv_of_nonneg (by omega)
  have e2 : IntKind.i64.wrap ((n : Int) / 12) = (n : Int) / 12 := by rw [IntKind.wrap_i64]; omega
  go_enter Try.func25, Try.ntmps25
  by_cases h : q < 3 + (n : Int) / 12
  · go_wp2_with fail
    go_ret
    exact (show SizePost w _ _ from ⟨q, ⟨rfl, hq2⟩, rfl⟩)
  · go_wp2_with fail
    go_ret
    exact (show SizePost w _ _ from ⟨3 + (n : Int) / 12, ⟨rfl, by omega⟩, rfl⟩)

def namesL : List ByteArray := [⟨#[97]⟩, ⟨#[98]⟩, ⟨#[108, 111, 103, 45, 49]⟩, ⟨#[99, 117, 114]⟩, ⟨#[116, 109, 112]⟩, ⟨#[120, 46, 57]⟩]
theorem namesL_short : ∀ s, s ∈ namesL → s.size ≤ 20 := by decide
def oddsL : List ByteArray := [⟨#[]⟩, ⟨#[65]⟩, ⟨#[116, 104, 105, 114, 116, 101, 101, 110, 45, 108, 111, 110, 103]⟩, ⟨#[116, 119, 101, 108, 118, 101, 45, 108, 111, 110, 103, 49]⟩, ⟨#[97, 32, 98]⟩]
theorem oddsL_short : ∀ s, s ∈ oddsL → s.size ≤ 20 := by decide

set_option maxHeartbeats 400000 in
theorem l2DrawName_ok {g : Nat} {w : World} (hc : CurOk w g) :
    Calls Try.prog 48 #[.pointer (some ⟨g, 0, none⟩)] w fun e w' => ∃ s : ByteArray, (e = .returned (.string s) ∧ s ∈ namesL) ∧ CurOk w' g ∧ w.grownBy w' (some g) := by
  have hgl := hc.lt
  go_enter Try.func48, Try.ntmps48
  go_wp2_with fail
  refine (l1Str_ok w.heap.size 6 namesL (hc.below ((Below.refl _ _).alloc (Nat.le_refl _) _)) (Bx.new w (namesL.map Value.string) 9) (by omega) rfl (by omega) (by omega)).mono ?_
  rintro e w1 ⟨s, ⟨hs, rfl⟩, hc1, hg1⟩
  have HS := Hid.mk hs
  clear hs
  go_wp2_with fail
  go_ret
  exact ⟨s, ⟨rfl, HS.out⟩, hc1, grown_trans (World.grownBy_alloc w _ _) hg1⟩

set_option maxHeartbeats 400000 in
theorem l2NameAny_ok {g : Nat} {w : World} (hc : CurOk w g) :
    Calls Try.prog 42 #[.pointer (some ⟨g, 0, none⟩)] w fun e w' => ∃ s : ByteArray, (e = .returned (.string s) ∧ s.size ≤ 20) ∧ CurOk w' g ∧ w.grownBy w' (some g) := by
  go_enter Try.func42, Try.ntmps42
  go_wp2_with fail
  refine (l1Once_ok _ hc).mono ?_
  rintro e w1 ⟨x, rfl, hc1, hg1⟩
  have hgl := hc1.lt
  cases x
  · go_wp2_with fail
    refine (l2DrawName_ok hc1).mono ?_
    rintro e w2 ⟨s, ⟨rfl, hs⟩, hc2, hg2⟩
    have hz := namesL_short s hs
    go_wp2_with fail
    go_ret
    exact ⟨s, ⟨rfl, hz⟩, hc2, grown_trans hg1 hg2⟩
  · go_wp2_with fail
    refine (l1Str_ok w1.heap.size 5 oddsL (hc1.below ((Below.refl _ _).alloc (Nat.le_refl _) _)) (Bx.new w1 (oddsL.map Value.string) 9) (by omega) rfl (by omega) (by omega)).mono ?_
    rintro e w2 ⟨s, ⟨hs, rfl⟩, hc2, hg2⟩
    have hz := oddsL_short s hs
    go_wp2_with fail
    go_ret
    exact ⟨s, ⟨rfl, hz⟩, hc2, grown_trans hg1 (grown_trans (World.grownBy_alloc w1 _ _) hg2)⟩


/-- A block that is a disk's box: three slices and a number. -/
def DBox (w : World) (b : Nat) : Prop := ∃ (t : TypeId) (a0 a1 a2 : Option Addr) (n0 c0 n1 c1 n2 c2 : Nat) (z : Int), Bw w b t [.slice a0 n0 c0, .slice a1 n1 c1, .slice a2 n2 c2, .int .i64 z]
theorem DBox.at {w : World} {b : Nat} (h : DBox w b) (k : Nat) : (∃ a n c, w.cell? ⟨b, k, none⟩ = some (.slice a n c)) ∨ (k = 3 ∧ ∃ z, w.cell? ⟨b, k, none⟩ = some (.int .i64 z)) ∨ (4 ≤ k ∧ w.cell? ⟨b, k, none⟩ = none) := by
  obtain ⟨t, a0, a1, a2, n0, c0, n1, c1, n2, c2, z, hb⟩ := h
  have hc := cell_of_row w b k _ t (0, 0) hb
  rw [hc]
  match k with
  | 0 => exact .inl ⟨_, _, _, rfl⟩
  | 1 => exact .inl ⟨_, _, _, rfl⟩
  | 2 => exact .inl ⟨_, _, _, rfl⟩
  | 3 => exact .inr (.inl ⟨rfl, _, rfl⟩)
  | k + 4 => exact .inr (.inr ⟨by omega, rfl⟩)
section
variable {B : Nat} {w w' : World} {b : Nat}
theorem turn_cell (h : Turn [b] w w') {g k : Nat} (hg : g ≠ b) {u : Value} (hu : w.cell? ⟨g, k, none⟩ = some u) : w'.cell? ⟨g, k, none⟩ = some u := by
  have hlt : g < w.heap.size := World.block_lt_of_cell? _ _ hu
  have hs := h.block g hlt (by simpa using hg)
  have : w'.cell? ⟨g, k, none⟩ = w.cell? ⟨g, k, none⟩ := by simp [World.cell?, hs]
  rw [this, hu]
theorem leafB_turn (hx : DBox w b) (h : Turn [b] w w') {a : Option Addr} {c : Nat} {zs : List Int} (hl : LeafB B w a c zs) : LeafB B w' a c zs := by
  refine ⟨hl.1, hl.2.1, fun j hj => ?_, hl.2.2.2⟩
  obtain ⟨g, off, e, hB, hc⟩ := hl.2.2.1 j hj
  refine ⟨g, off, e, hB, turn_cell h ?_ hc⟩
  rintro rfl
  rcases hx.at (off + j) with ⟨_, _, _, h1⟩ | ⟨_, z, h1⟩ | ⟨_, h1⟩ <;> rw [hc] at h1 <;> cases h1
theorem leafE_turn (hx : DBox w b) (h : Turn [b] w w') {a : Option Addr} {c : Nat} {l : List MEntry} (hl : LeafL 2 rEntry B w a c l) : LeafL 2 rEntry B w' a c l := by
  refine ⟨hl.1, hl.2.1, fun j hj => ?_⟩
  obtain ⟨g, off, e, hB, cs, h1, h2, h3⟩ := hl.2.2 j hj
  have h3' := h3
  obtain ⟨rfl, _⟩ := h3
  have hne : g ≠ b := by
    rintro rfl
    have h4 := h2 0 _ rfl
    rcases hx.at (off + j * 2 + 0) with ⟨_, _, _, h5⟩ | ⟨_, z, h5⟩ | ⟨_, h5⟩ <;> rw [h4] at h5 <;> cases h5
  exact ⟨g, off, e, hB, _, h1, fun i u hu => turn_cell h hne (h2 i u hu), h3'⟩
theorem leafI_turn (hx : DBox w b) (h : Turn [b] w w') {a : Option Addr} {c : Nat} {l : List MInode} (hl : LeafL 3 rInode B w a c l) : LeafL 3 rInode B w' a c l := by
  refine ⟨hl.1, hl.2.1, fun j hj => ?_⟩
  obtain ⟨g, off, e, hB, cs, h1, h2, a1, c1, rfl, h3, h4, h5, _⟩ := hl.2.2 j hj
  have hne : g ≠ b := by
    rintro rfl
    have h6 := h2 0 _ rfl
    have h7 := h2 1 _ rfl
    rcases hx.at (off + j * 3 + 0) with ⟨_, _, _, h8⟩ | ⟨hk, z, h8⟩ | ⟨_, h8⟩
    · rw [h6] at h8; cases h8
    · rcases hx.at (off + j * 3 + 1) with ⟨_, _, _, h9⟩ | ⟨hk2, z, h9⟩ | ⟨_, h9⟩
      · have hk3 : off + j * 3 + 1 = 4 := by omega
        have := hx.at 4
        rw [hk3] at h9
        rcases this with ⟨_, _, _, h10⟩ | ⟨h10, _⟩ | ⟨_, h10⟩
        · obtain ⟨t, b0, b1, b2, n0, c0, n1, c1', n2, c2, z2, hb⟩ := hx
          have hc := cell_of_row w g 4 _ t (0, 0) hb
          rw [hc] at h10
          cases h10
        · omega
        · rw [h10] at h9; cases h9
      · omega
      · rw [h7] at h9; cases h9
    · rw [h6] at h8; cases h8
  exact ⟨g, off, e, hB, _, h1, fun i u hu => turn_cell h hne (h2 i u hu), a1, c1, rfl, h3, leafB_turn hx h h4, h5, trivial⟩
/-- A disk that is read stands where a disk's box is written. -/
theorem rDisk_turn {cs : List Value} {m : MDisk} (hx : DBox w b) (h : Turn [b] w w') (hr : rDisk B w cs m) : rDisk B w' cs m := by
  obtain ⟨a0, c0, a1, c1, a2, c2, rfl, h0, h1, h2, h3, _⟩ := hr
  exact ⟨a0, c0, a1, c1, a2, c2, rfl, leafI_turn hx h h0, leafE_turn hx h h1, leafE_turn hx h h2, h3, trivial⟩
end
theorem Bw.dbox {w : World} {b : Nat} {t : TypeId} {cs : List Value} {B : Nat} {W : World} {m : MDisk} (h : Bw w b t cs) (hr : rDisk B W cs m) : DBox w b := by
  obtain ⟨a0, c0, a1, c1, a2, c2, rfl, _⟩ := hr
  exact ⟨t, a0, a1, a2, _, _, _, _, _, _, _, h⟩
theorem Bw.dzero {w : World} {b : Nat} {t : TypeId} (h : Bw w b t [.slice none 0 0, .slice none 0 0, .slice none 0 0, .int .i64 0]) : DBox w b := ⟨t, _, _, _, _, _, _, _, _, _, _, h⟩

end Go.Proofs.Ytmbobjhplkpfoaa

namespace Go.Proofs.Ytmbobjhplkpfoaa
open Go.RowKit

/-- Rows of entries in a block of one's own. -/
theorem ownS_ents {w : World} {elem g n : Nat} {l : List MEntry} {css : List (List Value)} (hl : l.length = n) (hm : n ≤ maxLen) (hc : css.length = n) (h2 : ∀ c, c ∈ css → c.length = 2) {B : Nat} {w0 : World} (h3 : ∀ j, (h1 : j < l.length) → (h2 : j < css.length) → rEntry B w0 css[j] l[j])
    (hg : w.heap[g]? = some (.cells css.flatten.toArray elem (0, 0))) : ownS 2 elem oEntry w (.slice (some ⟨g, 0, none⟩) n n) l [g] := by
  refine .inr ⟨g, n, _, List.replicate n [], by rw [hl], hg, by omega, hm, by rw [List.size_toArray, flat_len h2, hc], by simp [hl], ?_, by simp⟩
  intro j hj
  have hj2 : j < css.length := by omega
  rw [List.toList_toArray, flat_part h2 hj2]
  obtain ⟨e1, e2, e3, _⟩ := h3 j hj hj2
  refine ⟨e1, e2, e3, ?_⟩
  rw [List.getD_eq_getElem?_getD]
  simp [show j < n from by omega]

theorem wpList_copy_ent {P : Program} {w : World} {ops : Array Oper} {rest : List Oper} {o : Oper} {a : Act} {Q : Exit → Act → World → Prop} (hgd : o.guard = none) (d s : Operand) (dT sT : TypeId)
    (ho : o.op = .call { callee := .builtin .copy, args := #[d, s], argTypes := #[dT, sT] }) (elem : TypeId) (hu : P.underlying dT = some (.slice elem)) (hsz : (P.info? elem).map (·.size) = some 2)
    (g n c : Nat) (ao : Option Addr) (hd : a.eval d = .slice (some ⟨g, 0, none⟩) n n) (hs : a.eval s = .slice ao n c)
    (cur : Array Value) (hg : w.heap[g]? = some (.cells cur elem (0, 0))) (hcur : cur.size = n * 2) (l : List MEntry) (hl : l.length = n) (B : Nat) (hr : RdS 2 rEntry B w ao l) (hm : n ≤ maxLen)
    (h : ∀ w', ownS 2 elem oEntry w' (.slice (some ⟨g, 0, none⟩) n n) l [g] → Turn [g] w w' → wpList P ops Q rest (a.put o.dst (goInt n)) w') : wpList P ops Q (o :: rest) a w := by
  by_cases h0 : n = 0
  · subst h0
    have hnil : l = [] := List.eq_nil_of_length_eq_zero hl
    subst hnil
    refine wpList_plain hgd fun K hK => ?_
    have hrun := run_copy_none' (P := P) w dT sT o.type elem 2 (some ⟨g, 0, none⟩) ao 0 c hu hsz
    unfold Oper.wp
    simp [execOp, ho, resolve, invoke, builtin, hd, hs, hrun, Result.andThen]
    refine hK _ _ (h w ?_ (Turn.refl _ _))
    exact ownS_ents (css := []) rfl (by simp [maxLen]) rfl (fun _ hc => by cases hc) (B := B) (w0 := w) (fun j hj => by simp at hj) (by have : cur = #[] := Array.eq_empty_of_size_eq_zero (by omega); rw [this] at hg; simpa using hg)
  · obtain ⟨b, off, rfl, _⟩ := hr 0 (by omega)
    obtain ⟨css, c1, c2, c3, c4⟩ := hr.cells l.length (Nat.le_refl _)
    have hfl := flat_len c2
    rw [c1, hl] at hfl
    have hone : ∀ v ∈ css.flatten, v.oneCell' = true := by
      intro v hv
      obtain ⟨cs, hcs, hvc⟩ := List.mem_flatten.1 hv
      obtain ⟨j, hj, rfl⟩ := List.mem_iff_getElem.1 hcs
      obtain ⟨e1, _⟩ := c3 j (by omega) hj
      rw [e1] at hvc
      simp at hvc
      rcases hvc with rfl | rfl <;> rfl
    refine wpList_copy_rows hgd d s dT sT ho elem 2 hu hsz g 0 n n ⟨b, off, none⟩ n c hd hs cur elem hg css.flatten (by rw [hfl]; simp) ?_ (by omega) hone ?_
    · intro j v hv
      rw [Addr.add_lit]
      exact c4 j v hv
    · have e1 : cur.toList.take 0 ++ (css.flatten ++ cur.toList.drop (0 + css.flatten.length)) = css.flatten := by
        rw [List.take_zero, List.nil_append, List.drop_eq_nil_of_le (by rw [Array.length_toList, hcur, Nat.zero_add, hfl]; exact Nat.le_refl _), List.append_nil]
      rw [e1]
      have e2 : Nat.min n n = n := Nat.min_self n
      rw [e2]
      refine h _ (ownS_ents hl hm (by omega) c2 c3 (setRow_heap w g cur _ elem _ hg)) ⟨rfl, rfl, rfl, by simp [World.setRow], fun k _ hk => setRow_other w g k _ (fun e => hk (by simp [e]))⟩

/-- What is read of a list of entries, as the source of an append. -/
theorem Src.ents {P : Program} {w : World} {B : Nat} {a : Option Addr} {l : List MEntry} {tx e' : TypeId} {n c : Nat} (hk : P.underlying tx = some (.slice e')) (hn : l.length = n) (hr : RdS 2 rEntry B w a l) :
    ∃ css : List (List Value), css.length = l.length ∧ (∀ c, c ∈ css → c.length = 2) ∧ (∀ j, (h1 : j < l.length) → (h2 : j < css.length) → rEntry B w css[j] l[j]) ∧ Src P 2 tx (.slice a n c) n css.flatten w := by
  cases a with
  | none =>
    have hz : l = [] := by
      cases l with
      | nil => rfl
      | cons z r =>
        obtain ⟨_, _, h, _⟩ := hr 0 (by simp)
        cases h
    subst hz
    simp only [List.length_nil] at hn
    subst hn
    exact ⟨[], rfl, (fun _ h => by cases h), (fun _ h => by simp at h), Src.ofNil w hk c⟩
  | some ad =>
    by_cases h0 : n = 0
    · subst h0
      have hz : l = [] := List.eq_nil_of_length_eq_zero hn
      subst hz
      exact ⟨[], rfl, (fun _ h => by cases h), (fun _ h => by simp at h), Src.ofSlice w hk ad 0 c [] (by simp) (fun j u hu => by simp at hu) (fun u hu => by cases hu)⟩
    · obtain ⟨b, off, e, _⟩ := hr 0 (by omega)
      simp only [Option.some.injEq] at e
      subst e
      obtain ⟨css, c1, c2, c3, c4⟩ := hr.cells l.length (Nat.le_refl _)
      have hfl := flat_len c2
      refine ⟨css, c1, c2, c3, Src.ofSlice w hk ⟨b, off, none⟩ n c css.flatten (by rw [hfl, c1, hn]) (fun j u hu => by rw [Addr.add_lit]; exact c4 j u hu) ?_⟩
      intro v hv
      obtain ⟨cs, hcs, hvc⟩ := List.mem_flatten.1 hv
      obtain ⟨j, hj, rfl⟩ := List.mem_iff_getElem.1 hcs
      obtain ⟨e1, _⟩ := c3 j (by omega) hj
      rw [e1] at hvc
      simp at hvc
      rcases hvc with rfl | rfl <;> rfl

/-- A row of entries of one's own. -/
theorem ownS_row {w w0 : World} {base elem : Nat} {v : Value} {l : List MEntry} {css : List (List Value)} {B n : Nat} (hn : l.length = n) (h1 : css.length = l.length) (h2 : ∀ c, c ∈ css → c.length = 2) (h3 : ∀ j, (h1 : j < l.length) → (h2 : j < css.length) → rEntry B w0 css[j] l[j])
    (h : w.ownsRow base elem 2 v n css.flatten) : ownS 2 elem oEntry w v l v.ownBlock.toList := by
  subst hn
  rcases h.2 with ⟨rfl, h0⟩ | ⟨g, cap, cur, rfl, hb, hg, hnc, hm, hs, ht⟩
  · exact .inl ⟨rfl, List.eq_nil_of_length_eq_zero h0, rfl⟩
  · refine .inr ⟨g, cap, cur, List.replicate l.length [], rfl, hg, hnc, hm, hs, by simp, ?_, by simp [Value.ownBlock]⟩
    intro j hj
    have hj2 : j < css.length := by omega
    have e0 : (cur.toList.drop (j * 2)).take 2 = css[j] := by
      rw [← flat_part h2 hj2, ← ht]
      apply List.ext_getElem?
      intro i
      rw [List.getElem?_take, List.getElem?_take, List.getElem?_drop, List.getElem?_drop, List.getElem?_take]
      by_cases hi : i < 2
      · rw [if_pos hi, if_pos hi, if_pos (by omega)]
      · rw [if_neg hi, if_neg hi]
    rw [e0]
    obtain ⟨e1, e2, e3, _⟩ := h3 j hj hj2
    refine ⟨e1, e2, e3, ?_⟩
    rw [List.getD_eq_getElem?_getD]
    simp [hj]


/-- A disk of one's own: its cells' shapes. -/
theorem oDisk_cells {w : World} {cs : List Value} {m : MDisk} {F : List Nat} (h : oDisk w cs m F) : ∃ a0 c0 a1 c1 a2 c2 F0 F1 F2, cs = [.slice a0 m.fInodes.length c0, .slice a1 m.fNames.length c1, .slice a2 m.fSafe.length c2, .int .i64 m.fNext] ∧
    ownS 3 56 oInode w (.slice a0 m.fInodes.length c0) m.fInodes F0 ∧ ownS 2 61 oEntry w (.slice a1 m.fNames.length c1) m.fNames F1 ∧ ownS 2 61 oEntry w (.slice a2 m.fSafe.length c2) m.fSafe F2 ∧ (Lit.int .i64 m.fNext).wf = true ∧ F = F0 ++ F1 ++ F2 ++ [] := by
  obtain ⟨v0, F0, v1, F1, v2, F2, rfl, h0, h1, h2, h3, rfl⟩ := h
  obtain ⟨a0, c0, rfl, _⟩ := ownS.read oInode_good h0
  obtain ⟨a1, c1, rfl, _⟩ := ownS.read oEntry_good h1
  obtain ⟨a2, c2, rfl, _⟩ := ownS.read oEntry_good h2
  exact ⟨a0, c0, a1, c1, a2, c2, F0, F1, F2, rfl, h0, h1, h2, h3, rfl⟩

/-- The inode of one's own at a place is changed in one cell: the disk with it. -/
theorem oDisk_inode {w : World} {g c0 : Nat} {a1 a2 : Option Addr} {c1 c2 : Nat} {m : MDisk} {F0 F1 F2 : List Nat} (h0 : ownS 3 56 oInode w (.slice (some ⟨g, 0, none⟩) m.fInodes.length c0) m.fInodes F0) (h1 : ownS 2 61 oEntry w (.slice a1 m.fNames.length c1) m.fNames F1) (h2 : ownS 2 61 oEntry w (.slice a2 m.fSafe.length c2) m.fSafe F2)
    (h3 : (Lit.int .i64 m.fNext).wf = true) (hN : (F0 ++ F1 ++ F2 ++ []).Nodup) {p i : Nat} (hp : p < m.fInodes.length) (hi : i < 3) (u : Value) (f : MInode → MInode) (Fn : List Nat) (hFn : ∀ b, b ∈ Fn → b ∉ F0 ++ F1 ++ F2)
    (hm : ∀ cs Fk, oInode w cs m.fInodes[p] Fk → Fk.Nodup → ∃ G, oInode w (cs.set i u) (f m.fInodes[p]) G ∧ G.Nodup ∧ ∀ b, b ∈ G → b ∈ Fk ∨ b ∈ Fn) :
    ∃ F', oDisk (w.setCell ⟨g, p * 3 + i, none⟩ u) [.slice (some ⟨g, 0, none⟩) m.fInodes.length c0, .slice a1 m.fNames.length c1, .slice a2 m.fSafe.length c2, .int .i64 m.fNext] { m with fInodes := updI m.fInodes p f } F' ∧ F'.Nodup ∧ (∀ b, b ∈ F' → b ∈ F0 ++ F1 ++ F2 ∨ b ∈ Fn) ∧ g ∈ F0 := by
  rw [List.append_nil, List.append_assoc, List.nodup_append] at hN
  obtain ⟨n0, n1, n2⟩ := hN
  obtain ⟨G, g1, g2, g3, g4⟩ := ownS.cellPut oInode_good h0 n0 hp hi u (f m.fInodes[p]) Fn (fun b hb hb0 => hFn b hb (by simp [hb0])) hm
  have hT : Turn [g] w (w.setCell ⟨g, p * 3 + i, none⟩ u) := Turn.setCell (Turn.refl _ _) (by simp) _
  have hg1 : g ∉ F1 := fun h => n2 g g4 g (by simp [h]) rfl
  have hg2 : g ∉ F2 := fun h => n2 g g4 g (by simp [h]) rfl
  have e1 := ownS.frame (w' := w.setCell ⟨g, p * 3 + i, none⟩ u) oEntry_good h1 (fun b hb => hT.block b (ownS.lt oEntry_good h1 b hb) (by intro h; simp at h; subst h; exact hg1 hb))
  have e2 := ownS.frame (w' := w.setCell ⟨g, p * 3 + i, none⟩ u) oEntry_good h2 (fun b hb => hT.block b (ownS.lt oEntry_good h2 b hb) (by intro h; simp at h; subst h; exact hg2 hb))
  refine ⟨G ++ F1 ++ F2 ++ [], ⟨_, G, _, F1, _, F2, rfl, ?_, e1, e2, h3, rfl⟩, ?_, ?_, g4⟩
  · rw [updI_at hp]
    exact g1
  · rw [List.append_nil, List.append_assoc, List.nodup_append]
    refine ⟨g2, n1, fun a ha b hb hab => ?_⟩
    subst hab
    rcases g3 a ha with h | h
    · exact n2 a h a hb rfl
    · exact hFn a h (by simp at hb; simp; exact .inr hb)
  · intro b hb
    simp at hb ⊢
    rcases hb with h | h | h
    · rcases g3 b h with h | h
      · exact .inl (.inl h)
      · exact .inr h
    · exact .inl (.inr (.inl h))
    · exact .inl (.inr (.inr h))


theorem Bw.put4 {w : World} {b : Nat} {t : TypeId} {vs : List Value} (h : Bw w b t vs) (hl : vs.length = 4) (x0 x1 x2 x3 : Value) : Bw ((((w.setCell ⟨b, 0, none⟩ x0).setCell ⟨b, 1, none⟩ x1).setCell ⟨b, 2, none⟩ x2).setCell ⟨b, 3, none⟩ x3) b t [x0, x1, x2, x3] := by
  have h4 := (((h.put 0 x0).put 1 x1).put 2 x2).put 3 x3
  obtain ⟨y0, y1, y2, y3, rfl⟩ : ∃ y0 y1 y2 y3, vs = [y0, y1, y2, y3] := by
    match vs, hl with
    | [y0, y1, y2, y3], _ => exact ⟨y0, y1, y2, y3, rfl⟩
  exact h4
/-- The disk in its box, and the box for the answer. -/
def SpW (w : World) (W : World) (cs : List Value) (d : MDisk) : Prop :=
  Bw W (w.heap.size + 1 + 1) 27 cs ∧ rDisk W.heap.size W cs d ∧ Bw W (w.heap.size + 1) 27 [.slice none 0 0, .slice none 0 0, .slice none 0 0, .int .i64 0] ∧ Below w.heap.size w W
theorem SpW.step {w W W' : World} {cs : List Value} {d d' : MDisk} {x0 x1 x2 x3 : Value} (h : SpW w W cs d) (hl : cs.length = 4) (hx : Below W.heap.size W W') (hr : rDisk W'.heap.size W' [x0, x1, x2, x3] d') :
    SpW w ((((W'.setCell ⟨w.heap.size + 1 + 1, 0, none⟩ x0).setCell ⟨w.heap.size + 1 + 1, 1, none⟩ x1).setCell ⟨w.heap.size + 1 + 1, 2, none⟩ x2).setCell ⟨w.heap.size + 1 + 1, 3, none⟩ x3) [x0, x1, x2, x3] d' := by
  obtain ⟨h1, h2, h3, h4⟩ := h
  have hT := turn4 W' (w.heap.size + 1 + 1) x0 x1 x2 x3
  have hb := bthen h4 hx
  have hz : ((((W'.setCell ⟨w.heap.size + 1 + 1, 0, none⟩ x0).setCell ⟨w.heap.size + 1 + 1, 1, none⟩ x1).setCell ⟨w.heap.size + 1 + 1, 2, none⟩ x2).setCell ⟨w.heap.size + 1 + 1, 3, none⟩ x3).heap.size = W'.heap.size := by simp
  refine ⟨(h1.under hx).put4 hl x0 x1 x2 x3, ?_, (h3.under hx).turn hT (by simp), hb.trans (hT.below (fun k hk => by simp at hk; omega) hb.size)⟩
  rw [hz]
  exact rDisk_turn ((h1.under hx).dbox h2) hT hr


def Fit (m : MDisk) : Prop := wDisk m ≤ 60840
theorem fit_ok {m : MDisk} (h : diskOk m = true) : Fit m := by
  have := ok_weight h
  unfold Fit
  rw [wDisk_eq]
  omega
theorem fit_remove {m : MDisk} {s : ByteArray} (h : Fit m) : Fit (removeP m s) := by
  unfold removeP
  split
  · rename_i hc
    exact fit_ok (remove_ok (call_good hc).1)
  · exact h
theorem fit_create {m : MDisk} {s : ByteArray} (h : Fit m) : Fit (createP m s) := by
  unfold createP
  split
  · rename_i hc
    exact fit_ok hc.2
  · exact h
theorem fit_append {m : MDisk} {s : ByteArray} {b : List Int} (h : Fit m) : Fit (appendP m s b) := by
  unfold appendP
  split
  · rename_i hc
    exact fit_ok hc.2
  · exact h
theorem fit_sync {m : MDisk} {s : ByteArray} (h : Fit m) : Fit (syncP m s) := by
  unfold syncP
  split
  · have h1 := sumW_updI (l := m.fInodes) (k := fileAt m s) (f := sureI) (c := 0) (fun n => Nat.le_refl _)
    have h2 := updI_length (l := m.fInodes) (k := fileAt m s) (f := sureI)
    unfold Fit at h ⊢
    rw [wDisk_eq] at h ⊢
    simp only
    omega
  · exact h
theorem fit_rename {m : MDisk} {s t : ByteArray} (h : Fit m) : Fit (renameP m s t) := by
  unfold renameP
  split
  · rename_i hc
    unfold renameC at hc
    split at hc
    · rename_i ht
      exact fit_ok (rename_ok hc ht)
    · cases hc
  · exact h
theorem fit_syncDir {m : MDisk} (h : Fit m) : Fit (syncDirP m) := by
  unfold syncDirP
  split
  · rename_i hc
    exact fit_ok (syncDir_ok hc)
  · exact h
theorem fit_fall {m : MDisk} {k : Int} (h : Fit m) : Fit (fallP m k) := by
  unfold fallP
  split
  · rename_i hc
    have hw := ok_weight hc.1
    have h1 := keepD_weight { m with fNames := m.fSafe }
    rw [wDisk_eq { m with fNames := m.fSafe }] at h1
    unfold keepD at h1
    rw [wDisk_eq] at h1
    unfold Fit
    rw [wDisk_eq]
    have h2 := sumW_map_le (f := cutI k) (fun n => by unfold cutI wInode; simp; omega) (keepI { m with fNames := m.fSafe })
    simp only [List.length_map] at h1 ⊢
    omega
  · exact h
theorem fit_new : Fit ⟨[], [], [], 1⟩ := by simp [Fit, wDisk, sumW]
theorem Fit.small {m : MDisk} (h : Fit m) : wDisk m ≤ 1048576 := by unfold Fit at h; omega

def dZ : List Value := [.slice none 0 0, .slice none 0 0, .slice none 0 0, .int .i64 0]
/-- The disk in its box, the answer's box, the cursor. -/
structure DSt (w : World) (g br bd : Nat) (W : World) (cs : List Value) (m : MDisk) : Prop where
  d : Bw W bd 27 cs
  r : Bw W br 27 dZ
  o : ∃ F, oDisk W cs m F ∧ ∀ b, b ∈ F → w.heap.size ≤ b ∧ b ≠ bd ∧ b ≠ br
  f : Fit m
  c : CurOk W g
  t : Turn [g] w W
/-- Where the boxes lie. -/
structure DPl (w : World) (g br bd : Nat) : Prop where
  g : g < w.heap.size
  r : w.heap.size ≤ br
  d : w.heap.size ≤ bd
  n : br ≠ bd
section
variable {w : World} {g br bd : Nat} {W W' : World} {cs : List Value} {m : MDisk}
theorem DSt.read (h : DSt w g br bd W cs m) : rDisk W.heap.size W cs m := by obtain ⟨F, ho, _⟩ := h.o; exact oDisk_good.read ho
theorem DSt.cur (hp : DPl w g br bd) (h : DSt w g br bd W cs m) (hg : W.grownBy W' (some g)) (hc : CurOk W' g) : DSt w g br bd W' cs m := by
  have ht : Turn [g] W W' := Turn.ofGrown hg (fun k hk => by simp at hk; simp [hk])
  have h1 := hp.g
  have h2 := hp.r
  have h3 := hp.d
  refine ⟨h.d.turn ht (by simp; omega), h.r.turn ht (by simp; omega), ?_, h.f, hc, h.t.trans ht⟩
  obtain ⟨F, ho, hF⟩ := h.o
  refine ⟨F, oDisk_good.frame ho (fun b hb => ht.block b (oDisk_good.lt ho b hb) (fun e => ?_)), hF⟩
  have := (hF b hb).1
  simp at e
  omega
theorem DSt.drew (h : DSt w g br bd W cs m) : DSt w g br bd W.drew cs m :=
  ⟨h.d, h.r, by obtain ⟨F, ho, hF⟩ := h.o; exact ⟨F, oDisk_good.frame ho (fun b hb => rfl), hF⟩, h.f, h.c.below (Below.drew (Below.refl _ _)), h.t.drew⟩
theorem DSt.put {m' : MDisk} {x0 x1 x2 x3 : Value} (hp : DPl w g br bd) (h : DSt w g br bd W cs m) (hl : cs.length = 4) (hx : Below W.heap.size W W') (ho : ∃ F, oDisk W' [x0, x1, x2, x3] m' F ∧ ∀ b, b ∈ F → W.heap.size ≤ b) (hf : Fit m') :
    DSt w g br bd ((((W'.setCell ⟨bd, 0, none⟩ x0).setCell ⟨bd, 1, none⟩ x1).setCell ⟨bd, 2, none⟩ x2).setCell ⟨bd, 3, none⟩ x3) [x0, x1, x2, x3] m' := by
  have h1 := hp.g
  have h2 := hp.r
  have h3 := hp.d
  have h4 := hp.n
  have hT := turn4 W' bd x0 x1 x2 x3
  obtain ⟨F, ho, hF⟩ := ho
  have ld := h.d.lt
  have lr := h.r.lt
  have hz := h.t.size
  refine ⟨(h.d.under hx).put4 hl x0 x1 x2 x3, (h.r.under hx).turn hT (by simp; omega), ⟨F, oDisk_good.frame ho (fun b hb => hT.block b (oDisk_good.lt ho b hb) (fun e => ?_)), fun b hb => ?_⟩, hf, ?_, ?_⟩
  · have := hF b hb
    simp at e
    omega
  · have := hF b hb
    omega
  · have hc := h.c.below hx
    obtain ⟨a, n, cap, B, zs, e1, e2, e3, e4, ⟨i, q, e5, e6, e7⟩, e8⟩ := hc
    refine ⟨a, n, cap, B, zs, e1, e2, e3, e4.below (hT.below (fun k hk => by simp at hk; omega) (by have := hx.size; omega)), ⟨i, q, e5, e6, ?_⟩, by simpa using e8⟩
    rw [hT.block g e8 (by simp; omega)]
    exact e7
  · exact (h.t.trans (Turn.ofBelow hx)).join hT (fun k hk => by simp at hk; right; omega)
theorem CurOk.turn {b : Nat} (h : CurOk W g) (hT : Turn [b] W W') (hb : g < b) : CurOk W' g := by
  obtain ⟨a, n, cap, B, zs, e1, e2, e3, e4, ⟨i, q, e5, e6, e7⟩, e8⟩ := h
  refine ⟨a, n, cap, B, zs, e1, e2, e3, e4.below (hT.below (fun k hk => by simp at hk; omega) (by omega)), ⟨i, q, e5, e6, ?_⟩, Nat.lt_of_lt_of_le e8 hT.size⟩
  rw [hT.block g e8 (by simp; omega)]
  exact e7
theorem DSt.leave (hp : DPl w g br bd) (h : DSt w g br bd W cs m) (hT : Turn [br] W W') : (∃ F, oDisk W' cs m F ∧ ∀ b, b ∈ F → w.heap.size ≤ b) ∧ Fit m ∧ CurOk W' g ∧ Turn [g] w W' := by
  have h1 := hp.g
  have h2 := hp.r
  obtain ⟨F, ho, hF⟩ := h.o
  refine ⟨⟨F, oDisk_good.frame ho (fun b hb => hT.block b (oDisk_good.lt ho b hb) (fun e => ?_)), fun b hb => (hF b hb).1⟩, h.f, h.c.turn hT (by omega), h.t.join hT (fun k hk => by simp at hk; right; omega)⟩
  have := (hF b hb).2.2
  simp at e
  exact this e
end

end Go.Proofs.Ytmbobjhplkpfoaa

namespace Go.Proofs.Ytmbobjhplkpfoaa
open Go.RowKit

theorem run_append_two {P : Program} (w : World) (base : Nat) (t tx ty e : TypeId) (i : TypeInfo) (z : Value) (size bytes : Nat) (ht : P.underlying t = some (.slice e)) (hi : P.info? e = some i) (hz : i.zero = some z)
    (hsize : i.size = size) (hby : i.bytes = bytes) (hzs : z.cells.size = size)
    (v : Value) (n : Nat) (xs : List Value) (hown : w.ownsRow base e size v n xs) (x : Value) (m : Nat) (news : List Value) (hs : Src P size tx x m news w) (hm0 : 0 < m)
    (h63 : n + m ≤ maxLen) (hbytes : (n + m) * bytes ≤ 140737488355328) (hbase : base ≤ w.heap.size) :
    ∃ v' w', (Builtin.append_ #[t, tx] ty #[v, x]).run P w = .ok v' w' ∧ w'.ownsRow base e size v' (n + m) (xs ++ news) ∧ w.grownBy w' v.ownBlock ∧ (v'.ownBlock = v.ownBlock ∨ v'.ownBlock = some w.heap.size) ∧
      ((∃ g cap, v = .slice (some ⟨g, 0, none⟩) n cap ∧ w' = w.setCells g (n * size) news) ∨ Below w.heap.size w w') := by
  subst hsize
  subst hby
  have hl := hs.newsLen
  have hsmall : n + m ≤ 9223372036854775807 := by simp only [maxLen] at h63; omega
  have hlen : (xs ++ news).length = (n + m) * i.size := by rw [List.length_append, hown.1, hl, Nat.add_mul]
  have grown : ∀ (old : Nat), old < n + m → ∀ (row : Option Nat),
      (w.drew.alloc (.cells ((xs ++ news).toArray ++ Builtin.zeroCells z.cells (grownCap w (n + m) old e - (n + m))) e)).ownsRow base e i.size
        (.slice (some ⟨w.heap.size, 0, none⟩) (n + m) (grownCap w (n + m) old e)) (n + m) (xs ++ news) ∧
      w.grownBy (w.drew.alloc (.cells ((xs ++ news).toArray ++ Builtin.zeroCells z.cells (grownCap w (n + m) old e - (n + m))) e)) row := by
    intro old ho row
    have hge := grownCap_ge w (n + m) old e
    have hcm : grownCap w (n + m) old e ≤ maxLen := grownCap_le_maxLen w (n + m) old e h63
    refine ⟨⟨hlen, .inr ⟨w.heap.size, _, _, rfl, hbase, heap_alloc_new w.drew _, hge, hcm, ?_, ?_⟩⟩, ⟨rfl, rfl, rfl, by simp, fun k hk _ => Go.heap_alloc_old w.drew _ hk⟩⟩
    · rw [Array.size_append, List.size_toArray, size_zeroCells, hzs, hlen, ← Nat.add_mul]
      congr 1
      omega
    · rw [Array.toList_append, ← hlen]
      exact List.take_left
  rcases hown.2 with ⟨rfl, rfl⟩ | ⟨g, cap, cur, rfl, hbg, hg, hnc, hcm, hcs, htake⟩
  · have hx : xs = [] := List.eq_nil_of_length_eq_zero (by simpa using hown.1)
    subst hx
    have hr := run_append_grow_src (P := P) w t tx ty e i z ht hi hz none 0 0 [] (run_firstCells_none w.drew i.size 0 0 0) x m news hs (by omega) (by omega) (growslice_fits (by omega) hbytes)
    have hgr := grown 0 (by omega) (Value.ownBlock (.slice none 0 0))
    exact ⟨_, _, hr, hgr.1, hgr.2, .inr rfl, .inr (Below.alloc (Below.drew (Below.refl _ _)) (Nat.le_refl _) _)⟩
  · by_cases hroom : n + m ≤ cap
    · have hfit : n * i.size + news.length ≤ cur.size := by rw [hl, hcs, ← Nat.add_mul]; exact Nat.mul_le_mul_right _ hroom
      have hr := run_append_room_src (P := P) w t tx ty e i ht hi g 0 n cap x m news hs hroom
        (fun j hj => by rw [Nat.zero_add, cell_of_row w g _ cur e (0, 0) hg, Array.getElem?_eq_getElem (by omega)]; rfl) (fun j hj => frozen_of_row w g _ cur e hg)
      rw [Nat.zero_add] at hr
      obtain ⟨⟨cur', h2, h3, h4⟩, h5⟩ := setCells_row g e news (n * i.size) w cur hg hfit
      refine ⟨_, _, hr, ⟨hlen, .inr ⟨g, cap, cur', rfl, hbg, h2, hroom, hcm, by rw [h3, hcs], ?_⟩⟩, h5, .inl rfl, .inl ⟨g, cap, rfl, rfl⟩⟩
      rw [Nat.add_mul, ← hl, h4, htake]
    · have holds : (Builtin.firstCells i.size n (.slice (some ⟨g, 0, none⟩) n cap)).run P w.drew = .ok xs.toArray w.drew :=
        run_firstCells_some w.drew i.size n ⟨g, 0, none⟩ n cap xs hown.1 (by simpa using hown.cells (g := g) rfl)
      have hr := run_append_grow_src (P := P) w t tx ty e i z ht hi hz (some ⟨g, 0, none⟩) n cap xs holds x m news hs (by omega) (by omega) (growslice_fits (by omega) hbytes)
      have hgr := grown cap (by omega) (Value.ownBlock (.slice (some ⟨g, 0, none⟩) n cap))
      exact ⟨_, _, hr, hgr.1, hgr.2, .inr rfl, .inr (Below.alloc (Below.drew (Below.refl _ _)) (Nat.le_refl _) _)⟩

theorem step_append_two {P : Program} (w : World) {ops : Array Oper} {o : Oper} {a : Act} {K : Act → World → Prop} {Q : Exit → Act → World → Prop} {E : Prop} (hgd : o.guard = none) (s x : Operand) (t tx : TypeId)
    (ho : o.op = .call { callee := .builtin .append, args := #[s, x], argTypes := #[t, tx] })
    (base : Nat) (e : TypeId) (i : TypeInfo) (z : Value) (size bytes : Nat) (ht : P.underlying t = some (.slice e)) (hi : P.info? e = some i) (hz : i.zero = some z)
    (hsize : i.size = size) (hby : i.bytes = bytes) (hzs : z.cells.size = size)
    (v : Value) (n : Nat) (xs : List Value) (hs : a.eval s = v) (hown : w.ownsRow base e size v n xs)
    (y : Value) (hy : a.eval x = y) (m : Nat) (news : List Value) (hx : Src P size tx y m news w) (hm0 : 0 < m)
    (h63 : n + m ≤ maxLen) (hbytes : (n + m) * bytes ≤ 140737488355328) (hbase : base ≤ w.heap.size)
    (h : ∀ v' w', w'.ownsRow base e size v' (n + m) (xs ++ news) → w.grownBy w' v.ownBlock → (v'.ownBlock = v.ownBlock ∨ v'.ownBlock = some w.heap.size) →
      ((∃ g cap, v = .slice (some ⟨g, 0, none⟩) n cap ∧ w' = w.setCells g (n * size) news) ∨ Below w.heap.size w w') → K (a.put o.dst v') w') :
    if Region.wanted o (yielded ops a.tmps) = true then Oper.wp P o a w K Q else E := by
  have hw : Region.wanted o (yielded ops a.tmps) = true := by simp [Region.wanted, hgd]
  rw [if_pos hw]
  subst hy
  obtain ⟨v', w', hr, h2, h3, h4, h5⟩ := run_append_two (P := P) w base t tx o.type e i z size bytes ht hi hz hsize hby hzs v n xs hown (a.eval x) m news hx hm0 h63 hbytes hbase
  unfold Oper.wp execOp
  simp only [ho, resolve, invoke, builtin, Sem.run_bind, Sem.run_pure, Result.andThen_ok, List.map_toArray, List.map_cons, List.map_nil, hs, hr]
  exact h v' w' h2 h3 h4 h5

/-- What the rows of one's own are made of. -/
theorem own_typed {α : Type} {size : Nat} {e : TypeId} {O : ORep α} {w : World} {v : Value} {l : List α} {F : List Nat} (h : ownS size e O w v l F) : ∀ b, v.ownBlock = some b → b ∈ F ∧ ∃ cur, w.heap[b]? = some (.cells cur e (0, 0)) := by
  rcases h with ⟨rfl, _, _⟩ | ⟨g, cap, cur, Fs, rfl, hg, _, _, _, _, _, rfl⟩
  · intro b hb; simp [Value.ownBlock] at hb
  · intro b hb; simp [Value.ownBlock] at hb; subst hb; exact ⟨by simp, cur, hg⟩
theorem inode_typed {w : World} {v : Value} {l : List MInode} {F : List Nat} (h : ownS 3 56 oInode w v l F) : ∀ b, b ∈ F → ∃ cur e, w.heap[b]? = some (.cells cur e (0, 0)) ∧ e ≠ 61 := by
  rcases h with ⟨rfl, _, rfl⟩ | ⟨g, cap, cur, Fs, rfl, hg, _, _, _, hfl, heach, rfl⟩
  · intro b hb; cases hb
  · intro b hb
    rcases List.mem_cons.1 hb with rfl | hb
    · exact ⟨cur, _, hg, by decide⟩
    · obtain ⟨j, hj, hjb⟩ := of_mem_flatten hb
      obtain ⟨v1, F1, _, _, ⟨ho, _, hF1⟩, _, hF⟩ := heach j (by omega)
      rw [hF, List.append_nil, hF1] at hjb
      rcases ho.2 with ⟨rfl, _⟩ | ⟨g1, cap1, cur1, rfl, _, hg1, _⟩
      · simp [Value.ownBlock] at hjb
      · simp [Value.ownBlock] at hjb
        subst hjb
        exact ⟨cur1, _, hg1, by decide⟩
theorem entry_nodup {w : World} {v : Value} {l : List MEntry} {F : List Nat} (h : ownS 2 61 oEntry w v l F) : F.Nodup := by
  rcases h with ⟨rfl, _, rfl⟩ | ⟨g, cap, cur, Fs, rfl, hg, _, _, _, hfl, heach, rfl⟩
  · simp
  · have hz : Fs.flatten = [] := by
      cases hF : Fs.flatten with
      | nil => rfl
      | cons x r =>
        obtain ⟨j, hj, hjb⟩ := of_mem_flatten (show x ∈ Fs.flatten by rw [hF]; simp)
        obtain ⟨_, _, _, he⟩ := heach j (by omega)
        rw [he] at hjb
        cases hjb
    rw [hz]
    simp

/-- A row of entries into which one entry is written somewhere: entries still. -/
theorem leafE_set {w : World} {a : Option Addr} {c : Nat} {l : List MEntry} {F : List Nat} {g n : Nat} {cur : Array Value} {x : MEntry} (ho : ownS 2 61 oEntry w (.slice a l.length c) l F) (hx : x.fName.size ≤ 9223372036854775807 ∧ (Lit.int .i64 x.fId).wf = true) (hg : w.heap[g]? = some (.cells cur 61 (0, 0))) (hfit : n * 2 + 2 ≤ cur.size) :
    ∃ l', l'.length = l.length ∧ LeafL 2 rEntry w.heap.size (w.setCells g (n * 2) [.string x.fName, .int .i64 x.fId]) a c l' ∧ sumW wEntry l' ≤ sumW wEntry l + x.fName.size := by
  have hlf := ownS.leaf oEntry_good ho
  by_cases hag : ∃ o, a = some ⟨g, o, none⟩
  · obtain ⟨o, rfl⟩ := hag
    have ho0 : l ≠ [] → o = 0 := by
      intro hne
      rcases ho with ⟨h, hl, _⟩ | ⟨g2, cap2, cur2, Fs2, h, _⟩
      · exact absurd hl hne
      · injection h with h1; injection h1 with h1; injection h1
    refine ⟨l.set n x, by simp, ⟨by simpa using hlf.1, hlf.2.1, fun j hj => ?_⟩, ?_⟩
    · have hj' : j < l.length := by simpa using hj
      have hoz : o = 0 := ho0 (by intro h; subst h; simp at hj')
      subst hoz
      obtain ⟨b, off, he, hB, cs, h1, h2, h3⟩ := hlf.2.2 j hj'
      injection he with he
      injection he with he1 he2
      subst he1
      subst he2
      have hin := World.cell?_setCells_in g [.string x.fName, .int .i64 x.fId] (n * 2) w (fun k hk => by
        rw [cell_of_row w g _ cur _ (0, 0) hg, Array.getElem?_eq_getElem (by simp at hk; omega)]; rfl)
      by_cases hjn : j = n
      · subst hjn
        refine ⟨g, 0, rfl, hB, [.string x.fName, .int .i64 x.fId], rfl, ?_, ?_⟩
        · intro i u hu
          match i, hu with
          | 0, hu => simp at hu; subst hu; have := hin 0 (by simp); simpa using this
          | 1, hu => simp at hu; subst hu; have := hin 1 (by simp); simpa using this
        · have : (l.set j x)[j] = x := by simp
          rw [this]
          exact ⟨rfl, hx.1, hx.2, trivial⟩
      · refine ⟨g, 0, rfl, hB, cs, h1, ?_, ?_⟩
        · intro i u hu
          have hi : i < 2 := by rw [← h1]; exact (List.getElem?_eq_some_iff.1 hu).1
          rw [World.cell?_setCells_out g _ _ w ⟨g, 0 + j * 2 + i, none⟩ (fun _ _ => by simp; omega)]
          exact h2 i u hu
        · have : (l.set n x)[j] = l[j] := List.getElem_set_ne (fun h => hjn h.symm) _
          rw [this]
          obtain ⟨e1, e2, e3, _⟩ := h3
          exact ⟨e1, e2, e3, trivial⟩
    · have key : ∀ (q : List MEntry) (k : Nat), sumW wEntry (q.set k x) ≤ sumW wEntry q + x.fName.size := by
        intro q
        induction q with
        | nil => intro k; simp [sumW]
        | cons y r ih =>
          intro k
          cases k with
          | zero => simp only [List.set_cons_zero, sumW, wEntry]; omega
          | succ k => have := ih k; simp only [List.set_cons_succ, sumW]; omega
      exact key l n
  · refine ⟨l, rfl, ⟨hlf.1, hlf.2.1, fun j hj => ?_⟩, by omega⟩
    obtain ⟨b, off, he, hB, cs, h1, h2, h3⟩ := hlf.2.2 j hj
    have hbg : b ≠ g := fun h => hag ⟨off, by rw [he, h]⟩
    refine ⟨b, off, he, hB, cs, h1, fun i u hu => ?_, ?_⟩
    · rw [World.cell?_setCells_out g _ _ w ⟨b, _, none⟩ (fun h _ => absurd h hbg)]
      exact h2 i u hu
    · obtain ⟨e1, e2, e3, _⟩ := h3
      exact ⟨e1, e2, e3, trivial⟩


/-- The disk in its box, as it is read. -/
structure ESt (w : World) (g br bd : Nat) (W : World) (cs : List Value) (m : MDisk) : Prop where
  d : Bw W bd 27 cs
  r : Bw W br 27 dZ
  k : rDisk W.heap.size W cs m
  s : wDisk m ≤ 1048576
  c : CurOk W g
  t : Turn [g] w W
section
variable {w : World} {g br bd : Nat} {W W' : World} {cs : List Value} {m : MDisk} {a0 a1 a2 : Option Addr} {n0 c0 n1 c1 n2 c2 : Nat} {z : Int}
theorem DSt.e (h : DSt w g br bd W cs m) : ESt w g br bd W cs m := ⟨h.d, h.r, h.read, h.f.small, h.c, h.t⟩
theorem DSt.rows (h : DSt w g br bd W [.slice a0 n0 c0, .slice a1 n1 c1, .slice a2 n2 c2, .int .i64 z] m) :
    n0 = m.fInodes.length ∧ n1 = m.fNames.length ∧ n2 = m.fSafe.length ∧ z = m.fNext ∧ ∃ F0 F1 F2, ownS 3 56 oInode W (.slice a0 n0 c0) m.fInodes F0 ∧ ownS 2 61 oEntry W (.slice a1 n1 c1) m.fNames F1 ∧ ownS 2 61 oEntry W (.slice a2 n2 c2) m.fSafe F2 ∧ (Lit.int .i64 m.fNext).wf = true ∧ ∀ b, b ∈ F0 ++ F1 ++ F2 → w.heap.size ≤ b ∧ b ≠ bd ∧ b ≠ br := by
  obtain ⟨F, ho, hF⟩ := h.o
  obtain ⟨a0', c0', a1', c1', a2', c2', F0, F1, F2, hc, h0, h1, h2, h3, rfl⟩ := oDisk_cells ho
  injection hc with e0 hc
  injection hc with e1 hc
  injection hc with e2 hc
  injection hc with e3 _
  injection e0 with x0 y0 z0
  injection e1 with x1 y1 z1
  injection e2 with x2 y2 z2
  injection e3 with _ e3
  refine ⟨y0, y1, y2, e3, F0, F1, F2, ?_, ?_, ?_, h3, fun b hb => hF b (by simpa using hb)⟩
  · rw [x0, y0, z0]; exact h0
  · rw [x1, y1, z1]; exact h1
  · rw [x2, y2, z2]; exact h2
theorem dbox4 {t : TypeId} (h : Bw W bd t [.slice a0 n0 c0, .slice a1 n1 c1, .slice a2 n2 c2, .int .i64 z]) : DBox W bd := ⟨t, _, _, _, _, _, _, _, _, _, _, h⟩
theorem turn_one (w : World) (b i : Nat) (u : Value) : Turn [b] w (w.setCell ⟨b, i, none⟩ u) := (Turn.refl _ _).setCell (by simp) _
/-- One cell of the disk's box is written. -/
theorem ESt.put {i : Nat} {u : Value} {cs' : List Value} {m' : MDisk} (hp : DPl w g br bd) (hd : Bw W bd 27 [.slice a0 n0 c0, .slice a1 n1 c1, .slice a2 n2 c2, .int .i64 z]) (hr : Bw W br 27 dZ) (hk : rDisk W.heap.size W cs' m') (hs : wDisk m' ≤ 1048576) (hc : CurOk W g) (ht : Turn [g] w W) (hcs : [.slice a0 n0 c0, .slice a1 n1 c1, .slice a2 n2 c2, .int .i64 z].set i u = cs') :
    ESt w g br bd (W.setCell ⟨bd, i, none⟩ u) cs' m' := by
  have h1 := hp.g
  have h2 := hp.r
  have h3 := hp.d
  have h4 := hp.n
  have hT := turn_one W bd i u
  refine ⟨by rw [← hcs]; exact hd.put i u, hr.turn hT (by simp; omega), ?_, hs, hc.turn hT (by omega), ht.join hT (fun k hk => by simp at hk; right; omega)⟩
  have hz : (W.setCell ⟨bd, i, none⟩ u).heap.size = W.heap.size := by simp
  rw [hz]
  exact rDisk_turn (dbox4 hd) hT hk
theorem ESt.leave (hp : DPl w g br bd) (h : ESt w g br bd W cs m) (hT : Turn [br] W W') (hz : W'.heap.size = W.heap.size) : rDisk W'.heap.size W' cs m ∧ wDisk m ≤ 1048576 ∧ CurOk W' g ∧ Turn [g] w W' := by
  have h1 := hp.g
  have h2 := hp.r
  refine ⟨?_, h.s, h.c.turn hT (by omega), h.t.join hT (fun k hk => by simp at hk; right; omega)⟩
  rw [hz]
  exact rDisk_turn (Bw.dzero h.r) hT h.k
theorem DSt.next (h : DSt w g br bd W [.slice a0 n0 c0, .slice a1 n1 c1, .slice a2 n2 c2, .int .i64 z] m) {j : Int} (hj : (Lit.int .i64 j).wf = true) : rDisk W.heap.size W [.slice a0 n0 c0, .slice a1 n1 c1, .slice a2 n2 c2, .int .i64 j] { m with fNext := j } ∧ wDisk { m with fNext := j } ≤ 1048576 := by
  obtain ⟨b0, d0, b1, d1, b2, d2, hc, h0, h1, h2, h3, _⟩ := h.read
  injection hc with e0 hc
  injection hc with e1 hc
  injection hc with e2 hc
  exact ⟨⟨b0, d0, b1, d1, b2, d2, by rw [e0, e1, e2], h0, h1, h2, hj, trivial⟩, h.f.small⟩
theorem DSt.unsafe (h : DSt w g br bd W [.slice a0 n0 c0, .slice a1 n1 c1, .slice a2 n2 c2, .int .i64 z] m) : rDisk W.heap.size W [.slice a0 n0 c0, .slice a1 n1 c1, .slice none 0 0, .int .i64 z] { m with fSafe := [] } ∧ wDisk { m with fSafe := [] } ≤ 1048576 := by
  obtain ⟨b0, d0, b1, d1, b2, d2, hc, h0, h1, h2, h3, _⟩ := h.read
  injection hc with e0 hc
  injection hc with e1 hc
  injection hc with e2 hc
  injection hc with e3 _
  refine ⟨⟨b0, d0, b1, d1, none, 0, by rw [e0, e1, e3]; rfl, h0, h1, ⟨Nat.le_refl _, by omega, fun j hj => by cases hj⟩, h3, trivial⟩, ?_⟩
  have := h.f
  unfold Fit at this
  rw [wDisk_eq] at this ⊢
  simp only [List.length_nil, sumW]
  omega
theorem setCells_len (g : Nat) (e : TypeId) : ∀ (news : List Value) (o : Nat) (w : World) (cur : Array Value), w.heap[g]? = some (.cells cur e (0, 0)) → ∃ cur' : Array Value, (w.setCells g o news).heap[g]? = some (.cells cur' e (0, 0)) ∧ cur'.size = cur.size
  | [], o, w, cur, hg => ⟨cur, hg, rfl⟩
  | u :: r, o, w, cur, hg => by
    obtain ⟨cur', h2, h3⟩ := setCells_len g e r (o + 1) (w.setCell ⟨g, o, none⟩ u) (cur.setIfInBounds o u) (heap_setCell_same w g o cur e u hg)
    exact ⟨cur', h2, by simpa using h3⟩
/-- One more name. -/
theorem DSt.push (hp : DPl w g br bd) (h : DSt w g br bd W [.slice a0 n0 c0, .slice a1 n1 c1, .slice a2 n2 c2, .int .i64 z] m) : n1 ≤ 1000000 ∧ ∃ xs, W.ownsRow 0 61 2 (.slice a1 n1 c1) n1 xs ∧
    ∀ (v' : Value) (W' : World) (s : ByteArray) (x : Int), s.size ≤ 20 → (Lit.int .i64 x).wf = true → W'.ownsRow 0 61 2 v' (n1 + 1) (xs ++ [.string s, .int .i64 x]) → W.grownBy W' (Value.ownBlock (.slice a1 n1 c1)) → (v'.ownBlock = Value.ownBlock (.slice a1 n1 c1) ∨ v'.ownBlock = some W.heap.size) →
      ((∃ gg cap, Value.slice a1 n1 c1 = .slice (some ⟨gg, 0, none⟩) n1 cap ∧ W' = W.setCells gg (n1 * 2) [.string s, .int .i64 x]) ∨ Below W.heap.size W W') →
      ∃ (r : Option Addr) (q : Nat) (m' : MDisk), v' = .slice r (n1 + 1) q ∧ Bw W' bd 27 [.slice a0 n0 c0, .slice a1 n1 c1, .slice a2 n2 c2, .int .i64 z] ∧ Bw W' br 27 dZ ∧ rDisk W'.heap.size W' [.slice a0 n0 c0, .slice r (n1 + 1) q, .slice a2 n2 c2, .int .i64 z] m' ∧ wDisk m' ≤ 1048576 ∧ CurOk W' g ∧ Turn [g] w W' := by
  have hfit := h.f
  unfold Fit at hfit
  rw [wDisk_eq] at hfit
  obtain ⟨e0, e1, e2, e3, F0, F1, F2, hI, hN, hS, hzw, hF⟩ := h.rows
  have hn1 := hp.g
  have hn2 := hp.r
  have hn3 := hp.d
  refine ⟨by omega, ?_⟩
  obtain ⟨xs, hxs, hpush⟩ := ownS.push oEntry_good hN (entry_nodup hN)
  rw [← e1] at hxs
  refine ⟨xs, hxs, ?_⟩
  intro v' W' s x hs hx hown hgr hat htwo
  obtain ⟨r, q, rfl⟩ := own_slice hown
  obtain ⟨F', ho', _, _⟩ := hpush W' _ _ ⟨s, x⟩ [] (by rw [← e1]; exact hown) hgr hat ⟨rfl, (show s.size ≤ 9223372036854775807 by omega), hx, rfl⟩ (by simp) (fun b hb => by cases hb)
  have hblk : ∀ b, Value.ownBlock (.slice a1 n1 c1) = some b → w.heap.size ≤ b ∧ b ≠ bd ∧ b ≠ br := fun b hb => hF b (by have := (own_typed hN b hb).1; simp [this])
  have hT1 : Turn (Value.ownBlock (.slice a1 n1 c1)).toList W W' := turnOwn hgr
  have hnI : ∀ b, b ∈ F0 → b ∉ (Value.ownBlock (.slice a1 n1 c1)).toList := by
    intro b hb hm
    have hm : Value.ownBlock (.slice a1 n1 c1) = some b := by simpa using hm
    obtain ⟨cur, hc1⟩ := (own_typed hN b hm).2
    obtain ⟨cur2, e, hc2, hne⟩ := inode_typed hI b hb
    rw [hc1] at hc2
    injection hc2 with hc2
    injection hc2 with _ hc2
    exact hne hc2.symm
  have hI' := ownS.frame (w' := W') oInode_good hI (fun b hb => hT1.block b (ownS.lt oInode_good hI b hb) (hnI b hb))
  have hsafe : ∃ S', S'.length = m.fSafe.length ∧ LeafL 2 rEntry W'.heap.size W' a2 c2 S' ∧ sumW wEntry S' ≤ sumW wEntry m.fSafe + s.size := by
    rcases htwo with ⟨gg, cap, hv, rfl⟩ | hb
    · obtain ⟨cur, hgc⟩ := (own_typed hN gg (by rw [hv]; rfl)).2
      have hfit2 : n1 * 2 + 2 ≤ cur.size := by
        rcases hown.2 with ⟨_, h0⟩ | ⟨g3, cap3, cur3, h3, _, hg3, hle3, _, hs3, _⟩
        · omega
        · injection h3 with h3 _ h5
          rw [h3] at hat
          have hg : g3 = gg := by
            rcases hat with h6 | h6
            · rw [hv] at h6
              simpa [Value.ownBlock] using h6
            · have h7 : g3 = W.heap.size := by simpa [Value.ownBlock] using h6
              rw [h7] at hg3
              have := (Array.getElem?_eq_some_iff.1 hg3).1
              rw [size_setCells_w] at this
              omega
          subst hg
          have hzz : cur3.size = cur.size := by
            have hk := setCells_len g3 _ [.string s, .int .i64 x] (n1 * 2) W cur hgc
            obtain ⟨cur4, h8, h9⟩ := hk
            rw [h8] at hg3
            injection hg3 with hg3
            injection hg3 with hg3
            rw [← hg3, h9]
          omega
      have := leafE_set (x := ⟨s, x⟩) (n := n1) (g := gg) (cur := cur) (by rw [← e2]; exact hS) ⟨by show s.size ≤ _; omega, hx⟩ hgc hfit2
      obtain ⟨l', hl', hlf, hsw⟩ := this
      exact ⟨l', hl', by rw [size_setCells_w]; exact hlf, hsw⟩
    · refine ⟨m.fSafe, rfl, ?_, by omega⟩
      have hlf := ownS.leaf oEntry_good (by rw [← e2]; exact hS)
      exact LeafL.mono rEntry_good (LeafL.below rEntry_good hlf hb) hb.size
  obtain ⟨S', hSl, hSr, hSw⟩ := hsafe
  refine ⟨r, q, { m with fNames := m.fNames ++ [⟨s, x⟩], fSafe := S' }, rfl, ?_, ?_, ?_, ?_, ?_, ?_⟩
  · exact h.d.turn hT1 (fun hm => (hblk bd (by simpa using hm)).2.1 rfl)
  · exact h.r.turn hT1 (fun hm => (hblk br (by simpa using hm)).2.2 rfl)
  · obtain ⟨a0', c0', hv0, hl0⟩ := ownS.read oInode_good hI'
    obtain ⟨a1', c1', hv1, hl1⟩ := ownS.read oEntry_good ho'
    injection hv0 with x0 y0 z0
    injection hv1 with x1 y1 z1
    refine ⟨a0', c0', a1', c1', a2, c2, ?_, hl0, hl1, hSr, hzw, trivial⟩
    show _ = [Value.slice a0' m.fInodes.length c0', .slice a1' (m.fNames ++ [(⟨s, x⟩ : MEntry)]).length c1', .slice a2 S'.length c2, .int .i64 m.fNext]
    rw [x0, y0, z0, x1, y1, z1, hSl, e2, e3]
  · have hsum : sumW wEntry (m.fNames ++ [⟨s, x⟩]) = sumW wEntry m.fNames + s.size := by
      have key : ∀ l : List MEntry, sumW wEntry (l ++ [⟨s, x⟩]) = sumW wEntry l + s.size := by
        intro l
        induction l with
        | nil => simp [sumW, wEntry]
        | cons y r ih => simp only [List.cons_append, sumW, ih]; omega
      exact key _
    rw [wDisk_eq]
    simp only [List.length_append, List.length_cons, List.length_nil]
    rw [hsum]
    omega
  · obtain ⟨a, n, cap, B, zs, f1, f2, f3, f4, ⟨i, qq, f5, f6, f7⟩, f8⟩ := h.c
    have hz := h.t.size
    refine ⟨a, n, cap, B, zs, f1, f2, f3, f4.below (hT1.below (fun k hk => by have := (hblk k (by simpa using hk)).1; omega) (by omega)), ⟨i, qq, f5, f6, ?_⟩, Nat.lt_of_lt_of_le f8 hT1.size⟩
    rw [hT1.block g f8 (fun hm => by have := (hblk g (by simpa using hm)).1; omega)]
    exact f7
  · exact h.t.join hT1 (fun k hk => .inr (hblk k (by simpa using hk)).1)
theorem leafB_cell {B : Nat} {p : Addr} {y : Int} {u : Value} {a : Option Addr} {c : Nat} {zs : List Int} (hc : W.cell? p = some (.int .i64 y)) (hl : LeafB B W a c zs) : LeafB B (W.setCell p u) a c zs := by
  refine ⟨hl.1, hl.2.1, fun j hj => ?_, hl.2.2.2⟩
  obtain ⟨b, off, e, hB, h1⟩ := hl.2.2.1 j hj
  refine ⟨b, off, e, hB, ?_⟩
  rw [World.cell?_setCell_other _ _ _ _ (fun h => by rw [h, h1] at hc; cases hc)]
  exact h1
theorem leafE_cell {B gI : Nat} {y : Int} {u : Value} {ad : Option Addr} {k q : Nat} {a : Option Addr} {c : Nat} {l : List MEntry} (hc : W.cell? ⟨gI, 2, none⟩ = some (.int .i64 y)) (hd : W.cell? ⟨gI, 1, none⟩ = some (.slice ad k q)) (hl : LeafL 2 rEntry B W a c l) : LeafL 2 rEntry B (W.setCell ⟨gI, 2, none⟩ u) a c l := by
  refine ⟨hl.1, hl.2.1, fun j hj => ?_⟩
  obtain ⟨b, off, e, hB, cs, h1, h2, h3⟩ := hl.2.2 j hj
  obtain ⟨rfl, h4, h5, _⟩ := h3
  have k0 := h2 0 _ rfl
  have k1 := h2 1 _ rfl
  refine ⟨b, off, e, hB, _, h1, fun i v hv => ?_, rfl, h4, h5, trivial⟩
  rw [World.cell?_setCell_other _ _ _ _ (fun h => ?_)]
  · exact h2 i v hv
  · injection h with hb ho
    subst hb
    match i, hv with
    | 0, hv => rw [← ho, hc] at k0; cases k0
    | 1, hv =>
      have : off + j * 2 + 0 = 1 := by omega
      rw [this, hd] at k0
      cases k0
/-- The first inode's number of sure bytes is written. -/
theorem DSt.sure (hp : DPl w g br bd) (h : DSt w g br bd W [.slice a0 n0 c0, .slice a1 n1 c1, .slice a2 n2 c2, .int .i64 z] m) (h0 : 0 < n0) : ∃ gI, a0 = some ⟨gI, 0, none⟩ ∧ (∃ u, W.cell? ⟨gI, 2, none⟩ = some u) ∧ W.frozen? ⟨gI, 2, none⟩ = false ∧ gI < W.heap.size ∧
    ∀ j : Int, (Lit.int .i64 j).wf = true → ∃ m', ESt w g br bd (W.setCell ⟨gI, 2, none⟩ (.int .i64 j)) [.slice a0 n0 c0, .slice a1 n1 c1, .slice a2 n2 c2, .int .i64 z] m' := by
  obtain ⟨e0, e1, e2, e3, F0, F1, F2, hI, hN, hS, hzw, hF⟩ := h.rows
  have hn1 := hp.g
  have hn2 := hp.r
  have hn3 := hp.d
  have hlI := ownS.leaf oInode_good (by rw [← e0]; exact hI)
  have hlN := ownS.leaf oEntry_good (by rw [← e1]; exact hN)
  have hlS := ownS.leaf oEntry_good (by rw [← e2]; exact hS)
  rcases hI with ⟨_, hl, _⟩ | ⟨gI, cap, cur, Fs, hv, hg, _, _, _, _, _, hFe⟩
  · rw [e0, hl] at h0; simp at h0
  · injection hv with hv _ _
    subst hv
    have hgF := hF gI (by simp [hFe])
    obtain ⟨b, off, he, hB, cs, h1, h2, ad, cd, rfl, i1, i2, i3, _⟩ := hlI.2.2 0 (by omega)
    injection he with he
    injection he with he1 he2
    subst he1
    subst he2
    have k1 := h2 1 _ rfl
    have k2 := h2 2 _ rfl
    simp only [Nat.zero_mul, Nat.zero_add] at k1 k2
    refine ⟨gI, rfl, ⟨_, k2⟩, frozen_of_row W gI 2 _ _ hg, hB, fun j hj => ?_⟩
    have hT := turn_one W gI 2 (.int .i64 j)
    have hz : (W.setCell ⟨gI, 2, none⟩ (.int .i64 j)).heap.size = W.heap.size := by simp
    refine ⟨{ m with fInodes := m.fInodes.set 0 { m.fInodes[0] with fSure := j } }, h.d.turn hT (by simp; exact fun h => hgF.2.1 h.symm), h.r.turn hT (by simp; exact fun h => hgF.2.2 h.symm), ?_, ?_, h.c.turn hT (by omega), h.t.join hT (fun k hk => by simp at hk; right; omega)⟩
    · rw [hz]
      refine ⟨some ⟨gI, 0, none⟩, c0, a1, c1, a2, c2, ?_, ⟨by simpa using hlI.1, hlI.2.1, fun k hk => ?_⟩, leafE_cell k2 k1 hlN, leafE_cell k2 k1 hlS, hzw, trivial⟩
      · show _ = [Value.slice (some ⟨gI, 0, none⟩) (m.fInodes.set 0 _).length c0, .slice a1 m.fNames.length c1, .slice a2 m.fSafe.length c2, .int .i64 m.fNext]
        rw [List.length_set, e0, e1, e2, e3]
      · have hk' : k < m.fInodes.length := by simpa using hk
        obtain ⟨b', off', he', hB', cs', g1, g2, ad', cd', rfl, j1, j2, j3, _⟩ := hlI.2.2 k hk'
        injection he' with he'
        injection he' with q1 q2
        subst q1
        subst q2
        by_cases hk0 : k = 0
        · subst hk0
          refine ⟨gI, 0, rfl, hB, [.int .i64 m.fInodes[0].fId, .slice ad' m.fInodes[0].fData.length cd', .int .i64 j], rfl, ?_, ?_⟩
          · intro i v hv
            match i, hv with
            | 0, hv => rw [World.cell?_setCell_other _ _ _ _ (by simp)]; exact g2 0 v hv
            | 1, hv => rw [World.cell?_setCell_other _ _ _ _ (by simp)]; exact g2 1 v hv
            | 2, hv =>
              simp at hv
              subst hv
              exact World.cell?_setCell_same _ _ _ k2
          · have hx : (m.fInodes.set 0 { m.fInodes[0] with fSure := j })[0] = { m.fInodes[0] with fSure := j } := by simp
            rw [hx]
            exact ⟨ad', cd', rfl, j1, leafB_cell k2 j2, hj, trivial⟩
        · refine ⟨gI, 0, rfl, hB, _, g1, ?_, ?_⟩
          · intro i v hv
            rw [World.cell?_setCell_other _ _ _ _ (by intro hh; injection hh with _ hh; omega)]
            exact g2 i v hv
          · have hx : (m.fInodes.set 0 { m.fInodes[0] with fSure := j })[k] = m.fInodes[k] := List.getElem_set_ne (fun hh => hk0 hh.symm) _
            rw [hx]
            exact ⟨ad', cd', rfl, j1, leafB_cell k2 j2, j3, trivial⟩
    · have hfit := h.f.small
      rw [wDisk_eq] at hfit ⊢
      have hs : sumW wInode (m.fInodes.set 0 { m.fInodes[0] with fSure := j }) = sumW wInode m.fInodes := by
        have key : ∀ (l : List MInode) (hl : 0 < l.length), sumW wInode (l.set 0 { l[0] with fSure := j }) = sumW wInode l := by
          intro l hl
          cases l with
          | nil => simp at hl
          | cons y r => rfl
        exact key _ _
      simp only [List.length_set]
      rw [hs]
      exact hfit
end

end Go.Proofs.Ytmbobjhplkpfoaa

namespace Go.Proofs.Ytmbobjhplkpfoaa
open Go.RowKit

theorem Try.infoOfInode : (Try.prog.info? 56).map (fun i => (i.zero, i.size, i.bytes)) = some (some (.agg #[.int .i64 0, .slice none 0 0, .int .i64 0]), 3, 40) := by kernel_rfl
theorem Try.infoOfEntry : (Try.prog.info? 61).map (fun i => (i.zero, i.size, i.bytes)) = some (some (.agg #[.string ⟨#[]⟩, .int .i64 0]), 2, 24) := by kernel_rfl


def rdB (B : Nat) (w : World) (v : Value) (zs : List Int) : Prop := ∃ a c, v = .slice a zs.length c ∧ LeafB B w a c zs
theorem rdB.below {B : Nat} {w w' : World} {v : Value} {zs : List Int} (h : rdB B w v zs) (hb : Below B w w') : rdB B w' v zs := by
  obtain ⟨a, c, e, h1⟩ := h
  exact ⟨a, c, e, h1.below hb⟩
theorem rdB.mono {B B' : Nat} {w : World} {v : Value} {zs : List Int} (h : rdB B w v zs) (hB : B ≤ B') : rdB B' w v zs := by
  obtain ⟨a, c, e, h1⟩ := h
  exact ⟨a, c, e, h1.mono hB⟩
end Go.Proofs.Ytmbobjhplkpfoaa
