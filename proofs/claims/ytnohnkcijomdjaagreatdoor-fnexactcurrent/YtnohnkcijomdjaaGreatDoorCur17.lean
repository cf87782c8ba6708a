/-
  Part 18 of the texts that the proof leans on.
-/
import Derived.Test.YtnohnkcijomdjaaGreatDoorCur0
import Derived.Test.YtnohnkcijomdjaaGreatDoorCur1
import Derived.Test.YtnohnkcijomdjaaGreatDoorCur15
import Derived.Maps.OwnSet
import Derived.Maps.RangeWalk
import Derived.Sort.KeysCollected
import Derived.Test.YtnohnkcijomdjaaGreatDoorCur16
import Derived.Test.YtnohnkcijomdjaaGreatDoorCur14
set_option linter.unusedVariables false
set_option linter.unusedSimpArgs false
set_option maxRecDepth 10000

namespace Go.Proofs.YtnohnkcijomdjaaGreatDoor
open Go.RowKit

/-- 'copy(out[o:], src)', out a row of the call's own, with room for src. -/
theorem wpList_copy_in {P : Program} {w : World} {ops : Array Oper} {rest : List Oper} {o : Oper} {a : Act} {Q : Exit → Act → World → Prop} (hgd : o.guard = none) (d s : Operand) (dT sT : TypeId)
    (ho : o.op = .call { callee := .builtin .copy, args := #[d, s], argTypes := #[dT, sT] }) (e : TypeId) (i : TypeInfo) (hu : P.underlying dT = some (.slice e)) (hi : P.info? e = some i) (hsz : i.size = 1)
    (base g off tot cap n dcap sl scap : Nat) (ao : Option Addr) (hd : a.eval d = .slice (some ⟨g, off, none⟩) n dcap) (hs : a.eval s = .slice ao sl scap)
    (xs : List Value) (hown : w.ownsRow base e 1 (.slice (some ⟨g, 0, none⟩) tot cap) tot xs)
    (k : IntKind) (zs : List Int) (B : Nat) (hz : zs.length = sl) (hle : sl ≤ n) (hfit : off + sl ≤ tot) (hr : Rd k B w ao zs)
    (h : ∀ w', w'.ownsRow base e 1 (.slice (some ⟨g, 0, none⟩) tot cap) tot (xs.take off ++ (zs.map (Value.int k) ++ xs.drop (off + sl))) → w.grownBy w' (some g) → wpList P ops Q rest (a.put o.dst (goInt sl)) w') : wpList P ops Q (o :: rest) a w := by
  have hsz' : (P.info? e).map (·.size) = some 1 := by rw [hi]; simp [hsz]
  by_cases h0 : sl = 0
  · subst h0
    have hz' : zs = [] := List.eq_nil_of_length_eq_zero hz
    subst hz'
    refine wpList_copy_nothing hgd d s dT sT ho e hu hsz' _ _ _ _ _ _ hd hs (by simp) (h w ?_ (World.grownBy.refl _ _))
    simpa using hown
  · obtain ⟨b, so, rfl, _, _⟩ := hr 0 (by omega)
    rcases hown.2 with ⟨h', _⟩ | ⟨g', cap', cur, h', hb, hg, hnc, hcm, hcs, htake⟩
    · simp at h'
    · simp only [Value.slice.injEq, Option.some.injEq, Addr.mk.injEq, and_true, true_and] at h'
      obtain ⟨rfl, rfl⟩ := h'
      have hl : (zs.map (Value.int k)).length = sl := by simp [hz]
      refine wpList_copy_own hgd d s dT sT ho e hu hsz' g off n dcap ⟨b, so, none⟩ sl scap hd hs cur e hg (zs.map (Value.int k)) (by rw [hl]; exact (Nat.min_eq_left hle).symm) ?_ (by rw [hl]; omega) (ints_oneCell k _) ?_
      · intro j u hu
        have hj : j < zs.length := by
          rcases Nat.lt_or_ge j zs.length with h | h
          · exact h
          · rw [List.getElem?_eq_none (by simpa using h)] at hu; cases hu
        obtain ⟨b', off', e', _, hc⟩ := hr j hj
        simp only [Option.some.injEq, Addr.mk.injEq, and_true] at e'
        obtain ⟨rfl, rfl⟩ := e'
        rw [Addr.add_lit, hc]
        simp [List.getElem?_eq_getElem hj] at hu
        simp [List.getElem?_eq_getElem hj, hu]
      · rw [hl]
        have hlen := hown.1
        simp only [Nat.mul_one] at hlen hcs htake
        have hct : cur.toList.length = cap := by simpa using hcs
        refine h _ ⟨by simp [hz]; omega, .inr ⟨g, cap, _, rfl, hb, setRow_heap w g cur _ e _ hg, hnc, hcm, ?_, ?_⟩⟩ ⟨rfl, rfl, rfl, by simp [World.setRow], fun k _ hk => setRow_other w g k _ (fun e => hk (by simp [e]))⟩
        · simp [hz]; omega
        · rw [List.toList_toArray, Nat.mul_one, ← htake]
          have e1 : min off cap = off := by omega
          have e2 : min off (min tot cap) = off := by omega
          apply List.ext_getElem?
          intro j
          simp only [List.getElem?_take, List.getElem?_append, List.length_take, List.getElem?_drop, List.length_map, hz, hct, e1, e2]
          by_cases h1 : j < off
          · have hj : j < tot := by omega
            simp [h1, hj]
          · by_cases h2 : j - off < sl
            · have hj : j < tot := by omega
              simp [h1, h2, hj]
            · have e3 : off + sl + (j - off - sl) = j := by omega
              simp [h1, h2, e3]

set_option maxHeartbeats 400000 in
theorem joinBytes_any (a b : Option Addr) (ca cb : Nat) (za zb : List Int) (w : World) (ha : LeafB w.heap.size w a ca za) (hb : LeafB w.heap.size w b cb zb) (hla : za.length ≤ 2097152) (hlb : zb.length ≤ 2097152) :
    Calls Tryz.prog 62 #[.slice a za.length ca, .slice b zb.length cb] w fun e w' => ∃ (v : Value) (F : List Nat), e = .returned v ∧ ownB 5 w' v (za ++ zb) F ∧ F.Nodup ∧ (∀ b, b ∈ F → w.heap.size ≤ b) ∧ Below w.heap.size w w' := by
  obtain ⟨i0, hi, hz0, hz1, hz2⟩ := info_parts Tryz.info5
  have HA := Hid.mk ha
  have HB := Hid.mk hb
  clear ha hb
  obtain ⟨na, hna⟩ : ∃ n, za.length = n := ⟨_, rfl⟩
  obtain ⟨nb, hnb⟩ : ∃ n, zb.length = n := ⟨_, rfl⟩
  have HNA := Hid.mk hna
  have HNB := Hid.mk hnb
  rw [hna] at hla ⊢
  rw [hnb] at hlb ⊢
  clear hna hnb
  go_enter Tryz.func62, Tryz.ntmps62
  go_wp2_with (at_make; refine wpList_make_full _ rfl _ _ 60 rfl w.heap.size 5 i0 (.int .u8 0) 1 Tryz.underlying60 hi hz0 hz1 .i64 .i64 _ _ (na + nb) rfl rfl (by first | rfl | (push_cast; rfl) | simp) rfl (by rw [hz2]; omega) (by unfold maxLen; omega) (Nat.le_refl _) ?_)
  intro w1 hown hgr
  have hb1 : Below w.heap.size w w1 := (Below.refl _ _).grown hgr (Nat.le_refl _) (fun k h => by cases h)
  rw [toList_madeCells_one] at hown
  have ra := (HA.out.below hb1).2.2.1
  have hlt1 : w.heap.size < w1.heap.size := (hown.lt w.heap.size rfl).2
  by_cases h0 : nb = 0
  · subst h0
    have hzb : zb = [] := List.eq_nil_of_length_eq_zero HNB.out
    subst hzb
    rw [Nat.add_zero] at *
    go_wp2_with (first
      | (refine wpList_copy_in rfl _ _ 60 60 rfl 5 i0 Tryz.underlying60 hi hz1 w.heap.size w.heap.size 0 (na) (na) (na) (na) na ca _ rfl rfl _ hown .u8 za w.heap.size HNA.out (by omega) (by omega) ra ?_; intro w2 hown2 hg2)
      | (refine wpList_copy_nothing rfl _ _ 60 60 rfl 5 Tryz.underlying60 (by rw [hi]; simp [hz1]) _ _ _ _ _ _ rfl rfl (by simp) ?_))
    have hb2 : Below w.heap.size w w2 := hb1.grown hg2 (Nat.le_of_lt hlt1) (fun k h => by cases h; exact Nat.le_refl _)
    go_ret
    refine ⟨_, [w.heap.size], rfl, ⟨?_, ?_, rfl⟩, by simp, (fun b hb => by simp at hb; omega), hb2⟩
    · refine own_base (own_congr hown2 (by simp [HNA.out]) ?_) (Nat.zero_le _)
      simp
    · rw [List.append_nil]
      exact HA.out.2.2.2
  · have hnb0 : 0 < nb := by omega
    go_wp2_with (first
      | (refine wpList_copy_in rfl _ _ 60 60 rfl 5 i0 Tryz.underlying60 hi hz1 w.heap.size w.heap.size 0 (na + nb) (na + nb) (na + nb) (na + nb) na ca _ rfl rfl _ hown .u8 za w.heap.size HNA.out (by omega) (by omega) ra ?_; intro w2 hown2 hg2; have hb2 : Below w.heap.size w w2 := hb1.grown hg2 (Nat.le_of_lt hlt1) (fun k h => by cases h; exact Nat.le_refl _); have hlt2 : w.heap.size < w2.heap.size := (hown2.lt w.heap.size rfl).2; have rb := (HB.out.below hb2).2.2.1)
      | (refine wpList_copy_in rfl _ _ 60 60 rfl 5 i0 Tryz.underlying60 hi hz1 w.heap.size w.heap.size na (na + nb) (na + nb) nb nb nb cb _ rfl rfl _ hown2 .u8 zb w.heap.size HNB.out (by omega) (by omega) rb ?_; intro w3 hown3 hg3))
    have hb3 : Below w.heap.size w w3 := hb2.grown hg3 (Nat.le_of_lt hlt2) (fun k h => by cases h; exact Nat.le_refl _)
    go_ret
    refine ⟨_, [w.heap.size], rfl, ⟨?_, ?_, rfl⟩, by simp, (fun b hb => by simp at hb; omega), hb3⟩
    · refine own_base (own_congr hown3 (by simp [HNA.out, HNB.out]) ?_) (Nat.zero_le _)
      have hna := HNA.out
      simp [hna]
      done
    · intro z hz
      rcases List.mem_append.1 hz with h | h
      · exact HA.out.2.2.2 z h
      · exact HB.out.2.2.2 z h

end Go.Proofs.YtnohnkcijomdjaaGreatDoor

namespace Go.Proofs.YtnohnkcijomdjaaGreatDoor
open Go.RowKit Go.Maps

def kS (s : ByteArray) : Lit := .string s.data.toList
theorem kS_ne {s t : ByteArray} (h : s ≠ t) : kS s ≠ kS t := by
  intro e
  simp only [kS, Lit.string.injEq] at e
  apply h
  cases s; cases t
  simpa using Array.toList_inj.1 e

/-- The map has the first k names, each at an id that a list's entry of that name has. -/
def NMap (D : DataW Unit) (l : List MEntry) (k : Nat) : Prop :=
  IsMap D ∧ ∀ s : ByteArray, (Maps.has D (kS s) = true ↔ ∃ j, ∃ h : j < l.length, j < k ∧ l[j].fName = s) ∧ (Maps.has D (kS s) = true → ∃ j, ∃ h : j < l.length, j < k ∧ l[j].fName = s ∧ D.atKey (kS s) (.lit (.int .i64 0)) = .lit (.int .i64 l[j].fId))

theorem NMap.start (l : List MEntry) : NMap (.map []) l 0 :=
  ⟨isMap_empty, fun s => ⟨⟨fun h => by simp [Maps.has] at h, fun ⟨j, _, h, _⟩ => by omega⟩, fun h => by simp [Maps.has] at h⟩⟩

theorem NMap.put {D : DataW Unit} {l : List MEntry} {k : Nat} (h : NMap D l k) (hk : k < l.length) : NMap (D.put (kS l[k].fName) (.lit (.int .i64 l[k].fId))) l (k + 1) := by
  refine ⟨h.1.put _ _, fun s => ?_⟩
  by_cases hs : s = l[k].fName
  · subst hs
    have h1 := has_put_same h.1 (k := kS l[k].fName) (by trivial) (.lit (.int .i64 l[k].fId))
    exact ⟨⟨fun _ => ⟨k, hk, by omega, rfl⟩, fun _ => h1⟩, fun _ => ⟨k, hk, by omega, rfl, atKey_put_same h.1 (by trivial) _ _⟩⟩
  · have hne := kS_ne hs
    rw [has_put_other hne, atKey_put_other hne]
    obtain ⟨h2, h3⟩ := h.2 s
    refine ⟨h2.trans ⟨fun ⟨j, hj, hjk, e⟩ => ⟨j, hj, by omega, e⟩, fun ⟨j, hj, hjk, e⟩ => ⟨j, hj, ?_, e⟩⟩, fun hh => ?_⟩
    · by_cases hjk' : j = k
      · subst hjk'; exact absurd e.symm hs
      · omega
    · obtain ⟨j, hj, hjk, e, ha⟩ := h3 hh
      exact ⟨j, hj, by omega, e, ha⟩

/-- No name twice. -/
theorem okE_names {ins : List MInode} : ∀ {l : List MEntry} {seen : List Int} {prev : ByteArray}, okE ins seen prev l = true → (∀ e, e ∈ l → strLt prev e.fName = true) ∧ l.Pairwise fun x y => strLt x.fName y.fName = true
  | [], _, _, _ => ⟨(fun e he => by cases he), List.Pairwise.nil⟩
  | x :: r, seen, prev, h => by
    rw [okE, Bool.and_eq_true] at h
    have h1 := h.1
    unfold stepE at h1
    simp only [Bool.and_eq_true] at h1
    obtain ⟨h2, h3⟩ := okE_names h.2
    refine ⟨fun e he => ?_, List.Pairwise.cons h2 h3⟩
    rcases List.mem_cons.1 he with rfl | he
    · exact h1.1.2
    · exact strLt_trans h1.1.2 (h2 e he)

theorem names_once {l : List MEntry} (h : l.Pairwise fun x y => strLt x.fName y.fName = true) {i j : Nat} (hi : i < l.length) (hj : j < l.length) (he : l[i].fName = l[j].fName) : i = j := by
  rcases Nat.lt_trichotomy i j with hlt | rfl | hlt
  · have := List.pairwise_iff_getElem.1 h i j hi hj hlt
    rw [he] at this
    unfold strLt at this
    rw [bl_irrefl] at this
    cases this
  · rfl
  · have := List.pairwise_iff_getElem.1 h j i hj hi hlt
    rw [he] at this
    unfold strLt at this
    rw [bl_irrefl] at this
    cases this

/-- The map has just the names of a list, each at its entry's id. -/
def MapIs (D : DataW Unit) (l : List MEntry) : Prop :=
  IsMap D ∧ (∀ s, Maps.has D (kS s) = true ↔ hasName l s = true) ∧ ∀ e, e ∈ l → D.atKey (kS e.fName) (.lit (.int .i64 0)) = .lit (.int .i64 e.fId)

theorem hasName_iff {l : List MEntry} {s : ByteArray} : hasName l s = true ↔ ∃ e, e ∈ l ∧ e.fName = s := by
  unfold hasName
  rw [List.any_eq_true]
  simp

theorem mem_withE {l : List MEntry} {e x : MEntry} : x ∈ withE l e ↔ x = e ∨ (x ∈ l ∧ x.fName ≠ e.fName) := by
  unfold withE
  rw [List.mem_append, List.mem_cons, List.mem_filter, List.mem_filter]
  constructor
  · rintro (⟨h1, h2⟩ | rfl | ⟨h1, h2⟩)
    · exact .inr ⟨h1, fun hh => by rw [hh, strLt_irrefl] at h2; cases h2⟩
    · exact .inl rfl
    · exact .inr ⟨h1, fun hh => by rw [hh, strLt_irrefl] at h2; cases h2⟩
  · rintro (rfl | ⟨h1, h2⟩)
    · exact .inr (.inl rfl)
    · by_cases h3 : strLt x.fName e.fName = true
      · exact .inl ⟨h1, h3⟩
      · exact .inr (.inr ⟨h1, strLt_tri (Bool.eq_false_iff.2 h3) h2⟩)

theorem MapIs.put {D : DataW Unit} {l : List MEntry} (h : MapIs D l) (e : MEntry) : MapIs (D.put (kS e.fName) (.lit (.int .i64 e.fId))) (withE l e) := by
  refine ⟨h.1.put _ _, fun t => ?_, fun x hx => ?_⟩
  · rw [hasName_iff]
    by_cases ht : t = e.fName
    · subst ht
      rw [has_put_same h.1 (by trivial)]
      exact ⟨fun _ => ⟨e, mem_withE.2 (.inl rfl), rfl⟩, fun _ => rfl⟩
    · rw [has_put_other (kS_ne ht), h.2.1 t, hasName_iff]
      constructor
      · rintro ⟨x, hx, rfl⟩
        exact ⟨x, mem_withE.2 (.inr ⟨hx, ht⟩), rfl⟩
      · rintro ⟨x, hx, rfl⟩
        rcases mem_withE.1 hx with rfl | ⟨h1, _⟩
        · exact absurd rfl ht
        · exact ⟨x, h1, rfl⟩
  · rcases mem_withE.1 hx with rfl | ⟨h1, h2⟩
    · exact atKey_put_same h.1 (by trivial) _ _
    · rw [atKey_put_other (kS_ne h2)]
      exact h.2.2 x h1

theorem kS_same {s t : ByteArray} : (kS s).sameKey (kS t) = decide (s = t) := by
  by_cases h : s = t
  · subst h
    simp [kS, Lit.sameKey]
  · have := kS_ne h
    simp only [kS, ne_eq, Lit.string.injEq] at this
    simp only [kS, Lit.sameKey]
    rw [decide_eq_false h]
    simpa using this

/-- What a walk over the map has met, and what is still to come. -/
structure Met (l : List MEntry) (left : Lit → Bool) (o : List MEntry) : Prop where
  sub : ∀ e, e ∈ o → e ∈ l
  once : o.Pairwise (fun x y => x.fName ≠ y.fName)
  rest : ∀ e, e ∈ l → (left (kS e.fName) = true ↔ ∀ x, x ∈ o → x.fName ≠ e.fName)

theorem Met.start {D : DataW Unit} {l : List MEntry} (h : MapIs D l) : Met l (Maps.has D) [] :=
  ⟨(fun e he => by cases he), List.Pairwise.nil, fun e he => ⟨(fun _ x hx => by cases hx), fun _ => (h.2.1 _).2 (hasName_iff.2 ⟨e, he, rfl⟩)⟩⟩

theorem Met.step {l o : List MEntry} {left : Lit → Bool} (h : Met l left o) (hr : Rise l) {e : MEntry} (he : e ∈ l) (hl : left (kS e.fName) = true) : Met l (fun z => left z && !z.sameKey (kS e.fName)) (o ++ [e]) := by
  refine ⟨fun x hx => ?_, ?_, fun x hx => ?_⟩
  · rcases List.mem_append.1 hx with hx | hx
    · exact h.sub x hx
    · simp at hx; subst hx; exact he
  · rw [List.pairwise_append]
    refine ⟨h.once, by simp, fun x hx y hy => ?_⟩
    simp at hy
    subst hy
    exact (h.rest y he).1 hl x hx
  · rw [kS_same, Bool.and_eq_true, h.rest x hx]
    constructor
    · rintro ⟨h1, h2⟩ y hy
      rcases List.mem_append.1 hy with hy | hy
      · exact h1 y hy
      · simp at hy; subst hy
        intro hh
        simp [hh] at h2
    · intro h1
      refine ⟨fun y hy => h1 y (by simp [hy]), ?_⟩
      have := h1 e (by simp)
      simp [Ne.symm this]


theorem lawStr : Keyed Tryz.prog 9 := string_keyed Tryz.underlying9
theorem keyStr {s : ByteArray} (h : s.size ≤ 9223372036854775807) : keyOf Tryz.prog 9 (.string s) = some (kS s) := WideMaps.keyOf_string_mk Tryz.underlying9 (by simpa [maxLen] using h)
set_option maxHeartbeats 1000000 in
theorem nameMap_any (a : Option Addr) (n cap : Nat) (l : List MEntry) (w : World) (hx : l.length = n) (hl : LeafL 2 rEntry w.heap.size w a cap l) (hn : n ≤ 1048576) :
    Calls Tryz.prog 83 #[.slice a n cap] w fun e w' => ∃ D : DataW Unit, e = .returned (.map (some w.heap.size)) ∧ w'.ownsMap Tryz.prog 9 (plainElem Tryz.prog 3) w.heap.size n D ∧ NMap D l n ∧ Below w.heap.size w w' := by
  have HX := Hid.mk hx
  have HRS := Hid.mk hl.2.2
  clear hx hl
  have hmm := @run_makeMap Tryz.prog
  go_enter Tryz.func83, Tryz.ntmps83
  go_wp2_with fail
  go_loopw [9] (fun i wr => ∃ (k : Nat) (D : DataW Unit), k ≤ n ∧ i = .int .i64 k ∧ wr.ownsMap Tryz.prog 9 (plainElem Tryz.prog 3) w.heap.size k D ∧ NMap D l k ∧ Below w.heap.size w wr) (fun i _ => n - (intOf i).toNat)
  case atStart => exact ⟨0, .map [], Nat.zero_le _, rfl, World.ownsMap_made _ _ _ _, NMap.start _, (Below.refl _ _).alloc (Nat.le_refl _) _⟩
  case round =>
    obtain ⟨k, D, hk, rfl, hown, hU, hbk⟩ := hrel
    have HU := Hid.mk hU
    clear hU hmm
    by_cases hlt : k < n
    · have hkl : k < l.length := by rw [HX.out]; exact hlt
      obtain ⟨b1, o1, rfl, hB, cs, hcl, hcell, rfl, hsz, hwf, _⟩ := (HRS.out.below rEntry_good hbk) k hkl
      have k0 := hcell 0 _ rfl
      have k1 := hcell 1 _ rfl
      rw [Nat.add_zero] at k0
      clear hcell hcl
      have hkey := keyStr hsz
      have HU' := Hid.mk (HU.out.put hkl)
      generalize l[k].fName = nm at *
      generalize l[k].fId = id at *
      have hmz := ownsMap_lt hown
      have hown0 := ownsMap_below hown ((Below.refl _ _).alloc (Nat.le_refl _) (.cells #[.string nm, .int .i64 id] 90))
      go_wp2_with (at_mapUpdate; refine wpList_mapUpdate_own _ rfl _ _ _ 128 rfl 9 3 lawStr Tryz.underlying128 _ w.heap.size k _ rfl hown0 (by unfold maxLen; omega) _ _ _ rfl rfl hkey _ [] (plainElem_int Tryz.underlying3 hwf) ?_; intro w3 hown3 hgrow3)
      have hT : Turn [w.heap.size] wr w3 := Turn.after ((Below.refl _ _).alloc (Nat.le_refl _) _) (Turn.ofGrown hgrow3 (fun k hk => by cases hk; simp))
      go_roundw
      case rel => exact ⟨k + 1, _, by omega, by go_num, hown3, HU'.out, Turn.under hbk hT (fun k hk => by simp at hk; omega)⟩
      case measure => simp [intOf]; omega
    · have hkn : k = n := by omega
      subst hkn
      go_wp2_with fail
      go_ret
      exact ⟨D, rfl, hown, HU.out, hbk⟩

set_option maxHeartbeats 1000000 in
theorem formOk1_any (cs : List Value) (m : MDisk) (a : Option Addr) (c : Nat) (s : ByteArray) (w : World) (hr : rDisk w.heap.size w cs m) (hw : wDisk m ≤ 1048576) (hs : s.size ≤ 9223372036854775807) (ha : ∃ b, a = some ⟨b, 0, none⟩ ∧ b < w.heap.size ∧ w.cell? ⟨b, 0, none⟩ = some (.string s)) :
    Calls Tryz.prog 82 #[.agg cs.toArray, .slice a 1 c] w fun e w' => e = .returned (.bool (diskOk m && nameOk s)) ∧ Below w.heap.size w w' := by
  have hq := hr
  obtain ⟨a0, c0, a1, c1, a2, c2, rfl, _⟩ := hq
  obtain ⟨b, rfl, hbl, hcs⟩ := ha
  have HW := Hid.mk hw
  have HR := Hid.mk hr
  clear hr hw
  have hCd := fun W (hb : Below w.heap.size w W) => implDiskOk_c _ m W (rDisk_good.mono (rDisk_good.below HR.out hb) hb.size) HW.out
  have hbA := (Below.refl w.heap.size w).alloc (Nat.le_refl _) (.cells #[.slice a0 m.fInodes.length c0, .slice a1 m.fNames.length c1, .slice a2 m.fSafe.length c2, .int .i64 m.fNext] 39)
  go_enter Tryz.func82, Tryz.ntmps82
  go_wp2_with fail
  refine wp_loop_rounds 2 ?_
  rw [rounds_succ]
  go_wp2_with fail
  refine (implNameOk_any s _ hs).mono ?_
  rintro e w1 ⟨rfl, hx1⟩
  have hb1 := bthen hbA hx1
  have hbx := (Bx.new w [.slice a0 m.fInodes.length c0, .slice a1 m.fNames.length c1, .slice a2 m.fSafe.length c2, .int .i64 m.fNext] 39).under hx1
  have y0 := hbx.2 0 _ rfl
  have y1 := hbx.2 1 _ rfl
  have y2 := hbx.2 2 _ rfl
  have y3 := hbx.2 3 _ rfl
  by_cases hN : nameOk s = true
  · rw [hN]
    go_wp2_with fail
    rw [rounds_succ]
    go_wp2_with fail
    refine Calls.mono (hCd _ hb1) ?_
    rintro e w2 ⟨rfl, hx2⟩
    go_wp2_with fail
    go_ret
    exact ⟨by rw [hN, Bool.and_true]; rfl, bthen hb1 hx2⟩
  · have hN2 : nameOk s = false := Bool.eq_false_iff.2 hN
    rw [hN2]
    go_wp2_with fail
    go_ret
    exact ⟨by rw [hN2, Bool.and_false]; rfl, hb1⟩

set_option maxHeartbeats 1000000 in
theorem findFile_any (cs : List Value) (m : MDisk) (s : ByteArray) (w : World) (hr : rDisk w.heap.size w cs m) (hw : wDisk m ≤ 1048576) (hs : s.size ≤ 9223372036854775807) :
    Calls Tryz.prog 61 #[.agg cs.toArray, .string s] w fun e w' => ∃ p : Nat, e = .returned (.tuple #[.int .i64 p, .int .i64 (callP m s)]) ∧ (callP m s = 0 → ∃ h : p < m.fInodes.length, m.fInodes[p].fId = idOf m.fNames s) ∧ Below w.heap.size w w' := by
  have hq := hr
  obtain ⟨a0, c0, a1, c1, a2, c2, rfl, hI, hNm, hSf, hnx, _⟩ := hq
  have hw2 : m.fInodes.length + sumW wInode m.fInodes + (m.fNames.length + sumW wEntry m.fNames) + (m.fSafe.length + sumW wEntry m.fSafe) ≤ 1048576 := hw
  have HW := Hid.mk hw
  have HR := Hid.mk hr
  have HI := Hid.mk hI
  have HNL := Hid.mk hNm
  clear hr hI hNm hSf hw
  have hbA := (Below.refl w.heap.size w).alloc (Nat.le_refl _) (.cells #[.slice a0 m.fInodes.length c0, .slice a1 m.fNames.length c1, .slice a2 m.fSafe.length c2, .int .i64 m.fNext] 39)
  have hbB := hbA.alloc (by simp) (.cells #[.string s] 9)
  go_enter Tryz.func61, Tryz.ntmps61
  go_wp2_with fail
  refine (formOk1_any _ m _ 1 s _ (rDisk_good.mono (rDisk_good.below HR.out hbB) hbB.size) HW.out hs ⟨w.heap.size + 1, rfl, by simp, by simp⟩).mono ?_
  rintro e w1 ⟨rfl, hx1⟩
  have hb1 := bthen hbB hx1
  have hbx := ((Bx.new w [.slice a0 m.fInodes.length c0, .slice a1 m.fNames.length c1, .slice a2 m.fSafe.length c2, .int .i64 m.fNext] 39).alloc (.cells #[.string s] 9)).under hx1
  have y0 := hbx.2 0 _ rfl
  have y1 := hbx.2 1 _ rfl
  by_cases hF : (diskOk m && nameOk s) = true
  · rw [hF]
    have hF2 := hF
    rw [Bool.and_eq_true] at hF2
    obtain ⟨q1, q2, _⟩ := diskOk_parts hF2.1
    have HSO := Hid.mk (okI_sorted q1)
    have HNO := Hid.mk (fun i j hi hj he => names_once (okE_names q2).2 (i := i) (j := j) hi hj he)
    have HOK := Hid.mk hF2.1
    clear q1 q2 hF2
    go_wp2_with fail
    refine (nameMap_any a1 _ c1 m.fNames w1 rfl (LeafL.mono rEntry_good (HNL.out.below rEntry_good hb1) hb1.size) (by omega)).mono ?_
    rintro e w2 ⟨D, rfl, hown, hNM, hx2⟩
    have HNM := Hid.mk hNM
    clear hNM
    have hb2 := bthen hb1 hx2
    have hbx2 := hbx.under hx2
    have z0 := hbx2.2 0 _ rfl
    by_cases hH : hasName m.fNames s = true
    · have HV : Hid (callP m s = 0) := by show callP m s = 0; unfold callP; rw [hF, if_pos rfl, if_pos hH]
      obtain ⟨hk, hid, hhas⟩ := file_there HOK.out hH
      obtain ⟨_, hnm⟩ := hasName_at hH
      have hhs : Maps.has D (kS s) = true := (HNM.out.2 s).1.2 ⟨_, hk, hk, hnm⟩
      have HC : Hid (D.atKey (kS s) (.lit (.int .i64 0)) = .lit (.int .i64 (idOf m.fNames s))) := by
        obtain ⟨j, hj, _, he, ha⟩ := (HNM.out.2 s).2 hhs
        have : j = nameAt m.fNames s := HNO.out j _ hj hk (he.trans hnm.symm)
        subst this
        show D.atKey _ _ = _
        rw [ha, hid]
      have HHas := Hid.mk hhas
      clear hF hH hk hid hhas hnm
      go_wp2_with (at_lookup; refine wpList_lookup_own_ok_int _ rfl _ _ 128 rfl 9 3 .i64 lawStr Tryz.underlying128 Tryz.underlying3 (zeroInt _) w1.heap.size m.fNames.length D rfl hown _ _ rfl (keyStr hs) ?_; intro c hat hwc)
      have hce : c = idOf m.fNames s := by
        rw [HC.out] at hat
        simp only [DataW.lit.injEq, Lit.int.injEq, true_and] at hat
        exact hat.symm
      subst hce
      refine (inodePlace_any a0 c0 m.fInodes (idOf m.fNames s) w2 (LeafL.mono rInode_good (HI.out.below rInode_good hb2) hb2.size) (by omega) HSO.out).mono ?_
      rintro e w3 ⟨p, rfl, hp, hx3⟩
      have HP := Hid.mk (hp HHas.out)
      rw [HHas.out]
      clear hp
      go_wp2_with fail
      refine bodyPost_ret (v := .tuple #[.int .i64 p, .int .i64 0]) (by simp [results, Tryz.results61, go_sem, *]) rfl ⟨p, by rw [HV.out], fun _ => HP.out, bthen hb2 hx3⟩
    · have HV : Hid (callP m s = 2) := by show callP m s = 2; unfold callP; rw [hF, if_pos rfl, if_neg hH]
      have hhs : Maps.has D (kS s) = false := by
        rw [Bool.eq_false_iff]
        intro h
        obtain ⟨j, hj, _, he⟩ := (HNM.out.2 s).1.1 h
        exact hH (hasName_yes hj he)
      go_wp2_with (at_lookup; refine wpList_lookup_own_ok_int _ rfl _ _ 128 rfl 9 3 .i64 lawStr Tryz.underlying128 Tryz.underlying3 (zeroInt _) w1.heap.size m.fNames.length D rfl hown _ _ rfl (keyStr hs) ?_; intro c hat hwc)
      refine bodyPost_ret (v := .tuple #[.int .i64 0, .int .i64 2]) (by simp [results, Tryz.results61, go_sem, *]) rfl ⟨0, by rw [HV.out]; rfl, (fun h => by rw [HV.out] at h; cases h), hb2⟩
  · have hF2 : (diskOk m && nameOk s) = false := Bool.eq_false_iff.2 hF
    have HV : Hid (callP m s = 1) := by show callP m s = 1; unfold callP; rw [hF2]; rfl
    rw [hF2]
    go_wp2_with fail
    refine bodyPost_ret (v := .tuple #[.int .i64 0, .int .i64 1]) (by simp [results, Tryz.results61, go_sem, *]) rfl ⟨0, by rw [HV.out]; rfl, (fun h => by rw [HV.out] at h; cases h), hb1⟩

theorem dataOf_at {m : MDisk} {s : ByteArray} {p : Nat} (hso : m.fInodes.Pairwise fun x y => x.fId < y.fId) (h : p < m.fInodes.length) (he : m.fInodes[p].fId = idOf m.fNames s) : dataOf m s = m.fInodes[p].fData := by
  unfold dataOf
  have : placeOf m.fInodes (idOf m.fNames s) = p := by
    unfold placeOf
    rw [List.findIdx_eq h]
    refine ⟨decide_eq_true he, fun j hj => ?_⟩
    have := sorted_at hso h hj
    simp
    omega
  rw [this, List.getElem?_eq_getElem h]
  rfl


set_option maxHeartbeats 1000000 in
theorem implBytes_c (cs : List Value) (m : MDisk) (s : ByteArray) (w : World) (hr : rDisk w.heap.size w cs m) (hs : s.size ≤ 9223372036854775807) (hw : wDisk m ≤ 1048576) (hw1 : s.size ≤ 1048576) :
    Calls Tryz.prog 32 #[.agg cs.toArray, .string s] w fun e w' => ∃ (v : Value) (F : List Nat), e = .returned (.tuple #[v, .bool (decide (callP m s = 0))]) ∧ ownB 5 w' v (bytesP m s) F ∧ F.Nodup ∧ (∀ b, b ∈ F → w.heap.size ≤ b) ∧ Below w.heap.size w w' := by
  have hq := hr
  obtain ⟨a0, c0, a1, c1, a2, c2, rfl, hI, hNm, hSf, hnx, _⟩ := hq
  have hw2 : m.fInodes.length + sumW wInode m.fInodes + (m.fNames.length + sumW wEntry m.fNames) + (m.fSafe.length + sumW wEntry m.fSafe) ≤ 1048576 := hw
  have HW := Hid.mk hw
  have HR := Hid.mk hr
  have HI := Hid.mk hI
  clear hr hI hNm hSf hw
  have hbA := (Below.refl w.heap.size w).alloc (Nat.le_refl _) (.cells #[.slice a0 m.fInodes.length c0, .slice a1 m.fNames.length c1, .slice a2 m.fSafe.length c2, .int .i64 m.fNext] 39)
  go_enter Tryz.func32, Tryz.ntmps32
  go_wp2_with fail
  refine (findFile_any _ m s _ (rDisk_good.mono (rDisk_good.below HR.out hbA) hbA.size) HW.out hs).mono ?_
  rintro e w1 ⟨p, rfl, hp, hx1⟩
  have hb1 := bthen hbA hx1
  have hbx := (Bx.new w [.slice a0 m.fInodes.length c0, .slice a1 m.fNames.length c1, .slice a2 m.fSafe.length c2, .int .i64 m.fNext] 39).under hx1
  have y0 := hbx.2 0 _ rfl
  by_cases hC : callP m s = 0
  · obtain ⟨hpl, hpi⟩ := hp hC
    have hok : diskOk m = true := by
      unfold callP at hC
      by_cases h : (diskOk m && nameOk s) = true
      · rw [Bool.and_eq_true] at h; exact h.1
      · rw [if_neg h] at hC; cases hC
    have HD : Hid (bytesP m s = m.fInodes[p].fData) := by
      show bytesP m s = _
      unfold bytesP
      rw [if_pos hC, dataOf_at (okI_sorted (diskOk_parts hok).1) hpl hpi]
    have HC := Hid.mk hC
    have hwk := sumW_le (f := wInode) hpl
    obtain ⟨b1, o1, rfl, hB, cs, hcl, hcell, hrI⟩ := (HI.out.2.2.below rInode_good hb1) p hpl
    obtain ⟨ad, cd, rfl, hid, hda, hsu, _⟩ := hrI
    have k1 := hcell 1 _ rfl
    rw [hC]
    have hdl : m.fInodes[p].fData.length ≤ 1048576 := by have : wInode m.fInodes[p] = m.fInodes[p].fData.length := rfl; omega
    generalize m.fInodes[p].fData = dt at *
    clear hp hpi hok hwk hcell hcl hC
    go_wp2_with fail
    refine (joinBytes_any ad none cd 0 dt [] w1 (hda.mono hb1.size) ⟨by simp, by omega, fun j hj => by simp at hj, fun z hz => by cases hz⟩ (by omega) (by simp)).mono ?_
    rintro e w2 ⟨v, F, rfl, ho, hN, hge, hx2⟩
    rw [List.append_nil] at ho
    go_wp2_with fail
    refine bodyPost_ret (v := .tuple #[v, .bool true]) (by simp [results, Tryz.results32, go_sem, *]) rfl ⟨v, F, by rw [decide_eq_true HC.out], by rw [HD.out]; exact ho, hN, fun b hb => Nat.le_trans hb1.size (hge b hb), bthen hb1 hx2⟩
  · have HD : Hid (bytesP m s = []) := by show bytesP m s = _; unfold bytesP; rw [if_neg hC]
    have HC := Hid.mk (decide_eq_false hC)
    have hcn : (callP m s == 0) = false := beq_eq_false_iff_ne.2 hC
    have hcn2 : (callP m s != 0) = true := bne_iff_ne.2 hC
    clear hp hC
    generalize callP m s = cp at hcn hcn2 ⊢
    go_wp2_with fail
    refine bodyPost_ret (v := .tuple #[.slice none 0 0, .bool false]) (by simp [results, Tryz.results32, go_sem, *]) rfl ⟨.slice none 0 0, [], by rw [HC.out], ?_, List.nodup_nil, (fun b hb => by cases hb), hb1⟩
    rw [HD.out]
    exact ⟨⟨by simp, .inl ⟨rfl, rfl⟩⟩, (fun z hz => by cases hz), rfl⟩

end Go.Proofs.YtnohnkcijomdjaaGreatDoor

namespace Go.Proofs.YtnohnkcijomdjaaGreatDoor
open Go.RowKit

set_option maxHeartbeats 800000 in
theorem l2Name_any (s : ByteArray) (w : World) (hs : s.size ≤ 9223372036854775807) :
    Calls Tryz.prog 80 #[.string s] w fun e w' => e = .returned (.bool (nameOk s)) ∧ w' = w := by
  by_cases hr : 1 ≤ s.size ∧ s.size ≤ 12
  · have hin : inRange s.size 1 12 = true := inRange_yes (by omega) (by omega)
    have HR := Hid.mk hr
    obtain ⟨hr1, hr2⟩ := hr
    go_enter Tryz.func80, Tryz.ntmps80
    go_wp2_with (go_at_call 37; refine (l1In_any _ _ _ _).mono ?_; rintro e w' ⟨rfl, rfl⟩)
    go_loop [3] (fun i => ∃ k : Nat, k ≤ s.size ∧ i = .int .i64 k ∧ ∀ j, (hj : j < (byteInts s).length) → j < k → nameByte (byteInts s)[j] = true) (fun i => s.size - (intOf i).toNat)
    case atStart => exact ⟨0, Nat.zero_le _, rfl, fun j _ hj => by omega⟩
    case round =>
      obtain ⟨k, hk, rfl, hno⟩ := hrel
      have HNo := Hid.mk hno
      clear hno
      by_cases hlt : k < s.size
      · have hcl : k < (byteInts s).length := by rw [byteInts_length]; exact hlt
        have hc : ∃ c : Int, wrap64 (s[k].toNat : Int) = c ∧ (byteInts s)[k] = c := by
          refine ⟨_, rfl, ?_⟩
          have h1 : (byteInts s)[k] = (s[k].toNat : Int) := by simp [byteInts]; rfl
          have h2 : s[k].toNat < 256 := s[k].toNat_lt
          rw [h1]
          unfold wrap64
          omega
        obtain ⟨c, hc, hcb⟩ := hc
        have HCB := Hid.mk hcb
        have HNX : Hid (nameByte c = true → ∀ j, (hj : j < (byteInts s).length) → j < k + 1 → nameByte (byteInts s)[j] = true) := fun hb j hj hjk => by
          by_cases hjk' : j = k
          · subst hjk'; rw [hcb]; exact hb
          · exact HNo.out j hj (by omega)
        have HBX : Hid (nameByte c = false → nameOk s = false) := fun hb => nameOk_bad hcl (by rw [hcb]; exact hb)
        clear hcb HNo
        by_cases h1 : 97 ≤ c ∧ c ≤ 122
        · have e1 : inRange c 97 122 = true := inRange_yes h1.1 h1.2
          have HB : Hid (nameByte c = true) := decide_eq_true (by omega)
          clear h1
          go_wp2_with (go_at_call 37; refine (l1In_any _ _ _ _).mono ?_; rintro e w' ⟨rfl, rfl⟩)
          go_round
          case rel => exact ⟨k + 1, by omega, by go_num, HNX.out HB.out⟩
          case measure => simp [intOf]; omega
        · have e1 : inRange c 97 122 = false := inRange_no h1
          by_cases h2 : 48 ≤ c ∧ c ≤ 57
          · have e2 : inRange c 48 57 = true := inRange_yes h2.1 h2.2
            have HB : Hid (nameByte c = true) := decide_eq_true (by omega)
            clear h1 h2
            go_wp2_with (go_at_call 37; refine (l1In_any _ _ _ _).mono ?_; rintro e w' ⟨rfl, rfl⟩)
            go_round
            case rel => exact ⟨k + 1, by omega, by go_num, HNX.out HB.out⟩
            case measure => simp [intOf]; omega
          · have e2 : inRange c 48 57 = false := inRange_no h2
            by_cases h3 : c = 45
            · have HB : Hid (nameByte c = true) := decide_eq_true (by omega)
              have e3 : (c != 45) = false := by simp [h3]
              clear h1 h2 h3
              go_wp2_with (go_at_call 37; refine (l1In_any _ _ _ _).mono ?_; rintro e w' ⟨rfl, rfl⟩)
              go_round
              case rel => exact ⟨k + 1, by omega, by go_num, HNX.out HB.out⟩
              case measure => simp [intOf]; omega
            · have e3 : (c != 45) = true := by simp [h3]
              by_cases h4 : c = 46
              · have HB : Hid (nameByte c = true) := decide_eq_true (by omega)
                have e4 : (c != 46) = false := by simp [h4]
                clear h1 h2 h3 h4
                go_wp2_with (go_at_call 37; refine (l1In_any _ _ _ _).mono ?_; rintro e w' ⟨rfl, rfl⟩)
                go_round
                case rel => exact ⟨k + 1, by omega, by go_num, HNX.out HB.out⟩
                case measure => simp [intOf]; omega
              · have e4 : (c != 46) = true := by simp [h4]
                have HB : Hid (nameByte c = false) := decide_eq_false (by omega)
                clear h1 h2 h3 h4
                go_wp2_with (go_at_call 37; refine (l1In_any _ _ _ _).mono ?_; rintro e w' ⟨rfl, rfl⟩)
                go_ret
                exact ⟨by rw [HBX.out HB.out]; rfl, rfl⟩
      · have HV := Hid.mk (nameOk_good HR.out (fun j hj => HNo.out j hj (by have := byteInts_length s; omega)))
        go_wp2_with fail
        go_ret
        exact ⟨by rw [HV.out]; rfl, rfl⟩
  · have hin : inRange s.size 1 12 = false := inRange_no (by omega)
    have HV := Hid.mk (nameOk_long hr)
    go_enter Tryz.func80, Tryz.ntmps80
    go_wp2_with (go_at_call 37; refine (l1In_any _ _ _ _).mono ?_; rintro e w' ⟨rfl, rfl⟩)
    go_ret
    exact ⟨by rw [HV.out]; rfl, rfl⟩

set_option maxHeartbeats 400000 in
theorem l2Named_any (a : Option Addr) (n cap : Nat) (l : List MEntry) (id : Int) (w : World) (B : Nat) (hx : l.length = n) (hlen : n ≤ 1099511627776) (hr : RdS 2 rEntry B w a l) :
    Calls Tryz.prog 97 #[.slice a n cap, .int .i64 id] w fun e w' => e = .returned (.bool (named l id)) ∧ w' = w := by
  have HX := Hid.mk hx
  clear hx
  go_enter Tryz.func97, Tryz.ntmps97
  go_wp2
  go_loop [5] (fun i => ∃ k : Nat, k ≤ n ∧ i = .int .i64 k ∧ ∀ j, (hj : j < l.length) → j < k → l[j].fId ≠ id) (fun i => n - (intOf i).toNat)
  case atStart => exact ⟨0, Nat.zero_le _, rfl, fun j _ hj => by omega⟩
  case round =>
    obtain ⟨k, hk, rfl, hno⟩ := hrel
    have HNo := Hid.mk hno
    clear hno
    by_cases hlt : k < n
    · have hkl : k < l.length := by rw [HX.out]; exact hlt
      obtain ⟨b1, o1, rfl, _, cs, hcl, hcell, rfl, _⟩ := hr k hkl
      have k1 := hcell 1 _ rfl
      have HE := Hid.mk (rfl : l[k].fId = l[k].fId)
      by_cases he : l[k].fId = id
      · have HV := Hid.mk (named_yes hkl he)
        have heb : (l[k].fId == id) = true := by simp [he]
        generalize l[k].fId = y at k1 heb
        clear hr hcell hcl he HE HNo
        go_wp2
        go_ret
        exact ⟨by rw [HV.out]; rfl, rfl⟩
      · have heb : (l[k].fId == id) = false := by simp [he]
        have HNe := Hid.mk he
        clear he
        have HNo' : Hid (∀ j, (hj : j < l.length) → j < k + 1 → l[j].fId ≠ id) := fun j hj hjk => by
          by_cases hjk' : j = k
          · subst hjk'; exact HNe.out
          · exact HNo.out j hj (by omega)
        generalize l[k].fId = y at k1 heb
        clear hr hcell hcl HE HNo HNe
        go_wp2
        go_round
        case rel => exact ⟨k + 1, by omega, by go_num, HNo'.out⟩
        case measure => simp [intOf]; omega
    · have HV := Hid.mk (named_no (l := l) (id := id) (fun j hj => HNo.out j hj (by have := HX.out; omega)))
      clear HNo
      go_wp2
      go_ret
      exact ⟨by rw [HV.out]; rfl, rfl⟩

set_option maxHeartbeats 400000 in
theorem l2Inode_any (cs : List Value) (m : MDisk) (id : Int) (w : World) (hr : rDisk w.heap.size w cs m) (hlen : m.fInodes.length ≤ 1099511627776) :
    Calls Tryz.prog 57 #[.agg cs.toArray, .int .i64 id] w fun e w' => e = .returned (.int .i64 (placeZ m.fInodes id)) ∧ Below w.heap.size w w' := by
  obtain ⟨a0, c0, a1, c1, a2, c2, rfl, hI, _, _, _, _⟩ := hr
  have hrs := hI.2.2
  clear hI
  generalize m.fInodes = l at *
  obtain ⟨n, hn⟩ : ∃ n, l.length = n := ⟨_, rfl⟩
  have HX := Hid.mk hn
  rw [hn] at hlen ⊢
  clear hn
  go_enter Tryz.func57, Tryz.ntmps57
  go_wp2
  go_loop [5] (fun i => ∃ k : Nat, k ≤ n ∧ i = .int .i64 k ∧ ∀ j, (hj : j < l.length) → j < k → l[j].fId ≠ id) (fun i => n - (intOf i).toNat)
  case atStart => exact ⟨0, Nat.zero_le _, rfl, fun j _ hj => by omega⟩
  case round =>
    obtain ⟨k, hk, rfl, hno⟩ := hrel
    have HNo := Hid.mk hno
    clear hno
    by_cases hlt : k < n
    · have hkl : k < l.length := by rw [HX.out]; exact hlt
      obtain ⟨b1, o1, rfl, hB, cs, hcl, hcell, b1', c1', rfl, _⟩ := hrs k hkl
      have k0 := hcell 0 _ rfl
      rw [Nat.add_zero] at k0
      by_cases he : l[k].fId = id
      · have HV := Hid.mk (placeZ_at hkl he HNo.out)
        have heb : (l[k].fId == id) = true := by simp [he]
        generalize l[k].fId = y at k0 heb
        clear hrs hcell hcl he HNo
        go_wp2
        go_ret
        exact ⟨by rw [HV.out]; rfl, (Below.refl _ _).alloc (Nat.le_refl _) _⟩
      · have heb : (l[k].fId == id) = false := by simp [he]
        have HNe := Hid.mk he
        clear he
        have HNo' : Hid (∀ j, (hj : j < l.length) → j < k + 1 → l[j].fId ≠ id) := fun j hj hjk => by
          by_cases hjk' : j = k
          · subst hjk'; exact HNe.out
          · exact HNo.out j hj (by omega)
        generalize l[k].fId = y at k0 heb
        clear hrs hcell hcl HNo HNe
        go_wp2
        go_round
        case rel => exact ⟨k + 1, by omega, by go_num, HNo'.out⟩
        case measure => simp [intOf]; omega
    · have HV := Hid.mk (placeZ_no (l := l) (id := id) (fun j hj => HNo.out j hj (by have := HX.out; omega)))
      clear HNo
      go_wp2
      go_ret
      exact ⟨by rw [HV.out]; rfl, (Below.refl _ _).alloc (Nat.le_refl _) _⟩

end Go.Proofs.YtnohnkcijomdjaaGreatDoor
