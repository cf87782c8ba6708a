/-
  Part 25 of the texts that the proof leans on.
-/
import Derived.Test.YtcamcgfbljhbhaaGreatDoorMan23
import Derived.Shelf.Strings.FieldsAny
import Derived.Test.YtcamcgfbljhbhaaGreatDoorMan10
import Derived.Test.YtcamcgfbljhbhaaGreatDoorMan0
import Derived.Test.YtcamcgfbljhbhaaGreatDoorMan12
import Derived.Test.YtcamcgfbljhbhaaGreatDoorMan2
import Derived.Deep.AppendSrc
import Derived.Test.YtcamcgfbljhbhaaGreatDoorMan8
import Derived.Test.YtcamcgfbljhbhaaGreatDoorMan20
import Derived.Test.YtcamcgfbljhbhaaGreatDoorMan11
import Derived.Test.YtcamcgfbljhbhaaGreatDoorMan1
import Derived.Test.YtcamcgfbljhbhaaGreatDoorMan3
set_option linter.unusedVariables false
set_option linter.unusedSimpArgs false
set_option maxRecDepth 10000
set_option maxHeartbeats 20000000

namespace Go.Proofs.YtcamcgfbljhbhaaGreatDoor
open Go.RowKit Go.Maps Go.Shelf
theorem Da : ∀ (a b : List (List UInt8)), mQ (a ++ b) = mQ a + mQ b
 | [], b => by simp [mQ, aP]
 | x :: a, b => by have := Da a b; simp only [mQ, List.cons_append, aP] at this ⊢; omega
theorem KZ (x : List UInt8) : mQ [x] = x.length := by simp [mQ, aP]
theorem Bd (cur : List UInt8) : mQ (if cur = [] then [] else [cur]) = cur.length := by
 by_cases h : cur = []
 ·rw [if_pos h, h]; rfl
 ·rw [if_neg h, KZ]
theorem EL {cur x : List UInt8} (h : x ∈ (if cur = [] then [] else [cur])) : x ≠ [] := by
 by_cases hc : cur = []
 ·rw [if_pos hc] at h; cases h
 ·rw [if_neg hc] at h; simp at h; rw [h]; exact hc
theorem l5 : ∀ (f : Nat) (cur l : List UInt8), mQ (Lib.fieldsGoD f cur l) <= cur.length + l.length /\ ∀ x, x ∈ Lib.fieldsGoD f cur l -> x ≠ []
 | 0, cur, l => by
  unfold Lib.fieldsGoD; rw [Bd]; exact ⟨by omega, fun x hx => EL hx⟩
 | f + 1, cur, l => by
  unfold Lib.fieldsGoD
  split
  ·rw [Bd]; exact ⟨by omega, fun x hx => EL hx⟩
  ·split
   ·obtain ⟨h1, h2⟩ := l5 f [] (l.drop (Lib.decodeL l).2)
    rw [Da, Bd]; rw [List.length_drop] at h1; refine ⟨by simp only [List.length_nil] at h1; omega, fun x hx => ?_⟩; rcases List.mem_append.1 hx with hx | hx
    ·exact EL hx
    ·exact h2 x hx
   ·obtain ⟨h1, h2⟩ := l5 f (cur ++ l.take (Lib.decodeL l).2) (l.drop (Lib.decodeL l).2)
    rw [List.length_drop, List.length_append, List.length_take] at h1; exact ⟨by omega, h2⟩
theorem su (l : List UInt8) : mQ (Lib.fieldsD l) <= l.length := by
 have := (l5 (l.length + 1) [] l).1; rw [List.length_nil, Nat.zero_add] at this; exact this
theorem Db : ∀ {L : List (List UInt8)} {x : List UInt8}, x ∈ L -> x.length <= mQ L
 | y :: L, x, h => by
  simp only [mQ, aP]; rcases List.mem_cons.1 h with rfl | h
  ·omega
  ·have := Db h; simp only [mQ] at this; omega
theorem ym : ∀ {L : List (List UInt8)}, (∀ x, x ∈ L -> x ≠ []) -> L.length <= mQ L
 | [], _ => by simp
 | y :: L, h => by
  have h1 := ym (L := L) (fun x hx => h x (by simp [hx])); have h2 : 0 < y.length := List.length_pos_iff.2 (h y (by simp)); simp only [mQ, aP, List.length_cons] at h1 ⊢; omega
theorem Be (l : List UInt8) : (Lib.fieldsD l).length <= l.length :=
 Nat.le_trans (ym (l5 (l.length + 1) [] l).2) (su l)
theorem EM {l x : List UInt8} (h : x ∈ Lib.fieldsD l) : x.length <= l.length := Nat.le_trans (Db h) (su l)
theorem ja : ∀ l : List (List UInt8), mQ l = (l.headD []).length + mQ l.tail
 | [] => rfl
 | x :: l => rfl
theorem IB (l : List (List UInt8)) : (fB l).1.length <= (l.headD []).length := by
 cases l with
 | nil => simp [fB]
 | cons x l => simp only [fB]; cases tT x <;> simp
theorem Dc (l : List (List UInt8)) : (fj l).1.length <= (l.headD []).length :=
 Nat.le_trans (pd _ _ rN) (IB l)
theorem IC (l : List (List UInt8)) : (cV l).1.length <= (l.headD []).length := by
 cases l with
 | nil => simp [cV]
 | cons x l => simp only [cV]; cases tT x <;> simp
theorem EN (l : List (List UInt8)) (h : (cV l).1 = m9) : 1 + kw (vT l.tail) + mQ l.tail.tail.tail.tail.tail <= mQ l := by
 have h0 := IC l; rw [h] at h0; have h3 := Dc l.tail.tail.tail; have h4 := Dc l.tail.tail.tail.tail; have e0 := ja l; have e1 := ja l.tail; have e2 := ja l.tail.tail; have e3 := ja l.tail.tail.tail; have e4 := ja l.tail.tail.tail.tail; have ht : m9.length = 3 := rfl; simp only [kw, vT, fE]; omega
theorem vD : ∀ (f : Nat) (l : List (List UInt8)) (b : Bool) (ts : List aT), (jg f l b ts).2 = false -> (jg f l b ts).1.length + aP kw (jg f l b ts).1 <= ts.length + aP kw ts + mQ l
 | 0, l, b, ts, h => by cases h
 | f + 1, l, b, ts, h => by
  unfold jg at h ⊢; cases b
  ·simp only [cond_false] at h ⊢
   by_cases he : (cV l).1 = ia
   ·rw [decide_eq_true he] at h ⊢
    simp only [cond_true]; omega
   ·rw [decide_eq_false he] at h ⊢
    simp only [cond_false] at h ⊢; have ih := vD f _ _ _ h
    have hb : yl l.tail (uM l false) = false := by
     cases hq : yl l.tail (uM l false)
     ·rfl
     ·rw [hq] at h
      cases f <;> cases h
    have hn : (cV l).1 = m9 := by
     unfold yl at hb; simp only [Bool.or_eq_false_iff] at hb; have h1 := hb.1.1.1.1; unfold uM at h1; simp only [Bool.or_eq_false_iff, Bool.not_eq_false'] at h1; exact of_decide_eq_true h1.2
    have hw := EN l hn; rw [List.length_append, Iw] at ih; simp only [List.length_cons, List.length_nil] at ih; omega
  ·cases h
theorem EO (l : List (List UInt8)) (h : (fV l).2 = false) : fP (fV l).1 <= mQ l := by
 have h1 := vD _ _ _ _ h; have e0 := ja l; have e1 := ja l.tail; have e2 := ja l.tail.tail; have e3 := ja l.tail.tail.tail
 show (jg (l.length + 2) l.tail.tail.tail.tail (tX l) []).1.length + aP kw (jg (l.length + 2) l.tail.tail.tail.tail (tX l) []).1 <= _; simp only [List.length_nil, aP] at h1; omega
theorem K0 {s : ByteArray} {b : UInt8} (h : b ∈ eF s) : b.toNat < 128 := by
 unfold eF at h; rw [List.mem_flatMap] at h; obtain ⟨c, _, hc⟩ := h; have h0 : ∀ i : Fin 16, (lH i.val).toNat < 128 := by decide
 have hlt := c.toNat_lt; unfold x5 at hc; simp only [List.mem_cons, List.not_mem_nil, or_false] at hc; rcases hc with rfl | rfl
 ·exact h0 ⟨c.toNat / 16, by omega⟩
 ·exact h0 ⟨c.toNat % 16, by omega⟩
theorem dec_lt {n : Int} {b : UInt8} (h : b ∈ cw n) : b.toNat < 128 := by have := ii h; omega
theorem EP (m : aK) : ∀ b ∈ fq m, b.toNat < 128 := by
 have hc : ∀ (k : List UInt8), (∀ x, x ∈ k -> x.toNat < 128) -> ∀ b, b ∈ k -> b.toNat < 128 := fun k h => h
 intro b hb; simp only [fq, gM, dr, eR, List.mem_append, List.mem_flatMap] at hb; have h1 : ∀ x, x ∈ vy -> x.toNat < 128 := by decide
 have h2 : ∀ x, x ∈ CF -> x.toNat < 128 := by decide
 have h3 : ∀ x, x ∈ m9 -> x.toNat < 128 := by decide
 have h4 : ∀ x, x ∈ ia -> x.toNat < 128 := by decide
 have h5 : ∀ x : UInt8, x ∈ [(10 : UInt8)] -> x.toNat < 128 := by decide
 have h6 : ∀ x : UInt8, x ∈ [(32 : UInt8)] -> x.toNat < 128 := by decide
 rcases hb with ((((((h | h) | h) | h) | h) | ⟨t, _, h⟩) | h) | h
 ·exact h1 b h
 ·exact dec_lt h
 ·exact h2 b h
 ·exact dec_lt h
 ·exact h5 b h
 ·rcases h with ((((((((h | h) | h) | h) | h) | h) | h) | h) | h) | h
  ·exact h3 b h
  ·exact h6 b h
  ·exact dec_lt h
  ·exact h6 b h
  ·exact dec_lt h
  ·exact h6 b h
  ·exact K0 h
  ·exact h6 b h
  ·exact K0 h
  ·exact h5 b h
 ·exact h4 b h
 ·exact h5 b h
theorem yo {m : aK} {s : ByteArray} (h : bO m = true) (hs : cH m = s) : fV (Lib.fieldsD s.data.toList) = (m, false) := by
 have e : s.data.toList = fq m := by rw [<- hs, kg h, eE]
 rw [e, Lib.fieldsD_ascii _ (EP m)]; exact Iu h
theorem ID {s : ByteArray} (h : (fV (Lib.fieldsD s.data.toList)).2 = true) : io s = (⟨0, 0, []⟩, false) := by
 refine C4 fun m hm he => ?_
 rw [yo hm he] at h; cases h
theorem Dd {s : ByteArray} (h : cH (fV (Lib.fieldsD s.data.toList)).1 ≠ s) : io s = (⟨0, 0, []⟩, false) := by
 refine C4 fun m hm he => h ?_
 rw [yo hm he]; exact he
theorem EQ {s : ByteArray} (hb : (fV (Lib.fieldsD s.data.toList)).2 = false) (h : cH (fV (Lib.fieldsD s.data.toList)).1 = s) : io s = ((fV (Lib.fieldsD s.data.toList)).1, true) := by
 by_cases hm : bO (fV (Lib.fieldsD s.data.toList)).1 = true
 ·have := uN hm
  rwa [h] at this
 ·have h0 := nD (Bool.eq_false_iff.2 hm)
  rw [h] at h0; subst h0; cases hb
structure vU (w : World) : Prop where
 sp : Lib.TabIs Tryz.prog w "strings.asciiSpace" .u8 Lib.asciiSpaceTab
 XH : bJ.g 0 < w.heap.size
 wh : Lib.WhiteTab (bJ.g 6) w
 er : Gd w
 pw : Pow w
theorem vU.below {w w' : World} (h : vU w) (hb : Below w.heap.size w w') : vU w' :=
 ⟨var?_below hb (by kernel_rfl) h.XH h.sp, Nat.lt_of_lt_of_le h.XH hb.size, WhiteTab_below h.wh hb, h.er.below hb, h.pw.below hb⟩
theorem vU.size {w : World} (h : vU w) : 0 < w.heap.size := Nat.lt_of_le_of_lt (Nat.zero_le _) h.XH
theorem ER (s : ByteArray) (w : World) (hs : s.size <= 1048576) (hT : vU w) :
  Calls Tryz.prog 34 #[.string s] w fun e w' => ∃ A, e = .returned (.slice (some ⟨A, 0, none⟩) (Lib.fieldsD s.data.toList).length (Lib.fieldsD s.data.toList).length) /\ A < w'.heap.size /\ Below w.heap.size w w' /\
   ∀ (j : Nat) (x : List UInt8), (Lib.fieldsD s.data.toList)[j]? = some x -> w'.cell? ⟨A, j, none⟩ = some (.string (aU x)) := by
 refine (Any.strings_Fields_any z6 (by kernel_rfl) (by kernel_rfl) (by kernel_rfl) s w (by omega) hT.sp hT.wh).mono ?_; rintro e w1 ⟨A, rfl, hA, ho, hb⟩
 have hlt : A < w1.heap.size := by
  rcases ho.2 with ⟨hn, _⟩ | ⟨g, cap, cur, he, _, hg, _⟩
  ·cases hn
  ·injection he with he _ _; injection he with he; injection he with he; subst he; exact (Array.getElem?_eq_some_iff.1 hg).1
 refine ⟨A, rfl, hlt, hb, fun j x hx => ?_⟩; have := ho.cells (g := A) rfl j (.string (aU x)) (by rw [List.getElem?_map, hx]; rfl); have e2 : ((⟨A, 0, none⟩ : Addr).add j) = ⟨A, j, none⟩ := (by simp [Addr.add]; exact fun h => h.symm)
 rwa [e2] at this
theorem K1 {w : World} {A R : Nat} {l : List (List UInt8)} {n : Nat} (hl : ∀ x, x ∈ l -> x.length <= n) (hn : n <= 1048576) (hb : Bw w A 65 [.slice (some ⟨R, 0, none⟩) l.length l.length, .bool false]) (hR : R < A)
  (hc : ∀ (j : Nat) (x : List UInt8), l[j]? = some x -> w.cell? ⟨R, j, none⟩ = some (.string (aU x))) : qh w A l false := by
 have hA := hb.lt; refine ⟨_, _, hb, rN, fun j x hx => ⟨Nat.le_trans (hl x (List.mem_of_getElem? hx)) hn, R, 0, rfl, hR, by omega, ?_⟩⟩; rw [Nat.zero_add]; exact hc j x hx
theorem qr (s : ByteArray) (w : World) (hs : s.size <= 1048576) (hT : vU w) :
  Calls Tryz.prog 11 #[.string s] w fun e w' => ∃ (cs : List Value) (F : List Nat), e = .returned (.tuple #[.agg cs.toArray, .bool (io s).2]) /\ uF w' cs (io s).1 F /\ F.Nodup /\ (∀ b, b ∈ F -> w.heap.size <= b) /\ Below w.heap.size w w' := by
 have HT := Hm hT; have HS := Hm hs; have SG : s.data.toList.length <= 1048576 := by rw [Ir]; exact hs
 have ZC : Hid (∀ x, x ∈ Lib.fieldsD s.data.toList -> x.length <= s.data.toList.length) := fun x hx => EM hx
 have HFC : Hid ((Lib.fieldsD s.data.toList).length <= 1048576) := Nat.le_trans (Be _) SG; have Uw : Hid (mQ (Lib.fieldsD s.data.toList) <= 1048576) := Nat.le_trans (su _) SG; have AG := Hm SG; have XI : Hid ((fV (Lib.fieldsD s.data.toList)).2 = true -> io s = (⟨0, 0, []⟩, false)) := fun h => ID h
 have XJ : Hid (cH (fV (Lib.fieldsD s.data.toList)).1 ≠ s -> io s = (⟨0, 0, []⟩, false)) := fun h => Dd h
 have LZ : Hid ((fV (Lib.fieldsD s.data.toList)).2 = false -> cH (fV (Lib.fieldsD s.data.toList)).1 = s -> io s = ((fV (Lib.fieldsD s.data.toList)).1, true)) := fun h1 h2 => EQ h1 h2
 have ZE : Hid ((fV (Lib.fieldsD s.data.toList)).2 = false -> fP (fV (Lib.fieldsD s.data.toList)).1 <= mQ (Lib.fieldsD s.data.toList)) := fun h => EO _ h
 have hF := Hm (fun W hW => ER s W hs hW); have hx1 : (Lit.int .i64 (fV (Lib.fieldsD s.data.toList)).1.ah).wf = true := fW _; have hx2 : (Lit.int .i64 (fV (Lib.fieldsD s.data.toList)).1.ce).wf = true := fW _; have HX := Hm (And.intro hx1 hx2); have XK := Hm (fun A W h1 h2 h3 h4 h5 => Bc A (Lib.fieldsD s.data.toList) W h1 h2 h3 h4 h5 HFC.out); generalize Lib.fieldsD s.data.toList = l at *; obtain ⟨m, hm⟩ : ∃ m, m = (fV l).1 := ⟨_, rfl⟩
 obtain ⟨bad, P8⟩ : ∃ m, m = (fV l).2 := ⟨_, rfl⟩
 obtain ⟨PM, Tg⟩ : ∃ m, m = io s := ⟨_, rfl⟩
 rw [<- hm, <- P8] at XK LZ ZE; rw [<- hm] at XJ HX; rw [<- P8] at XI; rw [<- Tg] at XI XJ LZ ⊢; clear hm P8 Tg hT hx1 hx2 hs SG; obtain ⟨w1, di⟩ : ∃ q, q = w.alloc (.cells #[.int .i64 0, .int .i64 0, .slice none 0 0] 30) := ⟨_, rfl⟩
 have hb1 : Below w.heap.size w w1 := by rw [di]; exact rB.alloc rN _
 have hr1 : Bw w1 w.heap.size 30 [.int .i64 0, .int .i64 0, .slice none 0 0] := by rw [di]; exact Bw.new _ _ _
 have Fm := Hm hb1; have ZF := Hm hr1; go_enter Tryz.func11, Tryz.ntmps11; go_wp2_with (rw [<- di]); clear di hb1 hr1; refine (hF.out w1 (HT.out.below Fm.out)).mono ?_; rintro e w2 ⟨R, rfl, ZG, hb2, hc2⟩; have KT : Hid (Bw w2 w.heap.size 30 [.int .i64 0, .int .i64 0, .slice none 0 0]) := ZF.out.under hb2; have sJ : Hid (Below w.heap.size w w2) := af Fm.out hb2; have rv := Hm hc2; have XL := Hm ZG; clear hc2 hb2 ZF Fm ZG; obtain ⟨w3, hw3⟩ : ∃ q, q = w2.alloc (.cells #[.slice (some ⟨R, 0, none⟩) l.length l.length, .bool false] 65) := ⟨_, rfl⟩
 obtain ⟨A, hA⟩ : ∃ q, q = w2.heap.size := ⟨_, rfl⟩
 have cg : Bw w3 A 65 [.slice (some ⟨R, 0, none⟩) l.length l.length, .bool false] := by rw [hw3]; exact Bw.dX _ _ _ hA
 have hx3 : Below w2.heap.size w2 w3 := by rw [hw3]; exact rB.alloc rN _
 have LU : A < w3.heap.size := cg.lt; have ZH : w.heap.size <= A := by rw [hA]; exact sJ.out.size
 have hwr : w.heap.size < A := by rw [hA]; exact KT.out.lt
 have ZI : Hid (qh w3 A l false) := K1 ZC.out AG.out cg (by have := XL.out; omega) (fun j x hx => (hx3.cell (p := ⟨R, j, none⟩) XL.out).trans (rv.out j x hx)); have FP : Hid (Below w.heap.size w w3) := af sJ.out hx3; have P9 : Hid (Bw w3 w.heap.size 30 [.int .i64 0, .int .i64 0, .slice none 0 0]) := KT.out.under hx3; have HA := Hm (And.intro ZH (And.intro hwr LU)); clear cg hx3 LU ZH hwr; go_wp2_with (rw [<- hw3, <- hA]); clear hw3 hA rv XL sJ KT ZC; refine (XK.out A w3 ZI.out (HT.out.below FP.out).er HA.out.2.2 (Nat.lt_of_lt_of_le HT.out.er.1.2 HA.out.1) (Nat.lt_of_lt_of_le HT.out.er.2.2 HA.out.1)).mono ?_; rintro e w4 ⟨a, c, rfl, ⟨l', qQ⟩, Th, F, jc, zF, pq⟩; obtain ⟨p', c', hb4, _, _⟩ := qQ; obtain ⟨w5, pF⟩ : ∃ q, q = w4.alloc (.cells #[.int .i64 m.ah, .int .i64 m.ce, .slice a m.aD.length c] 30) := ⟨_, rfl⟩
 obtain ⟨M, hM⟩ : ∃ q, q = w4.heap.size := ⟨_, rfl⟩
 have pE : Below w4.heap.size w4 w5 := by rw [pF]; exact rB.alloc rN _
 have Hz : Bw w5 M 30 [.int .i64 m.ah, .int .i64 m.ce, .slice a m.aD.length c] := by rw [pF]; exact Bw.dX _ _ _ hM
 have Br := hb4.under pE; have uf : Bw w5 w.heap.size 30 [.int .i64 0, .int .i64 0, .slice none 0 0] := (P9.out.turn Th (by have := HA.out.2.1; simp; omega)).under pE; have qY := aF.frame (w' := w5) bq jc (fun q hq => pE.block q (aF.lt bq jc q hq)); have XM : Hid (Below w.heap.size w w4) := FP.out.trans (Th.below (fun k hk => by simp at hk; rw [hk]; exact HA.out.1) FP.out.size); have QQ : Below w.heap.size w w5 := af (FP.out.trans (Th.below (fun k hk => by simp at hk; rw [hk]; exact HA.out.1) FP.out.size)) pE; have Lm : ∀ q, q ∈ F -> w.heap.size < q := fun q hq => by have h1 := pq q hq; have h2 := HA.out.2; omega
 have NR := Hm Hz; have KC := Hm (And.intro qY (And.intro zF Lm)); have y7 := Hm uf; have XN := Hm QQ; have b1 := hb4.cell 1 _ rfl; have hlA := hb4.lt; have hr4 : Bw w4 w.heap.size 30 [.int .i64 0, .int .i64 0, .slice none 0 0] := P9.out.turn Th (by have := HA.out.2.1; simp; omega); have Ti := Hm pF; have ZJ := Hm hM; clear pF hM uf; clear hb4 pE qY jc zF pq Lm Th ZI FP P9 XK QQ Hz Br; cases bad
 ·have Lu : Hid (ct w5.heap.size w5 [.int .i64 m.ah, .int .i64 m.ce, .slice a m.aD.length c] m) := ⟨a, c, rfl, HX.out.1, HX.out.2, aF.leaf bq KC.out.1, trivial⟩
  have I6 : Hid (fP m <= 1048576) := Nat.le_trans (ZE.out (by first | rfl | trivial)) Uw.out; clear hr4; go_wp2_with fail; rw [<- Ti.out]; rw [<- ZJ.out]; clear Ti ZJ b1 hlA; refine (ig _ m w5 Lu.out I6.out (HT.out.below XN.out).pw).mono ?_; rintro e w6 ⟨rfl, eA⟩; have U2 := NR.out.under eA; have M2 := y7.out.under eA; have zJ : Hid (Below w.heap.size w w6) := af XN.out eA; have gL := aF.frame (w' := w6) bq KC.out.1 (fun q hq => eA.block q (aF.lt bq KC.out.1 q hq)); have I0 := Hm (And.intro gL KC.out.2); have m0 := U2.cell 0 _ rfl; have m1 := U2.cell 1 _ rfl; have m2 := U2.cell 2 _ rfl; have r0 := M2.cell 0 _ rfl; have r1 := M2.cell 1 _ rfl; have r2 := M2.cell 2 _ rfl; have f0 := M2.free 0; have f1 := M2.free 1; have f2 := M2.free 2; have oA := M2.lt; have yF := Hm M2; clear eA U2 M2 gL KC XN NR y7 Lu
  by_cases ht : cH m = s
  ·have Tj := Hm (LZ.out (by first | rfl | trivial) ht)
   have XO := Kk ht; generalize cH m = tx at XO ⊢; clear ht; go_wp2_with fail; have Lv := Af w6 w.heap.size (.int .i64 m.ah) (.int .i64 m.ce) (.slice a m.aD.length c); refine bodyPost_ret (v := .tuple #[.agg #[.int .i64 m.ah, .int .i64 m.ce, .slice a m.aD.length c], .bool true]) (by simp [results, Tryz.results11, go_sem, *]) rfl ?_; rw [Tj.out]; exact ⟨[.int .i64 m.ah, .int .i64 m.ce, .slice a m.aD.length c], F, rfl, ⟨_, F, rfl, HX.out.1, HX.out.2, aF.frame bq I0.out.1 (fun q hq => Lv.block q (aF.lt bq I0.out.1 q hq) (by have := I0.out.2.2 q hq; simp; omega)), by simp⟩, I0.out.2.1, fun b hb => Nat.le_of_lt (I0.out.2.2 b hb), zJ.out.trans (Lv.below (fun k hk => by simp at hk; omega) zJ.out.size)⟩
  ·have Tj := Hm (XJ.out ht)
   have XO := k_ne ht; generalize cH m = tx at XO ⊢; clear ht; go_wp2_with fail; have Lv := Af w6 w.heap.size (.int .i64 0) (.int .i64 0) (.slice none 0 0); refine bodyPost_ret (v := .tuple #[.agg #[.int .i64 0, .int .i64 0, .slice none 0 0], .bool false]) (by simp [results, Tryz.results11, go_sem, *]) rfl ?_; rw [Tj.out]; exact ⟨[.int .i64 0, .int .i64 0, .slice none 0 0], [], rfl, ⟨_, [], rfl, rfl, rfl, .inl ⟨rfl, rfl, rfl⟩, by simp⟩, by simp, (fun b hb => by cases hb), zJ.out.trans (Lv.below (fun k hk => by simp at hk; omega) zJ.out.size)⟩
 ·have Tj := Hm (XI.out (by first | rfl | trivial))
  have r0 := hr4.cell 0 _ rfl; have r1 := hr4.cell 1 _ rfl; have r2 := hr4.cell 2 _ rfl; have f0 := hr4.free 0; have f1 := hr4.free 1; have f2 := hr4.free 2; have oA := hr4.lt; clear hr4; go_wp2_with fail; have Lv := Af w4 w.heap.size (.int .i64 0) (.int .i64 0) (.slice none 0 0); refine bodyPost_ret (v := .tuple #[.agg #[.int .i64 0, .int .i64 0, .slice none 0 0], .bool false]) (by simp [results, Tryz.results11, go_sem, *]) rfl ?_; rw [Tj.out]; exact ⟨[.int .i64 0, .int .i64 0, .slice none 0 0], [], rfl, ⟨_, [], rfl, rfl, rfl, .inl ⟨rfl, rfl, rfl⟩, by simp⟩, by simp, (fun b hb => by cases hb), (XM.out.trans (Lv.below (fun k hk => by simp at hk; omega) XM.out.size)).alloc (Nat.le_trans XM.out.size Lv.size) _⟩
end Go.Proofs.YtcamcgfbljhbhaaGreatDoor

namespace Go.Proofs.YtcamcgfbljhbhaaGreatDoor
open Go.RowKit Go.Maps
theorem De (cs : List Value) (m : az) (s : ByteArray) (w : World) (hr : bg w.heap.size w cs m) (hs : s.size <= 9223372036854775807) (hw : aZ m <= 1048576) (di : s.size <= 1048576) :
  Calls Tryz.prog 37 #[.agg cs.toArray, .string s] w fun e w' => ∃ (v : Value) (F : List Nat), e = .returned (.tuple #[v, .bool (decide (aS m s = 0))]) /\ lO 5 w' v (gQ m s) F /\ F.Nodup /\ (∀ b, b ∈ F -> w.heap.size <= b) /\ Below w.heap.size w w' := by
 have hq := hr; obtain ⟨a0, c0, a1, c1, a2, c2, rfl, hI, gf, gT, kX, _⟩ := hq; have hw2 : m.aa.length + aP aJ m.aa + (m.ae.length + aP a7 m.ae) + (m.ag.length + aP a7 m.ag) <= 1048576 := hw; have HW := Hm hw; have HR := Hm hr; have HI := Hm hI; clear hr hI gf gT hw; have t6 := (Below.refl w.heap.size w).alloc rN (.cells #[.slice a0 m.aa.length c0, .slice a1 m.ae.length c1, .slice a2 m.ag.length c2, .int .i64 m.ah] 27); go_enter Tryz.func37, Tryz.ntmps37; go_wp2_with fail; refine (lV _ m s _ (aq.mono (aq.below HR.out t6) t6.size) HW.out hs).mono ?_; rintro e w1 ⟨p, rfl, hp, hx1⟩; have hb1 := af t6 hx1; have cg := (Bx.new w (cj a0 c0 a1 c1 a2 c2 m) 27).under hx1; have y0 := cg.2 0 _ rfl
 by_cases hC : aS m s = 0
 ·obtain ⟨hpl, I1⟩ := hp hC
  have mW : bc m = true := by
   unfold aS at hC
   by_cases h : (bc m && bH s) = true
   ·rw [Bool.and_eq_true] at h; exact h.1
   ·rw [if_neg h] at hC; cases hC
  have HD : Hid (gQ m s = m.aa[p].aG) := by
   show gQ m s = _; unfold gQ; rw [if_pos hC, Ha (rT (lQ mW).1) hpl I1]
  have HC := Hm hC; have Aw := jt (f := aJ) hpl; obtain ⟨b1, o1, rfl, hB, cs, iw, hcell, t8⟩ := (HI.out.2.2.below aV hb1) p hpl; obtain ⟨ad, cd, rfl, hid, Bn, hsu, _⟩ := t8; have k1 := hcell 1 _ rfl; rw [hC]; have vG : m.aa[p].aG.length <= 1048576 := by have : aJ m.aa[p] = m.aa[p].aG.length := rfl; omega
  generalize m.aa[p].aG = dt at *; clear hp I1 mW Aw hcell iw hC; go_wp2_with fail; refine (nK ad none cd 0 dt [] w1 (Bn.mono hb1.size) ⟨by simp, by omega, fun j hj => by simp at hj, fun z hz => by cases hz⟩ (by omega) (by simp)).mono ?_; rintro e w2 ⟨v, F, rfl, ho, hN, lx, hx2⟩; rw [List.append_nil] at ho; go_wp2_with fail; refine bodyPost_ret (v := .tuple #[v, .bool true]) (by simp [results, Tryz.results37, go_sem, *]) rfl ⟨v, F, by rw [decide_eq_true HC.out], by rw [HD.out]; exact ho, hN, fun b hb => Nat.le_trans hb1.size (lx b hb), af hb1 hx2⟩
 ·have HD : Hid (gQ m s = []) := by show gQ m s = _; unfold gQ; rw [if_neg hC]
  have HC := Hm (decide_eq_false hC); have Ek : (aS m s == 0) = false := beq_eq_false_iff_ne.2 hC; have El : (aS m s != 0) = true := bne_iff_ne.2 hC; clear hp hC; generalize aS m s = cp at Ek El ⊢; go_wp2_with fail; refine bodyPost_ret (v := .tuple #[.slice none 0 0, .bool false]) (by simp [results, Tryz.results37, go_sem, *]) rfl ⟨.slice none 0 0, [], by rw [HC.out], ?_, List.nodup_nil, (fun b hb => by cases hb), hb1⟩; rw [HD.out]; exact ⟨⟨by simp, .inl ⟨rfl, rfl⟩⟩, (fun z hz => by cases hz), rfl⟩
end Go.Proofs.YtcamcgfbljhbhaaGreatDoor

namespace Go.Proofs.YtcamcgfbljhbhaaGreatDoor
open Go.RowKit
end Go.Proofs.YtcamcgfbljhbhaaGreatDoor

namespace Go.Proofs.YtcamcgfbljhbhaaGreatDoor
open Go.RowKit Go.Maps Go.Shelf
def M3 : ByteArray := ⟨#[99, 117, 114]⟩
def IE (m : az) : aK × Bool := io (strOfNums (gQ m M3))
theorem Df (m : az) (s : ByteArray) (hw : aZ m <= 1048576) : (gQ m s).length <= 1048576 := by
 unfold gQ rJ; have hw2 : m.aa.length + aP aJ m.aa + (m.ae.length + aP a7 m.ae) + (m.ag.length + aP a7 m.ag) <= 1048576 := hw
 split
 ·by_cases h : placeOf m.aa (eK m.ae s) < m.aa.length
  ·rw [List.getElem?_eq_getElem h]
   have h1 := jt (f := aJ) h; have h2 : aJ m.aa[placeOf m.aa (eK m.ae s)] = m.aa[placeOf m.aa (eK m.ae s)].aG.length := rfl; simp; omega
  ·rw [List.getElem?_eq_none (by omega)]
   simp
 ·simp
theorem ES (m : az) (s : ByteArray) (hw : aZ m <= 1048576) : (strOfNums (gQ m s)).size <= 1048576 := by
 have := Df m s hw
 simpa [strOfNums, ByteArray.size] using this
theorem M4 {B : Nat} {w : World} {v : Value} {bs : List Int} (h : Av B w v bs) : (convert 22 9 v).run Tryz.prog w = .ok (.string (strOfNums bs)) w := by
 obtain ⟨a, c, rfl, hl⟩ := h; cases bs with
 | nil =>
  cases a with
  | none => exact run_convert_bytes_nil w 22 5 Tryz.underlying22 Tryz.underlying5 _ _ 9 Tryz.underlying9
  | some ad => exact run_convert_bytes_back w 22 9 5 ad c [] Tryz.underlying22 Tryz.underlying5 Tryz.underlying9 (fun j hj => by simp at hj)
 | cons z r =>
  obtain ⟨b, off, rfl, _, _⟩ := hl.2.2.1 0 (by simp)
  exact run_convert_bytes_arg w 22 5 Tryz.underlying22 Tryz.underlying5 b off _ c (z :: r) rfl (fun i hi => by
   obtain ⟨b', o', e', _, hc⟩ := hl.2.2.1 i hi; simp only [Option.some.injEq, Addr.mk.injEq, and_true] at e'; obtain ⟨rfl, rfl⟩ := e'; exact hc) 9 Tryz.underlying9
theorem yq {w w' : World} {b B : Nat} {t : TypeId} {x0 x1 x2 : Value} {cs : List Value} {m : aK} (hx : Bw w b t [x0, x1, x2]) (h : aw [b] w w') (hr : ct B w cs m) : ct B w' cs m := by
 obtain ⟨a2, c2, rfl, h0, h1, hl, _⟩ := hr; refine ⟨a2, c2, rfl, h0, h1, ⟨hl.1, hl.2.1, fun j hj => ?_⟩, trivial⟩; obtain ⟨g, off, e, hB, cs, k1, k2, k3⟩ := hl.2.2 j hj; obtain ⟨rfl, k4⟩ := k3
 have hne : g ≠ b := by
  rintro rfl; have h4 := k2 3 _ rfl; have yM : w.heap[g]? = some (.cells [x0, x1, x2].toArray t (0, 0)) := hx; simp [World.cell?, yM] at h4
 exact ⟨g, off, e, hB, _, k1, fun i u hu => (h.cell (p := ⟨g, off + j * 4 + i, none⟩) (World.block_lt_of_cell? _ _ (k2 i u hu)) (by simpa using hne)).trans (k2 i u hu), ⟨rfl, k4⟩⟩
theorem kU (cs : List Value) (m : az) (w : World) (hr : bg w.heap.size w cs m) (hw : aZ m <= 1048576) (hT : vU w) :
  Calls Tryz.prog 13 #[.agg cs.toArray] w fun e w' => ∃ (cs : List Value) (F : List Nat), e = .returned (.tuple #[.agg cs.toArray, .bool (IE m).2]) /\ uF w' cs (IE m).1 F /\ F.Nodup /\ (∀ b, b ∈ F -> w.heap.size <= b) /\ Below w.heap.size w w' := by
 have HR := Hm hr; have HW := Hm hw; have HT := Hm hT; obtain ⟨a0, c0, a1, c1, a2, c2, rfl, _⟩ := hr; obtain ⟨w1, di⟩ : ∃ q, q = (w.alloc (.cells #[.slice a0 m.aa.length c0, .slice a1 m.ae.length c1, .slice a2 m.ag.length c2, .int .i64 m.ah] 27)).alloc (.cells #[.int .i64 0, .int .i64 0, .slice none 0 0] 30) := ⟨_, rfl⟩
 have hb1 : Below w.heap.size w w1 := by rw [di]; exact (rB.alloc rN _).alloc (by simp) _
 have km : Bw w1 (w.heap.size + 1) 30 [.int .i64 0, .int .i64 0, .slice none 0 0] := by rw [di]; exact Bw.dX _ _ _ (by simp)
 have Fm := Hm hb1; have ZK := Hm km; have HN := Hm (ES m M3 hw); have U3 : Hid (IE m = io (strOfNums (gQ m M3))) := rfl; clear hb1 km hw hT; go_enter Tryz.func13, Tryz.ntmps13; go_wp2_with fail; rw [<- di]; clear di; refine (De _ m ⟨#[99, 117, 114]⟩ w1 (aq.mono (aq.below HR.out Fm.out) Fm.out.size) (by decide) HW.out (by decide)).mono ?_; rintro e w2 ⟨v, FB, rfl, vp, _, _, hx2⟩; have hcv := M4 (LR vp); have Cu := ZK.out.under hx2; have sJ : Hid (Below w.heap.size w w2) := af Fm.out hx2; have Oq := Hm Cu; clear hx2 ZK Fm vp Cu; have HN : Hid ((strOfNums (gQ m ⟨#[99, 117, 114]⟩)).size <= 1048576) := HN; have U3 : Hid (IE m = io (strOfNums (gQ m ⟨#[99, 117, 114]⟩))) := U3; generalize strOfNums (gQ m ⟨#[99, 117, 114]⟩) = tx at *; generalize decide (aS m ⟨#[99, 117, 114]⟩ = 0) = bo; go_wp2_with fail; refine (qr tx w2 HN.out (HT.out.below sJ.out)).mono ?_; rintro e w3 ⟨uB, F, rfl, ho, hNd, hF, hx3⟩; have HO := Hm ho; obtain ⟨v2, F2, rfl, _, _, Sh, _⟩ := ho; obtain ⟨a, c, rfl, _⟩ := aF.read bq Sh; clear Sh; have rF := Oq.out.under hx3; have HQ3 := Hm rF; have FP : Hid (Below w.heap.size w w3) := af sJ.out hx3; have HF : Hid (∀ b, b ∈ F -> w.heap.size + 1 < b) := fun b hb => by have h1 := hF b hb; have h2 := Oq.out.lt; omega
 have r0 := rF.cell 0 _ rfl; have r1 := rF.cell 1 _ rfl; have r2 := rF.cell 2 _ rfl; have f0 := rF.free 0; have f1 := rF.free 1; have f2 := rF.free 2; have oA := rF.lt; clear hx3 rF Oq sJ hcv hF; obtain ⟨PM, Tg⟩ : ∃ q, q = io tx := ⟨_, rfl⟩
 rw [<- Tg] at HO U3 ⊢; clear Tg; go_wp2_with fail; have Lv := Af w3 (w.heap.size + 1) (.int .i64 PM.1.ah) (.int .i64 PM.1.ce) (.slice a PM.1.aD.length c); refine bodyPost_ret (v := .tuple #[.agg #[.int .i64 PM.1.ah, .int .i64 PM.1.ce, .slice a PM.1.aD.length c], .bool PM.2]) (by simp [results, Tryz.results13, go_sem, *]) rfl ?_; rw [U3.out]; exact ⟨[.int .i64 PM.1.ah, .int .i64 PM.1.ce, .slice a PM.1.aD.length c], F, rfl, fI.frame HO.out (fun q hq => Lv.block q (fI.lt HO.out q hq) (by have := HF.out q hq; simp; omega)), hNd, fun b hb => by have := HF.out b hb; omega, FP.out.trans (Lv.below (fun k hk => by simp at hk; omega) FP.out.size)⟩
end Go.Proofs.YtcamcgfbljhbhaaGreatDoor

namespace Go.Proofs.YtcamcgfbljhbhaaGreatDoor
open Go.RowKit
theorem gA.imp {m : az} {s : ByteArray} {P Q : aI -> Prop} (h : gA m s P) (hpq : ∀ x, P x -> Q x) : gA m s Q := by
 obtain ⟨h1, x, h2, h3, h4⟩ := h; exact ⟨h1, x, h2, h3, hpq x h4⟩
theorem K2 {m : az} {s : ByteArray} {b : List Int} {P : aI -> Prop} (h : gA m s P) (hc : dD m s b = 0) : gA (bh m s b) s (fun x => ∃ y, P y /\ x = ni b y) := by
 have mW : bc (ir m s b) = true := by
  unfold dD at hc; rw [if_pos h.1] at hc
  by_cases hd : bc (ir m s b) = true
  ·exact hd
  ·rw [if_neg hd] at hc; cases hc
 have e : bh m s b = ir m s b := by unfold bh; rw [if_pos ⟨h.1, mW⟩]
 rw [e]; exact CE h (fun n => rfl) mW
theorem Dg {m : az} {s t : ByteArray} {P : aI -> Prop} (h : gA m s P) (hc : cD m s t = 0) : gA (bQ m s t) t P := by
 have h0 := GH hc; obtain ⟨_, x, hx, hid, hp⟩ := h; refine ⟨h0, x, ?_, ?_, hp⟩
 ·rw [un hc]
  show x ∈ bV { m with ae := bC m s t }; refine List.mem_filter.2 ⟨hx, fx.2 ?_⟩; refine List.mem_append.2 (.inl (List.mem_map.2 ⟨⟨t, eK m.ae s⟩, ?_, hid.symm⟩))
  show _ ∈ bC m s t; unfold bC; exact gp.2 (.inl rfl)
 ·have hr := bM.1 (cW h0).1
  have he : (⟨t, eK m.ae s⟩ : aB) ∈ (bQ m s t).ae := by
   rw [un hc]
   show _ ∈ bC m s t; unfold bC; exact gp.2 (.inl rfl)
  have := Fl hr.names.px he; rw [hid]; exact this.symm
theorem Dh {m : az} {t : ByteArray} {b : List Int} {s : ByteArray} (h : (dv m t b s).2 = 0) : gA (dv m t b s).1 s (fun x => x.aG = b /\ x.aW = b.length) /\ (dv m t b s).1.ag = (dv m t b s).1.ae := by
 have step : ∀ k, k < 5 -> py m t b s k -> u9 (bA m t) t b s k = 0 := fun k hk hs => by
  by_cases hc : u9 (bA m t) t b s k = 0
  ·exact hc
  ·rw [hs.out hk hc] at h; exact h
 have s0 := py.start m t b s; have c0 := step 0 (by omega) s0; have s1 := s0.on (by omega) c0; have c1 := step 1 (by omega) s1; have s2 := s1.on (by omega) c1; have c2 := step 2 (by omega) s2; have s3 := s2.on (by omega) c2; have c3 := step 3 (by omega) s3; have s4 := s3.on (by omega) c3; have c4 := step 4 (by omega) s4; have s5 := s4.on (by omega) c4; rw [s5.done]; have f1 := CD (m := bA m t) (s := t) c0; have f2 := K2 (b := b) f1 c1; have f3 := Ig f2; have f4 := Dg f3 c3; obtain ⟨f5, e5⟩ := A6 f4; refine ⟨f5.imp ?_, e5⟩; rintro x ⟨y, ⟨z, ⟨hz, _⟩, rfl⟩, rfl⟩; simp [jR, ni, hz]
theorem IG {m : az} {s : ByteArray} {b : List Int} {k : Int} (h : gA m s (fun x => x.aG = b /\ x.aW = b.length)) (hn : m.ag = m.ae) (hk : 0 <= k) : gQ (ei m k) s = b := by
 have f := Ih h hn hk; obtain ⟨x, ⟨y, ⟨h1, h2⟩, rfl⟩, hd⟩ := f.data; unfold gQ; rw [if_pos f.1, hd]
 show y.aG.take (y.aW + min k (y.aG.length - y.aW)).toNat = b; rw [h1, h2]; apply List.take_of_length_le; omega
theorem IH (s : ByteArray) : strOfNums (bu s) = s := by
 apply ByteArray.ext; apply Array.ext'
 show ((bu s).map fun n => UInt8.ofNat n.toNat).toArray.toList = s.data.toList; simp only [bu, List.map_map]; rw [List.map_congr_left (g := id)]
 ·simp
 ·intro b _
  simp
theorem II {m : az} {M : aK} (h : bO M = false) : ky m M = 1 /\ fU m M = m := by
 unfold ky fU; rw [A8 h]; exact ⟨rfl, rfl⟩
theorem IJ {m : az} {M : aK} (h : bO M = true) (hc : ky m M ≠ 0) : fU m M = m := by
 unfold ky at hc; unfold fU
 by_cases h2 : (dv m kN (jB M) kt).2 = 0
 ·rw [qM h h2] at hc
  exact absurd rfl hc
 ·rw [qb h h2]
theorem K3 {m : az} {M : aK} {k : Int} (h : bO M = true) (hc : ky m M = 0) (hk : 0 <= k) : IE (ei (fU m M) k) = (M, true) /\ aZ (fU m M) <= 1048576 /\ aZ (ei (fU m M) k) <= 1048576 := by
 have h2 : (dv m kN (jB M) kt).2 = 0 := by
  by_cases h2 : (dv m kN (jB M) kt).2 = 0
  ·exact h2
  ·unfold ky at hc
   rw [qb h h2] at hc; exact absurd hc h2
 have e : fU m M = (dv m kN (jB M) kt).1 := by unfold fU; rw [qM h h2]
 obtain ⟨f, en⟩ := Dh h2; have hb := IG f en hk; have mW := (cW f.1).1; rw [e]; refine ⟨?_, (rL mW).small, (wT (rL mW)).small⟩; unfold IE; rw [show M3 = kt from rfl, hb]; unfold jB; rw [IH]; exact uN h
end Go.Proofs.YtcamcgfbljhbhaaGreatDoor

namespace Go.Proofs.YtcamcgfbljhbhaaGreatDoor
open Go.RowKit Go.Maps
theorem Bf (cs : List Value) (m : az) (s : ByteArray) (vb : Value) (zb : List Int) (w : World) (hr : bg w.heap.size w cs m) (hs : s.size <= 9223372036854775807) (Ss : Av w.heap.size w vb zb) (hw : aZ m <= 1048576) (di : s.size <= 1048576) (gj : zb.length <= 2097152) :
  Calls Tryz.prog 55 #[.agg cs.toArray, .string s, vb] w fun e w' => ∃ (cs' : List Value) (F : List Nat), e = .returned (.tuple #[.agg cs'.toArray, .int .i64 (dD m s zb)]) /\ ba w' cs' (bh m s zb) F /\ F.Nodup /\ (∀ b, b ∈ F -> w.heap.size <= b) /\ Below w.heap.size w w' := by
 obtain ⟨ab, cb, rfl, zw⟩ := Ss; have UD := Hm zw; clear zw; have hq := hr; obtain ⟨a0, c0, a1, c1, a2, c2, rfl, hI, gf, gT, kX, _⟩ := hq; have hw2 : m.aa.length + aP aJ m.aa + (m.ae.length + aP a7 m.ae) + (m.ag.length + aP a7 m.ag) <= 1048576 := hw; have HW := Hm hw; have HR := Hm hr; clear hr hI gf gT hw; go_enter Tryz.func55, Tryz.ntmps55; go_wp2_with fail; obtain ⟨wq, bI⟩ : ∃ wq, wq = ((w.alloc (.cells #[.slice a0 m.aa.length c0, .slice a1 m.ae.length c1, .slice a2 m.ag.length c2, .int .i64 m.ah] 27)).alloc (.cells #[.slice none 0 0, .slice none 0 0, .slice none 0 0, .int .i64 0] 27)) := ⟨_, rfl⟩
 have cJ : Below w.heap.size w wq := by rw [bI]; exact Below.alloc (Below.alloc rB (by exact rN) _) (by simp; try omega) _
 have dl : Bw wq (w.heap.size) 27 [.slice a0 m.aa.length c0, .slice a1 m.ae.length c1, .slice a2 m.ag.length c2, .int .i64 m.ah] := by rw [bI]; exact Bw.alloc (Bw.dX _ _ _ (by simp)) _
 have hbr : Bw wq (w.heap.size + 1) 27 [.slice none 0 0, .slice none 0 0, .slice none 0 0, .int .i64 0] := by rw [bI]; exact Bw.dX _ _ _ (by simp)
 rw [<- bI]; clear bI; refine (lV _ m s wq (aq.mono (aq.below HR.out cJ) cJ.size) HW.out hs).mono ?_; rintro e w1 ⟨p, rfl, hp, hx1⟩; have HP := Hm hp; clear hp; have hb1 := af cJ hx1; have df := dl.under hx1; have dB := hbr.under hx1; have sF := dB.lt; have acz := df.lt; have Ln := hb1.size; obtain ⟨y0, y1, y2, y3⟩ := df.c4; clear dl hbr
 by_cases hC : aS m s = 0
 ·obtain ⟨hpl, I1⟩ := HP.out hC
  have U4 := Hm (qC hC hpl I1); have hwt := eB (cW hC).1; obtain ⟨n, hn⟩ : ∃ n, n = ir m s zb := ⟨_, rfl⟩
  have Dp : n.aa.length = m.aa.length := by rw [hn]; exact jD
  have AJ : aZ n <= 16777216 := by
   rw [hn]; unfold ir; rw [cR]; have h1 := nU (l := m.aa) (k := fileAt m s) (f := ni zb) (c := zb.length) (fun x => by unfold ni aJ; simp); have h2 := jD (l := m.aa) (k := fileAt m s) (f := ni zb); simp only [h2]; omega
  have HV : Hid (bh m s zb = dJ m n /\ dD m s zb = pV n) := by
   refine ⟨?_, ?_⟩
   ·unfold bh dJ; rw [hn, hC]; simp
   ·unfold dD pV; rw [hn, hC]; simp
  have kn : Hid (n = { m with aa := jQ m.aa p (ni zb) } /\ n.ae = m.ae /\ n.ag = m.ag /\ n.ah = m.ah) := by rw [hn]; refine ⟨?_, rfl, rfl, rfl⟩; unfold ir; rw [U4.out]
  have yE := Hm Dp; have Mi := Hm AJ; clear hn Dp AJ I1 U4 hwt; rw [hC]; go_wp2_with fail; refine (cE _ m w1 (aq.mono (aq.below HR.out hb1) hb1.size) HW.out).mono ?_; rintro e w2 ⟨FH, F2, rfl, mm, nW, jT, hx2⟩; obtain ⟨d0, e0, d1, e1, d2, e2, G0, G1, G2, rfl, o0, o1, o2, _, rfl⟩ := aC mm; have sH := Hm o0; have vO := Hm o1; have zG := Hm o2; have HO := Hm mm; have HN := Hm nW; have jH : Hid (∀ b, b ∈ G0 ++ G1 ++ G2 ++ [] -> w1.heap.size <= b) := jT; have gZ : Hid (∀ b, b ∈ G0 ++ G1 ++ G2 ++ [] -> b < w2.heap.size) := fun b hb => aj.lt mm b hb
  clear mm nW jT o0 o1 o2; have hb2 := af hb1 hx2; have bZ := dB.under hx2; have eT := df.under hx2; have hz2 := hx2.size; obtain ⟨g, cap, hv, Mp, iV⟩ := aF.shape sH.out (by omega); simp only [Value.slice.injEq, true_and] at hv; obtain ⟨rfl, rfl⟩ := hv; have AP := HN.out; rw [List.append_nil, List.append_assoc, List.nodup_append] at AP; obtain ⟨uB, Fk, o3, n3, f3, _, c3, z3, hput⟩ := aF.split aH sH.out AP.1 hpl; have Ds := Hm AP; have JY := Hm hput; have Pi := Hm f3; have HNK := Hm n3; obtain ⟨v3, F3, hc3, i3, b3, s3, WH⟩ := o3; subst hc3; obtain ⟨a3, l3, rfl, Eh⟩ := b3.read; have k1 := c3 1 _ rfl; have r1 := z3 (p * 3 + 1); have Ei := jH.out g (by simp [Mp]); have vG : m.aa[p].aG.length <= 1048576 := by have h1 := jt (f := aJ) hpl; have h2 : aJ m.aa[p] = m.aa[p].aG.length := rfl; omega
  have RO : (0 : Int) <= (p : Int) := by omega
  have Pj : (p : Int) < (m.aa.length : Int) := by omega
  obtain ⟨nd, zz⟩ : ∃ nd, nd = m.aa[p] := ⟨_, rfl⟩
  have WI := Hm zz; rw [<- zz] at k1 vG b3 i3 s3 Eh JY; have FP := Hm b3; have Sv := Hm Eh; have WJ := Hm i3; have dx := Hm s3; clear c3 z3 AP hput f3 n3 b3 Eh i3 s3 zz; have cQ := Hm hpl; clear y0 y1 y2 y3; go_wp2_with fail; obtain ⟨wo, Bu⟩ : ∃ wo, wo = w2.alloc (.cells #[.slice (some ⟨g, 0, none⟩) m.aa.length e0, .slice d1 m.ae.length e1, .slice d2 m.ag.length e2, .int .i64 m.ah] 27) := ⟨_, rfl⟩
  have ej : Below w2.heap.size w2 wo := by rw [Bu]; exact rB.alloc rN _
  have gj : Bw wo w2.heap.size 27 [.slice (some ⟨g, 0, none⟩) m.aa.length e0, .slice d1 m.ae.length e1, .slice d2 m.ag.length e2, .int .i64 m.ah] := by rw [Bu]; exact Bw.new _ _ _
  rw [<- Bu]; clear Bu; have Qa := af hb2 ej; have ZL : fM wo.heap.size wo a3 l3 nd.aG := fM.mono (fM.below Sv.out ej) ej.size; have Gn : fM wo.heap.size wo ab cb zb := fM.mono (UD.out.below Qa) Qa.size; refine (nK a3 ab l3 cb nd.aG zb wo ZL Gn (by omega) (by omega)).mono ?_; rintro e w3 ⟨vj, Fj, rfl, U5, ZM, Tk, hx3⟩; obtain ⟨rj, qj, rfl, _⟩ := U5.read; obtain ⟨tl, GZ⟩ : ∃ tl, (nd.aG ++ zb).length = tl := ⟨_, rfl⟩
  rw [GZ] at U5 ⊢; clear GZ; have Di := af ej hx3; have hb3 := af Qa hx3; have lj := gj.under hx3; have jJ := eT.under Di; have dc := bZ.under Di; have I3 := (Di.cell (p := ⟨g, p * 3 + 1, none⟩) iV).trans k1; have UE := (Di.frozen (p := ⟨g, p * 3 + 1, none⟩) iV).trans r1; have sI := lj.lt; have Pn := jJ.lt; have acA : g < w3.heap.size := Nat.lt_of_lt_of_le iV Di.size; have vV : g ≠ w2.heap.size := by omega
  have ZN : g ≠ w.heap.size := by omega
  obtain ⟨y0, y1, y2, y3⟩ := jJ.c4; obtain ⟨x0, x1, x2, x3⟩ := lj.c4; have HOJ := Hm U5; have HNJ := Hm ZM; have XP : Hid (∀ b, b ∈ Fj -> w2.heap.size <= b) := fun b hb => Nat.le_trans ej.size (Tk b hb)
  clear U5 ZM Tk k1 r1 ZL Gn; go_wp2_with fail; obtain ⟨ws, jh⟩ : ∃ ws, ws = w3.setCell ⟨g, p * 3 + 1, none⟩ (.slice rj tl qj) := ⟨_, rfl⟩
  have jw : aw [g] w3 ws := by rw [jh]; exact aw.setCell (aw.refl _ _) (by simp) _
  have Ms : ∃ F', ba ws [.slice (some ⟨g, 0, none⟩) m.aa.length e0, .slice d1 m.ae.length e1, .slice d2 m.ag.length e2, .int .i64 m.ah] n F' /\ F'.Nodup /\ ∀ b, b ∈ F' -> w1.heap.size <= b := by
   obtain ⟨F', p1, p2, p3⟩ := JY.out w3 1 (.slice rj tl qj) (ni zb nd) (Fj ++ []) Fj (by omega) (aw.bz Di) ⟨_, Fj, rfl, WJ.out, HOJ.out, dx.out, rfl⟩ (by rw [List.append_nil]; exact HNJ.out) (fun b hb => .inr (by simpa using hb)) (fun b hb hb0 => by have := XP.out b hb; have := gZ.out b (by simp [hb0]); omega)
   have m6 : ∀ b, b ∈ G1 ++ G2 -> ws.heap[b]? = w2.heap[b]? := fun b hb => by
    have hb' : b ∈ G0 ++ G1 ++ G2 ++ [] := by simp at hb ⊢; exact .inr hb
    rw [jw.block b (by have := gZ.out b hb'; have := Di.size; omega) (by intro h; simp at h; exact Ds.out.2.2 g Mp b hb h.symm), Di.block b (gZ.out b hb')]
   have t1 := aF.frame (w' := ws) ay vO.out (fun b hb => m6 b (by simp [hb])); have t2 := aF.frame (w' := ws) ay zG.out (fun b hb => m6 b (by simp [hb])); rw [<- jh, WI.out] at p1; refine ⟨F' ++ G1 ++ G2 ++ [], ?_, ?_, ?_⟩
   ·rw [kn.out.1]
    exact Hb cQ.out p1 t1 t2 kX
   ·rw [List.append_nil, List.append_assoc, List.nodup_append]
    refine ⟨p2, Ds.out.2.1, fun a ha b hb hab => ?_⟩; subst hab; rcases p3 a ha with h | h
    ·exact Ds.out.2.2 a h a hb rfl
    ·have := XP.out a h; have := gZ.out a (by simp at hb ⊢; exact .inr hb); omega
   ·intro b hb
    simp at hb; rcases hb with hb | hb
    ·rcases p3 b hb with h | h
     ·exact jH.out b (by simp [h])
     ·have := XP.out b h; omega
    ·exact jH.out b (by simp; exact .inr hb)
  obtain ⟨Fs9, Ow, hNS, Wv⟩ := Ms; have oT := jJ.turn jw (by simp; omega); have jd := dc.turn jw (by simp; omega); have l8 : Below w.heap.size w ws := hb3.trans (jw.below (fun k hk => by simp at hk; omega) hb3.size); rw [<- jh]; clear jh jw I3 UE y0 y1 y2 y3 x0 x1 x2 x3; have hcon := xB _ (some ⟨g, 0, none⟩) d1 d2 e0 e1 e2 m n Fs9 ws (aq.mono (aq.below HR.out l8) l8.size) HW.out (by rw [yE.out, kn.out.2.1, kn.out.2.2.1, kn.out.2.2.2]; exact Ow) hNS Mi.out; rw [yE.out, kn.out.2.1, kn.out.2.2.1, kn.out.2.2.2] at hcon; refine hcon.mono ?_; clear hcon; rintro e w4 ⟨Hj, F4, rfl, jc, zF, pq, mX⟩; have hb4 := af l8 mX; have lD := jd.under mX; have hl4 := lD.lt; have QR := jd.lt; obtain ⟨q0, p0, q1, p1, q2, p2, E0, E1, E2, rfl, _, _, _, _, rfl⟩ := aC jc; have pW : Hid (∀ b, b ∈ E0 ++ E1 ++ E2 ++ [] -> w.heap.size + 2 <= b) := fun b hb => by rcases pq b hb with h | h; (have := Wv b h; omega); (have := l8.size; omega)
  have hkey : ∀ W', aw [w.heap.size + 1] w4 W' -> ba W' [.slice q0 (dJ m n).aa.length p0, .slice q1 (dJ m n).ae.length p1, .slice q2 (dJ m n).ag.length p2, .int .i64 (dJ m n).ah] (dJ m n) (E0 ++ E1 ++ E2 ++ []) /\ Below w.heap.size w W' := fun W' hT =>
   ⟨aj.frame jc (fun b hb => hT.block b (aj.lt jc b hb) (fun h => by simp at h; have := pW.out b hb; omega)), hb4.trans (hT.below (fun k hk => by simp at hk; omega) hb4.size)⟩
  have HKEY := Hm hkey; have rW := Hm zF; clear hkey jc zF pq; obtain ⟨oa, od, og, oh⟩ := lD.c4; obtain ⟨oc, mz, nL, ol⟩ := lD.f4; go_wp2_with fail; obtain ⟨h1, h3⟩ := HKEY.out _ (show aw [w.heap.size + 1] w4 ((((w4.setCell ⟨w.heap.size + 1, 0, none⟩ (.slice q0 (dJ m n).aa.length p0)).setCell ⟨w.heap.size + 1, 1, none⟩ (.slice q1 (dJ m n).ae.length p1)).setCell ⟨w.heap.size + 1, 2, none⟩ (.slice q2 (dJ m n).ag.length p2)).setCell ⟨w.heap.size + 1, 3, none⟩ (.int .i64 (dJ m n).ah)) from bE _ _ _ _ _ _); exact bodyPost_ret (v := .tuple #[.agg #[.slice q0 (dJ m n).aa.length p0, .slice q1 (dJ m n).ae.length p1, .slice q2 (dJ m n).ag.length p2, .int .i64 (dJ m n).ah], .int .i64 (pV n)]) (by simp [results, Tryz.results55, go_sem, *]) rfl ⟨[.slice q0 (dJ m n).aa.length p0, .slice q1 (dJ m n).ae.length p1, .slice q2 (dJ m n).ag.length p2, .int .i64 (dJ m n).ah], _, by rw [HV.out.2], by rw [HV.out.1]; exact h1, rW.out, fun b hb => by have := pW.out b hb; omega, h3⟩
 ·have HV : Hid (bh m s zb = m /\ dD m s zb = aS m s) := by refine ⟨?_, ?_⟩ <;> simp [bh, dD, hC]
  have Ek : (aS m s == 0) = false := beq_eq_false_iff_ne.2 hC; have El : (aS m s != 0) = true := bne_iff_ne.2 hC; obtain ⟨cp, rq⟩ : ∃ cp, aS m s = cp := ⟨_, rfl⟩
  rw [rq] at Ek El ⊢; have ry := Hm rq; clear rq hC HP; go_wp2_with fail; refine (cE _ (m) w1 (aq.mono (aq.below HR.out hb1) hb1.size) HW.out).mono ?_; rintro e w3 ⟨uB, F3, rfl, eU, jx, cm, hx3⟩; have hb3 := af hb1 hx3; have dc := dB.under hx3; have sI := dc.lt; have hz3 := hb1.size; have Ce := dB.lt; obtain ⟨q0, p0, q1, p1, q2, p2, G0, G1, G2, rfl, _, _, _, _, rfl⟩ := aC eU
  have hkey : ∀ W', aw [w.heap.size + 1] w3 W' -> ba W' [.slice q0 m.aa.length p0, .slice q1 m.ae.length p1, .slice q2 m.ag.length p2, .int .i64 m.ah] (m) (G0 ++ G1 ++ G2 ++ []) /\ Below w.heap.size w W' := fun W' hT =>
   ⟨aj.frame eU (fun b hb => hT.block b (aj.lt eU b hb) (fun h => by simp at h; have := cm b hb; omega)), hb3.trans (hT.below (fun k hk => by simp at hk; omega) hb3.size)⟩
  have HKEY := Hm hkey; have rW := Hm jx; have pW : Hid (∀ b, b ∈ G0 ++ G1 ++ G2 ++ [] -> w.heap.size <= b) := fun b hb => by have := cm b hb; omega
  clear hkey eU jx cm y0 y1 y2 y3; obtain ⟨oa, od, og, oh⟩ := dc.c4; obtain ⟨oc, mz, nL, ol⟩ := dc.f4; go_wp2_with fail; obtain ⟨h1, h3⟩ := HKEY.out _ (show aw [w.heap.size + 1] w3 ((((w3.setCell ⟨w.heap.size + 1, 0, none⟩ (.slice q0 m.aa.length p0)).setCell ⟨w.heap.size + 1, 1, none⟩ (.slice q1 m.ae.length p1)).setCell ⟨w.heap.size + 1, 2, none⟩ (.slice q2 m.ag.length p2)).setCell ⟨w.heap.size + 1, 3, none⟩ (.int .i64 m.ah)) from bE _ _ _ _ _ _); exact bodyPost_ret (v := .tuple #[.agg #[.slice q0 m.aa.length p0, .slice q1 m.ae.length p1, .slice q2 m.ag.length p2, .int .i64 m.ah], .int .i64 cp]) (by simp [results, Tryz.results55, go_sem, *]) rfl ⟨[.slice q0 m.aa.length p0, .slice q1 m.ae.length p1, .slice q2 m.ag.length p2, .int .i64 m.ah], _, by rw [HV.out.2, ry.out], by rw [HV.out.1]; exact h1, rW.out, pW.out, h3⟩
theorem ET (cs : List Value) (m : az) (s : ByteArray) (w : World) (hr : bg w.heap.size w cs m) (hs : s.size <= 9223372036854775807) (hw : aZ m <= 1048576) (di : s.size <= 1048576) :
  Calls Tryz.prog 57 #[.agg cs.toArray, .string s] w fun e w' => ∃ (cs' : List Value) (F : List Nat), e = .returned (.tuple #[.agg cs'.toArray, .int .i64 (aS m s)]) /\ ba w' cs' (dW m s) F /\ F.Nodup /\ (∀ b, b ∈ F -> w.heap.size <= b) /\ Below w.heap.size w w' := by
 have hq := hr; obtain ⟨a0, c0, a1, c1, a2, c2, rfl, hI, gf, gT, kX, _⟩ := hq; have hw2 : m.aa.length + aP aJ m.aa + (m.ae.length + aP a7 m.ae) + (m.ag.length + aP a7 m.ag) <= 1048576 := hw; have HW := Hm hw; have HR := Hm hr; clear hr hI gf gT hw; go_enter Tryz.func57, Tryz.ntmps57; go_wp2_with fail; obtain ⟨wq, bI⟩ : ∃ wq, wq = ((w.alloc (.cells #[.slice a0 m.aa.length c0, .slice a1 m.ae.length c1, .slice a2 m.ag.length c2, .int .i64 m.ah] 27)).alloc (.cells #[.slice none 0 0, .slice none 0 0, .slice none 0 0, .int .i64 0] 27)) := ⟨_, rfl⟩
 have cJ : Below w.heap.size w wq := by rw [bI]; exact Below.alloc (Below.alloc rB (by exact rN) _) (by simp; try omega) _
 have dl : Bw wq (w.heap.size) 27 (cj a0 c0 a1 c1 a2 c2 m) := by rw [bI]; exact Bw.alloc (Bw.dX _ _ _ (by simp)) _
 have hbr : Bw wq (w.heap.size + 1) 27 oz := by rw [bI]; exact Bw.dX _ _ _ (by simp)
 rw [<- bI]; clear bI; refine (lV _ m s wq (aq.mono (aq.below HR.out cJ) cJ.size) HW.out hs).mono ?_; rintro e w1 ⟨p, rfl, hp, hx1⟩; have HP := Hm hp; clear hp; have hb1 := af cJ hx1; have df := dl.under hx1; have dB := hbr.under hx1; obtain ⟨y0, y1, y2, y3⟩ := df.c4; clear dl hbr; go_wp2_with fail; refine (cE _ m w1 (aq.mono (aq.below HR.out hb1) hb1.size) HW.out).mono ?_; rintro e w2 ⟨FH, F2, rfl, mm, nW, jT, hx2⟩; obtain ⟨d0, e0, d1, e1, d2, e2, G0, G1, G2, rfl, o0, o1, o2, _, rfl⟩ := aC mm; have sH := Hm o0; have vO := Hm o1; have zG := Hm o2; have HO := Hm mm; have HN := Hm nW; have jH : Hid (∀ b, b ∈ G0 ++ G1 ++ G2 ++ [] -> w1.heap.size <= b) := jT; have gZ : Hid (∀ b, b ∈ G0 ++ G1 ++ G2 ++ [] -> b < w2.heap.size) := fun b hb => aj.lt mm b hb
 clear mm nW jT o0 o1 o2; have hb2 := af hb1 hx2; have bZ := dB.under hx2; have hz2 := hx2.size; have sF := dB.lt; have AE := hb2; have eT := df.under hx2
 by_cases hC : aS m s = 0
 ·obtain ⟨hpl, I1⟩ := HP.out hC
  have U4 := Hm (qC hC hpl I1); have HV : Hid (dW m s = { m with aa := jQ m.aa p jR }) := by show _ = _; unfold dW; rw [if_pos hC, U4.out]
  obtain ⟨g, cap, hv, Mp, iV⟩ := aF.shape sH.out (by omega); simp only [Value.slice.injEq, true_and] at hv; obtain ⟨rfl, rfl⟩ := hv; obtain ⟨uB, Fk, o3, f3, n3, c3, z3⟩ := aF.cells aH sH.out hpl; obtain ⟨v3, F3, rfl, i3, b3, s3, rfl⟩ := o3; obtain ⟨a3, l3, rfl, _⟩ := b3.read; have k1 := c3 1 _ rfl; have k2 := c3 2 _ rfl; have r1 := z3 (p * 3 + 1); have r2 := z3 (p * 3 + 2); have Ei := jH.out g (by simp [Mp]); have vG : m.aa[p].aG.length <= 1048576 := by have h1 := jt (f := aJ) hpl; have h2 : aJ m.aa[p] = m.aa[p].aG.length := rfl; omega
  obtain ⟨dn, y5⟩ : ∃ dn, m.aa[p].aG.length = dn := ⟨_, rfl⟩
  rw [y5] at k1 vG; have xA := Hm y5; have cQ := Hm hpl; have RO : (0 : Int) <= (p : Int) := by omega
  have Pj : (p : Int) < (m.aa.length : Int) := by omega
  rw [hC]; have sJ := Hm hb2; have Pl := Hm bZ; clear y5 c3 z3 n3 df dB bZ eT y0 y1 y2 y3 I1 hb2 AE; go_wp2_with fail; obtain ⟨wo, Bu⟩ : ∃ wo, wo = w2.alloc (.cells #[.slice (some ⟨g, 0, none⟩) m.aa.length e0, .slice d1 m.ae.length e1, .slice d2 m.ag.length e2, .int .i64 m.ah] 27) := ⟨_, rfl⟩
  have ej : Below w2.heap.size w2 wo := by rw [Bu]; exact rB.alloc rN _
  have gj : Bw wo w2.heap.size 27 (cj (some ⟨g, 0, none⟩) e0 d1 e1 d2 e2 m) := by rw [Bu]; exact Bw.new _ _ _
  rw [<- Bu]; clear Bu; have I3 := (ej.cell (p := ⟨g, p * 3 + 1, none⟩) iV).trans k1; have WM := (ej.cell (p := ⟨g, p * 3 + 2, none⟩) iV).trans k2; have WN := (ej.frozen (p := ⟨g, p * 3 + 2, none⟩) iV).trans r2; have x0 := gj.cell 0 _ rfl; clear k1 k2 r2 r1; have Jn : Hid (g ≠ w2.heap.size) := by show _ ≠ _; omega
  refine vE (fun W => W.cell? ⟨w2.heap.size, 0, none⟩ = some (.slice (some ⟨g, 0, none⟩) m.aa.length e0) /\ W.cell? ⟨g, p * 3 + 1, none⟩ = some (.slice a3 dn l3) /\ aw [g] wo W) (⟨x0, I3, aw.bz (Below.drew rB)⟩) (fun hZ => ?_); refine uq 0 ?_; refine uq 1 ?_; refine uq 2 ?_; refine uq 3 ?_; refine uq 4 ?_; refine uq 5 ?_; refine uq 6 ?_; refine uq 7 ?_; refine uq 8 ?_; refine uq 9 ?_; refine uq 10 ?_; refine uq 11 ?_; refine bf 12 rfl fun K hK => ?_
  go_simp; go_simp; refine aL hK (⟨(World.cell?_setCell_other _ _ _ _ (fun h => Jn.out (congrArg Addr.block h))).trans x0, (World.cell?_setCell_other _ _ _ _ (fun h => by have := congrArg Addr.off h; simp at this)).trans I3, aw.drew (aw.setCell (F := [g]) (a := wo) (b := wo) (p := ⟨g, p * 3 + 2, none⟩) (aw.refl _ _) (by simp) (.int .i64 dn))⟩) (fun hZ => ?_); clear hK K; refine dC ?_; obtain ⟨w3, hw3⟩ : ∃ w3, w3 = (wo.setCell ⟨g, p * 3 + 2, none⟩ (.int .i64 dn)).drew := ⟨_, rfl⟩
  have mY : aw [g] wo w3 := by rw [hw3]; exact aw.drew (aw.setCell (F := [g]) (a := wo) (b := wo) (p := ⟨g, p * 3 + 2, none⟩) (aw.refl _ _) (by simp) _)
  have lj := gj.turn mY (by simp; omega); have dc := (Pl.out.under ej).turn mY (by simp; omega); have zy : Below w.heap.size w w3 := (af sJ.out ej).trans (mY.below (fun k hk => by simp at hk; have := sJ.out.size; omega) (af sJ.out ej).size); have WO := cQ
  have Ms : ∃ F', ba w3 (cj (some ⟨g, 0, none⟩) e0 d1 e1 d2 e2 m) (dW m s) F' /\ F'.Nodup /\ ∀ b, b ∈ F' -> b ∈ G0 ++ G1 ++ G2 := by
   have m6 : ∀ b, b ∈ G0 ++ G1 ++ G2 -> b < w2.heap.size := fun b hb => gZ.out b (by simpa using hb)
   have q0 := aF.frame (w' := wo) aH sH.out (fun b hb => ej.block b (m6 b (by simp [hb]))); have q1 := aF.frame (w' := wo) ay vO.out (fun b hb => ej.block b (m6 b (by simp [hb]))); have q2 := aF.frame (w' := wo) ay zG.out (fun b hb => ej.block b (m6 b (by simp [hb]))); have Sy : ∀ n : aI, n.aG.length = dn -> (jR n).aW = (dn : Int) := fun n h => by unfold jR; simp [h]
   obtain ⟨F', o1, o2, o3, _⟩ := ve q0 q1 q2 kX HN.out cQ.out (i := 2) (by omega) (.int .i64 dn) jR [] (fun b hb => by cases hb) (fun cs Fk h hN => by
    obtain ⟨v, F, rfl, q1, q2, q3, rfl⟩ := h; refine ⟨F ++ [], ⟨v, F, ?_, q1, q2, ?_, rfl⟩, hN, fun b hb => .inl hb⟩
    ·rw [Sy _ xA.out]
     rfl
    ·rw [Sy _ xA.out]
     exact WalkArith.wf_i64 (by omega))
   refine ⟨F', ?_, o2, fun b hb => ?_⟩
   ·rw [HV.out, hw3]
    exact o1
   ·rcases o3 b hb with h | h
    ·exact h
    ·cases h
  obtain ⟨UF, nw, jx, Pm⟩ := Ms; have lX : ∀ b, b ∈ UF -> w.heap.size + 2 <= b := fun b hb => by have := jH.out b (by simpa using Pm b hb); have := hb1.size; omega
  have Ph := Hm hC; rw [<- hw3]; clear hw3 hC hZ x0 I3 WM WN; have Du := lj.cell 0 _ rfl; have oa := dc.cell 0 _ rfl; have oc := dc.free 0; have Dv := lj.cell 1 _ rfl; have od := dc.cell 1 _ rfl; have mz := dc.free 1; have Dw := lj.cell 2 _ rfl; have og := dc.cell 2 _ rfl; have nL := dc.free 2; have Dx := lj.cell 3 _ rfl; have oh := dc.cell 3 _ rfl; have ol := dc.free 3; have Sz := bE w3 (w.heap.size + 1) (.slice (some ⟨g, 0, none⟩) m.aa.length e0) (.slice d1 m.ae.length e1) (.slice d2 m.ag.length e2) (.int .i64 m.ah); have SA := Hm Sz; have ny := Hm zy; clear Sz; go_wp2_with fail; refine bodyPost_ret (v := .tuple #[.agg #[.slice (some ⟨g, 0, none⟩) m.aa.length e0, .slice d1 m.ae.length e1, .slice d2 m.ag.length e2, .int .i64 m.ah], .int .i64 0]) (by simp [results, Tryz.results57, go_sem, *]) rfl ⟨(cj (some ⟨g, 0, none⟩) e0 d1 e1 d2 e2 m), UF, by rw [Ph.out], ?_, jx, ?_, ?_⟩
  ·exact aj.frame (nw) (fun b hb => SA.out.block b (aj.lt (nw) b hb) (by intro h; simp at h; have := lX b hb; omega))
  ·intro b hb
   have := lX b hb; omega
  ·exact ny.out.trans (SA.out.below (fun k hk => by simp at hk; omega) ny.out.size)
 ·have HV : Hid (dW m s = m) := by show _ = _; unfold dW; rw [if_neg hC]
  have Ek : (aS m s == 0) = false := beq_eq_false_iff_ne.2 hC; clear HP; obtain ⟨cp, rq⟩ : ∃ cp, aS m s = cp := ⟨_, rfl⟩
  rw [rq] at Ek ⊢; have ry := Hm rq; clear rq hC; obtain ⟨oa, oc, od, mz, og, nL, oh, ol⟩ := bZ.c8; have tB := bZ.lt; have nw : ba w2 (cj d0 e0 d1 e1 d2 e2 m) (dW m s) (G0 ++ G1 ++ G2 ++ []) := by rw [HV.out]; exact HO.out
  have lX : ∀ b, b ∈ G0 ++ G1 ++ G2 ++ [] -> w.heap.size + 2 <= b := fun b hb => by have := jH.out b hb; omega
  have ny := Hm hb2; have m4 := Hm nw; clear nw; go_wp2_with fail; refine bodyPost_ret (v := .tuple #[.agg #[.slice d0 m.aa.length e0, .slice d1 m.ae.length e1, .slice d2 m.ag.length e2, .int .i64 m.ah], .int .i64 cp]) (by simp [results, Tryz.results57, go_sem, *]) rfl ⟨(cj d0 e0 d1 e1 d2 e2 m), G0 ++ G1 ++ G2 ++ [], by first | rfl | rw [ry.out], ?_, HN.out, ?_, ?_⟩
  ·exact aj.frame m4.out (fun b hb => (show aw [w.heap.size + 1] w2 _ from by repeat (first | with_reducible exact aw.refl _ _ | with_reducible refine aw.setCell ?_ (by simp) _ | with_reducible refine aw.alloc ?_ _ | with_reducible refine aw.drew ?_)).block b (aj.lt m4.out b hb) (by intro h; simp at h; have := lX b hb; omega))
  ·intro b hb
   have := lX b hb; omega
  ·exact ny.out.trans ((show aw [w.heap.size + 1] w2 _ from by repeat (first | with_reducible exact aw.refl _ _ | with_reducible refine aw.setCell ?_ (by simp) _ | with_reducible refine aw.alloc ?_ _ | with_reducible refine aw.drew ?_)).below (fun k hk => by simp at hk; omega) ny.out.size)
end Go.Proofs.YtcamcgfbljhbhaaGreatDoor
