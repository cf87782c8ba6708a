/-
  Part 21 of the texts that the proof leans on.
-/
import Derived.Test.YtcamcgfbljhbhaaGreatDoorMan19
import Derived.Test.YtcamcgfbljhbhaaGreatDoorMan16
import Derived.Lib.ItoaNum
import Derived.Lib.Join
import Derived.Laws.BytesArg
import Derived.Test.YtcamcgfbljhbhaaGreatDoorMan8
import Derived.Test.YtcamcgfbljhbhaaGreatDoorMan5
import Derived.Shelf.Strings.FieldsAny
import Derived.Shelf.Strings.SlTrimAscii
import Derived.Shelf.Small.Strs
import Derived.Test.YtcamcgfbljhbhaaGreatDoorProg
import Derived.Shelf.Strconv.AtoiAll
import Derived.Shelf.Strconv.ErrVarAll
import Derived.Shelf.Strconv.Itoa3
import Derived.Shelf.Strings.OnBuilder
import Derived.Test.YtcamcgfbljhbhaaGreatDoorMan0
import Derived.Test.YtcamcgfbljhbhaaGreatDoorMan2
import Derived.Test.YtcamcgfbljhbhaaGreatDoorMan1
import Derived.Test.YtcamcgfbljhbhaaGreatDoorChecked
set_option linter.unusedVariables false
set_option linter.unusedSimpArgs false
set_option maxRecDepth 10000
set_option maxHeartbeats 20000000

namespace Go.Proofs.YtcamcgfbljhbhaaGreatDoor
open Go.RowKit
theorem FX {f : aI -> aI} (hf : ∀ n, (f n).bi = n.bi) (l : List aI) (k : Nat) : (jQ l k f).map (·.bi) = l.map (·.bi) := by
 unfold jQ
 split
 ·rename_i n hn
  rw [List.map_set]; apply List.ext_getElem?; intro j; rw [List.getElem?_set]
  split
  ·rename_i hj
   subst hj; obtain ⟨hk, rfl⟩ := List.getElem?_eq_some_iff.1 hn; rw [if_pos (by simpa using hk), List.getElem?_map, List.getElem?_eq_getElem hk]; simp [hf]
  ·rfl
 ·rfl
theorem zV (l : List aI) (i : Int) : ee l i = (l.map (·.bi)).any (fun z => decide (z = i)) := by
 unfold ee; rw [List.any_map]; rfl
theorem zW {f : aI -> aI} (hf : ∀ n, (f n).bi = n.bi) (l : List aI) (k : Nat) (i : Int) : ee (jQ l k f) i = ee l i := by rw [zV, zV, FX hf]
theorem PW {m : az} {k : Nat} {f : aI -> aI} (h : bc m = true) (hf : ∀ n, (f n).bi = n.bi) (hs : ∀ n, n ∈ m.aa -> 0 <= (f n).aW /\ (f n).aW <= (f n).aG.length) (hsz : aP aJ (jQ m.aa k f) <= 60000) :
  bc { m with aa := jQ m.aa k f } = true := by
 have hr := bM.1 h; refine bM.2 ⟨hr.next, ?_, ?_, hsz, hr.few, hr.DF, ?_, ?_, ?_⟩
 ·intro n hn
  rcases wG (show n ∈ jQ m.aa k f from hn) with hn | ⟨x, hx, rfl⟩
  ·exact hr.each n hn
  ·have h1 := hr.each x hx
   have h2 := hs x hx; rw [hf]; exact ⟨h1.1, h1.2.1, h2.1, h2.2⟩
 ·have h1 := hr.px
  have e : ∀ l : List aI, l.Pairwise (fun x y => x.bi < y.bi) ↔ (l.map (·.bi)).Pairwise (· < ·) := fun l => (List.pairwise_map (f := fun n : aI => n.bi) (R := (· < ·)) (l := l)).symm
  rw [e] at h1 ⊢; rw [FX hf]; exact h1
 ·exact ⟨fun e he => by rw [zW hf]; exact hr.names.1 e he, hr.names.2⟩
 ·exact ⟨fun e he => by rw [zW hf]; exact hr.safe.1 e he, hr.safe.2⟩
 ·intro n hn
  rcases wG (show n ∈ jQ m.aa k f from hn) with hn | ⟨x, hx, rfl⟩
  ·exact hr.all n hn
  ·have h1 := fx.1 (hr.all x hx)
   refine fx.2 ?_; rw [hf]; exact h1
theorem ME {m : az} {s : ByteArray} (h : aS m s = 0) : bc { m with aa := jQ m.aa (fileAt m s) jR } = true := by
 have h1 := (cW h).1; have hr := bM.1 h1; have h2 := nU (l := m.aa) (k := fileAt m s) (f := jR) (c := 0) (fun n => rN); exact PW h1 (fun n => rfl) (fun n hn => by simp [jR]) (Nat.le_trans h2 hr.size)
def gA (m : az) (s : ByteArray) (P : aI -> Prop) : Prop := aS m s = 0 /\ ∃ x, x ∈ m.aa /\ x.bi = eK m.ae s /\ P x
theorem wn {m : az} {s : ByteArray} (h1 : bc m = true) (h2 : bH s = true) (h3 : hasName m.ae s = true) : aS m s = 0 := by
 unfold aS; rw [h1, h2, h3]; rfl
section
variable {m : az} {s : ByteArray} {P : aI -> Prop} {b : List Int} {k : Int}
theorem gA.data (h : gA m s P) : ∃ x, P x /\ rJ m s = x.aG := by
 obtain ⟨hc, x, hx, hid, hp⟩ := h; exact ⟨x, hp, LD hc hx hid⟩
theorem CC (h : cK m s = 0) : aS m s = 2 /\ bc (gh m s) = true /\ aX m s = gh m s := by
 unfold cK at h
 by_cases h1 : aS m s = 2
 ·rw [if_pos h1] at h
  by_cases h2 : bc (gh m s) = true
  ·exact ⟨h1, h2, by unfold aX; rw [if_pos ⟨h1, h2⟩]⟩
  ·rw [if_neg h2] at h; cases h
 ·rw [if_neg h1] at h
  split at h <;> cases h
theorem CD (h : cK m s = 0) : gA (aX m s) s (fun x => x.aG = [] /\ x.aW = 0) := by
 obtain ⟨h1, h2, h3⟩ := CC h; obtain ⟨_, hs, _⟩ := ui h1; rw [h3]; have BJ : (⟨s, m.ah⟩ : aB) ∈ (gh m s).ae := gp.2 (.inl rfl); have hc : aS (gh m s) s = 0 := wn h2 hs (eh.2 ⟨_, BJ, rfl⟩); refine ⟨hc, yN m, List.mem_append_right _ (by simp), ?_, rfl, rfl⟩; exact (Fl (bM.1 h2).names.px BJ).symm
theorem CE {f : aI -> aI} (h : gA m s P) (hf : ∀ n, (f n).bi = n.bi) (mW : bc { m with aa := jQ m.aa (fileAt m s) f } = true) : gA { m with aa := jQ m.aa (fileAt m s) f } s (fun x => ∃ y, P y /\ x = f y) := by
 obtain ⟨hc, x, hx, hid, hp⟩ := h; obtain ⟨h1, h2, h3⟩ := cW hc; refine ⟨wn mW h2 h3, f x, ?_, (hf x).trans hid, x, hp, rfl⟩; obtain ⟨p, hpl, rfl⟩ := List.mem_iff_getElem.1 hx; have hpp := qC hc hpl hid; subst hpp
 show _ ∈ jQ m.aa (fileAt m s) f; rw [sR hpl]; exact List.mem_iff_getElem.2 ⟨fileAt m s, by simpa using hpl, by simp⟩
theorem Ig (h : gA m s P) : gA (dW m s) s (fun x => ∃ y, P y /\ x = jR y) := by
 have : dW m s = { m with aa := jQ m.aa (fileAt m s) jR } := by unfold dW; rw [if_pos h.1]
 rw [this]; exact CE h (fun n => rfl) (ME h.1)
theorem A6 (h : gA m s P) : gA (cC m) s P /\ (cC m).ag = (cC m).ae := by
 obtain ⟨hc, x, hx, hid, hp⟩ := h; obtain ⟨h1, h2, h3⟩ := cW hc; have : cC m = aY { m with ag := m.ae } := by unfold cC; rw [if_pos h1]
 rw [this]; refine ⟨⟨wn (oD h1) h2 h3, x, ?_, hid, hp⟩, rfl⟩
 show x ∈ bV { m with ag := m.ae }; refine List.mem_filter.2 ⟨hx, fx.2 (List.mem_append_left _ (List.mem_map.2 ⟨⟨s, eK m.ae s⟩, pH h3, hid.symm⟩))⟩
theorem Ih (h : gA m s P) (hn : m.ag = m.ae) (hk : 0 <= k) : gA (ei m k) s (fun x => ∃ y, P y /\ x = eb k y) := by
 obtain ⟨hc, x, hx, hid, hp⟩ := h; obtain ⟨h1, h2, h3⟩ := cW hc; have hd : ei m k = { m with ae := m.ag, aa := (bV { m with ae := m.ag }).map (eb k) } := by unfold ei; rw [if_pos ⟨h1, hk⟩]
 have mW := MD h1 hk; rw [hd] at mW ⊢; refine ⟨wn mW h2 (by show hasName m.ag s = true; rw [hn]; exact h3), eb k x, ?_, ?_, x, hp, rfl⟩
 ·refine List.mem_map.2 ⟨x, List.mem_filter.2 ⟨hx, fx.2 ?_⟩, rfl⟩
  refine List.mem_append_right _ (List.mem_map.2 ⟨⟨s, eK m.ae s⟩, ?_, hid.symm⟩)
  show _ ∈ m.ag; rw [hn]; exact pH h3
 ·show x.bi = eK m.ag s
  rw [hn]; exact hid
end
structure UQ (m : az) (s : ByteArray) (b c : List Int) (k : Int) : Prop where
 lost : aS (ei (dW (bh (aX m s) s b) s) k) s ≠ 0
 Xr : bc (ei (dW (bh (aX m s) s b) s) k) = true
 kept : aS (ei (bh (cC (dW (bh (aX m s) s b) s)) s c) k) s = 0
 Xs : bc (ei (bh (cC (dW (bh (aX m s) s b) s)) s c) k) = true
 len : b.length <= (gQ (ei (bh (cC (dW (bh (aX m s) s b) s)) s c) k) s).length
 take : (gQ (ei (bh (cC (dW (bh (aX m s) s b) s)) s c) k) s).take b.length = b
end Go.Proofs.YtcamcgfbljhbhaaGreatDoor

namespace Go.Proofs.YtcamcgfbljhbhaaGreatDoor
open Go.RowKit
def aU (l : List UInt8) : ByteArray := ⟨l.toArray⟩
theorem eE (l : List UInt8) : (aU l).data.toList = l := by simp [aU]
theorem A7 (s : ByteArray) : aU s.data.toList = s := by cases s; simp [aU]
theorem fE (l : List UInt8) : (aU l).size = l.length := by simp [aU, ByteArray.size]
theorem p9 (a b : List UInt8) : aU a ++ aU b = aU (a ++ b) := by
 apply ByteArray.ext; rw [ByteArray.data_append]; simp [aU]
theorem zX (l : List Int) : strOfNums l = aU (l.map fun n => UInt8.ofNat n.toNat) := rfl
theorem xZ {a b : List UInt8} (h : a = b) : aU a = aU b := by rw [h]
def cw (n : Int) : List UInt8 := Lib.decDigits n.toNat
theorem Ii {n : Int} (h : 0 <= n) : Lib.itoa n = cw n := by unfold Lib.itoa cw; rw [if_neg (by omega)]
theorem MF (n : Nat) : (Lib.decDigits n).length <= n + 1 := by
 induction n using Nat.strongRecOn with
 | _ n ih =>
  rw [Lib.decDigits]
  split
  ·simp
  ·rw [List.length_append]
   have := ih (n / 10) (by omega); simp; omega
theorem iM {n : Int} (h : n <= 100000) : (cw n).length <= 100001 := by
 have := MF n.toNat; unfold cw; omega
theorem EC {n : Int} (h0 : 0 <= n) (h : n < 10) : cw n = [UInt8.ofNat (48 + n.toNat)] := by
 unfold cw; rw [Lib.decDigits, dif_pos (by omega)]
theorem KA {n : Int} (h : 10 <= n) : cw n = cw (n / 10) ++ [UInt8.ofNat (48 + (n % 10).toNat)] := by
 unfold cw; rw [Lib.decDigits, dif_neg (by omega), show (n / 10).toNat = n.toNat / 10 by omega, show (n % 10).toNat = n.toNat % 10 by omega]
def Xt : List UInt8 := [48, 49, 50, 51, 52, 53, 54, 55, 56, 57, 97, 98, 99, 100, 101, 102]
def lH (x : Nat) : UInt8 := Xt.getD x 0
def x5 (b : UInt8) : List UInt8 := [lH (b.toNat / 16), lH (b.toNat % 16)]
def eF (s : ByteArray) : List UInt8 := s.data.toList.flatMap x5
theorem lq (s : ByteArray) : (eF s).length = 2 * s.size := by
 unfold eF
 have h : ∀ l : List UInt8, (l.flatMap x5).length = 2 * l.length := by
  intro l
  induction l with
  | nil => rfl
  | cons x r ih => rw [List.flatMap_cons, List.length_append, ih]; simp [x5]; omega
 rw [h, Array.length_toList]; rfl
def m9 : List UInt8 := [116, 97, 98]
def ia : List UInt8 := [101, 110, 100]
def vy : List UInt8 := [110, 101, 120, 116, 32]
def CF : List UInt8 := [32, 108, 111, 103, 32]
def eR (t : aT) : List UInt8 := m9 ++ [32] ++ cw t.fD ++ [32] ++ cw t.aN ++ [32] ++ eF t.eo ++ [32] ++ eF t.em
def gM (m : aK) : List UInt8 := vy ++ cw m.ah ++ CF ++ cw m.ce
def dr (l : List aT) : List UInt8 := l.flatMap fun t => eR t ++ [10]
def fq (m : aK) : List UInt8 := gM m ++ [10] ++ dr m.aD ++ ia ++ [10]
def cH (m : aK) : ByteArray := if bO m = true then aU (fq m) else ⟨#[]⟩
theorem kg {m : aK} (h : bO m = true) : cH m = aU (fq m) := if_pos h
theorem nD {m : aK} (h : bO m = false) : cH m = ⟨#[]⟩ := if_neg (by rw [h]; simp)
theorem CG {l : List aT} {k : Nat} (h : k < l.length) : dr (l.take (k + 1)) = dr (l.take k) ++ eR l[k] ++ [10] := by
 unfold dr; rw [List.take_succ_eq_append_getElem h, List.flatMap_append]; simp
theorem x8 {next : Int} : ∀ {seen l : List aT}, dA next seen l = true -> ∀ t, t ∈ l -> iH next t = true
 | _, [], _, t, ht => by cases ht
 | seen, x :: r, h, t, ht => by
  simp only [dA, Bool.and_eq_true] at h; rcases List.mem_cons.1 ht with rfl | ht
  ·exact h.1.1.1
  ·exact x8 h.2 t ht
structure mL (next : Int) (t : aT) : Prop where
 UR : 1 <= t.fD
 Q1 : t.fD <= next - 1
 UT : 0 <= t.aN
 Q2 : t.aN <= 3
 lo : t.eo.size <= 20
 hi : t.em.size <= 20
 le : ko t.eo t.em = true
theorem CH {next : Int} {t : aT} (h : iH next t = true) : mL next t := by
 simp only [iH, jp, Bool.and_eq_true, decide_eq_true_eq] at h; exact ⟨h.1.1.1.1.1, h.1.1.1.1.2, h.1.1.1.2.1, h.1.1.1.2.2, h.1.1.2.2, h.1.2.2, h.2⟩
structure CI (m : aK) : Prop where
 UU : 1 <= m.ah
 Ij : m.ah <= 100000
 UV : 0 <= m.ce
 Q3 : m.ce <= m.ah - 1
 len : m.aD.length <= 20
 each : ∀ t, t ∈ m.aD -> mL m.ah t
theorem kh {m : aK} (h : bO m = true) : CI m := by
 simp only [bO, Bool.and_eq_true, decide_eq_true_eq] at h; exact ⟨h.1.1.1.1, h.1.1.1.2, h.1.1.2.1, h.1.1.2.2, h.1.2, fun t ht => CH (x8 h.2 t ht)⟩
theorem zY {next : Int} {t : aT} (h : mL next t) (hn : next <= 100000) : (eR t).length <= 300000 := by
 have h1 := iM (n := t.fD) (by have := h.Q1; omega); have h2 := iM (n := t.aN) (by have := h.Q2; omega); have h3 := lq t.eo; have h4 := lq t.em; have h5 := h.lo; have h6 := h.hi; simp only [eR, m9, List.length_append, List.length_cons, List.length_nil]; omega
theorem ya {next : Int} {l : List aT} (h : ∀ t, t ∈ l -> mL next t) (hn : next <= 100000) : (dr l).length <= l.length * 300001 := by
 induction l with
 | nil => simp [dr]
 | cons x r ih =>
  have h1 := zY (h x (List.mem_cons_self ..)) hn; have h2 := ih (fun t ht => h t (List.mem_cons_of_mem _ ht)); unfold dr at h2 ⊢; rw [List.flatMap_cons]; simp only [List.length_append, List.length_cons, List.length_nil]; omega
theorem zZ {m : aK} (h : CI m) : (gM m).length <= 300000 := by
 have h1 := iM h.Ij; have h2 := iM (n := m.ce) (by have := h.Q3; have := h.Ij; omega); simp only [gM, vy, CF, List.length_append, List.length_cons, List.length_nil]; omega
def lL (m : aK) (l : List aT) : List (List UInt8) := gM m :: l.map eR
theorem yb (l : List aT) : Lib.joinTail [10] (l.map eR ++ [ia, []]) = (l.flatMap fun t => [10] ++ eR t) ++ [10] ++ ia ++ [10] := by
 unfold Lib.joinTail
 induction l with
 | nil => rfl
 | cons x r ih => rw [List.map_cons, List.cons_append, List.map_cons, List.flatten_cons, ih, List.flatMap_cons]; simp only [List.append_assoc]
theorem CJ (l : List aT) : (l.flatMap fun t => [10] ++ eR t) ++ [(10 : UInt8)] = [10] ++ dr l := by
 unfold dr
 induction l with
 | nil => rfl
 | cons x r ih => simp only [List.flatMap_cons, List.append_assoc, ih]
theorem yc (m : aK) (l : List aT) : Lib.join (lL m l ++ [ia, []]) [10] = gM m ++ [10] ++ dr l ++ ia ++ [10] := by
 unfold lL; rw [List.cons_append, Lib.join_cons, yb, CJ]; simp only [List.append_assoc]
theorem Ik (t : aT) : Lib.join [m9, cw t.fD, cw t.aN, eF t.eo, eF t.em] [32] = eR t := by
 rw [Lib.join_cons]; simp [Lib.joinTail, eR]
theorem ED {m : aK} {l : List aT} {k : Nat} (h : k < l.length) : lL m (l.take (k + 1)) = lL m (l.take k) ++ [eR l[k]] := by
 unfold lL; rw [List.take_succ_eq_append_getElem h, List.map_append]; rfl
def kN : ByteArray := ⟨#[110, 101, 119]⟩
def kt : ByteArray := ⟨#[99, 117, 114]⟩
def jB (M : aK) : List Int := bu (cH M)
theorem Il (k : Nat) : ∀ n : Nat, n < 10 ^ (k + 1) -> (Lib.decDigits n).length <= k + 1 := by
 induction k with
 | zero =>
  intro n h; rw [Lib.decDigits, dif_pos (by simpa using h)]; simp
 | succ k ih =>
  intro n h; rw [Lib.decDigits]
  split
  ·simp
  ·have := ih (n / 10) (by rw [Nat.pow_succ] at h; omega)
   rw [List.length_append]; simp; omega
theorem o9 {n : Int} (h : n <= 100000) : (cw n).length <= 6 := Il 5 n.toNat (by omega)
theorem ye {M : aK} (h : bO M = true) : (jB M).length <= 1048576 := by
 have hf := kh h
 have hd : (gM M).length <= 30 := by
  have h1 := o9 hf.Ij; have h2 := o9 (n := M.ce) (by have := hf.Q3; have := hf.Ij; omega); simp only [gM, vy, CF, List.length_append, List.length_cons, List.length_nil]; omega
 have hl : ∀ t, t ∈ M.aD -> (eR t).length <= 200 := by
  intro t ht; have h0 := hf.each t ht; have h1 := o9 (n := t.fD) (by have := h0.Q1; have := hf.Ij; omega); have h2 := o9 (n := t.aN) (by have := h0.Q2; omega); have h3 := lq t.eo; have h4 := lq t.em; have h5 := h0.lo; have h6 := h0.hi; simp only [eR, m9, List.length_append, List.length_cons, List.length_nil]; omega
 have hls : ∀ l : List aT, (∀ t, t ∈ l -> (eR t).length <= 200) -> (dr l).length <= l.length * 201 := by
  intro l
  induction l with
  | nil => intro _; simp [dr]
  | cons x r ih =>
   intro hh; have h1 := hh x (List.mem_cons_self ..); have h2 := ih (fun t ht => hh t (List.mem_cons_of_mem _ ht)); unfold dr at h2 ⊢; rw [List.flatMap_cons]; simp only [List.length_append, List.length_cons, List.length_nil]; omega
 have h3 := hls _ hl; have h4 := hf.len; unfold jB; rw [cf, kg h, fE]; simp only [fq, ia, List.length_append, List.length_cons, List.length_nil]; omega
def mM (m : az) (M : aK) : az × Int :=
 if bO M = true /\ (dv m kN (jB M) kt).2 = 0 then dv m kN (jB M) kt
 else (m, if bO M = true then (dv m kN (jB M) kt).2 else 1)
def fU (m : az) (M : aK) : az := (mM m M).1
def ky (m : az) (M : aK) : Int := (mM m M).2
theorem A8 {m : az} {M : aK} (h : bO M = false) : mM m M = (m, 1) := by
 unfold mM; rw [if_neg (by rw [h]; simp), if_neg (by rw [h]; simp)]
theorem qb {m : az} {M : aK} (h : bO M = true) (h2 : (dv m kN (jB M) kt).2 ≠ 0) : mM m M = (m, (dv m kN (jB M) kt).2) := by
 unfold mM; rw [if_neg (fun hh => h2 hh.2), if_pos h]
theorem qM {m : az} {M : aK} (h : bO M = true) (h2 : (dv m kN (jB M) kt).2 = 0) : mM m M = ((dv m kN (jB M) kt).1, 0) := by
 unfold mM; rw [if_pos ⟨h, h2⟩, <- h2]
theorem CK {m : az} {t : ByteArray} {b : List Int} {s : ByteArray} (h : bc m = false) : (dv m t b s).2 = 1 := by
 have hc : aS m t = 1 := by unfold aS; rw [h]; rfl
 have hr : bA m t = m := by unfold bA; rw [if_neg (by rw [hc]; decide)]
 have hcc : cK m t = 1 := by unfold cK; rw [if_neg (by rw [hc]; decide), if_neg (by rw [hc]; decide)]
 unfold dv; rw [hr, rh]; have h0 : u9 m t b s 0 = 1 := hcc; rw [if_neg (by rw [h0]; decide)]; exact h0
def nO (m : az) (t : ByteArray) (b : List Int) (s : ByteArray) : az × Int := rh (bA m t) t b s 3 0
theorem EE (m : az) (t : ByteArray) (b : List Int) (s : ByteArray) :
  (cK (bA m t) t ≠ 0 -> nO m t b s = (aX (bA m t) t, cK (bA m t) t)) /\
  (cK (bA m t) t = 0 -> dD (aX (bA m t) t) t b ≠ 0 -> nO m t b s = (bh (aX (bA m t) t) t b, dD (aX (bA m t) t) t b)) /\
  (cK (bA m t) t = 0 -> dD (aX (bA m t) t) t b = 0 -> nO m t b s = (dW (bh (aX (bA m t) t) t b) t, aS (bh (aX (bA m t) t) t b) t)) := by
 have e0 : u9 (bA m t) t b s 0 = cK (bA m t) t := rfl; have e1 : u9 (bA m t) t b s 1 = dD (aX (bA m t) t) t b := rfl; have e2 : u9 (bA m t) t b s 2 = aS (bh (aX (bA m t) t) t b) t := rfl; refine ⟨fun h => ?_, fun h h2 => ?_, fun h h2 => ?_⟩
 ·unfold nO
  rw [rh, if_neg (by rw [e0]; exact h)]; rfl
 ·unfold nO
  rw [rh, if_pos (by rw [e0]; exact h), rh, if_neg (by rw [e1]; exact h2)]; rfl
 ·unfold nO
  rw [rh, if_pos (by rw [e0]; exact h), rh, if_pos (by rw [e1]; exact h2), rh]
  by_cases h3 : aS (bh (aX (bA m t) t) t b) t = 0
  ·rw [if_pos (by rw [e2]; exact h3), rh, h3]
   rfl
  ·rw [if_neg (by rw [e2]; exact h3)]
   rfl
theorem EF {m : az} {t : ByteArray} {b : List Int} {s : ByteArray} (h : aZ m <= 1048576) : aZ (nO m t b s).1 <= 1048576 := ul (lS h) 3 0
theorem EG (m : az) (t : ByteArray) (b : List Int) (s : ByteArray) :
  ((nO m t b s).2 ≠ 0 -> dv m t b s = nO m t b s) /\
  ((nO m t b s).2 = 0 -> cD (nO m t b s).1 t s ≠ 0 -> dv m t b s = (bQ (nO m t b s).1 t s, cD (nO m t b s).1 t s)) /\
  ((nO m t b s).2 = 0 -> cD (nO m t b s).1 t s = 0 -> dv m t b s = (cC (bQ (nO m t b s).1 t s), eL (bQ (nO m t b s).1 t s))) := by
 unfold nO dv; generalize bA m t = mr
 have key : ∀ (f k : Nat), (rh mr t b s f k).2 ≠ 0 -> rh mr t b s (f + 2) k = rh mr t b s f k := by
  intro f
  induction f with
  | zero => intro k h; exact absurd rfl h
  | succ f ih =>
   intro k h; rw [rh] at h ⊢
   conv => rhs; rw [rh]
   by_cases hc : u9 mr t b s k = 0
   ·rw [if_pos hc] at h ⊢
    rw [if_pos hc]; exact ih (k + 1) h
   ·rw [if_neg hc, if_neg hc]
 have good : ∀ (f k : Nat), (rh mr t b s f k).2 = 0 -> (rh mr t b s f k).1 = qE mr t b s (f + k) /\ rh mr t b s (f + 2) k = rh mr t b s 2 (f + k) := by
  intro f
  induction f with
  | zero => intro k h; exact ⟨by rw [Nat.zero_add]; rfl, by rw [Nat.zero_add, Nat.zero_add]⟩
  | succ f ih =>
   intro k h; rw [rh] at h
   by_cases hc : u9 mr t b s k = 0
   ·rw [if_pos hc] at h
    obtain ⟨h1, h2⟩ := ih (k + 1) h; rw [rh, if_pos hc, show f + 1 + k = f + (k + 1) from by omega]; refine ⟨h1, ?_⟩; rw [show f + 1 + 2 = (f + 2) + 1 from by omega, rh, if_pos hc]; exact h2
   ·rw [if_neg hc] at h
    exact absurd h hc
 refine ⟨fun h => key 3 0 h, fun h h2 => ?_, fun h h2 => ?_⟩
 ·obtain ⟨h3, h4⟩ := good 3 0 h
  rw [h3] at h2 ⊢; rw [h4, rh, if_neg (show u9 mr t b s (3 + 0) ≠ 0 from h2)]; rfl
 ·obtain ⟨h3, h4⟩ := good 3 0 h
  rw [h3] at h2 ⊢; rw [h4, rh, if_pos (show u9 mr t b s (3 + 0) = 0 from h2), rh]
  by_cases h5 : u9 mr t b s (3 + 0 + 1) = 0
  ·rw [if_pos h5, rh]
   have : eL (bQ (qE mr t b s (3 + 0)) t s) = 0 := h5; rw [this]; rfl
  ·rw [if_neg h5]
   rfl
end Go.Proofs.YtcamcgfbljhbhaaGreatDoor

namespace Go.Proofs.YtcamcgfbljhbhaaGreatDoor
open Go.Proofs Go.Shelf
def bJ : Go.Shelf.Ren := ⟨fun | 157 => 34 | 229 => 78 | 199 => 79 | 261 => 103 | 311 => 117 | 312 => 118 | n => n, fun | 9 => 9 | 31 => 39 | 3 => 3 | 5 => 5 | 4 => 4 | 119 => 102 | 0 => 0 | 40 => 104 | 152 => 128 | 21 => 21 | 154 => 130 | 51 => 131 | 141 => 133 | 196 => 155 | 193 => 152 | 198 => 158 | 49 => 156 | 194 => 153 | 201 => 161 | 226 => 177 | 46 => 127 | 227 => 178 | n => n, fun | 0 => 0 | 6 => 1 | n => n⟩
theorem z6 : Go.Proofs.Lays.n157 Tryz.prog bJ := {
 mixed := by kernel_rfl
 f157 := Tryz.func34.trans (congrArg some (by kernel_rfl))
 f199 := Tryz.func79.trans (congrArg some (by kernel_rfl))
 f229 := Tryz.func78.trans (congrArg some (by kernel_rfl))
 f261 := Tryz.func103.trans (congrArg some (by kernel_rfl))
 f311 := Tryz.func117.trans (congrArg some (by kernel_rfl))
 f312 := Tryz.func118.trans (congrArg some (by kernel_rfl))
 t0 := Tryz.underlying0
 a0 := Tryz.isAgg0
 z0 := Tryz.sizeOf0
 v0 := Tryz.zeroValue0
 t3 := Tryz.underlying3
 a3 := Tryz.isAgg3
 z3 := Tryz.sizeOf3
 v3 := Tryz.zeroValue3
 t4 := Tryz.underlying4
 a4 := Tryz.isAgg4
 z4 := Tryz.sizeOf4
 v4 := Tryz.zeroValue4
 t5 := Tryz.underlying5
 a5 := Tryz.isAgg5
 z5 := Tryz.sizeOf5
 v5 := Tryz.zeroValue5
 t9 := Tryz.underlying9
 a9 := Tryz.isAgg9
 z9 := Tryz.sizeOf9
 v9 := Tryz.zeroValue9
 t21 := Tryz.underlying21
 a21 := Tryz.isAgg21
 z21 := Tryz.sizeOf21
 v21 := Tryz.zeroValue21
 t31 := Tryz.underlying39
 a31 := Tryz.isAgg39
 z31 := Tryz.sizeOf39
 v31 := Tryz.zeroValue39
 t40 := Tryz.underlying104
 a40 := Tryz.isAgg104
 z40 := Tryz.sizeOf104
 v40 := Tryz.zeroValue104
 t46 := Tryz.underlying127
 a46 := Tryz.isAgg127
 z46 := Tryz.sizeOf127
 v46 := Tryz.zeroValue127
 t49 := Tryz.underlying156
 a49 := Tryz.isAgg156
 z49 := Tryz.sizeOf156
 v49 := Tryz.zeroValue156
 t51 := Tryz.underlying131
 a51 := Tryz.isAgg131
 z51 := Tryz.sizeOf131
 v51 := Tryz.zeroValue131
 t119 := Tryz.underlying102
 a119 := Tryz.isAgg102
 z119 := Tryz.sizeOf102
 t141 := Tryz.underlying133
 a141 := Tryz.isAgg133
 z141 := Tryz.sizeOf133
 v141 := Tryz.zeroValue133
 t152 := Tryz.underlying128
 a152 := Tryz.isAgg128
 z152 := Tryz.sizeOf128
 v152 := Tryz.zeroValue128
 t154 := Tryz.underlying130
 a154 := Tryz.isAgg130
 z154 := Tryz.sizeOf130
 v154 := Tryz.zeroValue130
 t193 := Tryz.underlying152
 a193 := Tryz.isAgg152
 z193 := Tryz.sizeOf152
 v193 := Tryz.zeroValue152
 t194 := Tryz.underlying153
 a194 := Tryz.isAgg153
 z194 := Tryz.sizeOf153
 v194 := Tryz.zeroValue153
 t196 := Tryz.underlying155
 a196 := Tryz.isAgg155
 z196 := Tryz.sizeOf155
 v196 := Tryz.zeroValue155
 t198 := Tryz.underlying158
 a198 := Tryz.isAgg158
 z198 := Tryz.sizeOf158
 v198 := Tryz.zeroValue158
 t201 := Tryz.underlying161
 a201 := Tryz.isAgg161
 z201 := Tryz.sizeOf161
 v201 := Tryz.zeroValue161
 t226 := Tryz.underlying177
 a226 := Tryz.isAgg177
 z226 := Tryz.sizeOf177
 v226 := Tryz.zeroValue177
 t227 := Tryz.underlying178
 a227 := Tryz.isAgg178
 z227 := Tryz.sizeOf178
 v227 := Tryz.zeroValue178
 g0 := by kernel_rfl
 g6 := by kernel_rfl }
def CL : Go.Shelf.Ren := ⟨fun | 160 => 134 | 232 => 148 | 231 => 147 | 227 => 149 | 234 => 151 | 233 => 150 | 236 => 153 | 235 => 152 | 228 => 166 | 271 => 169 | 151 => 168 | 197 => 167 | 120 => 179 | 152 => 178 | 260 => 177 | 137 => 106 | 119 => 181 | 224 => 182 | 225 => 183 | 217 => 122 | 266 => 140 | n => n, fun | 9 => 9 | 4 => 4 | 3 => 3 | 5 => 5 | 117 => 191 | 116 => 190 | 0 => 0 | 124 => 194 | 21 => 21 | 105 => 210 | 46 => 127 | 119 => 102 | 139 => 228 | 138 => 227 | n => n, fun | 3 => 8 | 4 => 9 | n => n⟩
theorem MG : Go.Proofs.Lays.n160 Tryz.prog CL := {
 mixed := by kernel_rfl
 f119 := Tryz.func181.trans (congrArg some (by kernel_rfl))
 f120 := Tryz.func179.trans (congrArg some (by kernel_rfl))
 f137 := Tryz.func106.trans (congrArg some (by kernel_rfl))
 f151 := Tryz.func168.trans (congrArg some (by kernel_rfl))
 f152 := Tryz.func178.trans (congrArg some (by kernel_rfl))
 f160 := Tryz.func134.trans (congrArg some (by kernel_rfl))
 f197 := Tryz.func167.trans (congrArg some (by kernel_rfl))
 f217 := Tryz.func122.trans (congrArg some (by kernel_rfl))
 f224 := Tryz.func182.trans (congrArg some (by kernel_rfl))
 f225 := Tryz.func183.trans (congrArg some (by kernel_rfl))
 f227 := Tryz.func149.trans (congrArg some (by kernel_rfl))
 f228 := Tryz.func166.trans (congrArg some (by kernel_rfl))
 f231 := Tryz.func147.trans (congrArg some (by kernel_rfl))
 f232 := Tryz.func148.trans (congrArg some (by kernel_rfl))
 f233 := Tryz.func150.trans (congrArg some (by kernel_rfl))
 f234 := Tryz.func151.trans (congrArg some (by kernel_rfl))
 f235 := Tryz.func152.trans (congrArg some (by kernel_rfl))
 f236 := Tryz.func153.trans (congrArg some (by kernel_rfl))
 f260 := Tryz.func177.trans (congrArg some (by kernel_rfl))
 f266 := Tryz.func140.trans (congrArg some (by kernel_rfl))
 f271 := Tryz.func169.trans (congrArg some (by kernel_rfl))
 t0 := Tryz.underlying0
 a0 := Tryz.isAgg0
 z0 := Tryz.sizeOf0
 v0 := Tryz.zeroValue0
 t3 := Tryz.underlying3
 a3 := Tryz.isAgg3
 z3 := Tryz.sizeOf3
 v3 := Tryz.zeroValue3
 t4 := Tryz.underlying4
 a4 := Tryz.isAgg4
 z4 := Tryz.sizeOf4
 v4 := Tryz.zeroValue4
 t5 := Tryz.underlying5
 a5 := Tryz.isAgg5
 z5 := Tryz.sizeOf5
 v5 := Tryz.zeroValue5
 t9 := Tryz.underlying9
 a9 := Tryz.isAgg9
 z9 := Tryz.sizeOf9
 v9 := Tryz.zeroValue9
 t21 := Tryz.underlying21
 a21 := Tryz.isAgg21
 z21 := Tryz.sizeOf21
 v21 := Tryz.zeroValue21
 t46 := Tryz.underlying127
 a46 := Tryz.isAgg127
 z46 := Tryz.sizeOf127
 v46 := Tryz.zeroValue127
 t105 := Tryz.underlying210
 a105 := Tryz.isAgg210
 z105 := Tryz.sizeOf210
 v105 := Tryz.zeroValue210
 t116 := Tryz.underlying190
 a116 := Tryz.isAgg190
 z116 := Tryz.sizeOf190
 t117 := Tryz.underlying191
 a117 := Tryz.isAgg191
 z117 := Tryz.sizeOf191
 v117 := Tryz.zeroValue191
 t119 := Tryz.underlying102
 a119 := Tryz.isAgg102
 z119 := Tryz.sizeOf102
 t124 := Tryz.underlying194
 a124 := Tryz.isAgg194
 z124 := Tryz.sizeOf194
 v124 := Tryz.zeroValue194
 t138 := Tryz.underlying227
 a138 := Tryz.isAgg227
 z138 := Tryz.sizeOf227
 v138 := Tryz.zeroValue227
 t139 := Tryz.underlying228
 a139 := Tryz.isAgg228
 z139 := Tryz.sizeOf228
 v139 := Tryz.zeroValue228
 g3 := by kernel_rfl
 g4 := by kernel_rfl }
def uJ : Go.Shelf.Ren := ⟨fun | 137 => 106 | 217 => 122 | 266 => 140 | n => n, fun | 9 => 9 | 5 => 5 | 3 => 3 | n => n, fun | n => n⟩
theorem A9 : Go.Proofs.Lays.n137 Tryz.prog uJ := {
 mixed := by kernel_rfl
 f137 := Tryz.func106.trans (congrArg some (by kernel_rfl))
 f217 := Tryz.func122.trans (congrArg some (by kernel_rfl))
 f266 := Tryz.func140.trans (congrArg some (by kernel_rfl))
 t3 := Tryz.underlying3
 a3 := Tryz.isAgg3
 z3 := Tryz.sizeOf3
 v3 := Tryz.zeroValue3
 t5 := Tryz.underlying5
 a5 := Tryz.isAgg5
 z5 := Tryz.sizeOf5
 v5 := Tryz.zeroValue5
 t9 := Tryz.underlying9
 a9 := Tryz.isAgg9
 z9 := Tryz.sizeOf9
 v9 := Tryz.zeroValue9 }
def b9 : Go.Shelf.Ren := ⟨fun | 172 => 105 | 244 => 120 | 245 => 121 | 247 => 135 | 279 => 136 | 280 => 137 | 281 => 138 | 282 => 139 | 287 => 154 | 316 => 155 | 171 => 19 | 205 => 156 | 321 => 170 | 322 => 171 | 243 => 45 | 246 => 94 | 283 => 110 | 284 => 111 | 285 => 112 | 286 => 113 | 129 => 127 | 317 => 126 | 318 => 128 | 319 => 129 | 320 => 130 | 337 => 142 | 338 => 143 | n => n, fun | 9 => 9 | 3 => 3 | 75 => 86 | 76 => 87 | 4 => 4 | 5 => 5 | 167 => 180 | 37 => 22 | 0 => 0 | 85 => 181 | 2 => 2 | 168 => 183 | 53 => 143 | 175 => 195 | 46 => 127 | 210 => 198 | 127 => 119 | 145 => 216 | 143 => 214 | 21 => 21 | 171 => 142 | 173 => 146 | 212 => 170 | 51 => 131 | 20 => 20 | 213 => 171 | 232 => 200 | 233 => 201 | 80 => 89 | n => n, fun | 15 => 4 | 16 => 5 | 17 => 2 | 18 => 6 | 19 => 7 | n => n⟩
theorem Ba : Go.Proofs.LaysC.n172 Tryz.prog b9 := {
 mixed := by kernel_rfl
 f129 := Tryz.func127.trans (congrArg some (by kernel_rfl))
 f171 := Tryz.func19.trans (congrArg some (by kernel_rfl))
 f172 := Tryz.func105.trans (congrArg some (by kernel_rfl))
 f205 := Tryz.func156.trans (congrArg some (by kernel_rfl))
 f243 := Tryz.func45.trans (congrArg some (by kernel_rfl))
 f244 := Tryz.func120.trans (congrArg some (by kernel_rfl))
 f245 := Tryz.func121.trans (congrArg some (by kernel_rfl))
 f246 := Tryz.func94.trans (congrArg some (by kernel_rfl))
 f247 := Tryz.func135.trans (congrArg some (by kernel_rfl))
 f279 := Tryz.func136.trans (congrArg some (by kernel_rfl))
 f280 := Tryz.func137.trans (congrArg some (by kernel_rfl))
 f281 := Tryz.func138.trans (congrArg some (by kernel_rfl))
 f282 := Tryz.func139.trans (congrArg some (by kernel_rfl))
 f283 := Tryz.func110.trans (congrArg some (by kernel_rfl))
 f284 := Tryz.func111.trans (congrArg some (by kernel_rfl))
 f285 := Tryz.func112.trans (congrArg some (by kernel_rfl))
 f286 := Tryz.func113.trans (congrArg some (by kernel_rfl))
 f287 := Tryz.func154.trans (congrArg some (by kernel_rfl))
 f316 := Tryz.func155.trans (congrArg some (by kernel_rfl))
 f317 := Tryz.func126.trans (congrArg some (by kernel_rfl))
 f318 := Tryz.func128.trans (congrArg some (by kernel_rfl))
 f319 := Tryz.func129.trans (congrArg some (by kernel_rfl))
 f320 := Tryz.func130.trans (congrArg some (by kernel_rfl))
 f321 := Tryz.func170.trans (congrArg some (by kernel_rfl))
 f322 := Tryz.func171.trans (congrArg some (by kernel_rfl))
 f337 := Tryz.func142.trans (congrArg some (by kernel_rfl))
 f338 := Tryz.func143.trans (congrArg some (by kernel_rfl))
 t0 := Tryz.underlying0
 a0 := Tryz.isAgg0
 z0 := Tryz.sizeOf0
 v0 := Tryz.zeroValue0
 t2 := Tryz.underlying2
 a2 := Tryz.isAgg2
 z2 := Tryz.sizeOf2
 v2 := Tryz.zeroValue2
 t3 := Tryz.underlying3
 a3 := Tryz.isAgg3
 z3 := Tryz.sizeOf3
 v3 := Tryz.zeroValue3
 t4 := Tryz.underlying4
 a4 := Tryz.isAgg4
 z4 := Tryz.sizeOf4
 v4 := Tryz.zeroValue4
 t5 := Tryz.underlying5
 a5 := Tryz.isAgg5
 z5 := Tryz.sizeOf5
 v5 := Tryz.zeroValue5
 t9 := Tryz.underlying9
 a9 := Tryz.isAgg9
 z9 := Tryz.sizeOf9
 v9 := Tryz.zeroValue9
 t20 := Tryz.underlying20
 a20 := Tryz.isAgg20
 z20 := Tryz.sizeOf20
 v20 := Tryz.zeroValue20
 t21 := Tryz.underlying21
 a21 := Tryz.isAgg21
 z21 := Tryz.sizeOf21
 v21 := Tryz.zeroValue21
 t37 := Tryz.underlying22
 a37 := Tryz.isAgg22
 z37 := Tryz.sizeOf22
 v37 := Tryz.zeroValue22
 t46 := Tryz.underlying127
 a46 := Tryz.isAgg127
 z46 := Tryz.sizeOf127
 v46 := Tryz.zeroValue127
 t51 := Tryz.underlying131
 a51 := Tryz.isAgg131
 z51 := Tryz.sizeOf131
 v51 := Tryz.zeroValue131
 t53 := Tryz.underlying143
 a53 := Tryz.isAgg143
 z53 := Tryz.sizeOf143
 v53 := Tryz.zeroValue143
 t75 := Tryz.underlying86
 a75 := Tryz.isAgg86
 z75 := Tryz.sizeOf86
 v75 := Tryz.zeroValue86
 t76 := Tryz.underlying87
 a76 := Tryz.isAgg87
 z76 := Tryz.sizeOf87
 v76 := Tryz.zeroValue87
 t85 := Tryz.underlying181
 a85 := Tryz.isAgg181
 z85 := Tryz.sizeOf181
 v85 := Tryz.zeroValue181
 t127 := Tryz.underlying119
 a127 := Tryz.isAgg119
 z127 := Tryz.sizeOf119
 v127 := Tryz.zeroValue119
 t143 := Tryz.underlying214
 a143 := Tryz.isAgg214
 z143 := Tryz.sizeOf214
 v143 := Tryz.zeroValue214
 t145 := Tryz.underlying216
 a145 := Tryz.isAgg216
 z145 := Tryz.sizeOf216
 v145 := Tryz.zeroValue216
 t167 := Tryz.underlying180
 a167 := Tryz.isAgg180
 z167 := Tryz.sizeOf180
 v167 := Tryz.zeroValue180
 t168 := Tryz.underlying183
 a168 := Tryz.isAgg183
 z168 := Tryz.sizeOf183
 v168 := Tryz.zeroValue183
 t171 := Tryz.underlying142
 a171 := Tryz.isAgg142
 z171 := Tryz.sizeOf142
 v171 := Tryz.zeroValue142
 t173 := Tryz.underlying146
 a173 := Tryz.isAgg146
 z173 := Tryz.sizeOf146
 v173 := Tryz.zeroValue146
 t175 := Tryz.underlying195
 a175 := Tryz.isAgg195
 z175 := Tryz.sizeOf195
 v175 := Tryz.zeroValue195
 t210 := Tryz.underlying198
 a210 := Tryz.isAgg198
 z210 := Tryz.sizeOf198
 v210 := Tryz.zeroValue198
 t212 := Tryz.underlying170
 a212 := Tryz.isAgg170
 z212 := Tryz.sizeOf170
 v212 := Tryz.zeroValue170
 t213 := Tryz.underlying171
 a213 := Tryz.isAgg171
 z213 := Tryz.sizeOf171
 t232 := Tryz.underlying200
 a232 := Tryz.isAgg200
 z232 := Tryz.sizeOf200
 v232 := Tryz.zeroValue200
 t233 := Tryz.underlying201
 a233 := Tryz.isAgg201
 z233 := Tryz.sizeOf201
 v233 := Tryz.zeroValue201
 g15 := by kernel_rfl
 g16 := by kernel_rfl
 g17 := by kernel_rfl
 g18 := by kernel_rfl
 g19 := by kernel_rfl
 t80 := Tryz.underlying89
 a80 := Tryz.isAgg89
 z80 := Tryz.sizeOf89
 v80 := Tryz.zeroValue89
 i0 := by kernel_rfl
 i2 := by kernel_rfl
 i3 := by kernel_rfl
 i4 := by kernel_rfl
 i5 := by kernel_rfl
 i9 := by kernel_rfl
 i20 := by kernel_rfl
 i21 := by kernel_rfl
 i37 := by kernel_rfl
 i46 := by kernel_rfl
 i51 := by kernel_rfl
 i53 := by kernel_rfl
 i75 := by kernel_rfl
 i76 := by kernel_rfl
 i80 := by kernel_rfl
 i85 := by kernel_rfl
 i127 := by kernel_rfl
 i143 := by kernel_rfl
 i145 := by kernel_rfl
 i167 := by kernel_rfl
 i168 := by kernel_rfl
 i171 := by kernel_rfl
 i173 := by kernel_rfl
 i175 := by kernel_rfl
 i210 := by kernel_rfl
 i212 := by kernel_rfl
 i232 := by kernel_rfl
 i233 := by kernel_rfl
 m15 := by kernel_rfl
 m16 := by kernel_rfl
 m17 := by kernel_rfl
 m18 := by kernel_rfl
 m19 := by kernel_rfl
 c0 := by kernel_rfl
 c2 := by kernel_rfl
 c3 := by kernel_rfl
 c4 := by kernel_rfl
 c5 := by kernel_rfl
 c9 := by kernel_rfl
 c20 := by kernel_rfl
 c21 := by kernel_rfl
 c37 := by kernel_rfl
 c46 := by kernel_rfl
 c51 := by kernel_rfl
 c53 := by kernel_rfl
 c75 := by kernel_rfl
 c76 := by kernel_rfl
 c80 := by kernel_rfl
 c85 := by kernel_rfl
 c127 := by kernel_rfl
 c143 := by kernel_rfl
 c145 := by kernel_rfl
 c167 := by kernel_rfl
 c168 := by kernel_rfl
 c171 := by kernel_rfl
 c173 := by kernel_rfl
 c175 := by kernel_rfl
 c210 := by kernel_rfl
 c212 := by kernel_rfl
 c213 := by kernel_rfl
 c232 := by kernel_rfl
 c233 := by kernel_rfl }
def qc : Go.Shelf.Ren := ⟨fun | 171 => 19 | 243 => 45 | 246 => 94 | 283 => 110 | 284 => 111 | 285 => 112 | 286 => 113 | 129 => 127 | 317 => 126 | 318 => 128 | 319 => 129 | 320 => 130 | 337 => 142 | 338 => 143 | n => n, fun | 3 => 3 | 9 => 9 | 2 => 2 | 4 => 4 | 171 => 142 | 0 => 0 | 53 => 143 | 37 => 22 | 5 => 5 | 173 => 146 | 212 => 170 | 51 => 131 | 20 => 20 | 213 => 171 | 46 => 127 | 232 => 200 | 233 => 201 | n => n, fun | 17 => 2 | 18 => 6 | 19 => 7 | n => n⟩
theorem MH : Go.Proofs.LaysM.n171 Tryz.prog qc := {
 mixed := by kernel_rfl
 f129 := Tryz.func127.trans (congrArg some (by kernel_rfl))
 f171 := Tryz.func19.trans (congrArg some (by kernel_rfl))
 f243 := Tryz.func45.trans (congrArg some (by kernel_rfl))
 f246 := Tryz.func94.trans (congrArg some (by kernel_rfl))
 f283 := Tryz.func110.trans (congrArg some (by kernel_rfl))
 f284 := Tryz.func111.trans (congrArg some (by kernel_rfl))
 f285 := Tryz.func112.trans (congrArg some (by kernel_rfl))
 f286 := Tryz.func113.trans (congrArg some (by kernel_rfl))
 f317 := Tryz.func126.trans (congrArg some (by kernel_rfl))
 f318 := Tryz.func128.trans (congrArg some (by kernel_rfl))
 f319 := Tryz.func129.trans (congrArg some (by kernel_rfl))
 f320 := Tryz.func130.trans (congrArg some (by kernel_rfl))
 f337 := Tryz.func142.trans (congrArg some (by kernel_rfl))
 f338 := Tryz.func143.trans (congrArg some (by kernel_rfl))
 t0 := Tryz.underlying0
 a0 := Tryz.isAgg0
 z0 := Tryz.sizeOf0
 v0 := Tryz.zeroValue0
 t2 := Tryz.underlying2
 a2 := Tryz.isAgg2
 z2 := Tryz.sizeOf2
 v2 := Tryz.zeroValue2
 t3 := Tryz.underlying3
 a3 := Tryz.isAgg3
 z3 := Tryz.sizeOf3
 v3 := Tryz.zeroValue3
 t4 := Tryz.underlying4
 a4 := Tryz.isAgg4
 z4 := Tryz.sizeOf4
 v4 := Tryz.zeroValue4
 t5 := Tryz.underlying5
 a5 := Tryz.isAgg5
 z5 := Tryz.sizeOf5
 v5 := Tryz.zeroValue5
 t9 := Tryz.underlying9
 a9 := Tryz.isAgg9
 z9 := Tryz.sizeOf9
 v9 := Tryz.zeroValue9
 t20 := Tryz.underlying20
 a20 := Tryz.isAgg20
 z20 := Tryz.sizeOf20
 v20 := Tryz.zeroValue20
 t37 := Tryz.underlying22
 a37 := Tryz.isAgg22
 z37 := Tryz.sizeOf22
 v37 := Tryz.zeroValue22
 t46 := Tryz.underlying127
 a46 := Tryz.isAgg127
 z46 := Tryz.sizeOf127
 v46 := Tryz.zeroValue127
 t51 := Tryz.underlying131
 a51 := Tryz.isAgg131
 z51 := Tryz.sizeOf131
 v51 := Tryz.zeroValue131
 t53 := Tryz.underlying143
 a53 := Tryz.isAgg143
 z53 := Tryz.sizeOf143
 v53 := Tryz.zeroValue143
 t171 := Tryz.underlying142
 a171 := Tryz.isAgg142
 z171 := Tryz.sizeOf142
 v171 := Tryz.zeroValue142
 t173 := Tryz.underlying146
 a173 := Tryz.isAgg146
 z173 := Tryz.sizeOf146
 v173 := Tryz.zeroValue146
 t212 := Tryz.underlying170
 a212 := Tryz.isAgg170
 z212 := Tryz.sizeOf170
 v212 := Tryz.zeroValue170
 t213 := Tryz.underlying171
 a213 := Tryz.isAgg171
 z213 := Tryz.sizeOf171
 t232 := Tryz.underlying200
 a232 := Tryz.isAgg200
 z232 := Tryz.sizeOf200
 v232 := Tryz.zeroValue200
 t233 := Tryz.underlying201
 a233 := Tryz.isAgg201
 z233 := Tryz.sizeOf201
 v233 := Tryz.zeroValue201
 g17 := by kernel_rfl
 g18 := by kernel_rfl
 g19 := by kernel_rfl
 i0 := by kernel_rfl
 i2 := by kernel_rfl
 i3 := by kernel_rfl
 i4 := by kernel_rfl
 i5 := by kernel_rfl
 i9 := by kernel_rfl
 i20 := by kernel_rfl
 i37 := by kernel_rfl
 i46 := by kernel_rfl
 i51 := by kernel_rfl
 i53 := by kernel_rfl
 i171 := by kernel_rfl
 i173 := by kernel_rfl
 i212 := by kernel_rfl
 i232 := by kernel_rfl
 i233 := by kernel_rfl
 m17 := by kernel_rfl
 m18 := by kernel_rfl
 m19 := by kernel_rfl }
def vz : Go.Shelf.Ren := ⟨fun | 156 => 21 | 165 => 47 | 166 => 48 | 169 => 49 | 240 => 95 | 241 => 96 | 276 => 114 | 277 => 115 | n => n, fun | 31 => 39 | 9 => 9 | 3 => 3 | 4 => 4 | 0 => 0 | 20 => 20 | 72 => 83 | 76 => 87 | 70 => 81 | 37 => 22 | 75 => 86 | 127 => 119 | 164 => 148 | 5 => 5 | 80 => 89 | n => n, fun | n => n⟩
theorem MI : Go.Proofs.Lays.n156 Tryz.prog vz := {
 mixed := by kernel_rfl
 f156 := Tryz.func21.trans (congrArg some (by kernel_rfl))
 f165 := Tryz.func47.trans (congrArg some (by kernel_rfl))
 f166 := Tryz.func48.trans (congrArg some (by kernel_rfl))
 f169 := Tryz.func49.trans (congrArg some (by kernel_rfl))
 f240 := Tryz.func95.trans (congrArg some (by kernel_rfl))
 f241 := Tryz.func96.trans (congrArg some (by kernel_rfl))
 f276 := Tryz.func114.trans (congrArg some (by kernel_rfl))
 f277 := Tryz.func115.trans (congrArg some (by kernel_rfl))
 t0 := Tryz.underlying0
 a0 := Tryz.isAgg0
 z0 := Tryz.sizeOf0
 v0 := Tryz.zeroValue0
 t3 := Tryz.underlying3
 a3 := Tryz.isAgg3
 z3 := Tryz.sizeOf3
 v3 := Tryz.zeroValue3
 t4 := Tryz.underlying4
 a4 := Tryz.isAgg4
 z4 := Tryz.sizeOf4
 v4 := Tryz.zeroValue4
 t9 := Tryz.underlying9
 a9 := Tryz.isAgg9
 z9 := Tryz.sizeOf9
 v9 := Tryz.zeroValue9
 t20 := Tryz.underlying20
 a20 := Tryz.isAgg20
 z20 := Tryz.sizeOf20
 v20 := Tryz.zeroValue20
 t31 := Tryz.underlying39
 a31 := Tryz.isAgg39
 z31 := Tryz.sizeOf39
 v31 := Tryz.zeroValue39
 t37 := Tryz.underlying22
 a37 := Tryz.isAgg22
 z37 := Tryz.sizeOf22
 v37 := Tryz.zeroValue22
 t70 := Tryz.underlying81
 a70 := Tryz.isAgg81
 z70 := Tryz.sizeOf81
 v70 := Tryz.zeroValue81
 t72 := Tryz.underlying83
 a72 := Tryz.isAgg83
 z72 := Tryz.sizeOf83
 v72 := Tryz.zeroValue83
 t75 := Tryz.underlying86
 a75 := Tryz.isAgg86
 z75 := Tryz.sizeOf86
 v75 := Tryz.zeroValue86
 t76 := Tryz.underlying87
 a76 := Tryz.isAgg87
 z76 := Tryz.sizeOf87
 v76 := Tryz.zeroValue87
 t127 := Tryz.underlying119
 a127 := Tryz.isAgg119
 z127 := Tryz.sizeOf119
 v127 := Tryz.zeroValue119
 t164 := Tryz.underlying148
 a164 := Tryz.isAgg148
 z164 := Tryz.sizeOf148
 v164 := Tryz.zeroValue148 }
end Go.Proofs.YtcamcgfbljhbhaaGreatDoor

namespace Go.Proofs.YtcamcgfbljhbhaaGreatDoor
open Go.RowKit Go.Maps
def sq (zs : List Int) : List Int := zs.flatMap fun c => [((lH (c / 16).toNat).toNat : Int), ((lH (c % 16).toNat).toNat : Int)]
theorem z8 {zs : List Int} {k : Nat} (h : k < zs.length) : sq (zs.take (k + 1)) = sq (zs.take k) ++ [((lH (zs[k] / 16).toNat).toNat : Int), ((lH (zs[k] % 16).toNat).toNat : Int)] := by
 unfold sq; rw [List.take_succ_eq_append_getElem h, List.flatMap_append]; simp
theorem CM (zs : List Int) : (sq zs).length = 2 * zs.length := by
 induction zs with
 | nil => rfl
 | cons x r ih => unfold sq at ih ⊢; rw [List.flatMap_cons, List.length_append, ih]; simp; omega
theorem CN (s : ByteArray) : strOfNums (sq (bu s)) = aU (eF s) := by
 rw [zX]; apply xZ; unfold sq bu eF
 induction s.data.toList with
 | nil => rfl
 | cons x r ih =>
  rw [List.map_cons, List.flatMap_cons, List.flatMap_cons, List.map_append, ih]
  congr 1
  simp only [x5, List.map_cons, List.map_nil]; have h1 : (((x.toNat : Nat) : Int) / 16).toNat = x.toNat / 16 := by omega
  have h2 : (((x.toNat : Nat) : Int) % 16).toNat = x.toNat % 16 := by omega
  rw [h1, h2]; simp
theorem ox {w : World} {base e : Nat} {v : Value} {bs : List Int} (h : w.ownsRow base e 1 v bs.length (bs.map (Value.int .u8))) :
  (convert 22 9 v).run Tryz.prog w = .ok (.string (strOfNums bs)) w := by
 obtain ⟨a, c, rfl, _, hr⟩ := Oa rfl h; cases a with
 | none =>
  have hz : bs = [] := by
   cases bs with
   | nil => rfl
   | cons z r =>
    obtain ⟨_, _, h, _⟩ := hr 0 (by simp); cases h
  subst hz; exact run_convert_bytes_nil w 22 5 Tryz.underlying22 Tryz.underlying5 _ _ 9 Tryz.underlying9
 | some ad =>
  rcases h.2 with ⟨h', _⟩ | ⟨g, cap, cur, h', _⟩
  ·simp at h'
  ·simp only [Value.slice.injEq, Option.some.injEq, true_and] at h'
   obtain ⟨rfl, rfl⟩ := h'
   exact run_convert_bytes_arg w 22 5 Tryz.underlying22 Tryz.underlying5 g 0 bs.length c bs rfl (fun i hi => by
    obtain ⟨b', o', e', _, hc⟩ := hr i hi; simp only [Option.some.injEq, Addr.mk.injEq, and_true] at e'; obtain ⟨rfl, rfl⟩ := e'; exact hc) 9 Tryz.underlying9
theorem KB (k : IntKind) (w : World) (x y : Int) (t : TypeId) : Rd k (w.heap.size + 1) (w.alloc (.cells #[.int k x, .int k y] t)) (some ⟨w.heap.size, 0, none⟩) [x, y] := by
 intro j hj; simp only [List.length_cons, List.length_nil] at hj; have Xi : j = 0 ∨ j = 1 := by omega
 rcases Xi with rfl | rfl
 ·exact ⟨w.heap.size, 0, rfl, by omega, by simp⟩
 ·exact ⟨w.heap.size, 0, rfl, by omega, by simp⟩
theorem FY (c : Int) (w : World) (h0 : 0 <= c) (h1 : c < 16) :
  (Instr.index 9 (.string ⟨#[48, 49, 50, 51, 52, 53, 54, 55, 56, 57, 97, 98, 99, 100, 101, 102]⟩) (.int .u8 c)).run Tryz.prog w = .ok (.int .u8 ((lH c.toNat).toNat : Int)) w := by
 have hh : ∀ i : Fin 16, (Instr.index 9 (.string ⟨#[48, 49, 50, 51, 52, 53, 54, 55, 56, 57, 97, 98, 99, 100, 101, 102]⟩) (.int .u8 (i.val : Int))).run Tryz.prog w = .ok (.int .u8 ((lH i.val).toNat : Int)) w := by
  intro i; rw [run_index_string w 9 _ .u8 _ Tryz.underlying9]; have hi : (0 : Int) <= (i.val : Int) /\ (i.val : Int) < ((⟨#[48, 49, 50, 51, 52, 53, 54, 55, 56, 57, 97, 98, 99, 100, 101, 102]⟩ : ByteArray).size : Int) := ⟨by omega, by have := i.isLt; show (i.val : Int) < 16; omega⟩
  rw [dif_pos hi]
  congr 3
  revert i
  decide
 obtain ⟨i, hi⟩ : ∃ i : Nat, c = (i : Int) := ⟨c.toNat, by omega⟩
 subst hi; exact hh ⟨i, by omega⟩
theorem tQ (s : ByteArray) (w : World) (hs : s.size <= 1048576) :
  Calls Tryz.prog 46 #[.string s] w fun e w' => e = .returned (.string (aU (eF s))) /\ Below w.heap.size w w' := by
 obtain ⟨i0, IR⟩ := info_parts Tryz.wI; have HI := Hm IR; clear IR; obtain ⟨w1, cap, hcv, hb1, hr1⟩ := NB s w; have HR := Hm hr1; have HO := Hm (pQ s); have HS := Hm (CN s); obtain ⟨zs, hzs⟩ : ∃ z, z = bu s := ⟨_, rfl⟩
 have hzl : zs.length = s.size := by rw [hzs]; exact cf s
 rw [<- hzs] at HR HO HS; obtain ⟨n, hn⟩ : ∃ n, n = s.size := ⟨_, rfl⟩
 rw [<- hn] at hzl hs hcv; have HX := Hm hzl; clear hzs hzl hr1 hn; go_enter Tryz.func46, Tryz.ntmps46; go_wp2_with fail; clear hcv
 go_loopw [3, 9] (fun v i wr => ∃ k : Nat, k <= n /\ i = .int .i64 k /\ wr.ownsRow w1.heap.size 5 1 v (sq (zs.take k)).length ((sq (zs.take k)).map (Value.int .u8)) /\ Below w1.heap.size w1 wr) (fun _ i _ => n - (intOf i).toNat)
 case atStart => exact ⟨0, Nat.zero_le _, rfl, ⟨rfl, .inl ⟨rfl, rfl⟩⟩, rB⟩
 case round =>
  obtain ⟨k, hk, rfl, hown, bF⟩ := hrel
  by_cases hlt : k < n
  ·have gH : k < zs.length := by rw [HX.out]; exact hlt
   obtain ⟨b2, o2, DW, AE, hc2⟩ := (HR.out.below bF) k gH; simp only [Option.some.injEq, Addr.mk.injEq, and_true] at DW; obtain ⟨rfl, rfl⟩ := DW; have hcb := HO.out zs[k] (List.getElem_mem gH); have HZ := Hm (z8 gH); rw [List.getD_eq_getElem?_getD, List.getElem?_eq_getElem gH, Option.getD_some, Nat.zero_add] at hc2; generalize zs[k] = c at *; have hl2 : (sq (zs.take k)).length <= 2097152 := by rw [CM]; simp; omega
   generalize sq (zs.take k) = out at *; have zy : w.heap.size < wr.heap.size := Nat.lt_of_lt_of_le AE bF.size; have e1 : c.tdiv 16 = c / 16 := Int.tdiv_eq_ediv_of_nonneg hcb.1; have e2 : c.tmod 16 = c % 16 := Int.tmod_eq_emod_of_nonneg hcb.1; have sG : 0 <= c / 16 /\ c / 16 < 16 := by omega
   have vg : 0 <= c % 16 /\ c % 16 < 16 := by omega
   have di : IntKind.u8.wrap (c / 16) = c / 16 := by rw [IntKind.wrap_u8]; omega
   have hw2 : IntKind.u8.wrap (c % 16) = c % 16 := by rw [IntKind.wrap_u8]; omega
   have hx1 := fun (W : World) => FY (c / 16) W sG.1 sG.2
   have hx2 := fun (W : World) => FY (c % 16) W vg.1 vg.2
   generalize ((lH (c / 16).toNat).toNat : Int) = x1 at *; generalize ((lH (c % 16).toNat).toNat : Int) = x2 at *; go_wp2_with fail; refine vE (fun W => Below w1.heap.size w1 W) (Below.drew bF) (fun hZ => ?_); refine uq 0 ?_; refine uq 1 ?_; refine uq 2 ?_; refine uq 3 ?_; refine uq 4 ?_; refine uq 5 ?_; refine uq 6 ?_; refine bf 7 rfl fun K hK => ?_
   go_simp; obtain ⟨w5, FZ⟩ : ∃ x, x = (wr.alloc (.cells (List.toArray [Value.int .u8 x1, Value.int .u8 x2]) 5)).drew := ⟨_, rfl⟩
   have hx1 : Below wr.heap.size wr w5 := by rw [FZ]; exact Below.drew (rB.alloc rN _)
   have eD : Below w1.heap.size w1 w5 := bF.trans (hx1.mono bF.size); have y7 : Hid (Rd .u8 (wr.heap.size + 1) w5 (some ⟨wr.heap.size, 0, none⟩) [x1, x2]) := by rw [FZ]; exact KB .u8 wr x1 x2 5
   have KC := Hm (aA hown hx1); rw [<- FZ]; clear FZ; refine aL hK (eD) (fun hZ => ?_); clear hK K; refine bf 8 rfl fun K hK => ?_
   refine a6 w5 rfl _ _ 22 22 rfl w1.heap.size 5 i0 (.int .u8 0) 1 1 Tryz.underlying22 HI.out.1 HI.out.2.1 HI.out.2.2.1 HI.out.2.2.2 rfl u3 out.length (out.map (Value.int .u8)) rfl KC.out (.slice (some ⟨wr.heap.size, 0, none⟩) 2 2) rfl 2 ([x1, x2].map (Value.int .u8)) (Src.rd Tryz.underlying22 rfl y7.out) (by unfold maxLen; omega) (by omega) eD.size ?_; intro v6 w6 gL KD PX; have dU : Below w1.heap.size w1 w6 := eD.grown KD eD.size (fun k h => (KC.out.lt k h).1); have I0 : Hid (w6.ownsRow w1.heap.size 5 1 v6 (out ++ [x1, x2]).length ((out ++ [x1, x2]).map (Value.int .u8))) := cM gL (by simp) (by simp); clear gL KD PX; refine aL hK (dU) (fun hZ => ?_); clear hK K; refine uq 9 ?_; refine dC ?_; go_wp2_with fail
   go_roundw
   case rel => exact ⟨k + 1, by omega, by go_num, by rw [HZ.out]; exact I0.out, dU⟩
   case measure => simp [intOf]; omega
  ·have Ej : Hid (zs.take k = zs) := List.take_of_length_le (by rw [HX.out]; omega)
   rw [Ej.out] at hown; have hcv := ox hown; rw [HS.out] at hcv; go_wp2_with fail; go_ret; exact ⟨rfl, af hb1 bF⟩
theorem KE {x : Int} (h0 : 0 <= x) (h1 : x <= 255) : bits .and .u8 x 15 = x % 16 := by
 rw [u8_and x 15 h0 (by omega) (by omega) (by omega)]; have : x.toNat &&& (15 : Int).toNat = x.toNat % 16 := Nat.and_two_pow_sub_one_eq_mod x.toNat 4; omega
theorem S4 (s : ByteArray) {k : Nat} (w : World) (h : k < (bu s).length) :
  (Instr.index 9 (.string s) (.int .i64 k)).run Tryz.prog w = .ok (.int .u8 (bu s)[k]) w := by
 have hs : k < s.size := by rw [<- cf]; exact h
 rw [run_index_string w 9 _ .i64 _ Tryz.underlying9, dif_pos ⟨by omega, by omega⟩]
 congr 2
 simp [bu]; rfl
theorem Aa (s : ByteArray) (w : World) (hs : s.size <= 1048576) :
  Calls Tryz.prog 69 #[.string s] w fun e w' => e = .returned (.string (aU (eF s))) /\ Below w.heap.size w w' := by
 obtain ⟨i0, IR⟩ := info_parts Tryz.wI; have HI := Hm IR; clear IR; have HO := Hm (pQ s); have HS := Hm (CN s); obtain ⟨zs, hzs⟩ : ∃ z, z = bu s := ⟨_, rfl⟩
 have hzl : zs.length = s.size := by rw [hzs]; exact cf s
 rw [<- hzs] at HO HS; have HA : Hid (∀ (k : Nat) (W : World) (h : k < zs.length), (Instr.index 9 (.string s) (.int .i64 k)).run Tryz.prog W = .ok (.int .u8 zs[k]) W) := by subst hzs; exact fun k W h => S4 s W h
 have HX := Hm hzl; clear hzs hzl; go_enter Tryz.func69, Tryz.ntmps69; go_wp2_with fail; obtain ⟨wq, bI⟩ : ∃ x, x = w.alloc (.cells #[] 5) := ⟨_, rfl⟩
 have kH : Below w.heap.size w wq := by rw [bI]; exact rB.alloc rN _
 have Zm : wq.ownsRow w.heap.size 5 1 (.slice (some ⟨w.heap.size, 0, none⟩) 0 0) 0 [] := by
  rw [bI]; exact ⟨by simp, .inr ⟨w.heap.size, 0, #[], rfl, rN, (show (w.heap.push _)[w.heap.size]? = _ from Array.getElem?_push_size), by omega, by simp [maxLen], by simp, by simp⟩⟩
 rw [<- bI]; clear bI
 go_loopw [4, 5] (fun v i wr => ∃ k : Nat, k <= s.size /\ i = .int .i64 k /\ wr.ownsRow w.heap.size 5 1 v (sq (zs.take k)).length ((sq (zs.take k)).map (Value.int .u8)) /\ Below w.heap.size w wr) (fun _ i _ => s.size - (intOf i).toNat)
 case atStart => exact ⟨0, Nat.zero_le _, rfl, Zm, kH⟩
 case round =>
  obtain ⟨k, hk, rfl, hown, bF⟩ := hrel; clear Zm kH
  by_cases hlt : k < s.size
  ·have gH : k < zs.length := by rw [HX.out]; exact hlt
   have hcb := HO.out zs[k] (List.getElem_mem gH); have HZ := Hm (z8 gH); have hsk := fun W => HA.out k W gH
   generalize zs[k] = c at *; have hl2 : (sq (zs.take k)).length <= 2097152 := by rw [CM]; simp; omega
   generalize sq (zs.take k) = out at *; have sG : 0 <= c / 16 /\ c / 16 < 16 := by omega
   have vg : 0 <= c % 16 /\ c % 16 < 16 := by omega
   have di : IntKind.u8.wrap (c / 16) = c / 16 := by rw [IntKind.wrap_u8]; omega
   have hw2 : IntKind.u8.wrap (c % 16) = c % 16 := by rw [IntKind.wrap_u8]; omega
   have hx1 := fun (W : World) => FY (c / 16) W sG.1 sG.2
   have hx2 := fun (W : World) => FY (c % 16) W vg.1 vg.2
   have ha2 := KE hcb.1 hcb.2; generalize ((lH (c / 16).toNat).toNat : Int) = x1 at *; generalize ((lH (c % 16).toNat).toNat : Int) = x2 at *; go_wp2_with fail; refine vE (fun W => Below w.heap.size w W) (Below.drew bF) (fun hZ => ?_); refine uq 0 ?_; refine uq 1 ?_; refine uq 2 ?_; refine uq 3 ?_; refine uq 4 ?_; refine uq 5 ?_; refine uq 6 ?_; refine uq 7 ?_; refine uq 8 ?_; refine uq 9 ?_; refine uq 10 ?_; refine uq 11 ?_; refine uq 12 ?_; refine bf 13 rfl fun K hK => ?_
   go_simp; obtain ⟨w5, FZ⟩ : ∃ x, x = (wr.alloc (.cells (List.toArray [Value.int .u8 x1, Value.int .u8 x2]) 5)).drew := ⟨_, rfl⟩
   have hx1 : Below wr.heap.size wr w5 := by rw [FZ]; exact Below.drew (rB.alloc rN _)
   have eD : Below w.heap.size w w5 := bF.trans (hx1.mono bF.size); have y7 : Hid (Rd .u8 (wr.heap.size + 1) w5 (some ⟨wr.heap.size, 0, none⟩) [x1, x2]) := by rw [FZ]; exact KB .u8 wr x1 x2 5
   have KC := Hm (aA hown hx1); rw [<- FZ]; clear FZ; refine aL hK (eD) (fun hZ => ?_); clear hK K; refine bf 14 rfl fun K hK => ?_
   refine a6 w5 rfl _ _ 22 22 rfl w.heap.size 5 i0 (.int .u8 0) 1 1 Tryz.underlying22 HI.out.1 HI.out.2.1 HI.out.2.2.1 HI.out.2.2.2 rfl u4 out.length (out.map (Value.int .u8)) rfl KC.out (.slice (some ⟨wr.heap.size, 0, none⟩) 2 2) rfl 2 ([x1, x2].map (Value.int .u8)) (Src.rd Tryz.underlying22 rfl y7.out) (by unfold maxLen; omega) (by omega) eD.size ?_; intro v6 w6 gL KD PX; have dU : Below w.heap.size w w6 := eD.grown KD eD.size (fun k h => (KC.out.lt k h).1); have I0 : Hid (w6.ownsRow w.heap.size 5 1 v6 (out ++ [x1, x2]).length ((out ++ [x1, x2]).map (Value.int .u8))) := cM gL (by simp) (by simp); clear gL KD PX; refine aL hK (dU) (fun hZ => ?_); clear hK K; refine uq 15 ?_; refine dC ?_; go_wp2_with fail
   go_roundw
   case rel => exact ⟨k + 1, by omega, by go_num, by rw [HZ.out]; exact I0.out, dU⟩
   case measure => simp [intOf]; omega
  ·have Ej : Hid (zs.take k = zs) := List.take_of_length_le (by rw [HX.out]; omega)
   rw [Ej.out] at hown; have hcv := ox hown; rw [HS.out] at hcv; go_wp2_with fail; go_ret; exact ⟨rfl, bF⟩
end Go.Proofs.YtcamcgfbljhbhaaGreatDoor
