/-
  Part 2 of the texts that the proof leans on.
-/
import Derived.Test.YtegonncmopecnaaGreatDoorMnd0
import Derived.Maps.OwnSet
import Derived.Maps.RangeWalk
import Derived.Sort.KeysCollected
import Derived.Test.YtegonncmopecnaaGreatDoorRows
import Derived.Test.YtegonncmopecnaaGreatDoorChecked
set_option linter.unusedVariables false
set_option linter.unusedSimpArgs false
set_option maxRecDepth 10000

namespace Go.Proofs.YtegonncmopecnaaGreatDoor
open Go.RowKit
def nameByte (c : Int) : Bool := decide (97 <= c /\ c <= 122 ∨ 48 <= c /\ c <= 57 ∨ c = 45 ∨ c = 46)
def nameOk (s : ByteArray) : Bool := decide (1 <= s.size /\ s.size <= 12) && (byteInts s).all nameByte
theorem nameOk_long {s : ByteArray} (h : ¬ (1 <= s.size /\ s.size <= 12)) : nameOk s = false := by
 unfold nameOk
 rw [decide_eq_false h]
 rfl
theorem nameOk_bad {s : ByteArray} {k : Nat} (hk : k < (byteInts s).length) (h : nameByte (byteInts s)[k] = false) : nameOk s = false := by
 unfold nameOk
 rw [Bool.and_eq_false_iff]
 right
 rw [List.all_eq_false]
 exact ⟨_, List.getElem_mem hk, by simp [h]⟩
theorem nameOk_good {s : ByteArray} (h : 1 <= s.size /\ s.size <= 12) (ha : ∀ k, (hk : k < (byteInts s).length) -> nameByte (byteInts s)[k] = true) : nameOk s = true := by
 unfold nameOk
 rw [decide_eq_true h, Bool.true_and, List.all_eq_true]
 intro x hx
 obtain ⟨k, hk, rfl⟩ := List.mem_iff_getElem.1 hx
 exact ha k hk
def named (l : List MEntry) (id : Int) : Bool := l.any fun e => decide (e.fId = id)
theorem named_yes {l : List MEntry} {id : Int} {k : Nat} (h : k < l.length) (he : l[k].fId = id) : named l id = true := by
 unfold named
 rw [List.any_eq_true]
 exact ⟨l[k], List.getElem_mem h, by simp [he]⟩
theorem named_no {l : List MEntry} {id : Int} (h : ∀ k, (hk : k < l.length) -> l[k].fId ≠ id) : named l id = false := by
 unfold named
 rw [List.any_eq_false]
 intro e he
 obtain ⟨k, hk, rfl⟩ := List.mem_iff_getElem.1 he
 simp [h k hk]
def placeOf (l : List MInode) (id : Int) : Nat := l.findIdx fun n => decide (n.fId = id)
def hasId (l : List MInode) (id : Int) : Bool := l.any fun n => decide (n.fId = id)
def placeZ (l : List MInode) (id : Int) : Int := if hasId l id then (placeOf l id : Int) else -1
theorem hasId_yes {l : List MInode} {id : Int} {k : Nat} (h : k < l.length) (he : l[k].fId = id) : hasId l id = true := by
 unfold hasId
 rw [List.any_eq_true]
 exact ⟨l[k], List.getElem_mem h, by simp [he]⟩
theorem hasId_no {l : List MInode} {id : Int} (h : ∀ k, (hk : k < l.length) -> l[k].fId ≠ id) : hasId l id = false := by
 unfold hasId
 rw [List.any_eq_false]
 intro e he
 obtain ⟨k, hk, rfl⟩ := List.mem_iff_getElem.1 he
 simp [h k hk]
theorem placeZ_at {l : List MInode} {id : Int} {k : Nat} (h : k < l.length) (he : l[k].fId = id) (hn : ∀ j, (hj : j < l.length) -> j < k -> l[j].fId ≠ id) : placeZ l id = k := by
 unfold placeZ
 rw [hasId_yes h he, if_pos rfl]
 have : placeOf l id = k := by
  unfold placeOf
  rw [List.findIdx_eq h]
  exact ⟨decide_eq_true he, fun j hj => by simp [hn j (by omega) hj]⟩
 rw [this]
theorem placeZ_no {l : List MInode} {id : Int} (hn : ∀ j, (hj : j < l.length) -> l[j].fId ≠ id) : placeZ l id = -1 := by
 unfold placeZ
 rw [hasId_no hn]
 rfl
theorem placeZ_neg {l : List MInode} {id : Int} : placeZ l id < 0 ↔ hasId l id = false := by
 unfold placeZ
 cases hasId l id
 ·simp
 ·simp
def strLt (a b : ByteArray) : Bool := Op.bytesLess a.toList b.toList
def stepI (next prev : Int) (n : MInode) : Bool := decide (prev < n.fId /\ n.fId < next /\ 0 <= n.fSure /\ n.fSure <= n.fData.length)
def okI (next : Int) : Int -> List MInode -> Bool
 | _, [] => true
 | prev, n :: r => stepI next prev n && okI next n.fId r
def stepE (l : List MInode) (seen : List Int) (prev : ByteArray) (e : MEntry) : Bool := hasId l e.fId && !seen.contains e.fId && strLt prev e.fName && nameOk e.fName
def okE (l : List MInode) : List Int -> ByteArray -> List MEntry -> Bool
 | _, _, [] => true
 | seen, prev, e :: r => stepE l seen prev e && okE l (seen ++ [e.fId]) e.fName r
def isNamed (d : MDisk) (n : MInode) : Bool := named d.fNames n.fId || named d.fSafe n.fId
def diskOk (d : MDisk) : Bool :=
 decide (1 <= d.fNext /\ d.fNext <= 1000000) && okI d.fNext 0 d.fInodes && decide (sumW wInode d.fInodes <= 60000) &&
  decide (d.fNames.length <= 30) && okE d.fInodes [] ByteArray.empty d.fNames && decide (d.fSafe.length <= 30) && okE d.fInodes [] ByteArray.empty d.fSafe && d.fInodes.all (isNamed d)
def keepI (d : MDisk) : List MInode := d.fInodes.filter (isNamed d)
def prevId (l : List MInode) (k : Nat) : Int := match k with | 0 => 0 | k + 1 => (l[k]?.map (·.fId)).getD 0
def prevName (l : List MEntry) (k : Nat) : ByteArray := match k with | 0 => ByteArray.empty | k + 1 => (l[k]?.map (·.fName)).getD ByteArray.empty
def idsTo (l : List MEntry) (k : Nat) : List Int := (l.take k).map (·.fId)
theorem prevId_succ {l : List MInode} {k : Nat} (h : k < l.length) : prevId l (k + 1) = l[k].fId := by simp [prevId, h]
theorem prevName_succ {l : List MEntry} {k : Nat} (h : k < l.length) : prevName l (k + 1) = l[k].fName := by simp [prevName, h]
theorem idsTo_succ {l : List MEntry} {k : Nat} (h : k < l.length) : idsTo l (k + 1) = idsTo l k ++ [l[k].fId] := by
 unfold idsTo
 rw [List.take_succ_eq_append_getElem h, List.map_append]
 rfl
theorem okI_step {next : Int} {l : List MInode} {k : Nat} (h : k < l.length) : okI next (prevId l k) (l.drop k) = (stepI next (prevId l k) l[k] && okI next (prevId l (k + 1)) (l.drop (k + 1))) := by
 rw [List.drop_eq_getElem_cons h, okI, prevId_succ h]
theorem okE_step {ins : List MInode} {l : List MEntry} {k : Nat} (h : k < l.length) : okE ins (idsTo l k) (prevName l k) (l.drop k) = (stepE ins (idsTo l k) (prevName l k) l[k] && okE ins (idsTo l (k + 1)) (prevName l (k + 1)) (l.drop (k + 1))) := by
 rw [List.drop_eq_getElem_cons h, okE, prevName_succ h, idsTo_succ h]
theorem nodup_fit {l m : List Int} (h : l.Nodup) (hs : ∀ x, x ∈ l -> x ∈ m) : l.length <= m.length := by
 induction l generalizing m with
 | nil => simp
 | cons x r ih =>
  have hn := List.nodup_cons.1 h
  have hx := hs x (by simp)
  have h1 := ih hn.2 (m := m.erase x) (fun y hy => (List.mem_erase_of_ne (fun (e : y = x) => hn.1 (by rw [<- e]; exact hy))).2 (hs y (by simp [hy])))
  have h2 := List.length_erase_of_mem hx
  have h3 : 0 < m.length := List.length_pos_of_mem hx
  simp only [List.length_cons]
  omega
theorem okI_lower {next : Int} {l : List MInode} : ∀ {prev : Int}, okI next prev l = true -> ∀ n, n ∈ l -> prev < n.fId := by
 induction l with
 | nil => intro prev _ n hn; cases hn
 | cons x r ih =>
  intro prev h n hn
  rw [okI, Bool.and_eq_true] at h
  have hx : prev < x.fId := by have := of_decide_eq_true h.1; omega
  rcases List.mem_cons.1 hn with rfl | hn
  ·exact hx
  ·have := ih h.2 n hn; omega
theorem okI_nodup {next : Int} {l : List MInode} : ∀ {prev : Int}, okI next prev l = true -> (l.map (·.fId)).Nodup := by
 induction l with
 | nil => intro _ _; simp
 | cons x r ih =>
  intro prev h
  rw [okI, Bool.and_eq_true] at h
  rw [List.map_cons, List.nodup_cons]
  refine ⟨fun hm => ?_, ih h.2⟩
  obtain ⟨y, hy, he⟩ := List.mem_map.1 hm
  have := okI_lower h.2 y hy
  omega
theorem named_mem {l : List MEntry} {id : Int} (h : named l id = true) : id ∈ l.map (·.fId) := by
 unfold named at h
 rw [List.any_eq_true] at h
 obtain ⟨e, he, h2⟩ := h
 exact List.mem_map.2 ⟨e, he, of_decide_eq_true h2⟩
theorem named_fit {d : MDisk} {prev : Int} (h1 : okI d.fNext prev d.fInodes = true) (h2 : d.fInodes.all (isNamed d) = true) : d.fInodes.length <= d.fNames.length + d.fSafe.length := by
 have h3 := nodup_fit (okI_nodup h1) (m := d.fNames.map (·.fId) ++ d.fSafe.map (·.fId)) (by
  intro x hx
  obtain ⟨n, hn, rfl⟩ := List.mem_map.1 hx
  have h4 := List.all_eq_true.1 h2 n hn
  unfold isNamed at h4
  rw [Bool.or_eq_true] at h4
  rw [List.mem_append]
  exact h4.imp named_mem named_mem)
 simpa using h3
theorem bl_asymm : ∀ {x y : List UInt8}, Op.bytesLess x y = true -> Op.bytesLess y x = false
 | _, [], h => by simp [Op.bytesLess] at h
 | [], _ :: _, _ => by simp [Op.bytesLess]
 | a :: x, b :: y, h => by
  simp only [Op.bytesLess, Bool.or_eq_true, Bool.and_eq_true, decide_eq_true_eq, beq_iff_eq, Bool.or_eq_false_iff, Bool.and_eq_false_iff, decide_eq_false_iff_not, beq_eq_false_iff_ne] at h ⊢
  rcases h with h | ⟨rfl, h⟩
  ·exact ⟨fun h2 => absurd (UInt8.lt_trans h h2) (UInt8.lt_irrefl _), .inl (fun e => by subst e; exact UInt8.lt_irrefl _ h)⟩
  ·exact ⟨UInt8.lt_irrefl _, .inr (bl_asymm h)⟩
theorem bl_irrefl (x : List UInt8) : Op.bytesLess x x = false := by
 cases h : Op.bytesLess x x with
 | false => rfl
 | true => have := bl_asymm h; rw [h] at this; cases this
theorem bl_total : ∀ {x y : List UInt8}, Op.bytesLess x y = false -> x ≠ y -> Op.bytesLess y x = true
 | [], [], _, hn => absurd rfl hn
 | _ :: _, [], _, _ => by simp [Op.bytesLess]
 | [], _ :: _, h, _ => by simp [Op.bytesLess] at h
 | a :: x, b :: y, h, hn => by
  simp only [Op.bytesLess, Bool.or_eq_true, Bool.and_eq_true, decide_eq_true_eq, beq_iff_eq, Bool.or_eq_false_iff, Bool.and_eq_false_iff, decide_eq_false_iff_not, beq_eq_false_iff_ne] at h ⊢
  by_cases hab : a = b
  ·subst hab
   right
   refine ⟨rfl, bl_total ?_ (fun e => hn (by rw [e]))⟩
   rcases h.2 with h2 | h2
   ·exact absurd rfl h2
   ·exact h2
  ·left
   rcases UInt8.lt_or_lt_of_ne hab with h1 | h1
   ·exact absurd h1 h.1
   ·exact h1
theorem strLt_facts {a b : ByteArray} (h : strLt a b = true) : Op.bytesLess a.toList b.toList = true /\ Op.bytesLess b.toList a.toList = false /\ (b.toList == a.toList) = false := by
 refine ⟨h, bl_asymm h, ?_⟩
 rw [beq_eq_false_iff_ne]
 intro e
 have h2 : Op.bytesLess a.toList b.toList = true := h
 rw [e, bl_irrefl] at h2
 cases h2
theorem strLt_not {a b : ByteArray} (h : strLt a b = false) : Op.bytesLess b.toList a.toList = true ∨ (b.toList == a.toList) = true := by
 by_cases e : a.toList = b.toList
 ·right; rw [beq_iff_eq]; exact e.symm
 ·left; exact bl_total h e
theorem toList_length' (s : ByteArray) : s.toList.length = s.size := by
 rw [ByteArray.toList_eq]
 simp
theorem empty_lt {s : ByteArray} (h : 1 <= s.size) : strLt ByteArray.empty s = true := by
 unfold strLt
 have hl : 1 <= s.toList.length := by rw [toList_length']; exact h
 match hs : s.toList, hl with
 | x :: r, _ =>
  rw [show ByteArray.empty.toList = [] from by rw [ByteArray.toList_eq]; rfl]
  rfl
theorem nameOk_pos {s : ByteArray} (h : nameOk s = true) : 1 <= s.size := by
 unfold nameOk at h
 rw [Bool.and_eq_true] at h
 exact (of_decide_eq_true h.1).1
theorem in_ids {l : List MEntry} {k j : Nat} {id : Int} (hj : j < l.length) (hjk : j < k) (he : l[j].fId = id) : (idsTo l k).contains id = true := by
 unfold idsTo
 rw [List.contains_iff_mem]
 refine List.mem_map.2 ⟨l[j], ?_, he⟩
 rw [List.mem_iff_getElem]
 exact ⟨j, by simp; omega, by simp⟩
theorem notin_ids {l : List MEntry} {k : Nat} {id : Int} (h : ∀ j, (hj : j < l.length) -> j < k -> l[j].fId ≠ id) : (idsTo l k).contains id = false := by
 unfold idsTo
 rw [Bool.eq_false_iff]
 intro hc
 rw [List.contains_iff_mem] at hc
 obtain ⟨e, he, hi⟩ := List.mem_map.1 hc
 obtain ⟨j, hj, rfl⟩ := List.mem_iff_getElem.1 he
 simp at hj
 rw [List.getElem_take] at hi
 exact h j (by omega) (by omega) hi
theorem bl_trans : ∀ {x y z : List UInt8}, Op.bytesLess x y = true -> Op.bytesLess y z = true -> Op.bytesLess x z = true
 | _, [], _, h, _ => by simp [Op.bytesLess] at h
 | _, _ :: _, [], _, h => by simp [Op.bytesLess] at h
 | [], _ :: _, _ :: _, _, _ => by simp [Op.bytesLess]
 | a :: x, b :: y, c :: z, h1, h2 => by
  simp only [Op.bytesLess, Bool.or_eq_true, Bool.and_eq_true, decide_eq_true_eq, beq_iff_eq] at h1 h2 ⊢
  rcases h1 with h1 | ⟨rfl, h1⟩
  ·rcases h2 with h2 | ⟨rfl, h2⟩
   ·exact .inl (UInt8.lt_trans h1 h2)
   ·exact .inl h1
  ·rcases h2 with h2 | ⟨rfl, h2⟩
   ·exact .inl h2
   ·exact .inr ⟨rfl, bl_trans h1 h2⟩
theorem strLt_trans {a b c : ByteArray} (h1 : strLt a b = true) (h2 : strLt b c = true) : strLt a c = true := bl_trans h1 h2
theorem str_eq {a b : ByteArray} : (a.toList == b.toList) = true ↔ a = b := by
 rw [beq_iff_eq, ByteArray.toList_eq, ByteArray.toList_eq]
 constructor
 ·intro h
  cases a; cases b
  simpa using Array.toList_inj.1 h
 ·intro h; rw [h]
theorem str_ne {a b : ByteArray} (h : a ≠ b) : (a.toList == b.toList) = false := by
 rw [Bool.eq_false_iff]
 exact fun e => h (str_eq.1 e)
theorem str_same {a b : ByteArray} (h : a = b) : (a.toList == b.toList) = true := str_eq.2 h
def hasName (l : List MEntry) (s : ByteArray) : Bool := l.any fun e => decide (e.fName = s)
def nameAt (l : List MEntry) (s : ByteArray) : Nat := l.findIdx fun e => decide (e.fName = s)
def nameZ (l : List MEntry) (s : ByteArray) : Int := if hasName l s then (nameAt l s : Int) else -1
def idOf (l : List MEntry) (s : ByteArray) : Int := ((l[nameAt l s]?).map (·.fId)).getD 0
theorem hasName_yes {l : List MEntry} {s : ByteArray} {k : Nat} (h : k < l.length) (he : l[k].fName = s) : hasName l s = true := by
 unfold hasName
 rw [List.any_eq_true]
 exact ⟨l[k], List.getElem_mem h, by simp [he]⟩
theorem hasName_no {l : List MEntry} {s : ByteArray} (h : ∀ k, (hk : k < l.length) -> l[k].fName ≠ s) : hasName l s = false := by
 unfold hasName
 rw [List.any_eq_false]
 intro e he
 obtain ⟨k, hk, rfl⟩ := List.mem_iff_getElem.1 he
 simp [h k hk]
theorem nameAt_is {l : List MEntry} {s : ByteArray} {k : Nat} (h : k < l.length) (he : l[k].fName = s) (hn : ∀ j, (hj : j < l.length) -> j < k -> l[j].fName ≠ s) : nameAt l s = k := by
 unfold nameAt
 rw [List.findIdx_eq h]
 exact ⟨decide_eq_true he, fun j hj => by simp [hn j (by omega) hj]⟩
theorem nameZ_at {l : List MEntry} {s : ByteArray} {k : Nat} (h : k < l.length) (he : l[k].fName = s) (hn : ∀ j, (hj : j < l.length) -> j < k -> l[j].fName ≠ s) : nameZ l s = k := by
 unfold nameZ
 rw [hasName_yes h he, if_pos rfl, nameAt_is h he hn]
theorem nameZ_no {l : List MEntry} {s : ByteArray} (hn : ∀ j, (hj : j < l.length) -> l[j].fName ≠ s) : nameZ l s = -1 := by
 unfold nameZ
 rw [hasName_no hn]
 rfl
theorem hasName_at {l : List MEntry} {s : ByteArray} (h : hasName l s = true) : ∃ hk : nameAt l s < l.length, l[nameAt l s].fName = s := by
 unfold hasName at h
 rw [List.any_eq_true] at h
 obtain ⟨e, he, h2⟩ := h
 have hk : nameAt l s < l.length := List.findIdx_lt_length_of_exists ⟨e, he, h2⟩
 exact ⟨hk, of_decide_eq_true (List.findIdx_getElem (w := hk))⟩
def callP (m : MDisk) (s : ByteArray) : Int := if diskOk m && nameOk s then (if hasName m.fNames s then 0 else 2) else 1
def dataOf (m : MDisk) (s : ByteArray) : List Int := ((m.fInodes[placeOf m.fInodes (idOf m.fNames s)]?).map (·.fData)).getD []
def bytesP (m : MDisk) (s : ByteArray) : List Int := if callP m s = 0 then dataOf m s else []
theorem okE_has {ins : List MInode} : ∀ {l : List MEntry} {seen : List Int} {prev : ByteArray}, okE ins seen prev l = true -> ∀ e, e ∈ l -> hasId ins e.fId = true
 | [], _, _, _, e, he => by cases he
 | x :: r, seen, prev, h, e, he => by
  rw [okE, Bool.and_eq_true] at h
  rcases List.mem_cons.1 he with rfl | he
  ·have h1 := h.1
   unfold stepE at h1
   simp only [Bool.and_eq_true] at h1
   exact h1.1.1.1
  ·exact okE_has h.2 e he
theorem diskOk_parts {m : MDisk} (h : diskOk m = true) : okI m.fNext 0 m.fInodes = true /\ okE m.fInodes [] ByteArray.empty m.fNames = true /\ okE m.fInodes [] ByteArray.empty m.fSafe = true := by
 unfold diskOk at h
 simp only [Bool.and_eq_true] at h
 exact ⟨h.1.1.1.1.1.1.2, h.1.1.1.2, h.1.2⟩
theorem file_there {m : MDisk} {s : ByteArray} (h : diskOk m = true) (hn : hasName m.fNames s = true) : ∃ hk : nameAt m.fNames s < m.fNames.length, idOf m.fNames s = m.fNames[nameAt m.fNames s].fId /\ hasId m.fInodes (idOf m.fNames s) = true := by
 obtain ⟨hk, he⟩ := hasName_at hn
 have hid : idOf m.fNames s = m.fNames[nameAt m.fNames s].fId := by unfold idOf; rw [List.getElem?_eq_getElem hk]; rfl
 exact ⟨hk, hid, by rw [hid]; exact okE_has (diskOk_parts h).2.1 _ (List.getElem_mem hk)⟩
theorem hasId_at {l : List MInode} {id : Int} (h : hasId l id = true) : ∃ hk : placeOf l id < l.length, l[placeOf l id].fId = id := by
 unfold hasId at h
 rw [List.any_eq_true] at h
 obtain ⟨e, he, h2⟩ := h
 have hk : placeOf l id < l.length := List.findIdx_lt_length_of_exists ⟨e, he, h2⟩
 exact ⟨hk, of_decide_eq_true (List.findIdx_getElem (w := hk))⟩
theorem okE_iff {ins : List MInode} : ∀ {l : List MEntry} {seen : List Int} {prev : ByteArray}, okE ins seen prev l = true ↔
  ((∀ e, e ∈ l -> hasId ins e.fId = true /\ nameOk e.fName = true /\ e.fId ∉ seen /\ strLt prev e.fName = true) /\ l.Pairwise (fun x y => strLt x.fName y.fName = true /\ x.fId ≠ y.fId))
 | [], seen, prev => by simp [okE]
 | x :: r, seen, prev => by
  rw [okE, Bool.and_eq_true, okE_iff (l := r), List.pairwise_cons]
  unfold stepE
  simp only [Bool.and_eq_true, Bool.not_eq_true', List.contains_eq_mem, decide_eq_false_iff_not, List.mem_append, List.mem_singleton, not_or]
  constructor
  ·rintro ⟨⟨⟨⟨h1, h2⟩, h3⟩, h4⟩, h5, h6⟩
   refine ⟨?_, fun e he => ⟨(h5 e he).2.2.2, fun hh => (h5 e he).2.2.1.2 hh.symm⟩, h6⟩
   intro e he
   rcases List.mem_cons.1 he with rfl | he
   ·exact ⟨h1, h4, h2, h3⟩
   ·exact ⟨(h5 e he).1, (h5 e he).2.1, (h5 e he).2.2.1.1, strLt_trans h3 (h5 e he).2.2.2⟩
  ·rintro ⟨h1, h2, h3⟩
   have hx := h1 x (by simp)
   refine ⟨⟨⟨⟨hx.1, hx.2.2.1⟩, hx.2.2.2⟩, hx.2.1⟩, fun e he => ?_, h3⟩
   have h4 := h1 e (by simp [he])
   exact ⟨h4.1, h4.2.1, ⟨h4.2.2.1, fun hh => (h2 e he).2 hh.symm⟩, (h2 e he).1⟩
def EntOk (ins : List MInode) (l : List MEntry) : Prop :=
 (∀ e, e ∈ l -> hasId ins e.fId = true /\ nameOk e.fName = true) /\ l.Pairwise (fun x y => strLt x.fName y.fName = true /\ x.fId ≠ y.fId)
theorem okE_start {ins : List MInode} {l : List MEntry} : okE ins [] ByteArray.empty l = true ↔ EntOk ins l := by
 rw [okE_iff]
 unfold EntOk
 constructor
 ·rintro ⟨h1, h2⟩
  exact ⟨fun e he => ⟨(h1 e he).1, (h1 e he).2.1⟩, h2⟩
 ·rintro ⟨h1, h2⟩
  exact ⟨fun e he => ⟨(h1 e he).1, (h1 e he).2, by simp, empty_lt (nameOk_pos (h1 e he).2)⟩, h2⟩
theorem okI_iff {next : Int} : ∀ {l : List MInode} {prev : Int}, okI next prev l = true ↔
  ((∀ n, n ∈ l -> prev < n.fId /\ n.fId < next /\ 0 <= n.fSure /\ n.fSure <= n.fData.length) /\ l.Pairwise (fun x y => x.fId < y.fId))
 | [], prev => by simp [okI]
 | x :: r, prev => by
  rw [okI, Bool.and_eq_true, okI_iff (l := r), List.pairwise_cons]
  unfold stepI
  rw [decide_eq_true_iff]
  constructor
  ·rintro ⟨h1, h2, h3⟩
   refine ⟨?_, fun n hn => (h2 n hn).1, h3⟩
   intro n hn
   rcases List.mem_cons.1 hn with rfl | hn
   ·exact h1
   ·have := h2 n hn; omega
  ·rintro ⟨h1, h2, h3⟩
   refine ⟨h1 x (by simp), fun n hn => ?_, h3⟩
   have := h1 n (by simp [hn])
   have := h2 n hn
   omega
structure DiskR (m : MDisk) : Prop where
 next : 1 <= m.fNext /\ m.fNext <= 1000000
 each : ∀ n, n ∈ m.fInodes -> 0 < n.fId /\ n.fId < m.fNext /\ 0 <= n.fSure /\ n.fSure <= n.fData.length
 rise : m.fInodes.Pairwise (fun x y => x.fId < y.fId)
 size : sumW wInode m.fInodes <= 60000
 few : m.fNames.length <= 30
 few' : m.fSafe.length <= 30
 names : EntOk m.fInodes m.fNames
 safe : EntOk m.fInodes m.fSafe
 all : ∀ n, n ∈ m.fInodes -> isNamed m n = true
theorem diskOk_iff {m : MDisk} : diskOk m = true ↔ DiskR m := by
 unfold diskOk
 simp only [Bool.and_eq_true, decide_eq_true_iff, okE_start, okI_iff, List.all_eq_true]
 constructor
 ·rintro ⟨⟨⟨⟨⟨⟨⟨h1, h2, h3⟩, h4⟩, h5⟩, h6⟩, h7⟩, h8⟩, h9⟩
  exact ⟨h1, h2, h3, h4, h5, h7, h6, h8, h9⟩
 ·rintro ⟨h1, h2, h3, h4, h5, h7, h6, h8, h9⟩
  exact ⟨⟨⟨⟨⟨⟨⟨h1, h2, h3⟩, h4⟩, h5⟩, h6⟩, h7⟩, h8⟩, h9⟩
theorem sumW_sublist {α : Type} {f : α -> Nat} {l k : List α} (h : l.Sublist k) : sumW f l <= sumW f k := by
 induction h with
 | slnil => exact rN
 | cons a _ ih => simp only [sumW]; omega
 | cons_cons a _ ih => simp only [sumW]; omega
theorem hasId_iff {l : List MInode} {id : Int} : hasId l id = true ↔ ∃ n, n ∈ l /\ n.fId = id := by
 unfold hasId
 rw [List.any_eq_true]
 simp
theorem named_iff {l : List MEntry} {id : Int} : named l id = true ↔ id ∈ l.map (·.fId) := by
 constructor
 ·exact named_mem
 ·intro h
  obtain ⟨e, he, rfl⟩ := List.mem_map.1 h
  obtain ⟨k, hk, rfl⟩ := List.mem_iff_getElem.1 he
  exact named_yes hk rfl
theorem isNamed_iff {d : MDisk} {n : MInode} : isNamed d n = true ↔ n.fId ∈ d.fNames.map (·.fId) ++ d.fSafe.map (·.fId) := by
 unfold isNamed
 rw [Bool.or_eq_true, named_iff, named_iff, List.mem_append]
def keepD (m : MDisk) : MDisk := { m with fInodes := keepI m }
theorem keepI_all {m : MDisk} (h : ∀ n, n ∈ m.fInodes -> isNamed m n = true) : keepI m = m.fInodes := by
 unfold keepI
 exact List.filter_eq_self.2 h
theorem EntOk.kept {m : MDisk} {l : List MEntry} (h : EntOk m.fInodes l) (hl : ∀ e, e ∈ l -> e.fId ∈ m.fNames.map (·.fId) ++ m.fSafe.map (·.fId)) : EntOk (keepI m) l := by
 refine ⟨fun e he => ⟨?_, (h.1 e he).2⟩, h.2⟩
 obtain ⟨n, hn, hid⟩ := hasId_iff.1 (h.1 e he).1
 refine hasId_iff.2 ⟨n, ?_, hid⟩
 unfold keepI
 refine List.mem_filter.2 ⟨hn, isNamed_iff.2 ?_⟩
 rw [hid]
 exact hl e he
theorem keep_ok {m : MDisk} (h : DiskR m) {N S : List MEntry} (hN : N.length <= 30) (hS : S.length <= 30) (oN : EntOk m.fInodes N) (oS : EntOk m.fInodes S) :
  DiskR (keepD { m with fNames := N, fSafe := S }) := by
 have hsub : (keepI { m with fNames := N, fSafe := S }).Sublist m.fInodes := List.filter_sublist
 refine ⟨h.next, fun n hn => h.each n (hsub.subset hn), h.rise.sublist hsub, Nat.le_trans (sumW_sublist hsub) h.size, hN, hS, ?_, ?_, ?_⟩
 ·exact EntOk.kept (m := { m with fNames := N, fSafe := S }) oN (fun e he => List.mem_append_left _ (List.mem_map.2 ⟨e, he, rfl⟩))
 ·exact EntOk.kept (m := { m with fNames := N, fSafe := S }) oS (fun e he => List.mem_append_right _ (List.mem_map.2 ⟨e, he, rfl⟩))
 ·intro n hn
  exact (List.mem_filter.1 (show n ∈ List.filter (isNamed { m with fNames := N, fSafe := S }) m.fInodes from hn)).2
def without (l : List MEntry) (s : ByteArray) : List MEntry := l.filter fun e => decide (e.fName ≠ s)
def withE (l : List MEntry) (e : MEntry) : List MEntry := l.filter (fun x => strLt x.fName e.fName) ++ e :: l.filter (fun x => strLt e.fName x.fName)
def withL (e : MEntry) : Bool -> List MEntry -> List MEntry
 | put, [] => if put then [] else [e]
 | put, x :: r => (if put = false /\ strLt x.fName e.fName = false then [e] else []) ++ ((if x.fName = e.fName then [] else [x]) ++ withL e (put || !strLt x.fName e.fName) r)
theorem strLt_irrefl (s : ByteArray) : strLt s s = false := bl_irrefl _
theorem strLt_asymm {a b : ByteArray} (h : strLt a b = true) : strLt b a = false := bl_asymm h
theorem strLt_tri {a b : ByteArray} (h1 : strLt a b = false) (h2 : a ≠ b) : strLt b a = true := bl_total h1 (fun e => h2 (str_eq.1 (by rw [e]; simp)))
def Rise (l : List MEntry) : Prop := l.Pairwise (fun x y => strLt x.fName y.fName = true)
theorem withL_true {e : MEntry} : ∀ {l : List MEntry}, (∀ x, x ∈ l -> strLt e.fName x.fName = true) -> withL e true l = l
 | [], _ => rfl
 | x :: r, h => by
  have hx := h x (by simp)
  have hne : x.fName ≠ e.fName := fun hh => by rw [hh, strLt_irrefl] at hx; cases hx
  simp only [withL, if_neg hne, Bool.true_or]
  rw [withL_true (fun y hy => h y (by simp [hy]))]
  simp
theorem withL_false {e : MEntry} : ∀ {l : List MEntry}, Rise l -> withL e false l = withE l e
 | [], _ => rfl
 | x :: r, h => by
  unfold Rise at h
  rw [List.pairwise_cons] at h
  unfold withE
  by_cases hlt : strLt x.fName e.fName = true
  ·have hne : x.fName ≠ e.fName := fun hh => by rw [hh, strLt_irrefl] at hlt; cases hlt
   have ih := withL_false (e := e) h.2
   unfold withE at ih
   simp only [withL, hlt, if_neg hne, Bool.not_true, Bool.or_self, ih, List.filter_cons, strLt_asymm hlt]
   simp
  ·have hlt2 : strLt x.fName e.fName = false := Bool.eq_false_iff.2 hlt
   have hnil : List.filter (fun x => strLt x.fName e.fName) r = [] := by
    rw [List.filter_eq_nil_iff]
    intro y hy hye
    exact hlt (strLt_trans (h.1 y hy) hye)
   by_cases heq : x.fName = e.fName
   ·have hr : ∀ y, y ∈ r -> strLt e.fName y.fName = true := fun y hy => by rw [<- heq]; exact h.1 y hy
    simp only [withL, hlt2, heq, strLt_irrefl, Bool.not_false, Bool.or_true, List.filter_cons, hnil, withL_true hr]
    simp [List.filter_eq_self.2 hr]
   ·have hxe := strLt_tri hlt2 heq
    have hr : ∀ y, y ∈ r -> strLt e.fName y.fName = true := fun y hy => strLt_trans hxe (h.1 y hy)
    simp only [withL, hlt2, if_neg heq, Bool.not_false, Bool.or_true, List.filter_cons, hnil, withL_true hr, hxe]
    simp [List.filter_eq_self.2 hr]
theorem EntOk.rise {ins : List MInode} {l : List MEntry} (h : EntOk ins l) : Rise l := h.2.imp (fun h => h.1)
theorem EntOk.sub {ins : List MInode} {l k : List MEntry} (h : EntOk ins l) (hs : k.Sublist l) : EntOk ins k := ⟨fun e he => h.1 e (hs.subset he), h.2.sublist hs⟩
theorem EntOk.withE {ins : List MInode} {l : List MEntry} {e : MEntry} (h : EntOk ins l) (he : hasId ins e.fId = true) (hn : nameOk e.fName = true) (hfresh : ∀ x, x ∈ l -> x.fId = e.fId -> x.fName = e.fName) : EntOk ins (withE l e) := by
 unfold Go.Proofs.YtegonncmopecnaaGreatDoor.withE
 constructor
 ·intro x hx
  rcases List.mem_append.1 hx with hx | hx
  ·exact h.1 x (List.mem_filter.1 hx).1
  ·rcases List.mem_cons.1 hx with rfl | hx
   ·exact ⟨he, hn⟩
   ·exact h.1 x (List.mem_filter.1 hx).1
 ·rw [List.pairwise_append, List.pairwise_cons]
  refine ⟨h.2.sublist List.filter_sublist, ⟨?_, h.2.sublist List.filter_sublist⟩, ?_⟩
  ·intro y hy
   have hy' := List.mem_filter.1 hy
   refine ⟨hy'.2, fun hid => ?_⟩
   have := hfresh y hy'.1 hid.symm
   rw [this, strLt_irrefl] at hy'
   cases hy'.2
  ·intro x hx y hy
   have hx' := List.mem_filter.1 hx
   rcases List.mem_cons.1 hy with rfl | hy
   ·refine ⟨hx'.2, fun hid => ?_⟩
    have := hfresh x hx'.1 hid
    rw [this, strLt_irrefl] at hx'
    cases hx'.2
   ·have hy' := List.mem_filter.1 hy
    obtain ⟨i, hi, rfl⟩ := List.mem_iff_getElem.1 hx'.1
    obtain ⟨j, hj, rfl⟩ := List.mem_iff_getElem.1 hy'.1
    have hlt : strLt l[i].fName l[j].fName = true := strLt_trans hx'.2 hy'.2
    have hij : i < j := by
     rcases Nat.lt_trichotomy i j with h1 | h1 | h1
     ·exact h1
     ·subst h1; rw [strLt_irrefl] at hlt; cases hlt
     ·have h2 := (List.pairwise_iff_getElem.1 h.2 j i hj hi h1).1
      rw [strLt_asymm h2] at hlt; cases hlt
    exact List.pairwise_iff_getElem.1 h.2 i j hi hj hij
theorem withE_length {l : List MEntry} {e : MEntry} : (withE l e).length <= l.length + 1 := by
 unfold withE
 rw [List.length_append, List.length_cons]
 have h1 : ∀ l : List MEntry, (l.filter (fun x => strLt x.fName e.fName)).length + (l.filter (fun x => strLt e.fName x.fName)).length <= l.length := by
  intro l
  induction l with
  | nil => simp
  | cons x r ih =>
   by_cases h1 : strLt x.fName e.fName = true
   ·have h2 := strLt_asymm h1
    simp only [List.filter_cons, h1, h2, if_true, List.length_cons]
    simp
    omega
   ·simp only [List.filter_cons, h1]
    by_cases h2 : strLt e.fName x.fName = true
    ·simp [h2]; omega
    ·simp [h2]; omega
 have := h1 l
 omega
end Go.Proofs.YtegonncmopecnaaGreatDoor

namespace Go.Proofs.YtegonncmopecnaaGreatDoor
open Go.RowKit Go.Maps
def kS (s : ByteArray) : Lit := .string s.data.toList
theorem kS_ne {s t : ByteArray} (h : s ≠ t) : kS s ≠ kS t := by
 intro e
 simp only [kS, Lit.string.injEq] at e
 apply h
 cases s; cases t
 simpa using Array.toList_inj.1 e
def NMap (D : DataW Unit) (l : List MEntry) (k : Nat) : Prop :=
 IsMap D /\ ∀ s : ByteArray, (Maps.has D (kS s) = true ↔ ∃ j, ∃ h : j < l.length, j < k /\ l[j].fName = s) /\ (Maps.has D (kS s) = true -> ∃ j, ∃ h : j < l.length, j < k /\ l[j].fName = s /\ D.atKey (kS s) (.lit (.int .i64 0)) = .lit (.int .i64 l[j].fId))
theorem NMap.start (l : List MEntry) : NMap (.map []) l 0 :=
 ⟨isMap_empty, fun s => ⟨⟨fun h => by simp [Maps.has] at h, fun ⟨j, _, h, _⟩ => by omega⟩, fun h => by simp [Maps.has] at h⟩⟩
theorem NMap.put {D : DataW Unit} {l : List MEntry} {k : Nat} (h : NMap D l k) (hk : k < l.length) : NMap (D.put (kS l[k].fName) (.lit (.int .i64 l[k].fId))) l (k + 1) := by
 refine ⟨h.1.put _ _, fun s => ?_⟩
 by_cases hs : s = l[k].fName
 ·subst hs
  have h1 := has_put_same h.1 (k := kS l[k].fName) (by trivial) (.lit (.int .i64 l[k].fId))
  exact ⟨⟨fun _ => ⟨k, hk, by omega, rfl⟩, fun _ => h1⟩, fun _ => ⟨k, hk, by omega, rfl, atKey_put_same h.1 (by trivial) _ _⟩⟩
 ·have hne := kS_ne hs
  rw [has_put_other hne, atKey_put_other hne]
  obtain ⟨h2, h3⟩ := h.2 s
  refine ⟨h2.trans ⟨fun ⟨j, hj, hjk, e⟩ => ⟨j, hj, by omega, e⟩, fun ⟨j, hj, hjk, e⟩ => ⟨j, hj, ?_, e⟩⟩, fun hh => ?_⟩
  ·by_cases hjk' : j = k
   ·subst hjk'; exact absurd e.symm hs
   ·omega
  ·obtain ⟨j, hj, hjk, e, ha⟩ := h3 hh
   exact ⟨j, hj, by omega, e, ha⟩
theorem okE_names {ins : List MInode} : ∀ {l : List MEntry} {seen : List Int} {prev : ByteArray}, okE ins seen prev l = true -> (∀ e, e ∈ l -> strLt prev e.fName = true) /\ l.Pairwise fun x y => strLt x.fName y.fName = true
 | [], _, _, _ => ⟨(fun e he => by cases he), List.Pairwise.nil⟩
 | x :: r, seen, prev, h => by
  rw [okE, Bool.and_eq_true] at h
  have h1 := h.1
  unfold stepE at h1
  simp only [Bool.and_eq_true] at h1
  obtain ⟨h2, h3⟩ := okE_names h.2
  refine ⟨fun e he => ?_, List.Pairwise.cons h2 h3⟩
  rcases List.mem_cons.1 he with rfl | he
  ·exact h1.1.2
  ·exact strLt_trans h1.1.2 (h2 e he)
theorem names_once {l : List MEntry} (h : l.Pairwise fun x y => strLt x.fName y.fName = true) {i j : Nat} (hi : i < l.length) (hj : j < l.length) (he : l[i].fName = l[j].fName) : i = j := by
 rcases Nat.lt_trichotomy i j with hlt | rfl | hlt
 ·have := List.pairwise_iff_getElem.1 h i j hi hj hlt
  rw [he] at this
  unfold strLt at this
  rw [bl_irrefl] at this
  cases this
 ·rfl
 ·have := List.pairwise_iff_getElem.1 h j i hj hi hlt
  rw [he] at this
  unfold strLt at this
  rw [bl_irrefl] at this
  cases this
def MapIs (D : DataW Unit) (l : List MEntry) : Prop :=
 IsMap D /\ (∀ s, Maps.has D (kS s) = true ↔ hasName l s = true) /\ ∀ e, e ∈ l -> D.atKey (kS e.fName) (.lit (.int .i64 0)) = .lit (.int .i64 e.fId)
theorem hasName_iff {l : List MEntry} {s : ByteArray} : hasName l s = true ↔ ∃ e, e ∈ l /\ e.fName = s := by
 unfold hasName
 rw [List.any_eq_true]
 simp
theorem MapIs.ofN {D : DataW Unit} {l : List MEntry} {n : Nat} (hn : l.length = n) (h : NMap D l n) (hr : Rise l) : MapIs D l := by
 refine ⟨h.1, fun s => ?_, fun e he => ?_⟩
 ·rw [(h.2 s).1, hasName_iff]
  constructor
  ·rintro ⟨j, hj, _, e⟩
   exact ⟨l[j], List.getElem_mem hj, e⟩
  ·rintro ⟨e, he, hs⟩
   obtain ⟨j, hj, rfl⟩ := List.mem_iff_getElem.1 he
   exact ⟨j, hj, by omega, hs⟩
 ·obtain ⟨i, hi, rfl⟩ := List.mem_iff_getElem.1 he
  obtain ⟨j, hj, _, e1, e2⟩ := (h.2 l[i].fName).2 ((h.2 _).1.2 ⟨i, hi, by omega, rfl⟩)
  have := names_once hr hj hi e1
  subst this
  exact e2
theorem MapIs.del {D : DataW Unit} {l : List MEntry} (h : MapIs D l) (s : ByteArray) : MapIs (D.del (kS s)) (without l s) := by
 refine ⟨h.1.del _, fun t => ?_, fun e he => ?_⟩
 ·rw [hasName_iff]
  unfold without
  by_cases ht : t = s
  ·subst ht
   rw [has_del_same]
   constructor
   ·intro h; cases h
   ·rintro ⟨e, he, hs⟩
    have := (List.mem_filter.1 he).2
    simp [hs] at this
  ·rw [has_del_other (kS_ne ht), h.2.1 t, hasName_iff]
   constructor
   ·rintro ⟨e, he, rfl⟩
    exact ⟨e, List.mem_filter.2 ⟨he, by simp [ht]⟩, rfl⟩
   ·rintro ⟨e, he, rfl⟩
    exact ⟨e, (List.mem_filter.1 he).1, rfl⟩
 ·have he' := List.mem_filter.1 (show e ∈ l.filter _ from he)
  have hne : e.fName ≠ s := by simpa using he'.2
  rw [atKey_del_other (kS_ne hne)]
  exact h.2.2 e he'.1
theorem mem_withE {l : List MEntry} {e x : MEntry} : x ∈ withE l e ↔ x = e ∨ (x ∈ l /\ x.fName ≠ e.fName) := by
 unfold withE
 rw [List.mem_append, List.mem_cons, List.mem_filter, List.mem_filter]
 constructor
 ·rintro (⟨h1, h2⟩ | rfl | ⟨h1, h2⟩)
  ·exact .inr ⟨h1, fun hh => by rw [hh, strLt_irrefl] at h2; cases h2⟩
  ·exact .inl rfl
  ·exact .inr ⟨h1, fun hh => by rw [hh, strLt_irrefl] at h2; cases h2⟩
 ·rintro (rfl | ⟨h1, h2⟩)
  ·exact .inr (.inl rfl)
  ·by_cases h3 : strLt x.fName e.fName = true
   ·exact .inl ⟨h1, h3⟩
   ·exact .inr (.inr ⟨h1, strLt_tri (Bool.eq_false_iff.2 h3) h2⟩)
theorem MapIs.put {D : DataW Unit} {l : List MEntry} (h : MapIs D l) (e : MEntry) : MapIs (D.put (kS e.fName) (.lit (.int .i64 e.fId))) (withE l e) := by
 refine ⟨h.1.put _ _, fun t => ?_, fun x hx => ?_⟩
 ·rw [hasName_iff]
  by_cases ht : t = e.fName
  ·subst ht
   rw [has_put_same h.1 (by trivial)]
   exact ⟨fun _ => ⟨e, mem_withE.2 (.inl rfl), rfl⟩, fun _ => rfl⟩
  ·rw [has_put_other (kS_ne ht), h.2.1 t, hasName_iff]
   constructor
   ·rintro ⟨x, hx, rfl⟩
    exact ⟨x, mem_withE.2 (.inr ⟨hx, ht⟩), rfl⟩
   ·rintro ⟨x, hx, rfl⟩
    rcases mem_withE.1 hx with rfl | ⟨h1, _⟩
    ·exact absurd rfl ht
    ·exact ⟨x, h1, rfl⟩
 ·rcases mem_withE.1 hx with rfl | ⟨h1, h2⟩
  ·exact atKey_put_same h.1 (by trivial) _ _
  ·rw [atKey_put_other (kS_ne h2)]
   exact h.2.2 x h1
theorem kS_same {s t : ByteArray} : (kS s).sameKey (kS t) = decide (s = t) := by
 by_cases h : s = t
 ·subst h
  simp [kS, Lit.sameKey]
 ·have := kS_ne h
  simp only [kS, ne_eq, Lit.string.injEq] at this
  simp only [kS, Lit.sameKey]
  rw [decide_eq_false h]
  simpa using this
structure Met (l : List MEntry) (left : Lit -> Bool) (o : List MEntry) : Prop where
 sub : ∀ e, e ∈ o -> e ∈ l
 once : o.Pairwise (fun x y => x.fName ≠ y.fName)
 rest : ∀ e, e ∈ l -> (left (kS e.fName) = true ↔ ∀ x, x ∈ o -> x.fName ≠ e.fName)
theorem Met.start {D : DataW Unit} {l : List MEntry} (h : MapIs D l) : Met l (Maps.has D) [] :=
 ⟨(fun e he => by cases he), List.Pairwise.nil, fun e he => ⟨(fun _ x hx => by cases hx), fun _ => (h.2.1 _).2 (hasName_iff.2 ⟨e, he, rfl⟩)⟩⟩
theorem Met.step {l o : List MEntry} {left : Lit -> Bool} (h : Met l left o) (hr : Rise l) {e : MEntry} (he : e ∈ l) (hl : left (kS e.fName) = true) : Met l (fun z => left z && !z.sameKey (kS e.fName)) (o ++ [e]) := by
 refine ⟨fun x hx => ?_, ?_, fun x hx => ?_⟩
 ·rcases List.mem_append.1 hx with hx | hx
  ·exact h.sub x hx
  ·simp at hx; subst hx; exact he
 ·rw [List.pairwise_append]
  refine ⟨h.once, by simp, fun x hx y hy => ?_⟩
  simp at hy
  subst hy
  exact (h.rest y he).1 hl x hx
 ·rw [kS_same, Bool.and_eq_true, h.rest x hx]
  constructor
  ·rintro ⟨h1, h2⟩ y hy
   rcases List.mem_append.1 hy with hy | hy
   ·exact h1 y hy
   ·simp at hy; subst hy
    intro hh
    simp [hh] at h2
  ·intro h1
   refine ⟨fun y hy => h1 y (by simp [hy]), ?_⟩
   have := h1 e (by simp)
   simp [Ne.symm this]
theorem Met.perm {l o : List MEntry} {left : Lit -> Bool} (h : Met l left o) (hr : Rise l) (hl : ∀ k, left k = false) : o.Perm l := by
 have hall : ∀ e, e ∈ l -> e ∈ o := by
  intro e he
  have h1 := h.rest e he
  rw [hl] at h1
  by_cases hx : ∃ x, x ∈ o /\ x.fName = e.fName
  ·obtain ⟨x, hx, hn⟩ := hx
   have hxl := h.sub x hx
   obtain ⟨i, hi, rfl⟩ := List.mem_iff_getElem.1 hxl
   obtain ⟨j, hj, rfl⟩ := List.mem_iff_getElem.1 he
   have := names_once hr hi hj hn
   subst this
   exact hx
  ·exfalso
   have := h1.2 (fun x hx2 hn => hx ⟨x, hx2, hn⟩)
   cases this
 have n1 : o.Nodup := h.once.imp (fun hne he => hne (by rw [he]))
 have n2 : l.Nodup := hr.imp (fun hlt he => by rw [he, strLt_irrefl] at hlt; cases hlt)
 exact (List.perm_ext_iff_of_nodup n1 n2).2 (fun e => ⟨h.sub e, hall e⟩)
theorem rise_unique : ∀ {l k : List MEntry}, l.Perm k -> Rise l -> Rise k -> l = k := by
 intro l k hp h1 h2
 refine List.Perm.eq_of_pairwise (le := fun (x y : MEntry) => strLt x.fName y.fName = true) ?_ h1 h2 hp
 intro a b _ _ hab hba
 have hab : strLt a.fName b.fName = true := hab
 have hba : strLt b.fName a.fName = true := hba
 rw [strLt_asymm hab] at hba
 cases hba
end Go.Proofs.YtegonncmopecnaaGreatDoor

namespace Go.Proofs.YtegonncmopecnaaGreatDoor
open Go.RowKit
def updI (l : List MInode) (k : Nat) (f : MInode -> MInode) : List MInode := match l[k]? with | some n => l.set k (f n) | none => l
theorem updI_at {l : List MInode} {k : Nat} {f : MInode -> MInode} (h : k < l.length) : updI l k f = l.set k (f l[k]) := by unfold updI; rw [List.getElem?_eq_getElem h]
theorem updI_length {l : List MInode} {k : Nat} {f : MInode -> MInode} : (updI l k f).length = l.length := by unfold updI; split <;> simp
theorem updI_mem {l : List MInode} {k : Nat} {f : MInode -> MInode} {n : MInode} (h : n ∈ updI l k f) : n ∈ l ∨ ∃ x, x ∈ l /\ n = f x := by
 unfold updI at h
 split at h
 ·next x hx =>
  rcases List.mem_or_eq_of_mem_set h with h | h
  ·exact .inl h
  ·exact .inr ⟨x, List.mem_of_getElem? hx, h⟩
 ·exact .inl h
def fileAt (m : MDisk) (s : ByteArray) : Nat := placeOf m.fInodes (idOf m.fNames s)
theorem call_good {m : MDisk} {s : ByteArray} (h : callP m s = 0) : diskOk m = true /\ nameOk s = true /\ hasName m.fNames s = true := by
 unfold callP at h
 by_cases h1 : (diskOk m && nameOk s) = true
 ·rw [if_pos h1] at h
  rw [Bool.and_eq_true] at h1
  by_cases h2 : hasName m.fNames s = true
  ·exact ⟨h1.1, h1.2, h2⟩
  ·rw [if_neg h2] at h; cases h
 ·rw [if_neg h1] at h; cases h
theorem call_none {m : MDisk} {s : ByteArray} (h : callP m s = 2) : diskOk m = true /\ nameOk s = true /\ hasName m.fNames s = false := by
 unfold callP at h
 by_cases h1 : (diskOk m && nameOk s) = true
 ·rw [if_pos h1] at h
  rw [Bool.and_eq_true] at h1
  by_cases h2 : hasName m.fNames s = true
  ·rw [if_pos h2] at h; cases h
  ·exact ⟨h1.1, h1.2, Bool.eq_false_iff.2 h2⟩
 ·rw [if_neg h1] at h; cases h
theorem call_which (m : MDisk) (s : ByteArray) : callP m s = 0 ∨ callP m s = 1 ∨ callP m s = 2 := by
 unfold callP
 split
 ·split
  ·exact .inl rfl
  ·exact .inr (.inr rfl)
 ·exact .inr (.inl rfl)
theorem file_at {m : MDisk} {s : ByteArray} (h : callP m s = 0) : ∃ hk : fileAt m s < m.fInodes.length, m.fInodes[fileAt m s].fId = idOf m.fNames s := by
 obtain ⟨h1, _, h2⟩ := call_good h
 obtain ⟨_, _, h3⟩ := file_there h1 h2
 exact hasId_at h3
theorem ids_once {l : List MInode} (h : l.Pairwise fun x y => x.fId < y.fId) {i j : Nat} (hi : i < l.length) (hj : j < l.length) (he : l[i].fId = l[j].fId) : i = j := by
 rcases Nat.lt_trichotomy i j with hlt | rfl | hlt
 ·have := List.pairwise_iff_getElem.1 h i j hi hj hlt; omega
 ·rfl
 ·have := List.pairwise_iff_getElem.1 h j i hj hi hlt; omega
theorem file_only {m : MDisk} {s : ByteArray} (h : callP m s = 0) {p : Nat} (hp : p < m.fInodes.length) (he : m.fInodes[p].fId = idOf m.fNames s) : p = fileAt m s := by
 obtain ⟨hk, hid⟩ := file_at h
 exact ids_once (diskOk_iff.1 (call_good h).1).rise hp hk (he.trans hid.symm)
def sureI (n : MInode) : MInode := { n with fSure := n.fData.length }
def syncP (m : MDisk) (s : ByteArray) : MDisk := if callP m s = 0 then { m with fInodes := updI m.fInodes (fileAt m s) sureI } else m
def syncDirP (m : MDisk) : MDisk := if diskOk m then keepD { m with fSafe := m.fNames } else m
def syncDirC (m : MDisk) : Int := if diskOk m then 0 else 1
theorem syncDir_ok {m : MDisk} (h : diskOk m = true) : diskOk (keepD { m with fSafe := m.fNames }) = true := by
 have hr := diskOk_iff.1 h
 exact diskOk_iff.2 (keep_ok (N := m.fNames) (S := m.fNames) hr hr.few hr.few hr.names hr.names)
def longI (b : List Int) (n : MInode) : MInode := { n with fData := n.fData ++ b }
def appendD (m : MDisk) (s : ByteArray) (b : List Int) : MDisk := { m with fInodes := updI m.fInodes (fileAt m s) (longI b) }
def appendP (m : MDisk) (s : ByteArray) (b : List Int) : MDisk := if callP m s = 0 /\ diskOk (appendD m s b) = true then appendD m s b else m
def appendC (m : MDisk) (s : ByteArray) (b : List Int) : Int := if callP m s = 0 then (if diskOk (appendD m s b) then 0 else 4) else callP m s
theorem append_keep {m : MDisk} {s : ByteArray} {b : List Int} (h : callP m s = 0) : keepD (appendD m s b) = appendD m s b := by
 have hr := diskOk_iff.1 (call_good h).1
 unfold keepD
 rw [keepI_all]
 intro n hn
 rcases updI_mem (show n ∈ updI m.fInodes (fileAt m s) (longI b) from hn) with hn | ⟨x, hx, rfl⟩
 ·exact hr.all n hn
 ·exact hr.all x hx
def removeD (m : MDisk) (s : ByteArray) : MDisk := keepD { m with fNames := without m.fNames s }
def removeP (m : MDisk) (s : ByteArray) : MDisk := if callP m s = 0 then removeD m s else m
theorem remove_ok {m : MDisk} {s : ByteArray} (h : diskOk m = true) : diskOk (removeD m s) = true := by
 have hr := diskOk_iff.1 h
 exact diskOk_iff.2 (keep_ok (N := without m.fNames s) (S := m.fSafe) hr (Nat.le_trans (List.length_filter_le _ _) hr.few) hr.few' (hr.names.sub List.filter_sublist) hr.safe)
def renameN (m : MDisk) (s t : ByteArray) : List MEntry := withE (without m.fNames s) ⟨t, idOf m.fNames s⟩
def renameD (m : MDisk) (s t : ByteArray) : MDisk := keepD { m with fNames := renameN m s t }
def renameC (m : MDisk) (s t : ByteArray) : Int := if nameOk t then callP m s else 1
def renameP (m : MDisk) (s t : ByteArray) : MDisk := if renameC m s t = 0 then renameD m s t else m
theorem entry_of {m : MDisk} {s : ByteArray} (h : hasName m.fNames s = true) : ⟨s, idOf m.fNames s⟩ ∈ m.fNames := by
 obtain ⟨hk, hn⟩ := hasName_at h
 have : idOf m.fNames s = m.fNames[nameAt m.fNames s].fId := by unfold idOf; rw [List.getElem?_eq_getElem hk]; rfl
 rw [this]
 have e : (⟨s, m.fNames[nameAt m.fNames s].fId⟩ : MEntry) = m.fNames[nameAt m.fNames s] := by
  cases hx : m.fNames[nameAt m.fNames s] with
  | mk a b => rw [hx] at hn; simp at hn; subst hn; rfl
 rw [e]
 exact List.getElem_mem hk
theorem ids_once' {ins : List MInode} {l : List MEntry} (h : EntOk ins l) {x y : MEntry} (hx : x ∈ l) (hy : y ∈ l) (he : x.fId = y.fId) : x = y := by
 obtain ⟨i, hi, rfl⟩ := List.mem_iff_getElem.1 hx
 obtain ⟨j, hj, rfl⟩ := List.mem_iff_getElem.1 hy
 rcases Nat.lt_trichotomy i j with hlt | rfl | hlt
 ·exact absurd he (List.pairwise_iff_getElem.1 h.2 i j hi hj hlt).2
 ·rfl
 ·exact absurd he.symm (List.pairwise_iff_getElem.1 h.2 j i hj hi hlt).2
theorem names_once' {l : List MEntry} (h : Rise l) {x y : MEntry} (hx : x ∈ l) (hy : y ∈ l) (he : x.fName = y.fName) : x = y := by
 obtain ⟨i, hi, rfl⟩ := List.mem_iff_getElem.1 hx
 obtain ⟨j, hj, rfl⟩ := List.mem_iff_getElem.1 hy
 have := names_once h hi hj he
 subst this
 rfl
theorem without_length {l : List MEntry} {s : ByteArray} (h : hasName l s = true) : (without l s).length < l.length := by
 obtain ⟨e, he, hs⟩ := hasName_iff.1 h
 unfold without
 rcases Nat.lt_or_ge (l.filter fun e => decide (e.fName ≠ s)).length l.length with h1 | h1
 ·exact h1
 ·have h2 := List.length_filter_eq_length_iff.1 (Nat.le_antisymm (List.length_filter_le _ _) h1) e he
  simp [hs] at h2
theorem renameN_ok {m : MDisk} {s t : ByteArray} (hr : DiskR m) (hn : hasName m.fNames s = true) (ht : nameOk t = true) : EntOk m.fInodes (renameN m s t) /\ (renameN m s t).length <= 30 := by
 have hmem := entry_of hn
 have hw : EntOk m.fInodes (without m.fNames s) := hr.names.sub List.filter_sublist
 refine ⟨EntOk.withE hw (hr.names.1 _ hmem).1 ht ?_, ?_⟩
 ·intro x hx hid
  have hx' := List.mem_filter.1 (show x ∈ m.fNames.filter _ from hx)
  have := ids_once' hr.names hx'.1 hmem hid
  rw [this] at hx'
  simp at hx'
 ·have h1 := withE_length (l := without m.fNames s) (e := ⟨t, idOf m.fNames s⟩)
  have h2 := without_length hn
  have h3 := hr.few
  unfold renameN
  omega
theorem rename_ok {m : MDisk} {s t : ByteArray} (h : callP m s = 0) (ht : nameOk t = true) : diskOk (renameD m s t) = true := by
 obtain ⟨h1, _, h2⟩ := call_good h
 have hr := diskOk_iff.1 h1
 have h3 := renameN_ok hr h2 ht
 exact diskOk_iff.2 (keep_ok (N := renameN m s t) (S := m.fSafe) hr h3.2 hr.few' h3.1 hr.safe)
theorem keepD_self {m : MDisk} (h : diskOk m = true) : keepD m = m := by
 unfold keepD
 rw [keepI_all (diskOk_iff.1 h).all]
theorem rename_self {m : MDisk} {s : ByteArray} (h : callP m s = 0) : renameD m s s = m := by
 obtain ⟨h1, hs, h2⟩ := call_good h
 have hr := diskOk_iff.1 h1
 have h3 := renameN_ok hr h2 hs
 have hmem := entry_of h2
 have : renameN m s s = m.fNames := by
  have n1 : (renameN m s s).Nodup := h3.1.rise.imp (fun hlt he => by rw [he, strLt_irrefl] at hlt; cases hlt)
  have n2 : m.fNames.Nodup := hr.names.rise.imp (fun hlt he => by rw [he, strLt_irrefl] at hlt; cases hlt)
  refine rise_unique ((List.perm_ext_iff_of_nodup n1 n2).2 fun e => ?_) h3.1.rise hr.names.rise
  unfold renameN
  rw [mem_withE]
  unfold without
  rw [List.mem_filter]
  constructor
  ·rintro (rfl | ⟨⟨h4, _⟩, _⟩)
   ·exact hmem
   ·exact h4
  ·intro he
   by_cases hes : e.fName = s
   ·left
    exact names_once' hr.names.rise he hmem hes
   ·right
    exact ⟨⟨he, by simpa using hes⟩, hes⟩
 unfold renameD
 rw [this]
 exact keepD_self h1
def newI (m : MDisk) : MInode := ⟨m.fNext, [], 0⟩
def createD (m : MDisk) (s : ByteArray) : MDisk := { m with fInodes := m.fInodes ++ [newI m], fNames := withE m.fNames ⟨s, m.fNext⟩, fNext := m.fNext + 1 }
def createC (m : MDisk) (s : ByteArray) : Int := if callP m s = 2 then (if diskOk (createD m s) then 0 else 4) else if callP m s = 0 then 3 else 1
def createP (m : MDisk) (s : ByteArray) : MDisk := if callP m s = 2 /\ diskOk (createD m s) = true then createD m s else m
theorem create_named {m : MDisk} {s : ByteArray} (h : callP m s = 2) : ∀ n, n ∈ m.fInodes -> isNamed { m with fNames := withE m.fNames ⟨s, m.fNext⟩ } n = true := by
 obtain ⟨h1, _, h2⟩ := call_none h
 have hr := diskOk_iff.1 h1
 intro n hn
 have h3 := isNamed_iff.1 (hr.all n hn)
 rw [isNamed_iff]
 rw [List.mem_append] at h3 ⊢
 rcases h3 with h3 | h3
 ·left
  obtain ⟨e, he, hid⟩ := List.mem_map.1 h3
  refine List.mem_map.2 ⟨e, mem_withE.2 (.inr ⟨he, fun hh => ?_⟩), hid⟩
  have : hasName m.fNames s = true := hasName_iff.2 ⟨e, he, hh⟩
  rw [h2] at this
  cases this
 ·exact .inr h3
theorem create_way {m : MDisk} {s : ByteArray} (h : callP m s = 2) : keepD { m with fNames := withE m.fNames ⟨s, m.fNext⟩ } = { m with fNames := withE m.fNames ⟨s, m.fNext⟩ } := by
 unfold keepD
 rw [keepI_all (create_named h)]
theorem create_keep {m : MDisk} {s : ByteArray} (h : callP m s = 2) : keepD (createD m s) = createD m s := by
 unfold keepD
 rw [keepI_all]
 intro n hn
 rcases List.mem_append.1 (show n ∈ m.fInodes ++ [newI m] from hn) with hn | hn
 ·exact create_named h n hn
 ·simp at hn
  subst hn
  rw [isNamed_iff]
  exact List.mem_append_left _ (List.mem_map.2 ⟨⟨s, m.fNext⟩, mem_withE.2 (.inl rfl), rfl⟩)
def cutI (k : Int) (n : MInode) : MInode := { n with fData := n.fData.take (n.fSure + min k (n.fData.length - n.fSure)).toNat, fSure := n.fSure + min k (n.fData.length - n.fSure) }
def fallP (m : MDisk) (k : Int) : MDisk := if diskOk m = true /\ 0 <= k then { m with fNames := m.fSafe, fInodes := (keepI { m with fNames := m.fSafe }).map (cutI k) } else m
theorem wDisk_eq (m : MDisk) : wDisk m = (m.fInodes.length + sumW wInode m.fInodes) + (m.fNames.length + sumW wEntry m.fNames) + (m.fSafe.length + sumW wEntry m.fSafe) := rfl
theorem sumW_append {α : Type} {f : α -> Nat} : ∀ {l k : List α}, sumW f (l ++ k) = sumW f l + sumW f k
 | [], k => by simp [sumW]
 | x :: r, k => by simp only [List.cons_append, sumW, sumW_append]; omega
theorem sumW_set {l : List MInode} {k : Nat} {n : MInode} (h : k < l.length) : sumW wInode (l.set k n) + wInode l[k] = sumW wInode l + wInode n := by
 induction l generalizing k with
 | nil => simp at h
 | cons x r ih =>
  cases k with
  | zero => simp [sumW]; omega
  | succ k => simp only [List.set_cons_succ, sumW, List.getElem_cons_succ]; have := ih (k := k) (by simpa using h); omega
theorem sumW_updI {l : List MInode} {k : Nat} {f : MInode -> MInode} {c : Nat} (h : ∀ n, wInode (f n) <= wInode n + c) : sumW wInode (updI l k f) <= sumW wInode l + c := by
 by_cases hk : k < l.length
 ·rw [updI_at hk]
  have := sumW_set (l := l) (n := f l[k]) hk
  have := h l[k]
  omega
 ·unfold updI
  rw [List.getElem?_eq_none (by omega)]
  simp
theorem keepD_weight (m : MDisk) : wDisk (keepD m) <= wDisk m := by
 have hs : (keepI m).Sublist m.fInodes := List.filter_sublist
 have h1 := sumW_sublist (f := wInode) hs
 have h2 := hs.length_le
 rw [wDisk_eq, wDisk_eq]
 show (keepI m).length + sumW wInode (keepI m) + _ + _ <= _
 show (keepI m).length + sumW wInode (keepI m) + (m.fNames.length + sumW wEntry m.fNames) + (m.fSafe.length + sumW wEntry m.fSafe) <= _
 omega
theorem sumW_withE {l : List MEntry} {e : MEntry} : sumW wEntry (withE l e) <= sumW wEntry l + sumW wEntry l + wEntry e := by
 unfold withE
 rw [sumW_append]
 simp only [sumW]
 have h1 := sumW_sublist (f := wEntry) (List.filter_sublist (l := l) (p := fun x => strLt x.fName e.fName))
 have h2 := sumW_sublist (f := wEntry) (List.filter_sublist (l := l) (p := fun x => strLt e.fName x.fName))
 omega
theorem sumW_map_le {f : MInode -> MInode} (h : ∀ n, wInode (f n) <= wInode n) : ∀ l : List MInode, sumW wInode (l.map f) <= sumW wInode l
 | [] => rN
 | x :: r => by simp only [List.map_cons, sumW]; have := h x; have := sumW_map_le h r; omega
theorem sumW_names {l : List MEntry} (h : ∀ e, e ∈ l -> nameOk e.fName = true) : sumW wEntry l <= 12 * l.length := by
 induction l with
 | nil => simp [sumW]
 | cons x r ih =>
  have h1 := ih (fun e he => h e (by simp [he]))
  have h2 := h x (by simp)
  unfold nameOk at h2
  rw [Bool.and_eq_true] at h2
  have h3 := (of_decide_eq_true h2.1).2
  have h4 : wEntry x = x.fName.size := rfl
  simp only [sumW, List.length_cons]
  omega
theorem ok_weight {m : MDisk} (h : diskOk m = true) : m.fInodes.length <= 60 /\ sumW wInode m.fInodes <= 60000 /\ m.fNames.length <= 30 /\ sumW wEntry m.fNames <= 360 /\ m.fSafe.length <= 30 /\ sumW wEntry m.fSafe <= 360 := by
 have hr := diskOk_iff.1 h
 have h1 := named_fit (d := m) (diskOk_parts h).1 (List.all_eq_true.2 hr.all)
 have h2 := sumW_names (fun e he => (hr.names.1 e he).2)
 have h3 := sumW_names (fun e he => (hr.safe.1 e he).2)
 have h4 := hr.few
 have h5 := hr.few'
 have h6 := hr.size
 omega
theorem ok_small {m : MDisk} (h : diskOk m = true) : wDisk m <= 1048576 := by
 have := ok_weight h
 rw [wDisk_eq]
 omega
theorem small_remove {m : MDisk} {s : ByteArray} (h : wDisk m <= 1048576) : wDisk (removeP m s) <= 1048576 := by
 unfold removeP
 split
 ·rename_i hc
  exact ok_small (remove_ok (call_good hc).1)
 ·exact h
theorem small_create {m : MDisk} {s : ByteArray} (h : wDisk m <= 1048576) : wDisk (createP m s) <= 1048576 := by
 unfold createP
 split
 ·rename_i hc
  exact ok_small hc.2
 ·exact h
theorem small_append {m : MDisk} {s : ByteArray} {b : List Int} (h : wDisk m <= 1048576) : wDisk (appendP m s b) <= 1048576 := by
 unfold appendP
 split
 ·rename_i hc
  exact ok_small hc.2
 ·exact h
theorem small_sync {m : MDisk} {s : ByteArray} (h : wDisk m <= 1048576) : wDisk (syncP m s) <= 1048576 := by
 unfold syncP
 split
 ·have h1 := sumW_updI (l := m.fInodes) (k := fileAt m s) (f := sureI) (c := 0) (fun n => rN)
  have h2 := updI_length (l := m.fInodes) (k := fileAt m s) (f := sureI)
  rw [wDisk_eq] at h ⊢
  simp only
  omega
 ·exact h
theorem small_rename {m : MDisk} {s t : ByteArray} (h : wDisk m <= 1048576) : wDisk (renameP m s t) <= 1048576 := by
 unfold renameP
 split
 ·rename_i hc
  unfold renameC at hc
  split at hc
  ·rename_i ht
   exact ok_small (rename_ok hc ht)
  ·cases hc
 ·exact h
theorem small_syncDir {m : MDisk} (h : wDisk m <= 1048576) : wDisk (syncDirP m) <= 1048576 := by
 unfold syncDirP
 split
 ·rename_i hc
  exact ok_small (syncDir_ok hc)
 ·exact h
def swD (m : MDisk) (t : ByteArray) (b : List Int) (s : ByteArray) : Nat -> MDisk
 | 0 => m
 | 1 => createP m t
 | 2 => appendP (createP m t) t b
 | 3 => syncP (appendP (createP m t) t b) t
 | 4 => renameP (syncP (appendP (createP m t) t b) t) t s
 | _ => syncDirP (renameP (syncP (appendP (createP m t) t b) t) t s)
def swC (m : MDisk) (t : ByteArray) (b : List Int) (s : ByteArray) : Nat -> Int
 | 0 => createC m t
 | 1 => appendC (createP m t) t b
 | 2 => callP (appendP (createP m t) t b) t
 | 3 => renameC (syncP (appendP (createP m t) t b) t) t s
 | _ => syncDirC (renameP (syncP (appendP (createP m t) t b) t) t s)
theorem swD_small {m : MDisk} {t : ByteArray} {b : List Int} {s : ByteArray} (h : wDisk m <= 1048576) (k : Nat) : wDisk (swD m t b s k) <= 1048576 := by
 match k with
 | 0 => exact h
 | 1 => exact small_create h
 | 2 => exact small_append (small_create h)
 | 3 => exact small_sync (small_append (small_create h))
 | 4 => exact small_rename (small_sync (small_append (small_create h)))
 | _ + 5 => exact small_syncDir (small_rename (small_sync (small_append (small_create h))))
def swR (m : MDisk) (t : ByteArray) (b : List Int) (s : ByteArray) : Nat -> Nat -> MDisk × Int
 | 0, k => (swD m t b s k, 0)
 | f + 1, k => if swC m t b s k = 0 then swR m t b s f (k + 1) else (swD m t b s (k + 1), swC m t b s k)
def switchP (m : MDisk) (t : ByteArray) (b : List Int) (s : ByteArray) : MDisk × Int := swR (removeP m t) t b s 5 0
def SwAt (m : MDisk) (t : ByteArray) (b : List Int) (s : ByteArray) (k : Nat) : Prop := switchP m t b s = swR (removeP m t) t b s (5 - k) k
theorem SwAt.start (m : MDisk) (t : ByteArray) (b : List Int) (s : ByteArray) : SwAt m t b s 0 := rfl
theorem SwAt.on {m : MDisk} {t : ByteArray} {b : List Int} {s : ByteArray} {k : Nat} (h : SwAt m t b s k) (hk : k < 5) (hc : swC (removeP m t) t b s k = 0) : SwAt m t b s (k + 1) := by
 unfold SwAt at h ⊢
 obtain ⟨f, hf⟩ : ∃ f, 5 - k = f + 1 := ⟨4 - k, by omega⟩
 rw [h, hf, swR, if_pos hc]
 congr 1
 omega
theorem SwAt.out {m : MDisk} {t : ByteArray} {b : List Int} {s : ByteArray} {k : Nat} (h : SwAt m t b s k) (hk : k < 5) (hc : swC (removeP m t) t b s k ≠ 0) : switchP m t b s = (swD (removeP m t) t b s (k + 1), swC (removeP m t) t b s k) := by
 unfold SwAt at h
 obtain ⟨f, hf⟩ : ∃ f, 5 - k = f + 1 := ⟨4 - k, by omega⟩
 rw [h, hf, swR, if_neg hc]
theorem SwAt.done {m : MDisk} {t : ByteArray} {b : List Int} {s : ByteArray} (h : SwAt m t b s 5) : switchP m t b s = (swD (removeP m t) t b s 5, 0) := h
theorem remove_none {m : MDisk} {t : ByteArray} (h : hasName m.fNames t = false) : removeP m t = m := by
 unfold removeP
 rw [if_neg]
 intro hc
 rw [(call_good hc).2.2] at h
 cases h
theorem idOf_eq {m : MDisk} {e : MEntry} (h : Rise m.fNames) (he : e ∈ m.fNames) : idOf m.fNames e.fName = e.fId := by
 have h1 : hasName m.fNames e.fName = true := hasName_iff.2 ⟨e, he, rfl⟩
 have h2 := entry_of h1
 have h3 := names_once' h h2 he rfl
 rw [<- h3]
theorem data_eq {m : MDisk} {s : ByteArray} (h : callP m s = 0) {x : MInode} (hx : x ∈ m.fInodes) (he : x.fId = idOf m.fNames s) : dataOf m s = x.fData := by
 obtain ⟨p, hp, rfl⟩ := List.mem_iff_getElem.1 hx
 have h1 := file_only h hp he
 unfold dataOf
 have h2 : placeOf m.fInodes (idOf m.fNames s) = p := by rw [h1]; rfl
 rw [h2, List.getElem?_eq_getElem hp]
 rfl
theorem data_has {m : MDisk} {s : ByteArray} (h : callP m s = 0) : ∃ x, x ∈ m.fInodes /\ x.fId = idOf m.fNames s /\ dataOf m s = x.fData := by
 obtain ⟨hk, hid⟩ := file_at h
 exact ⟨_, List.getElem_mem hk, hid, data_eq h (List.getElem_mem hk) hid⟩
section
variable {m : MDisk} {s t : ByteArray}
theorem rename_code (hc : renameC m s t = 0) : callP m s = 0 /\ nameOk t = true := by
 unfold renameC at hc
 split at hc
 ·rename_i ht
  exact ⟨hc, ht⟩
 ·cases hc
theorem rename_is (hc : renameC m s t = 0) : renameP m s t = renameD m s t := by unfold renameP; rw [if_pos hc]
theorem rename_to (hc : renameC m s t = 0) : callP (renameP m s t) t = 0 := by
 obtain ⟨h1, h2⟩ := rename_code hc
 rw [rename_is hc]
 have h3 := rename_ok h1 h2
 have h4 : hasName (renameD m s t).fNames t = true := hasName_iff.2 ⟨⟨t, idOf m.fNames s⟩, by show _ ∈ renameN m s t; unfold renameN; exact mem_withE.2 (.inl rfl), rfl⟩
 unfold callP
 rw [h3, h2, h4]
 rfl
theorem rename_data (hc : renameC m s t = 0) : dataOf (renameP m s t) t = dataOf m s := by
 have h0 := rename_to hc
 obtain ⟨h1, h2⟩ := rename_code hc
 obtain ⟨x, hx, hid, hd⟩ := data_has h1
 rw [hd]
 refine data_eq h0 ?_ ?_
 ·rw [rename_is hc]
  show x ∈ keepI { m with fNames := renameN m s t }
  refine List.mem_filter.2 ⟨hx, isNamed_iff.2 ?_⟩
  refine List.mem_append.2 (.inl (List.mem_map.2 ⟨⟨t, idOf m.fNames s⟩, ?_, hid.symm⟩))
  show _ ∈ renameN m s t
  unfold renameN
  exact mem_withE.2 (.inl rfl)
 ·have hr := diskOk_iff.1 (call_good h0).1
  have he : (⟨t, idOf m.fNames s⟩ : MEntry) ∈ (renameP m s t).fNames := by
   rw [rename_is hc]
   show _ ∈ renameN m s t
   unfold renameN
   exact mem_withE.2 (.inl rfl)
  have := idOf_eq hr.names.rise he
  rw [hid]
  exact this.symm
end
end Go.Proofs.YtegonncmopecnaaGreatDoor

namespace Go.Proofs.YtegonncmopecnaaGreatDoor
open Go.RowKit
theorem Tryz.info5 : (Tryz.prog.info? 5).map (fun i => (i.zero, i.size, i.bytes)) = some (some (.int .u8 0), 1, 1) := by kernel_rfl
end Go.Proofs.YtegonncmopecnaaGreatDoor
