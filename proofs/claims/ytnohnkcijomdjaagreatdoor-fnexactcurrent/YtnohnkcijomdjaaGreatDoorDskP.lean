/-
  Disks, as plain functions: which are right; no program is named here.
-/
import Derived.Test.YtnohnkcijomdjaaGreatDoorDat
import Derived.Test.YtnohnkcijomdjaaGreatDoorInR
namespace Go.Proofs.YtnohnkcijomdjaaGreatDoor
open Go.RowKit

/-- A byte that a name may bear. -/
def nameByte (c : Int) : Bool := decide (97 ≤ c ∧ c ≤ 122 ∨ 48 ≤ c ∧ c ≤ 57 ∨ c = 45 ∨ c = 46)
def nameOk (s : ByteArray) : Bool := decide (1 ≤ s.size ∧ s.size ≤ 12) && (byteInts s).all nameByte

theorem nameOk_long {s : ByteArray} (h : ¬ (1 ≤ s.size ∧ s.size ≤ 12)) : nameOk s = false := by
  unfold nameOk
  rw [decide_eq_false h]
  rfl
theorem nameOk_bad {s : ByteArray} {k : Nat} (hk : k < (byteInts s).length) (h : nameByte (byteInts s)[k] = false) : nameOk s = false := by
  unfold nameOk
  rw [Bool.and_eq_false_iff]
  right
  rw [List.all_eq_false]
  exact ⟨_, List.getElem_mem hk, by simp [h]⟩
theorem nameOk_good {s : ByteArray} (h : 1 ≤ s.size ∧ s.size ≤ 12) (ha : ∀ k, (hk : k < (byteInts s).length) → nameByte (byteInts s)[k] = true) : nameOk s = true := by
  unfold nameOk
  rw [decide_eq_true h, Bool.true_and, List.all_eq_true]
  intro x hx
  obtain ⟨k, hk, rfl⟩ := List.mem_iff_getElem.1 hx
  exact ha k hk

/-- Is an id among the entries? -/
def named (l : List MEntry) (id : Int) : Bool := l.any fun e => decide (e.fId = id)

theorem named_yes {l : List MEntry} {id : Int} {k : Nat} (h : k < l.length) (he : l[k].fId = id) : named l id = true := by
  unfold named
  rw [List.any_eq_true]
  exact ⟨l[k], List.getElem_mem h, by simp [he]⟩

theorem named_no {l : List MEntry} {id : Int} (h : ∀ k, (hk : k < l.length) → l[k].fId ≠ id) : named l id = false := by
  unfold named
  rw [List.any_eq_false]
  intro e he
  obtain ⟨k, hk, rfl⟩ := List.mem_iff_getElem.1 he
  simp [h k hk]

/-- Where an inode stands; its list's length, where it doesn't. -/
def placeOf (l : List MInode) (id : Int) : Nat := l.findIdx fun n => decide (n.fId = id)

def hasId (l : List MInode) (id : Int) : Bool := l.any fun n => decide (n.fId = id)

def placeZ (l : List MInode) (id : Int) : Int := if hasId l id then (placeOf l id : Int) else -1

theorem hasId_yes {l : List MInode} {id : Int} {k : Nat} (h : k < l.length) (he : l[k].fId = id) : hasId l id = true := by
  unfold hasId
  rw [List.any_eq_true]
  exact ⟨l[k], List.getElem_mem h, by simp [he]⟩

theorem hasId_no {l : List MInode} {id : Int} (h : ∀ k, (hk : k < l.length) → l[k].fId ≠ id) : hasId l id = false := by
  unfold hasId
  rw [List.any_eq_false]
  intro e he
  obtain ⟨k, hk, rfl⟩ := List.mem_iff_getElem.1 he
  simp [h k hk]

theorem placeZ_at {l : List MInode} {id : Int} {k : Nat} (h : k < l.length) (he : l[k].fId = id) (hn : ∀ j, (hj : j < l.length) → j < k → l[j].fId ≠ id) : placeZ l id = k := by
  unfold placeZ
  rw [hasId_yes h he, if_pos rfl]
  have : placeOf l id = k := by
    unfold placeOf
    rw [List.findIdx_eq h]
    exact ⟨decide_eq_true he, fun j hj => by simp [hn j (by omega) hj]⟩
  rw [this]

theorem placeZ_no {l : List MInode} {id : Int} (hn : ∀ j, (hj : j < l.length) → l[j].fId ≠ id) : placeZ l id = -1 := by
  unfold placeZ
  rw [hasId_no hn]
  rfl

theorem placeZ_neg {l : List MInode} {id : Int} : placeZ l id < 0 ↔ hasId l id = false := by
  unfold placeZ
  cases hasId l id
  · simp
  · simp

def strLt (a b : ByteArray) : Bool := Op.bytesLess a.toList b.toList

def stepI (next prev : Int) (n : MInode) : Bool := decide (prev < n.fId ∧ n.fId < next ∧ 0 ≤ n.fSure ∧ n.fSure ≤ n.fData.length)
def okI (next : Int) : Int → List MInode → Bool
  | _, [] => true
  | prev, n :: r => stepI next prev n && okI next n.fId r

def stepE (l : List MInode) (seen : List Int) (prev : ByteArray) (e : MEntry) : Bool := hasId l e.fId && !seen.contains e.fId && strLt prev e.fName && nameOk e.fName
def okE (l : List MInode) : List Int → ByteArray → List MEntry → Bool
  | _, _, [] => true
  | seen, prev, e :: r => stepE l seen prev e && okE l (seen ++ [e.fId]) e.fName r

def isNamed (d : MDisk) (n : MInode) : Bool := named d.fNames n.fId || named d.fSafe n.fId

/-- A disk that is as the document has it. -/
def diskOk (d : MDisk) : Bool :=
  decide (1 ≤ d.fNext ∧ d.fNext ≤ 1000000) && okI d.fNext 0 d.fInodes && decide (sumW wInode d.fInodes ≤ 60000) &&
    decide (d.fNames.length ≤ 30) && okE d.fInodes [] ByteArray.empty d.fNames && decide (d.fSafe.length ≤ 30) && okE d.fInodes [] ByteArray.empty d.fSafe && d.fInodes.all (isNamed d)

/-- The inodes that a list names. -/
def keepI (d : MDisk) : List MInode := d.fInodes.filter (isNamed d)

/-- What stands ahead of place k. -/
def prevId (l : List MInode) (k : Nat) : Int := match k with | 0 => 0 | k + 1 => (l[k]?.map (·.fId)).getD 0
def prevName (l : List MEntry) (k : Nat) : ByteArray := match k with | 0 => ByteArray.empty | k + 1 => (l[k]?.map (·.fName)).getD ByteArray.empty
def idsTo (l : List MEntry) (k : Nat) : List Int := (l.take k).map (·.fId)

theorem prevId_succ {l : List MInode} {k : Nat} (h : k < l.length) : prevId l (k + 1) = l[k].fId := by simp [prevId, h]
theorem prevName_succ {l : List MEntry} {k : Nat} (h : k < l.length) : prevName l (k + 1) = l[k].fName := by simp [prevName, h]
theorem idsTo_succ {l : List MEntry} {k : Nat} (h : k < l.length) : idsTo l (k + 1) = idsTo l k ++ [l[k].fId] := by
  unfold idsTo
  rw [List.take_succ_eq_append_getElem h, List.map_append]
  rfl

theorem okI_step {next : Int} {l : List MInode} {k : Nat} (h : k < l.length) : okI next (prevId l k) (l.drop k) = (stepI next (prevId l k) l[k] && okI next (prevId l (k + 1)) (l.drop (k + 1))) := by
  rw [List.drop_eq_getElem_cons h, okI, prevId_succ h]
theorem okE_step {ins : List MInode} {l : List MEntry} {k : Nat} (h : k < l.length) : okE ins (idsTo l k) (prevName l k) (l.drop k) = (stepE ins (idsTo l k) (prevName l k) l[k] && okE ins (idsTo l (k + 1)) (prevName l (k + 1)) (l.drop (k + 1))) := by
  rw [List.drop_eq_getElem_cons h, okE, prevName_succ h, idsTo_succ h]

/-- No more of pairwise different ones than there are places for them. -/
theorem nodup_fit {l m : List Int} (h : l.Nodup) (hs : ∀ x, x ∈ l → x ∈ m) : l.length ≤ m.length := by
  induction l generalizing m with
  | nil => simp
  | cons x r ih =>
    have hn := List.nodup_cons.1 h
    have hx := hs x (by simp)
    have h1 := ih hn.2 (m := m.erase x) (fun y hy => (List.mem_erase_of_ne (fun (e : y = x) => hn.1 (by rw [← e]; exact hy))).2 (hs y (by simp [hy])))
    have h2 := List.length_erase_of_mem hx
    have h3 : 0 < m.length := List.length_pos_of_mem hx
    simp only [List.length_cons]
    omega

theorem okI_lower {next : Int} {l : List MInode} : ∀ {prev : Int}, okI next prev l = true → ∀ n, n ∈ l → prev < n.fId := by
  induction l with
  | nil => intro prev _ n hn; cases hn
  | cons x r ih =>
    intro prev h n hn
    rw [okI, Bool.and_eq_true] at h
    have hx : prev < x.fId := by have := of_decide_eq_true h.1; omega
    rcases List.mem_cons.1 hn with rfl | hn
    · exact hx
    · have := ih h.2 n hn; omega

theorem okI_nodup {next : Int} {l : List MInode} : ∀ {prev : Int}, okI next prev l = true → (l.map (·.fId)).Nodup := by
  induction l with
  | nil => intro _ _; simp
  | cons x r ih =>
    intro prev h
    rw [okI, Bool.and_eq_true] at h
    rw [List.map_cons, List.nodup_cons]
    refine ⟨fun hm => ?_, ih h.2⟩
    obtain ⟨y, hy, he⟩ := List.mem_map.1 hm
    have := okI_lower h.2 y hy
    omega

theorem named_mem {l : List MEntry} {id : Int} (h : named l id = true) : id ∈ l.map (·.fId) := by
  unfold named at h
  rw [List.any_eq_true] at h
  obtain ⟨e, he, h2⟩ := h
  exact List.mem_map.2 ⟨e, he, of_decide_eq_true h2⟩

/-- At most as many inodes as both lists name. -/
theorem named_fit {d : MDisk} {prev : Int} (h1 : okI d.fNext prev d.fInodes = true) (h2 : d.fInodes.all (isNamed d) = true) : d.fInodes.length ≤ d.fNames.length + d.fSafe.length := by
  have h3 := nodup_fit (okI_nodup h1) (m := d.fNames.map (·.fId) ++ d.fSafe.map (·.fId)) (by
    intro x hx
    obtain ⟨n, hn, rfl⟩ := List.mem_map.1 hx
    have h4 := List.all_eq_true.1 h2 n hn
    unfold isNamed at h4
    rw [Bool.or_eq_true] at h4
    rw [List.mem_append]
    exact h4.imp named_mem named_mem)
  simpa using h3

theorem bl_asymm : ∀ {x y : List UInt8}, Op.bytesLess x y = true → Op.bytesLess y x = false
  | _, [], h => by simp [Op.bytesLess] at h
  | [], _ :: _, _ => by simp [Op.bytesLess]
  | a :: x, b :: y, h => by
    simp only [Op.bytesLess, Bool.or_eq_true, Bool.and_eq_true, decide_eq_true_eq, beq_iff_eq, Bool.or_eq_false_iff, Bool.and_eq_false_iff, decide_eq_false_iff_not, beq_eq_false_iff_ne] at h ⊢
    rcases h with h | ⟨rfl, h⟩
    · exact ⟨fun h2 => absurd (UInt8.lt_trans h h2) (UInt8.lt_irrefl _), .inl (fun e => by subst e; exact UInt8.lt_irrefl _ h)⟩
    · exact ⟨UInt8.lt_irrefl _, .inr (bl_asymm h)⟩
theorem bl_irrefl (x : List UInt8) : Op.bytesLess x x = false := by
  cases h : Op.bytesLess x x with
  | false => rfl
  | true => have := bl_asymm h; rw [h] at this; cases this
theorem bl_total : ∀ {x y : List UInt8}, Op.bytesLess x y = false → x ≠ y → Op.bytesLess y x = true
  | [], [], _, hn => absurd rfl hn
  | _ :: _, [], _, _ => by simp [Op.bytesLess]
  | [], _ :: _, h, _ => by simp [Op.bytesLess] at h
  | a :: x, b :: y, h, hn => by
    simp only [Op.bytesLess, Bool.or_eq_true, Bool.and_eq_true, decide_eq_true_eq, beq_iff_eq, Bool.or_eq_false_iff, Bool.and_eq_false_iff, decide_eq_false_iff_not, beq_eq_false_iff_ne] at h ⊢
    by_cases hab : a = b
    · subst hab
      right
      refine ⟨rfl, bl_total ?_ (fun e => hn (by rw [e]))⟩
      rcases h.2 with h2 | h2
      · exact absurd rfl h2
      · exact h2
    · left
      rcases UInt8.lt_or_lt_of_ne hab with h1 | h1
      · exact absurd h1 h.1
      · exact h1
theorem strLt_facts {a b : ByteArray} (h : strLt a b = true) : Op.bytesLess a.toList b.toList = true ∧ Op.bytesLess b.toList a.toList = false ∧ (b.toList == a.toList) = false := by
  refine ⟨h, bl_asymm h, ?_⟩
  rw [beq_eq_false_iff_ne]
  intro e
  have h2 : Op.bytesLess a.toList b.toList = true := h
  rw [e, bl_irrefl] at h2
  cases h2
theorem strLt_not {a b : ByteArray} (h : strLt a b = false) : Op.bytesLess b.toList a.toList = true ∨ (b.toList == a.toList) = true := by
  by_cases e : a.toList = b.toList
  · right; rw [beq_iff_eq]; exact e.symm
  · left; exact bl_total h e

theorem toList_length' (s : ByteArray) : s.toList.length = s.size := by
  rw [ByteArray.toList_eq]
  simp

theorem empty_lt {s : ByteArray} (h : 1 ≤ s.size) : strLt ByteArray.empty s = true := by
  unfold strLt
  have hl : 1 ≤ s.toList.length := by rw [toList_length']; exact h
  match hs : s.toList, hl with
  | x :: r, _ =>
    rw [show ByteArray.empty.toList = [] from by rw [ByteArray.toList_eq]; rfl]
    rfl

theorem nameOk_pos {s : ByteArray} (h : nameOk s = true) : 1 ≤ s.size := by
  unfold nameOk at h
  rw [Bool.and_eq_true] at h
  exact (of_decide_eq_true h.1).1

theorem in_ids {l : List MEntry} {k j : Nat} {id : Int} (hj : j < l.length) (hjk : j < k) (he : l[j].fId = id) : (idsTo l k).contains id = true := by
  unfold idsTo
  rw [List.contains_iff_mem]
  refine List.mem_map.2 ⟨l[j], ?_, he⟩
  rw [List.mem_iff_getElem]
  exact ⟨j, by simp; omega, by simp⟩

theorem notin_ids {l : List MEntry} {k : Nat} {id : Int} (h : ∀ j, (hj : j < l.length) → j < k → l[j].fId ≠ id) : (idsTo l k).contains id = false := by
  unfold idsTo
  rw [Bool.eq_false_iff]
  intro hc
  rw [List.contains_iff_mem] at hc
  obtain ⟨e, he, hi⟩ := List.mem_map.1 hc
  obtain ⟨j, hj, rfl⟩ := List.mem_iff_getElem.1 he
  simp at hj
  rw [List.getElem_take] at hi
  exact h j (by omega) (by omega) hi

end Go.Proofs.YtnohnkcijomdjaaGreatDoor
