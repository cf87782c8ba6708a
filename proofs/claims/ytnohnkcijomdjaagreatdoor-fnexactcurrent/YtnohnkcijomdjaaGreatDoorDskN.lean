/-
  Files found by their names, as plain functions; no program is named here.
-/
import Derived.Test.YtnohnkcijomdjaaGreatDoorDskP
namespace Go.Proofs.YtnohnkcijomdjaaGreatDoor
open Go.RowKit
set_option linter.unusedVariables false
set_option linter.unusedSimpArgs false

theorem bl_trans : ∀ {x y z : List UInt8}, Op.bytesLess x y = true → Op.bytesLess y z = true → Op.bytesLess x z = true
  | _, [], _, h, _ => by simp [Op.bytesLess] at h
  | _, _ :: _, [], _, h => by simp [Op.bytesLess] at h
  | [], _ :: _, _ :: _, _, _ => by simp [Op.bytesLess]
  | a :: x, b :: y, c :: z, h1, h2 => by
    simp only [Op.bytesLess, Bool.or_eq_true, Bool.and_eq_true, decide_eq_true_eq, beq_iff_eq] at h1 h2 ⊢
    rcases h1 with h1 | ⟨rfl, h1⟩
    · rcases h2 with h2 | ⟨rfl, h2⟩
      · exact .inl (UInt8.lt_trans h1 h2)
      · exact .inl h1
    · rcases h2 with h2 | ⟨rfl, h2⟩
      · exact .inl h2
      · exact .inr ⟨rfl, bl_trans h1 h2⟩
theorem strLt_trans {a b c : ByteArray} (h1 : strLt a b = true) (h2 : strLt b c = true) : strLt a c = true := bl_trans h1 h2

theorem str_eq {a b : ByteArray} : (a.toList == b.toList) = true ↔ a = b := by
  rw [beq_iff_eq, ByteArray.toList_eq, ByteArray.toList_eq]
  constructor
  · intro h
    cases a; cases b
    simpa using Array.toList_inj.1 h
  · intro h; rw [h]

theorem str_ne {a b : ByteArray} (h : a ≠ b) : (a.toList == b.toList) = false := by
  rw [Bool.eq_false_iff]
  exact fun e => h (str_eq.1 e)
theorem str_same {a b : ByteArray} (h : a = b) : (a.toList == b.toList) = true := str_eq.2 h

def hasName (l : List MEntry) (s : ByteArray) : Bool := l.any fun e => decide (e.fName = s)
def nameAt (l : List MEntry) (s : ByteArray) : Nat := l.findIdx fun e => decide (e.fName = s)
def nameZ (l : List MEntry) (s : ByteArray) : Int := if hasName l s then (nameAt l s : Int) else -1
def idOf (l : List MEntry) (s : ByteArray) : Int := ((l[nameAt l s]?).map (·.fId)).getD 0

theorem hasName_yes {l : List MEntry} {s : ByteArray} {k : Nat} (h : k < l.length) (he : l[k].fName = s) : hasName l s = true := by
  unfold hasName
  rw [List.any_eq_true]
  exact ⟨l[k], List.getElem_mem h, by simp [he]⟩
theorem hasName_no {l : List MEntry} {s : ByteArray} (h : ∀ k, (hk : k < l.length) → l[k].fName ≠ s) : hasName l s = false := by
  unfold hasName
  rw [List.any_eq_false]
  intro e he
  obtain ⟨k, hk, rfl⟩ := List.mem_iff_getElem.1 he
  simp [h k hk]
theorem nameAt_is {l : List MEntry} {s : ByteArray} {k : Nat} (h : k < l.length) (he : l[k].fName = s) (hn : ∀ j, (hj : j < l.length) → j < k → l[j].fName ≠ s) : nameAt l s = k := by
  unfold nameAt
  rw [List.findIdx_eq h]
  exact ⟨decide_eq_true he, fun j hj => by simp [hn j (by omega) hj]⟩
theorem nameZ_at {l : List MEntry} {s : ByteArray} {k : Nat} (h : k < l.length) (he : l[k].fName = s) (hn : ∀ j, (hj : j < l.length) → j < k → l[j].fName ≠ s) : nameZ l s = k := by
  unfold nameZ
  rw [hasName_yes h he, if_pos rfl, nameAt_is h he hn]
theorem nameZ_no {l : List MEntry} {s : ByteArray} (hn : ∀ j, (hj : j < l.length) → l[j].fName ≠ s) : nameZ l s = -1 := by
  unfold nameZ
  rw [hasName_no hn]
  rfl
theorem hasName_at {l : List MEntry} {s : ByteArray} (h : hasName l s = true) : ∃ hk : nameAt l s < l.length, l[nameAt l s].fName = s := by
  unfold hasName at h
  rw [List.any_eq_true] at h
  obtain ⟨e, he, h2⟩ := h
  have hk : nameAt l s < l.length := List.findIdx_lt_length_of_exists ⟨e, he, h2⟩
  exact ⟨hk, of_decide_eq_true (List.findIdx_getElem (w := hk))⟩

/-- The code of a call on a file. -/
def callP (m : MDisk) (s : ByteArray) : Int := if diskOk m && nameOk s then (if hasName m.fNames s then 0 else 2) else 1

def dataOf (m : MDisk) (s : ByteArray) : List Int := ((m.fInodes[placeOf m.fInodes (idOf m.fNames s)]?).map (·.fData)).getD []
def bytesP (m : MDisk) (s : ByteArray) : List Int := if callP m s = 0 then dataOf m s else []

/-- In a disk that is right the file that is named is there. -/
theorem okE_has {ins : List MInode} : ∀ {l : List MEntry} {seen : List Int} {prev : ByteArray}, okE ins seen prev l = true → ∀ e, e ∈ l → hasId ins e.fId = true
  | [], _, _, _, e, he => by cases he
  | x :: r, seen, prev, h, e, he => by
    rw [okE, Bool.and_eq_true] at h
    rcases List.mem_cons.1 he with rfl | he
    · have h1 := h.1
      unfold stepE at h1
      simp only [Bool.and_eq_true] at h1
      exact h1.1.1.1
    · exact okE_has h.2 e he

theorem diskOk_parts {m : MDisk} (h : diskOk m = true) : okI m.fNext 0 m.fInodes = true ∧ okE m.fInodes [] ByteArray.empty m.fNames = true ∧ okE m.fInodes [] ByteArray.empty m.fSafe = true := by
  unfold diskOk at h
  simp only [Bool.and_eq_true] at h
  exact ⟨h.1.1.1.1.1.1.2, h.1.1.1.2, h.1.2⟩

theorem file_there {m : MDisk} {s : ByteArray} (h : diskOk m = true) (hn : hasName m.fNames s = true) : ∃ hk : nameAt m.fNames s < m.fNames.length, idOf m.fNames s = m.fNames[nameAt m.fNames s].fId ∧ hasId m.fInodes (idOf m.fNames s) = true := by
  obtain ⟨hk, he⟩ := hasName_at hn
  have hid : idOf m.fNames s = m.fNames[nameAt m.fNames s].fId := by unfold idOf; rw [List.getElem?_eq_getElem hk]; rfl
  exact ⟨hk, hid, by rw [hid]; exact okE_has (diskOk_parts h).2.1 _ (List.getElem_mem hk)⟩

theorem hasId_at {l : List MInode} {id : Int} (h : hasId l id = true) : ∃ hk : placeOf l id < l.length, l[placeOf l id].fId = id := by
  unfold hasId at h
  rw [List.any_eq_true] at h
  obtain ⟨e, he, h2⟩ := h
  have hk : placeOf l id < l.length := List.findIdx_lt_length_of_exists ⟨e, he, h2⟩
  exact ⟨hk, of_decide_eq_true (List.findIdx_getElem (w := hk))⟩

end Go.Proofs.YtnohnkcijomdjaaGreatDoor
