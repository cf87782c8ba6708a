/-
  The program's list of entries out of a map of names.
-/
import Derived.Test.YtcbhmbgmeodjdaaSortL
import Derived.Test.YtcbhmbgmeodjdaaMapS
import Derived.Test.YtcbhmbgmeodjdaaDatV
import Derived.Maps.RangeWalk
import Derived.Sort.KeysCollected
namespace Go.Proofs.Ytcbhmbgmeodjdaa
open Go.RowKit Go.Maps Go.Shelf Go.Lib Go.Sort
set_option linter.unusedVariables false
set_option linter.unusedSimpArgs false
set_option maxRecDepth 10000

/-- How an entry's two cells lie. -/
def encE (e : MEntry) : List Value := [.string e.fName, .int .i64 e.fId]

def cmpN (a b : ByteArray) : Int := if strLt a b then -1 else if strLt b a then 1 else 0
def cmpE (a b : MEntry) : Int := cmpN a.fName b.fName

theorem ltOfE (a b : MEntry) : ltOf cmpE a b = strLt a.fName b.fName := by
  unfold ltOf cmpE cmpN
  by_cases h : strLt a.fName b.fName = true
  · simp [h]
  · simp only [h]
    by_cases h2 : strLt b.fName a.fName = true
    · simp [h2]
    · simp [h2]

@[reducible] def inhE : Inhabited MEntry := ⟨⟨ByteArray.empty, 0⟩⟩

theorem swoE : SWO (ltOf cmpE) where
  irrefl x := by rw [ltOfE]; exact strLt_irrefl _
  trans x y z h1 h2 := by rw [ltOfE] at *; exact strLt_trans h1 h2
  ntrans x y z h1 h2 := by
    rw [ltOfE] at *
    by_cases hxy : x.fName = y.fName
    · rw [hxy]; exact h2
    · have h3 := strLt_tri h1 hxy
      by_cases hyz : y.fName = z.fName
      · rw [← hyz]; exact h1
      · exact strLt_asymm (strLt_trans (strLt_tri h2 hyz) h3)

set_option maxHeartbeats 1000000 in
theorem compareStr_any (a b : ByteArray) (w : World) :
    Calls Try.prog 114 #[.string a, .string b] w fun e w' => e = .returned (.int .i64 (cmpN a b)) ∧ w' = w := by
  by_cases h1 : strLt a b = true
  · have hv : cmpN a b = -1 := by unfold cmpN; rw [if_pos h1]
    rw [hv]
    obtain ⟨p1, p2, p3⟩ := strLt_facts h1
    clear hv h1
    go_enter Try.func114, Try.ntmps114
    go_wp2
    go_ret
    exact ⟨rfl, rfl⟩
  · have h1' : strLt a b = false := Bool.eq_false_iff.2 h1
    by_cases h2 : strLt b a = true
    · have hv : cmpN a b = 1 := by unfold cmpN; rw [if_neg h1, if_pos h2]
      rw [hv]
      obtain ⟨p1, p2, p3⟩ := strLt_facts h2
      clear hv h1 h2 h1'
      go_enter Try.func114, Try.ntmps114
      go_wp2
      go_ret
      exact ⟨rfl, rfl⟩
    · have h2' : strLt b a = false := Bool.eq_false_iff.2 h2
      have hv : cmpN a b = 0 := by unfold cmpN; rw [if_neg h1, if_neg h2]
      rw [hv]
      have p1 : Op.bytesLess a.toList b.toList = false := h1'
      have p2 : Op.bytesLess b.toList a.toList = false := h2'
      have hab : a.toList = b.toList := by
        by_cases h : a.toList = b.toList
        · exact h
        · have := bl_total p1 h; rw [p2] at this; cases this
      have p3 : (a.toList == b.toList) = true := by rw [hab]; simp
      have p4 : (b.toList == a.toList) = true := by rw [hab]; simp
      clear hab hv h1 h2 h1' h2'
      go_enter Try.func114, Try.ntmps114
      go_wp2
      go_ret
      exact ⟨rfl, rfl⟩

set_option maxHeartbeats 1000000 in
theorem closureE (x y : MEntry) (w : World) : Calls Try.prog 113 #[.agg (encE x).toArray, .agg (encE y).toArray] w fun e w' => e = .returned (.int .i64 (cmpE x y)) ∧ ∃ q os', w' = grow (w.drewN q) os' := by
  have hcon := fun W' => compareStr_any x.fName y.fName W'
  have hv : cmpE x y = cmpN x.fName y.fName := rfl
  rw [hv]
  clear hv
  generalize cmpN x.fName y.fName = r at hcon ⊢
  unfold encE
  go_enter Try.func113, Try.ntmps113
  go_wp2_with (go_at_call 114; refine (hcon _).mono ?_; rintro e w' ⟨rfl, rfl⟩)
  go_ret
  exact ⟨rfl, 0, _, by rw [alloc_eq_grow, alloc_eq_grow, grow_grow]; rfl⟩

theorem isAggE (w : World) : (isAgg 91).run Try.prog w = .ok true w := by kernel_rfl
theorem sizeOfE (w : World) : (Go.sizeOf 91).run Try.prog w = .ok 2 w := by kernel_rfl

section
variable [Inhabited MEntry]

theorem cmpLaysE (blk off size : Nat) (w : World) : CmpLays Try.prog 113 #[] encE 2 cmpE blk off size w :=
  fun _ _ _ _ x y => closureE x y _


/-- The library's sort, at a row of entries. -/
theorem sortE_any (blk cap : Nat) (d : Array MEntry) (w : World) (hH : HoldsK encE 2 w blk 0 d) (hblk : blk < w.heap.size) (hsz : d.size < 4611686018427387904) :
    Calls Try.prog 112 #[.slice (some ⟨blk, 0, none⟩) d.size cap, .func (.func 113) #[] #[]] w fun e w' => e = .returned (.tuple #[]) ∧ ∃ d' n os, PermIn 0 d.size d d' ∧ SortedIn (ltOf cmpE) 0 d.size d' ∧ w' = sortWorldK encE 2 w blk 0 n d' os := by
  have eg : ∀ args w, (callFunc 113 args).run Try.prog w = .ok (.enter 113 args) w := enters_of Try.func113 (by kernel_rfl) rfl
  exact AnyQ.slices_SortFunc sortEnt 2 isAggE sizeOfE encE (fun _ => rfl) (fun x v hv => by simp [encE] at hv; rcases hv with rfl | rfl <;> rfl) cmpE swoE 113 #[] blk 0 cap d w eg (cmpLaysE blk 0 d.size w) hH hblk hsz

end

end Go.Proofs.Ytcbhmbgmeodjdaa
