/-
  The program's MemPut: where a key comes, and the table with the pair in its place.
-/
import Derived.Test.YtadadkookbkkoaaDoorCatNode
import Derived.Test.YtadadkookbkkoaaDoorMemQ
import Derived.Test.YtadadkookbkkoaaDoorLeapI
import Derived.Test.YtadadkookbkkoaaDoorMemOk
import Derived.Test.YtadadkookbkkoaaDoorPairOk
namespace Go.Proofs.YtadadkookbkkoaaDoor
open Go.RowKit Go.Maps
set_option linter.unusedVariables false
set_option linter.unusedSimpArgs false
set_option maxRecDepth 10000

set_option maxHeartbeats 2000000 in
theorem placeFor_any (a : Option Addr) (c : Nat) (l : List MNode) (key : ByteArray) (w : World) (hr : rMem w.heap.size w [.slice a l.length c] ⟨l⟩) (hw : wMem ⟨l⟩ ≤ 1048576) (hky : key.size ≤ 9223372036854775807) (hT : Tabs w) (hM : memOkP ⟨l⟩ = true) :
    Calls Tryd.prog 33 #[.agg #[.slice a l.length c], .string key] w fun e w' => e = .returned (.int .i64 (lessN l key : Nat)) ∧ Below w.heap.size w w' := by
  obtain ⟨wq, hwq⟩ : ∃ x, x = w.alloc (.cells #[.slice a l.length c] 26) := ⟨_, rfl⟩
  have hbq : Below w.heap.size w wq := by rw [hwq]; exact (Below.refl _ _).alloc (Nat.le_refl _) _
  have hC := implLeaps_any [.slice a l.length c] ⟨l⟩ key wq (rMem_good.mono (rMem_good.below hr hbq) hbq.size) hw hky (hT.below hbq)
  have hll : l.length ≤ 60 := (memOk_iff.1 hM).1
  obtain ⟨hri, htw⟩ := memOk_rise hM
  have HW := Hid.mk (leapF_way (key := key) hri htw 4 (-1) (by omega) (by have := lessN_le l key; omega))
  obtain ⟨L, HLL⟩ : ∃ L, Hid (L = leapsP l key) := ⟨_, Hid.mk rfl⟩
  have hLlen : L.length ≤ 404 := by rw [HLL.out]; have h := leapF_len key l 4 (-1); unfold leapsP; omega
  obtain ⟨ls, HLS⟩ : ∃ x, Hid (x = lessN l key) := ⟨_, Hid.mk rfl⟩
  have hlsb : ls ≤ 60 := by rw [HLS.out]; have := lessN_le l key; omega
  have HWX : Hid ((L = [] → ls = 0) ∧ ∀ hne : L ≠ [], L.getLast hne + 1 = (ls : Int)) := by
    have h := HW.out
    have hl : leapF 4 key l (-1) = L := HLL.out.symm
    rw [hl, ← HLS.out] at h
    exact ⟨fun e => by have := (h.2.2 (by omega)).1 e; omega, (h.2.2 (by omega)).2⟩
  rw [← HLS.out]
  clear HW hri htw hM hr hT
  go_enter Tryd.func33, Tryd.ntmps33
  go_wp2_with (rw [← hwq])
  try rw [← hwq]
  clear hwq
  refine hC.mono ?_
  rintro e w3 ⟨v3, rfl, ho3, hx3⟩
  have ho3' := ho3
  rw [show leapsP (⟨l⟩ : MMem).fNodes key = L from HLL.out.symm] at ho3'
  obtain ⟨a3, c3, rfl, _, hR3⟩ := own_rd rfl ho3'
  have hb3 := bthen hbq hx3
  clear ho3 ho3' hC
  by_cases h0 : L = []
  · have hl0 : L.length = 0 := by rw [h0]; rfl
    have hl1 : ((L.length : Nat) : Int) = 0 := by omega
    have hls0 : ls = 0 := HWX.out.1 h0
    subst hls0
    clear h0 hl0
    go_wp2_with fail
    go_ret
    exact ⟨rfl, hb3⟩
  · have hla := HWX.out.2 h0
    have hpos : 0 < L.length := List.length_pos_iff.2 h0
    rw [List.getLast_eq_getElem] at hla
    obtain ⟨m, hm⟩ : ∃ m, L.length = m + 1 := ⟨L.length - 1, by omega⟩
    have hml : m < L.length := by omega
    obtain ⟨b3, o3, rfl, hB3, hc3⟩ := hR3 m hml
    rw [List.getD_eq_getElem?_getD, List.getElem?_eq_getElem hml, Option.getD_some] at hc3
    have hv : L[m] = (ls : Int) - 1 := by
      have h1 : L[L.length - 1]'(by omega) = L[m] := by congr 1; omega
      rw [h1] at hla
      omega
    rw [hv] at hc3
    have hl1 : ¬ ((L.length : Nat) : Int) = 0 := by omega
    have hq2 : (((L.length : Nat) : Int) == 0) = false := by rw [beq_eq_false_iff_ne]; exact hl1
    have hm1 : ((L.length : Nat) : Int) - 1 = (m : Int) := by omega
    have hm2 : (0 : Int) ≤ (m : Int) := by omega
    have hm3 : (m : Int) < (L.length : Int) := by omega
    have hwm : IntKind.i64.wrap (m : Int) = (m : Int) := by rw [IntKind.wrap_i64]; omega
    have hwn : IntKind.i64.wrap (((L.length : Nat) : Int) - 1) = (m : Int) := by rw [hm1, hwm]
    have hwl : IntKind.i64.wrap ((ls : Int) - 1 + 1) = (ls : Int) := by rw [IntKind.wrap_i64]; omega
    clear hla hm hv h0
    go_wp2_with fail
    go_ret
    exact ⟨by first | rfl | (rw [hwl]) | (congr 2; omega), hb3⟩

end Go.Proofs.YtadadkookbkkoaaDoor
