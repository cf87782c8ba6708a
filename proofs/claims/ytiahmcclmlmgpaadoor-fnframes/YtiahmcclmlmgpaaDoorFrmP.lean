/-
  Frames of short bodies, plainly: they come back; a bit that is turned, and a byte that is lacking, are told.
-/
import Derived.Test.YtiahmcclmlmgpaaDoorRecs
import Derived.Test.YtiahmcclmlmgpaaDoorBackM
import Derived.Test.YtiahmcclmlmgpaaDoorCrcM
namespace Go.Proofs.YtiahmcclmlmgpaaDoor
open Go.RowKit
set_option linter.unusedVariables false
set_option linter.unusedSimpArgs false
set_option maxRecDepth 10000

theorem putNum_fin : ∀ n : Fin 128, putNum ((n.val : Nat) : Int) = [((n.val : Nat) : Int)] := by decide +kernel
theorem putNum_small {n : Nat} (h : n < 128) : putNum (n : Int) = [(n : Int)] := putNum_fin ⟨n, h⟩
def sumOf (a b c d : Int) : Int := a * 16777216 + b * 65536 + c * 256 + d
/-- What stands at a place where a sum, a length and a body lie. -/
theorem unframe_lay (pre body t : List Int) (a b c d : Int) (hm : body.length < 128) :
    unframe (pre ++ ([a, b, c, d] ++ ((body.length : Int) :: (body ++ t)))) (pre.length : Nat) =
      if crc body = sumOf a b c d then (body, ((pre.length + 5 + body.length : Nat) : Int), true) else ([], (pre.length : Int), false) := by
  obtain ⟨zs, hzs⟩ : ∃ zs, zs = pre ++ ([a, b, c, d] ++ ((body.length : Int) :: (body ++ t))) := ⟨_, rfl⟩
  have hlen : zs.length = pre.length + 5 + body.length + t.length := by rw [hzs]; simp; omega
  have hn : getNum zs ((pre.length : Int) + 4) = ((body.length : Int), ((pre.length + 5 : Nat) : Int), true) := by
    have h := getNum_put (N := (body.length : Int)) (by omega) (by omega) (pre ++ [a, b, c, d]) (body ++ t)
    rw [putNum_small hm] at h
    have e1 : pre ++ [a, b, c, d] ++ [(body.length : Int)] ++ (body ++ t) = zs := by rw [hzs]; simp
    rw [e1] at h
    have e2 : (((pre ++ [a, b, c, d]).length : Nat) : Int) = (pre.length : Int) + 4 := by simp
    rw [e2] at h
    rw [h]
    simp
  have ht : getText zs ((pre.length : Int) + 4) = (body, ((pre.length + 5 + body.length : Nat) : Int), true) := by
    rw [getText_yes (m := body.length) (f := pre.length + 5) hn (by rw [hlen]; omega)]
    have e : (zs.drop (pre.length + 5)).take body.length = body := by
      have e3 : zs = (pre ++ [a, b, c, d, (body.length : Int)]) ++ (body ++ t) := by rw [hzs]; simp
      rw [e3, List.drop_left' (by simp), List.take_left' rfl]
    rw [e]
  have hr : rd4 zs pre.length = sumOf a b c d := by
    unfold rd4 sumOf
    have g : ∀ j, zs.getD (pre.length + j) 0 = ([a, b, c, d] ++ ((body.length : Int) :: (body ++ t))).getD j 0 := by
      intro j
      rw [hzs, List.getD_eq_getElem?_getD, List.getD_eq_getElem?_getD, List.getElem?_append_right (by omega)]
      congr 2
      omega
    have g0 := g 0
    have g1 := g 1
    have g2 := g 2
    have g3 := g 3
    rw [Nat.add_zero] at g0
    rw [g0, g1, g2, g3]
    rfl
  rw [← hzs]
  by_cases hc : crc body = sumOf a b c d
  · rw [if_pos hc]
    exact unframe_yes (by omega) ht (by rw [hr]; exact hc)
  · rw [if_neg hc]
    exact unframe_sum (by omega) ht (by rw [hr]; exact hc)
theorem frame_small {bs : List Int} (h : bs.length < 128) : frame bs = four (crc bs) ++ ((bs.length : Int) :: bs) := by
  unfold frame
  rw [clampN_in (by omega) (by omega), putNum_small h]
  simp
theorem frame_len {bs : List Int} (h : bs.length < 128) : (frame bs).length = 5 + bs.length := by
  rw [frame_small h]
  simp [four]
  omega
theorem sum_four {x : Int} (h0 : 0 ≤ x) (h1 : x < 4294967296) : sumOf (x / 16777216) (x / 65536 % 256) (x / 256 % 256) (x % 256) = x := by
  unfold sumOf
  omega
/-- A frame comes back, wherever it lies. -/
theorem unframe_frame (pre t : List Int) {bs : List Int} (hb : BytesOk bs) (h : bs.length < 128) : unframe (pre ++ (frame bs ++ t)) (pre.length : Nat) = (bs, ((pre.length + (frame bs).length : Nat) : Int), true) := by
  have h1 := unframe_lay pre bs t (crc bs / 16777216) (crc bs / 65536 % 256) (crc bs / 256 % 256) (crc bs % 256) h
  have h2 := crc_bd hb
  rw [sum_four h2.1 h2.2, if_pos rfl] at h1
  rw [frame_small h]
  have e : four (crc bs) ++ (bs.length : Int) :: bs ++ t = [crc bs / 16777216, crc bs / 65536 % 256, crc bs / 256 % 256, crc bs % 256] ++ ((bs.length : Int) :: (bs ++ t)) := by simp [four]
  rw [e, h1]
  simp [four]
  omega
/-- Two frames are two records. -/
theorem recs_two {bs : List Int} (hb : BytesOk bs) (h : bs.length < 128) : recsP (frame bs ++ frame bs) = ([bs, bs], ((2 * (frame bs).length : Nat) : Int)) := by
  have hl := frame_len h
  have h1 := unframe_frame [] (frame bs) hb h
  have h2 := unframe_frame (frame bs) [] hb h
  have h3 : unframe (frame bs ++ frame bs) (((frame bs).length + (frame bs).length : Nat) : Int) = ([], (((frame bs).length + (frame bs).length : Nat) : Int), false) := unframe_out (by simp; omega)
  simp only [List.nil_append, List.length_nil, Nat.zero_add, List.append_nil, Int.ofNat_zero] at h1 h2
  unfold recsP
  obtain ⟨f, hf⟩ : ∃ f, (frame bs ++ frame bs).length + 1 = f + 1 + 1 + 1 := ⟨(frame bs ++ frame bs).length - 2, by simp; omega⟩
  rw [hf, recsF, h1, recsF, h2, recsF, h3]
  simp
  omega
/-- A byte that is lacking is told. -/
theorem unframe_cut {bs : List Int} (h : bs.length < 128) {n : Nat} (hn : n < (frame bs).length) : (unframe ((frame bs).take n) 0).2.2 = false := by
  have hl := frame_len h
  have hlen : ((frame bs).take n).length = n := by simp; omega
  by_cases h4 : n < 4
  · rw [unframe_out (by rw [hlen]; omega)]
  by_cases h5 : n = 4
  · rw [show (0 : Int) = ((0 : Nat) : Int) from rfl, unframe_no (p := 0) (by rw [hlen]; omega)]
    exact getText_no (.inl (by rw [getNum_out (by rw [hlen]; omega)]; rfl))
  obtain ⟨k, rfl⟩ : ∃ k, n = k + 5 := ⟨n - 5, by omega⟩
  have e : (frame bs).take (k + 5) = four (crc bs) ++ ([(bs.length : Int)] ++ bs.take k) := by
    rw [frame_small h]
    simp [four]
  have hg := getNum_put (N := (bs.length : Int)) (by omega) (by omega) (four (crc bs)) (bs.take k)
  rw [putNum_small h, List.append_assoc, ← e] at hg
  rw [show (0 : Int) = ((0 : Nat) : Int) from rfl, unframe_no (p := 0) (by rw [hlen]; omega)]
  refine getText_no (.inr ?_)
  have e2 : ((0 : Nat) : Int) + 4 = ((four (crc bs)).length : Nat) := rfl
  rw [e2, hg, hlen]
  simp [four]
  omega
theorem four_bd {bs : List Int} (hb : BytesOk bs) : four (crc bs) = [crc bs / 16777216, crc bs / 65536 % 256, crc bs / 256 % 256, crc bs % 256] := rfl
/-- A bit that is turned is told: a byte of the sum or of the body that is another one. -/
theorem unframe_turned {bs : List Int} (hb : BytesOk bs) (h : bs.length < 128) {k : Nat} {c : Int} (hk : k < (frame bs).length) (h4 : k ≠ 4) (hc : 0 ≤ c ∧ c ≤ 255) (hne : c ≠ (frame bs).getD k 0) : (unframe ((frame bs).set k c) 0).2.2 = false := by
  have hl := frame_len h
  have hcr := crc_bd hb
  have hs := sum_four hcr.1 hcr.2
  have hf : frame bs = [crc bs / 16777216, crc bs / 65536 % 256, crc bs / 256 % 256, crc bs % 256] ++ ((bs.length : Int) :: (bs ++ [])) := by rw [frame_small h]; simp [four]
  generalize ha : crc bs / 16777216 = x0 at hs hf
  generalize hb1 : crc bs / 65536 % 256 = x1 at hs hf
  generalize hc1 : crc bs / 256 % 256 = x2 at hs hf
  generalize hd1 : crc bs % 256 = x3 at hs hf
  have step : ∀ (y0 y1 y2 y3 : Int), sumOf y0 y1 y2 y3 ≠ crc bs → (unframe ([y0, y1, y2, y3] ++ ((bs.length : Int) :: (bs ++ []))) 0).2.2 = false := by
    intro y0 y1 y2 y3 hy
    have := unframe_lay [] bs [] y0 y1 y2 y3 h
    rw [if_neg (fun e => hy e.symm)] at this
    simp only [List.nil_append, List.length_nil, Int.ofNat_zero] at this
    rw [this]
  rw [hf] at hne ⊢
  unfold sumOf at hs step
  rcases (show k = 0 ∨ k = 1 ∨ k = 2 ∨ k = 3 ∨ 5 ≤ k from by omega) with rfl | rfl | rfl | rfl | h5
  · exact step c x1 x2 x3 (fun e => hne (by show c = x0; omega))
  · exact step x0 c x2 x3 (fun e => hne (by show c = x1; omega))
  · exact step x0 x1 c x3 (fun e => hne (by show c = x2; omega))
  · exact step x0 x1 x2 c (fun e => hne (by show c = x3; omega))
  · obtain ⟨j, rfl⟩ : ∃ j, k = j + 5 := ⟨k - 5, by omega⟩
    have hj : j < bs.length := by omega
    have e1 : ([x0, x1, x2, x3] ++ ((bs.length : Int) :: (bs ++ []))).set (j + 5) c = [x0, x1, x2, x3] ++ (((bs.set j c).length : Int) :: (bs.set j c ++ [])) := by
      simp
    have e2 : ([x0, x1, x2, x3] ++ ((bs.length : Int) :: (bs ++ []))).getD (j + 5) 0 = bs.getD j 0 := by
      simp [List.getD_eq_getElem?_getD]
    rw [e2] at hne
    rw [e1]
    have hcn : crc (bs.set j c) ≠ crc bs := by
      have e3 : bs = bs.take j ++ bs.getD j 0 :: bs.drop (j + 1) := by rw [← drop_cons hj, List.take_append_drop]
      have e4 : bs.set j c = bs.take j ++ c :: bs.drop (j + 1) := by rw [List.set_eq_take_append_cons_drop, if_pos hj]
      have := crc_ne (p := bs.take j) (t := bs.drop (j + 1)) (fun z hz => hb z (List.mem_of_mem_take hz)) (fun z hz => hb z (List.mem_of_mem_drop hz)) hc (hb.getD j) hne
      rw [e4]
      rw [← e3] at this
      exact this
    have := unframe_lay [] (bs.set j c) [] x0 x1 x2 x3 (by simpa using h)
    rw [if_neg (by unfold sumOf; omega)] at this
    simp only [List.nil_append, List.length_nil, Int.ofNat_zero] at this
    rw [this]

end Go.Proofs.YtiahmcclmlmgpaaDoor
