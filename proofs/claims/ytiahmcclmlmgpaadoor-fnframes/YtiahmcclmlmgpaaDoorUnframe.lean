/-
  Unframe, the specification's and the program's: both answer what 'unframe' says.
-/
import Derived.Test.YtiahmcclmlmgpaaDoorFrmI
import Derived.Test.YtiahmcclmlmgpaaDoorNum
import Derived.Test.YtiahmcclmlmgpaaDoorTextM
namespace Go.Proofs.YtiahmcclmlmgpaaDoor
open Go.RowKit
set_option maxRecDepth 10000

/-- Four bytes as a number. -/
def rd4 (zs : List Int) (p : Nat) : Int := zs.getD p 0 * 16777216 + zs.getD (p + 1) 0 * 65536 + zs.getD (p + 2) 0 * 256 + zs.getD (p + 3) 0

theorem rd4_bd {zs : List Int} (hb : BytesOk zs) (p : Nat) : 0 ≤ rd4 zs p ∧ rd4 zs p < 4294967296 := by
  have h0 := hb.getD p
  have h1 := hb.getD (p + 1)
  have h2 := hb.getD (p + 2)
  have h3 := hb.getD (p + 3)
  unfold rd4
  omega

/-- What both programs answer of a frame. -/
def unframe (zs : List Int) (p : Int) : List Int × Int × Bool :=
  if p < 0 ∨ (zs.length : Int) - 4 < p then ([], p, false)
  else if (getText zs (p + 4)).2.2 = true ∧ crc (getText zs (p + 4)).1 = rd4 zs p.toNat then ((getText zs (p + 4)).1, (getText zs (p + 4)).2.1, true) else ([], p, false)

theorem unframe_out {zs : List Int} {p : Int} (h : p < 0 ∨ (zs.length : Int) - 4 < p) : unframe zs p = ([], p, false) := by unfold unframe; rw [if_pos h]
theorem unframe_no {zs : List Int} {p : Nat} (h : p + 4 ≤ zs.length) (ht : getText zs ((p : Int) + 4) = ([], 0, false)) : unframe zs p = ([], (p : Int), false) := by
  unfold unframe; rw [if_neg (by omega), ht, if_neg (by simp)]
theorem unframe_sum {zs : List Int} {p : Nat} {b : List Int} {q : Int} (h : p + 4 ≤ zs.length) (ht : getText zs ((p : Int) + 4) = (b, q, true)) (hc : ¬ crc b = rd4 zs p) : unframe zs p = ([], (p : Int), false) := by
  unfold unframe; rw [if_neg (by omega), ht, if_neg (by simp [hc])]
theorem unframe_yes {zs : List Int} {p : Nat} {b : List Int} {q : Int} (h : p + 4 ≤ zs.length) (ht : getText zs ((p : Int) + 4) = (b, q, true)) (hc : crc b = rd4 zs p) : unframe zs p = (b, q, true) := by
  unfold unframe; rw [if_neg (by omega), ht, if_pos (by simp [hc])]

theorem or24 {a b : Int} (h0 : 0 ≤ a) (h1 : a ≤ 255) (h2 : 0 ≤ b) (h3 : b ≤ 255) : bits .or .i64 (a * 16777216) (b * 65536) = a * 16777216 + b * 65536 :=
  bits_join .i64 63 (by decide) wraps_i64 24 _ _ (by omega) (by omega) (by omega) (by omega) (by omega) (by omega)
theorem or16 {x c : Int} (h0 : 0 ≤ x) (h1 : x < 4294967296) (hm : x % 65536 = 0) (h2 : 0 ≤ c) (h3 : c ≤ 255) : bits .or .i64 x (c * 256) = x + c * 256 :=
  bits_join .i64 63 (by decide) wraps_i64 16 _ _ (by omega) (by omega) (by omega) (by omega) (by omega) (by omega)
theorem or8 {x c : Int} (h0 : 0 ≤ x) (h1 : x < 4294967296) (hm : x % 256 = 0) (h2 : 0 ≤ c) (h3 : c ≤ 255) : bits .or .i64 x c = x + c :=
  bits_join .i64 63 (by decide) wraps_i64 8 _ _ (by omega) (by omega) (by omega) (by omega) (by omega) (by omega)

theorem Rd.sub {k : IntKind} {B : Nat} {w : World} {b o f m : Nat} {zs : List Int} (h : Rd k B w (some ⟨b, o, none⟩) zs) (hf : f + m ≤ zs.length) : Rd k B w (some ⟨b, o + f, none⟩) ((zs.drop f).take m) := by
  intro j hj
  rw [take_drop_length hf] at hj
  obtain ⟨b', o', e, hB, hc⟩ := h (f + j) (by omega)
  simp only [Option.some.injEq, Addr.mk.injEq, and_true] at e
  obtain ⟨rfl, rfl⟩ := e
  exact ⟨b, o + f, rfl, hB, by rw [take_drop_getD hj, Nat.add_assoc]; exact hc⟩

theorem Rd.nil {k : IntKind} {B : Nat} {w : World} {a : Option Addr} : Rd k B w a [] := fun j hj => by simp at hj

set_option maxHeartbeats 400000 in
theorem fourAt_no (a : Option Addr) (n cap : Nat) (p : Int) (w : World) (h : p < 0 ∨ (n : Int) - 4 < p) (hlen : n ≤ 140737488351232) :
    Calls Tryd.prog 80 #[.slice a n cap, .int .i64 p] w fun e w' => e = .returned (.tuple #[.int .i64 0, .bool false]) ∧ w' = w := by
  by_cases h0 : p < 0
  · clear h
    go_enter Tryd.func80, Tryd.ntmps80
    go_wp2
    go_ret2
    exact ⟨rfl, rfl⟩
  · have h1 : (n : Int) - 4 < p := by omega
    clear h
    go_enter Tryd.func80, Tryd.ntmps80
    go_wp2
    go_ret2
    exact ⟨rfl, rfl⟩

set_option maxHeartbeats 400000 in
theorem fourAt_yes (a : Option Addr) (n cap p : Nat) (zs : List Int) (w : World) (B : Nat) (hx : zs.length = n) (h : p + 4 ≤ n) (hlen : n ≤ 140737488351232) (hb : BytesOk zs) (hr : Rd .u8 B w a zs) :
    Calls Tryd.prog 80 #[.slice a n cap, .int .i64 p] w fun e w' => e = .returned (.tuple #[.int .i64 (rd4 zs p), .bool true]) ∧ ∃ d, w' = w.drewN d := by
  have HX : Hid (zs.length = n) := hx
  clear hx
  obtain ⟨b1, o1, rfl, _, hc0⟩ := hr p (by rw [HX.out]; omega)
  have hcell : ∀ j, j < n → w.cell? ⟨b1, o1 + j, none⟩ = some (.int .u8 (zs.getD j 0)) := fun j hj => by
    obtain ⟨b', o', e, _, hc⟩ := hr j (by rw [HX.out]; omega)
    simp only [Option.some.injEq, Addr.mk.injEq, and_true] at e
    obtain ⟨rfl, rfl⟩ := e
    exact hc
  have hc1 := hcell (p + 1) (by omega)
  have hc2 := hcell (p + 2) (by omega)
  have hc3 := hcell (p + 3) (by omega)
  have g0 := hb.getD p
  have g1 := hb.getD (p + 1)
  have g2 := hb.getD (p + 2)
  have g3 := hb.getD (p + 3)
  have HR : Hid (rd4 zs p = zs.getD p 0 * 16777216 + zs.getD (p + 1) 0 * 65536 + zs.getD (p + 2) 0 * 256 + zs.getD (p + 3) 0) := rfl
  generalize zs.getD p 0 = c0 at hc0 g0 HR
  generalize zs.getD (p + 1) 0 = c1 at hc1 g1 HR
  generalize zs.getD (p + 2) 0 = c2 at hc2 g2 HR
  generalize zs.getD (p + 3) 0 = c3 at hc3 g3 HR
  have r1 := or24 g0.1 g0.2 g1.1 g1.2
  have r2 := or16 (x := c0 * 16777216 + c1 * 65536) (c := c2) (by omega) (by omega) (by omega) g2.1 g2.2
  have r3 := or8 (x := c0 * 16777216 + c1 * 65536 + c2 * 256) (c := c3) (by omega) (by omega) (by omega) g3.1 g3.2
  clear hcell hr hb
  go_enter Tryd.func80, Tryd.ntmps80
  go_wp2
  go_quiet (fail)
  go_wp2
  go_ret2
  exact ⟨by rw [HR.out]; rfl, _, rfl⟩

/-- Bytes as a number, the first the highest. -/
def rdN (zs : List Int) : Int := zs.foldl (fun n c => n * 256 + c) 0

theorem rdN_snoc (l : List Int) (c : Int) : rdN (l ++ [c]) = rdN l * 256 + c := by simp [rdN]

theorem rdN_bd {zs : List Int} (hb : BytesOk zs) (k : Nat) (hk : k ≤ 4) : 0 ≤ rdN (zs.take k) ∧ rdN (zs.take k) < 4294967296 ∧ (k < 4 → rdN (zs.take k) < 16777216) := by
  have step : ∀ j, 0 ≤ rdN (zs.take j) → (rdN (zs.take (j + 1)) = rdN (zs.take j) ∨ ∃ c, 0 ≤ c ∧ c ≤ 255 ∧ rdN (zs.take (j + 1)) = rdN (zs.take j) * 256 + c) := by
    intro j _
    by_cases hj : j < zs.length
    · right
      refine ⟨zs.getD j 0, (hb.getD j).1, (hb.getD j).2, ?_⟩
      rw [← rdN_snoc]
      congr 1
      rw [List.take_succ_eq_append_getElem hj, List.getD_eq_getElem?_getD, List.getElem?_eq_getElem hj]
      rfl
    · left
      rw [List.take_of_length_le (by omega), List.take_of_length_le (by omega)]
  have e0 : rdN (zs.take 0) = 0 := by simp [rdN]
  have s0 := step 0 (by omega)
  have b1 : 0 ≤ rdN (zs.take 1) ∧ rdN (zs.take 1) < 256 := by rcases s0 with h | ⟨c, h1, h2, h⟩ <;> rw [e0] at h <;> simp only [Nat.zero_add] at h <;> omega
  have s1 := step 1 b1.1
  have b2 : 0 ≤ rdN (zs.take 2) ∧ rdN (zs.take 2) < 65536 := by rcases s1 with h | ⟨c, h1, h2, h⟩ <;> simp only [Nat.reduceAdd] at h <;> omega
  have s2 := step 2 b2.1
  have b3 : 0 ≤ rdN (zs.take 3) ∧ rdN (zs.take 3) < 16777216 := by rcases s2 with h | ⟨c, h1, h2, h⟩ <;> simp only [Nat.reduceAdd] at h <;> omega
  have s3 := step 3 b3.1
  have b4 : 0 ≤ rdN (zs.take 4) ∧ rdN (zs.take 4) < 4294967296 := by rcases s3 with h | ⟨c, h1, h2, h⟩ <;> simp only [Nat.reduceAdd] at h <;> omega
  rcases (show k = 0 ∨ k = 1 ∨ k = 2 ∨ k = 3 ∨ k = 4 from by omega) with rfl | rfl | rfl | rfl | rfl
  · rw [e0]; omega
  · omega
  · omega
  · omega
  · omega

theorem rdN_four {zs : List Int} {p : Nat} (h : p + 4 ≤ zs.length) : rdN ((zs.drop p).take 4) = rd4 zs p := by
  have e : (zs.drop p).take 4 = [zs.getD p 0, zs.getD (p + 1) 0, zs.getD (p + 2) 0, zs.getD (p + 3) 0] := by
    apply List.ext_getElem?
    intro j
    rw [List.getElem?_take, List.getElem?_drop]
    rcases (show j = 0 ∨ j = 1 ∨ j = 2 ∨ j = 3 ∨ 4 ≤ j from by omega) with rfl | rfl | rfl | rfl | hj
    all_goals first | (rw [if_neg (by omega), List.getElem?_eq_none (by simpa using hj)]) | (rw [if_pos (by omega), List.getElem?_eq_getElem (by omega)]; simp [List.getElem?_eq_getElem (show p < zs.length from by omega), List.getElem?_eq_getElem (show p + 1 < zs.length from by omega), List.getElem?_eq_getElem (show p + 2 < zs.length from by omega), List.getElem?_eq_getElem (show p + 3 < zs.length from by omega)])
  rw [e]
  simp only [rdN, List.foldl_cons, List.foldl_nil, rd4]
  omega

set_option maxHeartbeats 400000 in
theorem readFour_any (a : Option Addr) (cap : Nat) (zs : List Int) (w : World) (B : Nat) (hx : zs.length = 4) (hb : BytesOk zs) (hr : Rd .u8 B w a zs) :
    Calls Tryd.prog 50 #[.slice a 4 cap] w fun e w' => e = .returned (.int .i64 (rdN zs)) ∧ w' = w := by
  have HX : Hid (zs.length = 4) := hx
  clear hx
  go_enter Tryd.func50, Tryd.ntmps50
  go_wp2
  go_loop [3, 5, 8] (fun x c i => ∃ k : Nat, k ≤ 4 ∧ i = .int .i64 k ∧ x = .int .i64 (rdN (zs.take k))) (fun _ _ i => 4 - (intOf i).toNat)
  case atStart => exact ⟨0, Nat.zero_le _, rfl, rfl⟩
  case round =>
    obtain ⟨k, hk, rfl, rfl⟩ := hrel
    have hbd := rdN_bd hb k hk
    by_cases hlt : k < 4
    · obtain ⟨b1, o1, rfl, _, hc1⟩ := hr k (by rw [HX.out]; exact hlt)
      have hcr := hb.getD k
      have HS : Hid (rdN (zs.take (k + 1)) = rdN (zs.take k) * 256 + zs.getD k 0) := by
        unfold Hid
        rw [← rdN_snoc]
        congr 1
        rw [List.take_succ_eq_append_getElem (by rw [HX.out]; exact hlt), List.getD_eq_getElem?_getD, List.getElem?_eq_getElem (by rw [HX.out]; exact hlt)]
        rfl
      have hbl := hbd.2.2 hlt
      obtain ⟨hb0, _, _⟩ := hbd
      generalize zs.getD k 0 = c at hc1 hcr HS
      generalize rdN (zs.take k) = X at hbl hb0 HS
      clear hr hb
      go_wp2
      go_round
      case rel => exact ⟨k + 1, by omega, by go_num, by rw [HS.out]⟩
      case measure => simp [intOf]; omega
    · have hk4 : k = 4 := by omega
      have HT : Hid (rdN zs = rdN (zs.take k)) := by unfold Hid; rw [List.take_of_length_le (by rw [HX.out]; omega)]
      generalize rdN (zs.take k) = X at HT
      go_wp2
      go_ret
      exact ⟨by rw [HT.out]; rfl, rfl⟩

end Go.Proofs.YtiahmcclmlmgpaaDoor
