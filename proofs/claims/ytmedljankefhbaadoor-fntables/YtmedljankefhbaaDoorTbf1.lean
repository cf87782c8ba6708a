/-
  Part 2 of the texts that the proof leans on.
-/
import Derived.Test.YtmedljankefhbaaDoorTbf0
import Derived.Maps.AppendAt
set_option linter.unusedVariables false
set_option linter.unusedSimpArgs false
set_option maxRecDepth 10000

namespace Go.Proofs.YtmedljankefhbaaDoor
open Go.RowKit

theorem take_snoc {xs : List Int} {k n : Nat} (hx : xs.length = n) (hk : k < n) : xs.take (k + 1) = xs.take k ++ [xs.getD k 0] := by
  rw [List.take_succ_eq_append_getElem (by omega), List.getD_eq_getElem?_getD, List.getElem?_eq_getElem (by omega)]
  rfl

theorem step_put {w : World} {base e n j : Nat} {v : Value} {zs ns : List Int} {x N : Int} (h : w.ownsRow base e 1 v (n + (putNums (ns.take j)).length + (putNum N).length) (((zs ++ putNums (ns.take j)) ++ putNum N).map (Value.int .u8)))
    (hN : clampN x = N) (ht : ns.take (j + 1) = ns.take j ++ [x]) : w.ownsRow base e 1 v (n + (putNums (ns.take (j + 1))).length) ((zs ++ putNums (ns.take (j + 1))).map (Value.int .u8)) := by
  subst hN
  rw [ht, putNums_snoc]
  exact own_congr h (by simp; omega) (by simp)

set_option maxHeartbeats 800000 in
theorem putNums_any (a c : Option Addr) (n cap m ccap : Nat) (zs ns : List Int) (w : World) (hx : zs.length = n) (hy : ns.length = m) (hlen : n ≤ 35184372088832) (hm : m ≤ 1000000) (hr : Rd .u8 w.heap.size w a zs) (hrn : Rd .i64 w.heap.size w c ns) :
    Calls Tryd.prog 34 #[.slice a n cap, .slice c m ccap] w fun e w' => ∃ v, e = .returned v ∧
      w'.ownsRow w.heap.size 5 1 v (n + (putNums ns).length) ((zs ++ putNums ns).map (Value.int .u8)) ∧ Below w.heap.size w w' := by
  obtain ⟨i0, hi, hz0, hz1, hz2⟩ := info_parts Tryd.info5
  have HX : Hid (zs.length = n) := hx
  have HY : Hid (ns.length = m) := hy
  clear hx hy
  go_enter Tryd.func34, Tryd.ntmps34
  go_wp2_with (at_make; refine wpList_make_any _ rfl _ _ 22 rfl w.heap.size 5 i0 (.int .u8 0) Tryd.underlying22 hi hz0 hz1 rfl .i64 .i64 _ _ n (n + 5 * m) rfl rfl rfl (by omega) (by omega) (by rw [hz2]; omega) (by unfold maxLen; omega) (Nat.le_refl _) ?_)
  intro w1 hown hgr
  have hb1 : Below w.heap.size w w1 := (Below.refl _ _).grown hgr (Nat.le_refl _) (fun k h => by cases h)
  clear hgr
  have hr1 := hr.below hb1
  go_wp2_with (refine wpList_copy_rd rfl _ _ 22 22 rfl 5 i0 Tryd.underlying22 hi hz1 w.heap.size w.heap.size n (n + 5 * m) cap a rfl rfl _ hown .u8 zs w.heap.size HX.out hr1 ?_)
  intro w2 hown2 hgr2
  have hb2 : Below w.heap.size w w2 := hb1.grown hgr2 hb1.size (fun k h => by simp at h; omega)
  clear hgr2 hown hb1 hr1 hr
  go_wp2_with fail
  go_loopw [5, 7, 22] (fun o x k wr => ∃ j : Nat, j ≤ m ∧ k = .int .i64 j ∧
    wr.ownsRow w.heap.size 5 1 o (n + (putNums (ns.take j)).length) ((zs ++ putNums (ns.take j)).map (Value.int .u8)) ∧ Below w.heap.size w wr) (fun _ _ k _ => m - (intOf k).toNat)
  case atStart => exact ⟨0, by omega, rfl, by simpa [putNums] using hown2, hb2⟩
  case round =>
    obtain ⟨j, hj, rfl, hownk, hbk⟩ := hrel
    clear hown2 hb2
    have hl := putNums_length (ns.take j)
    have hl2 : (ns.take j).length ≤ j := List.length_take_le _ _
    by_cases hlt : j < m
    · obtain ⟨b1, o1, rfl, hB, hc1⟩ := hrn j (by rw [HY.out]; exact hlt)
      have hc2 : wr.cell? ⟨b1, o1 + j, none⟩ = some (.int .i64 (ns.getD j 0)) := (hbk.cell (p := ⟨b1, o1 + j, none⟩) hB).trans hc1
      have HT := Hid.mk (take_snoc HY.out hlt)
      generalize ns.getD j 0 = x at hc1 hc2 HT
      clear hc1 hrn
      by_cases h1 : 1000000000 < x
      · have HC : Hid (clampN x = 1000000000) := clampN_hi h1
        go_wp2_with fail
        refine (addGroups_own _ (n + (putNums (ns.take j)).length) w.heap.size (zs ++ putNums (ns.take j)) _ wr (by omega) (by omega) (by omega) hbk.size hownk).mono ?_
        rintro e w3 ⟨v3, rfl, hown3, hb3⟩
        have hb4 := hbk.trans hb3
        have hown4 := step_put hown3 HC.out HT.out
        clear hown3 hownk hbk hb3
        go_wp2_with fail
        go_roundw
        case rel => exact ⟨j + 1, by omega, by go_num, hown4, hb4⟩
        case measure => simp [intOf]; omega
      · by_cases h2 : x < 0
        · have HC : Hid (clampN x = 0) := clampN_lo h2
          go_wp2_with fail
          refine (addGroups_own _ (n + (putNums (ns.take j)).length) w.heap.size (zs ++ putNums (ns.take j)) _ wr (by omega) (by omega) (by omega) hbk.size hownk).mono ?_
          rintro e w3 ⟨v3, rfl, hown3, hb3⟩
          have hb4 := hbk.trans hb3
          have hown4 := step_put hown3 HC.out HT.out
          clear hown3 hownk hbk hb3
          go_wp2_with fail
          go_roundw
          case rel => exact ⟨j + 1, by omega, by go_num, hown4, hb4⟩
          case measure => simp [intOf]; omega
        · have HC : Hid (clampN x = x) := clampN_in (by omega) (by omega)
          go_wp2_with fail
          refine (addGroups_own _ (n + (putNums (ns.take j)).length) w.heap.size (zs ++ putNums (ns.take j)) _ wr (by omega) (by omega) (by omega) hbk.size hownk).mono ?_
          rintro e w3 ⟨v3, rfl, hown3, hb3⟩
          have hb4 := hbk.trans hb3
          have hown4 := step_put hown3 HC.out HT.out
          clear hown3 hownk hbk hb3
          go_wp2_with fail
          go_roundw
          case rel => exact ⟨j + 1, by omega, by go_num, hown4, hb4⟩
          case measure => simp [intOf]; omega
    · have HT : ns.take j = ns := List.take_of_length_le (by rw [HY.out]; omega)
      rw [HT] at hownk
      go_wp2_with fail
      go_ret
      exact ⟨_, rfl, hownk, hbk⟩


/-- A string's bytes, as numbers. -/
def strInts (s : ByteArray) : List Int := s.data.toList.map fun b => (b.toNat : Int)

theorem strInts_length (s : ByteArray) : (strInts s).length = s.size := by
  unfold strInts
  rw [List.length_map, Array.length_toList]
  rfl

theorem byteCells_eq (s : ByteArray) : byteCells s = (strInts s).map (Value.int .u8) := by
  unfold byteCells strInts
  rw [List.map_map]
  rfl

def putText (zs : List Int) (s : ByteArray) : List Int := zs ++ putNum (clampN s.size) ++ strInts s

theorem putText_own {w : World} {base e : Nat} {v : Value} {zs : List Int} {s : ByteArray} (h : w.ownsRow base e 1 v (zs.length + (putNum (clampN s.size)).length + s.size) (zs.map (Value.int .u8) ++ ((putNum (clampN s.size)).map (Value.int .u8) ++ byteCells s))) :
    w.ownsRow base e 1 v (putText zs s).length ((putText zs s).map (Value.int .u8)) := by
  refine own_congr h ?_ ?_
  · simp only [putText, List.length_append, strInts_length]
  · rw [byteCells_eq]; simp [putText]

set_option maxHeartbeats 400000 in
theorem implPutText_R (a : Option Addr) (n cap : Nat) (zs : List Int) (s : ByteArray) (w : World) (hx : zs.length = n) (hlen : n ≤ 35184372088832) (hr : Rd .u8 w.heap.size w a zs) (hs : s.size ≤ 35184372088832) :
    Calls Tryd.prog 37 #[.slice a n cap, .string s] w fun e w' => ∃ v, e = .returned v ∧
      w'.ownsRow w.heap.size 5 1 v (putText zs s).length ((putText zs s).map (Value.int .u8)) ∧ Below w.heap.size w w' := by
  obtain ⟨i0, hi, hz0, hz1, hz2⟩ := info_parts Tryd.info5
  have HX : Hid (zs.length = n) := hx
  clear hx
  have hpl := putNum_length (clampN s.size)
  go_enter Tryd.func37, Tryd.ntmps37
  go_wp2_with fail
  have hb0 : Below w.heap.size w (w.alloc (.cells #[.int .i64 s.size] 3)) := (Below.refl _ _).alloc (Nat.le_refl _) _
  refine (putNums_any a _ n cap 1 1 zs [(s.size : Int)] _ HX.out rfl hlen (by omega) ((hr.below hb0).mono (by simp)) (by simpa using rd_one .i64 w s.size 3)).mono ?_
  rintro e w1 ⟨v1, rfl, hown0, hb1'⟩
  have hown1 : w1.ownsRow w.heap.size 5 1 v1 (zs ++ putNum (clampN s.size)).length ((zs ++ putNum (clampN s.size)).map (Value.int .u8)) :=
    own_base (own_congr hown0 (by rw [List.length_append, HX.out]; simp [putNums]) (by simp [putNums])) (by simp)
  have hb1 := hb0.trans (hb1'.mono (by simp))
  have hl : (zs ++ putNum (clampN s.size)).length ≤ n + 5 := by rw [List.length_append, HX.out]; omega
  clear hown0 hb1' hb0
  go_wp2_with (at_builtin; refine wpList_append_src _ rfl _ _ 22 9 rfl w.heap.size 5 i0 (.int .u8 0) 1 1 Tryd.underlying22 hi hz0 hz1 hz2 rfl _ _ _ rfl hown1 s.size (byteCells s) (Src.ofString w1 Tryd.underlying9 s) (by unfold maxLen; omega) (by omega) hb1.size ?_)
  intro v2 w2 hown2 hgr2
  have hown3 := putText_own hown2
  have hb2 := hb1.grown hgr2 hb1.size (fun k h => (hown1.lt k h).1)
  clear hown2 hown1 hgr2 hb1
  go_wp2
  go_ret
  exact ⟨v2, rfl, hown3, hb2⟩


/-- The four bytes of a sum. -/
def four (x : Int) : List Int := [x / 16777216, x / 65536 % 256, x / 256 % 256, x % 256]

theorem four_length (x : Int) : (four x).length = 4 := rfl

theorem four_ok {x : Int} (h0 : 0 ≤ x) (h1 : x < 4294967296) : BytesOk (four x) := by
  intro z hz
  simp only [four, List.mem_cons, List.not_mem_nil, or_false] at hz
  omega

def frame (zs : List Int) : List Int := four (crc zs) ++ putNum (clampN zs.length) ++ zs

theorem frame_own {w : World} {base e n : Nat} {v : Value} {zs : List Int} (hn : zs.length = n) {m : Nat} {l : List Value} (h : w.ownsRow base e 1 v m l)
    (hm : m = (four (crc zs) ++ putNum (clampN n)).length + n) (hl : l = (four (crc zs) ++ putNum (clampN n)).map (Value.int .u8) ++ zs.map (Value.int .u8)) :
    w.ownsRow base e 1 v (frame zs).length ((frame zs).map (Value.int .u8)) := by
  refine own_congr h ?_ ?_
  · rw [hm]; simp only [frame, List.length_append, hn]
  · rw [hl]; simp [frame, hn]


set_option maxHeartbeats 400000 in
theorem implFour_any (x : Int) (w : World) (h0 : 0 ≤ x) (h1 : x < 4294967296) :
    Calls Tryd.prog 22 #[.int .i64 x] w fun e w' => e = .returned (.slice (some ⟨w.heap.size, 0, none⟩) 4 4) ∧
      w'.ownsRow w.heap.size 5 1 (.slice (some ⟨w.heap.size, 0, none⟩) 4 4) 4 ((four x).map (Value.int .u8)) ∧ Below w.heap.size w w' := by
  go_enter Tryd.func22, Tryd.ntmps22
  go_wp2
  go_ret
  exact ⟨rfl, World.ownsRow_lit w _ 4 (Nat.le_refl _) (by decide) rfl, (Below.refl _ _).alloc (Nat.le_refl _) _⟩

set_option maxHeartbeats 400000 in
theorem implFrame_R (a : Option Addr) (n cap : Nat) (zs : List Int) (w : World) (hx : zs.length = n) (hlen : n ≤ 35184372088832) (hr : Rd .u8 w.heap.size w a zs) (hb : BytesOk zs) (ht : TabAt w) :
    Calls Tryd.prog 18 #[.slice a n cap] w fun e w' => ∃ v, e = .returned v ∧
      w'.ownsRow w.heap.size 5 1 v (frame zs).length ((frame zs).map (Value.int .u8)) ∧ Below w.heap.size w w' := by
  obtain ⟨i0, hi, hz0, hz1, hz2⟩ := info_parts Tryd.info5
  have HX : Hid (zs.length = n) := hx
  clear hx
  have hpl := putNum_length (clampN n)
  have hcb := crc_bd hb
  go_enter Tryd.func18, Tryd.ntmps18
  go_wp2_with fail
  refine (implSum_any a n cap zs _ _ HX.out (by omega) hb (by exact hr) ht).mono ?_
  rintro e w0 ⟨rfl, rfl⟩
  go_wp2_with fail
  refine (implFour_any (crc zs) _ hcb.1 hcb.2).mono ?_
  rintro e w1 ⟨rfl, hown1, hb1⟩
  go_wp2_with fail
  have hb1' : Below w1.heap.size w1 (w1.alloc (.cells #[.int .i64 n] 3)) := (Below.refl _ _).alloc (Nat.le_refl _) _
  refine (putNums_any _ _ 4 4 1 1 (four (crc zs)) [(n : Int)] _ rfl rfl (by omega) (by omega) (((Rd.own rfl hown1).below hb1').mono (by simp)) (by simpa using rd_one .i64 w1 n 3)).mono ?_
  rintro e w2 ⟨v2, rfl, hown2, hb2⟩
  have hown2' : w2.ownsRow w0.heap.size 5 1 v2 (four (crc zs) ++ putNum (clampN n)).length ((four (crc zs) ++ putNum (clampN n)).map (Value.int .u8)) :=
    own_base (own_congr hown2 (by simp [putNums, four_length]) (by simp [putNums])) (by simpa using Nat.le_trans hb1.size (Nat.le_succ _))
  have hB2 := hb1.trans ((hb1'.trans (hb2.mono (by simp))).mono hb1.size)
  have hr2 := hr.below hB2
  have hl : (four (crc zs) ++ putNum (clampN n)).length ≤ 9 := by rw [List.length_append, four_length]; omega
  clear hown1 hown2 hb1 hb2 hb1'
  go_wp2_with (at_builtin; refine wpList_append_src _ rfl _ _ 22 22 rfl w0.heap.size 5 i0 (.int .u8 0) 1 1 Tryd.underlying22 hi hz0 hz1 hz2 rfl _ _ _ rfl hown2' n (zs.map (Value.int .u8)) (Src.rd Tryd.underlying22 HX.out hr2) (by unfold maxLen; omega) (by omega) hB2.size ?_)
  intro v3 w3 hown3 hgr3
  have hown4 := frame_own HX.out hown3 (by simp) (by simp)
  have hb3 := hB2.grown hgr3 hB2.size (fun k h => (hown2'.lt k h).1)
  clear hown3 hown2' hgr3 hB2
  go_wp2
  go_ret
  exact ⟨v3, rfl, hown4, hb3⟩



/-- How cells stand for something of type α, in memory below block B. -/
abbrev Rep (α : Type) := Nat → World → List Value → α → Prop
/-- The same, owned: all blocks that it leads to are listed. -/
abbrev ORep (α : Type) := World → List Value → α → List Nat → Prop

structure Rep.Good {α : Type} (R : Rep α) : Prop where
  below : ∀ {B w w' cs m}, R B w cs m → Below B w w' → R B w' cs m
  mono : ∀ {B B' w cs m}, R B w cs m → B ≤ B' → R B' w cs m

structure ORep.Good {α : Type} (O : ORep α) (R : Rep α) (size : Nat) : Prop where
  frame : ∀ {w w' cs m F}, O w cs m F → (∀ k, k ∈ F → w'.heap[k]? = w.heap[k]?) → O w' cs m F
  lt : ∀ {w cs m F}, O w cs m F → ∀ k, k ∈ F → k < w.heap.size
  read : ∀ {w cs m F}, O w cs m F → R w.heap.size w cs m
  len : ∀ {w cs m F}, O w cs m F → cs.length = size

/-- Elements of 'size' cells each behind an address. -/
def RdS {α : Type} (size : Nat) (R : Rep α) (B : Nat) (w : World) (a : Option Addr) (l : List α) : Prop :=
  ∀ j, (h : j < l.length) → ∃ b off, a = some ⟨b, off, none⟩ ∧ b < B ∧ ∃ cs : List Value, cs.length = size ∧ (∀ i u, cs[i]? = some u → w.cell? ⟨b, off + j * size + i, none⟩ = some u) ∧ R B w cs l[j]

theorem RdS.below {α : Type} {size : Nat} {R : Rep α} (hR : R.Good) {B : Nat} {w w' : World} {a : Option Addr} {l : List α} (h : RdS size R B w a l) (hb : Below B w w') : RdS size R B w' a l := by
  intro j hj
  obtain ⟨b, off, e, hB, cs, h1, h2, h3⟩ := h j hj
  exact ⟨b, off, e, hB, cs, h1, fun i u hu => (hb.cell (p := ⟨b, off + j * size + i, none⟩) hB).trans (h2 i u hu), hR.below h3 hb⟩

theorem RdS.mono {α : Type} {size : Nat} {R : Rep α} (hR : R.Good) {B B' : Nat} {w : World} {a : Option Addr} {l : List α} (h : RdS size R B w a l) (hB : B ≤ B') : RdS size R B' w a l := by
  intro j hj
  obtain ⟨b, off, e, hb, cs, h1, h2, h3⟩ := h j hj
  exact ⟨b, off, e, by omega, cs, h1, h2, hR.mono h3 hB⟩

theorem own_of_block {w w' : World} {base e size n : Nat} {v : Value} {xs : List Value} (h : w.ownsRow base e size v n xs) (hb : ∀ k, v.ownBlock = some k → w'.heap[k]? = w.heap[k]?) : w'.ownsRow base e size v n xs := by
  refine ⟨h.1, ?_⟩
  rcases h.2 with h' | ⟨g, cap, cur, rfl, hg, hh, rest⟩
  · exact .inl h'
  · exact .inr ⟨g, cap, cur, rfl, hg, by rw [hb g rfl]; exact hh, rest⟩

/-- A slice of bytes of one's own. -/
def ownB (e : TypeId) (w : World) (v : Value) (zs : List Int) (F : List Nat) : Prop :=
  w.ownsRow 0 e 1 v zs.length (zs.map (Value.int .u8)) ∧ BytesOk zs ∧ F = v.ownBlock.toList

theorem ownB.frame {e : TypeId} {w w' : World} {v : Value} {zs : List Int} {F : List Nat} (h : ownB e w v zs F) (hb : ∀ k, k ∈ F → w'.heap[k]? = w.heap[k]?) : ownB e w' v zs F := by
  obtain ⟨h1, h2, rfl⟩ := h
  exact ⟨own_of_block h1 (fun k hk => hb k (by simp [hk])), h2, rfl⟩

theorem ownB.lt {e : TypeId} {w : World} {v : Value} {zs : List Int} {F : List Nat} (h : ownB e w v zs F) : ∀ k, k ∈ F → k < w.heap.size := by
  obtain ⟨h1, h2, rfl⟩ := h
  intro k hk
  exact (h1.lt k (by simpa using hk)).2

theorem ownB.read {e : TypeId} {w : World} {v : Value} {zs : List Int} {F : List Nat} (h : ownB e w v zs F) :
    ∃ a c, v = .slice a zs.length c ∧ zs.length ≤ c ∧ c ≤ 9223372036854775807 ∧ Rd .u8 w.heap.size w a zs ∧ BytesOk zs := by
  obtain ⟨h1, h2, rfl⟩ := h
  rcases h1.2 with ⟨rfl, h'⟩ | ⟨g, cap, cur, rfl, hb, hg, hnc, hm, _⟩
  · exact ⟨none, 0, by rw [h'], by omega, by omega, fun j hj => by omega, h2⟩
  · exact ⟨_, cap, rfl, hnc, by simpa [maxLen] using hm, Rd.own rfl h1, h2⟩

/-- A slice of structs of one's own: its row, and what each element leads to. -/
def ownS {α : Type} (size : Nat) (e : TypeId) (O : ORep α) (w : World) (v : Value) (l : List α) (F : List Nat) : Prop :=
  (v = .slice none 0 0 ∧ l = [] ∧ F = []) ∨
  ∃ g cap, ∃ cur : Array Value, ∃ Fs : List (List Nat), v = .slice (some ⟨g, 0, none⟩) l.length cap ∧ w.heap[g]? = some (.cells cur e (0, 0)) ∧ l.length ≤ cap ∧ cap ≤ maxLen ∧ cur.size = cap * size ∧ Fs.length = l.length ∧
    (∀ j, (h : j < l.length) → O w ((cur.toList.drop (j * size)).take size) l[j] (Fs.getD j [])) ∧ F = g :: Fs.flatten

theorem mem_flatten_getD {Fs : List (List Nat)} {j k : Nat} (hj : j < Fs.length) (h : k ∈ Fs.getD j []) : k ∈ Fs.flatten := by
  rw [List.getD_eq_getElem?_getD, List.getElem?_eq_getElem hj] at h
  exact List.mem_flatten.2 ⟨_, List.getElem_mem hj, h⟩

theorem of_mem_flatten {Fs : List (List Nat)} {k : Nat} (h : k ∈ Fs.flatten) : ∃ j, j < Fs.length ∧ k ∈ Fs.getD j [] := by
  obtain ⟨l, hl, hk⟩ := List.mem_flatten.1 h
  obtain ⟨j, hj, rfl⟩ := List.mem_iff_getElem.1 hl
  exact ⟨j, hj, by rw [List.getD_eq_getElem?_getD, List.getElem?_eq_getElem hj]; exact hk⟩

theorem ownS.frame {α : Type} {size : Nat} {e : TypeId} {O : ORep α} {R : Rep α} (hO : O.Good R size) {w w' : World} {v : Value} {l : List α} {F : List Nat} (h : ownS size e O w v l F) (hb : ∀ k, k ∈ F → w'.heap[k]? = w.heap[k]?) : ownS size e O w' v l F := by
  rcases h with h | ⟨g, cap, cur, Fs, h1, h2, h3, h4, h5, h6, h7, rfl⟩
  · exact .inl h
  · refine .inr ⟨g, cap, cur, Fs, h1, by rw [hb g (by simp)]; exact h2, h3, h4, h5, h6, fun j hj => hO.frame (h7 j hj) (fun k hk => hb k ?_), rfl⟩
    exact List.mem_cons_of_mem _ (mem_flatten_getD (by omega) hk)

theorem ownS.lt {α : Type} {size : Nat} {e : TypeId} {O : ORep α} {R : Rep α} (hO : O.Good R size) {w : World} {v : Value} {l : List α} {F : List Nat} (h : ownS size e O w v l F) : ∀ k, k ∈ F → k < w.heap.size := by
  rcases h with ⟨_, _, rfl⟩ | ⟨g, cap, cur, Fs, h1, h2, h3, h4, h5, h6, h7, rfl⟩
  · intro k hk; cases hk
  · intro k hk
    rcases List.mem_cons.1 hk with rfl | hk
    · exact (Array.getElem?_eq_some_iff.1 h2).1
    · obtain ⟨j, hj, hkj⟩ := of_mem_flatten hk
      exact hO.lt (h7 j (by omega)) k hkj

theorem ownS.read {α : Type} {size : Nat} {e : TypeId} {O : ORep α} {R : Rep α} (hO : O.Good R size) {w : World} {v : Value} {l : List α} {F : List Nat} (h : ownS size e O w v l F) :
    ∃ a c, v = .slice a l.length c ∧ l.length ≤ c ∧ c ≤ 9223372036854775807 ∧ RdS size R w.heap.size w a l := by
  rcases h with ⟨rfl, rfl, _⟩ | ⟨g, cap, cur, Fs, rfl, h2, h3, h4, h5, h6, h7, rfl⟩
  · exact ⟨none, 0, rfl, by simp, by omega, fun j hj => by simp at hj⟩
  · refine ⟨_, cap, rfl, h3, by simpa [maxLen] using h4, fun j hj => ⟨g, 0, rfl, (Array.getElem?_eq_some_iff.1 h2).1, _, hO.len (h7 j hj), ?_, hO.read (h7 j hj)⟩⟩
    intro i u hu
    rw [Nat.zero_add, cell_of_row w g _ cur e (0, 0) h2]
    rw [List.getElem?_take] at hu
    split at hu
    · rw [List.getElem?_drop] at hu
      simpa using hu
    · cases hu

/-- A row that is being filled, element by element: k of n are there. -/
structure Fill {α : Type} (size : Nat) (e : TypeId) (O : ORep α) (w : World) (g n : Nat) (l : List α) (k : Nat) (Fs : List (List Nat)) : Prop where
  row : ∃ cur : Array Value, w.heap[g]? = some (.cells cur e (0, 0)) ∧ cur.size = n * size ∧ ∀ j, (h : j < l.length) → j < k → O w ((cur.toList.drop (j * size)).take size) l[j] (Fs.getD j [])
  flen : Fs.length = k
  over : ∀ b, b ∈ Fs.flatten → g < b ∧ b < w.heap.size
  nodup : Fs.flatten.Nodup

theorem setCells_row' (g : Nat) (e : TypeId) : ∀ (news : List Value) (o : Nat) (w : World) (cur : Array Value), w.heap[g]? = some (.cells cur e (0, 0)) → o + news.length ≤ cur.size →
    ∃ cur' : Array Value, (w.setCells g o news).heap[g]? = some (.cells cur' e (0, 0)) ∧ cur'.size = cur.size ∧ cur'.toList = cur.toList.take o ++ news ++ cur.toList.drop (o + news.length)
  | [], o, w, cur, hg, _ => ⟨cur, hg, rfl, by simp⟩
  | u :: r, o, w, cur, hg, hfit => by
    have h1 := heap_setCell_same w g o cur e u hg
    obtain ⟨cur', h2, h3, h4⟩ := setCells_row' g e r (o + 1) (w.setCell ⟨g, o, none⟩ u) (cur.setIfInBounds o u) h1 (by simp at hfit ⊢; omega)
    refine ⟨cur', h2, by simpa using h3, ?_⟩
    have ho : o < cur.toList.length := by simp at hfit ⊢; omega
    have e0 : (cur.toList.set o u).take (o + 1) = cur.toList.take o ++ [u] := by
      rw [List.take_set, List.take_succ_eq_append_getElem ho, List.set_append_right _ _ (by simp; omega)]
      have e2 : o - (cur.toList.take o).length = 0 := by simp; omega
      rw [e2]
      simp
    have e3 : (cur.toList.set o u).drop (o + 1 + r.length) = cur.toList.drop (o + (u :: r).length) := by
      rw [List.drop_set_of_lt (by omega)]
      congr 1
      simp; omega
    rw [h4, Array.toList_setIfInBounds, e0, e3]
    simp

theorem heap_setCells_ne (g : Nat) : ∀ (news : List Value) (o : Nat) (w : World) (k : Nat), k ≠ g → (w.setCells g o news).heap[k]? = w.heap[k]?
  | [], _, _, _, _ => rfl
  | u :: r, o, w, k, hk => by
    show ((w.setCell ⟨g, o, none⟩ u).setCells g (o + 1) r).heap[k]? = _
    rw [heap_setCells_ne g r (o + 1) _ k hk]
    exact heap_setCell_other w ⟨g, o, none⟩ k u (fun e => hk e)

theorem size_setCells_w (g : Nat) : ∀ (news : List Value) (o : Nat) (w : World), (w.setCells g o news).heap.size = w.heap.size
  | [], _, _ => rfl
  | u :: r, o, w => by
    show ((w.setCell ⟨g, o, none⟩ u).setCells g (o + 1) r).heap.size = _
    rw [size_setCells_w g r (o + 1) _]
    simp

theorem Fill.step {α : Type} {size : Nat} {e : TypeId} {O : ORep α} {R : Rep α} (hO : O.Good R size) {w w1 : World} {g n k : Nat} {l : List α} {Fs : List (List Nat)} (h : Fill size e O w g n l k Fs) (hg : g < w.heap.size) (hk : k < l.length) (hkn : k < n)
    (hb : Below w.heap.size w w1) {cs : List Value} {F : List Nat} (ho : O w1 cs l[k] F) (hF : ∀ b, b ∈ F → w.heap.size ≤ b) (hN : F.Nodup) :
    Fill size e O (w1.setCells g (k * size) cs) g n l (k + 1) (Fs ++ [F]) := by
  obtain ⟨⟨cur, c1, c2, c3⟩, f1, f2, f3⟩ := h
  have hcl := hO.len ho
  have hfit : k * size + cs.length ≤ cur.size := by
    rw [hcl, c2, ← Nat.succ_mul]
    exact Nat.mul_le_mul_right _ hkn
  have c1' : w1.heap[g]? = some (.cells cur e (0, 0)) := by rw [hb.block g hg]; exact c1
  obtain ⟨cur', d1, d2, d3⟩ := setCells_row' g e cs (k * size) w1 cur c1' hfit
  have hFlt : ∀ b, b ∈ F → b < w1.heap.size := fun b hbF => hO.lt ho b hbF
  refine ⟨⟨cur', d1, by rw [d2, c2], ?_⟩, by simp [f1], ?_, ?_⟩
  · intro j hj hjk
    have hlen : cur.toList.length = n * size := by simpa using c2
    by_cases hjk' : j = k
    · subst hjk'
      have e1 : (cur'.toList.drop (j * size)).take size = cs := by
        rw [d3, List.append_assoc, List.drop_append, List.drop_eq_nil_of_le (by simp; omega), List.nil_append]
        have : j * size - (cur.toList.take (j * size)).length = 0 := by simp; omega
        rw [this, List.drop_zero, List.take_append, List.take_of_length_le (by omega), hcl, Nat.sub_self, List.take_zero, List.append_nil]
      have e2 : (Fs ++ [F]).getD j [] = F := by rw [List.getD_eq_getElem?_getD, List.getElem?_append_right (by omega), f1, Nat.sub_self]; rfl
      rw [e1, e2]
      exact hO.frame ho (fun b hbF => heap_setCells_ne g cs _ w1 b (by have := hF b hbF; omega))
    · have hlt : j < k := by omega
      have hmul : (j + 1) * size ≤ k * size := Nat.mul_le_mul_right _ hlt
      rw [Nat.succ_mul] at hmul
      have e1 : (cur'.toList.drop (j * size)).take size = (cur.toList.drop (j * size)).take size := by
        rw [d3, List.append_assoc]
        apply List.ext_getElem?
        intro i
        rw [List.getElem?_take, List.getElem?_take, List.getElem?_drop, List.getElem?_drop]
        by_cases hi : i < size
        · rw [if_pos hi, if_pos hi, List.getElem?_append_left (by simp; omega), List.getElem?_take, if_pos (by omega)]
        · rw [if_neg hi, if_neg hi]
      have e2 : (Fs ++ [F]).getD j [] = Fs.getD j [] := by rw [List.getD_eq_getElem?_getD, List.getD_eq_getElem?_getD, List.getElem?_append_left (by omega)]
      rw [e1, e2]
      have ho' := hO.frame (c3 j hj hlt) (w' := w1) (fun b hbF => hb.block b (hO.lt (c3 j hj hlt) b hbF))
      exact hO.frame ho' (fun b hbF => heap_setCells_ne g cs _ w1 b (by have := f2 b (mem_flatten_getD (by omega) hbF); omega))
  · intro b hbF
    rw [size_setCells_w]
    rw [List.flatten_append, List.mem_append] at hbF
    rcases hbF with hbF | hbF
    · have := f2 b hbF; have := hb.size; omega
    · have hbF : b ∈ F := by simpa using hbF
      have := hF b hbF; have := hFlt b hbF; omega
  · rw [List.flatten_append]
    refine List.nodup_append.2 ⟨f3, by simpa using hN, ?_⟩
    intro a ha b hb' hab
    subst hab
    have h1 := f2 a ha
    have h2 := hF a (by simpa using hb')
    omega

theorem Fill.done {α : Type} {size : Nat} {e : TypeId} {O : ORep α} {w : World} {g n : Nat} {l : List α} {Fs : List (List Nat)} (h : Fill size e O w g n l n Fs) (hn : l.length = n) (hm : n ≤ maxLen) :
    ownS size e O w (.slice (some ⟨g, 0, none⟩) n n) l (g :: Fs.flatten) ∧ (g :: Fs.flatten).Nodup := by
  obtain ⟨⟨cur, c1, c2, c3⟩, f1, f2, f3⟩ := h
  refine ⟨.inr ⟨g, n, cur, Fs, by rw [hn], c1, by omega, hm, c2, by rw [f1, hn], fun j hj => c3 j hj (by omega), rfl⟩, List.nodup_cons.2 ⟨fun hg => by have := f2 g hg; omega, f3⟩⟩

/-- The cell of a slice of bytes; of a slice of structs. -/
def LeafB (B : Nat) (w : World) (a : Option Addr) (c : Nat) (zs : List Int) : Prop := zs.length ≤ c ∧ c ≤ 9223372036854775807 ∧ Rd .u8 B w a zs ∧ BytesOk zs
def LeafL {α : Type} (size : Nat) (R : Rep α) (B : Nat) (w : World) (a : Option Addr) (c : Nat) (l : List α) : Prop := l.length ≤ c ∧ c ≤ 9223372036854775807 ∧ RdS size R B w a l

theorem LeafB.below {B : Nat} {w w' : World} {a : Option Addr} {c : Nat} {zs : List Int} (h : LeafB B w a c zs) (hb : Below B w w') : LeafB B w' a c zs := ⟨h.1, h.2.1, h.2.2.1.below hb, h.2.2.2⟩
theorem LeafB.mono {B B' : Nat} {w : World} {a : Option Addr} {c : Nat} {zs : List Int} (h : LeafB B w a c zs) (hB : B ≤ B') : LeafB B' w a c zs := ⟨h.1, h.2.1, h.2.2.1.mono hB, h.2.2.2⟩
theorem LeafL.below {α : Type} {size : Nat} {R : Rep α} (hR : R.Good) {B : Nat} {w w' : World} {a : Option Addr} {c : Nat} {l : List α} (h : LeafL size R B w a c l) (hb : Below B w w') : LeafL size R B w' a c l := ⟨h.1, h.2.1, h.2.2.below hR hb⟩
theorem LeafL.mono {α : Type} {size : Nat} {R : Rep α} (hR : R.Good) {B B' : Nat} {w : World} {a : Option Addr} {c : Nat} {l : List α} (h : LeafL size R B w a c l) (hB : B ≤ B') : LeafL size R B' w a c l := ⟨h.1, h.2.1, h.2.2.mono hR hB⟩
/-- The sum of what elements weigh. -/
def sumW {α : Type} (f : α → Nat) : List α → Nat
  | [] => 0
  | m :: r => f m + sumW f r
theorem sumW_take_succ {α : Type} {f : α → Nat} {l : List α} {k : Nat} (h : k < l.length) : sumW f (l.take (k + 1)) = sumW f (l.take k) + f l[k] := by
  induction l generalizing k with
  | nil => simp at h
  | cons m r ih =>
    cases k with
    | zero => simp [sumW]
    | succ k => simp only [List.take_succ_cons, sumW, List.getElem_cons_succ]; rw [ih (by simpa using h)]; omega
theorem sumW_take_le {α : Type} (f : α → Nat) (l : List α) (k : Nat) : sumW f (l.take k) ≤ sumW f l := by
  induction l generalizing k with
  | nil => simp [sumW]
  | cons m r ih =>
    cases k with
    | zero => simp [sumW]
    | succ k => simp only [List.take_succ_cons, sumW]; have := ih k; omega
theorem sumW_le {α : Type} {f : α → Nat} {l : List α} {k : Nat} (h : k < l.length) : f l[k] ≤ sumW f l := by
  have h1 := sumW_take_succ (f := f) h
  have h2 := sumW_take_le f l (k + 1)
  omega

/-- From block X on nothing that was there has turned. -/
structure Above (X : Nat) (w w' : World) : Prop where
  size : w.heap.size ≤ w'.heap.size
  block : ∀ b, X ≤ b → b < w.heap.size → w'.heap[b]? = w.heap[b]?

theorem Above.refl (X : Nat) (w : World) : Above X w w := ⟨Nat.le_refl _, fun _ _ _ => rfl⟩
theorem Above.trans {X : Nat} {a b c : World} (h : Above X a b) (k : Above X b c) : Above X a c := ⟨Nat.le_trans h.size k.size, fun i hX hi => (k.block i hX (Nat.lt_of_lt_of_le hi h.size)).trans (h.block i hX hi)⟩
theorem Above.setCell {X : Nat} {a w : World} (h : Above X a w) {p : Addr} (hp : p.block < X) (u : Value) : Above X a (w.setCell p u) :=
  h.trans ⟨by simp, fun k hX _ => Below.heap_setCell _ _ _ _ (by omega)⟩
theorem Above.below {X : Nat} {w w' : World} (h : Below w.heap.size w w') : Above X w w' := ⟨h.size, fun b _ hb => h.block b hb⟩

/-- A row of zeros, nothing filled yet. -/
theorem Fill.start {α : Type} {size : Nat} {e : TypeId} {O : ORep α} {w : World} {g n base : Nat} {l : List α} {xs : List Value} (h : w.ownsRow base e size (.slice (some ⟨g, 0, none⟩) n n) n xs) : Fill size e O w g n l 0 [] := by
  rcases h.2 with ⟨h', _⟩ | ⟨g', cap, cur, h', hb, hg, hnc, hm, hs, _⟩
  · simp at h'
  · simp only [Value.slice.injEq, Option.some.injEq, Addr.mk.injEq, and_true, true_and] at h'
    obtain ⟨rfl, rfl⟩ := h'
    exact ⟨⟨cur, hg, hs, fun j _ hj => by omega⟩, rfl, fun b hb => by simp at hb, by simp⟩

theorem Fill.keep {α : Type} {size : Nat} {e : TypeId} {O : ORep α} {R : Rep α} (hO : O.Good R size) {w w1 : World} {g n k : Nat} {l : List α} {Fs : List (List Nat)} (h : Fill size e O w g n l k Fs) (hg : g < w.heap.size) (hb : Below w.heap.size w w1) : Fill size e O w1 g n l k Fs := by
  obtain ⟨⟨cur, c1, c2, c3⟩, f1, f2, f3⟩ := h
  exact ⟨⟨cur, by rw [hb.block g hg]; exact c1, c2, fun j hj hjk => hO.frame (c3 j hj hjk) (fun b hbF => hb.block b (hO.lt (c3 j hj hjk) b hbF))⟩, f1, fun b hbF => ⟨(f2 b hbF).1, Nat.lt_of_lt_of_le (f2 b hbF).2 hb.size⟩, f3⟩

theorem Fill.cells {α : Type} {size : Nat} {e : TypeId} {O : ORep α} {w : World} {g n k : Nat} {l : List α} {Fs : List (List Nat)} (h : Fill size e O w g n l k Fs) (hk : k < n) (i : Nat) (hi : i < size) : ∃ u, w.cell? ⟨g, k * size + i, none⟩ = some u := by
  obtain ⟨⟨cur, c1, c2, _⟩, _, _, _⟩ := h
  have hm : (k + 1) * size ≤ n * size := Nat.mul_le_mul_right _ hk
  rw [Nat.succ_mul] at hm
  exact ⟨_, by rw [cell_of_row w g _ cur e (0, 0) c1]; exact Array.getElem?_eq_getElem (by omega)⟩

theorem Fill.free {α : Type} {size : Nat} {e : TypeId} {O : ORep α} {w : World} {g n k : Nat} {l : List α} {Fs : List (List Nat)} (h : Fill size e O w g n l k Fs) (j : Nat) : w.frozen? ⟨g, j, none⟩ = false := by
  obtain ⟨⟨cur, c1, _, _⟩, _, _, _⟩ := h
  exact frozen_of_row w g j cur e c1


structure MPair where
  fKey : ByteArray
  fVal : ByteArray
  fGone : Bool

def rPair : Rep MPair := fun B w cs m => cs = [.string m.fKey, .string m.fVal, .bool m.fGone] ∧ m.fKey.size ≤ 9223372036854775807 ∧ m.fVal.size ≤ 9223372036854775807 ∧ True ∧ True

theorem rPair_good : rPair.Good :=
  ⟨fun ⟨h, h0, h1, h2, _⟩ hb => ⟨h, h0, h1, h2, trivial⟩, fun ⟨h, h0, h1, h2, _⟩ hB => ⟨h, h0, h1, h2, trivial⟩⟩

def oPair : ORep MPair := fun w cs m F => cs = [.string m.fKey, .string m.fVal, .bool m.fGone] ∧ m.fKey.size ≤ 9223372036854775807 ∧ m.fVal.size ≤ 9223372036854775807 ∧ True ∧ F = []

theorem oPair_good : oPair.Good rPair 3 := by
  refine ⟨?_, ?_, ?_, ?_⟩
  · rintro w w' cs m F ⟨rfl, h0, h1, h2, rfl⟩ hb
    exact ⟨rfl, h0, h1, h2, rfl⟩
  · rintro w cs m F ⟨rfl, h0, h1, h2, rfl⟩ k hk
    cases hk
  · rintro w cs m F ⟨rfl, h0, h1, h2, rfl⟩
    exact ⟨rfl, h0, h1, h2, trivial⟩
  · rintro w cs m F ⟨rfl, h0, h1, h2, rfl⟩
    rfl

def wPair (m : MPair) : Nat := m.fKey.size + m.fVal.size


/-- Blocks of F alone have turned; new ones may have come. -/
structure Turn (F : List Nat) (w w' : World) : Prop where
  os : w'.os = w.os
  tape : w'.tape = w.tape
  output : w'.output = w.output
  size : w.heap.size ≤ w'.heap.size
  block : ∀ b, b < w.heap.size → b ∉ F → w'.heap[b]? = w.heap[b]?

theorem Turn.refl (F : List Nat) (w : World) : Turn F w w := ⟨rfl, rfl, rfl, Nat.le_refl _, fun _ _ _ => rfl⟩
theorem Turn.trans {F : List Nat} {a b c : World} (h : Turn F a b) (k : Turn F b c) : Turn F a c :=
  ⟨k.os.trans h.os, k.tape.trans h.tape, k.output.trans h.output, Nat.le_trans h.size k.size, fun i hi hF => (k.block i (Nat.lt_of_lt_of_le hi h.size) hF).trans (h.block i hi hF)⟩
theorem Turn.mono {F G : List Nat} {a b : World} (h : Turn F a b) (hF : ∀ k, k ∈ F → k ∈ G) : Turn G a b :=
  ⟨h.os, h.tape, h.output, h.size, fun i hi hG => h.block i hi (fun hk => hG (hF i hk))⟩
theorem Turn.ofBelow {F : List Nat} {a b : World} (h : Below a.heap.size a b) : Turn F a b := ⟨h.os, h.tape, h.output, h.size, fun i hi _ => h.block i hi⟩
theorem Turn.below {F : List Nat} {B : Nat} {a b : World} (h : Turn F a b) (hF : ∀ k, k ∈ F → B ≤ k) (hB : B ≤ a.heap.size) : Below B a b :=
  ⟨h.os, h.tape, h.output, h.size, fun i hi => h.block i (Nat.lt_of_lt_of_le hi hB) (fun hk => by have := hF i hk; omega)⟩
theorem Turn.setCell {F : List Nat} {a b : World} (h : Turn F a b) {p : Addr} (hp : p.block ∈ F) (u : Value) : Turn F a (b.setCell p u) := by
  refine h.trans ⟨?_, ?_, ?_, by simp, fun i hi hF => heap_setCell_other b p i u (fun e => hF (e ▸ hp))⟩
  all_goals
    have hb := (Below.refl 0 b).setCell (p := p) (Nat.zero_le _) u
  · exact hb.os
  · exact hb.tape
  · exact hb.output
theorem Turn.ofGrown {F : List Nat} {a b : World} {r : Option Nat} (h : a.grownBy b r) (hr : ∀ k, r = some k → k ∈ F) : Turn F a b :=
  ⟨h.os, h.tape, h.output, h.size, fun i hi hF => h.block i hi (fun e => hF (hr i e.symm))⟩

theorem Turn.cell {F : List Nat} {w w' : World} (h : Turn F w w') {p : Addr} (hp : p.block < w.heap.size) (hF : p.block ∉ F) : w'.cell? p = w.cell? p := World.cell?_of_block (w := w) (h.block p.block hp hF)

theorem below_same {w w' : World} (h : w' = w) : Below w.heap.size w w' := by subst h; exact Below.refl _ _
theorem bthen {w w1 w2 : World} (h : Below w.heap.size w w1) (hx : Below w1.heap.size w1 w2) : Below w.heap.size w w2 := h.trans (hx.mono h.size)
theorem Turn.after {F : List Nat} {w w1 w2 : World} (h : Below w.heap.size w w1) (hx : Turn F w1 w2) : Turn F w w2 := (Turn.ofBelow h).trans hx
theorem Turn.under {F : List Nat} {w w1 w2 : World} (h : Below w.heap.size w w1) (hx : Turn F w1 w2) (hF : ∀ k, k ∈ F → w.heap.size ≤ k) : Below w.heap.size w w2 := h.trans (hx.below hF h.size)

theorem turnOwn {a b : World} {r : Option Nat} (h : a.grownBy b r) : Turn r.toList a b := Turn.ofGrown h (fun k hk => by simp [hk])

/-- A variable's block, cell by cell. -/
def Bx (w : World) (b : Nat) (vs : List Value) : Prop := b < w.heap.size ∧ ∀ i u, vs[i]? = some u → w.cell? ⟨b, i, none⟩ = some u

theorem Bx.new (w : World) (vs : List Value) (t : TypeId) : Bx (w.alloc (.cells vs.toArray t)) w.heap.size vs := by
  refine ⟨by simp, fun i u hu => ?_⟩
  rw [cell_of_row (w.alloc (.cells vs.toArray t)) w.heap.size i vs.toArray t (0, 0) (by show (w.heap.push _)[w.heap.size]? = _; rw [Array.getElem?_push_size])]
  simpa using hu
theorem Bx.alloc {w : World} {b : Nat} {vs : List Value} (h : Bx w b vs) (o : Obj) : Bx (w.alloc o) b vs :=
  ⟨by have := h.1; simp; omega, fun i u hu => by
    have hb := (Below.refl w.heap.size w).alloc (Nat.le_refl _) o
    exact (hb.cell (p := ⟨b, i, none⟩) h.1).trans (h.2 i u hu)⟩
theorem Bx.drewN {w : World} {b : Nat} {vs : List Value} (h : Bx w b vs) (d : Nat) : Bx (w.drewN d) b vs := h
theorem Bx.drew {w : World} {b : Nat} {vs : List Value} (h : Bx w b vs) : Bx w.drew b vs := h
theorem Bx.below {B : Nat} {w w' : World} {b : Nat} {vs : List Value} (h : Bx w b vs) (hb : Below B w w') (hB : b < B) : Bx w' b vs :=
  ⟨Nat.lt_of_lt_of_le h.1 hb.size, fun i u hu => (hb.cell (p := ⟨b, i, none⟩) hB).trans (h.2 i u hu)⟩
theorem Bx.under {w w' : World} {b : Nat} {vs : List Value} (h : Bx w b vs) (hb : Below w.heap.size w w') : Bx w' b vs := h.below hb h.1
theorem Bx.turn {F : List Nat} {w w' : World} {b : Nat} {vs : List Value} (h : Bx w b vs) (ht : Turn F w w') (hF : b ∉ F) : Bx w' b vs :=
  ⟨Nat.lt_of_lt_of_le h.1 ht.size, fun i u hu => (ht.cell (p := ⟨b, i, none⟩) h.1 hF).trans (h.2 i u hu)⟩

/-- The cells of element j. -/
def seg (size : Nat) (cur : Array Value) (j : Nat) : List Value := (cur.toList.drop (j * size)).take size

theorem seg_get {size : Nat} {cur : Array Value} {j i : Nat} (hi : i < size) : (seg size cur j)[i]? = cur[j * size + i]? := by
  unfold seg
  rw [List.getElem?_take, if_pos hi, List.getElem?_drop]
  simp

theorem seg_set {size : Nat} {cur : Array Value} {k i : Nat} (hi : i < size) (u : Value) : seg size (cur.setIfInBounds (k * size + i) u) k = (seg size cur k).set i u := by
  unfold seg
  rw [Array.toList_setIfInBounds]
  apply List.ext_getElem?
  intro j
  simp only [List.getElem?_take, List.getElem?_drop, List.getElem?_set, List.length_take, List.length_drop]
  by_cases hj : j < size
  · by_cases hij : i = j
    · subst hij
      by_cases hb : k * size + i < cur.toList.length
      · have hb' : i < min size (cur.toList.length - k * size) := by omega
        rw [if_pos hj, if_pos rfl, if_pos rfl, if_pos hb, if_pos hb']
      · have hb' : ¬ i < min size (cur.toList.length - k * size) := by omega
        rw [if_pos hj, if_pos rfl, if_pos rfl, if_neg hb, if_neg hb']
    · rw [if_pos hj, if_neg (by omega), if_neg hij, if_pos hj]
  · rw [if_neg hj, if_neg hj]
    split
    · split
      · omega
      · rfl
    · rfl

theorem seg_set_other {size : Nat} {cur : Array Value} {k i j : Nat} (hi : i < size) (hjk : j ≠ k) (u : Value) : seg size (cur.setIfInBounds (k * size + i) u) j = seg size cur j := by
  unfold seg
  rw [Array.toList_setIfInBounds]
  apply List.ext_getElem?
  intro x
  simp only [List.getElem?_take, List.getElem?_drop, List.getElem?_set]
  by_cases hx : x < size
  · rw [if_pos hx, if_pos hx, if_neg]
    intro h
    rcases Nat.lt_or_gt_of_ne hjk with h1 | h1
    · have := Nat.mul_le_mul_right size h1
      rw [Nat.succ_mul] at this
      omega
    · have := Nat.mul_le_mul_right size h1
      rw [Nat.succ_mul] at this
      omega
  · rw [if_neg hx, if_neg hx]

/-- A row of structs of one's own, laid open. -/
structure OwnRow {α : Type} (size : Nat) (e : TypeId) (O : ORep α) (w : World) (g cap : Nat) (l : List α) (cur : Array Value) (Fs : List (List Nat)) : Prop where
  heap : w.heap[g]? = some (.cells cur e (0, 0))
  le : l.length ≤ cap
  max : cap ≤ maxLen
  fit : cur.size = cap * size
  flen : Fs.length = l.length
  each : ∀ j, (h : j < l.length) → O w (seg size cur j) l[j] (Fs.getD j [])
  nodup : (g :: Fs.flatten).Nodup

theorem ownS.open {α : Type} {size : Nat} {e : TypeId} {O : ORep α} {w : World} {v : Value} {l : List α} {F : List Nat} (h : ownS size e O w v l F) (hN : F.Nodup) :
    (v = .slice none 0 0 ∧ l = [] ∧ F = []) ∨ ∃ g cap cur Fs, v = .slice (some ⟨g, 0, none⟩) l.length cap ∧ OwnRow size e O w g cap l cur Fs ∧ F = g :: Fs.flatten := by
  rcases h with h | ⟨g, cap, cur, Fs, h1, h2, h3, h4, h5, h6, h7, rfl⟩
  · exact .inl h
  · exact .inr ⟨g, cap, cur, Fs, h1, ⟨h2, h3, h4, h5, h6, h7, hN⟩, rfl⟩

theorem OwnRow.lt {α : Type} {size : Nat} {e : TypeId} {O : ORep α} {w : World} {g cap : Nat} {l : List α} {cur : Array Value} {Fs : List (List Nat)} (h : OwnRow size e O w g cap l cur Fs) : g < w.heap.size := (Array.getElem?_eq_some_iff.1 h.heap).1

/-- Element k is being edited: the world's row is as it was but for that element, which reads as cs. -/
structure Edit (size : Nat) (e : TypeId) (g k : Nat) (F : List Nat) (cur : Array Value) (w w' : World) (cs : List Value) : Prop where
  row : ∃ cur' : Array Value, w'.heap[g]? = some (.cells cur' e (0, 0)) ∧ cur'.size = cur.size ∧ (∀ j, j ≠ k → seg size cur' j = seg size cur j) ∧ seg size cur' k = cs
  turn : Turn (g :: F) w w'

theorem Edit.start {α : Type} {size : Nat} {e : TypeId} {O : ORep α} {w : World} {g cap : Nat} {l : List α} {cur : Array Value} {Fs : List (List Nat)} (h : OwnRow size e O w g cap l cur Fs) (k : Nat) (F : List Nat) : Edit size e g k F cur w w (seg size cur k) :=
  ⟨⟨cur, h.heap, rfl, fun _ _ => rfl, rfl⟩, Turn.refl _ _⟩

theorem Edit.set {size : Nat} {e : TypeId} {g k : Nat} {F : List Nat} {cur : Array Value} {w w' : World} {cs : List Value} (h : Edit size e g k F cur w w' cs) {i : Nat} (hi : i < size) (u : Value) :
    Edit size e g k F cur w (w'.setCell ⟨g, k * size + i, none⟩ u) (cs.set i u) := by
  obtain ⟨⟨cur', c1, c2, c3, c4⟩, ht⟩ := h
  refine ⟨⟨_, heap_setCell_same w' g _ cur' e u c1, by simpa using c2, fun j hj => ?_, ?_⟩, ht.setCell (by simp) u⟩
  · rw [seg_set_other hi hj]; exact c3 j hj
  · rw [seg_set hi, c4]

theorem Edit.keep {size : Nat} {e : TypeId} {g k : Nat} {F : List Nat} {cur : Array Value} {w w1 w2 : World} {cs : List Value} (h : Edit size e g k F cur w w1 cs) (ht : Turn F w1 w2) (hg : g ∉ F) :
    Edit size e g k F cur w w2 cs := by
  obtain ⟨⟨cur', c1, c2, c3, c4⟩, ht'⟩ := h
  exact ⟨⟨cur', by rw [ht.block g (Array.getElem?_eq_some_iff.1 c1).1 hg]; exact c1, c2, c3, c4⟩, ht'.trans (ht.mono (fun k hk => List.mem_cons_of_mem _ hk))⟩

theorem Edit.cellAt {size : Nat} {e : TypeId} {g k : Nat} {F : List Nat} {cur : Array Value} {w w' : World} {cs : List Value} (h : Edit size e g k F cur w w' cs) {i : Nat} (hi : i < size) {u : Value} (hu : cs[i]? = some u) :
    w'.cell? ⟨g, k * size + i, none⟩ = some u := by
  obtain ⟨⟨cur', c1, c2, c3, c4⟩, _⟩ := h
  rw [cell_of_row w' g _ cur' e (0, 0) c1, ← seg_get hi, c4, hu]

theorem Edit.free {size : Nat} {e : TypeId} {g k : Nat} {F : List Nat} {cur : Array Value} {w w' : World} {cs : List Value} (h : Edit size e g k F cur w w' cs) (j : Nat) :
    w'.frozen? ⟨g, j, none⟩ = false := by
  obtain ⟨⟨cur', c1, c2, c3, c4⟩, _⟩ := h
  exact frozen_of_row w' g j cur' e c1


theorem flatten_at {size : Nat} : ∀ {css : List (List Value)}, (∀ c, c ∈ css → c.length = size) → ∀ {j i : Nat}, i < size → css.flatten[j * size + i]? = (css[j]?).bind (fun c => c[i]?)
  | [], _, j, i, _ => by simp
  | c :: r, h, 0, i, hi => by
    have hc := h c (by simp)
    simp only [List.flatten_cons, Nat.zero_mul, Nat.zero_add, List.getElem?_cons_zero, Option.bind_some]
    rw [List.getElem?_append_left (by omega)]
  | c :: r, h, j + 1, i, hi => by
    have hc := h c (by simp)
    have ih := flatten_at (css := r) (fun x hx => h x (by simp [hx])) (j := j) hi
    simp only [List.flatten_cons, List.getElem?_cons_succ]
    rw [List.getElem?_append_right (by rw [Nat.succ_mul]; omega), ← ih]
    congr 1
    rw [Nat.succ_mul]
    omega

/-- A row of one's own whose elements read, below block B, as l. -/
def RowR {α : Type} (size : Nat) (e : TypeId) (R : Rep α) (B : Nat) (w : World) (base : Nat) (v : Value) (l : List α) : Prop :=
  ∃ css : List (List Value), css.length = l.length ∧ (∀ c, c ∈ css → c.length = size) ∧ (∀ j, (h : j < l.length) → (h2 : j < css.length) → R B w css[j] l[j]) ∧ w.ownsRow base e size v l.length css.flatten

theorem RowR.start {α : Type} {size : Nat} {e : TypeId} {R : Rep α} {B : Nat} {w : World} {base : Nat} : RowR size e R B w base (.slice none 0 0) [] :=
  ⟨[], rfl, (fun _ h => by cases h), (fun _ h => by simp at h), by simp, .inl ⟨rfl, rfl⟩⟩

theorem RowR.leaf {α : Type} {size : Nat} {e : TypeId} {R : Rep α} (hR : R.Good) {B : Nat} {w : World} {base : Nat} {v : Value} {l : List α} (h : RowR size e R B w base v l) (hB : B ≤ w.heap.size) :
    ∃ a c, v = .slice a l.length c ∧ LeafL size R w.heap.size w a c l := by
  obtain ⟨css, h1, h2, h3, h4⟩ := h
  rcases h4.2 with ⟨rfl, h0⟩ | ⟨g, cap, cur, rfl, hb, hg, hnc, hm, hs, ht⟩
  · have : l = [] := List.eq_nil_of_length_eq_zero h0
    subst this
    exact ⟨none, 0, rfl, by simp, by omega, fun j hj => by simp at hj⟩
  · refine ⟨_, cap, rfl, hnc, by simpa [maxLen] using hm, fun j hj => ?_⟩
    have hj2 : j < css.length := by omega
    refine ⟨g, 0, rfl, (Array.getElem?_eq_some_iff.1 hg).1, css[j], h2 _ (List.getElem_mem hj2), fun i u hu => ?_, hR.mono (h3 j hj hj2) hB⟩
    have hi : i < size := by
      have := (List.getElem?_eq_some_iff.1 hu).1
      rw [h2 _ (List.getElem_mem hj2)] at this
      exact this
    have hf := flatten_at h2 (j := j) hi
    rw [List.getElem?_eq_getElem hj2, Option.bind_some, hu, ← ht, List.getElem?_take] at hf
    split at hf
    · rw [Nat.zero_add, cell_of_row w g _ cur e (0, 0) hg]
      simpa using hf
    · cases hf

theorem RowR.push {α : Type} {size : Nat} {e : TypeId} {R : Rep α} (hR : R.Good) {B : Nat} {w w' : World} {base : Nat} {v' : Value} {l : List α} {m : α} {cs : List Value} {css : List (List Value)}
    (h1 : css.length = l.length) (h2 : ∀ c, c ∈ css → c.length = size) (h3 : ∀ j, (h : j < l.length) → (h2 : j < css.length) → R B w css[j] l[j]) (hb : Below B w w') (hc : cs.length = size) (hr : R B w' cs m)
    (ho : w'.ownsRow base e size v' (l.length + 1) (css.flatten ++ cs)) : RowR size e R B w' base v' (l ++ [m]) := by
  refine ⟨css ++ [cs], by simp [h1], ?_, ?_, by simpa using ho⟩
  · intro c hcm
    rcases List.mem_append.1 hcm with h | h
    · exact h2 c h
    · simp at h; subst h; exact hc
  · intro j hj hj2
    by_cases hjl : j < l.length
    · rw [List.getElem_append_left (by omega), List.getElem_append_left hjl]
      exact hR.below (h3 j hjl (by omega)) hb
    · have hje : j = l.length := by simp at hj; omega
      subst hje
      rw [List.getElem_append_right (by omega), List.getElem_append_right (Nat.le_refl _)]
      simp [h1, hr]

theorem bx_news {w : World} {b : Nat} {vs : List Value} (h : Bx w b vs) : ∀ j u, vs[j]? = some u → w.cell? ((⟨b, 0, none⟩ : Addr).add j) = some u := by
  intro j u hu
  have h2 := h.2 j u hu
  have e : ((⟨b, 0, none⟩ : Addr).add j) = ⟨b, j, none⟩ := by
    unfold Addr.add
    split
    · next h0 => subst h0; rfl
    · simp
  rw [e]
  exact h2

theorem RowR.lt {α : Type} {size : Nat} {e : TypeId} {R : Rep α} {B : Nat} {w : World} {base : Nat} {v : Value} {l : List α} (h : RowR size e R B w base v l) : ∀ k, v.ownBlock = some k → base ≤ k ∧ k < w.heap.size := by
  obtain ⟨css, h1, h2, h3, h4⟩ := h
  exact fun k hk => h4.lt k hk

theorem RowR.base {α : Type} {size : Nat} {e : TypeId} {R : Rep α} {B : Nat} {w : World} {base base' : Nat} {v : Value} {l : List α} (h : RowR size e R B w base v l) (hb : base' ≤ base) : RowR size e R B w base' v l := by
  obtain ⟨css, h1, h2, h3, h4⟩ := h
  exact ⟨css, h1, h2, h3, own_base h4 hb⟩

theorem RowR.keep {α : Type} {size : Nat} {e : TypeId} {R : Rep α} (hR : R.Good) {B : Nat} {w w' : World} {base : Nat} {v : Value} {l : List α} (h : RowR size e R B w base v l) (hb : Below w.heap.size w w') (hB : B ≤ w.heap.size) : RowR size e R B w' base v l := by
  obtain ⟨css, h1, h2, h3, h4⟩ := h
  exact ⟨css, h1, h2, fun j hj hj2 => hR.below (h3 j hj hj2) (hb.mono hB), own_below h4 hb⟩


theorem flatten_nodup_iff : ∀ {Fs : List (List Nat)}, Fs.flatten.Nodup ↔ (∀ F, F ∈ Fs → F.Nodup) ∧ Fs.Pairwise (fun F G => ∀ x, x ∈ F → x ∉ G)
  | [] => by simp
  | F :: r => by
    rw [List.flatten_cons, List.nodup_append, flatten_nodup_iff, List.pairwise_cons]
    constructor
    · rintro ⟨h1, ⟨h2, h3⟩, h4⟩
      refine ⟨?_, fun G hG x hx hxG => h4 x hx x (List.mem_flatten.2 ⟨G, hG, hxG⟩) rfl, h3⟩
      intro G hG
      rcases List.mem_cons.1 hG with rfl | hG
      · exact h1
      · exact h2 G hG
    · rintro ⟨h1, h2, h3⟩
      refine ⟨h1 F (by simp), ⟨fun G hG => h1 G (by simp [hG]), h3⟩, ?_⟩
      intro x hx y hy hxy
      subst hxy
      obtain ⟨G, hG, hxG⟩ := List.mem_flatten.1 hy
      exact h2 G hG x hx hxG

/-- What one element's cells are. -/
theorem ownS.cells {α : Type} {size : Nat} {e : TypeId} {O : ORep α} {R : Rep α} (hO : O.Good R size) {w : World} {g cap : Nat} {l : List α} {F : List Nat} (h : ownS size e O w (.slice (some ⟨g, 0, none⟩) l.length cap) l F) {k : Nat} (hk : k < l.length) :
    ∃ cs Fk, O w cs l[k] Fk ∧ (∀ b, b ∈ Fk → b ∈ F) ∧ (F.Nodup → Fk.Nodup) ∧ (∀ i u, cs[i]? = some u → w.cell? ⟨g, k * size + i, none⟩ = some u) ∧ ∀ i, w.frozen? ⟨g, i, none⟩ = false := by
  rcases h with ⟨h0, _, _⟩ | ⟨g', cap', cur, Fs, h1, h2, h3, h4, h5, h6, h7, rfl⟩
  · cases h0
  · simp only [Value.slice.injEq, Option.some.injEq, Addr.mk.injEq, and_true, true_and] at h1
    obtain ⟨rfl, rfl⟩ := h1
    have hkF : k < Fs.length := by omega
    have hgk : Fs.getD k [] = Fs[k] := by rw [List.getD_eq_getElem?_getD, List.getElem?_eq_getElem hkF]; rfl
    refine ⟨_, _, h7 k hk, fun b hb => List.mem_cons_of_mem _ (mem_flatten_getD hkF hb), fun hN => ?_, fun i u hu => ?_, fun i => frozen_of_row w g i cur e h2⟩
    · rw [hgk]
      exact (flatten_nodup_iff.1 (List.nodup_cons.1 hN).2).1 _ (List.getElem_mem hkF)
    · rw [cell_of_row w g _ cur e (0, 0) h2]
      rw [List.getElem?_take] at hu
      split at hu
      · rw [List.getElem?_drop] at hu
        simpa using hu
      · cases hu

end Go.Proofs.YtmedljankefhbaaDoor
