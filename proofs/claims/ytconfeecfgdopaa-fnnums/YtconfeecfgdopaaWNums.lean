/-
  The law FnNums: a drawn number, or the nearest that is kept, comes back of its bytes; a text, too; cut they do not.
-/
import Derived.Test.YtconfeecfgdopaaDrawT
import Derived.Test.YtconfeecfgdopaaBackM
import Derived.Test.YtconfeecfgdopaaPutI
import Derived.Test.YtconfeecfgdopaaPutT
import Derived.Test.YtconfeecfgdopaaText
namespace Go.Proofs.Ytconfeecfgdopaa
open Go.RowKit

set_option maxHeartbeats 400000 in
theorem big_any (a : Option Addr) (n cap : Nat) (w : World) :
    Calls Try.prog 8 #[.slice a n cap] w fun e w' => e = .returned (.bool (decide (1048576 < (n : Int)))) ∧ w' = w := by
  go_enter Try.func8, Try.ntmps8
  go_wp2
  go_ret
  exact ⟨rfl, rfl⟩

theorem strInts_of {ts : List Int} (h : BytesOk ts) : strInts (strOfNums ts) = ts := by
  unfold strInts
  rw [strOfNums_data, List.map_map]
  apply List.ext_getElem?
  intro j
  rw [List.getElem?_map]
  by_cases hj : j < ts.length
  · rw [List.getElem?_eq_getElem hj]
    have hb := h _ (List.getElem_mem hj)
    simp only [Option.map_some, Function.comp, Option.some.injEq]
    generalize ts[j] = z at hb
    rw [UInt8.toNat_ofNat']
    omega
  · rw [List.getElem?_eq_none (by omega)]; rfl

theorem strOf_size (ts : List Int) : (strOfNums ts).size = ts.length := strOfNums_size ts

theorem putText_of {bs ts : List Int} (h : BytesOk ts) (hl : ts.length ≤ 9) : putText bs (strOfNums ts) = bs ++ putNum ts.length ++ ts := by
  unfold putText
  rw [strInts_of h, strOf_size, clampN_in (by omega) (by omega)]

theorem take_cut {bs l : List Int} (h : 1 ≤ l.length) : (bs ++ l).take ((bs ++ l).length - 1) = bs ++ l.dropLast := by
  rw [List.dropLast_eq_take, List.take_append]
  congr 1
  · rw [List.take_of_length_le (by simp; omega)]
  · congr 1
    simp; omega

theorem Rd.take {k : IntKind} {B : Nat} {w : World} {a : Option Addr} {zs : List Int} (h : Rd k B w a zs) (m : Nat) : Rd k B w a (zs.take m) := by
  intro j hj
  have hj' : j < m ∧ j < zs.length := by simp at hj; omega
  obtain ⟨b, o, e, hB, hc⟩ := h j hj'.2
  exact ⟨b, o, e, hB, by rw [hc]; congr 2; simp [List.getD_eq_getElem?_getD, hj'.1]⟩

theorem BytesOk.takeB {zs : List Int} (h : BytesOk zs) (k : Nat) : BytesOk (zs.take k) := fun z hz => h z (List.mem_of_mem_take hz)

def capW (n : Int) : Int := if 1000000000 < n then 1000000000 else n
theorem capW_hi {n : Int} (h : 1000000000 < n) : capW n = 1000000000 := by unfold capW; rw [if_pos h]
theorem capW_in {n : Int} (h : n ≤ 1000000000) : capW n = n := by unfold capW; rw [if_neg (by omega)]
theorem clampN_lo_W {n : Int} (h : n < 0) : clampN n = 0 := clampN_lo h
theorem clampN_W {n : Int} (h : ¬ n < 0) : clampN n = capW n := by
  unfold clampN capW
  by_cases h1 : 1000000000 < n
  · rw [if_pos h1, if_pos h1]
  · rw [if_neg h1, if_neg h1, if_neg h]

set_option maxRecDepth 100000 in
set_option maxHeartbeats 1000000 in
theorem law_nums (a : Option Addr) (n cap : Nat) (zs : List Int) (w : World) (hx : zs.length = n) (hn : n ≤ 9223372036854775807) (hr : Rd .u8 w.heap.size w a zs) :
    Calls Try.prog 3 #[.slice a n cap] w fun e w' => e = .returned (.bool true) ∧ Below w.heap.size w w' := by
  have HX : Hid (zs.length = n) := hx
  clear hx
  by_cases hbig : 1048576 < n
  · go_enter Try.func3, Try.ntmps3
    go_wp2_with fail
    refine (big_any a n cap _).mono ?_
    rintro e w' ⟨rfl, rfl⟩
    rw [decide_eq_true (by omega)]
    go_wp2_with fail
    go_ret
    exact ⟨rfl, Below.refl _ _⟩
  · go_enter Try.func3, Try.ntmps3
    go_wp2_with fail
    refine (big_any a n cap _).mono ?_
    rintro e w' ⟨rfl, rfl⟩
    rw [decide_eq_false (by omega)]
    go_wp2_with fail
    refine (drawPutNum_any a n cap zs _ HX.out (by omega) (by exact hr)).mono ?_
    rintro e w1 ⟨v1, q, bs, rfl, hbl, hbo, hown1, hb1⟩
    obtain ⟨a1, c1, rfl, _, hq1⟩ := own_rd rfl hown1
    have hcl := clampN_bd q
    have hpl := putNum_length (clampN q)
    go_wp2_with fail
    refine (implPutNum_R a1 bs.length c1 bs q _ rfl (by omega) (by exact hq1)).mono ?_
    rintro e w2 ⟨v2, rfl, hown2, hb2⟩
    obtain ⟨a2, c2, rfl, hc2, hq2⟩ := own_rd rfl hown2
    have hB2 := hb1.trans (hb2.mono hb1.size)
    have hPok : BytesOk (bs ++ putNum (clampN q)) := hbo.append (putNum_ok _)
    have hPl : (bs ++ putNum (clampN q)).length ≤ 14 := by simp; omega
    have hP1 : bs.length + 1 ≤ (bs ++ putNum (clampN q)).length := by simp; omega
    have HG := Hid.mk (getNum_put hcl.1 hcl.2 bs [])
    rw [List.append_nil] at HG
    have HCut := Hid.mk (getNum_cut hcl.1 hcl.2 bs)
    rw [← take_cut hpl.1] at HCut
    clear hown1 hq1 hb1 hb2 hown2
    generalize bs ++ putNum (clampN q) = P at *
    go_wp2_with fail
    refine (implGetNum_any a2 P.length c2 P _ w2 w2.heap.size rfl (by omega) hPok hq2).mono ?_
    rintro e w2' ⟨rfl, rfl⟩
    rw [HG.out]
    unfold numVal
    simp only
    go_upto_if 39 with fail
    go_cut [9] (fun x wc => x = .int .i64 (capW q) ∧ wc = w2')
    case first =>
      by_cases h1 : 1000000000 < q
      · go_wp2
        go_meet
        case rel => exact ⟨by rw [capW_hi h1], rfl⟩
      · go_wp2
        go_meet
        case rel => exact ⟨by rw [capW_in (by omega)], rfl⟩
    case rest =>
      obtain ⟨rfl, rfl⟩ := hcut
      go_upto_if 41 with fail
      go_cut [9] (fun x wd => x = .int .i64 (clampN q) ∧ wd = wc)
      case first =>
        by_cases h1 : q < 0
        · go_wp2
          go_meet
          case rel => exact ⟨by rw [clampN_lo_W h1], rfl⟩
        · go_wp2
          go_meet
          case rel => exact ⟨by rw [clampN_W (by omega)], rfl⟩
      case rest =>
        obtain ⟨rfl, rfl⟩ := hcut
        generalize clampN q = K at *
        have hPc : P.length - 1 ≤ c2 := by omega
        have hcutRd := hq2.take (P.length - 1)
        have hcutL : (P.take (P.length - 1)).length = P.length - 1 := by simp
        have hcutOk := hPok.takeB (P.length - 1)
        go_wp2_with fail
        refine (implGetNum_any a2 (P.length - 1) c2 (P.take (P.length - 1)) _ wc wc.heap.size hcutL (by omega) hcutOk hcutRd).mono ?_
        rintro e w3 ⟨rfl, rfl⟩
        rw [HCut.out]
        unfold numVal noNum
        simp only
        have hr3 := (hr.below hB2).mono hB2.size
        clear HCut HG hcutRd hcutL hcutOk hq2 hPok
        go_wp2_with fail
        refine (drawPutText_any a n cap zs _ HX.out (by omega) (by exact hr3)).mono ?_
        rintro e w4 ⟨v4, bs4, ts, rfl, hbl4, hbo4, htl, hto, hown4, hb4⟩
        obtain ⟨a4, c4, rfl, _, hq4⟩ := own_rd rfl hown4
        have hB4 := hB2.trans (hb4.mono hB2.size)
        have hT := implPutText_R a4 bs4.length c4 bs4 (strOfNums ts) w4 rfl (by omega) (by exact hq4) (by rw [strOf_size]; omega)
        rw [putText_of hto htl] at hT
        have HT := Hid.mk (getText_put bs4 ts (by omega))
        have hpl4 := putNum_length (ts.length : Int)
        have hTok : BytesOk (bs4 ++ putNum ts.length ++ ts) := (hbo4.append (putNum_ok _)).append hto
        have hTl : (bs4 ++ putNum ts.length ++ ts).length ≤ 24 := by simp; omega
        generalize bs4 ++ putNum ts.length ++ ts = T at *
        generalize hS : strOfNums ts = S at *
        have HS := Hid.mk hS
        clear hS
        clear hown4 hq4 hb4 hr3 hB2
        go_wp2_with fail
        refine hT.mono ?_
        rintro e w5 ⟨v5, rfl, hown5, hb5⟩
        obtain ⟨a5, c5, rfl, hc5, hq5⟩ := own_rd rfl hown5
        have hB5 := hB4.trans (hb5.mono hB4.size)
        clear hT hown5 hb5 hB4
        go_wp2_with fail
        refine (implGetText_any a5 T.length c5 T _ w5 w5.heap.size rfl (by omega) hc5 hTok hq5).mono ?_
        rintro e w6 ⟨rfl, rfl⟩
        rw [HT.out]
        unfold textVal
        simp only
        rw [HS.out]
        clear HT HS hTok hq5
        go_wp2_with fail
        go_ret
        exact ⟨rfl, hB5⟩

end Go.Proofs.Ytconfeecfgdopaa
