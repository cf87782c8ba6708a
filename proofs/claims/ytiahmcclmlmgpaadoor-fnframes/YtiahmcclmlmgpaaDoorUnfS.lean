/-
  Unframe of the specification and of the program, whole.
-/
import Derived.Test.YtiahmcclmlmgpaaDoorUnframe
namespace Go.Proofs.YtiahmcclmlmgpaaDoor
open Go.RowKit
set_option maxRecDepth 10000

theorem getText_ok {zs : List Int} (hb : BytesOk zs) (f m : Nat) : BytesOk ((zs.drop f).take m) := fun z hz => hb z (List.mem_of_mem_drop (List.mem_of_mem_take hz))

/-- What an Unframe answers: a slice that is owned, a place, a flag. -/
def UnfPost (w : World) (U : List Int × Int × Bool) (e : Ending) (w' : World) : Prop :=
  ∃ v, e = .returned (.tuple #[v, .int .i64 U.2.1, .bool U.2.2]) ∧ w'.ownsRow w.heap.size 5 1 v U.1.length (U.1.map (Value.int .u8)) ∧ Below w.heap.size w w'

theorem unf_empty {w w1 : World} {p : Int} (hb : Below w.heap.size w w1) : UnfPost w ([], p, false) (.returned (.tuple #[.slice (some ⟨w1.heap.size, 0, none⟩) 0 0, .int .i64 p, .bool false])) (w1.alloc (.cells #[] 5)) :=
  ⟨_, rfl, World.ownsRow_lit w1 #[] 0 hb.size (by decide) rfl, hb.alloc hb.size _⟩

theorem unf_nil {w w1 : World} {p : Int} (hb : Below w.heap.size w w1) : UnfPost w ([], p, false) (.returned (.tuple #[.slice none 0 0, .int .i64 p, .bool false])) w1 :=
  ⟨_, rfl, World.ownsRow_nil _ _ _ _, hb⟩

set_option maxHeartbeats 800000 in
theorem specUnframe_any (a : Option Addr) (n cap : Nat) (zs : List Int) (p : Int) (w : World) (hx : zs.length = n) (hlen : n ≤ 35184372088832) (hcap : n ≤ cap) (hb : BytesOk zs) (hr : Rd .u8 w.heap.size w a zs) :
    Calls Tryd.prog 64 #[.slice a n cap, .int .i64 p] w (UnfPost w (unframe zs p)) := by
  obtain ⟨i0, hi, hz0, hz1, hz2⟩ := info_parts Tryd.info5
  have HX : Hid (zs.length = n) := hx
  clear hx
  by_cases hout : p < 0 ∨ (n : Int) - 4 < p
  · have HV : Hid (unframe zs p = ([], p, false)) := unframe_out (by rw [HX.out]; exact hout)
    have hF := fourAt_no a n cap p w hout (by omega)
    clear hout
    go_enter Tryd.func64, Tryd.ntmps64
    go_wp2_with fail
    refine hF.mono ?_
    rintro e w1 ⟨rfl, rfl⟩
    go_wp2
    go_ret3
    rw [HV.out]
    exact unf_empty (Below.refl _ _)
  · obtain ⟨p, rfl⟩ := Int.eq_ofNat_of_zero_le (show 0 ≤ p by omega)
    have hp : p + 4 ≤ n := by omega
    clear hout
    have hF := fourAt_yes a n cap p zs w w.heap.size HX.out hp (by omega) hb hr
    have hN := fun d => specGetNum_any a n cap zs ((p : Int) + 4) (w.drewN d) w.heap.size HX.out (by omega) hb (by exact hr)
    go_enter Tryd.func64, Tryd.ntmps64
    go_wp2_with fail
    refine hF.mono ?_
    rintro e w1 ⟨rfl, d, rfl⟩
    have hB : Below w.heap.size w (w.drewN d) := below_drewN (Below.refl _ _) d
    go_wp2_with fail
    refine (hN d).mono ?_
    rintro e w2 ⟨rfl, rfl⟩
    clear hF hN
    rcases text_cases zs ((p : Int) + 4) with ⟨r0, r1, hR, hv⟩ | ⟨m, f, hR, hf, hm, hout, hv⟩ | ⟨m, f, hR, hf, hm, hin, hv⟩
    · have HV := Hid.mk (unframe_no (by rw [HX.out]; exact hp) hv)
      rw [hR]
      unfold numVal
      clear hR hv
      go_wp2
      go_ret3
      rw [HV.out]
      exact unf_empty hB
    · have HV := Hid.mk (unframe_no (by rw [HX.out]; exact hp) hv)
      rw [hR]
      unfold numVal
      clear hR hv
      rw [HX.out] at hf hout
      go_wp2
      go_ret3
      rw [HV.out]
      exact unf_empty hB
    · have HYes := fun h => Hid.mk (unframe_yes (by rw [HX.out]; exact hp) hv h)
      have HNo := fun h => Hid.mk (unframe_sum (by rw [HX.out]; exact hp) hv h)
      rw [hR]
      unfold numVal
      clear hR hv
      have hbody := getText_ok hb f m
      have hbl : ((zs.drop f).take m).length = m := take_drop_length hin
      obtain ⟨b1, o1, rfl, _, _⟩ := hr 0 (by omega)
      have hsub : Rd .u8 w.heap.size w (some ⟨b1, o1 + f, none⟩) ((zs.drop f).take m) := hr.sub hin
      generalize hBody : (zs.drop f).take m = body at hbody hbl hsub HYes HNo
      clear hBody
      have HBL := Hid.mk hbl
      clear hbl
      rw [HX.out] at hin
      by_cases hcf : cap = f
      · subst hcf
        obtain rfl : m = 0 := by omega
        go_wp2_with (at_builtin; refine wpList_append_src _ rfl _ _ 22 22 rfl w.heap.size 5 i0 (.int .u8 0) 1 1 Tryd.underlying22 hi hz0 hz1 hz2 rfl (.slice (some ⟨w.heap.size, 0, none⟩) 0 0) 0 [] rfl (own_drewN (d := d) (World.ownsRow_lit w #[] 0 (Nat.le_refl _) (by decide) rfl)) 0 (body.map (Value.int .u8)) (Src.rd Tryd.underlying22 HBL.out (by rw [List.eq_nil_of_length_eq_zero HBL.out]; exact Rd.nil (B := 0))) (by unfold maxLen; omega) (by omega) (by simp) ?_)
        intro v3 w3 hown3 hgr3
        have hB3 : Below w.heap.size w w3 := (below_drewN ((Below.refl _ _).alloc (Nat.le_refl _) _) d).grown hgr3 (by simp) (fun k h => by simp [Value.ownBlock] at h; omega)
        have hown3' : w3.ownsRow w.heap.size 5 1 v3 body.length (body.map (Value.int .u8)) := own_congr hown3 (by have h := HBL.out; omega) (by simp)
        clear hown3 hgr3
        obtain ⟨a3, c3, rfl, _, hq3⟩ := own_rd rfl hown3'
        have hcb := crc_bd hbody
        have hrb := rd4_bd hb p
        go_wp2_with fail
        refine (specSum_any a3 body.length c3 body w3 w3.heap.size rfl (by rw [HBL.out]; omega) hbody hq3).mono ?_
        rintro e w4 ⟨rfl, rfl⟩
        by_cases hc : crc body = rd4 zs p
        · have HV := HYes hc
          have hcb' : (crc body != rd4 zs p) = false := by simp [hc]
          clear HYes HNo hc
          generalize crc body = C1 at *
          generalize rd4 zs p = C2 at *
          go_wp2
          go_ret3
          rw [HV.out]
          exact ⟨_, rfl, hown3', hB3⟩
        · have HV := HNo hc
          have hcb' : (crc body != rd4 zs p) = true := by simp [hc]
          clear HYes HNo hc
          generalize crc body = C1 at *
          generalize rd4 zs p = C2 at *
          go_wp2
          go_ret3
          rw [HV.out]
          exact unf_empty hB3
      · go_wp2_with (at_builtin; (try rw [Nat.add_sub_cancel_left]); refine wpList_append_src _ rfl _ _ 22 22 rfl w.heap.size 5 i0 (.int .u8 0) 1 1 Tryd.underlying22 hi hz0 hz1 hz2 rfl (.slice (some ⟨w.heap.size, 0, none⟩) 0 0) 0 [] rfl (own_drewN (d := d) (World.ownsRow_lit w #[] 0 (Nat.le_refl _) (by decide) rfl)) m (body.map (Value.int .u8)) (Src.rd Tryd.underlying22 HBL.out (hsub.below (hB.alloc (by simp) _))) (by unfold maxLen; omega) (by omega) (by simp) ?_)
        intro v3 w3 hown3 hgr3
        have hB3 : Below w.heap.size w w3 := (below_drewN ((Below.refl _ _).alloc (Nat.le_refl _) _) d).grown hgr3 (by simp) (fun k h => by simp [Value.ownBlock] at h; omega)
        have hown3' : w3.ownsRow w.heap.size 5 1 v3 body.length (body.map (Value.int .u8)) := own_congr hown3 (by have h := HBL.out; omega) (by simp)
        clear hown3 hgr3
        obtain ⟨a3, c3, rfl, _, hq3⟩ := own_rd rfl hown3'
        have hcb := crc_bd hbody
        have hrb := rd4_bd hb p
        go_wp2_with fail
        refine (specSum_any a3 body.length c3 body w3 w3.heap.size rfl (by rw [HBL.out]; omega) hbody hq3).mono ?_
        rintro e w4 ⟨rfl, rfl⟩
        by_cases hc : crc body = rd4 zs p
        · have HV := HYes hc
          have hcb' : (crc body != rd4 zs p) = false := by simp [hc]
          clear HYes HNo hc
          generalize crc body = C1 at *
          generalize rd4 zs p = C2 at *
          go_wp2
          go_ret3
          rw [HV.out]
          exact ⟨_, rfl, hown3', hB3⟩
        · have HV := HNo hc
          have hcb' : (crc body != rd4 zs p) = true := by simp [hc]
          clear HYes HNo hc
          generalize crc body = C1 at *
          generalize rd4 zs p = C2 at *
          go_wp2
          go_ret3
          rw [HV.out]
          exact unf_empty hB3

end Go.Proofs.YtiahmcclmlmgpaaDoor
