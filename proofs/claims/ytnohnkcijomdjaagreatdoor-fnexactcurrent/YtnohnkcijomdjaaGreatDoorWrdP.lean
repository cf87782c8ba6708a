/-
  The words of a manifest's text, plainly, and what a reader makes of them.
-/
import Derived.Test.YtnohnkcijomdjaaGreatDoorWrdK
import Derived.Lib.FieldsU
namespace Go.Proofs.YtnohnkcijomdjaaGreatDoor
open Go.RowKit
set_option linter.unusedVariables false
set_option linter.unusedSimpArgs false

theorem fields_go : ∀ (x cur r : List UInt8), (∀ c, c ∈ x → Lib.isSp c = false) → Lib.fieldsGo cur (x ++ r) = Lib.fieldsGo (cur ++ x) r
  | [], cur, r, _ => by simp
  | a :: x, cur, r, h => by
    rw [List.cons_append, Lib.fieldsGo_more cur a _ (h a (by simp)), fields_go x (cur ++ [a]) r (fun c hc => h c (by simp [hc]))]
    simp
theorem fields_word {x r : List UInt8} {b : UInt8} (hx : x ≠ []) (hs : ∀ c, c ∈ x → Lib.isSp c = false) (hb : Lib.isSp b = true) : Lib.fields (x ++ b :: r) = x :: Lib.fields r := by
  unfold Lib.fields
  rw [fields_go x [] _ hs, List.nil_append, Lib.fieldsGo_end x b r hb hx]
theorem nsp {c : UInt8} (h : 48 ≤ c.toNat) : Lib.isSp c = false := by
  have h0 : ∀ i : Fin 256, 48 ≤ i.val → Lib.isSp (UInt8.ofNat i.val) = false := by decide +kernel
  have h2 := h0 ⟨c.toNat, c.toNat_lt⟩ h
  rwa [UInt8.ofNat_toNat] at h2
theorem hexT_lo {s : ByteArray} {b : UInt8} (h : b ∈ hexT s) : 48 ≤ b.toNat := by
  by_cases hb : b.toNat < 48
  · exact absurd h (not_mem_hex hb)
  · omega
theorem decD_ne (n : Int) : decD n ≠ [] := fun h => by have := decD_pos n; rw [h] at this; simp at this
theorem hexT_ne {s : ByteArray} (h : 1 ≤ s.size) : hexT s ≠ [] := fun hc => by have := hexT_len s; rw [hc] at this; simp at this; omega
def lineWs (t : MMeta) : List (List UInt8) := [tabW, decD t.fNo, decD t.fLevel, hexT t.fLo, hexT t.fHi]
theorem fields_line {t : MMeta} {r : List UInt8} (h1 : 1 ≤ t.fLo.size) (h2 : 1 ≤ t.fHi.size) : Lib.fields (lineT t ++ 10 :: r) = lineWs t ++ Lib.fields r := by
  have e : lineT t ++ 10 :: r = tabW ++ 32 :: (decD t.fNo ++ 32 :: (decD t.fLevel ++ 32 :: (hexT t.fLo ++ 32 :: (hexT t.fHi ++ 10 :: r)))) := by
    unfold lineT
    simp only [List.append_assoc, List.cons_append, List.nil_append]
  rw [e, fields_word (by decide) (by decide) (by decide), fields_word (decD_ne _) (fun c hc => nsp (decD_digs hc).1) (by decide), fields_word (decD_ne _) (fun c hc => nsp (decD_digs hc).1) (by decide),
    fields_word (hexT_ne h1) (fun c hc => nsp (hexT_lo hc)) (by decide), fields_word (hexT_ne h2) (fun c hc => nsp (hexT_lo hc)) (by decide)]
  rfl
theorem fields_lines : ∀ (l : List MMeta) (r : List UInt8), (∀ t, t ∈ l → 1 ≤ t.fLo.size ∧ 1 ≤ t.fHi.size) → Lib.fields (linesT l ++ r) = l.flatMap lineWs ++ Lib.fields r
  | [], r, _ => by simp [linesT]
  | t :: l, r, h => by
    have e : linesT (t :: l) ++ r = lineT t ++ 10 :: (linesT l ++ r) := by
      unfold linesT
      rw [List.flatMap_cons]
      simp only [List.append_assoc, List.cons_append, List.nil_append]
    rw [e, fields_line (h t (by simp)).1 (h t (by simp)).2, fields_lines l r (fun u hu => h u (by simp [hu])), List.flatMap_cons, List.append_assoc]
theorem fields_text {m : MManifest} (h : ∀ t, t ∈ m.fTables → 1 ≤ t.fLo.size ∧ 1 ≤ t.fHi.size) :
    Lib.fields (manTextL m) = [[110, 101, 120, 116], decD m.fNext, [108, 111, 103], decD m.fLog] ++ (m.fTables.flatMap lineWs ++ [endW]) := by
  have e : manTextL m = [110, 101, 120, 116] ++ 32 :: (decD m.fNext ++ 32 :: ([108, 111, 103] ++ 32 :: (decD m.fLog ++ 10 :: (linesT m.fTables ++ (endW ++ 10 :: []))))) := by
    unfold manTextL headT nextW logW
    simp only [List.append_assoc, List.cons_append, List.nil_append]
  rw [e, fields_word (by decide) (by decide) (by decide), fields_word (decD_ne _) (fun c hc => nsp (decD_digs hc).1) (by decide), fields_word (by decide) (by decide) (by decide),
    fields_word (decD_ne _) (fun c hc => nsp (decD_digs hc).1) (by decide), fields_lines _ _ h, fields_word (by decide) (by decide) (by decide)]
  rfl

theorem drop_all {p : UInt8 → Bool} : ∀ {l : List UInt8}, (∀ c, c ∈ l → p c = true) → l.dropWhile p = []
  | [], _ => rfl
  | a :: l, h => by rw [List.dropWhile_cons_of_pos (h a (by simp))]; exact drop_all fun c hc => h c (by simp [hc])
theorem digW_all {x : List UInt8} (h : ∀ c, c ∈ x → hexW.contains c = true) : digW x = true := by
  have e : Lib.trimRightS x hexW = [] := by
    unfold Lib.trimRightS
    rw [List.reverse_eq_nil_iff]
    exact drop_all fun c hc => h c (by simpa using hc)
  unfold digW Lib.trimS
  rw [e]
  exact decide_eq_true rfl
theorem digW_dec (n : Int) : digW (decD n) = true := digW_all fun c hc => by
  have h0 : ∀ i : Fin 256, 48 ≤ i.val ∧ i.val ≤ 57 → hexW.contains (UInt8.ofNat i.val) = true := by decide +kernel
  have h2 := h0 ⟨c.toNat, c.toNat_lt⟩ (decD_digs hc)
  rwa [UInt8.ofNat_toNat] at h2
theorem digW_hex (s : ByteArray) : digW (hexT s) = true := digW_all fun c hc => by
  unfold hexT at hc
  rw [List.mem_flatMap] at hc
  obtain ⟨b, _, hb⟩ := hc
  have h0 : ∀ i : Fin 16, hexW.contains (hexD i.val) = true := by decide
  have hlt := b.toNat_lt
  unfold hexB at hb
  simp only [List.mem_cons, List.not_mem_nil, or_false] at hb
  rcases hb with rfl | rfl
  · exact h0 ⟨b.toNat / 16, by omega⟩
  · exact h0 ⟨b.toNat % 16, by omega⟩
theorem ix_back : ∀ b : Fin 256, UInt8.ofNat ((ixP (hexD (b.val / 16)) * 16 + ixP (hexD (b.val % 16))) % 256).toNat = UInt8.ofNat b.val := by decide +kernel
theorem unk_hex : ∀ l : List UInt8, unkP (l.flatMap hexB) = l
  | [] => rfl
  | b :: l => by
    rw [List.flatMap_cons]
    show unkP (hexD (b.toNat / 16) :: hexD (b.toNat % 16) :: l.flatMap hexB) = b :: l
    have h := ix_back ⟨b.toNat, b.toNat_lt⟩
    rw [unkP, unk_hex l]
    congr 1
    rw [h, UInt8.ofNat_toNat]
theorem key_hex (s : ByteArray) (r : List (List UInt8)) : keyP (hexT s :: r) = (s.data.toList, true) := by
  have hd : digsP (hexT s :: r) = (hexT s, true) := by simp [digsP, digW_hex]
  unfold keyP
  rw [hd]
  show (unkP (hexT s), true && decide ((hexT s).length % 2 = 0)) = _
  rw [hexT_len, show (2 * s.size) % 2 = 0 by omega]
  exact congrArg (fun z => (z, true)) (unk_hex _)
theorem name_word {x : List UInt8} (r : List (List UInt8)) (h : digW x = false) : nameP (x :: r) = (x, true) := by simp [nameP, h]

theorem uint_dec : ∀ (l : List UInt8) (acc : Nat), (∀ b, b ∈ l → 48 ≤ b.toNat ∧ b.toNat ≤ 57) → (acc + 1) * 10 ^ l.length ≤ 1000000000000000000 → ∃ u : Nat, Lib.parseUint10 acc l = .ok u ∧ (u : Int) = valD l acc ∧ u < 1000000000000000000
  | [], acc, _, h => ⟨acc, rfl, rfl, by simp at h; omega⟩
  | b :: l, acc, hd, h => by
    have hb := hd b (by simp)
    have hp : 1 ≤ 10 ^ l.length := Nat.pos_of_ne_zero (by simp)
    have e : (acc + 1) * 10 ^ (b :: l).length = (acc * 10 + 10) * 10 ^ l.length := by
      rw [List.length_cons, Nat.pow_succ, Nat.mul_comm (10 ^ l.length) 10, ← Nat.mul_assoc, Nat.add_mul, Nat.one_mul]
    rw [e] at h
    have h1 : (acc * 10 + (b.toNat - 48) + 1) * 10 ^ l.length ≤ (acc * 10 + 10) * 10 ^ l.length := Nat.mul_le_mul_right _ (by omega)
    have h2 : (acc * 10 + 10) * 1 ≤ (acc * 10 + 10) * 10 ^ l.length := Nat.mul_le_mul_left _ hp
    obtain ⟨u, hu, hv, hl⟩ := uint_dec l (acc * 10 + (b.toNat - 48)) (fun c hc => hd c (by simp [hc])) (Nat.le_trans h1 h)
    refine ⟨u, ?_, ?_, hl⟩
    · rw [Lib.parseUint10, if_pos hb, if_neg (by omega), if_neg (by omega)]
      exact hu
    · rw [hv]
      show valD l _ = valD l ((acc : Int) * 10 + ((b.toNat : Int) - 48))
      congr 1
      omega
theorem ato_dec {n : Int} (h0 : 0 ≤ n) (h1 : n ≤ 100000) : atoP (decD n) = (n, true) := by
  have hlen : (decD n).length ≤ 6 := dec_six 5 n.toNat (by show n.toNat < 1000000; omega)
  have hp : 10 ^ (decD n).length ≤ 10 ^ 6 := Nat.pow_le_pow_right (by decide) hlen
  obtain ⟨u, hu, hv, hl⟩ := uint_dec (decD n) 0 (fun b hb => decD_digs hb) (by rw [Nat.zero_add, Nat.one_mul]; omega)
  have hval : (u : Int) = n := by rw [hv]; exact decD_val h0
  have key : Lib.atoiAll (decD n) = .ok n := by
    cases hc : decD n with
    | nil => exact absurd hc (decD_ne n)
    | cons c r =>
      have hcd : 48 ≤ c.toNat ∧ c.toNat ≤ 57 := decD_digs (n := n) (by rw [hc]; simp)
      rw [hc] at hu
      unfold Lib.atoiAll Lib.parseMag
      simp only []
      rw [if_neg (show ¬ (c.toNat = 43 ∨ c.toNat = 45) by omega), if_neg (List.cons_ne_nil c r), hu]
      simp only []
      rw [if_neg (by omega), if_neg (by omega), if_neg (by omega), hval]
  unfold atoP
  rw [key]
theorem numb_dec {n : Int} (r : List (List UInt8)) (h0 : 0 ≤ n) (h1 : n ≤ 100000) : numbP (decD n :: r) = (n, true) := by
  have hd : digsP (decD n :: r) = (decD n, true) := by simp [digsP, digW_dec]
  unfold numbP
  rw [hd]
  show ((atoP (decD n)).1, true && (atoP (decD n)).2) = _
  rw [ato_dec h0 h1]
  rfl

end Go.Proofs.YtnohnkcijomdjaaGreatDoor
