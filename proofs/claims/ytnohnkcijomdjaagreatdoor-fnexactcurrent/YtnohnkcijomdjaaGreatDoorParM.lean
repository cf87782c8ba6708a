/-
  A manifest read out of its text, as the specification reads it, plainly: of a right manifest's text it is that manifest.
-/
import Derived.Test.YtnohnkcijomdjaaGreatDoorTxtM
namespace Go.Proofs.YtnohnkcijomdjaaGreatDoor
open Go.RowKit
set_option linter.unusedVariables false
set_option linter.unusedSimpArgs false

/-- What stands between the bytes. -/
def splitP (by_ : UInt8) : List UInt8 → List (List UInt8)
  | [] => [[]]
  | x :: r => if x = by_ then [] :: splitP by_ r else match splitP by_ r with
    | [] => [[x]]
    | h :: t => (x :: h) :: t
theorem splitP_one {b : UInt8} : ∀ {l : List UInt8}, b ∉ l → splitP b l = [l]
  | [], _ => rfl
  | x :: r, h => by
    have h1 : ¬ x = b := fun e => h (by rw [e]; simp)
    have h2 := splitP_one (b := b) (l := r) (fun e => h (List.mem_cons_of_mem _ e))
    rw [splitP, if_neg h1, h2]
theorem splitP_cut {b : UInt8} : ∀ {l r : List UInt8}, b ∉ l → splitP b (l ++ b :: r) = l :: splitP b r
  | [], r, _ => by rw [List.nil_append, splitP, if_pos rfl]
  | x :: l, r, h => by
    have h1 : ¬ x = b := fun e => h (by rw [e]; simp)
    have h2 := splitP_cut (b := b) (l := l) (r := r) (fun e => h (List.mem_cons_of_mem _ e))
    rw [List.cons_append, splitP, if_neg h1, h2]

def isDig (b : UInt8) : Bool := decide (48 ≤ b.toNat ∧ b.toNat ≤ 57)
def valD (l : List UInt8) (n : Int) : Int := l.foldl (fun n b => n * 10 + ((b.toNat : Int) - 48)) n
/-- Decimal digits, one to six; -1 else. -/
def numP (l : List UInt8) : Int := if (1 ≤ l.length ∧ l.length ≤ 6) ∧ l.all isDig = true then valD l 0 else -1
def digP (b : UInt8) : Int := if 48 ≤ b.toNat ∧ b.toNat ≤ 57 then (b.toNat : Int) - 48 else if 97 ≤ b.toNat ∧ b.toNat ≤ 102 then (b.toNat : Int) - 87 else 99
def unhexP : List UInt8 → List UInt8
  | a :: b :: r => UInt8.ofNat ((digP a * 16 + digP b) % 256).toNat :: unhexP r
  | _ => []
theorem dec_digs (k : Nat) : ∀ n : Nat, n ≤ k → ∀ b, b ∈ Lib.decDigits n → 48 ≤ b.toNat ∧ b.toNat ≤ 57 := by
  induction k with
  | zero =>
    intro n hn b hb
    rw [Lib.decDigits, dif_pos (by omega)] at hb
    simp at hb
    subst hb
    have : n = 0 := by omega
    subst this
    decide
  | succ k ih =>
    intro n hn b hb
    rw [Lib.decDigits] at hb
    split at hb
    · rename_i h
      rw [List.mem_singleton] at hb
      subst hb
      rw [UInt8.toNat_ofNat']
      omega
    · rename_i h
      rcases List.mem_append.1 hb with h1 | h1
      · exact ih (n / 10) (by omega) b h1
      · rw [List.mem_singleton] at h1
        subst h1
        rw [UInt8.toNat_ofNat']
        omega
theorem dec_val (k : Nat) : ∀ n : Nat, n ≤ k → valD (Lib.decDigits n) 0 = (n : Int) := by
  induction k with
  | zero =>
    intro n hn
    have : n = 0 := by omega
    subst this
    rw [Lib.decDigits, dif_pos (by omega)]
    decide
  | succ k ih =>
    intro n hn
    rw [Lib.decDigits]
    split
    · rename_i h
      have h1 : n < 10 := h
      simp only [valD, List.foldl_cons, List.foldl_nil]
      rw [UInt8.toNat_ofNat']
      omega
    · rename_i h
      have h1 := ih (n / 10) (by omega)
      unfold valD at h1 ⊢
      rw [List.foldl_append, h1]
      simp only [List.foldl_cons, List.foldl_nil]
      rw [UInt8.toNat_ofNat']
      omega
theorem decD_digs {n : Int} {b : UInt8} (hb : b ∈ decD n) : 48 ≤ b.toNat ∧ b.toNat ≤ 57 := dec_digs n.toNat n.toNat (Nat.le_refl _) b hb
theorem decD_val {n : Int} (h : 0 ≤ n) : valD (decD n) 0 = n := by
  have := dec_val n.toNat n.toNat (Nat.le_refl _)
  unfold decD
  rw [this]
  omega
theorem decD_pos (n : Int) : 1 ≤ (decD n).length := by
  unfold decD
  rw [Lib.decDigits]
  split <;> simp
theorem dec_six (k : Nat) : ∀ n : Nat, n < 10 ^ (k + 1) → (Lib.decDigits n).length ≤ k + 1 := by
  induction k with
  | zero =>
    intro n h
    rw [Lib.decDigits, dif_pos (by simpa using h)]
    simp
  | succ k ih =>
    intro n h
    rw [Lib.decDigits]
    split
    · simp
    · have := ih (n / 10) (by rw [Nat.pow_succ] at h; omega)
      rw [List.length_append]
      simp
      omega
theorem numP_dec {n : Int} (h0 : 0 ≤ n) (h1 : n ≤ 100000) : numP (decD n) = n := by
  unfold numP
  rw [if_pos, decD_val h0]
  refine ⟨⟨decD_pos n, dec_six 5 n.toNat (by omega)⟩, List.all_eq_true.2 fun b hb => ?_⟩
  exact decide_eq_true (decD_digs hb)
theorem hex_back : ∀ b : Fin 256, UInt8.ofNat ((digP (hexD (b.val / 16)) * 16 + digP (hexD (b.val % 16))) % 256).toNat = UInt8.ofNat b.val := by decide +kernel
theorem unhex_hex : ∀ l : List UInt8, unhexP (l.flatMap hexB) = l
  | [] => rfl
  | x :: r => by
    rw [List.flatMap_cons]
    show UInt8.ofNat ((digP (hexD (x.toNat / 16)) * 16 + digP (hexD (x.toNat % 16))) % 256).toNat :: unhexP (r.flatMap hexB) = _
    rw [unhex_hex r, hex_back ⟨x.toNat, x.toNat_lt⟩]
    simp
theorem unhexT (s : ByteArray) : unhexP (hexT s) = s.data.toList := unhex_hex _

/-- A line's words, taken in. -/
def takeL (i : Nat) (w : List (List UInt8)) (m : MManifest) : MManifest :=
  if i = 0 then (if w.length = 4 then { m with fNext := numP (w.getD 1 []), fLog := numP (w.getD 3 []) } else m)
  else if w.length = 5 then { m with fTables := m.fTables ++ [⟨numP (w.getD 1 []), numP (w.getD 2 []), strB (unhexP (w.getD 3 [])), strB (unhexP (w.getD 4 []))⟩] } else m
def takeAll : Nat → List (List UInt8) → MManifest → MManifest
  | _, [], m => m
  | i, l :: r, m => takeAll (i + 1) r (takeL i (splitP 32 l) m)
def specP (s : List UInt8) : MManifest := takeAll 0 ((splitP 10 s).take 30) ⟨0, 0, []⟩

theorem not_mem_dec {n : Int} {b : UInt8} (hb : b.toNat < 48) : b ∉ decD n := fun h => by have := (decD_digs h).1; omega
theorem hexD_lo : ∀ x : Fin 16, 48 ≤ (hexD x.val).toNat := by decide
theorem not_mem_hex {s : ByteArray} {b : UInt8} (hb : b.toNat < 48) : b ∉ hexT s := fun h => by
  unfold hexT at h
  obtain ⟨x, _, hx⟩ := List.mem_flatMap.1 h
  have hx1 : x.toNat < 256 := x.toNat_lt
  simp only [hexB, List.mem_cons, List.not_mem_nil, or_false] at hx
  rcases hx with rfl | rfl
  · exact absurd (hexD_lo ⟨x.toNat / 16, by omega⟩) (by show ¬ 48 ≤ (hexD (x.toNat / 16)).toNat; omega)
  · exact absurd (hexD_lo ⟨x.toNat % 16, by omega⟩) (by show ¬ 48 ≤ (hexD (x.toNat % 16)).toNat; omega)
theorem line_words (t : MMeta) : splitP 32 (lineT t) = [tabW, decD t.fNo, decD t.fLevel, hexT t.fLo, hexT t.fHi] := by
  have e : lineT t = tabW ++ 32 :: (decD t.fNo ++ 32 :: (decD t.fLevel ++ 32 :: (hexT t.fLo ++ 32 :: hexT t.fHi))) := by
    unfold lineT
    simp only [List.append_assoc, List.cons_append, List.nil_append]
  rw [e, splitP_cut (by decide), splitP_cut (not_mem_dec (by decide)), splitP_cut (not_mem_dec (by decide)), splitP_cut (not_mem_hex (by decide)), splitP_one (not_mem_hex (by decide))]
theorem head_words (m : MManifest) : splitP 32 (headT m) = [[110, 101, 120, 116], decD m.fNext, [108, 111, 103], decD m.fLog] := by
  have e : headT m = [110, 101, 120, 116] ++ 32 :: (decD m.fNext ++ 32 :: ([108, 111, 103] ++ 32 :: decD m.fLog)) := by
    unfold headT nextW logW
    simp only [List.append_assoc, List.cons_append, List.nil_append]
  rw [e, splitP_cut (by decide), splitP_cut (not_mem_dec (by decide)), splitP_cut (by decide), splitP_one (not_mem_dec (by decide))]
theorem ten_line (t : MMeta) : (10 : UInt8) ∉ lineT t := by
  unfold lineT
  simp only [List.mem_append, not_or]
  refine ⟨⟨⟨⟨⟨⟨⟨⟨by decide, by decide⟩, not_mem_dec (by decide)⟩, by decide⟩, not_mem_dec (by decide)⟩, by decide⟩, not_mem_hex (by decide)⟩, by decide⟩, not_mem_hex (by decide)⟩
theorem ten_head (m : MManifest) : (10 : UInt8) ∉ headT m := by
  unfold headT
  simp only [List.mem_append, not_or]
  exact ⟨⟨⟨by decide, not_mem_dec (by decide)⟩, by decide⟩, not_mem_dec (by decide)⟩
theorem split_lines : ∀ (l : List MMeta) (r : List UInt8), splitP 10 (linesT l ++ r) = l.map lineT ++ splitP 10 r
  | [], r => by simp [linesT]
  | t :: l, r => by
    have e : linesT (t :: l) ++ r = lineT t ++ 10 :: (linesT l ++ r) := by
      unfold linesT
      rw [List.flatMap_cons]
      simp only [List.append_assoc, List.cons_append, List.nil_append]
    rw [e, splitP_cut (ten_line t), split_lines l r]
    rfl
theorem text_lines (m : MManifest) : splitP 10 (manTextL m) = headT m :: (m.fTables.map lineT ++ [endW, []]) := by
  have e : manTextL m = headT m ++ 10 :: (linesT m.fTables ++ (endW ++ 10 :: [])) := by
    unfold manTextL
    simp only [List.append_assoc, List.cons_append, List.nil_append]
  rw [e, splitP_cut (ten_head m), split_lines, splitP_cut (by decide)]
  rfl
theorem take_lines {nx : Int} (hn : nx ≤ 100000) : ∀ (l : List MMeta) (i : Nat) (m : MManifest) (r : List (List UInt8)), 0 < i → (∀ t, t ∈ l → MetaOk nx t) → takeAll i (l.map lineT ++ r) m = takeAll (i + l.length) r { m with fTables := m.fTables ++ l }
  | [], i, m, r, _, _ => by simp
  | t :: l, i, m, r, hi, h => by
    have h1 := h t (by simp)
    have ht : takeL i (splitP 32 (lineT t)) m = { m with fTables := m.fTables ++ [t] } := by
      unfold takeL
      rw [if_neg (by omega), line_words, if_pos (show [tabW, decD t.fNo, decD t.fLevel, hexT t.fLo, hexT t.fHi].length = 5 from rfl)]
      simp only [List.getD_cons_succ, List.getD_cons_zero]
      rw [numP_dec (by have := h1.no0; omega) (by have := h1.no1; omega), numP_dec h1.lv0 (by have := h1.lv1; omega), unhexT, unhexT, strB_of, strB_of]
    rw [List.map_cons, List.cons_append, takeAll, ht, take_lines hn l (i + 1) _ r (by omega) (fun x hx => h x (List.mem_cons_of_mem _ hx))]
    simp only [List.append_assoc, List.cons_append, List.nil_append, List.length_cons]
    congr 1
    omega
/-- The text of a right manifest is read as that manifest. -/
theorem spec_back {m : MManifest} (h : manOkP m = true) : specP (manTextL m) = m := by
  have hf := manOkP_facts h
  have hlen := hf.len
  unfold specP
  rw [text_lines, List.take_of_length_le (by simp; omega), takeAll]
  have hh : takeL 0 (splitP 32 (headT m)) ⟨0, 0, []⟩ = ⟨m.fNext, m.fLog, []⟩ := by
    unfold takeL
    rw [if_pos rfl, head_words, if_pos (show [[110, 101, 120, 116], decD m.fNext, [108, 111, 103], decD m.fLog].length = 4 from rfl)]
    simp only [List.getD_cons_succ, List.getD_cons_zero]
    rw [numP_dec (by have := hf.nx0; omega) hf.nx1, numP_dec hf.lg0 (by have := hf.lg1; have := hf.nx1; omega)]
  rw [hh, take_lines hf.nx1 m.fTables (0 + 1) _ _ (by omega) hf.each]
  have e1 : splitP 32 endW = [endW] := splitP_one (by decide)
  have e2 : splitP 32 [] = [[]] := rfl
  simp only [takeAll, takeL, e1, e2]
  rw [if_neg (by omega), if_neg (by decide), if_neg (by omega), if_neg (by decide)]
  simp

end Go.Proofs.YtnohnkcijomdjaaGreatDoor
