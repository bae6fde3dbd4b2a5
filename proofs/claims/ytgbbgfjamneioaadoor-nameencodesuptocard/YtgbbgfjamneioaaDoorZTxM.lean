/-
  Characters of UTF-8 in a row of bytes: how many bytes the first one has; how far a row is UTF-8. No program.
-/
import Derived.Laws.RangeAny
namespace Go.Proofs.YtgbbgfjamneioaaDoor

/-- The byte at a place (0 behind the end). -/
def bt (l : List UInt8) (k : Nat) : Nat := (l.getD k 0).toNat
/-- Does a byte stand at a place that goes on with a character? -/
def ct (l : List UInt8) (k : Nat) : Bool := decide (k < l.length) && (bt l k / 64 == 2)
theorem ct_iff (l : List UInt8) (k : Nat) : ct l k = true ↔ k < l.length ∧ bt l k / 64 = 2 := by simp [ct]

theorem bt_lt (l : List UInt8) (k : Nat) : bt l k < 256 := (l.getD k 0).toNat_lt

/-- How many bytes the character has with which a row begins (0: none does). -/
def charL (l : List UInt8) : Nat :=
  if bt l 0 < 128 then 1
  else if bt l 0 / 32 = 6 ∧ ct l 1 then (if 128 ≤ (bt l 0 % 32) * 64 + bt l 1 % 64 then 2 else 0)
  else if bt l 0 / 16 = 14 ∧ ct l 1 ∧ ct l 2 then
    (if 2048 ≤ (bt l 0 % 16) * 4096 + (bt l 1 % 64) * 64 + bt l 2 % 64 ∧ ¬ (55296 ≤ (bt l 0 % 16) * 4096 + (bt l 1 % 64) * 64 + bt l 2 % 64 ∧ (bt l 0 % 16) * 4096 + (bt l 1 % 64) * 64 + bt l 2 % 64 ≤ 57343) then 3 else 0)
  else if bt l 0 / 8 = 30 ∧ ct l 1 ∧ ct l 2 ∧ ct l 3 then
    (if 65536 ≤ (bt l 0 % 8) * 262144 + (bt l 1 % 64) * 4096 + (bt l 2 % 64) * 64 + bt l 3 % 64 ∧ (bt l 0 % 8) * 262144 + (bt l 1 % 64) * 4096 + (bt l 2 % 64) * 64 + bt l 3 % 64 ≤ 1114111 then 4 else 0)
  else 0

theorem charL_le (l : List UInt8) (h : 0 < l.length) : charL l ≤ l.length := by
  unfold charL
  repeat' split
  all_goals first | omega | skip
  · rename_i h1 h2 h3; have := ((ct_iff _ _).1 h2.2).1; omega
  · rename_i h1 h2 h3 h4; have := ((ct_iff _ _).1 h3.2.2).1; omega
  · rename_i h1 h2 h3 h4 h5; have := ((ct_iff _ _).1 h4.2.2.2).1; omega

theorem charL_le4 (l : List UInt8) : charL l ≤ 4 := by
  unfold charL
  repeat' split
  all_goals omega

theorem get_bt (s : ByteArray) (i k : Nat) : (s.get! (i + k)).toNat = bt (s.data.toList.drop i) k := by
  unfold bt
  congr 1
  show s.data[i + k]! = _
  rw [List.getD_eq_getElem?_getD, List.getElem?_drop, Array.getElem?_toList, Array.getElem!_eq_getD, Array.getD_eq_getD_getElem?]
  rfl

/-- What the bytes at a place are decoded as. -/
theorem decode_char (s : ByteArray) (i : Nat) (h : i < s.size) :
    (charL (s.data.toList.drop i) = 0 ∧ Utf8.decode s i = (65533, 1)) ∨
    (charL (s.data.toList.drop i) ≠ 0 ∧ (Utf8.decode s i).2 = charL (s.data.toList.drop i) ∧ ((Utf8.decode s i).1 = 65533 → bt (s.data.toList.drop i) 0 = 239 ∧ bt (s.data.toList.drop i) 1 = 191 ∧ bt (s.data.toList.drop i) 2 = 189 ∧ 3 ≤ (s.data.toList.drop i).length)) := by
  have hl : ∀ k, (i + k < s.size) ↔ k < (s.data.toList.drop i).length := fun k => by rw [List.length_drop, Array.length_toList]; show _ ↔ k < s.size - i; omega
  unfold Utf8.decode charL
  simp only [get_bt, hl]
  generalize s.data.toList.drop i = l
  have h0 := bt_lt l 0; have h1 := bt_lt l 1; have h2 := bt_lt l 2; have h3 := bt_lt l 3
  simp only [Utf8.valid, Utf8.runeError, ct_iff, Bool.and_eq_true, Bool.or_eq_true, decide_eq_true_eq, beq_iff_eq, ge_iff_le]
  generalize bt l 0 = b0 at *
  generalize bt l 1 = b1 at *
  generalize bt l 2 = b2 at *
  generalize bt l 3 = b3 at *
  by_cases g0 : b0 < 128
  · right; simp only [g0, if_true]; refine ⟨by decide, trivial, fun h => by omega⟩
  simp only [g0, if_false]
  by_cases g1 : b0 / 32 = 6
  · have q1 : ¬ b0 / 16 = 14 := by omega
    have q2 : ¬ b0 / 8 = 30 := by omega
    simp only [g1, q1, q2, true_and, false_and, if_false]
    by_cases g2 : 1 < l.length ∧ b1 / 64 = 2
    · simp only [g2, and_self, if_true]
      by_cases g3 : 128 ≤ b0 % 32 * 64 + b1 % 64
      · right; simp only [g3, if_true]; refine ⟨by decide, trivial, fun h => by omega⟩
      · left; simp only [g3, if_false, and_self]
    · left; simp only [g2, if_false, and_self]
  simp only [g1, false_and, if_false]
  by_cases g4 : b0 / 16 = 14
  · have q2 : ¬ b0 / 8 = 30 := by omega
    simp only [g4, q2, true_and, false_and, if_false]
    by_cases g2 : (1 < l.length ∧ b1 / 64 = 2) ∧ 2 < l.length ∧ b2 / 64 = 2
    · have g2' := g2
      simp only [g2, and_self, if_true]
      by_cases g3 : 2048 ≤ b0 % 16 * 4096 + b1 % 64 * 64 + b2 % 64 ∧ ¬ (55296 ≤ b0 % 16 * 4096 + b1 % 64 * 64 + b2 % 64 ∧ b0 % 16 * 4096 + b1 % 64 * 64 + b2 % 64 ≤ 57343)
      · right
        rw [if_pos g3, if_pos (by omega)]
        refine ⟨by decide, rfl, fun h => ?_⟩
        have h : b0 % 16 * 4096 + b1 % 64 * 64 + b2 % 64 = 65533 := h
        omega
      · left
        rw [if_neg g3, if_neg (by omega)]
        exact ⟨rfl, rfl⟩
    · left; simp only [g2, if_false, and_self]
  simp only [g4, false_and, if_false]
  by_cases g5 : b0 / 8 = 30
  · simp only [g5, true_and]
    by_cases g2 : ((1 < l.length ∧ b1 / 64 = 2) ∧ 2 < l.length ∧ b2 / 64 = 2) ∧ 3 < l.length ∧ b3 / 64 = 2
    · have g2' : (1 < l.length ∧ b1 / 64 = 2) ∧ (2 < l.length ∧ b2 / 64 = 2) ∧ 3 < l.length ∧ b3 / 64 = 2 := ⟨g2.1.1, g2.1.2, g2.2⟩
      rw [if_pos g2, if_pos g2']
      by_cases g3 : 65536 ≤ b0 % 8 * 262144 + b1 % 64 * 4096 + b2 % 64 * 64 + b3 % 64 ∧ b0 % 8 * 262144 + b1 % 64 * 4096 + b2 % 64 * 64 + b3 % 64 ≤ 1114111
      · right
        rw [if_pos g3, if_pos (by omega)]
        refine ⟨by decide, rfl, fun h => ?_⟩
        have h : b0 % 8 * 262144 + b1 % 64 * 4096 + b2 % 64 * 64 + b3 % 64 = 65533 := h
        omega
      · left
        rw [if_neg g3, if_neg (by omega)]
        exact ⟨rfl, rfl⟩
    · left
      have g2' : ¬ ((1 < l.length ∧ b1 / 64 = 2) ∧ (2 < l.length ∧ b2 / 64 = 2) ∧ 3 < l.length ∧ b3 / 64 = 2) := fun h => g2 ⟨⟨h.1, h.2.1⟩, h.2.2⟩
      rw [if_neg g2, if_neg g2']
      exact ⟨rfl, rfl⟩
  left
  simp only [g5, false_and, if_false, and_self]

/-- No character begins where the bytes of the mark for a wrong one don't stand. -/
theorem charL_mark (l : List UInt8) (h : charL l = 0) : ¬ (bt l 0 = 239 ∧ bt l 1 = 191 ∧ bt l 2 = 189 ∧ 3 ≤ l.length) := by
  rintro ⟨h0, h1, h2, h3⟩
  have c1 : ct l 1 = true := (ct_iff _ _).2 ⟨by omega, by rw [h1]⟩
  have c2 : ct l 2 = true := (ct_iff _ _).2 ⟨by omega, by rw [h2]⟩
  simp [charL, h0, h1, h2, c1, c2] at h

/-- How far a row is UTF-8. -/
def validF : Nat → List UInt8 → Nat
  | 0, _ => 0
  | f + 1, l => if l.length = 0 ∨ charL l = 0 then 0 else charL l + validF f (l.drop (charL l))
def validL (l : List UInt8) : Nat := validF l.length l

theorem validF_le : ∀ (f : Nat) (l : List UInt8), validF f l ≤ l.length
  | 0, l => by simp [validF]
  | f + 1, l => by
    have ih := validF_le f (l.drop (charL l))
    rw [List.length_drop] at ih
    unfold validF
    split
    · omega
    · rename_i h
      have := charL_le l (by omega)
      omega

theorem validF_more : ∀ (f g : Nat) (l : List UInt8), l.length ≤ f → l.length ≤ g → validF f l = validF g l
  | 0, 0, _, _, _ => rfl
  | 0, g + 1, l, h, _ => by have : l.length = 0 := by omega
                            simp [validF, this]
  | f + 1, 0, l, _, h => by have : l.length = 0 := by omega
                            simp [validF, this]
  | f + 1, g + 1, l, hf, hg => by
    unfold validF
    split
    · rfl
    · rename_i h
      rw [validF_more f g (l.drop (charL l)) (by rw [List.length_drop]; omega) (by rw [List.length_drop]; omega)]

theorem validL_stop (l : List UInt8) (h : l.length = 0 ∨ charL l = 0) : validL l = 0 := by
  unfold validL
  cases hl : l.length with
  | zero => rfl
  | succ n => unfold validF; rw [if_pos h]

theorem validL_step (l : List UInt8) (h : 0 < l.length) (hc : charL l ≠ 0) : validL l = charL l + validL (l.drop (charL l)) := by
  unfold validL
  obtain ⟨n, hn⟩ : ∃ n, l.length = n + 1 := ⟨l.length - 1, by omega⟩
  rw [hn]
  show validF (n + 1) l = _
  rw [validF, if_neg (by omega)]
  rw [validF_more n _ (l.drop (charL l)) (by rw [List.length_drop]; omega) (Nat.le_refl _)]

theorem validL_le (l : List UInt8) : validL l ≤ l.length := validF_le _ _

end Go.Proofs.YtgbbgfjamneioaaDoor
