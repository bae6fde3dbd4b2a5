/-
  What the statements' own helpers do: 'lent' copies bytes and lays a mark behind them; 'kept' says true of what was lent and is as it was; 'spoil' writes into the row that it is handed, and nowhere else.
  Memory while DerAlls runs its first loop: which blocks it may have written.
  Characters of UTF-8 in a row of bytes: how many bytes the first one has; how far a row is UTF-8. No program.
  The words of a row of bytes. No program.
  The document's Valid: how far a text is UTF-8.
-/
import Derived.Test.YtklchpdpooikdaaGreatDoorXBaseToBts
import Derived.Deep.QuietTactic
import Derived.BigQuiet
import Derived.Test.YtklchpdpooikdaaGreatDoorXEachIt
import Derived.Test.YtklchpdpooikdaaGreatDoorXROneToRRow
import Derived.Laws.RangeAny
import Derived.Test.YtklchpdpooikdaaGreatDoorXItsToNextS
namespace Go.Proofs.YtklchpdpooikdaaGreatDoor
open Go.RowKit Go.IntWalk

end Go.Proofs.YtklchpdpooikdaaGreatDoor

namespace Go.Proofs.YtklchpdpooikdaaGreatDoor
open Go.RowKit Go.Shelf Go.IntWalk

/-- World B is A, but for new blocks and those that S names. -/
structure GB (S : Nat → Prop) (A B : World) : Prop where
  os : B.os = A.os
  tape : B.tape = A.tape
  output : B.output = A.output
  size : A.heap.size ≤ B.heap.size
  same : ∀ q, q < A.heap.size → ¬ S q → B.heap[q]? = A.heap[q]?

theorem GB.refl (S : Nat → Prop) (A : World) : GB S A A := ⟨rfl, rfl, rfl, Nat.le_refl _, fun _ _ _ => rfl⟩

theorem GB.step {S S' : Nat → Prop} {A B C : World} {row : Option Nat} (h : GB S A B) (hg : B.grownBy C row) (hS : ∀ q, S q → S' q) (hr : ∀ q, row = some q → S' q) : GB S' A C :=
  ⟨hg.os.trans h.os, hg.tape.trans h.tape, hg.output.trans h.output, Nat.le_trans h.size hg.size, fun q hq hn =>
    (hg.block q (Nat.lt_of_lt_of_le hq h.size) (fun e => hn (hr q e.symm))).trans (h.same q hq (fun hs => hn (hS q hs)))⟩

theorem GB.belowA {S : Nat → Prop} {A B C : World} (h : GB S A B) (hb : Below B.heap.size B C) : GB S A C :=
  h.step (grown_of_below (r := none) hb) (fun _ h => h) (by intro q e; cases e)

theorem GB.toBelow {S : Nat → Prop} {A B : World} {N : Nat} (h : GB S A B) (hN : N ≤ A.heap.size) (hS : ∀ q, S q → N ≤ q) : Below N A B :=
  ⟨h.os, h.tape, h.output, h.size, fun k hk => h.same k (by omega) (fun hs => by have := hS k hs; omega)⟩

theorem GB.rowNe {S : Nat → Prop} {A B : World} {base : Nat} {e : TypeId} {size : Nat} {v : Value} {k : Nat} {xs : List Value} (hg : GB S A B) (h : A.ownsRow base e size v k xs) (hr : ∀ q, v.ownBlock = some q → ¬ S q) : B.ownsRow base e size v k xs := by
  obtain ⟨hl, h | ⟨g, cap, cur, rfl, hb, hh, rest⟩⟩ := h
  · exact ⟨hl, .inl h⟩
  · exact ⟨hl, .inr ⟨g, cap, cur, rfl, hb, (hg.same g (Array.getElem?_eq_some_iff.1 hh).1 (hr g rfl)).trans hh, rest⟩⟩

/-- The contents of a row of elements, up to the k-th. -/
def SB (cs : List Value) (k : Nat) (q : Nat) : Prop := ∃ j s, j < k ∧ cs[2 * j + 1]? = some s ∧ s.ownBlock = some q

theorem EMatch.get7 {W : World} {base : Nat} : ∀ {cs : List Value} {es : List (Int × List Int)}, EMatch W base cs es → ∀ i, i < es.length →
    ∃ ao m c, cs[2 * i]? = some (.int .i64 (es.getD i (0, [])).1) ∧ cs[2 * i + 1]? = some (.slice ao m c) ∧ OwnB W base (.slice ao m c) (es.getD i (0, [])).2
  | [], [], _, i, h => by simp at h
  | a :: s :: cs, e :: es, ⟨h1, ⟨ao, m, c, h2⟩, h3, h4⟩, i, h => by
    cases i with
    | zero => exact ⟨ao, m, c, by simp [h1], by simp [h2], by simpa [h2] using h3⟩
    | succ i =>
      obtain ⟨ao', m', c', k1, k2, k3⟩ := EMatch.get7 h4 i (by simpa using h)
      exact ⟨ao', m', c', by rw [show 2 * (i + 1) = 2 * i + 1 + 1 by omega]; simpa using k1, by rw [show 2 * (i + 1) + 1 = 2 * i + 1 + 1 + 1 by omega]; simpa using k2, by simpa using k3⟩

theorem SB.at {W : World} {base : Nat} {cs : List Value} {es : List (Int × List Int)} (hm : EMatch W base cs es) {k q : Nat} (h : SB cs k q) : base ≤ q ∧ q < W.heap.size ∧ ∃ cu, W.heap[q]? = some (.cells cu 5 (0, 0)) := by
  obtain ⟨j, s, hj, h1, h2⟩ := h
  have hl := hm.len
  have hjl : j < es.length := by
    rcases Nat.lt_or_ge j es.length with h' | h'
    · exact h'
    · rw [List.getElem?_eq_none (by omega)] at h1; cases h1
  obtain ⟨ao, m, c, _, k2, k3⟩ := hm.get7 j hjl
  rw [h1] at k2
  cases k2
  have h4 := k3.lt q h2
  exact ⟨h4.1, h4.2, row_type k3 q h2⟩

theorem SB.mono {cs : List Value} {k : Nat} {q : Nat} (h : SB cs k q) : SB cs (k + 1) q := by
  obtain ⟨j, s, hj, h⟩ := h
  exact ⟨j, s, by omega, h⟩

theorem GB.box {S : Nat → Prop} {A B : World} (hg : GB S A B) (hS : ∀ q, S q → ∃ cu, A.heap[q]? = some (.cells cu 5 (0, 0))) {b : Nat} {t : TypeId} {v : Value} (h : Boxed A b t v) (ht : t ≠ 5) : Boxed B b t v := by
  refine (hg.same b h.lt (fun hs => ?_)).trans h
  obtain ⟨cu, h2⟩ := hS b hs
  rw [show A.heap[b]? = _ from h] at h2
  cases h2
  exact ht rfl

theorem GB.rowT {S : Nat → Prop} {A B : World} (hg : GB S A B) (hS : ∀ q, S q → ∃ cu, A.heap[q]? = some (.cells cu 5 (0, 0))) {base : Nat} {e : TypeId} {size : Nat} {v : Value} {k : Nat} {xs : List Value} (h : A.ownsRow base e size v k xs) (he : e ≠ 5) : B.ownsRow base e size v k xs :=
  hg.rowNe h (fun q hq hs => by
    obtain ⟨c, h1⟩ := row_type h q hq
    obtain ⟨cu, h2⟩ := hS q hs
    rw [h1] at h2
    cases h2
    exact he rfl)

theorem GB.rowSt {S : Nat → Prop} {A B : World} (hg : GB S A B) (hS : ∀ q, S q → ∃ cu, A.heap[q]? = some (.cells cu 5 (0, 0))) {base : Nat} {L P : Value} {xs : List Int} {ps : List Nat} {cs : List Value} (h : RowSt A base L P xs ps cs) (hb : ∀ q, S q → q < base) : RowSt B base L P xs ps cs :=
  ⟨hg.rowT hS h.hl (by decide), h.hm.kept (fun s ys hs => hg.rowNe hs (fun q hq hs' => by have := (OwnB.lt hs q hq).1; have := hb q hs'; omega)), hg.rowT hS h.hp (by decide)⟩

end Go.Proofs.YtklchpdpooikdaaGreatDoor

namespace Go.Proofs.YtklchpdpooikdaaGreatDoor

/-- The byte at a place (0 behind the end). -/
def bt (l : List UInt8) (k : Nat) : Nat := (l.getD k 0).toNat
/-- Does a byte stand at a place that goes on with a character? -/
def ct (l : List UInt8) (k : Nat) : Bool := decide (k < l.length) && (bt l k / 64 == 2)
theorem ct_iff (l : List UInt8) (k : Nat) : ct l k = true ↔ k < l.length ∧ bt l k / 64 = 2 := by simp [ct]

theorem bt_lt (l : List UInt8) (k : Nat) : bt l k < 256 := (l.getD k 0).toNat_lt

/-- How many bytes the character has with which a row begins (0: none does). -/
def charL (l : List UInt8) : Nat :=
  if bt l 0 < 128 then 1
  else if bt l 0 / 32 = 6 ∧ ct l 1 then (if 128 ≤ (bt l 0 % 32) * 64 + bt l 1 % 64 then 2 else 0)
  else if bt l 0 / 16 = 14 ∧ ct l 1 ∧ ct l 2 then
    (if 2048 ≤ (bt l 0 % 16) * 4096 + (bt l 1 % 64) * 64 + bt l 2 % 64 ∧ ¬ (55296 ≤ (bt l 0 % 16) * 4096 + (bt l 1 % 64) * 64 + bt l 2 % 64 ∧ (bt l 0 % 16) * 4096 + (bt l 1 % 64) * 64 + bt l 2 % 64 ≤ 57343) then 3 else 0)
  else if bt l 0 / 8 = 30 ∧ ct l 1 ∧ ct l 2 ∧ ct l 3 then
    (if 65536 ≤ (bt l 0 % 8) * 262144 + (bt l 1 % 64) * 4096 + (bt l 2 % 64) * 64 + bt l 3 % 64 ∧ (bt l 0 % 8) * 262144 + (bt l 1 % 64) * 4096 + (bt l 2 % 64) * 64 + bt l 3 % 64 ≤ 1114111 then 4 else 0)
  else 0

theorem charL_le (l : List UInt8) (h : 0 < l.length) : charL l ≤ l.length := by
  unfold charL
  repeat' split
  all_goals first | omega | skip
  · rename_i h1 h2 h3; have := ((ct_iff _ _).1 h2.2).1; omega
  · rename_i h1 h2 h3 h4; have := ((ct_iff _ _).1 h3.2.2).1; omega
  · rename_i h1 h2 h3 h4 h5; have := ((ct_iff _ _).1 h4.2.2.2).1; omega

theorem charL_le4 (l : List UInt8) : charL l ≤ 4 := by
  unfold charL
  repeat' split
  all_goals omega

theorem get_bt (s : ByteArray) (i k : Nat) : (s.get! (i + k)).toNat = bt (s.data.toList.drop i) k := by
  unfold bt
  congr 1
  show s.data[i + k]! = _
  rw [List.getD_eq_getElem?_getD, List.getElem?_drop, Array.getElem?_toList, Array.getElem!_eq_getD, Array.getD_eq_getD_getElem?]
  rfl

/-- What the bytes at a place are decoded as. -/
theorem decode_char (s : ByteArray) (i : Nat) (h : i < s.size) :
    (charL (s.data.toList.drop i) = 0 ∧ Utf8.decode s i = (65533, 1)) ∨
    (charL (s.data.toList.drop i) ≠ 0 ∧ (Utf8.decode s i).2 = charL (s.data.toList.drop i) ∧ ((Utf8.decode s i).1 = 65533 → bt (s.data.toList.drop i) 0 = 239 ∧ bt (s.data.toList.drop i) 1 = 191 ∧ bt (s.data.toList.drop i) 2 = 189 ∧ 3 ≤ (s.data.toList.drop i).length)) := by
  have hl : ∀ k, (i + k < s.size) ↔ k < (s.data.toList.drop i).length := fun k => by rw [List.length_drop, Array.length_toList]; show _ ↔ k < s.size - i; omega
  unfold Utf8.decode charL
  simp only [get_bt, hl]
  generalize s.data.toList.drop i = l
  have h0 := bt_lt l 0; have h1 := bt_lt l 1; have h2 := bt_lt l 2; have h3 := bt_lt l 3
  simp only [Utf8.valid, Utf8.runeError, ct_iff, Bool.and_eq_true, Bool.or_eq_true, decide_eq_true_eq, beq_iff_eq, ge_iff_le]
  generalize bt l 0 = b0 at *
  generalize bt l 1 = b1 at *
  generalize bt l 2 = b2 at *
  generalize bt l 3 = b3 at *
  by_cases g0 : b0 < 128
  · right; simp only [g0, if_true]; refine ⟨by decide, trivial, fun h => by omega⟩
  simp only [g0, if_false]
  by_cases g1 : b0 / 32 = 6
  · have q1 : ¬ b0 / 16 = 14 := by omega
    have q2 : ¬ b0 / 8 = 30 := by omega
    simp only [g1, q1, q2, true_and, false_and, if_false]
    by_cases g2 : 1 < l.length ∧ b1 / 64 = 2
    · simp only [g2, and_self, if_true]
      by_cases g3 : 128 ≤ b0 % 32 * 64 + b1 % 64
      · right; simp only [g3, if_true]; refine ⟨by decide, trivial, fun h => by omega⟩
      · left; simp only [g3, if_false, and_self]
    · left; simp only [g2, if_false, and_self]
  simp only [g1, false_and, if_false]
  by_cases g4 : b0 / 16 = 14
  · have q2 : ¬ b0 / 8 = 30 := by omega
    simp only [g4, q2, true_and, false_and, if_false]
    by_cases g2 : (1 < l.length ∧ b1 / 64 = 2) ∧ 2 < l.length ∧ b2 / 64 = 2
    · have g2' := g2
      simp only [g2, and_self, if_true]
      by_cases g3 : 2048 ≤ b0 % 16 * 4096 + b1 % 64 * 64 + b2 % 64 ∧ ¬ (55296 ≤ b0 % 16 * 4096 + b1 % 64 * 64 + b2 % 64 ∧ b0 % 16 * 4096 + b1 % 64 * 64 + b2 % 64 ≤ 57343)
      · right
        rw [if_pos g3, if_pos (by omega)]
        refine ⟨by decide, rfl, fun h => ?_⟩
        have h : b0 % 16 * 4096 + b1 % 64 * 64 + b2 % 64 = 65533 := h
        omega
      · left
        rw [if_neg g3, if_neg (by omega)]
        exact ⟨rfl, rfl⟩
    · left; simp only [g2, if_false, and_self]
  simp only [g4, false_and, if_false]
  by_cases g5 : b0 / 8 = 30
  · simp only [g5, true_and]
    by_cases g2 : ((1 < l.length ∧ b1 / 64 = 2) ∧ 2 < l.length ∧ b2 / 64 = 2) ∧ 3 < l.length ∧ b3 / 64 = 2
    · have g2' : (1 < l.length ∧ b1 / 64 = 2) ∧ (2 < l.length ∧ b2 / 64 = 2) ∧ 3 < l.length ∧ b3 / 64 = 2 := ⟨g2.1.1, g2.1.2, g2.2⟩
      rw [if_pos g2, if_pos g2']
      by_cases g3 : 65536 ≤ b0 % 8 * 262144 + b1 % 64 * 4096 + b2 % 64 * 64 + b3 % 64 ∧ b0 % 8 * 262144 + b1 % 64 * 4096 + b2 % 64 * 64 + b3 % 64 ≤ 1114111
      · right
        rw [if_pos g3, if_pos (by omega)]
        refine ⟨by decide, rfl, fun h => ?_⟩
        have h : b0 % 8 * 262144 + b1 % 64 * 4096 + b2 % 64 * 64 + b3 % 64 = 65533 := h
        omega
      · left
        rw [if_neg g3, if_neg (by omega)]
        exact ⟨rfl, rfl⟩
    · left
      have g2' : ¬ ((1 < l.length ∧ b1 / 64 = 2) ∧ (2 < l.length ∧ b2 / 64 = 2) ∧ 3 < l.length ∧ b3 / 64 = 2) := fun h => g2 ⟨⟨h.1, h.2.1⟩, h.2.2⟩
      rw [if_neg g2, if_neg g2']
      exact ⟨rfl, rfl⟩
  left
  simp only [g5, false_and, if_false, and_self]

/-- No character begins where the bytes of the mark for a wrong one don't stand. -/
theorem charL_mark (l : List UInt8) (h : charL l = 0) : ¬ (bt l 0 = 239 ∧ bt l 1 = 191 ∧ bt l 2 = 189 ∧ 3 ≤ l.length) := by
  rintro ⟨h0, h1, h2, h3⟩
  have c1 : ct l 1 = true := (ct_iff _ _).2 ⟨by omega, by rw [h1]⟩
  have c2 : ct l 2 = true := (ct_iff _ _).2 ⟨by omega, by rw [h2]⟩
  simp [charL, h0, h1, h2, c1, c2] at h

/-- How far a row is UTF-8. -/
def validF : Nat → List UInt8 → Nat
  | 0, _ => 0
  | f + 1, l => if l.length = 0 ∨ charL l = 0 then 0 else charL l + validF f (l.drop (charL l))
def validL (l : List UInt8) : Nat := validF l.length l

theorem validF_le : ∀ (f : Nat) (l : List UInt8), validF f l ≤ l.length
  | 0, l => by simp [validF]
  | f + 1, l => by
    have ih := validF_le f (l.drop (charL l))
    rw [List.length_drop] at ih
    unfold validF
    split
    · omega
    · rename_i h
      have := charL_le l (by omega)
      omega

theorem validF_more : ∀ (f g : Nat) (l : List UInt8), l.length ≤ f → l.length ≤ g → validF f l = validF g l
  | 0, 0, _, _, _ => rfl
  | 0, g + 1, l, h, _ => by have : l.length = 0 := by omega
                            simp [validF, this]
  | f + 1, 0, l, _, h => by have : l.length = 0 := by omega
                            simp [validF, this]
  | f + 1, g + 1, l, hf, hg => by
    unfold validF
    split
    · rfl
    · rename_i h
      rw [validF_more f g (l.drop (charL l)) (by rw [List.length_drop]; omega) (by rw [List.length_drop]; omega)]

theorem validL_stop (l : List UInt8) (h : l.length = 0 ∨ charL l = 0) : validL l = 0 := by
  unfold validL
  cases hl : l.length with
  | zero => rfl
  | succ n => unfold validF; rw [if_pos h]

theorem validL_step (l : List UInt8) (h : 0 < l.length) (hc : charL l ≠ 0) : validL l = charL l + validL (l.drop (charL l)) := by
  unfold validL
  obtain ⟨n, hn⟩ : ∃ n, l.length = n + 1 := ⟨l.length - 1, by omega⟩
  rw [hn]
  show validF (n + 1) l = _
  rw [validF, if_neg (by omega)]
  rw [validF_more n _ (l.drop (charL l)) (by rw [List.length_drop]; omega) (Nat.le_refl _)]

theorem validL_le (l : List UInt8) : validL l ≤ l.length := validF_le _ _

end Go.Proofs.YtklchpdpooikdaaGreatDoor

namespace Go.Proofs.YtklchpdpooikdaaGreatDoor

/-- The words of what has been gone over since the last blank, and of what is left. -/
def wordsG (cur : List UInt8) : List UInt8 → List (List UInt8)
  | [] => if cur.length = 0 then [] else [cur]
  | b :: r => if b = 32 then (if cur.length = 0 then wordsG [] r else cur :: wordsG [] r) else wordsG (cur ++ [b]) r
/-- The words of a row of bytes. -/
def wordsL (l : List UInt8) : List (List UInt8) := wordsG [] l

theorem wordsG_run : ∀ (u r cur : List UInt8), (∀ b ∈ u, b ≠ 32) → wordsG cur (u ++ r) = wordsG (cur ++ u) r
  | [], r, cur, _ => by simp
  | b :: u, r, cur, h => by
    rw [List.cons_append, wordsG, if_neg (h b (by simp)), wordsG_run u r (cur ++ [b]) (fun x hx => h x (List.mem_cons_of_mem _ hx))]
    simp

theorem wordsG_all : ∀ (r cur : List UInt8), (∀ u ∈ wordsG cur r, 0 < u.length)
  | [], cur => by
    intro u hu
    rw [wordsG] at hu
    split at hu
    · cases hu
    · simp at hu; subst hu; omega
  | b :: r, cur => by
    intro u hu
    rw [wordsG] at hu
    split at hu
    · split at hu
      · exact wordsG_all r [] u hu
      · rcases List.mem_cons.1 hu with rfl | hu
        · omega
        · exact wordsG_all r [] u hu
    · exact wordsG_all r _ u hu

theorem wordsL_pos (l : List UInt8) : ∀ u ∈ wordsL l, 0 < u.length := wordsG_all l []

/-- How many words there are, and how long they are together with what stands between. -/
def spanW : List (List UInt8) → Nat
  | [] => 0
  | u :: r => u.length + 1 + spanW r

theorem spanW_le : ∀ (r cur : List UInt8), spanW (wordsG cur r) ≤ cur.length + r.length + 1
  | [], cur => by
    rw [wordsG]
    split
    · simp [spanW]
    · simp [spanW]
  | b :: r, cur => by
    rw [wordsG, List.length_cons]
    split
    · split
      · have := spanW_le r []; simp at this; omega
      · have := spanW_le r []; simp at this; simp only [spanW]; omega
    · have := spanW_le r (cur ++ [b]); simp at this; omega

theorem words_count (ws : List (List UInt8)) : ws.length ≤ spanW ws := by
  induction ws with
  | nil => simp [spanW]
  | cons u r ih => simp only [spanW, List.length_cons]; omega

/-- What stands from a place on, up to another one. -/
def cutL (l : List UInt8) (a b : Nat) : List UInt8 := (l.take b).drop a

theorem cutL_len (l : List UInt8) (a b : Nat) (hb : b ≤ l.length) : (cutL l a b).length = b - a := by unfold cutL; rw [List.length_drop, List.length_take]; omega

theorem cutL_more (l : List UInt8) (a p n : Nat) (h : a ≤ p) (hp : p ≤ l.length) : cutL l a p ++ (l.drop p).take n = cutL l a (p + n) := by
  unfold cutL
  rw [List.take_add, List.drop_append_of_le_length (by rw [List.length_take]; omega)]

theorem cutL_same (l : List UInt8) (a : Nat) : cutL l a a = [] := by unfold cutL; rw [List.drop_eq_nil_of_le (by rw [List.length_take]; omega)]

/-- A step over bytes that are no blanks. -/
theorem words_step (l : List UInt8) (a p n : Nat) (h : a ≤ p) (hp : p ≤ l.length) (hn : ∀ b ∈ (l.drop p).take n, b ≠ 32) : wordsG (cutL l a p) (l.drop p) = wordsG (cutL l a (p + n)) (l.drop (p + n)) := by
  have h1 := wordsG_run ((l.drop p).take n) ((l.drop p).drop n) (cutL l a p) hn
  rw [List.take_append_drop, cutL_more l a p n h hp, List.drop_drop] at h1
  exact h1

/-- A step over a blank. -/
theorem words_blank (l : List UInt8) (a p : Nat) (hp : p < l.length) (hb : l[p]'hp = 32) (h : a ≤ p) :
    wordsG (cutL l a p) (l.drop p) = if a = p then wordsG (cutL l (p + 1) (p + 1)) (l.drop (p + 1)) else cutL l a p :: wordsG (cutL l (p + 1) (p + 1)) (l.drop (p + 1)) := by
  rw [List.drop_eq_getElem_cons hp, wordsG, if_pos hb, cutL_len l a p (by omega), cutL_same]
  by_cases e : a = p
  · rw [if_pos (by omega), if_pos e]
  · rw [if_neg (by omega), if_neg e]

theorem words_end (l : List UInt8) (a : Nat) (h : a ≤ l.length) : wordsG (cutL l a l.length) (l.drop l.length) = if a = l.length then [] else [cutL l a l.length] := by
  rw [List.drop_length, wordsG, cutL_len l a _ (Nat.le_refl _)]
  by_cases e : a = l.length
  · rw [if_pos (by omega), if_pos e]
  · rw [if_neg (by omega), if_neg e]

theorem words_begin (l : List UInt8) : wordsL l = wordsG (cutL l 0 0) (l.drop 0) := by unfold wordsL; rw [cutL_same]; rfl

/-- No byte of a character of more than one byte is a blank; nor of what is none. -/
theorem char_noblank (l : List UInt8) (n : Nat) (h : 128 ≤ bt l 0) (hn : n = charL l ∨ n = 1) : ∀ b ∈ l.take n, b ≠ 32 := by
  intro b hb
  obtain ⟨k, hk, rfl⟩ := List.getElem_of_mem hb
  rw [List.length_take] at hk
  rw [List.getElem_take]
  have e : (l[k]'(by omega)).toNat = bt l k := by unfold bt; rw [List.getD_eq_getElem?_getD, List.getElem?_eq_getElem (by omega)]; rfl
  have hbk : bt l k ≠ 32 := by
    rcases Nat.eq_zero_or_pos k with rfl | hk0
    · omega
    · have hc : n = charL l := by omega
      subst hc
      have hck : ct l k = true := by
        unfold charL at hk
        rw [if_neg (by omega)] at hk
        split at hk
        · rename_i h1
          split at hk
          · obtain rfl : k = 1 := by omega
            exact h1.2
          · omega
        · split at hk
          · rename_i h1
            split at hk
            · rcases (by omega : k = 1 ∨ k = 2) with rfl | rfl
              · exact h1.2.1
              · exact h1.2.2
            · omega
          · split at hk
            · rename_i h1
              split at hk
              · rcases (by omega : k = 1 ∨ k = 2 ∨ k = 3) with rfl | rfl | rfl
                · exact h1.2.1
                · exact h1.2.2.1
                · exact h1.2.2.2
              · omega
            · omega
      have := ((ct_iff _ _).1 hck).2
      omega
  intro e2
  apply hbk
  rw [← e, e2]
  rfl

end Go.Proofs.YtklchpdpooikdaaGreatDoor

namespace Go.Proofs.YtklchpdpooikdaaGreatDoor
open Go.RowKit Go.IntWalk

/-- Do so many bytes go on with a character? -/
def mores (l : List UInt8) : Nat → Bool
  | 0 => true
  | n + 1 => mores l n && ct l n

theorem mores_stop (l : List UInt8) (k : Nat) (h : ct l k = false) : ∀ n, k < n → mores l n = false
  | 0, hk => by omega
  | n + 1, hk => by
    unfold mores
    by_cases e : k = n
    · subst e; rw [h, Bool.and_false]
    · rw [mores_stop l k h n (by omega), Bool.false_and]

theorem mores_next (l : List UInt8) (k : Nat) (h : mores l k = true) (hc : ct l k = true) : mores l (k + 1) = true := by unfold mores; rw [h, hc]; rfl

/-- The byte at a place behind another one. -/
theorem byte_at (s : ByteArray) (a k : Nat) (h : a + k < s.size) : (s[a + k]'h).toNat = bt (s.data.toList.drop a) k := by
  rw [← get_bt, ByteArray.get!, getElem!_pos s.data (a + k) h]
  rfl

theorem len_at (s : ByteArray) (a : Nat) : (s.data.toList.drop a).length = s.size - a := by rw [List.length_drop, Array.length_toList]; rfl

set_option maxRecDepth 100000 in
set_option maxHeartbeats 1000000 in
theorem more_any (s : ByteArray) (a n : Nat) (hn : n ≤ 3) (hs : s.size ≤ 140737488355328) (ha : a ≤ s.size) (w : World) :
    Calls Tryz.prog 187 #[.string s, .int .i64 a, .int .i64 n] w fun e w' => e = .returned (.bool (mores (s.data.toList.drop a) n)) ∧ w' = w := by
  have hB := hide (byte_at s a)
  have hL := hide (len_at s a)
  generalize s.data.toList.drop a = l at hB hL ⊢
  go_enter Tryz.func187, Tryz.ntmps187
  go_wp2
  go_loop [7] (fun i => ∃ k : Nat, i = .int .i64 k ∧ k ≤ n ∧ Hid (mores l k = true)) (fun i => n - (intOf i).toNat)
  case atStart => exact ⟨0, rfl, by omega, rfl⟩
  case round =>
    obtain ⟨k, rfl, hk, hm⟩ := hrel
    have hno := hide (fun h => mores_stop l k h n)
    have hye := hide (mores_next l k hm.out)
    have hct := hide (ct_iff l k)
    have hn' : Hid (k = n → mores l n = true) := fun e => e ▸ hm.out
    go_wp2
    case roundEnd =>
      refine ⟨⟨k + 1, by simp, by omega, hye.out (hct.out.2 ?_)⟩, by simp [intOf]; omega⟩
      have h1 := hB.out k (by omega)
      have h2 := hL.out
      omega
    all_goals go_ret
    all_goals refine ⟨?_, rfl⟩
    all_goals first
      | (rw [hn'.out (by omega)]; rfl)
      | (have h2 := hL.out
         have h3 : ct l k = false := by
           refine Bool.eq_false_iff.2 fun h => ?_
           have h4 := hct.out.1 h
           first
             | (have h1 := hB.out k (by omega); omega)
             | omega
         rw [hno.out h3 (by omega)]; rfl)

end Go.Proofs.YtklchpdpooikdaaGreatDoor
