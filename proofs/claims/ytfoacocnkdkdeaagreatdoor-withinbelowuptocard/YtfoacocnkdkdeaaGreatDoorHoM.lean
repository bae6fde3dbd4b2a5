/-
  Hosts' names, on lists of bytes: labels, what a host's name is, a wild name, a mail address, a network address.
-/
import Derived.Lib.IndexMore
import Derived.Lib.Index
namespace Go.Proofs.YtfoacocnkdkdeaaGreatDoor

/-- The bytes ahead of the first byte d, those behind it, and whether there is one. -/
def cutD (d : UInt8) : List UInt8 → List UInt8 × List UInt8 × Bool
  | [] => ([], [], false)
  | c :: r => if c = d then ([], r, true) else (c :: (cutD d r).1, (cutD d r).2.1, (cutD d r).2.2)

theorem cutD_rest (d : UInt8) : ∀ l, (cutD d l).2.1.length ≤ l.length ∧ (cutD d l).1.length ≤ l.length ∧ ((cutD d l).2.2 = true → (cutD d l).2.1.length < l.length)
  | [] => by simp [cutD]
  | c :: r => by
    have ih := cutD_rest d r
    rw [cutD]
    split
    · simp
    · refine ⟨Nat.le_succ_of_le ih.1, by simp; exact ih.2.1, fun h => Nat.lt_succ_of_lt (ih.2.2 h)⟩

theorem cutD_no (d : UInt8) : ∀ l, (cutD d l).2.2 = false → (cutD d l).2.1 = []
  | [], _ => rfl
  | c :: r, h => by
    rw [cutD] at h ⊢
    split at h
    · cases h
    · rename_i hc; rw [if_neg hc]; exact cutD_no d r h

/-- The library's cut at one byte. -/
theorem cut_one (d : UInt8) : ∀ l : List UInt8, Lib.cut l [d] = cutD d l
  | [] => by simp [cutD, Lib.cut, Lib.index]
  | c :: r => by
    have ih := cut_one d r
    rw [cutD]
    by_cases hd : c = d
    · subst hd
      rw [if_pos rfl]
      simp [Lib.cut, Lib.index]
    · rw [if_neg hd]
      have hne : (d == c) = false := by rw [beq_eq_false_iff_ne]; exact fun e => hd e.symm
      have hx : Lib.index (c :: r) [d] = if Lib.index r [d] == -1 then -1 else Lib.index r [d] + 1 := by
        rw [Lib.index]
        simp [List.isPrefixOf, hne]
      have hge := Lib.index_ge r [d]
      unfold Lib.cut at ih ⊢
      rw [hx]
      by_cases h0 : 0 ≤ Lib.index r [d]
      · rw [if_pos h0] at ih
        have hb1 : (Lib.index r [d] == -1) = false := by rw [beq_eq_false_iff_ne]; omega
        rw [hb1]
        simp only [Bool.false_eq_true, if_false]
        rw [if_pos (by omega)]
        have e1 : (Lib.index r [d] + 1).toNat = (Lib.index r [d]).toNat + 1 := by omega
        rw [e1, ← ih]
        simp
      · rw [if_neg h0] at ih
        have hb1 : (Lib.index r [d] == -1) = true := by rw [beq_iff_eq]; omega
        rw [hb1]
        simp only [if_true]
        rw [if_neg (by omega), ← ih]

/-- The pieces between dots; acc: the bytes of the first one so far. -/
def labsG : List UInt8 → List UInt8 → List (List UInt8)
  | acc, [] => [acc]
  | acc, c :: r => if c = 46 then acc :: labsG [] r else labsG (acc ++ [c]) r
def labs (l : List UInt8) : List (List UInt8) := labsG [] l

theorem labsG_cut : ∀ (l acc : List UInt8), labsG acc l = (acc ++ (cutD 46 l).1) :: (if (cutD 46 l).2.2 = true then labs (cutD 46 l).2.1 else [])
  | [], acc => by simp [labsG, cutD]
  | c :: r, acc => by
    rw [labsG, cutD]
    by_cases hc : c = 46
    · rw [if_pos hc, if_pos hc]; simp [labs]
    · rw [if_neg hc, if_neg hc, labsG_cut r]; simp
theorem labs_cut (l : List UInt8) : labs l = (cutD 46 l).1 :: (if (cutD 46 l).2.2 = true then labs (cutD 46 l).2.1 else []) := labsG_cut l []
theorem labsG_len : ∀ (l acc : List UInt8), (labsG acc l).length ≤ l.length + 1
  | [], _ => by simp [labsG]
  | c :: r, acc => by
    rw [labsG]
    split
    · have := labsG_len r []; simp; omega
    · have := labsG_len r (acc ++ [c]); simp; omega
theorem labsG_ne : ∀ (l acc : List UInt8), labsG acc l ≠ []
  | [], _ => by simp [labsG]
  | c :: r, acc => by
    rw [labsG]
    split
    · simp
    · exact labsG_ne r _
theorem labsG_mem : ∀ (l acc : List UInt8), ∀ u ∈ labsG acc l, u.length ≤ acc.length + l.length
  | [], acc, u, h => by simp [labsG] at h; subst h; simp
  | c :: r, acc, u, h => by
    rw [labsG] at h
    split at h
    · rcases List.mem_cons.1 h with rfl | h
      · simp
      · have := labsG_mem r [] u h; simp at this ⊢; omega
    · have := labsG_mem r _ u h; simp at this ⊢; omega

/-- A digit, a letter or a digit. -/
def digN (n : Nat) : Bool := decide (48 ≤ n ∧ n ≤ 57)
def plN (n : Nat) : Bool := decide (65 ≤ n ∧ n ≤ 90) || decide (97 ≤ n ∧ n ≤ 122) || digN n
/-- Does each byte stand where it may? -/
def allP (f : Nat → Nat → Bool) : Nat → List UInt8 → Bool
  | _, [] => true
  | k, b :: r => f k b.toNat && allP f (k + 1) r
theorem allP_at (f : Nat → Nat → Bool) (l : List UInt8) (k : Nat) (h : k < l.length) : allP f k (l.drop k) = (f k (l[k]'h).toNat && allP f (k + 1) (l.drop (k + 1))) := by
  rw [List.drop_eq_getElem_cons h, allP]
theorem allP_all (g : Nat → Bool) : ∀ (l : List UInt8) (k : Nat), allP (fun _ n => g n) k l = l.all (fun b => g b.toNat)
  | [], _ => rfl
  | b :: r, k => by rw [allP, List.all_cons, allP_all g r]

/-- May a label's byte stand at its place? -/
def labP (n : Nat) (k b : Nat) : Bool := plN b || (decide (b = 45) && (decide (0 < k) && decide (k + 1 < n)))
/-- Is a text a label? is it digits alone? -/
def labL (l : List UInt8) : Bool := decide (0 < l.length) && (decide (l.length ≤ 63) && allP (labP l.length) 0 l)
def numL (l : List UInt8) : Bool := l.all (fun b => digN b.toNat)
/-- Are all labels, and the last one (or, of none, this one) not digits alone? -/
def dnsG : List UInt8 → List (List UInt8) → Bool
  | last, [] => !numL last
  | _, u :: ws => labL u && dnsG u ws
/-- Is a text a host's name? -/
def dnsL (l : List UInt8) : Bool := decide (l.length ≤ 253) && dnsG [] (labs l)
theorem dnsG_all : ∀ (ws : List (List UInt8)) (last : List UInt8), dnsG last ws = (ws.all labL && !numL (ws.getLast?.getD last))
  | [], last => by simp [dnsG]
  | u :: ws, last => by
    rw [dnsG, dnsG_all ws u, List.all_cons, Bool.and_assoc]
    congr 3
    cases ws with
    | nil => rfl
    | cons v ws => rw [List.getLast?_cons_cons]; cases h : (v :: ws).getLast? with
      | none => simp at h
      | some x => rfl
theorem dnsL_nil : dnsL [] = false := by decide
/-- Is a text a wild name? -/
def wildL : List UInt8 → Bool
  | a :: b :: r => decide (a = 42 ∧ b = 46) && (decide (r.length + 2 ≤ 253) && (dnsL r && r.contains 46))
  | _ => false

/-- May a byte stand in a local part, beside dots? -/
def locN (n : Nat) : Bool := plN n || (decide (n = 95) || (decide (n = 43) || decide (n = 45)))
/-- The pieces of a local part. -/
def locG (ws : List (List UInt8)) : Bool := ws.all (fun u => !u.isEmpty && u.all (fun b => locN b.toNat))
def locL (l : List UInt8) : Bool := decide (l.length ≤ 64) && locG (labs l)
/-- Is a text a mail address? -/
def mailL (l : List UInt8) : Bool := locL (cutD 64 l).1 && dnsL (cutD 64 l).2.1
/-- The same, byte by byte: p: does a dot, or nothing, stand ahead? -/
def locS : Bool → List UInt8 → Bool
  | p, [] => !p
  | p, c :: r => if c = 46 then !p && locS true r else locN c.toNat && locS false r
theorem locG_S : ∀ (l acc : List UInt8), locG (labsG acc l) = (acc.all (fun b => locN b.toNat) && locS acc.isEmpty l)
  | [], acc => by simp [labsG, locG, locS, Bool.and_comm]
  | c :: r, acc => by
    rw [labsG, locS]
    by_cases hc : c = 46
    · rw [if_pos hc, if_pos hc]
      show ((!acc.isEmpty && acc.all (fun b => locN b.toNat)) && locG (labsG [] r)) = _
      rw [locG_S r []]
      simp only [List.all_nil, Bool.true_and, List.isEmpty_nil]
      cases acc.isEmpty <;> cases acc.all (fun b => locN b.toNat) <;> simp
    · rw [if_neg hc, if_neg hc, locG_S r]
      have e : (acc ++ [c]).isEmpty = false := by cases acc <;> rfl
      rw [e, List.all_append]
      simp [Bool.and_assoc]
theorem locL_S (l : List UInt8) : locL l = (decide (l.length ≤ 64) && locS true l) := by
  unfold locL labs
  rw [locG_S]
  rfl

/-- Is a text a network address? -/
def ipL (l : List UInt8) : Bool := decide (l.length = 4) || decide (l.length = 16)

end Go.Proofs.YtfoacocnkdkdeaaGreatDoor
