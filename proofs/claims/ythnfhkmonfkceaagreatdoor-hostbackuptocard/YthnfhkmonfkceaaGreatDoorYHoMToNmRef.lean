/-
  Hosts' names, on lists of bytes: labels, what a host's name is, a wild name, a mail address, a network address.
  A name's text is read as that name: the maths. No program.
  The document's Words: the words of a text, as a row.
  The document's Fold: a text as it is compared.
  The document's Alike, Begins and Same of rows of attributes.
-/
import Derived.Lib.IndexMore
import Derived.Lib.Index
import Derived.Test.YthnfhkmonfkceaaGreatDoorYNmTx2ToNmRTx
import Derived.Test.YthnfhkmonfkceaaGreatDoorYNmTxtToNmRMay2
import Derived.Test.YthnfhkmonfkceaaGreatDoorYTxP4ToSize
import Derived.Test.YthnfhkmonfkceaaGreatDoorYTxTToNmThere
import Derived.Deep.QuietTactic
import Derived.BigQuiet
namespace Go.Proofs.YthnfhkmonfkceaaGreatDoor

/-- The bytes ahead of the first byte d, those behind it, and whether there is one. -/
def cutD (d : UInt8) : List UInt8 → List UInt8 × List UInt8 × Bool
  | [] => ([], [], false)
  | c :: r => if c = d then ([], r, true) else (c :: (cutD d r).1, (cutD d r).2.1, (cutD d r).2.2)

theorem cutD_rest (d : UInt8) : ∀ l, (cutD d l).2.1.length ≤ l.length ∧ (cutD d l).1.length ≤ l.length ∧ ((cutD d l).2.2 = true → (cutD d l).2.1.length < l.length)
  | [] => by simp [cutD]
  | c :: r => by
    have ih := cutD_rest d r
    rw [cutD]
    split
    · simp
    · refine ⟨Nat.le_succ_of_le ih.1, by simp; exact ih.2.1, fun h => Nat.lt_succ_of_lt (ih.2.2 h)⟩

theorem cutD_no (d : UInt8) : ∀ l, (cutD d l).2.2 = false → (cutD d l).2.1 = []
  | [], _ => rfl
  | c :: r, h => by
    rw [cutD] at h ⊢
    split at h
    · cases h
    · rename_i hc; rw [if_neg hc]; exact cutD_no d r h

/-- The library's cut at one byte. -/
theorem cut_one (d : UInt8) : ∀ l : List UInt8, Lib.cut l [d] = cutD d l
  | [] => by simp [cutD, Lib.cut, Lib.index]
  | c :: r => by
    have ih := cut_one d r
    rw [cutD]
    by_cases hd : c = d
    · subst hd
      rw [if_pos rfl]
      simp [Lib.cut, Lib.index]
    · rw [if_neg hd]
      have hne : (d == c) = false := by rw [beq_eq_false_iff_ne]; exact fun e => hd e.symm
      have hx : Lib.index (c :: r) [d] = if Lib.index r [d] == -1 then -1 else Lib.index r [d] + 1 := by
        rw [Lib.index]
        simp [List.isPrefixOf, hne]
      have hge := Lib.index_ge r [d]
      unfold Lib.cut at ih ⊢
      rw [hx]
      by_cases h0 : 0 ≤ Lib.index r [d]
      · rw [if_pos h0] at ih
        have hb1 : (Lib.index r [d] == -1) = false := by rw [beq_eq_false_iff_ne]; omega
        rw [hb1]
        simp only [Bool.false_eq_true, if_false]
        rw [if_pos (by omega)]
        have e1 : (Lib.index r [d] + 1).toNat = (Lib.index r [d]).toNat + 1 := by omega
        rw [e1, ← ih]
        simp
      · rw [if_neg h0] at ih
        have hb1 : (Lib.index r [d] == -1) = true := by rw [beq_iff_eq]; omega
        rw [hb1]
        simp only [if_true]
        rw [if_neg (by omega), ← ih]

/-- The pieces between dots; acc: the bytes of the first one so far. -/
def labsG : List UInt8 → List UInt8 → List (List UInt8)
  | acc, [] => [acc]
  | acc, c :: r => if c = 46 then acc :: labsG [] r else labsG (acc ++ [c]) r
def labs (l : List UInt8) : List (List UInt8) := labsG [] l

theorem labsG_cut : ∀ (l acc : List UInt8), labsG acc l = (acc ++ (cutD 46 l).1) :: (if (cutD 46 l).2.2 = true then labs (cutD 46 l).2.1 else [])
  | [], acc => by simp [labsG, cutD]
  | c :: r, acc => by
    rw [labsG, cutD]
    by_cases hc : c = 46
    · rw [if_pos hc, if_pos hc]; simp [labs]
    · rw [if_neg hc, if_neg hc, labsG_cut r]; simp
theorem labs_cut (l : List UInt8) : labs l = (cutD 46 l).1 :: (if (cutD 46 l).2.2 = true then labs (cutD 46 l).2.1 else []) := labsG_cut l []
theorem labsG_len : ∀ (l acc : List UInt8), (labsG acc l).length ≤ l.length + 1
  | [], _ => by simp [labsG]
  | c :: r, acc => by
    rw [labsG]
    split
    · have := labsG_len r []; simp; omega
    · have := labsG_len r (acc ++ [c]); simp; omega
theorem labsG_ne : ∀ (l acc : List UInt8), labsG acc l ≠ []
  | [], _ => by simp [labsG]
  | c :: r, acc => by
    rw [labsG]
    split
    · simp
    · exact labsG_ne r _
theorem labsG_mem : ∀ (l acc : List UInt8), ∀ u ∈ labsG acc l, u.length ≤ acc.length + l.length
  | [], acc, u, h => by simp [labsG] at h; subst h; simp
  | c :: r, acc, u, h => by
    rw [labsG] at h
    split at h
    · rcases List.mem_cons.1 h with rfl | h
      · simp
      · have := labsG_mem r [] u h; simp at this ⊢; omega
    · have := labsG_mem r _ u h; simp at this ⊢; omega

/-- A digit, a letter or a digit. -/
def digN (n : Nat) : Bool := decide (48 ≤ n ∧ n ≤ 57)
def plN (n : Nat) : Bool := decide (65 ≤ n ∧ n ≤ 90) || decide (97 ≤ n ∧ n ≤ 122) || digN n
/-- Does each byte stand where it may? -/
def allP (f : Nat → Nat → Bool) : Nat → List UInt8 → Bool
  | _, [] => true
  | k, b :: r => f k b.toNat && allP f (k + 1) r
theorem allP_at (f : Nat → Nat → Bool) (l : List UInt8) (k : Nat) (h : k < l.length) : allP f k (l.drop k) = (f k (l[k]'h).toNat && allP f (k + 1) (l.drop (k + 1))) := by
  rw [List.drop_eq_getElem_cons h, allP]
theorem allP_all (g : Nat → Bool) : ∀ (l : List UInt8) (k : Nat), allP (fun _ n => g n) k l = l.all (fun b => g b.toNat)
  | [], _ => rfl
  | b :: r, k => by rw [allP, List.all_cons, allP_all g r]

/-- May a label's byte stand at its place? -/
def labP (n : Nat) (k b : Nat) : Bool := plN b || (decide (b = 45) && (decide (0 < k) && decide (k + 1 < n)))
/-- Is a text a label? is it digits alone? -/
def labL (l : List UInt8) : Bool := decide (0 < l.length) && (decide (l.length ≤ 63) && allP (labP l.length) 0 l)
def numL (l : List UInt8) : Bool := l.all (fun b => digN b.toNat)
/-- Are all labels, and the last one (or, of none, this one) not digits alone? -/
def dnsG : List UInt8 → List (List UInt8) → Bool
  | last, [] => !numL last
  | _, u :: ws => labL u && dnsG u ws
/-- Is a text a host's name? -/
def dnsL (l : List UInt8) : Bool := decide (l.length ≤ 253) && dnsG [] (labs l)
theorem dnsG_all : ∀ (ws : List (List UInt8)) (last : List UInt8), dnsG last ws = (ws.all labL && !numL (ws.getLast?.getD last))
  | [], last => by simp [dnsG]
  | u :: ws, last => by
    rw [dnsG, dnsG_all ws u, List.all_cons, Bool.and_assoc]
    congr 3
    cases ws with
    | nil => rfl
    | cons v ws => rw [List.getLast?_cons_cons]; cases h : (v :: ws).getLast? with
      | none => simp at h
      | some x => rfl
theorem dnsL_nil : dnsL [] = false := by decide
/-- Is a text a wild name? -/
def wildL : List UInt8 → Bool
  | a :: b :: r => decide (a = 42 ∧ b = 46) && (decide (r.length + 2 ≤ 253) && (dnsL r && r.contains 46))
  | _ => false

/-- May a byte stand in a local part, beside dots? -/
def locN (n : Nat) : Bool := plN n || (decide (n = 95) || (decide (n = 43) || decide (n = 45)))
/-- The pieces of a local part. -/
def locG (ws : List (List UInt8)) : Bool := ws.all (fun u => !u.isEmpty && u.all (fun b => locN b.toNat))
def locL (l : List UInt8) : Bool := decide (l.length ≤ 64) && locG (labs l)
/-- Is a text a mail address? -/
def mailL (l : List UInt8) : Bool := locL (cutD 64 l).1 && dnsL (cutD 64 l).2.1
/-- The same, byte by byte: p: does a dot, or nothing, stand ahead? -/
def locS : Bool → List UInt8 → Bool
  | p, [] => !p
  | p, c :: r => if c = 46 then !p && locS true r else locN c.toNat && locS false r
theorem locG_S : ∀ (l acc : List UInt8), locG (labsG acc l) = (acc.all (fun b => locN b.toNat) && locS acc.isEmpty l)
  | [], acc => by simp [labsG, locG, locS, Bool.and_comm]
  | c :: r, acc => by
    rw [labsG, locS]
    by_cases hc : c = 46
    · rw [if_pos hc, if_pos hc]
      show ((!acc.isEmpty && acc.all (fun b => locN b.toNat)) && locG (labsG [] r)) = _
      rw [locG_S r []]
      simp only [List.all_nil, Bool.true_and, List.isEmpty_nil]
      cases acc.isEmpty <;> cases acc.all (fun b => locN b.toNat) <;> simp
    · rw [if_neg hc, if_neg hc, locG_S r]
      have e : (acc ++ [c]).isEmpty = false := by cases acc <;> rfl
      rw [e, List.all_append]
      simp [Bool.and_assoc]
theorem locL_S (l : List UInt8) : locL l = (decide (l.length ≤ 64) && locS true l) := by
  unfold locL labs
  rw [locG_S]
  rfl

/-- Is a text a network address? -/
def ipL (l : List UInt8) : Bool := decide (l.length = 4) || decide (l.length = 16)

end Go.Proofs.YthnfhkmonfkceaaGreatDoor

namespace Go.Proofs.YthnfhkmonfkceaaGreatDoor
open Go.RowKit Go.IntWalk

/-- The value that stands so in a text. -/
def unmU : List UInt8 → List UInt8
  | [] => []
  | [x] => [x]
  | x :: y :: r => if x = 92 then y :: unmU r else x :: unmU (y :: r)
theorem unm_plain (x : UInt8) (r : List UInt8) (h : x ≠ 92) : unmU (x :: r) = x :: unmU r := by
  cases r with
  | nil => rfl
  | cons y r => rw [unmU, if_neg h]
theorem unm_mark : ∀ v, unmU (markU v) = v
  | [] => rfl
  | x :: r => by
    have ih := unm_mark r
    rw [markU]
    split
    · rw [unmU, if_pos rfl, ih]
    · rename_i h
      have hx : x ≠ 92 := by
        intro e
        subst e
        exact h rfl
      rw [unm_plain x _ hx, ih]

/-- The pieces of a text, of which acc is the beginning of the first. -/
def pcs : List UInt8 → List UInt8 → List (List UInt8)
  | acc, [] => [acc]
  | acc, [x] => if x = 92 then [acc ++ [x]] else if x = 44 then [acc, []] else [acc ++ [x]]
  | acc, x :: y :: r => if x = 92 then pcs (acc ++ [x, y]) r else if x = 44 then acc :: pcs [] (y :: r) else pcs (acc ++ [x]) (y :: r)
theorem pcs_comma (acc r : List UInt8) : pcs acc (44 :: r) = acc :: pcs [] r := by
  cases r with
  | nil => rfl
  | cons y r => rw [pcs]; rfl
theorem pcs_plain (acc : List UInt8) (x : UInt8) (r : List UInt8) (h : x ≠ 92) (h2 : x ≠ 44) : pcs acc (x :: r) = pcs (acc ++ [x]) r := by
  cases r with
  | nil => simp [pcs, h, h2]
  | cons y r => rw [pcs, if_neg h, if_neg h2]
theorem pcs_esc (acc : List UInt8) (y : UInt8) (r : List UInt8) : pcs acc (92 :: y :: r) = pcs (acc ++ [92, y]) r := by
  rw [pcs, if_pos rfl]
theorem pcs_end (acc : List UInt8) : pcs acc [92] = [acc ++ [92]] := rfl
theorem pcs_plains : ∀ (l acc r : List UInt8), (∀ x ∈ l, x ≠ 92 ∧ x ≠ 44) → pcs acc (l ++ r) = pcs (acc ++ l) r
  | [], acc, r, _ => by simp
  | x :: l, acc, r, h => by
    have h1 := h x (by simp)
    rw [List.cons_append, pcs_plain acc x (l ++ r) h1.1 h1.2, pcs_plains l (acc ++ [x]) r (fun y hy => h y (by simp [hy]))]
    simp
theorem pcs_mark : ∀ (v acc r : List UInt8), pcs acc (markU v ++ r) = pcs (acc ++ markU v) r
  | [], acc, r => by simp [markU]
  | x :: v, acc, r => by
    rw [markU]
    split
    · rw [List.cons_append, List.cons_append, pcs_esc, pcs_mark v]
      simp
    · rename_i h
      have hx : x ≠ 92 ∧ x ≠ 44 := by
        constructor <;> (intro e; subst e; exact h rfl)
      rw [List.cons_append, pcs_plain acc x _ hx.1 hx.2, pcs_mark v]
      simp
theorem lab_plain (t : Int) : ∀ x ∈ (labS t).data.toList ++ [61], x ≠ 92 ∧ x ≠ 44 := by
  have key : ∀ L : ByteArray, (L = ⟨#[67, 78]⟩ ∨ L = ⟨#[83, 78]⟩ ∨ L = ⟨#[67]⟩ ∨ L = ⟨#[76]⟩ ∨ L = ⟨#[83, 84]⟩ ∨ L = ⟨#[79]⟩ ∨ L = ⟨#[79, 85]⟩ ∨ L = ⟨#[]⟩) → ∀ x ∈ L.data.toList ++ [61], x ≠ 92 ∧ x ≠ 44 := by
    rintro L (rfl | rfl | rfl | rfl | rfl | rfl | rfl | rfl) <;> decide
  refine key _ ?_
  unfold labS
  (repeat' split) <;> simp
theorem pcs_tld (a : Int × ByteArray) (acc r : List UInt8) : pcs acc (tldU a ++ r) = pcs (acc ++ tldU a) r := by
  obtain ⟨t, s⟩ := a
  rw [tldU_eq, List.append_assoc, pcs_plains _ acc _ (lab_plain t), pcs_mark]
  simp
theorem pcs_join : ∀ (n : List (Int × ByteArray)), n ≠ [] → pcs [] (txU n) = n.map tldU
  | [], h => absurd rfl h
  | [a], _ => by
    unfold txU
    rw [List.map_cons, List.map_nil, Lib.join_one]
    have h := pcs_tld a [] []
    rw [List.append_nil] at h
    rw [h]
    rfl
  | a :: b :: n, _ => by
    have ih := pcs_join (b :: n) (by simp)
    have e : txU (a :: b :: n) = tldU a ++ 44 :: txU (b :: n) := by
      unfold txU
      rw [List.map_cons, Lib.join_cons, List.map_cons, Lib.join_cons]
      unfold Lib.joinTail
      simp
    rw [e, pcs_tld a [] _, pcs_comma, ih]
    rfl

/-- The type that has a label. -/
def typeU (l : List UInt8) : Int :=
  if l = [67, 78] then 3 else if l = [83, 78] then 5 else if l = [67] then 6 else if l = [76] then 7 else if l = [83, 84] then 8 else if l = [79] then 10 else if l = [79, 85] then 11 else 0
theorem type_lab {t : Int} (h : t = 3 ∨ t = 5 ∨ t = 6 ∨ t = 7 ∨ t = 8 ∨ t = 10 ∨ t = 11) : typeU (labS t).data.toList = t := by
  rcases h with rfl | rfl | rfl | rfl | rfl | rfl | rfl <;> decide

/-- A text, cut at the first 61. -/
def cutE : List UInt8 → List UInt8 × List UInt8
  | [] => ([], [])
  | x :: r => if x = 61 then ([], r) else (x :: (cutE r).1, (cutE r).2)
theorem cutE_at : ∀ (l r : List UInt8), (∀ x ∈ l, x ≠ 61) → cutE (l ++ 61 :: r) = (l, r)
  | [], r, _ => rfl
  | x :: l, r, h => by
    have h1 := h x (by simp)
    rw [List.cons_append, cutE, if_neg h1, cutE_at l r (fun y hy => h y (by simp [hy]))]
theorem lab_eq (t : Int) : ∀ x ∈ (labS t).data.toList, x ≠ 61 := by
  have key : ∀ L : ByteArray, (L = ⟨#[67, 78]⟩ ∨ L = ⟨#[83, 78]⟩ ∨ L = ⟨#[67]⟩ ∨ L = ⟨#[76]⟩ ∨ L = ⟨#[83, 84]⟩ ∨ L = ⟨#[79]⟩ ∨ L = ⟨#[79, 85]⟩ ∨ L = ⟨#[]⟩) → ∀ x ∈ L.data.toList, x ≠ 61 := by
    rintro L (rfl | rfl | rfl | rfl | rfl | rfl | rfl | rfl) <;> decide
  refine key _ ?_
  unfold labS
  (repeat' split) <;> simp
/-- What a piece is read as. -/
def prsA (u : List UInt8) : Int × ByteArray := (typeU (cutE u).1, ⟨(unmU (cutE u).2).toArray⟩)
theorem prs_tld {a : Int × ByteArray} (h : attrL a.1 a.2.data.toList = true) : prsA (tldU a) = a := by
  obtain ⟨t, s⟩ := a
  unfold prsA
  rw [tldU_eq]
  have e : (labS t).data.toList ++ [61] ++ markU s.data.toList = (labS t).data.toList ++ 61 :: markU s.data.toList := by simp
  rw [e, cutE_at _ _ (lab_eq t)]
  simp only []
  rw [type_lab (attr_seven h), unm_mark]

/-- What a text is read as. -/
def prsN (s : List UInt8) : List (Int × ByteArray) := ((pcs [] s).map prsA).take 17
theorem prsN_text {n : List (Int × ByteArray)} (h : nameL n = true) (hn : n ≠ []) : prsN (txU n) = n := by
  have h0 := h
  unfold nameL at h
  rw [Bool.and_eq_true] at h
  have hl := of_decide_eq_true h.1
  unfold prsN
  rw [pcs_join n hn, List.map_map]
  have e : n.map (prsA ∘ tldU) = n := by
    have : ∀ x ∈ n, (prsA ∘ tldU) x = x := fun x hx => prs_tld (List.all_eq_true.1 h.2 x hx)
    rw [List.map_congr_left this]
    simp
  rw [e, List.take_of_length_le (by omega)]
def okT (s : ByteArray) (n : List (Int × ByteArray)) : Bool := nameL n && decide (txT n = s)
/-- The name that a text is read as, and the error. -/
def pansN (s : ByteArray) : List (Int × ByteArray) := if s = ⟨#[]⟩ then [] else if okT s (prsN s.data.toList) = true then prsN s.data.toList else []
def pansE (s : ByteArray) : Int := if s = ⟨#[]⟩ then 0 else if okT s (prsN s.data.toList) = true then 0 else 120
theorem tld_ne (a : Int × ByteArray) : tldU a ≠ [] := by
  obtain ⟨t, s⟩ := a
  rw [tldU_eq]
  simp
theorem tx_ne {n : List (Int × ByteArray)} (h : nameL n = true) (hn : n ≠ []) : txT n ≠ ⟨#[]⟩ := by
  intro e
  unfold txT at e
  rw [if_pos h] at e
  have e2 : txU n = [] := by
    have := congrArg (fun b : ByteArray => b.data.toList) e
    simpa using this
  cases n with
  | nil => exact hn rfl
  | cons a r =>
    unfold txU at e2
    rw [List.map_cons, Lib.join_cons] at e2
    exact tld_ne a (List.append_eq_nil_iff.1 e2).1
/-- What a name's text is read as. -/
theorem pans_back {n : List (Int × ByteArray)} (h : nameL n = true) : pansN (txT n) = n ∧ pansE (txT n) = 0 := by
  by_cases hn : n = []
  · subst hn
    have e : txT [] = ⟨#[]⟩ := rfl
    unfold pansN pansE
    rw [e, if_pos rfl, if_pos rfl]
    exact ⟨rfl, rfl⟩
  · have e1 := tx_ne h hn
    have e2 : (txT n).data.toList = txU n := by unfold txT; rw [if_pos h]
    have e3 : okT (txT n) n = true := by unfold okT; rw [h]; simp
    unfold pansN pansE
    rw [if_neg e1, if_neg e1, e2, prsN_text h hn, if_pos e3, if_pos e3]
    exact ⟨rfl, rfl⟩
theorem pans_ok {s : ByteArray} (h : pansE s = 0) : nameL (pansN s) = true ∧ txT (pansN s) = s := by
  unfold pansE at h
  unfold pansN
  by_cases hs : s = ⟨#[]⟩
  · rw [if_pos hs]
    subst hs
    exact ⟨rfl, rfl⟩
  · rw [if_neg hs] at h ⊢
    by_cases hk : okT s (prsN s.data.toList) = true
    · rw [if_pos hk]
      unfold okT at hk
      rw [Bool.and_eq_true] at hk
      exact ⟨hk.1, of_decide_eq_true hk.2⟩
    · rw [if_neg hk] at h
      cases h

end Go.Proofs.YthnfhkmonfkceaaGreatDoor

namespace Go.Proofs.YthnfhkmonfkceaaGreatDoor
open Go.RowKit Go.IntWalk

/-- Words as texts. -/
def texts (ws : List (List UInt8)) : List ByteArray := ws.map (fun u => ⟨u.toArray⟩)

/-- What has been told of the words, and what is left. -/
def WRel (l : List UInt8) (ws : List (List UInt8)) (a k : Nat) : Prop := (k ≤ l.length → wordsL l = ws ++ wordsG (cutL l a k) (l.drop k)) ∧ (l.length < k → wordsL l = ws)

theorem wrel_start (l : List UInt8) : WRel l [] 0 0 := ⟨fun _ => words_begin l, fun h => by omega⟩

theorem wrel_end (l : List UInt8) (ws : List (List UInt8)) (a k : Nat) (h : WRel l ws a k) (hk : l.length < k) : wordsL l = ws := h.2 hk

theorem wrel_step (l : List UInt8) (ws : List (List UInt8)) (a k : Nat) (h : WRel l ws a k) (hak : a ≤ k) (hk : k < l.length) (hb : l[k]'hk ≠ 32) : WRel l ws a (k + 1) := by
  refine ⟨fun _ => ?_, fun h => by omega⟩
  rw [h.1 (by omega), words_step l a k 1 hak (by omega) ?_]
  intro b hb2
  have e : (l.drop k).take 1 = [l[k]'hk] := by rw [List.drop_eq_getElem_cons hk]; rfl
  rw [e] at hb2
  have hb3 := List.mem_singleton.1 hb2
  subst hb3
  exact hb

theorem wrel_empty (l : List UInt8) (ws : List (List UInt8)) (a k : Nat) (h : WRel l ws a k) (hk : k ≤ l.length) (e : a = k) (hs : k = l.length ∨ ∃ h : k < l.length, l[k]'h = 32) : WRel l ws (k + 1) (k + 1) := by
  subst e
  rcases hs with hs | ⟨hlt, hs⟩
  · subst hs
    refine ⟨fun h => by omega, fun _ => ?_⟩
    rw [h.1 (Nat.le_refl _), words_end l _ (Nat.le_refl _), if_pos rfl, List.append_nil]
  · refine ⟨fun _ => ?_, fun h => by omega⟩
    rw [h.1 hk, words_blank l a a hlt hs (Nat.le_refl _), if_pos rfl]

theorem wrel_word (l : List UInt8) (ws : List (List UInt8)) (a k : Nat) (h : WRel l ws a k) (hk : k ≤ l.length) (e : a < k) (hs : k = l.length ∨ ∃ h : k < l.length, l[k]'h = 32) : WRel l (ws ++ [cutL l a k]) (k + 1) (k + 1) := by
  rcases hs with hs | ⟨hlt, hs⟩
  · subst hs
    refine ⟨fun h => by omega, fun _ => ?_⟩
    rw [h.1 (Nat.le_refl _), words_end l _ (by omega), if_neg (by omega)]
  · refine ⟨fun _ => ?_, fun h => by omega⟩
    rw [h.1 hk, words_blank l a k hlt hs (by omega), if_neg (by omega), List.append_assoc]
    rfl

theorem stop_list (s : ByteArray) (k : Nat) (h : k = s.size ∨ ∃ h : k < s.size, (s[k]'h) = 32) : k = s.data.toList.length ∨ ∃ h : k < s.data.toList.length, s.data.toList[k]'h = 32 := by
  rcases h with h | ⟨h, e⟩
  · left; rw [size_len]; exact h
  · right; exact ⟨by rw [size_len]; exact h, by rw [get_list s k h]; exact e⟩

theorem texts_more (ws : List (List UInt8)) (u : List UInt8) : texts (ws ++ [u]) = texts ws ++ [⟨u.toArray⟩] := by simp [texts]

end Go.Proofs.YthnfhkmonfkceaaGreatDoor

namespace Go.Proofs.YthnfhkmonfkceaaGreatDoor
open Go.RowKit Go.IntWalk
attribute [local go_sem ↓] appOf_of

end Go.Proofs.YthnfhkmonfkceaaGreatDoor

namespace Go.Proofs.YthnfhkmonfkceaaGreatDoor
open Go.RowKit Go.IntWalk Go.Shelf

theorem bs_ne {a b : ByteArray} (h : a ≠ b) : (a.toList == b.toList) = false := by
  rw [beq_eq_false_iff_ne, ByteArray.toList_eq, ByteArray.toList_eq]
  intro e
  exact h (ByteArray.ext (Array.ext' e))

theorem at_all {A B : List (Int × ByteArray)} (hl : A.length = B.length) (h : ∀ j, j < A.length → A[j]? = B[j]?) : A = B := by
  apply List.ext_getElem? 
  intro j
  by_cases hj : j < A.length
  · exact h j hj
  · rw [List.getElem?_eq_none (by omega), List.getElem?_eq_none (by omega)]
theorem at_key {xs : List (Int × ByteArray)} {i : Nat} (h : i < xs.length) : xs[i]? = some (xs.getD i (0, ByteArray.empty)) := by
  simp [h, List.getD]

end Go.Proofs.YthnfhkmonfkceaaGreatDoor
