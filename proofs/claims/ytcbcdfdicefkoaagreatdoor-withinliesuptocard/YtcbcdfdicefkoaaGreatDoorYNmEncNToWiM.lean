/-
  name.Encode: the bytes of a name.
  Hosts' names, on lists of bytes: labels, what a host's name is, a wild name, a mail address, a network address.
  When a pattern stands for a host, on lists of bytes. No program.
  When a pattern stands for a host, told by small letters. No program.
  A host's name below another one, on lists of bytes. No program.
-/
import Derived.Test.YtcbcdfdicefkoaaGreatDoorYNmEnc
import Derived.Test.YtcbcdfdicefkoaaGreatDoorYBaseToBts
import Derived.Lib.IndexMore
import Derived.Lib.Index
import Derived.Lib.Fold
import Derived.Test.YtcbcdfdicefkoaaGreatDoorYTxW1ToTxF1
import Derived.Lib.Case
namespace Go.Proofs.YtcbcdfdicefkoaaGreatDoor
open Go.RowKit Go.IntWalk Go.Shelf

/-- The bytes of the attributes. -/
def encR (xs : List (Int × ByteArray)) : List Int := (xs.map (fun x => encA x.1 x.2)).flatten
theorem encR_snoc (xs : List (Int × ByteArray)) (k : Nat) (h : k < xs.length) : encR (xs.take (k + 1)) = encR (xs.take k) ++ encA (xs.getD k (0, ByteArray.empty)).1 (xs.getD k (0, ByteArray.empty)).2 := by
  unfold encR
  rw [List.take_succ_eq_append_getElem h, List.map_append, List.flatten_append]
  simp [List.getD, h]
theorem encR_byte (xs : List (Int × ByteArray)) : Byt (encR xs) := by
  intro x hx
  unfold encR at hx
  obtain ⟨l, hl, hx⟩ := List.mem_flatten.1 hx
  obtain ⟨y, _, rfl⟩ := List.mem_map.1 hl
  exact encA_byte _ _ x hx
/-- The bytes of a name, or none; and the error's number. -/
def encNC (xs : List (Int × ByteArray)) : List Int := if nameL xs = true then putB 48 [encR xs] else []
def encNE (xs : List (Int × ByteArray)) : Int := if nameL xs = true then 0 else 120
theorem encNC_byte (xs : List (Int × ByteArray)) : Byt (encNC xs) := by
  unfold encNC
  split
  · exact putB_byte _ _ (fun l hl => by simp at hl; subst hl; exact encR_byte _)
  · intro x hx; cases hx

theorem putB_len (tag : Int) (ls : List (List Int)) : (putB tag ls).length ≤ ls.flatten.length + 5 := by
  unfold putB putS
  split
  · simp
  · split
    · simp
    · rename_i h
      have := lenB_len4 ls.flatten.length
      simp only [List.nil_append, List.length_append, List.length_cons, List.length_nil]
      omega
theorem putB_ne (tag : Int) (ls : List (List Int)) (h1 : isTagB tag = true) (h2 : ls.flatten.length ≤ 16777215) : putB tag ls ≠ [] := by
  unfold putB putS
  rw [if_neg (by simp [h1]), if_neg (by omega)]
  simp
theorem idB_len (t : Int) : (idB t).length ≤ 20 := by
  unfold idB encC encS
  split
  · have h1 := flat_len ([2, 5, 4, t].drop 2)
    have h2 := numB_len (40 * [2, 5, 4, t].getD 0 0 + [2, 5, 4, t].getD 1 0)
    have h3 := sizeS_in (40 * [2, 5, 4, t].getD 0 0 + [2, 5, 4, t].getD 1 0)
    rw [List.length_append]
    simp only [List.drop_succ_cons, List.drop_zero, List.length_cons, List.length_nil] at h1 ⊢
    omega
  · simp
theorem encA_ne (t : Int) (s : ByteArray) (hs : s.size ≤ 1048576) : encA t s ≠ [] := by
  unfold encA
  refine putB_ne _ _ (by decide) ?_
  have h1 := putB_len 48 [putB 6 [idB t], putB (kindL s.data.toList).1 [nums s.data.toList]]
  have h2 := putB_len 6 [idB t]
  have h3 := putB_len (kindL s.data.toList).1 [nums s.data.toList]
  have h4 := idB_len t
  have h5 : (nums s.data.toList).length = s.size := by unfold nums; rw [List.length_map, size_len]
  simp only [List.flatten_cons, List.flatten_nil, List.append_nil, List.length_append] at h1 h2 h3 ⊢
  omega
theorem encA_len (t : Int) (s : ByteArray) (hs : s.size ≤ 1048576) : (encA t s).length ≤ 1100000 := by
  unfold encA
  have h0 := putB_len 49 [putB 48 [putB 6 [idB t], putB (kindL s.data.toList).1 [nums s.data.toList]]]
  have h1 := putB_len 48 [putB 6 [idB t], putB (kindL s.data.toList).1 [nums s.data.toList]]
  have h2 := putB_len 6 [idB t]
  have h3 := putB_len (kindL s.data.toList).1 [nums s.data.toList]
  have h4 := idB_len t
  have h5 : (nums s.data.toList).length = s.size := by unfold nums; rw [List.length_map, size_len]
  simp only [List.flatten_cons, List.flatten_nil, List.append_nil, List.length_append] at h0 h1 h2 h3 ⊢
  omega
theorem encR_len (xs : List (Int × ByteArray)) (k : Nat) (hk : k ≤ xs.length) (hz : ∀ x ∈ xs, x.2.size ≤ 1048576) : (encR (xs.take k)).length ≤ k * 1100000 := by
  induction k with
  | zero => simp [encR]
  | succ k ih =>
    rw [encR_snoc xs k (by omega), List.length_append]
    have h1 := encA_len (xs.getD k (0, ByteArray.empty)).1 (xs.getD k (0, ByteArray.empty)).2 (hz _ (getD_mem (by omega)))
    have h2 := ih (by omega)
    omega
theorem attr_type {t : Int} {l : List UInt8} (h : attrL t l = true) : 0 ≤ t ∧ t ≤ 255 := by
  unfold attrL at h
  split at h
  · omega
  · split at h
    · omega
    · rw [Bool.and_eq_true] at h
      have := of_decide_eq_true h.1
      omega

set_option maxRecDepth 100000 in
set_option maxHeartbeats 2000000 in
theorem encodeN_any (ao : Option Addr) (n cap : Nat) (xs : List (Int × ByteArray)) (w : World) (hA : Ats w ao n cap xs) (hz : ∀ x ∈ xs, x.2.size ≤ 1048576) :
    Calls Tryz.prog 146 #[.slice ao n cap] w fun e w' => ∃ a m c, e = .returned (.tuple #[.slice a m c, .int .i64 (encNE xs)]) ∧ OwnB w' w.heap.size (.slice a m c) (encNC xs) ∧ Below w.heap.size w w' := by
  have hM := hide (mayN_any ao n cap xs w hA (fun x hx => by have := hz x hx; omega))
  have HL := hide hA.hl
  have hc := hA.hcap
  have hm := hA.hmax
  unfold maxLen at hm
  have HA := hide hA
  have HZ := hide hz
  clear hA hz
  cases hN : nameL xs with
  | false =>
    have e1 : encNC xs = [] := by unfold encNC; rw [hN]; rfl
    have e2 : encNE xs = 120 := by unfold encNE; rw [hN]; rfl
    rw [e1, e2]
    rw [hN] at hM
    clear hN e1 e2
    go_enter Tryz.func146, Tryz.ntmps146
    go_wp2_with fail
    refine hM.out.mono ?_
    rintro e w1 ⟨rfl, B1⟩
    go_wp2
    refine bodyPost_ret (v := .tuple #[.slice none 0 0, .int .i64 120]) (by simp [results, Tryz.results146, go_sem]) rfl ⟨none, 0, 0, rfl, OwnB.nil _ _, B1⟩
  | true =>
    have e1 : encNC xs = (putS [] 48 [encR xs]).1 := by unfold encNC; rw [hN]; rfl
    have e2 : encNE xs = 0 := by unfold encNE; rw [hN]; rfl
    have h16 : n ≤ 16 := by
      unfold nameL at hN
      rw [Bool.and_eq_true] at hN
      have := of_decide_eq_true hN.1
      rw [HL.out] at this
      exact this
    have HAT : Hid (∀ x ∈ xs, attrL x.1 x.2.data.toList = true) := by
      unfold nameL at hN
      rw [Bool.and_eq_true] at hN
      exact List.all_eq_true.1 hN.2
    rw [e1, e2]
    rw [hN] at hM
    clear hN e1 e2
    go_enter Tryz.func146, Tryz.ntmps146
    go_wp2_with fail
    refine hM.out.mono ?_
    rintro e w1 ⟨rfl, B1⟩
    have HB := hide B1
    clear B1 hM
    go_wp2
    go_loopw [4, 12] (fun cv v wr => ∃ (aC : Option Addr) (mC cC k : Nat), cv = .slice aC mC cC ∧ v = .int .i64 k ∧ k ≤ n ∧ Hid (OwnB wr w.heap.size (.slice aC mC cC) (encR (xs.take k)) ∧ Below w.heap.size w wr)) (fun _ v _ => n - (intOf v).toNat)
    case atStart => exact ⟨none, 0, 0, 0, rfl, rfl, Nat.zero_le _, OwnB.nil _ _, HB.out⟩
    case round =>
      obtain ⟨aC, mC, cC, k, rfl, rfl, hk, HQ⟩ := hrel
      by_cases hlt : k < n
      · have ltI : (k : Int) < (n : Int) := by omega
        obtain ⟨b, off, rfl, hcl⟩ := (HA.out.below HQ.out.2).hrd (by omega)
        obtain ⟨c0, c1⟩ := hcl k hlt
        have hsn := hide (encR_snoc xs k (by rw [HL.out]; exact hlt))
        have hmem := getD_mem (xs := xs) (i := k) (by rw [HL.out]; exact hlt)
        have hsz := HZ.out _ hmem
        have hty := attr_type (HAT.out _ hmem)
        have hln := hide (encR_len xs k (by rw [HL.out]; exact hk) HZ.out)
        generalize xs.getD k (0, ByteArray.empty) = x at c0 c1 hsn hsz hty
        obtain ⟨t, s⟩ := x
        simp only [] at c0 c1 hsz hty
        clear hcl hmem
        replace hsn : Hid (encR (xs.take (k + 1)) = encR (xs.take k) ++ encA t s) := hsn.out
        have hE := hide (fun W => encoded_any t s hty hsz W)
        have hne := hide (encA_ne t s hsz)
        have hAl := hide (encA_len t s hsz)
        have hAb := hide (encA_byte t s)
        generalize encA t s = E at hE hne hAl hsn hAb
        have B2 := hide (HQ.out.2.alloc HQ.out.2.size (.cells #[.int .i64 t, .string s] 118))
        have O2 := hide (HQ.out.1.alloc (.cells #[.int .i64 t, .string s] 118))
        go_wp2_with fail
        refine (hE.out _).mono ?_
        rintro e w2 ⟨x2, m2, c2, rfl, o2, L2⟩
        have B3 := hide (B2.out.trans (L2.mono B2.out.size))
        have O3 := hide (O2.out.belowA L2)
        have S2 := hide (o2.toSrc hAb.out)
        clear o2 L2 B2 O2 hE
        go_wp2_with (at_builtin; refine wpList_appN _ rfl (.tmp 16) (.tmp 18) rfl w.heap.size (.slice aC mC cC) (encR (xs.take k)) rfl O3.out x2 m2 c2 E rfl S2.out ((encR (xs.take k)).length + E.length) (by rw [List.length_append]) (.inr hne.out) (by have := hln.out; have := hAl.out; omega) B3.out.size ?_; intro g3 c3 w3 ho3 hb3 hl3 hc3 hm3 hg3)
        go_roundw
        case rel => exact ⟨some ⟨g3, 0, none⟩, (encR (xs.take k)).length + E.length, c3, k + 1, rfl, by simp, by omega, by rw [hsn.out]; exact ho3, B3.out.grown hg3 B3.out.size (fun j hj => (O3.out.lt j hj).1)⟩
        case measure => simp [intOf]; omega
      · have ltI : ¬ (k : Int) < (n : Int) := by omega
        obtain rfl : k = n := by omega
        have hx : xs.take k = xs := List.take_of_length_le (by rw [HL.out]; omega)
        rw [hx] at HQ
        have S0 := HQ.out.1.toSrc (encR_byte xs)
        have hb := nbelow wr (.cells #[.slice aC mC cC] 60)
        have r0 : (wr.alloc (.cells #[.slice aC mC cC] 60)).cell? ⟨wr.heap.size, 0, none⟩ = some (.slice aC mC cC) := by simp
        have hP := hide (nput_any 48 _ 1 1 _ _ _ (Parts.one r0 (S0.below hb)) (by decide))
        have B2 := hide (HQ.out.2.trans (hb.mono HQ.out.2.size))
        clear S0 hb r0
        go_wp2_with fail
        refine hP.out.mono ?_
        rintro e w2 ⟨x2, m2, c2, rfl, o2, L2⟩
        go_wp2
        refine bodyPost_ret (v := .tuple #[.slice x2 m2 c2, .int .i64 0]) (by simp [results, Tryz.results146, go_sem]) rfl ⟨x2, m2, c2, rfl, o2.rebase B2.out.size, B2.out.trans (L2.mono B2.out.size)⟩

end Go.Proofs.YtcbcdfdicefkoaaGreatDoor

namespace Go.Proofs.YtcbcdfdicefkoaaGreatDoor

/-- The bytes ahead of the first byte d, those behind it, and whether there is one. -/
def cutD (d : UInt8) : List UInt8 → List UInt8 × List UInt8 × Bool
  | [] => ([], [], false)
  | c :: r => if c = d then ([], r, true) else (c :: (cutD d r).1, (cutD d r).2.1, (cutD d r).2.2)

theorem cutD_rest (d : UInt8) : ∀ l, (cutD d l).2.1.length ≤ l.length ∧ (cutD d l).1.length ≤ l.length ∧ ((cutD d l).2.2 = true → (cutD d l).2.1.length < l.length)
  | [] => by simp [cutD]
  | c :: r => by
    have ih := cutD_rest d r
    rw [cutD]
    split
    · simp
    · refine ⟨Nat.le_succ_of_le ih.1, by simp; exact ih.2.1, fun h => Nat.lt_succ_of_lt (ih.2.2 h)⟩

theorem cutD_no (d : UInt8) : ∀ l, (cutD d l).2.2 = false → (cutD d l).2.1 = []
  | [], _ => rfl
  | c :: r, h => by
    rw [cutD] at h ⊢
    split at h
    · cases h
    · rename_i hc; rw [if_neg hc]; exact cutD_no d r h

/-- The library's cut at one byte. -/
theorem cut_one (d : UInt8) : ∀ l : List UInt8, Lib.cut l [d] = cutD d l
  | [] => by simp [cutD, Lib.cut, Lib.index]
  | c :: r => by
    have ih := cut_one d r
    rw [cutD]
    by_cases hd : c = d
    · subst hd
      rw [if_pos rfl]
      simp [Lib.cut, Lib.index]
    · rw [if_neg hd]
      have hne : (d == c) = false := by rw [beq_eq_false_iff_ne]; exact fun e => hd e.symm
      have hx : Lib.index (c :: r) [d] = if Lib.index r [d] == -1 then -1 else Lib.index r [d] + 1 := by
        rw [Lib.index]
        simp [List.isPrefixOf, hne]
      have hge := Lib.index_ge r [d]
      unfold Lib.cut at ih ⊢
      rw [hx]
      by_cases h0 : 0 ≤ Lib.index r [d]
      · rw [if_pos h0] at ih
        have hb1 : (Lib.index r [d] == -1) = false := by rw [beq_eq_false_iff_ne]; omega
        rw [hb1]
        simp only [Bool.false_eq_true, if_false]
        rw [if_pos (by omega)]
        have e1 : (Lib.index r [d] + 1).toNat = (Lib.index r [d]).toNat + 1 := by omega
        rw [e1, ← ih]
        simp
      · rw [if_neg h0] at ih
        have hb1 : (Lib.index r [d] == -1) = true := by rw [beq_iff_eq]; omega
        rw [hb1]
        simp only [if_true]
        rw [if_neg (by omega), ← ih]

/-- The pieces between dots; acc: the bytes of the first one so far. -/
def labsG : List UInt8 → List UInt8 → List (List UInt8)
  | acc, [] => [acc]
  | acc, c :: r => if c = 46 then acc :: labsG [] r else labsG (acc ++ [c]) r
def labs (l : List UInt8) : List (List UInt8) := labsG [] l

theorem labsG_cut : ∀ (l acc : List UInt8), labsG acc l = (acc ++ (cutD 46 l).1) :: (if (cutD 46 l).2.2 = true then labs (cutD 46 l).2.1 else [])
  | [], acc => by simp [labsG, cutD]
  | c :: r, acc => by
    rw [labsG, cutD]
    by_cases hc : c = 46
    · rw [if_pos hc, if_pos hc]; simp [labs]
    · rw [if_neg hc, if_neg hc, labsG_cut r]; simp
theorem labs_cut (l : List UInt8) : labs l = (cutD 46 l).1 :: (if (cutD 46 l).2.2 = true then labs (cutD 46 l).2.1 else []) := labsG_cut l []
theorem labsG_len : ∀ (l acc : List UInt8), (labsG acc l).length ≤ l.length + 1
  | [], _ => by simp [labsG]
  | c :: r, acc => by
    rw [labsG]
    split
    · have := labsG_len r []; simp; omega
    · have := labsG_len r (acc ++ [c]); simp; omega
theorem labsG_ne : ∀ (l acc : List UInt8), labsG acc l ≠ []
  | [], _ => by simp [labsG]
  | c :: r, acc => by
    rw [labsG]
    split
    · simp
    · exact labsG_ne r _
theorem labsG_mem : ∀ (l acc : List UInt8), ∀ u ∈ labsG acc l, u.length ≤ acc.length + l.length
  | [], acc, u, h => by simp [labsG] at h; subst h; simp
  | c :: r, acc, u, h => by
    rw [labsG] at h
    split at h
    · rcases List.mem_cons.1 h with rfl | h
      · simp
      · have := labsG_mem r [] u h; simp at this ⊢; omega
    · have := labsG_mem r _ u h; simp at this ⊢; omega

/-- A digit, a letter or a digit. -/
def digN (n : Nat) : Bool := decide (48 ≤ n ∧ n ≤ 57)
def plN (n : Nat) : Bool := decide (65 ≤ n ∧ n ≤ 90) || decide (97 ≤ n ∧ n ≤ 122) || digN n
/-- Does each byte stand where it may? -/
def allP (f : Nat → Nat → Bool) : Nat → List UInt8 → Bool
  | _, [] => true
  | k, b :: r => f k b.toNat && allP f (k + 1) r
theorem allP_at (f : Nat → Nat → Bool) (l : List UInt8) (k : Nat) (h : k < l.length) : allP f k (l.drop k) = (f k (l[k]'h).toNat && allP f (k + 1) (l.drop (k + 1))) := by
  rw [List.drop_eq_getElem_cons h, allP]
theorem allP_all (g : Nat → Bool) : ∀ (l : List UInt8) (k : Nat), allP (fun _ n => g n) k l = l.all (fun b => g b.toNat)
  | [], _ => rfl
  | b :: r, k => by rw [allP, List.all_cons, allP_all g r]

/-- May a label's byte stand at its place? -/
def labP (n : Nat) (k b : Nat) : Bool := plN b || (decide (b = 45) && (decide (0 < k) && decide (k + 1 < n)))
/-- Is a text a label? is it digits alone? -/
def labL (l : List UInt8) : Bool := decide (0 < l.length) && (decide (l.length ≤ 63) && allP (labP l.length) 0 l)
def numL (l : List UInt8) : Bool := l.all (fun b => digN b.toNat)
/-- Are all labels, and the last one (or, of none, this one) not digits alone? -/
def dnsG : List UInt8 → List (List UInt8) → Bool
  | last, [] => !numL last
  | _, u :: ws => labL u && dnsG u ws
/-- Is a text a host's name? -/
def dnsL (l : List UInt8) : Bool := decide (l.length ≤ 253) && dnsG [] (labs l)
theorem dnsG_all : ∀ (ws : List (List UInt8)) (last : List UInt8), dnsG last ws = (ws.all labL && !numL (ws.getLast?.getD last))
  | [], last => by simp [dnsG]
  | u :: ws, last => by
    rw [dnsG, dnsG_all ws u, List.all_cons, Bool.and_assoc]
    congr 3
    cases ws with
    | nil => rfl
    | cons v ws => rw [List.getLast?_cons_cons]; cases h : (v :: ws).getLast? with
      | none => simp at h
      | some x => rfl
theorem dnsL_nil : dnsL [] = false := by decide
/-- Is a text a wild name? -/
def wildL : List UInt8 → Bool
  | a :: b :: r => decide (a = 42 ∧ b = 46) && (decide (r.length + 2 ≤ 253) && (dnsL r && r.contains 46))
  | _ => false

/-- May a byte stand in a local part, beside dots? -/
def locN (n : Nat) : Bool := plN n || (decide (n = 95) || (decide (n = 43) || decide (n = 45)))
/-- The pieces of a local part. -/
def locG (ws : List (List UInt8)) : Bool := ws.all (fun u => !u.isEmpty && u.all (fun b => locN b.toNat))
def locL (l : List UInt8) : Bool := decide (l.length ≤ 64) && locG (labs l)
/-- Is a text a mail address? -/
def mailL (l : List UInt8) : Bool := locL (cutD 64 l).1 && dnsL (cutD 64 l).2.1
/-- The same, byte by byte: p: does a dot, or nothing, stand ahead? -/
def locS : Bool → List UInt8 → Bool
  | p, [] => !p
  | p, c :: r => if c = 46 then !p && locS true r else locN c.toNat && locS false r
theorem locG_S : ∀ (l acc : List UInt8), locG (labsG acc l) = (acc.all (fun b => locN b.toNat) && locS acc.isEmpty l)
  | [], acc => by simp [labsG, locG, locS, Bool.and_comm]
  | c :: r, acc => by
    rw [labsG, locS]
    by_cases hc : c = 46
    · rw [if_pos hc, if_pos hc]
      show ((!acc.isEmpty && acc.all (fun b => locN b.toNat)) && locG (labsG [] r)) = _
      rw [locG_S r []]
      simp only [List.all_nil, Bool.true_and, List.isEmpty_nil]
      cases acc.isEmpty <;> cases acc.all (fun b => locN b.toNat) <;> simp
    · rw [if_neg hc, if_neg hc, locG_S r]
      have e : (acc ++ [c]).isEmpty = false := by cases acc <;> rfl
      rw [e, List.all_append]
      simp [Bool.and_assoc]
theorem locL_S (l : List UInt8) : locL l = (decide (l.length ≤ 64) && locS true l) := by
  unfold locL labs
  rw [locG_S]
  rfl

/-- Is a text a network address? -/
def ipL (l : List UInt8) : Bool := decide (l.length = 4) || decide (l.length = 16)

end Go.Proofs.YtcbcdfdicefkoaaGreatDoor

namespace Go.Proofs.YtcbcdfdicefkoaaGreatDoor

/-- What stands behind the first label and its dot. -/
def behL (l : List UInt8) : List UInt8 := (cutD 46 l).2.1
/-- Does a pattern stand for a host? -/
def matchL (p s : List UInt8) : Bool := dnsL s && (if dnsL p = true then Lib.equalFold p s else wildL p && Lib.equalFold (behL p) (behL s))

theorem labP_ascii (n k b : Nat) (h : labP n k b = true) : b < 128 := by
  unfold labP plN digN at h
  simp at h
  omega
theorem allP_mem (f : Nat → Nat → Bool) (Q : Nat → Prop) (hf : ∀ k b, f k b = true → Q b) : ∀ (l : List UInt8) (k : Nat), allP f k l = true → ∀ b ∈ l, Q b.toNat
  | [], _, _, b, h => by cases h
  | c :: r, k, hl, b, h => by
    rw [allP, Bool.and_eq_true] at hl
    rcases List.mem_cons.1 h with rfl | h
    · exact hf _ _ hl.1
    · exact allP_mem f Q hf r _ hl.2 b h
theorem labL_ascii (u : List UInt8) (h : labL u = true) : ∀ b ∈ u, b.toNat < 128 := by
  unfold labL at h
  rw [Bool.and_eq_true, Bool.and_eq_true] at h
  exact allP_mem _ (· < 128) (fun k b hb => labP_ascii _ k b hb) u 0 h.2.2
theorem labsG_bytes (Q : UInt8 → Prop) (h46 : Q 46) : ∀ (l acc : List UInt8), (∀ u ∈ labsG acc l, ∀ b ∈ u, Q b) → (∀ b ∈ acc, Q b) ∧ ∀ b ∈ l, Q b
  | [], acc, h => ⟨h acc (by simp [labsG]), fun b hb => by cases hb⟩
  | c :: r, acc, h => by
    rw [labsG] at h
    by_cases hc : c = 46
    · rw [if_pos hc] at h
      have ih := labsG_bytes Q h46 r [] (fun u hu => h u (List.mem_cons_of_mem _ hu))
      refine ⟨h acc (by simp), fun b hb => ?_⟩
      rcases List.mem_cons.1 hb with rfl | hb
      · rw [hc]; exact h46
      · exact ih.2 b hb
    · rw [if_neg hc] at h
      have ih := labsG_bytes Q h46 r (acc ++ [c]) h
      refine ⟨fun b hb => ih.1 b (by simp [hb]), fun b hb => ?_⟩
      rcases List.mem_cons.1 hb with rfl | hb
      · exact ih.1 b (by simp)
      · exact ih.2 b hb
theorem dns_labs {l : List UInt8} (h : dnsL l = true) : (labs l).all labL = true := by
  unfold dnsL at h
  rw [Bool.and_eq_true, dnsG_all, Bool.and_eq_true] at h
  exact h.2.1
theorem dns_ascii {l : List UInt8} (h : dnsL l = true) : ∀ b ∈ l, b.toNat < 128 :=
  (labsG_bytes (fun b => b.toNat < 128) (by decide) l [] (fun u hu b hb => labL_ascii u (List.all_eq_true.1 (dns_labs h) u hu) b hb)).2
theorem dns_ne {l : List UInt8} (h : dnsL l = true) : l ≠ [] := by rintro rfl; rw [dnsL_nil] at h; cases h
theorem cutD_mem (d : UInt8) : ∀ (l : List UInt8), (∀ b ∈ (cutD d l).1, b ∈ l) ∧ ∀ b ∈ (cutD d l).2.1, b ∈ l
  | [] => by simp [cutD]
  | c :: r => by
    have ih := cutD_mem d r
    rw [cutD]
    split
    · exact ⟨fun b h => (by cases h), fun b h => List.mem_cons_of_mem _ h⟩
    · refine ⟨fun b h => ?_, fun b h => List.mem_cons_of_mem _ (ih.2 b h)⟩
      rcases List.mem_cons.1 h with rfl | h
      · simp
      · exact List.mem_cons_of_mem _ (ih.1 b h)
theorem wild_split {l : List UInt8} (h : wildL l = true) : ∃ r, l = 42 :: 46 :: r ∧ dnsL r = true ∧ behL l = r ∧ 1 < (labs r).length ∧ l.length ≤ 253 := by
  match l, h with
  | a :: b :: r, h =>
    simp only [wildL, Bool.and_eq_true, decide_eq_true_eq] at h
    obtain ⟨⟨rfl, rfl⟩, h1, h2, h3⟩ := h
    refine ⟨r, rfl, h2, ?_, ?_, by simp; omega⟩
    · unfold behL; rw [cutD, if_neg (by decide), cutD, if_pos rfl]
    · have : decide (1 < (labsG [] r).length) = r.contains 46 := by
        have go : ∀ (l acc : List UInt8), decide (1 < (labsG acc l).length) = l.contains 46 := by
          intro l
          induction l with
          | nil => intro acc; simp [labsG]
          | cons c r ih =>
            intro acc
            rw [labsG, List.contains_cons]
            by_cases hc : c = 46
            · rw [if_pos hc, hc]
              have h1 : 0 < (labsG [] r).length := List.length_pos_iff.2 (labsG_ne _ _)
              simp; omega
            · have h2 : ((46 : UInt8) == c) = false := by simpa using fun e => hc e.symm
              rw [if_neg hc, ih, h2, Bool.false_or]
        exact go r []
      rw [h3] at this
      simpa [labs] using this
theorem beh_ascii {s : List UInt8} (h : dnsL s = true) : ∀ b ∈ behL s, b.toNat < 128 := fun b hb => dns_ascii h b ((cutD_mem 46 s).2 b hb)

/-- Labels, joined by dots again. -/
def joinL : List (List UInt8) → List UInt8
  | [] => []
  | u :: ws => ws.foldl (fun a v => a ++ [46] ++ v) u
theorem foldl_acc : ∀ (ws : List (List UInt8)) (x y : List UInt8), ws.foldl (fun a v => a ++ [46] ++ v) (x ++ y) = x ++ ws.foldl (fun a v => a ++ [46] ++ v) y
  | [], _, _ => rfl
  | u :: ws, x, y => by
    rw [List.foldl_cons, List.foldl_cons, ← foldl_acc ws x (y ++ [46] ++ u)]
    congr 1
    simp
theorem join_labsG : ∀ (l acc : List UInt8), joinL (labsG acc l) = acc ++ l
  | [], acc => by simp [labsG, joinL]
  | c :: r, acc => by
    rw [labsG]
    by_cases hc : c = 46
    · rw [if_pos hc]
      have ih := join_labsG r []
      obtain ⟨u, ws, hu⟩ : ∃ u ws, labsG [] r = u :: ws := by
        cases h : labsG [] r with
        | nil => exact absurd h (labsG_ne _ _)
        | cons u ws => exact ⟨u, ws, rfl⟩
      rw [hu] at ih ⊢
      show (u :: ws).foldl (fun a v => a ++ [46] ++ v) acc = acc ++ c :: r
      rw [List.foldl_cons, foldl_acc ws (acc ++ [46]) u]
      have e : ws.foldl (fun a v => a ++ [46] ++ v) u = r := ih
      rw [e, hc]
      simp
    · rw [if_neg hc, join_labsG r]; simp
theorem join_labs (l : List UInt8) : joinL (labs l) = l := join_labsG l []
end Go.Proofs.YtcbcdfdicefkoaaGreatDoor

namespace Go.Proofs.YtcbcdfdicefkoaaGreatDoor

/-- A text with small letters. -/
def smallL (l : List UInt8) : List UInt8 := l.map smallB

theorem small_nat (b : UInt8) : (smallB b).toNat = if 65 ≤ b.toNat ∧ b.toNat ≤ 90 then b.toNat + 32 else b.toNat := by
  have h := small_num b
  have hb := b.toNat_lt
  split at h <;> split <;> omega
theorem fold_eq (x y : UInt8) : Lib.foldEq x y = decide (smallB x = smallB y) := by
  unfold Lib.foldEq
  apply decide_eq_decide.2
  have e : smallB x = smallB y ↔ (smallB x).toNat = (smallB y).toNat := ⟨fun h => by rw [h], fun h => UInt8.toNat_inj.1 h⟩
  rw [e, small_nat, small_nat]
  split <;> split <;> omega
theorem fold_small : ∀ a b : List UInt8, Lib.equalFold a b = decide (smallL a = smallL b)
  | [], [] => rfl
  | [], c :: r => by simp [Lib.equalFold, smallL]
  | c :: r, [] => by simp [Lib.equalFold, smallL]
  | c :: r, d :: q => by
    have ih := fold_small r q
    rw [Bool.eq_iff_iff]
    simp only [Lib.equalFold, fold_eq, ih, smallL, List.map_cons, List.cons.injEq, Bool.and_eq_true, decide_eq_true_eq]
    exact ⟨fun h => ⟨h.1, of_decide_eq_true h.2⟩, fun h => ⟨h.1, decide_eq_true h.2⟩⟩
theorem small_dot (c : UInt8) : smallB c = 46 ↔ c = 46 := by
  have e : ∀ z : UInt8, z = 46 ↔ z.toNat = 46 := fun z => ⟨fun e => by rw [e]; rfl, fun e => UInt8.toNat_inj.1 (by rw [e]; rfl)⟩
  rw [e, e, small_nat]
  split <;> omega
theorem small_labs : ∀ (l acc : List UInt8), labsG (smallL acc) (smallL l) = (labsG acc l).map smallL
  | [], acc => by simp [labsG, smallL]
  | c :: r, acc => by
    show labsG (smallL acc) (smallB c :: smallL r) = _
    rw [labsG, labsG]
    by_cases hc : c = 46
    · rw [if_pos hc, if_pos ((small_dot c).2 hc), List.map_cons, ← small_labs r []]; rfl
    · rw [if_neg hc, if_neg (fun h => hc ((small_dot c).1 h)), ← small_labs r (acc ++ [c])]
      congr 1
      simp [smallL]
theorem labs_inj {a b : List UInt8} (h : labs a = labs b) : a = b := by rw [← join_labs a, ← join_labs b, h]
theorem smallH_len (l : List UInt8) : (smallL l).length = l.length := by simp [smallL]

theorem fold_tail {p s : List UInt8} (hw : wildL p = true) : Lib.equalFold (behL p) (behL s) = decide ((labs (smallL p)).length = (labs (smallL s)).length ∧ (labs (smallL p)).drop 1 = (labs (smallL s)).drop 1) := by
  obtain ⟨r, rfl, hr, hb, _, _⟩ := wild_split hw
  rw [hb, fold_small]
  apply decide_eq_decide.2
  have e1 : labs (smallL (42 :: 46 :: r)) = (labs (42 :: 46 :: r)).map smallL := small_labs _ []
  have e2 : labs (smallL s) = (labs s).map smallL := small_labs _ []
  have e3 : labs (42 :: 46 :: r) = [42] :: labs r := rfl
  have e4 := labs_cut s
  have e5 : (labs r).map smallL = labs (smallL r) := (small_labs r []).symm
  rw [e1, e2, e3]
  by_cases hc : (cutD 46 s).2.2 = true
  · rw [if_pos hc] at e4
    have e6 : labs (cutD 46 s).2.1 = labs (behL s) := rfl
    have e7 : (labs (behL s)).map smallL = labs (smallL (behL s)) := (small_labs _ []).symm
    rw [e4, e6, List.map_cons, List.map_cons, List.drop_succ_cons, List.drop_succ_cons, List.drop_zero, List.drop_zero, e5, e7, List.length_cons, List.length_cons]
    constructor
    · intro h; rw [h]; exact ⟨rfl, rfl⟩
    · intro h; exact labs_inj h.2
  · rw [if_neg hc] at e4
    have e6 : behL s = [] := cutD_no 46 s (by simpa using hc)
    rw [e4, e6, List.map_cons, e5]
    constructor
    · intro h
      exfalso
      have := congrArg List.length h
      rw [smallH_len, smallH_len] at this
      exact dns_ne hr (List.length_eq_zero_iff.1 this)
    · intro h
      exfalso
      have h1 := h.1
      simp at h1
      exact labsG_ne _ _ h1

end Go.Proofs.YtcbcdfdicefkoaaGreatDoor

namespace Go.Proofs.YtcbcdfdicefkoaaGreatDoor

theorem lower_small (b : UInt8) : Lib.lowerB b = smallB b := by
  apply UInt8.toNat_inj.1
  rw [small_nat]
  have hb := b.toNat_lt
  have hi := Lib.isUpperB_int b
  unfold Lib.lowerB
  rw [hi]
  by_cases h : 65 ≤ b.toNat ∧ b.toNat ≤ 90
  · rw [if_pos h, if_pos (by simp; omega), UInt8.toNat_add]
    simp; omega
  · rw [if_neg h, if_neg (by simp; omega)]
theorem lower_smallL (l : List UInt8) : Lib.toLowerA l = smallL l := by
  unfold Lib.toLowerA smallL
  exact List.map_congr_left fun b _ => lower_small b

/-- Is a below b? -/
def belB (a b : List UInt8) : Bool := dnsL a && (dnsL b && Lib.hasSuffix (smallL (46 :: a)) (smallL (46 :: b)))

theorem suf_iff (a b : List UInt8) : Lib.hasSuffix a b = true ↔ b <:+ a := by unfold Lib.hasSuffix; exact List.isSuffixOf_iff_suffix
/-- Label by label, from the last one on. -/
theorem labsG_app : ∀ (t acc b : List UInt8), labsG acc (t ++ 46 :: b) = labsG acc t ++ labs b
  | [], acc, b => by
    show labsG acc (46 :: b) = [acc] ++ labs b
    rw [labsG, if_pos rfl]
    rfl
  | c :: r, acc, b => by
    show labsG acc (c :: (r ++ 46 :: b)) = _
    rw [labsG, labsG]
    by_cases hc : c = 46
    · rw [if_pos hc, if_pos hc, labsG_app r, List.cons_append]
    · rw [if_neg hc, if_neg hc, labsG_app r]
theorem foldl_dot : ∀ (ws : List (List UInt8)) (x : List UInt8), ws.foldl (fun a v => a ++ [46] ++ v) x = x ++ ws.foldl (fun a v => a ++ [46] ++ v) []
  | ws, x => by
    have := foldl_acc ws x []
    rwa [List.append_nil] at this
theorem foldl_join : ∀ (ws : List (List UInt8)), ws ≠ [] → ws.foldl (fun a v => a ++ [46] ++ v) [] = 46 :: joinL ws
  | [], h => absurd rfl h
  | u :: ws, _ => by
    show ws.foldl (fun a v => a ++ [46] ++ v) ([] ++ [46] ++ u) = 46 :: ws.foldl (fun a v => a ++ [46] ++ v) u
    rw [foldl_acc ws ([] ++ [46]) u]
    rfl
theorem joinL_app (x y : List (List UInt8)) (hx : x ≠ []) (hy : y ≠ []) : joinL (x ++ y) = joinL x ++ 46 :: joinL y := by
  cases x with
  | nil => exact absurd rfl hx
  | cons u r =>
    show (r ++ y).foldl (fun a v => a ++ [46] ++ v) u = r.foldl (fun a v => a ++ [46] ++ v) u ++ 46 :: joinL y
    rw [List.foldl_append, foldl_dot y, foldl_join y hy]
theorem suf_labs (a b : List UInt8) : 46 :: b <:+ 46 :: a ↔ labs b <:+ labs a := by
  have e : labs (46 :: a) = [] :: labs a := by unfold labs; rw [labsG, if_pos rfl]
  constructor
  · rintro ⟨t, ht⟩
    have h := labsG_app t [] b
    rw [ht] at h
    have h2 : [] :: labs a = labs t ++ labs b := by rw [← e]; exact h
    cases hl : labs t with
    | nil => exact absurd hl (labsG_ne _ _)
    | cons u ws =>
      rw [hl, List.cons_append] at h2
      exact ⟨ws, (List.cons.inj h2).2.symm⟩
  · rintro ⟨t, ht⟩
    have h1 : joinL (([] :: t) ++ labs b) = joinL ([] :: t) ++ 46 :: joinL (labs b) := joinL_app _ _ (by simp) (labsG_ne _ _)
    rw [join_labs, List.cons_append, ht, ← e, join_labs] at h1
    exact ⟨_, h1.symm⟩
theorem bel_labs (a b : List UInt8) : belB a b = (dnsL a && (dnsL b && (labs (smallL b)).isSuffixOf (labs (smallL a)))) := by
  unfold belB
  congr 2
  rw [Bool.eq_iff_iff, suf_iff, List.isSuffixOf_iff_suffix, ← suf_labs]
  rfl

end Go.Proofs.YtcbcdfdicefkoaaGreatDoor
