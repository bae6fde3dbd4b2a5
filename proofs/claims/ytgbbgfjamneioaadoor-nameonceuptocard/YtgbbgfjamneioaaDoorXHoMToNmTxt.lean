/-
  Hosts' names, on lists of bytes: labels, what a host's name is, a wild name, a mail address, a network address.
  The texts of attributes: labels, marks. Contracts of name.marked and name.told.
-/
import Derived.Lib.IndexMore
import Derived.Lib.Index
import Derived.Laws.MakeOwn
import Derived.Test.YtgbbgfjamneioaaDoorXNmEncNToBoxSt
import Derived.Test.YtgbbgfjamneioaaDoorXNmRMay
import Derived.Test.YtgbbgfjamneioaaDoorXTxF0ToTxF1
namespace Go.Proofs.YtgbbgfjamneioaaDoor

/-- The bytes ahead of the first byte d, those behind it, and whether there is one. -/
def cutD (d : UInt8) : List UInt8 → List UInt8 × List UInt8 × Bool
  | [] => ([], [], false)
  | c :: r => if c = d then ([], r, true) else (c :: (cutD d r).1, (cutD d r).2.1, (cutD d r).2.2)

theorem cutD_rest (d : UInt8) : ∀ l, (cutD d l).2.1.length ≤ l.length ∧ (cutD d l).1.length ≤ l.length ∧ ((cutD d l).2.2 = true → (cutD d l).2.1.length < l.length)
  | [] => by simp [cutD]
  | c :: r => by
    have ih := cutD_rest d r
    rw [cutD]
    split
    · simp
    · refine ⟨Nat.le_succ_of_le ih.1, by simp; exact ih.2.1, fun h => Nat.lt_succ_of_lt (ih.2.2 h)⟩

theorem cutD_no (d : UInt8) : ∀ l, (cutD d l).2.2 = false → (cutD d l).2.1 = []
  | [], _ => rfl
  | c :: r, h => by
    rw [cutD] at h ⊢
    split at h
    · cases h
    · rename_i hc; rw [if_neg hc]; exact cutD_no d r h

/-- The library's cut at one byte. -/
theorem cut_one (d : UInt8) : ∀ l : List UInt8, Lib.cut l [d] = cutD d l
  | [] => by simp [cutD, Lib.cut, Lib.index]
  | c :: r => by
    have ih := cut_one d r
    rw [cutD]
    by_cases hd : c = d
    · subst hd
      rw [if_pos rfl]
      simp [Lib.cut, Lib.index]
    · rw [if_neg hd]
      have hne : (d == c) = false := by rw [beq_eq_false_iff_ne]; exact fun e => hd e.symm
      have hx : Lib.index (c :: r) [d] = if Lib.index r [d] == -1 then -1 else Lib.index r [d] + 1 := by
        rw [Lib.index]
        simp [List.isPrefixOf, hne]
      have hge := Lib.index_ge r [d]
      unfold Lib.cut at ih ⊢
      rw [hx]
      by_cases h0 : 0 ≤ Lib.index r [d]
      · rw [if_pos h0] at ih
        have hb1 : (Lib.index r [d] == -1) = false := by rw [beq_eq_false_iff_ne]; omega
        rw [hb1]
        simp only [Bool.false_eq_true, if_false]
        rw [if_pos (by omega)]
        have e1 : (Lib.index r [d] + 1).toNat = (Lib.index r [d]).toNat + 1 := by omega
        rw [e1, ← ih]
        simp
      · rw [if_neg h0] at ih
        have hb1 : (Lib.index r [d] == -1) = true := by rw [beq_iff_eq]; omega
        rw [hb1]
        simp only [if_true]
        rw [if_neg (by omega), ← ih]

/-- The pieces between dots; acc: the bytes of the first one so far. -/
def labsG : List UInt8 → List UInt8 → List (List UInt8)
  | acc, [] => [acc]
  | acc, c :: r => if c = 46 then acc :: labsG [] r else labsG (acc ++ [c]) r
def labs (l : List UInt8) : List (List UInt8) := labsG [] l

theorem labsG_cut : ∀ (l acc : List UInt8), labsG acc l = (acc ++ (cutD 46 l).1) :: (if (cutD 46 l).2.2 = true then labs (cutD 46 l).2.1 else [])
  | [], acc => by simp [labsG, cutD]
  | c :: r, acc => by
    rw [labsG, cutD]
    by_cases hc : c = 46
    · rw [if_pos hc, if_pos hc]; simp [labs]
    · rw [if_neg hc, if_neg hc, labsG_cut r]; simp
theorem labs_cut (l : List UInt8) : labs l = (cutD 46 l).1 :: (if (cutD 46 l).2.2 = true then labs (cutD 46 l).2.1 else []) := labsG_cut l []
theorem labsG_len : ∀ (l acc : List UInt8), (labsG acc l).length ≤ l.length + 1
  | [], _ => by simp [labsG]
  | c :: r, acc => by
    rw [labsG]
    split
    · have := labsG_len r []; simp; omega
    · have := labsG_len r (acc ++ [c]); simp; omega
theorem labsG_ne : ∀ (l acc : List UInt8), labsG acc l ≠ []
  | [], _ => by simp [labsG]
  | c :: r, acc => by
    rw [labsG]
    split
    · simp
    · exact labsG_ne r _
theorem labsG_mem : ∀ (l acc : List UInt8), ∀ u ∈ labsG acc l, u.length ≤ acc.length + l.length
  | [], acc, u, h => by simp [labsG] at h; subst h; simp
  | c :: r, acc, u, h => by
    rw [labsG] at h
    split at h
    · rcases List.mem_cons.1 h with rfl | h
      · simp
      · have := labsG_mem r [] u h; simp at this ⊢; omega
    · have := labsG_mem r _ u h; simp at this ⊢; omega

/-- A digit, a letter or a digit. -/
def digN (n : Nat) : Bool := decide (48 ≤ n ∧ n ≤ 57)
def plN (n : Nat) : Bool := decide (65 ≤ n ∧ n ≤ 90) || decide (97 ≤ n ∧ n ≤ 122) || digN n
/-- Does each byte stand where it may? -/
def allP (f : Nat → Nat → Bool) : Nat → List UInt8 → Bool
  | _, [] => true
  | k, b :: r => f k b.toNat && allP f (k + 1) r
theorem allP_at (f : Nat → Nat → Bool) (l : List UInt8) (k : Nat) (h : k < l.length) : allP f k (l.drop k) = (f k (l[k]'h).toNat && allP f (k + 1) (l.drop (k + 1))) := by
  rw [List.drop_eq_getElem_cons h, allP]
theorem allP_all (g : Nat → Bool) : ∀ (l : List UInt8) (k : Nat), allP (fun _ n => g n) k l = l.all (fun b => g b.toNat)
  | [], _ => rfl
  | b :: r, k => by rw [allP, List.all_cons, allP_all g r]

/-- May a label's byte stand at its place? -/
def labP (n : Nat) (k b : Nat) : Bool := plN b || (decide (b = 45) && (decide (0 < k) && decide (k + 1 < n)))
/-- Is a text a label? is it digits alone? -/
def labL (l : List UInt8) : Bool := decide (0 < l.length) && (decide (l.length ≤ 63) && allP (labP l.length) 0 l)
def numL (l : List UInt8) : Bool := l.all (fun b => digN b.toNat)
/-- Are all labels, and the last one (or, of none, this one) not digits alone? -/
def dnsG : List UInt8 → List (List UInt8) → Bool
  | last, [] => !numL last
  | _, u :: ws => labL u && dnsG u ws
/-- Is a text a host's name? -/
def dnsL (l : List UInt8) : Bool := decide (l.length ≤ 253) && dnsG [] (labs l)
theorem dnsG_all : ∀ (ws : List (List UInt8)) (last : List UInt8), dnsG last ws = (ws.all labL && !numL (ws.getLast?.getD last))
  | [], last => by simp [dnsG]
  | u :: ws, last => by
    rw [dnsG, dnsG_all ws u, List.all_cons, Bool.and_assoc]
    congr 3
    cases ws with
    | nil => rfl
    | cons v ws => rw [List.getLast?_cons_cons]; cases h : (v :: ws).getLast? with
      | none => simp at h
      | some x => rfl
theorem dnsL_nil : dnsL [] = false := by decide
/-- Is a text a wild name? -/
def wildL : List UInt8 → Bool
  | a :: b :: r => decide (a = 42 ∧ b = 46) && (decide (r.length + 2 ≤ 253) && (dnsL r && r.contains 46))
  | _ => false

/-- May a byte stand in a local part, beside dots? -/
def locN (n : Nat) : Bool := plN n || (decide (n = 95) || (decide (n = 43) || decide (n = 45)))
/-- The pieces of a local part. -/
def locG (ws : List (List UInt8)) : Bool := ws.all (fun u => !u.isEmpty && u.all (fun b => locN b.toNat))
def locL (l : List UInt8) : Bool := decide (l.length ≤ 64) && locG (labs l)
/-- Is a text a mail address? -/
def mailL (l : List UInt8) : Bool := locL (cutD 64 l).1 && dnsL (cutD 64 l).2.1
/-- The same, byte by byte: p: does a dot, or nothing, stand ahead? -/
def locS : Bool → List UInt8 → Bool
  | p, [] => !p
  | p, c :: r => if c = 46 then !p && locS true r else locN c.toNat && locS false r
theorem locG_S : ∀ (l acc : List UInt8), locG (labsG acc l) = (acc.all (fun b => locN b.toNat) && locS acc.isEmpty l)
  | [], acc => by simp [labsG, locG, locS, Bool.and_comm]
  | c :: r, acc => by
    rw [labsG, locS]
    by_cases hc : c = 46
    · rw [if_pos hc, if_pos hc]
      show ((!acc.isEmpty && acc.all (fun b => locN b.toNat)) && locG (labsG [] r)) = _
      rw [locG_S r []]
      simp only [List.all_nil, Bool.true_and, List.isEmpty_nil]
      cases acc.isEmpty <;> cases acc.all (fun b => locN b.toNat) <;> simp
    · rw [if_neg hc, if_neg hc, locG_S r]
      have e : (acc ++ [c]).isEmpty = false := by cases acc <;> rfl
      rw [e, List.all_append]
      simp [Bool.and_assoc]
theorem locL_S (l : List UInt8) : locL l = (decide (l.length ≤ 64) && locS true l) := by
  unfold locL labs
  rw [locG_S]
  rfl

/-- Is a text a network address? -/
def ipL (l : List UInt8) : Bool := decide (l.length = 4) || decide (l.length = 16)

end Go.Proofs.YtgbbgfjamneioaaDoor

namespace Go.Proofs.YtgbbgfjamneioaaDoor
open Go.RowKit Go.IntWalk Go.Shelf

def spB (x : UInt8) : Bool := x == 44 || x == 92
def markU : List UInt8 → List UInt8
  | [] => []
  | x :: r => if spB x = true then 92 :: x :: markU r else x :: markU r
def mkS (s : ByteArray) : ByteArray := ⟨(markU s.data.toList).toArray⟩
def tldS (x : Int × ByteArray) : ByteArray := labS x.1 ++ ⟨#[61]⟩ ++ mkS x.2
def tldU (x : Int × ByteArray) : List UInt8 := (tldS x).data.toList
def txU (n : List (Int × ByteArray)) : List UInt8 := Lib.join (n.map tldU) [44]
def txT (n : List (Int × ByteArray)) : ByteArray := if nameL n = true then ⟨(txU n).toArray⟩ else ⟨#[]⟩

theorem markU_app : ∀ a b, markU (a ++ b) = markU a ++ markU b
  | [], _ => rfl
  | x :: a, b => by
    rw [List.cons_append, markU, markU, markU_app a b]
    split <;> rfl
theorem markU_len : ∀ l, (markU l).length ≤ 2 * l.length
  | [] => Nat.le_refl _
  | x :: r => by
    have := markU_len r
    rw [markU]
    split <;> (simp only [List.length_cons]; omega)
theorem markU_snoc (l : List UInt8) (k : Nat) (h : k < l.length) : markU (l.take (k + 1)) = markU (l.take k) ++ (if spB (l.getD k 0) = true then [92, l.getD k 0] else [l.getD k 0]) := by
  have e : l.take (k + 1) = l.take k ++ [l.getD k 0] := by
    rw [List.take_add_one]
    simp [List.getD, List.getElem?_eq_getElem h]
  rw [e, markU_app]
  congr 1
theorem get_bs (s : ByteArray) (k : Nat) (h : k < s.size) : s[k]'h = s.data.toList.getD k 0 := by
  have h2 : k < s.data.toList.length := by rw [Array.length_toList]; exact h
  rw [List.getD, List.getElem?_eq_getElem h2]
  rfl
theorem nums_app (a b : List UInt8) : nums (a ++ b) = nums a ++ nums b := by unfold nums; rw [List.map_append]
theorem labS_len (t : Int) : (labS t).size ≤ 2 := by
  unfold labS
  (repeat' split) <;> decide
theorem mkS_len (s : ByteArray) : (mkS s).size ≤ 2 * s.size := markU_len s.data.toList
theorem bs_app_len (a b : ByteArray) : (a ++ b).size = a.size + b.size := ByteArray.size_append

set_option maxRecDepth 100000 in
set_option maxHeartbeats 2000000 in
theorem marked_any (s : ByteArray) (hs : s.size ≤ 1048576) (w : World) :
    Calls Tryd.prog 52 #[.string s] w fun e w' => e = .returned (.string (mkS s)) ∧ Below w.heap.size w w' := by
  obtain ⟨i0, hi, hz0, hz1, hz2⟩ := info_parts Tryd.infoB
  obtain ⟨wm, hmk, hown, hgm⟩ := run_make_own (P := Tryd.prog) (w := w) w.heap.size 25 5 i0 (.int .u8 0) 1 Tryd.underlying25 hi hz0 hz1 .i64 .i64 s.size (by rw [hz2]; omega) (by unfold maxLen; omega) (Nat.le_refl _)
  clear hi hz0 hz1 hz2 i0
  have HO : Hid (OwnB wm w.heap.size (.slice (some ⟨w.heap.size, 0, none⟩) 0 s.size) (nums [])) := hown
  have HG := hide (below_of_grown hgm)
  have hsl : Hid (s.data.toList.length = s.size) := by unfold Hid; rw [Array.length_toList]; rfl
  clear hown hgm
  have hsI : (s.size : Int) ≤ 1048576 := by omega
  go_enter Tryd.func52, Tryd.ntmps52
  go_wp2
  go_loopw [3, 10] (fun v i wr => ∃ (k g m c : Nat), v = .slice (some ⟨g, 0, none⟩) m c ∧ i = .int .i64 k ∧ k ≤ s.size ∧ m ≤ 2 * k ∧ Hid (OwnB wr w.heap.size (.slice (some ⟨g, 0, none⟩) m c) (nums (markU (s.data.toList.take k)))) ∧ Below w.heap.size w wr) (fun _ i _ => s.size - (intOf i).toNat)
  case atStart => exact ⟨0, w.heap.size, 0, s.size, rfl, rfl, Nat.zero_le _, Nat.le_refl _, by simpa [markU] using HO, HG.out⟩
  case round =>
    obtain ⟨k, g, m, c, rfl, rfl, hk, hm, hO, hB⟩ := hrel
    have hBs := hB.size
    by_cases hlt : k < s.size
    · have ltI : (k : Int) < (s.size : Int) := by omega
      have hsn := hide (markU_snoc s.data.toList k (by rw [hsl.out]; exact hlt))
      obtain ⟨x, hx⟩ : ∃ x, (s[k]'hlt) = x := ⟨_, rfl⟩
      have hxd : s.data.toList.getD k 0 = x := by rw [← get_bs s k hlt]; exact hx
      rw [hxd] at hsn
      have hxI : ((s[k]'hlt).toNat : Int) = (x.toNat : Int) := by rw [hx]
      have hx256 := x.toNat_lt
      have hlen := OwnB.eqlen hO.out
      obtain ⟨M, hM⟩ : ∃ M, nums (markU (s.data.toList.take k)) = M := ⟨_, rfl⟩
      rw [hM] at hO hlen
      have HM := hide hM
      have HLN := hide hlen
      obtain ⟨y, hy⟩ : ∃ y : Int, (x.toNat : Int) = y := ⟨_, rfl⟩
      rw [hy] at hxI
      have hy0 : 0 ≤ y ∧ y < 256 := by omega
      have HY := hide hy
      clear hM hlen hxd
      by_cases hsp : spB x = true
      · have HN : Hid (nums (markU (s.data.toList.take (k + 1))) = M ++ [92] ++ [y]) := by
          unfold Hid
          rw [hsn.out, if_pos hsp, nums_app, HM.out, ← HY.out, List.append_assoc]
          rfl
        have hc : (y == 44) = true ∨ ((y == 44) = false ∧ (y == 92) = true) := by
          unfold spB at hsp
          simp only [Bool.or_eq_true, beq_iff_eq] at hsp
          by_cases h44 : x = 44
          · left; subst h44; rw [← HY.out]; rfl
          · right
            rcases hsp with h | h
            · exact absurd h h44
            · subst h; rw [← HY.out]; exact ⟨rfl, rfl⟩
        clear hsp hsn hx hy
        rcases hc with c1 | ⟨c1, c2⟩
        · go_wp2_with (first | (at_builtin; refine wpList_appN _ rfl (.tmp 23) (.tmp 24) rfl w.heap.size (.slice (some ⟨g, 0, none⟩) m c) M rfl (hO.out.alloc _) (some ⟨wr.heap.size, 0, none⟩) 1 1 [92] rfl (Src.lit [92] _ 1 rfl rfl (by simp) (by decide)) (m + 1) (by rw [List.length_append, ← HLN.out]; rfl) (.inr (by simp)) (by omega) (by simp; omega) ?_; intro g4 c4 w4 ho4 hb4 hl4 hc4 hm4 hg4) | (at_builtin; refine wpList_appN _ rfl (.tmp 26) (.tmp 30) rfl w.heap.size (.slice (some ⟨g4, 0, none⟩) (m + 1) c4) (M ++ [92]) rfl (ho4.alloc _) (some ⟨w4.heap.size, 0, none⟩) 1 1 [y] rfl (Src.lit [y] _ 1 rfl rfl (by simp; exact hy0) (by decide)) (m + 2) (by rw [List.length_append, List.length_append, ← HLN.out]; rfl) (.inr (by simp)) (by omega) (by simp; omega) ?_; intro g5 c5 w5 ho5 hb5 hl5 hc5 hm5 hg5))
          have hB4 : Below w.heap.size w w4 := (hB.alloc (by omega) _).grown hg4 (by simp; omega) (by intro q hq; cases hq; exact (OwnB.lt hO.out g rfl).1)
          have hB5 : Below w.heap.size w w5 := (hB4.alloc (by have := hB4.size; omega) _).grown hg5 (by have := hB4.size; simp; omega) (by intro q hq; cases hq; exact hb4)
          go_roundw
          case rel => exact ⟨k + 1, g5, m + 2, c5, rfl, by go_num, by omega, by omega, by rw [HN.out]; exact ho5, hB5⟩
          case measure => simp [intOf]; omega
        · go_wp2_with (first | (at_builtin; refine wpList_appN _ rfl (.tmp 23) (.tmp 24) rfl w.heap.size (.slice (some ⟨g, 0, none⟩) m c) M rfl (hO.out.alloc _) (some ⟨wr.heap.size, 0, none⟩) 1 1 [92] rfl (Src.lit [92] _ 1 rfl rfl (by simp) (by decide)) (m + 1) (by rw [List.length_append, ← HLN.out]; rfl) (.inr (by simp)) (by omega) (by simp; omega) ?_; intro g4 c4 w4 ho4 hb4 hl4 hc4 hm4 hg4) | (at_builtin; refine wpList_appN _ rfl (.tmp 26) (.tmp 30) rfl w.heap.size (.slice (some ⟨g4, 0, none⟩) (m + 1) c4) (M ++ [92]) rfl (ho4.alloc _) (some ⟨w4.heap.size, 0, none⟩) 1 1 [y] rfl (Src.lit [y] _ 1 rfl rfl (by simp; exact hy0) (by decide)) (m + 2) (by rw [List.length_append, List.length_append, ← HLN.out]; rfl) (.inr (by simp)) (by omega) (by simp; omega) ?_; intro g5 c5 w5 ho5 hb5 hl5 hc5 hm5 hg5))
          have hB4 : Below w.heap.size w w4 := (hB.alloc (by omega) _).grown hg4 (by simp; omega) (by intro q hq; cases hq; exact (OwnB.lt hO.out g rfl).1)
          have hB5 : Below w.heap.size w w5 := (hB4.alloc (by have := hB4.size; omega) _).grown hg5 (by have := hB4.size; simp; omega) (by intro q hq; cases hq; exact hb4)
          go_roundw
          case rel => exact ⟨k + 1, g5, m + 2, c5, rfl, by go_num, by omega, by omega, by rw [HN.out]; exact ho5, hB5⟩
          case measure => simp [intOf]; omega
      · have HN : Hid (nums (markU (s.data.toList.take (k + 1))) = M ++ [y]) := by
          unfold Hid
          rw [hsn.out, if_neg hsp, nums_app, HM.out, ← HY.out]
          rfl
        have hc : (y == 44) = false ∧ (y == 92) = false := by
          unfold spB at hsp
          simp only [Bool.or_eq_true, beq_iff_eq, not_or] at hsp
          rw [← HY.out]
          refine ⟨beq_eq_false_iff_ne.2 (fun e => hsp.1 ?_), beq_eq_false_iff_ne.2 (fun e => hsp.2 ?_)⟩
          · apply UInt8.toNat_inj.1; show x.toNat = 44; omega
          · apply UInt8.toNat_inj.1; show x.toNat = 92; omega
        obtain ⟨c1, c2⟩ := hc
        clear hsp hsn hx hy
        go_wp2_with (at_builtin; refine wpList_appN _ rfl (.tmp 26) (.tmp 30) rfl w.heap.size (.slice (some ⟨g, 0, none⟩) m c) M rfl (hO.out.alloc _) (some ⟨wr.heap.size, 0, none⟩) 1 1 [y] rfl (Src.lit [y] _ 1 rfl rfl (by simp; exact hy0) (by decide)) (m + 1) (by rw [List.length_append, ← HLN.out]; rfl) (.inr (by simp)) (by omega) (by simp; omega) ?_; intro g4 c4 w4 ho4 hb4 hl4 hc4 hm4 hg4)
        have hB4 : Below w.heap.size w w4 := (hB.alloc (by omega) _).grown hg4 (by simp; omega) (by intro q hq; cases hq; exact (OwnB.lt hO.out g rfl).1)
        go_roundw
        case rel => exact ⟨k + 1, g4, m + 1, c4, rfl, by go_num, by omega, by omega, by rw [HN.out]; exact ho4, hB4⟩
        case measure => simp [intOf]; omega
    · obtain rfl : k = s.size := by omega
      have nI : ¬ ((s.size : Int) < (s.size : Int)) := by omega
      have hall : s.data.toList.take s.size = s.data.toList := List.take_of_length_le (by rw [hsl.out]; exact Nat.le_refl _)
      rw [hall] at hO
      have ht := (OwnB.toSrc hO.out (nums_byte _)).text
      rw [nums_text] at ht
      clear hall
      go_wp2
      go_ret
      exact ⟨rfl, hB⟩

end Go.Proofs.YtgbbgfjamneioaaDoor
