/-
  May and Kind, both the program's and the document's: of which kind a text is.
  text.Words$1, the function that is ranged over: it goes over the words of a text.
  A text as it is compared: what is laid of its words. No program, but for the letters' call.
-/
import Derived.Test.YtgbbgfjamneioaaZTxP3
import Derived.RangeFuncNested
import Derived.RangeFuncBound
import Derived.RangeFuncCalls
import Derived.RangeFuncLeaves
import Derived.RangeFuncBox
import Derived.Shelf.Abstract
import Derived.Shelf.RegionOpen
import Derived.WalkKit
import Derived.OwnWalkIn
import Derived.TacticsInMore
import Derived.LoopNIn
import Derived.LoopIn
import Derived.Test.YtgbbgfjamneioaaZAllBaseToQRound
import Derived.Test.YtgbbgfjamneioaaZTxMToTxV1
import Derived.Test.YtgbbgfjamneioaaZShelfAllToTxV3
import Derived.Test.YtgbbgfjamneioaaZBts
namespace Go.Proofs.Ytgbbgfjamneioaa
open Go.RowKit Go.IntWalk

/-- Is a row of bytes a text of a kind? -/
def mayL (k : Int) (l : List UInt8) : Bool :=
  if 4096 < l.length then false else if k = 12 then decide (validL l = l.length) else if k = 19 then l.all (fun b => printN b.toNat) else if k = 22 then l.all (fun b => ia5N b.toNat) else false

/-- Of which kind a row of bytes is written, or that it is no text. -/
def kindL (l : List UInt8) : Int × Int := if mayL 19 l = true then (19, 0) else if mayL 12 l = true then (12, 0) else (0, 50)

theorem size_len (s : ByteArray) : s.data.toList.length = s.size := by rw [Array.length_toList]; rfl

set_option maxRecDepth 100000 in
set_option maxHeartbeats 1000000 in
theorem may_any (k : Int) (s : ByteArray) (hs : s.size ≤ 140737488355328) (w : World) :
    Calls Try.prog 52 #[.int .i64 k, .string s] w fun e w' => e = .returned (.bool (mayL k s.data.toList)) ∧ Below w.heap.size w w' := by
  have hl := size_len s
  by_cases h0 : 4096 < s.size
  · have hm : Hid (mayL k s.data.toList = false) := by unfold Hid mayL; rw [if_pos (by omega)]
    have h0' : (4096 : Int) < (s.size : Int) := by omega
    go_enter Try.func52, Try.ntmps52
    go_wp2
    go_ret
    exact ⟨by rw [hm.out]; rfl, Below.refl _ _⟩
  have h0' : ¬ (4096 : Int) < (s.size : Int) := by omega
  by_cases h1 : k = 12
  · subst h1
    have hm : Hid (mayL 12 s.data.toList = ((validL s.data.toList : Int) == (s.size : Int))) := by
      unfold Hid mayL; rw [if_neg (by omega), if_pos rfl, hl, Bool.eq_iff_iff]; simp; omega
    have hV := hide (fun W => valid_any s hs W)
    generalize validL s.data.toList = V at hm hV
    go_enter Try.func52, Try.ntmps52
    go_wp2_with (go_at_call 66; refine (hV.out _).mono ?_; rintro e w2 ⟨rfl, h2⟩)
    go_ret
    exact ⟨by rw [hm.out]; rfl, h2⟩
  by_cases h2 : k = 19
  · subst h2
    have hm : Hid (mayL 19 s.data.toList = s.data.toList.all (fun b => printN b.toNat)) := by unfold Hid mayL; rw [if_neg (by omega), if_neg h1, if_pos rfl]
    have hV := hide (fun W => all_isPrintable s hs W)
    generalize s.data.toList.all (fun b => printN b.toNat) = V at hm hV
    go_enter Try.func52, Try.ntmps52
    go_wp2_with (go_at_call 67; refine (hV.out _).mono ?_; rintro e w2 ⟨rfl, h2⟩)
    go_ret
    exact ⟨by rw [hm.out]; rfl, h2⟩
  by_cases h3 : k = 22
  · subst h3
    have hm : Hid (mayL 22 s.data.toList = s.data.toList.all (fun b => ia5N b.toNat)) := by unfold Hid mayL; rw [if_neg (by omega), if_neg h1, if_neg h2, if_pos rfl]
    have hV := hide (fun W => all_isIA5 s hs W)
    generalize s.data.toList.all (fun b => ia5N b.toNat) = V at hm hV
    go_enter Try.func52, Try.ntmps52
    go_wp2_with (go_at_call 67; refine (hV.out _).mono ?_; rintro e w2 ⟨rfl, h2⟩)
    go_ret
    exact ⟨by rw [hm.out]; rfl, h2⟩
  · have hm : Hid (mayL k s.data.toList = false) := by unfold Hid mayL; rw [if_neg (by omega), if_neg h1, if_neg h2, if_neg h3]
    have q1 : (k == 12) = false := by simpa using h1
    have q2 : (k == 19) = false := by simpa using h2
    have q3 : (k == 22) = false := by simpa using h3
    clear h1 h2 h3
    go_enter Try.func52, Try.ntmps52
    go_wp2
    go_ret
    exact ⟨by rw [hm.out]; rfl, Below.refl _ _⟩

set_option maxRecDepth 100000 in
theorem kind_any (s : ByteArray) (hs : s.size ≤ 140737488355328) (w : World) :
    Calls Try.prog 42 #[.string s] w fun e w' => e = .returned (.tuple #[.int .i64 (kindL s.data.toList).1, .int .i64 (kindL s.data.toList).2]) ∧ Below w.heap.size w w' := by
  have m19 := hide (fun W => may_any 19 s hs W)
  have m12 := hide (fun W => may_any 12 s hs W)
  have hk : Hid (kindL s.data.toList = if mayL 19 s.data.toList = true then (19, 0) else if mayL 12 s.data.toList = true then (12, 0) else (0, 50)) := rfl
  generalize kindL s.data.toList = K at hk ⊢
  generalize mayL 19 s.data.toList = A at hk m19
  generalize mayL 12 s.data.toList = B at hk m12
  cases A with
  | true =>
    obtain rfl : K = (19, 0) := hk.out
    go_enter Try.func42, Try.ntmps42
    go_wp2_with (go_at_call_of 52 (Value.int .i64 19); refine (m19.out _).mono ?_; rintro e w2 ⟨rfl, h2⟩)
    refine bodyPost_ret (v := .tuple #[.int .i64 19, .int .i64 0]) (by simp [results, Try.results42, go_sem]) rfl ⟨rfl, h2⟩
  | false =>
    cases B with
    | true =>
      obtain rfl : K = (12, 0) := hk.out
      go_enter Try.func42, Try.ntmps42
      go_wp2_with (first | (go_at_call_of 52 (Value.int .i64 19); refine (m19.out _).mono ?_; rintro e w2 ⟨rfl, h2⟩) | (go_at_call_of 52 (Value.int .i64 12); refine (m12.out _).mono ?_; rintro e w3 ⟨rfl, h3⟩))
      refine bodyPost_ret (v := .tuple #[.int .i64 12, .int .i64 0]) (by simp [results, Try.results42, go_sem]) rfl ⟨rfl, h2.trans (h3.mono h2.size)⟩
    | false =>
      obtain rfl : K = (0, 50) := hk.out
      go_enter Try.func42, Try.ntmps42
      go_wp2_with (first | (go_at_call_of 52 (Value.int .i64 19); refine (m19.out _).mono ?_; rintro e w2 ⟨rfl, h2⟩) | (go_at_call_of 52 (Value.int .i64 12); refine (m12.out _).mono ?_; rintro e w3 ⟨rfl, h3⟩))
      refine bodyPost_ret (v := .tuple #[.int .i64 0, .int .i64 50]) (by simp [results, Try.results42, go_sem]) rfl ⟨rfl, h2.trans (h3.mono h2.size)⟩

end Go.Proofs.Ytgbbgfjamneioaa

namespace Go.Proofs.Ytgbbgfjamneioaa
open Go.RowKit Go.Shelf Go.IntWalk
attribute [local go_sem] Oper.semAt_some

theorem grown_iterAt (w : World) (k : Nat) (s : ByteArray) (p : Nat) : w.grownBy (w.iterAt k s p) (some k) :=
  ⟨rfl, rfl, rfl, by rw [Lib.iterAt_size]; exact Nat.le_refl _, fun i _ hne => Lib.iterAt_other w k i s p (fun e => hne (by rw [e]))⟩

theorem cut_text (s : ByteArray) (a b : Nat) : s.extract a b = ⟨(cutL s.data.toList a b).toArray⟩ := by
  apply ByteArray.ext
  rw [ByteArray.data_extract]
  apply Array.ext'
  rw [Array.toList_extract]
  unfold cutL
  rw [List.drop_take]

theorem dec_blank (s : ByteArray) (p : Nat) (hp : p < s.size) (hb : (s[p]'hp) = 32) : Utf8.decode s p = (32, 1) := by
  have h := decode_ascii s p hp (by rw [hb]; decide)
  rw [hb] at h
  exact h

theorem dec_word (s : ByteArray) (p : Nat) (hp : p < s.size) (hb : (s[p]'hp) ≠ 32) :
    (Utf8.decode s p).1 ≠ 32 ∧ p + (Utf8.decode s p).2 ≤ s.size ∧ 1 ≤ (Utf8.decode s p).2 ∧ ∀ b ∈ (s.data.toList.drop p).take (Utf8.decode s p).2, b ≠ 32 := by
  have hL := len_at s p
  have hl : p < s.data.toList.length := by rw [Array.length_toList]; exact hp
  have b0 : (s[p]'hp).toNat = bt (s.data.toList.drop p) 0 := byte_at s p 0 hp
  by_cases h : (s[p]'hp).toNat < 128
  · rw [decode_ascii s p hp h]
    refine ⟨?_, by omega, Nat.le_refl _, ?_⟩
    · intro e
      apply hb
      apply UInt8.toNat_inj.1
      exact e
    · rw [List.drop_eq_getElem_cons hl]
      intro b hb2
      simp at hb2
      subst hb2
      exact hb
  · have hh := decode_high s p hp (by omega)
    have hle := charL_le (s.data.toList.drop p) (by omega)
    refine ⟨by have := hh.1; omega, ?_, hh.2, ?_⟩
    · rcases decode_char s p hp with ⟨_, h2⟩ | ⟨_, h2, _⟩
      · rw [h2]; show p + 1 ≤ s.size; omega
      · rw [h2]; omega
    · refine char_noblank _ _ (by omega) ?_
      rcases decode_char s p hp with ⟨_, h2⟩ | ⟨_, h2, _⟩
      · right; rw [h2]
      · left; exact h2

theorem get_list (s : ByteArray) (p : Nat) (hp : p < s.size) (hl : p < s.data.toList.length) : s.data.toList[p]'hl = s[p]'hp := by simp; rfl

end Go.Proofs.Ytgbbgfjamneioaa

namespace Go.Proofs.Ytgbbgfjamneioaa
open Go.RowKit Go.IntWalk

/-- The small letter of a great one. -/
def smallB (b : UInt8) : UInt8 := if 65 ≤ b.toNat ∧ b.toNat ≤ 90 then b + 32 else b
/-- What is laid, with one blank ahead of the next word. -/
def gap (acc : List UInt8) : List UInt8 := if acc.length = 0 then acc else acc ++ [32]
/-- What is laid of some words behind what lies. -/
def lay (acc : List UInt8) : List (List UInt8) → List UInt8
  | [] => acc
  | u :: ws => lay (gap acc ++ u.map smallB) ws
/-- A text as it is compared. -/
def foldL (l : List UInt8) : List UInt8 := lay [] (wordsL l)
/-- Bytes as numbers. -/
def nums (l : List UInt8) : List Int := l.map (fun b => (b.toNat : Int))

theorem gap_len (acc : List UInt8) : (gap acc).length ≤ acc.length + 1 := by unfold gap; split <;> simp

theorem lay_len : ∀ (ws : List (List UInt8)) (acc : List UInt8), (lay acc ws).length ≤ acc.length + spanW ws
  | [], acc => by simp [lay, spanW]
  | u :: ws, acc => by
    have h := lay_len ws (gap acc ++ u.map smallB)
    have g := gap_len acc
    rw [List.length_append, List.length_map] at h
    simp only [lay, spanW]
    omega

theorem nums_len (l : List UInt8) : (nums l).length = l.length := by simp [nums]
theorem nums_append (a b : List UInt8) : nums (a ++ b) = nums a ++ nums b := by simp [nums]
theorem nums_bytes (l : List UInt8) : ∀ x ∈ nums l, 0 ≤ x ∧ x < 256 := by
  intro x hx
  obtain ⟨b, _, rfl⟩ := List.mem_map.1 hx
  have := b.toNat_lt
  omega

theorem nums_text (l : List UInt8) : strOfNums (nums l) = ⟨l.toArray⟩ := by
  apply ByteArray.ext
  apply Array.ext'
  rw [strOfNums_data]
  unfold nums
  rw [List.map_map]
  show l.map _ = l
  conv => rhs; rw [← List.map_id l]
  apply List.map_congr_left
  intro b _
  show UInt8.ofNat ((b.toNat : Int).toNat) = b
  simp

theorem small_num (b : UInt8) : ((smallB b).toNat : Int) = if (65 : Int) ≤ (b.toNat : Int) ∧ (b.toNat : Int) ≤ 90 then (b.toNat : Int) + 32 else (b.toNat : Int) := by
  unfold smallB
  by_cases h : 65 ≤ b.toNat ∧ b.toNat ≤ 90
  · rw [if_pos h, if_pos (by omega), UInt8.toNat_add]
    have e : (32 : UInt8).toNat = 32 := rfl
    rw [e]
    omega
  · rw [if_neg h, if_neg (by omega)]

theorem take_nextI (u : List UInt8) (k : Nat) (h : k < u.length) : (u.take (k + 1)).map smallB = (u.take k).map smallB ++ [smallB (u[k]'h)] := by
  rw [List.take_succ_eq_append_getElem h, List.map_append]
  rfl

end Go.Proofs.Ytgbbgfjamneioaa
