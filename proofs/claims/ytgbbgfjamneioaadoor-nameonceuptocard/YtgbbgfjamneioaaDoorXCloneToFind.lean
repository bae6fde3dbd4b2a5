/-
  bytes.Clone copies bytes into new memory.
  Plain facts on the bytes of a length: the digits of a number below 2^24 to the base 256, and the one form of a length. No Go, no program.
  The element with which bytes begin, as a plain function of the bytes: its tag, where its content begins and ends, or the error's number. No Go, no program.
  der.isTag answers as the plain function of the number says.
-/
import Derived.Test.YtgbbgfjamneioaaDoorXMoreToNextS
import Derived.Lib.Bytes
import Derived.Laws.BitsAllLaws
import Derived.Laws.BitsLemmas
import Derived.IntWalk
import Derived.Test.YtgbbgfjamneioaaDoorXBaseToBts
import Derived.Deep.QuietTactic
import Derived.BigQuiet
namespace Go.Proofs.YtgbbgfjamneioaaDoor
open Go.RowKit Go.IntWalk

set_option maxRecDepth 100000 in
set_option maxHeartbeats 1000000 in
theorem cloneN_any (ao : Option Addr) (n cap : Nat) (xs : List Int) (w : World) (hs : Src w ao n cap xs) (hN : n ≤ 140737488355328) :
    Calls Tryd.prog 64 #[.slice ao n cap] w fun e w' => ∃ ao' c', e = .returned (.slice ao' n c') ∧ OwnB w' w.heap.size (.slice ao' n c') xs ∧ Below w.heap.size w w' := by
  have q22 : ∀ (w : World) (a : Option Addr) (n c n' c' : Nat), (binOp .eql 25 (.slice a n c) (.slice none n' c')).run Tryd.prog w = .ok (.bool a.isNone) w :=
    fun w a n c n' c' => Lib.run_eql_slice_nil w _ _ a n c n' c' Tryd.underlying25
  have hl := hide hs.hlen
  cases ao with
  | none =>
    obtain ⟨rfl, rfl⟩ := hs.hnil rfl
    obtain rfl : xs = [] := List.eq_nil_of_length_eq_zero hl.out
    go_enter Tryd.func64, Tryd.ntmps64
    go_wp2
    go_ret
    exact ⟨_, _, rfl, OwnB.nil _ _, Below.refl _ _⟩
  | some ad =>
    go_enter Tryd.func64, Tryd.ntmps64
    go_wp2_with (at_builtin; refine wpList_appN _ rfl (.tmp 5) (.tmp 6) rfl w.heap.size (.slice (some ⟨w.heap.size, 0, none⟩) 0 0) [] rfl (OwnB.lit _ [] _ 0 rfl rfl (Nat.le_refl _) (by decide)) (some ad) n cap xs rfl (hs.alloc _) n (by simpa using hl.out) (.inl (by simp)) (by omega) (by simp) ?_; intro g1 c1 w1 ho1 hb1 hl1 hc1 hm1 hg1)
    go_ret
    exact ⟨_, _, rfl, ho1, ((Below.refl _ _).alloc (Nat.le_refl _) _).grown hg1 (by simp) (by intro k hk; cases hk; exact Nat.le_refl _)⟩

end Go.Proofs.YtgbbgfjamneioaaDoor

namespace Go.Proofs.YtgbbgfjamneioaaDoor

/-- The digits to the base 256 of a number below 2^24, the greatest first; none of 0. -/
def digs (n : Nat) : List Int :=
  if n = 0 then [] else if n < 256 then [(n : Int)] else if n < 65536 then [((n / 256 : Nat) : Int), ((n % 256 : Nat) : Int)]
  else [((n / 65536 : Nat) : Int), ((n / 256 % 256 : Nat) : Int), ((n % 256 : Nat) : Int)]

theorem digs_zero : digs 0 = [] := rfl

theorem digs_step (m : Nat) (h0 : 0 < m) (h : m < 16777216) : digs m = digs (m / 256) ++ [((m % 256 : Nat) : Int)] := by
  unfold digs
  by_cases h1 : m < 256
  · have e : m / 256 = 0 := by omega
    have e2 : m % 256 = m := by omega
    simp [e, e2, h1, show m ≠ 0 by omega]
  · by_cases h2 : m < 65536
    · have e : m / 256 < 256 := by omega
      simp [h1, h2, e, show m ≠ 0 by omega, show m / 256 ≠ 0 by omega]
    · have e : m / 256 < 65536 := by omega
      have e1 : ¬ m / 256 < 256 := by omega
      have e3 : m / 256 / 256 = m / 65536 := by omega
      simp [h1, h2, e, e1, e3, show m ≠ 0 by omega, show m / 256 ≠ 0 by omega]

theorem digs_len (m : Nat) : (digs m).length ≤ 3 := by
  unfold digs
  split
  · simp
  · split
    · simp
    · split <;> simp

theorem digs_byte (m : Nat) (h : m < 16777216) : ∀ x ∈ digs m, 0 ≤ x ∧ x < 256 := by
  intro x hx
  unfold digs at hx
  split at hx
  · simp at hx
  · split at hx
    · simp at hx; omega
    · split at hx
      · simp at hx; omega
      · simp at hx; omega

/-- The bytes of a length. -/
def lenB (n : Nat) : List Int := if n < 128 then [(n : Int)] else (128 + ((digs n).length : Int)) :: digs n

theorem lenB_len4 (n : Nat) : (lenB n).length ≤ 4 := by
  unfold lenB; split
  · simp
  · have := digs_len n; simp; omega

/-- How many bytes stand ahead of a content of n bytes. -/
def sizeN (n : Int) : Int := if n < 0 ∨ 16777215 < n then 0 else if n ≤ 127 then 2 else if n < 256 then 3 else if n < 65536 then 4 else 5

theorem sizeN_eq (n : Nat) (h : n < 16777216) : sizeN n = 1 + ((lenB n).length : Int) := by
  unfold sizeN lenB digs
  rw [if_neg (by omega)]
  by_cases h1 : n < 128
  · simp [h1, show (n : Int) ≤ 127 by omega]
  · by_cases h2 : n < 256
    · simp [h1, h2, show ¬ (n : Int) ≤ 127 by omega, show (n : Int) < 256 by omega, show n ≠ 0 by omega]
    · by_cases h3 : n < 65536
      · simp [h1, h2, h3, show ¬ (n : Int) ≤ 127 by omega, show ¬ (n : Int) < 256 by omega, show (n : Int) < 65536 by omega, show n ≠ 0 by omega]
      · simp [h1, h2, h3, show ¬ (n : Int) ≤ 127 by omega, show ¬ (n : Int) < 256 by omega, show ¬ (n : Int) < 65536 by omega, show n ≠ 0 by omega]

end Go.Proofs.YtgbbgfjamneioaaDoor

namespace Go.Proofs.YtgbbgfjamneioaaDoor

def isTagB (t : Int) : Bool := decide (0 ≤ t ∧ t ≤ 255 ∧ t % 32 ≠ 31)

def numOf (ds : List Int) : Int := ds.foldl (fun n d => n * 256 + d) 0

theorem numOf_snoc (ds : List Int) (d : Int) : numOf (ds ++ [d]) = numOf ds * 256 + d := by simp [numOf, List.foldl_append]

theorem numOf_bd : ∀ (k : Nat) (ds : List Int), ds.length = k → (∀ x ∈ ds, 0 ≤ x ∧ x < 256) → 0 ≤ numOf ds ∧ numOf ds < 256 ^ k := by
  intro k
  induction k with
  | zero => intro ds hl _; obtain rfl := List.eq_nil_of_length_eq_zero hl; simp [numOf]
  | succ k ih =>
    intro ds hl hb
    rcases List.eq_nil_or_concat ds with rfl | ⟨r, d, rfl⟩
    · simp at hl
    · simp only [List.concat_eq_append] at *
      have h1 := ih r (by simp at hl; omega) (fun x hx => hb x (by simp [hx]))
      have h2 := hb d (by simp)
      rw [numOf_snoc, Int.pow_succ]
      omega

/-- The number and the size of the length with which bytes begin, or the error's number; there is a first byte. -/
def takeLenS (xs : List Int) : Int × Int × Int :=
  if xs.getD 0 0 ≤ 127 then (xs.getD 0 0, 1, 0)
  else if xs.getD 0 0 = 128 ∨ 131 < xs.getD 0 0 then (0, 0, 12)
  else if 1 < xs.length ∧ xs.getD 1 0 = 0 then (0, 0, 12)
  else if (xs.length : Int) < 1 + (xs.getD 0 0 - 128) then (0, 0, 10)
  else if numOf ((xs.drop 1).take (xs.getD 0 0 - 128).toNat) ≤ 127 then (0, 0, 12)
  else (numOf ((xs.drop 1).take (xs.getD 0 0 - 128).toNat), 1 + (xs.getD 0 0 - 128), 0)

/-- Tag, the content's places, the error's number. -/
def findS (xs : List Int) : Int × Int × Int × Int :=
  if xs.length = 0 then (0, 0, 0, 10)
  else if isTagB (xs.getD 0 0) = false then (0, 0, 0, 11)
  else if xs.length = 1 then (0, 0, 0, 10)
  else if (takeLenS (xs.drop 1)).2.2 ≠ 0 then (0, 0, 0, (takeLenS (xs.drop 1)).2.2)
  else if (xs.length : Int) - (1 + (takeLenS (xs.drop 1)).2.1) < (takeLenS (xs.drop 1)).1 then (0, 0, 0, 10)
  else (xs.getD 0 0, 1 + (takeLenS (xs.drop 1)).2.1, 1 + (takeLenS (xs.drop 1)).2.1 + (takeLenS (xs.drop 1)).1, 0)

theorem and31 (n : Int) : bits .and .i64 n 31 = n % 32 := by
  have h31 : (BitVec.ofInt 64 31).toNat = 2 ^ 5 - 1 := by decide
  have key : (BitVec.ofInt 64 n &&& BitVec.ofInt 64 31).toNat = (n % ((2 ^ 64 : Nat) : Int)).toNat % 2 ^ 5 := by
    rw [BitVec.toNat_and, BitVec.toNat_ofInt, h31, Nat.and_two_pow_sub_one_eq_mod]
  show IntKind.i64.wrap ((BitVec.ofInt 64 n &&& BitVec.ofInt 64 31).toNat : Nat) = n % 32
  rw [key, IntKind.wrap_i64]
  omega

theorem or256 (n d : Int) (h0 : 0 ≤ n) (h1 : n < 1099511627776) (h2 : 0 ≤ d) (h3 : d < 256) : bits .or .i64 (n * 256) d = n * 256 + d := by
  obtain ⟨A, rfl⟩ := Int.eq_ofNat_of_zero_le h0
  obtain ⟨B, rfl⟩ := Int.eq_ofNat_of_zero_le h2
  have e : ((A : Int) * 256) = ((A * 256 : Nat) : Int) := by omega
  rw [e]
  show IntKind.i64.wrap ((BitVec.ofInt 64 ((A * 256 : Nat) : Int) ||| BitVec.ofInt 64 (B : Int)).toNat : Int) = _
  rw [BitVec.toNat_or, BitVec.ofInt_natCast, BitVec.ofInt_natCast, BitVec.toNat_ofNat, BitVec.toNat_ofNat, Nat.mod_eq_of_lt (by omega), Nat.mod_eq_of_lt (by omega), nat_join 8 _ _ (by omega) (by omega), IntKind.wrap_i64]
  omega

end Go.Proofs.YtgbbgfjamneioaaDoor

namespace Go.Proofs.YtgbbgfjamneioaaDoor
open Go.RowKit Go.IntWalk

set_option maxRecDepth 100000 in
set_option maxHeartbeats 1000000 in
theorem isTag_any (t : Int) (w : World) :
    Calls Tryd.prog 72 #[.int .i64 t] w fun e w' => e = .returned (.bool (isTagB t)) ∧ w' = w := by
  have hm := and31 t
  by_cases h0 : 0 ≤ t
  · by_cases h1 : t ≤ 255
    · by_cases h2 : t % 32 = 31
      · have e1 := hide (show isTagB t = false by simp [isTagB, h2])
        have e2 : (t % 32 != 31) = false := by simp [h2]
        clear h2
        go_enter Tryd.func72, Tryd.ntmps72
        go_wp2
        go_ret
        rw [e1.out]
        exact ⟨rfl, rfl⟩
      · have e1 := hide (show isTagB t = true by simp [isTagB, h0, h1, h2])
        have e2 : (t % 32 != 31) = true := by simp [h2]
        clear h2
        go_enter Tryd.func72, Tryd.ntmps72
        go_wp2
        go_ret
        rw [e1.out]
        exact ⟨rfl, rfl⟩
    · have e1 := hide (show isTagB t = false by simp [isTagB, h1])
      go_enter Tryd.func72, Tryd.ntmps72
      go_wp2
      go_ret
      rw [e1.out]
      exact ⟨rfl, rfl⟩
  · have e1 := hide (show isTagB t = false by simp [isTagB, h0])
    go_enter Tryd.func72, Tryd.ntmps72
    go_wp2
    go_ret
    rw [e1.out]
    exact ⟨rfl, rfl⟩

end Go.Proofs.YtgbbgfjamneioaaDoor
