/-
  bytes.Clone copies bytes into new memory.
  num.areBits and the reference's there say the same of any bytes and any number (bitsB).
  num.ToNat, num.ToBool, num.ToBits: what they tell of any bytes, as plain functions.
-/
import Derived.Test.YtnabmdpgibnkaabDoorYMoreToBCmp
import Derived.Lib.Bytes
import Derived.Test.YtnabmdpgibnkaabDoorYShortToRound
import Derived.Test.YtnabmdpgibnkaabDoorYAgainWalkToSgEnc
import Derived.Deep.RegionHeld3
namespace Go.Proofs.YtnabmdpgibnkaabDoor
open Go.RowKit Go.IntWalk

set_option maxRecDepth 100000 in
set_option maxHeartbeats 1000000 in
theorem cloneN_any (ao : Option Addr) (n cap : Nat) (xs : List Int) (w : World) (hs : Src w ao n cap xs) (hN : n ≤ 140737488355328) :
    Calls Tryd.prog 103 #[.slice ao n cap] w fun e w' => ∃ ao' c', e = .returned (.slice ao' n c') ∧ OwnB w' w.heap.size (.slice ao' n c') xs ∧ Below w.heap.size w w' := by
  have q22 : ∀ (w : World) (a : Option Addr) (n c n' c' : Nat), (binOp .eql 22 (.slice a n c) (.slice none n' c')).run Tryd.prog w = .ok (.bool a.isNone) w :=
    fun w a n c n' c' => Lib.run_eql_slice_nil w _ _ a n c n' c' Tryd.underlying22
  have hl := hide hs.hlen
  cases ao with
  | none =>
    obtain ⟨rfl, rfl⟩ := hs.hnil rfl
    obtain rfl : xs = [] := List.eq_nil_of_length_eq_zero hl.out
    go_enter Tryd.func103, Tryd.ntmps103
    go_wp2
    go_ret
    exact ⟨_, _, rfl, OwnB.nil _ _, Below.refl _ _⟩
  | some ad =>
    go_enter Tryd.func103, Tryd.ntmps103
    go_wp2_with (at_builtin; refine wpList_appN _ rfl (.tmp 5) (.tmp 6) rfl w.heap.size (.slice (some ⟨w.heap.size, 0, none⟩) 0 0) [] rfl (OwnB.lit _ [] _ 0 rfl rfl (Nat.le_refl _) (by decide)) (some ad) n cap xs rfl (hs.alloc _) n (by simpa using hl.out) (.inl (by simp)) (by omega) (by simp) ?_; intro g1 c1 w1 ho1 hb1 hl1 hc1 hm1 hg1)
    go_ret
    exact ⟨_, _, rfl, ho1, ((Below.refl _ _).alloc (Nat.le_refl _) _).grown hg1 (by simp) (by intro k hk; cases hk; exact Nat.le_refl _)⟩

end Go.Proofs.YtnabmdpgibnkaabDoor

namespace Go.Proofs.YtnabmdpgibnkaabDoor
open Go.RowKit Go.IntWalk

/-- Is there a BIT STRING of these bytes with so many unused bits? -/
def bitsB (xs : List Int) (u : Int) : Bool :=
  decide (0 ≤ u) && decide (u ≤ 7) && (if xs = [] then decide (u = 0) else decide (xs.getD (xs.length - 1) 0 % ((2 ^ u.toNat : Nat) : Int) = 0))

theorem mask0 (x : Int) : bits .and .u8 x 0 = x % 1 := by
  have hm : (BitVec.ofInt 8 0).toNat = 2 ^ 0 - 1 := by decide
  have key : (BitVec.ofInt 8 x &&& BitVec.ofInt 8 0).toNat = (x % ((2 ^ 8 : Nat) : Int)).toNat % 2 ^ 0 := by
    rw [BitVec.toNat_and, BitVec.toNat_ofInt, hm, Nat.and_two_pow_sub_one_eq_mod]
  show IntKind.u8.wrap ((BitVec.ofInt 8 x &&& BitVec.ofInt 8 0).toNat : Nat) = x % 1
  rw [key, IntKind.wrap_u8]
  omega
theorem mask1 (x : Int) : bits .and .u8 x 1 = x % 2 := by
  have hm : (BitVec.ofInt 8 1).toNat = 2 ^ 1 - 1 := by decide
  have key : (BitVec.ofInt 8 x &&& BitVec.ofInt 8 1).toNat = (x % ((2 ^ 8 : Nat) : Int)).toNat % 2 ^ 1 := by
    rw [BitVec.toNat_and, BitVec.toNat_ofInt, hm, Nat.and_two_pow_sub_one_eq_mod]
  show IntKind.u8.wrap ((BitVec.ofInt 8 x &&& BitVec.ofInt 8 1).toNat : Nat) = x % 2
  rw [key, IntKind.wrap_u8]
  omega
theorem mask2 (x : Int) : bits .and .u8 x 3 = x % 4 := by
  have hm : (BitVec.ofInt 8 3).toNat = 2 ^ 2 - 1 := by decide
  have key : (BitVec.ofInt 8 x &&& BitVec.ofInt 8 3).toNat = (x % ((2 ^ 8 : Nat) : Int)).toNat % 2 ^ 2 := by
    rw [BitVec.toNat_and, BitVec.toNat_ofInt, hm, Nat.and_two_pow_sub_one_eq_mod]
  show IntKind.u8.wrap ((BitVec.ofInt 8 x &&& BitVec.ofInt 8 3).toNat : Nat) = x % 4
  rw [key, IntKind.wrap_u8]
  omega
theorem mask3 (x : Int) : bits .and .u8 x 7 = x % 8 := by
  have hm : (BitVec.ofInt 8 7).toNat = 2 ^ 3 - 1 := by decide
  have key : (BitVec.ofInt 8 x &&& BitVec.ofInt 8 7).toNat = (x % ((2 ^ 8 : Nat) : Int)).toNat % 2 ^ 3 := by
    rw [BitVec.toNat_and, BitVec.toNat_ofInt, hm, Nat.and_two_pow_sub_one_eq_mod]
  show IntKind.u8.wrap ((BitVec.ofInt 8 x &&& BitVec.ofInt 8 7).toNat : Nat) = x % 8
  rw [key, IntKind.wrap_u8]
  omega
theorem mask4 (x : Int) : bits .and .u8 x 15 = x % 16 := by
  have hm : (BitVec.ofInt 8 15).toNat = 2 ^ 4 - 1 := by decide
  have key : (BitVec.ofInt 8 x &&& BitVec.ofInt 8 15).toNat = (x % ((2 ^ 8 : Nat) : Int)).toNat % 2 ^ 4 := by
    rw [BitVec.toNat_and, BitVec.toNat_ofInt, hm, Nat.and_two_pow_sub_one_eq_mod]
  show IntKind.u8.wrap ((BitVec.ofInt 8 x &&& BitVec.ofInt 8 15).toNat : Nat) = x % 16
  rw [key, IntKind.wrap_u8]
  omega
theorem mask5 (x : Int) : bits .and .u8 x 31 = x % 32 := by
  have hm : (BitVec.ofInt 8 31).toNat = 2 ^ 5 - 1 := by decide
  have key : (BitVec.ofInt 8 x &&& BitVec.ofInt 8 31).toNat = (x % ((2 ^ 8 : Nat) : Int)).toNat % 2 ^ 5 := by
    rw [BitVec.toNat_and, BitVec.toNat_ofInt, hm, Nat.and_two_pow_sub_one_eq_mod]
  show IntKind.u8.wrap ((BitVec.ofInt 8 x &&& BitVec.ofInt 8 31).toNat : Nat) = x % 32
  rw [key, IntKind.wrap_u8]
  omega
theorem mask6 (x : Int) : bits .and .u8 x 63 = x % 64 := by
  have hm : (BitVec.ofInt 8 63).toNat = 2 ^ 6 - 1 := by decide
  have key : (BitVec.ofInt 8 x &&& BitVec.ofInt 8 63).toNat = (x % ((2 ^ 8 : Nat) : Int)).toNat % 2 ^ 6 := by
    rw [BitVec.toNat_and, BitVec.toNat_ofInt, hm, Nat.and_two_pow_sub_one_eq_mod]
  show IntKind.u8.wrap ((BitVec.ofInt 8 x &&& BitVec.ofInt 8 63).toNat : Nat) = x % 64
  rw [key, IntKind.wrap_u8]
  omega
theorem mask7 (x : Int) : bits .and .u8 x 127 = x % 128 := by
  have hm : (BitVec.ofInt 8 127).toNat = 2 ^ 7 - 1 := by decide
  have key : (BitVec.ofInt 8 x &&& BitVec.ofInt 8 127).toNat = (x % ((2 ^ 8 : Nat) : Int)).toNat % 2 ^ 7 := by
    rw [BitVec.toNat_and, BitVec.toNat_ofInt, hm, Nat.and_two_pow_sub_one_eq_mod]
  show IntKind.u8.wrap ((BitVec.ofInt 8 x &&& BitVec.ofInt 8 127).toNat : Nat) = x % 128
  rw [key, IntKind.wrap_u8]
  omega

theorem bits_out (xs : List Int) (u : Int) (hu : ¬ (0 ≤ u ∧ u ≤ 7)) : bitsB xs u = false := by
  unfold bitsB
  by_cases h : 0 ≤ u
  · have h7 : ¬ u ≤ 7 := fun h' => hu ⟨h, h'⟩
    simp [h7]
  · simp [h]

theorem bits_in (xs : List Int) (u : Int) (h : bitsB xs u = true) : 0 ≤ u ∧ u ≤ 7 := by
  unfold bitsB at h
  simp at h
  exact ⟨h.1.1, h.1.2⟩

end Go.Proofs.YtnabmdpgibnkaabDoor

namespace Go.Proofs.YtnabmdpgibnkaabDoor
open Go.RowKit Go.IntWalk

def toNatE (xs : List Int) : Int := if isIntS xs then (if 128 ≤ xs.getD 0 0 then 22 else 0) else 20
def toNatV (xs : List Int) : List Int := if isIntS xs then (if 128 ≤ xs.getD 0 0 then [] else if xs.getD 0 0 = 0 then xs.drop 1 else xs) else []

def toBoolE (xs : List Int) : Int := if xs = [0] ∨ xs = [255] then 0 else 20
def toBoolV (xs : List Int) : Bool := decide (xs = [255])

def isBS (xs : List Int) : Bool := match xs with | [] => false | u :: r => bitsB r u
def toBitsE (xs : List Int) : Int := if isBS xs then 0 else 20
def toBitsU (xs : List Int) : Int := if isBS xs then xs.getD 0 0 else 0
def toBitsV (xs : List Int) : List Int := if isBS xs then xs.drop 1 else []

theorem Src.one {w : World} {b off n cap : Nat} {xs : List Int} (hs : Src w (some ⟨b, off, none⟩) n cap xs) (h : 0 < n) : w.cell? ⟨b, off, none⟩ = some (.int .u8 (xs.getD 0 0)) := by
  obtain ⟨b', off', he, hc⟩ := hs.at 0 h
  simp at he
  obtain ⟨rfl, rfl⟩ := he
  exact hc

theorem Src.tail {w : World} {ao : Option Addr} {n cap : Nat} {xs : List Int} (hs : Src w ao (n + 1) cap xs) : Src w (cutA ao cap 1) n (cap - 1) (xs.drop 1) := by
  have := hs.cut 1 (n + 1) (by omega) (Nat.le_refl _)
  rw [List.take_of_length_le (by rw [hs.hlen]; exact Nat.le_refl _)] at this
  exact this

set_option maxRecDepth 100000 in
set_option maxHeartbeats 1000000 in
theorem toNat_any (ao : Option Addr) (n cap : Nat) (xs : List Int) (w : World) (hs : Src w ao n cap xs) (hN : n ≤ 140737488355328) :
    Calls Tryd.prog 72 #[.slice ao n cap] w fun e w' => ∃ ao' c', e = .returned (.tuple #[.slice ao' (toNatV xs).length c', .int .i64 (toNatE xs)]) ∧ OwnB w' w.heap.size (.slice ao' (toNatV xs).length c') (toNatV xs) ∧ Below w.heap.size w w' := by
  have Hc := hide (isInteger_any ao n cap xs w hs)
  by_cases h : isIntS xs = true
  · rw [h] at Hc
    have hn : 0 < n := by
      rcases Nat.eq_zero_or_pos n with h' | h'
      · subst h'
        obtain rfl : xs = [] := List.eq_nil_of_length_eq_zero hs.hlen
        simp [isIntS] at h
      · exact h'
    obtain ⟨m, rfl⟩ : ∃ m, n = m + 1 := ⟨n - 1, by omega⟩
    obtain ⟨b, off, rfl, _⟩ := hs.at 0 hn
    have c0 := hs.one hn
    have HL := hide hs.hlen
    obtain ⟨x, hx⟩ : ∃ x, xs.getD 0 0 = x := ⟨_, rfl⟩
    rw [hx] at c0
    by_cases h1 : 128 ≤ x
    · have e1 : toNatE xs = 22 := by unfold toNatE; rw [if_pos h, hx, if_pos h1]
      have e2 : toNatV xs = [] := by unfold toNatV; rw [if_pos h, hx, if_pos h1]
      rw [e1, e2]
      clear e1 e2 hx
      go_enter Tryd.func72, Tryd.ntmps72
      go_wp2_with fail
      refine Hc.out.mono ?_
      rintro e w0 ⟨rfl, hw⟩
      have hd : Drawn w w0 := by obtain ⟨q, rfl⟩ := hw; exact (Drawn.refl _).more q
      clear hw
      have c1 := (hd.cell ⟨b, off, none⟩).trans c0
      go_wp2_with (go_at_call 106; refine (below0_any _ _).mono ?_; rintro e w1 ⟨rfl, hw1⟩; have hw2 := hw1.symm; subst hw2)
      refine bodyPost_ret (v := .tuple #[.slice none 0 0, .int .i64 22]) (by simp [results, Tryd.results72, go_sem]) rfl ⟨none, 0, rfl, OwnB.nil _ _, hd.below (Below.refl _ _)⟩
    · have e1 : toNatE xs = 0 := by unfold toNatE; rw [if_pos h, hx, if_neg h1]
      by_cases h2 : x = 0
      · have e2 : toNatV xs = xs.drop 1 := by unfold toNatV; rw [if_pos h, hx, if_neg h1, if_pos h2]
        have e3 : (xs.drop 1).length = m := by rw [List.length_drop, HL.out]; rfl
        rw [e1, e2, e3]
        clear e1 e2 hx e3
        have ht := hide hs.tail
        have sl := fun W => slice_lo W (some ⟨b, off, none⟩) (m + 1) cap 1 1 rfl (by omega)
        simp only [Nat.add_sub_cancel] at sl
        generalize cutA (some ⟨b, off, none⟩) cap 1 = A at ht sl
        subst h2
        go_enter Tryd.func72, Tryd.ntmps72
        go_wp2_with fail
        refine Hc.out.mono ?_
        rintro e w0 ⟨rfl, hw⟩
        have hd : Drawn w w0 := by obtain ⟨q, rfl⟩ := hw; exact (Drawn.refl _).more q
        clear hw
        have c1 := (hd.cell ⟨b, off, none⟩).trans c0
        go_wp2_with (first | (go_at_call 106; refine (below0_any _ _).mono ?_; rintro e w1 ⟨rfl, hw1⟩; have hw2 := hw1.symm; subst hw2) | (go_at_call 103; refine (cloneN_any _ _ _ (xs.drop 1) _ (ht.out.heap hd.heap) (by omega)).mono ?_; rintro e w1 ⟨ao', c', rfl, hv, hb1⟩))
        refine bodyPost_ret (v := .tuple #[.slice ao' m c', .int .i64 0]) (by simp [results, Tryd.results72, go_sem]) rfl ⟨ao', c', rfl, ?_, ?_⟩
        · exact hv.rebase (by rw [hd.heap]; exact Nat.le_refl _)
        · exact (hd.below (Below.refl _ _)).trans (hb1.mono (by rw [hd.heap]; exact Nat.le_refl _))
      · have e2 : toNatV xs = xs := by unfold toNatV; rw [if_pos h, hx, if_neg h1, if_neg h2]
        rw [e1, e2, HL.out]
        clear e1 e2 hx
        go_enter Tryd.func72, Tryd.ntmps72
        go_wp2_with fail
        refine Hc.out.mono ?_
        rintro e w0 ⟨rfl, hw⟩
        have hd : Drawn w w0 := by obtain ⟨q, rfl⟩ := hw; exact (Drawn.refl _).more q
        clear hw
        have c1 := (hd.cell ⟨b, off, none⟩).trans c0
        go_wp2_with (first | (go_at_call 106; refine (below0_any _ _).mono ?_; rintro e w1 ⟨rfl, hw1⟩; have hw2 := hw1.symm; subst hw2) | (go_at_call 103; refine (cloneN_any _ _ _ xs _ (hs.heap hd.heap) (by omega)).mono ?_; rintro e w1 ⟨ao', c', rfl, hv, hb1⟩))
        refine bodyPost_ret (v := .tuple #[.slice ao' (m + 1) c', .int .i64 0]) (by simp [results, Tryd.results72, go_sem]) rfl ⟨ao', c', rfl, ?_, ?_⟩
        · exact hv.rebase (by rw [hd.heap]; exact Nat.le_refl _)
        · exact (hd.below (Below.refl _ _)).trans (hb1.mono (by rw [hd.heap]; exact Nat.le_refl _))
  · simp only [Bool.not_eq_true] at h
    rw [h] at Hc
    have e1 : toNatE xs = 20 := by unfold toNatE; rw [if_neg (by simp [h])]
    have e2 : toNatV xs = [] := by unfold toNatV; rw [if_neg (by simp [h])]
    rw [e1, e2]
    clear e1 e2
    go_enter Tryd.func72, Tryd.ntmps72
    go_wp2_with fail
    refine Hc.out.mono ?_
    rintro e w0 ⟨rfl, hw⟩
    have hd : Drawn w w0 := by obtain ⟨q, rfl⟩ := hw; exact (Drawn.refl _).more q
    clear hw
    go_wp2
    refine bodyPost_ret (v := .tuple #[.slice none 0 0, .int .i64 20]) (by simp [results, Tryd.results72, go_sem]) rfl ⟨none, 0, rfl, OwnB.nil _ _, hd.below (Below.refl _ _)⟩

end Go.Proofs.YtnabmdpgibnkaabDoor
