/-
  bytes.Clone copies bytes into new memory.
  Plain facts on the bytes of a length: the digits of a number below 2^24 to the base 256, and the one form of a length. No Go, no program.
  The element with which bytes begin, as a plain function of the bytes: its tag, where its content begins and ends, or the error's number. No Go, no program.
  der.isTag answers as the plain function of the number says.
  der.takeLength answers as the plain function of the bytes says, and writes nothing.
  der.find answers the element with which bytes begin, by places, or the error, as the plain function of the bytes says.
-/
import Derived.Test.YtklchpdpooikdaaGreatDoorXItsToNextS
import Derived.Lib.Bytes
import Derived.Laws.BitsAllLaws
import Derived.Laws.BitsLemmas
import Derived.IntWalk
import Derived.Test.YtklchpdpooikdaaGreatDoorXBaseToBts
import Derived.Deep.QuietTactic
import Derived.BigQuiet
namespace Go.Proofs.YtklchpdpooikdaaGreatDoor
open Go.RowKit Go.IntWalk

set_option maxRecDepth 100000 in
set_option maxHeartbeats 1000000 in
theorem cloneN_any (ao : Option Addr) (n cap : Nat) (xs : List Int) (w : World) (hs : Src w ao n cap xs) (hN : n ≤ 140737488355328) :
    Calls Tryz.prog 146 #[.slice ao n cap] w fun e w' => ∃ ao' c', e = .returned (.slice ao' n c') ∧ OwnB w' w.heap.size (.slice ao' n c') xs ∧ Below w.heap.size w w' := by
  have q22 : ∀ (w : World) (a : Option Addr) (n c n' c' : Nat), (binOp .eql 64 (.slice a n c) (.slice none n' c')).run Tryz.prog w = .ok (.bool a.isNone) w :=
    fun w a n c n' c' => Lib.run_eql_slice_nil w _ _ a n c n' c' Tryz.underlying64
  have hl := hide hs.hlen
  cases ao with
  | none =>
    obtain ⟨rfl, rfl⟩ := hs.hnil rfl
    obtain rfl : xs = [] := List.eq_nil_of_length_eq_zero hl.out
    go_enter Tryz.func146, Tryz.ntmps146
    go_wp2
    go_ret
    exact ⟨_, _, rfl, OwnB.nil _ _, Below.refl _ _⟩
  | some ad =>
    go_enter Tryz.func146, Tryz.ntmps146
    go_wp2_with (at_builtin; refine wpList_appN _ rfl (.tmp 5) (.tmp 6) rfl w.heap.size (.slice (some ⟨w.heap.size, 0, none⟩) 0 0) [] rfl (OwnB.lit _ [] _ 0 rfl rfl (Nat.le_refl _) (by decide)) (some ad) n cap xs rfl (hs.alloc _) n (by simpa using hl.out) (.inl (by simp)) (by omega) (by simp) ?_; intro g1 c1 w1 ho1 hb1 hl1 hc1 hm1 hg1)
    go_ret
    exact ⟨_, _, rfl, ho1, ((Below.refl _ _).alloc (Nat.le_refl _) _).grown hg1 (by simp) (by intro k hk; cases hk; exact Nat.le_refl _)⟩

end Go.Proofs.YtklchpdpooikdaaGreatDoor

namespace Go.Proofs.YtklchpdpooikdaaGreatDoor

/-- The digits to the base 256 of a number below 2^24, the greatest first; none of 0. -/
def digs (n : Nat) : List Int :=
  if n = 0 then [] else if n < 256 then [(n : Int)] else if n < 65536 then [((n / 256 : Nat) : Int), ((n % 256 : Nat) : Int)]
  else [((n / 65536 : Nat) : Int), ((n / 256 % 256 : Nat) : Int), ((n % 256 : Nat) : Int)]

theorem digs_zero : digs 0 = [] := rfl

theorem digs_step (m : Nat) (h0 : 0 < m) (h : m < 16777216) : digs m = digs (m / 256) ++ [((m % 256 : Nat) : Int)] := by
  unfold digs
  by_cases h1 : m < 256
  · have e : m / 256 = 0 := by omega
    have e2 : m % 256 = m := by omega
    simp [e, e2, h1, show m ≠ 0 by omega]
  · by_cases h2 : m < 65536
    · have e : m / 256 < 256 := by omega
      simp [h1, h2, e, show m ≠ 0 by omega, show m / 256 ≠ 0 by omega]
    · have e : m / 256 < 65536 := by omega
      have e1 : ¬ m / 256 < 256 := by omega
      have e3 : m / 256 / 256 = m / 65536 := by omega
      simp [h1, h2, e, e1, e3, show m ≠ 0 by omega, show m / 256 ≠ 0 by omega]

theorem digs_len (m : Nat) : (digs m).length ≤ 3 := by
  unfold digs
  split
  · simp
  · split
    · simp
    · split <;> simp

theorem digs_byte (m : Nat) (h : m < 16777216) : ∀ x ∈ digs m, 0 ≤ x ∧ x < 256 := by
  intro x hx
  unfold digs at hx
  split at hx
  · simp at hx
  · split at hx
    · simp at hx; omega
    · split at hx
      · simp at hx; omega
      · simp at hx; omega

/-- The bytes of a length. -/
def lenB (n : Nat) : List Int := if n < 128 then [(n : Int)] else (128 + ((digs n).length : Int)) :: digs n

theorem lenB_len4 (n : Nat) : (lenB n).length ≤ 4 := by
  unfold lenB; split
  · simp
  · have := digs_len n; simp; omega

/-- How many bytes stand ahead of a content of n bytes. -/
def sizeN (n : Int) : Int := if n < 0 ∨ 16777215 < n then 0 else if n ≤ 127 then 2 else if n < 256 then 3 else if n < 65536 then 4 else 5

theorem sizeN_eq (n : Nat) (h : n < 16777216) : sizeN n = 1 + ((lenB n).length : Int) := by
  unfold sizeN lenB digs
  rw [if_neg (by omega)]
  by_cases h1 : n < 128
  · simp [h1, show (n : Int) ≤ 127 by omega]
  · by_cases h2 : n < 256
    · simp [h1, h2, show ¬ (n : Int) ≤ 127 by omega, show (n : Int) < 256 by omega, show n ≠ 0 by omega]
    · by_cases h3 : n < 65536
      · simp [h1, h2, h3, show ¬ (n : Int) ≤ 127 by omega, show ¬ (n : Int) < 256 by omega, show (n : Int) < 65536 by omega, show n ≠ 0 by omega]
      · simp [h1, h2, h3, show ¬ (n : Int) ≤ 127 by omega, show ¬ (n : Int) < 256 by omega, show ¬ (n : Int) < 65536 by omega, show n ≠ 0 by omega]

end Go.Proofs.YtklchpdpooikdaaGreatDoor

namespace Go.Proofs.YtklchpdpooikdaaGreatDoor

def isTagB (t : Int) : Bool := decide (0 ≤ t ∧ t ≤ 255 ∧ t % 32 ≠ 31)

def numOf (ds : List Int) : Int := ds.foldl (fun n d => n * 256 + d) 0

theorem numOf_snoc (ds : List Int) (d : Int) : numOf (ds ++ [d]) = numOf ds * 256 + d := by simp [numOf, List.foldl_append]

theorem numOf_bd : ∀ (k : Nat) (ds : List Int), ds.length = k → (∀ x ∈ ds, 0 ≤ x ∧ x < 256) → 0 ≤ numOf ds ∧ numOf ds < 256 ^ k := by
  intro k
  induction k with
  | zero => intro ds hl _; obtain rfl := List.eq_nil_of_length_eq_zero hl; simp [numOf]
  | succ k ih =>
    intro ds hl hb
    rcases List.eq_nil_or_concat ds with rfl | ⟨r, d, rfl⟩
    · simp at hl
    · simp only [List.concat_eq_append] at *
      have h1 := ih r (by simp at hl; omega) (fun x hx => hb x (by simp [hx]))
      have h2 := hb d (by simp)
      rw [numOf_snoc, Int.pow_succ]
      omega

/-- The number and the size of the length with which bytes begin, or the error's number; there is a first byte. -/
def takeLenS (xs : List Int) : Int × Int × Int :=
  if xs.getD 0 0 ≤ 127 then (xs.getD 0 0, 1, 0)
  else if xs.getD 0 0 = 128 ∨ 131 < xs.getD 0 0 then (0, 0, 12)
  else if 1 < xs.length ∧ xs.getD 1 0 = 0 then (0, 0, 12)
  else if (xs.length : Int) < 1 + (xs.getD 0 0 - 128) then (0, 0, 10)
  else if numOf ((xs.drop 1).take (xs.getD 0 0 - 128).toNat) ≤ 127 then (0, 0, 12)
  else (numOf ((xs.drop 1).take (xs.getD 0 0 - 128).toNat), 1 + (xs.getD 0 0 - 128), 0)

/-- Tag, the content's places, the error's number. -/
def findS (xs : List Int) : Int × Int × Int × Int :=
  if xs.length = 0 then (0, 0, 0, 10)
  else if isTagB (xs.getD 0 0) = false then (0, 0, 0, 11)
  else if xs.length = 1 then (0, 0, 0, 10)
  else if (takeLenS (xs.drop 1)).2.2 ≠ 0 then (0, 0, 0, (takeLenS (xs.drop 1)).2.2)
  else if (xs.length : Int) - (1 + (takeLenS (xs.drop 1)).2.1) < (takeLenS (xs.drop 1)).1 then (0, 0, 0, 10)
  else (xs.getD 0 0, 1 + (takeLenS (xs.drop 1)).2.1, 1 + (takeLenS (xs.drop 1)).2.1 + (takeLenS (xs.drop 1)).1, 0)

theorem and31 (n : Int) : bits .and .i64 n 31 = n % 32 := by
  have h31 : (BitVec.ofInt 64 31).toNat = 2 ^ 5 - 1 := by decide
  have key : (BitVec.ofInt 64 n &&& BitVec.ofInt 64 31).toNat = (n % ((2 ^ 64 : Nat) : Int)).toNat % 2 ^ 5 := by
    rw [BitVec.toNat_and, BitVec.toNat_ofInt, h31, Nat.and_two_pow_sub_one_eq_mod]
  show IntKind.i64.wrap ((BitVec.ofInt 64 n &&& BitVec.ofInt 64 31).toNat : Nat) = n % 32
  rw [key, IntKind.wrap_i64]
  omega

theorem or256 (n d : Int) (h0 : 0 ≤ n) (h1 : n < 1099511627776) (h2 : 0 ≤ d) (h3 : d < 256) : bits .or .i64 (n * 256) d = n * 256 + d := by
  obtain ⟨A, rfl⟩ := Int.eq_ofNat_of_zero_le h0
  obtain ⟨B, rfl⟩ := Int.eq_ofNat_of_zero_le h2
  have e : ((A : Int) * 256) = ((A * 256 : Nat) : Int) := by omega
  rw [e]
  show IntKind.i64.wrap ((BitVec.ofInt 64 ((A * 256 : Nat) : Int) ||| BitVec.ofInt 64 (B : Int)).toNat : Int) = _
  rw [BitVec.toNat_or, BitVec.ofInt_natCast, BitVec.ofInt_natCast, BitVec.toNat_ofNat, BitVec.toNat_ofNat, Nat.mod_eq_of_lt (by omega), Nat.mod_eq_of_lt (by omega), nat_join 8 _ _ (by omega) (by omega), IntKind.wrap_i64]
  omega

end Go.Proofs.YtklchpdpooikdaaGreatDoor

namespace Go.Proofs.YtklchpdpooikdaaGreatDoor
open Go.RowKit Go.IntWalk

set_option maxRecDepth 100000 in
set_option maxHeartbeats 1000000 in
theorem isTag_any (t : Int) (w : World) :
    Calls Tryz.prog 165 #[.int .i64 t] w fun e w' => e = .returned (.bool (isTagB t)) ∧ w' = w := by
  have hm := and31 t
  by_cases h0 : 0 ≤ t
  · by_cases h1 : t ≤ 255
    · by_cases h2 : t % 32 = 31
      · have e1 := hide (show isTagB t = false by simp [isTagB, h2])
        have e2 : (t % 32 != 31) = false := by simp [h2]
        clear h2
        go_enter Tryz.func165, Tryz.ntmps165
        go_wp2
        go_ret
        rw [e1.out]
        exact ⟨rfl, rfl⟩
      · have e1 := hide (show isTagB t = true by simp [isTagB, h0, h1, h2])
        have e2 : (t % 32 != 31) = true := by simp [h2]
        clear h2
        go_enter Tryz.func165, Tryz.ntmps165
        go_wp2
        go_ret
        rw [e1.out]
        exact ⟨rfl, rfl⟩
    · have e1 := hide (show isTagB t = false by simp [isTagB, h1])
      go_enter Tryz.func165, Tryz.ntmps165
      go_wp2
      go_ret
      rw [e1.out]
      exact ⟨rfl, rfl⟩
  · have e1 := hide (show isTagB t = false by simp [isTagB, h0])
    go_enter Tryz.func165, Tryz.ntmps165
    go_wp2
    go_ret
    rw [e1.out]
    exact ⟨rfl, rfl⟩

end Go.Proofs.YtklchpdpooikdaaGreatDoor

namespace Go.Proofs.YtklchpdpooikdaaGreatDoor
open Go.RowKit Go.IntWalk

theorem Src.cell {w : World} {b off n cap : Nat} {xs : List Int} (hs : Src w (some ⟨b, off, none⟩) n cap xs) (i : Nat) (hi : i < n) :
    w.cell? ⟨b, off + i, none⟩ = some (.int .u8 (xs.getD i 0)) := by
  have hl := hs.hlen
  obtain ⟨b', off', he, hc⟩ := hs.hrd (by intro h; simp [h] at hl; omega)
  simp at he
  obtain ⟨rfl, rfl⟩ := he
  exact hc i (by omega)

theorem Src.byte {w : World} {ao : Option Addr} {n cap : Nat} {xs : List Int} (hs : Src w ao n cap xs) (i : Nat) : 0 ≤ xs.getD i 0 ∧ xs.getD i 0 < 256 := by
  rcases Nat.lt_or_ge i xs.length with h | h
  · have := hs.hbyt (xs.getD i 0) (by simp [List.getD, List.getElem?_eq_getElem h])
    exact this
  · simp [List.getD, List.getElem?_eq_none h]

theorem numTake (ys : List Int) (j : Nat) (h : j < ys.length) : numOf (ys.take (j + 1)) = numOf (ys.take j) * 256 + ys.getD j 0 := by
  rw [List.take_succ_eq_append_getElem h, numOf_snoc]
  simp [List.getD, List.getElem?_eq_getElem h]

theorem numPart (ys : List Int) (j : Nat) (h : j ≤ 3) (hb : ∀ x ∈ ys, 0 ≤ x ∧ x < 256) : 0 ≤ numOf (ys.take j) ∧ numOf (ys.take j) < 16777216 := by
  have h1 := numOf_bd (ys.take j).length (ys.take j) rfl (fun x hx => hb x (List.mem_of_mem_take hx))
  have hl : (ys.take j).length ≤ 3 := by simp; omega
  refine ⟨h1.1, Int.lt_of_lt_of_le h1.2 ?_⟩
  have : ∀ m : Nat, m ≤ 3 → (256 : Int) ^ m ≤ 16777216 := by
    intro m hm
    match m, hm with
    | 0, _ => decide
    | 1, _ => decide
    | 2, _ => decide
    | 3, _ => decide
  exact this _ hl

set_option maxRecDepth 100000 in
set_option maxHeartbeats 2000000 in
theorem takeLen_any (b off n cap : Nat) (xs : List Int) (w : World) (hs : Src w (some ⟨b, off, none⟩) n cap xs) (hn : 0 < n) (hN : (n : Int) ≤ 140737488355328) :
    Calls Tryz.prog 166 #[.slice (some ⟨b, off, none⟩) n cap] w fun e w' =>
      e = .returned (.tuple #[.int .i64 (takeLenS xs).1, .int .i64 (takeLenS xs).2.1, .int .i64 (takeLenS xs).2.2]) ∧ w' = w := by
  have hlen := hide hs.hlen
  have c0 := hs.cell 0 hn
  rw [Nat.add_zero] at c0
  have hb0 := hs.byte 0
  have hnc := hs.hcap
  have hnI : (0 : Int) < (n : Int) := by omega
  obtain ⟨f, hf⟩ : ∃ f, xs.getD 0 0 = f := ⟨_, rfl⟩
  rw [hf] at c0 hb0
  obtain ⟨g0, g1⟩ := hb0
  by_cases h1 : f ≤ 127
  · have e1 : takeLenS xs = (f, 1, 0) := by unfold takeLenS; rw [hf, if_pos h1]
    have E := hide e1
    clear e1 hf
    go_enter Tryz.func166, Tryz.ntmps166
    go_wp2
    go_ret3
    rw [E.out]
    exact ⟨rfl, rfl⟩
  · by_cases h2 : f = 128
    · have e1 : takeLenS xs = (0, 0, 12) := by unfold takeLenS; rw [hf, if_neg h1, if_pos (.inl h2)]
      have E := hide e1
      clear e1 hf
      subst h2
      go_enter Tryz.func166, Tryz.ntmps166
      go_wp2
      go_ret3
      rw [E.out]
      exact ⟨rfl, rfl⟩
    · by_cases h3 : 131 < f
      · have e1 : takeLenS xs = (0, 0, 12) := by unfold takeLenS; rw [hf, if_neg h1, if_pos (.inr h3)]
        have E := hide e1
        have h2' : (f - 128 == 0) = false := by simp; omega
        clear e1 hf h2
        go_enter Tryz.func166, Tryz.ntmps166
        go_wp2
        go_ret3
        rw [E.out]
        exact ⟨rfl, rfl⟩
      · obtain ⟨k, hk⟩ := Int.eq_ofNat_of_zero_le (show 0 ≤ f - 128 by omega)
        have hfk : f = 128 + (k : Int) := by omega
        subst hfk
        clear hk
        have k1 : 1 ≤ k := by omega
        have k3 : k ≤ 3 := by omega
        have hk0 : ((128 : Int) + (k : Int) - 128 == 0) = false := by simp; omega
        have hs1 := hs.cut 1 n (by omega) (Nat.le_refl _)
        have sl := fun W => slice_lo W (some ⟨b, off, none⟩) n cap 1 1 rfl (by omega)
        generalize hA : cutA (some ⟨b, off, none⟩) cap 1 = A at hs1 sl
        have ed : ((xs.take n).drop 1) = xs.drop 1 := by rw [List.take_of_length_le (by rw [hlen.out]; exact Nat.le_refl _)]
        rw [ed] at hs1
        clear ed hA
        have hl := hlen.out
        by_cases h4 : n = 1
        · have e1 : takeLenS xs = (0, 0, 10) := by
            unfold takeLenS
            rw [hf, if_neg h1, if_neg (by omega), if_neg (by omega), if_pos (by omega)]
          have E := hide e1
          clear e1 hf hl
          subst h4
          go_enter Tryz.func166, Tryz.ntmps166
          go_wp2
          go_ret3
          rw [E.out]
          exact ⟨rfl, rfl⟩
        · obtain ⟨b1, off1, rfl, hc1⟩ := hs1.hrd (by intro h; have := congrArg List.length h; simp [hl] at this; omega)
          have d0 := hs1.cell 0 (by omega)
          rw [Nat.add_zero] at d0
          have e0 : (xs.drop 1).getD 0 0 = xs.getD 1 0 := by simp [List.getD]
          rw [e0] at d0
          have hn1 : (0 : Int) < ((n - 1 : Nat) : Int) := by omega
          have hgz : 0 < n - 1 := by omega
          by_cases h5 : xs.getD 1 0 = 0
          · have e1 : takeLenS xs = (0, 0, 12) := by
              unfold takeLenS
              rw [hf, if_neg h1, if_neg (by omega), if_pos ⟨by omega, h5⟩]
            have E := hide e1
            rw [h5] at d0
            clear e1 hf hl h5 e0 hc1
            go_enter Tryz.func166, Tryz.ntmps166
            go_wp2
            go_ret3
            rw [E.out]
            exact ⟨rfl, rfl⟩
          · obtain ⟨d, hd⟩ : ∃ d, xs.getD 1 0 = d := ⟨_, rfl⟩
            rw [hd] at d0 h5
            have hdz : (d == 0) = false := by simpa using h5
            clear e0
            by_cases h6 : n - 1 < k
            · have e1 : takeLenS xs = (0, 0, 10) := by
                unfold takeLenS
                rw [hf, hd, if_neg h1, if_neg (by omega), if_neg (by omega), if_pos (by omega)]
              have E := hide e1
              have h6' : ((n - 1 : Nat) : Int) < (k : Int) := by omega
              clear e1 hf hl hc1 hd h5
              go_enter Tryz.func166, Tryz.ntmps166
              go_wp2
              go_ret3
              rw [E.out]
              exact ⟨rfl, rfl⟩
            · have h6' : ¬ ((n - 1 : Nat) : Int) < (k : Int) := by omega
              have HF := hide hf
              have HD := hide hd
              have HX := hide hl
              clear hf hl hc1 hd h5
              go_enter Tryz.func166, Tryz.ntmps166
              go_wp2
              go_loop [8, 45] (fun a i => ∃ j : Nat, j ≤ k ∧ i = .int .i64 j ∧ a = .int .i64 (numOf ((xs.drop 1).take j))) (fun _ i => k - (intOf i).toNat)
              case atStart => exact ⟨0, Nat.zero_le _, rfl, rfl⟩
              case round =>
                obtain ⟨j, hj, rfl, rfl⟩ := hrel
                have hbd := numPart (xs.drop 1) j (by omega) (fun x hx => hs1.hbyt x hx)
                by_cases hlt : j < k
                · have dj := hs1.cell j (by omega)
                  have hbj := hs1.byte j
                  have hsn := hide (numTake (xs.drop 1) j (by rw [List.length_drop, HX.out]; omega))
                  obtain ⟨dv, hdv⟩ : ∃ dv, (xs.drop 1).getD j 0 = dv := ⟨_, rfl⟩
                  rw [hdv] at dj hbj
                  have HV := hide hdv
                  obtain ⟨N, hN'⟩ : ∃ N, numOf ((xs.drop 1).take j) = N := ⟨_, rfl⟩
                  rw [hN'] at hbd
                  have hor := or256 N dv hbd.1 (by omega) hbj.1 hbj.2
                  rw [hN']
                  have HN := hide hN'
                  clear hN' hdv
                  obtain ⟨q1, q2⟩ := hbd
                  obtain ⟨q3, q4⟩ := hbj
                  go_wp2
                  go_round
                  case rel => exact ⟨j + 1, by omega, by go_num, by rw [hsn.out, HN.out, HV.out]⟩
                  case measure => simp [intOf]; omega
                · obtain rfl : j = k := by omega
                  have eS : takeLenS xs = if numOf ((xs.drop 1).take j) ≤ 127 then (0, 0, 12) else (numOf ((xs.drop 1).take j), 1 + ((128 : Int) + (j : Int) - 128), 0) := by
                    unfold takeLenS
                    rw [HF.out, HD.out, if_neg (by omega), if_neg (by omega), if_neg (by simp at hdz; omega), if_neg (by rw [HX.out]; omega)]
                    rw [show ((128 : Int) + (j : Int) - 128).toNat = j by omega]
                  obtain ⟨N, hN'⟩ : ∃ N, numOf ((xs.drop 1).take j) = N := ⟨_, rfl⟩
                  rw [hN'] at hbd eS
                  rw [hN']
                  clear hN'
                  by_cases h7 : N ≤ 127
                  · rw [if_pos h7] at eS
                    have E := hide eS
                    clear eS
                    go_wp2
                    go_ret3
                    rw [E.out]
                    exact ⟨rfl, rfl⟩
                  · rw [if_neg h7] at eS
                    have E := hide eS
                    clear eS
                    go_wp2
                    go_ret3
                    rw [E.out]
                    exact ⟨rfl, rfl⟩

end Go.Proofs.YtklchpdpooikdaaGreatDoor

namespace Go.Proofs.YtklchpdpooikdaaGreatDoor
open Go.RowKit Go.IntWalk

/-- What find answers. -/
def spanV (r : Int × Int × Int × Int) : Value := .tuple #[.agg #[.int .i64 r.1, .int .i64 r.2.1, .int .i64 r.2.2.1], .int .i64 r.2.2.2]

theorem takeLenS_bd (xs : List Int) (hb : ∀ x ∈ xs, 0 ≤ x ∧ x < 256) : 0 ≤ (takeLenS xs).1 ∧ (takeLenS xs).1 < 16777216 ∧ 0 ≤ (takeLenS xs).2.1 ∧ (takeLenS xs).2.1 ≤ 4 ∧ 0 ≤ (takeLenS xs).2.2 ∧ (takeLenS xs).2.2 ≤ 12 := by
  have h0 : 0 ≤ xs.getD 0 0 ∧ xs.getD 0 0 < 256 := by
    rcases Nat.lt_or_ge 0 xs.length with h | h
    · exact hb _ (by simp [List.getD, List.getElem?_eq_getElem h])
    · simp [List.getD, List.getElem?_eq_none h]
  unfold takeLenS
  split
  · simp only []; omega
  · split
    · simp
    · split
      · simp
      · split
        · simp
        · have := numPart (xs.drop 1) (xs.getD 0 0 - 128).toNat (by omega) (fun x hx => hb x (List.mem_of_mem_drop hx))
          split
          · simp
          · simp only []
            omega

set_option maxRecDepth 100000 in
set_option maxHeartbeats 2000000 in
theorem find_any (ao : Option Addr) (n cap : Nat) (xs : List Int) (w : World) (hs : Src w ao n cap xs) (hN : (n : Int) ≤ 140737488355328) :
    Calls Tryz.prog 144 #[.slice ao n cap] w fun e w' => e = .returned (spanV (findS xs)) ∧ Below w.heap.size w w' := by
  have hl := hs.hlen
  have hnc := hs.hcap
  by_cases h0 : n = 0
  · have E := hide (show findS xs = (0, 0, 0, 10) by unfold findS; rw [if_pos (by omega)])
    subst h0
    clear hl
    go_enter Tryz.func144, Tryz.ntmps144
    go_wp2
    refine bodyPost_ret (v := spanV (0, 0, 0, 10)) (by simp [results, Tryz.results144, go_sem, spanV]) rfl ⟨by rw [E.out], ?_⟩
    exact (Below.refl _ _).alloc (Nat.le_refl _) _
  · obtain ⟨b, off, rfl, _⟩ := hs.hrd (by intro h; rw [h] at hl; simp at hl; omega)
    have c0 := hs.cell 0 (by omega)
    rw [Nat.add_zero] at c0
    have hb0 := hs.byte 0
    have hbl : b < w.heap.size := lt_of_cell c0
    obtain ⟨t, ht⟩ : ∃ t, xs.getD 0 0 = t := ⟨_, rfl⟩
    rw [ht] at c0 hb0
    obtain ⟨g0, g1⟩ := hb0
    have hn0 : ((n : Int) == 0) = false := by simp; omega
    have hnI : (0 : Int) < (n : Int) := by omega
    cases hT : isTagB t with
    | false =>
      have E := hide (show findS xs = (0, 0, 0, 11) by unfold findS; rw [if_neg (by omega), ht, if_pos hT])
      have HT := hide hT
      clear hl ht hT
      go_enter Tryz.func144, Tryz.ntmps144
      go_wp2_with (go_at_call 165; refine (isTag_any t _).mono ?_; rintro e w' ⟨rfl, hw⟩; subst hw; rw [HT.out])
      refine bodyPost_ret (v := spanV (0, 0, 0, 11)) (by simp [results, Tryz.results144, go_sem, spanV]) rfl ⟨by rw [E.out], ?_⟩
      exact (Below.refl _ _).alloc (Nat.le_refl _) _
    | true =>
      by_cases h1 : n = 1
      · have E := hide (show findS xs = (0, 0, 0, 10) by unfold findS; rw [if_neg (by omega), ht, if_neg (by rw [hT]; simp), if_pos (by omega)])
        have HT := hide hT
        subst h1
        clear hl ht hT
        go_enter Tryz.func144, Tryz.ntmps144
        go_wp2_with (go_at_call 165; refine (isTag_any t _).mono ?_; rintro e w' ⟨rfl, hw⟩; subst hw; rw [HT.out])
        refine bodyPost_ret (v := spanV (0, 0, 0, 10)) (by simp [results, Tryz.results144, go_sem, spanV]) rfl ⟨by rw [E.out], ?_⟩
        exact (Below.refl _ _).alloc (Nat.le_refl _) _
      · have hs1 := hs.cut 1 n (by omega) (Nat.le_refl _)
        have sl := fun W => slice_lo W (some ⟨b, off, none⟩) n cap 1 1 rfl (by omega)
        generalize hA : cutA (some ⟨b, off, none⟩) cap 1 = A at hs1 sl
        have ed : ((xs.take n).drop 1) = xs.drop 1 := by rw [List.take_of_length_le (by omega)]
        rw [ed] at hs1
        clear ed hA
        obtain ⟨b1, off1, rfl, _⟩ := hs1.hrd (by intro h; have := congrArg List.length h; simp [hl] at this; omega)
        have hn1 : ((n : Int) == 1) = false := by simp; omega
        have hbd := takeLenS_bd (xs.drop 1) hs1.hbyt
        have eF : findS xs = if (takeLenS (xs.drop 1)).2.2 ≠ 0 then (0, 0, 0, (takeLenS (xs.drop 1)).2.2)
            else if (n : Int) - (1 + (takeLenS (xs.drop 1)).2.1) < (takeLenS (xs.drop 1)).1 then (0, 0, 0, 10)
            else (t, 1 + (takeLenS (xs.drop 1)).2.1, 1 + (takeLenS (xs.drop 1)).2.1 + (takeLenS (xs.drop 1)).1, 0) := by
          unfold findS
          rw [if_neg (by omega), ht, if_neg (by rw [hT]; simp), if_neg (by omega), hl]
        have hcall := fun W (h : Src W (some ⟨b1, off1, none⟩) (n - 1) (cap - 1) (xs.drop 1)) => takeLen_any b1 off1 (n - 1) (cap - 1) (xs.drop 1) W h (by omega) (by omega)
        obtain ⟨r, hr⟩ : ∃ r, takeLenS (xs.drop 1) = r := ⟨_, rfl⟩
        rw [hr] at hbd eF hcall
        obtain ⟨N, size, err⟩ := r
        simp only at hbd eF hcall
        obtain ⟨q1, q2, q3, q4, q5, q6⟩ := hbd
        have HC := hide hcall
        have HT := hide hT
        clear hl ht hT hr hcall
        by_cases h2 : err = 0
        · subst h2
          rw [if_neg (by simp)] at eF
          by_cases h3 : (n : Int) - (1 + size) < N
          · rw [if_pos h3] at eF
            have E := hide eF
            clear eF
            go_enter Tryz.func144, Tryz.ntmps144
            go_wp2_with (first | (go_at_call 165; refine (isTag_any t _).mono ?_; rintro e w' ⟨rfl, hw⟩; subst hw; rw [HT.out]) | (go_at_call 166; refine (HC.out _ (hs1.alloc _)).mono ?_; rintro e w' ⟨rfl, hw⟩; subst hw))
            refine bodyPost_ret (v := spanV (0, 0, 0, 10)) (by simp [results, Tryz.results144, go_sem, spanV]) rfl ⟨by rw [E.out], ?_⟩
            exact (Below.refl _ _).alloc (Nat.le_refl _) _
          · rw [if_neg h3] at eF
            have E := hide eF
            clear eF
            go_enter Tryz.func144, Tryz.ntmps144
            go_wp2_with (first | (go_at_call 165; refine (isTag_any t _).mono ?_; rintro e w' ⟨rfl, hw⟩; subst hw; rw [HT.out]) | (go_at_call 166; refine (HC.out _ (hs1.alloc _)).mono ?_; rintro e w' ⟨rfl, hw⟩; subst hw))
            refine bodyPost_ret (v := spanV (t, 1 + size, 1 + size + N, 0)) (by simp [results, Tryz.results144, go_sem, spanV]) rfl ⟨by rw [E.out], ?_⟩
            exact (Below.refl _ _).alloc (Nat.le_refl _) _
        · rw [if_pos h2] at eF
          have E := hide eF
          have h2' : (err != 0) = true := by simpa using h2
          clear eF h2
          go_enter Tryz.func144, Tryz.ntmps144
          go_wp2_with (first | (go_at_call 165; refine (isTag_any t _).mono ?_; rintro e w' ⟨rfl, hw⟩; subst hw; rw [HT.out]) | (go_at_call 166; refine (HC.out _ (hs1.alloc _)).mono ?_; rintro e w' ⟨rfl, hw⟩; subst hw))
          refine bodyPost_ret (v := spanV (0, 0, 0, err)) (by simp [results, Tryz.results144, go_sem, spanV]) rfl ⟨by rw [E.out], ?_⟩
          exact (Below.refl _ _).alloc (Nat.le_refl _) _

end Go.Proofs.YtklchpdpooikdaaGreatDoor
