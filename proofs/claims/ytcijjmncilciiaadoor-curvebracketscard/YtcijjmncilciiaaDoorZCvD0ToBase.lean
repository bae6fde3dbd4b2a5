/-
  Numbers of 256 bits as 32 bytes, the highest first, and as words. Plain facts.
  Where the library's functions lie in this program's text, as the guide's tools lay-shelf and lay-plain print it.
  Small facts on rows that a call itself has made, and on the bytes of a slice. No program.
-/
import Derived.Test.YtcijjmncilciiaaDoorZCvM
import Derived.Test.YtcijjmncilciiaaDoorZNVal
import Derived.Shelf.Small.Bits
import Derived.Shelf.Strconv.Itoa0
import Derived.Shelf.Bits.Mul64
import Derived.Test.YtcijjmncilciiaaDoorProg
import Derived.WalkKit
import Derived.WalkLawsBesides
import Derived.Laws.AppendOwnNone
import Derived.Laws.OwnMore
namespace Go.Proofs.YtcijjmncilciiaaDoor

theorem cpw_eq (b : Int) : ∀ i, pw b i = b ^ i
  | 0 => by simp [pw]
  | i + 1 => by rw [pw, cpw_eq b i, Int.pow_succ, Int.mul_comm]

theorem cval_dropAt (b : Int) (xs : List Int) (m : Nat) : val b (xs.drop m) = xs.getD m 0 + b * val b (xs.drop (m + 1)) := by
  rcases Nat.lt_or_ge m xs.length with h | h
  · rw [List.drop_eq_getElem_cons h, val]
    simp [List.getD, h]
  · rw [List.drop_eq_nil_of_le h, List.drop_eq_nil_of_le (by omega)]
    simp [val, List.getD, h]

theorem cval_div {b : Int} (hb : 0 < b) {xs : List Int} (hx : Dg b xs) (q : Nat) : val b xs / pw b q = val b (xs.drop q) := by
  have hp := pw_pos hb q
  rcases Nat.le_total q xs.length with h | h
  · have h1 := val_lt hb (hx.take q)
    rw [List.length_take, Nat.min_eq_left h] at h1
    rw [val_split b xs q h, Int.add_mul_ediv_left _ _ (by omega), Int.ediv_eq_zero_of_lt (val_nonneg hb (hx.take q)) h1, Int.zero_add]
  · have h1 := val_lt hb hx
    have h2 := pw_mono (show 1 ≤ b by omega) _ _ h
    rw [List.drop_eq_nil_of_le h, Int.ediv_eq_zero_of_lt (val_nonneg hb hx) (by omega)]
    rfl

/-- A digit to a lesser base is in one word. -/
theorem cdig_at (b β : Int) (hβ : 1 < β) (m : Nat) (hm : pw β m = b) {X : List Int} (hX : Dg b X) (q t : Nat) (ht : t < m) : val b X / (pw b q * pw β t) % β = X.getD q 0 / pw β t % β := by
  have hb : 0 < b := by rw [← hm]; exact pw_pos (by omega) m
  have hp := pw_pos hb q
  have hq := pw_pos (b := β) (by omega) t
  rw [← Int.ediv_ediv_of_nonneg (by omega), cval_div hb hX, cval_dropAt]
  obtain ⟨k, hk⟩ : ∃ k, m = t + (k + 1) := ⟨m - t - 1, by omega⟩
  have e : b = pw β t * (β * pw β k) := by rw [← hm, hk, pw_add]; rfl
  have e2 : b * val b (X.drop (q + 1)) = pw β t * (β * (pw β k * val b (X.drop (q + 1)))) := by
    generalize val b (X.drop (q + 1)) = V
    rw [e, Int.mul_assoc, Int.mul_assoc]
  rw [e2, Int.add_mul_ediv_left _ _ (by omega), Int.add_mul_emod_self_left]

theorem cpw_8 (i : Nat) : pw 256 (8 * i) = pw 18446744073709551616 i := by
  induction i with
  | zero => rfl
  | succ i ih =>
    rw [show 8 * (i + 1) = 8 * i + 8 by omega, pw_add, ih, show pw 256 8 = 18446744073709551616 by decide, show pw 18446744073709551616 (i + 1) = 18446744073709551616 * pw 18446744073709551616 i from rfl, Int.mul_comm]

theorem cpw_4 (i : Nat) : pw 256 (4 * i) = pw 4294967296 i := by
  induction i with
  | zero => rfl
  | succ i ih =>
    rw [show 4 * (i + 1) = 4 * i + 4 by omega, pw_add, ih, show pw 256 4 = 4294967296 by decide, show pw 4294967296 (i + 1) = 4294967296 * pw 4294967296 i from rfl, Int.mul_comm]

theorem cpw_b (i : Nat) : pw 2 (8 * i) = pw 256 i := by
  induction i with
  | zero => rfl
  | succ i ih =>
    rw [show 8 * (i + 1) = 8 * i + 8 by omega, pw_add, ih, show pw 2 8 = 256 by decide, show pw 256 (i + 1) = 256 * pw 256 i from rfl, Int.mul_comm]

theorem cemod_step (V P b : Int) (hP : 0 < P) (hb : 0 < b) : V % (b * P) = V % P + (V / P % b) * P := by
  have h1 := Int.emod_add_mul_ediv V P
  have h2 := Int.emod_add_mul_ediv (V / P) b
  have hv : V = V % P + (V / P % b) * P + (b * P) * (V / P / b) := by
    have e : P * (V / P) = (V / P % b) * P + (b * P) * (V / P / b) := by
      conv => lhs; rw [← h2]
      grind
    omega
  have b1 := Int.emod_nonneg V (show P ≠ 0 by omega)
  have b2 := Int.emod_lt_of_pos V hP
  have b3 := Int.emod_nonneg (V / P) (show b ≠ 0 by omega)
  have b4 := Int.emod_lt_of_pos (V / P) hb
  have b5 : (V / P % b) * P ≤ (b - 1) * P := Int.mul_le_mul_of_nonneg_right (by omega) (by omega)
  have b6 := Int.mul_nonneg b3 (show 0 ≤ P by omega)
  have b7 : (b - 1) * P = b * P - P := by grind
  conv => lhs; rw [hv]
  rw [Int.add_mul_emod_self_left]
  exact Int.emod_eq_of_lt (by omega) (by omega)

/-- The number that bytes say, the highest first; a number's 32 bytes. -/
def dn (D : List Int) : Int := val 256 D.reverse
def be (V : Int) : List Int := (List.range 32).map fun j => V / pw 256 (31 - j) % 256

theorem be_len (V : Int) : (be V).length = 32 := by simp [be]
theorem be_dg (V : Int) : Dg 256 (be V) := by
  intro x hx
  simp only [be, List.mem_map] at hx
  obtain ⟨j, _, rfl⟩ := hx
  omega
theorem be_at (V : Int) (j : Nat) (hj : j < 32) : (be V).getD j 0 = V / pw 256 (31 - j) % 256 := by simp [be, List.getD, hj]

theorem dn_bd {D : List Int} (hd : Dg 256 D) (hl : D.length = 32) : 0 ≤ dn D ∧ dn D < RR := by
  have hr : Dg 256 D.reverse := fun x hx => hd x (by simpa using hx)
  refine ⟨val_nonneg (by decide) hr, ?_⟩
  have := val_lt (b := 256) (by decide) hr
  rw [List.length_reverse, hl, show pw 256 32 = RR by decide] at this
  exact this

theorem ext_getD {xs ys : List Int} {n : Nat} (hx : xs.length = n) (hy : ys.length = n) (h : ∀ i, i < n → xs.getD i 0 = ys.getD i 0) : xs = ys := by
  refine List.ext_getElem (by omega) fun i h1 h2 => ?_
  have := h i (by omega)
  simpa [List.getD, h1, h2] using this

theorem be_dn {D : List Int} (hd : Dg 256 D) (hl : D.length = 32) : be (dn D) = D := by
  have hr : Dg 256 D.reverse := fun x hx => hd x (by simpa using hx)
  refine ext_getD (be_len _) hl fun j hj => ?_
  have hx := hd.at (by decide) j
  have hrj : D.reverse.getD (31 - j) 0 = D.getD j 0 := by
    have e : 31 - (31 - j) = j := by omega
    simp [List.getD, hl, show 31 - j < 32 by omega, e, hj]
  rw [be_at _ _ hj, dn, cval_div (by decide) hr, cval_dropAt, hrj, Int.add_mul_emod_self_left]
  exact Int.emod_eq_of_lt hx.1 hx.2

theorem val_digits (V : Int) : ∀ n, val 256 ((List.range n).map fun p => V / pw 256 p % 256) = V % pw 256 n
  | 0 => by simp [val, pw, Int.emod_one]
  | n + 1 => by
    rw [List.range_succ, List.map_append, val_append, val_digits V n, List.length_map, List.length_range]
    rw [show pw 256 (n + 1) = 256 * pw 256 n from rfl, cemod_step V (pw 256 n) 256 (pw_pos (by decide) n) (by decide)]
    simp [val]
    rw [Int.mul_comm]

theorem dn_be {V : Int} (h0 : 0 ≤ V) (h1 : V < RR) : dn (be V) = V := by
  unfold dn be
  rw [← List.map_reverse, List.range_eq_range', List.reverse_range', List.map_map]
  have e : List.map ((fun j => V / pw 256 (31 - j) % 256) ∘ fun x => 0 + 32 - 1 - x) (List.range 32) = (List.range 32).map fun p => V / pw 256 p % 256 := by
    apply List.map_congr_left
    intro p hp
    have : p < 32 := by simpa using hp
    simp only [Function.comp]
    rw [show 31 - (0 + 32 - 1 - p) = p by omega]
  rw [e, val_digits, show pw 256 32 = RR by decide]
  exact Int.emod_eq_of_lt h0 h1

/-- Bytes laid below a word's higher ones. -/
theorem or_low (m d : Int) (t : Nat) (T : Int) (hT : T = 8 * (t : Int)) (ht : t < 8) (hm : 0 ≤ m) (hb : m * pw 256 (t + 1) < 18446744073709551616) (hd0 : 0 ≤ d) (hd1 : d < 256) :
    Go.IntKind.u64.wrap (d * 2 ^ T.toNat) = d * pw 256 t ∧ Go.bits .or .u64 (m * pw 256 (t + 1)) (d * pw 256 t) = m * pw 256 (t + 1) + d * pw 256 t ∧ 0 ≤ m * pw 256 (t + 1) + d * pw 256 t ∧ m * pw 256 (t + 1) + d * pw 256 t < 18446744073709551616 := by
  have hp := pw_pos (b := 256) (by decide) t
  have h1 := Int.mul_le_mul_of_nonneg_right (show d + 1 ≤ 256 by omega) (show 0 ≤ pw 256 t by omega)
  rw [Int.add_mul, Int.one_mul] at h1
  have h0 := Int.mul_nonneg hd0 (show 0 ≤ pw 256 t by omega)
  have e1 : (2 : Int) ^ T.toNat = pw 256 t := by rw [← cpw_b, cpw_eq, hT, show (8 * (t : Int)).toNat = 8 * t by omega]
  have h2 := pw_mono (b := 256) (by decide) (t + 1) 8 (by omega)
  rw [show pw 256 8 = 18446744073709551616 by decide, show pw 256 (t + 1) = 256 * pw 256 t from rfl] at h2
  obtain ⟨M, rfl⟩ := Int.eq_ofNat_of_zero_le hm
  obtain ⟨D, rfl⟩ := Int.eq_ofNat_of_zero_le hd0
  have hE : pw 256 t = ((2 ^ (8 * t) : Nat) : Int) := by rw [← cpw_b, cpw_eq, Int.natCast_pow]; rfl
  have hE1 : pw 256 (t + 1) = ((2 ^ (8 * (t + 1)) : Nat) : Int) := by rw [← cpw_b, cpw_eq, Int.natCast_pow]; rfl
  have hlt : D * 2 ^ (8 * t) < 2 ^ (8 * (t + 1)) := by
    rw [show 8 * (t + 1) = 8 * t + 8 by omega, Nat.pow_add, Nat.mul_comm (2 ^ (8 * t))]
    exact Nat.mul_lt_mul_of_pos_right (show D < 2 ^ 8 by omega) (Nat.two_pow_pos _)
  have hle : M * 2 ^ (8 * (t + 1)) + D * 2 ^ (8 * t) < 2 ^ 64 := by
    obtain ⟨k, hk⟩ : ∃ k, 64 = 8 * (t + 1) + k := ⟨64 - 8 * (t + 1), by omega⟩
    rw [hE1, ← Int.natCast_mul] at hb
    have hb' : M * 2 ^ (8 * (t + 1)) < 2 ^ 64 := by omega
    rw [hk, Nat.pow_add, Nat.mul_comm (2 ^ (8 * (t + 1)))] at hb' ⊢
    have hM : M < 2 ^ k := Nat.lt_of_mul_lt_mul_right hb'
    have := Nat.mul_le_mul_right (2 ^ (8 * (t + 1))) (show M + 1 ≤ 2 ^ k by omega)
    rw [Nat.add_mul, Nat.one_mul] at this
    omega
  refine ⟨by rw [e1, Go.IntKind.wrap_u64]; omega, ?_, ?_, ?_⟩
  · rw [hE1, hE, ← Int.natCast_mul, ← Int.natCast_mul]
    have h3 := Go.bits_or_u64_nat (M * 2 ^ (8 * (t + 1))) (D * 2 ^ (8 * t)) (by omega) (by omega)
    rw [h3]
    have h4 := Nat.two_pow_add_eq_or_of_lt hlt M
    rw [Nat.mul_comm (2 ^ (8 * (t + 1)))] at h4
    rw [← h4]
    omega
  · have := Int.mul_nonneg (show (0 : Int) ≤ (M : Int) by omega) (Int.le_of_lt (pw_pos (b := 256) (by decide) (t + 1)))
    omega
  · rw [hE1, hE, ← Int.natCast_mul, ← Int.natCast_mul]
    omega

end Go.Proofs.YtcijjmncilciiaaDoor

namespace Go.Proofs
open Go.Shelf
def Tryd.lays134_ren : Go.Shelf.Ren := ⟨fun | 134 => 98 | 129 => 93 | n => n, fun | 53 => 57 | 3 => 3 | 4 => 4 | 46 => 102 | 5 => 5 | 9 => 9 | n => n, fun | n => n⟩
theorem Tryd.lays134 : Go.Proofs.Lays.n134 Tryd.prog Tryd.lays134_ren := {
  mixed := by kernel_rfl
  f129 := Tryd.func93.trans (congrArg some (by kernel_rfl))
  f134 := Tryd.func98.trans (congrArg some (by kernel_rfl))
  t3 := Tryd.underlying3
  a3 := Tryd.isAgg3
  z3 := Tryd.sizeOf3
  v3 := Tryd.zeroValue3
  t4 := Tryd.underlying4
  a4 := Tryd.isAgg4
  z4 := Tryd.sizeOf4
  v4 := Tryd.zeroValue4
  t5 := Tryd.underlying5
  a5 := Tryd.isAgg5
  z5 := Tryd.sizeOf5
  v5 := Tryd.zeroValue5
  t9 := Tryd.underlying9
  a9 := Tryd.isAgg9
  z9 := Tryd.sizeOf9
  v9 := Tryd.zeroValue9
  t46 := Tryd.underlying102
  a46 := Tryd.isAgg102
  z46 := Tryd.sizeOf102
  v46 := Tryd.zeroValue102
  t53 := Tryd.underlying57
  a53 := Tryd.isAgg57
  z53 := Tryd.sizeOf57
  v53 := Tryd.zeroValue57 }
/-- bits.LeadingZeros64: "LeadingZeros64 returns the number of leading zero bits in x; the result is 64 for x == 0.": IT RETURNS '64 - Lib.bitLen x'; the world is as it was. ITS CALLEE bits.Len64 IS MET BY ITS OWN CONTRACT OFF THE SHELF (lay that first): entered in place it sends the kernel out of memory. (LAID: no walk: one application.) -/
theorem Tryd.bits_LeadingZeros64 (x : Int) (w : World) (h0 : 0 ≤ x) (h1 : x ≤ 18446744073709551615) :
    Calls Tryd.prog 98 #[.int .u64 x] w fun e w' => e = .returned (.int .i64 (64 - (Lib.bitLen x.toNat : Int))) ∧ w' = w := Any.bits_LeadingZeros64 Tryd.lays134 x w h0 h1
def Tryd.lays129_ren : Go.Shelf.Ren := ⟨fun | 129 => 93 | n => n, fun | 53 => 57 | 3 => 3 | 4 => 4 | 46 => 102 | 5 => 5 | 9 => 9 | n => n, fun | n => n⟩
theorem Tryd.lays129 : Go.Proofs.Lays.n129 Tryd.prog Tryd.lays129_ren := {
  mixed := by kernel_rfl
  f129 := Tryd.func93.trans (congrArg some (by kernel_rfl))
  t3 := Tryd.underlying3
  a3 := Tryd.isAgg3
  z3 := Tryd.sizeOf3
  v3 := Tryd.zeroValue3
  t4 := Tryd.underlying4
  a4 := Tryd.isAgg4
  z4 := Tryd.sizeOf4
  v4 := Tryd.zeroValue4
  t5 := Tryd.underlying5
  a5 := Tryd.isAgg5
  z5 := Tryd.sizeOf5
  v5 := Tryd.zeroValue5
  t9 := Tryd.underlying9
  a9 := Tryd.isAgg9
  z9 := Tryd.sizeOf9
  v9 := Tryd.zeroValue9
  t46 := Tryd.underlying102
  a46 := Tryd.isAgg102
  z46 := Tryd.sizeOf102
  v46 := Tryd.zeroValue102
  t53 := Tryd.underlying57
  a53 := Tryd.isAgg57
  z53 := Tryd.sizeOf57
  v53 := Tryd.zeroValue57 }
/-- bits.Len64: "Len64 returns the minimum number of bits required to represent x; the result is 0 for x == 0.": IT RETURNS 'Lib.bitLen x'; the world is as it was. ('h0', 'h1': x is a uint64.) (LAID: no walk: one application.) -/
theorem Tryd.bits_Len64 (x : Int) (w : World) (h0 : 0 ≤ x) (h1 : x ≤ 18446744073709551615) :
    Calls Tryd.prog 93 #[.int .u64 x] w fun e w' => e = .returned (.int .i64 (Lib.bitLen x.toNat)) ∧ w' = w := Any.bits_Len64 Tryd.lays129 x w h0 h1
def Tryd.lays264_ren : Go.Shelf.Ren := ⟨fun | 264 => 94 | n => n, fun | 53 => 57 | 46 => 102 | n => n, fun | n => n⟩
theorem Tryd.lays264 : Go.Proofs.Lays.n264 Tryd.prog Tryd.lays264_ren := {
  mixed := by kernel_rfl
  f264 := Tryd.func94.trans (congrArg some (by kernel_rfl))
  t46 := Tryd.underlying102
  a46 := Tryd.isAgg102
  z46 := Tryd.sizeOf102
  v46 := Tryd.zeroValue102
  t53 := Tryd.underlying57
  a53 := Tryd.isAgg57
  z53 := Tryd.sizeOf57
  v53 := Tryd.zeroValue57 }
open Go.RowKit Go.Lib in
theorem Tryd.bits_Mul64 (x y : Nat) (hx : x < 18446744073709551616) (hy : y < 18446744073709551616) (w : World) :
    Calls Tryd.prog 94 #[.int .u64 x, .int .u64 y] w fun e w' => e = .returned (.tuple #[.int .u64 ((x * y / 18446744073709551616 : Nat) : Int), .int .u64 ((x * y % 18446744073709551616 : Nat) : Int)]) ∧ w' = w := Any.bits_Mul64 Tryd.lays264 x y hx hy w
end Go.Proofs

namespace Go.Proofs.YtcijjmncilciiaaDoor
open Go.RowKit

theorem hide {p : Prop} (h : p) : Hid p := h
theorem unhide {p : Prop} (h : Hid p) : p := h

theorem own_split {w : World} {base : Nat} {e : TypeId} {v : Value} {n : Nat} {xs : List Value} (h : w.ownsRow base e 1 v n xs) :
    (v = .slice none 0 0 ∧ n = 0 ∧ xs = []) ∨ ∃ g cap, v = .slice (some ⟨g, 0, none⟩) n cap ∧ base ≤ g ∧ g < w.heap.size ∧ n ≤ cap ∧ cap ≤ maxLen := by
  obtain ⟨hl, h⟩ := h
  rcases h with ⟨rfl, rfl⟩ | ⟨g, cap, cur, rfl, hb, hh, hn, hm, _⟩
  · exact .inl ⟨rfl, rfl, List.eq_nil_of_length_eq_zero (by simpa using hl)⟩
  · refine .inr ⟨g, cap, rfl, hb, ?_, hn, hm⟩
    obtain ⟨h1, _⟩ := Array.getElem?_eq_some_iff.1 hh
    exact h1

theorem own_lit {w : World} (base : Nat) (e : TypeId) (xs : List Value) (n : Nat) (hn : xs.length = n) (hb : base ≤ w.heap.size) (hm : n ≤ maxLen) :
    (w.alloc (.cells xs.toArray e)).ownsRow base e 1 (.slice (some ⟨w.heap.size, 0, none⟩) n n) n xs := by
  refine ⟨by omega, .inr ⟨w.heap.size, n, xs.toArray, rfl, hb, ?_, Nat.le_refl _, hm, by simp; omega, ?_⟩⟩
  · exact (MapKept.heap_alloc w _).1
  · rw [Nat.mul_one, ← hn]; simp

/-- A row that the call owns is a row of cells that can be read. -/
theorem own_cells {w : World} {base : Nat} {e : TypeId} {g n cap : Nat} {xs : List Value} (h : w.ownsRow base e 1 (.slice (some ⟨g, 0, none⟩) n cap) n xs) :
    ∀ j u, xs[j]? = some u → w.cell? ((⟨g, 0, none⟩ : Addr).add j) = some u := h.cells rfl

theorem ints_one (xs : List Int) (k : IntKind) : ∀ u ∈ xs.map (Value.int k), u.oneCell' = true := by
  intro u hu
  simp at hu
  obtain ⟨x, _, rfl⟩ := hu
  rfl

end Go.Proofs.YtcijjmncilciiaaDoor
