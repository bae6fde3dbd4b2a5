/-
  A number's bytes (numB), as oid.put lays them behind others, and as the document's Number says.
  oid.Encode and the document's Encode lay the content of an object identifier (encS), or refuse.
-/
import Derived.Test.YthnfhkmonfkceaaGreatDoorYOSizeToRangeP
import Derived.Test.YthnfhkmonfkceaaGreatDoorYItsToNextS
import Derived.Test.YthnfhkmonfkceaaGreatDoorYLenToRMay
import Derived.Deep.RegionHeld3
namespace Go.Proofs.YthnfhkmonfkceaaGreatDoor
open Go.RowKit Go.IntWalk

/-- The digits to the base 128 above the lowest, k of them, the highest first, each with 128 more. -/
def hiB (n : Int) : Nat → List Int
  | 0 => []
  | k + 1 => (n / ((128 ^ (k + 1) : Nat) : Int) % 128 + 128) :: hiB n k

/-- A number's bytes. -/
def numB (n : Int) : List Int := hiB n (sizeS n - 1).toNat ++ [n % 128]

theorem hiB_len (n : Int) : ∀ k : Nat, (hiB n k).length = k
  | 0 => rfl
  | k + 1 => by rw [hiB, List.length_cons, hiB_len n k]

theorem hiB_byte (n : Int) : ∀ k : Nat, ∀ x ∈ hiB n k, 0 ≤ x ∧ x < 256
  | 0 => by simp [hiB]
  | k + 1 => by
    intro x hx
    rw [hiB] at hx
    rcases List.mem_cons.1 hx with rfl | hx
    · omega
    · exact hiB_byte n k x hx

theorem numB_byte (n : Int) : ∀ x ∈ numB n, 0 ≤ x ∧ x < 256 := by
  intro x hx
  unfold numB at hx
  rcases List.mem_append.1 hx with hx | hx
  · exact hiB_byte n _ x hx
  · simp at hx; omega

theorem sizeS_in (n : Int) : 1 ≤ sizeS n ∧ sizeS n ≤ 5 := by unfold sizeS; (repeat' split) <;> omega

theorem numB_len (n : Int) : ((numB n).length : Int) = sizeS n := by
  have := sizeS_in n
  unfold numB
  rw [List.length_append, hiB_len]
  simp
  omega

theorem or128 (x : Int) : bits .or .u8 (x % 256) 128 = x % 128 + 128 := by
  obtain ⟨A, hA⟩ := Int.eq_ofNat_of_zero_le (show 0 ≤ x % 256 by omega)
  have key : ∀ a : Nat, a < 256 → (bits .or .u8 (a : Int) 128) = (a : Int) % 128 + 128 := by decide +kernel
  rw [hA, key A (by omega)]
  omega

/-- What has been laid when the digits above number k stand. -/
theorem hiB_take (n : Int) (k j : Nat) (h : j < k) : (hiB n k).take (j + 1) = (hiB n k).take j ++ [n / ((128 ^ (k - j) : Nat) : Int) % 128 + 128] := by
  induction k generalizing j with
  | zero => omega
  | succ k ih =>
    rw [hiB]
    cases j with
    | zero => simp
    | succ j =>
      rw [List.take_succ_cons, List.take_succ_cons, ih j (by omega), show k + 1 - (j + 1) = k - j by omega]
      rfl

theorem ownShape {w : World} {base : Nat} {v : Value} {xs : List Int} (h : OwnB w base v xs) : ∃ ao c, v = .slice ao xs.length c := by
  rcases h.split with ⟨rfl, rfl⟩ | ⟨g, c, rfl, _⟩
  · exact ⟨none, 0, rfl⟩
  · exact ⟨_, c, rfl⟩

set_option maxRecDepth 100000 in
set_option maxHeartbeats 1000000 in
theorem oput_any (ao : Option Addr) (m c : Nat) (bs : List Int) (n : Int) (base : Nat) (w : World) (hO : OwnB w base (.slice ao m c) bs) (hbs : base ≤ w.heap.size) (h0 : 0 ≤ n) (h1 : n < 4294967296) (hm : bs.length ≤ 1048576) :
    Calls Tryz.prog 137 #[.slice ao m c, .int .i64 n] w fun e w' => ∃ ao' c', e = .returned (.slice ao' (bs ++ numB n).length c') ∧ OwnB w' base (.slice ao' (bs ++ numB n).length c') (bs ++ numB n) ∧ Below base w w' := by
  obtain ⟨z1, z5⟩ := sizeS_in n
  obtain ⟨K, hK⟩ : ∃ K : Nat, (sizeS n - 1).toNat = K := ⟨_, rfl⟩
  have hKI : sizeS n = (K : Int) + 1 := by omega
  have hnb : Hid (numB n = hiB n K ++ [n % 128]) := by unfold Hid numB; rw [hK]
  have HK := hide hKI
  have hK4 : K ≤ 4 := by omega
  clear hK hKI z1 z5
  go_enter Tryz.func137, Tryz.ntmps137
  go_wp2_with (go_at_call 131; refine (osize_any n h0 h1 _).mono ?_; rintro e w1 ⟨rfl, hw⟩; have hw2 := hw.symm; subst hw2; rw [HK.out])
  go_loopw [0, 5] (fun v i wr => ∃ (j : Nat) (I : Int), i = .int .i64 I ∧ j ≤ K ∧ I + (j : Int) = (K : Int) ∧ OwnB wr base v (bs ++ (hiB n K).take j) ∧ Below base w wr) (fun _ i _ => (intOf i).toNat)
  case atStart => exact ⟨0, _, rfl, by omega, by go_num, by simpa using hO, Below.refl _ _⟩
  case round =>
    obtain ⟨j, I, rfl, hjk, hI, hoy, hB⟩ := hrel
    rcases (show I = 0 ∨ I = 1 ∨ I = 2 ∨ I = 3 ∨ I = 4 by omega) with rfl | rfl | rfl | rfl | rfl
    · have hjk' : j = K := by omega
      rw [hjk', List.take_of_length_le (by rw [hiB_len]; exact Nat.le_refl _)] at hoy
      have hr : Int.tmod n 128 = n % 128 := Int.tmod_eq_emod_of_nonneg h0
      have hr2 : n % 128 % 256 = n % 128 := by omega
      have hlen : Hid ((bs ++ hiB n K).length = bs.length + K) := by unfold Hid; rw [List.length_append, hiB_len]
      have hfin : Hid (bs ++ numB n = (bs ++ hiB n K) ++ [n % 128]) := by unfold Hid; rw [hnb.out, List.append_assoc]
      clear hjk' hI hjk
      go_wp2_with (at_builtin; refine wpList_appN _ rfl (.tmp 22) (.tmp 26) rfl base u0 (bs ++ hiB n K) rfl (hoy.alloc _) (some ⟨wr.heap.size, 0, none⟩) 1 1 [n % 128] rfl (Src.lit [n % 128] _ 1 (by simp <;> omega) rfl (by simp <;> omega) (by decide)) (bs.length + K + 1) (by rw [List.length_append, hlen.out]; simp) (.inr (by simp)) (by omega) (by have := hB.size; simp <;> omega) ?_; intro g1 c1 w2 ho2 hb2 hl2 hc2 hm2 hg2)
      have hB2 : Below base w w2 := (hB.alloc (Nat.le_trans hbs hB.size) _).grown hg2 (by have := hB.size; simp; omega) (by intro k hk; exact ((hoy.lt k hk).1))
      go_ret
      have hl2' : (bs ++ numB n).length = bs.length + K + 1 := by rw [hfin.out, List.length_append, hlen.out]; simp
      exact ⟨some ⟨g1, 0, none⟩, c1, by rw [hl2']; rfl, by rw [hl2', hfin.out]; exact ho2, hB2⟩
    · have hkj : K - j = 1 := by omega
      have hlt : j < K := by omega
      have ht := hide (hiB_take n K j hlt)
      rw [hkj] at ht
      have hv : Hid (n / ((128 ^ 1 : Nat) : Int) % 128 + 128 = n / 128 % 128 + 128) := by unfold Hid; simp
      rw [hv.out] at ht
      have ho := or128 (n / 128)
      have hq0 : 0 ≤ n / 128 := by omega
      have hq1 : n / 128 < 4294967296 := by omega
      have HI := hide hI
      clear hI hkj
      go_wp2_with (at_builtin; refine wpList_appN _ rfl (.tmp 13) (.tmp 20) rfl base u0 (bs ++ (hiB n K).take j) rfl (hoy.alloc _) (some ⟨wr.heap.size, 0, none⟩) 1 1 [n / 128 % 128 + 128] rfl (Src.lit [n / 128 % 128 + 128] _ 1 (by simp) rfl (by simp <;> omega) (by decide)) (bs.length + j + 1) (by rw [List.length_append, List.length_append, List.length_take, hiB_len]; simp <;> omega) (.inr (by simp)) (by omega) (by have := hB.size; simp <;> omega) ?_; intro g1 c1 w2 ho2 hb2 hl2 hc2 hm2 hg2)
      have hB2 : Below base w w2 := (hB.alloc (Nat.le_trans hbs hB.size) _).grown hg2 (by have := hB.size; simp; omega) (by intro k hk; exact ((hoy.lt k hk).1))
      go_roundw
      case rel => exact ⟨j + 1, _, rfl, by omega, by have := HI.out; omega, by rw [ht.out, ← List.append_assoc]; exact ho2, hB2⟩
      case measure => simp [intOf]
    · have hkj : K - j = 2 := by omega
      have hlt : j < K := by omega
      have ht := hide (hiB_take n K j hlt)
      rw [hkj] at ht
      have hv : Hid (n / ((128 ^ 2 : Nat) : Int) % 128 + 128 = n / 16384 % 128 + 128) := by unfold Hid; simp
      rw [hv.out] at ht
      have ho := or128 (n / 16384)
      have hq0 : 0 ≤ n / 16384 := by omega
      have hq1 : n / 16384 < 4294967296 := by omega
      have HI := hide hI
      clear hI hkj
      go_wp2_with (at_builtin; refine wpList_appN _ rfl (.tmp 13) (.tmp 20) rfl base u0 (bs ++ (hiB n K).take j) rfl (hoy.alloc _) (some ⟨wr.heap.size, 0, none⟩) 1 1 [n / 16384 % 128 + 128] rfl (Src.lit [n / 16384 % 128 + 128] _ 1 (by simp) rfl (by simp <;> omega) (by decide)) (bs.length + j + 1) (by rw [List.length_append, List.length_append, List.length_take, hiB_len]; simp <;> omega) (.inr (by simp)) (by omega) (by have := hB.size; simp <;> omega) ?_; intro g1 c1 w2 ho2 hb2 hl2 hc2 hm2 hg2)
      have hB2 : Below base w w2 := (hB.alloc (Nat.le_trans hbs hB.size) _).grown hg2 (by have := hB.size; simp; omega) (by intro k hk; exact ((hoy.lt k hk).1))
      go_roundw
      case rel => exact ⟨j + 1, _, rfl, by omega, by have := HI.out; omega, by rw [ht.out, ← List.append_assoc]; exact ho2, hB2⟩
      case measure => simp [intOf]
    · have hkj : K - j = 3 := by omega
      have hlt : j < K := by omega
      have ht := hide (hiB_take n K j hlt)
      rw [hkj] at ht
      have hv : Hid (n / ((128 ^ 3 : Nat) : Int) % 128 + 128 = n / 2097152 % 128 + 128) := by unfold Hid; simp
      rw [hv.out] at ht
      have ho := or128 (n / 2097152)
      have hq0 : 0 ≤ n / 2097152 := by omega
      have hq1 : n / 2097152 < 4294967296 := by omega
      have HI := hide hI
      clear hI hkj
      go_wp2_with (at_builtin; refine wpList_appN _ rfl (.tmp 13) (.tmp 20) rfl base u0 (bs ++ (hiB n K).take j) rfl (hoy.alloc _) (some ⟨wr.heap.size, 0, none⟩) 1 1 [n / 2097152 % 128 + 128] rfl (Src.lit [n / 2097152 % 128 + 128] _ 1 (by simp) rfl (by simp <;> omega) (by decide)) (bs.length + j + 1) (by rw [List.length_append, List.length_append, List.length_take, hiB_len]; simp <;> omega) (.inr (by simp)) (by omega) (by have := hB.size; simp <;> omega) ?_; intro g1 c1 w2 ho2 hb2 hl2 hc2 hm2 hg2)
      have hB2 : Below base w w2 := (hB.alloc (Nat.le_trans hbs hB.size) _).grown hg2 (by have := hB.size; simp; omega) (by intro k hk; exact ((hoy.lt k hk).1))
      go_roundw
      case rel => exact ⟨j + 1, _, rfl, by omega, by have := HI.out; omega, by rw [ht.out, ← List.append_assoc]; exact ho2, hB2⟩
      case measure => simp [intOf]
    · have ho4 : bits .or .u8 (n / 268435456) 128 = n / 268435456 % 128 + 128 := by
        have := or128 (n / 268435456)
        rwa [show n / 268435456 % 256 = n / 268435456 by omega] at this
      have hkj : K - j = 4 := by omega
      have hlt : j < K := by omega
      have ht := hide (hiB_take n K j hlt)
      rw [hkj] at ht
      have hv : Hid (n / ((128 ^ 4 : Nat) : Int) % 128 + 128 = n / 268435456 % 128 + 128) := by unfold Hid; simp
      rw [hv.out] at ht
      have ho := or128 (n / 268435456)
      have hq0 : 0 ≤ n / 268435456 := by omega
      have hq1 : n / 268435456 < 4294967296 := by omega
      have HI := hide hI
      clear hI hkj
      go_wp2_with (at_builtin; refine wpList_appN _ rfl (.tmp 13) (.tmp 20) rfl base u0 (bs ++ (hiB n K).take j) rfl (hoy.alloc _) (some ⟨wr.heap.size, 0, none⟩) 1 1 [n / 268435456 % 128 + 128] rfl (Src.lit [n / 268435456 % 128 + 128] _ 1 (by simp) rfl (by simp <;> omega) (by decide)) (bs.length + j + 1) (by rw [List.length_append, List.length_append, List.length_take, hiB_len]; simp <;> omega) (.inr (by simp)) (by omega) (by have := hB.size; simp <;> omega) ?_; intro g1 c1 w2 ho2 hb2 hl2 hc2 hm2 hg2)
      have hB2 : Below base w w2 := (hB.alloc (Nat.le_trans hbs hB.size) _).grown hg2 (by have := hB.size; simp; omega) (by intro k hk; exact ((hoy.lt k hk).1))
      go_roundw
      case rel => exact ⟨j + 1, _, rfl, by omega, by have := HI.out; omega, by rw [ht.out, ← List.append_assoc]; exact ho2, hB2⟩
      case measure => simp [intOf]

/-- No fewer than j + 1 digits. -/
theorem size_of (n : Int) (h0 : 0 ≤ n) (h1 : n < 4294967296) (j : Nat) (hj : j ≤ 4) (hz : n / ((128 ^ (j + 1) : Nat) : Int) = 0) (hp : j = 0 ∨ 0 < n / ((128 ^ j : Nat) : Int)) : (sizeS n - 1).toNat = j := by
  rcases (show j = 0 ∨ j = 1 ∨ j = 2 ∨ j = 3 ∨ j = 4 by omega) with rfl | rfl | rfl | rfl | rfl <;> simp at hz hp <;> unfold sizeS <;> (repeat' split) <;> omega

theorem pow_four (n : Int) (h0 : 0 ≤ n) (h1 : n < 4294967296) (i : Nat) (h : 0 < n / ((128 ^ i : Nat) : Int)) : i ≤ 4 := by
  rcases Nat.lt_or_ge 4 i with h4 | h4
  · exfalso
    have hp : (34359738368 : Nat) ≤ 128 ^ i := by
      have := Nat.pow_le_pow_right (show 0 < 128 by omega) (show 5 ≤ i by omega)
      simpa using this
    have : n / ((128 ^ i : Nat) : Int) = 0 := Int.ediv_eq_zero_of_lt h0 (by omega)
    omega
  · exact h4

set_option maxRecDepth 100000 in
set_option maxHeartbeats 1000000 in
theorem refNumber_any (n : Int) (h0 : 0 ≤ n) (h1 : n < 4294967296) (w : World) :
    Calls Tryz.prog 80 #[.int .i64 n] w fun e w' => ∃ ao' c', e = .returned (.slice ao' (numB n).length c') ∧ OwnB w' w.heap.size (.slice ao' (numB n).length c') (numB n) ∧ Below w.heap.size w w' := by
  have hr : Int.tmod n 128 = n % 128 := Int.tmod_eq_emod_of_nonneg h0
  have hr2 : n % 128 % 256 = n % 128 := by omega
  have hd : Int.tdiv n 128 = n / 128 := Int.tdiv_eq_ediv_of_nonneg h0
  go_enter Tryz.func80, Tryz.ntmps80
  go_wp2
  go_loopw [0, 3] (fun s v wr => ∃ (j : Nat) (N : Int) (aO : Option Addr) (cO : Nat), s = .int .i64 N ∧ v = .slice aO (j + 1) cO ∧ Hid (N = n / ((128 ^ (j + 1) : Nat) : Int)) ∧ 0 ≤ N ∧ N < 4294967296 ∧ j ≤ 4 ∧ (j = 0 ∨ 0 < n / ((128 ^ j : Nat) : Int)) ∧ OwnB wr w.heap.size v (hiB n j ++ [n % 128]) ∧ Below w.heap.size w wr) (fun s _ _ => (intOf s).toNat)
  case atStart => exact ⟨0, _, _, _, rfl, rfl, by unfold Hid; simp, by omega, by omega, by omega, .inl rfl, OwnB.lit w.heap.size [n % 128] _ 1 (by simp <;> omega) rfl (Nat.le_refl _) (by decide), (Below.refl _ _).alloc (Nat.le_refl _) _⟩
  case round =>
    obtain ⟨j, N, aO, cO, rfl, rfl, hN, hN0, hN1, hj, hp, hoy, hB⟩ := hrel
    have hlen := hide (hiB_len n j)
    by_cases hz : N = 0
    · have hs := hide (size_of n h0 h1 j hj (by rw [← hN.out]; exact hz) hp)
      have hfin : Hid (numB n = hiB n j ++ [n % 128]) := by unfold Hid numB; rw [hs.out]
      have hll : Hid ((numB n).length = j + 1) := by unfold Hid; rw [hfin.out, List.length_append, hlen.out]; rfl
      subst hz
      clear hp hN
      go_wp2
      go_ret
      exact ⟨aO, cO, by rw [hll.out]; rfl, by rw [hll.out, hfin.out]; exact hoy, hB⟩
    · have hpos : 0 < N := by omega
      have hnb : Hid (∀ x ∈ hiB n j ++ [n % 128], 0 ≤ x ∧ x < 256) := by
        intro x hx
        rcases List.mem_append.1 hx with hx | hx
        · exact hiB_byte n j x hx
        · simp at hx; omega
      have sO := hide (hoy.toSrc hnb.out)
      have hst : Hid (hiB n (j + 1) = (N % 128 + 128) :: hiB n j) := by unfold Hid; rw [hiB, hN.out]
      have hnx : Hid (N / 128 = n / ((128 ^ (j + 1 + 1) : Nat) : Int)) := by
        unfold Hid
        rw [hN.out, Int.ediv_ediv_of_nonneg (Int.natCast_nonneg _), Nat.pow_succ 128 (j + 1)]
        simp
      have hj4 := pow_four n h0 h1 (j + 1) (by rw [← hN.out]; exact hpos)
      have hpp : Hid (0 < n / ((128 ^ (j + 1) : Nat) : Int)) := by unfold Hid; rw [← hN.out]; exact hpos
      have q1 : Int.tmod N 128 = N % 128 := Int.tmod_eq_emod_of_nonneg hN0
      have q2 : Int.tdiv N 128 = N / 128 := Int.tdiv_eq_ediv_of_nonneg hN0
      have q3 : (128 + N % 128) % 256 = 128 + N % 128 := by omega
      have q4 : 0 ≤ N % 128 := by omega
      have q5 : N % 128 < 128 := by omega
      have hBs := hB.size
      clear hN hp hz
      go_wp2_with (at_builtin; refine wpList_appN _ rfl (.tmp 16) (.tmp 17) rfl w.heap.size (.slice (some ⟨wr.heap.size, 0, none⟩) 1 1) [128 + N % 128] rfl (OwnB.lit _ [128 + N % 128] _ 1 (by simp <;> omega) rfl hBs (by decide)) aO (j + 1) cO (hiB n j ++ [n % 128]) rfl (sO.out.alloc _) (j + 2) (by rw [List.length_append, List.length_append, hlen.out]; simp <;> omega) (.inl (by simp)) (by omega) (by simp; omega) ?_; intro g1 c1 w2 ho2 hb2 hl2 hc2 hm2 hg2)
      have hB2 : Below w.heap.size w w2 := (hB.alloc hBs _).grown hg2 (by simp; omega) (by intro k hk; cases hk; exact hBs)
      go_roundw
      case rel =>
        refine ⟨j + 1, N / 128, _, _, rfl, rfl, hnx.out, by omega, by omega, hj4, .inr hpp.out, ?_, hB2⟩
        rw [hst.out, show N % 128 + 128 = 128 + N % 128 by omega]
        exact ho2
      case measure => simp [intOf]; omega

end Go.Proofs.YthnfhkmonfkceaaGreatDoor

namespace Go.Proofs.YthnfhkmonfkceaaGreatDoor
open Go.RowKit Go.IntWalk

/-- The content of an object identifier. -/
def encS (xs : List Int) : List Int := numB (40 * xs.getD 0 0 + xs.getD 1 0) ++ ((xs.drop 2).map numB).flatten
def encC (xs : List Int) : List Int := if mayS xs = true then encS xs else []
def encE (xs : List Int) : Int := if mayS xs = true then 0 else 2

theorem may_parts {xs : List Int} (h : mayS xs = true) : 2 ≤ xs.length ∧ xs.length ≤ 20 ∧ (∀ x ∈ xs, 0 ≤ x ∧ x ≤ 2147483647) ∧ pairB (xs.getD 0 0) (xs.getD 1 0) = true := by
  unfold mayS at h
  simp only [Bool.and_eq_true, decide_eq_true_eq, List.all_eq_true] at h
  obtain ⟨⟨⟨h1, h2⟩, h3⟩, h4⟩ := h
  refine ⟨h1, h2, fun x hx => ?_, h4⟩
  have := h3 x hx
  unfold arcB at this
  simpa using this

theorem first_in {xs : List Int} (h : mayS xs = true) : 0 ≤ 40 * xs.getD 0 0 + xs.getD 1 0 ∧ 40 * xs.getD 0 0 + xs.getD 1 0 ≤ 2147483647 ∧ 0 ≤ xs.getD 0 0 ∧ xs.getD 0 0 ≤ 2 ∧ 0 ≤ xs.getD 1 0 ∧ xs.getD 1 0 ≤ 2147483647 := by
  obtain ⟨h1, _, h3, h4⟩ := may_parts h
  have e0 : 0 ≤ xs.getD 0 0 ∧ xs.getD 0 0 ≤ 2147483647 := by
    rw [List.getD, List.getElem?_eq_getElem (show 0 < xs.length by omega)]; exact h3 _ (List.getElem_mem _)
  have e1 : 0 ≤ xs.getD 1 0 ∧ xs.getD 1 0 ≤ 2147483647 := by
    rw [List.getD, List.getElem?_eq_getElem (show 1 < xs.length by omega)]; exact h3 _ (List.getElem_mem _)
  unfold pairB at h4
  split at h4
  · have := of_decide_eq_true h4
    omega
  · split at h4
    · have := of_decide_eq_true h4
      omega
    · simp at h4

theorem flat_next (l : List Int) (k : Nat) (h : k < l.length) : ((l.take (k + 1)).map numB).flatten = ((l.take k).map numB).flatten ++ numB (l.getD k 0) := by
  rw [List.take_add_one, List.map_append, List.flatten_append]
  simp [List.getD, h]

theorem flat_len : ∀ l : List Int, ((l.map numB).flatten).length ≤ 5 * l.length
  | [] => by simp
  | x :: l => by
    have h1 := flat_len l
    have h2 := numB_len x
    have h3 := (sizeS_in x).2
    rw [List.map_cons, List.flatten_cons, List.length_append, List.length_cons]
    omega

theorem flat_byte (l : List Int) : ∀ x ∈ (l.map numB).flatten, 0 ≤ x ∧ x < 256 := by
  intro x hx
  rw [List.mem_flatten] at hx
  obtain ⟨ys, h1, h2⟩ := hx
  rw [List.mem_map] at h1
  obtain ⟨y, _, rfl⟩ := h1
  exact numB_byte y x h2

theorem encC_byte (xs : List Int) : ∀ x ∈ encC xs, 0 ≤ x ∧ x < 256 := by
  unfold encC encS
  split
  · intro x hx
    rcases List.mem_append.1 hx with hx | hx
    · exact numB_byte _ x hx
    · exact flat_byte _ x hx
  · simp

set_option maxRecDepth 100000 in
set_option maxHeartbeats 1000000 in
theorem encode_any (ao : Option Addr) (n cap : Nat) (xs : List Int) (w : World) (hs : SrcI w ao n cap xs) :
    Calls Tryz.prog 122 #[.slice ao n cap] w fun e w' => ∃ ao' c', e = .returned (.tuple #[.slice ao' (encC xs).length c', .int .i64 (encE xs)]) ∧ OwnB w' w.heap.size (.slice ao' (encC xs).length c') (encC xs) ∧ Below w.heap.size w w' := by
  have HL := hide hs.hlen
  have Hm := hide (mayI_any ao n cap xs w hs)
  cases hm : mayS xs with
  | false =>
    rw [hm] at Hm
    have e1 : encC xs = [] := by simp [encC, hm]
    have e2 : encE xs = 2 := by simp [encE, hm]
    rw [e1, e2]
    clear e1 e2 hm
    go_enter Tryz.func122, Tryz.ntmps122
    go_wp2_with fail
    refine Hm.out.mono ?_
    rintro e w1 ⟨rfl, hD⟩
    go_wp2
    refine bodyPost_ret (v := .tuple #[.slice none 0 0, .int .i64 2]) (by simp [results, Tryz.results122, go_sem]) rfl ⟨none, 0, rfl, OwnB.nil _ _, hD.toBelow _⟩
  | true =>
    rw [hm] at Hm
    have e1 : encC xs = encS xs := by simp [encC, hm]
    have e2 : encE xs = 0 := by simp [encE, hm]
    obtain ⟨p2, p20, pall, _⟩ := may_parts hm
    obtain ⟨f0, f1, f2, f3, f4, f5⟩ := first_in hm
    rw [e1, e2]
    clear e1 e2 hm
    have HP := hide pall
    rw [HL.out] at p2 p20
    obtain ⟨m, rfl⟩ : ∃ m, n = m + 2 := ⟨n - 2, by omega⟩
    obtain ⟨b, off, rfl, c0⟩ := hs.at 0 (by omega)
    obtain ⟨b', off', hbo, c1⟩ := hs.at 1 (by omega)
    simp at hbo
    obtain ⟨rfl, rfl⟩ := hbo
    rw [Nat.add_zero] at c0
    have ht := hs.cut 2 (m + 2) (by omega) (Nat.le_refl _)
    rw [List.take_of_length_le (by rw [HL.out]; exact Nat.le_refl _), Nat.add_sub_cancel] at ht
    have sl := fun W => sliceI_lo W (some ⟨b, off, none⟩) (m + 2) cap 2 2 rfl (by omega)
    simp only [Nat.add_sub_cancel] at sl
    generalize cutA (some ⟨b, off, none⟩) cap 2 = A at ht sl
    have hbl : b < w.heap.size := lt_of_cell c0
    have hE : Hid (encS xs = numB (40 * xs.getD 0 0 + xs.getD 1 0) ++ ((xs.drop 2).map numB).flatten) := rfl
    have hall2 : Hid (∀ x ∈ xs.drop 2, 0 ≤ x ∧ x ≤ 2147483647) := fun x hx => HP.out x (List.mem_of_mem_drop hx)
    have hl2 : Hid ((xs.drop 2).length = m) := ht.hlen
    generalize xs.drop 2 = ys at ht hE hall2 hl2
    generalize xs.getD 0 0 = x0 at *
    generalize xs.getD 1 0 = x1 at *
    have g1 : (1 : Int) < (m : Int) + 2 := by omega
    have g0 : (0 : Int) < (m : Int) + 2 := by omega
    have hm20 : (m : Int) ≤ 18 := by omega
    have gw : IntKind.i64.wrap (40 * x0) = 40 * x0 := i64_in _ (by omega)
    have gw2 : IntKind.i64.wrap (40 * x0 + x1) = 40 * x0 + x1 := i64_in _ (by omega)
    go_enter Tryz.func122, Tryz.ntmps122
    go_wp2_with fail
    refine Hm.out.mono ?_
    rintro e w1 ⟨rfl, hD⟩
    have d0 := (hD.cell ⟨b, off, none⟩).trans c0
    have d1 := (hD.cell ⟨b, off + 1, none⟩).trans c1
    have hbl1 : b < w1.heap.size := by rw [hD.heap]; exact hbl
    go_wp2_with fail
    go_region_held3 (fun W => W.cell? ⟨b, off, none⟩ = some (.int .i64 x0) ∧ W.cell? ⟨b, off + 1, none⟩ = some (.int .i64 x1)) (go_keep) (first | (go_at_call 137; refine (oput_any none 0 0 [] (40 * x0 + x1) w1.heap.size _ (OwnB.nil _ _) ?_ f0 (by omega) (by simp)).mono ?_; exact Nat.le_refl _; rintro e w2 ⟨aP, cP, rfl, oP, B2⟩; have k0 := (B2.cell (p := ⟨b, off, none⟩) hbl1).trans d0; have k1 := (B2.cell (p := ⟨b, off + 1, none⟩) hbl1).trans d1))
    rw [List.nil_append] at oP
    have hF5 : Hid ((numB (40 * x0 + x1)).length ≤ 5) := by unfold Hid; have h1 := numB_len (40 * x0 + x1); have h2 := (sizeS_in (40 * x0 + x1)).2; omega
    generalize numB (40 * x0 + x1) = F at *
    have B2' : Below w1.heap.size w1 w2 := (Drawn.more (Drawn.refl w1) 1).toBelow w1.heap.size |>.trans B2
    clear k0 k1 d0 d1
    go_wp2
    go_loopw [4, 6, 22] (fun v _ i wr => ∃ (k M : Nat) (aO : Option Addr) (cO : Nat), k ≤ m ∧ i = .int .i64 k ∧ v = .slice aO M cO ∧ OwnB wr w1.heap.size (.slice aO M cO) (F ++ ((ys.take k).map numB).flatten) ∧ Below w1.heap.size w1 wr) (fun _ _ i _ => m - (intOf i).toNat)
    case atStart => exact ⟨0, _, aP, cP, Nat.zero_le _, rfl, rfl, by simpa using oP, B2'⟩
    case round =>
      obtain ⟨k, M, aO, cO, hk, rfl, rfl, hO, hB⟩ := hrel
      have hBs := hB.size
      by_cases hlt : k < m
      · have st := (ht.heap hD.heap).below hB
        obtain ⟨b2, o2, hA, e1⟩ := st.at k hlt
        subst hA
        have hx : Hid (0 ≤ ys.getD k 0 ∧ ys.getD k 0 ≤ 2147483647) := by
          unfold Hid
          rw [List.getD, List.getElem?_eq_getElem (by rw [hl2.out]; exact hlt)]
          exact hall2.out _ (List.getElem_mem _)
        have hnx := hide (flat_next ys k (by rw [hl2.out]; exact hlt))
        have hfl : Hid ((F ++ ((ys.take k).map numB).flatten).length ≤ 1048576) := by
          unfold Hid
          have h1 := flat_len (ys.take k)
          have h2 := hF5.out
          rw [List.length_append]
          simp at h1 ⊢
          omega
        generalize ys.getD k 0 = x at e1 hx hnx
        have kI : (k : Int) < (m : Int) := by omega
        go_wp2_with (go_at_call 137; refine (oput_any aO M cO _ x w1.heap.size _ hO hBs hx.out.1 (by have := hx.out.2; omega) hfl.out).mono ?_; rintro e w3 ⟨aN, cN, rfl, oN, B3⟩; generalize (F ++ ((ys.take k).map numB).flatten ++ numB x).length = LN at oN ⊢)
        go_roundw
        case rel => exact ⟨k + 1, _, aN, cN, by omega, by go_num, rfl, by rw [hnx.out, ← List.append_assoc]; exact oN, hB.trans B3⟩
        case measure => simp [intOf]; omega
      · have kI : ¬ (k : Int) < (m : Int) := by omega
        have hfin : Hid (F ++ ((ys.take k).map numB).flatten = encS xs) := by
          unfold Hid
          rw [hE.out, List.take_of_length_le (by rw [hl2.out]; omega)]
        rw [hfin.out] at hO
        have hM : Hid ((encS xs).length = M) := by
          unfold Hid
          rcases hO.split with ⟨h1, h2⟩ | ⟨g, c, h1, _⟩
          · simp at h1; rw [h2]; exact h1.2.1.symm
          · simp at h1; exact h1.2.1.symm
        go_wp2
        refine bodyPost_ret (v := .tuple #[.slice aO M cO, .int .i64 0]) (by simp [results, Tryz.results122, go_sem]) rfl ⟨aO, cO, by rw [hM.out], by rw [hM.out]; exact hO.rebase (by rw [hD.heap]; exact Nat.le_refl _), (hD.toBelow _).trans (hB.mono (by rw [hD.heap]; exact Nat.le_refl _))⟩

set_option maxRecDepth 100000 in
set_option maxHeartbeats 1000000 in
theorem refEncode_any (ao : Option Addr) (n cap : Nat) (xs : List Int) (w : World) (hs : SrcI w ao n cap xs) :
    Calls Tryz.prog 57 #[.slice ao n cap] w fun e w' => ∃ ao' c', e = .returned (.tuple #[.slice ao' (encC xs).length c', .int .i64 (encE xs)]) ∧ OwnB w' w.heap.size (.slice ao' (encC xs).length c') (encC xs) ∧ Below w.heap.size w w' := by
  have HL := hide hs.hlen
  have Hm := hide (refMayI_any ao n cap xs w hs)
  cases hm : mayS xs with
  | false =>
    rw [hm] at Hm
    have e1 : encC xs = [] := by simp [encC, hm]
    have e2 : encE xs = 2 := by simp [encE, hm]
    rw [e1, e2]
    clear e1 e2 hm
    go_enter Tryz.func57, Tryz.ntmps57
    go_wp2_with fail
    refine Hm.out.mono ?_
    rintro e w1 ⟨rfl, hD⟩
    go_wp2
    refine bodyPost_ret (v := .tuple #[.slice none 0 0, .int .i64 2]) (by simp [results, Tryz.results57, go_sem]) rfl ⟨none, 0, rfl, OwnB.nil _ _, hD.toBelow _⟩
  | true =>
    rw [hm] at Hm
    have e1 : encC xs = encS xs := by simp [encC, hm]
    have e2 : encE xs = 0 := by simp [encE, hm]
    obtain ⟨p2, p20, pall, _⟩ := may_parts hm
    obtain ⟨f0, f1, f2, f3, f4, f5⟩ := first_in hm
    rw [e1, e2]
    clear e1 e2 hm
    have HP := hide pall
    rw [HL.out] at p2 p20
    obtain ⟨m, rfl⟩ : ∃ m, n = m + 2 := ⟨n - 2, by omega⟩
    obtain ⟨b, off, rfl, c0⟩ := hs.at 0 (by omega)
    obtain ⟨b', off', hbo, c1⟩ := hs.at 1 (by omega)
    simp at hbo
    obtain ⟨rfl, rfl⟩ := hbo
    rw [Nat.add_zero] at c0
    have HC : Hid (∀ k, k < m → w.cell? ⟨b, off + (2 + k), none⟩ = some (.int .i64 ((xs.drop 2).getD k 0))) := by
      intro k hk
      obtain ⟨b2, o2, he, hc⟩ := hs.at (2 + k) (by omega)
      simp at he
      obtain ⟨rfl, rfl⟩ := he
      rw [hc]
      simp [List.getD]
    have hbl : b < w.heap.size := lt_of_cell c0
    have hE : Hid (encS xs = numB (40 * xs.getD 0 0 + xs.getD 1 0) ++ ((xs.drop 2).map numB).flatten) := rfl
    have hall2 : Hid (∀ x ∈ xs.drop 2, 0 ≤ x ∧ x ≤ 2147483647) := fun x hx => HP.out x (List.mem_of_mem_drop hx)
    have hl2 : Hid ((xs.drop 2).length = m) := by unfold Hid; rw [List.length_drop, HL.out]; rfl
    generalize xs.drop 2 = ys at HC hE hall2 hl2
    generalize xs.getD 0 0 = x0 at *
    generalize xs.getD 1 0 = x1 at *
    have g1 : (1 : Int) < (m : Int) + 2 := by omega
    have g0 : (0 : Int) < (m : Int) + 2 := by omega
    have hm20 : (m : Int) ≤ 18 := by omega
    have gw : IntKind.i64.wrap (40 * x0) = 40 * x0 := i64_in _ (by omega)
    have gw2 : IntKind.i64.wrap (40 * x0 + x1) = 40 * x0 + x1 := i64_in _ (by omega)
    go_enter Tryz.func57, Tryz.ntmps57
    go_wp2_with fail
    refine Hm.out.mono ?_
    rintro e w1 ⟨rfl, hD⟩
    have d0 := (hD.cell ⟨b, off, none⟩).trans c0
    have d1 := (hD.cell ⟨b, off + 1, none⟩).trans c1
    have hbl1 : b < w1.heap.size := by rw [hD.heap]; exact hbl
    have HC1 : Hid (∀ k, k < m → w1.cell? ⟨b, off + (2 + k), none⟩ = some (.int .i64 (ys.getD k 0))) := fun k hk => (hD.cell _).trans (HC.out k hk)
    go_wp2_with fail
    go_region_held3 (fun W => W.cell? ⟨b, off, none⟩ = some (.int .i64 x0) ∧ W.cell? ⟨b, off + 1, none⟩ = some (.int .i64 x1)) (go_keep) (first | (go_at_call 80; refine (refNumber_any (40 * x0 + x1) f0 (by omega) _).mono ?_; rintro e w2 ⟨aP, cP, rfl, oP, B2⟩; have k0 := (B2.cell (p := ⟨b, off, none⟩) hbl1).trans d0; have k1 := (B2.cell (p := ⟨b, off + 1, none⟩) hbl1).trans d1))
    have hF5 : Hid ((numB (40 * x0 + x1)).length ≤ 5) := by unfold Hid; have h1 := numB_len (40 * x0 + x1); have h2 := (sizeS_in (40 * x0 + x1)).2; omega
    generalize numB (40 * x0 + x1) = F at *
    have B2' : Below w1.heap.size w1 w2 := (Drawn.more (Drawn.refl w1) 1).toBelow w1.heap.size |>.trans B2
    have oP : OwnB w2 w1.heap.size (.slice aP F.length cP) F := oP
    clear k0 k1 d0 d1
    go_wp2
    go_loopw [4, 5] (fun v i wr => ∃ (k M : Nat) (aO : Option Addr) (cO : Nat), k ≤ m ∧ i = .int .i64 (2 + (k : Int)) ∧ v = .slice aO M cO ∧ OwnB wr w1.heap.size (.slice aO M cO) (F ++ ((ys.take k).map numB).flatten) ∧ Below w1.heap.size w1 wr) (fun _ i _ => m + 2 - (intOf i).toNat)
    case atStart => exact ⟨0, _, aP, cP, Nat.zero_le _, rfl, rfl, by simpa using oP, B2'⟩
    case round =>
      obtain ⟨k, M, aO, cO, hk, rfl, rfl, hO, hB⟩ := hrel
      have hBs := hB.size
      by_cases hlt : k < m
      · have e1 := (hB.cell (p := ⟨b, off + (2 + k), none⟩) hbl1).trans (HC1.out k hlt)
        have hx : Hid (0 ≤ ys.getD k 0 ∧ ys.getD k 0 ≤ 2147483647) := by
          unfold Hid
          rw [List.getD, List.getElem?_eq_getElem (by rw [hl2.out]; exact hlt)]
          exact hall2.out _ (List.getElem_mem _)
        have hnx : Hid (F ++ ((ys.take (k + 1)).map numB).flatten = F ++ ((ys.take k).map numB).flatten ++ numB (ys.getD k 0)) := by unfold Hid; rw [flat_next ys k (by rw [hl2.out]; exact hlt), List.append_assoc]
        have hfl : Hid ((F ++ ((ys.take k).map numB).flatten).length ≤ 1000000) := by
          unfold Hid
          have h1 := flat_len (ys.take k)
          have h2 := hF5.out
          rw [List.length_append]
          simp at h1 ⊢
          omega
        generalize ys.getD k 0 = x at e1 hx hnx
        generalize F ++ ((ys.take k).map numB).flatten = G at hO hnx hfl
        have hnl : Hid ((numB x).length ≤ 5) := by unfold Hid; have h1 := numB_len x; have h2 := (sizeS_in x).2; omega
        have kI : (2 : Int) + (k : Int) < (m : Int) + 2 := by omega
        have k2 : (0 : Int) ≤ 2 + (k : Int) := by omega
        have k3 : ((2 : Int) + (k : Int)).toNat = 2 + k := by omega
        obtain ⟨aG, cG, hG⟩ := ownShape hO
        simp only [Value.slice.injEq] at hG
        obtain ⟨rfl, rfl, rfl⟩ := hG
        go_wp2_with (first | (go_at_call 80; refine (refNumber_any x hx.out.1 (by have := hx.out.2; omega) _).mono ?_; rintro e w3 ⟨aN, cN, rfl, oN, B3⟩; have hO3 := (hO.belowA B3); have sN := oN.toSrc (numB_byte x)) | (at_builtin; refine wpList_appB _ rfl (.tmp 24) (.tmp 29) rfl w1.heap.size _ G rfl hO3 aN _ cN (numB x) rfl sN (by have := hfl.out; have := hnl.out; omega) (by have := B3.size; omega) ?_; intro v' w4 ho4 hg4 _; obtain ⟨aV, cV, hV⟩ := ownShape ho4; subst hV; generalize (G ++ numB x).length = LN at ho4 ⊢))
        have B4 : Below w1.heap.size w1 w4 := (hB.trans (B3.mono hBs)).grown hg4 (by have := B3.size; omega) (by intro k hk; exact ((hO.lt k hk).1))
        go_roundw
        case rel => exact ⟨k + 1, _, aV, cV, by omega, by go_num, rfl, by rw [hnx.out]; exact ho4, B4⟩
        case measure => simp [intOf]; omega
      · have kI : ¬ (2 : Int) + (k : Int) < (m : Int) + 2 := by omega
        have hfin : Hid (F ++ ((ys.take k).map numB).flatten = encS xs) := by
          unfold Hid
          rw [hE.out, List.take_of_length_le (by rw [hl2.out]; omega)]
        rw [hfin.out] at hO
        have hM : Hid ((encS xs).length = M) := by
          unfold Hid
          rcases hO.split with ⟨h1, h2⟩ | ⟨g, c, h1, _⟩
          · simp at h1; rw [h2]; exact h1.2.1.symm
          · simp at h1; exact h1.2.1.symm
        go_wp2
        refine bodyPost_ret (v := .tuple #[.slice aO M cO, .int .i64 0]) (by simp [results, Tryz.results57, go_sem]) rfl ⟨aO, cO, by rw [hM.out], by rw [hM.out]; exact hO.rebase (by rw [hD.heap]; exact Nat.le_refl _), (hD.toBelow _).trans (hB.mono (by rw [hD.heap]; exact Nat.le_refl _))⟩

end Go.Proofs.YthnfhkmonfkceaaGreatDoor
