/-
  A number's bytes (numB), as oid.put lays them behind others, and as the document's Number says.
-/
import Derived.Test.YtklchpdpooikdaaGreatDoorXOSizeToRangeP
import Derived.Test.YtklchpdpooikdaaGreatDoorXItsToNextS
namespace Go.Proofs.YtklchpdpooikdaaGreatDoor
open Go.RowKit Go.IntWalk

/-- The digits to the base 128 above the lowest, k of them, the highest first, each with 128 more. -/
def hiB (n : Int) : Nat → List Int
  | 0 => []
  | k + 1 => (n / ((128 ^ (k + 1) : Nat) : Int) % 128 + 128) :: hiB n k

/-- A number's bytes. -/
def numB (n : Int) : List Int := hiB n (sizeS n - 1).toNat ++ [n % 128]

theorem hiB_len (n : Int) : ∀ k : Nat, (hiB n k).length = k
  | 0 => rfl
  | k + 1 => by rw [hiB, List.length_cons, hiB_len n k]

theorem hiB_byte (n : Int) : ∀ k : Nat, ∀ x ∈ hiB n k, 0 ≤ x ∧ x < 256
  | 0 => by simp [hiB]
  | k + 1 => by
    intro x hx
    rw [hiB] at hx
    rcases List.mem_cons.1 hx with rfl | hx
    · omega
    · exact hiB_byte n k x hx

theorem numB_byte (n : Int) : ∀ x ∈ numB n, 0 ≤ x ∧ x < 256 := by
  intro x hx
  unfold numB at hx
  rcases List.mem_append.1 hx with hx | hx
  · exact hiB_byte n _ x hx
  · simp at hx; omega

theorem sizeS_in (n : Int) : 1 ≤ sizeS n ∧ sizeS n ≤ 5 := by unfold sizeS; (repeat' split) <;> omega

theorem numB_len (n : Int) : ((numB n).length : Int) = sizeS n := by
  have := sizeS_in n
  unfold numB
  rw [List.length_append, hiB_len]
  simp
  omega

theorem or128 (x : Int) : bits .or .u8 (x % 256) 128 = x % 128 + 128 := by
  obtain ⟨A, hA⟩ := Int.eq_ofNat_of_zero_le (show 0 ≤ x % 256 by omega)
  have key : ∀ a : Nat, a < 256 → (bits .or .u8 (a : Int) 128) = (a : Int) % 128 + 128 := by decide +kernel
  rw [hA, key A (by omega)]
  omega

/-- What has been laid when the digits above number k stand. -/
theorem hiB_take (n : Int) (k j : Nat) (h : j < k) : (hiB n k).take (j + 1) = (hiB n k).take j ++ [n / ((128 ^ (k - j) : Nat) : Int) % 128 + 128] := by
  induction k generalizing j with
  | zero => omega
  | succ k ih =>
    rw [hiB]
    cases j with
    | zero => simp
    | succ j =>
      rw [List.take_succ_cons, List.take_succ_cons, ih j (by omega), show k + 1 - (j + 1) = k - j by omega]
      rfl

theorem ownShape {w : World} {base : Nat} {v : Value} {xs : List Int} (h : OwnB w base v xs) : ∃ ao c, v = .slice ao xs.length c := by
  rcases h.split with ⟨rfl, rfl⟩ | ⟨g, c, rfl, _⟩
  · exact ⟨none, 0, rfl⟩
  · exact ⟨_, c, rfl⟩

set_option maxRecDepth 100000 in
set_option maxHeartbeats 1000000 in
theorem oput_any (ao : Option Addr) (m c : Nat) (bs : List Int) (n : Int) (base : Nat) (w : World) (hO : OwnB w base (.slice ao m c) bs) (hbs : base ≤ w.heap.size) (h0 : 0 ≤ n) (h1 : n < 4294967296) (hm : bs.length ≤ 1048576) :
    Calls Tryz.prog 184 #[.slice ao m c, .int .i64 n] w fun e w' => ∃ ao' c', e = .returned (.slice ao' (bs ++ numB n).length c') ∧ OwnB w' base (.slice ao' (bs ++ numB n).length c') (bs ++ numB n) ∧ Below base w w' := by
  obtain ⟨z1, z5⟩ := sizeS_in n
  obtain ⟨K, hK⟩ : ∃ K : Nat, (sizeS n - 1).toNat = K := ⟨_, rfl⟩
  have hKI : sizeS n = (K : Int) + 1 := by omega
  have hnb : Hid (numB n = hiB n K ++ [n % 128]) := by unfold Hid numB; rw [hK]
  have HK := hide hKI
  have hK4 : K ≤ 4 := by omega
  clear hK hKI z1 z5
  go_enter Tryz.func184, Tryz.ntmps184
  go_wp2_with (go_at_call 170; refine (osize_any n h0 h1 _).mono ?_; rintro e w1 ⟨rfl, hw⟩; have hw2 := hw.symm; subst hw2; rw [HK.out])
  go_loopw [0, 5] (fun v i wr => ∃ (j : Nat) (I : Int), i = .int .i64 I ∧ j ≤ K ∧ I + (j : Int) = (K : Int) ∧ OwnB wr base v (bs ++ (hiB n K).take j) ∧ Below base w wr) (fun _ i _ => (intOf i).toNat)
  case atStart => exact ⟨0, _, rfl, by omega, by go_num, by simpa using hO, Below.refl _ _⟩
  case round =>
    obtain ⟨j, I, rfl, hjk, hI, hoy, hB⟩ := hrel
    rcases (show I = 0 ∨ I = 1 ∨ I = 2 ∨ I = 3 ∨ I = 4 by omega) with rfl | rfl | rfl | rfl | rfl
    · have hjk' : j = K := by omega
      rw [hjk', List.take_of_length_le (by rw [hiB_len]; exact Nat.le_refl _)] at hoy
      have hr : Int.tmod n 128 = n % 128 := Int.tmod_eq_emod_of_nonneg h0
      have hr2 : n % 128 % 256 = n % 128 := by omega
      have hlen : Hid ((bs ++ hiB n K).length = bs.length + K) := by unfold Hid; rw [List.length_append, hiB_len]
      have hfin : Hid (bs ++ numB n = (bs ++ hiB n K) ++ [n % 128]) := by unfold Hid; rw [hnb.out, List.append_assoc]
      clear hjk' hI hjk
      go_wp2_with (at_builtin; refine wpList_appN _ rfl (.tmp 22) (.tmp 26) rfl base u0 (bs ++ hiB n K) rfl (hoy.alloc _) (some ⟨wr.heap.size, 0, none⟩) 1 1 [n % 128] rfl (Src.lit [n % 128] _ 1 (by simp <;> omega) rfl (by simp <;> omega) (by decide)) (bs.length + K + 1) (by rw [List.length_append, hlen.out]; simp) (.inr (by simp)) (by omega) (by have := hB.size; simp <;> omega) ?_; intro g1 c1 w2 ho2 hb2 hl2 hc2 hm2 hg2)
      have hB2 : Below base w w2 := (hB.alloc (Nat.le_trans hbs hB.size) _).grown hg2 (by have := hB.size; simp; omega) (by intro k hk; exact ((hoy.lt k hk).1))
      go_ret
      have hl2' : (bs ++ numB n).length = bs.length + K + 1 := by rw [hfin.out, List.length_append, hlen.out]; simp
      exact ⟨some ⟨g1, 0, none⟩, c1, by rw [hl2']; rfl, by rw [hl2', hfin.out]; exact ho2, hB2⟩
    · have hkj : K - j = 1 := by omega
      have hlt : j < K := by omega
      have ht := hide (hiB_take n K j hlt)
      rw [hkj] at ht
      have hv : Hid (n / ((128 ^ 1 : Nat) : Int) % 128 + 128 = n / 128 % 128 + 128) := by unfold Hid; simp
      rw [hv.out] at ht
      have ho := or128 (n / 128)
      have hq0 : 0 ≤ n / 128 := by omega
      have hq1 : n / 128 < 4294967296 := by omega
      have HI := hide hI
      clear hI hkj
      go_wp2_with (at_builtin; refine wpList_appN _ rfl (.tmp 13) (.tmp 20) rfl base u0 (bs ++ (hiB n K).take j) rfl (hoy.alloc _) (some ⟨wr.heap.size, 0, none⟩) 1 1 [n / 128 % 128 + 128] rfl (Src.lit [n / 128 % 128 + 128] _ 1 (by simp) rfl (by simp <;> omega) (by decide)) (bs.length + j + 1) (by rw [List.length_append, List.length_append, List.length_take, hiB_len]; simp <;> omega) (.inr (by simp)) (by omega) (by have := hB.size; simp <;> omega) ?_; intro g1 c1 w2 ho2 hb2 hl2 hc2 hm2 hg2)
      have hB2 : Below base w w2 := (hB.alloc (Nat.le_trans hbs hB.size) _).grown hg2 (by have := hB.size; simp; omega) (by intro k hk; exact ((hoy.lt k hk).1))
      go_roundw
      case rel => exact ⟨j + 1, _, rfl, by omega, by have := HI.out; omega, by rw [ht.out, ← List.append_assoc]; exact ho2, hB2⟩
      case measure => simp [intOf]
    · have hkj : K - j = 2 := by omega
      have hlt : j < K := by omega
      have ht := hide (hiB_take n K j hlt)
      rw [hkj] at ht
      have hv : Hid (n / ((128 ^ 2 : Nat) : Int) % 128 + 128 = n / 16384 % 128 + 128) := by unfold Hid; simp
      rw [hv.out] at ht
      have ho := or128 (n / 16384)
      have hq0 : 0 ≤ n / 16384 := by omega
      have hq1 : n / 16384 < 4294967296 := by omega
      have HI := hide hI
      clear hI hkj
      go_wp2_with (at_builtin; refine wpList_appN _ rfl (.tmp 13) (.tmp 20) rfl base u0 (bs ++ (hiB n K).take j) rfl (hoy.alloc _) (some ⟨wr.heap.size, 0, none⟩) 1 1 [n / 16384 % 128 + 128] rfl (Src.lit [n / 16384 % 128 + 128] _ 1 (by simp) rfl (by simp <;> omega) (by decide)) (bs.length + j + 1) (by rw [List.length_append, List.length_append, List.length_take, hiB_len]; simp <;> omega) (.inr (by simp)) (by omega) (by have := hB.size; simp <;> omega) ?_; intro g1 c1 w2 ho2 hb2 hl2 hc2 hm2 hg2)
      have hB2 : Below base w w2 := (hB.alloc (Nat.le_trans hbs hB.size) _).grown hg2 (by have := hB.size; simp; omega) (by intro k hk; exact ((hoy.lt k hk).1))
      go_roundw
      case rel => exact ⟨j + 1, _, rfl, by omega, by have := HI.out; omega, by rw [ht.out, ← List.append_assoc]; exact ho2, hB2⟩
      case measure => simp [intOf]
    · have hkj : K - j = 3 := by omega
      have hlt : j < K := by omega
      have ht := hide (hiB_take n K j hlt)
      rw [hkj] at ht
      have hv : Hid (n / ((128 ^ 3 : Nat) : Int) % 128 + 128 = n / 2097152 % 128 + 128) := by unfold Hid; simp
      rw [hv.out] at ht
      have ho := or128 (n / 2097152)
      have hq0 : 0 ≤ n / 2097152 := by omega
      have hq1 : n / 2097152 < 4294967296 := by omega
      have HI := hide hI
      clear hI hkj
      go_wp2_with (at_builtin; refine wpList_appN _ rfl (.tmp 13) (.tmp 20) rfl base u0 (bs ++ (hiB n K).take j) rfl (hoy.alloc _) (some ⟨wr.heap.size, 0, none⟩) 1 1 [n / 2097152 % 128 + 128] rfl (Src.lit [n / 2097152 % 128 + 128] _ 1 (by simp) rfl (by simp <;> omega) (by decide)) (bs.length + j + 1) (by rw [List.length_append, List.length_append, List.length_take, hiB_len]; simp <;> omega) (.inr (by simp)) (by omega) (by have := hB.size; simp <;> omega) ?_; intro g1 c1 w2 ho2 hb2 hl2 hc2 hm2 hg2)
      have hB2 : Below base w w2 := (hB.alloc (Nat.le_trans hbs hB.size) _).grown hg2 (by have := hB.size; simp; omega) (by intro k hk; exact ((hoy.lt k hk).1))
      go_roundw
      case rel => exact ⟨j + 1, _, rfl, by omega, by have := HI.out; omega, by rw [ht.out, ← List.append_assoc]; exact ho2, hB2⟩
      case measure => simp [intOf]
    · have ho4 : bits .or .u8 (n / 268435456) 128 = n / 268435456 % 128 + 128 := by
        have := or128 (n / 268435456)
        rwa [show n / 268435456 % 256 = n / 268435456 by omega] at this
      have hkj : K - j = 4 := by omega
      have hlt : j < K := by omega
      have ht := hide (hiB_take n K j hlt)
      rw [hkj] at ht
      have hv : Hid (n / ((128 ^ 4 : Nat) : Int) % 128 + 128 = n / 268435456 % 128 + 128) := by unfold Hid; simp
      rw [hv.out] at ht
      have ho := or128 (n / 268435456)
      have hq0 : 0 ≤ n / 268435456 := by omega
      have hq1 : n / 268435456 < 4294967296 := by omega
      have HI := hide hI
      clear hI hkj
      go_wp2_with (at_builtin; refine wpList_appN _ rfl (.tmp 13) (.tmp 20) rfl base u0 (bs ++ (hiB n K).take j) rfl (hoy.alloc _) (some ⟨wr.heap.size, 0, none⟩) 1 1 [n / 268435456 % 128 + 128] rfl (Src.lit [n / 268435456 % 128 + 128] _ 1 (by simp) rfl (by simp <;> omega) (by decide)) (bs.length + j + 1) (by rw [List.length_append, List.length_append, List.length_take, hiB_len]; simp <;> omega) (.inr (by simp)) (by omega) (by have := hB.size; simp <;> omega) ?_; intro g1 c1 w2 ho2 hb2 hl2 hc2 hm2 hg2)
      have hB2 : Below base w w2 := (hB.alloc (Nat.le_trans hbs hB.size) _).grown hg2 (by have := hB.size; simp; omega) (by intro k hk; exact ((hoy.lt k hk).1))
      go_roundw
      case rel => exact ⟨j + 1, _, rfl, by omega, by have := HI.out; omega, by rw [ht.out, ← List.append_assoc]; exact ho2, hB2⟩
      case measure => simp [intOf]

/-- No fewer than j + 1 digits. -/
theorem size_of (n : Int) (h0 : 0 ≤ n) (h1 : n < 4294967296) (j : Nat) (hj : j ≤ 4) (hz : n / ((128 ^ (j + 1) : Nat) : Int) = 0) (hp : j = 0 ∨ 0 < n / ((128 ^ j : Nat) : Int)) : (sizeS n - 1).toNat = j := by
  rcases (show j = 0 ∨ j = 1 ∨ j = 2 ∨ j = 3 ∨ j = 4 by omega) with rfl | rfl | rfl | rfl | rfl <;> simp at hz hp <;> unfold sizeS <;> (repeat' split) <;> omega

theorem pow_four (n : Int) (h0 : 0 ≤ n) (h1 : n < 4294967296) (i : Nat) (h : 0 < n / ((128 ^ i : Nat) : Int)) : i ≤ 4 := by
  rcases Nat.lt_or_ge 4 i with h4 | h4
  · exfalso
    have hp : (34359738368 : Nat) ≤ 128 ^ i := by
      have := Nat.pow_le_pow_right (show 0 < 128 by omega) (show 5 ≤ i by omega)
      simpa using this
    have : n / ((128 ^ i : Nat) : Int) = 0 := Int.ediv_eq_zero_of_lt h0 (by omega)
    omega
  · exact h4

set_option maxRecDepth 100000 in
set_option maxHeartbeats 1000000 in
theorem refNumber_any (n : Int) (h0 : 0 ≤ n) (h1 : n < 4294967296) (w : World) :
    Calls Tryz.prog 130 #[.int .i64 n] w fun e w' => ∃ ao' c', e = .returned (.slice ao' (numB n).length c') ∧ OwnB w' w.heap.size (.slice ao' (numB n).length c') (numB n) ∧ Below w.heap.size w w' := by
  have hr : Int.tmod n 128 = n % 128 := Int.tmod_eq_emod_of_nonneg h0
  have hr2 : n % 128 % 256 = n % 128 := by omega
  have hd : Int.tdiv n 128 = n / 128 := Int.tdiv_eq_ediv_of_nonneg h0
  go_enter Tryz.func130, Tryz.ntmps130
  go_wp2
  go_loopw [0, 3] (fun s v wr => ∃ (j : Nat) (N : Int) (aO : Option Addr) (cO : Nat), s = .int .i64 N ∧ v = .slice aO (j + 1) cO ∧ Hid (N = n / ((128 ^ (j + 1) : Nat) : Int)) ∧ 0 ≤ N ∧ N < 4294967296 ∧ j ≤ 4 ∧ (j = 0 ∨ 0 < n / ((128 ^ j : Nat) : Int)) ∧ OwnB wr w.heap.size v (hiB n j ++ [n % 128]) ∧ Below w.heap.size w wr) (fun s _ _ => (intOf s).toNat)
  case atStart => exact ⟨0, _, _, _, rfl, rfl, by unfold Hid; simp, by omega, by omega, by omega, .inl rfl, OwnB.lit w.heap.size [n % 128] _ 1 (by simp <;> omega) rfl (Nat.le_refl _) (by decide), (Below.refl _ _).alloc (Nat.le_refl _) _⟩
  case round =>
    obtain ⟨j, N, aO, cO, rfl, rfl, hN, hN0, hN1, hj, hp, hoy, hB⟩ := hrel
    have hlen := hide (hiB_len n j)
    by_cases hz : N = 0
    · have hs := hide (size_of n h0 h1 j hj (by rw [← hN.out]; exact hz) hp)
      have hfin : Hid (numB n = hiB n j ++ [n % 128]) := by unfold Hid numB; rw [hs.out]
      have hll : Hid ((numB n).length = j + 1) := by unfold Hid; rw [hfin.out, List.length_append, hlen.out]; rfl
      subst hz
      clear hp hN
      go_wp2
      go_ret
      exact ⟨aO, cO, by rw [hll.out]; rfl, by rw [hll.out, hfin.out]; exact hoy, hB⟩
    · have hpos : 0 < N := by omega
      have hnb : Hid (∀ x ∈ hiB n j ++ [n % 128], 0 ≤ x ∧ x < 256) := by
        intro x hx
        rcases List.mem_append.1 hx with hx | hx
        · exact hiB_byte n j x hx
        · simp at hx; omega
      have sO := hide (hoy.toSrc hnb.out)
      have hst : Hid (hiB n (j + 1) = (N % 128 + 128) :: hiB n j) := by unfold Hid; rw [hiB, hN.out]
      have hnx : Hid (N / 128 = n / ((128 ^ (j + 1 + 1) : Nat) : Int)) := by
        unfold Hid
        rw [hN.out, Int.ediv_ediv_of_nonneg (Int.natCast_nonneg _), Nat.pow_succ 128 (j + 1)]
        simp
      have hj4 := pow_four n h0 h1 (j + 1) (by rw [← hN.out]; exact hpos)
      have hpp : Hid (0 < n / ((128 ^ (j + 1) : Nat) : Int)) := by unfold Hid; rw [← hN.out]; exact hpos
      have q1 : Int.tmod N 128 = N % 128 := Int.tmod_eq_emod_of_nonneg hN0
      have q2 : Int.tdiv N 128 = N / 128 := Int.tdiv_eq_ediv_of_nonneg hN0
      have q3 : (128 + N % 128) % 256 = 128 + N % 128 := by omega
      have q4 : 0 ≤ N % 128 := by omega
      have q5 : N % 128 < 128 := by omega
      have hBs := hB.size
      clear hN hp hz
      go_wp2_with (at_builtin; refine wpList_appN _ rfl (.tmp 16) (.tmp 17) rfl w.heap.size (.slice (some ⟨wr.heap.size, 0, none⟩) 1 1) [128 + N % 128] rfl (OwnB.lit _ [128 + N % 128] _ 1 (by simp <;> omega) rfl hBs (by decide)) aO (j + 1) cO (hiB n j ++ [n % 128]) rfl (sO.out.alloc _) (j + 2) (by rw [List.length_append, List.length_append, hlen.out]; simp <;> omega) (.inl (by simp)) (by omega) (by simp; omega) ?_; intro g1 c1 w2 ho2 hb2 hl2 hc2 hm2 hg2)
      have hB2 : Below w.heap.size w w2 := (hB.alloc hBs _).grown hg2 (by simp; omega) (by intro k hk; cases hk; exact hBs)
      go_roundw
      case rel =>
        refine ⟨j + 1, N / 128, _, _, rfl, rfl, hnx.out, by omega, by omega, hj4, .inr hpp.out, ?_, hB2⟩
        rw [hst.out, show N % 128 + 128 = 128 + N % 128 by omega]
        exact ho2
      case measure => simp [intOf]; omega

end Go.Proofs.YtklchpdpooikdaaGreatDoor
