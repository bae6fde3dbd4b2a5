/-
  slip.Size, slip.takeSum, slip.find: how many bytes the slip has with which bytes begin.
-/
import Derived.Test.YtilkbjohekhjcaaDoorSlMov
import Derived.Test.YtilkbjohekhjcaaDoorSlCut
import Derived.Deep.RegionHeld3
namespace Go.Proofs.YtilkbjohekhjcaaDoor
open Go.RowKit Go.IntWalk

/-- How many bytes a slip of so many data has. -/
def sizeI (n : Int) : Int := if n < 0 ∨ 65535 < n then 0 else n + 7

theorem size_any (n : Int) (hn : -9223372036854775808 ≤ n ∧ n ≤ 9223372036854775807) (w : World) : Calls Tryd.prog 7 #[.int .i64 n] w fun e w' => e = .returned (.int .i64 (sizeI n)) ∧ w' = w := by
  unfold sizeI
  by_cases h1 : n < 0
  · rw [if_pos (Or.inl h1)]
    go_enter Tryd.func7, Tryd.ntmps7
    go_wp2
    go_ret
    exact ⟨rfl, rfl⟩
  · by_cases h2 : 65535 < n
    · rw [if_pos (Or.inr h2)]
      go_enter Tryd.func7, Tryd.ntmps7
      go_wp2
      go_ret
      exact ⟨rfl, rfl⟩
    · rw [if_neg (by omega)]
      have e1 : IntKind.i64.wrap (3 + n) = 3 + n := i64_in _ (by omega)
      have e2 : IntKind.i64.wrap (3 + n + 4) = n + 7 := by rw [i64_in _ (by omega)]; omega
      go_enter Tryd.func7, Tryd.ntmps7
      go_wp2
      go_ret
      exact ⟨by first | rfl | (congr 2; omega), rfl⟩

/-- Four bytes, the lowest first. -/
def le4 (xs : List Int) : Int := xs.getD 0 0 + xs.getD 1 0 * 256 + xs.getD 2 0 * 65536 + xs.getD 3 0 * 16777216
def le4b (s : Int) : List Int := [s % 256, s / 256 % 256, s / 65536 % 256, s / 16777216 % 256]

theorem or_add32 (a b : Nat) (k : Nat) (hb : b < 2 ^ k) (ha : a * 2 ^ k + b < 4294967296) : bits .or .u32 (b : Int) ((a * 2 ^ k : Nat) : Int) = ((a * 2 ^ k + b : Nat) : Int) := by
  rw [u32_or_nat _ _ (by omega) (by omega), Nat.or_comm, Nat.mul_comm, ← Nat.two_pow_add_eq_or_of_lt hb]

theorem le4_or (a b c d : Int) (ha : 0 ≤ a ∧ a < 256) (hb : 0 ≤ b ∧ b < 256) (hc : 0 ≤ c ∧ c < 256) (hd : 0 ≤ d ∧ d < 256) :
    bits .or .u32 (bits .or .u32 (bits .or .u32 a (b * 256)) (c * 65536)) (d * 16777216) = a + b * 256 + c * 65536 + d * 16777216 := by
  obtain ⟨A, rfl⟩ := Int.eq_ofNat_of_zero_le ha.1
  obtain ⟨B, rfl⟩ := Int.eq_ofNat_of_zero_le hb.1
  obtain ⟨C, rfl⟩ := Int.eq_ofNat_of_zero_le hc.1
  obtain ⟨D, rfl⟩ := Int.eq_ofNat_of_zero_le hd.1
  have e1 : bits .or .u32 (A : Int) ((B : Int) * 256) = ((B * 256 + A : Nat) : Int) := by
    rw [show ((B : Int) * 256) = ((B * 2 ^ 8 : Nat) : Int) by omega, or_add32 B A 8 (by omega) (by omega)]
  have e2 : bits .or .u32 ((B * 256 + A : Nat) : Int) ((C : Int) * 65536) = ((C * 65536 + (B * 256 + A) : Nat) : Int) := by
    rw [show ((C : Int) * 65536) = ((C * 2 ^ 16 : Nat) : Int) by omega, or_add32 C (B * 256 + A) 16 (by omega) (by omega)]
  have e3 : bits .or .u32 ((C * 65536 + (B * 256 + A) : Nat) : Int) ((D : Int) * 16777216) = ((D * 16777216 + (C * 65536 + (B * 256 + A)) : Nat) : Int) := by
    rw [show ((D : Int) * 16777216) = ((D * 2 ^ 24 : Nat) : Int) by omega, or_add32 D (C * 65536 + (B * 256 + A)) 24 (by omega) (by omega)]
  rw [e1, e2, e3]
  omega

theorem or_i64 (a b : Int) (ha : 0 ≤ a ∧ a < 256) (hb : 0 ≤ b ∧ b < 256) : bits .or .i64 a (b * 256) = a + b * 256 := by
  obtain ⟨A, rfl⟩ := Int.eq_ofNat_of_zero_le ha.1
  obtain ⟨B, rfl⟩ := Int.eq_ofNat_of_zero_le hb.1
  have e := Nat.two_pow_add_eq_or_of_lt (show A < 2 ^ 8 by omega) B
  have h1 : (BitVec.ofInt 64 (A : Int)).toNat = A := by rw [BitVec.toNat_ofInt]; omega
  have h2 : (BitVec.ofInt 64 ((B : Int) * 256)).toNat = 2 ^ 8 * B := by rw [BitVec.toNat_ofInt]; omega
  show IntKind.i64.wrap ((BitVec.ofInt 64 (A : Int) ||| BitVec.ofInt 64 ((B : Int) * 256)).toNat : Int) = _
  rw [BitVec.toNat_or, h1, h2, Nat.or_comm, ← e, i64_in _ (by omega)]
  omega

theorem src_byte {w : World} {ao : Option Addr} {n cap : Nat} {xs : List Int} (h : Src w ao n cap xs) (k : Nat) (hk : k < n) : ∃ b off, ao = some ⟨b, off, none⟩ ∧ w.cell? ⟨b, off + k, none⟩ = some (.int .u8 (xs.getD k 0)) := by
  have hl := h.hlen
  obtain ⟨b, off, he, hc⟩ := h.hrd (by intro h; subst h; simp at hl; omega)
  exact ⟨b, off, he, hc k (by omega)⟩
theorem byte_bd {xs : List Int} (h : ∀ x ∈ xs, 0 ≤ x ∧ x < 256) (k : Nat) : 0 ≤ xs.getD k 0 ∧ xs.getD k 0 < 256 := by
  rw [List.getD]
  cases e : xs[k]? with
  | none => simp
  | some x => exact h x (List.mem_of_getElem? e)

set_option maxRecDepth 100000 in
set_option maxHeartbeats 1000000 in
theorem takeSum_any (ao : Option Addr) (n cap : Nat) (xs : List Int) (w : World) (hs : Src w ao n cap xs) (hn : 4 ≤ n) :
    Calls Tryd.prog 19 #[.slice ao n cap] w fun e w' => e = .returned (.int .u32 (le4 xs)) ∧ Drawn w w' := by
  obtain ⟨b, off, rfl, h0⟩ := src_byte hs 0 (by omega)
  obtain ⟨_, _, he1, h1⟩ := src_byte hs 1 (by omega)
  obtain ⟨_, _, he2, h2⟩ := src_byte hs 2 (by omega)
  obtain ⟨_, _, he3, h3⟩ := src_byte hs 3 (by omega)
  cases he1
  cases he2
  cases he3
  have hor := le4_or _ _ _ _ (byte_bd hs.hbyt 0) (byte_bd hs.hbyt 1) (byte_bd hs.hbyt 2) (byte_bd hs.hbyt 3)
  have b0 := byte_bd hs.hbyt 0
  have b1 := byte_bd hs.hbyt 1
  have b2 := byte_bd hs.hbyt 2
  have b3 := byte_bd hs.hbyt 3
  unfold le4
  generalize xs.getD 0 0 = x0 at *
  generalize xs.getD 1 0 = x1 at *
  generalize xs.getD 2 0 = x2 at *
  generalize xs.getD 3 0 = x3 at *
  simp only [Nat.add_zero] at h0
  have hz0 : (0 : Int) < (n : Int) := by omega
  have hz1 : (1 : Int) < (n : Int) := by omega
  have hz2 : (2 : Int) < (n : Int) := by omega
  have hz3 : (3 : Int) < (n : Int) := by omega
  clear hs
  go_enter Tryd.func19, Tryd.ntmps19
  go_wp2
  go_quiet (fail)
  go_wp2
  go_ret
  exact ⟨rfl, (Drawn.refl _).more _⟩

/-- What slip.find tells of bytes: how many, and the error. -/
def dataN (xs : List Int) : Int := xs.getD 1 0 + xs.getD 2 0 * 256
def findS (xs : List Int) : Int × Int :=
  if xs.length < 3 then (0, 90) else if (xs.length : Int) < dataN xs + 7 then (0, 90)
  else if sumS (xs.take ((dataN xs).toNat + 3)) ≠ le4 (xs.drop ((dataN xs).toNat + 3)) then (0, 91) else (dataN xs + 7, 0)

theorem dataN_bd {xs : List Int} (h : ∀ x ∈ xs, 0 ≤ x ∧ x < 256) : 0 ≤ dataN xs ∧ dataN xs ≤ 65535 := by
  have h1 := byte_bd h 1
  have h2 := byte_bd h 2
  unfold dataN
  omega

theorem sum_one (ao : Option Addr) (n cap g : Nat) (xs : List Int) (w : World) (hT : Tab w) (hs : Src w ao n cap xs) (hg : w.cell? ⟨g, 0, none⟩ = some (.slice ao n cap)) :
    Calls Tryd.prog 10 #[.slice (some ⟨g, 0, none⟩) 1 1] w fun e w' => e = .returned (.int .u32 (sumS xs)) ∧ w' = w := by
  have := sum_any [⟨ao, n, cap, xs⟩] (some ⟨g, 0, none⟩) 1 1 w hT rfl (by decide) (by
    intro i p hp
    match i, hp with
    | 0, hp => simp at hp; subst hp; exact ⟨g, 0, rfl, by simpa [Pc.val] using hg⟩
    | i + 1, hp => simp at hp) (by intro p hp; simp at hp; subst hp; exact hs)
  simpa [allOf] using this

theorem sum_two (a1 : Option Addr) (n1 c1 : Nat) (xs : List Int) (a2 : Option Addr) (n2 c2 g : Nat) (ys : List Int) (w : World) (hT : Tab w) (hs : Src w a1 n1 c1 xs) (hs2 : Src w a2 n2 c2 ys) (hg : w.cell? ⟨g, 0, none⟩ = some (.slice a1 n1 c1)) (hg2 : w.cell? ⟨g, 1, none⟩ = some (.slice a2 n2 c2)) :
    Calls Tryd.prog 10 #[.slice (some ⟨g, 0, none⟩) 2 2] w fun e w' => e = .returned (.int .u32 (sumS (xs ++ ys))) ∧ w' = w := by
  have := sum_any [⟨a1, n1, c1, xs⟩, ⟨a2, n2, c2, ys⟩] (some ⟨g, 0, none⟩) 2 2 w hT rfl (by decide) (by
    intro i p hp
    match i, hp with
    | 0, hp => simp at hp; subst hp; exact ⟨g, 0, rfl, by simpa [Pc.val] using hg⟩
    | 1, hp => simp at hp; subst hp; exact ⟨g, 0, rfl, by simpa [Pc.val] using hg2⟩
    | i + 2, hp => simp at hp) (by intro p hp; simp at hp; rcases hp with rfl | rfl; exact hs; exact hs2)
  simpa [allOf] using this

theorem sum_none (w : World) (hT : Tab w) :
    Calls Tryd.prog 10 #[.slice none 0 0] w fun e w' => e = .returned (.int .u32 (sumS [])) ∧ w' = w := by
  have := sum_any [] none 0 0 w hT rfl (by decide) (by intro i p hp; simp at hp) (by intro p hp; simp at hp)
  simpa [allOf] using this

set_option maxRecDepth 100000 in
set_option maxHeartbeats 4000000 in
theorem find_any (ao : Option Addr) (n cap : Nat) (xs : List Int) (w : World) (hT : Tab w) (hs : Src w ao n cap xs) :
    Calls Tryd.prog 13 #[.slice ao n cap] w fun e w' => e = .returned (.tuple #[.int .i64 (findS xs).1, .int .i64 (findS xs).2]) ∧ Below w.heap.size w w' := by
  have HS := hide hs
  have HT := hide hT
  have hlen : xs.length = n := hs.hlen
  have hd := dataN_bd hs.hbyt
  have hcap : (n : Int) ≤ 9223372036854775807 := by have h1 := hs.hcap; have h2 := hs.hmax; unfold maxLen at h2; omega
  by_cases h3 : n < 3
  · have hf : findS xs = (0, 90) := by unfold findS; rw [if_pos (by omega)]
    rw [hf]
    have h3I : (n : Int) < 3 := by omega
    clear hs hT hd
    go_enter Tryd.func13, Tryd.ntmps13
    go_wp2
    go_ret2
    exact ⟨rfl, Below.refl _ _⟩
  · obtain ⟨b, off, rfl, h1⟩ := src_byte hs 1 (by omega)
    obtain ⟨_, _, he2, h2⟩ := src_byte hs 2 (by omega)
    cases he2
    have hor := or_i64 _ _ (byte_bd hs.hbyt 1) (byte_bd hs.hbyt 2)
    have b1 := byte_bd hs.hbyt 1
    have b2 := byte_bd hs.hbyt 2
    have hdn : xs.getD 1 0 + xs.getD 2 0 * 256 = dataN xs := rfl
    rw [hdn] at hor
    have h3I : ¬ (n : Int) < 3 := by omega
    have hz1 : (1 : Int) < (n : Int) := by omega
    have hz2 : (2 : Int) < (n : Int) := by omega
    obtain ⟨D, hD⟩ : ∃ D : Nat, dataN xs = (D : Int) := ⟨_, (Int.toNat_of_nonneg hd.1).symm⟩
    have hsz : sizeI (D : Int) = (D : Int) + 7 := by unfold sizeI; rw [if_neg (by omega)]
    rw [hD] at hor hd
    have HZ : Hid (∀ W : World, Calls Tryd.prog 7 #[.int .i64 (D : Int)] W fun e w' => e = .returned (.int .i64 ((D : Int) + 7)) ∧ w' = W) := fun W => by have := size_any (D : Int) (by omega) W; rw [hsz] at this; exact this
    clear hsz
    generalize xs.getD 1 0 = x1 at *
    generalize xs.getD 2 0 = x2 at *
    by_cases h4 : n < D + 7
    · have hf : findS xs = (0, 90) := by unfold findS; rw [if_neg (by omega), if_pos (by omega)]
      rw [hf]
      have h4I : (n : Int) < (D : Int) + 7 := by omega
      clear hs hT hdn hD
      go_enter Tryd.func13, Tryd.ntmps13
      go_wp2
      go_quiet ((go_at_call 7; exact Calls.quiet_of_same (HZ.out _)))
      go_wp2
      go_ret2
      exact ⟨rfl, ((Drawn.refl _).more _).below (Below.refl _ _)⟩
    · have h4I : ¬ (n : Int) < (D : Int) + 7 := by omega
      have sH := hs.head (D + 3) (by omega)
      have sT := hs.tail (D + 3) (by omega)
      have hcp := hs.hcap
      have eH : ∀ W : World, (Instr.slice 24 (.slice (some ⟨b, off, none⟩) n cap) none (some (.int .i64 ((D : Int) + 3))) none).run Tryd.prog W = .ok (.slice (some ⟨b, off, none⟩) (D + 3) cap) W := fun W => by rw [slice_hi W _ n cap _ (D + 3) (by omega) (by omega), cutA_zero]
      have eT : ∀ W : World, (Instr.slice 24 (.slice (some ⟨b, off, none⟩) n cap) (some (.int .i64 ((D : Int) + 3))) none none).run Tryd.prog W = .ok (.slice (cutA (some ⟨b, off, none⟩) cap (D + 3)) (n - (D + 3)) (cap - (D + 3))) W := fun W => slice_lo W _ n cap _ (D + 3) (by omega) (by omega)
      have hw4 : IntKind.i64.wrap ((D : Int) + 7 - 4) = (D : Int) + 3 := by rw [i64_in _ (by omega)]; omega
      have hf : findS xs = if sumS (xs.take (D + 3)) ≠ le4 (xs.drop (D + 3)) then (0, 91) else ((D : Int) + 7, 0) := by
        unfold findS; rw [if_neg (by omega), if_neg (by omega), hD]; simp
      rw [hf]
      obtain ⟨s1, hs1⟩ : ∃ s1, sumS (xs.take (D + 3)) = s1 := ⟨_, rfl⟩
      obtain ⟨s2, hs2⟩ : ∃ s2, le4 (xs.drop (D + 3)) = s2 := ⟨_, rfl⟩
      generalize cutA (some ⟨b, off, none⟩) cap (D + 3) = aT at eT sT
      have HSH := hide sH
      have HST := hide sT
      have HS1 := hide hs1
      have HS2 := hide hs2
      rw [hs1, hs2]
      clear hs hT hdn hD hf sH sT hs1 hs2 hlen
      by_cases hq : s1 = s2
      · rw [if_neg (by simpa using hq)]
        go_enter Tryd.func13, Tryd.ntmps13
        go_wp2
        go_quiet ((go_at_call 7; exact Calls.quiet_of_same (HZ.out _)))
        obtain ⟨W2, hW2⟩ : ∃ W, W = w.drewN nq := ⟨_, rfl⟩
        have HD2 : Hid (Drawn w W2) := by subst hW2; exact (Drawn.refl _).more _
        rw [← hW2]
        clear hW2
        go_wp2_with fail
        go_region_with (first | (go_at_call 10; refine (sum_one (some ⟨b, off, none⟩) (D + 3) cap _ (xs.take (D + 3)) _ ?_ ?_ ?_).mono ?_; exact ((HT.out.heap HD2.out.heap).alloc _).heap rfl; exact ((HSH.out.heap HD2.out.heap).alloc _).heap rfl; simp; rintro e w1 ⟨rfl, rfl⟩; rw [HS1.out]) | (go_at_call 19; refine (takeSum_any _ _ _ (xs.drop (D + 3)) _ ?_ (by omega)).mono ?_; exact ((HST.out.heap HD2.out.heap).alloc _).heap rfl; rintro e w1 ⟨rfl, hd1⟩; rw [HS2.out]; have hFin := hd1.below (Below.drew (HD2.out.below (Below.refl _ _) |>.alloc (by rw [HD2.out.heap]; exact Nat.le_refl _) _))))
        all_goals (go_wp2; go_ret2; exact ⟨rfl, hFin⟩)
      · rw [if_pos (by simpa using hq)]
        go_enter Tryd.func13, Tryd.ntmps13
        go_wp2
        go_quiet ((go_at_call 7; exact Calls.quiet_of_same (HZ.out _)))
        obtain ⟨W2, hW2⟩ : ∃ W, W = w.drewN nq := ⟨_, rfl⟩
        have HD2 : Hid (Drawn w W2) := by subst hW2; exact (Drawn.refl _).more _
        rw [← hW2]
        clear hW2
        go_wp2_with fail
        go_region_with (first | (go_at_call 10; refine (sum_one (some ⟨b, off, none⟩) (D + 3) cap _ (xs.take (D + 3)) _ ?_ ?_ ?_).mono ?_; exact ((HT.out.heap HD2.out.heap).alloc _).heap rfl; exact ((HSH.out.heap HD2.out.heap).alloc _).heap rfl; simp; rintro e w1 ⟨rfl, rfl⟩; rw [HS1.out]) | (go_at_call 19; refine (takeSum_any _ _ _ (xs.drop (D + 3)) _ ?_ (by omega)).mono ?_; exact ((HST.out.heap HD2.out.heap).alloc _).heap rfl; rintro e w1 ⟨rfl, hd1⟩; rw [HS2.out]; have hFin := hd1.below (Below.drew (HD2.out.below (Below.refl _ _) |>.alloc (by rw [HD2.out.heap]; exact Nat.le_refl _) _))))
        all_goals (go_wp2; go_ret2; exact ⟨rfl, hFin⟩)

end Go.Proofs.YtilkbjohekhjcaaDoor
