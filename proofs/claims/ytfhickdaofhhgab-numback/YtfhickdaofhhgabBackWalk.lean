/-
  NumBack answers true at any integer, any bytes and any set, and writes nothing that was there.
-/
import Derived.Test.YtfhickdaofhhgabNumN
namespace Go.Proofs.Ytfhickdaofhhgab
open Go.RowKit Go.IntWalk

theorem bytesOf_toNat (xs : List Int) (hb : ∀ x ∈ xs, 0 ≤ x ∧ x < 256) : ∀ x ∈ bareS xs, 0 ≤ x ∧ x < 256 := fun x hx => hb x (bareS_mem xs x hx)

set_option maxRecDepth 100000 in
set_option maxHeartbeats 2000000 in
theorem back_walk (N : Int) (hN0 : -9223372036854775808 ≤ N) (hN1 : N < 9223372036854775808) (ao : Option Addr) (n cap : Nat) (xs : List Int) (s : Int) (hs0 : 0 ≤ s) (hs1 : s < 65536) (w : World) (hs : Src w ao n cap xs) (hn : n ≤ 140737488351232) :
    Calls Try.prog 6 #[.int .i64 N, .slice ao n cap, .int .u16 s] w fun e w' => e = .returned (.bool true) ∧ Below w.heap.size w w' := by
  have hby := hide hs.hbyt
  have hl := hide hs.hlen
  have HI : Hid (∀ W a m c, Src W a m c (intS N) → Calls Try.prog 19 #[.slice a m c] W fun e w' => e = .returned (.tuple #[.int .i64 N, .int .i64 0]) ∧ Drawn W w') := by
    intro W a m c h
    have := toInt_any a m c (intS N) W h
    rw [(int_back N hN0 hN1).1, (int_back N hN0 hN1).2] at this
    exact this
  have hbl := bareS_len xs
  rw [hl.out] at hbl
  obtain ⟨K, hK⟩ : ∃ K, (bareS xs).length = K := ⟨_, rfl⟩
  have HN : Hid (∀ W a m c, Src W a m c (natS xs) → m ≤ 140737488355328 → Calls Try.prog 21 #[.slice a m c] W fun e w' => ∃ ao' c', e = .returned (.tuple #[.slice ao' K c', .int .i64 0]) ∧ OwnB w' W.heap.size (.slice ao' K c') (bareS xs) ∧ Below W.heap.size W w') := by
    intro W a m c h hm
    have := toNat_any a m c (natS xs) W h hm
    rw [(nat_back xs hby.out).1, (nat_back xs hby.out).2, hK] at this
    exact this
  have hdrop := hide (bareS_drop xs)
  rw [hl.out, hK] at hdrop
  rw [hK] at hbl
  have nl : Hid ((natS xs).length ≤ n + 1) := by unfold Hid; have := natS_len xs; have := hl.out; omega
  have HF : Hid (∀ W a m c, Src W a m c (flagsS s) → m ≤ 140737488355328 → Calls Try.prog 22 #[.slice a m c] W fun e w' => e = .returned (.tuple #[.int .u16 s, .int .i64 0]) ∧ Below W.heap.size W w') := by
    intro W a m c h hm
    have := toFlags_any a m c (flagsS s) W h hm
    rw [(flags_back s hs0 hs1).1, (flags_back s hs0 hs1).2] at this
    exact this
  have HB : Hid (∀ W, Src W ao n cap xs → Calls Try.prog 14 #[.slice ao n cap, .int .i64 0] W fun e w' => ∃ ao' c', e = .returned (.tuple #[.slice ao' (n + 1) c', .int .i64 0]) ∧ OwnB w' W.heap.size (.slice ao' (n + 1) c') (0 :: xs) ∧ Below W.heap.size W w') := by
    intro W h
    have := bits_any ao n cap xs 0 W h hn
    rw [(bits_back xs).1, (bits_back xs).2.1, List.length_cons, hl.out] at this
    exact this
  have HT : Hid (∀ W a c, Src W a (n + 1) c (0 :: xs) → Calls Try.prog 23 #[.slice a (n + 1) c] W fun e w' => ∃ ao' c', e = .returned (.tuple #[.slice ao' n c', .int .i64 0, .int .i64 0]) ∧ OwnB w' W.heap.size (.slice ao' n c') xs ∧ Below W.heap.size W w') := by
    intro W a c h
    have := toBits_any a (n + 1) c (0 :: xs) W h (by omega)
    rw [(bits_back xs).2.2.1, (bits_back xs).2.2.2.1, (bits_back xs).2.2.2.2, hl.out] at this
    exact this
  have HL : Hid (∀ W a c v, Src W a 1 c (boolS v) → Calls Try.prog 24 #[.slice a 1 c] W fun e w' => e = .returned (.tuple #[.bool v, .int .i64 0]) ∧ w' = W) := by
    intro W a c v h
    have := toBool_any a 1 c (boolS v) W h
    rw [(bool_back v).1, (bool_back v).2] at this
    exact this
  have HK := hide hK
  clear hK
  have hNN : (N != N) = false := by simp
  have hss : (s != s) = false := by simp
  have hq : ((strOfNums (bareS xs)).toList == (strOfNums (bareS xs)).toList) = true := by simp
  have hq2 : ((strOfNums xs).toList == (strOfNums xs).toList) = true := by simp
  go_enter Try.func6, Try.ntmps6
  go_wp2_with fail
  refine (int_any N _).mono ?_
  rintro e w1 ⟨aI, cI, rfl, oI, B1⟩
  go_wp2_with fail
  refine (HI.out _ _ _ _ (oI.src (intS_byte N))).mono ?_
  rintro e w2 ⟨rfl, hd2⟩
  have B2 : Below w.heap.size w w2 := hd2.below B1
  clear hd2 oI B1
  go_wp2_with fail
  have s2 := hs.below B2
  refine (nat_any ao n cap xs _ s2 hn).mono ?_
  rintro e w3 ⟨aN, cN, rfl, oN, B3⟩
  go_wp2_with fail
  refine (HN.out _ _ _ _ (oN.src (natS_byte xs hby.out)) (by have := nl.out; omega)).mono ?_
  rintro e w4 ⟨aX, cX, rfl, oX, B4⟩
  have B3' : Below w.heap.size w w3 := B2.trans (B3.mono B2.size)
  have B4' : Below w.heap.size w w4 := B3'.trans (B4.mono B3'.size)
  have s4 := hs.below B4'
  have tx := (oX.toSrc (bytesOf_toNat xs hby.out)).textN
  have sl := fun W => slice_lo W ao n cap ((n : Int) - (K : Int)) (n - K) (by omega) (by omega)
  have sd := s4.cut (n - K) n (by omega) (Nat.le_refl _)
  rw [List.take_of_length_le (by rw [hl.out]; exact Nat.le_refl _), ← hdrop.out.1] at sd
  generalize cutA ao cap (n - K) = A at sl sd
  have td := sd.textN
  have gk : decide ((n : Int) < (K : Int)) = false := decide_eq_false (by omega)
  have hwr : IntKind.i64.wrap ((n : Int) - (K : Int)) = (n : Int) - (K : Int) := i64_in _ (by omega)
  go_wp2_with fail
  go_quiet (fail)
  clear tx td sl sd
  have B5 : Below w.heap.size w (w4.drewN nq) := ((Drawn.refl w4).more nq).below B4'
  have s5 := hs.below B5
  generalize w4.drewN nq = w5 at B5 s5 ⊢
  go_wp2_with fail
  go_loop [10] (fun i => ∃ k : Nat, k ≤ n - K ∧ i = .int .i64 k) (fun i => n - (intOf i).toNat)
  case atStart => exact ⟨0, Nat.zero_le _, rfl⟩
  case round =>
    obtain ⟨k, hk, rfl⟩ := hrel
    by_cases hlt : k < n - K
    · obtain ⟨b, off, rfl, hc⟩ := s5.at k (by omega)
      rw [hdrop.out.2 k hlt] at hc
      have g1 : (k : Int) < (n : Int) - (K : Int) := by omega
      go_wp2
      go_round
      case rel => exact ⟨k + 1, by omega, by go_num⟩
      case measure => simp [intOf]; omega
    · have g1 : ¬ (k : Int) < (n : Int) - (K : Int) := by omega
      go_wp2_with fail
      refine (flags_any s hs0 hs1 _).mono ?_
      rintro e w6 ⟨gF, cF, rfl, oF, B6⟩
      go_wp2_with fail
      refine (HF.out _ _ _ _ (oF.toSrc (flagsS_byte s hs0 hs1)) (by have := flagsS_len s; omega)).mono ?_
      rintro e w7 ⟨rfl, B7⟩
      have B6' : Below w.heap.size w w6 := B5.trans (B6.mono B5.size)
      have B7' : Below w.heap.size w w7 := B6'.trans (B7.mono B6'.size)
      go_wp2_with fail
      refine (HB.out _ (hs.below B7')).mono ?_
      rintro e w8 ⟨aC, cC, rfl, oC, B8⟩
      have B8' : Below w.heap.size w w8 := B7'.trans (B8.mono B7'.size)
      go_wp2_with fail
      refine (HT.out _ _ _ (oC.toSrc (by intro x hx; simp at hx; rcases hx with rfl | hx; omega; exact hby.out x hx))).mono ?_
      rintro e w9 ⟨aZ, cZ, rfl, oZ, B9⟩
      have B9' : Below w.heap.size w w9 := B8'.trans (B9.mono B8'.size)
      go_wp2_with fail
      refine (bool_any (decide (0 < N)) _).mono ?_
      rintro e w10 ⟨gV, rfl, oV, B10⟩
      have B10' : Below w.heap.size w w10 := B9'.trans (B10.mono B9'.size)
      go_wp2_with fail
      refine (HL.out _ _ _ (decide (0 < N)) (oV.toSrc (boolS_byte _))).mono ?_
      rintro e w11 ⟨rfl, hw11⟩
      have hw12 := hw11.symm
      subst hw12
      have tz := ((oZ.toSrc hby.out).below B10).text
      have tb := (hs.below B10').text
      go_wp2
      go_ret
      exact ⟨by simp, B10'⟩

end Go.Proofs.Ytfhickdaofhhgab
