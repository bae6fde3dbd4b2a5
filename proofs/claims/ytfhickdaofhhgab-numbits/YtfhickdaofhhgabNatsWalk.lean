/-
  NumNats answers true at any bytes, and writes nothing that was there.
-/
import Derived.Test.YtfhickdaofhhgabNat
import Derived.Test.YtfhickdaofhhgabNLent
namespace Go.Proofs.Ytfhickdaofhhgab
open Go.RowKit Go.IntWalk

/-- What 'lent' answered, read. -/
theorem lent_src {w : World} {base g n c : Nat} {xs : List Int} (h : OwnB w base (.slice (some ⟨g, 0, none⟩) (n + 1) c) (xs ++ [90])) (hl : xs.length = n) (hb : ∀ x ∈ xs, 0 ≤ x ∧ x < 256) (hc : c ≤ maxLen) : Src w (some ⟨g, 0, none⟩) n c xs :=
  h.src (by intro x hx; simp at hx; rcases hx with hx | rfl; exact hb x hx; omega) n (by omega) (by rw [List.take_append_of_le_length (by omega), List.take_of_length_le (by omega)]) hc

set_option maxRecDepth 100000 in
set_option maxHeartbeats 1000000 in
theorem numNats_walk (ao : Option Addr) (n cap : Nat) (xs : List Int) (w : World) (hs : Src w ao n cap xs) (hn : n ≤ 140737488351232) :
    Calls Try.prog 3 #[.slice ao n cap] w fun e w' => e = .returned (.bool true) ∧ Below w.heap.size w w' := by
  have hby := hide hs.hbyt
  have hl := hide hs.hlen
  have nb := hide (natS_byte xs hby.out)
  have nl : Hid ((natS xs).length ≤ n + 1) := by unfold Hid; have := natS_len xs; have := hl.out; omega
  go_enter Try.func3, Try.ntmps3
  go_wp2_with fail
  refine (nlent_any ao n cap xs _ hs hn).mono ?_
  rintro e w1 ⟨g, c, rfl, hc1, hm1, hg1, hgl1, hin, B1⟩
  have s1 := lent_src hin hl.out hby.out hm1
  go_wp2_with fail
  refine (nat_any _ n c xs _ s1 hn).mono ?_
  rintro e w2 ⟨aX, cX, rfl, hX, B2⟩
  go_wp2_with fail
  refine (nat_any _ n c xs _ (s1.below B2) hn).mono ?_
  rintro e w3 ⟨aY, cY, rfl, hY, B3⟩
  go_wp2_with fail
  refine (refNat_any _ n cap xs _ (((hs.below B1).below B2).below B3) hn).mono ?_
  rintro e w4 ⟨gZ, cZ, rfl, hZ, B4⟩
  go_wp2_with fail
  refine (own_any w1.heap.size _ _ _ _ _ _ _ _ _ (natS xs) _ nb.out ((hX.below B3).below B4) ((hY.below B4).src nb.out) (hZ.toSrc nb.out) (hX.apart hY (Nat.le_refl _)) (hX.apart hZ.toO B3.size) (by have := nl.out; omega)).mono ?_
  rintro e w5 ⟨rfl, G5⟩
  have L : Below w1.heap.size w1 w4 := (B2.trans (B3.mono B2.size)).trans (B4.mono (Nat.le_trans B2.size B3.size))
  have hXl := hide ((hX.below B3).below B4).lt
  have hin5 := (hin.belowA L).kept G5 (.inr (by intro h; have := (hXl.out g h.symm).1; omega))
  have sB5 := (hs.below (B1.trans (L.mono B1.size))).grown G5 (by intro b off he hx h; have h1 := hs.blk b off he hx; have h2 := (hXl.out b h.symm).1; have := B1.size; omega)
  have B5 : Below w.heap.size w w5 := (B1.trans (L.mono B1.size)).grown G5 (by have := B1.size; have := L.size; omega) (by intro k hk; have h2 := (hXl.out k hk).1; have := B1.size; omega)
  go_wp2_with fail
  refine (nkept_any g n c ao cap xs _ _ sB5 hn hc1 hm1 hin5).mono ?_
  rintro e w6 ⟨rfl, q, rfl⟩
  go_wp2_with fail
  refine (nnames_any _).mono ?_
  rintro e w7 ⟨rfl, rfl⟩
  go_wp2
  go_ret
  exact ⟨rfl, ⟨B5.os, B5.tape, B5.output, B5.size, B5.block⟩⟩

end Go.Proofs.Ytfhickdaofhhgab
