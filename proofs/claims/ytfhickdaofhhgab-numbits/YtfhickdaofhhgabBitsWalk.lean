/-
  NumBits answers true at any bytes and any number, and writes nothing that was there.
-/
import Derived.Test.YtfhickdaofhhgabBits
import Derived.Test.YtfhickdaofhhgabBool
import Derived.Test.YtfhickdaofhhgabNatsWalk
namespace Go.Proofs.Ytfhickdaofhhgab
open Go.RowKit Go.IntWalk

set_option maxRecDepth 100000 in
set_option maxHeartbeats 1000000 in
theorem numBits_walk (ao : Option Addr) (n cap : Nat) (xs : List Int) (u : Int) (w : World) (hs : Src w ao n cap xs) (hn : n ≤ 140737488351232) :
    Calls Try.prog 4 #[.slice ao n cap, .int .i64 u] w fun e w' => e = .returned (.bool true) ∧ Below w.heap.size w w' := by
  have hby := hide hs.hbyt
  have hl := hide hs.hlen
  have nb := hide (bitsC_byte xs u hby.out)
  have nl : Hid ((bitsC xs u).length ≤ n + 1) := by unfold Hid; have := bitsC_len xs u; have := hl.out; omega
  have heq : (bitsE xs u == bitsE xs u) = true := by simp
  go_enter Try.func4, Try.ntmps4
  go_wp2_with fail
  refine (nlent_any ao n cap xs _ hs hn).mono ?_
  rintro e w1 ⟨g, c, rfl, hc1, hm1, hg1, hgl1, hin, B1⟩
  have s1 := lent_src hin hl.out hby.out hm1
  go_wp2_with fail
  refine (bits_any _ n c xs u _ s1 hn).mono ?_
  rintro e w2 ⟨aX, cX, rfl, hX0, B2⟩
  have hX := hX0.toO
  go_wp2_with fail
  refine (bits_any _ n c xs u _ (s1.below B2) hn).mono ?_
  rintro e w3 ⟨aY, cY, rfl, hY0, B3⟩
  have hY := hY0.toO
  go_wp2_with fail
  refine (refBits_any _ n cap xs u _ (((hs.below B1).below B2).below B3) hn).mono ?_
  rintro e w4 ⟨aZ, cZ, rfl, hZ, B4⟩
  go_wp2_with fail
  refine (own_any w1.heap.size _ _ _ _ _ _ _ _ _ (bitsC xs u) _ nb.out ((hX.below B3).below B4) ((hY.below B4).src nb.out) (hZ.toSrc nb.out) (hX.apart hY (Nat.le_refl _)) (hX.apart hZ.toO B3.size) (by have := nl.out; omega)).mono ?_
  rintro e w5 ⟨rfl, G5⟩
  have L : Below w1.heap.size w1 w4 := (B2.trans (B3.mono B2.size)).trans (B4.mono (Nat.le_trans B2.size B3.size))
  have hXl := hide ((hX.below B3).below B4).lt
  have hin5 := (hin.belowA L).kept G5 (.inr (by intro h; have := (hXl.out g h.symm).1; omega))
  have sB5 := (hs.below (B1.trans (L.mono B1.size))).grown G5 (by intro b off he hx h; have h1 := hs.blk b off he hx; have h2 := (hXl.out b h.symm).1; have := B1.size; omega)
  have B5 : Below w.heap.size w w5 := (B1.trans (L.mono B1.size)).grown G5 (by have := B1.size; have := L.size; omega) (by intro k hk; have h2 := (hXl.out k hk).1; have := B1.size; omega)
  go_wp2_with fail
  refine (nkept_any g n c ao cap xs _ _ sB5 hn hc1 hm1 hin5).mono ?_
  rintro e w6 ⟨rfl, hw6⟩
  have B6 : Below w.heap.size w w6 := by obtain ⟨q, rfl⟩ := hw6; exact ((Drawn.refl w5).more q).below B5
  clear hw6
  go_wp2_with fail
  refine (bool_any true _).mono ?_
  rintro e w7 ⟨gB, rfl, hB, B7⟩
  have t7 := (hB.toSrc (boolS_byte true)).text
  rw [show strOfNums (boolS true) = { data := #[255] } from str255] at t7
  go_wp2_with fail
  refine (nnames_any _).mono ?_
  rintro e w8 ⟨rfl, rfl⟩
  go_wp2
  go_ret
  exact ⟨rfl, B6.trans (B7.mono B6.size)⟩

end Go.Proofs.Ytfhickdaofhhgab
