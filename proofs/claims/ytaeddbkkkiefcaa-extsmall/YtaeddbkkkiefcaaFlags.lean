/-
  num.Flags lays the content of a set of flags into new memory.
-/
import Derived.Test.YtaeddbkkkiefcaaFlag
import Derived.Test.YtaeddbkkkiefcaaArr2
namespace Go.Proofs.Ytaeddbkkkiefcaa
open Go.RowKit Go.IntWalk

def sizeS (s : Int) : Nat := ((lenS s + 7) / 8).toNat
def flagsS (s : Int) : List Int := (8 * (sizeS s : Int) - lenS s) :: [revS s / 256, revS s % 256].take (sizeS s)

set_option maxRecDepth 100000 in
set_option maxHeartbeats 1000000 in
theorem flags_any (s : Int) (h0 : 0 ≤ s) (h1 : s < 65536) (w : World) :
    Calls Try.prog 69 #[.int .u16 s] w fun e w' => ∃ g c', e = .returned (.slice (some ⟨g, 0, none⟩) (flagsS s).length c') ∧ OwnB w' w.heap.size (.slice (some ⟨g, 0, none⟩) (flagsS s).length c') (flagsS s) ∧ Below w.heap.size w w' := by
  obtain ⟨l0, l1⟩ := lenS_in s h0 h1
  have hr := rev8_in (s % 256) (by omega) (by omega)
  have hr' := rev8_in (s / 256) (by omega) (by omega)
  have r0 : 0 ≤ revS s ∧ revS s < 65536 := by unfold revS; omega
  obtain ⟨r0, r1⟩ := r0
  obtain ⟨k, hk⟩ : ∃ k : Nat, (lenS s + 7) / 8 = (k : Int) := ⟨((lenS s + 7) / 8).toNat, by omega⟩
  have hk2 : k ≤ 2 := by omega
  have ek : sizeS s = k := by unfold sizeS; rw [hk]; rfl
  have eF := hide (show flagsS s = (8 * (k : Int) - lenS s) :: [revS s / 256, revS s % 256].take k by unfold flagsS; rw [ek])
  have eL := hide (show (flagsS s).length = k + 1 by rw [eF.out]; simp; omega)
  have hkb : 0 ≤ 8 * (k : Int) - lenS s ∧ 8 * (k : Int) - lenS s ≤ 7 := by omega
  have H1 := hide (len16_any s h0 h1)
  have H2 := hide (rev16_any s h0 h1)
  clear ek hr hr'
  generalize lenS s = L at *
  generalize revS s = R at *
  obtain ⟨b0, b1⟩ := hkb
  go_enter Try.func69, Try.ntmps69
  go_wp2_with fail
  refine (H1.out _).mono ?_
  rintro e w1 ⟨rfl, rfl⟩
  go_wp2_with fail
  refine (H2.out _).mono ?_
  rintro e w2 ⟨rfl, hw⟩
  have hd : Drawn w1 w2 := by obtain ⟨q, rfl⟩ := hw; exact (Drawn.refl _).more q
  clear hw
  have sl := fun W => slice_arr2 W w2.heap.size k hk2
  have hz : w1.heap.size = w2.heap.size := by rw [hd.heap]
  have src := hide (Src.two (w := w2.alloc (.cells #[.int .u8 (R / 256), .int .u8 (R % 256)] 100)) (b := w2.heap.size) (x := R / 256) (y := R % 256) (by simp) (by simp) (by omega) (by omega) k hk2)
  go_wp2_with (at_builtin; refine wpList_appN _ rfl (.tmp 25) (.tmp 27) rfl w1.heap.size (.slice (some ⟨w2.heap.size + 1, 0, none⟩) 1 1) [8 * (k : Int) - L] rfl (OwnB.litAt _ _ [8 * (k : Int) - L] _ 1 rfl rfl (by simp) (by simp; omega) (by decide)) (some ⟨w2.heap.size, 0, none⟩) k 2 ([R / 256, R % 256].take k) rfl (src.out.alloc _) (k + 1) (by simp; omega) (.inl (by simp)) (by omega) (by simp; omega) ?_; intro g1 c1 w3 ho1 hb1 hl1 hc1 hm1 hg1)
  go_ret
  rw [eL.out, eF.out]
  exact ⟨g1, c1, rfl, ho1, (((hd.below (Below.refl _ _)).alloc (by omega) _).alloc (by simp; omega) _).grown hg1 (by simp; omega) (by intro k hk; cases hk; show w1.heap.size ≤ w2.heap.size + 1; omega)⟩

end Go.Proofs.Ytaeddbkkkiefcaa
