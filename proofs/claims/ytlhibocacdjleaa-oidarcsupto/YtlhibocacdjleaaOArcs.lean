/-
  oid.Arcs: a function over the numbers of the content's sound part, in bytes of its own.
-/
import Derived.Test.YtlhibocacdjleaaArcM
import Derived.Test.YtlhibocacdjleaaClone
namespace Go.Proofs.Ytlhibocacdjleaa
open Go.RowKit Go.IntWalk

set_option maxRecDepth 100000 in
set_option maxHeartbeats 1000000 in
theorem oidArcs_any (ao : Option Addr) (n cap : Nat) (xs : List Int) (w : World) (hs : Src w ao n cap xs) (hN : n ≤ 17592186044416) :
    Calls Try.prog 25 #[.slice ao n cap] w fun e w' => ∃ g a' m c', e = .returned (.func (.func 53) #[] #[.pointer (some ⟨g, 0, none⟩)]) ∧ m = soundG xs 0 ∧ m ≤ n ∧ w.heap.size ≤ g ∧ w'.heap[g]? = some (.cells #[.slice a' m c'] 22) ∧ Src w' a' m c' (xs.take m) ∧ (∀ b off, a' = some ⟨b, off, none⟩ → xs.take m ≠ [] → w.heap.size ≤ b ∧ b ≠ g) ∧ Below w.heap.size w w' := by
  have HL := hide hs.hlen
  have hsd := hide (callsIn_wide.1 (sound_in ao n cap xs w hs (by omega)))
  have hm0 : soundG xs 0 ≤ n := by have := sound_in_all xs xs.length 0 (by omega); rw [HL.out] at this; omega
  obtain ⟨m, hm⟩ : ∃ m, m = soundG xs 0 := ⟨_, rfl⟩
  rw [← hm] at hsd hm0
  have Hm := hide hm
  clear hm
  go_enter Try.func25, Try.ntmps25
  go_wp2_with fail
  refine hsd.out.mono ?_
  rintro e w1 ⟨rfl, B1⟩
  have hs1 := (hs.below B1).cut 0 m (Nat.zero_le _) hm0
  have sl := fun X => slice_hi X ao n cap m m rfl (by have := hs.hcap; omega)
  rw [List.drop_zero, Nat.sub_zero, Nat.sub_zero] at hs1
  generalize cutA ao cap 0 = A at hs1 sl
  have hcl := hide (clone_any A m cap (xs.take m) w1 hs1 (by omega))
  have s1 := B1.size
  go_wp2_with (go_at_call 31; refine hcl.out.mono ?_; rintro e w2 ⟨a2, c2, rfl, O2, B2⟩)
  refine (callsIn_wide.1 (numbers_in 0 a2 m c2 w2)).mono ?_
  rintro e w3 ⟨rfl, rfl⟩
  go_wp2
  go_ret
  have s2 := B2.size
  have hb2 := O2.lt
  refine ⟨w2.heap.size, a2, m, c2, rfl, Hm.out, hm0, by omega, World.alloc_heap_new _ _, (O2.toSrc (fun x hx => hs1.hbyt x hx)).alloc _, ?_, ((B1.trans (B2.mono s1)).alloc (by omega) _)⟩
  rintro b off rfl hne
  have h1 := hb2 b rfl
  exact ⟨by omega, by omega⟩

end Go.Proofs.Ytlhibocacdjleaa
