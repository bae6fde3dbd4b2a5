/-
  The reference's Bytes and Put answer as the plain functions say, in new memory.
-/
import Derived.Test.YtaeddbkkkiefcaaPut
import Derived.Test.YtaeddbkkkiefcaaStep
import Derived.Test.YtaeddbkkkiefcaaMore
import Derived.Test.YtaeddbkkkiefcaaLen
import Derived.Test.YtaeddbkkkiefcaaRTag
import Derived.Deep.QuietTactic
import Derived.BigQuiet
namespace Go.Proofs.Ytaeddbkkkiefcaa
open Go.RowKit Go.IntWalk

theorem lenB_byte (n : Nat) (h : n < 16777216) : ∀ x ∈ lenB n, 0 ≤ x ∧ x < 256 := by
  intro x hx
  unfold lenB at hx
  split at hx
  · simp at hx; omega
  · have := digs_len n
    simp at hx
    rcases hx with hx | hx
    · omega
    · exact digs_byte n h x hx

theorem lenB_ne (n : Nat) : lenB n ≠ [] := by
  unfold lenB; split <;> simp

theorem length_own (n : Nat) (w : World) (h : (n : Int) ≤ 16777215) :
    Calls Try.prog 80 #[.int .i64 n] w fun e w' => ∃ g c', e = .returned (.slice (some ⟨g, 0, none⟩) (lenB n).length c') ∧ OwnB w' w.heap.size (.slice (some ⟨g, 0, none⟩) (lenB n).length c') (lenB n) ∧ Below w.heap.size w w' := by
  refine (length_any n w h).mono ?_
  rintro e w' ⟨v, rfl, ho, hb⟩
  rcases OwnB.split ho with ⟨_, hx⟩ | ⟨g, c', rfl, _⟩
  · exact absurd hx (lenB_ne n)
  · exact ⟨g, c', rfl, ho, hb⟩

set_option maxRecDepth 100000 in
set_option maxHeartbeats 2000000 in
theorem bytes_any (tag : Int) (a : Option Addr) (m c : Nat) (xs : List Int) (w : World) (hs : Src w a m c xs) (ht0 : 0 ≤ tag) (ht1 : tag ≤ 255) (hm : (m : Int) ≤ 16777215) :
    Calls Try.prog 67 #[.agg #[.int .i64 tag, .slice a m c]] w fun e w' => ∃ g c', e = .returned (.slice (some ⟨g, 0, none⟩) (1 + (lenB m).length + m) c') ∧
      OwnB w' w.heap.size (.slice (some ⟨g, 0, none⟩) (1 + (lenB m).length + m) c') ([tag] ++ lenB m ++ xs) ∧ Below w.heap.size w w' := by
  have hl := hide hs.hlen
  have hl5 : (lenB m).length ≤ 4 := by
    unfold lenB; split
    · simp
    · have := digs_len m; simp; omega
  have hby := hide (lenB_byte m (by omega))
  go_enter Try.func67, Try.ntmps67
  go_wp2_with (first | (at_builtin; refine wpList_appN _ rfl (.tmp 4) (.tmp 8) rfl (w.heap.size + 1) (.slice none 0 0) [] rfl (OwnB.nil _ _) (some ⟨w.heap.size + 1, 0, none⟩) 1 1 [tag] rfl (Src.litAt [tag] _ 1 _ rfl rfl (by simp; omega) (by decide) (by simp)) 1 rfl (.inr (by simp)) (by omega) (by simp) ?_; intro g1 c1 w1 ho1 hb1 hl1 hc1 hm1 hg1; have y1 : w1.cell? ⟨w.heap.size, 1, none⟩ = some (.slice a m c) := hg1.cell (by simp) (by simp [Value.ownBlock]); have bw1 : Below (w.heap.size + 1) (w.alloc (.cells #[.int .i64 tag, .slice a m c] 78)) w1 := (((Below.refl _ _).alloc (by simp) _).grown hg1 (by simp) (by intro k hk; cases hk)); have z1 := bw1.size; rw [World.size_alloc] at z1) | (go_at_call 80; refine (length_own m _ hm).mono ?_; rintro e w2 ⟨g2, c2, rfl, ho2, bel2⟩; have z2 := bel2.size; have y2 : w2.cell? ⟨w.heap.size, 1, none⟩ = some (.slice a m c) := (bel2.cell (p := ⟨w.heap.size, 1, none⟩) (by show w.heap.size < w1.heap.size; omega)).trans y1; have bw2 := bw1.trans (bel2.mono z1)) | (at_builtin; refine wpList_appN _ rfl (.tmp 10) (.tmp 14) rfl (w.heap.size + 1) (.slice (some ⟨g1, 0, none⟩) 1 c1) [tag] rfl (ho1.belowA bel2) (some ⟨g2, 0, none⟩) (lenB m).length c2 (lenB m) rfl (ho2.toSrc hby.out) (1 + (lenB m).length) (by simp; omega) (.inl (by simp)) (by omega) (by omega) ?_; intro g3 c3 w3 ho3 hb3 hl3 hc3 hm3 hg3; have z3 := hg3.size; have y3 : w3.cell? ⟨w.heap.size, 1, none⟩ = some (.slice a m c) := hg3.cell y2 (by simp [Value.ownBlock]; omega); have bw3 := bw2.grown hg3 (by omega) (by intro k hk; cases hk; exact hb1)) | (at_builtin; refine wpList_appN _ rfl (.tmp 16) (.tmp 18) rfl (w.heap.size + 1) (.slice (some ⟨g3, 0, none⟩) (1 + (lenB m).length) c3) ([tag] ++ lenB m) rfl ho3 a m c xs rfl ((hs.alloc _).below (bw3.mono (by simp))) (1 + (lenB m).length + m) (by simp [hl.out]; omega) (.inl (by simp)) (by omega) (by omega) ?_; intro g4 c4 w4 ho4 hb4 hl4 hc4 hm4 hg4; have bw4 := bw3.grown hg4 (by omega) (by intro k hk; cases hk; exact hb3)))
  go_ret
  exact ⟨g4, c4, rfl, ho4.rebase (by omega), ((Below.refl _ _).alloc (Nat.le_refl _) _).trans (bw4.mono (by omega))⟩

end Go.Proofs.Ytaeddbkkkiefcaa
