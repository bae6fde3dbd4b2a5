/-
  num.Bits and the reference's Bits.
-/
import Derived.Test.YtmkfdfjpfinbpaaAre
namespace Go.Proofs.Ytmkfdfjpfinbpaa
open Go.RowKit Go.IntWalk

def bitsC (xs : List Int) (u : Int) : List Int := if bitsB xs u then u :: xs else []
def bitsE (xs : List Int) (u : Int) : Int := if bitsB xs u then 0 else 2

theorem bitsC_byte (xs : List Int) (u : Int) (hb : ∀ x ∈ xs, 0 ≤ x ∧ x < 256) : ∀ x ∈ bitsC xs u, 0 ≤ x ∧ x < 256 := by
  intro x hx
  unfold bitsC at hx
  split at hx
  · rename_i h
    have := bits_in xs u h
    simp at hx
    rcases hx with rfl | h
    · omega
    · exact hb x h
  · simp at hx

theorem bitsC_len (xs : List Int) (u : Int) : (bitsC xs u).length ≤ xs.length + 1 := by
  unfold bitsC; split <;> simp

set_option maxRecDepth 100000 in
set_option maxHeartbeats 1000000 in
theorem bits_any (ao : Option Addr) (n cap : Nat) (xs : List Int) (u : Int) (w : World) (hs : Src w ao n cap xs) (hn : n ≤ 140737488351232) :
    Calls Try.prog 12 #[.slice ao n cap, .int .i64 u] w fun e w' => ∃ ao' c', e = .returned (.tuple #[.slice ao' (bitsC xs u).length c', .int .i64 (bitsE xs u)]) ∧ OwnB w' w.heap.size (.slice ao' (bitsC xs u).length c') (bitsC xs u) ∧ Below w.heap.size w w' := by
  have HL := hide hs.hlen
  by_cases h : bitsB xs u = true
  · have hu := bits_in xs u h
    have e1 : bitsC xs u = u :: xs := by unfold bitsC; rw [if_pos h]
    have e2 : bitsE xs u = 0 := by unfold bitsE; rw [if_pos h]
    rw [e1, e2]
    clear e1 e2
    obtain ⟨h0, h7⟩ := hu
    have e3 : (u :: xs).length = n + 1 := by simp [HL.out]
    rw [e3]
    clear e3
    go_enter Try.func12, Try.ntmps12
    go_wp2_with fail
    refine (areBits_any ao n cap xs u _ hs).mono ?_
    rintro e w0 ⟨rfl, hw⟩
    have hd : Drawn w w0 := (by obtain ⟨q, rfl⟩ := hw; exact (Drawn.refl _).more q)
    have hs0 := hs.heap hd.heap
    have hz : w.heap.size = w0.heap.size := by rw [hd.heap]
    clear hw
    rw [h]
    go_wp2_with (at_builtin; refine wpList_appN _ rfl (.tmp 12) (.tmp 13) rfl w.heap.size (.slice (some ⟨w0.heap.size, 0, none⟩) 1 1) [u] rfl (OwnB.lit _ [u] _ 1 rfl rfl (by omega) (by decide)) ao n cap xs rfl (hs0.alloc _) (n + 1) (by simp [HL.out]) (.inl (by simp)) (by omega) (by simp; omega) ?_; intro g1 c1 w1 ho1 hb1 hl1 hc1 hm1 hg1)
    refine bodyPost_ret (v := .tuple #[.slice (some ⟨g1, 0, none⟩) (n + 1) c1, .int .i64 0]) (by simp [results, Try.results12, go_sem]) rfl ?_
    exact ⟨_, _, rfl, ho1, ((hd.below (Below.refl _ _)).alloc (by omega) _).grown hg1 (by simp; omega) (by intro k hk; cases hk; show w.heap.size ≤ w0.heap.size; omega)⟩
  · simp only [Bool.not_eq_true] at h
    have e1 : bitsC xs u = [] := by unfold bitsC; rw [if_neg (by simp [h])]
    have e2 : bitsE xs u = 2 := by unfold bitsE; rw [if_neg (by simp [h])]
    rw [e1, e2]
    clear e1 e2
    go_enter Try.func12, Try.ntmps12
    go_wp2_with fail
    refine (areBits_any ao n cap xs u _ hs).mono ?_
    rintro e w0 ⟨rfl, hw⟩
    have hd : Drawn w w0 := (by obtain ⟨q, rfl⟩ := hw; exact (Drawn.refl _).more q)
    clear hw
    rw [h]
    go_wp2
    refine bodyPost_ret (v := .tuple #[.slice none 0 0, .int .i64 2]) (by simp [results, Try.results12, go_sem]) rfl ?_
    exact ⟨_, _, rfl, OwnB.nil _ _, hd.below (Below.refl _ _)⟩
set_option maxRecDepth 100000 in
set_option maxHeartbeats 1000000 in
theorem refBits_any (ao : Option Addr) (n cap : Nat) (xs : List Int) (u : Int) (w : World) (hs : Src w ao n cap xs) (hn : n ≤ 140737488351232) :
    Calls Try.prog 13 #[.slice ao n cap, .int .i64 u] w fun e w' => ∃ ao' c', e = .returned (.tuple #[.slice ao' (bitsC xs u).length c', .int .i64 (bitsE xs u)]) ∧ OwnB w' w.heap.size (.slice ao' (bitsC xs u).length c') (bitsC xs u) ∧ Below w.heap.size w w' := by
  have HL := hide hs.hlen
  by_cases h : bitsB xs u = true
  · have hu := bits_in xs u h
    have e1 : bitsC xs u = u :: xs := by unfold bitsC; rw [if_pos h]
    have e2 : bitsE xs u = 0 := by unfold bitsE; rw [if_pos h]
    rw [e1, e2]
    clear e1 e2
    obtain ⟨h0, h7⟩ := hu
    have e3 : (u :: xs).length = n + 1 := by simp [HL.out]
    rw [e3]
    clear e3
    go_enter Try.func13, Try.ntmps13
    go_wp2_with fail
    refine (there_any ao n cap xs u _ hs).mono ?_
    rintro e w0 ⟨rfl, hw⟩
    have hd : Drawn w w0 := (by rw [hw]; exact Drawn.refl _)
    have hs0 := hs.heap hd.heap
    have hz : w.heap.size = w0.heap.size := by rw [hd.heap]
    clear hw
    rw [h]
    go_wp2_with (at_builtin; refine wpList_appN _ rfl (.tmp 12) (.tmp 13) rfl w.heap.size (.slice (some ⟨w0.heap.size, 0, none⟩) 1 1) [u] rfl (OwnB.lit _ [u] _ 1 rfl rfl (by omega) (by decide)) ao n cap xs rfl (hs0.alloc _) (n + 1) (by simp [HL.out]) (.inl (by simp)) (by omega) (by simp; omega) ?_; intro g1 c1 w1 ho1 hb1 hl1 hc1 hm1 hg1)
    refine bodyPost_ret (v := .tuple #[.slice (some ⟨g1, 0, none⟩) (n + 1) c1, .int .i64 0]) (by simp [results, Try.results13, go_sem]) rfl ?_
    exact ⟨_, _, rfl, ho1, ((hd.below (Below.refl _ _)).alloc (by omega) _).grown hg1 (by simp; omega) (by intro k hk; cases hk; show w.heap.size ≤ w0.heap.size; omega)⟩
  · simp only [Bool.not_eq_true] at h
    have e1 : bitsC xs u = [] := by unfold bitsC; rw [if_neg (by simp [h])]
    have e2 : bitsE xs u = 2 := by unfold bitsE; rw [if_neg (by simp [h])]
    rw [e1, e2]
    clear e1 e2
    go_enter Try.func13, Try.ntmps13
    go_wp2_with fail
    refine (there_any ao n cap xs u _ hs).mono ?_
    rintro e w0 ⟨rfl, hw⟩
    have hd : Drawn w w0 := (by rw [hw]; exact Drawn.refl _)
    clear hw
    rw [h]
    go_wp2
    refine bodyPost_ret (v := .tuple #[.slice none 0 0, .int .i64 2]) (by simp [results, Try.results13, go_sem]) rfl ?_
    exact ⟨_, _, rfl, OwnB.nil _ _, hd.below (Below.refl _ _)⟩

end Go.Proofs.Ytmkfdfjpfinbpaa
