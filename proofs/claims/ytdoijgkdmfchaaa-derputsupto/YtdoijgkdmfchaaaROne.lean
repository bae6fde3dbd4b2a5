/-
  The reference's One answers as the plain function of the bytes says; 'same' says true of elements of one tag and one content.
-/
import Derived.Test.YtdoijgkdmfchaaaOne
import Derived.Test.YtdoijgkdmfchaaaRTake
namespace Go.Proofs.Ytdoijgkdmfchaaa
open Go.RowKit Go.IntWalk

theorem OwnB.alloc2 {w : World} {base : Nat} {v : Value} {xs : List Int} (h : OwnB w base v xs) (o : Obj) : OwnB (w.alloc o) base v xs := h.alloc o

theorem OwnB.toSrc {w : World} {base m c : Nat} {ao : Option Addr} {xs : List Int} (h : OwnB w base (.slice ao m c) xs) (hb : ∀ x ∈ xs, 0 ≤ x ∧ x < 256) : Src w ao m c xs := by
  rcases h.split with ⟨he, hx⟩ | ⟨g, cap, he, h1, h2, h3, h4⟩
  · simp at he
    obtain ⟨rfl, rfl, rfl⟩ := he
    subst hx
    exact ⟨rfl, Nat.le_refl _, by decide, fun _ => ⟨rfl, rfl⟩, fun h => absurd rfl h, by simp⟩
  · simp at he
    obtain ⟨rfl, rfl, rfl⟩ := he
    exact h.src hb _ (Nat.le_refl _) (by simp) h4

theorem contS_byte (xs : List Int) (hb : ∀ x ∈ xs, 0 ≤ x ∧ x < 256) : ∀ x ∈ contS xs, 0 ≤ x ∧ x < 256 := fun x hx => hb x (List.mem_of_mem_take (List.mem_of_mem_drop hx))

theorem oneS_byte (xs : List Int) (hb : ∀ x ∈ xs, 0 ≤ x ∧ x < 256) : ∀ x ∈ (oneS xs).2.1, 0 ≤ x ∧ x < 256 := by
  intro x hx
  unfold oneS at hx
  split at hx
  · simp at hx
  · split at hx
    · simp at hx
    · exact contS_byte xs hb x hx

set_option maxRecDepth 100000 in
set_option maxHeartbeats 2000000 in
theorem refOne_any (ao : Option Addr) (n cap : Nat) (xs : List Int) (w : World) (hs : Src w ao n cap xs) (hN : (n : Int) ≤ 140737488355328) :
    Calls Try.prog 18 #[.slice ao n cap] w fun e w' => ∃ ao' m c',
      e = .returned (.tuple #[.agg #[.int .i64 (oneS xs).1, .slice ao' m c'], .int .i64 (oneS xs).2.2]) ∧ OwnB w' w.heap.size (.slice ao' m c') (oneS xs).2.1 ∧ Below w.heap.size w w' := by
  have hl := hs.hlen
  rcases findS_cases xs hs.hbyt with ⟨err, h1, h2, h3, he⟩ | ⟨l, h, he, h1, h2, h3, h4, h5⟩
  · have ho : oneS xs = (0, [], err) := by unfold oneS; rw [he, if_pos h1]
    have HC := hide (show contS xs = [] by unfold contS; rw [he]; simp)
    have HE := hide he
    have HO := hide ho
    have h1' : (err == 0) = false := by simpa using h1
    clear he ho h1 hl
    go_enter Try.func18, Try.ntmps18
    go_wp2_with (go_at_call 16; refine (refTake_any _ _ _ xs _ (by exact hs.alloc _) hN).mono ?_; rintro e w1 ⟨ao', m, c', rfl, hv, hb1⟩; rw [HE.out]; obtain ⟨hc, hf⟩ := bcell hb1; have hz : w.heap.size < w1.heap.size := by (have := hb1.size; simp at this; omega))
    refine bodyPost_ret (v := .tuple #[.agg #[.int .i64 0, .slice ao' m c'], .int .i64 err]) (by simp [results, Try.results18, go_sem, hc, hz]) rfl ⟨_, _, _, by rw [HO.out], ?_, ?_⟩
    · rw [HO.out]
      have hv' := hv
      try rw [HC.out] at hv'
      exact (((hv'.setBelow (by simp) _).setBelow (by simp) _).alloc _).rebase (by simp)
    · exact (((((Below.refl _ _).alloc (Nat.le_refl _) _).trans (hb1.mono (by simp))).setCell (by simp) _).setCell (by simp) _).alloc (by simp; omega) _
  · generalize xs.getD 0 0 = t at he
    rw [hl] at h4
    by_cases h6 : h < n
    · have ho : oneS xs = (0, [], 13) := by unfold oneS; rw [he, hl, if_neg (by simp), if_pos (by simp only []; omega)]
      have HE := hide he
      have HO := hide ho
      have h6' : ((h : Int) != (n : Int)) = true := by simp; omega
      clear he ho hl
      go_enter Try.func18, Try.ntmps18
      go_wp2_with (go_at_call 16; refine (refTake_any _ _ _ xs _ (by exact hs.alloc _) hN).mono ?_; rintro e w1 ⟨ao', m, c', rfl, hv, hb1⟩; rw [HE.out]; obtain ⟨hc, hf⟩ := bcell hb1; have hz : w.heap.size < w1.heap.size := by (have := hb1.size; simp at this; omega))
      refine bodyPost_ret (v := .tuple #[.agg #[.int .i64 0, .slice none 0 0], .int .i64 13]) (by simp [results, Try.results18, go_sem, hc, hz]) rfl ⟨none, 0, 0, by rw [HO.out], by rw [HO.out]; exact OwnB.nil _ _, ?_⟩
      exact (((((Below.refl _ _).alloc (Nat.le_refl _) _).trans (hb1.mono (by simp))).setCell (by simp) _).setCell (by simp) _).alloc (by simp; omega) _
    · have ho : oneS xs = (t, contS xs, 0) := by unfold oneS; rw [he, hl, if_neg (by simp), if_neg (by simp only []; omega)]
      have HE := hide he
      have HO := hide ho
      have h6' : ((h : Int) != (n : Int)) = false := by simp; omega
      clear he ho hl
      go_enter Try.func18, Try.ntmps18
      go_wp2_with (go_at_call 16; refine (refTake_any _ _ _ xs _ (by exact hs.alloc _) hN).mono ?_; rintro e w1 ⟨ao', m, c', rfl, hv, hb1⟩; rw [HE.out]; obtain ⟨hc, hf⟩ := bcell hb1; have hz : w.heap.size < w1.heap.size := by (have := hb1.size; simp at this; omega))
      refine bodyPost_ret (v := .tuple #[.agg #[.int .i64 t, .slice ao' m c'], .int .i64 0]) (by simp [results, Try.results18, go_sem, hc, hz]) rfl ⟨_, _, _, by rw [HO.out], ?_, ?_⟩
      · rw [HO.out]
        have hv' := hv
        try rw [HO.out] at hv'
        exact (((hv'.setBelow (by simp) _).setBelow (by simp) _).alloc _).rebase (by simp)
      · exact (((((Below.refl _ _).alloc (Nat.le_refl _) _).trans (hb1.mono (by simp))).setCell (by simp) _).setCell (by simp) _).alloc (by simp; omega) _

set_option maxRecDepth 100000 in
set_option maxHeartbeats 1000000 in
theorem same_true (t : Int) (a1 : Option Addr) (n1 c1 : Nat) (a2 : Option Addr) (n2 c2 : Nat) (xs : List Int) (w : World) (h1 : Src w a1 n1 c1 xs) (h2 : Src w a2 n2 c2 xs) :
    Calls Try.prog 19 #[.agg #[.int .i64 t, .slice a1 n1 c1], .agg #[.int .i64 t, .slice a2 n2 c2]] w fun e w' => e = .returned (.bool true) ∧ Below w.heap.size w w' := by
  have t1 := fun o o' => ((h1.alloc o).alloc o').text
  have t2 := fun o o' => ((h2.alloc o).alloc o').text
  have ht : (t == t) = true := by simp
  go_enter Try.func19, Try.ntmps19
  go_wp2
  go_ret
  exact ⟨rfl, ((Below.refl _ _).alloc (Nat.le_refl _) _).alloc (by simp) _⟩

end Go.Proofs.Ytdoijgkdmfchaaa
