/-
  der.One answers as the plain function of the bytes says, the content copied into new memory.
  The reference's One answers as the plain function of the bytes says; 'same' says true of elements of one tag and one content.
  What the statements' own helpers do: 'lent' copies bytes and lays a mark behind them; 'kept' says true of what was lent and is as it was; 'spoil' writes into the row that it is handed, and nowhere else.
-/
import Derived.Test.YtgbbgfjamneioaaZElemToTake
import Derived.Test.YtgbbgfjamneioaaZRTake
import Derived.Test.YtgbbgfjamneioaaZOpenToMore
import Derived.Test.YtgbbgfjamneioaaZBts
import Derived.Deep.QuietTactic
import Derived.BigQuiet
namespace Go.Proofs.Ytgbbgfjamneioaa
open Go.RowKit Go.IntWalk

/-- Tag, content and the error's number where bytes are to be just one element. -/
def oneS (xs : List Int) : Int × List Int × Int :=
  if (findS xs).2.2.2 ≠ 0 then (0, [], (findS xs).2.2.2)
  else if (findS xs).2.2.1 < (xs.length : Int) then (0, [], 13)
  else ((findS xs).1, contS xs, 0)

set_option maxRecDepth 100000 in
set_option maxHeartbeats 2000000 in
theorem one_any (ao : Option Addr) (n cap : Nat) (xs : List Int) (w : World) (hs : Src w ao n cap xs) (hN : (n : Int) ≤ 140737488355328) :
    Calls Try.prog 8 #[.slice ao n cap] w fun e w' => ∃ ao' m c',
      e = .returned (.tuple #[.agg #[.int .i64 (oneS xs).1, .slice ao' m c'], .int .i64 (oneS xs).2.2]) ∧ OwnB w' w.heap.size (.slice ao' m c') (oneS xs).2.1 ∧ Below w.heap.size w w' := by
  have hl := hs.hlen
  rcases findS_cases xs hs.hbyt with ⟨err, h1, h2, h3, he⟩ | ⟨l, h, he, h1, h2, h3, h4, h5⟩
  · have ho : oneS xs = (0, [], err) := by unfold oneS; rw [he, if_pos h1]
    have HE := hide he
    have HO := hide ho
    have h1' : (err != 0) = true := by simpa using h1
    clear he ho h1 hl
    go_enter Try.func8, Try.ntmps8
    go_wp2_with (go_at_call 19; refine (find_any _ _ _ xs _ (by exact hs.alloc _) hN).mono ?_; rintro e w1 ⟨rfl, hb1⟩; rw [HE.out]; unfold spanV; obtain ⟨hc, hf⟩ := bcell hb1; have hz : w.heap.size < w1.heap.size := by (have := hb1.size; simp at this; omega))
    refine bodyPost_ret (v := .tuple #[.agg #[.int .i64 0, .slice none 0 0], .int .i64 err]) (by simp [results, Try.results8, go_sem, hc, hz]) rfl ⟨none, 0, 0, by rw [HO.out], by rw [HO.out]; exact OwnB.nil _ _, ?_⟩
    exact (((((Below.refl _ _).alloc (Nat.le_refl _) _).trans (hb1.mono (by simp))).setCell (by simp) _).setCell (by simp) _).alloc (by simp; omega) _
  · have hcs : contS xs = (xs.take h).drop l := by unfold contS; rw [he]; simp
    rw [hl] at h4
    generalize xs.getD 0 0 = t at he
    by_cases h6 : h < n
    · have ho : oneS xs = (0, [], 13) := by unfold oneS; rw [he, hl, if_neg (by simp), if_pos (by simp only []; omega)]
      have HE := hide he
      have HO := hide ho
      clear he ho hcs hl
      go_enter Try.func8, Try.ntmps8
      go_wp2_with (go_at_call 19; refine (find_any _ _ _ xs _ (by exact hs.alloc _) hN).mono ?_; rintro e w1 ⟨rfl, hb1⟩; rw [HE.out]; unfold spanV; obtain ⟨hc, hf⟩ := bcell hb1; have hz : w.heap.size < w1.heap.size := by (have := hb1.size; simp at this; omega))
      refine bodyPost_ret (v := .tuple #[.agg #[.int .i64 0, .slice none 0 0], .int .i64 13]) (by simp [results, Try.results8, go_sem, hc, hz]) rfl ⟨none, 0, 0, by rw [HO.out], by rw [HO.out]; exact OwnB.nil _ _, ?_⟩
      exact (((((Below.refl _ _).alloc (Nat.le_refl _) _).trans (hb1.mono (by simp))).setCell (by simp) _).setCell (by simp) _).alloc (by simp; omega) _
    · have ho : oneS xs = (t, (xs.take h).drop l, 0) := by unfold oneS; rw [he, hl, if_neg (by simp), if_neg (by simp only []; omega), hcs]
      have HE := hide he
      have HO := hide ho
      clear he ho hcs hl
      go_enter Try.func8, Try.ntmps8
      go_wp2_with (first | (go_at_call 19; refine (find_any _ _ _ xs _ (by exact hs.alloc _) hN).mono ?_; rintro e w1 ⟨rfl, hb1⟩; rw [HE.out]; unfold spanV; obtain ⟨hc, hf⟩ := bcell hb1; have hz : w.heap.size < w1.heap.size := (by have := hb1.size; simp at this; omega); have i0 : w1.cell? ⟨w.heap.size, 0, none⟩ = some (.int .i64 0) := (by rw [hc _ _ (by simp)]; simp); have i1 : w1.cell? ⟨w.heap.size, 1, none⟩ = some (.slice none 0 0) := (by rw [hc _ _ (by simp)]; simp)) | (go_at_call 20; refine (element_any _ l h _ _ _ xs _ (by exact ((hs.alloc _).below hb1).alloc _) hN h3 h4).mono ?_; rintro e w2 ⟨ao', c', rfl, hv, hb2⟩; obtain ⟨hc2, hf2⟩ := bcell hb2; have j0 : w2.cell? ⟨w.heap.size, 0, none⟩ = some (.int .i64 0) := (hc2 _ _ (by simp; omega)).trans ((World.cell?_alloc_lt _ _ _ hz).trans i0); have j1 : w2.cell? ⟨w.heap.size, 1, none⟩ = some (.slice none 0 0) := (hc2 _ _ (by simp; omega)).trans ((World.cell?_alloc_lt _ _ _ hz).trans i1); have hz2 : w1.heap.size < w2.heap.size := (by have := hb2.size; simp at this; omega)))
      refine bodyPost_ret (v := .tuple #[.agg #[.int .i64 t, .slice ao' (h - l) c'], .int .i64 0]) (by simp [results, Try.results8, go_sem, j0, j1]) rfl ⟨ao', h - l, c', by rw [HO.out], ?_, ?_⟩
      · rw [HO.out]
        exact ((hv.setBelow (by simp; omega) _).setBelow (by simp; omega) _).rebase (by simp; omega)
      · exact ((((((Below.refl _ _).alloc (Nat.le_refl _) _).trans (hb1.mono (by simp))).alloc (by omega) _).trans (hb2.mono (by simp; omega))).setCell (by simp) _).setCell (by simp) _

end Go.Proofs.Ytgbbgfjamneioaa

namespace Go.Proofs.Ytgbbgfjamneioaa
open Go.RowKit Go.IntWalk

theorem contS_byte (xs : List Int) (hb : ∀ x ∈ xs, 0 ≤ x ∧ x < 256) : ∀ x ∈ contS xs, 0 ≤ x ∧ x < 256 := fun x hx => hb x (List.mem_of_mem_take (List.mem_of_mem_drop hx))

theorem oneS_byte (xs : List Int) (hb : ∀ x ∈ xs, 0 ≤ x ∧ x < 256) : ∀ x ∈ (oneS xs).2.1, 0 ≤ x ∧ x < 256 := by
  intro x hx
  unfold oneS at hx
  split at hx
  · simp at hx
  · split at hx
    · simp at hx
    · exact contS_byte xs hb x hx

set_option maxRecDepth 100000 in
set_option maxHeartbeats 2000000 in
theorem refOne_any (ao : Option Addr) (n cap : Nat) (xs : List Int) (w : World) (hs : Src w ao n cap xs) (hN : (n : Int) ≤ 140737488355328) :
    Calls Try.prog 13 #[.slice ao n cap] w fun e w' => ∃ ao' m c',
      e = .returned (.tuple #[.agg #[.int .i64 (oneS xs).1, .slice ao' m c'], .int .i64 (oneS xs).2.2]) ∧ OwnB w' w.heap.size (.slice ao' m c') (oneS xs).2.1 ∧ Below w.heap.size w w' := by
  have hl := hs.hlen
  rcases findS_cases xs hs.hbyt with ⟨err, h1, h2, h3, he⟩ | ⟨l, h, he, h1, h2, h3, h4, h5⟩
  · have ho : oneS xs = (0, [], err) := by unfold oneS; rw [he, if_pos h1]
    have HC := hide (show contS xs = [] by unfold contS; rw [he]; simp)
    have HE := hide he
    have HO := hide ho
    have h1' : (err == 0) = false := by simpa using h1
    clear he ho h1 hl
    go_enter Try.func13, Try.ntmps13
    go_wp2_with (go_at_call 28; refine (refTake_any _ _ _ xs _ (by exact hs.alloc _) hN).mono ?_; rintro e w1 ⟨ao', m, c', rfl, hv, hb1⟩; rw [HE.out]; obtain ⟨hc, hf⟩ := bcell hb1; have hz : w.heap.size < w1.heap.size := by (have := hb1.size; simp at this; omega))
    refine bodyPost_ret (v := .tuple #[.agg #[.int .i64 0, .slice ao' m c'], .int .i64 err]) (by simp [results, Try.results13, go_sem, hc, hz]) rfl ⟨_, _, _, by rw [HO.out], ?_, ?_⟩
    · rw [HO.out]
      have hv' := hv
      try rw [HC.out] at hv'
      exact (((hv'.setBelow (by simp) _).setBelow (by simp) _).alloc _).rebase (by simp)
    · exact (((((Below.refl _ _).alloc (Nat.le_refl _) _).trans (hb1.mono (by simp))).setCell (by simp) _).setCell (by simp) _).alloc (by simp; omega) _
  · generalize xs.getD 0 0 = t at he
    rw [hl] at h4
    by_cases h6 : h < n
    · have ho : oneS xs = (0, [], 13) := by unfold oneS; rw [he, hl, if_neg (by simp), if_pos (by simp only []; omega)]
      have HE := hide he
      have HO := hide ho
      have h6' : ((h : Int) != (n : Int)) = true := by simp; omega
      clear he ho hl
      go_enter Try.func13, Try.ntmps13
      go_wp2_with (go_at_call 28; refine (refTake_any _ _ _ xs _ (by exact hs.alloc _) hN).mono ?_; rintro e w1 ⟨ao', m, c', rfl, hv, hb1⟩; rw [HE.out]; obtain ⟨hc, hf⟩ := bcell hb1; have hz : w.heap.size < w1.heap.size := by (have := hb1.size; simp at this; omega))
      refine bodyPost_ret (v := .tuple #[.agg #[.int .i64 0, .slice none 0 0], .int .i64 13]) (by simp [results, Try.results13, go_sem, hc, hz]) rfl ⟨none, 0, 0, by rw [HO.out], by rw [HO.out]; exact OwnB.nil _ _, ?_⟩
      exact (((((Below.refl _ _).alloc (Nat.le_refl _) _).trans (hb1.mono (by simp))).setCell (by simp) _).setCell (by simp) _).alloc (by simp; omega) _
    · have ho : oneS xs = (t, contS xs, 0) := by unfold oneS; rw [he, hl, if_neg (by simp), if_neg (by simp only []; omega)]
      have HE := hide he
      have HO := hide ho
      have h6' : ((h : Int) != (n : Int)) = false := by simp; omega
      clear he ho hl
      go_enter Try.func13, Try.ntmps13
      go_wp2_with (go_at_call 28; refine (refTake_any _ _ _ xs _ (by exact hs.alloc _) hN).mono ?_; rintro e w1 ⟨ao', m, c', rfl, hv, hb1⟩; rw [HE.out]; obtain ⟨hc, hf⟩ := bcell hb1; have hz : w.heap.size < w1.heap.size := by (have := hb1.size; simp at this; omega))
      refine bodyPost_ret (v := .tuple #[.agg #[.int .i64 t, .slice ao' m c'], .int .i64 0]) (by simp [results, Try.results13, go_sem, hc, hz]) rfl ⟨_, _, _, by rw [HO.out], ?_, ?_⟩
      · rw [HO.out]
        have hv' := hv
        try rw [HO.out] at hv'
        exact (((hv'.setBelow (by simp) _).setBelow (by simp) _).alloc _).rebase (by simp)
      · exact (((((Below.refl _ _).alloc (Nat.le_refl _) _).trans (hb1.mono (by simp))).setCell (by simp) _).setCell (by simp) _).alloc (by simp; omega) _

end Go.Proofs.Ytgbbgfjamneioaa

namespace Go.Proofs.Ytgbbgfjamneioaa
open Go.RowKit Go.IntWalk

end Go.Proofs.Ytgbbgfjamneioaa
