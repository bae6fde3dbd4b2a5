/-
  der.One answers as the plain function of the bytes says, the content copied into new memory.
-/
import Derived.Test.YtdoijgkdmfchaaaTake
namespace Go.Proofs.Ytdoijgkdmfchaaa
open Go.RowKit Go.IntWalk

/-- Tag, content and the error's number where bytes are to be just one element. -/
def oneS (xs : List Int) : Int × List Int × Int :=
  if (findS xs).2.2.2 ≠ 0 then (0, [], (findS xs).2.2.2)
  else if (findS xs).2.2.1 < (xs.length : Int) then (0, [], 13)
  else ((findS xs).1, contS xs, 0)

set_option maxRecDepth 100000 in
set_option maxHeartbeats 2000000 in
theorem one_any (ao : Option Addr) (n cap : Nat) (xs : List Int) (w : World) (hs : Src w ao n cap xs) (hN : (n : Int) ≤ 140737488355328) :
    Calls Try.prog 17 #[.slice ao n cap] w fun e w' => ∃ ao' m c',
      e = .returned (.tuple #[.agg #[.int .i64 (oneS xs).1, .slice ao' m c'], .int .i64 (oneS xs).2.2]) ∧ OwnB w' w.heap.size (.slice ao' m c') (oneS xs).2.1 ∧ Below w.heap.size w w' := by
  have hl := hs.hlen
  rcases findS_cases xs hs.hbyt with ⟨err, h1, h2, h3, he⟩ | ⟨l, h, he, h1, h2, h3, h4, h5⟩
  · have ho : oneS xs = (0, [], err) := by unfold oneS; rw [he, if_pos h1]
    have HE := hide he
    have HO := hide ho
    have h1' : (err != 0) = true := by simpa using h1
    clear he ho h1 hl
    go_enter Try.func17, Try.ntmps17
    go_wp2_with (go_at_call 33; refine (find_any _ _ _ xs _ (by exact hs.alloc _) hN).mono ?_; rintro e w1 ⟨rfl, hb1⟩; rw [HE.out]; unfold spanV; obtain ⟨hc, hf⟩ := bcell hb1; have hz : w.heap.size < w1.heap.size := by (have := hb1.size; simp at this; omega))
    refine bodyPost_ret (v := .tuple #[.agg #[.int .i64 0, .slice none 0 0], .int .i64 err]) (by simp [results, Try.results17, go_sem, hc, hz]) rfl ⟨none, 0, 0, by rw [HO.out], by rw [HO.out]; exact OwnB.nil _ _, ?_⟩
    exact (((((Below.refl _ _).alloc (Nat.le_refl _) _).trans (hb1.mono (by simp))).setCell (by simp) _).setCell (by simp) _).alloc (by simp; omega) _
  · have hcs : contS xs = (xs.take h).drop l := by unfold contS; rw [he]; simp
    rw [hl] at h4
    generalize xs.getD 0 0 = t at he
    by_cases h6 : h < n
    · have ho : oneS xs = (0, [], 13) := by unfold oneS; rw [he, hl, if_neg (by simp), if_pos (by simp only []; omega)]
      have HE := hide he
      have HO := hide ho
      clear he ho hcs hl
      go_enter Try.func17, Try.ntmps17
      go_wp2_with (go_at_call 33; refine (find_any _ _ _ xs _ (by exact hs.alloc _) hN).mono ?_; rintro e w1 ⟨rfl, hb1⟩; rw [HE.out]; unfold spanV; obtain ⟨hc, hf⟩ := bcell hb1; have hz : w.heap.size < w1.heap.size := by (have := hb1.size; simp at this; omega))
      refine bodyPost_ret (v := .tuple #[.agg #[.int .i64 0, .slice none 0 0], .int .i64 13]) (by simp [results, Try.results17, go_sem, hc, hz]) rfl ⟨none, 0, 0, by rw [HO.out], by rw [HO.out]; exact OwnB.nil _ _, ?_⟩
      exact (((((Below.refl _ _).alloc (Nat.le_refl _) _).trans (hb1.mono (by simp))).setCell (by simp) _).setCell (by simp) _).alloc (by simp; omega) _
    · have ho : oneS xs = (t, (xs.take h).drop l, 0) := by unfold oneS; rw [he, hl, if_neg (by simp), if_neg (by simp only []; omega), hcs]
      have HE := hide he
      have HO := hide ho
      clear he ho hcs hl
      go_enter Try.func17, Try.ntmps17
      go_wp2_with (first | (go_at_call 33; refine (find_any _ _ _ xs _ (by exact hs.alloc _) hN).mono ?_; rintro e w1 ⟨rfl, hb1⟩; rw [HE.out]; unfold spanV; obtain ⟨hc, hf⟩ := bcell hb1; have hz : w.heap.size < w1.heap.size := (by have := hb1.size; simp at this; omega); have i0 : w1.cell? ⟨w.heap.size, 0, none⟩ = some (.int .i64 0) := (by rw [hc _ _ (by simp)]; simp); have i1 : w1.cell? ⟨w.heap.size, 1, none⟩ = some (.slice none 0 0) := (by rw [hc _ _ (by simp)]; simp)) | (go_at_call 34; refine (element_any _ l h _ _ _ xs _ (by exact ((hs.alloc _).below hb1).alloc _) hN h3 h4).mono ?_; rintro e w2 ⟨ao', c', rfl, hv, hb2⟩; obtain ⟨hc2, hf2⟩ := bcell hb2; have j0 : w2.cell? ⟨w.heap.size, 0, none⟩ = some (.int .i64 0) := (hc2 _ _ (by simp; omega)).trans ((World.cell?_alloc_lt _ _ _ hz).trans i0); have j1 : w2.cell? ⟨w.heap.size, 1, none⟩ = some (.slice none 0 0) := (hc2 _ _ (by simp; omega)).trans ((World.cell?_alloc_lt _ _ _ hz).trans i1); have hz2 : w1.heap.size < w2.heap.size := (by have := hb2.size; simp at this; omega)))
      refine bodyPost_ret (v := .tuple #[.agg #[.int .i64 t, .slice ao' (h - l) c'], .int .i64 0]) (by simp [results, Try.results17, go_sem, j0, j1]) rfl ⟨ao', h - l, c', by rw [HO.out], ?_, ?_⟩
      · rw [HO.out]
        exact ((hv.setBelow (by simp; omega) _).setBelow (by simp; omega) _).rebase (by simp; omega)
      · exact ((((((Below.refl _ _).alloc (Nat.le_refl _) _).trans (hb1.mono (by simp))).alloc (by omega) _).trans (hb2.mono (by simp; omega))).setCell (by simp) _).setCell (by simp) _

end Go.Proofs.Ytdoijgkdmfchaaa
