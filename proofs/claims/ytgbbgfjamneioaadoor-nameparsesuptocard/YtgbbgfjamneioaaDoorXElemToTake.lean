/-
  bytes.Clone copies bytes into new memory; der's span.element answers the element that a span tells, its content copied.
  der.Take and der.One answer as the plain function of the bytes says, the content copied into new memory.
-/
import Derived.Test.YtgbbgfjamneioaaDoorXCloneToFindIt
import Derived.Test.YtgbbgfjamneioaaDoorXMoreToNextS
import Derived.WalkSpells
import Derived.Deep.RegionHeld3
namespace Go.Proofs.YtgbbgfjamneioaaDoor
open Go.RowKit Go.IntWalk

set_option maxRecDepth 100000 in
set_option maxHeartbeats 1000000 in
theorem cloneE_any (ao : Option Addr) (n cap : Nat) (xs : List Int) (w : World) (hs : Src w ao n cap xs) (hN : n ≤ 140737488355328) :
    Calls Tryd.prog 64 #[.slice ao n cap] w fun e w' => ∃ ao' c', e = .returned (.slice ao' n c') ∧ OwnB w' w.heap.size (.slice ao' n c') xs ∧ Below w.heap.size w w' := by
  have q22 : ∀ (w : World) (a : Option Addr) (n c n' c' : Nat), (binOp .eql 25 (.slice a n c) (.slice none n' c')).run Tryd.prog w = .ok (.bool a.isNone) w :=
    fun w a n c n' c' => Lib.run_eql_slice_nil w _ _ a n c n' c' Tryd.underlying25
  have hl := hide hs.hlen
  cases ao with
  | none =>
    obtain ⟨rfl, rfl⟩ := hs.hnil rfl
    obtain rfl : xs = [] := List.eq_nil_of_length_eq_zero hl.out
    go_enter Tryd.func64, Tryd.ntmps64
    go_wp2
    go_ret
    exact ⟨_, _, rfl, OwnB.nil _ _, Below.refl _ _⟩
  | some ad =>
    go_enter Tryd.func64, Tryd.ntmps64
    go_wp2_with (at_builtin; refine wpList_appN _ rfl (.tmp 5) (.tmp 6) rfl w.heap.size (.slice (some ⟨w.heap.size, 0, none⟩) 0 0) [] rfl (OwnB.lit _ [] _ 0 rfl rfl (Nat.le_refl _) (by decide)) (some ad) n cap xs rfl (hs.alloc _) n (by simpa using hl.out) (.inl (by simp)) (by omega) (by simp) ?_; intro g1 c1 w1 ho1 hb1 hl1 hc1 hm1 hg1)
    go_ret
    exact ⟨_, _, rfl, ho1, ((Below.refl _ _).alloc (Nat.le_refl _) _).grown hg1 (by simp) (by intro k hk; cases hk; exact Nat.le_refl _)⟩

set_option maxRecDepth 100000 in
set_option maxHeartbeats 2000000 in
theorem element_any (tag : Int) (l h : Nat) (ao : Option Addr) (n cap : Nat) (xs : List Int) (w : World) (hs : Src w ao n cap xs) (hN : (n : Int) ≤ 140737488355328) (hlh : l ≤ h) (hhn : h ≤ n) :
    Calls Tryd.prog 63 #[.agg #[.int .i64 tag, .int .i64 l, .int .i64 h], .slice ao n cap] w fun e w' =>
      ∃ ao' c', e = .returned (.agg #[.int .i64 tag, .slice ao' (h - l) c']) ∧ OwnB w' w.heap.size (.slice ao' (h - l) c') ((xs.take h).drop l) ∧ Below w.heap.size w w' := by
  have hnc := hs.hcap
  have hs1 := hs.cut l h hlh hhn
  have sl := fun W => slice_lh W ao n cap l h l h rfl rfl hlh (by omega)
  generalize cutA ao cap l = A at hs1 sl
  generalize (xs.take h).drop l = ys at hs1 ⊢
  go_enter Tryd.func63, Tryd.ntmps63
  go_wp2
  go_region_held3 (fun W => W.cell? ⟨w.heap.size, 0, none⟩ = some (.int .i64 tag) ∧ W.cell? ⟨w.heap.size, 1, none⟩ = some (.int .i64 l) ∧ W.cell? ⟨w.heap.size, 2, none⟩ = some (.int .i64 h)) (go_keep) (first | (go_at_call 64; refine (cloneE_any _ _ _ ys _ (by exact ((hs1.alloc _).alloc _).drewN 1) (by omega)).mono ?_; rintro e w1 ⟨ao', c', rfl, hv, hb1⟩; obtain ⟨hc, hf⟩ := bcell hb1; have k0 : w1.cell? ⟨w.heap.size, 0, none⟩ = some (.int .i64 tag) := (by rw [hc _ _ (by simp; omega)]; simp); have k1 : w1.cell? ⟨w.heap.size, 1, none⟩ = some (.int .i64 l) := (by rw [hc _ _ (by simp; omega)]; simp); have k2 : w1.cell? ⟨w.heap.size, 2, none⟩ = some (.int .i64 h) := (by rw [hc _ _ (by simp; omega)]; simp); have hz : w.heap.size + 1 < w1.heap.size := by (have := hb1.size; simp at this; omega)))
  go_wp2
  refine bodyPost_ret (v := .agg #[.int .i64 tag, .slice ao' (h - l) c']) (by simp [results, Tryd.results63, go_sem, hc]) rfl ⟨ao', c', rfl, ?_, ?_⟩
  · exact ((hv.setBelow (by simp) _).setBelow (by simp) _).rebase (by simp; omega)
  · exact ((((((Below.refl _ _).alloc (Nat.le_refl _) _).alloc (by simp) _).drew).trans (hb1.mono (by simp; omega))).setCell (by simp) _).setCell (by simp) _

end Go.Proofs.YtgbbgfjamneioaaDoor

namespace Go.Proofs.YtgbbgfjamneioaaDoor
open Go.RowKit Go.IntWalk

theorem takeLenS_size (xs : List Int) (h : (takeLenS xs).2.2 = 0) : 1 ≤ (takeLenS xs).2.1 := by
  unfold takeLenS at *
  split at h
  · rw [if_pos (by assumption)]; simp
  · rename_i h1
    rw [if_neg h1] 
    split at h
    · simp at h
    · rename_i h2
      rw [if_neg h2]
      split at h
      · simp at h
      · rename_i h3
        rw [if_neg h3]
        split at h
        · simp at h
        · rename_i h4
          rw [if_neg h4]
          split at h
          · simp at h
          · rename_i h5
            rw [if_neg h5]
            simp only []
            omega

theorem findS_cases (xs : List Int) (hb : ∀ x ∈ xs, 0 ≤ x ∧ x < 256) :
    (∃ err : Int, err ≠ 0 ∧ 0 < err ∧ err ≤ 12 ∧ findS xs = (0, 0, 0, err)) ∨
    ∃ (l h : Nat), findS xs = (xs.getD 0 0, (l : Int), (h : Int), 0) ∧ 2 ≤ l ∧ l ≤ 5 ∧ l ≤ h ∧ h ≤ xs.length ∧ h - l < 16777216 := by
  have hbd := takeLenS_bd (xs.drop 1) (fun x hx => hb x (List.mem_of_mem_drop hx))
  have hsz := takeLenS_size (xs.drop 1)
  unfold findS
  by_cases h1 : xs.length = 0
  · rw [if_pos h1]; exact .inl ⟨10, by decide, by decide, by decide, rfl⟩
  · rw [if_neg h1]
    by_cases h2 : isTagB (xs.getD 0 0) = false
    · rw [if_pos h2]; exact .inl ⟨11, by decide, by decide, by decide, rfl⟩
    · rw [if_neg h2]
      by_cases h3 : xs.length = 1
      · rw [if_pos h3]; exact .inl ⟨10, by decide, by decide, by decide, rfl⟩
      · rw [if_neg h3]
        by_cases h4 : (takeLenS (xs.drop 1)).2.2 ≠ 0
        · rw [if_pos h4]; exact .inl ⟨_, h4, by omega, by omega, rfl⟩
        · rw [if_neg h4]
          have hsz := hsz (by omega)
          by_cases h5 : (xs.length : Int) - (1 + (takeLenS (xs.drop 1)).2.1) < (takeLenS (xs.drop 1)).1
          · rw [if_pos h5]; exact .inl ⟨10, by decide, by decide, by decide, rfl⟩
          · rw [if_neg h5]
            refine .inr ⟨(1 + (takeLenS (xs.drop 1)).2.1).toNat, (1 + (takeLenS (xs.drop 1)).2.1 + (takeLenS (xs.drop 1)).1).toNat, ?_, by omega, by omega, by omega, by omega, by omega⟩
            rw [Int.toNat_of_nonneg (by omega), Int.toNat_of_nonneg (by omega)]

/-- The content of the element with which bytes begin; none where there is none. -/
def contS (xs : List Int) : List Int := (xs.take (findS xs).2.2.1.toNat).drop (findS xs).2.1.toNat

set_option maxRecDepth 100000 in
set_option maxHeartbeats 2000000 in
theorem take_any (ao : Option Addr) (n cap : Nat) (xs : List Int) (w : World) (hs : Src w ao n cap xs) (hN : (n : Int) ≤ 140737488355328) :
    Calls Tryd.prog 67 #[.slice ao n cap] w fun e w' => ∃ ao' m c',
      e = .returned (.tuple #[.agg #[.int .i64 (findS xs).1, .slice ao' m c'], .int .i64 (findS xs).2.2.1, .int .i64 (findS xs).2.2.2]) ∧ OwnB w' w.heap.size (.slice ao' m c') (contS xs) ∧ Below w.heap.size w w' := by
  have hl := hs.hlen
  rcases findS_cases xs hs.hbyt with ⟨err, h1, h2, h3, he⟩ | ⟨l, h, he, h1, h2, h3, h4, h5⟩
  · have hcs : contS xs = [] := by unfold contS; rw [he]; simp
    have HE := hide he
    have HC := hide hcs
    have h1' : (err != 0) = true := by simpa using h1
    clear he hcs h1 hl
    go_enter Tryd.func67, Tryd.ntmps67
    go_wp2_with (go_at_call 62; refine (find_any _ _ _ xs _ (by exact hs.alloc _) hN).mono ?_; rintro e w1 ⟨rfl, hb1⟩; rw [HE.out]; unfold spanV; obtain ⟨hc, hf⟩ := bcell hb1; have hz : w.heap.size < w1.heap.size := by (have := hb1.size; simp at this; omega))
    refine bodyPost_ret (v := .tuple #[.agg #[.int .i64 0, .slice none 0 0], .int .i64 0, .int .i64 err]) (by simp [results, Tryd.results67, go_sem, hc, hz]) rfl ⟨none, 0, 0, by rw [HE.out], by rw [HC.out]; exact OwnB.nil _ _, ?_⟩
    exact (((((Below.refl _ _).alloc (Nat.le_refl _) _).trans (hb1.mono (by simp))).setCell (by simp) _).setCell (by simp) _).alloc (by simp; omega) _
  · have hcs : contS xs = (xs.take h).drop l := by unfold contS; rw [he]; simp
    have HE := hide he
    have HC := hide hcs
    rw [hl] at h4
    clear hcs hl
    generalize xs.getD 0 0 = t at he HE
    clear he
    go_enter Tryd.func67, Tryd.ntmps67
    go_wp2_with (go_at_call 62; refine (find_any _ _ _ xs _ (by exact hs.alloc _) hN).mono ?_; rintro e w1 ⟨rfl, hb1⟩; rw [HE.out]; unfold spanV; obtain ⟨hc, hf⟩ := bcell hb1; have hz : w.heap.size < w1.heap.size := by (have := hb1.size; simp at this; omega))
    have hne : ¬ w.heap.size = w1.heap.size := by omega
    have hne' : ¬ w1.heap.size = w.heap.size := by omega
    have i0 : w1.cell? ⟨w.heap.size, 0, none⟩ = some (.int .i64 0) := by rw [hc _ _ (by simp)]; simp
    have i1 : w1.cell? ⟨w.heap.size, 1, none⟩ = some (.slice none 0 0) := by rw [hc _ _ (by simp)]; simp
    go_region_held3 (fun W => W.cell? ⟨w1.heap.size, 0, none⟩ = some (.int .i64 t) ∧ W.cell? ⟨w1.heap.size, 1, none⟩ = some (.int .i64 l) ∧ W.cell? ⟨w1.heap.size, 2, none⟩ = some (.int .i64 h)) (go_keep) (first | (go_at_call 63; refine (element_any _ l h _ _ _ xs _ (by exact (((hs.alloc _).below hb1).alloc _).drewN 1) hN h3 h4).mono ?_; rintro e w2 ⟨ao', c', rfl, hv, hb2⟩; obtain ⟨hc2, hf2⟩ := bcell hb2; have k0 : w2.cell? ⟨w1.heap.size, 0, none⟩ = some (.int .i64 t) := (by rw [hc2 _ _ (by simp)]; simp); have k1 : w2.cell? ⟨w1.heap.size, 1, none⟩ = some (.int .i64 l) := (by rw [hc2 _ _ (by simp)]; simp); have k2 : w2.cell? ⟨w1.heap.size, 2, none⟩ = some (.int .i64 h) := (by rw [hc2 _ _ (by simp)]; simp); have j0 : w2.cell? ⟨w.heap.size, 0, none⟩ = some (.int .i64 0) := (hc2 _ _ (by simp; omega)).trans ((World.cell?_alloc_lt _ _ _ hz).trans i0); have j1 : w2.cell? ⟨w.heap.size, 1, none⟩ = some (.slice none 0 0) := (hc2 _ _ (by simp; omega)).trans ((World.cell?_alloc_lt _ _ _ hz).trans i1); have hz2 : w1.heap.size < w2.heap.size := by (have := hb2.size; simp at this; omega)))
    go_wp2
    refine bodyPost_ret (v := .tuple #[.agg #[.int .i64 t, .slice ao' (h - l) c'], .int .i64 h, .int .i64 0]) (by simp [results, Tryd.results67, go_sem, j0, j1]) rfl ⟨ao', h - l, c', by rw [HE.out], ?_, ?_⟩
    · rw [HC.out]
      exact ((hv.setBelow (by simp; omega) _).setBelow (by simp; omega) _).rebase (by simp; omega)
    · exact (((((((Below.refl _ _).alloc (Nat.le_refl _) _).trans (hb1.mono (by simp))).alloc (by omega) _).drew).trans (hb2.mono (by simp; omega))).setCell (by simp) _).setCell (by simp) _

end Go.Proofs.YtgbbgfjamneioaaDoor
