/-
  The statement NameOrder: its walk.
-/
import Derived.Test.YtmfppbamgbfmpabNmThere
namespace Go.Proofs.Ytmfppbamgbfmpab
open Go.RowKit Go.IntWalk Go.Shelf

set_option maxRecDepth 100000 in
set_option maxHeartbeats 8000000 in
theorem order_walk (aa : Option Addr) (na ca : Nat) (xs : List (Int × ByteArray)) (ab : Option Addr) (nb cb : Nat) (ys : List (Int × ByteArray)) (ac : Option Addr) (nc cc : Nat) (zs : List (Int × ByteArray)) (cut : Int) (w : World)
    (hA : Ats w aa na ca xs) (hY : Ats w ab nb cb ys) (hZ : Ats w ac nc cc zs) :
    Calls Try.prog 3 #[.slice aa na ca, .slice ab nb cb, .slice ac nc cc, .int .i64 cut] w fun e w' => e = .returned (.bool true) ∧ Below w.heap.size w w' := by
  have hB := Below.refl w.heap.size w
  have a1 := hA.hcap
  have a2 := hA.hmax
  unfold maxLen at a2
  obtain ⟨n, hn⟩ : ∃ n : Nat, (cut % 18446744073709551616) % ((na : Int) + 1) = (n : Int) := ⟨_, (Int.toNat_of_nonneg (Int.emod_nonneg _ (by omega))).symm⟩
  have hnn : n ≤ na := by have := Int.emod_lt_of_pos (cut % 18446744073709551616) (show (0 : Int) < (na : Int) + 1 by omega); omega
  have hm1 : (IntKind.u64.wrap cut).tmod ((na : Int) + 1) = (n : Int) := by rw [IntKind.wrap_u64, Int.tmod_eq_emod_of_nonneg (by omega)]; exact hn
  have hT := hA.take hnn
  have step : ∀ {f : Nat} {args : Array Value} {R : Bool}, (∀ W, Below w.heap.size w W → Calls Try.prog f args W fun e w' => e = .returned (.bool R) ∧ Below W.heap.size W w') → Hid (∀ W, Below w.heap.size w W → Calls Try.prog f args W fun e w' => e = .returned (.bool R) ∧ Below w.heap.size w w') :=
    fun h W hW => (h W hW).mono fun e w' ⟨h1, h2⟩ => ⟨h1, hW.trans (h2.mono hW.size)⟩
  have hSaa := step fun W hW => same12_any aa na ca xs aa na ca xs W (hA.below hW) (hA.below hW)
  have hSab := step fun W hW => same12_any aa na ca xs ab nb cb ys W (hA.below hW) (hY.below hW)
  have hSba := step fun W hW => same12_any ab nb cb ys aa na ca xs W (hY.below hW) (hA.below hW)
  have hSbc := step fun W hW => same12_any ab nb cb ys ac nc cc zs W (hY.below hW) (hZ.below hW)
  have hSac := step fun W hW => same12_any aa na ca xs ac nc cc zs W (hA.below hW) (hZ.below hW)
  have hBan := step fun W hW => begins_any aa na ca xs aa n ca (xs.take n) W (hA.below hW) (hT.below hW)
  have hBna := step fun W hW => begins_any aa n ca (xs.take n) aa na ca xs W (hT.below hW) (hA.below hW)
  have hBab := step fun W hW => begins_any aa na ca xs ab nb cb ys W (hA.below hW) (hY.below hW)
  have hBba := step fun W hW => begins_any ab nb cb ys aa na ca xs W (hY.below hW) (hA.below hW)
  have hBbc := step fun W hW => begins_any ab nb cb ys ac nc cc zs W (hY.below hW) (hZ.below hW)
  have hBac := step fun W hW => begins_any aa na ca xs ac nc cc zs W (hA.below hW) (hZ.below hW)
  have hl := hA.hl
  rw [List.map_take] at hBan hBna
  rw [bg_take] at hBan
  rw [bg_back _ _ (by rw [List.length_map]; omega), List.length_map, hl] at hBna
  rw [decide_eq_true (show xs.map key = xs.map key from rfl)] at hSaa
  have k1 := bg_both (xs.map key) (ys.map key)
  have k2 := bg_both (ys.map key) (xs.map key)
  have k3 := @bg_trans (xs.map key) (ys.map key) (zs.map key)
  have k4 : xs.map key = ys.map key → ys.map key = zs.map key → xs.map key = zs.map key := fun h1 h2 => h1.trans h2
  generalize xs.map key = A at *
  generalize ys.map key = B at *
  generalize zs.map key = C at *
  clear step hT hl hY hZ
  rw [Bool.and_comm] at k2
  rw [k1] at hSab
  rw [k2] at hSba
  have d4 : bg A B = true → bg B A = true → decide (B = C) = true → decide (A = C) = true := by
    intro h1 h2 h3
    rw [h1, h2] at k1
    simp at k1 h3
    subst k1 h3
    simp
  generalize bg A B = p at *
  generalize bg B A = q at *
  generalize bg B C = r at *
  generalize bg A C = s at *
  generalize decide (B = C) = t at *
  generalize decide (A = C) = u at *
  clear k1 k2 k4
  have n1 : (n : Int) ≤ (na : Int) := by omega
  have n2 : (n : Int) ≤ (ca : Int) := by omega
  have n3 : (na : Int) ≤ 9223372036854775807 := by omega
  have n4 : (ca : Int) ≤ 9223372036854775807 := by omega
  have hnz : ¬ ((na : Int) + 1 = 0) := by omega
  clear hn hA a1 a2
  have core : ∀ z : Bool, ((n : Int) == (na : Int)) = z → Hid (∀ W, Below w.heap.size w W → Calls Try.prog 5 #[.slice aa n ca, .slice aa na ca] W fun e w' => e = .returned (.bool z) ∧ Below w.heap.size w w') → Calls Try.prog 3 #[.slice aa na ca, .slice ab nb cb, .slice ac nc cc, .int .i64 cut] w fun e w' => e = .returned (.bool true) ∧ Below w.heap.size w w' := by
    clear hBna
    intro z hz hBna
    cases p
    · simp only [Bool.false_and] at hSab hSba
      cases z
      · go_enter Try.func3, Try.ntmps3
        go_wp2_with fail
        refine (hSaa.out _ hB).mono ?_
        rintro e w1 ⟨rfl, hB⟩
        go_wp2_with fail
        refine (hSab.out _ hB).mono ?_
        rintro e w1 ⟨rfl, hB⟩
        go_wp2_with fail
        refine (hSba.out _ hB).mono ?_
        rintro e w1 ⟨rfl, hB⟩
        go_wp2_with fail
        refine (hBan.out _ hB).mono ?_
        rintro e w1 ⟨rfl, hB⟩
        go_wp2_with fail
        refine (hBna.out _ hB).mono ?_
        rintro e w1 ⟨rfl, hB⟩
        go_wp2_with fail
        refine (hSab.out _ hB).mono ?_
        rintro e w1 ⟨rfl, hB⟩
        go_wp2_with fail
        refine (hBab.out _ hB).mono ?_
        rintro e w1 ⟨rfl, hB⟩
        go_wp2_with fail
        refine (hSab.out _ hB).mono ?_
        rintro e w1 ⟨rfl, hB⟩
        go_wp2_with fail
        refine (hBab.out _ hB).mono ?_
        rintro e w1 ⟨rfl, hB⟩
        go_wp2_with fail
        refine (there_any _).mono ?_
        rintro e w3 ⟨rfl, h3⟩
        replace hB := hB.trans (h3.mono hB.size)
        go_wp2
        go_ret
        exact ⟨rfl, hB⟩
      · go_enter Try.func3, Try.ntmps3
        go_wp2_with fail
        refine (hSaa.out _ hB).mono ?_
        rintro e w1 ⟨rfl, hB⟩
        go_wp2_with fail
        refine (hSab.out _ hB).mono ?_
        rintro e w1 ⟨rfl, hB⟩
        go_wp2_with fail
        refine (hSba.out _ hB).mono ?_
        rintro e w1 ⟨rfl, hB⟩
        go_wp2_with fail
        refine (hBan.out _ hB).mono ?_
        rintro e w1 ⟨rfl, hB⟩
        go_wp2_with fail
        refine (hBna.out _ hB).mono ?_
        rintro e w1 ⟨rfl, hB⟩
        go_wp2_with fail
        refine (hSab.out _ hB).mono ?_
        rintro e w1 ⟨rfl, hB⟩
        go_wp2_with fail
        refine (hBab.out _ hB).mono ?_
        rintro e w1 ⟨rfl, hB⟩
        go_wp2_with fail
        refine (hSab.out _ hB).mono ?_
        rintro e w1 ⟨rfl, hB⟩
        go_wp2_with fail
        refine (hBab.out _ hB).mono ?_
        rintro e w1 ⟨rfl, hB⟩
        go_wp2_with fail
        refine (there_any _).mono ?_
        rintro e w3 ⟨rfl, h3⟩
        replace hB := hB.trans (h3.mono hB.size)
        go_wp2
        go_ret
        exact ⟨rfl, hB⟩
    · cases q
      · simp only [Bool.true_and] at hSab hSba
        cases r
        · cases z
          · go_enter Try.func3, Try.ntmps3
            go_wp2_with fail
            refine (hSaa.out _ hB).mono ?_
            rintro e w1 ⟨rfl, hB⟩
            go_wp2_with fail
            refine (hSab.out _ hB).mono ?_
            rintro e w1 ⟨rfl, hB⟩
            go_wp2_with fail
            refine (hSba.out _ hB).mono ?_
            rintro e w1 ⟨rfl, hB⟩
            go_wp2_with fail
            refine (hBan.out _ hB).mono ?_
            rintro e w1 ⟨rfl, hB⟩
            go_wp2_with fail
            refine (hBna.out _ hB).mono ?_
            rintro e w1 ⟨rfl, hB⟩
            go_wp2_with fail
            refine (hSab.out _ hB).mono ?_
            rintro e w1 ⟨rfl, hB⟩
            go_wp2_with fail
            refine (hBab.out _ hB).mono ?_
            rintro e w1 ⟨rfl, hB⟩
            go_wp2_with fail
            refine (hBbc.out _ hB).mono ?_
            rintro e w1 ⟨rfl, hB⟩
            go_wp2_with fail
            refine (hSab.out _ hB).mono ?_
            rintro e w1 ⟨rfl, hB⟩
            go_wp2_with fail
            refine (hBab.out _ hB).mono ?_
            rintro e w1 ⟨rfl, hB⟩
            go_wp2_with fail
            refine (hBba.out _ hB).mono ?_
            rintro e w1 ⟨rfl, hB⟩
            go_wp2_with fail
            refine (there_any _).mono ?_
            rintro e w3 ⟨rfl, h3⟩
            replace hB := hB.trans (h3.mono hB.size)
            go_wp2
            go_ret
            exact ⟨rfl, hB⟩
          · go_enter Try.func3, Try.ntmps3
            go_wp2_with fail
            refine (hSaa.out _ hB).mono ?_
            rintro e w1 ⟨rfl, hB⟩
            go_wp2_with fail
            refine (hSab.out _ hB).mono ?_
            rintro e w1 ⟨rfl, hB⟩
            go_wp2_with fail
            refine (hSba.out _ hB).mono ?_
            rintro e w1 ⟨rfl, hB⟩
            go_wp2_with fail
            refine (hBan.out _ hB).mono ?_
            rintro e w1 ⟨rfl, hB⟩
            go_wp2_with fail
            refine (hBna.out _ hB).mono ?_
            rintro e w1 ⟨rfl, hB⟩
            go_wp2_with fail
            refine (hSab.out _ hB).mono ?_
            rintro e w1 ⟨rfl, hB⟩
            go_wp2_with fail
            refine (hBab.out _ hB).mono ?_
            rintro e w1 ⟨rfl, hB⟩
            go_wp2_with fail
            refine (hBbc.out _ hB).mono ?_
            rintro e w1 ⟨rfl, hB⟩
            go_wp2_with fail
            refine (hSab.out _ hB).mono ?_
            rintro e w1 ⟨rfl, hB⟩
            go_wp2_with fail
            refine (hBab.out _ hB).mono ?_
            rintro e w1 ⟨rfl, hB⟩
            go_wp2_with fail
            refine (hBba.out _ hB).mono ?_
            rintro e w1 ⟨rfl, hB⟩
            go_wp2_with fail
            refine (there_any _).mono ?_
            rintro e w3 ⟨rfl, h3⟩
            replace hB := hB.trans (h3.mono hB.size)
            go_wp2
            go_ret
            exact ⟨rfl, hB⟩
        · obtain rfl : s = true := k3 rfl rfl
          cases z
          · go_enter Try.func3, Try.ntmps3
            go_wp2_with fail
            refine (hSaa.out _ hB).mono ?_
            rintro e w1 ⟨rfl, hB⟩
            go_wp2_with fail
            refine (hSab.out _ hB).mono ?_
            rintro e w1 ⟨rfl, hB⟩
            go_wp2_with fail
            refine (hSba.out _ hB).mono ?_
            rintro e w1 ⟨rfl, hB⟩
            go_wp2_with fail
            refine (hBan.out _ hB).mono ?_
            rintro e w1 ⟨rfl, hB⟩
            go_wp2_with fail
            refine (hBna.out _ hB).mono ?_
            rintro e w1 ⟨rfl, hB⟩
            go_wp2_with fail
            refine (hSab.out _ hB).mono ?_
            rintro e w1 ⟨rfl, hB⟩
            go_wp2_with fail
            refine (hBab.out _ hB).mono ?_
            rintro e w1 ⟨rfl, hB⟩
            go_wp2_with fail
            refine (hBbc.out _ hB).mono ?_
            rintro e w1 ⟨rfl, hB⟩
            go_wp2_with fail
            refine (hBac.out _ hB).mono ?_
            rintro e w1 ⟨rfl, hB⟩
            go_wp2_with fail
            refine (hSab.out _ hB).mono ?_
            rintro e w1 ⟨rfl, hB⟩
            go_wp2_with fail
            refine (hBab.out _ hB).mono ?_
            rintro e w1 ⟨rfl, hB⟩
            go_wp2_with fail
            refine (hBba.out _ hB).mono ?_
            rintro e w1 ⟨rfl, hB⟩
            go_wp2_with fail
            refine (there_any _).mono ?_
            rintro e w3 ⟨rfl, h3⟩
            replace hB := hB.trans (h3.mono hB.size)
            go_wp2
            go_ret
            exact ⟨rfl, hB⟩
          · go_enter Try.func3, Try.ntmps3
            go_wp2_with fail
            refine (hSaa.out _ hB).mono ?_
            rintro e w1 ⟨rfl, hB⟩
            go_wp2_with fail
            refine (hSab.out _ hB).mono ?_
            rintro e w1 ⟨rfl, hB⟩
            go_wp2_with fail
            refine (hSba.out _ hB).mono ?_
            rintro e w1 ⟨rfl, hB⟩
            go_wp2_with fail
            refine (hBan.out _ hB).mono ?_
            rintro e w1 ⟨rfl, hB⟩
            go_wp2_with fail
            refine (hBna.out _ hB).mono ?_
            rintro e w1 ⟨rfl, hB⟩
            go_wp2_with fail
            refine (hSab.out _ hB).mono ?_
            rintro e w1 ⟨rfl, hB⟩
            go_wp2_with fail
            refine (hBab.out _ hB).mono ?_
            rintro e w1 ⟨rfl, hB⟩
            go_wp2_with fail
            refine (hBbc.out _ hB).mono ?_
            rintro e w1 ⟨rfl, hB⟩
            go_wp2_with fail
            refine (hBac.out _ hB).mono ?_
            rintro e w1 ⟨rfl, hB⟩
            go_wp2_with fail
            refine (hSab.out _ hB).mono ?_
            rintro e w1 ⟨rfl, hB⟩
            go_wp2_with fail
            refine (hBab.out _ hB).mono ?_
            rintro e w1 ⟨rfl, hB⟩
            go_wp2_with fail
            refine (hBba.out _ hB).mono ?_
            rintro e w1 ⟨rfl, hB⟩
            go_wp2_with fail
            refine (there_any _).mono ?_
            rintro e w3 ⟨rfl, h3⟩
            replace hB := hB.trans (h3.mono hB.size)
            go_wp2
            go_ret
            exact ⟨rfl, hB⟩
      · simp only [Bool.true_and] at hSab hSba
        cases t
        · cases r
          · cases z
            · go_enter Try.func3, Try.ntmps3
              go_wp2_with fail
              refine (hSaa.out _ hB).mono ?_
              rintro e w1 ⟨rfl, hB⟩
              go_wp2_with fail
              refine (hSab.out _ hB).mono ?_
              rintro e w1 ⟨rfl, hB⟩
              go_wp2_with fail
              refine (hSba.out _ hB).mono ?_
              rintro e w1 ⟨rfl, hB⟩
              go_wp2_with fail
              refine (hBan.out _ hB).mono ?_
              rintro e w1 ⟨rfl, hB⟩
              go_wp2_with fail
              refine (hBna.out _ hB).mono ?_
              rintro e w1 ⟨rfl, hB⟩
              go_wp2_with fail
              refine (hSab.out _ hB).mono ?_
              rintro e w1 ⟨rfl, hB⟩
              go_wp2_with fail
              refine (hSbc.out _ hB).mono ?_
              rintro e w1 ⟨rfl, hB⟩
              go_wp2_with fail
              refine (hBab.out _ hB).mono ?_
              rintro e w1 ⟨rfl, hB⟩
              go_wp2_with fail
              refine (hBbc.out _ hB).mono ?_
              rintro e w1 ⟨rfl, hB⟩
              go_wp2_with fail
              refine (hSab.out _ hB).mono ?_
              rintro e w1 ⟨rfl, hB⟩
              go_wp2_with fail
              refine (hBab.out _ hB).mono ?_
              rintro e w1 ⟨rfl, hB⟩
              go_wp2_with fail
              refine (hBba.out _ hB).mono ?_
              rintro e w1 ⟨rfl, hB⟩
              go_wp2_with fail
              refine (there_any _).mono ?_
              rintro e w3 ⟨rfl, h3⟩
              replace hB := hB.trans (h3.mono hB.size)
              go_wp2
              go_ret
              exact ⟨rfl, hB⟩
            · go_enter Try.func3, Try.ntmps3
              go_wp2_with fail
              refine (hSaa.out _ hB).mono ?_
              rintro e w1 ⟨rfl, hB⟩
              go_wp2_with fail
              refine (hSab.out _ hB).mono ?_
              rintro e w1 ⟨rfl, hB⟩
              go_wp2_with fail
              refine (hSba.out _ hB).mono ?_
              rintro e w1 ⟨rfl, hB⟩
              go_wp2_with fail
              refine (hBan.out _ hB).mono ?_
              rintro e w1 ⟨rfl, hB⟩
              go_wp2_with fail
              refine (hBna.out _ hB).mono ?_
              rintro e w1 ⟨rfl, hB⟩
              go_wp2_with fail
              refine (hSab.out _ hB).mono ?_
              rintro e w1 ⟨rfl, hB⟩
              go_wp2_with fail
              refine (hSbc.out _ hB).mono ?_
              rintro e w1 ⟨rfl, hB⟩
              go_wp2_with fail
              refine (hBab.out _ hB).mono ?_
              rintro e w1 ⟨rfl, hB⟩
              go_wp2_with fail
              refine (hBbc.out _ hB).mono ?_
              rintro e w1 ⟨rfl, hB⟩
              go_wp2_with fail
              refine (hSab.out _ hB).mono ?_
              rintro e w1 ⟨rfl, hB⟩
              go_wp2_with fail
              refine (hBab.out _ hB).mono ?_
              rintro e w1 ⟨rfl, hB⟩
              go_wp2_with fail
              refine (hBba.out _ hB).mono ?_
              rintro e w1 ⟨rfl, hB⟩
              go_wp2_with fail
              refine (there_any _).mono ?_
              rintro e w3 ⟨rfl, h3⟩
              replace hB := hB.trans (h3.mono hB.size)
              go_wp2
              go_ret
              exact ⟨rfl, hB⟩
          · obtain rfl : s = true := k3 rfl rfl
            cases z
            · go_enter Try.func3, Try.ntmps3
              go_wp2_with fail
              refine (hSaa.out _ hB).mono ?_
              rintro e w1 ⟨rfl, hB⟩
              go_wp2_with fail
              refine (hSab.out _ hB).mono ?_
              rintro e w1 ⟨rfl, hB⟩
              go_wp2_with fail
              refine (hSba.out _ hB).mono ?_
              rintro e w1 ⟨rfl, hB⟩
              go_wp2_with fail
              refine (hBan.out _ hB).mono ?_
              rintro e w1 ⟨rfl, hB⟩
              go_wp2_with fail
              refine (hBna.out _ hB).mono ?_
              rintro e w1 ⟨rfl, hB⟩
              go_wp2_with fail
              refine (hSab.out _ hB).mono ?_
              rintro e w1 ⟨rfl, hB⟩
              go_wp2_with fail
              refine (hSbc.out _ hB).mono ?_
              rintro e w1 ⟨rfl, hB⟩
              go_wp2_with fail
              refine (hBab.out _ hB).mono ?_
              rintro e w1 ⟨rfl, hB⟩
              go_wp2_with fail
              refine (hBbc.out _ hB).mono ?_
              rintro e w1 ⟨rfl, hB⟩
              go_wp2_with fail
              refine (hBac.out _ hB).mono ?_
              rintro e w1 ⟨rfl, hB⟩
              go_wp2_with fail
              refine (hSab.out _ hB).mono ?_
              rintro e w1 ⟨rfl, hB⟩
              go_wp2_with fail
              refine (hBab.out _ hB).mono ?_
              rintro e w1 ⟨rfl, hB⟩
              go_wp2_with fail
              refine (hBba.out _ hB).mono ?_
              rintro e w1 ⟨rfl, hB⟩
              go_wp2_with fail
              refine (there_any _).mono ?_
              rintro e w3 ⟨rfl, h3⟩
              replace hB := hB.trans (h3.mono hB.size)
              go_wp2
              go_ret
              exact ⟨rfl, hB⟩
            · go_enter Try.func3, Try.ntmps3
              go_wp2_with fail
              refine (hSaa.out _ hB).mono ?_
              rintro e w1 ⟨rfl, hB⟩
              go_wp2_with fail
              refine (hSab.out _ hB).mono ?_
              rintro e w1 ⟨rfl, hB⟩
              go_wp2_with fail
              refine (hSba.out _ hB).mono ?_
              rintro e w1 ⟨rfl, hB⟩
              go_wp2_with fail
              refine (hBan.out _ hB).mono ?_
              rintro e w1 ⟨rfl, hB⟩
              go_wp2_with fail
              refine (hBna.out _ hB).mono ?_
              rintro e w1 ⟨rfl, hB⟩
              go_wp2_with fail
              refine (hSab.out _ hB).mono ?_
              rintro e w1 ⟨rfl, hB⟩
              go_wp2_with fail
              refine (hSbc.out _ hB).mono ?_
              rintro e w1 ⟨rfl, hB⟩
              go_wp2_with fail
              refine (hBab.out _ hB).mono ?_
              rintro e w1 ⟨rfl, hB⟩
              go_wp2_with fail
              refine (hBbc.out _ hB).mono ?_
              rintro e w1 ⟨rfl, hB⟩
              go_wp2_with fail
              refine (hBac.out _ hB).mono ?_
              rintro e w1 ⟨rfl, hB⟩
              go_wp2_with fail
              refine (hSab.out _ hB).mono ?_
              rintro e w1 ⟨rfl, hB⟩
              go_wp2_with fail
              refine (hBab.out _ hB).mono ?_
              rintro e w1 ⟨rfl, hB⟩
              go_wp2_with fail
              refine (hBba.out _ hB).mono ?_
              rintro e w1 ⟨rfl, hB⟩
              go_wp2_with fail
              refine (there_any _).mono ?_
              rintro e w3 ⟨rfl, h3⟩
              replace hB := hB.trans (h3.mono hB.size)
              go_wp2
              go_ret
              exact ⟨rfl, hB⟩
        · obtain rfl : u = true := d4 rfl rfl rfl
          cases r
          · cases z
            · go_enter Try.func3, Try.ntmps3
              go_wp2_with fail
              refine (hSaa.out _ hB).mono ?_
              rintro e w1 ⟨rfl, hB⟩
              go_wp2_with fail
              refine (hSab.out _ hB).mono ?_
              rintro e w1 ⟨rfl, hB⟩
              go_wp2_with fail
              refine (hSba.out _ hB).mono ?_
              rintro e w1 ⟨rfl, hB⟩
              go_wp2_with fail
              refine (hBan.out _ hB).mono ?_
              rintro e w1 ⟨rfl, hB⟩
              go_wp2_with fail
              refine (hBna.out _ hB).mono ?_
              rintro e w1 ⟨rfl, hB⟩
              go_wp2_with fail
              refine (hSab.out _ hB).mono ?_
              rintro e w1 ⟨rfl, hB⟩
              go_wp2_with fail
              refine (hSbc.out _ hB).mono ?_
              rintro e w1 ⟨rfl, hB⟩
              go_wp2_with fail
              refine (hSac.out _ hB).mono ?_
              rintro e w1 ⟨rfl, hB⟩
              go_wp2_with fail
              refine (hBab.out _ hB).mono ?_
              rintro e w1 ⟨rfl, hB⟩
              go_wp2_with fail
              refine (hBbc.out _ hB).mono ?_
              rintro e w1 ⟨rfl, hB⟩
              go_wp2_with fail
              refine (hSab.out _ hB).mono ?_
              rintro e w1 ⟨rfl, hB⟩
              go_wp2_with fail
              refine (hBab.out _ hB).mono ?_
              rintro e w1 ⟨rfl, hB⟩
              go_wp2_with fail
              refine (hBba.out _ hB).mono ?_
              rintro e w1 ⟨rfl, hB⟩
              go_wp2_with fail
              refine (there_any _).mono ?_
              rintro e w3 ⟨rfl, h3⟩
              replace hB := hB.trans (h3.mono hB.size)
              go_wp2
              go_ret
              exact ⟨rfl, hB⟩
            · go_enter Try.func3, Try.ntmps3
              go_wp2_with fail
              refine (hSaa.out _ hB).mono ?_
              rintro e w1 ⟨rfl, hB⟩
              go_wp2_with fail
              refine (hSab.out _ hB).mono ?_
              rintro e w1 ⟨rfl, hB⟩
              go_wp2_with fail
              refine (hSba.out _ hB).mono ?_
              rintro e w1 ⟨rfl, hB⟩
              go_wp2_with fail
              refine (hBan.out _ hB).mono ?_
              rintro e w1 ⟨rfl, hB⟩
              go_wp2_with fail
              refine (hBna.out _ hB).mono ?_
              rintro e w1 ⟨rfl, hB⟩
              go_wp2_with fail
              refine (hSab.out _ hB).mono ?_
              rintro e w1 ⟨rfl, hB⟩
              go_wp2_with fail
              refine (hSbc.out _ hB).mono ?_
              rintro e w1 ⟨rfl, hB⟩
              go_wp2_with fail
              refine (hSac.out _ hB).mono ?_
              rintro e w1 ⟨rfl, hB⟩
              go_wp2_with fail
              refine (hBab.out _ hB).mono ?_
              rintro e w1 ⟨rfl, hB⟩
              go_wp2_with fail
              refine (hBbc.out _ hB).mono ?_
              rintro e w1 ⟨rfl, hB⟩
              go_wp2_with fail
              refine (hSab.out _ hB).mono ?_
              rintro e w1 ⟨rfl, hB⟩
              go_wp2_with fail
              refine (hBab.out _ hB).mono ?_
              rintro e w1 ⟨rfl, hB⟩
              go_wp2_with fail
              refine (hBba.out _ hB).mono ?_
              rintro e w1 ⟨rfl, hB⟩
              go_wp2_with fail
              refine (there_any _).mono ?_
              rintro e w3 ⟨rfl, h3⟩
              replace hB := hB.trans (h3.mono hB.size)
              go_wp2
              go_ret
              exact ⟨rfl, hB⟩
          · obtain rfl : s = true := k3 rfl rfl
            cases z
            · go_enter Try.func3, Try.ntmps3
              go_wp2_with fail
              refine (hSaa.out _ hB).mono ?_
              rintro e w1 ⟨rfl, hB⟩
              go_wp2_with fail
              refine (hSab.out _ hB).mono ?_
              rintro e w1 ⟨rfl, hB⟩
              go_wp2_with fail
              refine (hSba.out _ hB).mono ?_
              rintro e w1 ⟨rfl, hB⟩
              go_wp2_with fail
              refine (hBan.out _ hB).mono ?_
              rintro e w1 ⟨rfl, hB⟩
              go_wp2_with fail
              refine (hBna.out _ hB).mono ?_
              rintro e w1 ⟨rfl, hB⟩
              go_wp2_with fail
              refine (hSab.out _ hB).mono ?_
              rintro e w1 ⟨rfl, hB⟩
              go_wp2_with fail
              refine (hSbc.out _ hB).mono ?_
              rintro e w1 ⟨rfl, hB⟩
              go_wp2_with fail
              refine (hSac.out _ hB).mono ?_
              rintro e w1 ⟨rfl, hB⟩
              go_wp2_with fail
              refine (hBab.out _ hB).mono ?_
              rintro e w1 ⟨rfl, hB⟩
              go_wp2_with fail
              refine (hBbc.out _ hB).mono ?_
              rintro e w1 ⟨rfl, hB⟩
              go_wp2_with fail
              refine (hBac.out _ hB).mono ?_
              rintro e w1 ⟨rfl, hB⟩
              go_wp2_with fail
              refine (hSab.out _ hB).mono ?_
              rintro e w1 ⟨rfl, hB⟩
              go_wp2_with fail
              refine (hBab.out _ hB).mono ?_
              rintro e w1 ⟨rfl, hB⟩
              go_wp2_with fail
              refine (hBba.out _ hB).mono ?_
              rintro e w1 ⟨rfl, hB⟩
              go_wp2_with fail
              refine (there_any _).mono ?_
              rintro e w3 ⟨rfl, h3⟩
              replace hB := hB.trans (h3.mono hB.size)
              go_wp2
              go_ret
              exact ⟨rfl, hB⟩
            · go_enter Try.func3, Try.ntmps3
              go_wp2_with fail
              refine (hSaa.out _ hB).mono ?_
              rintro e w1 ⟨rfl, hB⟩
              go_wp2_with fail
              refine (hSab.out _ hB).mono ?_
              rintro e w1 ⟨rfl, hB⟩
              go_wp2_with fail
              refine (hSba.out _ hB).mono ?_
              rintro e w1 ⟨rfl, hB⟩
              go_wp2_with fail
              refine (hBan.out _ hB).mono ?_
              rintro e w1 ⟨rfl, hB⟩
              go_wp2_with fail
              refine (hBna.out _ hB).mono ?_
              rintro e w1 ⟨rfl, hB⟩
              go_wp2_with fail
              refine (hSab.out _ hB).mono ?_
              rintro e w1 ⟨rfl, hB⟩
              go_wp2_with fail
              refine (hSbc.out _ hB).mono ?_
              rintro e w1 ⟨rfl, hB⟩
              go_wp2_with fail
              refine (hSac.out _ hB).mono ?_
              rintro e w1 ⟨rfl, hB⟩
              go_wp2_with fail
              refine (hBab.out _ hB).mono ?_
              rintro e w1 ⟨rfl, hB⟩
              go_wp2_with fail
              refine (hBbc.out _ hB).mono ?_
              rintro e w1 ⟨rfl, hB⟩
              go_wp2_with fail
              refine (hBac.out _ hB).mono ?_
              rintro e w1 ⟨rfl, hB⟩
              go_wp2_with fail
              refine (hSab.out _ hB).mono ?_
              rintro e w1 ⟨rfl, hB⟩
              go_wp2_with fail
              refine (hBab.out _ hB).mono ?_
              rintro e w1 ⟨rfl, hB⟩
              go_wp2_with fail
              refine (hBba.out _ hB).mono ?_
              rintro e w1 ⟨rfl, hB⟩
              go_wp2_with fail
              refine (there_any _).mono ?_
              rintro e w3 ⟨rfl, h3⟩
              replace hB := hB.trans (h3.mono hB.size)
              go_wp2
              go_ret
              exact ⟨rfl, hB⟩
  by_cases hz : n = na
  · refine core true (by subst hz; simp) ?_
    rw [decide_eq_true hz] at hBna
    exact hBna
  · refine core false (by rw [beq_eq_false_iff_ne]; intro h; exact hz (by omega)) ?_
    rw [decide_eq_false hz] at hBna
    exact hBna

end Go.Proofs.Ytmfppbamgbfmpab
