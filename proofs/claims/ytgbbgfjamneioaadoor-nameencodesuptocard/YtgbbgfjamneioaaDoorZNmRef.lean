/-
  The document's Alike, Begins and Same of rows of attributes.
-/
import Derived.Test.YtgbbgfjamneioaaDoorZNmRow
import Derived.Test.YtgbbgfjamneioaaDoorZTxSToTxR2
import Derived.Deep.QuietTactic
import Derived.BigQuiet
namespace Go.Proofs.YtgbbgfjamneioaaDoor
open Go.RowKit Go.IntWalk Go.Shelf

theorem bs_ne {a b : ByteArray} (h : a ≠ b) : (a.toList == b.toList) = false := by
  rw [beq_eq_false_iff_ne, ByteArray.toList_eq, ByteArray.toList_eq]
  intro e
  exact h (ByteArray.ext (Array.ext' e))

theorem at_all {A B : List (Int × ByteArray)} (hl : A.length = B.length) (h : ∀ j, j < A.length → A[j]? = B[j]?) : A = B := by
  apply List.ext_getElem? 
  intro j
  by_cases hj : j < A.length
  · exact h j hj
  · rw [List.getElem?_eq_none (by omega), List.getElem?_eq_none (by omega)]
theorem at_key {xs : List (Int × ByteArray)} {i : Nat} (h : i < xs.length) : xs[i]? = some (xs.getD i (0, ByteArray.empty)) := by
  simp [h, List.getD]

set_option maxRecDepth 100000 in
set_option maxHeartbeats 2000000 in
theorem ralike_any (aa : Option Addr) (na ca : Nat) (xs : List (Int × ByteArray)) (ab : Option Addr) (nb cb : Nat) (ys : List (Int × ByteArray)) (w : World) (hA : Ats w aa na ca xs) (hB : Ats w ab nb cb ys) :
    Calls Tryd.prog 35 #[.slice aa na ca, .slice ab nb cb] w fun e w' => e = .returned (.bool (decide (xs = ys))) ∧ Below w.heap.size w w' := by
  have a1 := hA.hcap
  have a2 := hA.hmax
  have b1 := hB.hcap
  have b2 := hB.hmax
  unfold maxLen at a2 b2
  have na1 : (na : Int) ≤ 9223372036854775807 := by omega
  have nb1 : (nb : Int) ≤ 9223372036854775807 := by omega
  have hla := hA.hl
  have hlb := hB.hl
  by_cases hn : na = nb
  · subst hn
    have HA := hide hA
    have HB := hide hB
    have HLA := hide hla
    have HLB := hide hlb
    have hnn : ((na : Int) != (na : Int)) = false := by simp
    clear hA hB a1 a2 b1 b2 hla hlb
    go_enter Tryd.func35, Tryd.ntmps35
    go_wp2
    go_loopw [5] (fun v wr => ∃ i : Nat, i ≤ na ∧ v = .int .i64 i ∧ Below w.heap.size w wr ∧ Hid (∀ j, j < i → xs[j]? = ys[j]?)) (fun v _ => na - (intOf v).toNat)
    case atStart => exact ⟨0, Nat.zero_le _, rfl, Below.refl _ _, fun j hj => absurd hj (by omega)⟩
    case round =>
      obtain ⟨i, hi, rfl, hQ, hE⟩ := hrel
      by_cases hik : i < na
      · obtain ⟨b, off, rfl, hc⟩ := (HA.out.below hQ).hrd (by omega)
        obtain ⟨b', off', rfl, hc'⟩ := (HB.out.below hQ).hrd (by omega)
        obtain ⟨c0, c1⟩ := hc i (by omega)
        obtain ⟨d0, d1⟩ := hc' i (by omega)
        have kx := hide (at_key (xs := xs) (i := i) (by rw [HLA.out]; omega))
        have ky := hide (at_key (xs := ys) (i := i) (by rw [HLB.out]; omega))
        generalize xs.getD i (0, ByteArray.empty) = X at c0 c1 kx
        generalize ys.getD i (0, ByteArray.empty) = Y at d0 d1 ky
        obtain ⟨tx, sx⟩ := X
        obtain ⟨ty, sy⟩ := Y
        simp only [] at c0 c1 d0 d1
        clear hc hc'
        have jk : (i : Int) < (na : Int) := by omega
        have hD := hQ.drew
        by_cases he : tx = ty ∧ sx = sy
        · obtain ⟨rfl, rfl⟩ := he
          have hE' : Hid (∀ j, j < i + 1 → xs[j]? = ys[j]?) := fun j hj => by
            by_cases h : j < i
            · exact hE.out j h
            · obtain rfl : j = i := by omega
              rw [kx.out, ky.out]
          have e1 : (tx != tx) = false := by simp
          have e2 : (sx.toList == sx.toList) = true := by simp
          go_wp2_with fail
          go_region_held3 (fun W => W.cell? ⟨b, off + i * 2, none⟩ = some (.int .i64 tx) ∧ W.cell? ⟨b, off + i * 2 + 1, none⟩ = some (.string sx) ∧ W.cell? ⟨b', off' + i * 2, none⟩ = some (.int .i64 tx) ∧ W.cell? ⟨b', off' + i * 2 + 1, none⟩ = some (.string sx)) (go_keep) (fail)
          all_goals
            go_wp2
            go_roundw
            case rel => exact ⟨i + 1, by omega, by go_num, hD, hE'⟩
            case measure => simp [intOf]; omega
        · have hne : Hid (decide (xs = ys) = false) := by
            unfold Hid
            rw [decide_eq_false_iff_not]
            intro h
            subst h
            have h9 := kx.out.symm.trans ky.out
            simp at h9
            exact he h9
          have hx : tx ≠ ty ∨ (tx = ty ∧ sx ≠ sy) := by
            by_cases h : tx = ty
            · exact .inr ⟨h, fun h2 => he ⟨h, h2⟩⟩
            · exact .inl h
          clear he
          rcases hx with h1 | ⟨rfl, h2⟩
          · have e1 : (tx != ty) = true := by simpa using h1
            go_wp2_with fail
            go_quiet (fail)
            go_wp2
            try simp only [Exit.noGoto_ret]
            go_ret
            exact ⟨by rw [hne.out]; rfl, by exact ⟨hQ.os, hQ.tape, hQ.output, hQ.size, hQ.block⟩⟩
          · have e1 : (tx != tx) = false := by simp
            have e2 := bs_ne h2
            go_wp2_with fail
            go_region_held3 (fun W => W.cell? ⟨b, off + i * 2, none⟩ = some (.int .i64 tx) ∧ W.cell? ⟨b, off + i * 2 + 1, none⟩ = some (.string sx) ∧ W.cell? ⟨b', off' + i * 2, none⟩ = some (.int .i64 tx) ∧ W.cell? ⟨b', off' + i * 2 + 1, none⟩ = some (.string sy)) (go_keep) (fail)
            all_goals
              go_wp2
              try simp only [Exit.noGoto_ret]
              go_ret
              exact ⟨by rw [hne.out]; rfl, hD⟩
      · obtain rfl : i = na := by omega
        have jk : ¬ (i : Int) < (i : Int) := by omega
        have hyes : Hid (decide (xs = ys) = true) := by
          unfold Hid
          rw [decide_eq_true_iff]
          exact at_all (by rw [HLA.out, HLB.out]) (fun j hj => hE.out j (by rw [HLA.out] at hj; exact hj))
        go_wp2
        try simp only [Exit.noGoto_ret]
        go_ret
        exact ⟨by rw [hyes.out]; rfl, hQ⟩
  · have hne : Hid (decide (xs = ys) = false) := by
      unfold Hid
      rw [decide_eq_false_iff_not]
      intro h
      subst h
      omega
    have hnn : ((na : Int) != (nb : Int)) = true := by simpa using (show ¬ (na : Int) = (nb : Int) by omega)
    clear hla hlb a1 a2 b1 b2 hA hB
    go_enter Tryd.func35, Tryd.ntmps35
    go_wp2
    try simp only [Exit.noGoto_ret]
    go_ret
    exact ⟨by rw [hne.out]; rfl, Below.refl _ _⟩

end Go.Proofs.YtgbbgfjamneioaaDoor
