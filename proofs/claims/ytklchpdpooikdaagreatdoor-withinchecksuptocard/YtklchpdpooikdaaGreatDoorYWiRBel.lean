/-
  The document's within: Below.
-/
import Derived.Test.YtklchpdpooikdaaGreatDoorYWiRBitToHoR4
import Derived.Test.YtklchpdpooikdaaGreatDoorYWiMToWiRule
import Derived.Deep.RegionHeld3
namespace Go.Proofs.YtklchpdpooikdaaGreatDoor
open Go.RowKit Go.IntWalk

def SRel (LA LB : List (List UInt8)) (k : Nat) : Prop := LA.drop (LA.length - (k - 1)) = LB.drop (LB.length - (k - 1))
theorem srel_start (LA LB : List (List UInt8)) : SRel LA LB 1 := by unfold SRel; simp
theorem srel_step {LA LB : List (List UInt8)} {k : Nat} (h1 : 1 ≤ k) (hA : k ≤ LA.length) (hB : k ≤ LB.length) (h : SRel LA LB k) (he : LA[LA.length - k]'(by omega) = LB[LB.length - k]'(by omega)) : SRel LA LB (k + 1) := by
  unfold SRel at *
  have dA : LA.drop (LA.length - k) = LA[LA.length - k]'(by omega) :: LA.drop (LA.length - k + 1) := List.drop_eq_getElem_cons (by omega)
  have dB : LB.drop (LB.length - k) = LB[LB.length - k]'(by omega) :: LB.drop (LB.length - k + 1) := List.drop_eq_getElem_cons (by omega)
  rw [show k + 1 - 1 = k by omega, dA, dB, he, show LA.length - k + 1 = LA.length - (k - 1) by omega, show LB.length - k + 1 = LB.length - (k - 1) by omega, h]
theorem srel_bad {LA LB : List (List UInt8)} {k : Nat} (h1 : 1 ≤ k) (hA : k ≤ LA.length) (hB : k ≤ LB.length) (he : LA[LA.length - k]'(by omega) ≠ LB[LB.length - k]'(by omega)) : LB.isSuffixOf LA = false := by
  cases hq : LB.isSuffixOf LA with
  | false => rfl
  | true =>
    obtain ⟨t, rfl⟩ := List.isSuffixOf_iff_suffix.1 hq
    refine absurd ?_ he
    rw [List.getElem_append_right (by rw [List.length_append]; omega)]
    congr 1
    rw [List.length_append]
    omega
theorem srel_long {LA LB : List (List UInt8)} (h : LA.length < LB.length) : LB.isSuffixOf LA = false := by
  cases hq : LB.isSuffixOf LA with
  | false => rfl
  | true => have := (List.isSuffixOf_iff_suffix.1 hq).length_le; omega
theorem srel_end {LA LB : List (List UInt8)} (h : SRel LA LB (LB.length + 1)) : LB.isSuffixOf LA = true := by
  unfold SRel at h
  rw [show LB.length + 1 - 1 = LB.length by omega, Nat.sub_self, List.drop_zero] at h
  exact List.isSuffixOf_iff_suffix.2 ⟨_, by rw [← h]; exact List.take_append_drop _ _⟩

set_option maxRecDepth 100000 in
set_option maxHeartbeats 4000000 in
theorem refBelow_any (a b : List UInt8) (ha : a.length ≤ 1048576) (hb : b.length ≤ 1048576) (w : World) :
    Calls Tryz.prog 42 #[.string (tx a), .string (tx b)] w fun e w' => e = .returned (.bool (belB a b)) ∧ Below w.heap.size w w' := by
  have hM : Hid (belB a b = (dnsL a && (dnsL b && (labs (smallL b)).isSuffixOf (labs (smallL a))))) := bel_labs a b
  have d1 := hide (fun W => refDNS_any (tx a) (by rw [tx_size]; exact ha) W)
  have d2 := hide (fun W => refDNS_any (tx b) (by rw [tx_size]; exact hb) W)
  have m1 := hide (fun W => refSmall_any (tx a) (by rw [tx_size]; exact ha) W)
  have m2 := hide (fun W => refSmall_any (tx b) (by rw [tx_size]; exact hb) W)
  have l1 := hide (fun W => refLabels_any (tx (smallL a)) (by rw [tx_size, smallH_len]; exact ha) W)
  have l2 := hide (fun W => refLabels_any (tx (smallL b)) (by rw [tx_size, smallH_len]; exact hb) W)
  have hlA : Hid ((labs (smallL a)).length ≤ 1048577) := by unfold Hid; have := labsG_len (smallL a) []; rw [smallH_len] at this; unfold labs; omega
  have hlB : Hid ((labs (smallL b)).length ≤ 1048577) := by unfold Hid; have := labsG_len (smallL b) []; rw [smallH_len] at this; unfold labs; omega
  have hpA : Hid (0 < (labs (smallL a)).length) := List.length_pos_iff.2 (labsG_ne _ _)
  have hpB : Hid (0 < (labs (smallL b)).length) := List.length_pos_iff.2 (labsG_ne _ _)
  have htx := hide (fun a b => eq_toList a b)
  have BB := hide (Below.refl w.heap.size w)
  rw [tx_list] at d1 d2 m1 m2 l1 l2
  clear ha hb
  generalize labs (smallL a) = LA at *
  generalize labs (smallL b) = LB at *
  generalize smallL a = sa at *
  generalize smallL b = sb at *
  generalize dnsL a = b1 at *
  generalize dnsL b = b2 at *
  generalize belB a b = R at *
  generalize tx a = A at *
  generalize tx b = B at *
  cases b1 with
  | false =>
    have hR : Hid (R = false) := hM.out
    go_enter Tryz.func42, Tryz.ntmps42
    go_wp2_with fail
    refine (d1.out _).mono ?_
    rintro e w1 ⟨rfl, B1⟩
    replace BB := hide (BB.out.trans (B1.mono BB.out.size))
    clear B1
    go_wp2
    go_ret
    exact ⟨by rw [hR.out]; rfl, BB.out⟩
  | true =>
    cases b2 with
    | false =>
      have hR : Hid (R = false) := hM.out
      go_enter Tryz.func42, Tryz.ntmps42
      go_wp2_with fail
      refine (d1.out _).mono ?_
      rintro e w1 ⟨rfl, B1⟩
      replace BB := hide (BB.out.trans (B1.mono BB.out.size))
      clear B1
      go_wp2_with fail
      refine (d2.out _).mono ?_
      rintro e w1 ⟨rfl, B1⟩
      replace BB := hide (BB.out.trans (B1.mono BB.out.size))
      clear B1
      go_wp2
      go_ret
      exact ⟨by rw [hR.out]; rfl, BB.out⟩
    | true =>
      have hR : Hid (R = LB.isSuffixOf LA) := hM.out
      go_enter Tryz.func42, Tryz.ntmps42
      go_wp2_with fail
      refine (d1.out _).mono ?_
      rintro e w1 ⟨rfl, B1⟩
      replace BB := hide (BB.out.trans (B1.mono BB.out.size))
      clear B1
      go_wp2_with fail
      refine (d2.out _).mono ?_
      rintro e w1 ⟨rfl, B1⟩
      replace BB := hide (BB.out.trans (B1.mono BB.out.size))
      clear B1
      go_wp2_with fail
      refine (m1.out _).mono ?_
      rintro e w1 ⟨rfl, B1⟩
      replace BB := hide (BB.out.trans (B1.mono BB.out.size))
      clear B1
      go_wp2_with fail
      refine (l1.out _).mono ?_
      rintro e w4 ⟨aA, cA, rfl, oA, B1⟩
      replace BB := hide (BB.out.trans (B1.mono BB.out.size))
      clear B1
      go_wp2_with fail
      refine (m2.out _).mono ?_
      rintro e w5 ⟨rfl, B5⟩
      replace BB := hide (BB.out.trans (B5.mono BB.out.size))
      go_wp2_with fail
      refine (l2.out _).mono ?_
      rintro e w6 ⟨aB, cB, rfl, oB, B6⟩
      replace BB := hide (BB.out.trans (B6.mono BB.out.size))
      go_wp2
      have oA7 := (oA.belowA B5).belowA B6
      obtain ⟨ga, rfl⟩ : ∃ g, aA = some ⟨g, 0, none⟩ := by
        rcases oA7.split with ⟨_, h⟩ | ⟨g, cap, h, _⟩
        · have h2 : (txs LA).length = 0 := by rw [h]; rfl
          rw [txs_len] at h2; have := hpA.out; omega
        · exact ⟨g, (Value.slice.inj h).1⟩
      obtain ⟨gb, rfl⟩ : ∃ g, aB = some ⟨g, 0, none⟩ := by
        rcases oB.split with ⟨_, h⟩ | ⟨g, cap, h, _⟩
        · have h2 : (txs LB).length = 0 := by rw [h]; rfl
          rw [txs_len] at h2; have := hpB.out; omega
        · exact ⟨g, (Value.slice.inj h).1⟩
      have ca : Hid (∀ (k : Nat) (hk : k < LA.length), w6.cell? ⟨ga, k, none⟩ = some (.string (tx (LA[k]'hk)))) := fun k hk => by
        have h := oA7.cells k _ (txs_get LA k hk)
        rwa [Nat.zero_add] at h
      have cb : Hid (∀ (k : Nat) (hk : k < LB.length), w6.cell? ⟨gb, k, none⟩ = some (.string (tx (LB[k]'hk)))) := fun k hk => by
        have h := oB.cells k _ (txs_get LB k hk)
        rwa [Nat.zero_add] at h
      clear oA oA7 oB B5 B6 hM d1 d2 m1 m2 l1 l2
      go_loopw [7] (fun i wr => ∃ k : Nat, i = .int .i64 k ∧ 1 ≤ k ∧ k ≤ LB.length + 1 ∧ Hid (SRel LA LB k) ∧ Hid (Drawn w6 wr)) (fun i _ => LB.length + 1 - (intOf i).toNat)
      case atStart => exact ⟨1, rfl, Nat.le_refl _, by omega, srel_start LA LB, Drawn.refl _⟩
      case round =>
        obtain ⟨k, rfl, h1k, hk, hE, HD⟩ := hrel
        by_cases hlt : k ≤ LB.length
        · have hkb : k ≤ 1048577 := by have := hlB.out; omega
          have hltI : (k : Int) ≤ (LB.length : Int) := by omega
          by_cases hlA2 : k ≤ LA.length
          · have hgI : ¬ (LA.length : Int) < (k : Int) := by omega
            have hiA : IntKind.i64.wrap ((LA.length : Int) - (k : Int)) = ((LA.length - k : Nat) : Int) := by have := hlA.out; rw [i64_in _ (by omega)]; omega
            have hiB : IntKind.i64.wrap ((LB.length : Int) - (k : Int)) = ((LB.length - k : Nat) : Int) := by have := hlB.out; rw [i64_in _ (by omega)]; omega
            have jA : ((LA.length - k : Nat) : Int) < (LA.length : Int) := by omega
            have jB : ((LB.length - k : Nat) : Int) < (LB.length : Int) := by omega
            have c1 := (HD.out.cell ⟨ga, LA.length - k, none⟩).trans (ca.out (LA.length - k) (by omega))
            have c2 := (HD.out.cell ⟨gb, LB.length - k, none⟩).trans (cb.out (LB.length - k) (by omega))
            have hlA3 : LA.length - k < LA.length := by omega
            have hlB3 : LB.length - k < LB.length := by omega
            have hgood := hide (srel_step h1k hlA2 hlt hE.out)
            have hbad := hide (srel_bad h1k hlA2 hlt)
            have hq := htx.out (LA[LA.length - k]'(by omega)) (LB[LB.length - k]'(by omega))
            generalize LA[LA.length - k]'(by omega) = u at hgood hbad hq c1
            generalize LB[LB.length - k]'(by omega) = v at hgood hbad hq c2
            clear hE
            by_cases huv : u = v
            · have hF := hide (hgood.out huv)
              rw [decide_eq_true huv] at hq
              clear hgood hbad huv
              have hq2 : (!((tx u).toList == (tx v).toList)) = false := by rw [hq]; rfl
              go_wp2_with fail
              refine wp_region_held_drew (S := fun W => W.cell? ⟨ga, LA.length - k, none⟩ = some (.string (tx u)) ∧ W.cell? ⟨gb, LB.length - k, none⟩ = some (.string (tx v))) (by kernel_rfl) ⟨c1, c2⟩ (fun hS0 => ?_)
              refine wpAnyH_take (i := 0) (v := ?_) rfl (by kernel_rfl) (by kernel_rfl) (by kernel_rfl) (fun _ _ _ h => h) (Or.inl ⟨by rfl, ?_⟩) (by assumption) ?_
              rotate_left
              · intro wq hSq
                go_simp
                try with_reducible rfl
              simp only [List.getElem_toArray, List.getElem_cons_zero, Act.put, List.setIfInBounds_toArray, List.set_cons_zero, List.set_cons_succ]
              refine wpAnyH_take (i := 1) (v := ?_) rfl (by kernel_rfl) (by kernel_rfl) (by kernel_rfl) (fun _ _ _ h => h) (Or.inl ⟨by rfl, ?_⟩) (by assumption) ?_
              rotate_left
              · intro wq hSq
                obtain ⟨r0, r1⟩ := hSq
                go_simp
                try with_reducible rfl
              simp only [List.getElem_toArray, List.getElem_cons_succ, List.getElem_cons_zero, Act.put, List.setIfInBounds_toArray, List.set_cons_zero, List.set_cons_succ]
              refine wpAnyH_take (i := 2) (v := ?_) rfl (by kernel_rfl) (by kernel_rfl) (by kernel_rfl) (fun _ _ _ h => h) (Or.inl ⟨by rfl, ?_⟩) (by assumption) ?_
              rotate_left
              · intro wq hSq
                obtain ⟨r0, r1⟩ := hSq
                go_simp
                try with_reducible rfl
              simp only [List.getElem_toArray, List.getElem_cons_succ, List.getElem_cons_zero, Act.put, List.setIfInBounds_toArray, List.set_cons_zero, List.set_cons_succ]
              refine wpAnyH_take (i := 3) (v := .bool false) rfl (by kernel_rfl) (by kernel_rfl) (by kernel_rfl) (fun _ _ _ h => h) (Or.inl ⟨by rfl, ?_⟩) (by assumption) ?_
              · intro wq hSq
                obtain ⟨r0, r1⟩ := hSq
                go_simp
              simp only [List.getElem_toArray, List.getElem_cons_succ, List.getElem_cons_zero, Act.put, List.setIfInBounds_toArray, List.set_cons_zero, List.set_cons_succ]
              refine wpAnyH_take (i := 4) (v := ?_) rfl (by kernel_rfl) (by kernel_rfl) (by kernel_rfl) (fun _ _ _ h => h) (Or.inl ⟨by rfl, ?_⟩) (by assumption) ?_
              rotate_left
              · intro wq hSq
                obtain ⟨r0, r1⟩ := hSq
                go_simp
                try with_reducible rfl
              simp only [List.getElem_toArray, List.getElem_cons_succ, List.getElem_cons_zero, Act.put, List.setIfInBounds_toArray, List.set_cons_zero, List.set_cons_succ]
              refine wpAnyH_take (i := 5) (v := ?_) rfl (by kernel_rfl) (by kernel_rfl) (by kernel_rfl) (fun _ _ _ h => h) (Or.inl ⟨by rfl, ?_⟩) (by assumption) ?_
              rotate_left
              · intro wq hSq
                obtain ⟨r0, r1⟩ := hSq
                go_simp
                try with_reducible rfl
              simp only [List.getElem_toArray, List.getElem_cons_succ, List.getElem_cons_zero, Act.put, List.setIfInBounds_toArray, List.set_cons_zero, List.set_cons_succ]
              refine wpAnyH_take (i := 6) (v := ?_) rfl (by kernel_rfl) (by kernel_rfl) (by kernel_rfl) (fun _ _ _ h => h) (Or.inl ⟨by rfl, ?_⟩) (by assumption) ?_
              rotate_left
              · intro wq hSq
                obtain ⟨r0, r1⟩ := hSq
                go_simp
                try with_reducible rfl
              simp only [List.getElem_toArray, List.getElem_cons_succ, List.getElem_cons_zero, Act.put, List.setIfInBounds_toArray, List.set_cons_zero, List.set_cons_succ]
              refine wpAnyH_take (i := 7) (v := ?_) rfl (by kernel_rfl) (by kernel_rfl) (by kernel_rfl) (fun _ _ _ h => h) (Or.inl ⟨by rfl, ?_⟩) (by assumption) ?_
              rotate_left
              · intro wq hSq
                obtain ⟨r0, r1⟩ := hSq
                go_simp
                try with_reducible rfl
              simp only [List.getElem_toArray, List.getElem_cons_succ, List.getElem_cons_zero, Act.put, List.setIfInBounds_toArray, List.set_cons_zero, List.set_cons_succ]
              refine wpAnyH_take (i := 8) (v := ?_) rfl (by kernel_rfl) (by kernel_rfl) (by kernel_rfl) (fun _ _ _ h => h) (Or.inl ⟨by rfl, ?_⟩) (by assumption) ?_
              rotate_left
              · intro wq hSq
                obtain ⟨r0, r1⟩ := hSq
                go_simp
                try with_reducible rfl
              simp only [List.getElem_toArray, List.getElem_cons_succ, List.getElem_cons_zero, Act.put, List.setIfInBounds_toArray, List.set_cons_zero, List.set_cons_succ]
              refine wpAnyH_take (i := 9) (v := ?_) rfl (by kernel_rfl) (by kernel_rfl) (by kernel_rfl) (fun _ _ _ h => h) (Or.inl ⟨by rfl, ?_⟩) (by assumption) ?_
              rotate_left
              · intro wq hSq
                obtain ⟨r0, r1⟩ := hSq
                go_simp
                try with_reducible rfl
              simp only [List.getElem_toArray, List.getElem_cons_succ, List.getElem_cons_zero, Act.put, List.setIfInBounds_toArray, List.set_cons_zero, List.set_cons_succ]
              refine wpAnyH_take (i := 10) (v := ?_) rfl (by kernel_rfl) (by kernel_rfl) (by kernel_rfl) (fun _ _ _ h => h) (Or.inl ⟨by rfl, ?_⟩) (by assumption) ?_
              rotate_left
              · intro wq hSq
                obtain ⟨r0, r1⟩ := hSq
                go_simp
                try with_reducible rfl
              simp only [List.getElem_toArray, List.getElem_cons_succ, List.getElem_cons_zero, Act.put, List.setIfInBounds_toArray, List.set_cons_zero, List.set_cons_succ]
              refine wpAnyH_take (i := 11) (v := ?_) rfl (by kernel_rfl) (by kernel_rfl) (by kernel_rfl) (fun _ _ _ h => h) (Or.inl ⟨by rfl, ?_⟩) (by assumption) ?_
              rotate_left
              · intro wq hSq
                obtain ⟨r0, r1⟩ := hSq
                go_simp
                try with_reducible rfl
              simp only [List.getElem_toArray, List.getElem_cons_succ, List.getElem_cons_zero, Act.put, List.setIfInBounds_toArray, List.set_cons_zero, List.set_cons_succ]
              refine wpAnyH_take (i := 12) (v := ?_) rfl (by kernel_rfl) (by kernel_rfl) (by kernel_rfl) (fun _ _ _ h => h) (Or.inl ⟨by rfl, ?_⟩) (by assumption) ?_
              rotate_left
              · intro wq hSq
                obtain ⟨r0, r1⟩ := hSq
                go_simp
                try with_reducible rfl
              simp only [List.getElem_toArray, List.getElem_cons_succ, List.getElem_cons_zero, Act.put, List.setIfInBounds_toArray, List.set_cons_zero, List.set_cons_succ]
              refine wpAnyH_take (i := 13) (v := ?_) rfl (by kernel_rfl) (by kernel_rfl) (by kernel_rfl) (fun _ _ _ h => h) (Or.inl ⟨by rfl, ?_⟩) (by assumption) ?_
              rotate_left
              · intro wq hSq
                obtain ⟨r0, r1⟩ := hSq
                go_simp
                try with_reducible rfl
              simp only [List.getElem_toArray, List.getElem_cons_succ, List.getElem_cons_zero, Act.put, List.setIfInBounds_toArray, List.set_cons_zero, List.set_cons_succ]
              refine wpAnyH_take (i := 14) (v := ?_) rfl (by kernel_rfl) (by kernel_rfl) (by kernel_rfl) (fun _ _ _ h => h) (Or.inl ⟨by rfl, ?_⟩) (by assumption) ?_
              rotate_left
              · intro wq hSq
                obtain ⟨r0, r1⟩ := hSq
                go_simp
                try with_reducible rfl
              simp only [List.getElem_toArray, List.getElem_cons_succ, List.getElem_cons_zero, Act.put, List.setIfInBounds_toArray, List.set_cons_zero, List.set_cons_succ]
              refine wpAnyH_take (i := 15) (v := ?_) rfl (by kernel_rfl) (by kernel_rfl) (by kernel_rfl) (fun _ _ _ h => h) (Or.inl ⟨by rfl, ?_⟩) (by assumption) ?_
              rotate_left
              · intro wq hSq
                obtain ⟨r0, r1⟩ := hSq
                go_simp
                try with_reducible rfl
              simp only [List.getElem_toArray, List.getElem_cons_succ, List.getElem_cons_zero, Act.put, List.setIfInBounds_toArray, List.set_cons_zero, List.set_cons_succ]
              refine wpAnyH_take (i := 16) (v := ?_) rfl (by kernel_rfl) (by kernel_rfl) (by kernel_rfl) (fun _ _ _ h => h) (Or.inl ⟨by rfl, ?_⟩) (by assumption) ?_
              rotate_left
              · intro wq hSq
                obtain ⟨r0, r1⟩ := hSq
                go_simp
                try with_reducible rfl
              simp only [List.getElem_toArray, List.getElem_cons_succ, List.getElem_cons_zero, Act.put, List.setIfInBounds_toArray, List.set_cons_zero, List.set_cons_succ]
              refine wpAnyH_take (i := 17) (v := ?_) rfl (by kernel_rfl) (by kernel_rfl) (by kernel_rfl) (fun _ _ _ h => h) (Or.inl ⟨by rfl, ?_⟩) (by assumption) ?_
              rotate_left
              · intro wq hSq
                obtain ⟨r0, r1⟩ := hSq
                go_simp
                try with_reducible rfl
              simp only [List.getElem_toArray, List.getElem_cons_succ, List.getElem_cons_zero, Act.put, List.setIfInBounds_toArray, List.set_cons_zero, List.set_cons_succ]
              refine wpAnyH_take (i := 18) (v := ?_) rfl (by kernel_rfl) (by kernel_rfl) (by kernel_rfl) (fun _ _ _ h => h) (Or.inl ⟨by rfl, ?_⟩) (by assumption) ?_
              rotate_left
              · intro wq hSq
                obtain ⟨r0, r1⟩ := hSq
                go_simp
                try with_reducible rfl
              simp only [List.getElem_toArray, List.getElem_cons_succ, List.getElem_cons_zero, Act.put, List.setIfInBounds_toArray, List.set_cons_zero, List.set_cons_succ]
              refine wpAnyH_take (i := 19) (v := .bool false) rfl (by kernel_rfl) (by kernel_rfl) (by kernel_rfl) (fun _ _ _ h => h) (Or.inl ⟨by rfl, ?_⟩) (by assumption) ?_
              · intro wq hSq
                obtain ⟨r0, r1⟩ := hSq
                go_simp
              simp only [List.getElem_toArray, List.getElem_cons_succ, List.getElem_cons_zero, Act.put, List.setIfInBounds_toArray, List.set_cons_zero, List.set_cons_succ]
              refine wpAnyH_take (i := 20) (v := ?_) rfl (by kernel_rfl) (by kernel_rfl) (by kernel_rfl) (fun _ _ _ h => h) (Or.inl ⟨by rfl, ?_⟩) (by assumption) ?_
              rotate_left
              · intro wq hSq
                obtain ⟨r0, r1⟩ := hSq
                go_simp
                try with_reducible rfl
              simp only [List.getElem_toArray, List.getElem_cons_succ, List.getElem_cons_zero, Act.put, List.setIfInBounds_toArray, List.set_cons_zero, List.set_cons_succ]
              refine wpAnyH_done (by kernel_rfl) ?_ _
              go_wp2
              go_roundw
              case rel => exact ⟨k + 1, by simp, by omega, by omega, hF, HD.out.more 1⟩
              case measure => simp [intOf]; omega
            · have hF : Hid (R = false) := by unfold Hid; rw [hR.out]; exact hbad.out huv
              rw [decide_eq_false huv] at hq
              clear hgood hbad huv
              have hq2 : (!((tx u).toList == (tx v).toList)) = true := by rw [hq]; rfl
              go_wp2_with fail
              refine wp_region_held_drew (S := fun W => W.cell? ⟨ga, LA.length - k, none⟩ = some (.string (tx u)) ∧ W.cell? ⟨gb, LB.length - k, none⟩ = some (.string (tx v))) (by kernel_rfl) ⟨c1, c2⟩ (fun hS0 => ?_)
              refine wpAnyH_take (i := 0) (v := ?_) rfl (by kernel_rfl) (by kernel_rfl) (by kernel_rfl) (fun _ _ _ h => h) (Or.inl ⟨by rfl, ?_⟩) (by assumption) ?_
              rotate_left
              · intro wq hSq
                go_simp
                try with_reducible rfl
              simp only [List.getElem_toArray, List.getElem_cons_zero, Act.put, List.setIfInBounds_toArray, List.set_cons_zero, List.set_cons_succ]
              refine wpAnyH_take (i := 1) (v := ?_) rfl (by kernel_rfl) (by kernel_rfl) (by kernel_rfl) (fun _ _ _ h => h) (Or.inl ⟨by rfl, ?_⟩) (by assumption) ?_
              rotate_left
              · intro wq hSq
                obtain ⟨r0, r1⟩ := hSq
                go_simp
                try with_reducible rfl
              simp only [List.getElem_toArray, List.getElem_cons_succ, List.getElem_cons_zero, Act.put, List.setIfInBounds_toArray, List.set_cons_zero, List.set_cons_succ]
              refine wpAnyH_take (i := 2) (v := ?_) rfl (by kernel_rfl) (by kernel_rfl) (by kernel_rfl) (fun _ _ _ h => h) (Or.inl ⟨by rfl, ?_⟩) (by assumption) ?_
              rotate_left
              · intro wq hSq
                obtain ⟨r0, r1⟩ := hSq
                go_simp
                try with_reducible rfl
              simp only [List.getElem_toArray, List.getElem_cons_succ, List.getElem_cons_zero, Act.put, List.setIfInBounds_toArray, List.set_cons_zero, List.set_cons_succ]
              refine wpAnyH_take (i := 3) (v := .bool false) rfl (by kernel_rfl) (by kernel_rfl) (by kernel_rfl) (fun _ _ _ h => h) (Or.inl ⟨by rfl, ?_⟩) (by assumption) ?_
              · intro wq hSq
                obtain ⟨r0, r1⟩ := hSq
                go_simp
              simp only [List.getElem_toArray, List.getElem_cons_succ, List.getElem_cons_zero, Act.put, List.setIfInBounds_toArray, List.set_cons_zero, List.set_cons_succ]
              refine wpAnyH_take (i := 4) (v := ?_) rfl (by kernel_rfl) (by kernel_rfl) (by kernel_rfl) (fun _ _ _ h => h) (Or.inl ⟨by rfl, ?_⟩) (by assumption) ?_
              rotate_left
              · intro wq hSq
                obtain ⟨r0, r1⟩ := hSq
                go_simp
                try with_reducible rfl
              simp only [List.getElem_toArray, List.getElem_cons_succ, List.getElem_cons_zero, Act.put, List.setIfInBounds_toArray, List.set_cons_zero, List.set_cons_succ]
              refine wpAnyH_take (i := 5) (v := ?_) rfl (by kernel_rfl) (by kernel_rfl) (by kernel_rfl) (fun _ _ _ h => h) (Or.inl ⟨by rfl, ?_⟩) (by assumption) ?_
              rotate_left
              · intro wq hSq
                obtain ⟨r0, r1⟩ := hSq
                go_simp
                try with_reducible rfl
              simp only [List.getElem_toArray, List.getElem_cons_succ, List.getElem_cons_zero, Act.put, List.setIfInBounds_toArray, List.set_cons_zero, List.set_cons_succ]
              refine wpAnyH_take (i := 6) (v := ?_) rfl (by kernel_rfl) (by kernel_rfl) (by kernel_rfl) (fun _ _ _ h => h) (Or.inl ⟨by rfl, ?_⟩) (by assumption) ?_
              rotate_left
              · intro wq hSq
                obtain ⟨r0, r1⟩ := hSq
                go_simp
                try with_reducible rfl
              simp only [List.getElem_toArray, List.getElem_cons_succ, List.getElem_cons_zero, Act.put, List.setIfInBounds_toArray, List.set_cons_zero, List.set_cons_succ]
              refine wpAnyH_take (i := 7) (v := ?_) rfl (by kernel_rfl) (by kernel_rfl) (by kernel_rfl) (fun _ _ _ h => h) (Or.inl ⟨by rfl, ?_⟩) (by assumption) ?_
              rotate_left
              · intro wq hSq
                obtain ⟨r0, r1⟩ := hSq
                go_simp
                try with_reducible rfl
              simp only [List.getElem_toArray, List.getElem_cons_succ, List.getElem_cons_zero, Act.put, List.setIfInBounds_toArray, List.set_cons_zero, List.set_cons_succ]
              refine wpAnyH_take (i := 8) (v := ?_) rfl (by kernel_rfl) (by kernel_rfl) (by kernel_rfl) (fun _ _ _ h => h) (Or.inl ⟨by rfl, ?_⟩) (by assumption) ?_
              rotate_left
              · intro wq hSq
                obtain ⟨r0, r1⟩ := hSq
                go_simp
                try with_reducible rfl
              simp only [List.getElem_toArray, List.getElem_cons_succ, List.getElem_cons_zero, Act.put, List.setIfInBounds_toArray, List.set_cons_zero, List.set_cons_succ]
              refine wpAnyH_take (i := 9) (v := ?_) rfl (by kernel_rfl) (by kernel_rfl) (by kernel_rfl) (fun _ _ _ h => h) (Or.inl ⟨by rfl, ?_⟩) (by assumption) ?_
              rotate_left
              · intro wq hSq
                obtain ⟨r0, r1⟩ := hSq
                go_simp
                try with_reducible rfl
              simp only [List.getElem_toArray, List.getElem_cons_succ, List.getElem_cons_zero, Act.put, List.setIfInBounds_toArray, List.set_cons_zero, List.set_cons_succ]
              refine wpAnyH_take (i := 10) (v := ?_) rfl (by kernel_rfl) (by kernel_rfl) (by kernel_rfl) (fun _ _ _ h => h) (Or.inl ⟨by rfl, ?_⟩) (by assumption) ?_
              rotate_left
              · intro wq hSq
                obtain ⟨r0, r1⟩ := hSq
                go_simp
                try with_reducible rfl
              simp only [List.getElem_toArray, List.getElem_cons_succ, List.getElem_cons_zero, Act.put, List.setIfInBounds_toArray, List.set_cons_zero, List.set_cons_succ]
              refine wpAnyH_take (i := 11) (v := ?_) rfl (by kernel_rfl) (by kernel_rfl) (by kernel_rfl) (fun _ _ _ h => h) (Or.inl ⟨by rfl, ?_⟩) (by assumption) ?_
              rotate_left
              · intro wq hSq
                obtain ⟨r0, r1⟩ := hSq
                go_simp
                try with_reducible rfl
              simp only [List.getElem_toArray, List.getElem_cons_succ, List.getElem_cons_zero, Act.put, List.setIfInBounds_toArray, List.set_cons_zero, List.set_cons_succ]
              refine wpAnyH_take (i := 12) (v := ?_) rfl (by kernel_rfl) (by kernel_rfl) (by kernel_rfl) (fun _ _ _ h => h) (Or.inl ⟨by rfl, ?_⟩) (by assumption) ?_
              rotate_left
              · intro wq hSq
                obtain ⟨r0, r1⟩ := hSq
                go_simp
                try with_reducible rfl
              simp only [List.getElem_toArray, List.getElem_cons_succ, List.getElem_cons_zero, Act.put, List.setIfInBounds_toArray, List.set_cons_zero, List.set_cons_succ]
              refine wpAnyH_take (i := 13) (v := ?_) rfl (by kernel_rfl) (by kernel_rfl) (by kernel_rfl) (fun _ _ _ h => h) (Or.inl ⟨by rfl, ?_⟩) (by assumption) ?_
              rotate_left
              · intro wq hSq
                obtain ⟨r0, r1⟩ := hSq
                go_simp
                try with_reducible rfl
              simp only [List.getElem_toArray, List.getElem_cons_succ, List.getElem_cons_zero, Act.put, List.setIfInBounds_toArray, List.set_cons_zero, List.set_cons_succ]
              refine wpAnyH_take (i := 14) (v := ?_) rfl (by kernel_rfl) (by kernel_rfl) (by kernel_rfl) (fun _ _ _ h => h) (Or.inl ⟨by rfl, ?_⟩) (by assumption) ?_
              rotate_left
              · intro wq hSq
                obtain ⟨r0, r1⟩ := hSq
                go_simp
                try with_reducible rfl
              simp only [List.getElem_toArray, List.getElem_cons_succ, List.getElem_cons_zero, Act.put, List.setIfInBounds_toArray, List.set_cons_zero, List.set_cons_succ]
              refine wpAnyH_take (i := 15) (v := ?_) rfl (by kernel_rfl) (by kernel_rfl) (by kernel_rfl) (fun _ _ _ h => h) (Or.inl ⟨by rfl, ?_⟩) (by assumption) ?_
              rotate_left
              · intro wq hSq
                obtain ⟨r0, r1⟩ := hSq
                go_simp
                try with_reducible rfl
              simp only [List.getElem_toArray, List.getElem_cons_succ, List.getElem_cons_zero, Act.put, List.setIfInBounds_toArray, List.set_cons_zero, List.set_cons_succ]
              refine wpAnyH_take (i := 16) (v := ?_) rfl (by kernel_rfl) (by kernel_rfl) (by kernel_rfl) (fun _ _ _ h => h) (Or.inl ⟨by rfl, ?_⟩) (by assumption) ?_
              rotate_left
              · intro wq hSq
                obtain ⟨r0, r1⟩ := hSq
                go_simp
                try with_reducible rfl
              simp only [List.getElem_toArray, List.getElem_cons_succ, List.getElem_cons_zero, Act.put, List.setIfInBounds_toArray, List.set_cons_zero, List.set_cons_succ]
              refine wpAnyH_take (i := 17) (v := ?_) rfl (by kernel_rfl) (by kernel_rfl) (by kernel_rfl) (fun _ _ _ h => h) (Or.inl ⟨by rfl, ?_⟩) (by assumption) ?_
              rotate_left
              · intro wq hSq
                obtain ⟨r0, r1⟩ := hSq
                go_simp
                try with_reducible rfl
              simp only [List.getElem_toArray, List.getElem_cons_succ, List.getElem_cons_zero, Act.put, List.setIfInBounds_toArray, List.set_cons_zero, List.set_cons_succ]
              refine wpAnyH_take (i := 18) (v := ?_) rfl (by kernel_rfl) (by kernel_rfl) (by kernel_rfl) (fun _ _ _ h => h) (Or.inl ⟨by rfl, ?_⟩) (by assumption) ?_
              rotate_left
              · intro wq hSq
                obtain ⟨r0, r1⟩ := hSq
                go_simp
                try with_reducible rfl
              simp only [List.getElem_toArray, List.getElem_cons_succ, List.getElem_cons_zero, Act.put, List.setIfInBounds_toArray, List.set_cons_zero, List.set_cons_succ]
              refine wpAnyH_take (i := 19) (v := .bool true) rfl (by kernel_rfl) (by kernel_rfl) (by kernel_rfl) (fun _ _ _ h => h) (Or.inl ⟨by rfl, ?_⟩) (by assumption) ?_
              · intro wq hSq
                obtain ⟨r0, r1⟩ := hSq
                go_simp
              simp only [List.getElem_toArray, List.getElem_cons_succ, List.getElem_cons_zero, Act.put, List.setIfInBounds_toArray, List.set_cons_zero, List.set_cons_succ]
              refine wpAnyH_take (i := 20) (v := ?_) rfl (by kernel_rfl) (by kernel_rfl) (by kernel_rfl) (fun _ _ _ h => h) (Or.inl ⟨by rfl, ?_⟩) (by assumption) ?_
              rotate_left
              · intro wq hSq
                obtain ⟨r0, r1⟩ := hSq
                go_simp
                try with_reducible rfl
              simp only [List.getElem_toArray, List.getElem_cons_succ, List.getElem_cons_zero, Act.put, List.setIfInBounds_toArray, List.set_cons_zero, List.set_cons_succ]
              refine wpAnyH_done (by kernel_rfl) ?_ _
              go_wp2
              go_ret
              exact ⟨by rw [hF.out]; rfl, (HD.out.more 1).below BB.out⟩
          · have hgI : (LA.length : Int) < (k : Int) := by omega
            have hF : Hid (R = false) := by unfold Hid; rw [hR.out]; exact srel_long (by omega)
            go_wp2_with fail
            refine wp_region_held_drew (S := fun _ => True ∧ True) (by kernel_rfl) ⟨trivial, trivial⟩ (fun hS0 => ?_)
            refine wpAnyH_take (i := 0) (v := ?_) rfl (by kernel_rfl) (by kernel_rfl) (by kernel_rfl) (fun _ _ _ h => h) (Or.inl ⟨by rfl, ?_⟩) (by assumption) ?_
            rotate_left
            · intro wq hSq
              go_simp
              try with_reducible rfl
            simp only [List.getElem_toArray, List.getElem_cons_zero, Act.put, List.setIfInBounds_toArray, List.set_cons_zero, List.set_cons_succ]
            refine wpAnyH_take (i := 1) (v := ?_) rfl (by kernel_rfl) (by kernel_rfl) (by kernel_rfl) (fun _ _ _ h => h) (Or.inl ⟨by rfl, ?_⟩) (by assumption) ?_
            rotate_left
            · intro wq hSq
              obtain ⟨r0, r1⟩ := hSq
              go_simp
              try with_reducible rfl
            simp only [List.getElem_toArray, List.getElem_cons_succ, List.getElem_cons_zero, Act.put, List.setIfInBounds_toArray, List.set_cons_zero, List.set_cons_succ]
            refine wpAnyH_take (i := 2) (v := ?_) rfl (by kernel_rfl) (by kernel_rfl) (by kernel_rfl) (fun _ _ _ h => h) (Or.inl ⟨by rfl, ?_⟩) (by assumption) ?_
            rotate_left
            · intro wq hSq
              obtain ⟨r0, r1⟩ := hSq
              go_simp
              try with_reducible rfl
            simp only [List.getElem_toArray, List.getElem_cons_succ, List.getElem_cons_zero, Act.put, List.setIfInBounds_toArray, List.set_cons_zero, List.set_cons_succ]
            refine wpAnyH_take (i := 3) (v := .bool true) rfl (by kernel_rfl) (by kernel_rfl) (by kernel_rfl) (fun _ _ _ h => h) (Or.inl ⟨by rfl, ?_⟩) (by assumption) ?_
            · intro wq hSq
              obtain ⟨r0, r1⟩ := hSq
              go_simp
            simp only [List.getElem_toArray, List.getElem_cons_succ, List.getElem_cons_zero, Act.put, List.setIfInBounds_toArray, List.set_cons_zero, List.set_cons_succ]
            refine wpAnyH_take (i := 4) (v := ?_) rfl (by kernel_rfl) (by kernel_rfl) (by kernel_rfl) (fun _ _ _ h => h) (Or.inl ⟨by rfl, ?_⟩) (by assumption) ?_
            rotate_left
            · intro wq hSq
              obtain ⟨r0, r1⟩ := hSq
              go_simp
              try with_reducible rfl
            simp only [List.getElem_toArray, List.getElem_cons_succ, List.getElem_cons_zero, Act.put, List.setIfInBounds_toArray, List.set_cons_zero, List.set_cons_succ]
            refine wpAnyH_take (i := 5) (v := undef) rfl (by kernel_rfl) (by kernel_rfl) (by kernel_rfl) (fun _ _ _ h => h) (Or.inr ⟨by rfl, rfl⟩) (by assumption) ?_
            simp only [List.getElem_toArray, List.getElem_cons_succ, List.getElem_cons_zero, Act.put, List.setIfInBounds_toArray, List.set_cons_zero, List.set_cons_succ]
            refine wpAnyH_take (i := 6) (v := undef) rfl (by kernel_rfl) (by kernel_rfl) (by kernel_rfl) (fun _ _ _ h => h) (Or.inr ⟨by rfl, rfl⟩) (by assumption) ?_
            simp only [List.getElem_toArray, List.getElem_cons_succ, List.getElem_cons_zero, Act.put, List.setIfInBounds_toArray, List.set_cons_zero, List.set_cons_succ]
            refine wpAnyH_take (i := 7) (v := undef) rfl (by kernel_rfl) (by kernel_rfl) (by kernel_rfl) (fun _ _ _ h => h) (Or.inr ⟨by rfl, rfl⟩) (by assumption) ?_
            simp only [List.getElem_toArray, List.getElem_cons_succ, List.getElem_cons_zero, Act.put, List.setIfInBounds_toArray, List.set_cons_zero, List.set_cons_succ]
            refine wpAnyH_take (i := 8) (v := undef) rfl (by kernel_rfl) (by kernel_rfl) (by kernel_rfl) (fun _ _ _ h => h) (Or.inr ⟨by rfl, rfl⟩) (by assumption) ?_
            simp only [List.getElem_toArray, List.getElem_cons_succ, List.getElem_cons_zero, Act.put, List.setIfInBounds_toArray, List.set_cons_zero, List.set_cons_succ]
            refine wpAnyH_take (i := 9) (v := undef) rfl (by kernel_rfl) (by kernel_rfl) (by kernel_rfl) (fun _ _ _ h => h) (Or.inr ⟨by rfl, rfl⟩) (by assumption) ?_
            simp only [List.getElem_toArray, List.getElem_cons_succ, List.getElem_cons_zero, Act.put, List.setIfInBounds_toArray, List.set_cons_zero, List.set_cons_succ]
            refine wpAnyH_take (i := 10) (v := undef) rfl (by kernel_rfl) (by kernel_rfl) (by kernel_rfl) (fun _ _ _ h => h) (Or.inr ⟨by rfl, rfl⟩) (by assumption) ?_
            simp only [List.getElem_toArray, List.getElem_cons_succ, List.getElem_cons_zero, Act.put, List.setIfInBounds_toArray, List.set_cons_zero, List.set_cons_succ]
            refine wpAnyH_take (i := 11) (v := undef) rfl (by kernel_rfl) (by kernel_rfl) (by kernel_rfl) (fun _ _ _ h => h) (Or.inr ⟨by rfl, rfl⟩) (by assumption) ?_
            simp only [List.getElem_toArray, List.getElem_cons_succ, List.getElem_cons_zero, Act.put, List.setIfInBounds_toArray, List.set_cons_zero, List.set_cons_succ]
            refine wpAnyH_take (i := 12) (v := undef) rfl (by kernel_rfl) (by kernel_rfl) (by kernel_rfl) (fun _ _ _ h => h) (Or.inr ⟨by rfl, rfl⟩) (by assumption) ?_
            simp only [List.getElem_toArray, List.getElem_cons_succ, List.getElem_cons_zero, Act.put, List.setIfInBounds_toArray, List.set_cons_zero, List.set_cons_succ]
            refine wpAnyH_take (i := 13) (v := undef) rfl (by kernel_rfl) (by kernel_rfl) (by kernel_rfl) (fun _ _ _ h => h) (Or.inr ⟨by rfl, rfl⟩) (by assumption) ?_
            simp only [List.getElem_toArray, List.getElem_cons_succ, List.getElem_cons_zero, Act.put, List.setIfInBounds_toArray, List.set_cons_zero, List.set_cons_succ]
            refine wpAnyH_take (i := 14) (v := undef) rfl (by kernel_rfl) (by kernel_rfl) (by kernel_rfl) (fun _ _ _ h => h) (Or.inr ⟨by rfl, rfl⟩) (by assumption) ?_
            simp only [List.getElem_toArray, List.getElem_cons_succ, List.getElem_cons_zero, Act.put, List.setIfInBounds_toArray, List.set_cons_zero, List.set_cons_succ]
            refine wpAnyH_take (i := 15) (v := undef) rfl (by kernel_rfl) (by kernel_rfl) (by kernel_rfl) (fun _ _ _ h => h) (Or.inr ⟨by rfl, rfl⟩) (by assumption) ?_
            simp only [List.getElem_toArray, List.getElem_cons_succ, List.getElem_cons_zero, Act.put, List.setIfInBounds_toArray, List.set_cons_zero, List.set_cons_succ]
            refine wpAnyH_take (i := 16) (v := undef) rfl (by kernel_rfl) (by kernel_rfl) (by kernel_rfl) (fun _ _ _ h => h) (Or.inr ⟨by rfl, rfl⟩) (by assumption) ?_
            simp only [List.getElem_toArray, List.getElem_cons_succ, List.getElem_cons_zero, Act.put, List.setIfInBounds_toArray, List.set_cons_zero, List.set_cons_succ]
            refine wpAnyH_take (i := 17) (v := undef) rfl (by kernel_rfl) (by kernel_rfl) (by kernel_rfl) (fun _ _ _ h => h) (Or.inr ⟨by rfl, rfl⟩) (by assumption) ?_
            simp only [List.getElem_toArray, List.getElem_cons_succ, List.getElem_cons_zero, Act.put, List.setIfInBounds_toArray, List.set_cons_zero, List.set_cons_succ]
            refine wpAnyH_take (i := 18) (v := undef) rfl (by kernel_rfl) (by kernel_rfl) (by kernel_rfl) (fun _ _ _ h => h) (Or.inr ⟨by rfl, rfl⟩) (by assumption) ?_
            simp only [List.getElem_toArray, List.getElem_cons_succ, List.getElem_cons_zero, Act.put, List.setIfInBounds_toArray, List.set_cons_zero, List.set_cons_succ]
            refine wpAnyH_take (i := 19) (v := undef) rfl (by kernel_rfl) (by kernel_rfl) (by kernel_rfl) (fun _ _ _ h => h) (Or.inr ⟨by rfl, rfl⟩) (by assumption) ?_
            simp only [List.getElem_toArray, List.getElem_cons_succ, List.getElem_cons_zero, Act.put, List.setIfInBounds_toArray, List.set_cons_zero, List.set_cons_succ]
            refine wpAnyH_take (i := 20) (v := ?_) rfl (by kernel_rfl) (by kernel_rfl) (by kernel_rfl) (fun _ _ _ h => h) (Or.inl ⟨by rfl, ?_⟩) (by assumption) ?_
            rotate_left
            · intro wq hSq
              obtain ⟨r0, r1⟩ := hSq
              go_simp
              try with_reducible rfl
            simp only [List.getElem_toArray, List.getElem_cons_succ, List.getElem_cons_zero, Act.put, List.setIfInBounds_toArray, List.set_cons_zero, List.set_cons_succ]
            refine wpAnyH_done (by kernel_rfl) ?_ _
            go_wp2
            go_ret
            exact ⟨by rw [hF.out]; rfl, (HD.out.more 1).below BB.out⟩
        · have hltI : ¬ (k : Int) ≤ (LB.length : Int) := by omega
          have hF : Hid (R = true) := by
            unfold Hid
            rw [hR.out]
            obtain rfl : k = LB.length + 1 := by omega
            exact srel_end hE.out
          go_wp2
          go_ret
          exact ⟨by rw [hF.out]; rfl, HD.out.below BB.out⟩

end Go.Proofs.YtklchpdpooikdaaGreatDoor
