/-
  What no call made reckons nothing: mod's calls at nil, and at a Mod without a modulus.
-/
import Derived.Test.YtobdpcmafjhnlaaMNew
namespace Go.Proofs.Ytobdpcmafjhnlaa
open Go.RowKit Go.IntWalk

/-- No Mod, or one that New did not make. -/
def NoMod (w : World) (v : Value) : Prop := v = .pointer none ∨ ∃ g, v = .pointer (some ⟨g, 0, none⟩) ∧ w.cell? ⟨g, 0, none⟩ = some (.slice none 0 0)

set_option maxRecDepth 100000 in
theorem made_false (mv : Value) (w : World) (hm : NoMod w mv) :
    Calls Try.prog 36 #[mv] w fun e w' => e = .returned (.bool false) ∧ w' = w := by
  rcases hm with rfl | ⟨g, rfl, hc⟩
  · go_enter Try.func36, Try.ntmps36
    go_wp2
    go_ret
    exact ⟨rfl, rfl⟩
  · go_enter Try.func36, Try.ntmps36
    go_wp2
    go_ret
    exact ⟨rfl, rfl⟩

set_option maxRecDepth 100000 in
theorem modulus_none (mv : Value) (w : World) (hm : NoMod w mv) :
    Calls Try.prog 28 #[mv] w fun e w' => e = .returned (.slice none 0 0) ∧ w' = w := by
  have HM := hide (made_false mv w hm)
  clear hm
  go_enter Try.func28, Try.ntmps28
  go_wp2_with fail
  refine HM.out.mono ?_
  rintro e w1 ⟨rfl, hw⟩
  have hw2 := hw.symm
  subst hw2
  clear hw
  go_wp2
  go_ret
  exact ⟨rfl, rfl⟩

set_option maxRecDepth 100000 in
theorem reduce_none (mv v : Value) (w : World) (hm : NoMod w mv) :
    Calls Try.prog 12 #[mv, v] w fun e w' => e = .returned (.tuple #[.slice none 0 0, .int .i64 1]) ∧ w' = w := by
  have HM := hide (made_false mv w hm)
  clear hm
  go_enter Try.func12, Try.ntmps12
  go_wp2_with fail
  refine HM.out.mono ?_
  rintro e w1 ⟨rfl, hw⟩
  have hw2 := hw.symm
  subst hw2
  clear hw
  go_wp2
  go_ret2
  exact ⟨rfl, rfl⟩

set_option maxRecDepth 100000 in
theorem reckon_none (mv v1 v2 f : Value) (w : World) (hm : NoMod w mv) :
    Calls Try.prog 40 #[mv, v1, v2, f] w fun e w' => e = .returned (.tuple #[.slice none 0 0, .int .i64 1]) ∧ w' = w := by
  have HM := hide (reduce_none mv v1 w hm)
  clear hm
  go_enter Try.func40, Try.ntmps40
  go_wp2_with fail
  refine HM.out.mono ?_
  rintro e w1 ⟨rfl, hw⟩
  have hw2 := hw.symm
  subst hw2
  clear hw
  go_wp2
  go_ret2
  exact ⟨rfl, rfl⟩


set_option maxRecDepth 100000 in
theorem add_none (mv v1 v2 : Value) (w : World) (hm : NoMod w mv) :
    Calls Try.prog 15 #[mv, v1, v2] w fun e w' => e = .returned (.tuple #[.slice none 0 0, .int .i64 1]) ∧ w' = w := by
  go_enter Try.func15, Try.ntmps15
  go_wp2_with fail
  refine (reckon_none _ _ _ _ w hm).mono ?_
  rintro e w1 ⟨rfl, hw⟩
  have hw2 := hw.symm
  subst hw2
  clear hw
  go_wp2
  go_ret2
  exact ⟨rfl, rfl⟩

set_option maxRecDepth 100000 in
theorem sub_none (mv v1 v2 : Value) (w : World) (hm : NoMod w mv) :
    Calls Try.prog 17 #[mv, v1, v2] w fun e w' => e = .returned (.tuple #[.slice none 0 0, .int .i64 1]) ∧ w' = w := by
  go_enter Try.func17, Try.ntmps17
  go_wp2_with fail
  refine (reckon_none _ _ _ _ w hm).mono ?_
  rintro e w1 ⟨rfl, hw⟩
  have hw2 := hw.symm
  subst hw2
  clear hw
  go_wp2
  go_ret2
  exact ⟨rfl, rfl⟩

set_option maxRecDepth 100000 in
theorem mul_none (mv v1 v2 : Value) (w : World) (hm : NoMod w mv) :
    Calls Try.prog 19 #[mv, v1, v2] w fun e w' => e = .returned (.tuple #[.slice none 0 0, .int .i64 1]) ∧ w' = w := by
  go_enter Try.func19, Try.ntmps19
  go_wp2_with fail
  refine (reckon_none _ _ _ _ w hm).mono ?_
  rintro e w1 ⟨rfl, hw⟩
  have hw2 := hw.symm
  subst hw2
  clear hw
  go_wp2
  go_ret2
  exact ⟨rfl, rfl⟩

set_option maxRecDepth 100000 in
theorem exp_none (mv v1 v2 : Value) (w : World) (hm : NoMod w mv) :
    Calls Try.prog 23 #[mv, v1, v2] w fun e w' => e = .returned (.tuple #[.slice none 0 0, .int .i64 1]) ∧ w' = w := by
  go_enter Try.func23, Try.ntmps23
  go_wp2_with fail
  refine (reduce_none _ _ w hm).mono ?_
  rintro e w1 ⟨rfl, hw⟩
  have hw2 := hw.symm
  subst hw2
  clear hw
  go_wp2
  go_ret2
  exact ⟨rfl, rfl⟩

set_option maxRecDepth 100000 in
theorem inverse_none (mv v1 : Value) (w : World) (hm : NoMod w mv) :
    Calls Try.prog 25 #[mv, v1] w fun e w' => e = .returned (.tuple #[.slice none 0 0, .int .i64 1]) ∧ w' = w := by
  go_enter Try.func25, Try.ntmps25
  go_wp2_with fail
  refine (reduce_none _ _ w hm).mono ?_
  rintro e w1 ⟨rfl, hw⟩
  have hw2 := hw.symm
  subst hw2
  clear hw
  go_wp2
  go_ret2
  exact ⟨rfl, rfl⟩

theorem names7 (w : World) : Calls Try.prog 29 #[] w fun e w' => e = .returned (.bool true) ∧ w' = w := by
  go_enter Try.func29, Try.ntmps29
  go_wp2
  go_ret
  exact ⟨rfl, rfl⟩

theorem Try.infoE : (Try.prog.info? 32).map (fun i => (i.zero, i.size, i.bytes)) = some (some (.int .i64 0), 1, 8) := by kernel_rfl

theorem NoMod.keep {w w' : World} {v : Value} (h : NoMod w v) (hb : Below w.heap.size w w') : NoMod w' v := by
  rcases h with h | ⟨g, h, hc⟩
  · exact .inl h
  · exact .inr ⟨g, h, by rw [← hc]; exact World.cell?_of_block (hb.block g (ltCell hc))⟩

set_option maxRecDepth 100000 in
set_option maxHeartbeats 2000000 in
theorem nobody_walk (va : Value) (w : World) :
    Calls Try.prog 6 #[va] w fun e w' => e = .returned (.bool true) ∧ Below w.heap.size w w' := by
  have NM0 : NoMod (w.alloc (.cells #[.slice none 0 0] 44)) (.pointer (some ⟨w.heap.size, 0, none⟩)) := .inr ⟨_, rfl, by simp⟩
  have LB0 : Below w.heap.size w (w.alloc (.cells #[.slice none 0 0] 44)) := (Below.refl _ _).alloc (Nat.le_refl _) _
  go_enter Try.func6, Try.ntmps6
  go_wp2
  go_loopw [3, 4, 5] (fun nv lv i wr => ∃ k : Nat, k ≤ 2 ∧ i = .int .i64 k ∧ NoMod wr nv ∧ Hid ((k = 0 → lv = .slice none 0 0) ∧ (k ≠ 0 → nv = .pointer none)) ∧ OwnG .i64 32 wr w.heap.size lv (List.replicate (6 * k) 1) ∧ Below w.heap.size w wr) (fun _ _ i _ => 2 - (intOf i).toNat)
  case atStart => exact ⟨0, Nat.zero_le _, rfl, NM0, ⟨fun _ => rfl, fun h => absurd rfl h⟩, OwnG.nil _ _, LB0⟩
  case round =>
    obtain ⟨k, hk, rfl, NM, HK, HO, LB⟩ := hrel
    by_cases hk2 : k < 2
    · have hkI : (k : Int) < 2 := by omega
      go_wp2_with fail
      refine (reduce_none _ _ _ NM).mono ?_
      rintro e w1 ⟨rfl, hw⟩
      have hw2 := hw.symm
      subst hw2
      clear hw
      go_wp2_with fail
      refine (add_none _ _ _ _ NM).mono ?_
      rintro e w1 ⟨rfl, hw⟩
      have hw2 := hw.symm
      subst hw2
      clear hw
      go_wp2_with fail
      refine (sub_none _ _ _ _ NM).mono ?_
      rintro e w1 ⟨rfl, hw⟩
      have hw2 := hw.symm
      subst hw2
      clear hw
      go_wp2_with fail
      refine (mul_none _ _ _ _ NM).mono ?_
      rintro e w1 ⟨rfl, hw⟩
      have hw2 := hw.symm
      subst hw2
      clear hw
      go_wp2_with fail
      refine (exp_none _ _ _ _ NM).mono ?_
      rintro e w1 ⟨rfl, hw⟩
      have hw2 := hw.symm
      subst hw2
      clear hw
      go_wp2_with fail
      refine (inverse_none _ _ _ NM).mono ?_
      rintro e w1 ⟨rfl, hw⟩
      have hw2 := hw.symm
      subst hw2
      clear hw
      go_wp2_with (at_builtin; refine appG 45 8 Try.underlying45 Try.infoE _ rfl (.tmp 65) (.tmp 72) rfl w.heap.size _ (List.replicate (6 * k) 1) rfl (HO.alloc _) (some ⟨wr.heap.size, 0, none⟩) 6 6 [1, 1, 1, 1, 1, 1] rfl (SrcG.litAt (B := 65536) [1, 1, 1, 1, 1, 1] _ 6 _ rfl rfl (by intro x hx; simp at hx; omega) (by decide) rfl) (6 * k + 6) (by simp) (.inr (by simp)) (by omega) (by omega) (by have := LB.size; simp; omega) ?_; intro g c w2 ho hb hl hc hm hg hk)
      have hg' : (wr.alloc (.cells #[.int .i64 1, .int .i64 1, .int .i64 1, .int .i64 1, .int .i64 1, .int .i64 1] 32)).grownBy w2 (Value.ownBlock u4) := hg
      have NM2 : NoMod w2 u3 := by
        rcases Nat.eq_zero_or_pos k with h | h
        · have h9 := HK.out.1 h
          rw [h9] at hg'
          exact NM.keep (((Below.refl _ _).alloc (Nat.le_refl _) _).grown hg' (by simp) (by intro q hq; cases hq))
        · exact .inl (HK.out.2 (by omega))
      have LB2 : Below w.heap.size w w2 := (LB.alloc LB.size _).grown hg' (by have := LB.size; simp; omega) (fun q hq => (HO.lt q hq).1)
      refine (modulus_none _ _ NM2).mono ?_
      rintro e w1 ⟨rfl, hw⟩
      have hw2 := hw.symm
      subst hw2
      clear hw
      go_wp2
      go_roundw
      case rel => exact ⟨k + 1, by omega, by go_num, .inl rfl, ⟨fun h => by omega, fun _ => rfl⟩, by rw [show 6 * (k + 1) = 6 * k + 6 by omega, ← List.replicate_append_replicate]; exact ho, LB2⟩
      case measure => simp [intOf] <;> omega
    · obtain rfl : k = 2 := by omega
      have HS : OwnG .i64 32 wr w.heap.size u4 [1, 1, 1, 1, 1, 1, 1, 1, 1, 1, 1, 1] := HO
      rcases HS.split with ⟨_, h⟩ | ⟨g, c, hu, _⟩
      · simp at h
      · subst hu
        have HC : ∀ i : Nat, i < 12 → wr.cell? ⟨g, i, none⟩ = some (.int .i64 1) := by
          intro i hi
          have := HS.cell i (by simpa using hi)
          rw [this]
          congr 1
          match i, hi with
          | 0, _ | 1, _ | 2, _ | 3, _ | 4, _ | 5, _ | 6, _ | 7, _ | 8, _ | 9, _ | 10, _ | 11, _ => rfl
        have HC := hide HC
        clear HO HS HK
        simp only [List.length_cons, List.length_nil]
        go_wp2
        go_loop [18] (fun i => ∃ k : Nat, k ≤ 12 ∧ i = .int .i64 k) (fun i => 12 - (intOf i).toNat)
        case atStart => exact ⟨0, Nat.zero_le _, rfl⟩
        case round =>
          obtain ⟨k, hk, rfl⟩ := hrel
          by_cases hk2 : k < 12
          · have hkI : (k : Int) < 12 := by omega
            have hc := HC.out k hk2
            go_wp2
            go_round
            case rel => exact ⟨k + 1, by omega, by go_num⟩
            case measure => simp [intOf] <;> omega
          · have hkI : ¬ (k : Int) < 12 := by omega
            go_wp2_with fail
            refine (names7 _).mono ?_
            rintro e w1 ⟨rfl, hw⟩
            have hw2 := hw.symm
            subst hw2
            clear hw
            go_wp2
            go_ret
            exact ⟨rfl, LB⟩

theorem nobody_any (ao : Option Addr) (n c : Nat) (xs : List Int) (w : World) (_ : SrcG .u64 18446744073709551616 w ao n c xs) :
    Calls Try.prog 6 #[.slice ao n c] w fun e w' => e = .returned (.bool true) ∧ Below w.heap.size w w' := nobody_walk _ w

end Go.Proofs.Ytobdpcmafjhnlaa
