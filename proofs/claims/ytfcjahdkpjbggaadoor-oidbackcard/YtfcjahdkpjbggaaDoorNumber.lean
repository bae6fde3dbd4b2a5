/-
  oid.number reads the number with which bytes begin, or gives up (nextS).
-/
import Derived.Test.YtfcjahdkpjbggaaDoorBehind
import Derived.Test.YtfcjahdkpjbggaaDoorRNext
namespace Go.Proofs.YtfcjahdkpjbggaaDoor
open Go.RowKit Go.IntWalk

/-- How the reading of a number ends. -/
def numEnd (r : Int × Nat × Int) : Ending := if r.2.2 = 0 then .returned (.int .i64 r.1) else .panicked (errP r.2.2)

set_option maxRecDepth 100000 in
set_option maxHeartbeats 1000000 in
theorem number_any (ao : Option Addr) (n cap : Nat) (xs : List Int) (w : World) (hs : Src w ao n cap xs) (hN : n ≤ 140737488355328) (hp : 0 < n) :
    Calls Tryd.prog 26 #[.slice ao n cap] w fun e w' => e = numEnd (nextS xs) ∧ Drawn w w' := by
  have HL := hide hs.hlen
  obtain ⟨b, off, rfl, e1, g0, g1⟩ := hs.spotB 0 hp
  rw [Nat.add_zero] at e1
  have pI : (0 : Int) < (n : Int) := by omega
  by_cases hx : xs.getD 0 0 = 128
  · have HV : Hid (nextS xs = (0, 0, 30)) := by unfold Hid; have := nextS_pad xs 0 (by rw [HL.out]; exact hp) hx; simpa using this
    rw [hx] at e1
    clear hx g0 g1
    go_enter Tryd.func26, Tryd.ntmps26
    go_wp2
    exact ⟨rfl, by rw [HV.out]; rfl, Drawn.refl _⟩
  · have HV : Hid (nextS xs = nextGo 0 0 xs) := by unfold Hid; have := nextS_go xs 0 (by rw [HL.out]; exact hp) hx; simpa using this
    have hxb : (xs.getD 0 0 == 128) = false := by simpa using hx
    clear hx
    generalize xs.getD 0 0 = x at e1 hxb
    clear g0 g1
    go_enter Tryd.func26, Tryd.ntmps26
    go_wp2
    clear hxb e1 pI
    go_loopw [3, 5, 13] (fun v _ i wr => ∃ (k : Nat) (N : Int), k ≤ n ∧ i = .int .i64 k ∧ v = .int .i64 N ∧ 0 ≤ N ∧ N ≤ 2147483647 ∧ Hid (nextS xs = nextGo N k (xs.drop k)) ∧ Drawn w wr) (fun _ _ i _ => n - (intOf i).toNat)
    case atStart => exact ⟨0, 0, by omega, rfl, rfl, by omega, by omega, by simpa using HV, Drawn.refl _⟩
    case round =>
      obtain ⟨k, N, hk, rfl, rfl, hN0, hN1, hE, hD⟩ := hrel
      have hs' := hide (hs.heap hD.heap)
      by_cases hl2 : k < n
      · obtain ⟨b2, o2, he, e1, g0, g1⟩ := hs'.out.spotB k hl2
        simp at he
        obtain ⟨rfl, rfl⟩ := he
        have kI : (k : Int) < (n : Int) := by omega
        have hli : Hid (k < xs.length) := by unfold Hid; rw [HL.out]; exact hl2
        have G := hide (nextGo_great xs k N k hli.out)
        have L := hide (nextGo_last xs k N k hli.out)
        have M := hide (nextGo_more xs k N k hli.out)
        generalize xs.getD k 0 = x at e1 g0 g1 G L M
        have r1 : Int.tmod x 128 = x % 128 := Int.tmod_eq_emod_of_nonneg g0
        have hcm : 128 * N = N * 128 := Int.mul_comm _ _
        rw [hcm] at G L M
        clear hcm
        by_cases hg : 2147483647 < N * 128 + x % 128
        · have HE : Hid (nextS xs = (0, 0, 31)) := hE.out.trans (G.out hg)
          have hc := hide (fun W => behind_not N 128 (x % 128) 31 W hN0 hN1 (.inl rfl) (by omega) (by omega) hg)
          go_wp2_with (go_at_call 30; refine (hc.out _).mono ?_; rintro e w3 ⟨rfl, hw3⟩; subst hw3)
          exact ⟨rfl, by rw [HE.out]; rfl, by first | exact hD | exact hD.more _⟩
        · have hc := hide (fun W => behind_fits N 128 (x % 128) 31 W hN0 hN1 (.inl rfl) (by omega) (by omega) (by omega))
          by_cases hx : x < 128
          · have HE : Hid (nextS xs = (N * 128 + x % 128, k + 1, 0)) := hE.out.trans (L.out hg hx)
            generalize hR : N * 128 + x % 128 = R at hc HE
            clear hR
            go_wp2_with (go_at_call 30; refine (hc.out _).mono ?_; rintro e w3 ⟨rfl, hw3⟩; subst hw3)
            go_ret
            exact ⟨by rw [HE.out]; rfl, by first | exact hD | exact hD.more _⟩
          · have HE : Hid (nextS xs = nextGo (N * 128 + x % 128) (k + 1) (xs.drop (k + 1))) := hE.out.trans (M.out hg hx)
            have hR0 : 0 ≤ N * 128 + x % 128 := by omega
            have hR1 : N * 128 + x % 128 ≤ 2147483647 := by omega
            generalize N * 128 + x % 128 = R at hc HE hR0 hR1 hg
            go_wp2_with (go_at_call 30; refine (hc.out _).mono ?_; rintro e w3 ⟨rfl, hw3⟩; subst hw3)
            go_roundw
            case rel => exact ⟨k + 1, R, by omega, by go_num, rfl, hR0, hR1, HE, by first | exact hD | exact hD.more _⟩
            case measure => simp [intOf]; omega
      · have kI : ¬ (k : Int) < (n : Int) := by omega
        have HE : Hid (nextS xs = (0, 0, 10)) := by unfold Hid; rw [hE.out, List.drop_of_length_le (by rw [HL.out]; omega)]; rfl
        go_wp2
        exact ⟨rfl, by rw [HE.out]; rfl, by first | exact hD | exact hD.more _⟩

end Go.Proofs.YtfcjahdkpjbggaaDoor
