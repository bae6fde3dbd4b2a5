/-
  ClockPuts answers true at any number.
-/
import Derived.Test.YtnpimjfdidbdfaaDoorRPut4
import Derived.Test.YtnpimjfdidbdfaaDoorCivN
namespace Go.Proofs.YtnpimjfdidbdfaaDoor
open Go.RowKit

set_option maxRecDepth 100000 in
set_option maxHeartbeats 4000000 in
theorem puts_gen (t tag : Int) (n : Nat) (XS : List Int) (hn : n ≤ 100) (w : World) (ht : Tab w)
    (P1 : ∀ W, Tab W → Calls Tryd.prog 23 #[.int .i64 t] W fun e w' => ∃ g cap, e = .returned (.tuple #[.int .i64 tag, .slice (some ⟨g, 0, none⟩) n cap, .int .i64 0]) ∧ RowB w' W.heap.size g n cap XS ∧ Below W.heap.size W w')
    (R1 : ∀ W, Calls Tryd.prog 24 #[.int .i64 t] W fun e w' => e = .returned (.tuple #[.int .i64 tag, .string (strOfNums XS), .int .i64 0]) ∧ Below W.heap.size W w') :
    Calls Tryd.prog 6 #[.int .i64 t] w fun e w' => e = .returned (.bool true) ∧ Below w.heap.size w w' := by
  have P1 := hide P1
  have R1 := hide R1
  have HT := hide ht
  clear ht
  have hl : leapB 2000 = true := by decide
  have q1 : (tag != tag) = false := by simp
  have hn' : (n : Int) ≤ 100 := by omega
  go_enter Tryd.func6, Tryd.ntmps6
  go_wp2_with fail
  refine (P1.out _ HT.out).mono ?_
  rintro e w1 ⟨g1, c1, rfl, r1, B1⟩
  go_wp2_with fail
  refine (P1.out _ (HT.out.below B1)).mono ?_
  rintro e w2 ⟨g2, c2, rfl, r2, B2⟩
  go_wp2_with fail
  refine (R1.out _).mono ?_
  rintro e w3 ⟨rfl, B3⟩
  have r1' := hide ((r1.below B2).below B3)
  have r2' := hide (r2.below B3)
  have hg : Hid (w.heap.size ≤ g1 ∧ g1 ≠ g2) := ⟨r1.lo, by have := r1.hi; have := r2.lo; omega⟩
  have BW := hide ((B1.trans (B2.mono B1.size)).trans (B3.mono (Nat.le_trans B1.size B2.size)))
  have t1 := r1'.out.src.text
  have e1 : ((strOfNums XS).toList != (strOfNums XS).toList) = false := by simp
  clear r1 r2 B1 B2 B3
  have HX := hide r1'.out.src.hlen
  generalize hS : strOfNums XS = SX at *
  have HS := hide hS
  clear hS
  go_wp2
  clear t1 e1 q1
  go_loopw [12] (fun i wr => ∃ (k : Nat) (zs : List Int), k ≤ n ∧ i = .int .i64 k ∧ Hid (RowB wr w.heap.size g1 n c1 zs) ∧ Hid (RowB wr w1.heap.size g2 n c2 XS) ∧ Hid (Below w.heap.size w wr)) (fun i _ => n - (intOf i).toNat)
  case atStart => exact ⟨0, XS, Nat.zero_le _, rfl, ⟨r1'.out.src, r1'.out.lo, r1'.out.hi, r1'.out.fz⟩, r2', BW⟩
  case round =>
    obtain ⟨k, zs, hk, rfl, ra, rb, hB⟩ := hrel
    by_cases hlt : k < n
    · have hcell := ra.out.cell k hlt
      have hfr := ra.out.fz k hlt
      have rs := hide (ra.out.stored k hlt 120 (by omega))
      have ro := hide (rb.out.other ⟨g1, k, none⟩ (.int .u8 120) hg.out.2)
      generalize zs.getD k 0 = x at hcell
      have kI : (k : Int) < (n : Int) := by omega
      go_wp2
      go_roundw
      case rel => exact ⟨k + 1, _, by omega, by go_num, rs, ro, hB.out.setCell (p := ⟨g1, k, none⟩) hg.out.1 _⟩
      case measure => simp [intOf]; omega
    · have kI : ¬ (k : Int) < (n : Int) := by omega
      have t2 := rb.out.src.text
      rw [HS.out] at t2
      have e2 : (SX.toList == SX.toList) = true := by simp
      go_wp2_with (first | (go_at_call 16; refine (leap_any _ _).mono ?_; rintro e w5 ⟨rfl, rfl⟩) | (go_at_call 17; refine (namesC_any _).mono ?_; rintro e w6 ⟨rfl, rfl⟩))
      go_ret
      exact ⟨rfl, hB.out⟩

set_option maxRecDepth 100000 in
set_option maxHeartbeats 2000000 in
theorem puts_no (t : Int) (h : ¬ isT t) (w : World) :
    Calls Tryd.prog 6 #[.int .i64 t] w fun e w' => e = .returned (.bool true) ∧ Below w.heap.size w w' := by
  have P1 := hide (fun W => put_no t h W)
  have R1 := hide (fun W => refPut_no t h W)
  have hl : leapB 2000 = true := by decide
  clear h
  go_enter Tryd.func6, Tryd.ntmps6
  go_wp2_with fail
  refine (P1.out _).mono ?_
  rintro e w1 ⟨rfl, B1⟩
  go_wp2_with fail
  refine (P1.out _).mono ?_
  rintro e w2 ⟨rfl, B2⟩
  go_wp2_with fail
  refine (R1.out _).mono ?_
  rintro e w3 ⟨rfl, B3⟩
  have BW := hide ((B1.trans (B2.mono B1.size)).trans (B3.mono (Nat.le_trans B1.size B2.size)))
  clear B1 B2 B3
  have t1 : (convert 46 9 (.slice none 0 0)).run Tryd.prog w3 = .ok (.string ⟨#[]⟩) w3 := run_convert_bytes_nil w3 46 5 Tryd.underlying46 Tryd.underlying5 _ _ 9 Tryd.underlying9
  go_wp2
  go_loopw [12] (fun i wr => i = .int .i64 0 ∧ wr = w3) (fun i _ => 0 - (intOf i).toNat)
  case atStart => exact ⟨rfl, rfl⟩
  case round =>
    obtain ⟨rfl, rfl⟩ := hrel
    go_wp2_with (first | (go_at_call 16; refine (leap_any _ _).mono ?_; rintro e w5 ⟨rfl, rfl⟩) | (go_at_call 17; refine (namesC_any _).mono ?_; rintro e w6 ⟨rfl, rfl⟩))
    go_ret
    exact ⟨rfl, BW.out⟩

theorem puts_walk (t : Int) (w : World) (ht : Tab w) :
    Calls Tryd.prog 6 #[.int .i64 t] w fun e w' => e = .returned (.bool true) ∧ Below w.heap.size w w' := by
  by_cases h : isT t
  · obtain ⟨y, m, q, H, i, s, c⟩ := civN_ex h
    by_cases hY : (y : Int) ≤ 2049
    · refine puts_gen t 23 13 (conV 2 y m q H i s) (by omega) w ht (fun W hW => put_gen2 t y m q H i s c.big hY W (civil_N h c W hW)) (fun W => refPut_gen2 t y m q H i s c.big hY W ?_)
      rw [← c.agg]; exact toCivil_at t h y m q c.at_ W
    · refine puts_gen t 24 15 (conV 4 y m q H i s) (by omega) w ht (fun W hW => put_gen4 t y m q H i s c.big (by omega) W (civil_N h c W hW)) (fun W => refPut_gen4 t y m q H i s c.big hY W ?_)
      rw [← c.agg]; exact toCivil_at t h y m q c.at_ W
  · exact puts_no t h w

end Go.Proofs.YtnpimjfdidbdfaaDoor
