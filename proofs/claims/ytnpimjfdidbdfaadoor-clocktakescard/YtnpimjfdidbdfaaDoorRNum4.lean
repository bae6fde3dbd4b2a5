/-
  The document's number: digits of a text, read.
-/
import Derived.Test.YtnpimjfdidbdfaaDoorTFields
namespace Go.Proofs.YtnpimjfdidbdfaaDoor
open Go.RowKit

theorem str_at (xs : List Int) (hb : ∀ x ∈ xs, 0 ≤ x ∧ x < 256) (i : Nat) (hi : i < (strOfNums xs).size) : (((strOfNums xs)[i]'hi).toNat : Int) = xs.getD i 0 := by
  have hl : i < xs.length := by rwa [strOfNums_size] at hi
  have e : (strOfNums xs)[i]'hi = UInt8.ofNat (xs[i]).toNat := by
    show (strOfNums xs).data[i] = _
    simp [strOfNums]
  have h := hb (xs[i]) (List.getElem_mem _)
  rw [e, UInt8.toNat_ofNat', List.getD, List.getElem?_eq_getElem hl, Option.getD_some]
  omega

theorem seg_snoc (xs : List Int) (a c : Nat) (h : a ≤ c) (hc : c < xs.length) : seg xs a (c + 1) = seg xs a c ++ [xs.getD c 0] := by
  unfold seg
  rw [List.take_add_one, List.drop_append_of_le_length (by rw [List.length_take]; omega)]
  simp [List.getD, hc]

set_option maxRecDepth 100000 in
set_option maxHeartbeats 1000000 in
theorem refNumber_any (xs : List Int) (a k : Nat) (hb : ∀ x ∈ xs, 0 ≤ x ∧ x < 256) (hl : a + k ≤ xs.length) (hk : k ≤ 4) (ha : a ≤ 100) (hd : ∀ x ∈ seg xs a (a + k), 48 ≤ x ∧ x ≤ 57) (w : World) :
    Calls Tryd.prog 42 #[.string (strOfNums xs), .int .i64 a, .int .i64 k] w fun e w' => e = .returned (.int .i64 (numB (seg xs a (a + k)))) ∧ w' = w := by
  have AT := hide (fun i hi => str_at xs hb i hi)
  have SZ := hide (strOfNums_size xs)
  have HL := hide hl
  have HD := hide hd
  have k4 : (k : Int) ≤ 4 := by omega
  have a4 : (a : Int) ≤ 100 := by omega
  clear hd hb hl
  generalize strOfNums xs = SX at *
  go_enter Tryd.func42, Tryd.ntmps42
  go_wp2
  go_loop [7, 8] (fun n i => ∃ I : Nat, I ≤ k ∧ i = .int .i64 I ∧ n = .int .i64 (numB (seg xs a (a + I)))) (fun _ i => k - (intOf i).toNat)
  case atStart => exact ⟨0, Nat.zero_le _, rfl, by unfold seg; simp [numB]⟩
  case round =>
    obtain ⟨I, hI, rfl, rfl⟩ := hrel
    by_cases hlt : I < k
    · have hs : a + I < SX.size := by rw [SZ.out]; have := HL.out; omega
      have hat := AT.out (a + I) hs
      have hsub : Hid (∀ x ∈ seg xs a (a + I), x ∈ seg xs a (a + k)) := by
        intro x hx
        unfold seg at hx ⊢
        rw [show xs.take (a + I) = (xs.take (a + k)).take (a + I) by rw [List.take_take, Nat.min_eq_left (by omega)]] at hx
        rw [← List.take_drop] at hx
        exact List.mem_of_mem_take (by simpa using hx)
      have hx : 48 ≤ xs.getD (a + I) 0 ∧ xs.getD (a + I) 0 ≤ 57 := by
        refine HD.out _ ?_
        have h2 := HL.out
        rw [List.getD, List.getElem?_eq_getElem (by omega), Option.getD_some]
        unfold seg
        rw [List.mem_iff_getElem]
        exact ⟨I, by simp; omega, by simp⟩
      have hnb := numB_4 (seg xs a (a + I)) (by unfold seg; simp; omega) (fun x hx => HD.out x (hsub.out x hx))
      have hnx : Hid (numB (seg xs a (a + (I + 1))) = 10 * numB (seg xs a (a + I)) + (xs.getD (a + I) 0 - 48)) := by
        unfold Hid
        rw [← numB_snoc, show a + (I + 1) = a + I + 1 by omega, seg_snoc xs a (a + I) (by omega) (by have := HL.out; omega)]
      generalize xs.getD (a + I) 0 = x at *
      generalize numB (seg xs a (a + I)) = N at *
      have kI : (I : Int) < (k : Int) := by omega
      have p0 : (0 : Int) ≤ (a : Int) + (I : Int) := by omega
      have pt : ((a : Int) + (I : Int)).toNat = a + I := by omega
      have ps : (a : Int) + (I : Int) < (SX.size : Int) := by omega
      go_wp2
      go_round
      case rel => exact ⟨I + 1, by omega, by go_num, by rw [hnx.out]; congr 1; omega⟩
      case measure => simp [intOf]; omega
    · obtain rfl : I = k := by omega
      go_wp2
      go_ret
      exact ⟨rfl, rfl⟩

end Go.Proofs.YtnpimjfdidbdfaaDoor
