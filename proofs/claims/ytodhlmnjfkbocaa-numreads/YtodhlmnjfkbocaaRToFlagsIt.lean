/-
  The reference's ToFlags: its walk.
-/
import Derived.Test.YtodhlmnjfkbocaaRToFlags
namespace Go.Proofs.Ytodhlmnjfkbocaa
open Go.RowKit Go.IntWalk

theorem endsB_at {r : List Int} {L : Int} (h : r.getD (r.length - 1) 0 = L) (u : Int) : endsB r u = (!decide (r = []) && decide (L / ((2 ^ u.toNat : Nat) : Int) % 2 = 0)) := by
  unfold endsB
  rw [h]

set_option maxRecDepth 100000 in
set_option maxHeartbeats 2000000 in
theorem refToFlags_any (ao : Option Addr) (n cap : Nat) (xs : List Int) (w : World) (hs : Src w ao n cap xs) (hN : n ≤ 140737488355328) :
    Calls Try.prog 40 #[.slice ao n cap] w fun e w' => e = .returned (.tuple #[.int .u16 (toFlagsV xs), .int .i64 (toFlagsE xs)]) ∧ Below w.heap.size w w' := by
  have Hc := hide (refToBits_any ao n cap xs w hs hN)
  by_cases h : isBS xs = true
  · obtain ⟨x, r, rfl⟩ : ∃ x r, xs = x :: r := by
      cases xs with
      | nil => simp [isBS] at h
      | cons x r => exact ⟨x, r, rfl⟩
    have hB : bitsB r x = true := h
    have hxr := bits_in r x hB
    obtain ⟨hx0, hx7⟩ := hxr
    have hl := hs.hlen
    have hrb : ∀ y ∈ r, 0 ≤ y ∧ y < 256 := fun y hy => hs.hbyt y (List.mem_cons_of_mem _ hy)
    have HRB := hide hrb
    have e1 : toBitsE (x :: r) = 0 := by simp [toBitsE, h]
    have e2 : toBitsV (x :: r) = r := by simp [toBitsV, h]
    have e3 : toBitsU (x :: r) = x := by simp [toBitsU, h]
    rw [e1, e2, e3] at Hc
    clear e1 e2 e3
    obtain ⟨m, hm⟩ : ∃ m, r.length = m := ⟨_, rfl⟩
    rw [hm] at Hc
    have hmn : m + 1 = n := by simp at hl; omega
    have hmb : (m : Int) ≤ 140737488355327 := by omega
    have HM := hide hm
    have HB := hide hB
    clear hB hm hl hrb hmn
    go_enter Try.func40, Try.ntmps40
    go_wp2_with fail
    refine Hc.out.mono ?_
    rintro e w1 ⟨aX, cX, rfl, oX, B1⟩
    have sX := oX.toSrc HRB.out
    clear oX
    go_upto_region 5 with fail
    go_cut [38] (fun c wx => c = .bool (endsB r x) ∧ wx = w1)
    case first =>
      by_cases hm0 : m = 0
      · subst hm0
        obtain rfl : r = [] := List.eq_nil_of_length_eq_zero HM.out
        obtain rfl : x = 0 := set_zero x HB.out
        have HZ := hide (show endsB [] 0 = false by simp [endsB])
        go_wp2_with fail
        go_meet
        exact ⟨by rw [HZ.out], rfl⟩
      · obtain ⟨m', rfl⟩ : ∃ m', m = m' + 1 := ⟨m - 1, by omega⟩
        obtain ⟨g, off, rfl, cL⟩ := sX.at m' (by omega)
        have hne := hide (show r ≠ [] by intro h'; have := HM.out; subst h'; simp at this)
        have hLast := hide (show r.getD (r.length - 1) 0 = r.getD m' 0 by rw [HM.out]; rfl)
        have hLb := getD_byte r HRB.out m'
        generalize r.getD m' 0 = L at cL hLast hLb
        obtain ⟨hL0, hL1⟩ := hLb
        have hmb' : (m' : Int) ≤ 140737488355326 := by omega
        clear hm0 hmb h
        rcases (show x = 0 ∨ x = 1 ∨ x = 2 ∨ x = 3 ∨ x = 4 ∨ x = 5 ∨ x = 6 ∨ x = 7 by omega) with rfl | rfl | rfl | rfl | rfl | rfl | rfl | rfl
        · have HZ := hide (show endsB r 0 = ((L) % 2 == 0) by rw [endsB_at hLast.out]; simp [hne.out]; rfl)
          have g1 : (0 : Int) < 8 * ((m' : Int) + 1) - 0 := by omega
          clear hx0 hx7
          go_wp2_with fail
          go_meet
          exact ⟨by rw [HZ.out], rfl⟩
        · have HZ := hide (show endsB r 1 = ((L/ 2) % 2 == 0) by rw [endsB_at hLast.out]; simp [hne.out]; rfl)
          have g1 : (0 : Int) < 8 * ((m' : Int) + 1) - 1 := by omega
          clear hx0 hx7
          go_wp2_with fail
          go_meet
          exact ⟨by rw [HZ.out], rfl⟩
        · have HZ := hide (show endsB r 2 = ((L/ 4) % 2 == 0) by rw [endsB_at hLast.out]; simp [hne.out]; rfl)
          have g1 : (0 : Int) < 8 * ((m' : Int) + 1) - 2 := by omega
          clear hx0 hx7
          go_wp2_with fail
          go_meet
          exact ⟨by rw [HZ.out], rfl⟩
        · have HZ := hide (show endsB r 3 = ((L/ 8) % 2 == 0) by rw [endsB_at hLast.out]; simp [hne.out]; rfl)
          have g1 : (0 : Int) < 8 * ((m' : Int) + 1) - 3 := by omega
          clear hx0 hx7
          go_wp2_with fail
          go_meet
          exact ⟨by rw [HZ.out], rfl⟩
        · have HZ := hide (show endsB r 4 = ((L/ 16) % 2 == 0) by rw [endsB_at hLast.out]; simp [hne.out]; rfl)
          have g1 : (0 : Int) < 8 * ((m' : Int) + 1) - 4 := by omega
          clear hx0 hx7
          go_wp2_with fail
          go_meet
          exact ⟨by rw [HZ.out], rfl⟩
        · have HZ := hide (show endsB r 5 = ((L/ 32) % 2 == 0) by rw [endsB_at hLast.out]; simp [hne.out]; rfl)
          have g1 : (0 : Int) < 8 * ((m' : Int) + 1) - 5 := by omega
          clear hx0 hx7
          go_wp2_with fail
          go_meet
          exact ⟨by rw [HZ.out], rfl⟩
        · have HZ := hide (show endsB r 6 = ((L/ 64) % 2 == 0) by rw [endsB_at hLast.out]; simp [hne.out]; rfl)
          have g1 : (0 : Int) < 8 * ((m' : Int) + 1) - 6 := by omega
          clear hx0 hx7
          go_wp2_with fail
          go_meet
          exact ⟨by rw [HZ.out], rfl⟩
        · have HZ := hide (show endsB r 7 = ((L/ 128) % 2 == 0) by rw [endsB_at hLast.out]; simp [hne.out]; rfl)
          have g1 : (0 : Int) < 8 * ((m' : Int) + 1) - 7 := by omega
          clear hx0 hx7
          go_wp2_with fail
          go_meet
          exact ⟨by rw [HZ.out], rfl⟩
    case rest =>
      obtain ⟨rfl, rfl⟩ := hcut
      cases hEB : endsB r x with
      | true =>
        obtain ⟨f1, f2⟩ := toFlags_bad (x :: r) (.inr hEB)
        have HE1 := hide f1
        have HE2 := hide f2
        clear f1 f2 hEB
        go_wp2
        exact bodyPost_ret (v := .tuple #[.int .u16 0, .int .i64 20]) (by simp [results, Try.results40, go_sem]) rfl ⟨by rw [HE1.out, HE2.out], B1⟩
      | false =>
        by_cases hm3 : 3 ≤ m
        · obtain ⟨f1, f2⟩ := toFlags_big (x :: r) h hEB (by simp; have := HM.out; omega)
          have HE1 := hide f1
          have HE2 := hide f2
          clear f1 f2 hEB
          have g1 : (16 : Int) < 8 * (m : Int) - x := by omega
          go_wp2
          exact bodyPost_ret (v := .tuple #[.int .u16 0, .int .i64 21]) (by simp [results, Try.results40, go_sem]) rfl ⟨by rw [HE1.out, HE2.out], B1⟩
        · obtain ⟨f1, f2⟩ := toFlags_ok (x :: r) h hEB (by simp; have := HM.out; omega)
          have HE1 := hide f1
          have HE2 : Hid (toFlagsV (x :: r) = revS (r.getD 0 0 * 256 + r.getD 1 0)) := by unfold Hid; rw [f2]; simp [List.getD]
          clear f1 f2 hEB
          have g1 : ¬ (16 : Int) < 8 * (m : Int) - x := by omega
          by_cases hm0 : m = 0
          · subst hm0
            obtain rfl : r = [] := List.eq_nil_of_length_eq_zero HM.out
            obtain rfl : x = 0 := set_zero x HB.out
            have HR := hide (show revS (([] : List Int).getD 0 0 * 256 + ([] : List Int).getD 1 0) = 0 by decide +kernel)
            clear hx0 hx7 hmb hm3 g1 h
            go_wp2
            refine wp_loop_rounds 1 ?_
            rw [rounds_succ]
            go_wp2
            exact bodyPost_ret (v := .tuple #[.int .u16 0, .int .i64 0]) (by simp [results, Try.results40, go_sem]) rfl ⟨by rw [HE1.out, HE2.out, HR.out], B1⟩
          · obtain ⟨g, off, rfl, c0⟩ := sX.at 0 (by omega)
            rw [Nat.add_zero] at c0
            have HC1 : Hid (2 ≤ m → wc.cell? ⟨g, off + 1, none⟩ = some (.int .u8 (r.getD 1 0))) := by
              intro h2
              obtain ⟨g', off', he, hc⟩ := sX.at 1 (by omega)
              simp at he
              obtain ⟨rfl, rfl⟩ := he
              exact hc
            have HV : Hid (∀ k : Nat, (k : Int) = 8 * (m : Int) - x → setAt (r.getD 0 0) (r.getD 1 0) k = revS (r.getD 0 0 * 256 + r.getD 1 0)) := by
              intro k hk
              have hM := HM.out
              have hB := HB.out
              have hR := HRB.out
              match r, hM, hB, hR with
              | [], hM, _, _ => simp at hM; omega
              | [y], hM, hB, hR =>
                have : m = 1 := by simpa using hM.symm
                exact set_one x y (hR y (by simp)) hB k (by omega)
              | [y, z], hM, hB, hR =>
                have : m = 2 := by simpa using hM.symm
                exact set_two x y z (hR y (by simp)) (hR z (by simp)) hB k (by omega)
              | _ :: _ :: _ :: _, hM, _, _ => simp at hM; omega
            have hy := getD_byte r HRB.out 0
            have hz := getD_byte r HRB.out 1
            generalize r.getD 0 0 = y at c0 HV HE2 hy
            generalize r.getD 1 0 = z at HC1 HV HE2 hz
            obtain ⟨hy0, hy1⟩ := hy
            obtain ⟨hz0, hz1⟩ := hz
            have gm : (0 : Int) < (m : Int) := by omega
            have gM : (m : Int) ≤ 2 := by omega
            clear hm0 hm3 hmb h
            go_wp2
            go_loop [8, 9] (fun s i => ∃ k : Nat, (k : Int) ≤ 8 * (m : Int) - x ∧ s = .int .u16 (setAt y z k) ∧ i = .int .i64 k) (fun _ i => 16 - (intOf i).toNat)
            case atStart => exact ⟨0, by omega, rfl, rfl⟩
            case round =>
              obtain ⟨k, hk, rfl, rfl⟩ := hrel
              by_cases hlt : (k : Int) < 8 * (m : Int) - x
              · rcases (show k = 0 ∨ k = 1 ∨ k = 2 ∨ k = 3 ∨ k = 4 ∨ k = 5 ∨ k = 6 ∨ k = 7 ∨ k = 8 ∨ k = 9 ∨ k = 10 ∨ k = 11 ∨ k = 12 ∨ k = 13 ∨ k = 14 ∨ k = 15 by omega) with rfl | rfl | rfl | rfl | rfl | rfl | rfl | rfl | rfl | rfl | rfl | rfl | rfl | rfl | rfl | rfl
                · have hlt' : (0 : Int) < 8 * (m : Int) - x := hlt
                  have hin := setAt_in y z 0
                  have hor : Hid (bits .or .u16 (setAt y z 0) 1 = setAt y z 0 + 1) := or_pow (setAt y z 0) 0 (by decide) hin.1 hin.2
                  have hyes : Hid (y/ 128 % 2 = 1 → setAt y z (0 + 1) = setAt y z 0 + 1) := fun h => setAt_yes y z 0 (by simpa [bitAt] using h)
                  have hno : Hid (¬ y/ 128 % 2 = 1 → setAt y z (0 + 1) = setAt y z 0) := fun h => setAt_no y z 0 (by simpa [bitAt] using h)
                  generalize setAt y z 0 = S at hin hor hyes hno
                  have hin0 : 0 ≤ S := hin.1
                  have hin1 : S < 1 := hin.2
                  clear hlt hk hin
                  by_cases hb : y/ 128 % 2 = 1
                  · have e1 := hide (hyes.out hb)
                    have ho := hor.out
                    have gm1 : (0 : Int) < (m : Int) := by omega
                    go_wp2
                    go_round
                    case rel => exact ⟨0 + 1, by omega, by rw [e1.out], by go_num⟩
                    case measure => simp [intOf]
                  · have e1 := hide (hno.out hb)
                    have hb' : (y/ 128 % 2 == 1) = false := by simp [hb]
                    have gm1 : (0 : Int) < (m : Int) := by omega
                    go_wp2
                    go_round
                    case rel => exact ⟨0 + 1, by omega, by rw [e1.out], by go_num⟩
                    case measure => simp [intOf]
                · have hlt' : (1 : Int) < 8 * (m : Int) - x := hlt
                  have hin := setAt_in y z 1
                  have hor : Hid (bits .or .u16 (setAt y z 1) 2 = setAt y z 1 + 2) := or_pow (setAt y z 1) 1 (by decide) hin.1 hin.2
                  have hyes : Hid (y/ 64 % 2 = 1 → setAt y z (1 + 1) = setAt y z 1 + 2) := fun h => setAt_yes y z 1 (by simpa [bitAt] using h)
                  have hno : Hid (¬ y/ 64 % 2 = 1 → setAt y z (1 + 1) = setAt y z 1) := fun h => setAt_no y z 1 (by simpa [bitAt] using h)
                  generalize setAt y z 1 = S at hin hor hyes hno
                  have hin0 : 0 ≤ S := hin.1
                  have hin1 : S < 2 := hin.2
                  clear hlt hk hin
                  by_cases hb : y/ 64 % 2 = 1
                  · have e1 := hide (hyes.out hb)
                    have ho := hor.out
                    have gm1 : (0 : Int) < (m : Int) := by omega
                    go_wp2
                    go_round
                    case rel => exact ⟨1 + 1, by omega, by rw [e1.out], by go_num⟩
                    case measure => simp [intOf]
                  · have e1 := hide (hno.out hb)
                    have hb' : (y/ 64 % 2 == 1) = false := by simp [hb]
                    have gm1 : (0 : Int) < (m : Int) := by omega
                    go_wp2
                    go_round
                    case rel => exact ⟨1 + 1, by omega, by rw [e1.out], by go_num⟩
                    case measure => simp [intOf]
                · have hlt' : (2 : Int) < 8 * (m : Int) - x := hlt
                  have hin := setAt_in y z 2
                  have hor : Hid (bits .or .u16 (setAt y z 2) 4 = setAt y z 2 + 4) := or_pow (setAt y z 2) 2 (by decide) hin.1 hin.2
                  have hyes : Hid (y/ 32 % 2 = 1 → setAt y z (2 + 1) = setAt y z 2 + 4) := fun h => setAt_yes y z 2 (by simpa [bitAt] using h)
                  have hno : Hid (¬ y/ 32 % 2 = 1 → setAt y z (2 + 1) = setAt y z 2) := fun h => setAt_no y z 2 (by simpa [bitAt] using h)
                  generalize setAt y z 2 = S at hin hor hyes hno
                  have hin0 : 0 ≤ S := hin.1
                  have hin1 : S < 4 := hin.2
                  clear hlt hk hin
                  by_cases hb : y/ 32 % 2 = 1
                  · have e1 := hide (hyes.out hb)
                    have ho := hor.out
                    have gm1 : (0 : Int) < (m : Int) := by omega
                    go_wp2
                    go_round
                    case rel => exact ⟨2 + 1, by omega, by rw [e1.out], by go_num⟩
                    case measure => simp [intOf]
                  · have e1 := hide (hno.out hb)
                    have hb' : (y/ 32 % 2 == 1) = false := by simp [hb]
                    have gm1 : (0 : Int) < (m : Int) := by omega
                    go_wp2
                    go_round
                    case rel => exact ⟨2 + 1, by omega, by rw [e1.out], by go_num⟩
                    case measure => simp [intOf]
                · have hlt' : (3 : Int) < 8 * (m : Int) - x := hlt
                  have hin := setAt_in y z 3
                  have hor : Hid (bits .or .u16 (setAt y z 3) 8 = setAt y z 3 + 8) := or_pow (setAt y z 3) 3 (by decide) hin.1 hin.2
                  have hyes : Hid (y/ 16 % 2 = 1 → setAt y z (3 + 1) = setAt y z 3 + 8) := fun h => setAt_yes y z 3 (by simpa [bitAt] using h)
                  have hno : Hid (¬ y/ 16 % 2 = 1 → setAt y z (3 + 1) = setAt y z 3) := fun h => setAt_no y z 3 (by simpa [bitAt] using h)
                  generalize setAt y z 3 = S at hin hor hyes hno
                  have hin0 : 0 ≤ S := hin.1
                  have hin1 : S < 8 := hin.2
                  clear hlt hk hin
                  by_cases hb : y/ 16 % 2 = 1
                  · have e1 := hide (hyes.out hb)
                    have ho := hor.out
                    have gm1 : (0 : Int) < (m : Int) := by omega
                    go_wp2
                    go_round
                    case rel => exact ⟨3 + 1, by omega, by rw [e1.out], by go_num⟩
                    case measure => simp [intOf]
                  · have e1 := hide (hno.out hb)
                    have hb' : (y/ 16 % 2 == 1) = false := by simp [hb]
                    have gm1 : (0 : Int) < (m : Int) := by omega
                    go_wp2
                    go_round
                    case rel => exact ⟨3 + 1, by omega, by rw [e1.out], by go_num⟩
                    case measure => simp [intOf]
                · have hlt' : (4 : Int) < 8 * (m : Int) - x := hlt
                  have hin := setAt_in y z 4
                  have hor : Hid (bits .or .u16 (setAt y z 4) 16 = setAt y z 4 + 16) := or_pow (setAt y z 4) 4 (by decide) hin.1 hin.2
                  have hyes : Hid (y/ 8 % 2 = 1 → setAt y z (4 + 1) = setAt y z 4 + 16) := fun h => setAt_yes y z 4 (by simpa [bitAt] using h)
                  have hno : Hid (¬ y/ 8 % 2 = 1 → setAt y z (4 + 1) = setAt y z 4) := fun h => setAt_no y z 4 (by simpa [bitAt] using h)
                  generalize setAt y z 4 = S at hin hor hyes hno
                  have hin0 : 0 ≤ S := hin.1
                  have hin1 : S < 16 := hin.2
                  clear hlt hk hin
                  by_cases hb : y/ 8 % 2 = 1
                  · have e1 := hide (hyes.out hb)
                    have ho := hor.out
                    have gm1 : (0 : Int) < (m : Int) := by omega
                    go_wp2
                    go_round
                    case rel => exact ⟨4 + 1, by omega, by rw [e1.out], by go_num⟩
                    case measure => simp [intOf]
                  · have e1 := hide (hno.out hb)
                    have hb' : (y/ 8 % 2 == 1) = false := by simp [hb]
                    have gm1 : (0 : Int) < (m : Int) := by omega
                    go_wp2
                    go_round
                    case rel => exact ⟨4 + 1, by omega, by rw [e1.out], by go_num⟩
                    case measure => simp [intOf]
                · have hlt' : (5 : Int) < 8 * (m : Int) - x := hlt
                  have hin := setAt_in y z 5
                  have hor : Hid (bits .or .u16 (setAt y z 5) 32 = setAt y z 5 + 32) := or_pow (setAt y z 5) 5 (by decide) hin.1 hin.2
                  have hyes : Hid (y/ 4 % 2 = 1 → setAt y z (5 + 1) = setAt y z 5 + 32) := fun h => setAt_yes y z 5 (by simpa [bitAt] using h)
                  have hno : Hid (¬ y/ 4 % 2 = 1 → setAt y z (5 + 1) = setAt y z 5) := fun h => setAt_no y z 5 (by simpa [bitAt] using h)
                  generalize setAt y z 5 = S at hin hor hyes hno
                  have hin0 : 0 ≤ S := hin.1
                  have hin1 : S < 32 := hin.2
                  clear hlt hk hin
                  by_cases hb : y/ 4 % 2 = 1
                  · have e1 := hide (hyes.out hb)
                    have ho := hor.out
                    have gm1 : (0 : Int) < (m : Int) := by omega
                    go_wp2
                    go_round
                    case rel => exact ⟨5 + 1, by omega, by rw [e1.out], by go_num⟩
                    case measure => simp [intOf]
                  · have e1 := hide (hno.out hb)
                    have hb' : (y/ 4 % 2 == 1) = false := by simp [hb]
                    have gm1 : (0 : Int) < (m : Int) := by omega
                    go_wp2
                    go_round
                    case rel => exact ⟨5 + 1, by omega, by rw [e1.out], by go_num⟩
                    case measure => simp [intOf]
                · have hlt' : (6 : Int) < 8 * (m : Int) - x := hlt
                  have hin := setAt_in y z 6
                  have hor : Hid (bits .or .u16 (setAt y z 6) 64 = setAt y z 6 + 64) := or_pow (setAt y z 6) 6 (by decide) hin.1 hin.2
                  have hyes : Hid (y/ 2 % 2 = 1 → setAt y z (6 + 1) = setAt y z 6 + 64) := fun h => setAt_yes y z 6 (by simpa [bitAt] using h)
                  have hno : Hid (¬ y/ 2 % 2 = 1 → setAt y z (6 + 1) = setAt y z 6) := fun h => setAt_no y z 6 (by simpa [bitAt] using h)
                  generalize setAt y z 6 = S at hin hor hyes hno
                  have hin0 : 0 ≤ S := hin.1
                  have hin1 : S < 64 := hin.2
                  clear hlt hk hin
                  by_cases hb : y/ 2 % 2 = 1
                  · have e1 := hide (hyes.out hb)
                    have ho := hor.out
                    have gm1 : (0 : Int) < (m : Int) := by omega
                    go_wp2
                    go_round
                    case rel => exact ⟨6 + 1, by omega, by rw [e1.out], by go_num⟩
                    case measure => simp [intOf]
                  · have e1 := hide (hno.out hb)
                    have hb' : (y/ 2 % 2 == 1) = false := by simp [hb]
                    have gm1 : (0 : Int) < (m : Int) := by omega
                    go_wp2
                    go_round
                    case rel => exact ⟨6 + 1, by omega, by rw [e1.out], by go_num⟩
                    case measure => simp [intOf]
                · have hlt' : (7 : Int) < 8 * (m : Int) - x := hlt
                  have hin := setAt_in y z 7
                  have hor : Hid (bits .or .u16 (setAt y z 7) 128 = setAt y z 7 + 128) := or_pow (setAt y z 7) 7 (by decide) hin.1 hin.2
                  have hyes : Hid (y % 2 = 1 → setAt y z (7 + 1) = setAt y z 7 + 128) := fun h => setAt_yes y z 7 (by simpa [bitAt] using h)
                  have hno : Hid (¬ y % 2 = 1 → setAt y z (7 + 1) = setAt y z 7) := fun h => setAt_no y z 7 (by simpa [bitAt] using h)
                  generalize setAt y z 7 = S at hin hor hyes hno
                  have hin0 : 0 ≤ S := hin.1
                  have hin1 : S < 128 := hin.2
                  clear hlt hk hin
                  by_cases hb : y % 2 = 1
                  · have e1 := hide (hyes.out hb)
                    have ho := hor.out
                    have gm1 : (0 : Int) < (m : Int) := by omega
                    go_wp2
                    go_round
                    case rel => exact ⟨7 + 1, by omega, by rw [e1.out], by go_num⟩
                    case measure => simp [intOf]
                  · have e1 := hide (hno.out hb)
                    have hb' : (y % 2 == 1) = false := by simp [hb]
                    have gm1 : (0 : Int) < (m : Int) := by omega
                    go_wp2
                    go_round
                    case rel => exact ⟨7 + 1, by omega, by rw [e1.out], by go_num⟩
                    case measure => simp [intOf]
                · have c1 := HC1.out (by omega)
                  have hlt' : (8 : Int) < 8 * (m : Int) - x := hlt
                  have hin := setAt_in y z 8
                  have hor : Hid (bits .or .u16 (setAt y z 8) 256 = setAt y z 8 + 256) := or_pow (setAt y z 8) 8 (by decide) hin.1 hin.2
                  have hyes : Hid (z/ 128 % 2 = 1 → setAt y z (8 + 1) = setAt y z 8 + 256) := fun h => setAt_yes y z 8 (by simpa [bitAt] using h)
                  have hno : Hid (¬ z/ 128 % 2 = 1 → setAt y z (8 + 1) = setAt y z 8) := fun h => setAt_no y z 8 (by simpa [bitAt] using h)
                  generalize setAt y z 8 = S at hin hor hyes hno
                  have hin0 : 0 ≤ S := hin.1
                  have hin1 : S < 256 := hin.2
                  clear hlt hk hin
                  by_cases hb : z/ 128 % 2 = 1
                  · have e1 := hide (hyes.out hb)
                    have ho := hor.out
                    have gm1 : (1 : Int) < (m : Int) := by omega
                    go_wp2
                    go_round
                    case rel => exact ⟨8 + 1, by omega, by rw [e1.out], by go_num⟩
                    case measure => simp [intOf]
                  · have e1 := hide (hno.out hb)
                    have hb' : (z/ 128 % 2 == 1) = false := by simp [hb]
                    have gm1 : (1 : Int) < (m : Int) := by omega
                    go_wp2
                    go_round
                    case rel => exact ⟨8 + 1, by omega, by rw [e1.out], by go_num⟩
                    case measure => simp [intOf]
                · have c1 := HC1.out (by omega)
                  have hlt' : (9 : Int) < 8 * (m : Int) - x := hlt
                  have hin := setAt_in y z 9
                  have hor : Hid (bits .or .u16 (setAt y z 9) 512 = setAt y z 9 + 512) := or_pow (setAt y z 9) 9 (by decide) hin.1 hin.2
                  have hyes : Hid (z/ 64 % 2 = 1 → setAt y z (9 + 1) = setAt y z 9 + 512) := fun h => setAt_yes y z 9 (by simpa [bitAt] using h)
                  have hno : Hid (¬ z/ 64 % 2 = 1 → setAt y z (9 + 1) = setAt y z 9) := fun h => setAt_no y z 9 (by simpa [bitAt] using h)
                  generalize setAt y z 9 = S at hin hor hyes hno
                  have hin0 : 0 ≤ S := hin.1
                  have hin1 : S < 512 := hin.2
                  clear hlt hk hin
                  by_cases hb : z/ 64 % 2 = 1
                  · have e1 := hide (hyes.out hb)
                    have ho := hor.out
                    have gm1 : (1 : Int) < (m : Int) := by omega
                    go_wp2
                    go_round
                    case rel => exact ⟨9 + 1, by omega, by rw [e1.out], by go_num⟩
                    case measure => simp [intOf]
                  · have e1 := hide (hno.out hb)
                    have hb' : (z/ 64 % 2 == 1) = false := by simp [hb]
                    have gm1 : (1 : Int) < (m : Int) := by omega
                    go_wp2
                    go_round
                    case rel => exact ⟨9 + 1, by omega, by rw [e1.out], by go_num⟩
                    case measure => simp [intOf]
                · have c1 := HC1.out (by omega)
                  have hlt' : (10 : Int) < 8 * (m : Int) - x := hlt
                  have hin := setAt_in y z 10
                  have hor : Hid (bits .or .u16 (setAt y z 10) 1024 = setAt y z 10 + 1024) := or_pow (setAt y z 10) 10 (by decide) hin.1 hin.2
                  have hyes : Hid (z/ 32 % 2 = 1 → setAt y z (10 + 1) = setAt y z 10 + 1024) := fun h => setAt_yes y z 10 (by simpa [bitAt] using h)
                  have hno : Hid (¬ z/ 32 % 2 = 1 → setAt y z (10 + 1) = setAt y z 10) := fun h => setAt_no y z 10 (by simpa [bitAt] using h)
                  generalize setAt y z 10 = S at hin hor hyes hno
                  have hin0 : 0 ≤ S := hin.1
                  have hin1 : S < 1024 := hin.2
                  clear hlt hk hin
                  by_cases hb : z/ 32 % 2 = 1
                  · have e1 := hide (hyes.out hb)
                    have ho := hor.out
                    have gm1 : (1 : Int) < (m : Int) := by omega
                    go_wp2
                    go_round
                    case rel => exact ⟨10 + 1, by omega, by rw [e1.out], by go_num⟩
                    case measure => simp [intOf]
                  · have e1 := hide (hno.out hb)
                    have hb' : (z/ 32 % 2 == 1) = false := by simp [hb]
                    have gm1 : (1 : Int) < (m : Int) := by omega
                    go_wp2
                    go_round
                    case rel => exact ⟨10 + 1, by omega, by rw [e1.out], by go_num⟩
                    case measure => simp [intOf]
                · have c1 := HC1.out (by omega)
                  have hlt' : (11 : Int) < 8 * (m : Int) - x := hlt
                  have hin := setAt_in y z 11
                  have hor : Hid (bits .or .u16 (setAt y z 11) 2048 = setAt y z 11 + 2048) := or_pow (setAt y z 11) 11 (by decide) hin.1 hin.2
                  have hyes : Hid (z/ 16 % 2 = 1 → setAt y z (11 + 1) = setAt y z 11 + 2048) := fun h => setAt_yes y z 11 (by simpa [bitAt] using h)
                  have hno : Hid (¬ z/ 16 % 2 = 1 → setAt y z (11 + 1) = setAt y z 11) := fun h => setAt_no y z 11 (by simpa [bitAt] using h)
                  generalize setAt y z 11 = S at hin hor hyes hno
                  have hin0 : 0 ≤ S := hin.1
                  have hin1 : S < 2048 := hin.2
                  clear hlt hk hin
                  by_cases hb : z/ 16 % 2 = 1
                  · have e1 := hide (hyes.out hb)
                    have ho := hor.out
                    have gm1 : (1 : Int) < (m : Int) := by omega
                    go_wp2
                    go_round
                    case rel => exact ⟨11 + 1, by omega, by rw [e1.out], by go_num⟩
                    case measure => simp [intOf]
                  · have e1 := hide (hno.out hb)
                    have hb' : (z/ 16 % 2 == 1) = false := by simp [hb]
                    have gm1 : (1 : Int) < (m : Int) := by omega
                    go_wp2
                    go_round
                    case rel => exact ⟨11 + 1, by omega, by rw [e1.out], by go_num⟩
                    case measure => simp [intOf]
                · have c1 := HC1.out (by omega)
                  have hlt' : (12 : Int) < 8 * (m : Int) - x := hlt
                  have hin := setAt_in y z 12
                  have hor : Hid (bits .or .u16 (setAt y z 12) 4096 = setAt y z 12 + 4096) := or_pow (setAt y z 12) 12 (by decide) hin.1 hin.2
                  have hyes : Hid (z/ 8 % 2 = 1 → setAt y z (12 + 1) = setAt y z 12 + 4096) := fun h => setAt_yes y z 12 (by simpa [bitAt] using h)
                  have hno : Hid (¬ z/ 8 % 2 = 1 → setAt y z (12 + 1) = setAt y z 12) := fun h => setAt_no y z 12 (by simpa [bitAt] using h)
                  generalize setAt y z 12 = S at hin hor hyes hno
                  have hin0 : 0 ≤ S := hin.1
                  have hin1 : S < 4096 := hin.2
                  clear hlt hk hin
                  by_cases hb : z/ 8 % 2 = 1
                  · have e1 := hide (hyes.out hb)
                    have ho := hor.out
                    have gm1 : (1 : Int) < (m : Int) := by omega
                    go_wp2
                    go_round
                    case rel => exact ⟨12 + 1, by omega, by rw [e1.out], by go_num⟩
                    case measure => simp [intOf]
                  · have e1 := hide (hno.out hb)
                    have hb' : (z/ 8 % 2 == 1) = false := by simp [hb]
                    have gm1 : (1 : Int) < (m : Int) := by omega
                    go_wp2
                    go_round
                    case rel => exact ⟨12 + 1, by omega, by rw [e1.out], by go_num⟩
                    case measure => simp [intOf]
                · have c1 := HC1.out (by omega)
                  have hlt' : (13 : Int) < 8 * (m : Int) - x := hlt
                  have hin := setAt_in y z 13
                  have hor : Hid (bits .or .u16 (setAt y z 13) 8192 = setAt y z 13 + 8192) := or_pow (setAt y z 13) 13 (by decide) hin.1 hin.2
                  have hyes : Hid (z/ 4 % 2 = 1 → setAt y z (13 + 1) = setAt y z 13 + 8192) := fun h => setAt_yes y z 13 (by simpa [bitAt] using h)
                  have hno : Hid (¬ z/ 4 % 2 = 1 → setAt y z (13 + 1) = setAt y z 13) := fun h => setAt_no y z 13 (by simpa [bitAt] using h)
                  generalize setAt y z 13 = S at hin hor hyes hno
                  have hin0 : 0 ≤ S := hin.1
                  have hin1 : S < 8192 := hin.2
                  clear hlt hk hin
                  by_cases hb : z/ 4 % 2 = 1
                  · have e1 := hide (hyes.out hb)
                    have ho := hor.out
                    have gm1 : (1 : Int) < (m : Int) := by omega
                    go_wp2
                    go_round
                    case rel => exact ⟨13 + 1, by omega, by rw [e1.out], by go_num⟩
                    case measure => simp [intOf]
                  · have e1 := hide (hno.out hb)
                    have hb' : (z/ 4 % 2 == 1) = false := by simp [hb]
                    have gm1 : (1 : Int) < (m : Int) := by omega
                    go_wp2
                    go_round
                    case rel => exact ⟨13 + 1, by omega, by rw [e1.out], by go_num⟩
                    case measure => simp [intOf]
                · have c1 := HC1.out (by omega)
                  have hlt' : (14 : Int) < 8 * (m : Int) - x := hlt
                  have hin := setAt_in y z 14
                  have hor : Hid (bits .or .u16 (setAt y z 14) 16384 = setAt y z 14 + 16384) := or_pow (setAt y z 14) 14 (by decide) hin.1 hin.2
                  have hyes : Hid (z/ 2 % 2 = 1 → setAt y z (14 + 1) = setAt y z 14 + 16384) := fun h => setAt_yes y z 14 (by simpa [bitAt] using h)
                  have hno : Hid (¬ z/ 2 % 2 = 1 → setAt y z (14 + 1) = setAt y z 14) := fun h => setAt_no y z 14 (by simpa [bitAt] using h)
                  generalize setAt y z 14 = S at hin hor hyes hno
                  have hin0 : 0 ≤ S := hin.1
                  have hin1 : S < 16384 := hin.2
                  clear hlt hk hin
                  by_cases hb : z/ 2 % 2 = 1
                  · have e1 := hide (hyes.out hb)
                    have ho := hor.out
                    have gm1 : (1 : Int) < (m : Int) := by omega
                    go_wp2
                    go_round
                    case rel => exact ⟨14 + 1, by omega, by rw [e1.out], by go_num⟩
                    case measure => simp [intOf]
                  · have e1 := hide (hno.out hb)
                    have hb' : (z/ 2 % 2 == 1) = false := by simp [hb]
                    have gm1 : (1 : Int) < (m : Int) := by omega
                    go_wp2
                    go_round
                    case rel => exact ⟨14 + 1, by omega, by rw [e1.out], by go_num⟩
                    case measure => simp [intOf]
                · have c1 := HC1.out (by omega)
                  have hlt' : (15 : Int) < 8 * (m : Int) - x := hlt
                  have hin := setAt_in y z 15
                  have hor : Hid (bits .or .u16 (setAt y z 15) 32768 = setAt y z 15 + 32768) := or_pow (setAt y z 15) 15 (by decide) hin.1 hin.2
                  have hyes : Hid (z % 2 = 1 → setAt y z (15 + 1) = setAt y z 15 + 32768) := fun h => setAt_yes y z 15 (by simpa [bitAt] using h)
                  have hno : Hid (¬ z % 2 = 1 → setAt y z (15 + 1) = setAt y z 15) := fun h => setAt_no y z 15 (by simpa [bitAt] using h)
                  generalize setAt y z 15 = S at hin hor hyes hno
                  have hin0 : 0 ≤ S := hin.1
                  have hin1 : S < 32768 := hin.2
                  clear hlt hk hin
                  by_cases hb : z % 2 = 1
                  · have e1 := hide (hyes.out hb)
                    have ho := hor.out
                    have gm1 : (1 : Int) < (m : Int) := by omega
                    go_wp2
                    go_round
                    case rel => exact ⟨15 + 1, by omega, by rw [e1.out], by go_num⟩
                    case measure => simp [intOf]
                  · have e1 := hide (hno.out hb)
                    have hb' : (z % 2 == 1) = false := by simp [hb]
                    have gm1 : (1 : Int) < (m : Int) := by omega
                    go_wp2
                    go_round
                    case rel => exact ⟨15 + 1, by omega, by rw [e1.out], by go_num⟩
                    case measure => simp [intOf]
              · have HF := hide (HV.out k (by omega))
                go_wp2
                exact bodyPost_ret (v := .tuple #[.int .u16 (setAt y z k), .int .i64 0]) (by simp [results, Try.results40, go_sem]) rfl ⟨by rw [HE1.out, HE2.out, HF.out], B1⟩
  · simp only [Bool.not_eq_true] at h
    obtain ⟨f1, f2⟩ := toFlags_bad xs (.inl h)
    have HE1 := hide f1
    have HE2 := hide f2
    clear f1 f2
    have e1 : toBitsE xs = 20 := by simp [toBitsE, h]
    have e2 : toBitsV xs = [] := by simp [toBitsV, h]
    have e3 : toBitsU xs = 0 := by simp [toBitsU, h]
    rw [e1, e2, e3] at Hc
    clear e1 e2 e3
    go_enter Try.func40, Try.ntmps40
    go_wp2_with fail
    refine Hc.out.mono ?_
    rintro e w1 ⟨aX, cX, rfl, oX, B1⟩
    go_wp2
    exact bodyPost_ret (v := .tuple #[.int .u16 0, .int .i64 20]) (by simp [results, Try.results40, go_sem]) rfl ⟨by rw [HE1.out, HE2.out], B1⟩

end Go.Proofs.Ytodhlmnjfkbocaa
