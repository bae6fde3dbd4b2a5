/-
  num.endsWith0, num.ToFlags: what they tell of any bytes, as plain functions.
-/
import Derived.Test.YtmkfdfjpfinbpaaToX
import Derived.Test.YtmkfdfjpfinbpaaArr2
namespace Go.Proofs.Ytmkfdfjpfinbpaa
open Go.RowKit Go.IntWalk

theorem slice_arr2all (W : World) (b : Nat) : (Instr.sliceAt 52 (.pointer (some ⟨b, 0, none⟩)) none none none).run Try.prog W = .ok (.slice (some ⟨b, 0, none⟩) 2 2) W := by
  rw [run_sliceAt_array_all W _ _ Try.arrA2, Try.sizeA2, Try.lenA2]
  simp [slicedAt, Result.andThen, add_none]

def endsB (r : List Int) (u : Int) : Bool := !decide (r = []) && decide (r.getD (r.length - 1) 0 / ((2 ^ u.toNat : Nat) : Int) % 2 = 0)
def toFlagsE (xs : List Int) : Int := if isBS xs && !endsB (xs.drop 1) (xs.getD 0 0) then (if 3 < xs.length then 21 else 0) else 20
def toFlagsV (xs : List Int) : Int := if isBS xs && !endsB (xs.drop 1) (xs.getD 0 0) then (if 3 < xs.length then 0 else revS (xs.getD 1 0 * 256 + xs.getD 2 0)) else 0

set_option maxRecDepth 100000 in
set_option maxHeartbeats 1000000 in
theorem ends_any (ao : Option Addr) (n cap : Nat) (xs : List Int) (u : Int) (w : World) (hs : Src w ao n cap xs) (hu : 0 ≤ u ∧ u ≤ 7) :
    Calls Try.prog 30 #[.slice ao n cap, .int .u8 u] w fun e w' => e = .returned (.bool (endsB xs u)) ∧ w' = w := by
  by_cases hn : n = 0
  · subst hn
    obtain rfl : xs = [] := List.eq_nil_of_length_eq_zero hs.hlen
    have e1 : endsB [] u = false := by simp [endsB]
    rw [e1]
    go_enter Try.func30, Try.ntmps30
    go_wp2
    go_ret
    exact ⟨rfl, rfl⟩
  · obtain ⟨m, rfl⟩ : ∃ m, n = m + 1 := ⟨n - 1, by omega⟩
    obtain ⟨b, off, rfl, hc⟩ := hs.at m (by omega)
    have hm : m + 1 ≤ 9223372036854775807 := by have h1 := hs.hcap; have h2 := hs.hmax; unfold maxLen at h2; omega
    have hne := hide (show xs ≠ [] by intro h; have := hs.hlen; subst h; simp at this)
    have hby := hs.hbyt (xs.getD m 0) (by rw [List.getD, List.getElem?_eq_getElem (by rw [hs.hlen]; omega)]; exact List.getElem_mem _)
    have hx := hide (show xs.getD (xs.length - 1) 0 = xs.getD m 0 by rw [hs.hlen]; rfl)
    generalize xs.getD m 0 = x at hc hby hx
    obtain ⟨h0, h1⟩ := hby
    have g3 : decide (0 < (m : Int) + 1) = true := decide_eq_true (by omega)
    rcases (show u = 0 ∨ u = 1 ∨ u = 2 ∨ u = 3 ∨ u = 4 ∨ u = 5 ∨ u = 6 ∨ u = 7 by omega) with rfl | rfl | rfl | rfl | rfl | rfl | rfl | rfl
    · have e1 := hide (show endsB xs 0 = decide (x % 2 = 0) by unfold endsB; rw [hx.out]; simp [hne.out])
      have hk := mask1 (x)
      go_enter Try.func30, Try.ntmps30
      go_wp2
      go_ret
      rw [e1.out]
      exact ⟨by first | rfl | (simp; done), rfl⟩
    · have e1 := hide (show endsB xs 1 = decide (x/ 2 % 2 = 0) by unfold endsB; rw [hx.out]; simp [hne.out])
      have hk := mask1 (x/ 2)
      go_enter Try.func30, Try.ntmps30
      go_wp2
      go_ret
      rw [e1.out]
      exact ⟨by first | rfl | (simp; done), rfl⟩
    · have e1 := hide (show endsB xs 2 = decide (x/ 4 % 2 = 0) by unfold endsB; rw [hx.out]; simp [hne.out])
      have hk := mask1 (x/ 4)
      go_enter Try.func30, Try.ntmps30
      go_wp2
      go_ret
      rw [e1.out]
      exact ⟨by first | rfl | (simp; done), rfl⟩
    · have e1 := hide (show endsB xs 3 = decide (x/ 8 % 2 = 0) by unfold endsB; rw [hx.out]; simp [hne.out])
      have hk := mask1 (x/ 8)
      go_enter Try.func30, Try.ntmps30
      go_wp2
      go_ret
      rw [e1.out]
      exact ⟨by first | rfl | (simp; done), rfl⟩
    · have e1 := hide (show endsB xs 4 = decide (x/ 16 % 2 = 0) by unfold endsB; rw [hx.out]; simp [hne.out])
      have hk := mask1 (x/ 16)
      go_enter Try.func30, Try.ntmps30
      go_wp2
      go_ret
      rw [e1.out]
      exact ⟨by first | rfl | (simp; done), rfl⟩
    · have e1 := hide (show endsB xs 5 = decide (x/ 32 % 2 = 0) by unfold endsB; rw [hx.out]; simp [hne.out])
      have hk := mask1 (x/ 32)
      go_enter Try.func30, Try.ntmps30
      go_wp2
      go_ret
      rw [e1.out]
      exact ⟨by first | rfl | (simp; done), rfl⟩
    · have e1 := hide (show endsB xs 6 = decide (x/ 64 % 2 = 0) by unfold endsB; rw [hx.out]; simp [hne.out])
      have hk := mask1 (x/ 64)
      go_enter Try.func30, Try.ntmps30
      go_wp2
      go_ret
      rw [e1.out]
      exact ⟨by first | rfl | (simp; done), rfl⟩
    · have e1 := hide (show endsB xs 7 = decide (x/ 128 % 2 = 0) by unfold endsB; rw [hx.out]; simp [hne.out])
      have hk := mask1 (x/ 128)
      go_enter Try.func30, Try.ntmps30
      go_wp2
      go_ret
      rw [e1.out]
      exact ⟨by first | rfl | (simp; done), rfl⟩

theorem toFlags_bad (xs : List Int) (h : isBS xs = false ∨ endsB (xs.drop 1) (xs.getD 0 0) = true) : toFlagsE xs = 20 ∧ toFlagsV xs = 0 := by
  rcases h with h | h <;> simp only [toFlagsE, toFlagsV, h] <;> simp
theorem toFlags_big (xs : List Int) (h : isBS xs = true) (h' : endsB (xs.drop 1) (xs.getD 0 0) = false) (h3 : 3 < xs.length) : toFlagsE xs = 21 ∧ toFlagsV xs = 0 := by
  simp only [toFlagsE, toFlagsV, h, h']; simp [h3]
theorem toFlags_ok (xs : List Int) (h : isBS xs = true) (h' : endsB (xs.drop 1) (xs.getD 0 0) = false) (h3 : ¬ 3 < xs.length) : toFlagsE xs = 0 ∧ toFlagsV xs = revS (xs.getD 1 0 * 256 + xs.getD 2 0) := by
  simp only [toFlagsE, toFlagsV, h, h']; simp [h3]

theorem getD_byte (r : List Int) (hb : ∀ x ∈ r, 0 ≤ x ∧ x < 256) (j : Nat) : 0 ≤ r.getD j 0 ∧ r.getD j 0 < 256 := by
  by_cases h : j < r.length
  · refine hb _ ?_
    rw [List.getD, List.getElem?_eq_getElem h]
    exact List.getElem_mem _
  · rw [List.getD, List.getElem?_eq_none (Nat.le_of_not_lt h)]
    simp

theorem new2 (w : World) (a b : Int) (T : TypeId) : (w.alloc (.cells #[.int .u8 a, .int .u8 b] T)).cell? ⟨w.heap.size, 0, none⟩ = some (.int .u8 a) ∧ (w.alloc (.cells #[.int .u8 a, .int .u8 b] T)).cell? ⟨w.heap.size, 1, none⟩ = some (.int .u8 b) ∧ ∀ j, (w.alloc (.cells #[.int .u8 a, .int .u8 b] T)).frozen? ⟨w.heap.size, j, none⟩ = false :=
  ⟨by simp, by simp, by simp⟩

theorem Try.infoS : (Try.prog.info? 5).map (·.size) = some 1 := by kernel_rfl

theorem copy2 (W : World) (g : Nat) (A : Option Addr) (m c : Nat) (r : List Int) (ty : TypeId) (hs : Src W A m c r) (hm : m ≤ 2) (hc : ∀ j, j < 2 → (W.cell? ⟨g, j, none⟩).isSome = true) (hf : ∀ j, j < 2 → W.frozen? ⟨g, j, none⟩ = false) :
    (Builtin.copy_ #[22, 22] ty #[.slice (some ⟨g, 0, none⟩) 2 2, .slice A m c]).run Try.prog W = .ok (goInt m) (W.setCells g 0 (r.map (Value.int .u8))) := by
  have hl := hs.hlen
  by_cases h0 : m = 0
  · subst h0
    obtain rfl : r = [] := List.eq_nil_of_length_eq_zero hl
    rw [run_copy_none W _ _ _ 5 _ _ _ _ _ _ Try.underlying22 Try.infoS (by simp)]
    rfl
  · obtain ⟨b, off, rfl, hrd⟩ := hs.hrd (by intro h; subst h; simp at hl; omega)
    rw [run_copy_cells W _ _ _ 5 g 0 2 2 ⟨b, off, none⟩ m c (r.map (Value.int .u8)) Try.underlying22 Try.infoS (by rw [List.length_map, hl]; exact (Nat.min_eq_left hm).symm) ?_ ?_ ?_ (ints_one _ _)]
    · rw [List.length_map, hl]
    · intro j v hj
      have hjl : j < r.length := by
        rcases Nat.lt_or_ge j r.length with h | h
        · exact h
        · simp [List.getElem?_eq_none (show (r.map (Value.int .u8)).length ≤ j by simpa using h)] at hj
      rw [add_none, hrd j hjl]
      simp [List.getElem?_eq_getElem hjl] at hj
      subst hj
      simp [List.getD, List.getElem?_eq_getElem hjl]
    · intro j hj
      rw [List.length_map, hl] at hj
      rw [Nat.zero_add]
      exact hc j (by omega)
    · intro j hj
      rw [List.length_map, hl] at hj
      rw [Nat.zero_add]
      exact hf j (by omega)

theorem copied (W : World) (g : Nat) (r : List Int) (hl : r.length ≤ 2) (j : Nat) (hj : j < 2) (hc : ∀ j, j < 2 → W.cell? ⟨g, j, none⟩ = some (.int .u8 0)) :
    (W.setCells g 0 (r.map (Value.int .u8))).cell? ⟨g, j, none⟩ = some (.int .u8 (r.getD j 0)) := by
  by_cases h : j < r.length
  · have := World.cell?_setCells_in g (r.map (Value.int .u8)) 0 W (by intro i hi; rw [List.length_map] at hi; rw [Nat.zero_add, hc i (by omega)]; rfl) j (by simpa using h)
    rw [Nat.zero_add] at this
    rw [this]
    simp [List.getD, h]
  · rw [World.cell?_setCells_out g _ _ _ _ (fun _ _ => .inr (by simp; omega)), hc j hj]
    simp [List.getD, List.getElem?_eq_none (Nat.le_of_not_lt h)]

set_option maxRecDepth 100000 in
set_option maxHeartbeats 1000000 in
theorem toFlags_any (ao : Option Addr) (n cap : Nat) (xs : List Int) (w : World) (hs : Src w ao n cap xs) (hN : n ≤ 140737488355328) :
    Calls Try.prog 19 #[.slice ao n cap] w fun e w' => e = .returned (.tuple #[.int .u16 (toFlagsV xs), .int .i64 (toFlagsE xs)]) ∧ Below w.heap.size w w' := by
  by_cases h : isBS xs = true
  · obtain ⟨x, r, rfl⟩ : ∃ x r, xs = x :: r := by
      cases xs with
      | nil => simp [isBS] at h
      | cons x r => exact ⟨x, r, rfl⟩
    have hl : r.length + 1 = n := by have := hs.hlen; simpa using this
    obtain ⟨m, rfl⟩ : ∃ m, n = m + 1 := ⟨n - 1, by omega⟩
    have HL : Hid (r.length = m) := by unfold Hid; omega
    obtain ⟨b, off, rfl, c0⟩ := hs.at 0 (by omega)
    simp only [Nat.add_zero, List.getD, List.getElem?_cons_zero, Option.getD_some] at c0
    obtain ⟨x0, x7⟩ := bits_in r x h
    have ht : Hid (Src w (cutA (some ⟨b, off, none⟩) cap 1) m (cap - 1) r) := hs.tail
    have hcap : m + 1 ≤ cap := hs.hcap
    have sl := fun W => slice_lo W (some ⟨b, off, none⟩) (m + 1) cap 1 1 rfl (by omega)
    simp only [Nat.add_sub_cancel] at sl
    have hA : m = 0 ∨ cutA (some ⟨b, off, none⟩) cap 1 = some ⟨b, off + 1, none⟩ := by
      rcases Nat.eq_zero_or_pos m with h | h
      · exact .inl h
      · right; unfold cutA; rw [if_neg (by omega)]; simp [add_none]
    generalize cutA (some ⟨b, off, none⟩) cap 1 = A at ht sl hA
    have HA := hide hA
    clear hl hA
    by_cases h' : endsB r x = true
    · obtain ⟨e1, e2⟩ := toFlags_bad (x :: r) (.inr h')
      rw [e1, e2]
      clear e1 e2
      go_enter Try.func19, Try.ntmps19
      go_wp2_with fail
      go_quiet ((first | (go_at_call 29; exact Calls.quiet_of (isBS_any (some ⟨b, off, none⟩) (m + 1) cap (x :: r) _ (by exact hs.heap rfl))) | (go_at_call 30; exact Calls.quiet_of_same (ends_any A m (cap - 1) r x _ (by exact ht.out.heap rfl) ⟨x0, x7⟩))))
      go_wp2
      exact bodyPost_ret (v := .tuple #[.int .u16 0, .int .i64 20]) (by simp [results, Try.results19, go_sem]) rfl ⟨rfl, ((Drawn.refl _).more _).below (Below.refl _ _)⟩
    · simp only [Bool.not_eq_true] at h'
      by_cases h3 : 2 < m
      · obtain ⟨e1, e2⟩ := toFlags_big (x :: r) h h' (by rw [List.length_cons, HL.out]; omega)
        rw [e1, e2]
        clear e1 e2
        go_enter Try.func19, Try.ntmps19
        go_wp2_with fail
        go_quiet ((first | (go_at_call 29; exact Calls.quiet_of (isBS_any (some ⟨b, off, none⟩) (m + 1) cap (x :: r) _ (by exact hs.heap rfl))) | (go_at_call 30; exact Calls.quiet_of_same (ends_any A m (cap - 1) r x _ (by exact ht.out.heap rfl) ⟨x0, x7⟩))))
        go_wp2
        exact bodyPost_ret (v := .tuple #[.int .u16 0, .int .i64 21]) (by simp [results, Try.results19, go_sem]) rfl ⟨rfl, ((Drawn.refl _).more _).below (Below.refl _ _)⟩
      · obtain ⟨e1, e2⟩ := toFlags_ok (x :: r) h h' (by rw [List.length_cons, HL.out]; omega)
        rw [e1, e2]
        clear e1 e2
        go_enter Try.func19, Try.ntmps19
        go_wp2_with fail
        go_quiet ((first | (go_at_call 29; exact Calls.quiet_of (isBS_any (some ⟨b, off, none⟩) (m + 1) cap (x :: r) _ (by exact hs.heap rfl))) | (go_at_call 30; exact Calls.quiet_of_same (ends_any A m (cap - 1) r x _ (by exact ht.out.heap rfl) ⟨x0, x7⟩))))
        go_wp2_with fail
        have hsw := hide ((ht.out.drewN nq).alloc (.cells #[.int .u8 0, .int .u8 0] 52))
        have hBw : Below w.heap.size w ((w.drewN nq).alloc (.cells #[.int .u8 0, .int .u8 0] 52)) := (((Drawn.refl w).more nq).below (Below.refl _ _)).alloc (Nat.le_refl _) _
        have z0 : ((w.drewN nq).alloc (.cells #[.int .u8 0, .int .u8 0] 52)).cell? ⟨w.heap.size, 0, none⟩ = some (.int .u8 0) := (new2 (w.drewN nq) 0 0 _).1
        have z1 : ((w.drewN nq).alloc (.cells #[.int .u8 0, .int .u8 0] 52)).cell? ⟨w.heap.size, 1, none⟩ = some (.int .u8 0) := (new2 (w.drewN nq) 0 0 _).2.1
        have f0 : ((w.drewN nq).alloc (.cells #[.int .u8 0, .int .u8 0] 52)).frozen? ⟨w.heap.size, 0, none⟩ = false := (new2 (w.drewN nq) 0 0 _).2.2 0
        have f1 : ((w.drewN nq).alloc (.cells #[.int .u8 0, .int .u8 0] 52)).frozen? ⟨w.heap.size, 1, none⟩ = false := (new2 (w.drewN nq) 0 0 _).2.2 1
        generalize (w.drewN nq).alloc (.cells #[.int .u8 0, .int .u8 0] 52) = W at hsw hBw z0 z1 f0 f1 ⊢
        have zz : Hid (∀ j, j < 2 → W.cell? ⟨w.heap.size, j, none⟩ = some (.int .u8 0)) := by
          intro j hj
          rcases (show j = 0 ∨ j = 1 by omega) with rfl | rfl
          · exact z0
          · exact z1
        have ff : Hid (∀ j, j < 2 → W.frozen? ⟨w.heap.size, j, none⟩ = false) := by
          intro j hj
          rcases (show j = 0 ∨ j = 1 by omega) with rfl | rfl
          · exact f0
          · exact f1
        have sa := slice_arr2all
        have hr2 : Hid (r.length ≤ 2) := by unfold Hid; rw [HL.out]; omega
        have cp := copy2 W.drew w.heap.size A m (cap - 1) r 3 (hsw.out.heap rfl) (by omega) (fun j hj => by rw [show W.drew.cell? ⟨w.heap.size, j, none⟩ = W.cell? ⟨w.heap.size, j, none⟩ from rfl, zz.out j hj]; rfl) (fun j hj => ff.out j hj)
        have k0 := copied W.drew w.heap.size r hr2.out 0 (by omega) zz.out
        have k1 := copied W.drew w.heap.size r hr2.out 1 (by omega) zz.out
        clear z0 z1 f0 f1
        have e0 : (x :: r).getD 1 0 = r.getD 0 0 := rfl
        have e1 : (x :: r).getD 2 0 = r.getD 1 0 := rfl
        have hrb : Hid (∀ j, 0 ≤ r.getD j 0 ∧ r.getD j 0 < 256) := fun j => getD_byte r ht.out.hbyt j
        go_region
        have hB2 : Below w.heap.size w (W.drew.setCells w.heap.size 0 (r.map (Value.int .u8))) := (hBw.drew).grown (grown_setCells w.heap.size _ 0 W.drew) hBw.size (by intro k hk; cases hk; exact Nat.le_refl _)
        generalize W.drew.setCells w.heap.size 0 (r.map (Value.int .u8)) = W2 at k0 k1 hB2 ⊢
        obtain ⟨p0, p1⟩ := hrb.out 0
        obtain ⟨q0, q1⟩ := hrb.out 1
        have hfin : Hid (∀ v, v = revS (r.getD 0 0 * 256 + r.getD 1 0) → (Value.tuple #[.int .u16 v, .int .i64 0]) = .tuple #[.int .u16 (revS ((x :: r).getD 1 0 * 256 + (x :: r).getD 2 0)), .int .i64 0]) := by
          intro v hv
          rw [hv, e0, e1]
        clear e0 e1
        generalize r.getD 0 0 = p at k0 p0 p1 hfin
        generalize r.getD 1 0 = q at k1 q0 q1 hfin
        have ho := or_high p q p0 p1 q0 q1
        have hwp : IntKind.u16.wrap (p * 256) = p * 256 := by rw [IntKind.wrap_u16]; omega
        go_wp2_with (go_at_call 31; refine (rev16_any (p * 256 + q) (by omega) (by omega) _).mono ?_; rintro e w3 ⟨rfl, hw3⟩)
        refine bodyPost_ret (v := .tuple #[.int .u16 (revS (p * 256 + q)), .int .i64 0]) (by simp [results, Try.results19, go_sem]) rfl ⟨by rw [hfin.out _ rfl], ?_⟩
        obtain ⟨q', rfl⟩ := hw3
        exact ((Drawn.refl _).more q').below hB2
  · simp only [Bool.not_eq_true] at h
    obtain ⟨e1, e2⟩ := toFlags_bad xs (.inl h)
    rw [e1, e2]
    clear e1 e2
    go_enter Try.func19, Try.ntmps19
    go_wp2_with fail
    go_quiet ((go_at_call 29; exact Calls.quiet_of (isBS_any ao n cap xs _ (by exact hs.heap rfl))))
    go_wp2
    exact bodyPost_ret (v := .tuple #[.int .u16 0, .int .i64 20]) (by simp [results, Try.results19, go_sem]) rfl ⟨rfl, ((Drawn.refl _).more _).below (Below.refl _ _)⟩

end Go.Proofs.Ytmkfdfjpfinbpaa
