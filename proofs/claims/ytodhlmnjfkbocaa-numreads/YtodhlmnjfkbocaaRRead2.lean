/-
  The reference's ToNat, ToBool, ToBits tell of any bytes what the plain functions say.
-/
import Derived.Test.YtodhlmnjfkbocaaRRead
import Derived.Test.YtodhlmnjfkbocaaStep
namespace Go.Proofs.Ytodhlmnjfkbocaa
open Go.RowKit Go.IntWalk

theorem bare_natV (xs : List Int) (h : isIntS xs = true) (h1 : ¬ 128 ≤ xs.getD 0 0) : bareS xs = toNatV xs := by
  unfold toNatV
  rw [if_pos h, if_neg h1]
  match xs, h, h1 with
  | [], h, _ => simp [isIntS] at h
  | [x], _, h1 =>
    by_cases h0 : x = 0
    · subst h0; simp [bareS]
    · simp [bareS, h0]
  | x :: y :: r, h, h1 =>
    by_cases h0 : x = 0
    · subst h0
      have hy : y ≠ 0 := by
        intro hy
        subst hy
        simp [isIntS, idleS] at h
      simp [bareS, hy]
    · simp [bareS, h0]

set_option maxRecDepth 100000 in
set_option maxHeartbeats 1000000 in
theorem refToNat_any (ao : Option Addr) (n cap : Nat) (xs : List Int) (w : World) (hs : Src w ao n cap xs) (hN : n ≤ 140737488355328) :
    Calls Try.prog 36 #[.slice ao n cap] w fun e w' => ∃ ao' c', e = .returned (.tuple #[.slice ao' (toNatV xs).length c', .int .i64 (toNatE xs)]) ∧ OwnB w' w.heap.size (.slice ao' (toNatV xs).length c') (toNatV xs) ∧ Below w.heap.size w w' := by
  have Hc := hide (refShort_any ao n cap xs w hs)
  by_cases h : isIntS xs = true
  · rw [h] at Hc
    have hn : 0 < n := by
      rcases Nat.eq_zero_or_pos n with h' | h'
      · subst h'
        obtain rfl : xs = [] := List.eq_nil_of_length_eq_zero hs.hlen
        simp [isIntS] at h
      · exact h'
    obtain ⟨b, off, rfl, _⟩ := hs.at 0 hn
    have c0 := hs.one hn
    have gn : (0 : Int) < (n : Int) := by omega
    by_cases h1 : 128 ≤ xs.getD 0 0
    · have e1 : toNatE xs = 22 := by unfold toNatE; rw [if_pos h, if_pos h1]
      have e2 : toNatV xs = [] := by unfold toNatV; rw [if_pos h, if_pos h1]
      rw [e1, e2]
      clear e1 e2
      generalize xs.getD 0 0 = x at c0 h1
      go_enter Try.func36, Try.ntmps36
      go_wp2_with fail
      refine Hc.out.mono ?_
      rintro e w0 ⟨rfl, hd⟩
      have c1 := (hd.cell ⟨b, off, none⟩).trans c0
      go_wp2
      refine bodyPost_ret (v := .tuple #[.slice none 0 0, .int .i64 22]) (by simp [results, Try.results36, go_sem]) rfl ⟨none, 0, rfl, OwnB.nil _ _, hd.below (Below.refl _ _)⟩
    · have e1 : toNatE xs = 0 := by unfold toNatE; rw [if_pos h, if_neg h1]
      have HE := hide (bare_natV xs h h1)
      rw [e1]
      clear e1
      generalize xs.getD 0 0 = x at c0 h1
      go_enter Try.func36, Try.ntmps36
      go_wp2_with fail
      refine Hc.out.mono ?_
      rintro e w0 ⟨rfl, hd⟩
      have c1 := (hd.cell ⟨b, off, none⟩).trans c0
      go_wp2_with (go_at_call 58; refine (bare_any _ _ _ xs _ (hs.heap hd.heap) hN).mono ?_; rintro e w1 ⟨g, c', rfl, hv, hb1⟩; rw [HE.out]; rw [HE.out] at hv)
      refine bodyPost_ret (v := .tuple #[.slice (some ⟨g, 0, none⟩) (toNatV xs).length c', .int .i64 0]) (by simp [results, Try.results36, go_sem]) rfl ⟨_, c', rfl, ?_, ?_⟩
      · exact hv.rebase (by rw [hd.heap]; exact Nat.le_refl _)
      · exact (hd.below (Below.refl _ _)).trans (hb1.mono (by rw [hd.heap]; exact Nat.le_refl _))
  · simp only [Bool.not_eq_true] at h
    rw [h] at Hc
    have e1 : toNatE xs = 20 := by unfold toNatE; rw [if_neg (by simp [h])]
    have e2 : toNatV xs = [] := by unfold toNatV; rw [if_neg (by simp [h])]
    rw [e1, e2]
    clear e1 e2
    go_enter Try.func36, Try.ntmps36
    go_wp2_with fail
    refine Hc.out.mono ?_
    rintro e w0 ⟨rfl, hd⟩
    go_wp2
    refine bodyPost_ret (v := .tuple #[.slice none 0 0, .int .i64 20]) (by simp [results, Try.results36, go_sem]) rfl ⟨none, 0, rfl, OwnB.nil _ _, hd.below (Below.refl _ _)⟩

set_option maxRecDepth 100000 in
set_option maxHeartbeats 1000000 in
theorem refToBits_any (ao : Option Addr) (n cap : Nat) (xs : List Int) (w : World) (hs : Src w ao n cap xs) (hN : n ≤ 140737488355328) :
    Calls Try.prog 38 #[.slice ao n cap] w fun e w' => ∃ ao' c', e = .returned (.tuple #[.slice ao' (toBitsV xs).length c', .int .i64 (toBitsU xs), .int .i64 (toBitsE xs)]) ∧ OwnB w' w.heap.size (.slice ao' (toBitsV xs).length c') (toBitsV xs) ∧ Below w.heap.size w w' := by
  have hl := hs.hlen
  match xs, hs, hl with
  | [], hs, hl =>
    obtain rfl : n = 0 := by simpa using hl.symm
    have e1 : toBitsE [] = 20 := by simp [toBitsE, isBS]
    have e2 : toBitsV [] = [] := by simp [toBitsV, isBS]
    have e3 : toBitsU [] = 0 := by simp [toBitsU, isBS]
    rw [e1, e2, e3]
    clear e1 e2 e3
    go_enter Try.func38, Try.ntmps38
    go_wp2_with fail
    go_quiet (fail)
    go_wp2
    refine bodyPost_ret (v := .tuple #[.slice none 0 0, .int .i64 0, .int .i64 20]) (by simp [results, Try.results38, go_sem]) rfl ⟨none, 0, rfl, OwnB.nil _ _, by first | exact Below.refl _ _ | exact ((Drawn.refl _).more _).below (Below.refl _ _)⟩
  | x :: r, hs, hl =>
    obtain ⟨m, rfl⟩ : ∃ m, n = m + 1 := ⟨n - 1, by simp at hl; omega⟩
    have HL : Hid (r.length = m) := by unfold Hid; simp at hl; omega
    obtain ⟨b, off, rfl, c0⟩ := hs.at 0 (by omega)
    simp only [Nat.add_zero, List.getD, List.getElem?_cons_zero, Option.getD_some] at c0
    obtain ⟨x0, x1⟩ := hs.hbyt x (List.mem_cons_self ..)
    have ht : Hid (Src w (cutA (some ⟨b, off, none⟩) cap 1) m (cap - 1) r) := hs.tail
    have sl := fun W => slice_lo W (some ⟨b, off, none⟩) (m + 1) cap 1 1 rfl (by omega)
    simp only [Nat.add_sub_cancel] at sl
    generalize cutA (some ⟨b, off, none⟩) cap 1 = A at ht sl
    have hbl : b < w.heap.size := lt_of_cell c0
    have hwx : IntKind.i64.wrap x = x := i64_in _ (by omega)
    have g1 : ((m : Int) + 1 == 0) = false := by simp; omega
    have g3 : (0 : Int) < (m : Int) + 1 := by omega
    clear hl
    cases hB : bitsB r x with
    | true =>
      have e1 : toBitsE (x :: r) = 0 := by simp [toBitsE, isBS, hB]
      have e2 : toBitsV (x :: r) = r := by simp [toBitsV, isBS, hB]
      have e3 : toBitsU (x :: r) = x := by simp [toBitsU, isBS, hB]
      rw [e1, e2, e3, HL.out]
      clear e1 e2 e3
      have H : Hid (∀ W, W.heap = w.heap → Calls Try.prog 60 #[.slice A m (cap - 1), .int .i64 x] W fun e w' => e = .returned (.bool true) ∧ w' = W) := by
        intro W hW
        have := there_any A m (cap - 1) r x W (ht.out.heap hW)
        rw [hB] at this
        exact this
      clear hB
      go_enter Try.func38, Try.ntmps38
      go_wp2_with fail
      go_quiet ((go_at_call 60; exact Calls.quiet_of_same (H.out _ rfl)))
      go_wp2_with fail
      have hs0 := hide ht.out
      go_region_held3 (fun W => W.cell? ⟨b, off, none⟩ = some (.int .u8 x)) (go_keep) (first | (refine step_appN _ rfl (.tmp 18) (.tmp 20) rfl w.heap.size (.slice (some ⟨w.heap.size, 0, none⟩) 0 0) [] ?_ ?_ A m (cap - 1) r ?_ ?_ m ?_ ?_ ?_ ?_ ?_; exact rfl; exact OwnB.litAt (w := w.drewN _) w.heap.size _ [] _ 0 rfl rfl rfl (Nat.le_refl _) (by decide); exact rfl; exact (hs0.out.drewN _).alloc _; (simpa using HL.out); (exact .inl (by simp)); omega; (focus (simp; try omega)); intro g1 c1 w1 ho1 hb1 hl1 hc1 hm1 hg1; have k0 : w1.cell? ⟨b, off, none⟩ = some (.int .u8 x) := hg1.cell ((World.cell?_alloc_lt _ _ _ (by simpa using hbl)).trans c0) (by simp [Value.ownBlock]; omega)))
      go_wp2
      refine bodyPost_ret (v := .tuple #[.slice (some ⟨g1, 0, none⟩) m c1, .int .i64 x, .int .i64 0]) (by simp [results, Try.results38, go_sem]) rfl ⟨_, c1, rfl, ?_, ?_⟩
      · exact ho1
      · exact ((((Drawn.refl w).more (nq + 1)).below (Below.refl w.heap.size w)).alloc (Nat.le_refl _) _).grown hg1 (by simp) (by intro k hk; cases hk; exact Nat.le_refl _)
    | false =>
      have e1 : toBitsE (x :: r) = 20 := by simp [toBitsE, isBS, hB]
      have e2 : toBitsV (x :: r) = [] := by simp [toBitsV, isBS, hB]
      have e3 : toBitsU (x :: r) = 0 := by simp [toBitsU, isBS, hB]
      rw [e1, e2, e3]
      clear e1 e2 e3
      have H : Hid (∀ W, W.heap = w.heap → Calls Try.prog 60 #[.slice A m (cap - 1), .int .i64 x] W fun e w' => e = .returned (.bool false) ∧ w' = W) := by
        intro W hW
        have := there_any A m (cap - 1) r x W (ht.out.heap hW)
        rw [hB] at this
        exact this
      clear hB
      go_enter Try.func38, Try.ntmps38
      go_wp2_with fail
      go_quiet ((go_at_call 60; exact Calls.quiet_of_same (H.out _ rfl)))
      go_wp2
      refine bodyPost_ret (v := .tuple #[.slice none 0 0, .int .i64 0, .int .i64 20]) (by simp [results, Try.results38, go_sem]) rfl ⟨none, 0, rfl, OwnB.nil _ _, by first | exact Below.refl _ _ | exact ((Drawn.refl _).more _).below (Below.refl _ _)⟩

theorem str_ne {xs ys : List Int} (hx : ∀ x ∈ xs, 0 ≤ x ∧ x < 256) (hy : ∀ x ∈ ys, 0 ≤ x ∧ x < 256) (h : xs ≠ ys) : ((strOfNums xs).toList == (strOfNums ys).toList) = false := by
  rw [beq_eq_false_iff_ne]
  intro he
  apply h
  rw [Lib.strOfNums_toList, Lib.strOfNums_toList] at he
  have key : ∀ (xs ys : List Int), (∀ x ∈ xs, 0 ≤ x ∧ x < 256) → (∀ x ∈ ys, 0 ≤ x ∧ x < 256) → Lib.bytesOf xs = Lib.bytesOf ys → xs = ys := by
    intro xs
    induction xs with
    | nil => intro ys _ _ h; cases ys with
      | nil => rfl
      | cons y ys => simp [Lib.bytesOf] at h
    | cons x xs ih => intro ys hx hy h; cases ys with
      | nil => simp [Lib.bytesOf] at h
      | cons y ys =>
        simp [Lib.bytesOf] at h
        have h1 := hx x (by simp)
        have h2 := hy y (by simp)
        have e : x = y := by
          have := congrArg UInt8.toNat h.1
          simp at this
          omega
        rw [e, ih ys (fun z hz => hx z (by simp [hz])) (fun z hz => hy z (by simp [hz])) (by simpa [Lib.bytesOf] using h.2)]
  exact key xs ys hx hy he

end Go.Proofs.Ytodhlmnjfkbocaa
