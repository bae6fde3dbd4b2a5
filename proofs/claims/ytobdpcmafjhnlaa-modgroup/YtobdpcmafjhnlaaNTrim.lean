/-
  nat.limb, nat.trim, nat.tooLong, cmp.Compare, nat.order, nat.Compare: what they say of any limbs; they write nothing.
-/
import Derived.Test.YtobdpcmafjhnlaaGRow2
import Derived.Test.YtobdpcmafjhnlaaChecked
import Derived.Deep.QuietTactic
import Derived.BigQuiet
namespace Go.Proofs.Ytobdpcmafjhnlaa
open Go.RowKit Go.IntWalk

theorem Try.infoU : (Try.prog.info? 52).map (fun i => (i.zero, i.size, i.bytes)) = some (some (.int .u64 0), 1, 8) := by kernel_rfl
theorem Try.elemU : Try.prog.elem 23 = 52 := by kernel_rfl
theorem Try.sizeOfU (w : World) : (sizeOf 52).run Try.prog w = .ok 1 w := by kernel_rfl

theorem SrcG.dgAt {κ : IntKind} {B : Int} {w : World} {ao : Option Addr} {n cap : Nat} {xs : List Int} (h : SrcG κ B w ao n cap xs) (hB : 0 < B) (i : Nat) : 0 ≤ xs.getD i 0 ∧ xs.getD i 0 < B := h.hdg.at hB i

set_option maxRecDepth 100000 in
theorem limb_any (ao : Option Addr) (n cap : Nat) (xs : List Int) (i : Nat) (I : Int) (hI : I = (i : Int)) (w : World) (hs : SrcG .u64 18446744073709551616 w ao n cap xs) :
    Calls Try.prog 74 #[.slice ao n cap, .int .i64 I] w fun e w' => e = .returned (.int .u64 (xs.getD i 0)) ∧ w' = w := by
  have hl := hs.hlen
  have hm := hs.lenI
  subst hI
  by_cases hi : i < n
  · obtain ⟨b, o, rfl, e1⟩ := hs.at i hi
    have hiI : (i : Int) < (n : Int) := by omega
    generalize xs.getD i 0 = x at e1
    clear hl
    go_enter Try.func74, Try.ntmps74
    go_wp2
    go_ret
    exact ⟨rfl, rfl⟩
  · have hiI : ¬ (i : Int) < (n : Int) := by omega
    have hz : xs.getD i 0 = 0 := by rw [List.getD, List.getElem?_eq_none (by omega)]; rfl
    rw [hz]
    clear hz hl
    go_enter Try.func74, Try.ntmps74
    go_wp2
    go_ret
    exact ⟨rfl, rfl⟩

theorem SrcG.head {κ : IntKind} {B : Int} {w : World} {ao : Option Addr} {n c : Nat} {xs : List Int} (hs : SrcG κ B w ao n c xs) (h : Nat) (hh : h ≤ n) : SrcG κ B w ao h h (xs.take h) := by
  obtain ⟨h1, h2, h3, h4, h5, h6⟩ := hs
  refine ⟨by simp; omega, Nat.le_refl _, by omega, ?_, ?_, h6.take h⟩
  · intro hc
    have := h4 hc
    omega
  · intro hne
    obtain ⟨b, off, rfl, hc⟩ := h5 (by intro h'; simp [h'] at hne)
    refine ⟨b, off, rfl, fun i hi => ?_⟩
    simp at hi
    rw [hc i (by omega)]
    simp [List.getD, show i < h by omega]

theorem trm_stop {b : Int} (hb : 0 < b) {xs : List Int} (hx : Dg b xs) (k : Nat) (hv : val b (xs.take k) = val b xs) (hk : k ≤ xs.length) (h : k = 0 ∨ xs.getD (k - 1) 0 ≠ 0) : xs.take k = trm xs := by
  refine trm_of hb hx (hx.take k) ?_ hv
  intro hne
  rcases h with rfl | h
  · simp at hne
  · have hk0 : 0 < k := by rcases Nat.eq_zero_or_pos k with h' | h'; (subst h'; simp at hne); exact h'
    rw [List.length_take, Nat.min_eq_left hk, List.getD, List.getElem?_take, if_pos (by omega)]
    exact h

set_option maxRecDepth 100000 in
set_option maxHeartbeats 1000000 in
theorem trim_any (ao : Option Addr) (n cap : Nat) (xs : List Int) (w : World) (hs : SrcG .u64 18446744073709551616 w ao n cap xs) :
    Calls Try.prog 53 #[.slice ao n cap] w fun e w' => e = .returned (.slice ao (trm xs).length (trm xs).length) ∧ SrcG .u64 18446744073709551616 w' ao (trm xs).length (trm xs).length (trm xs) ∧ w' = w := by
  have HL := hide hs.hlen
  have HD := hide hs.hdg
  have hcap := hs.hcap
  have hm := hs.lenI
  obtain ⟨hm1, hm2⟩ := hm
  go_enter Try.func53, Try.ntmps53
  go_wp2
  go_loop [3] (fun v => ∃ k : Nat, k ≤ n ∧ v = .int .i64 k ∧ val 18446744073709551616 (xs.take k) = val 18446744073709551616 xs) (fun v => (intOf v).toNat)
  case atStart => exact ⟨n, Nat.le_refl _, rfl, by rw [List.take_of_length_le (by rw [HL.out]; exact Nat.le_refl _)]⟩
  case round =>
    obtain ⟨k, hk, rfl, hv⟩ := hrel
    have HV := hide hv
    clear hv
    rcases Nat.eq_zero_or_pos k with hk0 | hk0
    · subst hk0
      have he := hide (trm_stop (by decide) HD.out 0 HV.out (by omega) (.inl rfl))
      have hr := sliceG_hm (P := Try.prog) 23 Try.elemU Try.underlying23 Try.sizeOfU w ao n cap 0 0 rfl (by omega)
      go_wp2
      go_ret
      have e2 := he.out
      simp at e2
      rw [e2]
      refine ⟨rfl, ?_, rfl⟩
      have := hs.head 0 (by omega)
      simpa using this
    · obtain ⟨j, rfl⟩ : ∃ j, k = j + 1 := ⟨k - 1, by omega⟩
      obtain ⟨b, o, rfl, e1⟩ := hs.at j (by omega)
      have hvs := hide (val_take_succ 18446744073709551616 xs j)
      obtain ⟨x, hx⟩ : ∃ x, xs.getD j 0 = x := ⟨_, rfl⟩
      have HX := hide hx
      rw [hx] at e1 hvs
      clear hx
      have hj1 : ((j + 1 : Nat) : Int) = (j : Int) + 1 := by omega
      rw [hj1]
      have hj2 : (0 : Int) < (j : Int) + 1 := by omega
      have hjn : (j : Int) < (n : Int) := by omega
      by_cases hx0 : x = 0
      · subst hx0
        go_wp2
        go_round
        case rel => exact ⟨j, by omega, by go_num, by rw [← HV.out, hvs.out]; omega⟩
        case measure => simp [intOf] <;> omega
      · have he := hide (trm_stop (by decide) HD.out (j + 1) HV.out (by rw [HL.out]; omega) (.inr (by simp only [Nat.add_sub_cancel]; rw [HX.out]; exact hx0)))
        have hr := sliceG_hm (P := Try.prog) 23 Try.elemU Try.underlying23 Try.sizeOfU w (some ⟨b, o, none⟩) n cap ((j : Int) + 1) (j + 1) (by omega) (by omega)
        go_wp2
        go_ret
        have hs2 := hs.head (j + 1) (by omega)
        rw [he.out] at hs2
        have hl2 : (trm xs).length = j + 1 := hs2.hlen
        rw [hl2]
        exact ⟨rfl, hs2, rfl⟩

set_option maxRecDepth 100000 in
theorem tooLong_any (ao : Option Addr) (n cap : Nat) (w : World) (hn : (n : Int) ≤ 9223372036854775807) :
    Calls Try.prog 54 #[.slice ao n cap] w fun e w' => e = .returned (.bool (decide (64 < n))) ∧ w' = w := by
  go_enter Try.func54, Try.ntmps54
  go_wp2
  go_ret
  exact ⟨by first | rfl | (congr 2; simp; omega), rfl⟩

theorem cmpInt_any (x y : Int) (w : World) :
    Calls Try.prog 77 #[.int .i64 x, .int .i64 y] w fun e w' => e = .returned (.int .i64 (cmpI x y)) ∧ w' = w := by
  go_enter Try.func77, Try.ntmps77
  go_wp2
  all_goals (go_ret; refine ⟨?_, rfl⟩; unfold cmpI; (repeat' split) <;> first | rfl | (exfalso; omega))

theorem cmpU_any (x y : Int) (w : World) :
    Calls Try.prog 78 #[.int .u64 x, .int .u64 y] w fun e w' => e = .returned (.int .i64 (cmpI x y)) ∧ w' = w := by
  go_enter Try.func78, Try.ntmps78
  go_wp2
  all_goals (go_ret; refine ⟨?_, rfl⟩; unfold cmpI; (repeat' split) <;> first | rfl | (exfalso; omega))

theorem Drew.src {κ : IntKind} {B : Int} {w W : World} (h : Drew w W) {ao : Option Addr} {n cap : Nat} {xs : List Int} (hs : SrcG κ B w ao n cap xs) : SrcG κ B W ao n cap xs := hs.heap h.heap

theorem cmpI_lt {x y : Int} (h : x < y) : cmpI x y = -1 := by unfold cmpI; rw [if_pos h]
theorem cmpI_gt {x y : Int} (h : y < x) : cmpI x y = 1 := by unfold cmpI; rw [if_neg (by omega), if_pos h]
theorem cmpI_eq (x : Int) : cmpI x x = 0 := by unfold cmpI; rw [if_neg (by omega), if_neg (by omega)]

theorem drop_step {xs ys : List Int} (k : Nat) (hx : k < xs.length) (hy : k < ys.length) (hd : xs.drop (k + 1) = ys.drop (k + 1)) (h : xs.getD k 0 = ys.getD k 0) : xs.drop k = ys.drop k := by
  rw [List.drop_eq_getElem_cons hx, List.drop_eq_getElem_cons hy, hd]
  simp [List.getD, hx, hy] at h
  rw [h]

set_option maxRecDepth 100000 in
set_option maxHeartbeats 1000000 in
theorem order_any (a1 : Option Addr) (n1 c1 : Nat) (xs : List Int) (a2 : Option Addr) (n2 c2 : Nat) (ys : List Int) (w : World) (h1 : SrcG .u64 18446744073709551616 w a1 n1 c1 xs) (h2 : SrcG .u64 18446744073709551616 w a2 n2 c2 ys) (t1 : Tr xs) (t2 : Tr ys) :
    Calls Try.prog 69 #[.slice a1 n1 c1, .slice a2 n2 c2] w fun e w' => e = .returned (.int .i64 (cmpI (val 18446744073709551616 xs) (val 18446744073709551616 ys))) ∧ Drew w w' := by
  have l1 := hide h1.hlen
  have l2 := hide h2.hlen
  have d1 := hide h1.hdg
  have d2 := hide h2.hdg
  obtain ⟨m1, _⟩ := h1.lenI
  obtain ⟨m2, _⟩ := h2.lenI
  have T1 := hide t1
  have T2 := hide t2
  clear t1 t2
  by_cases hn : n1 = n2
  · subst hn
    go_enter Try.func69, Try.ntmps69
    go_wp2
    go_loopw [19] (fun i wr => ∃ k : Nat, k ≤ n1 ∧ i = .int .i64 ((n1 : Int) - (k : Int)) ∧ xs.drop k = ys.drop k ∧ Drew w wr) (fun i _ => n1 - (intOf i).toNat)
    case atStart => exact ⟨n1, Nat.le_refl _, by go_num, by rw [List.drop_eq_nil_of_le (by rw [l1.out]; exact Nat.le_refl _), List.drop_eq_nil_of_le (by rw [l2.out]; exact Nat.le_refl _)], Drew.refl _⟩
    case round =>
      obtain ⟨k, hk, rfl, hd, hD⟩ := hrel
      have HD := hide hd
      clear hd
      have s1 := hD.src h1
      have s2 := hD.src h2
      rcases Nat.eq_zero_or_pos k with hk0 | hk0
      · subst hk0
        have HE : Hid (xs = ys) := by unfold Hid; simpa using HD.out
        go_wp2
        go_ret
        rw [HE.out, cmpI_eq]
        exact ⟨rfl, hD⟩
      · obtain ⟨j, rfl⟩ : ∃ j, k = j + 1 := ⟨k - 1, by omega⟩
        obtain ⟨b, o, rfl, e1⟩ := s1.at j (by omega)
        obtain ⟨b', o', rfl, e2⟩ := s2.at j (by omega)
        have hj1 : ((j + 1 : Nat) : Int) = (j : Int) + 1 := by omega
        rw [hj1]
        have g0 : (n1 : Int) - ((j : Int) + 1) < (n1 : Int) := by omega
        have g1 : (n1 : Int) - 1 - ((n1 : Int) - ((j : Int) + 1)) = (j : Int) := by omega
        have g2 : (j : Int) < (n1 : Int) := by omega
        have g3 : IntKind.i64.wrap ((n1 : Int) - 1) = (n1 : Int) - 1 := i64_in _ (by omega)
        have g4 : IntKind.i64.wrap (j : Int) = (j : Int) := i64_in _ (by omega)
        have A1 := hide (cmpI_top (b := 18446744073709551616) (by decide) d1.out d2.out j HD.out (by rw [l1.out]; omega) (by rw [l1.out, l2.out]))
        have A2 := hide (cmpI_top (b := 18446744073709551616) (by decide) d2.out d1.out j HD.out.symm (by rw [l2.out]; omega) (by rw [l1.out, l2.out]))
        have A3 := hide (drop_step j (by rw [l1.out]; omega) (by rw [l2.out]; omega) HD.out)
        obtain ⟨x, hx⟩ : ∃ x, xs.getD j 0 = x := ⟨_, rfl⟩
        obtain ⟨y, hy⟩ : ∃ y, ys.getD j 0 = y := ⟨_, rfl⟩
        rw [hx, hy] at A1 A2 A3
        rw [hx] at e1
        rw [hy] at e2
        clear hx hy
        by_cases hxy : x = y
        · have HN := hide (A3.out hxy)
          subst hxy
          go_wp2_with fail
          go_quiet (fail)
          go_wp2
          go_roundw
          case rel => exact ⟨j, by omega, by go_num, HN.out, by first | exact hD | exact hD.more _⟩
          case measure => simp [intOf] <;> omega
        · have HV : Hid (cmpI (val 18446744073709551616 xs) (val 18446744073709551616 ys) = cmpI x y) := by
            unfold Hid
            rcases (show x < y ∨ y < x by omega) with h | h
            · rw [cmpI_lt h, cmpI_lt (A1.out h)]
            · rw [cmpI_gt h, cmpI_gt (A2.out h)]
          have hxy' : (x == y) = false := by simpa using hxy
          go_wp2_with fail
          go_quiet (fail)
          go_wp2_with fail
          go_quiet ((go_at_call 78; exact (cmpU_any x y _).mono fun _ _ ⟨he, hm⟩ => ⟨he, _, hm⟩))
          go_wp2
          go_ret
          exact ⟨by rw [HV.out]; rfl, by first | exact hD | exact hD.more _ | exact (hD.more _).more _⟩
  · have HV : Hid (cmpI (val 18446744073709551616 xs) (val 18446744073709551616 ys) = cmpI (n1 : Int) (n2 : Int)) := by
      unfold Hid
      rcases (show n1 < n2 ∨ n2 < n1 by omega) with h | h
      · rw [cmpI_lt (show (n1 : Int) < (n2 : Int) by omega), cmpI_lt (tr_len_lt (by decide) d1.out d2.out T2.out (by rw [l1.out, l2.out]; exact h))]
      · rw [cmpI_gt (show (n2 : Int) < (n1 : Int) by omega), cmpI_gt (tr_len_lt (by decide) d2.out d1.out T1.out (by rw [l1.out, l2.out]; exact h))]
    have hn' : ¬ (n1 : Int) = (n2 : Int) := by omega
    go_enter Try.func69, Try.ntmps69
    go_wp2_with (go_at_call 77; refine (cmpInt_any _ _ _).mono ?_; rintro e w1 ⟨rfl, hw⟩; have hw2 := hw.symm; subst hw2)
    go_ret
    exact ⟨by rw [HV.out]; rfl, Drew.refl _⟩

end Go.Proofs.Ytobdpcmafjhnlaa
