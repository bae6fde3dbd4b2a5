/-
  Memory while DerAlls runs its first loop: which blocks it may have written.
  der.Size answers the plain function's number at every int.
  der.putLength lays the bytes of a length behind a row of the call's own.
-/
import Derived.Test.YtgbbgfjamneioaaZEachIt
import Derived.Test.YtgbbgfjamneioaaZMoreIToRRow
import Derived.Test.YtgbbgfjamneioaaZOneToLent
import Derived.Test.YtgbbgfjamneioaaZBts
import Derived.Test.YtgbbgfjamneioaaZCloneToFind
import Derived.WalkSpells
namespace Go.Proofs.Ytgbbgfjamneioaa
open Go.RowKit Go.Shelf Go.IntWalk

/-- World B is A, but for new blocks and those that S names. -/
structure GB (S : Nat → Prop) (A B : World) : Prop where
  os : B.os = A.os
  tape : B.tape = A.tape
  output : B.output = A.output
  size : A.heap.size ≤ B.heap.size
  same : ∀ q, q < A.heap.size → ¬ S q → B.heap[q]? = A.heap[q]?

theorem GB.refl (S : Nat → Prop) (A : World) : GB S A A := ⟨rfl, rfl, rfl, Nat.le_refl _, fun _ _ _ => rfl⟩

theorem GB.step {S S' : Nat → Prop} {A B C : World} {row : Option Nat} (h : GB S A B) (hg : B.grownBy C row) (hS : ∀ q, S q → S' q) (hr : ∀ q, row = some q → S' q) : GB S' A C :=
  ⟨hg.os.trans h.os, hg.tape.trans h.tape, hg.output.trans h.output, Nat.le_trans h.size hg.size, fun q hq hn =>
    (hg.block q (Nat.lt_of_lt_of_le hq h.size) (fun e => hn (hr q e.symm))).trans (h.same q hq (fun hs => hn (hS q hs)))⟩

theorem GB.belowA {S : Nat → Prop} {A B C : World} (h : GB S A B) (hb : Below B.heap.size B C) : GB S A C :=
  h.step (grown_of_below (r := none) hb) (fun _ h => h) (by intro q e; cases e)

theorem GB.toBelow {S : Nat → Prop} {A B : World} {N : Nat} (h : GB S A B) (hN : N ≤ A.heap.size) (hS : ∀ q, S q → N ≤ q) : Below N A B :=
  ⟨h.os, h.tape, h.output, h.size, fun k hk => h.same k (by omega) (fun hs => by have := hS k hs; omega)⟩

theorem GB.rowNe {S : Nat → Prop} {A B : World} {base : Nat} {e : TypeId} {size : Nat} {v : Value} {k : Nat} {xs : List Value} (hg : GB S A B) (h : A.ownsRow base e size v k xs) (hr : ∀ q, v.ownBlock = some q → ¬ S q) : B.ownsRow base e size v k xs := by
  obtain ⟨hl, h | ⟨g, cap, cur, rfl, hb, hh, rest⟩⟩ := h
  · exact ⟨hl, .inl h⟩
  · exact ⟨hl, .inr ⟨g, cap, cur, rfl, hb, (hg.same g (Array.getElem?_eq_some_iff.1 hh).1 (hr g rfl)).trans hh, rest⟩⟩

/-- The contents of a row of elements, up to the k-th. -/
def SB (cs : List Value) (k : Nat) (q : Nat) : Prop := ∃ j s, j < k ∧ cs[2 * j + 1]? = some s ∧ s.ownBlock = some q

theorem EMatch.get7 {W : World} {base : Nat} : ∀ {cs : List Value} {es : List (Int × List Int)}, EMatch W base cs es → ∀ i, i < es.length →
    ∃ ao m c, cs[2 * i]? = some (.int .i64 (es.getD i (0, [])).1) ∧ cs[2 * i + 1]? = some (.slice ao m c) ∧ OwnB W base (.slice ao m c) (es.getD i (0, [])).2
  | [], [], _, i, h => by simp at h
  | a :: s :: cs, e :: es, ⟨h1, ⟨ao, m, c, h2⟩, h3, h4⟩, i, h => by
    cases i with
    | zero => exact ⟨ao, m, c, by simp [h1], by simp [h2], by simpa [h2] using h3⟩
    | succ i =>
      obtain ⟨ao', m', c', k1, k2, k3⟩ := EMatch.get7 h4 i (by simpa using h)
      exact ⟨ao', m', c', by rw [show 2 * (i + 1) = 2 * i + 1 + 1 by omega]; simpa using k1, by rw [show 2 * (i + 1) + 1 = 2 * i + 1 + 1 + 1 by omega]; simpa using k2, by simpa using k3⟩

theorem SB.at {W : World} {base : Nat} {cs : List Value} {es : List (Int × List Int)} (hm : EMatch W base cs es) {k q : Nat} (h : SB cs k q) : base ≤ q ∧ q < W.heap.size ∧ ∃ cu, W.heap[q]? = some (.cells cu 5 (0, 0)) := by
  obtain ⟨j, s, hj, h1, h2⟩ := h
  have hl := hm.len
  have hjl : j < es.length := by
    rcases Nat.lt_or_ge j es.length with h' | h'
    · exact h'
    · rw [List.getElem?_eq_none (by omega)] at h1; cases h1
  obtain ⟨ao, m, c, _, k2, k3⟩ := hm.get7 j hjl
  rw [h1] at k2
  cases k2
  have h4 := k3.lt q h2
  exact ⟨h4.1, h4.2, row_type k3 q h2⟩

theorem SB.mono {cs : List Value} {k : Nat} {q : Nat} (h : SB cs k q) : SB cs (k + 1) q := by
  obtain ⟨j, s, hj, h⟩ := h
  exact ⟨j, s, by omega, h⟩

theorem GB.box {S : Nat → Prop} {A B : World} (hg : GB S A B) (hS : ∀ q, S q → ∃ cu, A.heap[q]? = some (.cells cu 5 (0, 0))) {b : Nat} {t : TypeId} {v : Value} (h : Boxed A b t v) (ht : t ≠ 5) : Boxed B b t v := by
  refine (hg.same b h.lt (fun hs => ?_)).trans h
  obtain ⟨cu, h2⟩ := hS b hs
  rw [show A.heap[b]? = _ from h] at h2
  cases h2
  exact ht rfl

theorem GB.rowT {S : Nat → Prop} {A B : World} (hg : GB S A B) (hS : ∀ q, S q → ∃ cu, A.heap[q]? = some (.cells cu 5 (0, 0))) {base : Nat} {e : TypeId} {size : Nat} {v : Value} {k : Nat} {xs : List Value} (h : A.ownsRow base e size v k xs) (he : e ≠ 5) : B.ownsRow base e size v k xs :=
  hg.rowNe h (fun q hq hs => by
    obtain ⟨c, h1⟩ := row_type h q hq
    obtain ⟨cu, h2⟩ := hS q hs
    rw [h1] at h2
    cases h2
    exact he rfl)

theorem GB.rowSt {S : Nat → Prop} {A B : World} (hg : GB S A B) (hS : ∀ q, S q → ∃ cu, A.heap[q]? = some (.cells cu 5 (0, 0))) {base : Nat} {L P : Value} {xs : List Int} {ps : List Nat} {cs : List Value} (h : RowSt A base L P xs ps cs) (hb : ∀ q, S q → q < base) : RowSt B base L P xs ps cs :=
  ⟨hg.rowT hS h.hl (by decide), h.hm.kept (fun s ys hs => hg.rowNe hs (fun q hq hs' => by have := (OwnB.lt hs q hq).1; have := hb q hs'; omega)), hg.rowT hS h.hp (by decide)⟩

end Go.Proofs.Ytgbbgfjamneioaa

namespace Go.Proofs.Ytgbbgfjamneioaa
open Go.RowKit

set_option maxRecDepth 100000 in
set_option maxHeartbeats 1000000 in
theorem size_any (n : Int) (w : World) :
    Calls Try.prog 58 #[.int .i64 n] w fun e w' => e = .returned (.int .i64 (sizeN n)) ∧ w' = w := by
  by_cases h0 : n < 0
  · have e1 : sizeN n = 0 := by unfold sizeN; rw [if_pos (.inl h0)]
    have E := hide e1
    clear e1
    go_enter Try.func58, Try.ntmps58
    go_wp2
    go_ret
    rw [unhide E]
    exact ⟨rfl, rfl⟩
  · by_cases h1 : 16777215 < n
    · have e1 : sizeN n = 0 := by unfold sizeN; rw [if_pos (.inr h1)]
      have E := hide e1
      clear e1
      go_enter Try.func58, Try.ntmps58
      go_wp2
      go_ret
      rw [unhide E]
      exact ⟨rfl, rfl⟩
    · by_cases h2 : n ≤ 127
      · have e1 : sizeN n = 2 := by unfold sizeN; rw [if_neg (by omega), if_pos h2]
        have E := hide e1
        clear e1
        go_enter Try.func58, Try.ntmps58
        go_wp2
        go_ret
        rw [unhide E]
        exact ⟨rfl, rfl⟩
      · by_cases h3 : n < 256
        · have e1 : sizeN n = 3 := by unfold sizeN; rw [if_neg (by omega), if_neg h2, if_pos h3]
          have E := hide e1
          clear e1
          go_enter Try.func58, Try.ntmps58
          go_wp2
          go_ret
          rw [unhide E]
          exact ⟨rfl, rfl⟩
        · by_cases h4 : n < 65536
          · have e1 : sizeN n = 4 := by unfold sizeN; rw [if_neg (by omega), if_neg h2, if_neg h3, if_pos h4]
            have E := hide e1
            clear e1
            go_enter Try.func58, Try.ntmps58
            go_wp2
            go_ret
            rw [unhide E]
            exact ⟨rfl, rfl⟩
          · have e1 : sizeN n = 5 := by unfold sizeN; rw [if_neg (by omega), if_neg h2, if_neg h3, if_neg h4]
            have E := hide e1
            clear e1
            go_enter Try.func58, Try.ntmps58
            go_wp2
            go_ret
            rw [unhide E]
            exact ⟨rfl, rfl⟩

end Go.Proofs.Ytgbbgfjamneioaa

namespace Go.Proofs.Ytgbbgfjamneioaa
open Go.RowKit Go.IntWalk

theorem digs_three (n : Nat) (h : 65536 ≤ n) : digs n = [((n / 65536 : Nat) : Int), ((n / 256 % 256 : Nat) : Int), ((n % 256 : Nat) : Int)] := by
  unfold digs; rw [if_neg (by omega), if_neg (by omega), if_neg (by omega)]
theorem digs_two (n : Nat) (h : 256 ≤ n) (h' : n < 65536) : digs n = [((n / 256 : Nat) : Int), ((n % 256 : Nat) : Int)] := by
  unfold digs; rw [if_neg (by omega), if_neg (by omega), if_pos h']
theorem digs_one (n : Nat) (h : 0 < n) (h' : n < 256) : digs n = [(n : Int)] := by
  unfold digs; rw [if_neg (by omega), if_pos h']

theorem digs_size (n : Nat) (h : 127 < n) (h' : n < 16777216) : sizeN n = 2 + ((digs n).length : Int) := by
  have := sizeN_eq n h'
  unfold lenB at this
  rw [if_neg (by omega)] at this
  simp at this
  omega

theorem dig_at (n : Nat) (h : 127 < n) (h' : n < 16777216) (i j : Nat) (hij : i + j = (digs n).length) (hj : 1 ≤ j) :
    (digs n).take (i + 1) = (digs n).take i ++ [((n / 256 ^ (j - 1) % 256 : Nat) : Int)] := by
  by_cases h1 : n < 256
  · rw [digs_one n (by omega) h1] at *
    simp at hij
    obtain ⟨rfl, rfl⟩ : i = 0 ∧ j = 1 := by omega
    simp; omega
  · by_cases h2 : n < 65536
    · rw [digs_two n (by omega) h2] at *
      simp at hij
      rcases (show (i = 0 ∧ j = 2) ∨ (i = 1 ∧ j = 1) by omega) with ⟨rfl, rfl⟩ | ⟨rfl, rfl⟩
      · simp; omega
      · simp
    · rw [digs_three n (by omega)] at *
      simp at hij
      rcases (show (i = 0 ∧ j = 3) ∨ (i = 1 ∧ j = 2) ∨ (i = 2 ∧ j = 1) by omega) with ⟨rfl, rfl⟩ | ⟨rfl, rfl⟩ | ⟨rfl, rfl⟩
      · simp; omega
      · simp
      · simp

set_option maxRecDepth 100000 in
set_option maxHeartbeats 2000000 in
theorem putLen_any (base g m c : Nat) (ys : List Int) (n : Nat) (w : World) (ho : OwnB w base (.slice (some ⟨g, 0, none⟩) m c) ys) (hn : (n : Int) ≤ 16777215) (hm : m ≤ 140737488355320) (hb : base ≤ w.heap.size) (hgb : base ≤ g) :
    Calls Try.prog 59 #[.slice (some ⟨g, 0, none⟩) m c, .int .i64 n] w fun e w' => ∃ g' c', e = .returned (.slice (some ⟨g', 0, none⟩) (m + (lenB n).length) c') ∧
      OwnB w' base (.slice (some ⟨g', 0, none⟩) (m + (lenB n).length) c') (ys ++ lenB n) ∧ base ≤ g' ∧ Below base w w' := by
  have hl := hide ho.eqlen
  by_cases h1 : (n : Int) ≤ 127
  · have eL := hide (show lenB n = [(n : Int)] by unfold lenB; rw [if_pos (by omega)])
    go_enter Try.func59, Try.ntmps59
    go_wp2_with (at_builtin; refine wpList_appN _ rfl (.tmp 8) (.tmp 11) rfl base (.slice (some ⟨g, 0, none⟩) m c) ys rfl (ho.alloc _) (some ⟨w.heap.size, 0, none⟩) 1 1 [(n : Int)] rfl (Src.lit [(n : Int)] _ 1 rfl rfl (by simp; omega) (by decide)) (m + 1) (by simp [hl.out]) (.inl (by simp)) (by omega) (by simp; omega) ?_; intro g1 c1 w1 ho1 hb1 hl1 hc1 hm1 hg1)
    go_ret
    rw [eL.out]
    exact ⟨g1, c1, rfl, ho1, hb1, ((Below.refl _ _).alloc hb _).grown hg1 (by simp; omega) (by intro k hk; cases hk; exact hgb)⟩
  · have hk3 := digs_len n
    have hS := digs_size n (by omega) (by omega)
    have eL := hide (show lenB n = (128 + ((digs n).length : Int)) :: digs n by unfold lenB; rw [if_neg (by omega)])
    have hdig0 := hide (dig_at n (by omega) (by omega))
    obtain ⟨k, hk⟩ : ∃ k, (digs n).length = k := ⟨_, rfl⟩
    rw [hk] at hS hk3 eL hdig0
    have HK := hide hk
    clear hk
    go_enter Try.func59, Try.ntmps59
    go_wp2_with (first | (go_at_call 58; refine (size_any n _).mono ?_; rintro e w0 ⟨rfl, hw0⟩; have hw1 := hw0.symm; subst hw1; rw [hS]) | (at_builtin; refine wpList_appN _ rfl (.tmp 16) (.tmp 20) rfl base (.slice (some ⟨g, 0, none⟩) m c) ys rfl (ho.alloc _) (some ⟨w.heap.size, 0, none⟩) 1 1 [128 + (2 + (k : Int) - 2)] rfl (Src.lit [128 + (2 + (k : Int) - 2)] _ 1 rfl rfl (by simp; omega) (by decide)) (m + 1) (by simp [hl.out]) (.inl (by simp)) (by omega) (by simp; omega) ?_; intro ga ca wa hoa hba hla hca hma hga))
    rw [show (128 : Int) + (2 + (k : Int) - 2) = 128 + (k : Int) by omega] at hoa
    have hbela : Below base w wa := ((Below.refl _ _).alloc hb _).grown hga (by simp; omega) (by intro k hk; cases hk; exact hgb)
    go_loopw [0, 5] (fun v s wr => ∃ i j : Nat, i + j = k ∧ s = .int .i64 ((j : Int) - 1) ∧ ∃ g' c', v = .slice (some ⟨g', 0, none⟩) (m + 1 + i) c' ∧ OwnB wr base (.slice (some ⟨g', 0, none⟩) (m + 1 + i) c') (ys ++ [128 + (k : Int)] ++ (digs n).take i) ∧ base ≤ g' ∧ Below base w wr)
      (fun _ s _ => (intOf s + 1).toNat)
    case atStart => exact ⟨0, k, by omega, by go_num, ga, ca, rfl, by simpa using hoa, hba, hbela⟩
    case round =>
      obtain ⟨i, j, hij, rfl, g', c', rfl, hoy, hgb', hbel⟩ := hrel
      have hbw : base ≤ wr.heap.size := Nat.le_trans hb hbel.size
      have hdig := fun h => hide (hdig0.out i j hij h)
      clear hoa hga
      rcases (show j = 0 ∨ j = 1 ∨ j = 2 ∨ j = 3 by omega) with rfl | rfl | rfl | rfl
      · go_wp2
        go_ret
        have eT : (digs n).take i = digs n := List.take_of_length_le (by rw [HK.out]; omega)
        rw [eT] at hoy
        have eN : m + (lenB n).length = m + 1 + i := by rw [eL.out]; simp [HK.out]; omega
        rw [eN, eL.out]
        exact ⟨g', c', rfl, by simpa using hoy, hgb', hbel⟩
      · have hdig : Hid ((digs n).take (i + 1) = (digs n).take i ++ [(n : Int) % 256]) := by
          have h := (hdig (by omega)).out
          unfold Hid
          rw [h, show ((n / 256 ^ (1 - 1) % 256 : Nat) : Int) = (n : Int) % 256 by simp only [Nat.reducePow, Nat.reduceSub]; omega]
        have Hij := hide hij
        have hik : i ≤ 3 := by omega
        clear hij
        go_wp2_with (at_builtin; refine wpList_appN _ rfl (.tmp 28) (.tmp 34) rfl base (.slice (some ⟨g', 0, none⟩) (m + 1 + i) c') (ys ++ [128 + (k : Int)] ++ (digs n).take i) rfl (hoy.alloc _) (some ⟨wr.heap.size, 0, none⟩) 1 1 [(n : Int) % 256] rfl (Src.lit [(n : Int) % 256] _ 1 rfl rfl (by simp; omega) (by decide)) (m + 1 + (i + 1)) (by have := hoy.eqlen; simp only [List.length_append] at this ⊢; simp at this ⊢; omega) (.inl (by simp)) (by omega) (by simp; omega) ?_; intro g1 c1 w1 ho1 hb1 hl1 hc1 hm1 hg1)
        go_roundw
        case rel => exact ⟨i + 1, 0, by have := Hij.out; omega, by go_num, g1, c1, rfl, by rw [List.append_assoc, ← hdig.out] at ho1; exact ho1, hb1, (hbel.alloc hbw _).grown hg1 (by simp; omega) (by intro k hk; cases hk; exact hgb')⟩
        case measure => simp [intOf]
      · have hdig : Hid ((digs n).take (i + 1) = (digs n).take i ++ [(n : Int) / 256 % 256]) := by
          have h := (hdig (by omega)).out
          unfold Hid
          rw [h, show ((n / 256 ^ (2 - 1) % 256 : Nat) : Int) = (n : Int) / 256 % 256 by simp only [Nat.reducePow, Nat.reduceSub]; omega]
        have Hij := hide hij
        have hik : i ≤ 3 := by omega
        clear hij
        go_wp2_with (at_builtin; refine wpList_appN _ rfl (.tmp 28) (.tmp 34) rfl base (.slice (some ⟨g', 0, none⟩) (m + 1 + i) c') (ys ++ [128 + (k : Int)] ++ (digs n).take i) rfl (hoy.alloc _) (some ⟨wr.heap.size, 0, none⟩) 1 1 [(n : Int) / 256 % 256] rfl (Src.lit [(n : Int) / 256 % 256] _ 1 rfl rfl (by simp; omega) (by decide)) (m + 1 + (i + 1)) (by have := hoy.eqlen; simp only [List.length_append] at this ⊢; simp at this ⊢; omega) (.inl (by simp)) (by omega) (by simp; omega) ?_; intro g1 c1 w1 ho1 hb1 hl1 hc1 hm1 hg1)
        go_roundw
        case rel => exact ⟨i + 1, 1, by have := Hij.out; omega, by go_num, g1, c1, rfl, by rw [List.append_assoc, ← hdig.out] at ho1; exact ho1, hb1, (hbel.alloc hbw _).grown hg1 (by simp; omega) (by intro k hk; cases hk; exact hgb')⟩
        case measure => simp [intOf]
      · have hdig : Hid ((digs n).take (i + 1) = (digs n).take i ++ [(n : Int) / 65536]) := by
          have h := (hdig (by omega)).out
          unfold Hid
          rw [h, show ((n / 256 ^ (3 - 1) % 256 : Nat) : Int) = (n : Int) / 65536 by simp only [Nat.reducePow, Nat.reduceSub]; omega]
        have Hij := hide hij
        have hik : i ≤ 3 := by omega
        clear hij
        go_wp2_with (at_builtin; refine wpList_appN _ rfl (.tmp 28) (.tmp 34) rfl base (.slice (some ⟨g', 0, none⟩) (m + 1 + i) c') (ys ++ [128 + (k : Int)] ++ (digs n).take i) rfl (hoy.alloc _) (some ⟨wr.heap.size, 0, none⟩) 1 1 [(n : Int) / 65536] rfl (Src.lit [(n : Int) / 65536] _ 1 rfl rfl (by simp; omega) (by decide)) (m + 1 + (i + 1)) (by have := hoy.eqlen; simp only [List.length_append] at this ⊢; simp at this ⊢; omega) (.inl (by simp)) (by omega) (by simp; omega) ?_; intro g1 c1 w1 ho1 hb1 hl1 hc1 hm1 hg1)
        go_roundw
        case rel => exact ⟨i + 1, 2, by have := Hij.out; omega, by go_num, g1, c1, rfl, by rw [List.append_assoc, ← hdig.out] at ho1; exact ho1, hb1, (hbel.alloc hbw _).grown hg1 (by simp; omega) (by intro k hk; cases hk; exact hgb')⟩
        case measure => simp [intOf]

end Go.Proofs.Ytgbbgfjamneioaa
