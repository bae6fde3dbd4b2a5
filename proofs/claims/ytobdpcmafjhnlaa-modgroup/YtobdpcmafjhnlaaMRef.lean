/-
  The document's Reduce, Add, Sub, Mul and May; the statements' lent, kept, is.
-/
import Derived.Test.YtobdpcmafjhnlaaNRefDiv
import Derived.Test.YtobdpcmafjhnlaaNRefB
import Derived.Test.YtobdpcmafjhnlaaMLaw
import Derived.Test.YtobdpcmafjhnlaaMNone
namespace Go.Proofs.Ytobdpcmafjhnlaa
open Go.RowKit Go.IntWalk

set_option maxRecDepth 100000 in
theorem refReduce (v1 v2 : Value) (M x : Int) (L : Nat) (w : World) (k1 : NumD w v1 M 32) (k2 : NumD w v2 x L) (hL : L ≤ 5000) (hM : 0 < M) :
    Calls Try.prog 14 #[v1, v2] w fun e w' => ∃ v, e = .returned v ∧ NumD w' v (x % M) 32 ∧ Below w.heap.size w w' := by
  have HC := hide (refDiv_any v2 v1 x M L 32 w k2 k1 hL (by omega) hM)
  go_enter Try.func14, Try.ntmps14
  go_wp2_with fail
  refine HC.out.mono ?_
  rintro e w1 ⟨u1, u2, q, r, rfl, N1, N2, hx, h0, h1, hB⟩
  have hr : x % M = r := ((Int.ediv_emod_unique hM).2 ⟨show r + M * q = x by omega, h0, h1⟩).2
  have HR := hide hr
  clear hx hr
  go_wp2
  go_ret
  exact ⟨u2, rfl, by rw [HR.out]; exact N2, hB⟩

set_option maxRecDepth 100000 in
theorem refAdd7 (v0 v1 v2 : Value) (M x y : Int) (L1 L2 : Nat) (w : World) (k0 : NumD w v0 M 32) (k1 : NumD w v1 x L1) (k2 : NumD w v2 y L2) (l1 : L1 ≤ 300) (l2 : L2 ≤ 300) (hM : 0 < M) :
    Calls Try.prog 16 #[v0, v1, v2] w fun e w' => ∃ v, e = .returned v ∧ NumD w' v ((x + y) % M) 32 ∧ Below w.heap.size w w' := by
  have p1 := k1.nonneg
  have p2 := k2.nonneg
  have HC := hide (refAdd_any v1 v2 x y L1 L2 w k1 k2 (by omega) (by omega))
  have hb : x + y < pw 65536 301 := by
    have q1 := pw_mono (b := 65536) (by decide) L1 300 (by omega)
    have q2 := pw_mono (b := 65536) (by decide) L2 300 (by omega)
    have q3 : pw 65536 301 = 65536 * pw 65536 300 := rfl
    have q4 := pw_pos (b := 65536) (by decide) 300
    rw [q3]
    omega
  have HB := hide hb
  clear hb p1 p2
  go_enter Try.func16, Try.ntmps16
  go_wp2_with fail
  refine HC.out.mono ?_
  rintro e w1 ⟨u1, rfl, N1, hB⟩
  go_wp2_with fail
  refine (refReduce _ _ M (x + y) 301 w1 (k0.below hB) (N1.rebound 301 HB.out) (by omega) hM).mono ?_
  rintro e w2 ⟨u2, rfl, N2, hB2⟩
  go_wp2
  go_ret
  exact ⟨u2, rfl, N2, hB.trans (hB2.mono hB.size)⟩

set_option maxRecDepth 100000 in
theorem refMul7 (v0 v1 v2 : Value) (M x y : Int) (L1 L2 : Nat) (w : World) (k0 : NumD w v0 M 32) (k1 : NumD w v1 x L1) (k2 : NumD w v2 y L2) (l1 : L1 ≤ 300) (l2 : L2 ≤ 300) (hM : 0 < M) :
    Calls Try.prog 20 #[v0, v1, v2] w fun e w' => ∃ v, e = .returned v ∧ NumD w' v ((x * y) % M) 32 ∧ Below w.heap.size w w' := by
  have HC := hide (refMulN_any v1 v2 x y L1 L2 w k1 k2 (by omega) (by omega))
  go_enter Try.func20, Try.ntmps20
  go_wp2_with fail
  refine HC.out.mono ?_
  rintro e w1 ⟨u1, rfl, N1, hB⟩
  go_wp2_with fail
  refine (refReduce _ _ M (x * y) (L1 + L2 + 1) w1 (k0.below hB) N1 (by omega) hM).mono ?_
  rintro e w2 ⟨u2, rfl, N2, hB2⟩
  go_wp2
  go_ret
  exact ⟨u2, rfl, N2, hB.trans (hB2.mono hB.size)⟩

theorem sub_form (x y M : Int) : (x % M + M - y % M) % M = (x - y) % M := by
  rw [ms2, show x % M + M - y = x % M - y + M by omega, Int.add_emod_right, ms1]

set_option maxRecDepth 100000 in
theorem refSub7 (v0 v1 v2 : Value) (M x y : Int) (L1 L2 : Nat) (w : World) (k0 : NumD w v0 M 32) (k1 : NumD w v1 x L1) (k2 : NumD w v2 y L2) (l1 : L1 ≤ 300) (l2 : L2 ≤ 300) (hM : 0 < M) :
    Calls Try.prog 18 #[v0, v1, v2] w fun e w' => ∃ v, e = .returned v ∧ NumD w' v ((x - y) % M) 32 ∧ Below w.heap.size w w' := by
  have HF := hide (sub_form x y M)
  have q1 := Int.emod_nonneg x (show M ≠ 0 by omega)
  have q2 := Int.emod_lt_of_pos x hM
  have q3 := Int.emod_lt_of_pos y hM
  have q4 := Int.emod_nonneg y (show M ≠ 0 by omega)
  have q5 := k0.nonneg.2
  have q6 : pw 65536 33 = 65536 * pw 65536 32 := rfl
  have HB : Hid (x % M + M < pw 65536 33) := by unfold Hid; rw [q6]; omega
  have HL : Hid (y % M ≤ x % M + M) := by unfold Hid; omega
  rw [← HF.out]
  clear q1 q2 q3 q4 q5 q6 HF
  go_enter Try.func18, Try.ntmps18
  go_wp2_with fail
  refine (refReduce v0 v1 M x L1 w k0 k1 (by omega) hM).mono ?_
  rintro e w1 ⟨u1, rfl, N1, B1⟩
  have k0 := k0.below B1
  have k2 := k2.below B1
  go_wp2_with fail
  refine (refAdd_any u1 v0 _ M 32 32 w1 N1 k0 (by omega) (by omega)).mono ?_
  rintro e w2 ⟨u2, rfl, N2, B2⟩
  have k0 := k0.below B2
  have k2 := k2.below B2
  have N2 := N2.rebound 33 HB.out
  have LB := B1.trans (B2.mono B1.size)
  go_wp2_with fail
  refine (refReduce v0 v2 M y L2 w2 k0 k2 (by omega) hM).mono ?_
  rintro e w3 ⟨u3, rfl, N3, B3⟩
  have k0 := k0.below B3
  have N2 := N2.below B3
  have LB := LB.trans (B3.mono LB.size)
  go_wp2_with fail
  refine (refSub_any u2 u3 _ _ 33 32 w3 N2 N3 (by omega) HL.out).mono ?_
  rintro e w4 ⟨u4, rfl, N4, B4⟩
  have k0 := k0.below B4
  have LB := LB.trans (B4.mono LB.size)
  go_wp2_with fail
  refine (refReduce v0 u4 M _ 33 w4 k0 N4 (by omega) hM).mono ?_
  rintro e w5 ⟨u5, rfl, N5, B5⟩
  have LB := LB.trans (B5.mono LB.size)
  go_wp2
  go_ret
  exact ⟨u5, rfl, N5, LB⟩

/-- Of, refused or not. -/
theorem of_arg (v : Value) (x E : Int) (w : World) (h : Arg w v x E) :
    Calls Try.prog 10 #[v] w fun e w' => ∃ u, e = .returned (.tuple #[u, .int .i64 E]) ∧ NumD w' u x 256 ∧ Below w.heap.size w w' := by
  rcases h with ⟨rfl, ao, n, c, xs, rfl, hs, hl, hv⟩ | ⟨rfl, rfl, ao, n, c, xs, rfl, hs, hl⟩
  · subst hv
    exact of_ok ao n c xs w hs hl
  · refine (of_long ao n c xs w hs hl).mono ?_
    rintro e w1 ⟨rfl, hw⟩
    subst hw
    exact ⟨_, rfl, NumD.nil _ _, Below.refl _ _⟩

set_option maxRecDepth 100000 in
theorem is_bad (bad : Int) (v : Value) (w : World) (hb : bad ≠ 0) :
    Calls Try.prog 13 #[.slice none 0 0, .int .i64 bad, v, .int .i64 bad] w fun e w' => e = .returned (.bool true) ∧ w' = w := by
  have hb1 : (bad == 0) = false := by simpa using hb
  go_enter Try.func13, Try.ntmps13
  go_wp2
  go_ret
  exact ⟨rfl, rfl⟩

set_option maxRecDepth 100000 in
set_option maxHeartbeats 1000000 in
theorem is_ok (v1 v2 : Value) (x : Int) (L1 L2 : Nat) (w : World) (k1 : NumT w v1 x L1) (k2 : NumD w v2 x L2) (l2 : L2 ≤ 100000) :
    Calls Try.prog 13 #[v1, .int .i64 0, v2, .int .i64 0] w fun e w' => e = .returned (.bool true) ∧ Below w.heap.size w w' := by
  obtain ⟨a1, n, c1, xs, rfl, s1, t1, _, hx⟩ := k1
  obtain ⟨a2, n2, c2, ys, rfl, s2, t2, m2, hy⟩ := k2
  have HC := hide (limbs_any a2 n2 c2 ys w s2 t2 (by omega))
  have T1 := hide t1
  have VV : Hid (val 18446744073709551616 xs = val 65536 ys) := by unfold Hid; rw [hx, hy]
  have D1 := hide s1.hdg
  have LN := hide s1.hlen
  obtain ⟨q1, _⟩ := s1.lenI
  clear t1 t2 hx hy
  go_enter Try.func13, Try.ntmps13
  go_wp2_with fail
  refine HC.out.mono ?_
  rintro e w1 ⟨a3, c3, zs, rfl, s3, t3, v3, _, hB⟩
  have hz : zs = xs := tr_inj (b := 18446744073709551616) (by decide) s3.hdg D1.out t3 T1.out (by rw [v3, VV.out])
  subst hz
  have h1 := s1.below hB
  rw [LN.out] at s3 ⊢
  have h2 := s3
  clear s1 s2 s3 t3 v3
  go_wp2
  go_loopw [10] (fun i wr => ∃ k : Nat, k ≤ n ∧ i = .int .i64 k ∧ Drew w1 wr) (fun i _ => n - (intOf i).toNat)
  case atStart => exact ⟨0, Nat.zero_le _, rfl, Drew.refl _⟩
  case round =>
    obtain ⟨k, hk, rfl, hD⟩ := hrel
    by_cases hkn : k < n
    · have hkI : (k : Int) < (n : Int) := by omega
      obtain ⟨b, o, hb1, e1⟩ := (hD.src h1).at k hkn
      obtain ⟨b', o', hb2, e2⟩ := (hD.src h2).at k hkn
      generalize zs.getD k 0 = x at e1 e2
      subst hb1 hb2
      go_wp2_with fail
      go_quiet (fail)
      go_wp2
      go_roundw
      case rel => exact ⟨k + 1, by omega, by go_num, by first | exact hD | exact hD.more _⟩
      case measure => simp [intOf] <;> omega
    · have hkI : ¬ (k : Int) < (n : Int) := by omega
      go_wp2
      go_ret
      exact ⟨rfl, hD.below hB⟩

/-- An answer is what the document says, refused or not. -/
theorem is_ans (v1 v2 : Value) (x E : Int) (L2 : Nat) (w : World) (k1 : Ans w v1 x E) (k2 : NumD w v2 x L2) (l2 : L2 ≤ 100000) :
    Calls Try.prog 13 #[v1, .int .i64 E, v2, .int .i64 E] w fun e w' => e = .returned (.bool true) ∧ Below w.heap.size w w' := by
  rcases k1 with ⟨rfl, N⟩ | ⟨hE, rfl⟩
  · exact is_ok v1 v2 x 8 L2 w N k2 l2
  · refine (is_bad E v2 w hE).mono ?_
    rintro e w1 ⟨rfl, hw⟩
    subst hw
    exact ⟨rfl, Below.refl _ _⟩

set_option maxRecDepth 100000 in
set_option maxHeartbeats 1000000 in
theorem lent7 (ao : Option Addr) (n cap : Nat) (xs : List Int) (w : World) (hs : SrcG .u64 18446744073709551616 w ao n cap xs) (hn : n ≤ 17592186043904) :
    Calls Try.prog 11 #[.slice ao n cap] w fun e w' => ∃ g c, e = .returned (.slice (some ⟨g, 0, none⟩) n c) ∧ Lent w' w.heap.size g n c xs ∧ Below w.heap.size w w' := by
  have HL := hide hs.hlen
  have HD := hide hs.hdg
  go_enter Try.func11, Try.ntmps11
  go_wp2_with (first | (at_builtin; refine appG 23 8 Try.underlying23 Try.infoU _ rfl (.tmp 3) (.tmp 4) rfl w.heap.size (.slice (some ⟨w.heap.size, 0, none⟩) 0 0) [] rfl (OwnG.lit _ [] _ 0 rfl rfl (Nat.le_refl _) (by decide)) ao n cap xs rfl (hs.alloc _) n (by simpa using HL.out) (.inl (by simp)) (by omega) (by omega) (by simp) ?_; intro g1 c1 w1 ho1 hb1 hl1 hc1 hm1 hg1 hk1) | (at_builtin; refine appG 23 8 Try.underlying23 Try.infoU _ rfl (.tmp 5) (.tmp 6) rfl w.heap.size (.slice (some ⟨g1, 0, none⟩) n c1) xs rfl (ho1.alloc _) (some ⟨w1.heap.size, 0, none⟩) 1 1 [77] rfl (SrcG.litAt (B := 18446744073709551616) [77] _ 1 _ rfl rfl (by intro x hx; simp at hx; omega) (by decide) rfl) (n + 1) (by simpa using HL.out) (.inl (by simp)) (by omega) (by omega) (by simp; omega) ?_; intro g c w2 ho2 hb2 hl2 hc2 hm2 hg2 hk2; have hnc : n ≤ c := by omega))
  go_ret
  refine ⟨g, c, rfl, ⟨ho2, hc2, hm2, HD.out, HL.out⟩, ?_⟩
  have z : w.heap.size ≤ w1.heap.size := by omega
  exact ((((Below.refl _ _).alloc (Nat.le_refl _) _).grown hg1 (by simp) (by intro k hk; cases hk; exact Nat.le_refl _)).alloc z _).grown hg2 (by simp; omega) (by intro k hk; cases hk; exact hb1)

set_option maxRecDepth 100000 in
set_option maxHeartbeats 1000000 in
theorem kept7 (base g n c : Nat) (ao : Option Addr) (cap : Nat) (xs : List Int) (w : World) (hl : Lent w base g n c xs) (h2 : SrcG .u64 18446744073709551616 w ao n cap xs) (hn : n ≤ 17592186043904) :
    Calls Try.prog 21 #[.slice (some ⟨g, 0, none⟩) n c, .slice ao n cap] w fun e w' => e = .returned (.bool true) ∧ Drew w w' := by
  have h1 := hl.src
  have hcell := hl.own.cell n (by simp [hl.len])
  rw [show (xs ++ [(77 : Int)]).getD n 0 = 77 by rw [List.getD, List.getElem?_append_right (by rw [hl.len]; exact Nat.le_refl _), hl.len]; simp] at hcell
  have hcI : (n : Int) + 1 ≤ (c : Int) := by have := hl.cap; omega
  have hnI : (n : Int) ≤ 17592186043904 := by omega
  have hw : IntKind.i64.wrap ((n : Int) + 1) = (n : Int) + 1 := i64_in _ (by omega)
  have hp : (0 : Int) ≤ (n : Int) + 1 := by omega
  have hsl : ∀ W : World, (Instr.slice 23 (.slice (some ⟨g, 0, none⟩) n c) none (some (.int .i64 ((n : Int) + 1))) none).run Try.prog W = .ok (.slice (some ⟨g, 0, none⟩) (n + 1) c) W := fun W => sliceG_to _ Try.elemU Try.underlying23 Try.sizeOfU W _ _ _ _ (n + 1) (by omega) hl.cap
  have HH := hide hl
  clear hl hn
  go_enter Try.func21, Try.ntmps21
  go_wp2
  go_loopw [5] (fun i wr => ∃ k : Nat, k ≤ n ∧ i = .int .i64 k ∧ Drew w wr) (fun i _ => n - (intOf i).toNat)
  case atStart => exact ⟨0, Nat.zero_le _, rfl, Drew.refl _⟩
  case round =>
    obtain ⟨k, hk, rfl, hD⟩ := hrel
    by_cases hkn : k < n
    · have hkI : (k : Int) < (n : Int) := by omega
      obtain ⟨b, o, hb1, e1⟩ := (hD.src h1).at k hkn
      obtain ⟨b', o', hb2, e2⟩ := (hD.src h2).at k hkn
      generalize xs.getD k 0 = x at e1 e2
      cases hb1; subst hb2; rw [Nat.zero_add] at e1
      go_wp2_with fail
      go_quiet (fail)
      go_wp2
      go_roundw
      case rel => exact ⟨k + 1, by omega, by go_num, by first | exact hD | exact hD.more _⟩
      case measure => simp [intOf] <;> omega
    · have hkI : ¬ (k : Int) < (n : Int) := by omega
      rw [← hD.cell] at hcell
      go_wp2
      go_ret
      exact ⟨rfl, hD⟩

end Go.Proofs.Ytobdpcmafjhnlaa
