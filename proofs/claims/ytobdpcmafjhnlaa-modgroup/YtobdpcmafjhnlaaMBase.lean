/-
  A modulus in memory; limbs without noughts on top; sums, differences, products, quotients of such.
-/
import Derived.Test.YtobdpcmafjhnlaaNUndone
import Derived.Test.YtobdpcmafjhnlaaNSize
namespace Go.Proofs.Ytobdpcmafjhnlaa
open Go.RowKit Go.IntWalk

/-- A slice of limbs that says a number, without noughts on top, of at most L limbs. -/
def NumT (w : World) (v : Value) (x : Int) (L : Nat) : Prop := ∃ ao n c xs, v = .slice ao n c ∧ SrcG .u64 18446744073709551616 w ao n c xs ∧ Tr xs ∧ n ≤ L ∧ val 18446744073709551616 xs = x

theorem NumT.num {w : World} {v : Value} {x : Int} {L : Nat} (h : NumT w v x L) : NumU w v x L := by
  obtain ⟨ao, n, c, xs, he, hs, ht, hl, hv⟩ := h
  exact ⟨ao, n, c, xs, he, hs, by rw [trm_self (b := 18446744073709551616) (by decide) hs.hdg ht, hs.hlen]; exact hl, hv⟩

theorem NumT.below {w w' : World} {v : Value} {x : Int} {L : Nat} (h : NumT w v x L) (hb : Below w.heap.size w w') : NumT w' v x L := by
  obtain ⟨ao, n, c, xs, he, hs, hl⟩ := h
  exact ⟨ao, n, c, xs, he, hs.below hb, hl⟩

theorem NumT.drew {w w' : World} {v : Value} {x : Int} {L : Nat} (h : NumT w v x L) (hb : Drew w w') : NumT w' v x L := by
  obtain ⟨ao, n, c, xs, he, hs, hl⟩ := h
  exact ⟨ao, n, c, xs, he, hb.src hs, hl⟩

theorem NumT.heap {w w' : World} {v : Value} {x : Int} {L : Nat} (h : NumT w v x L) (hb : w'.heap = w.heap) : NumT w' v x L := by
  obtain ⟨ao, n, c, xs, he, hs, hl⟩ := h
  exact ⟨ao, n, c, xs, he, hs.heap hb, hl⟩

theorem NumU.heap {w w' : World} {v : Value} {x : Int} {L : Nat} (h : NumU w v x L) (hb : w'.heap = w.heap) : NumU w' v x L := by
  obtain ⟨ao, n, c, xs, he, hs, hl⟩ := h
  exact ⟨ao, n, c, xs, he, hs.heap hb, hl⟩

theorem NumT.alloc {w : World} {v : Value} {x : Int} {L : Nat} (h : NumT w v x L) (o : Obj) : NumT (w.alloc o) v x L := h.below ((Below.refl _ _).alloc (Nat.le_refl _) _)

theorem NumT.of {w : World} {base : Nat} {v : Value} {zs : List Int} (h : GotG .u64 18446744073709551616 52 w base v zs) (ht : Tr zs) (L : Nat) (hL : zs.length ≤ L) : NumT w v (val 18446744073709551616 zs) L := by
  obtain ⟨g, he, _, _⟩ := h.shape
  subst he
  exact ⟨_, _, _, zs, rfl, h.src, ht, hL, rfl⟩

theorem NumT.nonneg {w : World} {v : Value} {x : Int} {L : Nat} (h : NumT w v x L) : 0 ≤ x ∧ x < pw 18446744073709551616 L := h.num.nonneg

theorem NumT.rebound {w : World} {v : Value} {x : Int} {L : Nat} (h : NumT w v x L) (L' : Nat) (hx : x < pw 18446744073709551616 L') : NumT w v x L' := by
  obtain ⟨ao, n, c, xs, he, hs, ht, hl, hv⟩ := h
  refine ⟨ao, n, c, xs, he, hs, ht, ?_, hv⟩
  have := tr_len_le (b := 18446744073709551616) (by decide) hs.hdg ht L' (by rw [hv]; exact hx)
  rw [hs.hlen] at this
  exact this

theorem NumT.lit {w : World} (x : Int) (C : Array Value) (g : Nat) (hC : C = #[.int .u64 x]) (h0 : 0 < x) (h1 : x < 18446744073709551616) (hg : g = w.heap.size) (L : Nat) (hL : 1 ≤ L) : NumT (w.alloc (.cells C 52)) (.slice (some ⟨g, 0, none⟩) 1 1) x L :=
  ⟨_, _, _, [x], rfl, SrcG.litAt [x] C 1 g (by simpa using hC) rfl (by intro y hy; simp at hy; omega) (by omega) hg, by intro _; simp; omega, hL, by simp [val]⟩

theorem NumT.nil (w : World) (L : Nat) : NumT w (.slice none 0 0) 0 L := ⟨none, 0, 0, [], rfl, ⟨rfl, Nat.le_refl _, by decide, fun _ => ⟨rfl, rfl⟩, fun h => absurd rfl h, by intro x hx; simp at hx⟩, fun h => absurd rfl h, by omega, rfl⟩

theorem NumU.wide {w : World} {v : Value} {x : Int} {L : Nat} (h : NumU w v x L) (L' : Nat) (hL : L ≤ L') : NumU w v x L' := by
  obtain ⟨ao, n, c, xs, he, hs, hl, hv⟩ := h
  exact ⟨ao, n, c, xs, he, hs, by omega, hv⟩

theorem addT (v1 v2 : Value) (x y : Int) (L1 L2 : Nat) (w : World) (h1 : NumU w v1 x L1) (h2 : NumU w v2 y L2) (l1 : L1 ≤ 64) (l2 : L2 ≤ 64) (L : Nat) (k1 : L1 + 1 ≤ L) (k2 : L2 + 1 ≤ L) :
    Calls Try.prog 57 #[v1, v2] w fun e w' => ∃ v, e = .returned (.tuple #[v, .int .i64 0]) ∧ NumT w' v (x + y) L ∧ Below w.heap.size w w' := by
  have p1 := h1.nonneg
  have p2 := h2.nonneg
  obtain ⟨a1, n1, c1, xs, rfl, s1, m1, hx⟩ := h1
  obtain ⟨a2, n2, c2, ys, rfl, s2, m2, hy⟩ := h2
  refine (add_ok a1 n1 c1 xs a2 n2 c2 ys w s1 s2 (by omega) (by omega)).mono ?_
  rintro e w1 ⟨v, zs, rfl, hG, hT, hv, hB⟩
  rw [hx, hy] at hv
  refine ⟨v, rfl, ?_, hB⟩
  rw [← hv]
  refine NumT.of hG hT L (tr_len_le (b := 18446744073709551616) (by decide) hG.dg hT L ?_)
  rw [hv]
  have q1 := pw_mono (b := 18446744073709551616) (by decide) L1 (L - 1) (by omega)
  have q2 := pw_mono (b := 18446744073709551616) (by decide) L2 (L - 1) (by omega)
  have q3 := pw_pos (b := 18446744073709551616) (by decide) (L - 1)
  have q4 : pw 18446744073709551616 L = 18446744073709551616 * pw 18446744073709551616 (L - 1) := by rw [show L = (L - 1) + 1 by omega]; rfl
  rw [q4]
  omega

theorem mulT (v1 v2 : Value) (x y : Int) (L1 L2 : Nat) (w : World) (h1 : NumU w v1 x L1) (h2 : NumU w v2 y L2) (l1 : L1 ≤ 64) (l2 : L2 ≤ 64) (L : Nat) (k1 : L1 + L2 ≤ L) :
    Calls Try.prog 62 #[v1, v2] w fun e w' => ∃ v, e = .returned (.tuple #[v, .int .i64 0]) ∧ NumT w' v (x * y) L ∧ Below w.heap.size w w' := by
  have p1 := h1.nonneg
  have p2 := h2.nonneg
  obtain ⟨a1, n1, c1, xs, rfl, s1, m1, hx⟩ := h1
  obtain ⟨a2, n2, c2, ys, rfl, s2, m2, hy⟩ := h2
  refine (mul_ok a1 n1 c1 xs a2 n2 c2 ys w s1 s2 (by omega) (by omega)).mono ?_
  rintro e w1 ⟨v, zs, rfl, hG, hT, hv, hB⟩
  rw [hx, hy] at hv
  refine ⟨v, rfl, ?_, hB⟩
  rw [← hv]
  refine NumT.of hG hT L (tr_len_le (b := 18446744073709551616) (by decide) hG.dg hT L ?_)
  rw [hv]
  have q1 := prod_lt x y _ _ p1.1 p1.2 p2.1 p2.2
  rw [← pw_add] at q1
  have q2 := pw_mono (b := 18446744073709551616) (by decide) _ _ k1
  omega

theorem subT (v1 v2 : Value) (x y : Int) (L1 L2 : Nat) (w : World) (h1 : NumU w v1 x L1) (h2 : NumU w v2 y L2) (l1 : L1 ≤ 64) (l2 : L2 ≤ 64) (hle : y ≤ x) :
    Calls Try.prog 61 #[v1, v2] w fun e w' => ∃ v, e = .returned (.tuple #[v, .int .i64 0]) ∧ NumT w' v (x - y) L1 ∧ Below w.heap.size w w' := by
  have p1 := h1.nonneg
  have p2 := h2.nonneg
  obtain ⟨a1, n1, c1, xs, rfl, s1, m1, hx⟩ := h1
  obtain ⟨a2, n2, c2, ys, rfl, s2, m2, hy⟩ := h2
  refine (sub_ok a1 n1 c1 xs a2 n2 c2 ys w s1 s2 (by omega) (by omega) (by rw [hx, hy]; exact hle)).mono ?_
  rintro e w1 ⟨v, zs, rfl, hG, hT, hv, hB⟩
  rw [hx, hy] at hv
  refine ⟨v, rfl, ?_, hB⟩
  rw [← hv]
  exact NumT.of hG hT L1 (tr_len_le (b := 18446744073709551616) (by decide) hG.dg hT L1 (by omega))

theorem divT (v1 v2 : Value) (x y : Int) (L1 L2 : Nat) (w : World) (h1 : NumU w v1 x L1) (h2 : NumU w v2 y L2) (l1 : L1 ≤ 64) (l2 : L2 ≤ 64) (hy0 : 0 < y) :
    Calls Try.prog 37 #[v1, v2] w fun e w' => ∃ u1 u2, e = .returned (.tuple #[u1, u2, .int .i64 0]) ∧ NumT w' u1 (x / y) L1 ∧ NumT w' u2 (x % y) L2 ∧ Below w.heap.size w w' := by
  have p1 := h1.nonneg
  have p2 := h2.nonneg
  obtain ⟨a1, n1, c1, xs, rfl, s1, m1, hx⟩ := h1
  obtain ⟨a2, n2, c2, ys, rfl, s2, m2, hy⟩ := h2
  refine (div_ok a1 n1 c1 xs a2 n2 c2 ys w s1 s2 (by omega) (by omega) (by rw [hy]; omega)).mono ?_
  rintro e w1 ⟨u1, u2, q, r, rfl, hG1, hG2, _, hT1, hT2, hv, hlt, hB⟩
  rw [hx, hy] at hv
  rw [hy] at hlt
  have q0 := val_nonneg (b := 18446744073709551616) (by decide) hG1.dg
  have r0 := val_nonneg (b := 18446744073709551616) (by decide) hG2.dg
  have hq : val 18446744073709551616 q ≤ y * val 18446744073709551616 q := by
    have := Int.mul_le_mul_of_nonneg_right (show 1 ≤ y by omega) q0
    omega
  obtain ⟨u3, u4⟩ := (Int.ediv_emod_unique hy0).2 ⟨show val 18446744073709551616 r + y * val 18446744073709551616 q = x by omega, r0, hlt⟩
  refine ⟨u1, u2, rfl, ?_, ?_, hB⟩
  · rw [u3]
    exact NumT.of hG1 hT1 L1 (tr_len_le (b := 18446744073709551616) (by decide) hG1.dg hT1 L1 (by omega))
  · rw [u4]
    exact NumT.of hG2 hT2 L2 (tr_len_le (b := 18446744073709551616) (by decide) hG2.dg hT2 L2 (by omega))

/-- A Mod that New made. -/
def ModU (w : World) (v : Value) (M : Int) : Prop := ∃ g s, v = .pointer (some ⟨g, 0, none⟩) ∧ w.cell? ⟨g, 0, none⟩ = some s ∧ NumT w s M 8 ∧ 1 < M

theorem ModU.below {w w' : World} {v : Value} {M : Int} (h : ModU w v M) (hb : Below w.heap.size w w') : ModU w' v M := by
  obtain ⟨g, s, he, hc, hn, h1⟩ := h
  have hl := ltCell hc
  exact ⟨g, s, he, by rw [← hc]; exact World.cell?_of_block (hb.block g hl), hn.below hb, h1⟩

theorem ModU.drew {w w' : World} {v : Value} {M : Int} (h : ModU w v M) (hb : Drew w w') : ModU w' v M := h.below (hb.toBelow _)

theorem ModU.alloc {w : World} {v : Value} {M : Int} (h : ModU w v M) (o : Obj) : ModU (w.alloc o) v M := h.below ((Below.refl _ _).alloc (Nat.le_refl _) _)

theorem ModU.gt {w : World} {v : Value} {M : Int} (h : ModU w v M) : 1 < M ∧ M < pw 18446744073709551616 8 := by
  obtain ⟨g, s, he, hc, hn, h1⟩ := h
  exact ⟨h1, hn.nonneg.2⟩

set_option maxRecDepth 100000 in
theorem made_true (mv : Value) (M : Int) (w : World) (hm : ModU w mv M) :
    Calls Try.prog 36 #[mv] w fun e w' => e = .returned (.bool true) ∧ w' = w := by
  obtain ⟨g, s, rfl, hc, ⟨ao, n, c, xs, rfl, hs, ht, hl, hv⟩, h1⟩ := hm
  have hn : 0 < n := by
    have := hs.hlen
    rcases Nat.eq_zero_or_pos n with h | h
    · subst h
      obtain rfl : xs = [] := List.eq_nil_of_length_eq_zero this
      simp [val] at hv
      omega
    · exact h
  have hnI : (0 : Int) < (n : Int) := by omega
  clear hs ht hl hv
  go_enter Try.func36, Try.ntmps36
  go_wp2
  go_ret
  exact ⟨by first | rfl | simp [hn], rfl⟩

set_option maxRecDepth 100000 in
theorem rest_num (mv v1 : Value) (M x : Int) (L : Nat) (w : World) (hm : ModU w mv M) (h1 : NumU w v1 x L) (hL : L ≤ 64) :
    Calls Try.prog 58 #[mv, v1] w fun e w' => ∃ v, e = .returned v ∧ NumT w' v (x % M) 8 ∧ Below w.heap.size w w' := by
  obtain ⟨g, s, rfl, hc, hs, hM⟩ := hm
  have HC := hide (divT v1 s x M L 8 w h1 hs.num hL (by omega) (by omega))
  go_enter Try.func58, Try.ntmps58
  go_wp2_with fail
  refine HC.out.mono ?_
  rintro e w1 ⟨u1, u2, rfl, N1, N2, hB⟩
  go_wp2
  go_ret
  exact ⟨u2, rfl, N2, hB⟩

set_option maxRecDepth 100000 in
theorem plus_num (mv v1 v2 : Value) (M x y : Int) (w : World) (hm : ModU w mv M) (h1 : NumU w v1 x 8) (h2 : NumU w v2 y 8) :
    Calls Try.prog 41 #[mv, v1, v2] w fun e w' => ∃ v, e = .returned v ∧ NumT w' v ((x + y) % M) 8 ∧ Below w.heap.size w w' := by
  have HC := hide (addT v1 v2 x y 8 8 w h1 h2 (by omega) (by omega) 9 (by omega) (by omega))
  go_enter Try.func41, Try.ntmps41
  go_wp2_with fail
  refine HC.out.mono ?_
  rintro e w1 ⟨u1, rfl, N1, hB⟩
  go_wp2_with fail
  refine (rest_num mv u1 M (x + y) 9 w1 (hm.below hB) N1.num (by omega)).mono ?_
  rintro e w2 ⟨u2, rfl, N2, hB2⟩
  go_wp2
  go_ret
  exact ⟨u2, rfl, N2, hB.trans (hB2.mono hB.size)⟩

set_option maxRecDepth 100000 in
theorem times_num (mv v1 v2 : Value) (M x y : Int) (w : World) (hm : ModU w mv M) (h1 : NumU w v1 x 8) (h2 : NumU w v2 y 8) :
    Calls Try.prog 45 #[mv, v1, v2] w fun e w' => ∃ v, e = .returned v ∧ NumT w' v ((x * y) % M) 8 ∧ Below w.heap.size w w' := by
  have HC := hide (mulT v1 v2 x y 8 8 w h1 h2 (by omega) (by omega) 16 (by omega))
  go_enter Try.func45, Try.ntmps45
  go_wp2_with fail
  refine HC.out.mono ?_
  rintro e w1 ⟨u1, rfl, N1, hB⟩
  go_wp2_with fail
  refine (rest_num mv u1 M (x * y) 16 w1 (hm.below hB) N1.num (by omega)).mono ?_
  rintro e w2 ⟨u2, rfl, N2, hB2⟩
  go_wp2
  go_ret
  exact ⟨u2, rfl, N2, hB.trans (hB2.mono hB.size)⟩

set_option maxRecDepth 100000 in
theorem square_num (mv v1 : Value) (M x : Int) (w : World) (hm : ModU w mv M) (h1 : NumU w v1 x 8) :
    Calls Try.prog 64 #[mv, v1] w fun e w' => ∃ v, e = .returned v ∧ NumT w' v ((x * x) % M) 8 ∧ Below w.heap.size w w' := by
  have HC := hide (times_num mv v1 v1 M x x w hm h1 h1)
  go_enter Try.func64, Try.ntmps64
  go_wp2_with fail
  refine HC.out.mono ?_
  rintro e w1 ⟨u1, rfl, N1, hB⟩
  go_wp2
  go_ret
  exact ⟨u1, rfl, N1, hB⟩

theorem minus_lt (x y M : Int) (hx : 0 ≤ x) (hy : y < M) (h : x < y) : (x - y) % M = x + M - y := by
  rw [show x - y = (x + M - y) - M by omega, Int.sub_emod_right]
  exact Int.emod_eq_of_lt (by omega) (by omega)

theorem minus_ge (x y M : Int) (hy : 0 ≤ y) (hx : x < M) (h : y ≤ x) : (x - y) % M = x - y := Int.emod_eq_of_lt (by omega) (by omega)

set_option maxRecDepth 100000 in
theorem minus_num (mv v1 v2 : Value) (M x y : Int) (w : World) (hm : ModU w mv M) (h1 : NumU w v1 x 8) (h2 : NumU w v2 y 8) (hx : x < M) (hy : y < M) :
    Calls Try.prog 43 #[mv, v1, v2] w fun e w' => ∃ v, e = .returned v ∧ NumT w' v ((x - y) % M) 8 ∧ Below w.heap.size w w' := by
  have p1 := h1.nonneg
  have p2 := h2.nonneg
  have HC := compare_num v1 v2 x y 8 8 w h1 h2 (by omega) (by omega)
  by_cases hlt : x < y
  · rw [cmpI_lt hlt] at HC
    have HC := hide HC
    rw [minus_lt x y M p1.1 hy hlt]
    go_enter Try.func43, Try.ntmps43
    go_wp2_with fail
    refine HC.out.mono ?_
    rintro e w1 ⟨rfl, hD⟩
    have hm1 := hm.drew hD
    have hM := hm1.gt
    obtain ⟨g, s, rfl, hc, hs, _⟩ := hm1
    have HA := hide (addT v1 s x M 8 8 w1 (h1.drew hD) hs.num (by omega) (by omega) 9 (by omega) (by omega))
    go_wp2_with fail
    refine HA.out.mono ?_
    rintro e w2 ⟨u1, rfl, N1, hB⟩
    have HS := hide (subT u1 v2 (x + M) y 9 8 w2 N1.num ((h2.drew hD).below hB) (by omega) (by omega) (by omega))
    go_wp2_with fail
    refine HS.out.mono ?_
    rintro e w3 ⟨u2, rfl, N2, hB2⟩
    go_wp2
    go_ret
    exact ⟨u2, rfl, N2.rebound 8 (by omega), (hD.toBelow _).trans ((hB.trans (hB2.mono hB.size)).mono (by rw [hD.heap]; exact Nat.le_refl _))⟩
  · have hr : ¬ cmpI x y < 0 := by unfold cmpI; rw [if_neg hlt]; split <;> decide
    obtain ⟨r, hre⟩ : ∃ r, cmpI x y = r := ⟨_, rfl⟩
    rw [hre] at HC hr
    clear hre
    have HC := hide HC
    rw [minus_ge x y M p2.1 hx (by omega)]
    go_enter Try.func43, Try.ntmps43
    go_wp2_with fail
    refine HC.out.mono ?_
    rintro e w1 ⟨rfl, hD⟩
    have HS := hide (subT v1 v2 x y 8 8 w1 (h1.drew hD) (h2.drew hD) (by omega) (by omega) (by omega))
    go_wp2_with fail
    refine HS.out.mono ?_
    rintro e w3 ⟨u2, rfl, N2, hB2⟩
    go_wp2
    go_ret
    exact ⟨u2, rfl, N2, (hD.toBelow _).trans (hB2.mono (by rw [hD.heap]; exact Nat.le_refl _))⟩

end Go.Proofs.Ytobdpcmafjhnlaa
