/-
  The statements' own helpers without the document: odd, short, same; mod's calls at numbers that may be.
-/
import Derived.Test.YtobdpcmafjhnlaaMNew
import Derived.Laws.Bits64b
namespace Go.Proofs.Ytobdpcmafjhnlaa
open Go.RowKit Go.IntWalk

theorem mm1 (a b M : Int) : (a % M * b) % M = (a * b) % M := by rw [Int.mul_emod, Int.emod_emod, ← Int.mul_emod]
theorem mm2 (a b M : Int) : (a * (b % M)) % M = (a * b) % M := by rw [Int.mul_emod, Int.emod_emod, ← Int.mul_emod]
theorem ma1 (a b M : Int) : (a % M + b) % M = (a + b) % M := by rw [Int.add_emod, Int.emod_emod, ← Int.add_emod]
theorem ma2 (a b M : Int) : (a + b % M) % M = (a + b) % M := by rw [Int.add_emod, Int.emod_emod, ← Int.add_emod]
theorem ms1 (a b M : Int) : (a % M - b) % M = (a - b) % M := by rw [Int.sub_emod, Int.emod_emod, ← Int.sub_emod]
theorem ms2 (a b M : Int) : (a - b % M) % M = (a - b) % M := by rw [Int.sub_emod, Int.emod_emod, ← Int.sub_emod]

set_option maxRecDepth 100000 in
theorem short7 (ao : Option Addr) (n c : Nat) (xs : List Int) (w : World) (hs : SrcG .u64 18446744073709551616 w ao n c xs) (L : Nat) (I : Int) (hI : I = (L : Int)) :
    Calls Try.prog 32 #[.slice ao n c, .int .i64 I] w fun e w' => e = .returned (.slice ao (min n L) c) ∧ w' = w := by
  have hc := hs.hcap
  have hm := hs.lenI
  obtain ⟨M, hM⟩ : ∃ M : Nat, min n L = M := ⟨_, rfl⟩
  have hMI : min (n : Int) I = (M : Int) := by omega
  have hMn : M ≤ n := by omega
  rw [hM]
  clear hM hI
  have hsl : ∀ W : World, (Instr.slice 23 (.slice ao n c) none (some (.int .i64 (M : Int))) none).run Try.prog W = .ok (.slice ao M c) W := fun W => sliceG_to _ Try.elemU Try.underlying23 Try.sizeOfU W _ _ _ _ M rfl (by omega)
  go_enter Try.func32, Try.ntmps32
  go_wp2
  go_ret
  exact ⟨rfl, rfl⟩

theorem short_src {w : World} {ao : Option Addr} {n c : Nat} {xs : List Int} (hs : SrcG .u64 18446744073709551616 w ao n c xs) (L : Nat) : SrcG .u64 18446744073709551616 w ao (min n L) c (xs.take (min n L)) := hs.head3 _ (by omega)

theorem src_num {w : World} {ao : Option Addr} {n c : Nat} {xs : List Int} (hs : SrcG .u64 18446744073709551616 w ao n c xs) (L : Nat) (hL : n ≤ L) : NumU w (.slice ao n c) (val 18446744073709551616 xs) L :=
  ⟨ao, n, c, xs, rfl, hs, by have := trm_len xs; have := hs.hlen; omega, rfl⟩

theorem or3 (a : Int) (h0 : 0 ≤ a) (h1 : a < 18446744073709551616) : 0 ≤ bits .or .u64 a 3 ∧ bits .or .u64 a 3 < 18446744073709551616 ∧ bits .or .u64 a 3 % 4 = 3 := by
  obtain ⟨A, rfl⟩ := Int.eq_ofNat_of_zero_le h0
  have h := bits_or_u64_nat A 3 (by omega) (by omega)
  rw [show ((3 : Nat) : Int) = 3 from rfl] at h
  rw [h]
  have e1 : (A ||| 3) < 2 ^ 64 := Nat.or_lt_two_pow (by omega) (by decide)
  have e2 : (A ||| 3) % 2 ^ 2 = 3 := by
    rw [Nat.or_mod_two_pow]
    have : A % 2 ^ 2 < 4 := Nat.mod_lt _ (by decide)
    generalize A % 2 ^ 2 = q at this
    match q, this with
    | 0, _ | 1, _ | 2, _ | 3, _ => rfl
  refine ⟨by omega, by omega, by omega⟩

theorem val_mod4 (x : Int) (r : List Int) (hx : x % 4 = 3) : val 18446744073709551616 (x :: r) % 4 = 3 := by
  rw [val]
  generalize val 18446744073709551616 r = q
  omega

set_option maxRecDepth 100000 in
set_option maxHeartbeats 1000000 in
theorem odd_any (ao : Option Addr) (n c : Nat) (xs : List Int) (w : World) (hs : SrcG .u64 18446744073709551616 w ao n c xs) (L : Nat) (I : Int) (hI : I = (L : Int)) (hL : L ≤ 8) (hL1 : 1 ≤ L) :
    Calls Try.prog 31 #[.slice ao n c, .int .i64 I] w fun e w' => ∃ g m c' zs, e = .returned (.slice (some ⟨g, 0, none⟩) m c') ∧ SrcG .u64 18446744073709551616 w' (some ⟨g, 0, none⟩) m c' zs ∧ m ≤ L ∧ val 18446744073709551616 zs % 4 = 3 ∧ Below w.heap.size w w' := by
  have hcap := hs.hcap
  have hm := hs.lenI
  have hsr := short_src hs L
  obtain ⟨M, hM⟩ : ∃ M : Nat, min n L = M := ⟨_, rfl⟩
  have hMI : min (n : Int) I = (M : Int) := by omega
  have hMn : M ≤ n := by omega
  have hML : M ≤ L := by omega
  have hMb : (M : Int) ≤ 8 := by omega
  rw [hM] at hsr
  obtain ⟨ys, hys⟩ : ∃ ys, xs.take M = ys := ⟨_, rfl⟩
  rw [hys] at hsr
  have HL := hide hsr.hlen
  have HD := hide hsr.hdg
  clear hM hI hys hs
  have hsl : ∀ W : World, (Instr.slice 23 (.slice ao n c) none (some (.int .i64 (M : Int))) none).run Try.prog W = .ok (.slice ao M c) W := fun W => sliceG_to _ Try.elemU Try.underlying23 Try.sizeOfU W _ _ _ _ M rfl (by omega)
  rcases Nat.eq_zero_or_pos M with h0 | h0
  · subst h0
    have hys : ys = [] := List.eq_nil_of_length_eq_zero HL.out
    have hMI : min (n : Int) I = 0 := hMI
    have hsl : ∀ W : World, (Instr.slice 23 (.slice ao n c) none (some (.int .i64 0)) none).run Try.prog W = .ok (.slice ao 0 c) W := hsl
    obtain ⟨y, hy⟩ : ∃ y : Int, y = 3 := ⟨_, rfl⟩
    obtain ⟨u, hu⟩ : ∃ u, bits .or .u64 y 3 = u := ⟨_, rfl⟩
    have HU := hide (or3 y (by omega) (by omega))
    rw [hu] at HU
    have HY := hide hy
    have HYS := hide hys
    clear hy hys
    go_enter Try.func31, Try.ntmps31
    go_wp2_with (first | (at_builtin; refine appG 23 8 Try.underlying23 Try.infoU _ rfl (.tmp 6) (.tmp 12) rfl w.heap.size (.slice (some ⟨w.heap.size, 0, none⟩) 0 0) [] rfl (OwnG.lit _ [] _ 0 rfl rfl (Nat.le_refl _) (by decide)) ao 0 c ys rfl (hsr.alloc _) (0) (by simpa using HL.out) (.inl (by simp)) (by omega) (by omega) (by simp) ?_; intro g1 c1 w1 ho1 hb1 hl1 hc1 hm1 hg1 hk1) | (at_builtin; refine appG 23 8 Try.underlying23 Try.infoU _ rfl (.tmp 17) (.tmp 18) rfl w.heap.size (.slice (some ⟨g1, 0, none⟩) 0 c1) ys rfl (ho1.alloc _) (some ⟨w1.heap.size, 0, none⟩) 1 1 [3] rfl (SrcG.litAt (B := 18446744073709551616) [3] _ 1 _ rfl rfl (by intro x hx; simp at hx; omega) (by decide) rfl) 1 (by rw [HYS.out]; rfl) (.inl (by simp)) (by omega) (by omega) (by simp; omega) ?_; intro g2 c2 w2 ho2 hb2 hl2 hc2 hm2 hg2 hk2; have hcell : w2.cell? ⟨g2, 0, none⟩ = some (.int .u64 y) := (by have := ho2.cell 0 (by rw [HYS.out]; simp); rw [HYS.out] at this; rw [HY.out]; simpa using this); have hfz := ho2.frozen 0))
    go_ret
    have hs2 := ho2.stored 0 u
    rw [HYS.out] at hs2
    refine ⟨g2, 1, c2, [u], rfl, ?_, hL1, val_mod4 u [] HU.out.2.2, ?_⟩
    · have h9 := hs2.1
      simp only [List.nil_append, List.set_cons_zero] at h9
      exact h9.toSrc (by intro x hx; simp at hx; subst hx; exact ⟨HU.out.1, HU.out.2.1⟩)
    · have z : w.heap.size ≤ w1.heap.size := by omega
      have B1 : Below w.heap.size w w1 := ((Below.refl _ _).alloc (Nat.le_refl _) _).grown hg1 (by simp) (by intro k hk; cases hk; exact Nat.le_refl _)
      have B2 : Below w.heap.size w w2 := (B1.alloc z _).grown hg2 (by simp; omega) (by intro k hk; cases hk; exact hb1)
      exact B2.grown hs2.2 B2.size (by intro k hk; cases hk; exact hb2)
  · obtain ⟨y, r, hys⟩ : ∃ y r, ys = y :: r := by
      cases h : ys with
      | nil => have := HL.out; rw [h] at this; simp at this; omega
      | cons y r => exact ⟨y, r, rfl⟩
    have hy := HD.out y (by rw [hys]; simp)
    obtain ⟨u, hu⟩ : ∃ u, bits .or .u64 y 3 = u := ⟨_, rfl⟩
    have HU := hide (or3 y hy.1 hy.2)
    rw [hu] at HU
    have HYS := hide hys
    clear hy hys
    have hMp : (0 : Int) < (M : Int) := by omega
    go_enter Try.func31, Try.ntmps31
    go_wp2_with (first | (at_builtin; refine appG 23 8 Try.underlying23 Try.infoU _ rfl (.tmp 6) (.tmp 12) rfl w.heap.size (.slice (some ⟨w.heap.size, 0, none⟩) 0 0) [] rfl (OwnG.lit _ [] _ 0 rfl rfl (Nat.le_refl _) (by decide)) ao M c ys rfl (hsr.alloc _) (M) (by simpa using HL.out) (.inl (by simp)) (by omega) (by omega) (by simp) ?_; intro g1 c1 w1 ho1 hb1 hl1 hc1 hm1 hg1 hk1; have hcell : w1.cell? ⟨g1, 0, none⟩ = some (.int .u64 y) := (by have := ho1.cell 0 (by rw [HYS.out]; simp); rw [HYS.out] at this; simpa using this); have hfz := ho1.frozen 0))
    go_ret
    have hs2 := ho1.stored 0 u
    rw [HYS.out] at hs2
    refine ⟨g1, M, c1, u :: r, rfl, ?_, hML, val_mod4 u r HU.out.2.2, ?_⟩
    · have h9 := hs2.1
      simp only [List.nil_append, List.set_cons_zero] at h9
      refine h9.toSrc (fun x hx => ?_)
      rcases List.mem_cons.1 hx with rfl | hx
      · exact ⟨HU.out.1, HU.out.2.1⟩
      · exact HD.out x (by rw [HYS.out]; simp [hx])
    · have B1 : Below w.heap.size w w1 := ((Below.refl _ _).alloc (Nat.le_refl _) _).grown hg1 (by simp) (by intro k hk; cases hk; exact Nat.le_refl _)
      exact B1.grown hs2.2 B1.size (by intro k hk; cases hk; exact hb1)

set_option maxRecDepth 100000 in
set_option maxHeartbeats 1000000 in
theorem same7 (a1 : Option Addr) (n c1 : Nat) (xs : List Int) (a2 : Option Addr) (c2 : Nat) (w : World) (h1 : SrcG .u64 18446744073709551616 w a1 n c1 xs) (h2 : SrcG .u64 18446744073709551616 w a2 n c2 xs) :
    Calls Try.prog 33 #[.slice a1 n c1, .slice a2 n c2] w fun e w' => e = .returned (.bool true) ∧ Drew w w' := by
  obtain ⟨m1, _⟩ := h1.lenI
  go_enter Try.func33, Try.ntmps33
  go_wp2
  go_loopw [5] (fun i wr => ∃ k : Nat, k ≤ n ∧ i = .int .i64 k ∧ Drew w wr) (fun i _ => n - (intOf i).toNat)
  case atStart => exact ⟨0, Nat.zero_le _, rfl, Drew.refl _⟩
  case round =>
    obtain ⟨k, hk, rfl, hD⟩ := hrel
    by_cases hkn : k < n
    · have hkI : (k : Int) < (n : Int) := by omega
      obtain ⟨b, o, hb1, e1⟩ := (hD.src h1).at k hkn
      obtain ⟨b', o', hb2, e2⟩ := (hD.src h2).at k hkn
      generalize xs.getD k 0 = x at e1 e2
      subst hb1 hb2
      go_wp2_with fail
      go_quiet (fail)
      go_wp2
      go_roundw
      case rel => exact ⟨k + 1, by omega, by go_num, by first | exact hD | exact hD.more _⟩
      case measure => simp [intOf] <;> omega
    · have hkI : ¬ (k : Int) < (n : Int) := by omega
      go_wp2
      go_ret
      exact ⟨rfl, hD⟩

theorem sameT (v1 v2 : Value) (x y : Int) (L1 L2 : Nat) (w : World) (h1 : NumT w v1 x L1) (h2 : NumT w v2 y L2) (hxy : x = y) :
    Calls Try.prog 33 #[v1, v2] w fun e w' => e = .returned (.bool true) ∧ Drew w w' := by
  obtain ⟨a1, n1, c1, xs, rfl, s1, t1, _, hx⟩ := h1
  obtain ⟨a2, n2, c2, ys, rfl, s2, t2, _, hy⟩ := h2
  obtain rfl : xs = ys := tr_inj (b := 18446744073709551616) (by decide) s1.hdg s2.hdg t1 t2 (by rw [hx, hy, hxy])
  obtain rfl : n1 = n2 := by rw [← s1.hlen, ← s2.hlen]
  exact same7 a1 n1 c1 xs a2 c2 w s1 s2


theorem add_7 (mv v1 v2 : Value) (M x y : Int) (L1 L2 : Nat) (w : World) (hm : ModU w mv M) (h1 : NumU w v1 x L1) (h2 : NumU w v2 y L2) (l1 : L1 ≤ 64) (l2 : L2 ≤ 64) :
    Calls Try.prog 15 #[mv, v1, v2] w fun e w' => ∃ v, e = .returned (.tuple #[v, .int .i64 0]) ∧ NumT w' v ((x + y) % M) 8 ∧ Below w.heap.size w w' := by
  refine (add_arg mv v1 v2 M x y 0 0 w hm (Arg.num h1 l1) (Arg.num h2 l2)).mono ?_
  rintro e w1 ⟨v, rfl, A, hB⟩
  rcases A with ⟨_, N⟩ | ⟨h, _⟩
  · exact ⟨v, rfl, N, hB⟩
  · exact absurd (by decide) h

theorem sub_7 (mv v1 v2 : Value) (M x y : Int) (L1 L2 : Nat) (w : World) (hm : ModU w mv M) (h1 : NumU w v1 x L1) (h2 : NumU w v2 y L2) (l1 : L1 ≤ 64) (l2 : L2 ≤ 64) :
    Calls Try.prog 17 #[mv, v1, v2] w fun e w' => ∃ v, e = .returned (.tuple #[v, .int .i64 0]) ∧ NumT w' v ((x - y) % M) 8 ∧ Below w.heap.size w w' := by
  refine (sub_arg mv v1 v2 M x y 0 0 w hm (Arg.num h1 l1) (Arg.num h2 l2)).mono ?_
  rintro e w1 ⟨v, rfl, A, hB⟩
  rcases A with ⟨_, N⟩ | ⟨h, _⟩
  · exact ⟨v, rfl, N, hB⟩
  · exact absurd (by decide) h

theorem mul_7 (mv v1 v2 : Value) (M x y : Int) (L1 L2 : Nat) (w : World) (hm : ModU w mv M) (h1 : NumU w v1 x L1) (h2 : NumU w v2 y L2) (l1 : L1 ≤ 64) (l2 : L2 ≤ 64) :
    Calls Try.prog 19 #[mv, v1, v2] w fun e w' => ∃ v, e = .returned (.tuple #[v, .int .i64 0]) ∧ NumT w' v ((x * y) % M) 8 ∧ Below w.heap.size w w' := by
  refine (mul_arg mv v1 v2 M x y 0 0 w hm (Arg.num h1 l1) (Arg.num h2 l2)).mono ?_
  rintro e w1 ⟨v, rfl, A, hB⟩
  rcases A with ⟨_, N⟩ | ⟨h, _⟩
  · exact ⟨v, rfl, N, hB⟩
  · exact absurd (by decide) h

theorem reduce_7 (mv v1 : Value) (M x : Int) (L1 : Nat) (w : World) (hm : ModU w mv M) (h1 : NumU w v1 x L1) (l1 : L1 ≤ 64) :
    Calls Try.prog 12 #[mv, v1] w fun e w' => ∃ v, e = .returned (.tuple #[v, .int .i64 0]) ∧ NumT w' v (x % M) 8 ∧ Below w.heap.size w w' := by
  refine (reduce_arg mv v1 M x 0 w hm (Arg.num h1 l1)).mono ?_
  rintro e w1 ⟨v, rfl, A, hB⟩
  rcases A with ⟨_, N⟩ | ⟨h, _⟩
  · exact ⟨v, rfl, N, hB⟩
  · exact absurd rfl h

end Go.Proofs.Ytobdpcmafjhnlaa
