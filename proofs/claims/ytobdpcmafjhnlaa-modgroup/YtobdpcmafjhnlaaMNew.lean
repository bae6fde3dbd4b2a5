/-
  mod's short, isOne, New and Modulus; slices.Clone of limbs.
-/
import Derived.Test.YtobdpcmafjhnlaaMOps
import Derived.Test.YtobdpcmafjhnlaaNRefA
import Derived.Lib.Bytes
namespace Go.Proofs.Ytobdpcmafjhnlaa
open Go.RowKit Go.IntWalk

set_option maxRecDepth 100000 in
set_option maxHeartbeats 1000000 in
theorem cloneU (ao : Option Addr) (n cap : Nat) (xs : List Int) (w : World) (hs : SrcG .u64 18446744073709551616 w ao n cap xs) (hN : n ≤ 1000) :
    Calls Try.prog 51 #[.slice ao n cap] w fun e w' => ∃ ao' c', e = .returned (.slice ao' n c') ∧ OwnG .u64 52 w' w.heap.size (.slice ao' n c') xs ∧ Below w.heap.size w w' := by
  have q22 : ∀ (w : World) (a : Option Addr) (n c n' c' : Nat), (binOp .eql 23 (.slice a n c) (.slice none n' c')).run Try.prog w = .ok (.bool a.isNone) w :=
    fun w a n c n' c' => Lib.run_eql_slice_nil w _ _ a n c n' c' Try.underlying23
  have hl := hide hs.hlen
  cases ao with
  | none =>
    obtain ⟨rfl, rfl⟩ := hs.hnil rfl
    obtain rfl : xs = [] := List.eq_nil_of_length_eq_zero hl.out
    go_enter Try.func51, Try.ntmps51
    go_wp2
    go_ret
    exact ⟨_, _, rfl, OwnG.nil _ _, Below.refl _ _⟩
  | some ad =>
    go_enter Try.func51, Try.ntmps51
    go_wp2_with (at_builtin; refine appG 23 8 Try.underlying23 Try.infoU _ rfl (.tmp 5) (.tmp 6) rfl w.heap.size (.slice (some ⟨w.heap.size, 0, none⟩) 0 0) [] rfl (OwnG.lit _ [] _ 0 rfl rfl (Nat.le_refl _) (by decide)) (some ad) n cap xs rfl (hs.alloc _) n (by simpa using hl.out) (.inl (by simp)) (by omega) (by omega) (by simp) ?_; intro g1 c1 w1 ho1 hb1 hl1 hc1 hm1 hg1 hk1)
    go_ret
    exact ⟨_, _, rfl, ho1, ((Below.refl _ _).alloc (Nat.le_refl _) _).grown hg1 (by simp) (by intro k hk; cases hk; exact Nat.le_refl _)⟩

theorem bl_limbs {xs : List Int} {S : Nat} (hd : Dg 18446744073709551616 xs) (h : BL (val 18446744073709551616 xs) S) : 64 * ((trm xs).length - 1) < S + (if (trm xs).length = 0 then 1 else 0) ∧ S ≤ 64 * (trm xs).length := by
  have hv := trm_val 18446744073709551616 xs
  have ht := trm_tr xs
  have hg := trm_dg hd
  rw [← hv] at h
  generalize trm xs = zs at h ht hg
  by_cases hz : zs = []
  · subst hz
    rcases h with ⟨_, rfl⟩ | ⟨h, _⟩
    · simp
    · simp [val] at h
  · have h1 := tr_low (b := 18446744073709551616) (by decide) hg ht hz
    have h2 := val_lt (b := 18446744073709551616) (by decide) hg
    have hn : zs.length ≠ 0 := by intro h; exact hz (List.eq_nil_of_length_eq_zero h)
    rw [if_neg hn]
    have hp := pw_pos (b := 18446744073709551616) (by decide) (zs.length - 1)
    rw [← pw_64] at h1 h2
    rcases h with ⟨h3, _⟩ | ⟨_, h3, h4, h5⟩
    · rw [← pw_64] at hp; omega
    · constructor
      · rcases Nat.lt_or_ge (64 * (zs.length - 1)) S with h6 | h6
        · omega
        · have := pw_mono (b := 2) (by decide) _ _ h6
          omega
      · rcases Nat.lt_or_ge (64 * zs.length) S with h6 | h6
        · have := pw_mono (b := 2) (by decide) (64 * zs.length) (S - 1) (by omega)
          omega
        · exact h6

set_option maxRecDepth 100000 in
theorem short_ok (ao : Option Addr) (n c : Nat) (xs : List Int) (w : World) (hs : SrcG .u64 18446744073709551616 w ao n c xs) (hl : (trm xs).length ≤ 8) :
    Calls Try.prog 47 #[.slice ao n c] w fun e w' => e = .returned (.tuple #[.slice ao (trm xs).length c, .int .i64 0]) ∧ w' = w := by
  have HB := hide (bits_ok ao n c xs w hs (by omega))
  have hm : (trm xs).length ≤ c := by have := trm_len xs; have := hs.hlen; have := hs.hcap; omega
  have HD := hide hs.hdg
  have hL2 : Hid (∀ S : Nat, BL (val 18446744073709551616 xs) S → (S : Int) ≤ 512 ∧ Int.tdiv ((S : Int) + 63) 64 = ((trm xs).length : Int)) := by
    unfold Hid
    intro S hS
    have := bl_limbs HD.out hS
    rw [Int.tdiv_eq_ediv_of_nonneg (by omega)]
    split at this <;> omega
  obtain ⟨m, hme⟩ : ∃ m, (trm xs).length = m := ⟨_, rfl⟩
  rw [hme] at hm hL2 hl ⊢
  clear HD hme
  have hsl : ∀ W : World, (Instr.slice 23 (.slice ao n c) none (some (.int .i64 (m : Int))) none).run Try.prog W = .ok (.slice ao m c) W := fun W => sliceG_to _ Try.elemU Try.underlying23 Try.sizeOfU W _ _ _ _ m rfl hm
  go_enter Try.func47, Try.ntmps47
  go_wp2_with fail
  refine HB.out.mono ?_
  rintro e w1 ⟨S, rfl, hS, _, hw⟩
  have hw2 := hw.symm
  subst hw2
  clear hw
  obtain ⟨k1, k2⟩ := hL2.out S hS
  clear hS hL2
  obtain ⟨I, hI⟩ : ∃ I : Int, (S : Int) = I := ⟨_, rfl⟩
  have hI0 : 0 ≤ I := by omega
  rw [hI] at k1 k2 ⊢
  clear hI
  have k3 : ¬ 512 < I := by omega
  have k4 : I + 64 - 1 = I + 63 := by omega
  go_wp2
  go_ret2
  exact ⟨rfl, rfl⟩

set_option maxRecDepth 100000 in
theorem short_long (ao : Option Addr) (n c : Nat) (xs : List Int) (w : World) (hs : SrcG .u64 18446744073709551616 w ao n c xs) (hl : 8 < (trm xs).length) :
    Calls Try.prog 47 #[.slice ao n c] w fun e w' => e = .returned (.tuple #[.slice none 0 0, .int .i64 3]) ∧ w' = w := by
  by_cases h64 : 64 < (trm xs).length
  · have HB := hide (bits_long ao n c xs w hs h64)
    go_enter Try.func47, Try.ntmps47
    go_wp2_with fail
    refine HB.out.mono ?_
    rintro e w1 ⟨rfl, hw⟩
    have hw2 := hw.symm
    subst hw2
    clear hw
    go_wp2
    go_ret2
    exact ⟨rfl, rfl⟩
  · have HB := hide (bits_ok ao n c xs w hs (by omega))
    have hL2 : Hid (∀ S : Nat, BL (val 18446744073709551616 xs) S → 512 < (S : Int)) := by
      unfold Hid
      intro S hS
      have := bl_limbs hs.hdg hS
      split at this <;> omega
    go_enter Try.func47, Try.ntmps47
    go_wp2_with fail
    refine HB.out.mono ?_
    rintro e w1 ⟨S, rfl, hS, _, hw⟩
    have hw2 := hw.symm
    subst hw2
    clear hw
    have k1 := hL2.out S hS
    clear hS hL2
    obtain ⟨I, hI⟩ : ∃ I : Int, (S : Int) = I := ⟨_, rfl⟩
    rw [hI] at k1 ⊢
    clear hI
    go_wp2
    go_ret2
    exact ⟨rfl, rfl⟩

set_option maxRecDepth 100000 in
theorem isOne_num (v : Value) (x : Int) (L : Nat) (w : World) (h : NumT w v x L) :
    Calls Try.prog 50 #[v] w fun e w' => e = .returned (.bool (decide (x = 1))) ∧ w' = w := by
  obtain ⟨ao, n, c, xs, rfl, hs, ht, hl, hv⟩ := h
  have hz := hs.hlen
  have hi := hs.lenI.1
  by_cases h1 : n = 1
  · subst h1
    obtain ⟨b, o, rfl, e1⟩ := hs.at 0 (by omega)
    obtain ⟨y, rfl⟩ : ∃ y, xs = [y] := List.length_eq_one_iff.1 hz
    have e1 : w.cell? ⟨b, o, none⟩ = some (.int .u64 y) := by simpa using e1
    have hy : y = x := by simpa [val] using hv
    subst hy
    clear hs ht hl hv hz
    go_enter Try.func50, Try.ntmps50
    by_cases hy1 : y = 1
    · subst hy1
      go_wp2
      go_ret
      exact ⟨rfl, rfl⟩
    · have hy2 : (y == 1) = false := by simpa using hy1
      go_wp2
      go_ret
      exact ⟨by simp [hy1], rfl⟩
  · have hx : x ≠ 1 := by
      rcases Nat.eq_zero_or_pos n with h0 | h0
      · subst h0
        obtain rfl : xs = [] := List.eq_nil_of_length_eq_zero hz
        simp [val] at hv
        omega
      · have h2 := tr_low (b := 18446744073709551616) (by decide) hs.hdg ht (by intro h; rw [h] at hz; simp at hz; omega)
        have h3 := pw_mono (b := 18446744073709551616) (by decide) 1 (xs.length - 1) (by omega)
        rw [show pw 18446744073709551616 1 = 18446744073709551616 by decide] at h3
        omega
    have hd : decide (x = 1) = false := by simpa using hx
    rw [hd]
    have hn : ¬ (n : Int) = 1 := by omega
    clear hs ht hl hv hz hx hd
    go_enter Try.func50, Try.ntmps50
    go_wp2
    go_ret
    exact ⟨rfl, rfl⟩

/-- A Mod that New made, in memory at or above a base. -/
def ModO (w : World) (base : Nat) (v : Value) (M : Int) : Prop := ∃ g ao n c xs, v = .pointer (some ⟨g, 0, none⟩) ∧ base ≤ g ∧ w.cell? ⟨g, 0, none⟩ = some (.slice ao n c) ∧ SrcG .u64 18446744073709551616 w ao n c xs ∧ Tr xs ∧ n ≤ 8 ∧ val 18446744073709551616 xs = M ∧ 1 < M ∧ ∀ b o, ao = some ⟨b, o, none⟩ → base ≤ b

theorem ModO.mod {w : World} {base : Nat} {v : Value} {M : Int} (h : ModO w base v M) : ModU w v M := by
  obtain ⟨g, ao, n, c, xs, he, hb, hc, hs, ht, hn, hv, hM, _⟩ := h
  exact ⟨g, _, he, hc, ⟨ao, n, c, xs, rfl, hs, ht, hn, hv⟩, hM⟩

theorem ModO.kept {w w' : World} {base r : Nat} {v : Value} {M : Int} (h : ModO w base v M) (hg : w.grownBy w' (some r)) (hr : r < base) : ModO w' base v M := by
  obtain ⟨g, ao, n, c, xs, he, hb, hc, hs, ht, hn, hv, hM, hk⟩ := h
  refine ⟨g, ao, n, c, xs, he, hb, ?_, hs.grown hg (by intro b o hb' _ h; have := hk b o hb'; simp at h; omega), ht, hn, hv, hM, hk⟩
  rw [← hc]
  exact World.cell?_of_block (hg.block g (ltCell hc) (by simp; omega))

theorem ModO.below {w w' : World} {base : Nat} {v : Value} {M : Int} (h : ModO w base v M) (hb : Below w.heap.size w w') : ModO w' base v M := by
  obtain ⟨g, ao, n, c, xs, he, h1, hc, hs, h2⟩ := h
  exact ⟨g, ao, n, c, xs, he, h1, by rw [← hc]; exact World.cell?_of_block (hb.block g (ltCell hc)), hs.below hb, h2⟩

theorem trm_num {w : World} {ao : Option Addr} {n c : Nat} {xs : List Int} (hs : SrcG .u64 18446744073709551616 w ao n c xs) : NumT w (.slice ao (trm xs).length c) (val 18446744073709551616 xs) (trm xs).length := by
  refine ⟨ao, _, c, trm xs, rfl, ?_, trm_tr _, Nat.le_refl _, trm_val _ _⟩
  obtain ⟨m, hm, he⟩ := trm_take xs
  have hl : (trm xs).length = m := by rw [he, List.length_take]; omega
  have := hs.head3 m (by rw [← hs.hlen]; exact hm)
  rw [hl, he]
  exact this

set_option maxRecDepth 100000 in
theorem new_long (ao : Option Addr) (n c : Nat) (xs : List Int) (w : World) (hs : SrcG .u64 18446744073709551616 w ao n c xs) (hl : 8 < (trm xs).length) :
    Calls Try.prog 30 #[.slice ao n c] w fun e w' => e = .returned (.tuple #[.pointer none, .int .i64 3]) ∧ w' = w := by
  have HB := hide (short_long ao n c xs w hs hl)
  go_enter Try.func30, Try.ntmps30
  go_wp2_with fail
  refine HB.out.mono ?_
  rintro e w1 ⟨rfl, hw⟩
  have hw2 := hw.symm
  subst hw2
  clear hw
  go_wp2
  go_ret2
  exact ⟨rfl, rfl⟩

theorem pw20 (x : Int) : x / pw 2 0 % 2 = x % 2 := by rw [show pw 2 0 = 1 by decide, Int.ediv_one]

set_option maxRecDepth 100000 in
theorem new_bad (ao : Option Addr) (n c : Nat) (xs : List Int) (w : World) (hs : SrcG .u64 18446744073709551616 w ao n c xs) (hl : (trm xs).length ≤ 8) (hb : val 18446744073709551616 xs % 2 = 0 ∨ val 18446744073709551616 xs = 1) :
    Calls Try.prog 30 #[.slice ao n c] w fun e w' => e = .returned (.tuple #[.pointer none, .int .i64 2]) ∧ w' = w := by
  have HB := hide (short_ok ao n c xs w hs hl)
  have NT := trm_num hs
  obtain ⟨x, hx⟩ : ∃ x, val 18446744073709551616 xs = x := ⟨_, rfl⟩
  obtain ⟨m, hm⟩ : ∃ m, (trm xs).length = m := ⟨_, rfl⟩
  rw [hx] at hb
  rw [hx, hm] at NT
  rw [hm] at HB
  clear hx hm hl hs
  have HI := hide (isOne_num _ x m w NT)
  obtain ⟨ao', n', c', zs, he, h2, ht, _, hv⟩ := NT
  cases he
  have BT := bit_any ao m c zs 0 0 rfl w h2 (by omega)
  rw [hv, pw20] at BT
  have HBT := hide BT
  clear BT h2 ht hv
  by_cases h0 : x % 2 = 0
  · rw [h0] at HBT
    go_enter Try.func30, Try.ntmps30
    go_wp2_with fail
    refine HB.out.mono ?_
    rintro e w1 ⟨rfl, hw⟩
    have hw2 := hw.symm
    subst hw2
    clear hw
    go_wp2_with fail
    refine HBT.out.mono ?_
    rintro e w1 ⟨rfl, hw⟩
    have hw2 := hw.symm
    subst hw2
    clear hw
    go_wp2
    go_ret2
    exact ⟨rfl, rfl⟩
  · have hx1 : x = 1 := by omega
    subst hx1
    rw [show (1 : Int) % 2 = 1 by decide] at HBT
    go_enter Try.func30, Try.ntmps30
    go_wp2_with fail
    refine HB.out.mono ?_
    rintro e w1 ⟨rfl, hw⟩
    have hw2 := hw.symm
    subst hw2
    clear hw
    go_wp2_with fail
    refine HBT.out.mono ?_
    rintro e w1 ⟨rfl, hw⟩
    have hw2 := hw.symm
    subst hw2
    clear hw
    go_wp2_with fail
    refine HI.out.mono ?_
    rintro e w1 ⟨rfl, hw⟩
    have hw2 := hw.symm
    subst hw2
    clear hw
    go_wp2
    go_ret2
    exact ⟨rfl, rfl⟩

set_option maxRecDepth 100000 in
theorem new_ok (ao : Option Addr) (n c : Nat) (xs : List Int) (w : World) (hs : SrcG .u64 18446744073709551616 w ao n c xs) (hl : (trm xs).length ≤ 8) (hb : val 18446744073709551616 xs % 2 = 1) (hb1 : val 18446744073709551616 xs ≠ 1) :
    Calls Try.prog 30 #[.slice ao n c] w fun e w' => ∃ v, e = .returned (.tuple #[v, .int .i64 0]) ∧ ModO w' w.heap.size v (val 18446744073709551616 xs) ∧ Below w.heap.size w w' := by
  have HB := hide (short_ok ao n c xs w hs hl)
  have NT := trm_num hs
  have hge : 0 ≤ val 18446744073709551616 xs := val_nonneg (by decide) hs.hdg
  obtain ⟨x, hx⟩ : ∃ x, val 18446744073709551616 xs = x := ⟨_, rfl⟩
  obtain ⟨m, hm⟩ : ∃ m, (trm xs).length = m := ⟨_, rfl⟩
  rw [hx] at hb hb1 hge ⊢
  rw [hx, hm] at NT
  rw [hm] at HB hl
  clear hx hm hs
  have hI := isOne_num _ x m w NT
  rw [show decide (x = 1) = false by simpa using hb1] at hI
  have HI := hide hI
  obtain ⟨ao', n', c', zs, he, h2, ht, _, hv⟩ := NT
  cases he
  have BT := bit_any ao m c zs 0 0 rfl w h2 (by omega)
  rw [hv, pw20, hb] at BT
  have HBT := hide BT
  have HC := hide (cloneU ao m c zs w h2 (by omega))
  have HD := hide h2.hdg
  have HV := hide hv
  have HT := hide ht
  clear BT h2 ht hv hI
  go_enter Try.func30, Try.ntmps30
  go_wp2_with fail
  refine HB.out.mono ?_
  rintro e w1 ⟨rfl, hw⟩
  have hw2 := hw.symm
  subst hw2
  clear hw
  go_wp2_with fail
  refine HBT.out.mono ?_
  rintro e w1 ⟨rfl, hw⟩
  have hw2 := hw.symm
  subst hw2
  clear hw
  go_wp2_with fail
  refine HI.out.mono ?_
  rintro e w1 ⟨rfl, hw⟩
  have hw2 := hw.symm
  subst hw2
  clear hw
  go_wp2_with fail
  refine HC.out.mono ?_
  rintro e w1 ⟨a1, c1, rfl, hO, hB⟩
  go_wp2
  go_ret2
  have hsz := hB.size
  refine ⟨_, rfl, ⟨_, a1, m, c1, zs, rfl, hsz, ?_, (hO.toSrc HD.out).alloc _, HT.out, hl, HV.out, by omega, ?_⟩, hB.alloc hsz _⟩
  · simp
  · intro b o hb'
    subst hb'
    exact (hO.lt b rfl).1

set_option maxRecDepth 100000 in
theorem modulus_num (mv : Value) (M : Int) (w : World) (hm : ModU w mv M) :
    Calls Try.prog 28 #[mv] w fun e w' => ∃ g n c zs, e = .returned (.slice (some ⟨g, 0, none⟩) n c) ∧ OwnG .u64 52 w' w.heap.size (.slice (some ⟨g, 0, none⟩) n c) zs ∧ Dg 18446744073709551616 zs ∧ Tr zs ∧ n ≤ 8 ∧ 0 < n ∧ val 18446744073709551616 zs = M ∧ Below w.heap.size w w' := by
  have HM := hide (made_true mv M w hm)
  obtain ⟨g, s, rfl, hc, ⟨ao, n, c, xs, rfl, hs, ht, hl, hv⟩, h1⟩ := hm
  have hn : 0 < n := by
    have := hs.hlen
    rcases Nat.eq_zero_or_pos n with h | h
    · subst h
      obtain rfl : xs = [] := List.eq_nil_of_length_eq_zero this
      simp [val] at hv
      omega
    · exact h
  have HC := hide (cloneU ao n c xs w hs (by omega))
  have HD := hide hs.hdg
  have HLN := hide hs.hlen
  have HV := hide hv
  have HT := hide ht
  clear hs ht hv
  go_enter Try.func28, Try.ntmps28
  go_wp2_with fail
  refine HM.out.mono ?_
  rintro e w1 ⟨rfl, hw⟩
  have hw2 := hw.symm
  subst hw2
  clear hw
  go_wp2_with fail
  refine HC.out.mono ?_
  rintro e w1 ⟨a1, c1, rfl, hO, hB⟩
  go_wp2
  go_ret
  rcases hO.split with ⟨he, hx⟩ | ⟨g', c', he, _⟩
  · have h9 := HLN.out
    rw [hx] at h9
    simp at h9
    omega
  · cases he
    exact ⟨g', _, _, xs, rfl, hO, HD.out, HT.out, hl, hn, HV.out, hB⟩

end Go.Proofs.Ytobdpcmafjhnlaa
