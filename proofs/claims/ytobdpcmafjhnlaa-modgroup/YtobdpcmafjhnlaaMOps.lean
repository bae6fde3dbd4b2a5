/-
  mod's Reduce, Add, Sub, Mul: what they answer of any numbers, refused or not.
-/
import Derived.Test.YtobdpcmafjhnlaaMBase
namespace Go.Proofs.Ytobdpcmafjhnlaa
open Go.RowKit Go.IntWalk

/-- An argument: a number that may be (E is 0), or one that is too long (E is 3; x is 0 then). -/
def Arg (w : World) (v : Value) (x E : Int) : Prop := (E = 0 ∧ NumU w v x 64) ∨ (E = 3 ∧ x = 0 ∧ ∃ ao n c xs, v = .slice ao n c ∧ SrcG .u64 18446744073709551616 w ao n c xs ∧ 64 < (trm xs).length)

theorem Arg.below {w w' : World} {v : Value} {x E : Int} (h : Arg w v x E) (hb : Below w.heap.size w w') : Arg w' v x E := by
  rcases h with ⟨h1, h2⟩ | ⟨h1, h0, ao, n, c, xs, h2, h3, h4⟩
  · exact .inl ⟨h1, h2.below hb⟩
  · exact .inr ⟨h1, h0, ao, n, c, xs, h2, h3.below hb, h4⟩

theorem Arg.drew {w w' : World} {v : Value} {x E : Int} (h : Arg w v x E) (hb : Drew w w') : Arg w' v x E := h.below (hb.toBelow _)

theorem Arg.heap {w w' : World} {v : Value} {x E : Int} (h : Arg w v x E) (e : w'.heap = w.heap) : Arg w' v x E := by
  rcases h with ⟨h1, h2⟩ | ⟨h1, h0, ao, n, c, xs, h2, h3, h4⟩
  · exact .inl ⟨h1, h2.heap e⟩
  · exact .inr ⟨h1, h0, ao, n, c, xs, h2, h3.heap e, h4⟩

theorem Arg.of {w : World} {ao : Option Addr} {n c : Nat} {xs : List Int} (h : SrcG .u64 18446744073709551616 w ao n c xs) : ∃ x E, Arg w (.slice ao n c) x E := by
  by_cases hl : 64 < (trm xs).length
  · exact ⟨0, 3, .inr ⟨rfl, rfl, _, _, _, xs, rfl, h, hl⟩⟩
  · exact ⟨val 18446744073709551616 xs, 0, .inl ⟨rfl, _, _, _, xs, rfl, h, by omega, rfl⟩⟩

theorem Arg.num {w : World} {v : Value} {x : Int} {L : Nat} (h : NumU w v x L) (hL : L ≤ 64) : Arg w v x 0 := .inl ⟨rfl, h.wide 64 hL⟩

/-- An answer: a number (E is 0), or nothing. -/
def Ans (w : World) (v : Value) (z E : Int) : Prop := (E = 0 ∧ NumT w v z 8) ∨ (E ≠ 0 ∧ v = .slice none 0 0)

set_option maxRecDepth 100000 in
theorem reduce_arg (mv v1 : Value) (M x E : Int) (w : World) (hm : ModU w mv M) (h1 : Arg w v1 x E) :
    Calls Try.prog 12 #[mv, v1] w fun e w' => ∃ v, e = .returned (.tuple #[v, .int .i64 E]) ∧ Ans w' v (x % M) E ∧ Below w.heap.size w w' := by
  have HM := hide (made_true mv M w hm)
  rcases h1 with ⟨rfl, h2⟩ | ⟨rfl, rfl, ao, n, c, xs, rfl, h3, h4⟩
  · obtain ⟨g, s, rfl, hc, hs, hM⟩ := hm
    have HC := hide (divT v1 s x M 64 8 w h2 hs.num (by omega) (by omega) (by omega))
    go_enter Try.func12, Try.ntmps12
    go_wp2_with fail
    refine HM.out.mono ?_
    rintro e w1 ⟨rfl, hw⟩
    have hw2 := hw.symm
    subst hw2
    clear hw
    go_wp2_with fail
    refine HC.out.mono ?_
    rintro e w1 ⟨u1, u2, rfl, N1, N2, hB⟩
    go_wp2
    go_ret2
    exact ⟨u2, rfl, .inl ⟨rfl, N2⟩, hB⟩
  · obtain ⟨g, s, rfl, hc, ⟨a2, n2, c2, ys, rfl, s2, _⟩, hM⟩ := hm
    have HC := hide (div_long ao n c xs a2 n2 c2 ys w h3 s2 (.inl h4))
    go_enter Try.func12, Try.ntmps12
    go_wp2_with fail
    refine HM.out.mono ?_
    rintro e w1 ⟨rfl, hw⟩
    have hw2 := hw.symm
    subst hw2
    clear hw
    go_wp2_with fail
    refine HC.out.mono ?_
    rintro e w1 ⟨rfl, hw⟩
    have hw2 := hw.symm
    subst hw2
    clear hw
    go_wp2
    go_ret2
    exact ⟨_, rfl, .inr ⟨by decide, rfl⟩, Below.refl _ _⟩


set_option maxRecDepth 100000 in
theorem reckon_plus (z : Int) (mv v1 v2 : Value) (M x y E F : Int) (w : World) (hm : ModU w mv M) (h1 : Arg w v1 x E) (h2 : Arg w v2 y F)
    (hf : ∀ u1 u2 W, ModU W mv M → NumU W u1 (x % M) 8 → NumU W u2 (y % M) 8 → Calls Try.prog 41 #[mv, u1, u2] W fun e w' => ∃ v, e = .returned v ∧ NumT w' v z 8 ∧ Below W.heap.size W w') :
    Calls Try.prog 40 #[mv, v1, v2, .func (.func 41) #[mv] #[]] w fun e w' => ∃ v, e = .returned (.tuple #[v, .int .i64 (max E F)]) ∧ Ans w' v z (max E F) ∧ Below w.heap.size w w' := by
  have HF := hide hf
  clear hf
  by_cases hE : E = 0
  · subst hE
    go_enter Try.func40, Try.ntmps40
    go_wp2_with fail
    refine (reduce_arg mv v1 M x 0 _ hm h1).mono ?_
    rintro e w1 ⟨u1, rfl, A1, hB1⟩
    rcases A1 with ⟨_, N1⟩ | ⟨h, _⟩
    · have hm1 := hm.below hB1
      have h21 := h2.below hB1
      by_cases hF : F = 0
      · subst hF
        go_wp2_with fail
        refine (reduce_arg mv v2 M y 0 _ hm1 h21).mono ?_
        rintro e w2 ⟨u2, rfl, A2, hB2⟩
        rcases A2 with ⟨_, N2⟩ | ⟨h, _⟩
        · go_wp2_with fail
          refine (HF.out u1 u2 w2 (hm1.below hB2) (N1.num.below hB2) N2.num).mono ?_
          rintro e w3 ⟨u3, rfl, N3, hB3⟩
          go_wp2
          go_ret2
          have hB := hB1.trans (hB2.mono hB1.size)
          exact ⟨u3, rfl, .inl ⟨rfl, N3⟩, hB.trans (hB3.mono hB.size)⟩
        · exact absurd rfl h
      · have hF3 : F = 3 := by
          rcases h2 with ⟨h, _⟩ | ⟨h, _⟩
          · exact absurd h hF
          · exact h
        subst hF3
        go_wp2_with fail
        refine (reduce_arg mv v2 M y 3 _ hm1 h21).mono ?_
        rintro e w2 ⟨u2, rfl, A2, hB2⟩
        go_wp2
        go_ret2
        exact ⟨_, rfl, .inr ⟨by decide, rfl⟩, hB1.trans (hB2.mono hB1.size)⟩
    · exact absurd rfl h
  · have hE3 : E = 3 := by
      rcases h1 with ⟨h, _⟩ | ⟨h, _⟩
      · exact absurd h hE
      · exact h
    subst hE3
    have hmx : max 3 F = 3 := by
      rcases h2 with ⟨h, _⟩ | ⟨h, _⟩ <;> subst h <;> decide
    rw [hmx]
    clear hmx
    go_enter Try.func40, Try.ntmps40
    go_wp2_with fail
    refine (reduce_arg mv v1 M x 3 _ hm h1).mono ?_
    rintro e w1 ⟨u1, rfl, A1, hB1⟩
    go_wp2
    go_ret2
    exact ⟨_, rfl, .inr ⟨by decide, rfl⟩, hB1⟩

set_option maxRecDepth 100000 in
theorem reckon_minus (z : Int) (mv v1 v2 : Value) (M x y E F : Int) (w : World) (hm : ModU w mv M) (h1 : Arg w v1 x E) (h2 : Arg w v2 y F)
    (hf : ∀ u1 u2 W, ModU W mv M → NumU W u1 (x % M) 8 → NumU W u2 (y % M) 8 → Calls Try.prog 43 #[mv, u1, u2] W fun e w' => ∃ v, e = .returned v ∧ NumT w' v z 8 ∧ Below W.heap.size W w') :
    Calls Try.prog 40 #[mv, v1, v2, .func (.func 43) #[mv] #[]] w fun e w' => ∃ v, e = .returned (.tuple #[v, .int .i64 (max E F)]) ∧ Ans w' v z (max E F) ∧ Below w.heap.size w w' := by
  have HF := hide hf
  clear hf
  by_cases hE : E = 0
  · subst hE
    go_enter Try.func40, Try.ntmps40
    go_wp2_with fail
    refine (reduce_arg mv v1 M x 0 _ hm h1).mono ?_
    rintro e w1 ⟨u1, rfl, A1, hB1⟩
    rcases A1 with ⟨_, N1⟩ | ⟨h, _⟩
    · have hm1 := hm.below hB1
      have h21 := h2.below hB1
      by_cases hF : F = 0
      · subst hF
        go_wp2_with fail
        refine (reduce_arg mv v2 M y 0 _ hm1 h21).mono ?_
        rintro e w2 ⟨u2, rfl, A2, hB2⟩
        rcases A2 with ⟨_, N2⟩ | ⟨h, _⟩
        · go_wp2_with fail
          refine (HF.out u1 u2 w2 (hm1.below hB2) (N1.num.below hB2) N2.num).mono ?_
          rintro e w3 ⟨u3, rfl, N3, hB3⟩
          go_wp2
          go_ret2
          have hB := hB1.trans (hB2.mono hB1.size)
          exact ⟨u3, rfl, .inl ⟨rfl, N3⟩, hB.trans (hB3.mono hB.size)⟩
        · exact absurd rfl h
      · have hF3 : F = 3 := by
          rcases h2 with ⟨h, _⟩ | ⟨h, _⟩
          · exact absurd h hF
          · exact h
        subst hF3
        go_wp2_with fail
        refine (reduce_arg mv v2 M y 3 _ hm1 h21).mono ?_
        rintro e w2 ⟨u2, rfl, A2, hB2⟩
        go_wp2
        go_ret2
        exact ⟨_, rfl, .inr ⟨by decide, rfl⟩, hB1.trans (hB2.mono hB1.size)⟩
    · exact absurd rfl h
  · have hE3 : E = 3 := by
      rcases h1 with ⟨h, _⟩ | ⟨h, _⟩
      · exact absurd h hE
      · exact h
    subst hE3
    have hmx : max 3 F = 3 := by
      rcases h2 with ⟨h, _⟩ | ⟨h, _⟩ <;> subst h <;> decide
    rw [hmx]
    clear hmx
    go_enter Try.func40, Try.ntmps40
    go_wp2_with fail
    refine (reduce_arg mv v1 M x 3 _ hm h1).mono ?_
    rintro e w1 ⟨u1, rfl, A1, hB1⟩
    go_wp2
    go_ret2
    exact ⟨_, rfl, .inr ⟨by decide, rfl⟩, hB1⟩

set_option maxRecDepth 100000 in
theorem reckon_times (z : Int) (mv v1 v2 : Value) (M x y E F : Int) (w : World) (hm : ModU w mv M) (h1 : Arg w v1 x E) (h2 : Arg w v2 y F)
    (hf : ∀ u1 u2 W, ModU W mv M → NumU W u1 (x % M) 8 → NumU W u2 (y % M) 8 → Calls Try.prog 45 #[mv, u1, u2] W fun e w' => ∃ v, e = .returned v ∧ NumT w' v z 8 ∧ Below W.heap.size W w') :
    Calls Try.prog 40 #[mv, v1, v2, .func (.func 45) #[mv] #[]] w fun e w' => ∃ v, e = .returned (.tuple #[v, .int .i64 (max E F)]) ∧ Ans w' v z (max E F) ∧ Below w.heap.size w w' := by
  have HF := hide hf
  clear hf
  by_cases hE : E = 0
  · subst hE
    go_enter Try.func40, Try.ntmps40
    go_wp2_with fail
    refine (reduce_arg mv v1 M x 0 _ hm h1).mono ?_
    rintro e w1 ⟨u1, rfl, A1, hB1⟩
    rcases A1 with ⟨_, N1⟩ | ⟨h, _⟩
    · have hm1 := hm.below hB1
      have h21 := h2.below hB1
      by_cases hF : F = 0
      · subst hF
        go_wp2_with fail
        refine (reduce_arg mv v2 M y 0 _ hm1 h21).mono ?_
        rintro e w2 ⟨u2, rfl, A2, hB2⟩
        rcases A2 with ⟨_, N2⟩ | ⟨h, _⟩
        · go_wp2_with fail
          refine (HF.out u1 u2 w2 (hm1.below hB2) (N1.num.below hB2) N2.num).mono ?_
          rintro e w3 ⟨u3, rfl, N3, hB3⟩
          go_wp2
          go_ret2
          have hB := hB1.trans (hB2.mono hB1.size)
          exact ⟨u3, rfl, .inl ⟨rfl, N3⟩, hB.trans (hB3.mono hB.size)⟩
        · exact absurd rfl h
      · have hF3 : F = 3 := by
          rcases h2 with ⟨h, _⟩ | ⟨h, _⟩
          · exact absurd h hF
          · exact h
        subst hF3
        go_wp2_with fail
        refine (reduce_arg mv v2 M y 3 _ hm1 h21).mono ?_
        rintro e w2 ⟨u2, rfl, A2, hB2⟩
        go_wp2
        go_ret2
        exact ⟨_, rfl, .inr ⟨by decide, rfl⟩, hB1.trans (hB2.mono hB1.size)⟩
    · exact absurd rfl h
  · have hE3 : E = 3 := by
      rcases h1 with ⟨h, _⟩ | ⟨h, _⟩
      · exact absurd h hE
      · exact h
    subst hE3
    have hmx : max 3 F = 3 := by
      rcases h2 with ⟨h, _⟩ | ⟨h, _⟩ <;> subst h <;> decide
    rw [hmx]
    clear hmx
    go_enter Try.func40, Try.ntmps40
    go_wp2_with fail
    refine (reduce_arg mv v1 M x 3 _ hm h1).mono ?_
    rintro e w1 ⟨u1, rfl, A1, hB1⟩
    go_wp2
    go_ret2
    exact ⟨_, rfl, .inr ⟨by decide, rfl⟩, hB1⟩


set_option maxRecDepth 100000 in
theorem add_arg (mv v1 v2 : Value) (M x y E F : Int) (w : World) (hm : ModU w mv M) (h1 : Arg w v1 x E) (h2 : Arg w v2 y F) :
    Calls Try.prog 15 #[mv, v1, v2] w fun e w' => ∃ v, e = .returned (.tuple #[v, .int .i64 (max E F)]) ∧ Ans w' v ((x + y) % M) (max E F) ∧ Below w.heap.size w w' := by
  have hM := hm.gt
  have HC := reckon_plus (((x % M) + (y % M)) % M) mv v1 v2 M x y E F w hm h1 h2 (fun u1 u2 W m1 n1 n2 => plus_num mv u1 u2 M _ _ W m1 n1 n2)
  rw [← Int.add_emod] at HC
  obtain ⟨G, hG⟩ : ∃ G, max E F = G := ⟨_, rfl⟩
  rw [hG] at HC ⊢
  clear hG
  have HC := hide HC
  go_enter Try.func15, Try.ntmps15
  go_wp2_with fail
  refine HC.out.mono ?_
  rintro e w1 ⟨v, rfl, A, hB⟩
  go_wp2
  go_ret2
  exact ⟨v, rfl, A, hB⟩

set_option maxRecDepth 100000 in
theorem sub_arg (mv v1 v2 : Value) (M x y E F : Int) (w : World) (hm : ModU w mv M) (h1 : Arg w v1 x E) (h2 : Arg w v2 y F) :
    Calls Try.prog 17 #[mv, v1, v2] w fun e w' => ∃ v, e = .returned (.tuple #[v, .int .i64 (max E F)]) ∧ Ans w' v ((x - y) % M) (max E F) ∧ Below w.heap.size w w' := by
  have hM := hm.gt
  have HC := reckon_minus (((x % M) - (y % M)) % M) mv v1 v2 M x y E F w hm h1 h2 (fun u1 u2 W m1 n1 n2 => minus_num mv u1 u2 M _ _ W m1 n1 n2 (Int.emod_lt_of_pos _ (by omega)) (Int.emod_lt_of_pos _ (by omega)))
  rw [← Int.sub_emod] at HC
  obtain ⟨G, hG⟩ : ∃ G, max E F = G := ⟨_, rfl⟩
  rw [hG] at HC ⊢
  clear hG
  have HC := hide HC
  go_enter Try.func17, Try.ntmps17
  go_wp2_with fail
  refine HC.out.mono ?_
  rintro e w1 ⟨v, rfl, A, hB⟩
  go_wp2
  go_ret2
  exact ⟨v, rfl, A, hB⟩

set_option maxRecDepth 100000 in
theorem mul_arg (mv v1 v2 : Value) (M x y E F : Int) (w : World) (hm : ModU w mv M) (h1 : Arg w v1 x E) (h2 : Arg w v2 y F) :
    Calls Try.prog 19 #[mv, v1, v2] w fun e w' => ∃ v, e = .returned (.tuple #[v, .int .i64 (max E F)]) ∧ Ans w' v ((x * y) % M) (max E F) ∧ Below w.heap.size w w' := by
  have hM := hm.gt
  have HC := reckon_times (((x % M) * (y % M)) % M) mv v1 v2 M x y E F w hm h1 h2 (fun u1 u2 W m1 n1 n2 => times_num mv u1 u2 M _ _ W m1 n1 n2)
  rw [← Int.mul_emod] at HC
  obtain ⟨G, hG⟩ : ∃ G, max E F = G := ⟨_, rfl⟩
  rw [hG] at HC ⊢
  clear hG
  have HC := hide HC
  go_enter Try.func19, Try.ntmps19
  go_wp2_with fail
  refine HC.out.mono ?_
  rintro e w1 ⟨v, rfl, A, hB⟩
  go_wp2
  go_ret2
  exact ⟨v, rfl, A, hB⟩

end Go.Proofs.Ytobdpcmafjhnlaa
