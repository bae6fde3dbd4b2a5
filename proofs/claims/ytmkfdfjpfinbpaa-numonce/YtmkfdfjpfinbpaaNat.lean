/-
  num.Nat lays the content of a natural number into new memory, as the plain function natS says; the reference's Nat as well.
-/
import Derived.Test.YtmkfdfjpfinbpaaBare
namespace Go.Proofs.Ytmkfdfjpfinbpaa
open Go.RowKit Go.IntWalk

set_option maxRecDepth 100000 in
set_option maxHeartbeats 1000000 in
theorem nat_any (ao : Option Addr) (n cap : Nat) (xs : List Int) (w : World) (hs : Src w ao n cap xs) (hn : n ≤ 140737488351232) :
    Calls Try.prog 8 #[.slice ao n cap] w fun e w' => ∃ ao' c', e = .returned (.slice ao' (natS xs).length c') ∧ OwnO w' w.heap.size ao' (natS xs).length c' (natS xs) ∧ Below w.heap.size w w' := by
  have hby := hide hs.hbyt
  have HL := hide hs.hlen
  go_enter Try.func8, Try.ntmps8
  go_wp2_with (first | (at_builtin; refine wpList_appN _ rfl (.tmp 3) (.tmp 4) rfl w.heap.size (.slice (some ⟨w.heap.size, 0, none⟩) 1 1) [0] rfl (OwnB.lit _ [0] _ 1 rfl rfl (Nat.le_refl _) (by decide)) ao n cap xs rfl (hs.alloc _) (n + 1) (by simp [HL.out]) (.inl (by simp)) (by omega) (by simp) ?_; intro g1 c1 w1 ho1 hb1 hl1 hc1 hm1 hg1) | fail)
  refine (shortest_any w.heap.size _ _ _ (0 :: xs) w1 (by intro x hx; simp at hx; rcases hx with rfl | h; omega; exact hby.out x h) ho1.toO).mono ?_
  rintro e w2 ⟨ao', c', rfl, ho2, hd⟩
  go_wp2
  go_ret
  exact ⟨ao', c', rfl, ho2, hd.below (((Below.refl _ _).alloc (Nat.le_refl _) _).grown hg1 (by simp) (by intro k hk; cases hk; exact Nat.le_refl _))⟩

set_option maxRecDepth 100000 in
set_option maxHeartbeats 1000000 in
theorem refNat_any (ao : Option Addr) (n cap : Nat) (xs : List Int) (w : World) (hs : Src w ao n cap xs) (hn : n ≤ 140737488351232) :
    Calls Try.prog 9 #[.slice ao n cap] w fun e w' => ∃ g c', e = .returned (.slice (some ⟨g, 0, none⟩) (natS xs).length c') ∧ OwnB w' w.heap.size (.slice (some ⟨g, 0, none⟩) (natS xs).length c') (natS xs) ∧ Below w.heap.size w w' := by
  have hby := hide hs.hbyt
  have HL := hide hs.hlen
  have hbl := bareS_len xs
  have hbm := hide (bareS_mem xs)
  rw [HL.out] at hbl
  have hcall := hide (bare_any ao n cap xs w hs (by omega))
  rw [natS_eq]
  generalize bareS xs = ys at hcall hbl hbm ⊢
  cases ys with
  | nil =>
    go_enter Try.func9, Try.ntmps9
    go_wp2_with fail
    refine hcall.out.mono ?_
    rintro e w1 ⟨g, c1, rfl, ho, hB⟩
    have hso := hide (ho.toSrc (fun x hx => hby.out x (hbm.out x hx)))
    go_wp2_with (at_builtin; refine wpList_appN _ rfl (.tmp 15) (.tmp 16) rfl w.heap.size (.slice (some ⟨w1.heap.size, 0, none⟩) 1 1) [0] rfl (OwnB.lit _ [0] _ 1 rfl rfl hB.size (by decide)) (some ⟨g, 0, none⟩) 0 c1 [] rfl (hso.out.alloc _) 1 (by simp) (.inl (by simp)) (by omega) (by have := hB.size; simp; omega) ?_; intro g1 c2 w2 ho1 hb1 hl1 hc1 hm1 hg1)
    go_ret
    exact ⟨g1, c2, rfl, ho1, (hB.alloc hB.size _).grown hg1 (by have := hB.size; simp; omega) (by intro k hk; cases hk; exact hB.size)⟩
  | cons y r =>
    obtain ⟨K, hK⟩ : ∃ K, (y :: r).length = K := ⟨_, rfl⟩
    have hlr : K ≠ 0 := by rw [← hK]; simp
    have hk0 : ((K : Int) == 0) = false := by simp [hlr]
    by_cases h1 : 128 ≤ y
    · have e2 := hide (show natR (y :: r) = 0 :: y :: r by show (if 128 ≤ y then 0 :: y :: r else y :: r) = _; rw [if_pos h1])
      rw [e2.out]
      go_enter Try.func9, Try.ntmps9
      go_wp2_with fail
      refine hcall.out.mono ?_
      rintro e w1 ⟨g, c1, rfl, ho, hB⟩
      have hso := hide (ho.toSrc (fun x hx => hby.out x (hbm.out x hx)))
      have hc := ho.cell 0 (by simp)
      simp only [List.getD, List.getElem?_cons_zero, Option.getD_some] at hc
      rw [hK] at ho hso hbl
      go_wp2_with (at_builtin; refine wpList_appN _ rfl (.tmp 15) (.tmp 16) rfl w.heap.size (.slice (some ⟨w1.heap.size, 0, none⟩) 1 1) [0] rfl (OwnB.lit _ [0] _ 1 rfl rfl hB.size (by decide)) (some ⟨g, 0, none⟩) K c1 (y :: r) rfl (hso.out.alloc _) (K + 1) (by rw [List.length_append, hK]; simp; omega) (.inl (by simp)) (by omega) (by have := hB.size; simp; omega) ?_; intro g1 c2 w2 ho1 hb1 hl1 hc1 hm1 hg1)
      go_ret
      rw [show r.length + 1 = K from hK]
      exact ⟨g1, c2, rfl, ho1, (hB.alloc hB.size _).grown hg1 (by have := hB.size; simp; omega) (by intro k hk; cases hk; exact hB.size)⟩
    · have e2 := hide (show natR (y :: r) = y :: r by show (if 128 ≤ y then 0 :: y :: r else y :: r) = _; rw [if_neg h1])
      rw [e2.out]
      go_enter Try.func9, Try.ntmps9
      go_wp2_with fail
      refine hcall.out.mono ?_
      rintro e w1 ⟨g, c1, rfl, ho, hB⟩
      have hso := hide (ho.toSrc (fun x hx => hby.out x (hbm.out x hx)))
      have hc := ho.cell 0 (by simp)
      simp only [List.getD, List.getElem?_cons_zero, Option.getD_some] at hc
      rw [hK] at ho hso hbl
      go_wp2
      go_ret
      rw [show r.length + 1 = K from hK]
      exact ⟨g, c1, rfl, ho, hB⟩

end Go.Proofs.Ytmkfdfjpfinbpaa
