/-
  ModReckons answers true at any modulus and any two numbers, and writes nothing that was there.
-/
import Derived.Test.YtobdpcmafjhnlaaMMade
namespace Go.Proofs.Ytobdpcmafjhnlaa
open Go.RowKit Go.IntWalk

def argX (xs : List Int) : Int := if 64 < (trm xs).length then 0 else val 18446744073709551616 xs
def argE (xs : List Int) : Int := if 64 < (trm xs).length then 3 else 0

theorem Arg.at {w : World} {ao : Option Addr} {n c : Nat} {xs : List Int} (h : SrcG .u64 18446744073709551616 w ao n c xs) : Arg w (.slice ao n c) (argX xs) (argE xs) := by
  unfold argX argE
  by_cases hl : 64 < (trm xs).length
  · rw [if_pos hl, if_pos hl]
    exact .inr ⟨rfl, rfl, _, _, _, xs, rfl, h, hl⟩
  · rw [if_neg hl, if_neg hl]
    exact .inl ⟨rfl, _, _, _, xs, rfl, h, by omega, rfl⟩

theorem Ans.below {w w' : World} {v : Value} {z E : Int} (h : Ans w v z E) (hb : Below w.heap.size w w') : Ans w' v z E := by
  rcases h with ⟨h1, h2⟩ | h
  · exact .inl ⟨h1, h2.below hb⟩
  · exact .inr h

set_option maxRecDepth 100000 in
set_option maxHeartbeats 4000000 in
theorem reckons_walk (a0 : Option Addr) (n0 c0 : Nat) (ls : List Int) (a1 : Option Addr) (n1 c1 : Nat) (xs : List Int) (a2 : Option Addr) (n2 c2 : Nat) (ys : List Int) (w : World) (SL : SrcG .u64 18446744073709551616 w a0 n0 c0 ls) (SA : SrcG .u64 18446744073709551616 w a1 n1 c1 xs) (SB : SrcG .u64 18446744073709551616 w a2 n2 c2 ys) (hn0 : n0 ≤ 17592186043904) (hn1 : n1 ≤ 17592186043904) (hn2 : n2 ≤ 17592186043904) :
    Calls Try.prog 3 #[.slice a0 n0 c0, .slice a1 n1 c1, .slice a2 n2 c2] w fun e w' => e = .returned (.bool true) ∧ Below w.heap.size w w' := by
  have HC := hide (made_arg a0 n0 c0 ls w SL hn0)
  go_enter Try.func3, Try.ntmps3
  go_wp2_with fail
  refine HC.out.mono ?_
  rintro e w1 (⟨rfl, LB⟩ | ⟨mv, nv, M, rfl, HM, NM, LB⟩)
  · go_wp2
    go_ret
    exact ⟨rfl, LB⟩
  · have SA := SA.below LB
    have SB := SB.below LB
    have hM := HM.gt
    obtain ⟨gm, hmv⟩ : ∃ gm, mv = .pointer (some ⟨gm, 0, none⟩) := by obtain ⟨gm, _, h, _⟩ := HM; exact ⟨gm, h⟩
    subst hmv
    have hM0 : 0 < M := by omega
    clear hM SL HC
    obtain ⟨x, hx⟩ : ∃ x, argX xs = x := ⟨_, rfl⟩
    obtain ⟨E, hE⟩ : ∃ x, argE xs = x := ⟨_, rfl⟩
    obtain ⟨y, hy⟩ : ∃ x, argX ys = x := ⟨_, rfl⟩
    obtain ⟨F, hF⟩ : ∃ x, argE ys = x := ⟨_, rfl⟩
    have PA : Hid (∀ (W : World) ao n c, SrcG .u64 18446744073709551616 W ao n c xs → Arg W (.slice ao n c) x E) := by unfold Hid; intro W ao n c h; rw [← hx, ← hE]; exact Arg.at h
    have PB : Hid (∀ (W : World) ao n c, SrcG .u64 18446744073709551616 W ao n c ys → Arg W (.slice ao n c) y F) := by unfold Hid; intro W ao n c h; rw [← hy, ← hF]; exact Arg.at h
    clear hx hE hy hF
    obtain ⟨G, hG⟩ : ∃ G, max E F = G := ⟨_, rfl⟩
    have HG := hide hG
    go_wp2_with fail
    refine (of_arg _ x E _ (PA.out _ _ _ _ SA)).mono ?_
    rintro e w2 ⟨vx, rfl, NX, hB⟩
    have HM := HM.below hB
    have NM := NM.below hB
    have SA := SA.below hB
    have SB := SB.below hB
    have LB := LB.trans (hB.mono LB.size)
    clear hB
    go_wp2_with fail
    refine (of_arg _ y F _ (PB.out _ _ _ _ SB)).mono ?_
    rintro e w3 ⟨vy, rfl, NY, hB⟩
    have HM := HM.below hB
    have NM := NM.below hB
    have SA := SA.below hB
    have SB := SB.below hB
    have LB := LB.trans (hB.mono LB.size)
    have NX := NX.below hB
    clear hB
    go_wp2_with fail
    refine (lent7 _ _ _ xs _ SA hn1).mono ?_
    rintro e w4 ⟨g1, d1, rfl, LA, hB⟩
    have HM := HM.below hB
    have NM := NM.below hB
    have SA := SA.below hB
    have SB := SB.below hB
    have LB := LB.trans (hB.mono LB.size)
    have NX := NX.below hB
    have NY := NY.below hB
    clear hB
    go_wp2_with fail
    refine (lent7 _ _ _ ys _ SB hn2).mono ?_
    rintro e w5 ⟨g2, d2, rfl, LC, hB⟩
    have HM := HM.below hB
    have NM := NM.below hB
    have SA := SA.below hB
    have SB := SB.below hB
    have LB := LB.trans (hB.mono LB.size)
    have NX := NX.below hB
    have NY := NY.below hB
    have LA := LA.below hB
    clear hB
    go_wp2_with fail
    refine (reduce_arg _ _ M x E _ HM (PA.out _ _ _ _ LA.src)).mono ?_
    rintro e wi ⟨va, rfl, AA, hB⟩
    have HM := HM.below hB
    have NM := NM.below hB
    have SA := SA.below hB
    have SB := SB.below hB
    have LB := LB.trans (hB.mono LB.size)
    have NX := NX.below hB
    have NY := NY.below hB
    have LA := LA.below hB
    have LC := LC.below hB
    clear hB
    go_wp2_with fail
    refine (refReduce _ _ M x 256 _ NM NX (by omega) hM0).mono ?_
    rintro e wj ⟨vr, rfl, NR, hB⟩
    have HM := HM.below hB
    have NM := NM.below hB
    have SA := SA.below hB
    have SB := SB.below hB
    have LB := LB.trans (hB.mono LB.size)
    have NX := NX.below hB
    have NY := NY.below hB
    have LA := LA.below hB
    have LC := LC.below hB
    have AA := Ans.below AA hB
    clear hB
    go_wp2_with fail
    refine (is_ans _ _ _ _ 32 _ AA NR (by omega)).mono ?_
    rintro e wk ⟨rfl, hB⟩
    have HM := HM.below hB
    have NM := NM.below hB
    have SA := SA.below hB
    have SB := SB.below hB
    have LB := LB.trans (hB.mono LB.size)
    have NX := NX.below hB
    have NY := NY.below hB
    have LA := LA.below hB
    have LC := LC.below hB
    clear hB AA NR
    go_wp2_with fail
    refine (add_arg _ _ _ M x y E F _ HM (PA.out _ _ _ _ LA.src) (PB.out _ _ _ _ LC.src)).mono ?_
    rintro e wi ⟨va, rfl, AA, hB⟩
    have HM := HM.below hB
    have NM := NM.below hB
    have SA := SA.below hB
    have SB := SB.below hB
    have LB := LB.trans (hB.mono LB.size)
    have NX := NX.below hB
    have NY := NY.below hB
    have LA := LA.below hB
    have LC := LC.below hB
    clear hB
    rw [HG.out] at AA ⊢
    go_wp2_with fail
    refine (refAdd7 _ _ _ M x y 256 256 _ NM NX NY (by omega) (by omega) hM0).mono ?_
    rintro e wj ⟨vr, rfl, NR, hB⟩
    have HM := HM.below hB
    have NM := NM.below hB
    have SA := SA.below hB
    have SB := SB.below hB
    have LB := LB.trans (hB.mono LB.size)
    have NX := NX.below hB
    have NY := NY.below hB
    have LA := LA.below hB
    have LC := LC.below hB
    have AA := Ans.below AA hB
    clear hB
    go_wp2_with fail
    refine (is_ans _ _ _ _ 32 _ AA NR (by omega)).mono ?_
    rintro e wk ⟨rfl, hB⟩
    have HM := HM.below hB
    have NM := NM.below hB
    have SA := SA.below hB
    have SB := SB.below hB
    have LB := LB.trans (hB.mono LB.size)
    have NX := NX.below hB
    have NY := NY.below hB
    have LA := LA.below hB
    have LC := LC.below hB
    clear hB AA NR
    go_wp2_with fail
    refine (sub_arg _ _ _ M x y E F _ HM (PA.out _ _ _ _ LA.src) (PB.out _ _ _ _ LC.src)).mono ?_
    rintro e wi ⟨va, rfl, AA, hB⟩
    have HM := HM.below hB
    have NM := NM.below hB
    have SA := SA.below hB
    have SB := SB.below hB
    have LB := LB.trans (hB.mono LB.size)
    have NX := NX.below hB
    have NY := NY.below hB
    have LA := LA.below hB
    have LC := LC.below hB
    clear hB
    rw [HG.out] at AA ⊢
    go_wp2_with fail
    refine (refSub7 _ _ _ M x y 256 256 _ NM NX NY (by omega) (by omega) hM0).mono ?_
    rintro e wj ⟨vr, rfl, NR, hB⟩
    have HM := HM.below hB
    have NM := NM.below hB
    have SA := SA.below hB
    have SB := SB.below hB
    have LB := LB.trans (hB.mono LB.size)
    have NX := NX.below hB
    have NY := NY.below hB
    have LA := LA.below hB
    have LC := LC.below hB
    have AA := Ans.below AA hB
    clear hB
    go_wp2_with fail
    refine (is_ans _ _ _ _ 32 _ AA NR (by omega)).mono ?_
    rintro e wk ⟨rfl, hB⟩
    have HM := HM.below hB
    have NM := NM.below hB
    have SA := SA.below hB
    have SB := SB.below hB
    have LB := LB.trans (hB.mono LB.size)
    have NX := NX.below hB
    have NY := NY.below hB
    have LA := LA.below hB
    have LC := LC.below hB
    clear hB AA NR
    go_wp2_with fail
    refine (mul_arg _ _ _ M x y E F _ HM (PA.out _ _ _ _ LA.src) (PB.out _ _ _ _ LC.src)).mono ?_
    rintro e wi ⟨va, rfl, AA, hB⟩
    have HM := HM.below hB
    have NM := NM.below hB
    have SA := SA.below hB
    have SB := SB.below hB
    have LB := LB.trans (hB.mono LB.size)
    have NX := NX.below hB
    have NY := NY.below hB
    have LA := LA.below hB
    have LC := LC.below hB
    clear hB
    rw [HG.out] at AA ⊢
    go_wp2_with fail
    refine (refMul7 _ _ _ M x y 256 256 _ NM NX NY (by omega) (by omega) hM0).mono ?_
    rintro e wj ⟨vr, rfl, NR, hB⟩
    have HM := HM.below hB
    have NM := NM.below hB
    have SA := SA.below hB
    have SB := SB.below hB
    have LB := LB.trans (hB.mono LB.size)
    have NX := NX.below hB
    have NY := NY.below hB
    have LA := LA.below hB
    have LC := LC.below hB
    have AA := Ans.below AA hB
    clear hB
    go_wp2_with fail
    refine (is_ans _ _ _ _ 32 _ AA NR (by omega)).mono ?_
    rintro e wk ⟨rfl, hB⟩
    have HM := HM.below hB
    have NM := NM.below hB
    have SA := SA.below hB
    have SB := SB.below hB
    have LB := LB.trans (hB.mono LB.size)
    have NX := NX.below hB
    have NY := NY.below hB
    have LA := LA.below hB
    have LC := LC.below hB
    clear hB AA NR
    go_wp2_with fail
    refine (kept7 _ _ _ _ _ _ xs _ LA SA hn1).mono ?_
    rintro e wk ⟨rfl, hD⟩
    have LC := LC.drew hD
    have SB := hD.src SB
    have LB := hD.below LB
    go_wp2_with fail
    refine (kept7 _ _ _ _ _ _ ys _ LC SB hn2).mono ?_
    rintro e wl ⟨rfl, hD⟩
    have LB := hD.below LB
    go_wp2
    go_ret
    exact ⟨rfl, LB⟩

end Go.Proofs.Ytobdpcmafjhnlaa
