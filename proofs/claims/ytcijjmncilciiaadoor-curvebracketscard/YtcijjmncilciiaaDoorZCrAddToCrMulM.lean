/-
  The document's Add.
  The words of the document's Mul: plain facts.
-/
import Derived.Test.YtcijjmncilciiaaDoorZCrSub
namespace Go.Proofs.YtcijjmncilciiaaDoor
open Go.RowKit Go.IntWalk
attribute [local go_sem ↓] ld_F st_F eq_F

theorem add_zero_pa {x : Int} (h0 : 0 ≤ x) (h1 : x < PP) : pa x 0 = x := by unfold pa; rw [Int.add_zero]; exact Int.emod_eq_of_lt h0 h1
theorem add_lack (x y : Int) : ps x (PP - y) = pa x y := by
  unfold ps pa
  rw [show x - (PP - y) = x + y + PP * (-1) by omega, Int.add_mul_emod_self_left]

/-- What stays while a sum is reckoned. -/
structure Ks (w : World) (gf : Nat) (LA LB : List Value) (W : World) : Prop where
  ka : Blk 80 W w.heap.size LA
  kb : Blk 80 W (w.heap.size + 1) LB
  kz : Blk 80 W (w.heap.size + 1 + 1) (fV z8)
  fm : FM W gf
  gl : gf < w.heap.size
  bl : Below w.heap.size w W

theorem Ks.below {w W V : World} {gf : Nat} {LA LB : List Value} (h : Ks w gf LA LB W) (b : Below W.heap.size W V) : Ks w gf LA LB V := ⟨h.ka.below b, h.kb.below b, h.kz.below b, h.fm.below b, h.gl, below_then h.bl b⟩
theorem Ks.drew {w W : World} {gf : Nat} {LA LB : List Value} (h : Ks w gf LA LB W) : Ks w gf LA LB W.drew := ⟨h.ka.heap rfl, h.kb.heap rfl, h.kz.heap rfl, h.fm.heap rfl, h.gl, Drew.below (by exact ⟨rfl, rfl, rfl, rfl⟩) h.bl⟩
theorem Ks.alloc {w W : World} {gf : Nat} {LA LB : List Value} (h : Ks w gf LA LB W) (o : Obj) : Ks w gf LA LB (W.alloc o) := h.below (below1 W o)
theorem Ks.sets {w W : World} {gf : Nat} {LA LB : List Value} (h : Ks w gf LA LB W) {k : Nat} (hk : w.heap.size + 1 + 1 < k) (o : Nat) (vs : List Value) : Ks w gf LA LB (W.setCells k o vs) :=
  ⟨h.ka.other (by omega), h.kb.other (by omega), h.kz.other (by omega), h.fm.kept (gSets k vs o W).1 (by have := h.gl; omega), h.gl, below_sets h.bl (by omega) h.bl.size _ _⟩

set_option maxRecDepth 100000 in
set_option maxHeartbeats 2000000 in
theorem radd_any (gf : Nat) (A B : List Int) (x y : Int) (hA : Fw A x) (hB : Fw B y) (hx : x < PP) (hy : y < PP) (w : World) (hF : FM w gf) :
    Calls Tryd.prog 42 #[.pointer (some ⟨gf, 0, none⟩), .agg (fV A).toArray, .agg (fV B).toArray] w (Rf (pa x y) w) := by
  have HA := hide hA
  have HB := hide hB
  have honeA : ∀ u ∈ fV A, u.oneCell' = true := ints_one A .u64
  have honeB : ∀ u ∈ fV B, u.oneCell' = true := ints_one B .u64
  have KA0 := hide (W3_a w (fV A) (fV B) (fV z8) 80 80 80)
  have KB0 := hide (W3_b w (fV A) (fV B) (fV z8) 80 80 80)
  have KZ0 := hide (W3_c w (fV A) (fV B) (fV z8) 80 80 80)
  have U0 := hide (W3_w w (fV A) (fV B) (fV z8) 80 80 80)
  have F0 := hide (hF.below U0.out)
  have la := ldF hA.len KA0.out
  have lb := ldF hB.len KB0.out
  have HZR : Hid (∀ W, Calls Tryd.prog 70 #[.agg (fV B).toArray] W fun e w' => e = .returned (.bool (decide (y = 0))) ∧ Below W.heap.size W w') := fun W => rzero_any B y hB W
  have HM : Hid (∀ W, Calls Tryd.prog 69 #[.agg (fV pW).toArray, .agg (fV B).toArray] W (Rm PP y W)) := fun W => rminus_any pW B PP y fw_pW hB W
  have hxb := hA.bd
  have hyb := hB.bd
  have HX : Hid (0 ≤ x ∧ x < PP ∧ 0 ≤ y ∧ y < PP) := ⟨hxb.1, hx, hyb.1, hy⟩
  have HLA : Hid (∀ W, Blk 80 W w.heap.size (fV A) → (ldA 80 (.pointer (some ⟨w.heap.size, 0, none⟩))).run Tryd.prog W = .ok (.agg (fV A).toArray) W) := fun W h => ldF hA.len h
  have HLB : Hid (∀ W, Blk 80 W (w.heap.size + 1) (fV B) → (ldA 80 (.pointer (some ⟨w.heap.size + 1, 0, none⟩))).run Tryd.prog W = .ok (.agg (fV B).toArray) W) := fun W h => ldF hB.len h
  have HSA : Hid (∀ W (K : Nat), Blk 80 W K (fV z8) → (stA 80 (.pointer (some ⟨K, 0, none⟩)) (.agg (fV A).toArray)).run Tryd.prog W = .ok () (W.setCells K 0 (fV A))) := fun W K h => stF8 hA.len h rfl
  have HSUB : Hid (∀ (R : List Int) (z : Int), Fw R z → z < PP → ∀ W, FM W gf → Calls Tryd.prog 41 #[.pointer (some ⟨gf, 0, none⟩), .agg (fV A).toArray, .agg (fV R).toArray] W (Rf (ps x z) W)) := fun R z hR hz W hW => rsub_any gf A R x z hA hR hx hz W hW
  generalize hLB : fV B = LB at *
  have hz : (fV z8) = [.int .u64 0, .int .u64 0, .int .u64 0, .int .u64 0, .int .u64 0, .int .u64 0, .int .u64 0, .int .u64 0] := rfl
  simp only [W3, hz] at la lb
  have HGL := hide hF.lt
  clear hB hx hy hF hxb hyb hz hLB
  by_cases h0 : y = 0
  · have HDC : Hid (decide (y = 0) = true) := decide_eq_true h0
    have HE : Hid (pa x y = x) := by unfold Hid; rw [h0]; exact add_zero_pa HX.out.1 HX.out.2.1
    have HFA : Hid (Fw A (pa x y)) := by unfold Hid; rw [HE.out]; exact hA
    generalize hLA : fV A = LA at *
    clear h0 hA HM HSUB
    go_enter Tryd.func42, Tryd.ntmps42
    go_wp2_with fail
    refine (HZR.out _).mono ?_
    rintro e w1 ⟨rfl, LW⟩
    rw [HDC.out]
    have K1 := hide (KA0.out.below LW)
    have Z1 := hide (KZ0.out.below LW)
    have U1 := hide (below_then U0.out LW)
    have l1 := HLA.out _ K1.out
    have s1 := HSA.out _ _ Z1.out
    have HLL := hide hLA
    clear LW hLA
    go_wp2
    have := HLL.out
    subst this
    exact retF (p := 6) (by kernel_rfl) rfl Z1.out rfl HFA.out U1.out (by omega)
  · have HDC : Hid (decide (y = 0) = false) := decide_eq_false h0
    have HY0 := hide h0
    generalize hLA : fV A = LA at *
    clear h0 hA
    go_enter Tryd.func42, Tryd.ntmps42
    go_wp2_with fail
    refine (HZR.out _).mono ?_
    rintro e w1 ⟨rfl, LW⟩
    rw [HDC.out]
    have S1 : Ks w gf LA LB w1 := ⟨KA0.out.below LW, KB0.out.below LW, KZ0.out.below LW, F0.out.below LW, HGL.out, below_then U0.out LW⟩
    clear LW la lb hLA
    go_wp2
    refine wp_region_held_drew (S := Ks w gf LA LB) (by kernel_rfl) S1.drew (fun hS0 => ?_)
    generalize w1.drew = V at hS0 ⊢
    clear S1
    refine wpAnyH_take (i := 0) (v := ?_) rfl (by kernel_rfl) (by kernel_rfl) (by kernel_rfl) (fun _ _ _ h => h) (Or.inl ⟨by rfl, ?_⟩) (by assumption) ?_
    rotate_left
    · intro wq hSq
      go_simp
      try with_reducible rfl
    simp only [List.getElem_toArray, List.getElem_cons_zero, Act.put, List.setIfInBounds_toArray, List.set_cons_zero, List.set_cons_succ]
    refine wpAnyH_take (i := 1) (v := ?_) rfl (by kernel_rfl) (by kernel_rfl) (by kernel_rfl) (fun _ _ _ h => h) (Or.inl ⟨by rfl, ?_⟩) (by assumption) ?_
    rotate_left
    · intro wq hSq
      have hlq := hSq.fm.ld
      have hlb := HLB.out wq hSq.kb
      go_simp
      try with_reducible rfl
    simp only [List.getElem_toArray, List.getElem_cons_succ, List.getElem_cons_zero, Act.put, List.setIfInBounds_toArray, List.set_cons_zero, List.set_cons_succ]
    refine wpAnyH_take (i := 2) (v := ?_) rfl (by kernel_rfl) (by kernel_rfl) (by kernel_rfl) (fun _ _ _ h => h) (Or.inl ⟨by rfl, ?_⟩) (by assumption) ?_
    rotate_left
    · intro wq hSq
      have hlq := hSq.fm.ld
      have hlb := HLB.out wq hSq.kb
      go_simp
      try with_reducible rfl
    simp only [List.getElem_toArray, List.getElem_cons_succ, List.getElem_cons_zero, Act.put, List.setIfInBounds_toArray, List.set_cons_zero, List.set_cons_succ]
    refine wpAnyH_take (i := 3) (v := ?_) rfl (by kernel_rfl) (by kernel_rfl) (by kernel_rfl) (fun _ _ _ h => h) (Or.inl ⟨by rfl, ?_⟩) (by assumption) ?_
    rotate_left
    · intro wq hSq
      have hlq := hSq.fm.ld
      have hlb := HLB.out wq hSq.kb
      go_simp
      try with_reducible rfl
    simp only [List.getElem_toArray, List.getElem_cons_succ, List.getElem_cons_zero, Act.put, List.setIfInBounds_toArray, List.set_cons_zero, List.set_cons_succ]
    refine wpAnyH_take (i := 4) (v := ?_) rfl (by kernel_rfl) (by kernel_rfl) (by kernel_rfl) (fun _ _ _ h => h) (Or.inl ⟨by rfl, ?_⟩) (by assumption) ?_
    rotate_left
    · intro wq hSq
      have hlq := hSq.fm.ld
      have hlb := HLB.out wq hSq.kb
      go_simp
      try with_reducible rfl
    simp only [List.getElem_toArray, List.getElem_cons_succ, List.getElem_cons_zero, Act.put, List.setIfInBounds_toArray, List.set_cons_zero, List.set_cons_succ]
    refine wpAnyH_ready (rs := [5, 9]) (by kernel_rfl) (by simp) ?_
    refine AllReadyH.cons rfl (fun Kq hKq => ?_) (AllReadyH.cons rfl (fun Kq hKq => ?_) AllReadyH.nil)
    · go_simp
      refine (HM.out _).mono ?_
      rintro e w2 ⟨R, rfl, hR, LW⟩
      have hnl : ¬ PP < y := by have := HX.out; omega
      rw [if_neg hnl, Int.add_zero] at hR
      have hS2 := (hS0).below LW
      have LW2 := hide LW
      clear LW
      refine hKq.out _ _ hS2 (fun _ => ?_)
      clear hKq Kq
      refine wpAnyH_take (i := 6) (v := ?_) rfl (by kernel_rfl) (by kernel_rfl) (by kernel_rfl) (fun _ _ _ h => h) (Or.inl ⟨by rfl, ?_⟩) (by assumption) ?_
      rotate_left
      · intro wq hSq
        have hlq := hSq.fm.ld
        have hlb := HLB.out wq hSq.kb
        go_simp
        try with_reducible rfl
      simp only [List.getElem_toArray, List.getElem_cons_succ, List.getElem_cons_zero, Act.put, List.setIfInBounds_toArray, List.set_cons_zero, List.set_cons_succ]
      refine wpAnyH_take (i := 7) (v := ?_) rfl (by kernel_rfl) (by kernel_rfl) (by kernel_rfl) (fun _ _ _ h => h) (Or.inl ⟨by rfl, ?_⟩) (by assumption) ?_
      rotate_left
      · intro wq hSq
        have hlq := hSq.fm.ld
        have hlb := HLB.out wq hSq.kb
        go_simp
        try with_reducible rfl
      simp only [List.getElem_toArray, List.getElem_cons_succ, List.getElem_cons_zero, Act.put, List.setIfInBounds_toArray, List.set_cons_zero, List.set_cons_succ]
      refine wpAnyH_take (i := 8) (v := ?_) rfl (by kernel_rfl) (by kernel_rfl) (by kernel_rfl) (fun _ _ _ h => h) (Or.inl ⟨by rfl, ?_⟩) (by assumption) ?_
      rotate_left
      · intro wq hSq
        have hlq := hSq.fm.ld
        have hlb := HLB.out wq hSq.kb
        go_simp
        try with_reducible rfl
      simp only [List.getElem_toArray, List.getElem_cons_succ, List.getElem_cons_zero, Act.put, List.setIfInBounds_toArray, List.set_cons_zero, List.set_cons_succ]
      refine wpAnyH_ready (rs := [9]) (by kernel_rfl) (by simp) ?_
      refine AllReadyH.cons rfl (fun Kq hKq => ?_) AllReadyH.nil
      go_simp
      have hS3 := hS2.alloc (.cells (fV z8).toArray 80)
      refine hKq.out _ _ hS3 (fun _ => ?_)
      clear hKq Kq hS3
      have hst := st8n w2 R hR.len
      refine wpAnyH_ready (rs := [10]) (by kernel_rfl) (by simp) ?_
      refine AllReadyH.cons rfl (fun Kq hKq => ?_) AllReadyH.nil
      go_simp
      refine hKq.out _ _ (hS2.alloc _) (fun hS5 => ?_)
      clear hKq Kq
      refine wpAnyH_ready (rs := [11]) (by kernel_rfl) (by simp) ?_
      refine AllReadyH.cons rfl (fun Kq hKq => ?_) AllReadyH.nil
      go_simp
      refine hKq.out _ _ hS5 (fun _ => ?_)
      clear hKq Kq
      refine wpAnyH_done (by kernel_rfl) ?_ _
      have hR5 := Blk.new (T := 80) w2 (fV R) (fV R).toArray w2.heap.size rfl rfl
      generalize w2.alloc (.cells (fV R).toArray 80) = W5 at hS5 hR5 ⊢
      have l1 := HLA.out _ hS5.ka
      have l2 := ldF hR.len hR5
      have HS5 := hide hS5
      have HRR := hide hR
      clear hS5 hR5 hR hnl hst
      go_wp2_with fail
      refine (HSUB.out R (PP - y) HRR.out (by have := HX.out; have := HY0.out; omega) _ HS5.out.fm).mono ?_
      rintro e w6 ⟨Q, rfl, hQ, LW⟩
      rw [add_lack] at hQ
      have HQ := hide hQ
      have Z6 := hide (HS5.out.kz.below LW)
      have U6 := hide (below_then HS5.out.bl LW)
      have s6 := stF8 hQ.len Z6.out rfl
      clear LW hQ l1 l2
      go_wp2
      exact retF (p := 6) (by kernel_rfl) rfl Z6.out rfl HQ.out U6.out (by omega)
    · go_simp
      have hS3 := hS0.alloc (.cells (fV z8).toArray 80)
      refine hKq.out _ _ hS3 (fun _ => ?_)
      clear hKq Kq
      refine wpAnyH_ready (rs := [5]) (by kernel_rfl) (by simp) ?_
      refine AllReadyH.cons rfl (fun Kq hKq => ?_) AllReadyH.nil
      go_simp
      refine (HM.out _).mono ?_
      rintro e w2 ⟨R, rfl, hR, LW⟩
      have hnl : ¬ PP < y := by have := HX.out; omega
      rw [if_neg hnl, Int.add_zero] at hR
      have hS2 := (hS3).below LW
      have LW2 := hide LW
      clear LW
      refine hKq.out _ _ hS2 (fun _ => ?_)
      clear hKq Kq
      refine wpAnyH_take (i := 6) (v := ?_) rfl (by kernel_rfl) (by kernel_rfl) (by kernel_rfl) (fun _ _ _ h => h) (Or.inl ⟨by rfl, ?_⟩) (by assumption) ?_
      rotate_left
      · intro wq hSq
        have hlq := hSq.fm.ld
        have hlb := HLB.out wq hSq.kb
        go_simp
        try with_reducible rfl
      simp only [List.getElem_toArray, List.getElem_cons_succ, List.getElem_cons_zero, Act.put, List.setIfInBounds_toArray, List.set_cons_zero, List.set_cons_succ]
      refine wpAnyH_take (i := 7) (v := ?_) rfl (by kernel_rfl) (by kernel_rfl) (by kernel_rfl) (fun _ _ _ h => h) (Or.inl ⟨by rfl, ?_⟩) (by assumption) ?_
      rotate_left
      · intro wq hSq
        have hlq := hSq.fm.ld
        have hlb := HLB.out wq hSq.kb
        go_simp
        try with_reducible rfl
      simp only [List.getElem_toArray, List.getElem_cons_succ, List.getElem_cons_zero, Act.put, List.setIfInBounds_toArray, List.set_cons_zero, List.set_cons_succ]
      refine wpAnyH_take (i := 8) (v := ?_) rfl (by kernel_rfl) (by kernel_rfl) (by kernel_rfl) (fun _ _ _ h => h) (Or.inl ⟨by rfl, ?_⟩) (by assumption) ?_
      rotate_left
      · intro wq hSq
        have hlq := hSq.fm.ld
        have hlb := HLB.out wq hSq.kb
        go_simp
        try with_reducible rfl
      simp only [List.getElem_toArray, List.getElem_cons_succ, List.getElem_cons_zero, Act.put, List.setIfInBounds_toArray, List.set_cons_zero, List.set_cons_succ]
      have hB4 : Blk 80 w2 V.heap.size (fV z8) := (Blk.new V (fV z8) _ _ rfl rfl).below LW2.out
      have hst := stF8 hR.len hB4 rfl
      refine wpAnyH_ready (rs := [10]) (by kernel_rfl) (by simp) ?_
      refine AllReadyH.cons rfl (fun Kq hKq => ?_) AllReadyH.nil
      go_simp
      refine hKq.out _ _ (hS2.sets hS0.kz.lt _ _) (fun hS5 => ?_)
      clear hKq Kq
      refine wpAnyH_ready (rs := [11]) (by kernel_rfl) (by simp) ?_
      refine AllReadyH.cons rfl (fun Kq hKq => ?_) AllReadyH.nil
      go_simp
      refine hKq.out _ _ hS5 (fun _ => ?_)
      clear hKq Kq
      refine wpAnyH_done (by kernel_rfl) ?_ _
      have hR5 := blk_all (vs := fV R) hB4 (by rw [fV_len, fV_len, hR.len]; rfl)
      generalize w2.setCells V.heap.size 0 (fV R) = W5 at hS5 hR5 ⊢
      have l1 := HLA.out _ hS5.ka
      have l2 := ldF hR.len hR5
      have HS5 := hide hS5
      have HRR := hide hR
      clear hS5 hR5 hR hnl hst
      go_wp2_with fail
      refine (HSUB.out R (PP - y) HRR.out (by have := HX.out; have := HY0.out; omega) _ HS5.out.fm).mono ?_
      rintro e w6 ⟨Q, rfl, hQ, LW⟩
      rw [add_lack] at hQ
      have HQ := hide hQ
      have Z6 := hide (HS5.out.kz.below LW)
      have U6 := hide (below_then HS5.out.bl LW)
      have s6 := stF8 hQ.len Z6.out rfl
      clear LW hQ l1 l2
      go_wp2
      exact retF (p := 6) (by kernel_rfl) rfl Z6.out rfl HQ.out U6.out (by omega)

end Go.Proofs.YtcijjmncilciiaaDoor

namespace Go.Proofs.YtcijjmncilciiaaDoor
open Go.RowKit Go.IntWalk

theorem prod_bd {a b : Int} (ha : 0 ≤ a ∧ a < 4294967296) (hb : 0 ≤ b ∧ b < 4294967296) : 0 ≤ a * b ∧ a * b ≤ 18446744065119617025 := by
  refine ⟨Int.mul_nonneg ha.1 hb.1, ?_⟩
  have := Int.mul_le_mul (show a ≤ 4294967295 by omega) (show b ≤ 4294967295 by omega) hb.1 (by omega : (0 : Int) ≤ 4294967295)
  simpa using this

theorem mul_word {z p c : Int} (hz : 0 ≤ z ∧ z < 4294967296) (hp : 0 ≤ p ∧ p ≤ 18446744065119617025) (hc : 0 ≤ c ∧ c < 4294967296) :
    IntKind.u64.wrap p = p ∧ IntKind.u64.wrap (z + p) = z + p ∧ IntKind.u64.wrap (z + p + c) = z + p + c ∧ 0 ≤ z + p + c ∧ (0 ≤ (z + p + c) % 4294967296 ∧ (z + p + c) % 4294967296 < 4294967296) ∧ (0 ≤ (z + p + c) / 4294967296 ∧ (z + p + c) / 4294967296 < 4294967296) ∧ (z + p + c) % 4294967296 = z + p + c - 4294967296 * ((z + p + c) / 4294967296) := by
  rw [IntKind.wrap_u64, IntKind.wrap_u64, IntKind.wrap_u64]
  omega

theorem carry_word {z c : Int} (hz : 0 ≤ z ∧ z < 4294967296) (hc : 0 ≤ c ∧ c < 4294967296) :
    IntKind.u64.wrap (z + c) = z + c ∧ 0 ≤ z + c ∧ (0 ≤ (z + c) % 4294967296 ∧ (z + c) % 4294967296 < 4294967296) ∧ (0 ≤ (z + c) / 4294967296 ∧ (z + c) / 4294967296 ≤ 1) ∧ (z + c) % 4294967296 = z + c - 4294967296 * ((z + c) / 4294967296) := by
  rw [IntKind.wrap_u64]
  omega

/-- One word of the first inner loop. -/
theorem in1_step (vZ vZ0 vA z a b c u d P : Int) (h : vZ + c * P = vZ0 + vA * b) (hu : u = z + a * b + c - 4294967296 * d) : vZ + u * P + d * (4294967296 * P) = vZ0 + z * P + (vA + a * P) * b := by
  subst hu
  grind

theorem in3_step (vZ vT vM t m by' c u d P : Int) (h : 4294967296 * vZ + c * (4294967296 * P) = vT + by' * vM) (hu : u = t + m * by' + c - 4294967296 * d) : 4294967296 * (vZ + u * P) + d * (4294967296 * (4294967296 * P)) = vT + t * (4294967296 * P) + by' * (vM + m * (4294967296 * P)) := by
  subst hu
  grind

theorem row9 (Z : List Int) : val 4294967296 (Z.take 9) = val 4294967296 (Z.take 8) + Z.getD 8 0 * pw 4294967296 8 := val_take_succ 4294967296 Z 8

/-- The whole of a round. -/
theorem mul_key {S x b l S' : Int} (h : 4294967296 * S' = S + x * b + PP * l) (hS : S < 2 * PP) (hx : x < PP) (hb : 0 ≤ b ∧ b < 4294967296) (hl : 0 ≤ l ∧ l < 4294967296) : S' < 2 * PP := by
  have h1 : x * b ≤ (PP - 1) * 4294967295 := Int.mul_le_mul (by omega) (by omega) hb.1 (by unfold PP; omega)
  have h2 : PP * l ≤ PP * 4294967295 := Int.mul_le_mul_of_nonneg_left (by omega) (by unfold PP; omega)
  generalize x * b = q at *
  generalize PP * l = r at *
  unfold PP at *
  omega

theorem mul_inv {S x b l S' M m P : Int} (h : 4294967296 * S' = S + x * b + PP * l) (hi : S * P = x * M + PP * m) : S' * (4294967296 * P) = x * (M + b * P) + PP * (m + l * P) := by
  have : S' * (4294967296 * P) = (4294967296 * S') * P := by grind
  rw [this, h]
  grind

/-- The row behind the first inner loop, and its two words above. -/
theorem top_words {S vZ vZ0 xb z8' c e f P8 : Int} (h : vZ + c * P8 = vZ0 + xb) (hS : S = vZ0 + z8' * P8) (he : e = z8' + c - 4294967296 * f) : vZ + e * P8 + f * (4294967296 * P8) = S + xb := by
  subst hS he
  grind

theorem low_words {vZ7 c vT8 by' vT t8 t9 x u d P7 : Int} (h : 4294967296 * vZ7 + c * (4294967296 * P7) = vT8 + by' * PP) (hT : vT = vT8 + t8 * (4294967296 * P7) + t9 * (4294967296 * (4294967296 * P7))) (hx : x = t8 + c) (hu : u = x - 4294967296 * d) : 4294967296 * (vZ7 + u * P7 + (t9 + d) * (4294967296 * P7)) = vT + by' * PP := by
  subst hx hu hT
  grind

end Go.Proofs.YtcijjmncilciiaaDoor
