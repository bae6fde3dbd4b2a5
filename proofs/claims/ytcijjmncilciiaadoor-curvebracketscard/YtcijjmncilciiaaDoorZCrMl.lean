/-
  The document's Mul: so many times a point.
-/
import Derived.Test.YtcijjmncilciiaaDoorZEcEToCvMl
import Derived.Deep.DeepCutAuto
namespace Go.Proofs.YtcijjmncilciiaaDoor
open Go.RowKit Go.IntWalk
attribute [local go_sem ↓] ld_F st_F eq_F ld_J st_J bd_J bd_F ld_a32 st_a32 ld_rpt st_rpt eq_rpt bd_rpt

/-- A block that came to be meanwhile. -/
theorem Bx.grow {w W V : World} {bs : List (Nat × TypeId × List Value)} (h : Bx w bs W) (b : Below W.heap.size W V) {g : Nat} {T : TypeId} {L : List Value} (hg : W.heap.size ≤ g) (hB : Blk T V g L) : Bx w (bs ++ [(g, T, L)]) V := by
  have h' := h.below b
  refine ⟨?_, ?_, ?_, h'.bl⟩
  · intro x hx
    rcases List.mem_append.1 hx with hx | hx
    · exact h'.at' x hx
    · obtain rfl := List.mem_singleton.1 hx
      exact hB
  · rw [List.map_append, List.nodup_append]
    refine ⟨h.nd, by simp, ?_⟩
    intro a ha c hc
    have e : c = g := List.mem_singleton.1 hc
    have := h.lt a ha
    omega
  · intro x hx
    rcases List.mem_append.1 hx with hx | hx
    · exact h.up x hx
    · obtain rfl := List.mem_singleton.1 hx
      have := h.bl.size
      show w.heap.size ≤ g
      omega

theorem stjn (w : World) (x y z : Int) : (stA 92 (.pointer (some ⟨w.heap.size, 0, none⟩)) (.agg (j3 x y z).toArray)).run Tryd.prog (w.alloc (.cells #[.int .u64 0, .int .u64 0, .int .u64 0, .int .u64 0, .int .u64 0, .int .u64 0, .int .u64 0, .int .u64 0, .int .u64 0, .int .u64 0, .int .u64 0, .int .u64 0, .int .u64 0, .int .u64 0, .int .u64 0, .int .u64 0, .int .u64 0, .int .u64 0, .int .u64 0, .int .u64 0, .int .u64 0, .int .u64 0, .int .u64 0, .int .u64 0] 92)) = .ok () (w.alloc (.cells (j3 x y z).toArray 92)) :=
  run_storeAt_new (P := Tryd.prog) w 92 _ (j3 x y z).toArray (by kernel_rfl) rfl (all_oneCell_toArray (j3_one x y z))

theorem tD_bit {K : List Int} {i : Nat} {z : Int} (h : K.getD (i / 8) 0 / 2 ^ (7 - i % 8) = z) : kbit K i = decide (z % 2 = 1) := by unfold kbit; rw [h]

/-- Where Mul is. -/
def DuAt (w : World) (K X Y : List Int) (f : Bool) (gf g6 g7 : Nat) (ax ay az : Int) (m : Nat) (W : World) : Prop :=
  ∃ x y z, RepD x y z (pmul (kbit K) (ptOf X Y f) m) ∧ Bx w [(w.heap.size, 22, bV K), (w.heap.size + 1, 33, pL X Y f), (w.heap.size + 1 + 1, 33, PZ), (gf, 89, fdL oneW sqW 1), (g6, 92, j3 ax ay az), (g7, 92, j3 x y z)] W

set_option maxRecDepth 100000 in
set_option maxHeartbeats 4000000 in
theorem rmul_rep (K X Y : List Int) (f : Bool) (hK : K.length = 32) (dK : Dg 256 K) (hX : X.length = 32) (hY : Y.length = 32) (dX : Dg 256 X) (dY : Dg 256 Y) (hon : onP X Y f = true) (w : World) :
    Calls Tryd.prog 16 #[.agg (bV K).toArray, .agg (pL X Y f).toArray] w (Ans (.agg (pL (encX (pmul (kbit K) (ptOf X Y f) 256)) (encY (pmul (kbit K) (ptOf X Y f) 256)) (encF (pmul (kbit K) (ptOf X Y f) 256))).toArray) w) := by
  have HK := hide hK
  have HDK := hide dK
  have HX := hide hX
  have HY := hide hY
  have o1 : ∀ v ∈ bV K, v.oneCell' = true := ints_one _ _
  have o2 := pL_one X Y f
  have hS : Bx w [(w.heap.size, 22, bV K), (w.heap.size + 1, 33, pL X Y f), (w.heap.size + 1 + 1, 33, PZ)] (((w.alloc (.cells (bV K).toArray 22)).alloc (.cells (pL X Y f).toArray 33)).alloc (.cells Tryd.zeroCells33 33)) :=
    (((Bx.nil w).newAt 0 (w.heap.size) (by simp) 22 (bV K) _ rfl).newAt 1 (w.heap.size + 1) (by simp) 33 (pL X Y f) _ rfl).newAt 2 (w.heap.size + 1 + 1) (by simp) 33 PZ _ zc_rpt
  have HAT : Hid (∀ gf W, FF W gf → Calls Tryd.prog 46 #[.pointer (some ⟨gf, 0, none⟩), .agg (pL X Y f).toArray] W (AnsD (ptOf X Y f) W)) := fun gf W hF => rat_rep hX hY dX dY hon gf W hF
  have HTW : Hid (∀ {x y z : Int} {p : Option (Int × Int)}, RepD x y z p → ∀ gf W, FF W gf → Calls Tryd.prog 49 #[.pointer (some ⟨gf, 0, none⟩), .agg (j3 x y z).toArray] W (AnsD (padd p p) W)) := fun h gf W hF => rtwice_rep h gf W hF
  have HSM : Hid (∀ {x1 y1 z1 x2 y2 z2 : Int} {p q : Option (Int × Int)}, RepD x1 y1 z1 p → RepD x2 y2 z2 q → ∀ gf W, FF W gf → Calls Tryd.prog 45 #[.pointer (some ⟨gf, 0, none⟩), .agg (j3 x1 y1 z1).toArray, .agg (j3 x2 y2 z2).toArray] W (AnsD (padd p q) W)) := fun h1 h2 gf W hF => rsum_rep h1 h2 gf W hF
  have HPT : Hid (∀ {x y z : Int} {p : Option (Int × Int)}, RepD x y z p → ∀ gf W, FF W gf → Calls Tryd.prog 44 #[.pointer (some ⟨gf, 0, none⟩), .agg (j3 x y z).toArray] W (Ans (.agg (pL (encX p) (encY p) (encF p)).toArray) W)) := fun h gf W hF => rpoint_rep h gf W hF
  clear hK dK hX hY dX dY hon
  go_enter Tryd.func16, Tryd.ntmps16
  go_wp2_with fail
  refine (rpW_any _).mono ?_
  rintro e U1 ⟨rfl, LB⟩
  have hS := hS.below LB
  clear LB o1 o2
  go_wp2_with fail
  refine (rnew_any _).mono ?_
  rintro e U2 ⟨gf, rfl, hgf, hFd, LB⟩
  have hS : Bx w [(w.heap.size, 22, bV K), (w.heap.size + 1, 33, pL X Y f), (w.heap.size + 1 + 1, 33, PZ), (gf, 89, fdL oneW sqW 1)] U2 := hS.grow LB hgf hFd.blk
  clear LB hgf hFd
  have hlp := (rpt_ld HX.out HY.out (hS.get 1 rfl)).1
  go_wp2_with fail
  refine (HAT.out gf _ ⟨hS.get 3 rfl, rfl, rfl⟩).mono ?_
  rintro e U3 ⟨ax, ay, az, rfl, hA, LB⟩
  have HA := hide hA
  have hS := hS.below LB
  have hst := stjn U3 ax ay az
  have hS' : Bx w [(w.heap.size, 22, bV K), (w.heap.size + 1, 33, pL X Y f), (w.heap.size + 1 + 1, 33, PZ), (gf, 89, fdL oneW sqW 1), (U3.heap.size, 92, j3 ax ay az)] (U3.alloc (.cells (j3 ax ay az).toArray 92)) := hS.newAt 4 U3.heap.size rfl 92 (j3 ax ay az) _ rfl
  clear hS LB hlp hA
  have hS := hS'
  clear hS'
  go_upto_region 3 with fail
  generalize U3.alloc (.cells (j3 ax ay az).toArray 92) = U4 at hS ⊢
  generalize U3.heap.size = g6 at hS ⊢
  clear hst
  have hS := hS.drew
  refine wp_region_held_drew (S := Bx w [(w.heap.size, 22, bV K), (w.heap.size + 1, 33, pL X Y f), (w.heap.size + 1 + 1, 33, PZ), (gf, 89, fdL oneW sqW 1), (g6, 92, j3 ax ay az)]) (by kernel_rfl) (hS.pre 5) (fun _ => ?_)
  generalize U4.drew = U1 at hS ⊢
  have hP : Bx w [(w.heap.size, 22, bV K), (w.heap.size + 1, 33, pL X Y f), (w.heap.size + 1 + 1, 33, PZ), (gf, 89, fdL oneW sqW 1), (g6, 92, j3 ax ay az)] U1 := hS.pre 5
  refine wpAnyH_take (i := 0) (v := ?_) rfl (by kernel_rfl) (by kernel_rfl) (by kernel_rfl) (fun _ _ _ h => h) (Or.inl ⟨by rfl, ?_⟩) (by assumption) ?_
  rotate_left
  · intro wq hSq
    go_simp
    try with_reducible rfl
  simp only [List.getElem_toArray, List.getElem_cons_zero, Act.put, List.setIfInBounds_toArray, List.set_cons_zero, List.set_cons_succ]
  refine wpAnyH_take (i := 1) (v := ?_) rfl (by kernel_rfl) (by kernel_rfl) (by kernel_rfl) (fun _ _ _ h => h) (Or.inl ⟨by rfl, ?_⟩) (by assumption) ?_
  rotate_left
  · intro wq hSq
    go_simp
    try with_reducible rfl
  simp only [List.getElem_toArray, List.getElem_cons_succ, List.getElem_cons_zero, Act.put, List.setIfInBounds_toArray, List.set_cons_zero, List.set_cons_succ]
  refine wpAnyH_take (i := 2) (v := ?_) rfl (by kernel_rfl) (by kernel_rfl) (by kernel_rfl) (fun _ _ _ h => h) (Or.inl ⟨by rfl, ?_⟩) (by assumption) ?_
  rotate_left
  · intro wq hSq
    go_simp
    try with_reducible rfl
  simp only [List.getElem_toArray, List.getElem_cons_succ, List.getElem_cons_zero, Act.put, List.setIfInBounds_toArray, List.set_cons_zero, List.set_cons_succ]
  refine wpAnyH_take (i := 3) (v := ?_) rfl (by kernel_rfl) (by kernel_rfl) (by kernel_rfl) (fun _ _ _ h => h) (Or.inl ⟨by rfl, ?_⟩) (by assumption) ?_
  rotate_left
  · intro wq hSq
    have hl := FF.ld1 (w := wq) (gf := gf) ⟨hSq.get 3 rfl, rfl, rfl⟩
    go_simp
    try with_reducible rfl
  simp only [List.getElem_toArray, List.getElem_cons_succ, List.getElem_cons_zero, Act.put, List.setIfInBounds_toArray, List.set_cons_zero, List.set_cons_succ]
  refine wpAnyH_take (i := 4) (v := ?_) rfl (by kernel_rfl) (by kernel_rfl) (by kernel_rfl) (fun _ _ _ h => h) (Or.inl ⟨by rfl, ?_⟩) (by assumption) ?_
  rotate_left
  · intro wq hSq
    go_simp
    try with_reducible rfl
  simp only [List.getElem_toArray, List.getElem_cons_succ, List.getElem_cons_zero, Act.put, List.setIfInBounds_toArray, List.set_cons_zero, List.set_cons_succ]
  refine wpAnyH_take (i := 5) (v := ?_) rfl (by kernel_rfl) (by kernel_rfl) (by kernel_rfl) (fun _ _ _ h => h) (Or.inl ⟨by rfl, ?_⟩) (by assumption) ?_
  rotate_left
  · intro wq hSq
    go_simp
    try with_reducible rfl
  simp only [List.getElem_toArray, List.getElem_cons_succ, List.getElem_cons_zero, Act.put, List.setIfInBounds_toArray, List.set_cons_zero, List.set_cons_succ]
  refine wpAnyH_take (i := 6) (v := ?_) rfl (by kernel_rfl) (by kernel_rfl) (by kernel_rfl) (fun _ _ _ h => h) (Or.inl ⟨by rfl, ?_⟩) (by assumption) ?_
  rotate_left
  · intro wq hSq
    go_simp
    try with_reducible rfl
  simp only [List.getElem_toArray, List.getElem_cons_succ, List.getElem_cons_zero, Act.put, List.setIfInBounds_toArray, List.set_cons_zero, List.set_cons_succ]
  refine wpAnyH_take (i := 7) (v := ?_) rfl (by kernel_rfl) (by kernel_rfl) (by kernel_rfl) (fun _ _ _ h => h) (Or.inl ⟨by rfl, ?_⟩) (by assumption) ?_
  rotate_left
  · intro wq hSq
    have hl := FF.ld1 (w := wq) (gf := gf) ⟨hSq.get 3 rfl, rfl, rfl⟩
    go_simp
    try with_reducible rfl
  simp only [List.getElem_toArray, List.getElem_cons_succ, List.getElem_cons_zero, Act.put, List.setIfInBounds_toArray, List.set_cons_zero, List.set_cons_succ]
  refine wpAnyH_take (i := 8) (v := ?_) rfl (by kernel_rfl) (by kernel_rfl) (by kernel_rfl) (fun _ _ _ h => h) (Or.inl ⟨by rfl, ?_⟩) (by assumption) ?_
  rotate_left
  · intro wq hSq
    have hl := bdf0 wq
    go_simp
    try with_reducible rfl
  simp only [List.getElem_toArray, List.getElem_cons_succ, List.getElem_cons_zero, Act.put, List.setIfInBounds_toArray, List.set_cons_zero, List.set_cons_succ]
  refine wpAnyH_take (i := 9) (v := ?_) rfl (by kernel_rfl) (by kernel_rfl) (by kernel_rfl) (fun _ _ _ h => h) (Or.inl ⟨by rfl, ?_⟩) (by assumption) ?_
  rotate_left
  · intro wq hSq
    have hl := bdj3 ONE ONE 0 wq
    go_simp
    try with_reducible rfl
  simp only [List.getElem_toArray, List.getElem_cons_succ, List.getElem_cons_zero, Act.put, List.setIfInBounds_toArray, List.set_cons_zero, List.set_cons_succ]
  clear hP
  refine' mk_restN (K := fun W g7 => Bx w [(w.heap.size, 22, bV K), (w.heap.size + 1, 33, pL X Y f), (w.heap.size + 1 + 1, 33, PZ), (gf, 89, fdL oneW sqW 1), (g6, 92, j3 ax ay az), (g7, 92, [.int .u64 0, .int .u64 0, .int .u64 0, .int .u64 0, .int .u64 0, .int .u64 0, .int .u64 0, .int .u64 0, .int .u64 0, .int .u64 0, .int .u64 0, .int .u64 0, .int .u64 0, .int .u64 0, .int .u64 0, .int .u64 0, .int .u64 0, .int .u64 0, .int .u64 0, .int .u64 0, .int .u64 0, .int .u64 0, .int .u64 0, .int .u64 0])] W) (fun R0a => ?_) ?_
  rotate_left
  · skip
    refine wpAnyH_ready (rs := [10]) (by kernel_rfl) (by simp) ?_
    refine (AllReadyH.cons rfl (fun Kq hKq => ?_) AllReadyH.nil)
    · go_simp
      have hS' : Bx w [(w.heap.size, 22, bV K), (w.heap.size + 1, 33, pL X Y f), (w.heap.size + 1 + 1, 33, PZ), (gf, 89, fdL oneW sqW 1), (g6, 92, j3 ax ay az), (U1.heap.size, 92, [.int .u64 0, .int .u64 0, .int .u64 0, .int .u64 0, .int .u64 0, .int .u64 0, .int .u64 0, .int .u64 0, .int .u64 0, .int .u64 0, .int .u64 0, .int .u64 0, .int .u64 0, .int .u64 0, .int .u64 0, .int .u64 0, .int .u64 0, .int .u64 0, .int .u64 0, .int .u64 0, .int .u64 0, .int .u64 0, .int .u64 0, .int .u64 0])] (U1.alloc (.cells #[.int .u64 0, .int .u64 0, .int .u64 0, .int .u64 0, .int .u64 0, .int .u64 0, .int .u64 0, .int .u64 0, .int .u64 0, .int .u64 0, .int .u64 0, .int .u64 0, .int .u64 0, .int .u64 0, .int .u64 0, .int .u64 0, .int .u64 0, .int .u64 0, .int .u64 0, .int .u64 0, .int .u64 0, .int .u64 0, .int .u64 0, .int .u64 0] 92)) := hS.newAt 5 U1.heap.size rfl 92 [.int .u64 0, .int .u64 0, .int .u64 0, .int .u64 0, .int .u64 0, .int .u64 0, .int .u64 0, .int .u64 0, .int .u64 0, .int .u64 0, .int .u64 0, .int .u64 0, .int .u64 0, .int .u64 0, .int .u64 0, .int .u64 0, .int .u64 0, .int .u64 0, .int .u64 0, .int .u64 0, .int .u64 0, .int .u64 0, .int .u64 0, .int .u64 0] _ rfl
      refine hKq.out _ _ (hS'.pre 5) (fun _ => ?_)
      clear hKq Kq
      generalize U1.alloc (.cells #[.int .u64 0, .int .u64 0, .int .u64 0, .int .u64 0, .int .u64 0, .int .u64 0, .int .u64 0, .int .u64 0, .int .u64 0, .int .u64 0, .int .u64 0, .int .u64 0, .int .u64 0, .int .u64 0, .int .u64 0, .int .u64 0, .int .u64 0, .int .u64 0, .int .u64 0, .int .u64 0, .int .u64 0, .int .u64 0, .int .u64 0, .int .u64 0] 92) = U2 at hS' ⊢
      generalize U1.heap.size = g7 at hS' ⊢
      exact R0a.out U2 g7 hS'
  · rintro U3 g7 hS
    have hst := stj (hS.get 5 rfl) rfl ONE ONE 0
    refine wpAnyH_ready (rs := [11]) (by kernel_rfl) (by simp) ?_
    refine AllReadyH.cons rfl (fun Kq hKq => ?_) AllReadyH.nil
    go_simp
    have hS' : Bx w [(w.heap.size, 22, bV K), (w.heap.size + 1, 33, pL X Y f), (w.heap.size + 1 + 1, 33, PZ), (gf, 89, fdL oneW sqW 1), (g6, 92, j3 ax ay az), (g7, 92, (j3 ONE ONE 0))] (U3.setCells g7 0 (j3 ONE ONE 0)) := hS.setAt 5 (j3 ONE ONE 0) rfl rfl
    refine hKq.out _ _ (hS'.pre 5) (fun _ => ?_)
    clear hKq Kq hst hS
    have hS := hS'
    clear hS'
    generalize U3.setCells g7 0 (j3 ONE ONE 0) = U4 at hS ⊢
    refine wpAnyH_done (by kernel_rfl) ?_ _
    have HS0 : Hid (DuAt w K X Y f gf g6 g7 ax ay az 0 U4) := ⟨ONE, ONE, 0, far_rep, hS⟩
    clear hS
    go_wp2
    go_loopw [8] (fun iv wr => ∃ (m : Nat), iv = .int .i64 (m : Int) ∧ m ≤ 256 ∧ Hid (DuAt w K X Y f gf g6 g7 ax ay az m wr)) (fun iv _ => 256 - (intOf iv).toNat)
    case atStart => exact ⟨0, rfl, by omega, HS0⟩
    case round =>
      clear HS0
      obtain ⟨i, rfl, hi, HS⟩ := hrel
      obtain ⟨x, y, z, hR, hS⟩ := HS.out
      by_cases h256 : i < 256
      · obtain ⟨q, hq⟩ : ∃ q, i / 8 = q := ⟨_, rfl⟩
        obtain ⟨r, hr⟩ : ∃ r, i % 8 = r := ⟨_, rfl⟩
        have hyb := HDK.out.at (by decide : (0 : Int) < 256) q
        have hcell : ∀ W, Blk 22 W w.heap.size (bV K) → W.cell? ⟨w.heap.size, q, none⟩ = some (.int .u8 (K.getD q 0)) := by
          intro W h
          rw [h.cell]
          simp [bV, List.getD, HK.out, show q < 32 by omega]
        have td : Int.tdiv (i : Int) 8 = (q : Int) := by rw [Int.tdiv_eq_ediv_of_nonneg (by omega)]; omega
        have tm : Int.tmod (i : Int) 8 = (r : Int) := by rw [Int.tmod_eq_emod_of_nonneg (by omega)]; omega
        obtain ⟨T, hT⟩ : ∃ T : Int, (7 : Int) - (r : Int) = T := ⟨_, rfl⟩
        have hTw : IntKind.i64.wrap ((7 : Int) - (r : Int)) = T := by rw [IntKind.wrap_i64]; omega
        obtain ⟨z8', hz⟩ : ∃ z, K.getD q 0 / 2 ^ (7 - r) = z := ⟨_, rfl⟩
        have hkb : kbit K i = decide (z8' % 2 = 1) := tD_bit (by rw [hq, hr]; exact hz)
        obtain ⟨y8, hy8⟩ : ∃ y, K.getD q 0 = y := ⟨_, rfl⟩
        rw [hy8] at hcell hyb hz
        have hsh : y8 / 2 ^ T.toNat = z8' := by rw [← hz, show T.toNat = 7 - r by omega]
        have z0 : 0 ≤ z8' := by rw [← hz]; exact Int.ediv_nonneg hyb.1 (Int.pow_nonneg (by decide))
        obtain ⟨b, hb⟩ : ∃ b, z8' % 2 = b := ⟨_, rfl⟩
        have tz : Int.tmod z8' 2 = b := by rw [Int.tmod_eq_emod_of_nonneg z0]; exact hb
        have hb01 : b = 0 ∨ b = 1 := by omega
        rw [hb] at hkb
        have t0 : 0 ≤ T := by omega
        have t1 : T ≤ 7 := by omega
        have qb : (q : Int) ≤ 31 := by omega
        have rb : (r : Int) ≤ 7 := by omega
        have ib : (i : Int) ≤ 255 := by omega
        have HC := hide hcell
        have HKB := hide hkb
        have HR := hide hR
        have hl7 := ldj (hS.get 5 rfl)
        clear hcell hkb hR hq hr hz hy8 hb hT hyb HS
        go_wp2_with fail
        refine (HTW.out HR.out gf _ ⟨hS.get 3 rfl, rfl, rfl⟩).mono ?_
        rintro e V1 ⟨x1, y1, z1, rfl, hR1, LB⟩
        have HR1 := hide hR1
        have hS := hS.below LB
        have hst := stj (hS.get 5 rfl) rfl x1 y1 z1
        have hS' : Bx w [(w.heap.size, 22, bV K), (w.heap.size + 1, 33, pL X Y f), (w.heap.size + 1 + 1, 33, PZ), (gf, 89, fdL oneW sqW 1), (g6, 92, j3 ax ay az), (g7, 92, j3 x1 y1 z1)] (V1.setCells g7 0 (j3 x1 y1 z1)) := hS.setAt 5 (j3 x1 y1 z1) rfl rfl
        clear hS LB hl7 hR1
        have hS := hS'
        clear hS'
        go_upto_region 8 with fail
        generalize V1.setCells g7 0 (j3 x1 y1 z1) = V2 at hS ⊢
        clear hst
        have hc := HC.out _ (hS.get 0 rfl)
        have hl7 := ldj (hS.get 5 rfl)
        have hl6 := ldj (hS.get 4 rfl)
        rcases hb01 with rfl | rfl
        · have HM : Hid (DuAt w K X Y f gf g6 g7 ax ay az (i + 1) V2) := by
            refine ⟨x1, y1, z1, ?_, hS⟩
            rw [pmul, HKB.out, if_neg (by decide)]
            exact HR1.out
          go_wp2
          go_roundw
          case rel => exact ⟨i + 1, by go_num, by omega, HM⟩
          case measure => simp [intOf]; omega
        · go_wp2_with fail
          refine (HSM.out HR1.out HA.out gf _ ⟨hS.get 3 rfl, rfl, rfl⟩).mono ?_
          rintro e V3 ⟨x2, y2, z2, rfl, hR2, LB⟩
          have hS := hS.below LB
          have hst := stj (hS.get 5 rfl) rfl x2 y2 z2
          have HM : Hid (DuAt w K X Y f gf g6 g7 ax ay az (i + 1) (V3.setCells g7 0 (j3 x2 y2 z2))) := by
            refine ⟨x2, y2, z2, ?_, hS.setAt 5 (j3 x2 y2 z2) rfl rfl⟩
            rw [pmul, HKB.out, if_pos (by decide)]
            exact hR2
          clear LB hS hl7 hl6 hc hR2
          go_wp2
          go_roundw
          case rel => exact ⟨i + 1, by go_num, by omega, HM⟩
          case measure => simp [intOf]; omega
      · obtain rfl : i = 256 := by omega
        have hl7 := ldj (hS.get 5 rfl)
        generalize pmul (kbit K) (ptOf X Y f) 256 = Q at *
        have HR := hide hR
        clear hR HS
        go_wp2_with fail
        refine (HPT.out HR.out gf _ ⟨hS.get 3 rfl, rfl, rfl⟩).mono ?_
        rintro e V1 ⟨rfl, LB⟩
        have hS := hS.below LB
        have hst := stR (X := encX Q) (Y := encY Q) (f := encF Q) (hS.get 2 rfl) rfl (encX_len Q) (encY_len Q)
        have hS' : Bx w [(w.heap.size, 22, bV K), (w.heap.size + 1, 33, pL X Y f), (w.heap.size + 1 + 1, 33, pL (encX Q) (encY Q) (encF Q)), (gf, 89, fdL oneW sqW 1), (g6, 92, j3 ax ay az), (g7, 92, j3 x y z)] (V1.setCells (w.heap.size + 1 + 1) 0 (pL (encX Q) (encY Q) (encF Q))) := hS.setAt 2 (pL (encX Q) (encY Q) (encF Q)) rfl (by rw [pL_len (encX_len Q) (encY_len Q)]; rfl)
        clear hS LB hl7
        go_wp2
        generalize V1.setCells (w.heap.size + 1 + 1) 0 (pL (encX Q) (encY Q) (encF Q)) = V2 at hS' ⊢
        refine bodyPost_ret (v := .agg (pL (encX Q) (encY Q) (encF Q)).toArray) ?_ rfl ⟨rfl, hS'.bl⟩
        exact res_one (T := 33) (p := 4) (ty := 33) (X := pL (encX Q) (encY Q) (encF Q)) (by kernel_rfl) _ _ rfl Tryd.underlying33 rfl (by rw [pL_len (encX_len Q) (encY_len Q)]; exact info_rpt) (hS'.get 2 rfl)

end Go.Proofs.YtcijjmncilciiaaDoor
