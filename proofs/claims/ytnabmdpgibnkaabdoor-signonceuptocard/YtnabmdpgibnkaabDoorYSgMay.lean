/-
  sign.May and the document's: whether a number is a key.
-/
import Derived.Test.YtnabmdpgibnkaabDoorYMoreToBCmp
import Derived.Test.YtnabmdpgibnkaabDoorYCrNToCrP
import Derived.Test.YtnabmdpgibnkaabDoorYBxMToCvN
import Derived.Test.YtnabmdpgibnkaabDoorYCvNam
namespace Go.Proofs.YtnabmdpgibnkaabDoor
open Go.RowKit Go.IntWalk
theorem ne_dgs (x y : Value) : binOp .neq 24 x y = neA 24 x y := rfl
theorem bd_dgs (ps : Array (Nat × Value)) : Instr.build 24 ps = bdA 24 ps := rfl
attribute [local go_sem ↓] ld_F st_F eq_F ld_a32 st_a32 ld_dig st_dig ne_dgs bd_dgs

/-- Whether 32 bytes are a number from 1 to n - 1. -/
def mayS (D : List Int) : Bool := decide (0 < dn D ∧ dn D < NN)

theorem cmp_dn : ∀ (xs ys : List Int), xs.length = ys.length → Dg 256 xs → Dg 256 ys → (Lib.compareBytes (Lib.bytesOf xs) (Lib.bytesOf ys) < 0 ↔ val 256 xs.reverse < val 256 ys.reverse)
  | [], [], _, _, _ => by simp [Lib.bytesOf, Lib.compareBytes]
  | x :: xs, y :: ys, hl, hx, hy => by
    have bx := hx x List.mem_cons_self
    have byy := hy y List.mem_cons_self
    have dx : Dg 256 xs := fun a ha => hx a (List.mem_cons_of_mem _ ha)
    have dy : Dg 256 ys := fun a ha => hy a (List.mem_cons_of_mem _ ha)
    have e : ∀ a b : Int, 0 ≤ a → a < 256 → 0 ≤ b → b < 256 → (UInt8.ofNat a.toNat < UInt8.ofNat b.toNat ↔ a < b) := fun a b h1 h2 h3 h4 => by
      rw [UInt8.lt_iff_toNat_lt]
      simp only [UInt8.toNat_ofNat']
      omega
    have hcons : Lib.compareBytes (Lib.bytesOf (x :: xs)) (Lib.bytesOf (y :: ys)) = if x < y then -1 else if y < x then 1 else Lib.compareBytes (Lib.bytesOf xs) (Lib.bytesOf ys) := by
      unfold Lib.bytesOf
      rw [List.map_cons, List.map_cons, Lib.compareBytes]
      simp only [e x y bx.1 bx.2 byy.1 byy.2, e y x byy.1 byy.2 bx.1 bx.2]
    have hl' : xs.length = ys.length := by simpa using hl
    have IH := cmp_dn xs ys hl' dx dy
    have rx : Dg 256 xs.reverse := fun a ha => dx a (List.mem_reverse.1 ha)
    have ry : Dg 256 ys.reverse := fun a ha => dy a (List.mem_reverse.1 ha)
    have x0 := val_nonneg (b := 256) (by decide) rx
    have x1 := val_lt (b := 256) (by decide) rx
    have y0 := val_nonneg (b := 256) (by decide) ry
    have y1 := val_lt (b := 256) (by decide) ry
    rw [hcons, List.reverse_cons, List.reverse_cons, val_append, val_append]
    simp only [List.length_reverse] at x1 y1 ⊢
    rw [hl'] at x1 ⊢
    have v1 : ∀ a : Int, val 256 [a] = a := fun a => by simp [val]
    rw [v1, v1]
    have hp := pw_pos (b := 256) (by decide) ys.length
    generalize pw 256 ys.length = P at *
    generalize val 256 xs.reverse = a at *
    generalize val 256 ys.reverse = b at *
    rcases Int.lt_trichotomy x y with h | h | h
    · rw [if_pos h]
      have h2 : P * x + P ≤ P * y := by
        have : P * (x + 1) ≤ P * y := Int.mul_le_mul_of_nonneg_left (by omega) (by omega)
        rw [Int.mul_add, Int.mul_one] at this
        exact this
      constructor
      · intro _; omega
      · intro _; decide
    · subst h
      rw [if_neg (by omega), if_neg (by omega), IH]
      omega
    · rw [if_neg (by omega), if_pos h]
      have h2 : P * y + P ≤ P * x := by
        have : P * (y + 1) ≤ P * x := Int.mul_le_mul_of_nonneg_left (by omega) (by omega)
        rw [Int.mul_add, Int.mul_one] at this
        exact this
      constructor
      · intro h3; exact absurd h3 (by decide)
      · intro h3; omega

theorem dn_z32 : dn z32 = 0 := by decide +kernel
theorem zero_dn {D : List Int} (hD : D.length = 32) (dD : Dg 256 D) : D = z32 ↔ dn D = 0 := by
  constructor
  · rintro rfl; exact dn_z32
  · intro h
    have h1 := be_dn dD hD
    have h2 := be_dn (D := z32) (by intro x hx; simp [z32] at hx; omega) rfl
    rw [← h1, ← h2, h, dn_z32]
theorem src_dig {T : TypeId} {W : World} {g : Nat} {D : List Int} (hD : D.length = 32) (dD : Dg 256 D) (h : Blk T W g (bV D)) : Src W (some ⟨g, 0, none⟩) 32 32 D := by
  refine ⟨hD, Nat.le_refl _, by decide, by simp, fun _ => ⟨g, 0, rfl, fun i hi => ?_⟩, dD⟩
  rw [h.cell, Nat.zero_add]
  simp [bV, hi, List.getD]

theorem nn_bd : 0 ≤ NN ∧ NN < RR := by decide
theorem ldDd {T : TypeId} {w : World} {g : Nat} {K : List Int} (hK : K.length = 32) (h : Blk T w g (bV K)) : (ldA 24 (.pointer (some ⟨g, 0, none⟩))).run Tryd.prog w = .ok (.agg (bV K).toArray) w :=
  ldA_all Tryd.underlying24 rfl (by rw [bV_len, hK]; kernel_rfl) h

theorem neD (D E : List Int) (hD : D.length = 32) (hE : E.length = 32) (w : World) : (neA 24 (.agg (bV D).toArray) (.agg (bV E).toArray)).run Tryd.prog w = .ok (.bool (!decide (D = E))) w := by
  obtain ⟨inf, hinf⟩ := info_u8
  exact neA_arr (xs := D) (ys := E) Tryd.underlying24 Tryd.underlying5 hinf (by kernel_rfl) hD hE w
theorem bdd0 (w : World) : (bdA 24 #[]).run Tryd.prog w = .ok (.agg (bV z32).toArray) w := by kernel_rfl
def one32 : List Int := [0, 0, 0, 0, 0, 0, 0, 0, 0, 0, 0, 0, 0, 0, 0, 0, 0, 0, 0, 0, 0, 0, 0, 0, 0, 0, 0, 0, 0, 0, 0, 1]
theorem bdd1 (w : World) : (bdA 24 #[(31, .int .u8 1)]).run Tryd.prog w = .ok (.agg (bV one32).toArray) w := by kernel_rfl
theorem stDgn (w : World) {E : List Int} (hE : E.length = 32) : (stA 24 (.pointer (some ⟨w.heap.size, 0, none⟩)) (.agg (bV E).toArray)).run Tryd.prog (w.alloc (.cells #[.int .u8 0, .int .u8 0, .int .u8 0, .int .u8 0, .int .u8 0, .int .u8 0, .int .u8 0, .int .u8 0, .int .u8 0, .int .u8 0, .int .u8 0, .int .u8 0, .int .u8 0, .int .u8 0, .int .u8 0, .int .u8 0, .int .u8 0, .int .u8 0, .int .u8 0, .int .u8 0, .int .u8 0, .int .u8 0, .int .u8 0, .int .u8 0, .int .u8 0, .int .u8 0, .int .u8 0, .int .u8 0, .int .u8 0, .int .u8 0, .int .u8 0, .int .u8 0] 24)) = .ok () (w.alloc (.cells (bV E).toArray 24)) :=
  run_storeAt_new (P := Tryd.prog) w 24 _ (bV E).toArray (by rw [List.size_toArray, bV_len, hE]; kernel_rfl) (by simp [bV_len, hE]) (all_oneCell_toArray (ints_one _ _))

set_option maxRecDepth 100000 in
set_option maxHeartbeats 2000000 in
theorem may_any (D : List Int) (hD : D.length = 32) (dD : Dg 256 D) (w : World) (hN : Cn w) :
    Calls Tryd.prog 10 #[.agg (bV D).toArray] w (Ans (.bool (mayS D)) w) := by
  have HD := hide hD
  have HN := hide hN
  have o1 : ∀ v ∈ bV D, v.oneCell' = true := ints_one _ _
  have hS : Bx w [(w.heap.size, 24, bV D)] (w.alloc (.cells (bV D).toArray 24)) := (Bx.nil w).newAt 0 (w.heap.size) (by simp) 24 (bV D) _ rfl
  have HO : Hid (∀ W, Cn W → Calls Tryd.prog 22 #[] W (Ans (.agg (bV (be NN)).toArray) W)) := fun W hW => order_any W hW
  have hE := be_len NN
  have dE := be_dg NN
  have hEn : dn (be NN) = NN := dn_be nn_bd.1 nn_bd.2
  have hcmp := cmp_dn D (be NN) (by rw [hD, hE]) dD dE
  have hz := zero_dn hD dD
  have h0 := dn_bd dD hD
  have hneq := neD D z32 hD rfl
  have HCM : Hid (∀ W {g1 g2 : Nat}, Blk 24 W g1 (bV D) → Blk 24 W g2 (bV (be NN)) → Calls Tryd.prog 34 #[.slice (some ⟨g1, 0, none⟩) 32 32, .slice (some ⟨g2, 0, none⟩) 32 32] W (Ans (.int .i64 (Lib.compareBytes (Lib.bytesOf D) (Lib.bytesOf (be NN)))) W)) := fun W g1 g2 h1 h2 => by
    refine (bytesCompare_any _ _ _ D _ _ _ (be NN) W (src_dig hD dD h1) (src_dig hE dE h2)).mono ?_
    rintro e w1 ⟨rfl, rfl⟩
    exact ⟨rfl, Below.refl _ _⟩
  have HMS : Hid (mayS D = (!decide (D = z32) && decide (Lib.compareBytes (Lib.bytesOf D) (Lib.bytesOf (be NN)) < 0))) := by
    unfold Hid mayS
    have e1 : decide (Lib.compareBytes (Lib.bytesOf D) (Lib.bytesOf (be NN)) < 0) = decide (dn D < NN) := by
      apply decide_eq_decide.2
      rw [hcmp]
      show val 256 D.reverse < val 256 (be NN).reverse ↔ _
      have e2 : val 256 (be NN).reverse = NN := hEn
      rw [e2]
      rfl
    rw [e1]
    by_cases hd : dn D = 0
    · have := hz.2 hd
      subst this
      simp [dn_z32]
    · have hne : D ≠ z32 := fun e => hd (hz.1 e)
      have h1 : 0 < dn D := by omega
      simp [hne, h1]
  generalize Lib.compareBytes (Lib.bytesOf D) (Lib.bytesOf (be NN)) = c at *
  generalize be NN = E at *
  have HE := hide hE
  clear hD dD hN hE dE hEn hcmp hz h0
  go_enter Tryd.func10, Tryd.ntmps10
  go_wp2_with fail
  refine (HO.out _ (HN.out.below hS.bl)).mono ?_
  rintro e U1 ⟨rfl, LB⟩
  have hS := hS.below LB
  have hst := stDgn U1 HE.out
  have hS' : Bx w [(w.heap.size, 24, bV D), (U1.heap.size, 24, bV E)] (U1.alloc (.cells (bV E).toArray 24)) := hS.newAt 1 U1.heap.size rfl 24 (bV E) _ rfl
  clear hS LB o1
  have hS := hS'
  clear hS'
  go_upto_region 2 with fail
  generalize U1.alloc (.cells (bV E).toArray 24) = U2 at hS ⊢
  generalize U1.heap.size = g3 at hS ⊢
  clear hst
  have HNQ := hide hneq
  clear hneq
  by_cases hd : D = z32
  · have hne : ∀ W : World, (neA 24 (.agg (bV D).toArray) (.agg (bV z32).toArray)).run Tryd.prog W = .ok (.bool false) W := fun W => by rw [HNQ.out W, decide_eq_true hd]; rfl
    have HA : Hid (mayS D = false) := by unfold Hid; rw [HMS.out, decide_eq_true hd]; rfl
    have hbz := bdd0
    generalize bV z32 = LZ at *
    clear hd
    have hS := hS.drew
    refine wp_region_held_drew (S := Bx w [(w.heap.size, 24, bV D), (g3, 24, bV E)]) (by kernel_rfl) (hS.pre 2) (fun _ => ?_)
    generalize U2.drew = U1 at hS ⊢
    have hP : Bx w [(w.heap.size, 24, bV D), (g3, 24, bV E)] U1 := hS.pre 2
    refine wpAnyH_take (i := 0) (v := ?_) rfl (by kernel_rfl) (by kernel_rfl) (by kernel_rfl) (fun _ _ _ h => h) (Or.inl ⟨by rfl, ?_⟩) (by assumption) ?_
    rotate_left
    · intro wq hSq
      have hl := ldDd HD.out (hSq.get 0 rfl)
      go_simp
      try with_reducible rfl
    simp only [List.getElem_toArray, List.getElem_cons_zero, Act.put, List.setIfInBounds_toArray, List.set_cons_zero, List.set_cons_succ]
    refine wpAnyH_take (i := 1) (v := ?_) rfl (by kernel_rfl) (by kernel_rfl) (by kernel_rfl) (fun _ _ _ h => h) (Or.inl ⟨by rfl, ?_⟩) (by assumption) ?_
    rotate_left
    · intro wq hSq
      have hl := hbz wq
      go_simp
      try with_reducible rfl
    simp only [List.getElem_toArray, List.getElem_cons_succ, List.getElem_cons_zero, Act.put, List.setIfInBounds_toArray, List.set_cons_zero, List.set_cons_succ]
    refine wpAnyH_take (i := 2) (v := ?_) rfl (by kernel_rfl) (by kernel_rfl) (by kernel_rfl) (fun _ _ _ h => h) (Or.inl ⟨by rfl, ?_⟩) (by assumption) ?_
    rotate_left
    · intro wq hSq
      have hl := hne wq
      go_simp
      try with_reducible rfl
    simp only [List.getElem_toArray, List.getElem_cons_succ, List.getElem_cons_zero, Act.put, List.setIfInBounds_toArray, List.set_cons_zero, List.set_cons_succ]
    refine wpAnyH_take (i := 3) (v := ?_) rfl (by kernel_rfl) (by kernel_rfl) (by kernel_rfl) (fun _ _ _ h => h) (Or.inl ⟨by rfl, ?_⟩) (by assumption) ?_
    rotate_left
    · intro wq hSq
      go_simp
      try with_reducible rfl
    simp only [List.getElem_toArray, List.getElem_cons_succ, List.getElem_cons_zero, Act.put, List.setIfInBounds_toArray, List.set_cons_zero, List.set_cons_succ]
    refine wpAnyH_take (i := 4) (v := undef) rfl (by kernel_rfl) (by kernel_rfl) (by kernel_rfl) (fun _ _ _ h => h) (Or.inr ⟨by rfl, rfl⟩) (by assumption) ?_
    simp only [List.getElem_toArray, List.getElem_cons_succ, List.getElem_cons_zero, Act.put, List.setIfInBounds_toArray, List.set_cons_zero, List.set_cons_succ]
    refine wpAnyH_take (i := 5) (v := undef) rfl (by kernel_rfl) (by kernel_rfl) (by kernel_rfl) (fun _ _ _ h => h) (Or.inr ⟨by rfl, rfl⟩) (by assumption) ?_
    simp only [List.getElem_toArray, List.getElem_cons_succ, List.getElem_cons_zero, Act.put, List.setIfInBounds_toArray, List.set_cons_zero, List.set_cons_succ]
    refine wpAnyH_take (i := 6) (v := undef) rfl (by kernel_rfl) (by kernel_rfl) (by kernel_rfl) (fun _ _ _ h => h) (Or.inr ⟨by rfl, rfl⟩) (by assumption) ?_
    simp only [List.getElem_toArray, List.getElem_cons_succ, List.getElem_cons_zero, Act.put, List.setIfInBounds_toArray, List.set_cons_zero, List.set_cons_succ]
    refine wpAnyH_take (i := 7) (v := undef) rfl (by kernel_rfl) (by kernel_rfl) (by kernel_rfl) (fun _ _ _ h => h) (Or.inr ⟨by rfl, rfl⟩) (by assumption) ?_
    simp only [List.getElem_toArray, List.getElem_cons_succ, List.getElem_cons_zero, Act.put, List.setIfInBounds_toArray, List.set_cons_zero, List.set_cons_succ]
    refine wpAnyH_take (i := 8) (v := ?_) rfl (by kernel_rfl) (by kernel_rfl) (by kernel_rfl) (fun _ _ _ h => h) (Or.inl ⟨by rfl, ?_⟩) (by assumption) ?_
    rotate_left
    · intro wq hSq
      go_simp
      try with_reducible rfl
    simp only [List.getElem_toArray, List.getElem_cons_succ, List.getElem_cons_zero, Act.put, List.setIfInBounds_toArray, List.set_cons_zero, List.set_cons_succ]
    refine wpAnyH_ready (rs := [9]) (by kernel_rfl) (by simp) ?_
    refine AllReadyH.cons rfl (fun Kq hKq => ?_) AllReadyH.nil
    go_simp
    refine hKq.out _ _ (hS.pre 2) (fun _ => ?_)
    clear hKq Kq
    clear hP
    refine wpAnyH_done (by kernel_rfl) ?_ _
    have U9 := hide hS.bl
    clear hS hne
    go_wp2
    go_ret
    exact ⟨by rw [HA.out]; rfl, U9.out⟩
  · have hne : ∀ W : World, (neA 24 (.agg (bV D).toArray) (.agg (bV z32).toArray)).run Tryd.prog W = .ok (.bool true) W := fun W => by rw [HNQ.out W, decide_eq_false hd]; rfl
    have HA : Hid (mayS D = decide (c < 0)) := by unfold Hid; rw [HMS.out, decide_eq_false hd]; rfl
    have hbz := bdd0
    generalize bV z32 = LZ at *
    clear hd
    have hS := hS.drew
    refine wp_region_held_drew (S := Bx w [(w.heap.size, 24, bV D), (g3, 24, bV E)]) (by kernel_rfl) (hS.pre 2) (fun _ => ?_)
    generalize U2.drew = U1 at hS ⊢
    have hP : Bx w [(w.heap.size, 24, bV D), (g3, 24, bV E)] U1 := hS.pre 2
    refine wpAnyH_take (i := 0) (v := ?_) rfl (by kernel_rfl) (by kernel_rfl) (by kernel_rfl) (fun _ _ _ h => h) (Or.inl ⟨by rfl, ?_⟩) (by assumption) ?_
    rotate_left
    · intro wq hSq
      have hl := ldDd HD.out (hSq.get 0 rfl)
      go_simp
      try with_reducible rfl
    simp only [List.getElem_toArray, List.getElem_cons_zero, Act.put, List.setIfInBounds_toArray, List.set_cons_zero, List.set_cons_succ]
    refine wpAnyH_take (i := 1) (v := ?_) rfl (by kernel_rfl) (by kernel_rfl) (by kernel_rfl) (fun _ _ _ h => h) (Or.inl ⟨by rfl, ?_⟩) (by assumption) ?_
    rotate_left
    · intro wq hSq
      have hl := hbz wq
      go_simp
      try with_reducible rfl
    simp only [List.getElem_toArray, List.getElem_cons_succ, List.getElem_cons_zero, Act.put, List.setIfInBounds_toArray, List.set_cons_zero, List.set_cons_succ]
    refine wpAnyH_take (i := 2) (v := ?_) rfl (by kernel_rfl) (by kernel_rfl) (by kernel_rfl) (fun _ _ _ h => h) (Or.inl ⟨by rfl, ?_⟩) (by assumption) ?_
    rotate_left
    · intro wq hSq
      have hl := hne wq
      go_simp
      try with_reducible rfl
    simp only [List.getElem_toArray, List.getElem_cons_succ, List.getElem_cons_zero, Act.put, List.setIfInBounds_toArray, List.set_cons_zero, List.set_cons_succ]
    refine wpAnyH_take (i := 3) (v := ?_) rfl (by kernel_rfl) (by kernel_rfl) (by kernel_rfl) (fun _ _ _ h => h) (Or.inl ⟨by rfl, ?_⟩) (by assumption) ?_
    rotate_left
    · intro wq hSq
      go_simp
      try with_reducible rfl
    simp only [List.getElem_toArray, List.getElem_cons_succ, List.getElem_cons_zero, Act.put, List.setIfInBounds_toArray, List.set_cons_zero, List.set_cons_succ]
    refine wpAnyH_take (i := 4) (v := ?_) rfl (by kernel_rfl) (by kernel_rfl) (by kernel_rfl) (fun _ _ _ h => h) (Or.inl ⟨by rfl, ?_⟩) (by assumption) ?_
    rotate_left
    · intro wq hSq
      go_simp
      try with_reducible rfl
    simp only [List.getElem_toArray, List.getElem_cons_succ, List.getElem_cons_zero, Act.put, List.setIfInBounds_toArray, List.set_cons_zero, List.set_cons_succ]
    refine wpAnyH_take (i := 5) (v := ?_) rfl (by kernel_rfl) (by kernel_rfl) (by kernel_rfl) (fun _ _ _ h => h) (Or.inl ⟨by rfl, ?_⟩) (by assumption) ?_
    rotate_left
    · intro wq hSq
      go_simp
      try with_reducible rfl
    simp only [List.getElem_toArray, List.getElem_cons_succ, List.getElem_cons_zero, Act.put, List.setIfInBounds_toArray, List.set_cons_zero, List.set_cons_succ]
    clear hP
    refine wpAnyH_ready (rs := [6]) (by kernel_rfl) (by simp) ?_
    refine AllReadyH.cons rfl (fun Kq hKq => ?_) AllReadyH.nil
    go_simp
    refine (HCM.out _ (hS.get 0 rfl) (hS.get 1 rfl)).mono ?_
    rintro e U2 ⟨rfl, LB⟩
    have hS := hS.below LB
    clear LB
    refine hKq.out _ _ (hS.pre 2) (fun _ => ?_)
    clear hKq Kq
    have hP : Bx w [(w.heap.size, 24, bV D), (g3, 24, bV E)] U2 := hS.pre 2
    refine wpAnyH_take (i := 7) (v := ?_) rfl (by kernel_rfl) (by kernel_rfl) (by kernel_rfl) (fun _ _ _ h => h) (Or.inl ⟨by rfl, ?_⟩) (by assumption) ?_
    rotate_left
    · intro wq hSq
      go_simp
      try with_reducible rfl
    simp only [List.getElem_toArray, List.getElem_cons_succ, List.getElem_cons_zero, Act.put, List.setIfInBounds_toArray, List.set_cons_zero, List.set_cons_succ]
    refine wpAnyH_take (i := 8) (v := ?_) rfl (by kernel_rfl) (by kernel_rfl) (by kernel_rfl) (fun _ _ _ h => h) (Or.inl ⟨by rfl, ?_⟩) (by assumption) ?_
    rotate_left
    · intro wq hSq
      go_simp
      try with_reducible rfl
    simp only [List.getElem_toArray, List.getElem_cons_succ, List.getElem_cons_zero, Act.put, List.setIfInBounds_toArray, List.set_cons_zero, List.set_cons_succ]
    refine wpAnyH_ready (rs := [9]) (by kernel_rfl) (by simp) ?_
    refine AllReadyH.cons rfl (fun Kq hKq => ?_) AllReadyH.nil
    go_simp
    refine hKq.out _ _ (hS.pre 2) (fun _ => ?_)
    clear hKq Kq
    clear hP
    refine wpAnyH_done (by kernel_rfl) ?_ _
    have U9 := hide hS.bl
    clear hS hne
    go_wp2
    go_ret
    exact ⟨by rw [HA.out]; rfl, U9.out⟩

end Go.Proofs.YtnabmdpgibnkaabDoor
