/-
  What Mul answers is so many times the point as its bytes say; the base's times. Plain facts.
  The document's numbers, each by its one row of eight words; what its small calls answer, told so.
  The document's twice, where it is far.
-/
import Derived.Test.YtcijjmncilciiaaDoorZEcGToCvInv
import Derived.Test.YtcijjmncilciiaaDoorZEcSToCvMu
import Derived.Test.YtcijjmncilciiaaDoorZCrOn
import Derived.Test.YtcijjmncilciiaaDoorZBxMToCvN
import Derived.Deep.DeepCutAuto
namespace Go.Proofs.YtcijjmncilciiaaDoor

theorem bn_in (K : List Int) (hd : Dg 256 K) (j : Nat) : ∀ c, c ≤ 8 → ((bn (kbit K) (8 * j + c) : Nat) : Int) = (bn (kbit K) (8 * j) : Nat) * 2 ^ c + K.getD j 0 / 2 ^ (8 - c)
  | 0, _ => by
    have hx := hd.at (by decide) j
    have e : K.getD j 0 / 2 ^ (8 - 0) = 0 := Int.ediv_eq_zero_of_lt hx.1 hx.2
    rw [e, Int.pow_zero, Int.mul_one, Nat.add_zero, Int.add_zero]
  | c + 1, hc => by
    have IH := bn_in K hd j c (by omega)
    have hx := hd.at (by decide) j
    have ek : kbit K (8 * j + c) = decide (K.getD j 0 / 2 ^ (7 - c) % 2 = 1) := by
      unfold kbit
      rw [show (8 * j + c) / 8 = j by omega, show (8 * j + c) % 8 = c by omega]
    have es : K.getD j 0 / 2 ^ (8 - c) = K.getD j 0 / 2 ^ (7 - c) / 2 := by
      rw [Int.ediv_ediv_of_nonneg (Int.le_of_lt (Int.pow_pos (by decide))), ← Int.pow_succ, show (7 - c).succ = 8 - c by omega]
    rw [es] at IH
    rw [show 8 * j + (c + 1) = (8 * j + c) + 1 by omega, bn, ek, show 8 - (c + 1) = 7 - c by omega, Int.pow_succ]
    generalize K.getD j 0 / 2 ^ (7 - c) = y at *
    rw [← Int.mul_assoc]
    generalize ((bn (kbit K) (8 * j) : Nat) : Int) * 2 ^ c = z at *
    by_cases h : y % 2 = 1
    · rw [decide_eq_true h, if_pos rfl]
      omega
    · rw [decide_eq_false h, if_neg (by decide)]
      omega
theorem bn_take (K : List Int) (hd : Dg 256 K) : ∀ j, j ≤ K.length → ((bn (kbit K) (8 * j) : Nat) : Int) = dn (K.take j)
  | 0, _ => by rw [List.take_zero]; rfl
  | j + 1, hj => by
    have IH := bn_take K hd j (by omega)
    have h := bn_in K hd j 8 (by omega)
    have e1 : K.getD j 0 / 2 ^ (8 - 8) = K.getD j 0 := Int.ediv_one _
    rw [e1] at h
    have e2 : K.take (j + 1) = K.take j ++ [K.getD j 0] := by
      rw [List.take_add_one]
      simp [List.getD, show j < K.length by omega]
    have e3 : dn (K.take (j + 1)) = K.getD j 0 + 256 * dn (K.take j) := by
      unfold dn
      rw [e2, List.reverse_append]
      rfl
    rw [e3, ← IH, show 8 * (j + 1) = 8 * j + 8 by omega, h]
    omega
theorem pmul_dn {K : List Int} (hd : Dg 256 K) (hl : K.length = 32) {p : Option (Int × Int)} (h : Ok p) : pmul (kbit K) p 256 = tms (dn K).toNat p := by
  have h1 := bn_take K hd 32 (by omega)
  rw [← hl, List.take_length] at h1
  rw [hl] at h1
  rw [pmul_tms h 256]
  have e : bn (kbit K) 256 = (dn K).toNat := by
    rw [← h1]
    rfl
  rw [e]

end Go.Proofs.YtcijjmncilciiaaDoor

namespace Go.Proofs.YtcijjmncilciiaaDoor
open Go.RowKit Go.IntWalk
theorem ld_J (v : Value) : Instr.loadAt 92 v = ldA 92 v := rfl
theorem st_J (v u : Value) : Instr.storeAt 92 v u = stA 92 v u := rfl
theorem bd_J (ps : Array (Nat × Value)) : Instr.build 92 ps = bdA 92 ps := rfl
theorem bd_F (ps : Array (Nat × Value)) : Instr.build 80 ps = bdA 80 ps := rfl

/-- Boxes that are new. -/
def zF : List Value := [.int .u64 0, .int .u64 0, .int .u64 0, .int .u64 0, .int .u64 0, .int .u64 0, .int .u64 0, .int .u64 0]
def z24 : List Value := [.int .u64 0, .int .u64 0, .int .u64 0, .int .u64 0, .int .u64 0, .int .u64 0, .int .u64 0, .int .u64 0, .int .u64 0, .int .u64 0, .int .u64 0, .int .u64 0, .int .u64 0, .int .u64 0, .int .u64 0, .int .u64 0, .int .u64 0, .int .u64 0, .int .u64 0, .int .u64 0, .int .u64 0, .int .u64 0, .int .u64 0, .int .u64 0]
/-- A number's eight cells. -/
def fL (x : Int) : List Value := fV (cw x)
theorem fL_len (x : Int) : (fL x).length = 8 := rfl
theorem fL_one (x : Int) : ∀ v ∈ fL x, v.oneCell' = true := ints_one _ _
theorem fw_nb {x : Int} (h : Nb x) : Fw (cw x) x := fw_cw h.1 (Int.lt_trans h.2 PP_RR)
theorem fw_fL {R : List Int} {x : Int} (h : Fw R x) (b : Nb x) : fV R = fL x := by
  have : R = cw x := (h.inj (fw_nb b)).2 rfl
  rw [this]
  rfl
theorem cw_zero : cw 0 = z8 := by decide +kernel
theorem fL_zero : fL 0 = [.int .u64 0, .int .u64 0, .int .u64 0, .int .u64 0, .int .u64 0, .int .u64 0, .int .u64 0, .int .u64 0] := by unfold fL; rw [cw_zero]; rfl
theorem one_nb : Nb ONE := by unfold Nb; decide
theorem sq_nb : Nb SQ := by unfold Nb; decide
theorem zero_nb : Nb 0 := by unfold Nb; decide
theorem oneW_fL : fV oneW = fL ONE := fw_fL fw_oneW one_nb
theorem sqW_fL : fV sqW = fL SQ := fw_fL fw_sqW sq_nb
theorem ldf {T : TypeId} {w : World} {g : Nat} {x : Int} (h : Blk T w g (fL x)) : (ldA 80 (.pointer (some ⟨g, 0, none⟩))).run Tryd.prog w = .ok (.agg (fL x).toArray) w :=
  ldA_all Tryd.underlying80 rfl (by kernel_rfl) h
theorem stf {T : TypeId} {w : World} {g : Nat} {Z : List Value} (h : Blk T w g Z) (hZ : Z.length = 8) (x : Int) : (stA 80 (.pointer (some ⟨g, 0, none⟩)) (.agg (fL x).toArray)).run Tryd.prog w = .ok () (w.setCells g 0 (fL x)) :=
  stA_all (vs := fL x) (by kernel_rfl) h hZ (fL_one x)
theorem stfn (w : World) (x : Int) : (stA 80 (.pointer (some ⟨w.heap.size, 0, none⟩)) (.agg (fL x).toArray)).run Tryd.prog (w.alloc (.cells #[.int .u64 0, .int .u64 0, .int .u64 0, .int .u64 0, .int .u64 0, .int .u64 0, .int .u64 0, .int .u64 0] 80)) = .ok () (w.alloc (.cells (fL x).toArray 80)) :=
  run_storeAt_new (P := Tryd.prog) w 80 _ (fL x).toArray (by kernel_rfl) rfl (all_oneCell_toArray (fL_one x))

/-- Three of them: a point by x / z z, y / z z z. -/
def j3 (x y z : Int) : List Value := fL x ++ fL y ++ fL z
theorem j3_one (x y z : Int) : ∀ v ∈ j3 x y z, v.oneCell' = true := by
  intro v hv
  rcases List.mem_append.1 hv with hv | hv
  · rcases List.mem_append.1 hv with hv | hv
    · exact fL_one x v hv
    · exact fL_one y v hv
  · exact fL_one z v hv
theorem ldj3 {T : TypeId} {w : World} {g : Nat} {x y z : Int} (h : Blk T w g (j3 x y z)) :
    (ldA 80 (.pointer (some ⟨g, 0, none⟩))).run Tryd.prog w = .ok (.agg (fL x).toArray) w ∧ (ldA 80 (.pointer (some ⟨g, 8, none⟩))).run Tryd.prog w = .ok (.agg (fL y).toArray) w ∧ (ldA 80 (.pointer (some ⟨g, 16, none⟩))).run Tryd.prog w = .ok (.agg (fL z).toArray) w :=
  ⟨ldA_mid (A := []) (X := fL x) (C := fL y ++ fL z) Tryd.underlying80 rfl (by kernel_rfl) (by rw [List.nil_append, ← List.append_assoc]; exact h) rfl, ldA_mid (A := fL x) (X := fL y) (C := fL z) Tryd.underlying80 rfl (by kernel_rfl) h rfl, ldA_mid (A := fL x ++ fL y) (X := fL z) (C := []) Tryd.underlying80 rfl (by kernel_rfl) (by rw [List.append_nil]; exact h) rfl⟩
theorem ldj {T : TypeId} {w : World} {g : Nat} {x y z : Int} (h : Blk T w g (j3 x y z)) : (ldA 92 (.pointer (some ⟨g, 0, none⟩))).run Tryd.prog w = .ok (.agg (j3 x y z).toArray) w :=
  ldA_all Tryd.underlying92 rfl (by kernel_rfl) h
theorem stj {T : TypeId} {w : World} {g : Nat} {Z : List Value} (h : Blk T w g Z) (hZ : Z.length = 24) (x y z : Int) : (stA 92 (.pointer (some ⟨g, 0, none⟩)) (.agg (j3 x y z).toArray)).run Tryd.prog w = .ok () (w.setCells g 0 (j3 x y z)) :=
  stA_all (vs := j3 x y z) (by kernel_rfl) h hZ (j3_one x y z)

theorem bdj3 (x y z : Int) (w : World) : (bdA 92 #[(0, .agg (fL x).toArray), (1, .agg (fL y).toArray), (2, .agg (fL z).toArray)]).run Tryd.prog w = .ok (.agg (j3 x y z).toArray) w := by kernel_rfl
theorem bdf0 (w : World) : (bdA 80 #[]).run Tryd.prog w = .ok (.agg (fL 0).toArray) w := by rw [fL_zero]; kernel_rfl

/-- The field lies at gf. -/
def FF (w : World) (gf : Nat) : Prop := Fd w gf oneW sqW 1
theorem FF.at {w W : World} {gf : Nat} (h : FF w gf) (b : Below w.heap.size w W) : FF W gf := Fd.below h b
theorem FF.ld1 {w : World} {gf : Nat} (h : FF w gf) : (ldA 80 (.pointer (some ⟨gf, 8, none⟩))).run Tryd.prog w = .ok (.agg (fL ONE).toArray) w := by rw [← oneW_fL]; exact Fd.ldOne h
theorem FF.ldS {w : World} {gf : Nat} (h : FF w gf) : (ldA 80 (.pointer (some ⟨gf, 16, none⟩))).run Tryd.prog w = .ok (.agg (fL SQ).toArray) w := by rw [← sqW_fL]; exact Fd.ldSq h

theorem rmulN {gf : Nat} {x y : Int} (hx : Nb x) (hy : Nb y) (w : World) (hF : FF w gf) : Calls Tryd.prog 40 #[.pointer (some ⟨gf, 0, none⟩), .agg (fL x).toArray, .agg (fL y).toArray] w (Ans (.agg (fL (mm x y)).toArray) w) := by
  refine (rmul_any gf _ _ x y (fw_nb hx) (fw_nb hy) hx.2 w (Fd.fm hF) (Fd.low hF)).mono ?_
  rintro e w1 ⟨R, rfl, hR, LB⟩
  rw [fw_fL hR (mm_bd _ _)]
  exact ⟨rfl, LB⟩
theorem raddN {gf : Nat} {x y : Int} (hx : Nb x) (hy : Nb y) (w : World) (hF : FF w gf) : Calls Tryd.prog 42 #[.pointer (some ⟨gf, 0, none⟩), .agg (fL x).toArray, .agg (fL y).toArray] w (Ans (.agg (fL (pa x y)).toArray) w) := by
  refine (radd_any gf _ _ x y (fw_nb hx) (fw_nb hy) hx.2 hy.2 w (Fd.fm hF)).mono ?_
  rintro e w1 ⟨R, rfl, hR, LB⟩
  rw [fw_fL hR (pa_bd _ _)]
  exact ⟨rfl, LB⟩
theorem rsubN {gf : Nat} {x y : Int} (hx : Nb x) (hy : Nb y) (w : World) (hF : FF w gf) : Calls Tryd.prog 41 #[.pointer (some ⟨gf, 0, none⟩), .agg (fL x).toArray, .agg (fL y).toArray] w (Ans (.agg (fL (ps x y)).toArray) w) := by
  refine (rsub_any gf _ _ x y (fw_nb hx) (fw_nb hy) hx.2 hy.2 w (Fd.fm hF)).mono ?_
  rintro e w1 ⟨R, rfl, hR, LB⟩
  rw [fw_fL hR (ps_bd _ _)]
  exact ⟨rfl, LB⟩
theorem rzeroN {x : Int} (hx : Nb x) (w : World) : Calls Tryd.prog 70 #[.agg (fL x).toArray] w (Ans (.bool (decide (x = 0))) w) :=
  rzero_any _ x (fw_nb hx) w

end Go.Proofs.YtcijjmncilciiaaDoor

namespace Go.Proofs.YtcijjmncilciiaaDoor
open Go.RowKit Go.IntWalk
attribute [local go_sem ↓] ld_F st_F eq_F ld_J st_J bd_J bd_F

set_option maxRecDepth 100000 in
set_option maxHeartbeats 8000000 in
theorem twice_z (gf : Nat) (x y z : Int) (b_z : Nb z) (hz : z = 0)  (w : World) (hF : FF w gf) :
    Calls Tryd.prog 49 #[.pointer (some ⟨gf, 0, none⟩), .agg (j3 x y z).toArray] w (Ans (.agg (j3 ONE ONE 0).toArray) w) := by
  have HF := hide hF
  have C14 : Hid (∀ W, Calls Tryd.prog 70 #[.agg (fL z).toArray] W (Ans (.bool (decide (z = 0))) W)) := fun W => rzeroN b_z W
  have hS : Bx w [(w.heap.size, 92, (j3 x y z)), (w.heap.size + 1, 92, z24)] ((w.alloc (.cells (j3 x y z).toArray 92)).alloc (.cells #[.int .u64 0, .int .u64 0, .int .u64 0, .int .u64 0, .int .u64 0, .int .u64 0, .int .u64 0, .int .u64 0, .int .u64 0, .int .u64 0, .int .u64 0, .int .u64 0, .int .u64 0, .int .u64 0, .int .u64 0, .int .u64 0, .int .u64 0, .int .u64 0, .int .u64 0, .int .u64 0, .int .u64 0, .int .u64 0, .int .u64 0, .int .u64 0] 92)) := (((Bx.nil w).newAt 0 (w.heap.size) (by simp) 92 (j3 x y z) _ rfl).newAt 1 (w.heap.size + 1) (by simp) 92 z24 _ rfl)
  have o1 := j3_one x y z
  have HZ : Hid (decide (z = 0) = true) := decide_eq_true hz
  clear hz
  clear hF b_z
  go_enter Tryd.func49, Tryd.ntmps49
  have hl := (ldj3 (hS.get 0 rfl)).2.2
  go_wp2_with fail
  refine (C14.out _).mono ?_
  rintro e U901 ⟨rfl, LB⟩
  clear o1 hl
  have hS := hS.below LB
  clear LB
  rw [HZ.out]
  go_wp2
  have hS := hS.drew
  refine wp_region_held_drew (S := Bx w [(w.heap.size, 92, (j3 x y z))]) (by kernel_rfl) (hS.pre 1) (fun _ => ?_)
  generalize U901.drew = U1 at hS ⊢
  have hP : Bx w [(w.heap.size, 92, (j3 x y z))] U1 := hS.pre 1
  refine wpAnyH_take (i := 0) (v := ?_) rfl (by kernel_rfl) (by kernel_rfl) (by kernel_rfl) (fun _ _ _ h => h) (Or.inl ⟨by rfl, ?_⟩) (by assumption) ?_
  rotate_left
  · intro wq hSq
    go_simp
    try with_reducible rfl
  simp only [List.getElem_toArray, List.getElem_cons_zero, Act.put, List.setIfInBounds_toArray, List.set_cons_zero, List.set_cons_succ]
  refine wpAnyH_take (i := 1) (v := ?_) rfl (by kernel_rfl) (by kernel_rfl) (by kernel_rfl) (fun _ _ _ h => h) (Or.inl ⟨by rfl, ?_⟩) (by assumption) ?_
  rotate_left
  · intro wq hSq
    go_simp
    try with_reducible rfl
  simp only [List.getElem_toArray, List.getElem_cons_succ, List.getElem_cons_zero, Act.put, List.setIfInBounds_toArray, List.set_cons_zero, List.set_cons_succ]
  refine wpAnyH_take (i := 2) (v := ?_) rfl (by kernel_rfl) (by kernel_rfl) (by kernel_rfl) (fun _ _ _ h => h) (Or.inl ⟨by rfl, ?_⟩) (by assumption) ?_
  rotate_left
  · intro wq hSq
    go_simp
    try with_reducible rfl
  simp only [List.getElem_toArray, List.getElem_cons_succ, List.getElem_cons_zero, Act.put, List.setIfInBounds_toArray, List.set_cons_zero, List.set_cons_succ]
  refine wpAnyH_take (i := 3) (v := ?_) rfl (by kernel_rfl) (by kernel_rfl) (by kernel_rfl) (fun _ _ _ h => h) (Or.inl ⟨by rfl, ?_⟩) (by assumption) ?_
  rotate_left
  · intro wq hSq
    have hl := (HF.out.at hSq.bl).ld1
    go_simp
    try with_reducible rfl
  simp only [List.getElem_toArray, List.getElem_cons_succ, List.getElem_cons_zero, Act.put, List.setIfInBounds_toArray, List.set_cons_zero, List.set_cons_succ]
  refine wpAnyH_take (i := 4) (v := ?_) rfl (by kernel_rfl) (by kernel_rfl) (by kernel_rfl) (fun _ _ _ h => h) (Or.inl ⟨by rfl, ?_⟩) (by assumption) ?_
  rotate_left
  · intro wq hSq
    go_simp
    try with_reducible rfl
  simp only [List.getElem_toArray, List.getElem_cons_succ, List.getElem_cons_zero, Act.put, List.setIfInBounds_toArray, List.set_cons_zero, List.set_cons_succ]
  refine wpAnyH_take (i := 5) (v := ?_) rfl (by kernel_rfl) (by kernel_rfl) (by kernel_rfl) (fun _ _ _ h => h) (Or.inl ⟨by rfl, ?_⟩) (by assumption) ?_
  rotate_left
  · intro wq hSq
    go_simp
    try with_reducible rfl
  simp only [List.getElem_toArray, List.getElem_cons_succ, List.getElem_cons_zero, Act.put, List.setIfInBounds_toArray, List.set_cons_zero, List.set_cons_succ]
  refine wpAnyH_take (i := 6) (v := ?_) rfl (by kernel_rfl) (by kernel_rfl) (by kernel_rfl) (fun _ _ _ h => h) (Or.inl ⟨by rfl, ?_⟩) (by assumption) ?_
  rotate_left
  · intro wq hSq
    go_simp
    try with_reducible rfl
  simp only [List.getElem_toArray, List.getElem_cons_succ, List.getElem_cons_zero, Act.put, List.setIfInBounds_toArray, List.set_cons_zero, List.set_cons_succ]
  refine wpAnyH_take (i := 7) (v := ?_) rfl (by kernel_rfl) (by kernel_rfl) (by kernel_rfl) (fun _ _ _ h => h) (Or.inl ⟨by rfl, ?_⟩) (by assumption) ?_
  rotate_left
  · intro wq hSq
    have hl := (HF.out.at hSq.bl).ld1
    go_simp
    try with_reducible rfl
  simp only [List.getElem_toArray, List.getElem_cons_succ, List.getElem_cons_zero, Act.put, List.setIfInBounds_toArray, List.set_cons_zero, List.set_cons_succ]
  refine wpAnyH_take (i := 8) (v := ?_) rfl (by kernel_rfl) (by kernel_rfl) (by kernel_rfl) (fun _ _ _ h => h) (Or.inl ⟨by rfl, ?_⟩) (by assumption) ?_
  rotate_left
  · intro wq hSq
    have hl := bdf0 wq
    go_simp
    try with_reducible rfl
  simp only [List.getElem_toArray, List.getElem_cons_succ, List.getElem_cons_zero, Act.put, List.setIfInBounds_toArray, List.set_cons_zero, List.set_cons_succ]
  refine wpAnyH_take (i := 9) (v := ?_) rfl (by kernel_rfl) (by kernel_rfl) (by kernel_rfl) (fun _ _ _ h => h) (Or.inl ⟨by rfl, ?_⟩) (by assumption) ?_
  rotate_left
  · intro wq hSq
    have hl := bdj3 ONE ONE 0 wq
    go_simp
    try with_reducible rfl
  simp only [List.getElem_toArray, List.getElem_cons_succ, List.getElem_cons_zero, Act.put, List.setIfInBounds_toArray, List.set_cons_zero, List.set_cons_succ]
  clear hP
  have hst := stj (hS.get 1 rfl) rfl ONE ONE 0
  refine wpAnyH_ready (rs := [10]) (by kernel_rfl) (by simp) ?_
  refine AllReadyH.cons rfl (fun Kq hKq => ?_) AllReadyH.nil
  go_simp
  have hS' : Bx w [(w.heap.size, 92, (j3 x y z)), (w.heap.size + 1, 92, (j3 ONE ONE 0))] (U1.setCells (w.heap.size + 1) 0 (j3 ONE ONE 0)) := hS.setAt 1 (j3 ONE ONE 0) rfl rfl
  refine hKq.out _ _ (hS'.pre 1) (fun _ => ?_)
  clear hKq Kq hst hS
  have hS := hS'
  clear hS'
  generalize U1.setCells (w.heap.size + 1) 0 (j3 ONE ONE 0) = U2 at hS ⊢
  refine wpAnyH_done (by kernel_rfl) ?_ _
  go_wp2
  refine bodyPost_ret (v := .agg (j3 ONE ONE 0).toArray) ?_ rfl ⟨rfl, hS.bl⟩
  exact res_one (T := 92) (p := 4) (ty := 92) (X := j3 ONE ONE 0) (by kernel_rfl) _ _ rfl Tryd.underlying92 rfl (by kernel_rfl) (hS.get 1 rfl)

set_option maxRecDepth 100000 in
set_option maxHeartbeats 8000000 in
theorem twice_y (gf : Nat) (x y z : Int) (b_y : Nb y) (b_z : Nb z) (hz : z ≠ 0) (hy : y = 0)  (w : World) (hF : FF w gf) :
    Calls Tryd.prog 49 #[.pointer (some ⟨gf, 0, none⟩), .agg (j3 x y z).toArray] w (Ans (.agg (j3 ONE ONE 0).toArray) w) := by
  have HF := hide hF
  have C14 : Hid (∀ W, Calls Tryd.prog 70 #[.agg (fL z).toArray] W (Ans (.bool (decide (z = 0))) W)) := fun W => rzeroN b_z W
  have C18 : Hid (∀ W, Calls Tryd.prog 70 #[.agg (fL y).toArray] W (Ans (.bool (decide (y = 0))) W)) := fun W => rzeroN b_y W
  have hS : Bx w [(w.heap.size, 92, (j3 x y z)), (w.heap.size + 1, 92, z24)] ((w.alloc (.cells (j3 x y z).toArray 92)).alloc (.cells #[.int .u64 0, .int .u64 0, .int .u64 0, .int .u64 0, .int .u64 0, .int .u64 0, .int .u64 0, .int .u64 0, .int .u64 0, .int .u64 0, .int .u64 0, .int .u64 0, .int .u64 0, .int .u64 0, .int .u64 0, .int .u64 0, .int .u64 0, .int .u64 0, .int .u64 0, .int .u64 0, .int .u64 0, .int .u64 0, .int .u64 0, .int .u64 0] 92)) := (((Bx.nil w).newAt 0 (w.heap.size) (by simp) 92 (j3 x y z) _ rfl).newAt 1 (w.heap.size + 1) (by simp) 92 z24 _ rfl)
  have o1 := j3_one x y z
  have HZ : Hid (decide (z = 0) = false) := decide_eq_false hz
  have HY : Hid (decide (y = 0) = true) := decide_eq_true hy
  clear hz hy
  clear hF b_y b_z
  go_enter Tryd.func49, Tryd.ntmps49
  have hl := (ldj3 (hS.get 0 rfl)).2.2
  go_wp2_with fail
  refine (C14.out _).mono ?_
  rintro e U901 ⟨rfl, LB⟩
  clear o1 hl
  have hS := hS.below LB
  clear LB
  rw [HZ.out]
  have hl := (ldj3 (hS.get 0 rfl)).2.1
  go_wp2_with fail
  refine (C18.out _).mono ?_
  rintro e U902 ⟨rfl, LB⟩
  clear hl
  have hS := hS.below LB
  clear LB
  rw [HY.out]
  go_wp2
  have hS := hS.drew
  refine wp_region_held_drew (S := Bx w [(w.heap.size, 92, (j3 x y z))]) (by kernel_rfl) (hS.pre 1) (fun _ => ?_)
  generalize U902.drew = U1 at hS ⊢
  have hP : Bx w [(w.heap.size, 92, (j3 x y z))] U1 := hS.pre 1
  refine wpAnyH_take (i := 0) (v := ?_) rfl (by kernel_rfl) (by kernel_rfl) (by kernel_rfl) (fun _ _ _ h => h) (Or.inl ⟨by rfl, ?_⟩) (by assumption) ?_
  rotate_left
  · intro wq hSq
    go_simp
    try with_reducible rfl
  simp only [List.getElem_toArray, List.getElem_cons_zero, Act.put, List.setIfInBounds_toArray, List.set_cons_zero, List.set_cons_succ]
  refine wpAnyH_take (i := 1) (v := ?_) rfl (by kernel_rfl) (by kernel_rfl) (by kernel_rfl) (fun _ _ _ h => h) (Or.inl ⟨by rfl, ?_⟩) (by assumption) ?_
  rotate_left
  · intro wq hSq
    go_simp
    try with_reducible rfl
  simp only [List.getElem_toArray, List.getElem_cons_succ, List.getElem_cons_zero, Act.put, List.setIfInBounds_toArray, List.set_cons_zero, List.set_cons_succ]
  refine wpAnyH_take (i := 2) (v := ?_) rfl (by kernel_rfl) (by kernel_rfl) (by kernel_rfl) (fun _ _ _ h => h) (Or.inl ⟨by rfl, ?_⟩) (by assumption) ?_
  rotate_left
  · intro wq hSq
    go_simp
    try with_reducible rfl
  simp only [List.getElem_toArray, List.getElem_cons_succ, List.getElem_cons_zero, Act.put, List.setIfInBounds_toArray, List.set_cons_zero, List.set_cons_succ]
  refine wpAnyH_take (i := 3) (v := ?_) rfl (by kernel_rfl) (by kernel_rfl) (by kernel_rfl) (fun _ _ _ h => h) (Or.inl ⟨by rfl, ?_⟩) (by assumption) ?_
  rotate_left
  · intro wq hSq
    have hl := (HF.out.at hSq.bl).ld1
    go_simp
    try with_reducible rfl
  simp only [List.getElem_toArray, List.getElem_cons_succ, List.getElem_cons_zero, Act.put, List.setIfInBounds_toArray, List.set_cons_zero, List.set_cons_succ]
  refine wpAnyH_take (i := 4) (v := ?_) rfl (by kernel_rfl) (by kernel_rfl) (by kernel_rfl) (fun _ _ _ h => h) (Or.inl ⟨by rfl, ?_⟩) (by assumption) ?_
  rotate_left
  · intro wq hSq
    go_simp
    try with_reducible rfl
  simp only [List.getElem_toArray, List.getElem_cons_succ, List.getElem_cons_zero, Act.put, List.setIfInBounds_toArray, List.set_cons_zero, List.set_cons_succ]
  refine wpAnyH_take (i := 5) (v := ?_) rfl (by kernel_rfl) (by kernel_rfl) (by kernel_rfl) (fun _ _ _ h => h) (Or.inl ⟨by rfl, ?_⟩) (by assumption) ?_
  rotate_left
  · intro wq hSq
    go_simp
    try with_reducible rfl
  simp only [List.getElem_toArray, List.getElem_cons_succ, List.getElem_cons_zero, Act.put, List.setIfInBounds_toArray, List.set_cons_zero, List.set_cons_succ]
  refine wpAnyH_take (i := 6) (v := ?_) rfl (by kernel_rfl) (by kernel_rfl) (by kernel_rfl) (fun _ _ _ h => h) (Or.inl ⟨by rfl, ?_⟩) (by assumption) ?_
  rotate_left
  · intro wq hSq
    go_simp
    try with_reducible rfl
  simp only [List.getElem_toArray, List.getElem_cons_succ, List.getElem_cons_zero, Act.put, List.setIfInBounds_toArray, List.set_cons_zero, List.set_cons_succ]
  refine wpAnyH_take (i := 7) (v := ?_) rfl (by kernel_rfl) (by kernel_rfl) (by kernel_rfl) (fun _ _ _ h => h) (Or.inl ⟨by rfl, ?_⟩) (by assumption) ?_
  rotate_left
  · intro wq hSq
    have hl := (HF.out.at hSq.bl).ld1
    go_simp
    try with_reducible rfl
  simp only [List.getElem_toArray, List.getElem_cons_succ, List.getElem_cons_zero, Act.put, List.setIfInBounds_toArray, List.set_cons_zero, List.set_cons_succ]
  refine wpAnyH_take (i := 8) (v := ?_) rfl (by kernel_rfl) (by kernel_rfl) (by kernel_rfl) (fun _ _ _ h => h) (Or.inl ⟨by rfl, ?_⟩) (by assumption) ?_
  rotate_left
  · intro wq hSq
    have hl := bdf0 wq
    go_simp
    try with_reducible rfl
  simp only [List.getElem_toArray, List.getElem_cons_succ, List.getElem_cons_zero, Act.put, List.setIfInBounds_toArray, List.set_cons_zero, List.set_cons_succ]
  refine wpAnyH_take (i := 9) (v := ?_) rfl (by kernel_rfl) (by kernel_rfl) (by kernel_rfl) (fun _ _ _ h => h) (Or.inl ⟨by rfl, ?_⟩) (by assumption) ?_
  rotate_left
  · intro wq hSq
    have hl := bdj3 ONE ONE 0 wq
    go_simp
    try with_reducible rfl
  simp only [List.getElem_toArray, List.getElem_cons_succ, List.getElem_cons_zero, Act.put, List.setIfInBounds_toArray, List.set_cons_zero, List.set_cons_succ]
  clear hP
  have hst := stj (hS.get 1 rfl) rfl ONE ONE 0
  refine wpAnyH_ready (rs := [10]) (by kernel_rfl) (by simp) ?_
  refine AllReadyH.cons rfl (fun Kq hKq => ?_) AllReadyH.nil
  go_simp
  have hS' : Bx w [(w.heap.size, 92, (j3 x y z)), (w.heap.size + 1, 92, (j3 ONE ONE 0))] (U1.setCells (w.heap.size + 1) 0 (j3 ONE ONE 0)) := hS.setAt 1 (j3 ONE ONE 0) rfl rfl
  refine hKq.out _ _ (hS'.pre 1) (fun _ => ?_)
  clear hKq Kq hst hS
  have hS := hS'
  clear hS'
  generalize U1.setCells (w.heap.size + 1) 0 (j3 ONE ONE 0) = U2 at hS ⊢
  refine wpAnyH_done (by kernel_rfl) ?_ _
  go_wp2
  refine bodyPost_ret (v := .agg (j3 ONE ONE 0).toArray) ?_ rfl ⟨rfl, hS.bl⟩
  exact res_one (T := 92) (p := 4) (ty := 92) (X := j3 ONE ONE 0) (by kernel_rfl) _ _ rfl Tryd.underlying92 rfl (by kernel_rfl) (hS.get 1 rfl)

end Go.Proofs.YtcijjmncilciiaaDoor
