/-
  The document's points and 32 bytes, told for the walks of its at and point.
  The document's Invert: the power p - 2.
-/
import Derived.Test.YtnabmdpgibnkaabDoorCvMuToCrN
import Derived.Test.YtnabmdpgibnkaabDoorCrFrom
import Derived.Test.YtnabmdpgibnkaabDoorCrDecToCvThe
import Derived.Deep.DeepCutAuto
namespace Go.Proofs.YtnabmdpgibnkaabDoor
open Go.RowKit Go.IntWalk

theorem rpt_inf {T : TypeId} {w : World} {g : Nat} {X Y : List Int} {f : Bool} (hX : X.length = 32) (hY : Y.length = 32) (h : Blk T w g (pL X Y f)) : w.cell? ⟨g, 64, none⟩ = some (.bool f) := by
  rw [h.cell]
  simp [pL, hX, hY]
theorem rfromN {X : List Int} (hX : X.length = 32) (dX : Dg 256 X) (h : Nb (dn X)) (w : World) : Calls Tryd.prog 47 #[.agg (bV X).toArray] w (Ans (.agg (fL (dn X)).toArray) w) := by
  refine (rfrom_any X dX hX w).mono ?_
  rintro e w1 ⟨R, rfl, hR, LB⟩
  rw [fw_fL hR h]
  exact ⟨rfl, LB⟩
theorem rtoN {x : Int} (h : Nb x) (w : World) : Calls Tryd.prog 43 #[.agg (fL x).toArray] w (Ans (.agg (bV (be x)).toArray) w) := rto_any _ x (fw_nb h) w
theorem stR {T : TypeId} {w : World} {g : Nat} {Z : List Value} {X Y : List Int} {f : Bool} (h : Blk T w g Z) (hZ : Z.length = 65) (hX : X.length = 32) (hY : Y.length = 32) : (stA 41 (.pointer (some ⟨g, 0, none⟩)) (.agg (pL X Y f).toArray)).run Tryd.prog w = .ok () (w.setCells g 0 (pL X Y f)) :=
  stA_all (by rw [pL_len hX hY]; exact info_rpt) h (by rw [hZ, pL_len hX hY]) (pL_one X Y f)
theorem nb_1 : Nb 1 := by unfold Nb; decide
theorem cw_1 : cw 1 = [1, 0, 0, 0, 0, 0, 0, 0] := by decide +kernel
theorem bdf1 (w : World) : (bdA 98 #[(0, .int .u64 1)]).run Tryd.prog w = .ok (.agg (fL 1).toArray) w := by unfold fL; rw [cw_1]; kernel_rfl

end Go.Proofs.YtnabmdpgibnkaabDoor

namespace Go.Proofs.YtnabmdpgibnkaabDoor
open Go.RowKit Go.IntWalk
attribute [local go_sem ↓] ld_F st_F eq_F bd_F

/-- The words of p - 2. -/
def eW8 : List Int := [4294967293, 4294967295, 4294967295, 0, 0, 0, 1, 4294967295]
def two8 : List Int := [2, 0, 0, 0, 0, 0, 0, 0]
theorem fw_eW8 : Fw eW8 (PP - 2) := ⟨rfl, by intro x hx; simp [eW8] at hx; omega, by decide⟩
theorem fw_two8 : Fw two8 2 := ⟨rfl, by intro x hx; simp [two8] at hx; omega, by decide⟩
theorem bdf2 (w : World) : (bdA 98 #[(0, .int .u64 2)]).run Tryd.prog w = .ok (.agg (fV two8).toArray) w := by kernel_rfl
theorem eBit : ∀ i, i < 256 → (eW8.getD (i / 32) 0) / 2 ^ (i % 32) % 2 = ((EE / 2 ^ i % 2 : Nat) : Int) := by decide +kernel
theorem eWord : ∀ q, q < 8 → 0 ≤ eW8.getD q 0 := by decide
theorem eDown (k : Nat) : EE / 2 ^ k = 2 * (EE / 2 ^ (k + 1)) + EE / 2 ^ k % 2 := by
  rw [Nat.pow_succ, ← Nat.div_div_eq_div_mul]
  omega
theorem eTop : EE / 2 ^ 256 = 0 := by decide +kernel
theorem eEnd : EE / 2 ^ 0 = EE := by rw [Nat.pow_zero, Nat.div_one]

set_option maxRecDepth 100000 in
set_option maxHeartbeats 2000000 in
theorem rinvN {gf : Nat} {x : Int} (hx : Nb x) (w : World) (hF : FF w gf) : Calls Tryd.prog 90 #[.pointer (some ⟨gf, 0, none⟩), .agg (fL x).toArray] w (Ans (.agg (fL (mpw x EE)).toArray) w) := by
  have HF := hide hF
  have HX := hide hx
  have o1 := fL_one x
  have hS : Bx w [(w.heap.size, 98, fL x), (w.heap.size + 1, 98, [.int .u64 0, .int .u64 0, .int .u64 0, .int .u64 0, .int .u64 0, .int .u64 0, .int .u64 0, .int .u64 0])] ((w.alloc (.cells (fL x).toArray 98)).alloc (.cells #[.int .u64 0, .int .u64 0, .int .u64 0, .int .u64 0, .int .u64 0, .int .u64 0, .int .u64 0, .int .u64 0] 98)) := ((Bx.nil w).newAt 0 (w.heap.size) (by simp) 98 (fL x) _ rfl).newAt 1 (w.heap.size + 1) (by simp) 98 _ _ rfl
  have HM : Hid (∀ W, Calls Tryd.prog 88 #[.agg (fV pW).toArray, .agg (fV two8).toArray] W (Rm PP 2 W)) := fun W => rminus_any pW two8 PP 2 fw_pW fw_two8 W
  have hbd := bdf2
  have hlm := (Fd.fm (hF.at hS.bl)).ld
  clear hF hx
  go_enter Tryd.func90, Tryd.ntmps90
  go_wp2_with fail
  refine (HM.out _).mono ?_
  rintro e U1 ⟨R, rfl, hR, LB⟩
  obtain rfl : R = eW8 := (hR.inj fw_eW8).2 (by decide)
  have hS := hS.below LB
  clear LB hR hlm hbd HM o1
  have hst := st8n U1 eW8 rfl
  have hS' : Bx w [(w.heap.size, 98, fL x), (w.heap.size + 1, 98, [.int .u64 0, .int .u64 0, .int .u64 0, .int .u64 0, .int .u64 0, .int .u64 0, .int .u64 0, .int .u64 0]), (U1.heap.size, 98, fV eW8)] (U1.alloc (.cells (fV eW8).toArray 98)) := hS.newAt 2 U1.heap.size rfl 98 (fV eW8) _ rfl
  clear hS
  have hS := hS'
  clear hS'
  go_upto_region 2 with fail
  generalize U1.alloc (.cells (fV eW8).toArray 98) = U2 at hS ⊢
  generalize U1.heap.size = g5 at hS ⊢
  clear hst
  have hl1 := (HF.out.at hS.bl).ld1
  have hst := stfn U2 ONE
  have hS' : Bx w [(w.heap.size, 98, fL x), (w.heap.size + 1, 98, [.int .u64 0, .int .u64 0, .int .u64 0, .int .u64 0, .int .u64 0, .int .u64 0, .int .u64 0, .int .u64 0]), (g5, 98, fV eW8), (U2.heap.size, 98, fL ONE)] (U2.alloc (.cells (fL ONE).toArray 98)) := hS.newAt 3 U2.heap.size rfl 98 (fL ONE) _ rfl
  clear hS
  have hS := hS'
  clear hS'
  go_upto_region 3 with fail
  generalize U2.alloc (.cells (fL ONE).toArray 98) = U3 at hS ⊢
  generalize U2.heap.size = g7 at hS ⊢
  clear hst hl1
  have HS0 : Hid (Bx w [(w.heap.size, 98, fL x), (w.heap.size + 1, 98, [.int .u64 0, .int .u64 0, .int .u64 0, .int .u64 0, .int .u64 0, .int .u64 0, .int .u64 0, .int .u64 0]), (g5, 98, fV eW8), (g7, 98, fL (mpw x (EE / 2 ^ 256)))] U3) := by rw [eTop]; exact hS
  clear hS
  go_wp2
  go_loopw [8] (fun iv wr => ∃ (k : Nat), iv = .int .i64 ((k : Int) - 1) ∧ k ≤ 256 ∧ Hid (Bx w [(w.heap.size, 98, fL x), (w.heap.size + 1, 98, [.int .u64 0, .int .u64 0, .int .u64 0, .int .u64 0, .int .u64 0, .int .u64 0, .int .u64 0, .int .u64 0]), (g5, 98, fV eW8), (g7, 98, fL (mpw x (EE / 2 ^ k)))] wr)) (fun iv _ => ((intOf iv) + 1).toNat)
  case atStart => exact ⟨256, rfl, by omega, HS0⟩
  case round =>
    clear HS0
    obtain ⟨k, rfl, hk, HS⟩ := hrel
    by_cases h0 : k = 0
    · subst h0
      obtain ⟨v, hv⟩ : ∃ v, mpw x EE = v := ⟨_, rfl⟩
      have hS := HS.out
      rw [eEnd] at hS
      have HV := hide hv
      rw [hv] at hS
      clear hv
      have hl := ldf (hS.get 3 rfl)
      have hst := stf (hS.get 1 rfl) rfl v
      have hS' : Bx w [(w.heap.size, 98, fL x), (w.heap.size + 1, 98, fL v), (g5, 98, fV eW8), (g7, 98, fL v)] (wr.setCells (w.heap.size + 1) 0 (fL v)) := hS.setAt 1 (fL v) rfl rfl
      clear hS HS
      go_wp2
      generalize wr.setCells (w.heap.size + 1) 0 (fL v) = U9 at hS' ⊢
      refine bodyPost_ret (v := .agg (fL v).toArray) ?_ rfl ⟨by rw [HV.out], hS'.bl⟩
      exact res_one (T := 98) (p := 4) (ty := 98) (X := fL v) (by kernel_rfl) _ _ rfl Tryd.underlying98 rfl (by kernel_rfl) (hS'.get 1 rfl)
    · obtain ⟨i, rfl⟩ : ∃ i, k = i + 1 := ⟨k - 1, by omega⟩
      obtain ⟨N, hN⟩ : ∃ N, EE / 2 ^ (i + 1) = N := ⟨_, rfl⟩
      have hdn := eDown i
      rw [hN] at hdn
      have hbit := eBit i (by omega)
      obtain ⟨b, hb⟩ : ∃ b, EE / 2 ^ i % 2 = b := ⟨_, rfl⟩
      rw [hb] at hbit hdn
      have hb01 : b = 0 ∨ b = 1 := by omega
      have hS := HS.out
      rw [hN] at hS
      obtain ⟨q, hq⟩ : ∃ q, i / 32 = q := ⟨_, rfl⟩
      obtain ⟨r, hr⟩ : ∃ r, i % 32 = r := ⟨_, rfl⟩
      have hy0 := eWord q (by omega)
      have hcell : ∀ W, Blk 98 W g5 (fV eW8) → W.cell? ⟨g5, q, none⟩ = some (.int .u64 (eW8.getD q 0)) := fun W h => blk_cell h q (by show q < 8; omega)
      rw [hq, hr] at hbit
      obtain ⟨y, hy⟩ : ∃ y, eW8.getD q 0 = y := ⟨_, rfl⟩
      rw [hy] at hbit hcell hy0
      have hiv : ((i + 1 : Nat) : Int) - 1 = (i : Int) := by omega
      have td : Int.tdiv (i : Int) 32 = (q : Int) := by rw [Int.tdiv_eq_ediv_of_nonneg (by omega)]; omega
      have tm : Int.tmod (i : Int) 32 = (r : Int) := by rw [Int.tmod_eq_emod_of_nonneg (by omega)]; omega
      obtain ⟨z, hsh⟩ : ∃ z, y / 2 ^ r = z := ⟨_, rfl⟩
      rw [hsh] at hbit
      have z0 : 0 ≤ z := by rw [← hsh]; exact Int.ediv_nonneg hy0 (Int.pow_nonneg (by decide))
      have tz : Int.tmod z 2 = (b : Int) := by rw [Int.tmod_eq_emod_of_nonneg z0]; exact hbit
      have qb : (q : Int) ≤ 7 := by omega
      have rb : (r : Int) ≤ 31 := by omega
      have ib : (i : Int) ≤ 255 := by omega
      have HC := hide hcell
      have BN : Hid (Nb (mpw x N)) := mpw_bd _ _
      have BM2 : Hid (Nb (mpw x (2 * N))) := mpw_bd _ _
      have C1 : Hid (∀ W, Below w.heap.size w W → Calls Tryd.prog 50 #[.pointer (some ⟨gf, 0, none⟩), .agg (fL (mpw x N)).toArray, .agg (fL (mpw x N)).toArray] W (Ans (.agg (fL (mpw x (2 * N))).toArray) W)) := fun W hW => by rw [← mpw_dbl]; exact rmulN BN.out BN.out W (HF.out.at hW)
      have C2 : Hid (∀ W, Below w.heap.size w W → Calls Tryd.prog 50 #[.pointer (some ⟨gf, 0, none⟩), .agg (fL (mpw x (2 * N))).toArray, .agg (fL x).toArray] W (Ans (.agg (fL (mpw x (2 * N + 1))).toArray) W)) := fun W hW => rmulN BM2.out HX.out W (HF.out.at hW)
      have HD := hide hdn
      have hl := ldf (hS.get 3 rfl)
      clear hN hbit hb hq hr hy hdn HS hcell h0 hy0
      rw [hiv]
      go_wp2_with fail
      refine (C1.out _ hS.bl).mono ?_
      rintro e U1 ⟨rfl, LB⟩
      have hS := hS.below LB
      clear LB hl
      have hst := stf (hS.get 3 rfl) rfl (mpw x (2 * N))
      have hS' : Bx w [(w.heap.size, 98, fL x), (w.heap.size + 1, 98, [.int .u64 0, .int .u64 0, .int .u64 0, .int .u64 0, .int .u64 0, .int .u64 0, .int .u64 0, .int .u64 0]), (g5, 98, fV eW8), (g7, 98, fL (mpw x (2 * N)))] (U1.setCells g7 0 (fL (mpw x (2 * N)))) := hS.setAt 3 (fL (mpw x (2 * N))) rfl rfl
      clear hS
      have hS := hS'
      clear hS'
      go_upto_region 7 with fail
      generalize U1.setCells g7 0 (fL (mpw x (2 * N))) = U2 at hS ⊢
      clear hst
      have hc := HC.out _ (hS.get 2 rfl)
      have hl3 := ldf (hS.get 3 rfl)
      have hl0 := ldf (hS.get 0 rfl)
      rcases hb01 with rfl | rfl
      · go_wp2
        go_roundw
        case rel => exact ⟨i, by go_num, by omega, by unfold Hid; rw [HD.out]; exact hS⟩
        case measure => simp [intOf]
      · go_wp2_with fail
        refine (C2.out _ hS.bl).mono ?_
        rintro e U3 ⟨rfl, LB⟩
        have hS := hS.below LB
        clear LB hl3 hl0 hc
        have hst := stf (hS.get 3 rfl) rfl (mpw x (2 * N + 1))
        have hS' : Bx w [(w.heap.size, 98, fL x), (w.heap.size + 1, 98, [.int .u64 0, .int .u64 0, .int .u64 0, .int .u64 0, .int .u64 0, .int .u64 0, .int .u64 0, .int .u64 0]), (g5, 98, fV eW8), (g7, 98, fL (mpw x (2 * N + 1)))] (U3.setCells g7 0 (fL (mpw x (2 * N + 1)))) := hS.setAt 3 (fL (mpw x (2 * N + 1))) rfl rfl
        clear hS
        have hS := hS'
        clear hS'
        go_wp2
        go_roundw
        case rel => exact ⟨i, by go_num, by omega, by unfold Hid; rw [HD.out]; exact hS⟩
        case measure => simp [intOf]

end Go.Proofs.YtnabmdpgibnkaabDoor
