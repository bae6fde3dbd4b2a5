/-
  The document's From and To: 32 bytes and eight words.
-/
import Derived.Test.YtcijjmncilciiaaDoorZCrMul
namespace Go.Proofs.YtcijjmncilciiaaDoor
open Go.RowKit Go.IntWalk
theorem ld_a32 (v : Value) : Instr.loadAt 22 v = ldA 22 v := rfl
theorem st_a32 (v u : Value) : Instr.storeAt 22 v u = stA 22 v u := rfl
attribute [local go_sem ↓] ld_F st_F eq_F ld_a32 st_a32
theorem info_a32 : (Tryd.prog.info? 22).map (·.size) = some 32 := by kernel_rfl

/-- Word j of what the first k bytes say. -/
def sg (D : List Int) : Nat → Nat → Int
  | 0, _ => 0
  | k + 1, j => if j = 7 - k / 4 then sg D k j * 256 + D.getD k 0 else sg D k j
def gn (D : List Int) : Nat → Int
  | 0 => 0
  | k + 1 => D.getD k 0 + 256 * gn D k

theorem gn_dn (D : List Int) : ∀ k, k ≤ D.length → gn D k = val 256 (D.take k).reverse
  | 0, _ => by simp [gn, val]
  | k + 1, h => by rw [gn, gn_dn D k (by omega), take_rev D k (by omega)]

def w8 (D : List Int) (k : Nat) : List Int := [sg D k 0, sg D k 1, sg D k 2, sg D k 3, sg D k 4, sg D k 5, sg D k 6, sg D k 7]

set_option maxRecDepth 100000 in
theorem w8_dn (D : List Int) (hl : D.length = 32) : val 4294967296 (w8 D 32) = dn D := by
  have e : dn D = gn D 32 := by rw [gn_dn D 32 (by omega), List.take_of_length_le (by omega)]; rfl
  rw [e]
  simp only [w8, val, sg, gn]
  simp
  omega

theorem sg_bd (D : List Int) (hd : Dg 256 D) (j : Nat) : ∀ k, k ≤ 32 → 0 ≤ sg D k j ∧ sg D k j < pw 256 (min 4 (k - 4 * (7 - j)))
  | 0, _ => ⟨by simp [sg], by rw [sg]; exact pw_pos (by decide) _⟩
  | k + 1, hk => by
    obtain ⟨h0, h1⟩ := sg_bd D hd j k (by omega)
    have hb := hd.at (by decide : (0 : Int) < 256) k
    rw [sg]
    by_cases hj : j = 7 - k / 4
    · rw [if_pos hj]
      have e1 : min 4 (k - 4 * (7 - j)) = k % 4 := by omega
      have e2 : min 4 (k + 1 - 4 * (7 - j)) = k % 4 + 1 := by omega
      rw [e1] at h1
      rw [e2, show pw 256 (k % 4 + 1) = 256 * pw 256 (k % 4) from rfl]
      omega
    · rw [if_neg hj]
      have := pw_mono (b := 256) (by decide) (min 4 (k - 4 * (7 - j))) (min 4 (k + 1 - 4 * (7 - j))) (by omega)
      omega

theorem sg_small (D : List Int) (hd : Dg 256 D) (j k : Nat) (hk : k ≤ 32) : 0 ≤ sg D k j ∧ sg D k j < 4294967296 := by
  obtain ⟨h0, h1⟩ := sg_bd D hd j k hk
  have := pw_mono (b := 256) (by decide) (min 4 (k - 4 * (7 - j))) 4 (by omega)
  rw [show pw 256 4 = 4294967296 by decide] at this
  omega

theorem w8_get (D : List Int) (k j : Nat) (hj : j < 8) : (w8 D k).getD j 0 = sg D k j := by
  rcases j with _ | _ | _ | _ | _ | _ | _ | _ | j
  all_goals first | rfl | omega

theorem w8_dg (D : List Int) (hd : Dg 256 D) (k : Nat) (hk : k ≤ 32) : Dg 4294967296 (w8 D k) := by
  intro x hx
  simp only [w8, List.mem_cons, List.not_mem_nil, or_false] at hx
  rcases hx with rfl | rfl | rfl | rfl | rfl | rfl | rfl | rfl <;> exact sg_small D hd _ k hk

theorem w8_set (D : List Int) (k q : Nat) (hq : 7 - k / 4 = q) : (w8 D k).set q (sg D k q * 256 + D.getD k 0) = w8 D (k + 1) := by
  refine ext_getD (n := 8) (by simp [w8]) rfl fun j hj => ?_
  rw [w8_get D (k + 1) j hj, sg]
  by_cases h : j = 7 - k / 4
  · rw [if_pos h]
    have : j = q := by omega
    subst this
    rw [List.getD, List.getElem?_set_self (by simp [w8]; omega)]
    rfl
  · rw [if_neg h, List.getD, List.getElem?_set_ne (by omega)]
    exact w8_get D k j hj

set_option maxRecDepth 100000 in
set_option maxHeartbeats 2000000 in
theorem rfrom_any (D : List Int) (hd : Dg 256 D) (hl : D.length = 32) (w : World) :
    Calls Tryd.prog 37 #[.agg (bV D).toArray] w (Rf (dn D) w) := by
  have HL := hide hl
  have HD := hide hd
  have hone : ∀ v ∈ bV D, v.oneCell' = true := ints_one _ _
  obtain ⟨L, hL⟩ : ∃ L, bV D = L := ⟨_, rfl⟩
  rw [hL] at hone ⊢
  have K0 : Hid (Blk 22 (((w.alloc (.cells L.toArray 22)).alloc (.cells (fV z8).toArray 80)).alloc (.cells (fV z8).toArray 80)) w.heap.size (bV D)) := by rw [hL]; exact ((Blk.new w _ _ _ rfl rfl).alloc _).alloc _
  clear hL hl hd
  go_enter Tryd.func37, Tryd.ntmps37
  go_wp2
  go_loopw [4] (fun i wr => ∃ (k : Nat), i = .int .i64 (k : Int) ∧ k ≤ 32 ∧ Hid (RowG .u64 4294967296 80 wr (w.heap.size + 1 + 1) (w8 D k)) ∧ Hid (Blk 22 wr w.heap.size (bV D)) ∧ Hid (Blk 80 wr (w.heap.size + 1) (fV z8)) ∧ Hid (Below w.heap.size w wr)) (fun i _ => 32 - (intOf i).toNat)
  case atStart =>
    refine ⟨0, rfl, by omega, ⟨?_, w8_dg D HD.out 0 (by omega)⟩, K0, ?_, below3 w _ _ _⟩
    · exact Blk.new _ (fV z8) _ _ rfl (by simp)
    · exact (Blk.new _ (fV z8) _ _ rfl (by simp)).alloc _
  case round =>
    clear K0
    obtain ⟨k, rfl, hk, HR, HB, H0, HW⟩ := hrel
    by_cases hk32 : k < 32
    · obtain ⟨q0, hq0⟩ : ∃ q, k / 4 = q := ⟨_, rfl⟩
      obtain ⟨q, hqe⟩ : ∃ q, 7 - k / 4 = q := ⟨_, rfl⟩
      have td : Int.tdiv (k : Int) 4 = (q0 : Int) := by rw [Int.tdiv_eq_ediv_of_nonneg (by omega)]; omega
      have h7 : (7 : Int) - (q0 : Int) = (q : Int) := by omega
      have e2 := HR.out.cell q (by show q < 8; omega)
      rw [w8_get D k q (by omega)] at e2
      have e3 := HR.out.frozen q
      have bq := sg_bd D HD.out q k (by omega)
      have hd := HD.out.at (by decide : (0 : Int) < 256) k
      have cd : wr.cell? ⟨w.heap.size, k, none⟩ = some (.int .u8 (D.getD k 0)) := by
        rw [HB.out.cell]
        simp [bV, List.getD, HL.out, hk32]
      have hset := w8_set D k q hqe
      have hsm := sg_small D HD.out q (k + 1) (by omega)
      rw [sg, if_pos (by omega)] at hsm
      obtain ⟨z, hz⟩ : ∃ z, sg D k q = z := ⟨_, rfl⟩
      obtain ⟨d, hdd⟩ : ∃ d, D.getD k 0 = d := ⟨_, rfl⟩
      rw [hz] at e2 bq hset hsm
      rw [hdd] at hd cd hset hsm
      have w1 : IntKind.u64.wrap (z * 256) = z * 256 := by rw [IntKind.wrap_u64]; exact Int.emod_eq_of_lt (by omega) (by omega)
      have w2 : IntKind.u64.wrap (z * 256 + d) = z * 256 + d := by rw [IntKind.wrap_u64]; exact Int.emod_eq_of_lt (by omega) (by omega)
      have w3 : IntKind.u64.wrap d = d := by rw [IntKind.wrap_u64]; exact Int.emod_eq_of_lt (by omega) (by omega)
      have HR' := hide (HR.out.set q (z * 256 + d) hsm)
      rw [hset] at HR'
      have HB' := hide (HB.out.kept (gSet wr (w.heap.size + 1 + 1) q (.int .u64 (z * 256 + d))) (by simp; omega))
      have H0' := hide (H0.out.kept (gSet wr (w.heap.size + 1 + 1) q (.int .u64 (z * 256 + d))) (by simp))
      have HW' : Hid (Below w.heap.size w (wr.setCell ⟨w.heap.size + 1 + 1, q, none⟩ (.int .u64 (z * 256 + d)))) := HW.out.setCell (by show w.heap.size ≤ w.heap.size + 1 + 1; omega) _
      have qb : (q : Int) ≤ 7 := by omega
      have q0b : (q0 : Int) ≤ 7 := by omega
      have kb : (k : Int) ≤ 31 := by omega
      clear hq0 hqe hset hz hdd bq hd hsm HR HB H0 HW
      go_wp2
      go_region
      go_wp2
      exact ⟨⟨k + 1, by go_num, by omega, HR'.out.heap rfl, HB'.out.heap rfl, H0'.out.heap rfl, ⟨HW'.out.os, HW'.out.tape, HW'.out.output, HW'.out.size, HW'.out.block⟩⟩, by simp [intOf]; omega⟩
    · obtain rfl : k = 32 := by omega
      have HF : Hid (Fw (w8 D 32) (dn D)) := ⟨rfl, HR.out.2, w8_dn D HL.out⟩
      have HB1 := hide HR.out.blk
      generalize w8 D 32 = A at HF HB1
      have hld := ldF HF.out.len HB1.out
      have hst := stF8 HF.out.len H0.out rfl
      clear HR HB HB1
      go_wp2
      exact retF (p := 2) (by kernel_rfl) rfl H0.out rfl HF.out HW.out (by omega)

set_option maxRecDepth 100000 in
set_option maxHeartbeats 2000000 in
theorem rto_any (A : List Int) (x : Int) (hA : Fw A x) (w : World) :
    Calls Tryd.prog 33 #[.agg (fV A).toArray] w fun e w' => e = .returned (.agg (bV (be x)).toArray) ∧ Below w.heap.size w w' := by
  have HA := hide hA
  have hone : ∀ v ∈ fV A, v.oneCell' = true := ints_one _ _
  obtain ⟨L, hL⟩ : ∃ L, fV A = L := ⟨_, rfl⟩
  rw [hL] at hone ⊢
  have K0 : Hid (Blk 80 (((w.alloc (.cells L.toArray 80)).alloc (.cells (bV z32).toArray 22)).alloc (.cells (bV z32).toArray 22)) w.heap.size (fV A)) := by rw [hL]; exact ((Blk.new w _ _ _ rfl rfl).alloc _).alloc _
  clear hL hA
  go_enter Tryd.func33, Tryd.ntmps33
  go_wp2
  go_loopw [4] (fun i wr => ∃ (k : Nat) (Z : List Int), i = .int .i64 (k : Int) ∧ k ≤ 32 ∧ Hid (Z.length = 32) ∧ Hid (RowG .u8 256 22 wr (w.heap.size + 1 + 1) Z) ∧ Hid (Z.take k = (be x).take k) ∧ Hid (Blk 80 wr w.heap.size (fV A)) ∧ Hid (Blk 22 wr (w.heap.size + 1) (bV z32)) ∧ Hid (Below w.heap.size w wr)) (fun i _ => 32 - (intOf i).toNat)
  case atStart =>
    refine ⟨0, z32, rfl, by omega, rfl, ⟨?_, ?_⟩, rfl, K0, ?_, below3 w _ _ _⟩
    · exact Blk.new _ (bV z32) _ _ rfl (by simp)
    · intro y hy
      simp [z32] at hy
      omega
    · exact (Blk.new _ (bV z32) _ _ rfl (by simp)).alloc _
  case round =>
    clear K0
    obtain ⟨k, Z, rfl, hk, HZ, HR, HT, KA, H0, HW⟩ := hrel
    by_cases hk32 : k < 32
    · obtain ⟨q0, hq0⟩ : ∃ q, k / 4 = q := ⟨_, rfl⟩
      obtain ⟨q, hqe⟩ : ∃ q, 7 - k / 4 = q := ⟨_, rfl⟩
      obtain ⟨r, hre⟩ : ∃ r, k % 4 = r := ⟨_, rfl⟩
      obtain ⟨t, hte⟩ : ∃ t, 3 - k % 4 = t := ⟨_, rfl⟩
      have td : Int.tdiv (k : Int) 4 = (q0 : Int) := by rw [Int.tdiv_eq_ediv_of_nonneg (by omega)]; omega
      have tm : Int.tmod (k : Int) 4 = (r : Int) := by rw [Int.tmod_eq_emod_of_nonneg (by omega)]; omega
      have h7 : (7 : Int) - (q0 : Int) = (q : Int) := by omega
      have hdig := cdig_at 4294967296 256 (by decide) 4 (by decide) HA.out.dg q t (by omega)
      rw [← cpw_4, ← pw_add, show 4 * q + t = 31 - k by omega, HA.out.v, ← be_at x k hk32] at hdig
      have hcell := blk_cell KA.out q (by rw [HA.out.len]; omega)
      have hyb := HA.out.dg.at (by decide : (0 : Int) < 4294967296) q
      obtain ⟨y, hy⟩ : ∃ y, A.getD q 0 = y := ⟨_, rfl⟩
      rw [hy] at hdig hcell hyb
      obtain ⟨T, hT⟩ : ∃ T : Int, (24 : Int) - (r : Int) * 8 = T := ⟨_, rfl⟩
      have hTt : T = 8 * (t : Int) := by omega
      have hsh : y / 2 ^ T.toNat = y / pw 256 t := by rw [← cpw_b, cpw_eq, hTt, show (8 * (t : Int)).toNat = 8 * t by omega]
      have hrw : IntKind.i64.wrap ((r : Int) * 8) = (r : Int) * 8 := by rw [IntKind.wrap_i64]; omega
      have hTw : IntKind.i64.wrap ((24 : Int) - (r : Int) * 8) = T := by rw [IntKind.wrap_i64]; omega
      obtain ⟨z, hz⟩ : ∃ z, y / pw 256 t = z := ⟨_, rfl⟩
      have z0 : 0 ≤ z := by rw [← hz]; exact Int.ediv_nonneg hyb.1 (Int.le_of_lt (pw_pos (b := 256) (by decide) t))
      rw [hz] at hsh hdig
      obtain ⟨d, hd⟩ : ∃ d, z % 256 = d := ⟨_, rfl⟩
      have wd : IntKind.u8.wrap z = d := by rw [← hd, IntKind.wrap_u8]
      have hd0 : 0 ≤ d ∧ d < 256 := by omega
      rw [hd] at hdig
      have t0 : 0 ≤ T := by omega
      have t1 : T ≤ 63 := by omega
      have qb : (q : Int) ≤ 7 := by omega
      have q0b : (q0 : Int) ≤ 7 := by omega
      have rb : (r : Int) ≤ 3 := by omega
      have kb : (k : Int) ≤ 31 := by omega
      have c0 := HR.out.cell k (by rw [HZ.out]; exact hk32)
      have f0 := HR.out.frozen k
      have HR' := hide (HR.out.set k d hd0)
      have HT' : Hid ((Z.set k d).take (k + 1) = (be x).take (k + 1)) := take_next (by rw [HZ.out]; exact hk32) HT.out (by rw [be_len]; exact hk32) hdig
      have KA' := hide (KA.out.kept (gSet wr (w.heap.size + 1 + 1) k (.int .u8 d)) (by simp; omega))
      have H0' := hide (H0.out.kept (gSet wr (w.heap.size + 1 + 1) k (.int .u8 d)) (by simp))
      have HW' : Hid (Below w.heap.size w (wr.setCell ⟨w.heap.size + 1 + 1, k, none⟩ (.int .u8 d))) := HW.out.setCell (by show w.heap.size ≤ w.heap.size + 1 + 1; omega) _
      have HZ' : Hid ((Z.set k d).length = 32) := by unfold Hid; rw [List.length_set]; exact HZ.out
      clear hq0 hqe hre hte hdig hy hyb hz hd HR HT KA H0 HW hTt HZ
      go_wp2
      exact ⟨⟨k + 1, Z.set k d, by go_num, by omega, HZ', HR', HT', KA', H0', HW'⟩, by simp [intOf]; omega⟩
    · obtain rfl : k = 32 := by omega
      have hZe : Z = be x := by
        have := HT.out
        rwa [List.take_of_length_le (by rw [HZ.out]; omega), List.take_of_length_le (by rw [be_len]; omega)] at this
      have HB1 := hide HR.out.blk
      rw [hZe] at HB1
      have hi : (Tryd.prog.info? 22).map (·.size) = some (bV (be x)).length := by rw [bV_len, be_len]; exact info_a32
      have hld : (ldA 22 (.pointer (some ⟨w.heap.size + 1 + 1, 0, none⟩))).run Tryd.prog wr = .ok (.agg (bV (be x)).toArray) wr := ldA_all Tryd.underlying22 rfl hi HB1.out
      have hst : (stA 22 (.pointer (some ⟨w.heap.size + 1, 0, none⟩)) (.agg (bV (be x)).toArray)).run Tryd.prog wr = .ok () (wr.setCells (w.heap.size + 1) 0 (bV (be x))) := stA_all hi H0.out (by rw [bV_len, bV_len, be_len]; rfl) (ints_one _ _)
      clear hZe HB1 HT KA HR
      go_wp2
      refine bodyPost_ret (v := .agg (bV (be x)).toArray) ?_ rfl ⟨rfl, below_sets HW.out (by omega) HW.out.size _ _⟩
      exact res_one (T := 22) (p := 2) (ty := 22) (g := w.heap.size + 1) (X := bV (be x)) (by kernel_rfl) _ _ rfl Tryd.underlying22 rfl hi (blk_all H0.out (by rw [bV_len, bV_len, be_len]; rfl))

end Go.Proofs.YtcijjmncilciiaaDoor
