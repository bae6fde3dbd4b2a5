/-
  curve.toDigest, curve.fromDigest: a number's words and its bytes.
  Points compared.
-/
import Derived.Test.YtcijjmncilciiaaDoorZCvD0ToBase
import Derived.Test.YtcijjmncilciiaaDoorZCvFldToCvCub
import Derived.Test.YtcijjmncilciiaaDoorZCvEqToCvLift
namespace Go.Proofs.YtcijjmncilciiaaDoor
open Go.RowKit Go.IntWalk

theorem V4_val (a0 a1 a2 a3 : Int) : val 18446744073709551616 [a0, a1, a2, a3] = V4 a0 a1 a2 a3 := by
  simp only [val, V4]
  omega

theorem dg4 {a0 a1 a2 a3 : Int} (h0 : is64 a0) (h1 : is64 a1) (h2 : is64 a2) (h3 : is64 a3) : Dg 18446744073709551616 [a0, a1, a2, a3] := by
  intro x hx
  simp only [List.mem_cons, List.not_mem_nil, or_false] at hx
  rcases hx with rfl | rfl | rfl | rfl
  · exact h0
  · exact h1
  · exact h2
  · exact h3

theorem take_next {Z Y : List Int} {k : Nat} {u : Int} (hZ : k < Z.length) (h : Z.take k = Y.take k) (hY : k < Y.length) (hu : Y.getD k 0 = u) : (Z.set k u).take (k + 1) = Y.take (k + 1) := by
  rw [List.take_set, List.take_succ_eq_append_getElem hZ, List.set_append_right _ _ (by simp; omega), List.take_succ_eq_append_getElem hY, h]
  have : Y[k] = u := by simpa [List.getD, hY] using hu
  simp [this, Nat.min_eq_left (Nat.le_of_lt hY)]

attribute [local go_sem ↓] ld_dig st_dig ld_pln st_pln

theorem info_dig : (Tryd.prog.info? 23).map (·.size) = some 32 := by kernel_rfl

/-- The bytes of a digest. -/
def bV (D : List Int) : List Value := D.map (Value.int .u8)

theorem bV_len (D : List Int) : (bV D).length = D.length := by simp [bV]
theorem rep32 : (List.replicate 32 (0 : Int)).map (Value.int .u8) = [.int .u8 0, .int .u8 0, .int .u8 0, .int .u8 0, .int .u8 0, .int .u8 0, .int .u8 0, .int .u8 0, .int .u8 0, .int .u8 0, .int .u8 0, .int .u8 0, .int .u8 0, .int .u8 0, .int .u8 0, .int .u8 0, .int .u8 0, .int .u8 0, .int .u8 0, .int .u8 0, .int .u8 0, .int .u8 0, .int .u8 0, .int .u8 0, .int .u8 0, .int .u8 0, .int .u8 0, .int .u8 0, .int .u8 0, .int .u8 0, .int .u8 0, .int .u8 0] := rfl

set_option maxRecDepth 100000 in
set_option maxHeartbeats 2000000 in
theorem toDigest_any (a0 a1 a2 a3 x : Int) (i0 : is64 a0) (i1 : is64 a1) (i2 : is64 a2) (i3 : is64 a3) (hx : V4 a0 a1 a2 a3 = x) (w : World) :
    Calls Tryd.prog 50 #[.agg #[.int .u64 a0, .int .u64 a1, .int .u64 a2, .int .u64 a3]] w fun e w' => e = .returned (.agg (bV (be x)).toArray) ∧ Below w.heap.size w w' := by
  have HX := hide hx
  have HD := hide (dg4 i0 i1 i2 i3)
  have HV := hide (V4_val a0 a1 a2 a3)
  clear hx i0 i1 i2 i3
  go_enter Tryd.func50, Tryd.ntmps50
  go_wp2
  go_loopw [6] (fun i wr => ∃ (k : Nat) (Z : List Int), i = .int .i64 (k : Int) ∧ k ≤ 32 ∧ Hid (Z.length = 32) ∧ Hid (RowG .u8 256 23 wr (w.heap.size + 1 + 1) Z) ∧ Hid (Z.take k = (be x).take k) ∧ Hid (Blk 99 wr w.heap.size (L4 a0 a1 a2 a3)) ∧ Hid (Blk 23 wr (w.heap.size + 1) ((List.replicate 32 (0 : Int)).map (Value.int .u8))) ∧ Hid (Below w.heap.size w wr)) (fun i _ => 32 - (intOf i).toNat)
  case atStart =>
    refine ⟨0, List.replicate 32 0, rfl, by omega, rfl, ⟨?_, ?_⟩, rfl, ?_, ?_, ?_⟩
    · exact Blk.new _ ((List.replicate 32 (0 : Int)).map (Value.int .u8)) _ _ rfl (by simp)
    · intro y hy
      simp at hy
      omega
    · exact ((Blk.new w _ _ _ rfl rfl).alloc _).alloc _
    · exact (Blk.new _ ((List.replicate 32 (0 : Int)).map (Value.int .u8)) _ _ rfl (by simp)).alloc _
    · exact below3 w _ _ _
  case round =>
    obtain ⟨k, Z, rfl, hk, HZ, HR, HT, HA, H0, HW⟩ := hrel
    by_cases hk32 : k < 32
    · obtain ⟨p, hpe⟩ : ∃ p, 31 - k = p := ⟨_, rfl⟩
      obtain ⟨q, hqe⟩ : ∃ q, p / 8 = q := ⟨_, rfl⟩
      obtain ⟨t, hte⟩ : ∃ t, p % 8 = t := ⟨_, rfl⟩
      have hpI : IntKind.i64.wrap ((31 : Int) - (k : Int)) = (p : Int) := by rw [IntKind.wrap_i64]; omega
      have td : Int.tdiv (p : Int) 8 = (q : Int) := by rw [Int.tdiv_eq_ediv_of_nonneg (by omega)]; omega
      have tm : Int.tmod (p : Int) 8 = (t : Int) := by rw [Int.tmod_eq_emod_of_nonneg (by omega)]; omega
      have hdig := cdig_at 18446744073709551616 256 (by decide) 8 (by decide) HD.out q t (by omega)
      rw [← cpw_8, ← pw_add, show 8 * q + t = 31 - k by omega, HV.out, HX.out, ← be_at x k hk32] at hdig
      obtain ⟨y, hy⟩ : ∃ y, [a0, a1, a2, a3].getD q 0 = y := ⟨_, rfl⟩
      have hyb : 0 ≤ y ∧ y < 18446744073709551616 := by rw [← hy]; exact HD.out.at (by decide) q
      rw [hy] at hdig
      have hcell : wr.cell? ⟨w.heap.size, q, none⟩ = some (.int .u64 y) := by
        rw [HA.out.cell, ← hy]
        have : q < 4 := by omega
        rcases q with _ | _ | _ | _ | q
        · rfl
        · rfl
        · rfl
        · rfl
        · omega
      obtain ⟨T, hT⟩ : ∃ T : Int, (t : Int) * 8 = T := ⟨_, rfl⟩
      have hsh : y / 2 ^ T.toNat = y / pw 256 t := by rw [← cpw_b, cpw_eq, ← hT, show ((t : Int) * 8).toNat = 8 * t by omega]
      have hTw : IntKind.i64.wrap ((t : Int) * 8) = T := by rw [IntKind.wrap_i64]; omega
      obtain ⟨z, hz⟩ : ∃ z, y / pw 256 t = z := ⟨_, rfl⟩
      have z0 : 0 ≤ z := by rw [← hz]; exact Int.ediv_nonneg hyb.1 (Int.le_of_lt (pw_pos (b := 256) (by decide) t))
      rw [hz] at hsh hdig
      obtain ⟨d, hd⟩ : ∃ d, z % 256 = d := ⟨_, rfl⟩
      have wd : IntKind.u8.wrap z = d := by rw [← hd, IntKind.wrap_u8]
      have hd0 : 0 ≤ d ∧ d < 256 := by omega
      rw [hd] at hdig
      have t0 : 0 ≤ T := by omega
      have t1 : T ≤ 63 := by omega
      have tb : (t : Int) ≤ 7 := by omega
      have qb : (q : Int) ≤ 3 := by omega
      have pb : (p : Int) ≤ 31 := by omega
      have kb : (k : Int) ≤ 31 := by omega
      have c0 := HR.out.cell k (by rw [HZ.out]; exact hk32)
      have f0 := HR.out.frozen k
      have HR' : Hid (RowG .u8 256 23 (wr.setCell ⟨w.heap.size + 1 + 1, k, none⟩ (.int .u8 d)) (w.heap.size + 1 + 1) (Z.set k d)) := HR.out.set k d hd0
      have HT' : Hid ((Z.set k d).take (k + 1) = (be x).take (k + 1)) := take_next (by rw [HZ.out]; exact hk32) HT.out (by rw [be_len]; exact hk32) hdig
      have HA' : Hid (Blk 99 (wr.setCell ⟨w.heap.size + 1 + 1, k, none⟩ (.int .u8 d)) w.heap.size (L4 a0 a1 a2 a3)) := HA.out.kept (gSet _ _ _ _) (by simp; omega)
      have H0' : Hid (Blk 23 (wr.setCell ⟨w.heap.size + 1 + 1, k, none⟩ (.int .u8 d)) (w.heap.size + 1) ((List.replicate 32 (0 : Int)).map (Value.int .u8))) := H0.out.kept (gSet _ _ _ _) (by simp)
      have HW' : Hid (Below w.heap.size w (wr.setCell ⟨w.heap.size + 1 + 1, k, none⟩ (.int .u8 d))) := HW.out.setCell (by show w.heap.size ≤ w.heap.size + 1 + 1; omega) _
      have HPE : Hid ((31 : Int) - (k : Int) = (p : Int)) := by unfold Hid; omega
      have hpk : (31 : Int) - (k : Int) = (p : Int) := by omega
      clear hpe hqe hte hdig hy hyb hz hd HR HT HA H0 HW hT
      go_wp2
      go_roundw
      case rel => exact ⟨k + 1, Z.set k d, by go_num, by omega, by unfold Hid; rw [List.length_set]; exact HZ.out, HR', HT', HA', H0', HW'⟩
      case measure => simp [intOf]; omega
    · obtain rfl : k = 32 := by omega
      have hZe : Z = be x := by
        have := HT.out
        rwa [List.take_of_length_le (by rw [HZ.out]; omega), List.take_of_length_le (by rw [be_len]; omega)] at this
      have HB1 := hide HR.out.blk
      rw [hZe] at HB1
      have hi : (Tryd.prog.info? 23).map (·.size) = some (bV (be x)).length := by rw [bV_len, be_len]; exact info_dig
      have hld : (ldA 23 (.pointer (some ⟨w.heap.size + 1 + 1, 0, none⟩))).run Tryd.prog wr = .ok (.agg (bV (be x)).toArray) wr := ldA_all Tryd.underlying23 rfl hi HB1.out
      have hst : (stA 23 (.pointer (some ⟨w.heap.size + 1, 0, none⟩)) (.agg (bV (be x)).toArray)).run Tryd.prog wr = .ok () (wr.setCells (w.heap.size + 1) 0 (bV (be x))) := stA_all hi H0.out (by simp [bV_len, be_len]) (ints_one _ _)
      clear hZe HB1 HT HA HR HD HV HX
      go_wp2
      refine bodyPost_ret (v := .agg (bV (be x)).toArray) ?_ rfl ⟨rfl, below_sets HW.out (by omega) HW.out.size _ _⟩
      exact res_one (T := 23) (p := 2) (ty := 23) (g := w.heap.size + 1) (X := bV (be x)) (by kernel_rfl) _ _ rfl Tryd.underlying23 rfl hi (blk_all H0.out (by simp [bV_len, be_len]))

theorem ix_dig (v i : Value) : Instr.index 23 v i = ixA 23 v i := rfl
attribute [local go_sem ↓] ix_dig

theorem ixD (l : List Int) (hl : l.length = 32) (k : Nat) (hk : k < 32) (w : World) : (ixA 23 (.agg (bV l).toArray) (.int .i64 (k : Int))).run Tryd.prog w = .ok (.int .u8 (l.getD k 0)) w := by
  have hs : (sizeOf 5).run Tryd.prog w = .ok 1 w := by kernel_rfl
  unfold ixA Instr.index
  simp only [Sem.run_bind, asIntOf, Sem.run_pure, Result.andThen_ok, run_underlying Tryd.underlying23]
  rw [if_pos (by omega)]
  simp [Sem.run_bind, hs, part, List.getD, hl, hk, bV]

theorem take_rev (D : List Int) (k : Nat) (hk : k < D.length) : val 256 (D.take (k + 1)).reverse = D.getD k 0 + 256 * val 256 (D.take k).reverse := by
  rw [List.take_succ_eq_append_getElem hk, List.reverse_append]
  simp [val, List.getD, hk]

theorem mult_next {Z : List Int} {k q t p : Nat} {m d : Int} (hZ : Z.length = 4) (hk : k < 32) (hp : 31 - k = p) (hq : p / 8 = q) (ht : p % 8 = t) (hm : Z.getD q 0 = m * pw 256 (t + 1)) (H : ∀ j, ∃ m, 0 ≤ m ∧ Z.getD j 0 = m * pw 256 (32 - k - 8 * j)) (hm0 : 0 ≤ m) (hd : 0 ≤ d) :
    ∀ j, ∃ m', 0 ≤ m' ∧ (Z.set q (m * pw 256 (t + 1) + d * pw 256 t)).getD j 0 = m' * pw 256 (32 - (k + 1) - 8 * j) := by
  intro j
  by_cases hj : j = q
  · subst hj
    refine ⟨m * 256 + d, by omega, ?_⟩
    have e : 32 - (k + 1) - 8 * j = t := by omega
    rw [e, show pw 256 (t + 1) = 256 * pw 256 t from rfl, List.getD, List.getElem?_set_self (by omega)]
    simp only [Option.getD_some]
    grind
  · have e0 : (Z.set q (m * pw 256 (t + 1) + d * pw 256 t)).getD j 0 = Z.getD j 0 := by
      rw [List.getD, List.getElem?_set_ne (fun h => hj h.symm)]; rfl
    obtain ⟨m', h0, h1⟩ := H j
    rw [e0, h1]
    by_cases hlt : 8 * j < 32 - k
    · refine ⟨m' * 256, by omega, ?_⟩
      rw [show 32 - k - 8 * j = (32 - (k + 1) - 8 * j) + 1 by omega, show ∀ n, pw 256 (n + 1) = 256 * pw 256 n from fun _ => rfl, Int.mul_assoc]
    · exact ⟨m', h0, by rw [show 32 - k - 8 * j = 0 by omega, show 32 - (k + 1) - 8 * j = 0 by omega]⟩

set_option maxRecDepth 100000 in
set_option maxHeartbeats 2000000 in
theorem fromDigest_any (D : List Int) (hd : Dg 256 D) (hl : D.length = 32) (w : World) :
    Calls Tryd.prog 63 #[.agg (bV D).toArray] w fun e w' => ∃ r0 r1 r2 r3, e = .returned (.agg #[.int .u64 r0, .int .u64 r1, .int .u64 r2, .int .u64 r3]) ∧ is64 r0 ∧ is64 r1 ∧ is64 r2 ∧ is64 r3 ∧ V4 r0 r1 r2 r3 = dn D ∧ Below w.heap.size w w' := by
  have HL := hide hl
  have HD := hide hd
  have hbox : (bV D).length = 32 := by rw [bV_len, hl]
  have hi : (Tryd.prog.info? 23).map (·.size) = some (bV D).length := by rw [hbox]; exact info_dig
  have HI := hide hi
  obtain ⟨L, hL⟩ : ∃ L, bV D = L := ⟨_, rfl⟩
  have HIX : Hid (∀ (k : Nat), k < 32 → ∀ W : World, (ixA 23 (.agg L.toArray) (.int .i64 (k : Int))).run Tryd.prog W = .ok (.int .u8 (D.getD k 0)) W) := by rw [← hL]; exact fun k hk W => ixD D hl k hk W
  have hone : ∀ v ∈ L, v.oneCell' = true := by rw [← hL]; exact ints_one _ _
  rw [hL] at HI ⊢
  clear hi hbox hL hl hd
  go_enter Tryd.func63, Tryd.ntmps63
  have hld : ∀ W : World, Blk 23 W w.heap.size L → (ldA 23 (.pointer (some ⟨w.heap.size, 0, none⟩))).run Tryd.prog W = .ok (.agg L.toArray) W := fun W h => ldA_all Tryd.underlying23 rfl HI.out h
  have hl0 := hld _ ((((Blk.new w L _ _ rfl rfl).alloc (.cells #[.int .u64 0, .int .u64 0, .int .u64 0, .int .u64 0] 99))).alloc (.cells #[.int .u64 0, .int .u64 0, .int .u64 0, .int .u64 0] 99))
  clear hld
  go_wp2
  go_loopw [8] (fun i wr => ∃ (k : Nat) (Z : List Int), i = .int .i64 (k : Int) ∧ k ≤ 32 ∧ Hid (Z.length = 4) ∧ Hid (RowG .u64 18446744073709551616 99 wr (w.heap.size + 1 + 1) Z) ∧ Hid (∀ j, ∃ m, 0 ≤ m ∧ Z.getD j 0 = m * pw 256 (32 - k - 8 * j)) ∧ Hid (val 18446744073709551616 Z = val 256 (D.take k).reverse * pw 256 (32 - k)) ∧ Hid (Blk 99 wr (w.heap.size + 1) (L4 0 0 0 0)) ∧ Hid (Below w.heap.size w wr)) (fun i _ => 32 - (intOf i).toNat)
  case atStart =>
    refine ⟨0, [0, 0, 0, 0], rfl, by omega, rfl, ⟨?_, ?_⟩, ?_, ?_, ?_, ?_⟩
    · exact Blk.new _ (L4 0 0 0 0) _ _ rfl (by simp)
    · intro y hy
      simp at hy
      omega
    · intro j
      exact ⟨0, by omega, by rcases j with _ | _ | _ | _ | j <;> simp⟩
    · unfold Hid
      simp [val]
    · exact (Blk.new _ (L4 0 0 0 0) _ _ rfl (by simp)).alloc _
    · exact below3 w _ _ _
  case round =>
    obtain ⟨k, Z, rfl, hk, HZ, HR, HM, HV, H0, HW⟩ := hrel
    by_cases hk32 : k < 32
    · obtain ⟨p, hpe⟩ : ∃ p, 31 - k = p := ⟨_, rfl⟩
      obtain ⟨q, hqe⟩ : ∃ q, p / 8 = q := ⟨_, rfl⟩
      obtain ⟨t, hte⟩ : ∃ t, p % 8 = t := ⟨_, rfl⟩
      have td : Int.tdiv (p : Int) 8 = (q : Int) := by rw [Int.tdiv_eq_ediv_of_nonneg (by omega)]; omega
      have tm : Int.tmod (p : Int) 8 = (t : Int) := by rw [Int.tmod_eq_emod_of_nonneg (by omega)]; omega
      have hix := HIX.out k hk32
      have hd := HD.out.at (by decide : (0 : Int) < 256) k
      obtain ⟨m, hm0, hm⟩ := HM.out q
      rw [show 32 - k - 8 * q = t + 1 by omega] at hm
      have hzb := HR.out.2.at (by decide : (0 : Int) < 18446744073709551616) q
      rw [hm] at hzb
      have e2 := HR.out.cell q (by rw [HZ.out]; omega)
      rw [hm] at e2
      have e3 := HR.out.frozen q
      have htr := take_rev D k (by rw [HL.out]; exact hk32)
      obtain ⟨d, hdd⟩ : ∃ d, D.getD k 0 = d := ⟨_, rfl⟩
      rw [hdd] at hd hix htr
      obtain ⟨T, hT⟩ : ∃ T : Int, (t : Int) * 8 = T := ⟨_, rfl⟩
      have hTw : IntKind.i64.wrap ((t : Int) * 8) = T := by rw [IntKind.wrap_i64]; omega
      obtain ⟨o1, o2, o3, o4⟩ := or_low m d t T (by omega) (by omega) hm0 hzb.2 hd.1 hd.2
      have t0 : 0 ≤ T := by omega
      have t1 : T ≤ 63 := by omega
      have tb : (t : Int) ≤ 7 := by omega
      have qb : (q : Int) ≤ 3 := by omega
      have pb : (p : Int) ≤ 31 := by omega
      have kb : (k : Int) ≤ 31 := by omega
      have HM' := hide (mult_next HZ.out hk32 hpe hqe hte hm HM.out hm0 hd.1)
      have HV' : Hid (val 18446744073709551616 (Z.set q (m * pw 256 (t + 1) + d * pw 256 t)) = val 256 (D.take (k + 1)).reverse * pw 256 (32 - (k + 1))) := by
        unfold Hid
        rw [val_set _ _ _ _ (by rw [HZ.out]; omega), HV.out, hm, htr, show 32 - k = (32 - (k + 1)) + 1 by omega, show ∀ n, pw 256 (n + 1) = 256 * pw 256 n from fun _ => rfl, show 32 - (k + 1) = 8 * q + t by omega, pw_add, cpw_8]
        grind
      obtain ⟨u, hu⟩ : ∃ u, m * pw 256 (t + 1) + d * pw 256 t = u := ⟨_, rfl⟩
      obtain ⟨f, hf⟩ : ∃ f, d * pw 256 t = f := ⟨_, rfl⟩
      obtain ⟨z, hz⟩ : ∃ z, m * pw 256 (t + 1) = z := ⟨_, rfl⟩
      rw [hu] at o2 o3 o4 HM' HV'
      rw [hf, hz] at o2
      rw [hf] at o1
      rw [hz] at e2 hzb
      have wd : IntKind.u64.wrap d = d := by rw [IntKind.wrap_u64]; omega
      have HR' : Hid (RowG .u64 18446744073709551616 99 (wr.setCell ⟨w.heap.size + 1 + 1, q, none⟩ (.int .u64 u)) (w.heap.size + 1 + 1) (Z.set q u)) := HR.out.set q u ⟨o3, o4⟩
      have H0' : Hid (Blk 99 (wr.setCell ⟨w.heap.size + 1 + 1, q, none⟩ (.int .u64 u)) (w.heap.size + 1) (L4 0 0 0 0)) := H0.out.kept (gSet _ _ _ _) (by simp)
      have HW' : Hid (Below w.heap.size w (wr.setCell ⟨w.heap.size + 1 + 1, q, none⟩ (.int .u64 u))) := HW.out.setCell (by show w.heap.size ≤ w.heap.size + 1 + 1; omega) _
      have hpk : (31 : Int) - (k : Int) = (p : Int) := by omega
      clear hpe hqe hte hm hdd htr hu hf hz HR HM HV H0 HW hT
      go_wp2
      go_region
      go_wp2
      go_roundw
      case rel => exact ⟨k + 1, Z.set q u, by go_num, by omega, by unfold Hid; rw [List.length_set]; exact HZ.out, HR'.out.heap rfl, HM', HV', H0'.out.heap rfl, ⟨HW'.out.os, HW'.out.tape, HW'.out.output, HW'.out.size, HW'.out.block⟩⟩
      case measure => simp [intOf]; omega
    · obtain rfl : k = 32 := by omega
      match Z, HZ.out with
      | [r0, r1, r2, r3], _ =>
        have hv := HV.out
        rw [V4_val, List.take_of_length_le (by rw [HL.out]; omega), show pw 256 (32 - 32) = 1 from rfl, Int.mul_one] at hv
        have HVV : Hid (V4 r0 r1 r2 r3 = dn D) := hv
        have HDG : Hid (Dg 18446744073709551616 [r0, r1, r2, r3]) := HR.out.2
        have HB1 : Hid (Blk 99 wr (w.heap.size + 1 + 1) (L4 r0 r1 r2 r3)) := HR.out.blk
        have hld := ldp4 HB1.out
        have hst := stp4 H0.out r0 r1 r2 r3
        clear hv HV HM HR HB1 HIX
        go_wp2
        refine bodyPost_ret (v := .agg #[.int .u64 r0, .int .u64 r1, .int .u64 r2, .int .u64 r3]) ?_ rfl ⟨r0, r1, r2, r3, rfl, HDG.out r0 (by simp), HDG.out r1 (by simp), HDG.out r2 (by simp), HDG.out r3 (by simp), HVV.out, below_sets HW.out (by omega) HW.out.size _ _⟩
        exact res_one (T := 99) (p := 2) (ty := 99) (g := w.heap.size + 1) (X := L4 r0 r1 r2 r3) (by kernel_rfl) _ _ rfl Tryd.underlying99 rfl (by kernel_rfl) (blk_all H0.out rfl)

end Go.Proofs.YtcijjmncilciiaaDoor

namespace Go.Proofs.YtcijjmncilciiaaDoor
open Go.RowKit Go.IntWalk

theorem eqF_nil (d : Nat) (xs ys : Array Value) (w : World) : (Op.eqFields d xs ys []).run Tryd.prog w = .ok true w := by simp [Op.eqFields]
theorem eqF_step {d : Nat} {xs ys : Array Value} {f : Field} {fs : List Field} {a b : Value} {r : Bool} {w : World} (hn : f.name ≠ "_") (pa : (part f.type xs f.offset).run Tryd.prog w = .ok a w) (pb : (part f.type ys f.offset).run Tryd.prog w = .ok b w) (pe : (Op.equalIn d f.type a b).run Tryd.prog w = .ok r w) :
    (Op.eqFields d xs ys (f :: fs)).run Tryd.prog w = if r = true then (Op.eqFields d xs ys fs).run Tryd.prog w else .ok false w := by
  simp only [Op.eqFields, hn, ne_eq, not_false_eq_true, if_true, Sem.run_bind, pa, pb, pe, Result.andThen_ok]
  cases r <;> simp

theorem run_part_bool (xs : Array Value) (o : Nat) (b : Bool) (h : xs[o]? = some (.bool b)) (w : World) : (part 4 xs o).run Tryd.prog w = .ok (.bool b) w := by
  simp [part, isAgg, run_underlying Tryd.underlying4, h]

theorem fields_pnt : (Tryd.prog.fieldsOf 25).toList.map (fun f => (f.name, f.type, f.offset)) = [("X", 23, 0), ("Y", 23, 32), ("Inf", 4, 64)] := by kernel_rfl

set_option maxRecDepth 100000 in
theorem eqA_pnt (X Y X' Y' : List Int) (f f' : Bool) (hX : X.length = 32) (hY : Y.length = 32) (hX' : X'.length = 32) (hY' : Y'.length = 32) (w : World) :
    (Op.equalIn 10000 25 (.agg (pL X Y f).toArray) (.agg (pL X' Y' f').toArray)).run Tryd.prog w = .ok (decide (X = X' ∧ Y = Y' ∧ f = f')) w := by
  obtain ⟨inf, hinf⟩ := info_u8
  have hf := fields_pnt
  rw [run_equalIn_struct w 9999 25 _ _ (by kernel_rfl) (by kernel_rfl)]
  generalize (Tryd.prog.fieldsOf 25).toList = fs at hf
  obtain ⟨f1, fs1, rfl, e1, hf⟩ := List.map_eq_cons_iff.1 hf
  obtain ⟨f2, fs2, rfl, e2, hf⟩ := List.map_eq_cons_iff.1 hf
  obtain ⟨f3, fs3, rfl, e3, hf⟩ := List.map_eq_cons_iff.1 hf
  obtain rfl := List.map_eq_nil_iff.1 hf
  simp only [Prod.mk.injEq] at e1 e2 e3
  obtain ⟨n1, t1, o1⟩ := e1
  obtain ⟨n2, t2, o2⟩ := e2
  obtain ⟨n3, t3, o3⟩ := e3
  have pX : ∀ (A B : List Int) (g : Bool), A.length = 32 → (part f1.type (pL A B g).toArray f1.offset).run Tryd.prog w = .ok (.agg (A.map (Value.int .u8)).toArray) w := by
    intro A B g hA
    rw [t1, o1]
    have := part_arr Tryd.underlying23 (by kernel_rfl) [] (A.map (Value.int .u8)) (B.map (Value.int .u8) ++ [.bool g]) 0 rfl (by simpa using hA) w
    rw [List.nil_append, ← List.append_assoc] at this
    exact this
  have pY : ∀ (A B : List Int) (g : Bool), A.length = 32 → B.length = 32 → (part f2.type (pL A B g).toArray f2.offset).run Tryd.prog w = .ok (.agg (B.map (Value.int .u8)).toArray) w := by
    intro A B g hA hB
    rw [t2, o2]
    exact part_arr Tryd.underlying23 (by kernel_rfl) (A.map (Value.int .u8)) (B.map (Value.int .u8)) [.bool g] 32 (by simpa using hA) (by simpa using hB) w
  have pI : ∀ (A B : List Int) (g : Bool), A.length = 32 → B.length = 32 → (part f3.type (pL A B g).toArray f3.offset).run Tryd.prog w = .ok (.bool g) w := by
    intro A B g hA hB
    rw [t3, o3]
    refine run_part_bool _ _ _ ?_ w
    simp [pL, hA, hB]
  have eq : ∀ A B : List Int, A.length = 32 → B.length = 32 → (Op.equalIn 9999 23 (.agg (A.map (Value.int .u8)).toArray) (.agg (B.map (Value.int .u8)).toArray)).run Tryd.prog w = .ok (decide (A = B)) w := fun A B hA hB =>
    run_equalIn_arr 9997 23 5 32 .u8 Tryd.underlying23 Tryd.underlying5 hinf (by kernel_rfl) A B hA hB w
  rw [eqF_step (by rw [n1]; decide) (pX X Y f hX) (pX X' Y' f' hX') (by rw [t1]; exact eq X X' hX hX')]
  rw [eqF_step (by rw [n2]; decide) (pY X Y f hX hY) (pY X' Y' f' hX' hY') (by rw [t2]; exact eq Y Y' hY hY')]
  rw [eqF_step (by rw [n3]; decide) (pI X Y f hX hY) (pI X' Y' f' hX' hY') (by rw [t3]; exact run_equalIn_bool' w 9998 4 f f' Tryd.underlying4)]
  rw [eqF_nil]
  by_cases h1 : X = X'
  · by_cases h2 : Y = Y'
    · cases f <;> cases f' <;> simp [h1, h2]
    · simp [h2]
  · simp [h1]

theorem fields_rpt : (Tryd.prog.fieldsOf 33).toList.map (fun f => (f.name, f.type, f.offset)) = [("X", 22, 0), ("Y", 22, 32), ("Inf", 4, 64)] := by kernel_rfl

set_option maxRecDepth 100000 in
theorem eqA_rpt (X Y X' Y' : List Int) (f f' : Bool) (hX : X.length = 32) (hY : Y.length = 32) (hX' : X'.length = 32) (hY' : Y'.length = 32) (w : World) :
    (Op.equalIn 10000 33 (.agg (pL X Y f).toArray) (.agg (pL X' Y' f').toArray)).run Tryd.prog w = .ok (decide (X = X' ∧ Y = Y' ∧ f = f')) w := by
  obtain ⟨inf, hinf⟩ := info_u8
  have hf := fields_rpt
  rw [run_equalIn_struct w 9999 33 _ _ (by kernel_rfl) (by kernel_rfl)]
  generalize (Tryd.prog.fieldsOf 33).toList = fs at hf
  obtain ⟨f1, fs1, rfl, e1, hf⟩ := List.map_eq_cons_iff.1 hf
  obtain ⟨f2, fs2, rfl, e2, hf⟩ := List.map_eq_cons_iff.1 hf
  obtain ⟨f3, fs3, rfl, e3, hf⟩ := List.map_eq_cons_iff.1 hf
  obtain rfl := List.map_eq_nil_iff.1 hf
  simp only [Prod.mk.injEq] at e1 e2 e3
  obtain ⟨n1, t1, o1⟩ := e1
  obtain ⟨n2, t2, o2⟩ := e2
  obtain ⟨n3, t3, o3⟩ := e3
  have pX : ∀ (A B : List Int) (g : Bool), A.length = 32 → (part f1.type (pL A B g).toArray f1.offset).run Tryd.prog w = .ok (.agg (A.map (Value.int .u8)).toArray) w := by
    intro A B g hA
    rw [t1, o1]
    have := part_arr Tryd.underlying22 (by kernel_rfl) [] (A.map (Value.int .u8)) (B.map (Value.int .u8) ++ [.bool g]) 0 rfl (by simpa using hA) w
    rw [List.nil_append, ← List.append_assoc] at this
    exact this
  have pY : ∀ (A B : List Int) (g : Bool), A.length = 32 → B.length = 32 → (part f2.type (pL A B g).toArray f2.offset).run Tryd.prog w = .ok (.agg (B.map (Value.int .u8)).toArray) w := by
    intro A B g hA hB
    rw [t2, o2]
    exact part_arr Tryd.underlying22 (by kernel_rfl) (A.map (Value.int .u8)) (B.map (Value.int .u8)) [.bool g] 32 (by simpa using hA) (by simpa using hB) w
  have pI : ∀ (A B : List Int) (g : Bool), A.length = 32 → B.length = 32 → (part f3.type (pL A B g).toArray f3.offset).run Tryd.prog w = .ok (.bool g) w := by
    intro A B g hA hB
    rw [t3, o3]
    refine run_part_bool _ _ _ ?_ w
    simp [pL, hA, hB]
  have eq : ∀ A B : List Int, A.length = 32 → B.length = 32 → (Op.equalIn 9999 22 (.agg (A.map (Value.int .u8)).toArray) (.agg (B.map (Value.int .u8)).toArray)).run Tryd.prog w = .ok (decide (A = B)) w := fun A B hA hB =>
    run_equalIn_arr 9997 22 5 32 .u8 Tryd.underlying22 Tryd.underlying5 hinf (by kernel_rfl) A B hA hB w
  rw [eqF_step (by rw [n1]; decide) (pX X Y f hX) (pX X' Y' f' hX') (by rw [t1]; exact eq X X' hX hX')]
  rw [eqF_step (by rw [n2]; decide) (pY X Y f hX hY) (pY X' Y' f' hX' hY') (by rw [t2]; exact eq Y Y' hY hY')]
  rw [eqF_step (by rw [n3]; decide) (pI X Y f hX hY) (pI X' Y' f' hX' hY') (by rw [t3]; exact run_equalIn_bool' w 9998 4 f f' Tryd.underlying4)]
  rw [eqF_nil]
  by_cases h1 : X = X'
  · by_cases h2 : Y = Y'
    · cases f <;> cases f' <;> simp [h1, h2]
    · simp [h2]
  · simp [h1]

theorem eqP (X Y X' Y' : List Int) (f f' : Bool) (hX : X.length = 32) (hY : Y.length = 32) (hX' : X'.length = 32) (hY' : Y'.length = 32) (w : World) :
    (eqA 25 (.agg (pL X Y f).toArray) (.agg (pL X' Y' f').toArray)).run Tryd.prog w = .ok (.bool (decide (X = X' ∧ Y = Y' ∧ f = f'))) w := by
  unfold eqA
  rw [run_eql_struct, eqA_pnt X Y X' Y' f f' hX hY hX' hY' w]
  rfl
theorem neP (X Y X' Y' : List Int) (f f' : Bool) (hX : X.length = 32) (hY : Y.length = 32) (hX' : X'.length = 32) (hY' : Y'.length = 32) (w : World) :
    (neA 25 (.agg (pL X Y f).toArray) (.agg (pL X' Y' f').toArray)).run Tryd.prog w = .ok (.bool (!decide (X = X' ∧ Y = Y' ∧ f = f'))) w := by
  unfold neA
  rw [run_neq_struct, eqA_pnt X Y X' Y' f f' hX hY hX' hY' w]
  rfl
theorem eqR (X Y X' Y' : List Int) (f f' : Bool) (hX : X.length = 32) (hY : Y.length = 32) (hX' : X'.length = 32) (hY' : Y'.length = 32) (w : World) :
    (eqA 33 (.agg (pL X Y f).toArray) (.agg (pL X' Y' f').toArray)).run Tryd.prog w = .ok (.bool (decide (X = X' ∧ Y = Y' ∧ f = f'))) w := by
  unfold eqA
  rw [run_eql_struct, eqA_rpt X Y X' Y' f f' hX hY hX' hY' w]
  rfl

end Go.Proofs.YtcijjmncilciiaaDoor
