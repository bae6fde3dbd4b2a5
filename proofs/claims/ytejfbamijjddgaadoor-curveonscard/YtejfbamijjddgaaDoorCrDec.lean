/-
  The document's Decode.
-/
import Derived.Test.YtejfbamijjddgaaDoorCvDec
namespace Go.Proofs.YtejfbamijjddgaaDoor
open Go.RowKit Go.IntWalk
attribute [local go_sem ↓] ld_num st_num ld_pln st_pln ld_ops st_ops ld_pnt st_pnt ld_dig st_dig ld_tri st_tri eq_num ne_num eq_pnt ne_pnt bd_pnt ld_F st_F eq_F ld_a32 st_a32 ld_rpt st_rpt eq_rpt bd_rpt eq_dgs

/-- The first k of 32 bytes, zeros behind them. -/
def dcL (X : List Int) (k : Nat) : List Int := X.take k ++ List.replicate (32 - k) 0
theorem dcL_len {X : List Int} (hX : X.length = 32) (k : Nat) (hk : k ≤ 32) : (dcL X k).length = 32 := by simp [dcL, hX]; omega
theorem dcL_set {X : List Int} (hX : X.length = 32) (k : Nat) (hk : k < 32) : (dcL X k).set k (X.getD k 0) = dcL X (k + 1) := by
  unfold dcL
  have hl : (X.take k).length = k := by simp [hX]; omega
  rw [List.set_append_right _ _ (by omega), hl, Nat.sub_self, show 32 - k = (32 - (k + 1)) + 1 by omega, List.replicate_succ, List.set_cons_zero, List.take_succ_eq_append_getElem (by omega), List.append_assoc]
  simp [List.getD, hX, hk]
theorem dcL_0 (X : List Int) : dcL X 0 = z32 := rfl
theorem dcL_32 {X : List Int} (hX : X.length = 32) : dcL X 32 = X := by simp [dcL, List.take_of_length_le (Nat.le_of_eq hX)]
theorem pL_setX {X Y : List Int} (hX : X.length = 32) (f : Bool) (k : Nat) (hk : k < 32) (u : Int) : (pL X Y f).set k (.int .u8 u) = pL (X.set k u) Y f := by
  unfold pL
  rw [List.append_assoc, List.set_append_left _ _ (by simp [hX, hk]), List.map_set, List.append_assoc]
theorem pL_setY {X Y : List Int} (hX : X.length = 32) (hY : Y.length = 32) (f : Bool) (k : Nat) (hk : k < 32) (u : Int) : (pL X Y f).set (32 + k) (.int .u8 u) = pL X (Y.set k u) f := by
  unfold pL
  rw [List.append_assoc, List.set_append_right _ _ (by simp [hX]), List.length_map, hX, Nat.add_sub_cancel_left, List.set_append_left _ _ (by simp [hY, hk]), List.map_set, List.append_assoc]
theorem ron_any (X Y : List Int) (hX : X.length = 32) (hY : Y.length = 32) (dX : Dg 256 X) (dY : Dg 256 Y) (f : Bool) (w : World) :
    Calls Tryd.prog 10 #[.agg (pL X Y f).toArray] w fun e w' => e = .returned (.bool (onP X Y f)) ∧ Below w.heap.size w w' := by
  cases f
  · exact ron_near X Y hX hY dX dY w
  · exact ron_far X Y hX hY w

set_option maxRecDepth 100000 in
set_option maxHeartbeats 2000000 in
theorem rdecode_any (ao : Option Addr) (n c : Nat) (xs : List Int) (w : World) (hs : Src w ao n c xs) :
    Calls Tryd.prog 24 #[.slice ao n c] w (Rd xs w) := by
  have HL := hide hs.hlen
  have HY := hide hs.hbyt
  have hmax := hs.hmax
  have hcap := hs.hcap
  have HS := hide hs
  have hbz := bdR_zero
  have Z0 := hide (Blk.new (T := 27) w PZ Tryd.zeroCells27 w.heap.size zc_rpt rfl)
  have U0 := hide (below1 w (.cells Tryd.zeroCells27 27))
  have HPZ : Hid (PZ = pL z32 z32 false) := rfl
  have HPL : Hid (PZ.length = 65) := rfl
  have hone : ∀ v ∈ PZ, v.oneCell' = true := pL_one _ _ _
  have hst0 : (stA 27 (.pointer (some ⟨w.heap.size, 0, none⟩)) (.agg PZ.toArray)).run Tryd.prog (w.alloc (.cells Tryd.zeroCells27 27)) = .ok () ((w.alloc (.cells Tryd.zeroCells27 27)).setCells w.heap.size 0 PZ) := stRp (f := false) z32_len z32_len Z0.out rfl
  have hmI : (n : Int) ≤ 9223372036854775807 := by unfold maxLen at hmax; omega
  generalize PZ = LZ at *
  clear hs
  by_cases h65 : n = 65
  · subst h65
    have hlx := HL.out
    obtain ⟨b, off, rfl, hcell⟩ := HS.out.hrd (by intro h; rw [h] at hlx; simp at hlx)
    have hb' : b < w.heap.size := lt_of_cell (hcell 0 (by omega))
    have c0 := ((HS.out.alloc (.cells Tryd.zeroCells27 27)).hrd (by intro h; rw [h] at hlx; simp at hlx))
    obtain ⟨b', off', he', hcell'⟩ := c0
    simp only [Option.some.injEq, Addr.mk.injEq, and_true] at he'
    obtain ⟨rfl, rfl⟩ := he'
    have c0 := hcell' 0 (by omega)
    simp only [Nat.add_zero] at c0
    have hcI : (65 : Int) ≤ (c : Int) := by omega
    clear hcell hcell' hlx
    by_cases h4 : xs.getD 0 0 = 4
    · rw [h4] at c0
      have hok : Hid (xs.length = 65 ∧ xs.getD 0 0 = 4) := ⟨HL.out, h4⟩
      have HLX := hide (cX_len HL.out)
      have HLY := hide (cY_len HL.out)
      have HON : Hid (∀ W, Calls Tryd.prog 10 #[.agg (pL (cX xs) (cY xs) false).toArray] W fun e w' => e = .returned (.bool (onP (cX xs) (cY xs) false)) ∧ Below W.heap.size W w') := fun W => ron_any _ _ HLX.out HLY.out (cX_dg HY.out) (cY_dg HY.out) false W
      have ZV : Hid (Blk 27 ((w.alloc (.cells Tryd.zeroCells27 27)).alloc (.cells Tryd.zeroCells27 27)) w.heap.size LZ) := Z0.out.alloc _
      have PV : Hid (Blk 27 ((w.alloc (.cells Tryd.zeroCells27 27)).alloc (.cells Tryd.zeroCells27 27)) (w.heap.size + 1) (pL z32 z32 false)) := Blk.new (T := 27) _ PZ Tryd.zeroCells27 (w.heap.size + 1) zc_rpt (by simp)
      have SV : Hid (Src ((w.alloc (.cells Tryd.zeroCells27 27)).alloc (.cells Tryd.zeroCells27 27)) (some ⟨b, off, none⟩) 65 c xs) := (HS.out.alloc _).alloc _
      have UV : Hid (Below w.heap.size w ((w.alloc (.cells Tryd.zeroCells27 27)).alloc (.cells Tryd.zeroCells27 27))) := below2 w _ _
      have HLD : Hid (∀ W, Blk 27 W (w.heap.size + 1) (pL (cX xs) (cY xs) false) → (ldA 27 (.pointer (some ⟨w.heap.size + 1, 0, none⟩))).run Tryd.prog W = .ok (.agg (pL (cX xs) (cY xs) false).toArray) W) := fun W h => (rpt_ld HLX.out HLY.out h).1
      have hone2 := pL_one (cX xs) (cY xs) false
      have HST : Hid (∀ W, Blk 27 W w.heap.size LZ → (stA 27 (.pointer (some ⟨w.heap.size, 0, none⟩)) (.agg (pL (cX xs) (cY xs) false).toArray)).run Tryd.prog W = .ok () (W.setCells w.heap.size 0 (pL (cX xs) (cY xs) false))) := fun W h => stRp (f := false) HLX.out HLY.out h HPL.out
      have HSZ : Hid (∀ W, Blk 27 W w.heap.size LZ → (stA 27 (.pointer (some ⟨w.heap.size, 0, none⟩)) (.agg LZ.toArray)).run Tryd.prog W = .ok () (W.setCells w.heap.size 0 LZ)) := fun W h => by rw [HPZ.out] at h ⊢; exact stRp (f := false) z32_len z32_len h rfl
      have HN1 := hide (dec_on hok.out)
      have HN0 := hide (dec_off hok.out)
      have HCX : Hid (∀ k, k < 32 → xs.getD (1 + k) 0 = (cX xs).getD k 0) := by
        intro k hk
        simp [cX, List.getD, hk, Nat.add_comm 1 k]
      have HCY : Hid (∀ k, k < 32 → xs.getD (33 + k) 0 = (cY xs).getD k 0) := by
        intro k _
        simp [cY, List.getD, List.getElem?_drop]
      obtain ⟨L, hL⟩ : ∃ L, pL (cX xs) (cY xs) false = L := ⟨_, rfl⟩
      have HLe := hide hL
      rw [hL] at HLD hone2 HST HON
      obtain ⟨on, hon⟩ : ∃ on, onP (cX xs) (cY xs) false = on := ⟨_, rfl⟩
      have HONe := hide hon
      rw [hon] at HON
      clear hL hon h4 Z0 U0
      go_enter Tryd.func24, Tryd.ntmps24
      go_wp2
      generalize (w.alloc (.cells Tryd.zeroCells27 27)).alloc (.cells Tryd.zeroCells27 27) = V at ZV PV SV UV ⊢
      go_loopw [5] (fun i wr => ∃ (k : Nat), i = .int .i64 (k : Int) ∧ k ≤ 32 ∧ Hid (Blk 27 wr (w.heap.size + 1) (pL (dcL (cX xs) k) (dcL (cY xs) k) false)) ∧ Hid (Blk 27 wr w.heap.size LZ) ∧ Hid (Src wr (some ⟨b, off, none⟩) 65 c xs) ∧ Hid (Below w.heap.size w wr)) (fun i _ => 32 - (intOf i).toNat)
      case atStart => exact ⟨0, rfl, by omega, by rw [dcL_0, dcL_0]; exact PV, ZV, SV, UV⟩
      case round =>
        clear PV ZV SV UV
        obtain ⟨k, rfl, hk, PK, ZK, SK, UK⟩ := hrel
        by_cases hk32 : k < 32
        · obtain ⟨b1, off1, he1, hc1⟩ := SK.out.hrd (by intro h; have := HL.out; rw [h] at this; simp at this)
          simp only [Option.some.injEq, Addr.mk.injEq, and_true] at he1
          obtain ⟨rfl, rfl⟩ := he1
          have d1 := hc1 (1 + k) (by rw [HL.out]; omega)
          have d2 := hc1 (33 + k) (by rw [HL.out]; omega)
          rw [HCX.out k hk32] at d1
          rw [HCY.out k hk32] at d2
          have g1 := PK.out.cell k
          have f1 := PK.out.frozen k
          have n1 := dcL_len HLX.out k (by omega)
          have n2 := dcL_len HLY.out k (by omega)
          have g1' : (pL (dcL (cX xs) k) (dcL (cY xs) k) false)[k]? = some ((pL (dcL (cX xs) k) (dcL (cY xs) k) false)[k]'(by rw [pL_len n1 n2]; omega)) := List.getElem?_eq_getElem _
          rw [g1'] at g1
          have P1 := PK.out.set k (.int .u8 ((cX xs).getD k 0))
          rw [pL_setX n1 false k hk32, dcL_set HLX.out k hk32] at P1
          have n1' := dcL_len HLX.out (k + 1) (by omega)
          have g2 := P1.cell (32 + k)
          have f2 := P1.frozen (32 + k)
          have g2' : (pL (dcL (cX xs) (k + 1)) (dcL (cY xs) k) false)[32 + k]? = some ((pL (dcL (cX xs) (k + 1)) (dcL (cY xs) k) false)[32 + k]'(by rw [pL_len n1' n2]; omega)) := List.getElem?_eq_getElem _
          rw [g2'] at g2
          have P2 := P1.set (32 + k) (.int .u8 ((cY xs).getD k 0))
          rw [pL_setY n1' n2 false k hk32, dcL_set HLY.out k hk32] at P2
          have hbk : ¬ b = w.heap.size + 1 := by omega
          have S1 := SK.out.grown (gSet wr (w.heap.size + 1) k (.int .u8 ((cX xs).getD k 0))) (fun b' off' h _ => by cases h; simp; omega)
          have S2 := S1.grown (gSet _ (w.heap.size + 1) (32 + k) (.int .u8 ((cY xs).getD k 0))) (fun b' off' h _ => by cases h; simp; omega)
          have Z1 := (ZK.out.kept (gSet wr (w.heap.size + 1) k (.int .u8 ((cX xs).getD k 0))) (by simp)).kept (gSet _ (w.heap.size + 1) (32 + k) (.int .u8 ((cY xs).getD k 0))) (by simp)
          have U1 : Below w.heap.size w ((wr.setCell ⟨w.heap.size + 1, k, none⟩ (.int .u8 ((cX xs).getD k 0))).setCell ⟨w.heap.size + 1, 32 + k, none⟩ (.int .u8 ((cY xs).getD k 0))) := by
            refine Below.setCell (Below.setCell UK.out ?_ _) ?_ _
            · show w.heap.size ≤ w.heap.size + 1; omega
            · show w.heap.size ≤ w.heap.size + 1; omega
          have HP2 := hide P2
          have HS2 := hide S2
          have HZ1 := hide Z1
          have HU1 := hide U1
          generalize (pL (dcL (cX xs) k) (dcL (cY xs) k) false)[k]'(by rw [pL_len n1 n2]; omega) = v1 at g1
          generalize (pL (dcL (cX xs) (k + 1)) (dcL (cY xs) k) false)[32 + k]'(by rw [pL_len n1' n2]; omega) = v2 at g2
          generalize (cX xs).getD k 0 = x at *
          generalize (cY xs).getD k 0 = y at *
          have kb : (k : Int) ≤ 31 := by omega
          clear hc1 P1 P2 S1 S2 Z1 U1 n1 n2 n1' g1' g2' PK ZK SK UK
          go_wp2
          go_roundw
          case rel => exact ⟨k + 1, by go_num, by omega, HP2, HZ1, HS2, HU1⟩
          case measure => simp [intOf]; omega
        · obtain rfl : k = 32 := by omega
          have PL := PK.out
          rw [dcL_32 HLX.out, dcL_32 HLY.out, HLe.out] at PL
          have ld1 := HLD.out _ PL
          have HP := hide PL
          clear PL PK
          cases on with
          | true =>
            go_wp2_with (go_at_call 10; refine (HON.out _).mono ?_; rintro e w3 ⟨rfl, LB⟩; have Z3 := hide (ZK.out.below LB); have P3 := hide (HP.out.below LB); have U3 := hide (below_then UK.out LB); clear LB; have ld3 := HLD.out _ P3.out; have st3 := HST.out _ Z3.out)
            obtain ⟨e1, e2, e3⟩ := HN1.out HONe.out
            exact rd_ret (p := 2) (q := 3) (by kernel_rfl) rfl (by rw [e1]; rfl) Tryd.underlying27 rfl info_rpt Z3.out HPL.out (by rw [e2, e3]; exact HLe.out.symm) U3.out (Nat.le_refl _)
          | false =>
            go_wp2_with (go_at_call 10; refine (HON.out _).mono ?_; rintro e w3 ⟨rfl, LB⟩; have Z3 := hide (ZK.out.below LB); have U3 := hide (below_then UK.out LB); clear LB; have st3 := HSZ.out _ Z3.out)
            obtain ⟨e1, e2, e3⟩ := HN0.out HONe.out
            exact rd_ret (p := 2) (q := 3) (by kernel_rfl) rfl (by rw [e1]; rfl) Tryd.underlying27 rfl info_rpt Z3.out HPL.out (by rw [e2, e3]; exact HPZ.out) U3.out (Nat.le_refl _)
    · have HN := hide (dec_form (xs := xs) (fun h => h4 h.2))
      obtain ⟨z, hz⟩ : ∃ z, xs.getD 0 0 = z := ⟨_, rfl⟩
      rw [hz] at c0 h4
      clear hz
      go_enter Tryd.func24, Tryd.ntmps24
      go_wp2
      obtain ⟨e1, e2, e3⟩ := HN.out
      exact rd_ret (p := 2) (q := 3) (by kernel_rfl) rfl (by rw [e1]; rfl) Tryd.underlying27 rfl info_rpt Z0.out HPL.out (by rw [e2, e3]; exact HPZ.out) U0.out (Nat.le_refl _)
  · have HN := hide (dec_form (xs := xs) (fun h => h65 (HL.out ▸ h.1)))
    have hni : ¬ (n : Int) = 65 := by omega
    clear h65
    go_enter Tryd.func24, Tryd.ntmps24
    go_wp2
    obtain ⟨e1, e2, e3⟩ := HN.out
    exact rd_ret (p := 2) (q := 3) (by kernel_rfl) rfl (by rw [e1]; rfl) Tryd.underlying27 rfl info_rpt Z0.out HPL.out (by rw [e2, e3]; exact HPZ.out) U0.out (Nat.le_refl _)

end Go.Proofs.YtejfbamijjddgaaDoor
