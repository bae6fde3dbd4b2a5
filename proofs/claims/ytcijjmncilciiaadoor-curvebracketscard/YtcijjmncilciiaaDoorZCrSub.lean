/-
  The document's Sub.
-/
import Derived.Test.YtcijjmncilciiaaDoorZCrBaseToCrLess
namespace Go.Proofs.YtcijjmncilciiaaDoor
open Go.RowKit Go.IntWalk
attribute [local go_sem ↓] ld_F st_F eq_F

/-- The modulus lies in the field. -/
def FM (w : World) (g : Nat) : Prop := w.rangeAt g 0 (fV pW)
theorem FM.lt {w : World} {g : Nat} (h : FM w g) : g < w.heap.size := range_lt h
theorem FM.below {w w' : World} {g : Nat} (h : FM w g) (hb : Below w.heap.size w w') : FM w' g := range_carry h hb
theorem FM.heap {w w' : World} {g : Nat} (h : FM w g) (e : w'.heap = w.heap) : FM w' g := fun j v hv => (World.cell?_of_block (by rw [e])).trans (h j v hv)
theorem FM.kept {w w' : World} {g k : Nat} (h : FM w g) (hg : w.grownBy w' (some k)) (hne : g ≠ k) : FM w' g := fun j v hv => (World.cell?_of_block (hg.block g h.lt (by simpa using hne))).trans (h j v hv)
theorem FM.cell {w : World} {g : Nat} (h : FM w g) (k : Nat) (hk : k < 8) : w.cell? ⟨g, k, none⟩ = some (.int .u64 (pW.getD k 0)) := by
  have := h k (.int .u64 (pW.getD k 0)) (by
    rw [fV, List.getElem?_map, List.getElem?_eq_getElem (show k < pW.length from hk)]
    simp [List.getD, List.getElem?_eq_getElem (show k < pW.length from hk)])
  simpa using this
theorem FM.ld {w : World} {g : Nat} (h : FM w g) : (ldA 80 (.pointer (some ⟨g, 0, none⟩))).run Tryd.prog w = .ok (.agg (fV pW).toArray) w := ldA_range Tryd.underlying80 rfl info_F h

/-- What a call answers that tells a number of the document's. -/
def Rf (x : Int) (w : World) (e : Ending) (w' : World) : Prop := ∃ R, e = .returned (.agg (fV R).toArray) ∧ Fw R x ∧ Below w.heap.size w w'

theorem retF {fn : Func} {p : Tmp} (h : fn.results = #[.cell p 80]) {tmps : Array Value} {w w1 : World} {T : TypeId} {g : Nat} {Z : List Value} {A : List Int} {x : Int} (hp : tmps.getD p undef = .pointer (some ⟨g, 0, none⟩))
    (HZ : Blk T w1 g Z) (hZ : Z.length = 8) (HN : Fw A x) (LB : Below w.heap.size w w1) (hg : w.heap.size ≤ g) :
    bodyPost Tryd.prog fn (Rf x w) .ret { tmps := tmps, defers := [] } (w1.setCells g 0 (fV A)) := by
  refine bodyPost_ret (v := .agg (fV A).toArray) ?_ rfl ⟨A, rfl, HN, below_sets LB hg LB.size _ _⟩
  exact res_one (T := T) (p := p) (ty := 80) (X := fV A) h _ _ hp Tryd.underlying80 rfl (by rw [fV_len, HN.len]; exact info_F) (blk_all HZ (by rw [hZ, fV_len, HN.len]))

theorem st8n (w : World) (A : List Int) (hA : A.length = 8) : (stA 80 (.pointer (some ⟨w.heap.size, 0, none⟩)) (.agg (fV A).toArray)).run Tryd.prog (w.alloc (.cells #[.int .u64 0, .int .u64 0, .int .u64 0, .int .u64 0, .int .u64 0, .int .u64 0, .int .u64 0, .int .u64 0] 80)) = .ok () (w.alloc (.cells (fV A).toArray 80)) :=
  run_storeAt_new (P := Tryd.prog) w 80 _ (fV A).toArray (by rw [List.size_toArray, fV_len, hA]; exact info_F) (by simp [fV_len, hA]) (all_oneCell_toArray (ints_one _ _))

theorem add_word {a b c : Int} (ha : 0 ≤ a ∧ a < 4294967296) (hb : 0 ≤ b ∧ b < 4294967296) (hc : c = 0 ∨ c = 1) :
    IntKind.u64.wrap (a + b) = a + b ∧ IntKind.u64.wrap (a + b + c) = a + b + c ∧ 0 ≤ a + b + c ∧ 0 ≤ (a + b + c) % 4294967296 ∧ (a + b + c) % 4294967296 < 4294967296 ∧ ((a + b + c) / 4294967296 = 0 ∨ (a + b + c) / 4294967296 = 1) ∧ (a + b + c) % 4294967296 = a + b + c - 4294967296 * ((a + b + c) / 4294967296) := by
  rw [IntKind.wrap_u64, IntKind.wrap_u64]
  omega

set_option maxRecDepth 100000 in
set_option maxHeartbeats 2000000 in
theorem rsub_any (gf : Nat) (A B : List Int) (x y : Int) (hA : Fw A x) (hB : Fw B y) (hx : x < PP) (hy : y < PP) (w : World) (hF : FM w gf) :
    Calls Tryd.prog 41 #[.pointer (some ⟨gf, 0, none⟩), .agg (fV A).toArray, .agg (fV B).toArray] w (Rf (ps x y) w) := by
  have HA := hide hA
  have HB := hide hB
  have honeA : ∀ u ∈ fV A, u.oneCell' = true := ints_one A .u64
  have honeB : ∀ u ∈ fV B, u.oneCell' = true := ints_one B .u64
  have KA0 := hide (W3_a w (fV A) (fV B) (fV z8) 80 80 80)
  have KB0 := hide (W3_b w (fV A) (fV B) (fV z8) 80 80 80)
  have KZ0 := hide (W3_c w (fV A) (fV B) (fV z8) 80 80 80)
  have U0 := hide (W3_w w (fV A) (fV B) (fV z8) 80 80 80)
  have F0 := hide (hF.below U0.out)
  have la := ldF hA.len KA0.out
  have lb := ldF hB.len KB0.out
  have HM : Hid (∀ W, Calls Tryd.prog 69 #[.agg (fV A).toArray, .agg (fV B).toArray] W (Rm x y W)) := fun W => rminus_any A B x y hA hB W
  have hxb := hA.bd
  have hyb := hB.bd
  have HX : Hid (0 ≤ x ∧ x < PP ∧ 0 ≤ y ∧ y < PP) := ⟨hxb.1, hx, hyb.1, hy⟩
  have hfl := hF.lt
  have HFL := hide hfl
  generalize fV A = LA at *
  generalize fV B = LB at *
  have hz : (fV z8) = [.int .u64 0, .int .u64 0, .int .u64 0, .int .u64 0, .int .u64 0, .int .u64 0, .int .u64 0, .int .u64 0] := rfl
  simp only [W3, hz] at la lb
  clear hA hB hx hy hF hxb hyb hz hfl
  by_cases hlt : x < y
  · have HLT := hide hlt
    have hdec : decide (x < y) = true := decide_eq_true hlt
    have HDC := hide hdec
    clear hdec hlt
    go_enter Tryd.func41, Tryd.ntmps41
    go_wp2_with fail
    refine (HM.out _).mono ?_
    rintro e w1 ⟨R, rfl, hR, LW⟩
    rw [HDC.out]
    rw [if_pos HLT.out] at hR
    have HR := hide hR
    have hst := st8n w1 R hR.len
    have KZ1 := hide ((KZ0.out.below LW).alloc (.cells (fV R).toArray 80))
    have F1 := hide ((F0.out.below LW).below (below1 w1 (.cells (fV R).toArray 80)))
    have U1 := hide ((below_then U0.out LW).alloc (below_then U0.out LW).size (.cells (fV R).toArray 80))
    have R1 : Hid (RowG .u64 4294967296 80 (w1.alloc (.cells (fV R).toArray 80)) w1.heap.size R) := ⟨Blk.new w1 (fV R) _ _ rfl rfl, hR.dg⟩
    have NZ := hide (KZ0.out.below LW).lt
    have NW := hide (below_then U0.out LW).size
    have NG : Hid (gf < w1.heap.size) := by unfold Hid; have h1 := HFL.out; have h2 := NW.out; omega
    clear hR LW
    go_wp2
    go_loopw [9, 10] (fun cv i wr => ∃ (k : Nat) (c : Int) (Z : List Int), i = .int .i64 (k : Int) ∧ k ≤ 8 ∧ cv = .int .u64 c ∧ (c = 0 ∨ c = 1) ∧ Hid (Z.length = 8) ∧ Hid (RowG .u64 4294967296 80 wr w1.heap.size Z) ∧ Hid (val 4294967296 (Z.take k) + c * pw 4294967296 k = val 4294967296 (R.take k) + val 4294967296 (pW.take k)) ∧ Hid (Z.drop k = R.drop k) ∧ Hid (FM wr gf) ∧ Hid (Blk 80 wr (w.heap.size + 1 + 1) (fV z8)) ∧ Hid (Below w.heap.size w wr)) (fun _ i _ => 8 - (intOf i).toNat)
    case atStart => exact ⟨0, 0, R, rfl, by omega, rfl, .inl rfl, HR.out.len, R1, by unfold Hid; simp [val], rfl, F1, KZ1, U1⟩
    case round =>
      obtain ⟨k, c, Z, rfl, hk, rfl, hc, HZ, HRz, HV, HDr, HF, KZ, HW⟩ := hrel
      by_cases hk8 : k < 8
      · have ca := HRz.out.cell k (by rw [HZ.out]; exact hk8)
        have fz := HRz.out.frozen k
        have cb := HF.out.cell k hk8
        have ba := HRz.out.2.at (by decide : (0 : Int) < 4294967296) k
        have bb := fw_pW.dg.at (by decide : (0 : Int) < 4294967296) k
        have va := val_take_succ 4294967296 R k
        have vb := val_take_succ 4294967296 pW k
        have hzr : Z.getD k 0 = R.getD k 0 := by
          have h1 := congrArg (fun l => l.getD 0 0) HDr.out
          simpa [List.getD, List.getElem?_drop] using h1
        rw [← hzr] at va
        obtain ⟨a, ha⟩ : ∃ a, Z.getD k 0 = a := ⟨_, rfl⟩
        obtain ⟨b, hb⟩ : ∃ b, pW.getD k 0 = b := ⟨_, rfl⟩
        rw [ha] at ca ba va
        rw [hb] at cb bb vb
        obtain ⟨q1, q2, q3, q4, q5, q6, q7⟩ := add_word ba bb hc
        have tm : Int.tmod (a + b + c) 4294967296 = (a + b + c) % 4294967296 := by rw [Int.tmod_eq_emod_of_nonneg q3]
        have td : Int.tdiv (a + b + c) 4294967296 = (a + b + c) / 4294967296 := by rw [Int.tdiv_eq_ediv_of_nonneg q3]
        obtain ⟨u, hu⟩ : ∃ u, (a + b + c) % 4294967296 = u := ⟨_, rfl⟩
        obtain ⟨d, hd⟩ : ∃ d, (a + b + c) / 4294967296 = d := ⟨_, rfl⟩
        have q4' := q4
        have q5' := q5
        have q6' := q6
        have q7' := q7
        rw [hu] at q4' q5'
        rw [hd] at q6'
        rw [hu, hd] at q7'
        have HU := hide hu
        have HDe := hide hd
        have HQ6 := hide q6'
        have HV' : Hid (val 4294967296 ((Z.set k u).take (k + 1)) + d * pw 4294967296 (k + 1) = val 4294967296 (R.take (k + 1)) + val 4294967296 (pW.take (k + 1))) := by
          unfold Hid
          rw [val_take_set _ _ _ _ (by rw [HZ.out]; exact hk8), va, vb, q7', show pw 4294967296 (k + 1) = 4294967296 * pw 4294967296 k from rfl]
          have := HV.out
          grind
        have HDr' : Hid ((Z.set k u).drop (k + 1) = R.drop (k + 1)) := by
          unfold Hid
          rw [List.drop_set_of_lt (by omega), ← List.drop_drop, ← List.drop_drop, HDr.out]
        have kb : (k : Int) ≤ 7 := by omega
        have HG := hide (gSet wr w1.heap.size k (.int .u64 u))
        have HR' : Hid (RowG .u64 4294967296 80 (wr.setCell ⟨w1.heap.size, k, none⟩ (.int .u64 u)) w1.heap.size (Z.set k u)) := HRz.out.set k u ⟨q4', q5'⟩
        have HF' := hide (HF.out.kept HG.out (by have := NG.out; omega))
        have KZ' := hide (KZ.out.kept HG.out (by have := NZ.out; simp; omega))
        have HW' : Hid (Below w.heap.size w (wr.setCell ⟨w1.heap.size, k, none⟩ (.int .u64 u))) := HW.out.setCell (by show w.heap.size ≤ w1.heap.size; exact NW.out) _
        clear ha hb hu hd va vb hzr q6 q7 q4' q5' q6' q7' HV HRz HF KZ HW HDr
        go_wp2
        go_quiet (fail)
        go_wp2
        have e1 := HU.out
        have e2 := HDe.out
        rw [e1, e2]
        refine ⟨⟨k + 1, d, Z.set k u, by go_num, by omega, rfl, HQ6.out, ?_, HR'.out.heap rfl, HV', HDr', HF'.out.heap rfl, KZ'.out.heap rfl, ⟨HW'.out.os, HW'.out.tape, HW'.out.output, HW'.out.size, HW'.out.block⟩⟩, by simp [intOf]; omega⟩
        unfold Hid
        rw [List.length_set]
        exact HZ.out
      · obtain rfl : k = 8 := by omega
        have hv := HV.out
        rw [List.take_of_length_le (by rw [HZ.out]; omega), List.take_of_length_le (by rw [HR.out.len]; omega), List.take_of_length_le (by decide), HR.out.v, fw_pW.v, show pw 4294967296 8 = RR by decide] at hv
        have hZb := (show Fw Z (val 4294967296 Z) from ⟨HZ.out, HRz.out.2, rfl⟩).bd
        have hfin : Hid (Fw Z (ps x y)) := by
          refine ⟨HZ.out, HRz.out.2, ?_⟩
          obtain ⟨x0, x1, y0, y1⟩ := HX.out
          have hRb := HR.out.bd
          refine minus_yes (c := c) x0 y1 x1 y0 hRb.2 (by omega) hZb.1 hZb.2 ?_
          rw [Int.mul_comm]
          omega
        have HB1 := hide HRz.out.blk
        have hld := ldF HZ.out HB1.out
        have hst2 := stF8 HZ.out KZ.out rfl
        clear hv hZb HV HRz HDr HF HB1
        go_wp2
        exact retF (p := 6) (by kernel_rfl) rfl KZ.out rfl hfin.out HW.out (by omega)
  · have HLT := hide hlt
    have hdec : decide (x < y) = false := decide_eq_false hlt
    have HDC := hide hdec
    clear hdec hlt
    go_enter Tryd.func41, Tryd.ntmps41
    go_wp2_with fail
    refine (HM.out _).mono ?_
    rintro e w1 ⟨R, rfl, hR, LW⟩
    rw [HDC.out]
    have hnl : ¬ x < y := by have := HLT.out; omega
    rw [if_neg hnl] at hR
    have HR : Hid (Fw R (ps x y)) := by
      refine ⟨hR.len, hR.dg, ?_⟩
      obtain ⟨x0, x1, y0, y1⟩ := HX.out
      refine minus_no ?_ x1 y0 ?_
      · rw [hR.v]; omega
      · rw [hR.v]; simp
    have hst := st8n w1 R hR.len
    have KZ1 := hide ((KZ0.out.below LW).alloc (.cells (fV R).toArray 80))
    have U1 := hide ((below_then U0.out LW).alloc (below_then U0.out LW).size (.cells (fV R).toArray 80))
    have hld := ldF hR.len (Blk.new (T := 80) w1 (fV R) _ _ rfl rfl)
    have hst2 := stF8 hR.len KZ1.out rfl
    clear hR LW hnl
    go_wp2
    exact retF (p := 6) (by kernel_rfl) rfl KZ1.out rfl HR.out U1.out (by omega)

end Go.Proofs.YtcijjmncilciiaaDoor
