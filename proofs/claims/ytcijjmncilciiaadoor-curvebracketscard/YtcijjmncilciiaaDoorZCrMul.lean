/-
  The document's Mul.
-/
import Derived.Test.YtcijjmncilciiaaDoorZCrAddToCrMulM
namespace Go.Proofs.YtcijjmncilciiaaDoor
open Go.RowKit Go.IntWalk
attribute [local go_sem ↓] ld_F st_F eq_F

/-- What stays while a product is reckoned. -/
structure Km (w : World) (gf : Nat) (LA LB : List Value) (W : World) : Prop where
  ks : Ks w gf LA LB W
  low : W.cell? ⟨gf, 24, none⟩ = some (.int .u64 1)

theorem Km.set {w W : World} {gf : Nat} {LA LB : List Value} (h : Km w gf LA LB W) {k : Nat} (hk : w.heap.size + 1 + 1 < k) (i : Nat) (v : Value) : Km w gf LA LB (W.setCell ⟨k, i, none⟩ v) :=
  ⟨⟨h.ks.ka.kept (gSet _ _ _ _) (by simp; omega), h.ks.kb.kept (gSet _ _ _ _) (by simp; omega), h.ks.kz.kept (gSet _ _ _ _) (by simp; omega), h.ks.fm.kept (gSet _ _ _ _) (by have := h.ks.gl; omega), h.ks.gl, h.ks.bl.setCell (by show w.heap.size ≤ k; omega) _⟩,
    by rw [World.cell?_setCell_other _ _ _ _ (fun e => by have := (Addr.mk.inj e).1; have := h.ks.gl; omega)]; exact h.low⟩
theorem Km.sets {w W : World} {gf : Nat} {LA LB : List Value} (h : Km w gf LA LB W) {k : Nat} (hk : w.heap.size + 1 + 1 < k) (o : Nat) (vs : List Value) : Km w gf LA LB (W.setCells k o vs) :=
  ⟨h.ks.sets hk o vs, (World.cell?_of_block ((gSets k vs o W).1.block gf h.ks.fm.lt (by have := h.ks.gl; simp; omega))).trans h.low⟩
theorem Km.heap {w W V : World} {gf : Nat} {LA LB : List Value} (h : Km w gf LA LB W) (d : Drew W V) : Km w gf LA LB V :=
  ⟨⟨h.ks.ka.heap d.heap, h.ks.kb.heap d.heap, h.ks.kz.heap d.heap, h.ks.fm.heap d.heap, h.ks.gl, d.below h.ks.bl⟩, (d.cell _).trans h.low⟩
theorem Km.below {w W V : World} {gf : Nat} {LA LB : List Value} (h : Km w gf LA LB W) (b : Below W.heap.size W V) : Km w gf LA LB V :=
  ⟨h.ks.below b, (b.cell (p := ⟨gf, 24, none⟩) (by have := h.ks.fm.lt; exact this)).trans h.low⟩

def z10 : List Int := [0, 0, 0, 0, 0, 0, 0, 0, 0, 0]

/-- The row between two rounds. -/
structure Rw (W : World) (g : Nat) (Z : List Int) : Prop where
  len : Z.length = 10
  row : RowG .u64 4294967296 120 W g Z
theorem Rw.set {W : World} {g : Nat} {Z : List Int} (h : Rw W g Z) (i : Nat) (u : Int) (hu : 0 ≤ u ∧ u < 4294967296) : Rw (W.setCell ⟨g, i, none⟩ (.int .u64 u)) g (Z.set i u) := ⟨by rw [List.length_set]; exact h.len, h.row.set i u hu⟩
theorem Rw.heap {W V : World} {g : Nat} {Z : List Int} (h : Rw W g Z) (e : V.heap = W.heap) : Rw V g Z := ⟨h.len, h.row.heap e⟩

theorem Rw.below {W V : World} {g : Nat} {Z : List Int} (h : Rw W g Z) (b : Below W.heap.size W V) : Rw V g Z := ⟨h.len, h.row.below b⟩

/-- What stays behind the rounds of a product. -/
structure Kt (w : World) (gf : Nat) (LA LB : List Value) (Z0 O : List Int) (G : Nat) (W : World) : Prop where
  km : Km w gf LA LB W
  rw : Rw W (w.heap.size + 1 + 1 + 1) Z0
  out : Blk 80 W G (fV O)
  ng : w.heap.size + 1 + 1 + 1 < G
theorem Kt.below {w W V : World} {gf : Nat} {LA LB : List Value} {Z0 O : List Int} {G : Nat} (h : Kt w gf LA LB Z0 O G W) (b : Below W.heap.size W V) : Kt w gf LA LB Z0 O G V := ⟨h.km.below b, h.rw.below b, h.out.below b, h.ng⟩
theorem Kt.drew {w W : World} {gf : Nat} {LA LB : List Value} {Z0 O : List Int} {G : Nat} (h : Kt w gf LA LB Z0 O G W) : Kt w gf LA LB Z0 O G W.drew := ⟨h.km.heap (by exact ⟨rfl, rfl, rfl, rfl⟩), h.rw.heap rfl, h.out.heap rfl, h.ng⟩

theorem head_drop {Z T : List Int} {k : Nat} (h : Z.drop k = T.drop k) (j : Nat) : Z.getD (k + j) 0 = T.getD (k + j) 0 := by
  have h1 := congrArg (fun l => l.getD j 0) h
  simpa [List.getD, List.getElem?_drop] using h1
theorem drop_step {Z T : List Int} {k : Nat} (h : Z.drop k = T.drop k) (u : Int) : (Z.set k u).drop (k + 1) = T.drop (k + 1) := by
  rw [List.drop_set_of_lt (by omega), ← List.drop_drop, ← List.drop_drop, h]
theorem drop_more {Z T : List Int} {k : Nat} (h : Z.drop k = T.drop k) : Z.drop (k + 1) = T.drop (k + 1) := by
  have := congrArg (List.drop 1) h
  simpa [List.drop_drop] using this
theorem drop_back {Z T : List Int} {j : Nat} (h : Z.drop (j + 1) = T.drop (j + 1)) (u : Int) : (Z.set j u).drop (j + 1 + 1) = T.drop (j + 1 + 1) := by
  rw [List.drop_set_of_lt (by omega)]
  exact drop_more h
theorem take8 {A : List Int} {x : Int} (h : Fw A x) : val 4294967296 (A.take 8) = x := by rw [List.take_of_length_le (by rw [h.len]; omega), h.v]

set_option maxRecDepth 100000 in
set_option maxHeartbeats 4000000 in
theorem rmul_any (gf : Nat) (A B : List Int) (x y : Int) (hA : Fw A x) (hB : Fw B y) (hx : x < PP) (w : World) (hF : FM w gf) (hlow : w.cell? ⟨gf, 24, none⟩ = some (.int .u64 1)) :
    Calls Tryd.prog 40 #[.pointer (some ⟨gf, 0, none⟩), .agg (fV A).toArray, .agg (fV B).toArray] w (Rf (mm x y) w) := by
  have HA := hide hA
  have HB := hide hB
  have HX := hide hx
  have honeA : ∀ u ∈ fV A, u.oneCell' = true := ints_one A .u64
  have honeB : ∀ u ∈ fV B, u.oneCell' = true := ints_one B .u64
  have M0 : Hid (Km w gf (fV A) (fV B) ((W3 w (fV A) (fV B) (fV z8) 80 80 80).alloc (.cells (fV z10).toArray 120))) := by
    have U0 := W3_w w (fV A) (fV B) (fV z8) 80 80 80
    have U1 := U0.alloc U0.size (.cells (fV z10).toArray 120)
    exact ⟨⟨(W3_a w _ _ _ _ _ _).alloc _, (W3_b w _ _ _ _ _ _).alloc _, (W3_c w _ _ _ _ _ _).alloc _, hF.below U1, hF.lt, U1⟩, (U1.cell (p := ⟨gf, 24, none⟩) hF.lt).trans hlow⟩
  have R0 : Hid (Rw ((W3 w (fV A) (fV B) (fV z8) 80 80 80).alloc (.cells (fV z10).toArray 120)) (w.heap.size + 1 + 1 + 1) z10) := ⟨rfl, Blk.new _ (fV z10) _ _ rfl (by simp [W3]), by intro q hq; simp [z10] at hq; omega⟩
  obtain ⟨LA, hLA⟩ : ∃ L, fV A = L := ⟨_, rfl⟩
  obtain ⟨LB, hLB⟩ : ∃ L, fV B = L := ⟨_, rfl⟩
  rw [hLA] at honeA M0 R0 ⊢
  rw [hLB] at honeB M0 R0 ⊢
  have HLA : Hid (∀ (W : World) (g k : Nat), Blk 80 W g LA → k < 8 → W.cell? ⟨g, k, none⟩ = some (.int .u64 (A.getD k 0))) := by
    intro W g k h hk
    rw [← hLA] at h
    exact blk_cell h k (by rw [hA.len]; exact hk)
  have HLB : Hid (∀ (W : World) (g k : Nat), Blk 80 W g LB → k < 8 → W.cell? ⟨g, k, none⟩ = some (.int .u64 (B.getD k 0))) := by
    intro W g k h hk
    rw [← hLB] at h
    exact blk_cell h k (by rw [hB.len]; exact hk)
  clear hA hB hx hF hlow hLA hLB
  go_enter Tryd.func40, Tryd.ntmps40
  go_wp2
  go_loopw [8] (fun iv wr => ∃ (i : Nat) (Z : List Int) (m : Int), iv = .int .i64 (i : Int) ∧ i ≤ 8 ∧ Hid (Rw wr (w.heap.size + 1 + 1 + 1) Z) ∧ Hid (val 4294967296 (Z.take 9) < 2 * PP ∧ val 4294967296 (Z.take 9) * pw 4294967296 i = x * val 4294967296 (B.take i) + PP * m) ∧ Hid (Km w gf LA LB wr)) (fun iv _ => 8 - (intOf iv).toNat)
  case atStart => exact ⟨0, z10, 0, rfl, by omega, R0, by unfold Hid; simp [z10, val]; decide, M0⟩
  case round =>
    clear R0 M0
    obtain ⟨i, Z0, m, rfl, hi, HZ, HV, HK⟩ := hrel
    by_cases hi8 : i < 8
    · have vB := val_take_succ 4294967296 B i
      have bB := HB.out.dg.at (by decide : (0 : Int) < 4294967296) i
      obtain ⟨b, hb⟩ : ∃ b, B.getD i 0 = b := ⟨_, rfl⟩
      rw [hb] at vB bB
      have HBc : Hid (∀ W : World, Blk 80 W (w.heap.size + 1) LB → W.cell? ⟨w.heap.size + 1, i, none⟩ = some (.int .u64 b)) := by rw [← hb]; exact fun W h => HLB.out W _ i h hi8
      have HVB := hide vB
      have HBB := hide bB
      have ib : (i : Int) ≤ 7 := by omega
      clear hb vB bB
      go_wp2
      go_loopw [9, 10] (fun cv kv wr => ∃ (k : Nat) (c : Int) (Z : List Int), kv = .int .i64 (k : Int) ∧ k ≤ 8 ∧ cv = .int .u64 c ∧ Hid (0 ≤ c ∧ c < 4294967296) ∧ Hid (Rw wr (w.heap.size + 1 + 1 + 1) Z) ∧ Hid (val 4294967296 (Z.take k) + c * pw 4294967296 k = val 4294967296 (Z0.take k) + val 4294967296 (A.take k) * b) ∧ Hid (Z.drop k = Z0.drop k) ∧ Hid (Km w gf LA LB wr)) (fun _ kv _ => 8 - (intOf kv).toNat)
      case atStart => exact ⟨0, 0, Z0, rfl, by omega, rfl, ⟨by omega, by omega⟩, HZ, by unfold Hid; simp [val], rfl, HK⟩
      case round =>
        clear HZ HK
        obtain ⟨k, c, Z, rfl, hk, rfl, HC, HZ, HE, HDr, HK⟩ := hrel
        by_cases hk8 : k < 8
        · have ca := HLA.out _ w.heap.size k HK.out.ks.ka hk8
          have cb := HBc.out _ HK.out.ks.kb
          have cz := HZ.out.row.cell k (by rw [HZ.out.len]; omega)
          have fz := HZ.out.row.frozen k
          have ba := HA.out.dg.at (by decide : (0 : Int) < 4294967296) k
          have bz := HZ.out.row.2.at (by decide : (0 : Int) < 4294967296) k
          have va := val_take_succ 4294967296 A k
          have v0 := val_take_succ 4294967296 Z0 k
          have hzz := head_drop HDr.out 0
          rw [Nat.add_zero] at hzz
          rw [← hzz] at v0
          obtain ⟨a, ha⟩ : ∃ a, A.getD k 0 = a := ⟨_, rfl⟩
          obtain ⟨z, hz⟩ : ∃ z, Z.getD k 0 = z := ⟨_, rfl⟩
          rw [ha] at ca ba va
          rw [hz] at cz bz v0
          obtain ⟨q1, q2, q3, q4, q5, q6, q7⟩ := mul_word bz (prod_bd ba HBB.out) HC.out
          have tm : Int.tmod (z + a * b + c) 4294967296 = (z + a * b + c) % 4294967296 := by rw [Int.tmod_eq_emod_of_nonneg q4]
          have td : Int.tdiv (z + a * b + c) 4294967296 = (z + a * b + c) / 4294967296 := by rw [Int.tdiv_eq_ediv_of_nonneg q4]
          obtain ⟨u, hu⟩ : ∃ u, (z + a * b + c) % 4294967296 = u := ⟨_, rfl⟩
          obtain ⟨d, hd⟩ : ∃ d, (z + a * b + c) / 4294967296 = d := ⟨_, rfl⟩
          rw [hu] at q5
          rw [hd] at q6
          rw [hu, hd] at q7
          have HU := hide hu
          have HDe := hide hd
          have HQ6 := hide q6
          have hwd : IntKind.u64.wrap d = d := by rw [IntKind.wrap_u64]; exact Int.emod_eq_of_lt q6.1 (by omega)
          have HWD := hide hwd
          have HE' : Hid (val 4294967296 ((Z.set k u).take (k + 1)) + d * pw 4294967296 (k + 1) = val 4294967296 (Z0.take (k + 1)) + val 4294967296 (A.take (k + 1)) * b) := by
            unfold Hid
            rw [val_take_set _ _ _ _ (by rw [HZ.out.len]; omega), v0, va, show pw 4294967296 (k + 1) = 4294967296 * pw 4294967296 k from rfl]
            exact in1_step _ _ _ _ _ _ _ _ _ _ HE.out q7
          have HDr' := hide (drop_step HDr.out u)
          have HZ' := hide (HZ.out.set k u q5)
          have HK' := hide (HK.out.set (k := w.heap.size + 1 + 1 + 1) (by omega) k (.int .u64 u))
          have kb : (k : Int) ≤ 7 := by omega
          clear ha hz hu hd va v0 hzz q5 q6 q7 HZ HK HE HDr ba bz HC hwd
          go_wp2
          go_quiet (fail)
          go_wp2
          have e1 := HU.out
          have e2 := HDe.out
          rw [e1, e2]
          exact ⟨⟨k + 1, d, Z.set k u, by go_num, by omega, by rw [HWD.out], HQ6, HZ'.out.heap rfl, HE', HDr', HK'.out.heap (by exact ⟨rfl, rfl, rfl, rfl⟩)⟩, by simp [intOf]; omega⟩
        · obtain rfl : k = 8 := by omega
          have c8 := HZ.out.row.cell 8 (by rw [HZ.out.len]; omega)
          have f8 := HZ.out.row.frozen 8
          have b8 := HZ.out.row.2.at (by decide : (0 : Int) < 4294967296) 8
          have h8 := head_drop HDr.out 0
          rw [Nat.add_zero] at h8
          have hS := row9 Z0
          rw [← h8] at hS
          obtain ⟨t, ht⟩ : ∃ t, Z.getD 8 0 = t := ⟨_, rfl⟩
          rw [ht] at c8 b8 hS
          obtain ⟨q1, q2, q3, q4, q5⟩ := carry_word b8 HC.out
          have tm : Int.tmod (t + c) 4294967296 = (t + c) % 4294967296 := by rw [Int.tmod_eq_emod_of_nonneg q2]
          have td : Int.tdiv (t + c) 4294967296 = (t + c) / 4294967296 := by rw [Int.tdiv_eq_ediv_of_nonneg q2]
          obtain ⟨e8, he8⟩ : ∃ u, (t + c) % 4294967296 = u := ⟨_, rfl⟩
          obtain ⟨e9, he9⟩ : ∃ u, (t + c) / 4294967296 = u := ⟨_, rfl⟩
          rw [he8] at q3 tm
          rw [he9] at q4 td
          rw [he8, he9] at q5
          have hvT := top_words HE.out hS q5
          have HZ1 := hide ((HZ.out.set 8 e8 q3).set 9 e9 ⟨q4.1, by omega⟩)
          have c9 := (HZ.out.set 8 e8 q3).row.cell 9 (by rw [List.length_set, HZ.out.len]; omega)
          have f9 := (HZ.out.set 8 e8 q3).row.frozen 9
          have HK1 := hide ((HK.out.set (k := w.heap.size + 1 + 1 + 1) (by omega) 8 (.int .u64 e8)).set (k := w.heap.size + 1 + 1 + 1) (by omega) 9 (.int .u64 e9))
          obtain ⟨T, hT⟩ : ∃ T, (Z.set 8 e8).set 9 e9 = T := ⟨_, rfl⟩
          have HT8 : Hid (val 4294967296 (T.take 8) = val 4294967296 (Z.take 8) ∧ T.getD 8 0 = e8 ∧ T.getD 9 0 = e9 ∧ T.length = 10) := by
            have hl := HZ.out.len
            refine ⟨?_, ?_, ?_, ?_⟩
            · rw [← hT, List.take_set_of_le (by omega), List.take_set_of_le (by omega)]
            · rw [← hT]; simp [List.getD, hl]
            · rw [← hT]; simp [List.getD, hl]
            · rw [← hT]; simp [hl]
          have HVT : Hid (val 4294967296 (T.take 8) + e8 * pw 4294967296 8 + e9 * (4294967296 * pw 4294967296 8) = val 4294967296 (Z0.take 9) + x * b) := by
            unfold Hid
            rw [HT8.out.1, ← take8 HA.out]
            exact hvT
          have HQ9 : Hid (0 ≤ e9 ∧ e9 ≤ 1) := q4
          have we9 : IntKind.u64.wrap e9 = e9 := by rw [IntKind.wrap_u64]; exact Int.emod_eq_of_lt q4.1 (by omega)
          rw [hT] at HZ1
          clear hT hvT hS h8 ht he8 he9 q3 q4 q5 HE HDr HC b8
          go_wp2
          generalize (wr.setCell ⟨w.heap.size + 1 + 1 + 1, 8, none⟩ (.int .u64 e8)).setCell ⟨w.heap.size + 1 + 1 + 1, 9, none⟩ (.int .u64 e9) = W1 at HZ1 HK1 ⊢
          clear HZ HK c8 f8 c9 f9 q1 q2 tm td
          have c0 := HZ1.out.row.cell 0 (by rw [HZ1.out.len]; omega)
          have b0 := HZ1.out.row.2.at (by decide : (0 : Int) < 4294967296) 0
          have l0 := HK1.out.low
          obtain ⟨l, hl⟩ : ∃ l, T.getD 0 0 = l := ⟨_, rfl⟩
          rw [hl] at c0 b0
          have wl : IntKind.u64.wrap l = l := by rw [IntKind.wrap_u64]; exact Int.emod_eq_of_lt b0.1 (by omega)
          have tl : Int.tmod l 4294967296 = l := by rw [Int.tmod_eq_emod_of_nonneg b0.1]; exact Int.emod_eq_of_lt b0.1 b0.2
          have HLL := hide hl
          have HBL := hide b0
          clear hl b0
          go_quiet (fail)
          go_wp2
          have HZ2 := hide (HZ1.out.heap (V := W1.drewN nq) rfl)
          have HK2 := hide (HK1.out.heap (V := W1.drewN nq) (by exact ⟨rfl, rfl, rfl, rfl⟩))
          clear HZ1 HK1 c0 l0
          go_loopw [9, 14] (fun cv kv wr => ∃ (k : Nat) (c : Int) (Z : List Int), kv = .int .i64 (k : Int) ∧ k ≤ 8 ∧ cv = .int .u64 c ∧ Hid (0 ≤ c ∧ c < 4294967296) ∧ Hid (Rw wr (w.heap.size + 1 + 1 + 1) Z) ∧ Hid ((k = 0 → c = 0) ∧ (1 ≤ k → 4294967296 * val 4294967296 (Z.take (k - 1)) + c * pw 4294967296 k = val 4294967296 (T.take k) + l * val 4294967296 (pW.take k))) ∧ Hid (Z.drop k = T.drop k) ∧ Hid (Km w gf LA LB wr)) (fun _ kv _ => 8 - (intOf kv).toNat)
          case atStart => exact ⟨0, 0, T, rfl, by omega, rfl, ⟨by omega, by omega⟩, HZ2, ⟨fun _ => rfl, fun h => absurd h (by omega)⟩, rfl, HK2⟩
          case round =>
            clear HZ2 HK2
            obtain ⟨k, c, Z, rfl, hk, rfl, HC, HZ, HE, HDr, HK⟩ := hrel
            by_cases hk8 : k < 8
            · have cm := HK.out.ks.fm.cell k hk8
              have cz := HZ.out.row.cell k (by rw [HZ.out.len]; omega)
              have ba := fw_pW.dg.at (by decide : (0 : Int) < 4294967296) k
              have bz := HZ.out.row.2.at (by decide : (0 : Int) < 4294967296) k
              have va := val_take_succ 4294967296 pW k
              have v0 := val_take_succ 4294967296 T k
              have hzz := head_drop HDr.out 0
              rw [Nat.add_zero] at hzz
              have HTZ := hide hzz
              rw [← hzz] at v0
              obtain ⟨a, ha⟩ : ∃ a, pW.getD k 0 = a := ⟨_, rfl⟩
              obtain ⟨z, hz⟩ : ∃ z, Z.getD k 0 = z := ⟨_, rfl⟩
              rw [ha] at cm ba va
              rw [hz] at cz bz v0
              obtain ⟨q1, q2, q3, q4, q5, q6, q7⟩ := mul_word bz (prod_bd ba HBL.out) HC.out
              have tm : Int.tmod (z + a * l + c) 4294967296 = (z + a * l + c) % 4294967296 := by rw [Int.tmod_eq_emod_of_nonneg q4]
              have td : Int.tdiv (z + a * l + c) 4294967296 = (z + a * l + c) / 4294967296 := by rw [Int.tdiv_eq_ediv_of_nonneg q4]
              obtain ⟨u, hu⟩ : ∃ u, (z + a * l + c) % 4294967296 = u := ⟨_, rfl⟩
              obtain ⟨d, hd⟩ : ∃ d, (z + a * l + c) / 4294967296 = d := ⟨_, rfl⟩
              rw [hu] at q5
              rw [hd] at q6
              rw [hu, hd] at q7
              have hwd : IntKind.u64.wrap d = d := by rw [IntKind.wrap_u64]; exact Int.emod_eq_of_lt q6.1 (by omega)
              have HU := hide hu
              have HDe := hide hd
              have HQ6 := hide q6
              have HWD := hide hwd
              have kb : (k : Int) ≤ 7 := by omega
              by_cases hk0 : k = 0
              · subst hk0
                have hE1 : Hid ((1 = 0 → d = 0) ∧ (1 ≤ 0 + 1 → 4294967296 * val 4294967296 (Z.take (0 + 1 - 1)) + d * pw 4294967296 (0 + 1) = val 4294967296 (T.take (0 + 1)) + l * val 4294967296 (pW.take (0 + 1)))) := by
                  refine ⟨fun h => absurd h (by omega), fun _ => ?_⟩
                  have ez : z = l := by rw [← hz, HTZ.out, HLL.out]
                  have ea : a = 4294967295 := by rw [← ha]; rfl
                  have ec : c = 0 := HE.out.1 rfl
                  rw [v0, va, ez, ea]
                  rw [ez, ea, ec] at hd
                  have ed : d = l := by rw [← hd]; have := HBL.out; omega
                  rw [ed]
                  simp [val, pw]
                  omega
                have HDr' : Hid (Z.drop (0 + 1) = T.drop (0 + 1)) := drop_more HDr.out
                clear ha hz hu hd va v0 hzz q5 q6 q7 HE HDr ba bz HC hwd hk hk8
                go_wp2
                go_quiet (fail)
                go_wp2
                have e2 := HDe.out
                have e3 := HWD.out
                rw [e2, e3]
                exact ⟨⟨1, d, Z, by go_num, by omega, rfl, HQ6, HZ.out.heap rfl, hE1, HDr', HK.out.heap (by exact ⟨rfl, rfl, rfl, rfl⟩)⟩, by simp [intOf]⟩
              · have cy := HZ.out.row.cell (k - 1) (by rw [HZ.out.len]; omega)
                have fy := HZ.out.row.frozen (k - 1)
                obtain ⟨j, rfl⟩ : ∃ j, k = j + 1 := ⟨k - 1, by omega⟩
                rw [show j + 1 - 1 = j by omega] at cy fy
                have hE1 : Hid ((j + 1 + 1 = 0 → d = 0) ∧ (1 ≤ j + 1 + 1 → 4294967296 * val 4294967296 ((Z.set j u).take (j + 1 + 1 - 1)) + d * pw 4294967296 (j + 1 + 1) = val 4294967296 (T.take (j + 1 + 1)) + l * val 4294967296 (pW.take (j + 1 + 1)))) := by
                  refine ⟨fun h => absurd h (by omega), fun _ => ?_⟩
                  have h1 := HE.out.2 (by omega)
                  rw [show j + 1 - 1 = j by omega] at h1
                  rw [show j + 1 + 1 - 1 = j + 1 by omega, val_take_set _ _ _ _ (by rw [HZ.out.len]; omega), v0, va]
                  exact in3_step _ _ _ _ _ _ _ _ _ _ h1 q7
                have HDr' : Hid ((Z.set j u).drop (j + 1 + 1) = T.drop (j + 1 + 1)) := drop_back HDr.out u
                have HZ' := hide (HZ.out.set j u q5)
                have HK' := hide (HK.out.set (k := w.heap.size + 1 + 1 + 1) (by omega) j (.int .u64 u))
                have hj1 : ((j + 1 : Nat) : Int) - 1 = (j : Int) := by omega
                clear ha hz hu hd va v0 hzz q5 q6 q7 HE HDr ba bz HC hwd hk0
                go_wp2
                go_quiet (fail)
                go_wp2
                have e1 := HU.out
                have e2 := HDe.out
                have e3 := HWD.out
                rw [e1, e2, e3]
                exact ⟨⟨j + 1 + 1, d, Z.set j u, by go_num, by omega, rfl, HQ6, HZ'.out.heap rfl, hE1, HDr', HK'.out.heap (by exact ⟨rfl, rfl, rfl, rfl⟩)⟩, by simp [intOf]; omega⟩
            · obtain rfl : k = 8 := by omega
              have h3 := HE.out.2 (by omega)
              rw [show (8 : Nat) - 1 = 7 from rfl, take8 fw_pW] at h3
              have c8 := HZ.out.row.cell 8 (by rw [HZ.out.len]; omega)
              have b8 := HZ.out.row.2.at (by decide : (0 : Int) < 4294967296) 8
              have h8 := head_drop HDr.out 0
              have h9 := head_drop HDr.out 1
              rw [Nat.add_zero, HT8.out.2.1] at h8
              rw [show 8 + 1 = 9 from rfl, HT8.out.2.2.1] at h9
              rw [h8] at c8 b8
              have c7 := HZ.out.row.cell 7 (by rw [HZ.out.len]; omega)
              have f7 := HZ.out.row.frozen 7
              obtain ⟨q1, q2, q3, q4, q5⟩ := carry_word b8 HC.out
              have tm : Int.tmod (e8 + c) 4294967296 = (e8 + c) % 4294967296 := by rw [Int.tmod_eq_emod_of_nonneg q2]
              have td : Int.tdiv (e8 + c) 4294967296 = (e8 + c) / 4294967296 := by rw [Int.tdiv_eq_ediv_of_nonneg q2]
              obtain ⟨u, hu⟩ : ∃ u, (e8 + c) % 4294967296 = u := ⟨_, rfl⟩
              obtain ⟨d, hd⟩ : ∃ u, (e8 + c) / 4294967296 = u := ⟨_, rfl⟩
              rw [hu] at q3 tm
              rw [hd] at q4 td
              rw [hu, hd] at q5
              have hq9 := HQ9.out
              have wd : IntKind.u64.wrap d = d := by rw [IntKind.wrap_u64]; exact Int.emod_eq_of_lt q4.1 (by omega)
              have we : IntKind.u64.wrap (e9 + d) = e9 + d := by rw [IntKind.wrap_u64]; exact Int.emod_eq_of_lt (by omega) (by omega)
              have HZ7 := HZ.out.set 7 u q3
              have c9 := HZ7.row.cell 9 (by rw [HZ7.len]; omega)
              rw [show (Z.set 7 u).getD 9 0 = Z.getD 9 0 by simp [List.getD], h9] at c9
              have c88 := HZ7.row.cell 8 (by rw [HZ7.len]; omega)
              have f88 := HZ7.row.frozen 8
              have HZ8 := hide (HZ7.set 8 (e9 + d) ⟨by omega, by omega⟩)
              have HK8 := hide ((HK.out.set (k := w.heap.size + 1 + 1 + 1) (by omega) 7 (.int .u64 u)).set (k := w.heap.size + 1 + 1 + 1) (by omega) 8 (.int .u64 (e9 + d)))
              have hkey : 4294967296 * val 4294967296 (((Z.set 7 u).set 8 (e9 + d)).take 9) = val 4294967296 (Z0.take 9) + x * b + PP * l := by
                rw [val_take_set _ _ _ _ (by rw [HZ7.len]; omega), val_take_set _ _ _ _ (by rw [HZ.out.len]; omega)]
                have := low_words (vT := val 4294967296 (Z0.take 9) + x * b) (P7 := pw 4294967296 7) (t9 := e9) (t8 := e8) (x := e8 + c) (u := u) (d := d) (by simpa [pw] using h3) (by have := HVT.out; simp only [pw] at this ⊢; omega) rfl q5
                rw [show pw 4294967296 8 = 4294967296 * pw 4294967296 7 from rfl, Int.mul_comm PP l]
                exact this
              have HS' : Hid (val 4294967296 (((Z.set 7 u).set 8 (e9 + d)).take 9) < 2 * PP ∧ val 4294967296 (((Z.set 7 u).set 8 (e9 + d)).take 9) * pw 4294967296 (i + 1) = x * val 4294967296 (B.take (i + 1)) + PP * (m + l * pw 4294967296 i)) := by
                refine ⟨mul_key hkey HV.out.1 HX.out HBB.out HBL.out, ?_⟩
                rw [HVB.out, show pw 4294967296 (i + 1) = 4294967296 * pw 4294967296 i from rfl]
                exact mul_inv hkey HV.out.2
              clear hkey h3 h8 h9 b8 hu hd q3 q4 q5 hq9 HZ7 HE HDr HC HVT HT8 HV HZ HK
              go_wp2
              exact ⟨⟨i + 1, (Z.set 7 u).set 8 (e9 + d), m + l * pw 4294967296 i, by go_num, by omega, HZ8, HS', HK8⟩, by simp [intOf]; omega⟩
    · obtain rfl : i = 8 := by omega
      have hS := HV.out.2
      rw [take8 HB.out, show pw 4294967296 8 = RR by decide] at hS
      have HSm : Hid (val 4294967296 (Z0.take 9) % PP = mm x y) := mm_of (m := m) (by rw [hS])
      have HS9 : Hid (val 4294967296 (Z0.take 9) = val 4294967296 (Z0.take 8) + Z0.getD 8 0 * RR) := by unfold Hid; rw [row9, show pw 4294967296 8 = RR by decide]
      have HS2 := hide HV.out.1
      clear hS HV
      go_wp2
      have NGr := HZ.out.row.lt
      have O0 : Hid (RowG .u64 4294967296 80 (wr.alloc (.cells (fV z8).toArray 80)) wr.heap.size z8) := ⟨Blk.new wr (fV z8) _ _ rfl rfl, fw_z8.dg⟩
      have HZa := hide (HZ.out.below (below1 wr (.cells (fV z8).toArray 80)))
      have HKa := hide (HK.out.below (below1 wr (.cells (fV z8).toArray 80)))
      generalize wr.heap.size = G at NGr O0 ⊢
      have NG := hide NGr
      clear NGr HZ HK
      go_loopw [16] (fun iv wr => ∃ (k : Nat) (O : List Int), iv = .int .i64 (k : Int) ∧ k ≤ 8 ∧ Hid (O.length = 8) ∧ Hid (RowG .u64 4294967296 80 wr G O) ∧ Hid (O.take k = Z0.take k) ∧ Hid (Rw wr (w.heap.size + 1 + 1 + 1) Z0) ∧ Hid (Km w gf LA LB wr)) (fun iv _ => 8 - (intOf iv).toNat)
      case atStart => exact ⟨0, z8, rfl, by omega, rfl, O0, rfl, HZa, HKa⟩
      case round =>
        clear O0 HZa HKa
        obtain ⟨k, O, rfl, hk, HO, HOr, HT, HZ, HK⟩ := hrel
        by_cases hk8 : k < 8
        · have cz := HZ.out.row.cell k (by rw [HZ.out.len]; omega)
          have bz := HZ.out.row.2.at (by decide : (0 : Int) < 4294967296) k
          have co := HOr.out.cell k (by rw [HO.out]; exact hk8)
          have fo := HOr.out.frozen k
          obtain ⟨z, hz⟩ : ∃ z, Z0.getD k 0 = z := ⟨_, rfl⟩
          rw [hz] at cz bz
          have HT' := hide (take_next (by rw [HO.out]; exact hk8) HT.out (by rw [HZ.out.len]; omega) hz)
          have HO' := hide (HOr.out.set k z bz)
          have HZ' : Hid (Rw (wr.setCell ⟨G, k, none⟩ (.int .u64 z)) (w.heap.size + 1 + 1 + 1) Z0) := ⟨HZ.out.len, HZ.out.row.kept (gSet _ _ _ _) (by have := NG.out; simp; omega)⟩
          have HK' := hide (HK.out.set (k := G) (by have := NG.out; omega) k (.int .u64 z))
          have HOl : Hid ((O.set k z).length = 8) := by unfold Hid; rw [List.length_set]; exact HO.out
          have kb : (k : Int) ≤ 7 := by omega
          clear hz bz HOr HT HZ HK HO
          go_wp2
          exact ⟨⟨k + 1, O.set k z, by go_num, by omega, HOl, HO', HT', HZ', HK'⟩, by simp [intOf]; omega⟩
        · obtain rfl : k = 8 := by omega
          have hO : O = Z0.take 8 := by have := HT.out; rwa [List.take_of_length_le (by rw [HO.out]; omega)] at this
          have HFO : Hid (Fw O (val 4294967296 (Z0.take 8))) := ⟨HO.out, HOr.out.2, by rw [hO]⟩
          have S0 : Kt w gf LA LB Z0 O G wr := ⟨HK.out, HZ.out, HOr.out.blk, NG.out⟩
          have c8 : Hid (∀ W, Kt w gf LA LB Z0 O G W → W.cell? ⟨w.heap.size + 1 + 1 + 1, 8, none⟩ = some (.int .u64 (Z0.getD 8 0))) := fun W h => h.rw.row.cell 8 (by rw [h.rw.len]; omega)
          have hs9 := HS9.out
          have hs2 := HS2.out
          have b8 := HZ.out.row.2.at (by decide : (0 : Int) < 4294967296) 8
          have bo := HFO.out.bd
          have hsm := HSm.out
          rw [hs9] at hs2 hsm
          obtain ⟨o, ho⟩ : ∃ o, val 4294967296 (Z0.take 8) = o := ⟨_, rfl⟩
          obtain ⟨t, ht⟩ : ∃ t, Z0.getD 8 0 = t := ⟨_, rfl⟩
          rw [ho] at HFO bo hs2 hsm
          rw [ht] at hs2 hsm c8 b8
          have ht01 : t = 0 ∨ t = 1 := by unfold PP at hs2; unfold RR at hs2; omega
          clear hO ho ht hs9 HS9 HS2 HSm HOr HT HZ HK HO
          have HLO : Hid (∀ W, Blk 80 W G (fV O) → (ldA 80 (.pointer (some ⟨G, 0, none⟩))).run Tryd.prog W = .ok (.agg (fV O).toArray) W) := fun W h => ldF HFO.out.len h
          have HMI : Hid (∀ W, Calls Tryd.prog 69 #[.agg (fV O).toArray, .agg (fV pW).toArray] W (Rm o PP W)) := fun W => rminus_any O pW o PP HFO.out fw_pW W
          rcases ht01 with rfl | rfl
          · rw [Int.zero_mul, Int.add_zero] at hsm
            have HLS : Hid (∀ W, Calls Tryd.prog 38 #[.agg (fV O).toArray, .agg (fV pW).toArray] W fun e w' => e = .returned (.bool (decide (o < PP))) ∧ Below W.heap.size W w') := fun W => rless_any O pW o PP HFO.out fw_pW W
            by_cases hop : o < PP
            · have HDC : Hid (decide (o < PP) = true) := decide_eq_true hop
              have HFR : Hid (Fw O (mm x y)) := by unfold Hid; rw [← hsm, Int.emod_eq_of_lt bo.1 hop]; exact HFO.out
              clear hsm hs2 b8 bo hop
              go_wp2
              refine wp_region_held_drew (S := Kt w gf LA LB Z0 O G) (by kernel_rfl) S0.drew (fun hS0 => ?_)
              generalize wr.drew = V at hS0 ⊢
              clear S0
              refine wpAnyH_take (i := 0) (v := ?_) rfl (by kernel_rfl) (by kernel_rfl) (by kernel_rfl) (fun _ _ _ h => h) (Or.inl ⟨by rfl, ?_⟩) (by assumption) ?_
              rotate_left
              · intro wq hSq
                have hc8 := c8.out wq hSq
                go_simp
                try with_reducible rfl
              simp only [List.getElem_toArray, List.getElem_cons_zero, Act.put, List.setIfInBounds_toArray, List.set_cons_zero, List.set_cons_succ]
              refine wpAnyH_take (i := 1) (v := ?_) rfl (by kernel_rfl) (by kernel_rfl) (by kernel_rfl) (fun _ _ _ h => h) (Or.inl ⟨by rfl, ?_⟩) (by assumption) ?_
              rotate_left
              · intro wq hSq
                have hc8 := c8.out wq hSq
                have hlm := hSq.km.ks.fm.ld
                have hlo := HLO.out wq hSq.out
                go_simp
                try with_reducible rfl
              simp only [List.getElem_toArray, List.getElem_cons_succ, List.getElem_cons_zero, Act.put, List.setIfInBounds_toArray, List.set_cons_zero, List.set_cons_succ]
              refine wpAnyH_take (i := 2) (v := .bool false) rfl (by kernel_rfl) (by kernel_rfl) (by kernel_rfl) (fun _ _ _ h => h) (Or.inl ⟨by rfl, ?_⟩) (by assumption) ?_
              · intro wq hSq
                have hc8 := c8.out wq hSq
                go_simp
              simp only [List.getElem_toArray, List.getElem_cons_succ, List.getElem_cons_zero, Act.put, List.setIfInBounds_toArray, List.set_cons_zero, List.set_cons_succ]
              refine wpAnyH_take (i := 3) (v := .bool false) rfl (by kernel_rfl) (by kernel_rfl) (by kernel_rfl) (fun _ _ _ h => h) (Or.inl ⟨by rfl, ?_⟩) (by assumption) ?_
              · intro wq hSq
                have hc8 := c8.out wq hSq
                go_simp
              simp only [List.getElem_toArray, List.getElem_cons_succ, List.getElem_cons_zero, Act.put, List.setIfInBounds_toArray, List.set_cons_zero, List.set_cons_succ]
              refine wpAnyH_take (i := 4) (v := ?_) rfl (by kernel_rfl) (by kernel_rfl) (by kernel_rfl) (fun _ _ _ h => h) (Or.inl ⟨by rfl, ?_⟩) (by assumption) ?_
              rotate_left
              · intro wq hSq
                have hc8 := c8.out wq hSq
                have hlm := hSq.km.ks.fm.ld
                have hlo := HLO.out wq hSq.out
                go_simp
                try with_reducible rfl
              simp only [List.getElem_toArray, List.getElem_cons_succ, List.getElem_cons_zero, Act.put, List.setIfInBounds_toArray, List.set_cons_zero, List.set_cons_succ]
              refine wpAnyH_take (i := 5) (v := ?_) rfl (by kernel_rfl) (by kernel_rfl) (by kernel_rfl) (fun _ _ _ h => h) (Or.inl ⟨by rfl, ?_⟩) (by assumption) ?_
              rotate_left
              · intro wq hSq
                have hc8 := c8.out wq hSq
                have hlm := hSq.km.ks.fm.ld
                have hlo := HLO.out wq hSq.out
                go_simp
                try with_reducible rfl
              simp only [List.getElem_toArray, List.getElem_cons_succ, List.getElem_cons_zero, Act.put, List.setIfInBounds_toArray, List.set_cons_zero, List.set_cons_succ]
              refine wpAnyH_take (i := 6) (v := ?_) rfl (by kernel_rfl) (by kernel_rfl) (by kernel_rfl) (fun _ _ _ h => h) (Or.inl ⟨by rfl, ?_⟩) (by assumption) ?_
              rotate_left
              · intro wq hSq
                have hc8 := c8.out wq hSq
                have hlm := hSq.km.ks.fm.ld
                have hlo := HLO.out wq hSq.out
                go_simp
                try with_reducible rfl
              simp only [List.getElem_toArray, List.getElem_cons_succ, List.getElem_cons_zero, Act.put, List.setIfInBounds_toArray, List.set_cons_zero, List.set_cons_succ]
              refine wpAnyH_take (i := 7) (v := ?_) rfl (by kernel_rfl) (by kernel_rfl) (by kernel_rfl) (fun _ _ _ h => h) (Or.inl ⟨by rfl, ?_⟩) (by assumption) ?_
              rotate_left
              · intro wq hSq
                have hc8 := c8.out wq hSq
                have hlm := hSq.km.ks.fm.ld
                have hlo := HLO.out wq hSq.out
                go_simp
                try with_reducible rfl
              simp only [List.getElem_toArray, List.getElem_cons_succ, List.getElem_cons_zero, Act.put, List.setIfInBounds_toArray, List.set_cons_zero, List.set_cons_succ]
              refine wpAnyH_take (i := 8) (v := ?_) rfl (by kernel_rfl) (by kernel_rfl) (by kernel_rfl) (fun _ _ _ h => h) (Or.inl ⟨by rfl, ?_⟩) (by assumption) ?_
              rotate_left
              · intro wq hSq
                have hc8 := c8.out wq hSq
                have hlm := hSq.km.ks.fm.ld
                have hlo := HLO.out wq hSq.out
                go_simp
                try with_reducible rfl
              simp only [List.getElem_toArray, List.getElem_cons_succ, List.getElem_cons_zero, Act.put, List.setIfInBounds_toArray, List.set_cons_zero, List.set_cons_succ]
              refine wpAnyH_ready (rs := [9]) (by kernel_rfl) (by simp) ?_
              refine AllReadyH.cons rfl (fun Kq hKq => ?_) AllReadyH.nil
              go_simp
              refine (HLS.out _).mono ?_
              rintro e w5 ⟨rfl, LW⟩
              rw [HDC.out]
              have hS1 := hS0.below LW
              clear LW hS0
              refine hKq.out _ _ hS1 (fun _ => ?_)
              clear hKq Kq
              refine wpAnyH_take (i := 10) (v := .bool false) rfl (by kernel_rfl) (by kernel_rfl) (by kernel_rfl) (fun _ _ _ h => h) (Or.inl ⟨by rfl, ?_⟩) (by assumption) ?_
              · intro wq hSq
                have hc8 := c8.out wq hSq
                go_simp
              simp only [List.getElem_toArray, List.getElem_cons_succ, List.getElem_cons_zero, Act.put, List.setIfInBounds_toArray, List.set_cons_zero, List.set_cons_succ]
              refine wpAnyH_take (i := 11) (v := .bool false) rfl (by kernel_rfl) (by kernel_rfl) (by kernel_rfl) (fun _ _ _ h => h) (Or.inl ⟨by rfl, ?_⟩) (by assumption) ?_
              · intro wq hSq
                have hc8 := c8.out wq hSq
                go_simp
              simp only [List.getElem_toArray, List.getElem_cons_succ, List.getElem_cons_zero, Act.put, List.setIfInBounds_toArray, List.set_cons_zero, List.set_cons_succ]
              refine wpAnyH_done (by kernel_rfl) ?_ _
              have l7 := HLO.out _ hS1.out
              have Z7 := hide hS1.km.ks.kz
              have U7 := hide hS1.km.ks.bl
              have s7 := stF8 HFR.out.len Z7.out rfl
              clear hS1
              go_wp2
              exact retF (p := 6) (by kernel_rfl) rfl Z7.out rfl HFR.out U7.out (by omega)
            · have HDC : Hid (decide (o < PP) = false) := decide_eq_false hop
              have HFin : Hid (o - PP + (if o < PP then RR else 0) = mm x y) := by
                unfold Hid
                rw [if_neg hop, ← hsm, show o = (o - PP) + PP * 1 by omega, Int.add_mul_emod_self_left]
                have e := Int.emod_eq_of_lt (a := o - PP) (b := PP) (by omega) (by unfold RR at hs2; omega)
                omega
              clear hsm hs2 b8 bo hop
              go_wp2
              refine wp_region_held_drew (S := Kt w gf LA LB Z0 O G) (by kernel_rfl) S0.drew (fun hS0 => ?_)
              generalize wr.drew = V at hS0 ⊢
              clear S0
              refine wpAnyH_take (i := 0) (v := ?_) rfl (by kernel_rfl) (by kernel_rfl) (by kernel_rfl) (fun _ _ _ h => h) (Or.inl ⟨by rfl, ?_⟩) (by assumption) ?_
              rotate_left
              · intro wq hSq
                have hc8 := c8.out wq hSq
                go_simp
                try with_reducible rfl
              simp only [List.getElem_toArray, List.getElem_cons_zero, Act.put, List.setIfInBounds_toArray, List.set_cons_zero, List.set_cons_succ]
              refine wpAnyH_take (i := 1) (v := ?_) rfl (by kernel_rfl) (by kernel_rfl) (by kernel_rfl) (fun _ _ _ h => h) (Or.inl ⟨by rfl, ?_⟩) (by assumption) ?_
              rotate_left
              · intro wq hSq
                have hc8 := c8.out wq hSq
                have hlm := hSq.km.ks.fm.ld
                have hlo := HLO.out wq hSq.out
                go_simp
                try with_reducible rfl
              simp only [List.getElem_toArray, List.getElem_cons_succ, List.getElem_cons_zero, Act.put, List.setIfInBounds_toArray, List.set_cons_zero, List.set_cons_succ]
              refine wpAnyH_take (i := 2) (v := .bool false) rfl (by kernel_rfl) (by kernel_rfl) (by kernel_rfl) (fun _ _ _ h => h) (Or.inl ⟨by rfl, ?_⟩) (by assumption) ?_
              · intro wq hSq
                have hc8 := c8.out wq hSq
                go_simp
              simp only [List.getElem_toArray, List.getElem_cons_succ, List.getElem_cons_zero, Act.put, List.setIfInBounds_toArray, List.set_cons_zero, List.set_cons_succ]
              refine wpAnyH_take (i := 3) (v := .bool false) rfl (by kernel_rfl) (by kernel_rfl) (by kernel_rfl) (fun _ _ _ h => h) (Or.inl ⟨by rfl, ?_⟩) (by assumption) ?_
              · intro wq hSq
                have hc8 := c8.out wq hSq
                go_simp
              simp only [List.getElem_toArray, List.getElem_cons_succ, List.getElem_cons_zero, Act.put, List.setIfInBounds_toArray, List.set_cons_zero, List.set_cons_succ]
              refine wpAnyH_take (i := 4) (v := ?_) rfl (by kernel_rfl) (by kernel_rfl) (by kernel_rfl) (fun _ _ _ h => h) (Or.inl ⟨by rfl, ?_⟩) (by assumption) ?_
              rotate_left
              · intro wq hSq
                have hc8 := c8.out wq hSq
                have hlm := hSq.km.ks.fm.ld
                have hlo := HLO.out wq hSq.out
                go_simp
                try with_reducible rfl
              simp only [List.getElem_toArray, List.getElem_cons_succ, List.getElem_cons_zero, Act.put, List.setIfInBounds_toArray, List.set_cons_zero, List.set_cons_succ]
              refine wpAnyH_take (i := 5) (v := ?_) rfl (by kernel_rfl) (by kernel_rfl) (by kernel_rfl) (fun _ _ _ h => h) (Or.inl ⟨by rfl, ?_⟩) (by assumption) ?_
              rotate_left
              · intro wq hSq
                have hc8 := c8.out wq hSq
                have hlm := hSq.km.ks.fm.ld
                have hlo := HLO.out wq hSq.out
                go_simp
                try with_reducible rfl
              simp only [List.getElem_toArray, List.getElem_cons_succ, List.getElem_cons_zero, Act.put, List.setIfInBounds_toArray, List.set_cons_zero, List.set_cons_succ]
              refine wpAnyH_take (i := 6) (v := ?_) rfl (by kernel_rfl) (by kernel_rfl) (by kernel_rfl) (fun _ _ _ h => h) (Or.inl ⟨by rfl, ?_⟩) (by assumption) ?_
              rotate_left
              · intro wq hSq
                have hc8 := c8.out wq hSq
                have hlm := hSq.km.ks.fm.ld
                have hlo := HLO.out wq hSq.out
                go_simp
                try with_reducible rfl
              simp only [List.getElem_toArray, List.getElem_cons_succ, List.getElem_cons_zero, Act.put, List.setIfInBounds_toArray, List.set_cons_zero, List.set_cons_succ]
              refine wpAnyH_take (i := 7) (v := ?_) rfl (by kernel_rfl) (by kernel_rfl) (by kernel_rfl) (fun _ _ _ h => h) (Or.inl ⟨by rfl, ?_⟩) (by assumption) ?_
              rotate_left
              · intro wq hSq
                have hc8 := c8.out wq hSq
                have hlm := hSq.km.ks.fm.ld
                have hlo := HLO.out wq hSq.out
                go_simp
                try with_reducible rfl
              simp only [List.getElem_toArray, List.getElem_cons_succ, List.getElem_cons_zero, Act.put, List.setIfInBounds_toArray, List.set_cons_zero, List.set_cons_succ]
              refine wpAnyH_take (i := 8) (v := ?_) rfl (by kernel_rfl) (by kernel_rfl) (by kernel_rfl) (fun _ _ _ h => h) (Or.inl ⟨by rfl, ?_⟩) (by assumption) ?_
              rotate_left
              · intro wq hSq
                have hc8 := c8.out wq hSq
                have hlm := hSq.km.ks.fm.ld
                have hlo := HLO.out wq hSq.out
                go_simp
                try with_reducible rfl
              simp only [List.getElem_toArray, List.getElem_cons_succ, List.getElem_cons_zero, Act.put, List.setIfInBounds_toArray, List.set_cons_zero, List.set_cons_succ]
              refine wpAnyH_ready (rs := [9]) (by kernel_rfl) (by simp) ?_
              refine AllReadyH.cons rfl (fun Kq hKq => ?_) AllReadyH.nil
              go_simp
              refine (HLS.out _).mono ?_
              rintro e w5 ⟨rfl, LW⟩
              rw [HDC.out]
              have hS1 := hS0.below LW
              clear LW hS0
              refine hKq.out _ _ hS1 (fun _ => ?_)
              clear hKq Kq
              refine wpAnyH_take (i := 10) (v := .bool true) rfl (by kernel_rfl) (by kernel_rfl) (by kernel_rfl) (fun _ _ _ h => h) (Or.inl ⟨by rfl, ?_⟩) (by assumption) ?_
              · intro wq hSq
                have hc8 := c8.out wq hSq
                go_simp
              simp only [List.getElem_toArray, List.getElem_cons_succ, List.getElem_cons_zero, Act.put, List.setIfInBounds_toArray, List.set_cons_zero, List.set_cons_succ]
              refine wpAnyH_take (i := 11) (v := .bool true) rfl (by kernel_rfl) (by kernel_rfl) (by kernel_rfl) (fun _ _ _ h => h) (Or.inl ⟨by rfl, ?_⟩) (by assumption) ?_
              · intro wq hSq
                have hc8 := c8.out wq hSq
                go_simp
              simp only [List.getElem_toArray, List.getElem_cons_succ, List.getElem_cons_zero, Act.put, List.setIfInBounds_toArray, List.set_cons_zero, List.set_cons_succ]
              refine wpAnyH_done (by kernel_rfl) ?_ _
              have HBO := hide (hS1).out
              have HNG := hide (hS1).ng
              have M1 := (hS1).km
              clear hS1
              go_wp2
              refine wp_region_held_drew (S := Km w gf LA LB) (by kernel_rfl) (M1.heap (by exact ⟨rfl, rfl, rfl, rfl⟩)) (fun hM => ?_)
              have HBO2 := hide (HBO.out.heap (w' := w5.drew) rfl)
              generalize w5.drew = V2 at hM HBO2 ⊢
              clear M1 HBO
              have hlo := HLO.out V2 HBO2.out
              refine wpAnyH_take (i := 1) (v := ?_) rfl (by kernel_rfl) (by kernel_rfl) (by kernel_rfl) (fun _ _ _ h => h) (Or.inl ⟨by rfl, ?_⟩) (by assumption) ?_
              rotate_left
              · intro wq hSq
                have hlm := hSq.ks.fm.ld
                go_simp
                try with_reducible rfl
              simp only [List.getElem_toArray, List.getElem_cons_succ, List.getElem_cons_zero, Act.put, List.setIfInBounds_toArray, List.set_cons_zero, List.set_cons_succ]
              refine wpAnyH_take (i := 2) (v := ?_) rfl (by kernel_rfl) (by kernel_rfl) (by kernel_rfl) (fun _ _ _ h => h) (Or.inl ⟨by rfl, ?_⟩) (by assumption) ?_
              rotate_left
              · intro wq hSq
                have hlm := hSq.ks.fm.ld
                go_simp
                try with_reducible rfl
              simp only [List.getElem_toArray, List.getElem_cons_succ, List.getElem_cons_zero, Act.put, List.setIfInBounds_toArray, List.set_cons_zero, List.set_cons_succ]
              refine wpAnyH_take (i := 3) (v := ?_) rfl (by kernel_rfl) (by kernel_rfl) (by kernel_rfl) (fun _ _ _ h => h) (Or.inl ⟨by rfl, ?_⟩) (by assumption) ?_
              rotate_left
              · intro wq hSq
                have hlm := hSq.ks.fm.ld
                go_simp
                try with_reducible rfl
              simp only [List.getElem_toArray, List.getElem_cons_succ, List.getElem_cons_zero, Act.put, List.setIfInBounds_toArray, List.set_cons_zero, List.set_cons_succ]
              refine wpAnyH_take (i := 4) (v := ?_) rfl (by kernel_rfl) (by kernel_rfl) (by kernel_rfl) (fun _ _ _ h => h) (Or.inl ⟨by rfl, ?_⟩) (by assumption) ?_
              rotate_left
              · intro wq hSq
                have hlm := hSq.ks.fm.ld
                go_simp
                try with_reducible rfl
              simp only [List.getElem_toArray, List.getElem_cons_succ, List.getElem_cons_zero, Act.put, List.setIfInBounds_toArray, List.set_cons_zero, List.set_cons_succ]
              refine wpAnyH_ready (rs := [0]) (by kernel_rfl) (by simp) ?_
              refine AllReadyH.cons rfl (fun Kq hKq => ?_) AllReadyH.nil
              go_simp
              refine hKq.out _ _ hM (fun _ => ?_)
              clear hKq Kq hlo
              refine wpAnyH_ready (rs := [5]) (by kernel_rfl) (by simp) ?_
              refine AllReadyH.cons rfl (fun Kq hKq => ?_) AllReadyH.nil
              go_simp
              refine (HMI.out _).mono ?_
              rintro e w6 ⟨R, rfl, hR, LW⟩
              rw [HFin.out] at hR
              have HR := hide hR
              have hM6 := hM.below LW
              have B6 := hide (HBO2.out.below LW)
              clear LW HBO2 hM
              refine hKq.out _ _ hM6 (fun _ => ?_)
              clear hKq Kq
              refine wpAnyH_take (i := 6) (v := ?_) rfl (by kernel_rfl) (by kernel_rfl) (by kernel_rfl) (fun _ _ _ h => h) (Or.inl ⟨by rfl, ?_⟩) (by assumption) ?_
              rotate_left
              · intro wq hSq
                have hlm := hSq.ks.fm.ld
                go_simp
                try with_reducible rfl
              simp only [List.getElem_toArray, List.getElem_cons_succ, List.getElem_cons_zero, Act.put, List.setIfInBounds_toArray, List.set_cons_zero, List.set_cons_succ]
              refine wpAnyH_take (i := 7) (v := ?_) rfl (by kernel_rfl) (by kernel_rfl) (by kernel_rfl) (fun _ _ _ h => h) (Or.inl ⟨by rfl, ?_⟩) (by assumption) ?_
              rotate_left
              · intro wq hSq
                have hlm := hSq.ks.fm.ld
                go_simp
                try with_reducible rfl
              simp only [List.getElem_toArray, List.getElem_cons_succ, List.getElem_cons_zero, Act.put, List.setIfInBounds_toArray, List.set_cons_zero, List.set_cons_succ]
              refine wpAnyH_take (i := 8) (v := ?_) rfl (by kernel_rfl) (by kernel_rfl) (by kernel_rfl) (fun _ _ _ h => h) (Or.inl ⟨by rfl, ?_⟩) (by assumption) ?_
              rotate_left
              · intro wq hSq
                have hlm := hSq.ks.fm.ld
                go_simp
                try with_reducible rfl
              simp only [List.getElem_toArray, List.getElem_cons_succ, List.getElem_cons_zero, Act.put, List.setIfInBounds_toArray, List.set_cons_zero, List.set_cons_succ]
              have hst := stF8 hR.len B6.out (by rw [fV_len]; exact HFO.out.len)
              refine wpAnyH_ready (rs := [9]) (by kernel_rfl) (by simp) ?_
              refine AllReadyH.cons rfl (fun Kq hKq => ?_) AllReadyH.nil
              go_simp
              have hM7 : Km w gf LA LB (w6.setCells G 0 (fV R)) := hM6.sets (by have := HNG.out; omega) _ _
              refine hKq.out _ _ hM7 (fun _ => ?_)
              clear hKq Kq hM6 hst
              refine wpAnyH_done (by kernel_rfl) ?_ _
              have B7 := blk_all (vs := fV R) B6.out (by rw [fV_len, fV_len, HFO.out.len, hR.len])
              generalize w6.setCells G 0 (fV R) = W7 at hM7 B7 ⊢
              have l7 := ldF hR.len B7
              have Z7 := hide hM7.ks.kz
              have U7 := hide hM7.ks.bl
              have s7 := stF8 hR.len Z7.out rfl
              clear hM7 B7 B6 hR
              go_wp2
              exact retF (p := 6) (by kernel_rfl) rfl Z7.out rfl HR.out U7.out (by omega)
          · have HFin : Hid (o - PP + (if o < PP then RR else 0) = mm x y) := by
              unfold Hid
              rw [← hsm, Int.one_mul]
              have hop : o < PP := by unfold RR at hs2; unfold PP at *; omega
              rw [if_pos hop, show o + RR = (o - PP + RR) + PP * 1 by omega, Int.add_mul_emod_self_left]
              exact (Int.emod_eq_of_lt (by unfold RR; unfold PP; omega) (by omega)).symm
            clear hsm hs2 b8 bo
            go_wp2
            refine wp_region_held_drew (S := Kt w gf LA LB Z0 O G) (by kernel_rfl) S0.drew (fun hS0 => ?_)
            generalize wr.drew = V at hS0 ⊢
            clear S0
            refine wpAnyH_take (i := 0) (v := ?_) rfl (by kernel_rfl) (by kernel_rfl) (by kernel_rfl) (fun _ _ _ h => h) (Or.inl ⟨by rfl, ?_⟩) (by assumption) ?_
            rotate_left
            · intro wq hSq
              have hc8 := c8.out wq hSq
              go_simp
              try with_reducible rfl
            simp only [List.getElem_toArray, List.getElem_cons_zero, Act.put, List.setIfInBounds_toArray, List.set_cons_zero, List.set_cons_succ]
            refine wpAnyH_take (i := 1) (v := ?_) rfl (by kernel_rfl) (by kernel_rfl) (by kernel_rfl) (fun _ _ _ h => h) (Or.inl ⟨by rfl, ?_⟩) (by assumption) ?_
            rotate_left
            · intro wq hSq
              have hc8 := c8.out wq hSq
              have hlm := hSq.km.ks.fm.ld
              have hlo := HLO.out wq hSq.out
              go_simp
              try with_reducible rfl
            simp only [List.getElem_toArray, List.getElem_cons_succ, List.getElem_cons_zero, Act.put, List.setIfInBounds_toArray, List.set_cons_zero, List.set_cons_succ]
            refine wpAnyH_take (i := 2) (v := .bool true) rfl (by kernel_rfl) (by kernel_rfl) (by kernel_rfl) (fun _ _ _ h => h) (Or.inl ⟨by rfl, ?_⟩) (by assumption) ?_
            · intro wq hSq
              have hc8 := c8.out wq hSq
              go_simp
            simp only [List.getElem_toArray, List.getElem_cons_succ, List.getElem_cons_zero, Act.put, List.setIfInBounds_toArray, List.set_cons_zero, List.set_cons_succ]
            refine wpAnyH_take (i := 3) (v := .bool true) rfl (by kernel_rfl) (by kernel_rfl) (by kernel_rfl) (fun _ _ _ h => h) (Or.inl ⟨by rfl, ?_⟩) (by assumption) ?_
            · intro wq hSq
              have hc8 := c8.out wq hSq
              go_simp
            simp only [List.getElem_toArray, List.getElem_cons_succ, List.getElem_cons_zero, Act.put, List.setIfInBounds_toArray, List.set_cons_zero, List.set_cons_succ]
            refine wpAnyH_take (i := 4) (v := undef) rfl (by kernel_rfl) (by kernel_rfl) (by kernel_rfl) (fun _ _ _ h => h) (Or.inr ⟨by rfl, rfl⟩) (by assumption) ?_
            simp only [List.getElem_toArray, List.getElem_cons_succ, List.getElem_cons_zero, Act.put, List.setIfInBounds_toArray, List.set_cons_zero, List.set_cons_succ]
            refine wpAnyH_take (i := 5) (v := undef) rfl (by kernel_rfl) (by kernel_rfl) (by kernel_rfl) (fun _ _ _ h => h) (Or.inr ⟨by rfl, rfl⟩) (by assumption) ?_
            simp only [List.getElem_toArray, List.getElem_cons_succ, List.getElem_cons_zero, Act.put, List.setIfInBounds_toArray, List.set_cons_zero, List.set_cons_succ]
            refine wpAnyH_take (i := 6) (v := undef) rfl (by kernel_rfl) (by kernel_rfl) (by kernel_rfl) (fun _ _ _ h => h) (Or.inr ⟨by rfl, rfl⟩) (by assumption) ?_
            simp only [List.getElem_toArray, List.getElem_cons_succ, List.getElem_cons_zero, Act.put, List.setIfInBounds_toArray, List.set_cons_zero, List.set_cons_succ]
            refine wpAnyH_take (i := 7) (v := undef) rfl (by kernel_rfl) (by kernel_rfl) (by kernel_rfl) (fun _ _ _ h => h) (Or.inr ⟨by rfl, rfl⟩) (by assumption) ?_
            simp only [List.getElem_toArray, List.getElem_cons_succ, List.getElem_cons_zero, Act.put, List.setIfInBounds_toArray, List.set_cons_zero, List.set_cons_succ]
            refine wpAnyH_take (i := 8) (v := undef) rfl (by kernel_rfl) (by kernel_rfl) (by kernel_rfl) (fun _ _ _ h => h) (Or.inr ⟨by rfl, rfl⟩) (by assumption) ?_
            simp only [List.getElem_toArray, List.getElem_cons_succ, List.getElem_cons_zero, Act.put, List.setIfInBounds_toArray, List.set_cons_zero, List.set_cons_succ]
            refine wpAnyH_take (i := 9) (v := undef) rfl (by kernel_rfl) (by kernel_rfl) (by kernel_rfl) (fun _ _ _ h => h) (Or.inr ⟨by rfl, rfl⟩) (by assumption) ?_
            simp only [List.getElem_toArray, List.getElem_cons_succ, List.getElem_cons_zero, Act.put, List.setIfInBounds_toArray, List.set_cons_zero, List.set_cons_succ]
            refine wpAnyH_take (i := 10) (v := undef) rfl (by kernel_rfl) (by kernel_rfl) (by kernel_rfl) (fun _ _ _ h => h) (Or.inr ⟨by rfl, rfl⟩) (by assumption) ?_
            simp only [List.getElem_toArray, List.getElem_cons_succ, List.getElem_cons_zero, Act.put, List.setIfInBounds_toArray, List.set_cons_zero, List.set_cons_succ]
            refine wpAnyH_take (i := 11) (v := .bool true) rfl (by kernel_rfl) (by kernel_rfl) (by kernel_rfl) (fun _ _ _ h => h) (Or.inl ⟨by rfl, ?_⟩) (by assumption) ?_
            · intro wq hSq
              have hc8 := c8.out wq hSq
              go_simp
            simp only [List.getElem_toArray, List.getElem_cons_succ, List.getElem_cons_zero, Act.put, List.setIfInBounds_toArray, List.set_cons_zero, List.set_cons_succ]
            refine wpAnyH_done (by kernel_rfl) ?_ _
            have HBO := hide (hS0).out
            have HNG := hide (hS0).ng
            have M1 := (hS0).km
            clear hS0
            go_wp2
            refine wp_region_held_drew (S := Km w gf LA LB) (by kernel_rfl) (M1.heap (by exact ⟨rfl, rfl, rfl, rfl⟩)) (fun hM => ?_)
            have HBO2 := hide (HBO.out.heap (w' := V.drew) rfl)
            generalize V.drew = V2 at hM HBO2 ⊢
            clear M1 HBO
            have hlo := HLO.out V2 HBO2.out
            refine wpAnyH_take (i := 1) (v := ?_) rfl (by kernel_rfl) (by kernel_rfl) (by kernel_rfl) (fun _ _ _ h => h) (Or.inl ⟨by rfl, ?_⟩) (by assumption) ?_
            rotate_left
            · intro wq hSq
              have hlm := hSq.ks.fm.ld
              go_simp
              try with_reducible rfl
            simp only [List.getElem_toArray, List.getElem_cons_succ, List.getElem_cons_zero, Act.put, List.setIfInBounds_toArray, List.set_cons_zero, List.set_cons_succ]
            refine wpAnyH_take (i := 2) (v := ?_) rfl (by kernel_rfl) (by kernel_rfl) (by kernel_rfl) (fun _ _ _ h => h) (Or.inl ⟨by rfl, ?_⟩) (by assumption) ?_
            rotate_left
            · intro wq hSq
              have hlm := hSq.ks.fm.ld
              go_simp
              try with_reducible rfl
            simp only [List.getElem_toArray, List.getElem_cons_succ, List.getElem_cons_zero, Act.put, List.setIfInBounds_toArray, List.set_cons_zero, List.set_cons_succ]
            refine wpAnyH_take (i := 3) (v := ?_) rfl (by kernel_rfl) (by kernel_rfl) (by kernel_rfl) (fun _ _ _ h => h) (Or.inl ⟨by rfl, ?_⟩) (by assumption) ?_
            rotate_left
            · intro wq hSq
              have hlm := hSq.ks.fm.ld
              go_simp
              try with_reducible rfl
            simp only [List.getElem_toArray, List.getElem_cons_succ, List.getElem_cons_zero, Act.put, List.setIfInBounds_toArray, List.set_cons_zero, List.set_cons_succ]
            refine wpAnyH_take (i := 4) (v := ?_) rfl (by kernel_rfl) (by kernel_rfl) (by kernel_rfl) (fun _ _ _ h => h) (Or.inl ⟨by rfl, ?_⟩) (by assumption) ?_
            rotate_left
            · intro wq hSq
              have hlm := hSq.ks.fm.ld
              go_simp
              try with_reducible rfl
            simp only [List.getElem_toArray, List.getElem_cons_succ, List.getElem_cons_zero, Act.put, List.setIfInBounds_toArray, List.set_cons_zero, List.set_cons_succ]
            refine wpAnyH_ready (rs := [0]) (by kernel_rfl) (by simp) ?_
            refine AllReadyH.cons rfl (fun Kq hKq => ?_) AllReadyH.nil
            go_simp
            refine hKq.out _ _ hM (fun _ => ?_)
            clear hKq Kq hlo
            refine wpAnyH_ready (rs := [5]) (by kernel_rfl) (by simp) ?_
            refine AllReadyH.cons rfl (fun Kq hKq => ?_) AllReadyH.nil
            go_simp
            refine (HMI.out _).mono ?_
            rintro e w6 ⟨R, rfl, hR, LW⟩
            rw [HFin.out] at hR
            have HR := hide hR
            have hM6 := hM.below LW
            have B6 := hide (HBO2.out.below LW)
            clear LW HBO2 hM
            refine hKq.out _ _ hM6 (fun _ => ?_)
            clear hKq Kq
            refine wpAnyH_take (i := 6) (v := ?_) rfl (by kernel_rfl) (by kernel_rfl) (by kernel_rfl) (fun _ _ _ h => h) (Or.inl ⟨by rfl, ?_⟩) (by assumption) ?_
            rotate_left
            · intro wq hSq
              have hlm := hSq.ks.fm.ld
              go_simp
              try with_reducible rfl
            simp only [List.getElem_toArray, List.getElem_cons_succ, List.getElem_cons_zero, Act.put, List.setIfInBounds_toArray, List.set_cons_zero, List.set_cons_succ]
            refine wpAnyH_take (i := 7) (v := ?_) rfl (by kernel_rfl) (by kernel_rfl) (by kernel_rfl) (fun _ _ _ h => h) (Or.inl ⟨by rfl, ?_⟩) (by assumption) ?_
            rotate_left
            · intro wq hSq
              have hlm := hSq.ks.fm.ld
              go_simp
              try with_reducible rfl
            simp only [List.getElem_toArray, List.getElem_cons_succ, List.getElem_cons_zero, Act.put, List.setIfInBounds_toArray, List.set_cons_zero, List.set_cons_succ]
            refine wpAnyH_take (i := 8) (v := ?_) rfl (by kernel_rfl) (by kernel_rfl) (by kernel_rfl) (fun _ _ _ h => h) (Or.inl ⟨by rfl, ?_⟩) (by assumption) ?_
            rotate_left
            · intro wq hSq
              have hlm := hSq.ks.fm.ld
              go_simp
              try with_reducible rfl
            simp only [List.getElem_toArray, List.getElem_cons_succ, List.getElem_cons_zero, Act.put, List.setIfInBounds_toArray, List.set_cons_zero, List.set_cons_succ]
            have hst := stF8 hR.len B6.out (by rw [fV_len]; exact HFO.out.len)
            refine wpAnyH_ready (rs := [9]) (by kernel_rfl) (by simp) ?_
            refine AllReadyH.cons rfl (fun Kq hKq => ?_) AllReadyH.nil
            go_simp
            have hM7 : Km w gf LA LB (w6.setCells G 0 (fV R)) := hM6.sets (by have := HNG.out; omega) _ _
            refine hKq.out _ _ hM7 (fun _ => ?_)
            clear hKq Kq hM6 hst
            refine wpAnyH_done (by kernel_rfl) ?_ _
            have B7 := blk_all (vs := fV R) B6.out (by rw [fV_len, fV_len, HFO.out.len, hR.len])
            generalize w6.setCells G 0 (fV R) = W7 at hM7 B7 ⊢
            have l7 := ldF hR.len B7
            have Z7 := hide hM7.ks.kz
            have U7 := hide hM7.ks.bl
            have s7 := stF8 hR.len Z7.out rfl
            clear hM7 B7 B6 hR
            go_wp2
            exact retF (p := 6) (by kernel_rfl) rfl Z7.out rfl HR.out U7.out (by omega)

end Go.Proofs.YtcijjmncilciiaaDoor
