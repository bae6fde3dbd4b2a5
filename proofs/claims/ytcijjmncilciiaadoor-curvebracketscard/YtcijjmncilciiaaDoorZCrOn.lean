/-
  The document's On, its first part: a point's two numbers read.
-/
import Derived.Test.YtcijjmncilciiaaDoorZCvNamToBts
namespace Go.Proofs.YtcijjmncilciiaaDoor
open Go.RowKit Go.IntWalk
theorem bd_rpt (ps : Array (Nat × Value)) : Instr.build 33 ps = bdA 33 ps := rfl
theorem bdr_far (w : World) : (bdA 33 #[(2, .bool true)]).run Tryd.prog w = .ok (.agg (pL z32 z32 true).toArray) w := by kernel_rfl
attribute [local go_sem ↓] ld_F st_F eq_F ld_a32 st_a32 ld_rpt st_rpt eq_rpt bd_rpt
theorem info_rpt : (Tryd.prog.info? 33).map (·.size) = some 65 := by kernel_rfl

theorem rpt_ld {T : TypeId} {w : World} {g : Nat} {X Y : List Int} {f : Bool} (hX : X.length = 32) (hY : Y.length = 32) (h : Blk T w g (pL X Y f)) :
    (ldA 33 (.pointer (some ⟨g, 0, none⟩))).run Tryd.prog w = .ok (.agg (pL X Y f).toArray) w ∧ (ldA 22 (.pointer (some ⟨g, 0, none⟩))).run Tryd.prog w = .ok (.agg (bV X).toArray) w ∧ (ldA 22 (.pointer (some ⟨g, 32, none⟩))).run Tryd.prog w = .ok (.agg (bV Y).toArray) w := by
  refine ⟨?_, ?_, ?_⟩
  · exact ldA_all Tryd.underlying33 rfl (by rw [pL_len hX hY]; exact info_rpt) h
  · refine ldA_mid (T := T) (A := []) (X := bV X) (C := bV Y ++ [.bool f]) Tryd.underlying22 rfl (by rw [bV_len, hX]; exact info_a32) ?_ rfl
    rw [List.nil_append, ← List.append_assoc]
    exact h
  · exact ldA_mid (A := bV X) (X := bV Y) (C := [.bool f]) Tryd.underlying22 rfl (by rw [bV_len, hY]; exact info_a32) h (by rw [bV_len, hX])

set_option maxRecDepth 100000 in
theorem ron_far (X Y : List Int) (hX : X.length = 32) (hY : Y.length = 32) (w : World) :
    Calls Tryd.prog 11 #[.agg (pL X Y true).toArray] w fun e w' => e = .returned (.bool (onP X Y true)) ∧ Below w.heap.size w w' := by
  have heq : ∀ W : World, (eqA 33 (.agg (pL X Y true).toArray) (.agg (pL z32 z32 true).toArray)).run Tryd.prog W = .ok (.bool (onP X Y true)) W := by
    intro W
    rw [eqR X Y z32 z32 true true hX hY rfl rfl W]
    simp [onP]
  have hbd := bdr_far
  have hld := (rpt_ld hX hY (Blk.new (T := 33) w (pL X Y true) _ _ rfl rfl)).1
  have hone := pL_one X Y true
  have c0 : (pL X Y true)[64]? = some (.bool true) := by simp [pL, hX, hY]
  generalize onP X Y true = on at *
  generalize pL z32 z32 true = FL at *
  generalize pL X Y true = L at *
  clear hX hY
  go_enter Tryd.func11, Tryd.ntmps11
  go_wp2
  go_ret
  exact ⟨rfl, below1 w _⟩

/-- What stays while the document's On runs. -/
structure Kr (w : World) (L : List Value) (W : World) : Prop where
  blk : Blk 33 W w.heap.size L
  bl : Below w.heap.size w W
theorem Kr.below {w W V : World} {L : List Value} (h : Kr w L W) (b : Below W.heap.size W V) : Kr w L V := ⟨h.blk.below b, below_then h.bl b⟩
theorem Kr.alloc {w W : World} {L : List Value} (h : Kr w L W) (o : Obj) : Kr w L (W.alloc o) := h.below (below1 W o)
theorem Kr.drew {w W : World} {L : List Value} (h : Kr w L W) : Kr w L W.drew := ⟨h.blk.heap rfl, Drew.below (by exact ⟨rfl, rfl, rfl, rfl⟩) h.bl⟩
theorem Kr.sets {w W : World} {L : List Value} (h : Kr w L W) {k : Nat} (hk : w.heap.size < k) (o : Nat) (vs : List Value) : Kr w L (W.setCells k o vs) := ⟨h.blk.other (by omega), below_sets h.bl (by omega) h.bl.size _ _⟩

/-- Two variables more. -/
structure Kz (w : World) (L : List Value) (A B : List Int) (W : World) (g3 g4 : Nat) : Prop where
  kr : Kr w L W
  b3 : Blk 80 W g3 (fV A)
  b4 : Blk 80 W g4 (fV B)
  n3 : w.heap.size < g3
  n4 : w.heap.size < g4
  n34 : g3 ≠ g4

theorem Kz.set3 {w W : World} {L : List Value} {A B R : List Int} {g3 g4 : Nat} (h : Kz w L A B W g3 g4) (hl : A.length = R.length) : Kz w L R B (W.setCells g3 0 (fV R)) g3 g4 := ⟨h.kr.sets h.n3 _ _, blk_all h.b3 (by rw [fV_len, fV_len, hl]), h.b4.other (Ne.symm h.n34), h.n3, h.n4, h.n34⟩
theorem Kz.set4 {w W : World} {L : List Value} {A B R : List Int} {g3 g4 : Nat} (h : Kz w L A B W g3 g4) (hl : B.length = R.length) : Kz w L A R (W.setCells g4 0 (fV R)) g3 g4 := ⟨h.kr.sets h.n4 _ _, h.b3.other h.n34, blk_all h.b4 (by rw [fV_len, fV_len, hl]), h.n3, h.n4, h.n34⟩
theorem Kz.below {w W V : World} {L : List Value} {A B : List Int} {g3 g4 : Nat} (h : Kz w L A B W g3 g4) (b : Below W.heap.size W V) : Kz w L A B V g3 g4 := ⟨h.kr.below b, h.b3.below b, h.b4.below b, h.n3, h.n4, h.n34⟩
theorem Kz.drew {w W : World} {L : List Value} {A B : List Int} {g3 g4 : Nat} (h : Kz w L A B W g3 g4) : Kz w L A B W.drew g3 g4 := ⟨h.kr.drew, h.b3.heap rfl, h.b4.heap rfl, h.n3, h.n4, h.n34⟩

/-- The words of a number. -/
def cw (x : Int) : List Int := w8 (be x) 32
theorem fw_cw {x : Int} (h0 : 0 ≤ x) (h1 : x < RR) : Fw (cw x) x := ⟨rfl, w8_dg _ (be_dg x) 32 (by omega), by unfold cw; rw [w8_dn _ (be_len x), dn_be h0 h1]⟩
theorem fw_md (x : Int) : Fw (cw (x % PP)) (x % PP) := fw_cw (md_bd x).1 (Int.lt_trans (md_bd x).2 PP_RR)
theorem fw_mm (x y : Int) : Fw (cw (mm x y)) (mm x y) := fw_md _
theorem fw_pa (x y : Int) : Fw (cw (pa x y)) (pa x y) := fw_md _
theorem fw_ps (x y : Int) : Fw (cw (ps x y)) (ps x y) := fw_md _

/-- The point and the field stay. -/
structure Kv (w : World) (L : List Value) (gf : Nat) (W : World) : Prop where
  kr : Kr w L W
  fd : Fd W gf oneW sqW 1
theorem Kv.below {w W V : World} {L : List Value} {gf : Nat} (h : Kv w L gf W) (b : Below W.heap.size W V) : Kv w L gf V := ⟨h.kr.below b, h.fd.below b⟩
theorem Kv.drew {w W : World} {L : List Value} {gf : Nat} (h : Kv w L gf W) : Kv w L gf W.drew := ⟨h.kr.drew, h.fd.heap rfl⟩
theorem Kv.alloc {w W : World} {L : List Value} {gf : Nat} (h : Kv w L gf W) (o : Obj) : Kv w L gf (W.alloc o) := h.below (below1 W o)
theorem Kv.sets {w W : World} {L : List Value} {gf : Nat} (h : Kv w L gf W) {k : Nat} (hk : w.heap.size < k) (hn : gf ≠ k) (o : Nat) (vs : List Value) : Kv w L gf (W.setCells k o vs) := ⟨h.kr.sets hk o vs, ⟨h.fd.blk.other hn, h.fd.lo, h.fd.ls⟩⟩

/-- The point, the field and the two numbers stay. -/
structure Kw (w : World) (L : List Value) (gf g3 g4 : Nat) (A B : List Int) (W : World) : Prop where
  kv : Kv w L gf W
  b3 : Blk 80 W g3 (fV A)
  b4 : Blk 80 W g4 (fV B)
theorem Kw.below {w W V : World} {L : List Value} {gf g3 g4 : Nat} {A B : List Int} (h : Kw w L gf g3 g4 A B W) (b : Below W.heap.size W V) : Kw w L gf g3 g4 A B V := ⟨h.kv.below b, h.b3.below b, h.b4.below b⟩
theorem Kw.drew {w W : World} {L : List Value} {gf g3 g4 : Nat} {A B : List Int} (h : Kw w L gf g3 g4 A B W) : Kw w L gf g3 g4 A B W.drew := ⟨h.kv.drew, h.b3.heap rfl, h.b4.heap rfl⟩
theorem Kw.alloc {w W : World} {L : List Value} {gf g3 g4 : Nat} {A B : List Int} (h : Kw w L gf g3 g4 A B W) (o : Obj) : Kw w L gf g3 g4 A B (W.alloc o) := h.below (below1 W o)
/-- A variable behind all these. -/
structure N6 (w : World) (gf g3 g4 g6 : Nat) : Prop where
  a : w.heap.size < g6
  b : g3 < g6
  c : g4 < g6
  d : gf < g6
theorem Kw.n6 {w W : World} {L : List Value} {gf g3 g4 : Nat} {A B : List Int} (h : Kw w L gf g3 g4 A B W) : N6 w gf g3 g4 W.heap.size := ⟨h.kv.kr.blk.lt, h.b3.lt, h.b4.lt, h.kv.fd.blk.lt⟩
theorem Kw.sets {w W : World} {L : List Value} {gf g3 g4 g6 : Nat} {A B : List Int} (h : Kw w L gf g3 g4 A B W) (n : N6 w gf g3 g4 g6) (o : Nat) (vs : List Value) : Kw w L gf g3 g4 A B (W.setCells g6 o vs) :=
  ⟨h.kv.sets n.a (by have := n.d; omega) o vs, h.b3.other (by have := n.b; omega), h.b4.other (by have := n.c; omega)⟩
theorem pa_comm (x y : Int) : pa x y = pa y x := by unfold pa; rw [Int.add_comm]
theorem mk_restN {K : World → Nat → Prop} {P : World → Nat → Prop} {G : Prop} (h : Hid (∀ W x, K W x → P W x) → G) (k : ∀ W x, K W x → P W x) : G := h k

theorem mk_restW {K : World → Prop} {P : World → Prop} {G : Prop} (h : Hid (∀ W, K W → P W) → G) (k : ∀ W, K W → P W) : G := h k
theorem mk_rest2 {K : World → Nat → Nat → Prop} {P : World → Nat → Nat → Prop} {G : Prop} (h : Hid (∀ W x y, K W x y → P W x y) → G) (k : ∀ W x y, K W x y → P W x y) : G := h k

set_option maxRecDepth 100000 in
set_option maxHeartbeats 4000000 in
theorem ron_near (X Y : List Int) (hX : X.length = 32) (hY : Y.length = 32) (dX : Dg 256 X) (dY : Dg 256 Y) (w : World) :
    Calls Tryd.prog 11 #[.agg (pL X Y false).toArray] w fun e w' => e = .returned (.bool (onP X Y false)) ∧ Below w.heap.size w w' := by
  have HRX : Hid (Fw (w8 X 32) (dn X)) := ⟨rfl, w8_dg X dX 32 (by omega), w8_dn X hX⟩
  have HRY : Hid (Fw (w8 Y 32) (dn Y)) := ⟨rfl, w8_dg Y dY 32 (by omega), w8_dn Y hY⟩
  generalize w8 X 32 = RX at HRX
  generalize w8 Y 32 = RY at HRY
  have HFX : Hid (∀ W, Calls Tryd.prog 37 #[.agg (bV X).toArray] W (Rf (dn X) W)) := fun W => rfrom_any X dX hX W
  have HFY : Hid (∀ W, Calls Tryd.prog 37 #[.agg (bV Y).toArray] W (Rf (dn Y) W)) := fun W => rfrom_any Y dY hY W
  have HLX : Hid (∀ W, Blk 33 W w.heap.size (pL X Y false) → (ldA 22 (.pointer (some ⟨w.heap.size, 0, none⟩))).run Tryd.prog W = .ok (.agg (bV X).toArray) W) := fun W h => (rpt_ld hX hY h).2.1
  have HLY : Hid (∀ W, Blk 33 W w.heap.size (pL X Y false) → (ldA 22 (.pointer (some ⟨w.heap.size, 32, none⟩))).run Tryd.prog W = .ok (.agg (bV Y).toArray) W) := fun W h => (rpt_ld hX hY h).2.2
  have hone := pL_one X Y false
  have c0 : (pL X Y false)[64]? = some (.bool false) := by simp [pL, hX, hY]
  have HON : Hid (onP X Y false = decide (dn X < PP ∧ dn Y < PP ∧ mm (mm (dn Y) SQ) (mm (dn Y) SQ) = cub (mm (dn X) SQ))) := by unfold Hid; simp [onP]
  generalize onP X Y false = on at HON ⊢
  generalize pL X Y false = L at *
  have S0 : Kr w L (w.alloc (.cells L.toArray 33)) := ⟨Blk.new w L _ _ rfl rfl, below1 w _⟩
  clear hX hY dX dY
  go_enter Tryd.func11, Tryd.ntmps11
  go_wp2
  generalize w.alloc (.cells L.toArray 33) = V0 at S0 ⊢
  refine wp_region_held_drew (S := Kr w L) (by kernel_rfl) S0.drew (fun hS => ?_)
  generalize V0.drew = V at hS ⊢
  clear S0 hone c0
  refine wpAnyH_take (i := 0) (v := ?_) rfl (by kernel_rfl) (by kernel_rfl) (by kernel_rfl) (fun _ _ _ h => h) (Or.inl ⟨by rfl, ?_⟩) (by assumption) ?_
  rotate_left
  · intro wq hSq
    go_simp
    try with_reducible rfl
  simp only [List.getElem_toArray, List.getElem_cons_zero, Act.put, List.setIfInBounds_toArray, List.set_cons_zero, List.set_cons_succ]
  refine wpAnyH_take (i := 1) (v := ?_) rfl (by kernel_rfl) (by kernel_rfl) (by kernel_rfl) (fun _ _ _ h => h) (Or.inl ⟨by rfl, ?_⟩) (by assumption) ?_
  rotate_left
  · intro wq hSq
    have hlx := HLX.out wq hSq.blk
    have hly := HLY.out wq hSq.blk
    go_simp
    try with_reducible rfl
  simp only [List.getElem_toArray, List.getElem_cons_succ, List.getElem_cons_zero, Act.put, List.setIfInBounds_toArray, List.set_cons_zero, List.set_cons_succ]
  refine wpAnyH_take (i := 3) (v := ?_) rfl (by kernel_rfl) (by kernel_rfl) (by kernel_rfl) (fun _ _ _ h => h) (Or.inl ⟨by rfl, ?_⟩) (by assumption) ?_
  rotate_left
  · intro wq hSq
    have hlx := HLX.out wq hSq.blk
    have hly := HLY.out wq hSq.blk
    go_simp
    try with_reducible rfl
  simp only [List.getElem_toArray, List.getElem_cons_succ, List.getElem_cons_zero, Act.put, List.setIfInBounds_toArray, List.set_cons_zero, List.set_cons_succ]
  refine wpAnyH_take (i := 4) (v := ?_) rfl (by kernel_rfl) (by kernel_rfl) (by kernel_rfl) (fun _ _ _ h => h) (Or.inl ⟨by rfl, ?_⟩) (by assumption) ?_
  rotate_left
  · intro wq hSq
    have hlx := HLX.out wq hSq.blk
    have hly := HLY.out wq hSq.blk
    go_simp
    try with_reducible rfl
  simp only [List.getElem_toArray, List.getElem_cons_succ, List.getElem_cons_zero, Act.put, List.setIfInBounds_toArray, List.set_cons_zero, List.set_cons_succ]
  refine' mk_rest2 (K := Kz w L z8 z8) (fun REST => ?_) ?_
  rotate_left
  · skip
    refine wpAnyH_ready (rs := [2, 6, 7]) (by kernel_rfl) (by simp) ?_
    refine (AllReadyH.cons rfl (fun Kq hKq => ?_) (AllReadyH.cons rfl (fun Kq hKq => ?_) (AllReadyH.cons rfl (fun Kq hKq => ?_) AllReadyH.nil)))
    · go_simp
      refine (HFX.out _).mono ?_
      rintro e v1 ⟨R, rfl, hR, LW⟩
      obtain rfl : RX = R := ((hR.inj HRX.out).2 rfl).symm
      have hS := hS.below LW
      clear LW hR
      refine hKq.out _ _ hS (fun _ => ?_)
      clear hKq Kq
      refine wpAnyH_ready (rs := [5, 6, 7]) (by kernel_rfl) (by simp) ?_
      refine (AllReadyH.cons rfl (fun Kq hKq => ?_) (AllReadyH.cons rfl (fun Kq hKq => ?_) (AllReadyH.cons rfl (fun Kq hKq => ?_) AllReadyH.nil)))
      · go_simp
        refine (HFY.out _).mono ?_
        rintro e v2 ⟨R, rfl, hR, LW⟩
        obtain rfl : RY = R := ((hR.inj HRY.out).2 rfl).symm
        have hS := hS.below LW
        clear LW hR
        refine hKq.out _ _ hS (fun _ => ?_)
        clear hKq Kq
        refine wpAnyH_ready (rs := [6, 7]) (by kernel_rfl) (by simp) ?_
        refine (AllReadyH.cons rfl (fun Kq hKq => ?_) (AllReadyH.cons rfl (fun Kq hKq => ?_) AllReadyH.nil))
        · go_simp
          have N3 := hS.blk.lt
          have B3 : Blk 80 (v2.alloc (.cells #[.int .u64 0, .int .u64 0, .int .u64 0, .int .u64 0, .int .u64 0, .int .u64 0, .int .u64 0, .int .u64 0] 80)) v2.heap.size (fV z8) := Blk.new _ _ _ _ rfl rfl
          have hS := hS.alloc (.cells #[.int .u64 0, .int .u64 0, .int .u64 0, .int .u64 0, .int .u64 0, .int .u64 0, .int .u64 0, .int .u64 0] 80)
          refine hKq.out _ _ hS (fun _ => ?_)
          clear hKq Kq
          generalize v2.alloc (.cells #[.int .u64 0, .int .u64 0, .int .u64 0, .int .u64 0, .int .u64 0, .int .u64 0, .int .u64 0, .int .u64 0] 80) = v3 at hS B3 ⊢
          generalize v2.heap.size = g3 at B3 N3 ⊢
          refine wpAnyH_ready (rs := [7]) (by kernel_rfl) (by simp) ?_
          refine (AllReadyH.cons rfl (fun Kq hKq => ?_) AllReadyH.nil)
          · go_simp
            have N4 := hS.blk.lt
            have N34 := B3.lt
            have B4 : Blk 80 (v3.alloc (.cells #[.int .u64 0, .int .u64 0, .int .u64 0, .int .u64 0, .int .u64 0, .int .u64 0, .int .u64 0, .int .u64 0] 80)) v3.heap.size (fV z8) := Blk.new _ _ _ _ rfl rfl
            have hS := hS.alloc (.cells #[.int .u64 0, .int .u64 0, .int .u64 0, .int .u64 0, .int .u64 0, .int .u64 0, .int .u64 0, .int .u64 0] 80)
            have B3 := B3.alloc (.cells #[.int .u64 0, .int .u64 0, .int .u64 0, .int .u64 0, .int .u64 0, .int .u64 0, .int .u64 0, .int .u64 0] 80)
            refine hKq.out _ _ hS (fun _ => ?_)
            clear hKq Kq
            generalize v3.alloc (.cells #[.int .u64 0, .int .u64 0, .int .u64 0, .int .u64 0, .int .u64 0, .int .u64 0, .int .u64 0, .int .u64 0] 80) = v4 at hS B4 B3 ⊢
            generalize v3.heap.size = g4 at B4 N4 N34 ⊢
            have N34 : g3 ≠ g4 := by omega
            exact REST.out v4 g3 g4 ⟨hS, B3, B4, N3, N4, N34⟩
        · go_simp
          have N4 := hS.blk.lt
          have B4 : Blk 80 (v2.alloc (.cells #[.int .u64 0, .int .u64 0, .int .u64 0, .int .u64 0, .int .u64 0, .int .u64 0, .int .u64 0, .int .u64 0] 80)) v2.heap.size (fV z8) := Blk.new _ _ _ _ rfl rfl
          have hS := hS.alloc (.cells #[.int .u64 0, .int .u64 0, .int .u64 0, .int .u64 0, .int .u64 0, .int .u64 0, .int .u64 0, .int .u64 0] 80)
          refine hKq.out _ _ hS (fun _ => ?_)
          clear hKq Kq
          generalize v2.alloc (.cells #[.int .u64 0, .int .u64 0, .int .u64 0, .int .u64 0, .int .u64 0, .int .u64 0, .int .u64 0, .int .u64 0] 80) = v5 at hS B4 ⊢
          generalize v2.heap.size = g4 at B4 N4 ⊢
          refine wpAnyH_ready (rs := [6]) (by kernel_rfl) (by simp) ?_
          refine (AllReadyH.cons rfl (fun Kq hKq => ?_) AllReadyH.nil)
          · go_simp
            have N3 := hS.blk.lt
            have N34 := B4.lt
            have B3 : Blk 80 (v5.alloc (.cells #[.int .u64 0, .int .u64 0, .int .u64 0, .int .u64 0, .int .u64 0, .int .u64 0, .int .u64 0, .int .u64 0] 80)) v5.heap.size (fV z8) := Blk.new _ _ _ _ rfl rfl
            have hS := hS.alloc (.cells #[.int .u64 0, .int .u64 0, .int .u64 0, .int .u64 0, .int .u64 0, .int .u64 0, .int .u64 0, .int .u64 0] 80)
            have B4 := B4.alloc (.cells #[.int .u64 0, .int .u64 0, .int .u64 0, .int .u64 0, .int .u64 0, .int .u64 0, .int .u64 0, .int .u64 0] 80)
            refine hKq.out _ _ hS (fun _ => ?_)
            clear hKq Kq
            generalize v5.alloc (.cells #[.int .u64 0, .int .u64 0, .int .u64 0, .int .u64 0, .int .u64 0, .int .u64 0, .int .u64 0, .int .u64 0] 80) = v6 at hS B3 B4 ⊢
            generalize v5.heap.size = g3 at B3 N3 N34 ⊢
            have N34 : g3 ≠ g4 := by omega
            exact REST.out v6 g3 g4 ⟨hS, B3, B4, N3, N4, N34⟩
      · go_simp
        have N3 := hS.blk.lt
        have B3 : Blk 80 (v1.alloc (.cells #[.int .u64 0, .int .u64 0, .int .u64 0, .int .u64 0, .int .u64 0, .int .u64 0, .int .u64 0, .int .u64 0] 80)) v1.heap.size (fV z8) := Blk.new _ _ _ _ rfl rfl
        have hS := hS.alloc (.cells #[.int .u64 0, .int .u64 0, .int .u64 0, .int .u64 0, .int .u64 0, .int .u64 0, .int .u64 0, .int .u64 0] 80)
        refine hKq.out _ _ hS (fun _ => ?_)
        clear hKq Kq
        generalize v1.alloc (.cells #[.int .u64 0, .int .u64 0, .int .u64 0, .int .u64 0, .int .u64 0, .int .u64 0, .int .u64 0, .int .u64 0] 80) = v7 at hS B3 ⊢
        generalize v1.heap.size = g3 at B3 N3 ⊢
        refine wpAnyH_ready (rs := [5, 7]) (by kernel_rfl) (by simp) ?_
        refine (AllReadyH.cons rfl (fun Kq hKq => ?_) (AllReadyH.cons rfl (fun Kq hKq => ?_) AllReadyH.nil))
        · go_simp
          refine (HFY.out _).mono ?_
          rintro e v8 ⟨R, rfl, hR, LW⟩
          obtain rfl : RY = R := ((hR.inj HRY.out).2 rfl).symm
          have hS := hS.below LW
          have B3 := B3.below LW
          clear LW hR
          refine hKq.out _ _ hS (fun _ => ?_)
          clear hKq Kq
          refine wpAnyH_ready (rs := [7]) (by kernel_rfl) (by simp) ?_
          refine (AllReadyH.cons rfl (fun Kq hKq => ?_) AllReadyH.nil)
          · go_simp
            have N4 := hS.blk.lt
            have N34 := B3.lt
            have B4 : Blk 80 (v8.alloc (.cells #[.int .u64 0, .int .u64 0, .int .u64 0, .int .u64 0, .int .u64 0, .int .u64 0, .int .u64 0, .int .u64 0] 80)) v8.heap.size (fV z8) := Blk.new _ _ _ _ rfl rfl
            have hS := hS.alloc (.cells #[.int .u64 0, .int .u64 0, .int .u64 0, .int .u64 0, .int .u64 0, .int .u64 0, .int .u64 0, .int .u64 0] 80)
            have B3 := B3.alloc (.cells #[.int .u64 0, .int .u64 0, .int .u64 0, .int .u64 0, .int .u64 0, .int .u64 0, .int .u64 0, .int .u64 0] 80)
            refine hKq.out _ _ hS (fun _ => ?_)
            clear hKq Kq
            generalize v8.alloc (.cells #[.int .u64 0, .int .u64 0, .int .u64 0, .int .u64 0, .int .u64 0, .int .u64 0, .int .u64 0, .int .u64 0] 80) = v9 at hS B4 B3 ⊢
            generalize v8.heap.size = g4 at B4 N4 N34 ⊢
            have N34 : g3 ≠ g4 := by omega
            exact REST.out v9 g3 g4 ⟨hS, B3, B4, N3, N4, N34⟩
        · go_simp
          have N4 := hS.blk.lt
          have N34 := B3.lt
          have B4 : Blk 80 (v7.alloc (.cells #[.int .u64 0, .int .u64 0, .int .u64 0, .int .u64 0, .int .u64 0, .int .u64 0, .int .u64 0, .int .u64 0] 80)) v7.heap.size (fV z8) := Blk.new _ _ _ _ rfl rfl
          have hS := hS.alloc (.cells #[.int .u64 0, .int .u64 0, .int .u64 0, .int .u64 0, .int .u64 0, .int .u64 0, .int .u64 0, .int .u64 0] 80)
          have B3 := B3.alloc (.cells #[.int .u64 0, .int .u64 0, .int .u64 0, .int .u64 0, .int .u64 0, .int .u64 0, .int .u64 0, .int .u64 0] 80)
          refine hKq.out _ _ hS (fun _ => ?_)
          clear hKq Kq
          generalize v7.alloc (.cells #[.int .u64 0, .int .u64 0, .int .u64 0, .int .u64 0, .int .u64 0, .int .u64 0, .int .u64 0, .int .u64 0] 80) = v10 at hS B4 B3 ⊢
          generalize v7.heap.size = g4 at B4 N4 N34 ⊢
          have N34 : g3 ≠ g4 := by omega
          refine wpAnyH_ready (rs := [5]) (by kernel_rfl) (by simp) ?_
          refine (AllReadyH.cons rfl (fun Kq hKq => ?_) AllReadyH.nil)
          · go_simp
            refine (HFY.out _).mono ?_
            rintro e v11 ⟨R, rfl, hR, LW⟩
            obtain rfl : RY = R := ((hR.inj HRY.out).2 rfl).symm
            have hS := hS.below LW
            have B3 := B3.below LW
            have B4 := B4.below LW
            clear LW hR
            refine hKq.out _ _ hS (fun _ => ?_)
            clear hKq Kq
            exact REST.out v11 g3 g4 ⟨hS, B3, B4, N3, N4, N34⟩
      · go_simp
        have N4 := hS.blk.lt
        have B4 : Blk 80 (v1.alloc (.cells #[.int .u64 0, .int .u64 0, .int .u64 0, .int .u64 0, .int .u64 0, .int .u64 0, .int .u64 0, .int .u64 0] 80)) v1.heap.size (fV z8) := Blk.new _ _ _ _ rfl rfl
        have hS := hS.alloc (.cells #[.int .u64 0, .int .u64 0, .int .u64 0, .int .u64 0, .int .u64 0, .int .u64 0, .int .u64 0, .int .u64 0] 80)
        refine hKq.out _ _ hS (fun _ => ?_)
        clear hKq Kq
        generalize v1.alloc (.cells #[.int .u64 0, .int .u64 0, .int .u64 0, .int .u64 0, .int .u64 0, .int .u64 0, .int .u64 0, .int .u64 0] 80) = v12 at hS B4 ⊢
        generalize v1.heap.size = g4 at B4 N4 ⊢
        refine wpAnyH_ready (rs := [5, 6]) (by kernel_rfl) (by simp) ?_
        refine (AllReadyH.cons rfl (fun Kq hKq => ?_) (AllReadyH.cons rfl (fun Kq hKq => ?_) AllReadyH.nil))
        · go_simp
          refine (HFY.out _).mono ?_
          rintro e v13 ⟨R, rfl, hR, LW⟩
          obtain rfl : RY = R := ((hR.inj HRY.out).2 rfl).symm
          have hS := hS.below LW
          have B4 := B4.below LW
          clear LW hR
          refine hKq.out _ _ hS (fun _ => ?_)
          clear hKq Kq
          refine wpAnyH_ready (rs := [6]) (by kernel_rfl) (by simp) ?_
          refine (AllReadyH.cons rfl (fun Kq hKq => ?_) AllReadyH.nil)
          · go_simp
            have N3 := hS.blk.lt
            have N34 := B4.lt
            have B3 : Blk 80 (v13.alloc (.cells #[.int .u64 0, .int .u64 0, .int .u64 0, .int .u64 0, .int .u64 0, .int .u64 0, .int .u64 0, .int .u64 0] 80)) v13.heap.size (fV z8) := Blk.new _ _ _ _ rfl rfl
            have hS := hS.alloc (.cells #[.int .u64 0, .int .u64 0, .int .u64 0, .int .u64 0, .int .u64 0, .int .u64 0, .int .u64 0, .int .u64 0] 80)
            have B4 := B4.alloc (.cells #[.int .u64 0, .int .u64 0, .int .u64 0, .int .u64 0, .int .u64 0, .int .u64 0, .int .u64 0, .int .u64 0] 80)
            refine hKq.out _ _ hS (fun _ => ?_)
            clear hKq Kq
            generalize v13.alloc (.cells #[.int .u64 0, .int .u64 0, .int .u64 0, .int .u64 0, .int .u64 0, .int .u64 0, .int .u64 0, .int .u64 0] 80) = v14 at hS B3 B4 ⊢
            generalize v13.heap.size = g3 at B3 N3 N34 ⊢
            have N34 : g3 ≠ g4 := by omega
            exact REST.out v14 g3 g4 ⟨hS, B3, B4, N3, N4, N34⟩
        · go_simp
          have N3 := hS.blk.lt
          have N34 := B4.lt
          have B3 : Blk 80 (v12.alloc (.cells #[.int .u64 0, .int .u64 0, .int .u64 0, .int .u64 0, .int .u64 0, .int .u64 0, .int .u64 0, .int .u64 0] 80)) v12.heap.size (fV z8) := Blk.new _ _ _ _ rfl rfl
          have hS := hS.alloc (.cells #[.int .u64 0, .int .u64 0, .int .u64 0, .int .u64 0, .int .u64 0, .int .u64 0, .int .u64 0, .int .u64 0] 80)
          have B4 := B4.alloc (.cells #[.int .u64 0, .int .u64 0, .int .u64 0, .int .u64 0, .int .u64 0, .int .u64 0, .int .u64 0, .int .u64 0] 80)
          refine hKq.out _ _ hS (fun _ => ?_)
          clear hKq Kq
          generalize v12.alloc (.cells #[.int .u64 0, .int .u64 0, .int .u64 0, .int .u64 0, .int .u64 0, .int .u64 0, .int .u64 0, .int .u64 0] 80) = v15 at hS B3 B4 ⊢
          generalize v12.heap.size = g3 at B3 N3 N34 ⊢
          have N34 : g3 ≠ g4 := by omega
          refine wpAnyH_ready (rs := [5]) (by kernel_rfl) (by simp) ?_
          refine (AllReadyH.cons rfl (fun Kq hKq => ?_) AllReadyH.nil)
          · go_simp
            refine (HFY.out _).mono ?_
            rintro e v16 ⟨R, rfl, hR, LW⟩
            obtain rfl : RY = R := ((hR.inj HRY.out).2 rfl).symm
            have hS := hS.below LW
            have B3 := B3.below LW
            have B4 := B4.below LW
            clear LW hR
            refine hKq.out _ _ hS (fun _ => ?_)
            clear hKq Kq
            exact REST.out v16 g3 g4 ⟨hS, B3, B4, N3, N4, N34⟩
    · go_simp
      have N3 := hS.blk.lt
      have B3 : Blk 80 (V.alloc (.cells #[.int .u64 0, .int .u64 0, .int .u64 0, .int .u64 0, .int .u64 0, .int .u64 0, .int .u64 0, .int .u64 0] 80)) V.heap.size (fV z8) := Blk.new _ _ _ _ rfl rfl
      have hS := hS.alloc (.cells #[.int .u64 0, .int .u64 0, .int .u64 0, .int .u64 0, .int .u64 0, .int .u64 0, .int .u64 0, .int .u64 0] 80)
      refine hKq.out _ _ hS (fun _ => ?_)
      clear hKq Kq
      generalize V.alloc (.cells #[.int .u64 0, .int .u64 0, .int .u64 0, .int .u64 0, .int .u64 0, .int .u64 0, .int .u64 0, .int .u64 0] 80) = v17 at hS B3 ⊢
      generalize V.heap.size = g3 at B3 N3 ⊢
      refine wpAnyH_ready (rs := [2, 7]) (by kernel_rfl) (by simp) ?_
      refine (AllReadyH.cons rfl (fun Kq hKq => ?_) (AllReadyH.cons rfl (fun Kq hKq => ?_) AllReadyH.nil))
      · go_simp
        refine (HFX.out _).mono ?_
        rintro e v18 ⟨R, rfl, hR, LW⟩
        obtain rfl : RX = R := ((hR.inj HRX.out).2 rfl).symm
        have hS := hS.below LW
        have B3 := B3.below LW
        clear LW hR
        refine hKq.out _ _ hS (fun _ => ?_)
        clear hKq Kq
        refine wpAnyH_ready (rs := [5, 7]) (by kernel_rfl) (by simp) ?_
        refine (AllReadyH.cons rfl (fun Kq hKq => ?_) (AllReadyH.cons rfl (fun Kq hKq => ?_) AllReadyH.nil))
        · go_simp
          refine (HFY.out _).mono ?_
          rintro e v19 ⟨R, rfl, hR, LW⟩
          obtain rfl : RY = R := ((hR.inj HRY.out).2 rfl).symm
          have hS := hS.below LW
          have B3 := B3.below LW
          clear LW hR
          refine hKq.out _ _ hS (fun _ => ?_)
          clear hKq Kq
          refine wpAnyH_ready (rs := [7]) (by kernel_rfl) (by simp) ?_
          refine (AllReadyH.cons rfl (fun Kq hKq => ?_) AllReadyH.nil)
          · go_simp
            have N4 := hS.blk.lt
            have N34 := B3.lt
            have B4 : Blk 80 (v19.alloc (.cells #[.int .u64 0, .int .u64 0, .int .u64 0, .int .u64 0, .int .u64 0, .int .u64 0, .int .u64 0, .int .u64 0] 80)) v19.heap.size (fV z8) := Blk.new _ _ _ _ rfl rfl
            have hS := hS.alloc (.cells #[.int .u64 0, .int .u64 0, .int .u64 0, .int .u64 0, .int .u64 0, .int .u64 0, .int .u64 0, .int .u64 0] 80)
            have B3 := B3.alloc (.cells #[.int .u64 0, .int .u64 0, .int .u64 0, .int .u64 0, .int .u64 0, .int .u64 0, .int .u64 0, .int .u64 0] 80)
            refine hKq.out _ _ hS (fun _ => ?_)
            clear hKq Kq
            generalize v19.alloc (.cells #[.int .u64 0, .int .u64 0, .int .u64 0, .int .u64 0, .int .u64 0, .int .u64 0, .int .u64 0, .int .u64 0] 80) = v20 at hS B4 B3 ⊢
            generalize v19.heap.size = g4 at B4 N4 N34 ⊢
            have N34 : g3 ≠ g4 := by omega
            exact REST.out v20 g3 g4 ⟨hS, B3, B4, N3, N4, N34⟩
        · go_simp
          have N4 := hS.blk.lt
          have N34 := B3.lt
          have B4 : Blk 80 (v18.alloc (.cells #[.int .u64 0, .int .u64 0, .int .u64 0, .int .u64 0, .int .u64 0, .int .u64 0, .int .u64 0, .int .u64 0] 80)) v18.heap.size (fV z8) := Blk.new _ _ _ _ rfl rfl
          have hS := hS.alloc (.cells #[.int .u64 0, .int .u64 0, .int .u64 0, .int .u64 0, .int .u64 0, .int .u64 0, .int .u64 0, .int .u64 0] 80)
          have B3 := B3.alloc (.cells #[.int .u64 0, .int .u64 0, .int .u64 0, .int .u64 0, .int .u64 0, .int .u64 0, .int .u64 0, .int .u64 0] 80)
          refine hKq.out _ _ hS (fun _ => ?_)
          clear hKq Kq
          generalize v18.alloc (.cells #[.int .u64 0, .int .u64 0, .int .u64 0, .int .u64 0, .int .u64 0, .int .u64 0, .int .u64 0, .int .u64 0] 80) = v21 at hS B4 B3 ⊢
          generalize v18.heap.size = g4 at B4 N4 N34 ⊢
          have N34 : g3 ≠ g4 := by omega
          refine wpAnyH_ready (rs := [5]) (by kernel_rfl) (by simp) ?_
          refine (AllReadyH.cons rfl (fun Kq hKq => ?_) AllReadyH.nil)
          · go_simp
            refine (HFY.out _).mono ?_
            rintro e v22 ⟨R, rfl, hR, LW⟩
            obtain rfl : RY = R := ((hR.inj HRY.out).2 rfl).symm
            have hS := hS.below LW
            have B3 := B3.below LW
            have B4 := B4.below LW
            clear LW hR
            refine hKq.out _ _ hS (fun _ => ?_)
            clear hKq Kq
            exact REST.out v22 g3 g4 ⟨hS, B3, B4, N3, N4, N34⟩
      · go_simp
        have N4 := hS.blk.lt
        have N34 := B3.lt
        have B4 : Blk 80 (v17.alloc (.cells #[.int .u64 0, .int .u64 0, .int .u64 0, .int .u64 0, .int .u64 0, .int .u64 0, .int .u64 0, .int .u64 0] 80)) v17.heap.size (fV z8) := Blk.new _ _ _ _ rfl rfl
        have hS := hS.alloc (.cells #[.int .u64 0, .int .u64 0, .int .u64 0, .int .u64 0, .int .u64 0, .int .u64 0, .int .u64 0, .int .u64 0] 80)
        have B3 := B3.alloc (.cells #[.int .u64 0, .int .u64 0, .int .u64 0, .int .u64 0, .int .u64 0, .int .u64 0, .int .u64 0, .int .u64 0] 80)
        refine hKq.out _ _ hS (fun _ => ?_)
        clear hKq Kq
        generalize v17.alloc (.cells #[.int .u64 0, .int .u64 0, .int .u64 0, .int .u64 0, .int .u64 0, .int .u64 0, .int .u64 0, .int .u64 0] 80) = v23 at hS B4 B3 ⊢
        generalize v17.heap.size = g4 at B4 N4 N34 ⊢
        have N34 : g3 ≠ g4 := by omega
        refine wpAnyH_ready (rs := [2]) (by kernel_rfl) (by simp) ?_
        refine (AllReadyH.cons rfl (fun Kq hKq => ?_) AllReadyH.nil)
        · go_simp
          refine (HFX.out _).mono ?_
          rintro e v24 ⟨R, rfl, hR, LW⟩
          obtain rfl : RX = R := ((hR.inj HRX.out).2 rfl).symm
          have hS := hS.below LW
          have B3 := B3.below LW
          have B4 := B4.below LW
          clear LW hR
          refine hKq.out _ _ hS (fun _ => ?_)
          clear hKq Kq
          refine wpAnyH_ready (rs := [5]) (by kernel_rfl) (by simp) ?_
          refine (AllReadyH.cons rfl (fun Kq hKq => ?_) AllReadyH.nil)
          · go_simp
            refine (HFY.out _).mono ?_
            rintro e v25 ⟨R, rfl, hR, LW⟩
            obtain rfl : RY = R := ((hR.inj HRY.out).2 rfl).symm
            have hS := hS.below LW
            have B3 := B3.below LW
            have B4 := B4.below LW
            clear LW hR
            refine hKq.out _ _ hS (fun _ => ?_)
            clear hKq Kq
            exact REST.out v25 g3 g4 ⟨hS, B3, B4, N3, N4, N34⟩
    · go_simp
      have N4 := hS.blk.lt
      have B4 : Blk 80 (V.alloc (.cells #[.int .u64 0, .int .u64 0, .int .u64 0, .int .u64 0, .int .u64 0, .int .u64 0, .int .u64 0, .int .u64 0] 80)) V.heap.size (fV z8) := Blk.new _ _ _ _ rfl rfl
      have hS := hS.alloc (.cells #[.int .u64 0, .int .u64 0, .int .u64 0, .int .u64 0, .int .u64 0, .int .u64 0, .int .u64 0, .int .u64 0] 80)
      refine hKq.out _ _ hS (fun _ => ?_)
      clear hKq Kq
      generalize V.alloc (.cells #[.int .u64 0, .int .u64 0, .int .u64 0, .int .u64 0, .int .u64 0, .int .u64 0, .int .u64 0, .int .u64 0] 80) = v26 at hS B4 ⊢
      generalize V.heap.size = g4 at B4 N4 ⊢
      refine wpAnyH_ready (rs := [2, 6]) (by kernel_rfl) (by simp) ?_
      refine (AllReadyH.cons rfl (fun Kq hKq => ?_) (AllReadyH.cons rfl (fun Kq hKq => ?_) AllReadyH.nil))
      · go_simp
        refine (HFX.out _).mono ?_
        rintro e v27 ⟨R, rfl, hR, LW⟩
        obtain rfl : RX = R := ((hR.inj HRX.out).2 rfl).symm
        have hS := hS.below LW
        have B4 := B4.below LW
        clear LW hR
        refine hKq.out _ _ hS (fun _ => ?_)
        clear hKq Kq
        refine wpAnyH_ready (rs := [5, 6]) (by kernel_rfl) (by simp) ?_
        refine (AllReadyH.cons rfl (fun Kq hKq => ?_) (AllReadyH.cons rfl (fun Kq hKq => ?_) AllReadyH.nil))
        · go_simp
          refine (HFY.out _).mono ?_
          rintro e v28 ⟨R, rfl, hR, LW⟩
          obtain rfl : RY = R := ((hR.inj HRY.out).2 rfl).symm
          have hS := hS.below LW
          have B4 := B4.below LW
          clear LW hR
          refine hKq.out _ _ hS (fun _ => ?_)
          clear hKq Kq
          refine wpAnyH_ready (rs := [6]) (by kernel_rfl) (by simp) ?_
          refine (AllReadyH.cons rfl (fun Kq hKq => ?_) AllReadyH.nil)
          · go_simp
            have N3 := hS.blk.lt
            have N34 := B4.lt
            have B3 : Blk 80 (v28.alloc (.cells #[.int .u64 0, .int .u64 0, .int .u64 0, .int .u64 0, .int .u64 0, .int .u64 0, .int .u64 0, .int .u64 0] 80)) v28.heap.size (fV z8) := Blk.new _ _ _ _ rfl rfl
            have hS := hS.alloc (.cells #[.int .u64 0, .int .u64 0, .int .u64 0, .int .u64 0, .int .u64 0, .int .u64 0, .int .u64 0, .int .u64 0] 80)
            have B4 := B4.alloc (.cells #[.int .u64 0, .int .u64 0, .int .u64 0, .int .u64 0, .int .u64 0, .int .u64 0, .int .u64 0, .int .u64 0] 80)
            refine hKq.out _ _ hS (fun _ => ?_)
            clear hKq Kq
            generalize v28.alloc (.cells #[.int .u64 0, .int .u64 0, .int .u64 0, .int .u64 0, .int .u64 0, .int .u64 0, .int .u64 0, .int .u64 0] 80) = v29 at hS B3 B4 ⊢
            generalize v28.heap.size = g3 at B3 N3 N34 ⊢
            have N34 : g3 ≠ g4 := by omega
            exact REST.out v29 g3 g4 ⟨hS, B3, B4, N3, N4, N34⟩
        · go_simp
          have N3 := hS.blk.lt
          have N34 := B4.lt
          have B3 : Blk 80 (v27.alloc (.cells #[.int .u64 0, .int .u64 0, .int .u64 0, .int .u64 0, .int .u64 0, .int .u64 0, .int .u64 0, .int .u64 0] 80)) v27.heap.size (fV z8) := Blk.new _ _ _ _ rfl rfl
          have hS := hS.alloc (.cells #[.int .u64 0, .int .u64 0, .int .u64 0, .int .u64 0, .int .u64 0, .int .u64 0, .int .u64 0, .int .u64 0] 80)
          have B4 := B4.alloc (.cells #[.int .u64 0, .int .u64 0, .int .u64 0, .int .u64 0, .int .u64 0, .int .u64 0, .int .u64 0, .int .u64 0] 80)
          refine hKq.out _ _ hS (fun _ => ?_)
          clear hKq Kq
          generalize v27.alloc (.cells #[.int .u64 0, .int .u64 0, .int .u64 0, .int .u64 0, .int .u64 0, .int .u64 0, .int .u64 0, .int .u64 0] 80) = v30 at hS B3 B4 ⊢
          generalize v27.heap.size = g3 at B3 N3 N34 ⊢
          have N34 : g3 ≠ g4 := by omega
          refine wpAnyH_ready (rs := [5]) (by kernel_rfl) (by simp) ?_
          refine (AllReadyH.cons rfl (fun Kq hKq => ?_) AllReadyH.nil)
          · go_simp
            refine (HFY.out _).mono ?_
            rintro e v31 ⟨R, rfl, hR, LW⟩
            obtain rfl : RY = R := ((hR.inj HRY.out).2 rfl).symm
            have hS := hS.below LW
            have B3 := B3.below LW
            have B4 := B4.below LW
            clear LW hR
            refine hKq.out _ _ hS (fun _ => ?_)
            clear hKq Kq
            exact REST.out v31 g3 g4 ⟨hS, B3, B4, N3, N4, N34⟩
      · go_simp
        have N3 := hS.blk.lt
        have N34 := B4.lt
        have B3 : Blk 80 (v26.alloc (.cells #[.int .u64 0, .int .u64 0, .int .u64 0, .int .u64 0, .int .u64 0, .int .u64 0, .int .u64 0, .int .u64 0] 80)) v26.heap.size (fV z8) := Blk.new _ _ _ _ rfl rfl
        have hS := hS.alloc (.cells #[.int .u64 0, .int .u64 0, .int .u64 0, .int .u64 0, .int .u64 0, .int .u64 0, .int .u64 0, .int .u64 0] 80)
        have B4 := B4.alloc (.cells #[.int .u64 0, .int .u64 0, .int .u64 0, .int .u64 0, .int .u64 0, .int .u64 0, .int .u64 0, .int .u64 0] 80)
        refine hKq.out _ _ hS (fun _ => ?_)
        clear hKq Kq
        generalize v26.alloc (.cells #[.int .u64 0, .int .u64 0, .int .u64 0, .int .u64 0, .int .u64 0, .int .u64 0, .int .u64 0, .int .u64 0] 80) = v32 at hS B3 B4 ⊢
        generalize v26.heap.size = g3 at B3 N3 N34 ⊢
        have N34 : g3 ≠ g4 := by omega
        refine wpAnyH_ready (rs := [2]) (by kernel_rfl) (by simp) ?_
        refine (AllReadyH.cons rfl (fun Kq hKq => ?_) AllReadyH.nil)
        · go_simp
          refine (HFX.out _).mono ?_
          rintro e v33 ⟨R, rfl, hR, LW⟩
          obtain rfl : RX = R := ((hR.inj HRX.out).2 rfl).symm
          have hS := hS.below LW
          have B3 := B3.below LW
          have B4 := B4.below LW
          clear LW hR
          refine hKq.out _ _ hS (fun _ => ?_)
          clear hKq Kq
          refine wpAnyH_ready (rs := [5]) (by kernel_rfl) (by simp) ?_
          refine (AllReadyH.cons rfl (fun Kq hKq => ?_) AllReadyH.nil)
          · go_simp
            refine (HFY.out _).mono ?_
            rintro e v34 ⟨R, rfl, hR, LW⟩
            obtain rfl : RY = R := ((hR.inj HRY.out).2 rfl).symm
            have hS := hS.below LW
            have B3 := B3.below LW
            have B4 := B4.below LW
            clear LW hR
            refine hKq.out _ _ hS (fun _ => ?_)
            clear hKq Kq
            exact REST.out v34 g3 g4 ⟨hS, B3, B4, N3, N4, N34⟩
  · intro W g3 g4 hK
    clear hS
    have hst3 := stF8 HRX.out.len hK.b3 rfl
    have hK1 := hK.set3 (R := RX) (by rw [HRX.out.len]; rfl)
    refine wpAnyH_ready (rs := [8]) (by kernel_rfl) (by simp) ?_
    refine AllReadyH.cons rfl (fun Kq hKq => ?_) AllReadyH.nil
    go_simp
    refine hKq.out _ _ hK1.kr (fun _ => ?_)
    clear hKq Kq hst3 hK
    generalize W.setCells g3 0 (fV RX) = W1 at hK1 ⊢
    have hst4 := stF8 HRY.out.len hK1.b4 rfl
    have hK2 := hK1.set4 (R := RY) (by rw [HRY.out.len]; rfl)
    refine wpAnyH_ready (rs := [9]) (by kernel_rfl) (by simp) ?_
    refine AllReadyH.cons rfl (fun Kq hKq => ?_) AllReadyH.nil
    go_simp
    refine hKq.out _ _ hK2.kr (fun _ => ?_)
    clear hKq Kq hst4 hK1
    generalize W1.setCells g4 0 (fV RY) = W2 at hK2 ⊢
    refine wpAnyH_done (by kernel_rfl) ?_ _
    clear HFX HFY HLX HLY
    by_cases hpx : dn X < PP
    · by_cases hpy : dn Y < PP
      · have HD1 : Hid (decide (dn X < PP) = true) := decide_eq_true hpx
        have HD2 : Hid (decide (dn Y < PP) = true) := decide_eq_true hpy
        have HOn : Hid (on = decide (mm (mm (dn Y) SQ) (mm (dn Y) SQ) = cub (mm (dn X) SQ))) := by unfold Hid; rw [HON.out]; simp [hpx, hpy]
        have HPX := hide hpx
        have HPY := hide hpy
        clear hpx hpy HON
        go_wp2
        refine wp_region_held_drew (S := fun W => Kz w L RX RY W g3 g4) (by kernel_rfl) hK2.drew (fun hZ => ?_)
        generalize W2.drew = V2 at hZ ⊢
        clear hK2
        refine wpAnyH_take (i := 0) (v := ?_) rfl (by kernel_rfl) (by kernel_rfl) (by kernel_rfl) (fun _ _ _ h => h) (Or.inl ⟨by rfl, ?_⟩) (by assumption) ?_
        rotate_left
        · intro wq hSq
          have hl3 := ldF HRX.out.len hSq.b3
          go_simp
          try with_reducible rfl
        simp only [List.getElem_toArray, List.getElem_cons_zero, Act.put, List.setIfInBounds_toArray, List.set_cons_zero, List.set_cons_succ]
        refine wpAnyH_ready (rs := [1]) (by kernel_rfl) (by simp) ?_
        refine AllReadyH.cons rfl (fun Kq hKq => ?_) AllReadyH.nil
        go_simp
        refine (rpW_any _).mono ?_
        rintro e w1 ⟨rfl, LW⟩
        have hZ := hZ.below LW
        clear LW
        refine hKq.out _ _ hZ (fun _ => ?_)
        clear hKq Kq
        refine wpAnyH_ready (rs := [2]) (by kernel_rfl) (by simp) ?_
        refine AllReadyH.cons rfl (fun Kq hKq => ?_) AllReadyH.nil
        go_simp
        refine (rless_any _ _ _ _ HRX.out fw_pW _).mono ?_
        rintro e w2 ⟨rfl, LW⟩
        rw [HD1.out]
        have hZ := hZ.below LW
        clear LW
        refine hKq.out _ _ hZ (fun _ => ?_)
        clear hKq Kq
        refine wpAnyH_take (i := 3) (v := .bool false) rfl (by kernel_rfl) (by kernel_rfl) (by kernel_rfl) (fun _ _ _ h => h) (Or.inl ⟨by rfl, ?_⟩) (by assumption) ?_
        · intro wq hSq
          go_simp
        simp only [List.getElem_toArray, List.getElem_cons_succ, List.getElem_cons_zero, Act.put, List.setIfInBounds_toArray, List.set_cons_zero, List.set_cons_succ]
        refine wpAnyH_take (i := 4) (v := .bool false) rfl (by kernel_rfl) (by kernel_rfl) (by kernel_rfl) (fun _ _ _ h => h) (Or.inl ⟨by rfl, ?_⟩) (by assumption) ?_
        · intro wq hSq
          go_simp
        simp only [List.getElem_toArray, List.getElem_cons_succ, List.getElem_cons_zero, Act.put, List.setIfInBounds_toArray, List.set_cons_zero, List.set_cons_succ]
        refine wpAnyH_take (i := 5) (v := ?_) rfl (by kernel_rfl) (by kernel_rfl) (by kernel_rfl) (fun _ _ _ h => h) (Or.inl ⟨by rfl, ?_⟩) (by assumption) ?_
        rotate_left
        · intro wq hSq
          have hl3 := ldF HRX.out.len hSq.b3
          have hl4 := ldF HRY.out.len hSq.b4
          go_simp
          try with_reducible rfl
        simp only [List.getElem_toArray, List.getElem_cons_succ, List.getElem_cons_zero, Act.put, List.setIfInBounds_toArray, List.set_cons_zero, List.set_cons_succ]
        refine wpAnyH_ready (rs := [6]) (by kernel_rfl) (by simp) ?_
        refine AllReadyH.cons rfl (fun Kq hKq => ?_) AllReadyH.nil
        go_simp
        refine (rpW_any _).mono ?_
        rintro e w3 ⟨rfl, LW⟩
        have hZ := hZ.below LW
        clear LW
        refine hKq.out _ _ hZ (fun _ => ?_)
        clear hKq Kq
        refine wpAnyH_ready (rs := [7]) (by kernel_rfl) (by simp) ?_
        refine AllReadyH.cons rfl (fun Kq hKq => ?_) AllReadyH.nil
        go_simp
        refine (rless_any _ _ _ _ HRY.out fw_pW _).mono ?_
        rintro e w4 ⟨rfl, LW⟩
        rw [HD2.out]
        have hZ := hZ.below LW
        clear LW
        refine hKq.out _ _ hZ (fun _ => ?_)
        clear hKq Kq
        refine wpAnyH_take (i := 8) (v := .bool false) rfl (by kernel_rfl) (by kernel_rfl) (by kernel_rfl) (fun _ _ _ h => h) (Or.inl ⟨by rfl, ?_⟩) (by assumption) ?_
        · intro wq hSq
          go_simp
        simp only [List.getElem_toArray, List.getElem_cons_succ, List.getElem_cons_zero, Act.put, List.setIfInBounds_toArray, List.set_cons_zero, List.set_cons_succ]
        refine wpAnyH_take (i := 9) (v := .bool false) rfl (by kernel_rfl) (by kernel_rfl) (by kernel_rfl) (fun _ _ _ h => h) (Or.inl ⟨by rfl, ?_⟩) (by assumption) ?_
        · intro wq hSq
          go_simp
        simp only [List.getElem_toArray, List.getElem_cons_succ, List.getElem_cons_zero, Act.put, List.setIfInBounds_toArray, List.set_cons_zero, List.set_cons_succ]
        refine wpAnyH_done (by kernel_rfl) ?_ _
        have HZ := hide hZ
        clear hZ
        go_wp2_with fail
        refine (rpW_any _).mono ?_
        rintro e w5 ⟨rfl, LW⟩
        have HZ5 := hide (HZ.out.below LW)
        clear LW HZ
        go_wp2_with fail
        refine (rnew_any _).mono ?_
        rintro e w6 ⟨gf, rfl, hgf, hFd, LW⟩
        have N3 : Hid (g3 < gf) := by unfold Hid; have := HZ5.out.b3.lt; omega
        have N4 : Hid (g4 < gf) := by unfold Hid; have := HZ5.out.b4.lt; omega
        have hK6 := HZ5.out.below LW
        have V6 : Kv w L gf w6 := ⟨hK6.kr, hFd⟩
        have T3 := hK6.b3
        have T4 := hK6.b4
        have NN := hide (And.intro hK6.n3 (And.intro hK6.n4 hK6.n34))
        have HA1 := hide (fw_mm (dn X) SQ)
        have HB1 := hide (fw_mm (dn Y) SQ)
        generalize cw (mm (dn X) SQ) = A1 at HA1
        generalize cw (mm (dn Y) SQ) = B1 at HB1
        have HLA1 : Hid (mm (dn X) SQ < PP) := (mm_bd _ _).2
        have HLB1 : Hid (mm (dn Y) SQ < PP) := (mm_bd _ _).2
        clear LW HZ5 hgf hK6 hFd HD1 HD2
        go_wp2
        refine wp_region_held_drew (S := Kv w L gf) (by kernel_rfl) V6.drew (fun hV => ?_)
        have T3 := T3.heap (w' := w6.drew) rfl
        have T4 := T4.heap (w' := w6.drew) rfl
        generalize w6.drew = V7 at hV T3 T4 ⊢
        clear V6
        refine wpAnyH_take (i := 0) (v := ?_) rfl (by kernel_rfl) (by kernel_rfl) (by kernel_rfl) (fun _ _ _ h => h) (Or.inl ⟨by rfl, ?_⟩) (by assumption) ?_
        rotate_left
        · intro wq hSq
          go_simp
          try with_reducible rfl
        simp only [List.getElem_toArray, List.getElem_cons_zero, Act.put, List.setIfInBounds_toArray, List.set_cons_zero, List.set_cons_succ]
        refine wpAnyH_take (i := 2) (v := ?_) rfl (by kernel_rfl) (by kernel_rfl) (by kernel_rfl) (fun _ _ _ h => h) (Or.inl ⟨by rfl, ?_⟩) (by assumption) ?_
        rotate_left
        · intro wq hSq
          have hls := hSq.fd.ldSq
          go_simp
          try with_reducible rfl
        simp only [List.getElem_toArray, List.getElem_cons_succ, List.getElem_cons_zero, Act.put, List.setIfInBounds_toArray, List.set_cons_zero, List.set_cons_succ]
        refine wpAnyH_take (i := 3) (v := ?_) rfl (by kernel_rfl) (by kernel_rfl) (by kernel_rfl) (fun _ _ _ h => h) (Or.inl ⟨by rfl, ?_⟩) (by assumption) ?_
        rotate_left
        · intro wq hSq
          have hls := hSq.fd.ldSq
          go_simp
          try with_reducible rfl
        simp only [List.getElem_toArray, List.getElem_cons_succ, List.getElem_cons_zero, Act.put, List.setIfInBounds_toArray, List.set_cons_zero, List.set_cons_succ]
        refine wpAnyH_take (i := 4) (v := ?_) rfl (by kernel_rfl) (by kernel_rfl) (by kernel_rfl) (fun _ _ _ h => h) (Or.inl ⟨by rfl, ?_⟩) (by assumption) ?_
        rotate_left
        · intro wq hSq
          have hls := hSq.fd.ldSq
          go_simp
          try with_reducible rfl
        simp only [List.getElem_toArray, List.getElem_cons_succ, List.getElem_cons_zero, Act.put, List.setIfInBounds_toArray, List.set_cons_zero, List.set_cons_succ]
        refine wpAnyH_take (i := 5) (v := ?_) rfl (by kernel_rfl) (by kernel_rfl) (by kernel_rfl) (fun _ _ _ h => h) (Or.inl ⟨by rfl, ?_⟩) (by assumption) ?_
        rotate_left
        · intro wq hSq
          have hls := hSq.fd.ldSq
          go_simp
          try with_reducible rfl
        simp only [List.getElem_toArray, List.getElem_cons_succ, List.getElem_cons_zero, Act.put, List.setIfInBounds_toArray, List.set_cons_zero, List.set_cons_succ]
        refine wpAnyH_take (i := 7) (v := ?_) rfl (by kernel_rfl) (by kernel_rfl) (by kernel_rfl) (fun _ _ _ h => h) (Or.inl ⟨by rfl, ?_⟩) (by assumption) ?_
        rotate_left
        · intro wq hSq
          have hls := hSq.fd.ldSq
          go_simp
          try with_reducible rfl
        simp only [List.getElem_toArray, List.getElem_cons_succ, List.getElem_cons_zero, Act.put, List.setIfInBounds_toArray, List.set_cons_zero, List.set_cons_succ]
        refine wpAnyH_take (i := 9) (v := ?_) rfl (by kernel_rfl) (by kernel_rfl) (by kernel_rfl) (fun _ _ _ h => h) (Or.inl ⟨by rfl, ?_⟩) (by assumption) ?_
        rotate_left
        · intro wq hSq
          have hls := hSq.fd.ldSq
          go_simp
          try with_reducible rfl
        simp only [List.getElem_toArray, List.getElem_cons_succ, List.getElem_cons_zero, Act.put, List.setIfInBounds_toArray, List.set_cons_zero, List.set_cons_succ]
        refine wpAnyH_take (i := 10) (v := ?_) rfl (by kernel_rfl) (by kernel_rfl) (by kernel_rfl) (fun _ _ _ h => h) (Or.inl ⟨by rfl, ?_⟩) (by assumption) ?_
        rotate_left
        · intro wq hSq
          have hls := hSq.fd.ldSq
          go_simp
          try with_reducible rfl
        simp only [List.getElem_toArray, List.getElem_cons_succ, List.getElem_cons_zero, Act.put, List.setIfInBounds_toArray, List.set_cons_zero, List.set_cons_succ]
        refine wpAnyH_take (i := 11) (v := ?_) rfl (by kernel_rfl) (by kernel_rfl) (by kernel_rfl) (fun _ _ _ h => h) (Or.inl ⟨by rfl, ?_⟩) (by assumption) ?_
        rotate_left
        · intro wq hSq
          have hls := hSq.fd.ldSq
          go_simp
          try with_reducible rfl
        simp only [List.getElem_toArray, List.getElem_cons_succ, List.getElem_cons_zero, Act.put, List.setIfInBounds_toArray, List.set_cons_zero, List.set_cons_succ]
        refine wpAnyH_take (i := 12) (v := ?_) rfl (by kernel_rfl) (by kernel_rfl) (by kernel_rfl) (fun _ _ _ h => h) (Or.inl ⟨by rfl, ?_⟩) (by assumption) ?_
        rotate_left
        · intro wq hSq
          have hls := hSq.fd.ldSq
          go_simp
          try with_reducible rfl
        simp only [List.getElem_toArray, List.getElem_cons_succ, List.getElem_cons_zero, Act.put, List.setIfInBounds_toArray, List.set_cons_zero, List.set_cons_succ]
        refine' mk_restW (K := fun W => Kv w L gf W ∧ Blk 80 W g3 (fV RX) ∧ Blk 80 W g4 (fV RY)) (fun REST => ?_) ?_
        rotate_left
        · skip
          refine wpAnyH_ready (rs := [1, 8]) (by kernel_rfl) (by simp) ?_
          refine AllReadyH.cons rfl (fun Kq hKq => ?_) (AllReadyH.cons rfl (fun Kq hKq => ?_) AllReadyH.nil)
          · have hlq := ldF HRX.out.len T3
            go_simp
            refine hKq.out _ _ hV (fun _ => ?_)
            clear hKq Kq hlq
            refine wpAnyH_ready (rs := [6, 8]) (by kernel_rfl) (by simp) ?_
            refine AllReadyH.cons rfl (fun Kq hKq => ?_) (AllReadyH.cons rfl (fun Kq hKq => ?_) AllReadyH.nil)
            · go_simp
              refine (rmul_any gf RX sqW _ _ HRX.out fw_sqW HPX.out _ hV.fd.fm hV.fd.low).mono ?_
              rintro e w7 ⟨R, rfl, hR, LW⟩
              obtain rfl : A1 = R := ((hR.inj HA1.out).2 rfl).symm
              have hV := hV.below LW
              have T3 := T3.below LW
              have T4 := T4.below LW
              clear LW hR
              refine hKq.out _ _ hV (fun _ => ?_)
              clear hKq Kq
              refine wpAnyH_ready (rs := [8]) (by kernel_rfl) (by simp) ?_
              refine AllReadyH.cons rfl (fun Kq hKq => ?_) AllReadyH.nil
              have hlq := ldF HRY.out.len T4
              go_simp
              refine hKq.out _ _ hV (fun _ => ?_)
              clear hKq Kq hlq
              exact REST.out w7 ⟨hV, T3, T4⟩
            · have hlq := ldF HRY.out.len T4
              go_simp
              refine hKq.out _ _ hV (fun _ => ?_)
              clear hKq Kq hlq
              refine wpAnyH_ready (rs := [6]) (by kernel_rfl) (by simp) ?_
              refine AllReadyH.cons rfl (fun Kq hKq => ?_) AllReadyH.nil
              go_simp
              refine (rmul_any gf RX sqW _ _ HRX.out fw_sqW HPX.out _ hV.fd.fm hV.fd.low).mono ?_
              rintro e w7 ⟨R, rfl, hR, LW⟩
              obtain rfl : A1 = R := ((hR.inj HA1.out).2 rfl).symm
              have hV := hV.below LW
              have T3 := T3.below LW
              have T4 := T4.below LW
              clear LW hR
              refine hKq.out _ _ hV (fun _ => ?_)
              clear hKq Kq
              exact REST.out w7 ⟨hV, T3, T4⟩
          · have hlq := ldF HRY.out.len T4
            go_simp
            refine hKq.out _ _ hV (fun _ => ?_)
            clear hKq Kq hlq
            refine wpAnyH_ready (rs := [1]) (by kernel_rfl) (by simp) ?_
            refine AllReadyH.cons rfl (fun Kq hKq => ?_) AllReadyH.nil
            have hlq := ldF HRX.out.len T3
            go_simp
            refine hKq.out _ _ hV (fun _ => ?_)
            clear hKq Kq hlq
            refine wpAnyH_ready (rs := [6]) (by kernel_rfl) (by simp) ?_
            refine AllReadyH.cons rfl (fun Kq hKq => ?_) AllReadyH.nil
            go_simp
            refine (rmul_any gf RX sqW _ _ HRX.out fw_sqW HPX.out _ hV.fd.fm hV.fd.low).mono ?_
            rintro e w7 ⟨R, rfl, hR, LW⟩
            obtain rfl : A1 = R := ((hR.inj HA1.out).2 rfl).symm
            have hV := hV.below LW
            have T3 := T3.below LW
            have T4 := T4.below LW
            clear LW hR
            refine hKq.out _ _ hV (fun _ => ?_)
            clear hKq Kq
            exact REST.out w7 ⟨hV, T3, T4⟩
        · clear hV T3 T4
          rintro W7 ⟨hV, T3, T4⟩
          refine wpAnyH_ready (rs := [13]) (by kernel_rfl) (by simp) ?_
          refine AllReadyH.cons rfl (fun Kq hKq => ?_) AllReadyH.nil
          go_simp
          refine (rmul_any gf RY sqW _ _ HRY.out fw_sqW HPY.out _ hV.fd.fm hV.fd.low).mono ?_
          rintro e w8 ⟨R, rfl, hR, LW⟩
          obtain rfl : B1 = R := ((hR.inj HB1.out).2 rfl).symm
          have hV := hV.below LW
          have T3 := T3.below LW
          have T4 := T4.below LW
          clear LW hR
          refine hKq.out _ _ hV (fun _ => ?_)
          clear hKq Kq
          have hst := stF8 HA1.out.len T3 (by rw [fV_len]; exact HRX.out.len)
          refine wpAnyH_ready (rs := [14]) (by kernel_rfl) (by simp) ?_
          refine AllReadyH.cons rfl (fun Kq hKq => ?_) AllReadyH.nil
          go_simp
          have hV1 := hV.sets NN.out.1 (by have := N3.out; omega) 0 (fV A1)
          have T31 := blk_all (vs := fV A1) T3 (by rw [fV_len, fV_len, HRX.out.len, HA1.out.len])
          have T41 := T4.other (k := g3) (o := 0) (vs := fV A1) (Ne.symm NN.out.2.2)
          refine hKq.out _ _ hV1 (fun _ => ?_)
          clear hKq Kq hst hV T3 T4
          generalize w8.setCells g3 0 (fV A1) = W8 at hV1 T31 T41 ⊢
          have hst := stF8 HB1.out.len T41 (by rw [fV_len]; exact HRY.out.len)
          refine wpAnyH_ready (rs := [15]) (by kernel_rfl) (by simp) ?_
          refine AllReadyH.cons rfl (fun Kq hKq => ?_) AllReadyH.nil
          go_simp
          have hV2 := hV1.sets NN.out.2.1 (by have := N4.out; omega) 0 (fV B1)
          have T32 := T31.other (k := g4) (o := 0) (vs := fV B1) NN.out.2.2
          have T42 := blk_all (vs := fV B1) T41 (by rw [fV_len, fV_len, HRY.out.len, HB1.out.len])
          refine hKq.out _ _ hV2 (fun _ => ?_)
          clear hKq Kq hst hV1 T31 T41
          refine wpAnyH_done (by kernel_rfl) ?_ _
          generalize W8.setCells g4 0 (fV B1) = W9 at hV2 T32 T42 ⊢
          have hW9 : Kw w L gf g3 g4 A1 B1 W9 := ⟨hV2, T32, T42⟩
          clear hV2 T32 T42 HRX HRY HPX HPY
          generalize mm (dn X) SQ = x1 at HA1 HLA1 HOn
          generalize mm (dn Y) SQ = y1 at HB1 HLB1 HOn
          have HC1 := hide (fw_mm x1 x1)
          have HLC1 : Hid (mm x1 x1 < PP) := (mm_bd _ _).2
          have HC2 := hide (fw_mm (mm x1 x1) x1)
          have HLC2 : Hid (mm (mm x1 x1) x1 < PP) := (mm_bd _ _).2
          have HE1 := hide (fw_pa x1 x1)
          have HLE1 : Hid (pa x1 x1 < PP) := (pa_bd _ _).2
          have HE2 := hide (fw_pa (pa x1 x1) x1)
          have HLE2 : Hid (pa (pa x1 x1) x1 < PP) := (pa_bd _ _).2
          have HE3 := hide (fw_ps (mm (mm x1 x1) x1) (pa (pa x1 x1) x1))
          have HLE3 : Hid (ps (mm (mm x1 x1) x1) (pa (pa x1 x1) x1) < PP) := (ps_bd _ _).2
          have HB2 := hide (fw_mm BC SQ)
          have HLB2 : Hid (mm BC SQ < PP) := (mm_bd _ _).2
          have HE4 := hide (fw_pa (ps (mm (mm x1 x1) x1) (pa (pa x1 x1) x1)) (mm BC SQ))
          have HY2 := hide (fw_mm y1 y1)
          have HOn2 : Hid (on = decide (mm y1 y1 = pa (ps (mm (mm x1 x1) x1) (pa (pa x1 x1) x1)) (mm BC SQ))) := by unfold Hid; rw [HOn.out]; unfold cub BM; rw [pa_comm]
          generalize cw (mm x1 x1) = C1 at HC1
          generalize cw (mm (mm x1 x1) x1) = C2 at HC2
          generalize cw (pa x1 x1) = E1 at HE1
          generalize cw (pa (pa x1 x1) x1) = E2 at HE2
          generalize cw (ps (mm (mm x1 x1) x1) (pa (pa x1 x1) x1)) = E3 at HE3
          generalize cw (mm BC SQ) = B2 at HB2
          generalize cw (pa (ps (mm (mm x1 x1) x1) (pa (pa x1 x1) x1)) (mm BC SQ)) = E4 at HE4
          generalize cw (mm y1 y1) = Y2 at HY2
          clear HOn
          go_wp2
          refine wp_region_held_drew (S := Kw w L gf g3 g4 A1 B1) (by kernel_rfl) hW9.drew (fun hV => ?_)
          generalize W9.drew = V9 at hV ⊢
          clear hW9
          refine wpAnyH_take (i := 0) (v := ?_) rfl (by kernel_rfl) (by kernel_rfl) (by kernel_rfl) (fun _ _ _ h => h) (Or.inl ⟨by rfl, ?_⟩) (by assumption) ?_
          rotate_left
          · intro wq hSq
            go_simp
            try with_reducible rfl
          simp only [List.getElem_toArray, List.getElem_cons_zero, Act.put, List.setIfInBounds_toArray, List.set_cons_zero, List.set_cons_succ]
          refine wpAnyH_take (i := 1) (v := ?_) rfl (by kernel_rfl) (by kernel_rfl) (by kernel_rfl) (fun _ _ _ h => h) (Or.inl ⟨by rfl, ?_⟩) (by assumption) ?_
          rotate_left
          · intro wq hSq
            have hl3 := ldF HA1.out.len hSq.b3
            have hls := hSq.kv.fd.ldSq
            go_simp
            try with_reducible rfl
          simp only [List.getElem_toArray, List.getElem_cons_succ, List.getElem_cons_zero, Act.put, List.setIfInBounds_toArray, List.set_cons_zero, List.set_cons_succ]
          refine wpAnyH_take (i := 2) (v := ?_) rfl (by kernel_rfl) (by kernel_rfl) (by kernel_rfl) (fun _ _ _ h => h) (Or.inl ⟨by rfl, ?_⟩) (by assumption) ?_
          rotate_left
          · intro wq hSq
            have hl3 := ldF HA1.out.len hSq.b3
            have hls := hSq.kv.fd.ldSq
            go_simp
            try with_reducible rfl
          simp only [List.getElem_toArray, List.getElem_cons_succ, List.getElem_cons_zero, Act.put, List.setIfInBounds_toArray, List.set_cons_zero, List.set_cons_succ]
          refine wpAnyH_take (i := 3) (v := ?_) rfl (by kernel_rfl) (by kernel_rfl) (by kernel_rfl) (fun _ _ _ h => h) (Or.inl ⟨by rfl, ?_⟩) (by assumption) ?_
          rotate_left
          · intro wq hSq
            have hl3 := ldF HA1.out.len hSq.b3
            have hls := hSq.kv.fd.ldSq
            go_simp
            try with_reducible rfl
          simp only [List.getElem_toArray, List.getElem_cons_succ, List.getElem_cons_zero, Act.put, List.setIfInBounds_toArray, List.set_cons_zero, List.set_cons_succ]
          refine wpAnyH_take (i := 5) (v := ?_) rfl (by kernel_rfl) (by kernel_rfl) (by kernel_rfl) (fun _ _ _ h => h) (Or.inl ⟨by rfl, ?_⟩) (by assumption) ?_
          rotate_left
          · intro wq hSq
            have hl3 := ldF HA1.out.len hSq.b3
            have hls := hSq.kv.fd.ldSq
            go_simp
            try with_reducible rfl
          simp only [List.getElem_toArray, List.getElem_cons_succ, List.getElem_cons_zero, Act.put, List.setIfInBounds_toArray, List.set_cons_zero, List.set_cons_succ]
          refine' mk_restN (K := fun W g6 => Kw w L gf g3 g4 A1 B1 W ∧ Blk 80 W g6 (fV z8) ∧ N6 w gf g3 g4 g6) (fun REST => ?_) ?_
          rotate_left
          · skip
            refine wpAnyH_ready (rs := [4, 7]) (by kernel_rfl) (by simp) ?_
            refine AllReadyH.cons rfl (fun Kq hKq => ?_) (AllReadyH.cons rfl (fun Kq hKq => ?_) AllReadyH.nil)
            · go_simp
              refine (rmul_any gf A1 A1 _ _ HA1.out HA1.out HLA1.out _ hV.kv.fd.fm hV.kv.fd.low).mono ?_
              rintro e u1 ⟨R, rfl, hR, LW⟩
              obtain rfl : C1 = R := ((hR.inj HC1.out).2 rfl).symm
              have hV := hV.below LW
              skip
              clear LW hR
              refine hKq.out _ _ hV (fun _ => ?_)
              clear hKq Kq
              refine wpAnyH_ready (rs := [6, 7]) (by kernel_rfl) (by simp) ?_
              refine AllReadyH.cons rfl (fun Kq hKq => ?_) (AllReadyH.cons rfl (fun Kq hKq => ?_) AllReadyH.nil)
              · go_simp
                refine (rmul_any gf C1 A1 _ _ HC1.out HA1.out HLC1.out _ hV.kv.fd.fm hV.kv.fd.low).mono ?_
                rintro e u2 ⟨R, rfl, hR, LW⟩
                obtain rfl : C2 = R := ((hR.inj HC2.out).2 rfl).symm
                have hV := hV.below LW
                skip
                clear LW hR
                refine hKq.out _ _ hV (fun _ => ?_)
                clear hKq Kq
                refine wpAnyH_ready (rs := [7]) (by kernel_rfl) (by simp) ?_
                refine AllReadyH.cons rfl (fun Kq hKq => ?_) AllReadyH.nil
                go_simp
                have n6 := hV.n6
                have T6 : Blk 80 (u2.alloc (.cells #[.int .u64 0, .int .u64 0, .int .u64 0, .int .u64 0, .int .u64 0, .int .u64 0, .int .u64 0, .int .u64 0] 80)) u2.heap.size (fV z8) := Blk.new _ _ _ _ rfl rfl
                have hV := hV.alloc (.cells #[.int .u64 0, .int .u64 0, .int .u64 0, .int .u64 0, .int .u64 0, .int .u64 0, .int .u64 0, .int .u64 0] 80)
                refine hKq.out _ _ hV (fun _ => ?_)
                clear hKq Kq
                generalize u2.alloc (.cells #[.int .u64 0, .int .u64 0, .int .u64 0, .int .u64 0, .int .u64 0, .int .u64 0, .int .u64 0, .int .u64 0] 80) = u3 at hV T6 ⊢
                generalize u2.heap.size = g6 at n6 T6 ⊢
                exact REST.out u3 g6 ⟨hV, T6, n6⟩
              · go_simp
                have n6 := hV.n6
                have T6 : Blk 80 (u1.alloc (.cells #[.int .u64 0, .int .u64 0, .int .u64 0, .int .u64 0, .int .u64 0, .int .u64 0, .int .u64 0, .int .u64 0] 80)) u1.heap.size (fV z8) := Blk.new _ _ _ _ rfl rfl
                have hV := hV.alloc (.cells #[.int .u64 0, .int .u64 0, .int .u64 0, .int .u64 0, .int .u64 0, .int .u64 0, .int .u64 0, .int .u64 0] 80)
                refine hKq.out _ _ hV (fun _ => ?_)
                clear hKq Kq
                generalize u1.alloc (.cells #[.int .u64 0, .int .u64 0, .int .u64 0, .int .u64 0, .int .u64 0, .int .u64 0, .int .u64 0, .int .u64 0] 80) = u2 at hV T6 ⊢
                generalize u1.heap.size = g6 at n6 T6 ⊢
                refine wpAnyH_ready (rs := [6]) (by kernel_rfl) (by simp) ?_
                refine AllReadyH.cons rfl (fun Kq hKq => ?_) AllReadyH.nil
                go_simp
                refine (rmul_any gf C1 A1 _ _ HC1.out HA1.out HLC1.out _ hV.kv.fd.fm hV.kv.fd.low).mono ?_
                rintro e u3 ⟨R, rfl, hR, LW⟩
                obtain rfl : C2 = R := ((hR.inj HC2.out).2 rfl).symm
                have hV := hV.below LW
                have T6 := T6.below LW
                clear LW hR
                refine hKq.out _ _ hV (fun _ => ?_)
                clear hKq Kq
                exact REST.out u3 g6 ⟨hV, T6, n6⟩
            · go_simp
              have n6 := hV.n6
              have T6 : Blk 80 (V9.alloc (.cells #[.int .u64 0, .int .u64 0, .int .u64 0, .int .u64 0, .int .u64 0, .int .u64 0, .int .u64 0, .int .u64 0] 80)) V9.heap.size (fV z8) := Blk.new _ _ _ _ rfl rfl
              have hV := hV.alloc (.cells #[.int .u64 0, .int .u64 0, .int .u64 0, .int .u64 0, .int .u64 0, .int .u64 0, .int .u64 0, .int .u64 0] 80)
              refine hKq.out _ _ hV (fun _ => ?_)
              clear hKq Kq
              generalize V9.alloc (.cells #[.int .u64 0, .int .u64 0, .int .u64 0, .int .u64 0, .int .u64 0, .int .u64 0, .int .u64 0, .int .u64 0] 80) = u1 at hV T6 ⊢
              generalize V9.heap.size = g6 at n6 T6 ⊢
              refine wpAnyH_ready (rs := [4]) (by kernel_rfl) (by simp) ?_
              refine AllReadyH.cons rfl (fun Kq hKq => ?_) AllReadyH.nil
              go_simp
              refine (rmul_any gf A1 A1 _ _ HA1.out HA1.out HLA1.out _ hV.kv.fd.fm hV.kv.fd.low).mono ?_
              rintro e u2 ⟨R, rfl, hR, LW⟩
              obtain rfl : C1 = R := ((hR.inj HC1.out).2 rfl).symm
              have hV := hV.below LW
              have T6 := T6.below LW
              clear LW hR
              refine hKq.out _ _ hV (fun _ => ?_)
              clear hKq Kq
              refine wpAnyH_ready (rs := [6]) (by kernel_rfl) (by simp) ?_
              refine AllReadyH.cons rfl (fun Kq hKq => ?_) AllReadyH.nil
              go_simp
              refine (rmul_any gf C1 A1 _ _ HC1.out HA1.out HLC1.out _ hV.kv.fd.fm hV.kv.fd.low).mono ?_
              rintro e u3 ⟨R, rfl, hR, LW⟩
              obtain rfl : C2 = R := ((hR.inj HC2.out).2 rfl).symm
              have hV := hV.below LW
              have T6 := T6.below LW
              clear LW hR
              refine hKq.out _ _ hV (fun _ => ?_)
              clear hKq Kq
              exact REST.out u3 g6 ⟨hV, T6, n6⟩
          · clear hV
            rintro U1 g6 ⟨hV, T6, n6⟩
            have n6 := hide n6
            have hst := stF8 HC2.out.len T6 (show (fV z8).length = 8 from rfl)
            refine wpAnyH_ready (rs := [8]) (by kernel_rfl) (by simp) ?_
            refine AllReadyH.cons rfl (fun Kq hKq => ?_) AllReadyH.nil
            go_simp
            have hV' := hV.sets n6.out 0 (fV C2)
            have h9 := (show (fV z8).length = 8 from rfl)
            have T6' := blk_all (vs := fV C2) T6 (by rw [h9, fV_len, HC2.out.len])
            clear h9
            refine hKq.out _ _ hV' (fun _ => ?_)
            clear hKq Kq hst hV T6
            refine wpAnyH_done (by kernel_rfl) ?_ _
            generalize U1.setCells g6 0 (fV C2) = U2 at hV' T6' ⊢
            go_wp2
            refine wp_region_held_drew (S := Kw w L gf g3 g4 A1 B1) (by kernel_rfl) hV'.drew (fun hV => ?_)
            have T6 := T6'.heap (w' := U2.drew) rfl
            generalize U2.drew = V10 at hV T6 ⊢
            clear hV' T6'
            refine wpAnyH_take (i := 0) (v := ?_) rfl (by kernel_rfl) (by kernel_rfl) (by kernel_rfl) (fun _ _ _ h => h) (Or.inl ⟨by rfl, ?_⟩) (by assumption) ?_
            rotate_left
            · intro wq hSq
              go_simp
              try with_reducible rfl
            simp only [List.getElem_toArray, List.getElem_cons_zero, Act.put, List.setIfInBounds_toArray, List.set_cons_zero, List.set_cons_succ]
            refine wpAnyH_take (i := 2) (v := ?_) rfl (by kernel_rfl) (by kernel_rfl) (by kernel_rfl) (fun _ _ _ h => h) (Or.inl ⟨by rfl, ?_⟩) (by assumption) ?_
            rotate_left
            · intro wq hSq
              have hl3 := ldF HA1.out.len hSq.b3
              have hls := hSq.kv.fd.ldSq
              go_simp
              try with_reducible rfl
            simp only [List.getElem_toArray, List.getElem_cons_succ, List.getElem_cons_zero, Act.put, List.setIfInBounds_toArray, List.set_cons_zero, List.set_cons_succ]
            refine wpAnyH_take (i := 3) (v := ?_) rfl (by kernel_rfl) (by kernel_rfl) (by kernel_rfl) (fun _ _ _ h => h) (Or.inl ⟨by rfl, ?_⟩) (by assumption) ?_
            rotate_left
            · intro wq hSq
              have hl3 := ldF HA1.out.len hSq.b3
              have hls := hSq.kv.fd.ldSq
              go_simp
              try with_reducible rfl
            simp only [List.getElem_toArray, List.getElem_cons_succ, List.getElem_cons_zero, Act.put, List.setIfInBounds_toArray, List.set_cons_zero, List.set_cons_succ]
            refine wpAnyH_take (i := 4) (v := ?_) rfl (by kernel_rfl) (by kernel_rfl) (by kernel_rfl) (fun _ _ _ h => h) (Or.inl ⟨by rfl, ?_⟩) (by assumption) ?_
            rotate_left
            · intro wq hSq
              have hl3 := ldF HA1.out.len hSq.b3
              have hls := hSq.kv.fd.ldSq
              go_simp
              try with_reducible rfl
            simp only [List.getElem_toArray, List.getElem_cons_succ, List.getElem_cons_zero, Act.put, List.setIfInBounds_toArray, List.set_cons_zero, List.set_cons_succ]
            refine wpAnyH_take (i := 5) (v := ?_) rfl (by kernel_rfl) (by kernel_rfl) (by kernel_rfl) (fun _ _ _ h => h) (Or.inl ⟨by rfl, ?_⟩) (by assumption) ?_
            rotate_left
            · intro wq hSq
              have hl3 := ldF HA1.out.len hSq.b3
              have hls := hSq.kv.fd.ldSq
              go_simp
              try with_reducible rfl
            simp only [List.getElem_toArray, List.getElem_cons_succ, List.getElem_cons_zero, Act.put, List.setIfInBounds_toArray, List.set_cons_zero, List.set_cons_succ]
            refine wpAnyH_take (i := 7) (v := ?_) rfl (by kernel_rfl) (by kernel_rfl) (by kernel_rfl) (fun _ _ _ h => h) (Or.inl ⟨by rfl, ?_⟩) (by assumption) ?_
            rotate_left
            · intro wq hSq
              have hl3 := ldF HA1.out.len hSq.b3
              have hls := hSq.kv.fd.ldSq
              go_simp
              try with_reducible rfl
            simp only [List.getElem_toArray, List.getElem_cons_succ, List.getElem_cons_zero, Act.put, List.setIfInBounds_toArray, List.set_cons_zero, List.set_cons_succ]
            refine' mk_restW (K := fun W => Kw w L gf g3 g4 A1 B1 W ∧ Blk 80 W g6 (fV C2)) (fun REST => ?_) ?_
            rotate_left
            · skip
              refine wpAnyH_ready (rs := [1, 6]) (by kernel_rfl) (by simp) ?_
              refine AllReadyH.cons rfl (fun Kq hKq => ?_) (AllReadyH.cons rfl (fun Kq hKq => ?_) AllReadyH.nil)
              · have hlq := ldF HC2.out.len T6
                go_simp
                refine hKq.out _ _ hV (fun _ => ?_)
                clear hKq Kq hlq
                refine wpAnyH_ready (rs := [6]) (by kernel_rfl) (by simp) ?_
                refine AllReadyH.cons rfl (fun Kq hKq => ?_) AllReadyH.nil
                go_simp
                refine (radd_any gf A1 A1 _ _ HA1.out HA1.out HLA1.out HLA1.out _ hV.kv.fd.fm).mono ?_
                rintro e u1 ⟨R, rfl, hR, LW⟩
                obtain rfl : E1 = R := ((hR.inj HE1.out).2 rfl).symm
                have hV := hV.below LW
                have T6 := T6.below LW
                clear LW hR
                refine hKq.out _ _ hV (fun _ => ?_)
                clear hKq Kq
                refine wpAnyH_ready (rs := [8]) (by kernel_rfl) (by simp) ?_
                refine AllReadyH.cons rfl (fun Kq hKq => ?_) AllReadyH.nil
                go_simp
                refine (radd_any gf E1 A1 _ _ HE1.out HA1.out HLE1.out HLA1.out _ hV.kv.fd.fm).mono ?_
                rintro e u2 ⟨R, rfl, hR, LW⟩
                obtain rfl : E2 = R := ((hR.inj HE2.out).2 rfl).symm
                have hV := hV.below LW
                have T6 := T6.below LW
                clear LW hR
                refine hKq.out _ _ hV (fun _ => ?_)
                clear hKq Kq
                exact REST.out u2 ⟨hV, T6⟩
              · go_simp
                refine (radd_any gf A1 A1 _ _ HA1.out HA1.out HLA1.out HLA1.out _ hV.kv.fd.fm).mono ?_
                rintro e u1 ⟨R, rfl, hR, LW⟩
                obtain rfl : E1 = R := ((hR.inj HE1.out).2 rfl).symm
                have hV := hV.below LW
                have T6 := T6.below LW
                clear LW hR
                refine hKq.out _ _ hV (fun _ => ?_)
                clear hKq Kq
                refine wpAnyH_ready (rs := [1, 8]) (by kernel_rfl) (by simp) ?_
                refine AllReadyH.cons rfl (fun Kq hKq => ?_) (AllReadyH.cons rfl (fun Kq hKq => ?_) AllReadyH.nil)
                · have hlq := ldF HC2.out.len T6
                  go_simp
                  refine hKq.out _ _ hV (fun _ => ?_)
                  clear hKq Kq hlq
                  refine wpAnyH_ready (rs := [8]) (by kernel_rfl) (by simp) ?_
                  refine AllReadyH.cons rfl (fun Kq hKq => ?_) AllReadyH.nil
                  go_simp
                  refine (radd_any gf E1 A1 _ _ HE1.out HA1.out HLE1.out HLA1.out _ hV.kv.fd.fm).mono ?_
                  rintro e u2 ⟨R, rfl, hR, LW⟩
                  obtain rfl : E2 = R := ((hR.inj HE2.out).2 rfl).symm
                  have hV := hV.below LW
                  have T6 := T6.below LW
                  clear LW hR
                  refine hKq.out _ _ hV (fun _ => ?_)
                  clear hKq Kq
                  exact REST.out u2 ⟨hV, T6⟩
                · go_simp
                  refine (radd_any gf E1 A1 _ _ HE1.out HA1.out HLE1.out HLA1.out _ hV.kv.fd.fm).mono ?_
                  rintro e u2 ⟨R, rfl, hR, LW⟩
                  obtain rfl : E2 = R := ((hR.inj HE2.out).2 rfl).symm
                  have hV := hV.below LW
                  have T6 := T6.below LW
                  clear LW hR
                  refine hKq.out _ _ hV (fun _ => ?_)
                  clear hKq Kq
                  refine wpAnyH_ready (rs := [1]) (by kernel_rfl) (by simp) ?_
                  refine AllReadyH.cons rfl (fun Kq hKq => ?_) AllReadyH.nil
                  have hlq := ldF HC2.out.len T6
                  go_simp
                  refine hKq.out _ _ hV (fun _ => ?_)
                  clear hKq Kq hlq
                  exact REST.out u2 ⟨hV, T6⟩
            · clear hV T6
              rintro U3 ⟨hV, T6⟩
              refine wpAnyH_ready (rs := [9]) (by kernel_rfl) (by simp) ?_
              refine AllReadyH.cons rfl (fun Kq hKq => ?_) AllReadyH.nil
              go_simp
              refine (rsub_any gf C2 E2 _ _ HC2.out HE2.out HLC2.out HLE2.out _ hV.kv.fd.fm).mono ?_
              rintro e u4 ⟨R, rfl, hR, LW⟩
              obtain rfl : E3 = R := ((hR.inj HE3.out).2 rfl).symm
              have hV := hV.below LW
              have T6 := T6.below LW
              clear LW hR
              refine hKq.out _ _ hV (fun _ => ?_)
              clear hKq Kq
              have hst := stF8 HE3.out.len T6 (show (fV C2).length = 8 by rw [fV_len]; exact HC2.out.len)
              refine wpAnyH_ready (rs := [10]) (by kernel_rfl) (by simp) ?_
              refine AllReadyH.cons rfl (fun Kq hKq => ?_) AllReadyH.nil
              go_simp
              have hV' := hV.sets n6.out 0 (fV E3)
              have h9 := (show (fV C2).length = 8 by rw [fV_len]; exact HC2.out.len)
              have T6' := blk_all (vs := fV E3) T6 (by rw [h9, fV_len, HE3.out.len])
              clear h9
              refine hKq.out _ _ hV' (fun _ => ?_)
              clear hKq Kq hst hV T6
              refine wpAnyH_done (by kernel_rfl) ?_ _
              generalize u4.setCells g6 0 (fV E3) = U4 at hV' T6' ⊢
              go_wp2
              refine wp_region_held_drew (S := Kw w L gf g3 g4 A1 B1) (by kernel_rfl) hV'.drew (fun hV => ?_)
              have T6 := T6'.heap (w' := U4.drew) rfl
              generalize U4.drew = V11 at hV T6 ⊢
              clear hV' T6'
              refine wpAnyH_take (i := 0) (v := ?_) rfl (by kernel_rfl) (by kernel_rfl) (by kernel_rfl) (fun _ _ _ h => h) (Or.inl ⟨by rfl, ?_⟩) (by assumption) ?_
              rotate_left
              · intro wq hSq
                go_simp
                try with_reducible rfl
              simp only [List.getElem_toArray, List.getElem_cons_zero, Act.put, List.setIfInBounds_toArray, List.set_cons_zero, List.set_cons_succ]
              refine wpAnyH_take (i := 2) (v := ?_) rfl (by kernel_rfl) (by kernel_rfl) (by kernel_rfl) (fun _ _ _ h => h) (Or.inl ⟨by rfl, ?_⟩) (by assumption) ?_
              rotate_left
              · intro wq hSq
                have hl3 := ldF HA1.out.len hSq.b3
                have hls := hSq.kv.fd.ldSq
                go_simp
                try with_reducible rfl
              simp only [List.getElem_toArray, List.getElem_cons_succ, List.getElem_cons_zero, Act.put, List.setIfInBounds_toArray, List.set_cons_zero, List.set_cons_succ]
              refine wpAnyH_take (i := 4) (v := ?_) rfl (by kernel_rfl) (by kernel_rfl) (by kernel_rfl) (fun _ _ _ h => h) (Or.inl ⟨by rfl, ?_⟩) (by assumption) ?_
              rotate_left
              · intro wq hSq
                have hl3 := ldF HA1.out.len hSq.b3
                have hls := hSq.kv.fd.ldSq
                go_simp
                try with_reducible rfl
              simp only [List.getElem_toArray, List.getElem_cons_succ, List.getElem_cons_zero, Act.put, List.setIfInBounds_toArray, List.set_cons_zero, List.set_cons_succ]
              refine wpAnyH_take (i := 5) (v := ?_) rfl (by kernel_rfl) (by kernel_rfl) (by kernel_rfl) (fun _ _ _ h => h) (Or.inl ⟨by rfl, ?_⟩) (by assumption) ?_
              rotate_left
              · intro wq hSq
                have hl3 := ldF HA1.out.len hSq.b3
                have hls := hSq.kv.fd.ldSq
                go_simp
                try with_reducible rfl
              simp only [List.getElem_toArray, List.getElem_cons_succ, List.getElem_cons_zero, Act.put, List.setIfInBounds_toArray, List.set_cons_zero, List.set_cons_succ]
              refine wpAnyH_take (i := 6) (v := ?_) rfl (by kernel_rfl) (by kernel_rfl) (by kernel_rfl) (fun _ _ _ h => h) (Or.inl ⟨by rfl, ?_⟩) (by assumption) ?_
              rotate_left
              · intro wq hSq
                have hl3 := ldF HA1.out.len hSq.b3
                have hls := hSq.kv.fd.ldSq
                go_simp
                try with_reducible rfl
              simp only [List.getElem_toArray, List.getElem_cons_succ, List.getElem_cons_zero, Act.put, List.setIfInBounds_toArray, List.set_cons_zero, List.set_cons_succ]
              refine wpAnyH_take (i := 7) (v := ?_) rfl (by kernel_rfl) (by kernel_rfl) (by kernel_rfl) (fun _ _ _ h => h) (Or.inl ⟨by rfl, ?_⟩) (by assumption) ?_
              rotate_left
              · intro wq hSq
                have hl3 := ldF HA1.out.len hSq.b3
                have hls := hSq.kv.fd.ldSq
                go_simp
                try with_reducible rfl
              simp only [List.getElem_toArray, List.getElem_cons_succ, List.getElem_cons_zero, Act.put, List.setIfInBounds_toArray, List.set_cons_zero, List.set_cons_succ]
              refine' mk_restW (K := fun W => Kw w L gf g3 g4 A1 B1 W ∧ Blk 80 W g6 (fV E3)) (fun REST => ?_) ?_
              rotate_left
              · skip
                refine wpAnyH_ready (rs := [1, 3]) (by kernel_rfl) (by simp) ?_
                refine AllReadyH.cons rfl (fun Kq hKq => ?_) (AllReadyH.cons rfl (fun Kq hKq => ?_) AllReadyH.nil)
                · have hlq := ldF HE3.out.len T6
                  go_simp
                  refine hKq.out _ _ hV (fun _ => ?_)
                  clear hKq Kq hlq
                  refine wpAnyH_ready (rs := [3]) (by kernel_rfl) (by simp) ?_
                  refine AllReadyH.cons rfl (fun Kq hKq => ?_) AllReadyH.nil
                  go_simp
                  refine (rcW_any _).mono ?_
                  rintro e u1 ⟨rfl, LW⟩
                  have hV := hV.below LW
                  have T6 := T6.below LW
                  clear LW
                  refine hKq.out _ _ hV (fun _ => ?_)
                  clear hKq Kq
                  refine wpAnyH_ready (rs := [8]) (by kernel_rfl) (by simp) ?_
                  refine AllReadyH.cons rfl (fun Kq hKq => ?_) AllReadyH.nil
                  go_simp
                  refine (rmul_any gf cW sqW _ _ fw_cW fw_sqW (by decide) _ hV.kv.fd.fm hV.kv.fd.low).mono ?_
                  rintro e u2 ⟨R, rfl, hR, LW⟩
                  obtain rfl : B2 = R := ((hR.inj HB2.out).2 rfl).symm
                  have hV := hV.below LW
                  have T6 := T6.below LW
                  clear LW hR
                  refine hKq.out _ _ hV (fun _ => ?_)
                  clear hKq Kq
                  exact REST.out u2 ⟨hV, T6⟩
                · go_simp
                  refine (rcW_any _).mono ?_
                  rintro e u1 ⟨rfl, LW⟩
                  have hV := hV.below LW
                  have T6 := T6.below LW
                  clear LW
                  refine hKq.out _ _ hV (fun _ => ?_)
                  clear hKq Kq
                  refine wpAnyH_ready (rs := [1, 8]) (by kernel_rfl) (by simp) ?_
                  refine AllReadyH.cons rfl (fun Kq hKq => ?_) (AllReadyH.cons rfl (fun Kq hKq => ?_) AllReadyH.nil)
                  · have hlq := ldF HE3.out.len T6
                    go_simp
                    refine hKq.out _ _ hV (fun _ => ?_)
                    clear hKq Kq hlq
                    refine wpAnyH_ready (rs := [8]) (by kernel_rfl) (by simp) ?_
                    refine AllReadyH.cons rfl (fun Kq hKq => ?_) AllReadyH.nil
                    go_simp
                    refine (rmul_any gf cW sqW _ _ fw_cW fw_sqW (by decide) _ hV.kv.fd.fm hV.kv.fd.low).mono ?_
                    rintro e u2 ⟨R, rfl, hR, LW⟩
                    obtain rfl : B2 = R := ((hR.inj HB2.out).2 rfl).symm
                    have hV := hV.below LW
                    have T6 := T6.below LW
                    clear LW hR
                    refine hKq.out _ _ hV (fun _ => ?_)
                    clear hKq Kq
                    exact REST.out u2 ⟨hV, T6⟩
                  · go_simp
                    refine (rmul_any gf cW sqW _ _ fw_cW fw_sqW (by decide) _ hV.kv.fd.fm hV.kv.fd.low).mono ?_
                    rintro e u2 ⟨R, rfl, hR, LW⟩
                    obtain rfl : B2 = R := ((hR.inj HB2.out).2 rfl).symm
                    have hV := hV.below LW
                    have T6 := T6.below LW
                    clear LW hR
                    refine hKq.out _ _ hV (fun _ => ?_)
                    clear hKq Kq
                    refine wpAnyH_ready (rs := [1]) (by kernel_rfl) (by simp) ?_
                    refine AllReadyH.cons rfl (fun Kq hKq => ?_) AllReadyH.nil
                    have hlq := ldF HE3.out.len T6
                    go_simp
                    refine hKq.out _ _ hV (fun _ => ?_)
                    clear hKq Kq hlq
                    exact REST.out u2 ⟨hV, T6⟩
              · clear hV T6
                rintro U5 ⟨hV, T6⟩
                refine wpAnyH_ready (rs := [9]) (by kernel_rfl) (by simp) ?_
                refine AllReadyH.cons rfl (fun Kq hKq => ?_) AllReadyH.nil
                go_simp
                refine (radd_any gf E3 B2 _ _ HE3.out HB2.out HLE3.out HLB2.out _ hV.kv.fd.fm).mono ?_
                rintro e u6 ⟨R, rfl, hR, LW⟩
                obtain rfl : E4 = R := ((hR.inj HE4.out).2 rfl).symm
                have hV := hV.below LW
                have T6 := T6.below LW
                clear LW hR
                refine hKq.out _ _ hV (fun _ => ?_)
                clear hKq Kq
                have hst := stF8 HE4.out.len T6 (show (fV E3).length = 8 by rw [fV_len]; exact HE3.out.len)
                refine wpAnyH_ready (rs := [10]) (by kernel_rfl) (by simp) ?_
                refine AllReadyH.cons rfl (fun Kq hKq => ?_) AllReadyH.nil
                go_simp
                have hV' := hV.sets n6.out 0 (fV E4)
                have h9 := (show (fV E3).length = 8 by rw [fV_len]; exact HE3.out.len)
                have T6' := blk_all (vs := fV E4) T6 (by rw [h9, fV_len, HE4.out.len])
                clear h9
                refine hKq.out _ _ hV' (fun _ => ?_)
                clear hKq Kq hst hV T6
                refine wpAnyH_done (by kernel_rfl) ?_ _
                generalize u6.setCells g6 0 (fV E4) = U6 at hV' T6' ⊢
                go_wp2
                refine wp_region_held_drew (S := fun W => Kw w L gf g3 g4 A1 B1 W ∧ Blk 80 W g6 (fV E4)) (by kernel_rfl) ⟨hV'.drew, T6'.heap rfl⟩ (fun hX => ?_)
                generalize U6.drew = V12 at hX ⊢
                clear hV' T6'
                have heq : ∀ W : World, (eqA 80 (.agg (fV Y2).toArray) (.agg (fV E4).toArray)).run Tryd.prog W = .ok (.bool on) W := by
                  intro W
                  rw [eqF8 Y2 E4 HY2.out.len HE4.out.len W, HOn2.out]
                  simp only [HY2.out.inj HE4.out]
                refine wpAnyH_take (i := 0) (v := ?_) rfl (by kernel_rfl) (by kernel_rfl) (by kernel_rfl) (fun _ _ _ h => h) (Or.inl ⟨by rfl, ?_⟩) (by assumption) ?_
                rotate_left
                · intro wq hSq
                  go_simp
                  try with_reducible rfl
                simp only [List.getElem_toArray, List.getElem_cons_zero, Act.put, List.setIfInBounds_toArray, List.set_cons_zero, List.set_cons_succ]
                refine wpAnyH_take (i := 1) (v := ?_) rfl (by kernel_rfl) (by kernel_rfl) (by kernel_rfl) (fun _ _ _ h => h) (Or.inl ⟨by rfl, ?_⟩) (by assumption) ?_
                rotate_left
                · intro wq hSq
                  have hl4 := ldF HB1.out.len hSq.1.b4
                  have hl6 := ldF HE4.out.len hSq.2
                  go_simp
                  try with_reducible rfl
                simp only [List.getElem_toArray, List.getElem_cons_succ, List.getElem_cons_zero, Act.put, List.setIfInBounds_toArray, List.set_cons_zero, List.set_cons_succ]
                refine wpAnyH_take (i := 2) (v := ?_) rfl (by kernel_rfl) (by kernel_rfl) (by kernel_rfl) (fun _ _ _ h => h) (Or.inl ⟨by rfl, ?_⟩) (by assumption) ?_
                rotate_left
                · intro wq hSq
                  have hl4 := ldF HB1.out.len hSq.1.b4
                  have hl6 := ldF HE4.out.len hSq.2
                  go_simp
                  try with_reducible rfl
                simp only [List.getElem_toArray, List.getElem_cons_succ, List.getElem_cons_zero, Act.put, List.setIfInBounds_toArray, List.set_cons_zero, List.set_cons_succ]
                refine wpAnyH_take (i := 4) (v := ?_) rfl (by kernel_rfl) (by kernel_rfl) (by kernel_rfl) (fun _ _ _ h => h) (Or.inl ⟨by rfl, ?_⟩) (by assumption) ?_
                rotate_left
                · intro wq hSq
                  have hl4 := ldF HB1.out.len hSq.1.b4
                  have hl6 := ldF HE4.out.len hSq.2
                  go_simp
                  try with_reducible rfl
                simp only [List.getElem_toArray, List.getElem_cons_succ, List.getElem_cons_zero, Act.put, List.setIfInBounds_toArray, List.set_cons_zero, List.set_cons_succ]
                refine wpAnyH_ready (rs := [3]) (by kernel_rfl) (by simp) ?_
                refine AllReadyH.cons rfl (fun Kq hKq => ?_) AllReadyH.nil
                go_simp
                refine (rmul_any gf B1 B1 _ _ HB1.out HB1.out HLB1.out _ hX.1.kv.fd.fm hX.1.kv.fd.low).mono ?_
                rintro e u7 ⟨R, rfl, hR, LW⟩
                obtain rfl : Y2 = R := ((hR.inj HY2.out).2 rfl).symm
                have hX := And.intro (hX.1.below LW) (hX.2.below LW)
                clear LW hR
                refine hKq.out _ _ hX (fun _ => ?_)
                clear hKq Kq
                refine wpAnyH_take (i := 5) (v := .bool on) rfl (by kernel_rfl) (by kernel_rfl) (by kernel_rfl) (fun _ _ _ h => h) (Or.inl ⟨by rfl, ?_⟩) (by assumption) ?_
                · intro wq hSq
                  go_simp
                simp only [List.getElem_toArray, List.getElem_cons_succ, List.getElem_cons_zero, Act.put, List.setIfInBounds_toArray, List.set_cons_zero, List.set_cons_succ]
                refine wpAnyH_ready (rs := [6]) (by kernel_rfl) (by simp) ?_
                refine AllReadyH.cons rfl (fun Kq hKq => ?_) AllReadyH.nil
                go_simp
                refine hKq.out _ _ hX (fun _ => ?_)
                clear hKq Kq
                refine wpAnyH_done (by kernel_rfl) ?_ _
                have U8 := hide hX.1.kv.kr.bl
                clear hX
                go_wp2
                go_ret
                exact ⟨rfl, U8.out⟩
      · have HD1 : Hid (decide (dn X < PP) = true) := decide_eq_true hpx
        have HD2 : Hid (decide (dn Y < PP) = false) := decide_eq_false hpy
        have HOn : Hid (on = false) := by unfold Hid; rw [HON.out]; simp [hpy]
        clear hpx hpy HON
        go_wp2
        refine wp_region_held_drew (S := fun W => Kz w L RX RY W g3 g4) (by kernel_rfl) hK2.drew (fun hZ => ?_)
        generalize W2.drew = V2 at hZ ⊢
        clear hK2
        refine wpAnyH_take (i := 0) (v := ?_) rfl (by kernel_rfl) (by kernel_rfl) (by kernel_rfl) (fun _ _ _ h => h) (Or.inl ⟨by rfl, ?_⟩) (by assumption) ?_
        rotate_left
        · intro wq hSq
          have hl3 := ldF HRX.out.len hSq.b3
          go_simp
          try with_reducible rfl
        simp only [List.getElem_toArray, List.getElem_cons_zero, Act.put, List.setIfInBounds_toArray, List.set_cons_zero, List.set_cons_succ]
        refine wpAnyH_ready (rs := [1]) (by kernel_rfl) (by simp) ?_
        refine AllReadyH.cons rfl (fun Kq hKq => ?_) AllReadyH.nil
        go_simp
        refine (rpW_any _).mono ?_
        rintro e w1 ⟨rfl, LW⟩
        have hZ := hZ.below LW
        clear LW
        refine hKq.out _ _ hZ (fun _ => ?_)
        clear hKq Kq
        refine wpAnyH_ready (rs := [2]) (by kernel_rfl) (by simp) ?_
        refine AllReadyH.cons rfl (fun Kq hKq => ?_) AllReadyH.nil
        go_simp
        refine (rless_any _ _ _ _ HRX.out fw_pW _).mono ?_
        rintro e w2 ⟨rfl, LW⟩
        rw [HD1.out]
        have hZ := hZ.below LW
        clear LW
        refine hKq.out _ _ hZ (fun _ => ?_)
        clear hKq Kq
        refine wpAnyH_take (i := 3) (v := .bool false) rfl (by kernel_rfl) (by kernel_rfl) (by kernel_rfl) (fun _ _ _ h => h) (Or.inl ⟨by rfl, ?_⟩) (by assumption) ?_
        · intro wq hSq
          go_simp
        simp only [List.getElem_toArray, List.getElem_cons_succ, List.getElem_cons_zero, Act.put, List.setIfInBounds_toArray, List.set_cons_zero, List.set_cons_succ]
        refine wpAnyH_take (i := 4) (v := .bool false) rfl (by kernel_rfl) (by kernel_rfl) (by kernel_rfl) (fun _ _ _ h => h) (Or.inl ⟨by rfl, ?_⟩) (by assumption) ?_
        · intro wq hSq
          go_simp
        simp only [List.getElem_toArray, List.getElem_cons_succ, List.getElem_cons_zero, Act.put, List.setIfInBounds_toArray, List.set_cons_zero, List.set_cons_succ]
        refine wpAnyH_take (i := 5) (v := ?_) rfl (by kernel_rfl) (by kernel_rfl) (by kernel_rfl) (fun _ _ _ h => h) (Or.inl ⟨by rfl, ?_⟩) (by assumption) ?_
        rotate_left
        · intro wq hSq
          have hl3 := ldF HRX.out.len hSq.b3
          have hl4 := ldF HRY.out.len hSq.b4
          go_simp
          try with_reducible rfl
        simp only [List.getElem_toArray, List.getElem_cons_succ, List.getElem_cons_zero, Act.put, List.setIfInBounds_toArray, List.set_cons_zero, List.set_cons_succ]
        refine wpAnyH_ready (rs := [6]) (by kernel_rfl) (by simp) ?_
        refine AllReadyH.cons rfl (fun Kq hKq => ?_) AllReadyH.nil
        go_simp
        refine (rpW_any _).mono ?_
        rintro e w3 ⟨rfl, LW⟩
        have hZ := hZ.below LW
        clear LW
        refine hKq.out _ _ hZ (fun _ => ?_)
        clear hKq Kq
        refine wpAnyH_ready (rs := [7]) (by kernel_rfl) (by simp) ?_
        refine AllReadyH.cons rfl (fun Kq hKq => ?_) AllReadyH.nil
        go_simp
        refine (rless_any _ _ _ _ HRY.out fw_pW _).mono ?_
        rintro e w4 ⟨rfl, LW⟩
        rw [HD2.out]
        have hZ := hZ.below LW
        clear LW
        refine hKq.out _ _ hZ (fun _ => ?_)
        clear hKq Kq
        refine wpAnyH_take (i := 8) (v := .bool true) rfl (by kernel_rfl) (by kernel_rfl) (by kernel_rfl) (fun _ _ _ h => h) (Or.inl ⟨by rfl, ?_⟩) (by assumption) ?_
        · intro wq hSq
          go_simp
        simp only [List.getElem_toArray, List.getElem_cons_succ, List.getElem_cons_zero, Act.put, List.setIfInBounds_toArray, List.set_cons_zero, List.set_cons_succ]
        refine wpAnyH_take (i := 9) (v := .bool true) rfl (by kernel_rfl) (by kernel_rfl) (by kernel_rfl) (fun _ _ _ h => h) (Or.inl ⟨by rfl, ?_⟩) (by assumption) ?_
        · intro wq hSq
          go_simp
        simp only [List.getElem_toArray, List.getElem_cons_succ, List.getElem_cons_zero, Act.put, List.setIfInBounds_toArray, List.set_cons_zero, List.set_cons_succ]
        refine wpAnyH_done (by kernel_rfl) ?_ _
        have U4 := hide hZ.kr.bl
        clear hZ
        go_wp2
        go_ret
        exact ⟨by rw [HOn.out]; rfl, U4.out⟩
    · have HD1 : Hid (decide (dn X < PP) = false) := decide_eq_false hpx
      have HOn : Hid (on = false) := by unfold Hid; rw [HON.out]; simp [hpx]
      clear hpx HON
      go_wp2
      refine wp_region_held_drew (S := fun W => Kz w L RX RY W g3 g4) (by kernel_rfl) hK2.drew (fun hZ => ?_)
      generalize W2.drew = V2 at hZ ⊢
      clear hK2
      refine wpAnyH_take (i := 0) (v := ?_) rfl (by kernel_rfl) (by kernel_rfl) (by kernel_rfl) (fun _ _ _ h => h) (Or.inl ⟨by rfl, ?_⟩) (by assumption) ?_
      rotate_left
      · intro wq hSq
        have hl3 := ldF HRX.out.len hSq.b3
        go_simp
        try with_reducible rfl
      simp only [List.getElem_toArray, List.getElem_cons_zero, Act.put, List.setIfInBounds_toArray, List.set_cons_zero, List.set_cons_succ]
      refine wpAnyH_ready (rs := [1]) (by kernel_rfl) (by simp) ?_
      refine AllReadyH.cons rfl (fun Kq hKq => ?_) AllReadyH.nil
      go_simp
      refine (rpW_any _).mono ?_
      rintro e w1 ⟨rfl, LW⟩
      have hZ := hZ.below LW
      clear LW
      refine hKq.out _ _ hZ (fun _ => ?_)
      clear hKq Kq
      refine wpAnyH_ready (rs := [2]) (by kernel_rfl) (by simp) ?_
      refine AllReadyH.cons rfl (fun Kq hKq => ?_) AllReadyH.nil
      go_simp
      refine (rless_any _ _ _ _ HRX.out fw_pW _).mono ?_
      rintro e w2 ⟨rfl, LW⟩
      rw [HD1.out]
      have hZ := hZ.below LW
      clear LW
      refine hKq.out _ _ hZ (fun _ => ?_)
      clear hKq Kq
      refine wpAnyH_take (i := 3) (v := .bool true) rfl (by kernel_rfl) (by kernel_rfl) (by kernel_rfl) (fun _ _ _ h => h) (Or.inl ⟨by rfl, ?_⟩) (by assumption) ?_
      · intro wq hSq
        go_simp
      simp only [List.getElem_toArray, List.getElem_cons_succ, List.getElem_cons_zero, Act.put, List.setIfInBounds_toArray, List.set_cons_zero, List.set_cons_succ]
      refine wpAnyH_take (i := 4) (v := .bool true) rfl (by kernel_rfl) (by kernel_rfl) (by kernel_rfl) (fun _ _ _ h => h) (Or.inl ⟨by rfl, ?_⟩) (by assumption) ?_
      · intro wq hSq
        go_simp
      simp only [List.getElem_toArray, List.getElem_cons_succ, List.getElem_cons_zero, Act.put, List.setIfInBounds_toArray, List.set_cons_zero, List.set_cons_succ]
      refine wpAnyH_take (i := 5) (v := undef) rfl (by kernel_rfl) (by kernel_rfl) (by kernel_rfl) (fun _ _ _ h => h) (Or.inr ⟨by rfl, rfl⟩) (by assumption) ?_
      simp only [List.getElem_toArray, List.getElem_cons_succ, List.getElem_cons_zero, Act.put, List.setIfInBounds_toArray, List.set_cons_zero, List.set_cons_succ]
      refine wpAnyH_take (i := 6) (v := undef) rfl (by kernel_rfl) (by kernel_rfl) (by kernel_rfl) (fun _ _ _ h => h) (Or.inr ⟨by rfl, rfl⟩) (by assumption) ?_
      simp only [List.getElem_toArray, List.getElem_cons_succ, List.getElem_cons_zero, Act.put, List.setIfInBounds_toArray, List.set_cons_zero, List.set_cons_succ]
      refine wpAnyH_take (i := 7) (v := undef) rfl (by kernel_rfl) (by kernel_rfl) (by kernel_rfl) (fun _ _ _ h => h) (Or.inr ⟨by rfl, rfl⟩) (by assumption) ?_
      simp only [List.getElem_toArray, List.getElem_cons_succ, List.getElem_cons_zero, Act.put, List.setIfInBounds_toArray, List.set_cons_zero, List.set_cons_succ]
      refine wpAnyH_take (i := 8) (v := undef) rfl (by kernel_rfl) (by kernel_rfl) (by kernel_rfl) (fun _ _ _ h => h) (Or.inr ⟨by rfl, rfl⟩) (by assumption) ?_
      simp only [List.getElem_toArray, List.getElem_cons_succ, List.getElem_cons_zero, Act.put, List.setIfInBounds_toArray, List.set_cons_zero, List.set_cons_succ]
      refine wpAnyH_take (i := 9) (v := .bool true) rfl (by kernel_rfl) (by kernel_rfl) (by kernel_rfl) (fun _ _ _ h => h) (Or.inl ⟨by rfl, ?_⟩) (by assumption) ?_
      · intro wq hSq
        go_simp
      simp only [List.getElem_toArray, List.getElem_cons_succ, List.getElem_cons_zero, Act.put, List.setIfInBounds_toArray, List.set_cons_zero, List.set_cons_succ]
      refine wpAnyH_done (by kernel_rfl) ?_ _
      have U4 := hide hZ.kr.bl
      clear hZ
      go_wp2
      go_ret
      exact ⟨by rw [HOn.out]; rfl, U4.out⟩

end Go.Proofs.YtcijjmncilciiaaDoor
