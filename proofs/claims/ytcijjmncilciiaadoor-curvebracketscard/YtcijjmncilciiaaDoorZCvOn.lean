/-
  curve.On: whether a point is one of the curve.
-/
import Derived.Test.YtcijjmncilciiaaDoorZCvSpn
namespace Go.Proofs.YtcijjmncilciiaaDoor
open Go.RowKit Go.IntWalk

attribute [local go_sem ↓] ld_num st_num ld_pln st_pln ld_ops st_ops ld_pnt st_pnt ld_dig st_dig ld_tri st_tri eq_num ne_num eq_pnt ne_pnt bd_pnt

/-- What spread answers, whatever the point. -/
theorem spread_all (X Y : List Int) (f : Bool) (hX : X.length = 32) (hY : Y.length = 32) (dX : Dg 256 X) (dY : Dg 256 Y) (b0 b1 b2 b3 : Int) (hb : Nw b0 b1 b2 b3 BM) (w : World) (hC : Cv w) :
    Calls Tryd.prog 29 #[.agg (pL X Y f).toArray, .agg (opL b0 b1 b2 b3).toArray] w fun e w' => ∃ x0 x1 x2 x3 y0 y1 y2 y3 z0 z1 z2 z3, e = .returned (.tuple #[.agg (T12 x0 x1 x2 x3 y0 y1 y2 y3 z0 z1 z2 z3).toArray, .bool (onP X Y f)]) ∧ Below w.heap.size w w' := by
  cases f
  · refine (spread_any X Y hX hY dX dY b0 b1 b2 b3 hb w hC).mono ?_
    rintro e w1 ⟨x0, x1, x2, x3, y0, y1, y2, y3, rfl, _, _, hB⟩
    exact ⟨_, _, _, _, _, _, _, _, _, _, _, _, rfl, hB⟩
  · refine (spread_far X Y hX hY b0 b1 b2 b3 w hC).mono ?_
    rintro e w1 ⟨rfl, hB⟩
    exact ⟨_, _, _, _, _, _, _, _, _, _, _, _, rfl, hB⟩

theorem stTn (w : World) (x0 x1 x2 x3 y0 y1 y2 y3 z0 z1 z2 z3 : Int) : (stA 72 (.pointer (some ⟨w.heap.size, 0, none⟩)) (.agg (T12 x0 x1 x2 x3 y0 y1 y2 y3 z0 z1 z2 z3).toArray)).run Tryd.prog (w.alloc (.cells T0.toArray 72)) = .ok () ((w.alloc (.cells T0.toArray 72)).setCells w.heap.size 0 (T12 x0 x1 x2 x3 y0 y1 y2 y3 z0 z1 z2 z3)) :=
  stT (Blk.new w T0 _ _ rfl rfl) rfl _ _ _ _ _ _ _ _ _ _ _ _

/-- What stays while a call runs that has a point in a box of its own. -/
structure Kp (w : World) (L : List Value) (W : World) : Prop where
  blk : Blk 25 W w.heap.size L
  cv : Cv W
  bl : Below w.heap.size w W

theorem Kp.heap {w W V : World} {L : List Value} (h : Kp w L W) (e : V = W.drew) : Kp w L V := by
  subst e
  exact ⟨h.blk.heap rfl, h.cv.heap rfl, Drew.below (by exact ⟨rfl, rfl, rfl, rfl⟩) h.bl⟩
theorem Kp.below {w W V : World} {L : List Value} (h : Kp w L W) (b : Below W.heap.size W V) : Kp w L V := ⟨h.blk.below b, h.cv.below b, below_then h.bl b⟩
theorem Kp.alloc {w W : World} {L : List Value} (h : Kp w L W) (o : Obj) : Kp w L (W.alloc o) := h.below (below1 W o)
theorem Kp.sets {w W : World} {L : List Value} (h : Kp w L W) {k : Nat} (hk : w.heap.size < k) (hC : Cv w) (o : Nat) (vs : List Value) : Kp w L (W.setCells k o vs) :=
  ⟨h.blk.other (by omega), h.cv.sets (by have := hC.lt; omega), below_sets h.bl (by omega) h.bl.size _ _⟩

theorem tri_new (w : World) : Blk 72 (w.alloc (.cells #[.int .u64 0, .int .u64 0, .int .u64 0, .int .u64 0, .int .u64 0, .int .u64 0, .int .u64 0, .int .u64 0, .int .u64 0, .int .u64 0, .int .u64 0, .int .u64 0] 72)) w.heap.size T0 := Blk.new w T0 _ _ rfl rfl
theorem blk_tri {W V : World} {T : TypeId} (b : Below (W.alloc (.cells T0.toArray T)).heap.size (W.alloc (.cells T0.toArray T)) V) : Blk T V W.heap.size T0 := (Blk.new W T0 _ _ rfl rfl).below b

set_option maxRecDepth 100000 in
set_option maxHeartbeats 1000000 in
theorem on_any (X Y : List Int) (f : Bool) (hX : X.length = 32) (hY : Y.length = 32) (dX : Dg 256 X) (dY : Dg 256 Y) (w : World) (hC : Cv w) :
    Calls Tryd.prog 23 #[.agg (pL X Y f).toArray] w fun e w' => e = .returned (.bool (onP X Y f)) ∧ Below w.heap.size w w' := by
  have HSP : Hid (∀ b0 b1 b2 b3, Nw b0 b1 b2 b3 BM → ∀ W, Cv W → Calls Tryd.prog 29 #[.agg (pL X Y f).toArray, .agg (opL b0 b1 b2 b3).toArray] W fun e w' => ∃ x0 x1 x2 x3 y0 y1 y2 y3 z0 z1 z2 z3, e = .returned (.tuple #[.agg (T12 x0 x1 x2 x3 y0 y1 y2 y3 z0 z1 z2 z3).toArray, .bool (onP X Y f)]) ∧ Below W.heap.size W w') := fun b0 b1 b2 b3 hb W hW => spread_all X Y f hX hY dX dY b0 b1 b2 b3 hb W hW
  have HLD : Hid (∀ W, Blk 25 W w.heap.size (pL X Y f) → (ldA 25 (.pointer (some ⟨w.heap.size, 0, none⟩))).run Tryd.prog W = .ok (.agg (pL X Y f).toArray) W) := fun W h => (pnt_ld hX hY h).1
  have hone := pL_one X Y f
  generalize onP X Y f = on at HSP ⊢
  generalize pL X Y f = L at HSP HLD hone ⊢
  have HC := hide hC
  have S0 : Kp w L (w.alloc (.cells L.toArray 25)) := ⟨Blk.new w L _ _ rfl rfl, hC.alloc _, below1 w _⟩
  clear hX hY dX dY hC
  go_enter Tryd.func23, Tryd.ntmps23
  go_wp2
  generalize w.alloc (.cells L.toArray 25) = V0 at S0 ⊢
  refine wp_region_held_drew (S := Kp w L) (by kernel_rfl) (S0.heap rfl) (fun hS0 => ?_)
  generalize V0.drew = V at hS0 ⊢
  refine wpAnyH_take (i := 0) (v := ?_) rfl (by kernel_rfl) (by kernel_rfl) (by kernel_rfl) (fun _ _ _ h => h) (Or.inl ⟨by rfl, ?_⟩) (by assumption) ?_
  rotate_left
  · intro wq hSq
    have hlq := HLD.out wq hSq.blk
    go_simp
    try with_reducible rfl
  simp only [List.getElem_toArray, List.getElem_cons_zero, Act.put, List.setIfInBounds_toArray, List.set_cons_zero, List.set_cons_succ]
  refine wpAnyH_ready (rs := [1, 6]) (by kernel_rfl) (by simp) ?_
  refine AllReadyH.cons rfl (fun Kq hKq => ?_) (AllReadyH.cons rfl (fun Kq hKq => ?_) AllReadyH.nil)
  · go_simp
    refine (ops_any _ (hS0).cv).mono ?_
    rintro e w1 ⟨b0, b1, b2, b3, rfl, HN, LB⟩
    have HN := hide HN
    have hS1 := (hS0).below LB
    have LB1 := hide LB
    clear LB
    refine hKq.out _ _ hS1 (fun _ => ?_)
    clear hKq Kq
    refine wpAnyH_ready (rs := [2, 6]) (by kernel_rfl) (by simp) ?_
    refine AllReadyH.cons rfl (fun Kq hKq => ?_) (AllReadyH.cons rfl (fun Kq hKq => ?_) AllReadyH.nil)
    · go_simp
      refine (HSP.out b0 b1 b2 b3 HN.out _ (hS1).cv).mono ?_
      rintro e w2 ⟨x0, x1, x2, x3, y0, y1, y2, y3, z0, z1, z2, z3, rfl, LB⟩
      have hS2 := (hS1).below LB
      have LB2 := hide LB
      clear LB
      refine hKq.out _ _ hS2 (fun _ => ?_)
      clear hKq Kq
      refine wpAnyH_take (i := 3) (v := ?_) rfl (by kernel_rfl) (by kernel_rfl) (by kernel_rfl) (fun _ _ _ h => h) (Or.inl ⟨by rfl, ?_⟩) (by assumption) ?_
      rotate_left
      · intro wq hSq
        have hlq := HLD.out wq hSq.blk
        go_simp
        try with_reducible rfl
      simp only [List.getElem_toArray, List.getElem_cons_succ, List.getElem_cons_zero, Act.put, List.setIfInBounds_toArray, List.set_cons_zero, List.set_cons_succ]
      refine wpAnyH_take (i := 4) (v := ?_) rfl (by kernel_rfl) (by kernel_rfl) (by kernel_rfl) (fun _ _ _ h => h) (Or.inl ⟨by rfl, ?_⟩) (by assumption) ?_
      rotate_left
      · intro wq hSq
        have hlq := HLD.out wq hSq.blk
        go_simp
        try with_reducible rfl
      simp only [List.getElem_toArray, List.getElem_cons_succ, List.getElem_cons_zero, Act.put, List.setIfInBounds_toArray, List.set_cons_zero, List.set_cons_succ]
      refine wpAnyH_take (i := 5) (v := ?_) rfl (by kernel_rfl) (by kernel_rfl) (by kernel_rfl) (fun _ _ _ h => h) (Or.inl ⟨by rfl, ?_⟩) (by assumption) ?_
      rotate_left
      · intro wq hSq
        have hlq := HLD.out wq hSq.blk
        go_simp
        try with_reducible rfl
      simp only [List.getElem_toArray, List.getElem_cons_succ, List.getElem_cons_zero, Act.put, List.setIfInBounds_toArray, List.set_cons_zero, List.set_cons_succ]
      refine wpAnyH_ready (rs := [6]) (by kernel_rfl) (by simp) ?_
      refine AllReadyH.cons rfl (fun Kq hKq => ?_) AllReadyH.nil
      go_simp
      have hS3 := (hS2).alloc (.cells T0.toArray 72)
      refine hKq.out _ _ hS3 (fun _ => ?_)
      clear hKq Kq
      have hB4 := tri_new w2
      have hlt : w.heap.size < w2.heap.size := hS2.blk.lt
      have hst : (stA 72 (.pointer (some ⟨w2.heap.size, 0, none⟩)) (.agg (T12 x0 x1 x2 x3 y0 y1 y2 y3 z0 z1 z2 z3).toArray)).run Tryd.prog (w2.alloc (.cells #[.int .u64 0, .int .u64 0, .int .u64 0, .int .u64 0, .int .u64 0, .int .u64 0, .int .u64 0, .int .u64 0, .int .u64 0, .int .u64 0, .int .u64 0, .int .u64 0] 72)) = .ok () ((w2.alloc (.cells #[.int .u64 0, .int .u64 0, .int .u64 0, .int .u64 0, .int .u64 0, .int .u64 0, .int .u64 0, .int .u64 0, .int .u64 0, .int .u64 0, .int .u64 0, .int .u64 0] 72)).setCells (w2.heap.size) 0 (T12 x0 x1 x2 x3 y0 y1 y2 y3 z0 z1 z2 z3)) := stT hB4 rfl x0 x1 x2 x3 y0 y1 y2 y3 z0 z1 z2 z3
      refine wpAnyH_ready (rs := [7]) (by kernel_rfl) (by simp) ?_
      refine AllReadyH.cons rfl (fun Kq hKq => ?_) AllReadyH.nil
      go_simp
      refine hKq.out _ _ ((hS3).sets hlt HC.out _ _) (fun hS5 => ?_)
      clear hKq Kq
      refine wpAnyH_ready (rs := [8]) (by kernel_rfl) (by simp) ?_
      refine AllReadyH.cons rfl (fun Kq hKq => ?_) AllReadyH.nil
      go_simp
      refine hKq.out _ _ hS5 (fun _ => ?_)
      clear hKq Kq
      refine wpAnyH_done (by kernel_rfl) ?_ _
      have U5 := hide hS5.bl
      clear hS5
      go_wp2
      go_ret
      exact ⟨rfl, U5.out⟩
    · go_simp
      have hS3 := (hS1).alloc (.cells T0.toArray 72)
      refine hKq.out _ _ hS3 (fun _ => ?_)
      clear hKq Kq
      refine wpAnyH_ready (rs := [2]) (by kernel_rfl) (by simp) ?_
      refine AllReadyH.cons rfl (fun Kq hKq => ?_) AllReadyH.nil
      go_simp
      refine (HSP.out b0 b1 b2 b3 HN.out _ (hS3).cv).mono ?_
      rintro e w2 ⟨x0, x1, x2, x3, y0, y1, y2, y3, z0, z1, z2, z3, rfl, LB⟩
      have hS2 := (hS3).below LB
      have LB2 := hide LB
      clear LB
      refine hKq.out _ _ hS2 (fun _ => ?_)
      clear hKq Kq
      refine wpAnyH_take (i := 3) (v := ?_) rfl (by kernel_rfl) (by kernel_rfl) (by kernel_rfl) (fun _ _ _ h => h) (Or.inl ⟨by rfl, ?_⟩) (by assumption) ?_
      rotate_left
      · intro wq hSq
        have hlq := HLD.out wq hSq.blk
        go_simp
        try with_reducible rfl
      simp only [List.getElem_toArray, List.getElem_cons_succ, List.getElem_cons_zero, Act.put, List.setIfInBounds_toArray, List.set_cons_zero, List.set_cons_succ]
      refine wpAnyH_take (i := 4) (v := ?_) rfl (by kernel_rfl) (by kernel_rfl) (by kernel_rfl) (fun _ _ _ h => h) (Or.inl ⟨by rfl, ?_⟩) (by assumption) ?_
      rotate_left
      · intro wq hSq
        have hlq := HLD.out wq hSq.blk
        go_simp
        try with_reducible rfl
      simp only [List.getElem_toArray, List.getElem_cons_succ, List.getElem_cons_zero, Act.put, List.setIfInBounds_toArray, List.set_cons_zero, List.set_cons_succ]
      refine wpAnyH_take (i := 5) (v := ?_) rfl (by kernel_rfl) (by kernel_rfl) (by kernel_rfl) (fun _ _ _ h => h) (Or.inl ⟨by rfl, ?_⟩) (by assumption) ?_
      rotate_left
      · intro wq hSq
        have hlq := HLD.out wq hSq.blk
        go_simp
        try with_reducible rfl
      simp only [List.getElem_toArray, List.getElem_cons_succ, List.getElem_cons_zero, Act.put, List.setIfInBounds_toArray, List.set_cons_zero, List.set_cons_succ]
      have hB4 := blk_tri LB2.out
      have hlt : w.heap.size < w1.heap.size := hS1.blk.lt
      have hst : (stA 72 (.pointer (some ⟨w1.heap.size, 0, none⟩)) (.agg (T12 x0 x1 x2 x3 y0 y1 y2 y3 z0 z1 z2 z3).toArray)).run Tryd.prog (w2) = .ok () ((w2).setCells (w1.heap.size) 0 (T12 x0 x1 x2 x3 y0 y1 y2 y3 z0 z1 z2 z3)) := stT hB4 rfl x0 x1 x2 x3 y0 y1 y2 y3 z0 z1 z2 z3
      refine wpAnyH_ready (rs := [7]) (by kernel_rfl) (by simp) ?_
      refine AllReadyH.cons rfl (fun Kq hKq => ?_) AllReadyH.nil
      go_simp
      refine hKq.out _ _ ((hS2).sets hlt HC.out _ _) (fun hS5 => ?_)
      clear hKq Kq
      refine wpAnyH_ready (rs := [8]) (by kernel_rfl) (by simp) ?_
      refine AllReadyH.cons rfl (fun Kq hKq => ?_) AllReadyH.nil
      go_simp
      refine hKq.out _ _ hS5 (fun _ => ?_)
      clear hKq Kq
      refine wpAnyH_done (by kernel_rfl) ?_ _
      have U5 := hide hS5.bl
      clear hS5
      go_wp2
      go_ret
      exact ⟨rfl, U5.out⟩
  · go_simp
    have hS3 := (hS0).alloc (.cells T0.toArray 72)
    refine hKq.out _ _ hS3 (fun _ => ?_)
    clear hKq Kq
    refine wpAnyH_ready (rs := [1]) (by kernel_rfl) (by simp) ?_
    refine AllReadyH.cons rfl (fun Kq hKq => ?_) AllReadyH.nil
    go_simp
    refine (ops_any _ (hS3).cv).mono ?_
    rintro e w1 ⟨b0, b1, b2, b3, rfl, HN, LB⟩
    have HN := hide HN
    have hS1 := (hS3).below LB
    have LB1 := hide LB
    clear LB
    refine hKq.out _ _ hS1 (fun _ => ?_)
    clear hKq Kq
    refine wpAnyH_ready (rs := [2]) (by kernel_rfl) (by simp) ?_
    refine AllReadyH.cons rfl (fun Kq hKq => ?_) AllReadyH.nil
    go_simp
    refine (HSP.out b0 b1 b2 b3 HN.out _ (hS1).cv).mono ?_
    rintro e w2 ⟨x0, x1, x2, x3, y0, y1, y2, y3, z0, z1, z2, z3, rfl, LB⟩
    have hS2 := (hS1).below LB
    have LB2 := hide LB
    clear LB
    refine hKq.out _ _ hS2 (fun _ => ?_)
    clear hKq Kq
    refine wpAnyH_take (i := 3) (v := ?_) rfl (by kernel_rfl) (by kernel_rfl) (by kernel_rfl) (fun _ _ _ h => h) (Or.inl ⟨by rfl, ?_⟩) (by assumption) ?_
    rotate_left
    · intro wq hSq
      have hlq := HLD.out wq hSq.blk
      go_simp
      try with_reducible rfl
    simp only [List.getElem_toArray, List.getElem_cons_succ, List.getElem_cons_zero, Act.put, List.setIfInBounds_toArray, List.set_cons_zero, List.set_cons_succ]
    refine wpAnyH_take (i := 4) (v := ?_) rfl (by kernel_rfl) (by kernel_rfl) (by kernel_rfl) (fun _ _ _ h => h) (Or.inl ⟨by rfl, ?_⟩) (by assumption) ?_
    rotate_left
    · intro wq hSq
      have hlq := HLD.out wq hSq.blk
      go_simp
      try with_reducible rfl
    simp only [List.getElem_toArray, List.getElem_cons_succ, List.getElem_cons_zero, Act.put, List.setIfInBounds_toArray, List.set_cons_zero, List.set_cons_succ]
    refine wpAnyH_take (i := 5) (v := ?_) rfl (by kernel_rfl) (by kernel_rfl) (by kernel_rfl) (fun _ _ _ h => h) (Or.inl ⟨by rfl, ?_⟩) (by assumption) ?_
    rotate_left
    · intro wq hSq
      have hlq := HLD.out wq hSq.blk
      go_simp
      try with_reducible rfl
    simp only [List.getElem_toArray, List.getElem_cons_succ, List.getElem_cons_zero, Act.put, List.setIfInBounds_toArray, List.set_cons_zero, List.set_cons_succ]
    have hB4 := (blk_tri LB1.out).below LB2.out
    have hlt : w.heap.size < V.heap.size := hS0.blk.lt
    have hst : (stA 72 (.pointer (some ⟨V.heap.size, 0, none⟩)) (.agg (T12 x0 x1 x2 x3 y0 y1 y2 y3 z0 z1 z2 z3).toArray)).run Tryd.prog (w2) = .ok () ((w2).setCells (V.heap.size) 0 (T12 x0 x1 x2 x3 y0 y1 y2 y3 z0 z1 z2 z3)) := stT hB4 rfl x0 x1 x2 x3 y0 y1 y2 y3 z0 z1 z2 z3
    refine wpAnyH_ready (rs := [7]) (by kernel_rfl) (by simp) ?_
    refine AllReadyH.cons rfl (fun Kq hKq => ?_) AllReadyH.nil
    go_simp
    refine hKq.out _ _ ((hS2).sets hlt HC.out _ _) (fun hS5 => ?_)
    clear hKq Kq
    refine wpAnyH_ready (rs := [8]) (by kernel_rfl) (by simp) ?_
    refine AllReadyH.cons rfl (fun Kq hKq => ?_) AllReadyH.nil
    go_simp
    refine hKq.out _ _ hS5 (fun _ => ?_)
    clear hKq Kq
    refine wpAnyH_done (by kernel_rfl) ?_ _
    have U5 := hide hS5.bl
    clear hS5
    go_wp2
    go_ret
    exact ⟨rfl, U5.out⟩

end Go.Proofs.YtcijjmncilciiaaDoor
