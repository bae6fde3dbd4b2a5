/-
  Blocks that are known whole, in a list: how they fare as a call runs. No program.
  The field's numbers as the program keeps them, each by its one row of four words; what its small calls answer, told so.
-/
import Derived.Test.YtcijjmncilciiaaDoorZCvOps
import Derived.Test.YtcijjmncilciiaaDoorZCvNeg
namespace Go.Proofs.YtcijjmncilciiaaDoor
open Go.RowKit Go.IntWalk

/-- Each of these blocks holds just these cells; no two are one; what lay below the call's beginning stays. -/
structure Bx (w : World) (bs : List (Nat × TypeId × List Value)) (W : World) : Prop where
  at' : ∀ b ∈ bs, Blk b.2.1 W b.1 b.2.2
  nd : (bs.map Prod.fst).Nodup
  up : ∀ b ∈ bs, w.heap.size ≤ b.1
  bl : Below w.heap.size w W

theorem Bx.get {w W : World} {bs : List (Nat × TypeId × List Value)} (h : Bx w bs W) (k : Nat) {b : Nat × TypeId × List Value} (hk : bs[k]? = some b) : Blk b.2.1 W b.1 b.2.2 := h.at' b (List.mem_of_getElem? hk)
theorem Bx.below {w W V : World} {bs : List (Nat × TypeId × List Value)} (h : Bx w bs W) (b : Below W.heap.size W V) : Bx w bs V := ⟨fun x hx => (h.at' x hx).below b, h.nd, h.up, below_then h.bl b⟩
theorem Bx.drew {w W : World} {bs : List (Nat × TypeId × List Value)} (h : Bx w bs W) : Bx w bs W.drew := ⟨fun x hx => (h.at' x hx).heap rfl, h.nd, h.up, ⟨h.bl.os, h.bl.tape, h.bl.output, h.bl.size, h.bl.block⟩⟩
theorem Bx.pre {w W : World} {bs : List (Nat × TypeId × List Value)} (h : Bx w bs W) (n : Nat) : Bx w (bs.take n) W :=
  ⟨fun x hx => h.at' x (List.mem_of_mem_take hx), by rw [List.map_take]; exact h.nd.sublist (List.take_sublist _ _), fun x hx => h.up x (List.mem_of_mem_take hx), h.bl⟩
theorem Bx.lt {w W : World} {bs : List (Nat × TypeId × List Value)} (h : Bx w bs W) : ∀ g ∈ bs.map Prod.fst, g < W.heap.size := by
  intro g hg
  obtain ⟨b, hb, rfl⟩ := List.mem_map.1 hg
  exact (h.at' b hb).lt

theorem Bx.nil (w : World) : Bx w [] w := ⟨fun x hx => (by cases hx), List.nodup_nil, fun x hx => (by cases hx), Below.refl _ _⟩

/-- A new block, put at place k of the list. -/
theorem Bx.newAt {w W : World} {bs : List (Nat × TypeId × List Value)} (h : Bx w bs W) (k : Nat) (g : Nat) (hg : g = W.heap.size) (T : TypeId) (L : List Value) (C : Array Value) (hC : C = L.toArray) : Bx w (bs.take k ++ (g, T, L) :: bs.drop k) (W.alloc (.cells C T)) := by
  subst hg
  refine ⟨?_, ?_, ?_, below_then h.bl (below1 W _)⟩
  · intro x hx
    rcases List.mem_append.1 hx with hx | hx
    · exact (h.at' x (List.mem_of_mem_take hx)).alloc _
    · rcases List.mem_cons.1 hx with rfl | hx
      · exact Blk.new _ _ _ _ hC rfl
      · exact (h.at' x (List.mem_of_mem_drop hx)).alloc _
  · rw [List.map_append, List.map_cons]
    have hp : (bs.map Prod.fst).Nodup := h.nd
    have hl := h.lt
    have e : bs.map Prod.fst = (bs.take k).map Prod.fst ++ (bs.drop k).map Prod.fst := by rw [← List.map_append, List.take_append_drop]
    rw [e] at hp hl
    rw [List.nodup_append] at hp ⊢
    refine ⟨hp.1, List.nodup_cons.2 ⟨fun hm => ?_, hp.2.1⟩, ?_⟩
    · exact absurd (hl _ (List.mem_append_right _ hm)) (Nat.lt_irrefl _)
    · intro a ha b hb
      rcases List.mem_cons.1 hb with rfl | hb
      · intro e2
        subst e2
        exact absurd (hl _ (List.mem_append_left _ ha)) (Nat.lt_irrefl _)
      · exact hp.2.2 a ha b hb
  · intro x hx
    rcases List.mem_append.1 hx with hx | hx
    · exact h.up x (List.mem_of_mem_take hx)
    · rcases List.mem_cons.1 hx with rfl | hx
      · exact h.bl.size
      · exact h.up x (List.mem_of_mem_drop hx)

/-- The block at place k, put last. -/
theorem Bx.toEnd {w W : World} {bs : List (Nat × TypeId × List Value)} (h : Bx w bs W) (k : Nat) {x : Nat × TypeId × List Value} (hk : bs[k]? = some x) : Bx w (bs.take k ++ bs.drop (k + 1) ++ [x]) W := by
  obtain ⟨hl, hx⟩ := List.getElem?_eq_some_iff.1 hk
  have e : bs = bs.take k ++ x :: bs.drop (k + 1) := by
    rw [← hx, ← List.drop_eq_getElem_cons hl, List.take_append_drop]
  have hp : (bs.take k ++ bs.drop (k + 1) ++ [x]).Perm bs := by
    conv => rhs; rw [e]
    rw [List.append_assoc]
    exact (List.perm_append_left_iff _).2 (List.perm_append_singleton _ _)
  exact ⟨fun y hy => h.at' y (hp.mem_iff.1 hy), (hp.map Prod.fst).nodup_iff.2 h.nd, fun y hy => h.up y (hp.mem_iff.1 hy), h.bl⟩

theorem nodup_ne {l : List Nat} (h : l.Nodup) : ∀ {i j : Nat} {a b : Nat}, l[i]? = some a → l[j]? = some b → i ≠ j → a ≠ b := by
  intro i j a b ha hb hij e
  obtain ⟨hi, ha⟩ := List.getElem?_eq_some_iff.1 ha
  obtain ⟨hj, hb⟩ := List.getElem?_eq_some_iff.1 hb
  exact hij ((List.getElem_inj h).1 (ha.trans (e.trans hb.symm)))

/-- The block at place k, stored over from cell o on. -/
theorem Bx.setMid {w W : World} {bs : List (Nat × TypeId × List Value)} (h : Bx w bs W) (k : Nat) {g : Nat} {T : TypeId} (A X C vs : List Value) (o : Nat) (hk : bs[k]? = some (g, T, A ++ X ++ C)) (ho : A.length = o) (hl : X.length = vs.length) : Bx w (bs.set k (g, T, A ++ vs ++ C)) (W.setCells g o vs) := by
  have hkl := (List.getElem?_eq_some_iff.1 hk).1
  have hg : w.heap.size ≤ g := h.up _ (List.mem_of_getElem? hk)
  refine ⟨?_, ?_, ?_, below_sets h.bl hg h.bl.size _ _⟩
  · intro x hx
    obtain ⟨i, hi⟩ := List.getElem?_of_mem hx
    by_cases e : i = k
    · subst e
      rw [List.getElem?_set_self hkl] at hi
      obtain rfl := Option.some.inj hi
      exact Blk.mid A X C vs o W (h.get i hk) ho hl
    · rw [List.getElem?_set_ne (Ne.symm e)] at hi
      have hne : x.1 ≠ g := nodup_ne h.nd (i := i) (j := k) (by rw [List.getElem?_map, hi]; rfl) (by rw [List.getElem?_map, hk]; rfl) e
      exact (h.at' x (List.mem_of_getElem? hi)).kept (gSets g vs o W).1 (by simpa using hne)
  · rw [List.map_set]
    have e : (bs.map Prod.fst).set k g = bs.map Prod.fst := by
      apply List.ext_getElem?
      intro i
      by_cases ei : i = k
      · subst ei
        rw [List.getElem?_set_self (by simpa using hkl), List.getElem?_map, hk]
        rfl
      · rw [List.getElem?_set_ne (Ne.symm ei)]
    rw [e]
    exact h.nd
  · intro x hx
    rcases List.mem_or_eq_of_mem_set hx with hx | rfl
    · exact h.up x hx
    · exact hg
theorem Bx.setAt {w W : World} {bs : List (Nat × TypeId × List Value)} (h : Bx w bs W) (k : Nat) {g : Nat} {T : TypeId} {Z : List Value} (vs : List Value) (hk : bs[k]? = some (g, T, Z)) (hl : Z.length = vs.length) : Bx w (bs.set k (g, T, vs)) (W.setCells g 0 vs) := by
  have := h.setMid k [] Z [] vs 0 (by simpa using hk) rfl hl
  simpa using this

/-- What a call answers that tells this value and leaves all else. -/
def Ans (v : Value) (w : World) (e : Ending) (w' : World) : Prop := e = .returned v ∧ Below w.heap.size w w'

end Go.Proofs.YtcijjmncilciiaaDoor

namespace Go.Proofs.YtcijjmncilciiaaDoor
open Go.RowKit Go.IntWalk

/-- A number's four cells. -/
def nL (x : Int) : List Value := (W4 x).map (Value.int .u64)
theorem nL_len (x : Int) : (nL x).length = 4 := rfl
theorem nL_one (x : Int) : ∀ v ∈ nL x, v.oneCell' = true := by
  intro v hv
  obtain ⟨i, _, rfl⟩ := List.mem_map.1 hv
  rfl
theorem nw_nL {a0 a1 a2 a3 x : Int} (h : Nw a0 a1 a2 a3 x) : L4 a0 a1 a2 a3 = nL x := by
  unfold nL
  rw [← h.v, W4_of _ _ _ _ h.i0 h.i1 h.i2 h.i3]
  rfl
/-- Boxes that are new. -/
def z4L : List Value := [.int .u64 0, .int .u64 0, .int .u64 0, .int .u64 0]
def z12L : List Value := [.int .u64 0, .int .u64 0, .int .u64 0, .int .u64 0, .int .u64 0, .int .u64 0, .int .u64 0, .int .u64 0, .int .u64 0, .int .u64 0, .int .u64 0, .int .u64 0]
/-- A number of the field. -/
def Nb (x : Int) : Prop := 0 ≤ x ∧ x < PP
theorem nw_at {x : Int} (h : Nb x) : ∃ a0 a1 a2 a3, Nw a0 a1 a2 a3 x := by
  obtain ⟨a0, a1, a2, a3, h0, h1, h2, h3, e⟩ := W4_at x h.1 (Int.lt_trans h.2 PP_RR)
  exact ⟨a0, a1, a2, a3, h0, h1, h2, h3, e.symm, h.2⟩
theorem ldN {T : TypeId} {w : World} {g : Nat} {x : Int} (h : Blk T w g (nL x)) : (ldA 70 (.pointer (some ⟨g, 0, none⟩))).run Tryd.prog w = .ok (.agg (nL x).toArray) w :=
  ldA_all Tryd.underlying70 rfl (by kernel_rfl) h
theorem stN {T : TypeId} {w : World} {g : Nat} {Z : List Value} (h : Blk T w g Z) (hZ : Z.length = 4) (x : Int) : (stA 70 (.pointer (some ⟨g, 0, none⟩)) (.agg (nL x).toArray)).run Tryd.prog w = .ok () (w.setCells g 0 (nL x)) :=
  stA_all (vs := nL x) (by kernel_rfl) h hZ (nL_one x)
theorem stNn (w : World) (x : Int) : (stA 70 (.pointer (some ⟨w.heap.size, 0, none⟩)) (.agg (nL x).toArray)).run Tryd.prog (w.alloc (.cells #[.int .u64 0, .int .u64 0, .int .u64 0, .int .u64 0] 70)) = .ok () (w.alloc (.cells (nL x).toArray 70)) :=
  run_storeAt_new (P := Tryd.prog) w 70 _ (nL x).toArray (by kernel_rfl) rfl (all_oneCell_toArray (nL_one x))

/-- What fieldOperations answers. -/
def doL : List Value := [.func (.func 60) #[] #[], .func (.func 61) #[] #[], .func (.func 62) #[] #[], .func (.func 60) #[.agg (nL BM).toArray] #[], .func (.func 62) #[.agg (nL BM).toArray] #[]]
theorem doL_one : ∀ v ∈ doL, v.oneCell' = true := by
  intro v hv
  simp only [doL, List.mem_cons, List.not_mem_nil, or_false] at hv
  rcases hv with rfl | rfl | rfl | rfl | rfl <;> rfl
theorem opL_doL {b0 b1 b2 b3 : Int} (h : Nw b0 b1 b2 b3 BM) : opL b0 b1 b2 b3 = doL := by
  have e := nw_nL h
  unfold doL
  rw [← e]
  rfl
theorem bm_nb : Nb BM := mm_bd _ _
theorem ldD {T : TypeId} {w : World} {g : Nat} (h : Blk T w g doL) : (ldA 67 (.pointer (some ⟨g, 0, none⟩))).run Tryd.prog w = .ok (.agg doL.toArray) w :=
  ldA_all Tryd.underlying67 rfl (by kernel_rfl) h
theorem stDo (w : World) : (stA 67 (.pointer (some ⟨w.heap.size, 0, none⟩)) (.agg doL.toArray)).run Tryd.prog (w.alloc (.cells #[.nilFunc, .nilFunc, .nilFunc, .nilFunc, .nilFunc] 67)) = .ok () (w.alloc (.cells doL.toArray 67)) :=
  run_storeAt_new (P := Tryd.prog) w 67 _ doL.toArray (by kernel_rfl) rfl (all_oneCell_toArray doL_one)
theorem doC {T : TypeId} {w : World} {g : Nat} (h : Blk T w g doL) :
    w.cell? ⟨g, 0, none⟩ = some (.func (.func 60) #[] #[]) ∧ w.cell? ⟨g, 1, none⟩ = some (.func (.func 61) #[] #[]) ∧ w.cell? ⟨g, 2, none⟩ = some (.func (.func 62) #[] #[]) ∧ w.cell? ⟨g, 3, none⟩ = some (.func (.func 60) #[.agg (nL BM).toArray] #[]) ∧ w.cell? ⟨g, 4, none⟩ = some (.func (.func 62) #[.agg (nL BM).toArray] #[]) := by
  refine ⟨?_, ?_, ?_, ?_, ?_⟩ <;> rw [h.cell] <;> rfl

/-- A triple's twelve cells. -/
def t3 (x y z : Int) : List Value := nL x ++ nL y ++ nL z
theorem t3_one (x y z : Int) : ∀ v ∈ t3 x y z, v.oneCell' = true := by
  intro v hv
  rcases List.mem_append.1 hv with hv | hv
  · rcases List.mem_append.1 hv with hv | hv
    · exact nL_one x v hv
    · exact nL_one y v hv
  · exact nL_one z v hv
theorem ldt3 {T : TypeId} {w : World} {g : Nat} {x y z : Int} (h : Blk T w g (t3 x y z)) :
    (ldA 70 (.pointer (some ⟨g, 0, none⟩))).run Tryd.prog w = .ok (.agg (nL x).toArray) w ∧ (ldA 70 (.pointer (some ⟨g, 4, none⟩))).run Tryd.prog w = .ok (.agg (nL y).toArray) w ∧ (ldA 70 (.pointer (some ⟨g, 8, none⟩))).run Tryd.prog w = .ok (.agg (nL z).toArray) w :=
  ⟨ldA_mid (A := []) (X := nL x) (C := nL y ++ nL z) Tryd.underlying70 rfl (by kernel_rfl) (by rw [List.nil_append, ← List.append_assoc]; exact h) rfl, ldA_mid (A := nL x) (X := nL y) (C := nL z) Tryd.underlying70 rfl (by kernel_rfl) h rfl, ldA_mid (A := nL x ++ nL y) (X := nL z) (C := []) Tryd.underlying70 rfl (by kernel_rfl) (by rw [List.append_nil]; exact h) rfl⟩
theorem ldt {T : TypeId} {w : World} {g : Nat} {x y z : Int} (h : Blk T w g (t3 x y z)) : (ldA 72 (.pointer (some ⟨g, 0, none⟩))).run Tryd.prog w = .ok (.agg (t3 x y z).toArray) w :=
  ldA_all Tryd.underlying72 rfl (by kernel_rfl) h
theorem stt {T : TypeId} {w : World} {g : Nat} {Z : List Value} (h : Blk T w g Z) (hZ : Z.length = 12) (x y z : Int) : (stA 72 (.pointer (some ⟨g, 0, none⟩)) (.agg (t3 x y z).toArray)).run Tryd.prog w = .ok () (w.setCells g 0 (t3 x y z)) :=
  stA_all (vs := t3 x y z) (by kernel_rfl) h hZ (t3_one x y z)
theorem sttn (w : World) (x y z : Int) : (stA 72 (.pointer (some ⟨w.heap.size, 0, none⟩)) (.agg (t3 x y z).toArray)).run Tryd.prog (w.alloc (.cells #[.int .u64 0, .int .u64 0, .int .u64 0, .int .u64 0, .int .u64 0, .int .u64 0, .int .u64 0, .int .u64 0, .int .u64 0, .int .u64 0, .int .u64 0, .int .u64 0] 72)) = .ok () (w.alloc (.cells (t3 x y z).toArray 72)) :=
  run_storeAt_new (P := Tryd.prog) w 72 _ (t3 x y z).toArray (by kernel_rfl) rfl (all_oneCell_toArray (t3_one x y z))

theorem bd_tri (ps : Array (Nat × Value)) : Instr.build 72 ps = bdA 72 ps := rfl
theorem bd3n (x y z : Int) (w : World) : (bdA 72 #[(0, .agg (nL x).toArray), (1, .agg (nL y).toArray), (2, .agg (nL z).toArray)]).run Tryd.prog w = .ok (.agg (t3 x y z).toArray) w := by kernel_rfl

theorem plusN {x y : Int} (hx : Nb x) (hy : Nb y) (w : World) : Calls Tryd.prog 60 #[.agg (nL x).toArray, .agg (nL y).toArray] w (Ans (.agg (nL (pa x y)).toArray) w) := by
  obtain ⟨a0, a1, a2, a3, ha⟩ := nw_at hx
  obtain ⟨b0, b1, b2, b3, hb⟩ := nw_at hy
  rw [← nw_nL ha, ← nw_nL hb]
  refine (plus_any a0 a1 a2 a3 b0 b1 b2 b3 x y ha hb w).mono ?_
  rintro e w1 ⟨r0, r1, r2, r3, rfl, hN, LB⟩
  rw [← nw_nL hN]
  exact ⟨rfl, LB⟩
theorem minusN {x y : Int} (hx : Nb x) (hy : Nb y) (w : World) : Calls Tryd.prog 61 #[.agg (nL x).toArray, .agg (nL y).toArray] w (Ans (.agg (nL (ps x y)).toArray) w) := by
  obtain ⟨a0, a1, a2, a3, ha⟩ := nw_at hx
  obtain ⟨b0, b1, b2, b3, hb⟩ := nw_at hy
  rw [← nw_nL ha, ← nw_nL hb]
  refine (minus_any a0 a1 a2 a3 b0 b1 b2 b3 x y ha hb w).mono ?_
  rintro e w1 ⟨r0, r1, r2, r3, rfl, hN, LB⟩
  rw [← nw_nL hN]
  exact ⟨rfl, LB⟩
theorem timesN {x y : Int} (hx : Nb x) (hy : Nb y) (w : World) : Calls Tryd.prog 62 #[.agg (nL x).toArray, .agg (nL y).toArray] w (Ans (.agg (nL (mm x y)).toArray) w) := by
  obtain ⟨a0, a1, a2, a3, ha⟩ := nw_at hx
  obtain ⟨b0, b1, b2, b3, hb⟩ := nw_at hy
  rw [← nw_nL ha, ← nw_nL hb]
  refine (times_any a0 a1 a2 a3 b0 b1 b2 b3 x y ha hb.i0 hb.i1 hb.i2 hb.i3 hb.v w).mono ?_
  rintro e w1 ⟨r0, r1, r2, r3, rfl, hN, LB⟩
  rw [← nw_nL hN]
  exact ⟨rfl, LB⟩
theorem thriceN {x : Int} (hx : Nb x) (w : World) : Calls Tryd.prog 66 #[.agg doL.toArray, .agg (nL x).toArray] w (Ans (.agg (nL (pa (pa x x) x)).toArray) w) := by
  obtain ⟨a0, a1, a2, a3, ha⟩ := nw_at hx
  obtain ⟨b0, b1, b2, b3, hb⟩ := nw_at bm_nb
  rw [← nw_nL ha, ← opL_doL hb]
  refine (thrice_any b0 b1 b2 b3 a0 a1 a2 a3 x ha w).mono ?_
  rintro e w1 ⟨r0, r1, r2, r3, rfl, hN, LB⟩
  rw [← nw_nL hN]
  exact ⟨rfl, LB⟩
theorem opsN (w : World) (hC : Cv w) : Calls Tryd.prog 27 #[] w (Ans (.agg doL.toArray) w) := by
  refine (ops_any w hC).mono ?_
  rintro e w1 ⟨b0, b1, b2, b3, rfl, hN, LB⟩
  rw [← opL_doL hN]
  exact ⟨rfl, LB⟩
theorem T12_t3 {x0 x1 x2 x3 y0 y1 y2 y3 z0 z1 z2 z3 x y z : Int} (hx : Nw x0 x1 x2 x3 x) (hy : Nw y0 y1 y2 y3 y) (hz : Nw z0 z1 z2 z3 z) : T12 x0 x1 x2 x3 y0 y1 y2 y3 z0 z1 z2 z3 = t3 x y z := by
  unfold t3
  rw [← nw_nL hx, ← nw_nL hy, ← nw_nL hz]
  rfl
theorem gatheredN {x y z : Int} (hx : Nb x) (hy : Nb y) (hz : Nb z) (w : World) (hC : Cv w) : Calls Tryd.prog 31 #[.agg (t3 x y z).toArray, .agg doL.toArray] w (Ans (.agg (pL (gX x z) (gX y z) (decide (z = 0))).toArray) w) := by
  obtain ⟨x0, x1, x2, x3, nx⟩ := nw_at hx
  obtain ⟨y0, y1, y2, y3, ny⟩ := nw_at hy
  obtain ⟨z0, z1, z2, z3, nz⟩ := nw_at hz
  obtain ⟨b0, b1, b2, b3, hb⟩ := nw_at bm_nb
  rw [← T12_t3 nx ny nz, ← opL_doL hb]
  exact gathered_any x0 x1 x2 x3 y0 y1 y2 y3 z0 z1 z2 z3 x y z nx ny nz b0 b1 b2 b3 w hC

theorem mk_rest3 {K : World → Nat → Nat → Nat → Prop} {P : World → Nat → Nat → Nat → Prop} {G : Prop} (h : Hid (∀ W x y z, K W x y z → P W x y z) → G) (k : ∀ W x y z, K W x y z → P W x y z) : G := h k

end Go.Proofs.YtcijjmncilciiaaDoor
