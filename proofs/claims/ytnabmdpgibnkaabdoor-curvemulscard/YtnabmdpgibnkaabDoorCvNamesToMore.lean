/-
  The law's names.
  Boxes, rows and bytes across the worlds that a walk goes through. Plain facts.
-/
import Derived.Test.YtnabmdpgibnkaabDoorCvOwnToCvBase
import Derived.Test.YtnabmdpgibnkaabDoorBts
namespace Go.Proofs.YtnabmdpgibnkaabDoor
open Go.RowKit Go.IntWalk
attribute [local go_sem ↓] ld_num st_num ld_pln st_pln ld_ops st_ops ld_pnt st_pnt ld_dig st_dig ld_tri st_tri eq_num ne_num eq_pnt ne_pnt bd_pnt ld_F st_F eq_F ld_a32 st_a32 ld_rpt st_rpt eq_rpt bd_rpt eq_dgs

theorem eqDg (X Y : List Int) (hX : X.length = 32) (hY : Y.length = 32) (w : World) : (eqA 24 (.agg (bV X).toArray) (.agg (bV Y).toArray)).run Tryd.prog w = .ok (.bool (decide (X = Y))) w := by
  obtain ⟨inf, hinf⟩ := info_u8
  exact eqA_arr Tryd.underlying24 Tryd.underlying5 hinf (by kernel_rfl) X Y hX hY w
theorem eqDs (X : List Int) (hX : X.length = 32) (w : World) : (eqA 24 (.agg (bV X).toArray) (.agg (bV X).toArray)).run Tryd.prog w = .ok (.bool true) w := by
  rw [eqDg X X hX hX w, decide_eq_true rfl]

theorem same_self (X Y : List Int) (f : Bool) (hX : X.length = 32) (hY : Y.length = 32) (w : World) :
    Calls Tryd.prog 18 #[.agg (pL X Y f).toArray, .agg (pL X Y f).toArray] w fun e w' => e = .returned (.bool true) ∧ Below w.heap.size w w' := by
  refine (same_any X Y X Y f f hX hY hX hY w).mono ?_
  rintro e w1 ⟨rfl, LB⟩
  exact ⟨by rw [decide_eq_true ⟨rfl, rfl, rfl⟩], LB⟩

set_option maxRecDepth 100000 in
set_option maxHeartbeats 1000000 in
theorem names_any (w : World) (hC : Cn w) :
    Calls Tryd.prog 14 #[] w fun e w' => e = .returned (.bool true) ∧ Below w.heap.size w w' := by
  have HF : Hid (∀ W, Calls Tryd.prog 42 #[] W fun e w' => e = .returned (.agg (bV (be PP)).toArray) ∧ Below W.heap.size W w') := field_any
  have HO : Hid (∀ W, Cn W → Calls Tryd.prog 22 #[] W fun e w' => e = .returned (.agg (bV (be NN)).toArray) ∧ Below W.heap.size W w') := order_any
  have HP : Hid (∀ W, Calls Tryd.prog 44 #[] W fun e w' => e = .returned (.agg (fV pW).toArray) ∧ Below W.heap.size W w') := rpW_any
  have HN : Hid (∀ W, Calls Tryd.prog 45 #[] W fun e w' => e = .returned (.agg (fV nW).toArray) ∧ Below W.heap.size W w') := rnW_any
  have HTP : Hid (∀ W, Calls Tryd.prog 43 #[.agg (fV pW).toArray] W fun e w' => e = .returned (.agg (bV (be PP)).toArray) ∧ Below W.heap.size W w') := fun W => rto_any pW PP fw_pW W
  have HTN : Hid (∀ W, Calls Tryd.prog 43 #[.agg (fV nW).toArray] W fun e w' => e = .returned (.agg (bV (be NN)).toArray) ∧ Below W.heap.size W w') := fun W => rto_any nW NN fw_nW W
  have HB : Hid (∀ W, Cn W → Calls Tryd.prog 21 #[] W fun e w' => e = .returned (.agg (pL (be GX) (be GY) false).toArray) ∧ Below W.heap.size W w') := base_any
  have HRB : Hid (∀ W, Calls Tryd.prog 46 #[] W fun e w' => e = .returned (.agg (pL (be GX) (be GY) false).toArray) ∧ Below W.heap.size W w') := rbase_any
  have HSM : Hid (∀ W, Calls Tryd.prog 18 #[.agg (pL (be GX) (be GY) false).toArray, .agg (pL (be GX) (be GY) false).toArray] W fun e w' => e = .returned (.bool true) ∧ Below W.heap.size W w') := fun W => same_self _ _ _ (be_len GX) (be_len GY) W
  have e1 := eqDs (be PP) (be_len PP)
  have e2 := eqDs (be NN) (be_len NN)
  generalize bV (be PP) = DP at *
  generalize bV (be NN) = DN at *
  generalize pL (be GX) (be GY) false = LG at *
  generalize fV pW = LP at *
  generalize fV nW = LN at *
  have HC := hide hC
  clear hC
  go_enter Tryd.func14, Tryd.ntmps14
  go_wp2_with (first | (go_at_call 42; refine (HF.out _).mono ?_; rintro e w1 ⟨rfl, LB⟩; have U1 := hide LB; have C1 := hide (HC.out.below LB); clear LB) | (go_at_call 44; refine (HP.out _).mono ?_; rintro e w2 ⟨rfl, LB⟩; have U2 := hide (below_then U1.out LB); have C2 := hide (C1.out.below LB); clear LB) | (go_at_call_of 43 LP; refine (HTP.out _).mono ?_; rintro e w3 ⟨rfl, LB⟩; have U3 := hide (below_then U2.out LB); have C3 := hide (C2.out.below LB); clear LB) | (go_at_call 22; refine (HO.out _ C3.out).mono ?_; rintro e w4 ⟨rfl, LB⟩; have U4 := hide (below_then U3.out LB); have C4 := hide (C3.out.below LB); clear LB) | (go_at_call 45; refine (HN.out _).mono ?_; rintro e w5 ⟨rfl, LB⟩; have U5 := hide (below_then U4.out LB); have C5 := hide (C4.out.below LB); clear LB) | (go_at_call_of 43 LN; refine (HTN.out _).mono ?_; rintro e w6 ⟨rfl, LB⟩; have U6 := hide (below_then U5.out LB); have C6 := hide (C5.out.below LB); clear LB) | (go_at_call 21; refine (HB.out _ C6.out).mono ?_; rintro e w7 ⟨rfl, LB⟩; have U7 := hide (below_then U6.out LB); clear LB) | (go_at_call 46; refine (HRB.out _).mono ?_; rintro e w8 ⟨rfl, LB⟩; have U8 := hide (below_then U7.out LB); clear LB) | (go_at_call 18; refine (HSM.out _).mono ?_; rintro e w9 ⟨rfl, LB⟩; have U9 := hide (below_then U8.out LB); clear LB))
  go_ret
  exact ⟨rfl, U9.out⟩

end Go.Proofs.YtnabmdpgibnkaabDoor

namespace Go.Proofs.YtnabmdpgibnkaabDoor
open Go.RowKit Go.IntWalk

theorem bcell {W w1 : World} (hb : Below W.heap.size W w1) : (∀ b o, b < W.heap.size → w1.cell? ⟨b, o, none⟩ = W.cell? ⟨b, o, none⟩) ∧ (∀ b o, b < W.heap.size → w1.frozen? ⟨b, o, none⟩ = W.frozen? ⟨b, o, none⟩) :=
  ⟨fun b o h => hb.cell (p := ⟨b, o, none⟩) h, fun b o h => hb.frozen (p := ⟨b, o, none⟩) h⟩

theorem OwnB.toSrc {w : World} {base m c : Nat} {ao : Option Addr} {xs : List Int} (h : OwnB w base (.slice ao m c) xs) (hb : ∀ x ∈ xs, 0 ≤ x ∧ x < 256) : Src w ao m c xs := by
  rcases h.split with ⟨he, hx⟩ | ⟨g, cap, he, h1, h2, h3, h4⟩
  · simp at he
    obtain ⟨rfl, rfl, rfl⟩ := he
    subst hx
    exact ⟨rfl, Nat.le_refl _, by decide, fun _ => ⟨rfl, rfl⟩, fun h => absurd rfl h, by simp⟩
  · simp at he
    obtain ⟨rfl, rfl, rfl⟩ := he
    exact h.src hb _ (Nat.le_refl _) (by simp) h4

/-- A box of two cells: a number and a value; neither is frozen. -/
structure Box (w : World) (b : Nat) (t : Int) (v : Value) : Prop where
  c0 : w.cell? ⟨b, 0, none⟩ = some (.int .i64 t)
  c1 : w.cell? ⟨b, 1, none⟩ = some v
  lt : b < w.heap.size
  fz : ∀ o, w.frozen? ⟨b, o, none⟩ = false

theorem Box.newAt (w : World) (b : Nat) (t : Int) (v : Value) (T : TypeId) (h : b = w.heap.size) : Box (w.alloc (.cells #[.int .i64 t, v] T)) b t v := by
  subst h
  exact ⟨by simp, by simp, by simp, by simp⟩
theorem Box.new (w : World) (t : Int) (v : Value) (T : TypeId) : Box (w.alloc (.cells #[.int .i64 t, v] T)) w.heap.size t v := Box.newAt w _ t v T rfl
theorem Box.below {w w' : World} {b : Nat} {t : Int} {v : Value} (h : Box w b t v) (hb : Below w.heap.size w w') : Box w' b t v :=
  ⟨(hb.cell (p := ⟨b, 0, none⟩) h.lt).trans h.c0, (hb.cell (p := ⟨b, 1, none⟩) h.lt).trans h.c1, Nat.lt_of_lt_of_le h.lt hb.size, fun o => (hb.frozen (p := ⟨b, o, none⟩) h.lt).trans (h.fz o)⟩
theorem Box.heap {w w' : World} {b : Nat} {t : Int} {v : Value} (h : Box w b t v) (e : w'.heap = w.heap) : Box w' b t v := by
  obtain ⟨h1, h2, h3, h4⟩ := h
  exact ⟨by unfold World.cell? at *; rw [e]; exact h1, by unfold World.cell? at *; rw [e]; exact h2, by rw [e]; exact h3, fun o => by have := h4 o; unfold World.frozen? at *; rw [e]; exact this⟩
theorem Box.belowH {w W w' : World} {b : Nat} {t : Int} {v : Value} (h : Box w b t v) (hb : Below W.heap.size W w') (e : W.heap = w.heap) : Box w' b t v := (h.heap e).below hb
theorem Box.alloc {w : World} {b : Nat} {t : Int} {v : Value} (h : Box w b t v) (o : Obj) : Box (w.alloc o) b t v := h.below ((Below.refl _ _).alloc (Nat.le_refl _) _)
theorem Box.grown {w w' : World} {b : Nat} {t : Int} {v : Value} {row : Option Nat} (h : Box w b t v) (hg : w.grownBy w' row) (hne : some b ≠ row) : Box w' b t v :=
  ⟨hg.cell h.c0 hne, hg.cell h.c1 hne, Nat.lt_of_lt_of_le h.lt hg.size, fun o => (World.frozen?_of_block (hg.block b h.lt hne)).trans (h.fz o)⟩

theorem OwnB.lt {w : World} {base : Nat} {v : Value} {xs : List Int} (h : OwnB w base v xs) : ∀ k, v.ownBlock = some k → base ≤ k ∧ k < w.heap.size := World.ownsRow.lt h

theorem OwnB.belowA {w w' : World} {base : Nat} {v : Value} {xs : List Int} (h : OwnB w base v xs) (hb : Below w.heap.size w w') : OwnB w' base v xs :=
  h.below hb (fun k hk => (h.lt k hk).2)

/-- Bytes that lie at or above a block number, or below it, are apart from a row that lies elsewhere. -/
theorem Src.apart {w w' : World} {ao : Option Addr} {n cap : Nat} {xs : List Int} {v : Value} (h : Src w ao n cap xs) (hg : w.grownBy w' v.ownBlock)
    (hne : ∀ b off, ao = some ⟨b, off, none⟩ → xs ≠ [] → v.ownBlock ≠ some b) : Src w' ao n cap xs :=
  h.grown hg fun b off he hx h' => hne b off he hx h'.symm

theorem own_apart {w u : World} {base base' n m c c' : Nat} {a a' : Option Addr} {xs ys : List Int} (h : OwnB w base (.slice a n c) xs) (h' : OwnB u base' (.slice a' m c') ys) (hlt : w.heap.size ≤ base') :
    ∀ b off, a' = some ⟨b, off, none⟩ → ys ≠ [] → (Value.slice a n c).ownBlock ≠ some b := by
  intro b off he _ hk
  subst he
  have h1 := (h.lt b hk).2
  have h2 := (h'.lt b rfl).1
  omega

theorem OwnB.ne_row {w : World} {base : Nat} {v : Value} {xs : List Int} (h : OwnB w base v xs) {b : Nat} (hb : b < base ∨ w.heap.size ≤ b) : some b ≠ v.ownBlock := by
  intro he
  have := h.lt b he.symm
  omega

theorem Src.blk {w : World} {ao : Option Addr} {n cap : Nat} {xs : List Int} (h : Src w ao n cap xs) : ∀ b off, ao = some ⟨b, off, none⟩ → xs ≠ [] → b < w.heap.size := by
  intro b off he hx
  obtain ⟨b', off', he', hc⟩ := h.hrd hx
  rw [he] at he'
  simp at he'
  obtain ⟨rfl, rfl⟩ := he'
  exact lt_of_cell (hc 0 (by cases xs with | nil => exact absurd rfl hx | cons a r => simp))

theorem Src.belowH {w W w' : World} {ao : Option Addr} {n cap : Nat} {xs : List Int} (h : Src w ao n cap xs) (hb : Below W.heap.size W w') (e : W.heap = w.heap) : Src w' ao n cap xs := (h.heap e).below hb

theorem step_below {B : Nat} {w a w' : World} (h : Below B w a) (hB : B ≤ a.heap.size) (o : Obj) (hb : Below (a.alloc o).heap.size (a.alloc o) w') : Below B w w' :=
  (h.alloc hB o).trans (hb.mono (by simp; omega))

/-- A world that has drawn more, and no more. -/
structure Drawn (w W : World) : Prop where
  os : W.os = w.os
  tape : W.tape = w.tape
  output : W.output = w.output
  heap : W.heap = w.heap

theorem Drawn.refl (w : World) : Drawn w w := ⟨rfl, rfl, rfl, rfl⟩
theorem Drawn.more {w W : World} (h : Drawn w W) (q : Nat) : Drawn w (W.drewN q) := ⟨h.os, h.tape, h.output, h.heap⟩
theorem Drawn.cell {w W : World} (h : Drawn w W) (a : Addr) : W.cell? a = w.cell? a := by unfold World.cell?; rw [h.heap]
theorem Drawn.below {w W w0 : World} {B : Nat} (h : Drawn w W) (hb : Below B w0 w) : Below B w0 W := ⟨h.os.trans hb.os, h.tape.trans hb.tape, h.output.trans hb.output, by rw [h.heap]; exact hb.size, fun k hk => by rw [h.heap]; exact hb.block k hk⟩

end Go.Proofs.YtnabmdpgibnkaabDoor
