/-
  The statement WithinLies: its walk.
  How a row's argument of type Subtree or General is opened into what the walks are told of it.
-/
import Derived.Deep.RegionHeld3
import Derived.Test.YtcbcdfdicefkoaaGreatDoorYWiRSom
import Derived.Test.YtcbcdfdicefkoaaGreatDoorYWiAll2ToWiBoM
import Derived.Test.YtcbcdfdicefkoaaGreatDoorRows
import Derived.Lib.SmallJoins
import Derived.Test.YtcbcdfdicefkoaaGreatDoorYHoBToBoxSt
import Derived.ProofKit
import Derived.OpenShut
import Derived.ShutString
namespace Go.Proofs.YtcbcdfdicefkoaaGreatDoor
open Go.RowKit Go.Shelf Go.IntWalk

set_option maxRecDepth 100000 in
set_option maxHeartbeats 4000000 in
theorem withinLies_walk (k : Int) (b : List UInt8) (gk : Int) (g : List UInt8) (hk : (Lit.int .i64 gk).wf = true) (hb : b.length ≤ 1048576) (hg : g.length ≤ 1048576) (m : Int) (w : World) (hm : ML w m) :
    Calls Tryz.prog 4 #[.agg #[.int .i64 k, .string (tx b)], .agg #[.int .i64 gk, .string (tx g)]] w fun e w' => e = .returned (.bool true) ∧ Below w.heap.size w w' := by
  have CM := hide (fun W (h : Kp w m W) => mayW_kp w k b hb m W h)
  have CA := hide (fun W (h : Kp w m W) => allW_kp w k b hb gk hk g hg m W h)
  have CS := hide (fun W (h : Kp w m W) => somW_kp w k b hb gk hk g hg m W h)
  have RM : Hid (∀ W, Kp w m W → Calls Tryz.prog 12 #[.agg #[.int .i64 k, .string (tx b)]] W fun e w' => e = .returned (.bool (mayW k b)) ∧ Below W.heap.size W w' ∧ Kp w m w') := fun W h => Calls.mono (rmayT_any k b hb W) fun _ _ ⟨h1, h2⟩ => ⟨h1, h2, h.next h2⟩
  have RA : Hid (∀ W, Kp w m W → Calls Tryz.prog 14 #[.agg #[.int .i64 k, .string (tx b)], .agg #[.int .i64 gk, .string (tx g)]] W fun e w' => e = .returned (.bool (allW k b gk g)) ∧ Below W.heap.size W w' ∧ Kp w m w') := fun W h => (rall_any k b gk g hb hg W).mono fun _ _ ⟨h1, h2⟩ => ⟨h1, h2, h.next h2⟩
  have RS : Hid (∀ W, Kp w m W → Calls Tryz.prog 16 #[.agg #[.int .i64 k, .string (tx b)], .agg #[.int .i64 gk, .string (tx g)]] W fun e w' => e = .returned (.bool (somW k b gk g)) ∧ Below W.heap.size W w' ∧ Kp w m w') := fun W h => (rsome_any k b gk g hb hg W).mono fun _ _ ⟨h1, h2⟩ => ⟨h1, h2, h.next h2⟩
  have CT : Hid (∀ W, Kp w m W → Calls Tryz.prog 10 #[] W fun e w' => e = .returned (.bool true) ∧ Below W.heap.size W w' ∧ Kp w m w') := fun W h => (works14_kp W m W (Kp.refl h.2)).mono fun _ _ ⟨h1, h2⟩ => ⟨h1, h2.1, h.own h2⟩
  generalize mayW k b = M at *
  generalize allW k b gk g = A at *
  generalize somW k b gk g = C at *
  have BX := (nbelowW w (boxS k b)).trans ((nbelowW (w.alloc (boxS k b)) (boxG gk g)).mono (by simp))
  have T0 := two_new w k gk b g
  have KX := (Kp.refl hm).next BX
  unfold boxS boxG at T0 KX
  clear BX hm
  go_enter Tryz.func4, Tryz.ntmps4
  go_wp2_with fail
  refine wp_region_held_drew (S := Two w.heap.size k b gk g) (by kernel_rfl) (T0.below (Below.refl _ _).drew) (fun hS => ?_)
  have KV := KX.next (Below.refl _ _).drew
  clear T0 KX
  generalize ((w.alloc (.cells #[.int .i64 k, .string (tx b)] 25)).alloc (.cells #[.int .i64 gk, .string (tx g)] 27)).drew = X0 at *
  refine wpAnyH_take (i := 0) (v := ?_) rfl (by kernel_rfl) (by kernel_rfl) (by kernel_rfl) (fun _ _ _ h => h) (Or.inl ⟨by rfl, ?_⟩) (by assumption) ?_
  rotate_left
  · intro wq hSq
    obtain ⟨r0, r1, r2, r3⟩ := hSq
    go_simp
    try with_reducible rfl
  simp only [List.getElem_toArray, List.getElem_cons_zero, Act.put, List.setIfInBounds_toArray, List.set_cons_zero, List.set_cons_succ]
  refine wpAnyH_take (i := 2) (v := ?_) rfl (by kernel_rfl) (by kernel_rfl) (by kernel_rfl) (fun _ _ _ h => h) (Or.inl ⟨by rfl, ?_⟩) (by assumption) ?_
  rotate_left
  · intro wq hSq
    obtain ⟨r0, r1, r2, r3⟩ := hSq
    go_simp
    try with_reducible rfl
  simp only [List.getElem_toArray, List.getElem_cons_succ, List.getElem_cons_zero, Act.put, List.setIfInBounds_toArray, List.set_cons_zero, List.set_cons_succ]
  refine wpAnyH_ready (rs := [1]) (by kernel_rfl) (by simp) ?_
  refine AllReadyH.cons rfl (fun Kq hKq => ?_) AllReadyH.nil
  go_simp
  refine (CM.out _ KV).mono ?_
  rintro e vv ⟨rfl, BV, KV'⟩
  replace hS := hS.below BV
  refine hKq.out _ _ hS (fun _ => ?_)
  clear hKq Kq KV BV
  have KV := KV'
  clear KV'
  refine wpAnyH_ready (rs := [3]) (by kernel_rfl) (by simp) ?_
  refine AllReadyH.cons rfl (fun Kq hKq => ?_) AllReadyH.nil
  go_simp
  refine (RM.out _ KV).mono ?_
  rintro e vv ⟨rfl, BV, KV'⟩
  replace hS := hS.below BV
  refine hKq.out _ _ hS (fun _ => ?_)
  clear hKq Kq KV BV
  have KV := KV'
  clear KV'
  refine wpAnyH_take (i := 4) (v := ?_) rfl (by kernel_rfl) (by kernel_rfl) (by kernel_rfl) (fun _ _ _ h => h) (Or.inl ⟨by rfl, ?_⟩) (by assumption) ?_
  rotate_left
  · intro wq hSq
    obtain ⟨r0, r1, r2, r3⟩ := hSq
    go_simp
    try with_reducible rfl
  simp only [List.getElem_toArray, List.getElem_cons_succ, List.getElem_cons_zero, Act.put, List.setIfInBounds_toArray, List.set_cons_zero, List.set_cons_succ]
  refine wpAnyH_take (i := 5) (v := ?_) rfl (by kernel_rfl) (by kernel_rfl) (by kernel_rfl) (fun _ _ _ h => h) (Or.inl ⟨by rfl, ?_⟩) (by assumption) ?_
  rotate_left
  · intro wq hSq
    obtain ⟨r0, r1, r2, r3⟩ := hSq
    go_simp
    try with_reducible rfl
  simp only [List.getElem_toArray, List.getElem_cons_succ, List.getElem_cons_zero, Act.put, List.setIfInBounds_toArray, List.set_cons_zero, List.set_cons_succ]
  refine wpAnyH_take (i := 6) (v := ?_) rfl (by kernel_rfl) (by kernel_rfl) (by kernel_rfl) (fun _ _ _ h => h) (Or.inl ⟨by rfl, ?_⟩) (by assumption) ?_
  rotate_left
  · intro wq hSq
    obtain ⟨r0, r1, r2, r3⟩ := hSq
    go_simp
    try with_reducible rfl
  simp only [List.getElem_toArray, List.getElem_cons_succ, List.getElem_cons_zero, Act.put, List.setIfInBounds_toArray, List.set_cons_zero, List.set_cons_succ]
  refine wpAnyH_take (i := 7) (v := ?_) rfl (by kernel_rfl) (by kernel_rfl) (by kernel_rfl) (fun _ _ _ h => h) (Or.inl ⟨by rfl, ?_⟩) (by assumption) ?_
  rotate_left
  · intro wq hSq
    obtain ⟨r0, r1, r2, r3⟩ := hSq
    go_simp
    try with_reducible rfl
  simp only [List.getElem_toArray, List.getElem_cons_succ, List.getElem_cons_zero, Act.put, List.setIfInBounds_toArray, List.set_cons_zero, List.set_cons_succ]
  refine wpAnyH_take (i := 9) (v := ?_) rfl (by kernel_rfl) (by kernel_rfl) (by kernel_rfl) (fun _ _ _ h => h) (Or.inl ⟨by rfl, ?_⟩) (by assumption) ?_
  rotate_left
  · intro wq hSq
    obtain ⟨r0, r1, r2, r3⟩ := hSq
    go_simp
    try with_reducible rfl
  simp only [List.getElem_toArray, List.getElem_cons_succ, List.getElem_cons_zero, Act.put, List.setIfInBounds_toArray, List.set_cons_zero, List.set_cons_succ]
  refine wpAnyH_take (i := 10) (v := ?_) rfl (by kernel_rfl) (by kernel_rfl) (by kernel_rfl) (fun _ _ _ h => h) (Or.inl ⟨by rfl, ?_⟩) (by assumption) ?_
  rotate_left
  · intro wq hSq
    obtain ⟨r0, r1, r2, r3⟩ := hSq
    go_simp
    try with_reducible rfl
  simp only [List.getElem_toArray, List.getElem_cons_succ, List.getElem_cons_zero, Act.put, List.setIfInBounds_toArray, List.set_cons_zero, List.set_cons_succ]
  refine wpAnyH_ready (rs := [8]) (by kernel_rfl) (by simp) ?_
  refine AllReadyH.cons rfl (fun Kq hKq => ?_) AllReadyH.nil
  go_simp
  refine (CA.out _ KV).mono ?_
  rintro e vv ⟨rfl, BV, KV'⟩
  replace hS := hS.below BV
  refine hKq.out _ _ hS (fun _ => ?_)
  clear hKq Kq KV BV
  have KV := KV'
  clear KV'
  refine wpAnyH_ready (rs := [11]) (by kernel_rfl) (by simp) ?_
  refine AllReadyH.cons rfl (fun Kq hKq => ?_) AllReadyH.nil
  go_simp
  refine (RA.out _ KV).mono ?_
  rintro e vv ⟨rfl, BV, KV'⟩
  replace hS := hS.below BV
  refine hKq.out _ _ hS (fun _ => ?_)
  clear hKq Kq KV BV
  have KV := KV'
  clear KV'
  refine wpAnyH_take (i := 12) (v := ?_) rfl (by kernel_rfl) (by kernel_rfl) (by kernel_rfl) (fun _ _ _ h => h) (Or.inl ⟨by rfl, ?_⟩) (by assumption) ?_
  rotate_left
  · intro wq hSq
    obtain ⟨r0, r1, r2, r3⟩ := hSq
    go_simp
    try with_reducible rfl
  simp only [List.getElem_toArray, List.getElem_cons_succ, List.getElem_cons_zero, Act.put, List.setIfInBounds_toArray, List.set_cons_zero, List.set_cons_succ]
  refine wpAnyH_take (i := 13) (v := ?_) rfl (by kernel_rfl) (by kernel_rfl) (by kernel_rfl) (fun _ _ _ h => h) (Or.inl ⟨by rfl, ?_⟩) (by assumption) ?_
  rotate_left
  · intro wq hSq
    obtain ⟨r0, r1, r2, r3⟩ := hSq
    go_simp
    try with_reducible rfl
  simp only [List.getElem_toArray, List.getElem_cons_succ, List.getElem_cons_zero, Act.put, List.setIfInBounds_toArray, List.set_cons_zero, List.set_cons_succ]
  refine wpAnyH_take (i := 14) (v := ?_) rfl (by kernel_rfl) (by kernel_rfl) (by kernel_rfl) (fun _ _ _ h => h) (Or.inl ⟨by rfl, ?_⟩) (by assumption) ?_
  rotate_left
  · intro wq hSq
    obtain ⟨r0, r1, r2, r3⟩ := hSq
    go_simp
    try with_reducible rfl
  simp only [List.getElem_toArray, List.getElem_cons_succ, List.getElem_cons_zero, Act.put, List.setIfInBounds_toArray, List.set_cons_zero, List.set_cons_succ]
  refine wpAnyH_take (i := 15) (v := ?_) rfl (by kernel_rfl) (by kernel_rfl) (by kernel_rfl) (fun _ _ _ h => h) (Or.inl ⟨by rfl, ?_⟩) (by assumption) ?_
  rotate_left
  · intro wq hSq
    obtain ⟨r0, r1, r2, r3⟩ := hSq
    go_simp
    try with_reducible rfl
  simp only [List.getElem_toArray, List.getElem_cons_succ, List.getElem_cons_zero, Act.put, List.setIfInBounds_toArray, List.set_cons_zero, List.set_cons_succ]
  refine wpAnyH_take (i := 16) (v := ?_) rfl (by kernel_rfl) (by kernel_rfl) (by kernel_rfl) (fun _ _ _ h => h) (Or.inl ⟨by rfl, ?_⟩) (by assumption) ?_
  rotate_left
  · intro wq hSq
    obtain ⟨r0, r1, r2, r3⟩ := hSq
    go_simp
    try with_reducible rfl
  simp only [List.getElem_toArray, List.getElem_cons_succ, List.getElem_cons_zero, Act.put, List.setIfInBounds_toArray, List.set_cons_zero, List.set_cons_succ]
  refine wpAnyH_take (i := 18) (v := ?_) rfl (by kernel_rfl) (by kernel_rfl) (by kernel_rfl) (fun _ _ _ h => h) (Or.inl ⟨by rfl, ?_⟩) (by assumption) ?_
  rotate_left
  · intro wq hSq
    obtain ⟨r0, r1, r2, r3⟩ := hSq
    go_simp
    try with_reducible rfl
  simp only [List.getElem_toArray, List.getElem_cons_succ, List.getElem_cons_zero, Act.put, List.setIfInBounds_toArray, List.set_cons_zero, List.set_cons_succ]
  refine wpAnyH_take (i := 19) (v := ?_) rfl (by kernel_rfl) (by kernel_rfl) (by kernel_rfl) (fun _ _ _ h => h) (Or.inl ⟨by rfl, ?_⟩) (by assumption) ?_
  rotate_left
  · intro wq hSq
    obtain ⟨r0, r1, r2, r3⟩ := hSq
    go_simp
    try with_reducible rfl
  simp only [List.getElem_toArray, List.getElem_cons_succ, List.getElem_cons_zero, Act.put, List.setIfInBounds_toArray, List.set_cons_zero, List.set_cons_succ]
  refine wpAnyH_ready (rs := [17]) (by kernel_rfl) (by simp) ?_
  refine AllReadyH.cons rfl (fun Kq hKq => ?_) AllReadyH.nil
  go_simp
  refine (CS.out _ KV).mono ?_
  rintro e vv ⟨rfl, BV, KV'⟩
  replace hS := hS.below BV
  refine hKq.out _ _ hS (fun _ => ?_)
  clear hKq Kq KV BV
  have KV := KV'
  clear KV'
  refine wpAnyH_ready (rs := [20]) (by kernel_rfl) (by simp) ?_
  refine AllReadyH.cons rfl (fun Kq hKq => ?_) AllReadyH.nil
  go_simp
  refine (RS.out _ KV).mono ?_
  rintro e vv ⟨rfl, BV, KV'⟩
  replace hS := hS.below BV
  refine hKq.out _ _ hS (fun _ => ?_)
  clear hKq Kq KV BV
  have KV := KV'
  clear KV'
  refine wpAnyH_take (i := 21) (v := ?_) rfl (by kernel_rfl) (by kernel_rfl) (by kernel_rfl) (fun _ _ _ h => h) (Or.inl ⟨by rfl, ?_⟩) (by assumption) ?_
  rotate_left
  · intro wq hSq
    obtain ⟨r0, r1, r2, r3⟩ := hSq
    go_simp
    try with_reducible rfl
  simp only [List.getElem_toArray, List.getElem_cons_succ, List.getElem_cons_zero, Act.put, List.setIfInBounds_toArray, List.set_cons_zero, List.set_cons_succ]
  refine wpAnyH_take (i := 22) (v := ?_) rfl (by kernel_rfl) (by kernel_rfl) (by kernel_rfl) (fun _ _ _ h => h) (Or.inl ⟨by rfl, ?_⟩) (by assumption) ?_
  rotate_left
  · intro wq hSq
    obtain ⟨r0, r1, r2, r3⟩ := hSq
    go_simp
    try with_reducible rfl
  simp only [List.getElem_toArray, List.getElem_cons_succ, List.getElem_cons_zero, Act.put, List.setIfInBounds_toArray, List.set_cons_zero, List.set_cons_succ]
  refine wpAnyH_take (i := 23) (v := ?_) rfl (by kernel_rfl) (by kernel_rfl) (by kernel_rfl) (fun _ _ _ h => h) (Or.inl ⟨by rfl, ?_⟩) (by assumption) ?_
  rotate_left
  · intro wq hSq
    obtain ⟨r0, r1, r2, r3⟩ := hSq
    go_simp
    try with_reducible rfl
  simp only [List.getElem_toArray, List.getElem_cons_succ, List.getElem_cons_zero, Act.put, List.setIfInBounds_toArray, List.set_cons_zero, List.set_cons_succ]
  refine wpAnyH_ready (rs := [24]) (by kernel_rfl) (by simp) ?_
  refine AllReadyH.cons rfl (fun Kq hKq => ?_) AllReadyH.nil
  go_simp
  refine (CT.out _ KV).mono ?_
  rintro e vv ⟨rfl, BV, KV'⟩
  replace hS := hS.below BV
  refine hKq.out _ _ hS (fun _ => ?_)
  clear hKq Kq KV BV
  have KV := KV'
  clear KV'
  refine wpAnyH_take (i := 25) (v := ?_) rfl (by kernel_rfl) (by kernel_rfl) (by kernel_rfl) (fun _ _ _ h => h) (Or.inl ⟨by rfl, ?_⟩) (by assumption) ?_
  rotate_left
  · intro wq hSq
    obtain ⟨r0, r1, r2, r3⟩ := hSq
    go_simp
    try with_reducible rfl
  simp only [List.getElem_toArray, List.getElem_cons_succ, List.getElem_cons_zero, Act.put, List.setIfInBounds_toArray, List.set_cons_zero, List.set_cons_succ]
  refine wpAnyH_take (i := 26) (v := ?_) rfl (by kernel_rfl) (by kernel_rfl) (by kernel_rfl) (fun _ _ _ h => h) (Or.inl ⟨by rfl, ?_⟩) (by assumption) ?_
  rotate_left
  · intro wq hSq
    obtain ⟨r0, r1, r2, r3⟩ := hSq
    go_simp
    try with_reducible rfl
  simp only [List.getElem_toArray, List.getElem_cons_succ, List.getElem_cons_zero, Act.put, List.setIfInBounds_toArray, List.set_cons_zero, List.set_cons_succ]
  refine wpAnyH_done (by kernel_rfl) ?_ _
  clear hS
  go_wp2
  go_ret
  exact ⟨rfl, KV.1⟩

end Go.Proofs.YtcbcdfdicefkoaaGreatDoor

namespace Go.Proofs.YtcbcdfdicefkoaaGreatDoor
open Go.ChangeShapes Go.WideShapes Go.ChangeAt Go.RowKit Go.Joins

theorem Tryz.laidOutG : laidOutB Tryz.prog = true := by kernel_rfl

theorem Tryz.cellssubtree : Tryz.prog.cellsOf 25 = 2 := by kernel_rfl

set_option maxRecDepth 100000 in
theorem open_subtree {H : Type} {enc : TypeId × Value → H} {W : World} {r : Reach} {b0 : Nat} {v : Value} {d : DataW H} {p : List MemPlace}
    (hv : Value.okWide Tryz.prog W r b0 25 v) (h : DataW.Trod enc Tryz.prog W 0 (fun _ => true) true 25 v d p) :
    ∃ t s, v = .agg #[.int .i64 t, .string s] ∧ (Lit.int .i64 t).wf = true ∧ s.size ≤ Rows.uptoBulk d := by
  obtain ⟨v0, v1, y0, y1, m, rfl, rfl, rfl, hy0, hy1⟩ := open_agg2 Tryz.underlying25 (by kernel_rfl) Tryz.cellssubtree hv h
  obtain ⟨t, e0, hy, hwf⟩ := DataW.trod_int Tryz.underlying3 hy0
  simp only [List.cons.injEq, and_true] at e0
  subst e0
  obtain ⟨s, e1, hz, _⟩ := DataW.trod_string Tryz.underlying9 hy1
  simp only [List.cons.injEq, and_true] at e1
  subst e1
  refine ⟨t, s, rfl, hwf, ?_⟩
  have h8 := sizeH_len s
  rw [hz]
  simp only [Rows.uptoBulk, Rows.uptoBulkAll]
  omega

theorem Tryz.cellsgeneral : Tryz.prog.cellsOf 27 = 2 := by kernel_rfl

set_option maxRecDepth 100000 in
theorem open_general {H : Type} {enc : TypeId × Value → H} {W : World} {r : Reach} {b0 : Nat} {v : Value} {d : DataW H} {p : List MemPlace}
    (hv : Value.okWide Tryz.prog W r b0 27 v) (h : DataW.Trod enc Tryz.prog W 0 (fun _ => true) true 27 v d p) :
    ∃ t s, v = .agg #[.int .i64 t, .string s] ∧ (Lit.int .i64 t).wf = true ∧ s.size ≤ Rows.uptoBulk d := by
  obtain ⟨v0, v1, y0, y1, m, rfl, rfl, rfl, hy0, hy1⟩ := open_agg2 Tryz.underlying27 (by kernel_rfl) Tryz.cellsgeneral hv h
  obtain ⟨t, e0, hy, hwf⟩ := DataW.trod_int Tryz.underlying3 hy0
  simp only [List.cons.injEq, and_true] at e0
  subst e0
  obtain ⟨s, e1, hz, _⟩ := DataW.trod_string Tryz.underlying9 hy1
  simp only [List.cons.injEq, and_true] at e1
  subst e1
  refine ⟨t, s, rfl, hwf, ?_⟩
  have h8 := sizeH_len s
  rw [hz]
  simp only [Rows.uptoBulk, Rows.uptoBulkAll]
  omega

end Go.Proofs.YtcbcdfdicefkoaaGreatDoor
