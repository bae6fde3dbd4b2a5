/-
  The statement WithinBoth: its walk.
  How a row's argument of type Subtree or General is opened into what the walks are told of it.
-/
import Derived.Deep.RegionHeld3
import Derived.Test.YtcbcdfdicefkoaaGreatDoorXWiNmToWiThere
import Derived.Test.YtcbcdfdicefkoaaGreatDoorRows
import Derived.Lib.SmallJoins
import Derived.Test.YtcbcdfdicefkoaaGreatDoorXHoMToHoB
import Derived.ProofKit
import Derived.OpenShut
import Derived.ShutString
namespace Go.Proofs.YtcbcdfdicefkoaaGreatDoor
open Go.RowKit Go.Shelf Go.IntWalk

set_option maxRecDepth 100000 in
set_option maxHeartbeats 4000000 in
theorem withinBoth_walk (k : Int) (b : List UInt8) (gk : Int) (g u : List UInt8) (hk : (Lit.int .i64 gk).wf = true) (hb : b.length ≤ 1048576) (hg : g.length ≤ 1048576) (hu : u.length ≤ 1048576) (m : Int) (w : World) (hm : ML w m) :
    Calls Tryz.prog 6 #[.agg #[.int .i64 k, .string (tx b)], .agg #[.int .i64 gk, .string (tx g)], .string (tx u)] w fun e w' => e = .returned (.bool true) ∧ Below w.heap.size w w' := by
  have CA := hide (fun W (h : Kp w m W) => allW_kp w k b hb gk hk g hg m W h)
  have CS := hide (fun W (h : Kp w m W) => somW_kp w k b hb gk hk g hg m W h)
  have CI := hide (fun W (h : Kp w m W) => allW_kp w k b hb 2 (by decide) u hu m W h)
  have CM := hide (fun W (h : Kp w m W) => mayW_kp w k b hb m W h)
  have CG := hide (fun W (h : Kp w m W) => mayG_kp w gk hk g hg m W h)
  have CW : Hid (∀ W, Kp w m W → Calls Tryz.prog 21 #[.string (tx g)] W fun e w' => e = .returned (.bool (wildL g)) ∧ Below W.heap.size W w' ∧ Kp w m w') := fun W h => (wild_any g hg m W h.2).mono fun _ _ ⟨h1, h2⟩ => ⟨h1, h2, h.next h2⟩
  have CX : Hid (∀ W, Kp w m W → Calls Tryz.prog 23 #[.string (tx g), .string (tx u)] W fun e w' => e = .returned (.bool (matchL g u)) ∧ Below W.heap.size W w' ∧ Kp w m w') := fun W h => (match_any g u hg hu m W h.2).mono fun _ _ ⟨h1, h2⟩ => ⟨h1, h2, h.next h2⟩
  have CT := hide (fun W (h : Kp w m W) => there_kp w m W h)
  obtain ⟨f1, f2, f3⟩ := both_some (k := k) (b := b) (gk := gk) (s := g)
  have F1 := hide f1
  have F2 := hide f2
  have F3 := hide f3
  have HIN : Hid (gk = 2 → matchL g u = true → (allW k b gk g = true → allW k b 2 u = true) ∧ (allW k b 2 u = true → somW k b gk g = true)) := fun h hx => by
    subst h
    exact both_match hx
  have BX := (nbelowW w (boxS k b)).trans ((nbelowW (w.alloc (boxS k b)) (boxG gk g)).mono (by simp))
  have T0 := two_new w k gk b g
  have KX := (Kp.refl hm).next BX
  unfold boxS boxG at T0 KX
  clear BX f1 f2 f3 hm
  generalize allW k b gk g = A at *
  generalize somW k b gk g = C at *
  generalize allW k b 2 u = I at *
  generalize mayW k b = M at *
  generalize mayG gk g = G at *
  generalize wildL g = Wd at *
  generalize matchL g u = X at *
  go_enter Tryz.func6, Tryz.ntmps6
  go_wp2_with fail
  refine wp_region_held_drew (S := Two w.heap.size k b gk g) (by kernel_rfl) (T0.below (Below.refl _ _).drew) (fun hS => ?_)
  have KV := KX.next (Below.refl _ _).drew
  clear T0 KX
  generalize ((w.alloc (.cells #[.int .i64 k, .string (tx b)] 25)).alloc (.cells #[.int .i64 gk, .string (tx g)] 27)).drew = X0 at *
  refine wpAnyH_take (i := 0) (v := ?_) rfl (by kernel_rfl) (by kernel_rfl) (by kernel_rfl) (fun _ _ _ h => h) (Or.inl ⟨by rfl, ?_⟩) (by assumption) ?_
  rotate_left
  · intro wq hSq
    obtain ⟨r0, r1, r2, r3⟩ := hSq
    go_simp
    try with_reducible rfl
  simp only [List.getElem_toArray, List.getElem_cons_zero, Act.put, List.setIfInBounds_toArray, List.set_cons_zero, List.set_cons_succ]
  refine wpAnyH_take (i := 1) (v := ?_) rfl (by kernel_rfl) (by kernel_rfl) (by kernel_rfl) (fun _ _ _ h => h) (Or.inl ⟨by rfl, ?_⟩) (by assumption) ?_
  rotate_left
  · intro wq hSq
    obtain ⟨r0, r1, r2, r3⟩ := hSq
    go_simp
    try with_reducible rfl
  simp only [List.getElem_toArray, List.getElem_cons_succ, List.getElem_cons_zero, Act.put, List.setIfInBounds_toArray, List.set_cons_zero, List.set_cons_succ]
  refine wpAnyH_take (i := 3) (v := ?_) rfl (by kernel_rfl) (by kernel_rfl) (by kernel_rfl) (fun _ _ _ h => h) (Or.inl ⟨by rfl, ?_⟩) (by assumption) ?_
  rotate_left
  · intro wq hSq
    obtain ⟨r0, r1, r2, r3⟩ := hSq
    go_simp
    try with_reducible rfl
  simp only [List.getElem_toArray, List.getElem_cons_succ, List.getElem_cons_zero, Act.put, List.setIfInBounds_toArray, List.set_cons_zero, List.set_cons_succ]
  refine wpAnyH_take (i := 4) (v := ?_) rfl (by kernel_rfl) (by kernel_rfl) (by kernel_rfl) (fun _ _ _ h => h) (Or.inl ⟨by rfl, ?_⟩) (by assumption) ?_
  rotate_left
  · intro wq hSq
    obtain ⟨r0, r1, r2, r3⟩ := hSq
    go_simp
    try with_reducible rfl
  simp only [List.getElem_toArray, List.getElem_cons_succ, List.getElem_cons_zero, Act.put, List.setIfInBounds_toArray, List.set_cons_zero, List.set_cons_succ]
  refine wpAnyH_ready (rs := [2]) (by kernel_rfl) (by simp) ?_
  refine AllReadyH.cons rfl (fun Kq hKq => ?_) AllReadyH.nil
  go_simp
  refine (CA.out _ KV).mono ?_
  rintro e vv ⟨rfl, BV, KV'⟩
  replace hS := hS.below BV
  refine hKq.out _ _ hS (fun _ => ?_)
  clear hKq Kq KV BV
  have KV := KV'
  clear KV'
  refine wpAnyH_ready (rs := [5]) (by kernel_rfl) (by simp) ?_
  refine AllReadyH.cons rfl (fun Kq hKq => ?_) AllReadyH.nil
  go_simp
  refine (CS.out _ KV).mono ?_
  rintro e vv ⟨rfl, BV, KV'⟩
  replace hS := hS.below BV
  refine hKq.out _ _ hS (fun _ => ?_)
  clear hKq Kq KV BV
  have KV := KV'
  clear KV'
  refine wpAnyH_take (i := 6) (v := ?_) rfl (by kernel_rfl) (by kernel_rfl) (by kernel_rfl) (fun _ _ _ h => h) (Or.inl ⟨by rfl, ?_⟩) (by assumption) ?_
  rotate_left
  · intro wq hSq
    obtain ⟨r0, r1, r2, r3⟩ := hSq
    go_simp
    try with_reducible rfl
  simp only [List.getElem_toArray, List.getElem_cons_succ, List.getElem_cons_zero, Act.put, List.setIfInBounds_toArray, List.set_cons_zero, List.set_cons_succ]
  refine wpAnyH_take (i := 7) (v := ?_) rfl (by kernel_rfl) (by kernel_rfl) (by kernel_rfl) (fun _ _ _ h => h) (Or.inl ⟨by rfl, ?_⟩) (by assumption) ?_
  rotate_left
  · intro wq hSq
    obtain ⟨r0, r1, r2, r3⟩ := hSq
    go_simp
    try with_reducible rfl
  simp only [List.getElem_toArray, List.getElem_cons_succ, List.getElem_cons_zero, Act.put, List.setIfInBounds_toArray, List.set_cons_zero, List.set_cons_succ]
  refine wpAnyH_done (by kernel_rfl) ?_ _
  have TV := hS
  clear hS
  cases C with
  | false =>
    cases A with
    | true => cases F1.out rfl
    | false =>
      clear F1 F2 F3 CA CS CM CG CW
      by_cases h2 : gk = 2
      · subst h2
        have i2 : ((2 : Int) != 2) = false := rfl
        cases hX : X with
        | false =>
          rw [hX] at CX
          clear hX
          have s0 := TV.s0
          have s1 := TV.s1
          have g0 := TV.g0
          have g1 := TV.g1
          go_wp2_with fail
          refine (CX.out _ KV).mono ?_
          rintro e vv ⟨rfl, BV, KV'⟩
          replace TV := TV.below BV
          clear KV BV s0 s1 g0 g1
          have KV := KV'
          clear KV'
          have s0 := TV.s0
          have s1 := TV.s1
          have g0 := TV.g0
          have g1 := TV.g1
          go_wp2_with fail
          refine (CT.out _ KV).mono ?_
          rintro e vz ⟨rfl, KZ⟩
          clear s0 s1 g0 g1
          go_wp2
          go_ret
          exact ⟨rfl, KZ.1⟩
        | true =>
          have hin := hide (HIN.out rfl hX)
          rw [hX] at CX
          clear hX HIN
          have s0 := TV.s0
          have s1 := TV.s1
          have g0 := TV.g0
          have g1 := TV.g1
          go_wp2_with fail
          refine (CX.out _ KV).mono ?_
          rintro e vv ⟨rfl, BV, KV'⟩
          replace TV := TV.below BV
          clear KV BV s0 s1 g0 g1
          have KV := KV'
          clear KV'
          cases I with
          | true =>
            have s0 := TV.s0
            have s1 := TV.s1
            have g0 := TV.g0
            have g1 := TV.g1
            go_wp2_with fail
            refine (CI.out _ KV).mono ?_
            rintro e vv ⟨rfl, BV, KV'⟩
            replace TV := TV.below BV
            clear KV BV s0 s1 g0 g1
            have KV := KV'
            clear KV'
            cases hin.out.2 (by trivial)
          | false =>
            have s0 := TV.s0
            have s1 := TV.s1
            have g0 := TV.g0
            have g1 := TV.g1
            go_wp2_with fail
            refine (CI.out _ KV).mono ?_
            rintro e vv ⟨rfl, BV, KV'⟩
            replace TV := TV.below BV
            clear KV BV s0 s1 g0 g1
            have KV := KV'
            clear KV'
            have s0 := TV.s0
            have s1 := TV.s1
            have g0 := TV.g0
            have g1 := TV.g1
            go_wp2_with fail
            refine (CT.out _ KV).mono ?_
            rintro e vz ⟨rfl, KZ⟩
            clear s0 s1 g0 g1
            go_wp2
            go_ret
            exact ⟨rfl, KZ.1⟩
      · have i2 : (gk != 2) = true := by simp [h2]
        have s0 := TV.s0
        have s1 := TV.s1
        have g0 := TV.g0
        have g1 := TV.g1
        go_wp2_with fail
        refine (CT.out _ KV).mono ?_
        rintro e vz ⟨rfl, KZ⟩
        clear s0 s1 g0 g1
        go_wp2
        go_ret
        exact ⟨rfl, KZ.1⟩
  | true =>
    obtain ⟨rfl, rfl, hkk⟩ := F2.out rfl
    have hkg := hkk.symm
    subst hkg
    have kk : (gk != gk) = false := by simp
    cases A with
    | true =>
      clear F1 F2 F3 CA CS CW
      have s0 := TV.s0
      have s1 := TV.s1
      have g0 := TV.g0
      have g1 := TV.g1
      go_wp2_with fail
      refine (CM.out _ KV).mono ?_
      rintro e vv ⟨rfl, BV, KV'⟩
      replace TV := TV.below BV
      clear KV BV s0 s1 g0 g1
      have KV := KV'
      clear KV'
      have s0 := TV.s0
      have s1 := TV.s1
      have g0 := TV.g0
      have g1 := TV.g1
      go_wp2_with fail
      refine (CG.out _ KV).mono ?_
      rintro e vv ⟨rfl, BV, KV'⟩
      replace TV := TV.below BV
      clear KV BV s0 s1 g0 g1
      have KV := KV'
      clear KV'
      clear CM CG
      by_cases h2 : gk = 2
      · subst h2
        have i2 : ((2 : Int) != 2) = false := rfl
        cases hX : X with
        | false =>
          rw [hX] at CX
          clear hX
          have s0 := TV.s0
          have s1 := TV.s1
          have g0 := TV.g0
          have g1 := TV.g1
          go_wp2_with fail
          refine (CX.out _ KV).mono ?_
          rintro e vv ⟨rfl, BV, KV'⟩
          replace TV := TV.below BV
          clear KV BV s0 s1 g0 g1
          have KV := KV'
          clear KV'
          have s0 := TV.s0
          have s1 := TV.s1
          have g0 := TV.g0
          have g1 := TV.g1
          go_wp2_with fail
          refine (CT.out _ KV).mono ?_
          rintro e vz ⟨rfl, KZ⟩
          clear s0 s1 g0 g1
          go_wp2
          go_ret
          exact ⟨rfl, KZ.1⟩
        | true =>
          have hin := hide (HIN.out rfl hX)
          rw [hX] at CX
          clear hX HIN
          have s0 := TV.s0
          have s1 := TV.s1
          have g0 := TV.g0
          have g1 := TV.g1
          go_wp2_with fail
          refine (CX.out _ KV).mono ?_
          rintro e vv ⟨rfl, BV, KV'⟩
          replace TV := TV.below BV
          clear KV BV s0 s1 g0 g1
          have KV := KV'
          clear KV'
          cases I with
          | true =>
            have s0 := TV.s0
            have s1 := TV.s1
            have g0 := TV.g0
            have g1 := TV.g1
            go_wp2_with fail
            refine (CI.out _ KV).mono ?_
            rintro e vv ⟨rfl, BV, KV'⟩
            replace TV := TV.below BV
            clear KV BV s0 s1 g0 g1
            have KV := KV'
            clear KV'
            have s0 := TV.s0
            have s1 := TV.s1
            have g0 := TV.g0
            have g1 := TV.g1
            go_wp2_with fail
            refine (CT.out _ KV).mono ?_
            rintro e vz ⟨rfl, KZ⟩
            clear s0 s1 g0 g1
            go_wp2
            go_ret
            exact ⟨rfl, KZ.1⟩
          | false =>
            have s0 := TV.s0
            have s1 := TV.s1
            have g0 := TV.g0
            have g1 := TV.g1
            go_wp2_with fail
            refine (CI.out _ KV).mono ?_
            rintro e vv ⟨rfl, BV, KV'⟩
            replace TV := TV.below BV
            clear KV BV s0 s1 g0 g1
            have KV := KV'
            clear KV'
            cases hin.out.1 (by trivial)
      · have i2 : (gk != 2) = true := by simp [h2]
        have s0 := TV.s0
        have s1 := TV.s1
        have g0 := TV.g0
        have g1 := TV.g1
        go_wp2_with fail
        refine (CT.out _ KV).mono ?_
        rintro e vz ⟨rfl, KZ⟩
        clear s0 s1 g0 g1
        go_wp2
        go_ret
        exact ⟨rfl, KZ.1⟩
    | false =>
      have hw := F3.out rfl rfl
      subst hw
      clear F1 F2 F3 CA CS
      have s0 := TV.s0
      have s1 := TV.s1
      have g0 := TV.g0
      have g1 := TV.g1
      go_wp2_with fail
      refine (CW.out _ KV).mono ?_
      rintro e vv ⟨rfl, BV, KV'⟩
      replace TV := TV.below BV
      clear KV BV s0 s1 g0 g1
      have KV := KV'
      clear KV'
      have s0 := TV.s0
      have s1 := TV.s1
      have g0 := TV.g0
      have g1 := TV.g1
      go_wp2_with fail
      refine (CM.out _ KV).mono ?_
      rintro e vv ⟨rfl, BV, KV'⟩
      replace TV := TV.below BV
      clear KV BV s0 s1 g0 g1
      have KV := KV'
      clear KV'
      have s0 := TV.s0
      have s1 := TV.s1
      have g0 := TV.g0
      have g1 := TV.g1
      go_wp2_with fail
      refine (CG.out _ KV).mono ?_
      rintro e vv ⟨rfl, BV, KV'⟩
      replace TV := TV.below BV
      clear KV BV s0 s1 g0 g1
      have KV := KV'
      clear KV'
      clear CM CG CW
      by_cases h2 : gk = 2
      · subst h2
        have i2 : ((2 : Int) != 2) = false := rfl
        cases hX : X with
        | false =>
          rw [hX] at CX
          clear hX
          have s0 := TV.s0
          have s1 := TV.s1
          have g0 := TV.g0
          have g1 := TV.g1
          go_wp2_with fail
          refine (CX.out _ KV).mono ?_
          rintro e vv ⟨rfl, BV, KV'⟩
          replace TV := TV.below BV
          clear KV BV s0 s1 g0 g1
          have KV := KV'
          clear KV'
          have s0 := TV.s0
          have s1 := TV.s1
          have g0 := TV.g0
          have g1 := TV.g1
          go_wp2_with fail
          refine (CT.out _ KV).mono ?_
          rintro e vz ⟨rfl, KZ⟩
          clear s0 s1 g0 g1
          go_wp2
          go_ret
          exact ⟨rfl, KZ.1⟩
        | true =>
          have hin := hide (HIN.out rfl hX)
          rw [hX] at CX
          clear hX HIN
          have s0 := TV.s0
          have s1 := TV.s1
          have g0 := TV.g0
          have g1 := TV.g1
          go_wp2_with fail
          refine (CX.out _ KV).mono ?_
          rintro e vv ⟨rfl, BV, KV'⟩
          replace TV := TV.below BV
          clear KV BV s0 s1 g0 g1
          have KV := KV'
          clear KV'
          cases I with
          | true =>
            have s0 := TV.s0
            have s1 := TV.s1
            have g0 := TV.g0
            have g1 := TV.g1
            go_wp2_with fail
            refine (CI.out _ KV).mono ?_
            rintro e vv ⟨rfl, BV, KV'⟩
            replace TV := TV.below BV
            clear KV BV s0 s1 g0 g1
            have KV := KV'
            clear KV'
            have s0 := TV.s0
            have s1 := TV.s1
            have g0 := TV.g0
            have g1 := TV.g1
            go_wp2_with fail
            refine (CT.out _ KV).mono ?_
            rintro e vz ⟨rfl, KZ⟩
            clear s0 s1 g0 g1
            go_wp2
            go_ret
            exact ⟨rfl, KZ.1⟩
          | false =>
            have s0 := TV.s0
            have s1 := TV.s1
            have g0 := TV.g0
            have g1 := TV.g1
            go_wp2_with fail
            refine (CI.out _ KV).mono ?_
            rintro e vv ⟨rfl, BV, KV'⟩
            replace TV := TV.below BV
            clear KV BV s0 s1 g0 g1
            have KV := KV'
            clear KV'
            have s0 := TV.s0
            have s1 := TV.s1
            have g0 := TV.g0
            have g1 := TV.g1
            go_wp2_with fail
            refine (CT.out _ KV).mono ?_
            rintro e vz ⟨rfl, KZ⟩
            clear s0 s1 g0 g1
            go_wp2
            go_ret
            exact ⟨rfl, KZ.1⟩
      · have i2 : (gk != 2) = true := by simp [h2]
        have s0 := TV.s0
        have s1 := TV.s1
        have g0 := TV.g0
        have g1 := TV.g1
        go_wp2_with fail
        refine (CT.out _ KV).mono ?_
        rintro e vz ⟨rfl, KZ⟩
        clear s0 s1 g0 g1
        go_wp2
        go_ret
        exact ⟨rfl, KZ.1⟩

end Go.Proofs.YtcbcdfdicefkoaaGreatDoor

namespace Go.Proofs.YtcbcdfdicefkoaaGreatDoor
open Go.ChangeShapes Go.WideShapes Go.ChangeAt Go.RowKit Go.Joins

theorem Tryz.laidOutG : laidOutB Tryz.prog = true := by kernel_rfl

theorem Tryz.cellssubtree : Tryz.prog.cellsOf 25 = 2 := by kernel_rfl

set_option maxRecDepth 100000 in
theorem open_subtree {H : Type} {enc : TypeId × Value → H} {W : World} {r : Reach} {b0 : Nat} {v : Value} {d : DataW H} {p : List MemPlace}
    (hv : Value.okWide Tryz.prog W r b0 25 v) (h : DataW.Trod enc Tryz.prog W 0 (fun _ => true) true 25 v d p) :
    ∃ t s, v = .agg #[.int .i64 t, .string s] ∧ (Lit.int .i64 t).wf = true ∧ s.size ≤ Rows.uptoBulk d := by
  obtain ⟨v0, v1, y0, y1, m, rfl, rfl, rfl, hy0, hy1⟩ := open_agg2 Tryz.underlying25 (by kernel_rfl) Tryz.cellssubtree hv h
  obtain ⟨t, e0, hy, hwf⟩ := DataW.trod_int Tryz.underlying3 hy0
  simp only [List.cons.injEq, and_true] at e0
  subst e0
  obtain ⟨s, e1, hz, _⟩ := DataW.trod_string Tryz.underlying9 hy1
  simp only [List.cons.injEq, and_true] at e1
  subst e1
  refine ⟨t, s, rfl, hwf, ?_⟩
  have h8 := sizeH_len s
  rw [hz]
  simp only [Rows.uptoBulk, Rows.uptoBulkAll]
  omega

theorem Tryz.cellsgeneral : Tryz.prog.cellsOf 27 = 2 := by kernel_rfl

set_option maxRecDepth 100000 in
theorem open_general {H : Type} {enc : TypeId × Value → H} {W : World} {r : Reach} {b0 : Nat} {v : Value} {d : DataW H} {p : List MemPlace}
    (hv : Value.okWide Tryz.prog W r b0 27 v) (h : DataW.Trod enc Tryz.prog W 0 (fun _ => true) true 27 v d p) :
    ∃ t s, v = .agg #[.int .i64 t, .string s] ∧ (Lit.int .i64 t).wf = true ∧ s.size ≤ Rows.uptoBulk d := by
  obtain ⟨v0, v1, y0, y1, m, rfl, rfl, rfl, hy0, hy1⟩ := open_agg2 Tryz.underlying27 (by kernel_rfl) Tryz.cellsgeneral hv h
  obtain ⟨t, e0, hy, hwf⟩ := DataW.trod_int Tryz.underlying3 hy0
  simp only [List.cons.injEq, and_true] at e0
  subst e0
  obtain ⟨s, e1, hz, _⟩ := DataW.trod_string Tryz.underlying9 hy1
  simp only [List.cons.injEq, and_true] at e1
  subst e1
  refine ⟨t, s, rfl, hwf, ?_⟩
  have h8 := sizeH_len s
  rw [hz]
  simp only [Rows.uptoBulk, Rows.uptoBulkAll]
  omega

end Go.Proofs.YtcbcdfdicefkoaaGreatDoor
