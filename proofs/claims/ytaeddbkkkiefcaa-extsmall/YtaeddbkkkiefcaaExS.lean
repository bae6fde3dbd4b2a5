/-
  The document's Basic.
-/
import Derived.Test.YtaeddbkkkiefcaaExR
namespace Go.Proofs.Ytaeddbkkkiefcaa
open Go.RowKit Go.IntWalk

theorem baB_none : baB false (-1) = elB 48 [] := rfl
theorem baB_true : baB true (-1) = elB 48 (elB 1 [255]) := by unfold baB; rw [trueB_el]; simp [pathB]
theorem baB_path (n : Int) (h : n ≠ -1) : baB true n = elB 48 (elB 1 [255] ++ elB 2 (intS n)) := by unfold baB pathB; rw [trueB_el, if_neg h]; rfl


set_option maxRecDepth 100000 in
set_option maxHeartbeats 1000000 in
theorem rbasic_any (v : Bool) (n : Int) (h0 : -9223372036854775808 ≤ n) (h1 : n < 9223372036854775808) (w : World) :
    Calls Try.prog 6 #[.agg #[.bool v, .int .i64 n]] w fun e w' => ∃ a m c, e = .returned (.tuple #[.slice a m c, .int .i64 (wrE (baP v n))]) ∧ OwnB w' w.heap.size (.slice a m c) (wrC (baP v n) (baB v n)) ∧ Below w.heap.size w w' := by
  have hi := intS_len n
  by_cases h : baP v n
  · have e1 : wrC (baP v n) (baB v n) = baB v n := by unfold wrC; rw [if_pos h]
    have e2 : wrE (baP v n) = 0 := by unfold wrE; rw [if_pos h]
    rw [e1, e2]
    clear e1 e2
    by_cases hn : n = -1
    · subst hn
      clear h h0 h1 hi
      cases v with
      | false =>
        have BX := xbelow w (.cells #[.bool false, .int .i64 (-1)] 23)
        have hz : (w.alloc (.cells #[.bool false, .int .i64 (-1)] 23)).heap.size = w.heap.size + 1 := by simp
        have k0 : (w.alloc (.cells #[.bool false, .int .i64 (-1)] 23)).cell? ⟨w.heap.size, 0, none⟩ = some (.bool false) := by simp
        have k1 : (w.alloc (.cells #[.bool false, .int .i64 (-1)] 23)).cell? ⟨w.heap.size, 1, none⟩ = some (.int .i64 (-1)) := by simp
        rw [baB_none]
        go_enter Try.func6, Try.ntmps6
        have SN := src_nil (w.alloc (.cells #[.bool false, .int .i64 (-1)] 23))
        -- SN the content's source, BX what is below so far
        have d9 := hide (rput_any 48 _ _ _ _ _ SN (by decide) (by decide) (by omega))
        have HB := hide BX
        go_wp2_with fail
        refine d9.out.mono ?_
        rintro e w9 ⟨a, m, c, rfl, o9, B9⟩
        have HO := hide (And.intro o9 B9)
        clear o9 B9 d9
        go_wp2
        go_ret2
        exact ⟨a, m, c, rfl, HO.out.1.rebaseX HB.out.size, HB.out.trans (HO.out.2.mono HB.out.size)⟩
      | true =>
        have BX := xbelow w (.cells #[.bool true, .int .i64 (-1)] 23)
        have hz : (w.alloc (.cells #[.bool true, .int .i64 (-1)] 23)).heap.size = w.heap.size + 1 := by simp
        have k0 : (w.alloc (.cells #[.bool true, .int .i64 (-1)] 23)).cell? ⟨w.heap.size, 0, none⟩ = some (.bool true) := by simp
        have k1 : (w.alloc (.cells #[.bool true, .int .i64 (-1)] 23)).cell? ⟨w.heap.size, 1, none⟩ = some (.int .i64 (-1)) := by simp
        rw [baB_true]
        go_enter Try.func6, Try.ntmps6
        have d0 := hide (rbool_any (w.alloc (.cells #[.bool true, .int .i64 (-1)] 23)))
        go_wp2_with fail
        refine d0.out.mono ?_
        rintro e w1 ⟨a1, m1, c1, rfl, o1, B1⟩
        have S1 := o1.toSrc (by simp)
        have hm1 := S1.hlen
        simp only [List.length_singleton] at hm1
        have d1 := hide (rput_any 1 _ _ _ _ _ S1 (by decide) (by decide) (by omega))
        have BB := BX.trans (B1.mono BX.size)
        clear S1 hm1 d0 o1
        go_wp2_with fail
        refine d1.out.mono ?_
        rintro e w2 ⟨a2, m2, c2, rfl, o2, B2⟩
        have S2 := o2.toSrc (elB_byte 1 [255] (by decide) (by decide) (by simp) (by simp))
        have hl2 := S2.hlen
        have hq2 := elB_len 1 [255]
        simp only [List.length_singleton] at hq2
        have BC := BB.trans (B2.mono BB.size)
        have B12 := B1.trans (B2.mono B1.size)
        have z2 := BC.size
        have z3 := B12.size
        rw [hz] at z3
        clear BB d1 o2 B1 B2
        go_wp2_with (at_builtin; refine wpList_appB _ rfl (.tmp 25) (.tmp 27) rfl (w.heap.size + 1) (.slice none 0 0) [] rfl (OwnB.nil _ _) a2 m2 c2 (elB 1 [255]) rfl S2 (by simp; omega) (by omega) ?_; intro v3 w3 o3 g3 _; rw [List.nil_append] at o3; have B3 : Below (w.heap.size + 1) w2 w3 := (Below.refl _ _).grown g3 (by omega) (by intro k hk; cases hk); obtain ⟨a3, c3, rfl⟩ := o3.shape; have k3 := (B3.cell (p := ⟨w.heap.size, 1, none⟩) (by show w.heap.size < _; omega)).trans ((B12.cell (p := ⟨w.heap.size, 1, none⟩) (by show w.heap.size < _; omega)).trans k1))
        have S3 := o3.toSrc (elB_byte 1 [255] (by decide) (by decide) (by simp) (by simp))
        rw [hl2] at S3
        have BD := BC.trans (B3.mono (Nat.le_succ _))
        clear o3 B3 BC B12 S2 g3 z2 z3 BX k0 k1 k3 hz
        -- S3 the content's source, BD what is below so far
        have d9 := hide (rput_any 48 _ _ _ _ _ S3 (by decide) (by decide) (by omega))
        have HB := hide BD
        go_wp2_with fail
        refine d9.out.mono ?_
        rintro e w9 ⟨a, m, c, rfl, o9, B9⟩
        have HO := hide (And.intro o9 B9)
        clear o9 B9 d9
        go_wp2
        go_ret2
        exact ⟨a, m, c, rfl, HO.out.1.rebaseX HB.out.size, HB.out.trans (HO.out.2.mono HB.out.size)⟩
    · obtain ⟨rfl, hp, hq⟩ := h.resolve_left hn
      have hL : ¬ n < -1 := by omega
      have hG : ¬ 100 < n := by omega
      have hE : (n != -1) = true := by simpa using hn
      rw [baB_path n hn]
      have hpb := hide (elB_byte 2 (intS n) (by decide) (by decide) (by omega) (intS_byte n))
      have hpl := elB_len 2 (intS n)
      have d3 := hide (refInt_any n h0 h1)
      have hib := hide (intS_byte n)
      clear h hn hp hq h0 h1
      have BX := xbelow w (.cells #[.bool true, .int .i64 n] 23)
      have hz : (w.alloc (.cells #[.bool true, .int .i64 n] 23)).heap.size = w.heap.size + 1 := by simp
      have k0 : (w.alloc (.cells #[.bool true, .int .i64 n] 23)).cell? ⟨w.heap.size, 0, none⟩ = some (.bool true) := by simp
      have k1 : (w.alloc (.cells #[.bool true, .int .i64 n] 23)).cell? ⟨w.heap.size, 1, none⟩ = some (.int .i64 n) := by simp
      go_enter Try.func6, Try.ntmps6
      have d0 := hide (rbool_any (w.alloc (.cells #[.bool true, .int .i64 n] 23)))
      go_wp2_with fail
      refine d0.out.mono ?_
      rintro e w1 ⟨a1, m1, c1, rfl, o1, B1⟩
      have S1 := o1.toSrc (by simp)
      have hm1 := S1.hlen
      simp only [List.length_singleton] at hm1
      have d1 := hide (rput_any 1 _ _ _ _ _ S1 (by decide) (by decide) (by omega))
      have BB := BX.trans (B1.mono BX.size)
      clear S1 hm1 d0 o1
      go_wp2_with fail
      refine d1.out.mono ?_
      rintro e w2 ⟨a2, m2, c2, rfl, o2, B2⟩
      have S2 := o2.toSrc (elB_byte 1 [255] (by decide) (by decide) (by simp) (by simp))
      have hl2 := S2.hlen
      have hq2 := elB_len 1 [255]
      simp only [List.length_singleton] at hq2
      have BC := BB.trans (B2.mono BB.size)
      have B12 := B1.trans (B2.mono B1.size)
      have z2 := BC.size
      have z3 := B12.size
      rw [hz] at z3
      clear BB d1 o2 B1 B2
      go_wp2_with (at_builtin; refine wpList_appB _ rfl (.tmp 25) (.tmp 27) rfl (w.heap.size + 1) (.slice none 0 0) [] rfl (OwnB.nil _ _) a2 m2 c2 (elB 1 [255]) rfl S2 (by simp; omega) (by omega) ?_; intro v3 w3 o3 g3 _; rw [List.nil_append] at o3; have B3 : Below (w.heap.size + 1) w2 w3 := (Below.refl _ _).grown g3 (by omega) (by intro k hk; cases hk); obtain ⟨a3, c3, rfl⟩ := o3.shape; have k3 := (B3.cell (p := ⟨w.heap.size, 1, none⟩) (by show w.heap.size < _; omega)).trans ((B12.cell (p := ⟨w.heap.size, 1, none⟩) (by show w.heap.size < _; omega)).trans k1))
      clear BX k0 k1 S2 g3 z2
      refine (d3.out _).mono ?_
      rintro e w4 ⟨a4, m4, c4, rfl, o4, B4⟩
      have S4 := o4.toSrc hib.out
      have hm4 := S4.hlen
      have d5 := hide (rput_any 2 _ _ _ _ _ S4 (by decide) (by decide) (by omega))
      clear S4 o4 d3
      go_wp2_with fail
      refine d5.out.mono ?_
      rintro e w5 ⟨a5, m5, c5, rfl, o5, B5⟩
      have S5 := o5.toSrc hpb.out
      have hl5 := S5.hlen
      have O5 := (o3.belowA B4).belowA B5
      have BD := (BC.trans (B3.mono (Nat.le_succ _))).trans (((B4.trans (B5.mono B4.size))).mono (Nat.le_trans BC.size B3.size))
      have z5 := BD.size
      have z6 : w.heap.size + 1 ≤ w5.heap.size := Nat.le_trans z3 (Nat.le_trans B3.size (Nat.le_trans B4.size B5.size))
      have hb3 : ∀ k, (Value.slice a3 m2 c3).ownBlock = some k → w.heap.size + 1 ≤ k := fun k hk => by rw [hl2] at O5; exact (World.ownsRow.lt O5 k hk).1
      rw [hl2] at O5
      have hq5 : m5 ≤ 13 := by omega
      clear o5 d5 o3 B3 B4 B5 BC B12 z3 k3 hz
      go_wp2_with (at_builtin; refine wpList_appB _ rfl (.tmp 32) (.tmp 36) rfl (w.heap.size + 1) (.slice a3 m2 c3) (elB 1 [255]) rfl O5 a5 m5 c5 (elB 2 (intS n)) rfl S5 (by omega) (by omega) ?_; intro v6 w6 o6 g6 _; have B6 : Below (w.heap.size + 1) w5 w6 := (Below.refl _ _).grown g6 (by omega) hb3; obtain ⟨a6, c6, rfl⟩ := o6.shape)
      have S6 := o6.toSrc (by
        intro x hx
        rcases List.mem_append.1 hx with hx | hx
        · exact elB_byte 1 [255] (by decide) (by decide) (by simp) (by simp) x hx
        · exact hpb.out x hx)
      have BE := BD.trans (B6.mono (Nat.le_succ _))
      have hl6 : (elB 1 [255] ++ elB 2 (intS n)).length = m2 + m5 := by rw [List.length_append, hl2, hl5]
      clear o6 B6 g6 O5 S5 BD hb3
      trace_state
      rw [hl6] at S6
      -- S6 the content's source, BE what is below so far
      have d9 := hide (rput_any 48 _ _ _ _ _ S6 (by decide) (by decide) (by omega))
      have HB := hide BE
      go_wp2_with fail
      refine d9.out.mono ?_
      rintro e w9 ⟨a, m, c, rfl, o9, B9⟩
      have HO := hide (And.intro o9 B9)
      clear o9 B9 d9
      go_wp2
      go_ret2
      exact ⟨a, m, c, rfl, HO.out.1.rebaseX HB.out.size, HB.out.trans (HO.out.2.mono HB.out.size)⟩
  · have e1 : wrC (baP v n) (baB v n) = [] := by unfold wrC; rw [if_neg h]
    have e2 : wrE (baP v n) = 150 := by unfold wrE; rw [if_neg h]
    rw [e1, e2]
    by_cases hL : n < -1
    · clear h e1 e2
      have k0 : (w.alloc (.cells #[.bool v, .int .i64 n] 23)).cell? ⟨w.heap.size, 0, none⟩ = some (.bool v) := by simp
      have k1 : (w.alloc (.cells #[.bool v, .int .i64 n] 23)).cell? ⟨w.heap.size, 1, none⟩ = some (.int .i64 n) := by simp
      go_enter Try.func6, Try.ntmps6
      go_wp2
      go_ret2
      exact ⟨none, 0, 0, rfl, OwnB.nil _ _, xbelow w _⟩
    · by_cases hG : 100 < n
      · clear h e1 e2
        have k0 : (w.alloc (.cells #[.bool v, .int .i64 n] 23)).cell? ⟨w.heap.size, 0, none⟩ = some (.bool v) := by simp
        have k1 : (w.alloc (.cells #[.bool v, .int .i64 n] 23)).cell? ⟨w.heap.size, 1, none⟩ = some (.int .i64 n) := by simp
        go_enter Try.func6, Try.ntmps6
        go_wp2
        go_ret2
        exact ⟨none, 0, 0, rfl, OwnB.nil _ _, xbelow w _⟩
      · have hn : n ≠ -1 := fun e => h (.inl e)
        have hE : (n != -1) = true := by simpa using hn
        cases v with
        | true => exact absurd (.inr ⟨rfl, by omega, by omega⟩) h
        | false =>
          clear h e1 e2 hn
          have k0 : (w.alloc (.cells #[.bool false, .int .i64 n] 23)).cell? ⟨w.heap.size, 0, none⟩ = some (.bool false) := by simp
          have k1 : (w.alloc (.cells #[.bool false, .int .i64 n] 23)).cell? ⟨w.heap.size, 1, none⟩ = some (.int .i64 n) := by simp
          go_enter Try.func6, Try.ntmps6
          go_wp2
          go_ret2
          exact ⟨none, 0, 0, rfl, OwnB.nil _ _, xbelow w _⟩

end Go.Proofs.Ytaeddbkkkiefcaa
