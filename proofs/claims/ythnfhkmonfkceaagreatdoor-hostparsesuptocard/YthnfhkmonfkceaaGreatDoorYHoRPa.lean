/-
  The document's Parse.
-/
import Derived.Deep.RegionHeld3
import Derived.Test.YthnfhkmonfkceaaGreatDoorYHoRSh2
import Derived.Test.YthnfhkmonfkceaaGreatDoorYHoSh3ToHoR4
import Derived.Test.YthnfhkmonfkceaaGreatDoorYNmRPr
import Derived.Test.YthnfhkmonfkceaaGreatDoorYNmREnc
namespace Go.Proofs.YthnfhkmonfkceaaGreatDoor
open Go.RowKit Go.IntWalk Go.Shelf
attribute [local go_sem ↓] appOfH_of

/-- The memory of Parse: its result's box, nothing; its general name's box. -/
structure PS (w : World) (k : Int) (t : ByteArray) (V : World) : Prop where
  r : V.heap[w.heap.size]? = some (.cells #[.int .i64 0, .string ⟨#[]⟩] 23)
  g : V.heap[w.heap.size + 1]? = some (.cells #[.int .i64 k, .string t] 23)
  b : Below w.heap.size w V
theorem PS.below {w V V' : World} {k : Int} {t : ByteArray} (h : PS w k t V) (hb : Below V.heap.size V V') : PS w k t V' :=
  ⟨(hb.block _ (Array.getElem?_eq_some_iff.1 h.r).1).trans h.r, (hb.block _ (Array.getElem?_eq_some_iff.1 h.g).1).trans h.g, h.b.trans (hb.mono h.b.size)⟩
theorem PS.new (w : World) : PS w 0 ⟨#[]⟩ ((w.alloc (.cells #[.int .i64 0, .string ⟨#[]⟩] 23)).alloc (.cells #[.int .i64 0, .string ⟨#[]⟩] 23)) := by
  have hz : (w.alloc (.cells #[.int .i64 0, .string ⟨#[]⟩] 23)).heap.size = w.heap.size + 1 := by simp
  have b1 := nbelowW w (.cells #[.int .i64 0, .string ⟨#[]⟩] 23)
  have b2 := nbelowW (w.alloc (.cells #[.int .i64 0, .string ⟨#[]⟩] 23)) (.cells #[.int .i64 0, .string ⟨#[]⟩] 23)
  have h0 := heap_alloc_new w (.cells #[.int .i64 0, .string ⟨#[]⟩] 23)
  refine ⟨(b2.block _ (by rw [hz]; omega)).trans h0, ?_, b1.trans (b2.mono b1.size)⟩
  rw [← hz]
  exact heap_alloc_new _ _
theorem PS.set {w V : World} {k : Int} {t : ByteArray} (h : PS w k t V) (k' : Int) (t' : ByteArray) : PS w k' t' ((V.setCell ⟨w.heap.size + 1, 0, none⟩ (.int .i64 k')).setCell ⟨w.heap.size + 1, 1, none⟩ (.string t')) := by
  refine ⟨?_, afterG h.g _ _, (h.b.setCell (by simp) _).setCell (by simp) _⟩
  rw [heap_setCell_other _ _ _ _ (by simp), heap_setCell_other _ _ _ _ (by simp)]
  exact h.r
theorem PS.cells {w V : World} {k : Int} {t : ByteArray} (h : PS w k t V) : V.cell? ⟨w.heap.size + 1, 0, none⟩ = some (.int .i64 k) ∧ V.cell? ⟨w.heap.size + 1, 1, none⟩ = some (.string t) ∧ V.frozen? ⟨w.heap.size + 1, 0, none⟩ = false ∧ V.frozen? ⟨w.heap.size + 1, 1, none⟩ = false := by
  have hg := h.g
  refine ⟨by simp [World.cell?, hg], by simp [World.cell?, hg], by simp [World.frozen?, hg], by simp [World.frozen?, hg]⟩
theorem PS.res {w V : World} {k : Int} {t : ByteArray} (h : PS w k t V) : V.cell? ⟨w.heap.size, 0, none⟩ = some (.int .i64 0) ∧ V.cell? ⟨w.heap.size, 1, none⟩ = some (.string ⟨#[]⟩) ∧ V.frozen? ⟨w.heap.size, 0, none⟩ = false ∧ V.frozen? ⟨w.heap.size, 1, none⟩ = false := by
  have hg := h.r
  refine ⟨by simp [World.cell?, hg], by simp [World.cell?, hg], by simp [World.frozen?, hg], by simp [World.frozen?, hg]⟩

theorem unhR_app : ∀ (n : Nat) (a : List UInt8) (x y : UInt8), a.length = 2 * n → unhR (a ++ [x, y]) = unhR a ++ [UInt8.ofNat (rbI (nib x) (nib y))]
  | 0, a, x, y, h => by
    obtain rfl : a = [] := List.eq_nil_of_length_eq_zero h
    rfl
  | n + 1, [], x, y, h => by simp at h
  | n + 1, [_], x, y, h => by simp at h; omega
  | n + 1, u :: v :: r, x, y, h => by
    have ih := unhR_app n r x y (by simp at h; omega)
    rw [List.cons_append, List.cons_append, unhR, unhR, ih, List.cons_append]
theorem unhR_odd : ∀ (n : Nat) (a : List UInt8) (x : UInt8), a.length = 2 * n → unhR (a ++ [x]) = unhR a
  | 0, a, x, h => by
    obtain rfl : a = [] := List.eq_nil_of_length_eq_zero h
    rfl
  | n + 1, [], x, h => by simp at h
  | n + 1, [_], x, h => by simp at h; omega
  | n + 1, u :: v :: r, x, h => by
    have ih := unhR_odd n r x (by simp at h; omega)
    rw [List.cons_append, List.cons_append, unhR, unhR, ih]

/-- The general name that is tried for a text. -/
theorem cand_mail {s : List UInt8} (h : hdB (wMail ++ [58]) s = true) : hdB (wDns ++ [58]) s = false ∧ hdB (wName ++ [58]) s = false ∧ hdB (wIp ++ [58]) s = false ∧ candD s = (1, s.drop 6) := by
  obtain ⟨r, rfl⟩ := List.isPrefixOf_iff_prefix.1 h
  exact ⟨rfl, rfl, rfl, rfl⟩
theorem cand_dns {s : List UInt8} (h : hdB (wDns ++ [58]) s = true) : hdB (wMail ++ [58]) s = false ∧ hdB (wName ++ [58]) s = false ∧ hdB (wIp ++ [58]) s = false ∧ candD s = (2, s.drop 4) := by
  obtain ⟨r, rfl⟩ := List.isPrefixOf_iff_prefix.1 h
  exact ⟨rfl, rfl, rfl, rfl⟩
theorem cand_name {s : List UInt8} (h : hdB (wName ++ [58]) s = true) : hdB (wMail ++ [58]) s = false ∧ hdB (wDns ++ [58]) s = false ∧ hdB (wIp ++ [58]) s = false ∧ candD s = if pansE (tx (s.drop 5)) = 0 then (4, nmB (s.drop 5)) else (0, []) := by
  obtain ⟨r, rfl⟩ := List.isPrefixOf_iff_prefix.1 h
  exact ⟨rfl, rfl, rfl, rfl⟩
theorem cand_ip {s : List UInt8} (h : hdB (wIp ++ [58]) s = true) : hdB (wMail ++ [58]) s = false ∧ hdB (wDns ++ [58]) s = false ∧ hdB (wName ++ [58]) s = false ∧ candD s = (7, unhR (s.drop 3)) := by
  obtain ⟨r, rfl⟩ := List.isPrefixOf_iff_prefix.1 h
  exact ⟨rfl, rfl, rfl, rfl⟩
theorem cand_none {s : List UInt8} (h1 : hdB (wMail ++ [58]) s = false) (h2 : hdB (wDns ++ [58]) s = false) (h3 : hdB (wName ++ [58]) s = false) (h4 : hdB (wIp ++ [58]) s = false) : candD s = (0, []) := by
  unfold candD
  rw [h1, h2, h3, h4]
  rfl

theorem rb_word (a b : Int) : ((UInt8.ofNat (rbI a b)).toNat : Int) = IntKind.u8.wrap (16 * a + b) := by
  rw [IntKind.wrap_u8]
  have e3 : (UInt8.ofNat (rbI a b)).toNat = rbI a b % 256 := by simp
  rw [e3]
  unfold rbI
  omega
set_option maxRecDepth 100000 in
set_option maxHeartbeats 4000000 in
theorem refParse_any (s : List UInt8) (hs : s.length ≤ 1048576) (w : World) :
    Calls Tryz.prog 12 #[.string (tx s)] w fun e w' => e = .returned (.tuple #[.agg #[.int .i64 (hparG s).1, .string (tx (hparG s).2)], .int .i64 (hparE s)]) ∧ Below w.heap.size w w' := by
  have r1 : Hid (∀ W, Calls Tryz.prog 30 #[.string (tx s), .string ⟨#[101, 109, 97, 105, 108, 58]⟩] W fun e w' => e = .returned (.tuple #[.string (tx (restL s (wMail ++ [58]))), .bool (hdB (wMail ++ [58]) s)]) ∧ w' = W) := fun W => rest_any s (wMail ++ [58]) W
  have r2 : Hid (∀ W, Calls Tryz.prog 30 #[.string (tx s), .string ⟨#[100, 110, 115, 58]⟩] W fun e w' => e = .returned (.tuple #[.string (tx (restL s (wDns ++ [58]))), .bool (hdB (wDns ++ [58]) s)]) ∧ w' = W) := fun W => rest_any s (wDns ++ [58]) W
  have r3 : Hid (∀ W, Calls Tryz.prog 30 #[.string (tx s), .string ⟨#[110, 97, 109, 101, 58]⟩] W fun e w' => e = .returned (.tuple #[.string (tx (restL s (wName ++ [58]))), .bool (hdB (wName ++ [58]) s)]) ∧ w' = W) := fun W => rest_any s (wName ++ [58]) W
  have r4 : Hid (∀ W, Calls Tryz.prog 30 #[.string (tx s), .string ⟨#[105, 112, 58]⟩] W fun e w' => e = .returned (.tuple #[.string (tx (restL s (wIp ++ [58]))), .bool (hdB (wIp ++ [58]) s)]) ∧ w' = W) := fun W => rest_any s (wIp ++ [58]) W
  have d4 : Hid (∀ W, Calls Tryz.prog 7 #[.agg #[.int .i64 (candD s).1, .string (tx (candD s).2)]] W fun e w' => e = .returned (.tuple #[.string (tx (showS (candD s).1 (candD s).2)), .int .i64 (showE (candD s).1 (candD s).2)]) ∧ Below W.heap.size W w') := fun W => refShow_any _ _ (candD_len hs) W
  have hO : okC s (candD s) = (mayG (candD s).1 (candD s).2 && decide (showL (candD s).1 (candD s).2 = s)) := rfl
  obtain ⟨hG, hE⟩ := hpar_D s
  have hS : ∀ k b, mayG k b = true → showS k b = showL k b ∧ showE k b = 0 := fun k b h => by unfold showS showE; rw [h]; exact ⟨rfl, rfl⟩
  have hN : ∀ k b, mayG k b = false → showE k b = 130 := fun k b h => by unfold showE; rw [h]; rfl
  cases b1 : hdB (wMail ++ [58]) s with
  | true =>
    obtain ⟨b2, b3, b4, hC⟩ := cand_mail b1
    have q1 : restL s (wMail ++ [58]) = s.drop 6 := by unfold restL; rw [b1]; rfl
    rw [b1, q1] at r1
    try rw [b2] at r2
    try rw [b3] at r3
    try rw [b4] at r4
    clear b1 b2 b3 b4 q1
    generalize restL s (wDns ++ [58]) = T2 at *
    generalize restL s (wName ++ [58]) = T3 at *
    generalize restL s (wIp ++ [58]) = T4 at *
    generalize s.drop 6 = b at *
    replace hS := hS 1 b
    replace hN := hN 1 b
    -- what is tried, as letters
    generalize candD s = C at *
    subst hC
    simp only [] at d4 hO hG hE
    go_enter Tryz.func12, Tryz.ntmps12
    go_wp2_with fail
    refine (r1.out _).mono ?_
    rintro e w1 ⟨rfl, h1⟩
    have P1 : PS w 0 ⟨#[]⟩ w1 := by rw [h1]; exact PS.new w
    clear h1 r1
    -- the same behind a store of 1, tx b
    obtain ⟨z0, z1, f0, f1⟩ := P1.cells
    go_wp2_with fail
    refine (r2.out _).mono ?_
    rintro e w2 ⟨rfl, h2⟩
    have P2 := P1.set (1) (tx b)
    rw [← h2] at P2
    clear h2 r2 P1 z0 z1 f0 f1
    -- r3: the contract; 3: the number; 2: the one ahead
    go_wp2_with fail
    refine (r3.out _).mono ?_
    rintro e w3 ⟨rfl, h3⟩
    have P3 := P2
    rw [← h3] at P3
    clear h3 r3 P2
    -- r4: the contract; 8: the number; 3: the one ahead
    go_wp2_with fail
    refine (r4.out _).mono ?_
    rintro e w8 ⟨rfl, h8⟩
    have P8 := P3
    rw [← h8] at P8
    clear h8 r4 P3
    -- behind the last text's rest: the memory is P8, the general name 1, b
    have c0 := P8.cells.1
    have c1 := P8.cells.2.1
    go_wp2_with fail
    refine (d4.out _).mono ?_
    rintro e w9 ⟨rfl, B9⟩
    have P9 := P8.below B9
    clear d4 c0 c1 P8 B9
    obtain ⟨y0, y1, _, _⟩ := P9.cells
    obtain ⟨z0, z1, f0, f1⟩ := P9.res
    have HR9 := hide P9.r
    cases hm : mayG (1) (b) with
    | false =>
      have e1 := hN hm
      rw [hm, Bool.false_and] at hO
      rw [hO, if_neg (by decide)] at hG hE
      have HG := hide hG
      have HE := hide hE
      rw [e1]
      generalize tx (showS (1) (b)) = Z
      clear hS hN hm hG hE hO e1
      go_wp2
      have hz3 := two_cellsG (afterG (W := w9) HR9.out (.int .i64 0) (.string ⟨#[]⟩))
      refine bodyPost_ret (v := .tuple #[.agg #[.int .i64 0, .string ⟨#[]⟩], .int .i64 130]) (by simp [results, Tryz.results12, go_sem, hz3.1, hz3.2]) rfl ⟨by rw [HG.out, HE.out]; rfl, ?_⟩
      exact (P9.b.setCell (Nat.le_refl _) _).setCell (Nat.le_refl _) _
    | true =>
      obtain ⟨e1, e2⟩ := hS hm
      rw [hm, Bool.true_and] at hO
      rw [e1, e2]
      have hx : ((tx (showL (1) (b))).toList == (tx s).toList) = decide (showL (1) (b) = s) := bs_beq (showL (1) (b)) (tx s)
      by_cases hq : showL (1) (b) = s
      · rw [hO, decide_eq_true hq, if_pos rfl] at hG hE
        rw [decide_eq_true hq] at hx
        have HG := hide hG
        have HE := hide hE
        generalize tx (showL (1) (b)) = Z at *
        clear hS hN hm hG hE hO e1 e2 hq
        go_wp2
        have hz3 := two_cellsG (afterG (W := w9) HR9.out (.int .i64 (1)) (.string (tx (b))))
        refine bodyPost_ret (v := .tuple #[.agg #[.int .i64 (1), .string (tx (b))], .int .i64 0]) (by simp [results, Tryz.results12, go_sem, hz3.1, hz3.2]) rfl ⟨by rw [HG.out, HE.out], ?_⟩
        exact (P9.b.setCell (Nat.le_refl _) _).setCell (Nat.le_refl _) _
      · rw [hO, decide_eq_false hq, if_neg (by decide)] at hG hE
        rw [decide_eq_false hq] at hx
        have HG := hide hG
        have HE := hide hE
        generalize tx (showL (1) (b)) = Z at *
        clear hS hN hm hG hE hO e1 e2 hq
        go_wp2
        have hz3 := two_cellsG (afterG (W := w9) HR9.out (.int .i64 0) (.string ⟨#[]⟩))
        refine bodyPost_ret (v := .tuple #[.agg #[.int .i64 0, .string ⟨#[]⟩], .int .i64 130]) (by simp [results, Tryz.results12, go_sem, hz3.1, hz3.2]) rfl ⟨by rw [HG.out, HE.out]; rfl, ?_⟩
        exact (P9.b.setCell (Nat.le_refl _) _).setCell (Nat.le_refl _) _
  | false =>
    cases b2 : hdB (wDns ++ [58]) s with
    | true =>
      obtain ⟨_, b3, b4, hC⟩ := cand_dns b2
      have q1 : restL s (wDns ++ [58]) = s.drop 4 := by unfold restL; rw [b2]; rfl
      rw [b1] at r1
      rw [q1] at r2
      try rw [b2] at r2
      try rw [b3] at r3
      try rw [b4] at r4
      clear b1 b2 b3 b4 q1
      generalize restL s (wMail ++ [58]) = T1 at *
      generalize restL s (wName ++ [58]) = T3 at *
      generalize restL s (wIp ++ [58]) = T4 at *
      generalize s.drop 4 = b at *
      replace hS := hS 2 b
      replace hN := hN 2 b
      -- what is tried, as letters
      generalize candD s = C at *
      subst hC
      simp only [] at d4 hO hG hE
      go_enter Tryz.func12, Tryz.ntmps12
      go_wp2_with fail
      refine (r1.out _).mono ?_
      rintro e w1 ⟨rfl, h1⟩
      have P1 : PS w 0 ⟨#[]⟩ w1 := by rw [h1]; exact PS.new w
      clear h1 r1
      -- r2: the contract; 2: the number; 1: the one ahead
      go_wp2_with fail
      refine (r2.out _).mono ?_
      rintro e w2 ⟨rfl, h2⟩
      have P2 := P1
      rw [← h2] at P2
      clear h2 r2 P1
      -- the same behind a store of 2, tx b
      obtain ⟨z0, z1, f0, f1⟩ := P2.cells
      go_wp2_with fail
      refine (r3.out _).mono ?_
      rintro e w3 ⟨rfl, h3⟩
      have P3 := P2.set (2) (tx b)
      rw [← h3] at P3
      clear h3 r3 P2 z0 z1 f0 f1
      -- r4: the contract; 8: the number; 3: the one ahead
      go_wp2_with fail
      refine (r4.out _).mono ?_
      rintro e w8 ⟨rfl, h8⟩
      have P8 := P3
      rw [← h8] at P8
      clear h8 r4 P3
      -- behind the last text's rest: the memory is P8, the general name 2, b
      have c0 := P8.cells.1
      have c1 := P8.cells.2.1
      go_wp2_with fail
      refine (d4.out _).mono ?_
      rintro e w9 ⟨rfl, B9⟩
      have P9 := P8.below B9
      clear d4 c0 c1 P8 B9
      obtain ⟨y0, y1, _, _⟩ := P9.cells
      obtain ⟨z0, z1, f0, f1⟩ := P9.res
      have HR9 := hide P9.r
      cases hm : mayG (2) (b) with
      | false =>
        have e1 := hN hm
        rw [hm, Bool.false_and] at hO
        rw [hO, if_neg (by decide)] at hG hE
        have HG := hide hG
        have HE := hide hE
        rw [e1]
        generalize tx (showS (2) (b)) = Z
        clear hS hN hm hG hE hO e1
        go_wp2
        have hz3 := two_cellsG (afterG (W := w9) HR9.out (.int .i64 0) (.string ⟨#[]⟩))
        refine bodyPost_ret (v := .tuple #[.agg #[.int .i64 0, .string ⟨#[]⟩], .int .i64 130]) (by simp [results, Tryz.results12, go_sem, hz3.1, hz3.2]) rfl ⟨by rw [HG.out, HE.out]; rfl, ?_⟩
        exact (P9.b.setCell (Nat.le_refl _) _).setCell (Nat.le_refl _) _
      | true =>
        obtain ⟨e1, e2⟩ := hS hm
        rw [hm, Bool.true_and] at hO
        rw [e1, e2]
        have hx : ((tx (showL (2) (b))).toList == (tx s).toList) = decide (showL (2) (b) = s) := bs_beq (showL (2) (b)) (tx s)
        by_cases hq : showL (2) (b) = s
        · rw [hO, decide_eq_true hq, if_pos rfl] at hG hE
          rw [decide_eq_true hq] at hx
          have HG := hide hG
          have HE := hide hE
          generalize tx (showL (2) (b)) = Z at *
          clear hS hN hm hG hE hO e1 e2 hq
          go_wp2
          have hz3 := two_cellsG (afterG (W := w9) HR9.out (.int .i64 (2)) (.string (tx (b))))
          refine bodyPost_ret (v := .tuple #[.agg #[.int .i64 (2), .string (tx (b))], .int .i64 0]) (by simp [results, Tryz.results12, go_sem, hz3.1, hz3.2]) rfl ⟨by rw [HG.out, HE.out], ?_⟩
          exact (P9.b.setCell (Nat.le_refl _) _).setCell (Nat.le_refl _) _
        · rw [hO, decide_eq_false hq, if_neg (by decide)] at hG hE
          rw [decide_eq_false hq] at hx
          have HG := hide hG
          have HE := hide hE
          generalize tx (showL (2) (b)) = Z at *
          clear hS hN hm hG hE hO e1 e2 hq
          go_wp2
          have hz3 := two_cellsG (afterG (W := w9) HR9.out (.int .i64 0) (.string ⟨#[]⟩))
          refine bodyPost_ret (v := .tuple #[.agg #[.int .i64 0, .string ⟨#[]⟩], .int .i64 130]) (by simp [results, Tryz.results12, go_sem, hz3.1, hz3.2]) rfl ⟨by rw [HG.out, HE.out]; rfl, ?_⟩
          exact (P9.b.setCell (Nat.le_refl _) _).setCell (Nat.le_refl _) _
    | false =>
      cases b3 : hdB (wName ++ [58]) s with
      | true =>
        obtain ⟨_, _, b4, hC⟩ := cand_name b3
        have q1 : restL s (wName ++ [58]) = s.drop 5 := by unfold restL; rw [b3]; rfl
        rw [b1] at r1
        rw [b2] at r2
        rw [q1] at r3
        try rw [b2] at r2
        try rw [b3] at r3
        try rw [b4] at r4
        clear b1 b2 b3 b4 q1
        generalize restL s (wMail ++ [58]) = T1 at *
        generalize restL s (wDns ++ [58]) = T2 at *
        generalize restL s (wIp ++ [58]) = T4 at *
        have hpl : (s.drop 5).length ≤ 1048576 := by simp; omega
        have d1 := hide (fun W => rparse_any (tx (s.drop 5)) (by rw [tx_size]; exact hpl) W)
        have hP : Hid (strOfNums (encNC (pansN (tx (s.drop 5)))) = tx (nmB (s.drop 5))) := rfl
        have hn := pans_name (tx (s.drop 5))
        have he := hide (fun (W : World) (ao : Option Addr) (n c : Nat) (h : Ats W ao n c (pansN (tx (s.drop 5)))) => rencodeN_any ao n c (pansN (tx (s.drop 5))) W h (name_size hn))
        have hz := hide (name_size hn)
        have hby := hide (encNC_byte (pansN (tx (s.drop 5))))
        clear hpl hn
        generalize s.drop 5 = t at *
        generalize nmB t = b at *
        generalize pansN (tx t) = A at *
        generalize encNC A = EC at *
        generalize encNE A = E9 at *
        by_cases hq0 : pansE (tx t) = 0
        · rw [if_pos hq0] at hC
          rw [hq0] at d1
          clear hq0
          replace hS := hS 4 b
          replace hN := hN 4 b
          -- what is tried, as letters
          generalize candD s = C at *
          subst hC
          simp only [] at d4 hO hG hE
          go_enter Tryz.func12, Tryz.ntmps12
          go_wp2_with fail
          refine (r1.out _).mono ?_
          rintro e w1 ⟨rfl, h1⟩
          have P1 : PS w 0 ⟨#[]⟩ w1 := by rw [h1]; exact PS.new w
          clear h1 r1
          -- r2: the contract; 2: the number; 1: the one ahead
          go_wp2_with fail
          refine (r2.out _).mono ?_
          rintro e w2 ⟨rfl, h2⟩
          have P2 := P1
          rw [← h2] at P2
          clear h2 r2 P1
          -- r3: the contract; 3: the number; 2: the one ahead
          go_wp2_with fail
          refine (r3.out _).mono ?_
          rintro e w3 ⟨rfl, h3⟩
          have P3 := P2
          rw [← h3] at P3
          clear h3 r3 P2
          go_wp2_with fail
          refine (d1.out _).mono ?_
          rintro e w4 ⟨a4, m4, c4, rfl, o4, B4⟩
          have P4 := P3.below B4
          have d2 := hide (he.out w4 a4 m4 c4 (o4.ats hz.out))
          clear d1 o4 B4 he P3
          go_wp2_with fail
          refine d2.out.mono ?_
          rintro e w5 ⟨a5, m5, c5, rfl, o5, B5⟩
          have P5 := P4.below B5
          clear d2 B5 P4
          have ts := (OwnB.toSrc (o5) hby.out).text
          rw [hP.out] at ts
          clear o5
          -- the same behind a store of 4, tx b
          obtain ⟨z0, z1, f0, f1⟩ := P5.cells
          go_wp2_with fail
          refine (r4.out _).mono ?_
          rintro e w8 ⟨rfl, h8⟩
          have P8 := P5.set (4) (tx b)
          rw [← h8] at P8
          clear h8 r4 P5 z0 z1 f0 f1
          -- behind the last text's rest: the memory is P8, the general name 4, b
          have c0 := P8.cells.1
          have c1 := P8.cells.2.1
          go_wp2_with fail
          refine (d4.out _).mono ?_
          rintro e w9 ⟨rfl, B9⟩
          have P9 := P8.below B9
          clear d4 c0 c1 P8 B9
          obtain ⟨y0, y1, _, _⟩ := P9.cells
          obtain ⟨z0, z1, f0, f1⟩ := P9.res
          have HR9 := hide P9.r
          cases hm : mayG (4) (b) with
          | false =>
            have e1 := hN hm
            rw [hm, Bool.false_and] at hO
            rw [hO, if_neg (by decide)] at hG hE
            have HG := hide hG
            have HE := hide hE
            rw [e1]
            generalize tx (showS (4) (b)) = Z
            clear hS hN hm hG hE hO e1
            go_wp2
            have hz3 := two_cellsG (afterG (W := w9) HR9.out (.int .i64 0) (.string ⟨#[]⟩))
            refine bodyPost_ret (v := .tuple #[.agg #[.int .i64 0, .string ⟨#[]⟩], .int .i64 130]) (by simp [results, Tryz.results12, go_sem, hz3.1, hz3.2]) rfl ⟨by rw [HG.out, HE.out]; rfl, ?_⟩
            exact (P9.b.setCell (Nat.le_refl _) _).setCell (Nat.le_refl _) _
          | true =>
            obtain ⟨e1, e2⟩ := hS hm
            rw [hm, Bool.true_and] at hO
            rw [e1, e2]
            have hx : ((tx (showL (4) (b))).toList == (tx s).toList) = decide (showL (4) (b) = s) := bs_beq (showL (4) (b)) (tx s)
            by_cases hq : showL (4) (b) = s
            · rw [hO, decide_eq_true hq, if_pos rfl] at hG hE
              rw [decide_eq_true hq] at hx
              have HG := hide hG
              have HE := hide hE
              generalize tx (showL (4) (b)) = Z at *
              clear hS hN hm hG hE hO e1 e2 hq
              go_wp2
              have hz3 := two_cellsG (afterG (W := w9) HR9.out (.int .i64 (4)) (.string (tx (b))))
              refine bodyPost_ret (v := .tuple #[.agg #[.int .i64 (4), .string (tx (b))], .int .i64 0]) (by simp [results, Tryz.results12, go_sem, hz3.1, hz3.2]) rfl ⟨by rw [HG.out, HE.out], ?_⟩
              exact (P9.b.setCell (Nat.le_refl _) _).setCell (Nat.le_refl _) _
            · rw [hO, decide_eq_false hq, if_neg (by decide)] at hG hE
              rw [decide_eq_false hq] at hx
              have HG := hide hG
              have HE := hide hE
              generalize tx (showL (4) (b)) = Z at *
              clear hS hN hm hG hE hO e1 e2 hq
              go_wp2
              have hz3 := two_cellsG (afterG (W := w9) HR9.out (.int .i64 0) (.string ⟨#[]⟩))
              refine bodyPost_ret (v := .tuple #[.agg #[.int .i64 0, .string ⟨#[]⟩], .int .i64 130]) (by simp [results, Tryz.results12, go_sem, hz3.1, hz3.2]) rfl ⟨by rw [HG.out, HE.out]; rfl, ?_⟩
              exact (P9.b.setCell (Nat.le_refl _) _).setCell (Nat.le_refl _) _
        · rw [if_neg hq0] at hC
          have hq1 : (pansE (tx t) == 0) = false := by simpa using hq0
          generalize pansE (tx t) = E8 at *
          clear hq0
          replace hS := hS 0 []
          replace hN := hN 0 []
          -- what is tried, as letters
          generalize candD s = C at *
          subst hC
          simp only [] at d4 hO hG hE
          go_enter Tryz.func12, Tryz.ntmps12
          go_wp2_with fail
          refine (r1.out _).mono ?_
          rintro e w1 ⟨rfl, h1⟩
          have P1 : PS w 0 ⟨#[]⟩ w1 := by rw [h1]; exact PS.new w
          clear h1 r1
          -- r2: the contract; 2: the number; 1: the one ahead
          go_wp2_with fail
          refine (r2.out _).mono ?_
          rintro e w2 ⟨rfl, h2⟩
          have P2 := P1
          rw [← h2] at P2
          clear h2 r2 P1
          -- r3: the contract; 3: the number; 2: the one ahead
          go_wp2_with fail
          refine (r3.out _).mono ?_
          rintro e w3 ⟨rfl, h3⟩
          have P3 := P2
          rw [← h3] at P3
          clear h3 r3 P2
          go_wp2_with fail
          refine (d1.out _).mono ?_
          rintro e w4 ⟨a4, m4, c4, rfl, o4, B4⟩
          have P4 := P3.below B4
          have d2 := hide (he.out w4 a4 m4 c4 (o4.ats hz.out))
          clear d1 o4 B4 he P3
          go_wp2_with fail
          refine d2.out.mono ?_
          rintro e w5 ⟨a5, m5, c5, rfl, o5, B5⟩
          have P5 := P4.below B5
          clear d2 B5 P4
          clear o5
          -- r4: the contract; 8: the number; 5: the one ahead
          go_wp2_with fail
          refine (r4.out _).mono ?_
          rintro e w8 ⟨rfl, h8⟩
          have P8 := P5
          rw [← h8] at P8
          clear h8 r4 P5
          have P8 : PS w 0 (tx []) w8 := P8
          -- behind the last text's rest: the memory is P8, the general name 0, []
          have c0 := P8.cells.1
          have c1 := P8.cells.2.1
          go_wp2_with fail
          refine (d4.out _).mono ?_
          rintro e w9 ⟨rfl, B9⟩
          have P9 := P8.below B9
          clear d4 c0 c1 P8 B9
          obtain ⟨y0, y1, _, _⟩ := P9.cells
          obtain ⟨z0, z1, f0, f1⟩ := P9.res
          have HR9 := hide P9.r
          cases hm : mayG (0) ([]) with
          | false =>
            have e1 := hN hm
            rw [hm, Bool.false_and] at hO
            rw [hO, if_neg (by decide)] at hG hE
            have HG := hide hG
            have HE := hide hE
            rw [e1]
            generalize tx (showS (0) ([])) = Z
            clear hS hN hm hG hE hO e1
            go_wp2
            have hz3 := two_cellsG (afterG (W := w9) HR9.out (.int .i64 0) (.string ⟨#[]⟩))
            refine bodyPost_ret (v := .tuple #[.agg #[.int .i64 0, .string ⟨#[]⟩], .int .i64 130]) (by simp [results, Tryz.results12, go_sem, hz3.1, hz3.2]) rfl ⟨by rw [HG.out, HE.out]; rfl, ?_⟩
            exact (P9.b.setCell (Nat.le_refl _) _).setCell (Nat.le_refl _) _
          | true =>
            obtain ⟨e1, e2⟩ := hS hm
            rw [hm, Bool.true_and] at hO
            rw [e1, e2]
            have hx : ((tx (showL (0) ([]))).toList == (tx s).toList) = decide (showL (0) ([]) = s) := bs_beq (showL (0) ([])) (tx s)
            by_cases hq : showL (0) ([]) = s
            · rw [hO, decide_eq_true hq, if_pos rfl] at hG hE
              rw [decide_eq_true hq] at hx
              have HG := hide hG
              have HE := hide hE
              generalize tx (showL (0) ([])) = Z at *
              clear hS hN hm hG hE hO e1 e2 hq
              go_wp2
              have hz3 := two_cellsG (afterG (W := w9) HR9.out (.int .i64 (0)) (.string (tx ([]))))
              refine bodyPost_ret (v := .tuple #[.agg #[.int .i64 (0), .string (tx ([]))], .int .i64 0]) (by simp [results, Tryz.results12, go_sem, hz3.1, hz3.2]) rfl ⟨by rw [HG.out, HE.out], ?_⟩
              exact (P9.b.setCell (Nat.le_refl _) _).setCell (Nat.le_refl _) _
            · rw [hO, decide_eq_false hq, if_neg (by decide)] at hG hE
              rw [decide_eq_false hq] at hx
              have HG := hide hG
              have HE := hide hE
              generalize tx (showL (0) ([])) = Z at *
              clear hS hN hm hG hE hO e1 e2 hq
              go_wp2
              have hz3 := two_cellsG (afterG (W := w9) HR9.out (.int .i64 0) (.string ⟨#[]⟩))
              refine bodyPost_ret (v := .tuple #[.agg #[.int .i64 0, .string ⟨#[]⟩], .int .i64 130]) (by simp [results, Tryz.results12, go_sem, hz3.1, hz3.2]) rfl ⟨by rw [HG.out, HE.out]; rfl, ?_⟩
              exact (P9.b.setCell (Nat.le_refl _) _).setCell (Nat.le_refl _) _
      | false =>
        cases b4 : hdB (wIp ++ [58]) s with
        | false =>
          have hC := cand_none b1 b2 b3 b4
          rw [b1] at r1
          try rw [b2] at r2
          try rw [b3] at r3
          try rw [b4] at r4
          clear b1 b2 b3 b4
          generalize restL s (wMail ++ [58]) = T1 at *
          generalize restL s (wDns ++ [58]) = T2 at *
          generalize restL s (wName ++ [58]) = T3 at *
          generalize restL s (wIp ++ [58]) = T4 at *
          replace hS := hS 0 []
          replace hN := hN 0 []
          -- what is tried, as letters
          generalize candD s = C at *
          subst hC
          simp only [] at d4 hO hG hE
          go_enter Tryz.func12, Tryz.ntmps12
          go_wp2_with fail
          refine (r1.out _).mono ?_
          rintro e w1 ⟨rfl, h1⟩
          have P1 : PS w 0 ⟨#[]⟩ w1 := by rw [h1]; exact PS.new w
          clear h1 r1
          -- r2: the contract; 2: the number; 1: the one ahead
          go_wp2_with fail
          refine (r2.out _).mono ?_
          rintro e w2 ⟨rfl, h2⟩
          have P2 := P1
          rw [← h2] at P2
          clear h2 r2 P1
          -- r3: the contract; 3: the number; 2: the one ahead
          go_wp2_with fail
          refine (r3.out _).mono ?_
          rintro e w3 ⟨rfl, h3⟩
          have P3 := P2
          rw [← h3] at P3
          clear h3 r3 P2
          -- r4: the contract; 8: the number; 3: the one ahead
          go_wp2_with fail
          refine (r4.out _).mono ?_
          rintro e w8 ⟨rfl, h8⟩
          have P8 := P3
          rw [← h8] at P8
          clear h8 r4 P3
          have P8 : PS w 0 (tx []) w8 := P8
          -- behind the last text's rest: the memory is P8, the general name 0, []
          have c0 := P8.cells.1
          have c1 := P8.cells.2.1
          go_wp2_with fail
          refine (d4.out _).mono ?_
          rintro e w9 ⟨rfl, B9⟩
          have P9 := P8.below B9
          clear d4 c0 c1 P8 B9
          obtain ⟨y0, y1, _, _⟩ := P9.cells
          obtain ⟨z0, z1, f0, f1⟩ := P9.res
          have HR9 := hide P9.r
          cases hm : mayG (0) ([]) with
          | false =>
            have e1 := hN hm
            rw [hm, Bool.false_and] at hO
            rw [hO, if_neg (by decide)] at hG hE
            have HG := hide hG
            have HE := hide hE
            rw [e1]
            generalize tx (showS (0) ([])) = Z
            clear hS hN hm hG hE hO e1
            go_wp2
            have hz3 := two_cellsG (afterG (W := w9) HR9.out (.int .i64 0) (.string ⟨#[]⟩))
            refine bodyPost_ret (v := .tuple #[.agg #[.int .i64 0, .string ⟨#[]⟩], .int .i64 130]) (by simp [results, Tryz.results12, go_sem, hz3.1, hz3.2]) rfl ⟨by rw [HG.out, HE.out]; rfl, ?_⟩
            exact (P9.b.setCell (Nat.le_refl _) _).setCell (Nat.le_refl _) _
          | true =>
            obtain ⟨e1, e2⟩ := hS hm
            rw [hm, Bool.true_and] at hO
            rw [e1, e2]
            have hx : ((tx (showL (0) ([]))).toList == (tx s).toList) = decide (showL (0) ([]) = s) := bs_beq (showL (0) ([])) (tx s)
            by_cases hq : showL (0) ([]) = s
            · rw [hO, decide_eq_true hq, if_pos rfl] at hG hE
              rw [decide_eq_true hq] at hx
              have HG := hide hG
              have HE := hide hE
              generalize tx (showL (0) ([])) = Z at *
              clear hS hN hm hG hE hO e1 e2 hq
              go_wp2
              have hz3 := two_cellsG (afterG (W := w9) HR9.out (.int .i64 (0)) (.string (tx ([]))))
              refine bodyPost_ret (v := .tuple #[.agg #[.int .i64 (0), .string (tx ([]))], .int .i64 0]) (by simp [results, Tryz.results12, go_sem, hz3.1, hz3.2]) rfl ⟨by rw [HG.out, HE.out], ?_⟩
              exact (P9.b.setCell (Nat.le_refl _) _).setCell (Nat.le_refl _) _
            · rw [hO, decide_eq_false hq, if_neg (by decide)] at hG hE
              rw [decide_eq_false hq] at hx
              have HG := hide hG
              have HE := hide hE
              generalize tx (showL (0) ([])) = Z at *
              clear hS hN hm hG hE hO e1 e2 hq
              go_wp2
              have hz3 := two_cellsG (afterG (W := w9) HR9.out (.int .i64 0) (.string ⟨#[]⟩))
              refine bodyPost_ret (v := .tuple #[.agg #[.int .i64 0, .string ⟨#[]⟩], .int .i64 130]) (by simp [results, Tryz.results12, go_sem, hz3.1, hz3.2]) rfl ⟨by rw [HG.out, HE.out]; rfl, ?_⟩
              exact (P9.b.setCell (Nat.le_refl _) _).setCell (Nat.le_refl _) _
        | true =>
          obtain ⟨_, _, _, hC⟩ := cand_ip b4
          have q1 : restL s (wIp ++ [58]) = s.drop 3 := by unfold restL; rw [b4]; rfl
          rw [b1] at r1
          rw [q1] at r4
          try rw [b2] at r2
          try rw [b3] at r3
          try rw [b4] at r4
          clear b1 b2 b3 b4 q1
          generalize restL s (wMail ++ [58]) = T1 at *
          generalize restL s (wDns ++ [58]) = T2 at *
          generalize restL s (wName ++ [58]) = T3 at *
          have htl : (s.drop 3).length ≤ 1048576 := by simp; omega
          generalize s.drop 3 = l at *
          obtain ⟨b, hb⟩ : ∃ b, unhR l = b := ⟨_, rfl⟩
          rw [hb] at hC
          have HU := hide hb
          clear hb
          replace hS := hS 7 b
          replace hN := hN 7 b
          -- what is tried, as letters
          generalize candD s = C at *
          subst hC
          simp only [] at d4 hO hG hE
          go_enter Tryz.func12, Tryz.ntmps12
          go_wp2_with fail
          refine (r1.out _).mono ?_
          rintro e w1 ⟨rfl, h1⟩
          have P1 : PS w 0 ⟨#[]⟩ w1 := by rw [h1]; exact PS.new w
          clear h1 r1
          -- r2: the contract; 2: the number; 1: the one ahead
          go_wp2_with fail
          refine (r2.out _).mono ?_
          rintro e w2 ⟨rfl, h2⟩
          have P2 := P1
          rw [← h2] at P2
          clear h2 r2 P1
          -- r3: the contract; 3: the number; 2: the one ahead
          go_wp2_with fail
          refine (r3.out _).mono ?_
          rintro e w3 ⟨rfl, h3⟩
          have P3 := P2
          rw [← h3] at P3
          clear h3 r3 P2
          -- r4: the contract; 8: the number; 3: the one ahead
          go_wp2_with fail
          refine (r4.out _).mono ?_
          rintro e w8 ⟨rfl, h8⟩
          have P8 := P3
          rw [← h8] at P8
          clear h8 r4 P3
          have hgb := hide (fun (k : Nat) (h : k < (tx l).size) => get_bs (tx l) k h)
          rw [tx_list] at hgb
          have hz : (tx l).size = l.length := tx_size l
          have hzI : ((tx l).size : Int) = (l.length : Int) := by omega
          have hlI : (l.length : Int) ≤ 1048576 := by omega
          generalize tx l = L at *
          go_wp2
          go_loopw [11, 12] (fun v i wr => ∃ (k i2 : Nat) (aP : Option Addr) (cP : Nat) (M : List UInt8), v = .slice aP k cP ∧ i = .int .i64 i2 ∧ Hid (i2 = 2 * k ∧ M.length = k) ∧ i2 ≤ l.length ∧ Hid (OwnB wr w8.heap.size (.slice aP k cP) (nums M)) ∧ Hid (M = unhR (l.take i2)) ∧ Below w8.heap.size w8 wr) (fun _ i _ => l.length - (intOf i).toNat)
          case atStart => exact ⟨0, 0, none, 0, [], rfl, rfl, ⟨rfl, rfl⟩, Nat.zero_le _, OwnB.nil _ _, by unfold Hid; simp [unhR], Below.refl _ _⟩
          case round =>
            obtain ⟨k, i, aP, cP, M0, rfl, rfl, hi', hil, hW, hM, hB⟩ := hrel
            have hi := hide hi'.out.1
            have hM0 := hide hi'.out.2
            clear hi'
            obtain ⟨j, hj⟩ : ∃ j, i + 1 = j := ⟨_, rfl⟩
            have hij : (i : Int) + 1 = (j : Int) := by omega
            have i0 : (0 : Int) ≤ (i : Int) := by omega
            have j0 : (0 : Int) ≤ (j : Int) := by omega
            have HJ := hide hj
            have wj : IntKind.i64.wrap (j : Int) = (j : Int) := i64_in _ (by omega)
            by_cases hlt : j < l.length
            · have ltI : (j : Int) < (l.length : Int) := by omega
              have iI : (i : Int) < (l.length : Int) := by omega
              have his : i < L.size := by omega
              have hjs : j < L.size := by omega
              obtain ⟨x, hx⟩ : ∃ x, (L[i]'his) = x := ⟨_, rfl⟩
              obtain ⟨y, hy⟩ : ∃ y, (L[j]'hjs) = y := ⟨_, rfl⟩
              have hxd : l.getD i 0 = x := by rw [← hgb.out i his]; exact hx
              have hyd : l.getD j 0 = y := by rw [← hgb.out j hjs]; exact hy
              have hsn : Hid (unhR (l.take (i + 2)) = unhR (l.take i) ++ [UInt8.ofNat (rbI (nib x) (nib y))]) := by
                unfold Hid
                have e : l.take (i + 2) = l.take i ++ [x, y] := by
                  rw [show i + 2 = (i + 1) + 1 by omega, List.take_succ_eq_append_getElem (show i + 1 < l.length by omega), List.take_succ_eq_append_getElem (show i < l.length by omega)]
                  have e1 : l[i]'(by omega) = x := by rw [← hxd]; simp [List.getD, show i < l.length by omega]
                  have e2 : l[i + 1]'(by omega) = y := by
                    have e3 : l.getD (i + 1) 0 = y := by rw [← hyd]; congr 1
                    rw [← e3]; simp [List.getD, show i + 1 < l.length by omega]
                  rw [e1, e2]
                  simp
                rw [e, unhR_app k _ x y (by rw [List.length_take, ← hi.out]; omega)]
              have hwd := rb_word (nib x) (nib y)
              have HX := hide (fun W => value_any x W)
              have HY := hide (fun W => value_any y W)
              obtain ⟨t1, t2⟩ := nib_range x
              obtain ⟨t3, t4⟩ := nib_range y
              have hxI : ((L[i]'his).toNat : Int) = (x.toNat : Int) := by rw [hx]
              have hyI : ((L[j]'hjs).toNat : Int) = (y.toNat : Int) := by rw [hy]
              generalize nib x = a at *
              generalize nib y = c at *
              obtain ⟨X, hX⟩ : ∃ X : Int, (x.toNat : Int) = X := ⟨_, rfl⟩
              obtain ⟨Y, hY⟩ : ∃ Y : Int, (y.toNat : Int) = Y := ⟨_, rfl⟩
              rw [hX] at hxI HX
              rw [hY] at hyI HY
              have w16 : IntKind.i64.wrap (16 * a) = 16 * a := i64_in _ (by omega)
              have wab : IntKind.i64.wrap (16 * a + c) = 16 * a + c := i64_in _ (by omega)
              clear hx hy hxd hyd hX hY hj
              have HOd : Hid (OwnB wr.drew w8.heap.size (.slice aP k cP) (nums M0)) := hW.out.belowA (Below.refl _ _).drew
              have HBd := hide (hB.drew)
              have HLT := hide (fun q hq => (hW.out.lt q hq).1)
              clear hW
              go_wp2
              refine wp_region_held_drew (S := fun _ => True) (by kernel_rfl) trivial (fun hS => ?_)
              generalize wr.drew = X0 at *
              refine wpAnyH_take (i := 0) (v := ?_) rfl (by kernel_rfl) (by kernel_rfl) (by kernel_rfl) (fun _ _ _ h => h) (Or.inl ⟨by rfl, ?_⟩) (by assumption) ?_
              rotate_left
              · intro wq _
                go_simp
                try with_reducible rfl
              simp only [List.getElem_toArray, List.getElem_cons_zero, Act.put, List.setIfInBounds_toArray, List.set_cons_zero, List.set_cons_succ]
              refine wpAnyH_take (i := 1) (v := ?_) rfl (by kernel_rfl) (by kernel_rfl) (by kernel_rfl) (fun _ _ _ h => h) (Or.inl ⟨by rfl, ?_⟩) (by assumption) ?_
              rotate_left
              · intro wq _
                go_simp
                try with_reducible rfl
              simp only [List.getElem_toArray, List.getElem_cons_succ, List.getElem_cons_zero, Act.put, List.setIfInBounds_toArray, List.set_cons_zero, List.set_cons_succ]
              refine wpAnyH_take (i := 2) (v := ?_) rfl (by kernel_rfl) (by kernel_rfl) (by kernel_rfl) (fun _ _ _ h => h) (Or.inl ⟨by rfl, ?_⟩) (by assumption) ?_
              rotate_left
              · intro wq _
                go_simp
                try with_reducible rfl
              simp only [List.getElem_toArray, List.getElem_cons_succ, List.getElem_cons_zero, Act.put, List.setIfInBounds_toArray, List.set_cons_zero, List.set_cons_succ]
              refine wpAnyH_take (i := 3) (v := ?_) rfl (by kernel_rfl) (by kernel_rfl) (by kernel_rfl) (fun _ _ _ h => h) (Or.inl ⟨by rfl, ?_⟩) (by assumption) ?_
              rotate_left
              · intro wq _
                go_simp
                try with_reducible rfl
              simp only [List.getElem_toArray, List.getElem_cons_succ, List.getElem_cons_zero, Act.put, List.setIfInBounds_toArray, List.set_cons_zero, List.set_cons_succ]
              refine wpAnyH_take (i := 6) (v := ?_) rfl (by kernel_rfl) (by kernel_rfl) (by kernel_rfl) (fun _ _ _ h => h) (Or.inl ⟨by rfl, ?_⟩) (by assumption) ?_
              rotate_left
              · intro wq _
                go_simp
                try with_reducible rfl
              simp only [List.getElem_toArray, List.getElem_cons_succ, List.getElem_cons_zero, Act.put, List.setIfInBounds_toArray, List.set_cons_zero, List.set_cons_succ]
              refine wpAnyH_take (i := 7) (v := ?_) rfl (by kernel_rfl) (by kernel_rfl) (by kernel_rfl) (fun _ _ _ h => h) (Or.inl ⟨by rfl, ?_⟩) (by assumption) ?_
              rotate_left
              · intro wq _
                go_simp
                try with_reducible rfl
              simp only [List.getElem_toArray, List.getElem_cons_succ, List.getElem_cons_zero, Act.put, List.setIfInBounds_toArray, List.set_cons_zero, List.set_cons_succ]
              refine wpAnyH_take (i := 8) (v := ?_) rfl (by kernel_rfl) (by kernel_rfl) (by kernel_rfl) (fun _ _ _ h => h) (Or.inl ⟨by rfl, ?_⟩) (by assumption) ?_
              rotate_left
              · intro wq _
                go_simp
                try with_reducible rfl
              simp only [List.getElem_toArray, List.getElem_cons_succ, List.getElem_cons_zero, Act.put, List.setIfInBounds_toArray, List.set_cons_zero, List.set_cons_succ]
              refine wpAnyH_take (i := 9) (v := ?_) rfl (by kernel_rfl) (by kernel_rfl) (by kernel_rfl) (fun _ _ _ h => h) (Or.inl ⟨by rfl, ?_⟩) (by assumption) ?_
              rotate_left
              · intro wq _
                go_simp
                try with_reducible rfl
              simp only [List.getElem_toArray, List.getElem_cons_succ, List.getElem_cons_zero, Act.put, List.setIfInBounds_toArray, List.set_cons_zero, List.set_cons_succ]
              refine wpAnyH_ready (rs := [4]) (by kernel_rfl) (by simp) ?_
              refine AllReadyH.cons rfl (fun Kq hKq => ?_) AllReadyH.nil
              go_simp
              refine (HX.out _).mono ?_
              rintro e vv ⟨rfl, rfl⟩
              refine hKq.out _ _ trivial (fun _ => ?_)
              clear hKq Kq
              refine wpAnyH_take (i := 5) (v := ?_) rfl (by kernel_rfl) (by kernel_rfl) (by kernel_rfl) (fun _ _ _ h => h) (Or.inl ⟨by rfl, ?_⟩) (by assumption) ?_
              rotate_left
              · intro wq _
                go_simp
                try with_reducible rfl
              simp only [List.getElem_toArray, List.getElem_cons_succ, List.getElem_cons_zero, Act.put, List.setIfInBounds_toArray, List.set_cons_zero, List.set_cons_succ]
              refine wpAnyH_ready (rs := [10]) (by kernel_rfl) (by simp) ?_
              refine AllReadyH.cons rfl (fun Kq hKq => ?_) AllReadyH.nil
              go_simp
              refine (HY.out _).mono ?_
              rintro e vx ⟨rfl, rfl⟩
              refine hKq.out _ _ trivial (fun _ => ?_)
              clear hKq Kq
              refine wpAnyH_take (i := 11) (v := ?_) rfl (by kernel_rfl) (by kernel_rfl) (by kernel_rfl) (fun _ _ _ h => h) (Or.inl ⟨by rfl, ?_⟩) (by assumption) ?_
              rotate_left
              · intro wq _
                go_simp
                try with_reducible rfl
              simp only [List.getElem_toArray, List.getElem_cons_succ, List.getElem_cons_zero, Act.put, List.setIfInBounds_toArray, List.set_cons_zero, List.set_cons_succ]
              refine wpAnyH_take (i := 12) (v := ?_) rfl (by kernel_rfl) (by kernel_rfl) (by kernel_rfl) (fun _ _ _ h => h) (Or.inl ⟨by rfl, ?_⟩) (by assumption) ?_
              rotate_left
              · intro wq _
                go_simp
                try with_reducible rfl
              simp only [List.getElem_toArray, List.getElem_cons_succ, List.getElem_cons_zero, Act.put, List.setIfInBounds_toArray, List.set_cons_zero, List.set_cons_succ]
              refine wpAnyH_ready (rs := [13]) (by kernel_rfl) (by simp) ?_
              refine AllReadyH.cons rfl (fun Kq hKq => ?_) AllReadyH.nil
              go_simp
              refine hKq.out _ _ trivial (fun _ => ?_)
              clear hKq Kq
              obtain ⟨g4, c4, w4, hrun, ho4, hg4⟩ := app_byteH HOd.out (UInt8.ofNat (rbI a c)) (by rw [hM0.out]; have := hi.out; omega) HBd.out.size
              have hB4 := hide ((HBd.out.alloc HBd.out.size _).grown hg4 (by have := HBd.out.size; simp; omega) HLT.out)
              rw [hM0.out, hwd] at hrun
              rw [hM0.out] at ho4
              have hE2 : Hid (M0 ++ [UInt8.ofNat (rbI a c)] = unhR (l.take (i + 2))) := by
                unfold Hid
                rw [hsn.out, hM.out]
              generalize UInt8.ofNat (rbI a c) = N at *
              clear hg4 hsn hwd
              refine wpAnyH_ready (rs := [14]) (by kernel_rfl) (by simp) ?_
              refine AllReadyH.cons rfl (fun Kq hKq => ?_) AllReadyH.nil
              go_simp
              refine hKq.out _ _ trivial (fun _ => ?_)
              clear hKq Kq
              refine wpAnyH_ready (rs := [15]) (by kernel_rfl) (by simp) ?_
              refine AllReadyH.cons rfl (fun Kq hKq => ?_) AllReadyH.nil
              go_simp
              refine hKq.out _ _ trivial (fun _ => ?_)
              clear hKq Kq
              refine wpAnyH_done (by kernel_rfl) ?_ _
              go_wp2
              go_roundw
              case rel => exact ⟨k + 1, i + 2, some ⟨g4, 0, none⟩, c4, M0 ++ [N], rfl, by go_num, ⟨by have := hi.out; omega, by simp [hM0.out]⟩, by have := HJ.out; omega, ho4, hE2, hB4.out⟩
              case measure => simp [intOf]; have := HJ.out; omega
            · have nI : ¬ ((j : Int) < (l.length : Int)) := by omega
              have hMU : Hid (M0 = b) := by
                unfold Hid
                rw [← HU.out, hM.out]
                rcases Nat.lt_or_ge i l.length with h | h
                · have e : l = l.take i ++ [l[i]] := by
                    have e1 := List.take_succ_eq_append_getElem h
                    rw [← e1, List.take_of_length_le (by omega)]
                  conv => rhs; rw [e, unhR_odd k _ _ (by rw [List.length_take, ← hi.out]; omega)]
                · rw [List.take_of_length_le h]
              have ht := (OwnB.toSrc hW.out (nums_byte _)).text
              rw [nums_text, hMU.out] at ht
              have P7 := P8.below hB
              clear hj hil P8 hB
              obtain ⟨z0, z1, f0, f1⟩ := P7.cells
              go_wp2_with fail
              have P8 := P7.set 7 (tx b)
              have c0 := P8.cells.1
              have c1 := P8.cells.2.1
              clear z0 z1 f0 f1 P7
              refine (d4.out _).mono ?_
              rintro e w9 ⟨rfl, B9⟩
              have P9 := P8.below B9
              clear d4 c0 c1 P8 B9
              obtain ⟨y0, y1, _, _⟩ := P9.cells
              obtain ⟨z0, z1, f0, f1⟩ := P9.res
              have HR9 := hide P9.r
              cases hm : mayG (7) (b) with
              | false =>
                have e1 := hN hm
                rw [hm, Bool.false_and] at hO
                rw [hO, if_neg (by decide)] at hG hE
                have HG := hide hG
                have HE := hide hE
                rw [e1]
                generalize tx (showS (7) (b)) = Z
                clear hS hN hm hG hE hO e1
                go_wp2
                have hz3 := two_cellsG (afterG (W := w9) HR9.out (.int .i64 0) (.string ⟨#[]⟩))
                refine bodyPost_ret (v := .tuple #[.agg #[.int .i64 0, .string ⟨#[]⟩], .int .i64 130]) (by simp [results, Tryz.results12, go_sem, hz3.1, hz3.2]) rfl ⟨by rw [HG.out, HE.out]; rfl, ?_⟩
                exact (P9.b.setCell (Nat.le_refl _) _).setCell (Nat.le_refl _) _
              | true =>
                obtain ⟨e1, e2⟩ := hS hm
                rw [hm, Bool.true_and] at hO
                rw [e1, e2]
                have hx : ((tx (showL (7) (b))).toList == (tx s).toList) = decide (showL (7) (b) = s) := bs_beq (showL (7) (b)) (tx s)
                by_cases hq : showL (7) (b) = s
                · rw [hO, decide_eq_true hq, if_pos rfl] at hG hE
                  rw [decide_eq_true hq] at hx
                  have HG := hide hG
                  have HE := hide hE
                  generalize tx (showL (7) (b)) = Z at *
                  clear hS hN hm hG hE hO e1 e2 hq
                  go_wp2
                  have hz3 := two_cellsG (afterG (W := w9) HR9.out (.int .i64 (7)) (.string (tx (b))))
                  refine bodyPost_ret (v := .tuple #[.agg #[.int .i64 (7), .string (tx (b))], .int .i64 0]) (by simp [results, Tryz.results12, go_sem, hz3.1, hz3.2]) rfl ⟨by rw [HG.out, HE.out], ?_⟩
                  exact (P9.b.setCell (Nat.le_refl _) _).setCell (Nat.le_refl _) _
                · rw [hO, decide_eq_false hq, if_neg (by decide)] at hG hE
                  rw [decide_eq_false hq] at hx
                  have HG := hide hG
                  have HE := hide hE
                  generalize tx (showL (7) (b)) = Z at *
                  clear hS hN hm hG hE hO e1 e2 hq
                  go_wp2
                  have hz3 := two_cellsG (afterG (W := w9) HR9.out (.int .i64 0) (.string ⟨#[]⟩))
                  refine bodyPost_ret (v := .tuple #[.agg #[.int .i64 0, .string ⟨#[]⟩], .int .i64 130]) (by simp [results, Tryz.results12, go_sem, hz3.1, hz3.2]) rfl ⟨by rw [HG.out, HE.out]; rfl, ?_⟩
                  exact (P9.b.setCell (Nat.le_refl _) _).setCell (Nat.le_refl _) _

end Go.Proofs.YthnfhkmonfkceaaGreatDoor
