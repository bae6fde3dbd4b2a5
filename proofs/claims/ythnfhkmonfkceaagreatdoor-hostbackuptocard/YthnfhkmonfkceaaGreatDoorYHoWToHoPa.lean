/-
  The statements' own calls names, works and there answer true.
  The statement HostShows: its walk.
  host.Parse.
-/
import Derived.Test.YthnfhkmonfkceaaGreatDoorYHoEToHoMm
import Derived.Deep.RegionHeld3
import Derived.Test.YthnfhkmonfkceaaGreatDoorYHoSh3ToHoR4
import Derived.Test.YthnfhkmonfkceaaGreatDoorYHoRSh2
namespace Go.Proofs.YthnfhkmonfkceaaGreatDoor
open Go.RowKit Go.Shelf Go.IntWalk

set_option maxRecDepth 100000 in
theorem names_any (w : World) : Calls Tryz.prog 26 #[] w fun e w' => e = .returned (.bool true) ∧ w' = w := by
  go_enter Tryz.func26, Tryz.ntmps26
  go_wp2
  go_ret
  exact ⟨rfl, rfl⟩

set_option maxRecDepth 100000 in
set_option maxHeartbeats 1000000 in
theorem works_any (m : Int) (w : World) (hm : ML w m) :
    Calls Tryz.prog 10 #[] w fun e w' => e = .returned (.bool true) ∧ Below w.heap.size w w' := by
  have e1 : dnsL [97, 46, 98] = true := by decide
  have e2 : wildL [42, 46, 97, 46, 98] = true := by decide
  have e3 : mailL [97, 64, 98] = true := by decide
  have e4 : ipL [49, 50, 51, 52] = true := by decide
  have d1 : Hid (∀ W, ML W m → Calls Tryz.prog 22 #[.string ⟨#[97, 46, 98]⟩] W fun e w' => e = .returned (.bool true) ∧ Below W.heap.size W w') := fun W h => by have := dns_any [97, 46, 98] (by decide) m W h; rw [e1] at this; exact this
  have d2 : Hid (∀ W, ML W m → Calls Tryz.prog 23 #[.string ⟨#[42, 46, 97, 46, 98]⟩] W fun e w' => e = .returned (.bool true) ∧ Below W.heap.size W w') := fun W h => by have := wild_any [42, 46, 97, 46, 98] (by decide) m W h; rw [e2] at this; exact this
  have d3 : Hid (∀ W, ML W m → Calls Tryz.prog 24 #[.string ⟨#[97, 64, 98]⟩] W fun e w' => e = .returned (.bool true) ∧ Below W.heap.size W w') := fun W h => by have := email_any [97, 64, 98] (by decide) m W h; rw [e3] at this; exact this
  have d4 : Hid (∀ W, Calls Tryz.prog 25 #[.string ⟨#[49, 50, 51, 52]⟩] W fun e w' => e = .returned (.bool true) ∧ w' = W) := fun W => by have := ip_any [49, 50, 51, 52] W; rw [e4] at this; exact this
  have d5 := hide names_any
  have HM := hide hm
  clear e1 e2 e3 e4 hm
  go_enter Tryz.func10, Tryz.ntmps10
  go_wp2_with (first
    | (go_at_call 22; refine (d1.out _ HM.out).mono ?_; rintro e w1 ⟨rfl, h1⟩; have hm1 := hide (HM.out.below h1))
    | (go_at_call 23; refine (d2.out _ hm1.out).mono ?_; rintro e w2 ⟨rfl, h2⟩; have hm2 := hide (hm1.out.below h2))
    | (go_at_call 24; refine (d3.out _ hm2.out).mono ?_; rintro e w3 ⟨rfl, h3⟩)
    | (go_at_call 25; refine (d4.out _).mono ?_; rintro e w4 ⟨rfl, h4⟩; subst h4)
    | (go_at_call 26; refine (d5.out _).mono ?_; rintro e w5 ⟨rfl, h5⟩; subst h5))
  go_ret
  exact ⟨rfl, (h1.trans (h2.mono h1.size)).trans (h3.mono (Nat.le_trans h1.size h2.size))⟩

set_option maxRecDepth 100000 in
set_option maxHeartbeats 1000000 in
theorem there_any (m : Int) (w : World) (hm : ML w m) :
    Calls Tryz.prog 13 #[] w fun e w' => e = .returned (.bool true) ∧ Below w.heap.size w w' := by
  have e1 : dnsL [97, 46, 98] = true := by decide
  have d1 : Hid (∀ W, ML W m → Calls Tryz.prog 22 #[.string ⟨#[97, 46, 98]⟩] W fun e w' => e = .returned (.bool true) ∧ Below W.heap.size W w') := fun W h => by have := dns_any [97, 46, 98] (by decide) m W h; rw [e1] at this; exact this
  have d2 : Hid (∀ W, ML W m → Calls Tryz.prog 22 #[.string ⟨#[]⟩] W fun e w' => e = .returned (.bool false) ∧ Below W.heap.size W w') := fun W h => by have := dns_any [] (by decide) m W h; rw [dnsL_nil] at this; exact this
  have HM := hide hm
  clear e1 hm
  go_enter Tryz.func13, Tryz.ntmps13
  go_wp2_with (first
    | (go_at_call_of 22 (Value.string ⟨#[97, 46, 98]⟩); refine (d1.out _ HM.out).mono ?_; rintro e w1 ⟨rfl, h1⟩; have hm1 := hide (HM.out.below h1))
    | (go_at_call_of 22 (Value.string ⟨#[]⟩); refine (d2.out _ hm1.out).mono ?_; rintro e w2 ⟨rfl, h2⟩))
  go_ret
  exact ⟨rfl, h1.trans (h2.mono h1.size)⟩

end Go.Proofs.YthnfhkmonfkceaaGreatDoor

namespace Go.Proofs.YthnfhkmonfkceaaGreatDoor
open Go.RowKit Go.IntWalk Go.Shelf

/-- A general name's box. -/
def OneG (B : Nat) (k : Int) (b : ByteArray) (W : World) : Prop := W.cell? ⟨B, 0, none⟩ = some (.int .i64 k) ∧ W.cell? ⟨B, 1, none⟩ = some (.string b)
theorem OneG.below {B : Nat} {k : Int} {b : ByteArray} {A C : World} (h : OneG B k b A) (hb : Below A.heap.size A C) : OneG B k b C :=
  ⟨(hb.cell (lt_of_cell h.1)).trans h.1, (hb.cell (lt_of_cell h.2)).trans h.2⟩

set_option maxRecDepth 100000 in
set_option maxHeartbeats 4000000 in
theorem hostShows_walk (k : Int) (b : List UInt8) (hk : (Lit.int .i64 k).wf = true) (hb : b.length ≤ 1048576) (m : Int) (w : World) (hw : Hw w m) :
    Calls Tryz.prog 3 #[.agg #[.int .i64 k, .string (tx b)]] w fun e w' => e = .returned (.bool true) ∧ Below w.heap.size w w' := by
  have C1 := hide (fun W (h : Hw W m) => showH_any k hk b hb m W h)
  have C2 : Hid (∀ W, Hw W m → Calls Tryz.prog 7 #[.agg #[.int .i64 k, .string (tx b)]] W fun e w' => e = .returned (.tuple #[.string (tx (showS k b)), .int .i64 (showE k b)]) ∧ Below W.heap.size W w') := fun W _ => refShow_any k b hb W
  have C3 : Hid (∀ W, Hw W m → Calls Tryz.prog 8 #[.agg #[.int .i64 k, .string (tx b)]] W fun e w' => e = .returned (.bool (mayG k b)) ∧ Below W.heap.size W w') := fun W h => (mayG_kp W k hk b hb m W (Kp.refl h.1)).mono fun _ _ ⟨h1, h2, _⟩ => ⟨h1, h2⟩
  have C4 : Hid (∀ W, Hw W m → Calls Tryz.prog 9 #[.agg #[.int .i64 k, .string (tx b)]] W fun e w' => e = .returned (.bool (mayG k b)) ∧ Below W.heap.size W w') := fun W _ => rgen_any k b hb W
  have C5 : Hid (∀ W, Hw W m → Calls Tryz.prog 10 #[] W fun e w' => e = .returned (.bool true) ∧ Below W.heap.size W w') := fun W h => works_any m W h.1
  have BX := nbelowW w (.cells #[.int .i64 k, .string (tx b)] 23)
  have hX : OneG w.heap.size k (tx b) (w.alloc (.cells #[.int .i64 k, .string (tx b)] 23)) := ⟨by simp, by simp⟩
  have KX := hide (hw.below BX)
  have HB0 := hide BX
  have qs : ((tx (showS k b)).toList == (tx (showS k b)).toList) = true := by simp
  have qe : (showE k b == showE k b) = true := by simp
  generalize tx (showS k b) = Z at *
  generalize showE k b = E at *
  generalize mayG k b = M at *
  have qm : (M == M) = true := by simp
  clear hw BX hk hb
  generalize tx b = t at *
  obtain ⟨x0, x1⟩ := hX
  go_enter Tryz.func3, Tryz.ntmps3
  go_wp2_with fail
  refine (C1.out _ KX.out).mono ?_
  rintro e w1 ⟨rfl, B1⟩
  have KX1 := hide (KX.out.below B1)
  have HB1 := hide (HB0.out.trans (B1.mono HB0.out.size))
  have y0 := (B1.cell (lt_of_cell x0)).trans x0
  have y1 := (B1.cell (lt_of_cell x1)).trans x1
  clear C1 KX HB0 B1 x0 x1
  go_wp2_with fail
  refine (C2.out _ KX1.out).mono ?_
  rintro e w2 ⟨rfl, B2⟩
  have KV := hide (KX1.out.below (B2.drew))
  have HB := hide (HB1.out.trans ((B2.drew).mono HB1.out.size))
  have hSt : OneG w.heap.size k t w2.drew := OneG.below ⟨y0, y1⟩ B2.drew
  clear C2 KX1 HB1 B2 y0 y1
  go_wp2_with fail
  refine wp_region_held_drew (S := OneG w.heap.size k t) (by kernel_rfl) hSt (fun hS => ?_)
  clear hSt
  generalize w2.drew = X0 at *
  refine wpAnyH_take (i := 0) (v := ?_) rfl (by kernel_rfl) (by kernel_rfl) (by kernel_rfl) (fun _ _ _ h => h) (Or.inl ⟨by rfl, ?_⟩) (by assumption) ?_
  rotate_left
  · intro wq hSq
    obtain ⟨r0, r1⟩ := hSq
    go_simp
    try with_reducible rfl
  simp only [List.getElem_toArray, List.getElem_cons_zero, Act.put, List.setIfInBounds_toArray, List.set_cons_zero, List.set_cons_succ]
  refine wpAnyH_take (i := 2) (v := ?_) rfl (by kernel_rfl) (by kernel_rfl) (by kernel_rfl) (fun _ _ _ h => h) (Or.inl ⟨by rfl, ?_⟩) (by assumption) ?_
  rotate_left
  · intro wq hSq
    obtain ⟨r0, r1⟩ := hSq
    go_simp
    try with_reducible rfl
  simp only [List.getElem_toArray, List.getElem_cons_succ, List.getElem_cons_zero, Act.put, List.setIfInBounds_toArray, List.set_cons_zero, List.set_cons_succ]
  refine wpAnyH_ready (rs := [1]) (by kernel_rfl) (by simp) ?_
  refine AllReadyH.cons rfl (fun Kq hKq => ?_) AllReadyH.nil
  go_simp
  refine (C3.out _ KV.out).mono ?_
  rintro e vv ⟨rfl, BV⟩
  replace hS := hS.below BV
  refine hKq.out _ _ hS (fun _ => ?_)
  have KV' := hide (KV.out.below BV)
  have HB' := hide (HB.out.trans (BV.mono HB.out.size))
  clear hKq Kq KV BV HB
  have KV := KV'
  have HB := HB'
  clear KV' HB'
  refine wpAnyH_ready (rs := [3]) (by kernel_rfl) (by simp) ?_
  refine AllReadyH.cons rfl (fun Kq hKq => ?_) AllReadyH.nil
  go_simp
  refine (C4.out _ KV.out).mono ?_
  rintro e vv ⟨rfl, BV⟩
  replace hS := hS.below BV
  refine hKq.out _ _ hS (fun _ => ?_)
  have KV' := hide (KV.out.below BV)
  have HB' := hide (HB.out.trans (BV.mono HB.out.size))
  clear hKq Kq KV BV HB
  have KV := KV'
  have HB := HB'
  clear KV' HB'
  refine wpAnyH_take (i := 4) (v := ?_) rfl (by kernel_rfl) (by kernel_rfl) (by kernel_rfl) (fun _ _ _ h => h) (Or.inl ⟨by rfl, ?_⟩) (by assumption) ?_
  rotate_left
  · intro wq hSq
    obtain ⟨r0, r1⟩ := hSq
    go_simp
    try with_reducible rfl
  simp only [List.getElem_toArray, List.getElem_cons_succ, List.getElem_cons_zero, Act.put, List.setIfInBounds_toArray, List.set_cons_zero, List.set_cons_succ]
  refine wpAnyH_take (i := 5) (v := ?_) rfl (by kernel_rfl) (by kernel_rfl) (by kernel_rfl) (fun _ _ _ h => h) (Or.inl ⟨by rfl, ?_⟩) (by assumption) ?_
  rotate_left
  · intro wq hSq
    obtain ⟨r0, r1⟩ := hSq
    go_simp
    try with_reducible rfl
  simp only [List.getElem_toArray, List.getElem_cons_succ, List.getElem_cons_zero, Act.put, List.setIfInBounds_toArray, List.set_cons_zero, List.set_cons_succ]
  refine wpAnyH_take (i := 6) (v := ?_) rfl (by kernel_rfl) (by kernel_rfl) (by kernel_rfl) (fun _ _ _ h => h) (Or.inl ⟨by rfl, ?_⟩) (by assumption) ?_
  rotate_left
  · intro wq hSq
    obtain ⟨r0, r1⟩ := hSq
    go_simp
    try with_reducible rfl
  simp only [List.getElem_toArray, List.getElem_cons_succ, List.getElem_cons_zero, Act.put, List.setIfInBounds_toArray, List.set_cons_zero, List.set_cons_succ]
  refine wpAnyH_take (i := 7) (v := ?_) rfl (by kernel_rfl) (by kernel_rfl) (by kernel_rfl) (fun _ _ _ h => h) (Or.inl ⟨by rfl, ?_⟩) (by assumption) ?_
  rotate_left
  · intro wq hSq
    obtain ⟨r0, r1⟩ := hSq
    go_simp
    try with_reducible rfl
  simp only [List.getElem_toArray, List.getElem_cons_succ, List.getElem_cons_zero, Act.put, List.setIfInBounds_toArray, List.set_cons_zero, List.set_cons_succ]
  refine wpAnyH_take (i := 8) (v := ?_) rfl (by kernel_rfl) (by kernel_rfl) (by kernel_rfl) (fun _ _ _ h => h) (Or.inl ⟨by rfl, ?_⟩) (by assumption) ?_
  rotate_left
  · intro wq hSq
    obtain ⟨r0, r1⟩ := hSq
    go_simp
    try with_reducible rfl
  simp only [List.getElem_toArray, List.getElem_cons_succ, List.getElem_cons_zero, Act.put, List.setIfInBounds_toArray, List.set_cons_zero, List.set_cons_succ]
  refine wpAnyH_take (i := 9) (v := ?_) rfl (by kernel_rfl) (by kernel_rfl) (by kernel_rfl) (fun _ _ _ h => h) (Or.inl ⟨by rfl, ?_⟩) (by assumption) ?_
  rotate_left
  · intro wq hSq
    obtain ⟨r0, r1⟩ := hSq
    go_simp
    try with_reducible rfl
  simp only [List.getElem_toArray, List.getElem_cons_succ, List.getElem_cons_zero, Act.put, List.setIfInBounds_toArray, List.set_cons_zero, List.set_cons_succ]
  refine wpAnyH_take (i := 10) (v := ?_) rfl (by kernel_rfl) (by kernel_rfl) (by kernel_rfl) (fun _ _ _ h => h) (Or.inl ⟨by rfl, ?_⟩) (by assumption) ?_
  rotate_left
  · intro wq hSq
    obtain ⟨r0, r1⟩ := hSq
    go_simp
    try with_reducible rfl
  simp only [List.getElem_toArray, List.getElem_cons_succ, List.getElem_cons_zero, Act.put, List.setIfInBounds_toArray, List.set_cons_zero, List.set_cons_succ]
  refine wpAnyH_take (i := 11) (v := ?_) rfl (by kernel_rfl) (by kernel_rfl) (by kernel_rfl) (fun _ _ _ h => h) (Or.inl ⟨by rfl, ?_⟩) (by assumption) ?_
  rotate_left
  · intro wq hSq
    obtain ⟨r0, r1⟩ := hSq
    go_simp
    try with_reducible rfl
  simp only [List.getElem_toArray, List.getElem_cons_succ, List.getElem_cons_zero, Act.put, List.setIfInBounds_toArray, List.set_cons_zero, List.set_cons_succ]
  refine wpAnyH_take (i := 12) (v := ?_) rfl (by kernel_rfl) (by kernel_rfl) (by kernel_rfl) (fun _ _ _ h => h) (Or.inl ⟨by rfl, ?_⟩) (by assumption) ?_
  rotate_left
  · intro wq hSq
    obtain ⟨r0, r1⟩ := hSq
    go_simp
    try with_reducible rfl
  simp only [List.getElem_toArray, List.getElem_cons_succ, List.getElem_cons_zero, Act.put, List.setIfInBounds_toArray, List.set_cons_zero, List.set_cons_succ]
  refine wpAnyH_take (i := 13) (v := ?_) rfl (by kernel_rfl) (by kernel_rfl) (by kernel_rfl) (fun _ _ _ h => h) (Or.inl ⟨by rfl, ?_⟩) (by assumption) ?_
  rotate_left
  · intro wq hSq
    obtain ⟨r0, r1⟩ := hSq
    go_simp
    try with_reducible rfl
  simp only [List.getElem_toArray, List.getElem_cons_succ, List.getElem_cons_zero, Act.put, List.setIfInBounds_toArray, List.set_cons_zero, List.set_cons_succ]
  refine wpAnyH_take (i := 14) (v := ?_) rfl (by kernel_rfl) (by kernel_rfl) (by kernel_rfl) (fun _ _ _ h => h) (Or.inl ⟨by rfl, ?_⟩) (by assumption) ?_
  rotate_left
  · intro wq hSq
    obtain ⟨r0, r1⟩ := hSq
    go_simp
    try with_reducible rfl
  simp only [List.getElem_toArray, List.getElem_cons_succ, List.getElem_cons_zero, Act.put, List.setIfInBounds_toArray, List.set_cons_zero, List.set_cons_succ]
  refine wpAnyH_take (i := 15) (v := ?_) rfl (by kernel_rfl) (by kernel_rfl) (by kernel_rfl) (fun _ _ _ h => h) (Or.inl ⟨by rfl, ?_⟩) (by assumption) ?_
  rotate_left
  · intro wq hSq
    obtain ⟨r0, r1⟩ := hSq
    go_simp
    try with_reducible rfl
  simp only [List.getElem_toArray, List.getElem_cons_succ, List.getElem_cons_zero, Act.put, List.setIfInBounds_toArray, List.set_cons_zero, List.set_cons_succ]
  refine wpAnyH_ready (rs := [16]) (by kernel_rfl) (by simp) ?_
  refine AllReadyH.cons rfl (fun Kq hKq => ?_) AllReadyH.nil
  go_simp
  refine (C5.out _ KV.out).mono ?_
  rintro e vv ⟨rfl, BV⟩
  replace hS := hS.below BV
  refine hKq.out _ _ hS (fun _ => ?_)
  have KV' := hide (KV.out.below BV)
  have HB' := hide (HB.out.trans (BV.mono HB.out.size))
  clear hKq Kq KV BV HB
  have KV := KV'
  have HB := HB'
  clear KV' HB'
  refine wpAnyH_take (i := 17) (v := ?_) rfl (by kernel_rfl) (by kernel_rfl) (by kernel_rfl) (fun _ _ _ h => h) (Or.inl ⟨by rfl, ?_⟩) (by assumption) ?_
  rotate_left
  · intro wq hSq
    obtain ⟨r0, r1⟩ := hSq
    go_simp
    try with_reducible rfl
  simp only [List.getElem_toArray, List.getElem_cons_succ, List.getElem_cons_zero, Act.put, List.setIfInBounds_toArray, List.set_cons_zero, List.set_cons_succ]
  refine wpAnyH_take (i := 18) (v := ?_) rfl (by kernel_rfl) (by kernel_rfl) (by kernel_rfl) (fun _ _ _ h => h) (Or.inl ⟨by rfl, ?_⟩) (by assumption) ?_
  rotate_left
  · intro wq hSq
    obtain ⟨r0, r1⟩ := hSq
    go_simp
    try with_reducible rfl
  simp only [List.getElem_toArray, List.getElem_cons_succ, List.getElem_cons_zero, Act.put, List.setIfInBounds_toArray, List.set_cons_zero, List.set_cons_succ]
  refine wpAnyH_done (by kernel_rfl) ?_ _
  clear hS
  go_wp2
  go_ret
  exact ⟨rfl, HB.out⟩

end Go.Proofs.YthnfhkmonfkceaaGreatDoor

namespace Go.Proofs.YthnfhkmonfkceaaGreatDoor
open Go.RowKit Go.IntWalk Go.Shelf

set_option maxRecDepth 100000 in
set_option maxHeartbeats 2000000 in
theorem parseH_any (s : List UInt8) (hs : s.length ≤ 1048576) (m : Int) (w : World) (hw : Hw w m) :
    Calls Tryz.prog 11 #[.string (tx s)] w fun e w' => e = .returned (.tuple #[.agg #[.int .i64 (hparG s).1, .string (tx (hparG s).2)], .int .i64 (hparE s)]) ∧ Below w.heap.size w w' := by
  have hcr := cutD_rest 58 s
  have d1 : Hid (∀ W, Hw W m → Calls Tryz.prog 27 #[.string (tx s), .string ⟨#[58]⟩] W fun e w' => e = .returned (.tuple #[.string (tx (cutD 58 s).1), .string (tx (cutD 58 s).2.1), .bool (cutD 58 s).2.2]) ∧ Below W.heap.size W w') := fun W h => cut_any s 58 hs m W h.1
  have d2 : Hid (∀ W, Hw W m → Calls Tryz.prog 29 #[.string (tx (cutD 58 s).1)] W fun e w' => e = .returned (.int .i64 (candH s).1) ∧ w' = W) := fun W h => kindOf_any _ W h.2.2
  have d3 : Hid (∀ W, Hw W m → Calls Tryz.prog 28 #[.int .i64 (candH s).1, .string (tx (cutD 58 s).2.1)] W fun e w' => e = .returned (.agg #[.int .i64 (candH s).1, .string (tx (candH s).2)]) ∧ Below W.heap.size W w') := fun W h => parsedH_any _ _ (Nat.le_trans hcr.1 hs) m W h
  have d4 : Hid (∀ W, Hw W m → Calls Tryz.prog 6 #[.agg #[.int .i64 (candH s).1, .string (tx (candH s).2)]] W fun e w' => e = .returned (.tuple #[.string (tx (showS (candH s).1 (candH s).2)), .int .i64 (showE (candH s).1 (candH s).2)]) ∧ Below W.heap.size W w') := fun W h => showH_any _ (kindU_wf _) _ (candH_len hs) m W h
  have hO : okC s (candH s) = (mayG (candH s).1 (candH s).2 && decide (showL (candH s).1 (candH s).2 = s)) := rfl
  have hG : hparG s = if okC s (candH s) then candH s else (0, []) := rfl
  have hE : hparE s = if okC s (candH s) then 0 else 130 := rfl
  generalize (cutD 58 s).1 = U at *
  generalize (cutD 58 s).2.1 = R at *
  generalize (cutD 58 s).2.2 = F at *
  generalize candH s = C at *
  obtain ⟨k, b⟩ := C
  simp only [] at d2 d3 d4 hO hG hE
  have hS : mayG k b = true → showS k b = showL k b ∧ showE k b = 0 := fun h => by unfold showS showE; rw [h]; exact ⟨rfl, rfl⟩
  have hN : mayG k b = false → showE k b = 130 := fun h => by unfold showE; rw [h]; rfl
  have BX := nbelowW w (.cells #[.int .i64 0, .string ⟨#[]⟩] 23)
  have hr0 : (w.alloc (.cells #[.int .i64 0, .string ⟨#[]⟩] 23)).heap[w.heap.size]? = some (.cells #[.int .i64 0, .string ⟨#[]⟩] 23) := heap_alloc_new _ _
  have KX := hide (hw.below BX)
  have HR := hide hr0
  have HB := hide BX
  clear hcr hs hw BX hr0
  go_enter Tryz.func11, Tryz.ntmps11
  go_wp2_with fail
  refine (d1.out _ KX.out).mono ?_
  rintro e w1 ⟨rfl, B1⟩
  have KX1 := hide (KX.out.below B1)
  have HB1 := hide (HB.out.trans (B1.mono HB.out.size))
  have HR1 := hide ((B1.block _ (Array.getElem?_eq_some_iff.1 HR.out).1).trans HR.out)
  clear d1 KX HB HR B1
  go_wp2_with fail
  refine (d2.out _ KX1.out).mono ?_
  rintro e w2 ⟨rfl, rfl⟩
  go_wp2_with fail
  refine (d3.out _ KX1.out).mono ?_
  rintro e w3 ⟨rfl, B3⟩
  have KX3 := hide (KX1.out.below B3)
  have HB3 := hide (HB1.out.trans (B3.mono HB1.out.size))
  have HR3 := hide ((B3.block _ (Array.getElem?_eq_some_iff.1 HR1.out).1).trans HR1.out)
  clear d2 d3 KX1 HB1 HR1 B3
  have BY := nbelowW w3 (.cells #[.int .i64 k, .string (tx b)] 23)
  have c0 : (w3.alloc (.cells #[.int .i64 k, .string (tx b)] 23)).cell? ⟨w3.heap.size, 0, none⟩ = some (.int .i64 k) := by simp
  have c1 : (w3.alloc (.cells #[.int .i64 k, .string (tx b)] 23)).cell? ⟨w3.heap.size, 1, none⟩ = some (.string (tx b)) := by simp
  have KX4 := hide (KX3.out.below BY)
  have HB4 := hide (HB3.out.trans (BY.mono HB3.out.size))
  have HR4 := hide ((BY.block _ (Array.getElem?_eq_some_iff.1 HR3.out).1).trans HR3.out)
  clear KX3 HB3 HR3 BY
  go_wp2_with fail
  refine (d4.out _ KX4.out).mono ?_
  rintro e w5 ⟨rfl, B5⟩
  have k0 := (B5.cell (lt_of_cell c0)).trans c0
  have k1 := (B5.cell (lt_of_cell c1)).trans c1
  have HB5 := hide (HB4.out.trans (B5.mono HB4.out.size))
  have hr5 := (B5.block _ (Array.getElem?_eq_some_iff.1 HR4.out).1).trans HR4.out
  have z0 : w5.cell? ⟨w.heap.size, 0, none⟩ = some (.int .i64 0) := by simp [World.cell?, hr5]
  have z1 : w5.cell? ⟨w.heap.size, 1, none⟩ = some (.string ⟨#[]⟩) := by simp [World.cell?, hr5]
  have f0 : w5.frozen? ⟨w.heap.size, 0, none⟩ = false := by simp [World.frozen?, hr5]
  have f1 : w5.frozen? ⟨w.heap.size, 1, none⟩ = false := by simp [World.frozen?, hr5]
  have HR5 := hide hr5
  clear d4 KX4 HB4 HR4 B5 c0 c1 hr5
  cases hm : mayG k b with
  | false =>
    have e1 := hN hm
    rw [hm, Bool.false_and] at hO
    rw [hO, if_neg (by decide)] at hG hE
    have HG := hide hG
    have HE := hide hE
    rw [e1]
    generalize tx (showS k b) = Z
    clear hS hN hm hG hE hO e1
    go_wp2
    have hz3 := two_cellsG (afterG (W := w5) HR5.out (.int .i64 0) (.string ⟨#[]⟩))
    refine bodyPost_ret (v := .tuple #[.agg #[.int .i64 0, .string ⟨#[]⟩], .int .i64 130]) (by simp [results, Tryz.results11, go_sem, hz3.1, hz3.2]) rfl ⟨by rw [HG.out, HE.out]; rfl, ?_⟩
    exact (HB5.out.setCell (Nat.le_refl _) _).setCell (Nat.le_refl _) _
  | true =>
    obtain ⟨e1, e2⟩ := hS hm
    rw [hm, Bool.true_and] at hO
    rw [e1, e2]
    have hx : ((tx (showL k b)).toList == (tx s).toList) = decide (showL k b = s) := bs_beq (showL k b) (tx s)
    by_cases hq : showL k b = s
    · rw [hO, decide_eq_true hq, if_pos rfl] at hG hE
      rw [decide_eq_true hq] at hx
      have HG := hide hG
      have HE := hide hE
      generalize tx (showL k b) = Z at *
      clear hS hN hm hG hE hO e1 e2 hq
      go_wp2
      have hz3 := two_cellsG (afterG (W := w5) HR5.out (.int .i64 k) (.string (tx b)))
      refine bodyPost_ret (v := .tuple #[.agg #[.int .i64 k, .string (tx b)], .int .i64 0]) (by simp [results, Tryz.results11, go_sem, hz3.1, hz3.2]) rfl ⟨by rw [HG.out, HE.out], ?_⟩
      exact (HB5.out.setCell (Nat.le_refl _) _).setCell (Nat.le_refl _) _
    · rw [hO, decide_eq_false hq, if_neg (by decide)] at hG hE
      rw [decide_eq_false hq] at hx
      have HG := hide hG
      have HE := hide hE
      generalize tx (showL k b) = Z at *
      clear hS hN hm hG hE hO e1 e2 hq
      go_wp2
      have hz3 := two_cellsG (afterG (W := w5) HR5.out (.int .i64 0) (.string ⟨#[]⟩))
      refine bodyPost_ret (v := .tuple #[.agg #[.int .i64 0, .string ⟨#[]⟩], .int .i64 130]) (by simp [results, Tryz.results11, go_sem, hz3.1, hz3.2]) rfl ⟨by rw [HG.out, HE.out]; rfl, ?_⟩
      exact (HB5.out.setCell (Nat.le_refl _) _).setCell (Nat.le_refl _) _

end Go.Proofs.YthnfhkmonfkceaaGreatDoor
