/-
  The statement ExtSmall: its walk.
-/
import Derived.Test.YtaeddbkkkiefcaaExTri
namespace Go.Proofs.Ytaeddbkkkiefcaa
open Go.RowKit Go.IntWalk
attribute [local go_sem ↓] ld_key

/-- A call that answers these bytes, in new memory, and this error. -/
def Face (f : Nat) (args : Array Value) (C : List Int) (E : Int) : Prop := ∀ W, Calls Try.prog f args W fun e w' => ∃ a m c, e = .returned (.tuple #[.slice a m c, .int .i64 E]) ∧ OwnB w' W.heap.size (.slice a m c) C ∧ Below W.heap.size W w'
def Room (C : List Int) : Prop := C.length ≤ 1000 ∧ ∀ x ∈ C, 0 ≤ x ∧ x < 256
theorem room_el (tag : Int) (xs : List Int) (h0 : 0 ≤ tag) (h1 : tag < 256) (hl : xs.length ≤ 100) (hx : ∀ x ∈ xs, 0 ≤ x ∧ x < 256) : Room (elB tag xs) := by
  have := elB_len tag xs
  exact ⟨by omega, elB_byte tag xs h0 h1 (by omega) hx⟩
theorem room_wr (p : Prop) [Decidable p] (l : List Int) (h : p → Room l) : Room (wrC p l) := by
  unfold wrC
  split
  · next hp => exact h hp
  · exact ⟨by simp, by simp⟩
theorem room_ba (v : Bool) (n : Int) : Room (baB v n) := by
  have := trueB_len v
  have := pathB_len n
  refine room_el 48 _ (by decide) (by decide) (by simp; omega) fun x hx => ?_
  rcases List.mem_append.1 hx with h | h
  · exact trueB_byte v x h
  · exact pathB_byte n x h
theorem room_us (s : Int) (h0 : 0 ≤ s) (h1 : s < 65536) : Room (usB s) := by
  have := flagsS_len s
  rw [usB_el]
  exact room_el 3 _ (by decide) (by decide) (by omega) (flagsS_byte s h0 h1)
theorem room_nu (n : Int) : Room (nuB n) := by
  have := intS_len n
  rw [nuB_el]
  exact room_el 2 _ (by decide) (by decide) (by omega) (intS_byte n)
theorem room_re (n : Int) : Room (reB n) := by
  have := intS_len n
  rw [reB_el]
  exact room_el 10 _ (by decide) (by decide) (by omega) (intS_byte n)


set_option maxRecDepth 100000 in
set_option maxHeartbeats 4000000 in
theorem small_walk (v : Bool) (n s m : Int) (X : List Int) (hn0 : -9223372036854775808 ≤ n) (hn1 : n < 9223372036854775808) (hs0 : 0 ≤ s) (hs1 : s < 65536) (hm0 : -9223372036854775808 ≤ m) (hm1 : m < 9223372036854775808) (hX : X.length = 20) (hXb : ∀ x ∈ X, 0 ≤ x ∧ x < 256) (w : World) :
    Calls Try.prog 3 #[.agg #[.bool v, .int .i64 n], .int .u16 s, .int .i64 m, kv X] w fun e w' => e = .returned (.bool true) ∧ Below w.heap.size w w' := by
  have F1 : Hid (Face 5 #[.agg #[.bool v, .int .i64 n]] (wrC (baP v n) (baB v n)) (wrE (baP v n))) := fun W => callsIn_wide.1 (basicF v n W)
  have R1 : Hid (Face 6 #[.agg #[.bool v, .int .i64 n]] (wrC (baP v n) (baB v n)) (wrE (baP v n))) := fun W => rbasic_any v n hn0 hn1 W
  have F2 : Hid (Face 8 #[.int .u16 s] (wrC (usP s) (usB s)) (wrE (usP s))) := fun W => callsIn_wide.1 (usageF s W)
  have R2 : Hid (Face 9 #[.int .u16 s] (wrC (usP s) (usB s)) (wrE (usP s))) := fun W => rusage_any s hs0 hs1 W
  have F3 : Hid (Face 10 #[.int .i64 m] (wrC (nuP m) (nuB m)) (wrE (nuP m))) := fun W => callsIn_wide.1 (numberF m W)
  have R3 : Hid (Face 11 #[.int .i64 m] (wrC (nuP m) (nuB m)) (wrE (nuP m))) := fun W => rnumber_any m hm0 hm1 W
  have F4 : Hid (Face 12 #[.int .i64 m] (wrC (reP m) (reB m)) (wrE (reP m))) := fun W => callsIn_wide.1 (reasonF m W)
  have R4 : Hid (Face 13 #[.int .i64 m] (wrC (reP m) (reB m)) (wrE (reP m))) := fun W => rreason_any m hm0 hm1 W
  have L1 := hide (room_wr (baP v n) (baB v n) (fun _ => room_ba v n))
  have L2 := hide (room_wr (usP s) (usB s) (fun _ => room_us s hs0 hs1))
  have L3 := hide (room_wr (nuP m) (nuB m) (fun _ => room_nu m))
  have L4 := hide (room_wr (reP m) (reB m) (fun _ => room_re m))
  generalize wrC (baP v n) (baB v n) = C1, wrE (baP v n) = E1, wrC (usP s) (usB s) = C2, wrE (usP s) = E2, wrC (nuP m) (nuB m) = C3, wrE (nuP m) = E3, wrC (reP m) (reB m) = C4, wrE (reP m) = E4 at *
  have PX := hide (subject_any X hX hXb)
  have RX := hide (rsubject_any X hX hXb)
  have PY := hide (issuer_any X hX hXb)
  have RY := hide (rissuer_any X hX hXb)
  unfold kv at *
  have LK : Hid (∀ (W : World) (g : Nat), W.heap[g]? = some (.cells (X.map (Value.int .u8)).toArray 26) → (ldX 26 (.pointer (some ⟨g, 0, none⟩))).run Try.prog W = .ok (.agg (X.map (Value.int .u8)).toArray) W) := fun W g h => ldX_key hX h
  have LX : Hid (Room (subB X)) := (room_el 4 X (by decide) (by decide) (by omega) hXb)
  have LY : Hid (Room (issB X)) := (room_el 48 (elB 128 X) (by decide) (by decide) (by have := elB_len 128 X; omega) (elB_byte 128 X (by decide) (by decide) (by omega) hXb))
  generalize (X.map (Value.int .u8)).toArray = A at *
  have b0 := xbelow w (.cells #[.bool v, .int .i64 n] 23)
  have BX := b0.alloc b0.size (.cells A 26)
  have hz0 : (w.alloc (.cells #[.bool v, .int .i64 n] 23)).heap.size = w.heap.size + 1 := by simp
  have q0 : (w.alloc (.cells #[.bool v, .int .i64 n] 23)).heap[w.heap.size]? = some (.cells #[.bool v, .int .i64 n] 23) := heap_alloc_new _ _
  have q1 := ((xbelow (w.alloc (.cells #[.bool v, .int .i64 n] 23)) (.cells A 26)).block _ (Array.getElem?_eq_some_iff.1 q0).1).trans q0
  have q2 : ((w.alloc (.cells #[.bool v, .int .i64 n] 23)).alloc (.cells A 26)).heap[(w.alloc (.cells #[.bool v, .int .i64 n] 23)).heap.size]? = some (.cells A 26) := heap_alloc_new _ _
  rw [hz0] at q2
  have HB : Hid (∀ W, Below ((w.alloc (.cells #[.bool v, .int .i64 n] 23)).alloc (.cells A 26)).heap.size ((w.alloc (.cells #[.bool v, .int .i64 n] 23)).alloc (.cells A 26)) W → W.cell? ⟨w.heap.size, 0, none⟩ = some (.bool v) ∧ W.cell? ⟨w.heap.size, 1, none⟩ = some (.int .i64 n)) := fun W h => by
    have q := (h.block _ (Array.getElem?_eq_some_iff.1 q1).1).trans q1
    exact ⟨by simp [World.cell?, q], by simp [World.cell?, q]⟩
  have HK : Hid (∀ W, Below ((w.alloc (.cells #[.bool v, .int .i64 n] 23)).alloc (.cells A 26)).heap.size ((w.alloc (.cells #[.bool v, .int .i64 n] 23)).alloc (.cells A 26)) W → (ldX 26 (.pointer (some ⟨w.heap.size + 1, 0, none⟩))).run Try.prog W = .ok (.agg A) W) := fun W h => LK.out _ _ ((h.block _ (Array.getElem?_eq_some_iff.1 q2).1).trans q2)
  clear q0 q1 q2 hz0
  clear b0
  go_enter Try.func3, Try.ntmps3
  go_wp2_with fail
  generalize hU : (w.alloc (.cells #[.bool v, .int .i64 n] 23)).alloc (.cells A 26) = U at *
  have B0 := Below.refl U.heap.size U
  -- F1 the program's face, R1 the document's, L1 the answer's room, B0 the memory ahead of it
  skip
  refine (F1.out _).mono ?_
  rintro e w1 ⟨a1, m1, c1, rfl, o1, B1⟩
  have BB1 := B0.trans (B1.mono B0.size)
  have ⟨k1, j1⟩ := HB.out _ BB1
  go_wp2_with fail
  refine (F1.out _).mono ?_
  rintro e w2 ⟨a2, m2, c2, rfl, o2, B2⟩
  have BB2 := BB1.trans (B2.mono BB1.size)
  have ⟨k2, j2⟩ := HB.out _ BB2
  go_wp2_with fail
  refine (R1.out _).mono ?_
  rintro e w3 ⟨a3, m3, c3, rfl, o3, B3⟩
  have BB3 := BB2.trans (B3.mono BB2.size)
  have hm := (o1.toSrc L1.out.2).hlen
  have hr := L1.out.1
  have d4 := hide (own15_any _ _ _ a1 m1 c1 a2 m2 c2 a3 m3 c3 _ E1 w3 L1.out.2 ((o1.belowA B2).belowA B3) (o2.belowA B3) o3 (own_two o1 o2 (Nat.le_refl _)) (own_two o1 o3 B2.size) (by omega))
  have hf : ∀ k, (Value.slice a1 m1 c1).ownBlock = some k → U.heap.size ≤ k := fun k hk => Nat.le_trans B0.size (World.ownsRow.lt o1 k hk).1
  clear o1 o2 o3 hm hr B1 B2 B3 BB1 BB2 k1 k2 j1 j2 F1 R1 L1
  go_wp2_with fail
  refine d4.out.mono ?_
  rintro e U1 ⟨rfl, G⟩
  have BU1 := BB3.grown G BB3.size hf
  clear d4 hf G BB3
  -- F2 the program's face, R2 the document's, L2 the answer's room, BU1 the memory ahead of it
  go_wp2_with fail
  refine (F2.out _).mono ?_
  rintro e w1 ⟨a1, m1, c1, rfl, o1, B1⟩
  have BB1 := BU1.trans (B1.mono BU1.size)
  have ⟨k1, j1⟩ := HB.out _ BB1
  go_wp2_with fail
  refine (F2.out _).mono ?_
  rintro e w2 ⟨a2, m2, c2, rfl, o2, B2⟩
  have BB2 := BB1.trans (B2.mono BB1.size)
  have ⟨k2, j2⟩ := HB.out _ BB2
  go_wp2_with fail
  refine (R2.out _).mono ?_
  rintro e w3 ⟨a3, m3, c3, rfl, o3, B3⟩
  have BB3 := BB2.trans (B3.mono BB2.size)
  have hm := (o1.toSrc L2.out.2).hlen
  have hr := L2.out.1
  have d4 := hide (own15_any _ _ _ a1 m1 c1 a2 m2 c2 a3 m3 c3 _ E2 w3 L2.out.2 ((o1.belowA B2).belowA B3) (o2.belowA B3) o3 (own_two o1 o2 (Nat.le_refl _)) (own_two o1 o3 B2.size) (by omega))
  have hf : ∀ k, (Value.slice a1 m1 c1).ownBlock = some k → U.heap.size ≤ k := fun k hk => Nat.le_trans BU1.size (World.ownsRow.lt o1 k hk).1
  clear o1 o2 o3 hm hr B1 B2 B3 BB1 BB2 k1 k2 j1 j2 F2 R2 L2
  go_wp2_with fail
  refine d4.out.mono ?_
  rintro e U2 ⟨rfl, G⟩
  have BU2 := BB3.grown G BB3.size hf
  clear d4 hf G BB3
  -- F3 the program's face, R3 the document's, L3 the answer's room, BU2 the memory ahead of it
  go_wp2_with fail
  refine (F3.out _).mono ?_
  rintro e w1 ⟨a1, m1, c1, rfl, o1, B1⟩
  have BB1 := BU2.trans (B1.mono BU2.size)
  have ⟨k1, j1⟩ := HB.out _ BB1
  go_wp2_with fail
  refine (F3.out _).mono ?_
  rintro e w2 ⟨a2, m2, c2, rfl, o2, B2⟩
  have BB2 := BB1.trans (B2.mono BB1.size)
  have ⟨k2, j2⟩ := HB.out _ BB2
  go_wp2_with fail
  refine (R3.out _).mono ?_
  rintro e w3 ⟨a3, m3, c3, rfl, o3, B3⟩
  have BB3 := BB2.trans (B3.mono BB2.size)
  have hm := (o1.toSrc L3.out.2).hlen
  have hr := L3.out.1
  have d4 := hide (own15_any _ _ _ a1 m1 c1 a2 m2 c2 a3 m3 c3 _ E3 w3 L3.out.2 ((o1.belowA B2).belowA B3) (o2.belowA B3) o3 (own_two o1 o2 (Nat.le_refl _)) (own_two o1 o3 B2.size) (by omega))
  have hf : ∀ k, (Value.slice a1 m1 c1).ownBlock = some k → U.heap.size ≤ k := fun k hk => Nat.le_trans BU2.size (World.ownsRow.lt o1 k hk).1
  clear o1 o2 o3 hm hr B1 B2 B3 BB1 BB2 k1 k2 j1 j2 F3 R3 L3
  go_wp2_with fail
  refine d4.out.mono ?_
  rintro e U3 ⟨rfl, G⟩
  have BU3 := BB3.grown G BB3.size hf
  clear d4 hf G BB3
  -- F4 the program's face, R4 the document's, L4 the answer's room, BU3 the memory ahead of it
  go_wp2_with fail
  refine (F4.out _).mono ?_
  rintro e w1 ⟨a1, m1, c1, rfl, o1, B1⟩
  have BB1 := BU3.trans (B1.mono BU3.size)
  have ⟨k1, j1⟩ := HB.out _ BB1
  go_wp2_with fail
  refine (F4.out _).mono ?_
  rintro e w2 ⟨a2, m2, c2, rfl, o2, B2⟩
  have BB2 := BB1.trans (B2.mono BB1.size)
  have ⟨k2, j2⟩ := HB.out _ BB2
  go_wp2_with fail
  refine (R4.out _).mono ?_
  rintro e w3 ⟨a3, m3, c3, rfl, o3, B3⟩
  have BB3 := BB2.trans (B3.mono BB2.size)
  have hm := (o1.toSrc L4.out.2).hlen
  have hr := L4.out.1
  have d4 := hide (own15_any _ _ _ a1 m1 c1 a2 m2 c2 a3 m3 c3 _ E4 w3 L4.out.2 ((o1.belowA B2).belowA B3) (o2.belowA B3) o3 (own_two o1 o2 (Nat.le_refl _)) (own_two o1 o3 B2.size) (by omega))
  have hf : ∀ k, (Value.slice a1 m1 c1).ownBlock = some k → U.heap.size ≤ k := fun k hk => Nat.le_trans BU3.size (World.ownsRow.lt o1 k hk).1
  clear o1 o2 o3 hm hr B1 B2 B3 BB1 BB2 k1 k2 j1 j2 F4 R4 L4
  go_wp2_with fail
  refine d4.out.mono ?_
  rintro e U4 ⟨rfl, G⟩
  have BU4 := BB3.grown G BB3.size hf
  clear d4 hf G BB3
  go_wp2_with fail
  clear HB B0 BU1 BU2 BU3
  -- PX the program's call, RX the document's, subB X what they answer, U4 the world, BU4 what is below
  refine wp_region_held_drew (S := fun W => Below U4.drew.heap.size U4.drew W) (by kernel_rfl) (Below.refl _ _) (fun hS => ?_)
  clear hS
  have HU := hide (Below.drew BU4)
  generalize U4.drew = D at *
  have hS0 : Below D.heap.size D D := Below.refl _ _
  refine wpAnyH_take (i := 0) (v := ?_) rfl (by kernel_rfl) (by kernel_rfl) (by kernel_rfl) (fun _ _ _ h => h) (Or.inl ⟨by rfl, ?_⟩) (by assumption) ?_
  rotate_left
  · intro wq hSq
    have hk := HK.out wq (HU.out.trans (hSq.mono HU.out.size))
    go_simp
    try with_reducible rfl
  simp only [List.getElem_toArray, List.getElem_cons_zero, Act.put, List.setIfInBounds_toArray, List.set_cons_zero, List.set_cons_succ]
  refine wpAnyH_take (i := 1) (v := ?_) rfl (by kernel_rfl) (by kernel_rfl) (by kernel_rfl) (fun _ _ _ h => h) (Or.inl ⟨by rfl, ?_⟩) (by assumption) ?_
  rotate_left
  · intro wq hSq
    have hk := HK.out wq (HU.out.trans (hSq.mono HU.out.size))
    go_simp
    try with_reducible rfl
  simp only [List.getElem_toArray, List.getElem_cons_succ, List.getElem_cons_zero, Act.put, List.setIfInBounds_toArray, List.set_cons_zero, List.set_cons_succ]
  refine wpAnyH_take (i := 2) (v := ?_) rfl (by kernel_rfl) (by kernel_rfl) (by kernel_rfl) (fun _ _ _ h => h) (Or.inl ⟨by rfl, ?_⟩) (by assumption) ?_
  rotate_left
  · intro wq hSq
    have hk := HK.out wq (HU.out.trans (hSq.mono HU.out.size))
    go_simp
    try with_reducible rfl
  simp only [List.getElem_toArray, List.getElem_cons_succ, List.getElem_cons_zero, Act.put, List.setIfInBounds_toArray, List.set_cons_zero, List.set_cons_succ]
  refine wpAnyH_take (i := 4) (v := ?_) rfl (by kernel_rfl) (by kernel_rfl) (by kernel_rfl) (fun _ _ _ h => h) (Or.inl ⟨by rfl, ?_⟩) (by assumption) ?_
  rotate_left
  · intro wq hSq
    have hk := HK.out wq (HU.out.trans (hSq.mono HU.out.size))
    go_simp
    try with_reducible rfl
  simp only [List.getElem_toArray, List.getElem_cons_succ, List.getElem_cons_zero, Act.put, List.setIfInBounds_toArray, List.set_cons_zero, List.set_cons_succ]
  refine wpAnyH_take (i := 6) (v := ?_) rfl (by kernel_rfl) (by kernel_rfl) (by kernel_rfl) (fun _ _ _ h => h) (Or.inl ⟨by rfl, ?_⟩) (by assumption) ?_
  rotate_left
  · intro wq hSq
    have hk := HK.out wq (HU.out.trans (hSq.mono HU.out.size))
    go_simp
    try with_reducible rfl
  simp only [List.getElem_toArray, List.getElem_cons_succ, List.getElem_cons_zero, Act.put, List.setIfInBounds_toArray, List.set_cons_zero, List.set_cons_succ]
  refine wpAnyH_ready (rs := [3]) (by kernel_rfl) (by simp) ?_
  refine (AllReadyH.cons rfl (fun Kq hKq => ?_) AllReadyH.nil)
  go_simp
  refine (PX.out _).mono ?_
  rintro e W1 ⟨a1, m1, c1, rfl, o1, b1⟩
  have B1 := (hS0).trans (b1.mono (hS0).size)
  refine hKq.out _ _ B1 (fun _ => ?_)
  clear hKq Kq
  refine wpAnyH_ready (rs := [5]) (by kernel_rfl) (by simp) ?_
  refine (AllReadyH.cons rfl (fun Kq hKq => ?_) AllReadyH.nil)
  go_simp
  refine (PX.out _).mono ?_
  rintro e W2 ⟨a2, m2, c2, rfl, o2, b2⟩
  have B2 := (B1).trans (b2.mono (B1).size)
  refine hKq.out _ _ B2 (fun _ => ?_)
  clear hKq Kq
  refine wpAnyH_ready (rs := [7]) (by kernel_rfl) (by simp) ?_
  refine (AllReadyH.cons rfl (fun Kq hKq => ?_) AllReadyH.nil)
  go_simp
  refine (RX.out _).mono ?_
  rintro e W3 ⟨a3, m3, c3, rfl, o3, b3⟩
  have B3 := (B2).trans (b3.mono (B2).size)
  refine hKq.out _ _ B3 (fun _ => ?_)
  clear hKq Kq
  have T := tri_mk B1 o1 b2 o2 b3 o3
  have hm := (T.o1.toSrc LX.out.2).hlen
  have d4 := hide (own15_any _ _ _ a1 m1 c1 a2 m2 c2 a3 m3 c3 _ 0 W3 LX.out.2 T.o1 T.o2 T.o3 T.a12 T.a13 (by have := LX.out.1; omega))
  have hf : ∀ k, (Value.slice a1 m1 c1).ownBlock = some k → D.heap.size ≤ k := fun k hk => (World.ownsRow.lt T.o1 k hk).1
  have BT := T.bel
  clear T o1 o2 o3 B1 B2 B3 b1 b2 b3 hm
  refine wpAnyH_ready (rs := [8]) (by kernel_rfl) (by simp) ?_
  refine (AllReadyH.cons rfl (fun Kq hKq => ?_) AllReadyH.nil)
  go_simp
  refine d4.out.mono ?_
  rintro e W8 ⟨rfl, G⟩
  have B8 := BT.grown G BT.size hf
  refine hKq.out _ _ B8 (fun _ => ?_)
  clear hKq Kq d4 G BT hf
  refine wpAnyH_take (i := 9) (v := ?_) rfl (by kernel_rfl) (by kernel_rfl) (by kernel_rfl) (fun _ _ _ h => h) (Or.inl ⟨by rfl, ?_⟩) (by assumption) ?_
  rotate_left
  · intro wq hSq
    have hk := HK.out wq (HU.out.trans (hSq.mono HU.out.size))
    go_simp
    try with_reducible rfl
  simp only [List.getElem_toArray, List.getElem_cons_succ, List.getElem_cons_zero, Act.put, List.setIfInBounds_toArray, List.set_cons_zero, List.set_cons_succ]
  refine wpAnyH_take (i := 10) (v := ?_) rfl (by kernel_rfl) (by kernel_rfl) (by kernel_rfl) (fun _ _ _ h => h) (Or.inl ⟨by rfl, ?_⟩) (by assumption) ?_
  rotate_left
  · intro wq hSq
    have hk := HK.out wq (HU.out.trans (hSq.mono HU.out.size))
    go_simp
    try with_reducible rfl
  simp only [List.getElem_toArray, List.getElem_cons_succ, List.getElem_cons_zero, Act.put, List.setIfInBounds_toArray, List.set_cons_zero, List.set_cons_succ]
  refine wpAnyH_done (by kernel_rfl) ?_ _
  have BU5 := HU.out.trans (B8.mono HU.out.size)
  clear HU B8 hS0 PX RX LX
  go_wp2_with fail
  -- PY the program's call, RY the document's, issB X what they answer, W8 the world, BU5 what is below
  refine wp_region_held_drew (S := fun W => Below W8.drew.heap.size W8.drew W) (by kernel_rfl) (Below.refl _ _) (fun hS => ?_)
  clear hS
  have HU := hide (Below.drew BU5)
  generalize W8.drew = D at *
  have hS0 : Below D.heap.size D D := Below.refl _ _
  refine wpAnyH_take (i := 0) (v := ?_) rfl (by kernel_rfl) (by kernel_rfl) (by kernel_rfl) (fun _ _ _ h => h) (Or.inl ⟨by rfl, ?_⟩) (by assumption) ?_
  rotate_left
  · intro wq hSq
    have hk := HK.out wq (HU.out.trans (hSq.mono HU.out.size))
    go_simp
    try with_reducible rfl
  simp only [List.getElem_toArray, List.getElem_cons_zero, Act.put, List.setIfInBounds_toArray, List.set_cons_zero, List.set_cons_succ]
  refine wpAnyH_take (i := 1) (v := ?_) rfl (by kernel_rfl) (by kernel_rfl) (by kernel_rfl) (fun _ _ _ h => h) (Or.inl ⟨by rfl, ?_⟩) (by assumption) ?_
  rotate_left
  · intro wq hSq
    have hk := HK.out wq (HU.out.trans (hSq.mono HU.out.size))
    go_simp
    try with_reducible rfl
  simp only [List.getElem_toArray, List.getElem_cons_succ, List.getElem_cons_zero, Act.put, List.setIfInBounds_toArray, List.set_cons_zero, List.set_cons_succ]
  refine wpAnyH_take (i := 2) (v := ?_) rfl (by kernel_rfl) (by kernel_rfl) (by kernel_rfl) (fun _ _ _ h => h) (Or.inl ⟨by rfl, ?_⟩) (by assumption) ?_
  rotate_left
  · intro wq hSq
    have hk := HK.out wq (HU.out.trans (hSq.mono HU.out.size))
    go_simp
    try with_reducible rfl
  simp only [List.getElem_toArray, List.getElem_cons_succ, List.getElem_cons_zero, Act.put, List.setIfInBounds_toArray, List.set_cons_zero, List.set_cons_succ]
  refine wpAnyH_take (i := 4) (v := ?_) rfl (by kernel_rfl) (by kernel_rfl) (by kernel_rfl) (fun _ _ _ h => h) (Or.inl ⟨by rfl, ?_⟩) (by assumption) ?_
  rotate_left
  · intro wq hSq
    have hk := HK.out wq (HU.out.trans (hSq.mono HU.out.size))
    go_simp
    try with_reducible rfl
  simp only [List.getElem_toArray, List.getElem_cons_succ, List.getElem_cons_zero, Act.put, List.setIfInBounds_toArray, List.set_cons_zero, List.set_cons_succ]
  refine wpAnyH_take (i := 6) (v := ?_) rfl (by kernel_rfl) (by kernel_rfl) (by kernel_rfl) (fun _ _ _ h => h) (Or.inl ⟨by rfl, ?_⟩) (by assumption) ?_
  rotate_left
  · intro wq hSq
    have hk := HK.out wq (HU.out.trans (hSq.mono HU.out.size))
    go_simp
    try with_reducible rfl
  simp only [List.getElem_toArray, List.getElem_cons_succ, List.getElem_cons_zero, Act.put, List.setIfInBounds_toArray, List.set_cons_zero, List.set_cons_succ]
  refine wpAnyH_ready (rs := [3]) (by kernel_rfl) (by simp) ?_
  refine (AllReadyH.cons rfl (fun Kq hKq => ?_) AllReadyH.nil)
  go_simp
  refine (PY.out _).mono ?_
  rintro e W1 ⟨a1, m1, c1, rfl, o1, b1⟩
  have B1 := (hS0).trans (b1.mono (hS0).size)
  refine hKq.out _ _ B1 (fun _ => ?_)
  clear hKq Kq
  refine wpAnyH_ready (rs := [5]) (by kernel_rfl) (by simp) ?_
  refine (AllReadyH.cons rfl (fun Kq hKq => ?_) AllReadyH.nil)
  go_simp
  refine (PY.out _).mono ?_
  rintro e W2 ⟨a2, m2, c2, rfl, o2, b2⟩
  have B2 := (B1).trans (b2.mono (B1).size)
  refine hKq.out _ _ B2 (fun _ => ?_)
  clear hKq Kq
  refine wpAnyH_ready (rs := [7]) (by kernel_rfl) (by simp) ?_
  refine (AllReadyH.cons rfl (fun Kq hKq => ?_) AllReadyH.nil)
  go_simp
  refine (RY.out _).mono ?_
  rintro e W3 ⟨a3, m3, c3, rfl, o3, b3⟩
  have B3 := (B2).trans (b3.mono (B2).size)
  refine hKq.out _ _ B3 (fun _ => ?_)
  clear hKq Kq
  have T := tri_mk B1 o1 b2 o2 b3 o3
  have hm := (T.o1.toSrc LY.out.2).hlen
  have d4 := hide (own15_any _ _ _ a1 m1 c1 a2 m2 c2 a3 m3 c3 _ 0 W3 LY.out.2 T.o1 T.o2 T.o3 T.a12 T.a13 (by have := LY.out.1; omega))
  have hf : ∀ k, (Value.slice a1 m1 c1).ownBlock = some k → D.heap.size ≤ k := fun k hk => (World.ownsRow.lt T.o1 k hk).1
  have BT := T.bel
  clear T o1 o2 o3 B1 B2 B3 b1 b2 b3 hm
  refine wpAnyH_ready (rs := [8]) (by kernel_rfl) (by simp) ?_
  refine (AllReadyH.cons rfl (fun Kq hKq => ?_) AllReadyH.nil)
  go_simp
  refine d4.out.mono ?_
  rintro e W8 ⟨rfl, G⟩
  have B8 := BT.grown G BT.size hf
  refine hKq.out _ _ B8 (fun _ => ?_)
  clear hKq Kq d4 G BT hf
  refine wpAnyH_take (i := 9) (v := ?_) rfl (by kernel_rfl) (by kernel_rfl) (by kernel_rfl) (fun _ _ _ h => h) (Or.inl ⟨by rfl, ?_⟩) (by assumption) ?_
  rotate_left
  · intro wq hSq
    have hk := HK.out wq (HU.out.trans (hSq.mono HU.out.size))
    go_simp
    try with_reducible rfl
  simp only [List.getElem_toArray, List.getElem_cons_succ, List.getElem_cons_zero, Act.put, List.setIfInBounds_toArray, List.set_cons_zero, List.set_cons_succ]
  refine wpAnyH_take (i := 10) (v := ?_) rfl (by kernel_rfl) (by kernel_rfl) (by kernel_rfl) (fun _ _ _ h => h) (Or.inl ⟨by rfl, ?_⟩) (by assumption) ?_
  rotate_left
  · intro wq hSq
    have hk := HK.out wq (HU.out.trans (hSq.mono HU.out.size))
    go_simp
    try with_reducible rfl
  simp only [List.getElem_toArray, List.getElem_cons_succ, List.getElem_cons_zero, Act.put, List.setIfInBounds_toArray, List.set_cons_zero, List.set_cons_succ]
  refine wpAnyH_ready (rs := [11]) (by kernel_rfl) (by simp) ?_
  refine (AllReadyH.cons rfl (fun Kq hKq => ?_) AllReadyH.nil)
  go_simp
  refine (names15_any _).mono ?_
  rintro e W9 ⟨rfl, b9⟩
  have B9 := B8.trans (b9.mono B8.size)
  refine hKq.out _ _ B9 (fun _ => ?_)
  clear hKq Kq
  refine wpAnyH_take (i := 12) (v := ?_) rfl (by kernel_rfl) (by kernel_rfl) (by kernel_rfl) (fun _ _ _ h => h) (Or.inl ⟨by rfl, ?_⟩) (by assumption) ?_
  rotate_left
  · intro wq hSq
    have hk := HK.out wq (HU.out.trans (hSq.mono HU.out.size))
    go_simp
    try with_reducible rfl
  simp only [List.getElem_toArray, List.getElem_cons_succ, List.getElem_cons_zero, Act.put, List.setIfInBounds_toArray, List.set_cons_zero, List.set_cons_succ]
  refine wpAnyH_take (i := 13) (v := ?_) rfl (by kernel_rfl) (by kernel_rfl) (by kernel_rfl) (fun _ _ _ h => h) (Or.inl ⟨by rfl, ?_⟩) (by assumption) ?_
  rotate_left
  · intro wq hSq
    have hk := HK.out wq (HU.out.trans (hSq.mono HU.out.size))
    go_simp
    try with_reducible rfl
  simp only [List.getElem_toArray, List.getElem_cons_succ, List.getElem_cons_zero, Act.put, List.setIfInBounds_toArray, List.set_cons_zero, List.set_cons_succ]
  refine wpAnyH_done (by kernel_rfl) ?_ _
  have BU6 := HU.out.trans (B9.mono HU.out.size)
  go_wp2
  go_ret
  exact ⟨rfl, BX.trans (BU6.mono BX.size)⟩

end Go.Proofs.Ytaeddbkkkiefcaa
