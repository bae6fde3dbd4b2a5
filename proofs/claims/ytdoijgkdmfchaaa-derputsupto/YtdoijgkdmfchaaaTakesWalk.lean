/-
  DerTakes answers true at any bytes, and writes nothing that was there.
-/
import Derived.Test.YtdoijgkdmfchaaaROne
import Derived.Test.YtdoijgkdmfchaaaLent
import Derived.Test.YtdoijgkdmfchaaaSize
namespace Go.Proofs.Ytdoijgkdmfchaaa
open Go.RowKit Go.IntWalk

/-- A box of two cells: a number and a value. -/
structure Box (w : World) (b : Nat) (t : Int) (v : Value) : Prop where
  c0 : w.cell? ⟨b, 0, none⟩ = some (.int .i64 t)
  c1 : w.cell? ⟨b, 1, none⟩ = some v
  lt : b < w.heap.size

theorem Box.new (w : World) (t : Int) (v : Value) (T : TypeId) : Box (w.alloc (.cells #[.int .i64 t, v] T)) w.heap.size t v := ⟨by simp, by simp, by simp⟩
theorem Box.below {w w' : World} {b : Nat} {t : Int} {v : Value} (h : Box w b t v) (hb : Below w.heap.size w w') : Box w' b t v :=
  ⟨(hb.cell (p := ⟨b, 0, none⟩) h.lt).trans h.c0, (hb.cell (p := ⟨b, 1, none⟩) h.lt).trans h.c1, Nat.lt_of_lt_of_le h.lt hb.size⟩
theorem Box.alloc {w : World} {b : Nat} {t : Int} {v : Value} (h : Box w b t v) (o : Obj) : Box (w.alloc o) b t v := h.below ((Below.refl _ _).alloc (Nat.le_refl _) _)
theorem Box.grown {w w' : World} {b : Nat} {t : Int} {v : Value} {row : Option Nat} (h : Box w b t v) (hg : w.grownBy w' row) (hne : some b ≠ row) : Box w' b t v :=
  ⟨hg.cell h.c0 hne, hg.cell h.c1 hne, Nat.lt_of_lt_of_le h.lt hg.size⟩

theorem OwnB.lt {w : World} {base : Nat} {v : Value} {xs : List Int} (h : OwnB w base v xs) : ∀ k, v.ownBlock = some k → base ≤ k ∧ k < w.heap.size := World.ownsRow.lt h

theorem OwnB.belowA {w w' : World} {base : Nat} {v : Value} {xs : List Int} (h : OwnB w base v xs) (hb : Below w.heap.size w w') : OwnB w' base v xs :=
  h.below hb (fun k hk => (h.lt k hk).2)

/-- Bytes that lie at or above a block number, or below it, are apart from a row that lies elsewhere. -/
theorem Src.apart {w w' : World} {ao : Option Addr} {n cap : Nat} {xs : List Int} {v : Value} (h : Src w ao n cap xs) (hg : w.grownBy w' v.ownBlock)
    (hne : ∀ b off, ao = some ⟨b, off, none⟩ → xs ≠ [] → v.ownBlock ≠ some b) : Src w' ao n cap xs :=
  h.grown hg fun b off he hx h' => hne b off he hx h'.symm

theorem own_apart {w u : World} {base base' n m c c' : Nat} {a a' : Option Addr} {xs ys : List Int} (h : OwnB w base (.slice a n c) xs) (h' : OwnB u base' (.slice a' m c') ys) (hlt : w.heap.size ≤ base') :
    ∀ b off, a' = some ⟨b, off, none⟩ → ys ≠ [] → (Value.slice a n c).ownBlock ≠ some b := by
  intro b off he _ hk
  subst he
  have h1 := (h.lt b hk).2
  have h2 := (h'.lt b rfl).1
  omega

theorem OwnB.ne_row {w : World} {base : Nat} {v : Value} {xs : List Int} (h : OwnB w base v xs) {b : Nat} (hb : b < base ∨ w.heap.size ≤ b) : some b ≠ v.ownBlock := by
  intro he
  have := h.lt b he.symm
  omega

theorem Src.blk {w : World} {ao : Option Addr} {n cap : Nat} {xs : List Int} (h : Src w ao n cap xs) : ∀ b off, ao = some ⟨b, off, none⟩ → xs ≠ [] → b < w.heap.size := by
  intro b off he hx
  obtain ⟨b', off', he', hc⟩ := h.hrd hx
  rw [he] at he'
  simp at he'
  obtain ⟨rfl, rfl⟩ := he'
  exact lt_of_cell (hc 0 (by cases xs with | nil => exact absurd rfl hx | cons a r => simp))

theorem step_below {B : Nat} {w a w' : World} (h : Below B w a) (hB : B ≤ a.heap.size) (o : Obj) (hb : Below (a.alloc o).heap.size (a.alloc o) w') : Below B w w' :=
  (h.alloc hB o).trans (hb.mono (by simp; omega))

set_option maxRecDepth 100000 in
set_option maxHeartbeats 4000000 in
theorem takes_walk (ao : Option Addr) (n cap : Nat) (xs : List Int) (w : World) (hs : Src w ao n cap xs) (hn : n ≤ 140737488351232) :
    Calls Try.prog 4 #[.slice ao n cap] w fun e w' => e = .returned (.bool true) ∧ Below w.heap.size w w' := by
  have hN : (n : Int) ≤ 140737488355328 := by omega
  have hby := hs.hbyt
  have HBY := hide hby
  clear hby
  have hl := hide hs.hlen
  have hlc : Hid ((contS xs).length ≤ n) := by
    unfold Hid contS
    rw [List.length_drop, List.length_take, hl.out]; omega
  go_enter Try.func4, Try.ntmps4
  go_wp2_with fail
  refine (lent_any ao n cap xs _ hs hn).mono ?_
  rintro e w1 ⟨g, c, rfl, hc1, hm1, hg1, hgl1, hin, B1⟩
  have s1 : Src w1 (some ⟨g, 0, none⟩) n c xs := hin.src (by intro x hx; simp at hx; rcases hx with hx | rfl; exact HBY.out x hx; omega) n (by omega) (by rw [List.take_append_of_le_length (by rw [hl.out]; exact Nat.le_refl _), List.take_of_length_le (by rw [hl.out]; exact Nat.le_refl _)]) hm1
  have b1 := hs.below B1
  go_wp2_with fail
  refine (take_any _ n c xs _ s1 hN).mono ?_
  rintro e w2 ⟨aX, mX, cX, rfl, hX, B2⟩
  go_wp2_with fail
  have k1 := Box.new w2 (findS xs).1 (.slice aX mX cX) 35
  refine (take_any _ n c xs _ ((s1.below B2).alloc _) hN).mono ?_
  rintro e w3 ⟨aY, mY, cY, rfl, hY, B3⟩
  go_wp2_with fail
  have k1 := (k1.below B3).alloc (.cells #[.int .i64 (findS xs).1, .slice aY mY cY] 35)
  have k2 := Box.new w3 (findS xs).1 (.slice aY mY cY) 35
  have b3 := ((((b1.below B2).alloc _).below B3).alloc (.cells #[.int .i64 (findS xs).1, .slice aY mY cY] 35))
  refine (refTake_any _ n cap xs _ b3 hN).mono ?_
  rintro e w4 ⟨aZ, mZ, cZ, rfl, hZ, B4⟩
  go_wp2_with fail
  have k1 := (k1.below B4).alloc (.cells #[.int .i64 (findS xs).1, .slice aZ mZ cZ] 38)
  have k2 := (k2.below B4).alloc (.cells #[.int .i64 (findS xs).1, .slice aZ mZ cZ] 38)
  have k3 := Box.new w4 (findS xs).1 (.slice aZ mZ cZ) 38
  have s4 := ((((((s1.below B2).alloc _).below B3).alloc _).below B4).alloc (.cells #[.int .i64 (findS xs).1, .slice aZ mZ cZ] 38))
  refine (one_any _ n c xs _ s4 hN).mono ?_
  rintro e w5 ⟨aO, mO, cO, rfl, hO, B5⟩
  go_wp2_with fail
  have k1 := (k1.below B5).alloc (.cells #[.int .i64 (oneS xs).1, .slice aO mO cO] 35)
  have k2 := (k2.below B5).alloc (.cells #[.int .i64 (oneS xs).1, .slice aO mO cO] 35)
  have k3 := (k3.below B5).alloc (.cells #[.int .i64 (oneS xs).1, .slice aO mO cO] 35)
  have k4 := Box.new w5 (oneS xs).1 (.slice aO mO cO) 35
  have b5 := (((b3.below B4).alloc _).below B5).alloc (.cells #[.int .i64 (oneS xs).1, .slice aO mO cO] 35)
  refine (refOne_any _ n cap xs _ b5 hN).mono ?_
  rintro e w6 ⟨aP, mP, cP, rfl, hP, B6⟩
  have k1 := (k1.below B6).alloc (.cells #[.int .i64 (oneS xs).1, .slice aP mP cP] 38)
  have k2 := (k2.below B6).alloc (.cells #[.int .i64 (oneS xs).1, .slice aP mP cP] 38)
  have k3 := (k3.below B6).alloc (.cells #[.int .i64 (oneS xs).1, .slice aP mP cP] 38)
  have k4 := (k4.below B6).alloc (.cells #[.int .i64 (oneS xs).1, .slice aP mP cP] 38)
  have k5 := Box.new w6 (oneS xs).1 (.slice aP mP cP) 38
  have E3 : Below w2.heap.size w2 w3 := step_below (Below.refl _ _) (Nat.le_refl _) _ B3
  have E4 : Below w2.heap.size w2 w4 := step_below E3 E3.size _ B4
  have E5 : Below w2.heap.size w2 w5 := step_below E4 E4.size _ B5
  have E6 : Below w2.heap.size w2 w6 := step_below E5 E5.size _ B6
  have G4 : Below w3.heap.size w3 w4 := step_below (Below.refl _ _) (Nat.le_refl _) _ B4
  have G5 : Below w3.heap.size w3 w5 := step_below G4 G4.size _ B5
  have G6 : Below w3.heap.size w3 w6 := step_below G5 G5.size _ B6
  have I5 : Below w4.heap.size w4 w5 := step_below (Below.refl _ _) (Nat.le_refl _) _ B5
  have I6 : Below w4.heap.size w4 w6 := step_below I5 I5.size _ B6
  have J6 : Below w5.heap.size w5 w6 := step_below (Below.refl _ _) (Nat.le_refl _) _ B6
  have L2 : Below w1.heap.size w1 w6 := B2.trans (E6.mono B2.size)
  have L1 : Below w.heap.size w w6 := B1.trans (L2.mono B1.size)
  have z2 := B2.size
  have z3 := E3.size
  have z4 := G4.size
  have z5 := I5.size
  have z6 := J6.size
  have cb := hide (contS_byte xs HBY.out)
  have ob := hide (oneS_byte xs HBY.out)
  have sX := ((hX.toSrc cb.out).below E6).alloc (.cells #[.int .i64 (oneS xs).1, .slice aP mP cP] 38)
  have sY := ((hY.toSrc cb.out).below G6).alloc (.cells #[.int .i64 (oneS xs).1, .slice aP mP cP] 38)
  have sZ := ((hZ.toSrc cb.out).below I6).alloc (.cells #[.int .i64 (oneS xs).1, .slice aP mP cP] 38)
  have sO := ((hO.toSrc ob.out).below J6).alloc (.cells #[.int .i64 (oneS xs).1, .slice aP mP cP] 38)
  have sP := (hP.toSrc ob.out).alloc (.cells #[.int .i64 (oneS xs).1, .slice aP mP cP] 38)
  have oX := (hX.belowA E6).alloc (.cells #[.int .i64 (oneS xs).1, .slice aP mP cP] 38)
  have oI := (hin.belowA L2).alloc (.cells #[.int .i64 (oneS xs).1, .slice aP mP cP] 38)
  have sB := (hs.below L1).alloc (.cells #[.int .i64 (oneS xs).1, .slice aP mP cP] 38)
  have LB := L1.alloc L1.size (.cells #[.int .i64 (oneS xs).1, .slice aP mP cP] 38)
  have p1 := k1.c0
  have p2 := k1.c1
  have r1 := k3.c0
  have r2 := k3.c1
  go_wp2_with fail
  refine (same_true _ _ _ _ _ _ _ (contS xs) _ sX sZ).mono ?_
  rintro e w7 ⟨rfl, B7⟩
  have k1 := k1.below B7
  have k2 := k2.below B7
  have k3 := k3.below B7
  have k4 := k4.below B7
  have k5 := k5.below B7
  clear p1 p2 r1 r2
  have u1 := k4.c0
  have u2 := k4.c1
  have v1 := k5.c0
  have v2 := k5.c1
  go_wp2_with fail
  refine (same_true _ _ _ _ _ _ _ (oneS xs).2.1 _ (sO.below B7) (sP.below B7)).mono ?_
  rintro e w8 ⟨rfl, B8⟩
  have k1 := k1.below B8
  have k2 := k2.below B8
  have k3 := k3.below B8
  have k4 := k4.below B8
  have k5 := k5.below B8
  clear u1 u2 v1 v2
  have p2 := k1.c1
  have LB := (LB.trans (B7.mono LB.size))
  have LB := (LB.trans (B8.mono LB.size))
  have oX := (oX.belowA B7).belowA B8
  go_wp2_with fail
  refine (spoil_any _ _ (contS xs) _ oX (by have := hlc.out; omega) (by have := B7.size; have := B8.size; simp at *; omega)).mono ?_
  rintro e w9 ⟨rfl, g9⟩
  have y1 := B1.size
  have k2 := k2.grown g9 (hX.ne_row (.inr (by omega)))
  have k3 := k3.grown g9 (hX.ne_row (.inr (by omega)))
  have k4 := k4.grown g9 (hX.ne_row (.inr (by omega)))
  have k5 := k5.grown g9 (hX.ne_row (.inr (by omega)))
  have sY := ((sY.below B7).below B8).apart g9 (own_apart hX hY (by simp))
  have sZ := ((sZ.below B7).below B8).apart g9 (own_apart hX hZ (by simp; omega))
  have sO := ((sO.below B7).below B8).apart g9 (own_apart hX hO (by simp; omega))
  have sP := ((sP.below B7).below B8).apart g9 (own_apart hX hP (by simp; omega))
  have oI := ((oI.belowA B7).belowA B8).kept g9 (.inr (hX.ne_row (.inl hgl1)))
  have sB := ((sB.below B7).below B8).apart g9 (fun b off he hx => fun h' => by have h1 := hs.blk b off he hx; have h2 := (hX.lt b h').1; omega)
  have LB := LB.grown g9 LB.size (fun k hk => by have h2 := (hX.lt k hk).1; omega)
  clear p2
  have q1 := k2.c0
  have q2 := k2.c1
  have r1 := k3.c0
  have r2 := k3.c1
  go_wp2_with fail
  refine (same_true _ _ _ _ _ _ _ (contS xs) _ sY sZ).mono ?_
  rintro e w10 ⟨rfl, B10⟩
  have k4 := k4.below B10
  have k5 := k5.below B10
  clear q1 q2 r1 r2
  have u1 := k4.c0
  have u2 := k4.c1
  have v1 := k5.c0
  have v2 := k5.c1
  go_wp2_with fail
  refine (same_true _ _ _ _ _ _ _ (oneS xs).2.1 _ (sO.below B10) (sP.below B10)).mono ?_
  rintro e w11 ⟨rfl, B11⟩
  clear u1 u2 v1 v2
  go_wp2_with fail
  refine (kept_any g n c ao cap xs _ _ ((sB.below B10).below B11) hn hc1 hm1 ((oI.belowA B10).belowA B11)).mono ?_
  rintro e w12 ⟨rfl, q, rfl⟩
  go_wp2_with fail
  refine (names_any _).mono ?_
  rintro e w13 ⟨rfl, rfl⟩
  go_wp2
  go_ret
  have LB := (LB.trans (B10.mono LB.size))
  have LB := (LB.trans (B11.mono LB.size))
  exact ⟨rfl, ⟨LB.os, LB.tape, LB.output, LB.size, LB.block⟩⟩

end Go.Proofs.Ytdoijgkdmfchaaa
