/-
  DerBegins answers true at any two elements, and writes nothing that was there.
-/
import Derived.Test.YtdoijgkdmfchaabRight
import Derived.Deep.RegionHeld3
import Derived.WalkSpells
namespace Go.Proofs.Ytdoijgkdmfchaab
open Go.RowKit Go.IntWalk

theorem Src.none (w : World) : Src w none 0 0 [] := ⟨rfl, Nat.le_refl _, by decide, fun _ => ⟨rfl, rfl⟩, fun h => absurd rfl h, by simp⟩

theorem Parts.one {w : World} {a : Option Addr} {n c : Nat} {xs : List Int} (h : Src w a n c xs) : Parts (w.alloc (.cells #[.slice a n c] 23)) (some ⟨w.heap.size, 0, none⟩) 1 1 [.slice a n c] [xs] := by
  refine ⟨rfl, rfl, Nat.le_refl _, by decide, fun _ => ⟨w.heap.size, 0, rfl, fun i hi => ?_⟩, fun i hi => ?_⟩
  · obtain rfl : i = 0 := by omega
    simp
  · obtain rfl : i = 0 := by omega
    exact ⟨a, n, c, rfl, h.alloc _⟩

theorem putS_one (t : Int) (xs : List Int) (ht : isTagB t = true) (hx : xs.length < 16777216) : putS [] t [xs] = ([t] ++ lenB xs.length ++ xs, 0) := by
  unfold putS
  rw [if_neg (by rw [ht]; simp), if_neg (by simp; omega)]
  simp

theorem Box.set {w : World} {b : Nat} {t : Int} {v : Value} (h : Box w b t v) (u : Int) (x : Value) : Box ((w.setCell ⟨b, 0, none⟩ (.int .i64 u)).setCell ⟨b, 1, none⟩ x) b u x := by
  have e1 : (w.setCell ⟨b, 0, none⟩ (.int .i64 u)).cell? ⟨b, 1, none⟩ = some v := (World.cell?_setCell_other _ _ _ _ (by simp)).trans h.c1
  refine ⟨(World.cell?_setCell_other _ _ _ _ (by simp)).trans (World.cell?_setCell_same _ _ _ h.c0), World.cell?_setCell_same _ _ _ e1, by simpa using h.lt, fun o => by simp [h.fz o]⟩

theorem Box.far {w : World} {b : Nat} {t : Int} {v : Value} (h : Box w b t v) (a : Addr) (x : Value) (hne : a.block ≠ b) : Box (w.setCell a x) b t v := by
  refine ⟨(World.cell?_setCell_other _ _ _ _ (by intro e; rw [e] at hne; simp at hne)).trans h.c0, (World.cell?_setCell_other _ _ _ _ (by intro e; rw [e] at hne; simp at hne)).trans h.c1, by simpa using h.lt, fun o => by simp [h.fz o]⟩

theorem lenB_byte' (n : Nat) (h : n < 16777216) : ∀ x ∈ lenB n, 0 ≤ x ∧ x < 256 := by
  intro x hx
  unfold lenB at hx
  split at hx
  · simp at hx; omega
  · have := digs_len n
    simp at hx
    rcases hx with hx | hx
    · omega
    · exact digs_byte n h x hx

theorem put_byte (t : Int) (xs : List Int) (ht : isTagB t = true) (hx : xs.length < 16777216) (hb : ∀ x ∈ xs, 0 ≤ x ∧ x < 256) : ∀ x ∈ [t] ++ lenB xs.length ++ xs, 0 ≤ x ∧ x < 256 := by
  intro x h
  have := tag_bd ht
  simp only [List.mem_append, List.mem_singleton] at h
  rcases h with (rfl | h) | h
  · omega
  · exact lenB_byte' _ hx x h
  · exact hb x h

theorem put_two (t : Int) (xs : List Int) : 2 ≤ ([t] ++ lenB xs.length ++ xs).length := by
  have : 1 ≤ (lenB xs.length).length := by unfold lenB; split <;> simp
  simp only [List.length_append, List.length_singleton]
  omega

theorem begins_iff (t u : Int) (ht : isTagB t = true) (hu : isTagB u = true) (xs ys : List Int) (hx : xs.length < 16777216) (hy : ys.length < 16777216) (m : Nat)
    (hm : m = min ([t] ++ lenB xs.length ++ xs).length ([u] ++ lenB ys.length ++ ys).length) :
    decide (([t] ++ lenB xs.length ++ xs).take m = ([u] ++ lenB ys.length ++ ys).take m) = alikeB t u xs ys := by
  unfold alikeB
  by_cases h : t = u ∧ xs = ys
  · obtain ⟨rfl, rfl⟩ := h
    simp
  · have : ¬ ([t] ++ lenB xs.length ++ xs).take m = ([u] ++ lenB ys.length ++ ys).take m := fun e => h (begins t u ht hu xs ys hx hy m hm e)
    rw [decide_eq_false this]
    by_cases h1 : t = u
    · have h2 : ¬ xs = ys := fun e => h ⟨h1, e⟩
      simp [h2]
    · simp [h1]

set_option maxRecDepth 100000 in
set_option maxHeartbeats 4000000 in
theorem begins_walk (t1 : Int) (a1 : Option Addr) (n1 c1 : Nat) (xs1 : List Int) (t2 : Int) (a2 : Option Addr) (n2 c2 : Nat) (xs2 : List Int) (w : World) (h1 : Src w a1 n1 c1 xs1) (h2 : Src w a2 n2 c2 xs2) :
    Calls Try.prog 5 #[.agg #[.int .i64 t1, .slice a1 n1 c1], .agg #[.int .i64 t2, .slice a2 n2 c2]] w fun e w' => e = .returned (.bool true) ∧ Below w.heap.size w w' := by
  go_enter Try.func5, Try.ntmps5
  go_wp2_with fail
  go_region_with (first | (go_at_call_of 6 (Value.agg #[.int .i64 t1, .slice a1 n1 c1]); refine (right_any t1 a1 n1 c1 xs1 _ ?_).mono ?_; exact ((h1.alloc _).alloc _).heap rfl; rintro e w1 ⟨n1', rfl, s1, B1⟩; have X1 : Box w1 w.heap.size t1 (.slice a1 n1 c1) := Box.belowH ((Box.new w t1 (.slice a1 n1 c1) 25).alloc (.cells #[.int .i64 t2, .slice a2 n2 c2] 25)) B1 rfl; have Y1 : Box w1 (w.heap.size + 1) t2 (.slice a2 n2 c2) := Box.belowH (Box.newAt (w.alloc (.cells #[.int .i64 t1, .slice a1 n1 c1] 25)) (w.heap.size + 1) t2 (.slice a2 n2 c2) 25 (by simp)) B1 rfl; have p0 := Y1.c0; have p1 := Y1.c1) | (go_at_call_of 6 (Value.agg #[.int .i64 t2, .slice a2 n2 c2]); refine (right_any t2 a2 n2 c2 xs2 _ ?_).mono ?_; exact Src.belowH ((h2.alloc _).alloc _) B1 rfl; rintro e w2 ⟨n2', rfl, s2, B2⟩; have X2 := X1.below B2; have Y2 := Y1.below B2; have q0 := X2.c0; have q1 := X2.c1; have q2 := X2.fz; have r0 := Y2.c0; have r1 := Y2.c1; have r2 := Y2.fz))
  all_goals
    have X3 := (((X2.set (rtag t1) (.slice a1 n1' c1)).far ⟨w.heap.size + 1, 0, none⟩ (.int .i64 (rtag t2)) (by simp)).far ⟨w.heap.size + 1, 1, none⟩ (.slice a2 n2' c2) (by simp))
    have Y3 := ((Y2.far ⟨w.heap.size, 0, none⟩ (.int .i64 (rtag t1)) (by simp)).far ⟨w.heap.size, 1, none⟩ (.slice a1 n1' c1) (by simp)).set (rtag t2) (.slice a2 n2' c2)
    have B0 : Below w.heap.size w w2 := ((((Below.refl _ _).alloc (Nat.le_refl _) _).alloc (by simp) _).drew.trans (B1.mono (by simp; omega))).trans (B2.mono (by have := X1.lt; omega))
    have B3 := (((B0.setCell (p := ⟨w.heap.size, 0, none⟩) (Nat.le_refl _) (.int .i64 (rtag t1))).setCell (p := ⟨w.heap.size, 1, none⟩) (Nat.le_refl _) (.slice a1 n1' c1)).setCell (p := ⟨w.heap.size + 1, 0, none⟩) (Nat.le_succ _) (.int .i64 (rtag t2))).setCell (p := ⟨w.heap.size + 1, 1, none⟩) (Nat.le_succ _) (.slice a2 n2' c2)
    have z3 := X3.lt
    clear q0 q1 q2 r0 r1 r2 p0 p1
    generalize (((w2.setCell ⟨w.heap.size, 0, none⟩ (.int .i64 (rtag t1))).setCell ⟨w.heap.size, 1, none⟩ (.slice a1 n1' c1)).setCell ⟨w.heap.size + 1, 0, none⟩ (.int .i64 (rtag t2))).setCell ⟨w.heap.size + 1, 1, none⟩ (.slice a2 n2' c2) = W3 at *
    have S1 := (h1.minN s1).below B3
    have S2 := (h2.minN s2).below B3
    have L1 : Hid ((xs1.take 1048576).length < 16777216) := by unfold Hid; simp; omega
    have L2 : Hid ((xs2.take 1048576).length < 16777216) := by unfold Hid; simp; omega
    have T1 := hide (rtag_tag t1)
    have T2 := hide (rtag_tag t2)
    clear X2 Y2 X1 Y1 B1 B2 B0 s1 s2 h1 h2
    generalize xs1.take 1048576 = ys1 at *
    generalize xs2.take 1048576 = ys2 at *
    generalize rtag t1 = u1 at *
    generalize rtag t2 = u2 at *
    have e1 := hide (putS_one u1 ys1 T1.out L1.out)
    have e2 := hide (putS_one u2 ys2 T2.out L2.out)
    have p0 := X3.c0
    have p1 := X3.c1
    go_wp2_with fail
    refine (put_any none 0 0 [] u1 _ 1 1 _ [ys1] _ (Src.none _) (Parts.one S1) (by decide) (by decide)).mono ?_
    rintro e w4 ⟨aA, mA, cA, rfl, hA, B4⟩
    rw [e1.out] at hA ⊢
    have X4 := (X3.alloc (.cells #[.slice a1 n1' c1] 23)).below B4
    have Y4 := (Y3.alloc (.cells #[.slice a1 n1' c1] 23)).below B4
    have S1 := (S1.alloc (.cells #[.slice a1 n1' c1] 23)).below B4
    have S2 := (S2.alloc (.cells #[.slice a1 n1' c1] 23)).below B4
    have B4' := step_below B3 B3.size _ B4
    clear p0 p1 X3 Y3 B4 B3 z3
    have p0 := Y4.c0
    have p1 := Y4.c1
    go_wp2_with fail
    refine (put_any none 0 0 [] u2 _ 1 1 _ [ys2] _ (Src.none _) (Parts.one S2) (by decide) (by decide)).mono ?_
    rintro e w5 ⟨aB, mB, cB, rfl, hB, B5⟩
    rw [e2.out] at hB ⊢
    have X5 := (X4.alloc (.cells #[.slice a2 n2' c2] 23)).below B5
    have Y5 := (Y4.alloc (.cells #[.slice a2 n2' c2] 23)).below B5
    have S1 := (S1.alloc (.cells #[.slice a2 n2' c2] 23)).below B5
    have S2 := (S2.alloc (.cells #[.slice a2 n2' c2] 23)).below B5
    have hA := (hA.alloc (.cells #[.slice a2 n2' c2] 23)).belowA B5
    have B5' := step_below B4' B4'.size _ B5
    clear p0 p1 X4 Y4 B5 B4'
    rcases hA.split with ⟨_, hx⟩ | ⟨gA, kA, hvA, _, _, hcA, hmA⟩
    · simp at hx
    rcases hB.split with ⟨_, hx⟩ | ⟨gB, kB, hvB, _, _, hcB, hmB⟩
    · simp at hx
    simp only [Value.slice.injEq] at hvA hvB
    obtain ⟨rfl, hlA, rfl⟩ := hvA
    obtain ⟨rfl, hlB, rfl⟩ := hvB
    have pA := hide (put_byte u1 ys1 T1.out L1.out S1.hbyt)
    have pB := hide (put_byte u2 ys2 T2.out L2.out S2.hbyt)
    have qA := hide (put_two u1 ys1)
    have qB := hide (put_two u2 ys2)
    have bg := hide (fun m => begins_iff u1 u2 T1.out T2.out ys1 ys2 L1.out L2.out m)
    generalize [u1] ++ lenB ys1.length ++ ys1 = A at *
    generalize [u2] ++ lenB ys2.length ++ ys2 = B at *
    have mA2 : ¬ (mA : Int) < 2 := by rw [hlA]; have := qA.out; omega
    have mB2 : ¬ (mB : Int) < 2 := by rw [hlB]; have := qB.out; omega
    rw [← hlA] at hcA
    rw [← hlB] at hcB
    have x0 := X5.c0
    have x1 := X5.c1
    have y0 := Y5.c0
    have y1 := Y5.c1
    have HA := hide hlA
    have HB := hide hlB
    clear hlA hlB
    rcases Nat.lt_or_ge mB mA with hle | hle
    · have hleI : (mB : Int) < (mA : Int) := by omega
      have sA := hA.src pA.out mB (by omega) rfl hmA
      have sB := hB.src pB.out mB (by omega) rfl hmB
      have te : ((strOfNums (A.take mB)).toList == (strOfNums (B.take mB)).toList) = alikeB u1 u2 ys1 ys2 := by
        rw [text_eq sA.hbyt sB.hbyt, bg.out mB (by rw [← HA.out, ← HB.out]; omega)]
      have te2 : (alikeB u1 u2 ys1 ys2 == alikeB u1 u2 ys1 ys2) = true := by simp
      have cv1 := (Src.heap (w' := w5.drew) sA rfl).text
      have cv2 := (Src.heap (w' := w5.drew) sB rfl).text
      have i0 : (0 : Int) ≤ (mB : Int) := by omega
      have i1 : (mB : Int) ≤ (cA : Int) := by omega
      have i2 : (mB : Int) ≤ (cB : Int) := by omega
      go_wp2_with fail
      go_region_held3 (fun W => W.cell? ⟨w.heap.size, 0, none⟩ = some (.int .i64 u1) ∧ W.cell? ⟨w.heap.size, 1, none⟩ = some (.slice a1 n1' c1) ∧ W.cell? ⟨w.heap.size + 1, 0, none⟩ = some (.int .i64 u2) ∧ W.cell? ⟨w.heap.size + 1, 1, none⟩ = some (.slice a2 n2' c2) ∧ (convert 23 9 (.slice (some ⟨gA, 0, none⟩) mB cA)).run Try.prog W = .ok (.string (strOfNums (A.take mB))) W ∧ (convert 23 9 (.slice (some ⟨gB, 0, none⟩) mB cB)).run Try.prog W = .ok (.string (strOfNums (B.take mB))) W) (first | exact ⟨x0, x1, y0, y1, cv1, cv2⟩ | exact ⟨by assumption, by assumption, by assumption, by assumption, by assumption, by assumption⟩) (first | (go_at_call 10; refine (alike_any u1 u2 a1 n1' c1 a2 n2' c2 ys1 ys2 _ ?_ ?_).mono ?_; exact S1.heap rfl; exact S2.heap rfl; rintro e w6 ⟨rfl, B6⟩; have x2 := X5.belowH B6 rfl; have y2 := Y5.belowH B6 rfl; have x3 := x2.c0; have x4 := x2.c1; have y3 := y2.c0; have y4 := y2.c1; have v1 := (sA.belowH B6 rfl).text; have v2 := (sB.belowH B6 rfl).text))
      go_wp2
      go_ret
      exact ⟨rfl, ⟨B6.os.trans B5'.os, B6.tape.trans B5'.tape, B6.output.trans B5'.output, Nat.le_trans B5'.size B6.size, fun k hk => (B6.block k (Nat.lt_of_lt_of_le hk B5'.size)).trans (B5'.block k hk)⟩⟩
    · have hleI : (mA : Int) ≤ (mB : Int) := by omega
      have sA := hA.src pA.out mA (by omega) rfl hmA
      have sB := hB.src pB.out mA (by omega) rfl hmB
      have te : ((strOfNums (A.take mA)).toList == (strOfNums (B.take mA)).toList) = alikeB u1 u2 ys1 ys2 := by
        rw [text_eq sA.hbyt sB.hbyt, bg.out mA (by rw [← HA.out, ← HB.out]; omega)]
      have te2 : (alikeB u1 u2 ys1 ys2 == alikeB u1 u2 ys1 ys2) = true := by simp
      have cv1 := (Src.heap (w' := w5.drew) sA rfl).text
      have cv2 := (Src.heap (w' := w5.drew) sB rfl).text
      have i0 : (0 : Int) ≤ (mA : Int) := by omega
      have i1 : (mA : Int) ≤ (cA : Int) := by omega
      have i2 : (mA : Int) ≤ (cB : Int) := by omega
      go_wp2_with fail
      go_region_held3 (fun W => W.cell? ⟨w.heap.size, 0, none⟩ = some (.int .i64 u1) ∧ W.cell? ⟨w.heap.size, 1, none⟩ = some (.slice a1 n1' c1) ∧ W.cell? ⟨w.heap.size + 1, 0, none⟩ = some (.int .i64 u2) ∧ W.cell? ⟨w.heap.size + 1, 1, none⟩ = some (.slice a2 n2' c2) ∧ (convert 23 9 (.slice (some ⟨gA, 0, none⟩) mA cA)).run Try.prog W = .ok (.string (strOfNums (A.take mA))) W ∧ (convert 23 9 (.slice (some ⟨gB, 0, none⟩) mA cB)).run Try.prog W = .ok (.string (strOfNums (B.take mA))) W) (first | exact ⟨x0, x1, y0, y1, cv1, cv2⟩ | exact ⟨by assumption, by assumption, by assumption, by assumption, by assumption, by assumption⟩) (first | (go_at_call 10; refine (alike_any u1 u2 a1 n1' c1 a2 n2' c2 ys1 ys2 _ ?_ ?_).mono ?_; exact S1.heap rfl; exact S2.heap rfl; rintro e w6 ⟨rfl, B6⟩; have x2 := X5.belowH B6 rfl; have y2 := Y5.belowH B6 rfl; have x3 := x2.c0; have x4 := x2.c1; have y3 := y2.c0; have y4 := y2.c1; have v1 := (sA.belowH B6 rfl).text; have v2 := (sB.belowH B6 rfl).text))
      go_wp2
      go_ret
      exact ⟨rfl, ⟨B6.os.trans B5'.os, B6.tape.trans B5'.tape, B6.output.trans B5'.output, Nat.le_trans B5'.size B6.size, fun k hk => (B6.block k (Nat.lt_of_lt_of_le hk B5'.size)).trans (B5'.block k hk)⟩⟩

end Go.Proofs.Ytdoijgkdmfchaab
