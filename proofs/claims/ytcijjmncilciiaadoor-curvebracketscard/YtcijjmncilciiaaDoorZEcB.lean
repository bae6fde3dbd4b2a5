/-
  The sum of points is associative. Plain facts.
-/
import Derived.Test.YtcijjmncilciiaaDoorZEcA
namespace Go.Proofs.YtcijjmncilciiaaDoor

theorem d_l3 {a b c k l m x : Int} (h : x = k * a + l * b + m * c) (ha : D a) (hb : D b) (hc : D c) : D x := by
  rw [h]; exact ((ha.mul_l k).add (hb.mul_l l)).add (hc.mul_l m)
theorem d_l4 {a b c d k l m n x : Int} (h : x = k * a + l * b + m * c + n * d) (ha : D a) (hb : D b) (hc : D c) (hd : D d) : D x := by
  rw [h]; exact (((ha.mul_l k).add (hb.mul_l l)).add (hc.mul_l m)).add (hd.mul_l n)

/-- The rise of the line through two points, chord or tangent. -/
def Sl (x1 y1 x2 y2 a : Int) : Prop := D (y1 - y2 - a * (x1 - x2)) ∧ D (a * (y1 + y2) - (x1 * x1 + x1 * x2 + x2 * x2 - 3))
/-- Two points that are across from one another. -/
def Op (x1 y1 x2 y2 : Int) : Prop := x1 = x2 ∧ D (y1 + y2)

theorem th_of {x1 y1 x2 r h a : Int} (hh : ¬ D h) (ha : D (a * h - r)) :
    D ((th x1 y1 x2 r h).1 - (a * a - x1 - x2)) ∧ D ((th x1 y1 x2 r h).2 - (a * (x1 - (th x1 y1 x2 r h).1) - y1)) := by
  have h1 : Cg (h * iv h) 1 := iv_ok hh
  have h2 : Cg (r * iv h) a := by
    have h3 : Cg (a * h) r := ha
    have h4 : Cg (a * h * iv h) (r * iv h) := h3.mul (Cg.refl _)
    have h5 : Cg (a * (h * iv h)) (a * 1) := (Cg.refl a).mul h1
    rw [Int.mul_one, ← Int.mul_assoc] at h5
    exact h4.symm.trans h5
  constructor
  · exact (Cg.md _).trans (((h2.mul h2).sub (Cg.refl _)).sub (Cg.refl _))
  · exact (Cg.md _).trans ((h2.mul (Cg.refl _)).sub (Cg.refl _))

theorem same_y {x y1 y2 : Int} (hp : Ok (some (x, y1))) (hq : Ok (some (x, y2))) (hn : ¬ Op x y1 x y2) : y1 = y2 := by
  refine Classical.byContradiction fun hne => hn ⟨rfl, ?_⟩
  have h1 : D (y2 - -y1) := across hp.2.2 hq.2.2 hp.2.1 hq.2.1 hne
  have e : y2 - -y1 = y1 + y2 := by omega
  rw [e] at h1
  exact h1

theorem sl_ex {x1 y1 x2 y2 : Int} (hp : Ok (some (x1, y1))) (hq : Ok (some (x2, y2))) (hn : ¬ Op x1 y1 x2 y2) : ∃ a, Sl x1 y1 x2 y2 a := by
  by_cases ex : x1 = x2
  · subst ex
    have ey := same_y hp hq hn
    subst ey
    have h1 : D (2 * y1 * iv (2 * y1) - 1) := iv_ok (dbl_nd hp.2.2)
    refine ⟨(3 * x1 * x1 - 3) * iv (2 * y1), ?_, ?_⟩
    · exact ⟨0, by rw [Int.sub_self, Int.sub_self, Int.mul_zero, Int.mul_zero]; rfl⟩
    · generalize iv (2 * y1) = i at *
      exact d_one (c := 3 * x1 * x1 - 3) (by clear hp hq hn h1; grind) h1
  · have hh := cg_ne hp.1 hq.1 ex
    have h1 : D ((x2 - x1) * iv (x2 - x1) - 1) := iv_ok hh
    have A : D (y1 - y2 - (y2 - y1) * iv (x2 - x1) * (x1 - x2)) := by
      generalize iv (x2 - x1) = i at *
      exact d_one (c := (y2 - y1)) (by clear hp hq hn h1 hh ex; grind) h1
    refine ⟨(y2 - y1) * iv (x2 - x1), A, ?_⟩
    generalize (y2 - y1) * iv (x2 - x1) = a at *
    have hc1 := hp.2.2
    have hc2 := hq.2.2
    have h2 : D ((a * (y1 + y2) - (x1 * x1 + x1 * x2 + x2 * x2 - 3)) * (x2 - x1)) :=
      d_l3 (k := (y1 + y2)) (l := -1) (m := 1) (by unfold cR; generalize BB = b; clear hp hq hn h1 hh ex A hc1 hc2; grind) A hc1 hc2
    exact h2.prod.elim id (fun h => absurd h hh)

theorem op_none {x1 y1 x2 y2 : Int} (hp : Ok (some (x1, y1))) (h : Op x1 y1 x2 y2) : padd (some (x1, y1)) (some (x2, y2)) = none := by
  have h1 : y1 ≠ y2 := by
    intro e
    have h2 := h.2
    rw [← e] at h2
    have e2 : y1 + y1 = 2 * y1 := by omega
    rw [e2] at h2
    exact dbl_nd hp.2.2 h2
  unfold padd
  dsimp only
  rw [if_pos h.1, if_neg h1]

theorem sl_sum {x1 y1 x2 y2 a : Int} (hp : Ok (some (x1, y1))) (hq : Ok (some (x2, y2))) (hn : ¬ Op x1 y1 x2 y2) (ha : Sl x1 y1 x2 y2 a) :
    ∃ x3 y3, padd (some (x1, y1)) (some (x2, y2)) = some (x3, y3) ∧ Ok (some (x3, y3)) ∧ D (x3 - (a * a - x1 - x2)) ∧ D (y3 - (a * (x1 - x3) - y1)) := by
  have hk := padd_ok hp hq
  by_cases ex : x1 = x2
  · subst ex
    have ey := same_y hp hq hn
    subst ey
    have e : padd (some (x1, y1)) (some (x1, y1)) = some (th x1 y1 x1 (3 * x1 * x1 - 3) (2 * y1)) := by
      unfold padd
      dsimp only
      rw [if_pos rfl, if_pos rfl]
    rw [e] at hk
    have h1 : D (a * (2 * y1) - (3 * x1 * x1 - 3)) := d_one (c := 1) (by clear hp hq hn hk e; grind) ha.2
    have h2 := th_of (x1 := x1) (y1 := y1) (x2 := x1) (dbl_nd hp.2.2) h1
    exact ⟨_, _, e, hk, h2.1, h2.2⟩
  · have e : padd (some (x1, y1)) (some (x2, y2)) = some (th x1 y1 x2 (y2 - y1) (x2 - x1)) := by
      unfold padd
      dsimp only
      rw [if_neg ex]
    rw [e] at hk
    have h1 : D (a * (x2 - x1) - (y2 - y1)) := d_one (c := 1) (by clear hp hq hn hk e; grind) ha.1
    have h2 := th_of (x1 := x1) (y1 := y1) (x2 := x2) (cg_ne hp.1 hq.1 ex) h1
    exact ⟨_, _, e, hk, h2.1, h2.2⟩

/-- Whatever lies where the sum does is the sum. -/
theorem sl_pt {x1 y1 x2 y2 a x y : Int} (hp : Ok (some (x1, y1))) (hq : Ok (some (x2, y2))) (hn : ¬ Op x1 y1 x2 y2) (ha : Sl x1 y1 x2 y2 a)
    (ht : Ok (some (x, y))) (hx : D (x - (a * a - x1 - x2))) (hy : D (y - (a * (x1 - x) - y1))) : padd (some (x1, y1)) (some (x2, y2)) = some (x, y) := by
  obtain ⟨x3, y3, e, hk, h1, h2⟩ := sl_sum hp hq hn ha
  have ex : x3 = x := Cg.eq (show D (x3 - x) from d_lin (c := 1) (d := -1) (by omega) h1 hx) hk.1 ht.1
  subst ex
  have ey : y3 = y := Cg.eq (show D (y3 - y) from d_lin (c := 1) (d := -1) (by omega) h2 hy) hk.2.1 ht.2.1
  subst ey
  exact e

theorem op_symm {x1 y1 x2 y2 : Int} (h : Op x1 y1 x2 y2) : Op x2 y2 x1 y1 := ⟨h.1.symm, by rw [Int.add_comm]; exact h.2⟩
theorem sl_symm {x1 y1 x2 y2 a : Int} (h : Sl x1 y1 x2 y2 a) : Sl x2 y2 x1 y1 a :=
  ⟨d_one (c := -1) (by grind) h.1, d_one (c := 1) (by grind) h.2⟩

theorem padd_far (p : Option (Int × Int)) : padd p none = p := by cases p <;> rfl
theorem far_padd (p : Option (Int × Int)) : padd none p = p := by cases p <;> rfl

theorem padd_comm : ∀ {p q : Option (Int × Int)}, Ok p → Ok q → padd p q = padd q p
  | none, q, _, _ => by rw [padd_far, far_padd]
  | some p, none, _, _ => by rw [padd_far, far_padd]
  | some (x1, y1), some (x2, y2), hp, hq => by
    by_cases hn : Op x1 y1 x2 y2
    · rw [op_none hp hn, op_none hq (op_symm hn)]
    · obtain ⟨a, ha⟩ := sl_ex hp hq hn
      obtain ⟨x3, y3, e, hk, h1, h2⟩ := sl_sum hp hq hn ha
      rw [e]
      refine (sl_pt hq hp (fun h => hn (op_symm h)) (sl_symm ha) hk ?_ ?_).symm
      · exact d_one (c := 1) (by clear hp hq hn hk e; grind) h1
      · exact d_lin (c := 1) (d := -1) (by clear hp hq hn hk e; grind) h2 ha.1

/-- The line goes through the point across from the sum. -/
theorem third {x2 y2 x3 y3 b xs ys : Int} (h : Sl x2 y2 x3 y3 b) (hx : D (xs - (b * b - x2 - x3))) (hy : D (ys - (b * (x2 - xs) - y2))) :
    D (b * (y2 - ys) - (x2 * x2 + x2 * xs + xs * xs - 3)) :=
  d_l4 (k := b) (l := 1) (m := -b) (n := -(xs - x3)) (by clear h hx hy; grind) h.1 h.2 hy hx

/-- The point across from a summand, added to the sum, gives the other. -/
theorem cancel {x2 y2 x3 y3 y' : Int} (hq : Ok (some (x2, y2))) (hr : Ok (some (x3, y3))) (hp : Ok (some (x2, y'))) (ho : D (y' + y2)) :
    padd (some (x2, y')) (padd (some (x2, y2)) (some (x3, y3))) = some (x3, y3) := by
  by_cases hn : Op x2 y2 x3 y3
  · rw [op_none hq hn, padd_far]
    have ey : y' = y3 := Cg.eq (show D (y' - y3) from d_lin (c := 1) (d := -1) (by omega) ho hn.2) hp.2.1 hr.2.1
    rw [ey, hn.1]
  · obtain ⟨b, hb⟩ := sl_ex hq hr hn
    obtain ⟨xs, ys, e, hk, h1, h2⟩ := sl_sum hq hr hn hb
    rw [e]
    have h3 := third hb h1 h2
    refine sl_pt (a := -b) hp hk ?_ ⟨?_, ?_⟩ hr ?_ ?_
    · intro h
      have h4 := h.2
      have h5 := h.1
      subst h5
      refine dbl_nd hq.2.2 (d_l3 (k := 1) (l := 1) (m := -1) ?_ ho h2 h4)
      clear hp hq hr hk e h
      grind
    · exact d_lin (c := 1) (d := -1) (by clear hp hq hr hk e hn; grind) ho h2
    · exact d_lin (c := -b) (d := 1) (by clear hp hq hr hk e hn; grind) ho h3
    · exact d_one (c := 1) (by clear hp hq hr hk e hn; grind) h1
    · exact d_lin (c := 1) (d := -1) (by clear hp hq hr hk e hn; grind) ho hb.1

theorem cc_alg {x1 y1 x2 y2 x3 y3 a b c c' xs ys xt yt : Int} (hP : Sl x1 y1 x2 y2 a) (hQ : Sl x2 y2 x3 y3 b)
    (hxs : D (xs - (a * a - x1 - x2))) (hys : D (ys - (a * (x1 - xs) - y1))) (hxt : D (xt - (b * b - x2 - x3))) (hyt : D (yt - (b * (x2 - xt) - y2)))
    (hc : D (ys - y3 - c * (xs - x3))) (hc' : D (y1 - yt - c' * (x1 - xt))) (hd : ¬ D (xs - x3)) (he : ¬ D (x1 - xt)) :
    Cg (c * c - (xs + x3)) (c' * c' - (x1 + xt)) ∧ Cg (c * (x3 - (c * c - (xs + x3))) - y3) (c' * (x1 - (c' * c' - (x1 + xt))) - y1) := by
  obtain ⟨Y1, E1⟩ : ∃ Y1, Y1 = y2 + a * (x1 - x2) := ⟨_, rfl⟩
  obtain ⟨Y3, E3⟩ : ∃ Y3, Y3 = y2 + b * (x3 - x2) := ⟨_, rfl⟩
  obtain ⟨Xs, EXs⟩ : ∃ Xs, Xs = a * a - x1 - x2 := ⟨_, rfl⟩
  obtain ⟨Ys, EYs⟩ : ∃ Ys, Ys = a * (x2 - Xs) - y2 := ⟨_, rfl⟩
  obtain ⟨Xt, EXt⟩ : ∃ Xt, Xt = b * b - x2 - x3 := ⟨_, rfl⟩
  obtain ⟨Yt, EYt⟩ : ∃ Yt, Yt = b * (x2 - Xt) - y2 := ⟨_, rfl⟩
  have c1 : Cg y1 Y1 := d_one (c := 1) (by rw [E1]; omega) hP.1
  have c3 : Cg y3 Y3 := d_one (c := -1) (by rw [E3]; clear hP hQ hxs hys hxt hyt hc hc' hd he; grind) hQ.1
  have cxs : Cg xs Xs := by rw [EXs]; exact hxs
  have cys : Cg ys Ys := d_l3 (k := 1) (l := -1) (m := -a) (by rw [EYs, EXs]; clear hP hQ hxs hys hxt hyt hc hc' hd he; grind) hys hP.1 hxs
  have cxt : Cg xt Xt := by rw [EXt]; exact hxt
  have cyt : Cg yt Yt := d_lin (c := 1) (d := -b) (by rw [EYt, EXt]; clear hP hQ hxs hys hxt hyt hc hc' hd he; grind) hyt hxt
  have r1 : D (a * (2 * y2 + a * (x1 - x2)) - (x1 * x1 + x1 * x2 + x2 * x2 - 3)) :=
    d_lin (c := 1) (d := -a) (by clear hP hQ hxs hys hxt hyt hc hc' hd he; grind) hP.2 hP.1
  have r2 : D (b * (2 * y2 + b * (x3 - x2)) - (x3 * x3 + x3 * x2 + x2 * x2 - 3)) :=
    d_lin (c := 1) (d := b) (by clear hP hQ hxs hys hxt hyt hc hc' hd he; grind) hQ.2 hQ.1
  refine outer (d := xs - x3) (u := ys - y3) (e := x1 - xt) (v := y1 - yt) (Cg.symm hc) (Cg.symm hc') hd he ?_ ?_
  · refine Cg.d (b := (Ys - Y3) * (Ys - Y3) * ((x1 - Xt) * (x1 - Xt)) - (Y1 - Yt) * (Y1 - Yt) * ((Xs - x3) * (Xs - x3)) - ((Xs + x3) - (x1 + Xt)) * ((Xs - x3) * (Xs - x3)) * ((x1 - Xt) * (x1 - Xt))) ?_ ?_
    · clear r1 r2 hP hQ hxs hys hxt hyt hc hc' hd he
      repeat' first | assumption | exact Cg.refl _ | apply Cg.sub | apply Cg.add | apply Cg.mul
    · rw [id_F x1 x2 x3 a b y2 Y1 Y3 Xs Ys Xt Yt E1 E3 EXs EYs EXt EYt]
      exact (r1.mul_l _).add (r2.mul_l _)
  · refine Cg.d (b := (x1 - Xt) * (Ys - Y3) * (x3 * ((Xs - x3) * (Xs - x3)) - ((Ys - Y3) * (Ys - Y3) - (Xs + x3) * ((Xs - x3) * (Xs - x3)))) - (Xs - x3) * (Y1 - Yt) * (x1 * ((Xs - x3) * (Xs - x3)) - ((Ys - Y3) * (Ys - Y3) - (Xs + x3) * ((Xs - x3) * (Xs - x3)))) - (Xs - x3) * ((Xs - x3) * (Xs - x3)) * (x1 - Xt) * (Y3 - Y1)) ?_ ?_
    · clear r1 r2 hP hQ hxs hys hxt hyt hc hc' hd he
      repeat' first | assumption | exact Cg.refl _ | apply Cg.sub | apply Cg.add | apply Cg.mul
    · rw [id_G x1 x2 x3 a b y2 Y1 Y3 Xs Ys Xt Yt E1 E3 EXs EYs EXt EYt]
      exact (r1.mul_l _).add (r2.mul_l _)

theorem nine_nd : ¬ D 9 := by intro h; have := Int.le_of_dvd (by decide) h; exact absurd this (by decide)

theorem tc_alg {x1 y1 x2 y2 a b c c' xs ys xt yt : Int} (hP : Sl x1 y1 x2 y2 a) (hQ : Sl x2 y2 xs ys b)
    (hxs : D (xs - (a * a - x1 - x2))) (hys : D (ys - (a * (x1 - xs) - y1))) (hxt : D (xt - (b * b - x2 - xs))) (hyt : D (yt - (b * (x2 - xt) - y2)))
    (hc : D (c * (ys + ys) - (xs * xs + xs * xs + xs * xs - 3))) (hc' : D (y1 - yt - c' * (x1 - xt))) (hd : ¬ D (2 * ys)) (he : ¬ D (x1 - xt)) :
    Cg (c * c - (xs + xs)) (c' * c' - (x1 + xt)) ∧ Cg (c * (xs - (c * c - (xs + xs))) - ys) (c' * (x1 - (c' * c' - (x1 + xt))) - y1) := by
  obtain ⟨Y1, E1⟩ : ∃ Y1, Y1 = y2 + a * (x1 - x2) := ⟨_, rfl⟩
  obtain ⟨Xs, EXs⟩ : ∃ Xs, Xs = a * a - x1 - x2 := ⟨_, rfl⟩
  obtain ⟨Ys, EYs⟩ : ∃ Ys, Ys = a * (x2 - Xs) - y2 := ⟨_, rfl⟩
  obtain ⟨Xt, EXt⟩ : ∃ Xt, Xt = b * b - x2 - Xs := ⟨_, rfl⟩
  obtain ⟨Yt, EYt⟩ : ∃ Yt, Yt = b * (x2 - Xt) - y2 := ⟨_, rfl⟩
  have c1 : Cg y1 Y1 := d_one (c := 1) (by rw [E1]; omega) hP.1
  have cxs : Cg xs Xs := by rw [EXs]; exact hxs
  have cys : Cg ys Ys := d_l3 (k := 1) (l := -1) (m := -a) (by rw [EYs, EXs]; clear hP hQ hxs hys hxt hyt hc hc' hd he; grind) hys hP.1 hxs
  have cxt : Cg xt Xt := d_lin (c := 1) (d := -1) (by rw [EXt, EXs]; omega) hxt hxs
  have cyt : Cg yt Yt := d_l3 (k := 1) (l := -b) (m := b) (by rw [EYt, EXt, EXs]; clear hP hQ hxs hys hxt hyt hc hc' hd he; grind) hyt hxt hxs
  have r1 : D (a * (2 * y2 + a * (x1 - x2)) - (x1 * x1 + x1 * x2 + x2 * x2 - 3)) :=
    d_lin (c := 1) (d := -a) (by clear hP hQ hxs hys hxt hyt hc hc' hd he; grind) hP.2 hP.1
  have s0 : D (Ys - y2 - b * (Xs - x2)) :=
    d_l3 (k := -1) (l := -1) (m := b) (by clear hP hQ hxs hys hxt hyt hc hc' hd he c1 r1; grind) hQ.1 (show D (ys - Ys) from cys) (show D (xs - Xs) from cxs)
  have hu : Cg (c * (2 * ys)) (3 * xs * xs - 3) := d_one (c := 1) (by clear hP hQ hxs hys hxt hyt hc hc' hd he c1 r1; grind) hc
  refine outer (d := 2 * ys) (u := 3 * xs * xs - 3) (e := x1 - xt) (v := y1 - yt) hu (Cg.symm hc') hd he ?_ ?_
  · refine Cg.d (b := (3 * Xs * Xs - 3) * (3 * Xs * Xs - 3) * ((x1 - Xt) * (x1 - Xt)) - (Y1 - Yt) * (Y1 - Yt) * ((2 * Ys) * (2 * Ys)) - ((Xs + Xs) - (x1 + Xt)) * ((2 * Ys) * (2 * Ys)) * ((x1 - Xt) * (x1 - Xt))) ?_ ?_
    · clear r1 s0 hu hP hQ hxs hys hxt hyt hc hc' hd he
      repeat' first | assumption | exact Cg.refl _ | apply Cg.sub | apply Cg.add | apply Cg.mul
    · have h9 := id_H x1 x2 a b y2 Y1 Xs Ys Xt Yt E1 EXs EYs EXt EYt
      refine (D.prod (a := 9) ?_).elim (fun h => absurd h nine_nd) id
      rw [h9]
      have g1 : D ((x2 - x1) * (Ys - y2 - b * (Xs - x2)) - (a + b) * (a * (2 * y2 + a * (x1 - x2)) - (x1 * x1 + x1 * x2 + x2 * x2 - 3))) :=
        d_lin (c := x2 - x1) (d := -(a + b)) (by rw [Int.neg_mul]; omega) s0 r1
      have g2 : D (-(Ys - y2 - b * (Xs - x2))) := d_one (c := -1) (by omega) s0
      exact ((g1.mul_l _).add (g2.mul_l _)).add (r1.mul_l _)
  · refine Cg.d (b := (x1 - Xt) * (3 * Xs * Xs - 3) * (Xs * ((2 * Ys) * (2 * Ys)) - ((3 * Xs * Xs - 3) * (3 * Xs * Xs - 3) - (Xs + Xs) * ((2 * Ys) * (2 * Ys)))) - (2 * Ys) * (Y1 - Yt) * (x1 * ((2 * Ys) * (2 * Ys)) - ((3 * Xs * Xs - 3) * (3 * Xs * Xs - 3) - (Xs + Xs) * ((2 * Ys) * (2 * Ys)))) - (2 * Ys) * ((2 * Ys) * (2 * Ys)) * (x1 - Xt) * (Ys - Y1)) ?_ ?_
    · clear r1 s0 hu hP hQ hxs hys hxt hyt hc hc' hd he
      repeat' first | assumption | exact Cg.refl _ | apply Cg.sub | apply Cg.add | apply Cg.mul
    · have h9 := id_K x1 x2 a b y2 Y1 Xs Ys Xt Yt E1 EXs EYs EXt EYt
      refine (D.prod (a := 9) ?_).elim (fun h => absurd h nine_nd) id
      rw [h9]
      have g1 : D ((x2 - x1) * (Ys - y2 - b * (Xs - x2)) - (a + b) * (a * (2 * y2 + a * (x1 - x2)) - (x1 * x1 + x1 * x2 + x2 * x2 - 3))) :=
        d_lin (c := x2 - x1) (d := -(a + b)) (by rw [Int.neg_mul]; omega) s0 r1
      have g2 : D (-(Ys - y2 - b * (Xs - x2))) := d_one (c := -1) (by omega) s0
      exact ((g1.mul_l _).add (g2.mul_l _)).add (r1.mul_l _)

end Go.Proofs.YtcijjmncilciiaaDoor
