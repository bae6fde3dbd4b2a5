/-
  The sum of points is associative: the cases laid together. Plain facts.
  The document's twice and sum stand for the same sum of points; so many times a point. Plain facts.
-/
import Derived.Test.YtcijjmncilciiaaDoorZEcB
import Derived.Test.YtcijjmncilciiaaDoorZEcP
namespace Go.Proofs.YtcijjmncilciiaaDoor

/-- Where the sum of the first two is across from the third, the first is across from the sum of the others. -/
theorem opp_go {x1 y1 x2 y2 x3 y3 a xs ys xt yt : Int} (hp : Ok (some (x1, y1))) (hq : Ok (some (x2, y2))) (hr : Ok (some (x3, y3)))
    (hP : Sl x1 y1 x2 y2 a) (h23 : ¬ Op x2 y2 x3 y3) (hxs : D (xs - (a * a - x1 - x2))) (hys : D (ys - (a * (x1 - xs) - y1)))
    (hO : Op xs ys x3 y3) (hT : padd (some (x2, y2)) (some (x3, y3)) = some (xt, yt)) : Op x1 y1 xt yt := by
  obtain ⟨hO1, hO2⟩ := hO
  subst hO1
  have hys' : D (ys - (a * (x2 - xs) - y2)) := d_lin (c := 1) (d := -1) (by clear hp hq hr hP h23 hxs hys hT hO2; grind) hys hP.1
  have hxs' : D (xs - (a * a - x2 - x1)) := d_one (c := 1) (by omega) hxs
  have h3 := third (sl_symm hP) hxs' hys'
  have hS : Sl x2 y2 xs y3 a := by
    constructor
    · exact d_lin (c := 1) (d := -1) (by clear hp hq hr hP h23 hxs hys hT hO2 h3 hys' hxs'; grind) hys' hO2
    · exact d_lin (c := 1) (d := a) (by clear hp hq hr hP h23 hxs hys hT hO2 h3 hys' hxs'; grind) h3 hO2
  obtain ⟨x', y', e, hk, h1, h2⟩ := sl_sum hq hr h23 hS
  rw [hT] at e
  injection e with e
  injection e with ex ey
  subst ex
  subst ey
  have hx : x1 = xt := Cg.eq (show D (x1 - xt) from d_lin (c := 1) (d := -1) (by clear hp hq hr hP h23 hys hT hO2 h3 hys' hxs' hS h2; omega) hxs h1) hp.1 hk.1
  refine ⟨hx, ?_⟩
  rw [← hx] at h2
  exact d_lin (c := 1) (d := 1) (by clear hp hq hr hP h23 hxs hys hT hO2 h3 hys' hxs' hS h1 h2 hx; grind) hP.1 h2

theorem fin_x {x1 x3 c c' xs xt xu : Int} (hxu : D (xu - (c * c - xs - x3))) (X : Cg (c * c - (xs + x3)) (c' * c' - (x1 + xt))) : D (xu - (c' * c' - x1 - xt)) :=
  d_lin (c := 1) (d := 1) (by omega) hxu (show D (c * c - (xs + x3) - (c' * c' - (x1 + xt))) from X)
theorem fin_y {x1 y1 x3 y3 c c' xs ys xt xu yu : Int} (hc : D (ys - y3 - c * (xs - x3))) (hxu : D (xu - (c * c - xs - x3))) (hyu : D (yu - (c * (xs - xu) - ys)))
    (X : Cg (c * c - (xs + x3)) (c' * c' - (x1 + xt))) (Y : Cg (c * (x3 - (c * c - (xs + x3))) - y3) (c' * (x1 - (c' * c' - (x1 + xt))) - y1)) :
    D (yu - (c' * (x1 - xu) - y1)) := by
  have h2 := fin_x hxu X
  have h1 : D (yu - (c' * (x1 - xu) - y1) - c' * (xu - (c' * c' - x1 - xt))) :=
    d_l4 (k := 1) (l := -1) (m := -c) (n := 1) (by clear hc hxu hyu X Y h2; grind) hyu hc hxu (show D (c * (x3 - (c * c - (xs + x3))) - y3 - (c' * (x1 - (c' * c' - (x1 + xt))) - y1)) from Y)
  exact d_lin (c := 1) (d := c') (by omega) h1 h2

theorem nd_of {a b : Int} (h : ¬ D (a - b)) : ¬ D (b - a) := fun h' => h (d_one (c := -1) (by omega) h')

theorem padd_assoc : ∀ {p q r : Option (Int × Int)}, Ok p → Ok q → Ok r → padd (padd p q) r = padd p (padd q r)
  | none, q, r, _, _, _ => by rw [far_padd, far_padd]
  | some p, none, r, _, _, _ => by rw [padd_far, far_padd]
  | some p, some q, none, _, _, _ => by rw [padd_far, padd_far]
  | some (x1, y1), some (x2, y2), some (x3, y3), hp, hq, hr => by
    by_cases h12 : Op x1 y1 x2 y2
    · rw [op_none hp h12, far_padd]
      obtain ⟨h1, h2⟩ := h12
      subst h1
      exact (cancel hq hr hp h2).symm
    by_cases h23 : Op x2 y2 x3 y3
    · rw [op_none hq h23, padd_far, padd_comm (padd_ok hp hq) hr, padd_comm hp hq]
      obtain ⟨h1, h2⟩ := h23
      subst h1
      exact cancel hq hp hr (by rw [Int.add_comm]; exact h2)
    obtain ⟨a, hP⟩ := sl_ex hp hq h12
    obtain ⟨b, hQ⟩ := sl_ex hq hr h23
    obtain ⟨xs, ys, eS, kS, hxs, hys⟩ := sl_sum hp hq h12 hP
    obtain ⟨xt, yt, eT, kT, hxt, hyt⟩ := sl_sum hq hr h23 hQ
    have hys' : D (ys - (a * (x2 - xs) - y2)) := d_lin (c := 1) (d := -1) (by clear hp hq hr hP hQ h12 h23 eS eT kS kT hxs hys hxt hyt; grind) hys hP.1
    have hyt' : D (yt - (b * (x3 - xt) - y3)) := d_lin (c := 1) (d := -1) (by clear hp hq hr hP hQ h12 h23 eS eT kS kT hxs hys hxt hyt hys'; grind) hyt hQ.1
    have hxs' : D (xs - (a * a - x2 - x1)) := d_one (c := 1) (by omega) hxs
    have hxt' : D (xt - (b * b - x3 - x2)) := d_one (c := 1) (by omega) hxt
    rw [eS, eT]
    by_cases hO1 : Op xs ys x3 y3
    · rw [op_none kS hO1, op_none hp (opp_go hp hq hr hP h23 hxs hys hO1 eT)]
    have hO2 : ¬ Op x1 y1 xt yt := by
      intro h
      refine hO1 (op_symm (opp_go hr hq hp (sl_symm hQ) (fun h => h12 (op_symm h)) hxt' hyt' (op_symm h) ?_))
      rw [padd_comm hq hp]
      exact eS
    obtain ⟨c, hC⟩ := sl_ex kS hr hO1
    obtain ⟨c', hC'⟩ := sl_ex hp kT hO2
    obtain ⟨xu, yu, eU, kU, hxu, hyu⟩ := sl_sum kS hr hO1 hC
    rw [eU]
    have F : Cg (c * c - (xs + x3)) (c' * c' - (x1 + xt)) ∧ Cg (c * (x3 - (c * c - (xs + x3))) - y3) (c' * (x1 - (c' * c' - (x1 + xt))) - y1) := by
      by_cases e1 : xs = x3
      · subst e1
        have ey := same_y kS hr hO1
        subst ey
        by_cases e2 : x1 = xt
        · exfalso
          subst e2
          have ey := same_y hp kT hO2
          subst ey
          have h1 : D ((a - b) * (a + b)) := d_lin (c := -1) (d := 1) (by clear hp hq hr hP hQ h12 h23 eS eT kS kT hxs hys hxt hyt hys' hyt' hxs' hxt' hO1 hO2 hC hC' eU kU hxu hyu; grind) hxs hxt
          have h2 : D (2 * y2 - (a + b) * (x2 - x1)) := d_lin (c := -1) (d := 1) (by clear hp hq hr hP hQ h12 h23 eS eT kS kT hxs hys hxt hyt hys' hyt' hxs' hxt' hO1 hO2 hC hC' eU kU hxu hyu h1; grind) hP.1 hyt
          have h3 : D (2 * y1 - (a - b) * (x1 - x2)) := d_lin (c := 1) (d := 1) (by clear hp hq hr hP hQ h12 h23 eS eT kS kT hxs hys hxt hyt hys' hyt' hxs' hxt' hO1 hO2 hC hC' eU kU hxu hyu h1 h2; grind) hP.1 hyt
          rcases h1.prod with h | h
          · exact dbl_nd hp.2.2 (d_lin (c := 1) (d := x1 - x2) (by rw [Int.mul_comm (x1 - x2)]; omega) h3 h)
          · exact dbl_nd hq.2.2 (d_lin (c := 1) (d := x2 - x1) (by rw [Int.mul_comm (x2 - x1)]; omega) h2 h)
        · exact tc_alg hP hQ hxs hys hxt hyt hC.2 hC'.1 (dbl_nd kS.2.2) (cg_ne kT.1 hp.1 (fun e => e2 e.symm))
      · by_cases e2 : x1 = xt
        · subst e2
          have ey := same_y hp kT hO2
          subst ey
          have hx := tc_alg (c := c') (c' := c) (sl_symm hQ) (sl_symm hP) hxt' hyt' hxs' hys' hC'.2 (d_one (c := -1) (by clear hp hq hr hP hQ h12 h23 eS eT kS kT hxs hys hxt hyt hys' hyt' hxs' hxt' hO1 hO2 hC hC' eU kU hxu hyu; grind) hC.1 : D (y3 - ys - c * (x3 - xs))) (dbl_nd hp.2.2) (cg_ne kS.1 hr.1 e1)
          rw [Int.add_comm x3 xs] at hx
          exact ⟨hx.1.symm, hx.2.symm⟩
        · exact cc_alg hP hQ hxs hys hxt hyt hC.1 hC'.1 (cg_ne hr.1 kS.1 (fun e => e1 e.symm)) (cg_ne kT.1 hp.1 (fun e => e2 e.symm))
    exact (sl_pt hp kT hO2 hC' kU (fin_x hxu F.1) (fin_y hC.1 hxu hyu F.1 F.2)).symm

end Go.Proofs.YtcijjmncilciiaaDoor

namespace Go.Proofs.YtcijjmncilciiaaDoor

/-- Three numbers that stand for a point by x / z z, y / z z z. -/
def RepJ (X Y Z : Int) : Option (Int × Int) → Prop
  | none => D Z
  | some (x, y) => ¬ D Z ∧ Cg X (x * (Z * Z)) ∧ Cg Y (y * (Z * Z * Z))

theorem repJ_cg {X Y Z X' Y' Z' : Int} (hX : Cg X X') (hY : Cg Y Y') (hZ : Cg Z Z') : ∀ {p : Option (Int × Int)}, RepJ X' Y' Z' p → RepJ X Y Z p
  | none, h => hZ.d h
  | some (x, y), h => ⟨fun e => h.1 (hZ.symm.d e), (hX.trans h.2.1).trans ((Cg.refl x).mul (hZ.symm.mul hZ.symm)), (hY.trans h.2.2).trans ((Cg.refl y).mul ((hZ.symm.mul hZ.symm).mul hZ.symm))⟩

theorem repJ_th {x1 y1 x2 r h k X Y Z : Int} (hh : ¬ D h) (hk : ¬ D k) (hX : Cg X (tX x1 x2 r h * (k * k))) (hY : Cg Y (tY x1 y1 x2 r h * (k * k * k))) (hZ : Cg Z (h * k)) :
    RepJ X Y Z (some (th x1 y1 x2 r h)) := by
  have hx := th_x x1 y1 x2 r h hh
  have hy := th_y x1 y1 x2 r h hh
  have e : some (th x1 y1 x2 r h) = some ((th x1 y1 x2 r h).1, (th x1 y1 x2 r h).2) := rfl
  rw [e]
  generalize (th x1 y1 x2 r h).1 = x3 at *
  generalize (th x1 y1 x2 r h).2 = y3 at *
  refine repJ_cg hX hY hZ ⟨nd_mul hh hk, ?_, ?_⟩
  · exact (hx.symm.mul (Cg.refl _)).trans (Cg.of_eq (by grind))
  · exact (hy.symm.mul (Cg.refl _)).trans (Cg.of_eq (by grind))

/-- A point and itself, as the document reckons it. -/
def jL (X Z : Int) : Int := 3 * ((X - Z * Z) * (X + Z * Z))
def jX (X Y Z : Int) : Int := jL X Z * jL X Z - 2 * (4 * (X * (Y * Y)))
def jY (X Y Z : Int) : Int := jL X Z * (4 * (X * (Y * Y)) - jX X Y Z) - 8 * (Y * Y * (Y * Y))
def jZ (Y Z : Int) : Int := 2 * (Y * Z)

theorem repJ_twice {x y X Y Z : Int} (hp : Ok (some (x, y))) (h : RepJ X Y Z (some (x, y))) : RepJ (jX X Y Z) (jY X Y Z) (jZ Y Z) (padd (some (x, y)) (some (x, y))) := by
  have e : padd (some (x, y)) (some (x, y)) = some (th x y x (3 * x * x - 3) (2 * y)) := by unfold padd; dsimp only; rw [if_pos rfl, if_pos rfl]
  rw [e]
  have hz4 : ¬ D (Z * Z * (Z * Z)) := nd_mul (nd_mul h.1 h.1) (nd_mul h.1 h.1)
  have hX := h.2.1
  have hY := h.2.2
  have cL : Cg (jL X Z) (jL (x * (Z * Z)) Z) := by unfold jL; repeat' first | assumption | exact Cg.refl _ | apply Cg.sub | apply Cg.add | apply Cg.mul
  have cX : Cg (jX X Y Z) (jX (x * (Z * Z)) (y * (Z * Z * Z)) Z) := by unfold jX; repeat' first | assumption | exact Cg.refl _ | apply Cg.sub | apply Cg.add | apply Cg.mul
  have cY : Cg (jY X Y Z) (jY (x * (Z * Z)) (y * (Z * Z * Z)) Z) := by unfold jY; repeat' first | assumption | exact Cg.refl _ | apply Cg.sub | apply Cg.add | apply Cg.mul
  have cZ : Cg (jZ Y Z) (jZ (y * (Z * Z * Z)) Z) := by unfold jZ; repeat' first | assumption | exact Cg.refl _ | apply Cg.sub | apply Cg.add | apply Cg.mul
  refine repJ_th (k := Z * Z * (Z * Z)) (dbl_nd hp.2.2) hz4 (cX.trans (Cg.of_eq ?_)) (cY.trans (Cg.of_eq ?_)) (cZ.trans (Cg.of_eq ?_))
  · clear h hX hY cL cX cY cZ hz4 e hp; unfold jX jL tX; grind
  · clear h hX hY cL cX cY cZ hz4 e hp; unfold jY jX jL tY tX; grind
  · clear h hX hY cL cX cY cZ hz4 e hp; unfold jZ; grind

/-- Where the document's Y is 0 so is no point's. -/
theorem repJ_y {x y X Y Z : Int} (hp : Ok (some (x, y))) (h : RepJ X Y Z (some (x, y))) : ¬ D Y := fun e =>
  nd_mul (y_nd hp.2.2) (nd_mul (nd_mul h.1 h.1) h.1) (h.2.2.symm.d e)

/-- Two points' sum, as the document reckons it. -/
def kH (X1 Z1 X2 Z2 : Int) : Int := X2 * (Z1 * Z1) - X1 * (Z2 * Z2)
def kR (Y1 Z1 Y2 Z2 : Int) : Int := Y2 * (Z1 * Z1 * Z1) - Y1 * (Z2 * Z2 * Z2)
def kX (X1 Y1 Z1 X2 Y2 Z2 : Int) : Int := kR Y1 Z1 Y2 Z2 * kR Y1 Z1 Y2 Z2 - kH X1 Z1 X2 Z2 * kH X1 Z1 X2 Z2 * kH X1 Z1 X2 Z2 - 2 * (X1 * (Z2 * Z2) * (kH X1 Z1 X2 Z2 * kH X1 Z1 X2 Z2))
def kY (X1 Y1 Z1 X2 Y2 Z2 : Int) : Int := kR Y1 Z1 Y2 Z2 * (X1 * (Z2 * Z2) * (kH X1 Z1 X2 Z2 * kH X1 Z1 X2 Z2) - kX X1 Y1 Z1 X2 Y2 Z2) - Y1 * (Z2 * Z2 * Z2) * (kH X1 Z1 X2 Z2 * kH X1 Z1 X2 Z2 * kH X1 Z1 X2 Z2)
def kZ (X1 Z1 X2 Z2 : Int) : Int := kH X1 Z1 X2 Z2 * (Z1 * Z2)

theorem kH_cg {x1 y1 x2 y2 X1 Y1 Z1 X2 Y2 Z2 : Int} (h1 : RepJ X1 Y1 Z1 (some (x1, y1))) (h2 : RepJ X2 Y2 Z2 (some (x2, y2))) : Cg (kH X1 Z1 X2 Z2) ((x2 - x1) * (Z1 * Z2 * (Z1 * Z2))) := by
  have hX1 := h1.2.1
  have hX2 := h2.2.1
  have c : Cg (kH X1 Z1 X2 Z2) (kH (x1 * (Z1 * Z1)) Z1 (x2 * (Z2 * Z2)) Z2) := by unfold kH; repeat' first | assumption | exact Cg.refl _ | apply Cg.sub | apply Cg.add | apply Cg.mul
  exact c.trans (Cg.of_eq (by clear h1 h2 hX1 hX2 c; unfold kH; grind))
theorem kR_cg {x1 y1 x2 y2 X1 Y1 Z1 X2 Y2 Z2 : Int} (h1 : RepJ X1 Y1 Z1 (some (x1, y1))) (h2 : RepJ X2 Y2 Z2 (some (x2, y2))) : Cg (kR Y1 Z1 Y2 Z2) ((y2 - y1) * (Z1 * Z2 * (Z1 * Z2) * (Z1 * Z2))) := by
  have hY1 := h1.2.2
  have hY2 := h2.2.2
  have c : Cg (kR Y1 Z1 Y2 Z2) (kR (y1 * (Z1 * Z1 * Z1)) Z1 (y2 * (Z2 * Z2 * Z2)) Z2) := by unfold kR; repeat' first | assumption | exact Cg.refl _ | apply Cg.sub | apply Cg.add | apply Cg.mul
  exact c.trans (Cg.of_eq (by clear h1 h2 hY1 hY2 c; unfold kR; grind))

theorem kH_zero {x1 y1 x2 y2 X1 Y1 Z1 X2 Y2 Z2 : Int} (hp : Ok (some (x1, y1))) (hq : Ok (some (x2, y2))) (h1 : RepJ X1 Y1 Z1 (some (x1, y1))) (h2 : RepJ X2 Y2 Z2 (some (x2, y2))) : D (kH X1 Z1 X2 Z2) ↔ x1 = x2 := by
  have k0 : ¬ D (Z1 * Z2 * (Z1 * Z2)) := nd_mul (nd_mul h1.1 h2.1) (nd_mul h1.1 h2.1)
  constructor
  · intro h
    have h3 := (kH_cg h1 h2).symm.d h
    rcases h3.prod with h4 | h4
    · exact ((Cg.d_sub.1 h4).eq hq.1 hp.1).symm
    · exact absurd h4 k0
  · intro h
    subst h
    refine (kH_cg h1 h2).d ?_
    rw [Int.sub_self, Int.zero_mul]
    exact ⟨0, by omega⟩
theorem kR_zero {x1 y1 x2 y2 X1 Y1 Z1 X2 Y2 Z2 : Int} (hp : Ok (some (x1, y1))) (hq : Ok (some (x2, y2))) (h1 : RepJ X1 Y1 Z1 (some (x1, y1))) (h2 : RepJ X2 Y2 Z2 (some (x2, y2))) : D (kR Y1 Z1 Y2 Z2) ↔ y1 = y2 := by
  have k0 : ¬ D (Z1 * Z2 * (Z1 * Z2) * (Z1 * Z2)) := nd_mul (nd_mul (nd_mul h1.1 h2.1) (nd_mul h1.1 h2.1)) (nd_mul h1.1 h2.1)
  constructor
  · intro h
    have h3 := (kR_cg h1 h2).symm.d h
    rcases h3.prod with h4 | h4
    · exact ((Cg.d_sub.1 h4).eq hq.2.1 hp.2.1).symm
    · exact absurd h4 k0
  · intro h
    subst h
    refine (kR_cg h1 h2).d ?_
    rw [Int.sub_self, Int.zero_mul]
    exact ⟨0, by omega⟩

theorem repJ_sum {x1 y1 x2 y2 X1 Y1 Z1 X2 Y2 Z2 : Int} (hp : Ok (some (x1, y1))) (hq : Ok (some (x2, y2))) (h1 : RepJ X1 Y1 Z1 (some (x1, y1))) (h2 : RepJ X2 Y2 Z2 (some (x2, y2))) (hne : x1 ≠ x2) :
    RepJ (kX X1 Y1 Z1 X2 Y2 Z2) (kY X1 Y1 Z1 X2 Y2 Z2) (kZ X1 Z1 X2 Z2) (padd (some (x1, y1)) (some (x2, y2))) := by
  have e : padd (some (x1, y1)) (some (x2, y2)) = some (th x1 y1 x2 (y2 - y1) (x2 - x1)) := by unfold padd; dsimp only; rw [if_neg hne]
  rw [e]
  have k0 : ¬ D (Z1 * Z2 * (Z1 * Z2) * (Z1 * Z2)) := nd_mul (nd_mul (nd_mul h1.1 h2.1) (nd_mul h1.1 h2.1)) (nd_mul h1.1 h2.1)
  have cH := kH_cg h1 h2
  have cR' := kR_cg h1 h2
  have hX1 := h1.2.1
  have hY1 := h1.2.2
  have cX : Cg (kX X1 Y1 Z1 X2 Y2 Z2) (((y2 - y1) * (Z1 * Z2 * (Z1 * Z2) * (Z1 * Z2))) * ((y2 - y1) * (Z1 * Z2 * (Z1 * Z2) * (Z1 * Z2))) - ((x2 - x1) * (Z1 * Z2 * (Z1 * Z2))) * ((x2 - x1) * (Z1 * Z2 * (Z1 * Z2))) * ((x2 - x1) * (Z1 * Z2 * (Z1 * Z2))) - 2 * ((x1 * (Z1 * Z1)) * (Z2 * Z2) * (((x2 - x1) * (Z1 * Z2 * (Z1 * Z2))) * ((x2 - x1) * (Z1 * Z2 * (Z1 * Z2)))))) := by
    unfold kX
    repeat' first | assumption | exact Cg.refl _ | apply Cg.sub | apply Cg.add | apply Cg.mul
  have cX' : Cg (kX X1 Y1 Z1 X2 Y2 Z2) (tX x1 x2 (y2 - y1) (x2 - x1) * (Z1 * Z2 * (Z1 * Z2) * (Z1 * Z2) * (Z1 * Z2 * (Z1 * Z2) * (Z1 * Z2)))) := cX.trans (Cg.of_eq (by
    clear h1 h2 hX1 hY1 cX cH cR' e k0 hp hq hne; unfold tX; grind))
  refine repJ_th (k := Z1 * Z2 * (Z1 * Z2) * (Z1 * Z2)) (cg_ne hp.1 hq.1 hne) k0 cX' ?_ ?_
  · have cY : Cg (kY X1 Y1 Z1 X2 Y2 Z2) (((y2 - y1) * (Z1 * Z2 * (Z1 * Z2) * (Z1 * Z2))) * ((x1 * (Z1 * Z1)) * (Z2 * Z2) * (((x2 - x1) * (Z1 * Z2 * (Z1 * Z2))) * ((x2 - x1) * (Z1 * Z2 * (Z1 * Z2)))) - tX x1 x2 (y2 - y1) (x2 - x1) * (Z1 * Z2 * (Z1 * Z2) * (Z1 * Z2) * (Z1 * Z2 * (Z1 * Z2) * (Z1 * Z2)))) - (y1 * (Z1 * Z1 * Z1)) * (Z2 * Z2 * Z2) * (((x2 - x1) * (Z1 * Z2 * (Z1 * Z2))) * ((x2 - x1) * (Z1 * Z2 * (Z1 * Z2))) * ((x2 - x1) * (Z1 * Z2 * (Z1 * Z2))))) := by
      unfold kY
      repeat' first | assumption | exact Cg.refl _ | apply Cg.sub | apply Cg.add | apply Cg.mul
    refine cY.trans (Cg.of_eq ?_)
    clear h1 h2 hX1 hY1 cX cH cR' e k0 hp hq hne cX' cY
    unfold tY
    generalize tX x1 x2 (y2 - y1) (x2 - x1) = T
    grind
  · have cZ : Cg (kZ X1 Z1 X2 Z2) (((x2 - x1) * (Z1 * Z2 * (Z1 * Z2))) * (Z1 * Z2)) := by
      unfold kZ
      repeat' first | assumption | exact Cg.refl _ | apply Cg.sub | apply Cg.add | apply Cg.mul
    exact cZ.trans (Cg.of_eq (by clear h1 h2 hX1 hY1 cX cH cR' e k0 hp hq hne cX' cZ; grind))

/-- Two points that lie across from one another. -/
theorem padd_across {x y1 y2 : Int} (h : y1 ≠ y2) : padd (some (x, y1)) (some (x, y2)) = none := by
  unfold padd; dsimp only; rw [if_pos rfl, if_neg h]

/-- The coordinates that a triple stands for. -/
theorem rep_out {X Y Z x y : Int} (hp : Ok (some (x, y))) (h : Rep X Y Z (some (x, y))) {i : Int} (hi : Cg (Z * i) 1) : X * i % PP = x ∧ Y * i % PP = y := by
  constructor
  · refine Cg.eq ?_ (md_bd _) hp.1
    refine (Cg.md _).trans ((h.2.1.mul (Cg.refl i)).trans ?_)
    have := (Cg.refl x).mul hi
    rw [Int.mul_one, ← Int.mul_assoc] at this
    exact this
  · refine Cg.eq ?_ (md_bd _) hp.2.1
    refine (Cg.md _).trans ((h.2.2.mul (Cg.refl i)).trans ?_)
    have := (Cg.refl y).mul hi
    rw [Int.mul_one, ← Int.mul_assoc] at this
    exact this
theorem repJ_out {X Y Z x y : Int} (hp : Ok (some (x, y))) (h : RepJ X Y Z (some (x, y))) {i : Int} (hi : Cg (Z * i) 1) : X * (i * i) % PP = x ∧ Y * (i * i * i) % PP = y := by
  constructor
  · refine Cg.eq ?_ (md_bd _) hp.1
    refine (Cg.md _).trans ((h.2.1.mul (Cg.refl (i * i))).trans ?_)
    refine (Cg.of_eq (show x * (Z * Z) * (i * i) = x * ((Z * i) * (Z * i)) by grind)).trans ?_
    have := (Cg.refl x).mul (hi.mul hi)
    rw [Int.mul_one, Int.mul_one] at this
    exact this
  · refine Cg.eq ?_ (md_bd _) hp.2.1
    refine (Cg.md _).trans ((h.2.2.mul (Cg.refl (i * i * i))).trans ?_)
    refine (Cg.of_eq (show y * (Z * Z * Z) * (i * i * i) = y * ((Z * i) * (Z * i) * (Z * i)) by grind)).trans ?_
    have := (Cg.refl y).mul ((hi.mul hi).mul hi)
    rw [Int.mul_one, Int.mul_one, Int.mul_one] at this
    exact this

/-- So many times a point: b tells the number's bits, the highest first. -/
def pmul (b : Nat → Bool) (p : Option (Int × Int)) : Nat → Option (Int × Int)
  | 0 => none
  | i + 1 => if b i then padd (padd (pmul b p i) (pmul b p i)) p else padd (pmul b p i) (pmul b p i)
theorem pmul_ok {b : Nat → Bool} {p : Option (Int × Int)} (h : Ok p) : ∀ i, Ok (pmul b p i)
  | 0 => True.intro
  | i + 1 => by
    rw [pmul]
    have h1 := padd_ok (pmul_ok (b := b) h i) (pmul_ok (b := b) h i)
    split
    · exact padd_ok h1 h
    · exact h1
end Go.Proofs.YtcijjmncilciiaaDoor
