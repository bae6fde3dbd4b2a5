/-
  Points of the curve and their sum; the program's sum of two triples stands for it. Plain facts.
-/
import Derived.Test.YtcijjmncilciiaaDoorZEcFToEcI
namespace Go.Proofs.YtcijjmncilciiaaDoor

/-- What a number in the reckoning's form stands for. -/
def uu (a : Int) : Int := a * RI
theorem rri_cg : Cg (RR * RI) 1 := (Cg.md (RR * RI)).symm.trans (Cg.of_eq rri)
theorem uu_mm {a b A B : Int} (ha : Cg (uu a) A) (hb : Cg (uu b) B) : Cg (uu (mm a b)) (A * B) := by
  refine Cg.trans ?_ (ha.mul hb)
  unfold uu mm
  refine ((Cg.md _).mul (Cg.refl RI)).trans (Cg.of_eq ?_)
  generalize RI = R
  grind
theorem uu_pa {a b A B : Int} (ha : Cg (uu a) A) (hb : Cg (uu b) B) : Cg (uu (pa a b)) (A + B) := by
  refine Cg.trans ?_ (ha.add hb)
  unfold uu pa
  refine ((Cg.md _).mul (Cg.refl RI)).trans (Cg.of_eq ?_)
  generalize RI = R
  grind
theorem uu_ps {a b A B : Int} (ha : Cg (uu a) A) (hb : Cg (uu b) B) : Cg (uu (ps a b)) (A - B) := by
  refine Cg.trans ?_ (ha.sub hb)
  unfold uu ps
  refine ((Cg.md _).mul (Cg.refl RI)).trans (Cg.of_eq ?_)
  generalize RI = R
  grind
theorem uu_one : Cg (uu ONE) 1 := by
  unfold uu
  rw [← one_def]
  exact ((Cg.md RR).mul (Cg.refl RI)).trans rri_cg
theorem uu_lift (x : Int) : Cg (uu (x * RR % PP)) x := by
  unfold uu
  refine ((Cg.md _).mul (Cg.refl RI)).trans ?_
  have h := (Cg.refl x).mul rri_cg
  rw [Int.mul_one, ← Int.mul_assoc] at h
  exact h
theorem uu_mpw {x X : Int} (h : Cg (uu x) X) : ∀ n, Cg (uu (mpw x n)) (X ^ n)
  | 0 => by rw [Int.pow_zero]; exact uu_one
  | n + 1 => by rw [Int.pow_succ]; exact uu_mm (uu_mpw h n) h
theorem ri_nd : ¬ D RI := by
  intro h
  have h1 : D (RR * RI) := h.mul_l _
  have h2 : D 1 := (rri_cg.symm).d h1
  have := Int.le_of_dvd (by decide) h2
  exact absurd this (by decide)
theorem uu_zero {a : Int} (ha : 0 ≤ a ∧ a < PP) : D (uu a) ↔ a = 0 := by
  constructor
  · intro h
    exact (h.prod.elim id (fun e => absurd e ri_nd)).zero' ha
  · intro h
    subst h
    unfold uu
    rw [Int.zero_mul]
    exact ⟨0, by omega⟩

/-- What gives 1 with a number. -/
def iv (a : Int) : Int := uu (mpw (a * RR % PP) (PN - 2))
theorem iv_ok {a : Int} (h : ¬ D a) : Cg (a * iv a) 1 := by
  have h1 : Cg (iv a) (a ^ (PN - 2)) := uu_mpw (uu_lift a) _
  have h2 := (Cg.refl a).mul h1
  have e : a * a ^ (PN - 2) = a ^ (PN - 1) := by rw [Int.mul_comm, ← Int.pow_succ]; rfl
  rw [e] at h2
  exact h2.trans (fermat_1 a h)
theorem two_nd : ¬ D 2 := by intro h; have := Int.le_of_dvd (by decide) h; exact absurd this (by decide)

/-- The third point of a line with the rise r / h. -/
def th (x1 y1 x2 r h : Int) : Int × Int :=
  (((r * iv h) * (r * iv h) - x1 - x2) % PP, ((r * iv h) * (x1 - ((r * iv h) * (r * iv h) - x1 - x2) % PP) - y1) % PP)
theorem th_bd (x1 y1 x2 r h : Int) : (0 ≤ (th x1 y1 x2 r h).1 ∧ (th x1 y1 x2 r h).1 < PP) ∧ (0 ≤ (th x1 y1 x2 r h).2 ∧ (th x1 y1 x2 r h).2 < PP) := ⟨md_bd _, md_bd _⟩
theorem th_x (x1 y1 x2 r h : Int) (hh : ¬ D h) : Cg ((th x1 y1 x2 r h).1 * (h * h)) (tX x1 x2 r h) := by
  have h1 := iv_ok hh
  unfold th tX
  dsimp only
  refine ((Cg.md _).mul (Cg.refl (h * h))).trans ?_
  have e : (r * iv h * (r * iv h) - x1 - x2) * (h * h) = r * (h * iv h) * (r * (h * iv h)) - (x1 + x2) * (h * h) := by generalize iv h = i; grind
  rw [e]
  have h2 : Cg (r * (h * iv h)) r := by have := (Cg.refl r).mul h1; rw [Int.mul_one] at this; exact this
  exact (h2.mul h2).sub (Cg.refl _)
theorem th_y (x1 y1 x2 r h : Int) (hh : ¬ D h) : Cg ((th x1 y1 x2 r h).2 * (h * h * h)) (tY x1 y1 x2 r h) := by
  have h1 := iv_ok hh
  have hx := th_x x1 y1 x2 r h hh
  unfold tY
  have e0 : (th x1 y1 x2 r h).2 = ((r * iv h) * (x1 - (th x1 y1 x2 r h).1) - y1) % PP := rfl
  rw [e0]
  refine ((Cg.md _).mul (Cg.refl (h * h * h))).trans ?_
  have e : (r * iv h * (x1 - (th x1 y1 x2 r h).1) - y1) * (h * h * h) = r * (h * iv h) * (x1 * (h * h) - (th x1 y1 x2 r h).1 * (h * h)) - y1 * (h * h * h) := by
    generalize iv h = i
    generalize (th x1 y1 x2 r h).1 = x3
    grind
  rw [e]
  have h2 : Cg (r * (h * iv h)) r := by have := (Cg.refl r).mul h1; rw [Int.mul_one] at this; exact this
  exact (h2.mul ((Cg.refl _).sub hx)).sub (Cg.refl _)

/-- A point of the curve: none is the far one. -/
def Ok : Option (Int × Int) → Prop
  | none => True
  | some (x, y) => (0 ≤ x ∧ x < PP) ∧ (0 ≤ y ∧ y < PP) ∧ D (cR BB x y)

theorem y_nd {x y : Int} (h : D (cR BB x y)) : ¬ D y := by
  intro hy
  refine no_root x ?_
  have h1 : D (y * y - cR BB x y) := by
    have := (hy.mul_l y)
    obtain ⟨k, hk⟩ := this
    obtain ⟨m, hm⟩ := h
    exact ⟨k - m, by rw [Int.mul_sub, ← hk, ← hm]⟩
  have e : y * y - cR BB x y = x * x * x - 3 * x + BB := by unfold cR; omega
  rw [e] at h1
  exact h1

theorem th_on (x1 y1 x2 r h : Int) (hh : ¬ D h) (hon : D (tY x1 y1 x2 r h * tY x1 y1 x2 r h - (tX x1 x2 r h * tX x1 x2 r h * tX x1 x2 r h - 3 * tX x1 x2 r h * h ^ 4 + BB * h ^ 6))) :
    D (cR BB (th x1 y1 x2 r h).1 (th x1 y1 x2 r h).2) := by
  have hx := th_x x1 y1 x2 r h hh
  have hy := th_y x1 y1 x2 r h hh
  generalize (th x1 y1 x2 r h).1 = x3 at *
  generalize (th x1 y1 x2 r h).2 = y3 at *
  generalize tX x1 x2 r h = X at *
  generalize tY x1 y1 x2 r h = Y at *
  have h6 : ¬ D (h ^ 6) := by
    have e : h ^ 6 = h * h * (h * h) * (h * h) := by grind
    rw [e]
    exact nd_mul (nd_mul (nd_mul hh hh) (nd_mul hh hh)) (nd_mul hh hh)
  have h1 : Cg (y3 * (h * h * h) * (y3 * (h * h * h)) - (x3 * (h * h) * (x3 * (h * h)) * (x3 * (h * h)) - 3 * (x3 * (h * h)) * h ^ 4 + BB * h ^ 6)) (Y * Y - (X * X * X - 3 * X * h ^ 4 + BB * h ^ 6)) :=
    (hy.mul hy).sub (((((hx.mul hx).mul hx).sub (((Cg.refl 3).mul hx).mul (Cg.refl _))).add (Cg.refl _)))
  have h2 := h1.d hon
  have e : y3 * (h * h * h) * (y3 * (h * h * h)) - (x3 * (h * h) * (x3 * (h * h)) * (x3 * (h * h)) - 3 * (x3 * (h * h)) * h ^ 4 + BB * h ^ 6) = cR BB x3 y3 * h ^ 6 := by
    unfold cR
    generalize BB = b
    grind
  rw [e] at h2
  exact h2.prod.elim id (fun e => absurd e h6)

theorem ty_nd (x1 y1 x2 r h : Int) (hh : ¬ D h) (hon : D (tY x1 y1 x2 r h * tY x1 y1 x2 r h - (tX x1 x2 r h * tX x1 x2 r h * tX x1 x2 r h - 3 * tX x1 x2 r h * h ^ 4 + BB * h ^ 6))) :
    ¬ D (tY x1 y1 x2 r h) := by
  intro hd
  have h1 := (th_y x1 y1 x2 r h hh).d hd
  have h3 : ¬ D (h * h * h) := nd_mul (nd_mul hh hh) hh
  exact y_nd (th_on x1 y1 x2 r h hh hon) (h1.prod.elim id (fun e => absurd e h3))

/-- The sum of two points. -/
def padd : Option (Int × Int) → Option (Int × Int) → Option (Int × Int)
  | none, q => q
  | some p, none => some p
  | some (x1, y1), some (x2, y2) =>
    if x1 = x2 then (if y1 = y2 then some (th x1 y1 x1 (3 * x1 * x1 - 3) (2 * y1)) else none)
    else some (th x1 y1 x2 (y2 - y1) (x2 - x1))

theorem cg_ne {a b : Int} (ha : 0 ≤ a ∧ a < PP) (hb : 0 ≤ b ∧ b < PP) (h : a ≠ b) : ¬ D (b - a) := fun hd => h ((Cg.d_sub.1 hd).eq hb ha).symm
theorem d_lin {a b c d x : Int} (h : x = c * a + d * b) (ha : D a) (hb : D b) : D x := by rw [h]; exact (ha.mul_l c).add (hb.mul_l d)
theorem d_one {a c x : Int} (h : x = c * a) (ha : D a) : D x := by rw [h]; exact ha.mul_l c

theorem dbl_nd {x y : Int} (h : D (cR BB x y)) : ¬ D (2 * y) := nd_mul two_nd (y_nd h)

theorem padd_ok : ∀ {p q : Option (Int × Int)}, Ok p → Ok q → Ok (padd p q)
  | none, q, _, hq => by cases q <;> exact hq
  | some p, none, hp, _ => hp
  | some (x1, y1), some (x2, y2), hp, hq => by
    unfold padd
    dsimp only
    by_cases ex : x1 = x2
    · rw [if_pos ex]
      by_cases ey : y1 = y2
      · rw [if_pos ey]
        exact ⟨(th_bd x1 y1 x1 (3 * x1 * x1 - 3) (2 * y1)).1, (th_bd x1 y1 x1 (3 * x1 * x1 - 3) (2 * y1)).2, th_on _ _ _ _ _ (dbl_nd hp.2.2) (d_one (tan_on _ _ _) hp.2.2)⟩
      · rw [if_neg ey]; exact True.intro
    · rw [if_neg ex]
      exact ⟨(th_bd x1 y1 x2 (y2 - y1) (x2 - x1)).1, (th_bd x1 y1 x2 (y2 - y1) (x2 - x1)).2, th_on _ _ _ _ _ (cg_ne hp.1 hq.1 ex) (d_lin (chord_on _ _ _ _ _) hp.2.2 hq.2.2)⟩

/-- Of two points with the same X, but another Y, each is across from the other. -/
theorem across {x y1 y2 : Int} (hp : D (cR BB x y1)) (hq : D (cR BB x y2)) (hy1 : 0 ≤ y1 ∧ y1 < PP) (hy2 : 0 ≤ y2 ∧ y2 < PP) (hne : y1 ≠ y2) : Cg y2 (-y1) := by
  have h1 : D ((y2 - y1) * (y2 + y1)) := d_lin (show _ = (-1) * cR BB x y1 + 1 * cR BB x y2 by unfold cR; generalize BB = b; grind) hp hq
  rcases h1.prod with h | h
  · exact absurd h (cg_ne hy1 hy2 hne)
  · have e : y2 + y1 = y2 - (-y1) := by omega
    rw [e] at h
    exact h

/-- A triple that stands for a point by x / z, y / z. -/
def Rep (X Y Z : Int) : Option (Int × Int) → Prop
  | none => D X ∧ ¬ D Y ∧ D Z
  | some (x, y) => ¬ D Z ∧ Cg X (x * Z) ∧ Cg Y (y * Z)

theorem sX_cg {b X1 Y1 Z1 X2 Y2 Z2 x1 y1 z1 x2 y2 z2 : Int} (h1 : Cg X1 x1) (h2 : Cg Y1 y1) (h3 : Cg Z1 z1) (h4 : Cg X2 x2) (h5 : Cg Y2 y2) (h6 : Cg Z2 z2) : Cg (sX b X1 Y1 Z1 X2 Y2 Z2) (sX b x1 y1 z1 x2 y2 z2) := by
  unfold sX
  repeat' first | assumption | exact Cg.refl _ | apply Cg.sub | apply Cg.add | apply Cg.mul
theorem sY_cg {b X1 Y1 Z1 X2 Y2 Z2 x1 y1 z1 x2 y2 z2 : Int} (h1 : Cg X1 x1) (h2 : Cg Y1 y1) (h3 : Cg Z1 z1) (h4 : Cg X2 x2) (h5 : Cg Y2 y2) (h6 : Cg Z2 z2) : Cg (sY b X1 Y1 Z1 X2 Y2 Z2) (sY b x1 y1 z1 x2 y2 z2) := by
  unfold sY
  repeat' first | assumption | exact Cg.refl _ | apply Cg.sub | apply Cg.add | apply Cg.mul
theorem sZ_cg {b X1 Y1 Z1 X2 Y2 Z2 x1 y1 z1 x2 y2 z2 : Int} (h1 : Cg X1 x1) (h2 : Cg Y1 y1) (h3 : Cg Z1 z1) (h4 : Cg X2 x2) (h5 : Cg Y2 y2) (h6 : Cg Z2 z2) : Cg (sZ b X1 Y1 Z1 X2 Y2 Z2) (sZ b x1 y1 z1 x2 y2 z2) := by
  unfold sZ
  repeat' first | assumption | exact Cg.refl _ | apply Cg.sub | apply Cg.add | apply Cg.mul

theorem rep_scale {X Y Z k : Int} (hk : ¬ D k) : ∀ {p : Option (Int × Int)}, Rep X Y Z p → Rep (X * k) (Y * k) (Z * k) p
  | none, h => ⟨h.1.mul_r k, nd_mul h.2.1 hk, h.2.2.mul_r k⟩
  | some (x, y), h => ⟨nd_mul h.1 hk, by have := h.2.1.mul (Cg.refl k); rw [Int.mul_assoc] at this; exact this, by have := h.2.2.mul (Cg.refl k); rw [Int.mul_assoc] at this; exact this⟩
theorem rep_cg {X Y Z X' Y' Z' : Int} (hX : Cg X X') (hY : Cg Y Y') (hZ : Cg Z Z') : ∀ {p : Option (Int × Int)}, Rep X' Y' Z' p → Rep X Y Z p
  | none, h => ⟨hX.d h.1, fun e => h.2.1 (hY.symm.d e), hZ.d h.2.2⟩
  | some (x, y), h => ⟨fun e => h.1 (hZ.symm.d e), (hX.trans h.2.1).trans ((Cg.refl x).mul hZ.symm), (hY.trans h.2.2).trans ((Cg.refl y).mul hZ.symm)⟩

/-- The line's third point, told by X, Y, Z with X h h = tX Z and Y h h h = tY Z. -/
theorem rep_th {x1 y1 x2 r h X Y Z : Int} (hh : ¬ D h) (hz : ¬ D Z) (hX : Cg (X * (h * h)) (tX x1 x2 r h * Z)) (hY : Cg (Y * (h * h * h)) (tY x1 y1 x2 r h * Z)) :
    Rep X Y Z (some (th x1 y1 x2 r h)) := by
  have hx := th_x x1 y1 x2 r h hh
  have hy := th_y x1 y1 x2 r h hh
  have e : some (th x1 y1 x2 r h) = some ((th x1 y1 x2 r h).1, (th x1 y1 x2 r h).2) := rfl
  rw [e]
  generalize (th x1 y1 x2 r h).1 = x3 at *
  generalize (th x1 y1 x2 r h).2 = y3 at *
  refine ⟨hz, ?_, ?_⟩
  · refine Cg.cancel (nd_mul hh hh) (hX.trans ?_)
    have := hx.symm.mul (Cg.refl Z)
    exact this.trans (Cg.of_eq (by grind))
  · refine Cg.cancel (nd_mul (nd_mul hh hh) hh) (hY.trans ?_)
    have := hy.symm.mul (Cg.refl Z)
    exact this.trans (Cg.of_eq (by grind))

/-- The program's sum of two triples stands for the sum of the points. -/
theorem rep_sum : ∀ {p q : Option (Int × Int)} {X1 Y1 Z1 X2 Y2 Z2 : Int}, Ok p → Ok q → Rep X1 Y1 Z1 p → Rep X2 Y2 Z2 q →
    Rep (sX BB X1 Y1 Z1 X2 Y2 Z2) (sY BB X1 Y1 Z1 X2 Y2 Z2) (sZ BB X1 Y1 Z1 X2 Y2 Z2) (padd p q)
  | none, q, X1, Y1, Z1, X2, Y2, Z2, _, hq, h1, h2 => by
    have hY2 : ¬ D Y2 := by
      match q, hq, h2 with
      | none, _, h2 => exact h2.2.1
      | some (x, y), hq, h2 => exact fun e => nd_mul (y_nd hq.2.2) h2.1 (h2.2.2.symm.d e)
    have e : padd none q = q := by cases q <;> rfl
    rw [e]
    have z1 := Cg.zero.2 h1.1
    have z3 := Cg.zero.2 h1.2.2
    refine rep_cg (X' := X2 * (Y1 * Y1 * Y2)) (Y' := Y2 * (Y1 * Y1 * Y2)) (Z' := Z2 * (Y1 * Y1 * Y2)) ?_ ?_ ?_ (rep_scale (nd_mul (nd_mul h1.2.1 h1.2.1) hY2) h2)
    · refine (sX_cg z1 (Cg.refl _) z3 (Cg.refl _) (Cg.refl _) (Cg.refl _)).trans (Cg.of_eq ?_)
      unfold sX; generalize BB = b; clear hq h1 h2 hY2 e z1 z3; grind
    · refine (sY_cg z1 (Cg.refl _) z3 (Cg.refl _) (Cg.refl _) (Cg.refl _)).trans (Cg.of_eq ?_)
      unfold sY; generalize BB = b; clear hq h1 h2 hY2 e z1 z3; grind
    · refine (sZ_cg z1 (Cg.refl _) z3 (Cg.refl _) (Cg.refl _) (Cg.refl _)).trans (Cg.of_eq ?_)
      unfold sZ; generalize BB = b; clear hq h1 h2 hY2 e z1 z3; grind
  | some (x1, y1), none, X1, Y1, Z1, X2, Y2, Z2, hp, _, h1, h2 => by
    have hY1 : ¬ D Y1 := fun e => nd_mul (y_nd hp.2.2) h1.1 (h1.2.2.symm.d e)
    have z1 := Cg.zero.2 h2.1
    have z3 := Cg.zero.2 h2.2.2
    have h1' : Rep X1 Y1 Z1 (padd (some (x1, y1)) none) := h1
    refine rep_cg (X' := X1 * (Y2 * Y2 * Y1)) (Y' := Y1 * (Y2 * Y2 * Y1)) (Z' := Z1 * (Y2 * Y2 * Y1)) ?_ ?_ ?_ (rep_scale (nd_mul (nd_mul h2.2.1 h2.2.1) hY1) h1')
    · refine (sX_cg (Cg.refl _) (Cg.refl _) (Cg.refl _) z1 (Cg.refl _) z3).trans (Cg.of_eq ?_)
      unfold sX; generalize BB = b; clear hp h1 h2 hY1 h1' z1 z3; grind
    · refine (sY_cg (Cg.refl _) (Cg.refl _) (Cg.refl _) z1 (Cg.refl _) z3).trans (Cg.of_eq ?_)
      unfold sY; generalize BB = b; clear hp h1 h2 hY1 h1' z1 z3; grind
    · refine (sZ_cg (Cg.refl _) (Cg.refl _) (Cg.refl _) z1 (Cg.refl _) z3).trans (Cg.of_eq ?_)
      unfold sZ; generalize BB = b; clear hp h1 h2 hY1 h1' z1 z3; grind
  | some (x1, y1), some (x2, y2), X1, Y1, Z1, X2, Y2, Z2, hp, hq, h1, h2 => by
    have k0 : ¬ D (Z1 * Z2 * (Z1 * Z2)) := nd_mul (nd_mul h1.1 h2.1) (nd_mul h1.1 h2.1)
    have cx := sX_cg (b := BB) h1.2.1 h1.2.2 (Cg.refl Z1) h2.2.1 h2.2.2 (Cg.refl Z2)
    have cy := sY_cg (b := BB) h1.2.1 h1.2.2 (Cg.refl Z1) h2.2.1 h2.2.2 (Cg.refl Z2)
    have cz := sZ_cg (b := BB) h1.2.1 h1.2.2 (Cg.refl Z1) h2.2.1 h2.2.2 (Cg.refl Z2)
    rw [sX_hom] at cx
    rw [sY_hom] at cy
    rw [sZ_hom] at cz
    refine rep_cg cx cy cz (rep_scale k0 ?_)
    unfold padd
    dsimp only
    by_cases ex : x1 = x2
    · rw [if_pos ex]
      subst ex
      by_cases ey : y1 = y2
      · rw [if_pos ey]
        subst ey
        have hd := dbl_nd hp.2.2
        refine rep_th hd ?_ (d_one (tan_x BB x1 y1) hp.2.2) (d_one (tan_y BB x1 y1) hp.2.2)
        intro e
        exact nd_mul (nd_mul hd hd) hd ((Cg.symm (d_one (tan_z BB x1 y1) hp.2.2 : Cg _ _)).d e)
      · rw [if_neg ey]
        have ha := across hp.2.2 hq.2.2 hp.2.1 hq.2.1 ey
        refine rep_cg (sX_cg (Cg.refl _) (Cg.refl _) (Cg.refl _) (Cg.refl _) ha (Cg.refl _)) (sY_cg (Cg.refl _) (Cg.refl _) (Cg.refl _) (Cg.refl _) ha (Cg.refl _)) (sZ_cg (Cg.refl _) (Cg.refl _) (Cg.refl _) (Cg.refl _) ha (Cg.refl _)) ?_
        refine ⟨by rw [across_x]; exact ⟨0, by omega⟩, ?_, by rw [across_z]; exact ⟨0, by omega⟩⟩
        intro e
        exact ty_nd _ _ _ _ _ (dbl_nd hp.2.2) (d_one (tan_on BB x1 y1) hp.2.2) ((Cg.symm (d_one (across_y BB x1 y1) hp.2.2 : Cg _ _)).d e)
    · rw [if_neg ex]
      have hh := cg_ne hp.1 hq.1 ex
      refine rep_th hh ?_ (d_lin (chord_x BB x1 y1 x2 y2) hp.2.2 hq.2.2) (d_lin (chord_y BB x1 y1 x2 y2) hp.2.2 hq.2.2)
      intro e
      have hn : cR BB x2 (-y2) = cR BB x2 y2 := by unfold cR; generalize BB = b; clear hp hq h1 h2 k0 cx cy cz hh e; grind
      exact ty_nd x1 y1 x2 (-y2 - y1) (x2 - x1) hh (d_lin (chord_on BB x1 y1 x2 (-y2)) hp.2.2 (hn ▸ hq.2.2)) ((Cg.symm (d_lin (chord_z BB x1 y1 x2 y2) hp.2.2 hq.2.2 : Cg _ _)).d e)
end Go.Proofs.YtcijjmncilciiaaDoor
