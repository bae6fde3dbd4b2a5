/-
  A point's bytes and the point; the triple and the three numbers that stand for it, and back. Plain facts.
-/
import Derived.Test.YtnabmdpgibnkaaaDoorZCvMu
import Derived.Test.YtnabmdpgibnkaaaDoorZEcDToCrInv
import Derived.Test.YtnabmdpgibnkaaaDoorZCrPt
import Derived.Test.YtnabmdpgibnkaaaDoorZCrAt
namespace Go.Proofs.YtnabmdpgibnkaaaDoor
open Go.RowKit Go.IntWalk

/-- The point that such bytes are; a point's cells. -/
def ptOf (X Y : List Int) (f : Bool) : Option (Int × Int) := if f = true then none else some (dn X, dn Y)
def encX : Option (Int × Int) → List Int
  | none => z32
  | some (x, _) => be x
def encY : Option (Int × Int) → List Int
  | none => z32
  | some (_, y) => be y
def encF (p : Option (Int × Int)) : Bool := p.isNone
theorem encX_len : ∀ p : Option (Int × Int), (encX p).length = 32
  | none => rfl
  | some (_, _) => be_len _
theorem encY_len : ∀ p : Option (Int × Int), (encY p).length = 32
  | none => rfl
  | some (_, _) => be_len _

theorem uu_sq (x : Int) : Cg (uu (mm x SQ)) x := by
  have h : Cg (uu (mm x SQ)) (uu x * uu SQ) := uu_mm (Cg.refl _) (Cg.refl _)
  have e1 : Cg (uu SQ) RR := by
    unfold uu
    rw [← sq_def]
    refine ((Cg.md _).mul (Cg.refl RI)).trans ?_
    have := (Cg.refl RR).mul rri_cg
    rw [Int.mul_one, ← Int.mul_assoc] at this
    exact this
  have e2 : Cg (uu x * RR) x := by
    unfold uu
    rw [Int.mul_assoc, Int.mul_comm RI RR]
    have := (Cg.refl x).mul rri_cg
    rw [Int.mul_one] at this
    exact this
  exact h.trans (((Cg.refl _).mul e1).trans e2)

theorem on_ok {X Y : List Int} {f : Bool} (hX : X.length = 32) (hY : Y.length = 32) (dX : Dg 256 X) (dY : Dg 256 Y) (h : onP X Y f = true) : Ok (ptOf X Y f) := by
  cases f
  · have h' : dn X < PP ∧ dn Y < PP ∧ mm (mm (dn Y) SQ) (mm (dn Y) SQ) = cub (mm (dn X) SQ) := by simpa [onP] using h
    refine ⟨⟨(dn_bd dX hX).1, h'.1⟩, ⟨(dn_bd dY hY).1, h'.2.1⟩, ?_⟩
    have cy := uu_sq (dn Y)
    have cx := uu_sq (dn X)
    have c1 := uu_mm cy cy
    have c2 : Cg (uu (cub (mm (dn X) SQ))) (BB + (dn X * dn X * dn X - (dn X + dn X + dn X))) := uu_pa uu_bm (uu_ps (uu_mm (uu_mm cx cx) cx) (uu_pa (uu_pa cx cx) cx))
    rw [h'.2.2] at c1
    have c3 := c1.symm.trans c2
    have e : dn Y * dn Y - (BB + (dn X * dn X * dn X - (dn X + dn X + dn X))) = cR BB (dn X) (dn Y) := by
      unfold cR
      generalize dn X = x
      generalize dn Y = y
      generalize BB = b
      clear c1 c2 c3 cx cy h h'
      grind
    show D (cR BB (dn X) (dn Y))
    rw [← e]
    exact c3
  · exact True.intro

theorem spread_rep {X Y : List Int} {f : Bool} (hX : X.length = 32) (hY : Y.length = 32) (dX : Dg 256 X) (dY : Dg 256 Y) (h : onP X Y f = true) : RepP (sx X f) (sy Y f) (sz f) (ptOf X Y f) := by
  have hok := on_ok hX hY dX dY h
  cases f
  · refine ⟨mm_bd _ _, mm_bd _ _, ⟨by decide, by decide⟩, hok, ?_, ?_, ?_⟩
    · intro e
      have := (uu_zero (a := ONE) ⟨by decide, by decide⟩).1 e
      exact absurd this (by decide)
    · refine (uu_sq (dn X)).trans ?_
      have := (Cg.refl (dn X)).mul uu_one.symm
      rw [Int.mul_one] at this
      exact this
    · refine (uu_sq (dn Y)).trans ?_
      have := (Cg.refl (dn Y)).mul uu_one.symm
      rw [Int.mul_one] at this
      exact this
  · exact far_repP

theorem at_rep {X Y : List Int} (hX : X.length = 32) (hY : Y.length = 32) (dX : Dg 256 X) (dY : Dg 256 Y) (h : onP X Y false = true) : RepD (mm (dn X) SQ) (mm (dn Y) SQ) ONE (some (dn X, dn Y)) := by
  have hok : Ok (some (dn X, dn Y)) := on_ok hX hY dX dY h
  refine ⟨mm_bd _ _, mm_bd _ _, one_nb, hok, ?_, ?_, ?_⟩
  · intro e
    have := (uu_zero (a := ONE) ⟨by decide, by decide⟩).1 e
    exact absurd this (by decide)
  · refine (uu_sq (dn X)).trans ?_
    have := (Cg.refl (dn X)).mul (uu_one.symm.mul uu_one.symm)
    rw [Int.mul_one, Int.mul_one] at this
    exact this
  · refine (uu_sq (dn Y)).trans ?_
    have := (Cg.refl (dn Y)).mul ((uu_one.symm.mul uu_one.symm).mul uu_one.symm)
    rw [Int.mul_one, Int.mul_one, Int.mul_one] at this
    exact this

theorem mpw_inv {z : Int} (h : ¬ D (uu z)) : Cg (uu z * uu (mpw z EE)) 1 := by
  have h1 : Cg (uu (mpw z EE)) (uu z ^ EE) := uu_mpw (Cg.refl _) EE
  have h2 := (Cg.refl (uu z)).mul h1
  have e : uu z * uu z ^ EE = uu z ^ (PN - 1) := by rw [Int.mul_comm, ← Int.pow_succ]; rfl
  rw [e] at h2
  exact h2.trans (fermat_1 _ h)
theorem low_cg {v V : Int} (h : Cg (uu v) V) : Cg (mm v 1) V := by
  unfold mm
  rw [Int.mul_one]
  exact (Cg.md _).trans h

/-- The program's triple, told as a point. -/
theorem gath_enc {x y z : Int} {p : Option (Int × Int)} (h : RepP x y z p) : pL (gX x z) (gX y z) (decide (z = 0)) = pL (encX p) (encY p) (encF p) := by
  match p, h with
  | none, h =>
    have hz : z = 0 := (uu_zero h.nz).1 h.rep.2.2
    unfold gX
    rw [if_pos hz, if_pos hz, decide_eq_true hz]
    rfl
  | some (a, b), h =>
    have hz : z ≠ 0 := fun e => h.rep.1 ((uu_zero h.nz).2 e)
    have O := rep_out h.ok h.rep (mpw_inv h.rep.1)
    have ex : gxy x z = a := by
      have c : Cg (gxy x z) (uu x * uu (mpw z EE)) := low_cg (uu_mm (Cg.refl _) (Cg.refl _))
      rw [← O.1]
      exact (c.trans (Cg.md _).symm).eq (mm_bd _ _) (md_bd _)
    have ey : gxy y z = b := by
      have c : Cg (gxy y z) (uu y * uu (mpw z EE)) := low_cg (uu_mm (Cg.refl _) (Cg.refl _))
      rw [← O.2]
      exact (c.trans (Cg.md _).symm).eq (mm_bd _ _) (md_bd _)
    unfold gX
    rw [if_neg hz, if_neg hz, decide_eq_false hz, ex, ey]
    rfl

/-- The document's point, of any three numbers that stand for one. -/
theorem rpoint_rep {x y z : Int} {p : Option (Int × Int)} (h : RepD x y z p) (gf : Nat) (w : World) (hF : FF w gf) : Calls Tryd.prog 47 #[.pointer (some ⟨gf, 0, none⟩), .agg (j3 x y z).toArray] w (Ans (.agg (pL (encX p) (encY p) (encF p)).toArray) w) := by
  match p, h with
  | none, h => exact point_z gf x y z h.nz ((rep_far h).2 rfl) w hF
  | some (a, b), h =>
    have hz : z ≠ 0 := fun e => h.rep.1 ((uu_zero h.nz).2 e)
    have O := repJ_out h.ok h.rep (mpw_inv h.rep.1)
    have H := point_n gf x y z _ _ _ _ _ _ _ h.nx h.ny h.nz hz rfl rfl rfl rfl rfl rfl rfl _ rfl _ rfl w hF
    have ci : Cg (uu (mpw z EE)) (uu (mpw z EE)) := Cg.refl _
    have e1 : mm (mm x (mm (mpw z EE) (mpw z EE))) 1 = a := by
      have c := low_cg (uu_mm (Cg.refl (uu x)) (uu_mm ci ci))
      rw [← O.1]
      exact (c.trans (Cg.md _).symm).eq (mm_bd _ _) (md_bd _)
    have e2 : mm (mm y (mm (mm (mpw z EE) (mpw z EE)) (mpw z EE))) 1 = b := by
      have c := low_cg (uu_mm (Cg.refl (uu y)) (uu_mm (uu_mm ci ci) ci))
      rw [← O.2]
      exact (c.trans (Cg.md _).symm).eq (mm_bd _ _) (md_bd _)
    rw [e1, e2] at H
    exact H

/-- The document's at, of any point. -/
theorem rat_rep {X Y : List Int} {f : Bool} (hX : X.length = 32) (hY : Y.length = 32) (dX : Dg 256 X) (dY : Dg 256 Y) (h : onP X Y f = true) (gf : Nat) (w : World) (hF : FF w gf) : Calls Tryd.prog 44 #[.pointer (some ⟨gf, 0, none⟩), .agg (pL X Y f).toArray] w (AnsD (ptOf X Y f) w) := by
  cases f
  · have R := at_rep hX hY dX dY h
    have bX : Nb (dn X) := R.ok.1
    have bY : Nb (dn Y) := R.ok.2.1
    refine (at_near gf X Y hX hY dX dY _ _ _ _ bX bY rfl rfl rfl rfl w hF).mono ?_
    rintro e w1 ⟨rfl, LB⟩
    exact ⟨_, _, _, rfl, R, LB⟩
  · refine (at_far gf X Y hX hY w hF).mono ?_
    rintro e w1 ⟨rfl, LB⟩
    exact ⟨_, _, _, rfl, far_rep, LB⟩

end Go.Proofs.YtnabmdpgibnkaaaDoor
