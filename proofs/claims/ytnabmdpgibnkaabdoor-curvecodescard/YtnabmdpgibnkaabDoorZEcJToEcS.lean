/-
  The document's twice and sum stand for the same sum of points; so many times a point. Plain facts.
  The program's sum of two triples, and the point for which its answer stands.
-/
import Derived.Test.YtnabmdpgibnkaabDoorZEcP
import Derived.Test.YtnabmdpgibnkaabDoorZCvSm
namespace Go.Proofs.YtnabmdpgibnkaabDoor

/-- Three numbers that stand for a point by x / z z, y / z z z. -/
def RepJ (X Y Z : Int) : Option (Int × Int) → Prop
  | none => D Z
  | some (x, y) => ¬ D Z ∧ Cg X (x * (Z * Z)) ∧ Cg Y (y * (Z * Z * Z))

theorem repJ_cg {X Y Z X' Y' Z' : Int} (hX : Cg X X') (hY : Cg Y Y') (hZ : Cg Z Z') : ∀ {p : Option (Int × Int)}, RepJ X' Y' Z' p → RepJ X Y Z p
  | none, h => hZ.d h
  | some (x, y), h => ⟨fun e => h.1 (hZ.symm.d e), (hX.trans h.2.1).trans ((Cg.refl x).mul (hZ.symm.mul hZ.symm)), (hY.trans h.2.2).trans ((Cg.refl y).mul ((hZ.symm.mul hZ.symm).mul hZ.symm))⟩

theorem repJ_th {x1 y1 x2 r h k X Y Z : Int} (hh : ¬ D h) (hk : ¬ D k) (hX : Cg X (tX x1 x2 r h * (k * k))) (hY : Cg Y (tY x1 y1 x2 r h * (k * k * k))) (hZ : Cg Z (h * k)) :
    RepJ X Y Z (some (th x1 y1 x2 r h)) := by
  have hx := th_x x1 y1 x2 r h hh
  have hy := th_y x1 y1 x2 r h hh
  have e : some (th x1 y1 x2 r h) = some ((th x1 y1 x2 r h).1, (th x1 y1 x2 r h).2) := rfl
  rw [e]
  generalize (th x1 y1 x2 r h).1 = x3 at *
  generalize (th x1 y1 x2 r h).2 = y3 at *
  refine repJ_cg hX hY hZ ⟨nd_mul hh hk, ?_, ?_⟩
  · exact (hx.symm.mul (Cg.refl _)).trans (Cg.of_eq (by grind))
  · exact (hy.symm.mul (Cg.refl _)).trans (Cg.of_eq (by grind))

/-- A point and itself, as the document reckons it. -/
def jL (X Z : Int) : Int := 3 * ((X - Z * Z) * (X + Z * Z))
def jX (X Y Z : Int) : Int := jL X Z * jL X Z - 2 * (4 * (X * (Y * Y)))
def jY (X Y Z : Int) : Int := jL X Z * (4 * (X * (Y * Y)) - jX X Y Z) - 8 * (Y * Y * (Y * Y))
def jZ (Y Z : Int) : Int := 2 * (Y * Z)

theorem repJ_twice {x y X Y Z : Int} (hp : Ok (some (x, y))) (h : RepJ X Y Z (some (x, y))) : RepJ (jX X Y Z) (jY X Y Z) (jZ Y Z) (padd (some (x, y)) (some (x, y))) := by
  have e : padd (some (x, y)) (some (x, y)) = some (th x y x (3 * x * x - 3) (2 * y)) := by unfold padd; dsimp only; rw [if_pos rfl, if_pos rfl]
  rw [e]
  have hz4 : ¬ D (Z * Z * (Z * Z)) := nd_mul (nd_mul h.1 h.1) (nd_mul h.1 h.1)
  have hX := h.2.1
  have hY := h.2.2
  have cL : Cg (jL X Z) (jL (x * (Z * Z)) Z) := by unfold jL; repeat' first | assumption | exact Cg.refl _ | apply Cg.sub | apply Cg.add | apply Cg.mul
  have cX : Cg (jX X Y Z) (jX (x * (Z * Z)) (y * (Z * Z * Z)) Z) := by unfold jX; repeat' first | assumption | exact Cg.refl _ | apply Cg.sub | apply Cg.add | apply Cg.mul
  have cY : Cg (jY X Y Z) (jY (x * (Z * Z)) (y * (Z * Z * Z)) Z) := by unfold jY; repeat' first | assumption | exact Cg.refl _ | apply Cg.sub | apply Cg.add | apply Cg.mul
  have cZ : Cg (jZ Y Z) (jZ (y * (Z * Z * Z)) Z) := by unfold jZ; repeat' first | assumption | exact Cg.refl _ | apply Cg.sub | apply Cg.add | apply Cg.mul
  refine repJ_th (k := Z * Z * (Z * Z)) (dbl_nd hp.2.2) hz4 (cX.trans (Cg.of_eq ?_)) (cY.trans (Cg.of_eq ?_)) (cZ.trans (Cg.of_eq ?_))
  · clear h hX hY cL cX cY cZ hz4 e hp; unfold jX jL tX; grind
  · clear h hX hY cL cX cY cZ hz4 e hp; unfold jY jX jL tY tX; grind
  · clear h hX hY cL cX cY cZ hz4 e hp; unfold jZ; grind

/-- Where the document's Y is 0 so is no point's. -/
theorem repJ_y {x y X Y Z : Int} (hp : Ok (some (x, y))) (h : RepJ X Y Z (some (x, y))) : ¬ D Y := fun e =>
  nd_mul (y_nd hp.2.2) (nd_mul (nd_mul h.1 h.1) h.1) (h.2.2.symm.d e)

/-- Two points' sum, as the document reckons it. -/
def kH (X1 Z1 X2 Z2 : Int) : Int := X2 * (Z1 * Z1) - X1 * (Z2 * Z2)
def kR (Y1 Z1 Y2 Z2 : Int) : Int := Y2 * (Z1 * Z1 * Z1) - Y1 * (Z2 * Z2 * Z2)
def kX (X1 Y1 Z1 X2 Y2 Z2 : Int) : Int := kR Y1 Z1 Y2 Z2 * kR Y1 Z1 Y2 Z2 - kH X1 Z1 X2 Z2 * kH X1 Z1 X2 Z2 * kH X1 Z1 X2 Z2 - 2 * (X1 * (Z2 * Z2) * (kH X1 Z1 X2 Z2 * kH X1 Z1 X2 Z2))
def kY (X1 Y1 Z1 X2 Y2 Z2 : Int) : Int := kR Y1 Z1 Y2 Z2 * (X1 * (Z2 * Z2) * (kH X1 Z1 X2 Z2 * kH X1 Z1 X2 Z2) - kX X1 Y1 Z1 X2 Y2 Z2) - Y1 * (Z2 * Z2 * Z2) * (kH X1 Z1 X2 Z2 * kH X1 Z1 X2 Z2 * kH X1 Z1 X2 Z2)
def kZ (X1 Z1 X2 Z2 : Int) : Int := kH X1 Z1 X2 Z2 * (Z1 * Z2)

theorem kH_cg {x1 y1 x2 y2 X1 Y1 Z1 X2 Y2 Z2 : Int} (h1 : RepJ X1 Y1 Z1 (some (x1, y1))) (h2 : RepJ X2 Y2 Z2 (some (x2, y2))) : Cg (kH X1 Z1 X2 Z2) ((x2 - x1) * (Z1 * Z2 * (Z1 * Z2))) := by
  have hX1 := h1.2.1
  have hX2 := h2.2.1
  have c : Cg (kH X1 Z1 X2 Z2) (kH (x1 * (Z1 * Z1)) Z1 (x2 * (Z2 * Z2)) Z2) := by unfold kH; repeat' first | assumption | exact Cg.refl _ | apply Cg.sub | apply Cg.add | apply Cg.mul
  exact c.trans (Cg.of_eq (by clear h1 h2 hX1 hX2 c; unfold kH; grind))
theorem kR_cg {x1 y1 x2 y2 X1 Y1 Z1 X2 Y2 Z2 : Int} (h1 : RepJ X1 Y1 Z1 (some (x1, y1))) (h2 : RepJ X2 Y2 Z2 (some (x2, y2))) : Cg (kR Y1 Z1 Y2 Z2) ((y2 - y1) * (Z1 * Z2 * (Z1 * Z2) * (Z1 * Z2))) := by
  have hY1 := h1.2.2
  have hY2 := h2.2.2
  have c : Cg (kR Y1 Z1 Y2 Z2) (kR (y1 * (Z1 * Z1 * Z1)) Z1 (y2 * (Z2 * Z2 * Z2)) Z2) := by unfold kR; repeat' first | assumption | exact Cg.refl _ | apply Cg.sub | apply Cg.add | apply Cg.mul
  exact c.trans (Cg.of_eq (by clear h1 h2 hY1 hY2 c; unfold kR; grind))

theorem kH_zero {x1 y1 x2 y2 X1 Y1 Z1 X2 Y2 Z2 : Int} (hp : Ok (some (x1, y1))) (hq : Ok (some (x2, y2))) (h1 : RepJ X1 Y1 Z1 (some (x1, y1))) (h2 : RepJ X2 Y2 Z2 (some (x2, y2))) : D (kH X1 Z1 X2 Z2) ↔ x1 = x2 := by
  have k0 : ¬ D (Z1 * Z2 * (Z1 * Z2)) := nd_mul (nd_mul h1.1 h2.1) (nd_mul h1.1 h2.1)
  constructor
  · intro h
    have h3 := (kH_cg h1 h2).symm.d h
    rcases h3.prod with h4 | h4
    · exact ((Cg.d_sub.1 h4).eq hq.1 hp.1).symm
    · exact absurd h4 k0
  · intro h
    subst h
    refine (kH_cg h1 h2).d ?_
    rw [Int.sub_self, Int.zero_mul]
    exact ⟨0, by omega⟩
theorem kR_zero {x1 y1 x2 y2 X1 Y1 Z1 X2 Y2 Z2 : Int} (hp : Ok (some (x1, y1))) (hq : Ok (some (x2, y2))) (h1 : RepJ X1 Y1 Z1 (some (x1, y1))) (h2 : RepJ X2 Y2 Z2 (some (x2, y2))) : D (kR Y1 Z1 Y2 Z2) ↔ y1 = y2 := by
  have k0 : ¬ D (Z1 * Z2 * (Z1 * Z2) * (Z1 * Z2)) := nd_mul (nd_mul (nd_mul h1.1 h2.1) (nd_mul h1.1 h2.1)) (nd_mul h1.1 h2.1)
  constructor
  · intro h
    have h3 := (kR_cg h1 h2).symm.d h
    rcases h3.prod with h4 | h4
    · exact ((Cg.d_sub.1 h4).eq hq.2.1 hp.2.1).symm
    · exact absurd h4 k0
  · intro h
    subst h
    refine (kR_cg h1 h2).d ?_
    rw [Int.sub_self, Int.zero_mul]
    exact ⟨0, by omega⟩

theorem repJ_sum {x1 y1 x2 y2 X1 Y1 Z1 X2 Y2 Z2 : Int} (hp : Ok (some (x1, y1))) (hq : Ok (some (x2, y2))) (h1 : RepJ X1 Y1 Z1 (some (x1, y1))) (h2 : RepJ X2 Y2 Z2 (some (x2, y2))) (hne : x1 ≠ x2) :
    RepJ (kX X1 Y1 Z1 X2 Y2 Z2) (kY X1 Y1 Z1 X2 Y2 Z2) (kZ X1 Z1 X2 Z2) (padd (some (x1, y1)) (some (x2, y2))) := by
  have e : padd (some (x1, y1)) (some (x2, y2)) = some (th x1 y1 x2 (y2 - y1) (x2 - x1)) := by unfold padd; dsimp only; rw [if_neg hne]
  rw [e]
  have k0 : ¬ D (Z1 * Z2 * (Z1 * Z2) * (Z1 * Z2)) := nd_mul (nd_mul (nd_mul h1.1 h2.1) (nd_mul h1.1 h2.1)) (nd_mul h1.1 h2.1)
  have cH := kH_cg h1 h2
  have cR' := kR_cg h1 h2
  have hX1 := h1.2.1
  have hY1 := h1.2.2
  have cX : Cg (kX X1 Y1 Z1 X2 Y2 Z2) (((y2 - y1) * (Z1 * Z2 * (Z1 * Z2) * (Z1 * Z2))) * ((y2 - y1) * (Z1 * Z2 * (Z1 * Z2) * (Z1 * Z2))) - ((x2 - x1) * (Z1 * Z2 * (Z1 * Z2))) * ((x2 - x1) * (Z1 * Z2 * (Z1 * Z2))) * ((x2 - x1) * (Z1 * Z2 * (Z1 * Z2))) - 2 * ((x1 * (Z1 * Z1)) * (Z2 * Z2) * (((x2 - x1) * (Z1 * Z2 * (Z1 * Z2))) * ((x2 - x1) * (Z1 * Z2 * (Z1 * Z2)))))) := by
    unfold kX
    repeat' first | assumption | exact Cg.refl _ | apply Cg.sub | apply Cg.add | apply Cg.mul
  have cX' : Cg (kX X1 Y1 Z1 X2 Y2 Z2) (tX x1 x2 (y2 - y1) (x2 - x1) * (Z1 * Z2 * (Z1 * Z2) * (Z1 * Z2) * (Z1 * Z2 * (Z1 * Z2) * (Z1 * Z2)))) := cX.trans (Cg.of_eq (by
    clear h1 h2 hX1 hY1 cX cH cR' e k0 hp hq hne; unfold tX; grind))
  refine repJ_th (k := Z1 * Z2 * (Z1 * Z2) * (Z1 * Z2)) (cg_ne hp.1 hq.1 hne) k0 cX' ?_ ?_
  · have cY : Cg (kY X1 Y1 Z1 X2 Y2 Z2) (((y2 - y1) * (Z1 * Z2 * (Z1 * Z2) * (Z1 * Z2))) * ((x1 * (Z1 * Z1)) * (Z2 * Z2) * (((x2 - x1) * (Z1 * Z2 * (Z1 * Z2))) * ((x2 - x1) * (Z1 * Z2 * (Z1 * Z2)))) - tX x1 x2 (y2 - y1) (x2 - x1) * (Z1 * Z2 * (Z1 * Z2) * (Z1 * Z2) * (Z1 * Z2 * (Z1 * Z2) * (Z1 * Z2)))) - (y1 * (Z1 * Z1 * Z1)) * (Z2 * Z2 * Z2) * (((x2 - x1) * (Z1 * Z2 * (Z1 * Z2))) * ((x2 - x1) * (Z1 * Z2 * (Z1 * Z2))) * ((x2 - x1) * (Z1 * Z2 * (Z1 * Z2))))) := by
      unfold kY
      repeat' first | assumption | exact Cg.refl _ | apply Cg.sub | apply Cg.add | apply Cg.mul
    refine cY.trans (Cg.of_eq ?_)
    clear h1 h2 hX1 hY1 cX cH cR' e k0 hp hq hne cX' cY
    unfold tY
    generalize tX x1 x2 (y2 - y1) (x2 - x1) = T
    grind
  · have cZ : Cg (kZ X1 Z1 X2 Z2) (((x2 - x1) * (Z1 * Z2 * (Z1 * Z2))) * (Z1 * Z2)) := by
      unfold kZ
      repeat' first | assumption | exact Cg.refl _ | apply Cg.sub | apply Cg.add | apply Cg.mul
    exact cZ.trans (Cg.of_eq (by clear h1 h2 hX1 hY1 cX cH cR' e k0 hp hq hne cX' cZ; grind))

/-- Two points that lie across from one another. -/
theorem padd_across {x y1 y2 : Int} (h : y1 ≠ y2) : padd (some (x, y1)) (some (x, y2)) = none := by
  unfold padd; dsimp only; rw [if_pos rfl, if_neg h]

/-- The coordinates that a triple stands for. -/
theorem rep_out {X Y Z x y : Int} (hp : Ok (some (x, y))) (h : Rep X Y Z (some (x, y))) {i : Int} (hi : Cg (Z * i) 1) : X * i % PP = x ∧ Y * i % PP = y := by
  constructor
  · refine Cg.eq ?_ (md_bd _) hp.1
    refine (Cg.md _).trans ((h.2.1.mul (Cg.refl i)).trans ?_)
    have := (Cg.refl x).mul hi
    rw [Int.mul_one, ← Int.mul_assoc] at this
    exact this
  · refine Cg.eq ?_ (md_bd _) hp.2.1
    refine (Cg.md _).trans ((h.2.2.mul (Cg.refl i)).trans ?_)
    have := (Cg.refl y).mul hi
    rw [Int.mul_one, ← Int.mul_assoc] at this
    exact this
theorem repJ_out {X Y Z x y : Int} (hp : Ok (some (x, y))) (h : RepJ X Y Z (some (x, y))) {i : Int} (hi : Cg (Z * i) 1) : X * (i * i) % PP = x ∧ Y * (i * i * i) % PP = y := by
  constructor
  · refine Cg.eq ?_ (md_bd _) hp.1
    refine (Cg.md _).trans ((h.2.1.mul (Cg.refl (i * i))).trans ?_)
    refine (Cg.of_eq (show x * (Z * Z) * (i * i) = x * ((Z * i) * (Z * i)) by grind)).trans ?_
    have := (Cg.refl x).mul (hi.mul hi)
    rw [Int.mul_one, Int.mul_one] at this
    exact this
  · refine Cg.eq ?_ (md_bd _) hp.2.1
    refine (Cg.md _).trans ((h.2.2.mul (Cg.refl (i * i * i))).trans ?_)
    refine (Cg.of_eq (show y * (Z * Z * Z) * (i * i * i) = y * ((Z * i) * (Z * i) * (Z * i)) by grind)).trans ?_
    have := (Cg.refl y).mul ((hi.mul hi).mul hi)
    rw [Int.mul_one, Int.mul_one, Int.mul_one] at this
    exact this

/-- So many times a point: b tells the number's bits, the highest first. -/
def pmul (b : Nat → Bool) (p : Option (Int × Int)) : Nat → Option (Int × Int)
  | 0 => none
  | i + 1 => if b i then padd (padd (pmul b p i) (pmul b p i)) p else padd (pmul b p i) (pmul b p i)
theorem pmul_ok {b : Nat → Bool} {p : Option (Int × Int)} (h : Ok p) : ∀ i, Ok (pmul b p i)
  | 0 => True.intro
  | i + 1 => by
    rw [pmul]
    have h1 := padd_ok (pmul_ok (b := b) h i) (pmul_ok (b := b) h i)
    split
    · exact padd_ok h1 h
    · exact h1
end Go.Proofs.YtnabmdpgibnkaabDoor

namespace Go.Proofs.YtnabmdpgibnkaabDoor
open Go.RowKit Go.IntWalk

theorem uu_bm : Cg (uu BM) BB := by
  have h : Cg (uu (mm BC SQ)) (uu BC * uu SQ) := uu_mm (Cg.refl _) (Cg.refl _)
  have e1 : Cg (uu SQ) RR := by
    unfold uu
    rw [← sq_def]
    refine ((Cg.md _).mul (Cg.refl RI)).trans ?_
    have := (Cg.refl RR).mul rri_cg
    rw [Int.mul_one, ← Int.mul_assoc] at this
    exact this
  have e2 : Cg (uu BC * RR) BC := by
    unfold uu
    rw [Int.mul_assoc, Int.mul_comm RI RR]
    have := (Cg.refl BC).mul rri_cg
    rw [Int.mul_one] at this
    exact this
  have e3 : BC = BB := rfl
  rw [← e3]
  exact h.trans (((Cg.refl _).mul e1).trans e2)

/-- A triple of the program's stands for a point of the curve. -/
structure RepP (x y z : Int) (p : Option (Int × Int)) : Prop where
  nx : Nb x
  ny : Nb y
  nz : Nb z
  ok : Ok p
  rep : Rep (uu x) (uu y) (uu z) p

theorem sum_rep {x1 y1 z1 x2 y2 z2 : Int} {p q : Option (Int × Int)} (hp : RepP x1 y1 z1 p) (hq : RepP x2 y2 z2 q) (w : World) :
    Calls Tryd.prog 40 #[.agg (t3 x1 y1 z1).toArray, .agg (t3 x2 y2 z2).toArray, .agg doL.toArray] w (fun e w' => ∃ x y z, e = .returned (.agg (t3 x y z).toArray) ∧ RepP x y z (padd p q) ∧ Below w.heap.size w w') := by
  obtain ⟨v24, h24⟩ : ∃ v, mm x1 x2 = v := ⟨_, rfl⟩
  obtain ⟨v31, h31⟩ : ∃ v, mm y1 y2 = v := ⟨_, rfl⟩
  obtain ⟨v38, h38⟩ : ∃ v, mm z1 z2 = v := ⟨_, rfl⟩
  obtain ⟨v48, h48⟩ : ∃ v, pa (mm x1 y2) (mm y1 x2) = v := ⟨_, rfl⟩
  obtain ⟨v58, h58⟩ : ∃ v, pa (mm x1 z2) (mm z1 x2) = v := ⟨_, rfl⟩
  obtain ⟨v68, h68⟩ : ∃ v, pa (mm y1 z2) (mm z1 y2) = v := ⟨_, rfl⟩
  obtain ⟨v76, h76⟩ : ∃ v, mm BM v38 = v := ⟨_, rfl⟩
  obtain ⟨v77, h77⟩ : ∃ v, ps v58 v76 = v := ⟨_, rfl⟩
  obtain ⟨v78, h78⟩ : ∃ v, pa (pa v77 v77) v77 = v := ⟨_, rfl⟩
  obtain ⟨v87, h87⟩ : ∃ v, mm BM v58 = v := ⟨_, rfl⟩
  obtain ⟨v89, h89⟩ : ∃ v, ps v87 v24 = v := ⟨_, rfl⟩
  obtain ⟨v92, h92⟩ : ∃ v, pa (pa v38 v38) v38 = v := ⟨_, rfl⟩
  obtain ⟨v93, h93⟩ : ∃ v, ps v89 v92 = v := ⟨_, rfl⟩
  obtain ⟨v94, h94⟩ : ∃ v, pa (pa v93 v93) v93 = v := ⟨_, rfl⟩
  obtain ⟨v100, h100⟩ : ∃ v, ps v24 v38 = v := ⟨_, rfl⟩
  obtain ⟨v101, h101⟩ : ∃ v, pa (pa v100 v100) v100 = v := ⟨_, rfl⟩
  obtain ⟨v106, h106⟩ : ∃ v, pa v31 v78 = v := ⟨_, rfl⟩
  obtain ⟨v111, h111⟩ : ∃ v, ps v31 v78 = v := ⟨_, rfl⟩
  obtain ⟨v118, h118⟩ : ∃ v, mm v48 v106 = v := ⟨_, rfl⟩
  obtain ⟨v123, h123⟩ : ∃ v, mm v68 v94 = v := ⟨_, rfl⟩
  obtain ⟨v124, h124⟩ : ∃ v, ps v118 v123 = v := ⟨_, rfl⟩
  obtain ⟨v130, h130⟩ : ∃ v, pa (mm v106 v111) (mm v101 v94) = v := ⟨_, rfl⟩
  obtain ⟨v136, h136⟩ : ∃ v, pa (mm v68 v111) (mm v48 v101) = v := ⟨_, rfl⟩
  have H := sum_core x1 y1 z1 x2 y2 z2 v24 v31 v38 v48 v58 v68 v76 v77 v78 v87 v89 v92 v93 v94 v100 v101 v106 v111 v118 v123 v124 v130 v136 hp.nx hp.ny hp.nz hq.nx hq.ny hq.nz h24 h31 h38 h48 h58 h68 h76 h77 h78 h87 h89 h92 h93 h94 h100 h101 h106 h111 h118 h123 h124 h130 h136 w
  refine H.mono ?_
  rintro e w1 ⟨rfl, LB⟩
  refine ⟨_, _, _, rfl, ⟨by rw [← h124]; exact ps_bd _ _, by rw [← h130]; exact pa_bd _ _, by rw [← h136]; exact pa_bd _ _, padd_ok hp.ok hq.ok, ?_⟩, LB⟩
  have R := rep_sum hp.ok hq.ok hp.rep hq.rep
  have c24 := h24 ▸ uu_mm (Cg.refl (uu x1)) (Cg.refl (uu x2))
  have c31 := h31 ▸ uu_mm (Cg.refl (uu y1)) (Cg.refl (uu y2))
  have c38 := h38 ▸ uu_mm (Cg.refl (uu z1)) (Cg.refl (uu z2))
  have c48 := h48 ▸ uu_pa (uu_mm (Cg.refl (uu x1)) (Cg.refl (uu y2))) (uu_mm (Cg.refl (uu y1)) (Cg.refl (uu x2)))
  have c58 := h58 ▸ uu_pa (uu_mm (Cg.refl (uu x1)) (Cg.refl (uu z2))) (uu_mm (Cg.refl (uu z1)) (Cg.refl (uu x2)))
  have c68 := h68 ▸ uu_pa (uu_mm (Cg.refl (uu y1)) (Cg.refl (uu z2))) (uu_mm (Cg.refl (uu z1)) (Cg.refl (uu y2)))
  have c76 := h76 ▸ uu_mm uu_bm c38
  have c77 := h77 ▸ uu_ps c58 c76
  have c78 := h78 ▸ uu_pa (uu_pa c77 c77) c77
  have c87 := h87 ▸ uu_mm uu_bm c58
  have c89 := h89 ▸ uu_ps c87 c24
  have c92 := h92 ▸ uu_pa (uu_pa c38 c38) c38
  have c93 := h93 ▸ uu_ps c89 c92
  have c94 := h94 ▸ uu_pa (uu_pa c93 c93) c93
  have c100 := h100 ▸ uu_ps c24 c38
  have c101 := h101 ▸ uu_pa (uu_pa c100 c100) c100
  have c106 := h106 ▸ uu_pa c31 c78
  have c111 := h111 ▸ uu_ps c31 c78
  have c118 := h118 ▸ uu_mm c48 c106
  have c123 := h123 ▸ uu_mm c68 c94
  have c124 := h124 ▸ uu_ps c118 c123
  have c130 := h130 ▸ uu_pa (uu_mm c106 c111) (uu_mm c101 c94)
  have c136 := h136 ▸ uu_pa (uu_mm c68 c111) (uu_mm c48 c101)
  clear h24 h31 h38 h48 h58 h68 h76 h77 h78 h87 h89 h92 h93 h94 h100 h101 h106 h111 h118 h123 h124 h130 h136 H LB
  clear c24 c31 c38 c48 c58 c68 c76 c77 c78 c87 c89 c92 c93 c94 c100 c101 c106 c111 c118 c123
  refine rep_cg (c124.trans (Cg.of_eq ?_)) (c130.trans (Cg.of_eq ?_)) (c136.trans (Cg.of_eq ?_)) R
  · clear c124 c130 c136 R hp hq
    generalize uu x1 = X1, uu y1 = Y1, uu z1 = Z1, uu x2 = X2, uu y2 = Y2, uu z2 = Z2, BB = b
    unfold sX
    grind
  · clear c124 c130 c136 R hp hq
    generalize uu x1 = X1, uu y1 = Y1, uu z1 = Z1, uu x2 = X2, uu y2 = Y2, uu z2 = Z2, BB = b
    unfold sY
    grind
  · clear c124 c130 c136 R hp hq
    generalize uu x1 = X1, uu y1 = Y1, uu z1 = Z1, uu x2 = X2, uu y2 = Y2, uu z2 = Z2, BB = b
    unfold sZ
    grind

end Go.Proofs.YtnabmdpgibnkaabDoor
