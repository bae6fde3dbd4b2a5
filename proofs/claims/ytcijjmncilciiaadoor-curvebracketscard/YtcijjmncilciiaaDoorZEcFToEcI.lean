/-
  What is alike modulo p; products are 0 only where one of the two is; Fermat; the curve's cubic has no root. Plain facts.
  The identities by which the complete formulas tell the sum of two points. Plain facts.
-/
import Derived.Test.YtcijjmncilciiaaDoorZCvM
import Derived.Test.YtcijjmncilciiaaDoorZPrM
import Derived.WalkKit
namespace Go.Proofs.YtcijjmncilciiaaDoor
/-- What is 0 modulo p; what is alike modulo p. -/
def D (x : Int) : Prop := PP ∣ x
def Cg (a b : Int) : Prop := PP ∣ a - b

theorem Cg.refl (a : Int) : Cg a a := ⟨0, by omega⟩
theorem Cg.symm {a b : Int} (h : Cg a b) : Cg b a := by obtain ⟨k, hk⟩ := h; exact ⟨-k, by rw [Int.mul_neg, ← hk]; omega⟩
theorem Cg.trans {a b c : Int} (h : Cg a b) (h' : Cg b c) : Cg a c := by
  obtain ⟨k, hk⟩ := h
  obtain ⟨m, hm⟩ := h'
  exact ⟨k + m, by rw [Int.mul_add, ← hk, ← hm]; omega⟩
theorem Cg.add {a b c d : Int} (h : Cg a b) (h' : Cg c d) : Cg (a + c) (b + d) := by
  obtain ⟨k, hk⟩ := h
  obtain ⟨m, hm⟩ := h'
  exact ⟨k + m, by rw [Int.mul_add, ← hk, ← hm]; omega⟩
theorem Cg.sub {a b c d : Int} (h : Cg a b) (h' : Cg c d) : Cg (a - c) (b - d) := by
  obtain ⟨k, hk⟩ := h
  obtain ⟨m, hm⟩ := h'
  exact ⟨k - m, by rw [Int.mul_sub, ← hk, ← hm]; omega⟩
theorem Cg.mul {a b c d : Int} (h : Cg a b) (h' : Cg c d) : Cg (a * c) (b * d) := by
  obtain ⟨k, hk⟩ := h
  obtain ⟨m, hm⟩ := h'
  have e1 : a = b + PP * k := by omega
  have e2 : c = d + PP * m := by omega
  subst e1 e2
  exact ⟨k * d + b * m + PP * k * m, by generalize PP = P; clear hk hm; grind⟩
theorem Cg.pow {a b : Int} (h : Cg a b) : ∀ n : Nat, Cg (a ^ n) (b ^ n)
  | 0 => by rw [Int.pow_zero, Int.pow_zero]; exact Cg.refl _
  | n + 1 => by rw [Int.pow_succ, Int.pow_succ]; exact (h.pow n).mul h
theorem Cg.of_eq {a b : Int} (h : a = b) : Cg a b := h ▸ Cg.refl a
theorem Cg.md (a : Int) : Cg (a % PP) a := ⟨-(a / PP), by have := Int.emod_add_mul_ediv a PP; rw [Int.mul_neg]; omega⟩
theorem Cg.d {a b : Int} (h : Cg a b) (hb : D b) : D a := by
  obtain ⟨k, hk⟩ := h
  obtain ⟨m, hm⟩ := hb
  exact ⟨k + m, by rw [Int.mul_add, ← hk, ← hm]; omega⟩
theorem Cg.zero {a : Int} : Cg a 0 ↔ D a := by unfold Cg D; rw [Int.sub_zero]
theorem Cg.d_sub {a b : Int} : D (a - b) ↔ Cg a b := Iff.rfl
theorem Cg.eq {a b : Int} (h : Cg a b) (ha : 0 ≤ a ∧ a < PP) (hb : 0 ≤ b ∧ b < PP) : a = b := by
  have h1 : a % PP = b % PP := Int.emod_eq_emod_iff_emod_sub_eq_zero.2 (Int.emod_eq_zero_of_dvd h)
  rw [Int.emod_eq_of_lt ha.1 ha.2, Int.emod_eq_of_lt hb.1 hb.2] at h1
  exact h1
theorem D.zero' {a : Int} (h : D a) (ha : 0 ≤ a ∧ a < PP) : a = 0 := (Cg.zero.2 h).eq ha ⟨by decide, by decide⟩
theorem D.mul_l {a : Int} (c : Int) (h : D a) : D (c * a) := Int.dvd_mul_of_dvd_right h
theorem D.mul_r {a : Int} (h : D a) (c : Int) : D (a * c) := Int.dvd_mul_of_dvd_left h
theorem D.add {a b : Int} (h : D a) (h' : D b) : D (a + b) := Int.dvd_add h h'

/-- A product is 0 only where one of the two is. -/
theorem D.prod {a b : Int} (h : D (a * b)) : D a ∨ D b := by
  have pr : Pr PN := genP.pr
  have h1 : PN ∣ a.natAbs * b.natAbs := by
    have := Int.natAbs_dvd_natAbs.2 h
    rw [Int.natAbs_mul] at this
    exact this
  by_cases ha : PN ∣ a.natAbs
  · left; exact Int.natAbs_dvd_natAbs.1 ha
  · right
    have hc := pr.cop ha
    exact Int.natAbs_dvd_natAbs.1 (hc.symm.dvd_of_dvd_mul_left h1)
theorem nd_mul {a b : Int} (ha : ¬ D a) (hb : ¬ D b) : ¬ D (a * b) := fun h => h.prod.elim ha hb
theorem Cg.cancel {a b c : Int} (hc : ¬ D c) (h : Cg (a * c) (b * c)) : Cg a b := by
  have h1 : D ((a - b) * c) := by rw [Int.sub_mul]; exact h
  exact h1.prod.elim id (fun e => absurd e hc)

/-- Fermat. -/
theorem fermat_1 (x : Int) (hx : ¬ D x) : Cg (x ^ (PN - 1)) 1 := by
  have hm := Cg.md x
  have h0 := Int.emod_nonneg x (show PP ≠ 0 by decide)
  have h1 := Int.emod_lt_of_pos x (show 0 < PP by decide)
  have hne : x % PP ≠ 0 := fun e => hx (Int.dvd_of_emod_eq_zero e)
  obtain ⟨n, hn⟩ := Int.eq_ofNat_of_zero_le h0
  have hn' : x % PP = (n : Int) := hn
  have np : 0 < n := by omega
  have nl : n < PN := by have e : (PN : Int) = PP := rfl; omega
  have F : n ^ (PN - 1) % PN = 1 := genP.fermat n np nl
  have hp : Cg (x ^ (PN - 1)) ((n : Int) ^ (PN - 1)) := by rw [← hn']; exact (hm.symm).pow _
  refine hp.trans ?_
  refine ⟨(n ^ (PN - 1) / PN : Nat), ?_⟩
  have hd := Nat.div_add_mod (n ^ (PN - 1)) PN
  rw [F] at hd
  have e : ((PN * (n ^ (PN - 1) / PN) + 1 : Nat) : Int) = ((n ^ (PN - 1) : Nat) : Int) := by rw [hd]
  rw [Int.natCast_add, Int.natCast_mul, Int.natCast_pow] at e
  have hpn : (PN : Int) = PP := rfl
  rw [hpn] at e
  have e1 : ((1 : Nat) : Int) = 1 := rfl
  omega
theorem fermat_p (x : Int) : Cg (x ^ PN) x := by
  have e : x ^ PN = x ^ (PN - 1) * x := by rw [← Int.pow_succ]; rfl
  rw [e]
  by_cases hx : D x
  · have h1 : D (x ^ (PN - 1) * x) := hx.mul_l _
    exact (Cg.zero.2 h1).trans (Cg.zero.2 hx).symm
  · have := (fermat_1 x hx).mul (Cg.refl x)
    rw [Int.one_mul] at this
    exact this

def BB : Int := 41058363725152142129326129780047268409114441015993725554835256314039467401291
def BNeg : Nat := 74733725485204106633371317169360305120971702399296588640698374994827630452660

/-- A polynomial of degree 2 at a number; a product of two, reduced by the cubic. -/
def ev (u : Nat × Nat × Nat) (x : Int) : Int := u.1 + u.2.1 * x + u.2.2 * (x * x)
def tm (u v : Nat × Nat × Nat) : Nat × Nat × Nat :=
  ((u.1 * v.1 + BNeg * (u.2.1 * v.2.2 + u.2.2 * v.2.1)) % PN,
   (u.1 * v.2.1 + u.2.1 * v.1 + 3 * (u.2.1 * v.2.2 + u.2.2 * v.2.1) + BNeg * (u.2.2 * v.2.2)) % PN,
   (u.1 * v.2.2 + u.2.1 * v.2.1 + u.2.2 * v.1 + 3 * (u.2.2 * v.2.2)) % PN)

theorem nat_md (n : Nat) : ∃ q : Int, ((n % PN : Nat) : Int) = (n : Int) - PP * q := by
  refine ⟨(n / PN : Nat), ?_⟩
  have h := Nat.div_add_mod n PN
  have e : ((PN * (n / PN) + n % PN : Nat) : Int) = (n : Int) := by rw [h]
  rw [Int.natCast_add, Int.natCast_mul] at e
  have hp : (PN : Int) = PP := rfl
  rw [hp] at e
  omega

theorem tm_ev (u v : Nat × Nat × Nat) (x : Int) (hx : D (x * x * x - 3 * x + BB)) : Cg (ev (tm u v) x) (ev u x * ev v x) := by
  obtain ⟨u0, u1, u2⟩ := u
  obtain ⟨v0, v1, v2⟩ := v
  unfold ev tm
  dsimp only
  obtain ⟨q0, e0⟩ := nat_md (u0 * v0 + BNeg * (u1 * v2 + u2 * v1))
  obtain ⟨q1, e1⟩ := nat_md (u0 * v1 + u1 * v0 + 3 * (u1 * v2 + u2 * v1) + BNeg * (u2 * v2))
  obtain ⟨q2, e2⟩ := nat_md (u0 * v2 + u1 * v1 + u2 * v0 + 3 * (u2 * v2))
  rw [e0, e1, e2]
  simp only [Int.natCast_add, Int.natCast_mul]
  have hb : ((BNeg : Nat) : Int) = PP - BB := by decide
  rw [hb]
  obtain ⟨k, hk⟩ := hx
  refine ⟨(u1 * v2 + u2 * v1) + (u2 * v2) * x - q0 - q1 * x - q2 * (x * x) - k * ((u1 * v2 + u2 * v1) + (u2 * v2) * x), ?_⟩
  have h3 : x * x * x = PP * k + 3 * x - BB := by omega
  have h4 : (u1 : Int) * v2 * (x * x * x) = u1 * v2 * (PP * k + 3 * x - BB) := by rw [h3]
  have h5 : (u2 : Int) * v1 * (x * x * x) = u2 * v1 * (PP * k + 3 * x - BB) := by rw [h3]
  have h6 : (u2 : Int) * v2 * x * (x * x * x) = u2 * v2 * x * (PP * k + 3 * x - BB) := by rw [h3]
  generalize PP = P at *
  generalize BB = b at *
  clear e0 e1 e2 hb h3 hk
  have three : ((3 : Nat) : Int) = 3 := rfl
  rw [three]
  grind

def pw3 : Nat → Nat → Nat × Nat × Nat → Nat × Nat × Nat
  | 0, _, _ => (1, 0, 0)
  | f + 1, e, u => match e % 2 with
    | 0 => pw3 f (e / 2) (tm u u)
    | _ + 1 => tm (pw3 f (e / 2) (tm u u)) u

theorem pw3_ev (x : Int) (hx : D (x * x * x - 3 * x + BB)) : ∀ f e u, e < 2 ^ f → Cg (ev (pw3 f e u) x) (ev u x ^ e)
  | 0, e, u, h => by
    have : e = 0 := by rw [Nat.pow_zero] at h; omega
    subst this
    have e1 : ev (pw3 0 0 u) x = 1 := by
      show ((1 : Nat) : Int) + ((0 : Nat) : Int) * x + ((0 : Nat) : Int) * (x * x) = 1
      simp
    rw [e1, Int.pow_zero]
    exact Cg.refl _
  | f + 1, e, u, h => by
    have h2 : e / 2 < 2 ^ f := by rw [Nat.pow_succ] at h; omega
    have IH := pw3_ev x hx f (e / 2) (tm u u) h2
    have S := (tm_ev u u x hx).pow (e / 2)
    have T := IH.trans S
    have hd := Nat.div_add_mod e 2
    rw [pw3]
    split
    · rename_i h0
      have ee : ev u x ^ e = (ev u x * ev u x) ^ (e / 2) := by
        rw [Int.mul_pow, ← Int.pow_add]
        congr 1
        omega
      rw [ee]
      exact T
    · rename_i n h0
      have ee : ev u x ^ e = (ev u x * ev u x) ^ (e / 2) * ev u x := by
        rw [Int.mul_pow, ← Int.pow_add, ← Int.pow_succ]
        congr 1
        omega
      rw [ee]
      exact (tm_ev _ u x hx).trans (T.mul (Cg.refl _))

theorem pw3_x : pw3 256 PN (0, 1, 0) = (66434390973925144466073271287821796038003695194169110494110089305650096453661, 12402202686218762177567235911775779164004716598278868847786114277539554646092, 24678849118215552148312087830792888746041224110560601850711771001608500700145) := by decide +kernel

/-- The cubic has no root. -/
theorem no_root (x : Int) : ¬ D (x * x * x - 3 * x + BB) := by
  intro hx
  have h1 := pw3_ev x hx 256 PN (0, 1, 0) (by decide)
  rw [pw3_x] at h1
  have e0 : ev (0, 1, 0) x = x := by unfold ev; simp
  rw [e0] at h1
  have h2 := (h1.trans (fermat_p x))
  unfold ev at h2
  dsimp only at h2
  obtain ⟨k, hk⟩ := hx
  obtain ⟨m, hm⟩ := h2
  have c0 : ((66434390973925144466073271287821796038003695194169110494110089305650096453661 : Nat) : Int) = 66434390973925144466073271287821796038003695194169110494110089305650096453661 := rfl
  have c1 : ((12402202686218762177567235911775779164004716598278868847786114277539554646092 : Nat) : Int) = 12402202686218762177567235911775779164004716598278868847786114277539554646092 := rfl
  have c2 : ((24678849118215552148312087830792888746041224110560601850711771001608500700145 : Nat) : Int) = 24678849118215552148312087830792888746041224110560601850711771001608500700145 := rfl
  rw [c0, c1, c2] at hm
  have hs : D 1 := by
    refine ⟨(76626890310466861426869089647039036757962535851890885406097439786770458211455 + 74462945259064871768191128030512052509059297803194871526163573358218695456204 * x + 34768139465301476436978405170953382516735956999154666452188405812258086013549 * (x * x)) * m + (107286402702237026811154678719514266289498743974321057492273529440068429825344 + 6389611969556882025875921584714237703390037729321797349080302270353162149340 * x) * k - (82006162939704079939581181709976996092266308199183309578158969013154857761758 + 53195254508055917545569285545031260419374692918778229085754047757622876704507 * x + 44254907305889426083372809061327589531002087792042969636720392495218289272808 * (x * x) + 19594268650736750401918991328041959909110035062448741686819397381038349806533 * (x * x * x) + 7410157929066101016865484023617449031630549387091645260359016622210978818695 * (x * x * x * x)), ?_⟩
    have e : (1 : Int) = (76626890310466861426869089647039036757962535851890885406097439786770458211455 + 74462945259064871768191128030512052509059297803194871526163573358218695456204 * x + 34768139465301476436978405170953382516735956999154666452188405812258086013549 * (x * x)) * (66434390973925144466073271287821796038003695194169110494110089305650096453661 + 12402202686218762177567235911775779164004716598278868847786114277539554646092 * x + 24678849118215552148312087830792888746041224110560601850711771001608500700145 * (x * x) - x) + (107286402702237026811154678719514266289498743974321057492273529440068429825344 + 6389611969556882025875921584714237703390037729321797349080302270353162149340 * x) * (x * x * x - 3 * x + BB) - PP * (82006162939704079939581181709976996092266308199183309578158969013154857761758 + 53195254508055917545569285545031260419374692918778229085754047757622876704507 * x + 44254907305889426083372809061327589531002087792042969636720392495218289272808 * (x * x) + 19594268650736750401918991328041959909110035062448741686819397381038349806533 * (x * x * x) + 7410157929066101016865484023617449031630549387091645260359016622210978818695 * (x * x * x * x)) := by
      unfold BB PP
      clear hk hm h1 e0 c0 c1 c2
      grind
    rw [e, hk, hm]
    generalize PP = P at *
    clear e hk hm h1 e0 c0 c1 c2
    grind
  have := Int.le_of_dvd (by decide) hs
  exact absurd this (by decide)

end Go.Proofs.YtcijjmncilciiaaDoor

namespace Go.Proofs.YtcijjmncilciiaaDoor
def sX (b X1 Y1 Z1 X2 Y2 Z2 : Int) : Int := (X1 * Y2 + Y1 * X2) * (Y1 * Y2 + 3 * ((X1 * Z2 + Z1 * X2) - b * (Z1 * Z2))) - (Y1 * Z2 + Z1 * Y2) * (3 * (b * (X1 * Z2 + Z1 * X2) - X1 * X2 - 3 * (Z1 * Z2)))
def sY (b X1 Y1 Z1 X2 Y2 Z2 : Int) : Int := (Y1 * Y2 + 3 * ((X1 * Z2 + Z1 * X2) - b * (Z1 * Z2))) * (Y1 * Y2 - 3 * ((X1 * Z2 + Z1 * X2) - b * (Z1 * Z2))) + 3 * (X1 * X2 - Z1 * Z2) * (3 * (b * (X1 * Z2 + Z1 * X2) - X1 * X2 - 3 * (Z1 * Z2)))
def sZ (b X1 Y1 Z1 X2 Y2 Z2 : Int) : Int := (Y1 * Z2 + Z1 * Y2) * (Y1 * Y2 - 3 * ((X1 * Z2 + Z1 * X2) - b * (Z1 * Z2))) + (X1 * Y2 + Y1 * X2) * (3 * (X1 * X2 - Z1 * Z2))

theorem sX_hom (b x1 y1 z1 x2 y2 z2 : Int) : sX b (x1 * z1) (y1 * z1) z1 (x2 * z2) (y2 * z2) z2 = sX b x1 y1 1 x2 y2 1 * (z1 * z2 * (z1 * z2)) := by unfold sX; grind
theorem sY_hom (b x1 y1 z1 x2 y2 z2 : Int) : sY b (x1 * z1) (y1 * z1) z1 (x2 * z2) (y2 * z2) z2 = sY b x1 y1 1 x2 y2 1 * (z1 * z2 * (z1 * z2)) := by unfold sY; grind
theorem sZ_hom (b x1 y1 z1 x2 y2 z2 : Int) : sZ b (x1 * z1) (y1 * z1) z1 (x2 * z2) (y2 * z2) z2 = sZ b x1 y1 1 x2 y2 1 * (z1 * z2 * (z1 * z2)) := by unfold sZ; grind

/-- The third point's X and Y, times h h and h h h. -/
def tX (x1 x2 r h : Int) : Int := r * r - (x1 + x2) * (h * h)
def tY (x1 y1 x2 r h : Int) : Int := r * (x1 * (h * h) - tX x1 x2 r h) - y1 * (h * h * h)
def cR (b x y : Int) : Int := y * y - (x * x * x - 3 * x + b)

theorem chord_x (b x1 y1 x2 y2 : Int) : sX b x1 y1 1 x2 y2 1 * ((x2 - x1) * (x2 - x1)) - tX x1 x2 (y2 - y1) (x2 - x1) * sZ b x1 y1 1 x2 y2 1 =
    (-3*x1^2*x2*y2 - 3*x1*x2^2*y1 + 3*x1*x2^2*y2 + 3*x1*y1 + 3*x1*y2 + 3*x2^3*y1 - 3*x2*y1 - 3*x2*y2 - y1^2*y2 - 2*y1*y2^2 + 3*y2^3) * cR b x1 y1 + (3*x1^3*y2 + 3*x1^2*x2*y1 - 3*x1^2*x2*y2 - 3*x1*x2^2*y1 - 3*x1*y1 - 3*x1*y2 + 3*x2*y1 + 3*x2*y2 + 3*y1^3 - 2*y1^2*y2 - y1*y2^2) * cR b x2 y2 := by
  unfold sX sZ tX cR; grind
theorem chord_y (b x1 y1 x2 y2 : Int) : sY b x1 y1 1 x2 y2 1 * ((x2 - x1) * (x2 - x1) * (x2 - x1)) - tY x1 y1 x2 (y2 - y1) (x2 - x1) * sZ b x1 y1 1 x2 y2 1 =
    (-9*b*x1^3 + 27*b*x1^2*x2 - 27*b*x1*x2^2 + 9*b*x2^3 - 9*x1^3*x2^3 + 27*x1^3*x2 + 9*x1^3*y2^2 + 18*x1^2*x2^4 - 63*x1^2*x2^2 - 3*x1^2*x2*y1*y2 - 12*x1^2*x2*y2^2 - 9*x1^2 - 9*x1*x2^5 + 45*x1*x2^3 - 3*x1*x2^2*y1^2 + 6*x1*x2^2*y1*y2 + 18*x1*x2 + 3*x1*y1^2 - 3*x1*y2^2 - 9*x2^4 + 3*x2^3*y1^2 - 3*x2^3*y1*y2 + 3*x2^3*y2^2 - 9*x2^2 - 3*x2*y1^2 + 3*x2*y2^2 - y1^3*y2 - y1^2*y2^2 + 5*y1*y2^3 - 3*y2^4) * cR b x1 y1 + (9*x1^6 - 18*x1^5*x2 + 9*x1^4*x2^2 - 18*x1^4 + 36*x1^3*x2 - 12*x1^3*y1^2 + 3*x1^3*y1*y2 - 3*x1^3*y2^2 - 18*x1^2*x2^2 + 27*x1^2*x2*y1^2 - 6*x1^2*x2*y1*y2 + 3*x1^2*x2*y2^2 + 9*x1^2 - 15*x1*x2^2*y1^2 + 3*x1*x2^2*y1*y2 - 18*x1*x2 - 3*x1*y1^2 + 3*x1*y2^2 + 9*x2^2 + 3*x2*y1^2 - 3*x2*y2^2 + 3*y1^4 - 5*y1^3*y2 + y1^2*y2^2 + y1*y2^3) * cR b x2 y2 := by
  unfold sY sZ tY tX cR; grind
theorem chord_z (b x1 y1 x2 y2 : Int) : sZ b x1 y1 1 x2 y2 1 - tY x1 y1 x2 (-y2 - y1) (x2 - x1) = (-y1 - 2*y2) * cR b x1 y1 + (-2*y1 - y2) * cR b x2 y2 := by
  unfold sZ tY tX cR; grind
theorem chord_on (b x1 y1 x2 y2 : Int) : tY x1 y1 x2 (y2 - y1) (x2 - x1) * tY x1 y1 x2 (y2 - y1) (x2 - x1) - (tX x1 x2 (y2 - y1) (x2 - x1) * tX x1 x2 (y2 - y1) (x2 - x1) * tX x1 x2 (y2 - y1) (x2 - x1) - 3 * tX x1 x2 (y2 - y1) (x2 - x1) * (x2 - x1)^4 + b * (x2 - x1)^6) =
    (-(x1 - x2)^3*(x1^3 - 3*x1*x2^2 + 2*x2^3 - y1^2 + 2*y1*y2 - y2^2)) * cR b x1 y1 + ((x1 - x2)^3*(2*x1^3 - 3*x1^2*x2 + x2^3 - y1^2 + 2*y1*y2 - y2^2)) * cR b x2 y2 := by
  unfold tY tX cR; grind
theorem tan_z (b x y : Int) : sZ b x y 1 x y 1 - (2 * y) * (2 * y) * (2 * y) = (-6*y) * cR b x y := by unfold sZ cR; grind
theorem tan_x (b x y : Int) : sX b x y 1 x y 1 * ((2 * y) * (2 * y)) - tX x x (3 * x * x - 3) (2 * y) * sZ b x y 1 x y 1 = (6*y*(9*x^4 - 18*x^2 + 4*x*y^2 + 9)) * cR b x y := by unfold sX sZ tX cR; grind
theorem tan_y (b x y : Int) : sY b x y 1 x y 1 * ((2 * y) * (2 * y) * (2 * y)) - tY x y x (3 * x * x - 3) (2 * y) * sZ b x y 1 x y 1 = (-6*y*(-12*b*y^2 + 27*x^6 - 81*x^4 + 81*x^2 + 24*x*y^2 - 4*y^4 - 27)) * cR b x y := by unfold sY sZ tY tX cR; grind
theorem tan_on (b x y : Int) : tY x y x (3 * x * x - 3) (2 * y) * tY x y x (3 * x * x - 3) (2 * y) - (tX x x (3 * x * x - 3) (2 * y) * tX x x (3 * x * x - 3) (2 * y) * tX x x (3 * x * x - 3) (2 * y) - 3 * tX x x (3 * x * x - 3) (2 * y) * (2 * y)^4 + b * (2 * y)^6) = (64*y^6) * cR b x y := by unfold tY tX cR; grind
theorem across_x (b x y : Int) : sX b x y 1 x (-y) 1 = 0 := by unfold sX; grind
theorem across_z (b x y : Int) : sZ b x y 1 x (-y) 1 = 0 := by unfold sZ; grind
theorem across_y (b x y : Int) : sY b x y 1 x (-y) 1 - tY x y x (3 * x * x - 3) (2 * y) = (-9*(-b + 3*x^3 - x - y^2)) * cR b x y := by unfold sY tY tX cR; grind
end Go.Proofs.YtcijjmncilciiaaDoor
