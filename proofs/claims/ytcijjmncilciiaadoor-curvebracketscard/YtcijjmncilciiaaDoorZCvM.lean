/-
  Numbers modulo the curve's p, as both sides reckon them: 256 bits, products divided by 2^256. Plain facts.
-/
import Derived.WalkKit
namespace Go.Proofs.YtcijjmncilciiaaDoor

def PP : Int := 115792089210356248762697446949407573530086143415290314195533631308867097853951
def RR : Int := 115792089237316195423570985008687907853269984665640564039457584007913129639936
def RI : Int := 115792089183396302114378112356516095823261736990586219612555396166510339686400
def ONE : Int := 26959946660873538059280334323183841250350249843923952699046031785985
def SQ : Int := 134799733323198995502561713907086292154532538166959272814710328655875

theorem PP_pos : (0 : Int) < PP := by decide
theorem PP_RR : PP < RR := by decide
theorem RR_PP2 : RR < 2 * PP := by decide
theorem rri : RR * RI % PP = 1 := by decide
theorem one_def : RR % PP = ONE := by decide
theorem sq_def : RR * RR % PP = SQ := by decide

/-- A product, divided by 2^256; a sum; a difference. -/
def mm (x y : Int) : Int := x * y * RI % PP
def pa (x y : Int) : Int := (x + y) % PP
def ps (x y : Int) : Int := (x - y) % PP

theorem md_bd (x : Int) : 0 ≤ x % PP ∧ x % PP < PP := ⟨Int.emod_nonneg _ (by decide), Int.emod_lt_of_pos _ PP_pos⟩
theorem mm_bd (x y : Int) : 0 ≤ mm x y ∧ mm x y < PP := md_bd _
theorem pa_bd (x y : Int) : 0 ≤ pa x y ∧ pa x y < PP := md_bd _
theorem ps_bd (x y : Int) : 0 ≤ ps x y ∧ ps x y < PP := md_bd _

/-- What has the same rest is the same. -/
theorem md_eq {x y : Int} (k : Int) (h : x = y + PP * k) : x % PP = y % PP := by rw [h, Int.add_mul_emod_self_left]

/-- The reckoning's end: S times 2^256 is the product and some p; below 2 p. -/
theorem mm_of {S x y m : Int} (h : S * RR = x * y + PP * m) : S % PP = mm x y := by
  unfold mm
  have e : S * RR * RI = x * y * RI + PP * (m * RI) := by rw [h]; grind
  have h1 : (S * RR * RI) % PP = x * y * RI % PP := md_eq _ e
  rw [← h1, Int.mul_assoc, Int.mul_emod, rri, Int.mul_one, Int.emod_emod_of_dvd _ (Int.dvd_refl _)]

theorem mm_mod_l (x y : Int) : mm (x % PP) y = mm x y := by
  unfold mm
  rw [Int.mul_assoc, Int.mul_assoc, Int.mul_emod (x % PP), Int.emod_emod_of_dvd _ (Int.dvd_refl _), ← Int.mul_emod]
theorem mm_comm (x y : Int) : mm x y = mm y x := by unfold mm; rw [Int.mul_comm x y]
theorem mm_mod_r (x y : Int) : mm x (y % PP) = mm x y := by rw [mm_comm, mm_mod_l, mm_comm]

theorem mm_rr (x : Int) : mm x RR = x % PP := by
  unfold mm
  rw [Int.mul_assoc, Int.mul_emod, rri, Int.mul_one, Int.emod_emod_of_dvd _ (Int.dvd_refl _)]
theorem mm_one (x : Int) : mm x ONE = x % PP := by rw [← one_def, mm_mod_r, mm_rr]

theorem mm_assoc (x y z : Int) : mm (mm x y) z = mm x (mm y z) := by
  have e1 : mm (mm x y) z = mm (x * y * RI) z := mm_mod_l _ _
  have e2 : mm x (mm y z) = mm x (y * z * RI) := mm_mod_r _ _
  rw [e1, e2]
  unfold mm
  congr 1
  grind

/-- Lifted and lowered again. -/
theorem mm_sq (x : Int) : mm (mm x SQ) 1 = x % PP := by
  have e : mm x SQ = mm x (RR * RR) := by rw [← sq_def, mm_mod_r]
  have e2 : mm x (RR * RR) = (x * RR) % PP := by
    unfold mm
    rw [show x * (RR * RR) * RI = x * RR * (RR * RI) by grind, Int.mul_emod, rri, Int.mul_one, Int.emod_emod_of_dvd _ (Int.dvd_refl _)]
  rw [e, e2, mm_mod_l]
  unfold mm
  rw [Int.mul_one, Int.mul_assoc, Int.mul_emod, rri, Int.mul_one, Int.emod_emod_of_dvd _ (Int.dvd_refl _)]

theorem mm_ps (x y z : Int) : mm (ps x y) z = ps (mm x z) (mm y z) := by
  unfold ps
  rw [mm_mod_l]
  unfold mm
  rw [← Int.sub_emod]
  congr 1
  grind
theorem mm_pa (x y z : Int) : mm (pa x y) z = pa (mm x z) (mm y z) := by
  unfold pa
  rw [mm_mod_l]
  unfold mm
  rw [← Int.add_emod]
  congr 1
  grind

/-- Powers. -/
def mpw (x : Int) : Nat → Int
  | 0 => ONE
  | n + 1 => mm (mpw x n) x
theorem mpw_bd (x : Int) : ∀ n, 0 ≤ mpw x n ∧ mpw x n < PP
  | 0 => by show 0 ≤ ONE ∧ ONE < PP; decide
  | n + 1 => mm_bd _ _
theorem mpw_add (x : Int) (m : Nat) : ∀ n, mm (mpw x m) (mpw x n) = mpw x (m + n)
  | 0 => by rw [mpw, mm_one]; exact Int.emod_eq_of_lt (mpw_bd x m).1 (mpw_bd x m).2
  | n + 1 => by rw [mpw, ← mm_assoc, mpw_add x m n]; rfl
theorem mpw_one : ∀ n, mpw ONE n = ONE
  | 0 => rfl
  | n + 1 => by rw [mpw, mpw_one n, mm_one]; decide


/-- The four words of a number. -/
def W4 (x : Int) : List Int := [x % 18446744073709551616, x / 18446744073709551616 % 18446744073709551616, x / 18446744073709551616 / 18446744073709551616 % 18446744073709551616, x / 18446744073709551616 / 18446744073709551616 / 18446744073709551616 % 18446744073709551616]

def is64 (x : Int) : Prop := 0 ≤ x ∧ x < 18446744073709551616

/-- What four words say. -/
def V4 (a0 a1 a2 a3 : Int) : Int := a0 + 18446744073709551616 * a1 + 340282366920938463463374607431768211456 * a2 + 6277101735386680763835789423207666416102355444464034512896 * a3

theorem W4_of (a0 a1 a2 a3 : Int) (h0 : is64 a0) (h1 : is64 a1) (h2 : is64 a2) (h3 : is64 a3) : W4 (V4 a0 a1 a2 a3) = [a0, a1, a2, a3] := by
  unfold is64 at *
  unfold W4 V4
  simp only [List.cons.injEq, and_true]
  refine ⟨?_, ?_, ?_, ?_⟩ <;> omega

theorem W4_at (x : Int) (h : 0 ≤ x) (h' : x < RR) : ∃ a0 a1 a2 a3 : Int, is64 a0 ∧ is64 a1 ∧ is64 a2 ∧ is64 a3 ∧ x = V4 a0 a1 a2 a3 := by
  unfold RR at h'
  refine ⟨x % 18446744073709551616, x / 18446744073709551616 % 18446744073709551616, x / 18446744073709551616 / 18446744073709551616 % 18446744073709551616, x / 18446744073709551616 / 18446744073709551616 / 18446744073709551616 % 18446744073709551616, ?_, ?_, ?_, ?_, ?_⟩
  · unfold is64; omega
  · unfold is64; omega
  · unfold is64; omega
  · unfold is64; omega
  · unfold V4; omega

theorem V4_bd (a0 a1 a2 a3 : Int) (h0 : is64 a0) (h1 : is64 a1) (h2 : is64 a2) (h3 : is64 a3) : 0 ≤ V4 a0 a1 a2 a3 ∧ V4 a0 a1 a2 a3 < RR := by
  unfold is64 at *
  unfold V4 RR
  omega

/-- Four words that say a number of the field. -/
structure Nw (a0 a1 a2 a3 x : Int) : Prop where
  i0 : is64 a0
  i1 : is64 a1
  i2 : is64 a2
  i3 : is64 a3
  v : V4 a0 a1 a2 a3 = x
  l : x < PP

theorem Nw.pos {a0 a1 a2 a3 x : Int} (h : Nw a0 a1 a2 a3 x) : 0 ≤ x := by rw [← h.v]; exact (V4_bd _ _ _ _ h.i0 h.i1 h.i2 h.i3).1

theorem V4_inj {a0 a1 a2 a3 b0 b1 b2 b3 : Int} (h0 : is64 a0) (h1 : is64 a1) (h2 : is64 a2) (k0 : is64 b0) (k1 : is64 b1) (k2 : is64 b2) (h : V4 a0 a1 a2 a3 = V4 b0 b1 b2 b3) : a0 = b0 ∧ a1 = b1 ∧ a2 = b2 ∧ a3 = b3 := by
  unfold is64 V4 at *
  omega

/-- The rest modulo p of what is below 2 p, by words. -/
theorem below_words (s0 s1 s2 s3 top r0 r1 r2 r3 b0 b1 b2 b3 : Int) (h0 : is64 s0) (h1 : is64 s1) (h2 : is64 s2) (h3 : is64 s3) (ht : 0 ≤ top)
    (hv : V4 s0 s1 s2 s3 + RR * top < 2 * PP)
    (e0 : r0 = (s0 - 18446744073709551615) % 18446744073709551616) (c0 : b0 = if s0 < 18446744073709551615 then 1 else 0)
    (e1 : r1 = (s1 - 4294967295 - b0) % 18446744073709551616) (c1 : b1 = if s1 < 4294967295 + b0 then 1 else 0)
    (e2 : r2 = (s2 - 0 - b1) % 18446744073709551616) (c2 : b2 = if s2 < 0 + b1 then 1 else 0)
    (e3 : r3 = (s3 - 18446744069414584321 - b2) % 18446744073709551616) (c3 : b3 = if s3 < 18446744069414584321 + b2 then 1 else 0) :
    (top < b3 → Nw s0 s1 s2 s3 ((V4 s0 s1 s2 s3 + RR * top) % PP)) ∧ (¬ top < b3 → Nw r0 r1 r2 r3 ((V4 s0 s1 s2 s3 + RR * top) % PP)) := by
  unfold is64 at *
  have g0 : is64 r0 ∧ (b0 = 0 ∨ b0 = 1) ∧ r0 = s0 - 18446744073709551615 + 18446744073709551616 * b0 := by unfold is64; split at c0 <;> omega
  have g1 : is64 r1 ∧ (b1 = 0 ∨ b1 = 1) ∧ r1 = s1 - 4294967295 - b0 + 18446744073709551616 * b1 := by unfold is64; split at c1 <;> omega
  have g2 : is64 r2 ∧ (b2 = 0 ∨ b2 = 1) ∧ r2 = s2 - b1 + 18446744073709551616 * b2 := by unfold is64; split at c2 <;> omega
  have g3 : is64 r3 ∧ (b3 = 0 ∨ b3 = 1) ∧ r3 = s3 - 18446744069414584321 - b2 + 18446744073709551616 * b3 := by unfold is64; split at c3 <;> omega
  clear e0 e1 e2 e3 c0 c1 c2 c3
  obtain ⟨k0, l0, m0⟩ := g0
  obtain ⟨k1, l1, m1⟩ := g1
  obtain ⟨k2, l2, m2⟩ := g2
  obtain ⟨k3, l3, m3⟩ := g3
  have hr : V4 r0 r1 r2 r3 = V4 s0 s1 s2 s3 - PP + RR * b3 := by unfold V4 PP RR; omega
  have hr0 := V4_bd r0 r1 r2 r3 k0 k1 k2 k3
  have hs0 := V4_bd s0 s1 s2 s3 h0 h1 h2 h3
  constructor
  · intro h
    have e : (V4 s0 s1 s2 s3 + RR * top) % PP = V4 s0 s1 s2 s3 := by
      have : top = 0 := by omega
      subst this
      rw [Int.mul_zero, Int.add_zero]
      refine Int.emod_eq_of_lt hs0.1 ?_
      have : b3 = 1 := by omega
      subst this
      omega
    exact ⟨h0, h1, h2, h3, e.symm, (md_bd _).2⟩
  · intro h
    have e : (V4 s0 s1 s2 s3 + RR * top) % PP = V4 r0 r1 r2 r3 := by
      have hb : RR * top = RR * b3 := by
        have : top = b3 := by
          unfold PP RR at *
          omega
        rw [this]
      have hx : V4 s0 s1 s2 s3 + RR * top = V4 r0 r1 r2 r3 + PP * 1 := by omega
      rw [hx, Int.add_mul_emod_self_left]
      exact Int.emod_eq_of_lt hr0.1 (by omega)
    exact ⟨k0, k1, k2, k3, e.symm, (md_bd _).2⟩

/-- A quotient and a rest. -/
theorem dm {x q r : Int} (hr : r = x % 18446744073709551616) (hq : q = x / 18446744073709551616) (h0 : 0 ≤ x) (h1 : x < 340282366920938463463374607431768211456) : 18446744073709551616 * q + r = x ∧ is64 q ∧ is64 r := by unfold is64; omega

theorem times_key (s0 s1 s2 s3 top x0 x1 x2 x3 t0 t1 t2 t3 o0 o1 o2 o3 u0 u1 u2 u3 q0 q1 q2 v : Int)
    (m0 : 18446744073709551616 * o0 + t0 = x0 + s0 + 0) (m1 : 18446744073709551616 * o1 + t1 = x1 + s1 + o0) (m2 : 18446744073709551616 * o2 + t2 = x2 + s2 + o1) (m3 : 18446744073709551616 * o3 + t3 = x3 + s3 + o2)
    (n0 : 18446744073709551616 * q0 + u0 = 4294967295 * t0 + t1 + t0) (n1 : 18446744073709551616 * q1 + u1 = 0 * t0 + t2 + q0) (n2 : 18446744073709551616 * q2 + u2 = 18446744069414584321 * t0 + t3 + q1) (n3 : 18446744073709551616 * v + u3 = top + o3 + q2) :
    18446744073709551616 * (V4 u0 u1 u2 u3 + RR * v) = V4 s0 s1 s2 s3 + RR * top + (x0 + 18446744073709551616 * x1 + 340282366920938463463374607431768211456 * x2 + 6277101735386680763835789423207666416102355444464034512896 * x3) + PP * t0 ∧
    V4 s0 s1 s2 s3 + RR * top + (x0 + 18446744073709551616 * x1 + 340282366920938463463374607431768211456 * x2 + 6277101735386680763835789423207666416102355444464034512896 * x3) = V4 t0 t1 t2 t3 + RR * (top + o3) := by
  unfold V4 RR PP
  constructor <;> omega

theorem times_top (T S k : Int) (h : S = T + RR * k) (hT : 0 ≤ T) (hS : S < PP * 18446744073709551617) : k < 18446744073709551616 := by
  unfold PP RR at *
  omega

theorem times_low (S' X t : Int) (h : 18446744073709551616 * S' = X + PP * t) (hX : X < PP * 18446744073709551617) (ht : t < 18446744073709551616) : S' < 2 * PP := by
  unfold PP at *
  omega

theorem div_last {x v u : Int} (hu : u = x % 18446744073709551616) (hv : v = x / 18446744073709551616) (h : 0 ≤ x) : 18446744073709551616 * v + u = x ∧ 0 ≤ v ∧ is64 u := by unfold is64; omega

theorem sum_bd (Z X : Int) (h : X ≤ (PP - 1) * 18446744073709551615) (hZ : Z < 2 * PP) : Z + X < PP * 18446744073709551617 := by
  unfold PP at *; omega

theorem mul_is64 {y z : Int} (hy : is64 y) (hz : is64 z) : 0 ≤ y * z ∧ y * z ≤ 340282366920938463426481119284349108225 := by
  refine ⟨Int.mul_nonneg hy.1 hz.1, ?_⟩
  have := Int.mul_le_mul (show y ≤ 18446744073709551615 by have := hy.2; omega) (show z ≤ 18446744073709551615 by have := hz.2; omega) hz.1 (by omega : (0 : Int) ≤ 18446744073709551615)
  simpa using this

theorem fused_bd {x y z : Int} (h : 0 ≤ x ∧ x ≤ 340282366920938463426481119284349108225) (hy : is64 y) (hz : is64 z) : 0 ≤ x + y + z ∧ x + y + z < 340282366920938463463374607431768211456 := by
  unfold is64 at *; omega

/-- One word's round of a product. -/
theorem times_round (s0 s1 s2 s3 top a0 a1 a2 a3 w x0 x1 x2 x3 : Int) (h0 : is64 s0) (h1 : is64 s1) (h2 : is64 s2) (h3 : is64 s3) (ht : 0 ≤ top)
    (ha : is64 a0) (hb : is64 a1) (hc : is64 a2) (hd : is64 a3) (hw : is64 w) (hA : V4 a0 a1 a2 a3 < PP) (hV : V4 s0 s1 s2 s3 + RR * top < 2 * PP)
    (e0 : x0 = a0 * w) (e1 : x1 = a1 * w) (e2 : x2 = a2 * w) (e3 : x3 = a3 * w)
    (t0 t1 t2 t3 o0 o1 o2 o3 u0 u1 u2 u3 q0 q1 q2 v : Int)
    (i0 : t0 = (x0 + s0 + 0) % 18446744073709551616) (j0 : o0 = (x0 + s0 + 0) / 18446744073709551616)
    (i1 : t1 = (x1 + s1 + o0) % 18446744073709551616) (j1 : o1 = (x1 + s1 + o0) / 18446744073709551616)
    (i2 : t2 = (x2 + s2 + o1) % 18446744073709551616) (j2 : o2 = (x2 + s2 + o1) / 18446744073709551616)
    (i3 : t3 = (x3 + s3 + o2) % 18446744073709551616) (j3 : o3 = (x3 + s3 + o2) / 18446744073709551616)
    (k0 : u0 = (4294967295 * t0 + t1 + t0) % 18446744073709551616) (l0 : q0 = (4294967295 * t0 + t1 + t0) / 18446744073709551616)
    (k1 : u1 = (0 * t0 + t2 + q0) % 18446744073709551616) (l1 : q1 = (0 * t0 + t2 + q0) / 18446744073709551616)
    (k2 : u2 = (18446744069414584321 * t0 + t3 + q1) % 18446744073709551616) (l2 : q2 = (18446744069414584321 * t0 + t3 + q1) / 18446744073709551616)
    (k3 : u3 = (top + o3 + q2) % 18446744073709551616) (l3 : v = (top + o3 + q2) / 18446744073709551616) :
    18446744073709551616 * (V4 u0 u1 u2 u3 + RR * v) = V4 s0 s1 s2 s3 + RR * top + V4 a0 a1 a2 a3 * w + PP * t0 ∧ V4 u0 u1 u2 u3 + RR * v < 2 * PP ∧ is64 (top + o3) ∧ is64 o0 ∧ is64 o1 ∧ is64 o2 ∧ is64 o3 ∧ is64 t0 ∧ is64 t1 ∧ is64 t2 ∧ is64 t3 ∧ is64 u0 ∧ is64 u1 ∧ is64 u2 ∧ is64 u3 ∧ is64 q0 ∧ is64 q1 ∧ is64 q2 ∧ 0 ≤ v := by
  have hprod : V4 a0 a1 a2 a3 * w = x0 + 18446744073709551616 * x1 + 340282366920938463463374607431768211456 * x2 + 6277101735386680763835789423207666416102355444464034512896 * x3 := by
    rw [e0, e1, e2, e3]; unfold V4; grind
  have hAw : V4 a0 a1 a2 a3 * w ≤ (PP - 1) * 18446744073709551615 := by
    refine Int.mul_le_mul (by omega) ?_ hw.1 (by unfold PP; omega)
    have := hw.2; omega
  have z0 : is64 0 := ⟨by omega, by omega⟩
  have y0 := mul_is64 ha hw
  have y1 := mul_is64 hb hw
  have y2 := mul_is64 hc hw
  have y3 := mul_is64 hd hw
  rw [← e0] at y0
  rw [← e1] at y1
  rw [← e2] at y2
  rw [← e3] at y3
  rw [hprod] at hAw ⊢
  have f0 := fused_bd y0 h0 z0
  obtain ⟨m0, p0, r0⟩ := dm i0 j0 f0.1 f0.2
  have f1 := fused_bd y1 h1 p0
  obtain ⟨m1, p1, r1⟩ := dm i1 j1 f1.1 f1.2
  have f2 := fused_bd y2 h2 p1
  obtain ⟨m2, p2, r2⟩ := dm i2 j2 f2.1 f2.2
  have f3 := fused_bd y3 h3 p2
  obtain ⟨m3, p3, r3⟩ := dm i3 j3 f3.1 f3.2
  have c1 : is64 4294967295 := ⟨by omega, by omega⟩
  have c3 : is64 18446744069414584321 := ⟨by omega, by omega⟩
  have g0 := fused_bd (mul_is64 c1 r0) r1 r0
  obtain ⟨n0, a0', b0'⟩ := dm k0 l0 g0.1 g0.2
  have g1 := fused_bd (mul_is64 z0 r0) r2 a0'
  obtain ⟨n1, a1', b1'⟩ := dm k1 l1 g1.1 g1.2
  have g2 := fused_bd (mul_is64 c3 r0) r3 a1'
  obtain ⟨n2, a2', b2'⟩ := dm k2 l2 g2.1 g2.2
  obtain ⟨n3, hv0, hu3⟩ := div_last k3 l3 (Int.add_nonneg (Int.add_nonneg ht p3.1) a2'.1)
  obtain ⟨key, sums⟩ := times_key s0 s1 s2 s3 top x0 x1 x2 x3 t0 t1 t2 t3 o0 o1 o2 o3 u0 u1 u2 u3 q0 q1 q2 v m0 m1 m2 m3 n0 n1 n2 n3
  have hS : V4 s0 s1 s2 s3 + RR * top + (x0 + 18446744073709551616 * x1 + 340282366920938463463374607431768211456 * x2 + 6277101735386680763835789423207666416102355444464034512896 * x3) < PP * 18446744073709551617 := by
    exact sum_bd _ _ hAw hV
  have htop := times_top _ _ _ sums (V4_bd _ _ _ _ r0 r1 r2 r3).1 hS
  exact ⟨key, times_low _ _ _ key hS r0.2, ⟨Int.add_nonneg ht p3.1, htop⟩, p0, p1, p2, p3, r0, r1, r2, r3, b0', b1', b2', hu3, a0', a1', a2', hv0⟩

/-- The whole of a product's rounds. -/
theorem times_inv (S S' A w l M m Bi : Int) (h : 18446744073709551616 * S' = S + A * w + PP * l) (hi : S * Bi = A * M + PP * m) : S' * (18446744073709551616 * Bi) = A * (M + w * Bi) + PP * (m + l * Bi) := by
  have : S' * (18446744073709551616 * Bi) = (18446744073709551616 * S') * Bi := by grind
  rw [this, h]
  grind

end Go.Proofs.YtcijjmncilciiaaDoor
